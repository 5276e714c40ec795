import Derived.Test.YteaddcdpgcgggaaGreatDoorJoint03
import Derived.Test.YteaddcdpgcgggaaGreatDoorJoint02
namespace Go.Proofs.YteaddcdpgcgggaaGreatDoor
set_option linter.unusedVariables false
set_option maxRecDepth 100000
set_option maxHeartbeats 40000000
section
open Go.ChangeShapes Go.WideShapes Go.ChangeAt Go.RowKit
def U7(w:World)(rb:Nat)(A:Option Addr)(C:Nat)(ts:zL)(i en:Nat)(bad:Int)(p:Tk→Bool)(e:Ending)(w':World):Prop:=∃(i':Nat) (bad':Int) (x:Tk×Nat),e= .returned (.agg (vG x.1 x.2))∧jQ w rb A C ts i en w' i' bad'∧qF bad (qi p en (ts.drop i)) ts x i' bad'∧(x ∈ ts∨x=(⟨0,[],0⟩,0))
theorem Kp.drew{p:Nat}{w w':World}(h:Kp p w w'):Kp p w w'.drew:=⟨h.os,h.tape,h.output,h.size,h.block⟩
theorem zm.oth4{w:World}{g g' t:Nat}{cs:Array Value}(h:zm w g t cs)(hne:g≠g')(x0 x1 x2 x3:Value):zm ((((w.setCell ⟨g',0,none⟩ x0).setCell ⟨g',1,none⟩ x1).setCell ⟨g',2,none⟩ x2).setCell ⟨g',3,none⟩ x3) g t cs:=
 (((h.other (p:=⟨g',0,none⟩) hne x0).other (p:=⟨g',1,none⟩) hne x1).other (p:=⟨g',2,none⟩) hne x2).other (p:=⟨g',3,none⟩) hne x3
theorem Za{w:World}{rb:Nat}{A:Option Addr}{C:Nat}{ts:zL}{i en:Nat}{bad k:Int}(h:zT w rb A C ts i en bad k)(K:Nat):Calls Tryz.prog 30 #[.pointer (some ⟨rb,0,none⟩),.int .i64 (K:Nat)] w (U7 w rb A C ts i en bad (ZA K)):=by
 have c0:=h.has.cell 0;have c1:=h.has.cell 1;have c3:=h.has.cell 3;simp only[qH,qG,qI]at c0 c1 c3;have hlt:=h.has.lt;have hf:=h.few;have hle:=h.le;have h':=h.kp (zl w (.cells #[.int .i64 0,.string ⟨#[]⟩,.int .i64 0,.int .i64 0] 78));have hT:=zm.new w 78 #[.int .i64 0,.string ⟨#[]⟩,.int .i64 0,.int .i64 0];have fin:∀(w1:World) (bad':Int) (k':Int),bad'≠0→(bad≠0∨vf (ZA K) (ts.drop i)=false)→zT w1 rb A C ts i en bad' k'→Kp rb (w.alloc (.cells #[.int .i64 0,.string ⟨#[]⟩,.int .i64 0,.int .i64 0] 78)) w1→U7 w rb A C ts i en bad (ZA K) (.returned (.agg (vG (⟨0,[],0⟩:Tk) 0))) w1:=λw1 bad' k' hb hc hr hk=>⟨i,bad',(⟨0,[],0⟩,0),rfl,jQ.of (Nat.le_refl _) (Zq hk) hr,Qo hc hb _ _,.inr rfl⟩
 have c0':=za (zl w (.cells #[.int .i64 0,.string ⟨#[]⟩,.int .i64 0,.int .i64 0] 78)) c0;have c1':=za (zl w (.cells #[.int .i64 0,.string ⟨#[]⟩,.int .i64 0,.int .i64 0] 78)) c1;have c3':=za (zl w (.cells #[.int .i64 0,.string ⟨#[]⟩,.int .i64 0,.int .i64 0] 78)) c3;by_cases hs:bad=0∧∃hi:i<ts.length,ts[i].1.kind=K
 ·obtain⟨rfl,hi,hk⟩:=hs
  obtain⟨g,off,rfl,hg,hne,htk0⟩:=h.tok i hi;have htk:=htk0.kp (Kp.of (p:=rb) (zl w (.cells #[.int .i64 0,.string ⟨#[]⟩,.int .i64 0,.int .i64 0] 78))) hne hg;have t0:=htk i hi 0 (by decide);have t1:=htk i hi 1 (by decide);have t2:=htk i hi 2 (by decide);have t3:=htk i hi 3 (by decide);have hx:ts[i] ∈ ts:=List.getElem_mem hi;have hp:ZA K ts[i].1=true:=by simp[ZA,hk]
  have hTell:=Qm (en:=en) hi hp;have hq:∀W,zm W rb 49 #[.slice (some ⟨g,off,none⟩) ts.length C,.int .i64 ((i:Int)+1),.int .i64 (en:Nat),.int .i64 0,.int .i64 k]→Kp rb w W→U7 w rb (some ⟨g,off,none⟩) C ts i en 0 (ZA K) (.returned (.agg (vG ts[i].1 ts[i].2))) W:=λW hW hkp=>⟨i+1,0,ts[i],rfl,⟨by omega,by omega,hkp,k,hW⟩,hTell,.inl hx⟩
  have hH:=h'.has;clear hTell hp h fin c0 c1 c3 htk htk0 hx h';generalize ts[i]=t at *;generalize ts.length=L at *;have hii:(i:Int)<(L:Int):=by omega
  have hi5:(i:Int)≤500:=by omega
  obtain⟨⟨tk,tss,tn⟩,ta⟩:=t;obtain rfl:tk=K:=hk;simp only[vG,List.getElem?_toArray,List.getElem?_cons_zero,List.getElem?_cons_succ,Nat.add_zero]at t0 t1 t2 t3;have hg2:g≠w.heap.size:=by omega
  have f1:=hH.free 1;have a0:=hT.cell 0;have a1:=hT.cell 1;have a2:=hT.cell 2;have a3:=hT.cell 3;have b0:=hT.free 0;have b1:=hT.free 1;have b2:=hT.free 2;have b3:=hT.free 3;go_enter Tryz.func30,Tryz.ntmps30
  go_wp2
  go_quiet (fail)
  go_wp2
  go_region
  go_wp2
  have hT1:zm (((w.alloc (.cells #[.int .i64 0,.string ⟨#[]⟩,.int .i64 0,.int .i64 0] 78)).drewN nq).setCell ⟨rb,1,none⟩ (.int .i64 ((i:Int)+1))) w.heap.size 78 #[.int .i64 0,.string ⟨#[]⟩,.int .i64 0,.int .i64 0]:=(hT.drewN nq).other (by show w.heap.size≠rb;omega) _;refine Kt rfl rfl (zt (hT1.set4 _ _ _ _)) rfl (hq _ ?_ ?_)
  ·have hh:=(hH.drewN nq).putP 1 (.int .i64 ((i:Int)+1))
   have hh2:=hh.oth4 (g':=w.heap.size) (by omega) (.int .i64 (tk:Nat)) (.string (bs tss)) (.int .i64 (tn:Nat)) (.int .i64 (ta:Nat));exact zt hh2
  ·have hk1:Kp rb w (w.alloc (.cells #[.int .i64 0,.string ⟨#[]⟩,.int .i64 0,.int .i64 0] 78)):=Kp.of (zl w _)
   exact Kp.drew ((((((hk1.drewN nq).setP 1 _).setNew (q:=⟨w.heap.size,0,none⟩) (Nat.le_refl _) _).setNew (q:=⟨w.heap.size,1,none⟩) (Nat.le_refl _) _).setNew (q:=⟨w.heap.size,2,none⟩) (Nat.le_refl _) _).setNew (q:=⟨w.heap.size,3,none⟩) (Nat.le_refl _) _)
 ·have hcase:bad≠0∨vf (ZA K) (ts.drop i)=false:=by
   by_cases hb:bad=0
   ·right
    by_cases hi:i<ts.length
    ·rw[jc hi]
     simp only[ZA,beq_eq_false_iff_ne];exact λe=>hs ⟨hb,hi,e⟩
    ·exact yL hi
   ·exact .inl hb
  have go:=λw1 bad' k' hb hr hk=>fin w1 bad' k' hb hcase hr hk
  have done:∀(w1:World) (bad' k':Int) (a:Act),bad'≠0→zT w1 rb A C ts i en bad' k'→Kp rb (w.alloc (.cells #[.int .i64 0,.string ⟨#[]⟩,.int .i64 0,.int .i64 0] 78)) w1→a.tmps[4]?.getD undef= .pointer (some ⟨w.heap.size,0,none⟩)→a.defers= []→bodyPost Tryz.prog Tryz.f30 (U7 w rb A C ts i en bad (ZA K)) .ret a ((((w1.setCell ⟨w.heap.size,0,none⟩ (.int .i64 0)).setCell ⟨w.heap.size,1,none⟩ (.string ⟨#[]⟩)).setCell ⟨w.heap.size,2,none⟩ (.int .i64 0)).setCell ⟨w.heap.size,3,none⟩ (.int .i64 0)):=by
   intro w1 bad' k' a hb hr hk ht hd;have hT2:zm w1 w.heap.size 78 #[.int .i64 0,.string ⟨#[]⟩,.int .i64 0,.int .i64 0]:=(hk.block _ hT.lt (λe=>by cases e;omega)).trans hT;refine Kt rfl ht (hT2.set4 _ _ _ _) hd ?_;refine⟨i,bad',(⟨0,[],0⟩,0),rfl,?_,Qo hcase hb _ _,.inr rfl⟩;have h0:jQ w rb A C ts i en w1 i bad':=jQ.of (Nat.le_refl _) (Zq hk) hr;exact(((h0.new (q:=⟨w.heap.size,0,none⟩) (Nat.le_refl _) hlt _).new (q:=⟨w.heap.size,1,none⟩) (Nat.le_refl _) hlt _).new (q:=⟨w.heap.size,2,none⟩) (Nat.le_refl _) hlt _).new (q:=⟨w.heap.size,3,none⟩) (Nat.le_refl _) hlt _
  have hF:=λq=>Jp (h'.drewN q) 111 (by decide)
  clear fin go c0 c1 c3;have hd0:∀b:Int,b≠0→decide (b=0)=false:=λb h=>decide_eq_false h
  by_cases hb:bad=0
  ·subst hb
   by_cases hi:i<ts.length
   ·obtain⟨g,off,rfl,hg,hne,htk0⟩:=h.tok i hi
    have htk:=htk0.kp (Kp.of (p:=rb) (zl w (.cells #[.int .i64 0,.string ⟨#[]⟩,.int .i64 0,.int .i64 0] 78))) hne hg;have t0:=htk i hi 0 (by decide);have hkk:¬ts[i].1.kind=K:=λe=>hs ⟨rfl,hi,e⟩
    clear hs hcase h htk htk0 hd0;generalize ts[i]=t at *;obtain⟨⟨tk,tss,tn⟩,ta⟩:=t;simp only[vG,List.getElem?_toArray,List.getElem?_cons_zero,Nat.add_zero]at t0 hkk;have hki:decide ((tk:Int)=(K:Int))=false:=decide_eq_false (by omega);have hkj:(tk==K)=false:=by rw[beq_eq_false_iff_ne];omega
    have hkl:decide (tk=K)=false:=decide_eq_false hkk;have hkm:((tk:Int) != (K:Int))=true:=by rw[bne_iff_ne];omega
    clear h';generalize ts.length=L at *;have hii:(i:Int)<(L:Int):=by omega
    go_enter Tryz.func30,Tryz.ntmps30
    go_wp2
    go_quiet (fail)
    go_wp2_with (first
     |((go_at_call 28)
       refine(hF _).mono ?_;rintro e w1 ⟨rfl,bad',k',hb',h',hk⟩;have hT2:zm w1 w.heap.size 78 #[.int .i64 0,.string ⟨#[]⟩,.int .i64 0,.int .i64 0]:=(hk.block _ hT.lt (λe=>by cases e;omega)).trans hT;have a0:=hT2.cell 0;have a1:=hT2.cell 1;have a2:=hT2.cell 2;have a3:=hT2.cell 3;have b0:=hT2.free 0;have b1:=hT2.free 1;have b2:=hT2.free 2;have b3:=hT2.free 3;(have lt2:=hT2.lt)))
    exact done w1 bad' k' _ hb' h' ⟨hk.os,hk.tape,hk.output,hk.size,hk.block⟩ rfl rfl
   ·clear hs hcase h hd0 h'
    generalize ts.length=L at *;have hii:¬(i:Int)<(L:Int):=by omega
    go_enter Tryz.func30,Tryz.ntmps30
    go_wp2
    go_quiet (fail)
    go_wp2_with (first
     |((go_at_call 28)
       refine(hF _).mono ?_;rintro e w1 ⟨rfl,bad',k',hb',h',hk⟩;have hT2:zm w1 w.heap.size 78 #[.int .i64 0,.string ⟨#[]⟩,.int .i64 0,.int .i64 0]:=(hk.block _ hT.lt (λe=>by cases e;omega)).trans hT;have a0:=hT2.cell 0;have a1:=hT2.cell 1;have a2:=hT2.cell 2;have a3:=hT2.cell 3;have b0:=hT2.free 0;have b1:=hT2.free 1;have b2:=hT2.free 2;have b3:=hT2.free 3;(have lt2:=hT2.lt)))
    exact done w1 bad' k' _ hb' h' ⟨hk.os,hk.tape,hk.output,hk.size,hk.block⟩ rfl rfl
  ·have hd:=hd0 bad hb
   have hd2:(bad==0)=false:=by simpa using hb
   have hd3:(bad != 0)=true:=by rw[bne,hd2];rfl
   clear hs hcase h hd0 h';generalize ts.length=L at *;go_enter Tryz.func30,Tryz.ntmps30
   go_wp2
   go_quiet (fail)
   go_wp2_with (first
    |((go_at_call 28)
      refine(hF _).mono ?_;rintro e w1 ⟨rfl,bad',k',hb',h',hk⟩;have hT2:zm w1 w.heap.size 78 #[.int .i64 0,.string ⟨#[]⟩,.int .i64 0,.int .i64 0]:=(hk.block _ hT.lt (λe=>by cases e;omega)).trans hT;have a0:=hT2.cell 0;have a1:=hT2.cell 1;have a2:=hT2.cell 2;have a3:=hT2.cell 3;have b0:=hT2.free 0;have b1:=hT2.free 1;have b2:=hT2.free 2;have b3:=hT2.free 3;(have lt2:=hT2.lt)))
   exact done w1 bad' k' _ hb' h' ⟨hk.os,hk.tape,hk.output,hk.size,hk.block⟩ rfl rfl
def qT(w:World)(rb:Nat)(A:Option Addr)(C:Nat)(ts:zL)(i en:Nat)(bad:Int)(P:yj Nd)(e:Ending)(w':World):Prop:=∃(i':Nat) (bad':Int) (x:Nd) (Ax:Option Addr) (Cx:Nat),e= .returned (.agg (qD x (.slice Ax x.l.length Cx)))∧yn w' (λg=>w.heap.size≤g) x.l (.slice Ax x.l.length Cx)∧jQ w rb A C ts i en w' i' bad'∧qF bad (P en (ts.drop i)) ts x i' bad'∧x.l.length≤501
theorem j7{B:Nat}{w w':World}(h:Below B w w')(n:Nat):Below B w (w'.drewN n):=⟨h.os,h.tape,h.output,h.size,h.block⟩
theorem VV{o:Oper}{a:Act}(x i:Operand)(ho:o.op= .indexAddr 44 x i)(g off k n cap:Nat)(hx:a.eval x= .slice (some ⟨g,off,none⟩) n cap)(hi:a.eval i= .int .i64 (k:Nat))(hk:k<n)(w:World):(execOp a.eval o).run Tryz.prog w= .ok (.value (.pointer (some ⟨g,off+k*4,none⟩))) w:=by
 unfold execOp;obtain⟨i0,hq,hz0,hz,hz2⟩:=info_parts Tryz.infoTok;simp only[ho,hx,hi];simp[Instr.indexAt,Instr.sureAddr,run_underlying Tryz.underlying44,asIntOf,sizeOf,typeInfo,hq,hz,Addr.add_mid,go_sem];intro h;omega
theorem jQ.set5{w w1:World}{rb:Nat}{A:Option Addr}{C:Nat}{ts:zL}{i i' en:Nat}{bad':Int}(h:jQ w rb A C ts i en w1 i' bad'){g:Nat}(hq:w.heap.size≤g)(hr:rb<w.heap.size)(x0 x1 x2 x3 x4:Value):jQ w rb A C ts i en (Qj w1 g x0 x1 x2 x3 x4) i' bad':=
 ((((h.new (q:=⟨g,0,none⟩) hq hr x0).new (q:=⟨g,1,none⟩) hq hr x1).new (q:=⟨g,2,none⟩) hq hr x2).new (q:=⟨g,3,none⟩) hq hr x3).new (q:=⟨g,4,none⟩) hq hr x4
theorem JL{w:World}{rb:Nat}{A:Option Addr}{C:Nat}{ts:zL}{i en:Nat}{bad k:Int}(h:zT w rb A C ts i en bad k)(pe:yj Nd):Calls Tryz.prog 54 #[.pointer (some ⟨rb,0,none⟩)] w (qT w rb A C ts i en bad (ZV pe .nu)):=by
 have hlt:=h.has.lt;have h':=h.kp (zl w (.cells #[.string ⟨#[]⟩,.string ⟨#[]⟩,.int .i64 0,.int .i64 0,.slice none 0 0] 24));have hN:=zm.new w 24 #[.string ⟨#[]⟩,.string ⟨#[]⟩,.int .i64 0,.int .i64 0,.slice none 0 0];have hc:=Za h' 1
 have fin:∀(w1:World) (i':Nat) (bad':Int) (tk:Nat) (tss:List UInt8) (tn ta:Nat) (a:Act),jQ (w.alloc (.cells #[.string ⟨#[]⟩,.string ⟨#[]⟩,.int .i64 0,.int .i64 0,.slice none 0 0] 24)) rb A C ts i en w1 i' bad'→qF bad (qi (ZA 1) en (ts.drop i)) ts ((⟨tk,tss,tn⟩:Tk),ta) i' bad'→a.tmps[2]?.getD undef= .pointer (some ⟨w.heap.size,0,none⟩)→a.defers= []→bodyPost Tryz.prog Tryz.f54 (qT w rb A C ts i en bad (ZV pe .nu)) .ret a ((Qj w1 w.heap.size (.string ⟨#[110,117,109]⟩) (.string ⟨#[]⟩) (.int .i64 (tn:Nat)) (.int .i64 (ta:Nat)) (.slice none 0 0)).alloc (.cells #[.int .i64 (tk:Nat),.string (bs tss),.int .i64 (tn:Nat),.int .i64 (ta:Nat)] 78)):=by
  intro w1 i' bad' tk tss tn ta a hs hT ha hd;have hN1:zm w1 w.heap.size 24 #[.string ⟨#[]⟩,.string ⟨#[]⟩,.int .i64 0,.int .i64 0,.slice none 0 0]:=(hs.2.2.1.block _ hN.lt (λe=>by cases e;omega)).trans hN;refine jL rfl ha ((hN1.set5 _ _ _ _ _).alloc _) hd ?_;refine⟨i',bad',Nd.mk vu [] (tn:Nat) (ta:Nat) [],none,0,rfl,yn.nil _ _,?_,hT.map (λt=>Nd.mk vu [] ((t.1.n:Nat):Int) ((t.2:Nat):Int) []:Tk×Nat→Nd),by show 0≤501;omega⟩;exact(jQ.set5 hs.left (Nat.le_refl _) hlt _ _ _ _ _).alloc _
 clear h h';go_enter Tryz.func54,Tryz.ntmps54
 go_wp2_with (first
  |((go_at_call 30)
    refine hc.mono ?_;rintro e w1 ⟨i',bad',⟨⟨tk,tss,tn⟩,ta⟩,rfl,hs,hT,hx⟩;have hN1:zm w1 w.heap.size 24 #[.string ⟨#[]⟩,.string ⟨#[]⟩,.int .i64 0,.int .i64 0,.slice none 0 0]:=(hs.2.2.1.block _ hN.lt (λe=>by cases e;omega)).trans hN;have n1:=hN1.lt;(have m1:w.heap.size≠w1.heap.size:=by omega);have a0:=hN1.cell 0;have b0:=hN1.free 0;have a1:=hN1.cell 1;have b1:=hN1.free 1;have a2:=hN1.cell 2;have b2:=hN1.free 2;have a3:=hN1.cell 3;have b3:=hN1.free 3;have a4:=hN1.cell 4;have b4:=hN1.free 4;(simp only[vG])))
 exact fin w1 i' bad' tk tss tn ta _ hs hT rfl rfl
theorem rname_c'{w:World}{rb:Nat}{A:Option Addr}{C:Nat}{ts:zL}{i en:Nat}{bad k:Int}(h:zT w rb A C ts i en bad k):Calls Tryz.prog 29 #[.pointer (some ⟨rb,0,none⟩)] w (U7 w rb A C ts i en bad yp):=by
 have c0:=h.has.cell 0;have c1:=h.has.cell 1;simp only[qH,qG,qI]at c0 c1;have hlt:=h.has.lt;have hf:=h.few;have hle:=h.le;have h':=h.kp (zl w (.cells #[.int .i64 0,.string ⟨#[]⟩,.int .i64 0,.int .i64 0] 78));have hT0:=zm.new w 78 #[.int .i64 0,.string ⟨#[]⟩,.int .i64 0,.int .i64 0];have c0':=za (zl w (.cells #[.int .i64 0,.string ⟨#[]⟩,.int .i64 0,.int .i64 0] 78)) c0;have c1':=za (zl w (.cells #[.int .i64 0,.string ⟨#[]⟩,.int .i64 0,.int .i64 0] 78)) c1
 have done:∀(w1:World) (i':Nat) (bad':Int) (x:Tk×Nat) (a:Act),jQ (w.alloc (.cells #[.int .i64 0,.string ⟨#[]⟩,.int .i64 0,.int .i64 0] 78)) rb A C ts i en w1 i' bad'→qF bad (qi yp en (ts.drop i)) ts x i' bad'→(x ∈ ts∨x=(⟨0,[],0⟩,0))→a.tmps[2]?.getD undef= .pointer (some ⟨w.heap.size,0,none⟩)→a.defers= []→bodyPost Tryz.prog Tryz.f29 (U7 w rb A C ts i en bad yp) .ret a ((((w1.setCell ⟨w.heap.size,0,none⟩ (.int .i64 (x.1.kind:Nat))).setCell ⟨w.heap.size,1,none⟩ (.string (bs x.1.s))).setCell ⟨w.heap.size,2,none⟩ (.int .i64 (x.1.n:Nat))).setCell ⟨w.heap.size,3,none⟩ (.int .i64 (x.2:Nat))):=by
  intro w1 i' bad' x a hs hT hx ht hd;have hT2:zm w1 w.heap.size 78 #[.int .i64 0,.string ⟨#[]⟩,.int .i64 0,.int .i64 0]:=(hs.2.2.1.block _ hT0.lt (λe=>by cases e;omega)).trans hT0;refine Kt rfl ht (hT2.set4 _ _ _ _) hd ?_;refine⟨i',bad',x,rfl,?_,hT,hx⟩;exact(((hs.left.new (q:=⟨w.heap.size,0,none⟩) (Nat.le_refl _) hlt _).new (q:=⟨w.heap.size,1,none⟩) (Nat.le_refl _) hlt _).new (q:=⟨w.heap.size,2,none⟩) (Nat.le_refl _) hlt _).new (q:=⟨w.heap.size,3,none⟩) (Nat.le_refl _) hlt _
 by_cases hs:∃hi:i<ts.length,ts[i].1.kind=0∧Zt ts[i].1.s=true
 ·obtain⟨hi,hk,hr⟩:=hs
  have hcase:vf yp (ts.drop i)=false:=by rw[jc hi];simp[yp,hr]
  obtain⟨g,off,rfl,hg,hne,htk0⟩:=h.tok i hi;have htk:=htk0.kp (Kp.of (p:=rb) (zl w (.cells #[.int .i64 0,.string ⟨#[]⟩,.int .i64 0,.int .i64 0] 78))) hne hg;have t0:=htk i hi 0 (by decide);have t1:=htk i hi 1 (by decide);have hR:=λW=>Ql ts[i].1.s W
  have hF:=λW (hb:Below (w.alloc (.cells #[.int .i64 0,.string ⟨#[]⟩,.int .i64 0,.int .i64 0] 78)).heap.size (w.alloc (.cells #[.int .i64 0,.string ⟨#[]⟩,.int .i64 0,.int .i64 0] 78)) W)=>Jp (h'.kp hb) 111 (by decide)
  clear h h' htk htk0 c0 c1;generalize ts[i]=t at *;obtain⟨⟨tk,tss,tn⟩,ta⟩:=t;obtain rfl:tk=0:=hk;simp only[vG,List.getElem?_toArray,List.getElem?_cons_zero,List.getElem?_cons_succ,Nat.add_zero]at t0 t1 hr hR;rw[hr]at hR;have hii:(i:Int)<(ts.length:Int):=by omega
  have hL:Hid (ts.length=ts.length):=rfl;go_enter Tryz.func29,Tryz.ntmps29
  go_wp2
  go_quiet (fail)
  go_wp2
  refine wp_region_held_drew (S:=λwz=>wz.cell? ⟨rb,0,none⟩=some (.slice (some ⟨g,off,none⟩) ts.length C)∧wz.cell? ⟨rb,1,none⟩=some (.int .i64 (i:Nat))∧wz.cell? ⟨g,off+i*4+1,none⟩=some (.string (bs tss))∧Below (w.alloc (.cells #[.int .i64 0,.string ⟨#[]⟩,.int .i64 0,.int .i64 0] 78)).heap.size (w.alloc (.cells #[.int .i64 0,.string ⟨#[]⟩,.int .i64 0,.int .i64 0] 78)) wz) (by kernel_rfl) ⟨c0',c1',t1,(j7 (Below.refl _ _) _).drew⟩ (λhHeld=>?_);refine zw 0 (some 28) (.pointer (some ⟨rb,0,none⟩)) hHeld ?_;simp only[Act.put,zh,zf,zg];refine zw 1 (some 29) (.pointer (some ⟨rb,0,none⟩)) hHeld ?_;simp only[Act.put,zh,zf,zg];refine zw 2 (some 30) (.pointer (some ⟨rb,0,none⟩)) hHeld ?_;simp only[Act.put,zh,zf,zg];refine zD 3 (some 31) (.slice (some ⟨g,off,none⟩) ts.length C) rfl rfl (λwz hz=>by obtain⟨z0,z1,z2,z3⟩:=hz;unfold execOp;go_simp) hHeld ?_;simp only[Act.put,zh,zf,zg];refine zw 4 (some 32) (.pointer (some ⟨rb,0,none⟩)) hHeld ?_;simp only[Act.put,zh,zf,zg];refine zw 5 (some 33) (.pointer (some ⟨rb,0,none⟩)) hHeld ?_;simp only[Act.put,zh,zf,zg];refine zw 6 (some 34) (.pointer (some ⟨rb,1,none⟩)) hHeld ?_;simp only[Act.put,zh,zf,zg];refine zD 7 (some 35) (.int .i64 (i:Nat)) rfl rfl (λwz hz=>by obtain⟨z0,z1,z2,z3⟩:=hz;unfold execOp;go_simp) hHeld ?_;simp only[Act.put,zh,zf,zg];refine zD 8 (some 36) (.pointer (some ⟨g,off+i*4,none⟩)) rfl rfl (λwz hz=>VV _ _ rfl g off i ts.length C rfl rfl hi wz) hHeld ?_;simp only[Act.put,zh,zf,zg];refine zw 9 (some 37) (.pointer (some ⟨g,off+i*4+1,none⟩)) hHeld ?_;simp only[Act.put,zh,zf,zg];refine zD 10 (some 38) (.string (bs tss)) rfl rfl (λwz hz=>by obtain⟨z0,z1,z2,z3⟩:=hz;unfold execOp;go_simp) hHeld ?_;simp only[Act.put,zh,zf,zg];refine qY 11 (some 39) 52 #[.string (bs tss)] (by kernel_rfl) rfl rfl (by rfl) (by kernel_rfl) (hR _) ?_;rintro e w1 ⟨rfl,hb1⟩;have hb2:Below (w.alloc (.cells #[.int .i64 0,.string ⟨#[]⟩,.int .i64 0,.int .i64 0] 78)).heap.size (w.alloc (.cells #[.int .i64 0,.string ⟨#[]⟩,.int .i64 0,.int .i64 0] 78)) w1:=hHeld.2.2.2.trans (hb1.mono hHeld.2.2.2.size)
  have hH1:w1.cell? ⟨rb,0,none⟩=some (.slice (some ⟨g,off,none⟩) ts.length C)∧w1.cell? ⟨rb,1,none⟩=some (.int .i64 (i:Nat))∧w1.cell? ⟨g,off+i*4+1,none⟩=some (.string (bs tss))∧Below (w.alloc (.cells #[.int .i64 0,.string ⟨#[]⟩,.int .i64 0,.int .i64 0] 78)).heap.size (w.alloc (.cells #[.int .i64 0,.string ⟨#[]⟩,.int .i64 0,.int .i64 0] 78)) w1:=⟨za hb2 c0',za hb2 c1',za hb2 t1,hb2⟩
  refine⟨_,rfl,hH1,?_⟩;simp only[Act.put,zh,zf,zg];refine zD 12 (some 3) (.bool true) rfl rfl (λ_ _=>rfl) hH1 ?_;simp only[Act.put,zh,zf,zg];refine wpAnyH_done (by kernel_rfl) ?_ _
  go_wp2_with (first
   |((go_at_call 28)
     refine(hF _ hb2).mono ?_;rintro e w2 ⟨rfl,bad',k',hb',h',hk⟩;have hT2:zm w2 w.heap.size 78 #[.int .i64 0,.string ⟨#[]⟩,.int .i64 0,.int .i64 0]:=(hk.block _ (hT0.below hb2 hT0.lt).lt (λe=>by cases e;omega)).trans (hT0.below hb2 hT0.lt);have lt2:=hT2.lt;have a0:=hT2.cell 0;have b0:=hT2.free 0;have a1:=hT2.cell 1;have b1:=hT2.free 1;have a2:=hT2.cell 2;have b2:=hT2.free 2;have a3:=hT2.cell 3;(have b3:=hT2.free 3)))
  exact done w2 i bad' (⟨0,[],0⟩,0) _ (jQ.of (Nat.le_refl _) ((Kp.of hb2).trans hk) h') (Qo (.inr hcase) hb' _ _) (.inr rfl) rfl rfl
 ·have hpp:vf yp (ts.drop i)=vf (ZA 0) (ts.drop i)∧(∀hi:i<ts.length,ZA 0 ts[i].1=true→yp ts[i].1=true):=by
   constructor
   ·by_cases hi:i<ts.length
    ·rw[jc hi,jc hi]
     by_cases hk:ts[i].1.kind=0
     ·have :Zt ts[i].1.s=false:=by cases hr:Zt ts[i].1.s with
       |false=>rfl
       |true=>exact absurd ⟨hi,hk,hr⟩ hs
      simp[yp,ZA,hk,this]
     ·simp[yp,ZA,hk]
    ·rw[yL hi,yL hi]
   ·intro hi hk
    have hk':ts[i].1.kind=0:=by simpa [ZA]using hk
    have :Zt ts[i].1.s=false:=by cases hr:Zt ts[i].1.s with
     |false=>rfl
     |true=>exact absurd ⟨hi,hk',hr⟩ hs
    simp[yp,hk',this]
  have hpar:qi yp en (ts.drop i)=qi (ZA 0) en (ts.drop i):=by
   by_cases hi:i<ts.length
   ·rw[List.drop_eq_getElem_cons hi]
    have e:=hpp.1;rw[jc hi,jc hi]at e;simp only[qi,e]
   ·rw[List.drop_eq_nil_of_le (by omega)];rfl
  have hc:=λq=>Za (h'.drewN q) 0
  have done':∀q (w1:World) (i':Nat) (bad':Int) (x:Tk×Nat) (a:Act),jQ ((w.alloc (.cells #[.int .i64 0,.string ⟨#[]⟩,.int .i64 0,.int .i64 0] 78)).drewN q) rb A C ts i en w1 i' bad'→qF bad (qi (ZA 0) en (ts.drop i)) ts x i' bad'→(x ∈ ts∨x=(⟨0,[],0⟩,0))→a.tmps[2]?.getD undef= .pointer (some ⟨w.heap.size,0,none⟩)→a.defers= []→bodyPost Tryz.prog Tryz.f29 (U7 w rb A C ts i en bad yp) .ret a ((((w1.setCell ⟨w.heap.size,0,none⟩ (.int .i64 (x.1.kind:Nat))).setCell ⟨w.heap.size,1,none⟩ (.string (bs x.1.s))).setCell ⟨w.heap.size,2,none⟩ (.int .i64 (x.1.n:Nat))).setCell ⟨w.heap.size,3,none⟩ (.int .i64 (x.2:Nat))):=λq w1 i' bad' x a hs' hT hx ht hd=>done w1 i' bad' x a ⟨hs'.1,hs'.2.1,⟨hs'.2.2.1.os,hs'.2.2.1.tape,hs'.2.2.1.output,hs'.2.2.1.size,hs'.2.2.1.block⟩,hs'.2.2.2⟩ (by rw[hpar];exact hT) hx ht hd
  by_cases hi:i<ts.length
  ·obtain⟨g,off,rfl,hg,hne,htk0⟩:=h.tok i hi
   have htk:=htk0.kp (Kp.of (p:=rb) (zl w (.cells #[.int .i64 0,.string ⟨#[]⟩,.int .i64 0,.int .i64 0] 78))) hne hg;have t0:=htk i hi 0 (by decide);have hR:=λW=>Ql ts[i].1.s W
   have t1:=htk i hi 1 (by decide)
   have hkr:ts[i].1.kind=0→Zt ts[i].1.s=false:=λhk=>by cases hr:Zt ts[i].1.s with
    |false=>rfl
    |true=>exact absurd ⟨hi,hk,hr⟩ hs
   have hcB:=λW (hb:Below (w.alloc (.cells #[.int .i64 0,.string ⟨#[]⟩,.int .i64 0,.int .i64 0] 78)).heap.size (w.alloc (.cells #[.int .i64 0,.string ⟨#[]⟩,.int .i64 0,.int .i64 0] 78)) W)=>Za (h'.kp hb) 0
   clear h h' htk htk0 c0 c1 hs hpp hpar;generalize ts[i]=t at *;obtain⟨⟨tk,tss,tn⟩,ta⟩:=t;simp only[vG,List.getElem?_toArray,List.getElem?_cons_zero,List.getElem?_cons_succ,Nat.add_zero]at t0 t1 hkr hR;have hii:(i:Int)<(ts.length:Int):=by omega
   by_cases hk0:tk=0
   ·subst hk0
    rw[hkr rfl]at hR;clear hkr;go_enter Tryz.func29,Tryz.ntmps29
    go_wp2
    go_quiet (fail)
    go_wp2
    refine wp_region_held_drew (S:=λwz=>wz.cell? ⟨rb,0,none⟩=some (.slice (some ⟨g,off,none⟩) ts.length C)∧wz.cell? ⟨rb,1,none⟩=some (.int .i64 (i:Nat))∧wz.cell? ⟨g,off+i*4+1,none⟩=some (.string (bs tss))∧Below (w.alloc (.cells #[.int .i64 0,.string ⟨#[]⟩,.int .i64 0,.int .i64 0] 78)).heap.size (w.alloc (.cells #[.int .i64 0,.string ⟨#[]⟩,.int .i64 0,.int .i64 0] 78)) wz) (by kernel_rfl) ⟨c0',c1',t1,(j7 (Below.refl _ _) _).drew⟩ (λhHeld=>?_);refine zw 0 (some 28) (.pointer (some ⟨rb,0,none⟩)) hHeld ?_;simp only[Act.put,zh,zf,zg];refine zw 1 (some 29) (.pointer (some ⟨rb,0,none⟩)) hHeld ?_;simp only[Act.put,zh,zf,zg];refine zw 2 (some 30) (.pointer (some ⟨rb,0,none⟩)) hHeld ?_;simp only[Act.put,zh,zf,zg];refine zD 3 (some 31) (.slice (some ⟨g,off,none⟩) ts.length C) rfl rfl (λwz hz=>by obtain⟨z0,z1,z2,z3⟩:=hz;unfold execOp;go_simp) hHeld ?_;simp only[Act.put,zh,zf,zg];refine zw 4 (some 32) (.pointer (some ⟨rb,0,none⟩)) hHeld ?_;simp only[Act.put,zh,zf,zg];refine zw 5 (some 33) (.pointer (some ⟨rb,0,none⟩)) hHeld ?_;simp only[Act.put,zh,zf,zg];refine zw 6 (some 34) (.pointer (some ⟨rb,1,none⟩)) hHeld ?_;simp only[Act.put,zh,zf,zg];refine zD 7 (some 35) (.int .i64 (i:Nat)) rfl rfl (λwz hz=>by obtain⟨z0,z1,z2,z3⟩:=hz;unfold execOp;go_simp) hHeld ?_;simp only[Act.put,zh,zf,zg];refine zD 8 (some 36) (.pointer (some ⟨g,off+i*4,none⟩)) rfl rfl (λwz hz=>VV _ _ rfl g off i ts.length C rfl rfl hi wz) hHeld ?_;simp only[Act.put,zh,zf,zg];refine zw 9 (some 37) (.pointer (some ⟨g,off+i*4+1,none⟩)) hHeld ?_;simp only[Act.put,zh,zf,zg];refine zD 10 (some 38) (.string (bs tss)) rfl rfl (λwz hz=>by obtain⟨z0,z1,z2,z3⟩:=hz;unfold execOp;go_simp) hHeld ?_;simp only[Act.put,zh,zf,zg];refine qY 11 (some 39) 52 #[.string (bs tss)] (by kernel_rfl) rfl rfl (by rfl) (by kernel_rfl) (hR _) ?_;rintro e w1 ⟨rfl,hb1⟩;have hb2:Below (w.alloc (.cells #[.int .i64 0,.string ⟨#[]⟩,.int .i64 0,.int .i64 0] 78)).heap.size (w.alloc (.cells #[.int .i64 0,.string ⟨#[]⟩,.int .i64 0,.int .i64 0] 78)) w1:=hHeld.2.2.2.trans (hb1.mono hHeld.2.2.2.size)
    have hH1:w1.cell? ⟨rb,0,none⟩=some (.slice (some ⟨g,off,none⟩) ts.length C)∧w1.cell? ⟨rb,1,none⟩=some (.int .i64 (i:Nat))∧w1.cell? ⟨g,off+i*4+1,none⟩=some (.string (bs tss))∧Below (w.alloc (.cells #[.int .i64 0,.string ⟨#[]⟩,.int .i64 0,.int .i64 0] 78)).heap.size (w.alloc (.cells #[.int .i64 0,.string ⟨#[]⟩,.int .i64 0,.int .i64 0] 78)) w1:=⟨za hb2 c0',za hb2 c1',za hb2 t1,hb2⟩
    refine⟨_,rfl,hH1,?_⟩;simp only[Act.put,zh,zf,zg];refine zD 12 (some 3) (.bool false) rfl rfl (λ_ _=>rfl) hH1 ?_;simp only[Act.put,zh,zf,zg];refine wpAnyH_done (by kernel_rfl) ?_ _
    go_wp2_with (first
     |((go_at_call 30)
       refine(hcB _ hb2).mono ?_;rintro e w2 ⟨i',bad',⟨⟨tk',tss',tn'⟩,ta'⟩,rfl,hs,hT,hx⟩;have hT2:zm w2 w.heap.size 78 #[.int .i64 0,.string ⟨#[]⟩,.int .i64 0,.int .i64 0]:=(hs.2.2.1.block _ (hT0.below hb2 hT0.lt).lt (λe=>by cases e;omega)).trans (hT0.below hb2 hT0.lt);have lt2:=hT2.lt;have a0:=hT2.cell 0;have b0:=hT2.free 0;have a1:=hT2.cell 1;have b1:=hT2.free 1;have a2:=hT2.cell 2;have b2:=hT2.free 2;have a3:=hT2.cell 3;have b3:=hT2.free 3;(simp only[vG])))
    exact done' 0 w2 i' bad' (⟨tk',tss',tn'⟩,ta') _ ⟨hs.1,hs.2.1,(Kp.of hb2).trans hs.2.2.1,hs.2.2.2⟩ hT hx rfl rfl
   ·have hkm:((tk:Int)==0)=false:=by rw[beq_eq_false_iff_ne];omega
    have hkn:decide ((tk:Int)=0)=false:=decide_eq_false (by omega);clear hkr hR;go_enter Tryz.func29,Tryz.ntmps29
    go_wp2
    go_quiet (fail)
    go_wp2_with (first
     |((go_at_call 30)
       refine(hc _).mono ?_;rintro e w2 ⟨i',bad',⟨⟨tk',tss',tn'⟩,ta'⟩,rfl,hs,hT,hx⟩;have hT2:zm w2 w.heap.size 78 #[.int .i64 0,.string ⟨#[]⟩,.int .i64 0,.int .i64 0]:=(hs.2.2.1.block _ hT0.lt (λe=>by cases e;omega)).trans hT0;have lt2:=hT2.lt;have a0:=hT2.cell 0;have b0:=hT2.free 0;have a1:=hT2.cell 1;have b1:=hT2.free 1;have a2:=hT2.cell 2;have b2:=hT2.free 2;have a3:=hT2.cell 3;have b3:=hT2.free 3;(simp only[vG])))
    exact done' _ w2 i' bad' (⟨tk',tss',tn'⟩,ta') _ hs hT hx rfl rfl
  ·clear hs hpp hpar h h' c0 c1
   have hii:¬(i:Int)<(ts.length:Int):=by omega
   go_enter Tryz.func29,Tryz.ntmps29
   go_wp2
   go_quiet (fail)
   go_wp2_with (first
    |((go_at_call 30)
      refine(hc _).mono ?_;rintro e w2 ⟨i',bad',⟨⟨tk',tss',tn'⟩,ta'⟩,rfl,hs,hT,hx⟩;have hT2:zm w2 w.heap.size 78 #[.int .i64 0,.string ⟨#[]⟩,.int .i64 0,.int .i64 0]:=(hs.2.2.1.block _ hT0.lt (λe=>by cases e;omega)).trans hT0;have lt2:=hT2.lt;have a0:=hT2.cell 0;have b0:=hT2.free 0;have a1:=hT2.cell 1;have b1:=hT2.free 1;have a2:=hT2.cell 2;have b2:=hT2.free 2;have a3:=hT2.cell 3;have b3:=hT2.free 3;(simp only[vG])))
   exact done' _ w2 i' bad' (⟨tk',tss',tn'⟩,ta') _ hs hT hx rfl rfl
theorem Yc{w:World}{rb:Nat}{A:Option Addr}{C:Nat}{ts:zL}{i en:Nat}{bad k:Int}(h:zT w rb A C ts i en bad k)(pe:yj Nd):Calls Tryz.prog 55 #[.pointer (some ⟨rb,0,none⟩)] w (qT w rb A C ts i en bad (ZV pe .na)):=by
 have hlt:=h.has.lt;have h':=h.kp (zl w (.cells #[.string ⟨#[]⟩,.string ⟨#[]⟩,.int .i64 0,.int .i64 0,.slice none 0 0] 24));have hN:=zm.new w 24 #[.string ⟨#[]⟩,.string ⟨#[]⟩,.int .i64 0,.int .i64 0,.slice none 0 0];have hc:=rname_c' h'
 have fin:∀(w1:World) (i':Nat) (bad':Int) (tk:Nat) (tss:List UInt8) (tn ta:Nat) (a:Act),jQ (w.alloc (.cells #[.string ⟨#[]⟩,.string ⟨#[]⟩,.int .i64 0,.int .i64 0,.slice none 0 0] 24)) rb A C ts i en w1 i' bad'→qF bad (qi yp en (ts.drop i)) ts ((⟨tk,tss,tn⟩:Tk),ta) i' bad'→a.tmps[2]?.getD undef= .pointer (some ⟨w.heap.size,0,none⟩)→a.defers= []→bodyPost Tryz.prog Tryz.f55 (qT w rb A C ts i en bad (ZV pe .na)) .ret a ((Qj w1 w.heap.size (.string ⟨#[110,97,109,101]⟩) (.string (bs tss)) (.int .i64 0) (.int .i64 (ta:Nat)) (.slice none 0 0)).alloc (.cells #[.int .i64 (tk:Nat),.string (bs tss),.int .i64 (tn:Nat),.int .i64 (ta:Nat)] 78)):=by
  intro w1 i' bad' tk tss tn ta a hs hT ha hd;have hN1:zm w1 w.heap.size 24 #[.string ⟨#[]⟩,.string ⟨#[]⟩,.int .i64 0,.int .i64 0,.slice none 0 0]:=(hs.2.2.1.block _ hN.lt (λe=>by cases e;omega)).trans hN;refine jL rfl ha ((hN1.set5 _ _ _ _ _).alloc _) hd ?_;refine⟨i',bad',Nd.mk jM tss 0 (ta:Nat) [],none,0,rfl,yn.nil _ _,?_,hT.map (λt=>Nd.mk jM t.1.s 0 ((t.2:Nat):Int) []:Tk×Nat→Nd),by show 0≤501;omega⟩;exact(jQ.set5 hs.left (Nat.le_refl _) hlt _ _ _ _ _).alloc _
 clear h h';go_enter Tryz.func55,Tryz.ntmps55
 go_wp2_with (first
  |((go_at_call 29)
    refine hc.mono ?_;rintro e w1 ⟨i',bad',⟨⟨tk,tss,tn⟩,ta⟩,rfl,hs,hT,hx⟩;have hN1:zm w1 w.heap.size 24 #[.string ⟨#[]⟩,.string ⟨#[]⟩,.int .i64 0,.int .i64 0,.slice none 0 0]:=(hs.2.2.1.block _ hN.lt (λe=>by cases e;omega)).trans hN;have n1:=hN1.lt;(have m1:w.heap.size≠w1.heap.size:=by omega);have a0:=hN1.cell 0;have b0:=hN1.free 0;have a1:=hN1.cell 1;have b1:=hN1.free 1;have a2:=hN1.cell 2;have b2:=hN1.free 2;have a3:=hN1.cell 3;have b3:=hN1.free 3;have a4:=hN1.cell 4;have b4:=hN1.free 4;(simp only[vG])))
 exact fin w1 i' bad' tk tss tn ta _ hs hT rfl rfl
def ZZ:List (List UInt8):= [qX,qQ,je,qv,jl,qb,jf]
def fu:Array Value:=#[.string ⟨#[108,105,110,101,97,114]⟩,.string ⟨#[99,111,110,99,97,116]⟩,.string ⟨#[109,105,114,114,111,114]⟩,.string ⟨#[115,110,97,112,115,104,111,116]⟩,.string ⟨#[99,114,121,112,116]⟩,.string ⟨#[105,110,116,101,103,114,105,116,121]⟩,.string ⟨#[118,101,114,105,116,121]⟩]
theorem du(k:Nat)(h:k<7):fu[k]?=some (.string (bs (ZZ[k]'h))):=by
 match k,h with
 |0,_=>rfl
 |1,_=>rfl
 |2,_=>rfl
 |3,_=>rfl
 |4,_=>rfl
 |5,_=>rfl
 |6,_=>rfl
def STS:List (List UInt8):= [zn,zq,zM,zN,zB,qj]
def zbM:Array Value:=#[.string ⟨#[100,101,118,105,99,101]⟩,.string ⟨#[106,111,117,114,110,97,108]⟩,.string ⟨#[107,101,121]⟩,.string ⟨#[114,111,111,116]⟩,.string ⟨#[118,111,108,117,109,101]⟩,.string ⟨#[101,120,112,111,114,116]⟩]
theorem De(k:Nat)(h:k<6):zbM[k]?=some (.string (bs (STS[k]'h))):=by
 match k,h with
 |0,_=>rfl
 |1,_=>rfl
 |2,_=>rfl
 |3,_=>rfl
 |4,_=>rfl
 |5,_=>rfl
def vW(l:List (List UInt8))(f:List UInt8→Bool):List UInt8:=(l.find? f).getD []
theorem DA{l:List (List UInt8)}{f:List UInt8→Bool}{k:Nat}(hk:k<l.length)(h:∀j (hj:j<k),f (l[j]'(by omega))=false)(hf:f l[k]=true):vW l f=l[k]:=by
 unfold vW
 have :l.find? f=some l[k]:=by
  rw[List.find?_eq_some_iff_getElem];exact⟨hf,k,hk,rfl,λj hj=>by simp[h j hj]⟩
 rw[this];rfl
theorem QS{l:List (List UInt8)}{f:List UInt8→Bool}(h:∀j (hj:j<l.length),f l[j]=false):vW l f= []:=by
 unfold vW
 have :l.find? f=none:=by
  rw[List.find?_eq_none];intro x hx;obtain⟨j,hj,rfl⟩:=List.mem_iff_getElem.1 hx;simp[h j hj]
 rw[this];rfl
theorem QG{w:World}{rb:Nat}{A:Option Addr}{C:Nat}{ts:zL}{i en:Nat}{bad k:Int}(h:zT w rb A C ts i en bad k):Calls Tryz.prog 53 #[.pointer (some ⟨rb,0,none⟩)] w λe w'=>e= .returned (.string (bs (vW ZZ (v7 bad ts i))))∧Below w.heap.size w w':=by
 have hH:zm (w.alloc (.cells fu 9)) w.heap.size 9 fu:=zm.new _ _ _;have hB:Below w.heap.size w (w.alloc (.cells fu 9)):=(Below.refl _ _).alloc (Nat.le_refl _) _
 obtain⟨W,hW⟩:∃W,W=w.alloc (.cells fu 9):=⟨_,rfl⟩
 rw[←hW]at hH hB;have h':=h.kp hB;have hs:=λq s=>vN (h'.drewN q) s
 have HW:Hid (W=w.alloc (.cells fu 9)):=hW;clear hW h h';go_enter Tryz.func53,Tryz.ntmps53
 go_wp2_with (first
  |(refine zi 6 rfl ?_
    refine jP (some 6) (.slice (some ⟨w.heap.size,0,none⟩) 7 7) W rfl (by rfl) (by rw[HW.out];kernel_rfl) ?_))
 go_loopw [4] (λz wr=>∃k q:Nat,k≤7∧z= .int .i64 (k:Nat)∧wr=W.drewN q∧Hid (∀j (hj:j<k) (h7:j<7),v7 bad ts i (ZZ[j]'h7)=false)) (λz _=>7-(intOf z).toNat)
 case atStart=>exact⟨0,0,Nat.zero_le _,rfl,rfl,(λj hj=>absurd hj (Nat.not_lt_zero _):∀j (hj:j<0) (h7:j<7),v7 bad ts i (ZZ[j]'h7)=false)⟩
 case round =>
  obtain⟨k,q,hk,rfl,rfl,HR⟩:=hrel;by_cases hlt:k<7
  ·have hc:W.cell? ⟨w.heap.size,k,none⟩=some (.string (bs (ZZ[k]'hlt))):=by rw[hH.cell];exact du k hlt
   have hs1:=hs q (ZZ[k]'hlt)
   have HY:Hid (v7 bad ts i (ZZ[k]'hlt)=true→vW ZZ (v7 bad ts i)=ZZ[k]'hlt):=(λe=>DA (l:=ZZ) (k:=k) hlt (λj hj=>HR.out j hj (by omega)) e:v7 bad ts i (ZZ[k]'hlt)=true→vW ZZ (v7 bad ts i)=ZZ[k]'hlt)
   have HN:Hid (v7 bad ts i (ZZ[k]'hlt)=false→∀j (hj:j<k+1) (h7:j<7),v7 bad ts i (ZZ[j]'h7)=false):=(λe j hj h7=>by
    by_cases e2:j<k
    ·exact HR.out j e2 h7
    ·obtain rfl:j=k:=by omega
     exact e:v7 bad ts i (ZZ[k]'hlt)=false→∀j (hj:j<k+1) (h7:j<7),v7 bad ts i (ZZ[j]'h7)=false)
   generalize ZZ[k]'hlt=y at hc hs1 HY HN;cases e:v7 bad ts i y
   ·rw[e]at hs1
    have HN2:=HN.out e;have HN3:Hid (∀j (hj:j<k+1) (h7:j<7),v7 bad ts i (ZZ[j]'h7)=false):=HN2;clear HN2 HN HY HR hs e
    go_wp2_with (first
     |((go_at_call 27)
       refine hs1.mono ?_;(rintro e w1 ⟨rfl,q2,rfl⟩)))
    go_roundw
    case rel=>exact⟨k+1,q+q2,by omega,by go_num,rfl,HN3⟩
    case measure=>simp[intOf];omega
   ·rw[e]at hs1
    have HY2:Hid (vW ZZ (v7 bad ts i)=y):=HY.out e;clear HN HY HR hs e
    go_wp2_with (first
     |((go_at_call 27)
       refine hs1.mono ?_;(rintro e w1 ⟨rfl,q2,rfl⟩)))
    go_ret
    exact⟨by rw[HY2.out];rfl,j7 hB _⟩
  ·obtain rfl:k=7:=by omega
   have HZ:Hid (vW ZZ (v7 bad ts i)= []):=QS (l:=ZZ) (λj hj=>HR.out j hj hj);clear hs HR
   go_wp2
   go_ret
   exact⟨by rw[HZ.out];rfl,j7 hB _⟩
end
section
variable {pe:yj Nd} {en:Nat} {ts:zL}
theorem gw{ks:Kd}{kt:Kd}{b0 b1 b2 b3 b4 b5:Int}{i0 i1 i2 i3 i4 i5:Nat}{x1 x2 x3:Nd}{t2 t3:Tk×Nat}
 (h1:qF b0 (pe en (ts.drop i0)) ts x1 i1 b1) (h2:qF b1 (qi gx en (ts.drop i1)) ts t2 i2 b2) (h3:qF b2 (ZV pe ks en (ts.drop i2)) ts x2 i3 b3) (h4:qF b3 (qi gx en (ts.drop i3)) ts t3 i4 b4) (h5:qF b4 (ZV pe kt en (ts.drop i4)) ts x3 i5 b5):
 qF b0 (xx pe true [.ex,ks,kt] en (ts.drop i0)) ts [x1,x2,x3] i5 b5:=
 h1.bind ((h2.bind (h3.bind ((h4.bind (h5.bind ((qF.ret b5 ([]:List Nd) en ts i5).map (λl=>x3::l)))).map (λl=>x2::l)))).map (λl=>x1::l))
theorem Ky{ks:Kd}{b0 b1 b2 b3:Int}{i0 i1 i2 i3:Nat}{x1 x2:Nd}{t2:Tk×Nat}
 (h1:qF b0 (pe en (ts.drop i0)) ts x1 i1 b1) (h2:qF b1 (qi gx en (ts.drop i1)) ts t2 i2 b2) (h3:qF b2 (ZV pe ks en (ts.drop i2)) ts x2 i3 b3):
 qF b0 (xx pe true [.ex,ks] en (ts.drop i0)) ts [x1,x2] i3 b3:=
 h1.bind ((h2.bind (h3.bind ((qF.ret b3 ([]:List Nd) en ts i3).map (λl=>x2::l)))).map (λl=>x1::l))
theorem ga{b0 b1:Int}{i0 i1:Nat}{x1:Nd}(h1:qF b0 (pe en (ts.drop i0)) ts x1 i1 b1):qF b0 (xx pe true [.ex] en (ts.drop i0)) ts [x1] i1 b1:=
 h1.bind ((qF.ret b1 ([]:List Nd) en ts i1).map (λl=>x1::l))
theorem Z1{op:List UInt8}{ks:List Kd}(hin:qn op=(ks,false)){b0 b1 b2 b3:Int}{i0 i1 i2 i3:Nat}{l:List Nd}{t1 t2:Tk×Nat}
 (h1:qF b0 (qi (xE [40]) en (ts.drop i0)) ts t1 i1 b1) (h2:qF b1 (xx pe true ks en (ts.drop i1)) ts l i2 b2) (h3:qF b2 (qi (xE [41]) en (ts.drop i2)) ts t2 i3 b3):
 qF b0 (Q8 pe op en (ts.drop i0)) ts l i3 b3:=by
 unfold Q8;rw[hin];have:=h1.bind (f:=λ_=>zU (xx pe true ks) λl=>zU (vD []) λm=>zU (qi (xE [41])) λ_=>vD (l++m)) (h2.bind ((qF.ret b2 ([]:List Nd) en ts i2).bind (h3.map (λ_=>l++ []))))
 simpa using this
theorem YL{op:List UInt8}{ks:List Kd}(hin:qn op=(ks,true)){b0 b1 b2 b3 b4:Int}{i0 i1 i2 i3 i4:Nat}{l m:List Nd}{t1 t2:Tk×Nat}
 (h1:qF b0 (qi (xE [40]) en (ts.drop i0)) ts t1 i1 b1) (h2:qF b1 (xx pe true ks en (ts.drop i1)) ts l i2 b2) (h3:qF b2 (ZU pe 501 en (ts.drop i2)) ts m i3 b3) (h4:qF b3 (qi (xE [41]) en (ts.drop i3)) ts t2 i4 b4):
 qF b0 (Q8 pe op en (ts.drop i0)) ts (l++m) i4 b4:=by
 unfold Q8;rw[hin];exact h1.bind (f:=λ_=>zU (xx pe true ks) λl=>zU (ZU pe 501) λm=>zU (qi (xE [41])) λ_=>vD (l++m)) (h2.bind (h3.bind (h4.map (λ_=>l++m))))
theorem Vp{d i:Nat}{o:List UInt8}(hi:i<ts.length)(hk:ts[i].1.kind=0)(hs:ts[i].1.s=o)(hr:Zt o=true)(hin:0<(qn o).1.length):qA (d+1) en (ts.drop i)=zU (Q8 (qA d) o) (λl=>vD (.mk o [] 0 ts[i].2 l)) en (ts.drop (i+1)):=by
 show zU (qi QP) _ en (ts.drop i)=_;have hb:QP ts[i].1=true:=by unfold QP;rw[hs,hk];simp[hin]
 have hn:yp ts[i].1=false:=by unfold yp;rw[hs,hr];simp
 rw[List.drop_eq_getElem_cons hi];simp only[zU,qi];rw[if_pos hb];simp only;rw[if_neg (by rw[hn];decide)];simp only[zU,hs]
theorem zbZ{d i:Nat}(h:∀hi:i<ts.length,ts[i].1.kind=0→(qn ts[i].1.s).1.length=0):qA (d+1) en (ts.drop i)=zU (qi yp) (λt=>vD (.mk vK t.1.s 0 t.2 [])) en (ts.drop i):=by
 show zU (qi QP) _ en (ts.drop i)=_;by_cases hi:i<ts.length
 ·have hb:QP ts[i].1=yp ts[i].1:=by
   unfold QP;by_cases hk:ts[i].1.kind=0
   ·rw[h hi hk];simp
   ·simp[yp,hk]
  rw[List.drop_eq_getElem_cons hi];simp only[zU,qi];rw[hb];by_cases hn:yp ts[i].1=true
  ·rw[if_pos hn]
   simp only;rw[if_pos hn]
  ·rw[if_neg hn]
 ·rw[List.drop_eq_nil_of_le (by omega)];rfl
end
section
open Go.ChangeShapes Go.WideShapes Go.ChangeAt Go.RowKit
theorem qN{f:FuncId}{args:Array Value}(w:World){R:Ending→World→Prop}(k:Calls Tryz.prog f args w R):Calls Tryz.prog f args w R:=k
def xk(ts:zL):Prop:=∀t ∈ ts,XG t.1
theorem ve{ts:zL}(hG:xk ts){c:UInt8}(hc:qx c=false)(en i:Nat):qi (xe [c]) en (ts.drop i)=qi (xE [c]) en (ts.drop i):=by
 by_cases hi:i<ts.length
 ·have hg:=hG _ (List.getElem_mem hi)
  have e:xe [c] ts[i].1=xE [c] ts[i].1:=by
   unfold xe xE;by_cases hk:ts[i].1.kind=0
   ·obtain⟨⟨c',r,e1,e2⟩,_⟩:=hg.word hk
    have :(ts[i].1.s== [c])=false:=by
     rw[e1,beq_eq_false_iff_ne];intro e;have :c'=c:=by simpa using(List.cons.inj e).1
     rw[this,hc]at e2;cases e2
    rw[this];simp
   ·have h0:(ts[i].1.kind==0)=false:=by rw[beq_eq_false_iff_ne];exact hk
    rw[h0];rfl
  rw[List.drop_eq_getElem_cons hi];simp only[qi,e]
 ·rw[List.drop_eq_nil_of_le (by omega)];rfl
theorem XD{ts:zL}(hG:xk ts){i:Nat}{s:List UInt8}(hi:i<ts.length)(hs:∀c,s= [c]→JV c=false)(h:xe s ts[i].1=true):ts[i].1.kind=0∧ts[i].1.s=s:=by
 unfold xe at h;simp only[Bool.and_eq_true,Bool.or_eq_true,beq_iff_eq]at h;refine⟨?_,h.2⟩;rcases h.1 with e|e
 ·exact e
 ·obtain⟨c,e1,e2,_⟩:=(hG _ (List.getElem_mem hi)).sign e
  rw[h.2]at e1;rw[hs c e1]at e2;cases e2
structure yR (w0:World) (rb:Nat) (A:Option Addr) (C:Nat) (ts:zL) (i0 en:Nat) (q:Nat) (op:ByteArray) (at_:Int) (wr:World) (i':Nat) (bad':Int) (l:List Nd) (v:Value):Prop where
 st:jQ w0 rb A C ts i0 en wr i' bad'
 hp:zm wr w0.heap.size 24 #[.string ⟨#[]⟩,.string ⟨#[]⟩,.int .i64 0,.int .i64 0,.slice none 0 0]
 hq:zm wr q 24 #[.string op,.string ⟨#[]⟩,.int .i64 0,.int .i64 at_,v]
 row:xI wr (q+1) l v
 lt:rb<w0.heap.size
 pq:w0.heap.size<q
section
variable {w0:World} {rb:Nat} {A:Option Addr} {C:Nat} {ts:zL} {i0 en q:Nat} {op:ByteArray} {at_:Int} {wr:World} {i':Nat} {bad':Int} {l:List Nd} {v:Value}
theorem yR.rst(h:yR w0 rb A C ts i0 en q op at_ wr i' bad' l v){w':World}{i2:Nat}{b2:Int}(s:jQ wr rb A C ts i' en w' i2 b2):yR w0 rb A C ts i0 en q op at_ w' i2 b2 l v:=by
 have hk:=s.2.2.1;have hlt:=h.lt;have hpq:=h.pq;exact⟨h.st.trans s,(hk.block _ h.hp.lt (λe=>by cases e;omega)).trans h.hp,(hk.block _ h.hq.lt (λe=>by cases e;omega)).trans h.hq,h.row.kp hk (by omega),hlt,hpq⟩
theorem yR.alloc(h:yR w0 rb A C ts i0 en q op at_ wr i' bad' l v)(o:Obj):yR w0 rb A C ts i0 en q op at_ (wr.alloc o) i' bad' l v:=
 ⟨h.st.alloc o,h.hp.alloc o,h.hq.alloc o,h.row.kp (Kp.of (p:=rb) (zl wr o)) (by have:=h.lt;have:=h.pq;omega),h.lt,h.pq⟩
theorem yR.put(h:yR w0 rb A C ts i0 en q op at_ wr i' bad' l v){w6:World}{l':List Nd}{v6:Value}(hr:xI w6 (q+1) l' v6)(hb:Below (q+1) wr w6):yR w0 rb A C ts i0 en q op at_ (w6.setCell ⟨q,4,none⟩ v6) i' bad' l' v6:=by
 have hpq:=h.pq;have hlt:=h.lt;refine⟨(h.st.below hb (by omega) hlt).new (q:=⟨q,4,none⟩) (by show _≤q;omega) hlt _,(h.hp.below hb (by omega)).other (by show w0.heap.size≠q;omega) _,?_,hr.kp ((Kp.refl q w6).setP 4 v6) (by omega),hlt,hpq⟩;exact(h.hq.below hb (by omega)).putP 4 v6
theorem yR.at(h:yR w0 rb A C ts i0 en q op at_ wr i' bad' l v){bad k:Int}(h0:zT w0 rb A C ts i0 en bad k):∃k',zT wr rb A C ts i' en bad' k':=jQ.at h0 h.st
end
theorem xW{w w1 w2:World}{rb:Nat}{A:Option Addr}{C:Nat}{ts:zL}{i en:Nat}{bad k:Int}{op:ByteArray}{at_:Int}(h:zT w rb A C ts i en bad k)(hb1:Below (w.alloc (.cells #[.string ⟨#[]⟩,.string ⟨#[]⟩,.int .i64 0,.int .i64 0,.slice none 0 0] 24)).heap.size (w.alloc (.cells #[.string ⟨#[]⟩,.string ⟨#[]⟩,.int .i64 0,.int .i64 0,.slice none 0 0] 24)) w1)(hb2:Below w1.heap.size w1 w2)(hi:i+1≤ts.length)(hlt:rb<w.heap.size):
 yR w rb A C ts i en w2.heap.size op at_ ((w2.setCell ⟨rb,1,none⟩ (.int .i64 ((i:Int)+1))).alloc (.cells #[.string op,.string ⟨#[]⟩,.int .i64 0,.int .i64 at_,.slice none 0 0] 24)) (i+1) bad [] (.slice none 0 0):=by
 have hN:=zm.new w 24 #[.string ⟨#[]⟩,.string ⟨#[]⟩,.int .i64 0,.int .i64 0,.slice none 0 0];have hb:Below w.heap.size w w2:=((zl w _).trans (hb1.mono (by simp))).trans (hb2.mono (by have:=hb1.size;simp at this;omega));have hN2:zm w2 w.heap.size 24 #[.string ⟨#[]⟩,.string ⟨#[]⟩,.int .i64 0,.int .i64 0,.slice none 0 0]:=(hN.below hb1 hN.lt).below hb2 (hN.below hb1 hN.lt).lt;have hr:zm w2 rb 49 _:=h.has.below hb hlt;have hsz:(w2.setCell ⟨rb,1,none⟩ (.int .i64 ((i:Int)+1))).heap.size=w2.heap.size:=by simp
 refine⟨⟨by omega,by omega,((Kp.of hb).setP 1 _).alloc _,k,?_⟩,(hN2.other (by show w.heap.size≠rb;omega) _).alloc _,zm.new_at hsz.symm,xI.nil _ _,hlt,hN2.lt⟩;exact(hr.putP 1 _).alloc _
theorem yR.drewN{w0:World}{rb:Nat}{A:Option Addr}{C:Nat}{ts:zL}{i0 en q:Nat}{op:ByteArray}{at_:Int}{wr:World}{i':Nat}{bad':Int}{l:List Nd}{v:Value}(h:yR w0 rb A C ts i0 en q op at_ wr i' bad' l v)(n:Nat):yR w0 rb A C ts i0 en q op at_ (wr.drewN n) i' bad' l v:=
 ⟨h.st.drewN n,h.hp.drewN n,h.hq.drewN n,h.row.kp ((Kp.refl rb wr).drewN n) (by have:=h.lt;have:=h.pq;omega),h.lt,h.pq⟩
theorem yR.step{w0:World}{rb:Nat}{A:Option Addr}{C:Nat}{ts:zL}{i0 en q:Nat}{op:ByteArray}{at_:Int}{wr:World}{i':Nat}{bad':Int}{l:List Nd}{v:Value}(h:yR w0 rb A C ts i0 en q op at_ wr i' bad' l v)(hi:i'<ts.length):yR w0 rb A C ts i0 en q op at_ (wr.setCell ⟨rb,1,none⟩ (.int .i64 ((i':Int)+1))) (i'+1) bad' l v:=by
 obtain⟨k',hH⟩:=h.st.2.2.2
 have hs:jQ wr rb A C ts i' en (wr.setCell ⟨rb,1,none⟩ (.int .i64 ((i':Int)+1))) (i'+1) bad':=⟨by omega,by omega,(Kp.refl rb wr).setP 1 _,k',by have:=hH.putP 1 (.int .i64 ((i':Int)+1));simpa using this⟩
 exact h.rst hs
def ka(rb:Nat)(w:World):Nat:=match w.cell? ⟨rb,1,none⟩with
 |some (.int _ n)=>n.toNat
 |_=>0
theorem yR.pos{w0:World}{rb:Nat}{A:Option Addr}{C:Nat}{ts:zL}{i0 en q:Nat}{op:ByteArray}{at_:Int}{wr:World}{i':Nat}{bad':Int}{l:List Nd}{v:Value}(h:yR w0 rb A C ts i0 en q op at_ wr i' bad' l v):ka rb wr=i':=by
 obtain⟨k',hH⟩:=h.st.2.2.2;have:=hH.cell 1;simp only[qH,qG,qI]at this;unfold ka;rw[this];simp
theorem JM{ty:TypeId}(w:World)(base:Nat)(l:List Nd)(v:Value)(hrow:xI w base l v)(hbase:base≤w.heap.size)(hlen:l.length≤1000)(xs:List Nd)(us:List Value)(hx1:0<xs.length)(hx2:xs.length≤10)(hu:us.length=xs.length)(hus:∀u ∈ us,u.oneCell'=true)
 (hn:∀i (h:i<xs.length) (h':i<us.length),yn w (λg=>base≤g∧v.ownBlock≠some g) xs[i].l us[i]) (G:Nat) (hG:zm w G 24 (Yw xs us).toArray):
 ∃v' w',(Builtin.append_ #[22,22] ty #[v,.slice (some ⟨G,0,none⟩) xs.length xs.length]).run Tryz.prog w= .ok v' w'∧xI w' base (l++xs) v'∧Below base w w'∧w.grownBy w' v.ownBlock:=by
 obtain⟨i0,hi,hz0,hz1,hz2⟩:=info_parts Tryz.infoNode;obtain⟨vs,e1,hown,hk⟩:=hrow
 have hlenN:∀(xs:List Nd) (us:List Value),us.length=xs.length→(Yw xs us).length=xs.length*5:=by
  intro xs
  induction xs with
  |nil=>intro us _;rfl
  |cons a xs ih =>
   intro us h;cases us with
   |nil=>simp at h
   |cons u us=>rw[V8,List.length_append,ih us (by simpa using h)];simp[qD];omega
 have hone:∀(xs:List Nd) (us:List Value),(∀u ∈ us,u.oneCell'=true)→∀u ∈ Yw xs us,u.oneCell'=true:=by
  intro xs
  induction xs with
  |nil=>intro us _ u hu;simp[Yw]at hu
  |cons a xs ih =>
   intro us h u hu;cases us with
   |nil=>simp[Yw]at hu
   |cons b us =>
    rw[V8,List.mem_append]at hu;rcases hu with hu|hu
    ·simp[qD]at hu
     rcases hu with rfl|rfl|rfl|rfl|rfl
     ·rfl
     ·rfl
     ·rfl
     ·rfl
     ·exact h _ (by simp)
    ·exact ih us (λu hu=>h u (by simp[hu])) u hu
 have hnews:∀j u,(Yw xs us)[j]?=some u→w.cell? ((⟨G,0,none⟩:Addr).add j)=some u:=by
  intro j u hj;have:=hG.cell j;rw[show(⟨G,0,none⟩:Addr).add j=⟨G,j,none⟩ by simp[Addr.add];omega];rw[this]
  simpa using hj
 obtain⟨v',w',hr,h2,h3,h4⟩:=run_append_own (P:=Tryz.prog) w base 22 ty 24 i0 _ 5 72 Tryz.underlying22 hi hz0 hz1 hz2 rfl (by decide) v l.length (Yw l vs) hown ⟨G,0,none⟩ xs.length xs.length (Yw xs us) (hlenN xs us hu) hnews (hone xs us hus) (by unfold maxLen;omega) (by omega) hbase;have hwh:=Jm (P:=Tryz.prog) Tryz.underlying22 hi hz0 hz1 (by decide) hown (ad:=⟨G,0,none⟩) (m:=xs.length) (c:=xs.length) (news:=Yw xs us) (hlenN xs us hu) hnews (hone xs us hus) (by unfold maxLen;omega) (by rw[hz2];omega) hx1 hr;refine⟨v',w',hr,?_,QB hown h3 hbase,h3⟩
 have keep:∀ {l':List Nd} {x:Value},yn w (λg=>base≤g∧v.ownBlock≠some g) l' x→yn w' (λg=>base≤g∧v'.ownBlock≠some g) l' x:=by
  intro l' x h
  have h5:yn w (λg=>(base≤g∧v.ownBlock≠some g)∧v'.ownBlock≠some g) l' x:=h.imp λg hg hlt=>⟨hg,by
   rcases hwh with e|e
   ·rw[e];exact hg.2
   ·rw[e];intro e';cases e';omega⟩
  exact(h5.keep (w':=w') λg o hg ho=>(h3.block g (Array.getElem?_eq_some_iff.1 ho).1 (λe=>hg.1.2 e.symm)).trans ho).mono λg hg=>⟨hg.1.1,hg.2⟩
 refine⟨vs++us,by simp[e1,hu],?_,?_⟩
 ·rw[uM l xs vs _ e1,List.length_append]
  exact h2
 ·intro i h h'
  by_cases hi:i<l.length
  ·rw[List.getElem_append_left hi,List.getElem_append_left (by omega)]
   exact keep (hk i hi (by omega))
  ·rw[List.getElem_append_right (by omega),List.getElem_append_right (by omega)]
   have e:i-vs.length=i-l.length:=by omega
   simp only[e];simp only[List.length_append]at h;exact keep (hn _ (by omega) (by omega))
theorem zY{ops:Array Oper}{rest:List Oper}{o:Oper}{a:Act}{w:World}{Q:Exit→Act→World→Prop}(hgd:o.guard=none)(s x:Operand)
 (ho:o.op= .call { callee:= .builtin .append,args:=#[s,x],argTypes:=#[22,22] }) (base:Nat) (l:List Nd) (v:Value) (hs:a.eval s=v) (hrow:xI w base l v) (hbase:base≤w.heap.size) (hlen:l.length≤1000)
 (xs:List Nd) (us:List Value) (hx1:0<xs.length) (hx2:xs.length≤10) (hu:us.length=xs.length) (hus:∀u ∈ us,u.oneCell'=true)
 (hn:∀i (h:i<xs.length) (h':i<us.length),yn w (λg=>base≤g∧v.ownBlock≠some g) xs[i].l us[i]) (G:Nat) (hx:a.eval x= .slice (some ⟨G,0,none⟩) xs.length xs.length) (hG:zm w G 24 (Yw xs us).toArray)
 (L:Nat) (hL:l.length+xs.length=L) (h:∀A' C' w',xI w' base (l++xs) (.slice A' L C')→Below base w w'→wpList Tryz.prog ops Q rest (a.put o.dst (.slice A' L C')) w'):wpList Tryz.prog ops Q (o::rest) a w:=by
 obtain⟨v',w',hr,h2,h3,h4⟩:=JM (ty:=o.type) w base l v hrow hbase hlen xs us hx1 hx2 hu hus hn G hG;obtain⟨A',C',e⟩:=h2.slice;rw[List.length_append,hL]at e;refine wpList_plain hgd λK hK=>?_
 unfold Oper.wp execOp;simp only[ho,resolve,invoke,builtin,Sem.run_bind,Sem.run_pure,Result.andThen_ok,List.map_toArray,List.map_cons,List.map_nil,hs,hx,hr];subst e;exact hK _ _ (h A' C' w' h2 h3)
theorem FS{w:World}{P:Nat→Prop}{x:Nd}{u:Value}(h:yn w P x.l u):∀i (h:i< [x].length) (h':i< [u].length),yn w P [x][i].l [u][i]:=by
 intro i hi hi';have :i=0:=by simp at hi;omega
 subst this;exact h
theorem nd2{w:World}{P:Nat→Prop}{x y:Nd}{u v:Value}(h:yn w P x.l u)(k:yn w P y.l v):∀i (h:i< [x,y].length) (h':i< [u,v].length),yn w P [x,y][i].l [u,v][i]:=by
 intro i hi hi';have :i=0∨i=1:=by simp at hi;omega
 rcases this with rfl|rfl
 ·exact h
 ·exact k
theorem JU(A:Option Addr)(L C:Nat):∀u ∈ [Value.slice A L C],u.oneCell'=true:=by
 intro u hu;simp at hu;subst hu;rfl
theorem zcX(A:Option Addr)(L C:Nat)(A':Option Addr)(L' C':Nat):∀u ∈ [Value.slice A L C,Value.slice A' L' C'],u.oneCell'=true:=by
 intro u hu;simp at hu;rcases hu with rfl|rfl<;>rfl
theorem xI.apart{w w':World}{base:Nat}{l l':List Nd}{v x:Value}(row:xI w base l v)(hx:yn w' (λg=>w.heap.size≤g) l' x)(hb:base≤w.heap.size):yn w' (λg=>base≤g∧v.ownBlock≠some g) l' x:=
 hx.mono λg hg=>⟨by omega,λe=>by have:=row.lt e;omega⟩
end
section
open Go.ChangeShapes Go.WideShapes Go.ChangeAt Go.RowKit
theorem uq{w:World}{rb:Nat}{A:Option Addr}{C:Nat}{ts:zL}{i en:Nat}{k:Int}(h:zT w rb A C ts i en 0 k)(hG:xk ts)(d N:Nat)(hN:N≤12)(hi:i<ts.length)(hk:ts[i].1.kind=0)(hs:ts[i].1.s=qX)
 (hx:∀(w:World) (i:Nat) (bad k:Int),zT w rb A C ts i en bad k→Calls Tryz.prog 32 #[.pointer (some ⟨rb,0,none⟩),.int .i64 ((N:Int)+1)] w (qT w rb A C ts i en bad (qA d))):
 Calls Tryz.prog 32 #[.pointer (some ⟨rb,0,none⟩),.int .i64 (N:Nat)] w (qT w rb A C ts i en 0 (qA (d+1))):=by
 have hpx:=Vp (d:=d) (en:=en) hi hk hs (by decide) (by decide);have hR:=h;have hlt:=h.has.lt;have hf:=h.few
 have hop:∀W k,zT W rb A C ts i en 0 k→Calls Tryz.prog 53 #[.pointer (some ⟨rb,0,none⟩)] W λe w'=>e= .returned (.string ⟨#[108,105,110,101,97,114]⟩)∧Below W.heap.size W w':=by
  intro W k h;refine(QG h).mono ?_;rintro e w' ⟨rfl,hb⟩;refine⟨?_,hb⟩
  have :vW ZZ (v7 0 ts i)=qX:=by
   have hb:∀s,v7 0 ts i s=(s==qX):=by
    intro s;unfold v7;rw[jc hi];unfold xe;rw[hk,hs];simp only[decide_true,Bool.true_and,beq_self_eq_true,Bool.true_or];rw[Bool.eq_iff_iff];simp only[beq_iff_eq];exact eq_comm
   rw[show v7 0 ts i=λs=>s==qX from funext hb];decide
  rw[this];rfl
 have hpl:∀W k,zT W rb A C ts i en 0 k→Calls Tryz.prog 26 #[.pointer (some ⟨rb,0,none⟩)] W λe w'=>e= .returned (.int .i64 (ts[i].2:Nat))∧Below W.heap.size W w':=by
  intro W k h;refine(vi h).mono ?_;rintro e w' ⟨rfl,q,rfl⟩;rw[vw hi];exact⟨rfl,j7 (Below.refl _ _) _⟩
 have h0:=h.kp (zl w (.cells #[.string ⟨#[]⟩,.string ⟨#[]⟩,.int .i64 0,.int .i64 0,.slice none 0 0] 24));have hN0:=zm.new w 24 #[.string ⟨#[]⟩,.string ⟨#[]⟩,.int .i64 0,.int .i64 0,.slice none 0 0];rw[show(qA (d+1))=qA (d+1)from rfl];have fin:∀(e:Ending) (w':World),qT w rb A C ts i en 0 (λ_ _=>qA (d+1) en (ts.drop i)) e w'→qT w rb A C ts i en 0 (qA (d+1)) e w':=λe w' h=>h
 rw[hpx]at fin;generalize ts[i].2=at_ at hpl fin;clear hpx hs hk;have hi1:i+1≤ts.length:=by omega
 have hi5:(i:Int)≤500:=by omega
 go_enter Tryz.func32,Tryz.ntmps32
 go_wp2_with (first
  |((go_at_call 53)
    refine(hop _ _ h0).mono ?_;rintro e w1 ⟨rfl,hb1⟩;have h1:=h0.kp hb1;have c1:=h1.has.cell 3;have l1:=h1.has.lt;(simp only[qH,qG,qI]at c1))
  |((go_at_call 26)
    refine(hpl _ _ h1).mono ?_;rintro e w2 ⟨rfl,hb2⟩;have h2:=h1.kp hb2;have c2:=h2.has.cell 1;have d2:=h2.has.free 1;have l2:=h2.has.lt;simp only[qH,qG,qI]at c2;have N2:=(hN0.below hb1 hN0.lt).below hb2 (hN0.below hb1 hN0.lt).lt;have lp2:=N2.lt;have E3:yR w rb A C ts i en w2.heap.size ⟨#[108,105,110,101,97,114]⟩ (at_:Nat) ((w2.setCell ⟨rb,1,none⟩ (.int .i64 ((i:Int)+1))).alloc (.cells #[.string ⟨#[108,105,110,101,97,114]⟩,.string ⟨#[]⟩,.int .i64 0,.int .i64 (at_:Nat),.slice none 0 0] 24)) (i+1) 0 [] (.slice none 0 0):=xW hR hb1 hb2 hi1 hlt;have pq:=E3.pq;(obtain⟨k3,h3⟩:=E3.at hR))
  |((go_at_call 31)
    refine qN ((w2.setCell ⟨rb,1,none⟩ (.int .i64 ((i:Int)+1))).alloc (.cells #[.string ⟨#[108,105,110,101,97,114]⟩,.string ⟨#[]⟩,.int .i64 0,.int .i64 (at_:Nat),.slice none 0 0] 24)) ?_;refine(ji h3 [40]).mono ?_;rintro e w4 ⟨rfl,i4,b4,s4,t4,T4⟩;rw[ve hG (by decide)]at T4;have E4:=E3.rst s4;obtain⟨k4,h4⟩:=jQ.at h3 s4;have z4:=s4.2.2.1.size;have q4:=E4.hq.cell 4;have r4:=E4.hq.lt;(have f4:=E4.hq.free 4))
  |((go_at_call 32)
    refine qN (w4) ?_;refine(hx _ _ _ _ h4).mono ?_;rintro e w5 ⟨i5,b5,x5,A5,C5,rfl,N5,s5,T5,l5⟩;have E5:=E4.rst s5;obtain⟨k5,h5⟩:=jQ.at h4 s5;have z5:=s5.2.2.1.size;have q5:=E5.hq.cell 4;have r5:=E5.hq.lt;have f5:=E5.hq.free 4;simp only[qD];have E5a:=(E5.alloc (.cells #[.string (bs x5.op),.string (bs x5.s),.int .i64 x5.n,.int .i64 x5.a,.slice A5 x5.l.length C5] 24)).alloc (.cells #[.string (bs x5.op),.string (bs x5.s),.int .i64 x5.n,.int .i64 x5.a,.slice A5 x5.l.length C5] 24);(have N5a:=(E4.row.apart N5 (by omega)).grow (((Below.refl _ w5).alloc (Nat.le_refl _) (.cells #[.string (bs x5.op),.string (bs x5.s),.int .i64 x5.n,.int .i64 x5.a,.slice A5 x5.l.length C5] 24)).alloc (by simp) (.cells #[.string (bs x5.op),.string (bs x5.s),.int .i64 x5.n,.int .i64 x5.a,.slice A5 x5.l.length C5] 24))))
  |((refine zi 58 rfl ?_)
    refine zY rfl _ _ rfl (w2.heap.size+1) [] _ rfl E5a.row (by simp;omega) (by decide) [x5] [.slice A5 x5.l.length C5] (by simp) (by simp) rfl (JU _ _ _) (FS N5a) (w5.heap.size+1) rfl (zm.new_at (by simp)) 1 rfl ?_;intro A6 C6 w6 R6 B6;have E6:=E5a.put R6 B6;have u6:=(E5a.hq.below B6 (by omega)).cell 4;have v6:=(E5a.hq.below B6 (by omega)).free 4;have y6:=(E5a.hq.below B6 (by omega)).lt;(obtain⟨k6,h6⟩:=E6.at hR))
  |((go_at_call 31)
    refine qN (w6.setCell ⟨w2.heap.size,4,none⟩ (.slice A6 1 C6)) ?_;refine(ji h6 [44]).mono ?_;rintro e w7 ⟨rfl,i7,b7,s7,t7,T7⟩;rw[ve hG (by decide)]at T7;have E7:=E6.rst s7;obtain⟨k7,h7⟩:=jQ.at h6 s7;have z7:=s7.2.2.1.size;have q7:=E7.hq.cell 4;have r7:=E7.hq.lt;(have f7:=E7.hq.free 4))
  |((go_at_call 54)
    refine qN (w7) ?_;refine(JL h7 (qA d)).mono ?_;rintro e w8 ⟨i8,b8,x8,A8,C8,rfl,N8,s8,T8,l8⟩;have E8:=E7.rst s8;obtain⟨k8,h8⟩:=jQ.at h7 s8;have z8:=s8.2.2.1.size;have q8:=E8.hq.cell 4;have r8:=E8.hq.lt;have f8:=E8.hq.free 4;simp only[qD];have E8a:=E8.alloc (.cells #[.string (bs x8.op),.string (bs x8.s),.int .i64 x8.n,.int .i64 x8.a,.slice A8 x8.l.length C8] 24);obtain⟨k8a,h8a⟩:=E8a.at hR;have O8:=zm.new w8 24 #[.string (bs x8.op),.string (bs x8.s),.int .i64 x8.n,.int .i64 x8.a,.slice A8 x8.l.length C8];(have N8a:=(E7.row.apart N8 (by omega))))
  |((go_at_call 31)
    refine qN (w8.alloc (.cells #[.string (bs x8.op),.string (bs x8.s),.int .i64 x8.n,.int .i64 x8.a,.slice A8 x8.l.length C8] 24)) ?_;refine(ji h8a [44]).mono ?_;rintro e w9 ⟨rfl,i9,b9,s9,t9,T9⟩;rw[ve hG (by decide)]at T9;have E9:=E8a.rst s9;obtain⟨k9,h9⟩:=jQ.at h8a s9;have z9:=s9.2.2.1.size;have q9:=E9.hq.cell 4;have r9:=E9.hq.lt;have f9:=E9.hq.free 4;(have O9:=O8.kp s9.2.2.1 (by omega)))
  |((go_at_call 54)
    refine qN (w9) ?_;refine(JL h9 (qA d)).mono ?_;rintro e w10 ⟨i10,b10,x10,A10,C10,rfl,N10,s10,T10,l10⟩;have E10:=E9.rst s10;obtain⟨k10,h10⟩:=jQ.at h9 s10;have z10:=s10.2.2.1.size;have q10:=E10.hq.cell 4;have r10:=E10.hq.lt;have f10:=E10.hq.free 4;have O10:=O9.kp s10.2.2.1 (by omega);simp only[qD];have cc0:=O10.cell 0;have cc1:=O10.cell 1;have cc2:=O10.cell 2;have cc3:=O10.cell 3;have cc4:=O10.cell 4;have lo10:=O10.lt;have E10a:=(E10.alloc (.cells #[.string (bs x10.op),.string (bs x10.s),.int .i64 x10.n,.int .i64 x10.a,.slice A10 x10.l.length C10] 24)).alloc (.cells #[.string (bs x8.op),.string (bs x8.s),.int .i64 x8.n,.int .i64 x8.a,.slice A8 x8.l.length C8,.string (bs x10.op),.string (bs x10.s),.int .i64 x10.n,.int .i64 x10.a,.slice A10 x10.l.length C10] 24);have N10a:=(E9.row.apart N10 (by omega)).grow (((Below.refl _ w10).alloc (Nat.le_refl _) (.cells #[.string (bs x10.op),.string (bs x10.s),.int .i64 x10.n,.int .i64 x10.a,.slice A10 x10.l.length C10] 24)).alloc (by simp) (.cells #[.string (bs x8.op),.string (bs x8.s),.int .i64 x8.n,.int .i64 x8.a,.slice A8 x8.l.length C8,.string (bs x10.op),.string (bs x10.s),.int .i64 x10.n,.int .i64 x10.a,.slice A10 x10.l.length C10] 24));(have N8b:=(N8a.kp (((Kp.of (zl w8 (.cells #[.string (bs x8.op),.string (bs x8.s),.int .i64 x8.n,.int .i64 x8.a,.slice A8 x8.l.length C8] 24))).trans s9.2.2.1).trans s10.2.2.1) (λg hg=>by omega)).grow (((Below.refl _ w10).alloc (Nat.le_refl _) (.cells #[.string (bs x10.op),.string (bs x10.s),.int .i64 x10.n,.int .i64 x10.a,.slice A10 x10.l.length C10] 24)).alloc (by simp) (.cells #[.string (bs x8.op),.string (bs x8.s),.int .i64 x8.n,.int .i64 x8.a,.slice A8 x8.l.length C8,.string (bs x10.op),.string (bs x10.s),.int .i64 x10.n,.int .i64 x10.a,.slice A10 x10.l.length C10] 24))))
  |((refine zi 98 rfl ?_)
    refine zY rfl _ _ rfl (w2.heap.size+1) [x5] _ rfl E10a.row (by simp;omega) (by simp) [x8,x10] [.slice A8 x8.l.length C8,.slice A10 x10.l.length C10] (by simp) (by simp) rfl (zcX _ _ _ _ _ _) (nd2 N8b N10a) (w10.heap.size+1) rfl (zm.new_at (by simp)) 3 rfl ?_;intro A11 C11 w11 R11 B11;have E11:=E10a.put R11 B11;have u11:=(E10a.hq.below B11 (by omega)).cell 4;have v11:=(E10a.hq.below B11 (by omega)).free 4;have y11:=(E10a.hq.below B11 (by omega)).lt;(obtain⟨k11,h11⟩:=E11.at hR))
  |((go_at_call 31)
    refine qN (w11.setCell ⟨w2.heap.size,4,none⟩ (.slice A11 3 C11)) ?_;refine(ji h11 [41]).mono ?_;rintro e w12 ⟨rfl,i12,b12,s12,t12,T12⟩;rw[ve hG (by decide)]at T12;have E12:=E11.rst s12;obtain⟨k12,h12⟩:=jQ.at h11 s12;have z12:=s12.2.2.1.size;have q12:=E12.hq.cell 4;have r12:=E12.hq.lt;have f12:=E12.hq.free 4;have p12:=E12.hp.lt;have ca0:=E12.hp.cell 0;have ca1:=E12.hp.cell 1;have ca2:=E12.hp.cell 2;have ca3:=E12.hp.cell 3;have ca4:=E12.hp.cell 4;have fa0:=E12.hp.free 0;have fa1:=E12.hp.free 1;have fa2:=E12.hp.free 2;have fa3:=E12.hp.free 3;have fa4:=E12.hp.free 4;have cb0:=E12.hq.cell 0;have cb1:=E12.hq.cell 1;have cb2:=E12.hq.cell 2;have cb3:=E12.hq.cell 3;(have cb4:=E12.hq.cell 4))
  )
 refine jL rfl rfl (E12.hp.set5 _ _ _ _ _) rfl (fin _ _ ?_);refine⟨i12,b12,.mk qX [] 0 (at_:Nat) [x5,x8,x10],A11,C11,rfl,?_,jQ.set5 E12.st (Nat.le_refl _) hlt _ _ _ _ _,(Z1 rfl T4 (gw (ks:= .nu) (kt:= .nu) T5 T7 T8 T9 T10) T12).map (λl=>Nd.mk qX [] 0 (at_:Nat) l),Nat.le_of_ble_eq_true rfl⟩;exact(E12.row.done.mono λg hg=>(by omega:w.heap.size≤g∧g≠w.heap.size)).set5 (λg hg=>hg.2) _ _ _ _ _ |>.mono λg hg=>hg.1
theorem uE{w:World}{rb:Nat}{A:Option Addr}{C:Nat}{ts:zL}{i en:Nat}{k:Int}(h:zT w rb A C ts i en 0 k)(hG:xk ts)(d N:Nat)(hN:N≤12)(hi:i<ts.length)(hk:ts[i].1.kind=0)(hs:ts[i].1.s=qQ)
 (hx:∀(w:World) (i:Nat) (bad k:Int),zT w rb A C ts i en bad k→Calls Tryz.prog 32 #[.pointer (some ⟨rb,0,none⟩),.int .i64 ((N:Int)+1)] w (qT w rb A C ts i en bad (qA d))):
 Calls Tryz.prog 32 #[.pointer (some ⟨rb,0,none⟩),.int .i64 (N:Nat)] w (qT w rb A C ts i en 0 (qA (d+1))):=by
 have hpx:=Vp (d:=d) (en:=en) hi hk hs (by decide) (by decide);have hR:=h;have hlt:=h.has.lt;have hf:=h.few
 have hop:∀W k,zT W rb A C ts i en 0 k→Calls Tryz.prog 53 #[.pointer (some ⟨rb,0,none⟩)] W λe w'=>e= .returned (.string ⟨#[99,111,110,99,97,116]⟩)∧Below W.heap.size W w':=by
  intro W k h;refine(QG h).mono ?_;rintro e w' ⟨rfl,hb⟩;refine⟨?_,hb⟩
  have :vW ZZ (v7 0 ts i)=qQ:=by
   have hb:∀s,v7 0 ts i s=(s==qQ):=by
    intro s;unfold v7;rw[jc hi];unfold xe;rw[hk,hs];simp only[decide_true,Bool.true_and,beq_self_eq_true,Bool.true_or];rw[Bool.eq_iff_iff];simp only[beq_iff_eq];exact eq_comm
   rw[show v7 0 ts i=λs=>s==qQ from funext hb];decide
  rw[this];rfl
 have hpl:∀W k,zT W rb A C ts i en 0 k→Calls Tryz.prog 26 #[.pointer (some ⟨rb,0,none⟩)] W λe w'=>e= .returned (.int .i64 (ts[i].2:Nat))∧Below W.heap.size W w':=by
  intro W k h;refine(vi h).mono ?_;rintro e w' ⟨rfl,q,rfl⟩;rw[vw hi];exact⟨rfl,j7 (Below.refl _ _) _⟩
 have h0:=h.kp (zl w (.cells #[.string ⟨#[]⟩,.string ⟨#[]⟩,.int .i64 0,.int .i64 0,.slice none 0 0] 24));have hN0:=zm.new w 24 #[.string ⟨#[]⟩,.string ⟨#[]⟩,.int .i64 0,.int .i64 0,.slice none 0 0];rw[show(qA (d+1))=qA (d+1)from rfl];have fin:∀(e:Ending) (w':World),qT w rb A C ts i en 0 (λ_ _=>qA (d+1) en (ts.drop i)) e w'→qT w rb A C ts i en 0 (qA (d+1)) e w':=λe w' h=>h
 rw[hpx]at fin;generalize ts[i].2=at_ at hpl fin;clear hpx hs hk;have hi1:i+1≤ts.length:=by omega
 have hi5:(i:Int)≤500:=by omega
 go_enter Tryz.func32,Tryz.ntmps32
 go_wp2_with (first
  |((go_at_call 53)
    refine(hop _ _ h0).mono ?_;rintro e w1 ⟨rfl,hb1⟩;have h1:=h0.kp hb1;have c1:=h1.has.cell 3;have l1:=h1.has.lt;(simp only[qH,qG,qI]at c1))
  |((go_at_call 26)
    refine(hpl _ _ h1).mono ?_;rintro e w2 ⟨rfl,hb2⟩;have h2:=h1.kp hb2;have c2:=h2.has.cell 1;have d2:=h2.has.free 1;have l2:=h2.has.lt;simp only[qH,qG,qI]at c2;have N2:=(hN0.below hb1 hN0.lt).below hb2 (hN0.below hb1 hN0.lt).lt;have lp2:=N2.lt;have E3:yR w rb A C ts i en w2.heap.size ⟨#[99,111,110,99,97,116]⟩ (at_:Nat) ((w2.setCell ⟨rb,1,none⟩ (.int .i64 ((i:Int)+1))).alloc (.cells #[.string ⟨#[99,111,110,99,97,116]⟩,.string ⟨#[]⟩,.int .i64 0,.int .i64 (at_:Nat),.slice none 0 0] 24)) (i+1) 0 [] (.slice none 0 0):=xW hR hb1 hb2 hi1 hlt;have pq:=E3.pq;(obtain⟨k3,h3⟩:=E3.at hR))
  |((go_at_call 31)
    refine qN ((w2.setCell ⟨rb,1,none⟩ (.int .i64 ((i:Int)+1))).alloc (.cells #[.string ⟨#[99,111,110,99,97,116]⟩,.string ⟨#[]⟩,.int .i64 0,.int .i64 (at_:Nat),.slice none 0 0] 24)) ?_;refine(ji h3 [40]).mono ?_;rintro e w4 ⟨rfl,i4,b4,s4,t4,T4⟩;rw[ve hG (by decide)]at T4;have E4:=E3.rst s4;obtain⟨k4,h4⟩:=jQ.at h3 s4;have z4:=s4.2.2.1.size;have q4:=E4.hq.cell 4;have r4:=E4.hq.lt;(have f4:=E4.hq.free 4))
  |((go_at_call 32)
    refine qN (w4) ?_;refine(hx _ _ _ _ h4).mono ?_;rintro e w5 ⟨i5,b5,x5,A5,C5,rfl,N5,s5,T5,l5⟩;have E5:=E4.rst s5;obtain⟨k5,h5⟩:=jQ.at h4 s5;have z5:=s5.2.2.1.size;have q5:=E5.hq.cell 4;have r5:=E5.hq.lt;have f5:=E5.hq.free 4;simp only[qD];have E5a:=(E5.alloc (.cells #[.string (bs x5.op),.string (bs x5.s),.int .i64 x5.n,.int .i64 x5.a,.slice A5 x5.l.length C5] 24)).alloc (.cells #[.string (bs x5.op),.string (bs x5.s),.int .i64 x5.n,.int .i64 x5.a,.slice A5 x5.l.length C5] 24);(have N5a:=(E4.row.apart N5 (by omega)).grow (((Below.refl _ w5).alloc (Nat.le_refl _) (.cells #[.string (bs x5.op),.string (bs x5.s),.int .i64 x5.n,.int .i64 x5.a,.slice A5 x5.l.length C5] 24)).alloc (by simp) (.cells #[.string (bs x5.op),.string (bs x5.s),.int .i64 x5.n,.int .i64 x5.a,.slice A5 x5.l.length C5] 24))))
  |((refine zi 58 rfl ?_)
    refine zY rfl _ _ rfl (w2.heap.size+1) [] _ rfl E5a.row (by simp;omega) (by decide) [x5] [.slice A5 x5.l.length C5] (by simp) (by simp) rfl (JU _ _ _) (FS N5a) (w5.heap.size+1) rfl (zm.new_at (by simp)) 1 rfl ?_;intro A6 C6 w6 R6 B6;have E6:=E5a.put R6 B6;have u6:=(E5a.hq.below B6 (by omega)).cell 4;have v6:=(E5a.hq.below B6 (by omega)).free 4;have y6:=(E5a.hq.below B6 (by omega)).lt;(obtain⟨k6,h6⟩:=E6.at hR))
  |((go_at_call 27)
    refine qN (w6.setCell ⟨w2.heap.size,4,none⟩ (.slice A6 1 C6)) ?_;refine(vN h6 [44]).mono ?_;rintro e w7 ⟨rfl,q7,rfl⟩;(have E7:=E6.drewN q7))
  )
 go_loopw [14] (λz wr=>∃(ir:Nat) (br:Int) (m:List Nd) (Ar:Option Addr) (Cr:Nat),z= .bool (v7 br ts ir [44])∧yR w rb A C ts i en w2.heap.size ⟨#[99,111,110,99,97,116]⟩ (at_:Nat) wr ir br (x5::m) (.slice Ar (m.length+1) Cr)∧Hid (Z3 (qA d) en ts b5 i5 m ir br)∧m.length≤ir) (λ_ wz=>501-ka rb wz)
 case atStart=>exact⟨i5,b5,[],A6,C6,rfl,E7,Z3.start _ _ _ _ _,Nat.zero_le _⟩
 case round =>
  obtain⟨ir,br,m,Ar,Cr,rfl,E8,HM,hml⟩:=hrel;obtain⟨k8,h8⟩:=E8.at hR;have l8:=h8.has.lt;have r8:=E8.hq.lt;have hw5:i5≤ts.length:=s5.2.1;cases hc:v7 br ts ir [44]
  ·have hn:=Qz hc
   have T9:=HM.out.stop (by
    rcases hn with e|e
    ·exact .inl e
    ·refine .inr ?_
     by_cases hj:ir<ts.length
     ·rw[jc hj]at e ⊢
      show xE [44] _=false;unfold xE;unfold xe at e;cases h3:ts[ir].1.kind==3 with
      |false=>rfl
      |true=>rw[h3]at e;simpa using e
     ·exact yL hj) 501 (by omega)
   have HT9:Hid (qF b5 (ZU (qA d) 501 en (ts.drop i5)) ts m ir br):=T9;clear T9 hn HM
   go_wp2_with (first
    |((go_at_call 31)
      refine qN (wr) ?_;refine(ji h8 [41]).mono ?_;rintro e w10 ⟨rfl,i10,b10,s10,t10,T10⟩;rw[ve hG (by decide)]at T10;have E10:=E8.rst s10;obtain⟨k10,h10⟩:=jQ.at h8 s10;have z10:=s10.2.2.1.size;have q10:=E10.hq.cell 4;have r10:=E10.hq.lt;have f10:=E10.hq.free 4;have p10:=E10.hp.lt;have ca0:=E10.hp.cell 0;have ca1:=E10.hp.cell 1;have ca2:=E10.hp.cell 2;have ca3:=E10.hp.cell 3;have ca4:=E10.hp.cell 4;have fa0:=E10.hp.free 0;have fa1:=E10.hp.free 1;have fa2:=E10.hp.free 2;have fa3:=E10.hp.free 3;have fa4:=E10.hp.free 4;have cb0:=E10.hq.cell 0;have cb1:=E10.hq.cell 1;have cb2:=E10.hq.cell 2;have cb3:=E10.hq.cell 3;(have cb4:=E10.hq.cell 4))
    )
   refine jL rfl rfl (E10.hp.set5 _ _ _ _ _) rfl (fin _ _ ?_);refine⟨i10,b10,.mk qQ [] 0 (at_:Nat) (x5::m),Ar,Cr,rfl,?_,jQ.set5 E10.st (Nat.le_refl _) hlt _ _ _ _ _,(YL (l:= [x5]) rfl T4 (ga T5) HT9.out T10).map (λl=>Nd.mk qQ [] 0 (at_:Nat) l),by show m.length+1≤501;have:=h8.le;omega⟩;exact(E10.row.done.mono λg hg=>(by omega:w.heap.size≤g∧g≠w.heap.size)).set5 (λg hg=>hg.2) _ _ _ _ _ |>.mono λg hg=>hg.1
  ·obtain⟨rfl,hj,hp⟩:=ZF hc
   have E9:=E8.step hj;obtain⟨k9,h9⟩:=E9.at hR;have c8:=h8.has.cell 1;have d8:=h8.has.free 1;simp only[qH,qG,qI]at c8
   have hcm:gx ts[ir].1=true:=by
    show xE [44] _=true;have e:=ve hG (c:=44) (by decide) en ir;rw[List.drop_eq_getElem_cons hj]at e;simp only[qi]at e;rw[if_pos hp]at e;cases h4:xE [44] ts[ir].1 with
    |true=>rfl
    |false=>rw[h4]at e;cases e
   have HC:Hid (gx ts[ir].1=true):=hcm;have hf5:=hR.few;have hir:(ir:Int)≤500:=by omega
   have hml2:m.length≤500:=by omega
   have hE8:=E8.pos;have HE8:Hid (ka rb wr=ir):=hE8;clear hcm hp hE8
   obtain⟨M,hM⟩:∃M,M=m.length+1:=⟨_,rfl⟩
   have HMM:Hid (M=m.length+1):=hM;rw[←hM]at E8 E9;clear hM
   go_wp2_with (first
    |((go_at_call 32)
      refine qN (wr.setCell ⟨rb,1,none⟩ (.int .i64 ((ir:Int)+1))) ?_;refine(hx _ _ _ _ h9).mono ?_;rintro e w10 ⟨i10,b10,x10,A10,C10,rfl,N10,s10,T10,l10⟩;have E10:=E9.rst s10;obtain⟨k10,h10⟩:=jQ.at h9 s10;have z10:=s10.2.2.1.size;have q10:=E10.hq.cell 4;have r10:=E10.hq.lt;have f10:=E10.hq.free 4;simp only[qD];have E10a:=(E10.alloc (.cells #[.string (bs x10.op),.string (bs x10.s),.int .i64 x10.n,.int .i64 x10.a,.slice A10 x10.l.length C10] 24)).alloc (.cells #[.string (bs x10.op),.string (bs x10.s),.int .i64 x10.n,.int .i64 x10.a,.slice A10 x10.l.length C10] 24);(have N10a:=(E9.row.apart N10 (by simp;omega)).grow (((Below.refl _ w10).alloc (Nat.le_refl _) (.cells #[.string (bs x10.op),.string (bs x10.s),.int .i64 x10.n,.int .i64 x10.a,.slice A10 x10.l.length C10] 24)).alloc (by simp) (.cells #[.string (bs x10.op),.string (bs x10.s),.int .i64 x10.n,.int .i64 x10.a,.slice A10 x10.l.length C10] 24))))
    |((refine zi 79 rfl ?_)
      refine zY rfl _ _ rfl (w2.heap.size+1) (x5::m) _ rfl E10a.row (by simp;omega) (by simp;omega) [x10] [.slice A10 x10.l.length C10] (by simp) (by simp) rfl (JU _ _ _) (FS N10a) (w10.heap.size+1) rfl (zm.new_at (by simp)) (M+1) (by rw[HMM.out];simp) ?_;intro A11 C11 w11 R11 B11;have E11:=E10a.put R11 B11;have u11:=(E10a.hq.below B11 (by omega)).cell 4;have v11:=(E10a.hq.below B11 (by omega)).free 4;have y11:=(E10a.hq.below B11 (by omega)).lt;(obtain⟨k11,h11⟩:=E11.at hR))
    |((go_at_call 27)
      refine(vN h11 [44]).mono ?_;(rintro e w12 ⟨rfl,q12,rfl⟩)))
   go_roundw
   case rel =>
    refine⟨i10,b10,m++ [x10],A11,C11,rfl,?_,HM.out.next hj HC.out T10 s10.1,?_⟩
    ·have e:M+1=(m++ [x10]).length+1:=by rw[HMM.out];simp
     rw[←e];exact E11.drewN q12
    ·have:=s10.1
     simp;omega
   case measure =>
    have e1:=(E11.drewN q12).pos;have e2:=HE8.out;have:=s10.1;rw[e1,e2];omega
theorem uw{w:World}{rb:Nat}{A:Option Addr}{C:Nat}{ts:zL}{i en:Nat}{k:Int}(h:zT w rb A C ts i en 0 k)(hG:xk ts)(d N:Nat)(hN:N≤12)(hi:i<ts.length)(hk:ts[i].1.kind=0)(hs:ts[i].1.s=je)
 (hx:∀(w:World) (i:Nat) (bad k:Int),zT w rb A C ts i en bad k→Calls Tryz.prog 32 #[.pointer (some ⟨rb,0,none⟩),.int .i64 ((N:Int)+1)] w (qT w rb A C ts i en bad (qA d))):
 Calls Tryz.prog 32 #[.pointer (some ⟨rb,0,none⟩),.int .i64 (N:Nat)] w (qT w rb A C ts i en 0 (qA (d+1))):=by
 have hpx:=Vp (d:=d) (en:=en) hi hk hs (by decide) (by decide);have hR:=h;have hlt:=h.has.lt;have hf:=h.few
 have hop:∀W k,zT W rb A C ts i en 0 k→Calls Tryz.prog 53 #[.pointer (some ⟨rb,0,none⟩)] W λe w'=>e= .returned (.string ⟨#[109,105,114,114,111,114]⟩)∧Below W.heap.size W w':=by
  intro W k h;refine(QG h).mono ?_;rintro e w' ⟨rfl,hb⟩;refine⟨?_,hb⟩
  have :vW ZZ (v7 0 ts i)=je:=by
   have hb:∀s,v7 0 ts i s=(s==je):=by
    intro s;unfold v7;rw[jc hi];unfold xe;rw[hk,hs];simp only[decide_true,Bool.true_and,beq_self_eq_true,Bool.true_or];rw[Bool.eq_iff_iff];simp only[beq_iff_eq];exact eq_comm
   rw[show v7 0 ts i=λs=>s==je from funext hb];decide
  rw[this];rfl
 have hpl:∀W k,zT W rb A C ts i en 0 k→Calls Tryz.prog 26 #[.pointer (some ⟨rb,0,none⟩)] W λe w'=>e= .returned (.int .i64 (ts[i].2:Nat))∧Below W.heap.size W w':=by
  intro W k h;refine(vi h).mono ?_;rintro e w' ⟨rfl,q,rfl⟩;rw[vw hi];exact⟨rfl,j7 (Below.refl _ _) _⟩
 have h0:=h.kp (zl w (.cells #[.string ⟨#[]⟩,.string ⟨#[]⟩,.int .i64 0,.int .i64 0,.slice none 0 0] 24));have hN0:=zm.new w 24 #[.string ⟨#[]⟩,.string ⟨#[]⟩,.int .i64 0,.int .i64 0,.slice none 0 0];rw[show(qA (d+1))=qA (d+1)from rfl];have fin:∀(e:Ending) (w':World),qT w rb A C ts i en 0 (λ_ _=>qA (d+1) en (ts.drop i)) e w'→qT w rb A C ts i en 0 (qA (d+1)) e w':=λe w' h=>h
 rw[hpx]at fin;generalize ts[i].2=at_ at hpl fin;clear hpx hs hk;have hi1:i+1≤ts.length:=by omega
 have hi5:(i:Int)≤500:=by omega
 go_enter Tryz.func32,Tryz.ntmps32
 go_wp2_with (first
  |((go_at_call 53)
    refine(hop _ _ h0).mono ?_;rintro e w1 ⟨rfl,hb1⟩;have h1:=h0.kp hb1;have c1:=h1.has.cell 3;have l1:=h1.has.lt;(simp only[qH,qG,qI]at c1))
  |((go_at_call 26)
    refine(hpl _ _ h1).mono ?_;rintro e w2 ⟨rfl,hb2⟩;have h2:=h1.kp hb2;have c2:=h2.has.cell 1;have d2:=h2.has.free 1;have l2:=h2.has.lt;simp only[qH,qG,qI]at c2;have N2:=(hN0.below hb1 hN0.lt).below hb2 (hN0.below hb1 hN0.lt).lt;have lp2:=N2.lt;have E3:yR w rb A C ts i en w2.heap.size ⟨#[109,105,114,114,111,114]⟩ (at_:Nat) ((w2.setCell ⟨rb,1,none⟩ (.int .i64 ((i:Int)+1))).alloc (.cells #[.string ⟨#[109,105,114,114,111,114]⟩,.string ⟨#[]⟩,.int .i64 0,.int .i64 (at_:Nat),.slice none 0 0] 24)) (i+1) 0 [] (.slice none 0 0):=xW hR hb1 hb2 hi1 hlt;have pq:=E3.pq;(obtain⟨k3,h3⟩:=E3.at hR))
  |((go_at_call 31)
    refine qN ((w2.setCell ⟨rb,1,none⟩ (.int .i64 ((i:Int)+1))).alloc (.cells #[.string ⟨#[109,105,114,114,111,114]⟩,.string ⟨#[]⟩,.int .i64 0,.int .i64 (at_:Nat),.slice none 0 0] 24)) ?_;refine(ji h3 [40]).mono ?_;rintro e w4 ⟨rfl,i4,b4,s4,t4,T4⟩;rw[ve hG (by decide)]at T4;have E4:=E3.rst s4;obtain⟨k4,h4⟩:=jQ.at h3 s4;have z4:=s4.2.2.1.size;have q4:=E4.hq.cell 4;have r4:=E4.hq.lt;(have f4:=E4.hq.free 4))
  |((go_at_call 32)
    refine qN (w4) ?_;refine(hx _ _ _ _ h4).mono ?_;rintro e w5 ⟨i5,b5,x5,A5,C5,rfl,N5,s5,T5,l5⟩;have E5:=E4.rst s5;obtain⟨k5,h5⟩:=jQ.at h4 s5;have z5:=s5.2.2.1.size;have q5:=E5.hq.cell 4;have r5:=E5.hq.lt;have f5:=E5.hq.free 4;simp only[qD];have E5a:=(E5.alloc (.cells #[.string (bs x5.op),.string (bs x5.s),.int .i64 x5.n,.int .i64 x5.a,.slice A5 x5.l.length C5] 24)).alloc (.cells #[.string (bs x5.op),.string (bs x5.s),.int .i64 x5.n,.int .i64 x5.a,.slice A5 x5.l.length C5] 24);(have N5a:=(E4.row.apart N5 (by omega)).grow (((Below.refl _ w5).alloc (Nat.le_refl _) (.cells #[.string (bs x5.op),.string (bs x5.s),.int .i64 x5.n,.int .i64 x5.a,.slice A5 x5.l.length C5] 24)).alloc (by simp) (.cells #[.string (bs x5.op),.string (bs x5.s),.int .i64 x5.n,.int .i64 x5.a,.slice A5 x5.l.length C5] 24))))
  |((refine zi 58 rfl ?_)
    refine zY rfl _ _ rfl (w2.heap.size+1) [] _ rfl E5a.row (by simp;omega) (by decide) [x5] [.slice A5 x5.l.length C5] (by simp) (by simp) rfl (JU _ _ _) (FS N5a) (w5.heap.size+1) rfl (zm.new_at (by simp)) 1 rfl ?_;intro A6 C6 w6 R6 B6;have E6:=E5a.put R6 B6;have u6:=(E5a.hq.below B6 (by omega)).cell 4;have v6:=(E5a.hq.below B6 (by omega)).free 4;have y6:=(E5a.hq.below B6 (by omega)).lt;(obtain⟨k6,h6⟩:=E6.at hR))
  |((go_at_call 27)
    refine qN (w6.setCell ⟨w2.heap.size,4,none⟩ (.slice A6 1 C6)) ?_;refine(vN h6 [44]).mono ?_;rintro e w7 ⟨rfl,q7,rfl⟩;(have E7:=E6.drewN q7))
  )
 go_loopw [14] (λz wr=>∃(ir:Nat) (br:Int) (m:List Nd) (Ar:Option Addr) (Cr:Nat),z= .bool (v7 br ts ir [44])∧yR w rb A C ts i en w2.heap.size ⟨#[109,105,114,114,111,114]⟩ (at_:Nat) wr ir br (x5::m) (.slice Ar (m.length+1) Cr)∧Hid (Z3 (qA d) en ts b5 i5 m ir br)∧m.length≤ir) (λ_ wz=>501-ka rb wz)
 case atStart=>exact⟨i5,b5,[],A6,C6,rfl,E7,Z3.start _ _ _ _ _,Nat.zero_le _⟩
 case round =>
  obtain⟨ir,br,m,Ar,Cr,rfl,E8,HM,hml⟩:=hrel;obtain⟨k8,h8⟩:=E8.at hR;have l8:=h8.has.lt;have r8:=E8.hq.lt;have hw5:i5≤ts.length:=s5.2.1;cases hc:v7 br ts ir [44]
  ·have hn:=Qz hc
   have T9:=HM.out.stop (by
    rcases hn with e|e
    ·exact .inl e
    ·refine .inr ?_
     by_cases hj:ir<ts.length
     ·rw[jc hj]at e ⊢
      show xE [44] _=false;unfold xE;unfold xe at e;cases h3:ts[ir].1.kind==3 with
      |false=>rfl
      |true=>rw[h3]at e;simpa using e
     ·exact yL hj) 501 (by omega)
   have HT9:Hid (qF b5 (ZU (qA d) 501 en (ts.drop i5)) ts m ir br):=T9;clear T9 hn HM
   go_wp2_with (first
    |((go_at_call 31)
      refine qN (wr) ?_;refine(ji h8 [41]).mono ?_;rintro e w10 ⟨rfl,i10,b10,s10,t10,T10⟩;rw[ve hG (by decide)]at T10;have E10:=E8.rst s10;obtain⟨k10,h10⟩:=jQ.at h8 s10;have z10:=s10.2.2.1.size;have q10:=E10.hq.cell 4;have r10:=E10.hq.lt;have f10:=E10.hq.free 4;have p10:=E10.hp.lt;have ca0:=E10.hp.cell 0;have ca1:=E10.hp.cell 1;have ca2:=E10.hp.cell 2;have ca3:=E10.hp.cell 3;have ca4:=E10.hp.cell 4;have fa0:=E10.hp.free 0;have fa1:=E10.hp.free 1;have fa2:=E10.hp.free 2;have fa3:=E10.hp.free 3;have fa4:=E10.hp.free 4;have cb0:=E10.hq.cell 0;have cb1:=E10.hq.cell 1;have cb2:=E10.hq.cell 2;have cb3:=E10.hq.cell 3;(have cb4:=E10.hq.cell 4))
    )
   refine jL rfl rfl (E10.hp.set5 _ _ _ _ _) rfl (fin _ _ ?_);refine⟨i10,b10,.mk je [] 0 (at_:Nat) (x5::m),Ar,Cr,rfl,?_,jQ.set5 E10.st (Nat.le_refl _) hlt _ _ _ _ _,(YL (l:= [x5]) rfl T4 (ga T5) HT9.out T10).map (λl=>Nd.mk je [] 0 (at_:Nat) l),by show m.length+1≤501;have:=h8.le;omega⟩;exact(E10.row.done.mono λg hg=>(by omega:w.heap.size≤g∧g≠w.heap.size)).set5 (λg hg=>hg.2) _ _ _ _ _ |>.mono λg hg=>hg.1
  ·obtain⟨rfl,hj,hp⟩:=ZF hc
   have E9:=E8.step hj;obtain⟨k9,h9⟩:=E9.at hR;have c8:=h8.has.cell 1;have d8:=h8.has.free 1;simp only[qH,qG,qI]at c8
   have hcm:gx ts[ir].1=true:=by
    show xE [44] _=true;have e:=ve hG (c:=44) (by decide) en ir;rw[List.drop_eq_getElem_cons hj]at e;simp only[qi]at e;rw[if_pos hp]at e;cases h4:xE [44] ts[ir].1 with
    |true=>rfl
    |false=>rw[h4]at e;cases e
   have HC:Hid (gx ts[ir].1=true):=hcm;have hf5:=hR.few;have hir:(ir:Int)≤500:=by omega
   have hml2:m.length≤500:=by omega
   have hE8:=E8.pos;have HE8:Hid (ka rb wr=ir):=hE8;clear hcm hp hE8
   obtain⟨M,hM⟩:∃M,M=m.length+1:=⟨_,rfl⟩
   have HMM:Hid (M=m.length+1):=hM;rw[←hM]at E8 E9;clear hM
   go_wp2_with (first
    |((go_at_call 32)
      refine qN (wr.setCell ⟨rb,1,none⟩ (.int .i64 ((ir:Int)+1))) ?_;refine(hx _ _ _ _ h9).mono ?_;rintro e w10 ⟨i10,b10,x10,A10,C10,rfl,N10,s10,T10,l10⟩;have E10:=E9.rst s10;obtain⟨k10,h10⟩:=jQ.at h9 s10;have z10:=s10.2.2.1.size;have q10:=E10.hq.cell 4;have r10:=E10.hq.lt;have f10:=E10.hq.free 4;simp only[qD];have E10a:=(E10.alloc (.cells #[.string (bs x10.op),.string (bs x10.s),.int .i64 x10.n,.int .i64 x10.a,.slice A10 x10.l.length C10] 24)).alloc (.cells #[.string (bs x10.op),.string (bs x10.s),.int .i64 x10.n,.int .i64 x10.a,.slice A10 x10.l.length C10] 24);(have N10a:=(E9.row.apart N10 (by simp;omega)).grow (((Below.refl _ w10).alloc (Nat.le_refl _) (.cells #[.string (bs x10.op),.string (bs x10.s),.int .i64 x10.n,.int .i64 x10.a,.slice A10 x10.l.length C10] 24)).alloc (by simp) (.cells #[.string (bs x10.op),.string (bs x10.s),.int .i64 x10.n,.int .i64 x10.a,.slice A10 x10.l.length C10] 24))))
    |((refine zi 79 rfl ?_)
      refine zY rfl _ _ rfl (w2.heap.size+1) (x5::m) _ rfl E10a.row (by simp;omega) (by simp;omega) [x10] [.slice A10 x10.l.length C10] (by simp) (by simp) rfl (JU _ _ _) (FS N10a) (w10.heap.size+1) rfl (zm.new_at (by simp)) (M+1) (by rw[HMM.out];simp) ?_;intro A11 C11 w11 R11 B11;have E11:=E10a.put R11 B11;have u11:=(E10a.hq.below B11 (by omega)).cell 4;have v11:=(E10a.hq.below B11 (by omega)).free 4;have y11:=(E10a.hq.below B11 (by omega)).lt;(obtain⟨k11,h11⟩:=E11.at hR))
    |((go_at_call 27)
      refine(vN h11 [44]).mono ?_;(rintro e w12 ⟨rfl,q12,rfl⟩)))
   go_roundw
   case rel =>
    refine⟨i10,b10,m++ [x10],A11,C11,rfl,?_,HM.out.next hj HC.out T10 s10.1,?_⟩
    ·have e:M+1=(m++ [x10]).length+1:=by rw[HMM.out];simp
     rw[←e];exact E11.drewN q12
    ·have:=s10.1
     simp;omega
   case measure =>
    have e1:=(E11.drewN q12).pos;have e2:=HE8.out;have:=s10.1;rw[e1,e2];omega
theorem Kv{w:World}{rb:Nat}{A:Option Addr}{C:Nat}{ts:zL}{i en:Nat}{k:Int}(h:zT w rb A C ts i en 0 k)(hG:xk ts)(d N:Nat)(hN:N≤12)(hi:i<ts.length)(hk:ts[i].1.kind=0)(hs:ts[i].1.s=qv)
 (hx:∀(w:World) (i:Nat) (bad k:Int),zT w rb A C ts i en bad k→Calls Tryz.prog 32 #[.pointer (some ⟨rb,0,none⟩),.int .i64 ((N:Int)+1)] w (qT w rb A C ts i en bad (qA d))):
 Calls Tryz.prog 32 #[.pointer (some ⟨rb,0,none⟩),.int .i64 (N:Nat)] w (qT w rb A C ts i en 0 (qA (d+1))):=by
 have hpx:=Vp (d:=d) (en:=en) hi hk hs (by decide) (by decide);have hR:=h;have hlt:=h.has.lt;have hf:=h.few
 have hop:∀W k,zT W rb A C ts i en 0 k→Calls Tryz.prog 53 #[.pointer (some ⟨rb,0,none⟩)] W λe w'=>e= .returned (.string ⟨#[115,110,97,112,115,104,111,116]⟩)∧Below W.heap.size W w':=by
  intro W k h;refine(QG h).mono ?_;rintro e w' ⟨rfl,hb⟩;refine⟨?_,hb⟩
  have :vW ZZ (v7 0 ts i)=qv:=by
   have hb:∀s,v7 0 ts i s=(s==qv):=by
    intro s;unfold v7;rw[jc hi];unfold xe;rw[hk,hs];simp only[decide_true,Bool.true_and,beq_self_eq_true,Bool.true_or];rw[Bool.eq_iff_iff];simp only[beq_iff_eq];exact eq_comm
   rw[show v7 0 ts i=λs=>s==qv from funext hb];decide
  rw[this];rfl
 have hpl:∀W k,zT W rb A C ts i en 0 k→Calls Tryz.prog 26 #[.pointer (some ⟨rb,0,none⟩)] W λe w'=>e= .returned (.int .i64 (ts[i].2:Nat))∧Below W.heap.size W w':=by
  intro W k h;refine(vi h).mono ?_;rintro e w' ⟨rfl,q,rfl⟩;rw[vw hi];exact⟨rfl,j7 (Below.refl _ _) _⟩
 have h0:=h.kp (zl w (.cells #[.string ⟨#[]⟩,.string ⟨#[]⟩,.int .i64 0,.int .i64 0,.slice none 0 0] 24));have hN0:=zm.new w 24 #[.string ⟨#[]⟩,.string ⟨#[]⟩,.int .i64 0,.int .i64 0,.slice none 0 0];rw[show(qA (d+1))=qA (d+1)from rfl];have fin:∀(e:Ending) (w':World),qT w rb A C ts i en 0 (λ_ _=>qA (d+1) en (ts.drop i)) e w'→qT w rb A C ts i en 0 (qA (d+1)) e w':=λe w' h=>h
 rw[hpx]at fin;generalize ts[i].2=at_ at hpl fin;clear hpx hs hk;have hi1:i+1≤ts.length:=by omega
 have hi5:(i:Int)≤500:=by omega
 go_enter Tryz.func32,Tryz.ntmps32
 go_wp2_with (first
  |((go_at_call 53)
    refine(hop _ _ h0).mono ?_;rintro e w1 ⟨rfl,hb1⟩;have h1:=h0.kp hb1;have c1:=h1.has.cell 3;have l1:=h1.has.lt;(simp only[qH,qG,qI]at c1))
  |((go_at_call 26)
    refine(hpl _ _ h1).mono ?_;rintro e w2 ⟨rfl,hb2⟩;have h2:=h1.kp hb2;have c2:=h2.has.cell 1;have d2:=h2.has.free 1;have l2:=h2.has.lt;simp only[qH,qG,qI]at c2;have N2:=(hN0.below hb1 hN0.lt).below hb2 (hN0.below hb1 hN0.lt).lt;have lp2:=N2.lt;have E3:yR w rb A C ts i en w2.heap.size ⟨#[115,110,97,112,115,104,111,116]⟩ (at_:Nat) ((w2.setCell ⟨rb,1,none⟩ (.int .i64 ((i:Int)+1))).alloc (.cells #[.string ⟨#[115,110,97,112,115,104,111,116]⟩,.string ⟨#[]⟩,.int .i64 0,.int .i64 (at_:Nat),.slice none 0 0] 24)) (i+1) 0 [] (.slice none 0 0):=xW hR hb1 hb2 hi1 hlt;have pq:=E3.pq;(obtain⟨k3,h3⟩:=E3.at hR))
  |((go_at_call 31)
    refine qN ((w2.setCell ⟨rb,1,none⟩ (.int .i64 ((i:Int)+1))).alloc (.cells #[.string ⟨#[115,110,97,112,115,104,111,116]⟩,.string ⟨#[]⟩,.int .i64 0,.int .i64 (at_:Nat),.slice none 0 0] 24)) ?_;refine(ji h3 [40]).mono ?_;rintro e w4 ⟨rfl,i4,b4,s4,t4,T4⟩;rw[ve hG (by decide)]at T4;have E4:=E3.rst s4;obtain⟨k4,h4⟩:=jQ.at h3 s4;have z4:=s4.2.2.1.size;have q4:=E4.hq.cell 4;have r4:=E4.hq.lt;(have f4:=E4.hq.free 4))
  |((go_at_call 32)
    refine qN (w4) ?_;refine(hx _ _ _ _ h4).mono ?_;rintro e w5 ⟨i5,b5,x5,A5,C5,rfl,N5,s5,T5,l5⟩;have E5:=E4.rst s5;obtain⟨k5,h5⟩:=jQ.at h4 s5;have z5:=s5.2.2.1.size;have q5:=E5.hq.cell 4;have r5:=E5.hq.lt;have f5:=E5.hq.free 4;simp only[qD];have E5a:=(E5.alloc (.cells #[.string (bs x5.op),.string (bs x5.s),.int .i64 x5.n,.int .i64 x5.a,.slice A5 x5.l.length C5] 24)).alloc (.cells #[.string (bs x5.op),.string (bs x5.s),.int .i64 x5.n,.int .i64 x5.a,.slice A5 x5.l.length C5] 24);(have N5a:=(E4.row.apart N5 (by omega)).grow (((Below.refl _ w5).alloc (Nat.le_refl _) (.cells #[.string (bs x5.op),.string (bs x5.s),.int .i64 x5.n,.int .i64 x5.a,.slice A5 x5.l.length C5] 24)).alloc (by simp) (.cells #[.string (bs x5.op),.string (bs x5.s),.int .i64 x5.n,.int .i64 x5.a,.slice A5 x5.l.length C5] 24))))
  |((refine zi 58 rfl ?_)
    refine zY rfl _ _ rfl (w2.heap.size+1) [] _ rfl E5a.row (by simp;omega) (by decide) [x5] [.slice A5 x5.l.length C5] (by simp) (by simp) rfl (JU _ _ _) (FS N5a) (w5.heap.size+1) rfl (zm.new_at (by simp)) 1 rfl ?_;intro A6 C6 w6 R6 B6;have E6:=E5a.put R6 B6;have u6:=(E5a.hq.below B6 (by omega)).cell 4;have v6:=(E5a.hq.below B6 (by omega)).free 4;have y6:=(E5a.hq.below B6 (by omega)).lt;(obtain⟨k6,h6⟩:=E6.at hR))
  |((go_at_call 31)
    refine qN (w6.setCell ⟨w2.heap.size,4,none⟩ (.slice A6 1 C6)) ?_;refine(ji h6 [44]).mono ?_;rintro e w7 ⟨rfl,i7,b7,s7,t7,T7⟩;rw[ve hG (by decide)]at T7;have E7:=E6.rst s7;obtain⟨k7,h7⟩:=jQ.at h6 s7;have z7:=s7.2.2.1.size;have q7:=E7.hq.cell 4;have r7:=E7.hq.lt;(have f7:=E7.hq.free 4))
  |((go_at_call 32)
    refine qN (w7) ?_;refine(hx _ _ _ _ h7).mono ?_;rintro e w8 ⟨i8,b8,x8,A8,C8,rfl,N8,s8,T8,l8⟩;have E8:=E7.rst s8;obtain⟨k8,h8⟩:=jQ.at h7 s8;have z8:=s8.2.2.1.size;have q8:=E8.hq.cell 4;have r8:=E8.hq.lt;have f8:=E8.hq.free 4;simp only[qD];have E8a:=E8.alloc (.cells #[.string (bs x8.op),.string (bs x8.s),.int .i64 x8.n,.int .i64 x8.a,.slice A8 x8.l.length C8] 24);obtain⟨k8a,h8a⟩:=E8a.at hR;have O8:=zm.new w8 24 #[.string (bs x8.op),.string (bs x8.s),.int .i64 x8.n,.int .i64 x8.a,.slice A8 x8.l.length C8];(have N8a:=(E7.row.apart N8 (by omega))))
  |((go_at_call 31)
    refine qN (w8.alloc (.cells #[.string (bs x8.op),.string (bs x8.s),.int .i64 x8.n,.int .i64 x8.a,.slice A8 x8.l.length C8] 24)) ?_;refine(ji h8a [44]).mono ?_;rintro e w9 ⟨rfl,i9,b9,s9,t9,T9⟩;rw[ve hG (by decide)]at T9;have E9:=E8a.rst s9;obtain⟨k9,h9⟩:=jQ.at h8a s9;have z9:=s9.2.2.1.size;have q9:=E9.hq.cell 4;have r9:=E9.hq.lt;have f9:=E9.hq.free 4;(have O9:=O8.kp s9.2.2.1 (by omega)))
  |((go_at_call 54)
    refine qN (w9) ?_;refine(JL h9 (qA d)).mono ?_;rintro e w10 ⟨i10,b10,x10,A10,C10,rfl,N10,s10,T10,l10⟩;have E10:=E9.rst s10;obtain⟨k10,h10⟩:=jQ.at h9 s10;have z10:=s10.2.2.1.size;have q10:=E10.hq.cell 4;have r10:=E10.hq.lt;have f10:=E10.hq.free 4;have O10:=O9.kp s10.2.2.1 (by omega);simp only[qD];have cc0:=O10.cell 0;have cc1:=O10.cell 1;have cc2:=O10.cell 2;have cc3:=O10.cell 3;have cc4:=O10.cell 4;have lo10:=O10.lt;have E10a:=(E10.alloc (.cells #[.string (bs x10.op),.string (bs x10.s),.int .i64 x10.n,.int .i64 x10.a,.slice A10 x10.l.length C10] 24)).alloc (.cells #[.string (bs x8.op),.string (bs x8.s),.int .i64 x8.n,.int .i64 x8.a,.slice A8 x8.l.length C8,.string (bs x10.op),.string (bs x10.s),.int .i64 x10.n,.int .i64 x10.a,.slice A10 x10.l.length C10] 24);have N10a:=(E9.row.apart N10 (by omega)).grow (((Below.refl _ w10).alloc (Nat.le_refl _) (.cells #[.string (bs x10.op),.string (bs x10.s),.int .i64 x10.n,.int .i64 x10.a,.slice A10 x10.l.length C10] 24)).alloc (by simp) (.cells #[.string (bs x8.op),.string (bs x8.s),.int .i64 x8.n,.int .i64 x8.a,.slice A8 x8.l.length C8,.string (bs x10.op),.string (bs x10.s),.int .i64 x10.n,.int .i64 x10.a,.slice A10 x10.l.length C10] 24));(have N8b:=(N8a.kp (((Kp.of (zl w8 (.cells #[.string (bs x8.op),.string (bs x8.s),.int .i64 x8.n,.int .i64 x8.a,.slice A8 x8.l.length C8] 24))).trans s9.2.2.1).trans s10.2.2.1) (λg hg=>by omega)).grow (((Below.refl _ w10).alloc (Nat.le_refl _) (.cells #[.string (bs x10.op),.string (bs x10.s),.int .i64 x10.n,.int .i64 x10.a,.slice A10 x10.l.length C10] 24)).alloc (by simp) (.cells #[.string (bs x8.op),.string (bs x8.s),.int .i64 x8.n,.int .i64 x8.a,.slice A8 x8.l.length C8,.string (bs x10.op),.string (bs x10.s),.int .i64 x10.n,.int .i64 x10.a,.slice A10 x10.l.length C10] 24))))
  |((refine zi 117 rfl ?_)
    refine zY rfl _ _ rfl (w2.heap.size+1) [x5] _ rfl E10a.row (by simp;omega) (by simp) [x8,x10] [.slice A8 x8.l.length C8,.slice A10 x10.l.length C10] (by simp) (by simp) rfl (zcX _ _ _ _ _ _) (nd2 N8b N10a) (w10.heap.size+1) rfl (zm.new_at (by simp)) 3 rfl ?_;intro A11 C11 w11 R11 B11;have E11:=E10a.put R11 B11;have u11:=(E10a.hq.below B11 (by omega)).cell 4;have v11:=(E10a.hq.below B11 (by omega)).free 4;have y11:=(E10a.hq.below B11 (by omega)).lt;(obtain⟨k11,h11⟩:=E11.at hR))
  |((go_at_call 31)
    refine qN (w11.setCell ⟨w2.heap.size,4,none⟩ (.slice A11 3 C11)) ?_;refine(ji h11 [41]).mono ?_;rintro e w12 ⟨rfl,i12,b12,s12,t12,T12⟩;rw[ve hG (by decide)]at T12;have E12:=E11.rst s12;obtain⟨k12,h12⟩:=jQ.at h11 s12;have z12:=s12.2.2.1.size;have q12:=E12.hq.cell 4;have r12:=E12.hq.lt;have f12:=E12.hq.free 4;have p12:=E12.hp.lt;have ca0:=E12.hp.cell 0;have ca1:=E12.hp.cell 1;have ca2:=E12.hp.cell 2;have ca3:=E12.hp.cell 3;have ca4:=E12.hp.cell 4;have fa0:=E12.hp.free 0;have fa1:=E12.hp.free 1;have fa2:=E12.hp.free 2;have fa3:=E12.hp.free 3;have fa4:=E12.hp.free 4;have cb0:=E12.hq.cell 0;have cb1:=E12.hq.cell 1;have cb2:=E12.hq.cell 2;have cb3:=E12.hq.cell 3;(have cb4:=E12.hq.cell 4))
  )
 refine jL rfl rfl (E12.hp.set5 _ _ _ _ _) rfl (fin _ _ ?_);refine⟨i12,b12,.mk qv [] 0 (at_:Nat) [x5,x8,x10],A11,C11,rfl,?_,jQ.set5 E12.st (Nat.le_refl _) hlt _ _ _ _ _,(Z1 rfl T4 (gw (ks:= .ex) (kt:= .nu) T5 T7 T8 T9 T10) T12).map (λl=>Nd.mk qv [] 0 (at_:Nat) l),Nat.le_of_ble_eq_true rfl⟩;exact(E12.row.done.mono λg hg=>(by omega:w.heap.size≤g∧g≠w.heap.size)).set5 (λg hg=>hg.2) _ _ _ _ _ |>.mono λg hg=>hg.1
end
end Go.Proofs.YteaddcdpgcgggaaGreatDoor
