import Derived.Test.YtebcfkigbbolaaaGreatDoorJoint02
import Derived.Test.YtebcfkigbbolaaaGreatDoorJoint00
namespace Go.Proofs.YtebcfkigbbolaaaGreatDoor
set_option linter.unusedVariables false
set_option maxRecDepth 100000
set_option maxHeartbeats 40000000
section
open Go.ChangeShapes Go.WideShapes Go.ChangeAt Go.RowKit
theorem fP{w:World}{rb:Nat}{A:Option Addr}{C:Nat}{ts:zu}{i en:Nat}{bad k:Int}(h:zB w rb A C ts i en bad k)(hb:bad≠0)(s:List UInt8):Calls Tryz.prog 43 #[.pointer (some ⟨rb,0,none⟩),.string (bs s)] w λe w'=>e= .returned (.bool false)∧∃q,w'=w.drewN q:=by
 have c0:=h.has.cell 0;have c1:=h.has.cell 1;have c3:=h.has.cell 3;simp only[qQ,qR,qS]at c0 c1 c3;have hlt:=h.has.lt;generalize ts.length=L at *;have hd:decide (bad=0)=false:=decide_eq_false hb;have hd2:(bad==0)=false:=by simpa using hb
 clear h;go_enter Tryz.func43,Tryz.ntmps43
 go_wp2
 go_quiet (fail)
 go_wp2
 go_ret
 exact⟨rfl,_,rfl⟩
theorem zB.set{w w':World}{rb:Nat}{A:Option Addr}{C:Nat}{ts:zu}{i i' en:Nat}{bad k bad' k':Int}(h:zB w rb A C ts i en bad k)(hk:Kp rb w w')(hh:zh w' rb 61 #[.slice A ts.length C,.int .i64 (i':Nat),.int .i64 (en:Nat),.int .i64 bad',.int .i64 k'])(hi:i'≤ts.length):zB w' rb A C ts i' en bad' k':=
 ⟨hh,λj hj=>by
   obtain⟨g,off,e,hg,hne,ht⟩:=h.tok j hj
   exact⟨g,off,e,Nat.lt_of_lt_of_le hg hk.size,hne,ht.kp hk hne hg⟩,hi,h.few,h.end'⟩
theorem Kp.refl'(p:Nat)(w:World):Kp p w w:=Kp.of (Below.refl _ _)
theorem zB.drewN{w:World}{rb:Nat}{A:Option Addr}{C:Nat}{ts:zu}{i en:Nat}{bad k:Int}(h:zB w rb A C ts i en bad k)(q:Nat):zB (w.drewN q) rb A C ts i en bad k:=⟨h.has,h.tok,h.le,h.few,h.end'⟩
theorem Kp.drewN{p:Nat}{w w':World}(h:Kp p w w')(q:Nat):Kp p w (w'.drewN q):=⟨h.os,h.tape,h.output,h.size,h.block⟩
theorem zB.kp{w w':World}{rb:Nat}{A:Option Addr}{C:Nat}{ts:zu}{i en:Nat}{bad k:Int}(h:zB w rb A C ts i en bad k)(hb:Below w.heap.size w w'):zB w' rb A C ts i en bad k:=h.set (Kp.of hb) (h.has.below hb h.has.lt) h.le
theorem Qd{w:World}{rb:Nat}{A:Option Addr}{C:Nat}{ts:zu}{i en:Nat}{bad k:Int}(h:zB w rb A C ts i en bad k)(er:Int)(her:er≠0):Calls Tryz.prog 44 #[.pointer (some ⟨rb,0,none⟩),.int .i64 er] w λe w'=>e= .returned (.tuple #[])∧∃bad' k',bad'≠0∧zB w' rb A C ts i en bad' k'∧Kp rb w w':=by
 have c3:=h.has.cell 3;have c4:=h.has.cell 4;simp only[qQ,qR,qS]at c3 c4;have hlt:=h.has.lt;have f3:=h.has.free 3;have f4:=h.has.free 4;by_cases hb:bad=0
 ·subst hb
  have hw1:Kp rb w (w.setCell ⟨rb,3,none⟩ (.int .i64 er)):=(Kp.refl' rb w).setP 3 _;have h1:zB (w.setCell ⟨rb,3,none⟩ (.int .i64 er)) rb A C ts i en er k:=h.set hw1 (h.has.putP 3 _) h.le;go_enter Tryz.func44,Tryz.ntmps44
  go_wp2_with (first
   |((go_at_call 42)
     refine(jj h1).mono ?_;(rintro e w1 ⟨rfl,q,rfl⟩)))
  go_end0
  exact⟨rfl,er,_,her,(h1.drewN q).set ((Kp.refl' rb _).setP 4 _) ((h1.drewN q).has.putP 4 _) h.le,(hw1.drewN q).setP 4 _⟩
 ·have hd:decide (bad=0)=false:=decide_eq_false hb
  go_enter Tryz.func44,Tryz.ntmps44
  go_wp2
  go_end0
  exact⟨rfl,bad,k,hb,h,Kp.refl' _ _⟩
def qN(w:World)(rb:Nat)(A:Option Addr)(C:Nat)(ts:zu)(i en:Nat)(w':World)(i':Nat)(bad':Int):Prop:=i≤i'∧i'≤ts.length∧Kp rb w w'∧∃k',zh w' rb 61 #[.slice A ts.length C,.int .i64 (i':Nat),.int .i64 (en:Nat),.int .i64 bad',.int .i64 k']
theorem qN.at{w w':World}{rb:Nat}{A:Option Addr}{C:Nat}{ts:zu}{i i' en:Nat}{bad k bad':Int}(h:zB w rb A C ts i en bad k)(s:qN w rb A C ts i en w' i' bad'):∃k',zB w' rb A C ts i' en bad' k':=by
 obtain⟨_,h2,h3,k',h4⟩:=s;exact⟨k',h.set h3 h4 h2⟩
theorem qN.of{w w':World}{rb:Nat}{A:Option Addr}{C:Nat}{ts:zu}{i i' en:Nat}{bad' k':Int}(hi:i≤i')(hk:Kp rb w w')(h:zB w' rb A C ts i' en bad' k'):qN w rb A C ts i en w' i' bad':=⟨hi,h.le,hk,k',h.has⟩
theorem qN.trans{w w1 w2:World}{rb:Nat}{A:Option Addr}{C:Nat}{ts:zu}{i i1 i2 en:Nat}{b1 b2:Int}(h:qN w rb A C ts i en w1 i1 b1)(k:qN w1 rb A C ts i1 en w2 i2 b2):qN w rb A C ts i en w2 i2 b2:=⟨Nat.le_trans h.1 k.1,k.2.1,h.2.2.1.trans k.2.2.1,k.2.2.2⟩
theorem xd{p:Nat}{w w':World}{o:Obj}(h:Kp p (w.alloc o) w'):Kp p w w':=(Kp.of ((Below.refl _ _).alloc (Nat.le_refl _) o)).trans h
theorem qN.left{w w1:World}{rb:Nat}{A:Option Addr}{C:Nat}{ts:zu}{i i' en:Nat}{bad':Int}{o:Obj}(h:qN (w.alloc o) rb A C ts i en w1 i' bad'):qN w rb A C ts i en w1 i' bad':=⟨h.1,h.2.1,xd h.2.2.1,h.2.2.2⟩
theorem qN.new{w w1:World}{rb:Nat}{A:Option Addr}{C:Nat}{ts:zu}{i i' en:Nat}{bad':Int}(h:qN w rb A C ts i en w1 i' bad'){q:Addr}(hq:w.heap.size≤q.block)(hr:rb<w.heap.size)(v:Value):qN w rb A C ts i en (w1.setCell q v) i' bad':=by
 obtain⟨h1,h2,h3,k',h4⟩:=h;exact⟨h1,h2,h3.setNew hq v,k',h4.other (by omega) v⟩
theorem qN.alloc{w w1:World}{rb:Nat}{A:Option Addr}{C:Nat}{ts:zu}{i i' en:Nat}{bad':Int}(h:qN w rb A C ts i en w1 i' bad')(o:Obj):qN w rb A C ts i en (w1.alloc o) i' bad':=by
 obtain⟨h1,h2,h3,k',h4⟩:=h;exact⟨h1,h2,h3.alloc o,k',h4.alloc o⟩
theorem qN.below{w w1 w2:World}{rb:Nat}{A:Option Addr}{C:Nat}{ts:zu}{i i' en:Nat}{bad':Int}(h:qN w rb A C ts i en w1 i' bad'){B:Nat}(hb:Below B w1 w2)(hB:w.heap.size≤B)(hr:rb<w.heap.size):qN w rb A C ts i en w2 i' bad':=by
 obtain⟨h1,h2,h3,k',h4⟩:=h;exact⟨h1,h2,⟨hb.os.trans h3.os,hb.tape.trans h3.tape,hb.output.trans h3.output,Nat.le_trans h3.size hb.size,λk hk hn=>(hb.block k (by omega)).trans (h3.block k hk hn)⟩,k',h4.below hb (by omega)⟩
theorem qN.refl{w:World}{rb:Nat}{A:Option Addr}{C:Nat}{ts:zu}{i en:Nat}{bad k:Int}(h:zB w rb A C ts i en bad k):qN w rb A C ts i en w i bad:=⟨Nat.le_refl _,h.le,Kp.refl _ _,k,h.has⟩
theorem qN.drewN{w w1:World}{rb:Nat}{A:Option Addr}{C:Nat}{ts:zu}{i i' en:Nat}{bad':Int}(h:qN w rb A C ts i en w1 i' bad')(q:Nat):qN w rb A C ts i en (w1.drewN q) i' bad':=⟨h.1,h.2.1,h.2.2.1.drewN q,h.2.2.2⟩
def v8(s:List UInt8)(t:Tk):Bool:=(t.kind==0||t.kind==3)&&t.s==s
theorem uS(ts:zu)(i:Nat)(s:List UInt8):kK ts i s=ji (v8 s) (ts.drop i):=by
 unfold kK;by_cases hi:i<ts.length
 ·rw[List.getElem?_eq_getElem hi,qq hi];rfl
 ·rw[List.getElem?_eq_none (by omega),vD hi]
def j7(bad:Int)(ts:zu)(i:Nat)(s:List UInt8):Bool:=decide (bad=0)&&ji (v8 s) (ts.drop i)
theorem jO{w:World}{rb:Nat}{A:Option Addr}{C:Nat}{ts:zu}{i en:Nat}{bad k:Int}(h:zB w rb A C ts i en bad k)(s:List UInt8):Calls Tryz.prog 43 #[.pointer (some ⟨rb,0,none⟩),.string (bs s)] w λe w'=>e= .returned (.bool (j7 bad ts i s))∧∃q,w'=w.drewN q:=by
 unfold j7;by_cases hb:bad=0
 ·subst hb
  refine(dA h s).mono ?_;rintro e w' ⟨rfl,hw⟩;exact⟨by rw[uS];simp,hw⟩
 ·refine(fP h hb s).mono ?_
  rintro e w' ⟨rfl,hw⟩;exact⟨by simp[hb],hw⟩
theorem xv{bad:Int}{ts:zu}{i:Nat}{s:List UInt8}(h:j7 bad ts i s=true):bad=0∧∃hi:i<ts.length,v8 s ts[i].1=true:=by
 unfold j7 at h;simp only[Bool.and_eq_true,decide_eq_true_eq]at h;refine⟨h.1,?_⟩;by_cases hi:i<ts.length
 ·exact⟨hi,by have:=qq (p:=v8 s) hi;rw[←this];exact h.2⟩
 ·rw[vD hi]at h;cases h.2
theorem Zm{bad:Int}{ts:zu}{i:Nat}{s:List UInt8}(h:j7 bad ts i s=false):bad≠0∨ji (v8 s) (ts.drop i)=false:=by
 unfold j7 at h;by_cases hb:bad=0
 ·right;simpa [hb]using h
 ·exact .inl hb
theorem qv{w:World}{rb:Nat}{A:Option Addr}{C:Nat}{ts:zu}{i en:Nat}{bad k:Int}(h:zB w rb A C ts i en bad k)(s:List UInt8):Calls Tryz.prog 47 #[.pointer (some ⟨rb,0,none⟩),.string (bs s)] w λe w'=>e= .returned (.tuple #[])∧∃i' bad',qN w rb A C ts i en w' i' bad'∧∃x,zT bad (zE (v8 s) en (ts.drop i)) ts x i' bad':=by
 cases hc:j7 bad ts i s with
 |false =>
  have hs:=(jO h s)
  rw[hc]at hs;have hb:=Zm hc;go_enter Tryz.func47,Tryz.ntmps47
  go_wp2_with (first
   |((go_at_call 43)
     refine hs.mono ?_;(rintro e w1 ⟨rfl,q,rfl⟩))
   |((go_at_call 44)
     refine(Qd (h.drewN q) 111 (by decide)).mono ?_;(rintro e w1 ⟨rfl,bad',k',hb',h',hk⟩)))
  refine bodyPost_ret (results_none rfl _ _ _) rfl ?_;exact⟨rfl,i,bad',qN.of (Nat.le_refl _) ⟨hk.os,hk.tape,hk.output,hk.size,hk.block⟩ h',(⟨0,[],0⟩,0),Zv hb hb' _ _⟩
 |true =>
  have hs:=(jO h s)
  rw[hc]at hs;obtain⟨rfl,hi,hp⟩:=xv hc;have c1:=h.has.cell 1;simp only[qQ,qR,qS]at c1;have hlt:=h.has.lt;have f1:=h.has.free 1;have hf:=h.few;have hi2:(i:Int)<501:=by omega
  have R:∀q,∃i' bad',qN w rb A C ts i en ((w.drewN q).setCell ⟨rb,1,none⟩ (.int .i64 ((i:Int)+1))) i' bad'∧∃x,zT 0 (zE (v8 s) en (ts.drop i)) ts x i' bad':=by
   intro q;refine⟨i+1,0,⟨by omega,by omega,((Kp.refl' rb w).drewN q).setP 1 _,k,?_⟩,_,Zs hi hp⟩;have:=(h.drewN q).has.putP 1 (.int .i64 ((i:Int)+1))
   simpa using this
  clear hc hp hi h hf;generalize ts.length=L at *;go_enter Tryz.func47,Tryz.ntmps47
  go_wp2_with (first
   |((go_at_call 43)
     refine hs.mono ?_;(rintro e w1 ⟨rfl,q,rfl⟩)))
  go_end0
  exact⟨rfl,R q⟩
theorem Qj.set{W:World}{pb en:Nat}{r:zu}(h:Qj W pb r en){q:Addr}(hq:pb<q.block)(v:Value):Qj (W.setCell q v) pb r en:=by
 obtain⟨A,C,hH,h1,h2,h3,h4⟩:=h;refine⟨A,C,hH.other (by omega) v,h1,h2,h3,λhne=>?_⟩;obtain⟨g,off,e,hg,ht⟩:=h4 hne;exact⟨g,off,e,hg,λi hi j hj=>(World.cell?_of_block (Below.heap_setCell W q v g (by omega))).trans (ht i hi j hj)⟩
theorem Qj.low{W W':World}{pb en B:Nat}{r:zu}(h:Qj W pb r en)(hb:Below B W W')(hB:pb<B):Qj W' pb r en:=by
 obtain⟨A,C,hH,h1,h2,h3,h4⟩:=h;refine⟨A,C,hH.below hb hB,h1,h2,h3,λhne=>?_⟩;obtain⟨g,off,e,hg,ht⟩:=h4 hne;exact⟨g,off,e,hg,λi hi j hj=>(hb.cell (p:=⟨g,off+i*4+j,none⟩) (by show g<_;omega)).trans (ht i hi j hj)⟩
theorem Qj.has{W:World}{pb en:Nat}{r:zu}(h:Qj W pb r en):∃cs,zh W pb 87 cs:=by obtain⟨A,C,hH,_⟩:=h;exact⟨_,hH⟩
theorem Qj.new{W:World}{pb en:Nat}{r:zu}(h:Qj W pb r en)(o:Obj):Qj (W.alloc o) pb r en:=h.below ((Below.refl _ _).alloc (Nat.le_refl _) _)
abbrev xu(W:World)(g:Nat)(x0 x1 x2 x3 x4:Value):World:=((((W.setCell ⟨g,0,none⟩ x0).setCell ⟨g,1,none⟩ x1).setCell ⟨g,2,none⟩ x2).setCell ⟨g,3,none⟩ x3).setCell ⟨g,4,none⟩ x4
theorem Qj.set5{W:World}{pb en:Nat}{r:zu}(h:Qj W pb r en){g:Nat}(hq:pb<g)(x0 x1 x2 x3 x4:Value):Qj (xu W g x0 x1 x2 x3 x4) pb r en:=
 ((((h.set (q:=⟨g,0,none⟩) hq x0).set (q:=⟨g,1,none⟩) hq x1).set (q:=⟨g,2,none⟩) hq x2).set (q:=⟨g,3,none⟩) hq x3).set (q:=⟨g,4,none⟩) hq x4
theorem Kp.set5{w W:World}{pb:Nat}(h:Kp pb w W){g:Nat}(hq:w.heap.size≤g)(x0 x1 x2 x3 x4:Value):Kp pb w (xu W g x0 x1 x2 x3 x4):=
 ((((h.setNew (q:=⟨g,0,none⟩) hq x0).setNew (q:=⟨g,1,none⟩) hq x1).setNew (q:=⟨g,2,none⟩) hq x2).setNew (q:=⟨g,3,none⟩) hq x3).setNew (q:=⟨g,4,none⟩) hq x4
theorem jW.set5{w:World}{P:Nat→Prop}{l:List Nd}{v:Value}(h:jW w P l v){g:Nat}(hq:∀k,P k→k≠g)(x0 x1 x2 x3 x4:Value):jW (xu w g x0 x1 x2 x3 x4) P l v:=
 h.keep λk o hk ho=>by
  have hne:=hq k hk;rw[Below.heap_setCell _ _ _ k hne,Below.heap_setCell _ _ _ k hne,Below.heap_setCell _ _ _ k hne,Below.heap_setCell _ _ _ k hne,Below.heap_setCell _ _ _ k hne];exact ho
theorem zf(w:World)(o:Obj):Below w.heap.size w (w.alloc o):=(Below.refl _ _).alloc (Nat.le_refl _) _
theorem jL(w:World)(o o':Obj):Below w.heap.size w ((w.alloc o).alloc o'):=((Below.refl _ _).alloc (Nat.le_refl _) _).alloc (by simp) _
def pre(l:List Nd):PR (List Nd)→PR (List Nd)
 | .error e=> .error e
 | .ok (m,r)=> .ok (l++m,r)
theorem ZF{p:Tk→Bool}{en:Nat}{ts r:zu}{t:Tk×Nat}(h:zE p en ts= .ok (t,r)):ts.length=r.length+1:=by
 cases ts with
 |nil=>cases h
 |cons u ts =>
  simp only[zE]at h
  split at h
  ·cases h;rfl
  ·cases h
theorem Ug{P:j2 Nd}(hP:zA P){en:Nat}{ts r:zu}{n:Nd}(h:P en ts= .ok (n,r)):r.length≤ts.length:=by
 obtain⟨q,e,_⟩:=(hP en ts).1 n r h;rw[e,List.length_append];omega
theorem ZN(op:List UInt8):(zw op).1.length≤3:=by
 unfold zw
 split
 ·decide
 ·split
  ·decide
  ·split
   ·decide
   ·split<;>decide
theorem Xl{op:List UInt8}(h:(zw op).2=true):(zw op).1= [.ex]:=by
 unfold zw at h ⊢
 repeat' split at h
 all_goals first |cases h|skip
 rename_i h1 h2
 rw[if_neg h1,if_pos h2]
def Di(pb:Nat)(w:World):Nat:=match w.cell? ⟨pb,0,none⟩with
 |some (.slice _ L _)=>L
 |_=>0
theorem Qj.left{w:World}{pb en:Nat}{ts:zu}(h:Qj w pb ts en):Di pb w=ts.length:=by
 obtain⟨A,C,hH,_⟩:=h;unfold Di;rw[hH.cell 0];rfl
theorem Zh.get{w:World}{A:Option Addr}{L C:Nat}{ks:List Kd}(h:Zh w (.slice A L C) (kw ks)):L=ks.length∧L≤C∧(0<ks.length→C≤ks.length)∧∀i (hi:i<ks.length),∃g,A=some ⟨g,0,none⟩∧w.cell? ⟨g,i,none⟩=some (.string (bs ks[i].w)):=by
 rcases h with⟨h,e⟩|⟨g,e,h⟩
 ·cases e
  have :ks= []:=by cases ks with
   |nil=>rfl
   |cons a b=>simp[kw]at h
  subst this;exact⟨rfl,Nat.le_refl _,λh=>Nat.zero_le _,λi hi=>by simp at hi⟩
 ·simp only[kw,List.length_map]at e
  cases e;refine⟨rfl,Nat.le_refl _,λ_=>Nat.le_refl _,λi hi=>⟨g,rfl,?_⟩⟩;rw[h.cell];simp[kw,hi]
end
section
open Go.ChangeShapes Go.WideShapes Go.ChangeAt Go.RowKit
section
variable {P:Program} {ops:Array Oper} {Q:Exit→Act→World→Prop} {md:Region.Mode} {S:World→Prop} {m:Nat}
theorem J6{k i:Nat}{listed:Array Bool}(hw:jV md ops k i=true)(hi:listed.getD i true=false):k ∉ Region.ready md ops listed:=by
 intro hm;obtain⟨_,o,ho,hall⟩:=mem_ready.1 hm;simp only[jV,ho,Option.any_some,Array.any_eq_true',Bool.and_eq_true,beq_iff_eq]at hw;obtain⟨e,he,hb,rfl⟩:=hw;have h1:=hall e he hb;by_cases hlt:e.on<listed.size
 ·simp[hlt]at hi h1
  rw[hi]at h1;cases h1
 ·simp[Array.getElem?_eq_none (Nat.not_lt.1 hlt)]at h1
def Jq(md:Region.Mode)(ops:Array Oper):Nat→List Nat→Bool
 |_,[]=>true
 |i,k::ks=>jV md ops k i&&Jq md ops k ks
theorem JK{listed:Array Bool}:∀ {ks:List Nat} {i m:Nat},Jq md ops i (ks++ [m])=true→listed.getD i true=false→(∀k ∈ ks,listed.getD k true=false)→m ∉ Region.ready md ops listed∧∀k ∈ ks,k ∉ Region.ready md ops listed
 | [],i,m,hc,hi,hk=>by
   have hc':(jV md ops m i&&true)=true:=hc;rw[Bool.and_true]at hc';exact⟨J6 hc' hi,λk hk=>by cases hk⟩
 |k::ks,i,m,hc,hi,hk=>by
  have hc':(jV md ops k i&&Jq md ops k (ks++ [m]))=true:=hc;rw[Bool.and_eq_true]at hc';obtain⟨h1,h2⟩:=JK hc'.2 (hk k (List.mem_cons_self ..)) (λq hq=>hk q (List.mem_cons_of_mem _ hq));refine⟨h1,λq hq=>?_⟩;rcases List.mem_cons.1 hq with rfl|h3
  ·exact J6 hc'.1 hi
  ·exact h2 q h3
theorem vl.frontC{i:Nat}{oi:Oper}{v:Value}(ks:List Nat)(hi:ops[i]?=some oi)(him:i≠m)(hch:Jq md ops i (ks++ [m])=true)(hsel:∀(j:Nat) (o:Oper) cs b,ops[j]?=some o→o.op≠ .select cs b)
 (hQ:∀c a w,Q (.panic c) (a.put oi.dst v) w→Q (.panic c) a w):∀(n:Nat) (listed:Array Bool) (a:Act) (w:World),(∀k ∈ ks,listed.getD k true=false) →
   (∀j oj,ops[j]?=some oj→j≠i→listed.getD j true=false→(∀e ∈ oj.after,Region.binds md e=true→e.on≠i)→oi.apart ops oj=true) →
   i ∈ Region.ready md ops listed→YieldsIf P ops S oi v a→S w→vl P md ops Q S m n (listed.setIfInBounds i true) (a.put oi.dst v) w→vl P md ops Q S m (n+1) listed a w
 |n,listed,a,w,hun,hfree,hr,hy,hS,H=>by
  refine⟨λh=>absurd (h ▸ hr) (by simp),λj hj=>?_⟩;by_cases hji:j=i
  ·subst hji
   exact hy.wpOp hi hS ⟨λ_=>hS,H⟩
  obtain⟨hm0,hk0⟩:=JK hch (mem_ready.1 hr).1 hun;have hjm:j≠m:=λe=>hm0 (e ▸ hj)
  have hj':=ready_mono hj hji;cases n with
  |zero=>exact absurd (H.1 ▸ hj') (by simp)
  |succ n =>
   obtain⟨hjun,oj,hoj,hall⟩:=mem_ready.1 hj
   have hno:∀e ∈ oj.after,Region.binds md e=true→e.on≠i:=by
    intro e he hb heq;have h1:=hall e he hb;have h0:=(mem_ready.1 hr).1;subst heq;by_cases hlt:e.on<listed.size
    ·simp[hlt]at h0 h1
     rw[h0]at h1;cases h1
    ·simp[Array.getElem?_eq_none (Nat.not_lt.1 hlt)]at h1
   refine wpOp_mono ?_ (wpOp_putIf hoj (hfree j oj hoj hji hjun hno) (λcs b=>hsel i oi cs b hi) (λcs b=>hsel j oj cs b hoj) hQ hy (H.2 j hj'));rintro a' w' ⟨hy',hS',H'⟩;refine⟨hS',vl.frontC ks hi him hch hsel hQ n (listed.setIfInBounds j true) a' w' (λk hk=>?_) (λk ok hk hki hun hn=>hfree k ok hk hki ?_ hn) (ready_mono hr (Ne.symm hji)) hy' (hS' hjm) ?_⟩
   ·have hjk:j≠k:=λe=>hk0 k hk (e ▸ hj)
    rw[getD_set_ne true hjk];exact hun k hk
   ·by_cases hjk:j=k
    ·subst hjk;exact hjun
    ·rwa [getD_set_ne true hjk]at hun
   ·rw[Array.setIfInBounds_comm _ _ hji]
    exact H'
theorem Zb{oi:Oper}(i:Nat)(ks:List Nat)(d:Option Tmp)(v:Value){n:Nat}{listed:Array Bool}{a:Act}{w:World}(hi:ops[i]?=some oi)(hd:oi.dst=d)(him:i≠m)(hch:Jq md ops i (ks++ [m])=true)(hun:ks.all (λk=>listed.getD k true==false)=true)
 (hs:Region.noSelect ops=true) (hf:Region.free md ops listed i=true) (hr:(Region.ready md ops listed).contains i=true)
 (hQ:∀c a w,Q (.panic c) (a.put d v) w→Q (.panic c) a w) (hw:Region.wanted oi (yielded ops a.tmps)=true) (hy:∀w,S w→(execOp a.eval oi).run P w= .ok (.value v) w) (hS:S w)
 (h:vl P md ops Q S m n (listed.setIfInBounds i true) (a.put d v) w):vl P md ops Q S m (n+1) listed a w:=by
 subst hd;refine vl.frontC ks hi him hch (Region.noSelect_spec hs) hQ n listed a w (λk hk=>?_) (Region.free_spec hi hf) (by simpa using hr) (.inl ⟨hw,hy⟩) hS h;have:=List.all_eq_true.1 hun k hk
 simpa using this
end
end
section
open Go.ChangeShapes Go.WideShapes Go.ChangeAt Go.RowKit
theorem Yj{t:Tk}(h:yR t=true)(hn:jH t=false):0<(zw t.s).1.length:=by
 unfold yR at h;rw[hn]at h;simp at h;exact h.2
theorem Ya{o:Oper}{a:Act}(ty:TypeId)(x:Operand)(ho:o.op= .load ty x)(hty:ty=9∨ty=3)(p:Addr)(hx:a.eval x= .pointer (some p))(v:Value)(w:World)(h:w.cell? p=some v):(execOp a.eval o).run Tryz.prog w= .ok (.value v) w:=by
 unfold execOp;simp only[ho,hx];rcases hty with rfl|rfl
 ·go_simp
 ·go_simp
theorem Kp.setRow{p:Nat}{w w':World}(h:Kp p w w'){g:Nat}(hg:w.heap.size≤g)(X:Array Value):Kp p w (w'.setRow g X):=
 ⟨h.os,h.tape,h.output,by have:=h.size;simpa using this,λk hk hn=>(setRow_other w' g k X (by omega)).trans (h.block k hk hn)⟩
theorem Qj.setRow{W:World}{pb en:Nat}{r:zu}(h:Qj W pb r en){g:Nat}(hq:pb<g)(X:Array Value):Qj (W.setRow g X) pb r en:=by
 obtain⟨A,C,hH,h1,h2,h3,h4⟩:=h;refine⟨A,C,hH.setRow_other (by omega) X,h1,h2,h3,λhne=>?_⟩;obtain⟨g',off,e,hg,ht⟩:=h4 hne;exact⟨g',off,e,hg,λi hi j hj=>(World.cell?_of_block (setRow_other W g g' X (by omega))).trans (ht i hi j hj)⟩
theorem jW.setRow{w:World}{P:Nat→Prop}{l:List Nd}{v:Value}(h:jW w P l v){g:Nat}(hq:∀k,P k→k≠g)(X:Array Value):jW (w.setRow g X) P l v:=
 h.keep λk o hk ho=>(setRow_other w g k X (hq k hk)).trans ho
theorem Xc:bs zd=⟨#[100,101,118,105,99,101]⟩:=rfl
theorem Vn:bs zm=⟨#[106,111,117,114,110,97,108]⟩:=rfl
theorem du:bs qo=⟨#[107,101,121]⟩:=rfl
theorem DF:bs zQ=⟨#[114,111,111,116]⟩:=rfl
theorem G0:bs zv=⟨#[118,111,108,117,109,101]⟩:=rfl
theorem gh:bs zM=⟨#[101,120,112,111,114,116]⟩:=rfl
theorem Xe{p:Tk→Bool}{en:Nat}{ts r:zu}{t:Tk×Nat}(h:zE p en ts= .ok (t,r)):p t.1=true:=by
 cases ts with
 |nil=>cases h
 |cons u us =>
  simp only[zE]at h
  split at h
  ·rename_i hp;cases h;exact hp
  ·cases h
def Gg(t u:Tk×Nat):j2 Nd:=zz (vA t.1.s) λr=>zz (zE (vN [59])) λ_=>jq (.mk t.1.s u.1.s r.1 t.2 r.2)
theorem uY{en:Nat}{ts:zu}{e:Nat×Nat}(h:zE (yP vG) en ts= .error e):qC en ts= .error e:=by
 unfold qC zz;rw[h]
theorem GL{en:Nat}{ts r:zu}{t:Tk×Nat}{e:Nat×Nat}(h:zE (yP vG) en ts= .ok (t,r))(h2:zE jH en r= .error e):qC en ts= .error e:=by
 unfold qC zz;simp only[h,h2]
theorem Kh{en:Nat}{ts r r':zu}{t u:Tk×Nat}(h:zE (yP vG) en ts= .ok (t,r))(h2:zE jH en r= .ok (u,r')):qC en ts=Gg t u en r':=by
 unfold qC;show zz _ _ en ts=_;rw[zz,h];show zz _ _ en r=_;rw[zz,h2];rfl
theorem J8(f en:Nat)(t:Tk×Nat)(r:zu):jB (f+1) en (t::r)=match qC en (t::r)with | .error e=> .error e| .ok (n,r')=>pre [n] (jB f en r'):=by
 show zz qC _ en (t::r)=_;unfold zz;cases qC en (t::r)with
 |error e=>rfl
 |ok x =>
  obtain⟨n,r'⟩:=x;simp only;cases jB f en r' with
  |error e=>rfl
  |ok y=>obtain⟨m,r''⟩:=y;rfl
theorem Z7{en:Nat}{ts r:zu}{n:Nd}(h:qC en ts= .ok (n,r)):r.length+1≤ts.length:=by
 cases hT1:zE (yP vG) en ts with
 |error e=>rw[uY hT1]at h;cases h
 |ok x =>
  obtain⟨t,r1⟩:=x;have:=ZF hT1;cases hT2:zE jH en r1 with
  |error e=>rw[GL hT1 hT2]at h;cases h
  |ok y =>
   obtain⟨u,r2⟩:=y;have h2:=ZF hT2;rw[Kh hT1 hT2]at h;have hs:zA (Gg t u):=(QN _).bind λ_=>(zA.take _).bind λ_=>zA.ret _
   have:=Ug hs h;omega
theorem zo{w:World}{g t:Nat}{cs:Array Value}(h:zh w g t cs):zh w.drew g t cs:=h
theorem zp{B:Nat}{a w:World}(h:Below B a w):Below B a w.drew:=⟨h.os,h.tape,h.output,h.size,h.block⟩
theorem zh.oth5{w:World}{g g' t:Nat}{cs:Array Value}(h:zh w g t cs)(hne:g≠g')(x0 x1 x2 x3 x4:Value):zh (xu w g' x0 x1 x2 x3 x4) g t cs:=
 ((((h.other (p:=⟨g',0,none⟩) hne x0).other (p:=⟨g',1,none⟩) hne x1).other (p:=⟨g',2,none⟩) hne x2).other (p:=⟨g',3,none⟩) hne x3).other (p:=⟨g',4,none⟩) hne x4
theorem b5{w:World}{p:Nat}(x0 x1 x2 x3 x4 y z:Value)(o:Obj)(hp:p≤w.heap.size):Below p w ((((xu w p x0 x1 x2 x3 x4).setCell ⟨p+1,0,none⟩ y).setCell ⟨p+2,0,none⟩ z).alloc o).drew:=by
 have h0:Below p w (((xu w p x0 x1 x2 x3 x4).setCell ⟨p+1,0,none⟩ y).setCell ⟨p+2,0,none⟩ z):=(((((((Below.refl p w).setCell (p:=⟨p,0,none⟩) (Nat.le_refl p) x0).setCell (p:=⟨p,1,none⟩) (Nat.le_refl p) x1).setCell (p:=⟨p,2,none⟩) (Nat.le_refl p) x2).setCell (p:=⟨p,3,none⟩) (Nat.le_refl p) x3).setCell (p:=⟨p,4,none⟩) (Nat.le_refl p) x4).setCell (p:=⟨p+1,0,none⟩) (by show p≤p+1;omega) y).setCell (p:=⟨p+2,0,none⟩) (by show p≤p+2;omega) z;exact zp (h0.alloc (by have:=h0.size;omega) o)
theorem dh{w W:World}(h:Below w.heap.size w W)(x0 x1 x2 x3 x4:Value):Below w.heap.size w (xu W w.heap.size x0 x1 x2 x3 x4):=
 ((((h.setCell (p:=⟨w.heap.size,0,none⟩) (Nat.le_refl _) x0).setCell (p:=⟨w.heap.size,1,none⟩) (Nat.le_refl _) x1).setCell (p:=⟨w.heap.size,2,none⟩) (Nat.le_refl _) x2).setCell (p:=⟨w.heap.size,3,none⟩) (Nat.le_refl _) x3).setCell (p:=⟨w.heap.size,4,none⟩) (Nat.le_refl _) x4
theorem Qj.start{w1:World}{base en:Nat}{A:Option Addr}{C:Nat}{ts:zu}(h:jo w1 base (.slice A ts.length C) ts)(hl:ts.length≤500):Qj (w1.alloc (.cells #[.slice A ts.length C,.int .i64 (en:Nat)] 87)) w1.heap.size ts en:=by
 have hb:=zf w1 (.cells #[.slice A ts.length C,.int .i64 (en:Nat)] 87);by_cases hne:ts= []
 ·subst hne
  rcases h.2 with⟨e,_⟩|⟨g,cap,cur,e,_,_,hn,hm,_⟩
  ·cases e
   exact⟨none,0,zh.new _ _ _,Nat.le_refl _,by omega,hl,λh=>absurd rfl h⟩
  ·cases e
   exact⟨_,C,zh.new _ _ _,hn,hm,hl,λh=>absurd rfl h⟩
 ·obtain⟨g,C',e,h1,h2,h3,h4,_,hc⟩:=h.lies hne
  cases e;refine⟨_,C,zh.new _ _ _,h3,h4,hl,λ_=>⟨g,0,rfl,h2,λi hi j hj=>?_⟩⟩;rw[Nat.zero_add];exact(hb.cell (p:=⟨g,i*4+j,none⟩) h2).trans (hc i hi j hj)
theorem QE{fn:Func}{R:Ending→World→Prop}{a:Act}{W:World}{s t u g:Nat}{x0 x1 x2 x3 x4 y z:Value}(hr:fn.results= #[.cell s 24,.tmp t,.tmp u])(hs:a.tmps[s]?.getD undef= .pointer (some ⟨g,0,none⟩))(ht:a.tmps[t]?.getD undef=y)(hu:a.tmps[u]?.getD undef=z)(hH:zh W g 24 #[x0,x1,x2,x3,x4])(hd:a.defers= [])(h:R (.returned (.tuple #[.agg #[x0,x1,x2,x3,x4],y,z])) W):bodyPost Tryz.prog fn R .ret a W:=by
 have q0:=hH.cell 0;have q1:=hH.cell 1;have q2:=hH.cell 2;have q3:=hH.cell 3;have q4:=hH.cell 4;exact bodyPost_ret (by simp only[results,hr];simp[hs,ht,hu,go_sem,q0,q1,q2,q3,q4]) hd h
inductive Rd (w:World):List Nd→Value→Prop where
 |mk (l:List Nd) (vs:List Value) (A:Option Addr) (C:Nat):vs.length=l.length→l.length≤C→C≤9223372036854775807 →
   (∀i (h:i<l.length) (h':i<vs.length),∃g off,A=some ⟨g,off,none⟩∧g<w.heap.size∧∀j,j<5→w.cell? ⟨g,off+i*5+j,none⟩=(qa l[i] vs[i])[j]?) →
   (∀i (h:i<l.length) (h':i<vs.length),Rd w l[i].l vs[i])→(∀x ∈ l,x.s.length<maxLen∧x.op.length<maxLen)→Rd w l (.slice A l.length C)
theorem Rd.grow{w w':World}{l:List Nd}{v:Value}(h:Rd w l v)(hb:Below w.heap.size w w'):Rd w' l v:=by
 induction h with
 |mk l vs A C h1 h2 h3 h4 h5 h6 ih =>
  refine .mk l vs A C h1 h2 h3 (λi h h'=>?_) ih h6;obtain⟨g,off,e,hg,hc⟩:=h4 i h h';exact⟨g,off,e,Nat.lt_of_lt_of_le hg hb.size,λj hj=>(hb.cell (p:=⟨g,off+i*5+j,none⟩) hg).trans (hc j hj)⟩
theorem Rd.slice{w:World}{l:List Nd}{v:Value}(h:Rd w l v):∃A C,v= .slice A l.length C∧l.length≤C∧C≤9223372036854775807:=by
 cases h with
 |mk l vs A C h1 h2 h3=>exact⟨A,C,rfl,h2,h3⟩
theorem Rd.get{w:World}{l:List Nd}{A:Option Addr}{L C:Nat}(h:Rd w l (.slice A L C))(i:Nat)(hi:i<l.length):∃g off u,A=some ⟨g,off,none⟩∧g<w.heap.size∧(∀j,j<5→w.cell? ⟨g,off+i*5+j,none⟩=(qa l[i] u)[j]?)∧Rd w l[i].l u∧l[i].s.length<maxLen∧l[i].op.length<maxLen:=by
 cases h with
 |mk l vs A C h1 h2 h3 h4 h5 h6 =>
  obtain⟨g,off,e,hg,hc⟩:=h4 i hi (by omega);obtain⟨h7,h8⟩:=h6 _ (List.getElem_mem hi);exact⟨g,off,vs[i],e,hg,hc,h5 i hi (by omega),h7,h8⟩
inductive Qh:Nd→Prop where
 |mk (op s:List UInt8) (n a:Int) (l:List Nd):op.length≤1000→s.length≤1000→(∀x ∈ l,Qh x)→Qh (.mk op s n a l)
theorem Qh.s{n:Nd}(h:Qh n):n.s.length≤1000:=by cases h;assumption
theorem Qh.op{n:Nd}(h:Qh n):n.op.length≤1000:=by cases h;assumption
theorem Qh.l{n:Nd}(h:Qh n):∀x ∈ n.l,Qh x:=by cases h;assumption
theorem jW.rd{w:World}{P:Nat→Prop}{l:List Nd}{v:Value}(h:jW w P l v)(hs:∀x ∈ l,Qh x):Rd w l v:=by
 induction h with
 |mk l vs v h1 h2 h3 h4 ih =>
  have hk:=λi (h:i<l.length) (h':i<vs.length)=>ih i h h' (hs _ (List.getElem_mem h)).l
  have hm:∀x ∈ l,x.s.length<maxLen∧x.op.length<maxLen:=λx hx=>⟨by have:=(hs x hx).s;unfold maxLen;omega,by have:=(hs x hx).op;unfold maxLen;omega⟩
  rcases h2.2 with⟨rfl,h0⟩|⟨g,cap,cur,rfl,_,hg,hn,hm2,hsz,ht⟩
  ·have :l= []:=List.length_eq_zero_iff.1 h0
   subst this;exact .mk [] vs none 0 h1 (Nat.le_refl _) (by omega) (λi h=>by simp at h) hk hm
  ·refine .mk l vs (some ⟨g,0,none⟩) cap h1 hn hm2 (λi h h'=>⟨g,0,rfl,(Array.getElem?_eq_some_iff.1 hg).1,λj hj=>?_⟩) hk hm
   rw[Nat.zero_add,←FH l vs i h h' j hj,←ht,List.getElem?_take_of_lt (by omega),Array.getElem?_toList];exact cell_of_row w g (i*5+j) cur _ _ hg
def xy(x:List UInt8):Option (Tk×Nat):=match vX x with
 | .ok [t]=>some t
 |_=>none
def vZ(o:Option (Tk×Nat)):Value:=match o with
 |some t=> .tuple #[.agg (jG t.1 t.2),.bool true]
 |none=> .tuple #[.agg #[.int .i64 0,.string ⟨#[]⟩,.int .i64 0,.int .i64 0],.bool false]
def jn(x:List UInt8):Bool:=match xy x with
 |some t=>jH t.1&&t.1.s==x
 |none=>false
def JA(x:List UInt8):Bool:=match xy (36::x)with
 |some t=>t.1.kind==2&&t.1.s==x
 |none=>false
theorem YC{fn:Func}{R:Ending→World→Prop}{a:Act}{W:World}{s t g:Nat}{x0 x1 x2 x3 y:Value}(hr:fn.results= #[.cell s 100,.tmp t])(hs:a.tmps[s]?.getD undef= .pointer (some ⟨g,0,none⟩))(ht:a.tmps[t]?.getD undef=y)(hH:zh W g 100 #[x0,x1,x2,x3])(hd:a.defers= [])(h:R (.returned (.tuple #[.agg #[x0,x1,x2,x3],y])) W):bodyPost Tryz.prog fn R .ret a W:=by
 have q0:=hH.cell 0;have q1:=hH.cell 1;have q2:=hH.cell 2;have q3:=hH.cell 3;exact bodyPost_ret (by simp only[results,hr];simp[hs,ht,go_sem,q0,q1,q2,q3]) hd h
theorem dX{w W:World}(h:Below w.heap.size w W)(x0 x1 x2 x3:Value):Below w.heap.size w ((((W.setCell ⟨w.heap.size,0,none⟩ x0).setCell ⟨w.heap.size,1,none⟩ x1).setCell ⟨w.heap.size,2,none⟩ x2).setCell ⟨w.heap.size,3,none⟩ x3):=
 (((h.setCell (p:=⟨w.heap.size,0,none⟩) (Nat.le_refl _) x0).setCell (p:=⟨w.heap.size,1,none⟩) (Nat.le_refl _) x1).setCell (p:=⟨w.heap.size,2,none⟩) (Nat.le_refl _) x2).setCell (p:=⟨w.heap.size,3,none⟩) (Nat.le_refl _) x3
theorem kS(x:List UInt8)(w:World)(hm:x.length≤maxLen):Calls Tryz.prog 112 #[.string (bs x)] w λe w'=>e= .returned (vZ (xy x))∧Below w.heap.size w w':=by
 have other:∀(A:Option Addr) (L C:Nat) (er o:Int),¬(L:Int)=1→(L:Int)≤9223372036854775807→(∀W,Calls Tryz.prog 35 #[.string (bs x)] W λe w'=>∃A C,e= .returned (.tuple #[.slice A L C,.int .i64 er,.int .i64 o])∧Below W.heap.size W w')→xy x=none →
  Calls Tryz.prog 112 #[.string (bs x)] w λe w'=>e= .returned (vZ (xy x))∧Below w.heap.size w w':=by
  intro A L C er o hL hL2 hsc hn;rw[hn];clear hn hm;go_enter Tryz.func112,Tryz.ntmps112
  go_wp2_with (first
   |((go_at_call 35)
     refine(hsc _).mono ?_;rintro e w1 ⟨A,C,rfl,hb1⟩;have ha1:=(zh.new w 100 #[.int .i64 0,.string ⟨#[]⟩,.int .i64 0,.int .i64 0]).below hb1 (by simp);have a0:=ha1.cell 0;have a1:=ha1.cell 1;have a2:=ha1.cell 2;have a3:=ha1.cell 3;have f0:=ha1.free 0;have f1:=ha1.free 1;have f2:=ha1.free 2;have f3:=ha1.free 3;(have la:=ha1.lt)))
  have hb:Below w.heap.size w w1:=(zf w _).trans (hb1.mono (by simp));exact YC rfl rfl rfl (ha1.set4 _ _ _ _) rfl ⟨rfl,dX hb _ _ _ _⟩
 cases hS:vX x with
 |error r =>
  obtain⟨er,o⟩:=r;exact other none 0 0 er o (by decide) (by decide) (λW=>(Ks W x hm hS).mono λe w' h=>⟨none,0,h.1,h.2⟩) (by unfold xy;rw[hS])
 |ok ts =>
  have hlen:=(vL hS).1;have hsc:=λW=>U3 W x hm hS
  by_cases h1:ts.length=1
  ·obtain⟨t,rfl⟩:=List.length_eq_one_iff.1 h1
   have hT:xy x=some t:=by unfold xy;rw[hS]
   rw[hT]
   have hsc':∀W,Calls Tryz.prog 35 #[.string (bs x)] W λe w'=>∃g C,e= .returned (.tuple #[.slice (some ⟨g,0,none⟩) 1 C,.int .i64 0,.int .i64 (-1)])∧Below W.heap.size W w'∧g<w'.heap.size∧1≤C∧C≤9223372036854775807∧w'.cell? ⟨g,0,none⟩=some (.int .i64 (t.1.kind:Nat))∧w'.cell? ⟨g,1,none⟩=some (.string (bs t.1.s))∧w'.cell? ⟨g,2,none⟩=some (.int .i64 (t.1.n:Nat))∧w'.cell? ⟨g,3,none⟩=some (.int .i64 (t.2:Nat)):=by
    intro W;refine(hsc W).mono ?_;rintro e w' ⟨A,C,rfl,hb,htr⟩;obtain⟨g,C',e,q1,q2,q3,q4,_,hc⟩:=htr.lies (by simp);cases e;exact⟨g,C,rfl,hb,q2,q3,q4,hc 0 (by simp) 0 (by decide),hc 0 (by simp) 1 (by decide),hc 0 (by simp) 2 (by decide),hc 0 (by simp) 3 (by decide)⟩
   clear hsc hT hS h1 other hm hlen;go_enter Tryz.func112,Tryz.ntmps112
   go_wp2_with (first
    |((go_at_call 35)
      refine(hsc' _).mono ?_;rintro e w1 ⟨g,C,rfl,hb1,hgl,hC1,hC2,d0,d1,d2,d3⟩;have ha1:=(zh.new w 100 #[.int .i64 0,.string ⟨#[]⟩,.int .i64 0,.int .i64 0]).below hb1 (by simp);have a0:=ha1.cell 0;have a1:=ha1.cell 1;have a2:=ha1.cell 2;have a3:=ha1.cell 3;have f0:=ha1.free 0;have f1:=ha1.free 1;have f2:=ha1.free 2;have f3:=ha1.free 3;(have la:=ha1.lt)))
   have hb:Below w.heap.size w w1:=(zf w _).trans (hb1.mono (by simp));exact YC rfl rfl rfl (ha1.set4 _ _ _ _) rfl ⟨rfl,dX hb _ _ _ _⟩
  ·refine other none ts.length 0 0 (-1) (by omega) (by omega) (λW=>(hsc W).mono λe w' ⟨A,C,h,hb,_⟩=>⟨A,C,h,hb⟩) ?_
   unfold xy;rw[hS]
   match ts,h1 with
   | [],_=>rfl
   | [t],h=>exact absurd rfl h
   |_::_::_,_=>rfl
def vz(n:Int):Bool:=decide (0≤n)&&decide (n≤999999999)
def qT(re:Nd→Bool):Kd→Nd→Bool
 | .nu,n=>n.op==j0&&n.s== []&&vz n.n&&decide (n.l.length=0)
 | .na,n=>n.op==qZ&&jn n.s&&decide (n.n=0)&&decide (n.l.length=0)
 | .ex,n=>re n
def Qe(ks:List Kd)(i:Nat):Kd:=ks.getD (min i (ks.length-1)) .ex
def Yr(ks:List Kd)(more:Bool)(L:Nat):Bool:= !(decide (ks.length=0))&& !(decide (L<ks.length))&& !(decide (ks.length<L)&& !more)
def je(re:Nd→Bool)(n:Nd):Bool:=Yr (zw n.op).1 (zw n.op).2 n.l.length&&(List.range n.l.length).all λi=>qT re (Qe (zw n.op).1 i) (n.l.getD i (.mk [] [] 0 0 []))
def zF:Nat→Nd→Bool
 |0,_=>false
 |d+1,n=>decide (n.n=0)&&(if n.op=jE then jn n.s&&decide (n.l.length=0)else n.s== []&&je (zF d) n)
def yu(n:Nd):Bool:=n.op==Qu&&JA n.s&&decide (n.n=0)&&decide (n.l.length=0)
def qY(n:Nd):Bool:=jn n.s &&
 (if n.op=zd∨n.op=zm then vz n.n&&decide (n.l.length=0)
  else if n.op=qo∨n.op=zQ then decide (n.n=0)&&decide (n.l.length=1)&&yu (n.l.getD 0 (.mk [] [] 0 0 []))
  else if n.op=zv then decide (n.n=0)&&decide (n.l.length=1)&&zF 12 (n.l.getD 0 (.mk [] [] 0 0 []))
  else if n.op=zM then(decide (n.n=0)||decide (n.n=1))&&decide (n.l.length=0)
  else false)
def yj(n:Nd):Bool:=n.l.all qY&&n.op==ZD&&n.s== []&&decide (n.n=0)
theorem Zd(n:Nd)(A:Option Addr)(L C:Nat)(w:World):Calls Tryz.prog 81 #[.agg (qa n (.slice A L C))] w λe w'=>e= .returned (.bool (vz n.n))∧Below w.heap.size w w':=by
 unfold vz qa;generalize n.n=N;by_cases h1:0≤N
 ·by_cases h2:N≤999999999
  all_goals
   go_enter Tryz.func81,Tryz.ntmps81
   go_wp2
   go_ret
   exact⟨qi (by simp[h1,h2]),zf _ _⟩
 ·go_enter Tryz.func81,Tryz.ntmps81
  go_wp2
  go_ret
  refine⟨qi ?_,zf _ _⟩;rw[Bool.eq_iff_iff];simp;omega
theorem fc{w w1 w2:World}{o o':Obj}(h:Below (w.alloc o).heap.size (w.alloc o) w1)(h2:Below (w1.alloc o').heap.size (w1.alloc o') w2):Below w.heap.size w w2:=by
 have s1:=h.size;have s2:=h2.size;simp at s1 s2;exact(((zf w o).trans (h.mono (by simp))).alloc (by omega) o').trans (h2.mono (by simp;omega))
theorem yx{w w1:World}{o o':Obj}(h:Below (w.alloc o).heap.size (w.alloc o) w1):Below w.heap.size w (w1.alloc o'):=by
 have s1:=h.size;simp at s1;exact((zf w o).trans (h.mono (by simp))).alloc (by omega) o'
theorem jX(n:Nd)(A:Option Addr)(L C:Nat)(w:World)(hm:n.s.length≤maxLen):Calls Tryz.prog 80 #[.agg (qa n (.slice A L C))] w λe w'=>e= .returned (.bool (jn n.s))∧Below w.heap.size w w':=by
 have htk:=λW=>kS n.s W hm
 unfold jn qa;have hs:=zr n.s;cases hT:xy n.s with
 |none =>
  rw[hT]at htk;simp only[vZ]at htk;clear hT;go_enter Tryz.func80,Tryz.ntmps80
  go_wp2_with (go_at_call 112;refine(htk _).mono ?_;rintro e w1 ⟨rfl,hb1⟩)
  go_ret
  exact⟨rfl,yx hb1⟩
 |some t =>
  rw[hT]at htk;simp only[vZ,jG]at htk;have hnm:=He t.1 t.2;have hs2:=zr t.1.s;simp only;generalize jH t.1=B at hnm ⊢;unfold jG at hnm;clear hT;cases B
  all_goals
   go_enter Tryz.func80,Tryz.ntmps80
   go_wp2_with (first
    |((go_at_call 112)
      refine(htk _).mono ?_;rintro e w1 ⟨rfl,hb1⟩;have hN1:=(zh.new w _ _).below hb1 (by simp);(have hlN:=hN1.lt))
    |((go_at_call 113)
      refine(hnm _).mono ?_;rintro e w2 ⟨rfl,hb2⟩;have hN2:=(hN1.alloc _).below hb2 (by simp;omega);have n1:=hN2.cell 1;have hT2:=(zh.new w1 _ _).below hb2 (by simp);(have t1:=hT2.cell 1)))
   go_ret
   exact⟨qi (by simp),fc hb1 hb2⟩
structure j3 (w:World) (n:Nd) (A:Option Addr) (C:Nat):Prop where
 rd:Rd w n.l (.slice A n.l.length C)
 s:n.s.length<maxLen
 op:n.op.length<maxLen
theorem j3.grow{w w':World}{n:Nd}{A:Option Addr}{C:Nat}(h:j3 w n A C)(hb:Below w.heap.size w w'):j3 w' n A C:=⟨h.rd.grow hb,h.s,h.op⟩
theorem j3.len{w:World}{n:Nd}{A:Option Addr}{C:Nat}(h:j3 w n A C):n.l.length≤C∧C≤9223372036854775807:=by
 obtain⟨A',C',e,h1,h2⟩:=h.rd.slice;cases e;exact⟨h1,h2⟩
abbrev JF(w:World)(b:Bool)(e:Ending)(w':World):Prop:=e= .returned (.bool b)∧Below w.heap.size w w'
theorem Fi(d N:Nat)(k:Kd)(n:Nd)(A:Option Addr)(C:Nat)(w:World)(h:j3 w n A C)(hN:N≤13)
 (hx:∀W,j3 W n A C→Calls Tryz.prog 83 #[.agg (qa n (.slice A n.l.length C)),.int .i64 (N:Nat)] W (JF W (zF d n))):
 Calls Tryz.prog 140 #[.agg (qa n (.slice A n.l.length C)),.string (bs k.w),.int .i64 (N:Nat)] w (JF w (qT (zF d) k n)):=by
 have hlen:=h.len;have hnum:=λW=>Zd n A n.l.length C W
 have hnam:=λW=>jX n A n.l.length C W (by have:=h.s;omega)
 have hs:=zr n.s;have ho:=zr n.op;have hx':=λW hW=>hx W (h.grow hW)
 cases k with
 |nu =>
  show Calls Tryz.prog 140 #[.agg (qa n (.slice A n.l.length C)),.string ⟨#[110,117,109]⟩,.int .i64 (N:Nat)] w _;simp only[qT];have hL:((n.l.length:Nat):Int)≤9223372036854775807:=by omega
  generalize n.l.length=L at *;unfold qa at *;generalize vz n.n=B at *;clear hx hx' h hnam
  cases e1:(n.op==j0)
  ·have e1':(n.op== [110,117,109])=false:=e1
   go_enter Tryz.func140,Tryz.ntmps140
   go_wp2
   go_ret
   exact⟨rfl,zf _ _⟩
  ·have e1':(n.op== [110,117,109])=true:=e1
   cases e2:(n.s== [])
   ·go_enter Tryz.func140,Tryz.ntmps140
    go_wp2
    go_ret
    exact⟨rfl,zf _ _⟩
   ·by_cases hL0:L=0
    ·subst hL0
     cases B
     all_goals
      go_enter Tryz.func140,Tryz.ntmps140
      go_wp2_with (go_at_call 81;refine(hnum _).mono ?_;rintro e w1 ⟨rfl,hb1⟩;have hN1:=(zh.new w _ _).below hb1 (by simp);have n4:=hN1.cell 4)
      go_ret
      exact⟨rfl,(zf w _).trans (hb1.mono (by simp))⟩
    ·have hL0':¬(L:Int)=0:=by omega
     cases B
     all_goals
      go_enter Tryz.func140,Tryz.ntmps140
      go_wp2_with (go_at_call 81;refine(hnum _).mono ?_;rintro e w1 ⟨rfl,hb1⟩;have hN1:=(zh.new w _ _).below hb1 (by simp);have n4:=hN1.cell 4)
      go_ret
      exact⟨by simp[hL0],(zf w _).trans (hb1.mono (by simp))⟩
 |na =>
  show Calls Tryz.prog 140 #[.agg (qa n (.slice A n.l.length C)),.string ⟨#[110,97,109,101]⟩,.int .i64 (N:Nat)] w _;simp only[qT];have hL:((n.l.length:Nat):Int)≤9223372036854775807:=by omega
  generalize n.l.length=L at *;unfold qa at *;generalize jn n.s=B at *;clear hx hx' h hnum
  cases e1:(n.op==qZ)
  ·have e1':(n.op== [110,97,109,101])=false:=e1
   go_enter Tryz.func140,Tryz.ntmps140
   go_wp2
   go_ret
   exact⟨rfl,zf _ _⟩
  ·have e1':(n.op== [110,97,109,101])=true:=e1
   cases B
   ·go_enter Tryz.func140,Tryz.ntmps140
    go_wp2_with (go_at_call 80;refine(hnam _).mono ?_;rintro e w1 ⟨rfl,hb1⟩)
    go_ret
    exact⟨rfl,(zf w _).trans (hb1.mono (by simp))⟩
   ·generalize n.n=M at *
    by_cases hM:M=0
    ·subst hM
     by_cases hL0:L=0
     ·subst hL0
      go_enter Tryz.func140,Tryz.ntmps140
      go_wp2_with (go_at_call 80;refine(hnam _).mono ?_;rintro e w1 ⟨rfl,hb1⟩;have hN1:=(zh.new w _ _).below hb1 (by simp);have n2:=hN1.cell 2;have n4:=hN1.cell 4)
      go_ret
      exact⟨rfl,(zf w _).trans (hb1.mono (by simp))⟩
     ·have hL0':¬(L:Int)=0:=by omega
      go_enter Tryz.func140,Tryz.ntmps140
      go_wp2_with (go_at_call 80;refine(hnam _).mono ?_;rintro e w1 ⟨rfl,hb1⟩;have hN1:=(zh.new w _ _).below hb1 (by simp);have n2:=hN1.cell 2;have n4:=hN1.cell 4)
      go_ret
      exact⟨by simp[hL0],(zf w _).trans (hb1.mono (by simp))⟩
    ·go_enter Tryz.func140,Tryz.ntmps140
     go_wp2_with (go_at_call 80;refine(hnam _).mono ?_;rintro e w1 ⟨rfl,hb1⟩;have hN1:=(zh.new w _ _).below hb1 (by simp);have n2:=hN1.cell 2)
     go_ret
     exact⟨by simp[hM],(zf w _).trans (hb1.mono (by simp))⟩
 |ex =>
  show Calls Tryz.prog 140 #[.agg (qa n (.slice A n.l.length C)),.string ⟨#[101,120,112,114]⟩,.int .i64 (N:Nat)] w _;simp only[qT];generalize zF d n=B at *;unfold qa at *;clear hnum hnam hx;go_enter Tryz.func140,Tryz.ntmps140
  go_wp2_with (go_at_call 83;refine(hx' _ (zf _ _)).mono ?_;rintro e w1 ⟨rfl,hb1⟩)
  go_ret
  exact⟨rfl,(zf w _).trans (hb1.mono (by simp))⟩
theorem KV(d N:Nat)(n:Nd)(A:Option Addr)(C:Nat)(w:World)(h:j3 w n A C)(hN:N≤12)
 (hx:∀W,j3 W n A C→Calls Tryz.prog 114 #[.agg (qa n (.slice A n.l.length C)),.int .i64 (N:Nat)] W (JF W (je (zF d) n))):
 Calls Tryz.prog 83 #[.agg (qa n (.slice A n.l.length C)),.int .i64 (N:Nat)] w (JF w (zF (d+1) n)):=by
 have hlen:=h.len;have hnam:=λW=>jX n A n.l.length C W (by have:=h.s;omega)
 have hs:=zr n.s;have ho:=zr n.op;have hx':=λW hW=>hx W (h.grow hW)
 have hN':¬(12:Int)<(N:Int):=by omega
 simp only[zF];have hL:((n.l.length:Nat):Int)≤9223372036854775807:=by omega
 generalize je (zF d) n=B at *;generalize n.l.length=L at *;unfold qa at *;generalize n.n=M at *;clear hx h;by_cases hM:M=0
 ·subst hM
  by_cases hu:n.op=jE
  ·have e1':(n.op== [117,115,101])=true:=by rw[hu];rfl
   rw[if_pos hu];generalize jn n.s=D at *;clear hx' hu;cases D
   ·go_enter Tryz.func83,Tryz.ntmps83
    go_wp2_with (go_at_call 80;refine(hnam _).mono ?_;rintro e w1 ⟨rfl,hb1⟩)
    go_ret
    exact⟨rfl,(zf w _).trans (hb1.mono (by simp))⟩
   ·by_cases hL0:L=0
    ·subst hL0
     go_enter Tryz.func83,Tryz.ntmps83
     go_wp2_with (go_at_call 80;refine(hnam _).mono ?_;rintro e w1 ⟨rfl,hb1⟩;have hN1:=(zh.new w _ _).below hb1 (by simp);have n4:=hN1.cell 4)
     go_ret
     exact⟨rfl,(zf w _).trans (hb1.mono (by simp))⟩
    ·have hL0':¬(L:Int)=0:=by omega
     go_enter Tryz.func83,Tryz.ntmps83
     go_wp2_with (go_at_call 80;refine(hnam _).mono ?_;rintro e w1 ⟨rfl,hb1⟩;have hN1:=(zh.new w _ _).below hb1 (by simp);have n4:=hN1.cell 4)
     go_ret
     exact⟨by simp[hL0],(zf w _).trans (hb1.mono (by simp))⟩
  ·have e1':(n.op== [117,115,101])=false:=by rw[beq_eq_false_iff_ne];exact hu
   rw[if_neg hu];clear hnam hu
   cases e2:(n.s== [])
   ·go_enter Tryz.func83,Tryz.ntmps83
    go_wp2
    go_ret
    exact⟨rfl,zf _ _⟩
   ·go_enter Tryz.func83,Tryz.ntmps83
    go_wp2_with (go_at_call 114;refine(hx' _ (zf _ _)).mono ?_;rintro e w1 ⟨rfl,hb1⟩)
    go_ret
    exact⟨rfl,(zf w _).trans (hb1.mono (by simp))⟩
 ·clear hnam hx'
  go_enter Tryz.func83,Tryz.ntmps83
  go_wp2
  go_ret
  exact⟨by simp,zf _ _⟩
theorem Y9(n:Nd)(A:Option Addr)(C:Nat)(w:World):
 Calls Tryz.prog 83 #[.agg (qa n (.slice A n.l.length C)),.int .i64 13] w (JF w (zF 0 n)):=by
 simp only[zF];unfold qa;go_enter Tryz.func83,Tryz.ntmps83
 go_wp2
 go_ret
 exact⟨rfl,zf _ _⟩
theorem kB{P:Program}{ops:Array Oper}{Q:Exit→Act→World→Prop}{md:Region.Mode}{S:World→Prop}{oi:Oper}(m:Nat)(d:Option Tmp)(v:Value){n:Nat}{listed:Array Bool}{a:Act}{w:World}(hr:Region.ready md ops listed= [m])
 (hi:ops[m]?=some oi) (hd:oi.dst=d) (hw:Region.wanted oi (yielded ops a.tmps)=true)
 (hrun:(execOp a.eval oi).run P w= .ok (.value v) w) (he:Region.ready md ops (listed.setIfInBounds m true)= [])
 (h:Q .normal (a.put d v) w):vl P md ops Q S m (n+1) listed a w:=by
 subst hd;refine⟨λh0=>absurd (hr ▸ h0) (by simp),λj hj=>?_⟩;obtain rfl:j=m:=by rw[hr]at hj;simpa using hj
 refine wpOp_step hi (λK hK=>?_);rw[if_pos hw];unfold Oper.wp;rw[hrun];refine hK _ _ ⟨λh=>absurd rfl h,?_⟩;cases n with
 |zero=>exact⟨he,h⟩
 |succ n=>exact⟨λ_=>h,by rw[he];simp⟩
theorem JU{o:Oper}{a:Act}(x:Operand)(ho:o.op= .load 24 x)(g:Nat)(hx:a.eval x= .pointer (some ⟨g,0,none⟩)){x0 x1 x2 x3 x4:Value}(w:World)(h:zh w g 24 #[x0,x1,x2,x3,x4]):(execOp a.eval o).run Tryz.prog w= .ok (.value (.agg #[x0,x1,x2,x3,x4])) w:=by
 have q0:=h.cell 0;have q1:=h.cell 1;have q2:=h.cell 2;have q3:=h.cell 3;have q4:=h.cell 4;unfold execOp;simp only[ho,hx];go_simp
theorem Vi{x:Int}(h0: -9223372036854775808≤x)(h1:x≤9223372036854775807):IntKind.i64.wrap x=x:=by
 simp[IntKind.wrap,IntKind.signed,IntKind.bits];omega
theorem Y2{o:Oper}{a:Act}(x:Operand)(ho:o.op= .binOp .sub 3 x (.const (.int .i64 1)) 3)(K:Nat)(hK:1≤K)(hK3:K≤3)(hx:a.eval x= .int .i64 (K:Nat))(w:World):(execOp a.eval o).run Tryz.prog w= .ok (.value (.int .i64 ((K-1:Nat):Int))) w:=by
 have e:((K-1:Nat):Int)=(K:Int)-1:=by omega
 have h1:(1:Int)≤(K:Int):=by omega
 have h3:(K:Int)≤3:=by omega
 rw[e];unfold execOp;simp only[ho,hx];go_simp;exact Vi (by omega) (by omega)
theorem YF{o:Oper}{a:Act}(x:Operand)(ho:o.op= .binOp .add 3 x (.const (.int .i64 1)) 3)(N:Nat)(hN:N≤12)(hx:a.eval x= .int .i64 (N:Nat))(w:World):(execOp a.eval o).run Tryz.prog w= .ok (.value (.int .i64 ((N+1:Nat):Int))) w:=by
 have e:((N+1:Nat):Int)=(N:Int)+1:=by omega
 have h3:(N:Int)≤12:=by omega
 have h0:(0:Int)≤(N:Int):=by omega
 rw[e];unfold execOp;simp only[ho,hx];go_simp;exact Vi (by omega) (by omega)
theorem GN{o:Oper}{a:Act}(x y:Operand)(ho:o.op= .call { callee:= .builtin .min,args:=#[x,y],argTypes:=#[3,3] })(n m:Nat)(hx:a.eval x= .int .i64 (n:Nat))(hy:a.eval y= .int .i64 (m:Nat))(w:World):(execOp a.eval o).run Tryz.prog w= .ok (.value (.int .i64 ((min n m:Nat):Int))) w:=by
 unfold execOp;simp only[ho,resolve,invoke,builtin,List.map_toArray,List.map_cons,List.map_nil,hx,hy];by_cases h:n<m
 ·have e:min n m=n:=by omega
  have h':(n:Int)<(m:Int):=by omega
  rw[e];go_simp;omega
 ·have e:min n m=m:=by omega
  have h':¬(n:Int)<(m:Int):=by omega
  rw[e];go_simp;omega
theorem YH{re:Nd→Bool}{n:Nd}(h:Yr (zw n.op).1 (zw n.op).2 n.l.length=false):je re n=false:=by
 unfold je;rw[h];rfl
theorem zc{w w':World}{p:Addr}{v:Value}(h:Below w.heap.size w w')(hc:w.cell? p=some v):w'.cell? p=some v:=(h.cell (World.block_lt_of_cell? w p hc)).trans hc
theorem YM{ks:List Kd}{i:Nat}(h:0<ks.length):∃hk:min i (ks.length-1)<ks.length,ks[min i (ks.length-1)]=Qe ks i:=by
 have hk:min i (ks.length-1)<ks.length:=by omega
 exact⟨hk,by unfold Qe;rw[List.getD_eq_getElem?_getD,List.getElem?_eq_getElem hk];rfl⟩
theorem Jw(p:Nat→Bool)(i:Nat):(List.range (i+1)).all p=((List.range i).all p&&p i):=by
 rw[List.range_succ,List.all_append];simp
theorem kh(d N:Nat)(n:Nd)(A:Option Addr)(C:Nat)(w:World)(h:j3 w n A C)(hN:N≤12)
 (hx:∀m A' C' W,j3 W m A' C'→Calls Tryz.prog 83 #[.agg (qa m (.slice A' m.l.length C')),.int .i64 ((N+1:Nat):Int)] W (JF W (zF d m))):
 Calls Tryz.prog 114 #[.agg (qa n (.slice A n.l.length C)),.int .i64 (N:Nat)] w (JF w (je (zF d) n)):=by
 have hlen:=h.len;have ho:=zr n.op;have hin:=Ga n.op;have hpt:=λk m A' C' W (hr:j3 W m A' C')=>Fi d (N+1) k m A' C' W hr (by omega) (λW hW=>hx m A' C' W hW)
 have hpsh:=YH (re:=zF d) (n:=n)
 obtain⟨K,hK⟩:∃K,K=(zw n.op).1.length:=⟨_,rfl⟩
 have hK3:K≤3:=by rw[hK];exact ZN n.op
 have HK:Hid (K=(zw n.op).1.length):=hK;generalize hB:(zw n.op).2=B at hin hpsh;have HB:Hid ((zw n.op).2=B):=hB
 obtain⟨L,hL⟩:∃L,L=n.l.length:=⟨_,rfl⟩
 have HL:Hid (L=n.l.length):=hL;have hL2:L≤9223372036854775807:=by omega
 have HF:Hid (Yr (zw n.op).1 B L=(!(decide (K=0))&& !(decide (L<K))&& !(decide (K<L)&& !B))):=by show _=_;unfold Yr;rw[←hK]
 have hfe:Yr (zw n.op).1 B L=false→je (zF d) n=false:=by rw[hL];exact hpsh
 rw[←hL];clear hpsh hx hK hB hL;cases hft:Yr (zw n.op).1 B L with
 |false =>
  rw[hfe hft]
  have hcs:K=0∨(K≠0∧L<K)∨(K≠0∧K<L∧B=false):=by
   rw[HF.out]at hft;by_cases a1:K=0
   ·exact .inl a1
   ·by_cases a2:L<K
    ·exact .inr (.inl ⟨a1,a2⟩)
    ·refine .inr (.inr ⟨a1,?_⟩)
     simp[a1]at hft;have a3:=hft (by omega);exact⟨a3.1,a3.2⟩
  clear hfe hft HF hpt h;unfold qa;rcases hcs with a1|⟨a1,a2⟩|⟨a1,a2,rfl⟩
  ·have b1:((K:Nat):Int)=0:=by omega
   go_enter Tryz.func114,Tryz.ntmps114
   go_wp2_with (first
    |((go_at_call 139)
      refine(hin _).mono ?_;rintro e w1 ⟨v,rfl,hb1,hs1⟩;(obtain⟨A8,L8,C8,rfl⟩:∃A L C,v= .slice A L C:=by(rcases hs1 with⟨_,rfl⟩|⟨g,rfl,_⟩<;>exact⟨_,_,_,rfl⟩));obtain⟨e8,l8,c8,g8⟩:=hs1.get;rw[←HK.out]at e8;have e8':=e8.symm;subst e8';have hN1:=(zh.new w _ _).below hb1 (by simp);(have n4:=hN1.cell 4)))
   go_ret
   exact⟨rfl,(zf w _).trans (hb1.mono (by simp))⟩
  ·have b1:¬((K:Nat):Int)=0:=by omega
   have b2:((L:Nat):Int)<((K:Nat):Int):=by omega
   go_enter Tryz.func114,Tryz.ntmps114
   go_wp2_with (first
    |((go_at_call 139)
      refine(hin _).mono ?_;rintro e w1 ⟨v,rfl,hb1,hs1⟩;(obtain⟨A8,L8,C8,rfl⟩:∃A L C,v= .slice A L C:=by(rcases hs1 with⟨_,rfl⟩|⟨g,rfl,_⟩<;>exact⟨_,_,_,rfl⟩));obtain⟨e8,l8,c8,g8⟩:=hs1.get;rw[←HK.out]at e8;have e8':=e8.symm;subst e8';have hN1:=(zh.new w _ _).below hb1 (by simp);(have n4:=hN1.cell 4)))
   go_ret
   exact⟨rfl,(zf w _).trans (hb1.mono (by simp))⟩
  ·have b1:¬((K:Nat):Int)=0:=by omega
   have b2:¬((L:Nat):Int)<((K:Nat):Int):=by omega
   have b3:((K:Nat):Int)<((L:Nat):Int):=by omega
   go_enter Tryz.func114,Tryz.ntmps114
   go_wp2_with (first
    |((go_at_call 139)
      refine(hin _).mono ?_;rintro e w1 ⟨v,rfl,hb1,hs1⟩;(obtain⟨A8,L8,C8,rfl⟩:∃A L C,v= .slice A L C:=by(rcases hs1 with⟨_,rfl⟩|⟨g,rfl,_⟩<;>exact⟨_,_,_,rfl⟩));obtain⟨e8,l8,c8,g8⟩:=hs1.get;rw[←HK.out]at e8;have e8':=e8.symm;subst e8';have hN1:=(zh.new w _ _).below hb1 (by simp);(have n4:=hN1.cell 4)))
   go_ret
   exact⟨rfl,(zf w _).trans (hb1.mono (by simp))⟩
 |true =>
  have hcs:K≠0∧¬L<K∧(K<L→B=true):=by
   rw[HF.out]at hft;simp only[Bool.and_eq_true,Bool.not_eq_true',decide_eq_false_iff_not,Bool.and_eq_false_iff,Bool.not_eq_false']at hft;refine⟨hft.1.1,hft.1.2,λhlt=>?_⟩;rcases hft.2 with h|h
   ·exact absurd hlt h
   ·exact h
  have hP:je (zF d) n=(List.range L).all λi=>qT (zF d) (Qe (zw n.op).1 i) (n.l.getD i (.mk [] [] 0 0 [])):=by
   unfold je;rw[HB.out,←HL.out,hft,Bool.true_and]
  rw[hP];obtain⟨b1,b2,b3⟩:=hcs;have b1':¬((K:Nat):Int)=0:=by omega
  have b2':¬((L:Nat):Int)<((K:Nat):Int):=by omega
  have hb3:(((K:Nat):Int)<((L:Nat):Int)∧B=true)∨¬((K:Nat):Int)<((L:Nat):Int):=by
   by_cases hlt:K<L
   ·exact .inl ⟨by omega,b3 hlt⟩
   ·exact .inr (by omega)
  clear hfe hft HF hP b3;generalize hp:(λi=>qT (zF d) (Qe (zw n.op).1 i) (n.l.getD i (.mk [] [] 0 0 [])))=p;have HP:Hid (∀i,p i=qT (zF d) (Qe (zw n.op).1 i) (n.l.getD i (.mk [] [] 0 0 []))):=λi=>by rw[←hp]
  clear hp;have hrd:=h;rw[show(qa n (.slice A L C))= #[.string (bs n.op),.string (bs n.s),.int .i64 n.n,.int .i64 n.a,.slice A L C]from rfl];rcases hb3 with⟨b3,rfl⟩|b3
  all_goals
   go_enter Tryz.func114,Tryz.ntmps114
   go_wp2_with (first
    |((go_at_call 139)
      refine(hin _).mono ?_;rintro e w1 ⟨v,rfl,hb1,hs1⟩;(obtain⟨A8,L8,C8,rfl⟩:∃A L C,v= .slice A L C:=by(rcases hs1 with⟨_,rfl⟩|⟨g,rfl,_⟩<;>exact⟨_,_,_,rfl⟩));obtain⟨e8,l8,c8,g8⟩:=hs1.get;rw[←HK.out]at e8;have e8':=e8.symm;subst e8';have hN1:=(zh.new w _ _).below hb1 (by simp);have n4:=hN1.cell 4;(have hbw:Below w.heap.size w w1:=(zf w _).trans (hb1.mono (by simp)))))
   have hA0:(List.range 0).all p=true:=rfl;obtain⟨gk,rfl,-⟩:=g8 0 (by rw[←HK.out];omega);clear g8 n4 hN1
   go_loopw [41] (λz wz=>∃i:Nat,i≤L∧z= .int .i64 (i:Nat)∧Below w1.heap.size w1 wz∧(List.range i).all p=true) (λz _=>L-(intOf z).toNat)
   case atStart=>exact⟨0,Nat.zero_le _,rfl,Below.refl _ _,hA0⟩
   case round =>
    clear hA0;obtain⟨i,hi,rfl,hbz,hall⟩:=hrel;have HA:Hid ((List.range i).all p=true):=hall;clear hall;by_cases hiL:i<L
    ·have hiL2:(i:Int)<(L:Int):=by omega
     have hiL':i<n.l.length:=by rw[←HL.out];exact hiL
     have hbwr:Below w.heap.size w wr:=hbw.trans (hbz.mono hbw.size);have hR:=(hrd.grow hbwr).rd;rw[←HL.out]at hR;obtain⟨g,off,u,rfl,hg,hc,hru,hsu,hou⟩:=hR.get i hiL'
     obtain⟨m,hm⟩:∃m,m=n.l[i]:=⟨_,rfl⟩
     rw[←hm]at hc hru hsu hou;obtain⟨Au,Cu,rfl,-,-⟩:=hru.slice;have d0:=hc 0 (by decide);have d1:=hc 1 (by decide);have d2:=hc 2 (by decide);have d3:=hc 3 (by decide);have d4:=hc 4 (by decide);simp only[Nat.add_zero]at d0;simp only[qa]at d0 d1 d2 d3 d4;obtain⟨hk,hkg⟩:=YM (ks:=(zw n.op).1) (i:=i) (by rw[←HK.out];omega)
     obtain⟨k,hkk⟩:∃k,k=Qe (zw n.op).1 i:=⟨_,rfl⟩
     have hsw:=hs1.below hbz;obtain⟨gk',ek,hck⟩:=hsw.get.2.2.2 _ hk;cases ek;rw[hkg,←hkk,←HK.out]at hck;have hp1:p i=qT (zF d) k m:=by rw[HP.out i,←hkk,hm,List.getD_eq_getElem?_getD,List.getElem?_eq_getElem hiL'];rfl
     have HP1:Hid (p i=qT (zF d) k m):=hp1;have hpm:=λW hW=>hpt k m Au Cu W (j3.grow (w:=wr) ⟨hru,hsu,hou⟩ hW)
     generalize qT (zF d) k m=V at hpm HP1;clear hp1 hkg hkk hm hc hR hpt hin hsw hk
     go_wp2
     obtain⟨W0,hW0⟩:∃W,W=wr.alloc (.cells #[.string (bs m.op),.string (bs m.s),.int .i64 m.n,.int .i64 m.a,.slice Au m.l.length Cu] 24):=⟨_,rfl⟩
     have hbW0:Below wr.heap.size wr W0:=by rw[hW0];exact zf _ _
     have hH0:zh W0 wr.heap.size 24 #[.string (bs m.op),.string (bs m.s),.int .i64 m.n,.int .i64 m.a,.slice Au m.l.length Cu]:=by rw[hW0];exact zh.new _ _ _
     have hck0:W0.cell? ⟨gk,min i (K-1),none⟩=some (.string (bs k.w)):=zc hbW0 hck;rw[←hW0];clear hW0;refine vQ (S:=λW=>zh W wr.heap.size 24 #[.string (bs m.op),.string (bs m.s),.int .i64 m.n,.int .i64 m.a,.slice Au m.l.length Cu]∧W.cell? ⟨gk,min i (K-1),none⟩=some (.string (bs k.w))) 12 (by kernel_rfl) ⟨hH0,hck0⟩ (λhHeld=>?_);refine Zb 0 [11] (some 46) (.agg #[.string (bs m.op),.string (bs m.s),.int .i64 m.n,.int .i64 m.a,.slice Au m.l.length Cu]) rfl rfl (by decide) (by kernel_rfl) (by kernel_rfl) (by kernel_rfl) (by kernel_rfl) (by kernel_rfl) (λ_ _ _ h=>h) (by rfl) (λwz hz=>JU _ rfl _ rfl _ hz.1) hHeld ?_;simp only[Act.put,zl,zk,zj];refine Zb 1 [7,8,11] (some 47) (.slice (some ⟨gk,0,none⟩) K C8) rfl rfl (by decide) (by kernel_rfl) (by kernel_rfl) (by kernel_rfl) (by kernel_rfl) (by kernel_rfl) (λ_ _ _ h=>h) (by rfl) (λ_ _=>rfl) hHeld ?_;simp only[Act.put,zl,zk,zj];refine Zb 2 [6,7,8,11] (some 48) (.int .i64 (i:Nat)) rfl rfl (by decide) (by kernel_rfl) (by kernel_rfl) (by kernel_rfl) (by kernel_rfl) (by kernel_rfl) (λ_ _ _ h=>h) (by rfl) (λ_ _=>rfl) hHeld ?_;simp only[Act.put,zl,zk,zj];refine Zb 3 [4,5,6,7,8,11] (some 49) (.slice (some ⟨gk,0,none⟩) K C8) rfl rfl (by decide) (by kernel_rfl) (by kernel_rfl) (by kernel_rfl) (by kernel_rfl) (by kernel_rfl) (λ_ _ _ h=>h) (by rfl) (λ_ _=>rfl) hHeld ?_;simp only[Act.put,zl,zk,zj];refine Zb 4 [5,6,7,8,11] (some 50) (.int .i64 (K:Nat)) rfl rfl (by decide) (by kernel_rfl) (by kernel_rfl) (by kernel_rfl) (by kernel_rfl) (by kernel_rfl) (λ_ _ _ h=>h) (by rfl) (λwz _=>ZQ 104 9 Tryz.underlying104 _ rfl _ _ _ rfl wz) hHeld ?_;simp only[Act.put,zl,zk,zj];refine Zb 5 [6,7,8,11] (some 51) (.int .i64 ((K-1:Nat):Int)) rfl rfl (by decide) (by kernel_rfl) (by kernel_rfl) (by kernel_rfl) (by kernel_rfl) (by kernel_rfl) (λ_ _ _ h=>h) (by rfl) (λwz _=>Y2 _ rfl K (by omega) hK3 rfl wz) hHeld ?_;simp only[Act.put,zl,zk,zj];refine Zb 6 [7,8,11] (some 52) (.int .i64 ((min i (K-1):Nat):Int)) rfl rfl (by decide) (by kernel_rfl) (by kernel_rfl) (by kernel_rfl) (by kernel_rfl) (by kernel_rfl) (λ_ _ _ h=>h) (by rfl) (λwz _=>GN _ _ rfl i (K-1) rfl rfl wz) hHeld ?_;simp only[Act.put,zl,zk,zj];refine Zb 7 [8,11] (some 53) (.pointer (some ⟨gk,0+min i (K-1),none⟩)) rfl rfl (by decide) (by kernel_rfl) (by kernel_rfl) (by kernel_rfl) (by kernel_rfl) (by kernel_rfl) (λ_ _ _ h=>h) (by rfl) (λwz _=>xA 104 _ _ rfl gk 0 (min i (K-1)) K C8 9 rfl rfl Tryz.underlying104 (by kernel_rfl) (by omega) wz) hHeld ?_;simp only[Act.put,zl,zk,zj];refine Zb 8 [11] (some 54) (.string (bs k.w)) rfl rfl (by decide) (by kernel_rfl) (by kernel_rfl) (by kernel_rfl) (by kernel_rfl) (by kernel_rfl) (λ_ _ _ h=>h) (by rfl) (λwz hz=>Ya _ _ rfl (.inl rfl) _ rfl _ _ (by rw[Nat.zero_add];exact hz.2)) hHeld ?_;simp only[Act.put,zl,zk,zj];refine Zb 9 [10,11] (some 55) (.int .i64 (N:Nat)) rfl rfl (by decide) (by kernel_rfl) (by kernel_rfl) (by kernel_rfl) (by kernel_rfl) (by kernel_rfl) (λ_ _ _ h=>h) (by rfl) (λ_ _=>rfl) hHeld ?_;simp only[Act.put,zl,zk,zj];refine Zb 10 [11] (some 56) (.int .i64 ((N+1:Nat):Int)) rfl rfl (by decide) (by kernel_rfl) (by kernel_rfl) (by kernel_rfl) (by kernel_rfl) (by kernel_rfl) (λ_ _ _ h=>h) (by rfl) (λwz _=>YF _ rfl N hN rfl wz) hHeld ?_;simp only[Act.put,zl,zk,zj];refine Dj 11 (some 57) 140 #[.agg #[.string (bs m.op),.string (bs m.s),.int .i64 m.n,.int .i64 m.a,.slice Au m.l.length Cu],.string (bs k.w),.int .i64 ((N+1:Nat):Int)] (by kernel_rfl) rfl rfl (by rfl) (by kernel_rfl) (hpm W0.drew (zp hbW0)) ?_;rintro e w4 ⟨rfl,hb4⟩
     have hb4':Below W0.heap.size W0 w4:=⟨hb4.os,hb4.tape,hb4.output,hb4.size,hb4.block⟩
     refine⟨_,rfl,⟨hH0.below hb4' hH0.lt,zc hb4' hck0⟩,?_⟩;simp only[Act.put,zl,zk,zj];have hbN:Below w1.heap.size w1 w4:=(hbz.trans (hbW0.mono hbz.size)).trans (hb4'.mono (by have:=hbz.size;have:=hbW0.size;omega));clear hck0 hck hH0;cases V with
     |true =>
      refine kB 12 (some 58) (.bool false) (by kernel_rfl) rfl rfl (by rfl) (by kernel_rfl) (by kernel_rfl) ?_;simp only[Act.put,zl,zk,zj]
      go_wp2
      go_roundw
      case rel=>exact⟨i+1,by omega,by go_num,hbN,by rw[Jw,HA.out,HP1.out];rfl⟩
      case measure=>simp[intOf];omega
     |false =>
      refine kB 12 (some 58) (.bool true) (by kernel_rfl) rfl rfl (by rfl) (by kernel_rfl) (by kernel_rfl) ?_;simp only[Act.put,zl,zk,zj]
      go_wp2
      go_ret
      refine⟨qi ?_,hbw.trans (hbN.mono hbw.size)⟩
      symm
      rw[List.all_eq_false];exact⟨i,List.mem_range.2 hiL,by rw[HP1.out];decide⟩
    ·have hiL2:i=L:=by omega
     subst hiL2
     go_wp2
     go_ret
     exact⟨qi HA.out.symm,hbw.trans (hbz.mono hbw.size)⟩
theorem Gr(d:Nat):∀(N:Nat) (n:Nd) (A:Option Addr) (C:Nat) (w:World),N+d=13→j3 w n A C→Calls Tryz.prog 83 #[.agg (qa n (.slice A n.l.length C)),.int .i64 (N:Nat)] w (JF w (zF d n)):=by
 induction d with
 |zero =>
  intro N n A C w hN h;have :N=13:=by omega
  subst this;exact Y9 n A C w
 |succ d ih =>
  intro N n A C w hN h;exact KV d N n A C w h (by omega) (λW hW=>kh d N n A C W hW (by omega) (λm A' C' W' h'=>ih (N+1) m A' C' W' (by omega) h'))
theorem kJ(n:Nd)(A:Option Addr)(L C:Nat)(w:World)(hm:n.s.length<maxLen)(hlL:L=n.l.length)(hL:L≤9223372036854775807):Calls Tryz.prog 82 #[.agg (qa n (.slice A L C))] w (JF w (yu n)):=by
 have htk:∀W,Calls Tryz.prog 112 #[.string (⟨#[36]⟩++bs n.s)] W λe w'=>e= .returned (vZ (xy (36::n.s)))∧Below W.heap.size W w':=by
  intro W;have e:(⟨#[36]⟩:ByteArray)++bs n.s=bs (36::n.s):=by rw[show(⟨#[36]⟩:ByteArray)=bs [36]from rfl,Gl];rfl
  rw[e];exact kS (36::n.s) W (by simp only[List.length_cons];omega)
 have hsz:=zx n.s;have hsz2:((bs n.s).size:Int)<9223372036854775807:=by unfold maxLen at hm;omega
 unfold yu JA;rw[←hlL];unfold qa;have hs:=zr n.s;have ho:=zr n.op;generalize n.n=M at *;clear hlL
 cases e1:(n.op==Qu)
 ·have e1':(n.op== [104,101,120])=false:=e1
  generalize xy (36::n.s)=O at *;cases O with
  |none =>
   simp only[vZ]at htk;go_enter Tryz.func82,Tryz.ntmps82
   go_wp2_with (go_at_call 112;refine(htk _).mono ?_;rintro e w1 ⟨rfl,hb1⟩;have hN1:=(zh.new w _ _).below hb1 (by simp);have n0:=hN1.cell 0;have hlN:=hN1.lt)
   go_ret
   exact⟨rfl,yx hb1⟩
  |some t =>
   simp only[vZ,jG]at htk;go_enter Tryz.func82,Tryz.ntmps82
   go_wp2_with (go_at_call 112;refine(htk _).mono ?_;rintro e w1 ⟨rfl,hb1⟩;have hN1:=(zh.new w _ _).below hb1 (by simp);have n0:=hN1.cell 0;have hlN:=hN1.lt)
   go_ret
   exact⟨rfl,yx hb1⟩
 ·have e1':(n.op== [104,101,120])=true:=e1
  cases hO:xy (36::n.s)with
  |none =>
   rw[hO]at htk;simp only[vZ]at htk;clear hO;go_enter Tryz.func82,Tryz.ntmps82
   go_wp2_with (go_at_call 112;refine(htk _).mono ?_;rintro e w1 ⟨rfl,hb1⟩;have hN1:=(zh.new w _ _).below hb1 (by simp);have n0:=hN1.cell 0;have hlN:=hN1.lt)
   go_ret
   exact⟨rfl,yx hb1⟩
  |some t =>
   rw[hO]at htk;simp only[vZ,jG]at htk;obtain⟨⟨K,S,V⟩,q⟩:=t;simp only at htk ⊢;have hs2:=zr S;clear hO;by_cases h2:K=2
   ·subst h2
    have htk':∀W,Calls Tryz.prog 112 #[.string (⟨#[36]⟩++bs n.s)] W λe w'=>e= .returned (.tuple #[.agg #[.int .i64 2,.string (bs S),.int .i64 (V:Nat),.int .i64 (q:Nat)],.bool true])∧Below W.heap.size W w':=htk
    clear htk
    cases e3:(S==n.s)
    ·go_enter Tryz.func82,Tryz.ntmps82
     go_wp2_with (go_at_call 112;refine(htk' _).mono ?_;rintro e w1 ⟨rfl,hb1⟩;have hN1:=(zh.new w _ _).below hb1 (by simp);have n0:=hN1.cell 0;have n1:=hN1.cell 1;have hlN:=hN1.lt)
     go_ret
     exact⟨rfl,yx hb1⟩
    ·by_cases hM:M=0
     ·subst hM
      by_cases hL0:L=0
      ·subst hL0
       go_enter Tryz.func82,Tryz.ntmps82
       go_wp2_with (go_at_call 112;refine(htk' _).mono ?_;rintro e w1 ⟨rfl,hb1⟩;have hN1:=(zh.new w _ _).below hb1 (by simp);have n0:=hN1.cell 0;have n1:=hN1.cell 1;have n2:=hN1.cell 2;have n4:=hN1.cell 4;have hlN:=hN1.lt)
       go_ret
       exact⟨rfl,yx hb1⟩
      ·have hL0':¬(L:Int)=0:=by omega
       go_enter Tryz.func82,Tryz.ntmps82
       go_wp2_with (go_at_call 112;refine(htk' _).mono ?_;rintro e w1 ⟨rfl,hb1⟩;have hN1:=(zh.new w _ _).below hb1 (by simp);have n0:=hN1.cell 0;have n1:=hN1.cell 1;have n2:=hN1.cell 2;have n4:=hN1.cell 4;have hlN:=hN1.lt)
       go_ret
       exact⟨by simp[hL0],yx hb1⟩
     ·go_enter Tryz.func82,Tryz.ntmps82
      go_wp2_with (go_at_call 112;refine(htk' _).mono ?_;rintro e w1 ⟨rfl,hb1⟩;have hN1:=(zh.new w _ _).below hb1 (by simp);have n0:=hN1.cell 0;have n1:=hN1.cell 1;have n2:=hN1.cell 2;have hlN:=hN1.lt)
      go_ret
      exact⟨by simp[hM],yx hb1⟩
   ·have h2':¬((K:Nat):Int)=2:=by omega
    go_enter Tryz.func82,Tryz.ntmps82
    go_wp2_with (go_at_call 112;refine(htk _).mono ?_;rintro e w1 ⟨rfl,hb1⟩;have hN1:=(zh.new w _ _).below hb1 (by simp);have n0:=hN1.cell 0;have hlN:=hN1.lt)
    go_ret
    exact⟨by simp[h2],yx hb1⟩
def vT(n:Nd):Bool:=
 (if n.op=zd∨n.op=zm then vz n.n&&decide (n.l.length=0)
  else if n.op=qo∨n.op=zQ then decide (n.n=0)&&decide (n.l.length=1)&&yu (n.l.getD 0 (.mk [] [] 0 0 []))
  else if n.op=zv then decide (n.n=0)&&decide (n.l.length=1)&&zF 12 (n.l.getD 0 (.mk [] [] 0 0 []))
  else if n.op=zM then(decide (n.n=0)||decide (n.n=1))&&decide (n.l.length=0)
  else false)
theorem uu(n:Nd):qY n=(jn n.s&&vT n):=rfl
theorem V8(s:List UInt8)(M at_:Int)(l:List Nd)(A:Option Addr)(C:Nat)(w:World)(h:j3 w (.mk zd s M at_ l) A C)(hname:jn s=true):
 Calls Tryz.prog 49 #[.agg (qa (.mk zd s M at_ l) (.slice A l.length C))] w (JF w (vT (.mk zd s M at_ l))):=by
 have hlen:=h.len;have hnam:=λW=>jX (.mk zd s M at_ l) A l.length C W (by have:=h.s;omega)
 have hl2:((l.length:Nat):Int)≤9223372036854775807:=by have h1:=hlen.1;have h2:=hlen.2;simp only[Nd.l]at h1;omega
 simp only[Nd.s,hname]at hnam;have hnum:=λW=>Zd (.mk zd s M at_ l) A l.length C W
 have hR:vT (.mk zd s M at_ l)=(vz M&&decide (l.length=0)):=if_pos (by first |exact .inl rfl|exact .inr rfl);rw[hR];unfold qa at hnum;simp only[Nd.op,Nd.s,Nd.n,Nd.a,Xc]at hnum;unfold qa at hnam ⊢;simp only[Nd.op,Nd.s,Nd.n,Nd.a,Xc]at hnam ⊢;clear h hlen hR;generalize vz M=B at *;generalize l.length=L at *;cases B
 ·go_enter Tryz.func49,Tryz.ntmps49
  go_wp2_with (first
   |(go_at_call 80;refine(hnam _).mono ?_;rintro e w1 ⟨rfl,hb1⟩;have hN1:=(zh.new w _ _).below hb1 (by simp);have n0:=hN1.cell 0;have n2:=hN1.cell 2;have n4:=hN1.cell 4;have q0:=hN1.cell 1;have q3:=hN1.cell 3;have hlN:=hN1.lt)
   |(go_at_call 81;refine(hnum _).mono ?_;rintro e w2 ⟨rfl,hb2⟩))
  go_ret
  exact⟨rfl,((zf w _).trans (hb1.mono (by simp))).trans (hb2.mono (by have:=hb1.size;simp at this;omega))⟩
 ·by_cases hL0:L=0
  ·subst hL0
   go_enter Tryz.func49,Tryz.ntmps49
   go_wp2_with (first
    |(go_at_call 80;refine(hnam _).mono ?_;rintro e w1 ⟨rfl,hb1⟩;have hN1:=(zh.new w _ _).below hb1 (by simp);have n0:=hN1.cell 0;have n2:=hN1.cell 2;have n4:=hN1.cell 4;have q0:=hN1.cell 1;have q3:=hN1.cell 3;have hlN:=hN1.lt)
    |(go_at_call 81;refine(hnum _).mono ?_;rintro e w2 ⟨rfl,hb2⟩;have m4:=(hN1.below hb2 hlN).cell 4))
   go_ret
   exact⟨rfl,((zf w _).trans (hb1.mono (by simp))).trans (hb2.mono (by have:=hb1.size;simp at this;omega))⟩
  ·have hL0':¬(L:Int)=0:=by omega
   go_enter Tryz.func49,Tryz.ntmps49
   go_wp2_with (first
    |(go_at_call 80;refine(hnam _).mono ?_;rintro e w1 ⟨rfl,hb1⟩;have hN1:=(zh.new w _ _).below hb1 (by simp);have n0:=hN1.cell 0;have n2:=hN1.cell 2;have n4:=hN1.cell 4;have q0:=hN1.cell 1;have q3:=hN1.cell 3;have hlN:=hN1.lt)
    |(go_at_call 81;refine(hnum _).mono ?_;rintro e w2 ⟨rfl,hb2⟩;have m4:=(hN1.below hb2 hlN).cell 4))
   go_ret
   exact⟨by simp[hL0],((zf w _).trans (hb1.mono (by simp))).trans (hb2.mono (by have:=hb1.size;simp at this;omega))⟩
theorem JT(s:List UInt8)(M at_:Int)(l:List Nd)(A:Option Addr)(C:Nat)(w:World)(h:j3 w (.mk zm s M at_ l) A C)(hname:jn s=true):
 Calls Tryz.prog 49 #[.agg (qa (.mk zm s M at_ l) (.slice A l.length C))] w (JF w (vT (.mk zm s M at_ l))):=by
 have hlen:=h.len;have hnam:=λW=>jX (.mk zm s M at_ l) A l.length C W (by have:=h.s;omega)
 have hl2:((l.length:Nat):Int)≤9223372036854775807:=by have h1:=hlen.1;have h2:=hlen.2;simp only[Nd.l]at h1;omega
 simp only[Nd.s,hname]at hnam;have hnum:=λW=>Zd (.mk zm s M at_ l) A l.length C W
 have hR:vT (.mk zm s M at_ l)=(vz M&&decide (l.length=0)):=if_pos (by first |exact .inl rfl|exact .inr rfl);rw[hR];unfold qa at hnum;simp only[Nd.op,Nd.s,Nd.n,Nd.a,Vn]at hnum;unfold qa at hnam ⊢;simp only[Nd.op,Nd.s,Nd.n,Nd.a,Vn]at hnam ⊢;clear h hlen hR;generalize vz M=B at *;generalize l.length=L at *;cases B
 ·go_enter Tryz.func49,Tryz.ntmps49
  go_wp2_with (first
   |(go_at_call 80;refine(hnam _).mono ?_;rintro e w1 ⟨rfl,hb1⟩;have hN1:=(zh.new w _ _).below hb1 (by simp);have n0:=hN1.cell 0;have n2:=hN1.cell 2;have n4:=hN1.cell 4;have q0:=hN1.cell 1;have q3:=hN1.cell 3;have hlN:=hN1.lt)
   |(go_at_call 81;refine(hnum _).mono ?_;rintro e w2 ⟨rfl,hb2⟩))
  go_ret
  exact⟨rfl,((zf w _).trans (hb1.mono (by simp))).trans (hb2.mono (by have:=hb1.size;simp at this;omega))⟩
 ·by_cases hL0:L=0
  ·subst hL0
   go_enter Tryz.func49,Tryz.ntmps49
   go_wp2_with (first
    |(go_at_call 80;refine(hnam _).mono ?_;rintro e w1 ⟨rfl,hb1⟩;have hN1:=(zh.new w _ _).below hb1 (by simp);have n0:=hN1.cell 0;have n2:=hN1.cell 2;have n4:=hN1.cell 4;have q0:=hN1.cell 1;have q3:=hN1.cell 3;have hlN:=hN1.lt)
    |(go_at_call 81;refine(hnum _).mono ?_;rintro e w2 ⟨rfl,hb2⟩;have m4:=(hN1.below hb2 hlN).cell 4))
   go_ret
   exact⟨rfl,((zf w _).trans (hb1.mono (by simp))).trans (hb2.mono (by have:=hb1.size;simp at this;omega))⟩
  ·have hL0':¬(L:Int)=0:=by omega
   go_enter Tryz.func49,Tryz.ntmps49
   go_wp2_with (first
    |(go_at_call 80;refine(hnam _).mono ?_;rintro e w1 ⟨rfl,hb1⟩;have hN1:=(zh.new w _ _).below hb1 (by simp);have n0:=hN1.cell 0;have n2:=hN1.cell 2;have n4:=hN1.cell 4;have q0:=hN1.cell 1;have q3:=hN1.cell 3;have hlN:=hN1.lt)
    |(go_at_call 81;refine(hnum _).mono ?_;rintro e w2 ⟨rfl,hb2⟩;have m4:=(hN1.below hb2 hlN).cell 4))
   go_ret
   exact⟨by simp[hL0],((zf w _).trans (hb1.mono (by simp))).trans (hb2.mono (by have:=hb1.size;simp at this;omega))⟩
theorem UH(s:List UInt8)(M at_:Int)(l:List Nd)(A:Option Addr)(C:Nat)(w:World)(h:j3 w (.mk qo s M at_ l) A C)(hname:jn s=true):
 Calls Tryz.prog 49 #[.agg (qa (.mk qo s M at_ l) (.slice A l.length C))] w (JF w (vT (.mk qo s M at_ l))):=by
 have hlen:=h.len;have hnam:=λW=>jX (.mk qo s M at_ l) A l.length C W (by have:=h.s;omega)
 have hl2:((l.length:Nat):Int)≤9223372036854775807:=by have h1:=hlen.1;have h2:=hlen.2;simp only[Nd.l]at h1;omega
 simp only[Nd.s,hname]at hnam;have hR:vT (.mk qo s M at_ l)=(decide (M=0)&&decide (l.length=1)&&yu (l.getD 0 (.mk [] [] 0 0 []))):=(if_neg (by show ¬(qo=zd∨qo=zm);decide)).trans (if_pos (by first |exact .inl rfl|exact .inr rfl));rw[hR];unfold qa at hnam ⊢;simp only[Nd.op,Nd.s,Nd.n,Nd.a,du]at hnam ⊢;by_cases hM:M=0
 ·subst hM
  by_cases hL1:l.length=1
  ·obtain⟨m,rfl⟩:=List.length_eq_one_iff.1 hL1
   obtain⟨g,off,u,rfl,hg,hc,hru,hsu,hou⟩:=h.rd.get 0 (by simp[Nd.l]);simp only[Nd.l,List.getElem_cons_zero]at hc hru hsu hou;obtain⟨Au,Cu,rfl,hu1,hu2⟩:=hru.slice;have d0:=hc 0 (by decide);have d1:=hc 1 (by decide);have d2:=hc 2 (by decide);have d3:=hc 3 (by decide);have d4:=hc 4 (by decide);simp only[qa,Nat.zero_mul,Nat.add_zero]at d0 d1 d2 d3 d4;have hgu:∀W,Below w.heap.size w W→j3 W m Au Cu:=λW hW=>j3.grow (w:=w) ⟨hru,hsu,hou⟩ hW
   have hsub:∀W,Below w.heap.size w W→Calls Tryz.prog 82 #[.agg #[.string (bs m.op),.string (bs m.s),.int .i64 m.n,.int .i64 m.a,.slice Au m.l.length Cu]] W (JF W (yu m)):=λW hW=>kJ m Au m.l.length Cu W hsu rfl (Nat.le_trans hu1 hu2)
   obtain⟨B,hB⟩:∃B,B=yu m:=⟨_,rfl⟩
   have hV:(decide ((0:Int)=0)&&decide (([m]:List Nd).length=1)&&yu (([m]:List Nd).getD 0 (.mk [] [] 0 0 [])))=B:=by rw[hB];simp
   rw[←hB]at hsub;rw[hV];clear hV hB;show Calls _ _ _ _ (JF w B);rw[show([m]:List Nd).length=1 from rfl]at hnam ⊢;clear h hlen hR hc hL1 hl2;go_enter Tryz.func49,Tryz.ntmps49
   go_wp2_with (first
    |((go_at_call 80)
      refine(hnam _).mono ?_;rintro e w1 ⟨rfl,hb1⟩;have hN1:=(zh.new w _ _).below hb1 (by simp);have n0:=hN1.cell 0;have n2:=hN1.cell 2;have n4:=hN1.cell 4;have hlN:=hN1.lt;have hbw:Below w.heap.size w w1:=(zf w _).trans (hb1.mono (by simp));have e0:=zc hbw d0;have e1:=zc hbw d1;have e2:=zc hbw d2;have e3:=zc hbw d3;(have e4:=zc hbw d4))
    |(go_at_call 82;refine(hsub _ hbw).mono ?_;rintro e w2 ⟨rfl,hb2⟩))
   go_ret
   exact⟨rfl,hbw.trans (hb2.mono hbw.size)⟩
  ·have hL1':¬((l.length:Nat):Int)=1:=by omega
   have hD:decide (l.length=1)=false:=by simp[hL1]
   rw[hD,Bool.and_false,Bool.false_and];clear h hlen hR hD;generalize l.length=L at *;go_enter Tryz.func49,Tryz.ntmps49
   go_wp2_with (go_at_call 80;refine(hnam _).mono ?_;rintro e w1 ⟨rfl,hb1⟩;have hN1:=(zh.new w _ _).below hb1 (by simp);have n0:=hN1.cell 0;have n2:=hN1.cell 2;have n4:=hN1.cell 4;have q0:=hN1.cell 1;have q3:=hN1.cell 3;have hlN:=hN1.lt)
   go_ret
   exact⟨rfl,(zf w _).trans (hb1.mono (by simp))⟩
 ·have hD:decide (M=0)=false:=by simp[hM]
  rw[hD,Bool.false_and,Bool.false_and];clear h hlen hR hD;generalize l.length=L at *;go_enter Tryz.func49,Tryz.ntmps49
  go_wp2_with (go_at_call 80;refine(hnam _).mono ?_;rintro e w1 ⟨rfl,hb1⟩;have hN1:=(zh.new w _ _).below hb1 (by simp);have n0:=hN1.cell 0;have n2:=hN1.cell 2;have n4:=hN1.cell 4;have q0:=hN1.cell 1;have q3:=hN1.cell 3;have hlN:=hN1.lt)
  go_ret
  exact⟨rfl,(zf w _).trans (hb1.mono (by simp))⟩
theorem XZ(s:List UInt8)(M at_:Int)(l:List Nd)(A:Option Addr)(C:Nat)(w:World)(h:j3 w (.mk zQ s M at_ l) A C)(hname:jn s=true):
 Calls Tryz.prog 49 #[.agg (qa (.mk zQ s M at_ l) (.slice A l.length C))] w (JF w (vT (.mk zQ s M at_ l))):=by
 have hlen:=h.len;have hnam:=λW=>jX (.mk zQ s M at_ l) A l.length C W (by have:=h.s;omega)
 have hl2:((l.length:Nat):Int)≤9223372036854775807:=by have h1:=hlen.1;have h2:=hlen.2;simp only[Nd.l]at h1;omega
 simp only[Nd.s,hname]at hnam;have hR:vT (.mk zQ s M at_ l)=(decide (M=0)&&decide (l.length=1)&&yu (l.getD 0 (.mk [] [] 0 0 []))):=(if_neg (by show ¬(zQ=zd∨zQ=zm);decide)).trans (if_pos (by first |exact .inl rfl|exact .inr rfl));rw[hR];unfold qa at hnam ⊢;simp only[Nd.op,Nd.s,Nd.n,Nd.a,DF]at hnam ⊢;by_cases hM:M=0
 ·subst hM
  by_cases hL1:l.length=1
  ·obtain⟨m,rfl⟩:=List.length_eq_one_iff.1 hL1
   obtain⟨g,off,u,rfl,hg,hc,hru,hsu,hou⟩:=h.rd.get 0 (by simp[Nd.l]);simp only[Nd.l,List.getElem_cons_zero]at hc hru hsu hou;obtain⟨Au,Cu,rfl,hu1,hu2⟩:=hru.slice;have d0:=hc 0 (by decide);have d1:=hc 1 (by decide);have d2:=hc 2 (by decide);have d3:=hc 3 (by decide);have d4:=hc 4 (by decide);simp only[qa,Nat.zero_mul,Nat.add_zero]at d0 d1 d2 d3 d4;have hgu:∀W,Below w.heap.size w W→j3 W m Au Cu:=λW hW=>j3.grow (w:=w) ⟨hru,hsu,hou⟩ hW
   have hsub:∀W,Below w.heap.size w W→Calls Tryz.prog 82 #[.agg #[.string (bs m.op),.string (bs m.s),.int .i64 m.n,.int .i64 m.a,.slice Au m.l.length Cu]] W (JF W (yu m)):=λW hW=>kJ m Au m.l.length Cu W hsu rfl (Nat.le_trans hu1 hu2)
   obtain⟨B,hB⟩:∃B,B=yu m:=⟨_,rfl⟩
   have hV:(decide ((0:Int)=0)&&decide (([m]:List Nd).length=1)&&yu (([m]:List Nd).getD 0 (.mk [] [] 0 0 [])))=B:=by rw[hB];simp
   rw[←hB]at hsub;rw[hV];clear hV hB;show Calls _ _ _ _ (JF w B);rw[show([m]:List Nd).length=1 from rfl]at hnam ⊢;clear h hlen hR hc hL1 hl2;go_enter Tryz.func49,Tryz.ntmps49
   go_wp2_with (first
    |((go_at_call 80)
      refine(hnam _).mono ?_;rintro e w1 ⟨rfl,hb1⟩;have hN1:=(zh.new w _ _).below hb1 (by simp);have n0:=hN1.cell 0;have n2:=hN1.cell 2;have n4:=hN1.cell 4;have hlN:=hN1.lt;have hbw:Below w.heap.size w w1:=(zf w _).trans (hb1.mono (by simp));have e0:=zc hbw d0;have e1:=zc hbw d1;have e2:=zc hbw d2;have e3:=zc hbw d3;(have e4:=zc hbw d4))
    |(go_at_call 82;refine(hsub _ hbw).mono ?_;rintro e w2 ⟨rfl,hb2⟩))
   go_ret
   exact⟨rfl,hbw.trans (hb2.mono hbw.size)⟩
  ·have hL1':¬((l.length:Nat):Int)=1:=by omega
   have hD:decide (l.length=1)=false:=by simp[hL1]
   rw[hD,Bool.and_false,Bool.false_and];clear h hlen hR hD;generalize l.length=L at *;go_enter Tryz.func49,Tryz.ntmps49
   go_wp2_with (go_at_call 80;refine(hnam _).mono ?_;rintro e w1 ⟨rfl,hb1⟩;have hN1:=(zh.new w _ _).below hb1 (by simp);have n0:=hN1.cell 0;have n2:=hN1.cell 2;have n4:=hN1.cell 4;have q0:=hN1.cell 1;have q3:=hN1.cell 3;have hlN:=hN1.lt)
   go_ret
   exact⟨rfl,(zf w _).trans (hb1.mono (by simp))⟩
 ·have hD:decide (M=0)=false:=by simp[hM]
  rw[hD,Bool.false_and,Bool.false_and];clear h hlen hR hD;generalize l.length=L at *;go_enter Tryz.func49,Tryz.ntmps49
  go_wp2_with (go_at_call 80;refine(hnam _).mono ?_;rintro e w1 ⟨rfl,hb1⟩;have hN1:=(zh.new w _ _).below hb1 (by simp);have n0:=hN1.cell 0;have n2:=hN1.cell 2;have n4:=hN1.cell 4;have q0:=hN1.cell 1;have q3:=hN1.cell 3;have hlN:=hN1.lt)
  go_ret
  exact⟨rfl,(zf w _).trans (hb1.mono (by simp))⟩
theorem Yu(s:List UInt8)(M at_:Int)(l:List Nd)(A:Option Addr)(C:Nat)(w:World)(h:j3 w (.mk zv s M at_ l) A C)(hname:jn s=true):
 Calls Tryz.prog 49 #[.agg (qa (.mk zv s M at_ l) (.slice A l.length C))] w (JF w (vT (.mk zv s M at_ l))):=by
 have hlen:=h.len;have hnam:=λW=>jX (.mk zv s M at_ l) A l.length C W (by have:=h.s;omega)
 have hl2:((l.length:Nat):Int)≤9223372036854775807:=by have h1:=hlen.1;have h2:=hlen.2;simp only[Nd.l]at h1;omega
 simp only[Nd.s,hname]at hnam;have hR:vT (.mk zv s M at_ l)=(decide (M=0)&&decide (l.length=1)&&zF 12 (l.getD 0 (.mk [] [] 0 0 []))):=(if_neg (by show ¬(zv=zd∨zv=zm);decide)).trans ((if_neg (by show ¬(zv=qo∨zv=zQ);decide)).trans (if_pos rfl));rw[hR];unfold qa at hnam ⊢;simp only[Nd.op,Nd.s,Nd.n,Nd.a,G0]at hnam ⊢;by_cases hM:M=0
 ·subst hM
  by_cases hL1:l.length=1
  ·obtain⟨m,rfl⟩:=List.length_eq_one_iff.1 hL1
   obtain⟨g,off,u,rfl,hg,hc,hru,hsu,hou⟩:=h.rd.get 0 (by simp[Nd.l]);simp only[Nd.l,List.getElem_cons_zero]at hc hru hsu hou;obtain⟨Au,Cu,rfl,hu1,hu2⟩:=hru.slice;have d0:=hc 0 (by decide);have d1:=hc 1 (by decide);have d2:=hc 2 (by decide);have d3:=hc 3 (by decide);have d4:=hc 4 (by decide);simp only[qa,Nat.zero_mul,Nat.add_zero]at d0 d1 d2 d3 d4;have hgu:∀W,Below w.heap.size w W→j3 W m Au Cu:=λW hW=>j3.grow (w:=w) ⟨hru,hsu,hou⟩ hW
   have hsub:∀W,Below w.heap.size w W→Calls Tryz.prog 83 #[.agg #[.string (bs m.op),.string (bs m.s),.int .i64 m.n,.int .i64 m.a,.slice Au m.l.length Cu],.int .i64 1] W (JF W (zF 12 m)):=λW hW=>Gr 12 1 m Au Cu W rfl (hgu W hW)
   obtain⟨B,hB⟩:∃B,B=zF 12 m:=⟨_,rfl⟩
   have hV:(decide ((0:Int)=0)&&decide (([m]:List Nd).length=1)&&zF 12 (([m]:List Nd).getD 0 (.mk [] [] 0 0 [])))=B:=by rw[hB];simp
   rw[←hB]at hsub;rw[hV];clear hV hB;show Calls _ _ _ _ (JF w B);rw[show([m]:List Nd).length=1 from rfl]at hnam ⊢;clear h hlen hR hc hL1 hl2;go_enter Tryz.func49,Tryz.ntmps49
   go_wp2_with (first
    |((go_at_call 80)
      refine(hnam _).mono ?_;rintro e w1 ⟨rfl,hb1⟩;have hN1:=(zh.new w _ _).below hb1 (by simp);have n0:=hN1.cell 0;have n2:=hN1.cell 2;have n4:=hN1.cell 4;have hlN:=hN1.lt;have hbw:Below w.heap.size w w1:=(zf w _).trans (hb1.mono (by simp));have e0:=zc hbw d0;have e1:=zc hbw d1;have e2:=zc hbw d2;have e3:=zc hbw d3;(have e4:=zc hbw d4))
    |(go_at_call 83;refine(hsub _ hbw).mono ?_;rintro e w2 ⟨rfl,hb2⟩))
   go_ret
   exact⟨rfl,hbw.trans (hb2.mono hbw.size)⟩
  ·have hL1':¬((l.length:Nat):Int)=1:=by omega
   have hD:decide (l.length=1)=false:=by simp[hL1]
   rw[hD,Bool.and_false,Bool.false_and];clear h hlen hR hD;generalize l.length=L at *;go_enter Tryz.func49,Tryz.ntmps49
   go_wp2_with (go_at_call 80;refine(hnam _).mono ?_;rintro e w1 ⟨rfl,hb1⟩;have hN1:=(zh.new w _ _).below hb1 (by simp);have n0:=hN1.cell 0;have n2:=hN1.cell 2;have n4:=hN1.cell 4;have q0:=hN1.cell 1;have q3:=hN1.cell 3;have hlN:=hN1.lt)
   go_ret
   exact⟨rfl,(zf w _).trans (hb1.mono (by simp))⟩
 ·have hD:decide (M=0)=false:=by simp[hM]
  rw[hD,Bool.false_and,Bool.false_and];clear h hlen hR hD;generalize l.length=L at *;go_enter Tryz.func49,Tryz.ntmps49
  go_wp2_with (go_at_call 80;refine(hnam _).mono ?_;rintro e w1 ⟨rfl,hb1⟩;have hN1:=(zh.new w _ _).below hb1 (by simp);have n0:=hN1.cell 0;have n2:=hN1.cell 2;have n4:=hN1.cell 4;have q0:=hN1.cell 1;have q3:=hN1.cell 3;have hlN:=hN1.lt)
  go_ret
  exact⟨rfl,(zf w _).trans (hb1.mono (by simp))⟩
theorem Yq(s:List UInt8)(M at_:Int)(l:List Nd)(A:Option Addr)(C:Nat)(w:World)(h:j3 w (.mk zM s M at_ l) A C)(hname:jn s=true):
 Calls Tryz.prog 49 #[.agg (qa (.mk zM s M at_ l) (.slice A l.length C))] w (JF w (vT (.mk zM s M at_ l))):=by
 have hlen:=h.len;have hnam:=λW=>jX (.mk zM s M at_ l) A l.length C W (by have:=h.s;omega)
 have hl2:((l.length:Nat):Int)≤9223372036854775807:=by have h1:=hlen.1;have h2:=hlen.2;simp only[Nd.l]at h1;omega
 simp only[Nd.s,hname]at hnam;have hR:vT (.mk zM s M at_ l)=((decide (M=0)||decide (M=1))&&decide (l.length=0)):=(if_neg (by show ¬(zM=zd∨zM=zm);decide)).trans ((if_neg (by show ¬(zM=qo∨zM=zQ);decide)).trans ((if_neg (by show ¬zM=zv;decide)).trans (if_pos rfl)));rw[hR];unfold qa at hnam ⊢;simp only[Nd.op,Nd.s,Nd.n,Nd.a,gh]at hnam ⊢;clear h hlen hR;generalize l.length=L at *;by_cases hM:M=0
 ·subst hM
  by_cases hL0:L=0
  ·subst hL0
   go_enter Tryz.func49,Tryz.ntmps49
   go_wp2_with (go_at_call 80;refine(hnam _).mono ?_;rintro e w1 ⟨rfl,hb1⟩;have hN1:=(zh.new w _ _).below hb1 (by simp);have n0:=hN1.cell 0;have n2:=hN1.cell 2;have n4:=hN1.cell 4;have q0:=hN1.cell 1;have q3:=hN1.cell 3;have hlN:=hN1.lt)
   go_ret
   exact⟨rfl,(zf w _).trans (hb1.mono (by simp))⟩
  ·have hL0':¬(L:Int)=0:=by omega
   go_enter Tryz.func49,Tryz.ntmps49
   go_wp2_with (go_at_call 80;refine(hnam _).mono ?_;rintro e w1 ⟨rfl,hb1⟩;have hN1:=(zh.new w _ _).below hb1 (by simp);have n0:=hN1.cell 0;have n2:=hN1.cell 2;have n4:=hN1.cell 4;have q0:=hN1.cell 1;have q3:=hN1.cell 3;have hlN:=hN1.lt)
   go_ret
   exact⟨by simp[hL0],(zf w _).trans (hb1.mono (by simp))⟩
 ·by_cases hM1:M=1
  ·subst hM1
   by_cases hL0:L=0
   ·subst hL0
    go_enter Tryz.func49,Tryz.ntmps49
    go_wp2_with (go_at_call 80;refine(hnam _).mono ?_;rintro e w1 ⟨rfl,hb1⟩;have hN1:=(zh.new w _ _).below hb1 (by simp);have n0:=hN1.cell 0;have n2:=hN1.cell 2;have n4:=hN1.cell 4;have q0:=hN1.cell 1;have q3:=hN1.cell 3;have hlN:=hN1.lt)
    go_ret
    exact⟨rfl,(zf w _).trans (hb1.mono (by simp))⟩
   ·have hL0':¬(L:Int)=0:=by omega
    go_enter Tryz.func49,Tryz.ntmps49
    go_wp2_with (go_at_call 80;refine(hnam _).mono ?_;rintro e w1 ⟨rfl,hb1⟩;have hN1:=(zh.new w _ _).below hb1 (by simp);have n0:=hN1.cell 0;have n2:=hN1.cell 2;have n4:=hN1.cell 4;have q0:=hN1.cell 1;have q3:=hN1.cell 3;have hlN:=hN1.lt)
    go_ret
    exact⟨by simp[hL0],(zf w _).trans (hb1.mono (by simp))⟩
  ·go_enter Tryz.func49,Tryz.ntmps49
   go_wp2_with (go_at_call 80;refine(hnam _).mono ?_;rintro e w1 ⟨rfl,hb1⟩;have hN1:=(zh.new w _ _).below hb1 (by simp);have n0:=hN1.cell 0;have n2:=hN1.cell 2;have n4:=hN1.cell 4;have q0:=hN1.cell 1;have q3:=hN1.cell 3;have hlN:=hN1.lt)
   go_ret
   exact⟨by simp[hM,hM1],(zf w _).trans (hb1.mono (by simp))⟩
theorem JR(n:Nd)(A:Option Addr)(C:Nat)(w:World)(h:j3 w n A C):Calls Tryz.prog 49 #[.agg (qa n (.slice A n.l.length C))] w (JF w (qY n)):=by
 rw[uu];cases hname:jn n.s with
 |false =>
  have hnam:=λW=>jX n A n.l.length C W (by have:=h.s;omega)
  rw[hname]at hnam;unfold qa at *;clear hname;go_enter Tryz.func49,Tryz.ntmps49
  go_wp2_with (go_at_call 80;refine(hnam _).mono ?_;rintro e w1 ⟨rfl,hb1⟩)
  go_ret
  exact⟨rfl,(zf w _).trans (hb1.mono (by simp))⟩
 |true =>
  rw[Bool.true_and];obtain⟨op,s,M,at_,l⟩:=n;simp only[Nd.s]at hname;by_cases h1:op=zd
  ·subst h1;exact V8 s M at_ l A C w h hname
  by_cases h2:op=zm
  ·subst h2;exact JT s M at_ l A C w h hname
  by_cases h3:op=qo
  ·subst h3;exact UH s M at_ l A C w h hname
  by_cases h4:op=zQ
  ·subst h4;exact XZ s M at_ l A C w h hname
  by_cases h5:op=zv
  ·subst h5;exact Yu s M at_ l A C w h hname
  by_cases h6:op=zM
  ·subst h6;exact Yq s M at_ l A C w h hname
  have hR:vT (.mk op s M at_ l)=false:=(if_neg (by show ¬(op=zd∨op=zm);simp[h1,h2])).trans ((if_neg (by show ¬(op=qo∨op=zQ);simp[h3,h4])).trans ((if_neg h5).trans (if_neg h6)));rw[hR];have hnam:=λW=>jX (.mk op s M at_ l) A l.length C W (by have:=h.s;omega)
  simp only[Nd.s,hname]at hnam;have ho:=zr op;have t1:(op== [100,101,118,105,99,101])=false:=by rw[beq_eq_false_iff_ne];exact h1
  have t2:(op== [106,111,117,114,110,97,108])=false:=by rw[beq_eq_false_iff_ne];exact h2
  have t3:(op== [107,101,121])=false:=by rw[beq_eq_false_iff_ne];exact h3
  have t4:(op== [114,111,111,116])=false:=by rw[beq_eq_false_iff_ne];exact h4
  have t5:(op== [118,111,108,117,109,101])=false:=by rw[beq_eq_false_iff_ne];exact h5
  have t6:(op== [101,120,112,111,114,116])=false:=by rw[beq_eq_false_iff_ne];exact h6
  unfold qa at *;simp only[Nd.op,Nd.s,Nd.n,Nd.a,Nd.l]at *;generalize l.length=L at *;clear hR hname h1 h2 h3 h4 h5 h6;go_enter Tryz.func49,Tryz.ntmps49
  go_wp2_with (go_at_call 80;refine(hnam _).mono ?_;rintro e w1 ⟨rfl,hb1⟩;have hN1:=(zh.new w _ _).below hb1 (by simp);have n0:=hN1.cell 0)
  go_ret
  exact⟨rfl,(zf w _).trans (hb1.mono (by simp))⟩
theorem FJ(n:Nd)(A:Option Addr)(C:Nat)(w:World)(h:j3 w n A C):Calls Tryz.prog 23 #[.agg (qa n (.slice A n.l.length C))] w (JF w (yj n)):=by
 have hlen:=h.len;have ho:=zr n.op;have hs:=zr n.s;have hst:=λm Au Cu W (hr:j3 W m Au Cu)=>JR m Au Cu W hr
 obtain⟨L,hL⟩:∃L,L=n.l.length:=⟨_,rfl⟩
 have HL:Hid (L=n.l.length):=hL;have hL2:L≤9223372036854775807:=by omega
 have hE:yj n=((List.range L).all (λi=>qY (n.l.getD i (.mk [] [] 0 0 [])))&&(n.op==ZD&&(n.s== []&&decide (n.n=0)))):=by
  unfold yj;rw[hL,Bool.and_assoc,Bool.and_assoc]
  congr 1
  rw[Bool.eq_iff_iff,List.all_eq_true,List.all_eq_true];constructor
  ·intro hh i hi
   have hi':=List.mem_range.1 hi;rw[List.getD_eq_getElem?_getD,List.getElem?_eq_getElem hi'];exact hh _ (List.getElem_mem hi')
  ·intro hh x hx
   obtain⟨i,hi,rfl⟩:=List.getElem_of_mem hx;have:=hh i (List.mem_range.2 hi);rw[List.getD_eq_getElem?_getD,List.getElem?_eq_getElem hi]at this;exact this
 rw[hE,←hL];generalize hp:(λi=>qY (n.l.getD i (.mk [] [] 0 0 [])))=p;have HP:Hid (∀i,p i=qY (n.l.getD i (.mk [] [] 0 0 []))):=λi=>by rw[←hp]
 have hrd:=h;clear hp hE hL hlen;rw[show(qa n (.slice A L C))= #[.string (bs n.op),.string (bs n.s),.int .i64 n.n,.int .i64 n.a,.slice A L C]from rfl];go_enter Tryz.func23,Tryz.ntmps23
 go_wp2
 obtain⟨W1,hW1⟩:∃W,W=w.alloc (.cells #[.string (bs n.op),.string (bs n.s),.int .i64 n.n,.int .i64 n.a,.slice A L C] 24):=⟨_,rfl⟩
 have hb1:Below w.heap.size w W1:=by rw[hW1];exact zf _ _
 have hN1:zh W1 w.heap.size 24 #[.string (bs n.op),.string (bs n.s),.int .i64 n.n,.int .i64 n.a,.slice A L C]:=by rw[hW1];exact zh.new _ _ _
 rw[←hW1];clear hW1;have hA0:(List.range 0).all p=true:=rfl
 go_loopw [8] (λz wz=>∃i:Nat,i≤L∧z= .int .i64 (i:Nat)∧Below W1.heap.size W1 wz∧(List.range i).all p=true) (λz _=>L-(intOf z).toNat)
 case atStart=>exact⟨0,Nat.zero_le _,rfl,Below.refl _ _,hA0⟩
 case round =>
  clear hA0;obtain⟨i,hi,rfl,hbz,hall⟩:=hrel;have HA:Hid ((List.range i).all p=true):=hall;clear hall;have hbwr:Below w.heap.size w wr:=hb1.trans (hbz.mono hb1.size);by_cases hiL:i<L
  ·have hiL2:(i:Int)<(L:Int):=by omega
   have hiL':i<n.l.length:=by rw[←HL.out];exact hiL
   have hR:=(hrd.grow hbwr).rd;rw[←HL.out]at hR;obtain⟨g,off,u,rfl,hg,hc,hru,hsu,hou⟩:=hR.get i hiL'
   obtain⟨m,hm⟩:∃m,m=n.l[i]:=⟨_,rfl⟩
   rw[←hm]at hc hru hsu hou;obtain⟨Au,Cu,rfl,-,-⟩:=hru.slice;have d0:=hc 0 (by decide);have d1:=hc 1 (by decide);have d2:=hc 2 (by decide);have d3:=hc 3 (by decide);have d4:=hc 4 (by decide);simp only[Nat.add_zero]at d0;simp only[qa]at d0 d1 d2 d3 d4;have hp1:p i=qY m:=by rw[HP.out i,hm,List.getD_eq_getElem?_getD,List.getElem?_eq_getElem hiL'];rfl
   have HP1:Hid (p i=qY m):=hp1;have hpm:=λW hW=>hst m Au Cu W (j3.grow (w:=wr) ⟨hru,hsu,hou⟩ hW)
   unfold qa at hpm;generalize qY m=V at hpm HP1;clear hp1 hm hc hR hst;cases V with
   |true =>
    go_wp2_with (go_at_call 49;refine(hpm _ (zf _ _)).mono ?_;rintro e w4 ⟨rfl,hb4⟩)
    go_roundw
    case rel=>exact⟨i+1,by omega,by go_num,hbz.trans (((zf wr _).trans (hb4.mono (by simp))).mono hbz.size),by rw[Jw,HA.out,HP1.out];rfl⟩
    case measure=>simp[intOf];omega
   |false =>
    go_wp2_with (go_at_call 49;refine(hpm _ (zf _ _)).mono ?_;rintro e w4 ⟨rfl,hb4⟩)
    go_ret
    refine⟨qi ?_,hbwr.trans (((zf wr _).trans (hb4.mono (by simp))).mono hbwr.size)⟩
    symm
    have :(List.range L).all p=false:=by
     rw[List.all_eq_false];exact⟨i,List.mem_range.2 hiL,by rw[HP1.out];decide⟩
    rw[this,Bool.false_and]
  ·have hiL2:i=L:=by omega
   subst hiL2;have hN2:=hN1.below hbz hN1.lt;have x0:=hN2.cell 0;have x1:=hN2.cell 1;have x2:=hN2.cell 2;clear hst;generalize n.n=M at *
   cases e1:(n.op==ZD)
   ·have e1':(n.op== [102,105,108,101])=false:=e1
    go_wp2
    go_ret
    exact⟨qi (by rw[HA.out,e1];rfl),hbwr⟩
   ·have e1':(n.op== [102,105,108,101])=true:=e1
    cases e2:(n.s== [])
    ·go_wp2
     go_ret
     exact⟨qi (by rw[HA.out,e1,e2];rfl),hbwr⟩
    ·by_cases hM:M=0
     ·subst hM
      go_wp2
      go_ret
      exact⟨qi (by rw[HA.out]),hbwr⟩
     ·go_wp2
      go_ret
      exact⟨qi (by rw[HA.out,e1,e2];simp[hM]),hbwr⟩
end
end Go.Proofs.YtebcfkigbbolaaaGreatDoor
