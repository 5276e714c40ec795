import Derived.Test.YteaddcdpgcgggaaGreatDoorJoint12
import Derived.Test.YteaddcdpgcgggaaGreatDoorJoint03
import Derived.Test.YteaddcdpgcgggaaGreatDoorJoint00
import Derived.Test.YteaddcdpgcgggaaGreatDoorJoint11
import Derived.Test.YteaddcdpgcgggaaGreatDoorJoint07
import Derived.BigQuiet
import Derived.Deep.QuietTactic
import Derived.Test.YteaddcdpgcgggaaGreatDoorJoint10
namespace Go.Proofs.YteaddcdpgcgggaaGreatDoor
set_option linter.unusedVariables false
set_option maxRecDepth 100000
set_option maxHeartbeats 40000000
section
open Go.ChangeShapes Go.WideShapes Go.ChangeAt Go.RowKit Go.MapKept
variable {E:Nat→Prop}
theorem J9(l:List Nd)(x:Nd):∀c,vq c (l++ [x])=match vq c l with
 | .error e=> .error e
 | .ok c1=>jm c1 x:=by
 induction l with
 |nil =>
  intro c;simp only[List.nil_append,vq];cases jm c x<;>rfl
 |cons y l ih =>
  intro c;simp only[List.cons_append,vq];cases jm c y with
  |error e=>rfl
  |ok c1=>exact ih c1
theorem GE(l r:List Nd)(e:Er):∀c,vq c l= .error e→vq c (l++r)= .error e:=by
 induction l with
 |nil=>intro c h;cases h
 |cons y l ih =>
  intro c h;simp only[List.cons_append,vq]at h ⊢;cases hy:jm c y with
  |error e'=>rw[hy]at h;exact h
  |ok c1=>rw[hy]at h;exact ih c1 h
structure xX (w:World) (B:Nat) (s:Km) (vd vp:Value):Prop where
 devs:w.ownsRow B 3 1 vd s.devs.length (s.devs.map λd=> .int .i64 (d:Nat))
 prts:∃us,us.length=s.parts.length∧w.ownsRow B 65 8 vp s.parts.length (gv s.parts us)∧∀i (h:i<s.parts.length) (h':i<us.length),xH w (λg=>B≤g) s.parts[i] us[i]
theorem ZD{w:World}{b b' e size n:Nat}{v:Value}{xs:List Value}(h:w.ownsRow b e size v n xs)(hb:b'≤b):w.ownsRow b' e size v n xs:=by
 refine⟨h.1,?_⟩;rcases h.2 with h|⟨g,cap,cur,e,h1,h2⟩
 ·exact .inl h
 ·exact .inr ⟨g,cap,cur,e,Nat.le_trans hb h1,h2⟩
theorem qq.stk{w:World}{cb B:Nat}{V:CV}{c:Ck}(h:qq (λg=>B≤g) w cb V c)(hB:B≤cb)(s:Km)(e1:s.devs=c.devs)(e2:s.parts=c.parts):xX w B s V.vd V.vp:=by
 obtain⟨us,e,hr,hi⟩:=h.prts;refine⟨by rw[e1];exact ZD h.devs hB,us,by rw[e2];exact e,by rw[e2];exact ZD hr hB,?_⟩;rw[e2];exact λi a b=>(hi i a b).keep (Nat.le_refl _) (λk hk hP=>⟨rfl,hP.2⟩)
theorem xX.keep{w w':World}{B:Nat}{s:Km}{vd vp:Value}(h:xX w B s vd vp)(hs:w.heap.size≤w'.heap.size)(hk:∀k,k<w.heap.size→B≤k→w'.heap[k]?=w.heap[k]?):xX w' B s vd vp:=by
 obtain⟨us,e,hr,hi⟩:=h.prts;refine⟨zI h.devs (λg o e ho=>(hk g (Array.getElem?_eq_some_iff.1 ho).1 (qR h.devs e).2).trans ho),us,e,zI hr (λg o e ho=>(hk g (Array.getElem?_eq_some_iff.1 ho).1 (qR hr e).2).trans ho),λi a b=>(hi i a b).keep hs (λk h1 h2=>⟨hk k h1 h2,h2⟩)⟩
theorem dH(p q r:Addr)(w:World):
 CallsD Tryz.prog 34 #[.pointer (some p),.pointer (some q),.pointer (some r)] .returning w λe u' w'=>e= .returned (.tuple #[])∧u'= .returning∧w'=w:=by
 refine callsD_of_wpS Tryz.func34 rfl λc₀ cs hu=>?_
 apply wpS_seq;apply wpS_region;simp[wpOpsS,go_sem,recoverD,hu,Tryz.ntmps34,Exit.thenS];apply wpS_seq;apply wpS_seq;apply wpS_region;simp[wpOpsS,go_sem,Exit.thenS];refine wpS_cond (t:=true) (by simp[Act.eval,Array.replicate]) ?_;simp only[if_true];refine wpS_of_wp (wp_ret ?_);cases c₀
 simp_all [bodyPostS,results,Tryz.results34,Exit.thenS]
theorem KK(c k:Int)(w:World):(Instr.typeAssert (.iface 90 (.agg #[.int .i64 c,.int .i64 k])) 20 90 true).run Tryz.prog w= .ok (.tuple #[.agg #[.int .i64 c,.int .i64 k],.bool true]) w:=by kernel_rfl
theorem QK(c k:Int)(p:Nat)(x0 x1 x2 x3 x4 y z:Value)(w:World)(hp:zm w p 32 #[x0,x1,x2,x3,x4])(hq:zm w (p+1) 25 #[y])(hr:zm w (p+2) 3 #[z]):
 CallsD Tryz.prog 34 #[.pointer (some ⟨p,0,none⟩),.pointer (some ⟨p+1,0,none⟩),.pointer (some ⟨p+2,0,none⟩)] (.panicking (XT c k)) w λe u' w' =>
  e= .returned (.tuple #[])∧u'= .panicking [{ v:= .iface 90 (.agg #[.int .i64 c,.int .i64 k]),recovered:=true }] ∧
  zm w' p 32 #[.slice none 0 0,.int .i64 0,.slice none 0 0,.int .i64 0,.bool false]∧zm w' (p+1) 25 #[.int .i64 c]∧zm w' (p+2) 3 #[.int .i64 k]∧Below p w w':=by
 have hl:=hr.lt;refine callsD_of_wpS Tryz.func34 rfl λc₀ cs hu=>?_
 have hu':c₀.mode= .panicking [{ v:= .iface 90 (.agg #[.int .i64 c,.int .i64 k]),recovered:=false }]:=hu;apply wpS_seq;apply wpS_region;simp[wpOpsS,go_sem,recoverD,hu',Tryz.ntmps34,Exit.thenS];apply wpS_seq;apply wpS_seq;apply wpS_region;simp[wpOpsS,go_sem,Exit.thenS];refine wpS_cond (t:=false) (by simp[Act.eval,Array.replicate]) ?_;simp only[Bool.false_eq_true,if_false];refine wpS_of_wp (wp_skip ?_);simp only[Exit.thenS];apply wpS_seq;apply wpS_region;simp[wpOpsS,go_sem,Exit.thenS,KK];apply wpS_seq;apply wpS_seq;apply wpS_region;simp[wpOpsS,go_sem,Exit.thenS];refine wpS_cond (t:=false) (by simp[Act.eval,Array.replicate]) ?_;simp only[Bool.false_eq_true,if_false];refine wpS_of_wp (wp_skip ?_);simp only[Exit.thenS];have a0:=hp.cell 0;have a1:=hp.cell 1;have a2:=hp.cell 2;have a3:=hp.cell 3;have a4:=hp.cell 4;have b0:=hp.free 0;have b1:=hp.free 1;have b2:=hp.free 2;have b3:=hp.free 3;have b4:=hp.free 4;have c0:=hq.cell 0;have c1:=hq.free 0;have d0:=hr.cell 0;have d1:=hr.free 0;have l0:=hp.lt;have l1:=hq.lt;refine wpS_of_wp ?_
 go_region
 all_goals
  refine⟨rfl,_,rfl,_,results_none rfl _ _ _,rfl,rfl,?_⟩
  exact⟨zt ((((hp.set5 _ _ _ _ _).other (p:=⟨p+1,0,none⟩) (by show p≠p+1;omega) _).other (p:=⟨p+2,0,none⟩) (by show p≠p+2;omega) _).alloc _),
   zt ((((hq.oth5 (g':=p) (by omega) _ _ _ _ _).putP 0 _).other (p:=⟨p+2,0,none⟩) (by show p+1≠p+2;omega) _).alloc _),
   zt ((((hr.oth5 (g':=p) (by omega) _ _ _ _ _).other (p:=⟨p+1,0,none⟩) (by show p+2≠p+1;omega) _).putP 0 _).alloc _),
   b5 _ _ _ _ _ _ _ _ (by omega)⟩
theorem uR{tmps:Array Value}{W:World}{p q r:Nat}{x0 x1 x2 x3 x4 y z:Value}(h2:tmps[4]?.getD undef= .pointer (some ⟨p,0,none⟩))(h3:tmps[5]?.getD undef= .pointer (some ⟨q,0,none⟩))(h4:tmps[6]?.getD undef= .pointer (some ⟨r,0,none⟩))
 (ha:zm W p 32 #[x0,x1,x2,x3,x4]) (hb:zm W q 25 #[y]) (hc:zm W r 3 #[z]):(results Tryz.f16 tmps).run Tryz.prog W= .ok (.tuple #[.agg #[x0,x1,x2,x3,x4],y,z]) W:=by
 have q0:=ha.cell 0;have q1:=ha.cell 1;have q2:=ha.cell 2;have q3:=ha.cell 3;have q4:=ha.cell 4;have r0:=hb.cell 0;have s0:=hc.cell 0;simp only[results,Tryz.results16];simp[h2,h3,h4,go_sem,q0,q1,q2,q3,q4,r0,s0]
end
section
open Go.ChangeShapes Go.WideShapes Go.ChangeAt Go.RowKit Go.MapKept
def Q0(B:Nat)(R:Except Er Km)(e:Ending)(w':World):Prop:=match R with
 | .error (ec,ek)=>e= .returned (.tuple #[.agg #[.slice none 0 0,.int .i64 0,.slice none 0 0,.int .i64 0,.bool false],.int .i64 (ec:Nat),.int .i64 ek])
 | .ok s=>∃vd vp,e= .returned (.tuple #[.agg #[vd,.int .i64 (s.jour:Nat),vp,.int .i64 (s.expo:Nat),.bool s.ro],.int .i64 0,.int .i64 (-1)])∧xX w' B s vd vp
theorem xR{w:World}{base e size n:Nat}{v:Value}{xs:List Value}(h:w.ownsRow base e size v n xs):∃A C,v= .slice A n C:=by
 rcases h.2 with⟨e,h0⟩|⟨b,cap,cur,e,_⟩
 ·exact⟨none,0,by rw[e,h0]⟩
 ·exact⟨_,_,e⟩
theorem qq.oth5{E:Nat→Prop}{w:World}{cb:Nat}{V:CV}{c:Ck}(h:qq E w cb V c)(g:Nat)(hq:¬V.own cb g)(hE:¬E g)(x0 x1 x2 x3 x4:Value):qq E (Qj w g x0 x1 x2 x3 x4) cb V c:=((((h.other ⟨g,0,none⟩ hq hE x0).other ⟨g,1,none⟩ hq hE x1).other ⟨g,2,none⟩ hq hE x2).other ⟨g,3,none⟩ hq hE x3).other ⟨g,4,none⟩ hq hE x4
theorem vZ.set5{F:Nat→Prop}{w w':World}(h:vZ F w w'){g:Nat}(hq:w.heap.size≤g)(x0 x1 x2 x3 x4:Value):vZ F w (Qj w' g x0 x1 x2 x3 x4):=((((h.set (q:=⟨g,0,none⟩) (.inr hq) x0).set (q:=⟨g,1,none⟩) (.inr hq) x1).set (q:=⟨g,2,none⟩) (.inr hq) x2).set (q:=⟨g,3,none⟩) (.inr hq) x3).set (q:=⟨g,4,none⟩) (.inr hq) x4
def E4(B S:Nat)(g:Nat):Prop:=B≤g∧(g<S∨S+4≤g)
theorem zbJ(w:World)(a b c d:Obj):Below w.heap.size w ((((w.alloc a).alloc b).alloc c).alloc d):=((((Below.refl _ w).alloc (Nat.le_refl _) a).alloc (by simp) b).alloc (by simp;omega) c).alloc (by simp;omega) d
theorem GQ{n:Nd}{i:Nat}{e:Er}(h:vq (KG (disks 0 n.l)) (n.l.take i)= .error e):UU n= .error e:=by
 have:=GE _ (n.l.drop i) e _ h;rw[List.take_append_drop]at this;unfold UU;unfold KG at this;rw[this]
theorem GS{n:Nd}{c:Ck}(h:vq (KG (disks 0 n.l)) n.l= .ok c):UU n=vA c:=by
 unfold UU;unfold KG at h;rw[h]
theorem YZ{c:Ck}{s:Km}(h:vA c= .ok s):∃j x,c.jour=some j∧c.expo=some x∧s=⟨c.devs,j,c.parts,x,c.ro⟩:=by
 unfold vA at h;cases hj:c.jour with
 |none=>rw[hj]at h;cases h
 |some j =>
  cases hx:c.expo with
  |none=>rw[hj,hx]at h;cases h
  |some x =>
   rw[hj,hx]at h;simp only at h
   split at h
   ·cases h
   ·split at h
    ·cases h
    ·cases h;exact⟨j,x,rfl,rfl,rfl⟩
theorem UH{w w3 w'':World}{cb B:Nat}{V:CV}(hcb:B≤cb)(hB:B≤w.heap.size)(hO:vZ (V.own cb) w w3)(hbl:Below (w.heap.size+1) w3 w'')(hsz:w.heap.size+1≤w3.heap.size):vZ (V.own cb) w w'':=
 ⟨hbl.os.trans hO.os,hbl.tape.trans hO.tape,hbl.output.trans hO.output,Nat.le_trans hO.size hbl.size,λk hk hn=>(hbl.block k (by omega)).trans (hO.block k hk hn)⟩
theorem Fo{w0 w:World}{cb B:Nat}{V:CV}(h:qq (λg=>B≤g) w cb V (KG []))(hBc:B≤cb)(hBw:B≤w.heap.size)(n:Nd)(A:Option Addr)(C:Nat)(hr:jZ w0 n A C)(hcb:w0.heap.size≤cb-1)(hb0:Below w0.heap.size w0 w)(hst:∀x ∈ n.l,YA x)(hlim:n.l.length≤80000):
 Calls Tryz.prog 16 #[.pointer (some ⟨cb,0,none⟩),.agg (qD n (.slice A n.l.length C))] w λe w'=>vZ (V.own cb) w w'∧Q0 B (UU n) e w':=by
 obtain⟨L,hL⟩:∃L,L=n.l.length:=⟨_,rfl⟩
 have HL:=ze hL
 obtain⟨W4,hW4⟩:∃W4,W4=(((w.alloc (.cells #[.string (bs n.op),.string (bs n.s),.int .i64 n.n,.int .i64 n.a,.slice A L C] 24)).alloc (.cells #[.slice none 0 0,.int .i64 0,.slice none 0 0,.int .i64 0,.bool false] 32)).alloc (.cells #[.int .i64 0] 25)).alloc (.cells #[.int .i64 0] 3):=⟨_,rfl⟩
 have hb4:Below w.heap.size w W4:=by rw[hW4];exact zbJ w _ _ _ _
 have N4:zm W4 w.heap.size 24 #[.string (bs n.op),.string (bs n.s),.int .i64 n.n,.int .i64 n.a,.slice A L C]:=by rw[hW4];exact(((zm.new w _ _).alloc _).alloc _).alloc _
 have P4:zm W4 (w.heap.size+1) 32 #[.slice none 0 0,.int .i64 0,.slice none 0 0,.int .i64 0,.bool false]:=by rw[hW4];exact((zm.new_at (by simp)).alloc _).alloc _
 have Q4:zm W4 (w.heap.size+1+1) 25 #[.int .i64 0]:=by rw[hW4];exact(zm.new_at (by simp)).alloc _
 have R4:zm W4 (w.heap.size+1+1+1) 3 #[.int .i64 0]:=by rw[hW4];exact zm.new_at (by simp)
 have HZ4:=ze (show W4.heap.size=w.heap.size+4 by rw[hW4];simp);have h4:=(h.mono (E':=E4 B w.heap.size) (λk hk _ he=>⟨he,.inl hk⟩)).keep hb4;have lcb:=h.has.lt;have HW:=ze hW4;have hno:∀k,w.heap.size≤k→¬V.own cb k:=λk hk e=>by have:=(h.low e).2;omega
 have HNO:=ze hno;have hdc:=zbj h4 (⟨hr.rd,hb0.trans (hb4.mono hb0.size)⟩:Q2 w0 W4 n.l A C) hcb hlim (λx hx ho=>(hst x hx).num (.inl ho));have hlen:=hr.len;have HST:=ze hst;rw[←hL]at hdc hlen hlim ⊢;rw[hW4]at hdc;clear hW4 hL hno hst;unfold qD
 go_enter_defers Tryz.func16,Tryz.ntmps16
 go_wp2_with (first
  |((go_at_call 35)
    refine hdc.mono ?_;rintro e w1 ⟨rfl,V1,H1,S1'⟩;(have S1:jX cb V W4 V1 w1:=by rw[HW.out];exact S1');have N1:zm w1 w.heap.size 24 #[.string (bs n.op),.string (bs n.s),.int .i64 n.n,.int .i64 n.a,.slice A L C]:=(S1.inner _ N4.lt (HNO.out _ (Nat.le_refl _))).1.trans N4;have n4:=N1.cell 4;have nl:=N1.lt;(simp only[qH,qG,qI]at n4)))
 clear hdc S1'
 go_loopw [17] (λz wr=>∃(i:Nat) (V':CV) (c':Ck),z= .int .i64 (i:Nat)∧i≤L∧qq (E4 B w.heap.size) wr cb V' c'∧jX cb V W4 V' wr∧JB n.l (n.l.take i) c'∧Hid (vq (KG (disks 0 n.l)) (n.l.take i)= .ok c')) (λz _=>L-(intOf z).toNat)
 case atStart=>exact⟨0,V1,KG (disks 0 n.l),rfl,Nat.zero_le _,H1,S1,JB.start _,ze rfl⟩
 case round =>
  obtain⟨i,V2,c2,rfl,hi,H2,S2,I2,HC2⟩:=hrel;have hBr:Below (cb-1) W4 wr:=S2.only.below (by have:=HZ4.out;omega) (λk hk=>by have:=(h4.low hk).1;omega);have hB0r:Below w0.heap.size w0 wr:=(hb0.trans (hb4.mono hb0.size)).trans (hBr.mono hcb);have hkeep:∀k,w.heap.size≤k→k<W4.heap.size→wr.heap[k]?=W4.heap[k]?∧¬V2.own cb k:=λk hk hk'=>S2.inner k hk' (HNO.out k hk)
  have Pr:zm wr (w.heap.size+1) 32 #[.slice none 0 0,.int .i64 0,.slice none 0 0,.int .i64 0,.bool false]:=(hkeep _ (by omega) P4.lt).1.trans P4;have Qr:zm wr (w.heap.size+1+1) 25 #[.int .i64 0]:=(hkeep _ (by omega) Q4.lt).1.trans Q4;have Rr:zm wr (w.heap.size+1+1+1) 3 #[.int .i64 0]:=(hkeep _ (by omega) R4.lt).1.trans R4;have HOr:=ze (show vZ (V.own cb) w wr from(vZ.of hb4).trans S2.only);have HNO2:=ze (λk (hk:w.heap.size≤k) (hk':k<W4.heap.size)=>(hkeep k hk hk').2);by_cases hlt:i<L
  ·have hil:i<n.l.length:=by rw[←HL.out];exact hlt
   obtain⟨g,off,An,Cn,eA,hg,hat,hrn⟩:=Q2.get (⟨hr.rd,hB0r⟩:Q2 w0 wr n.l A C) hil;subst eA;have hint:(i:Int)<(L:Int):=by omega
   have hm:=HST.out _ (List.getElem_mem hil)
   have HSN:=ze (show vq (KG (disks 0 n.l)) (n.l.take (i+1))=jm c2 n.l[i] by
    rw[List.take_succ_eq_append_getElem hil,J9,HC2.out])
   have HIV:=ze (λc' (q:jm c2 n.l[i]= .ok c')=>I2.step (l:=n.l) (q:=n.l.take i) (r:=n.l.drop (i+1)) (x:=n.l[i]) (by rw[List.getElem_cons_drop,List.take_append_drop]) hm q);have HTK:=ze (List.take_succ_eq_append_getElem hil);have hstm:=KO (H2.alloc (.cells #[.string (bs n.l[i].op),.string (bs n.l[i].s),.int .i64 n.l[i].n,.int .i64 n.l[i].a,.slice An n.l[i].l.length Cn] 24)) n.l[i] An Cn hrn hcb (hB0r.trans ((zl wr _).mono hB0r.size)) hm I2.nms I2.byts (by have h1:=I2.le8;have h2:=I2.devs;rw[h2,List.length_map];omega) (by have h1:=I2.nlen;have h2:(n.l.take i).length≤i:=(by simp;omega);omega);generalize n.l[i]=m at *;have hbn:=zl wr (.cells #[.string (bs m.op),.string (bs m.s),.int .i64 m.n,.int .i64 m.a,.slice An m.l.length Cn] 24);have S2n:jX cb V W4 V2 (wr.alloc (.cells #[.string (bs m.op),.string (bs m.s),.int .i64 m.n,.int .i64 m.a,.slice An m.l.length Cn] 24)):=S2.trans (jX.of hbn);have hBn:B≤(wr.alloc (.cells #[.string (bs m.op),.string (bs m.s),.int .i64 m.n,.int .i64 m.a,.slice An m.l.length Cn] 24)).heap.size:=by have:=hbn.size;have:=HOr.out.size;omega
   have Pn:=Pr.alloc (.cells #[.string (bs m.op),.string (bs m.s),.int .i64 m.n,.int .i64 m.a,.slice An m.l.length Cn] 24);have Qn:=Qr.alloc (.cells #[.string (bs m.op),.string (bs m.s),.int .i64 m.n,.int .i64 m.a,.slice An m.l.length Cn] 24);have Rn:=Rr.alloc (.cells #[.string (bs m.op),.string (bs m.s),.int .i64 m.n,.int .i64 m.a,.slice An m.l.length Cn] 24);have hw4s:=HZ4.out;cases hS:jm c2 m with
   |error er =>
    obtain⟨ec,ek⟩:=er;rw[hS]at hstm;have HR:=ze (GQ (n:=n) (i:=i+1) (HSN.out.trans hS));unfold qD at hstm;clear hS hw4s
    go_wp2_with (first
     |((refine zi 19 rfl ?_)
       (refine zd (some 19) _ rfl (by rfl) (zu _ _ rfl g off i L C rfl rfl hlt wr) ?_))
     |((refine zi 20 rfl ?_)
       refine zd (some 20) _ rfl (by rfl) (zC _ rfl g (off+i*5) rfl wr hat) ?_;(unfold zO))
     |((go_at_call 36)
       refine hstm.mono ?_;(rintro e w5 ⟨ho5,rfl⟩)))
    have hne:∀k,w.heap.size≤k→k<W4.heap.size→w5.heap[k]?=(wr.alloc (.cells #[.string (bs m.op),.string (bs m.s),.int .i64 m.n,.int .i64 m.a,.slice An m.l.length Cn] 24)).heap[k]?:=λk hk hk'=>ho5.block k (Nat.lt_of_lt_of_le hk' S2n.only.size) (HNO2.out k hk hk')
    have hw4s:=HZ4.out;have P5:zm w5 (w.heap.size+1) 32 _:=(hne _ (by omega) (by omega)).trans Pn;have Q5:zm w5 (w.heap.size+1+1) 25 _:=(hne _ (by omega) (by omega)).trans Qn;have R5:zm w5 (w.heap.size+1+2) 3 _:=(hne _ (by omega) (by omega)).trans Rn;refine leaves_cons (f:=34) (args:=#[.pointer (some ⟨w.heap.size+1,0,none⟩),.pointer (some ⟨w.heap.size+1+1,0,none⟩),.pointer (some ⟨w.heap.size+1+1+1,0,none⟩)]) (by simp) (by simp[go_sem]) ?_;refine(QK ec ek (w.heap.size+1) _ _ _ _ _ _ _ _ P5 Q5 R5).mono ?_;rintro e u' w'' ⟨rfl,rfl,F1,F2,F3,hbl⟩;have S05:=((jX.of (cb:=cb) (V:=V) hb4).trans S2n).trans (⟨ho5,λ_ q=> .inl q⟩:jX cb V2 _ V2 w5);refine⟨_,uR rfl rfl rfl F1 F2 F3,UH hBc hBw S05.only hbl (by have:=P5.lt;omega),?_⟩;rw[HR.out];rfl
   |ok c3 =>
    rw[hS]at hstm;have HS:=ze hS;unfold qD at hstm;clear hS hw4s
    go_wp2_with (first
     |((refine zi 19 rfl ?_)
       (refine zd (some 19) _ rfl (by rfl) (zu _ _ rfl g off i L C rfl rfl hlt wr) ?_))
     |((refine zi 20 rfl ?_)
       refine zd (some 20) _ rfl (by rfl) (zC _ rfl g (off+i*5) rfl wr hat) ?_;(unfold zO))
     |((go_at_call 36)
       refine hstm.mono ?_;(rintro e w5 ⟨ho5,rfl,V5,H5,S5⟩)))
    go_roundw
    case rel=>exact⟨i+1,V5,c3,by go_num,by omega,H5.mono (λg _ _ he=>by
     rcases he with he|he
     ·exact he
     ·exact⟨Nat.le_trans hBn he,.inr (by have:=S2n.only.size;have:=HZ4.out;omega)⟩),S2n.trans S5,by rw[HTK.out];exact HIV.out c3 HS.out,ze (HSN.out.trans HS.out)⟩
    case measure=>simp[intOf];omega
  ·obtain rfl:i=L:=by omega
   have htk:n.l.take i=n.l:=by rw[HL.out,List.take_length]
   rw[htk]at I2 HC2;have hwh:=zaW H2 I2.wf I2.expo;have HCH:=ze (GS HC2.out);have hw4s:=HZ4.out;have hrs:=hBr.size;have S02:=(jX.of (cb:=cb) (V:=V) hb4).trans S2;cases hS:vA c2 with
   |error er =>
    obtain⟨ec,ek⟩:=er;rw[hS]at hwh;have HR:=ze (HCH.out.trans hS);clear hS htk
    go_wp2_with (first
     |((go_at_call 37)
       refine hwh.mono ?_;(rintro e w5 ⟨hb5,rfl⟩)))
    have P5:=Pr.below hb5 Pr.lt;have Q5:=Qr.below hb5 Qr.lt;have R5:=Rr.below hb5 Rr.lt;refine leaves_cons (f:=34) (args:=#[.pointer (some ⟨w.heap.size+1,0,none⟩),.pointer (some ⟨w.heap.size+1+1,0,none⟩),.pointer (some ⟨w.heap.size+1+1+1,0,none⟩)]) (by simp) (by simp[go_sem]) ?_;refine(QK ec ek (w.heap.size+1) _ _ _ _ _ _ _ _ P5 Q5 R5).mono ?_;rintro e u' w'' ⟨rfl,rfl,F1,F2,F3,hbl⟩;refine⟨_,uR rfl rfl rfl F1 F2 F3,UH hBc hBw (S02.trans (jX.of (cb:=cb) (V:=V2) hb5)).only hbl (by have:=P5.lt;omega),?_⟩;rw[HR.out];rfl
   |ok s =>
    rw[hS]at hwh;have HR:=ze (HCH.out.trans hS);obtain⟨j,x,ej,ex,es⟩:=YZ hS;subst es;obtain⟨Ad,Cd,evd⟩:=xR H2.devs;obtain⟨us,eus,hrp,_⟩:=H2.prts;obtain⟨Ap,Cp,evp⟩:=xR hrp;have hcc:=H2.has;rw[ej,ex,evd,evp]at hcc;change zm wr cb 56 #[.slice Ad c2.devs.length Cd,.int .i64 (j:Nat),.slice Ap c2.parts.length Cp,.int .i64 (x:Nat),.bool c2.ro,.map (some V2.mb),V2.vb,.int .i64 c2.eat]at hcc;have HVD:=ze evd;have HVP:=ze evp
    obtain⟨DL,hDL⟩:∃DL,DL=c2.devs.length:=⟨_,rfl⟩
    obtain⟨PL,hPL⟩:∃PL,PL=c2.parts.length:=⟨_,rfl⟩
    rw[←hDL]at hcc HVD;rw[←hPL]at hcc HVP;clear hS htk hDL hPL evd evp ej ex
    go_wp2_with (first
     |((go_at_call 37)
       refine hwh.mono ?_;rintro e w5 ⟨hb5,rfl⟩;have P5:=Pr.below hb5 Pr.lt;have Q5:=Qr.below hb5 Qr.lt;have R5:=Rr.below hb5 Rr.lt;have K5:=hcc.below hb5 hcc.lt;have a0:=P5.cell 0;have a1:=P5.cell 1;have a2:=P5.cell 2;have a3:=P5.cell 3;have a4:=P5.cell 4;have f0:=P5.free 0;have f1:=P5.free 1;have f2:=P5.free 2;have f3:=P5.free 3;have f4:=P5.free 4;have b0:=Q5.cell 0;have g0:=Q5.free 0;have d0:=R5.cell 0;have i0:=R5.free 0;have k0:=K5.cell 0;have k1:=K5.cell 1;have k2:=K5.cell 2;have k3:=K5.cell 3;have k4:=K5.cell 4;simp only[qH,qG,qI]at a0 a1 a2 a3 a4 b0 d0 k0 k1 k2 k3 k4;have la:=P5.lt;have lb:=Q5.lt;have lc:=R5.lt;(have lk:=K5.lt)))
    refine leaves_cons (f:=34) (args:=#[.pointer (some ⟨w.heap.size+1,0,none⟩),.pointer (some ⟨w.heap.size+1+1,0,none⟩),.pointer (some ⟨w.heap.size+1+1+1,0,none⟩)]) (by simp) (by simp[go_sem]) ?_;refine(dH ⟨w.heap.size+1,0,none⟩ ⟨w.heap.size+1+1,0,none⟩ ⟨w.heap.size+1+1+1,0,none⟩ _).mono ?_;rintro e u' w'' ⟨rfl,rfl,rfl⟩;have n1:w.heap.size+1≠w.heap.size+1+1:=by omega
    have n2:w.heap.size+1≠w.heap.size+1+1+1:=by omega
    have n3:w.heap.size+1+1≠w.heap.size+1+1+1:=by omega
    have F1:=((P5.set5 (.slice Ad DL Cd) (.int .i64 (j:Nat)) (.slice Ap PL Cp) (.int .i64 (x:Nat)) (.bool c2.ro)).other (p:=⟨w.heap.size+1+1,0,none⟩) n1 (.int .i64 0)).other (p:=⟨w.heap.size+1+1+1,0,none⟩) n2 (.int .i64 (-1));have F2:=((Q5.oth5 (g':=w.heap.size+1) (Ne.symm n1) (.slice Ad DL Cd) (.int .i64 (j:Nat)) (.slice Ap PL Cp) (.int .i64 (x:Nat)) (.bool c2.ro)).putP 0 (.int .i64 0)).other (p:=⟨w.heap.size+1+1+1,0,none⟩) n3 (.int .i64 (-1));have F3:=((R5.oth5 (g':=w.heap.size+1) (Ne.symm n2) (.slice Ad DL Cd) (.int .i64 (j:Nat)) (.slice Ap PL Cp) (.int .i64 (x:Nat)) (.bool c2.ro)).other (p:=⟨w.heap.size+1+1,0,none⟩) (Ne.symm n3) (.int .i64 0)).putP 0 (.int .i64 (-1));have O5:=(S02.trans (jX.of (cb:=cb) (V:=V2) hb5)).only;have O7:=((O5.set5 (g:=w.heap.size+1) (by omega) (.slice Ad DL Cd) (.int .i64 (j:Nat)) (.slice Ap PL Cp) (.int .i64 (x:Nat)) (.bool c2.ro)).set (q:=⟨w.heap.size+1+1,0,none⟩) (.inr (by show w.heap.size≤w.heap.size+1+1;omega)) (.int .i64 0)).set (q:=⟨w.heap.size+1+1+1,0,none⟩) (.inr (by show w.heap.size≤w.heap.size+1+1+1;omega)) (.int .i64 (-1))
    have hE:∀k,w.heap.size≤k→k<w.heap.size+4→¬E4 B w.heap.size k:=λk h1 h2 e=>by
     rcases e.2 with q|q<;>omega
    have u2:=HNO2.out (w.heap.size+1+1) (by omega) (by omega);have u3:=HNO2.out (w.heap.size+1+1+1) (by omega) (by omega);have t2:=hE (w.heap.size+1+1) (by omega) (by omega);have t3:=hE (w.heap.size+1+1+1) (by omega) (by omega);have H7:=(((H2.keep hb5).oth5 (w.heap.size+1) (HNO2.out _ (by omega) (by omega)) (hE _ (by omega) (by omega)) (.slice Ad DL Cd) (.int .i64 (j:Nat)) (.slice Ap PL Cp) (.int .i64 (x:Nat)) (.bool c2.ro)).other ⟨w.heap.size+1+1,0,none⟩ u2 t2 (.int .i64 0)).other ⟨w.heap.size+1+1+1,0,none⟩ u3 t3 (.int .i64 (-1));have HSK:=(H7.mono (E':=λg=>B≤g) (λg _ _ he=>he.1)).stk hBc ⟨c2.devs,j,c2.parts,x,c2.ro⟩ rfl rfl;rw[HVD.out,HVP.out]at HSK;refine⟨_,uR rfl rfl rfl F1 F2 F3,O7,?_⟩;rw[HR.out];exact⟨_,_,rfl,HSK⟩
def vk(n:Nd):Except Er Km:=if yP n=true then UU n else .error (111,0)
theorem QA{n:Nd}(h:yP n=true)(hl:J4 n):∀x ∈ n.l,YA x:=λx hx=>by
 unfold yP at h;simp only[Bool.and_eq_true,List.all_eq_true]at h;exact FN (h.1.1.1 x hx) (hl.all x hx)
theorem yD{fn:Func}{R:Ending→World→Prop}{a:Act}{W:World}{s t u g:Nat}{x0 x1 x2 x3 x4 y z:Value}(hr:fn.results= #[.cell s 32,.tmp t,.tmp u])(hs:a.tmps[s]?.getD undef= .pointer (some ⟨g,0,none⟩))(ht:a.tmps[t]?.getD undef=y)(hu:a.tmps[u]?.getD undef=z)(hH:zm W g 32 #[x0,x1,x2,x3,x4])(hd:a.defers= [])(h:R (.returned (.tuple #[.agg #[x0,x1,x2,x3,x4],y,z])) W):bodyPost Tryz.prog fn R .ret a W:=by
 have q0:=hH.cell 0;have q1:=hH.cell 1;have q2:=hH.cell 2;have q3:=hH.cell 3;have q4:=hH.cell 4;exact bodyPost_ret (by simp only[results,hr];simp[hs,ht,hu,go_sem,q0,q1,q2,q3,q4]) hd h
theorem xX.low{w:World}{B B':Nat}{s:Km}{vd vp:Value}(h:xX w B s vd vp)(hb:B'≤B):xX w B' s vd vp:=by
 obtain⟨us,e,hr,hi⟩:=h.prts;exact⟨ZD h.devs hb,us,e,ZD hr hb,λi a b=>(hi i a b).keep (Nat.le_refl _) (λk _ hP=>⟨rfl,Nat.le_trans hb hP⟩)⟩
theorem Dg(w3:World)(B:Nat):qq (λg=>B≤g) ((w3.alloc (.map #[] 0)).alloc (.cells #[.slice none 0 0,.int .i64 (-1),.slice none 0 0,.int .i64 (-1),.bool false,.map (some w3.heap.size),.slice none 0 0,.int .i64 0] 56)) (w3.heap.size+1) ⟨.slice none 0 0,.slice none 0 0,.slice none 0 0,w3.heap.size⟩ (KG []):=
 ⟨zm.new_at (by simp),⟨rfl,.inl ⟨rfl,rfl⟩⟩,⟨rfl,.inl ⟨rfl,rfl⟩⟩,⟨[],rfl,⟨rfl,.inl ⟨rfl,rfl⟩⟩,λi h=>absurd h (Nat.not_lt_zero _)⟩,⟨[],rfl,(Below.heap_alloc _ _ _ (by simp)).trans (heap_alloc_new w3 _),λi h=>absurd h (Nat.not_lt_zero _)⟩,List.Pairwise.nil,Nat.le_refl _,by decide⟩
theorem Xn{w W:World}{B g:Nat}(h:Below B w W)(hg:B≤g)(x0 x1 x2 x3 x4:Value):Below B w (Qj W g x0 x1 x2 x3 x4):=
 ((((h.setCell (p:=⟨g,0,none⟩) hg x0).setCell (p:=⟨g,1,none⟩) hg x1).setCell (p:=⟨g,2,none⟩) hg x2).setCell (p:=⟨g,3,none⟩) hg x3).setCell (p:=⟨g,4,none⟩) hg x4
theorem XK(w:World){g k:Nat}(h:k≠g)(x0 x1 x2 x3 x4:Value):(Qj w g x0 x1 x2 x3 x4).heap[k]?=w.heap[k]?:=
 (Below.heap_setCell _ ⟨g,4,none⟩ x4 k h).trans ((Below.heap_setCell _ ⟨g,3,none⟩ x3 k h).trans ((Below.heap_setCell _ ⟨g,2,none⟩ x2 k h).trans ((Below.heap_setCell _ ⟨g,1,none⟩ x1 k h).trans (Below.heap_setCell w ⟨g,0,none⟩ x0 k h))))
theorem ZN{w3 w5:World}{a b:Obj}(h:vZ ((⟨.slice none 0 0,.slice none 0 0,.slice none 0 0,w3.heap.size⟩:CV).own (w3.heap.size+1)) ((w3.alloc a).alloc b) w5){k:Nat}(hk:k<w3.heap.size):w5.heap[k]?=w3.heap[k]?:=by
 refine(h.block k (by simp;omega) (λe=>?_)).trans ((yr w3 a b).block k hk);rcases e with e|e|e|e|e
 ·omega
 ·cases e
 ·cases e
 ·cases e
 ·have :k=w3.heap.size:=e;omega
theorem QL{w3 w5:World}{B:Nat}{a b:Obj}(h:vZ ((⟨.slice none 0 0,.slice none 0 0,.slice none 0 0,w3.heap.size⟩:CV).own (w3.heap.size+1)) ((w3.alloc a).alloc b) w5)(hB:B≤w3.heap.size):Below B w3 w5:=by
 have h0:=yr w3 a b;exact⟨h.os.trans h0.os,h.tape.trans h0.tape,h.output.trans h0.output,Nat.le_trans h0.size h.size,λk hk=>ZN h (by omega)⟩
theorem zcl{w:World}{B:Nat}{s:Km}{vd vp:Value}(h:xX w B s vd vp):∃A C,vp= .slice A s.parts.length C:=by
 obtain⟨us,e,hr,hi⟩:=h.prts;exact xR hr
theorem zbx(n:Nd)(A:Option Addr)(C:Nat)(w:World)(h:jZ w n A C)(hl:J4 n):Calls Tryz.prog 7 #[.agg (qD n (.slice A n.l.length C))] w λe w'=>Below w.heap.size w w'∧Q0 w.heap.size (vk n) e w':=by
 obtain⟨L,hL⟩:∃L,L=n.l.length:=⟨_,rfl⟩
 have HL:=ze hL
 obtain⟨W2,hW2⟩:∃W2,W2=(w.alloc (.cells #[.string (bs n.op),.string (bs n.s),.int .i64 n.n,.int .i64 n.a,.slice A L C] 24)).alloc (.cells #[.slice none 0 0,.int .i64 0,.slice none 0 0,.int .i64 0,.bool false] 32):=⟨_,rfl⟩
 have hb2:Below w.heap.size w W2:=by rw[hW2];exact yr w _ _
 have N2:zm W2 w.heap.size 24 #[.string (bs n.op),.string (bs n.s),.int .i64 n.n,.int .i64 n.a,.slice A L C]:=by rw[hW2];exact(zm.new w _ _).alloc _
 have P2:zm W2 (w.heap.size+1) 32 #[.slice none 0 0,.int .i64 0,.slice none 0 0,.int .i64 0,.bool false]:=by rw[hW2];exact zm.new_at (by simp)
 have hrt:=zap n A C W2 (h.grow hb2);have HW:=ze hW2;have hlen:=h.len;have HCK:=ze (λw3 (hb:Below w.heap.size w w3) (hz:w.heap.size+2≤w3.heap.size) (hst:∀x ∈ n.l,YA x)=>Fo (Dg w3 (w.heap.size+2)) (by omega) (by simp;omega) n A C h (by have:=hb.size;omega) (hb.trans ((yr w3 _ _).mono hb.size)) hst hl.len);have HST:=ze (λ(q:yP n=true)=>QA q hl);rw[←hL]at hrt hlen HCK ⊢;rw[hW2]at hrt;clear hW2 hL;cases hR:yP n with
 |false =>
  have HR:=ze (show vk n= .error (111,0) by unfold vk;rw[if_neg (by rw[hR];decide)]);rw[hR]at hrt;clear hR;unfold qD at hrt ⊢;go_enter Tryz.func7,Tryz.ntmps7
  go_wp2_with (first
   |((go_at_call 15)
     refine hrt.mono ?_;rintro e w3 ⟨rfl,hb3'⟩;(have hb3:Below W2.heap.size W2 w3:=by rw[HW.out];exact hb3');have P3:=P2.below hb3 P2.lt;have a0:=P3.cell 0;have a1:=P3.cell 1;have a2:=P3.cell 2;have a3:=P3.cell 3;have a4:=P3.cell 4;have f0:=P3.free 0;have f1:=P3.free 1;have f2:=P3.free 2;have f3:=P3.free 3;have f4:=P3.free 4;(have la:=P3.lt)))
  refine yD rfl rfl rfl rfl (P3.set5 _ _ _ _ _) rfl ?_;refine⟨Xn (hb2.trans (hb3.mono hb2.size)) (Nat.le_succ _) _ _ _ _ _,?_⟩;rw[HR.out];rfl
 |true =>
  have HR:=ze (show vk n=UU n by unfold vk;rw[if_pos hR]);have hst:=HST.out hR;have HCC:=ze (λw3 hb hz=>HCK.out w3 hb hz hst);rw[hR]at hrt;clear hR hst;cases hC:UU n with
  |error er =>
   obtain⟨ec,ek⟩:=er;have HR:=ze (HR.out.trans hC);rw[hC]at HCC;clear hC;unfold qD at hrt HCC ⊢;go_enter Tryz.func7,Tryz.ntmps7
   go_wp2_with (first
    |((go_at_call 15)
      refine hrt.mono ?_;rintro e w3 ⟨rfl,hb3'⟩;(have hb3:Below W2.heap.size W2 w3:=by rw[HW.out];exact hb3');have hb03:=hb2.trans (hb3.mono hb2.size);have P3:=P2.below hb3 P2.lt;have N3:=N2.below hb3 N2.lt;have hck:=HCC.out w3 hb03 (by have:=P3.lt;omega);have b0:=N3.cell 0;have b1:=N3.cell 1;have b2:=N3.cell 2;have b3:=N3.cell 3;have b4:=N3.cell 4;simp only[qH,qG,qI]at b0 b1 b2 b3 b4;have la:=P3.lt;(have lb:=N3.lt))
    |((refine zi 11 rfl ?_)
      (refine jP (some 11) (.map (some w3.heap.size)) (w3.alloc (.map #[] 0)) rfl (by rfl) (by kernel_rfl) ?_))
    |((go_at_call 16)
      refine hck.mono ?_;rintro e w5 ⟨ho5,rfl⟩;have hP5:=ZN ho5 (k:=w.heap.size+1) (by omega);have P5:zm w5 (w.heap.size+1) 32 #[.slice none 0 0,.int .i64 0,.slice none 0 0,.int .i64 0,.bool false]:=hP5.trans P3;have a0:=P5.cell 0;have a1:=P5.cell 1;have a2:=P5.cell 2;have a3:=P5.cell 3;have a4:=P5.cell 4;have f0:=P5.free 0;have f1:=P5.free 1;have f2:=P5.free 2;have f3:=P5.free 3;have f4:=P5.free 4;(have lp:=P5.lt)))
   refine yD rfl rfl rfl rfl (P5.set5 _ _ _ _ _) rfl ?_;refine⟨Xn (hb03.trans (QL ho5 hb03.size)) (Nat.le_succ _) _ _ _ _ _,?_⟩;rw[HR.out];rfl
  |ok s =>
   have HR:=ze (HR.out.trans hC);rw[hC]at HCC;clear hC;unfold qD at hrt HCC ⊢;go_enter Tryz.func7,Tryz.ntmps7
   go_wp2_with (first
    |((go_at_call 15)
      refine hrt.mono ?_;rintro e w3 ⟨rfl,hb3'⟩;(have hb3:Below W2.heap.size W2 w3:=by rw[HW.out];exact hb3');have hb03:=hb2.trans (hb3.mono hb2.size);have P3:=P2.below hb3 P2.lt;have N3:=N2.below hb3 N2.lt;have hck:=HCC.out w3 hb03 (by have:=P3.lt;omega);have b0:=N3.cell 0;have b1:=N3.cell 1;have b2:=N3.cell 2;have b3:=N3.cell 3;have b4:=N3.cell 4;simp only[qH,qG,qI]at b0 b1 b2 b3 b4;have la:=P3.lt;(have lb:=N3.lt))
    |((refine zi 11 rfl ?_)
      (refine jP (some 11) (.map (some w3.heap.size)) (w3.alloc (.map #[] 0)) rfl (by rfl) (by kernel_rfl) ?_))
    |((go_at_call 16)
      refine hck.mono ?_;rintro e w5 ⟨ho5,vd,vp,rfl,hsk⟩;obtain⟨Ad,Cd,evd⟩:=xR hsk.devs;obtain⟨Ap,Cp,evp⟩:=zcl hsk;subst evd evp;have hP5:=ZN ho5 (k:=w.heap.size+1) (by omega);have P5:zm w5 (w.heap.size+1) 32 #[.slice none 0 0,.int .i64 0,.slice none 0 0,.int .i64 0,.bool false]:=hP5.trans P3;have a0:=P5.cell 0;have a1:=P5.cell 1;have a2:=P5.cell 2;have a3:=P5.cell 3;have a4:=P5.cell 4;have f0:=P5.free 0;have f1:=P5.free 1;have f2:=P5.free 2;have f3:=P5.free 3;have f4:=P5.free 4;(have lp:=P5.lt)))
   refine yD rfl rfl rfl rfl (P5.set5 _ _ _ _ _) rfl ?_;refine⟨Xn (hb03.trans (QL ho5 hb03.size)) (Nat.le_succ _) _ _ _ _ _,?_⟩;rw[HR.out];refine⟨_,_,rfl,(hsk.keep (by simp) (λk hk hB=>?_)).low (by omega)⟩;exact XK w5 (by omega) _ _ _ _ _
end
section
inductive Jj:Nd→Nd→Prop where
 |mk (o s:List UInt8) (n a b:Int) (l l':List Nd):l.length=l'.length→(∀i (h:i<l.length) (h':i<l'.length),Jj l[i] l'[i])→Jj (.mk o s n a l) (.mk o s n b l')
end
section
inductive AL:List Nd→List Nd→Prop where
 |nil:AL [] []
 |cons {x y:Nd} {l m:List Nd}:Jj x y→AL l m→AL (x::l) (y::m)
theorem AL.len{l m:List Nd}(h:AL l m):l.length=m.length:=by
 induction h with
 |nil=>rfl
 |cons _ _ ih=>simp[ih]
theorem AL.get{l m:List Nd}(h:AL l m):∀i (h1:i<l.length) (h2:i<m.length),Jj l[i] m[i]:=by
 induction h with
 |nil=>intro i h1;simp at h1
 |cons hx _ ih =>
  intro i h1 h2;cases i with
  |zero=>exact hx
  |succ i=>exact ih i (by simpa using h1) (by simpa using h2)
theorem Jj.of{o s:List UInt8}{n a b:Int}{l l':List Nd}(h:AL l l'):Jj (.mk o s n a l) (.mk o s n b l'):= .mk o s n a b l l' h.len h.get
theorem AL.append{l m l' m':List Nd}(h:AL l m)(h':AL l' m'):AL (l++l') (m++m'):=by
 induction h with
 |nil=>exact h'
 |cons hx _ ih=>exact .cons hx ih
theorem Jj.symm{x y:Nd}(h:Jj x y):Jj y x:=by
 induction h with
 |mk o s n a b l l' hl hk ih=>exact .mk o s n b a l' l hl.symm (λi h h'=>ih i h' h)
theorem AL.symm{l m:List Nd}(h:AL l m):AL m l:=by
 induction h with
 |nil=>exact .nil
 |cons hx _ ih=>exact .cons hx.symm ih
def gW(ts:zL):List Tk:=ts.map Prod.fst
def Lk{α β:Type}(R:α→β→Prop)(P:yj α)(Q:yj β):Prop:=∀en en' ts us,gW ts=gW us→∀x r,P en ts= .ok (x,r)→∃y s,Q en' us= .ok (y,s)∧R x y∧gW r=gW s
theorem Lk.ret{α β:Type}{R:α→β→Prop}{x:α}{y:β}(h:R x y):Lk R (vD x) (vD y):=by
 intro en en' ts us e x' r hx;cases hx;exact⟨y,us,rfl,h,e⟩
theorem Lk.bind{α β γ δ:Type}{R:α→β→Prop}{S:γ→δ→Prop}{P:yj α}{Q:yj β}{f:α→yj γ}{g:β→yj δ}(h:Lk R P Q)(hf:∀x y,R x y→Lk S (f x) (g y)):Lk S (zU P f) (zU Q g):=by
 intro en en' ts us e x r hx;unfold zU at hx;cases hp:P en ts with
 |error er=>rw[hp]at hx;cases hx
 |ok z =>
  obtain⟨z,t⟩:=z;rw[hp]at hx;obtain⟨y,s,hq,hr,e2⟩:=h en en' ts us e z t hp;obtain⟨y2,s2,hq2,hr2,e3⟩:=hf z y hr en en' t s e2 x r hx;refine⟨y2,s2,?_,hr2,e3⟩;unfold zU;rw[hq];exact hq2
theorem Lk.take(p:Tk→Bool):Lk (λt u:Tk×Nat=>t.1=u.1) (qi p) (qi p):=by
 intro en en' ts us e x r hx;cases ts with
 |nil=>cases hx
 |cons t ts =>
  cases us with
  |nil=>cases e
  |cons u us =>
   simp only[gW,List.map_cons,List.cons.injEq]at e;simp only[qi]at hx
   split at hx
   ·rename_i hp
    cases hx;exact⟨u,us,by simp only[qi];rw[←e.1,if_pos hp],e.1,e.2⟩
   ·cases hx
theorem Lk.fork{α β:Type}{R:α→β→Prop}(p:Tk→Bool){P P':yj α}{Q Q':yj β}(h:Lk R P Q)(h':Lk R P' Q'):Lk R (Xy p P P') (Xy p Q Q'):=by
 intro en en' ts us e x r hx
 have hc:vf p ts=vf p us:=by
  cases ts with
  |nil=>cases us with
   |nil=>rfl
   |cons u us=>cases e
  |cons t ts=>cases us with
   |nil=>cases e
   |cons u us=>simp only[gW,List.map_cons,List.cons.injEq]at e;simp only[vf,e.1]
 unfold Xy at hx ⊢;rw[←hc]
 split at hx
 ·rename_i h0
  simp only[if_pos h0];exact h en en' ts us e x r hx
 ·rename_i h0
  simp only[if_neg h0];exact h' en en' ts us e x r hx
theorem Lk.ite{α β:Type}{R:α→β→Prop}(c:Prop)[Decidable c]{P P':yj α}{Q Q':yj β}(h:Lk R P Q)(h':Lk R P' Q'):Lk R (if c then P else P') (if c then Q else Q'):=by
 split
 ·exact h
 ·exact h'
def RL(x y:Int×List Nd):Prop:=x.1=y.1∧AL x.2 y.2
theorem zaY{p:Tk→Bool}{en:Nat}{ts r:zL}{t:Tk×Nat}(h:qi p en ts= .ok (t,r)):ts=t::r:=by
 cases ts with
 |nil=>cases h
 |cons u us =>
  simp only[qi]at h
  split at h
  ·cases h;rfl
  ·cases h
theorem Ft(f:Nat):∀(en:Nat) (ts r:zL) (l:List Nd),vS f en ts= .ok (l,r)→ts.length<f→r= []:=by
 induction f with
 |zero=>intro en ts r l h hf;omega
 |succ f ih =>
  intro en ts r l h hf;cases ts with
  |nil=>cases h;rfl
  |cons t ts =>
   rw[YJ]at h;cases hs:jC en (t::ts)with
   |error e=>rw[hs]at h;cases h
   |ok x =>
    obtain⟨n,r1⟩:=x;rw[hs]at h;simp only at h;have h1:=Jd hs;cases hp:vS f en r1 with
    |error e=>rw[hp]at h;cases h
    |ok y =>
     obtain⟨l',r'⟩:=y;rw[hp]at h;cases h;exact ih en r1 r l' hp (by simp only[List.length_cons]at h1 hf;omega)
end
section
def xL{α:Type}(P:yj α):Prop:=∀en ts c k,P en ts= .error (c,k)→c≠0
theorem xL.ret{α:Type}(x:α):xL (vD x):=λen ts c k h=>by cases h
theorem xL.bind{α β:Type}{P:yj α}{f:α→yj β}(hP:xL P)(hf:∀x,xL (f x)):xL (zU P f):=by
 intro en ts c k h;unfold zU at h;cases hp:P en ts with
 |error e=>rw[hp]at h;cases h;exact hP en ts c k hp
 |ok y=>obtain⟨x,r⟩:=y;rw[hp]at h;exact hf x en r c k h
theorem xL.take(p:Tk→Bool):xL (qi p):=by
 intro en ts c k h;cases ts with
 |nil=>cases h;decide
 |cons t r=>simp only[qi]at h;split at h<;>cases h;decide
theorem xL.fork{α:Type}(p:Tk→Bool){P Q:yj α}(hP:xL P)(hQ:xL Q):xL (Xy p P Q):=by
 intro en ts c k h;unfold Xy at h
 split at h
 ·exact hP en ts c k h
 ·exact hQ en ts c k h
theorem xL.ite{α:Type}{P Q:yj α}(c:Prop)[Decidable c](hP:xL P)(hQ:xL Q):xL (if c then P else Q):=by
 split
 ·exact hP
 ·exact hQ
end
section
theorem VG{x:List UInt8}{n:Nd}(h:xh x= .ok n):∃ts l,vL x= .ok ts∧vS 501 x.length ts= .ok (l,[])∧n= .mk y8 [] 0 0 l:=by
 unfold xh at h;cases hS:vL x with
 |error e=>rw[hS]at h;cases h
 |ok ts =>
  rw[hS]at h;simp only at h;cases hp:vS 501 x.length ts with
  |error e=>rw[hp]at h;cases h
  |ok y =>
   obtain⟨l,r⟩:=y;rw[hp]at h;cases h;have hl:=(yy hS).1;have hr:=Ft 501 _ _ _ _ hp (by omega);subst hr;exact⟨ts,l,rfl,hp,rfl⟩
end
section
def zbH(ts:zL):Prop:=∀t ∈ ts,XG t.1
def Gp{α:Type}(R:α→Prop)(P:yj α):Prop:=∀en ts,zbH ts→∀x r,P en ts= .ok (x,r)→R x∧zbH r
theorem Gp.ret{α:Type}{R:α→Prop}{x:α}(h:R x):Gp R (vD x):=λen ts hg y r hy=>by cases hy;exact⟨h,hg⟩
theorem Gp.bind{α β:Type}{R:α→Prop}{S:β→Prop}{P:yj α}{f:α→yj β}(h:Gp R P)(hf:∀x,R x→Gp S (f x)):Gp S (zU P f):=by
 intro en ts hg y r hy;unfold zU at hy;cases hp:P en ts with
 |error e=>rw[hp]at hy;cases hy
 |ok z =>
  obtain⟨z,s⟩:=z;rw[hp]at hy;obtain⟨h1,h2⟩:=h en ts hg z s hp;exact hf z h1 en s h2 y r hy
theorem Gp.take(p:Tk→Bool):Gp (λt:Tk×Nat=>XG t.1∧p t.1=true) (qi p):=by
 intro en ts hg y r hy;have h1:=zaY hy;have h2:=dE hy;subst h1;exact⟨⟨hg _ (by simp),h2⟩,λt ht=>hg t (by simp[ht])⟩
theorem Gp.fork{α:Type}{R:α→Prop}(p:Tk→Bool){P Q:yj α}(h:Gp R P)(h':Gp R Q):Gp R (Xy p P Q):=by
 intro en ts hg y r hy;unfold Xy at hy
 split at hy
 ·exact h en ts hg y r hy
 ·exact h' en ts hg y r hy
theorem Gp.ite{α:Type}{R:α→Prop}(c:Prop)[Decidable c]{P Q:yj α}(h:Gp R P)(h':Gp R Q):Gp R (if c then P else Q):=by
 split
 ·exact h
 ·exact h'
theorem XG.short{t:Tk}(h:XG t):t.s.length≤1000:=by
 have hle:=h.le;by_cases h0:t.kind=0
 ·have:=(h.word h0).2.2;omega
 ·by_cases h1:t.kind=1
  ·rw[(h.num h1).1];simp
  ·by_cases h2:t.kind=2
   ·have:=(h.hex h2).2.2;omega
   ·obtain⟨c,e,_⟩:=h.sign (by omega)
    rw[e];simp
def y5(l:List Nd):Prop:=∀x ∈ l,Yz x
theorem y5.nil:y5 []:=λx h=>by cases h
theorem y5.cons{x:Nd}{l:List Nd}(h:Yz x)(hl:y5 l):y5 (x::l):=λy hy=>by
 rcases List.mem_cons.1 hy with rfl|hy
 ·exact h
 ·exact hl y hy
theorem y5.append{l m:List Nd}(h:y5 l)(hm:y5 m):y5 (l++m):=λy hy=>(List.mem_append.1 hy).elim (h y) (hm y)
theorem kK{pe:yj Nd}(h:Gp Yz pe)(k:Kd):Gp Yz (ZV pe k):=by
 cases k
 ·exact h
 ·exact(Gp.take _).bind λt ht=>Gp.ret (.mk _ _ _ _ _ (by decide) (by decide) y5.nil)
 ·exact(Gp.take _).bind λt ht=>Gp.ret (.mk _ _ _ _ _ (by decide) ht.1.short y5.nil)
theorem Fm{pe:yj Nd}(h:Gp Yz pe)(ks:List Kd):∀b,Gp y5 (xx pe b ks):=by
 induction ks with
 |nil=>intro b;cases b<;>exact Gp.ret y5.nil
 |cons k ks ih =>
  intro b;cases b
  ·exact(Gp.take _).bind λ_ _=>(kK h k).bind λ_ hx=>(ih false).bind λ_ hl=>Gp.ret (hl.cons hx)
  ·exact(kK h k).bind λ_ hx=>(ih false).bind λ_ hl=>Gp.ret (hl.cons hx)
theorem fZ{pe:yj Nd}(h:Gp Yz pe)(f:Nat):Gp y5 (ZU pe f):=by
 induction f with
 |zero=>exact Gp.ret y5.nil
 |succ f ih=>exact Gp.fork _ ((Gp.take _).bind λ_ _=>h.bind λ_ hx=>ih.bind λ_ hl=>Gp.ret (hl.cons hx)) (Gp.ret y5.nil)
theorem fK(d:Nat):Gp Yz (qA d):=by
 induction d with
 |zero=>intro en ts hg x r hx;cases hx
 |succ d ih =>
  exact(Gp.take _).bind λt ht=>Gp.ite _ (Gp.ret (.mk _ _ _ _ _ (by decide) ht.1.short y5.nil))
   (((Gp.take _).bind λ_ _=>(Fm ih _ _).bind λ_ hl=>(Gp.ite _ (fZ ih _) (Gp.ret y5.nil)).bind λ_ hm=>(Gp.take _).bind λ_ _=>Gp.ret (hl.append hm)).bind λ_ hl=>Gp.ret (.mk _ _ _ _ _ ht.1.short (by decide) hl))
theorem DB:Gp Yz jC:=by
 refine(Gp.take _).bind λt ht=>(Gp.take _).bind λu hu=>?_
 have hr:Gp (λx:Int×List Nd=>y5 x.2) (xi t.1.s):=by
  unfold xi
  exact Gp.ite _ ((Gp.take _).bind λ_ _=>Gp.ret y5.nil) (Gp.ite _ ((Gp.take _).bind λv hv=>Gp.ret (y5.nil.cons (.mk _ _ _ _ _ (by decide) hv.1.short y5.nil)))
   (Gp.ite _ ((Gp.take _).bind λ_ _=>(fK 12).bind λ_ hx=>Gp.ret (y5.nil.cons hx)) (Gp.fork _ ((Gp.take _).bind λ_ _=>Gp.ret y5.nil) (Gp.ret y5.nil))))
 exact hr.bind λx hx=>(Gp.take _).bind λ_ _=>Gp.ret (.mk _ _ _ _ _ ht.1.short hu.1.short hx)
theorem Dz(f:Nat):Gp y5 (vS f):=by
 induction f with
 |zero=>exact Gp.ret y5.nil
 |succ f ih =>
  have hb:Gp y5 (zU jC λn=>zU (vS f) λl=>vD (n::l)):=DB.bind λ_ hx=>ih.bind λ_ hl=>Gp.ret (hl.cons hx)
  intro en ts hg x r hx;cases ts with
  |nil=>cases hx;exact⟨y5.nil,hg⟩
  |cons t ts=>exact hb en (t::ts) hg x r hx
theorem Y9{x:List UInt8}{n:Nd}(h:xh x= .ok n):Yz n:=by
 obtain⟨ts,l,hS,hp,rfl⟩:=VG h;exact .mk _ _ _ _ _ (by decide) (by decide) (Dz 501 _ ts (yy hS).2 l [] hp).1
theorem Vc{x:List UInt8}{n:Nd}(h:xh x= .ok n):n.l.length≤500:=by
 obtain⟨ts,l,hS,hp,rfl⟩:=VG h;have hl:=(yy hS).1
 have :∀(f en:Nat) (ts:zL) (l:List Nd) (r:zL),vS f en ts= .ok (l,r)→l.length≤ts.length:=by
  intro f
  induction f with
  |zero=>intro en ts l r h;cases h;simp
  |succ f ih =>
   intro en ts l r h;cases ts with
   |nil=>cases h;simp
   |cons t ts =>
    rw[YJ]at h;cases hs:jC en (t::ts)with
    |error e=>rw[hs]at h;cases h
    |ok y =>
     obtain⟨n,r1⟩:=y;rw[hs]at h;have h1:=Jd hs;simp only at h;cases hp:vS f en r1 with
     |error e=>rw[hp]at h;cases h
     |ok z =>
      obtain⟨l',r'⟩:=z;rw[hp]at h;cases h;have:=ih _ _ _ _ hp;simp only[List.length_cons,List.singleton_append]at *;omega
 have:=this _ _ _ _ _ hp;show l.length≤500;omega
end
section
open Go.ChangeShapes Go.WideShapes Go.ChangeAt Go.RowKit
def lvT:List UInt8:= [100,101,118,105,99,101,32,97,32,49,48,59,32,100,101,118,105,99,101,32,98,32,49,48,59,32,106,111,117,114,110,97,108,32,106,32,50,53,54,59,32,118,111,108,117,109,101,32,118,32,61,32,109,105,114,114,111,114,40,97,44,32,108,105,110,101,97,114,40,98,44,32,48,44,32,49,48,41,41,59,32,101,120,112,111,114,116,32,118,59]
def lvE:Nd:= .mk je [] 0 52 [.mk vK [97] 0 59 [],.mk qX [] 0 62 [.mk vK [98] 0 69 [],.mk vu [] 0 72 [],.mk vu [] 10 75 []]]
def lvN:Nd:= .mk y8 [] 0 0 [.mk zn [97] 10 0 [],.mk zn [98] 10 13 [],.mk zq [106] 256 26 [],.mk zB [118] 0 41 [lvE],.mk qj [118] 0 81 []]
def lvS:Km:=⟨[10,10,256],2,[⟨1,10,[],0,0,0,[],[]⟩,⟨1,10,[],1,0,0,[],[]⟩,⟨2,10,[1],0,0,0,[],[]⟩,⟨4,10,[0,2],0,0,0,[],[]⟩],3,false⟩
theorem VA:xh lvT= .ok lvN:=by kernel_rfl
theorem Hz:yP lvN=true:=by kernel_rfl
theorem zcp:UU lvN= .ok lvS:=by kernel_rfl
theorem DH:vk lvN= .ok lvS:=by unfold vk;rw[if_pos Hz,zcp]
def xQ(l:List Nd):Prop:=∀x ∈ l,J4 x
theorem xQ.nil:xQ []:=λx h=>by cases h
theorem xQ.cons{x:Nd}{l:List Nd}(h:J4 x)(hl:xQ l):xQ (x::l):=λy hy=>by
 rcases List.mem_cons.1 hy with rfl|hy
 ·exact h
 ·exact hl y hy
theorem xQ.append{l m:List Nd}(h:xQ l)(hm:xQ m):xQ (l++m):=λy hy=>(List.mem_append.1 hy).elim (h y) (hm y)
theorem Z0(op s:List UInt8)(n a:Int):J4 (.mk op s n a []):= .mk _ (by simp[Nd.l]) (λx h=>by cases h)
def zby(k:Nat)(l:List Nd):Prop:=xQ l∧l.length≤k
theorem kz{pe:yj Nd}(h:Gp J4 pe)(k:Kd):Gp J4 (ZV pe k):=by
 cases k
 ·exact h
 ·exact(Gp.take _).bind λt ht=>Gp.ret (Z0 _ _ _ _)
 ·exact(Gp.take _).bind λt ht=>Gp.ret (Z0 _ _ _ _)
theorem F7{pe:yj Nd}(h:Gp J4 pe)(ks:List Kd):∀b,Gp (zby ks.length) (xx pe b ks):=by
 induction ks with
 |nil=>intro b;cases b<;>exact Gp.ret ⟨xQ.nil,Nat.le_refl _⟩
 |cons k ks ih =>
  intro b;cases b
  ·exact(Gp.take _).bind λ_ _=>(kz h k).bind λ_ hx=>(ih false).bind λ_ hl=>Gp.ret ⟨hl.1.cons hx,by have:=hl.2;simp;omega⟩
  ·exact(kz h k).bind λ_ hx=>(ih false).bind λ_ hl=>Gp.ret ⟨hl.1.cons hx,by have:=hl.2;simp;omega⟩
theorem DI{pe:yj Nd}(h:Gp J4 pe)(f:Nat):Gp (zby f) (ZU pe f):=by
 induction f with
 |zero=>exact Gp.ret ⟨xQ.nil,Nat.le_refl _⟩
 |succ f ih=>exact Gp.fork _ ((Gp.take _).bind λ_ _=>h.bind λ_ hx=>ih.bind λ_ hl=>Gp.ret ⟨hl.1.cons hx,by have:=hl.2;simp;omega⟩) (Gp.ret ⟨xQ.nil,Nat.zero_le _⟩)
theorem D7(d:Nat):Gp J4 (qA d):=by
 induction d with
 |zero=>intro en ts hg x r hx;cases hx
 |succ d ih =>
  exact(Gp.take _).bind λt ht=>Gp.ite _ (Gp.ret (Z0 _ _ _ _))
   (((Gp.take _).bind λ_ _=>(F7 ih _ _).bind λ_ hl=>(Gp.ite (R:=zby 501) _ (DI ih 501) (Gp.ret ⟨xQ.nil,Nat.zero_le _⟩)).bind λ_ hm=>(Gp.take _).bind λ_ _=>Gp.ret (R:=λl=>xQ l∧l.length≤600) ⟨hl.1.append hm.1,by have h1:=hl.2;have h2:=hm.2;have h3:=VI t.1.s;rw[List.length_append];omega⟩).bind λ_ hl=>Gp.ret (.mk _ (by have:=hl.2;show _≤80000;simp only[Nd.l];omega) hl.1))
theorem DP:Gp J4 jC:=by
 refine(Gp.take _).bind λt ht=>(Gp.take _).bind λu hu=>?_
 have hr:Gp (λx:Int×List Nd=>zby 1 x.2) (xi t.1.s):=by
  unfold xi
  exact Gp.ite _ ((Gp.take _).bind λ_ _=>Gp.ret ⟨xQ.nil,Nat.zero_le _⟩) (Gp.ite _ ((Gp.take _).bind λv hv=>Gp.ret ⟨xQ.nil.cons (Z0 _ _ _ _),Nat.le_refl _⟩)
   (Gp.ite _ ((Gp.take _).bind λ_ _=>(D7 12).bind λ_ hx=>Gp.ret ⟨xQ.nil.cons hx,Nat.le_refl _⟩) (Gp.fork _ ((Gp.take _).bind λ_ _=>Gp.ret ⟨xQ.nil,Nat.zero_le _⟩) (Gp.ret ⟨xQ.nil,Nat.zero_le _⟩))))
 exact hr.bind λx hx=>(Gp.take _).bind λ_ _=>Gp.ret (.mk _ (by have:=hx.2;simp only[Nd.l];omega) hx.1)
theorem dD(f:Nat):Gp xQ (vS f):=by
 induction f with
 |zero=>exact Gp.ret xQ.nil
 |succ f ih =>
  have hb:Gp xQ (zU jC λn=>zU (vS f) λl=>vD (n::l)):=DP.bind λ_ hx=>ih.bind λ_ hl=>Gp.ret (hl.cons hx)
  intro en ts hg x r hx;cases ts with
  |nil=>cases hx;exact⟨xQ.nil,hg⟩
  |cons t ts=>exact hb en (t::ts) hg x r hx
theorem Xr{x:List UInt8}{n:Nd}(h:xh x= .ok n):J4 n:=by
 have hs:=Vc h;obtain⟨ts,l,hS,hp,rfl⟩:=VG h;exact .mk _ (by omega) (dD 501 _ ts (yy hS).2 l [] hp).1
theorem yn.rdn{w:World}{P:Nat→Prop}{n:Nd}{A:Option Addr}{C:Nat}(h:yn w P n.l (.slice A n.l.length C))(hs:Yz n):jZ w n A C:=
 ⟨h.rd hs.l,by have:=hs.s;unfold maxLen;omega,by have:=hs.op;unfold maxLen;omega⟩
def zNd:Nd:= .mk [] [] 0 0 []
theorem zb1(w:World):jZ w zNd none 0:=⟨.mk [] [] none 0 rfl (Nat.le_refl _) (by omega) (λi h=>absurd h (Nat.not_lt_zero _)) (λi h=>absurd h (Nat.not_lt_zero _)) (λx h=>by cases h),by unfold maxLen;decide,by unfold maxLen;decide⟩
theorem zaU:J4 zNd:=Z0 _ _ _ _
theorem xX.pts{w:World}{B:Nat}{s:Km}{vd vp:Value}(h:xX w B s vd vp)(hn:0<s.parts.length):∃g off C,vp= .slice (some ⟨g,off,none⟩) s.parts.length C∧s.parts.length≤C∧C≤maxLen∧g<w.heap.size∧B≤g∧vB w w.heap.size (some ⟨g,off,none⟩) s.parts:=by
 obtain⟨us,e1,hp,hin⟩:=h.prts;obtain⟨g,C,e,h1,h2,h3,h3',h4⟩:=xl hp hn;refine⟨g,0,C,e,h1,h2,h3,h3',λi hi=>⟨g,0,us[i]'(by omega),rfl,h3,h3,λj hj=>?_,(hin i hi (by omega)).keep (Nat.le_refl _) (λk hk _=>⟨rfl,hk⟩)⟩⟩;rw[Nat.zero_add,h4 _ (by omega),Qu _ us e1 i hi j hj]
theorem vB.two{w:World}{B g off:Nat}{ps:List Pt}(h:vB w B (some ⟨g,off,none⟩) ps){i:Nat}(hi:i<ps.length):w.cell? ⟨g,off+i*8,none⟩=some (.int .i64 (ps[i].kind:Nat))∧w.cell? ⟨g,off+i*8+1,none⟩=some (.int .i64 (ps[i].size:Nat)):=by
 obtain⟨g',off',u,e,_,_,hc,_⟩:=h i hi;cases e;exact⟨hc 0 (by decide),hc 1 (by decide)⟩
theorem zcd:Yz lvN:=Y9 VA
theorem zcs:J4 lvN:=Xr VA
theorem zcT(W:World)(A:Option Addr)(C:Nat)(h:jZ W lvN A C):Calls Tryz.prog 7 #[.agg #[.string ⟨#[102,105,108,101]⟩,.string ⟨#[]⟩,.int .i64 0,.int .i64 0,.slice A 5 C]] W λe w'=>∃Ad Cd g o2 o3 off Cp,e= .returned (.tuple #[.agg #[.slice Ad 3 Cd,.int .i64 2,.slice (some ⟨g,off,none⟩) 4 Cp,.int .i64 3,.bool false],.int .i64 0,.int .i64 (-1)])∧Below W.heap.size W w'∧g<w'.heap.size∧Hid (o2=off+2*8)∧Hid (o3=off+3*8)∧w'.cell? ⟨g,o3+1,none⟩=some (.int .i64 10)∧w'.cell? ⟨g,o2,none⟩=some (.int .i64 2):=by
 have:=zbx lvN A C W h zcs;rw[DH]at this;refine this.mono ?_;rintro e w' ⟨hb,vd,vp,rfl,hs⟩;obtain⟨Ad,Cd,rfl⟩:=xR hs.devs;obtain⟨g,off,Cp,rfl,_,_,hg,_,hP⟩:=hs.pts (by decide);exact⟨Ad,Cd,g,off+2*8,off+3*8,off,Cp,rfl,hb,hg,rfl,rfl,(hP.two (i:=3) (by decide)).2,(hP.two (i:=2) (by decide)).1⟩
theorem Xt(w:World):Calls Tryz.prog 10 #[] w λe w'=>e= .returned (.bool true)∧Below w.heap.size w w':=by
 have hpa:Calls Tryz.prog 5 #[.string ⟨#[100,101,118,105,99,101,32,97,32,49,48,59,32,100,101,118,105,99,101,32,98,32,49,48,59,32,106,111,117,114,110,97,108,32,106,32,50,53,54,59,32,118,111,108,117,109,101,32,118,32,61,32,109,105,114,114,111,114,40,97,44,32,108,105,110,101,97,114,40,98,44,32,48,44,32,49,48,41,41,59,32,101,120,112,111,114,116,32,118,59]⟩] w λe w'=>∃A C,e= .returned (.tuple #[.agg #[.string ⟨#[102,105,108,101]⟩,.string ⟨#[]⟩,.int .i64 0,.int .i64 0,.slice A 5 C],.int .i64 0,.int .i64 (-1)])∧jZ w' lvN A C∧Below w.heap.size w w':=by
  have:=Uq lvT w (by decide);rw[VA]at this;refine this.mono ?_;rintro e w' ⟨hb,A,C,rfl,hn⟩;exact⟨A,C,rfl,hn.rdn zcd,hb⟩
 go_enter Tryz.func10,Tryz.ntmps10
 go_wp2_with (first
  |((go_at_call 5)
    refine hpa.mono ?_;(rintro e w1 ⟨A,C,rfl,hr1,hb1⟩))
  |((go_at_call 7)
    refine(zcT _ A C (hr1.grow (zl w1 _))).mono ?_;(rintro e w2 ⟨Ad,Cd,g,o2,o3,off,Cp,rfl,hb2,hg,HO2,HO3,d3,d2⟩))
  |((refine zi 43 rfl ?_)
    (refine zd (some 43) (.pointer (some ⟨g,o3,none⟩)) rfl (by rfl) (by rw[HO3.out];exact zE _ _ rfl g off 3 4 Cp rfl rfl (by decide) _) ?_))
  |((refine zi 51 rfl ?_)
    (refine zd (some 51) (.pointer (some ⟨g,o2,none⟩)) rfl (by rfl) (by rw[HO2.out];exact zE _ _ rfl g off 2 4 Cp rfl rfl (by decide) _) ?_)))
 go_ret
 have s1:=hb1.size;have s2:=hb2.size;simp at s2;exact⟨rfl,((hb1.alloc hb1.size _).trans (hb2.mono (by simp;omega))).alloc (by omega) _⟩
end
section
theorem uK{l:List Nd}(hst:∀x ∈ l,YA x)(r:List Nd):∀ {q:List Nd} {c c':Ck},l=q++r→JB l q c→vq c r= .ok c'→JB l l c':=by
 induction r with
 |nil =>
  intro q c c' e h hc;cases hc;rw[List.append_nil]at e;subst e;exact h
 |cons x r ih =>
  intro q c c' e h hc;simp only[vq]at hc;cases hs:jm c x with
  |error er=>rw[hs]at hc;cases hc
  |ok c1 =>
   rw[hs]at hc;exact ih (q:=q++ [x]) (by rw[e];simp) (h.step e (hst x (by rw[e];simp)) hs) hc
theorem zbb{n:Nd}{s:Km}(hst:∀x ∈ n.l,YA x)(h:UU n= .ok s):∃c,JB n.l n.l c∧vA c= .ok s:=by
 unfold UU at h;cases hc:vq ⟨[],none,disks 0 n.l,none,false,0,[]⟩ n.l with
 |error e=>rw[hc]at h;cases h
 |ok c =>
  rw[hc]at h;exact⟨c,uK hst n.l (q:= []) rfl (JB.start n.l) hc,h⟩
theorem yC{ns:vJ}{n:Nd}{ws:List (List UInt8)}{e:Er}(h:jk ns n ws= .error e):e.1≠0:=by
 unfold jk at h
 split at h
 ·cases h;exact(by decide:(131:Nat)≠0)
 ·split at h
  ·cases h
  ·cases h;exact(by decide:(133:Nat)≠0)
theorem VF{ns:vJ}{ps:List Pt}{n:Nd}{ks:List Nat}{e:Er}(h:jD ns ps n ks= .error e):e.1≠0:=by
 unfold jD xZ jE at h
 repeat' split at h
 all_goals first
  |(cases h;done)
  |(cases h;exact(by decide:(135:Nat)≠0))
  |(cases h;exact(by decide:(134:Nat)≠0))
  |(cases h;exact(by decide:(139:Nat)≠0))
  |(rename_i hk;cases h;exact yC hk)
theorem uA{f:List Pt→Nd→Except Er (Nat×List Pt)}(l:List Nd)(hf:∀x ∈ l,∀ps e,f ps x= .error e→e.1≠0):∀ps e,jz f ps l= .error e→e.1≠0:=by
 induction l with
 |nil=>intro ps e h;cases h
 |cons x l ih =>
  intro ps e h;unfold jz at h;cases h1:f ps x with
  |error e'=>rw[h1]at h;cases h;exact hf x (by simp) _ _ h1
  |ok y =>
   obtain⟨k,p1⟩:=y;rw[h1]at h;simp only at h;cases h2:jz f p1 l with
   |error e'=>rw[h2]at h;cases h;exact ih (λx hx=>hf x (by simp[hx])) _ _ h2
   |ok z=>rw[h2]at h;cases h
theorem Gd{ns:vJ}(d:Nat):∀ {n:Nd},gB d n→∀ps e,jb ns d ps n= .error e→e.1≠0:=by
 induction d with
 |zero=>intro n hx;cases hx
 |succ d ih =>
  intro n hx ps e h;unfold jb at h;cases hx with
  |use _ _ hu =>
   rw[if_pos hu]at h;cases hk:jk ns n [zn,zB]with
   |error e'=>rw[hk]at h;cases h;exact yC hk
   |ok m=>rw[hk]at h;cases h
  |mk _ _ hu hs hl =>
   rw[if_neg hu]at h;cases hc:jz (jb ns d) ps (jR n)with
   |error e'=>rw[hc]at h;cases h;exact uA _ (λx hx=>ih (hl x hx)) _ _ hc
   |ok y =>
    obtain⟨ks,p1⟩:=y;rw[hc]at h;simp only at h
    split at h
    ·cases h;exact(by decide:(137:Nat)≠0)
    ·cases hp:jD ns p1 n ks with
     |error e'=>rw[hp]at h;cases h;exact VF hp
     |ok p=>rw[hp]at h;cases h
theorem Gs{c:Ck}{n:Nd}{e:Er}(hx:YA n)(hne:n.op≠qj)(h:j9 c n= .error e):e.1≠0:=by
 unfold j9 at h;by_cases e1:n.op=zq
 ·rw[if_pos e1]at h
  repeat' split at h
  all_goals first
   |(cases h;done)
   |(cases h;exact(by decide:(134:Nat)≠0))
   |(cases h;exact(by decide:(138:Nat)≠0))
 ·rw[if_neg e1]at h
  by_cases e2:n.op=zn
  ·rw[if_pos e2]at h
   split at h
   ·cases h;exact(by decide:(134:Nat)≠0)
   ·cases h
  ·rw[if_neg e2]at h
   by_cases e3:n.op=zM∨n.op=zN
   ·rw[if_pos e3]at h
    split at h
    ·cases h;exact(by decide:(135:Nat)≠0)
    ·cases h
   ·rw[if_neg e3]at h
    have e4:n.op=zB:=by
     rcases hx.word with e|e|e|e|e|e
     ·exact absurd e e2
     ·exact absurd e e1
     ·exact absurd (.inl e) e3
     ·exact absurd (.inr e) e3
     ·exact e
     ·exact absurd e hne
    cases hc:jb c.names 12 c.parts (zH n.l 0)with
    |error e'=>rw[hc]at h;cases h;exact Gd 12 (hx.vol e4).2 _ _ hc
    |ok y=>obtain⟨k,ps⟩:=y;rw[hc]at h;cases h
theorem VN{c:Ck}{n:Nd}{e:Er}(hx:YA n)(h:jm c n= .error e):e.1≠0:=by
 unfold jm yA at h;by_cases e0:n.op=qj
 ·rw[if_pos e0]at h
  split at h
  ·cases h;exact(by decide:(138:Nat)≠0)
  ·cases hk:jk c.names n [zn,zB]with
   |error e'=>rw[hk]at h;cases h;exact yC hk
   |ok m=>rw[hk]at h;cases h
 ·rw[if_neg e0]at h
  split at h
  ·cases h;exact(by decide:(132:Nat)≠0)
  ·split at h
   ·cases h;exact(by decide:(137:Nat)≠0)
   ·cases hs:j9 c n with
    |error e'=>rw[hs]at h;cases h;exact Gs hx e0 hs
    |ok y=>obtain⟨c1,m⟩:=y;rw[hs]at h;cases h
theorem Uj{l:List Nd}(hst:∀x ∈ l,YA x):∀c e,vq c l= .error e→e.1≠0:=by
 induction l with
 |nil=>intro c e h;cases h
 |cons x l ih =>
  intro c e h;simp only[vq]at h;cases hs:jm c x with
  |error e'=>rw[hs]at h;cases h;exact VN (hst x (by simp)) hs
  |ok c1=>rw[hs]at h;exact ih (λy hy=>hst y (by simp[hy])) _ _ h
theorem Gu{n:Nd}(hl:J4 n){e:Er}(h:vk n= .error e):e.1≠0:=by
 unfold vk at h
 split at h
 ·rename_i hr
  have hst:=QA hr hl;unfold UU at h;cases hc:vq ⟨[],none,disks 0 n.l,none,false,0,[]⟩ n.l with
  |error e'=>rw[hc]at h;cases h;exact Uj hst _ _ hc
  |ok c =>
   rw[hc]at h;replace h:vA c= .error e:=h;unfold vA at h;cases hj:c.jour with
   |none=>rw[hj]at h;cases h;exact(by decide:(138:Nat)≠0)
   |some j =>
    cases hx:c.expo with
    |none=>rw[hj,hx]at h;cases h;exact(by decide:(138:Nat)≠0)
    |some x =>
     rw[hj,hx]at h;simp only at h
     split at h
     ·cases h;exact(by decide:(137:Nat)≠0)
     ·split at h
      ·cases h;exact(by decide:(136:Nat)≠0)
      ·cases h
 ·cases h;exact(by decide:(111:Nat)≠0)
end
section
open Go.ChangeShapes Go.WideShapes Go.ChangeAt Go.RowKit Go.MapKept
def PT(x:List UInt8):Nd:=match xh x with
 | .ok n=>n
 | .error _=>zNd
theorem X0(x:List UInt8):J4 (PT x):=by
 unfold PT;cases h:xh x with
 |ok n=>exact Xr h
 |error e=>exact zaU
theorem zbB(x:List UInt8)(w:World)(hx:x.length≤maxLen):Calls Tryz.prog 5 #[.string (bs x)] w λe w'=>∃(A:Option Addr) (C:Nat) (c k:Int),e= .returned (.tuple #[.agg (qD (PT x) (.slice A (PT x).l.length C)),.int .i64 c,.int .i64 k])∧jZ w' (PT x) A C∧Below w.heap.size w w'∧((∃n,xh x= .ok n∧c=0)∨((∃er,xh x= .error er)∧c≠0)):=by
 have:=Uq x w hx;unfold PT;cases h:xh x with
 |ok n =>
  rw[h]at this;refine this.mono ?_;rintro e w' ⟨hb,A,C,rfl,hn⟩;exact⟨A,C,0,-1,rfl,hn.rdn (Y9 h),hb,.inl ⟨n,rfl,rfl⟩⟩
 |error er =>
  rw[h]at this;refine this.mono ?_;rintro e w' ⟨hb,c,k,hc,rfl⟩;exact⟨none,0,c,k,rfl,zb1 w',hb,.inr ⟨⟨er,rfl⟩,hc⟩⟩
theorem Y3{o:Oper}{a:Act}(x i:Operand)(ho:o.op= .indexAddr 40 x i)(g off k n cap:Nat)(hx:a.eval x= .slice (some ⟨g,off,none⟩) n cap)(hi:a.eval i= .int .i64 (k:Nat))(hk:k<n)(w:World):(execOp a.eval o).run Tryz.prog w= .ok (.value (.pointer (some ⟨g,off+k*3,none⟩))) w:=by
 have hsz:(Tryz.prog.info? 42).map (·.size)=some 3:=by kernel_rfl
 unfold execOp;cases hq:Tryz.prog.info? 42 with
 |none=>simp[hq]at hsz
 |some inf =>
  have hz:inf.size=3:=by simpa [hq]using hsz
  simp only[ho,hx,hi];simp[Instr.indexAt,Instr.sureAddr,run_underlying Tryz.underlying40,asIntOf,sizeOf,typeInfo,hq,hz,Addr.add_mid,go_sem];intro h;omega
theorem xX.dev{w:World}{B:Nat}{s:Km}{vd vp:Value}(h:xX w B s vd vp)(hn:0<s.devs.length):∃g off C,vd= .slice (some ⟨g,off,none⟩) s.devs.length C∧s.devs.length≤C∧C≤maxLen∧g<w.heap.size∧∀d,d<s.devs.length→w.cell? ⟨g,off+d,none⟩=some (.int .i64 (s.devs.getD d 0:Nat)):=by
 obtain⟨g,C,e,h1,h2,h3,_,h4⟩:=xl h.devs hn;refine⟨g,0,C,e,h1,h2,h3,λd hd=>?_⟩;rw[Nat.zero_add,h4 d (by omega),List.getElem?_map,List.getD_eq_getElem?_getD,List.getElem?_eq_getElem hd];rfl
theorem vB.all{w:World}{B g off:Nat}{ps:List Pt}(h:vB w B (some ⟨g,off,none⟩) ps){i:Nat}(hi:i<ps.length):∃Ak Ck A2 L2 C2 A3 L3 C3,(∀j,j<8→w.cell? ⟨g,off+i*8+j,none⟩=(#[.int .i64 (ps[i].kind:Nat),.int .i64 (ps[i].size:Nat),.slice Ak ps[i].kids.length Ck,.int .i64 (ps[i].dev:Nat),.int .i64 (ps[i].first:Nat),.int .i64 (ps[i].chunk:Nat),.slice A2 L2 C2,.slice A3 L3 C3]:Array Value)[j]?)∧ZS w (λg=>g<B) Ak ps[i].kids∧ps[i].kids.length≤Ck∧Ck≤maxLen:=by
 obtain⟨g',off',u,e,_,_,hc,hin⟩:=h i hi;cases e;obtain⟨⟨A1,C1,e1,a1,b1,i1⟩,⟨A2,C2,e2,a2,b2,i2⟩,⟨A3,C3,e3,a3,b3,i3⟩⟩:=hin;refine⟨A1,C1,A2,ps[i].key.length,C2,A3,ps[i].root.length,C3,λj hj=>?_,i1,a1,b1⟩;have:=hc j hj;unfold Q9 at this;rw[e1,e2,e3]at this;exact this
end
section
open Go.ChangeShapes Go.WideShapes Go.ChangeAt Go.RowKit Go.MapKept
variable {E:Nat→Prop}
structure Th where
 name:List UInt8
 op:List UInt8
 part:Int
 b:List UInt8
structure Rk where
 devs:List Int
 jour:Int
 parts:List Pt
 expo:Int
 ro:Bool
 things:List Th
 journals:Int
 exports:Int
 devices:Int
 keys:Int
 volumes:Int
 place:Int
 bad:Int
 at':Int
def thc(t:Th)(u:Value):Array Value:=#[.string (bs t.name),.string (bs t.op),.int .i64 t.part,u]
def thl(l:List Th)(us:List Value):List Value:=(l.zip us).flatMap λx=>(thc x.1 x.2).toList
structure RV where
 vd:Value
 vp:Value
 vt:Value
def RV.own(V:RV)(cb:Nat)(k:Nat):Prop:=k=cb∨V.vd.ownBlock=some k∨V.vp.ownBlock=some k∨V.vt.ownBlock=some k
def vh(V:RV)(k:Rk):Array Value:=#[V.vd,.int .i64 k.jour,V.vp,.int .i64 k.expo,.bool k.ro,V.vt,.int .i64 k.journals,.int .i64 k.exports,.int .i64 k.devices,.int .i64 k.keys,.int .i64 k.volumes,.int .i64 k.place,.int .i64 k.bad,.int .i64 k.at']
structure Sp (F:Nat→Prop) (w:World) (F':Nat→Prop) (w':World):Prop where
 only :vZ F w w'
 new:∀k,F' k→F k∨w.heap.size≤k
theorem Sp.refl(F:Nat→Prop)(w:World):Sp F w F w:=⟨.refl _ _,λ_ h=> .inl h⟩
theorem Sp.of{F:Nat→Prop}{w w':World}(h:Below w.heap.size w w'):Sp F w F w':=⟨.of h,λ_ e=> .inl e⟩
theorem Sp.trans{F F1 F2:Nat→Prop}{w w1 w2:World}(h:Sp F w F1 w1)(k:Sp F1 w1 F2 w2):Sp F w F2 w2:=by
 refine⟨⟨k.only.os.trans h.only.os,k.only.tape.trans h.only.tape,k.only.output.trans h.only.output,Nat.le_trans h.only.size k.only.size,λi hi hn=>?_⟩,λi hi=>?_⟩
 ·refine(k.only.block i (Nat.lt_of_lt_of_le hi h.only.size) (λe=>?_)).trans (h.only.block i hi hn)
  rcases h.new i e with e'|e'
  ·exact hn e'
  ·omega
 ·rcases k.new i hi with e|e
  ·exact h.new i e
  ·exact .inr (Nat.le_trans h.only.size e)
theorem Sp.inner{F F':Nat→Prop}{w w':World}(s:Sp F w F' w'):∀k,k<w.heap.size→¬F k→w'.heap[k]?=w.heap[k]?∧¬F' k:=λk hk hn=>⟨s.only.block k hk hn,λe=>by
 rcases s.new k e with e'|e'
 ·exact hn e'
 ·omega⟩
theorem Sp.size{F F':Nat→Prop}{w w':World}(s:Sp F w F' w'):w.heap.size≤w'.heap.size:=s.only.size
theorem Sp.grown{F F':Nat→Prop}{w w5 w6:World}{v:Value}(s:Sp F w F' w5)(hg:w5.grownBy w6 v.ownBlock)(hv:∀g,v.ownBlock=some g→w.heap.size≤g):Sp F w F' w6:=
 ⟨⟨hg.os.trans s.only.os,hg.tape.trans s.only.tape,hg.output.trans s.only.output,Nat.le_trans s.only.size hg.size,λk hk hn=>(hg.block k (Nat.lt_of_lt_of_le hk s.only.size) (λe=>by have:=hv k e.symm;omega)).trans (s.only.block k hk hn)⟩,s.new⟩
theorem Sp.below{F F':Nat→Prop}{w w':World}{B:Nat}(h:Sp F w F' w')(hB:B≤w.heap.size)(hF:∀k,F k→B≤k):Below B w w':=h.only.below hB hF
theorem Sp.left{F F':Nat→Prop}{w w1 w2:World}(hb:Below w.heap.size w w1)(s:Sp F w1 F' w2):Sp F w F' w2:=(Sp.of hb).trans s
structure Ut (w:World) (P:Nat→Prop) (t:Th) (u:Value):Prop where
 bytes:∃A C,u= .slice A t.b.length C∧t.b.length≤C∧C≤maxLen∧jK w P A t.b
theorem Ut.keep{w w':World}{P Q:Nat→Prop}{t:Th}{u:Value}(h:Ut w P t u)(hs:w.heap.size≤w'.heap.size)(hk:∀k,k<w.heap.size→P k→w'.heap[k]?=w.heap[k]?∧Q k):Ut w' Q t u:=by
 obtain⟨A,C,e,a,b,i⟩:=h;exact⟨A,C,e,a,b,i.keep hs hk⟩
structure zZ (E:Nat→Prop) (w:World) (cb:Nat) (V:RV) (k:Rk):Prop where
 has:zm w cb 61 (vh V k)
 devs:w.ownsRow cb 3 1 V.vd k.devs.length (k.devs.map λd=> .int .i64 d)
 prts:∃us,us.length=k.parts.length∧w.ownsRow cb 65 8 V.vp k.parts.length (gv k.parts us)∧∀i (h:i<k.parts.length) (h':i<us.length),xH w (λg=>¬V.own cb g∧E g) k.parts[i] us[i]
 thgs:∃us,us.length=k.things.length∧w.ownsRow cb 95 4 V.vt k.things.length (thl k.things us)∧∀i (h:i<k.things.length) (h':i<us.length),Ut w (λg=>¬V.own cb g∧E g) k.things[i] us[i]
 few:k.parts.length≤100000∧k.things.length≤100000∧k.devs.length≤100000
section
variable {w w' w6:World} {cb:Nat} {V:RV} {k:Rk}
theorem zZ.low(h:zZ E w cb V k){g:Nat}(hg:V.own cb g):cb≤g∧g<w.heap.size:=by
 rcases hg with rfl|e|e|e
 ·exact⟨Nat.le_refl _,h.has.lt⟩
 ·exact⟨(qR h.devs e).2,(qR h.devs e).1⟩
 ·obtain⟨us,_,hr,_⟩:=h.prts
  exact⟨(qR hr e).2,(qR hr e).1⟩
 ·obtain⟨us,_,hr,_⟩:=h.thgs
  exact⟨(qR hr e).2,(qR hr e).1⟩
theorem zZ.keepF{E':Nat→Prop}(h:zZ E w cb V k)(hs:w.heap.size≤w'.heap.size)(ho:∀g,g<w.heap.size→V.own cb g→w'.heap[g]?=w.heap[g]?)(hi:∀g,g<w.heap.size→¬V.own cb g→E g→w'.heap[g]?=w.heap[g]?∧E' g):zZ E' w' cb V k:=by
 have hk:∀g,g<w.heap.size→(¬V.own cb g∧E g)→w'.heap[g]?=w.heap[g]?∧(¬V.own cb g∧E' g):=λg hg hh=>⟨(hi g hg hh.1 hh.2).1,hh.1,(hi g hg hh.1 hh.2).2⟩
 have kept:∀ {g:Nat} {o:Obj},V.own cb g→w.heap[g]?=some o→w'.heap[g]?=some o:=λ{g o} hg hh=>(ho g (Array.getElem?_eq_some_iff.1 hh).1 hg).trans hh
 obtain⟨us,e1,r1,i1⟩:=h.prts;obtain⟨ts,e2,r2,i2⟩:=h.thgs;exact⟨kept (.inl rfl) h.has,zI h.devs (λg o e hh=>kept (.inr (.inl e)) hh),⟨us,e1,zI r1 (λg o e hh=>kept (.inr (.inr (.inl e))) hh),λi a b=>(i1 i a b).keep hs hk⟩,⟨ts,e2,zI r2 (λg o e hh=>kept (.inr (.inr (.inr e))) hh),λi a b=>(i2 i a b).keep hs hk⟩,h.few⟩
theorem zZ.keep(h:zZ E w cb V k)(hb:Below w.heap.size w w'):zZ E w' cb V k:=h.keepF hb.size (λg hg _=>hb.block g hg) (λg hg _ e=>⟨hb.block g hg,e⟩)
theorem zZ.alloc(h:zZ E w cb V k)(o:Obj):zZ E (w.alloc o) cb V k:=h.keep (zl w o)
theorem zZ.mono{E':Nat→Prop}(h:zZ E w cb V k)(hE:∀g,g<w.heap.size→¬V.own cb g→E g→E' g):zZ E' w cb V k:=h.keepF (Nat.le_refl _) (λ_ _ _=>rfl) (λg hg hn e=>⟨rfl,hE g hg hn e⟩)
theorem zZ.grown{v:Value}(h:zZ E w cb V k)(hg:w.grownBy w6 v.ownBlock)(hn:∀g,v.ownBlock=some g→¬V.own cb g)(hE:∀g,E g→v.ownBlock≠some g):zZ E w6 cb V k:=
 h.keepF hg.size (λg hg' ho=>hg.block g hg' (λe=>hn g e.symm ho)) (λg hg' _ he=>⟨hg.block g hg' (λe=>hE g he e.symm),he⟩)
theorem zZ.other(h:zZ E w cb V k){q:Addr}(hn:¬V.own cb q.block)(hE:¬E q.block)(v:Value):zZ E (w.setCell q v) cb V k:=
 h.keepF (by simp) (λg _ ho=>Below.heap_setCell w q v g (by rintro rfl;exact hn ho)) (λg _ _ he=>⟨Below.heap_setCell w q v g (by rintro rfl;exact hE he),he⟩)
theorem zZ.own_ne(h:zZ E w cb V k):V.vd.ownBlock≠some cb∧V.vp.ownBlock≠some cb∧V.vt.ownBlock≠some cb:=by
 obtain⟨us,e1,r1,i1⟩:=h.prts;obtain⟨ts,e2,r2,i2⟩:=h.thgs;exact⟨zK h.devs h.has (by decide),zK r1 h.has (by decide),zK r2 h.has (by decide)⟩
theorem zZ.put(h:zZ E w cb V k)(k':Rk)(j:Nat)(v:Value)(e:vh V k'=(vh V k).setIfInBounds j v)(e1:k'.devs=k.devs)(e2:k'.parts=k.parts)(e3:k'.things=k.things):zZ E (w.setCell ⟨cb,j,none⟩ v) cb V k'∧Sp (V.own cb) w (V.own cb) (w.setCell ⟨cb,j,none⟩ v):=by
 obtain⟨n1,n2,n3⟩:=h.own_ne
 have hst:Sp (V.own cb) w (V.own cb) (w.setCell ⟨cb,j,none⟩ v):=⟨(vZ.refl _ w).set (.inl (.inl rfl)) _,λ_ q=> .inl q⟩
 have kept:∀ {g:Nat} {o:Obj},g≠cb→w.heap[g]?=some o→(w.setCell ⟨cb,j,none⟩ v).heap[g]?=some o:=λ{g o} hg ho=>xz w _ _ hg ho
 have hin:∀g,g<w.heap.size→(¬V.own cb g∧E g)→(w.setCell ⟨cb,j,none⟩ v).heap[g]?=w.heap[g]?∧(¬V.own cb g∧E g):=λg hg hn=>⟨hst.only.block g hg hn.1,hn⟩
 obtain⟨us,a1,r1,i1⟩:=h.prts;obtain⟨ts,a2,r2,i2⟩:=h.thgs;refine⟨⟨by rw[e];exact h.has.putP j v,by rw[e1];exact zI h.devs (λg o q ho=>kept (by rintro rfl;exact n1 q) ho),⟨us,by rw[e2];exact a1,by rw[e2];exact zI r1 (λg o q ho=>kept (by rintro rfl;exact n2 q) ho),?_⟩,⟨ts,by rw[e3];exact a2,by rw[e3];exact zI r2 (λg o q ho=>kept (by rintro rfl;exact n3 q) ho),?_⟩,by rw[e1,e2,e3];exact h.few⟩,hst⟩
 ·rw[e2];exact λi a b=>(i1 i a b).keep hst.size hin
 ·rw[e3];exact λi a b=>(i2 i a b).keep hst.size hin
theorem zaa(l:List Th)(p:Th)(us:List Value)(u:Value)(h:us.length=l.length):thl (l++ [p]) (us++ [u])=thl l us++(thc p u).toList:=by
 unfold thl;rw[List.zip_append h.symm,List.flatMap_append];simp
theorem zaM(l:List Th):∀(us:List Value) (h:us.length=l.length) (k:Nat) (hk:k<l.length) (j:Nat),j<4→(thl l us)[k*4+j]?=(thc l[k] (us[k]'(by omega)))[j]?:=by
 induction l with
 |nil=>intro us h k hk;simp at hk
 |cons p l ih =>
  intro us h k hk j hj;cases us with
  |nil=>simp at h
  |cons u us =>
   have h':us.length=l.length:=by simpa using h
   have e:thl (p::l) (u::us)=(thc p u).toList++thl l us:=rfl;rw[e];have h8:(thc p u).toList.length=4:=rfl;cases k with
   |zero =>
    rw[Nat.zero_mul,Nat.zero_add,List.getElem?_append_left (by rw[h8];exact hj)];rw[Array.getElem?_toList];rfl
   |succ k =>
    rw[List.getElem?_append_right (by rw[h8];omega),h8,show(k+1)*4+j-4=k*4+j by omega];exact ih us h' k (by simpa using hk) j hj
theorem XX{v v':Value}{j:Nat}(hg:w.grownBy w6 v.ownBlock):∀ {g:Nat} {o:Obj},v.ownBlock≠some g→g≠cb→w.heap[g]?=some o→(w6.setCell ⟨cb,j,none⟩ v').heap[g]?=some o:=λ{g o} h1 h2 ho=>xz w6 _ _ h2 ((hg.block g (Array.getElem?_eq_some_iff.1 ho).1 (λe=>h1 e.symm)).trans ho)
theorem ZM{v v':Value}{e size n m j:Nat}{xs:List Value}(hlt:cb<w.heap.size)(hn:v.ownBlock≠some cb)(hr:w6.ownsRow cb e size v' n xs)(hw:v'.ownBlock=v.ownBlock∨v'.ownBlock=some w.heap.size)(u:Value):(w6.setCell ⟨cb,j,none⟩ u).ownsRow cb e size v' n xs:=
 zI hr (λg o q ho=>xz w6 _ _ (by
  show g≠cb;rintro rfl;rcases hw with q1|q1
  ·exact hn (q1 ▸ q)
  ·rw[q1]at q
   cases q
   exact absurd hlt (Nat.lt_irrefl _)) ho)
theorem zZ.putPart(h:zZ E w cb V k){A6:Option Addr}{C6:Nat}{p:Pt}{u:Value×Value×Value}(hfew:k.parts.length<100000){us:List (Value×Value×Value)}(e1:us.length=k.parts.length)(hpi:∀i (h:i<k.parts.length) (h':i<us.length),xH w (λg=>¬V.own cb g∧E g) k.parts[i] us[i])(hp:w.ownsRow cb 65 8 V.vp k.parts.length (gv k.parts us))(hu:xH w (λg=>¬V.own cb g∧E g) p u)(hg:w.grownBy w6 V.vp.ownBlock)(hr:w6.ownsRow cb 65 8 (.slice A6 (k.parts.length+1) C6) (k.parts.length+1) (gv k.parts us++(Q9 p u).toList))(hw:(Value.slice A6 (k.parts.length+1) C6).ownBlock=V.vp.ownBlock∨(Value.slice A6 (k.parts.length+1) C6).ownBlock=some w.heap.size):
 zZ E (w6.setCell ⟨cb,2,none⟩ (.slice A6 (k.parts.length+1) C6)) cb { V with vp:= .slice A6 (k.parts.length+1) C6 } { k with parts:=k.parts++ [p] }∧Sp (V.own cb) w (RV.own { V with vp:= .slice A6 (k.parts.length+1) C6 } cb) (w6.setCell ⟨cb,2,none⟩ (.slice A6 (k.parts.length+1) C6)):=by
 obtain⟨ts,e2,r2,i2⟩:=h.thgs;obtain⟨n1,n2,n3⟩:=h.own_ne
 have hst:Sp (V.own cb) w (RV.own { V with vp:= .slice A6 (k.parts.length+1) C6 } cb) (w6.setCell ⟨cb,2,none⟩ (.slice A6 (k.parts.length+1) C6)):=by
  refine⟨(⟨hg.os,hg.tape,hg.output,hg.size,λg hg' hn=>hg.block g hg' (λe=>hn (.inr (.inr (.inl e.symm))))⟩:vZ (V.own cb) w w6).set (.inl (.inl rfl)) _,λg hg'=>?_⟩;rcases hg' with e|e|e|e
  ·exact .inl (.inl e)
  ·exact .inl (.inr (.inl e))
  ·rcases hw with q|q
   ·exact .inl (.inr (.inr (.inl (q ▸ e))))
   ·rw[show(Value.slice A6 (k.parts.length+1) C6).ownBlock=some w.heap.size from q]at e
    cases e;exact .inr (Nat.le_refl _)
  ·exact .inl (.inr (.inr (.inr e)))
 have kept:=λ{g:Nat} {o:Obj}=>XX (cb:=cb) (j:=2) (v':= .slice A6 (k.parts.length+1) C6) hg (g:=g) (o:=o)
 have hin:∀g,g<w.heap.size→(¬V.own cb g∧E g)→(w6.setCell ⟨cb,2,none⟩ (.slice A6 (k.parts.length+1) C6)).heap[g]?=w.heap[g]?∧(¬RV.own { V with vp:= .slice A6 (k.parts.length+1) C6 } cb g∧E g):=λg hg' hn=>⟨(hst.inner g hg' hn.1).1,(hst.inner g hg' hn.1).2,hn.2⟩
 refine⟨⟨(zy h.has hg n2).putP 2 _,zI h.devs (λg o e ho=>kept (j2 hp h.devs (by decide) e) (by rintro rfl;exact n1 e) ho),⟨us++ [u],by simp[e1],?_,?_⟩,⟨ts,e2,zI r2 (λg o e ho=>kept (j2 hp r2 (by decide) e) (by rintro rfl;exact n3 e) ho),λi a b=>(i2 i a b).keep hst.size hin⟩,by simp;omega,h.few.2⟩,hst⟩
 ·rw[List.length_append,List.length_singleton,K6 _ _ _ _ e1]
  exact ZM (m:=0) h.has.lt n2 hr hw _
 ·intro i a b
  by_cases hi:i<k.parts.length
  ·simp only[List.getElem_append_left hi,List.getElem_append_left (show i<us.length by omega)]
   exact(hpi i hi (by omega)).keep hst.size hin
  ·have :i=k.parts.length:=by simp at a;omega
   subst this;have q1:(k.parts++ [p])[k.parts.length]'a=p:=by rw[List.getElem_append_right (Nat.le_refl _)];simp
   have q2:(us++ [u])[k.parts.length]'b=u:=by rw[List.getElem_append_right (by omega)];simp[e1]
   rw[q1,q2];exact hu.keep hst.size hin
theorem zZ.putThing(h:zZ E w cb V k){A6:Option Addr}{C6:Nat}{p:Th}{u:Value}(hfew:k.things.length<100000){us:List Value}(e1:us.length=k.things.length)(hpi:∀i (h:i<k.things.length) (h':i<us.length),Ut w (λg=>¬V.own cb g∧E g) k.things[i] us[i])(hp:w.ownsRow cb 95 4 V.vt k.things.length (thl k.things us))(hu:Ut w (λg=>¬V.own cb g∧E g) p u)(hg:w.grownBy w6 V.vt.ownBlock)(hr:w6.ownsRow cb 95 4 (.slice A6 (k.things.length+1) C6) (k.things.length+1) (thl k.things us++(thc p u).toList))(hw:(Value.slice A6 (k.things.length+1) C6).ownBlock=V.vt.ownBlock∨(Value.slice A6 (k.things.length+1) C6).ownBlock=some w.heap.size):
 zZ E (w6.setCell ⟨cb,5,none⟩ (.slice A6 (k.things.length+1) C6)) cb { V with vt:= .slice A6 (k.things.length+1) C6 } { k with things:=k.things++ [p] }∧Sp (V.own cb) w (RV.own { V with vt:= .slice A6 (k.things.length+1) C6 } cb) (w6.setCell ⟨cb,5,none⟩ (.slice A6 (k.things.length+1) C6)):=by
 obtain⟨ps,e2,r2,i2⟩:=h.prts;obtain⟨n1,n2,n3⟩:=h.own_ne
 have hst:Sp (V.own cb) w (RV.own { V with vt:= .slice A6 (k.things.length+1) C6 } cb) (w6.setCell ⟨cb,5,none⟩ (.slice A6 (k.things.length+1) C6)):=by
  refine⟨(⟨hg.os,hg.tape,hg.output,hg.size,λg hg' hn=>hg.block g hg' (λe=>hn (.inr (.inr (.inr e.symm))))⟩:vZ (V.own cb) w w6).set (.inl (.inl rfl)) _,λg hg'=>?_⟩;rcases hg' with e|e|e|e
  ·exact .inl (.inl e)
  ·exact .inl (.inr (.inl e))
  ·exact .inl (.inr (.inr (.inl e)))
  ·rcases hw with q|q
   ·exact .inl (.inr (.inr (.inr (q ▸ e))))
   ·rw[show(Value.slice A6 (k.things.length+1) C6).ownBlock=some w.heap.size from q]at e
    cases e;exact .inr (Nat.le_refl _)
 have kept:=λ{g:Nat} {o:Obj}=>XX (cb:=cb) (j:=5) (v':= .slice A6 (k.things.length+1) C6) hg (g:=g) (o:=o)
 have hin:∀g,g<w.heap.size→(¬V.own cb g∧E g)→(w6.setCell ⟨cb,5,none⟩ (.slice A6 (k.things.length+1) C6)).heap[g]?=w.heap[g]?∧(¬RV.own { V with vt:= .slice A6 (k.things.length+1) C6 } cb g∧E g):=λg hg' hn=>⟨(hst.inner g hg' hn.1).1,(hst.inner g hg' hn.1).2,hn.2⟩
 refine⟨⟨(zy h.has hg n3).putP 5 _,zI h.devs (λg o e ho=>kept (j2 hp h.devs (by decide) e) (by rintro rfl;exact n1 e) ho),⟨ps,e2,zI r2 (λg o e ho=>kept (j2 hp r2 (by decide) e) (by rintro rfl;exact n2 e) ho),λi a b=>(i2 i a b).keep hst.size hin⟩,⟨us++ [u],by simp[e1],?_,?_⟩,h.few.1,by simp;omega,h.few.2.2⟩,hst⟩
 ·rw[List.length_append,List.length_singleton,zaa _ _ _ _ e1]
  exact ZM (m:=0) h.has.lt n3 hr hw _
 ·intro i a b
  by_cases hi:i<k.things.length
  ·simp only[List.getElem_append_left hi,List.getElem_append_left (show i<us.length by omega)]
   exact(hpi i hi (by omega)).keep hst.size hin
  ·have :i=k.things.length:=by simp at a;omega
   subst this;have q1:(k.things++ [p])[k.things.length]'a=p:=by rw[List.getElem_append_right (Nat.le_refl _)];simp
   have q2:(us++ [u])[k.things.length]'b=u:=by rw[List.getElem_append_right (by omega)];simp[e1]
   rw[q1,q2];exact hu.keep hst.size hin
theorem zZ.putDev(h:zZ E w cb V k){A6:Option Addr}{C6:Nat}{d:Int}(hfew:k.devs.length<100000)(hg:w.grownBy w6 V.vd.ownBlock)(hr:w6.ownsRow cb 3 1 (.slice A6 (k.devs.length+1) C6) (k.devs.length+1) (k.devs.map (λd=> .int .i64 d)++ [.int .i64 d]))(hw:(Value.slice A6 (k.devs.length+1) C6).ownBlock=V.vd.ownBlock∨(Value.slice A6 (k.devs.length+1) C6).ownBlock=some w.heap.size):
 zZ E (w6.setCell ⟨cb,0,none⟩ (.slice A6 (k.devs.length+1) C6)) cb { V with vd:= .slice A6 (k.devs.length+1) C6 } { k with devs:=k.devs++ [d] }∧Sp (V.own cb) w (RV.own { V with vd:= .slice A6 (k.devs.length+1) C6 } cb) (w6.setCell ⟨cb,0,none⟩ (.slice A6 (k.devs.length+1) C6)):=by
 obtain⟨ps,e2,r2,i2⟩:=h.prts;obtain⟨ts,e3,r3,i3⟩:=h.thgs;obtain⟨n1,n2,n3⟩:=h.own_ne
 have hst:Sp (V.own cb) w (RV.own { V with vd:= .slice A6 (k.devs.length+1) C6 } cb) (w6.setCell ⟨cb,0,none⟩ (.slice A6 (k.devs.length+1) C6)):=by
  refine⟨(⟨hg.os,hg.tape,hg.output,hg.size,λg hg' hn=>hg.block g hg' (λe=>hn (.inr (.inl e.symm)))⟩:vZ (V.own cb) w w6).set (.inl (.inl rfl)) _,λg hg'=>?_⟩;rcases hg' with e|e|e|e
  ·exact .inl (.inl e)
  ·rcases hw with q|q
   ·exact .inl (.inr (.inl (q ▸ e)))
   ·rw[show(Value.slice A6 (k.devs.length+1) C6).ownBlock=some w.heap.size from q]at e
    cases e;exact .inr (Nat.le_refl _)
  ·exact .inl (.inr (.inr (.inl e)))
  ·exact .inl (.inr (.inr (.inr e)))
 have kept:=λ{g:Nat} {o:Obj}=>XX (cb:=cb) (j:=0) (v':= .slice A6 (k.devs.length+1) C6) hg (g:=g) (o:=o)
 have hin:∀g,g<w.heap.size→(¬V.own cb g∧E g)→(w6.setCell ⟨cb,0,none⟩ (.slice A6 (k.devs.length+1) C6)).heap[g]?=w.heap[g]?∧(¬RV.own { V with vd:= .slice A6 (k.devs.length+1) C6 } cb g∧E g):=λg hg' hn=>⟨(hst.inner g hg' hn.1).1,(hst.inner g hg' hn.1).2,hn.2⟩
 refine⟨⟨(zy h.has hg n1).putP 0 _,?_,⟨ps,e2,zI r2 (λg o e ho=>kept (j2 h.devs r2 (by decide) e) (by rintro rfl;exact n2 e) ho),λi a b=>(i2 i a b).keep hst.size hin⟩,⟨ts,e3,zI r3 (λg o e ho=>kept (j2 h.devs r3 (by decide) e) (by rintro rfl;exact n3 e) ho),λi a b=>(i3 i a b).keep hst.size hin⟩,h.few.1,h.few.2.1,by simp;omega⟩,hst⟩;rw[List.length_append,List.length_singleton,List.map_append,List.map_cons,List.map_nil];exact ZM (m:=0) h.has.lt n1 hr hw _
end
end
section
def zA(k:Rk)(b:Bool)(e a:Int):Rk:=if b=true∧k.bad=0 then{ k with bad:=e,at':=a } else k
theorem qy{k:Rk}(h:k.bad≠0)(b:Bool)(e a:Int):zA k b e a=k:=by unfold zA;rw[if_neg (λq=>h q.2)]
theorem qV(k:Rk)(e a:Int):zA k false e a=k:=by unfold zA;rw[if_neg (λq=>by cases q.1)]
theorem qu{k:Rk}(h:k.bad=0)(e a:Int):zA k true e a= { k with bad:=e,at':=a }:=by unfold zA;rw[if_pos ⟨rfl,h⟩]
theorem qt(k:Rk)(b:Bool)(e a:Int):(zA k b e a).parts=k.parts:=by unfold zA;split<;>rfl
theorem qU(k:Rk)(b:Bool)(e a:Int):(zA k b e a).things=k.things:=by unfold zA;split<;>rfl
def QJ(ts:List Th)(s:List UInt8):Int:=match ts.findIdx? (λt=>t.name==s)with
 |none=> -1
 |some i=>(i:Nat)
theorem DF{ts:List Th}{s:List UInt8}(h:∀j (q:j<ts.length),ts[j].name≠s):QJ ts s= -1:=by
 unfold QJ
 have :ts.findIdx? (λt=>t.name==s)=none:=by
  rw[List.findIdx?_eq_none_iff];intro x hx;obtain⟨j,hj,rfl⟩:=List.getElem_of_mem hx;rw[beq_eq_false_iff_ne];exact h j hj
 rw[this]
theorem fL{ts:List Th}{s:List UInt8}{i:Nat}(hi:i<ts.length)(h:∀j (q:j<i),(ts[j]'(by omega)).name≠s)(e:ts[i].name=s):QJ ts s=i:=by
 unfold QJ
 have :ts.findIdx? (λt=>t.name==s)=some i:=by
  rw[List.findIdx?_eq_some_iff_getElem];refine⟨hi,by simp[e],λj hj=>?_⟩;have:=h j hj;simp[this]
 rw[this]
def thZ:Th:=⟨[],[],0,[]⟩
def thAt(k:Rk)(s:List UInt8):Th:=k.things.getD (QJ k.things s).toNat thZ
def Ze(k:Rk)(s:List UInt8)(a:Int):Int×Rk:=
 if QJ k.things s<0 then(0,zA k true 131 a)else((thAt k s).part,zA k ((thAt k s).op != zn&&(thAt k s).op != zB) 133 a)
def jh(k:Rk)(s:List UInt8)(a:Int)(op:List UInt8):List UInt8×Rk:=
 if QJ k.things s<0 then([],zA k true 131 a)else((thAt k s).b,zA k ((thAt k s).op != op) 133 a)
structure Nr1 (t:Th) (x:List UInt8×Mn):Prop where
 name:t.name=x.1
 op:t.op=x.2.word
 b:t.b=x.2.bytes
 part:x.2.word≠zq→t.part=(x.2.node:Nat)
inductive Nr:List Th→vJ→Prop where
 |nil:Nr [] []
 |cons {t:Th} {x:List UInt8×Mn} {ts:List Th} {ns:vJ}:Nr1 t x→Nr ts ns→Nr (t::ts) (x::ns)
theorem Nr.snoc{ts:List Th}{ns:vJ}{t:Th}{x:List UInt8×Mn}(h:Nr ts ns)(hx:Nr1 t x):Nr (ts++ [t]) (ns++ [x]):=by
 induction h with
 |nil=>exact .cons hx .nil
 |cons h1 _ ih=>exact .cons h1 ih
theorem Nr.len{ts:List Th}{ns:vJ}(h:Nr ts ns):ts.length=ns.length:=by
 induction h with
 |nil=>rfl
 |cons _ _ ih=>simp[ih]
theorem D4(t:Th)(ts:List Th)(s:List UInt8):QJ (t::ts) s=if t.name=s then 0 else if QJ ts s<0 then -1 else QJ ts s+1:=by
 unfold QJ;rw[List.findIdx?_cons];by_cases e:t.name=s
 ·rw[if_pos e,if_pos (by simp[e])]
  rfl
 ·rw[if_neg e,if_neg (by simp[e])]
  cases ts.findIdx? (λt=>t.name==s)with
  |none=>rfl
  |some i =>
   show((i+1:Nat):Int)=if((i:Nat):Int)<0 then -1 else((i:Nat):Int)+1
   rw[if_neg (by omega)];omega
theorem za1(x:List UInt8×Mn)(ns:vJ)(s:List UInt8):lk (x::ns) s=if x.1=s then some x.2 else lk ns s:=by
 unfold lk;rw[List.find?_cons];by_cases e:x.1=s
 ·rw[if_pos e,show(x.1==s)=true by simp[e]]
  rfl
 ·rw[if_neg e,show(x.1==s)=false by simp[e]]
theorem Nr.look{ts:List Th}{ns:vJ}(h:Nr ts ns)(s:List UInt8):(QJ ts s= -1∧lk ns s=none)∨∃(m:Mn),0≤QJ ts s∧QJ ts s<ts.length∧lk ns s=some m∧Nr1 (ts.getD (QJ ts s).toNat thZ) (s,m):=by
 induction h with
 |nil=>exact .inl ⟨rfl,rfl⟩
 |cons h1 h2 ih =>
  rename_i t x ts ns
  rw[D4,za1,←h1.name];by_cases e:t.name=s
  ·rw[if_pos e,if_pos e]
   refine .inr ⟨x.2,by decide,by simp,rfl,?_⟩;exact⟨e,h1.op,h1.b,h1.part⟩
  ·rw[if_neg e,if_neg e]
   rcases ih with⟨a,b⟩|⟨m,a,b,c,d⟩
   ·rw[a,b]
    exact .inl ⟨rfl,rfl⟩
   ·rw[if_neg (by omega)]
    refine .inr ⟨m,by omega,by simp;omega,c,?_⟩;have q:(QJ ts s+1).toNat=(QJ ts s).toNat+1:=by omega
    rw[q];exact d
def Tl{α β:Type}(k:Rk)(R:Except Er (α×List Pt))(I:α→β→Prop)(r:β)(k':Rk):Prop:=
 (k.bad≠0→k'=k)∧(k.bad=0→match R with
   | .error (ec,ea)=>ec≠0∧k'= { k with parts:=k'.parts,bad:=(ec:Nat),at':=ea }
   | .ok (x,ps)=>I x r∧k'= { k with parts:=ps })
def QI(x:Nat)(r:Int):Prop:=r=(x:Nat)
theorem KE{k:Rk}{ns:vJ}(h:Nr k.things ns)(n:Nd):Tl k (match jk ns n [zn,zB]with | .error e=> .error e| .ok m=> .ok (m.node,k.parts)) QI (Ze k n.s n.a).1 (Ze k n.s n.a).2:=by
 refine⟨λhb=>?_,λhb=>?_⟩
 ·unfold Ze
  split
  ·exact qy hb _ _ _
  ·exact qy hb _ _ _
 ·unfold Ze jk
  rcases h.look n.s with⟨a,b⟩|⟨m,a,b,c,d⟩
  ·rw[b,if_pos (by rw[a];decide)]
   refine⟨(by decide),?_⟩;rw[qu hb];rfl
  ·rw[c,if_neg (by omega)]
   simp only;have ho:(thAt k n.s).op=m.word:=d.op;rw[ho];by_cases hw:([zn,zB].any λy=>m.word==y)=true
   ·rw[if_pos hw]
    simp only[List.any_cons,List.any_nil,Bool.or_false,Bool.or_eq_true,beq_iff_eq]at hw;have hf:(m.word != zn&&m.word != zB)=false:=by rcases hw with e|e<;>rw[e]<;>decide
    rw[hf,qV];exact⟨d.part (by rcases hw with e|e<;>rw[show((n.s,m):List UInt8×Mn).2.word=m.word from rfl,e]<;>decide),rfl⟩
   ·rw[if_neg hw]
    simp only[List.any_cons,List.any_nil,Bool.or_false,Bool.or_eq_true,beq_iff_eq,not_or]at hw;have hf:(m.word != zn&&m.word != zB)=true:=by simp[hw.1,hw.2]
    rw[hf,qu hb];exact⟨(by decide),rfl⟩
theorem Vh{k:Rk}{ns:vJ}(h:Nr k.things ns)(n:Nd)(op:List UInt8)(hb:k.bad=0):match jk ns n [op]with
 | .error (ec,ea)=>(jh k n.s n.a op).2= { k with bad:=(ec:Nat),at':=ea }
 | .ok m=>jh k n.s n.a op=(m.bytes,k):=by
 unfold jh jk;rcases h.look n.s with⟨a,b⟩|⟨m,a,b,c,d⟩
 ·rw[b,if_pos (by rw[a];decide)]
  exact qu hb _ _
 ·rw[c,if_neg (by omega)]
  simp only;have ho:(thAt k n.s).op=m.word:=d.op;have hB:(thAt k n.s).b=m.bytes:=d.b;rw[ho,hB];by_cases hw:([op].any λy=>m.word==y)=true
  ·rw[if_pos hw]
   simp only[List.any_cons,List.any_nil,Bool.or_false,beq_iff_eq]at hw;rw[show(m.word != op)=false by simp[hw],qV]
  ·rw[if_neg hw]
   simp only[List.any_cons,List.any_nil,Bool.or_false,beq_iff_eq]at hw;rw[show(m.word != op)=true by simp[hw]];exact qu hb _ _
theorem VS(k:Rk)(s:List UInt8)(a:Int)(op:List UInt8):(jh k s a op).2.parts=k.parts∧(jh k s a op).2.things=k.things:=by
 unfold jh
 split
 ·exact⟨qt _ _ _ _,qU _ _ _ _⟩
 ·exact⟨qt _ _ _ _,qU _ _ _ _⟩
def Ve(k:Rk)(n:Nd)(p:Pt):Pt×Rk:=
 let k1:=zA k (decide (p.kids.length<2)||decide (4<p.kids.length)) 135 n.a
 if n.op=qQ then({ p with kind:=3,size:=(p.kids.map (sz k.parts)).sum },zA k1 (decide (8192<(p.kids.map (sz k.parts)).sum)) 134 n.a)
 else({ p with kind:=4 },zA k1 (!p.kids.all λj=>sz k.parts j==p.size) 134 n.a)
def ZX(k:Rk)(n:Nd)(p:Pt):Pt×Rk:=
 if n.op=jf then
  ({ p with kind:=8,root:=(jh k (zH n.l 1).s (zH n.l 1).a zN).1,size:=dV p.size },zA (jh k (zH n.l 1).s (zH n.l 1).a zN).2 (dV p.size==0) 134 n.a)
 else if(jh k (zH n.l 1).s (zH n.l 1).a zM).2.bad≠0 then({ p with key:=(jh k (zH n.l 1).s (zH n.l 1).a zM).1 },(jh k (zH n.l 1).s (zH n.l 1).a zM).2)
 else if n.op=jl then({ p with key:=(jh k (zH n.l 1).s (zH n.l 1).a zM).1,kind:=6 },zA (jh k (zH n.l 1).s (zH n.l 1).a zM).2 (decide ((jh k (zH n.l 1).s (zH n.l 1).a zM).1.take 16=(jh k (zH n.l 1).s (zH n.l 1).a zM).1.drop 16)) 135 n.a)
 else({ p with key:=(jh k (zH n.l 1).s (zH n.l 1).a zM).1,kind:=7,size:=dI p.size },zA (jh k (zH n.l 1).s (zH n.l 1).a zM).2 (dI p.size==0) 134 n.a)
theorem Uk{k:Rk}(h:k.bad≠0)(s:List UInt8)(a:Int)(op:List UInt8):(jh k s a op).2=k:=by
 unfold jh
 split
 ·exact qy h _ _ _
 ·exact qy h _ _ _
theorem Dt{k:Rk}(h:k.bad≠0)(n:Nd)(p:Pt):(Ve k n p).2=k:=by
 unfold Ve;simp only[qy h]
 split<;>rfl
theorem fY{k:Rk}(h:k.bad≠0)(n:Nd)(p:Pt):(ZX k n p).2=k:=by
 unfold ZX;simp only[Uk h,qy h]
 split
 ·rfl
 ·first
  |rfl
  |(split<;>rfl)
def Yv(k:Rk)(ks:List Nat):Pt:=⟨0,sz k.parts (ks.getD 0 0),ks,0,0,0,[],[]⟩
def jB(k:Rk)(n:Nd)(ks:List Nat):Pt×Rk:=
 if n.op=qX then({ Yv k ks with kind:=2,first:=(zH n.l 1).n.toNat,size:=(zH n.l 2).n.toNat },zA k (decide ((zH n.l 2).n=0)||decide ((sz k.parts (ks.getD 0 0):Int)<(zH n.l 1).n+(zH n.l 2).n)) 134 n.a)
 else if n.op=qQ∨n.op=je then Ve k n (Yv k ks)
 else if n.op=qv then({ Yv k ks with kind:=5,chunk:=(zH n.l 2).n.toNat },zA (zA k (slt (sz k.parts (ks.getD 1 0)) (sz k.parts (ks.getD 0 0)) (zH n.l 2).n==0) 134 n.a) ((zR k.parts).getD (ks.getD 1 0) false) 139 n.a)
 else ZX k n (Yv k ks)
theorem fA{k:Rk}(h:k.bad≠0)(n:Nd)(ks:List Nat):(jB k n ks).2=k:=by
 unfold jB
 split
 ·exact qy h _ _ _
 ·split
  ·exact Dt h _ _
  ·split
   ·show zA (zA k _ _ _) _ _ _=k
    rw[qy h,qy h]
   ·exact fY h _ _
theorem F9{k:Rk}{ns:vJ}(hb:k.bad=0)(hN:Nr k.things ns)(n:Nd)(ks:List Nat)(e:n.op=qX)(hx:n.op=qX→0≤(zH n.l 1).n∧0≤(zH n.l 2).n):match jD ns k.parts n ks with
 | .error (ec,ea)=>(jB k n ks).2= { k with bad:=(ec:Nat),at':=ea }
 | .ok p=>jB k n ks=(p,k):=by
 unfold jD jB;rw[if_pos e,if_pos e];obtain⟨h1,h2⟩:=hx e;by_cases c:0<(zH n.l 2).n∧(zH n.l 1).n+(zH n.l 2).n≤sz k.parts (ks.getD 0 0)
 ·rw[if_pos c,show(decide ((zH n.l 2).n=0)||decide ((sz k.parts (ks.getD 0 0):Int)<(zH n.l 1).n+(zH n.l 2).n))=false by(rw[Bool.or_eq_false_iff,decide_eq_false_iff_not,decide_eq_false_iff_not];omega),qV]
  rfl
 ·rw[if_neg c,show(decide ((zH n.l 2).n=0)||decide ((sz k.parts (ks.getD 0 0):Int)<(zH n.l 1).n+(zH n.l 2).n))=true by(rw[Bool.or_eq_true,decide_eq_true_eq,decide_eq_true_eq];omega)]
  exact qu hb _ _
theorem Ff{k:Rk}{ns:vJ}(hb:k.bad=0)(hN:Nr k.things ns)(n:Nd)(ks:List Nat)(e:n.op=qQ∨n.op=je):match jD ns k.parts n ks with
 | .error (ec,ea)=>(jB k n ks).2= { k with bad:=(ec:Nat),at':=ea }
 | .ok p=>jB k n ks=(p,k):=by
 unfold jD jB;have e1:¬n.op=qX:=by rcases e with e|e<;>rw[e]<;>decide
 rw[if_neg e1,if_neg e1,if_pos e,if_pos e];unfold xZ Ve;have hk:(Yv k ks).kids=ks:=rfl;by_cases c:2≤ks.length∧ks.length≤4
 ·rw[if_neg (not_not_intro c),hk,show(decide (ks.length<2)||decide (4<ks.length))=false by simp;omega,qV]
  simp only;by_cases e2:n.op=qQ
  ·rw[if_pos e2,if_pos e2]
   by_cases c2:(ks.map (sz k.parts)).sum≤8192
   ·rw[if_pos c2,show decide (8192<(ks.map (sz k.parts)).sum)=false by simp;omega,qV]
    rfl
   ·rw[if_neg c2,show decide (8192<(ks.map (sz k.parts)).sum)=true by simp;omega]
    exact qu hb _ _
  ·rw[if_neg e2,if_neg e2]
   by_cases c2:(ks.all λk_1=>sz k.parts k_1==sz k.parts (ks.getD 0 0))=true
   ·rw[if_pos c2,show(Yv k ks).size=sz k.parts (ks.getD 0 0)from rfl,c2,Bool.not_true,qV]
    rfl
   ·rw[if_neg c2,show(Yv k ks).size=sz k.parts (ks.getD 0 0)from rfl]
    rw[Bool.not_eq_true]at c2;rw[c2,Bool.not_false];exact qu hb _ _
 ·rw[if_pos c,hk,show(decide (ks.length<2)||decide (4<ks.length))=true by simp;omega,qu hb]
  simp only;have hb1:({ k with bad:=(135:Int),at':=n.a }:Rk).bad≠0:=by show(135:Int)≠0;decide
  split
  ·exact qy hb1 _ _ _
  ·exact qy hb1 _ _ _
theorem GG{k:Rk}{ns:vJ}(hb:k.bad=0)(hN:Nr k.things ns)(n:Nd)(ks:List Nat)(e:n.op=qv):match jD ns k.parts n ks with
 | .error (ec,ea)=>(jB k n ks).2= { k with bad:=(ec:Nat),at':=ea }
 | .ok p=>jB k n ks=(p,k):=by
 unfold jD jB;have e1:¬n.op=qX:=by rw[e];decide
 have e2:¬(n.op=qQ∨n.op=je):=by rw[e];decide
 rw[if_neg e1,if_neg e1,if_neg e2,if_neg e2,if_pos e,if_pos e];generalize slt (sz k.parts (ks.getD 1 0)) (sz k.parts (ks.getD 0 0)) (zH n.l 2).n=SL;by_cases c:SL=0
 ·rw[if_pos c,c,show((0:Nat)==0)=true from rfl,qu hb]
  exact qy (by show(134:Int)≠0;decide:({ k with bad:=(134:Int),at':=n.a }:Rk).bad≠0) _ _ _
 ·rw[if_neg c,show(SL==0)=false by simpa using c,qV]
  cases hO:(zR k.parts).getD (ks.getD 1 0) false with
  |true =>
   simp only[if_true];exact qu hb _ _
  |false =>
   simp only[Bool.false_eq_true,if_false];rw[qV];rfl
def Hy(di dv:Nat)(ns:vJ)(n:Nd)(size:Nat)(ks:List Nat):Except Er Pt:=
 if n.op=jl then match jk ns (zH n.l 1) [zM]with
  | .error e=> .error e
  | .ok m=>if m.bytes.take 16=m.bytes.drop 16 then .error (135,n.a)else .ok ⟨6,size,ks,0,0,0,m.bytes,[]⟩
 else if n.op=qb then match jk ns (zH n.l 1) [zM]with
  | .error e=> .error e
  | .ok m=>if di=0 then .error (134,n.a)else .ok ⟨7,di,ks,0,0,0,m.bytes,[]⟩
 else match jk ns (zH n.l 1) [zN]with
  | .error e=> .error e
  | .ok m=>if dv=0 then .error (134,n.a)else .ok ⟨8,dv,ks,0,0,0,[],m.bytes⟩
def kv(di dv:Nat)(k:Rk)(n:Nd)(p:Pt):Pt×Rk:=
 if n.op=jf then
  ({ p with kind:=8,root:=(jh k (zH n.l 1).s (zH n.l 1).a zN).1,size:=dv },zA (jh k (zH n.l 1).s (zH n.l 1).a zN).2 (dv==0) 134 n.a)
 else if(jh k (zH n.l 1).s (zH n.l 1).a zM).2.bad≠0 then({ p with key:=(jh k (zH n.l 1).s (zH n.l 1).a zM).1 },(jh k (zH n.l 1).s (zH n.l 1).a zM).2)
 else if n.op=jl then({ p with key:=(jh k (zH n.l 1).s (zH n.l 1).a zM).1,kind:=6 },zA (jh k (zH n.l 1).s (zH n.l 1).a zM).2 (decide ((jh k (zH n.l 1).s (zH n.l 1).a zM).1.take 16=(jh k (zH n.l 1).s (zH n.l 1).a zM).1.drop 16)) 135 n.a)
 else({ p with key:=(jh k (zH n.l 1).s (zH n.l 1).a zM).1,kind:=7,size:=di },zA (jh k (zH n.l 1).s (zH n.l 1).a zM).2 (di==0) 134 n.a)
theorem Dx{k:Rk}{ns:vJ}(di dv:Nat)(hb:k.bad=0)(hN:Nr k.things ns)(n:Nd)(ks:List Nat)(p:Pt)(h1:p.kids=ks∧p.dev=0∧p.first=0∧p.chunk=0∧p.key= []∧p.root= [])(e:n.op=jl∨n.op=qb∨n.op=jf):match Hy di dv ns n p.size ks with
 | .error (ec,ea)=>(kv di dv k n p).2= { k with bad:=(ec:Nat),at':=ea }
 | .ok q=>kv di dv k n p=(q,k):=by
 obtain⟨pk,ps,pkids,pd,pf,pc,pkey,proot⟩:=p;obtain⟨rfl,rfl,rfl,rfl,rfl,rfl⟩:=h1;unfold Hy kv;rcases e with e|e|e
 ·rw[if_pos e,if_neg (show ¬n.op=jf by rw[e];decide)]
  have hK:=Vh hN (zH n.l 1) zM hb;cases hk:jk ns (zH n.l 1) [zM]with
  |error er =>
   obtain⟨ec,ea⟩:=er;rw[hk]at hK;have hK':(jh k (zH n.l 1).s (zH n.l 1).a zM).2= { k with bad:=(ec:Nat),at':=ea }:=hK;have hc:=yC hk;rw[if_pos (by rw[hK'];show((ec:Nat):Int)≠0;have :ec≠0:=hc;omega)];exact hK'
  |ok m =>
   rw[hk]at hK;have hK':jh k (zH n.l 1).s (zH n.l 1).a zM=(m.bytes,k):=hK;rw[hK'];simp only;rw[if_neg (not_not_intro hb),if_pos e];by_cases c:m.bytes.take 16=m.bytes.drop 16
   ·rw[if_pos c,decide_eq_true c]
    exact qu hb _ _
   ·rw[if_neg c,decide_eq_false c,qV]
 ·rw[if_neg (show ¬n.op=jl by rw[e];decide),if_pos e,if_neg (show ¬n.op=jf by rw[e];decide),if_neg (show ¬n.op=jl by rw[e];decide)]
  have hK:=Vh hN (zH n.l 1) zM hb;cases hk:jk ns (zH n.l 1) [zM]with
  |error er =>
   obtain⟨ec,ea⟩:=er;rw[hk]at hK;have hK':(jh k (zH n.l 1).s (zH n.l 1).a zM).2= { k with bad:=(ec:Nat),at':=ea }:=hK;have hc:=yC hk;rw[if_pos (by rw[hK'];show((ec:Nat):Int)≠0;have :ec≠0:=hc;omega)];exact hK'
  |ok m =>
   rw[hk]at hK;have hK':jh k (zH n.l 1).s (zH n.l 1).a zM=(m.bytes,k):=hK;rw[hK'];simp only;rw[if_neg (not_not_intro hb)];by_cases c:di=0
   ·rw[if_pos c,c]
    exact qu hb _ _
   ·rw[if_neg c,show(di==0)=false by simpa using c,qV]
 ·rw[if_neg (show ¬n.op=jl by rw[e];decide),if_neg (show ¬n.op=qb by rw[e];decide),if_pos e]
  have hK:=Vh hN (zH n.l 1) zN hb;cases hk:jk ns (zH n.l 1) [zN]with
  |error er =>
   obtain⟨ec,ea⟩:=er;rw[hk]at hK;have hK':(jh k (zH n.l 1).s (zH n.l 1).a zN).2= { k with bad:=(ec:Nat),at':=ea }:=hK;have hc:=yC hk;simp only;rw[hK'];exact qy (by show((ec:Nat):Int)≠0;have :ec≠0:=hc;omega) _ _ _
  |ok m =>
   rw[hk]at hK;have hK':jh k (zH n.l 1).s (zH n.l 1).a zN=(m.bytes,k):=hK;rw[hK'];simp only;by_cases c:dv=0
   ·rw[if_pos c,c]
    exact qu hb _ _
   ·rw[if_neg c,show(dv==0)=false by simpa using c,qV]
theorem Hk(k:Rk)(n:Nd)(p:Pt):ZX k n p=kv (dI p.size) (dV p.size) k n p:=rfl
theorem zb8(ns:vJ)(n:Nd)(size:Nat)(ks:List Nat):jE ns n size ks=Hy (dI size) (dV size) ns n size ks:=rfl
theorem fE{k:Rk}{ns:vJ}(hb:k.bad=0)(hN:Nr k.things ns)(n:Nd)(ks:List Nat)(e:n.op=jl∨n.op=qb∨n.op=jf):match jD ns k.parts n ks with
 | .error (ec,ea)=>(jB k n ks).2= { k with bad:=(ec:Nat),at':=ea }
 | .ok p=>jB k n ks=(p,k):=by
 have e1:¬n.op=qX:=by rcases e with e|e|e<;>rw[e]<;>decide
 have e2:¬(n.op=qQ∨n.op=je):=by rcases e with e|e|e<;>rw[e]<;>decide
 have e3:¬n.op=qv:=by rcases e with e|e|e<;>rw[e]<;>decide
 have h:=Dx (dI (Yv k ks).size) (dV (Yv k ks).size) hb hN n ks (Yv k ks) ⟨rfl,rfl,rfl,rfl,rfl,rfl⟩ e;unfold jD jB;rw[if_neg e1,if_neg e1,if_neg e2,if_neg e2,if_neg e3,if_neg e3,Hk,zb8];exact h
theorem dx{k:Rk}{ns:vJ}(hb:k.bad=0)(hN:Nr k.things ns)(n:Nd)(ks:List Nat)(hw:n.op=qX∨(n.op=qQ∨n.op=je)∨n.op=qv∨(n.op=jl∨n.op=qb∨n.op=jf))(hx:n.op=qX→0≤(zH n.l 1).n∧0≤(zH n.l 2).n):match jD ns k.parts n ks with
 | .error (ec,ea)=>(jB k n ks).2= { k with bad:=(ec:Nat),at':=ea }
 | .ok p=>jB k n ks=(p,k):=by
 rcases hw with e|e|e|e
 ·exact F9 hb hN n ks e hx
 ·exact Ff hb hN n ks e
 ·exact GG hb hN n ks e
 ·exact fE hb hN n ks e
end
end Go.Proofs.YteaddcdpgcgggaaGreatDoor
