import Derived.Test.YteaddcdpgcgggaaGreatDoorJoint13
namespace Go.Proofs.YteaddcdpgcgggaaGreatDoor
set_option linter.unusedVariables false
set_option maxRecDepth 100000
set_option maxHeartbeats 40000000
section
open Go.ChangeShapes Go.WideShapes Go.ChangeAt Go.RowKit Go.MapKept
variable {E:Nat→Prop}
def Yi(E:Nat→Prop)(w:World)(cb:Nat)(V:RV)(k':Rk)(v:Value)(e:Ending)(w':World):Prop:=e= .returned v∧zZ E w' cb V k'∧Sp (V.own cb) w (V.own cb) w'
theorem qg{w:World}{cb:Nat}{V:RV}{k:Rk}(h:zZ E w cb V k):w.cell? ⟨cb,0,none⟩=some V.vd∧w.cell? ⟨cb,2,none⟩=some V.vp∧w.cell? ⟨cb,5,none⟩=some V.vt∧w.cell? ⟨cb,12,none⟩=some (.int .i64 k.bad):=by
 have c0:=h.has.cell 0;have c2:=h.has.cell 2;have c5:=h.has.cell 5;have c12:=h.has.cell 12;simp only[vh,List.getElem?_toArray,List.getElem?_cons_zero,List.getElem?_cons_succ]at c0 c2 c5 c12;exact⟨c0,c2,c5,c12⟩
theorem qk{w:World}{cb:Nat}{V:RV}{k:Rk}(h:zZ E w cb V k)(b:Bool)(ec a:Int):Calls Tryz.prog 19 #[.pointer (some ⟨cb,0,none⟩),.bool b,.int .i64 ec,.int .i64 a] w (Yi E w cb V (zA k b ec a) (.tuple #[])):=by
 obtain⟨-,-,-,c12⟩:=qg h;have lc:=h.has.lt;have f12:=h.has.free 12;have f13:=h.has.free 13;have c13:=h.has.cell 13;simp only[vh,List.getElem?_toArray,List.getElem?_cons_zero,List.getElem?_cons_succ]at c13;cases b with
 |false =>
  have HR:=ze (show Yi E w cb V (zA k false ec a) (.tuple #[]) (.returned (.tuple #[])) w from⟨rfl,by rw[qV];exact h,Sp.refl _ _⟩);clear h c12 c13 f12 f13;go_enter Tryz.func19,Tryz.ntmps19
  go_wp2
  refine bodyPost_ret (results_none rfl _ _ _) rfl ?_;exact HR.out
 |true =>
  by_cases hb:k.bad=0
  ·have HR:=ze (show Yi E w cb V (zA k true ec a) (.tuple #[]) (.returned (.tuple #[])) ((w.setCell ⟨cb,12,none⟩ (.int .i64 ec)).setCell ⟨cb,13,none⟩ (.int .i64 a))from by
    obtain⟨h1,s1⟩:=h.put { k with bad:=ec } 12 (.int .i64 ec) rfl rfl rfl rfl;obtain⟨h2,s2⟩:=h1.put { k with bad:=ec,at':=a } 13 (.int .i64 a) rfl rfl rfl rfl
    exact⟨rfl,by rw[qu hb];exact h2,s1.trans s2⟩)
   rw[hb]at c12;clear h hb;go_enter Tryz.func19,Tryz.ntmps19
   go_wp2
   refine bodyPost_ret (results_none rfl _ _ _) rfl ?_;exact HR.out
  ·have HR:=ze (show Yi E w cb V (zA k true ec a) (.tuple #[]) (.returned (.tuple #[])) w from⟨rfl,by rw[qy hb];exact h,Sp.refl _ _⟩)
   generalize k.bad=X at *;have hd:decide (X=0)=false:=decide_eq_false hb;clear h f12 f13 c13;go_enter Tryz.func19,Tryz.ntmps19
   go_wp2
   refine bodyPost_ret (results_none rfl _ _ _) rfl ?_;exact HR.out
def KP(w:World)(P:Nat→Prop)(g off:Nat)(ts:List Th):Prop:=∀i (h:i<ts.length),w.cell? ⟨g,off+i*4,none⟩=some (.string (bs ts[i].name))∧w.cell? ⟨g,off+i*4+1,none⟩=some (.string (bs ts[i].op))∧w.cell? ⟨g,off+i*4+2,none⟩=some (.int .i64 ts[i].part)∧∃A C,w.cell? ⟨g,off+i*4+3,none⟩=some (.slice A ts[i].b.length C)∧ts[i].b.length≤C∧C≤maxLen∧jK w P A ts[i].b
theorem zZ.ths{w:World}{cb:Nat}{V:RV}{k:Rk}(h:zZ E w cb V k)(hn:0<k.things.length):∃g off C,V.vt= .slice (some ⟨g,off,none⟩) k.things.length C∧k.things.length≤C∧C≤maxLen∧g<w.heap.size∧KP w (λg=>¬V.own cb g∧E g) g off k.things:=by
 obtain⟨us,e1,hp,hin⟩:=h.thgs;obtain⟨g,C,e,h1,h2,h3,_,h4⟩:=xl hp hn;refine⟨g,0,C,e,h1,h2,h3,λi hi=>?_⟩;obtain⟨A,C',e',a1,a2,a3⟩:=(hin i hi (by omega)).bytes
 have q:∀j,j<4→w.cell? ⟨g,0+i*4+j,none⟩=(thc k.things[i] (us[i]'(by omega)))[j]?:=λj hj=>by
  rw[Nat.zero_add,h4 _ (by omega),zaM _ us e1 i hi j hj]
 have q0:=q 0 (by decide);have q1:=q 1 (by decide);have q2:=q 2 (by decide);have q3:=q 3 (by decide);rw[e']at q0 q1 q2 q3;exact⟨q0,q1,q2,A,C',q3,a1,a2,a3⟩
theorem KP.keep{w w':World}{P:Nat→Prop}{g off:Nat}{ts:List Th}(h:KP w P g off ts)(hb:Below w.heap.size w w'):KP w' P g off ts:=λi hi=>by
 obtain⟨a,b,c,A,C,d,e1,e2,e3⟩:=h i hi;exact⟨za hb a,za hb b,za hb c,A,C,za hb d,e1,e2,e3.keep hb.size (λk hk hP=>⟨hb.block k hk,hP⟩)⟩
theorem zZ.vt_sl{w:World}{cb:Nat}{V:RV}{k:Rk}(h:zZ E w cb V k):∃A C,V.vt= .slice A k.things.length C:=by
 obtain⟨us,e1,hp,hin⟩:=h.thgs;exact xR hp
theorem jW{o:Oper}{a:Act}(x i:Operand)(ho:o.op= .indexAddr 59 x i)(g off k n cap:Nat)(hx:a.eval x= .slice (some ⟨g,off,none⟩) n cap)(hi:a.eval i= .int .i64 (k:Nat))(hk:k<n)(w:World):(execOp a.eval o).run Tryz.prog w= .ok (.value (.pointer (some ⟨g,off+k*4,none⟩))) w:=by
 have hsz:(Tryz.prog.info? 95).map (·.size)=some 4:=by kernel_rfl
 unfold execOp;cases hq:Tryz.prog.info? 95 with
 |none=>simp[hq]at hsz
 |some inf =>
  have hz:inf.size=4:=by simpa [hq]using hsz
  simp only[ho,hx,hi];simp[Instr.indexAt,Instr.sureAddr,run_underlying Tryz.underlying59,asIntOf,sizeOf,typeInfo,hq,hz,Addr.add_mid,go_sem];intro h;omega
theorem XQ{o:Oper}{a:Act}(x y:Operand)(ho:o.op= .binOp .eql 9 x y 9)(p q:List UInt8)(hx:a.eval x= .string (bs p))(hy:a.eval y= .string (bs q))(c:Bool)(h:(p==q)=c)(w:World):(execOp a.eval o).run Tryz.prog w= .ok (.value (.bool c)) w:=by
 have hp:=zp p;have hq:=zp q;unfold execOp;simp only[ho,hx,hy];rw[←h];go_simp
theorem yz{o:Oper}{a:Act}(x y:Operand)(ho:o.op= .binOp .neq 9 x y 9)(p q:List UInt8)(hx:a.eval x= .string (bs p))(hy:a.eval y= .string (bs q))(c:Bool)(h:(p != q)=c)(w:World):(execOp a.eval o).run Tryz.prog w= .ok (.value (.bool c)) w:=by
 have hp:=zp p;have hq:=zp q;unfold execOp;simp only[ho,hx,hy];have hh:(p==q)= !c:=by rw[←h,bne,Bool.not_not]
 go_simp
theorem Qw{w:World}{cb:Nat}{V:RV}{k:Rk}(h:zZ E w cb V k)(s:List UInt8):Calls Tryz.prog 40 #[.pointer (some ⟨cb,0,none⟩),.string (bs s)] w λe w'=>e= .returned (.int .i64 (QJ k.things s))∧w'=w:=by
 obtain⟨A,C,ev⟩:=h.vt_sl;obtain⟨-,-,c5,-⟩:=qg h;have lc:=h.has.lt;have hths:=λhn=>h.ths hn
 have hfew:k.things.length≤100000:=h.few.2.1;rw[ev]at c5
 obtain⟨L,hL⟩:∃L,L=k.things.length:=⟨_,rfl⟩
 have HL:=ze hL
 have HT:=ze (λ(hn:0<k.things.length)=>by
  obtain⟨g,off,C',e,h1,h2,h3,h4⟩:=h.ths hn;rw[ev]at e
  exact(⟨g,off,by cases e;rfl,h3,h4⟩:∃g off,A=some ⟨g,off,none⟩∧g<w.heap.size∧KP w (λg=>¬V.own cb g∧E g) g off k.things))
 have HN:=ze (λ(q:∀j (q:j<k.things.length),k.things[j].name≠s)=>DF q);have HS:=ze (λ(i:Nat) (hi:i<k.things.length) (q:∀j (q:j<i),(k.things[j]'(Nat.lt_trans q hi)).name≠s) (e:k.things[i].name=s)=>fL hi q e);rw[←hL]at c5 hfew;clear h hths hL ev;go_enter Tryz.func40,Tryz.ntmps40
 go_wp2
 go_loopw [5] (λz wr=>∃(i:Nat),z= .int .i64 (i:Nat)∧i≤L∧wr=w∧Hid (∀j (q:j<i) (q2:j<k.things.length),k.things[j].name≠s)) (λz _=>L-(intOf z).toNat)
 case atStart=>exact⟨0,rfl,Nat.zero_le _,rfl,ze (λj q=>absurd q (Nat.not_lt_zero _))⟩
 case round =>
  obtain⟨i,rfl,hi,rfl,HA⟩:=hrel;by_cases hlt:i<L
  ·have hil:i<k.things.length:=by rw[←HL.out];exact hlt
   have hint:(i:Int)<(L:Int):=by omega
   obtain⟨g,off,rfl,hg,hat⟩:=HT.out (by omega);obtain⟨q0,-,-,-⟩:=hat i hil;by_cases hq:k.things[i].name=s
   ·have HF:=ze (HS.out i hil (λj q=>HA.out j q (by omega)) hq)
    have hqe:(k.things[i].name==s)=true:=by simp[hq]
    clear hat hq;generalize k.things[i].name=nm at *
    go_wp2_with (first
     |((refine zi 20 rfl ?_)
       (refine zd (some 20) _ rfl (by rfl) (jW _ _ rfl g off i L C rfl rfl hlt _) ?_))
     |((refine zi 24 rfl ?_)
       (refine zd (some 24) (.bool true) rfl (by rfl) (XQ _ _ rfl nm s rfl rfl true hqe _) ?_)))
    go_ret
    rw[HF.out];exact⟨by first |rfl|trivial,rfl⟩
   ·have hqe:(k.things[i].name==s)=false:=by simp[hq]
    have HB:=ze (λj (q:j<i+1) (q2:j<k.things.length)=>(by
     by_cases e:j<i
     ·exact HA.out j e q2
     ·obtain rfl:j=i:=by omega
      exact hq:k.things[j].name≠s))
    clear hat hq;generalize k.things[i].name=nm at *
    go_wp2_with (first
     |((refine zi 20 rfl ?_)
       (refine zd (some 20) _ rfl (by rfl) (jW _ _ rfl g off i L C rfl rfl hlt _) ?_))
     |((refine zi 24 rfl ?_)
       (refine zd (some 24) (.bool false) rfl (by rfl) (XQ _ _ rfl nm s rfl rfl false hqe _) ?_)))
    go_roundw
    case rel=>exact⟨i+1,by go_num,by omega,by first |trivial|rfl,HB⟩
    case measure=>simp[intOf];omega
  ·obtain rfl:L=i:=by omega
   have HF:=ze (HN.out (λj q=>HA.out j (by rw[HL.out];exact q) q))
   go_wp2
   go_ret
   rw[HF.out];exact⟨by first |rfl|trivial,rfl⟩
end
section
open Go.ChangeShapes Go.WideShapes Go.ChangeAt Go.RowKit Go.MapKept
variable {E:Nat→Prop}
theorem zZ.thAt{w:World}{cb:Nat}{V:RV}{k:Rk}(h:zZ E w cb V k){g off n C j:Nat}(ev:V.vt= .slice (some ⟨g,off,none⟩) n C)(hj:j<k.things.length):g<w.heap.size∧w.cell? ⟨g,off+j*4,none⟩=some (.string (bs k.things[j].name))∧w.cell? ⟨g,off+j*4+1,none⟩=some (.string (bs k.things[j].op))∧w.cell? ⟨g,off+j*4+2,none⟩=some (.int .i64 k.things[j].part)∧∃A C,w.cell? ⟨g,off+j*4+3,none⟩=some (.slice A k.things[j].b.length C)∧k.things[j].b.length≤C∧C≤maxLen∧jK w (λg=>¬V.own cb g∧E g) A k.things[j].b:=by
 obtain⟨g',off',C',e,h1,h2,h3,h4⟩:=h.ths (by omega);rw[ev]at e;cases e;obtain⟨a,b,c,d⟩:=h4 j hj;exact⟨h3,a,b,c,d⟩
theorem Xp(ts:List Th)(s:List UInt8):QJ ts s<0∨∃j:Nat,QJ ts s=(j:Nat)∧j<ts.length:=by
 unfold QJ;cases h:ts.findIdx? (λt=>t.name==s)with
 |none=>exact .inl (by decide)
 |some i =>
  have:=(List.findIdx?_eq_some_iff_getElem.1 h).1;exact .inr ⟨i,rfl,this⟩
theorem zbr{k:Rk}{s:List UInt8}{a:Int}{j:Nat}(e:QJ k.things s=(j:Nat))(hj:j<k.things.length):Ze k s a=(k.things[j].part,zA k (k.things[j].op != zn&&k.things[j].op != zB) 133 a):=by
 have ht:thAt k s=k.things[j]:=by
  unfold thAt;rw[e,Int.toNat_natCast,List.getD_eq_getElem?_getD,List.getElem?_eq_getElem hj];rfl
 unfold Ze;rw[if_neg (by omega),ht]
theorem za5{k:Rk}{s op:List UInt8}{a:Int}{j:Nat}(e:QJ k.things s=(j:Nat))(hj:j<k.things.length):jh k s a op=(k.things[j].b,zA k (k.things[j].op != op) 133 a):=by
 have ht:thAt k s=k.things[j]:=by
  unfold thAt;rw[e,Int.toNat_natCast,List.getD_eq_getElem?_getD,List.getElem?_eq_getElem hj];rfl
 unfold jh;rw[if_neg (by omega),ht]
theorem dL{w:World}{cb:Nat}{V:RV}{k:Rk}(h:zZ E w cb V k)(s:List UInt8)(a:Int):Calls Tryz.prog 39 #[.pointer (some ⟨cb,0,none⟩),.string (bs s),.int .i64 a] w (Yi E w cb V (Ze k s a).2 (.int .i64 (Ze k s a).1)):=by
 have hfd:=Qw h s;rcases Xp k.things s with hlt|⟨j,ej,hj⟩
 ·have hR:Ze k s a=(0,zA k true 131 a):=by unfold Ze;rw[if_pos hlt]
  have HR:=ze hR;have hd:decide (QJ k.things s<0)=true:=decide_eq_true hlt;have hf:=qk h true 131 a;generalize QJ k.things s=I at *;clear h hR;go_enter Tryz.func39,Tryz.ntmps39
  go_wp2_with (first
   |((go_at_call 40)
     refine hfd.mono ?_;rintro e w1 ⟨rfl,hw1⟩;(obtain rfl:w=w1:=hw1.symm))
   |((go_at_call 19)
     refine hf.mono ?_;(rintro e w2 ⟨rfl,h2,s2⟩)))
  go_ret
  rw[HR.out];exact⟨rfl,h2,s2⟩
 ·rw[zbr (a:=a) ej hj]
  obtain⟨K',hK'⟩:∃K',K'=zA k (k.things[j].op != zn&&k.things[j].op != zB) 133 a:=⟨_,rfl⟩
  rw[←hK'];have HR:=ze hK';have HJ3:=ze (λb=>(by rw[qU];exact hj:j<(zA k b 133 a).things.length));have HP3':∀b,((zA k b 133 a).things[j]'(HJ3.out b)).part=k.things[j].part:=λb=>by simp only[qU]
  obtain⟨g,off,C,ev,hC1,hC2,-⟩:=h.ths (by omega);have HEV:=ze ev;have HNO:=ze (λw2 (h2:zZ E w2 cb V (zA k false 131 a))=>(by rw[qV]at h2;exact h2:zZ E w2 cb V k));have hf1:=qk h false 131 a
  obtain⟨L,hL⟩:∃L,L=k.things.length:=⟨_,rfl⟩
  have hjL:j<L:=by omega
  rw[←hL]at hC1 HEV;have hfew:=h.few.2.1;have hL3:L≤100000:=by omega
  rw[ej]at hfd;have hjn:decide ((j:Int)<0)=false:=decide_eq_false (by omega)
  obtain⟨t,ht⟩:∃t,t=k.things[j]:=⟨_,rfl⟩
  have HT:=ze ht;have hHEV:=HEV;rw[←ht]at HR ⊢;have hot:=zp t.op;by_cases e1:t.op=zn
  ·have f1:(t.op != zn)=false:=by rw[e1];decide
   have HB:=ze (show(t.op != zn&&t.op != zB)=false by rw[f1];rfl);have HP3:=ze (HP3' false);clear e1 h hL hfew HP3' ev ht hHEV hK';go_enter Tryz.func39,Tryz.ntmps39
   go_wp2_with (first
    |((go_at_call 40)
      refine hfd.mono ?_;rintro e w1 ⟨rfl,hw1⟩;(obtain rfl:w=w1:=hw1.symm))
    |((go_at_call 19)
      refine qE 2 (.int .i64 131) rfl ?_;refine hf1.mono ?_;rintro e w2 ⟨rfl,h2,s2⟩;have h2':=HNO.out w2 h2;obtain⟨-,-,c5,-⟩:=qg h2';have lc2:=h2'.has.lt;obtain⟨hg,q0,q1,q2,A3,C3,q3,-⟩:=h2'.thAt HEV.out hj;rw[HEV.out]at c5;rw[←HT.out]at q1;have hf2:=qk h2' false 133 a;(clear h2))
    |((refine zi 24 rfl ?_)
      (refine zd (some 24) _ rfl (by rfl) (jW _ _ rfl g off j L C rfl rfl hjL _) ?_))
    |((refine zi 34 rfl ?_)
      (refine zd (some 34) _ rfl (by rfl) (jW _ _ rfl g off j L C rfl rfl hjL _) ?_))
    |((refine zi 27 rfl ?_)
      (refine zd (some 27) (.bool false) rfl (by rfl) (yz _ _ rfl t.op zn rfl rfl false f1 _) ?_))
    |((go_at_call 19)
      refine qE 2 (.int .i64 133) rfl ?_;refine hf2.mono ?_;rintro e w3 ⟨rfl,h3,s3⟩;obtain⟨-,-,c53,-⟩:=qg h3;have lc3:=h3.has.lt;obtain⟨hg3,p0,p1,p2,A4,C4,p3,-⟩:=h3.thAt HEV.out (HJ3.out _);rw[HEV.out]at c53;(rw[HP3.out,←HT.out]at p2))
    |((refine zi 46 rfl ?_)
      (refine zd (some 46) _ rfl (by rfl) (jW _ _ rfl g off j L C rfl rfl hjL _) ?_)))
   go_ret
   exact⟨rfl,by rw[HR.out,HB.out];exact h3,s2.trans s3⟩
  ·have f1:(t.op != zn)=true:=by simp[e1]
   by_cases e2:t.op=zB
   ·have f2:(t.op != zB)=false:=by rw[e2];decide
    have HB:=ze (show(t.op != zn&&t.op != zB)=false by rw[f1,f2];rfl);have HP3:=ze (HP3' false);clear e1 e2 h hL hfew HP3' ev ht hHEV hK';go_enter Tryz.func39,Tryz.ntmps39
    go_wp2_with (first
     |((go_at_call 40)
       refine hfd.mono ?_;rintro e w1 ⟨rfl,hw1⟩;(obtain rfl:w=w1:=hw1.symm))
     |((go_at_call 19)
       refine qE 2 (.int .i64 131) rfl ?_;refine hf1.mono ?_;rintro e w2 ⟨rfl,h2,s2⟩;have h2':=HNO.out w2 h2;obtain⟨-,-,c5,-⟩:=qg h2';have lc2:=h2'.has.lt;obtain⟨hg,q0,q1,q2,A3,C3,q3,-⟩:=h2'.thAt HEV.out hj;rw[HEV.out]at c5;rw[←HT.out]at q1;have hf2:=qk h2' false 133 a;(clear h2))
     |((refine zi 24 rfl ?_)
       (refine zd (some 24) _ rfl (by rfl) (jW _ _ rfl g off j L C rfl rfl hjL _) ?_))
     |((refine zi 34 rfl ?_)
       (refine zd (some 34) _ rfl (by rfl) (jW _ _ rfl g off j L C rfl rfl hjL _) ?_))
     |((refine zi 27 rfl ?_)
       (refine zd (some 27) (.bool true) rfl (by rfl) (yz _ _ rfl t.op zn rfl rfl true f1 _) ?_))
     |((refine zi 37 rfl ?_)
       (refine zd (some 37) (.bool false) rfl (by rfl) (yz _ _ rfl t.op zB rfl rfl false f2 _) ?_))
     |((go_at_call 19)
       refine qE 2 (.int .i64 133) rfl ?_;refine hf2.mono ?_;rintro e w3 ⟨rfl,h3,s3⟩;obtain⟨-,-,c53,-⟩:=qg h3;have lc3:=h3.has.lt;obtain⟨hg3,p0,p1,p2,A4,C4,p3,-⟩:=h3.thAt HEV.out (HJ3.out _);rw[HEV.out]at c53;(rw[HP3.out,←HT.out]at p2))
     |((refine zi 46 rfl ?_)
       (refine zd (some 46) _ rfl (by rfl) (jW _ _ rfl g off j L C rfl rfl hjL _) ?_)))
    go_ret
    exact⟨rfl,by rw[HR.out,HB.out];exact h3,s2.trans s3⟩
   ·have f2:(t.op != zB)=true:=by simp[e2]
    have HB:=ze (show(t.op != zn&&t.op != zB)=true by rw[f1,f2];rfl);have HP3:=ze (HP3' true);clear e1 e2 h hL hfew HP3' ev ht hHEV hK';go_enter Tryz.func39,Tryz.ntmps39
    go_wp2_with (first
     |((go_at_call 40)
       refine hfd.mono ?_;rintro e w1 ⟨rfl,hw1⟩;(obtain rfl:w=w1:=hw1.symm))
     |((go_at_call 19)
       refine qE 2 (.int .i64 131) rfl ?_;refine hf1.mono ?_;rintro e w2 ⟨rfl,h2,s2⟩;have h2':=HNO.out w2 h2;obtain⟨-,-,c5,-⟩:=qg h2';have lc2:=h2'.has.lt;obtain⟨hg,q0,q1,q2,A3,C3,q3,-⟩:=h2'.thAt HEV.out hj;rw[HEV.out]at c5;rw[←HT.out]at q1;have hf2:=qk h2' true 133 a;(clear h2))
     |((refine zi 24 rfl ?_)
       (refine zd (some 24) _ rfl (by rfl) (jW _ _ rfl g off j L C rfl rfl hjL _) ?_))
     |((refine zi 34 rfl ?_)
       (refine zd (some 34) _ rfl (by rfl) (jW _ _ rfl g off j L C rfl rfl hjL _) ?_))
     |((refine zi 27 rfl ?_)
       (refine zd (some 27) (.bool true) rfl (by rfl) (yz _ _ rfl t.op zn rfl rfl true f1 _) ?_))
     |((refine zi 37 rfl ?_)
       (refine zd (some 37) (.bool true) rfl (by rfl) (yz _ _ rfl t.op zB rfl rfl true f2 _) ?_))
     |((go_at_call 19)
       refine qE 2 (.int .i64 133) rfl ?_;refine hf2.mono ?_;rintro e w3 ⟨rfl,h3,s3⟩;obtain⟨-,-,c53,-⟩:=qg h3;have lc3:=h3.has.lt;obtain⟨hg3,p0,p1,p2,A4,C4,p3,-⟩:=h3.thAt HEV.out (HJ3.out _);rw[HEV.out]at c53;(rw[HP3.out,←HT.out]at p2))
     |((refine zi 46 rfl ?_)
       (refine zd (some 46) _ rfl (by rfl) (jW _ _ rfl g off j L C rfl rfl hjL _) ?_)))
    go_ret
    exact⟨rfl,by rw[HR.out,HB.out];exact h3,s2.trans s3⟩
def zc9(E:Nat→Prop)(w:World)(cb:Nat)(V:RV)(b:List UInt8)(k':Rk)(e:Ending)(w':World):Prop:=∃A C,e= .returned (.slice A b.length C)∧b.length≤C∧C≤maxLen∧jK w' (λg=>¬V.own cb g∧E g) A b∧zZ E w' cb V k'∧Sp (V.own cb) w (V.own cb) w'
theorem Kc{w:World}{cb:Nat}{V:RV}{k:Rk}(h:zZ E w cb V k)(n:Nd)(A:Option Addr)(Ln Cn:Nat)(op:List UInt8):Calls Tryz.prog 87 #[.pointer (some ⟨cb,0,none⟩),.agg (qD n (.slice A Ln Cn)),.string (bs op)] w (zc9 E w cb V (jh k n.s n.a op).1 (jh k n.s n.a op).2):=by
 obtain⟨W1,hW1⟩:∃W1,W1=w.alloc (.cells (qD n (.slice A Ln Cn)) 24):=⟨_,rfl⟩
 have hb1:Below w.heap.size w W1:=by rw[hW1];exact zl w _
 have N1:zm W1 w.heap.size 24 #[.string (bs n.op),.string (bs n.s),.int .i64 n.n,.int .i64 n.a,.slice A Ln Cn]:=by rw[hW1];exact zm.new w _ _
 have h1:=h.keep hb1;have hfd:=Qw h1 n.s;have HN:=ze N1;have n1:=N1.cell 1;have n3:=N1.cell 3;have nl:=N1.lt;simp only[qH,qG,qI]at n1 n3;have HNB:=ze (show ¬V.own cb w.heap.size from λho=>absurd (h.low ho).2 (Nat.lt_irrefl _));rcases Xp k.things n.s with hlt|⟨j,ej,hj⟩
 ·have hR:jh k n.s n.a op=([],zA k true 131 n.a):=by unfold jh;rw[if_pos hlt]
  have HR:=ze hR;have hd:decide (QJ k.things n.s<0)=true:=decide_eq_true hlt;have hf:=qk h1 true 131 n.a;generalize QJ k.things n.s=I at *;rw[hW1]at n1 n3 nl hfd hf;have HW:=ze hW1;clear h hR h1 hW1 N1;unfold qD at *;go_enter Tryz.func87,Tryz.ntmps87
  go_wp2_with (first
   |((go_at_call 40)
     refine hfd.mono ?_;rintro e w1 ⟨rfl,hw1⟩;(subst hw1))
   |((go_at_call 19)
     refine hf.mono ?_;(rintro e w2 ⟨rfl,h2,s2⟩)))
  go_ret
  rw[HR.out];exact⟨none,0,rfl,Nat.le_refl _,by unfold maxLen;omega,.inl rfl,h2,Sp.left (zl w _) s2⟩
 ·have HR:=ze (za5 (a:=n.a) (op:=op) ej hj)
  have HJ3:=ze (λb=>(by rw[qU];exact hj:j<(zA k b 133 n.a).things.length));have HP3':∀b,((zA k b 133 n.a).things[j]'(HJ3.out b))=k.things[j]:=λb=>by simp only[qU]
  obtain⟨g,off,C,ev,hC1,hC2,-⟩:=h.ths (by omega);have HEV:=ze ev;have HNO:=ze (λw2 (h2:zZ E w2 cb V (zA k false 131 n.a))=>(by rw[qV]at h2;exact h2:zZ E w2 cb V k));have hf1:=qk h1 false 131 n.a
  obtain⟨L,hL⟩:∃L,L=k.things.length:=⟨_,rfl⟩
  have hjL:j<L:=by omega
  rw[←hL]at hC1 HEV;have hfew:=h.few.2.1;have hL3:L≤100000:=by omega
  rw[ej]at hfd;have hjn:decide ((j:Int)<0)=false:=decide_eq_false (by omega)
  obtain⟨t,ht⟩:∃t,t=k.things[j]:=⟨_,rfl⟩
  have HT:=ze ht;rw[←ht]at HR HP3';have hot:=zp t.op;have hop:=zp op;rw[hW1]at n1 n3 nl hfd hf1 HN;clear h hL hfew ev ht h1 hW1 N1 hb1;unfold qD at *;cases f1:(t.op != op)with
  |false =>
   have HP3:=ze (HP3' false);have HB:=ze f1;clear HP3';go_enter Tryz.func87,Tryz.ntmps87
   go_wp2_with (first
    |((go_at_call 40)
      refine hfd.mono ?_;rintro e w1 ⟨rfl,hw1⟩;(subst hw1))
    |((go_at_call 19)
      refine qE 2 (.int .i64 131) rfl ?_;refine hf1.mono ?_;rintro e W2 ⟨rfl,h2,s2⟩;have h2':=HNO.out W2 h2;obtain⟨-,-,c5,-⟩:=qg h2';have lc2:=h2'.has.lt;obtain⟨hg,q0,q1,q2,A3,C3,q3,-⟩:=h2'.thAt HEV.out hj;rw[HEV.out]at c5;rw[←HT.out]at q1;(have N2:=(HN.out.onl s2.only HNB.out));have n3:=N2.cell 3;simp only[qH,qG,qI]at n3;have nl2:=N2.lt;(clear h2)))
   refine wp_region_held_drew (S:=λwz=>wz.cell? ⟨cb,5,none⟩=some (.slice (some ⟨g,off,none⟩) L C)∧wz.cell? ⟨g,off+j*4+1,none⟩=some (.string (bs t.op))∧wz.cell? ⟨w.heap.size,3,none⟩=some (.int .i64 n.a)) (by kernel_rfl) (⟨c5,q1,n3⟩) (λhHeld=>?_);refine zw 0 (some 20) (.pointer (some ⟨cb,0,none⟩)) hHeld ?_;simp only[Act.put,zh,zf,zg];refine zw 1 (some 21) (.pointer (some ⟨cb,0,none⟩)) hHeld ?_;simp only[Act.put,zh,zf,zg];refine zw 2 (some 22) (.pointer (some ⟨cb,0,none⟩)) hHeld ?_;simp only[Act.put,zh,zf,zg];refine zw 3 (some 23) (.pointer (some ⟨cb,5,none⟩)) hHeld ?_;simp only[Act.put,zh,zf,zg];refine zD 4 (some 24) (.slice (some ⟨g,off,none⟩) L C) rfl rfl (λwz hz=>by obtain⟨z0,z1,z2⟩:=hz;unfold execOp;go_simp) hHeld ?_;simp only[Act.put,zh,zf,zg];refine zw 5 (some 25) (.int .i64 (j:Nat)) hHeld ?_;simp only[Act.put,zh,zf,zg];refine zD 6 (some 26) (.pointer (some ⟨g,off+j*4,none⟩)) rfl rfl (λwz _=>jW _ _ rfl g off j L C rfl rfl hjL wz) hHeld ?_;simp only[Act.put,zh,zf,zg];refine zw 7 (some 27) (.pointer (some ⟨g,off+j*4+1,none⟩)) hHeld ?_;simp only[Act.put,zh,zf,zg];refine zD 8 (some 28) (.string (bs t.op)) rfl rfl (λwz hz=>by obtain⟨z0,z1,z2⟩:=hz;unfold execOp;go_simp) hHeld ?_;simp only[Act.put,zh,zf,zg];refine zw 9 (some 29) (.string (bs op)) hHeld ?_;simp only[Act.put,zh,zf,zg];refine zD 10 (some 30) (.bool false) rfl rfl (λwz _=>yz _ _ rfl t.op op rfl rfl false f1 wz) hHeld ?_;simp only[Act.put,zh,zf,zg];refine zw 11 (some 31) (.pointer (some ⟨w.heap.size,3,none⟩)) hHeld ?_;simp only[Act.put,zh,zf,zg];refine zD 12 (some 32) (.int .i64 n.a) rfl rfl (λwz hz=>by obtain⟨z0,z1,z2⟩:=hz;unfold execOp;go_simp) hHeld ?_;simp only[Act.put,zh,zf,zg];refine qY 13 (some 33) 19 #[.pointer (some ⟨cb,0,none⟩),.bool false,.int .i64 133,.int .i64 n.a] (by kernel_rfl) rfl rfl (by rfl) (by kernel_rfl) (qk (h2'.keep (Below.refl _ W2).drew) false 133 n.a) ?_;rintro e w3 ⟨rfl,h3,s3⟩;obtain⟨-,-,c53,-⟩:=qg h3;have lc3:=h3.has.lt;obtain⟨hg3,p0,p1,p2,A4,C4,p3,p4,p5,p6⟩:=h3.thAt HEV.out (HJ3.out _);rw[HEV.out]at c53;rw[HP3.out]at p1 p3 p4 p6;have N3:=(zt N2).onl s3.only HNB.out;have n33:=N3.cell 3;simp only[qH,qG,qI]at n33;refine⟨_,rfl,⟨c53,p1,n33⟩,?_⟩;simp only[Act.put,zh,zf,zg];refine wpAnyH_done (by kernel_rfl) ?_ _;have hs3:Sp (V.own cb) w (V.own cb) w3:=(Sp.left (zl w _) s2).trans (Sp.left (Below.refl _ W2).drew s3)
   go_wp2_with (first
    |((refine zi 39 rfl ?_)
      (refine zd (some 39) _ rfl (by rfl) (jW _ _ rfl g off j L C rfl rfl hjL _) ?_)))
   go_ret
   rw[HR.out];exact⟨A4,C4,rfl,p4,p5,p6,by rw[HB.out];exact h3,hs3⟩
  |true =>
   have HP3:=ze (HP3' true);have HB:=ze f1;clear HP3';go_enter Tryz.func87,Tryz.ntmps87
   go_wp2_with (first
    |((go_at_call 40)
      refine hfd.mono ?_;rintro e w1 ⟨rfl,hw1⟩;(subst hw1))
    |((go_at_call 19)
      refine qE 2 (.int .i64 131) rfl ?_;refine hf1.mono ?_;rintro e W2 ⟨rfl,h2,s2⟩;have h2':=HNO.out W2 h2;obtain⟨-,-,c5,-⟩:=qg h2';have lc2:=h2'.has.lt;obtain⟨hg,q0,q1,q2,A3,C3,q3,-⟩:=h2'.thAt HEV.out hj;rw[HEV.out]at c5;rw[←HT.out]at q1;(have N2:=(HN.out.onl s2.only HNB.out));have n3:=N2.cell 3;simp only[qH,qG,qI]at n3;have nl2:=N2.lt;(clear h2)))
   refine wp_region_held_drew (S:=λwz=>wz.cell? ⟨cb,5,none⟩=some (.slice (some ⟨g,off,none⟩) L C)∧wz.cell? ⟨g,off+j*4+1,none⟩=some (.string (bs t.op))∧wz.cell? ⟨w.heap.size,3,none⟩=some (.int .i64 n.a)) (by kernel_rfl) (⟨c5,q1,n3⟩) (λhHeld=>?_);refine zw 0 (some 20) (.pointer (some ⟨cb,0,none⟩)) hHeld ?_;simp only[Act.put,zh,zf,zg];refine zw 1 (some 21) (.pointer (some ⟨cb,0,none⟩)) hHeld ?_;simp only[Act.put,zh,zf,zg];refine zw 2 (some 22) (.pointer (some ⟨cb,0,none⟩)) hHeld ?_;simp only[Act.put,zh,zf,zg];refine zw 3 (some 23) (.pointer (some ⟨cb,5,none⟩)) hHeld ?_;simp only[Act.put,zh,zf,zg];refine zD 4 (some 24) (.slice (some ⟨g,off,none⟩) L C) rfl rfl (λwz hz=>by obtain⟨z0,z1,z2⟩:=hz;unfold execOp;go_simp) hHeld ?_;simp only[Act.put,zh,zf,zg];refine zw 5 (some 25) (.int .i64 (j:Nat)) hHeld ?_;simp only[Act.put,zh,zf,zg];refine zD 6 (some 26) (.pointer (some ⟨g,off+j*4,none⟩)) rfl rfl (λwz _=>jW _ _ rfl g off j L C rfl rfl hjL wz) hHeld ?_;simp only[Act.put,zh,zf,zg];refine zw 7 (some 27) (.pointer (some ⟨g,off+j*4+1,none⟩)) hHeld ?_;simp only[Act.put,zh,zf,zg];refine zD 8 (some 28) (.string (bs t.op)) rfl rfl (λwz hz=>by obtain⟨z0,z1,z2⟩:=hz;unfold execOp;go_simp) hHeld ?_;simp only[Act.put,zh,zf,zg];refine zw 9 (some 29) (.string (bs op)) hHeld ?_;simp only[Act.put,zh,zf,zg];refine zD 10 (some 30) (.bool true) rfl rfl (λwz _=>yz _ _ rfl t.op op rfl rfl true f1 wz) hHeld ?_;simp only[Act.put,zh,zf,zg];refine zw 11 (some 31) (.pointer (some ⟨w.heap.size,3,none⟩)) hHeld ?_;simp only[Act.put,zh,zf,zg];refine zD 12 (some 32) (.int .i64 n.a) rfl rfl (λwz hz=>by obtain⟨z0,z1,z2⟩:=hz;unfold execOp;go_simp) hHeld ?_;simp only[Act.put,zh,zf,zg];refine qY 13 (some 33) 19 #[.pointer (some ⟨cb,0,none⟩),.bool true,.int .i64 133,.int .i64 n.a] (by kernel_rfl) rfl rfl (by rfl) (by kernel_rfl) (qk (h2'.keep (Below.refl _ W2).drew) true 133 n.a) ?_;rintro e w3 ⟨rfl,h3,s3⟩;obtain⟨-,-,c53,-⟩:=qg h3;have lc3:=h3.has.lt;obtain⟨hg3,p0,p1,p2,A4,C4,p3,p4,p5,p6⟩:=h3.thAt HEV.out (HJ3.out _);rw[HEV.out]at c53;rw[HP3.out]at p1 p3 p4 p6;have N3:=(zt N2).onl s3.only HNB.out;have n33:=N3.cell 3;simp only[qH,qG,qI]at n33;refine⟨_,rfl,⟨c53,p1,n33⟩,?_⟩;simp only[Act.put,zh,zf,zg];refine wpAnyH_done (by kernel_rfl) ?_ _;have hs3:Sp (V.own cb) w (V.own cb) w3:=(Sp.left (zl w _) s2).trans (Sp.left (Below.refl _ W2).drew s3)
   go_wp2_with (first
    |((refine zi 39 rfl ?_)
      (refine zd (some 39) _ rfl (by rfl) (jW _ _ rfl g off j L C rfl rfl hjL _) ?_)))
   go_ret
   rw[HR.out];exact⟨A4,C4,rfl,p4,p5,p6,by rw[HB.out];exact h3,hs3⟩
end
section
open Go.ChangeShapes Go.WideShapes Go.ChangeAt Go.RowKit Go.MapKept
variable {E:Nat→Prop}
theorem Je{o:Oper}{a:Act}(x y:Operand)(ho:o.op= .binOp .eql 62 x y 62)(p q:Nat)(hx:a.eval x= .int .i64 (p:Nat))(hy:a.eval y= .int .i64 (q:Nat))(c:Bool)(h:(p==q)=c)(w:World):(execOp a.eval o).run Tryz.prog w= .ok (.value (.bool c)) w:=by
 have e:((p:Int)==(q:Int))=c:=by rw[←h,Bool.eq_iff_iff];simp;omega
 unfold execOp;simp only[ho,hx,hy];rw[←e];go_simp
theorem Z2{o:Oper}{a:Act}(x y:Operand)(ho:o.op= .binOp .eql 3 x y 3)(p q:Nat)(hx:a.eval x= .int .i64 (p:Nat))(hy:a.eval y= .int .i64 (q:Nat))(c:Bool)(h:(p==q)=c)(w:World):(execOp a.eval o).run Tryz.prog w= .ok (.value (.bool c)) w:=by
 rw[←h];exact Qx x y ho p q hx hy w
theorem Jt{o:Oper}{a:Act}(x y:Operand)(ho:o.op= .binOp .neq 62 x y 62)(p q:Nat)(hx:a.eval x= .int .i64 (p:Nat))(hy:a.eval y= .int .i64 (q:Nat))(c:Bool)(h:(p != q)=c)(w:World):(execOp a.eval o).run Tryz.prog w= .ok (.value (.bool c)) w:=by
 have e:(!((p:Int)==(q:Int)))=c:=by
  rw[←h,bne]
  congr 1
  rw[Bool.eq_iff_iff];simp;omega
 unfold execOp;simp only[ho,hx,hy];go_simp;exact e
theorem Fz(a b:List Pt):∃t,zR (a++b)=zR a++t:=by
 induction b generalizing a with
 |nil=>exact⟨[],by simp⟩
 |cons x b ih =>
  obtain⟨t,e⟩:=ih (a++ [x]);rw[List.append_assoc,List.singleton_append]at e;rw[e,xq,List.append_assoc];exact⟨_,rfl⟩
theorem Hg(ps:List Pt){i:Nat}(hi:i<ps.length):(zR (ps.take (i+1))).getD i false=(zR ps).getD i false:=by
 obtain⟨t,e⟩:=Fz (ps.take (i+1)) (ps.drop (i+1));rw[List.take_append_drop]at e;rw[e,List.getD_eq_getElem?_getD,List.getD_eq_getElem?_getD,List.getElem?_append_left (by rw[vr];simp;omega)]
def Qk(o:List Bool)(p:Pt)(j:Nat):Bool:=p.kind==8||(if p.kind==5 then(p.kids.take j).drop 1 else p.kids.take j).any λk=>o.getD k false
theorem zbY(o:List Bool)(p:Pt):Qk o p 0=(p.kind==8):=by unfold Qk;cases (p.kind==5)<;>simp
theorem D3(o:List Bool)(p:Pt):Qk o p p.kids.length=xK o p:=by unfold Qk xK;rw[List.take_length]
theorem FM(o:List Bool)(p:Pt)(h5:p.kind=5):Qk o p 1=Qk o p 0:=by
 unfold Qk;rw[show(p.kind==5)=true by simp[h5]];cases p.kids<;>simp
theorem Fg(o:List Bool)(p:Pt){j:Nat}(hj:j<p.kids.length)(h:p.kind≠5∨1≤j):Qk o p (j+1)=(Qk o p j||o.getD p.kids[j] false):=by
 unfold Qk;rw[List.take_succ_eq_append_getElem hj];by_cases h5:p.kind=5
 ·have h1:1≤j:=h.resolve_left (λq=>q h5)
  simp only[h5,beq_self_eq_true,if_true];rw[List.drop_append_of_le_length (by rw[List.length_take];omega),List.any_append];simp
 ·rw[show(p.kind==5)=false by simpa using h5]
  simp only[Bool.false_eq_true,if_false];rw[List.any_append];simp[Bool.or_assoc]
structure WfO (ps:List Pt):Prop where
 kids:∀i (h:i<ps.length),∀k ∈ ps[i].kids,k<i
 snap:∀i (h:i<ps.length),ps[i].kind=5→ps[i].kids.length=2
 few:∀i (h:i<ps.length),ps[i].kids.length≤100000
theorem gD{w:World}{A:Option Addr}{C:Nat}{ps:List Pt}(hp:vB w w.heap.size A ps)(hcap:ps.length≤C∧C≤maxLen)(hl:ps.length≤100000)(hwf:WfO ps)(x0 x3:Value)(x1:Value)(x4:Value)(i:Nat)(hi:i<ps.length):Calls Tryz.prog 21 #[.agg #[x0,x1,.slice A ps.length C,x3,x4],.int .i64 (i:Nat)] w λe w'=>e= .returned (.bool ((zR ps).getD i false))∧Below w.heap.size w w':=by
 obtain⟨W1,hW1⟩:∃W1,W1=w.alloc (.cells #[x0,x1,.slice A ps.length C,x3,x4] 32):=⟨_,rfl⟩
 have hb1:Below w.heap.size w W1:=by rw[hW1];exact zl w _
 have S1:zm W1 w.heap.size 32 #[x0,x1,.slice A ps.length C,x3,x4]:=by rw[hW1];exact zm.new w _ _
 have HW:=ze hW1;have HP:=ze (λk (hk:k<ps.length)=>jw hp hk);have HWF:=ze hwf;have HAT:=ze (Hg ps hi);have HSN:=ze (λk (hk:k<ps.length)=>(by rw[List.take_succ_eq_append_getElem hk,xq,vQ hk]:zR (ps.take (k+1))=zR (ps.take k)++ [xK (zR (ps.take k)) (zx ps k)]));have HLE:=ze (λk (hk:k≤ps.length)=>(by rw[vr];simp;omega:(zR (ps.take k)).length=k));have HKD:=ze (λk (hk:k<ps.length)=>(by rw[vQ hk];exact⟨hwf.kids k hk,hwf.snap k hk,hwf.few k hk⟩:(∀j ∈ (zx ps k).kids,j<k)∧((zx ps k).kind=5→(zx ps k).kids.length=2)∧(zx ps k).kids.length≤100000));generalize (zR ps).getD i false=RES at *
 obtain⟨NP,hNP⟩:∃NP,NP=ps.length:=⟨_,rfl⟩
 have HNP:=ze hNP;rw[←hNP]at S1 HW hcap hl ⊢;have hiN:i<NP:=by omega
 obtain⟨hc1,hc2⟩:=hcap;unfold maxLen at hc2;have hsz1:W1.heap.size=w.heap.size+1:=by rw[hW1];simp
 have HZ1:=ze hsz1;clear hW1 hp hwf hNP hsz1 hi;go_enter Tryz.func21,Tryz.ntmps21
 go_wp2
 rw[←HW.out]
 go_loopw [5,6] (λzv zk wr=>∃(k:Nat) (A5:Option Addr) (C5:Nat),zk= .int .i64 (k:Nat)∧k≤i+1∧zv= .slice A5 k C5∧Hid (wr.ownsRow W1.heap.size 4 1 (.slice A5 k C5) k ((zR (ps.take k)).map .bool))∧Below W1.heap.size W1 wr) (λ_ z _=>i+1-(intOf z).toNat)
 case atStart=>exact⟨0,none,0,rfl,by omega,rfl,ze ⟨rfl,.inl ⟨rfl,rfl⟩⟩,Below.refl _ _⟩
 case round =>
  obtain⟨k,A5,C5,rfl,hk,rfl,HR,Br⟩:=hrel;have T1:=S1.below Br S1.lt;have c2:=T1.cell 2;have cl:=T1.lt;simp only[qH,qG,qI]at c2;by_cases hlt:k≤i
  ·have hkN:k<NP:=by omega
   have hkp:k<ps.length:=by rw[←HNP.out];exact hkN
   have hki:(k:Int)≤(i:Int):=by omega
   obtain⟨g,off,Ak,Ck,A2,L2,C2,A3,L3,C3,rfl,hg1,hg2,hI,hKC,hCk,hcell⟩:=HP.out k hkp;obtain⟨hkids,hsnap,hfew⟩:=HKD.out k hkp;have HSN1:=ze (HSN.out k hkp);have HLE1:=ze (HLE.out k (by omega));have hb0r:Below w.heap.size w wr:=hb1.trans (Br.mono hb1.size);have hce:∀j,j<8→wr.cell? ⟨g,off+k*8+j,none⟩=_:=λj hj=>(hb0r.cell (p:=⟨g,off+k*8+j,none⟩) hg2).trans (hcell j hj)
   have HAC0:=ze (zbY (zR (ps.take k)) (zx ps k));have HACA:=ze (D3 (zR (ps.take k)) (zx ps k));have HACS:=ze (FM (zR (ps.take k)) (zx ps k));have HACN:=ze (λj hj h=>Fg (zR (ps.take k)) (zx ps k) (j:=j) hj h);generalize zx ps k=p at *;have hI2:=hI.keep (w':=wr) (Q:=λ_=>True) hb0r.size (λq hq hP=>⟨hb0r.block q hq,trivial⟩);have hgr:g<wr.heap.size:=Nat.lt_of_lt_of_le hg2 hb0r.size;generalize zR (ps.take k)=os at *
   obtain⟨K,hK⟩:∃K,K=p.kind:=⟨_,rfl⟩
   obtain⟨KL,hKL⟩:∃KL,KL=p.kids.length:=⟨_,rfl⟩
   have HK:=ze hK;have HKL:=ze hKL;rw[←hK]at hce hsnap HAC0;rw[←hKL]at hce hKC hsnap hfew;generalize p.size=S at *;generalize p.dev=D at *;generalize p.first=F at *;generalize p.chunk=Ch at *
   obtain⟨W4,hW4⟩:∃W4,W4=wr.alloc (.cells #[.int .i64 (K:Nat),.int .i64 (S:Nat),.slice Ak KL Ck,.int .i64 (D:Nat),.int .i64 (F:Nat),.int .i64 (Ch:Nat),.slice A2 L2 C2,.slice A3 L3 C3] 65):=⟨_,rfl⟩
   have hb4:Below wr.heap.size wr W4:=by rw[hW4];exact zl wr _
   have P4:zm W4 wr.heap.size 65 #[.int .i64 (K:Nat),.int .i64 (S:Nat),.slice Ak KL Ck,.int .i64 (D:Nat),.int .i64 (F:Nat),.int .i64 (Ch:Nat),.slice A2 L2 C2,.slice A3 L3 C3]:=by rw[hW4];exact zm.new wr _ _
   have HW4:=ze hW4;have p0:=P4.cell 0;have pl:=P4.lt;simp only[List.getElem?_toArray,List.getElem?_cons_zero]at p0;rw[hW4]at p0 pl;have hint:(k:Int)<(NP:Int):=by omega
   clear hK hKL hcell hI hW4 hkp
   go_wp2_with (first
    |((refine zi 18 rfl ?_)
      (refine zd (some 18) _ rfl (by rfl) (zE _ _ rfl g off k NP C rfl rfl hkN wr) ?_))
    |((refine zi 19 rfl ?_)
      (refine zd (some 19) (.agg #[.int .i64 (K:Nat),.int .i64 (S:Nat),.slice Ak KL Ck,.int .i64 (D:Nat),.int .i64 (F:Nat),.int .i64 (Ch:Nat),.slice A2 L2 C2,.slice A3 L3 C3]) rfl (by rfl) (qe _ rfl g (off+k*8) rfl wr hce) ?_))
    |((refine zi 22 rfl ?_)
      (refine zd (some 22) (.bool (Qk os p 0)) rfl (by rfl) (Je _ _ rfl K 8 rfl rfl _ HAC0.out.symm _) ?_)))
   rw[←HW4.out];clear p0 pl;have HBr4:=ze (Br.trans (hb4.mono Br.size))
   obtain⟨wo,hwo⟩:∃x,x=wr:=⟨_,rfl⟩
   subst hwo
   go_loopw [8,9] (λzb zj wk=>∃(j:Nat) (b:Bool),zb= .bool b∧Hid (b=Qk os p j)∧zj= .int .i64 (j:Nat)∧j≤KL∧Below W4.heap.size W4 wk) (λ_ z _=>KL-(intOf z).toNat)
   case atStart=>exact⟨0,_,rfl,ze rfl,rfl,Nat.zero_le _,Below.refl _ _⟩
   case round =>
    obtain⟨j,b,rfl,HB,rfl,hj,Bk⟩:=hrel;have Q4:=P4.below Bk P4.lt;have q0:=Q4.cell 0;have q2:=Q4.cell 2;have ql:=Q4.lt;simp only[qH,qG,qI]at q0 q2;by_cases hjl:j<KL
    ·have hji:(j:Int)<(KL:Int):=by omega
     have hjp:j<p.kids.length:=by rw[←HKL.out];exact hjl
     obtain⟨kb,ko,rfl,hkb,-,hkc⟩:=hI2.resolve_left (by intro e;rw[e]at hjp;cases hjp);have kc:=za Bk (za hb4 (hkc j hjp));have hkk:=hkids _ (List.getElem_mem hjp);have HS1:=ze (HACN.out j hjp);generalize p.kids[j]=kid at *;have hrow4:=zI (w':=wr) HR.out (λg' o' e ho=>(Bk.block g' (Nat.lt_of_lt_of_le (Array.getElem?_eq_some_iff.1 ho).1 hb4.size)).trans ((hb4.block g' (Array.getElem?_eq_some_iff.1 ho).1).trans ho));obtain⟨bo,bC,eb,hb5,hb6,hb7,-,hbc⟩:=xl hrow4 (by omega:0<k);cases eb
     have oc:wr.cell? ⟨bo,kid,none⟩=some (.bool (os.getD kid false)):=by
      rw[hbc kid (by omega),List.getElem?_map,List.getElem?_eq_getElem (by rw[HLE1.out];exact hkk),List.getD_eq_getElem?_getD,List.getElem?_eq_getElem (by rw[HLE1.out];exact hkk)];rfl
     have hkC:k≤C5:=hb5;unfold maxLen at hb6;clear hrow4 hbc hkc;generalize os.getD kid false=ob at *;by_cases h5:K=5
     ·have n5:(K != 5)=false:=by rw[h5];decide
      have hKL2:KL≤2:=Nat.le_of_eq (hsnap h5);have H5:=ze h5;clear h5;by_cases hj1:j=1
      ·have e1:(j==1)=true:=by rw[hj1];rfl
       have HJ1:=ze hj1;clear hj1;cases b with
       |true =>
        have HS2:=ze (show true=Qk os p (j+1) by rw[HS1.out (.inr (by rw[HJ1.out];exact Nat.le_refl _)),←HB.out];rfl);clear HS1
        go_wp2_with (first
         |((refine zi 32 rfl ?_)
           (refine zd (some 32) (.bool false) rfl (by rfl) (Jt _ _ rfl K 5 rfl rfl false n5 _) ?_))
         |((refine zi 35 rfl ?_)
           (refine zd (some 35) (.bool true) rfl (by rfl) (Z2 _ _ rfl j 1 rfl rfl true e1 _) ?_)))
        go_roundw
        case rel=>exact⟨j+1,true,rfl,HS2,by go_num,by omega,Bk⟩
        case measure=>simp[intOf];omega
       |false =>
        have HS2:=ze (show ob=Qk os p (j+1) by rw[HS1.out (.inr (by rw[HJ1.out];exact Nat.le_refl _)),←HB.out];rfl);clear HS1
        go_wp2_with (first
         |((refine zi 32 rfl ?_)
           (refine zd (some 32) (.bool false) rfl (by rfl) (Jt _ _ rfl K 5 rfl rfl false n5 _) ?_))
         |((refine zi 35 rfl ?_)
           (refine zd (some 35) (.bool true) rfl (by rfl) (Z2 _ _ rfl j 1 rfl rfl true e1 _) ?_))
         |((refine zi 43 rfl ?_)
           (refine zd (some 43) _ rfl (by rfl) (qh _ _ rfl kb ko j KL Ck rfl rfl hjl _) ?_))
         |((refine zi 45 rfl ?_)
           (refine zd (some 45) _ rfl (by rfl) (xU _ _ rfl bo 0 kid k C5 rfl rfl hkk _) ?_)))
        go_roundw
        case rel=>exact⟨j+1,ob,rfl,HS2,by go_num,by omega,Bk⟩
        case measure=>simp[intOf];omega
      ·obtain rfl:j=0:=by omega
       have HS2:=ze (show b=Qk os p (0+1) by
        rw[HB.out]
        exact(HACS.out (by rw[←HK.out];exact H5.out)).symm)
       clear HS1
       go_wp2_with (first
        |((refine zi 32 rfl ?_)
          (refine zd (some 32) (.bool false) rfl (by rfl) (Jt _ _ rfl K 5 rfl rfl false n5 _) ?_)))
       go_roundw
       case rel=>exact⟨0+1,b,rfl,HS2,by go_num,by omega,Bk⟩
       case measure=>simp[intOf];omega
     ·have n5:(K != 5)=true:=by simpa using h5
      cases b with
      |true =>
       have HS2:=ze (show true=Qk os p (j+1) by rw[HS1.out (.inl (by rw[←HK.out];exact h5)),←HB.out];rfl);clear HS1
       go_wp2_with (first
        |((refine zi 32 rfl ?_)
          (refine zd (some 32) (.bool true) rfl (by rfl) (Jt _ _ rfl K 5 rfl rfl true n5 _) ?_)))
       go_roundw
       case rel=>exact⟨j+1,true,rfl,HS2,by go_num,by omega,Bk⟩
       case measure=>simp[intOf];omega
      |false =>
       have HS2:=ze (show ob=Qk os p (j+1) by rw[HS1.out (.inl (by rw[←HK.out];exact h5)),←HB.out];rfl);clear HS1
       go_wp2_with (first
        |((refine zi 32 rfl ?_)
          (refine zd (some 32) (.bool true) rfl (by rfl) (Jt _ _ rfl K 5 rfl rfl true n5 _) ?_))
        |((refine zi 43 rfl ?_)
          (refine zd (some 43) _ rfl (by rfl) (qh _ _ rfl kb ko j KL Ck rfl rfl hjl _) ?_))
        |((refine zi 45 rfl ?_)
          (refine zd (some 45) _ rfl (by rfl) (xU _ _ rfl bo 0 kid k C5 rfl rfl hkk _) ?_)))
       go_roundw
       case rel=>exact⟨j+1,ob,rfl,HS2,by go_num,by omega,Bk⟩
       case measure=>simp[intOf];omega
    ·obtain rfl:KL=j:=by omega
     have hB5:b=xK os p:=by rw[HB.out,HKL.out];exact HACA.out
     have HB5:=ze hB5;have hb5:Below wo.heap.size wo (wr.alloc (.cells #[.bool b] 4)):=(hb4.trans (Bk.mono hb4.size)).alloc (by have:=hb4.size;have:=Bk.size;omega) _;have hrow5:=zI (w':=wr.alloc (.cells #[.bool b] 4)) HR.out (λg' o' e ho=>(hb5.block g' (Array.getElem?_eq_some_iff.1 ho).1).trans ho);obtain⟨A6,C6,w6,hr6,hrow6,hg6,hw6⟩:=zX XU (ty:=54) (wr.alloc (.cells #[.bool b] 4)) W1.heap.size k _ _ hrow5 (by have:=hb5.size;have:=Br.size;omega) (by omega) [.bool b] rfl (by intro u hu;simp at hu;subst hu;rfl) wr.heap.size (zm.new_at rfl)
     have HF:=ze (show w6.ownsRow W1.heap.size 4 1 (.slice A6 (k+1) C6) (k+1) ((zR (ps.take (k+1))).map .bool) by
      rw[HSN1.out,List.map_append,←hB5];exact hrow6)
     have HBf:=ze (show Below W1.heap.size W1 w6 from QB hrow5 (hg6) (by have:=hb5.size;have:=Br.size;omega) |> λq=>(HBr4.out.trans (Bk.mono HBr4.out.size) |>.alloc (by have:=HBr4.out.size;have:=Bk.size;omega) _).trans q);clear hB5 hrow5 hrow6 hg6 hw6 hb5
     go_wp2_with (first
      |((refine zi 51 rfl ?_)
        (refine jP (some 51) (.slice A6 (k+1) C6) w6 rfl (by rfl) (zW _ _ rfl rfl rfl hr6) ?_)))
     go_roundw
     case rel=>exact⟨k+1,A6,C6,by go_num,by omega,rfl,HF,HBf.out⟩
     case measure=>simp[intOf];omega
  ·obtain rfl:k=i+1:=by omega
   have hki:¬(((i+1:Nat):Int)≤(i:Int)):=by omega
   have hil:i<(zR (ps.take (i+1))).length:=by rw[HLE.out (i+1) (by rw[←HNP.out];omega)];omega
   obtain⟨bo,bC,eb,hb5,hb6,hb7,-,hbc⟩:=xl HR.out (by omega);cases eb
   have oc:wr.cell? ⟨bo,i,none⟩=some (.bool RES):=by
    rw[hbc i (by omega),List.getElem?_map,List.getElem?_eq_getElem hil];have:=HAT.out;rw[List.getD_eq_getElem?_getD,List.getElem?_eq_getElem hil]at this;rw[←this];rfl
   unfold maxLen at hb6;clear hbc HR hil
   go_wp2_with (first
    |((refine zi 54 rfl ?_)
      (refine zd (some 54) _ rfl (by rfl) (xU _ _ rfl bo 0 i (i+1) C5 rfl rfl (by omega) _) ?_)))
   go_ret
   exact⟨rfl,hb1.trans (Br.mono hb1.size)⟩
end
section
open Go.ChangeShapes Go.WideShapes Go.ChangeAt Go.RowKit Go.MapKept
variable {E:Nat→Prop}
theorem zZ.pts{w:World}{cb:Nat}{V:RV}{k:Rk}(h:zZ E w cb V k)(hn:0<k.parts.length):∃g off C,V.vp= .slice (some ⟨g,off,none⟩) k.parts.length C∧k.parts.length≤C∧C≤maxLen∧g<w.heap.size∧uk w g off k.parts∧vB w w.heap.size (some ⟨g,off,none⟩) k.parts:=by
 obtain⟨us,e1,hp,hin⟩:=h.prts;obtain⟨g,C,e,h1,h2,h3,_,h4⟩:=xl hp hn;refine⟨g,0,C,e,h1,h2,h3,λj hj=>?_,λi hi=>⟨g,0,us[i]'(by omega),rfl,h3,h3,λj hj=>?_,(hin i hi (by omega)).keep (Nat.le_refl _) (λk hk _=>⟨rfl,hk⟩)⟩⟩
 ·rw[show 0+j*8+1=j*8+1 by omega,h4 (j*8+1) (by omega),Qu _ us e1 j hj 1 (by decide),um _ hj]
  rfl
 ·rw[Nat.zero_add,h4 _ (by omega),Qu _ us e1 i hi j hj]
theorem zZ.vp_sl{w:World}{cb:Nat}{V:RV}{k:Rk}(h:zZ E w cb V k):∃A C,V.vp= .slice A k.parts.length C:=by
 obtain⟨us,e1,hp,hin⟩:=h.prts;exact xR hp
def VJ(ps:List Pt)(d:Nat):Nat:=match ps.findIdx? (λp=>p.kind==1&&p.dev==d)with
 |none=>0
 |some i=>i
theorem FC{ps:List Pt}{d:Nat}(h:∀j (q:j<ps.length),(ps[j].kind==1&&ps[j].dev==d)=false):VJ ps d=0:=by
 unfold VJ
 have :ps.findIdx? (λp=>p.kind==1&&p.dev==d)=none:=by
  rw[List.findIdx?_eq_none_iff];intro x hx;obtain⟨j,hj,rfl⟩:=List.getElem_of_mem hx;exact h j hj
 rw[this]
theorem Xg{ps:List Pt}{d i:Nat}(hi:i<ps.length)(h:∀j (q:j<i),((ps[j]'(Nat.lt_trans q hi)).kind==1&&(ps[j]'(Nat.lt_trans q hi)).dev==d)=false)(e:(ps[i].kind==1&&ps[i].dev==d)=true):VJ ps d=i:=by
 unfold VJ
 have :ps.findIdx? (λp=>p.kind==1&&p.dev==d)=some i:=by
  rw[List.findIdx?_eq_some_iff_getElem];exact⟨hi,e,λj hj=>by rw[h j hj];decide⟩
 rw[this]
theorem gL{w:World}{cb:Nat}{V:RV}{k:Rk}(h:zZ E w cb V k)(d:Nat):Calls Tryz.prog 41 #[.pointer (some ⟨cb,0,none⟩),.int .i64 (d:Nat)] w λe w'=>e= .returned (.int .i64 (VJ k.parts d:Nat))∧w'=w:=by
 obtain⟨A,C,ev⟩:=h.vp_sl;obtain⟨-,c2,-,-⟩:=qg h;have lc:=h.has.lt;have hfew:k.parts.length≤100000:=h.few.1;rw[ev]at c2
 obtain⟨NP,hNP⟩:∃NP,NP=k.parts.length:=⟨_,rfl⟩
 have HNP:=ze hNP
 have HT:=ze (λ(hn:0<k.parts.length)=>by
  obtain⟨g,off,C',e,h1,h2,h3,-,h4⟩:=h.pts hn;rw[ev]at e
  exact(⟨g,off,by cases e;rfl,h3,λi (hi:i<k.parts.length)=>by
   obtain⟨g',off',u,e',_,_,hc,_⟩:=h4 i hi;cases e'
   exact⟨hc 0 (by decide),hc 3 (by decide)⟩⟩:∃g off,A=some ⟨g,off,none⟩∧g<w.heap.size∧∀i (hi:i<k.parts.length),w.cell? ⟨g,off+i*8,none⟩=some (.int .i64 (k.parts[i].kind:Nat))∧w.cell? ⟨g,off+i*8+3,none⟩=some (.int .i64 (k.parts[i].dev:Nat))))
 have HN:=ze (λq=>FC (ps:=k.parts) (d:=d) q);have HS:=ze (λ(i:Nat) (hi:i<k.parts.length) q e=>Xg (ps:=k.parts) (d:=d) hi q e);rw[←hNP]at c2 hfew;clear h hNP ev;go_enter Tryz.func41,Tryz.ntmps41
 go_wp2
 go_loopw [5] (λz wr=>∃(i:Nat),z= .int .i64 (i:Nat)∧i≤NP∧wr=w∧Hid (∀j (q:j<i) (q2:j<k.parts.length),(k.parts[j].kind==1&&k.parts[j].dev==d)=false)) (λz _=>NP-(intOf z).toNat)
 case atStart=>exact⟨0,rfl,Nat.zero_le _,rfl,ze (λj q=>absurd q (Nat.not_lt_zero _))⟩
 case round =>
  obtain⟨i,rfl,hi,rfl,HA⟩:=hrel;by_cases hlt:i<NP
  ·have hil:i<k.parts.length:=by rw[←HNP.out];exact hlt
   have hint:(i:Int)<(NP:Int):=by omega
   obtain⟨g,off,rfl,hg,hat⟩:=HT.out (by omega);obtain⟨q0,q3⟩:=hat i hil
   have HB:=ze (λ(hq:(k.parts[i].kind==1&&k.parts[i].dev==d)=false) j (q:j<i+1) (q2:j<k.parts.length)=>(by
    by_cases e:j<i
    ·exact HA.out j e q2
    ·obtain rfl:j=i:=by omega
     exact hq:(k.parts[j].kind==1&&k.parts[j].dev==d)=false))
   have HF:=ze (λe=>HS.out i hil (λj q=>HA.out j q (by omega)) e);clear hat;generalize k.parts[i].kind=K at *;generalize k.parts[i].dev=D at *;cases k1:(K==1)with
   |false =>
    have HB2:=ze (HB.out (by rw[k1];rfl));clear HB HF
    go_wp2_with (first
     |((refine zi 22 rfl ?_)
       (refine zd (some 22) _ rfl (by rfl) (zE _ _ rfl g off i NP C rfl rfl hlt _) ?_))
     |((refine zi 25 rfl ?_)
       (refine zd (some 25) (.bool false) rfl (by rfl) (Je _ _ rfl K 1 rfl rfl false k1 _) ?_)))
    go_roundw
    case rel=>exact⟨i+1,by go_num,by omega,by first |trivial|rfl,HB2⟩
    case measure=>simp[intOf];omega
   |true =>
    cases k2:(D==d)with
    |false =>
     have HB2:=ze (HB.out (by rw[k1,k2];rfl));clear HB HF
     go_wp2_with (first
      |((refine zi 22 rfl ?_)
        (refine zd (some 22) _ rfl (by rfl) (zE _ _ rfl g off i NP C rfl rfl hlt _) ?_))
      |((refine zi 25 rfl ?_)
        (refine zd (some 25) (.bool true) rfl (by rfl) (Je _ _ rfl K 1 rfl rfl true k1 _) ?_))
      |((refine zi 33 rfl ?_)
        (refine zd (some 33) _ rfl (by rfl) (zE _ _ rfl g off i NP C rfl rfl hlt _) ?_))
      |((refine zi 37 rfl ?_)
        (refine zd (some 37) (.bool false) rfl (by rfl) (Z2 _ _ rfl D d rfl rfl false k2 _) ?_)))
     go_roundw
     case rel=>exact⟨i+1,by go_num,by omega,by first |trivial|rfl,HB2⟩
     case measure=>simp[intOf];omega
    |true =>
     have HF2:=ze (HF.out (by rw[k1,k2];rfl));clear HB HF
     go_wp2_with (first
      |((refine zi 22 rfl ?_)
        (refine zd (some 22) _ rfl (by rfl) (zE _ _ rfl g off i NP C rfl rfl hlt _) ?_))
      |((refine zi 25 rfl ?_)
        (refine zd (some 25) (.bool true) rfl (by rfl) (Je _ _ rfl K 1 rfl rfl true k1 _) ?_))
      |((refine zi 33 rfl ?_)
        (refine zd (some 33) _ rfl (by rfl) (zE _ _ rfl g off i NP C rfl rfl hlt _) ?_))
      |((refine zi 37 rfl ?_)
        (refine zd (some 37) (.bool true) rfl (by rfl) (Z2 _ _ rfl D d rfl rfl true k2 _) ?_)))
     go_ret
     rw[HF2.out];exact⟨by first |rfl|trivial,rfl⟩
  ·obtain rfl:NP=i:=by omega
   have HF:=ze (HN.out (λj q=>HA.out j (by rw[HNP.out];exact q) q))
   go_wp2
   go_ret
   rw[HF.out];exact⟨by first |rfl|trivial,rfl⟩
end
end Go.Proofs.YteaddcdpgcgggaaGreatDoor
