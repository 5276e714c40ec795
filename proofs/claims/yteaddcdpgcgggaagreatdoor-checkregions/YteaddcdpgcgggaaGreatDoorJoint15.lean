import Derived.Test.YteaddcdpgcgggaaGreatDoorJoint14
import Derived.Test.YteaddcdpgcgggaaGreatDoorJoint00
import Derived.Test.YteaddcdpgcgggaaGreatDoorJoint13
namespace Go.Proofs.YteaddcdpgcgggaaGreatDoor
set_option linter.unusedVariables false
set_option maxRecDepth 100000
set_option maxHeartbeats 40000000
section
open Go.ChangeShapes Go.WideShapes Go.ChangeAt Go.RowKit Go.MapKept
variable {E:Nat→Prop}
structure yE (E:Nat→Prop) (w:World) (cb:Nat) (V:RV) (k:Rk) (pb:Nat) (p:Pt) (bk ok Ck:Nat) (u2 u3:Value):Prop where
 ck:zZ E w cb V k
 hpb:zm w pb 65 (Q9 p (.slice (some ⟨bk,ok,none⟩) p.kids.length Ck,u2,u3))
 npb:¬V.own cb pb∧¬E pb
 hbk:bk<w.heap.size∧¬V.own cb bk∧bk≠pb
 cells:∀j (h:j<p.kids.length),w.cell? ⟨bk,ok+j,none⟩=some (.int .i64 (p.kids[j]:Nat))
 pos:0<p.kids.length
 few:p.kids.length≤100000
 cap:p.kids.length≤Ck∧Ck≤maxLen
 kid:∀j ∈ p.kids,xB k.parts j
def fF(E:Nat→Prop)(w:World)(cb:Nat)(V:RV)(pb:Nat)(bk ok Ck:Nat)(R:Pt×Rk)(e:Ending)(w':World):Prop:=e= .returned (.tuple #[])∧zZ E w' cb V R.2∧Sp (λg=>V.own cb g∨g=pb) w (λg=>V.own cb g∨g=pb) w'∧∃u2 u3,zm w' pb 65 (Q9 R.1 (.slice (some ⟨bk,ok,none⟩) R.1.kids.length Ck,u2,u3))∧(∃A C,u2= .slice A R.1.key.length C∧R.1.key.length≤C∧C≤maxLen∧jK w' (λg=>¬V.own cb g∧E g) A R.1.key)∧(∃A C,u3= .slice A R.1.root.length C∧R.1.root.length≤C∧C≤maxLen∧jK w' (λg=>¬V.own cb g∧E g) A R.1.root)
theorem yE.step{w w':World}{cb:Nat}{V:RV}{k k':Rk}{pb:Nat}{p:Pt}{bk ok Ck:Nat}{u2 u3:Value}(h:yE E w cb V k pb p bk ok Ck u2 u3)(hk:zZ E w' cb V k')(s:Sp (V.own cb) w (V.own cb) w')(hp:k'.parts=k.parts):yE E w' cb V k' pb p bk ok Ck u2 u3:=
 ⟨hk,h.hpb.onl s.only h.npb.1,h.npb,⟨Nat.lt_of_lt_of_le h.hbk.1 s.size,h.hbk.2⟩,λj hj=>(World.cell?_of_block (s.only.block bk h.hbk.1 h.hbk.2.1)).trans (h.cells j hj),h.pos,h.few,h.cap,by rw[hp];exact h.kid⟩
theorem yE.keep{w w':World}{cb:Nat}{V:RV}{k:Rk}{pb:Nat}{p:Pt}{bk ok Ck:Nat}{u2 u3:Value}(h:yE E w cb V k pb p bk ok Ck u2 u3)(hb:Below w.heap.size w w'):yE E w' cb V k pb p bk ok Ck u2 u3:=h.step (h.ck.keep hb) (.of hb) rfl
theorem yM{F:Nat→Prop}{pb:Nat}{w w':World}(s:Sp F w F w'):Sp (λg=>F g∨g=pb) w (λg=>F g∨g=pb) w':=⟨s.only.mono λk _ h=> .inl h,λk h=> .inl h⟩
theorem jS{F:Nat→Prop}{pb:Nat}{w w':World}(s:Sp (λg=>F g∨g=pb) w (λg=>F g∨g=pb) w')(j:Nat)(v:Value):Sp (λg=>F g∨g=pb) w (λg=>F g∨g=pb) (w'.setCell ⟨pb,j,none⟩ v):=⟨s.only.set (.inl (.inr rfl)) v,s.new⟩
theorem yE.other{w:World}{cb:Nat}{V:RV}{k:Rk}{pb:Nat}(h:zZ E w cb V k)(hn:¬V.own cb pb∧¬E pb)(j:Nat)(v:Value):zZ E (w.setCell ⟨pb,j,none⟩ v) cb V k:=h.other (q:=⟨pb,j,none⟩) hn.1 hn.2 v
theorem xJ(w:World)(P:Nat→Prop):∃A C,Value.slice none 0 0= .slice A ([]:List UInt8).length C∧([]:List UInt8).length≤C∧C≤maxLen∧jK w P A []:=⟨none,0,rfl,Nat.le_refl _,by unfold maxLen;omega,.inl rfl⟩
def vF(ps:List Pt)(ks:List Nat)(j:Nat):Nat:=((ks.take j).map (sz ps)).sum
def VX(ps:List Pt)(ks:List Nat)(s j:Nat):Bool:=(ks.take j).all λx=>sz ps x==s
theorem JT(ps:List Pt)(ks:List Nat){j:Nat}(h:j<ks.length):vF ps ks (j+1)=vF ps ks j+sz ps ks[j]:=by unfold vF;rw[List.take_succ_eq_append_getElem h,List.map_append,List.sum_append];simp
theorem VH(ps:List Pt)(ks:List Nat)(s:Nat){j:Nat}(h:j<ks.length):VX ps ks s (j+1)=(VX ps ks s j&&(sz ps ks[j]==s)):=by unfold VX;rw[List.take_succ_eq_append_getElem h,List.all_append];simp
theorem za3{ps:List Pt}{ks:List Nat}(hk:∀x ∈ ks,xB ps x):∀j,j≤ks.length→vF ps ks j≤8192*j:=by
 intro j
 induction j with
 |zero=>intro _;simp[vF]
 |succ j ih =>
  intro h;rw[JT ps ks (by omega)];have:=ih (by omega);have:=(hk _ (List.getElem_mem (show j<ks.length by omega))).2.2;omega
theorem Hp{o:Oper}{a:Act}(x:Operand)(ho:o.op= .binOp .gtr 3 x (.const (.int .i64 4)) 3)(p:Nat)(hx:a.eval x= .int .i64 (p:Nat))(w:World):(execOp a.eval o).run Tryz.prog w= .ok (.value (.bool (decide (4<p)))) w:=by
 have e:decide ((4:Int)<(p:Int))=decide (4<p):=by rw[Bool.eq_iff_iff];simp;omega
 unfold execOp;simp only[ho,hx];rw[←e];go_simp
theorem Jf{o:Oper}{a:Act}(x y:Operand)(ho:o.op= .binOp .gtr 3 x y 3)(p q:Nat)(hx:a.eval x= .int .i64 (p:Nat))(hy:a.eval y= .int .i64 (q:Nat))(c:Bool)(h:decide (q<p)=c)(w:World):(execOp a.eval o).run Tryz.prog w= .ok (.value (.bool c)) w:=by
 have e:decide ((q:Int)<(p:Int))=c:=by rw[←h,Bool.eq_iff_iff];simp
 unfold execOp;simp only[ho,hx,hy];rw[←e];go_simp
theorem Qy{o:Oper}{a:Act}(x y:Operand)(ho:o.op= .binOp .add 3 x y 3)(p q:Nat)(hx:a.eval x= .int .i64 (p:Nat))(hy:a.eval y= .int .i64 (q:Nat))(r:Nat)(h:r=p+q)(hr:r≤1000000000)(w:World):(execOp a.eval o).run Tryz.prog w= .ok (.value (.int .i64 (r:Nat))) w:=by
 have e:((r:Nat):Int)=(p:Int)+(q:Int):=by omega
 unfold execOp;simp only[ho,hx,hy];rw[e];go_simp;exact IntWalk.i64_in _ (by omega)
theorem dY(k:Rk)(n:Nd)(p:Pt)(ho:n.op=qQ)(B:Bool)(hB:(decide (p.kids.length<2)||decide (4<p.kids.length))=B):Ve k n p=({ p with kind:=3,size:=vF k.parts p.kids p.kids.length },zA (zA k B 135 n.a) (decide (8192<vF k.parts p.kids p.kids.length)) 134 n.a):=by
 unfold Ve vF;rw[if_pos ho,hB,List.take_length]
theorem dS(k:Rk)(n:Nd)(p:Pt)(ho:n.op=je)(B:Bool)(hB:(decide (p.kids.length<2)||decide (4<p.kids.length))=B):Ve k n p=({ p with kind:=4 },zA (zA k B 135 n.a) (!VX k.parts p.kids p.size p.kids.length) 134 n.a):=by
 unfold Ve VX;rw[if_neg (by rw[ho];decide),hB,List.take_length]
theorem Dw{w:World}{cb:Nat}{V:RV}{k:Rk}{pb:Nat}{ks:List Nat}{S0 bk ok Ck:Nat}(h:yE E w cb V k pb ⟨0,S0,ks,0,0,0,[],[]⟩ bk ok Ck (.slice none 0 0) (.slice none 0 0))(n:Nd)(A:Option Addr)(C:Nat)(ho:n.op=qQ∨n.op=je):Calls Tryz.prog 69 #[.pointer (some ⟨cb,0,none⟩),.agg (qD n (.slice A n.l.length C)),.pointer (some ⟨pb,0,none⟩)] w (fF E w cb V pb bk ok Ck (Ve k n ⟨0,S0,ks,0,0,0,[],[]⟩)):=by
 obtain⟨W1,hW1⟩:∃W1,W1=w.alloc (.cells #[.string (bs n.op),.string (bs n.s),.int .i64 n.n,.int .i64 n.a,.slice A n.l.length C] 24):=⟨_,rfl⟩
 have hb1:Below w.heap.size w W1:=by rw[hW1];exact zl w _
 have N1:zm W1 w.heap.size 24 #[.string (bs n.op),.string (bs n.s),.int .i64 n.n,.int .i64 n.a,.slice A n.l.length C]:=by rw[hW1];exact zm.new w _ _
 have HN:=ze N1;have HW:=ze hW1;have HB1:=ze hb1;have HPB:=ze (h.keep hb1);have HNB:=ze (show ¬V.own cb w.heap.size from λq=>absurd (h.ck.low q).2 (Nat.lt_irrefl _));have HKD:=ze h.kid;have hks0:0<k.parts.length:=by have:=(h.kid _ (List.getElem_mem h.pos)).1;omega
 obtain⟨g,off,Cp,ev,hCp1,hCp2,hg0,hSz,-⟩:=h.ck.pts hks0;have hfew:=h.ck.few.1
 have HSZA:=ze (λ(B:Bool) w3 (h3:zZ E w3 cb V (zA k B 135 n.a))=>by
  obtain⟨g',off',Cp',ev',_,_,_,hSz',_⟩:=h3.pts (by rw[qt];exact hks0);rw[qt]at ev' hSz';rw[ev]at ev';cases ev'
  exact(hSz':uk w3 g off k.parts))
 have HSL:=ze (λj (hj:j≤ks.length)=>show vF k.parts ks j≤1000000000 from by
  have:=za3 (ps:=k.parts) (ks:=ks) h.kid j hj;have h2:ks.length≤100000:=h.few
  omega)
 have RSC:=ze (λho B hB=>dY k n ⟨0,S0,ks,0,0,0,[],[]⟩ ho B hB);have RSM:=ze (λho B hB=>dS k n ⟨0,S0,ks,0,0,0,[],[]⟩ ho B hB);have HOP:=ze ho;have hot:=zp n.op;have hkc1:=h.cap.1;have hkc2:=h.cap.2;have hkfew:=h.few;have hg:g<W1.heap.size:=Nat.lt_of_lt_of_le hg0 hb1.size;simp only at hkc1 hkfew;unfold maxLen at hkc2 hCp2
 obtain⟨KL,hKL⟩:∃KL,KL=ks.length:=⟨_,rfl⟩
 have HKL:=ze hKL
 obtain⟨NP,hNP⟩:∃NP,NP=k.parts.length:=⟨_,rfl⟩
 have HNP:=ze hNP;have HPC:=ze (show Q9 ⟨0,S0,ks,0,0,0,[],[]⟩ (.slice (some ⟨bk,ok,none⟩) (⟨0,S0,ks,0,0,0,[],[]⟩:Pt).kids.length Ck,.slice none 0 0,.slice none 0 0)= #[.int .i64 (0:Nat),.int .i64 (S0:Nat),.slice (some ⟨bk,ok,none⟩) KL Ck,.int .i64 (0:Nat),.int .i64 (0:Nat),.int .i64 (0:Nat),.slice none 0 0,.slice none 0 0] by rw[hKL];rfl);have HEV:=ze ev;rw[←hNP]at HEV hCp1 hfew;rw[←hKL]at hkc1 hkfew HSL;have p2:=HPB.out.hpb.cell 2;rw[HPC.out]at p2;have n3:=N1.cell 3;simp only[qH,qG,qI]at p2 n3;have nl:=N1.lt;have pl:=HPB.out.hpb.lt
 obtain⟨ps,hps⟩:∃ps,ps=k.parts:=⟨_,rfl⟩
 rw[←hps]at HKD HSZA HSL RSC RSM HNP;clear h hW1 hb1 N1 ev hSz hKL hNP ho hps hg0 hks0;unfold qD;cases b1:decide (KL<2)with
 |true =>
  go_enter Tryz.func69,Tryz.ntmps69
  go_wp2
  rw[←HW.out];refine wp_region_held_drew (S:=λwz=>wz.cell? ⟨pb,2,none⟩=some (.slice (some ⟨bk,ok,none⟩) KL Ck)∧wz.cell? ⟨w.heap.size,3,none⟩=some (.int .i64 n.a)) (by kernel_rfl) (⟨p2,n3⟩) (λhHeld=>?_);refine zw 0 (some 9) (.pointer (some ⟨cb,0,none⟩)) hHeld ?_;simp only[Act.put,zh,zf,zg];refine zw 1 (some 10) (.pointer (some ⟨pb,0,none⟩)) hHeld ?_;simp only[Act.put,zh,zf,zg];refine zw 2 (some 11) (.pointer (some ⟨pb,0,none⟩)) hHeld ?_;simp only[Act.put,zh,zf,zg];refine zw 3 (some 12) (.pointer (some ⟨pb,2,none⟩)) hHeld ?_;simp only[Act.put,zh,zf,zg];refine zD 4 (some 13) (.slice (some ⟨bk,ok,none⟩) KL Ck) rfl rfl (λwz hz=>by obtain⟨z0,z1⟩:=hz;unfold execOp;go_simp) hHeld ?_;simp only[Act.put,zh,zf,zg];refine zD 5 (some 14) (.int .i64 (KL:Nat)) rfl rfl (λwz _=>yF 29 3 Tryz.underlying29 _ rfl _ KL Ck rfl wz) hHeld ?_;simp only[Act.put,zh,zf,zg];refine zD 6 (some 15) (.bool true) rfl rfl (λwz _=>Jl _ _ rfl KL 2 rfl rfl true b1 wz) hHeld ?_;simp only[Act.put,zh,zf,zg];refine zw 7 (some 16) (.bool true) hHeld ?_;simp only[Act.put,zh,zf,zg];refine qO 8 (some 17) rfl rfl (by kernel_rfl) (by kernel_rfl) (by kernel_rfl) (λ_ _ _ h=>h) (by rfl) hHeld ?_;simp only[Act.put,zh,zf,zg];refine qO 9 (some 18) rfl rfl (by kernel_rfl) (by kernel_rfl) (by kernel_rfl) (λ_ _ _ h=>h) (by rfl) hHeld ?_;simp only[Act.put,zh,zf,zg];refine qO 10 (some 19) rfl rfl (by kernel_rfl) (by kernel_rfl) (by kernel_rfl) (λ_ _ _ h=>h) (by rfl) hHeld ?_;simp only[Act.put,zh,zf,zg];refine qO 11 (some 20) rfl rfl (by kernel_rfl) (by kernel_rfl) (by kernel_rfl) (λ_ _ _ h=>h) (by rfl) hHeld ?_;simp only[Act.put,zh,zf,zg];refine qO 12 (some 21) rfl rfl (by kernel_rfl) (by kernel_rfl) (by kernel_rfl) (λ_ _ _ h=>h) (by rfl) hHeld ?_;simp only[Act.put,zh,zf,zg];refine qO 13 (some 22) rfl rfl (by kernel_rfl) (by kernel_rfl) (by kernel_rfl) (λ_ _ _ h=>h) (by rfl) hHeld ?_;simp only[Act.put,zh,zf,zg];refine zw 14 (some 23) (.bool true) hHeld ?_;simp only[Act.put,zh,zf,zg];refine zw 15 (some 24) (.pointer (some ⟨w.heap.size,3,none⟩)) hHeld ?_;simp only[Act.put,zh,zf,zg];refine zD 16 (some 25) (.int .i64 n.a) rfl rfl (λwz hz=>by obtain⟨z0,z1⟩:=hz;unfold execOp;go_simp) hHeld ?_;simp only[Act.put,zh,zf,zg];refine qY 17 (some 26) 19 #[.pointer (some ⟨cb,0,none⟩),.bool true,.int .i64 135,.int .i64 n.a] (by kernel_rfl) rfl rfl (by rfl) (by kernel_rfl) (qk (HPB.out.ck.keep (Below.refl _ W1).drew) true 135 n.a) ?_;rintro e w3 ⟨rfl,h3,s3⟩;have hs3:Sp (V.own cb) W1 (V.own cb) w3:=Sp.left (Below.refl _ W1).drew s3;have Q3:=HPB.out.step h3 hs3 (qt _ _ _ _);have N3:=HN.out.onl hs3.only HNB.out;have p23:=Q3.hpb.cell 2;have n33:=N3.cell 3;simp only[qH,qG,qI]at n33;rw[HPC.out]at p23;simp only[qH,qG,qI]at p23;refine⟨_,rfl,⟨p23,n33⟩,?_⟩;simp only[Act.put,zh,zf,zg];refine wpAnyH_done (by kernel_rfl) ?_ _
  obtain⟨B,hB⟩:∃B,B=true:=⟨_,rfl⟩
  have HBB':=ze (show(decide (ks.length<2)||decide (4<ks.length))=B by rw[hB,←HKL.out];rw[b1];rfl);rw[←hB]at h3 Q3;clear hB p2 n3 h3;obtain⟨-,c23,-,-⟩:=qg Q3.ck;rw[HEV.out]at c23;have hg3:g<w3.heap.size:=Nat.lt_of_lt_of_le hg hs3.size;have hk3:=Q3.cells;have p13:=Q3.hpb.cell 1;rw[HPC.out]at p13;simp only[qH,qG,qI]at p13;have n30:=N3.cell 0;simp only[List.getElem?_toArray,List.getElem?_cons_zero]at n30;have lc3:=Q3.ck.has.lt;have lp3:=Q3.hpb.lt;have ln3:=N3.lt;have lb3:=Q3.hbk.1;have HSZ:=ze (HSZA.out _ _ Q3.ck);have HQ3:=ze Q3;have HN3:=ze N3;have HS3:=ze hs3;clear Q3 N3 hs3
  go_wp2
  go_loopw [6,7,8] (λzs zb zj wr=>∃(j:Nat) (b:Bool),zb= .bool b∧zj= .int .i64 (j:Nat)∧zs= .int .i64 (vF ps ks j:Nat)∧Hid (b=VX ps ks S0 j)∧j≤KL∧Below w3.heap.size w3 wr) (λ_ _ z _=>KL-(intOf z).toNat)
  case atStart=>exact⟨0,true,rfl,rfl,rfl,ze rfl,Nat.zero_le _,Below.refl _ _⟩
  case round =>
   obtain⟨j,b,rfl,rfl,rfl,HB,hj,Br⟩:=hrel;have c2r:=za Br c23;have p2r:=za Br p23;have p1r:=za Br p13;have c2l:=Nat.lt_of_lt_of_le lc3 Br.size;have p2l:=Nat.lt_of_lt_of_le lp3 Br.size;by_cases hjl:j<KL
   ·have hji:(j:Int)<(KL:Int):=by omega
    have hjk:j<ks.length:=by rw[←HKL.out];exact hjl
    have kc:=za Br (hk3 j hjk);obtain⟨hkn',hz1,hz2⟩:=HKD.out _ (List.getElem_mem hjk);have hkn:ks[j]<NP:=by rw[HNP.out];exact hkn'
    have zc:=za Br (HSZ.out _ hkn');have HS:=ze (JT ps ks hjk);have HSM:=ze (VH ps ks S0 hjk);have HSB:=ze (HSL.out (j+1) (by omega));generalize ks[j]=kid at *;generalize sz ps kid=Z at *;clear hk3 hkn';cases b with
    |true =>
     go_wp2
     refine wp_region_held_drew (S:=λwz=>Below wr.heap.size wr wz) (by kernel_rfl) ((Below.refl _ wr).drew) (λhHeld=>?_);refine zw 0 (some 36) (.int .i64 (vF ps ks j:Nat)) hHeld ?_;simp only[Act.put,zh,zf,zg];refine zw 1 (some 37) (.pointer (some ⟨cb,0,none⟩)) hHeld ?_;simp only[Act.put,zh,zf,zg];refine zw 2 (some 38) (.pointer (some ⟨cb,0,none⟩)) hHeld ?_;simp only[Act.put,zh,zf,zg];refine zw 3 (some 39) (.pointer (some ⟨cb,0,none⟩)) hHeld ?_;simp only[Act.put,zh,zf,zg];refine zw 4 (some 40) (.pointer (some ⟨cb,2,none⟩)) hHeld ?_;simp only[Act.put,zh,zf,zg];refine zD 5 (some 41) (.slice (some ⟨g,off,none⟩) NP Cp) rfl rfl (λwz hz=>by have z0:=za hz c2r;unfold execOp;go_simp) hHeld ?_;simp only[Act.put,zh,zf,zg];refine zw 6 (some 42) (.pointer (some ⟨pb,0,none⟩)) hHeld ?_;simp only[Act.put,zh,zf,zg];refine zw 7 (some 43) (.pointer (some ⟨pb,0,none⟩)) hHeld ?_;simp only[Act.put,zh,zf,zg];refine zw 8 (some 44) (.pointer (some ⟨pb,2,none⟩)) hHeld ?_;simp only[Act.put,zh,zf,zg];refine zD 9 (some 45) (.slice (some ⟨bk,ok,none⟩) KL Ck) rfl rfl (λwz hz=>by have z0:=za hz p2r;unfold execOp;go_simp) hHeld ?_;simp only[Act.put,zh,zf,zg];refine zw 10 (some 46) (.int .i64 (j:Nat)) hHeld ?_;simp only[Act.put,zh,zf,zg];refine zD 11 (some 47) (.pointer (some ⟨bk,ok+j,none⟩)) rfl rfl (λwz _=>qh _ _ rfl bk ok j KL Ck rfl rfl hjl wz) hHeld ?_;simp only[Act.put,zh,zf,zg];refine zD 12 (some 48) (.int .i64 (kid:Nat)) rfl rfl (λwz hz=>by have z0:=za hz kc;unfold execOp;go_simp) hHeld ?_;simp only[Act.put,zh,zf,zg];refine zD 13 (some 49) (.pointer (some ⟨g,off+kid*8,none⟩)) rfl rfl (λwz _=>zE _ _ rfl g off kid NP Cp rfl rfl hkn wz) hHeld ?_;simp only[Act.put,zh,zf,zg];refine zw 14 (some 50) (.pointer (some ⟨g,off+kid*8+1,none⟩)) hHeld ?_;simp only[Act.put,zh,zf,zg];refine zD 15 (some 51) (.int .i64 (Z:Nat)) rfl rfl (λwz hz=>by have z0:=za hz zc;unfold execOp;go_simp) hHeld ?_;simp only[Act.put,zh,zf,zg];refine zD 16 (some 52) (.int .i64 (vF ps ks (j+1):Nat)) rfl rfl (λwz _=>Qy _ _ rfl (vF ps ks j) Z rfl rfl _ HS.out HSB.out wz) hHeld ?_;simp only[Act.put,zh,zf,zg];refine zw 17 (some 6) (.int .i64 (vF ps ks (j+1):Nat)) hHeld ?_;simp only[Act.put,zh,zf,zg];refine wpAnyH_done (by kernel_rfl) ?_ _;have hbz:Below wr.heap.size wr wr.drew:=(Below.refl _ wr).drew;replace c2r:=za hbz c2r;replace p2r:=za hbz p2r;replace p1r:=za hbz p1r;replace kc:=za hbz kc;replace zc:=za hbz zc;have hBz:=Br.trans (hbz.mono Br.size);clear hHeld Br c2l p2l hbz;generalize wr.drew=wr at *
     go_wp2
     refine wp_region_held_drew (S:=λwz=>Below wr.heap.size wr wz) (by kernel_rfl) ((Below.refl _ wr).drew) (λhHeld=>?_);refine zw 0 (some 53) (.bool true) hHeld ?_;simp only[Act.put,zh,zf,zg];refine zw 1 (some 54) (.bool true) hHeld ?_;simp only[Act.put,zh,zf,zg];refine zw 2 (some 55) (.pointer (some ⟨cb,0,none⟩)) hHeld ?_;simp only[Act.put,zh,zf,zg];refine zw 3 (some 56) (.pointer (some ⟨cb,0,none⟩)) hHeld ?_;simp only[Act.put,zh,zf,zg];refine zw 4 (some 57) (.pointer (some ⟨cb,0,none⟩)) hHeld ?_;simp only[Act.put,zh,zf,zg];refine zw 5 (some 58) (.pointer (some ⟨cb,2,none⟩)) hHeld ?_;simp only[Act.put,zh,zf,zg];refine zD 6 (some 59) (.slice (some ⟨g,off,none⟩) NP Cp) rfl rfl (λwz hz=>by have z0:=za hz c2r;unfold execOp;go_simp) hHeld ?_;simp only[Act.put,zh,zf,zg];refine zw 7 (some 60) (.pointer (some ⟨pb,0,none⟩)) hHeld ?_;simp only[Act.put,zh,zf,zg];refine zw 8 (some 61) (.pointer (some ⟨pb,0,none⟩)) hHeld ?_;simp only[Act.put,zh,zf,zg];refine zw 9 (some 62) (.pointer (some ⟨pb,2,none⟩)) hHeld ?_;simp only[Act.put,zh,zf,zg];refine zD 10 (some 63) (.slice (some ⟨bk,ok,none⟩) KL Ck) rfl rfl (λwz hz=>by have z0:=za hz p2r;unfold execOp;go_simp) hHeld ?_;simp only[Act.put,zh,zf,zg];refine zw 11 (some 64) (.int .i64 (j:Nat)) hHeld ?_;simp only[Act.put,zh,zf,zg];refine zD 12 (some 65) (.pointer (some ⟨bk,ok+j,none⟩)) rfl rfl (λwz _=>qh _ _ rfl bk ok j KL Ck rfl rfl hjl wz) hHeld ?_;simp only[Act.put,zh,zf,zg];refine zD 13 (some 66) (.int .i64 (kid:Nat)) rfl rfl (λwz hz=>by have z0:=za hz kc;unfold execOp;go_simp) hHeld ?_;simp only[Act.put,zh,zf,zg];refine zD 14 (some 67) (.pointer (some ⟨g,off+kid*8,none⟩)) rfl rfl (λwz _=>zE _ _ rfl g off kid NP Cp rfl rfl hkn wz) hHeld ?_;simp only[Act.put,zh,zf,zg];refine zw 15 (some 68) (.pointer (some ⟨g,off+kid*8+1,none⟩)) hHeld ?_;simp only[Act.put,zh,zf,zg];refine zD 16 (some 69) (.int .i64 (Z:Nat)) rfl rfl (λwz hz=>by have z0:=za hz zc;unfold execOp;go_simp) hHeld ?_;simp only[Act.put,zh,zf,zg];refine zw 17 (some 70) (.pointer (some ⟨pb,0,none⟩)) hHeld ?_;simp only[Act.put,zh,zf,zg];refine zw 18 (some 71) (.pointer (some ⟨pb,0,none⟩)) hHeld ?_;simp only[Act.put,zh,zf,zg];refine zw 19 (some 72) (.pointer (some ⟨pb,1,none⟩)) hHeld ?_;simp only[Act.put,zh,zf,zg];refine zD 20 (some 73) (.int .i64 (S0:Nat)) rfl rfl (λwz hz=>by have z0:=za hz p1r;unfold execOp;go_simp) hHeld ?_;simp only[Act.put,zh,zf,zg];refine zD 21 (some 74) (.bool (Z==S0)) rfl rfl (λwz _=>Qx _ _ rfl Z S0 rfl rfl wz) hHeld ?_;simp only[Act.put,zh,zf,zg];refine zw 22 (some 75) (.bool (Z==S0)) hHeld ?_;simp only[Act.put,zh,zf,zg];refine zw 23 (some 7) (.bool (Z==S0)) hHeld ?_;simp only[Act.put,zh,zf,zg];refine wpAnyH_done (by kernel_rfl) ?_ _
     go_wp2
     go_roundw
     case rel=>exact⟨j+1,Z==S0,rfl,by go_num,rfl,ze (by rw[HSM.out,←HB.out];rfl),by omega,j7 hBz _⟩
     case measure=>simp[intOf];omega
    |false =>
     go_wp2
     refine wp_region_held_drew (S:=λwz=>Below wr.heap.size wr wz) (by kernel_rfl) ((Below.refl _ wr).drew) (λhHeld=>?_);refine zw 0 (some 36) (.int .i64 (vF ps ks j:Nat)) hHeld ?_;simp only[Act.put,zh,zf,zg];refine zw 1 (some 37) (.pointer (some ⟨cb,0,none⟩)) hHeld ?_;simp only[Act.put,zh,zf,zg];refine zw 2 (some 38) (.pointer (some ⟨cb,0,none⟩)) hHeld ?_;simp only[Act.put,zh,zf,zg];refine zw 3 (some 39) (.pointer (some ⟨cb,0,none⟩)) hHeld ?_;simp only[Act.put,zh,zf,zg];refine zw 4 (some 40) (.pointer (some ⟨cb,2,none⟩)) hHeld ?_;simp only[Act.put,zh,zf,zg];refine zD 5 (some 41) (.slice (some ⟨g,off,none⟩) NP Cp) rfl rfl (λwz hz=>by have z0:=za hz c2r;unfold execOp;go_simp) hHeld ?_;simp only[Act.put,zh,zf,zg];refine zw 6 (some 42) (.pointer (some ⟨pb,0,none⟩)) hHeld ?_;simp only[Act.put,zh,zf,zg];refine zw 7 (some 43) (.pointer (some ⟨pb,0,none⟩)) hHeld ?_;simp only[Act.put,zh,zf,zg];refine zw 8 (some 44) (.pointer (some ⟨pb,2,none⟩)) hHeld ?_;simp only[Act.put,zh,zf,zg];refine zD 9 (some 45) (.slice (some ⟨bk,ok,none⟩) KL Ck) rfl rfl (λwz hz=>by have z0:=za hz p2r;unfold execOp;go_simp) hHeld ?_;simp only[Act.put,zh,zf,zg];refine zw 10 (some 46) (.int .i64 (j:Nat)) hHeld ?_;simp only[Act.put,zh,zf,zg];refine zD 11 (some 47) (.pointer (some ⟨bk,ok+j,none⟩)) rfl rfl (λwz _=>qh _ _ rfl bk ok j KL Ck rfl rfl hjl wz) hHeld ?_;simp only[Act.put,zh,zf,zg];refine zD 12 (some 48) (.int .i64 (kid:Nat)) rfl rfl (λwz hz=>by have z0:=za hz kc;unfold execOp;go_simp) hHeld ?_;simp only[Act.put,zh,zf,zg];refine zD 13 (some 49) (.pointer (some ⟨g,off+kid*8,none⟩)) rfl rfl (λwz _=>zE _ _ rfl g off kid NP Cp rfl rfl hkn wz) hHeld ?_;simp only[Act.put,zh,zf,zg];refine zw 14 (some 50) (.pointer (some ⟨g,off+kid*8+1,none⟩)) hHeld ?_;simp only[Act.put,zh,zf,zg];refine zD 15 (some 51) (.int .i64 (Z:Nat)) rfl rfl (λwz hz=>by have z0:=za hz zc;unfold execOp;go_simp) hHeld ?_;simp only[Act.put,zh,zf,zg];refine zD 16 (some 52) (.int .i64 (vF ps ks (j+1):Nat)) rfl rfl (λwz _=>Qy _ _ rfl (vF ps ks j) Z rfl rfl _ HS.out HSB.out wz) hHeld ?_;simp only[Act.put,zh,zf,zg];refine zw 17 (some 6) (.int .i64 (vF ps ks (j+1):Nat)) hHeld ?_;simp only[Act.put,zh,zf,zg];refine wpAnyH_done (by kernel_rfl) ?_ _;have hbz:Below wr.heap.size wr wr.drew:=(Below.refl _ wr).drew;replace c2r:=za hbz c2r;replace p2r:=za hbz p2r;replace p1r:=za hbz p1r;replace kc:=za hbz kc;replace zc:=za hbz zc;have hBz:=Br.trans (hbz.mono Br.size);clear hHeld Br c2l p2l hbz;generalize wr.drew=wr at *
     go_wp2
     refine wp_region_held_drew (S:=λwz=>Below wr.heap.size wr wz) (by kernel_rfl) ((Below.refl _ wr).drew) (λhHeld=>?_);refine zw 0 (some 53) (.bool false) hHeld ?_;simp only[Act.put,zh,zf,zg];refine zw 1 (some 54) (.bool false) hHeld ?_;simp only[Act.put,zh,zf,zg];refine qO 2 (some 55) rfl rfl (by kernel_rfl) (by kernel_rfl) (by kernel_rfl) (λ_ _ _ h=>h) (by rfl) hHeld ?_;simp only[Act.put,zh,zf,zg];refine qO 3 (some 56) rfl rfl (by kernel_rfl) (by kernel_rfl) (by kernel_rfl) (λ_ _ _ h=>h) (by rfl) hHeld ?_;simp only[Act.put,zh,zf,zg];refine qO 4 (some 57) rfl rfl (by kernel_rfl) (by kernel_rfl) (by kernel_rfl) (λ_ _ _ h=>h) (by rfl) hHeld ?_;simp only[Act.put,zh,zf,zg];refine qO 5 (some 58) rfl rfl (by kernel_rfl) (by kernel_rfl) (by kernel_rfl) (λ_ _ _ h=>h) (by rfl) hHeld ?_;simp only[Act.put,zh,zf,zg];refine qO 6 (some 59) rfl rfl (by kernel_rfl) (by kernel_rfl) (by kernel_rfl) (λ_ _ _ h=>h) (by rfl) hHeld ?_;simp only[Act.put,zh,zf,zg];refine qO 7 (some 60) rfl rfl (by kernel_rfl) (by kernel_rfl) (by kernel_rfl) (λ_ _ _ h=>h) (by rfl) hHeld ?_;simp only[Act.put,zh,zf,zg];refine qO 8 (some 61) rfl rfl (by kernel_rfl) (by kernel_rfl) (by kernel_rfl) (λ_ _ _ h=>h) (by rfl) hHeld ?_;simp only[Act.put,zh,zf,zg];refine qO 9 (some 62) rfl rfl (by kernel_rfl) (by kernel_rfl) (by kernel_rfl) (λ_ _ _ h=>h) (by rfl) hHeld ?_;simp only[Act.put,zh,zf,zg];refine qO 10 (some 63) rfl rfl (by kernel_rfl) (by kernel_rfl) (by kernel_rfl) (λ_ _ _ h=>h) (by rfl) hHeld ?_;simp only[Act.put,zh,zf,zg];refine qO 11 (some 64) rfl rfl (by kernel_rfl) (by kernel_rfl) (by kernel_rfl) (λ_ _ _ h=>h) (by rfl) hHeld ?_;simp only[Act.put,zh,zf,zg];refine qO 12 (some 65) rfl rfl (by kernel_rfl) (by kernel_rfl) (by kernel_rfl) (λ_ _ _ h=>h) (by rfl) hHeld ?_;simp only[Act.put,zh,zf,zg];refine qO 13 (some 66) rfl rfl (by kernel_rfl) (by kernel_rfl) (by kernel_rfl) (λ_ _ _ h=>h) (by rfl) hHeld ?_;simp only[Act.put,zh,zf,zg];refine qO 14 (some 67) rfl rfl (by kernel_rfl) (by kernel_rfl) (by kernel_rfl) (λ_ _ _ h=>h) (by rfl) hHeld ?_;simp only[Act.put,zh,zf,zg];refine qO 15 (some 68) rfl rfl (by kernel_rfl) (by kernel_rfl) (by kernel_rfl) (λ_ _ _ h=>h) (by rfl) hHeld ?_;simp only[Act.put,zh,zf,zg];refine qO 16 (some 69) rfl rfl (by kernel_rfl) (by kernel_rfl) (by kernel_rfl) (λ_ _ _ h=>h) (by rfl) hHeld ?_;simp only[Act.put,zh,zf,zg];refine qO 17 (some 70) rfl rfl (by kernel_rfl) (by kernel_rfl) (by kernel_rfl) (λ_ _ _ h=>h) (by rfl) hHeld ?_;simp only[Act.put,zh,zf,zg];refine qO 18 (some 71) rfl rfl (by kernel_rfl) (by kernel_rfl) (by kernel_rfl) (λ_ _ _ h=>h) (by rfl) hHeld ?_;simp only[Act.put,zh,zf,zg];refine qO 19 (some 72) rfl rfl (by kernel_rfl) (by kernel_rfl) (by kernel_rfl) (λ_ _ _ h=>h) (by rfl) hHeld ?_;simp only[Act.put,zh,zf,zg];refine qO 20 (some 73) rfl rfl (by kernel_rfl) (by kernel_rfl) (by kernel_rfl) (λ_ _ _ h=>h) (by rfl) hHeld ?_;simp only[Act.put,zh,zf,zg];refine qO 21 (some 74) rfl rfl (by kernel_rfl) (by kernel_rfl) (by kernel_rfl) (λ_ _ _ h=>h) (by rfl) hHeld ?_;simp only[Act.put,zh,zf,zg];refine zw 22 (some 75) (.bool false) hHeld ?_;simp only[Act.put,zh,zf,zg];refine zw 23 (some 7) (.bool false) hHeld ?_;simp only[Act.put,zh,zf,zg];refine wpAnyH_done (by kernel_rfl) ?_ _
     go_wp2
     go_roundw
     case rel=>exact⟨j+1,false,rfl,by go_num,rfl,ze (by rw[HSM.out,←HB.out];rfl),by omega,j7 hBz _⟩
     case measure=>simp[intOf];omega
   ·obtain rfl:KL=j:=by omega
    have HQ4:=(HQ3.out.keep Br)
    have Q4:=HQ4;have hs4:Sp (V.own cb) w (V.own cb) wr:=(Sp.left HB1.out HS3.out).trans (Sp.of Br);have N4:=HN3.out.below Br HN3.out.lt;have e0:=N4.cell 0;have e3:=N4.cell 3;simp only[qH,qG,qI]at e0 e3;have en:=N4.lt;clear HQ4 hk3;rcases HOP.out with ho|ho
    ·have f9:(n.op== [99,111,110,99,97,116])=true:=by rw[ho];decide
     have HR:=ze (by
      have q:=RSC.out ho B HBB'.out;rw[←HKL.out]at q
      exact q)
     clear ho;have HH:=ze (show Q9 ({ kind:=3,size:=vF ps ks KL,kids:=ks,dev:=0,first:=0,chunk:=0,key:= [],root:= [] }:Pt) (.slice (some ⟨bk,ok,none⟩) ks.length Ck,.slice none 0 0,.slice none 0 0)= #[.int .i64 (3:Nat),.int .i64 (vF ps ks KL:Nat),.slice (some ⟨bk,ok,none⟩) KL Ck,.int .i64 (0:Nat),.int .i64 (0:Nat),.int .i64 (0:Nat),.slice none 0 0,.slice none 0 0] by rw[HKL.out];rfl);have hw4:=Q4.hpb;have a0:=Q4.hpb.cell 0;have a1:=Q4.hpb.cell 1;rw[HPC.out]at a0 a1;simp only[qH,qG,qI]at a0 a1;have f0:=Q4.hpb.free 0;have f1:=Q4.hpb.free 1;have l0:=Q4.hpb.lt;have HPB4:=ze Q4;have HS4:=ze hs4;have HFL:=ze (λW (h:zZ E W cb V (zA k B 135 n.a))=>qk h (decide (8192<vF ps ks KL)) 134 n.a);clear Q4 hw4
     go_wp2_with (first
      |((refine zi 88 rfl ?_)
        (refine zd (some 88) (.bool (decide (8192<vF ps ks KL))) rfl (by rfl) (Jf _ _ rfl (vF ps ks KL) 8192 rfl rfl _ rfl _) ?_))
      |((go_at_call 19)
        refine(HFL.out _ (yE.other (yE.other HPB4.out.ck HPB4.out.npb 0 _) HPB4.out.npb 1 _)).mono ?_;(rintro e w6 ⟨rfl,h6,s6⟩)))
     refine bodyPost_ret (results_none rfl _ _ _) rfl ?_;rw[HR.out];refine⟨rfl,h6,(jS (jS (yM HS4.out) _ _) _ _).trans (yM s6),.slice none 0 0,.slice none 0 0,?_,xJ _ _,xJ _ _⟩;show zm _ _ _ (Q9 ({ kind:=3,size:=vF ps ks KL,kids:=ks,dev:=0,first:=0,chunk:=0,key:= [],root:= [] }:Pt) (.slice (some ⟨bk,ok,none⟩) ks.length Ck,.slice none 0 0,.slice none 0 0));rw[HH.out];have q:=HPB4.out.hpb.putP 0 (.int .i64 (3:Nat));have q:=q.putP 1 (.int .i64 (vF ps ks KL:Nat));refine zm.onl ?_ s6.only HPB4.out.npb.1;rw[HPC.out]at q;exact q
    ·have f9:(n.op== [99,111,110,99,97,116])=false:=by rw[ho];decide
     have HR:=ze (by
      have q:=RSM.out ho B HBB'.out;rw[←HKL.out,←HB.out]at q
      exact q)
     clear ho;have HH:=ze (show Q9 ({ kind:=4,size:=S0,kids:=ks,dev:=0,first:=0,chunk:=0,key:= [],root:= [] }:Pt) (.slice (some ⟨bk,ok,none⟩) ks.length Ck,.slice none 0 0,.slice none 0 0)= #[.int .i64 (4:Nat),.int .i64 (S0:Nat),.slice (some ⟨bk,ok,none⟩) KL Ck,.int .i64 (0:Nat),.int .i64 (0:Nat),.int .i64 (0:Nat),.slice none 0 0,.slice none 0 0] by rw[HKL.out];rfl);have hw4:=Q4.hpb;have a0:=Q4.hpb.cell 0;have a1:=Q4.hpb.cell 1;rw[HPC.out]at a0 a1;simp only[qH,qG,qI]at a0 a1;have f0:=Q4.hpb.free 0;have f1:=Q4.hpb.free 1;have l0:=Q4.hpb.lt;have HPB4:=ze Q4;have HS4:=ze hs4;have HFL:=ze (λW (h:zZ E W cb V (zA k B 135 n.a))=>qk h (!b) 134 n.a);clear Q4 hw4
     go_wp2_with (first
      |((go_at_call 19)
        refine(HFL.out _ (yE.other HPB4.out.ck HPB4.out.npb 0 _)).mono ?_;(rintro e w6 ⟨rfl,h6,s6⟩)))
     refine bodyPost_ret (results_none rfl _ _ _) rfl ?_;rw[HR.out];refine⟨rfl,h6,(jS (yM HS4.out) _ _).trans (yM s6),.slice none 0 0,.slice none 0 0,?_,xJ _ _,xJ _ _⟩;show zm _ _ _ (Q9 ({ kind:=4,size:=S0,kids:=ks,dev:=0,first:=0,chunk:=0,key:= [],root:= [] }:Pt) (.slice (some ⟨bk,ok,none⟩) ks.length Ck,.slice none 0 0,.slice none 0 0));rw[HH.out];have q:=HPB4.out.hpb.putP 0 (.int .i64 (4:Nat));refine zm.onl ?_ s6.only HPB4.out.npb.1;rw[HPC.out]at q;exact q
 |false =>
  go_enter Tryz.func69,Tryz.ntmps69
  go_wp2
  rw[←HW.out];refine wp_region_held_drew (S:=λwz=>wz.cell? ⟨pb,2,none⟩=some (.slice (some ⟨bk,ok,none⟩) KL Ck)∧wz.cell? ⟨w.heap.size,3,none⟩=some (.int .i64 n.a)) (by kernel_rfl) (⟨p2,n3⟩) (λhHeld=>?_);refine zw 0 (some 9) (.pointer (some ⟨cb,0,none⟩)) hHeld ?_;simp only[Act.put,zh,zf,zg];refine zw 1 (some 10) (.pointer (some ⟨pb,0,none⟩)) hHeld ?_;simp only[Act.put,zh,zf,zg];refine zw 2 (some 11) (.pointer (some ⟨pb,0,none⟩)) hHeld ?_;simp only[Act.put,zh,zf,zg];refine zw 3 (some 12) (.pointer (some ⟨pb,2,none⟩)) hHeld ?_;simp only[Act.put,zh,zf,zg];refine zD 4 (some 13) (.slice (some ⟨bk,ok,none⟩) KL Ck) rfl rfl (λwz hz=>by obtain⟨z0,z1⟩:=hz;unfold execOp;go_simp) hHeld ?_;simp only[Act.put,zh,zf,zg];refine zD 5 (some 14) (.int .i64 (KL:Nat)) rfl rfl (λwz _=>yF 29 3 Tryz.underlying29 _ rfl _ KL Ck rfl wz) hHeld ?_;simp only[Act.put,zh,zf,zg];refine zD 6 (some 15) (.bool false) rfl rfl (λwz _=>Jl _ _ rfl KL 2 rfl rfl false b1 wz) hHeld ?_;simp only[Act.put,zh,zf,zg];refine zw 7 (some 16) (.bool false) hHeld ?_;simp only[Act.put,zh,zf,zg];refine zw 8 (some 17) (.pointer (some ⟨pb,0,none⟩)) hHeld ?_;simp only[Act.put,zh,zf,zg];refine zw 9 (some 18) (.pointer (some ⟨pb,0,none⟩)) hHeld ?_;simp only[Act.put,zh,zf,zg];refine zw 10 (some 19) (.pointer (some ⟨pb,2,none⟩)) hHeld ?_;simp only[Act.put,zh,zf,zg];refine zD 11 (some 20) (.slice (some ⟨bk,ok,none⟩) KL Ck) rfl rfl (λwz hz=>by obtain⟨z0,z1⟩:=hz;unfold execOp;go_simp) hHeld ?_;simp only[Act.put,zh,zf,zg];refine zD 12 (some 21) (.int .i64 (KL:Nat)) rfl rfl (λwz _=>yF 29 3 Tryz.underlying29 _ rfl _ KL Ck rfl wz) hHeld ?_;simp only[Act.put,zh,zf,zg];refine zD 13 (some 22) (.bool (decide (4<KL))) rfl rfl (λwz _=>Hp _ rfl KL rfl wz) hHeld ?_;simp only[Act.put,zh,zf,zg];refine zw 14 (some 23) (.bool (decide (4<KL))) hHeld ?_;simp only[Act.put,zh,zf,zg];refine zw 15 (some 24) (.pointer (some ⟨w.heap.size,3,none⟩)) hHeld ?_;simp only[Act.put,zh,zf,zg];refine zD 16 (some 25) (.int .i64 n.a) rfl rfl (λwz hz=>by obtain⟨z0,z1⟩:=hz;unfold execOp;go_simp) hHeld ?_;simp only[Act.put,zh,zf,zg];refine qY 17 (some 26) 19 #[.pointer (some ⟨cb,0,none⟩),.bool (decide (4<KL)),.int .i64 135,.int .i64 n.a] (by kernel_rfl) rfl rfl (by rfl) (by kernel_rfl) (qk (HPB.out.ck.keep (Below.refl _ W1).drew) (decide (4<KL)) 135 n.a) ?_;rintro e w3 ⟨rfl,h3,s3⟩;have hs3:Sp (V.own cb) W1 (V.own cb) w3:=Sp.left (Below.refl _ W1).drew s3;have Q3:=HPB.out.step h3 hs3 (qt _ _ _ _);have N3:=HN.out.onl hs3.only HNB.out;have p23:=Q3.hpb.cell 2;have n33:=N3.cell 3;simp only[qH,qG,qI]at n33;rw[HPC.out]at p23;simp only[qH,qG,qI]at p23;refine⟨_,rfl,⟨p23,n33⟩,?_⟩;simp only[Act.put,zh,zf,zg];refine wpAnyH_done (by kernel_rfl) ?_ _
  obtain⟨B,hB⟩:∃B,B=(decide (4<KL)):=⟨_,rfl⟩
  have HBB':=ze (show(decide (ks.length<2)||decide (4<ks.length))=B by rw[hB,←HKL.out];rw[b1];rfl);rw[←hB]at h3 Q3;clear hB p2 n3 h3;obtain⟨-,c23,-,-⟩:=qg Q3.ck;rw[HEV.out]at c23;have hg3:g<w3.heap.size:=Nat.lt_of_lt_of_le hg hs3.size;have hk3:=Q3.cells;have p13:=Q3.hpb.cell 1;rw[HPC.out]at p13;simp only[qH,qG,qI]at p13;have n30:=N3.cell 0;simp only[List.getElem?_toArray,List.getElem?_cons_zero]at n30;have lc3:=Q3.ck.has.lt;have lp3:=Q3.hpb.lt;have ln3:=N3.lt;have lb3:=Q3.hbk.1;have HSZ:=ze (HSZA.out _ _ Q3.ck);have HQ3:=ze Q3;have HN3:=ze N3;have HS3:=ze hs3;clear Q3 N3 hs3
  go_wp2
  go_loopw [6,7,8] (λzs zb zj wr=>∃(j:Nat) (b:Bool),zb= .bool b∧zj= .int .i64 (j:Nat)∧zs= .int .i64 (vF ps ks j:Nat)∧Hid (b=VX ps ks S0 j)∧j≤KL∧Below w3.heap.size w3 wr) (λ_ _ z _=>KL-(intOf z).toNat)
  case atStart=>exact⟨0,true,rfl,rfl,rfl,ze rfl,Nat.zero_le _,Below.refl _ _⟩
  case round =>
   obtain⟨j,b,rfl,rfl,rfl,HB,hj,Br⟩:=hrel;have c2r:=za Br c23;have p2r:=za Br p23;have p1r:=za Br p13;have c2l:=Nat.lt_of_lt_of_le lc3 Br.size;have p2l:=Nat.lt_of_lt_of_le lp3 Br.size;by_cases hjl:j<KL
   ·have hji:(j:Int)<(KL:Int):=by omega
    have hjk:j<ks.length:=by rw[←HKL.out];exact hjl
    have kc:=za Br (hk3 j hjk);obtain⟨hkn',hz1,hz2⟩:=HKD.out _ (List.getElem_mem hjk);have hkn:ks[j]<NP:=by rw[HNP.out];exact hkn'
    have zc:=za Br (HSZ.out _ hkn');have HS:=ze (JT ps ks hjk);have HSM:=ze (VH ps ks S0 hjk);have HSB:=ze (HSL.out (j+1) (by omega));generalize ks[j]=kid at *;generalize sz ps kid=Z at *;clear hk3 hkn';cases b with
    |true =>
     go_wp2
     refine wp_region_held_drew (S:=λwz=>Below wr.heap.size wr wz) (by kernel_rfl) ((Below.refl _ wr).drew) (λhHeld=>?_);refine zw 0 (some 36) (.int .i64 (vF ps ks j:Nat)) hHeld ?_;simp only[Act.put,zh,zf,zg];refine zw 1 (some 37) (.pointer (some ⟨cb,0,none⟩)) hHeld ?_;simp only[Act.put,zh,zf,zg];refine zw 2 (some 38) (.pointer (some ⟨cb,0,none⟩)) hHeld ?_;simp only[Act.put,zh,zf,zg];refine zw 3 (some 39) (.pointer (some ⟨cb,0,none⟩)) hHeld ?_;simp only[Act.put,zh,zf,zg];refine zw 4 (some 40) (.pointer (some ⟨cb,2,none⟩)) hHeld ?_;simp only[Act.put,zh,zf,zg];refine zD 5 (some 41) (.slice (some ⟨g,off,none⟩) NP Cp) rfl rfl (λwz hz=>by have z0:=za hz c2r;unfold execOp;go_simp) hHeld ?_;simp only[Act.put,zh,zf,zg];refine zw 6 (some 42) (.pointer (some ⟨pb,0,none⟩)) hHeld ?_;simp only[Act.put,zh,zf,zg];refine zw 7 (some 43) (.pointer (some ⟨pb,0,none⟩)) hHeld ?_;simp only[Act.put,zh,zf,zg];refine zw 8 (some 44) (.pointer (some ⟨pb,2,none⟩)) hHeld ?_;simp only[Act.put,zh,zf,zg];refine zD 9 (some 45) (.slice (some ⟨bk,ok,none⟩) KL Ck) rfl rfl (λwz hz=>by have z0:=za hz p2r;unfold execOp;go_simp) hHeld ?_;simp only[Act.put,zh,zf,zg];refine zw 10 (some 46) (.int .i64 (j:Nat)) hHeld ?_;simp only[Act.put,zh,zf,zg];refine zD 11 (some 47) (.pointer (some ⟨bk,ok+j,none⟩)) rfl rfl (λwz _=>qh _ _ rfl bk ok j KL Ck rfl rfl hjl wz) hHeld ?_;simp only[Act.put,zh,zf,zg];refine zD 12 (some 48) (.int .i64 (kid:Nat)) rfl rfl (λwz hz=>by have z0:=za hz kc;unfold execOp;go_simp) hHeld ?_;simp only[Act.put,zh,zf,zg];refine zD 13 (some 49) (.pointer (some ⟨g,off+kid*8,none⟩)) rfl rfl (λwz _=>zE _ _ rfl g off kid NP Cp rfl rfl hkn wz) hHeld ?_;simp only[Act.put,zh,zf,zg];refine zw 14 (some 50) (.pointer (some ⟨g,off+kid*8+1,none⟩)) hHeld ?_;simp only[Act.put,zh,zf,zg];refine zD 15 (some 51) (.int .i64 (Z:Nat)) rfl rfl (λwz hz=>by have z0:=za hz zc;unfold execOp;go_simp) hHeld ?_;simp only[Act.put,zh,zf,zg];refine zD 16 (some 52) (.int .i64 (vF ps ks (j+1):Nat)) rfl rfl (λwz _=>Qy _ _ rfl (vF ps ks j) Z rfl rfl _ HS.out HSB.out wz) hHeld ?_;simp only[Act.put,zh,zf,zg];refine zw 17 (some 6) (.int .i64 (vF ps ks (j+1):Nat)) hHeld ?_;simp only[Act.put,zh,zf,zg];refine wpAnyH_done (by kernel_rfl) ?_ _;have hbz:Below wr.heap.size wr wr.drew:=(Below.refl _ wr).drew;replace c2r:=za hbz c2r;replace p2r:=za hbz p2r;replace p1r:=za hbz p1r;replace kc:=za hbz kc;replace zc:=za hbz zc;have hBz:=Br.trans (hbz.mono Br.size);clear hHeld Br c2l p2l hbz;generalize wr.drew=wr at *
     go_wp2
     refine wp_region_held_drew (S:=λwz=>Below wr.heap.size wr wz) (by kernel_rfl) ((Below.refl _ wr).drew) (λhHeld=>?_);refine zw 0 (some 53) (.bool true) hHeld ?_;simp only[Act.put,zh,zf,zg];refine zw 1 (some 54) (.bool true) hHeld ?_;simp only[Act.put,zh,zf,zg];refine zw 2 (some 55) (.pointer (some ⟨cb,0,none⟩)) hHeld ?_;simp only[Act.put,zh,zf,zg];refine zw 3 (some 56) (.pointer (some ⟨cb,0,none⟩)) hHeld ?_;simp only[Act.put,zh,zf,zg];refine zw 4 (some 57) (.pointer (some ⟨cb,0,none⟩)) hHeld ?_;simp only[Act.put,zh,zf,zg];refine zw 5 (some 58) (.pointer (some ⟨cb,2,none⟩)) hHeld ?_;simp only[Act.put,zh,zf,zg];refine zD 6 (some 59) (.slice (some ⟨g,off,none⟩) NP Cp) rfl rfl (λwz hz=>by have z0:=za hz c2r;unfold execOp;go_simp) hHeld ?_;simp only[Act.put,zh,zf,zg];refine zw 7 (some 60) (.pointer (some ⟨pb,0,none⟩)) hHeld ?_;simp only[Act.put,zh,zf,zg];refine zw 8 (some 61) (.pointer (some ⟨pb,0,none⟩)) hHeld ?_;simp only[Act.put,zh,zf,zg];refine zw 9 (some 62) (.pointer (some ⟨pb,2,none⟩)) hHeld ?_;simp only[Act.put,zh,zf,zg];refine zD 10 (some 63) (.slice (some ⟨bk,ok,none⟩) KL Ck) rfl rfl (λwz hz=>by have z0:=za hz p2r;unfold execOp;go_simp) hHeld ?_;simp only[Act.put,zh,zf,zg];refine zw 11 (some 64) (.int .i64 (j:Nat)) hHeld ?_;simp only[Act.put,zh,zf,zg];refine zD 12 (some 65) (.pointer (some ⟨bk,ok+j,none⟩)) rfl rfl (λwz _=>qh _ _ rfl bk ok j KL Ck rfl rfl hjl wz) hHeld ?_;simp only[Act.put,zh,zf,zg];refine zD 13 (some 66) (.int .i64 (kid:Nat)) rfl rfl (λwz hz=>by have z0:=za hz kc;unfold execOp;go_simp) hHeld ?_;simp only[Act.put,zh,zf,zg];refine zD 14 (some 67) (.pointer (some ⟨g,off+kid*8,none⟩)) rfl rfl (λwz _=>zE _ _ rfl g off kid NP Cp rfl rfl hkn wz) hHeld ?_;simp only[Act.put,zh,zf,zg];refine zw 15 (some 68) (.pointer (some ⟨g,off+kid*8+1,none⟩)) hHeld ?_;simp only[Act.put,zh,zf,zg];refine zD 16 (some 69) (.int .i64 (Z:Nat)) rfl rfl (λwz hz=>by have z0:=za hz zc;unfold execOp;go_simp) hHeld ?_;simp only[Act.put,zh,zf,zg];refine zw 17 (some 70) (.pointer (some ⟨pb,0,none⟩)) hHeld ?_;simp only[Act.put,zh,zf,zg];refine zw 18 (some 71) (.pointer (some ⟨pb,0,none⟩)) hHeld ?_;simp only[Act.put,zh,zf,zg];refine zw 19 (some 72) (.pointer (some ⟨pb,1,none⟩)) hHeld ?_;simp only[Act.put,zh,zf,zg];refine zD 20 (some 73) (.int .i64 (S0:Nat)) rfl rfl (λwz hz=>by have z0:=za hz p1r;unfold execOp;go_simp) hHeld ?_;simp only[Act.put,zh,zf,zg];refine zD 21 (some 74) (.bool (Z==S0)) rfl rfl (λwz _=>Qx _ _ rfl Z S0 rfl rfl wz) hHeld ?_;simp only[Act.put,zh,zf,zg];refine zw 22 (some 75) (.bool (Z==S0)) hHeld ?_;simp only[Act.put,zh,zf,zg];refine zw 23 (some 7) (.bool (Z==S0)) hHeld ?_;simp only[Act.put,zh,zf,zg];refine wpAnyH_done (by kernel_rfl) ?_ _
     go_wp2
     go_roundw
     case rel=>exact⟨j+1,Z==S0,rfl,by go_num,rfl,ze (by rw[HSM.out,←HB.out];rfl),by omega,j7 hBz _⟩
     case measure=>simp[intOf];omega
    |false =>
     go_wp2
     refine wp_region_held_drew (S:=λwz=>Below wr.heap.size wr wz) (by kernel_rfl) ((Below.refl _ wr).drew) (λhHeld=>?_);refine zw 0 (some 36) (.int .i64 (vF ps ks j:Nat)) hHeld ?_;simp only[Act.put,zh,zf,zg];refine zw 1 (some 37) (.pointer (some ⟨cb,0,none⟩)) hHeld ?_;simp only[Act.put,zh,zf,zg];refine zw 2 (some 38) (.pointer (some ⟨cb,0,none⟩)) hHeld ?_;simp only[Act.put,zh,zf,zg];refine zw 3 (some 39) (.pointer (some ⟨cb,0,none⟩)) hHeld ?_;simp only[Act.put,zh,zf,zg];refine zw 4 (some 40) (.pointer (some ⟨cb,2,none⟩)) hHeld ?_;simp only[Act.put,zh,zf,zg];refine zD 5 (some 41) (.slice (some ⟨g,off,none⟩) NP Cp) rfl rfl (λwz hz=>by have z0:=za hz c2r;unfold execOp;go_simp) hHeld ?_;simp only[Act.put,zh,zf,zg];refine zw 6 (some 42) (.pointer (some ⟨pb,0,none⟩)) hHeld ?_;simp only[Act.put,zh,zf,zg];refine zw 7 (some 43) (.pointer (some ⟨pb,0,none⟩)) hHeld ?_;simp only[Act.put,zh,zf,zg];refine zw 8 (some 44) (.pointer (some ⟨pb,2,none⟩)) hHeld ?_;simp only[Act.put,zh,zf,zg];refine zD 9 (some 45) (.slice (some ⟨bk,ok,none⟩) KL Ck) rfl rfl (λwz hz=>by have z0:=za hz p2r;unfold execOp;go_simp) hHeld ?_;simp only[Act.put,zh,zf,zg];refine zw 10 (some 46) (.int .i64 (j:Nat)) hHeld ?_;simp only[Act.put,zh,zf,zg];refine zD 11 (some 47) (.pointer (some ⟨bk,ok+j,none⟩)) rfl rfl (λwz _=>qh _ _ rfl bk ok j KL Ck rfl rfl hjl wz) hHeld ?_;simp only[Act.put,zh,zf,zg];refine zD 12 (some 48) (.int .i64 (kid:Nat)) rfl rfl (λwz hz=>by have z0:=za hz kc;unfold execOp;go_simp) hHeld ?_;simp only[Act.put,zh,zf,zg];refine zD 13 (some 49) (.pointer (some ⟨g,off+kid*8,none⟩)) rfl rfl (λwz _=>zE _ _ rfl g off kid NP Cp rfl rfl hkn wz) hHeld ?_;simp only[Act.put,zh,zf,zg];refine zw 14 (some 50) (.pointer (some ⟨g,off+kid*8+1,none⟩)) hHeld ?_;simp only[Act.put,zh,zf,zg];refine zD 15 (some 51) (.int .i64 (Z:Nat)) rfl rfl (λwz hz=>by have z0:=za hz zc;unfold execOp;go_simp) hHeld ?_;simp only[Act.put,zh,zf,zg];refine zD 16 (some 52) (.int .i64 (vF ps ks (j+1):Nat)) rfl rfl (λwz _=>Qy _ _ rfl (vF ps ks j) Z rfl rfl _ HS.out HSB.out wz) hHeld ?_;simp only[Act.put,zh,zf,zg];refine zw 17 (some 6) (.int .i64 (vF ps ks (j+1):Nat)) hHeld ?_;simp only[Act.put,zh,zf,zg];refine wpAnyH_done (by kernel_rfl) ?_ _;have hbz:Below wr.heap.size wr wr.drew:=(Below.refl _ wr).drew;replace c2r:=za hbz c2r;replace p2r:=za hbz p2r;replace p1r:=za hbz p1r;replace kc:=za hbz kc;replace zc:=za hbz zc;have hBz:=Br.trans (hbz.mono Br.size);clear hHeld Br c2l p2l hbz;generalize wr.drew=wr at *
     go_wp2
     refine wp_region_held_drew (S:=λwz=>Below wr.heap.size wr wz) (by kernel_rfl) ((Below.refl _ wr).drew) (λhHeld=>?_);refine zw 0 (some 53) (.bool false) hHeld ?_;simp only[Act.put,zh,zf,zg];refine zw 1 (some 54) (.bool false) hHeld ?_;simp only[Act.put,zh,zf,zg];refine qO 2 (some 55) rfl rfl (by kernel_rfl) (by kernel_rfl) (by kernel_rfl) (λ_ _ _ h=>h) (by rfl) hHeld ?_;simp only[Act.put,zh,zf,zg];refine qO 3 (some 56) rfl rfl (by kernel_rfl) (by kernel_rfl) (by kernel_rfl) (λ_ _ _ h=>h) (by rfl) hHeld ?_;simp only[Act.put,zh,zf,zg];refine qO 4 (some 57) rfl rfl (by kernel_rfl) (by kernel_rfl) (by kernel_rfl) (λ_ _ _ h=>h) (by rfl) hHeld ?_;simp only[Act.put,zh,zf,zg];refine qO 5 (some 58) rfl rfl (by kernel_rfl) (by kernel_rfl) (by kernel_rfl) (λ_ _ _ h=>h) (by rfl) hHeld ?_;simp only[Act.put,zh,zf,zg];refine qO 6 (some 59) rfl rfl (by kernel_rfl) (by kernel_rfl) (by kernel_rfl) (λ_ _ _ h=>h) (by rfl) hHeld ?_;simp only[Act.put,zh,zf,zg];refine qO 7 (some 60) rfl rfl (by kernel_rfl) (by kernel_rfl) (by kernel_rfl) (λ_ _ _ h=>h) (by rfl) hHeld ?_;simp only[Act.put,zh,zf,zg];refine qO 8 (some 61) rfl rfl (by kernel_rfl) (by kernel_rfl) (by kernel_rfl) (λ_ _ _ h=>h) (by rfl) hHeld ?_;simp only[Act.put,zh,zf,zg];refine qO 9 (some 62) rfl rfl (by kernel_rfl) (by kernel_rfl) (by kernel_rfl) (λ_ _ _ h=>h) (by rfl) hHeld ?_;simp only[Act.put,zh,zf,zg];refine qO 10 (some 63) rfl rfl (by kernel_rfl) (by kernel_rfl) (by kernel_rfl) (λ_ _ _ h=>h) (by rfl) hHeld ?_;simp only[Act.put,zh,zf,zg];refine qO 11 (some 64) rfl rfl (by kernel_rfl) (by kernel_rfl) (by kernel_rfl) (λ_ _ _ h=>h) (by rfl) hHeld ?_;simp only[Act.put,zh,zf,zg];refine qO 12 (some 65) rfl rfl (by kernel_rfl) (by kernel_rfl) (by kernel_rfl) (λ_ _ _ h=>h) (by rfl) hHeld ?_;simp only[Act.put,zh,zf,zg];refine qO 13 (some 66) rfl rfl (by kernel_rfl) (by kernel_rfl) (by kernel_rfl) (λ_ _ _ h=>h) (by rfl) hHeld ?_;simp only[Act.put,zh,zf,zg];refine qO 14 (some 67) rfl rfl (by kernel_rfl) (by kernel_rfl) (by kernel_rfl) (λ_ _ _ h=>h) (by rfl) hHeld ?_;simp only[Act.put,zh,zf,zg];refine qO 15 (some 68) rfl rfl (by kernel_rfl) (by kernel_rfl) (by kernel_rfl) (λ_ _ _ h=>h) (by rfl) hHeld ?_;simp only[Act.put,zh,zf,zg];refine qO 16 (some 69) rfl rfl (by kernel_rfl) (by kernel_rfl) (by kernel_rfl) (λ_ _ _ h=>h) (by rfl) hHeld ?_;simp only[Act.put,zh,zf,zg];refine qO 17 (some 70) rfl rfl (by kernel_rfl) (by kernel_rfl) (by kernel_rfl) (λ_ _ _ h=>h) (by rfl) hHeld ?_;simp only[Act.put,zh,zf,zg];refine qO 18 (some 71) rfl rfl (by kernel_rfl) (by kernel_rfl) (by kernel_rfl) (λ_ _ _ h=>h) (by rfl) hHeld ?_;simp only[Act.put,zh,zf,zg];refine qO 19 (some 72) rfl rfl (by kernel_rfl) (by kernel_rfl) (by kernel_rfl) (λ_ _ _ h=>h) (by rfl) hHeld ?_;simp only[Act.put,zh,zf,zg];refine qO 20 (some 73) rfl rfl (by kernel_rfl) (by kernel_rfl) (by kernel_rfl) (λ_ _ _ h=>h) (by rfl) hHeld ?_;simp only[Act.put,zh,zf,zg];refine qO 21 (some 74) rfl rfl (by kernel_rfl) (by kernel_rfl) (by kernel_rfl) (λ_ _ _ h=>h) (by rfl) hHeld ?_;simp only[Act.put,zh,zf,zg];refine zw 22 (some 75) (.bool false) hHeld ?_;simp only[Act.put,zh,zf,zg];refine zw 23 (some 7) (.bool false) hHeld ?_;simp only[Act.put,zh,zf,zg];refine wpAnyH_done (by kernel_rfl) ?_ _
     go_wp2
     go_roundw
     case rel=>exact⟨j+1,false,rfl,by go_num,rfl,ze (by rw[HSM.out,←HB.out];rfl),by omega,j7 hBz _⟩
     case measure=>simp[intOf];omega
   ·obtain rfl:KL=j:=by omega
    have HQ4:=(HQ3.out.keep Br)
    have Q4:=HQ4;have hs4:Sp (V.own cb) w (V.own cb) wr:=(Sp.left HB1.out HS3.out).trans (Sp.of Br);have N4:=HN3.out.below Br HN3.out.lt;have e0:=N4.cell 0;have e3:=N4.cell 3;simp only[qH,qG,qI]at e0 e3;have en:=N4.lt;clear HQ4 hk3;rcases HOP.out with ho|ho
    ·have f9:(n.op== [99,111,110,99,97,116])=true:=by rw[ho];decide
     have HR:=ze (by
      have q:=RSC.out ho B HBB'.out;rw[←HKL.out]at q
      exact q)
     clear ho;have HH:=ze (show Q9 ({ kind:=3,size:=vF ps ks KL,kids:=ks,dev:=0,first:=0,chunk:=0,key:= [],root:= [] }:Pt) (.slice (some ⟨bk,ok,none⟩) ks.length Ck,.slice none 0 0,.slice none 0 0)= #[.int .i64 (3:Nat),.int .i64 (vF ps ks KL:Nat),.slice (some ⟨bk,ok,none⟩) KL Ck,.int .i64 (0:Nat),.int .i64 (0:Nat),.int .i64 (0:Nat),.slice none 0 0,.slice none 0 0] by rw[HKL.out];rfl);have hw4:=Q4.hpb;have a0:=Q4.hpb.cell 0;have a1:=Q4.hpb.cell 1;rw[HPC.out]at a0 a1;simp only[qH,qG,qI]at a0 a1;have f0:=Q4.hpb.free 0;have f1:=Q4.hpb.free 1;have l0:=Q4.hpb.lt;have HPB4:=ze Q4;have HS4:=ze hs4;have HFL:=ze (λW (h:zZ E W cb V (zA k B 135 n.a))=>qk h (decide (8192<vF ps ks KL)) 134 n.a);clear Q4 hw4
     go_wp2_with (first
      |((refine zi 88 rfl ?_)
        (refine zd (some 88) (.bool (decide (8192<vF ps ks KL))) rfl (by rfl) (Jf _ _ rfl (vF ps ks KL) 8192 rfl rfl _ rfl _) ?_))
      |((go_at_call 19)
        refine(HFL.out _ (yE.other (yE.other HPB4.out.ck HPB4.out.npb 0 _) HPB4.out.npb 1 _)).mono ?_;(rintro e w6 ⟨rfl,h6,s6⟩)))
     refine bodyPost_ret (results_none rfl _ _ _) rfl ?_;rw[HR.out];refine⟨rfl,h6,(jS (jS (yM HS4.out) _ _) _ _).trans (yM s6),.slice none 0 0,.slice none 0 0,?_,xJ _ _,xJ _ _⟩;show zm _ _ _ (Q9 ({ kind:=3,size:=vF ps ks KL,kids:=ks,dev:=0,first:=0,chunk:=0,key:= [],root:= [] }:Pt) (.slice (some ⟨bk,ok,none⟩) ks.length Ck,.slice none 0 0,.slice none 0 0));rw[HH.out];have q:=HPB4.out.hpb.putP 0 (.int .i64 (3:Nat));have q:=q.putP 1 (.int .i64 (vF ps ks KL:Nat));refine zm.onl ?_ s6.only HPB4.out.npb.1;rw[HPC.out]at q;exact q
    ·have f9:(n.op== [99,111,110,99,97,116])=false:=by rw[ho];decide
     have HR:=ze (by
      have q:=RSM.out ho B HBB'.out;rw[←HKL.out,←HB.out]at q
      exact q)
     clear ho;have HH:=ze (show Q9 ({ kind:=4,size:=S0,kids:=ks,dev:=0,first:=0,chunk:=0,key:= [],root:= [] }:Pt) (.slice (some ⟨bk,ok,none⟩) ks.length Ck,.slice none 0 0,.slice none 0 0)= #[.int .i64 (4:Nat),.int .i64 (S0:Nat),.slice (some ⟨bk,ok,none⟩) KL Ck,.int .i64 (0:Nat),.int .i64 (0:Nat),.int .i64 (0:Nat),.slice none 0 0,.slice none 0 0] by rw[HKL.out];rfl);have hw4:=Q4.hpb;have a0:=Q4.hpb.cell 0;have a1:=Q4.hpb.cell 1;rw[HPC.out]at a0 a1;simp only[qH,qG,qI]at a0 a1;have f0:=Q4.hpb.free 0;have f1:=Q4.hpb.free 1;have l0:=Q4.hpb.lt;have HPB4:=ze Q4;have HS4:=ze hs4;have HFL:=ze (λW (h:zZ E W cb V (zA k B 135 n.a))=>qk h (!b) 134 n.a);clear Q4 hw4
     go_wp2_with (first
      |((go_at_call 19)
        refine(HFL.out _ (yE.other HPB4.out.ck HPB4.out.npb 0 _)).mono ?_;(rintro e w6 ⟨rfl,h6,s6⟩)))
     refine bodyPost_ret (results_none rfl _ _ _) rfl ?_;rw[HR.out];refine⟨rfl,h6,(jS (yM HS4.out) _ _).trans (yM s6),.slice none 0 0,.slice none 0 0,?_,xJ _ _,xJ _ _⟩;show zm _ _ _ (Q9 ({ kind:=4,size:=S0,kids:=ks,dev:=0,first:=0,chunk:=0,key:= [],root:= [] }:Pt) (.slice (some ⟨bk,ok,none⟩) ks.length Ck,.slice none 0 0,.slice none 0 0));rw[HH.out];have q:=HPB4.out.hpb.putP 0 (.int .i64 (4:Nat));refine zm.onl ?_ s6.only HPB4.out.npb.1;rw[HPC.out]at q;exact q
end
section
open Go.ChangeShapes Go.WideShapes Go.ChangeAt Go.RowKit Go.MapKept
theorem YV{o:Oper}{a:Act}(x:Operand)(ho:o.op= .convert 63 9 x)(v:Value)(hx:a.eval x=v)(w:World)(u:Value)(hr:(convert 63 9 v).run Tryz.prog w= .ok u w):(execOp a.eval o).run Tryz.prog w= .ok (.value u) w:=by
 unfold execOp;simp[ho,hx,hr]
theorem YW{w:World}{P:Nat→Prop}{A:Option Addr}{l:List UInt8}(C:Nat)(h:jK w P A l):(convert 63 9 (.slice A l.length C)).run Tryz.prog w= .ok (.string (bs l)) w:=by
 cases A with
 |none =>
  have :l= []:=by
   rcases h with h|⟨b,off,e,_⟩
   ·exact h
   ·cases e
  subst this;rw[List.length_nil,run_convert_bytes_string w 63 9 5 none 0 C Tryz.underlying63 Tryz.underlying5 Tryz.underlying9];rfl
 |some x =>
  exact run_convert_bytes_back (P:=Tryz.prog) w 63 9 5 x C l Tryz.underlying63 Tryz.underlying5 Tryz.underlying9 (by
   intro j hj;rcases h with h0|⟨b,off,e,_,_,hc⟩
   ·subst h0;cases hj
   ·obtain rfl:x=⟨b,off,none⟩:=Option.some.inj e
    rw[show(⟨b,off,none⟩:Addr).add j=⟨b,off+j,none⟩from by simp[Addr.add],hc j hj])
theorem vB.bytes{w:World}{B g off:Nat}{ps:List Pt}(h:vB w B (some ⟨g,off,none⟩) ps){i:Nat}(hi:i<ps.length):∃Ak Ck A2 C2 A3 C3,(∀j,j<8→w.cell? ⟨g,off+i*8+j,none⟩=(#[.int .i64 (ps[i].kind:Nat),.int .i64 (ps[i].size:Nat),.slice Ak ps[i].kids.length Ck,.int .i64 (ps[i].dev:Nat),.int .i64 (ps[i].first:Nat),.int .i64 (ps[i].chunk:Nat),.slice A2 ps[i].key.length C2,.slice A3 ps[i].root.length C3]:Array Value)[j]?)∧ZS w (λg=>g<B) Ak ps[i].kids∧jK w (λg=>g<B) A2 ps[i].key∧jK w (λg=>g<B) A3 ps[i].root:=by
 obtain⟨g',off',u,e,_,_,hc,hin⟩:=h i hi;cases e;obtain⟨⟨A1,C1,e1,a1,b1,i1⟩,⟨A2,C2,e2,a2,b2,i2⟩,⟨A3,C3,e3,a3,b3,i3⟩⟩:=hin;refine⟨A1,C1,A2,C2,A3,C3,λj hj=>?_,i1,i2,i3⟩;have:=hc j hj;unfold Q9 at this;rw[e1,e2,e3]at this;exact this
end
section
open Go.ChangeShapes Go.WideShapes Go.ChangeAt Go.RowKit Go.MapKept
variable {E:Nat→Prop}
theorem jK.sp{w w':World}{cb pb:Nat}{V:RV}{A:Option Addr}{l:List UInt8}{G:Nat→Prop}(h:jK w (λg=>¬V.own cb g∧E g) A l)(s:Sp (λg=>V.own cb g∨g=pb) w G w')(hn:¬E pb):jK w' (λg=>¬V.own cb g∧E g) A l:=
 h.keep s.size λk hk hP=>⟨s.only.block k hk (λe=>by
  rcases e with e|e
  ·exact hP.1 e
  ·rw[e]at hP;exact hn hP.2),hP⟩
theorem DZ(k:Rk)(n:Nd)(p:Pt)(ho:n.op=jf):ZX k n p=({ p with kind:=8,root:=(jh k (zH n.l 1).s (zH n.l 1).a zN).1,size:=dV p.size },zA (jh k (zH n.l 1).s (zH n.l 1).a zN).2 (dV p.size==0) 134 n.a):=by
 unfold ZX;rw[if_pos ho]
theorem zbv(k:Rk)(n:Nd)(p:Pt)(ho:n.op=jl∨n.op=qb)(hb:(jh k (zH n.l 1).s (zH n.l 1).a zM).2.bad≠0):ZX k n p=({ p with key:=(jh k (zH n.l 1).s (zH n.l 1).a zM).1 },(jh k (zH n.l 1).s (zH n.l 1).a zM).2):=by
 unfold ZX;rw[if_neg (by rcases ho with e|e<;>rw[e]<;>decide),if_pos hb]
theorem DO(k:Rk)(n:Nd)(p:Pt)(ho:n.op=jl)(hb:(jh k (zH n.l 1).s (zH n.l 1).a zM).2.bad=0):ZX k n p=({ p with key:=(jh k (zH n.l 1).s (zH n.l 1).a zM).1,kind:=6 },zA (jh k (zH n.l 1).s (zH n.l 1).a zM).2 (decide ((jh k (zH n.l 1).s (zH n.l 1).a zM).1.take 16=(jh k (zH n.l 1).s (zH n.l 1).a zM).1.drop 16)) 135 n.a):=by
 unfold ZX;rw[if_neg (by rw[ho];decide),if_neg (not_not_intro hb),if_pos ho]
theorem dK(k:Rk)(n:Nd)(p:Pt)(ho:n.op=qb)(hb:(jh k (zH n.l 1).s (zH n.l 1).a zM).2.bad=0):ZX k n p=({ p with key:=(jh k (zH n.l 1).s (zH n.l 1).a zM).1,kind:=7,size:=dI p.size },zA (jh k (zH n.l 1).s (zH n.l 1).a zM).2 (dI p.size==0) 134 n.a):=by
 unfold ZX;rw[if_neg (by rw[ho];decide),if_neg (not_not_intro hb),if_neg (by rw[ho];decide)]
theorem zaI{w:World}{P:Nat→Prop}{b off:Nat}{l:List UInt8}(C:Nat)(hl:l.length=32)(h:jK w P (some ⟨b,off,none⟩) l):(convert 63 9 (.slice (some ⟨b,off,none⟩) 16 C)).run Tryz.prog w= .ok (.string (bs (l.take 16))) w:=by
 have h':jK w P (some ⟨b,off,none⟩) (l.take 16):=by
  rcases h with h|⟨b',o',e,h1,h2,h3⟩
  ·rw[h]at hl;cases hl
  ·exact .inr ⟨b',o',e,h1,h2,λj hj=>by rw[h3 j (by simp at hj;omega),List.getElem_take]⟩
 have:=YW C h';rw[show(l.take 16).length=16 by simp[hl]]at this;exact this
theorem zaQ{w:World}{P:Nat→Prop}{b off:Nat}{l:List UInt8}(C:Nat)(hl:l.length=32)(h:jK w P (some ⟨b,off,none⟩) l):(convert 63 9 (.slice (some ⟨b,off+16,none⟩) 16 C)).run Tryz.prog w= .ok (.string (bs (l.drop 16))) w:=by
 have h':jK w P (some ⟨b,off+16,none⟩) (l.drop 16):=by
  rcases h with h|⟨b',o',e,h1,h2,h3⟩
  ·rw[h]at hl;cases hl
  ·cases e
   exact .inr ⟨b,off+16,rfl,h1,h2,λj hj=>by rw[show off+16+j=off+(16+j) by omega,h3 (16+j) (by simp at hj;omega),List.getElem_drop]⟩
 have:=YW C h';rw[show(l.drop 16).length=16 by simp[hl]]at this;exact this
structure d9 (E:Nat→Prop) (w0 w:World) (cb:Nat) (V:RV) (k:Rk) (pb S0 k0 bk ok Ck:Nat) (n:Nd) (A:Option Addr) (C:Nat):Prop where
 pa:yE E w cb V k pb ⟨0,S0,[k0],0,0,0,[],[]⟩ bk ok Ck (.slice none 0 0) (.slice none 0 0)
 rd:jZ w0 n A C
 b0:Below w0.heap.size w0 w
 cb0:w0.heap.size≤cb
 pb0:cb≤pb
 two:2≤n.l.length
 size:S0≤8192
theorem Hi{w0 w:World}{cb:Nat}{V:RV}{k:Rk}{pb S0 k0 bk ok Ck:Nat}(n:Nd)(A:Option Addr)(C:Nat)(hI:d9 E w0 w cb V k pb S0 k0 bk ok Ck n A C)(ho:n.op=jf):Calls Tryz.prog 71 #[.pointer (some ⟨cb,0,none⟩),.agg (qD n (.slice A n.l.length C)),.pointer (some ⟨pb,0,none⟩)] w (fF E w cb V pb bk ok Ck (ZX k n ⟨0,S0,[k0],0,0,0,[],[]⟩)):=by
 obtain⟨h,hr,hb0,hcb0,hpb0,htwo,hS0⟩:=hI;obtain⟨gn,on,Au,Cu,eA,hgn,hat⟩:=jg hr (by omega);subst eA
 obtain⟨W1,hW1⟩:∃W1,W1=w.alloc (.cells #[.string (bs n.op),.string (bs n.s),.int .i64 n.n,.int .i64 n.a,.slice (some ⟨gn,on,none⟩) n.l.length C] 24):=⟨_,rfl⟩
 have hb1:Below w.heap.size w W1:=by rw[hW1];exact zl w _
 have N1:zm W1 w.heap.size 24 #[.string (bs n.op),.string (bs n.s),.int .i64 n.n,.int .i64 n.a,.slice (some ⟨gn,on,none⟩) n.l.length C]:=by rw[hW1];exact zm.new w _ _
 have hPB:=h.keep hb1;have HNB:=ze (show ¬V.own cb w.heap.size from λq=>absurd (h.ck.low q).2 (Nat.lt_irrefl _));have HNP:=ze (show w.heap.size≠pb from λq=>by have:=h.hpb.lt;omega);have hlow:=λg (q:V.own cb g)=>(h.ck.low q).1
 have HLOW:=ze (show ∀g,(V.own cb g∨g=pb)→w0.heap.size≤g from λg q=>by
  rcases q with q|q
  ·have:=hlow g q;omega
  ·omega)
 have hB01:Below w0.heap.size w0 W1:=hb0.trans (hb1.mono hb0.size);have HND:=ze (λW (hB:Below w0.heap.size w0 W)=>((hat 1 (by omega)).1.grow hB hgn:yO W gn (on+1*5) (zF n.l 1) (Au 1) (Cu 1)));have hnlen:=hr.len;have hot:=zp n.op;have HN:=ze N1;have HW:=ze hW1;have HB1:=ze hb1;have HB01:=ze hB01;have HPB:=ze hPB;have HNE:=ze h.npb;have n0:=N1.cell 0;have n4:=N1.cell 4;have nl:=N1.lt;simp only[qH,qG,qI]at n0 n4;have HPC:=ze (show Q9 ⟨0,S0,[k0],0,0,0,[],[]⟩ (.slice (some ⟨bk,ok,none⟩) (⟨0,S0,[k0],0,0,0,[],[]⟩:Pt).kids.length Ck,.slice none 0 0,.slice none 0 0)= #[.int .i64 (0:Nat),.int .i64 (S0:Nat),.slice (some ⟨bk,ok,none⟩) 1 Ck,.int .i64 (0:Nat),.int .i64 (0:Nat),.int .i64 (0:Nat),.slice none 0 0,.slice none 0 0]from rfl);have P1:=hPB.hpb;rw[HPC.out]at P1;have a0:=P1.cell 0;have f0:=P1.free 0;have a7:=P1.cell 7;have f7:=P1.free 7;have a6:=P1.cell 6;have f6:=P1.free 6;simp only[qH,qG,qI]at a0 a6 a7;have pl:=P1.lt;have HP1:=ze P1;rw[DZ k n _ ho]
 obtain⟨W2,hW2⟩:∃W2,W2=W1.setCell ⟨pb,0,none⟩ (.int .i64 8):=⟨_,rfl⟩
 have h2:zZ E W2 cb V k:=by rw[hW2];exact yE.other hPB.ck h.npb 0 _
 have hs2:Sp (λg=>V.own cb g∨g=pb) w (λg=>V.own cb g∨g=pb) W2:=by rw[hW2];exact jS (Sp.of hb1) 0 _
 have HN2:=ze (HND.out W2 (hb0.trans (hs2.below hb0.size HLOW.out)));have hby:=Kc h2 (zF n.l 1) (Au 1) (zF n.l 1).l.length (Cu 1) zN;rw[show bs zN=⟨#[114,111,111,116]⟩from rfl]at hby;have P2:zm W2 pb 65 #[.int .i64 (8:Nat),.int .i64 (S0:Nat),.slice (some ⟨bk,ok,none⟩) 1 Ck,.int .i64 (0:Nat),.int .i64 (0:Nat),.int .i64 (0:Nat),.slice none 0 0,.slice none 0 0]:=by rw[hW2];exact P1.putP 0 _
 have N2:zm W2 w.heap.size 24 #[.string (bs n.op),.string (bs n.s),.int .i64 n.n,.int .i64 n.a,.slice (some ⟨gn,on,none⟩) n.l.length C]:=by rw[hW2];exact N1.other (p:=⟨pb,0,none⟩) HNP.out _
 have n42:=N2.cell 4;have nl2:=N2.lt;simp only[qH,qG,qI]at n42;have HP2:=ze P2;have HNN2:=ze N2;have HS2:=ze hs2;have hver:=λW=>zcj S0 W hS0
 have HDV:=ze (λr (hr:j0 2048 (xN hs S0) r)=>hr.eq (Qg 2048 (xN hs S0)))
 obtain⟨D,hD⟩:∃D,D=dV S0:=⟨_,rfl⟩
 have HD:=ze (show ∀r,j0 2048 (xN hs S0) r→r=D from λr hr=>by rw[hD];exact HDV.out r hr);simp only[];rw[←hD];have hD2:D≤2048:=by rw[hD];exact zbG S0
 generalize hRB:jh k (zH n.l 1).s (zH n.l 1).a zN=RB at *;have hRB':jh k (zF n.l 1).s (zF n.l 1).a zN=RB:=hRB;rw[hRB']at hby;obtain⟨bb,K1⟩:=RB;have f1:(n.op== [118,101,114,105,116,121])=true:=by rw[ho];decide
 obtain⟨LN,hLN⟩:∃LN,LN=n.l.length:=⟨_,rfl⟩
 have hL1:1<LN:=by omega
 rw[←hLN]at HW HN HNN2 n4 n42 hnlen hW1 ⊢;have HLN:=ze hLN;have HW2:=ze hW2;have hnp:¬w.heap.size=pb:=HNP.out;have hpn:¬pb=w.heap.size:=λq=>HNP.out q.symm
 rw[hW2]at n42
 have HN2r:=ze (by
  have q:=HN2.out;rw[hW2,hW1,Nat.one_mul]at q
  exact q)
 rw[hW1]at hW2 n0 n4 nl a0 f0 a6 f6 a7 f7 pl n42;clear h hr hW1 hb1 N1 hPB hlow hB01 hat P1 ho h2 hs2 P2 N2 hRB hRB' hD hLN hb0 HDV;unfold qD at *;go_enter Tryz.func71,Tryz.ntmps71
 go_wp2_with (first
  |((refine zi 20 rfl ?_)
    (refine zd (some 20) _ rfl (by rfl) (zu _ _ rfl gn on 1 LN C rfl rfl hL1 _) ?_))
  |((refine zi 21 rfl ?_)
    refine zd (some 21) _ rfl (by rfl) (zC _ rfl gn (on+5) rfl _ HN2r.out) ?_;(unfold zO))
  |((go_at_call 87)
    rw[←HW.out,←HW2.out];refine hby.mono ?_;rintro e w3 ⟨A4,C4,rfl,c41,c42,by4,h3,s3⟩;have P3:=HP2.out.onl s3.only HNE.out.1;have a73:=P3.cell 7;have a13:=P3.cell 1;have f73:=P3.free 7;have pl3:=P3.lt;(simp only[qH,qG,qI]at a73 a13))
  |((go_at_call 88)
    refine(hver _).mono ?_;rintro e w5 ⟨r,rfl,hg5,hb5⟩;obtain rfl:D=r:=(HD.out r hg5).symm;have P5:=(P3.putP 7 (.slice A4 bb.length C4)).below hb5 (P3.putP 7 (.slice A4 bb.length C4)).lt;have a15:=P5.cell 1;have f15:=P5.free 1;(have pl5:=P5.lt)))
 obtain⟨W4,hW4⟩:∃W4,W4=w3.setCell ⟨pb,7,none⟩ (.slice A4 bb.length C4):=⟨_,rfl⟩
 rw[←hW4]at hb5;have hs4:Sp (λg=>V.own cb g∨g=pb) w (λg=>V.own cb g∨g=pb) W4:=by rw[hW4];exact jS (HS2.out.trans (yM s3)) 7 _
 have h4:zZ E W4 cb V K1:=by rw[hW4];exact yE.other h3 HNE.out 7 _
 have N4:zm W4 w.heap.size 24 #[.string (bs n.op),.string (bs n.s),.int .i64 n.n,.int .i64 n.a,.slice (some ⟨gn,on,none⟩) LN C]:=by rw[hW4];exact(HNN2.out.onl s3.only HNB.out).other (p:=⟨pb,7,none⟩) HNP.out _
 have by4':jK W4 (λg=>¬V.own cb g∧E g) A4 bb:=by rw[hW4];exact by4.sp (jS (Sp.refl _ w3) 7 _) HNE.out.2
 obtain⟨W6,hW6⟩:∃W6,W6=w5.setCell ⟨pb,1,none⟩ (.int .i64 (D:Nat)):=⟨_,rfl⟩
 rw[←hW6];have hs6:Sp (λg=>V.own cb g∨g=pb) w (λg=>V.own cb g∨g=pb) W6:=by rw[hW6];exact jS (hs4.trans (Sp.of hb5)) 1 _
 have h6:zZ E W6 cb V K1:=by rw[hW6];exact yE.other (h4.keep hb5) HNE.out 1 _
 have N6:zm W6 w.heap.size 24 #[.string (bs n.op),.string (bs n.s),.int .i64 n.n,.int .i64 n.a,.slice (some ⟨gn,on,none⟩) LN C]:=by rw[hW6];exact(N4.below hb5 N4.lt).other (p:=⟨pb,1,none⟩) HNP.out _
 have P6:zm W6 pb 65 #[.int .i64 (8:Nat),.int .i64 (D:Nat),.slice (some ⟨bk,ok,none⟩) 1 Ck,.int .i64 (0:Nat),.int .i64 (0:Nat),.int .i64 (0:Nat),.slice none 0 0,.slice A4 bb.length C4]:=by rw[hW6];exact P5.putP 1 _
 have by6:jK W6 (λg=>¬V.own cb g∧E g) A4 bb:=(by4'.sp (pb:=pb) (Sp.of hb5) HNE.out.2).sp (pb:=pb) (by rw[hW6];exact jS (Sp.refl _ w5) 1 _) HNE.out.2;have a16:=P6.cell 1;have n36:=N6.cell 3;simp only[qH,qG,qI]at a16 n36;clear hW6 hW4 P5 a15 f15 P3 a73 a13 f73 hb5 h4 N4 hs4 by4 by4' h3 s3 hver;refine wp_region_held_drew (S:=λwz=>wz.cell? ⟨pb,1,none⟩=some (.int .i64 (D:Nat))∧wz.cell? ⟨w.heap.size,3,none⟩=some (.int .i64 n.a)) (by kernel_rfl) (⟨a16,n36⟩) (λhHeld=>?_);refine zw 0 (some 37) (.pointer (some ⟨cb,0,none⟩)) hHeld ?_;simp only[Act.put,zh,zf,zg];refine zw 1 (some 38) (.pointer (some ⟨pb,0,none⟩)) hHeld ?_;simp only[Act.put,zh,zf,zg];refine zw 2 (some 39) (.pointer (some ⟨pb,0,none⟩)) hHeld ?_;simp only[Act.put,zh,zf,zg];refine zw 3 (some 40) (.pointer (some ⟨pb,1,none⟩)) hHeld ?_;simp only[Act.put,zh,zf,zg];refine zD 4 (some 41) (.int .i64 (D:Nat)) rfl rfl (λwz hz=>by obtain⟨z0,z1⟩:=hz;unfold execOp;go_simp) hHeld ?_;simp only[Act.put,zh,zf,zg];refine zD 5 (some 42) (.bool (D==0)) rfl rfl (λwz _=>Qx _ _ rfl D 0 rfl rfl wz) hHeld ?_;simp only[Act.put,zh,zf,zg];refine zw 6 (some 43) (.pointer (some ⟨w.heap.size,3,none⟩)) hHeld ?_;simp only[Act.put,zh,zf,zg];refine zD 7 (some 44) (.int .i64 n.a) rfl rfl (λwz hz=>by obtain⟨z0,z1⟩:=hz;unfold execOp;go_simp) hHeld ?_;simp only[Act.put,zh,zf,zg];refine qY 8 (some 45) 19 #[.pointer (some ⟨cb,0,none⟩),.bool (D==0),.int .i64 134,.int .i64 n.a] (by kernel_rfl) rfl rfl (by rfl) (by kernel_rfl) (qk (h6.keep (Below.refl _ W6).drew) (D==0) 134 n.a) ?_;rintro e w7 ⟨rfl,h7,s7⟩;have hs7:Sp (V.own cb) W6 (V.own cb) w7:=Sp.left (Below.refl _ W6).drew s7;have P7:=P6.onl hs7.only HNE.out.1;have N7:=N6.onl hs7.only HNB.out;have a17:=P7.cell 1;have n37:=N7.cell 3;simp only[qH,qG,qI]at a17 n37;refine⟨_,rfl,⟨a17,n37⟩,?_⟩;simp only[Act.put,zh,zf,zg];refine wpAnyH_done (by kernel_rfl) ?_ _
 go_wp2
 refine bodyPost_ret (results_none rfl _ _ _) rfl ?_;exact⟨rfl,h7,(hs6.trans (yM hs7)),_,_,P7,xJ _ _,⟨A4,C4,rfl,c41,c42,by6.sp (pb:=pb) (yM hs7) HNE.out.2⟩⟩
end
section
open Go.ChangeShapes Go.WideShapes Go.ChangeAt Go.RowKit Go.MapKept
variable {E:Nat→Prop}
theorem gd{w0 w:World}{cb:Nat}{V:RV}{k:Rk}{pb S0 k0 bk ok Ck:Nat}(n:Nd)(A:Option Addr)(C:Nat)(hI:d9 E w0 w cb V k pb S0 k0 bk ok Ck n A C)(ho:n.op=jl∨n.op=qb)(hbad:(jh k (zH n.l 1).s (zH n.l 1).a zM).2.bad≠0):Calls Tryz.prog 71 #[.pointer (some ⟨cb,0,none⟩),.agg (qD n (.slice A n.l.length C)),.pointer (some ⟨pb,0,none⟩)] w (fF E w cb V pb bk ok Ck (ZX k n ⟨0,S0,[k0],0,0,0,[],[]⟩)):=by
 obtain⟨h,hr,hb0,hcb0,hpb0,htwo,hS0⟩:=hI;obtain⟨gn,on,Au,Cu,eA,hgn,hat⟩:=jg hr (by omega);subst eA
 obtain⟨W1,hW1⟩:∃W1,W1=w.alloc (.cells #[.string (bs n.op),.string (bs n.s),.int .i64 n.n,.int .i64 n.a,.slice (some ⟨gn,on,none⟩) n.l.length C] 24):=⟨_,rfl⟩
 have hb1:Below w.heap.size w W1:=by rw[hW1];exact zl w _
 have N1:zm W1 w.heap.size 24 #[.string (bs n.op),.string (bs n.s),.int .i64 n.n,.int .i64 n.a,.slice (some ⟨gn,on,none⟩) n.l.length C]:=by rw[hW1];exact zm.new w _ _
 have hPB:=h.keep hb1;have HNB:=ze (show ¬V.own cb w.heap.size from λq=>absurd (h.ck.low q).2 (Nat.lt_irrefl _));have HNP:=ze (show w.heap.size≠pb from λq=>by have:=h.hpb.lt;omega);have hlow:=λg (q:V.own cb g)=>(h.ck.low q).1
 have HLOW:=ze (show ∀g,(V.own cb g∨g=pb)→w0.heap.size≤g from λg q=>by
  rcases q with q|q
  ·have:=hlow g q;omega
  ·omega)
 have hB01:Below w0.heap.size w0 W1:=hb0.trans (hb1.mono hb0.size);have HND:=ze (λW (hB:Below w0.heap.size w0 W)=>((hat 1 (by omega)).1.grow hB hgn:yO W gn (on+1*5) (zF n.l 1) (Au 1) (Cu 1)));have hnlen:=hr.len;have hot:=zp n.op;have HN:=ze N1;have HW:=ze hW1;have HB1:=ze hb1;have HB01:=ze hB01;have HPB:=ze hPB;have HNE:=ze h.npb;have n0:=N1.cell 0;have n4:=N1.cell 4;have nl:=N1.lt;simp only[qH,qG,qI]at n0 n4;have HPC:=ze (show Q9 ⟨0,S0,[k0],0,0,0,[],[]⟩ (.slice (some ⟨bk,ok,none⟩) (⟨0,S0,[k0],0,0,0,[],[]⟩:Pt).kids.length Ck,.slice none 0 0,.slice none 0 0)= #[.int .i64 (0:Nat),.int .i64 (S0:Nat),.slice (some ⟨bk,ok,none⟩) 1 Ck,.int .i64 (0:Nat),.int .i64 (0:Nat),.int .i64 (0:Nat),.slice none 0 0,.slice none 0 0]from rfl);have P1:=hPB.hpb;rw[HPC.out]at P1;have a0:=P1.cell 0;have f0:=P1.free 0;have a7:=P1.cell 7;have f7:=P1.free 7;have a6:=P1.cell 6;have f6:=P1.free 6;simp only[qH,qG,qI]at a0 a6 a7;have pl:=P1.lt;have HP1:=ze P1;rw[zbv k n _ ho hbad];have HN2:=ze (HND.out W1 hB01);have hby:=Kc hPB.ck (zF n.l 1) (Au 1) (zF n.l 1).l.length (Cu 1) zM;rw[show bs zM=⟨#[107,101,121]⟩from rfl]at hby;simp only[];generalize hRB:jh k (zH n.l 1).s (zH n.l 1).a zM=RB at *;have hRB':jh k (zF n.l 1).s (zF n.l 1).a zM=RB:=hRB;rw[hRB']at hby;obtain⟨bb,K1⟩:=RB;have f1:(n.op== [118,101,114,105,116,121])=false:=by rcases ho with e|e<;>rw[e]<;>decide
 obtain⟨LN,hLN⟩:∃LN,LN=n.l.length:=⟨_,rfl⟩
 have hL1:1<LN:=by omega
 rw[←hLN]at HW HN n4 hnlen hW1 ⊢;have HLN:=ze hLN;have hnp:¬w.heap.size=pb:=HNP.out;have hpn:¬pb=w.heap.size:=λq=>HNP.out q.symm
 have HN2r:=ze (by
  have q:=HN2.out;rw[hW1,Nat.one_mul]at q
  exact q)
 rw[hW1]at n0 n4 nl a0 f0 a6 f6 a7 f7 pl;clear h hr hW1 hb1 N1 hPB hlow hB01 hat P1 hRB hRB' hLN hb0 ho;unfold qD at *;go_enter Tryz.func71,Tryz.ntmps71
 go_wp2_with (first
  |((refine zi 50 rfl ?_)
    (refine zd (some 50) _ rfl (by rfl) (zu _ _ rfl gn on 1 LN C rfl rfl hL1 _) ?_))
  |((refine zi 51 rfl ?_)
    refine zd (some 51) _ rfl (by rfl) (zC _ rfl gn (on+5) rfl _ HN2r.out) ?_;(unfold zO))
  |((go_at_call 87)
    rw[←HW.out];refine hby.mono ?_;rintro e w3 ⟨A4,C4,rfl,c41,c42,by4,h3,s3⟩;have P3:=HP1.out.onl s3.only HNE.out.1;have a63:=P3.cell 6;have a13:=P3.cell 1;have a03:=P3.cell 0;have f63:=P3.free 6;have f03:=P3.free 0;have f13:=P3.free 1;have pl3:=P3.lt;simp only[qH,qG,qI]at a63 a13 a03;have N3:=HN.out.onl s3.only HNB.out;have n03:=N3.cell 0;have n33:=N3.cell 3;simp only[qH,qG,qI]at n03 n33;have nl3:=N3.lt;obtain⟨-,-,-,c123⟩:=qg h3;have lc3:=h3.has.lt;(have hcp:¬cb=pb:=λq=>HNE.out.1 (.inl q.symm));(have hpc:¬pb=cb:=λq=>HNE.out.1 (.inl q));generalize hX:K1.bad=X at *;(have hd1:(X==0)=false:=by simpa using hbad);(have hd2:(X != 0)=true:=by rw[bne,hd1];rfl);have hd3:decide (X=0)=false:=decide_eq_false hbad;(clear hX)))
 refine bodyPost_ret (results_none rfl _ _ _) rfl ?_;exact⟨rfl,yE.other h3 HNE.out 6 _,jS ((Sp.of HB1.out).trans (yM s3)) 6 _,_,_,P3.putP 6 _,⟨A4,C4,rfl,c41,c42,by4.sp (jS (Sp.refl _ w3) 6 _) HNE.out.2⟩,xJ _ _⟩
theorem dw{w0 w:World}{cb:Nat}{V:RV}{k:Rk}{pb S0 k0 bk ok Ck:Nat}(n:Nd)(A:Option Addr)(C:Nat)(hI:d9 E w0 w cb V k pb S0 k0 bk ok Ck n A C)(ho:n.op=qb)(hbad:(jh k (zH n.l 1).s (zH n.l 1).a zM).2.bad=0):Calls Tryz.prog 71 #[.pointer (some ⟨cb,0,none⟩),.agg (qD n (.slice A n.l.length C)),.pointer (some ⟨pb,0,none⟩)] w (fF E w cb V pb bk ok Ck (ZX k n ⟨0,S0,[k0],0,0,0,[],[]⟩)):=by
 obtain⟨h,hr,hb0,hcb0,hpb0,htwo,hS0⟩:=hI;obtain⟨gn,on,Au,Cu,eA,hgn,hat⟩:=jg hr (by omega);subst eA
 obtain⟨W1,hW1⟩:∃W1,W1=w.alloc (.cells #[.string (bs n.op),.string (bs n.s),.int .i64 n.n,.int .i64 n.a,.slice (some ⟨gn,on,none⟩) n.l.length C] 24):=⟨_,rfl⟩
 have hb1:Below w.heap.size w W1:=by rw[hW1];exact zl w _
 have N1:zm W1 w.heap.size 24 #[.string (bs n.op),.string (bs n.s),.int .i64 n.n,.int .i64 n.a,.slice (some ⟨gn,on,none⟩) n.l.length C]:=by rw[hW1];exact zm.new w _ _
 have hPB:=h.keep hb1;have HNB:=ze (show ¬V.own cb w.heap.size from λq=>absurd (h.ck.low q).2 (Nat.lt_irrefl _));have HNP:=ze (show w.heap.size≠pb from λq=>by have:=h.hpb.lt;omega);have hlow:=λg (q:V.own cb g)=>(h.ck.low q).1
 have HLOW:=ze (show ∀g,(V.own cb g∨g=pb)→w0.heap.size≤g from λg q=>by
  rcases q with q|q
  ·have:=hlow g q;omega
  ·omega)
 have hB01:Below w0.heap.size w0 W1:=hb0.trans (hb1.mono hb0.size);have HND:=ze (λW (hB:Below w0.heap.size w0 W)=>((hat 1 (by omega)).1.grow hB hgn:yO W gn (on+1*5) (zF n.l 1) (Au 1) (Cu 1)));have hnlen:=hr.len;have hot:=zp n.op;have HN:=ze N1;have HW:=ze hW1;have HB1:=ze hb1;have HB01:=ze hB01;have HPB:=ze hPB;have HNE:=ze h.npb;have n0:=N1.cell 0;have n4:=N1.cell 4;have nl:=N1.lt;simp only[qH,qG,qI]at n0 n4;have HPC:=ze (show Q9 ⟨0,S0,[k0],0,0,0,[],[]⟩ (.slice (some ⟨bk,ok,none⟩) (⟨0,S0,[k0],0,0,0,[],[]⟩:Pt).kids.length Ck,.slice none 0 0,.slice none 0 0)= #[.int .i64 (0:Nat),.int .i64 (S0:Nat),.slice (some ⟨bk,ok,none⟩) 1 Ck,.int .i64 (0:Nat),.int .i64 (0:Nat),.int .i64 (0:Nat),.slice none 0 0,.slice none 0 0]from rfl);have P1:=hPB.hpb;rw[HPC.out]at P1;have a0:=P1.cell 0;have f0:=P1.free 0;have a7:=P1.cell 7;have f7:=P1.free 7;have a6:=P1.cell 6;have f6:=P1.free 6;simp only[qH,qG,qI]at a0 a6 a7;have pl:=P1.lt;have HP1:=ze P1;rw[dK k n _ ho hbad];have HN2:=ze (HND.out W1 hB01);have hby:=Kc hPB.ck (zF n.l 1) (Au 1) (zF n.l 1).l.length (Cu 1) zM;rw[show bs zM=⟨#[107,101,121]⟩from rfl]at hby;have hint:=λW=>zci S0 W hS0
 have HDI:=ze (λr (hr:j0 8192 (xN tg S0) r)=>hr.eq (Qg 8192 (xN tg S0)))
 obtain⟨D,hD⟩:∃D,D=dI S0:=⟨_,rfl⟩
 have HD:=ze (show ∀r,j0 8192 (xN tg S0) r→r=D from λr hr=>by rw[hD];exact HDI.out r hr);simp only[];rw[←hD];have hD2:D≤8192:=by rw[hD];exact zbA S0
 generalize hRB:jh k (zH n.l 1).s (zH n.l 1).a zM=RB at *;have hRB':jh k (zF n.l 1).s (zF n.l 1).a zM=RB:=hRB;rw[hRB']at hby;obtain⟨bb,K1⟩:=RB;have f1:(n.op== [118,101,114,105,116,121])=false:=by rw[ho];decide
 obtain⟨LN,hLN⟩:∃LN,LN=n.l.length:=⟨_,rfl⟩
 have hL1:1<LN:=by omega
 rw[←hLN]at HW HN n4 hnlen hW1 ⊢;have HLN:=ze hLN;have hnp:¬w.heap.size=pb:=HNP.out;have hpn:¬pb=w.heap.size:=λq=>HNP.out q.symm
 have HN2r:=ze (by
  have q:=HN2.out;rw[hW1,Nat.one_mul]at q
  exact q)
 rw[hW1]at n0 n4 nl a0 f0 a6 f6 a7 f7 pl;have f2:(n.op== [99,114,121,112,116])=false:=by rw[ho];decide
 clear h hr hW1 hb1 N1 hPB hlow hB01 hat P1 hRB hRB' hLN hb0 ho hD HDI;unfold qD at *;go_enter Tryz.func71,Tryz.ntmps71
 go_wp2_with (first
  |((refine zi 50 rfl ?_)
    (refine zd (some 50) _ rfl (by rfl) (zu _ _ rfl gn on 1 LN C rfl rfl hL1 _) ?_))
  |((refine zi 51 rfl ?_)
    refine zd (some 51) _ rfl (by rfl) (zC _ rfl gn (on+5) rfl _ HN2r.out) ?_;(unfold zO))
  |((go_at_call 87)
    rw[←HW.out];refine hby.mono ?_;rintro e w3 ⟨A4,C4,rfl,c41,c42,by4,h3,s3⟩;have P3:=HP1.out.onl s3.only HNE.out.1;have a63:=P3.cell 6;have a13:=P3.cell 1;have a03:=P3.cell 0;have f63:=P3.free 6;have f03:=P3.free 0;have f13:=P3.free 1;have pl3:=P3.lt;simp only[qH,qG,qI]at a63 a13 a03;have N3:=HN.out.onl s3.only HNB.out;have n03:=N3.cell 0;have n33:=N3.cell 3;simp only[qH,qG,qI]at n03 n33;have nl3:=N3.lt;obtain⟨-,-,-,c123⟩:=qg h3;have lc3:=h3.has.lt;(have hcp:¬cb=pb:=λq=>HNE.out.1 (.inl q.symm));(have hpc:¬pb=cb:=λq=>HNE.out.1 (.inl q));(rw[hbad]at c123))
  |((go_at_call 89)
    refine(hint _).mono ?_;rintro e w5 ⟨r,rfl,hg5,hw5⟩;subst hw5;(obtain rfl:D=r:=(HD.out r hg5).symm))
  |((refine zi 100 rfl ?_)
    (refine zd (some 100) (.bool (D==0)) rfl (by rfl) (Qx _ _ rfl D 0 rfl rfl _) ?_))
  |((go_at_call 19)
    refine(qk (yE.other (yE.other (yE.other h3 HNE.out 6 _) HNE.out 0 _) HNE.out 1 _) (D==0) 134 n.a).mono ?_;(rintro e w7 ⟨rfl,h7,s7⟩)))
 refine bodyPost_ret (results_none rfl _ _ _) rfl ?_;have hs6:=jS (pb:=pb) (jS (pb:=pb) (jS (pb:=pb) ((Sp.of HB1.out).trans (yM s3)) 6 (.slice A4 bb.length C4)) 0 (.int .i64 7)) 1 (.int .i64 (D:Nat));exact⟨rfl,h7,hs6.trans (yM s7),_,_,(((P3.putP 6 _).putP 0 _).putP 1 _).onl s7.only HNE.out.1,⟨A4,C4,rfl,c41,c42,by4.sp ((jS (jS (jS (Sp.refl _ w3) 6 _) 0 _) 1 _).trans (yM s7)) HNE.out.2⟩,xJ _ _⟩
theorem Da{w0 w:World}{cb:Nat}{V:RV}{k:Rk}{pb S0 k0 bk ok Ck:Nat}(n:Nd)(A:Option Addr)(C:Nat)(hI:d9 E w0 w cb V k pb S0 k0 bk ok Ck n A C)(ho:n.op=jl)(hbad:(jh k (zH n.l 1).s (zH n.l 1).a zM).2.bad=0)(h32:(jh k (zH n.l 1).s (zH n.l 1).a zM).1.length=32):Calls Tryz.prog 71 #[.pointer (some ⟨cb,0,none⟩),.agg (qD n (.slice A n.l.length C)),.pointer (some ⟨pb,0,none⟩)] w (fF E w cb V pb bk ok Ck (ZX k n ⟨0,S0,[k0],0,0,0,[],[]⟩)):=by
 obtain⟨h,hr,hb0,hcb0,hpb0,htwo,hS0⟩:=hI;obtain⟨gn,on,Au,Cu,eA,hgn,hat⟩:=jg hr (by omega);subst eA
 obtain⟨W1,hW1⟩:∃W1,W1=w.alloc (.cells #[.string (bs n.op),.string (bs n.s),.int .i64 n.n,.int .i64 n.a,.slice (some ⟨gn,on,none⟩) n.l.length C] 24):=⟨_,rfl⟩
 have hb1:Below w.heap.size w W1:=by rw[hW1];exact zl w _
 have N1:zm W1 w.heap.size 24 #[.string (bs n.op),.string (bs n.s),.int .i64 n.n,.int .i64 n.a,.slice (some ⟨gn,on,none⟩) n.l.length C]:=by rw[hW1];exact zm.new w _ _
 have hPB:=h.keep hb1;have HNB:=ze (show ¬V.own cb w.heap.size from λq=>absurd (h.ck.low q).2 (Nat.lt_irrefl _));have HNP:=ze (show w.heap.size≠pb from λq=>by have:=h.hpb.lt;omega);have hlow:=λg (q:V.own cb g)=>(h.ck.low q).1
 have HLOW:=ze (show ∀g,(V.own cb g∨g=pb)→w0.heap.size≤g from λg q=>by
  rcases q with q|q
  ·have:=hlow g q;omega
  ·omega)
 have hB01:Below w0.heap.size w0 W1:=hb0.trans (hb1.mono hb0.size);have HND:=ze (λW (hB:Below w0.heap.size w0 W)=>((hat 1 (by omega)).1.grow hB hgn:yO W gn (on+1*5) (zF n.l 1) (Au 1) (Cu 1)));have hnlen:=hr.len;have hot:=zp n.op;have HN:=ze N1;have HW:=ze hW1;have HB1:=ze hb1;have HB01:=ze hB01;have HPB:=ze hPB;have HNE:=ze h.npb;have n0:=N1.cell 0;have n4:=N1.cell 4;have nl:=N1.lt;simp only[qH,qG,qI]at n0 n4;have HPC:=ze (show Q9 ⟨0,S0,[k0],0,0,0,[],[]⟩ (.slice (some ⟨bk,ok,none⟩) (⟨0,S0,[k0],0,0,0,[],[]⟩:Pt).kids.length Ck,.slice none 0 0,.slice none 0 0)= #[.int .i64 (0:Nat),.int .i64 (S0:Nat),.slice (some ⟨bk,ok,none⟩) 1 Ck,.int .i64 (0:Nat),.int .i64 (0:Nat),.int .i64 (0:Nat),.slice none 0 0,.slice none 0 0]from rfl);have P1:=hPB.hpb;rw[HPC.out]at P1;have a0:=P1.cell 0;have f0:=P1.free 0;have a7:=P1.cell 7;have f7:=P1.free 7;have a6:=P1.cell 6;have f6:=P1.free 6;simp only[qH,qG,qI]at a0 a6 a7;have pl:=P1.lt;have HP1:=ze P1;rw[DO k n _ ho hbad];have HN2:=ze (HND.out W1 hB01);have hby:=Kc hPB.ck (zF n.l 1) (Au 1) (zF n.l 1).l.length (Cu 1) zM;rw[show bs zM=⟨#[107,101,121]⟩from rfl]at hby;simp only[];generalize hRB:jh k (zH n.l 1).s (zH n.l 1).a zM=RB at *;have hRB':jh k (zF n.l 1).s (zF n.l 1).a zM=RB:=hRB;rw[hRB']at hby;obtain⟨bb,K1⟩:=RB;have f1:(n.op== [118,101,114,105,116,121])=false:=by rw[ho];decide
 obtain⟨LN,hLN⟩:∃LN,LN=n.l.length:=⟨_,rfl⟩
 have hL1:1<LN:=by omega
 rw[←hLN]at HW HN n4 hnlen hW1 ⊢;have HLN:=ze hLN;have hnp:¬w.heap.size=pb:=HNP.out;have hpn:¬pb=w.heap.size:=λq=>HNP.out q.symm
 have HN2r:=ze (by
  have q:=HN2.out;rw[hW1,Nat.one_mul]at q
  exact q)
 rw[hW1]at n0 n4 nl a0 f0 a6 f6 a7 f7 pl;have f2:(n.op== [99,114,121,112,116])=true:=by rw[ho];decide
 simp only[]at h32 hbad
 obtain⟨Q,hQ'⟩:∃Q,Q=decide (bb.take 16=bb.drop 16):=⟨_,rfl⟩
 rw[←hQ'];have hQ:(bb.take 16==bb.drop 16)=Q:=by rw[hQ',Bool.eq_iff_iff];simp
 clear h hr hW1 hb1 N1 hPB hlow hB01 hat P1 hRB hRB' hLN hb0 ho hQ';unfold qD at *;go_enter Tryz.func71,Tryz.ntmps71
 go_wp2_with (first
  |((refine zi 50 rfl ?_)
    (refine zd (some 50) _ rfl (by rfl) (zu _ _ rfl gn on 1 LN C rfl rfl hL1 _) ?_))
  |((refine zi 51 rfl ?_)
    refine zd (some 51) _ rfl (by rfl) (zC _ rfl gn (on+5) rfl _ HN2r.out) ?_;(unfold zO))
  |((go_at_call 87)
    rw[←HW.out];refine hby.mono ?_;rintro e w3 ⟨A4,C4,rfl,c41,c42,by4,h3,s3⟩;have P3:=HP1.out.onl s3.only HNE.out.1;have a63:=P3.cell 6;have a13:=P3.cell 1;have a03:=P3.cell 0;have f63:=P3.free 6;have f03:=P3.free 0;have f13:=P3.free 1;have pl3:=P3.lt;simp only[qH,qG,qI]at a63 a13 a03;have N3:=HN.out.onl s3.only HNB.out;have n03:=N3.cell 0;have n33:=N3.cell 3;simp only[qH,qG,qI]at n03 n33;have nl3:=N3.lt;obtain⟨-,-,-,c123⟩:=qg h3;have lc3:=h3.has.lt;(have hcp:¬cb=pb:=λq=>HNE.out.1 (.inl q.symm));(have hpc:¬pb=cb:=λq=>HNE.out.1 (.inl q));(rw[hbad]at c123)))
 rw[h32]at c41;have hC4:32≤C4:=c41;obtain⟨bb0,bo,eA4,hbb,hbP,hbc⟩:=Yf by4 (by rw[h32];decide);subst eA4
 obtain⟨W6,hW6⟩:∃W6,W6=(w3.setCell ⟨pb,6,none⟩ (.slice (some ⟨bb0,bo,none⟩) 32 C4)).setCell ⟨pb,0,none⟩ (.int .i64 6):=⟨_,rfl⟩
 rw[←hW6];have hs6:Sp (λg=>V.own cb g∨g=pb) w (λg=>V.own cb g∨g=pb) W6:=by rw[hW6];exact jS (jS ((Sp.of HB1.out).trans (yM s3)) 6 _) 0 _
 have h6:zZ E W6 cb V K1:=by rw[hW6];exact yE.other (yE.other h3 HNE.out 6 _) HNE.out 0 _
 have N6:zm W6 w.heap.size 24 #[.string (bs n.op),.string (bs n.s),.int .i64 n.n,.int .i64 n.a,.slice (some ⟨gn,on,none⟩) LN C]:=by rw[hW6];exact(N3.other (p:=⟨pb,6,none⟩) HNP.out _).other (p:=⟨pb,0,none⟩) HNP.out _
 have P6:zm W6 pb 65 #[.int .i64 (6:Nat),.int .i64 (S0:Nat),.slice (some ⟨bk,ok,none⟩) 1 Ck,.int .i64 (0:Nat),.int .i64 (0:Nat),.int .i64 (0:Nat),.slice (some ⟨bb0,bo,none⟩) 32 C4,.slice none 0 0]:=by rw[hW6];exact(P3.putP 6 _).putP 0 _
 have by6:jK W6 (λg=>¬V.own cb g∧E g) (some ⟨bb0,bo,none⟩) bb:=by rw[hW6];exact by4.sp (jS (jS (Sp.refl _ w3) 6 _) 0 _) HNE.out.2
 have by6t:jK W6.drew (λ_=>True) (some ⟨bb0,bo,none⟩) bb:=by6.keep (Nat.le_refl _) (λk _ _=>⟨rfl,trivial⟩);have a66:=P6.cell 6;have n36:=N6.cell 3;simp only[qH,qG,qI]at a66 n36;clear hW6 P3 a63 a13 a03 f63 f03 by4 h3 s3 N3 n03 n33 hbc hbb hbP c123;refine wp_region_held_drew (S:=λwz=>(wz.cell? ⟨pb,6,none⟩=some (.slice (some ⟨bb0,bo,none⟩) 32 C4)∧wz.cell? ⟨w.heap.size,3,none⟩=some (.int .i64 n.a))∧jK wz (λ_=>True) (some ⟨bb0,bo,none⟩) bb) (by kernel_rfl) (⟨⟨a66,n36⟩,by6t⟩) (λhHeld=>?_);refine zw 0 (some 66) (.pointer (some ⟨cb,0,none⟩)) hHeld ?_;simp only[Act.put,zh,zf,zg];refine zw 1 (some 67) (.pointer (some ⟨pb,0,none⟩)) hHeld ?_;simp only[Act.put,zh,zf,zg];refine zw 2 (some 68) (.pointer (some ⟨pb,0,none⟩)) hHeld ?_;simp only[Act.put,zh,zf,zg];refine zw 3 (some 69) (.pointer (some ⟨pb,6,none⟩)) hHeld ?_;simp only[Act.put,zh,zf,zg];refine zD 4 (some 70) (.slice (some ⟨bb0,bo,none⟩) 32 C4) rfl rfl (λwz hz=>by obtain⟨⟨z0,z1⟩,z2⟩:=hz;unfold execOp;go_simp) hHeld ?_;simp only[Act.put,zh,zf,zg];refine zD 5 (some 71) (.slice (some ⟨bb0,bo,none⟩) 16 C4) rfl rfl (λwz _=>JQ _ rfl bb0 bo C4 rfl hC4 c42 wz) hHeld ?_;simp only[Act.put,zh,zf,zg];refine zD 6 (some 72) (.string (bs (bb.take 16))) rfl rfl (λwz hz=>YV _ rfl (.slice (some ⟨bb0,bo,none⟩) 16 C4) rfl wz _ (zaI C4 h32 hz.2)) hHeld ?_;simp only[Act.put,zh,zf,zg];refine zw 7 (some 73) (.pointer (some ⟨pb,0,none⟩)) hHeld ?_;simp only[Act.put,zh,zf,zg];refine zw 8 (some 74) (.pointer (some ⟨pb,0,none⟩)) hHeld ?_;simp only[Act.put,zh,zf,zg];refine zw 9 (some 75) (.pointer (some ⟨pb,6,none⟩)) hHeld ?_;simp only[Act.put,zh,zf,zg];refine zD 10 (some 76) (.slice (some ⟨bb0,bo,none⟩) 32 C4) rfl rfl (λwz hz=>by obtain⟨⟨z0,z1⟩,z2⟩:=hz;unfold execOp;go_simp) hHeld ?_;simp only[Act.put,zh,zf,zg];refine zD 11 (some 77) (.slice (some ⟨bb0,bo+16,none⟩) 16 (C4-16)) rfl rfl (λwz _=>JS _ rfl bb0 bo C4 rfl hC4 c42 wz) hHeld ?_;simp only[Act.put,zh,zf,zg];refine zD 12 (some 78) (.string (bs (bb.drop 16))) rfl rfl (λwz hz=>YV _ rfl (.slice (some ⟨bb0,bo+16,none⟩) 16 (C4-16)) rfl wz _ (zaQ (C4-16) h32 hz.2)) hHeld ?_;simp only[Act.put,zh,zf,zg];refine zD 13 (some 79) (.bool Q) rfl rfl (λwz _=>XQ _ _ rfl (bb.take 16) (bb.drop 16) rfl rfl Q hQ wz) hHeld ?_;simp only[Act.put,zh,zf,zg];refine zw 14 (some 80) (.pointer (some ⟨w.heap.size,3,none⟩)) hHeld ?_;simp only[Act.put,zh,zf,zg];refine zD 15 (some 81) (.int .i64 n.a) rfl rfl (λwz hz=>by obtain⟨⟨z0,z1⟩,z2⟩:=hz;unfold execOp;go_simp) hHeld ?_;simp only[Act.put,zh,zf,zg];refine qY 16 (some 82) 19 #[.pointer (some ⟨cb,0,none⟩),.bool Q,.int .i64 135,.int .i64 n.a] (by kernel_rfl) rfl rfl (by rfl) (by kernel_rfl) (qk (h6.keep (Below.refl _ W6).drew) Q 135 n.a) ?_;rintro e w7 ⟨rfl,h7,s7⟩;have hs7:Sp (V.own cb) W6 (V.own cb) w7:=Sp.left (Below.refl _ W6).drew s7;have P7:=P6.onl hs7.only HNE.out.1;have N7:=N6.onl hs7.only HNB.out;have a67:=P7.cell 6;have n37:=N7.cell 3;simp only[qH,qG,qI]at a67 n37;have by7:=by6.sp (pb:=pb) (yM hs7) HNE.out.2;refine⟨_,rfl,⟨⟨a67,n37⟩,by7.keep (Nat.le_refl _) (λk _ _=>⟨rfl,trivial⟩)⟩,?_⟩;simp only[Act.put,zh,zf,zg];refine wpAnyH_done (by kernel_rfl) ?_ _
 go_wp2
 refine bodyPost_ret (results_none rfl _ _ _) rfl ?_
 have hfin:fF E w cb V pb bk ok Ck (⟨6,S0,[k0],0,0,0,bb,[]⟩,zA K1 Q 135 n.a) (.returned (.tuple #[])) w7:=⟨rfl,h7,hs6.trans (yM hs7),.slice (some ⟨bb0,bo,none⟩) 32 C4,.slice none 0 0,P7,⟨_,C4,by rw[h32],by rw[h32];exact hC4,c42,by7⟩,xJ _ _⟩
 exact hfin
theorem zbX{w0 w:World}{cb:Nat}{V:RV}{k:Rk}{pb S0 k0 bk ok Ck:Nat}(n:Nd)(A:Option Addr)(C:Nat)(hI:d9 E w0 w cb V k pb S0 k0 bk ok Ck n A C)(ho:n.op=jl∨n.op=qb∨n.op=jf)(h32:(jh k (zH n.l 1).s (zH n.l 1).a zM).2.bad=0→(jh k (zH n.l 1).s (zH n.l 1).a zM).1.length=32):Calls Tryz.prog 71 #[.pointer (some ⟨cb,0,none⟩),.agg (qD n (.slice A n.l.length C)),.pointer (some ⟨pb,0,none⟩)] w (fF E w cb V pb bk ok Ck (ZX k n ⟨0,S0,[k0],0,0,0,[],[]⟩)):=by
 rcases ho with ho|ho|ho
 ·by_cases hb:(jh k (zH n.l 1).s (zH n.l 1).a zM).2.bad=0
  ·exact Da n A C hI ho hb (h32 hb)
  ·exact gd n A C hI (.inl ho) hb
 ·by_cases hb:(jh k (zH n.l 1).s (zH n.l 1).a zM).2.bad=0
  ·exact dw n A C hI ho hb
  ·exact gd n A C hI (.inr ho) hb
 ·exact Hi n A C hI ho
end
section
open Go.ChangeShapes Go.WideShapes Go.ChangeAt Go.RowKit Go.MapKept
variable {E:Nat→Prop}
def RXR(E:Nat→Prop)(w:World)(cb:Nat)(V:RV)(k:Rk)(R:Except Er (Nat×List Pt))(e:Ending)(w':World):Prop:=∃V' k' r,e= .returned (.int .i64 r)∧zZ (λg=>E g∨w.heap.size≤g) w' cb V' k'∧Sp (V.own cb) w (V'.own cb) w'∧Tl k R QI r k'
structure JA (k:Rk) (ns:vJ):Prop where
 nm:yH ns k.parts
 wf:WfO k.parts
def RXC(cb:Nat)(w0:World)(d:Nat):Prop:=∀(E:Nat→Prop) (w:World) (V:RV) (k:Rk) (ns:vJ) (n:Nd) (A:Option Addr) (C:Nat),zZ E w cb V k→jZ w0 n A C→w0.heap.size≤cb→Below w0.heap.size w0 w→gB d n→Nr k.things ns→(k.bad=0→JA k ns) →
 Calls Tryz.prog 43 #[.pointer (some ⟨cb,0,none⟩),.agg (qD n (.slice A n.l.length C))] w (RXR E w cb V k (jb ns d k.parts n))
theorem WfO.more{ps:List Pt}(h:WfO ps):∀ {rs:List Pt},Grown' ps rs→WfO (ps++rs):=by
 intro rs
 induction rs generalizing ps with
 |nil=>intro _;simpa using h
 |cons p rs ih =>
  intro hg
  have h1:WfO (ps++ [p]):=by
   have hat:∀i (hi:i<(ps++ [p]).length),(i<ps.length∧∃q:i<ps.length,(ps++ [p])[i]=ps[i])∨(i=ps.length∧(ps++ [p])[i]=p):=λi hi=>by
    by_cases q:i<ps.length
    ·exact .inl ⟨q,q,List.getElem_append_left q⟩
    ·have :i=ps.length:=by simp at hi;omega
     subst this;exact .inr ⟨rfl,by simp⟩
   refine⟨λi hi j hj=>?_,λi hi e=>?_,λi hi=>?_⟩
   ·rcases hat i hi with⟨q,q',e⟩|⟨q,e⟩
    ·rw[e]at hj;exact h.kids i q j hj
    ·rw[e]at hj;have:=(hg.1.kids j hj).1;omega
   ·rcases hat i hi with⟨q,q',e'⟩|⟨q,e'⟩
    ·rw[e']at e ⊢;exact h.snap i q e
    ·rw[e']at e ⊢;exact(hg.1.snap e).1
   ·rcases hat i hi with⟨q,q',e⟩|⟨q,e⟩
    ·rw[e];exact h.few i q
    ·rw[e];have:=hg.1.four;omega
  have:=ih h1 hg.2
  simpa using this
def QO(xs:List Nat)(r:List Int):Prop:=r=xs.map (λ(x:Nat)=>(x:Int))
structure RKs (E:Nat→Prop) (W1 wr:World) (cb:Nat) (V V':RV) (k k':Rk) (ns:vJ) (d:Nat) (l:List Nd) (i:Nat) (v:Value) (ks:List Int):Prop where
 tl:Tl k (jz (jb ns d) k.parts ((l.take i).filter λx=> !(x.op==vu||x.op==jM))) QO ks k'
 row:wr.ownsRow W1.heap.size 3 1 v ks.length (ks.map λx=> .int .i64 x)
 free:∀g,v.ownBlock=some g→¬V'.own cb g
 ck:zZ (λg=>(E g∨W1.heap.size≤g)∧v.ownBlock≠some g) wr cb V' k'
 stp:Sp (V.own cb) W1 (V'.own cb) wr
 len:ks.length≤i
 things:k'.things=k.things
theorem Tl.things{α β:Type}{k k':Rk}{R:Except Er (α×List Pt)}{I:α→β→Prop}{r:β}(h:Tl k R I r k'):k'.things=k.things:=by
 by_cases hb:k.bad=0
 ·have:=h.2 hb
  cases R with
  |error e=>obtain⟨_,e2⟩:=this;rw[e2]
  |ok x=>obtain⟨_,e2⟩:=this;rw[e2]
 ·rw[h.1 hb]
theorem Tl.good{α β:Type}{k k':Rk}{R:Except Er (α×List Pt)}{I:α→β→Prop}{r:β}(h:Tl k R I r k')(hb:k'.bad=0):k.bad=0∧∃x ps,R= .ok (x,ps)∧I x r∧k'= { k with parts:=ps }:=by
 have h0:k.bad=0:=by
  by_cases q:k.bad=0
  ·exact q
  ·rw[h.1 q]at hb;exact absurd hb q
 refine⟨h0,?_⟩;have:=h.2 h0;cases R with
 |error e =>
  obtain⟨ec,ea⟩:=e;obtain⟨q,e2⟩:=this;rw[e2]at hb;have hb':((ec:Nat):Int)=0:=hb;omega
 |ok x=>obtain⟨x,ps⟩:=x;exact⟨x,ps,rfl,this.1,this.2⟩
theorem RKs.tl_step{k k' k5:Rk}{ns:vJ}{d:Nat}{l:List Nd}{i:Nat}{ks:List Int}{r:Int}(h:Tl k (jz (jb ns d) k.parts ((l.take i).filter λx=> !(x.op==vu||x.op==jM))) QO ks k')(hi:i<l.length)(hx:(l[i].op==vu||l[i].op==jM)=false)(h5:Tl k' (jb ns d k'.parts l[i]) QI r k5):Tl k (jz (jb ns d) k.parts ((l.take (i+1)).filter λx=> !(x.op==vu||x.op==jM))) QO (ks++ [r]) k5:=by
 rw[ZG l hi,hx];simp only[Bool.false_eq_true,if_false];rw[QW];refine⟨λhb=>?_,λhb=>?_⟩
 ·have e:=h.1 hb
  rw[h5.1 (by rw[e];exact hb),e]
 ·have h2:=h.2 hb
  cases hc:jz (jb ns d) k.parts ((l.take i).filter λx=> !(x.op==vu||x.op==jM))with
  |error er =>
   obtain⟨ec,ea⟩:=er;rw[hc]at h2;obtain⟨q,e⟩:=h2;have hb':k'.bad≠0:=by rw[e];show((ec:Nat):Int)≠0;omega
   rw[h5.1 hb'];exact⟨q,e⟩
  |ok y =>
   obtain⟨js,ps⟩:=y;rw[hc]at h2;obtain⟨q,e⟩:=h2;have hb':k'.bad=0:=by rw[e];exact hb
   have h6:=h5.2 hb';have ep:k'.parts=ps:=by rw[e]
   rw[ep]at h6;simp only;cases hr:jb ns d ps l[i]with
   |error er =>
    obtain⟨ec,ea⟩:=er;rw[hr]at h6;obtain⟨q2,e2⟩:=h6;refine⟨q2,?_⟩;rw[e2,e]
   |ok z =>
    obtain⟨j,p5⟩:=z;rw[hr]at h6;obtain⟨q2,e2⟩:=h6;refine⟨?_,?_⟩
    ·unfold QO at q ⊢
     unfold QI at q2;rw[q,q2,List.map_append];rfl
    ·rw[e2,e]
theorem RKs.step{E:Nat→Prop}{W1 wr w5 w6:World}{cb:Nat}{V V' V5:RV}{k k' k5:Rk}{ns:vJ}{d:Nat}{l:List Nd}{i:Nat}{v:Value}{ks:List Int}{r:Int}{A6:Option Addr}{C6:Nat}(h:RKs E W1 wr cb V V' k k' ns d l i v ks)(hi:i<l.length)(hx:(l[i].op==vu||l[i].op==jM)=false)
 (h5:zZ (λg=>((E g∨W1.heap.size≤g)∧v.ownBlock≠some g)∨wr.heap.size≤g) w5 cb V5 k5) (s5:Sp (V'.own cb) wr (V5.own cb) w5) (t5:Tl k' (jb ns d k'.parts l[i]) QI r k5)
 (hr6:w6.ownsRow W1.heap.size 3 1 (.slice A6 (ks.length+1) C6) (ks.length+1) (ks.map (λx=> .int .i64 x)++ [.int .i64 r])) (hg6:(w5.alloc (.cells #[.int .i64 r] 3)).grownBy w6 v.ownBlock) (hw6:(Value.slice A6 (ks.length+1) C6).ownBlock=v.ownBlock∨(Value.slice A6 (ks.length+1) C6).ownBlock=some (w5.alloc (.cells #[.int .i64 r] 3)).heap.size):
 RKs E W1 w6 cb V V5 k k5 ns d l (i+1) (.slice A6 (ks.length+1) C6) (ks++ [r]):=by
 have hvl:∀g,v.ownBlock=some g→W1.heap.size≤g∧g<wr.heap.size:=λg e=>(qR h.row e).symm
 have hs5:=s5.size;have hin:∀g,v.ownBlock=some g→¬V5.own cb g:=λg e=>(s5.inner g (hvl g e).2 (h.free g e)).2
 have hb5:=zl w5 (.cells #[.int .i64 r] 3);have hsz5:(w5.alloc (.cells #[.int .i64 r] 3)).heap.size=w5.heap.size+1:=by simp
 have h5':zZ (λg=>(E g∨W1.heap.size≤g)∧v.ownBlock≠some g∧g≠(w5.alloc (.cells #[.int .i64 r] 3)).heap.size) (w5.alloc (.cells #[.int .i64 r] 3)) cb V5 k5:=by
  refine(h5.keep hb5).mono (λg hg hn he=>?_);refine⟨?_,?_,by omega⟩
  ·rcases he with he|he
   ·exact he.1
   ·exact .inr (Nat.le_trans h.stp.size he)
  ·rcases he with he|he
   ·exact he.2
   ·intro e
    have:=(hvl g e).2;omega
 have h6:=h5'.grown hg6 hin (λg he=>he.2.1);refine⟨RKs.tl_step h.tl hi hx t5,by rw[List.length_append,List.length_singleton,List.map_append,List.map_cons,List.map_nil];exact hr6,λg e=>?_,h6.mono (λg hg hn he=>⟨he.1,λe=>?_⟩),?_,by have:=h.len;simp;omega,(Tl.things t5).trans h.things⟩
 ·rcases hw6 with q|q
  ·exact hin g (q ▸ e)
  ·rw[q]at e
   cases e;intro ho;have:=(h5.low ho).2;omega
 ·rcases hw6 with q|q
  ·exact he.2.1 (q ▸ e)
  ·rw[q]at e
   cases e;exact he.2.2 rfl
 ·exact((h.stp.trans s5).trans (Sp.of hb5)).grown hg6 (λg e=>(hvl g e).1)
theorem RKs.pass{E:Nat→Prop}{W1 wr:World}{cb:Nat}{V V':RV}{k k':Rk}{ns:vJ}{d:Nat}{l:List Nd}{i:Nat}{v:Value}{ks:List Int}(h:RKs E W1 wr cb V V' k k' ns d l i v ks)(hi:i<l.length)(hx:(l[i].op==vu||l[i].op==jM)=true):RKs E W1 wr cb V V' k k' ns d l (i+1) v ks:=by
 refine⟨?_,h.row,h.free,h.ck,h.stp,Nat.le_succ_of_le h.len,h.things⟩;rw[ZG l hi,hx];simp only[if_true,List.append_nil];exact h.tl
theorem F8{w:World}{cb:Nat}{V:RV}{k:Rk}{ns:vJ}(h:zZ E w cb V k)(hN:Nr k.things ns)(n:Nd)(A:Option Addr)(L C d:Nat)(ho:n.op=vK):Calls Tryz.prog 43 #[.pointer (some ⟨cb,0,none⟩),.agg (qD n (.slice A L C))] w (RXR E w cb V k (jb ns (d+1) k.parts n)):=by
 have hR:jb ns (d+1) k.parts n=match jk ns n [zn,zB]with | .error e=> .error e| .ok m=> .ok (m.node,k.parts):=by
  show(if n.op=vK then _ else _)=_;rw[if_pos ho];rfl
 obtain⟨RR,hRR⟩:∃RR,RR=jb ns (d+1) k.parts n:=⟨_,rfl⟩
 rw[←hRR];have HT:=ze (show Tl k RR QI (Ze k n.s n.a).1 (Ze k n.s n.a).2 by rw[hRR,hR];exact KE hN n);have f0:(n.op== [117,115,101])=true:=by rw[ho];decide
 have hot:=zp n.op
 obtain⟨W1,hW1⟩:∃W1,W1=w.alloc (.cells #[.string (bs n.op),.string (bs n.s),.int .i64 n.n,.int .i64 n.a,.slice A L C] 24):=⟨_,rfl⟩
 have hb1:Below w.heap.size w W1:=by rw[hW1];exact zl w _
 have hv:=dL (h.keep hb1) n.s n.a;rw[hW1]at hv;have HW:=ze hW1;have HB:=ze hb1;generalize Ze k n.s n.a=RV at *;obtain⟨r,K1⟩:=RV;clear hW1 hR hRR ho h hb1;unfold qD at *;go_enter Tryz.func43,Tryz.ntmps43
 go_wp2_with (first
  |((go_at_call 39)
    refine hv.mono ?_;(rintro e w2 ⟨rfl,h2,s2⟩)))
 go_ret
 rw[←HW.out]at s2;exact⟨V,K1,r,rfl,h2.mono (λg _ _ e=> .inl e),Sp.left HB.out s2,HT.out⟩
end
end Go.Proofs.YteaddcdpgcgggaaGreatDoor
