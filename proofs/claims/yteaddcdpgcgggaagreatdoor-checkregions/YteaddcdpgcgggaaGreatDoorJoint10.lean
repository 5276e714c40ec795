import Derived.Test.YteaddcdpgcgggaaGreatDoorJoint09
import Derived.Test.YteaddcdpgcgggaaGreatDoorJoint03
namespace Go.Proofs.YteaddcdpgcgggaaGreatDoor
set_option linter.unusedVariables false
set_option maxRecDepth 100000
set_option maxHeartbeats 40000000
section
open Go.ChangeShapes Go.WideShapes Go.ChangeAt Go.RowKit Go.MapKept
variable {E:Nat→Prop}
def ZE(ps:List Pt)(ks:List Nat)(i:Nat):Nat:=((ks.take i).map (sz ps)).sum
def QF(ps:List Pt)(ks:List Nat)(i:Nat):Bool:=(ks.take i).all λk=>sz ps k==sz ps (ks.getD 0 0)
theorem uU(ps:List Pt)(ks:List Nat){i:Nat}(h:i<ks.length):ZE ps ks (i+1)=ZE ps ks i+sz ps ks[i]:=by
 unfold ZE;rw[List.take_succ_eq_append_getElem h,List.map_append,List.sum_append];rfl
theorem UZ(ps:List Pt)(ks:List Nat){i:Nat}(h:i<ks.length):QF ps ks (i+1)=(QF ps ks i&&(sz ps ks[i]==sz ps (ks.getD 0 0))):=by
 unfold QF;rw[List.take_succ_eq_append_getElem h,List.all_append];simp only[List.all_cons,List.all_nil,Bool.and_true]
theorem Hs(ps:List Pt)(ks:List Nat)(hk:∀k ∈ ks,sz ps k≤8192)(i:Nat):ZE ps ks i≤i*8192:=by
 unfold ZE
 have :∀l:List Nat,(∀k ∈ l,sz ps k≤8192)→(l.map (sz ps)).sum≤l.length*8192:=by
  intro l
  induction l with
  |nil=>intro _;simp
  |cons a l ih =>
   intro h;have h1:=h a (by simp);have h2:=ih (λk hk=>h k (by simp[hk]));simp only[List.map_cons,List.sum_cons,List.length_cons];omega
 have h1:=this (ks.take i) (λk h=>hk k (List.mem_of_mem_take h));have h2:(ks.take i).length≤i:=by simp;omega
 exact Nat.le_trans h1 (Nat.mul_le_mul_right 8192 h2)
theorem gV(ps:List Pt)(s:Nat):∀(l:List Nat),(l.all λk=>sz ps k==s)=true→(l.map (sz ps)).sum=s*l.length:=by
 intro l
 induction l with
 |nil=>intro _;rfl
 |cons a l ih =>
  intro h;simp only[List.all_cons,Bool.and_eq_true,beq_iff_eq]at h;simp only[List.map_cons,List.sum_cons,List.length_cons,ih h.2,h.1];rw[Nat.mul_succ];omega
theorem fg{w:World}{cb:Nat}{V:CV}{c:Ck}(h:qq E w cb V c)(n:Nd)(A:Option Addr)(L C:Nat)(ks:List Nat){P:Nat→Prop}(Ak:Option Addr)(Ck:Nat)(hK:ZS w P Ak ks)(hl2:2≤ks.length)(hl4:ks.length≤4)(hCk:ks.length≤Ck)(hCm:Ck≤maxLen)(hok:∀k ∈ ks,k<c.parts.length∧sz c.parts k≤8192):
 Calls Tryz.prog 105 #[.pointer (some ⟨cb,0,none⟩),.agg (qD n (.slice A L C)),.slice Ak ks.length Ck] w (Zn w (GJ (Gh c.parts n ks))):=by
 have hk0:0<ks.length:=by omega
 have hp0:0<c.parts.length:=by have:=(hok _ (List.getElem_mem hk0)).1;omega
 obtain⟨g,op,Cp,evp,hCp1,hCp2,hg,hSz⟩:=h.vp hp0
 obtain⟨bk,ok,rfl,hbk,-,hcells⟩:∃b off,Ak=some ⟨b,off,none⟩∧b<w.heap.size∧P b∧∀j (h:j<ks.length),w.cell? ⟨b,off+j,none⟩=some (.int .i64 (ks[j]:Nat)):=by
  rcases hK with h|h
  ·rw[h]at hk0;simp at hk0
  ·exact h
 have hgd:ks.getD 0 0=ks[0]:=by rw[List.getD_eq_getElem?_getD,List.getElem?_eq_getElem hk0];rfl
 obtain⟨W2,hW2⟩:∃W2,W2=(w.alloc (.cells #[.string (bs n.op),.string (bs n.s),.int .i64 n.n,.int .i64 n.a,.slice A L C] 24)).alloc (.cells #[.int .i64 0,.int .i64 0,.slice none 0 0,.int .i64 0,.int .i64 0,.int .i64 0,.slice none 0 0,.slice none 0 0] 65):=⟨_,rfl⟩
 have hb2:Below w.heap.size w W2:=by rw[hW2];exact yr w _ _
 have P2:zm W2 (w.heap.size+1) 65 #[.int .i64 0,.int .i64 0,.slice none 0 0,.int .i64 0,.int .i64 0,.int .i64 0,.slice none 0 0,.slice none 0 0]:=by rw[hW2];exact zm.new_at (by simp)
 have N2:zm W2 w.heap.size 24 #[.string (bs n.op),.string (bs n.s),.int .i64 n.n,.int .i64 n.a,.slice A L C]:=by rw[hW2];exact(zm.new w _ _).alloc _
 have c2:=h.has.cell 2;simp only[List.getElem?_toArray,List.getElem?_cons_zero,List.getElem?_cons_succ,evp]at c2;have lcb:=h.has.lt;have hsum:=Hs c.parts ks (λk hk=>(hok k hk).2);have HW:Hid (W2=(w.alloc (.cells #[.string (bs n.op),.string (bs n.s),.int .i64 n.n,.int .i64 n.a,.slice A L C] 24)).alloc (.cells #[.int .i64 0,.int .i64 0,.slice none 0 0,.int .i64 0,.int .i64 0,.int .i64 0,.slice none 0 0,.slice none 0 0] 65)):=hW2;have hot:=zp n.op;have HSU:Hid (∀i (h:i<ks.length),ZE c.parts ks (i+1)=ZE c.parts ks i+sz c.parts ks[i]):=λi h=>uU _ _ h
 have HAL:Hid (∀i (h:i<ks.length),QF c.parts ks (i+1)=(QF c.parts ks i&&(sz c.parts ks[i]==sz c.parts (ks.getD 0 0)))):=λi h=>UZ _ _ h
 have HR:Hid (Gh c.parts n ks=if n.op=qQ then(if ZE c.parts ks ks.length≤8192 then .ok ⟨3,ZE c.parts ks ks.length,ks,0,0,0,[],[]⟩else .error (134,n.a))else if QF c.parts ks ks.length=true then .ok ⟨4,sz c.parts (ks.getD 0 0),ks,0,0,0,[],[]⟩else .error (134,n.a)):=by
  show Gh c.parts n ks=_;unfold Gh ZE QF;rw[List.take_length]
 have HAS:Hid (QF c.parts ks ks.length=true→ZE c.parts ks ks.length=sz c.parts (ks.getD 0 0)*ks.length):=by
  unfold ZE QF;rw[List.take_length];exact gV _ _ _
 have HSz:Hid (∀k ∈ ks,k<c.parts.length∧sz c.parts k≤8192):=hok
 obtain⟨NP,hNP⟩:∃NP,NP=c.parts.length:=⟨_,rfl⟩
 have HNP:Hid (NP=c.parts.length):=hNP;rw[←hNP]at hCp1 c2 evp
 obtain⟨Lk,hLk⟩:∃Lk,Lk=ks.length:=⟨_,rfl⟩
 have HLk:Hid (Lk=ks.length):=hLk;rw[←hLk]at hl2 hl4 hCk hk0 ⊢
 obtain⟨D,hD⟩:∃D:Nat→Nat,D=ZE c.parts ks:=⟨_,rfl⟩
 obtain⟨E,hE⟩:∃E:Nat→Bool,E=QF c.parts ks:=⟨_,rfl⟩
 have hD0:D 0=0:=by rw[hD];rfl
 have hE0:E 0=true:=by rw[hE];rfl
 rw[←hD]at HSU HR HAS hsum;rw[←hE]at HAL HR HAS;unfold qD;clear hW2 hNP hLk hD hE hok hK h hp0;have hL0:0<Lk:=hk0;go_enter Tryz.func105,Tryz.ntmps105
 go_wp2
 rw[←HW.out]
 go_loopw [7,8,13] (λz7 z8 z13 wr=>∃i:Nat,z7= .int .i64 (D i:Nat)∧z8= .bool (E i)∧z13= .int .i64 (i:Nat)∧i≤Lk∧Below W2.heap.size W2 wr) (λ_ _ z _=>Lk-(intOf z).toNat)
 case atStart=>exact⟨0,by rw[hD0];rfl,by rw[hE0],rfl,Nat.zero_le _,Below.refl _ _⟩
 case round =>
  obtain⟨i,rfl,rfl,rfl,hi,hB⟩:=hrel;have hD4:=hsum i;by_cases hlt:i<Lk
  ·have hlt':i<ks.length:=by rw[←HLk.out];exact hlt
   have hk0':0<ks.length:=by rw[←HLk.out];exact hL0
   have hB0:Below w.heap.size w wr:=hb2.trans (hB.mono hb2.size);have cki:=za hB0 (hcells i hlt');have k0r:=za hB0 (hcells 0 hk0');have c2r:=za hB0 c2;obtain⟨hKn',hSle⟩:=HSz.out _ (List.getElem_mem hlt');obtain⟨hK0n',hS0le⟩:=HSz.out _ (List.getElem_mem hk0');have sKr:=hSz.below hB0 hg _ hKn';have s0r:=hSz.below hB0 hg _ hK0n';have HSi:=HSU.out i hlt';have HAi:=HAL.out i hlt';rw[hgd]at HAi;rw[←HNP.out]at hKn' hK0n';have lcr:cb<wr.heap.size:=Nat.lt_of_lt_of_le lcb hB0.size;have lbk:bk<wr.heap.size:=Nat.lt_of_lt_of_le hbk hB0.size;have lg:g<wr.heap.size:=Nat.lt_of_lt_of_le hg hB0.size;generalize sz c.parts ks[i]=S at *;generalize sz c.parts ks[0]=S0 at *;generalize ks[i]=K at *;generalize ks[0]=K0 at *;have hKn:K<NP:=hKn';have hK0n:K0<NP:=hK0n';have HI1:Hid (D (i+1)=D i+S):=HSi;have HI2:Hid (E (i+1)=(E i&&(S==S0))):=HAi;clear HSi HAi hKn' hK0n'
   obtain⟨T,hT⟩:∃T,T=D i:=⟨_,rfl⟩
   obtain⟨B,hB'⟩:∃B,B=E i:=⟨_,rfl⟩
   rw[←hT]at HI1 hD4 ⊢;rw[←hB']at HI2 ⊢;have hTb:T≤40000:=by omega
   clear hT hB' hD4;have hint:(i:Int)<(Lk:Int):=by omega
   have hKint:(K:Int)<(NP:Int):=by omega
   cases B with
   |true =>
    go_wp2_with (first
     |((refine zi 15 rfl ?_)
       (refine zd (some 15) _ rfl (by rfl) (qh _ _ rfl bk ok i Lk Ck rfl rfl hlt wr) ?_))
     |((refine zi 24 rfl ?_)
       (refine zd (some 24) _ rfl (by rfl) (zE _ _ rfl g op K NP Cp rfl rfl hKn wr) ?_)))
    refine wp_region_held_drew (S:=λwz=>wz.cell? ⟨cb,2,none⟩=some (.slice (some ⟨g,op,none⟩) NP Cp)∧wz.cell? ⟨bk,ok,none⟩=some (.int .i64 (K0:Nat))∧wz.cell? ⟨g,op+K*8+1,none⟩=some (.int .i64 (S:Nat))∧wz.cell? ⟨g,op+K0*8+1,none⟩=some (.int .i64 (S0:Nat))) (by kernel_rfl) (⟨c2r,k0r,sKr,s0r⟩) (λhHeld=>?_);refine zw 0 (some 28) (.bool true) hHeld ?_;simp only[Act.put,zh,zf,zg];refine zw 1 (some 29) (.bool true) hHeld ?_;simp only[Act.put,zh,zf,zg];refine zw 2 (some 30) (.pointer (some ⟨cb,0,none⟩)) hHeld ?_;simp only[Act.put,zh,zf,zg];refine zw 3 (some 31) (.pointer (some ⟨cb,0,none⟩)) hHeld ?_;simp only[Act.put,zh,zf,zg];refine zw 4 (some 32) (.pointer (some ⟨cb,0,none⟩)) hHeld ?_;simp only[Act.put,zh,zf,zg];refine zw 5 (some 33) (.pointer (some ⟨cb,2,none⟩)) hHeld ?_;simp only[Act.put,zh,zf,zg];refine zD 6 (some 34) (.slice (some ⟨g,op,none⟩) NP Cp) rfl rfl (λwz hz=>by obtain⟨z0,z1,z2,z3⟩:=hz;unfold execOp;go_simp) hHeld ?_;simp only[Act.put,zh,zf,zg];refine zw 7 (some 35) (.int .i64 (K:Nat)) hHeld ?_;simp only[Act.put,zh,zf,zg];refine zD 8 (some 36) (.pointer (some ⟨g,op+K*8,none⟩)) rfl rfl (λwz _=>zE _ _ rfl g op K NP Cp rfl rfl hKn wz) hHeld ?_;simp only[Act.put,zh,zf,zg];refine zw 9 (some 37) (.pointer (some ⟨g,op+K*8+1,none⟩)) hHeld ?_;simp only[Act.put,zh,zf,zg];refine zD 10 (some 38) (.int .i64 (S:Nat)) rfl rfl (λwz hz=>by obtain⟨z0,z1,z2,z3⟩:=hz;unfold execOp;go_simp) hHeld ?_;simp only[Act.put,zh,zf,zg];refine zw 11 (some 39) (.pointer (some ⟨cb,0,none⟩)) hHeld ?_;simp only[Act.put,zh,zf,zg];refine zw 12 (some 40) (.pointer (some ⟨cb,0,none⟩)) hHeld ?_;simp only[Act.put,zh,zf,zg];refine zw 13 (some 41) (.pointer (some ⟨cb,0,none⟩)) hHeld ?_;simp only[Act.put,zh,zf,zg];refine zw 14 (some 42) (.pointer (some ⟨cb,2,none⟩)) hHeld ?_;simp only[Act.put,zh,zf,zg];refine zD 15 (some 43) (.slice (some ⟨g,op,none⟩) NP Cp) rfl rfl (λwz hz=>by obtain⟨z0,z1,z2,z3⟩:=hz;unfold execOp;go_simp) hHeld ?_;simp only[Act.put,zh,zf,zg];refine zw 16 (some 44) (.slice (some ⟨bk,ok,none⟩) Lk Ck) hHeld ?_;simp only[Act.put,zh,zf,zg];refine zD 17 (some 45) (.pointer (some ⟨bk,ok,none⟩)) rfl rfl (λwz _=>qh _ _ rfl bk ok 0 Lk Ck rfl rfl hL0 wz) hHeld ?_;simp only[Act.put,zh,zf,zg];refine zD 18 (some 46) (.int .i64 (K0:Nat)) rfl rfl (λwz hz=>by obtain⟨z0,z1,z2,z3⟩:=hz;unfold execOp;go_simp) hHeld ?_;simp only[Act.put,zh,zf,zg];refine zD 19 (some 47) (.pointer (some ⟨g,op+K0*8,none⟩)) rfl rfl (λwz _=>zE _ _ rfl g op K0 NP Cp rfl rfl hK0n wz) hHeld ?_;simp only[Act.put,zh,zf,zg];refine zw 20 (some 48) (.pointer (some ⟨g,op+K0*8+1,none⟩)) hHeld ?_;simp only[Act.put,zh,zf,zg];refine zD 21 (some 49) (.int .i64 (S0:Nat)) rfl rfl (λwz hz=>by obtain⟨z0,z1,z2,z3⟩:=hz;unfold execOp;go_simp) hHeld ?_;simp only[Act.put,zh,zf,zg];refine zD 22 (some 50) (.bool (S==S0)) rfl rfl (λwz _=>Qx _ _ rfl S S0 rfl rfl wz) hHeld ?_;simp only[Act.put,zh,zf,zg];refine zw 23 (some 51) (.bool (S==S0)) hHeld ?_;simp only[Act.put,zh,zf,zg];refine zw 24 (some 8) (.bool (S==S0)) hHeld ?_;simp only[Act.put,zh,zf,zg];refine wpAnyH_done (by kernel_rfl) ?_ _
    go_wp2
    go_roundw
    case rel=>exact⟨i+1,by rw[HI1.out];go_num,by rw[HI2.out];rfl,by go_num,by omega,zr hB⟩
    case measure=>simp[intOf];omega
   |false =>
    go_wp2_with (first
     |((refine zi 15 rfl ?_)
       (refine zd (some 15) _ rfl (by rfl) (qh _ _ rfl bk ok i Lk Ck rfl rfl hlt wr) ?_))
     |((refine zi 24 rfl ?_)
       (refine zd (some 24) _ rfl (by rfl) (zE _ _ rfl g op K NP Cp rfl rfl hKn wr) ?_)))
    go_quiet (fail)
    go_wp2
    go_roundw
    case rel=>exact⟨i+1,by rw[HI1.out];go_num,by rw[HI2.out];rfl,by go_num,by omega,j7 hB _⟩
    case measure=>simp[intOf];omega
  ·obtain rfl:i=Lk:=by omega
   rw[←HLk.out]at HAS HR;have hB0:Below w.heap.size w wr:=hb2.trans (hB.mono hb2.size);have P3:=P2.below hB P2.lt;have N3:=N2.below hB N2.lt;have nc0:=N3.cell 0;have nc3:=N3.cell 3;have ln3:=N3.lt;have lp3:=P3.lt;have a0:=P3.cell 0;have b0:=P3.free 0;have a1:=P3.cell 1;have b1:=P3.free 1;have a2:=P3.cell 2;have b2:=P3.free 2;have a3:=P3.cell 3;have b3:=P3.free 3;have a4:=P3.cell 4;have b4:=P3.free 4;have a5:=P3.cell 5;have b5:=P3.free 5;have a6:=P3.cell 6;have b6:=P3.free 6;have a7:=P3.cell 7;have b7:=P3.free 7
   obtain⟨T,hT⟩:∃T,T=D i:=⟨_,rfl⟩
   obtain⟨B,hB'⟩:∃B,B=E i:=⟨_,rfl⟩
   rw[←hT]at HAS HR hD4 ⊢;rw[←hB']at HAS HR ⊢;have hTb:T≤40000:=by omega
   obtain⟨s0,hs0⟩:∃s0,s0=sz c.parts (ks.getD 0 0):=⟨_,rfl⟩
   rw[←hs0]at HAS HR;clear hT hB' hs0 hD4 HSU HAL;have fin:∀(kd s:Nat) (kk:List Nat),Zn w (GJ (.ok ⟨kd,s,kk,0,0,0,[],[]⟩)) (.returned (.agg #[.int .i64 (kd:Nat),.int .i64 (s:Nat),.slice none 0 0,.int .i64 0,.int .i64 0,.int .i64 0,.slice none 0 0,.slice none 0 0])) (Z7 wr (w.heap.size+1) (.int .i64 (kd:Nat)) (.int .i64 (s:Nat)) (.slice none 0 0) (.int .i64 0) (.int .i64 0) (.int .i64 0) (.slice none 0 0) (.slice none 0 0)):=λkd s kk=>⟨K9 hB0 (Nat.le_succ _) _ _ _ _ _ _ _ _,(.slice none 0 0,.slice none 0 0,.slice none 0 0),rfl,⟨none,0,rfl,Nat.le_refl _,by unfold maxLen;omega,.inl rfl⟩,⟨none,0,rfl,Nat.le_refl _,by unfold maxLen;omega,.inl rfl⟩,⟨none,0,rfl,Nat.le_refl _,by unfold maxLen;omega,.inl rfl⟩⟩
   by_cases hco:n.op=qQ
   ·have HR:=HR.out.trans (if_pos hco)
    have f0:(n.op== [99,111,110,99,97,116])=true:=by rw[hco];decide
    clear hco;by_cases hle:T≤8192
    ·have HQ:=ze (HR.trans (if_pos hle))
     clear HR;have hTi:(T:Int)≤8192:=by omega
     have hTd:decide (T≤8192)=true:=decide_eq_true hle
     go_wp2_with (first
      |((go_at_call 62)
        refine(qL 134 n.a _).mono ?_;rintro e w5 ⟨rfl,hw5⟩;(obtain rfl:wr=w5:=hw5.symm)))
     exact yX rfl rfl (P3.set8 _ _ _ _ _ _ _ _) rfl (by rw[HQ.out];exact fin 3 T ks)
    ·have HQ:=ze (HR.trans (if_neg hle))
     clear HR;have hTi:¬(T:Int)≤8192:=by omega
     have hTd:decide (T≤8192)=false:=decide_eq_false hle
     go_wp2_with (first
      |((go_at_call 62)
        refine(jA 134 n.a _).mono ?_;(rintro e w5 ⟨rfl,rfl⟩)))
     exact⟨rfl,hB0,by rw[HQ.out];rfl⟩
   ·have HR:=HR.out.trans (if_neg hco)
    have f0:(n.op== [99,111,110,99,97,116])=false:=by rw[beq_eq_false_iff_ne];exact hco
    clear hco;cases B with
    |true =>
     have HQ:=ze (HR.trans (if_pos rfl));clear HR;have hq:=HAS.out rfl;have hle:s0*i≤1000000:=by omega
     subst hq
     go_wp2_with (first
      |((go_at_call 62)
        refine(qL 134 n.a _).mono ?_;rintro e w5 ⟨rfl,hw5⟩;(obtain rfl:wr=w5:=hw5.symm))
      |((refine zi 70 rfl ?_)
        (refine zd (some 70) (.int .i64 (s0:Nat)) rfl (by rfl) (dh _ _ rfl s0 i rfl rfl hL0 hle wr) ?_)))
     exact yX rfl rfl (P3.set8 _ _ _ _ _ _ _ _) rfl (by rw[HQ.out];exact fin 4 s0 ks)
    |false =>
     have HQ:=ze (HR.trans (if_neg (by decide)));clear HR
     go_wp2_with (first
      |((go_at_call 62)
        refine(jA 134 n.a _).mono ?_;(rintro e w5 ⟨rfl,rfl⟩)))
     exact⟨rfl,hB0,by rw[HQ.out];rfl⟩
end
section
open Go.ChangeShapes Go.WideShapes Go.ChangeAt Go.RowKit Go.MapKept
variable {E:Nat→Prop}
theorem JQ{o:Oper}{a:Act}(x:Operand)(ho:o.op= .slice 63 x none (some (.const (.int .i64 16))) none)(b off C:Nat)(hx:a.eval x= .slice (some ⟨b,off,none⟩) 32 C)(hC:32≤C)(hm:C≤maxLen)(w:World):(execOp a.eval o).run Tryz.prog w= .ok (.value (.slice (some ⟨b,off,none⟩) 16 C)) w:=by
 unfold maxLen at hm;have h1:(16:Int)≤(C:Int):=by omega
 have h2:¬((C:Nat):Int)<16:=by omega
 have h3:¬C<16:=by omega
 have h4:16≤C:=by omega
 unfold execOp;simp only[ho,hx];go_simp
theorem JS{o:Oper}{a:Act}(x:Operand)(ho:o.op= .slice 63 x (some (.const (.int .i64 16))) none none)(b off C:Nat)(hx:a.eval x= .slice (some ⟨b,off,none⟩) 32 C)(hC:32≤C)(hm:C≤maxLen)(w:World):(execOp a.eval o).run Tryz.prog w= .ok (.value (.slice (some ⟨b,off+16,none⟩) 16 (C-16))) w:=by
 unfold maxLen at hm;have h1:(32:Int)≤(C:Int):=by omega
 have h3:¬C<32:=by omega
 have h4:¬C-16=0:=by omega
 have h5:¬C=16:=by omega
 unfold execOp;simp only[ho,hx];go_simp
theorem Yf{w:World}{P:Nat→Prop}{A:Option Addr}{l:List UInt8}(h:jK w P A l)(hl:0<l.length):∃b off,A=some ⟨b,off,none⟩∧b<w.heap.size∧P b∧∀j (h:j<l.length),w.cell? ⟨b,off+j,none⟩=some (.int .u8 (l[j].toNat:Nat)):=by
 rcases h with h|h
 ·rw[h]at hl;simp at hl
 ·exact h
theorem zaA{w:World}{cb:Nat}{V:CV}{c:Ck}(h:qq E w cb V c)(n:Nd)(A:Option Addr)(C:Nat)(hr:jZ w n A C)(hl:2≤n.l.length)(ho:n.op=jl)(size:Nat)(hsz:size≤8192)(hby:∀x ∈ c.names,x.2.bytes.length≤1000)(h32:∀m,jk c.names (zF n.l 1) [zM]= .ok m→m.bytes.length=32):Calls Tryz.prog 107 #[.pointer (some ⟨cb,0,none⟩),.agg (qD n (.slice A n.l.length C)),.int .i64 (size:Nat)] w (Zn w (jE c.names n size [])):=by
 have hcs:jE c.names n size []=match jk c.names (zF n.l 1) [zM]with | .error e=> .error e| .ok m=>if m.bytes.take 16=m.bytes.drop 16 then .error (135,n.a)else .ok ⟨6,size,[],0,0,0,m.bytes,[]⟩:=by
  unfold jE;rw[if_pos ho];rfl
 rw[hcs];have f0:(n.op== [99,114,121,112,116])=true:=by rw[ho];decide
 have hot:=zp n.op
 obtain⟨W2,hW2⟩:∃W2,W2=(w.alloc (.cells #[.string (bs n.op),.string (bs n.s),.int .i64 n.n,.int .i64 n.a,.slice A n.l.length C] 24)).alloc (.cells #[.int .i64 0,.int .i64 0,.slice none 0 0,.int .i64 0,.int .i64 0,.int .i64 0,.slice none 0 0,.slice none 0 0] 65):=⟨_,rfl⟩
 have hb2:Below w.heap.size w W2:=by rw[hW2];exact yr w _ _
 have P2:zm W2 (w.heap.size+1) 65 #[.int .i64 0,.int .i64 0,.slice none 0 0,.int .i64 0,.int .i64 0,.int .i64 0,.slice none 0 0,.slice none 0 0]:=by rw[hW2];exact zm.new_at (by simp)
 have N2:zm W2 w.heap.size 24 #[.string (bs n.op),.string (bs n.s),.int .i64 n.n,.int .i64 n.a,.slice A n.l.length C]:=by rw[hW2];exact(zm.new w _ _).alloc _
 have hsec:=VB (h.keep hb2) n A C (hr.grow hb2) hl zM hby;rw[show bs zM=⟨#[107,101,121]⟩from rfl]at hsec;rw[hW2]at hsec;have HW:Hid (W2=(w.alloc (.cells #[.string (bs n.op),.string (bs n.s),.int .i64 n.n,.int .i64 n.a,.slice A n.l.length C] 24)).alloc (.cells #[.int .i64 0,.int .i64 0,.slice none 0 0,.int .i64 0,.int .i64 0,.int .i64 0,.slice none 0 0,.slice none 0 0] 65)):=hW2;clear hW2 hcs h hr hl ho;generalize n.l.length=L at *;cases hK:jk c.names (zF n.l 1) [zM]with
 |error er =>
  obtain⟨ec,ek⟩:=er;rw[hK]at hsec;clear hK h32;unfold qD at hsec ⊢;go_enter Tryz.func107,Tryz.ntmps107
  go_wp2_with (first
   |((go_at_call 130)
     refine hsec.mono ?_;(rintro e w3 ⟨hb3,rfl⟩)))
  rw[←HW.out]at hb3;exact⟨rfl,hb2.trans (hb3.mono hb2.size),rfl⟩
 |ok m =>
  have hml:=h32 m hK;rw[hK]at hsec;clear hK h32
  obtain⟨R,hR⟩:∃R:Except Er Pt,R=if m.bytes.take 16=m.bytes.drop 16 then .error (135,n.a)else .ok ⟨6,size,[],0,0,0,m.bytes,[]⟩:=⟨_,rfl⟩
  simp only[];rw[←hR];have HR:Hid (R=if m.bytes.take 16=m.bytes.drop 16 then .error (135,n.a)else .ok ⟨6,size,[],0,0,0,m.bytes,[]⟩):=hR;clear hR;unfold qD at hsec ⊢;go_enter Tryz.func107,Tryz.ntmps107
  go_wp2_with (first
   |((go_at_call 130)
     refine hsec.mono ?_;rintro e w3 ⟨hb3,v3,rfl,Ab,Cb,rfl,e2,e3,hBy⟩;rw[←HW.out]at hb3 hBy;have N3:=N2.below hb3 N2.lt;have nc3:=N3.cell 3;have ln3:=N3.lt;obtain⟨bb,bo,rfl,hbb,hbP,hbc⟩:=Yf hBy (by rw[hml];decide);(clear hBy)))
  simp only[qH,qG,qI]at nc3;rw[hml]at e2;have hCb:32≤Cb:=e2;have hCm:Cb≤maxLen:=e3
  have heq:∀W,Below w3.heap.size w3 W→Calls Tryz.prog 131 #[.slice (some ⟨bb,bo,none⟩) 16 Cb,.slice (some ⟨bb,bo+16,none⟩) 16 (Cb-16)] W λe w'=>e= .returned (.bool (m.bytes.take 16==m.bytes.drop 16))∧w'=W:=by
   intro W hW
   have e1:Lib.bytesOf ((m.bytes.take 16).map λb=>((b.toNat:Nat):Int))=m.bytes.take 16:=by
    unfold Lib.bytesOf;rw[List.map_map];exact(List.map_congr_left (λb _=>by simp)).trans (List.map_id _)
   have e2':Lib.bytesOf ((m.bytes.drop 16).map λb=>((b.toNat:Nat):Int))=m.bytes.drop 16:=by
    unfold Lib.bytesOf;rw[List.map_map];exact(List.map_congr_left (λb _=>by simp)).trans (List.map_id _)
   have hh:=Tryz.bytes_Equal_all (some ⟨bb,bo,none⟩) (some ⟨bb,bo+16,none⟩) 16 Cb 16 (Cb-16) ((m.bytes.take 16).map λb=>((b.toNat:Nat):Int)) ((m.bytes.drop 16).map λb=>((b.toNat:Nat):Int)) W (by simp[hml]) (by simp[hml]) ?_ ?_
   ·rw[e1,e2']at hh
    exact hh
   ·refine λ_=>⟨bb,bo,rfl,λi hi=>?_⟩
    have hi':i<m.bytes.length:=by rw[hml];omega
    rw[(hW.cell (p:=⟨bb,bo+i,none⟩) hbb).trans (hbc i hi')];simp[List.getD_eq_getElem?_getD,hi,hi']
   ·refine λ_=>⟨bb,bo+16,rfl,λi hi=>?_⟩
    have hi':16+i<m.bytes.length:=by rw[hml];omega
    have:=(hW.cell (p:=⟨bb,bo+(16+i),none⟩) hbb).trans (hbc (16+i) hi');rw[show bo+16+i=bo+(16+i) by omega,this];simp[List.getD_eq_getElem?_getD,hi']
  by_cases hq:m.bytes.take 16=m.bytes.drop 16
  ·have hqb:(m.bytes.take 16==m.bytes.drop 16)=true:=by simpa using hq
   rw[hqb]at heq;have HQ:Hid (m.bytes.take 16=m.bytes.drop 16):=hq;clear hq hqb;refine wp_region_held_drew (S:=λwz=>wz.cell? ⟨w.heap.size,3,none⟩=some (.int .i64 n.a)∧wz.heap=w3.heap∧Below w3.heap.size w3 wz) (by kernel_rfl) (⟨nc3,rfl,(Below.refl _ w3).drew⟩) (λhHeld=>?_);refine zw 0 (some 21) (.slice (some ⟨bb,bo,none⟩) 32 Cb) hHeld ?_;simp only[Act.put,zh,zf,zg];refine zD 1 (some 22) (.slice (some ⟨bb,bo,none⟩) 16 Cb) rfl rfl (λwz _=>JQ _ rfl bb bo Cb rfl hCb hCm wz) hHeld ?_;simp only[Act.put,zh,zf,zg];refine zw 2 (some 23) (.slice (some ⟨bb,bo,none⟩) 32 Cb) hHeld ?_;simp only[Act.put,zh,zf,zg];refine zD 3 (some 24) (.slice (some ⟨bb,bo+16,none⟩) 16 (Cb-16)) rfl rfl (λwz _=>JS _ rfl bb bo Cb rfl hCb hCm wz) hHeld ?_;simp only[Act.put,zh,zf,zg];refine zw 6 (some 27) (.pointer (some ⟨w.heap.size,3,none⟩)) hHeld ?_;simp only[Act.put,zh,zf,zg];refine zD 7 (some 28) (.int .i64 n.a) rfl rfl (λwz hz=>by obtain⟨z0,z1,z2⟩:=hz;unfold execOp;go_simp) hHeld ?_;simp only[Act.put,zh,zf,zg];refine jn 4 (some 25) 131 #[.slice (some ⟨bb,bo,none⟩) 16 Cb,.slice (some ⟨bb,bo+16,none⟩) 16 (Cb-16)] (by kernel_rfl) rfl rfl (by rfl) (by kernel_rfl) (heq w3.drew (zr (Below.refl _ w3))) ?_;rintro e w4 ⟨rfl,rfl⟩;refine .inl ⟨_,rfl,hHeld,?_⟩;simp only[Act.put,zh,zf,zg];refine zw 5 (some 26) (.bool false) hHeld ?_;simp only[Act.put,zh,zf,zg];refine jn 8 (some 29) 62 #[.bool false,.int .i64 135,.int .i64 n.a] (by kernel_rfl) rfl rfl (by rfl) (by kernel_rfl) (jA 135 n.a w3.drew) ?_;rintro e w5 ⟨rfl,rfl⟩;refine .inr ⟨_,rfl,?_⟩;exact⟨rfl,zr (hb2.trans (hb3.mono hb2.size)),by rw[HR.out,if_pos HQ.out];rfl⟩
  ·have hqb:(m.bytes.take 16==m.bytes.drop 16)=false:=by simpa using hq
   rw[hqb]at heq;have HQ:Hid (¬m.bytes.take 16=m.bytes.drop 16):=hq;clear hq hqb;refine wp_region_held_drew (S:=λwz=>wz.cell? ⟨w.heap.size,3,none⟩=some (.int .i64 n.a)∧wz.heap=w3.heap∧Below w3.heap.size w3 wz) (by kernel_rfl) (⟨nc3,rfl,(Below.refl _ w3).drew⟩) (λhHeld=>?_);refine zw 0 (some 21) (.slice (some ⟨bb,bo,none⟩) 32 Cb) hHeld ?_;simp only[Act.put,zh,zf,zg];refine zD 1 (some 22) (.slice (some ⟨bb,bo,none⟩) 16 Cb) rfl rfl (λwz _=>JQ _ rfl bb bo Cb rfl hCb hCm wz) hHeld ?_;simp only[Act.put,zh,zf,zg];refine zw 2 (some 23) (.slice (some ⟨bb,bo,none⟩) 32 Cb) hHeld ?_;simp only[Act.put,zh,zf,zg];refine zD 3 (some 24) (.slice (some ⟨bb,bo+16,none⟩) 16 (Cb-16)) rfl rfl (λwz _=>JS _ rfl bb bo Cb rfl hCb hCm wz) hHeld ?_;simp only[Act.put,zh,zf,zg];refine zw 6 (some 27) (.pointer (some ⟨w.heap.size,3,none⟩)) hHeld ?_;simp only[Act.put,zh,zf,zg];refine zD 7 (some 28) (.int .i64 n.a) rfl rfl (λwz hz=>by obtain⟨z0,z1,z2⟩:=hz;unfold execOp;go_simp) hHeld ?_;simp only[Act.put,zh,zf,zg];refine jn 4 (some 25) 131 #[.slice (some ⟨bb,bo,none⟩) 16 Cb,.slice (some ⟨bb,bo+16,none⟩) 16 (Cb-16)] (by kernel_rfl) rfl rfl (by rfl) (by kernel_rfl) (heq w3.drew (zr (Below.refl _ w3))) ?_;rintro e w4 ⟨rfl,rfl⟩;refine .inl ⟨_,rfl,hHeld,?_⟩;simp only[Act.put,zh,zf,zg];refine zw 5 (some 26) (.bool true) hHeld ?_;simp only[Act.put,zh,zf,zg];refine jn 8 (some 29) 62 #[.bool true,.int .i64 135,.int .i64 n.a] (by kernel_rfl) rfl rfl (by rfl) (by kernel_rfl) (qL 135 n.a w3.drew) ?_;rintro e w5 ⟨rfl,rfl⟩;refine .inl ⟨_,rfl,hHeld,?_⟩;simp only[Act.put,zh,zf,zg];refine wpAnyH_done (by kernel_rfl) ?_ _;have P3:=zt (P2.below hb3 P2.lt);have hb03:Below w.heap.size w w3.drew:=zr (hb2.trans (hb3.mono hb2.size));have hBy4:jK w3.drew (λg=>W2.heap.size≤g) (some ⟨bb,bo,none⟩) m.bytes:= .inr ⟨bb,bo,rfl,hbb,hbP,hbc⟩;clear hHeld heq;generalize w3.drew=W4 at P3 hb03 hBy4 ⊢;have lp3:=P3.lt;have a0:=P3.cell 0;have b0:=P3.free 0;have a1:=P3.cell 1;have b1:=P3.free 1;have a2:=P3.cell 2;have b2:=P3.free 2;have a3:=P3.cell 3;have b3:=P3.free 3;have a4:=P3.cell 4;have b4:=P3.free 4;have a5:=P3.cell 5;have b5:=P3.free 5;have a6:=P3.cell 6;have b6:=P3.free 6;have a7:=P3.cell 7;have b7:=P3.free 7
   go_wp2
   have hbf:=K9 (g:=w.heap.size+1) hb03 (Nat.le_succ _) (.int .i64 6) (.int .i64 (size:Nat)) (.slice none 0 0) (.int .i64 0) (.int .i64 0) (.int .i64 0) (.slice (some ⟨bb,bo,none⟩) 32 Cb) (.slice none 0 0);refine yX rfl rfl (P3.set8 _ _ _ _ _ _ _ _) rfl ⟨hbf,?_⟩;rw[HR.out,if_neg HQ.out];refine⟨(.slice none 0 0,.slice (some ⟨bb,bo,none⟩) 32 Cb,.slice none 0 0),rfl,?_⟩;refine⟨⟨none,0,rfl,Nat.le_refl _,by unfold maxLen;omega,.inl rfl⟩,⟨some ⟨bb,bo,none⟩,Cb,by rw[hml],by rw[hml];exact e2,e3,?_⟩,⟨none,0,rfl,Nat.le_refl _,by unfold maxLen;omega,.inl rfl⟩⟩
   refine hBy4.keep (by simp) (λk hk hB=>⟨by
    have hk2:k≠w.heap.size+1:=by have:=P2.lt;have hB':W2.heap.size≤k:=hB;omega
    iterate 8 rw[Below.heap_setCell _ _ _ k hk2],Nat.le_trans hb2.size hB⟩)
end
section
open Go.ChangeShapes Go.WideShapes Go.ChangeAt Go.RowKit Go.MapKept
variable {E:Nat→Prop}
theorem zar(n o:Nat)(c:Int)(w:World):Calls Tryz.prog 106 #[.int .i64 (n:Nat),.int .i64 (o:Nat),.int .i64 c] w λe w'=>∃t:Int,e= .returned (.tuple #[.int .i64 t,.int .i64 (slt n o c:Nat)])∧Below w.heap.size w w':=by
 unfold slt
 by_cases h:(1≤n∧n≤8192)∧(1≤o∧o≤8192)∧(1≤c∧c≤16)
 ·rw[if_pos h]
  obtain⟨h1,h2,h3⟩:=h
  obtain⟨m,rfl⟩:∃m:Nat,c=(m:Nat):=⟨c.toNat,by omega⟩
  refine(zaj n o m w h1 h2 ⟨by omega,by omega⟩).mono ?_;rintro e w' ⟨s,rfl,hg,hb⟩;refine⟨(stA (vl o m) s:Nat),?_,hb⟩;rw[show s=DK (jY o m) (xa (vl o m) m n)from hg.eq (Qg _ _),Int.toNat_natCast]
 ·rw[if_neg h]
  refine(Ds n o c w (by omega)).mono ?_;rintro e w' ⟨rfl,hb⟩;exact⟨0,rfl,hb⟩
structure PIn (E:Nat→Prop) (w:World) (cb:Nat) (V:CV) (c:Ck) (ks:List Nat) (bk ok Ck:Nat):Prop where
 ck:qq E w cb V c
 lt:bk<w.heap.size
 cells:∀j (h:j<ks.length),w.cell? ⟨bk,ok+j,none⟩=some (.int .i64 (ks[j]:Nat))
 pos:0<ks.length
 cap:ks.length≤Ck
 max:Ck≤maxLen
 kid:∀k ∈ ks,xB c.parts k
theorem kU{w:World}{cb:Nat}{V:CV}{c:Ck}{ks:List Nat}{bk ok Ck:Nat}(hI:PIn E w cb V c ks bk ok Ck)(n:Nd)(A:Option Addr)(C:Nat)(hr:jZ w n A C)(ho:n.op=qX)(hl:n.l.length=3)(hx1:0≤(zF n.l 1).n∧(zF n.l 1).n≤999999999)(hx2:0≤(zF n.l 2).n∧(zF n.l 2).n≤999999999):
 Calls Tryz.prog 97 #[.pointer (some ⟨cb,0,none⟩),.agg (qD n (.slice A n.l.length C)),.slice (some ⟨bk,ok,none⟩) ks.length Ck] w (Zn w (GJ (jD c.names c.parts n ks))):=by
 have hk0:=hI.pos;have hkid:=hI.kid;have h:=hI.ck;have hp0:0<c.parts.length:=by have:=(hkid _ (List.getElem_mem hk0)).1;omega
 obtain⟨g,op,Cp,evp,hCp1,hCp2,hg,hSz⟩:=h.vp hp0;have hgd:ks.getD 0 0=ks[0]:=by rw[List.getD_eq_getElem?_getD,List.getElem?_eq_getElem hk0];rfl
 obtain⟨W2,hW2⟩:∃W2,W2=(w.alloc (.cells #[.string (bs n.op),.string (bs n.s),.int .i64 n.n,.int .i64 n.a,.slice A n.l.length C] 24)).alloc (.cells #[.int .i64 0,.int .i64 0,.slice none 0 0,.int .i64 0,.int .i64 0,.int .i64 0,.slice none 0 0,.slice none 0 0] 65):=⟨_,rfl⟩
 have hb2:Below w.heap.size w W2:=by rw[hW2];exact yr w _ _
 have P2:zm W2 (w.heap.size+1) 65 #[.int .i64 0,.int .i64 0,.slice none 0 0,.int .i64 0,.int .i64 0,.int .i64 0,.slice none 0 0,.slice none 0 0]:=by rw[hW2];exact zm.new_at (by simp)
 have N2:zm W2 w.heap.size 24 #[.string (bs n.op),.string (bs n.s),.int .i64 n.n,.int .i64 n.a,.slice A n.l.length C]:=by rw[hW2];exact(zm.new w _ _).alloc _
 have HW:Hid (W2=(w.alloc (.cells #[.string (bs n.op),.string (bs n.s),.int .i64 n.n,.int .i64 n.a,.slice A n.l.length C] 24)).alloc (.cells #[.int .i64 0,.int .i64 0,.slice none 0 0,.int .i64 0,.int .i64 0,.int .i64 0,.slice none 0 0,.slice none 0 0] 65)):=hW2;have hot:=zp n.op;have c2:=h.has.cell 2;simp only[List.getElem?_toArray,List.getElem?_cons_zero,List.getElem?_cons_succ,evp]at c2;have c2r:=za hb2 c2;have k0r:W2.cell? ⟨bk,ok,none⟩=some (.int .i64 (ks[0]:Nat)):=za hb2 (hI.cells 0 hk0);obtain⟨hK0n',hS1,hS2⟩:=hkid _ (List.getElem_mem hk0);have s0r:=hSz.below hb2 hg _ hK0n';obtain⟨gn,on,Au,Cu,rfl,hgn,hat⟩:=jg hr (by omega);have hlen:=hr.len;have x1w:w.cell? ⟨gn,on+1*5+2,none⟩=some (.int .i64 (zF n.l 1).n):=(hat 1 (by omega)).1 2 (by decide);have x2w:w.cell? ⟨gn,on+2*5+2,none⟩=some (.int .i64 (zF n.l 2).n):=(hat 2 (by omega)).1 2 (by decide)
 have hR:jD c.names c.parts n ks=if 0<(zF n.l 2).n∧(zF n.l 1).n+(zF n.l 2).n≤(sz c.parts ks[0]:Int)then .ok ⟨2,(zF n.l 2).n.toNat,ks,0,(zF n.l 1).n.toNat,0,[],[]⟩else .error (134,n.a):=by
  unfold jD;rw[if_pos ho,hgd];rfl
 have HR:=ze hR;clear hR;have f0:(n.op== [108,105,110,101,97,114])=true:=by rw[ho];decide
 have f1:(n.op== [99,111,110,99,97,116])=false:=by rw[ho];decide
 have f2:(n.op== [109,105,114,114,111,114])=false:=by rw[ho];decide
 have f3:(n.op== [115,110,97,112,115,104,111,116])=false:=by rw[ho];decide
 obtain⟨NP,hNP⟩:∃NP,NP=c.parts.length:=⟨_,rfl⟩
 have HNP:Hid (NP=c.parts.length):=hNP;rw[←hNP]at hCp1 c2r hK0n'
 obtain⟨Lk,hLk⟩:∃Lk,Lk=ks.length:=⟨_,rfl⟩
 have HLk:Hid (Lk=ks.length):=hLk;rw[←hLk];have hL0:0<Lk:=by omega
 obtain⟨S,hS⟩:∃S,S=sz c.parts ks[0]:=⟨_,rfl⟩
 obtain⟨K0,hK0⟩:∃K0,K0=ks[0]:=⟨_,rfl⟩
 rw[←hS]at s0r hS1 hS2;rw[←hK0]at s0r k0r hK0n';have HS:Hid (S=sz c.parts ks[0]):=hS;have hK0n:K0<NP:=hK0n';rw[←hS]at HR
 obtain⟨x1,hx1'⟩:∃x,x=(zF n.l 1).n:=⟨_,rfl⟩
 obtain⟨x2,hx2'⟩:∃x,x=(zF n.l 2).n:=⟨_,rfl⟩
 rw[←hx1']at HR x1w hx1;rw[←hx2']at HR x2w hx2
 obtain⟨Ln,hLn⟩:∃Ln,Ln=n.l.length:=⟨_,rfl⟩
 rw[←hLn]at N2 HW hl hlen ⊢;have hln1:1<Ln:=by omega
 have hln2:2<Ln:=by omega
 clear hW2 hNP hLk hS hK0 hK0n' c2 hx1' hx2' hLn hat ho hlen hr hI hkid h hl;unfold qD;go_enter Tryz.func97,Tryz.ntmps97
 go_wp2
 rw[←HW.out];refine wp_region_held_drew (S:=λwz=>Below W2.heap.size W2 wz) (by kernel_rfl) ((Below.refl _ W2).drew) (λhHeld=>?_);refine zw 0 (some 13) (.pointer (some ⟨cb,0,none⟩)) hHeld ?_;simp only[Act.put,zh,zf,zg];refine zw 1 (some 14) (.pointer (some ⟨cb,0,none⟩)) hHeld ?_;simp only[Act.put,zh,zf,zg];refine zw 2 (some 15) (.pointer (some ⟨cb,0,none⟩)) hHeld ?_;simp only[Act.put,zh,zf,zg];refine zw 3 (some 16) (.pointer (some ⟨cb,2,none⟩)) hHeld ?_;simp only[Act.put,zh,zf,zg];refine zD 4 (some 17) (.slice (some ⟨g,op,none⟩) NP Cp) rfl rfl (λwz hz=>by have z0:=za hz c2r;unfold execOp;go_simp) hHeld ?_;simp only[Act.put,zh,zf,zg];refine zw 5 (some 18) (.slice (some ⟨bk,ok,none⟩) Lk Ck) hHeld ?_;simp only[Act.put,zh,zf,zg];refine zD 6 (some 19) (.pointer (some ⟨bk,ok,none⟩)) rfl rfl (λwz _=>qh _ _ rfl bk ok 0 Lk Ck rfl rfl hL0 wz) hHeld ?_;simp only[Act.put,zh,zf,zg];refine zD 7 (some 20) (.int .i64 (K0:Nat)) rfl rfl (λwz hz=>by have z0:=za hz k0r;unfold execOp;go_simp) hHeld ?_;simp only[Act.put,zh,zf,zg];refine zD 8 (some 21) (.pointer (some ⟨g,op+K0*8,none⟩)) rfl rfl (λwz _=>zE _ _ rfl g op K0 NP Cp rfl rfl hK0n wz) hHeld ?_;simp only[Act.put,zh,zf,zg];refine zw 9 (some 22) (.pointer (some ⟨g,op+K0*8+1,none⟩)) hHeld ?_;simp only[Act.put,zh,zf,zg];refine zD 10 (some 23) (.int .i64 (S:Nat)) rfl rfl (λwz hz=>by have z0:=za hz s0r;unfold execOp;go_simp) hHeld ?_;simp only[Act.put,zh,zf,zg];refine zw 11 (some 7) (.int .i64 (S:Nat)) hHeld ?_;simp only[Act.put,zh,zf,zg];refine wpAnyH_done (by kernel_rfl) ?_ _;have hb3:Below w.heap.size w W2.drew:=zr hb2;have P3:=zt P2;have N3:=zt N2;have x1r:=za hb3 x1w;have x2r:=za hb3 x2w;have n4:=N3.cell 4;have nc0:=N3.cell 0;have nc3:=N3.cell 3;have ln3:=N3.lt;have lp3:=P3.lt;simp only[qH,qG,qI]at n4 nc0 nc3;clear c2r k0r s0r hb2 P2 N2 HW hHeld x1w x2w;generalize W2.drew=W3 at *
 go_wp2
 refine wp_region_held_drew (S:=λwz=>Below W3.heap.size W3 wz) (by kernel_rfl) ((Below.refl _ W3).drew) (λhHeld=>?_);refine zw 0 (some 28) (.pointer (some ⟨w.heap.size,4,none⟩)) hHeld ?_;simp only[Act.put,zh,zf,zg];refine zD 1 (some 29) (.slice (some ⟨gn,on,none⟩) Ln C) rfl rfl (λwz hz=>by have z0:=za hz n4;unfold execOp;go_simp) hHeld ?_;simp only[Act.put,zh,zf,zg];refine zD 2 (some 30) (.pointer (some ⟨gn,on+1*5,none⟩)) rfl rfl (λwz _=>zu _ _ rfl gn on 1 Ln C rfl rfl hln1 wz) hHeld ?_;simp only[Act.put,zh,zf,zg];refine zw 3 (some 31) (.pointer (some ⟨gn,on+1*5+2,none⟩)) hHeld ?_;simp only[Act.put,zh,zf,zg];refine zD 4 (some 32) (.int .i64 x1) rfl rfl (λwz hz=>by have z0:=za hz x1r;unfold execOp;go_simp) hHeld ?_;simp only[Act.put,zh,zf,zg];refine zw 5 (some 33) (.pointer (some ⟨w.heap.size,4,none⟩)) hHeld ?_;simp only[Act.put,zh,zf,zg];refine zD 6 (some 34) (.slice (some ⟨gn,on,none⟩) Ln C) rfl rfl (λwz hz=>by have z0:=za hz n4;unfold execOp;go_simp) hHeld ?_;simp only[Act.put,zh,zf,zg];refine zD 7 (some 35) (.pointer (some ⟨gn,on+2*5,none⟩)) rfl rfl (λwz _=>zu _ _ rfl gn on 2 Ln C rfl rfl hln2 wz) hHeld ?_;simp only[Act.put,zh,zf,zg];refine zw 8 (some 36) (.pointer (some ⟨gn,on+2*5+2,none⟩)) hHeld ?_;simp only[Act.put,zh,zf,zg];refine zD 9 (some 37) (.int .i64 x2) rfl rfl (λwz hz=>by have z0:=za hz x2r;unfold execOp;go_simp) hHeld ?_;simp only[Act.put,zh,zf,zg];refine zw 10 (some 8) (.int .i64 x1) hHeld ?_;simp only[Act.put,zh,zf,zg];refine zw 11 (some 9) (.int .i64 x2) hHeld ?_;simp only[Act.put,zh,zf,zg];refine wpAnyH_done (by kernel_rfl) ?_ _;have hb4:Below w.heap.size w W3.drew:=zr hb3;have P4:=zt P3;have N4:=zt N3;clear hb3 P3 N3 n4 nc0 nc3 ln3 lp3 x1r x2r hHeld;generalize W3.drew=W3 at *;have hb3:=hb4;have P3:=P4;have nc3:=N4.cell 3;have ln3:=N4.lt;have lp3:=P3.lt;have a0:=P3.cell 0;have b0:=P3.free 0;have a1:=P3.cell 1;have b1:=P3.free 1;have a2:=P3.cell 2;have b2:=P3.free 2;have a3:=P3.cell 3;have b3:=P3.free 3;have a4:=P3.cell 4;have b4:=P3.free 4;have a5:=P3.cell 5;have b5:=P3.free 5;have a6:=P3.cell 6;have b6:=P3.free 6;have a7:=P3.cell 7;have b7:=P3.free 7;have fin:∀(kd s fi ch:Nat) (kk:List Nat),Zn w (GJ (.ok ⟨kd,s,kk,0,fi,ch,[],[]⟩)) (.returned (.agg #[.int .i64 (kd:Nat),.int .i64 (s:Nat),.slice none 0 0,.int .i64 0,.int .i64 (fi:Nat),.int .i64 (ch:Nat),.slice none 0 0,.slice none 0 0])) (Z7 W3 (w.heap.size+1) (.int .i64 (kd:Nat)) (.int .i64 (s:Nat)) (.slice none 0 0) (.int .i64 0) (.int .i64 (fi:Nat)) (.int .i64 (ch:Nat)) (.slice none 0 0) (.slice none 0 0)):=λkd s fi ch kk=>⟨K9 hb3 (Nat.le_succ _) _ _ _ _ _ _ _ _,(.slice none 0 0,.slice none 0 0,.slice none 0 0),rfl,⟨none,0,rfl,Nat.le_refl _,by unfold maxLen;omega,.inl rfl⟩,⟨none,0,rfl,Nat.le_refl _,by unfold maxLen;omega,.inl rfl⟩,⟨none,0,rfl,Nat.le_refl _,by unfold maxLen;omega,.inl rfl⟩⟩
 obtain⟨X1,rfl⟩:∃X:Nat,x1=(X:Nat):=⟨x1.toNat,by omega⟩
 obtain⟨X2,rfl⟩:∃X:Nat,x2=(X:Nat):=⟨x2.toNat,by omega⟩
 obtain⟨hX1a,hX1b⟩:=hx1;obtain⟨hX2a,hX2b⟩:=hx2;by_cases hq:0<((X2:Nat):Int)∧((X1:Nat):Int)+((X2:Nat):Int)≤(S:Int)
 ·have HQ:=ze (HR.out.trans (if_pos hq))
  obtain⟨q1,q2⟩:=hq;clear HR;have q1':decide (0<X2)=true:=decide_eq_true (by omega)
  go_wp2_with (first
   |((go_at_call 62)
     refine(qL 134 n.a _).mono ?_;rintro e w5 ⟨rfl,hw5⟩;(obtain rfl:W3=w5:=hw5.symm)))
  exact yX rfl rfl (P3.set8 _ _ _ _ _ _ _ _) rfl (by rw[HQ.out,Int.toNat_natCast,Int.toNat_natCast];exact fin 2 X2 X1 0 ks)
 ·have HQ:=ze (HR.out.trans (if_neg hq))
  clear HR;by_cases q1:0<X2
  ·have q2:¬((X1:Nat):Int)+((X2:Nat):Int)≤(S:Int):=λe=>hq ⟨by omega,e⟩
   have q1':decide (0<X2)=true:=decide_eq_true q1;clear hq
   go_wp2_with (first
    |((go_at_call 62)
      refine(jA 134 n.a _).mono ?_;(rintro e w5 ⟨rfl,rfl⟩)))
   exact⟨rfl,hb3,by rw[HQ.out];rfl⟩
  ·have q1':decide (0<X2)=false:=decide_eq_false q1
   clear hq
   go_wp2_with (first
    |((go_at_call 62)
      refine(jA 134 n.a _).mono ?_;(rintro e w5 ⟨rfl,rfl⟩)))
   exact⟨rfl,hb3,by rw[HQ.out];rfl⟩
end
section
open Go.ChangeShapes Go.WideShapes Go.ChangeAt Go.RowKit Go.MapKept
variable {E:Nat→Prop}
theorem gH{w W3 w5:World}{p:Pt}{x0 x1 x2:Value}(hb3:Below w.heap.size w W3)(hl:w.heap.size+1<W3.heap.size)(hb5:Below W3.heap.size W3 w5)(hi:xH w5 (λg=>W3.heap.size≤g) p (x0,x1,x2)):Zn w (.ok p) (.returned (.agg #[.int .i64 (p.kind:Nat),.int .i64 (p.size:Nat),x0,.int .i64 (p.dev:Nat),.int .i64 (p.first:Nat),.int .i64 (p.chunk:Nat),x1,x2])) (Z7 w5 (w.heap.size+1) (.int .i64 (p.kind:Nat)) (.int .i64 (p.size:Nat)) x0 (.int .i64 (p.dev:Nat)) (.int .i64 (p.first:Nat)) (.int .i64 (p.chunk:Nat)) x1 x2):=by
 refine⟨K9 (hb3.trans (hb5.mono hb3.size)) (Nat.le_succ _) _ _ _ _ _ _ _ _,(x0,x1,x2),rfl,hi.keep (by simp) (λk hk hB=>⟨?_,Nat.le_trans hb3.size hB⟩)⟩;have hB':W3.heap.size≤k:=hB;have hk2:k≠w.heap.size+1:=by omega
 iterate 8 rw[Below.heap_setCell _ _ _ k hk2]
theorem Xz(ns:vJ)(n:Nd)(s:Nat)(ks:List Nat):GJ (jE ns n s ks)=jE ns n s []:=by
 unfold jE
 split
 ·cases jk ns (zH n.l 1) [zM]with
  |error e=>rfl
  |ok m=>dsimp only;split<;>rfl
 ·split
  ·cases jk ns (zH n.l 1) [zM]with
   |error e=>rfl
   |ok m=>dsimp only;generalize dI s=D;split<;>rfl
  ·cases jk ns (zH n.l 1) [zN]with
   |error e=>rfl
   |ok m=>dsimp only;generalize dV s=D;split<;>rfl
theorem Fw{w:World}{cb:Nat}{V:CV}{c:Ck}(h:qq E w cb V c)(n:Nd)(A:Option Addr)(C:Nat)(hr:jZ w n A C)(hl:2≤n.l.length)(ho:n.op=jl∨n.op=qb∨n.op=jf)(size:Nat)(hsz:size≤8192)(hn:yH c.names c.parts)(hby:∀x ∈ c.names,x.2.bytes.length≤1000):Calls Tryz.prog 107 #[.pointer (some ⟨cb,0,none⟩),.agg (qD n (.slice A n.l.length C)),.int .i64 (size:Nat)] w (Zn w (jE c.names n size [])):=by
 rcases ho with ho|ho|ho
 ·exact zaA h n A C hr hl ho size hsz hby (λm e=>YT hn (.inl rfl) e)
 ·exact Uw h n A C hr hl ho size hsz hby
 ·exact Dn h n A C hr hl ho size hsz hby
theorem X4{w:World}{cb:Nat}{V:CV}{c:Ck}{ks:List Nat}{bk ok Ck:Nat}(hI:PIn E w cb V c ks bk ok Ck)(n:Nd)(A:Option Addr)(C:Nat)(hr:jZ w n A C)(ho:n.op=jl∨n.op=qb∨n.op=jf)(hl:2≤n.l.length)(hn:yH c.names c.parts)(hby:∀x ∈ c.names,x.2.bytes.length≤1000):
 Calls Tryz.prog 97 #[.pointer (some ⟨cb,0,none⟩),.agg (qD n (.slice A n.l.length C)),.slice (some ⟨bk,ok,none⟩) ks.length Ck] w (Zn w (GJ (jD c.names c.parts n ks))):=by
 have hk0:=hI.pos;have hkid:=hI.kid;have h:=hI.ck;have hp0:0<c.parts.length:=by have:=(hkid _ (List.getElem_mem hk0)).1;omega
 obtain⟨g,op,Cp,evp,hCp1,hCp2,hg,hSz⟩:=h.vp hp0;have hgd:ks.getD 0 0=ks[0]:=by rw[List.getD_eq_getElem?_getD,List.getElem?_eq_getElem hk0];rfl
 obtain⟨W2,hW2⟩:∃W2,W2=(w.alloc (.cells #[.string (bs n.op),.string (bs n.s),.int .i64 n.n,.int .i64 n.a,.slice A n.l.length C] 24)).alloc (.cells #[.int .i64 0,.int .i64 0,.slice none 0 0,.int .i64 0,.int .i64 0,.int .i64 0,.slice none 0 0,.slice none 0 0] 65):=⟨_,rfl⟩
 have hb2:Below w.heap.size w W2:=by rw[hW2];exact yr w _ _
 have P2:zm W2 (w.heap.size+1) 65 #[.int .i64 0,.int .i64 0,.slice none 0 0,.int .i64 0,.int .i64 0,.int .i64 0,.slice none 0 0,.slice none 0 0]:=by rw[hW2];exact zm.new_at (by simp)
 have N2:zm W2 w.heap.size 24 #[.string (bs n.op),.string (bs n.s),.int .i64 n.n,.int .i64 n.a,.slice A n.l.length C]:=by rw[hW2];exact(zm.new w _ _).alloc _
 have HW:Hid (W2=(w.alloc (.cells #[.string (bs n.op),.string (bs n.s),.int .i64 n.n,.int .i64 n.a,.slice A n.l.length C] 24)).alloc (.cells #[.int .i64 0,.int .i64 0,.slice none 0 0,.int .i64 0,.int .i64 0,.int .i64 0,.slice none 0 0,.slice none 0 0] 65)):=hW2;have hot:=zp n.op;have c2:=h.has.cell 2;simp only[List.getElem?_toArray,List.getElem?_cons_zero,List.getElem?_cons_succ,evp]at c2;have c2r:=za hb2 c2;have k0r:W2.cell? ⟨bk,ok,none⟩=some (.int .i64 (ks[0]:Nat)):=za hb2 (hI.cells 0 hk0);obtain⟨hK0n',hS1,hS2⟩:=hkid _ (List.getElem_mem hk0);have s0r:=hSz.below hb2 hg _ hK0n'
 have hR:GJ (jD c.names c.parts n ks)=jE c.names n (sz c.parts ks[0]) []:=by
  rw[←Xz c.names n (sz c.parts ks[0]) ks];unfold jD;rw[if_neg (by rcases ho with ho|ho|ho<;>rw[ho]<;>decide),if_neg (by rcases ho with ho|ho|ho<;>rw[ho]<;>decide),if_neg (by rcases ho with ho|ho|ho<;>rw[ho]<;>decide),hgd]
 rw[hR];have hse:=λW (hb:Below w.heap.size w W)=>Fw (h.keep hb) n A C (hr.grow hb) hl ho (sz c.parts ks[0]) hS2 hn hby
 clear hR;have f0:(n.op== [108,105,110,101,97,114])=false:=by rcases ho with ho|ho|ho<;>rw[ho]<;>decide
 have f1:(n.op== [99,111,110,99,97,116])=false:=by rcases ho with ho|ho|ho<;>rw[ho]<;>decide
 have f2:(n.op== [109,105,114,114,111,114])=false:=by rcases ho with ho|ho|ho<;>rw[ho]<;>decide
 have f3:(n.op== [115,110,97,112,115,104,111,116])=false:=by rcases ho with ho|ho|ho<;>rw[ho]<;>decide
 obtain⟨NP,hNP⟩:∃NP,NP=c.parts.length:=⟨_,rfl⟩
 have HNP:Hid (NP=c.parts.length):=hNP;rw[←hNP]at hCp1 c2r hK0n'
 obtain⟨Lk,hLk⟩:∃Lk,Lk=ks.length:=⟨_,rfl⟩
 have HLk:Hid (Lk=ks.length):=hLk;rw[←hLk];have hL0:0<Lk:=by omega
 obtain⟨S,hS⟩:∃S,S=sz c.parts ks[0]:=⟨_,rfl⟩
 obtain⟨K0,hK0⟩:∃K0,K0=ks[0]:=⟨_,rfl⟩
 rw[←hS]at s0r hS1 hS2;rw[←hK0]at s0r k0r hK0n';have HS:Hid (S=sz c.parts ks[0]):=hS;have hK0n:K0<NP:=hK0n';rw[←hS]at hse ⊢
 obtain⟨Ln,hLn⟩:∃Ln,Ln=n.l.length:=⟨_,rfl⟩
 rw[←hLn]at N2 HW hse ⊢;have hse3:=hse W2.drew (zr hb2)
 obtain⟨R,hR⟩:∃R,R=jE c.names n S []:=⟨_,rfl⟩
 rw[←hR]at hse3 ⊢;unfold qD at hse3;clear hse hR;clear hW2 hNP hLk hS hK0 hK0n' c2 ho hLn hl hr hI hkid h hn hby;unfold qD;go_enter Tryz.func97,Tryz.ntmps97
 go_wp2
 rw[←HW.out];refine wp_region_held_drew (S:=λwz=>Below W2.heap.size W2 wz) (by kernel_rfl) ((Below.refl _ W2).drew) (λhHeld=>?_);refine zw 0 (some 13) (.pointer (some ⟨cb,0,none⟩)) hHeld ?_;simp only[Act.put,zh,zf,zg];refine zw 1 (some 14) (.pointer (some ⟨cb,0,none⟩)) hHeld ?_;simp only[Act.put,zh,zf,zg];refine zw 2 (some 15) (.pointer (some ⟨cb,0,none⟩)) hHeld ?_;simp only[Act.put,zh,zf,zg];refine zw 3 (some 16) (.pointer (some ⟨cb,2,none⟩)) hHeld ?_;simp only[Act.put,zh,zf,zg];refine zD 4 (some 17) (.slice (some ⟨g,op,none⟩) NP Cp) rfl rfl (λwz hz=>by have z0:=za hz c2r;unfold execOp;go_simp) hHeld ?_;simp only[Act.put,zh,zf,zg];refine zw 5 (some 18) (.slice (some ⟨bk,ok,none⟩) Lk Ck) hHeld ?_;simp only[Act.put,zh,zf,zg];refine zD 6 (some 19) (.pointer (some ⟨bk,ok,none⟩)) rfl rfl (λwz _=>qh _ _ rfl bk ok 0 Lk Ck rfl rfl hL0 wz) hHeld ?_;simp only[Act.put,zh,zf,zg];refine zD 7 (some 20) (.int .i64 (K0:Nat)) rfl rfl (λwz hz=>by have z0:=za hz k0r;unfold execOp;go_simp) hHeld ?_;simp only[Act.put,zh,zf,zg];refine zD 8 (some 21) (.pointer (some ⟨g,op+K0*8,none⟩)) rfl rfl (λwz _=>zE _ _ rfl g op K0 NP Cp rfl rfl hK0n wz) hHeld ?_;simp only[Act.put,zh,zf,zg];refine zw 9 (some 22) (.pointer (some ⟨g,op+K0*8+1,none⟩)) hHeld ?_;simp only[Act.put,zh,zf,zg];refine zD 10 (some 23) (.int .i64 (S:Nat)) rfl rfl (λwz hz=>by have z0:=za hz s0r;unfold execOp;go_simp) hHeld ?_;simp only[Act.put,zh,zf,zg];refine zw 11 (some 7) (.int .i64 (S:Nat)) hHeld ?_;simp only[Act.put,zh,zf,zg];refine wpAnyH_done (by kernel_rfl) ?_ _;have hb3:Below w.heap.size w W2.drew:=zr hb2;have P3:=zt P2;have N3:=zt N2;have nc0:=N3.cell 0;have nc1:=N3.cell 1;have nc2:=N3.cell 2;have nc4:=N3.cell 4;have nc3:=N3.cell 3;have ln3:=N3.lt;have lp3:=P3.lt;simp only[qH,qG,qI]at nc0 nc1 nc2 nc3 nc4;have hl3:w.heap.size+1<W2.drew.heap.size:=lp3;clear c2r k0r s0r hb2 P2 N2 HW hHeld;generalize W2.drew=W3 at *;cases R with
 |error er =>
  obtain⟨ec,ek⟩:=er
  go_wp2_with (first
   |((go_at_call 107)
     refine hse3.mono ?_;(rintro e w5 ⟨hb5,rfl⟩)))
  exact⟨rfl,hb3.trans (hb5.mono hb3.size),rfl⟩
 |ok p =>
  go_wp2_with (first
   |((go_at_call 107)
     refine hse3.mono ?_;rintro e w5 ⟨hb5,u,rfl,hi⟩;unfold Q9;have P5:=P3.below hb5 P3.lt;have lp5:=P5.lt;have a0:=P5.cell 0;have b0:=P5.free 0;have a1:=P5.cell 1;have b1:=P5.free 1;have a2:=P5.cell 2;have b2:=P5.free 2;have a3:=P5.cell 3;have b3:=P5.free 3;have a4:=P5.cell 4;have b4:=P5.free 4;have a5:=P5.cell 5;have b5:=P5.free 5;have a6:=P5.cell 6;have b6:=P5.free 6;have a7:=P5.cell 7;have b7:=P5.free 7;obtain⟨u0,u1,u2⟩:=u;(have q1:∃A C,u0= .slice A p.kids.length C:=by obtain⟨A,C,e,_⟩:=hi.kids;exact⟨A,C,e⟩);(have q2:∃A C,u1= .slice A p.key.length C:=by obtain⟨A,C,e,_⟩:=hi.key;exact⟨A,C,e⟩);(have q3:∃A C,u2= .slice A p.root.length C:=by obtain⟨A,C,e,_⟩:=hi.root;exact⟨A,C,e⟩);obtain⟨A1,C1,rfl⟩:=q1;obtain⟨A2,C2,rfl⟩:=q2;(obtain⟨A3,C3,rfl⟩:=q3)))
  have TT:=gH hb3 hl3 hb5 hi;exact yX rfl rfl (P5.set8 (.int .i64 (p.kind:Nat)) (.int .i64 (p.size:Nat)) (.slice A1 p.kids.length C1) (.int .i64 (p.dev:Nat)) (.int .i64 (p.first:Nat)) (.int .i64 (p.chunk:Nat)) (.slice A2 p.key.length C2) (.slice A3 p.root.length C3)) rfl TT
end
section
open Go.ChangeShapes Go.WideShapes Go.ChangeAt Go.RowKit Go.MapKept
variable {E:Nat→Prop}
theorem XA{w:World}{cb:Nat}{V:CV}{c:Ck}{ks:List Nat}{bk ok Ck:Nat}(hI:PIn E w cb V c ks bk ok Ck)(n:Nd)(A:Option Addr)(C:Nat)(hr:jZ w n A C)(ho:n.op=qQ∨n.op=je):
 Calls Tryz.prog 97 #[.pointer (some ⟨cb,0,none⟩),.agg (qD n (.slice A n.l.length C)),.slice (some ⟨bk,ok,none⟩) ks.length Ck] w (Zn w (GJ (jD c.names c.parts n ks))):=by
 have hk0:=hI.pos;have hkid:=hI.kid;have h:=hI.ck;have hp0:0<c.parts.length:=by have:=(hkid _ (List.getElem_mem hk0)).1;omega
 obtain⟨g,op,Cp,evp,hCp1,hCp2,hg,hSz⟩:=h.vp hp0;have hgd:ks.getD 0 0=ks[0]:=by rw[List.getD_eq_getElem?_getD,List.getElem?_eq_getElem hk0];rfl
 obtain⟨W2,hW2⟩:∃W2,W2=(w.alloc (.cells #[.string (bs n.op),.string (bs n.s),.int .i64 n.n,.int .i64 n.a,.slice A n.l.length C] 24)).alloc (.cells #[.int .i64 0,.int .i64 0,.slice none 0 0,.int .i64 0,.int .i64 0,.int .i64 0,.slice none 0 0,.slice none 0 0] 65):=⟨_,rfl⟩
 have hb2:Below w.heap.size w W2:=by rw[hW2];exact yr w _ _
 have P2:zm W2 (w.heap.size+1) 65 #[.int .i64 0,.int .i64 0,.slice none 0 0,.int .i64 0,.int .i64 0,.int .i64 0,.slice none 0 0,.slice none 0 0]:=by rw[hW2];exact zm.new_at (by simp)
 have N2:zm W2 w.heap.size 24 #[.string (bs n.op),.string (bs n.s),.int .i64 n.n,.int .i64 n.a,.slice A n.l.length C]:=by rw[hW2];exact(zm.new w _ _).alloc _
 have HW:Hid (W2=(w.alloc (.cells #[.string (bs n.op),.string (bs n.s),.int .i64 n.n,.int .i64 n.a,.slice A n.l.length C] 24)).alloc (.cells #[.int .i64 0,.int .i64 0,.slice none 0 0,.int .i64 0,.int .i64 0,.int .i64 0,.slice none 0 0,.slice none 0 0] 65)):=hW2;have hot:=zp n.op;have c2:=h.has.cell 2;simp only[List.getElem?_toArray,List.getElem?_cons_zero,List.getElem?_cons_succ,evp]at c2;have c2r:=za hb2 c2;have k0r:W2.cell? ⟨bk,ok,none⟩=some (.int .i64 (ks[0]:Nat)):=za hb2 (hI.cells 0 hk0);obtain⟨hK0n',hS1,hS2⟩:=hkid _ (List.getElem_mem hk0);have s0r:=hSz.below hb2 hg _ hK0n'
 have hR:jD c.names c.parts n ks=if 2≤ks.length∧ks.length≤4 then Gh c.parts n ks else .error (135,n.a):=by
  unfold jD;rw[if_neg (by rcases ho with ho|ho<;>rw[ho]<;>decide),if_pos ho];unfold xZ Gh;by_cases q:2≤ks.length∧ks.length≤4
  ·rw[if_neg (not_not_intro q),if_pos q]
  ·rw[if_pos q,if_neg q]
 rw[hR];have hse:=λW (hb:Below w.heap.size w W) (q2:2≤ks.length) (q4:ks.length≤4)=>fg (h.keep hb) n A n.l.length C ks (P:=λ_=>True) (some ⟨bk,ok,none⟩) Ck (.inr ⟨bk,ok,rfl,Nat.lt_of_lt_of_le hI.lt hb.size,trivial,λj hj=>za hb (hI.cells j hj)⟩) q2 q4 hI.cap hI.max (λk hk=>⟨(hkid k hk).1,(hkid k hk).2.2⟩)
 clear hR;have f0:(n.op== [108,105,110,101,97,114])=false:=by rcases ho with ho|ho<;>rw[ho]<;>decide
 obtain⟨b1,hb1⟩:∃b1,(n.op== [99,111,110,99,97,116])=b1:=⟨_,rfl⟩
 have hb1':b1=false→(n.op== [109,105,114,114,111,114])=true:=by
  intro e;rcases ho with ho|ho
  ·rw[ho,e]at hb1;exact absurd hb1 (by decide)
  ·rw[ho];decide
 have hlc:=hI.cap
 obtain⟨NP,hNP⟩:∃NP,NP=c.parts.length:=⟨_,rfl⟩
 have HNP:Hid (NP=c.parts.length):=hNP;rw[←hNP]at hCp1 c2r hK0n'
 obtain⟨Lk,hLk⟩:∃Lk,Lk=ks.length:=⟨_,rfl⟩
 have HLk:Hid (Lk=ks.length):=hLk;rw[←hLk];have hL0:0<Lk:=by omega
 obtain⟨S,hS⟩:∃S,S=sz c.parts ks[0]:=⟨_,rfl⟩
 obtain⟨K0,hK0⟩:∃K0,K0=ks[0]:=⟨_,rfl⟩
 rw[←hS]at s0r hS1 hS2;rw[←hK0]at s0r k0r hK0n';have HS:Hid (S=sz c.parts ks[0]):=hS;have hK0n:K0<NP:=hK0n'
 obtain⟨Ln,hLn⟩:∃Ln,Ln=n.l.length:=⟨_,rfl⟩
 rw[←hLn]at N2 HW hse ⊢;rw[←hLk]at hse hlc;have hse3:=hse W2.drew (zr hb2);have hLki:Lk≤4→(Lk:Int)≤4:=λq=>by omega
 obtain⟨R,hR⟩:∃R,R=Gh c.parts n ks:=⟨_,rfl⟩
 rw[←hR]at hse3 ⊢;unfold qD at hse3;clear hse hR;by_cases q:2≤Lk∧Lk≤4
 ·rw[if_pos q]
  obtain⟨q2,q4⟩:=q;have hse3:=hse3 q2 q4;have q2i:(2:Int)≤(Lk:Int):=by omega
  have q4i:(Lk:Int)≤4:=by omega
  have q2d:decide (2≤Lk)=true:=decide_eq_true q2;have q4d:decide (Lk≤4)=true:=decide_eq_true q4;generalize GJ R=R at *;cases b1
  all_goals
   (try have f2:=hb1' rfl)
   clear hb1';clear hW2 hNP hLk hS hK0 hK0n' c2 ho hLn hr hI hkid h;unfold qD;go_enter Tryz.func97,Tryz.ntmps97
   go_wp2
   rw[←HW.out];refine wp_region_held_drew (S:=λwz=>Below W2.heap.size W2 wz) (by kernel_rfl) ((Below.refl _ W2).drew) (λhHeld=>?_);refine zw 0 (some 13) (.pointer (some ⟨cb,0,none⟩)) hHeld ?_;simp only[Act.put,zh,zf,zg];refine zw 1 (some 14) (.pointer (some ⟨cb,0,none⟩)) hHeld ?_;simp only[Act.put,zh,zf,zg];refine zw 2 (some 15) (.pointer (some ⟨cb,0,none⟩)) hHeld ?_;simp only[Act.put,zh,zf,zg];refine zw 3 (some 16) (.pointer (some ⟨cb,2,none⟩)) hHeld ?_;simp only[Act.put,zh,zf,zg];refine zD 4 (some 17) (.slice (some ⟨g,op,none⟩) NP Cp) rfl rfl (λwz hz=>by have z0:=za hz c2r;unfold execOp;go_simp) hHeld ?_;simp only[Act.put,zh,zf,zg];refine zw 5 (some 18) (.slice (some ⟨bk,ok,none⟩) Lk Ck) hHeld ?_;simp only[Act.put,zh,zf,zg];refine zD 6 (some 19) (.pointer (some ⟨bk,ok,none⟩)) rfl rfl (λwz _=>qh _ _ rfl bk ok 0 Lk Ck rfl rfl hL0 wz) hHeld ?_;simp only[Act.put,zh,zf,zg];refine zD 7 (some 20) (.int .i64 (K0:Nat)) rfl rfl (λwz hz=>by have z0:=za hz k0r;unfold execOp;go_simp) hHeld ?_;simp only[Act.put,zh,zf,zg];refine zD 8 (some 21) (.pointer (some ⟨g,op+K0*8,none⟩)) rfl rfl (λwz _=>zE _ _ rfl g op K0 NP Cp rfl rfl hK0n wz) hHeld ?_;simp only[Act.put,zh,zf,zg];refine zw 9 (some 22) (.pointer (some ⟨g,op+K0*8+1,none⟩)) hHeld ?_;simp only[Act.put,zh,zf,zg];refine zD 10 (some 23) (.int .i64 (S:Nat)) rfl rfl (λwz hz=>by have z0:=za hz s0r;unfold execOp;go_simp) hHeld ?_;simp only[Act.put,zh,zf,zg];refine zw 11 (some 7) (.int .i64 (S:Nat)) hHeld ?_;simp only[Act.put,zh,zf,zg];refine wpAnyH_done (by kernel_rfl) ?_ _;have hb3:Below w.heap.size w W2.drew:=zr hb2;have P3:=zt P2;have N3:=zt N2;have nc0:=N3.cell 0;have nc1:=N3.cell 1;have nc2:=N3.cell 2;have nc4:=N3.cell 4;have nc3:=N3.cell 3;have ln3:=N3.lt;have lp3:=P3.lt;simp only[qH,qG,qI]at nc0 nc1 nc2 nc3 nc4;have hl3:w.heap.size+1<W2.drew.heap.size:=lp3;clear c2r k0r s0r hb2 P2 N2 HW hHeld;generalize W2.drew=W3 at *;cases R with
   |error er =>
    obtain⟨ec,ek⟩:=er
    go_wp2_with (first
     |((go_at_call 62)
       refine(qL 135 n.a _).mono ?_;rintro e w4 ⟨rfl,hw4⟩;(obtain rfl:W3=w4:=hw4.symm))
     |((go_at_call 105)
       refine hse3.mono ?_;(rintro e w5 ⟨hb5,rfl⟩)))
    exact⟨rfl,hb3.trans (hb5.mono hb3.size),rfl⟩
   |ok p =>
    go_wp2_with (first
     |((go_at_call 62)
       refine(qL 135 n.a _).mono ?_;rintro e w4 ⟨rfl,hw4⟩;(obtain rfl:W3=w4:=hw4.symm))
     |((go_at_call 105)
       refine hse3.mono ?_;rintro e w5 ⟨hb5,u,rfl,hi⟩;unfold Q9;have P5:=P3.below hb5 P3.lt;have lp5:=P5.lt;have a0:=P5.cell 0;have b0:=P5.free 0;have a1:=P5.cell 1;have b1:=P5.free 1;have a2:=P5.cell 2;have b2:=P5.free 2;have a3:=P5.cell 3;have b3:=P5.free 3;have a4:=P5.cell 4;have b4:=P5.free 4;have a5:=P5.cell 5;have b5:=P5.free 5;have a6:=P5.cell 6;have b6:=P5.free 6;have a7:=P5.cell 7;have b7:=P5.free 7;obtain⟨u0,u1,u2⟩:=u;(have q1:∃A C,u0= .slice A p.kids.length C:=by obtain⟨A,C,e,_⟩:=hi.kids;exact⟨A,C,e⟩);(have q2:∃A C,u1= .slice A p.key.length C:=by obtain⟨A,C,e,_⟩:=hi.key;exact⟨A,C,e⟩);(have q3:∃A C,u2= .slice A p.root.length C:=by obtain⟨A,C,e,_⟩:=hi.root;exact⟨A,C,e⟩);obtain⟨A1,C1,rfl⟩:=q1;obtain⟨A2,C2,rfl⟩:=q2;(obtain⟨A3,C3,rfl⟩:=q3)))
    have TT:=gH hb3 hl3 hb5 hi;exact yX rfl rfl (P5.set8 (.int .i64 (p.kind:Nat)) (.int .i64 (p.size:Nat)) (.slice A1 p.kids.length C1) (.int .i64 (p.dev:Nat)) (.int .i64 (p.first:Nat)) (.int .i64 (p.chunk:Nat)) (.slice A2 p.key.length C2) (.slice A3 p.root.length C3)) rfl TT
 ·rw[if_neg q]
  clear hse3;cases b1
  all_goals
   (try have f2:=hb1' rfl)
   clear hb1';clear hW2 hNP hLk hS hK0 hK0n' c2 ho hLn hr hI hkid h;unfold qD;go_enter Tryz.func97,Tryz.ntmps97
   go_wp2
   rw[←HW.out];refine wp_region_held_drew (S:=λwz=>Below W2.heap.size W2 wz) (by kernel_rfl) ((Below.refl _ W2).drew) (λhHeld=>?_);refine zw 0 (some 13) (.pointer (some ⟨cb,0,none⟩)) hHeld ?_;simp only[Act.put,zh,zf,zg];refine zw 1 (some 14) (.pointer (some ⟨cb,0,none⟩)) hHeld ?_;simp only[Act.put,zh,zf,zg];refine zw 2 (some 15) (.pointer (some ⟨cb,0,none⟩)) hHeld ?_;simp only[Act.put,zh,zf,zg];refine zw 3 (some 16) (.pointer (some ⟨cb,2,none⟩)) hHeld ?_;simp only[Act.put,zh,zf,zg];refine zD 4 (some 17) (.slice (some ⟨g,op,none⟩) NP Cp) rfl rfl (λwz hz=>by have z0:=za hz c2r;unfold execOp;go_simp) hHeld ?_;simp only[Act.put,zh,zf,zg];refine zw 5 (some 18) (.slice (some ⟨bk,ok,none⟩) Lk Ck) hHeld ?_;simp only[Act.put,zh,zf,zg];refine zD 6 (some 19) (.pointer (some ⟨bk,ok,none⟩)) rfl rfl (λwz _=>qh _ _ rfl bk ok 0 Lk Ck rfl rfl hL0 wz) hHeld ?_;simp only[Act.put,zh,zf,zg];refine zD 7 (some 20) (.int .i64 (K0:Nat)) rfl rfl (λwz hz=>by have z0:=za hz k0r;unfold execOp;go_simp) hHeld ?_;simp only[Act.put,zh,zf,zg];refine zD 8 (some 21) (.pointer (some ⟨g,op+K0*8,none⟩)) rfl rfl (λwz _=>zE _ _ rfl g op K0 NP Cp rfl rfl hK0n wz) hHeld ?_;simp only[Act.put,zh,zf,zg];refine zw 9 (some 22) (.pointer (some ⟨g,op+K0*8+1,none⟩)) hHeld ?_;simp only[Act.put,zh,zf,zg];refine zD 10 (some 23) (.int .i64 (S:Nat)) rfl rfl (λwz hz=>by have z0:=za hz s0r;unfold execOp;go_simp) hHeld ?_;simp only[Act.put,zh,zf,zg];refine zw 11 (some 7) (.int .i64 (S:Nat)) hHeld ?_;simp only[Act.put,zh,zf,zg];refine wpAnyH_done (by kernel_rfl) ?_ _;have hb3:Below w.heap.size w W2.drew:=zr hb2;have P3:=zt P2;have N3:=zt N2;have nc0:=N3.cell 0;have nc1:=N3.cell 1;have nc2:=N3.cell 2;have nc4:=N3.cell 4;have nc3:=N3.cell 3;have ln3:=N3.lt;have lp3:=P3.lt;simp only[qH,qG,qI]at nc0 nc1 nc2 nc3 nc4;clear c2r k0r s0r hb2 P2 N2 HW hHeld;generalize W2.drew=W3 at *;by_cases q2:2≤Lk
   ·have q4:¬Lk≤4:=λe=>q ⟨q2,e⟩
    have q2i:(2:Int)≤(Lk:Int):=by omega
    have q4i:¬(Lk:Int)≤4:=by omega
    have q2d:decide (2≤Lk)=true:=decide_eq_true q2;have q4d:decide (Lk≤4)=false:=decide_eq_false q4;clear q
    go_wp2_with (first
     |((go_at_call 62)
       refine(jA 135 n.a _).mono ?_;(rintro e w4 ⟨rfl,rfl⟩)))
    exact⟨rfl,hb3,rfl⟩
   ·have q2i:¬(2:Int)≤(Lk:Int):=by omega
    have q2d:decide (2≤Lk)=false:=decide_eq_false q2;clear q
    go_wp2_with (first
     |((go_at_call 62)
       refine(jA 135 n.a _).mono ?_;(rintro e w4 ⟨rfl,rfl⟩)))
    exact⟨rfl,hb3,rfl⟩
end
section
open Go.ChangeShapes Go.WideShapes Go.ChangeAt Go.RowKit Go.MapKept
variable {E:Nat→Prop}
theorem YE{w:World}{cb:Nat}{V:CV}{c:Ck}{ks:List Nat}{bk ok Ck:Nat}(hI:PIn E w cb V c ks bk ok Ck)(n:Nd)(A:Option Addr)(C:Nat)(hr:jZ w n A C)(ho:n.op=qv)(hl:n.l.length=3)(hk2:ks.length=2)(hx2:0≤(zF n.l 2).n∧(zF n.l 2).n≤999999999):
 Calls Tryz.prog 97 #[.pointer (some ⟨cb,0,none⟩),.agg (qD n (.slice A n.l.length C)),.slice (some ⟨bk,ok,none⟩) ks.length Ck] w (Zn w (GJ (jD c.names c.parts n ks))):=by
 have hk0:=hI.pos;have hkid:=hI.kid;have h:=hI.ck;have hp0:0<c.parts.length:=by have:=(hkid _ (List.getElem_mem hk0)).1;omega
 obtain⟨g,op,Cp,evp,hCp1,hCp2,hg,hSz⟩:=h.vp hp0;have hgd:ks.getD 0 0=ks[0]:=by rw[List.getD_eq_getElem?_getD,List.getElem?_eq_getElem hk0];rfl
 obtain⟨W2,hW2⟩:∃W2,W2=(w.alloc (.cells #[.string (bs n.op),.string (bs n.s),.int .i64 n.n,.int .i64 n.a,.slice A n.l.length C] 24)).alloc (.cells #[.int .i64 0,.int .i64 0,.slice none 0 0,.int .i64 0,.int .i64 0,.int .i64 0,.slice none 0 0,.slice none 0 0] 65):=⟨_,rfl⟩
 have hb2:Below w.heap.size w W2:=by rw[hW2];exact yr w _ _
 have P2:zm W2 (w.heap.size+1) 65 #[.int .i64 0,.int .i64 0,.slice none 0 0,.int .i64 0,.int .i64 0,.int .i64 0,.slice none 0 0,.slice none 0 0]:=by rw[hW2];exact zm.new_at (by simp)
 have N2:zm W2 w.heap.size 24 #[.string (bs n.op),.string (bs n.s),.int .i64 n.n,.int .i64 n.a,.slice A n.l.length C]:=by rw[hW2];exact(zm.new w _ _).alloc _
 have HW:Hid (W2=(w.alloc (.cells #[.string (bs n.op),.string (bs n.s),.int .i64 n.n,.int .i64 n.a,.slice A n.l.length C] 24)).alloc (.cells #[.int .i64 0,.int .i64 0,.slice none 0 0,.int .i64 0,.int .i64 0,.int .i64 0,.slice none 0 0,.slice none 0 0] 65)):=hW2;have hot:=zp n.op;have c2:=h.has.cell 2;simp only[List.getElem?_toArray,List.getElem?_cons_zero,List.getElem?_cons_succ,evp]at c2;have c2r:=za hb2 c2;have k0r:W2.cell? ⟨bk,ok,none⟩=some (.int .i64 (ks[0]:Nat)):=za hb2 (hI.cells 0 hk0);obtain⟨hK0n',hS1,hS2⟩:=hkid _ (List.getElem_mem hk0);have s0r:=hSz.below hb2 hg _ hK0n';obtain⟨gn,on,Au,Cu,rfl,hgn,hat⟩:=jg hr (by omega);have x2w:w.cell? ⟨gn,on+2*5+2,none⟩=some (.int .i64 (zF n.l 2).n):=(hat 2 (by omega)).1 2 (by decide);have hk1:1<ks.length:=by omega
 have hgd1:ks.getD 1 0=ks[1]:=by rw[List.getD_eq_getElem?_getD,List.getElem?_eq_getElem hk1];rfl
 obtain⟨g2,o2,C2,evb,hC21,hC22,hg2,hOn⟩:=h.vo hp0;obtain⟨hK1n',hS11,hS12⟩:=hkid _ (List.getElem_mem hk1);have s1r:=hSz.below hb2 hg _ hK1n';have onr:=hOn.below hb2 hg2 ks[1] (by rw[vr];exact hK1n');have k1r:W2.cell? ⟨bk,ok+1,none⟩=some (.int .i64 (ks[1]:Nat)):=za hb2 (hI.cells 1 hk1);have c6:=h.has.cell 6;simp only[List.getElem?_toArray,List.getElem?_cons_zero,List.getElem?_cons_succ,evb]at c6;have c6r:=za hb2 c6;have x2r:=za hb2 x2w
 have hR:jD c.names c.parts n ks=if slt (sz c.parts ks[1]) (sz c.parts ks[0]) (zF n.l 2).n=0 then .error (134,n.a)else if(zR c.parts).getD ks[1] false=true then .error (139,n.a)else .ok ⟨5,sz c.parts ks[0],ks,0,0,(zF n.l 2).n.toNat,[],[]⟩:=by
  unfold jD;rw[if_neg (by rw[ho];decide),if_neg (by rw[ho];decide),if_pos ho,hgd,hgd1];rfl
 have HR:=ze hR;have hst:=λW=>zar (sz c.parts ks[1]) (sz c.parts ks[0]) (zF n.l 2).n W
 clear hR c6;have f0:(n.op== [108,105,110,101,97,114])=false:=by rw[ho];decide
 have f1:(n.op== [99,111,110,99,97,116])=false:=by rw[ho];decide
 have f2:(n.op== [109,105,114,114,111,114])=false:=by rw[ho];decide
 have f3:(n.op== [115,110,97,112,115,104,111,116])=true:=by rw[ho];decide
 obtain⟨NP,hNP⟩:∃NP,NP=c.parts.length:=⟨_,rfl⟩
 have HNP:Hid (NP=c.parts.length):=hNP;rw[←hNP]at hCp1 c2r hK0n'
 obtain⟨Lk,hLk⟩:∃Lk,Lk=ks.length:=⟨_,rfl⟩
 have HLk:Hid (Lk=ks.length):=hLk;rw[←hLk];have hL0:0<Lk:=by omega
 obtain⟨S,hS⟩:∃S,S=sz c.parts ks[0]:=⟨_,rfl⟩
 obtain⟨K0,hK0⟩:∃K0,K0=ks[0]:=⟨_,rfl⟩
 rw[←hS]at s0r hS1 hS2;rw[←hK0]at s0r k0r hK0n';have HS:Hid (S=sz c.parts ks[0]):=hS;have hK0n:K0<NP:=hK0n';rw[←hNP]at c6r hK1n';rw[←hS]at HR hst
 obtain⟨x2,hx2'⟩:∃x,x=(zF n.l 2).n:=⟨_,rfl⟩
 rw[←hx2']at HR x2w x2r hx2 hst
 obtain⟨S1,hS1'⟩:∃S1,S1=sz c.parts ks[1]:=⟨_,rfl⟩
 rw[←hS1']at HR s1r hst
 obtain⟨ob,hob⟩:∃ob,ob=(zR c.parts).getD ks[1] false:=⟨_,rfl⟩
 rw[←hob]at HR onr
 obtain⟨K1,hK1⟩:∃K1,K1=ks[1]:=⟨_,rfl⟩
 rw[←hK1]at s1r k1r onr hK1n'
 obtain⟨sl,hsl⟩:∃sl,sl=slt S1 S x2:=⟨_,rfl⟩
 rw[←hsl]at HR hst
 obtain⟨Ln,hLn⟩:∃Ln,Ln=n.l.length:=⟨_,rfl⟩
 rw[←hLn]at N2 HW hl ⊢;have hln2:2<Ln:=by omega
 have hL1:1<Lk:=by omega
 have hK1n:K1<NP:=hK1n'
 obtain⟨X2,rfl⟩:∃X:Nat,x2=(X:Nat):=⟨x2.toNat,by omega⟩
 obtain⟨hX2a,hX2b⟩:=hx2;have HI:=ze hb2;clear hW2 hNP hLk hS hK0 hK0n' c2 hx2' hS1' hob hK1 hsl hLn hat ho hr hI hkid h hl hk2 hK1n' x2w evb hC21 hC22 hOn hS11 hS12;unfold qD;go_enter Tryz.func97,Tryz.ntmps97
 go_wp2
 rw[←HW.out];refine wp_region_held_drew (S:=λwz=>Below W2.heap.size W2 wz) (by kernel_rfl) ((Below.refl _ W2).drew) (λhHeld=>?_);refine zw 0 (some 13) (.pointer (some ⟨cb,0,none⟩)) hHeld ?_;simp only[Act.put,zh,zf,zg];refine zw 1 (some 14) (.pointer (some ⟨cb,0,none⟩)) hHeld ?_;simp only[Act.put,zh,zf,zg];refine zw 2 (some 15) (.pointer (some ⟨cb,0,none⟩)) hHeld ?_;simp only[Act.put,zh,zf,zg];refine zw 3 (some 16) (.pointer (some ⟨cb,2,none⟩)) hHeld ?_;simp only[Act.put,zh,zf,zg];refine zD 4 (some 17) (.slice (some ⟨g,op,none⟩) NP Cp) rfl rfl (λwz hz=>by have z0:=za hz c2r;unfold execOp;go_simp) hHeld ?_;simp only[Act.put,zh,zf,zg];refine zw 5 (some 18) (.slice (some ⟨bk,ok,none⟩) Lk Ck) hHeld ?_;simp only[Act.put,zh,zf,zg];refine zD 6 (some 19) (.pointer (some ⟨bk,ok,none⟩)) rfl rfl (λwz _=>qh _ _ rfl bk ok 0 Lk Ck rfl rfl hL0 wz) hHeld ?_;simp only[Act.put,zh,zf,zg];refine zD 7 (some 20) (.int .i64 (K0:Nat)) rfl rfl (λwz hz=>by have z0:=za hz k0r;unfold execOp;go_simp) hHeld ?_;simp only[Act.put,zh,zf,zg];refine zD 8 (some 21) (.pointer (some ⟨g,op+K0*8,none⟩)) rfl rfl (λwz _=>zE _ _ rfl g op K0 NP Cp rfl rfl hK0n wz) hHeld ?_;simp only[Act.put,zh,zf,zg];refine zw 9 (some 22) (.pointer (some ⟨g,op+K0*8+1,none⟩)) hHeld ?_;simp only[Act.put,zh,zf,zg];refine zD 10 (some 23) (.int .i64 (S:Nat)) rfl rfl (λwz hz=>by have z0:=za hz s0r;unfold execOp;go_simp) hHeld ?_;simp only[Act.put,zh,zf,zg];refine zw 11 (some 7) (.int .i64 (S:Nat)) hHeld ?_;simp only[Act.put,zh,zf,zg];refine wpAnyH_done (by kernel_rfl) ?_ _;have hb3:Below w.heap.size w W2.drew:=zr hb2;have P3:=zt P2;have N3:=zt N2;have nc0:=N3.cell 0;have nc1:=N3.cell 1;have nc2:=N3.cell 2;have nc4:=N3.cell 4;have nc3:=N3.cell 3;have ln3:=N3.lt;have lp3:=P3.lt;simp only[qH,qG,qI]at nc0 nc1 nc2 nc3 nc4;have hbz:Below W2.heap.size W2 W2.drew:=(Below.refl _ W2).drew;replace c2r:=za hbz c2r;replace c6r:=za hbz c6r;replace k1r:=za hbz k1r;replace s1r:=za hbz s1r;replace onr:=za hbz onr;replace x2r:=za hbz x2r;clear k0r s0r hb2 P2 N2 HW hHeld HI hbz;generalize W2.drew=W3 at *
 go_wp2_with (first
  |((refine zi 75 rfl ?_)
    (refine zd (some 75) _ rfl (by rfl) (zu _ _ rfl gn on 2 Ln C rfl rfl hln2 W3) ?_)))
 refine wp_region_held_drew (S:=λwz=>Below W3.heap.size W3 wz) (by kernel_rfl) ((Below.refl _ W3).drew) (λhHeld=>?_);refine zw 0 (some 79) (.pointer (some ⟨cb,0,none⟩)) hHeld ?_;simp only[Act.put,zh,zf,zg];refine zw 1 (some 80) (.pointer (some ⟨cb,0,none⟩)) hHeld ?_;simp only[Act.put,zh,zf,zg];refine zw 2 (some 81) (.pointer (some ⟨cb,0,none⟩)) hHeld ?_;simp only[Act.put,zh,zf,zg];refine zw 3 (some 82) (.pointer (some ⟨cb,2,none⟩)) hHeld ?_;simp only[Act.put,zh,zf,zg];refine zD 4 (some 83) (.slice (some ⟨g,op,none⟩) NP Cp) rfl rfl (λwz hz=>by have z0:=za hz c2r;unfold execOp;go_simp) hHeld ?_;simp only[Act.put,zh,zf,zg];refine zw 5 (some 84) (.slice (some ⟨bk,ok,none⟩) Lk Ck) hHeld ?_;simp only[Act.put,zh,zf,zg];refine zD 6 (some 85) (.pointer (some ⟨bk,ok+1,none⟩)) rfl rfl (λwz _=>qh _ _ rfl bk ok 1 Lk Ck rfl rfl hL1 wz) hHeld ?_;simp only[Act.put,zh,zf,zg];refine zD 7 (some 86) (.int .i64 (K1:Nat)) rfl rfl (λwz hz=>by have z0:=za hz k1r;unfold execOp;go_simp) hHeld ?_;simp only[Act.put,zh,zf,zg];refine zD 8 (some 87) (.pointer (some ⟨g,op+K1*8,none⟩)) rfl rfl (λwz _=>zE _ _ rfl g op K1 NP Cp rfl rfl hK1n wz) hHeld ?_;simp only[Act.put,zh,zf,zg];refine zw 9 (some 88) (.pointer (some ⟨g,op+K1*8+1,none⟩)) hHeld ?_;simp only[Act.put,zh,zf,zg];refine zD 10 (some 89) (.int .i64 (S1:Nat)) rfl rfl (λwz hz=>by have z0:=za hz s1r;unfold execOp;go_simp) hHeld ?_;simp only[Act.put,zh,zf,zg];refine zw 11 (some 90) (.int .i64 (S:Nat)) hHeld ?_;simp only[Act.put,zh,zf,zg];refine zw 12 (some 91) (.int .i64 (X2:Nat)) hHeld ?_;simp only[Act.put,zh,zf,zg];refine jn 13 (some 92) 106 #[.int .i64 (S1:Nat),.int .i64 (S:Nat),.int .i64 (X2:Nat)] (by kernel_rfl) rfl rfl (by rfl) (by kernel_rfl) (hst W3.drew) ?_;rintro e w4 ⟨tt,rfl,hb4⟩;have hH4:Below W3.heap.size W3 w4:=hHeld.trans hb4;refine .inl ⟨_,rfl,hH4,?_⟩;simp only[Act.put,zh,zf,zg];refine zD 14 (some 78) (.tuple #[.int .i64 tt,.int .i64 (sl:Nat)]) rfl rfl (λ_ _=>rfl) hH4 ?_;simp only[Act.put,zh,zf,zg];refine zD 15 (some 93) (.int .i64 tt) rfl rfl (λ_ _=>rfl) hH4 ?_;simp only[Act.put,zh,zf,zg];refine zD 16 (some 94) (.int .i64 (sl:Nat)) rfl rfl (λ_ _=>rfl) hH4 ?_;simp only[Act.put,zh,zf,zg];refine zD 17 (some 11) (.int .i64 tt) rfl rfl (λ_ _=>rfl) hH4 ?_;simp only[Act.put,zh,zf,zg];refine zD 18 (some 12) (.int .i64 (sl:Nat)) rfl rfl (λ_ _=>rfl) hH4 ?_;simp only[Act.put,zh,zf,zg];refine wpAnyH_done (by kernel_rfl) ?_ _;have hbz:Below W3.heap.size W3 w4:=hH4;clear hst hH4 hHeld hb4;have hb4:Below w.heap.size w w4:=hb3.trans (hbz.mono hb3.size);have P4:=P3.below hbz P3.lt;have N4:=N3.below hbz N3.lt;replace c2r:=za hbz c2r;replace c6r:=za hbz c6r;replace k1r:=za hbz k1r;replace s1r:=za hbz s1r;replace onr:=za hbz onr;replace x2r:=za hbz x2r;clear hb3 P3 N3 hbz nc0 nc1 nc2 nc3 nc4 ln3 lp3;generalize w4=W3 at *;have hb3:=hb4;have P3:=P4;have N3:=N4;clear hb4 P4 N4;have nc0:=N3.cell 0;have nc1:=N3.cell 1;have nc2:=N3.cell 2;have nc4:=N3.cell 4;have nc3:=N3.cell 3;have ln3:=N3.lt;have lp3:=P3.lt;simp only[qH,qG,qI]at nc0 nc1 nc2 nc3 nc4;by_cases q1:sl=0
 ·have HQ:=ze (HR.out.trans (if_pos q1))
  subst q1;clear HR
  go_wp2_with (first
   |((go_at_call 62)
     refine(jA 134 n.a _).mono ?_;(rintro e w5 ⟨rfl,rfl⟩)))
  exact⟨rfl,hb3,by rw[HQ.out];rfl⟩
 ·have HR:=HR.out.trans (if_neg q1)
  have q1':decide (0<sl)=true:=decide_eq_true (by omega);have q1i:(0:Int)<(sl:Int):=by omega
  clear q1;cases ob with
  |true =>
   have HQ:=ze (HR.trans (if_pos rfl));clear HR
   go_wp2_with (first
    |((go_at_call 62)
      refine(qL 134 n.a _).mono ?_;rintro e w5 ⟨rfl,hw5⟩;(obtain rfl:W3=w5:=hw5.symm)))
   refine wp_region_held_drew (S:=λwz=>Below W3.heap.size W3 wz) (by kernel_rfl) ((Below.refl _ W3).drew) (λhHeld=>?_);refine zw 0 (some 100) (.pointer (some ⟨cb,0,none⟩)) hHeld ?_;simp only[Act.put,zh,zf,zg];refine zw 1 (some 101) (.pointer (some ⟨cb,0,none⟩)) hHeld ?_;simp only[Act.put,zh,zf,zg];refine zw 2 (some 102) (.pointer (some ⟨cb,6,none⟩)) hHeld ?_;simp only[Act.put,zh,zf,zg];refine zD 3 (some 103) (.slice (some ⟨g2,o2,none⟩) NP C2) rfl rfl (λwz hz=>by have z0:=za hz c6r;unfold execOp;go_simp) hHeld ?_;simp only[Act.put,zh,zf,zg];refine zw 4 (some 104) (.slice (some ⟨bk,ok,none⟩) Lk Ck) hHeld ?_;simp only[Act.put,zh,zf,zg];refine zD 5 (some 105) (.pointer (some ⟨bk,ok+1,none⟩)) rfl rfl (λwz _=>qh _ _ rfl bk ok 1 Lk Ck rfl rfl hL1 wz) hHeld ?_;simp only[Act.put,zh,zf,zg];refine zD 6 (some 106) (.int .i64 (K1:Nat)) rfl rfl (λwz hz=>by have z0:=za hz k1r;unfold execOp;go_simp) hHeld ?_;simp only[Act.put,zh,zf,zg];refine zD 7 (some 107) (.pointer (some ⟨g2,o2+K1,none⟩)) rfl rfl (λwz _=>xU _ _ rfl g2 o2 K1 NP C2 rfl rfl hK1n wz) hHeld ?_;simp only[Act.put,zh,zf,zg];refine zD 8 (some 108) (.bool true) rfl rfl (λwz hz=>by have z0:=za hz onr;unfold execOp;go_simp) hHeld ?_;simp only[Act.put,zh,zf,zg];refine zw 9 (some 109) (.bool false) hHeld ?_;simp only[Act.put,zh,zf,zg];refine zw 10 (some 110) (.pointer (some ⟨w.heap.size,3,none⟩)) hHeld ?_;simp only[Act.put,zh,zf,zg];refine zD 11 (some 111) (.int .i64 n.a) rfl rfl (λwz hz=>by have z0:=za hz nc3;unfold execOp;go_simp) hHeld ?_;simp only[Act.put,zh,zf,zg];refine jn 12 (some 112) 62 #[.bool false,.int .i64 139,.int .i64 n.a] (by kernel_rfl) rfl rfl (by rfl) (by kernel_rfl) (jA 139 n.a W3.drew) ?_;rintro e w5 ⟨rfl,rfl⟩;refine .inr ⟨_,rfl,?_⟩;exact⟨rfl,zr hb3,by rw[HQ.out];rfl⟩
  |false =>
   have HQ:=ze (HR.trans (if_neg (by decide)));clear HR
   go_wp2_with (first
    |((go_at_call 62)
      refine(qL 134 n.a _).mono ?_;rintro e w5 ⟨rfl,hw5⟩;(obtain rfl:W3=w5:=hw5.symm)))
   refine wp_region_held_drew (S:=λwz=>Below W3.heap.size W3 wz) (by kernel_rfl) ((Below.refl _ W3).drew) (λhHeld=>?_);refine zw 0 (some 100) (.pointer (some ⟨cb,0,none⟩)) hHeld ?_;simp only[Act.put,zh,zf,zg];refine zw 1 (some 101) (.pointer (some ⟨cb,0,none⟩)) hHeld ?_;simp only[Act.put,zh,zf,zg];refine zw 2 (some 102) (.pointer (some ⟨cb,6,none⟩)) hHeld ?_;simp only[Act.put,zh,zf,zg];refine zD 3 (some 103) (.slice (some ⟨g2,o2,none⟩) NP C2) rfl rfl (λwz hz=>by have z0:=za hz c6r;unfold execOp;go_simp) hHeld ?_;simp only[Act.put,zh,zf,zg];refine zw 4 (some 104) (.slice (some ⟨bk,ok,none⟩) Lk Ck) hHeld ?_;simp only[Act.put,zh,zf,zg];refine zD 5 (some 105) (.pointer (some ⟨bk,ok+1,none⟩)) rfl rfl (λwz _=>qh _ _ rfl bk ok 1 Lk Ck rfl rfl hL1 wz) hHeld ?_;simp only[Act.put,zh,zf,zg];refine zD 6 (some 106) (.int .i64 (K1:Nat)) rfl rfl (λwz hz=>by have z0:=za hz k1r;unfold execOp;go_simp) hHeld ?_;simp only[Act.put,zh,zf,zg];refine zD 7 (some 107) (.pointer (some ⟨g2,o2+K1,none⟩)) rfl rfl (λwz _=>xU _ _ rfl g2 o2 K1 NP C2 rfl rfl hK1n wz) hHeld ?_;simp only[Act.put,zh,zf,zg];refine zD 8 (some 108) (.bool false) rfl rfl (λwz hz=>by have z0:=za hz onr;unfold execOp;go_simp) hHeld ?_;simp only[Act.put,zh,zf,zg];refine zw 9 (some 109) (.bool true) hHeld ?_;simp only[Act.put,zh,zf,zg];refine zw 10 (some 110) (.pointer (some ⟨w.heap.size,3,none⟩)) hHeld ?_;simp only[Act.put,zh,zf,zg];refine zD 11 (some 111) (.int .i64 n.a) rfl rfl (λwz hz=>by have z0:=za hz nc3;unfold execOp;go_simp) hHeld ?_;simp only[Act.put,zh,zf,zg];refine jn 12 (some 112) 62 #[.bool true,.int .i64 139,.int .i64 n.a] (by kernel_rfl) rfl rfl (by rfl) (by kernel_rfl) (qL 139 n.a W3.drew) ?_;rintro e w5 ⟨rfl,rfl⟩;refine .inl ⟨_,rfl,hHeld,?_⟩;simp only[Act.put,zh,zf,zg];refine wpAnyH_done (by kernel_rfl) ?_ _;have hbz:Below W3.heap.size W3 W3.drew:=(Below.refl _ W3).drew;clear hHeld;have hb4:Below w.heap.size w W3.drew:=hb3.trans (hbz.mono hb3.size);have P4:=P3.below hbz P3.lt;have N4:=N3.below hbz N3.lt;replace c2r:=za hbz c2r;replace c6r:=za hbz c6r;replace k1r:=za hbz k1r;replace s1r:=za hbz s1r;replace onr:=za hbz onr;replace x2r:=za hbz x2r;clear hb3 P3 N3 hbz nc0 nc1 nc2 nc3 nc4 ln3 lp3;generalize W3.drew=W3 at *;have hb3:=hb4;have P3:=P4;have N3:=N4;clear hb4 P4 N4;have nc0:=N3.cell 0;have nc1:=N3.cell 1;have nc2:=N3.cell 2;have nc4:=N3.cell 4;have nc3:=N3.cell 3;have ln3:=N3.lt;have lp3:=P3.lt;simp only[qH,qG,qI]at nc0 nc1 nc2 nc3 nc4;have a0:=P3.cell 0;have b0:=P3.free 0;have a1:=P3.cell 1;have b1:=P3.free 1;have a2:=P3.cell 2;have b2:=P3.free 2;have a3:=P3.cell 3;have b3:=P3.free 3;have a4:=P3.cell 4;have b4:=P3.free 4;have a5:=P3.cell 5;have b5:=P3.free 5;have a6:=P3.cell 6;have b6:=P3.free 6;have a7:=P3.cell 7;have b7:=P3.free 7;have fin:∀(kd s fi ch:Nat) (kk:List Nat),Zn w (GJ (.ok ⟨kd,s,kk,0,fi,ch,[],[]⟩)) (.returned (.agg #[.int .i64 (kd:Nat),.int .i64 (s:Nat),.slice none 0 0,.int .i64 0,.int .i64 (fi:Nat),.int .i64 (ch:Nat),.slice none 0 0,.slice none 0 0])) (Z7 W3 (w.heap.size+1) (.int .i64 (kd:Nat)) (.int .i64 (s:Nat)) (.slice none 0 0) (.int .i64 0) (.int .i64 (fi:Nat)) (.int .i64 (ch:Nat)) (.slice none 0 0) (.slice none 0 0)):=λkd s fi ch kk=>⟨K9 hb3 (Nat.le_succ _) _ _ _ _ _ _ _ _,(.slice none 0 0,.slice none 0 0,.slice none 0 0),rfl,⟨none,0,rfl,Nat.le_refl _,by unfold maxLen;omega,.inl rfl⟩,⟨none,0,rfl,Nat.le_refl _,by unfold maxLen;omega,.inl rfl⟩,⟨none,0,rfl,Nat.le_refl _,by unfold maxLen;omega,.inl rfl⟩⟩
   go_wp2
   exact yX rfl rfl (P3.set8 _ _ _ _ _ _ _ _) rfl (by rw[HQ.out,Int.toNat_natCast];exact fin 5 S 0 X2 ks)
end
section
open Go.ChangeShapes Go.WideShapes Go.ChangeAt Go.RowKit Go.MapKept
variable {E:Nat→Prop}
structure ExS (n:Nd):Prop where
 shape:Qq n (jR n).length
 word:n.op=qX∨(n.op=qQ∨n.op=je)∨n.op=qv∨(n.op=jl∨n.op=qb∨n.op=jf)
 lin:n.op=qX→n.l.length=3∧(0≤(zF n.l 1).n∧(zF n.l 1).n≤999999999)∧(0≤(zF n.l 2).n∧(zF n.l 2).n≤999999999)
 snap:n.op=qv→n.l.length=3∧(0≤(zF n.l 2).n∧(zF n.l 2).n≤999999999)
 sec:(n.op=jl∨n.op=qb∨n.op=jf)→2≤n.l.length
 few:n.l.length≤80000
inductive gB:Nat→Nd→Prop where
 |use (d:Nat) (n:Nd):n.op=vK→gB (d+1) n
 |mk (d:Nat) (n:Nd):n.op≠vK→ExS n→(∀x ∈ jR n,gB d x)→gB (d+1) n
theorem gB.ok{d:Nat}{n:Nd}(h:gB d n):Ub d n:=by
 induction h with
 |use d n e=>exact .use d n e
 |mk d n e hs _ ih=>exact .mk d n e hs.shape ih
def zbO(E:Nat→Prop)(w:World)(cb:Nat)(V:CV)(c:Ck)(R:Except Er (Nat×List Pt))(e:Ending)(w':World):Prop:=vZ (V.own cb) w w'∧match R with
 | .error (ec,ek)=>e= .panicked (XT ec ek)
 | .ok (k,ps)=>e= .returned (.int .i64 (k:Nat))∧∃V',qq (λg=>E g∨w.heap.size≤g) w' cb V' { c with parts:=ps }∧jX cb V w V' w'
def dn(cb:Nat)(w0:World)(d:Nat):Prop:=∀(E:Nat→Prop) (w:World) (V:CV) (c:Ck) (n:Nd) (A:Option Addr) (C:Nat),qq E w cb V c→jZ w0 n A C→w0.heap.size≤cb-1→Below w0.heap.size w0 w→gB d n→yH c.names c.parts→(∀x ∈ c.names,x.2.bytes.length≤1000) →
 Calls Tryz.prog 82 #[.pointer (some ⟨cb,0,none⟩),.agg (qD n (.slice A n.l.length C))] w (zbO E w cb V c (jb c.names d c.parts n))
theorem jX.grown{cb:Nat}{V V5:CV}{W1 w5 w6:World}{v:Value}(s:jX cb V W1 V5 w5)(hg:w5.grownBy w6 v.ownBlock)(hv:∀g,v.ownBlock=some g→W1.heap.size≤g):jX cb V W1 V5 w6:=
 ⟨⟨hg.os.trans s.only.os,hg.tape.trans s.only.tape,hg.output.trans s.only.output,Nat.le_trans s.only.size hg.size,λk hk hn=>(hg.block k (Nat.lt_of_lt_of_le hk s.only.size) (λe=>by have:=hv k e.symm;omega)).trans (s.only.block k hk hn)⟩,s.new⟩
theorem qq.grown{w w6:World}{cb:Nat}{V:CV}{c:Ck}{v:Value}(h:qq E w cb V c)(hg:w.grownBy w6 v.ownBlock)(hn:∀g,v.ownBlock=some g→¬V.own cb g)(hE:∀g,E g→v.ownBlock≠some g):qq E w6 cb V c:=by
 have hk:∀k,k<w.heap.size→(¬V.own cb k∧E k)→w6.heap[k]?=w.heap[k]?∧(¬V.own cb k∧E k):=λk hk hh=>⟨hg.block k hk (λe=>hE k hh.2 e.symm),hh⟩
 have kept:∀ {k:Nat} {o:Obj},V.own cb k→w.heap[k]?=some o→w6.heap[k]?=some o:=λ{k o} ho hh=>(hg.block k (Array.getElem?_eq_some_iff.1 hh).1 (λe=>hn k e.symm ho)).trans hh
 obtain⟨us,e1,r1,i1⟩:=h.prts;obtain⟨ms,e2,r2,i2⟩:=h.nms;exact⟨kept (.inl rfl) h.has,zI h.devs (λg o e ho=>kept (.inr (.inl e)) ho),zI h.only (λg o e ho=>kept (.inr (.inr (.inr (.inl e)))) ho),⟨us,e1,zI r1 (λg o e ho=>kept (.inr (.inr (.inl e))) ho),λi a b=>(i1 i a b).keep hg.size hk⟩,⟨ms,e2,kept (.inr (.inr (.inr (.inr rfl)))) r2,λi a b=>(i2 i a b).keep hg.size hk⟩,h.uniq,h.mlt,h.few⟩
theorem ZG(l:List Nd){i:Nat}(h:i<l.length):(l.take (i+1)).filter (λx=> !(x.op==vu||x.op==jM))=(l.take i).filter (λx=> !(x.op==vu||x.op==jM))++(if(l[i].op==vu||l[i].op==jM)=true then[]else[l[i]]):=by
 rw[List.take_succ_eq_append_getElem h,List.filter_append];cases hb:(l[i].op==vu||l[i].op==jM)<;>simp only[List.filter_cons,List.filter_nil,hb,Bool.not_false,Bool.not_true,if_true,Bool.false_eq_true,if_false]
theorem QW(f:List Pt→Nd→Except Er (Nat×List Pt))(x:Nd):∀(l:List Nd) (ps:List Pt),jz f ps (l++ [x])=match jz f ps l with
 | .error e=> .error e
 | .ok (ks,p1)=>match f p1 x with
   | .error e=> .error e
   | .ok (k,p2)=> .ok (ks++ [k],p2):=by
 intro l
 induction l with
 |nil =>
  intro ps;simp only[List.nil_append,jz];cases f ps x with
  |error e=>rfl
  |ok r=>obtain⟨k,p2⟩:=r;rfl
 |cons y l ih =>
  intro ps;simp only[List.cons_append,jz];cases f ps y with
  |error e=>rfl
  |ok r =>
   obtain⟨k,p1⟩:=r;simp only[ih];cases jz f p1 l with
   |error e=>rfl
   |ok r2 =>
    obtain⟨ks,p2⟩:=r2;simp only;cases f p2 x with
    |error e=>rfl
    |ok r3=>obtain⟨k3,p3⟩:=r3;rfl
theorem fy(f:List Pt→Nd→Except Er (Nat×List Pt)):∀(l:List Nd) (ps:List Pt) (ks:List Nat) (p1:List Pt),jz f ps l= .ok (ks,p1)→ks.length=l.length:=by
 intro l
 induction l with
 |nil=>intro ps ks p1 h;cases h;rfl
 |cons y l ih =>
  intro ps ks p1 h;simp only[jz]at h;cases hf:f ps y with
  |error e=>rw[hf]at h;cases h
  |ok q =>
   obtain⟨k,p2⟩:=q;rw[hf]at h;simp only at h;cases hc:jz f p2 l with
   |error e=>rw[hc]at h;cases h
   |ok q2 =>
    obtain⟨ks2,p3⟩:=q2;rw[hc]at h;cases h;simp[ih p2 ks2 _ hc]
theorem Fu(f:List Pt→Nd→Except Er (Nat×List Pt))(l r:List Nd)(ps:List Pt)(e:Er)(h:jz f ps l= .error e):jz f ps (l++r)= .error e:=by
 induction l generalizing ps with
 |nil=>cases h
 |cons y l ih =>
  simp only[List.cons_append,jz]at h ⊢;cases hf:f ps y with
  |error e'=>rw[hf]at h;exact h
  |ok q =>
   obtain⟨k,p1⟩:=q;rw[hf]at h;simp only at h ⊢;cases hc:jz f p1 l with
   |error e'=>rw[hc]at h;cases h;rw[ih p1 hc]
   |ok q2=>rw[hc]at h;cases h
end
section
inductive J4:Nd→Prop where
 |mk (n:Nd):n.l.length≤80000→(∀x ∈ n.l,J4 x)→J4 n
theorem J4.len{n:Nd}(h:J4 n):n.l.length≤80000:=by cases h;assumption
theorem J4.all{n:Nd}(h:J4 n):∀x ∈ n.l,J4 x:=by cases h;assumption
theorem J6{re:Nd→Bool}{n:Nd}(h:jv re n=true):0<(qn n.op).1.length∧(qn n.op).1.length≤n.l.length∧((qn n.op).2=false→n.l.length=(qn n.op).1.length)∧∀i,i<n.l.length→zP re (JP (qn n.op).1 i) (zF n.l i)=true:=by
 unfold jv QX at h;simp only[Bool.and_eq_true,Bool.not_eq_true',decide_eq_false_iff_not,Bool.and_eq_false_iff,Bool.not_eq_false',List.all_eq_true]at h;obtain⟨⟨⟨h1,h2⟩,h3⟩,h4⟩:=h;refine⟨by omega,by omega,λe=>?_,λi hi=>h4 i (List.mem_range.2 hi)⟩;rcases h3 with q|q
 ·omega
 ·rw[e]at q;cases q
theorem J8{op:List UInt8}(h:0<(qn op).1.length):op=qX∨(op=qQ∨op=je)∨op=qv∨(op=jl∨op=qb∨op=jf):=by
 unfold qn at h;by_cases e1:op=qX
 ·exact .inl e1
 ·by_cases e2:op=qQ∨op=je
  ·exact .inr (.inl e2)
  ·by_cases e3:op=qv
   ·exact .inr (.inr (.inl e3))
   ·by_cases e4:op=jl∨op=qb∨op=jf
    ·exact .inr (.inr (.inr e4))
    ·rw[if_neg e1,if_neg e2,if_neg e3,if_neg e4]at h
     exact absurd h (by decide)
theorem gu{op:List UInt8}(h:op=vK∨0<(qn op).1.length):(op==vu||op==jM)=false:=by
 rcases h with h|h
 ·rw[h];decide
 ·rcases J8 h with h|(h|h)|h|h|h|h<;>rw[h]<;>decide
theorem Ji{d:Nat}{n:Nd}(h:zo (d+1) n=true)(hu:n.op≠vK):jv (zo d) n=true:=by
 unfold zo at h;rw[if_neg hu]at h;simp only[Bool.and_eq_true]at h;exact h.2.2
theorem Zv{d:Nat}{n:Nd}(h:zo d n=true):(n.op==vu||n.op==jM)=false:=by
 cases d with
 |zero=>cases h
 |succ d =>
  by_cases hu:n.op=vK
  ·exact gu (.inl hu)
  ·exact gu (.inr (J6 (Ji h hu)).1)
theorem fW{re:Nd→Bool}{x:Nd}(h:zP re .nu x=true):(x.op==vu||x.op==jM)=true∧0≤x.n∧x.n≤999999999:=by
 unfold zP j8 at h;simp only[Bool.and_eq_true,decide_eq_true_eq]at h;exact⟨by rw[h.1.1.1];rfl,h.1.2.1,h.1.2.2⟩
theorem zcG{re:Nd→Bool}{x:Nd}(h:zP re .na x=true):(x.op==vu||x.op==jM)=true:=by
 unfold zP at h;simp only[Bool.and_eq_true,decide_eq_true_eq]at h;rw[h.1.1.1,Bool.or_true]
theorem zc6{l:List Nd}(h:l.length=3):l= [zF l 0,zF l 1,zF l 2]:=by
 match l,h with
 | [a,b,c],_=>rfl
theorem zdc{l:List Nd}(h:l.length=2):l= [zF l 0,zF l 1]:=by
 match l,h with
 | [a,b],_=>rfl
theorem Vj{n:Nd}:jR n=n.l.filter λx=> !(x.op==vu||x.op==jM):=rfl
theorem FY{d:Nat}{n:Nd}(h:jv (zo d) n=true)(hl:n.l.length≤80000):ExS n∧∀x ∈ jR n,zo d x=true:=by
 obtain⟨h1,h2,h3,h4⟩:=J6 h;rcases J8 h1 with ho|ho|ho|ho
 ·have hi:qn n.op=([.ex,.nu,.nu],false):=by rw[ho];rfl
  rw[hi]at h3 h4;have hl3:n.l.length=3:=h3 rfl;have p0:zo d (zF n.l 0)=true:=h4 0 (by omega);have p1:=fW (h4 1 (by omega));have p2:=fW (h4 2 (by omega))
  have hk:jR n= [zF n.l 0]:=by
   rw[Vj];generalize hy:n.l=y at *;rw[zc6 hl3];simp only[List.filter_cons,List.filter_nil,Zv p0,p1.1,p2.1,Bool.not_true,Bool.not_false,if_true,Bool.false_eq_true,if_false];rfl
  have e1:n.op≠qQ:=by rw[ho];decide
  have e2:n.op≠je:=by rw[ho];decide
  have e3:n.op≠qv:=by rw[ho];decide
  refine⟨⟨⟨by rw[hk];simp,λ_=>⟨by rw[hk];rfl,p1.2.1,p2.2.1⟩,λ_=>by rw[hk];rfl,λe=>absurd e e3⟩,.inl ho,λ_=>⟨hl3,p1.2,p2.2⟩,λe=>absurd e e3,λe=>?_,hl⟩,?_⟩
  ·rw[ho]at e
   rcases e with e|e|e<;>exact absurd e (by decide)
  ·rw[hk];intro x hx;rw[List.mem_singleton.1 hx];exact p0
 ·have hi:qn n.op=([.ex],true):=by rcases ho with ho|ho<;>rw[ho]<;>rfl
  rw[hi]at h2 h4
  have hall:∀x ∈ n.l,zo d x=true:=λx hx=>by
   obtain⟨i,hi,rfl⟩:=List.getElem_of_mem hx;have:=h4 i hi;rw[Jk hi]at this
   have hkd:JP [.ex] i= .ex:=by
    unfold JP;rw[show min i ([Kd.ex].length-1)=0 by simp];rfl
   rw[hkd]at this;exact this
  have hk:jR n=n.l:=by
   rw[Vj,List.filter_eq_self];intro x hx;rw[Zv (hall x hx)];rfl
  have h2':1≤n.l.length:=h2;refine⟨⟨⟨by rw[hk];exact h2',λe=>?_,λe=>?_,λe=>?_⟩,.inr (.inl ho),λe=>?_,λe=>?_,λe=>?_,hl⟩,by rw[hk];exact hall⟩
  ·rcases ho with ho|ho<;>rw[ho]at e<;>exact absurd e (by decide)
  ·rcases ho with ho|ho
   ·exact absurd ho e.1
   ·exact absurd ho e.2.1
  ·rcases ho with ho|ho<;>rw[ho]at e<;>exact absurd e (by decide)
  ·rcases ho with ho|ho<;>rw[ho]at e<;>exact absurd e (by decide)
  ·rcases ho with ho|ho<;>rw[ho]at e<;>exact absurd e (by decide)
  ·rcases ho with ho|ho<;>rw[ho]at e<;>rcases e with e|e|e<;>exact absurd e (by decide)
 ·have hi:qn n.op=([.ex,.ex,.nu],false):=by rw[ho];rfl
  rw[hi]at h3 h4;have hl3:n.l.length=3:=h3 rfl;have p0:zo d (zF n.l 0)=true:=h4 0 (by omega);have p1:zo d (zF n.l 1)=true:=h4 1 (by omega);have p2:=fW (h4 2 (by omega))
  have hk:jR n= [zF n.l 0,zF n.l 1]:=by
   rw[Vj];generalize hy:n.l=y at *;rw[zc6 hl3];simp only[List.filter_cons,List.filter_nil,Zv p0,Zv p1,p2.1,Bool.not_true,Bool.not_false,if_true,Bool.false_eq_true,if_false];rfl
  have e1:n.op≠qX:=by rw[ho];decide
  refine⟨⟨⟨by rw[hk];simp,λe=>absurd e e1,λe=>absurd ho e.2.2,λ_=>by rw[hk];rfl⟩,.inr (.inr (.inl ho)),λe=>absurd e e1,λ_=>⟨hl3,p2.2⟩,λe=>?_,hl⟩,?_⟩
  ·rw[ho]at e
   rcases e with e|e|e<;>exact absurd e (by decide)
  ·rw[hk];intro x hx
   rcases List.mem_cons.1 hx with e|e
   ·rw[e];exact p0
   ·rw[List.mem_singleton.1 e];exact p1
 ·have hi:qn n.op=([.ex,.na],false):=by rcases ho with ho|ho|ho<;>rw[ho]<;>rfl
  rw[hi]at h3 h4;have hl2:n.l.length=2:=h3 rfl;have p0:zo d (zF n.l 0)=true:=h4 0 (by omega);have p1:=zcG (h4 1 (by omega))
  have hk:jR n= [zF n.l 0]:=by
   rw[Vj];generalize hy:n.l=y at *;rw[zdc hl2];simp only[List.filter_cons,List.filter_nil,Zv p0,p1,Bool.not_true,Bool.not_false,if_true,Bool.false_eq_true,if_false];rfl
  have e1:n.op≠qX:=by rcases ho with ho|ho|ho<;>rw[ho]<;>decide
  have e3:n.op≠qv:=by rcases ho with ho|ho|ho<;>rw[ho]<;>decide
  refine⟨⟨⟨by rw[hk];simp,λe=>absurd e e1,λ_=>by rw[hk];rfl,λe=>absurd e e3⟩,.inr (.inr (.inr ho)),λe=>absurd e e1,λe=>absurd e e3,λ_=>by omega,hl⟩,?_⟩;rw[hk];intro x hx;rw[List.mem_singleton.1 hx];exact p0
theorem gY(d:Nat):∀ {n:Nd},zo d n=true→J4 n→gB d n:=by
 induction d with
 |zero=>intro n h;cases h
 |succ d ih =>
  intro n h hl;by_cases hu:n.op=vK
  ·exact .use d n hu
  ·obtain⟨h1,h2⟩:=FY (Ji h hu) hl.len
   exact .mk d n hu h1 λx hx=>ih (h2 x hx) (hl.all x ((List.mem_filter.1 hx).1))
theorem zc5{x:List UInt8}(h:xg x=true):∀c ∈ x,zG c=true:=by
 unfold xg at h;cases ht:xG (36::x)with
 |none=>rw[ht]at h;cases h
 |some t =>
  rw[ht]at h;simp only[Bool.and_eq_true,beq_iff_eq]at h;unfold xG at ht
  split at ht
  ·rename_i t' hS
   cases ht;have hg:=((yy hS).2 t (by simp)).hex h.1;rw[h.2]at hg;exact hg.2.1
  ·cases ht
structure YA (n:Nd):Prop where
 word:n.op=zn∨n.op=zq∨n.op=zM∨n.op=zN∨n.op=zB∨n.op=qj
 num:(n.op=zn∨n.op=zq)→0≤n.n∧n.n≤999999999
 key:(n.op=zM∨n.op=zN)→n.l.length=1∧∀c ∈ (zF n.l 0).s,zG c=true
 vol:n.op=zB→n.l.length=1∧gB 12 (zF n.l 0)
 exp:n.op=qj→n.n=0∨n.n=1
theorem FN{n:Nd}(h:qS n=true)(hl:J4 n):YA n:=by
 unfold qS at h;simp only[Bool.and_eq_true]at h;obtain⟨h1,h⟩:=h;by_cases e1:n.op=zn∨n.op=zq
 ·rw[if_pos e1]at h
  unfold j8 at h;simp only[Bool.and_eq_true,decide_eq_true_eq]at h;refine⟨by rcases e1 with e|e;exact .inl e;exact .inr (.inl e),λ_=>h.1,λe=>?_,λe=>?_,λe=>?_⟩
  ·rcases e1 with q|q<;>rw[q]at e<;>rcases e with e|e<;>exact absurd e (by decide)
  ·rcases e1 with q|q<;>rw[q]at e<;>exact absurd e (by decide)
  ·rcases e1 with q|q<;>rw[q]at e<;>exact absurd e (by decide)
 ·rw[if_neg e1]at h
  by_cases e2:n.op=zM∨n.op=zN
  ·rw[if_pos e2]at h
   unfold yt at h;simp only[Bool.and_eq_true,decide_eq_true_eq]at h;refine⟨by rcases e2 with e|e;exact .inr (.inr (.inl e));exact .inr (.inr (.inr (.inl e))),λe=>absurd e e1,λ_=>⟨h.1.2,zc5 h.2.1.1.2⟩,λe=>?_,λe=>?_⟩
   ·rcases e2 with q|q<;>rw[q]at e<;>exact absurd e (by decide)
   ·rcases e2 with q|q<;>rw[q]at e<;>exact absurd e (by decide)
  ·rw[if_neg e2]at h
   by_cases e3:n.op=zB
   ·rw[if_pos e3]at h
    simp only[Bool.and_eq_true,decide_eq_true_eq]at h;have h0:0<n.l.length:=by omega
    refine⟨.inr (.inr (.inr (.inr (.inl e3)))),λe=>absurd e e1,λe=>absurd e e2,λ_=>⟨h.1.2,gY 12 h.2 (hl.all _ ?_)⟩,λe=>?_⟩
    ·show zF n.l 0 ∈ n.l
     rw[Jk h0];exact List.getElem_mem h0
    ·rw[e3]at e;exact absurd e (by decide)
   ·rw[if_neg e3]at h
    by_cases e4:n.op=qj
    ·rw[if_pos e4]at h
     simp only[Bool.and_eq_true,Bool.or_eq_true,decide_eq_true_eq]at h;exact⟨.inr (.inr (.inr (.inr (.inr e4)))),λe=>absurd e e1,λe=>absurd e e2,λe=>absurd e e3,λ_=>h.1⟩
    ·rw[if_neg e4]at h
     cases h
end
end Go.Proofs.YteaddcdpgcgggaaGreatDoor
