import Derived.Test.YteaddcdpgcgggaaGreatDoorJoint19
import Derived.Test.YteaddcdpgcgggaaGreatDoorJoint09
namespace Go.Proofs.YteaddcdpgcgggaaGreatDoor
set_option linter.unusedVariables false
set_option maxRecDepth 100000
set_option maxHeartbeats 40000000
section
open Go.ChangeShapes Go.WideShapes Go.ChangeAt Go.RowKit Go.MapKept
theorem zcm{l:List Nat}(h:l.length=2):∃a b,l= [a,b]:=by
 match l,h with
 | [a,b],_=>exact⟨a,b,rfl⟩
theorem Yy{w:World}{B:Nat}{A:Option Addr}{C:Nat}{ps:List Pt}{v:Value}{out:List R3}(h:yg w B A C ps v out)(hwf:Jv ps)(d k:Nat)(hk:k<ps.length)(f c:Int)(ho:¬256<out.length)(hkind:(zx ps k).kind=5)(hp:yZ ps (zx ps k))(hf0:0≤f)(hc0:0<c)(hfc:f+c≤((zx ps k).size:Nat))(x0 x1 x3 x4:Value)
 (hx:∀(W:World) (v:Value) (out:List R3) (j:Nat) (f c:Int),yg W B A C ps v out→j<k→jF ps (j:Nat) f c=true→Calls Tryz.prog 23 #[.agg #[x0,x1,.slice A ps.length C,x3,x4],.int .i64 (j:Nat),.int .i64 f,.int .i64 c,v] W (yi W B A C ps v (jG ps d out j f c))):
 Calls Tryz.prog 23 #[.agg #[x0,x1,.slice A ps.length C,x3,x4],.int .i64 (k:Nat),.int .i64 f,.int .i64 c,v] w (yi w B A C ps v (vC ps (jG ps d) out (zx ps k) f c)):=by
 obtain⟨Av,Cv,rfl⟩:∃Av Cv,v= .slice Av out.length Cv:=by
  rcases h.row.2 with⟨rfl,h0⟩|⟨g,cap,cur,rfl,_⟩
  ·exact⟨none,0,by rw[h0]⟩
  ·exact⟨_,_,rfl⟩
 obtain⟨g,off,Ak,Ck,A2,n2,C2,A3,n3,C3,rfl,hg0,hg,hki,hkc,hkm,hcell⟩:=jw h.pts hk;have hcap:ps.length≤C∧C≤9223372036854775807:=h.cap;have hkm2:Ck≤9223372036854775807:=hkm;have hsz0:=hwf.size k hk;rw[show sz ps k=(zx ps k).size from rfl]at hsz0;rw[hkind]at hcell;obtain⟨kid,kid1,hkq⟩:=zcm (hp.snap hkind).1
 have EQ:vC ps (jG ps d) out (zx ps k) f c=jG ps d (jG ps d out kid f c) kid1 0 ((sz ps kid1:Nat):Int):=by
  unfold vC;rw[hkind,hkq];rfl
 rw[EQ];have hkd:kid<k:=hwf.kids k hk kid (by rw[hkq];simp);have hkd1:kid1<k:=hwf.kids k hk kid1 (by rw[hkq];simp);have hno:=hp.kids kid (by rw[hkq];simp);have hno1:=hp.kids kid1 (by rw[hkq];simp);have hsn:=(hp.snap hkind).2;rw[hkq]at hki hkc hcell hsn;have hsn:sz ps kid=(zx ps k).size:=hsn;obtain⟨b,o,eA,hbl,hbf,hcl⟩:=hki.resolve_left (by simp);have hc0k:w.cell? ⟨b,o,none⟩=some (.int .i64 (kid:Nat)):=hcl 0 (by simp);have hc1k:w.cell? ⟨b,o+1,none⟩=some (.int .i64 (kid1:Nat)):=hcl 1 (by simp);change ∀j,j<8→w.cell? ⟨g,off+k*8+j,none⟩=(#[.int .i64 5,.int .i64 ((zx ps k).size:Nat),.slice Ak 2 Ck,.int .i64 ((zx ps k).dev:Nat),.int .i64 ((zx ps k).first:Nat),.int .i64 ((zx ps k).chunk:Nat),.slice A2 n2 C2,.slice A3 n3 C3]:Array Value)[j]? at hcell;subst eA;obtain⟨g',off',_,_,_,_,_,_,_,_,eg,_,_,_,_,_,hcell'⟩:=jw h.pts hno1.1;cases eg;have hcs:w.cell? ⟨g,off+kid1*8+1,none⟩=some (.int .i64 (sz ps kid1:Nat)):=hcell' 1 (by decide);have hb:jF ps (kid:Nat) f c=true:=vv hno hf0 hc0 (by omega);have hb1':jF ps (kid1:Nat) 0 ((sz ps kid1:Nat):Int)=true:=vv hno1 (by omega) (by have:=hno1.2.1;omega) (by omega);have hkl:=hno1.1;clear EQ hkq hcl hp hcell' hno hno1 hsn
 obtain⟨KS,hKS⟩:∃KS,KS=sz ps kid1:=⟨_,rfl⟩
 rw[←hKS]at hcs hb1' ⊢;clear hKS;generalize (zx ps k).size=psz at *;generalize (zx ps k).dev=pdv at *;generalize (zx ps k).first=pfi at *;generalize (zx ps k).chunk=pch at *;have hl1:∀j,(Value.slice Av out.length Cv).ownBlock=some j→B≤j∧j<w.heap.size:=λj hj=>h.low hj
 obtain⟨NP,hNP⟩:∃NP,NP=ps.length:=⟨_,rfl⟩
 rw[←hNP]at hcap ⊢ hx;have hkN:k<NP:=by omega
 obtain⟨W1,hW1⟩:∃W1,W1=w.alloc (.cells #[x0,x1,.slice (some ⟨g,off,none⟩) NP C,x3,x4] 32):=⟨_,rfl⟩
 have hb1:Below w.heap.size w W1:=by rw[hW1];exact zl w _
 have S1:zm W1 w.heap.size 32 #[x0,x1,.slice (some ⟨g,off,none⟩) NP C,x3,x4]:=by rw[hW1];exact zm.new w _ _
 have hce1:=λj (hj:j<8)=>(hb1.cell (p:=⟨g,off+k*8+j,none⟩) hg).trans (hcell j hj)
 obtain⟨W4,hW4⟩:∃W4,W4=W1.alloc (.cells #[.int .i64 5,.int .i64 (psz:Nat),.slice (some ⟨b,o,none⟩) 2 Ck,.int .i64 (pdv:Nat),.int .i64 (pfi:Nat),.int .i64 (pch:Nat),.slice A2 n2 C2,.slice A3 n3 C3] 65):=⟨_,rfl⟩
 have hb4:Below W1.heap.size W1 W4:=by rw[hW4];exact zl W1 _
 have hb04:Below w.heap.size w W4:=hb1.trans (hb4.mono hb1.size);have P4:zm W4 W1.heap.size 65 #[.int .i64 5,.int .i64 (psz:Nat),.slice (some ⟨b,o,none⟩) 2 Ck,.int .i64 (pdv:Nat),.int .i64 (pfi:Nat),.int .i64 (pch:Nat),.slice A2 n2 C2,.slice A3 n3 C3]:=by rw[hW4];exact zm.new W1 _ _
 have hZ1:W1.heap.size=w.heap.size+1:=by rw[hW1];simp
 have HKI:=ze (show yI W4 w.heap.size W1.heap.size #[x0,x1,.slice (some ⟨g,off,none⟩) NP C,x3,x4] #[.int .i64 5,.int .i64 (psz:Nat),.slice (some ⟨b,o,none⟩) 2 Ck,.int .i64 (pdv:Nat),.int .i64 (pfi:Nat),.int .i64 (pch:Nat),.slice A2 n2 C2,.slice A3 n3 C3]from⟨S1.below hb4 S1.lt,P4⟩);have HNE:=ze (show ∀j,w.heap.size≤j→(Value.slice Av out.length Cv).ownBlock≠some j from λj hj e=>by have:=(hl1 j e).2;omega);have HLB:=ze (show ∀j,(Value.slice Av out.length Cv).ownBlock=some j→B≤j from λj hj=>(hl1 j hj).1);have HB4:=ze (show B≤W4.heap.size from Nat.le_trans h.lo hb04.size);have HKG:=ze (h.keep hb04);have HST:=ze (vm.of (v:= .slice Av out.length Cv) hb04);have HX:=ze hx;have HZ1:=ze hZ1;have HCK:=ze (hb04.cell (p:=⟨b,o,none⟩) hbl |>.trans hc0k);have HCK1:=ze (hb04.cell (p:=⟨b,o+1,none⟩) hbl |>.trans hc1k);have HCS:=ze (hb04.cell (p:=⟨g,off+kid1*8+1,none⟩) hg |>.trans hcs);have HBB:=ze hbf;have HHB:=ze hb;have HHB1:=ze hb1';have hkid1:kid1<NP:=by omega
 have HW1:=ze hW1;have HW4:=ze hW4;have s2:=S1.cell 2;have sl:=S1.lt;have p0:=P4.cell 0;have p2:=P4.cell 2;have pl:=P4.lt;simp only[qH,qG,qI]at s2 p0 p2;rw[hW4]at p0 p2 pl;have hooi:¬(256:Int)<(out.length:Int):=by omega
 have hkli:(k:Int)<(NP:Int):=by omega
 clear hW1 hW4 h hx hkind ho hki hl1 hNP hZ1 hb hc0k hc1k hbf hcs hkl hb1';generalize out.length=NO at *;go_enter Tryz.func23,Tryz.ntmps23
 go_wp2_with (first
  |((with_reducible refine zi 18 rfl ?_)
    (rw[←HW1.out]))
  |((with_reducible refine zi 21 rfl ?_)
    (refine zd (some 21) _ rfl (by rfl) (zE _ _ rfl g off k NP C rfl rfl hkN W1) ?_))
  |((with_reducible refine zi 22 rfl ?_)
    (refine zd (some 22) _ rfl (by rfl) (qe _ rfl g (off+k*8) rfl W1 hce1) ?_)))
 rw[←HW4.out];refine wp_region_held_drew (S:=λwz=>yI wz w.heap.size W1.heap.size #[x0,x1,.slice (some ⟨g,off,none⟩) NP C,x3,x4] #[.int .i64 5,.int .i64 (psz:Nat),.slice (some ⟨b,o,none⟩) 2 Ck,.int .i64 (pdv:Nat),.int .i64 (pfi:Nat),.int .i64 (pch:Nat),.slice A2 n2 C2,.slice A3 n3 C3]∧wz.cell? ⟨b,o,none⟩=some (.int .i64 (kid:Nat))) (by kernel_rfl) (⟨HKI.out.drew,HCK.out⟩) (λhHeld=>?_);refine zD 0 (some 124) (.agg #[x0,x1,.slice (some ⟨g,off,none⟩) NP C,x3,x4]) rfl rfl (λwz hz=>vI _ rfl _ rfl wz hz.1.1) hHeld ?_;simp only[Act.put,zh,zf,zg];refine zw 1 (some 125) (.pointer (some ⟨W1.heap.size,2,none⟩)) hHeld ?_;simp only[Act.put,zh,zf,zg];refine zD 2 (some 126) (.slice (some ⟨b,o,none⟩) 2 Ck) rfl rfl (λwz hz=>by have q:wz.cell? ⟨W1.heap.size,2,none⟩=some (.slice (some ⟨b,o,none⟩) 2 Ck):=hz.1.2.cell 2;unfold execOp;go_simp) hHeld ?_;simp only[Act.put,zh,zf,zg];refine zD 3 (some 127) (.pointer (some ⟨b,o,none⟩)) rfl rfl (λwz _=>yJ _ _ rfl b o 2 Ck rfl rfl (by omega) wz) hHeld ?_;simp only[Act.put,zh,zf,zg];refine zD 4 (some 128) (.int .i64 (kid:Nat)) rfl rfl (λwz hz=>qm _ rfl _ rfl wz hz.2) hHeld ?_;simp only[Act.put,zh,zf,zg];refine zw 5 (some 129) (.int .i64 f) hHeld ?_;simp only[Act.put,zh,zf,zg];refine zw 6 (some 130) (.int .i64 c) hHeld ?_;simp only[Act.put,zh,zf,zg];refine zw 7 (some 131) (.slice Av NO Cv) hHeld ?_;simp only[Act.put,zh,zf,zg];refine qY 8 (some 132) 23 #[.agg #[x0,x1,.slice (some ⟨g,off,none⟩) NP C,x3,x4],.int .i64 (kid:Nat),.int .i64 f,.int .i64 c,.slice Av NO Cv] (by kernel_rfl) rfl rfl (by rfl) (by kernel_rfl) (HX.out _ _ _ kid f c (HKG.out.keep (Below.refl _ W4).drew) hkd HHB.out) ?_;rintro e w5 ⟨v5,rfl,H5,S5'⟩;have S5:vm (.slice Av NO Cv) W4 v5 w5:=(vm.of (Below.refl _ W4).drew).trans S5';have hb5:=S5.below HLB.out HB4.out
 have hHeld:yI w5 w.heap.size W1.heap.size #[x0,x1,.slice (some ⟨g,off,none⟩) NP C,x3,x4] #[.int .i64 5,.int .i64 (psz:Nat),.slice (some ⟨b,o,none⟩) 2 Ck,.int .i64 (pdv:Nat),.int .i64 (pfi:Nat),.int .i64 (pch:Nat),.slice A2 n2 C2,.slice A3 n3 C3]∧w5.cell? ⟨b,o,none⟩=some (.int .i64 (kid:Nat)):=⟨HKI.out.onl S5.only (HNE.out _ (Nat.le_refl _)) (HNE.out _ (by have:=HZ1.out;omega)),(hb5.cell (p:=⟨b,o,none⟩) HBB.out).trans HCK.out⟩
 refine⟨_,rfl,hHeld,?_⟩;simp only[Act.put,zh,zf,zg];refine zw 9 (some 4) (v5) hHeld ?_;simp only[Act.put,zh,zf,zg];refine wpAnyH_done (by kernel_rfl) ?_ _;have HKI5:=ze hHeld.1;clear hHeld S5' p0 p2 pl;have HH5:=ze H5;have HB5:=ze hb5;have HL5:=ze (show ∀j,v5.ownBlock=some j→B≤j from λj hj=>(H5.low hj).1)
 have HN5:=ze (show ∀j,w.heap.size≤j→j<W4.heap.size→v5.ownBlock≠some j from λj h1 h2 e=>by
  rcases S5.new j e with q|q
  ·exact HNE.out j h1 q
  ·omega)
 have HLT:=ze (show w.heap.size<W4.heap.size∧W1.heap.size<W4.heap.size from⟨HKI.out.1.lt,HKI.out.2.lt⟩);clear H5 hb5
 go_wp2
 refine wp_region_held_drew (S:=λwz=>yI wz w.heap.size W1.heap.size #[x0,x1,.slice (some ⟨g,off,none⟩) NP C,x3,x4] #[.int .i64 5,.int .i64 (psz:Nat),.slice (some ⟨b,o,none⟩) 2 Ck,.int .i64 (pdv:Nat),.int .i64 (pfi:Nat),.int .i64 (pch:Nat),.slice A2 n2 C2,.slice A3 n3 C3]∧wz.cell? ⟨b,o+1,none⟩=some (.int .i64 (kid1:Nat))∧wz.cell? ⟨g,off+kid1*8+1,none⟩=some (.int .i64 (KS:Nat))) (by kernel_rfl) (⟨HKI5.out.drew,(HB5.out.cell (p:=⟨b,o+1,none⟩) HBB.out).trans HCK1.out,(HB5.out.cell (p:=⟨g,off+kid1*8+1,none⟩) hg0).trans HCS.out⟩) (λhHeld=>?_);refine zD 0 (some 133) (.agg #[x0,x1,.slice (some ⟨g,off,none⟩) NP C,x3,x4]) rfl rfl (λwz hz=>vI _ rfl _ rfl wz hz.1.1) hHeld ?_;simp only[Act.put,zh,zf,zg];refine zw 1 (some 134) (.pointer (some ⟨W1.heap.size,2,none⟩)) hHeld ?_;simp only[Act.put,zh,zf,zg];refine zD 2 (some 135) (.slice (some ⟨b,o,none⟩) 2 Ck) rfl rfl (λwz hz=>by have q:wz.cell? ⟨W1.heap.size,2,none⟩=some (.slice (some ⟨b,o,none⟩) 2 Ck):=hz.1.2.cell 2;unfold execOp;go_simp) hHeld ?_;simp only[Act.put,zh,zf,zg];refine zD 3 (some 136) (.pointer (some ⟨b,o+1,none⟩)) rfl rfl (λwz _=>qh _ _ rfl b o 1 2 Ck rfl rfl (by omega) wz) hHeld ?_;simp only[Act.put,zh,zf,zg];refine zD 4 (some 137) (.int .i64 (kid1:Nat)) rfl rfl (λwz hz=>qm _ rfl _ rfl wz hz.2.1) hHeld ?_;simp only[Act.put,zh,zf,zg];refine zw 5 (some 138) (.pointer (some ⟨w.heap.size,2,none⟩)) hHeld ?_;simp only[Act.put,zh,zf,zg];refine zD 6 (some 139) (.slice (some ⟨g,off,none⟩) NP C) rfl rfl (λwz hz=>by have q:wz.cell? ⟨w.heap.size,2,none⟩=some (.slice (some ⟨g,off,none⟩) NP C):=hz.1.1.cell 2;unfold execOp;go_simp) hHeld ?_;simp only[Act.put,zh,zf,zg];refine zw 7 (some 140) (.pointer (some ⟨W1.heap.size,2,none⟩)) hHeld ?_;simp only[Act.put,zh,zf,zg];refine zD 8 (some 141) (.slice (some ⟨b,o,none⟩) 2 Ck) rfl rfl (λwz hz=>by have q:wz.cell? ⟨W1.heap.size,2,none⟩=some (.slice (some ⟨b,o,none⟩) 2 Ck):=hz.1.2.cell 2;unfold execOp;go_simp) hHeld ?_;simp only[Act.put,zh,zf,zg];refine zD 9 (some 142) (.pointer (some ⟨b,o+1,none⟩)) rfl rfl (λwz _=>qh _ _ rfl b o 1 2 Ck rfl rfl (by omega) wz) hHeld ?_;simp only[Act.put,zh,zf,zg];refine zD 10 (some 143) (.int .i64 (kid1:Nat)) rfl rfl (λwz hz=>qm _ rfl _ rfl wz hz.2.1) hHeld ?_;simp only[Act.put,zh,zf,zg];refine zD 11 (some 144) (.pointer (some ⟨g,off+kid1*8,none⟩)) rfl rfl (λwz _=>zE _ _ rfl g off kid1 NP C rfl rfl hkid1 wz) hHeld ?_;simp only[Act.put,zh,zf,zg];refine zw 12 (some 145) (.pointer (some ⟨g,off+kid1*8+1,none⟩)) hHeld ?_;simp only[Act.put,zh,zf,zg];refine zD 13 (some 146) (.int .i64 (KS:Nat)) rfl rfl (λwz hz=>qm _ rfl _ rfl wz hz.2.2) hHeld ?_;simp only[Act.put,zh,zf,zg];refine zw 14 (some 147) (v5) hHeld ?_;simp only[Act.put,zh,zf,zg];refine qY 15 (some 148) 23 #[.agg #[x0,x1,.slice (some ⟨g,off,none⟩) NP C,x3,x4],.int .i64 (kid1:Nat),.int .i64 0,.int .i64 (KS:Nat),v5] (by kernel_rfl) rfl rfl (by rfl) (by kernel_rfl) (HX.out _ _ _ kid1 0 (KS:Nat) (HH5.out.keep (Below.refl _ w5).drew) hkd1 HHB1.out) ?_;rintro e w6 ⟨v6,rfl,H6,S6'⟩;have S6:vm v5 w5 v6 w6:=(vm.of (Below.refl _ w5).drew).trans S6';have hb6:=S6.below HL5.out HH5.out.lo
 have hHeld:yI w6 w.heap.size W1.heap.size #[x0,x1,.slice (some ⟨g,off,none⟩) NP C,x3,x4] #[.int .i64 5,.int .i64 (psz:Nat),.slice (some ⟨b,o,none⟩) 2 Ck,.int .i64 (pdv:Nat),.int .i64 (pfi:Nat),.int .i64 (pch:Nat),.slice A2 n2 C2,.slice A3 n3 C3]∧w6.cell? ⟨b,o+1,none⟩=some (.int .i64 (kid1:Nat))∧w6.cell? ⟨g,off+kid1*8+1,none⟩=some (.int .i64 (KS:Nat)):=⟨HKI5.out.onl S6.only (HN5.out _ (Nat.le_refl _) HLT.out.1) (HN5.out _ (by have:=HZ1.out;omega) HLT.out.2),(hb6.cell (p:=⟨b,o+1,none⟩) HBB.out).trans ((HB5.out.cell (p:=⟨b,o+1,none⟩) HBB.out).trans HCK1.out),(hb6.cell (p:=⟨g,off+kid1*8+1,none⟩) hg0).trans ((HB5.out.cell (p:=⟨g,off+kid1*8+1,none⟩) hg0).trans HCS.out)⟩
 refine⟨_,rfl,hHeld,?_⟩;simp only[Act.put,zh,zf,zg];refine zw 16 (some 4) (v6) hHeld ?_;simp only[Act.put,zh,zf,zg];refine wpAnyH_done (by kernel_rfl) ?_ _;clear hHeld S6'
 go_wp2
 go_ret
 exact⟨_,rfl,H6,(HST.out.trans S5).trans S6⟩
theorem uQ{w:World}{B:Nat}{A:Option Addr}{C:Nat}{ps:List Pt}{v:Value}{out:List R3}(h:yg w B A C ps v out)(hwf:Jv ps)(d k:Nat)(hk:k<ps.length)(f c:Int)(ho:¬256<out.length)(hkind:(zx ps k).kind=6)(hp:yZ ps (zx ps k))(hf0:0≤f)(hc0:0<c)(hfc:f+c≤((zx ps k).size:Nat))(x0 x1 x3 x4:Value)
 (hx:∀(W:World) (v:Value) (out:List R3) (j:Nat) (f c:Int),yg W B A C ps v out→j<k→jF ps (j:Nat) f c=true→Calls Tryz.prog 23 #[.agg #[x0,x1,.slice A ps.length C,x3,x4],.int .i64 (j:Nat),.int .i64 f,.int .i64 c,v] W (yi W B A C ps v (jG ps d out j f c))):
 Calls Tryz.prog 23 #[.agg #[x0,x1,.slice A ps.length C,x3,x4],.int .i64 (k:Nat),.int .i64 f,.int .i64 c,v] w (yi w B A C ps v (vC ps (jG ps d) out (zx ps k) f c)):=by
 obtain⟨Av,Cv,rfl⟩:∃Av Cv,v= .slice Av out.length Cv:=by
  rcases h.row.2 with⟨rfl,h0⟩|⟨g,cap,cur,rfl,_⟩
  ·exact⟨none,0,by rw[h0]⟩
  ·exact⟨_,_,rfl⟩
 obtain⟨g,off,Ak,Ck,A2,n2,C2,A3,n3,C3,rfl,hg0,hg,hki,hkc,hkm,hcell⟩:=jw h.pts hk;have hcap:ps.length≤C∧C≤9223372036854775807:=h.cap;have hkm2:Ck≤9223372036854775807:=hkm;have hsz0:=hwf.size k hk;rw[show sz ps k=(zx ps k).size from rfl]at hsz0;rw[hkind]at hcell
 have EQ:vC ps (jG ps d) out (zx ps k) f c=(zx ps k).kids.foldl (λo j=>jG ps d o j f c) out:=by
  unfold vC;rw[hkind];rfl
 rw[EQ];have hkids:=hwf.kids k hk;have hfew:=hwf.few k hk;have hnd:=hp.kids
 have hszk:∀j ∈ (zx ps k).kids,sz ps j=(zx ps k).size:=by
  obtain⟨kid,hkq⟩:=List.length_eq_one_iff.1 (hp.one (.inr (.inl hkind)));have hq:=hp.cry hkind;rw[hkq]at hq ⊢;intro j hj;rw[List.mem_singleton.1 hj];exact hq
 have HHB:=ze (show ∀j ∈ (zx ps k).kids,jF ps (j:Nat) f c=true from λj hj=>vv (hnd j hj) hf0 hc0 (by have:=hszk j hj;omega));clear EQ hp hnd hszk;generalize (zx ps k).kids=pk at *
 obtain⟨Kn,hKn⟩:∃Kn,Kn=pk.length:=⟨_,rfl⟩
 rw[←hKn]at hcell hkc hfew;have HKn:=ze hKn;clear hKn;generalize (zx ps k).size=psz at *;generalize (zx ps k).dev=pdv at *;generalize (zx ps k).first=pfi at *;generalize (zx ps k).chunk=pch at *;have hl1:∀j,(Value.slice Av out.length Cv).ownBlock=some j→B≤j∧j<w.heap.size:=λj hj=>h.low hj
 obtain⟨NP,hNP⟩:∃NP,NP=ps.length:=⟨_,rfl⟩
 rw[←hNP]at hcap ⊢ hx;have hkN:k<NP:=by omega
 obtain⟨W1,hW1⟩:∃W1,W1=w.alloc (.cells #[x0,x1,.slice (some ⟨g,off,none⟩) NP C,x3,x4] 32):=⟨_,rfl⟩
 have hb1:Below w.heap.size w W1:=by rw[hW1];exact zl w _
 have S1:zm W1 w.heap.size 32 #[x0,x1,.slice (some ⟨g,off,none⟩) NP C,x3,x4]:=by rw[hW1];exact zm.new w _ _
 have hce1:=λj (hj:j<8)=>(hb1.cell (p:=⟨g,off+k*8+j,none⟩) hg).trans (hcell j hj)
 obtain⟨W4,hW4⟩:∃W4,W4=W1.alloc (.cells #[.int .i64 6,.int .i64 (psz:Nat),.slice Ak Kn Ck,.int .i64 (pdv:Nat),.int .i64 (pfi:Nat),.int .i64 (pch:Nat),.slice A2 n2 C2,.slice A3 n3 C3] 65):=⟨_,rfl⟩
 have hb4:Below W1.heap.size W1 W4:=by rw[hW4];exact zl W1 _
 have hb04:Below w.heap.size w W4:=hb1.trans (hb4.mono hb1.size);have P4:zm W4 W1.heap.size 65 #[.int .i64 6,.int .i64 (psz:Nat),.slice Ak Kn Ck,.int .i64 (pdv:Nat),.int .i64 (pfi:Nat),.int .i64 (pch:Nat),.slice A2 n2 C2,.slice A3 n3 C3]:=by rw[hW4];exact zm.new W1 _ _
 have hZ1:W1.heap.size=w.heap.size+1:=by rw[hW1];simp
 have HKI:=ze (show yI W4 w.heap.size W1.heap.size #[x0,x1,.slice (some ⟨g,off,none⟩) NP C,x3,x4] #[.int .i64 6,.int .i64 (psz:Nat),.slice Ak Kn Ck,.int .i64 (pdv:Nat),.int .i64 (pfi:Nat),.int .i64 (pch:Nat),.slice A2 n2 C2,.slice A3 n3 C3]from⟨S1.below hb4 S1.lt,P4⟩);have HNE:=ze (show ∀j,w.heap.size≤j→(Value.slice Av out.length Cv).ownBlock≠some j from λj hj e=>by have:=(hl1 j e).2;omega);have HLB:=ze (show ∀j,(Value.slice Av out.length Cv).ownBlock=some j→B≤j from λj hj=>(hl1 j hj).1);have HB4:=ze (show B≤W4.heap.size from Nat.le_trans h.lo hb04.size);have HKG:=ze (h.keep hb04);have HST:=ze (vm.of (v:= .slice Av out.length Cv) hb04);have HX:=ze hx;have HZ1:=ze hZ1;have HKK:=ze hki;have HW1:=ze hW1;have HW4:=ze hW4;have s2:=S1.cell 2;have sl:=S1.lt;have p0:=P4.cell 0;have p2:=P4.cell 2;have pl:=P4.lt;simp only[qH,qG,qI]at s2 p0 p2;rw[hW4]at p0 p2 pl;have hooi:¬(256:Int)<(out.length:Int):=by omega
 have hkli:(k:Int)<(NP:Int):=by omega
 clear hW1 hW4 h hx hkind ho hki hl1 hNP hZ1;generalize out.length=NO at *;go_enter Tryz.func23,Tryz.ntmps23
 go_wp2_with (first
  |((with_reducible refine zi 18 rfl ?_)
    (rw[←HW1.out]))
  |((with_reducible refine zi 21 rfl ?_)
    (refine zd (some 21) _ rfl (by rfl) (zE _ _ rfl g off k NP C rfl rfl hkN W1) ?_))
  |((with_reducible refine zi 22 rfl ?_)
    (refine zd (some 22) _ rfl (by rfl) (qe _ rfl g (off+k*8) rfl W1 hce1) ?_)))
 rw[←HW4.out];clear p0 p2 pl s2 sl;have HLT:=ze (show w.heap.size<W4.heap.size∧W1.heap.size<W4.heap.size from⟨HKI.out.1.lt,HKI.out.2.lt⟩);have HB04:=ze hb04
 go_loopw [4,17] (λz4 z17 wr=>∃(i:Nat) (v':Value) (out':List R3),z17= .int .i64 (i:Nat)∧v'=z4∧i≤Kn∧yg wr B (some ⟨g,off,none⟩) C ps v' out'∧vm (.slice Av NO Cv) W4 v' wr∧Hid (out'=(pk.take i).foldl (λo j=>jG ps d o j f c) out)) (λ_ z _=>Kn-(intOf z).toNat)
 case atStart=>exact⟨0,_,out,rfl,rfl,Nat.zero_le _,HKG.out,vm.refl _ _,rfl⟩
 case round =>
  obtain⟨i,v',out',rfl,rfl,hi,H2,S2,HO⟩:=hrel;have hKI:=HKI.out.onl S2.only (HNE.out _ (Nat.le_refl _)) (HNE.out _ (by have:=HZ1.out;omega));have q2:=hKI.2.cell 2;have ql:=hKI.2.lt;simp only[qH,qG,qI]at q2;have HKI2:=ze hKI;clear hKI;by_cases hlt:i<Kn
  ·have hlp:i<pk.length:=by rw[←HKn.out];exact hlt
   have B2:Below B W4 wr:=S2.below HLB.out HB4.out;obtain⟨b,o,eA,hbl,hbf,hcl⟩:=HKK.out.resolve_left (by intro e;rw[e]at hlp;simp at hlp);have hck:=(B2.cell (p:=⟨b,o+i,none⟩) hbf).trans ((HB04.out.cell (p:=⟨b,o+i,none⟩) hbl).trans (hcl i hlp));have hkd:pk[i]<k:=hkids _ (List.getElem_mem hlp);have HHBi:=ze (HHB.out _ (List.getElem_mem hlp))
   have HG:=ze (show(pk.take (i+1)).foldl (λo j=>jG ps d o j f c) out=jG ps d out' pk[i] f c by
    rw[List.take_succ_eq_append_getElem hlp,List.foldl_append,←HO.out]
    rfl)
   have hint:(i:Int)<(Kn:Int):=by omega
   clear hcl;generalize pk[i]=kid at hck hkd HG HHBi;subst eA;have HCK:=ze hck
   have HHN:=ze (show ∀j,w.heap.size≤j→j<W4.heap.size→v'.ownBlock≠some j from λj h1 h2 e=>by
    rcases S2.new j e with q|q
    ·exact HNE.out j h1 q
    ·omega)
   have HL2:=ze (show ∀j,v'.ownBlock=some j→B≤j from λj hj=>(H2.low hj).1);have HBB:=ze hbf;clear hck
   go_wp2
   refine wp_region_held_drew (S:=λwz=>yI wz w.heap.size W1.heap.size #[x0,x1,.slice (some ⟨g,off,none⟩) NP C,x3,x4] #[.int .i64 6,.int .i64 (psz:Nat),.slice (some ⟨b,o,none⟩) Kn Ck,.int .i64 (pdv:Nat),.int .i64 (pfi:Nat),.int .i64 (pch:Nat),.slice A2 n2 C2,.slice A3 n3 C3]∧wz.cell? ⟨b,o+i,none⟩=some (.int .i64 (kid:Nat))) (by kernel_rfl) (⟨HKI2.out.drew,HCK.out⟩) (λhHeld=>?_);refine zD 0 (some 112) (.agg #[x0,x1,.slice (some ⟨g,off,none⟩) NP C,x3,x4]) rfl rfl (λwz hz=>vI _ rfl _ rfl wz hz.1.1) hHeld ?_;simp only[Act.put,zh,zf,zg];refine zw 1 (some 113) (.pointer (some ⟨W1.heap.size,2,none⟩)) hHeld ?_;simp only[Act.put,zh,zf,zg];refine zD 2 (some 114) (.slice (some ⟨b,o,none⟩) Kn Ck) rfl rfl (λwz hz=>by have q:wz.cell? ⟨W1.heap.size,2,none⟩=some (.slice (some ⟨b,o,none⟩) Kn Ck):=hz.1.2.cell 2;unfold execOp;go_simp) hHeld ?_;simp only[Act.put,zh,zf,zg];refine zw 3 (some 115) (.int .i64 (i:Nat)) hHeld ?_;simp only[Act.put,zh,zf,zg];refine zD 4 (some 116) (.pointer (some ⟨b,o+i,none⟩)) rfl rfl (λwz _=>qh _ _ rfl b o i Kn Ck rfl rfl (by omega) wz) hHeld ?_;simp only[Act.put,zh,zf,zg];refine zD 5 (some 117) (.int .i64 (kid:Nat)) rfl rfl (λwz hz=>qm _ rfl _ rfl wz hz.2) hHeld ?_;simp only[Act.put,zh,zf,zg];refine zw 6 (some 118) (.int .i64 f) hHeld ?_;simp only[Act.put,zh,zf,zg];refine zw 7 (some 119) (.int .i64 c) hHeld ?_;simp only[Act.put,zh,zf,zg];refine zw 8 (some 120) (v') hHeld ?_;simp only[Act.put,zh,zf,zg];refine qY 9 (some 121) 23 #[.agg #[x0,x1,.slice (some ⟨g,off,none⟩) NP C,x3,x4],.int .i64 (kid:Nat),.int .i64 f,.int .i64 c,v'] (by kernel_rfl) rfl rfl (by rfl) (by kernel_rfl) (HX.out _ _ _ kid f c (H2.keep (Below.refl _ wr).drew) hkd HHBi.out) ?_;rintro e w5 ⟨v5,rfl,H5,S5'⟩;have S5:vm v' wr v5 w5:=(vm.of (Below.refl _ wr).drew).trans S5'
   have hHeld:yI w5 w.heap.size W1.heap.size #[x0,x1,.slice (some ⟨g,off,none⟩) NP C,x3,x4] #[.int .i64 6,.int .i64 (psz:Nat),.slice (some ⟨b,o,none⟩) Kn Ck,.int .i64 (pdv:Nat),.int .i64 (pfi:Nat),.int .i64 (pch:Nat),.slice A2 n2 C2,.slice A3 n3 C3]∧w5.cell? ⟨b,o+i,none⟩=some (.int .i64 (kid:Nat)):=⟨HKI2.out.onl S5.only (HHN.out _ (Nat.le_refl _) HLT.out.1) (HHN.out _ (by have:=HZ1.out;omega) HLT.out.2),((S5.below HL2.out H2.lo).cell (p:=⟨b,o+i,none⟩) HBB.out).trans HCK.out⟩
   refine⟨_,rfl,hHeld,?_⟩;simp only[Act.put,zh,zf,zg];refine zw 10 (some 4) (v5) hHeld ?_;simp only[Act.put,zh,zf,zg];refine wpAnyH_done (by kernel_rfl) ?_ _;clear hHeld S5' q2 ql
   go_wp2
   go_roundw
   case rel=>exact⟨i+1,v5,_,by go_num,rfl,by omega,H5,S2.trans S5,HG.out.symm⟩
   case measure=>simp[intOf];omega
  ·obtain rfl:i=Kn:=by omega
   have HF:=ze (show out'=pk.foldl (λo j=>jG ps d o j f c) out by rw[HO.out,HKn.out,List.take_length]);clear HO
   go_wp2
   go_ret
   refine⟨_,rfl,?_,HST.out.trans S2⟩;rw[←HF.out];exact H2
theorem Yl{w:World}{B:Nat}{A:Option Addr}{C:Nat}{ps:List Pt}{v:Value}{out:List R3}(h:yg w B A C ps v out)(hwf:Jv ps)(d k:Nat)(hk:k<ps.length)(f c:Int)(ho:¬256<out.length)(hkind:(zx ps k).kind=7)(hp:yZ ps (zx ps k))(hf0:0≤f)(hc0:0<c)(hfc:f+c≤((zx ps k).size:Nat))(x0 x1 x3 x4:Value)
 (hx:∀(W:World) (v:Value) (out:List R3) (j:Nat) (f c:Int),yg W B A C ps v out→j<k→jF ps (j:Nat) f c=true→Calls Tryz.prog 23 #[.agg #[x0,x1,.slice A ps.length C,x3,x4],.int .i64 (j:Nat),.int .i64 f,.int .i64 c,v] W (yi W B A C ps v (jG ps d out j f c))):
 Calls Tryz.prog 23 #[.agg #[x0,x1,.slice A ps.length C,x3,x4],.int .i64 (k:Nat),.int .i64 f,.int .i64 c,v] w (yi w B A C ps v (vC ps (jG ps d) out (zx ps k) f c)):=by
 obtain⟨Av,Cv,rfl⟩:∃Av Cv,v= .slice Av out.length Cv:=by
  rcases h.row.2 with⟨rfl,h0⟩|⟨g,cap,cur,rfl,_⟩
  ·exact⟨none,0,by rw[h0]⟩
  ·exact⟨_,_,rfl⟩
 obtain⟨g,off,Ak,Ck,A2,n2,C2,A3,n3,C3,rfl,hg0,hg,hki,hkc,hkm,hcell⟩:=jw h.pts hk;have hcap:ps.length≤C∧C≤9223372036854775807:=h.cap;have hkm2:Ck≤9223372036854775807:=hkm;have hsz0:=hwf.size k hk;rw[show sz ps k=(zx ps k).size from rfl]at hsz0;rw[hkind]at hcell;obtain⟨kid,hkq⟩:=List.length_eq_one_iff.1 (hp.one (.inr (.inr (.inl hkind))))
 have EQ:vC ps (jG ps d) out (zx ps k) f c=jG ps d out kid 0 ((sz ps kid:Nat):Int):=by
  unfold vC;rw[hkind,hkq];rfl
 rw[EQ];have hkd:kid<k:=hwf.kids k hk kid (by rw[hkq];exact List.mem_singleton_self _);have hno:=hp.kids kid (by rw[hkq];exact List.mem_singleton_self _);rw[hkq]at hki hkc hcell;obtain⟨b,o,eA,hbl,hbf,hcl⟩:=hki.resolve_left (by simp);have hc0k:w.cell? ⟨b,o,none⟩=some (.int .i64 (kid:Nat)):=hcl 0 (by simp);change ∀j,j<8→w.cell? ⟨g,off+k*8+j,none⟩=(#[.int .i64 7,.int .i64 ((zx ps k).size:Nat),.slice Ak 1 Ck,.int .i64 ((zx ps k).dev:Nat),.int .i64 ((zx ps k).first:Nat),.int .i64 ((zx ps k).chunk:Nat),.slice A2 n2 C2,.slice A3 n3 C3]:Array Value)[j]? at hcell;subst eA;obtain⟨g',off',_,_,_,_,_,_,_,_,eg,_,_,_,_,_,hcell'⟩:=jw h.pts hno.1;cases eg;have hcs:w.cell? ⟨g,off+kid*8+1,none⟩=some (.int .i64 (sz ps kid:Nat)):=hcell' 1 (by decide);have hb:jF ps (kid:Nat) 0 ((sz ps kid:Nat):Int)=true:=vv hno (by omega) (by have:=hno.2.1;omega) (by omega);have hkl:=hno.1;clear EQ hkq hcl hp hcell' hno
 obtain⟨KS,hKS⟩:∃KS,KS=sz ps kid:=⟨_,rfl⟩
 rw[←hKS]at hcs hb ⊢;clear hKS;generalize (zx ps k).size=psz at *;generalize (zx ps k).dev=pdv at *;generalize (zx ps k).first=pfi at *;generalize (zx ps k).chunk=pch at *;have hl1:∀j,(Value.slice Av out.length Cv).ownBlock=some j→B≤j∧j<w.heap.size:=λj hj=>h.low hj
 obtain⟨NP,hNP⟩:∃NP,NP=ps.length:=⟨_,rfl⟩
 rw[←hNP]at hcap ⊢ hx;have hkN:k<NP:=by omega
 obtain⟨W1,hW1⟩:∃W1,W1=w.alloc (.cells #[x0,x1,.slice (some ⟨g,off,none⟩) NP C,x3,x4] 32):=⟨_,rfl⟩
 have hb1:Below w.heap.size w W1:=by rw[hW1];exact zl w _
 have S1:zm W1 w.heap.size 32 #[x0,x1,.slice (some ⟨g,off,none⟩) NP C,x3,x4]:=by rw[hW1];exact zm.new w _ _
 have hce1:=λj (hj:j<8)=>(hb1.cell (p:=⟨g,off+k*8+j,none⟩) hg).trans (hcell j hj)
 obtain⟨W4,hW4⟩:∃W4,W4=W1.alloc (.cells #[.int .i64 7,.int .i64 (psz:Nat),.slice (some ⟨b,o,none⟩) 1 Ck,.int .i64 (pdv:Nat),.int .i64 (pfi:Nat),.int .i64 (pch:Nat),.slice A2 n2 C2,.slice A3 n3 C3] 65):=⟨_,rfl⟩
 have hb4:Below W1.heap.size W1 W4:=by rw[hW4];exact zl W1 _
 have hb04:Below w.heap.size w W4:=hb1.trans (hb4.mono hb1.size);have P4:zm W4 W1.heap.size 65 #[.int .i64 7,.int .i64 (psz:Nat),.slice (some ⟨b,o,none⟩) 1 Ck,.int .i64 (pdv:Nat),.int .i64 (pfi:Nat),.int .i64 (pch:Nat),.slice A2 n2 C2,.slice A3 n3 C3]:=by rw[hW4];exact zm.new W1 _ _
 have hZ1:W1.heap.size=w.heap.size+1:=by rw[hW1];simp
 have HKI:=ze (show yI W4 w.heap.size W1.heap.size #[x0,x1,.slice (some ⟨g,off,none⟩) NP C,x3,x4] #[.int .i64 7,.int .i64 (psz:Nat),.slice (some ⟨b,o,none⟩) 1 Ck,.int .i64 (pdv:Nat),.int .i64 (pfi:Nat),.int .i64 (pch:Nat),.slice A2 n2 C2,.slice A3 n3 C3]from⟨S1.below hb4 S1.lt,P4⟩);have HNE:=ze (show ∀j,w.heap.size≤j→(Value.slice Av out.length Cv).ownBlock≠some j from λj hj e=>by have:=(hl1 j e).2;omega);have HLB:=ze (show ∀j,(Value.slice Av out.length Cv).ownBlock=some j→B≤j from λj hj=>(hl1 j hj).1);have HB4:=ze (show B≤W4.heap.size from Nat.le_trans h.lo hb04.size);have HKG:=ze (h.keep hb04);have HST:=ze (vm.of (v:= .slice Av out.length Cv) hb04);have HX:=ze hx;have HZ1:=ze hZ1;have HCK:=ze (hb04.cell (p:=⟨b,o,none⟩) hbl |>.trans hc0k);have HCS:=ze (hb04.cell (p:=⟨g,off+kid*8+1,none⟩) hg |>.trans hcs);have HBB:=ze hbf;have HHB:=ze hb;have hkid:kid<NP:=by omega
 have HW1:=ze hW1;have HW4:=ze hW4;have s2:=S1.cell 2;have sl:=S1.lt;have p0:=P4.cell 0;have p2:=P4.cell 2;have pl:=P4.lt;simp only[qH,qG,qI]at s2 p0 p2;rw[hW4]at p0 p2 pl;have hooi:¬(256:Int)<(out.length:Int):=by omega
 have hkli:(k:Int)<(NP:Int):=by omega
 clear hW1 hW4 h hx hkind ho hki hl1 hNP hZ1 hb hc0k hbf hcs hkl;generalize out.length=NO at *;go_enter Tryz.func23,Tryz.ntmps23
 go_wp2_with (first
  |((with_reducible refine zi 18 rfl ?_)
    (rw[←HW1.out]))
  |((with_reducible refine zi 21 rfl ?_)
    (refine zd (some 21) _ rfl (by rfl) (zE _ _ rfl g off k NP C rfl rfl hkN W1) ?_))
  |((with_reducible refine zi 22 rfl ?_)
    (refine zd (some 22) _ rfl (by rfl) (qe _ rfl g (off+k*8) rfl W1 hce1) ?_)))
 rw[←HW4.out];refine wp_region_held_drew (S:=λwz=>yI wz w.heap.size W1.heap.size #[x0,x1,.slice (some ⟨g,off,none⟩) NP C,x3,x4] #[.int .i64 7,.int .i64 (psz:Nat),.slice (some ⟨b,o,none⟩) 1 Ck,.int .i64 (pdv:Nat),.int .i64 (pfi:Nat),.int .i64 (pch:Nat),.slice A2 n2 C2,.slice A3 n3 C3]∧wz.cell? ⟨b,o,none⟩=some (.int .i64 (kid:Nat))∧wz.cell? ⟨g,off+kid*8+1,none⟩=some (.int .i64 (KS:Nat))) (by kernel_rfl) (⟨HKI.out.drew,HCK.out,HCS.out⟩) (λhHeld=>?_);refine zD 0 (some 152) (.agg #[x0,x1,.slice (some ⟨g,off,none⟩) NP C,x3,x4]) rfl rfl (λwz hz=>vI _ rfl _ rfl wz hz.1.1) hHeld ?_;simp only[Act.put,zh,zf,zg];refine zw 1 (some 153) (.pointer (some ⟨W1.heap.size,2,none⟩)) hHeld ?_;simp only[Act.put,zh,zf,zg];refine zD 2 (some 154) (.slice (some ⟨b,o,none⟩) 1 Ck) rfl rfl (λwz hz=>by have q:wz.cell? ⟨W1.heap.size,2,none⟩=some (.slice (some ⟨b,o,none⟩) 1 Ck):=hz.1.2.cell 2;unfold execOp;go_simp) hHeld ?_;simp only[Act.put,zh,zf,zg];refine zD 3 (some 155) (.pointer (some ⟨b,o,none⟩)) rfl rfl (λwz _=>yJ _ _ rfl b o 1 Ck rfl rfl (by omega) wz) hHeld ?_;simp only[Act.put,zh,zf,zg];refine zD 4 (some 156) (.int .i64 (kid:Nat)) rfl rfl (λwz hz=>qm _ rfl _ rfl wz hz.2.1) hHeld ?_;simp only[Act.put,zh,zf,zg];refine zw 5 (some 157) (.pointer (some ⟨w.heap.size,2,none⟩)) hHeld ?_;simp only[Act.put,zh,zf,zg];refine zD 6 (some 158) (.slice (some ⟨g,off,none⟩) NP C) rfl rfl (λwz hz=>by have q:wz.cell? ⟨w.heap.size,2,none⟩=some (.slice (some ⟨g,off,none⟩) NP C):=hz.1.1.cell 2;unfold execOp;go_simp) hHeld ?_;simp only[Act.put,zh,zf,zg];refine zw 7 (some 159) (.pointer (some ⟨W1.heap.size,2,none⟩)) hHeld ?_;simp only[Act.put,zh,zf,zg];refine zD 8 (some 160) (.slice (some ⟨b,o,none⟩) 1 Ck) rfl rfl (λwz hz=>by have q:wz.cell? ⟨W1.heap.size,2,none⟩=some (.slice (some ⟨b,o,none⟩) 1 Ck):=hz.1.2.cell 2;unfold execOp;go_simp) hHeld ?_;simp only[Act.put,zh,zf,zg];refine zD 9 (some 161) (.pointer (some ⟨b,o,none⟩)) rfl rfl (λwz _=>yJ _ _ rfl b o 1 Ck rfl rfl (by omega) wz) hHeld ?_;simp only[Act.put,zh,zf,zg];refine zD 10 (some 162) (.int .i64 (kid:Nat)) rfl rfl (λwz hz=>qm _ rfl _ rfl wz hz.2.1) hHeld ?_;simp only[Act.put,zh,zf,zg];refine zD 11 (some 163) (.pointer (some ⟨g,off+kid*8,none⟩)) rfl rfl (λwz _=>zE _ _ rfl g off kid NP C rfl rfl hkid wz) hHeld ?_;simp only[Act.put,zh,zf,zg];refine zw 12 (some 164) (.pointer (some ⟨g,off+kid*8+1,none⟩)) hHeld ?_;simp only[Act.put,zh,zf,zg];refine zD 13 (some 165) (.int .i64 (KS:Nat)) rfl rfl (λwz hz=>qm _ rfl _ rfl wz hz.2.2) hHeld ?_;simp only[Act.put,zh,zf,zg];refine zw 14 (some 166) (.slice Av NO Cv) hHeld ?_;simp only[Act.put,zh,zf,zg];refine qY 15 (some 167) 23 #[.agg #[x0,x1,.slice (some ⟨g,off,none⟩) NP C,x3,x4],.int .i64 (kid:Nat),.int .i64 0,.int .i64 (KS:Nat),.slice Av NO Cv] (by kernel_rfl) rfl rfl (by rfl) (by kernel_rfl) (HX.out _ _ _ kid 0 (KS:Nat) (HKG.out.keep (Below.refl _ W4).drew) hkd HHB.out) ?_;rintro e w5 ⟨v5,rfl,H5,S5'⟩;have S5:vm (.slice Av NO Cv) W4 v5 w5:=(vm.of (Below.refl _ W4).drew).trans S5';have hb5:=S5.below HLB.out HB4.out
 have hHeld:yI w5 w.heap.size W1.heap.size #[x0,x1,.slice (some ⟨g,off,none⟩) NP C,x3,x4] #[.int .i64 7,.int .i64 (psz:Nat),.slice (some ⟨b,o,none⟩) 1 Ck,.int .i64 (pdv:Nat),.int .i64 (pfi:Nat),.int .i64 (pch:Nat),.slice A2 n2 C2,.slice A3 n3 C3]∧w5.cell? ⟨b,o,none⟩=some (.int .i64 (kid:Nat))∧w5.cell? ⟨g,off+kid*8+1,none⟩=some (.int .i64 (KS:Nat)):=⟨HKI.out.onl S5.only (HNE.out _ (Nat.le_refl _)) (HNE.out _ (by have:=HZ1.out;omega)),(hb5.cell (p:=⟨b,o,none⟩) HBB.out).trans HCK.out,(hb5.cell (p:=⟨g,off+kid*8+1,none⟩) hg0).trans HCS.out⟩
 refine⟨_,rfl,hHeld,?_⟩;simp only[Act.put,zh,zf,zg];refine zw 16 (some 4) (v5) hHeld ?_;simp only[Act.put,zh,zf,zg];refine wpAnyH_done (by kernel_rfl) ?_ _;clear hHeld S5' p0 p2 pl
 go_wp2
 go_ret
 exact⟨_,rfl,H5,HST.out.trans S5⟩
theorem KJ{w:World}{B:Nat}{A:Option Addr}{C:Nat}{ps:List Pt}{v:Value}{out:List R3}(h:yg w B A C ps v out)(hwf:Jv ps)(d k:Nat)(hk:k<ps.length)(f c:Int)(ho:¬256<out.length)(hkind:(zx ps k).kind=8)(hp:yZ ps (zx ps k))(hf0:0≤f)(hc0:0<c)(hfc:f+c≤((zx ps k).size:Nat))(x0 x1 x3 x4:Value)
 (hx:∀(W:World) (v:Value) (out:List R3) (j:Nat) (f c:Int),yg W B A C ps v out→j<k→jF ps (j:Nat) f c=true→Calls Tryz.prog 23 #[.agg #[x0,x1,.slice A ps.length C,x3,x4],.int .i64 (j:Nat),.int .i64 f,.int .i64 c,v] W (yi W B A C ps v (jG ps d out j f c))):
 Calls Tryz.prog 23 #[.agg #[x0,x1,.slice A ps.length C,x3,x4],.int .i64 (k:Nat),.int .i64 f,.int .i64 c,v] w (yi w B A C ps v (vC ps (jG ps d) out (zx ps k) f c)):=by
 obtain⟨Av,Cv,rfl⟩:∃Av Cv,v= .slice Av out.length Cv:=by
  rcases h.row.2 with⟨rfl,h0⟩|⟨g,cap,cur,rfl,_⟩
  ·exact⟨none,0,by rw[h0]⟩
  ·exact⟨_,_,rfl⟩
 obtain⟨g,off,Ak,Ck,A2,n2,C2,A3,n3,C3,rfl,hg0,hg,hki,hkc,hkm,hcell⟩:=jw h.pts hk;have hcap:ps.length≤C∧C≤9223372036854775807:=h.cap;have hkm2:Ck≤9223372036854775807:=hkm;have hsz0:=hwf.size k hk;rw[show sz ps k=(zx ps k).size from rfl]at hsz0;rw[hkind]at hcell;obtain⟨kid,hkq⟩:=List.length_eq_one_iff.1 (hp.one (.inr (.inr (.inr hkind))))
 have EQ:vC ps (jG ps d) out (zx ps k) f c=jG ps d out kid 0 ((sz ps kid:Nat):Int):=by
  unfold vC;rw[hkind,hkq];rfl
 rw[EQ];have hkd:kid<k:=hwf.kids k hk kid (by rw[hkq];exact List.mem_singleton_self _);have hno:=hp.kids kid (by rw[hkq];exact List.mem_singleton_self _);rw[hkq]at hki hkc hcell;obtain⟨b,o,eA,hbl,hbf,hcl⟩:=hki.resolve_left (by simp);have hc0k:w.cell? ⟨b,o,none⟩=some (.int .i64 (kid:Nat)):=hcl 0 (by simp);change ∀j,j<8→w.cell? ⟨g,off+k*8+j,none⟩=(#[.int .i64 8,.int .i64 ((zx ps k).size:Nat),.slice Ak 1 Ck,.int .i64 ((zx ps k).dev:Nat),.int .i64 ((zx ps k).first:Nat),.int .i64 ((zx ps k).chunk:Nat),.slice A2 n2 C2,.slice A3 n3 C3]:Array Value)[j]? at hcell;subst eA;obtain⟨g',off',_,_,_,_,_,_,_,_,eg,_,_,_,_,_,hcell'⟩:=jw h.pts hno.1;cases eg;have hcs:w.cell? ⟨g,off+kid*8+1,none⟩=some (.int .i64 (sz ps kid:Nat)):=hcell' 1 (by decide);have hb:jF ps (kid:Nat) 0 ((sz ps kid:Nat):Int)=true:=vv hno (by omega) (by have:=hno.2.1;omega) (by omega);have hkl:=hno.1;clear EQ hkq hcl hp hcell' hno
 obtain⟨KS,hKS⟩:∃KS,KS=sz ps kid:=⟨_,rfl⟩
 rw[←hKS]at hcs hb ⊢;clear hKS;generalize (zx ps k).size=psz at *;generalize (zx ps k).dev=pdv at *;generalize (zx ps k).first=pfi at *;generalize (zx ps k).chunk=pch at *;have hl1:∀j,(Value.slice Av out.length Cv).ownBlock=some j→B≤j∧j<w.heap.size:=λj hj=>h.low hj
 obtain⟨NP,hNP⟩:∃NP,NP=ps.length:=⟨_,rfl⟩
 rw[←hNP]at hcap ⊢ hx;have hkN:k<NP:=by omega
 obtain⟨W1,hW1⟩:∃W1,W1=w.alloc (.cells #[x0,x1,.slice (some ⟨g,off,none⟩) NP C,x3,x4] 32):=⟨_,rfl⟩
 have hb1:Below w.heap.size w W1:=by rw[hW1];exact zl w _
 have S1:zm W1 w.heap.size 32 #[x0,x1,.slice (some ⟨g,off,none⟩) NP C,x3,x4]:=by rw[hW1];exact zm.new w _ _
 have hce1:=λj (hj:j<8)=>(hb1.cell (p:=⟨g,off+k*8+j,none⟩) hg).trans (hcell j hj)
 obtain⟨W4,hW4⟩:∃W4,W4=W1.alloc (.cells #[.int .i64 8,.int .i64 (psz:Nat),.slice (some ⟨b,o,none⟩) 1 Ck,.int .i64 (pdv:Nat),.int .i64 (pfi:Nat),.int .i64 (pch:Nat),.slice A2 n2 C2,.slice A3 n3 C3] 65):=⟨_,rfl⟩
 have hb4:Below W1.heap.size W1 W4:=by rw[hW4];exact zl W1 _
 have hb04:Below w.heap.size w W4:=hb1.trans (hb4.mono hb1.size);have P4:zm W4 W1.heap.size 65 #[.int .i64 8,.int .i64 (psz:Nat),.slice (some ⟨b,o,none⟩) 1 Ck,.int .i64 (pdv:Nat),.int .i64 (pfi:Nat),.int .i64 (pch:Nat),.slice A2 n2 C2,.slice A3 n3 C3]:=by rw[hW4];exact zm.new W1 _ _
 have hZ1:W1.heap.size=w.heap.size+1:=by rw[hW1];simp
 have HKI:=ze (show yI W4 w.heap.size W1.heap.size #[x0,x1,.slice (some ⟨g,off,none⟩) NP C,x3,x4] #[.int .i64 8,.int .i64 (psz:Nat),.slice (some ⟨b,o,none⟩) 1 Ck,.int .i64 (pdv:Nat),.int .i64 (pfi:Nat),.int .i64 (pch:Nat),.slice A2 n2 C2,.slice A3 n3 C3]from⟨S1.below hb4 S1.lt,P4⟩);have HNE:=ze (show ∀j,w.heap.size≤j→(Value.slice Av out.length Cv).ownBlock≠some j from λj hj e=>by have:=(hl1 j e).2;omega);have HLB:=ze (show ∀j,(Value.slice Av out.length Cv).ownBlock=some j→B≤j from λj hj=>(hl1 j hj).1);have HB4:=ze (show B≤W4.heap.size from Nat.le_trans h.lo hb04.size);have HKG:=ze (h.keep hb04);have HST:=ze (vm.of (v:= .slice Av out.length Cv) hb04);have HX:=ze hx;have HZ1:=ze hZ1;have HCK:=ze (hb04.cell (p:=⟨b,o,none⟩) hbl |>.trans hc0k);have HCS:=ze (hb04.cell (p:=⟨g,off+kid*8+1,none⟩) hg |>.trans hcs);have HBB:=ze hbf;have HHB:=ze hb;have hkid:kid<NP:=by omega
 have HW1:=ze hW1;have HW4:=ze hW4;have s2:=S1.cell 2;have sl:=S1.lt;have p0:=P4.cell 0;have p2:=P4.cell 2;have pl:=P4.lt;simp only[qH,qG,qI]at s2 p0 p2;rw[hW4]at p0 p2 pl;have hooi:¬(256:Int)<(out.length:Int):=by omega
 have hkli:(k:Int)<(NP:Int):=by omega
 clear hW1 hW4 h hx hkind ho hki hl1 hNP hZ1 hb hc0k hbf hcs hkl;generalize out.length=NO at *;go_enter Tryz.func23,Tryz.ntmps23
 go_wp2_with (first
  |((with_reducible refine zi 18 rfl ?_)
    (rw[←HW1.out]))
  |((with_reducible refine zi 21 rfl ?_)
    (refine zd (some 21) _ rfl (by rfl) (zE _ _ rfl g off k NP C rfl rfl hkN W1) ?_))
  |((with_reducible refine zi 22 rfl ?_)
    (refine zd (some 22) _ rfl (by rfl) (qe _ rfl g (off+k*8) rfl W1 hce1) ?_)))
 rw[←HW4.out];refine wp_region_held_drew (S:=λwz=>yI wz w.heap.size W1.heap.size #[x0,x1,.slice (some ⟨g,off,none⟩) NP C,x3,x4] #[.int .i64 8,.int .i64 (psz:Nat),.slice (some ⟨b,o,none⟩) 1 Ck,.int .i64 (pdv:Nat),.int .i64 (pfi:Nat),.int .i64 (pch:Nat),.slice A2 n2 C2,.slice A3 n3 C3]∧wz.cell? ⟨b,o,none⟩=some (.int .i64 (kid:Nat))∧wz.cell? ⟨g,off+kid*8+1,none⟩=some (.int .i64 (KS:Nat))) (by kernel_rfl) (⟨HKI.out.drew,HCK.out,HCS.out⟩) (λhHeld=>?_);refine zD 0 (some 152) (.agg #[x0,x1,.slice (some ⟨g,off,none⟩) NP C,x3,x4]) rfl rfl (λwz hz=>vI _ rfl _ rfl wz hz.1.1) hHeld ?_;simp only[Act.put,zh,zf,zg];refine zw 1 (some 153) (.pointer (some ⟨W1.heap.size,2,none⟩)) hHeld ?_;simp only[Act.put,zh,zf,zg];refine zD 2 (some 154) (.slice (some ⟨b,o,none⟩) 1 Ck) rfl rfl (λwz hz=>by have q:wz.cell? ⟨W1.heap.size,2,none⟩=some (.slice (some ⟨b,o,none⟩) 1 Ck):=hz.1.2.cell 2;unfold execOp;go_simp) hHeld ?_;simp only[Act.put,zh,zf,zg];refine zD 3 (some 155) (.pointer (some ⟨b,o,none⟩)) rfl rfl (λwz _=>yJ _ _ rfl b o 1 Ck rfl rfl (by omega) wz) hHeld ?_;simp only[Act.put,zh,zf,zg];refine zD 4 (some 156) (.int .i64 (kid:Nat)) rfl rfl (λwz hz=>qm _ rfl _ rfl wz hz.2.1) hHeld ?_;simp only[Act.put,zh,zf,zg];refine zw 5 (some 157) (.pointer (some ⟨w.heap.size,2,none⟩)) hHeld ?_;simp only[Act.put,zh,zf,zg];refine zD 6 (some 158) (.slice (some ⟨g,off,none⟩) NP C) rfl rfl (λwz hz=>by have q:wz.cell? ⟨w.heap.size,2,none⟩=some (.slice (some ⟨g,off,none⟩) NP C):=hz.1.1.cell 2;unfold execOp;go_simp) hHeld ?_;simp only[Act.put,zh,zf,zg];refine zw 7 (some 159) (.pointer (some ⟨W1.heap.size,2,none⟩)) hHeld ?_;simp only[Act.put,zh,zf,zg];refine zD 8 (some 160) (.slice (some ⟨b,o,none⟩) 1 Ck) rfl rfl (λwz hz=>by have q:wz.cell? ⟨W1.heap.size,2,none⟩=some (.slice (some ⟨b,o,none⟩) 1 Ck):=hz.1.2.cell 2;unfold execOp;go_simp) hHeld ?_;simp only[Act.put,zh,zf,zg];refine zD 9 (some 161) (.pointer (some ⟨b,o,none⟩)) rfl rfl (λwz _=>yJ _ _ rfl b o 1 Ck rfl rfl (by omega) wz) hHeld ?_;simp only[Act.put,zh,zf,zg];refine zD 10 (some 162) (.int .i64 (kid:Nat)) rfl rfl (λwz hz=>qm _ rfl _ rfl wz hz.2.1) hHeld ?_;simp only[Act.put,zh,zf,zg];refine zD 11 (some 163) (.pointer (some ⟨g,off+kid*8,none⟩)) rfl rfl (λwz _=>zE _ _ rfl g off kid NP C rfl rfl hkid wz) hHeld ?_;simp only[Act.put,zh,zf,zg];refine zw 12 (some 164) (.pointer (some ⟨g,off+kid*8+1,none⟩)) hHeld ?_;simp only[Act.put,zh,zf,zg];refine zD 13 (some 165) (.int .i64 (KS:Nat)) rfl rfl (λwz hz=>qm _ rfl _ rfl wz hz.2.2) hHeld ?_;simp only[Act.put,zh,zf,zg];refine zw 14 (some 166) (.slice Av NO Cv) hHeld ?_;simp only[Act.put,zh,zf,zg];refine qY 15 (some 167) 23 #[.agg #[x0,x1,.slice (some ⟨g,off,none⟩) NP C,x3,x4],.int .i64 (kid:Nat),.int .i64 0,.int .i64 (KS:Nat),.slice Av NO Cv] (by kernel_rfl) rfl rfl (by rfl) (by kernel_rfl) (HX.out _ _ _ kid 0 (KS:Nat) (HKG.out.keep (Below.refl _ W4).drew) hkd HHB.out) ?_;rintro e w5 ⟨v5,rfl,H5,S5'⟩;have S5:vm (.slice Av NO Cv) W4 v5 w5:=(vm.of (Below.refl _ W4).drew).trans S5';have hb5:=S5.below HLB.out HB4.out
 have hHeld:yI w5 w.heap.size W1.heap.size #[x0,x1,.slice (some ⟨g,off,none⟩) NP C,x3,x4] #[.int .i64 8,.int .i64 (psz:Nat),.slice (some ⟨b,o,none⟩) 1 Ck,.int .i64 (pdv:Nat),.int .i64 (pfi:Nat),.int .i64 (pch:Nat),.slice A2 n2 C2,.slice A3 n3 C3]∧w5.cell? ⟨b,o,none⟩=some (.int .i64 (kid:Nat))∧w5.cell? ⟨g,off+kid*8+1,none⟩=some (.int .i64 (KS:Nat)):=⟨HKI.out.onl S5.only (HNE.out _ (Nat.le_refl _)) (HNE.out _ (by have:=HZ1.out;omega)),(hb5.cell (p:=⟨b,o,none⟩) HBB.out).trans HCK.out,(hb5.cell (p:=⟨g,off+kid*8+1,none⟩) hg0).trans HCS.out⟩
 refine⟨_,rfl,hHeld,?_⟩;simp only[Act.put,zh,zf,zg];refine zw 16 (some 4) (v5) hHeld ?_;simp only[Act.put,zh,zf,zg];refine wpAnyH_done (by kernel_rfl) ?_ _;clear hHeld S5' p0 p2 pl
 go_wp2
 go_ret
 exact⟨_,rfl,H5,HST.out.trans S5⟩
theorem zbT{B:Nat}{A:Option Addr}{C:Nat}{ps:List Pt}(hwf:Jv ps)(hpt:∀i,i<ps.length→(zx ps i).kind=1∨yZ ps (zx ps i))(x0 x1 x3 x4:Value)(d:Nat):∀(w:World) (v:Value) (out:List R3) (k:Nat) (f c:Int),yg w B A C ps v out→k<d→jF ps (k:Nat) f c=true→Calls Tryz.prog 23 #[.agg #[x0,x1,.slice A ps.length C,x3,x4],.int .i64 (k:Nat),.int .i64 f,.int .i64 c,v] w (yi w B A C ps v (jG ps d out k f c)):=by
 induction d with
 |zero=>intro w v out k f c _ hk;omega
 |succ d ih =>
  intro w v out k f c h hk hh;obtain⟨hkl,hf0,hc0,hfc⟩:=Zr hh;by_cases ho:256<out.length
  ·rw[show jG ps (d+1) out k f c=out from if_pos ho]
   exact fR h k hkl f c ho x0 x1 x3 x4
  ·rw[show jG ps (d+1) out k f c=vC ps (jG ps d) out (zx ps k) f c from if_neg ho]
   have hx:∀(W:World) (v:Value) (out:List R3) (j:Nat) (f c:Int),yg W B A C ps v out→j<k→jF ps (j:Nat) f c=true→Calls Tryz.prog 23 #[.agg #[x0,x1,.slice A ps.length C,x3,x4],.int .i64 (j:Nat),.int .i64 f,.int .i64 c,v] W (yi W B A C ps v (jG ps d out j f c)):=λW v out j f c H hj hb=>ih W v out j f c H (by omega) hb
   rcases hpt k hkl with e|hp
   ·exact gU h hwf d k hkl f c ho e hf0 hc0 hfc x0 x1 x3 x4 hx
   ·have hkk:=hp.kind
    rcases(by omega:(zx ps k).kind=2∨(zx ps k).kind=3∨(zx ps k).kind=4∨(zx ps k).kind=5∨(zx ps k).kind=6∨(zx ps k).kind=7∨(zx ps k).kind=8)with e|e|e|e|e|e|e
    ·exact UC h hwf d k hkl f c ho e hp hf0 hc0 hfc x0 x1 x3 x4 hx
    ·exact Uo h hwf d k hkl f c ho e hp hf0 hc0 hfc x0 x1 x3 x4 hx
    ·exact KM h hwf d k hkl f c ho e hp hf0 hc0 hfc x0 x1 x3 x4 hx
    ·exact Yy h hwf d k hkl f c ho e hp hf0 hc0 hfc x0 x1 x3 x4 hx
    ·exact uQ h hwf d k hkl f c ho e hp hf0 hc0 hfc x0 x1 x3 x4 hx
    ·exact Yl h hwf d k hkl f c ho e hp hf0 hc0 hfc x0 x1 x3 x4 hx
    ·exact KJ h hwf d k hkl f c ho e hp hf0 hc0 hfc x0 x1 x3 x4 hx
def KRg(w:World)(R:List R3)(e:Ending)(w':World):Prop:=∃v,e= .returned v∧Kw w' w.heap.size v R∧Below w.heap.size w w'∧R.length≤257
theorem KRg.none{w:World}{o:Obj}:KRg w [] (.returned (.slice none 0 0)) (w.alloc o):=⟨_,rfl,⟨rfl,.inl ⟨rfl,rfl⟩⟩,zl w o,by simp⟩
theorem zaJ{ps:List Pt}{p f c:Int}(h:jF ps p f c=false):xt ps p f c= []:=by
 unfold xt;rw[if_pos h]
theorem Ku{ps:List Pt}{p f c:Int}(h:¬(0≤p∧p<ps.length∧0≤f∧0<c∧f≤(sz ps p.toNat:Int)-c)):jF ps p f c=false:=by
 unfold jF;rw[decide_eq_false_iff_not];exact h
theorem VZ{w:World}{A:Option Addr}{C:Nat}{ps:List Pt}(hp:vB w w.heap.size A ps)(hcap:ps.length≤C∧C≤maxLen)(hwf:Jv ps)(hpt:∀i,i<ps.length→(zx ps i).kind=1∨yZ ps (zx ps i))(x0 x1 x3 x4:Value)(p f c:Int)(hpi:qo p)(hf:qo f)(hc:qo c):Calls Tryz.prog 12 #[.agg #[x0,x1,.slice A ps.length C,x3,x4],.int .i64 p,.int .i64 f,.int .i64 c] w (KRg w (xt ps p f c)):=by
 obtain⟨W1,hW1⟩:∃W1,W1=w.alloc (.cells #[x0,x1,.slice A ps.length C,x3,x4] 32):=⟨_,rfl⟩
 have hb1:Below w.heap.size w W1:=by rw[hW1];exact zl w _
 have S1:zm W1 w.heap.size 32 #[x0,x1,.slice A ps.length C,x3,x4]:=by rw[hW1];exact zm.new w _ _
 have hcap2:ps.length≤C∧C≤9223372036854775807:=hcap;have HNIL:=ze (λ(q:jF ps p f c=false)=>(by rw[zaJ q];exact KRg.none:KRg w (xt ps p f c) (.returned (.slice none 0 0)) (w.alloc (.cells #[x0,x1,.slice A ps.length C,x3,x4] 32))));by_cases h0:p<0
 ·have HN:=ze (HNIL.out (Ku (by omega)))
  generalize ps.length=NP at *;clear hW1 hp hwf hpt HNIL hb1;go_enter Tryz.func12,Tryz.ntmps12
  go_wp2
  go_ret
  exact HN.out
 by_cases h1:(ps.length:Int)≤p
 ·have HN:=ze (HNIL.out (Ku (by omega)))
  have h1':¬p<(ps.length:Int):=by omega
  generalize ps.length=NP at *;clear hW1 hp hwf hpt HNIL hb1;go_enter Tryz.func12,Tryz.ntmps12
  go_wp2
  go_ret
  exact HN.out
 obtain⟨k,rfl⟩:∃k:Nat,p=(k:Nat):=⟨p.toNat,by omega⟩
 have hk:k<ps.length:=by omega
 obtain⟨g,off,Ak,Ck,A2,n2,C2,A3,n3,C3,rfl,hg0,hg,hki,hkc,hkm,hcell⟩:=jw hp hk;have q1:w.cell? ⟨g,off+k*8+1,none⟩=some (.int .i64 (sz ps k:Nat)):=hcell 1 (by decide);have c1:=(hb1.cell (p:=⟨g,off+k*8+1,none⟩) hg).trans q1;have hsz:=hwf.size k hk;have HH:=ze (λ(q:¬(0≤f∧0<c∧f≤(sz ps k:Int)-c))=>HNIL.out (Ku (by rw[Int.toNat_natCast];omega)));have HYES:=ze (λ(q:0≤f∧0<c∧f≤(sz ps k:Int)-c)=>(show jF ps (k:Nat) f c=true from by unfold jF;rw[decide_eq_true_eq,Int.toNat_natCast];omega))
 have HCX:=ze (λ(q:jF ps (k:Nat) f c=true)=>(show Calls Tryz.prog 23 #[.agg #[x0,x1,.slice (some ⟨g,off,none⟩) ps.length C,x3,x4],.int .i64 (k:Nat),.int .i64 f,.int .i64 c,.slice none 0 0] W1 (yi W1 w.heap.size (some ⟨g,off,none⟩) C ps (.slice none 0 0) (xt ps (k:Nat) f c))from by
  have e:xt ps (k:Nat) f c=jG ps ps.length [] k f c:=by
   rw[zbg hpt _ _ _ _ _ q];unfold xt;rw[if_neg (by rw[q];decide),Int.toNat_natCast]
  rw[e]
  exact zbT hwf hpt x0 x1 x3 x4 _ W1 _ [] k f c (yg.start (hp.keep hb1) hcap hb1.size) hk q))
 have hkli:(k:Int)<(ps.length:Int):=by omega
 have hk0:¬(k:Int)<0:=by omega
 have HW:=ze hW1;have HB1:=ze hb1;have s2:=S1.cell 2;have sl:=S1.lt;have s0:=S1.cell 0;have s1':=S1.cell 1;have s3:=S1.cell 3;have s4:=S1.cell 4;simp only[qH,qG,qI]at s0 s1' s2 s3 s4;clear hcell q1 hki hp hwf hpt HNIL S1 hb1 hcap;generalize sz ps k=KS at *;generalize ps.length=NP at *;rw[hW1]at s0 s1' s2 s3 s4 sl c1;have HN0:=ze (λq=>hW1 ▸ HH.out q);by_cases a:0≤f∧0<c∧f≤(KS:Int)-c
 ·have hcx:=HCX.out (HYES.out a)
  rw[hW1]at hcx;obtain⟨a1,a2,a3⟩:=a;have b1:¬f<0:=by omega
  have b2:¬c<1:=by omega
  have b3:¬(KS:Int)<f:=by omega
  have b4:¬(KS:Int)-f<c:=by omega
  clear HH HYES HCX HN0 hW1;go_enter Tryz.func12,Tryz.ntmps12
  go_wp2_with (first
   |((with_reducible refine zi 22 rfl ?_)
     (refine zd (some 22) _ rfl (by rfl) (zE _ _ rfl g off k NP C rfl rfl hk _) ?_))
   |((go_at_call 23)
     refine hcx.mono ?_;(rintro e w1 ⟨v1,rfl,H1,T1⟩)))
  go_ret
  rw[←HW.out]at T1;have hbl:=HB1.out.trans (T1.below (B:=w.heap.size) (λj hj=>by cases hj) HB1.out.size);exact⟨v1,rfl,H1.row,hbl,H1.few⟩
 ·have HN:=ze (HH.out a)
  by_cases b1:f<0
  ·clear HH HYES HCX HN0 hW1 a
   go_enter Tryz.func12,Tryz.ntmps12
   go_wp2_with (first
    |((with_reducible refine zi 22 rfl ?_)
      (refine zd (some 22) _ rfl (by rfl) (zE _ _ rfl g off k NP C rfl rfl hk _) ?_)))
   go_ret
   exact HN.out
  by_cases b2:c<1
  ·clear HH HYES HCX HN0 hW1 a
   go_enter Tryz.func12,Tryz.ntmps12
   go_wp2_with (first
    |((with_reducible refine zi 22 rfl ?_)
      (refine zd (some 22) _ rfl (by rfl) (zE _ _ rfl g off k NP C rfl rfl hk _) ?_)))
   go_ret
   exact HN.out
  by_cases b3:(KS:Int)<f
  ·clear HH HYES HCX HN0 hW1 a
   go_enter Tryz.func12,Tryz.ntmps12
   go_wp2_with (first
    |((with_reducible refine zi 22 rfl ?_)
      (refine zd (some 22) _ rfl (by rfl) (zE _ _ rfl g off k NP C rfl rfl hk _) ?_)))
   go_ret
   exact HN.out
  have b4:(KS:Int)-f<c:=by omega
  clear HH HYES HCX HN0 hW1 a;go_enter Tryz.func12,Tryz.ntmps12
  go_wp2_with (first
   |((with_reducible refine zi 22 rfl ?_)
     (refine zd (some 22) _ rfl (by rfl) (zE _ _ rfl g off k NP C rfl rfl hk _) ?_)))
  go_ret
  exact HN.out
end
section
theorem YS(d:Nat)(n:Nd):zo (d+1) n=(decide (n.n=0)&&(if n.op=vK then jq n.s&&decide (n.l.length=0)else n.s== []&&jv (zo d) n)):=rfl
theorem zcy{d:Nat}{n:Nd}(h:Zd n=true):zo (d+1) n=true:=by
 unfold Zd at h;simp only[Bool.and_eq_true,beq_iff_eq,decide_eq_true_eq]at h;rw[YS,if_pos h.1.1.1,h.1.1.2,decide_eq_true h.1.2,decide_eq_true h.2];rfl
theorem Y1{d:Nat}{n:Nd}(h:Zd n=false)(ho:n.op=vK):zo (d+1) n=false:=by
 rw[YS,if_pos ho];unfold Zd at h;rw[ho]at h;cases a:decide (n.n=0)<;>cases b:jq n.s<;>cases c:decide (n.l.length=0)<;>simp_all
theorem zdd{d:Nat}{n:Nd}(h:Zd n=false)(hs:n.s≠ []):zo (d+1) n=false:=by
 by_cases ho:n.op=vK
 ·exact Y1 h ho
 ·rw[YS,if_neg ho,show(n.s== [])=false by simpa using hs]
  simp
theorem zdi{d:Nat}{n:Nd}(hn:n.n≠0):zo (d+1) n=false:=by
 rw[YS,decide_eq_false hn];rfl
theorem KT{d:Nat}{n:Nd}(h:Zd n=false)(hp:jv (zo d) n=false):zo (d+1) n=false:=by
 by_cases ho:n.op=vK
 ·exact Y1 h ho
 ·rw[YS,if_neg ho,hp]
  simp
theorem Vx{d:Nat}{n:Nd}(ho:n.op≠vK)(hs:n.s= [])(hn:n.n=0):zo (d+1) n=jv (zo d) n:=by
 rw[YS,if_neg ho,hs,hn];rfl
theorem zax{re:Nd→Bool}{n:Nd}(h:(qn n.op).1= []):jv re n=false:=by
 unfold jv QX;rw[h];rfl
theorem Do{re:Nd→Bool}{n:Nd}(h:n.l.length=0):jv re n=false:=by
 unfold jv QX;rw[h];by_cases hk:(qn n.op).1.length=0
 ·simp[hk]
 ·rw[decide_eq_true (show 0<(qn n.op).1.length by omega)]
  simp
theorem pk3{re:Nd→Bool}{n:Nd}{a b c:Kd}(hi:qn n.op=([a,b,c],false)):jv re n=(decide (n.l.length=3)&&(zP re a (zF n.l 0)&&zP re b (zF n.l 1)&&zP re c (zF n.l 2))):=by
 unfold jv;rw[hi];by_cases h3:n.l.length=3
 ·rw[h3]
  show(true&&(zP re a (zF n.l 0)&&(zP re b (zF n.l 1)&&(zP re c (zF n.l 2)&&true))))=_;simp[Bool.and_assoc]
 ·have :QX [a,b,c] false n.l.length=false:=by
   unfold QX;simp;omega
  rw[this,decide_eq_false h3];rfl
theorem pk2{re:Nd→Bool}{n:Nd}{a b:Kd}(hi:qn n.op=([a,b],false)):jv re n=(decide (n.l.length=2)&&(zP re a (zF n.l 0)&&zP re b (zF n.l 1))):=by
 unfold jv;rw[hi];by_cases h3:n.l.length=2
 ·rw[h3]
  show(true&&(zP re a (zF n.l 0)&&(zP re b (zF n.l 1)&&true)))=_;simp
 ·have :QX [a,b] false n.l.length=false:=by
   unfold QX;simp;omega
  rw[this,decide_eq_false h3];rfl
theorem pkm{re:Nd→Bool}{n:Nd}(hi:qn n.op=([.ex],true))(hl:1≤n.l.length):jv re n=(List.range n.l.length).all λi=>re (zF n.l i):=by
 unfold jv;rw[hi]
 have :QX [Kd.ex] true n.l.length=true:=by
  unfold QX;rw[decide_eq_false (show ¬n.l.length< [Kd.ex].length by simp only[List.length_cons,List.length_nil];omega)];simp
 rw[this,Bool.true_and]
 congr 1
 funext i
 have :JP [Kd.ex] i= .ex:=by unfold JP;simp
 show zP re (JP [Kd.ex] i) (zF n.l i)=_;rw[this];rfl
theorem zcY{op:List UInt8}(h:op≠qX∧op≠qv∧op≠jl∧op≠qb∧op≠jf∧op≠qQ∧op≠je):(qn op).1= []:=by
 obtain⟨h1,h2,h3,h4,h5,h6,h7⟩:=h;unfold qn;rw[if_neg h1,if_neg (by rintro(h|h);exact h6 h;exact h7 h),if_neg h2,if_neg (by rintro(h|h|h);exact h3 h;exact h4 h;exact h5 h)]
end
end Go.Proofs.YteaddcdpgcgggaaGreatDoor
