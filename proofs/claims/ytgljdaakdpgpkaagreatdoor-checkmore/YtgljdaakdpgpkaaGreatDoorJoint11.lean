import Derived.Test.YtgljdaakdpgpkaaGreatDoorJoint10
namespace Go.Proofs.YtgljdaakdpgpkaaGreatDoor
set_option linter.unusedVariables false
set_option maxRecDepth 100000
set_option maxHeartbeats 40000000
section
open Go.ChangeShapes Go.WideShapes Go.ChangeAt Go.RowKit Go.MapKept
variable {E:Nat→Prop}
theorem YW{w:World}{cb:Nat}{V:CV}{c:Ck}(h:zG E w cb V c)(n:Nd)(A:Option Addr)(L C:Nat)(ho:n.op=zd)(hdv:c.devs.length≤90000):
 Calls Tryz.prog 65 #[.pointer (some ⟨cb,0,none⟩),.agg (qa n (.slice A L C))] w (JY E w cb V (jg c n)):=by
 obtain⟨W1,hW1⟩:∃W1,W1=((w.alloc (.cells #[.string (bs n.op),.string (bs n.s),.int .i64 n.n,.int .i64 n.a,.slice A L C] 24)).alloc (.cells #[.string ⟨#[]⟩,.int .i64 0,.slice none 0 0] 111)).alloc (.cells #[.string (bs n.op),.int .i64 0,.slice none 0 0] 111):=⟨_,rfl⟩
 have hb1:Below w.heap.size w W1:=by rw[hW1];exact xL _ _ _
 have N1:zi W1 w.heap.size 24 #[.string (bs n.op),.string (bs n.s),.int .i64 n.n,.int .i64 n.a,.slice A L C]:=by rw[hW1];exact((zi.new w _ _).alloc _).alloc _
 have R1:zi W1 (w.heap.size+1) 111 #[.string ⟨#[]⟩,.int .i64 0,.slice none 0 0]:=by rw[hW1];exact(zi.new_at (by simp)).alloc _
 have M1:zi W1 (w.heap.size+2) 111 #[.string (bs n.op),.int .i64 0,.slice none 0 0]:=by rw[hW1];exact zi.new_at (by simp)
 have h1:=(Zu h).keep hb1;have S1:qT cb V w V W1:=qT.of hb1;have HW:=zk hW1;have lcb:=h.has.lt;have hrn:¬V.own cb (w.heap.size+1):=λe=>by have:=(h.low e).2;omega
 have hmn:¬V.own cb (w.heap.size+2):=λe=>by have:=(h.low e).2;omega
 have hot:=zp n.op;have f0:(n.op== [106,111,117,114,110,97,108])=false:=by rw[ho];decide
 have f1:(n.op== [100,101,118,105,99,101])=true:=by rw[ho];decide
 have f2:(n.op== [107,101,121])=false:=by rw[ho];decide
 have f3:(n.op== [114,111,111,116])=false:=by rw[ho];decide
 have f4:(n.op== [118,111,108,117,109,101])=false:=by rw[ho];decide
 have hR:jg c n=if ¬(1≤n.n∧n.n≤2048)then .error (134,n.a)else .ok ({ c with devs:=c.devs++ [n.n.toNat] },⟨n.op,qY c.names [zd],[]⟩):=by
  unfold jg;rw[if_neg (show ¬n.op=zj by rw[ho];decide),if_pos ho]
 clear hW1;by_cases h12:1≤n.n∧n.n≤2048
 ·rw[if_neg (not_not_intro h12)]at hR
  have HR:=zk hR;obtain⟨k1,k2⟩:=h12;clear hR ho;have hny:=zX 134 n.a W1;unfold qa;go_enter Tryz.func65,Tryz.ntmps65;have hah:=xc (h1.alloc (.cells #[.string ⟨#[100,101,118,105,99,101]⟩] 9)) [zd] (.slice (some ⟨W1.heap.size,0,none⟩) 1 1) (.inr ⟨W1.heap.size,rfl,zi.new_at rfl⟩) (by simp)
  obtain⟨CN,hCN⟩:∃CN,CN=qY c.names [zd]:=⟨_,rfl⟩
  have HCN:=zk hCN
  obtain⟨DL,hDL⟩:∃DL,DL=c.devs.length:=⟨_,rfl⟩
  have HDL:=zk hDL;have hdl:DL≤90000:=by rw[hDL];exact hdv
  change Calls _ _ _ _ (λe w'=>e= .returned (.int .i64 (qY c.names [zd]:Nat))∧Below (W1.alloc (.cells #[.string ⟨#[100,101,118,105,99,101]⟩] 9)).heap.size (W1.alloc (.cells #[.string ⟨#[100,101,118,105,99,101]⟩] 9)) w')at hah;rw[←hCN]at hah;clear hCN hDL;have HMM:=zk (λw2 (hb:Below (W1.alloc (.cells #[.string ⟨#[100,101,118,105,99,101]⟩] 9)).heap.size (W1.alloc (.cells #[.string ⟨#[100,101,118,105,99,101]⟩] 9)) w2)=>(zh W1 (.cells #[.string ⟨#[100,101,118,105,99,101]⟩] 9)).trans (hb.mono (by simp)))
  go_wp2_with (first
   |((go_at_call 63)
     (first |rw[←HW.out]|skip)
     refine hny.mono ?_;rintro e w3 ⟨rfl,hw3⟩;(obtain rfl:W1=w3:=hw3.symm))
   |((go_at_call 81)
     refine hah.mono ?_;rintro e w2 ⟨rfl,hb2'⟩;have hb2:=HMM.out w2 hb2';have M2:=M1.below hb2 M1.lt;have m1:=M2.cell 1;have g1:=M2.free 1;(have ml:=M2.lt)))
  have H2:=h1.keep hb2;have S2:=S1.trans (qT.of (cb:=cb) (V:=V) hb2);have N2:=N1.below hb2 N1.lt;have R2:=R1.below hb2 R1.lt;have H3:=H2.other ⟨w.heap.size+2,1,none⟩ hmn (λe=>absurd e.2 (Nat.not_lt.2 (Nat.le_add_right _ _))) (.int .i64 (CN:Nat));have S3:=S2.set (q:=⟨w.heap.size+2,1,none⟩) (by show w.heap.size≤w.heap.size+2;omega) (.int .i64 (CN:Nat));have N3:=N2.other (p:=⟨w.heap.size+2,1,none⟩) (by show w.heap.size≠w.heap.size+2;omega) (.int .i64 (CN:Nat));have R3:=R2.other (p:=⟨w.heap.size+2,1,none⟩) (by show w.heap.size+1≠w.heap.size+2;omega) (.int .i64 (CN:Nat));have M3:zi (w2.setCell ⟨w.heap.size+2,1,none⟩ (.int .i64 (CN:Nat))) (w.heap.size+2) 111 #[.string (bs n.op),.int .i64 (CN:Nat),.slice none 0 0]:=M2.putP 1 _;generalize w2.setCell ⟨w.heap.size+2,1,none⟩ (.int .i64 (CN:Nat))=W3 at *;have c0:=H3.has.cell 0;have n2:=N3.cell 2;simp only[qt,qu,qr]at c0 n2;clear m1 g1 ml hb2 hb2' H2 S2 N2 R2 M2 hah HMM;refine vD (S:=λwz=>wz.cell? ⟨cb,0,none⟩=some V.vd∧wz.cell? ⟨w.heap.size,2,none⟩=some (.int .i64 n.n)) 13 (by kernel_rfl) (⟨c0,n2⟩) (λhHeld=>?_);refine vf 0 (some 65) (.pointer (some ⟨cb,0,none⟩)) hHeld ?_;simp only[Act.put,ze,zg,zf];refine vf 1 (some 66) (.pointer (some ⟨cb,0,none⟩)) hHeld ?_;simp only[Act.put,ze,zg,zf];refine vf 2 (some 67) (.pointer (some ⟨cb,0,none⟩)) hHeld ?_;simp only[Act.put,ze,zg,zf];refine vf 3 (some 68) (.pointer (some ⟨cb,0,none⟩)) hHeld ?_;simp only[Act.put,ze,zg,zf];refine vf 4 (some 69) (.pointer (some ⟨cb,0,none⟩)) hHeld ?_;simp only[Act.put,ze,zg,zf];refine vM 5 (some 70) (V.vd) rfl rfl (λwz hz=>by obtain⟨z0,z1⟩:=hz;unfold execOp;go_simp) hHeld ?_;simp only[Act.put,ze,zg,zf];refine vf 6 (some 71) (.pointer (some ⟨w.heap.size,2,none⟩)) hHeld ?_;simp only[Act.put,ze,zg,zf];refine vM 7 (some 72) (.int .i64 n.n) rfl rfl (λwz hz=>by obtain⟨z0,z1⟩:=hz;unfold execOp;go_simp) hHeld ?_;simp only[Act.put,ze,zg,zf]
  have hS2:(W3.drew.alloc (.cells #[.int .i64 n.n] 3)).cell? ⟨cb,0,none⟩=some V.vd∧(W3.drew.alloc (.cells #[.int .i64 n.n] 3)).cell? ⟨w.heap.size,2,none⟩=some (.int .i64 n.n):=⟨za (zh W3.drew _) hHeld.1,za (zh W3.drew _) hHeld.2⟩
  refine jj 8 (some 73) (.slice (some ⟨W3.heap.size,0,none⟩) 1 1) (W3.drew.alloc (.cells #[.int .i64 n.n] 3)) (by kernel_rfl) rfl rfl (by rfl) (by kernel_rfl) hS2 ?_;simp only[Act.put,ze,zg,zf];have hb4:Below W3.heap.size W3 (W3.drew.alloc (.cells #[.int .i64 n.n] 3)):=(zm (Below.refl _ W3)).trans (zh W3.drew _);have G3:=H3.keep hb4;obtain⟨A6,C6,w6,hr6,hrow6,hg6,hw6⟩:=jq Gi (ty:=29) (W3.drew.alloc (.cells #[.int .i64 n.n] 3)) cb DL _ _ (by have:=G3.devs;rw[←HDL.out]at this;exact this) (by have:=G3.has.lt;omega) (by omega) [.int .i64 n.n] rfl (by intro u hu;simp at hu;subst hu;rfl) W3.heap.size (zi.new_at rfl);have N6:zi w6 w.heap.size 24 #[.string (bs n.op),.string (bs n.s),.int .i64 n.n,.int .i64 n.a,.slice A L C]:=zI ((zn N3).alloc _) hg6 (zD G3.devs ((zn N3).alloc _) (by decide));have R6:zi w6 (w.heap.size+1) 111 #[.string ⟨#[]⟩,.int .i64 0,.slice none 0 0]:=zI ((zn R3).alloc _) hg6 (zD G3.devs ((zn R3).alloc _) (by decide));have M6:=zI ((zn M3).alloc (.cells #[.int .i64 n.n] 3)) hg6 (zD G3.devs ((zn M3).alloc _) (by decide));have cb6h:=zI G3.has hg6 (zD G3.devs G3.has (by decide))
  have hS6:w6.cell? ⟨cb,0,none⟩=some V.vd∧w6.cell? ⟨w.heap.size,2,none⟩=some (.int .i64 n.n):=⟨cb6h.cell 0,N6.cell 2⟩
  refine jj 9 (some 74) (.slice A6 (DL+1) C6) w6 (by kernel_rfl) rfl rfl (by rfl) (zL _ _ rfl rfl rfl hr6) hS6 ?_;simp only[Act.put,ze,zg,zf];refine jj 10 (some 75) (.pointer (some ⟨cb,0,none⟩)) w6 (by kernel_rfl) rfl rfl (by rfl) rfl hS6 ?_;simp only[Act.put,ze,zg,zf];refine jj 11 (some 76) (.pointer (some ⟨cb,0,none⟩)) w6 (by kernel_rfl) rfl rfl (by rfl) rfl hS6 ?_;simp only[Act.put,ze,zg,zf];refine jj 12 (some 77) (.pointer (some ⟨cb,0,none⟩)) w6 (by kernel_rfl) rfl rfl (by rfl) rfl hS6 ?_;simp only[Act.put,ze,zg,zf];have q6:=cb6h.cell 0;have f6:=cb6h.free 0;refine jv 13 none (w6.setCell ⟨cb,0,none⟩ (.slice A6 (DL+1) C6)) (by kernel_rfl) rfl rfl (by rfl) (by unfold execOp;go_simp) (by kernel_rfl) ?_;simp only[Act.put];have hvn:(Value.int .i64 n.n)= .int .i64 ((n.n.toNat:Nat):Int):=by congr 1;omega
  rw[hvn]at hrow6;have hPD:=G3.putDev (A6:=A6) (C6:=C6) (d:=n.n.toNat) hg6 (by have:=hrow6;rw[HDL.out]at this;exact this) (by have:=hw6;rw[HDL.out]at this;exact this) hdv;have H4:zG (λg=>E g∧g<w.heap.size) (w6.setCell ⟨cb,0,none⟩ (.slice A6 (DL+1) C6)) cb { V with vd:= .slice A6 (DL+1) C6 } { c with devs:=c.devs++ [n.n.toNat] }:=by rw[HDL.out];exact hPD.1
  have S4:qT cb V (W3.drew.alloc (.cells #[.int .i64 n.n] 3)) { V with vd:= .slice A6 (DL+1) C6 } (w6.setCell ⟨cb,0,none⟩ (.slice A6 (DL+1) C6)):=by rw[HDL.out];exact hPD.2
  have hrn4:=(S4.inner (w.heap.size+1) (by have:=M3.lt;simp;omega) hrn).2;have S5:=(S3.trans (qT.of (cb:=cb) (V:=V) hb4)).trans S4;have R5:=R6.other (p:=⟨cb,0,none⟩) (by show w.heap.size+1≠cb;omega) (.slice A6 (DL+1) C6);have M5:=M6.other (p:=⟨cb,0,none⟩) (by show w.heap.size+2≠cb;omega) (.slice A6 (DL+1) C6);clear hPD S4;generalize w6.setCell ⟨cb,0,none⟩ (.slice A6 (DL+1) C6)=W5 at *;have m0:=M5.cell 0;have m1:=M5.cell 1;have m2:=M5.cell 2;simp only[qt,qu,qr]at m0 m1 m2;have r0:=R5.cell 0;have r1:=R5.cell 1;have r2:=R5.cell 2;simp only[qt,qu,qr]at r0 r1 r2;have g0:=R5.free 0;have g1:=R5.free 1;have g2:=R5.free 2;have rl:=R5.lt;have mlt:=M5.lt;clear q6 f6 hS6 hS2 hHeld cb6h M6 R6 N6 hrow6 hr6 hg6 hw6 G3 c0 n2 hb4
  go_wp2
  refine Z9 rfl rfl (R5.set3 _ _ _) rfl ?_;have S6:=S5.set3 (g:=w.heap.size+1) (by omega) (.string (bs n.op)) (.int .i64 (CN:Nat)) (.slice none 0 0);have H6:=H4.other3 (w.heap.size+1) hrn4 (λe=>absurd e.2 (Nat.not_lt.2 (Nat.le_add_right _ _))) (.string (bs n.op)) (.int .i64 (CN:Nat)) (.slice none 0 0);refine⟨S6.only,?_⟩;rw[HR.out];exact⟨.slice none 0 0,_,by rw[←HCN.out];rfl,Ky rfl,H6.mono (λg _ _ he=> .inl he.1),S6⟩
 ·rw[if_pos h12]at hR
  have HR:=zk hR;have hno:=qx 134 n.a W1;rcases(by omega:¬1≤n.n∨(1≤n.n∧¬n.n≤2048))with k1|⟨k1,k2⟩
  all_goals
   clear h12 hR ho;unfold qa;go_enter Tryz.func65,Tryz.ntmps65
   go_wp2_with (first
    |((go_at_call 63)
      (first |rw[←HW.out]|skip)
      refine hno.mono ?_;rintro e w3 ⟨rfl,hw3⟩;(obtain rfl:W1=w3:=hw3.symm)))
   exact⟨rfl,S1.only,by rw[HR.out];rfl⟩
end
section
open Go.ChangeShapes Go.WideShapes Go.ChangeAt Go.RowKit Go.MapKept
variable {E:Nat→Prop}
theorem Vk{w:World}{cb:Nat}{V:CV}{c:Ck}(h:zG E w cb V c)(n:Nd)(A:Option Addr)(L C:Nat)(ho:n.op=zj)(hdv:c.devs.length≤90000):
 Calls Tryz.prog 65 #[.pointer (some ⟨cb,0,none⟩),.agg (qa n (.slice A L C))] w (JY E w cb V (jg c n)):=by
 obtain⟨W1,hW1⟩:∃W1,W1=((w.alloc (.cells #[.string (bs n.op),.string (bs n.s),.int .i64 n.n,.int .i64 n.a,.slice A L C] 24)).alloc (.cells #[.string ⟨#[]⟩,.int .i64 0,.slice none 0 0] 111)).alloc (.cells #[.string (bs n.op),.int .i64 0,.slice none 0 0] 111):=⟨_,rfl⟩
 have hb1:Below w.heap.size w W1:=by rw[hW1];exact xL _ _ _
 have N1:zi W1 w.heap.size 24 #[.string (bs n.op),.string (bs n.s),.int .i64 n.n,.int .i64 n.a,.slice A L C]:=by rw[hW1];exact((zi.new w _ _).alloc _).alloc _
 have R1:zi W1 (w.heap.size+1) 111 #[.string ⟨#[]⟩,.int .i64 0,.slice none 0 0]:=by rw[hW1];exact(zi.new_at (by simp)).alloc _
 have M1:zi W1 (w.heap.size+2) 111 #[.string (bs n.op),.int .i64 0,.slice none 0 0]:=by rw[hW1];exact zi.new_at (by simp)
 have h1:=(Zu h).keep hb1;have S1:qT cb V w V W1:=qT.of hb1;have HW:=zk hW1;have lcb:=h.has.lt;have hrn:¬V.own cb (w.heap.size+1):=λe=>by have:=(h.low e).2;omega
 have hmn:¬V.own cb (w.heap.size+2):=λe=>by have:=(h.low e).2;omega
 have hot:=zp n.op;have f0:(n.op== [106,111,117,114,110,97,108])=true:=by rw[ho];decide
 have f1:(n.op== [100,101,118,105,99,101])=false:=by rw[ho];decide
 have f2:(n.op== [107,101,121])=false:=by rw[ho];decide
 have f3:(n.op== [114,111,111,116])=false:=by rw[ho];decide
 have f4:(n.op== [118,111,108,117,109,101])=false:=by rw[ho];decide
 have hR:jg c n=if ¬(256≤n.n∧n.n≤2048)then .error (134,n.a)else if c.jour.isSome then .error (138,n.a)else .ok ({ c with jour:=some c.devs.length,devs:=c.devs++ [n.n.toNat] },⟨n.op,qY c.names [zd],[]⟩):=by
  unfold jg;rw[if_pos ho]
 have c1:=h1.has.cell 1;have nc3:=N1.cell 3;simp only[qt,qu,qr]at c1 nc3;clear hW1;by_cases h12:256≤n.n∧n.n≤2048
 ·rw[if_neg (not_not_intro h12)]at hR
  obtain⟨k1,k2⟩:=h12;have k3:1≤n.n:=by omega
  have hny:=zX 134 n.a W1;cases hx:c.jour with
  |some x0 =>
   have hxe:(jI c.jour== -1)=false:=by
    rw[hx,beq_eq_false_iff_ne];show((x0:Nat):Int)≠ -1;omega
   rw[hx,if_pos (show(some x0).isSome=true from rfl)]at hR;have HR:=zk hR;clear hR ho hx;unfold qa;go_enter Tryz.func65,Tryz.ntmps65
   go_wp2_with (first
    |((go_at_call 63)
      (first |rw[←HW.out]|skip)
      refine hny.mono ?_;rintro e w3 ⟨rfl,hw3⟩;(obtain rfl:W1=w3:=hw3.symm)))
   refine wp_region_held_drew (S:=λwz=>Below W1.heap.size W1 wz) (by kernel_rfl) ((Below.refl _ W1).drew) (λhHeld=>?_);refine zC 0 (some 31) (.pointer (some ⟨cb,0,none⟩)) hHeld ?_;simp only[Act.put,ze,zg,zf];refine zC 1 (some 32) (.pointer (some ⟨cb,0,none⟩)) hHeld ?_;simp only[Act.put,ze,zg,zf];refine zC 2 (some 33) (.pointer (some ⟨cb,0,none⟩)) hHeld ?_;simp only[Act.put,ze,zg,zf];refine zC 3 (some 34) (.pointer (some ⟨cb,1,none⟩)) hHeld ?_;simp only[Act.put,ze,zg,zf];refine zP 4 (some 35) (.int .i64 (jI c.jour)) rfl rfl (λwz hz=>by have z0:=za hz c1;unfold execOp;go_simp) hHeld ?_;simp only[Act.put,ze,zg,zf];refine zP 5 (some 36) (.bool false) rfl rfl (λwz _=>vG _ (-1) rfl (jI c.jour) rfl false hxe wz) hHeld ?_;simp only[Act.put,ze,zg,zf];refine zC 6 (some 37) (.pointer (some ⟨w.heap.size,3,none⟩)) hHeld ?_;simp only[Act.put,ze,zg,zf];refine zP 7 (some 38) (.int .i64 n.a) rfl rfl (λwz hz=>by have z0:=za hz nc3;unfold execOp;go_simp) hHeld ?_;simp only[Act.put,ze,zg,zf];refine qn 8 (some 39) 63 #[.bool false,.int .i64 138,.int .i64 n.a] (by kernel_rfl) rfl rfl (by rfl) (by kernel_rfl) (qx 138 n.a W1.drew) ?_;rintro e w5 ⟨rfl,rfl⟩;refine .inr ⟨_,rfl,?_⟩;exact⟨rfl,S1.only.drew,by rw[HR.out];rfl⟩
  |none =>
   have hxe:(jI c.jour== -1)=true:=by rw[hx];rfl
   rw[hx,if_neg (show ¬(none:Option Nat).isSome=true by decide)]at hR;have HR:=zk hR;clear hR ho hx;unfold qa;go_enter Tryz.func65,Tryz.ntmps65
   go_wp2_with (first
    |((go_at_call 63)
      (first |rw[←HW.out]|skip)
      refine hny.mono ?_;rintro e w3 ⟨rfl,hw3⟩;(obtain rfl:W1=w3:=hw3.symm)))
   refine wp_region_held_drew (S:=λwz=>Below W1.heap.size W1 wz) (by kernel_rfl) ((Below.refl _ W1).drew) (λhHeld=>?_);refine zC 0 (some 31) (.pointer (some ⟨cb,0,none⟩)) hHeld ?_;simp only[Act.put,ze,zg,zf];refine zC 1 (some 32) (.pointer (some ⟨cb,0,none⟩)) hHeld ?_;simp only[Act.put,ze,zg,zf];refine zC 2 (some 33) (.pointer (some ⟨cb,0,none⟩)) hHeld ?_;simp only[Act.put,ze,zg,zf];refine zC 3 (some 34) (.pointer (some ⟨cb,1,none⟩)) hHeld ?_;simp only[Act.put,ze,zg,zf];refine zP 4 (some 35) (.int .i64 (jI c.jour)) rfl rfl (λwz hz=>by have z0:=za hz c1;unfold execOp;go_simp) hHeld ?_;simp only[Act.put,ze,zg,zf];refine zP 5 (some 36) (.bool true) rfl rfl (λwz _=>vG _ (-1) rfl (jI c.jour) rfl true hxe wz) hHeld ?_;simp only[Act.put,ze,zg,zf];refine zC 6 (some 37) (.pointer (some ⟨w.heap.size,3,none⟩)) hHeld ?_;simp only[Act.put,ze,zg,zf];refine zP 7 (some 38) (.int .i64 n.a) rfl rfl (λwz hz=>by have z0:=za hz nc3;unfold execOp;go_simp) hHeld ?_;simp only[Act.put,ze,zg,zf];refine qn 8 (some 39) 63 #[.bool true,.int .i64 138,.int .i64 n.a] (by kernel_rfl) rfl rfl (by rfl) (by kernel_rfl) (zX 138 n.a W1.drew) ?_;rintro e w5 ⟨rfl,rfl⟩;refine .inl ⟨_,rfl,hHeld,?_⟩;simp only[Act.put,ze,zg,zf];refine wpAnyH_done (by kernel_rfl) ?_ _;have hbd:Below W1.heap.size W1 W1.drew:=zm (Below.refl _ W1);have H2:=h1.keep hbd;have S2:=S1.trans (qT.of (cb:=cb) (V:=V) hbd);have N2:=zn N1;have R2:=zn R1;have M2:=zn M1;clear hHeld c1 nc3 h1 S1 N1 R1 M1 hb1 HW hny;generalize W1.drew=W2 at *;obtain⟨Ad,Cd,evd⟩:=H2.vdv;have a0:=H2.has.cell 0;have a1:=H2.has.cell 1;have a1f:=H2.has.free 1;have alt:=H2.has.lt;have a2:=N2.cell 2;have a3:=N2.cell 3;have anl:=N2.lt;simp only[List.getElem?_toArray,List.getElem?_cons_zero,List.getElem?_cons_succ,evd]at a0 a1 a2 a3
   obtain⟨DJ,hDJ⟩:∃DJ,DJ=c.devs.length:=⟨_,rfl⟩
   have HDJ:=zk hDJ;rw[←hDJ]at a0;clear hDJ
   obtain⟨WJ,hWJ⟩:∃WJ,WJ=W2.setCell ⟨cb,1,none⟩ (.int .i64 (DJ:Nat)):=⟨_,rfl⟩
   have hPJ:=H2.put (c':={ c with jour:=some c.devs.length }) 1 (.int .i64 (c.devs.length:Nat)) (H2.has.putP 1 _) rfl rfl rfl;have HJ:zG (λg=>E g∧g<w.heap.size) WJ cb V { c with jour:=some c.devs.length }:=by rw[hWJ,HDJ.out];exact hPJ.1
   have SJ:qT cb V w V WJ:=by rw[hWJ,HDJ.out];exact S2.trans hPJ.2
   have NJ:zi WJ w.heap.size 24 #[.string (bs n.op),.string (bs n.s),.int .i64 n.n,.int .i64 n.a,.slice A L C]:=by rw[hWJ];exact N2.other (p:=⟨cb,1,none⟩) (by show w.heap.size≠cb;omega) _
   have RJ:zi WJ (w.heap.size+1) 111 #[.string ⟨#[]⟩,.int .i64 0,.slice none 0 0]:=by rw[hWJ];exact R2.other (p:=⟨cb,1,none⟩) (by show w.heap.size+1≠cb;omega) _
   have MJ:zi WJ (w.heap.size+2) 111 #[.string (bs n.op),.int .i64 0,.slice none 0 0]:=by rw[hWJ];exact M2.other (p:=⟨cb,1,none⟩) (by show w.heap.size+2≠cb;omega) _
   have HW:=zk hWJ;have hdj:(DJ:Int)≤90000:=by have:=HDJ.out;omega
   clear hPJ N2 R2 M2 S2 H2 hWJ;have hny:=zX 134 n.a WJ;have hah:=xc (HJ.alloc (.cells #[.string ⟨#[100,101,118,105,99,101]⟩] 9)) [zd] (.slice (some ⟨WJ.heap.size,0,none⟩) 1 1) (.inr ⟨WJ.heap.size,rfl,zi.new_at rfl⟩) (by simp)
   obtain⟨CN,hCN⟩:∃CN,CN=qY c.names [zd]:=⟨_,rfl⟩
   have HCN:=zk hCN
   obtain⟨DL,hDL⟩:∃DL,DL=c.devs.length:=⟨_,rfl⟩
   have HDL:=zk hDL;have hdl:DL≤90000:=by rw[hDL];exact hdv
   change Calls _ _ _ _ (λe w'=>e= .returned (.int .i64 (qY c.names [zd]:Nat))∧Below (WJ.alloc (.cells #[.string ⟨#[100,101,118,105,99,101]⟩] 9)).heap.size (WJ.alloc (.cells #[.string ⟨#[100,101,118,105,99,101]⟩] 9)) w')at hah;rw[←hCN]at hah;clear hCN hDL;have HMM:=zk (λw2 (hb:Below (WJ.alloc (.cells #[.string ⟨#[100,101,118,105,99,101]⟩] 9)).heap.size (WJ.alloc (.cells #[.string ⟨#[100,101,118,105,99,101]⟩] 9)) w2)=>(zh WJ (.cells #[.string ⟨#[100,101,118,105,99,101]⟩] 9)).trans (hb.mono (by simp)))
   go_wp2_with (first
    |((go_at_call 63)
      (first |rw[←HW.out]|skip)
      refine hny.mono ?_;rintro e w3 ⟨rfl,hw3⟩;(obtain rfl:WJ=w3:=hw3.symm))
    |((go_at_call 81)
      refine hah.mono ?_;rintro e w2 ⟨rfl,hb2'⟩;have hb2:=HMM.out w2 hb2';have M2:=MJ.below hb2 MJ.lt;have m1:=M2.cell 1;have g1:=M2.free 1;(have ml:=M2.lt)))
   have H2:=HJ.keep hb2;have S2:=SJ.trans (qT.of (cb:=cb) (V:=V) hb2);have N2:=NJ.below hb2 NJ.lt;have R2:=RJ.below hb2 RJ.lt;have H3:=H2.other ⟨w.heap.size+2,1,none⟩ hmn (λe=>absurd e.2 (Nat.not_lt.2 (Nat.le_add_right _ _))) (.int .i64 (CN:Nat));have S3:=S2.set (q:=⟨w.heap.size+2,1,none⟩) (by show w.heap.size≤w.heap.size+2;omega) (.int .i64 (CN:Nat));have N3:=N2.other (p:=⟨w.heap.size+2,1,none⟩) (by show w.heap.size≠w.heap.size+2;omega) (.int .i64 (CN:Nat));have R3:=R2.other (p:=⟨w.heap.size+2,1,none⟩) (by show w.heap.size+1≠w.heap.size+2;omega) (.int .i64 (CN:Nat));have M3:zi (w2.setCell ⟨w.heap.size+2,1,none⟩ (.int .i64 (CN:Nat))) (w.heap.size+2) 111 #[.string (bs n.op),.int .i64 (CN:Nat),.slice none 0 0]:=M2.putP 1 _;generalize w2.setCell ⟨w.heap.size+2,1,none⟩ (.int .i64 (CN:Nat))=W3 at *;have c0:=H3.has.cell 0;have n2:=N3.cell 2;simp only[qt,qu,qr]at c0 n2;clear m1 g1 ml hb2 hb2' H2 S2 N2 R2 M2 hah HMM;refine vD (S:=λwz=>wz.cell? ⟨cb,0,none⟩=some V.vd∧wz.cell? ⟨w.heap.size,2,none⟩=some (.int .i64 n.n)) 13 (by kernel_rfl) (⟨c0,n2⟩) (λhHeld=>?_);refine vf 0 (some 65) (.pointer (some ⟨cb,0,none⟩)) hHeld ?_;simp only[Act.put,ze,zg,zf];refine vf 1 (some 66) (.pointer (some ⟨cb,0,none⟩)) hHeld ?_;simp only[Act.put,ze,zg,zf];refine vf 2 (some 67) (.pointer (some ⟨cb,0,none⟩)) hHeld ?_;simp only[Act.put,ze,zg,zf];refine vf 3 (some 68) (.pointer (some ⟨cb,0,none⟩)) hHeld ?_;simp only[Act.put,ze,zg,zf];refine vf 4 (some 69) (.pointer (some ⟨cb,0,none⟩)) hHeld ?_;simp only[Act.put,ze,zg,zf];refine vM 5 (some 70) (V.vd) rfl rfl (λwz hz=>by obtain⟨z0,z1⟩:=hz;unfold execOp;go_simp) hHeld ?_;simp only[Act.put,ze,zg,zf];refine vf 6 (some 71) (.pointer (some ⟨w.heap.size,2,none⟩)) hHeld ?_;simp only[Act.put,ze,zg,zf];refine vM 7 (some 72) (.int .i64 n.n) rfl rfl (λwz hz=>by obtain⟨z0,z1⟩:=hz;unfold execOp;go_simp) hHeld ?_;simp only[Act.put,ze,zg,zf]
   have hS2:(W3.drew.alloc (.cells #[.int .i64 n.n] 3)).cell? ⟨cb,0,none⟩=some V.vd∧(W3.drew.alloc (.cells #[.int .i64 n.n] 3)).cell? ⟨w.heap.size,2,none⟩=some (.int .i64 n.n):=⟨za (zh W3.drew _) hHeld.1,za (zh W3.drew _) hHeld.2⟩
   refine jj 8 (some 73) (.slice (some ⟨W3.heap.size,0,none⟩) 1 1) (W3.drew.alloc (.cells #[.int .i64 n.n] 3)) (by kernel_rfl) rfl rfl (by rfl) (by kernel_rfl) hS2 ?_;simp only[Act.put,ze,zg,zf];have hb4:Below W3.heap.size W3 (W3.drew.alloc (.cells #[.int .i64 n.n] 3)):=(zm (Below.refl _ W3)).trans (zh W3.drew _);have G3:=H3.keep hb4;obtain⟨A6,C6,w6,hr6,hrow6,hg6,hw6⟩:=jq Gi (ty:=29) (W3.drew.alloc (.cells #[.int .i64 n.n] 3)) cb DL _ _ (by have:=G3.devs;rw[←HDL.out]at this;exact this) (by have:=G3.has.lt;omega) (by omega) [.int .i64 n.n] rfl (by intro u hu;simp at hu;subst hu;rfl) W3.heap.size (zi.new_at rfl);have N6:zi w6 w.heap.size 24 #[.string (bs n.op),.string (bs n.s),.int .i64 n.n,.int .i64 n.a,.slice A L C]:=zI ((zn N3).alloc _) hg6 (zD G3.devs ((zn N3).alloc _) (by decide));have R6:zi w6 (w.heap.size+1) 111 #[.string ⟨#[]⟩,.int .i64 0,.slice none 0 0]:=zI ((zn R3).alloc _) hg6 (zD G3.devs ((zn R3).alloc _) (by decide));have M6:=zI ((zn M3).alloc (.cells #[.int .i64 n.n] 3)) hg6 (zD G3.devs ((zn M3).alloc _) (by decide));have cb6h:=zI G3.has hg6 (zD G3.devs G3.has (by decide))
   have hS6:w6.cell? ⟨cb,0,none⟩=some V.vd∧w6.cell? ⟨w.heap.size,2,none⟩=some (.int .i64 n.n):=⟨cb6h.cell 0,N6.cell 2⟩
   refine jj 9 (some 74) (.slice A6 (DL+1) C6) w6 (by kernel_rfl) rfl rfl (by rfl) (zL _ _ rfl rfl rfl hr6) hS6 ?_;simp only[Act.put,ze,zg,zf];refine jj 10 (some 75) (.pointer (some ⟨cb,0,none⟩)) w6 (by kernel_rfl) rfl rfl (by rfl) rfl hS6 ?_;simp only[Act.put,ze,zg,zf];refine jj 11 (some 76) (.pointer (some ⟨cb,0,none⟩)) w6 (by kernel_rfl) rfl rfl (by rfl) rfl hS6 ?_;simp only[Act.put,ze,zg,zf];refine jj 12 (some 77) (.pointer (some ⟨cb,0,none⟩)) w6 (by kernel_rfl) rfl rfl (by rfl) rfl hS6 ?_;simp only[Act.put,ze,zg,zf];have q6:=cb6h.cell 0;have f6:=cb6h.free 0;refine jv 13 none (w6.setCell ⟨cb,0,none⟩ (.slice A6 (DL+1) C6)) (by kernel_rfl) rfl rfl (by rfl) (by unfold execOp;go_simp) (by kernel_rfl) ?_;simp only[Act.put];have hvn:(Value.int .i64 n.n)= .int .i64 ((n.n.toNat:Nat):Int):=by congr 1;omega
   rw[hvn]at hrow6;have hPD:=G3.putDev (A6:=A6) (C6:=C6) (d:=n.n.toNat) hg6 (by have:=hrow6;rw[HDL.out]at this;exact this) (by have:=hw6;rw[HDL.out]at this;exact this) hdv;have H4:zG (λg=>E g∧g<w.heap.size) (w6.setCell ⟨cb,0,none⟩ (.slice A6 (DL+1) C6)) cb { V with vd:= .slice A6 (DL+1) C6 } { c with jour:=some c.devs.length,devs:=c.devs++ [n.n.toNat] }:=by rw[HDL.out];exact hPD.1
   have S4:qT cb V (W3.drew.alloc (.cells #[.int .i64 n.n] 3)) { V with vd:= .slice A6 (DL+1) C6 } (w6.setCell ⟨cb,0,none⟩ (.slice A6 (DL+1) C6)):=by rw[HDL.out];exact hPD.2
   have hrn4:=(S4.inner (w.heap.size+1) (by have:=M3.lt;simp;omega) hrn).2;have S5:=(S3.trans (qT.of (cb:=cb) (V:=V) hb4)).trans S4;have R5:=R6.other (p:=⟨cb,0,none⟩) (by show w.heap.size+1≠cb;omega) (.slice A6 (DL+1) C6);have M5:=M6.other (p:=⟨cb,0,none⟩) (by show w.heap.size+2≠cb;omega) (.slice A6 (DL+1) C6);clear hPD S4;generalize w6.setCell ⟨cb,0,none⟩ (.slice A6 (DL+1) C6)=W5 at *;have m0:=M5.cell 0;have m1:=M5.cell 1;have m2:=M5.cell 2;simp only[qt,qu,qr]at m0 m1 m2;have r0:=R5.cell 0;have r1:=R5.cell 1;have r2:=R5.cell 2;simp only[qt,qu,qr]at r0 r1 r2;have g0:=R5.free 0;have g1:=R5.free 1;have g2:=R5.free 2;have rl:=R5.lt;have mlt:=M5.lt;clear q6 f6 hS6 hS2 hHeld cb6h M6 R6 N6 hrow6 hr6 hg6 hw6 G3 c0 n2 hb4
   go_wp2
   refine Z9 rfl rfl (R5.set3 _ _ _) rfl ?_;have S6:=S5.set3 (g:=w.heap.size+1) (by omega) (.string (bs n.op)) (.int .i64 (CN:Nat)) (.slice none 0 0);have H6:=H4.other3 (w.heap.size+1) hrn4 (λe=>absurd e.2 (Nat.not_lt.2 (Nat.le_add_right _ _))) (.string (bs n.op)) (.int .i64 (CN:Nat)) (.slice none 0 0);refine⟨S6.only,?_⟩;rw[HR.out];exact⟨.slice none 0 0,_,by rw[←HCN.out];rfl,Ky rfl,H6.mono (λg _ _ he=> .inl he.1),S6⟩
 ·rw[if_pos h12]at hR
  have HR:=zk hR;have hno:=qx 134 n.a W1;rcases(by omega:¬256≤n.n∨(256≤n.n∧¬n.n≤2048))with k1|⟨k1,k2⟩
  all_goals
   clear h12 hR ho c1 nc3;unfold qa;go_enter Tryz.func65,Tryz.ntmps65
   go_wp2_with (first
    |((go_at_call 63)
      (first |rw[←HW.out]|skip)
      refine hno.mono ?_;rintro e w3 ⟨rfl,hw3⟩;(obtain rfl:W1=w3:=hw3.symm)))
   exact⟨rfl,S1.only,by rw[HR.out];rfl⟩
end
section
open Go.ChangeShapes Go.WideShapes Go.ChangeAt Go.RowKit Go.MapKept
variable {E:Nat→Prop}
theorem GC{w:World}{cb:Nat}{V:CV}{c:Ck}(h:zG E w cb V c)(n:Nd)(A:Option Addr)(L C:Nat)(hL:L=1)(gn on:Nat)(hA:A=some ⟨gn,on,none⟩)(hgn:gn<w.heap.size)(x:List UInt8)(hnx:(jA n.l 0).s=x)(hsx:w.cell? ⟨gn,on+0*5+1,none⟩=some (.string (bs x)))(hf:∀c ∈ x,zo c=true)(ho:n.op=qj):
 Calls Tryz.prog 65 #[.pointer (some ⟨cb,0,none⟩),.agg (qa n (.slice A L C))] w (JY E w cb V (jg c n)):=by
 obtain⟨W1,hW1⟩:∃W1,W1=((w.alloc (.cells #[.string (bs n.op),.string (bs n.s),.int .i64 n.n,.int .i64 n.a,.slice A L C] 24)).alloc (.cells #[.string ⟨#[]⟩,.int .i64 0,.slice none 0 0] 111)).alloc (.cells #[.string (bs n.op),.int .i64 0,.slice none 0 0] 111):=⟨_,rfl⟩
 have hb1:Below w.heap.size w W1:=by rw[hW1];exact xL _ _ _
 have N1:zi W1 w.heap.size 24 #[.string (bs n.op),.string (bs n.s),.int .i64 n.n,.int .i64 n.a,.slice A L C]:=by rw[hW1];exact((zi.new w _ _).alloc _).alloc _
 have R1:zi W1 (w.heap.size+1) 111 #[.string ⟨#[]⟩,.int .i64 0,.slice none 0 0]:=by rw[hW1];exact(zi.new_at (by simp)).alloc _
 have M1:zi W1 (w.heap.size+2) 111 #[.string (bs n.op),.int .i64 0,.slice none 0 0]:=by rw[hW1];exact zi.new_at (by simp)
 have h1:=(Zu h).keep hb1;have S1:qT cb V w V W1:=qT.of hb1;have HW:=zk hW1;have lcb:=h.has.lt;have hrn:¬V.own cb (w.heap.size+1):=λe=>by have:=(h.low e).2;omega
 have hmn:¬V.own cb (w.heap.size+2):=λe=>by have:=(h.low e).2;omega
 have hot:=zp n.op;have f0:(n.op== [106,111,117,114,110,97,108])=false:=by rw[ho];decide
 have f1:(n.op== [100,101,118,105,99,101])=false:=by rw[ho];decide
 have f2:(n.op== [107,101,121])=true:=by rw[ho];decide
 have f3:(n.op== [114,111,111,116])=false:=by rw[ho];decide
 have f4:(n.op== [118,111,108,117,109,101])=false:=by rw[ho];decide
 have hR:jg c n=if x.length≠64 then .error (135,n.a)else .ok (c,⟨n.op,0,jZ x⟩):=by
  unfold jg;rw[if_neg (show ¬n.op=zj by rw[ho];decide),if_neg (show ¬n.op=zd by rw[ho];decide),if_pos (show n.op=qj∨n.op=zS by first |exact .inl ho|exact .inr ho),hnx]
 subst hL hA;have sxr:=za hb1 hsx;have nc4:=N1.cell 4;have nc3:=N1.cell 3;simp only[qt,qu,qr]at nc3 nc4
 obtain⟨X,hX⟩:∃X,X=x.length:=⟨_,rfl⟩
 have HX:=zk (show(bs x).size=X by rw[hX];exact zs x);have hxs:=zp x;clear hW1;by_cases h64:x.length=64
 ·have hX64:(((X:Nat):Int)==64)=true:=by rw[hX,h64];rfl
  rw[if_neg (not_not_intro h64)]at hR;have HR:=zk hR;have HU:=zk (λW=>KR x W h64 hf);have HUL:=zk (Zp 32 x (by omega));clear hR ho hX h64;unfold qa;go_enter Tryz.func65,Tryz.ntmps65
  go_wp2
  rw[←HW.out];refine wp_region_held_drew (S:=λwz=>Below W1.heap.size W1 wz) (by kernel_rfl) ((Below.refl _ W1).drew) (λhHeld=>?_);refine zC 0 (some 78) (.pointer (some ⟨w.heap.size,4,none⟩)) hHeld ?_;simp only[Act.put,ze,zg,zf];refine zP 1 (some 79) (.slice (some ⟨gn,on,none⟩) 1 C) rfl rfl (λwz hz=>by have z0:=za hz nc4;unfold execOp;go_simp) hHeld ?_;simp only[Act.put,ze,zg,zf];refine zP 2 (some 80) (.pointer (some ⟨gn,on+0*5,none⟩)) rfl rfl (λwz _=>zK _ _ rfl gn on 0 1 C rfl rfl (by decide) wz) hHeld ?_;simp only[Act.put,ze,zg,zf];refine zC 3 (some 81) (.pointer (some ⟨gn,on+0*5+1,none⟩)) hHeld ?_;simp only[Act.put,ze,zg,zf];refine zP 4 (some 82) (.string (bs x)) rfl rfl (λwz hz=>by have z0:=za hz sxr;unfold execOp;go_simp) hHeld ?_;simp only[Act.put,ze,zg,zf];refine zP 5 (some 83) (.int .i64 (X:Nat)) rfl rfl (λwz _=>by unfold execOp;go_simp;rw[HX.out]) hHeld ?_;simp only[Act.put,ze,zg,zf];refine zP 6 (some 84) (.bool true) rfl rfl (λwz _=>vG _ 64 rfl (X:Nat) rfl true hX64 wz) hHeld ?_;simp only[Act.put,ze,zg,zf];refine zC 7 (some 85) (.pointer (some ⟨w.heap.size,3,none⟩)) hHeld ?_;simp only[Act.put,ze,zg,zf];refine zP 8 (some 86) (.int .i64 n.a) rfl rfl (λwz hz=>by have z0:=za hz nc3;unfold execOp;go_simp) hHeld ?_;simp only[Act.put,ze,zg,zf];refine qn 9 (some 87) 63 #[.bool true,.int .i64 135,.int .i64 n.a] (by kernel_rfl) rfl rfl (by rfl) (by kernel_rfl) (zX 135 n.a W1.drew) ?_;rintro e w5 ⟨rfl,rfl⟩;refine .inl ⟨_,rfl,hHeld,?_⟩;simp only[Act.put,ze,zg,zf];refine wpAnyH_done (by kernel_rfl) ?_ _;have hbd:Below W1.heap.size W1 W1.drew:=zm (Below.refl _ W1);have H2:=h1.keep hbd;have S2:=S1.trans (qT.of (cb:=cb) (V:=V) hbd);have N2:=zn N1;have R2:=zn R1;have M2:=zn M1;replace sxr:=za hbd sxr;replace nc4:=za hbd nc4;have hg2:gn<W1.drew.heap.size:=Nat.lt_of_lt_of_le hgn (Nat.le_trans hb1.size hbd.size);clear hHeld nc3 h1 S1 N1 R1 M1 hb1 HW hbd;generalize W1.drew=W2 at *;have nl2:=N2.lt;have hux:=HU.out W2
  go_wp2_with (first
   |((refine zb 90 rfl ?_)
     (refine zc (some 90) (.pointer (some ⟨gn,on+0*5,none⟩)) rfl (by rfl) (zK _ _ rfl gn on 0 1 C rfl rfl (by decide) W2) ?_))
   |((go_at_call 82)
     refine hux.mono ?_;rintro e w5 ⟨v,rfl,⟨Av,Cv,rfl,hv1,hv2,hvb⟩,hb5⟩;rw[HUL.out]at hv1 ⊢;have M5:=M2.below hb5 M2.lt;have R5:=R2.below hb5 R2.lt;have m0:=M5.cell 0;have m1:=M5.cell 1;have m2:=M5.cell 2;have r0:=R5.cell 0;have r1:=R5.cell 1;have r2:=R5.cell 2;simp only[qt,qu,qr]at m0 m1 m2 r0 r1 r2;have mf:=M5.free 2;have ml:=M5.lt;have g0:=R5.free 0;have g1:=R5.free 1;have g2:=R5.free 2;(have rl:=R5.lt)))
  have H5:=H2.keep hb5;have S5:=S2.trans (qT.of (cb:=cb) (V:=V) hb5);have H6:=H5.other ⟨w.heap.size+2,2,none⟩ hmn (λe=>absurd e.2 (Nat.not_lt.2 (Nat.le_add_right _ _))) (.slice Av 32 Cv);have S6:=S5.set (q:=⟨w.heap.size+2,2,none⟩) (by show w.heap.size≤w.heap.size+2;omega) (.slice Av 32 Cv);have R6:=R5.other (p:=⟨w.heap.size+2,2,none⟩) (by show w.heap.size+1≠w.heap.size+2;omega) (.slice Av 32 Cv);have rl2:=M2.lt;have hvb6:ya (w5.setCell ⟨w.heap.size+2,2,none⟩ (.slice Av 32 Cv)) (λg=>W2.heap.size≤g) Av (jZ x):=hvb.keep (by simp) (λk hk hP=>⟨Below.heap_setCell w5 _ _ k (by show k≠w.heap.size+2;omega),hP⟩);refine Z9 rfl rfl (R6.set3 _ _ _) rfl ?_;have S7:=S6.set3 (g:=w.heap.size+1) (by omega) (.string (bs n.op)) (.int .i64 0) (.slice Av 32 Cv);have H7:=H6.other3 (w.heap.size+1) hrn (λe=>absurd e.2 (Nat.not_lt.2 (Nat.le_add_right _ _))) (.string (bs n.op)) (.int .i64 0) (.slice Av 32 Cv);refine⟨S7.only,?_⟩;rw[HR.out];refine⟨.slice Av 32 Cv,V,rfl,⟨Av,Cv,by rw[HUL.out],by rw[HUL.out];exact hv1,hv2,?_⟩,H7.mono (λg _ _ he=> .inl he.1),S7⟩;refine hvb6.keep (by simp) (λk hk hP=>⟨?_,λe=>?_,.inr ?_⟩)
  ·have hne:k≠w.heap.size+1:=by omega
   exact(Below.heap_setCell _ ⟨w.heap.size+1,2,none⟩ _ k hne).trans ((Below.heap_setCell _ ⟨w.heap.size+1,1,none⟩ _ k hne).trans (Below.heap_setCell _ ⟨w.heap.size+1,0,none⟩ _ k hne))
  ·have:=(h.low e).2;omega
  ·omega
 ·have hX64:(((X:Nat):Int)==64)=false:=by rw[beq_eq_false_iff_ne];omega
  rw[if_pos h64]at hR;have HR:=zk hR;clear hR ho hX;unfold qa;go_enter Tryz.func65,Tryz.ntmps65
  go_wp2
  rw[←HW.out];refine wp_region_held_drew (S:=λwz=>Below W1.heap.size W1 wz) (by kernel_rfl) ((Below.refl _ W1).drew) (λhHeld=>?_);refine zC 0 (some 78) (.pointer (some ⟨w.heap.size,4,none⟩)) hHeld ?_;simp only[Act.put,ze,zg,zf];refine zP 1 (some 79) (.slice (some ⟨gn,on,none⟩) 1 C) rfl rfl (λwz hz=>by have z0:=za hz nc4;unfold execOp;go_simp) hHeld ?_;simp only[Act.put,ze,zg,zf];refine zP 2 (some 80) (.pointer (some ⟨gn,on+0*5,none⟩)) rfl rfl (λwz _=>zK _ _ rfl gn on 0 1 C rfl rfl (by decide) wz) hHeld ?_;simp only[Act.put,ze,zg,zf];refine zC 3 (some 81) (.pointer (some ⟨gn,on+0*5+1,none⟩)) hHeld ?_;simp only[Act.put,ze,zg,zf];refine zP 4 (some 82) (.string (bs x)) rfl rfl (λwz hz=>by have z0:=za hz sxr;unfold execOp;go_simp) hHeld ?_;simp only[Act.put,ze,zg,zf];refine zP 5 (some 83) (.int .i64 (X:Nat)) rfl rfl (λwz _=>by unfold execOp;go_simp;rw[HX.out]) hHeld ?_;simp only[Act.put,ze,zg,zf];refine zP 6 (some 84) (.bool false) rfl rfl (λwz _=>vG _ 64 rfl (X:Nat) rfl false hX64 wz) hHeld ?_;simp only[Act.put,ze,zg,zf];refine zC 7 (some 85) (.pointer (some ⟨w.heap.size,3,none⟩)) hHeld ?_;simp only[Act.put,ze,zg,zf];refine zP 8 (some 86) (.int .i64 n.a) rfl rfl (λwz hz=>by have z0:=za hz nc3;unfold execOp;go_simp) hHeld ?_;simp only[Act.put,ze,zg,zf];refine qn 9 (some 87) 63 #[.bool false,.int .i64 135,.int .i64 n.a] (by kernel_rfl) rfl rfl (by rfl) (by kernel_rfl) (qx 135 n.a W1.drew) ?_;rintro e w5 ⟨rfl,rfl⟩;refine .inr ⟨_,rfl,?_⟩;exact⟨rfl,S1.only.drew,by rw[HR.out];rfl⟩
theorem kN{w:World}{cb:Nat}{V:CV}{c:Ck}(h:zG E w cb V c)(n:Nd)(A:Option Addr)(L C:Nat)(hL:L=1)(gn on:Nat)(hA:A=some ⟨gn,on,none⟩)(hgn:gn<w.heap.size)(x:List UInt8)(hnx:(jA n.l 0).s=x)(hsx:w.cell? ⟨gn,on+0*5+1,none⟩=some (.string (bs x)))(hf:∀c ∈ x,zo c=true)(ho:n.op=zS):
 Calls Tryz.prog 65 #[.pointer (some ⟨cb,0,none⟩),.agg (qa n (.slice A L C))] w (JY E w cb V (jg c n)):=by
 obtain⟨W1,hW1⟩:∃W1,W1=((w.alloc (.cells #[.string (bs n.op),.string (bs n.s),.int .i64 n.n,.int .i64 n.a,.slice A L C] 24)).alloc (.cells #[.string ⟨#[]⟩,.int .i64 0,.slice none 0 0] 111)).alloc (.cells #[.string (bs n.op),.int .i64 0,.slice none 0 0] 111):=⟨_,rfl⟩
 have hb1:Below w.heap.size w W1:=by rw[hW1];exact xL _ _ _
 have N1:zi W1 w.heap.size 24 #[.string (bs n.op),.string (bs n.s),.int .i64 n.n,.int .i64 n.a,.slice A L C]:=by rw[hW1];exact((zi.new w _ _).alloc _).alloc _
 have R1:zi W1 (w.heap.size+1) 111 #[.string ⟨#[]⟩,.int .i64 0,.slice none 0 0]:=by rw[hW1];exact(zi.new_at (by simp)).alloc _
 have M1:zi W1 (w.heap.size+2) 111 #[.string (bs n.op),.int .i64 0,.slice none 0 0]:=by rw[hW1];exact zi.new_at (by simp)
 have h1:=(Zu h).keep hb1;have S1:qT cb V w V W1:=qT.of hb1;have HW:=zk hW1;have lcb:=h.has.lt;have hrn:¬V.own cb (w.heap.size+1):=λe=>by have:=(h.low e).2;omega
 have hmn:¬V.own cb (w.heap.size+2):=λe=>by have:=(h.low e).2;omega
 have hot:=zp n.op;have f0:(n.op== [106,111,117,114,110,97,108])=false:=by rw[ho];decide
 have f1:(n.op== [100,101,118,105,99,101])=false:=by rw[ho];decide
 have f2:(n.op== [107,101,121])=false:=by rw[ho];decide
 have f3:(n.op== [114,111,111,116])=true:=by rw[ho];decide
 have f4:(n.op== [118,111,108,117,109,101])=false:=by rw[ho];decide
 have hR:jg c n=if x.length≠64 then .error (135,n.a)else .ok (c,⟨n.op,0,jZ x⟩):=by
  unfold jg;rw[if_neg (show ¬n.op=zj by rw[ho];decide),if_neg (show ¬n.op=zd by rw[ho];decide),if_pos (show n.op=qj∨n.op=zS by first |exact .inl ho|exact .inr ho),hnx]
 subst hL hA;have sxr:=za hb1 hsx;have nc4:=N1.cell 4;have nc3:=N1.cell 3;simp only[qt,qu,qr]at nc3 nc4
 obtain⟨X,hX⟩:∃X,X=x.length:=⟨_,rfl⟩
 have HX:=zk (show(bs x).size=X by rw[hX];exact zs x);have hxs:=zp x;clear hW1;by_cases h64:x.length=64
 ·have hX64:(((X:Nat):Int)==64)=true:=by rw[hX,h64];rfl
  rw[if_neg (not_not_intro h64)]at hR;have HR:=zk hR;have HU:=zk (λW=>KR x W h64 hf);have HUL:=zk (Zp 32 x (by omega));clear hR ho hX h64;unfold qa;go_enter Tryz.func65,Tryz.ntmps65
  go_wp2
  rw[←HW.out];refine wp_region_held_drew (S:=λwz=>Below W1.heap.size W1 wz) (by kernel_rfl) ((Below.refl _ W1).drew) (λhHeld=>?_);refine zC 0 (some 78) (.pointer (some ⟨w.heap.size,4,none⟩)) hHeld ?_;simp only[Act.put,ze,zg,zf];refine zP 1 (some 79) (.slice (some ⟨gn,on,none⟩) 1 C) rfl rfl (λwz hz=>by have z0:=za hz nc4;unfold execOp;go_simp) hHeld ?_;simp only[Act.put,ze,zg,zf];refine zP 2 (some 80) (.pointer (some ⟨gn,on+0*5,none⟩)) rfl rfl (λwz _=>zK _ _ rfl gn on 0 1 C rfl rfl (by decide) wz) hHeld ?_;simp only[Act.put,ze,zg,zf];refine zC 3 (some 81) (.pointer (some ⟨gn,on+0*5+1,none⟩)) hHeld ?_;simp only[Act.put,ze,zg,zf];refine zP 4 (some 82) (.string (bs x)) rfl rfl (λwz hz=>by have z0:=za hz sxr;unfold execOp;go_simp) hHeld ?_;simp only[Act.put,ze,zg,zf];refine zP 5 (some 83) (.int .i64 (X:Nat)) rfl rfl (λwz _=>by unfold execOp;go_simp;rw[HX.out]) hHeld ?_;simp only[Act.put,ze,zg,zf];refine zP 6 (some 84) (.bool true) rfl rfl (λwz _=>vG _ 64 rfl (X:Nat) rfl true hX64 wz) hHeld ?_;simp only[Act.put,ze,zg,zf];refine zC 7 (some 85) (.pointer (some ⟨w.heap.size,3,none⟩)) hHeld ?_;simp only[Act.put,ze,zg,zf];refine zP 8 (some 86) (.int .i64 n.a) rfl rfl (λwz hz=>by have z0:=za hz nc3;unfold execOp;go_simp) hHeld ?_;simp only[Act.put,ze,zg,zf];refine qn 9 (some 87) 63 #[.bool true,.int .i64 135,.int .i64 n.a] (by kernel_rfl) rfl rfl (by rfl) (by kernel_rfl) (zX 135 n.a W1.drew) ?_;rintro e w5 ⟨rfl,rfl⟩;refine .inl ⟨_,rfl,hHeld,?_⟩;simp only[Act.put,ze,zg,zf];refine wpAnyH_done (by kernel_rfl) ?_ _;have hbd:Below W1.heap.size W1 W1.drew:=zm (Below.refl _ W1);have H2:=h1.keep hbd;have S2:=S1.trans (qT.of (cb:=cb) (V:=V) hbd);have N2:=zn N1;have R2:=zn R1;have M2:=zn M1;replace sxr:=za hbd sxr;replace nc4:=za hbd nc4;have hg2:gn<W1.drew.heap.size:=Nat.lt_of_lt_of_le hgn (Nat.le_trans hb1.size hbd.size);clear hHeld nc3 h1 S1 N1 R1 M1 hb1 HW hbd;generalize W1.drew=W2 at *;have nl2:=N2.lt;have hux:=HU.out W2
  go_wp2_with (first
   |((refine zb 90 rfl ?_)
     (refine zc (some 90) (.pointer (some ⟨gn,on+0*5,none⟩)) rfl (by rfl) (zK _ _ rfl gn on 0 1 C rfl rfl (by decide) W2) ?_))
   |((go_at_call 82)
     refine hux.mono ?_;rintro e w5 ⟨v,rfl,⟨Av,Cv,rfl,hv1,hv2,hvb⟩,hb5⟩;rw[HUL.out]at hv1 ⊢;have M5:=M2.below hb5 M2.lt;have R5:=R2.below hb5 R2.lt;have m0:=M5.cell 0;have m1:=M5.cell 1;have m2:=M5.cell 2;have r0:=R5.cell 0;have r1:=R5.cell 1;have r2:=R5.cell 2;simp only[qt,qu,qr]at m0 m1 m2 r0 r1 r2;have mf:=M5.free 2;have ml:=M5.lt;have g0:=R5.free 0;have g1:=R5.free 1;have g2:=R5.free 2;(have rl:=R5.lt)))
  have H5:=H2.keep hb5;have S5:=S2.trans (qT.of (cb:=cb) (V:=V) hb5);have H6:=H5.other ⟨w.heap.size+2,2,none⟩ hmn (λe=>absurd e.2 (Nat.not_lt.2 (Nat.le_add_right _ _))) (.slice Av 32 Cv);have S6:=S5.set (q:=⟨w.heap.size+2,2,none⟩) (by show w.heap.size≤w.heap.size+2;omega) (.slice Av 32 Cv);have R6:=R5.other (p:=⟨w.heap.size+2,2,none⟩) (by show w.heap.size+1≠w.heap.size+2;omega) (.slice Av 32 Cv);have rl2:=M2.lt;have hvb6:ya (w5.setCell ⟨w.heap.size+2,2,none⟩ (.slice Av 32 Cv)) (λg=>W2.heap.size≤g) Av (jZ x):=hvb.keep (by simp) (λk hk hP=>⟨Below.heap_setCell w5 _ _ k (by show k≠w.heap.size+2;omega),hP⟩);refine Z9 rfl rfl (R6.set3 _ _ _) rfl ?_;have S7:=S6.set3 (g:=w.heap.size+1) (by omega) (.string (bs n.op)) (.int .i64 0) (.slice Av 32 Cv);have H7:=H6.other3 (w.heap.size+1) hrn (λe=>absurd e.2 (Nat.not_lt.2 (Nat.le_add_right _ _))) (.string (bs n.op)) (.int .i64 0) (.slice Av 32 Cv);refine⟨S7.only,?_⟩;rw[HR.out];refine⟨.slice Av 32 Cv,V,rfl,⟨Av,Cv,by rw[HUL.out],by rw[HUL.out];exact hv1,hv2,?_⟩,H7.mono (λg _ _ he=> .inl he.1),S7⟩;refine hvb6.keep (by simp) (λk hk hP=>⟨?_,λe=>?_,.inr ?_⟩)
  ·have hne:k≠w.heap.size+1:=by omega
   exact(Below.heap_setCell _ ⟨w.heap.size+1,2,none⟩ _ k hne).trans ((Below.heap_setCell _ ⟨w.heap.size+1,1,none⟩ _ k hne).trans (Below.heap_setCell _ ⟨w.heap.size+1,0,none⟩ _ k hne))
  ·have:=(h.low e).2;omega
  ·omega
 ·have hX64:(((X:Nat):Int)==64)=false:=by rw[beq_eq_false_iff_ne];omega
  rw[if_pos h64]at hR;have HR:=zk hR;clear hR ho hX;unfold qa;go_enter Tryz.func65,Tryz.ntmps65
  go_wp2
  rw[←HW.out];refine wp_region_held_drew (S:=λwz=>Below W1.heap.size W1 wz) (by kernel_rfl) ((Below.refl _ W1).drew) (λhHeld=>?_);refine zC 0 (some 78) (.pointer (some ⟨w.heap.size,4,none⟩)) hHeld ?_;simp only[Act.put,ze,zg,zf];refine zP 1 (some 79) (.slice (some ⟨gn,on,none⟩) 1 C) rfl rfl (λwz hz=>by have z0:=za hz nc4;unfold execOp;go_simp) hHeld ?_;simp only[Act.put,ze,zg,zf];refine zP 2 (some 80) (.pointer (some ⟨gn,on+0*5,none⟩)) rfl rfl (λwz _=>zK _ _ rfl gn on 0 1 C rfl rfl (by decide) wz) hHeld ?_;simp only[Act.put,ze,zg,zf];refine zC 3 (some 81) (.pointer (some ⟨gn,on+0*5+1,none⟩)) hHeld ?_;simp only[Act.put,ze,zg,zf];refine zP 4 (some 82) (.string (bs x)) rfl rfl (λwz hz=>by have z0:=za hz sxr;unfold execOp;go_simp) hHeld ?_;simp only[Act.put,ze,zg,zf];refine zP 5 (some 83) (.int .i64 (X:Nat)) rfl rfl (λwz _=>by unfold execOp;go_simp;rw[HX.out]) hHeld ?_;simp only[Act.put,ze,zg,zf];refine zP 6 (some 84) (.bool false) rfl rfl (λwz _=>vG _ 64 rfl (X:Nat) rfl false hX64 wz) hHeld ?_;simp only[Act.put,ze,zg,zf];refine zC 7 (some 85) (.pointer (some ⟨w.heap.size,3,none⟩)) hHeld ?_;simp only[Act.put,ze,zg,zf];refine zP 8 (some 86) (.int .i64 n.a) rfl rfl (λwz hz=>by have z0:=za hz nc3;unfold execOp;go_simp) hHeld ?_;simp only[Act.put,ze,zg,zf];refine qn 9 (some 87) 63 #[.bool false,.int .i64 135,.int .i64 n.a] (by kernel_rfl) rfl rfl (by rfl) (by kernel_rfl) (qx 135 n.a W1.drew) ?_;rintro e w5 ⟨rfl,rfl⟩;refine .inr ⟨_,rfl,?_⟩;exact⟨rfl,S1.only.drew,by rw[HR.out];rfl⟩
end
section
open Go.ChangeShapes Go.WideShapes Go.ChangeAt Go.RowKit Go.MapKept
variable {E:Nat→Prop}
theorem Ym{w:World}{cb:Nat}{V:CV}{c:Ck}(h:zG E w cb V c)(n:Nd)(A:Option Addr)(L C:Nat)(hL:L=1)(w0:World)(gn on:Nat)(hA:A=some ⟨gn,on,none⟩)(hgn:gn<w.heap.size)(x:Nd)(An:Option Addr)(Cn:Nat)(hnx:jA n.l 0=x)(hat:QK w gn (on+0*5) x An Cn)(hrx:j0 w0 x An Cn)(hcb:w0.heap.size≤cb-1)(hb0:Below w0.heap.size w0 w)(hxr:U6 12 x)(hxc:UZ cb w0 12)(hnm:vI c.names c.parts)(hby:∀x ∈ c.names,x.2.bytes.length≤1000)(ho:n.op=zr):
 Calls Tryz.prog 65 #[.pointer (some ⟨cb,0,none⟩),.agg (qa n (.slice A L C))] w (JY E w cb V (jg c n)):=by
 obtain⟨W1,hW1⟩:∃W1,W1=((w.alloc (.cells #[.string (bs n.op),.string (bs n.s),.int .i64 n.n,.int .i64 n.a,.slice A L C] 24)).alloc (.cells #[.string ⟨#[]⟩,.int .i64 0,.slice none 0 0] 111)).alloc (.cells #[.string (bs n.op),.int .i64 0,.slice none 0 0] 111):=⟨_,rfl⟩
 have hb1:Below w.heap.size w W1:=by rw[hW1];exact xL _ _ _
 have N1:zi W1 w.heap.size 24 #[.string (bs n.op),.string (bs n.s),.int .i64 n.n,.int .i64 n.a,.slice A L C]:=by rw[hW1];exact((zi.new w _ _).alloc _).alloc _
 have R1:zi W1 (w.heap.size+1) 111 #[.string ⟨#[]⟩,.int .i64 0,.slice none 0 0]:=by rw[hW1];exact(zi.new_at (by simp)).alloc _
 have M1:zi W1 (w.heap.size+2) 111 #[.string (bs n.op),.int .i64 0,.slice none 0 0]:=by rw[hW1];exact zi.new_at (by simp)
 have h1:=(Zu h).keep hb1;have S1:qT cb V w V W1:=qT.of hb1;have HW:=zk hW1;have lcb:=h.has.lt;have hrn:¬V.own cb (w.heap.size+1):=λe=>by have:=(h.low e).2;omega
 have hmn:¬V.own cb (w.heap.size+2):=λe=>by have:=(h.low e).2;omega
 have hot:=zp n.op;have f0:(n.op== [106,111,117,114,110,97,108])=false:=by rw[ho];decide
 have f1:(n.op== [100,101,118,105,99,101])=false:=by rw[ho];decide
 have f2:(n.op== [107,101,121])=false:=by rw[ho];decide
 have f3:(n.op== [114,111,111,116])=false:=by rw[ho];decide
 have f4:(n.op== [118,111,108,117,109,101])=true:=by rw[ho];decide
 have hR:jg c n=match qP c.names 12 c.parts x with | .error e=> .error e| .ok (k,ps)=> .ok ({ c with parts:=ps },⟨n.op,k,[]⟩):=by
  unfold jg;rw[if_neg (show ¬n.op=zj by rw[ho];decide),if_neg (show ¬n.op=zd by rw[ho];decide),if_neg (show ¬(n.op=qj∨n.op=zS) by rw[ho];decide),hnx];rfl
 subst hL hA;have hat1:QK W1 gn (on+0*5) x An Cn:=λj hj=>(hb1.cell (p:=⟨gn,on+0*5+j,none⟩) hgn).trans (hat j hj)
 have hcx:=hxc _ W1 V c x An Cn h1 hrx hcb (hb0.trans (hb1.mono hb0.size)) hxr hnm hby;have nc4:=N1.cell 4;have nl1:=N1.lt;simp only[qt,qu,qr]at nc4;clear hW1;cases hX:qP c.names 12 c.parts x with
 |error er =>
  obtain⟨ec,ek⟩:=er;rw[hX]at hR hcx;have HR:=zk hR;clear hR ho hX;unfold qa at hcx;unfold qa;go_enter Tryz.func65,Tryz.ntmps65
  go_wp2_with (first
   |((refine zb 97 rfl ?_)
     rw[←HW.out];(refine zc (some 97) (.slice (some ⟨gn,on,none⟩) 1 C) rfl (by rfl) (by unfold execOp;go_simp) ?_))
   |((refine zb 98 rfl ?_)
     (refine zc (some 98) (.pointer (some ⟨gn,on+0*5,none⟩)) rfl (by rfl) (zK _ _ rfl gn on 0 1 C rfl rfl (by decide) W1) ?_))
   |((refine zb 99 rfl ?_)
     refine zc (some 99) _ rfl (by rfl) (qA _ rfl gn (on+0*5) rfl W1 hat1) ?_;(unfold Zs))
   |((go_at_call 83)
     refine hcx.mono ?_;(rintro e w5 ⟨ho5,rfl⟩)))
  exact⟨rfl,S1.only.trans ho5,by rw[HR.out]⟩
 |ok r =>
  obtain⟨k,ps⟩:=r;rw[hX]at hR hcx;have HR:=zk hR;clear hR ho hX;unfold qa at hcx;unfold qa;go_enter Tryz.func65,Tryz.ntmps65
  go_wp2_with (first
   |((refine zb 97 rfl ?_)
     rw[←HW.out];(refine zc (some 97) (.slice (some ⟨gn,on,none⟩) 1 C) rfl (by rfl) (by unfold execOp;go_simp) ?_))
   |((refine zb 98 rfl ?_)
     (refine zc (some 98) (.pointer (some ⟨gn,on+0*5,none⟩)) rfl (by rfl) (zK _ _ rfl gn on 0 1 C rfl rfl (by decide) W1) ?_))
   |((refine zb 99 rfl ?_)
     refine zc (some 99) _ rfl (by rfl) (qA _ rfl gn (on+0*5) rfl W1 hat1) ?_;(unfold Zs))
   |((go_at_call 83)
     refine hcx.mono ?_;rintro e w5 ⟨ho5,rfl,V5,H5,S5⟩;have M5:zi w5 (w.heap.size+2) 111 #[.string (bs n.op),.int .i64 0,.slice none 0 0]:=(S5.inner _ M1.lt hmn).1.trans M1;have R5:zi w5 (w.heap.size+1) 111 #[.string ⟨#[]⟩,.int .i64 0,.slice none 0 0]:=(S5.inner _ R1.lt hrn).1.trans R1;have m0:=M5.cell 0;have m1:=M5.cell 1;have m2:=M5.cell 2;have r0:=R5.cell 0;have r1:=R5.cell 1;have r2:=R5.cell 2;simp only[qt,qu,qr]at m0 m1 m2 r0 r1 r2;have mf:=M5.free 1;have ml:=M5.lt;have g0:=R5.free 0;have g1:=R5.free 1;have g2:=R5.free 2;(have rl:=R5.lt)))
  have hmn5:=(S5.inner _ M1.lt hmn).2;have hrn5:=(S5.inner _ R1.lt hrn).2;have lm1:=M1.lt
  have H6:=(H5.mono (E':=λg=>(E g∧g<w.heap.size)∨w.heap.size+2<g) (λg _ _ he=>by
   rcases he with he|he
   ·exact .inl he
   ·exact .inr (by omega))).other ⟨w.heap.size+2,1,none⟩ hmn5 (λe=>by
    rcases e with e|e
    ·exact absurd e.2 (Nat.not_lt.2 (Nat.le_add_right _ _))
    ·exact absurd e (Nat.lt_irrefl _)) (.int .i64 (k:Nat))
  have S6:=(S1.trans S5).set (q:=⟨w.heap.size+2,1,none⟩) (by show w.heap.size≤w.heap.size+2;omega) (.int .i64 (k:Nat));have R6:=R5.other (p:=⟨w.heap.size+2,1,none⟩) (by show w.heap.size+1≠w.heap.size+2;omega) (.int .i64 (k:Nat));refine Z9 rfl rfl (R6.set3 _ _ _) rfl ?_;have S7:=S6.set3 (g:=w.heap.size+1) (by omega) (.string (bs n.op)) (.int .i64 (k:Nat)) (.slice none 0 0)
  have H7:=H6.other3 (w.heap.size+1) hrn5 (λe=>by
   rcases e with e|e
   ·exact absurd e.2 (Nat.not_lt.2 (Nat.le_add_right _ _))
   ·exact absurd e (by show ¬w.heap.size+2<w.heap.size+1;omega)) (.string (bs n.op)) (.int .i64 (k:Nat)) (.slice none 0 0)
  refine⟨S7.only,?_⟩;rw[HR.out]
  exact⟨.slice none 0 0,V5,rfl,Ky rfl,H7.mono (λg _ _ he=>by
   rcases he with he|he
   ·exact .inl he.1
   ·exact .inr (by omega)),S7⟩
end
section
open Go.ChangeShapes Go.WideShapes Go.ChangeAt Go.RowKit Go.MapKept
variable {E:Nat→Prop}
theorem uf{w:World}{cb:Nat}{V:CV}{c:Ck}(h:zG E w cb V c)(n:Nd)(A:Option Addr)(L C d:Nat)(ho:n.op=ye):Calls Tryz.prog 83 #[.pointer (some ⟨cb,0,none⟩),.agg (qa n (.slice A L C))] w (fo E w cb V c (qP c.names (d+1) c.parts n)):=by
 have hR:qP c.names (d+1) c.parts n=match qm c.names n [zd,zr]with | .error e=> .error e| .ok m=> .ok (m.node,c.parts):=by
  show(if n.op=ye then _ else _)=_;rw[if_pos ho];rfl
 rw[hR];have f0:(n.op== [117,115,101])=true:=by rw[ho];decide
 have hot:=zp n.op
 obtain⟨W1,hW1⟩:∃W1,W1=(w.alloc (.cells #[.string (bs n.op),.string (bs n.s),.int .i64 n.n,.int .i64 n.a,.slice A L C] 24)).alloc (.cells #[.string ⟨#[100,101,118,105,99,101]⟩,.string ⟨#[118,111,108,117,109,101]⟩] 9):=⟨_,rfl⟩
 have hb1:Below w.heap.size w W1:=by rw[hW1];exact vh w _ _
 have hkn:=Vv (h.keep hb1) n A L C [zd,zr] (.slice (some ⟨w.heap.size+1,0,none⟩) 2 2) (.inr ⟨w.heap.size+1,rfl,by rw[hW1];exact zi.new_at (by simp)⟩) (by simp);rw[hW1]at hkn;have HW:Hid (W1=(w.alloc (.cells #[.string (bs n.op),.string (bs n.s),.int .i64 n.n,.int .i64 n.a,.slice A L C] 24)).alloc (.cells #[.string ⟨#[100,101,118,105,99,101]⟩,.string ⟨#[118,111,108,117,109,101]⟩] 9)):=hW1;clear hW1 hR ho;cases hK:qm c.names n [zd,zr]with
 |error er =>
  obtain⟨ec,ek⟩:=er;rw[hK]at hkn;clear hK;unfold qa at hkn ⊢;go_enter Tryz.func83,Tryz.ntmps83
  go_wp2_with (first
   |((go_at_call 80)
     refine hkn.mono ?_;(rintro e w2 ⟨hb2,rfl⟩)))
  rw[←HW.out]at hb2;exact⟨rfl,.of (hb1.trans (hb2.mono hb1.size)),rfl⟩
 |ok m =>
  rw[hK]at hkn;clear hK;unfold qa at hkn ⊢;go_enter Tryz.func83,Tryz.ntmps83
  go_wp2_with (first
   |((go_at_call 80)
     refine hkn.mono ?_;rintro e w2 ⟨hb2,Am,Cm,rfl,hm1,hm2,hbp⟩;(unfold Yb))
   |((refine zb 16 rfl ?_)
     (refine zc (some 16) (.int .i64 (m.node:Nat)) rfl (by rfl) (by kernel_rfl) ?_)))
  go_ret
  rw[←HW.out]at hb2;have hb02:Below w.heap.size w w2:=hb1.trans (hb2.mono hb1.size);exact⟨.of hb02,rfl,V,(h.keep hb02).mono (λk _ _ he=> .inl he),qT.of hb02⟩
end
section
open Go.ChangeShapes Go.WideShapes Go.ChangeAt Go.RowKit Go.MapKept
structure Yc (E:Nat→Prop) (W1 wr:World) (cb:Nat) (V V':CV) (c:Ck) (d:Nat) (l:List Nd) (i:Nat) (v:Value) (ks:List Nat) (ps:List Pt):Prop where
 is:qG (qP c.names d) c.parts ((l.take i).filter λx=> !(x.op==vH||x.op==jN))= .ok (ks,ps)
 row:wr.ownsRow W1.heap.size 3 1 v ks.length (ks.map λk=> .int .i64 (k:Nat))
 free:∀g,v.ownBlock=some g→¬V'.own cb g
 ck:zG (λg=>(E g∨W1.heap.size≤g)∧v.ownBlock≠some g) wr cb V' { c with parts:=ps }
 stp:qT cb V W1 V' wr
 nms:vI c.names ps
theorem Yc.step{E:Nat→Prop}{W1 wr w5 w6:World}{cb:Nat}{V V' V5:CV}{c:Ck}{d:Nat}{l:List Nd}{i:Nat}{v:Value}{ks:List Nat}{ps p5:List Pt}{k:Nat}{o:Obj}{A6:Option Addr}{C6:Nat}(h:Yc E W1 wr cb V V' c d l i v ks ps)(hi:i<l.length)(hx:(l[i].op==vH||l[i].op==jN)=false)(hk:qP c.names d ps l[i]= .ok (k,p5))
 (h5:zG (λg=>((E g∨W1.heap.size≤g)∧v.ownBlock≠some g)∨(wr.alloc o).heap.size≤g) w5 cb V5 { c with parts:=p5 }) (s5:qT cb V' (wr.alloc o) V5 w5) (hn5:vI c.names p5)
 (hr6:w6.ownsRow W1.heap.size 3 1 (.slice A6 (ks.length+1) C6) (ks.length+1) (ks.map (λk=> .int .i64 (k:Nat))++ [.int .i64 (k:Nat)])) (hg6:(w5.alloc (.cells #[.int .i64 (k:Nat)] 3)).grownBy w6 v.ownBlock) (hw6:(Value.slice A6 (ks.length+1) C6).ownBlock=v.ownBlock∨(Value.slice A6 (ks.length+1) C6).ownBlock=some (w5.alloc (.cells #[.int .i64 (k:Nat)] 3)).heap.size):
 Yc E W1 w6 cb V V5 c d l (i+1) (.slice A6 (ks.length+1) C6) (ks++ [k]) p5:=by
 have hvl:∀g,v.ownBlock=some g→W1.heap.size≤g∧g<wr.heap.size:=λg e=>(qo h.row e).symm
 have hs1:wr.heap.size<(wr.alloc o).heap.size:=by simp
 have hs5:=s5.only.size;have hin:∀g,v.ownBlock=some g→¬V5.own cb g:=λg e=>(s5.inner g (by have:=(hvl g e).2;omega) (h.free g e)).2
 have hb5:=zh w5 (.cells #[.int .i64 (k:Nat)] 3);have hsz5:(w5.alloc (.cells #[.int .i64 (k:Nat)] 3)).heap.size=w5.heap.size+1:=by simp
 have h5':zG (λg=>(E g∨W1.heap.size≤g)∧v.ownBlock≠some g∧g≠(w5.alloc (.cells #[.int .i64 (k:Nat)] 3)).heap.size) (w5.alloc (.cells #[.int .i64 (k:Nat)] 3)) cb V5 { c with parts:=p5 }:=by
  refine(h5.keep hb5).mono (λg hg hn he=>?_);refine⟨?_,?_,by omega⟩
  ·rcases he with he|he
   ·exact he.1
   ·exact .inr (Nat.le_trans (Nat.le_trans h.stp.only.size (Nat.le_of_lt hs1)) he)
  ·rcases he with he|he
   ·exact he.2
   ·intro e
    have:=(hvl g e).2;omega
 have h6:=h5'.grown hg6 hin (λg he=>he.2.1);refine⟨?_,by rw[List.length_append,List.length_singleton,List.map_append,List.map_cons,List.map_nil];exact hr6,λg e=>?_,h6.mono (λg hg hn he=>⟨he.1,λe=>?_⟩),?_,hn5⟩
 ·rw[Z2 l hi,hx]
  simp only[Bool.false_eq_true,if_false];rw[Ja,h.is];simp only;rw[hk]
 ·rcases hw6 with q|q
  ·exact hin g (q ▸ e)
  ·rw[q]at e
   cases e;intro ho;have:=(h5.low ho).2;omega
 ·rcases hw6 with q|q
  ·exact he.2.1 (q ▸ e)
  ·rw[q]at e
   cases e;exact he.2.2 rfl
 ·exact((h.stp.trans ((qT.of (zh wr o)).trans s5)).trans (qT.of hb5)).grown hg6 (λg e=>(hvl g e).1)
theorem Yc.pass{E:Nat→Prop}{W1 wr:World}{cb:Nat}{V V':CV}{c:Ck}{d:Nat}{l:List Nd}{i:Nat}{v:Value}{ks:List Nat}{ps:List Pt}{o:Obj}(h:Yc E W1 wr cb V V' c d l i v ks ps)(hi:i<l.length)(hx:(l[i].op==vH||l[i].op==jN)=true):Yc E W1 (wr.alloc o) cb V V' c d l (i+1) v ks ps:=by
 refine⟨?_,zE h.row (λg ob e ho=>(Below.heap_alloc wr o g (Array.getElem?_eq_some_iff.1 ho).1).trans ho),h.free,h.ck.alloc o,h.stp.trans (qT.of (zh wr o)),h.nms⟩;rw[Z2 l hi,hx];simp only[if_true,List.append_nil];exact h.is
end
section
open Go.ChangeShapes Go.WideShapes Go.ChangeAt Go.RowKit Go.MapKept
variable {E:Nat→Prop}
theorem g6{w:World}{cb:Nat}{V:CV}{c:Ck}{ks:List Nat}{bk ok Ck:Nat}(hI:fU E w cb V c ks bk ok Ck)(n:Nd)(A:Option Addr)(C:Nat)(hr:j0 w n A C)(hs:Ds n)(hk:ks.length=(jc n).length)(hn:vI c.names c.parts)(hby:∀x ∈ c.names,x.2.bytes.length≤1000):
 Calls Tryz.prog 98 #[.pointer (some ⟨cb,0,none⟩),.agg (qa n (.slice A n.l.length C)),.slice (some ⟨bk,ok,none⟩) ks.length Ck] w (yH w (KT (jd c.names c.parts n ks))):=by
 rcases hs.word with ho|ho|ho|ho
 ·obtain⟨h1,h2,h3⟩:=hs.lin ho
  exact Ys hI n A C hr ho h1 h2 h3
 ·exact VY hI n A C hr ho
 ·obtain⟨h1,h2⟩:=hs.snap ho
  exact Jv hI n A C hr ho h1 (by rw[hk];exact hs.shape.snap ho) h2
 ·exact VS hI n A C hr ho (hs.sec ho) hn hby
theorem Dn{w:World}{cb:Nat}{V:CV}{c:Ck}(h:zG E w cb V c)(p:Pt)(Ak:Option Addr)(Ck:Nat)(A2:Option Addr)(C2:Nat)(A3:Option Addr)(C3:Nat)(hu:Zt w (λg=>¬V.own cb g∧E g) p (.slice Ak p.kids.length Ck,.slice A2 p.key.length C2,.slice A3 p.root.length C3))(hkids:∀k ∈ p.kids,k<c.parts.length)(hkl:p.kids.length≤1000)(h52:p.kind=5→p.kids.length=2)(hfew:c.parts.length≤90000):
 Calls Tryz.prog 61 #[.pointer (some ⟨cb,0,none⟩),.agg #[.int .i64 (p.kind:Nat),.int .i64 (p.size:Nat),.slice Ak p.kids.length Ck,.int .i64 (p.dev:Nat),.int .i64 (p.first:Nat),.int .i64 (p.chunk:Nat),.slice A2 p.key.length C2,.slice A3 p.root.length C3]] w (Fi E w cb V c p):=by
 by_cases h5:p.kind=5
 ·exact Vj h p Ak Ck A2 C2 A3 C3 hu hkids hkl h5 (h52 h5) hfew
 ·by_cases h8:p.kind=8
  ·exact Xq h p Ak Ck A2 C2 A3 C3 hu hkids hkl h8 hfew
  ·exact J7 h p Ak Ck A2 C2 A3 C3 hu hkids hkl h5 h8 hfew
end
section
open Go.ChangeShapes Go.WideShapes Go.ChangeAt Go.RowKit Go.MapKept
theorem gd{ns:vL}{d:Nat}{ps p1:List Pt}{n:Nd}{ks:List Nat}(hne:n.op≠ye)(h:qG (qP ns d) ps (jc n)= .ok (ks,p1)):qP ns (d+1) ps n=if 64≤p1.length then .error (137,n.a)else match jd ns p1 n ks with | .error e=> .error e| .ok p=> .ok (p1.length,p1++ [p]):=by
 show(if n.op=ye then _ else _)=_;rw[if_neg hne,h];rfl
theorem Ul{ns:vL}{d:Nat}{ps:List Pt}{n:Nd}{e:Er}(hne:n.op≠ye)(h:qG (qP ns d) ps (jc n)= .error e):qP ns (d+1) ps n= .error e:=by
 show(if n.op=ye then _ else _)=_;rw[if_neg hne,h]
theorem FL{w0:World}{cb d:Nat}(ih:UZ cb w0 d){E:Nat→Prop}{w:World}{V:CV}{c:Ck}(h:zG E w cb V c)(n:Nd)(A:Option Addr)(C:Nat)(hr:j0 w0 n A C)(hcb:w0.heap.size≤cb-1)(hb0:Below w0.heap.size w0 w)(hne:n.op≠ye)(hs:Ds n)(hx:∀x ∈ jc n,U6 d x)(hn:vI c.names c.parts)(hby:∀x ∈ c.names,x.2.bytes.length≤1000):
 Calls Tryz.prog 83 #[.pointer (some ⟨cb,0,none⟩),.agg (qa n (.slice A n.l.length C))] w (fo E w cb V c (qP c.names (d+1) c.parts n)):=by
 have f0:(n.op== [117,115,101])=false:=by rw[beq_eq_false_iff_ne];exact hne
 have hot:=zp n.op
 obtain⟨W1,hW1⟩:∃W1,W1=w.alloc (.cells #[.string (bs n.op),.string (bs n.s),.int .i64 n.n,.int .i64 n.a,.slice A n.l.length C] 24):=⟨_,rfl⟩
 have hb1:Below w.heap.size w W1:=by rw[hW1];exact zh w _
 have N1:zi W1 w.heap.size 24 #[.string (bs n.op),.string (bs n.s),.int .i64 n.n,.int .i64 n.a,.slice A n.l.length C]:=by rw[hW1];exact zi.new w _ _
 have hsz1:W1.heap.size=w.heap.size+1:=by rw[hW1];simp
 have HZ1:=zk hsz1;have h1:zG E W1 cb V c:=h.keep hb1
 have hnb:∀V' wz,qT cb V W1 V' wz→¬V'.own cb w.heap.size:=λV' wz s ho=>by
  rcases s.new _ ho with q|q
  ·exact Nat.lt_irrefl _ (h.low q).2
  ·omega
 have HNB:=zk hnb;have HW:=zk hW1;have hlen:=hr.len;have HER:=zk (λe=>Ul (ns:=c.names) (d:=d) (ps:=c.parts) (e:=e) hne);have HMK:=zk (λks p1=>gd (ns:=c.names) (d:=d) (ps:=c.parts) (p1:=p1) (ks:=ks) hne);have HIH:=zk ih;have HX:=zk hx;have HBY:=zk hby
 obtain⟨L,hL⟩:∃L,L=n.l.length:=⟨_,rfl⟩
 have HL:=zk hL;rw[←hL]at HW N1 hlen ⊢
 have h0:Yc E W1 W1 cb V V c d n.l 0 (.slice none 0 0) [] c.parts:=⟨rfl,⟨rfl,.inl ⟨rfl,rfl⟩⟩,(λg e=>by cases e),h1.mono (λk _ _ he=>⟨.inl he,λe=>by cases e⟩),qT.refl _ _ _,hn⟩
 clear hW1 hsz1 hnb ih hx hby hL h1;unfold qa;go_enter Tryz.func83,Tryz.ntmps83;have nn0:=N1.cell 0;have nn4:=N1.cell 4;have nl1:=N1.lt;rw[HW.out]at nn0 nn4 nl1
 go_wp2
 rw[←HW.out]
 go_loopw [5,20] (λz5 z20 wr=>∃(i:Nat) (V':CV) (ks:List Nat) (ps:List Pt),z20= .int .i64 (i:Nat)∧i≤L∧Yc E W1 wr cb V V' c d n.l i z5 ks ps∧zi wr w.heap.size 24 #[.string (bs n.op),.string (bs n.s),.int .i64 n.n,.int .i64 n.a,.slice A L C]) (λ_ z _=>L-(intOf z).toNat)
 case atStart=>exact⟨0,V,[],c.parts,rfl,Nat.zero_le _,h0,N1⟩
 case round =>
  obtain⟨i,V2,ks,ps,rfl,hi,K,NB⟩:=hrel;by_cases hlt:i<L
  ·have hil:i<n.l.length:=by rw[←HL.out];exact hlt
   have hBr:Below (cb-1) W1 wr:=K.stp.only.below (by have:=h.has.lt;rw[HZ1.out];omega) (λk hk=>by have:=(h.low hk).1;omega);have hB0r:Below w0.heap.size w0 wr:=(hb0.trans (hb1.mono hb0.size)).trans (hBr.mono hcb);obtain⟨g,off,An,Cn,eA,hg,hat,hrn⟩:=V0.get (⟨hr.rd,hB0r⟩:V0 w0 wr n.l A C) hil;subst eA;have hint:(i:Int)<(L:Int):=by omega
   have HKS:=zk (λo k p5 V5 w5 w6 A6 C6=>K.step (o:=o) (k:=k) (p5:=p5) (V5:=V5) (w5:=w5) (w6:=w6) (A6:=A6) (C6:=C6) hil);have HKP:=zk (λo=>K.pass (o:=o) hil);have HMm:=zk (show n.l[i] ∈ n.l from List.getElem_mem hil)
   have HKE:=zk (λ(e:Er) (q:qG (qP c.names d) c.parts ((n.l.take (i+1)).filter λx=> !(x.op==vH||x.op==jN))= .error e)=>HER.out e (by
    have:=Ug (qP c.names d) _ ((n.l.drop (i+1)).filter λx=> !(x.op==vH||x.op==jN)) c.parts e q;rw[←List.filter_append,List.take_append_drop]at this
    exact this))
   have HSN:=zk (Z2 n.l hil);generalize n.l[i]=m at *;have hmt:=zp m.op;cases hb:(m.op==vH||m.op==jN)with
   |true =>
    have HBm:=zk hb;by_cases hq:m.op=vH
    ·have f1:(m.op== [110,117,109])=true:=by rw[hq];decide
     clear hb hq K
     go_wp2_with (first
      |((refine zb 22 rfl ?_)
        (refine zc (some 22) _ rfl (by rfl) (zK _ _ rfl g off i L C rfl rfl hlt wr) ?_))
      |((refine zb 23 rfl ?_)
        refine zc (some 23) _ rfl (by rfl) (qA _ rfl g (off+i*5) rfl wr hat) ?_;(unfold Zs)))
     go_roundw
     case rel=>exact⟨i+1,V2,ks,ps,by go_num,by omega,HKP.out _ HBm.out,NB.alloc _⟩
     case measure=>simp[intOf];omega
    ·have f1:(m.op== [110,117,109])=false:=by rw[beq_eq_false_iff_ne];exact hq
     have f2:(m.op== [110,97,109,101])=true:=by
      have hq':(m.op==vH)=false:=f1;rw[hq',Bool.false_or]at hb;exact hb
     clear hb hq K
     go_wp2_with (first
      |((refine zb 22 rfl ?_)
        (refine zc (some 22) _ rfl (by rfl) (zK _ _ rfl g off i L C rfl rfl hlt wr) ?_))
      |((refine zb 23 rfl ?_)
        refine zc (some 23) _ rfl (by rfl) (qA _ rfl g (off+i*5) rfl wr hat) ?_;(unfold Zs)))
     go_roundw
     case rel=>exact⟨i+1,V2,ks,ps,by go_num,by omega,HKP.out _ HBm.out,NB.alloc _⟩
     case measure=>simp[intOf];omega
   |false =>
    have HBm:=zk hb;simp only[Bool.or_eq_false_iff]at hb;have f1:(m.op== [110,117,109])=false:=hb.1;have f2:(m.op== [110,97,109,101])=false:=hb.2;have hmk:m ∈ jc n:=List.mem_filter.2 ⟨HMm.out,by simpa using HBm.out⟩;have hcx:=HIH.out _ (wr.alloc (.cells #[.string (bs m.op),.string (bs m.s),.int .i64 m.n,.int .i64 m.a,.slice An m.l.length Cn] 24)) V2 { c with parts:=ps } m An Cn (K.ck.alloc _) hrn hcb (hB0r.trans ((zh wr _).mono hB0r.size)) (HX.out m hmk) K.nms HBY.out;have HNM:=K.nms;have hexr:=(HX.out m hmk).ok;have hrow:=K.row;have hks:=K.stp;cases hR:qP c.names d ps m with
    |error er =>
     obtain⟨ec,ek⟩:=er
     have hE:qG (qP c.names d) c.parts ((n.l.take (i+1)).filter λx=> !(x.op==vH||x.op==jN))= .error (ec,ek):=by
      rw[HSN.out,HBm.out];simp only[Bool.false_eq_true,if_false];rw[Ja,K.is];simp only;rw[hR]
     have HF:=zk (HKE.out _ hE);simp only[hR]at hcx;unfold qa at hcx;clear hb K hE hR HNM hexr hrow hmk
     go_wp2_with (first
      |((refine zb 22 rfl ?_)
        (refine zc (some 22) _ rfl (by rfl) (zK _ _ rfl g off i L C rfl rfl hlt wr) ?_))
      |((refine zb 23 rfl ?_)
        refine zc (some 23) _ rfl (by rfl) (qA _ rfl g (off+i*5) rfl wr hat) ?_;(unfold Zs))
      |((go_at_call 83)
        refine hcx.mono ?_;(rintro e w5 ⟨ho5,rfl⟩)))
     have hst:qT cb V W1 V2 w5:=(hks.trans (qT.of (zh wr _))).trans ⟨ho5,λ_ q=> .inl q⟩;exact⟨rfl,(j9.of hb1).trans hst.only,by rw[HF.out]⟩
    |ok r =>
     obtain⟨k,p5⟩:=r;have HRk:=zk hR
     have hn5:vI c.names p5:=by
      obtain⟨rs,e,_,_⟩:=Q8 d HNM hexr hR;rw[e];exact HNM.more rs
     have HN5:=zk hn5;simp only[hR]at hcx;unfold qa at hcx
     have hkl:ks.length≤100000:=by
      have q:=JK _ _ _ _ _ K.is;have q2:((n.l.take i).filter λx=> !(x.op==vH||x.op==jN)).length≤(n.l.take i).length:=List.length_filter_le _ _;have q3:(n.l.take i).length≤n.l.length:=by simp;omega
      have q4:=hs.few;omega
     have HNBs:=zk (λV5 w5 (s5:qT cb V2 (wr.alloc (.cells #[.string (bs m.op),.string (bs m.s),.int .i64 m.n,.int .i64 m.a,.slice An m.l.length Cn] 24)) V5 w5)=>(s5.inner w.heap.size (by have:=NB.lt;simp;omega) (HNB.out V2 wr hks)).1)
     have HVL:=zk (λV5 w5 (s5:qT cb V2 (wr.alloc (.cells #[.string (bs m.op),.string (bs m.s),.int .i64 m.n,.int .i64 m.a,.slice An m.l.length Cn] 24)) V5 w5)=>zE (w':=w5.alloc (.cells #[.int .i64 (k:Nat)] 3)) hrow (λg' ob e ho=>by
      have hlt':g'<wr.heap.size:=(qo hrow e).1;have q1:=(s5.inner g' (by simp;omega) (K.free g' e)).1;have q2:=Below.heap_alloc wr (.cells #[.string (bs m.op),.string (bs m.s),.int .i64 m.n,.int .i64 m.a,.slice An m.l.length Cn] 24) g' hlt';have q3:=Below.heap_alloc w5 (.cells #[.int .i64 (k:Nat)] 3) g' (by have:=s5.only.size;simp at this;omega)
      exact q3.trans (q1.trans (q2.trans ho))))
     have HVG:=zk (λg' e=>(qo hrow (g:=g') e).2);clear hb K hR HNM hexr hmk hn5
     go_wp2_with (first
      |((refine zb 22 rfl ?_)
        (refine zc (some 22) _ rfl (by rfl) (zK _ _ rfl g off i L C rfl rfl hlt wr) ?_))
      |((refine zb 23 rfl ?_)
        refine zc (some 23) _ rfl (by rfl) (qA _ rfl g (off+i*5) rfl wr hat) ?_;(unfold Zs))
      |((go_at_call 83)
        refine hcx.mono ?_;rintro e w5 ⟨ho5,rfl,V5,H5,S5⟩;(obtain⟨A6,C6,w6,hr6,hrow6,hg6,hw6⟩:=jq Gi (ty:=29) (w5.alloc (.cells #[.int .i64 (k:Nat)] 3)) W1.heap.size ks.length _ _ (HVL.out V5 w5 S5) (by have q1:=S5.only.size;have q2:=hks.only.size;simp at q1 ⊢;omega) (by omega) [.int .i64 (k:Nat)] rfl (by intro u hu;simp at hu;subst hu;rfl) w5.heap.size (zi.new_at rfl)))
      |((refine zb 37 rfl ?_)
        (refine zq (some 37) (.slice A6 (ks.length+1) C6) w6 rfl (by rfl) (zL _ _ rfl rfl rfl hr6) ?_)))
     go_roundw
     case rel=>exact⟨i+1,V5,ks++ [k],p5,by go_num,by omega,HKS.out _ k p5 V5 w5 w6 A6 C6 HBm.out HRk.out H5 S5 HN5.out hrow6 hg6 hw6,(hg6.block w.heap.size (by have q1:=S5.only.size;have q3:=NB.lt;simp at q1 ⊢;omega) (λe=>by have:=HVG.out _ e.symm;rw[HZ1.out]at this;omega)).trans ((Below.heap_alloc w5 _ _ (by have q1:=S5.only.size;have q3:=NB.lt;simp at q1;omega)).trans ((HNBs.out V5 w5 S5).trans ((Below.heap_alloc wr _ _ NB.lt).trans NB)))⟩
     case measure=>simp[intOf];omega
  ·obtain rfl:i=L:=by omega
   have hkis:qG (qP c.names d) c.parts (jc n)= .ok (ks,ps):=by
    have:=K.is;rw[HL.out,List.take_length]at this;exact this
   have HM0:=zk (HMK.out ks ps hkis)
   obtain⟨rs,eps,hkk,-,hlenk⟩:=Xh (jc n) (λqs x hx' k p1 hr'=>by
    obtain⟨rs,e,q1,q2⟩:=Q8 d (hn.more qs) (HX.out x hx').ok hr'
    exact⟨rs,e,q1,q2⟩) hkis
   have HLn:=zk hlenk;have hk0:0<ks.length:=by rw[hlenk];exact hs.shape.pos
   clear eps hlenk;have hp0:0<ps.length:=by have:=(hkk _ (List.getElem_mem hk0)).1;omega
   obtain⟨g,op,Cp,evp,hCp1,hCp2,hg,hSz⟩:=K.ck.vp hp0;have c2r:=K.ck.has.cell 2;simp only[List.getElem?_toArray,List.getElem?_cons_zero,List.getElem?_cons_succ,evp]at c2r;obtain⟨bk,Ck,ev,hCk1,hCk2,hbk,hbk2,hcells⟩:=Zq K.row hk0;have nc0:=NB.cell 0;have nc1:=NB.cell 1;have nc2:=NB.cell 2;have nc3:=NB.cell 3;have nc4:=NB.cell 4;have nlt:=NB.lt;simp only[qt,qu,qr]at nc0 nc1 nc2 nc3 nc4;have hBr:Below (cb-1) W1 wr:=K.stp.only.below (by have:=h.has.lt;rw[HZ1.out];omega) (λk hk=>by have:=(h.low hk).1;omega);have hB0r:Below w0.heap.size w0 wr:=(hb0.trans (hb1.mono hb0.size)).trans (hBr.mono hcb);have hKck:=K.ck;have hKst:=K.stp;have hKfr:=K.free;have hKnm:=K.nms
   obtain⟨NP,hNP⟩:∃NP,NP=ps.length:=⟨_,rfl⟩
   have HNP:=zk hNP;have c2r:wr.cell? ⟨cb,2,none⟩=some (.slice (some ⟨g,op,none⟩) NP Cp):=by rw[hNP];exact c2r
   subst ev;by_cases h64:NP<64
   ·have hRR:=HM0.out.trans (if_neg (by rw[←hNP];omega))
    have HRR:=zk hRR;have h64:decide (NP<64)=true:=decide_eq_true h64;have HCE:=zk hcells;clear hRR K hcells evp hNP
    go_wp2
    refine wp_region_held_drew (S:=λwz=>Below wr.heap.size wr wz) (by kernel_rfl) ((Below.refl _ wr).drew) (λhHeld=>?_);refine zC 0 (some 39) (.pointer (some ⟨cb,0,none⟩)) hHeld ?_;simp only[Act.put,ze,zg,zf];refine zC 1 (some 40) (.pointer (some ⟨cb,0,none⟩)) hHeld ?_;simp only[Act.put,ze,zg,zf];refine zC 2 (some 41) (.pointer (some ⟨cb,0,none⟩)) hHeld ?_;simp only[Act.put,ze,zg,zf];refine zC 3 (some 42) (.pointer (some ⟨cb,2,none⟩)) hHeld ?_;simp only[Act.put,ze,zg,zf];refine zP 4 (some 43) (.slice (some ⟨g,op,none⟩) NP Cp) rfl rfl (λwz hz=>by have z0:=za hz c2r;unfold execOp;go_simp) hHeld ?_;simp only[Act.put,ze,zg,zf];refine zP 5 (some 44) (.int .i64 (NP:Nat)) rfl rfl (λwz _=>Ze 30 47 Tryz.underlying30 _ rfl _ NP Cp rfl wz) hHeld ?_;simp only[Act.put,ze,zg,zf];refine zP 6 (some 45) (.bool true) rfl rfl (λwz _=>YJ _ _ rfl NP 64 rfl rfl true h64 wz) hHeld ?_;simp only[Act.put,ze,zg,zf];refine zC 7 (some 46) (.pointer (some ⟨w.heap.size,3,none⟩)) hHeld ?_;simp only[Act.put,ze,zg,zf];refine zP 8 (some 47) (.int .i64 n.a) rfl rfl (λwz hz=>by have z0:=za hz nc3;unfold execOp;go_simp) hHeld ?_;simp only[Act.put,ze,zg,zf];refine qn 9 (some 48) 63 #[.bool true,.int .i64 137,.int .i64 n.a] (by kernel_rfl) rfl rfl (by rfl) (by kernel_rfl) (zX 137 n.a wr.drew) ?_;rintro e w5 ⟨rfl,rfl⟩;refine .inl ⟨_,rfl,hHeld,?_⟩;simp only[Act.put,ze,zg,zf];refine wpAnyH_done (by kernel_rfl) ?_ _;have hbz:Below wr.heap.size wr wr.drew:=(Below.refl _ wr).drew
    have hI:fU (λg=>(E g∨W1.heap.size≤g)∧(Value.slice (some ⟨bk,0,none⟩) ks.length Ck).ownBlock≠some g) wr.drew cb V2 { c with parts:=ps } ks bk 0 Ck:=⟨hKck.keep hbz,hbk,λj hj=>by
     rw[Nat.zero_add];have q:=HCE.out j (by omega);rw[List.getElem?_map,List.getElem?_eq_getElem hj]at q
     exact za hbz q,hk0,hCk1,hCk2,hkk⟩
    have hpc:=g6 hI n A C (hr.grow (hB0r.trans (hbz.mono hB0r.size))) hs HLn.out hKnm HBY.out;rw[←HL.out]at hpc;unfold qa at hpc;have NB3:=zn NB;have hKck3:=hKck.keep hbz;have hKst3:qT cb V W1 V2 wr.drew:=hKst.trans (qT.of hbz);have hbk3:bk<wr.drew.heap.size:=hbk;replace nc0:=za hbz nc0;replace nc1:=za hbz nc1;replace nc2:=za hbz nc2;replace nc3:=za hbz nc3;replace nc4:=za hbz nc4;have nlt3:w.heap.size<wr.drew.heap.size:=nlt;have HC3:=zk hI.cells;clear hbz c2r hHeld hB0r hBr hKck hKst hI NB nlt hSz hg;generalize wr.drew=W3 at *;cases hP:jd c.names ps n ks with
    |error er =>
     obtain⟨ec,ek⟩:=er;have HRR:=zk (HRR.out.trans (by rw[hP]));dsimp only at hpc;rw[hP]at hpc;simp only[KT]at hpc;clear hP hkis hkk
     go_wp2_with (first
      |((go_at_call 98)
        refine hpc.mono ?_;(rintro e w5 ⟨hb5,rfl⟩)))
     exact⟨rfl,((j9.of hb1).trans hKst3.only).trans (.of hb5),by rw[HRR.out]⟩
    |ok p =>
     obtain⟨hpok,hpk⟩:=Xj hKnm hkk (by rw[HLn.out];exact hs.shape) hP;have HRR:=zk (HRR.out.trans (by rw[hP]));dsimp only at hpc;rw[hP]at hpc;simp only[KT]at hpc;obtain⟨pkind,psize,pkids,pdev,pfirst,pchunk,pkey,proot⟩:=p;have hpk':ks=pkids:=hpk.symm;subst hpk'
     have HAD:=zk (λ(w5:World) (hb5:Below W3.heap.size W3 w5) (A2:Option Addr) (C2:Nat) (A3:Option Addr) (C3:Nat) (a1:pkey.length≤C2) (a2:C2≤maxLen) (a3:ya w5 (λg=>W3.heap.size≤g) A2 pkey) (b1:proot.length≤C3) (b2:C3≤maxLen) (b3:ya w5 (λg=>W3.heap.size≤g) A3 proot) =>
      have hb6:Below W3.heap.size W3 (w5.alloc (.cells #[.int .i64 (pkind:Nat),.int .i64 (psize:Nat),.slice (some ⟨bk,0,none⟩) ks.length Ck,.int .i64 (pdev:Nat),.int .i64 (pfirst:Nat),.int .i64 (pchunk:Nat),.slice A2 pkey.length C2,.slice A3 proot.length C3] 47)):=hb5.alloc hb5.size _;have hk6:∀k,k<w5.heap.size→W3.heap.size≤k→(w5.alloc (.cells #[.int .i64 (pkind:Nat),.int .i64 (psize:Nat),.slice (some ⟨bk,0,none⟩) ks.length Ck,.int .i64 (pdev:Nat),.int .i64 (pfirst:Nat),.int .i64 (pchunk:Nat),.slice A2 pkey.length C2,.slice A3 proot.length C3] 47)).heap[k]?=w5.heap[k]?∧(¬V2.own cb k∧(E k∨W1.heap.size≤k)):=λk hk hP=>⟨Below.heap_alloc w5 _ k hk,λe=>by have:=(hKck3.low e).2;omega,.inr (Nat.le_trans hKst3.only.size hP)⟩
      Dn (E:=λg=>E g∨W1.heap.size≤g) ((hKck3.keep hb6).mono (λg _ _ he=>he.1)) ⟨pkind,psize,ks,pdev,pfirst,pchunk,pkey,proot⟩ (some ⟨bk,0,none⟩) Ck A2 C2 A3 C3
       ⟨⟨_,Ck,rfl,hCk1,hCk2,.inr ⟨bk,0,rfl,Nat.lt_of_lt_of_le hbk3 hb6.size,⟨hKfr bk rfl,.inr hbk2⟩,λj hj=>za hb6 (HC3.out j hj)⟩⟩,⟨A2,C2,rfl,a1,a2,a3.keep (by simp) hk6⟩,⟨A3,C3,rfl,b1,b2,b3.keep (by simp) hk6⟩⟩
       (λk hk=>(hkk k hk).1) (by have:=hpok.four;show ks.length≤1000;have h4:ks.length≤4:=this;omega) (λe=>(hpok.snap e).1) (by show ps.length≤90000;rw[←HNP.out];have:=of_decide_eq_true h64;omega))
     clear hP hkis hkk hpok hpk
     go_wp2_with (first
      |((go_at_call 98)
        refine hpc.mono ?_;rintro e w5 ⟨hb5,⟨u1,u2,u3⟩,rfl,hu5⟩;obtain⟨A2,C2,e2,c21,c22,by2⟩:=hu5.key;obtain⟨A3,C3,e3,c31,c32,by3⟩:=hu5.root;obtain⟨A1,C1,e1,-,-,-⟩:=hu5.kids;dsimp only at e1 e2 e3 c21 c31;subst e1 e2 e3;have hadd:=HAD.out w5 hb5 A2 C2 A3 C3 c21 c22 by2 c31 c32 by3;(unfold Us))
      |((go_at_call 61)
        refine hadd.mono ?_;(rintro e w7 ⟨rfl,V7,H7,S7⟩)))
     go_ret
     have S07:=(qT.of (cb:=cb) (V:=V) hb1).trans (hKst3.trans ((qT.of (cb:=cb) (V:=V2) hb5).trans ((qT.of (cb:=cb) (V:=V2) (zh w5 _)).trans S7)));refine⟨S07.only,?_⟩;rw[HRR.out]
     exact⟨rfl,V7,H7.mono (λg _ _ he=>by
      rcases he with he|he
      ·exact .inl he
      ·exact .inr (Nat.le_trans hb1.size he)),S07⟩
   ·have hRR:=HM0.out.trans (if_pos (by rw[←hNP];omega))
    have HRR:=zk hRR;have h64:decide (NP<64)=false:=decide_eq_false h64;clear hRR K hcells evp hNP
    go_wp2
    refine wp_region_held_drew (S:=λwz=>Below wr.heap.size wr wz) (by kernel_rfl) ((Below.refl _ wr).drew) (λhHeld=>?_);refine zC 0 (some 39) (.pointer (some ⟨cb,0,none⟩)) hHeld ?_;simp only[Act.put,ze,zg,zf];refine zC 1 (some 40) (.pointer (some ⟨cb,0,none⟩)) hHeld ?_;simp only[Act.put,ze,zg,zf];refine zC 2 (some 41) (.pointer (some ⟨cb,0,none⟩)) hHeld ?_;simp only[Act.put,ze,zg,zf];refine zC 3 (some 42) (.pointer (some ⟨cb,2,none⟩)) hHeld ?_;simp only[Act.put,ze,zg,zf];refine zP 4 (some 43) (.slice (some ⟨g,op,none⟩) NP Cp) rfl rfl (λwz hz=>by have z0:=za hz c2r;unfold execOp;go_simp) hHeld ?_;simp only[Act.put,ze,zg,zf];refine zP 5 (some 44) (.int .i64 (NP:Nat)) rfl rfl (λwz _=>Ze 30 47 Tryz.underlying30 _ rfl _ NP Cp rfl wz) hHeld ?_;simp only[Act.put,ze,zg,zf];refine zP 6 (some 45) (.bool false) rfl rfl (λwz _=>YJ _ _ rfl NP 64 rfl rfl false h64 wz) hHeld ?_;simp only[Act.put,ze,zg,zf];refine zC 7 (some 46) (.pointer (some ⟨w.heap.size,3,none⟩)) hHeld ?_;simp only[Act.put,ze,zg,zf];refine zP 8 (some 47) (.int .i64 n.a) rfl rfl (λwz hz=>by have z0:=za hz nc3;unfold execOp;go_simp) hHeld ?_;simp only[Act.put,ze,zg,zf];refine qn 9 (some 48) 63 #[.bool false,.int .i64 137,.int .i64 n.a] (by kernel_rfl) rfl rfl (by rfl) (by kernel_rfl) (qx 137 n.a wr.drew) ?_;rintro e w5 ⟨rfl,rfl⟩;refine .inr ⟨_,rfl,?_⟩;exact⟨rfl,((j9.of hb1).trans hKst.only).drew,by rw[HRR.out];rfl⟩
theorem FQ{w0:World}{cb:Nat}(d:Nat):UZ cb w0 d:=by
 induction d with
 |zero=>intro E w V c n A C _ _ _ _ hx;cases hx
 |succ d ih =>
  intro E w V c n A C h hr hcb hb0 hx hn hby;cases hx with
  |use _ _ e=>exact uf h n A n.l.length C d e
  |mk _ _ e hs hk=>exact FL ih h n A C hr hcb hb0 e hs hk hn hby
end
section
open Go.ChangeShapes Go.WideShapes Go.ChangeAt Go.RowKit Go.MapKept
variable {E:Nat→Prop}
theorem fQ{w0 w:World}{cb:Nat}{V:CV}{c:Ck}(h:zG E w cb V c)(n:Nd)(A:Option Addr)(C:Nat)(hr:j0 w0 n A C)(hcb:w0.heap.size≤cb-1)(hb0:Below w0.heap.size w0 w)(hx:JB n)(he:n.op≠zH)(hnm:vI c.names c.parts)(hby:∀x ∈ c.names,x.2.bytes.length≤1000)(hdv:c.devs.length≤90000):
 Calls Tryz.prog 65 #[.pointer (some ⟨cb,0,none⟩),.agg (qa n (.slice A n.l.length C))] w (JY E w cb V (jg c n)):=by
 rcases hx.word with ho|ho|ho|ho|ho|ho
 ·exact YW h n A n.l.length C ho hdv
 ·exact Vk h n A n.l.length C ho hdv
 ·obtain⟨hl,hf⟩:=hx.key (.inl ho)
  obtain⟨gn,on,Au,Cu,hA,hgn,hat⟩:=yN hr (by omega);exact GC h n A n.l.length C hl gn on hA (Nat.lt_of_lt_of_le hgn hb0.size) (vn n.l 0).s rfl ((hb0.cell (p:=⟨gn,on+0*5+1,none⟩) hgn).trans ((hat 0 (by omega)).1 1 (by decide))) hf ho
 ·obtain⟨hl,hf⟩:=hx.key (.inr ho)
  obtain⟨gn,on,Au,Cu,hA,hgn,hat⟩:=yN hr (by omega);exact kN h n A n.l.length C hl gn on hA (Nat.lt_of_lt_of_le hgn hb0.size) (vn n.l 0).s rfl ((hb0.cell (p:=⟨gn,on+0*5+1,none⟩) hgn).trans ((hat 0 (by omega)).1 1 (by decide))) hf ho
 ·obtain⟨hl,hex⟩:=hx.vol ho
  obtain⟨gn,on,Au,Cu,hA,hgn,hat⟩:=yN hr (by omega);exact Ym h n A n.l.length C hl w0 gn on hA (Nat.lt_of_lt_of_le hgn hb0.size) (vn n.l 0) (Au 0) (Cu 0) rfl (λj hj=>(hb0.cell (p:=⟨gn,on+0*5+j,none⟩) hgn).trans ((hat 0 (by omega)).1 j hj)) (hat 0 (by omega)).2 hcb hb0 hex (FQ 12) hnm hby ho
 ·exact absurd ho he
theorem YI{c c1:Ck}{n:Nd}{m:Mn}(h:jg c n= .ok (c1,m)):c1.names=c.names:=by
 unfold jg at h
 repeat' split at h
 all_goals first
  |(cases h;done)
  |(cases h;rfl)
theorem Yf{o:Oper}{a:Act}(x:Operand)(ho:o.op= .load 111 x)(g:Nat)(hx:a.eval x= .pointer (some ⟨g,0,none⟩)){x0 x1 x2:Value}(w:World)(h:zi w g 111 #[x0,x1,x2]):(execOp a.eval o).run Tryz.prog w= .ok (.value (.agg #[x0,x1,x2])) w:=by
 have q0:=h.cell 0;have q1:=h.cell 1;have q2:=h.cell 2;simp only[qt,qu,qr]at q0 q1 q2;unfold execOp;simp only[ho,hx];go_simp
end
end Go.Proofs.YtgljdaakdpgpkaaGreatDoor
