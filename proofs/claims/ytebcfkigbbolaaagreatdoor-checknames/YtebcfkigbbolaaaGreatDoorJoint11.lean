import Derived.Test.YtebcfkigbbolaaaGreatDoorJoint10
namespace Go.Proofs.YtebcfkigbbolaaaGreatDoor
set_option linter.unusedVariables false
set_option maxRecDepth 100000
set_option maxHeartbeats 40000000
section
open Go.ChangeShapes Go.WideShapes Go.ChangeAt Go.RowKit Go.MapKept
variable {E:Nat→Prop}
theorem XK{w:World}{cb:Nat}{V:CV}{c:Ck}(h:zK E w cb V c)(n:Nd)(A:Option Addr)(L C:Nat)(ho:n.op=zd)(hdv:c.devs.length≤90000):
 Calls Tryz.prog 88 #[.pointer (some ⟨cb,0,none⟩),.agg (qa n (.slice A L C))] w (Vr E w cb V (jJ c n)):=by
 obtain⟨W1,hW1⟩:∃W1,W1=((w.alloc (.cells #[.string (bs n.op),.string (bs n.s),.int .i64 n.n,.int .i64 n.a,.slice A L C] 24)).alloc (.cells #[.string ⟨#[]⟩,.int .i64 0,.slice none 0 0] 136)).alloc (.cells #[.string (bs n.op),.int .i64 0,.slice none 0 0] 136):=⟨_,rfl⟩
 have hb1:Below w.heap.size w W1:=by rw[hW1];exact xU _ _ _
 have N1:zh W1 w.heap.size 24 #[.string (bs n.op),.string (bs n.s),.int .i64 n.n,.int .i64 n.a,.slice A L C]:=by rw[hW1];exact((zh.new w _ _).alloc _).alloc _
 have R1:zh W1 (w.heap.size+1) 136 #[.string ⟨#[]⟩,.int .i64 0,.slice none 0 0]:=by rw[hW1];exact(zh.new_at (by simp)).alloc _
 have M1:zh W1 (w.heap.size+2) 136 #[.string (bs n.op),.int .i64 0,.slice none 0 0]:=by rw[hW1];exact zh.new_at (by simp)
 have h1:=(Z3 h).keep hb1;have S1:qW cb V w V W1:=qW.of hb1;have HW:=zt hW1;have lcb:=h.has.lt;have hrn:¬V.own cb (w.heap.size+1):=λe=>by have:=(h.low e).2;omega
 have hmn:¬V.own cb (w.heap.size+2):=λe=>by have:=(h.low e).2;omega
 have hot:=zr n.op;have f0:(n.op== [106,111,117,114,110,97,108])=false:=by rw[ho];decide
 have f1:(n.op== [100,101,118,105,99,101])=true:=by rw[ho];decide
 have f2:(n.op== [107,101,121])=false:=by rw[ho];decide
 have f3:(n.op== [114,111,111,116])=false:=by rw[ho];decide
 have f4:(n.op== [118,111,108,117,109,101])=false:=by rw[ho];decide
 have hR:jJ c n=if ¬(1≤n.n∧n.n≤2048)then .error (134,n.a)else .ok ({ c with devs:=c.devs++ [n.n.toNat] },⟨n.op,jN c.names [zd],[]⟩):=by
  unfold jJ;rw[if_neg (show ¬n.op=zm by rw[ho];decide),if_pos ho]
 clear hW1;by_cases h12:1≤n.n∧n.n≤2048
 ·rw[if_neg (not_not_intro h12)]at hR
  have HR:=zt hR;obtain⟨k1,k2⟩:=h12;clear hR ho;have hny:=zV 134 n.a W1;unfold qa;go_enter Tryz.func88,Tryz.ntmps88;have hah:=xH (h1.alloc (.cells #[.string ⟨#[100,101,118,105,99,101]⟩] 9)) [zd] (.slice (some ⟨W1.heap.size,0,none⟩) 1 1) (.inr ⟨W1.heap.size,rfl,zh.new_at rfl⟩) (by simp)
  obtain⟨CN,hCN⟩:∃CN,CN=jN c.names [zd]:=⟨_,rfl⟩
  have HCN:=zt hCN
  obtain⟨DL,hDL⟩:∃DL,DL=c.devs.length:=⟨_,rfl⟩
  have HDL:=zt hDL;have hdl:DL≤90000:=by rw[hDL];exact hdv
  change Calls _ _ _ _ (λe w'=>e= .returned (.int .i64 (jN c.names [zd]:Nat))∧Below (W1.alloc (.cells #[.string ⟨#[100,101,118,105,99,101]⟩] 9)).heap.size (W1.alloc (.cells #[.string ⟨#[100,101,118,105,99,101]⟩] 9)) w')at hah;rw[←hCN]at hah;clear hCN hDL;have HMM:=zt (λw2 (hb:Below (W1.alloc (.cells #[.string ⟨#[100,101,118,105,99,101]⟩] 9)).heap.size (W1.alloc (.cells #[.string ⟨#[100,101,118,105,99,101]⟩] 9)) w2)=>(zf W1 (.cells #[.string ⟨#[100,101,118,105,99,101]⟩] 9)).trans (hb.mono (by simp)))
  go_wp2_with (first
   |((go_at_call 86)
     (first |rw[←HW.out]|skip)
     refine hny.mono ?_;rintro e w3 ⟨rfl,hw3⟩;(obtain rfl:W1=w3:=hw3.symm))
   |((go_at_call 118)
     refine hah.mono ?_;rintro e w2 ⟨rfl,hb2'⟩;have hb2:=HMM.out w2 hb2';have M2:=M1.below hb2 M1.lt;have m1:=M2.cell 1;have g1:=M2.free 1;(have ml:=M2.lt)))
  have H2:=h1.keep hb2;have S2:=S1.trans (qW.of (cb:=cb) (V:=V) hb2);have N2:=N1.below hb2 N1.lt;have R2:=R1.below hb2 R1.lt;have H3:=H2.other ⟨w.heap.size+2,1,none⟩ hmn (λe=>absurd e.2 (Nat.not_lt.2 (Nat.le_add_right _ _))) (.int .i64 (CN:Nat));have S3:=S2.set (q:=⟨w.heap.size+2,1,none⟩) (by show w.heap.size≤w.heap.size+2;omega) (.int .i64 (CN:Nat));have N3:=N2.other (p:=⟨w.heap.size+2,1,none⟩) (by show w.heap.size≠w.heap.size+2;omega) (.int .i64 (CN:Nat));have R3:=R2.other (p:=⟨w.heap.size+2,1,none⟩) (by show w.heap.size+1≠w.heap.size+2;omega) (.int .i64 (CN:Nat));have M3:zh (w2.setCell ⟨w.heap.size+2,1,none⟩ (.int .i64 (CN:Nat))) (w.heap.size+2) 136 #[.string (bs n.op),.int .i64 (CN:Nat),.slice none 0 0]:=M2.putP 1 _;generalize w2.setCell ⟨w.heap.size+2,1,none⟩ (.int .i64 (CN:Nat))=W3 at *;have c0:=H3.has.cell 0;have n2:=N3.cell 2;simp only[qQ,qR,qS]at c0 n2;clear m1 g1 ml hb2 hb2' H2 S2 N2 R2 M2 hah HMM;refine vQ (S:=λwz=>wz.cell? ⟨cb,0,none⟩=some V.vd∧wz.cell? ⟨w.heap.size,2,none⟩=some (.int .i64 n.n)) 13 (by kernel_rfl) (⟨c0,n2⟩) (λhHeld=>?_);refine vv 0 (some 65) (.pointer (some ⟨cb,0,none⟩)) hHeld ?_;simp only[Act.put,zl,zk,zj];refine vv 1 (some 66) (.pointer (some ⟨cb,0,none⟩)) hHeld ?_;simp only[Act.put,zl,zk,zj];refine vv 2 (some 67) (.pointer (some ⟨cb,0,none⟩)) hHeld ?_;simp only[Act.put,zl,zk,zj];refine vv 3 (some 68) (.pointer (some ⟨cb,0,none⟩)) hHeld ?_;simp only[Act.put,zl,zk,zj];refine vv 4 (some 69) (.pointer (some ⟨cb,0,none⟩)) hHeld ?_;simp only[Act.put,zl,zk,zj];refine yb 5 (some 70) (V.vd) rfl rfl (λwz hz=>by obtain⟨z0,z1⟩:=hz;unfold execOp;go_simp) hHeld ?_;simp only[Act.put,zl,zk,zj];refine vv 6 (some 71) (.pointer (some ⟨w.heap.size,2,none⟩)) hHeld ?_;simp only[Act.put,zl,zk,zj];refine yb 7 (some 72) (.int .i64 n.n) rfl rfl (λwz hz=>by obtain⟨z0,z1⟩:=hz;unfold execOp;go_simp) hHeld ?_;simp only[Act.put,zl,zk,zj]
  have hS2:(W3.drew.alloc (.cells #[.int .i64 n.n] 3)).cell? ⟨cb,0,none⟩=some V.vd∧(W3.drew.alloc (.cells #[.int .i64 n.n] 3)).cell? ⟨w.heap.size,2,none⟩=some (.int .i64 n.n):=⟨zc (zf W3.drew _) hHeld.1,zc (zf W3.drew _) hHeld.2⟩
  refine jk 8 (some 73) (.slice (some ⟨W3.heap.size,0,none⟩) 1 1) (W3.drew.alloc (.cells #[.int .i64 n.n] 3)) (by kernel_rfl) rfl rfl (by rfl) (by kernel_rfl) hS2 ?_;simp only[Act.put,zl,zk,zj];have hb4:Below W3.heap.size W3 (W3.drew.alloc (.cells #[.int .i64 n.n] 3)):=(zp (Below.refl _ W3)).trans (zf W3.drew _);have G3:=H3.keep hb4;obtain⟨A6,C6,w6,hr6,hrow6,hg6,hw6⟩:=jw gu (ty:=29) (W3.drew.alloc (.cells #[.int .i64 n.n] 3)) cb DL _ _ (by have:=G3.devs;rw[←HDL.out]at this;exact this) (by have:=G3.has.lt;omega) (by omega) [.int .i64 n.n] rfl (by intro u hu;simp at hu;subst hu;rfl) W3.heap.size (zh.new_at rfl);have N6:zh w6 w.heap.size 24 #[.string (bs n.op),.string (bs n.s),.int .i64 n.n,.int .i64 n.a,.slice A L C]:=zP ((zo N3).alloc _) hg6 (zH G3.devs ((zo N3).alloc _) (by decide));have R6:zh w6 (w.heap.size+1) 136 #[.string ⟨#[]⟩,.int .i64 0,.slice none 0 0]:=zP ((zo R3).alloc _) hg6 (zH G3.devs ((zo R3).alloc _) (by decide));have M6:=zP ((zo M3).alloc (.cells #[.int .i64 n.n] 3)) hg6 (zH G3.devs ((zo M3).alloc _) (by decide));have cb6h:=zP G3.has hg6 (zH G3.devs G3.has (by decide))
  have hS6:w6.cell? ⟨cb,0,none⟩=some V.vd∧w6.cell? ⟨w.heap.size,2,none⟩=some (.int .i64 n.n):=⟨cb6h.cell 0,N6.cell 2⟩
  refine jk 9 (some 74) (.slice A6 (DL+1) C6) w6 (by kernel_rfl) rfl rfl (by rfl) (jv _ _ rfl rfl rfl hr6) hS6 ?_;simp only[Act.put,zl,zk,zj];refine jk 10 (some 75) (.pointer (some ⟨cb,0,none⟩)) w6 (by kernel_rfl) rfl rfl (by rfl) rfl hS6 ?_;simp only[Act.put,zl,zk,zj];refine jk 11 (some 76) (.pointer (some ⟨cb,0,none⟩)) w6 (by kernel_rfl) rfl rfl (by rfl) rfl hS6 ?_;simp only[Act.put,zl,zk,zj];refine jk 12 (some 77) (.pointer (some ⟨cb,0,none⟩)) w6 (by kernel_rfl) rfl rfl (by rfl) rfl hS6 ?_;simp only[Act.put,zl,zk,zj];have q6:=cb6h.cell 0;have f6:=cb6h.free 0;refine jF 13 none (w6.setCell ⟨cb,0,none⟩ (.slice A6 (DL+1) C6)) (by kernel_rfl) rfl rfl (by rfl) (by unfold execOp;go_simp) (by kernel_rfl) ?_;simp only[Act.put];have hvn:(Value.int .i64 n.n)= .int .i64 ((n.n.toNat:Nat):Int):=by congr 1;omega
  rw[hvn]at hrow6;have hPD:=G3.putDev (A6:=A6) (C6:=C6) (d:=n.n.toNat) hg6 (by have:=hrow6;rw[HDL.out]at this;exact this) (by have:=hw6;rw[HDL.out]at this;exact this) hdv;have H4:zK (λg=>E g∧g<w.heap.size) (w6.setCell ⟨cb,0,none⟩ (.slice A6 (DL+1) C6)) cb { V with vd:= .slice A6 (DL+1) C6 } { c with devs:=c.devs++ [n.n.toNat] }:=by rw[HDL.out];exact hPD.1
  have S4:qW cb V (W3.drew.alloc (.cells #[.int .i64 n.n] 3)) { V with vd:= .slice A6 (DL+1) C6 } (w6.setCell ⟨cb,0,none⟩ (.slice A6 (DL+1) C6)):=by rw[HDL.out];exact hPD.2
  have hrn4:=(S4.inner (w.heap.size+1) (by have:=M3.lt;simp;omega) hrn).2;have S5:=(S3.trans (qW.of (cb:=cb) (V:=V) hb4)).trans S4;have R5:=R6.other (p:=⟨cb,0,none⟩) (by show w.heap.size+1≠cb;omega) (.slice A6 (DL+1) C6);have M5:=M6.other (p:=⟨cb,0,none⟩) (by show w.heap.size+2≠cb;omega) (.slice A6 (DL+1) C6);clear hPD S4;generalize w6.setCell ⟨cb,0,none⟩ (.slice A6 (DL+1) C6)=W5 at *;have m0:=M5.cell 0;have m1:=M5.cell 1;have m2:=M5.cell 2;simp only[qQ,qR,qS]at m0 m1 m2;have r0:=R5.cell 0;have r1:=R5.cell 1;have r2:=R5.cell 2;simp only[qQ,qR,qS]at r0 r1 r2;have g0:=R5.free 0;have g1:=R5.free 1;have g2:=R5.free 2;have rl:=R5.lt;have mlt:=M5.lt;clear q6 f6 hS6 hS2 hHeld cb6h M6 R6 N6 hrow6 hr6 hg6 hw6 G3 c0 n2 hb4
  go_wp2
  refine QB rfl rfl (R5.set3 _ _ _) rfl ?_;have S6:=S5.set3 (g:=w.heap.size+1) (by omega) (.string (bs n.op)) (.int .i64 (CN:Nat)) (.slice none 0 0);have H6:=H4.other3 (w.heap.size+1) hrn4 (λe=>absurd e.2 (Nat.not_lt.2 (Nat.le_add_right _ _))) (.string (bs n.op)) (.int .i64 (CN:Nat)) (.slice none 0 0);refine⟨S6.only,?_⟩;rw[HR.out];exact⟨.slice none 0 0,_,by rw[←HCN.out];rfl,XX rfl,H6.mono (λg _ _ he=> .inl he.1),S6⟩
 ·rw[if_pos h12]at hR
  have HR:=zt hR;have hno:=qE 134 n.a W1;rcases(by omega:¬1≤n.n∨(1≤n.n∧¬n.n≤2048))with k1|⟨k1,k2⟩
  all_goals
   clear h12 hR ho;unfold qa;go_enter Tryz.func88,Tryz.ntmps88
   go_wp2_with (first
    |((go_at_call 86)
      (first |rw[←HW.out]|skip)
      refine hno.mono ?_;rintro e w3 ⟨rfl,hw3⟩;(obtain rfl:W1=w3:=hw3.symm)))
   exact⟨rfl,S1.only,by rw[HR.out];rfl⟩
end
section
open Go.ChangeShapes Go.WideShapes Go.ChangeAt Go.RowKit Go.MapKept
variable {E:Nat→Prop}
theorem Yo{w:World}{cb:Nat}{V:CV}{c:Ck}(h:zK E w cb V c)(n:Nd)(A:Option Addr)(L C:Nat)(ho:n.op=zm)(hdv:c.devs.length≤90000):
 Calls Tryz.prog 88 #[.pointer (some ⟨cb,0,none⟩),.agg (qa n (.slice A L C))] w (Vr E w cb V (jJ c n)):=by
 obtain⟨W1,hW1⟩:∃W1,W1=((w.alloc (.cells #[.string (bs n.op),.string (bs n.s),.int .i64 n.n,.int .i64 n.a,.slice A L C] 24)).alloc (.cells #[.string ⟨#[]⟩,.int .i64 0,.slice none 0 0] 136)).alloc (.cells #[.string (bs n.op),.int .i64 0,.slice none 0 0] 136):=⟨_,rfl⟩
 have hb1:Below w.heap.size w W1:=by rw[hW1];exact xU _ _ _
 have N1:zh W1 w.heap.size 24 #[.string (bs n.op),.string (bs n.s),.int .i64 n.n,.int .i64 n.a,.slice A L C]:=by rw[hW1];exact((zh.new w _ _).alloc _).alloc _
 have R1:zh W1 (w.heap.size+1) 136 #[.string ⟨#[]⟩,.int .i64 0,.slice none 0 0]:=by rw[hW1];exact(zh.new_at (by simp)).alloc _
 have M1:zh W1 (w.heap.size+2) 136 #[.string (bs n.op),.int .i64 0,.slice none 0 0]:=by rw[hW1];exact zh.new_at (by simp)
 have h1:=(Z3 h).keep hb1;have S1:qW cb V w V W1:=qW.of hb1;have HW:=zt hW1;have lcb:=h.has.lt;have hrn:¬V.own cb (w.heap.size+1):=λe=>by have:=(h.low e).2;omega
 have hmn:¬V.own cb (w.heap.size+2):=λe=>by have:=(h.low e).2;omega
 have hot:=zr n.op;have f0:(n.op== [106,111,117,114,110,97,108])=true:=by rw[ho];decide
 have f1:(n.op== [100,101,118,105,99,101])=false:=by rw[ho];decide
 have f2:(n.op== [107,101,121])=false:=by rw[ho];decide
 have f3:(n.op== [114,111,111,116])=false:=by rw[ho];decide
 have f4:(n.op== [118,111,108,117,109,101])=false:=by rw[ho];decide
 have hR:jJ c n=if ¬(256≤n.n∧n.n≤2048)then .error (134,n.a)else if c.jour.isSome then .error (138,n.a)else .ok ({ c with jour:=some c.devs.length,devs:=c.devs++ [n.n.toNat] },⟨n.op,jN c.names [zd],[]⟩):=by
  unfold jJ;rw[if_pos ho]
 have c1:=h1.has.cell 1;have nc3:=N1.cell 3;simp only[qQ,qR,qS]at c1 nc3;clear hW1;by_cases h12:256≤n.n∧n.n≤2048
 ·rw[if_neg (not_not_intro h12)]at hR
  obtain⟨k1,k2⟩:=h12;have k3:1≤n.n:=by omega
  have hny:=zV 134 n.a W1;cases hx:c.jour with
  |some x0 =>
   have hxe:(jI c.jour== -1)=false:=by
    rw[hx,beq_eq_false_iff_ne];show((x0:Nat):Int)≠ -1;omega
   rw[hx,if_pos (show(some x0).isSome=true from rfl)]at hR;have HR:=zt hR;clear hR ho hx;unfold qa;go_enter Tryz.func88,Tryz.ntmps88
   go_wp2_with (first
    |((go_at_call 86)
      (first |rw[←HW.out]|skip)
      refine hny.mono ?_;rintro e w3 ⟨rfl,hw3⟩;(obtain rfl:W1=w3:=hw3.symm)))
   refine wp_region_held_drew (S:=λwz=>Below W1.heap.size W1 wz) (by kernel_rfl) ((Below.refl _ W1).drew) (λhHeld=>?_);refine zR 0 (some 31) (.pointer (some ⟨cb,0,none⟩)) hHeld ?_;simp only[Act.put,zl,zk,zj];refine zR 1 (some 32) (.pointer (some ⟨cb,0,none⟩)) hHeld ?_;simp only[Act.put,zl,zk,zj];refine zR 2 (some 33) (.pointer (some ⟨cb,0,none⟩)) hHeld ?_;simp only[Act.put,zl,zk,zj];refine zR 3 (some 34) (.pointer (some ⟨cb,1,none⟩)) hHeld ?_;simp only[Act.put,zl,zk,zj];refine qk 4 (some 35) (.int .i64 (jI c.jour)) rfl rfl (λwz hz=>by have z0:=zc hz c1;unfold execOp;go_simp) hHeld ?_;simp only[Act.put,zl,zk,zj];refine qk 5 (some 36) (.bool false) rfl rfl (λwz _=>vS _ (-1) rfl (jI c.jour) rfl false hxe wz) hHeld ?_;simp only[Act.put,zl,zk,zj];refine zR 6 (some 37) (.pointer (some ⟨w.heap.size,3,none⟩)) hHeld ?_;simp only[Act.put,zl,zk,zj];refine qk 7 (some 38) (.int .i64 n.a) rfl rfl (λwz hz=>by have z0:=zc hz nc3;unfold execOp;go_simp) hHeld ?_;simp only[Act.put,zl,zk,zj];refine qw 8 (some 39) 86 #[.bool false,.int .i64 138,.int .i64 n.a] (by kernel_rfl) rfl rfl (by rfl) (by kernel_rfl) (qE 138 n.a W1.drew) ?_;rintro e w5 ⟨rfl,rfl⟩;refine .inr ⟨_,rfl,?_⟩;exact⟨rfl,S1.only.drew,by rw[HR.out];rfl⟩
  |none =>
   have hxe:(jI c.jour== -1)=true:=by rw[hx];rfl
   rw[hx,if_neg (show ¬(none:Option Nat).isSome=true by decide)]at hR;have HR:=zt hR;clear hR ho hx;unfold qa;go_enter Tryz.func88,Tryz.ntmps88
   go_wp2_with (first
    |((go_at_call 86)
      (first |rw[←HW.out]|skip)
      refine hny.mono ?_;rintro e w3 ⟨rfl,hw3⟩;(obtain rfl:W1=w3:=hw3.symm)))
   refine wp_region_held_drew (S:=λwz=>Below W1.heap.size W1 wz) (by kernel_rfl) ((Below.refl _ W1).drew) (λhHeld=>?_);refine zR 0 (some 31) (.pointer (some ⟨cb,0,none⟩)) hHeld ?_;simp only[Act.put,zl,zk,zj];refine zR 1 (some 32) (.pointer (some ⟨cb,0,none⟩)) hHeld ?_;simp only[Act.put,zl,zk,zj];refine zR 2 (some 33) (.pointer (some ⟨cb,0,none⟩)) hHeld ?_;simp only[Act.put,zl,zk,zj];refine zR 3 (some 34) (.pointer (some ⟨cb,1,none⟩)) hHeld ?_;simp only[Act.put,zl,zk,zj];refine qk 4 (some 35) (.int .i64 (jI c.jour)) rfl rfl (λwz hz=>by have z0:=zc hz c1;unfold execOp;go_simp) hHeld ?_;simp only[Act.put,zl,zk,zj];refine qk 5 (some 36) (.bool true) rfl rfl (λwz _=>vS _ (-1) rfl (jI c.jour) rfl true hxe wz) hHeld ?_;simp only[Act.put,zl,zk,zj];refine zR 6 (some 37) (.pointer (some ⟨w.heap.size,3,none⟩)) hHeld ?_;simp only[Act.put,zl,zk,zj];refine qk 7 (some 38) (.int .i64 n.a) rfl rfl (λwz hz=>by have z0:=zc hz nc3;unfold execOp;go_simp) hHeld ?_;simp only[Act.put,zl,zk,zj];refine qw 8 (some 39) 86 #[.bool true,.int .i64 138,.int .i64 n.a] (by kernel_rfl) rfl rfl (by rfl) (by kernel_rfl) (zV 138 n.a W1.drew) ?_;rintro e w5 ⟨rfl,rfl⟩;refine .inl ⟨_,rfl,hHeld,?_⟩;simp only[Act.put,zl,zk,zj];refine wpAnyH_done (by kernel_rfl) ?_ _;have hbd:Below W1.heap.size W1 W1.drew:=zp (Below.refl _ W1);have H2:=h1.keep hbd;have S2:=S1.trans (qW.of (cb:=cb) (V:=V) hbd);have N2:=zo N1;have R2:=zo R1;have M2:=zo M1;clear hHeld c1 nc3 h1 S1 N1 R1 M1 hb1 HW hny;generalize W1.drew=W2 at *;obtain⟨Ad,Cd,evd⟩:=H2.vdv;have a0:=H2.has.cell 0;have a1:=H2.has.cell 1;have a1f:=H2.has.free 1;have alt:=H2.has.lt;have a2:=N2.cell 2;have a3:=N2.cell 3;have anl:=N2.lt;simp only[List.getElem?_toArray,List.getElem?_cons_zero,List.getElem?_cons_succ,evd]at a0 a1 a2 a3
   obtain⟨DJ,hDJ⟩:∃DJ,DJ=c.devs.length:=⟨_,rfl⟩
   have HDJ:=zt hDJ;rw[←hDJ]at a0;clear hDJ
   obtain⟨WJ,hWJ⟩:∃WJ,WJ=W2.setCell ⟨cb,1,none⟩ (.int .i64 (DJ:Nat)):=⟨_,rfl⟩
   have hPJ:=H2.put (c':={ c with jour:=some c.devs.length }) 1 (.int .i64 (c.devs.length:Nat)) (H2.has.putP 1 _) rfl rfl rfl;have HJ:zK (λg=>E g∧g<w.heap.size) WJ cb V { c with jour:=some c.devs.length }:=by rw[hWJ,HDJ.out];exact hPJ.1
   have SJ:qW cb V w V WJ:=by rw[hWJ,HDJ.out];exact S2.trans hPJ.2
   have NJ:zh WJ w.heap.size 24 #[.string (bs n.op),.string (bs n.s),.int .i64 n.n,.int .i64 n.a,.slice A L C]:=by rw[hWJ];exact N2.other (p:=⟨cb,1,none⟩) (by show w.heap.size≠cb;omega) _
   have RJ:zh WJ (w.heap.size+1) 136 #[.string ⟨#[]⟩,.int .i64 0,.slice none 0 0]:=by rw[hWJ];exact R2.other (p:=⟨cb,1,none⟩) (by show w.heap.size+1≠cb;omega) _
   have MJ:zh WJ (w.heap.size+2) 136 #[.string (bs n.op),.int .i64 0,.slice none 0 0]:=by rw[hWJ];exact M2.other (p:=⟨cb,1,none⟩) (by show w.heap.size+2≠cb;omega) _
   have HW:=zt hWJ;have hdj:(DJ:Int)≤90000:=by have:=HDJ.out;omega
   clear hPJ N2 R2 M2 S2 H2 hWJ;have hny:=zV 134 n.a WJ;have hah:=xH (HJ.alloc (.cells #[.string ⟨#[100,101,118,105,99,101]⟩] 9)) [zd] (.slice (some ⟨WJ.heap.size,0,none⟩) 1 1) (.inr ⟨WJ.heap.size,rfl,zh.new_at rfl⟩) (by simp)
   obtain⟨CN,hCN⟩:∃CN,CN=jN c.names [zd]:=⟨_,rfl⟩
   have HCN:=zt hCN
   obtain⟨DL,hDL⟩:∃DL,DL=c.devs.length:=⟨_,rfl⟩
   have HDL:=zt hDL;have hdl:DL≤90000:=by rw[hDL];exact hdv
   change Calls _ _ _ _ (λe w'=>e= .returned (.int .i64 (jN c.names [zd]:Nat))∧Below (WJ.alloc (.cells #[.string ⟨#[100,101,118,105,99,101]⟩] 9)).heap.size (WJ.alloc (.cells #[.string ⟨#[100,101,118,105,99,101]⟩] 9)) w')at hah;rw[←hCN]at hah;clear hCN hDL;have HMM:=zt (λw2 (hb:Below (WJ.alloc (.cells #[.string ⟨#[100,101,118,105,99,101]⟩] 9)).heap.size (WJ.alloc (.cells #[.string ⟨#[100,101,118,105,99,101]⟩] 9)) w2)=>(zf WJ (.cells #[.string ⟨#[100,101,118,105,99,101]⟩] 9)).trans (hb.mono (by simp)))
   go_wp2_with (first
    |((go_at_call 86)
      (first |rw[←HW.out]|skip)
      refine hny.mono ?_;rintro e w3 ⟨rfl,hw3⟩;(obtain rfl:WJ=w3:=hw3.symm))
    |((go_at_call 118)
      refine hah.mono ?_;rintro e w2 ⟨rfl,hb2'⟩;have hb2:=HMM.out w2 hb2';have M2:=MJ.below hb2 MJ.lt;have m1:=M2.cell 1;have g1:=M2.free 1;(have ml:=M2.lt)))
   have H2:=HJ.keep hb2;have S2:=SJ.trans (qW.of (cb:=cb) (V:=V) hb2);have N2:=NJ.below hb2 NJ.lt;have R2:=RJ.below hb2 RJ.lt;have H3:=H2.other ⟨w.heap.size+2,1,none⟩ hmn (λe=>absurd e.2 (Nat.not_lt.2 (Nat.le_add_right _ _))) (.int .i64 (CN:Nat));have S3:=S2.set (q:=⟨w.heap.size+2,1,none⟩) (by show w.heap.size≤w.heap.size+2;omega) (.int .i64 (CN:Nat));have N3:=N2.other (p:=⟨w.heap.size+2,1,none⟩) (by show w.heap.size≠w.heap.size+2;omega) (.int .i64 (CN:Nat));have R3:=R2.other (p:=⟨w.heap.size+2,1,none⟩) (by show w.heap.size+1≠w.heap.size+2;omega) (.int .i64 (CN:Nat));have M3:zh (w2.setCell ⟨w.heap.size+2,1,none⟩ (.int .i64 (CN:Nat))) (w.heap.size+2) 136 #[.string (bs n.op),.int .i64 (CN:Nat),.slice none 0 0]:=M2.putP 1 _;generalize w2.setCell ⟨w.heap.size+2,1,none⟩ (.int .i64 (CN:Nat))=W3 at *;have c0:=H3.has.cell 0;have n2:=N3.cell 2;simp only[qQ,qR,qS]at c0 n2;clear m1 g1 ml hb2 hb2' H2 S2 N2 R2 M2 hah HMM;refine vQ (S:=λwz=>wz.cell? ⟨cb,0,none⟩=some V.vd∧wz.cell? ⟨w.heap.size,2,none⟩=some (.int .i64 n.n)) 13 (by kernel_rfl) (⟨c0,n2⟩) (λhHeld=>?_);refine vv 0 (some 65) (.pointer (some ⟨cb,0,none⟩)) hHeld ?_;simp only[Act.put,zl,zk,zj];refine vv 1 (some 66) (.pointer (some ⟨cb,0,none⟩)) hHeld ?_;simp only[Act.put,zl,zk,zj];refine vv 2 (some 67) (.pointer (some ⟨cb,0,none⟩)) hHeld ?_;simp only[Act.put,zl,zk,zj];refine vv 3 (some 68) (.pointer (some ⟨cb,0,none⟩)) hHeld ?_;simp only[Act.put,zl,zk,zj];refine vv 4 (some 69) (.pointer (some ⟨cb,0,none⟩)) hHeld ?_;simp only[Act.put,zl,zk,zj];refine yb 5 (some 70) (V.vd) rfl rfl (λwz hz=>by obtain⟨z0,z1⟩:=hz;unfold execOp;go_simp) hHeld ?_;simp only[Act.put,zl,zk,zj];refine vv 6 (some 71) (.pointer (some ⟨w.heap.size,2,none⟩)) hHeld ?_;simp only[Act.put,zl,zk,zj];refine yb 7 (some 72) (.int .i64 n.n) rfl rfl (λwz hz=>by obtain⟨z0,z1⟩:=hz;unfold execOp;go_simp) hHeld ?_;simp only[Act.put,zl,zk,zj]
   have hS2:(W3.drew.alloc (.cells #[.int .i64 n.n] 3)).cell? ⟨cb,0,none⟩=some V.vd∧(W3.drew.alloc (.cells #[.int .i64 n.n] 3)).cell? ⟨w.heap.size,2,none⟩=some (.int .i64 n.n):=⟨zc (zf W3.drew _) hHeld.1,zc (zf W3.drew _) hHeld.2⟩
   refine jk 8 (some 73) (.slice (some ⟨W3.heap.size,0,none⟩) 1 1) (W3.drew.alloc (.cells #[.int .i64 n.n] 3)) (by kernel_rfl) rfl rfl (by rfl) (by kernel_rfl) hS2 ?_;simp only[Act.put,zl,zk,zj];have hb4:Below W3.heap.size W3 (W3.drew.alloc (.cells #[.int .i64 n.n] 3)):=(zp (Below.refl _ W3)).trans (zf W3.drew _);have G3:=H3.keep hb4;obtain⟨A6,C6,w6,hr6,hrow6,hg6,hw6⟩:=jw gu (ty:=29) (W3.drew.alloc (.cells #[.int .i64 n.n] 3)) cb DL _ _ (by have:=G3.devs;rw[←HDL.out]at this;exact this) (by have:=G3.has.lt;omega) (by omega) [.int .i64 n.n] rfl (by intro u hu;simp at hu;subst hu;rfl) W3.heap.size (zh.new_at rfl);have N6:zh w6 w.heap.size 24 #[.string (bs n.op),.string (bs n.s),.int .i64 n.n,.int .i64 n.a,.slice A L C]:=zP ((zo N3).alloc _) hg6 (zH G3.devs ((zo N3).alloc _) (by decide));have R6:zh w6 (w.heap.size+1) 136 #[.string ⟨#[]⟩,.int .i64 0,.slice none 0 0]:=zP ((zo R3).alloc _) hg6 (zH G3.devs ((zo R3).alloc _) (by decide));have M6:=zP ((zo M3).alloc (.cells #[.int .i64 n.n] 3)) hg6 (zH G3.devs ((zo M3).alloc _) (by decide));have cb6h:=zP G3.has hg6 (zH G3.devs G3.has (by decide))
   have hS6:w6.cell? ⟨cb,0,none⟩=some V.vd∧w6.cell? ⟨w.heap.size,2,none⟩=some (.int .i64 n.n):=⟨cb6h.cell 0,N6.cell 2⟩
   refine jk 9 (some 74) (.slice A6 (DL+1) C6) w6 (by kernel_rfl) rfl rfl (by rfl) (jv _ _ rfl rfl rfl hr6) hS6 ?_;simp only[Act.put,zl,zk,zj];refine jk 10 (some 75) (.pointer (some ⟨cb,0,none⟩)) w6 (by kernel_rfl) rfl rfl (by rfl) rfl hS6 ?_;simp only[Act.put,zl,zk,zj];refine jk 11 (some 76) (.pointer (some ⟨cb,0,none⟩)) w6 (by kernel_rfl) rfl rfl (by rfl) rfl hS6 ?_;simp only[Act.put,zl,zk,zj];refine jk 12 (some 77) (.pointer (some ⟨cb,0,none⟩)) w6 (by kernel_rfl) rfl rfl (by rfl) rfl hS6 ?_;simp only[Act.put,zl,zk,zj];have q6:=cb6h.cell 0;have f6:=cb6h.free 0;refine jF 13 none (w6.setCell ⟨cb,0,none⟩ (.slice A6 (DL+1) C6)) (by kernel_rfl) rfl rfl (by rfl) (by unfold execOp;go_simp) (by kernel_rfl) ?_;simp only[Act.put];have hvn:(Value.int .i64 n.n)= .int .i64 ((n.n.toNat:Nat):Int):=by congr 1;omega
   rw[hvn]at hrow6;have hPD:=G3.putDev (A6:=A6) (C6:=C6) (d:=n.n.toNat) hg6 (by have:=hrow6;rw[HDL.out]at this;exact this) (by have:=hw6;rw[HDL.out]at this;exact this) hdv;have H4:zK (λg=>E g∧g<w.heap.size) (w6.setCell ⟨cb,0,none⟩ (.slice A6 (DL+1) C6)) cb { V with vd:= .slice A6 (DL+1) C6 } { c with jour:=some c.devs.length,devs:=c.devs++ [n.n.toNat] }:=by rw[HDL.out];exact hPD.1
   have S4:qW cb V (W3.drew.alloc (.cells #[.int .i64 n.n] 3)) { V with vd:= .slice A6 (DL+1) C6 } (w6.setCell ⟨cb,0,none⟩ (.slice A6 (DL+1) C6)):=by rw[HDL.out];exact hPD.2
   have hrn4:=(S4.inner (w.heap.size+1) (by have:=M3.lt;simp;omega) hrn).2;have S5:=(S3.trans (qW.of (cb:=cb) (V:=V) hb4)).trans S4;have R5:=R6.other (p:=⟨cb,0,none⟩) (by show w.heap.size+1≠cb;omega) (.slice A6 (DL+1) C6);have M5:=M6.other (p:=⟨cb,0,none⟩) (by show w.heap.size+2≠cb;omega) (.slice A6 (DL+1) C6);clear hPD S4;generalize w6.setCell ⟨cb,0,none⟩ (.slice A6 (DL+1) C6)=W5 at *;have m0:=M5.cell 0;have m1:=M5.cell 1;have m2:=M5.cell 2;simp only[qQ,qR,qS]at m0 m1 m2;have r0:=R5.cell 0;have r1:=R5.cell 1;have r2:=R5.cell 2;simp only[qQ,qR,qS]at r0 r1 r2;have g0:=R5.free 0;have g1:=R5.free 1;have g2:=R5.free 2;have rl:=R5.lt;have mlt:=M5.lt;clear q6 f6 hS6 hS2 hHeld cb6h M6 R6 N6 hrow6 hr6 hg6 hw6 G3 c0 n2 hb4
   go_wp2
   refine QB rfl rfl (R5.set3 _ _ _) rfl ?_;have S6:=S5.set3 (g:=w.heap.size+1) (by omega) (.string (bs n.op)) (.int .i64 (CN:Nat)) (.slice none 0 0);have H6:=H4.other3 (w.heap.size+1) hrn4 (λe=>absurd e.2 (Nat.not_lt.2 (Nat.le_add_right _ _))) (.string (bs n.op)) (.int .i64 (CN:Nat)) (.slice none 0 0);refine⟨S6.only,?_⟩;rw[HR.out];exact⟨.slice none 0 0,_,by rw[←HCN.out];rfl,XX rfl,H6.mono (λg _ _ he=> .inl he.1),S6⟩
 ·rw[if_pos h12]at hR
  have HR:=zt hR;have hno:=qE 134 n.a W1;rcases(by omega:¬256≤n.n∨(256≤n.n∧¬n.n≤2048))with k1|⟨k1,k2⟩
  all_goals
   clear h12 hR ho c1 nc3;unfold qa;go_enter Tryz.func88,Tryz.ntmps88
   go_wp2_with (first
    |((go_at_call 86)
      (first |rw[←HW.out]|skip)
      refine hno.mono ?_;rintro e w3 ⟨rfl,hw3⟩;(obtain rfl:W1=w3:=hw3.symm)))
   exact⟨rfl,S1.only,by rw[HR.out];rfl⟩
end
section
open Go.ChangeShapes Go.WideShapes Go.ChangeAt Go.RowKit Go.MapKept
variable {E:Nat→Prop}
theorem GW{w:World}{cb:Nat}{V:CV}{c:Ck}(h:zK E w cb V c)(n:Nd)(A:Option Addr)(L C:Nat)(hL:L=1)(gn on:Nat)(hA:A=some ⟨gn,on,none⟩)(hgn:gn<w.heap.size)(x:List UInt8)(hnx:(vh n.l 0).s=x)(hsx:w.cell? ⟨gn,on+0*5+1,none⟩=some (.string (bs x)))(hf:∀c ∈ x,zq c=true)(ho:n.op=qo):
 Calls Tryz.prog 88 #[.pointer (some ⟨cb,0,none⟩),.agg (qa n (.slice A L C))] w (Vr E w cb V (jJ c n)):=by
 obtain⟨W1,hW1⟩:∃W1,W1=((w.alloc (.cells #[.string (bs n.op),.string (bs n.s),.int .i64 n.n,.int .i64 n.a,.slice A L C] 24)).alloc (.cells #[.string ⟨#[]⟩,.int .i64 0,.slice none 0 0] 136)).alloc (.cells #[.string (bs n.op),.int .i64 0,.slice none 0 0] 136):=⟨_,rfl⟩
 have hb1:Below w.heap.size w W1:=by rw[hW1];exact xU _ _ _
 have N1:zh W1 w.heap.size 24 #[.string (bs n.op),.string (bs n.s),.int .i64 n.n,.int .i64 n.a,.slice A L C]:=by rw[hW1];exact((zh.new w _ _).alloc _).alloc _
 have R1:zh W1 (w.heap.size+1) 136 #[.string ⟨#[]⟩,.int .i64 0,.slice none 0 0]:=by rw[hW1];exact(zh.new_at (by simp)).alloc _
 have M1:zh W1 (w.heap.size+2) 136 #[.string (bs n.op),.int .i64 0,.slice none 0 0]:=by rw[hW1];exact zh.new_at (by simp)
 have h1:=(Z3 h).keep hb1;have S1:qW cb V w V W1:=qW.of hb1;have HW:=zt hW1;have lcb:=h.has.lt;have hrn:¬V.own cb (w.heap.size+1):=λe=>by have:=(h.low e).2;omega
 have hmn:¬V.own cb (w.heap.size+2):=λe=>by have:=(h.low e).2;omega
 have hot:=zr n.op;have f0:(n.op== [106,111,117,114,110,97,108])=false:=by rw[ho];decide
 have f1:(n.op== [100,101,118,105,99,101])=false:=by rw[ho];decide
 have f2:(n.op== [107,101,121])=true:=by rw[ho];decide
 have f3:(n.op== [114,111,111,116])=false:=by rw[ho];decide
 have f4:(n.op== [118,111,108,117,109,101])=false:=by rw[ho];decide
 have hR:jJ c n=if x.length≠64 then .error (135,n.a)else .ok (c,⟨n.op,0,vF x⟩):=by
  unfold jJ;rw[if_neg (show ¬n.op=zm by rw[ho];decide),if_neg (show ¬n.op=zd by rw[ho];decide),if_pos (show n.op=qo∨n.op=zQ by first |exact .inl ho|exact .inr ho),hnx]
 subst hL hA;have sxr:=zc hb1 hsx;have nc4:=N1.cell 4;have nc3:=N1.cell 3;simp only[qQ,qR,qS]at nc3 nc4
 obtain⟨X,hX⟩:∃X,X=x.length:=⟨_,rfl⟩
 have HX:=zt (show(bs x).size=X by rw[hX];exact zx x);have hxs:=zr x;clear hW1;by_cases h64:x.length=64
 ·have hX64:(((X:Nat):Int)==64)=true:=by rw[hX,h64];rfl
  rw[if_neg (not_not_intro h64)]at hR;have HR:=zt hR;have HU:=zt (λW=>kQ x W h64 hf);have HUL:=zt (ZO 32 x (by omega));clear hR ho hX h64;unfold qa;go_enter Tryz.func88,Tryz.ntmps88
  go_wp2
  rw[←HW.out];refine wp_region_held_drew (S:=λwz=>Below W1.heap.size W1 wz) (by kernel_rfl) ((Below.refl _ W1).drew) (λhHeld=>?_);refine zR 0 (some 78) (.pointer (some ⟨w.heap.size,4,none⟩)) hHeld ?_;simp only[Act.put,zl,zk,zj];refine qk 1 (some 79) (.slice (some ⟨gn,on,none⟩) 1 C) rfl rfl (λwz hz=>by have z0:=zc hz nc4;unfold execOp;go_simp) hHeld ?_;simp only[Act.put,zl,zk,zj];refine qk 2 (some 80) (.pointer (some ⟨gn,on+0*5,none⟩)) rfl rfl (λwz _=>qr _ _ rfl gn on 0 1 C rfl rfl (by decide) wz) hHeld ?_;simp only[Act.put,zl,zk,zj];refine zR 3 (some 81) (.pointer (some ⟨gn,on+0*5+1,none⟩)) hHeld ?_;simp only[Act.put,zl,zk,zj];refine qk 4 (some 82) (.string (bs x)) rfl rfl (λwz hz=>by have z0:=zc hz sxr;unfold execOp;go_simp) hHeld ?_;simp only[Act.put,zl,zk,zj];refine qk 5 (some 83) (.int .i64 (X:Nat)) rfl rfl (λwz _=>by unfold execOp;go_simp;rw[HX.out]) hHeld ?_;simp only[Act.put,zl,zk,zj];refine qk 6 (some 84) (.bool true) rfl rfl (λwz _=>vS _ 64 rfl (X:Nat) rfl true hX64 wz) hHeld ?_;simp only[Act.put,zl,zk,zj];refine zR 7 (some 85) (.pointer (some ⟨w.heap.size,3,none⟩)) hHeld ?_;simp only[Act.put,zl,zk,zj];refine qk 8 (some 86) (.int .i64 n.a) rfl rfl (λwz hz=>by have z0:=zc hz nc3;unfold execOp;go_simp) hHeld ?_;simp only[Act.put,zl,zk,zj];refine qw 9 (some 87) 86 #[.bool true,.int .i64 135,.int .i64 n.a] (by kernel_rfl) rfl rfl (by rfl) (by kernel_rfl) (zV 135 n.a W1.drew) ?_;rintro e w5 ⟨rfl,rfl⟩;refine .inl ⟨_,rfl,hHeld,?_⟩;simp only[Act.put,zl,zk,zj];refine wpAnyH_done (by kernel_rfl) ?_ _;have hbd:Below W1.heap.size W1 W1.drew:=zp (Below.refl _ W1);have H2:=h1.keep hbd;have S2:=S1.trans (qW.of (cb:=cb) (V:=V) hbd);have N2:=zo N1;have R2:=zo R1;have M2:=zo M1;replace sxr:=zc hbd sxr;replace nc4:=zc hbd nc4;have hg2:gn<W1.drew.heap.size:=Nat.lt_of_lt_of_le hgn (Nat.le_trans hb1.size hbd.size);clear hHeld nc3 h1 S1 N1 R1 M1 hb1 HW hbd;generalize W1.drew=W2 at *;have nl2:=N2.lt;have hux:=HU.out W2
  go_wp2_with (first
   |((refine zg 90 rfl ?_)
     (refine ze (some 90) (.pointer (some ⟨gn,on+0*5,none⟩)) rfl (by rfl) (qr _ _ rfl gn on 0 1 C rfl rfl (by decide) W2) ?_))
   |((go_at_call 119)
     refine hux.mono ?_;rintro e w5 ⟨v,rfl,⟨Av,Cv,rfl,hv1,hv2,hvb⟩,hb5⟩;rw[HUL.out]at hv1 ⊢;have M5:=M2.below hb5 M2.lt;have R5:=R2.below hb5 R2.lt;have m0:=M5.cell 0;have m1:=M5.cell 1;have m2:=M5.cell 2;have r0:=R5.cell 0;have r1:=R5.cell 1;have r2:=R5.cell 2;simp only[qQ,qR,qS]at m0 m1 m2 r0 r1 r2;have mf:=M5.free 2;have ml:=M5.lt;have g0:=R5.free 0;have g1:=R5.free 1;have g2:=R5.free 2;(have rl:=R5.lt)))
  have H5:=H2.keep hb5;have S5:=S2.trans (qW.of (cb:=cb) (V:=V) hb5);have H6:=H5.other ⟨w.heap.size+2,2,none⟩ hmn (λe=>absurd e.2 (Nat.not_lt.2 (Nat.le_add_right _ _))) (.slice Av 32 Cv);have S6:=S5.set (q:=⟨w.heap.size+2,2,none⟩) (by show w.heap.size≤w.heap.size+2;omega) (.slice Av 32 Cv);have R6:=R5.other (p:=⟨w.heap.size+2,2,none⟩) (by show w.heap.size+1≠w.heap.size+2;omega) (.slice Av 32 Cv);have rl2:=M2.lt;have hvb6:vE (w5.setCell ⟨w.heap.size+2,2,none⟩ (.slice Av 32 Cv)) (λg=>W2.heap.size≤g) Av (vF x):=hvb.keep (by simp) (λk hk hP=>⟨Below.heap_setCell w5 _ _ k (by show k≠w.heap.size+2;omega),hP⟩);refine QB rfl rfl (R6.set3 _ _ _) rfl ?_;have S7:=S6.set3 (g:=w.heap.size+1) (by omega) (.string (bs n.op)) (.int .i64 0) (.slice Av 32 Cv);have H7:=H6.other3 (w.heap.size+1) hrn (λe=>absurd e.2 (Nat.not_lt.2 (Nat.le_add_right _ _))) (.string (bs n.op)) (.int .i64 0) (.slice Av 32 Cv);refine⟨S7.only,?_⟩;rw[HR.out];refine⟨.slice Av 32 Cv,V,rfl,⟨Av,Cv,by rw[HUL.out],by rw[HUL.out];exact hv1,hv2,?_⟩,H7.mono (λg _ _ he=> .inl he.1),S7⟩;refine hvb6.keep (by simp) (λk hk hP=>⟨?_,λe=>?_,.inr ?_⟩)
  ·have hne:k≠w.heap.size+1:=by omega
   exact(Below.heap_setCell _ ⟨w.heap.size+1,2,none⟩ _ k hne).trans ((Below.heap_setCell _ ⟨w.heap.size+1,1,none⟩ _ k hne).trans (Below.heap_setCell _ ⟨w.heap.size+1,0,none⟩ _ k hne))
  ·have:=(h.low e).2;omega
  ·omega
 ·have hX64:(((X:Nat):Int)==64)=false:=by rw[beq_eq_false_iff_ne];omega
  rw[if_pos h64]at hR;have HR:=zt hR;clear hR ho hX;unfold qa;go_enter Tryz.func88,Tryz.ntmps88
  go_wp2
  rw[←HW.out];refine wp_region_held_drew (S:=λwz=>Below W1.heap.size W1 wz) (by kernel_rfl) ((Below.refl _ W1).drew) (λhHeld=>?_);refine zR 0 (some 78) (.pointer (some ⟨w.heap.size,4,none⟩)) hHeld ?_;simp only[Act.put,zl,zk,zj];refine qk 1 (some 79) (.slice (some ⟨gn,on,none⟩) 1 C) rfl rfl (λwz hz=>by have z0:=zc hz nc4;unfold execOp;go_simp) hHeld ?_;simp only[Act.put,zl,zk,zj];refine qk 2 (some 80) (.pointer (some ⟨gn,on+0*5,none⟩)) rfl rfl (λwz _=>qr _ _ rfl gn on 0 1 C rfl rfl (by decide) wz) hHeld ?_;simp only[Act.put,zl,zk,zj];refine zR 3 (some 81) (.pointer (some ⟨gn,on+0*5+1,none⟩)) hHeld ?_;simp only[Act.put,zl,zk,zj];refine qk 4 (some 82) (.string (bs x)) rfl rfl (λwz hz=>by have z0:=zc hz sxr;unfold execOp;go_simp) hHeld ?_;simp only[Act.put,zl,zk,zj];refine qk 5 (some 83) (.int .i64 (X:Nat)) rfl rfl (λwz _=>by unfold execOp;go_simp;rw[HX.out]) hHeld ?_;simp only[Act.put,zl,zk,zj];refine qk 6 (some 84) (.bool false) rfl rfl (λwz _=>vS _ 64 rfl (X:Nat) rfl false hX64 wz) hHeld ?_;simp only[Act.put,zl,zk,zj];refine zR 7 (some 85) (.pointer (some ⟨w.heap.size,3,none⟩)) hHeld ?_;simp only[Act.put,zl,zk,zj];refine qk 8 (some 86) (.int .i64 n.a) rfl rfl (λwz hz=>by have z0:=zc hz nc3;unfold execOp;go_simp) hHeld ?_;simp only[Act.put,zl,zk,zj];refine qw 9 (some 87) 86 #[.bool false,.int .i64 135,.int .i64 n.a] (by kernel_rfl) rfl rfl (by rfl) (by kernel_rfl) (qE 135 n.a W1.drew) ?_;rintro e w5 ⟨rfl,rfl⟩;refine .inr ⟨_,rfl,?_⟩;exact⟨rfl,S1.only.drew,by rw[HR.out];rfl⟩
theorem ue{w:World}{cb:Nat}{V:CV}{c:Ck}(h:zK E w cb V c)(n:Nd)(A:Option Addr)(L C:Nat)(hL:L=1)(gn on:Nat)(hA:A=some ⟨gn,on,none⟩)(hgn:gn<w.heap.size)(x:List UInt8)(hnx:(vh n.l 0).s=x)(hsx:w.cell? ⟨gn,on+0*5+1,none⟩=some (.string (bs x)))(hf:∀c ∈ x,zq c=true)(ho:n.op=zQ):
 Calls Tryz.prog 88 #[.pointer (some ⟨cb,0,none⟩),.agg (qa n (.slice A L C))] w (Vr E w cb V (jJ c n)):=by
 obtain⟨W1,hW1⟩:∃W1,W1=((w.alloc (.cells #[.string (bs n.op),.string (bs n.s),.int .i64 n.n,.int .i64 n.a,.slice A L C] 24)).alloc (.cells #[.string ⟨#[]⟩,.int .i64 0,.slice none 0 0] 136)).alloc (.cells #[.string (bs n.op),.int .i64 0,.slice none 0 0] 136):=⟨_,rfl⟩
 have hb1:Below w.heap.size w W1:=by rw[hW1];exact xU _ _ _
 have N1:zh W1 w.heap.size 24 #[.string (bs n.op),.string (bs n.s),.int .i64 n.n,.int .i64 n.a,.slice A L C]:=by rw[hW1];exact((zh.new w _ _).alloc _).alloc _
 have R1:zh W1 (w.heap.size+1) 136 #[.string ⟨#[]⟩,.int .i64 0,.slice none 0 0]:=by rw[hW1];exact(zh.new_at (by simp)).alloc _
 have M1:zh W1 (w.heap.size+2) 136 #[.string (bs n.op),.int .i64 0,.slice none 0 0]:=by rw[hW1];exact zh.new_at (by simp)
 have h1:=(Z3 h).keep hb1;have S1:qW cb V w V W1:=qW.of hb1;have HW:=zt hW1;have lcb:=h.has.lt;have hrn:¬V.own cb (w.heap.size+1):=λe=>by have:=(h.low e).2;omega
 have hmn:¬V.own cb (w.heap.size+2):=λe=>by have:=(h.low e).2;omega
 have hot:=zr n.op;have f0:(n.op== [106,111,117,114,110,97,108])=false:=by rw[ho];decide
 have f1:(n.op== [100,101,118,105,99,101])=false:=by rw[ho];decide
 have f2:(n.op== [107,101,121])=false:=by rw[ho];decide
 have f3:(n.op== [114,111,111,116])=true:=by rw[ho];decide
 have f4:(n.op== [118,111,108,117,109,101])=false:=by rw[ho];decide
 have hR:jJ c n=if x.length≠64 then .error (135,n.a)else .ok (c,⟨n.op,0,vF x⟩):=by
  unfold jJ;rw[if_neg (show ¬n.op=zm by rw[ho];decide),if_neg (show ¬n.op=zd by rw[ho];decide),if_pos (show n.op=qo∨n.op=zQ by first |exact .inl ho|exact .inr ho),hnx]
 subst hL hA;have sxr:=zc hb1 hsx;have nc4:=N1.cell 4;have nc3:=N1.cell 3;simp only[qQ,qR,qS]at nc3 nc4
 obtain⟨X,hX⟩:∃X,X=x.length:=⟨_,rfl⟩
 have HX:=zt (show(bs x).size=X by rw[hX];exact zx x);have hxs:=zr x;clear hW1;by_cases h64:x.length=64
 ·have hX64:(((X:Nat):Int)==64)=true:=by rw[hX,h64];rfl
  rw[if_neg (not_not_intro h64)]at hR;have HR:=zt hR;have HU:=zt (λW=>kQ x W h64 hf);have HUL:=zt (ZO 32 x (by omega));clear hR ho hX h64;unfold qa;go_enter Tryz.func88,Tryz.ntmps88
  go_wp2
  rw[←HW.out];refine wp_region_held_drew (S:=λwz=>Below W1.heap.size W1 wz) (by kernel_rfl) ((Below.refl _ W1).drew) (λhHeld=>?_);refine zR 0 (some 78) (.pointer (some ⟨w.heap.size,4,none⟩)) hHeld ?_;simp only[Act.put,zl,zk,zj];refine qk 1 (some 79) (.slice (some ⟨gn,on,none⟩) 1 C) rfl rfl (λwz hz=>by have z0:=zc hz nc4;unfold execOp;go_simp) hHeld ?_;simp only[Act.put,zl,zk,zj];refine qk 2 (some 80) (.pointer (some ⟨gn,on+0*5,none⟩)) rfl rfl (λwz _=>qr _ _ rfl gn on 0 1 C rfl rfl (by decide) wz) hHeld ?_;simp only[Act.put,zl,zk,zj];refine zR 3 (some 81) (.pointer (some ⟨gn,on+0*5+1,none⟩)) hHeld ?_;simp only[Act.put,zl,zk,zj];refine qk 4 (some 82) (.string (bs x)) rfl rfl (λwz hz=>by have z0:=zc hz sxr;unfold execOp;go_simp) hHeld ?_;simp only[Act.put,zl,zk,zj];refine qk 5 (some 83) (.int .i64 (X:Nat)) rfl rfl (λwz _=>by unfold execOp;go_simp;rw[HX.out]) hHeld ?_;simp only[Act.put,zl,zk,zj];refine qk 6 (some 84) (.bool true) rfl rfl (λwz _=>vS _ 64 rfl (X:Nat) rfl true hX64 wz) hHeld ?_;simp only[Act.put,zl,zk,zj];refine zR 7 (some 85) (.pointer (some ⟨w.heap.size,3,none⟩)) hHeld ?_;simp only[Act.put,zl,zk,zj];refine qk 8 (some 86) (.int .i64 n.a) rfl rfl (λwz hz=>by have z0:=zc hz nc3;unfold execOp;go_simp) hHeld ?_;simp only[Act.put,zl,zk,zj];refine qw 9 (some 87) 86 #[.bool true,.int .i64 135,.int .i64 n.a] (by kernel_rfl) rfl rfl (by rfl) (by kernel_rfl) (zV 135 n.a W1.drew) ?_;rintro e w5 ⟨rfl,rfl⟩;refine .inl ⟨_,rfl,hHeld,?_⟩;simp only[Act.put,zl,zk,zj];refine wpAnyH_done (by kernel_rfl) ?_ _;have hbd:Below W1.heap.size W1 W1.drew:=zp (Below.refl _ W1);have H2:=h1.keep hbd;have S2:=S1.trans (qW.of (cb:=cb) (V:=V) hbd);have N2:=zo N1;have R2:=zo R1;have M2:=zo M1;replace sxr:=zc hbd sxr;replace nc4:=zc hbd nc4;have hg2:gn<W1.drew.heap.size:=Nat.lt_of_lt_of_le hgn (Nat.le_trans hb1.size hbd.size);clear hHeld nc3 h1 S1 N1 R1 M1 hb1 HW hbd;generalize W1.drew=W2 at *;have nl2:=N2.lt;have hux:=HU.out W2
  go_wp2_with (first
   |((refine zg 90 rfl ?_)
     (refine ze (some 90) (.pointer (some ⟨gn,on+0*5,none⟩)) rfl (by rfl) (qr _ _ rfl gn on 0 1 C rfl rfl (by decide) W2) ?_))
   |((go_at_call 119)
     refine hux.mono ?_;rintro e w5 ⟨v,rfl,⟨Av,Cv,rfl,hv1,hv2,hvb⟩,hb5⟩;rw[HUL.out]at hv1 ⊢;have M5:=M2.below hb5 M2.lt;have R5:=R2.below hb5 R2.lt;have m0:=M5.cell 0;have m1:=M5.cell 1;have m2:=M5.cell 2;have r0:=R5.cell 0;have r1:=R5.cell 1;have r2:=R5.cell 2;simp only[qQ,qR,qS]at m0 m1 m2 r0 r1 r2;have mf:=M5.free 2;have ml:=M5.lt;have g0:=R5.free 0;have g1:=R5.free 1;have g2:=R5.free 2;(have rl:=R5.lt)))
  have H5:=H2.keep hb5;have S5:=S2.trans (qW.of (cb:=cb) (V:=V) hb5);have H6:=H5.other ⟨w.heap.size+2,2,none⟩ hmn (λe=>absurd e.2 (Nat.not_lt.2 (Nat.le_add_right _ _))) (.slice Av 32 Cv);have S6:=S5.set (q:=⟨w.heap.size+2,2,none⟩) (by show w.heap.size≤w.heap.size+2;omega) (.slice Av 32 Cv);have R6:=R5.other (p:=⟨w.heap.size+2,2,none⟩) (by show w.heap.size+1≠w.heap.size+2;omega) (.slice Av 32 Cv);have rl2:=M2.lt;have hvb6:vE (w5.setCell ⟨w.heap.size+2,2,none⟩ (.slice Av 32 Cv)) (λg=>W2.heap.size≤g) Av (vF x):=hvb.keep (by simp) (λk hk hP=>⟨Below.heap_setCell w5 _ _ k (by show k≠w.heap.size+2;omega),hP⟩);refine QB rfl rfl (R6.set3 _ _ _) rfl ?_;have S7:=S6.set3 (g:=w.heap.size+1) (by omega) (.string (bs n.op)) (.int .i64 0) (.slice Av 32 Cv);have H7:=H6.other3 (w.heap.size+1) hrn (λe=>absurd e.2 (Nat.not_lt.2 (Nat.le_add_right _ _))) (.string (bs n.op)) (.int .i64 0) (.slice Av 32 Cv);refine⟨S7.only,?_⟩;rw[HR.out];refine⟨.slice Av 32 Cv,V,rfl,⟨Av,Cv,by rw[HUL.out],by rw[HUL.out];exact hv1,hv2,?_⟩,H7.mono (λg _ _ he=> .inl he.1),S7⟩;refine hvb6.keep (by simp) (λk hk hP=>⟨?_,λe=>?_,.inr ?_⟩)
  ·have hne:k≠w.heap.size+1:=by omega
   exact(Below.heap_setCell _ ⟨w.heap.size+1,2,none⟩ _ k hne).trans ((Below.heap_setCell _ ⟨w.heap.size+1,1,none⟩ _ k hne).trans (Below.heap_setCell _ ⟨w.heap.size+1,0,none⟩ _ k hne))
  ·have:=(h.low e).2;omega
  ·omega
 ·have hX64:(((X:Nat):Int)==64)=false:=by rw[beq_eq_false_iff_ne];omega
  rw[if_pos h64]at hR;have HR:=zt hR;clear hR ho hX;unfold qa;go_enter Tryz.func88,Tryz.ntmps88
  go_wp2
  rw[←HW.out];refine wp_region_held_drew (S:=λwz=>Below W1.heap.size W1 wz) (by kernel_rfl) ((Below.refl _ W1).drew) (λhHeld=>?_);refine zR 0 (some 78) (.pointer (some ⟨w.heap.size,4,none⟩)) hHeld ?_;simp only[Act.put,zl,zk,zj];refine qk 1 (some 79) (.slice (some ⟨gn,on,none⟩) 1 C) rfl rfl (λwz hz=>by have z0:=zc hz nc4;unfold execOp;go_simp) hHeld ?_;simp only[Act.put,zl,zk,zj];refine qk 2 (some 80) (.pointer (some ⟨gn,on+0*5,none⟩)) rfl rfl (λwz _=>qr _ _ rfl gn on 0 1 C rfl rfl (by decide) wz) hHeld ?_;simp only[Act.put,zl,zk,zj];refine zR 3 (some 81) (.pointer (some ⟨gn,on+0*5+1,none⟩)) hHeld ?_;simp only[Act.put,zl,zk,zj];refine qk 4 (some 82) (.string (bs x)) rfl rfl (λwz hz=>by have z0:=zc hz sxr;unfold execOp;go_simp) hHeld ?_;simp only[Act.put,zl,zk,zj];refine qk 5 (some 83) (.int .i64 (X:Nat)) rfl rfl (λwz _=>by unfold execOp;go_simp;rw[HX.out]) hHeld ?_;simp only[Act.put,zl,zk,zj];refine qk 6 (some 84) (.bool false) rfl rfl (λwz _=>vS _ 64 rfl (X:Nat) rfl false hX64 wz) hHeld ?_;simp only[Act.put,zl,zk,zj];refine zR 7 (some 85) (.pointer (some ⟨w.heap.size,3,none⟩)) hHeld ?_;simp only[Act.put,zl,zk,zj];refine qk 8 (some 86) (.int .i64 n.a) rfl rfl (λwz hz=>by have z0:=zc hz nc3;unfold execOp;go_simp) hHeld ?_;simp only[Act.put,zl,zk,zj];refine qw 9 (some 87) 86 #[.bool false,.int .i64 135,.int .i64 n.a] (by kernel_rfl) rfl rfl (by rfl) (by kernel_rfl) (qE 135 n.a W1.drew) ?_;rintro e w5 ⟨rfl,rfl⟩;refine .inr ⟨_,rfl,?_⟩;exact⟨rfl,S1.only.drew,by rw[HR.out];rfl⟩
end
section
open Go.ChangeShapes Go.WideShapes Go.ChangeAt Go.RowKit Go.MapKept
variable {E:Nat→Prop}
theorem Xm{w:World}{cb:Nat}{V:CV}{c:Ck}(h:zK E w cb V c)(n:Nd)(A:Option Addr)(L C:Nat)(hL:L=1)(w0:World)(gn on:Nat)(hA:A=some ⟨gn,on,none⟩)(hgn:gn<w.heap.size)(x:Nd)(An:Option Addr)(Cn:Nat)(hnx:vh n.l 0=x)(hat:QV w gn (on+0*5) x An Cn)(hrx:j3 w0 x An Cn)(hcb:w0.heap.size≤cb-1)(hb0:Below w0.heap.size w0 w)(hxr:FA 12 x)(hxc:Gf cb w0 12)(hnm:v7 c.names c.parts)(hby:∀x ∈ c.names,x.2.bytes.length≤1000)(ho:n.op=zv):
 Calls Tryz.prog 88 #[.pointer (some ⟨cb,0,none⟩),.agg (qa n (.slice A L C))] w (Vr E w cb V (jJ c n)):=by
 obtain⟨W1,hW1⟩:∃W1,W1=((w.alloc (.cells #[.string (bs n.op),.string (bs n.s),.int .i64 n.n,.int .i64 n.a,.slice A L C] 24)).alloc (.cells #[.string ⟨#[]⟩,.int .i64 0,.slice none 0 0] 136)).alloc (.cells #[.string (bs n.op),.int .i64 0,.slice none 0 0] 136):=⟨_,rfl⟩
 have hb1:Below w.heap.size w W1:=by rw[hW1];exact xU _ _ _
 have N1:zh W1 w.heap.size 24 #[.string (bs n.op),.string (bs n.s),.int .i64 n.n,.int .i64 n.a,.slice A L C]:=by rw[hW1];exact((zh.new w _ _).alloc _).alloc _
 have R1:zh W1 (w.heap.size+1) 136 #[.string ⟨#[]⟩,.int .i64 0,.slice none 0 0]:=by rw[hW1];exact(zh.new_at (by simp)).alloc _
 have M1:zh W1 (w.heap.size+2) 136 #[.string (bs n.op),.int .i64 0,.slice none 0 0]:=by rw[hW1];exact zh.new_at (by simp)
 have h1:=(Z3 h).keep hb1;have S1:qW cb V w V W1:=qW.of hb1;have HW:=zt hW1;have lcb:=h.has.lt;have hrn:¬V.own cb (w.heap.size+1):=λe=>by have:=(h.low e).2;omega
 have hmn:¬V.own cb (w.heap.size+2):=λe=>by have:=(h.low e).2;omega
 have hot:=zr n.op;have f0:(n.op== [106,111,117,114,110,97,108])=false:=by rw[ho];decide
 have f1:(n.op== [100,101,118,105,99,101])=false:=by rw[ho];decide
 have f2:(n.op== [107,101,121])=false:=by rw[ho];decide
 have f3:(n.op== [114,111,111,116])=false:=by rw[ho];decide
 have f4:(n.op== [118,111,108,117,109,101])=true:=by rw[ho];decide
 have hR:jJ c n=match jh c.names 12 c.parts x with | .error e=> .error e| .ok (k,ps)=> .ok ({ c with parts:=ps },⟨n.op,k,[]⟩):=by
  unfold jJ;rw[if_neg (show ¬n.op=zm by rw[ho];decide),if_neg (show ¬n.op=zd by rw[ho];decide),if_neg (show ¬(n.op=qo∨n.op=zQ) by rw[ho];decide),hnx];rfl
 subst hL hA;have hat1:QV W1 gn (on+0*5) x An Cn:=λj hj=>(hb1.cell (p:=⟨gn,on+0*5+j,none⟩) hgn).trans (hat j hj)
 have hcx:=hxc _ W1 V c x An Cn h1 hrx hcb (hb0.trans (hb1.mono hb0.size)) hxr hnm hby;have nc4:=N1.cell 4;have nl1:=N1.lt;simp only[qQ,qR,qS]at nc4;clear hW1;cases hX:jh c.names 12 c.parts x with
 |error er =>
  obtain⟨ec,ek⟩:=er;rw[hX]at hR hcx;have HR:=zt hR;clear hR ho hX;unfold qa at hcx;unfold qa;go_enter Tryz.func88,Tryz.ntmps88
  go_wp2_with (first
   |((refine zg 97 rfl ?_)
     rw[←HW.out];(refine ze (some 97) (.slice (some ⟨gn,on,none⟩) 1 C) rfl (by rfl) (by unfold execOp;go_simp) ?_))
   |((refine zg 98 rfl ?_)
     (refine ze (some 98) (.pointer (some ⟨gn,on+0*5,none⟩)) rfl (by rfl) (qr _ _ rfl gn on 0 1 C rfl rfl (by decide) W1) ?_))
   |((refine zg 99 rfl ?_)
     refine ze (some 99) _ rfl (by rfl) (qz _ rfl gn (on+0*5) rfl W1 hat1) ?_;(unfold xh))
   |((go_at_call 120)
     refine hcx.mono ?_;(rintro e w5 ⟨ho5,rfl⟩)))
  exact⟨rfl,S1.only.trans ho5,by rw[HR.out]⟩
 |ok r =>
  obtain⟨k,ps⟩:=r;rw[hX]at hR hcx;have HR:=zt hR;clear hR ho hX;unfold qa at hcx;unfold qa;go_enter Tryz.func88,Tryz.ntmps88
  go_wp2_with (first
   |((refine zg 97 rfl ?_)
     rw[←HW.out];(refine ze (some 97) (.slice (some ⟨gn,on,none⟩) 1 C) rfl (by rfl) (by unfold execOp;go_simp) ?_))
   |((refine zg 98 rfl ?_)
     (refine ze (some 98) (.pointer (some ⟨gn,on+0*5,none⟩)) rfl (by rfl) (qr _ _ rfl gn on 0 1 C rfl rfl (by decide) W1) ?_))
   |((refine zg 99 rfl ?_)
     refine ze (some 99) _ rfl (by rfl) (qz _ rfl gn (on+0*5) rfl W1 hat1) ?_;(unfold xh))
   |((go_at_call 120)
     refine hcx.mono ?_;rintro e w5 ⟨ho5,rfl,V5,H5,S5⟩;have M5:zh w5 (w.heap.size+2) 136 #[.string (bs n.op),.int .i64 0,.slice none 0 0]:=(S5.inner _ M1.lt hmn).1.trans M1;have R5:zh w5 (w.heap.size+1) 136 #[.string ⟨#[]⟩,.int .i64 0,.slice none 0 0]:=(S5.inner _ R1.lt hrn).1.trans R1;have m0:=M5.cell 0;have m1:=M5.cell 1;have m2:=M5.cell 2;have r0:=R5.cell 0;have r1:=R5.cell 1;have r2:=R5.cell 2;simp only[qQ,qR,qS]at m0 m1 m2 r0 r1 r2;have mf:=M5.free 1;have ml:=M5.lt;have g0:=R5.free 0;have g1:=R5.free 1;have g2:=R5.free 2;(have rl:=R5.lt)))
  have hmn5:=(S5.inner _ M1.lt hmn).2;have hrn5:=(S5.inner _ R1.lt hrn).2;have lm1:=M1.lt
  have H6:=(H5.mono (E':=λg=>(E g∧g<w.heap.size)∨w.heap.size+2<g) (λg _ _ he=>by
   rcases he with he|he
   ·exact .inl he
   ·exact .inr (by omega))).other ⟨w.heap.size+2,1,none⟩ hmn5 (λe=>by
    rcases e with e|e
    ·exact absurd e.2 (Nat.not_lt.2 (Nat.le_add_right _ _))
    ·exact absurd e (Nat.lt_irrefl _)) (.int .i64 (k:Nat))
  have S6:=(S1.trans S5).set (q:=⟨w.heap.size+2,1,none⟩) (by show w.heap.size≤w.heap.size+2;omega) (.int .i64 (k:Nat));have R6:=R5.other (p:=⟨w.heap.size+2,1,none⟩) (by show w.heap.size+1≠w.heap.size+2;omega) (.int .i64 (k:Nat));refine QB rfl rfl (R6.set3 _ _ _) rfl ?_;have S7:=S6.set3 (g:=w.heap.size+1) (by omega) (.string (bs n.op)) (.int .i64 (k:Nat)) (.slice none 0 0)
  have H7:=H6.other3 (w.heap.size+1) hrn5 (λe=>by
   rcases e with e|e
   ·exact absurd e.2 (Nat.not_lt.2 (Nat.le_add_right _ _))
   ·exact absurd e (by show ¬w.heap.size+2<w.heap.size+1;omega)) (.string (bs n.op)) (.int .i64 (k:Nat)) (.slice none 0 0)
  refine⟨S7.only,?_⟩;rw[HR.out]
  exact⟨.slice none 0 0,V5,rfl,XX rfl,H7.mono (λg _ _ he=>by
   rcases he with he|he
   ·exact .inl he.1
   ·exact .inr (by omega)),S7⟩
end
section
open Go.ChangeShapes Go.WideShapes Go.ChangeAt Go.RowKit Go.MapKept
variable {E:Nat→Prop}
theorem Gk{w:World}{cb:Nat}{V:CV}{c:Ck}(h:zK E w cb V c)(n:Nd)(A:Option Addr)(L C d:Nat)(ho:n.op=jE):Calls Tryz.prog 120 #[.pointer (some ⟨cb,0,none⟩),.agg (qa n (.slice A L C))] w (dd E w cb V c (jh c.names (d+1) c.parts n)):=by
 have hR:jh c.names (d+1) c.parts n=match qV c.names n [zd,zv]with | .error e=> .error e| .ok m=> .ok (m.node,c.parts):=by
  show(if n.op=jE then _ else _)=_;rw[if_pos ho];rfl
 rw[hR];have f0:(n.op== [117,115,101])=true:=by rw[ho];decide
 have hot:=zr n.op
 obtain⟨W1,hW1⟩:∃W1,W1=(w.alloc (.cells #[.string (bs n.op),.string (bs n.s),.int .i64 n.n,.int .i64 n.a,.slice A L C] 24)).alloc (.cells #[.string ⟨#[100,101,118,105,99,101]⟩,.string ⟨#[118,111,108,117,109,101]⟩] 9):=⟨_,rfl⟩
 have hb1:Below w.heap.size w W1:=by rw[hW1];exact jL w _ _
 have hkn:=VH (h.keep hb1) n A L C [zd,zv] (.slice (some ⟨w.heap.size+1,0,none⟩) 2 2) (.inr ⟨w.heap.size+1,rfl,by rw[hW1];exact zh.new_at (by simp)⟩) (by simp);rw[hW1]at hkn;have HW:Hid (W1=(w.alloc (.cells #[.string (bs n.op),.string (bs n.s),.int .i64 n.n,.int .i64 n.a,.slice A L C] 24)).alloc (.cells #[.string ⟨#[100,101,118,105,99,101]⟩,.string ⟨#[118,111,108,117,109,101]⟩] 9)):=hW1;clear hW1 hR ho;cases hK:qV c.names n [zd,zv]with
 |error er =>
  obtain⟨ec,ek⟩:=er;rw[hK]at hkn;clear hK;unfold qa at hkn ⊢;go_enter Tryz.func120,Tryz.ntmps120
  go_wp2_with (first
   |((go_at_call 117)
     refine hkn.mono ?_;(rintro e w2 ⟨hb2,rfl⟩)))
  rw[←HW.out]at hb2;exact⟨rfl,.of (hb1.trans (hb2.mono hb1.size)),rfl⟩
 |ok m =>
  rw[hK]at hkn;clear hK;unfold qa at hkn ⊢;go_enter Tryz.func120,Tryz.ntmps120
  go_wp2_with (first
   |((go_at_call 117)
     refine hkn.mono ?_;rintro e w2 ⟨hb2,Am,Cm,rfl,hm1,hm2,hbp⟩;(unfold Xf))
   |((refine zg 16 rfl ?_)
     (refine ze (some 16) (.int .i64 (m.node:Nat)) rfl (by rfl) (by kernel_rfl) ?_)))
  go_ret
  rw[←HW.out]at hb2;have hb02:Below w.heap.size w w2:=hb1.trans (hb2.mono hb1.size);exact⟨.of hb02,rfl,V,(h.keep hb02).mono (λk _ _ he=> .inl he),qW.of hb02⟩
end
section
open Go.ChangeShapes Go.WideShapes Go.ChangeAt Go.RowKit Go.MapKept
structure YU (E:Nat→Prop) (W1 wr:World) (cb:Nat) (V V':CV) (c:Ck) (d:Nat) (l:List Nd) (i:Nat) (v:Value) (ks:List Nat) (ps:List Pt):Prop where
 is:jg (jh c.names d) c.parts ((l.take i).filter λx=> !(x.op==j0||x.op==qZ))= .ok (ks,ps)
 row:wr.ownsRow W1.heap.size 3 1 v ks.length (ks.map λk=> .int .i64 (k:Nat))
 free:∀g,v.ownBlock=some g→¬V'.own cb g
 ck:zK (λg=>(E g∨W1.heap.size≤g)∧v.ownBlock≠some g) wr cb V' { c with parts:=ps }
 stp:qW cb V W1 V' wr
 nms:v7 c.names ps
theorem YU.step{E:Nat→Prop}{W1 wr w5 w6:World}{cb:Nat}{V V' V5:CV}{c:Ck}{d:Nat}{l:List Nd}{i:Nat}{v:Value}{ks:List Nat}{ps p5:List Pt}{k:Nat}{o:Obj}{A6:Option Addr}{C6:Nat}(h:YU E W1 wr cb V V' c d l i v ks ps)(hi:i<l.length)(hx:(l[i].op==j0||l[i].op==qZ)=false)(hk:jh c.names d ps l[i]= .ok (k,p5))
 (h5:zK (λg=>((E g∨W1.heap.size≤g)∧v.ownBlock≠some g)∨(wr.alloc o).heap.size≤g) w5 cb V5 { c with parts:=p5 }) (s5:qW cb V' (wr.alloc o) V5 w5) (hn5:v7 c.names p5)
 (hr6:w6.ownsRow W1.heap.size 3 1 (.slice A6 (ks.length+1) C6) (ks.length+1) (ks.map (λk=> .int .i64 (k:Nat))++ [.int .i64 (k:Nat)])) (hg6:(w5.alloc (.cells #[.int .i64 (k:Nat)] 3)).grownBy w6 v.ownBlock) (hw6:(Value.slice A6 (ks.length+1) C6).ownBlock=v.ownBlock∨(Value.slice A6 (ks.length+1) C6).ownBlock=some (w5.alloc (.cells #[.int .i64 (k:Nat)] 3)).heap.size):
 YU E W1 w6 cb V V5 c d l (i+1) (.slice A6 (ks.length+1) C6) (ks++ [k]) p5:=by
 have hvl:∀g,v.ownBlock=some g→W1.heap.size≤g∧g<wr.heap.size:=λg e=>(qu h.row e).symm
 have hs1:wr.heap.size<(wr.alloc o).heap.size:=by simp
 have hs5:=s5.only.size;have hin:∀g,v.ownBlock=some g→¬V5.own cb g:=λg e=>(s5.inner g (by have:=(hvl g e).2;omega) (h.free g e)).2
 have hb5:=zf w5 (.cells #[.int .i64 (k:Nat)] 3);have hsz5:(w5.alloc (.cells #[.int .i64 (k:Nat)] 3)).heap.size=w5.heap.size+1:=by simp
 have h5':zK (λg=>(E g∨W1.heap.size≤g)∧v.ownBlock≠some g∧g≠(w5.alloc (.cells #[.int .i64 (k:Nat)] 3)).heap.size) (w5.alloc (.cells #[.int .i64 (k:Nat)] 3)) cb V5 { c with parts:=p5 }:=by
  refine(h5.keep hb5).mono (λg hg hn he=>?_);refine⟨?_,?_,by omega⟩
  ·rcases he with he|he
   ·exact he.1
   ·exact .inr (Nat.le_trans (Nat.le_trans h.stp.only.size (Nat.le_of_lt hs1)) he)
  ·rcases he with he|he
   ·exact he.2
   ·intro e
    have:=(hvl g e).2;omega
 have h6:=h5'.grown hg6 hin (λg he=>he.2.1);refine⟨?_,by rw[List.length_append,List.length_singleton,List.map_append,List.map_cons,List.map_nil];exact hr6,λg e=>?_,h6.mono (λg hg hn he=>⟨he.1,λe=>?_⟩),?_,hn5⟩
 ·rw[QF l hi,hx]
  simp only[Bool.false_eq_true,if_false];rw[Jn,h.is];simp only;rw[hk]
 ·rcases hw6 with q|q
  ·exact hin g (q ▸ e)
  ·rw[q]at e
   cases e;intro ho;have:=(h5.low ho).2;omega
 ·rcases hw6 with q|q
  ·exact he.2.1 (q ▸ e)
  ·rw[q]at e
   cases e;exact he.2.2 rfl
 ·exact((h.stp.trans ((qW.of (zf wr o)).trans s5)).trans (qW.of hb5)).grown hg6 (λg e=>(hvl g e).1)
theorem YU.pass{E:Nat→Prop}{W1 wr:World}{cb:Nat}{V V':CV}{c:Ck}{d:Nat}{l:List Nd}{i:Nat}{v:Value}{ks:List Nat}{ps:List Pt}{o:Obj}(h:YU E W1 wr cb V V' c d l i v ks ps)(hi:i<l.length)(hx:(l[i].op==j0||l[i].op==qZ)=true):YU E W1 (wr.alloc o) cb V V' c d l (i+1) v ks ps:=by
 refine⟨?_,zG h.row (λg ob e ho=>(Below.heap_alloc wr o g (Array.getElem?_eq_some_iff.1 ho).1).trans ho),h.free,h.ck.alloc o,h.stp.trans (qW.of (zf wr o)),h.nms⟩;rw[QF l hi,hx];simp only[if_true,List.append_nil];exact h.is
end
section
open Go.ChangeShapes Go.WideShapes Go.ChangeAt Go.RowKit Go.MapKept
variable {E:Nat→Prop}
theorem fI{w:World}{cb:Nat}{V:CV}{c:Ck}{ks:List Nat}{bk ok Ck:Nat}(hI:dt E w cb V c ks bk ok Ck)(n:Nd)(A:Option Addr)(C:Nat)(hr:j3 w n A C)(hs:Ha n)(hk:ks.length=(jb n).length)(hn:v7 c.names c.parts)(hby:∀x ∈ c.names,x.2.bytes.length≤1000):
 Calls Tryz.prog 144 #[.pointer (some ⟨cb,0,none⟩),.agg (qa n (.slice A n.l.length C)),.slice (some ⟨bk,ok,none⟩) ks.length Ck] w (yZ w (Up (jy c.names c.parts n ks))):=by
 rcases hs.word with ho|ho|ho|ho
 ·obtain⟨h1,h2,h3⟩:=hs.lin ho
  exact Y6 hI n A C hr ho h1 h2 h3
 ·exact VK hI n A C hr ho
 ·obtain⟨h1,h2⟩:=hs.snap ho
  exact JY hI n A C hr ho h1 (by rw[hk];exact hs.shape.snap ho) h2
 ·exact VE hI n A C hr ho (hs.sec ho) hn hby
theorem dD{w:World}{cb:Nat}{V:CV}{c:Ck}(h:zK E w cb V c)(p:Pt)(Ak:Option Addr)(Ck:Nat)(A2:Option Addr)(C2:Nat)(A3:Option Addr)(C3:Nat)(hu:ZH w (λg=>¬V.own cb g∧E g) p (.slice Ak p.kids.length Ck,.slice A2 p.key.length C2,.slice A3 p.root.length C3))(hkids:∀k ∈ p.kids,k<c.parts.length)(hkl:p.kids.length≤1000)(h52:p.kind=5→p.kids.length=2)(hfew:c.parts.length≤90000):
 Calls Tryz.prog 84 #[.pointer (some ⟨cb,0,none⟩),.agg #[.int .i64 (p.kind:Nat),.int .i64 (p.size:Nat),.slice Ak p.kids.length Ck,.int .i64 (p.dev:Nat),.int .i64 (p.first:Nat),.int .i64 (p.chunk:Nat),.slice A2 p.key.length C2,.slice A3 p.root.length C3]] w (fy E w cb V c p):=by
 by_cases h5:p.kind=5
 ·exact Yi h p Ak Ck A2 C2 A3 C3 hu hkids hkl h5 (h52 h5) hfew
 ·by_cases h8:p.kind=8
  ·exact X7 h p Ak Ck A2 C2 A3 C3 hu hkids hkl h8 hfew
  ·exact J1 h p Ak Ck A2 C2 A3 C3 hu hkids hkl h5 h8 hfew
end
section
open Go.ChangeShapes Go.WideShapes Go.ChangeAt Go.RowKit Go.MapKept
theorem gC{ns:yq}{d:Nat}{ps p1:List Pt}{n:Nd}{ks:List Nat}(hne:n.op≠jE)(h:jg (jh ns d) ps (jb n)= .ok (ks,p1)):jh ns (d+1) ps n=if 64≤p1.length then .error (137,n.a)else match jy ns p1 n ks with | .error e=> .error e| .ok p=> .ok (p1.length,p1++ [p]):=by
 show(if n.op=jE then _ else _)=_;rw[if_neg hne,h];rfl
theorem uF{ns:yq}{d:Nat}{ps:List Pt}{n:Nd}{e:Er}(hne:n.op≠jE)(h:jg (jh ns d) ps (jb n)= .error e):jh ns (d+1) ps n= .error e:=by
 show(if n.op=jE then _ else _)=_;rw[if_neg hne,h]
theorem Dc{w0:World}{cb d:Nat}(ih:Gf cb w0 d){E:Nat→Prop}{w:World}{V:CV}{c:Ck}(h:zK E w cb V c)(n:Nd)(A:Option Addr)(C:Nat)(hr:j3 w0 n A C)(hcb:w0.heap.size≤cb-1)(hb0:Below w0.heap.size w0 w)(hne:n.op≠jE)(hs:Ha n)(hx:∀x ∈ jb n,FA d x)(hn:v7 c.names c.parts)(hby:∀x ∈ c.names,x.2.bytes.length≤1000):
 Calls Tryz.prog 120 #[.pointer (some ⟨cb,0,none⟩),.agg (qa n (.slice A n.l.length C))] w (dd E w cb V c (jh c.names (d+1) c.parts n)):=by
 have f0:(n.op== [117,115,101])=false:=by rw[beq_eq_false_iff_ne];exact hne
 have hot:=zr n.op
 obtain⟨W1,hW1⟩:∃W1,W1=w.alloc (.cells #[.string (bs n.op),.string (bs n.s),.int .i64 n.n,.int .i64 n.a,.slice A n.l.length C] 24):=⟨_,rfl⟩
 have hb1:Below w.heap.size w W1:=by rw[hW1];exact zf w _
 have N1:zh W1 w.heap.size 24 #[.string (bs n.op),.string (bs n.s),.int .i64 n.n,.int .i64 n.a,.slice A n.l.length C]:=by rw[hW1];exact zh.new w _ _
 have hsz1:W1.heap.size=w.heap.size+1:=by rw[hW1];simp
 have HZ1:=zt hsz1;have h1:zK E W1 cb V c:=h.keep hb1
 have hnb:∀V' wz,qW cb V W1 V' wz→¬V'.own cb w.heap.size:=λV' wz s ho=>by
  rcases s.new _ ho with q|q
  ·exact Nat.lt_irrefl _ (h.low q).2
  ·omega
 have HNB:=zt hnb;have HW:=zt hW1;have hlen:=hr.len;have HER:=zt (λe=>uF (ns:=c.names) (d:=d) (ps:=c.parts) (e:=e) hne);have HMK:=zt (λks p1=>gC (ns:=c.names) (d:=d) (ps:=c.parts) (p1:=p1) (ks:=ks) hne);have HIH:=zt ih;have HX:=zt hx;have HBY:=zt hby
 obtain⟨L,hL⟩:∃L,L=n.l.length:=⟨_,rfl⟩
 have HL:=zt hL;rw[←hL]at HW N1 hlen ⊢
 have h0:YU E W1 W1 cb V V c d n.l 0 (.slice none 0 0) [] c.parts:=⟨rfl,⟨rfl,.inl ⟨rfl,rfl⟩⟩,(λg e=>by cases e),h1.mono (λk _ _ he=>⟨.inl he,λe=>by cases e⟩),qW.refl _ _ _,hn⟩
 clear hW1 hsz1 hnb ih hx hby hL h1;unfold qa;go_enter Tryz.func120,Tryz.ntmps120;have nn0:=N1.cell 0;have nn4:=N1.cell 4;have nl1:=N1.lt;rw[HW.out]at nn0 nn4 nl1
 go_wp2
 rw[←HW.out]
 go_loopw [5,20] (λz5 z20 wr=>∃(i:Nat) (V':CV) (ks:List Nat) (ps:List Pt),z20= .int .i64 (i:Nat)∧i≤L∧YU E W1 wr cb V V' c d n.l i z5 ks ps∧zh wr w.heap.size 24 #[.string (bs n.op),.string (bs n.s),.int .i64 n.n,.int .i64 n.a,.slice A L C]) (λ_ z _=>L-(intOf z).toNat)
 case atStart=>exact⟨0,V,[],c.parts,rfl,Nat.zero_le _,h0,N1⟩
 case round =>
  obtain⟨i,V2,ks,ps,rfl,hi,K,NB⟩:=hrel;by_cases hlt:i<L
  ·have hil:i<n.l.length:=by rw[←HL.out];exact hlt
   have hBr:Below (cb-1) W1 wr:=K.stp.only.below (by have:=h.has.lt;rw[HZ1.out];omega) (λk hk=>by have:=(h.low hk).1;omega);have hB0r:Below w0.heap.size w0 wr:=(hb0.trans (hb1.mono hb0.size)).trans (hBr.mono hcb);obtain⟨g,off,An,Cn,eA,hg,hat,hrn⟩:=VP.get (⟨hr.rd,hB0r⟩:VP w0 wr n.l A C) hil;subst eA;have hint:(i:Int)<(L:Int):=by omega
   have HKS:=zt (λo k p5 V5 w5 w6 A6 C6=>K.step (o:=o) (k:=k) (p5:=p5) (V5:=V5) (w5:=w5) (w6:=w6) (A6:=A6) (C6:=C6) hil);have HKP:=zt (λo=>K.pass (o:=o) hil);have HMm:=zt (show n.l[i] ∈ n.l from List.getElem_mem hil)
   have HKE:=zt (λ(e:Er) (q:jg (jh c.names d) c.parts ((n.l.take (i+1)).filter λx=> !(x.op==j0||x.op==qZ))= .error e)=>HER.out e (by
    have:=UL (jh c.names d) _ ((n.l.drop (i+1)).filter λx=> !(x.op==j0||x.op==qZ)) c.parts e q;rw[←List.filter_append,List.take_append_drop]at this
    exact this))
   have HSN:=zt (QF n.l hil);generalize n.l[i]=m at *;have hmt:=zr m.op;cases hb:(m.op==j0||m.op==qZ)with
   |true =>
    have HBm:=zt hb;by_cases hq:m.op=j0
    ·have f1:(m.op== [110,117,109])=true:=by rw[hq];decide
     clear hb hq K
     go_wp2_with (first
      |((refine zg 22 rfl ?_)
        (refine ze (some 22) _ rfl (by rfl) (qr _ _ rfl g off i L C rfl rfl hlt wr) ?_))
      |((refine zg 23 rfl ?_)
        refine ze (some 23) _ rfl (by rfl) (qz _ rfl g (off+i*5) rfl wr hat) ?_;(unfold xh)))
     go_roundw
     case rel=>exact⟨i+1,V2,ks,ps,by go_num,by omega,HKP.out _ HBm.out,NB.alloc _⟩
     case measure=>simp[intOf];omega
    ·have f1:(m.op== [110,117,109])=false:=by rw[beq_eq_false_iff_ne];exact hq
     have f2:(m.op== [110,97,109,101])=true:=by
      have hq':(m.op==j0)=false:=f1;rw[hq',Bool.false_or]at hb;exact hb
     clear hb hq K
     go_wp2_with (first
      |((refine zg 22 rfl ?_)
        (refine ze (some 22) _ rfl (by rfl) (qr _ _ rfl g off i L C rfl rfl hlt wr) ?_))
      |((refine zg 23 rfl ?_)
        refine ze (some 23) _ rfl (by rfl) (qz _ rfl g (off+i*5) rfl wr hat) ?_;(unfold xh)))
     go_roundw
     case rel=>exact⟨i+1,V2,ks,ps,by go_num,by omega,HKP.out _ HBm.out,NB.alloc _⟩
     case measure=>simp[intOf];omega
   |false =>
    have HBm:=zt hb;simp only[Bool.or_eq_false_iff]at hb;have f1:(m.op== [110,117,109])=false:=hb.1;have f2:(m.op== [110,97,109,101])=false:=hb.2;have hmk:m ∈ jb n:=List.mem_filter.2 ⟨HMm.out,by simpa using HBm.out⟩;have hcx:=HIH.out _ (wr.alloc (.cells #[.string (bs m.op),.string (bs m.s),.int .i64 m.n,.int .i64 m.a,.slice An m.l.length Cn] 24)) V2 { c with parts:=ps } m An Cn (K.ck.alloc _) hrn hcb (hB0r.trans ((zf wr _).mono hB0r.size)) (HX.out m hmk) K.nms HBY.out;have HNM:=K.nms;have hexr:=(HX.out m hmk).ok;have hrow:=K.row;have hks:=K.stp;cases hR:jh c.names d ps m with
    |error er =>
     obtain⟨ec,ek⟩:=er
     have hE:jg (jh c.names d) c.parts ((n.l.take (i+1)).filter λx=> !(x.op==j0||x.op==qZ))= .error (ec,ek):=by
      rw[HSN.out,HBm.out];simp only[Bool.false_eq_true,if_false];rw[Jn,K.is];simp only;rw[hR]
     have HF:=zt (HKE.out _ hE);simp only[hR]at hcx;unfold qa at hcx;clear hb K hE hR HNM hexr hrow hmk
     go_wp2_with (first
      |((refine zg 22 rfl ?_)
        (refine ze (some 22) _ rfl (by rfl) (qr _ _ rfl g off i L C rfl rfl hlt wr) ?_))
      |((refine zg 23 rfl ?_)
        refine ze (some 23) _ rfl (by rfl) (qz _ rfl g (off+i*5) rfl wr hat) ?_;(unfold xh))
      |((go_at_call 120)
        refine hcx.mono ?_;(rintro e w5 ⟨ho5,rfl⟩)))
     have hst:qW cb V W1 V2 w5:=(hks.trans (qW.of (zf wr _))).trans ⟨ho5,λ_ q=> .inl q⟩;exact⟨rfl,(vn.of hb1).trans hst.only,by rw[HF.out]⟩
    |ok r =>
     obtain⟨k,p5⟩:=r;have HRk:=zt hR
     have hn5:v7 c.names p5:=by
      obtain⟨rs,e,_,_⟩:=Jf d HNM hexr hR;rw[e];exact HNM.more rs
     have HN5:=zt hn5;simp only[hR]at hcx;unfold qa at hcx
     have hkl:ks.length≤100000:=by
      have q:=UJ _ _ _ _ _ K.is;have q2:((n.l.take i).filter λx=> !(x.op==j0||x.op==qZ)).length≤(n.l.take i).length:=List.length_filter_le _ _;have q3:(n.l.take i).length≤n.l.length:=by simp;omega
      have q4:=hs.few;omega
     have HNBs:=zt (λV5 w5 (s5:qW cb V2 (wr.alloc (.cells #[.string (bs m.op),.string (bs m.s),.int .i64 m.n,.int .i64 m.a,.slice An m.l.length Cn] 24)) V5 w5)=>(s5.inner w.heap.size (by have:=NB.lt;simp;omega) (HNB.out V2 wr hks)).1)
     have HVL:=zt (λV5 w5 (s5:qW cb V2 (wr.alloc (.cells #[.string (bs m.op),.string (bs m.s),.int .i64 m.n,.int .i64 m.a,.slice An m.l.length Cn] 24)) V5 w5)=>zG (w':=w5.alloc (.cells #[.int .i64 (k:Nat)] 3)) hrow (λg' ob e ho=>by
      have hlt':g'<wr.heap.size:=(qu hrow e).1;have q1:=(s5.inner g' (by simp;omega) (K.free g' e)).1;have q2:=Below.heap_alloc wr (.cells #[.string (bs m.op),.string (bs m.s),.int .i64 m.n,.int .i64 m.a,.slice An m.l.length Cn] 24) g' hlt';have q3:=Below.heap_alloc w5 (.cells #[.int .i64 (k:Nat)] 3) g' (by have:=s5.only.size;simp at this;omega)
      exact q3.trans (q1.trans (q2.trans ho))))
     have HVG:=zt (λg' e=>(qu hrow (g:=g') e).2);clear hb K hR HNM hexr hmk hn5
     go_wp2_with (first
      |((refine zg 22 rfl ?_)
        (refine ze (some 22) _ rfl (by rfl) (qr _ _ rfl g off i L C rfl rfl hlt wr) ?_))
      |((refine zg 23 rfl ?_)
        refine ze (some 23) _ rfl (by rfl) (qz _ rfl g (off+i*5) rfl wr hat) ?_;(unfold xh))
      |((go_at_call 120)
        refine hcx.mono ?_;rintro e w5 ⟨ho5,rfl,V5,H5,S5⟩;(obtain⟨A6,C6,w6,hr6,hrow6,hg6,hw6⟩:=jw gu (ty:=29) (w5.alloc (.cells #[.int .i64 (k:Nat)] 3)) W1.heap.size ks.length _ _ (HVL.out V5 w5 S5) (by have q1:=S5.only.size;have q2:=hks.only.size;simp at q1 ⊢;omega) (by omega) [.int .i64 (k:Nat)] rfl (by intro u hu;simp at hu;subst hu;rfl) w5.heap.size (zh.new_at rfl)))
      |((refine zg 37 rfl ?_)
        (refine jK (some 37) (.slice A6 (ks.length+1) C6) w6 rfl (by rfl) (jv _ _ rfl rfl rfl hr6) ?_)))
     go_roundw
     case rel=>exact⟨i+1,V5,ks++ [k],p5,by go_num,by omega,HKS.out _ k p5 V5 w5 w6 A6 C6 HBm.out HRk.out H5 S5 HN5.out hrow6 hg6 hw6,(hg6.block w.heap.size (by have q1:=S5.only.size;have q3:=NB.lt;simp at q1 ⊢;omega) (λe=>by have:=HVG.out _ e.symm;rw[HZ1.out]at this;omega)).trans ((Below.heap_alloc w5 _ _ (by have q1:=S5.only.size;have q3:=NB.lt;simp at q1;omega)).trans ((HNBs.out V5 w5 S5).trans ((Below.heap_alloc wr _ _ NB.lt).trans NB)))⟩
     case measure=>simp[intOf];omega
  ·obtain rfl:i=L:=by omega
   have hkis:jg (jh c.names d) c.parts (jb n)= .ok (ks,ps):=by
    have:=K.is;rw[HL.out,List.take_length]at this;exact this
   have HM0:=zt (HMK.out ks ps hkis)
   obtain⟨rs,eps,hkk,-,hlenk⟩:=YR (jb n) (λqs x hx' k p1 hr'=>by
    obtain⟨rs,e,q1,q2⟩:=Jf d (hn.more qs) (HX.out x hx').ok hr'
    exact⟨rs,e,q1,q2⟩) hkis
   have HLn:=zt hlenk;have hk0:0<ks.length:=by rw[hlenk];exact hs.shape.pos
   clear eps hlenk;have hp0:0<ps.length:=by have:=(hkk _ (List.getElem_mem hk0)).1;omega
   obtain⟨g,op,Cp,evp,hCp1,hCp2,hg,hSz⟩:=K.ck.vp hp0;have c2r:=K.ck.has.cell 2;simp only[List.getElem?_toArray,List.getElem?_cons_zero,List.getElem?_cons_succ,evp]at c2r;obtain⟨bk,Ck,ev,hCk1,hCk2,hbk,hbk2,hcells⟩:=ZK K.row hk0;have nc0:=NB.cell 0;have nc1:=NB.cell 1;have nc2:=NB.cell 2;have nc3:=NB.cell 3;have nc4:=NB.cell 4;have nlt:=NB.lt;simp only[qQ,qR,qS]at nc0 nc1 nc2 nc3 nc4;have hBr:Below (cb-1) W1 wr:=K.stp.only.below (by have:=h.has.lt;rw[HZ1.out];omega) (λk hk=>by have:=(h.low hk).1;omega);have hB0r:Below w0.heap.size w0 wr:=(hb0.trans (hb1.mono hb0.size)).trans (hBr.mono hcb);have hKck:=K.ck;have hKst:=K.stp;have hKfr:=K.free;have hKnm:=K.nms
   obtain⟨NP,hNP⟩:∃NP,NP=ps.length:=⟨_,rfl⟩
   have HNP:=zt hNP;have c2r:wr.cell? ⟨cb,2,none⟩=some (.slice (some ⟨g,op,none⟩) NP Cp):=by rw[hNP];exact c2r
   subst ev;by_cases h64:NP<64
   ·have hRR:=HM0.out.trans (if_neg (by rw[←hNP];omega))
    have HRR:=zt hRR;have h64:decide (NP<64)=true:=decide_eq_true h64;have HCE:=zt hcells;clear hRR K hcells evp hNP
    go_wp2
    refine wp_region_held_drew (S:=λwz=>Below wr.heap.size wr wz) (by kernel_rfl) ((Below.refl _ wr).drew) (λhHeld=>?_);refine zR 0 (some 39) (.pointer (some ⟨cb,0,none⟩)) hHeld ?_;simp only[Act.put,zl,zk,zj];refine zR 1 (some 40) (.pointer (some ⟨cb,0,none⟩)) hHeld ?_;simp only[Act.put,zl,zk,zj];refine zR 2 (some 41) (.pointer (some ⟨cb,0,none⟩)) hHeld ?_;simp only[Act.put,zl,zk,zj];refine zR 3 (some 42) (.pointer (some ⟨cb,2,none⟩)) hHeld ?_;simp only[Act.put,zl,zk,zj];refine qk 4 (some 43) (.slice (some ⟨g,op,none⟩) NP Cp) rfl rfl (λwz hz=>by have z0:=zc hz c2r;unfold execOp;go_simp) hHeld ?_;simp only[Act.put,zl,zk,zj];refine qk 5 (some 44) (.int .i64 (NP:Nat)) rfl rfl (λwz _=>ZQ 30 47 Tryz.underlying30 _ rfl _ NP Cp rfl wz) hHeld ?_;simp only[Act.put,zl,zk,zj];refine qk 6 (some 45) (.bool true) rfl rfl (λwz _=>Xj _ _ rfl NP 64 rfl rfl true h64 wz) hHeld ?_;simp only[Act.put,zl,zk,zj];refine zR 7 (some 46) (.pointer (some ⟨w.heap.size,3,none⟩)) hHeld ?_;simp only[Act.put,zl,zk,zj];refine qk 8 (some 47) (.int .i64 n.a) rfl rfl (λwz hz=>by have z0:=zc hz nc3;unfold execOp;go_simp) hHeld ?_;simp only[Act.put,zl,zk,zj];refine qw 9 (some 48) 86 #[.bool true,.int .i64 137,.int .i64 n.a] (by kernel_rfl) rfl rfl (by rfl) (by kernel_rfl) (zV 137 n.a wr.drew) ?_;rintro e w5 ⟨rfl,rfl⟩;refine .inl ⟨_,rfl,hHeld,?_⟩;simp only[Act.put,zl,zk,zj];refine wpAnyH_done (by kernel_rfl) ?_ _;have hbz:Below wr.heap.size wr wr.drew:=(Below.refl _ wr).drew
    have hI:dt (λg=>(E g∨W1.heap.size≤g)∧(Value.slice (some ⟨bk,0,none⟩) ks.length Ck).ownBlock≠some g) wr.drew cb V2 { c with parts:=ps } ks bk 0 Ck:=⟨hKck.keep hbz,hbk,λj hj=>by
     rw[Nat.zero_add];have q:=HCE.out j (by omega);rw[List.getElem?_map,List.getElem?_eq_getElem hj]at q
     exact zc hbz q,hk0,hCk1,hCk2,hkk⟩
    have hpc:=fI hI n A C (hr.grow (hB0r.trans (hbz.mono hB0r.size))) hs HLn.out hKnm HBY.out;rw[←HL.out]at hpc;unfold qa at hpc;have NB3:=zo NB;have hKck3:=hKck.keep hbz;have hKst3:qW cb V W1 V2 wr.drew:=hKst.trans (qW.of hbz);have hbk3:bk<wr.drew.heap.size:=hbk;replace nc0:=zc hbz nc0;replace nc1:=zc hbz nc1;replace nc2:=zc hbz nc2;replace nc3:=zc hbz nc3;replace nc4:=zc hbz nc4;have nlt3:w.heap.size<wr.drew.heap.size:=nlt;have HC3:=zt hI.cells;clear hbz c2r hHeld hB0r hBr hKck hKst hI NB nlt hSz hg;generalize wr.drew=W3 at *;cases hP:jy c.names ps n ks with
    |error er =>
     obtain⟨ec,ek⟩:=er;have HRR:=zt (HRR.out.trans (by rw[hP]));dsimp only at hpc;rw[hP]at hpc;simp only[Up]at hpc;clear hP hkis hkk
     go_wp2_with (first
      |((go_at_call 144)
        refine hpc.mono ?_;(rintro e w5 ⟨hb5,rfl⟩)))
     exact⟨rfl,((vn.of hb1).trans hKst3.only).trans (.of hb5),by rw[HRR.out]⟩
    |ok p =>
     obtain⟨hpok,hpk⟩:=XC hKnm hkk (by rw[HLn.out];exact hs.shape) hP;have HRR:=zt (HRR.out.trans (by rw[hP]));dsimp only at hpc;rw[hP]at hpc;simp only[Up]at hpc;obtain⟨pkind,psize,pkids,pdev,pfirst,pchunk,pkey,proot⟩:=p;have hpk':ks=pkids:=hpk.symm;subst hpk'
     have HAD:=zt (λ(w5:World) (hb5:Below W3.heap.size W3 w5) (A2:Option Addr) (C2:Nat) (A3:Option Addr) (C3:Nat) (a1:pkey.length≤C2) (a2:C2≤maxLen) (a3:vE w5 (λg=>W3.heap.size≤g) A2 pkey) (b1:proot.length≤C3) (b2:C3≤maxLen) (b3:vE w5 (λg=>W3.heap.size≤g) A3 proot) =>
      have hb6:Below W3.heap.size W3 (w5.alloc (.cells #[.int .i64 (pkind:Nat),.int .i64 (psize:Nat),.slice (some ⟨bk,0,none⟩) ks.length Ck,.int .i64 (pdev:Nat),.int .i64 (pfirst:Nat),.int .i64 (pchunk:Nat),.slice A2 pkey.length C2,.slice A3 proot.length C3] 47)):=hb5.alloc hb5.size _;have hk6:∀k,k<w5.heap.size→W3.heap.size≤k→(w5.alloc (.cells #[.int .i64 (pkind:Nat),.int .i64 (psize:Nat),.slice (some ⟨bk,0,none⟩) ks.length Ck,.int .i64 (pdev:Nat),.int .i64 (pfirst:Nat),.int .i64 (pchunk:Nat),.slice A2 pkey.length C2,.slice A3 proot.length C3] 47)).heap[k]?=w5.heap[k]?∧(¬V2.own cb k∧(E k∨W1.heap.size≤k)):=λk hk hP=>⟨Below.heap_alloc w5 _ k hk,λe=>by have:=(hKck3.low e).2;omega,.inr (Nat.le_trans hKst3.only.size hP)⟩
      dD (E:=λg=>E g∨W1.heap.size≤g) ((hKck3.keep hb6).mono (λg _ _ he=>he.1)) ⟨pkind,psize,ks,pdev,pfirst,pchunk,pkey,proot⟩ (some ⟨bk,0,none⟩) Ck A2 C2 A3 C3
       ⟨⟨_,Ck,rfl,hCk1,hCk2,.inr ⟨bk,0,rfl,Nat.lt_of_lt_of_le hbk3 hb6.size,⟨hKfr bk rfl,.inr hbk2⟩,λj hj=>zc hb6 (HC3.out j hj)⟩⟩,⟨A2,C2,rfl,a1,a2,a3.keep (by simp) hk6⟩,⟨A3,C3,rfl,b1,b2,b3.keep (by simp) hk6⟩⟩
       (λk hk=>(hkk k hk).1) (by have:=hpok.four;show ks.length≤1000;have h4:ks.length≤4:=this;omega) (λe=>(hpok.snap e).1) (by show ps.length≤90000;rw[←HNP.out];have:=of_decide_eq_true h64;omega))
     clear hP hkis hkk hpok hpk
     go_wp2_with (first
      |((go_at_call 144)
        refine hpc.mono ?_;rintro e w5 ⟨hb5,⟨u1,u2,u3⟩,rfl,hu5⟩;obtain⟨A2,C2,e2,c21,c22,by2⟩:=hu5.key;obtain⟨A3,C3,e3,c31,c32,by3⟩:=hu5.root;obtain⟨A1,C1,e1,-,-,-⟩:=hu5.kids;dsimp only at e1 e2 e3 c21 c31;subst e1 e2 e3;have hadd:=HAD.out w5 hb5 A2 C2 A3 C3 c21 c22 by2 c31 c32 by3;(unfold Uh))
      |((go_at_call 84)
        refine hadd.mono ?_;(rintro e w7 ⟨rfl,V7,H7,S7⟩)))
     go_ret
     have S07:=(qW.of (cb:=cb) (V:=V) hb1).trans (hKst3.trans ((qW.of (cb:=cb) (V:=V2) hb5).trans ((qW.of (cb:=cb) (V:=V2) (zf w5 _)).trans S7)));refine⟨S07.only,?_⟩;rw[HRR.out]
     exact⟨rfl,V7,H7.mono (λg _ _ he=>by
      rcases he with he|he
      ·exact .inl he
      ·exact .inr (Nat.le_trans hb1.size he)),S07⟩
   ·have hRR:=HM0.out.trans (if_pos (by rw[←hNP];omega))
    have HRR:=zt hRR;have h64:decide (NP<64)=false:=decide_eq_false h64;clear hRR K hcells evp hNP
    go_wp2
    refine wp_region_held_drew (S:=λwz=>Below wr.heap.size wr wz) (by kernel_rfl) ((Below.refl _ wr).drew) (λhHeld=>?_);refine zR 0 (some 39) (.pointer (some ⟨cb,0,none⟩)) hHeld ?_;simp only[Act.put,zl,zk,zj];refine zR 1 (some 40) (.pointer (some ⟨cb,0,none⟩)) hHeld ?_;simp only[Act.put,zl,zk,zj];refine zR 2 (some 41) (.pointer (some ⟨cb,0,none⟩)) hHeld ?_;simp only[Act.put,zl,zk,zj];refine zR 3 (some 42) (.pointer (some ⟨cb,2,none⟩)) hHeld ?_;simp only[Act.put,zl,zk,zj];refine qk 4 (some 43) (.slice (some ⟨g,op,none⟩) NP Cp) rfl rfl (λwz hz=>by have z0:=zc hz c2r;unfold execOp;go_simp) hHeld ?_;simp only[Act.put,zl,zk,zj];refine qk 5 (some 44) (.int .i64 (NP:Nat)) rfl rfl (λwz _=>ZQ 30 47 Tryz.underlying30 _ rfl _ NP Cp rfl wz) hHeld ?_;simp only[Act.put,zl,zk,zj];refine qk 6 (some 45) (.bool false) rfl rfl (λwz _=>Xj _ _ rfl NP 64 rfl rfl false h64 wz) hHeld ?_;simp only[Act.put,zl,zk,zj];refine zR 7 (some 46) (.pointer (some ⟨w.heap.size,3,none⟩)) hHeld ?_;simp only[Act.put,zl,zk,zj];refine qk 8 (some 47) (.int .i64 n.a) rfl rfl (λwz hz=>by have z0:=zc hz nc3;unfold execOp;go_simp) hHeld ?_;simp only[Act.put,zl,zk,zj];refine qw 9 (some 48) 86 #[.bool false,.int .i64 137,.int .i64 n.a] (by kernel_rfl) rfl rfl (by rfl) (by kernel_rfl) (qE 137 n.a wr.drew) ?_;rintro e w5 ⟨rfl,rfl⟩;refine .inr ⟨_,rfl,?_⟩;exact⟨rfl,((vn.of hb1).trans hKst.only).drew,by rw[HRR.out];rfl⟩
theorem FT{w0:World}{cb:Nat}(d:Nat):Gf cb w0 d:=by
 induction d with
 |zero=>intro E w V c n A C _ _ _ _ hx;cases hx
 |succ d ih =>
  intro E w V c n A C h hr hcb hb0 hx hn hby;cases hx with
  |use _ _ e=>exact Gk h n A n.l.length C d e
  |mk _ _ e hs hk=>exact Dc ih h n A C hr hcb hb0 e hs hk hn hby
end
section
open Go.ChangeShapes Go.WideShapes Go.ChangeAt Go.RowKit Go.MapKept
variable {E:Nat→Prop}
theorem DN{w0 w:World}{cb:Nat}{V:CV}{c:Ck}(h:zK E w cb V c)(n:Nd)(A:Option Addr)(C:Nat)(hr:j3 w0 n A C)(hcb:w0.heap.size≤cb-1)(hb0:Below w0.heap.size w0 w)(hx:Ur n)(he:n.op≠zM)(hnm:v7 c.names c.parts)(hby:∀x ∈ c.names,x.2.bytes.length≤1000)(hdv:c.devs.length≤90000):
 Calls Tryz.prog 88 #[.pointer (some ⟨cb,0,none⟩),.agg (qa n (.slice A n.l.length C))] w (Vr E w cb V (jJ c n)):=by
 rcases hx.word with ho|ho|ho|ho|ho|ho
 ·exact XK h n A n.l.length C ho hdv
 ·exact Yo h n A n.l.length C ho hdv
 ·obtain⟨hl,hf⟩:=hx.key (.inl ho)
  obtain⟨gn,on,Au,Cu,hA,hgn,hat⟩:=xo hr (by omega);exact GW h n A n.l.length C hl gn on hA (Nat.lt_of_lt_of_le hgn hb0.size) (vI n.l 0).s rfl ((hb0.cell (p:=⟨gn,on+0*5+1,none⟩) hgn).trans ((hat 0 (by omega)).1 1 (by decide))) hf ho
 ·obtain⟨hl,hf⟩:=hx.key (.inr ho)
  obtain⟨gn,on,Au,Cu,hA,hgn,hat⟩:=xo hr (by omega);exact ue h n A n.l.length C hl gn on hA (Nat.lt_of_lt_of_le hgn hb0.size) (vI n.l 0).s rfl ((hb0.cell (p:=⟨gn,on+0*5+1,none⟩) hgn).trans ((hat 0 (by omega)).1 1 (by decide))) hf ho
 ·obtain⟨hl,hex⟩:=hx.vol ho
  obtain⟨gn,on,Au,Cu,hA,hgn,hat⟩:=xo hr (by omega);exact Xm h n A n.l.length C hl w0 gn on hA (Nat.lt_of_lt_of_le hgn hb0.size) (vI n.l 0) (Au 0) (Cu 0) rfl (λj hj=>(hb0.cell (p:=⟨gn,on+0*5+j,none⟩) hgn).trans ((hat 0 (by omega)).1 j hj)) (hat 0 (by omega)).2 hcb hb0 hex (FT 12) hnm hby ho
 ·exact absurd ho he
theorem YK{c c1:Ck}{n:Nd}{m:Mn}(h:jJ c n= .ok (c1,m)):c1.names=c.names:=by
 unfold jJ at h
 repeat' split at h
 all_goals first
  |(cases h;done)
  |(cases h;rfl)
theorem Xt{o:Oper}{a:Act}(x:Operand)(ho:o.op= .load 136 x)(g:Nat)(hx:a.eval x= .pointer (some ⟨g,0,none⟩)){x0 x1 x2:Value}(w:World)(h:zh w g 136 #[x0,x1,x2]):(execOp a.eval o).run Tryz.prog w= .ok (.value (.agg #[x0,x1,x2])) w:=by
 have q0:=h.cell 0;have q1:=h.cell 1;have q2:=h.cell 2;simp only[qQ,qR,qS]at q0 q1 q2;unfold execOp;simp only[ho,hx];go_simp
end
end Go.Proofs.YtebcfkigbbolaaaGreatDoor
