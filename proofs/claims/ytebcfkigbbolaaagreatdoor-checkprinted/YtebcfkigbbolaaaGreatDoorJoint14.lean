import Derived.Test.YtebcfkigbbolaaaGreatDoorJoint13
namespace Go.Proofs.YtebcfkigbbolaaaGreatDoor
set_option linter.unusedVariables false
set_option maxRecDepth 100000
set_option maxHeartbeats 40000000
section
open Go.ChangeShapes Go.WideShapes Go.ChangeAt Go.RowKit Go.MapKept
variable {E:Nat→Prop}
theorem FV{w:World}{cb:Nat}{V:CV}{c:Ck}(h:zM E w cb V c)(n:Nd)(A:Option Addr)(L C:Nat)(hL:L=1)(gn on:Nat)(hA:A=some ⟨gn,on,none⟩)(hgn:gn<w.heap.size)(x:List UInt8)(hnx:(yy n.l 0).s=x)(hsx:w.cell? ⟨gn,on+0*5+1,none⟩=some (.string (bs x)))(hf:∀c ∈ x,zw c=true)(ho:n.op=zT):
 Calls Tryz.prog 88 #[.pointer (some ⟨cb,0,none⟩),.agg (zR n (.slice A L C))] w (Yv E w cb V (jX c n)):=by
 obtain⟨W1,hW1⟩:∃W1,W1=((w.alloc (.cells #[.string (bs n.op),.string (bs n.s),.int .i64 n.n,.int .i64 n.a,.slice A L C] 24)).alloc (.cells #[.string ⟨#[]⟩,.int .i64 0,.slice none 0 0] 136)).alloc (.cells #[.string (bs n.op),.int .i64 0,.slice none 0 0] 136):=⟨_,rfl⟩
 have hb1:Below w.heap.size w W1:=by rw[hW1];exact ZU _ _ _
 have N1:ze W1 w.heap.size 24 #[.string (bs n.op),.string (bs n.s),.int .i64 n.n,.int .i64 n.a,.slice A L C]:=by rw[hW1];exact((ze.new w _ _).alloc _).alloc _
 have R1:ze W1 (w.heap.size+1) 136 #[.string ⟨#[]⟩,.int .i64 0,.slice none 0 0]:=by rw[hW1];exact(ze.new_at (by simp)).alloc _
 have M1:ze W1 (w.heap.size+2) 136 #[.string (bs n.op),.int .i64 0,.slice none 0 0]:=by rw[hW1];exact ze.new_at (by simp)
 have h1:=(QH h).keep hb1;have S1:je cb V w V W1:=je.of hb1;have HW:=zz hW1;have lcb:=h.has.lt;have hrn:¬V.own cb (w.heap.size+1):=λe=>by have:=(h.low e).2;omega
 have hmn:¬V.own cb (w.heap.size+2):=λe=>by have:=(h.low e).2;omega
 have hot:=zx n.op;have f0:(n.op== [106,111,117,114,110,97,108])=false:=by rw[ho];decide
 have f1:(n.op== [100,101,118,105,99,101])=false:=by rw[ho];decide
 have f2:(n.op== [107,101,121])=true:=by rw[ho];decide
 have f3:(n.op== [114,111,111,116])=false:=by rw[ho];decide
 have f4:(n.op== [118,111,108,117,109,101])=false:=by rw[ho];decide
 have hR:jX c n=if x.length≠64 then .error (135,n.a)else .ok (c,⟨n.op,0,vZ x⟩):=by
  unfold jX;rw[if_neg (show ¬n.op=zg by rw[ho];decide),if_neg (show ¬n.op=zc by rw[ho];decide),if_pos (show n.op=zT∨n.op=zD by first |exact .inl ho|exact .inr ho),hnx]
 subst hL hA;have sxr:=za hb1 hsx;have nc4:=N1.cell 4;have nc3:=N1.cell 3;simp only[jg,jd,jf]at nc3 nc4
 obtain⟨X,hX⟩:∃X,X=x.length:=⟨_,rfl⟩
 have HX:=zz (show(bs x).size=X by rw[hX];exact zi x);have hxs:=zx x;clear hW1;by_cases h64:x.length=64
 ·have hX64:(((X:Nat):Int)==64)=true:=by rw[hX,h64];rfl
  rw[if_neg (not_not_intro h64)]at hR;have HR:=zz hR;have HU:=zz (λW=>uU x W h64 hf);have HUL:=zz (Ql 32 x (by omega));clear hR ho hX h64;unfold zR;go_enter Tryz.func88,Tryz.ntmps88
  go_wp2
  rw[←HW.out];refine wp_region_held_drew (S:=λwz=>Below W1.heap.size W1 wz) (by kernel_rfl) ((Below.refl _ W1).drew) (λhHeld=>?_);refine zS 0 (some 78) (.pointer (some ⟨w.heap.size,4,none⟩)) hHeld ?_;simp only[Act.put,zk,zj,zl];refine qq 1 (some 79) (.slice (some ⟨gn,on,none⟩) 1 C) rfl rfl (λwz hz=>by have z0:=za hz nc4;unfold execOp;go_simp) hHeld ?_;simp only[Act.put,zk,zj,zl];refine qq 2 (some 80) (.pointer (some ⟨gn,on+0*5,none⟩)) rfl rfl (λwz _=>qF _ _ rfl gn on 0 1 C rfl rfl (by decide) wz) hHeld ?_;simp only[Act.put,zk,zj,zl];refine zS 3 (some 81) (.pointer (some ⟨gn,on+0*5+1,none⟩)) hHeld ?_;simp only[Act.put,zk,zj,zl];refine qq 4 (some 82) (.string (bs x)) rfl rfl (λwz hz=>by have z0:=za hz sxr;unfold execOp;go_simp) hHeld ?_;simp only[Act.put,zk,zj,zl];refine qq 5 (some 83) (.int .i64 (X:Nat)) rfl rfl (λwz _=>by unfold execOp;go_simp;rw[HX.out]) hHeld ?_;simp only[Act.put,zk,zj,zl];refine qq 6 (some 84) (.bool true) rfl rfl (λwz _=>yx _ 64 rfl (X:Nat) rfl true hX64 wz) hHeld ?_;simp only[Act.put,zk,zj,zl];refine zS 7 (some 85) (.pointer (some ⟨w.heap.size,3,none⟩)) hHeld ?_;simp only[Act.put,zk,zj,zl];refine qq 8 (some 86) (.int .i64 n.a) rfl rfl (λwz hz=>by have z0:=za hz nc3;unfold execOp;go_simp) hHeld ?_;simp only[Act.put,zk,zj,zl];refine qG 9 (some 87) 86 #[.bool true,.int .i64 135,.int .i64 n.a] (by kernel_rfl) rfl rfl (by rfl) (by kernel_rfl) (qa 135 n.a W1.drew) ?_;rintro e w5 ⟨rfl,rfl⟩;refine .inl ⟨_,rfl,hHeld,?_⟩;simp only[Act.put,zk,zj,zl];refine wpAnyH_done (by kernel_rfl) ?_ _;have hbd:Below W1.heap.size W1 W1.drew:=zu (Below.refl _ W1);have H2:=h1.keep hbd;have S2:=S1.trans (je.of (cb:=cb) (V:=V) hbd);have N2:=zq N1;have R2:=zq R1;have M2:=zq M1;replace sxr:=za hbd sxr;replace nc4:=za hbd nc4;have hg2:gn<W1.drew.heap.size:=Nat.lt_of_lt_of_le hgn (Nat.le_trans hb1.size hbd.size);clear hHeld nc3 h1 S1 N1 R1 M1 hb1 HW hbd;generalize W1.drew=W2 at *;have nl2:=N2.lt;have hux:=HU.out W2
  go_wp2_with (first
   |((refine zf 90 rfl ?_)
     (refine zb (some 90) (.pointer (some ⟨gn,on+0*5,none⟩)) rfl (by rfl) (qF _ _ rfl gn on 0 1 C rfl rfl (by decide) W2) ?_))
   |((go_at_call 119)
     refine hux.mono ?_;rintro e w5 ⟨v,rfl,⟨Av,Cv,rfl,JE,hv2,hvb⟩,hb5⟩;rw[HUL.out]at JE ⊢;have M5:=M2.below hb5 M2.lt;have R5:=R2.below hb5 R2.lt;have m0:=M5.cell 0;have m1:=M5.cell 1;have m2:=M5.cell 2;have r0:=R5.cell 0;have r1:=R5.cell 1;have r2:=R5.cell 2;simp only[jg,jd,jf]at m0 m1 m2 r0 r1 r2;have mf:=M5.free 2;have ml:=M5.lt;have g0:=R5.free 0;have g1:=R5.free 1;have g2:=R5.free 2;(have rl:=R5.lt)))
  have H5:=H2.keep hb5;have S5:=S2.trans (je.of (cb:=cb) (V:=V) hb5);have H6:=H5.other ⟨w.heap.size+2,2,none⟩ hmn (λe=>absurd e.2 (Nat.not_lt.2 (Nat.le_add_right _ _))) (.slice Av 32 Cv);have S6:=S5.set (q:=⟨w.heap.size+2,2,none⟩) (by show w.heap.size≤w.heap.size+2;omega) (.slice Av 32 Cv);have R6:=R5.other (p:=⟨w.heap.size+2,2,none⟩) (by show w.heap.size+1≠w.heap.size+2;omega) (.slice Av 32 Cv);have rl2:=M2.lt;have hvb6:yc (w5.setCell ⟨w.heap.size+2,2,none⟩ (.slice Av 32 Cv)) (λg=>W2.heap.size≤g) Av (vZ x):=hvb.keep (by simp) (λk hk hP=>⟨Below.heap_setCell w5 _ _ k (by show k≠w.heap.size+2;omega),hP⟩);refine QT rfl rfl (R6.set3 _ _ _) rfl ?_;have S7:=S6.set3 (g:=w.heap.size+1) (by omega) (.string (bs n.op)) (.int .i64 0) (.slice Av 32 Cv);have H7:=H6.other3 (w.heap.size+1) hrn (λe=>absurd e.2 (Nat.not_lt.2 (Nat.le_add_right _ _))) (.string (bs n.op)) (.int .i64 0) (.slice Av 32 Cv);refine⟨S7.only,?_⟩;rw[HR.out];refine⟨.slice Av 32 Cv,V,rfl,⟨Av,Cv,by rw[HUL.out],by rw[HUL.out];exact JE,hv2,?_⟩,H7.mono (λg _ _ he=> .inl he.1),S7⟩;refine hvb6.keep (by simp) (λk hk hP=>⟨?_,λe=>?_,.inr ?_⟩)
  ·have hne:k≠w.heap.size+1:=by omega
   exact(Below.heap_setCell _ ⟨w.heap.size+1,2,none⟩ _ k hne).trans ((Below.heap_setCell _ ⟨w.heap.size+1,1,none⟩ _ k hne).trans (Below.heap_setCell _ ⟨w.heap.size+1,0,none⟩ _ k hne))
  ·have:=(h.low e).2;omega
  ·omega
 ·have hX64:(((X:Nat):Int)==64)=false:=by rw[beq_eq_false_iff_ne];omega
  rw[if_pos h64]at hR;have HR:=zz hR;clear hR ho hX;unfold zR;go_enter Tryz.func88,Tryz.ntmps88
  go_wp2
  rw[←HW.out];refine wp_region_held_drew (S:=λwz=>Below W1.heap.size W1 wz) (by kernel_rfl) ((Below.refl _ W1).drew) (λhHeld=>?_);refine zS 0 (some 78) (.pointer (some ⟨w.heap.size,4,none⟩)) hHeld ?_;simp only[Act.put,zk,zj,zl];refine qq 1 (some 79) (.slice (some ⟨gn,on,none⟩) 1 C) rfl rfl (λwz hz=>by have z0:=za hz nc4;unfold execOp;go_simp) hHeld ?_;simp only[Act.put,zk,zj,zl];refine qq 2 (some 80) (.pointer (some ⟨gn,on+0*5,none⟩)) rfl rfl (λwz _=>qF _ _ rfl gn on 0 1 C rfl rfl (by decide) wz) hHeld ?_;simp only[Act.put,zk,zj,zl];refine zS 3 (some 81) (.pointer (some ⟨gn,on+0*5+1,none⟩)) hHeld ?_;simp only[Act.put,zk,zj,zl];refine qq 4 (some 82) (.string (bs x)) rfl rfl (λwz hz=>by have z0:=za hz sxr;unfold execOp;go_simp) hHeld ?_;simp only[Act.put,zk,zj,zl];refine qq 5 (some 83) (.int .i64 (X:Nat)) rfl rfl (λwz _=>by unfold execOp;go_simp;rw[HX.out]) hHeld ?_;simp only[Act.put,zk,zj,zl];refine qq 6 (some 84) (.bool false) rfl rfl (λwz _=>yx _ 64 rfl (X:Nat) rfl false hX64 wz) hHeld ?_;simp only[Act.put,zk,zj,zl];refine zS 7 (some 85) (.pointer (some ⟨w.heap.size,3,none⟩)) hHeld ?_;simp only[Act.put,zk,zj,zl];refine qq 8 (some 86) (.int .i64 n.a) rfl rfl (λwz hz=>by have z0:=za hz nc3;unfold execOp;go_simp) hHeld ?_;simp only[Act.put,zk,zj,zl];refine qG 9 (some 87) 86 #[.bool false,.int .i64 135,.int .i64 n.a] (by kernel_rfl) rfl rfl (by rfl) (by kernel_rfl) (qO 135 n.a W1.drew) ?_;rintro e w5 ⟨rfl,rfl⟩;refine .inr ⟨_,rfl,?_⟩;exact⟨rfl,S1.only.drew,by rw[HR.out];rfl⟩
theorem GZ{w:World}{cb:Nat}{V:CV}{c:Ck}(h:zM E w cb V c)(n:Nd)(A:Option Addr)(L C:Nat)(hL:L=1)(gn on:Nat)(hA:A=some ⟨gn,on,none⟩)(hgn:gn<w.heap.size)(x:List UInt8)(hnx:(yy n.l 0).s=x)(hsx:w.cell? ⟨gn,on+0*5+1,none⟩=some (.string (bs x)))(hf:∀c ∈ x,zw c=true)(ho:n.op=zD):
 Calls Tryz.prog 88 #[.pointer (some ⟨cb,0,none⟩),.agg (zR n (.slice A L C))] w (Yv E w cb V (jX c n)):=by
 obtain⟨W1,hW1⟩:∃W1,W1=((w.alloc (.cells #[.string (bs n.op),.string (bs n.s),.int .i64 n.n,.int .i64 n.a,.slice A L C] 24)).alloc (.cells #[.string ⟨#[]⟩,.int .i64 0,.slice none 0 0] 136)).alloc (.cells #[.string (bs n.op),.int .i64 0,.slice none 0 0] 136):=⟨_,rfl⟩
 have hb1:Below w.heap.size w W1:=by rw[hW1];exact ZU _ _ _
 have N1:ze W1 w.heap.size 24 #[.string (bs n.op),.string (bs n.s),.int .i64 n.n,.int .i64 n.a,.slice A L C]:=by rw[hW1];exact((ze.new w _ _).alloc _).alloc _
 have R1:ze W1 (w.heap.size+1) 136 #[.string ⟨#[]⟩,.int .i64 0,.slice none 0 0]:=by rw[hW1];exact(ze.new_at (by simp)).alloc _
 have M1:ze W1 (w.heap.size+2) 136 #[.string (bs n.op),.int .i64 0,.slice none 0 0]:=by rw[hW1];exact ze.new_at (by simp)
 have h1:=(QH h).keep hb1;have S1:je cb V w V W1:=je.of hb1;have HW:=zz hW1;have lcb:=h.has.lt;have hrn:¬V.own cb (w.heap.size+1):=λe=>by have:=(h.low e).2;omega
 have hmn:¬V.own cb (w.heap.size+2):=λe=>by have:=(h.low e).2;omega
 have hot:=zx n.op;have f0:(n.op== [106,111,117,114,110,97,108])=false:=by rw[ho];decide
 have f1:(n.op== [100,101,118,105,99,101])=false:=by rw[ho];decide
 have f2:(n.op== [107,101,121])=false:=by rw[ho];decide
 have f3:(n.op== [114,111,111,116])=true:=by rw[ho];decide
 have f4:(n.op== [118,111,108,117,109,101])=false:=by rw[ho];decide
 have hR:jX c n=if x.length≠64 then .error (135,n.a)else .ok (c,⟨n.op,0,vZ x⟩):=by
  unfold jX;rw[if_neg (show ¬n.op=zg by rw[ho];decide),if_neg (show ¬n.op=zc by rw[ho];decide),if_pos (show n.op=zT∨n.op=zD by first |exact .inl ho|exact .inr ho),hnx]
 subst hL hA;have sxr:=za hb1 hsx;have nc4:=N1.cell 4;have nc3:=N1.cell 3;simp only[jg,jd,jf]at nc3 nc4
 obtain⟨X,hX⟩:∃X,X=x.length:=⟨_,rfl⟩
 have HX:=zz (show(bs x).size=X by rw[hX];exact zi x);have hxs:=zx x;clear hW1;by_cases h64:x.length=64
 ·have hX64:(((X:Nat):Int)==64)=true:=by rw[hX,h64];rfl
  rw[if_neg (not_not_intro h64)]at hR;have HR:=zz hR;have HU:=zz (λW=>uU x W h64 hf);have HUL:=zz (Ql 32 x (by omega));clear hR ho hX h64;unfold zR;go_enter Tryz.func88,Tryz.ntmps88
  go_wp2
  rw[←HW.out];refine wp_region_held_drew (S:=λwz=>Below W1.heap.size W1 wz) (by kernel_rfl) ((Below.refl _ W1).drew) (λhHeld=>?_);refine zS 0 (some 78) (.pointer (some ⟨w.heap.size,4,none⟩)) hHeld ?_;simp only[Act.put,zk,zj,zl];refine qq 1 (some 79) (.slice (some ⟨gn,on,none⟩) 1 C) rfl rfl (λwz hz=>by have z0:=za hz nc4;unfold execOp;go_simp) hHeld ?_;simp only[Act.put,zk,zj,zl];refine qq 2 (some 80) (.pointer (some ⟨gn,on+0*5,none⟩)) rfl rfl (λwz _=>qF _ _ rfl gn on 0 1 C rfl rfl (by decide) wz) hHeld ?_;simp only[Act.put,zk,zj,zl];refine zS 3 (some 81) (.pointer (some ⟨gn,on+0*5+1,none⟩)) hHeld ?_;simp only[Act.put,zk,zj,zl];refine qq 4 (some 82) (.string (bs x)) rfl rfl (λwz hz=>by have z0:=za hz sxr;unfold execOp;go_simp) hHeld ?_;simp only[Act.put,zk,zj,zl];refine qq 5 (some 83) (.int .i64 (X:Nat)) rfl rfl (λwz _=>by unfold execOp;go_simp;rw[HX.out]) hHeld ?_;simp only[Act.put,zk,zj,zl];refine qq 6 (some 84) (.bool true) rfl rfl (λwz _=>yx _ 64 rfl (X:Nat) rfl true hX64 wz) hHeld ?_;simp only[Act.put,zk,zj,zl];refine zS 7 (some 85) (.pointer (some ⟨w.heap.size,3,none⟩)) hHeld ?_;simp only[Act.put,zk,zj,zl];refine qq 8 (some 86) (.int .i64 n.a) rfl rfl (λwz hz=>by have z0:=za hz nc3;unfold execOp;go_simp) hHeld ?_;simp only[Act.put,zk,zj,zl];refine qG 9 (some 87) 86 #[.bool true,.int .i64 135,.int .i64 n.a] (by kernel_rfl) rfl rfl (by rfl) (by kernel_rfl) (qa 135 n.a W1.drew) ?_;rintro e w5 ⟨rfl,rfl⟩;refine .inl ⟨_,rfl,hHeld,?_⟩;simp only[Act.put,zk,zj,zl];refine wpAnyH_done (by kernel_rfl) ?_ _;have hbd:Below W1.heap.size W1 W1.drew:=zu (Below.refl _ W1);have H2:=h1.keep hbd;have S2:=S1.trans (je.of (cb:=cb) (V:=V) hbd);have N2:=zq N1;have R2:=zq R1;have M2:=zq M1;replace sxr:=za hbd sxr;replace nc4:=za hbd nc4;have hg2:gn<W1.drew.heap.size:=Nat.lt_of_lt_of_le hgn (Nat.le_trans hb1.size hbd.size);clear hHeld nc3 h1 S1 N1 R1 M1 hb1 HW hbd;generalize W1.drew=W2 at *;have nl2:=N2.lt;have hux:=HU.out W2
  go_wp2_with (first
   |((refine zf 90 rfl ?_)
     (refine zb (some 90) (.pointer (some ⟨gn,on+0*5,none⟩)) rfl (by rfl) (qF _ _ rfl gn on 0 1 C rfl rfl (by decide) W2) ?_))
   |((go_at_call 119)
     refine hux.mono ?_;rintro e w5 ⟨v,rfl,⟨Av,Cv,rfl,JE,hv2,hvb⟩,hb5⟩;rw[HUL.out]at JE ⊢;have M5:=M2.below hb5 M2.lt;have R5:=R2.below hb5 R2.lt;have m0:=M5.cell 0;have m1:=M5.cell 1;have m2:=M5.cell 2;have r0:=R5.cell 0;have r1:=R5.cell 1;have r2:=R5.cell 2;simp only[jg,jd,jf]at m0 m1 m2 r0 r1 r2;have mf:=M5.free 2;have ml:=M5.lt;have g0:=R5.free 0;have g1:=R5.free 1;have g2:=R5.free 2;(have rl:=R5.lt)))
  have H5:=H2.keep hb5;have S5:=S2.trans (je.of (cb:=cb) (V:=V) hb5);have H6:=H5.other ⟨w.heap.size+2,2,none⟩ hmn (λe=>absurd e.2 (Nat.not_lt.2 (Nat.le_add_right _ _))) (.slice Av 32 Cv);have S6:=S5.set (q:=⟨w.heap.size+2,2,none⟩) (by show w.heap.size≤w.heap.size+2;omega) (.slice Av 32 Cv);have R6:=R5.other (p:=⟨w.heap.size+2,2,none⟩) (by show w.heap.size+1≠w.heap.size+2;omega) (.slice Av 32 Cv);have rl2:=M2.lt;have hvb6:yc (w5.setCell ⟨w.heap.size+2,2,none⟩ (.slice Av 32 Cv)) (λg=>W2.heap.size≤g) Av (vZ x):=hvb.keep (by simp) (λk hk hP=>⟨Below.heap_setCell w5 _ _ k (by show k≠w.heap.size+2;omega),hP⟩);refine QT rfl rfl (R6.set3 _ _ _) rfl ?_;have S7:=S6.set3 (g:=w.heap.size+1) (by omega) (.string (bs n.op)) (.int .i64 0) (.slice Av 32 Cv);have H7:=H6.other3 (w.heap.size+1) hrn (λe=>absurd e.2 (Nat.not_lt.2 (Nat.le_add_right _ _))) (.string (bs n.op)) (.int .i64 0) (.slice Av 32 Cv);refine⟨S7.only,?_⟩;rw[HR.out];refine⟨.slice Av 32 Cv,V,rfl,⟨Av,Cv,by rw[HUL.out],by rw[HUL.out];exact JE,hv2,?_⟩,H7.mono (λg _ _ he=> .inl he.1),S7⟩;refine hvb6.keep (by simp) (λk hk hP=>⟨?_,λe=>?_,.inr ?_⟩)
  ·have hne:k≠w.heap.size+1:=by omega
   exact(Below.heap_setCell _ ⟨w.heap.size+1,2,none⟩ _ k hne).trans ((Below.heap_setCell _ ⟨w.heap.size+1,1,none⟩ _ k hne).trans (Below.heap_setCell _ ⟨w.heap.size+1,0,none⟩ _ k hne))
  ·have:=(h.low e).2;omega
  ·omega
 ·have hX64:(((X:Nat):Int)==64)=false:=by rw[beq_eq_false_iff_ne];omega
  rw[if_pos h64]at hR;have HR:=zz hR;clear hR ho hX;unfold zR;go_enter Tryz.func88,Tryz.ntmps88
  go_wp2
  rw[←HW.out];refine wp_region_held_drew (S:=λwz=>Below W1.heap.size W1 wz) (by kernel_rfl) ((Below.refl _ W1).drew) (λhHeld=>?_);refine zS 0 (some 78) (.pointer (some ⟨w.heap.size,4,none⟩)) hHeld ?_;simp only[Act.put,zk,zj,zl];refine qq 1 (some 79) (.slice (some ⟨gn,on,none⟩) 1 C) rfl rfl (λwz hz=>by have z0:=za hz nc4;unfold execOp;go_simp) hHeld ?_;simp only[Act.put,zk,zj,zl];refine qq 2 (some 80) (.pointer (some ⟨gn,on+0*5,none⟩)) rfl rfl (λwz _=>qF _ _ rfl gn on 0 1 C rfl rfl (by decide) wz) hHeld ?_;simp only[Act.put,zk,zj,zl];refine zS 3 (some 81) (.pointer (some ⟨gn,on+0*5+1,none⟩)) hHeld ?_;simp only[Act.put,zk,zj,zl];refine qq 4 (some 82) (.string (bs x)) rfl rfl (λwz hz=>by have z0:=za hz sxr;unfold execOp;go_simp) hHeld ?_;simp only[Act.put,zk,zj,zl];refine qq 5 (some 83) (.int .i64 (X:Nat)) rfl rfl (λwz _=>by unfold execOp;go_simp;rw[HX.out]) hHeld ?_;simp only[Act.put,zk,zj,zl];refine qq 6 (some 84) (.bool false) rfl rfl (λwz _=>yx _ 64 rfl (X:Nat) rfl false hX64 wz) hHeld ?_;simp only[Act.put,zk,zj,zl];refine zS 7 (some 85) (.pointer (some ⟨w.heap.size,3,none⟩)) hHeld ?_;simp only[Act.put,zk,zj,zl];refine qq 8 (some 86) (.int .i64 n.a) rfl rfl (λwz hz=>by have z0:=za hz nc3;unfold execOp;go_simp) hHeld ?_;simp only[Act.put,zk,zj,zl];refine qG 9 (some 87) 86 #[.bool false,.int .i64 135,.int .i64 n.a] (by kernel_rfl) rfl rfl (by rfl) (by kernel_rfl) (qO 135 n.a W1.drew) ?_;rintro e w5 ⟨rfl,rfl⟩;refine .inr ⟨_,rfl,?_⟩;exact⟨rfl,S1.only.drew,by rw[HR.out];rfl⟩
end
section
open Go.ChangeShapes Go.WideShapes Go.ChangeAt Go.RowKit Go.MapKept
variable {E:Nat→Prop}
theorem K3{w:World}{cb:Nat}{V:CV}{c:Ck}(h:zM E w cb V c)(n:Nd)(A:Option Addr)(L C:Nat)(hL:L=1)(w0:World)(gn on:Nat)(hA:A=some ⟨gn,on,none⟩)(hgn:gn<w.heap.size)(x:Nd)(An:Option Addr)(Cn:Nat)(hnx:yy n.l 0=x)(hat:Vx w gn (on+0*5) x An Cn)(hrx:jZ w0 x An Cn)(hcb:w0.heap.size≤cb-1)(hb0:Below w0.heap.size w0 w)(hxr:DF 12 x)(hxc:fL cb w0 12)(hnm:yz c.names c.parts)(hby:∀x ∈ c.names,x.2.bytes.length≤1000)(ho:n.op=zp):
 Calls Tryz.prog 88 #[.pointer (some ⟨cb,0,none⟩),.agg (zR n (.slice A L C))] w (Yv E w cb V (jX c n)):=by
 obtain⟨W1,hW1⟩:∃W1,W1=((w.alloc (.cells #[.string (bs n.op),.string (bs n.s),.int .i64 n.n,.int .i64 n.a,.slice A L C] 24)).alloc (.cells #[.string ⟨#[]⟩,.int .i64 0,.slice none 0 0] 136)).alloc (.cells #[.string (bs n.op),.int .i64 0,.slice none 0 0] 136):=⟨_,rfl⟩
 have hb1:Below w.heap.size w W1:=by rw[hW1];exact ZU _ _ _
 have N1:ze W1 w.heap.size 24 #[.string (bs n.op),.string (bs n.s),.int .i64 n.n,.int .i64 n.a,.slice A L C]:=by rw[hW1];exact((ze.new w _ _).alloc _).alloc _
 have R1:ze W1 (w.heap.size+1) 136 #[.string ⟨#[]⟩,.int .i64 0,.slice none 0 0]:=by rw[hW1];exact(ze.new_at (by simp)).alloc _
 have M1:ze W1 (w.heap.size+2) 136 #[.string (bs n.op),.int .i64 0,.slice none 0 0]:=by rw[hW1];exact ze.new_at (by simp)
 have h1:=(QH h).keep hb1;have S1:je cb V w V W1:=je.of hb1;have HW:=zz hW1;have lcb:=h.has.lt;have hrn:¬V.own cb (w.heap.size+1):=λe=>by have:=(h.low e).2;omega
 have hmn:¬V.own cb (w.heap.size+2):=λe=>by have:=(h.low e).2;omega
 have hot:=zx n.op;have f0:(n.op== [106,111,117,114,110,97,108])=false:=by rw[ho];decide
 have f1:(n.op== [100,101,118,105,99,101])=false:=by rw[ho];decide
 have f2:(n.op== [107,101,121])=false:=by rw[ho];decide
 have f3:(n.op== [114,111,111,116])=false:=by rw[ho];decide
 have f4:(n.op== [118,111,108,117,109,101])=true:=by rw[ho];decide
 have hR:jX c n=match jN c.names 12 c.parts x with | .error e=> .error e| .ok (k,ps)=> .ok ({ c with parts:=ps },⟨n.op,k,[]⟩):=by
  unfold jX;rw[if_neg (show ¬n.op=zg by rw[ho];decide),if_neg (show ¬n.op=zc by rw[ho];decide),if_neg (show ¬(n.op=zT∨n.op=zD) by rw[ho];decide),hnx];rfl
 subst hL hA;have hat1:Vx W1 gn (on+0*5) x An Cn:=λj hj=>(hb1.cell (p:=⟨gn,on+0*5+j,none⟩) hgn).trans (hat j hj)
 have hcx:=hxc _ W1 V c x An Cn h1 hrx hcb (hb0.trans (hb1.mono hb0.size)) hxr hnm hby;have nc4:=N1.cell 4;have nl1:=N1.lt;simp only[jg,jd,jf]at nc4;clear hW1;cases hX:jN c.names 12 c.parts x with
 |error er =>
  obtain⟨ec,ek⟩:=er;rw[hX]at hR hcx;have HR:=zz hR;clear hR ho hX;unfold zR at hcx;unfold zR;go_enter Tryz.func88,Tryz.ntmps88
  go_wp2_with (first
   |((refine zf 97 rfl ?_)
     rw[←HW.out];(refine zb (some 97) (.slice (some ⟨gn,on,none⟩) 1 C) rfl (by rfl) (by unfold execOp;go_simp) ?_))
   |((refine zf 98 rfl ?_)
     (refine zb (some 98) (.pointer (some ⟨gn,on+0*5,none⟩)) rfl (by rfl) (qF _ _ rfl gn on 0 1 C rfl rfl (by decide) W1) ?_))
   |((refine zf 99 rfl ?_)
     refine zb (some 99) _ rfl (by rfl) (qQ _ rfl gn (on+0*5) rfl W1 hat1) ?_;(unfold Qp))
   |((go_at_call 120)
     refine hcx.mono ?_;(rintro e w5 ⟨ho5,rfl⟩)))
  exact⟨rfl,S1.only.trans ho5,by rw[HR.out]⟩
 |ok r =>
  obtain⟨k,ps⟩:=r;rw[hX]at hR hcx;have HR:=zz hR;clear hR ho hX;unfold zR at hcx;unfold zR;go_enter Tryz.func88,Tryz.ntmps88
  go_wp2_with (first
   |((refine zf 97 rfl ?_)
     rw[←HW.out];(refine zb (some 97) (.slice (some ⟨gn,on,none⟩) 1 C) rfl (by rfl) (by unfold execOp;go_simp) ?_))
   |((refine zf 98 rfl ?_)
     (refine zb (some 98) (.pointer (some ⟨gn,on+0*5,none⟩)) rfl (by rfl) (qF _ _ rfl gn on 0 1 C rfl rfl (by decide) W1) ?_))
   |((refine zf 99 rfl ?_)
     refine zb (some 99) _ rfl (by rfl) (qQ _ rfl gn (on+0*5) rfl W1 hat1) ?_;(unfold Qp))
   |((go_at_call 120)
     refine hcx.mono ?_;rintro e w5 ⟨ho5,rfl,V5,H5,S5⟩;have M5:ze w5 (w.heap.size+2) 136 #[.string (bs n.op),.int .i64 0,.slice none 0 0]:=(S5.inner _ M1.lt hmn).1.trans M1;have R5:ze w5 (w.heap.size+1) 136 #[.string ⟨#[]⟩,.int .i64 0,.slice none 0 0]:=(S5.inner _ R1.lt hrn).1.trans R1;have m0:=M5.cell 0;have m1:=M5.cell 1;have m2:=M5.cell 2;have r0:=R5.cell 0;have r1:=R5.cell 1;have r2:=R5.cell 2;simp only[jg,jd,jf]at m0 m1 m2 r0 r1 r2;have mf:=M5.free 1;have ml:=M5.lt;have g0:=R5.free 0;have g1:=R5.free 1;have g2:=R5.free 2;(have rl:=R5.lt)))
  have hmn5:=(S5.inner _ M1.lt hmn).2;have hrn5:=(S5.inner _ R1.lt hrn).2;have lm1:=M1.lt
  have H6:=(H5.mono (E':=λg=>(E g∧g<w.heap.size)∨w.heap.size+2<g) (λg _ _ he=>by
   rcases he with he|he
   ·exact .inl he
   ·exact .inr (by omega))).other ⟨w.heap.size+2,1,none⟩ hmn5 (λe=>by
    rcases e with e|e
    ·exact absurd e.2 (Nat.not_lt.2 (Nat.le_add_right _ _))
    ·exact absurd e (Nat.lt_irrefl _)) (.int .i64 (k:Nat))
  have S6:=(S1.trans S5).set (q:=⟨w.heap.size+2,1,none⟩) (by show w.heap.size≤w.heap.size+2;omega) (.int .i64 (k:Nat));have R6:=R5.other (p:=⟨w.heap.size+2,1,none⟩) (by show w.heap.size+1≠w.heap.size+2;omega) (.int .i64 (k:Nat));refine QT rfl rfl (R6.set3 _ _ _) rfl ?_;have S7:=S6.set3 (g:=w.heap.size+1) (by omega) (.string (bs n.op)) (.int .i64 (k:Nat)) (.slice none 0 0)
  have H7:=H6.other3 (w.heap.size+1) hrn5 (λe=>by
   rcases e with e|e
   ·exact absurd e.2 (Nat.not_lt.2 (Nat.le_add_right _ _))
   ·exact absurd e (by show ¬w.heap.size+2<w.heap.size+1;omega)) (.string (bs n.op)) (.int .i64 (k:Nat)) (.slice none 0 0)
  refine⟨S7.only,?_⟩;rw[HR.out]
  exact⟨.slice none 0 0,V5,rfl,kV rfl,H7.mono (λg _ _ he=>by
   rcases he with he|he
   ·exact .inl he.1
   ·exact .inr (by omega)),S7⟩
end
section
open Go.ChangeShapes Go.WideShapes Go.ChangeAt Go.RowKit Go.MapKept
variable {E:Nat→Prop}
theorem Fp{w:World}{cb:Nat}{V:CV}{c:Ck}(h:zM E w cb V c)(n:Nd)(A:Option Addr)(L C d:Nat)(ho:n.op=j8):Calls Tryz.prog 120 #[.pointer (some ⟨cb,0,none⟩),.agg (zR n (.slice A L C))] w (zau E w cb V c (jN c.names (d+1) c.parts n)):=by
 have hR:jN c.names (d+1) c.parts n=match jj c.names n [zc,zp]with | .error e=> .error e| .ok m=> .ok (m.node,c.parts):=by
  show(if n.op=j8 then _ else _)=_;rw[if_pos ho];rfl
 rw[hR];have f0:(n.op== [117,115,101])=true:=by rw[ho];decide
 have hot:=zx n.op
 obtain⟨W1,hW1⟩:∃W1,W1=(w.alloc (.cells #[.string (bs n.op),.string (bs n.s),.int .i64 n.n,.int .i64 n.a,.slice A L C] 24)).alloc (.cells #[.string ⟨#[100,101,118,105,99,101]⟩,.string ⟨#[118,111,108,117,109,101]⟩] 9):=⟨_,rfl⟩
 have hb1:Below w.heap.size w W1:=by rw[hW1];exact qv w _ _
 have hkn:=Xs (h.keep hb1) n A L C [zc,zp] (.slice (some ⟨w.heap.size+1,0,none⟩) 2 2) (.inr ⟨w.heap.size+1,rfl,by rw[hW1];exact ze.new_at (by simp)⟩) (by simp);rw[hW1]at hkn;have HW:Hid (W1=(w.alloc (.cells #[.string (bs n.op),.string (bs n.s),.int .i64 n.n,.int .i64 n.a,.slice A L C] 24)).alloc (.cells #[.string ⟨#[100,101,118,105,99,101]⟩,.string ⟨#[118,111,108,117,109,101]⟩] 9)):=hW1;clear hW1 hR ho;cases hK:jj c.names n [zc,zp]with
 |error er =>
  obtain⟨ec,ek⟩:=er;rw[hK]at hkn;clear hK;unfold zR at hkn ⊢;go_enter Tryz.func120,Tryz.ntmps120
  go_wp2_with (first
   |((go_at_call 117)
     refine hkn.mono ?_;(rintro e w2 ⟨hb2,rfl⟩)))
  rw[←HW.out]at hb2;exact⟨rfl,.of (hb1.trans (hb2.mono hb1.size)),rfl⟩
 |ok m =>
  rw[hK]at hkn;clear hK;unfold zR at hkn ⊢;go_enter Tryz.func120,Tryz.ntmps120
  go_wp2_with (first
   |((go_at_call 117)
     refine hkn.mono ?_;rintro e w2 ⟨hb2,Am,Cm,rfl,hm1,hm2,hbp⟩;(unfold X7))
   |((refine zf 16 rfl ?_)
     (refine zb (some 16) (.int .i64 (m.node:Nat)) rfl (by rfl) (by kernel_rfl) ?_)))
  go_ret
  rw[←HW.out]at hb2;have hb02:Below w.heap.size w w2:=hb1.trans (hb2.mono hb1.size);exact⟨.of hb02,rfl,V,(h.keep hb02).mono (λk _ _ he=> .inl he),je.of hb02⟩
end
section
open Go.ChangeShapes Go.WideShapes Go.ChangeAt Go.RowKit Go.MapKept
structure KQ (E:Nat→Prop) (W1 wr:World) (cb:Nat) (V V':CV) (c:Ck) (d:Nat) (l:List Nd) (i:Nat) (v:Value) (ks:List Nat) (ps:List Pt):Prop where
 is:jy (jN c.names d) c.parts ((l.take i).filter λx=> !(x.op==vk||x.op==js))= .ok (ks,ps)
 row:wr.ownsRow W1.heap.size 3 1 v ks.length (ks.map λk=> .int .i64 (k:Nat))
 free:∀g,v.ownBlock=some g→¬V'.own cb g
 ck:zM (λg=>(E g∨W1.heap.size≤g)∧v.ownBlock≠some g) wr cb V' { c with parts:=ps }
 stp:je cb V W1 V' wr
 nms:yz c.names ps
theorem KQ.step{E:Nat→Prop}{W1 wr w5 w6:World}{cb:Nat}{V V' V5:CV}{c:Ck}{d:Nat}{l:List Nd}{i:Nat}{v:Value}{ks:List Nat}{ps p5:List Pt}{k:Nat}{o:Obj}{A6:Option Addr}{C6:Nat}(h:KQ E W1 wr cb V V' c d l i v ks ps)(hi:i<l.length)(hx:(l[i].op==vk||l[i].op==js)=false)(hk:jN c.names d ps l[i]= .ok (k,p5))
 (h5:zM (λg=>((E g∨W1.heap.size≤g)∧v.ownBlock≠some g)∨(wr.alloc o).heap.size≤g) w5 cb V5 { c with parts:=p5 }) (s5:je cb V' (wr.alloc o) V5 w5) (hn5:yz c.names p5)
 (hr6:w6.ownsRow W1.heap.size 3 1 (.slice A6 (ks.length+1) C6) (ks.length+1) (ks.map (λk=> .int .i64 (k:Nat))++ [.int .i64 (k:Nat)])) (hg6:(w5.alloc (.cells #[.int .i64 (k:Nat)] 3)).grownBy w6 v.ownBlock) (hw6:(Value.slice A6 (ks.length+1) C6).ownBlock=v.ownBlock∨(Value.slice A6 (ks.length+1) C6).ownBlock=some (w5.alloc (.cells #[.int .i64 (k:Nat)] 3)).heap.size):
 KQ E W1 w6 cb V V5 c d l (i+1) (.slice A6 (ks.length+1) C6) (ks++ [k]) p5:=by
 have hvl:∀g,v.ownBlock=some g→W1.heap.size≤g∧g<wr.heap.size:=λg e=>(qy h.row e).symm
 have hs1:wr.heap.size<(wr.alloc o).heap.size:=by simp
 have hs5:=s5.only.size;have hin:∀g,v.ownBlock=some g→¬V5.own cb g:=λg e=>(s5.inner g (by have:=(hvl g e).2;omega) (h.free g e)).2
 have hb5:=zd w5 (.cells #[.int .i64 (k:Nat)] 3);have hsz5:(w5.alloc (.cells #[.int .i64 (k:Nat)] 3)).heap.size=w5.heap.size+1:=by simp
 have h5':zM (λg=>(E g∨W1.heap.size≤g)∧v.ownBlock≠some g∧g≠(w5.alloc (.cells #[.int .i64 (k:Nat)] 3)).heap.size) (w5.alloc (.cells #[.int .i64 (k:Nat)] 3)) cb V5 { c with parts:=p5 }:=by
  refine(h5.keep hb5).mono (λg hg hn he=>?_);refine⟨?_,?_,by omega⟩
  ·rcases he with he|he
   ·exact he.1
   ·exact .inr (Nat.le_trans (Nat.le_trans h.stp.only.size (Nat.le_of_lt hs1)) he)
  ·rcases he with he|he
   ·exact he.2
   ·intro e
    have:=(hvl g e).2;omega
 have h6:=h5'.grown hg6 hin (λg he=>he.2.1);refine⟨?_,by rw[List.length_append,List.length_singleton,List.map_append,List.map_cons,List.map_nil];exact hr6,λg e=>?_,h6.mono (λg hg hn he=>⟨he.1,λe=>?_⟩),?_,hn5⟩
 ·rw[Jb l hi,hx]
  simp only[Bool.false_eq_true,if_false];rw[J9,h.is];simp only;rw[hk]
 ·rcases hw6 with q|q
  ·exact hin g (q ▸ e)
  ·rw[q]at e
   cases e;intro ho;have:=(h5.low ho).2;omega
 ·rcases hw6 with q|q
  ·exact he.2.1 (q ▸ e)
  ·rw[q]at e
   cases e;exact he.2.2 rfl
 ·exact((h.stp.trans ((je.of (zd wr o)).trans s5)).trans (je.of hb5)).grown hg6 (λg e=>(hvl g e).1)
theorem KQ.pass{E:Nat→Prop}{W1 wr:World}{cb:Nat}{V V':CV}{c:Ck}{d:Nat}{l:List Nd}{i:Nat}{v:Value}{ks:List Nat}{ps:List Pt}{o:Obj}(h:KQ E W1 wr cb V V' c d l i v ks ps)(hi:i<l.length)(hx:(l[i].op==vk||l[i].op==js)=true):KQ E W1 (wr.alloc o) cb V V' c d l (i+1) v ks ps:=by
 refine⟨?_,zI h.row (λg ob e ho=>(Below.heap_alloc wr o g (Array.getElem?_eq_some_iff.1 ho).1).trans ho),h.free,h.ck.alloc o,h.stp.trans (je.of (zd wr o)),h.nms⟩;rw[Jb l hi,hx];simp only[if_true,List.append_nil];exact h.is
end
section
open Go.ChangeShapes Go.WideShapes Go.ChangeAt Go.RowKit Go.MapKept
variable {E:Nat→Prop}
theorem Hr{w:World}{cb:Nat}{V:CV}{c:Ck}{ks:List Nat}{bk ok Ck:Nat}(hI:PIn E w cb V c ks bk ok Ck)(n:Nd)(A:Option Addr)(C:Nat)(hr:jZ w n A C)(hs:ExS n)(hk:ks.length=(jo n).length)(hn:yz c.names c.parts)(hby:∀x ∈ c.names,x.2.bytes.length≤1000):
 Calls Tryz.prog 144 #[.pointer (some ⟨cb,0,none⟩),.agg (zR n (.slice A n.l.length C)),.slice (some ⟨bk,ok,none⟩) ks.length Ck] w (xB w (Gd (jU c.names c.parts n ks))):=by
 rcases hs.word with ho|ho|ho|ho
 ·obtain⟨h1,h2,h3⟩:=hs.lin ho
  exact Kk hI n A C hr ho h1 h2 h3
 ·exact YY hI n A C hr ho
 ·obtain⟨h1,h2⟩:=hs.snap ho
  exact VP hI n A C hr ho h1 (by rw[hk];exact hs.shape.snap ho) h2
 ·exact Xw hI n A C hr ho (hs.sec ho) hn hby
theorem zbf{w:World}{cb:Nat}{V:CV}{c:Ck}(h:zM E w cb V c)(p:Pt)(Ak:Option Addr)(Ck:Nat)(A2:Option Addr)(C2:Nat)(A3:Option Addr)(C3:Nat)(hu:Qk w (λg=>¬V.own cb g∧E g) p (.slice Ak p.kids.length Ck,.slice A2 p.key.length C2,.slice A3 p.root.length C3))(hkids:∀k ∈ p.kids,k<c.parts.length)(hkl:p.kids.length≤1000)(h52:p.kind=5→p.kids.length=2)(hfew:c.parts.length≤90000):
 Calls Tryz.prog 84 #[.pointer (some ⟨cb,0,none⟩),.agg #[.int .i64 (p.kind:Nat),.int .i64 (p.size:Nat),.slice Ak p.kids.length Ck,.int .i64 (p.dev:Nat),.int .i64 (p.first:Nat),.int .i64 (p.chunk:Nat),.slice A2 p.key.length C2,.slice A3 p.root.length C3]] w (DY E w cb V c p):=by
 by_cases h5:p.kind=5
 ·exact YD h p Ak Ck A2 C2 A3 C3 hu hkids hkl h5 (h52 h5) hfew
 ·by_cases h8:p.kind=8
  ·exact UB h p Ak Ck A2 C2 A3 C3 hu hkids hkl h8 hfew
  ·exact Yr h p Ak Ck A2 C2 A3 C3 hu hkids hkl h5 h8 hfew
end
section
open Go.ChangeShapes Go.WideShapes Go.ChangeAt Go.RowKit Go.MapKept
theorem Dv{ns:xv}{d:Nat}{ps p1:List Pt}{n:Nd}{ks:List Nat}(hne:n.op≠j8)(h:jy (jN ns d) ps (jo n)= .ok (ks,p1)):jN ns (d+1) ps n=if 64≤p1.length then .error (137,n.a)else match jU ns p1 n ks with | .error e=> .error e| .ok p=> .ok (p1.length,p1++ [p]):=by
 show(if n.op=j8 then _ else _)=_;rw[if_neg hne,h];rfl
theorem GU{ns:xv}{d:Nat}{ps:List Pt}{n:Nd}{e:Er}(hne:n.op≠j8)(h:jy (jN ns d) ps (jo n)= .error e):jN ns (d+1) ps n= .error e:=by
 show(if n.op=j8 then _ else _)=_;rw[if_neg hne,h]
theorem dK{w0:World}{cb d:Nat}(ih:fL cb w0 d){E:Nat→Prop}{w:World}{V:CV}{c:Ck}(h:zM E w cb V c)(n:Nd)(A:Option Addr)(C:Nat)(hr:jZ w0 n A C)(hcb:w0.heap.size≤cb-1)(hb0:Below w0.heap.size w0 w)(hne:n.op≠j8)(hs:ExS n)(hx:∀x ∈ jo n,DF d x)(hn:yz c.names c.parts)(hby:∀x ∈ c.names,x.2.bytes.length≤1000):
 Calls Tryz.prog 120 #[.pointer (some ⟨cb,0,none⟩),.agg (zR n (.slice A n.l.length C))] w (zau E w cb V c (jN c.names (d+1) c.parts n)):=by
 have f0:(n.op== [117,115,101])=false:=by rw[beq_eq_false_iff_ne];exact hne
 have hot:=zx n.op
 obtain⟨W1,hW1⟩:∃W1,W1=w.alloc (.cells #[.string (bs n.op),.string (bs n.s),.int .i64 n.n,.int .i64 n.a,.slice A n.l.length C] 24):=⟨_,rfl⟩
 have hb1:Below w.heap.size w W1:=by rw[hW1];exact zd w _
 have N1:ze W1 w.heap.size 24 #[.string (bs n.op),.string (bs n.s),.int .i64 n.n,.int .i64 n.a,.slice A n.l.length C]:=by rw[hW1];exact ze.new w _ _
 have hsz1:W1.heap.size=w.heap.size+1:=by rw[hW1];simp
 have HZ1:=zz hsz1;have h1:zM E W1 cb V c:=h.keep hb1
 have hnb:∀V' wz,je cb V W1 V' wz→¬V'.own cb w.heap.size:=λV' wz s ho=>by
  rcases s.new _ ho with q|q
  ·exact Nat.lt_irrefl _ (h.low q).2
  ·omega
 have HNB:=zz hnb;have HW:=zz hW1;have hlen:=hr.len;have HER:=zz (λe=>GU (ns:=c.names) (d:=d) (ps:=c.parts) (e:=e) hne);have HMK:=zz (λks p1=>Dv (ns:=c.names) (d:=d) (ps:=c.parts) (p1:=p1) (ks:=ks) hne);have HIH:=zz ih;have HX:=zz hx;have HBY:=zz hby
 obtain⟨L,hL⟩:∃L,L=n.l.length:=⟨_,rfl⟩
 have HL:=zz hL;rw[←hL]at HW N1 hlen ⊢
 have h0:KQ E W1 W1 cb V V c d n.l 0 (.slice none 0 0) [] c.parts:=⟨rfl,⟨rfl,.inl ⟨rfl,rfl⟩⟩,(λg e=>by cases e),h1.mono (λk _ _ he=>⟨.inl he,λe=>by cases e⟩),je.refl _ _ _,hn⟩
 clear hW1 hsz1 hnb ih hx hby hL h1;unfold zR;go_enter Tryz.func120,Tryz.ntmps120;have nn0:=N1.cell 0;have nn4:=N1.cell 4;have nl1:=N1.lt;rw[HW.out]at nn0 nn4 nl1
 go_wp2
 rw[←HW.out]
 go_loopw [5,20] (λz5 z20 wr=>∃(i:Nat) (V':CV) (ks:List Nat) (ps:List Pt),z20= .int .i64 (i:Nat)∧i≤L∧KQ E W1 wr cb V V' c d n.l i z5 ks ps∧ze wr w.heap.size 24 #[.string (bs n.op),.string (bs n.s),.int .i64 n.n,.int .i64 n.a,.slice A L C]) (λ_ z _=>L-(intOf z).toNat)
 case atStart=>exact⟨0,V,[],c.parts,rfl,Nat.zero_le _,h0,N1⟩
 case round =>
  obtain⟨i,V2,ks,ps,rfl,hi,K,NB⟩:=hrel;by_cases hlt:i<L
  ·have hil:i<n.l.length:=by rw[←HL.out];exact hlt
   have hBr:Below (cb-1) W1 wr:=K.stp.only.below (by have:=h.has.lt;rw[HZ1.out];omega) (λk hk=>by have:=(h.low hk).1;omega);have hB0r:Below w0.heap.size w0 wr:=(hb0.trans (hb1.mono hb0.size)).trans (hBr.mono hcb);obtain⟨g,off,An,Cn,eA,hg,hat,hrn⟩:=YX.get (⟨hr.rd,hB0r⟩:YX w0 wr n.l A C) hil;subst eA;have hint:(i:Int)<(L:Int):=by omega
   have HKS:=zz (λo k p5 V5 w5 w6 A6 C6=>K.step (o:=o) (k:=k) (p5:=p5) (V5:=V5) (w5:=w5) (w6:=w6) (A6:=A6) (C6:=C6) hil);have HKP:=zz (λo=>K.pass (o:=o) hil);have HMm:=zz (show n.l[i] ∈ n.l from List.getElem_mem hil)
   have HKE:=zz (λ(e:Er) (q:jy (jN c.names d) c.parts ((n.l.take (i+1)).filter λx=> !(x.op==vk||x.op==js))= .error e)=>HER.out e (by
    have:=gz (jN c.names d) _ ((n.l.drop (i+1)).filter λx=> !(x.op==vk||x.op==js)) c.parts e q;rw[←List.filter_append,List.take_append_drop]at this
    exact this))
   have HSN:=zz (Jb n.l hil);generalize n.l[i]=m at *;have hmt:=zx m.op;cases hb:(m.op==vk||m.op==js)with
   |true =>
    have HBm:=zz hb;by_cases hq:m.op=vk
    ·have f1:(m.op== [110,117,109])=true:=by rw[hq];decide
     clear hb hq K
     go_wp2_with (first
      |((refine zf 22 rfl ?_)
        (refine zb (some 22) _ rfl (by rfl) (qF _ _ rfl g off i L C rfl rfl hlt wr) ?_))
      |((refine zf 23 rfl ?_)
        refine zb (some 23) _ rfl (by rfl) (qQ _ rfl g (off+i*5) rfl wr hat) ?_;(unfold Qp)))
     go_roundw
     case rel=>exact⟨i+1,V2,ks,ps,by go_num,by omega,HKP.out _ HBm.out,NB.alloc _⟩
     case measure=>simp[intOf];omega
    ·have f1:(m.op== [110,117,109])=false:=by rw[beq_eq_false_iff_ne];exact hq
     have f2:(m.op== [110,97,109,101])=true:=by
      have hq':(m.op==vk)=false:=f1;rw[hq',Bool.false_or]at hb;exact hb
     clear hb hq K
     go_wp2_with (first
      |((refine zf 22 rfl ?_)
        (refine zb (some 22) _ rfl (by rfl) (qF _ _ rfl g off i L C rfl rfl hlt wr) ?_))
      |((refine zf 23 rfl ?_)
        refine zb (some 23) _ rfl (by rfl) (qQ _ rfl g (off+i*5) rfl wr hat) ?_;(unfold Qp)))
     go_roundw
     case rel=>exact⟨i+1,V2,ks,ps,by go_num,by omega,HKP.out _ HBm.out,NB.alloc _⟩
     case measure=>simp[intOf];omega
   |false =>
    have HBm:=zz hb;simp only[Bool.or_eq_false_iff]at hb;have f1:(m.op== [110,117,109])=false:=hb.1;have f2:(m.op== [110,97,109,101])=false:=hb.2;have hmk:m ∈ jo n:=List.mem_filter.2 ⟨HMm.out,by simpa using HBm.out⟩;have hcx:=HIH.out _ (wr.alloc (.cells #[.string (bs m.op),.string (bs m.s),.int .i64 m.n,.int .i64 m.a,.slice An m.l.length Cn] 24)) V2 { c with parts:=ps } m An Cn (K.ck.alloc _) hrn hcb (hB0r.trans ((zd wr _).mono hB0r.size)) (HX.out m hmk) K.nms HBY.out;have HNM:=K.nms;have hexr:=(HX.out m hmk).ok;have hrow:=K.row;have hks:=K.stp;cases hR:jN c.names d ps m with
    |error er =>
     obtain⟨ec,ek⟩:=er
     have hE:jy (jN c.names d) c.parts ((n.l.take (i+1)).filter λx=> !(x.op==vk||x.op==js))= .error (ec,ek):=by
      rw[HSN.out,HBm.out];simp only[Bool.false_eq_true,if_false];rw[J9,K.is];simp only;rw[hR]
     have HF:=zz (HKE.out _ hE);simp only[hR]at hcx;unfold zR at hcx;clear hb K hE hR HNM hexr hrow hmk
     go_wp2_with (first
      |((refine zf 22 rfl ?_)
        (refine zb (some 22) _ rfl (by rfl) (qF _ _ rfl g off i L C rfl rfl hlt wr) ?_))
      |((refine zf 23 rfl ?_)
        refine zb (some 23) _ rfl (by rfl) (qQ _ rfl g (off+i*5) rfl wr hat) ?_;(unfold Qp))
      |((go_at_call 120)
        refine hcx.mono ?_;(rintro e w5 ⟨ho5,rfl⟩)))
     have hst:je cb V W1 V2 w5:=(hks.trans (je.of (zd wr _))).trans ⟨ho5,λ_ q=> .inl q⟩;exact⟨rfl,(vM.of hb1).trans hst.only,by rw[HF.out]⟩
    |ok r =>
     obtain⟨k,p5⟩:=r;have HRk:=zz hR
     have hn5:yz c.names p5:=by
      obtain⟨rs,e,_,_⟩:=J2 d HNM hexr hR;rw[e];exact HNM.more rs
     have HN5:=zz hn5;simp only[hR]at hcx;unfold zR at hcx
     have hkl:ks.length≤100000:=by
      have q:=G9 _ _ _ _ _ K.is;have q2:((n.l.take i).filter λx=> !(x.op==vk||x.op==js)).length≤(n.l.take i).length:=List.length_filter_le _ _;have q3:(n.l.take i).length≤n.l.length:=by simp;omega
      have q4:=hs.few;omega
     have HNBs:=zz (λV5 w5 (s5:je cb V2 (wr.alloc (.cells #[.string (bs m.op),.string (bs m.s),.int .i64 m.n,.int .i64 m.a,.slice An m.l.length Cn] 24)) V5 w5)=>(s5.inner w.heap.size (by have:=NB.lt;simp;omega) (HNB.out V2 wr hks)).1)
     have HVL:=zz (λV5 w5 (s5:je cb V2 (wr.alloc (.cells #[.string (bs m.op),.string (bs m.s),.int .i64 m.n,.int .i64 m.a,.slice An m.l.length Cn] 24)) V5 w5)=>zI (w':=w5.alloc (.cells #[.int .i64 (k:Nat)] 3)) hrow (λg' ob e ho=>by
      have hlt':g'<wr.heap.size:=(qy hrow e).1;have q1:=(s5.inner g' (by simp;omega) (K.free g' e)).1;have q2:=Below.heap_alloc wr (.cells #[.string (bs m.op),.string (bs m.s),.int .i64 m.n,.int .i64 m.a,.slice An m.l.length Cn] 24) g' hlt';have q3:=Below.heap_alloc w5 (.cells #[.int .i64 (k:Nat)] 3) g' (by have:=s5.only.size;simp at this;omega)
      exact q3.trans (q1.trans (q2.trans ho))))
     have HVG:=zz (λg' e=>(qy hrow (g:=g') e).2);clear hb K hR HNM hexr hmk hn5
     go_wp2_with (first
      |((refine zf 22 rfl ?_)
        (refine zb (some 22) _ rfl (by rfl) (qF _ _ rfl g off i L C rfl rfl hlt wr) ?_))
      |((refine zf 23 rfl ?_)
        refine zb (some 23) _ rfl (by rfl) (qQ _ rfl g (off+i*5) rfl wr hat) ?_;(unfold Qp))
      |((go_at_call 120)
        refine hcx.mono ?_;rintro e w5 ⟨ho5,rfl,V5,H5,S5⟩;(obtain⟨A6,C6,w6,hr6,hrow6,hg6,hw6⟩:=jP Dh (ty:=29) (w5.alloc (.cells #[.int .i64 (k:Nat)] 3)) W1.heap.size ks.length _ _ (HVL.out V5 w5 S5) (by have q1:=S5.only.size;have q2:=hks.only.size;simp at q1 ⊢;omega) (by omega) [.int .i64 (k:Nat)] rfl (by intro u hu;simp at hu;subst hu;rfl) w5.heap.size (ze.new_at rfl)))
      |((refine zf 37 rfl ?_)
        (refine j1 (some 37) (.slice A6 (ks.length+1) C6) w6 rfl (by rfl) (jO _ _ rfl rfl rfl hr6) ?_)))
     go_roundw
     case rel=>exact⟨i+1,V5,ks++ [k],p5,by go_num,by omega,HKS.out _ k p5 V5 w5 w6 A6 C6 HBm.out HRk.out H5 S5 HN5.out hrow6 hg6 hw6,(hg6.block w.heap.size (by have q1:=S5.only.size;have q3:=NB.lt;simp at q1 ⊢;omega) (λe=>by have:=HVG.out _ e.symm;rw[HZ1.out]at this;omega)).trans ((Below.heap_alloc w5 _ _ (by have q1:=S5.only.size;have q3:=NB.lt;simp at q1;omega)).trans ((HNBs.out V5 w5 S5).trans ((Below.heap_alloc wr _ _ NB.lt).trans NB)))⟩
     case measure=>simp[intOf];omega
  ·obtain rfl:i=L:=by omega
   have hkis:jy (jN c.names d) c.parts (jo n)= .ok (ks,ps):=by
    have:=K.is;rw[HL.out,List.take_length]at this;exact this
   have HM0:=zz (HMK.out ks ps hkis)
   obtain⟨rs,eps,hkk,-,hlenk⟩:=XV (jo n) (λqs x hx' k p1 hr'=>by
    obtain⟨rs,e,q1,q2⟩:=J2 d (hn.more qs) (HX.out x hx').ok hr'
    exact⟨rs,e,q1,q2⟩) hkis
   have HLn:=zz hlenk;have hk0:0<ks.length:=by rw[hlenk];exact hs.shape.pos
   clear eps hlenk;have hp0:0<ps.length:=by have:=(hkk _ (List.getElem_mem hk0)).1;omega
   obtain⟨g,op,Cp,evp,hCp1,hCp2,hg,hSz⟩:=K.ck.vp hp0;have c2r:=K.ck.has.cell 2;simp only[List.getElem?_toArray,List.getElem?_cons_zero,List.getElem?_cons_succ,evp]at c2r;obtain⟨bk,Ck,ev,hCk1,hCk2,hbk,hbk2,hcells⟩:=Qo K.row hk0;have nc0:=NB.cell 0;have nc1:=NB.cell 1;have nc2:=NB.cell 2;have nc3:=NB.cell 3;have nc4:=NB.cell 4;have nlt:=NB.lt;simp only[jg,jd,jf]at nc0 nc1 nc2 nc3 nc4;have hBr:Below (cb-1) W1 wr:=K.stp.only.below (by have:=h.has.lt;rw[HZ1.out];omega) (λk hk=>by have:=(h.low hk).1;omega);have hB0r:Below w0.heap.size w0 wr:=(hb0.trans (hb1.mono hb0.size)).trans (hBr.mono hcb);have hKck:=K.ck;have hKst:=K.stp;have hKfr:=K.free;have hKnm:=K.nms
   obtain⟨NP,hNP⟩:∃NP,NP=ps.length:=⟨_,rfl⟩
   have HNP:=zz hNP;have c2r:wr.cell? ⟨cb,2,none⟩=some (.slice (some ⟨g,op,none⟩) NP Cp):=by rw[hNP];exact c2r
   subst ev;by_cases h64:NP<64
   ·have hRR:=HM0.out.trans (if_neg (by rw[←hNP];omega))
    have HRR:=zz hRR;have h64:decide (NP<64)=true:=decide_eq_true h64;have HCE:=zz hcells;clear hRR K hcells evp hNP
    go_wp2
    refine wp_region_held_drew (S:=λwz=>Below wr.heap.size wr wz) (by kernel_rfl) ((Below.refl _ wr).drew) (λhHeld=>?_);refine zS 0 (some 39) (.pointer (some ⟨cb,0,none⟩)) hHeld ?_;simp only[Act.put,zk,zj,zl];refine zS 1 (some 40) (.pointer (some ⟨cb,0,none⟩)) hHeld ?_;simp only[Act.put,zk,zj,zl];refine zS 2 (some 41) (.pointer (some ⟨cb,0,none⟩)) hHeld ?_;simp only[Act.put,zk,zj,zl];refine zS 3 (some 42) (.pointer (some ⟨cb,2,none⟩)) hHeld ?_;simp only[Act.put,zk,zj,zl];refine qq 4 (some 43) (.slice (some ⟨g,op,none⟩) NP Cp) rfl rfl (λwz hz=>by have z0:=za hz c2r;unfold execOp;go_simp) hHeld ?_;simp only[Act.put,zk,zj,zl];refine qq 5 (some 44) (.int .i64 (NP:Nat)) rfl rfl (λwz _=>Qf 30 47 Tryz.underlying30 _ rfl _ NP Cp rfl wz) hHeld ?_;simp only[Act.put,zk,zj,zl];refine qq 6 (some 45) (.bool true) rfl rfl (λwz _=>KC _ _ rfl NP 64 rfl rfl true h64 wz) hHeld ?_;simp only[Act.put,zk,zj,zl];refine zS 7 (some 46) (.pointer (some ⟨w.heap.size,3,none⟩)) hHeld ?_;simp only[Act.put,zk,zj,zl];refine qq 8 (some 47) (.int .i64 n.a) rfl rfl (λwz hz=>by have z0:=za hz nc3;unfold execOp;go_simp) hHeld ?_;simp only[Act.put,zk,zj,zl];refine qG 9 (some 48) 86 #[.bool true,.int .i64 137,.int .i64 n.a] (by kernel_rfl) rfl rfl (by rfl) (by kernel_rfl) (qa 137 n.a wr.drew) ?_;rintro e w5 ⟨rfl,rfl⟩;refine .inl ⟨_,rfl,hHeld,?_⟩;simp only[Act.put,zk,zj,zl];refine wpAnyH_done (by kernel_rfl) ?_ _;have hbz:Below wr.heap.size wr wr.drew:=(Below.refl _ wr).drew
    have hI:PIn (λg=>(E g∨W1.heap.size≤g)∧(Value.slice (some ⟨bk,0,none⟩) ks.length Ck).ownBlock≠some g) wr.drew cb V2 { c with parts:=ps } ks bk 0 Ck:=⟨hKck.keep hbz,hbk,λj hj=>by
     rw[Nat.zero_add];have q:=HCE.out j (by omega);rw[List.getElem?_map,List.getElem?_eq_getElem hj]at q
     exact za hbz q,hk0,hCk1,hCk2,hkk⟩
    have hpc:=Hr hI n A C (hr.grow (hB0r.trans (hbz.mono hB0r.size))) hs HLn.out hKnm HBY.out;rw[←HL.out]at hpc;unfold zR at hpc;have NB3:=zq NB;have hKck3:=hKck.keep hbz;have hKst3:je cb V W1 V2 wr.drew:=hKst.trans (je.of hbz);have hbk3:bk<wr.drew.heap.size:=hbk;replace nc0:=za hbz nc0;replace nc1:=za hbz nc1;replace nc2:=za hbz nc2;replace nc3:=za hbz nc3;replace nc4:=za hbz nc4;have nlt3:w.heap.size<wr.drew.heap.size:=nlt;have HC3:=zz hI.cells;clear hbz c2r hHeld hB0r hBr hKck hKst hI NB nlt hSz hg;generalize wr.drew=W3 at *;cases hP:jU c.names ps n ks with
    |error er =>
     obtain⟨ec,ek⟩:=er;have HRR:=zz (HRR.out.trans (by rw[hP]));dsimp only at hpc;rw[hP]at hpc;simp only[Gd]at hpc;clear hP hkis hkk
     go_wp2_with (first
      |((go_at_call 144)
        refine hpc.mono ?_;(rintro e w5 ⟨hb5,rfl⟩)))
     exact⟨rfl,((vM.of hb1).trans hKst3.only).trans (.of hb5),by rw[HRR.out]⟩
    |ok p =>
     obtain⟨hpok,hpk⟩:=X5 hKnm hkk (by rw[HLn.out];exact hs.shape) hP;have HRR:=zz (HRR.out.trans (by rw[hP]));dsimp only at hpc;rw[hP]at hpc;simp only[Gd]at hpc;obtain⟨pkind,psize,pkids,pdev,pfirst,pchunk,pkey,proot⟩:=p;have hpk':ks=pkids:=hpk.symm;subst hpk'
     have HAD:=zz (λ(w5:World) (hb5:Below W3.heap.size W3 w5) (A2:Option Addr) (C2:Nat) (A3:Option Addr) (C3:Nat) (a1:pkey.length≤C2) (a2:C2≤maxLen) (a3:yc w5 (λg=>W3.heap.size≤g) A2 pkey) (b1:proot.length≤C3) (b2:C3≤maxLen) (b3:yc w5 (λg=>W3.heap.size≤g) A3 proot) =>
      have hb6:Below W3.heap.size W3 (w5.alloc (.cells #[.int .i64 (pkind:Nat),.int .i64 (psize:Nat),.slice (some ⟨bk,0,none⟩) ks.length Ck,.int .i64 (pdev:Nat),.int .i64 (pfirst:Nat),.int .i64 (pchunk:Nat),.slice A2 pkey.length C2,.slice A3 proot.length C3] 47)):=hb5.alloc hb5.size _;have hk6:∀k,k<w5.heap.size→W3.heap.size≤k→(w5.alloc (.cells #[.int .i64 (pkind:Nat),.int .i64 (psize:Nat),.slice (some ⟨bk,0,none⟩) ks.length Ck,.int .i64 (pdev:Nat),.int .i64 (pfirst:Nat),.int .i64 (pchunk:Nat),.slice A2 pkey.length C2,.slice A3 proot.length C3] 47)).heap[k]?=w5.heap[k]?∧(¬V2.own cb k∧(E k∨W1.heap.size≤k)):=λk hk hP=>⟨Below.heap_alloc w5 _ k hk,λe=>by have:=(hKck3.low e).2;omega,.inr (Nat.le_trans hKst3.only.size hP)⟩
      zbf (E:=λg=>E g∨W1.heap.size≤g) ((hKck3.keep hb6).mono (λg _ _ he=>he.1)) ⟨pkind,psize,ks,pdev,pfirst,pchunk,pkey,proot⟩ (some ⟨bk,0,none⟩) Ck A2 C2 A3 C3
       ⟨⟨_,Ck,rfl,hCk1,hCk2,.inr ⟨bk,0,rfl,Nat.lt_of_lt_of_le hbk3 hb6.size,⟨hKfr bk rfl,.inr hbk2⟩,λj hj=>za hb6 (HC3.out j hj)⟩⟩,⟨A2,C2,rfl,a1,a2,a3.keep (by simp) hk6⟩,⟨A3,C3,rfl,b1,b2,b3.keep (by simp) hk6⟩⟩
       (λk hk=>(hkk k hk).1) (by have:=hpok.four;show ks.length≤1000;have h4:ks.length≤4:=this;omega) (λe=>(hpok.snap e).1) (by show ps.length≤90000;rw[←HNP.out];have:=of_decide_eq_true h64;omega))
     clear hP hkis hkk hpok hpk
     go_wp2_with (first
      |((go_at_call 144)
        refine hpc.mono ?_;rintro e w5 ⟨hb5,⟨u1,u2,u3⟩,rfl,hu5⟩;obtain⟨A2,C2,e2,c21,c22,by2⟩:=hu5.key;obtain⟨A3,C3,e3,c31,c32,by3⟩:=hu5.root;obtain⟨A1,C1,e1,-,-,-⟩:=hu5.kids;dsimp only at e1 e2 e3 c21 c31;subst e1 e2 e3;have hadd:=HAD.out w5 hb5 A2 C2 A3 C3 c21 c22 by2 c31 c32 by3;(unfold uW))
      |((go_at_call 84)
        refine hadd.mono ?_;(rintro e w7 ⟨rfl,V7,H7,S7⟩)))
     go_ret
     have S07:=(je.of (cb:=cb) (V:=V) hb1).trans (hKst3.trans ((je.of (cb:=cb) (V:=V2) hb5).trans ((je.of (cb:=cb) (V:=V2) (zd w5 _)).trans S7)));refine⟨S07.only,?_⟩;rw[HRR.out]
     exact⟨rfl,V7,H7.mono (λg _ _ he=>by
      rcases he with he|he
      ·exact .inl he
      ·exact .inr (Nat.le_trans hb1.size he)),S07⟩
   ·have hRR:=HM0.out.trans (if_pos (by rw[←hNP];omega))
    have HRR:=zz hRR;have h64:decide (NP<64)=false:=decide_eq_false h64;clear hRR K hcells evp hNP
    go_wp2
    refine wp_region_held_drew (S:=λwz=>Below wr.heap.size wr wz) (by kernel_rfl) ((Below.refl _ wr).drew) (λhHeld=>?_);refine zS 0 (some 39) (.pointer (some ⟨cb,0,none⟩)) hHeld ?_;simp only[Act.put,zk,zj,zl];refine zS 1 (some 40) (.pointer (some ⟨cb,0,none⟩)) hHeld ?_;simp only[Act.put,zk,zj,zl];refine zS 2 (some 41) (.pointer (some ⟨cb,0,none⟩)) hHeld ?_;simp only[Act.put,zk,zj,zl];refine zS 3 (some 42) (.pointer (some ⟨cb,2,none⟩)) hHeld ?_;simp only[Act.put,zk,zj,zl];refine qq 4 (some 43) (.slice (some ⟨g,op,none⟩) NP Cp) rfl rfl (λwz hz=>by have z0:=za hz c2r;unfold execOp;go_simp) hHeld ?_;simp only[Act.put,zk,zj,zl];refine qq 5 (some 44) (.int .i64 (NP:Nat)) rfl rfl (λwz _=>Qf 30 47 Tryz.underlying30 _ rfl _ NP Cp rfl wz) hHeld ?_;simp only[Act.put,zk,zj,zl];refine qq 6 (some 45) (.bool false) rfl rfl (λwz _=>KC _ _ rfl NP 64 rfl rfl false h64 wz) hHeld ?_;simp only[Act.put,zk,zj,zl];refine zS 7 (some 46) (.pointer (some ⟨w.heap.size,3,none⟩)) hHeld ?_;simp only[Act.put,zk,zj,zl];refine qq 8 (some 47) (.int .i64 n.a) rfl rfl (λwz hz=>by have z0:=za hz nc3;unfold execOp;go_simp) hHeld ?_;simp only[Act.put,zk,zj,zl];refine qG 9 (some 48) 86 #[.bool false,.int .i64 137,.int .i64 n.a] (by kernel_rfl) rfl rfl (by rfl) (by kernel_rfl) (qO 137 n.a wr.drew) ?_;rintro e w5 ⟨rfl,rfl⟩;refine .inr ⟨_,rfl,?_⟩;exact⟨rfl,((vM.of hb1).trans hKst.only).drew,by rw[HRR.out];rfl⟩
theorem dJ{w0:World}{cb:Nat}(d:Nat):fL cb w0 d:=by
 induction d with
 |zero=>intro E w V c n A C _ _ _ _ hx;cases hx
 |succ d ih =>
  intro E w V c n A C h hr hcb hb0 hx hn hby;cases hx with
  |use _ _ e=>exact Fp h n A n.l.length C d e
  |mk _ _ e hs hk=>exact dK ih h n A C hr hcb hb0 e hs hk hn hby
end
section
open Go.ChangeShapes Go.WideShapes Go.ChangeAt Go.RowKit Go.MapKept
variable {E:Nat→Prop}
theorem zao{w0 w:World}{cb:Nat}{V:CV}{c:Ck}(h:zM E w cb V c)(n:Nd)(A:Option Addr)(C:Nat)(hr:jZ w0 n A C)(hcb:w0.heap.size≤cb-1)(hb0:Below w0.heap.size w0 w)(hx:uZ n)(he:n.op≠zv)(hnm:yz c.names c.parts)(hby:∀x ∈ c.names,x.2.bytes.length≤1000)(hdv:c.devs.length≤90000):
 Calls Tryz.prog 88 #[.pointer (some ⟨cb,0,none⟩),.agg (zR n (.slice A n.l.length C))] w (Yv E w cb V (jX c n)):=by
 rcases hx.word with ho|ho|ho|ho|ho|ho
 ·exact XH h n A n.l.length C ho hdv
 ·exact YR h n A n.l.length C ho hdv
 ·obtain⟨hl,hf⟩:=hx.key (.inl ho)
  obtain⟨gn,on,Au,Cu,hA,hgn,hat⟩:=xQ hr (by omega);exact FV h n A n.l.length C hl gn on hA (Nat.lt_of_lt_of_le hgn hb0.size) (yf n.l 0).s rfl ((hb0.cell (p:=⟨gn,on+0*5+1,none⟩) hgn).trans ((hat 0 (by omega)).1 1 (by decide))) hf ho
 ·obtain⟨hl,hf⟩:=hx.key (.inr ho)
  obtain⟨gn,on,Au,Cu,hA,hgn,hat⟩:=xQ hr (by omega);exact GZ h n A n.l.length C hl gn on hA (Nat.lt_of_lt_of_le hgn hb0.size) (yf n.l 0).s rfl ((hb0.cell (p:=⟨gn,on+0*5+1,none⟩) hgn).trans ((hat 0 (by omega)).1 1 (by decide))) hf ho
 ·obtain⟨hl,hex⟩:=hx.vol ho
  obtain⟨gn,on,Au,Cu,hA,hgn,hat⟩:=xQ hr (by omega);exact K3 h n A n.l.length C hl w0 gn on hA (Nat.lt_of_lt_of_le hgn hb0.size) (yf n.l 0) (Au 0) (Cu 0) rfl (λj hj=>(hb0.cell (p:=⟨gn,on+0*5+j,none⟩) hgn).trans ((hat 0 (by omega)).1 j hj)) (hat 0 (by omega)).2 hcb hb0 hex (dJ 12) hnm hby ho
 ·exact absurd ho he
theorem KS{c c1:Ck}{n:Nd}{m:Mn}(h:jX c n= .ok (c1,m)):c1.names=c.names:=by
 unfold jX at h
 repeat' split at h
 all_goals first
  |(cases h;done)
  |(cases h;rfl)
theorem KP{o:Oper}{a:Act}(x:Operand)(ho:o.op= .load 136 x)(g:Nat)(hx:a.eval x= .pointer (some ⟨g,0,none⟩)){x0 x1 x2:Value}(w:World)(h:ze w g 136 #[x0,x1,x2]):(execOp a.eval o).run Tryz.prog w= .ok (.value (.agg #[x0,x1,x2])) w:=by
 have q0:=h.cell 0;have q1:=h.cell 1;have q2:=h.cell 2;simp only[jg,jd,jf]at q0 q1 q2;unfold execOp;simp only[ho,hx];go_simp
end
section
open Go.ChangeShapes Go.WideShapes Go.ChangeAt Go.RowKit Go.MapKept
variable {E:Nat→Prop}
theorem gI{w0 w:World}{cb:Nat}{V:CV}{c:Ck}(h:zM E w cb V c)(n:Nd)(A:Option Addr)(C:Nat)(hr:jZ w0 n A C)(hcb:w0.heap.size≤cb-1)(hb0:Below w0.heap.size w0 w)(hx:uZ n)(hnm:yz c.names c.parts)(hby:∀x ∈ c.names,x.2.bytes.length≤1000)(hdv:c.devs.length≤90000)(hnl:c.names.length≤90000)(ho:n.op=zv):Calls Tryz.prog 52 #[.pointer (some ⟨cb,0,none⟩),.agg (zR n (.slice A n.l.length C))] w (gm E w cb V (jH c n)):=by
 obtain⟨L,hL⟩:∃L,L=n.l.length:=⟨_,rfl⟩
 have HL:=zz hL
 obtain⟨W1,hW1⟩:∃W1,W1=w.alloc (.cells #[.string (bs n.op),.string (bs n.s),.int .i64 n.n,.int .i64 n.a,.slice A L C] 24):=⟨_,rfl⟩
 have hb1:Below w.heap.size w W1:=by rw[hW1];exact zd w _
 have N1:ze W1 w.heap.size 24 #[.string (bs n.op),.string (bs n.s),.int .i64 n.n,.int .i64 n.a,.slice A L C]:=by rw[hW1];exact ze.new w _ _
 have h1:zM E W1 cb V c:=h.keep hb1;have HW:=zz hW1;have lcb:=h.has.lt;have hot:=zx n.op;have f0:(n.op== [101,120,112,111,114,116])=true:=by rw[ho];decide
 have HR:=zz (show jH c n=yJ c n by unfold jH;rw[if_pos ho]);have hex:=F0 h1 n A L C hnm;rw[←hL];clear hW1 hL ho;unfold zR at hex ⊢;rw[HW.out]at hex;go_enter Tryz.func52,Tryz.ntmps52;cases hR:yJ c n with
 |error er =>
  obtain⟨ec,ek⟩:=er;rw[hR]at hex;have HR:=zz (HR.out.trans hR);clear hR
  go_wp2_with (first
   |((go_at_call 85)
     refine hex.mono ?_;(rintro e w5 ⟨ho5,rfl⟩)))
  rw[←HW.out]at ho5;exact⟨rfl,(vM.of hb1).trans ho5,by rw[HR.out]⟩
 |ok c' =>
  rw[hR]at hex;have HR:=zz (HR.out.trans hR);clear hR
  go_wp2_with (first
   |((go_at_call 85)
     refine hex.mono ?_;(rintro e w5 ⟨ho5,rfl,V5,H5,S5⟩)))
  rw[←HW.out]at S5 H5;have S05:=(je.of (cb:=cb) (V:=V) hb1).trans S5
  go_end0
  refine⟨S05.only,?_⟩;rw[HR.out]
  exact⟨rfl,V5,H5.mono (λg _ _ he=>by
   rcases he with he|he
   ·exact .inl he
   ·exact .inr (Nat.le_trans hb1.size he)),S05⟩
theorem FA{w0 w:World}{cb:Nat}{V:CV}{c:Ck}(h:zM E w cb V c)(n:Nd)(A:Option Addr)(C:Nat)(hr:jZ w0 n A C)(hcb:w0.heap.size≤cb-1)(hb0:Below w0.heap.size w0 w)(hx:uZ n)(hnm:yz c.names c.parts)(hby:∀x ∈ c.names,x.2.bytes.length≤1000)(hdv:c.devs.length≤90000)(hnl:c.names.length≤90000)(ho:n.op≠zv)(hlk:(lk c.names n.s).isSome=true):Calls Tryz.prog 52 #[.pointer (some ⟨cb,0,none⟩),.agg (zR n (.slice A n.l.length C))] w (gm E w cb V (jH c n)):=by
 obtain⟨L,hL⟩:∃L,L=n.l.length:=⟨_,rfl⟩
 have HL:=zz hL
 obtain⟨W1,hW1⟩:∃W1,W1=w.alloc (.cells #[.string (bs n.op),.string (bs n.s),.int .i64 n.n,.int .i64 n.a,.slice A L C] 24):=⟨_,rfl⟩
 have hb1:Below w.heap.size w W1:=by rw[hW1];exact zd w _
 have N1:ze W1 w.heap.size 24 #[.string (bs n.op),.string (bs n.s),.int .i64 n.n,.int .i64 n.a,.slice A L C]:=by rw[hW1];exact ze.new w _ _
 have h1:zM E W1 cb V c:=h.keep hb1;have HW:=zz hW1;have lcb:=h.has.lt;have hot:=zx n.op;obtain⟨us,e1,hmb0,hin⟩:=h.nms;have hmb:=(hb1.block V.mb (Array.getElem?_eq_some_iff.1 hmb0).1).trans hmb0;have hun:=h1.uniq;have c5:=h1.has.cell 5;have nc1:=N1.cell 1;simp only[jg,jd,jf]at c5 nc1;have f0:(n.op== [101,120,112,111,114,116])=false:=by rw[beq_eq_false_iff_ne];exact ho
 have HR:=zz (show jH c n= .error (132,n.a) by unfold jH;rw[if_neg ho,if_pos hlk]);cases hk:lk c.names n.s with
 |none=>rw[hk]at hlk;cases hlk
 |some m =>
  obtain⟨i,hi,e2,e3⟩:∃i,∃hi:i<c.names.length,c.names[i].1=n.s∧c.names[i].2=m:=by
   rcases Kh (ns:=c.names) (s:=n.s)with⟨q,_⟩|⟨i,hi,q1,q2,_⟩
   ·rw[hk]at q;cases q
   ·exact⟨i,hi,q1,by rw[hk]at q2;cases q2;rfl⟩
  obtain⟨Am,Cm,em,am,bm,hbyt⟩:=(hin i hi (by omega)).bytes
  have HU:Hid (DI c.names us n.s= .agg #[.string (bs m.word),.int .i64 (m.node:Nat),.slice Am m.bytes.length Cm]):=by
   have:=Um e1 hun hi;rw[e2,em,e3]at this;exact this
  have HB:=zz hlk;rw[←hL];clear hk em hin hlk hW1 hL ho e2 e3;unfold zR;go_enter Tryz.func52,Tryz.ntmps52
  go_wp2
  rw[←HW.out];refine wp_region_held_drew (S:=λwz=>wz.cell? ⟨cb,5,none⟩=some (.map (some V.mb))∧wz.cell? ⟨w.heap.size,1,none⟩=some (.string (bs n.s))∧wz.heap[V.mb]?=some (.map (jm c.names us).toArray c.names.length)∧Below W1.heap.size W1 wz) (by kernel_rfl) (⟨c5,nc1,hmb,(Below.refl _ W1).drew⟩) (λhHeld=>?_);refine zS 0 (some 14) (.pointer (some ⟨cb,0,none⟩)) hHeld ?_;simp only[Act.put,zk,zj,zl];refine zS 1 (some 15) (.pointer (some ⟨cb,0,none⟩)) hHeld ?_;simp only[Act.put,zk,zj,zl];refine zS 2 (some 16) (.pointer (some ⟨cb,5,none⟩)) hHeld ?_;simp only[Act.put,zk,zj,zl];refine qq 3 (some 17) (.map (some V.mb)) rfl rfl (λwz hz=>by obtain⟨z0,z1,z2,z3⟩:=hz;unfold execOp;go_simp) hHeld ?_;simp only[Act.put,zk,zj,zl];refine zS 4 (some 18) (.pointer (some ⟨w.heap.size,1,none⟩)) hHeld ?_;simp only[Act.put,zk,zj,zl];refine qq 5 (some 19) (.string (bs n.s)) rfl rfl (λwz hz=>by obtain⟨z0,z1,z2,z3⟩:=hz;unfold execOp;go_simp) hHeld ?_;simp only[Act.put,zk,zj,zl];refine qq 6 (some 20) (.tuple #[.agg #[.string (bs m.word),.int .i64 (m.node:Nat),.slice Am m.bytes.length Cm],.bool true]) rfl rfl (λwz hz=>(xN _ _ rfl hz.2.2.1 e1 hun n.s rfl rfl).trans (by rw[HU.out,HB.out])) hHeld ?_;simp only[Act.put,zk,zj,zl];refine zS 7 (some 13) (.tuple #[.agg #[.string (bs m.word),.int .i64 (m.node:Nat),.slice Am m.bytes.length Cm],.bool true]) hHeld ?_;simp only[Act.put,zk,zj,zl];refine zS 8 (some 21) (.agg #[.string (bs m.word),.int .i64 (m.node:Nat),.slice Am m.bytes.length Cm]) hHeld ?_;simp only[Act.put,zk,zj,zl];refine zS 9 (some 22) (.bool true) hHeld ?_;simp only[Act.put,zk,zj,zl]
  have hH2:(W1.drew.alloc (.cells #[.string ⟨#[]⟩,.int .i64 0,.slice none 0 0] 136)).cell? ⟨cb,5,none⟩=some (.map (some V.mb))∧(W1.drew.alloc (.cells #[.string ⟨#[]⟩,.int .i64 0,.slice none 0 0] 136)).cell? ⟨w.heap.size,1,none⟩=some (.string (bs n.s))∧(W1.drew.alloc (.cells #[.string ⟨#[]⟩,.int .i64 0,.slice none 0 0] 136)).heap[V.mb]?=some (.map (jm c.names us).toArray c.names.length)∧Below W1.heap.size W1 (W1.drew.alloc (.cells #[.string ⟨#[]⟩,.int .i64 0,.slice none 0 0] 136)):=⟨za (zd W1.drew _) hHeld.1,za (zd W1.drew _) hHeld.2.1,(Below.heap_alloc W1.drew _ V.mb (Array.getElem?_eq_some_iff.1 hmb).1).trans hHeld.2.2.1,hHeld.2.2.2.trans ((zd W1.drew _))⟩
  refine yR 10 (by kernel_rfl) (Z4 (some 4) (.pointer (some ⟨W1.heap.size,0,none⟩)) (W1.drew.alloc (.cells #[.string ⟨#[]⟩,.int .i64 0,.slice none 0 0] 136)) rfl rfl (by rfl) (by kernel_rfl) ⟨hH2,?_⟩);simp only[Act.put,zk,zj,zl];have hM2:ze (W1.drew.alloc (.cells #[.string ⟨#[]⟩,.int .i64 0,.slice none 0 0] 136)) W1.heap.size 136 #[.string ⟨#[]⟩,.int .i64 0,.slice none 0 0]:=ze.new_at rfl;have hBel:Below W1.heap.size W1 ((W1.drew.alloc (.cells #[.string ⟨#[]⟩,.int .i64 0,.slice none 0 0] 136)).setRow W1.heap.size #[.string (bs m.word),.int .i64 (m.node:Nat),.slice Am m.bytes.length Cm]):=vB hH2.2.2.2 (Nat.le_refl _) _
  have hH3:((W1.drew.alloc (.cells #[.string ⟨#[]⟩,.int .i64 0,.slice none 0 0] 136)).setRow W1.heap.size #[.string (bs m.word),.int .i64 (m.node:Nat),.slice Am m.bytes.length Cm]).cell? ⟨cb,5,none⟩=some (.map (some V.mb))∧((W1.drew.alloc (.cells #[.string ⟨#[]⟩,.int .i64 0,.slice none 0 0] 136)).setRow W1.heap.size #[.string (bs m.word),.int .i64 (m.node:Nat),.slice Am m.bytes.length Cm]).cell? ⟨w.heap.size,1,none⟩=some (.string (bs n.s))∧((W1.drew.alloc (.cells #[.string ⟨#[]⟩,.int .i64 0,.slice none 0 0] 136)).setRow W1.heap.size #[.string (bs m.word),.int .i64 (m.node:Nat),.slice Am m.bytes.length Cm]).heap[V.mb]?=some (.map (jm c.names us).toArray c.names.length)∧Below W1.heap.size W1 ((W1.drew.alloc (.cells #[.string ⟨#[]⟩,.int .i64 0,.slice none 0 0] 136)).setRow W1.heap.size #[.string (bs m.word),.int .i64 (m.node:Nat),.slice Am m.bytes.length Cm]):=⟨za hBel c5,za hBel nc1,(hBel.block V.mb (Array.getElem?_eq_some_iff.1 hmb).1).trans hmb,hBel⟩
  refine yR 11 (by kernel_rfl) (xW none ((W1.drew.alloc (.cells #[.string ⟨#[]⟩,.int .i64 0,.slice none 0 0] 136)).setRow W1.heap.size #[.string (bs m.word),.int .i64 (m.node:Nat),.slice Am m.bytes.length Cm]) rfl rfl (by rfl) (ju 136 _ _ rfl W1.heap.size rfl #[.string (bs m.word),.int .i64 (m.node:Nat),.slice Am m.bytes.length Cm] rfl 136 (by kernel_rfl) _ hM2 rfl (by kernel_rfl)) ⟨hH3,?_⟩);simp only[Act.put];refine qq 12 (some 5) (.bool true) rfl rfl (λ_ _=>rfl) hH3 ?_;simp only[Act.put,zk,zj,zl];refine wpAnyH_done (by kernel_rfl) ?_ _;clear hM2 hH3 hH2 hHeld;generalize ((W1.drew.alloc (.cells #[.string ⟨#[]⟩,.int .i64 0,.slice none 0 0] 136)).setRow W1.heap.size #[.string (bs m.word),.int .i64 (m.node:Nat),.slice Am m.bytes.length Cm])=W2 at *;have N2:=N1.below hBel N1.lt;have b0:=N2.cell 0;have b1:=N2.cell 1;have b2:=N2.cell 2;have b3:=N2.cell 3;have b4:=N2.cell 4;have bl:=N2.lt;simp only[jg,jd,jf]at b0 b1 b2 b3 b4
  go_wp2_with (first
   |((go_at_call 86)
     refine(qO 132 n.a W2).mono ?_;rintro e w3 ⟨rfl,hw3⟩;(obtain rfl:W2=w3:=hw3.symm)))
  exact⟨rfl,vM.of (hb1.trans (hBel.mono hb1.size)),by rw[HR.out];rfl⟩
theorem Ho{w0 w:World}{cb:Nat}{V:CV}{c:Ck}(h:zM E w cb V c)(n:Nd)(A:Option Addr)(C:Nat)(hr:jZ w0 n A C)(hcb:w0.heap.size≤cb-1)(hb0:Below w0.heap.size w0 w)(hx:uZ n)(hnm:yz c.names c.parts)(hby:∀x ∈ c.names,x.2.bytes.length≤1000)(hdv:c.devs.length≤90000)(hnl:c.names.length≤90000)(ho:n.op≠zv)(hlk:lk c.names n.s=none)(hfu:full c.names n.op=true):Calls Tryz.prog 52 #[.pointer (some ⟨cb,0,none⟩),.agg (zR n (.slice A n.l.length C))] w (gm E w cb V (jH c n)):=by
 obtain⟨L,hL⟩:∃L,L=n.l.length:=⟨_,rfl⟩
 have HL:=zz hL
 obtain⟨W1,hW1⟩:∃W1,W1=w.alloc (.cells #[.string (bs n.op),.string (bs n.s),.int .i64 n.n,.int .i64 n.a,.slice A L C] 24):=⟨_,rfl⟩
 have hb1:Below w.heap.size w W1:=by rw[hW1];exact zd w _
 have N1:ze W1 w.heap.size 24 #[.string (bs n.op),.string (bs n.s),.int .i64 n.n,.int .i64 n.a,.slice A L C]:=by rw[hW1];exact ze.new w _ _
 have h1:zM E W1 cb V c:=h.keep hb1;have HW:=zz hW1;have lcb:=h.has.lt;have hot:=zx n.op;obtain⟨us,e1,hmb0,hin⟩:=h.nms;have hmb:=(hb1.block V.mb (Array.getElem?_eq_some_iff.1 hmb0).1).trans hmb0;have hun:=h1.uniq;have c5:=h1.has.cell 5;have nc1:=N1.cell 1;simp only[jg,jd,jf]at c5 nc1;have f0:(n.op== [101,120,112,111,114,116])=false:=by rw[beq_eq_false_iff_ne];exact ho
 have HR:=zz (show jH c n= .error (137,n.a) by unfold jH;rw[if_neg ho,if_neg (by rw[hlk];decide),if_pos hfu]);have HU:Hid (DI c.names us n.s= .agg #[.string ⟨#[]⟩,.int .i64 0,.slice none 0 0]):=QJ hlk;have HB:=zz (show(lk c.names n.s).isSome=false by rw[hlk];rfl);have HFC:=zz (λw2 (hb:Below W1.heap.size W1 w2)=>Fr (h1.keep hb) n.op (by rcases hx.word with e|e|e|e|e|e;exact .inl e;exact .inr (.inl e);exact .inr (.inr (.inl e));exact .inr (.inr (.inr (.inl e)));exact .inr (.inr (.inr (.inr e)));exact absurd e ho));rw[hfu]at HFC;rw[←hL];clear hin hlk hW1 hL ho hfu;unfold zR;go_enter Tryz.func52,Tryz.ntmps52
 go_wp2
 rw[←HW.out];refine wp_region_held_drew (S:=λwz=>wz.cell? ⟨cb,5,none⟩=some (.map (some V.mb))∧wz.cell? ⟨w.heap.size,1,none⟩=some (.string (bs n.s))∧wz.heap[V.mb]?=some (.map (jm c.names us).toArray c.names.length)∧Below W1.heap.size W1 wz) (by kernel_rfl) (⟨c5,nc1,hmb,(Below.refl _ W1).drew⟩) (λhHeld=>?_);refine zS 0 (some 14) (.pointer (some ⟨cb,0,none⟩)) hHeld ?_;simp only[Act.put,zk,zj,zl];refine zS 1 (some 15) (.pointer (some ⟨cb,0,none⟩)) hHeld ?_;simp only[Act.put,zk,zj,zl];refine zS 2 (some 16) (.pointer (some ⟨cb,5,none⟩)) hHeld ?_;simp only[Act.put,zk,zj,zl];refine qq 3 (some 17) (.map (some V.mb)) rfl rfl (λwz hz=>by obtain⟨z0,z1,z2,z3⟩:=hz;unfold execOp;go_simp) hHeld ?_;simp only[Act.put,zk,zj,zl];refine zS 4 (some 18) (.pointer (some ⟨w.heap.size,1,none⟩)) hHeld ?_;simp only[Act.put,zk,zj,zl];refine qq 5 (some 19) (.string (bs n.s)) rfl rfl (λwz hz=>by obtain⟨z0,z1,z2,z3⟩:=hz;unfold execOp;go_simp) hHeld ?_;simp only[Act.put,zk,zj,zl];refine qq 6 (some 20) (.tuple #[.agg #[.string ⟨#[]⟩,.int .i64 0,.slice none 0 0],.bool false]) rfl rfl (λwz hz=>(xN _ _ rfl hz.2.2.1 e1 hun n.s rfl rfl).trans (by rw[HU.out,HB.out])) hHeld ?_;simp only[Act.put,zk,zj,zl];refine zS 7 (some 13) (.tuple #[.agg #[.string ⟨#[]⟩,.int .i64 0,.slice none 0 0],.bool false]) hHeld ?_;simp only[Act.put,zk,zj,zl];refine zS 8 (some 21) (.agg #[.string ⟨#[]⟩,.int .i64 0,.slice none 0 0]) hHeld ?_;simp only[Act.put,zk,zj,zl];refine zS 9 (some 22) (.bool false) hHeld ?_;simp only[Act.put,zk,zj,zl]
 have hH2:(W1.drew.alloc (.cells #[.string ⟨#[]⟩,.int .i64 0,.slice none 0 0] 136)).cell? ⟨cb,5,none⟩=some (.map (some V.mb))∧(W1.drew.alloc (.cells #[.string ⟨#[]⟩,.int .i64 0,.slice none 0 0] 136)).cell? ⟨w.heap.size,1,none⟩=some (.string (bs n.s))∧(W1.drew.alloc (.cells #[.string ⟨#[]⟩,.int .i64 0,.slice none 0 0] 136)).heap[V.mb]?=some (.map (jm c.names us).toArray c.names.length)∧Below W1.heap.size W1 (W1.drew.alloc (.cells #[.string ⟨#[]⟩,.int .i64 0,.slice none 0 0] 136)):=⟨za (zd W1.drew _) hHeld.1,za (zd W1.drew _) hHeld.2.1,(Below.heap_alloc W1.drew _ V.mb (Array.getElem?_eq_some_iff.1 hmb).1).trans hHeld.2.2.1,hHeld.2.2.2.trans ((zd W1.drew _))⟩
 refine yR 10 (by kernel_rfl) (Z4 (some 4) (.pointer (some ⟨W1.heap.size,0,none⟩)) (W1.drew.alloc (.cells #[.string ⟨#[]⟩,.int .i64 0,.slice none 0 0] 136)) rfl rfl (by rfl) (by kernel_rfl) ⟨hH2,?_⟩);simp only[Act.put,zk,zj,zl];have hM2:ze (W1.drew.alloc (.cells #[.string ⟨#[]⟩,.int .i64 0,.slice none 0 0] 136)) W1.heap.size 136 #[.string ⟨#[]⟩,.int .i64 0,.slice none 0 0]:=ze.new_at rfl;have hBel:Below W1.heap.size W1 ((W1.drew.alloc (.cells #[.string ⟨#[]⟩,.int .i64 0,.slice none 0 0] 136)).setRow W1.heap.size #[.string ⟨#[]⟩,.int .i64 0,.slice none 0 0]):=vB hH2.2.2.2 (Nat.le_refl _) _
 have hH3:((W1.drew.alloc (.cells #[.string ⟨#[]⟩,.int .i64 0,.slice none 0 0] 136)).setRow W1.heap.size #[.string ⟨#[]⟩,.int .i64 0,.slice none 0 0]).cell? ⟨cb,5,none⟩=some (.map (some V.mb))∧((W1.drew.alloc (.cells #[.string ⟨#[]⟩,.int .i64 0,.slice none 0 0] 136)).setRow W1.heap.size #[.string ⟨#[]⟩,.int .i64 0,.slice none 0 0]).cell? ⟨w.heap.size,1,none⟩=some (.string (bs n.s))∧((W1.drew.alloc (.cells #[.string ⟨#[]⟩,.int .i64 0,.slice none 0 0] 136)).setRow W1.heap.size #[.string ⟨#[]⟩,.int .i64 0,.slice none 0 0]).heap[V.mb]?=some (.map (jm c.names us).toArray c.names.length)∧Below W1.heap.size W1 ((W1.drew.alloc (.cells #[.string ⟨#[]⟩,.int .i64 0,.slice none 0 0] 136)).setRow W1.heap.size #[.string ⟨#[]⟩,.int .i64 0,.slice none 0 0]):=⟨za hBel c5,za hBel nc1,(hBel.block V.mb (Array.getElem?_eq_some_iff.1 hmb).1).trans hmb,hBel⟩
 refine yR 11 (by kernel_rfl) (xW none ((W1.drew.alloc (.cells #[.string ⟨#[]⟩,.int .i64 0,.slice none 0 0] 136)).setRow W1.heap.size #[.string ⟨#[]⟩,.int .i64 0,.slice none 0 0]) rfl rfl (by rfl) (ju 136 _ _ rfl W1.heap.size rfl #[.string ⟨#[]⟩,.int .i64 0,.slice none 0 0] rfl 136 (by kernel_rfl) _ hM2 rfl (by kernel_rfl)) ⟨hH3,?_⟩);simp only[Act.put];refine qq 12 (some 5) (.bool false) rfl rfl (λ_ _=>rfl) hH3 ?_;simp only[Act.put,zk,zj,zl];refine wpAnyH_done (by kernel_rfl) ?_ _;clear hM2 hH3 hH2 hHeld;generalize ((W1.drew.alloc (.cells #[.string ⟨#[]⟩,.int .i64 0,.slice none 0 0] 136)).setRow W1.heap.size #[.string ⟨#[]⟩,.int .i64 0,.slice none 0 0])=W2 at *;have N2:=N1.below hBel N1.lt;have b0:=N2.cell 0;have b1:=N2.cell 1;have b2:=N2.cell 2;have b3:=N2.cell 3;have b4:=N2.cell 4;have bl:=N2.lt;simp only[jg,jd,jf]at b0 b1 b2 b3 b4
 go_wp2_with (first
  |((go_at_call 86)
    refine(qa 132 n.a W2).mono ?_;rintro e w3 ⟨rfl,hw3⟩;(obtain rfl:W2=w3:=hw3.symm)))
 have hfc:=λw2 (hb:Below W2.heap.size W2 w2)=>HFC.out w2 (hBel.trans (hb.mono hBel.size))
 refine wp_region_held_drew (S:=λwz=>Below W2.heap.size W2 wz) (by kernel_rfl) ((Below.refl _ W2).drew) (λhHeld=>?_);refine zS 0 (some 28) (.pointer (some ⟨cb,0,none⟩)) hHeld ?_;simp only[Act.put,zk,zj,zl];refine zS 1 (some 29) (.pointer (some ⟨w.heap.size,0,none⟩)) hHeld ?_;simp only[Act.put,zk,zj,zl];refine qq 2 (some 30) (.string (bs n.op)) rfl rfl (λwz hz=>by have z0:=za hz b0;unfold execOp;go_simp) hHeld ?_;simp only[Act.put,zk,zj,zl];refine zS 5 (some 33) (.pointer (some ⟨w.heap.size,3,none⟩)) hHeld ?_;simp only[Act.put,zk,zj,zl];refine qq 6 (some 34) (.int .i64 n.a) rfl rfl (λwz hz=>by have z0:=za hz b3;unfold execOp;go_simp) hHeld ?_;simp only[Act.put,zk,zj,zl];refine qG 3 (some 31) 87 #[.pointer (some ⟨cb,0,none⟩),.string (bs n.op)] (by kernel_rfl) rfl rfl (by rfl) (by kernel_rfl) (hfc _ (zu (Below.refl _ W2))) ?_;rintro e w4 ⟨rfl,hb4'⟩;have hb4:Below W2.heap.size W2 w4:=(zu (Below.refl _ W2)).trans hb4';refine .inl ⟨_,rfl,hb4,?_⟩;simp only[Act.put,zk,zj,zl];refine qq 4 (some 32) (.bool false) rfl rfl (λ_ _=>rfl) hb4 ?_;simp only[Act.put,zk,zj,zl];refine qG 7 (some 35) 86 #[.bool false,.int .i64 137,.int .i64 n.a] (by kernel_rfl) rfl rfl (by rfl) (by kernel_rfl) (qO 137 n.a w4) ?_;rintro e w5 ⟨rfl,rfl⟩;refine .inr ⟨_,rfl,?_⟩;exact⟨rfl,vM.of ((hb1.trans (hBel.mono hb1.size)).trans (hb4.mono (Nat.le_trans hb1.size hBel.size))),by rw[HR.out];rfl⟩
theorem Hp{w0 w:World}{cb:Nat}{V:CV}{c:Ck}(h:zM E w cb V c)(n:Nd)(A:Option Addr)(C:Nat)(hr:jZ w0 n A C)(hcb:w0.heap.size≤cb-1)(hb0:Below w0.heap.size w0 w)(hx:uZ n)(hnm:yz c.names c.parts)(hby:∀x ∈ c.names,x.2.bytes.length≤1000)(hdv:c.devs.length≤90000)(hnl:c.names.length≤90000)(ho:n.op≠zv)(hlk:lk c.names n.s=none)(hfu:full c.names n.op=false):Calls Tryz.prog 52 #[.pointer (some ⟨cb,0,none⟩),.agg (zR n (.slice A n.l.length C))] w (gm E w cb V (jH c n)):=by
 obtain⟨L,hL⟩:∃L,L=n.l.length:=⟨_,rfl⟩
 have HL:=zz hL
 obtain⟨W1,hW1⟩:∃W1,W1=w.alloc (.cells #[.string (bs n.op),.string (bs n.s),.int .i64 n.n,.int .i64 n.a,.slice A L C] 24):=⟨_,rfl⟩
 have hb1:Below w.heap.size w W1:=by rw[hW1];exact zd w _
 have N1:ze W1 w.heap.size 24 #[.string (bs n.op),.string (bs n.s),.int .i64 n.n,.int .i64 n.a,.slice A L C]:=by rw[hW1];exact ze.new w _ _
 have h1:zM E W1 cb V c:=h.keep hb1;have HW:=zz hW1;have lcb:=h.has.lt;have hot:=zx n.op;obtain⟨us,e1,hmb0,hin⟩:=h.nms;have hmb:=(hb1.block V.mb (Array.getElem?_eq_some_iff.1 hmb0).1).trans hmb0;have hun:=h1.uniq;have c5:=h1.has.cell 5;have nc1:=N1.cell 1;simp only[jg,jd,jf]at c5 nc1;have f0:(n.op== [101,120,112,111,114,116])=false:=by rw[beq_eq_false_iff_ne];exact ho
 have hR:jH c n=match jX c n with | .error e=> .error e| .ok (c1,m)=> .ok { c1 with names:=c1.names++ [(n.s,m)] }:=by
  unfold jH;rw[if_neg ho,if_neg (by rw[hlk];decide),if_neg (by rw[hfu];decide)];rfl
 have HU:Hid (DI c.names us n.s= .agg #[.string ⟨#[]⟩,.int .i64 0,.slice none 0 0]):=QJ hlk;have HB:=zz (show(lk c.names n.s).isSome=false by rw[hlk];rfl);have HFC:=zz (λw2 (hb:Below W1.heap.size W1 w2)=>Fr (h1.keep hb) n.op (by rcases hx.word with e|e|e|e|e|e;exact .inl e;exact .inr (.inl e);exact .inr (.inr (.inl e));exact .inr (.inr (.inr (.inl e)));exact .inr (.inr (.inr (.inr e)));exact absurd e ho));rw[hfu]at HFC;have HSD:=zz (λw2 (hb:Below W1.heap.size W1 w2)=>zao (h1.keep hb) n A C hr hcb (hb0.trans ((hb1.trans (hb.mono hb1.size)).mono hb0.size)) hx ho hnm hby hdv);have HLK:=zz hlk;rw[←hL]at HSD ⊢;clear hin hlk hW1 hL ho hfu;cases hC:jX c n with
 |error er =>
  obtain⟨ec,ek⟩:=er;rw[hC]at hR HSD;have HR:=zz hR;clear hR hC;unfold zR at HSD ⊢;go_enter Tryz.func52,Tryz.ntmps52
  go_wp2
  rw[←HW.out];refine wp_region_held_drew (S:=λwz=>wz.cell? ⟨cb,5,none⟩=some (.map (some V.mb))∧wz.cell? ⟨w.heap.size,1,none⟩=some (.string (bs n.s))∧wz.heap[V.mb]?=some (.map (jm c.names us).toArray c.names.length)∧Below W1.heap.size W1 wz) (by kernel_rfl) (⟨c5,nc1,hmb,(Below.refl _ W1).drew⟩) (λhHeld=>?_);refine zS 0 (some 14) (.pointer (some ⟨cb,0,none⟩)) hHeld ?_;simp only[Act.put,zk,zj,zl];refine zS 1 (some 15) (.pointer (some ⟨cb,0,none⟩)) hHeld ?_;simp only[Act.put,zk,zj,zl];refine zS 2 (some 16) (.pointer (some ⟨cb,5,none⟩)) hHeld ?_;simp only[Act.put,zk,zj,zl];refine qq 3 (some 17) (.map (some V.mb)) rfl rfl (λwz hz=>by obtain⟨z0,z1,z2,z3⟩:=hz;unfold execOp;go_simp) hHeld ?_;simp only[Act.put,zk,zj,zl];refine zS 4 (some 18) (.pointer (some ⟨w.heap.size,1,none⟩)) hHeld ?_;simp only[Act.put,zk,zj,zl];refine qq 5 (some 19) (.string (bs n.s)) rfl rfl (λwz hz=>by obtain⟨z0,z1,z2,z3⟩:=hz;unfold execOp;go_simp) hHeld ?_;simp only[Act.put,zk,zj,zl];refine qq 6 (some 20) (.tuple #[.agg #[.string ⟨#[]⟩,.int .i64 0,.slice none 0 0],.bool false]) rfl rfl (λwz hz=>(xN _ _ rfl hz.2.2.1 e1 hun n.s rfl rfl).trans (by rw[HU.out,HB.out])) hHeld ?_;simp only[Act.put,zk,zj,zl];refine zS 7 (some 13) (.tuple #[.agg #[.string ⟨#[]⟩,.int .i64 0,.slice none 0 0],.bool false]) hHeld ?_;simp only[Act.put,zk,zj,zl];refine zS 8 (some 21) (.agg #[.string ⟨#[]⟩,.int .i64 0,.slice none 0 0]) hHeld ?_;simp only[Act.put,zk,zj,zl];refine zS 9 (some 22) (.bool false) hHeld ?_;simp only[Act.put,zk,zj,zl]
  have hH2:(W1.drew.alloc (.cells #[.string ⟨#[]⟩,.int .i64 0,.slice none 0 0] 136)).cell? ⟨cb,5,none⟩=some (.map (some V.mb))∧(W1.drew.alloc (.cells #[.string ⟨#[]⟩,.int .i64 0,.slice none 0 0] 136)).cell? ⟨w.heap.size,1,none⟩=some (.string (bs n.s))∧(W1.drew.alloc (.cells #[.string ⟨#[]⟩,.int .i64 0,.slice none 0 0] 136)).heap[V.mb]?=some (.map (jm c.names us).toArray c.names.length)∧Below W1.heap.size W1 (W1.drew.alloc (.cells #[.string ⟨#[]⟩,.int .i64 0,.slice none 0 0] 136)):=⟨za (zd W1.drew _) hHeld.1,za (zd W1.drew _) hHeld.2.1,(Below.heap_alloc W1.drew _ V.mb (Array.getElem?_eq_some_iff.1 hmb).1).trans hHeld.2.2.1,hHeld.2.2.2.trans ((zd W1.drew _))⟩
  refine yR 10 (by kernel_rfl) (Z4 (some 4) (.pointer (some ⟨W1.heap.size,0,none⟩)) (W1.drew.alloc (.cells #[.string ⟨#[]⟩,.int .i64 0,.slice none 0 0] 136)) rfl rfl (by rfl) (by kernel_rfl) ⟨hH2,?_⟩);simp only[Act.put,zk,zj,zl];have hM2:ze (W1.drew.alloc (.cells #[.string ⟨#[]⟩,.int .i64 0,.slice none 0 0] 136)) W1.heap.size 136 #[.string ⟨#[]⟩,.int .i64 0,.slice none 0 0]:=ze.new_at rfl;have hBel:Below W1.heap.size W1 ((W1.drew.alloc (.cells #[.string ⟨#[]⟩,.int .i64 0,.slice none 0 0] 136)).setRow W1.heap.size #[.string ⟨#[]⟩,.int .i64 0,.slice none 0 0]):=vB hH2.2.2.2 (Nat.le_refl _) _
  have hH3:((W1.drew.alloc (.cells #[.string ⟨#[]⟩,.int .i64 0,.slice none 0 0] 136)).setRow W1.heap.size #[.string ⟨#[]⟩,.int .i64 0,.slice none 0 0]).cell? ⟨cb,5,none⟩=some (.map (some V.mb))∧((W1.drew.alloc (.cells #[.string ⟨#[]⟩,.int .i64 0,.slice none 0 0] 136)).setRow W1.heap.size #[.string ⟨#[]⟩,.int .i64 0,.slice none 0 0]).cell? ⟨w.heap.size,1,none⟩=some (.string (bs n.s))∧((W1.drew.alloc (.cells #[.string ⟨#[]⟩,.int .i64 0,.slice none 0 0] 136)).setRow W1.heap.size #[.string ⟨#[]⟩,.int .i64 0,.slice none 0 0]).heap[V.mb]?=some (.map (jm c.names us).toArray c.names.length)∧Below W1.heap.size W1 ((W1.drew.alloc (.cells #[.string ⟨#[]⟩,.int .i64 0,.slice none 0 0] 136)).setRow W1.heap.size #[.string ⟨#[]⟩,.int .i64 0,.slice none 0 0]):=⟨za hBel c5,za hBel nc1,(hBel.block V.mb (Array.getElem?_eq_some_iff.1 hmb).1).trans hmb,hBel⟩
  refine yR 11 (by kernel_rfl) (xW none ((W1.drew.alloc (.cells #[.string ⟨#[]⟩,.int .i64 0,.slice none 0 0] 136)).setRow W1.heap.size #[.string ⟨#[]⟩,.int .i64 0,.slice none 0 0]) rfl rfl (by rfl) (ju 136 _ _ rfl W1.heap.size rfl #[.string ⟨#[]⟩,.int .i64 0,.slice none 0 0] rfl 136 (by kernel_rfl) _ hM2 rfl (by kernel_rfl)) ⟨hH3,?_⟩);simp only[Act.put];refine qq 12 (some 5) (.bool false) rfl rfl (λ_ _=>rfl) hH3 ?_;simp only[Act.put,zk,zj,zl];refine wpAnyH_done (by kernel_rfl) ?_ _;clear hM2 hH3 hH2 hHeld;generalize ((W1.drew.alloc (.cells #[.string ⟨#[]⟩,.int .i64 0,.slice none 0 0] 136)).setRow W1.heap.size #[.string ⟨#[]⟩,.int .i64 0,.slice none 0 0])=W2 at *;have N2:=N1.below hBel N1.lt;have b0:=N2.cell 0;have b1:=N2.cell 1;have b2:=N2.cell 2;have b3:=N2.cell 3;have b4:=N2.cell 4;have bl:=N2.lt;simp only[jg,jd,jf]at b0 b1 b2 b3 b4
  go_wp2_with (first
   |((go_at_call 86)
     refine(qa 132 n.a W2).mono ?_;rintro e w3 ⟨rfl,hw3⟩;(obtain rfl:W2=w3:=hw3.symm)))
  have hfc:=λw2 (hb:Below W2.heap.size W2 w2)=>HFC.out w2 (hBel.trans (hb.mono hBel.size))
  refine wp_region_held_drew (S:=λwz=>Below W2.heap.size W2 wz) (by kernel_rfl) ((Below.refl _ W2).drew) (λhHeld=>?_);refine zS 0 (some 28) (.pointer (some ⟨cb,0,none⟩)) hHeld ?_;simp only[Act.put,zk,zj,zl];refine zS 1 (some 29) (.pointer (some ⟨w.heap.size,0,none⟩)) hHeld ?_;simp only[Act.put,zk,zj,zl];refine qq 2 (some 30) (.string (bs n.op)) rfl rfl (λwz hz=>by have z0:=za hz b0;unfold execOp;go_simp) hHeld ?_;simp only[Act.put,zk,zj,zl];refine zS 5 (some 33) (.pointer (some ⟨w.heap.size,3,none⟩)) hHeld ?_;simp only[Act.put,zk,zj,zl];refine qq 6 (some 34) (.int .i64 n.a) rfl rfl (λwz hz=>by have z0:=za hz b3;unfold execOp;go_simp) hHeld ?_;simp only[Act.put,zk,zj,zl];refine qG 3 (some 31) 87 #[.pointer (some ⟨cb,0,none⟩),.string (bs n.op)] (by kernel_rfl) rfl rfl (by rfl) (by kernel_rfl) (hfc _ (zu (Below.refl _ W2))) ?_;rintro e w4 ⟨rfl,hb4'⟩;have hb4:Below W2.heap.size W2 w4:=(zu (Below.refl _ W2)).trans hb4';refine .inl ⟨_,rfl,hb4,?_⟩;simp only[Act.put,zk,zj,zl];refine qq 4 (some 32) (.bool true) rfl rfl (λ_ _=>rfl) hb4 ?_;simp only[Act.put,zk,zj,zl];refine qG 7 (some 35) 86 #[.bool true,.int .i64 137,.int .i64 n.a] (by kernel_rfl) rfl rfl (by rfl) (by kernel_rfl) (qa 137 n.a w4) ?_;rintro e w5 ⟨rfl,hw5⟩;obtain rfl:w4=w5:=hw5.symm;refine .inl ⟨_,rfl,hb4,?_⟩;simp only[Act.put,zk,zj,zl];refine wpAnyH_done (by kernel_rfl) ?_ _;have hb14:Below W1.heap.size W1 w4:=hBel.trans (hb4.mono hBel.size);have hsd:=HSD.out w4 hb14;clear b0 b1 b2 b3 b4 bl hfc;have N2:=N1.below hb14 N1.lt;have b0:=N2.cell 0;have b1:=N2.cell 1;have b2:=N2.cell 2;have b3:=N2.cell 3;have b4:=N2.cell 4;have bl:=N2.lt;simp only[jg,jd,jf]at b0 b1 b2 b3 b4
  go_wp2_with (first
   |((go_at_call 88)
     refine hsd.mono ?_;(rintro e w5 ⟨ho5,rfl⟩)))
  exact⟨rfl,(vM.of (hb1.trans (hb14.mono hb1.size))).trans ho5,by rw[HR.out]⟩
 |ok r =>
  obtain⟨c1,m⟩:=r;rw[hC]at hR HSD;have HR:=zz hR;have HNM:=zz (KS hC);clear hR hC;unfold zR at HSD ⊢;go_enter Tryz.func52,Tryz.ntmps52
  go_wp2
  rw[←HW.out];refine wp_region_held_drew (S:=λwz=>wz.cell? ⟨cb,5,none⟩=some (.map (some V.mb))∧wz.cell? ⟨w.heap.size,1,none⟩=some (.string (bs n.s))∧wz.heap[V.mb]?=some (.map (jm c.names us).toArray c.names.length)∧Below W1.heap.size W1 wz) (by kernel_rfl) (⟨c5,nc1,hmb,(Below.refl _ W1).drew⟩) (λhHeld=>?_);refine zS 0 (some 14) (.pointer (some ⟨cb,0,none⟩)) hHeld ?_;simp only[Act.put,zk,zj,zl];refine zS 1 (some 15) (.pointer (some ⟨cb,0,none⟩)) hHeld ?_;simp only[Act.put,zk,zj,zl];refine zS 2 (some 16) (.pointer (some ⟨cb,5,none⟩)) hHeld ?_;simp only[Act.put,zk,zj,zl];refine qq 3 (some 17) (.map (some V.mb)) rfl rfl (λwz hz=>by obtain⟨z0,z1,z2,z3⟩:=hz;unfold execOp;go_simp) hHeld ?_;simp only[Act.put,zk,zj,zl];refine zS 4 (some 18) (.pointer (some ⟨w.heap.size,1,none⟩)) hHeld ?_;simp only[Act.put,zk,zj,zl];refine qq 5 (some 19) (.string (bs n.s)) rfl rfl (λwz hz=>by obtain⟨z0,z1,z2,z3⟩:=hz;unfold execOp;go_simp) hHeld ?_;simp only[Act.put,zk,zj,zl];refine qq 6 (some 20) (.tuple #[.agg #[.string ⟨#[]⟩,.int .i64 0,.slice none 0 0],.bool false]) rfl rfl (λwz hz=>(xN _ _ rfl hz.2.2.1 e1 hun n.s rfl rfl).trans (by rw[HU.out,HB.out])) hHeld ?_;simp only[Act.put,zk,zj,zl];refine zS 7 (some 13) (.tuple #[.agg #[.string ⟨#[]⟩,.int .i64 0,.slice none 0 0],.bool false]) hHeld ?_;simp only[Act.put,zk,zj,zl];refine zS 8 (some 21) (.agg #[.string ⟨#[]⟩,.int .i64 0,.slice none 0 0]) hHeld ?_;simp only[Act.put,zk,zj,zl];refine zS 9 (some 22) (.bool false) hHeld ?_;simp only[Act.put,zk,zj,zl]
  have hH2:(W1.drew.alloc (.cells #[.string ⟨#[]⟩,.int .i64 0,.slice none 0 0] 136)).cell? ⟨cb,5,none⟩=some (.map (some V.mb))∧(W1.drew.alloc (.cells #[.string ⟨#[]⟩,.int .i64 0,.slice none 0 0] 136)).cell? ⟨w.heap.size,1,none⟩=some (.string (bs n.s))∧(W1.drew.alloc (.cells #[.string ⟨#[]⟩,.int .i64 0,.slice none 0 0] 136)).heap[V.mb]?=some (.map (jm c.names us).toArray c.names.length)∧Below W1.heap.size W1 (W1.drew.alloc (.cells #[.string ⟨#[]⟩,.int .i64 0,.slice none 0 0] 136)):=⟨za (zd W1.drew _) hHeld.1,za (zd W1.drew _) hHeld.2.1,(Below.heap_alloc W1.drew _ V.mb (Array.getElem?_eq_some_iff.1 hmb).1).trans hHeld.2.2.1,hHeld.2.2.2.trans ((zd W1.drew _))⟩
  refine yR 10 (by kernel_rfl) (Z4 (some 4) (.pointer (some ⟨W1.heap.size,0,none⟩)) (W1.drew.alloc (.cells #[.string ⟨#[]⟩,.int .i64 0,.slice none 0 0] 136)) rfl rfl (by rfl) (by kernel_rfl) ⟨hH2,?_⟩);simp only[Act.put,zk,zj,zl];have hM2:ze (W1.drew.alloc (.cells #[.string ⟨#[]⟩,.int .i64 0,.slice none 0 0] 136)) W1.heap.size 136 #[.string ⟨#[]⟩,.int .i64 0,.slice none 0 0]:=ze.new_at rfl;have hBel:Below W1.heap.size W1 ((W1.drew.alloc (.cells #[.string ⟨#[]⟩,.int .i64 0,.slice none 0 0] 136)).setRow W1.heap.size #[.string ⟨#[]⟩,.int .i64 0,.slice none 0 0]):=vB hH2.2.2.2 (Nat.le_refl _) _
  have hH3:((W1.drew.alloc (.cells #[.string ⟨#[]⟩,.int .i64 0,.slice none 0 0] 136)).setRow W1.heap.size #[.string ⟨#[]⟩,.int .i64 0,.slice none 0 0]).cell? ⟨cb,5,none⟩=some (.map (some V.mb))∧((W1.drew.alloc (.cells #[.string ⟨#[]⟩,.int .i64 0,.slice none 0 0] 136)).setRow W1.heap.size #[.string ⟨#[]⟩,.int .i64 0,.slice none 0 0]).cell? ⟨w.heap.size,1,none⟩=some (.string (bs n.s))∧((W1.drew.alloc (.cells #[.string ⟨#[]⟩,.int .i64 0,.slice none 0 0] 136)).setRow W1.heap.size #[.string ⟨#[]⟩,.int .i64 0,.slice none 0 0]).heap[V.mb]?=some (.map (jm c.names us).toArray c.names.length)∧Below W1.heap.size W1 ((W1.drew.alloc (.cells #[.string ⟨#[]⟩,.int .i64 0,.slice none 0 0] 136)).setRow W1.heap.size #[.string ⟨#[]⟩,.int .i64 0,.slice none 0 0]):=⟨za hBel c5,za hBel nc1,(hBel.block V.mb (Array.getElem?_eq_some_iff.1 hmb).1).trans hmb,hBel⟩
  refine yR 11 (by kernel_rfl) (xW none ((W1.drew.alloc (.cells #[.string ⟨#[]⟩,.int .i64 0,.slice none 0 0] 136)).setRow W1.heap.size #[.string ⟨#[]⟩,.int .i64 0,.slice none 0 0]) rfl rfl (by rfl) (ju 136 _ _ rfl W1.heap.size rfl #[.string ⟨#[]⟩,.int .i64 0,.slice none 0 0] rfl 136 (by kernel_rfl) _ hM2 rfl (by kernel_rfl)) ⟨hH3,?_⟩);simp only[Act.put];refine qq 12 (some 5) (.bool false) rfl rfl (λ_ _=>rfl) hH3 ?_;simp only[Act.put,zk,zj,zl];refine wpAnyH_done (by kernel_rfl) ?_ _;clear hM2 hH3 hH2 hHeld;generalize ((W1.drew.alloc (.cells #[.string ⟨#[]⟩,.int .i64 0,.slice none 0 0] 136)).setRow W1.heap.size #[.string ⟨#[]⟩,.int .i64 0,.slice none 0 0])=W2 at *;have N2:=N1.below hBel N1.lt;have b0:=N2.cell 0;have b1:=N2.cell 1;have b2:=N2.cell 2;have b3:=N2.cell 3;have b4:=N2.cell 4;have bl:=N2.lt;simp only[jg,jd,jf]at b0 b1 b2 b3 b4
  go_wp2_with (first
   |((go_at_call 86)
     refine(qa 132 n.a W2).mono ?_;rintro e w3 ⟨rfl,hw3⟩;(obtain rfl:W2=w3:=hw3.symm)))
  have hfc:=λw2 (hb:Below W2.heap.size W2 w2)=>HFC.out w2 (hBel.trans (hb.mono hBel.size))
  refine wp_region_held_drew (S:=λwz=>Below W2.heap.size W2 wz) (by kernel_rfl) ((Below.refl _ W2).drew) (λhHeld=>?_);refine zS 0 (some 28) (.pointer (some ⟨cb,0,none⟩)) hHeld ?_;simp only[Act.put,zk,zj,zl];refine zS 1 (some 29) (.pointer (some ⟨w.heap.size,0,none⟩)) hHeld ?_;simp only[Act.put,zk,zj,zl];refine qq 2 (some 30) (.string (bs n.op)) rfl rfl (λwz hz=>by have z0:=za hz b0;unfold execOp;go_simp) hHeld ?_;simp only[Act.put,zk,zj,zl];refine zS 5 (some 33) (.pointer (some ⟨w.heap.size,3,none⟩)) hHeld ?_;simp only[Act.put,zk,zj,zl];refine qq 6 (some 34) (.int .i64 n.a) rfl rfl (λwz hz=>by have z0:=za hz b3;unfold execOp;go_simp) hHeld ?_;simp only[Act.put,zk,zj,zl];refine qG 3 (some 31) 87 #[.pointer (some ⟨cb,0,none⟩),.string (bs n.op)] (by kernel_rfl) rfl rfl (by rfl) (by kernel_rfl) (hfc _ (zu (Below.refl _ W2))) ?_;rintro e w4 ⟨rfl,hb4'⟩;have hb4:Below W2.heap.size W2 w4:=(zu (Below.refl _ W2)).trans hb4';refine .inl ⟨_,rfl,hb4,?_⟩;simp only[Act.put,zk,zj,zl];refine qq 4 (some 32) (.bool true) rfl rfl (λ_ _=>rfl) hb4 ?_;simp only[Act.put,zk,zj,zl];refine qG 7 (some 35) 86 #[.bool true,.int .i64 137,.int .i64 n.a] (by kernel_rfl) rfl rfl (by rfl) (by kernel_rfl) (qa 137 n.a w4) ?_;rintro e w5 ⟨rfl,hw5⟩;obtain rfl:w4=w5:=hw5.symm;refine .inl ⟨_,rfl,hb4,?_⟩;simp only[Act.put,zk,zj,zl];refine wpAnyH_done (by kernel_rfl) ?_ _;have hb14:Below W1.heap.size W1 w4:=hBel.trans (hb4.mono hBel.size);have hsd:=HSD.out w4 hb14;clear b0 b1 b2 b3 b4 bl hfc;have N2:=N1.below hb14 N1.lt;have b0:=N2.cell 0;have b1:=N2.cell 1;have b2:=N2.cell 2;have b3:=N2.cell 3;have b4:=N2.cell 4;have bl:=N2.lt;simp only[jg,jd,jf]at b0 b1 b2 b3 b4;have hnn:¬V.own cb w.heap.size:=λe=>by have:=(h.low e).2;omega
  go_wp2_with (first
   |((go_at_call 88)
     refine hsd.mono ?_;rintro e w5 ⟨ho5,u,V5,rfl,hu5,H5,S5⟩;obtain⟨Au,Cu,eu,u1,u2,ub⟩:=hu5.bytes;subst eu;(unfold X7)))
  have N5:ze w5 w.heap.size 24 #[.string (bs n.op),.string (bs n.s),.int .i64 n.n,.int .i64 n.a,.slice A L C]:=(S5.inner _ N2.lt hnn).1.trans N2;generalize hu:(Value.slice Au m.bytes.length Cu)=u at *;have hb6:=zd w5 (.cells #[.string (bs m.word),.int .i64 (m.node:Nat),u] 136);have H6:=H5.keep hb6;have M6:ze (w5.alloc (.cells #[.string (bs m.word),.int .i64 (m.node:Nat),u] 136)) w5.heap.size 136 #[.string (bs m.word),.int .i64 (m.node:Nat),u]:=ze.new _ _ _;have N6:=N5.alloc (.cells #[.string (bs m.word),.int .i64 (m.node:Nat),u] 136);have hu6:=hu5.keep hb6.size (λk hk hP=>⟨hb6.block k hk,hP⟩);have S06:=((je.of (cb:=cb) (V:=V) (hb1.trans (hb14.mono hb1.size))).trans S5).trans (je.of (cb:=cb) (V:=V5) hb6);generalize w5.alloc (.cells #[.string (bs m.word),.int .i64 (m.node:Nat),u] 136)=W6 at *;have d5:=H6.has.cell 5;have d1:=N6.cell 1;simp only[jg,jd,jf]at d5 d1;obtain⟨us6,e6,hmb6,hin6⟩:=H6.nms;have hlk6:lk c1.names n.s=none:=by rw[HNM.out];exact HLK.out
  refine vu (S:=λwz=>Below W6.heap.size W6 wz) 7 (by kernel_rfl) ((Below.refl _ W6).drew) (λhHeld=>?_);refine vI 0 (some 39) (.pointer (some ⟨cb,0,none⟩)) hHeld ?_;simp only[Act.put,zk,zj,zl];refine vI 1 (some 40) (.pointer (some ⟨cb,0,none⟩)) hHeld ?_;simp only[Act.put,zk,zj,zl];refine vI 2 (some 41) (.pointer (some ⟨cb,5,none⟩)) hHeld ?_;simp only[Act.put,zk,zj,zl];refine vK 3 (some 42) (.map (some V5.mb)) rfl rfl (λwz hz=>by have z0:=za hz d5;unfold execOp;go_simp) hHeld ?_;simp only[Act.put,zk,zj,zl];refine vI 4 (some 43) (.pointer (some ⟨w.heap.size,1,none⟩)) hHeld ?_;simp only[Act.put,zk,zj,zl];refine vK 5 (some 44) (.string (bs n.s)) rfl rfl (λwz hz=>by have z0:=za hz d1;unfold execOp;go_simp) hHeld ?_;simp only[Act.put,zk,zj,zl];refine vK 6 (some 45) (.agg #[.string (bs m.word),.int .i64 (m.node:Nat),u]) rfl rfl (λwz hz=>KP _ rfl w5.heap.size rfl wz (M6.below hz M6.lt)) hHeld ?_;simp only[Act.put,zk,zj,zl];have hbd:Below W6.heap.size W6 W6.drew:=zu (Below.refl _ W6);refine jA 7 none (vY W6.drew V5.mb (.map (jm (c1.names++ [(n.s,m)]) (us6++ [u])).toArray (c1.names.length+1))) (by kernel_rfl) rfl rfl (by rfl) (kS _ _ _ rfl (show W6.drew.heap[V5.mb]?=_ from hmb6) e6 H6.uniq n.s m u hlk6 rfl rfl rfl) (by kernel_rfl) ?_;simp only[Act.put];obtain⟨H7,S7⟩:=(H6.keep hbd).putName e6 hmb6 (λi a b=>(hin6 i a b).keep hbd.size (λk hk hP=>⟨hbd.block k hk,hP⟩)) n.s m u (uR hlk6) (hu6.keep hbd.size (λk hk hP=>⟨hbd.block k hk,hP⟩)) (by rw[HNM.out];exact hnl);have S07:=S06.trans ((je.of (cb:=cb) (V:=V5) hbd).trans S7)
  go_wp2
  go_end0
  refine⟨S07.only,?_⟩;rw[HR.out]
  exact⟨rfl,V5,H7.mono (λg _ _ he=>by
   rcases he with he|he
   ·exact .inl he
   ·exact .inr (by have:=hb1.size;have:=hb14.size;omega)),S07⟩
theorem XK{w0 w:World}{cb:Nat}{V:CV}{c:Ck}(h:zM E w cb V c)(n:Nd)(A:Option Addr)(C:Nat)(hr:jZ w0 n A C)(hcb:w0.heap.size≤cb-1)(hb0:Below w0.heap.size w0 w)(hx:uZ n)(hnm:yz c.names c.parts)(hby:∀x ∈ c.names,x.2.bytes.length≤1000)(hdv:c.devs.length≤90000)(hnl:c.names.length≤90000):Calls Tryz.prog 52 #[.pointer (some ⟨cb,0,none⟩),.agg (zR n (.slice A n.l.length C))] w (gm E w cb V (jH c n)):=by
 by_cases ho:n.op=zv
 ·exact gI h n A C hr hcb hb0 hx hnm hby hdv hnl ho
 ·cases hk:lk c.names n.s with
  |some m=>exact FA h n A C hr hcb hb0 hx hnm hby hdv hnl ho (by rw[hk];rfl)
  |none =>
   cases hf:full c.names n.op with
   |true=>exact Ho h n A C hr hcb hb0 hx hnm hby hdv hnl ho hk hf
   |false=>exact Hp h n A C hr hcb hb0 hx hnm hby hdv hnl ho hk hf
end
end Go.Proofs.YtebcfkigbbolaaaGreatDoor
