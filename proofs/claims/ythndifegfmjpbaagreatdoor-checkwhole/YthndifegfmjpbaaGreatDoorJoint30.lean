/- Texts that the statements of this stage share, joined. -/
import Derived.Test.YthndifegfmjpbaaGreatDoorJoint28
namespace Go.Proofs.YthndifegfmjpbaaGreatDoor
set_option linter.unusedVariables false
set_option maxRecDepth 100000
set_option maxHeartbeats 40000000
section
open Go.ChangeShapes Go.WideShapes Go.ChangeAt Go.RowKit Go.MapKept
variable {E : Nat → Prop}
theorem said_key {w : World} {cb : Nat} {V : CV} {c : Ck} (h : CkAt E w cb V c) (n : Nd) (A : Option Addr) (L C : Nat) (hL : L = 1) (gn on : Nat) (hA : A = some ⟨gn, on, none⟩) (hgn : gn < w.heap.size) (x : List UInt8) (hnx : (nthN n.l 0).s = x) (hsx : w.cell? ⟨gn, on + 0 * 5 + 1, none⟩ = some (.string (bs x))) (hf : ∀ c ∈ x, isHxy c = true) (ho : n.op = wKey) :
  Calls Tryz.prog 88 #[.pointer (some ⟨cb, 0, none⟩), .agg (ndc n (.slice A L C))] w (SdRes E w cb V (csaid c n)) := by
 obtain ⟨W1, hW1⟩ : ∃ W1, W1 = ((w.alloc (.cells #[.string (bs n.op), .string (bs n.s), .int .i64 n.n, .int .i64 n.a, .slice A L C] 24)).alloc (.cells #[.string ⟨#[]⟩, .int .i64 0, .slice none 0 0] 136)).alloc (.cells #[.string (bs n.op), .int .i64 0, .slice none 0 0] 136) := ⟨_, rfl⟩
 have hb1 : Below w.heap.size w W1 := by rw [hW1]; exact three_mn _ _ _
 have N1 : Has W1 w.heap.size 24 #[.string (bs n.op), .string (bs n.s), .int .i64 n.n, .int .i64 n.a, .slice A L C] := by rw [hW1]; exact ((Has.new w _ _).alloc _).alloc _
 have R1 : Has W1 (w.heap.size + 1) 136 #[.string ⟨#[]⟩, .int .i64 0, .slice none 0 0] := by rw [hW1]; exact (Has.new_at (by simp)).alloc _
 have M1 : Has W1 (w.heap.size + 2) 136 #[.string (bs n.op), .int .i64 0, .slice none 0 0] := by rw [hW1]; exact Has.new_at (by simp)
 have h1 := (e0_mono h).keep hb1
 have S1 : Stp cb V w V W1 := Stp.of hb1
 have HW := hidI hW1
 have lcb := h.has.lt
 have hrn : ¬ V.own cb (w.heap.size + 1) := fun e => by have := (h.low e).2; omega
 have hmn : ¬ V.own cb (w.heap.size + 2) := fun e => by have := (h.low e).2; omega
 have hot := bs_toList n.op
 have f0 : (n.op == [106, 111, 117, 114, 110, 97, 108]) = false := by rw [ho]; decide
 have f1 : (n.op == [100, 101, 118, 105, 99, 101]) = false := by rw [ho]; decide
 have f2 : (n.op == [107, 101, 121]) = true := by rw [ho]; decide
 have f3 : (n.op == [114, 111, 111, 116]) = false := by rw [ho]; decide
 have f4 : (n.op == [118, 111, 108, 117, 109, 101]) = false := by rw [ho]; decide
 have hR : csaid c n = if x.length ≠ 64 then .error (135, n.a) else .ok (c, ⟨n.op, 0, unhex x⟩) := by
  unfold csaid
  rw [if_neg (show ¬ n.op = wJournal by rw [ho]; decide), if_neg (show ¬ n.op = wDevice by rw [ho]; decide), if_pos (show n.op = wKey ∨ n.op = wRoot by first | exact .inl ho | exact .inr ho), hnx]
 subst hL hA
 have sxr := below_some hb1 hsx
 have nc4 := N1.cell 4
 have nc3 := N1.cell 3
 simp only [ga1, gz1, gs1] at nc3 nc4
 obtain ⟨X, hX⟩ : ∃ X, X = x.length := ⟨_, rfl⟩
 have HX := hidI (show (bs x).size = X by rw [hX]; exact bs_size x)
 have hxs := bs_toList x
 clear hW1
 by_cases h64 : x.length = 64
 · have hX64 : (((X : Nat) : Int) == 64) = true := by rw [hX, h64]; rfl
   rw [if_neg (not_not_intro h64)] at hR
   have HR := hidI hR
   have HU := hidI (fun W => unhex_c x W h64 hf)
   have HUL := hidI (unhex_half 32 x (by omega))
   clear hR ho hX h64
   unfold ndc
   go_enter Tryz.func88, Tryz.ntmps88
   go_wp2
   rw [← HW.out]
   refine wp_region_held_drew (S := fun wz => Below W1.heap.size W1 wz) (by kernel_rfl) ((Below.refl _ W1).drew) (fun hHeld => ?_)
   refine tkT 0 (some 78) (.pointer (some ⟨w.heap.size, 4, none⟩)) rfl rfl (fun _ _ => rfl) hHeld ?_
   simp only [Act.put, sb1, sz1, ss1]
   refine tkT 1 (some 79) (.slice (some ⟨gn, on, none⟩) 1 C) rfl rfl (fun wz hz => by have z0 := below_some hz nc4; unfold execOp; go_simp) hHeld ?_
   simp only [Act.put, sb1, sz1, ss1]
   refine tkT 2 (some 80) (.pointer (some ⟨gn, on + 0 * 5, none⟩)) rfl rfl (fun wz _ => run_at_nd _ _ rfl gn on 0 1 C rfl rfl (by decide) wz) hHeld ?_
   simp only [Act.put, sb1, sz1, ss1]
   refine tkT 3 (some 81) (.pointer (some ⟨gn, on + 0 * 5 + 1, none⟩)) rfl rfl (fun _ _ => rfl) hHeld ?_
   simp only [Act.put, sb1, sz1, ss1]
   refine tkT 4 (some 82) (.string (bs x)) rfl rfl (fun wz hz => by have z0 := below_some hz sxr; unfold execOp; go_simp) hHeld ?_
   simp only [Act.put, sb1, sz1, ss1]
   refine tkT 5 (some 83) (.int .i64 (X : Nat)) rfl rfl (fun wz _ => by unfold execOp; go_simp; rw [HX.out]) hHeld ?_
   simp only [Act.put, sb1, sz1, ss1]
   refine tkT 6 (some 84) (.bool true) rfl rfl (fun wz _ => run_eqC _ 64 rfl (X : Nat) rfl true hX64 wz) hHeld ?_
   simp only [Act.put, sb1, sz1, ss1]
   refine tkT 7 (some 85) (.pointer (some ⟨w.heap.size, 3, none⟩)) rfl rfl (fun _ _ => rfl) hHeld ?_
   simp only [Act.put, sb1, sz1, ss1]
   refine tkT 8 (some 86) (.int .i64 n.a) rfl rfl (fun wz hz => by have z0 := below_some hz nc3; unfold execOp; go_simp) hHeld ?_
   simp only [Act.put, sb1, sz1, ss1]
   refine callToP 9 (some 87) 86 #[.bool true, .int .i64 135, .int .i64 n.a] (by kernel_rfl) rfl rfl (by rfl) (by kernel_rfl) (need_yes 135 n.a W1.drew) ?_
   rintro e w5 ⟨rfl, rfl⟩
   refine .inl ⟨_, rfl, hHeld, ?_⟩
   simp only [Act.put, sb1, sz1, ss1]
   refine wpAnyH_done (by kernel_rfl) ?_ _
   have hbd : Below W1.heap.size W1 W1.drew := below_drew (Below.refl _ W1)
   have H2 := h1.keep hbd
   have S2 := S1.trans (Stp.of (cb := cb) (V := V) hbd)
   have N2 := has_drew N1
   have R2 := has_drew R1
   have M2 := has_drew M1
   replace sxr := below_some hbd sxr
   replace nc4 := below_some hbd nc4
   have hg2 : gn < W1.drew.heap.size := Nat.lt_of_lt_of_le hgn (Nat.le_trans hb1.size hbd.size)
   clear hHeld nc3 h1 S1 N1 R1 M1 hb1 HW hbd
   generalize W1.drew = W2 at *
   have nl2 := N2.lt
   have hux := HU.out W2
   go_wp2_with (first
    | ((refine at_dstL 90 rfl ?_)
       (refine wpList_is (some 90) (.pointer (some ⟨gn, on + 0 * 5, none⟩)) rfl (by rfl) (run_at_nd _ _ rfl gn on 0 1 C rfl rfl (by decide) W2) ?_))
    | ((go_at_call 119)
       (refine hux.mono ?_)
       (rintro e w5 ⟨v, rfl, ⟨Av, Cv, rfl, hv1, hv2, hvb⟩, hb5⟩)
       (rw [HUL.out] at hv1 ⊢)
       (have M5 := M2.below hb5 M2.lt)
       (have R5 := R2.below hb5 R2.lt)
       (have m0 := M5.cell 0)
       (have m1 := M5.cell 1)
       (have m2 := M5.cell 2)
       (have r0 := R5.cell 0)
       (have r1 := R5.cell 1)
       (have r2 := R5.cell 2)
       (simp only [ga1, gz1, gs1] at m0 m1 m2 r0 r1 r2)
       (have mf := M5.free 2)
       (have ml := M5.lt)
       (have g0 := R5.free 0)
       (have g1 := R5.free 1)
       (have g2 := R5.free 2)
       (have rl := R5.lt)))
   have H5 := H2.keep hb5
   have S5 := S2.trans (Stp.of (cb := cb) (V := V) hb5)
   have H6 := H5.other ⟨w.heap.size + 2, 2, none⟩ hmn (fun e => absurd e.2 (Nat.not_lt.2 (Nat.le_add_right _ _))) (.slice Av 32 Cv)
   have S6 := S5.set (q := ⟨w.heap.size + 2, 2, none⟩) (by show w.heap.size ≤ w.heap.size + 2; omega) (.slice Av 32 Cv)
   have R6 := R5.other (p := ⟨w.heap.size + 2, 2, none⟩) (by show w.heap.size + 1 ≠ w.heap.size + 2; omega) (.slice Av 32 Cv)
   have rl2 := M2.lt
   have hvb6 : BytsP (w5.setCell ⟨w.heap.size + 2, 2, none⟩ (.slice Av 32 Cv)) (fun g => W2.heap.size ≤ g) Av (unhex x) := hvb.keep (by simp) (fun k hk hP => ⟨Below.heap_setCell w5 _ _ k (by show k ≠ w.heap.size + 2; omega), hP⟩)
   refine ret_mn rfl rfl (R6.set3 _ _ _) rfl ?_
   have S7 := S6.set3 (g := w.heap.size + 1) (by omega) (.string (bs n.op)) (.int .i64 0) (.slice Av 32 Cv)
   have H7 := H6.other3 (w.heap.size + 1) hrn (fun e => absurd e.2 (Nat.not_lt.2 (Nat.le_add_right _ _))) (.string (bs n.op)) (.int .i64 0) (.slice Av 32 Cv)
   refine ⟨S7.only, ?_⟩
   rw [HR.out]
   refine ⟨.slice Av 32 Cv, V, rfl, ⟨Av, Cv, by rw [HUL.out], by rw [HUL.out]; exact hv1, hv2, ?_⟩, H7.mono (fun g _ _ he => .inl he.1), S7⟩
   refine hvb6.keep (by simp) (fun k hk hP => ⟨?_, fun e => ?_, .inr ?_⟩)
   · have hne : k ≠ w.heap.size + 1 := by omega
     exact (Below.heap_setCell _ ⟨w.heap.size + 1, 2, none⟩ _ k hne).trans ((Below.heap_setCell _ ⟨w.heap.size + 1, 1, none⟩ _ k hne).trans (Below.heap_setCell _ ⟨w.heap.size + 1, 0, none⟩ _ k hne))
   · have := (h.low e).2; omega
   · omega
 · have hX64 : (((X : Nat) : Int) == 64) = false := by rw [beq_eq_false_iff_ne]; omega
   rw [if_pos h64] at hR
   have HR := hidI hR
   clear hR ho hX
   unfold ndc
   go_enter Tryz.func88, Tryz.ntmps88
   go_wp2
   rw [← HW.out]
   refine wp_region_held_drew (S := fun wz => Below W1.heap.size W1 wz) (by kernel_rfl) ((Below.refl _ W1).drew) (fun hHeld => ?_)
   refine tkT 0 (some 78) (.pointer (some ⟨w.heap.size, 4, none⟩)) rfl rfl (fun _ _ => rfl) hHeld ?_
   simp only [Act.put, sb1, sz1, ss1]
   refine tkT 1 (some 79) (.slice (some ⟨gn, on, none⟩) 1 C) rfl rfl (fun wz hz => by have z0 := below_some hz nc4; unfold execOp; go_simp) hHeld ?_
   simp only [Act.put, sb1, sz1, ss1]
   refine tkT 2 (some 80) (.pointer (some ⟨gn, on + 0 * 5, none⟩)) rfl rfl (fun wz _ => run_at_nd _ _ rfl gn on 0 1 C rfl rfl (by decide) wz) hHeld ?_
   simp only [Act.put, sb1, sz1, ss1]
   refine tkT 3 (some 81) (.pointer (some ⟨gn, on + 0 * 5 + 1, none⟩)) rfl rfl (fun _ _ => rfl) hHeld ?_
   simp only [Act.put, sb1, sz1, ss1]
   refine tkT 4 (some 82) (.string (bs x)) rfl rfl (fun wz hz => by have z0 := below_some hz sxr; unfold execOp; go_simp) hHeld ?_
   simp only [Act.put, sb1, sz1, ss1]
   refine tkT 5 (some 83) (.int .i64 (X : Nat)) rfl rfl (fun wz _ => by unfold execOp; go_simp; rw [HX.out]) hHeld ?_
   simp only [Act.put, sb1, sz1, ss1]
   refine tkT 6 (some 84) (.bool false) rfl rfl (fun wz _ => run_eqC _ 64 rfl (X : Nat) rfl false hX64 wz) hHeld ?_
   simp only [Act.put, sb1, sz1, ss1]
   refine tkT 7 (some 85) (.pointer (some ⟨w.heap.size, 3, none⟩)) rfl rfl (fun _ _ => rfl) hHeld ?_
   simp only [Act.put, sb1, sz1, ss1]
   refine tkT 8 (some 86) (.int .i64 n.a) rfl rfl (fun wz hz => by have z0 := below_some hz nc3; unfold execOp; go_simp) hHeld ?_
   simp only [Act.put, sb1, sz1, ss1]
   refine callToP 9 (some 87) 86 #[.bool false, .int .i64 135, .int .i64 n.a] (by kernel_rfl) rfl rfl (by rfl) (by kernel_rfl) (need_no 135 n.a W1.drew) ?_
   rintro e w5 ⟨rfl, rfl⟩
   refine .inr ⟨_, rfl, ?_⟩
   exact ⟨rfl, S1.only.drew, by rw [HR.out]; rfl⟩
theorem said_root {w : World} {cb : Nat} {V : CV} {c : Ck} (h : CkAt E w cb V c) (n : Nd) (A : Option Addr) (L C : Nat) (hL : L = 1) (gn on : Nat) (hA : A = some ⟨gn, on, none⟩) (hgn : gn < w.heap.size) (x : List UInt8) (hnx : (nthN n.l 0).s = x) (hsx : w.cell? ⟨gn, on + 0 * 5 + 1, none⟩ = some (.string (bs x))) (hf : ∀ c ∈ x, isHxy c = true) (ho : n.op = wRoot) :
  Calls Tryz.prog 88 #[.pointer (some ⟨cb, 0, none⟩), .agg (ndc n (.slice A L C))] w (SdRes E w cb V (csaid c n)) := by
 obtain ⟨W1, hW1⟩ : ∃ W1, W1 = ((w.alloc (.cells #[.string (bs n.op), .string (bs n.s), .int .i64 n.n, .int .i64 n.a, .slice A L C] 24)).alloc (.cells #[.string ⟨#[]⟩, .int .i64 0, .slice none 0 0] 136)).alloc (.cells #[.string (bs n.op), .int .i64 0, .slice none 0 0] 136) := ⟨_, rfl⟩
 have hb1 : Below w.heap.size w W1 := by rw [hW1]; exact three_mn _ _ _
 have N1 : Has W1 w.heap.size 24 #[.string (bs n.op), .string (bs n.s), .int .i64 n.n, .int .i64 n.a, .slice A L C] := by rw [hW1]; exact ((Has.new w _ _).alloc _).alloc _
 have R1 : Has W1 (w.heap.size + 1) 136 #[.string ⟨#[]⟩, .int .i64 0, .slice none 0 0] := by rw [hW1]; exact (Has.new_at (by simp)).alloc _
 have M1 : Has W1 (w.heap.size + 2) 136 #[.string (bs n.op), .int .i64 0, .slice none 0 0] := by rw [hW1]; exact Has.new_at (by simp)
 have h1 := (e0_mono h).keep hb1
 have S1 : Stp cb V w V W1 := Stp.of hb1
 have HW := hidI hW1
 have lcb := h.has.lt
 have hrn : ¬ V.own cb (w.heap.size + 1) := fun e => by have := (h.low e).2; omega
 have hmn : ¬ V.own cb (w.heap.size + 2) := fun e => by have := (h.low e).2; omega
 have hot := bs_toList n.op
 have f0 : (n.op == [106, 111, 117, 114, 110, 97, 108]) = false := by rw [ho]; decide
 have f1 : (n.op == [100, 101, 118, 105, 99, 101]) = false := by rw [ho]; decide
 have f2 : (n.op == [107, 101, 121]) = false := by rw [ho]; decide
 have f3 : (n.op == [114, 111, 111, 116]) = true := by rw [ho]; decide
 have f4 : (n.op == [118, 111, 108, 117, 109, 101]) = false := by rw [ho]; decide
 have hR : csaid c n = if x.length ≠ 64 then .error (135, n.a) else .ok (c, ⟨n.op, 0, unhex x⟩) := by
  unfold csaid
  rw [if_neg (show ¬ n.op = wJournal by rw [ho]; decide), if_neg (show ¬ n.op = wDevice by rw [ho]; decide), if_pos (show n.op = wKey ∨ n.op = wRoot by first | exact .inl ho | exact .inr ho), hnx]
 subst hL hA
 have sxr := below_some hb1 hsx
 have nc4 := N1.cell 4
 have nc3 := N1.cell 3
 simp only [ga1, gz1, gs1] at nc3 nc4
 obtain ⟨X, hX⟩ : ∃ X, X = x.length := ⟨_, rfl⟩
 have HX := hidI (show (bs x).size = X by rw [hX]; exact bs_size x)
 have hxs := bs_toList x
 clear hW1
 by_cases h64 : x.length = 64
 · have hX64 : (((X : Nat) : Int) == 64) = true := by rw [hX, h64]; rfl
   rw [if_neg (not_not_intro h64)] at hR
   have HR := hidI hR
   have HU := hidI (fun W => unhex_c x W h64 hf)
   have HUL := hidI (unhex_half 32 x (by omega))
   clear hR ho hX h64
   unfold ndc
   go_enter Tryz.func88, Tryz.ntmps88
   go_wp2
   rw [← HW.out]
   refine wp_region_held_drew (S := fun wz => Below W1.heap.size W1 wz) (by kernel_rfl) ((Below.refl _ W1).drew) (fun hHeld => ?_)
   refine tkT 0 (some 78) (.pointer (some ⟨w.heap.size, 4, none⟩)) rfl rfl (fun _ _ => rfl) hHeld ?_
   simp only [Act.put, sb1, sz1, ss1]
   refine tkT 1 (some 79) (.slice (some ⟨gn, on, none⟩) 1 C) rfl rfl (fun wz hz => by have z0 := below_some hz nc4; unfold execOp; go_simp) hHeld ?_
   simp only [Act.put, sb1, sz1, ss1]
   refine tkT 2 (some 80) (.pointer (some ⟨gn, on + 0 * 5, none⟩)) rfl rfl (fun wz _ => run_at_nd _ _ rfl gn on 0 1 C rfl rfl (by decide) wz) hHeld ?_
   simp only [Act.put, sb1, sz1, ss1]
   refine tkT 3 (some 81) (.pointer (some ⟨gn, on + 0 * 5 + 1, none⟩)) rfl rfl (fun _ _ => rfl) hHeld ?_
   simp only [Act.put, sb1, sz1, ss1]
   refine tkT 4 (some 82) (.string (bs x)) rfl rfl (fun wz hz => by have z0 := below_some hz sxr; unfold execOp; go_simp) hHeld ?_
   simp only [Act.put, sb1, sz1, ss1]
   refine tkT 5 (some 83) (.int .i64 (X : Nat)) rfl rfl (fun wz _ => by unfold execOp; go_simp; rw [HX.out]) hHeld ?_
   simp only [Act.put, sb1, sz1, ss1]
   refine tkT 6 (some 84) (.bool true) rfl rfl (fun wz _ => run_eqC _ 64 rfl (X : Nat) rfl true hX64 wz) hHeld ?_
   simp only [Act.put, sb1, sz1, ss1]
   refine tkT 7 (some 85) (.pointer (some ⟨w.heap.size, 3, none⟩)) rfl rfl (fun _ _ => rfl) hHeld ?_
   simp only [Act.put, sb1, sz1, ss1]
   refine tkT 8 (some 86) (.int .i64 n.a) rfl rfl (fun wz hz => by have z0 := below_some hz nc3; unfold execOp; go_simp) hHeld ?_
   simp only [Act.put, sb1, sz1, ss1]
   refine callToP 9 (some 87) 86 #[.bool true, .int .i64 135, .int .i64 n.a] (by kernel_rfl) rfl rfl (by rfl) (by kernel_rfl) (need_yes 135 n.a W1.drew) ?_
   rintro e w5 ⟨rfl, rfl⟩
   refine .inl ⟨_, rfl, hHeld, ?_⟩
   simp only [Act.put, sb1, sz1, ss1]
   refine wpAnyH_done (by kernel_rfl) ?_ _
   have hbd : Below W1.heap.size W1 W1.drew := below_drew (Below.refl _ W1)
   have H2 := h1.keep hbd
   have S2 := S1.trans (Stp.of (cb := cb) (V := V) hbd)
   have N2 := has_drew N1
   have R2 := has_drew R1
   have M2 := has_drew M1
   replace sxr := below_some hbd sxr
   replace nc4 := below_some hbd nc4
   have hg2 : gn < W1.drew.heap.size := Nat.lt_of_lt_of_le hgn (Nat.le_trans hb1.size hbd.size)
   clear hHeld nc3 h1 S1 N1 R1 M1 hb1 HW hbd
   generalize W1.drew = W2 at *
   have nl2 := N2.lt
   have hux := HU.out W2
   go_wp2_with (first
    | ((refine at_dstL 90 rfl ?_)
       (refine wpList_is (some 90) (.pointer (some ⟨gn, on + 0 * 5, none⟩)) rfl (by rfl) (run_at_nd _ _ rfl gn on 0 1 C rfl rfl (by decide) W2) ?_))
    | ((go_at_call 119)
       (refine hux.mono ?_)
       (rintro e w5 ⟨v, rfl, ⟨Av, Cv, rfl, hv1, hv2, hvb⟩, hb5⟩)
       (rw [HUL.out] at hv1 ⊢)
       (have M5 := M2.below hb5 M2.lt)
       (have R5 := R2.below hb5 R2.lt)
       (have m0 := M5.cell 0)
       (have m1 := M5.cell 1)
       (have m2 := M5.cell 2)
       (have r0 := R5.cell 0)
       (have r1 := R5.cell 1)
       (have r2 := R5.cell 2)
       (simp only [ga1, gz1, gs1] at m0 m1 m2 r0 r1 r2)
       (have mf := M5.free 2)
       (have ml := M5.lt)
       (have g0 := R5.free 0)
       (have g1 := R5.free 1)
       (have g2 := R5.free 2)
       (have rl := R5.lt)))
   have H5 := H2.keep hb5
   have S5 := S2.trans (Stp.of (cb := cb) (V := V) hb5)
   have H6 := H5.other ⟨w.heap.size + 2, 2, none⟩ hmn (fun e => absurd e.2 (Nat.not_lt.2 (Nat.le_add_right _ _))) (.slice Av 32 Cv)
   have S6 := S5.set (q := ⟨w.heap.size + 2, 2, none⟩) (by show w.heap.size ≤ w.heap.size + 2; omega) (.slice Av 32 Cv)
   have R6 := R5.other (p := ⟨w.heap.size + 2, 2, none⟩) (by show w.heap.size + 1 ≠ w.heap.size + 2; omega) (.slice Av 32 Cv)
   have rl2 := M2.lt
   have hvb6 : BytsP (w5.setCell ⟨w.heap.size + 2, 2, none⟩ (.slice Av 32 Cv)) (fun g => W2.heap.size ≤ g) Av (unhex x) := hvb.keep (by simp) (fun k hk hP => ⟨Below.heap_setCell w5 _ _ k (by show k ≠ w.heap.size + 2; omega), hP⟩)
   refine ret_mn rfl rfl (R6.set3 _ _ _) rfl ?_
   have S7 := S6.set3 (g := w.heap.size + 1) (by omega) (.string (bs n.op)) (.int .i64 0) (.slice Av 32 Cv)
   have H7 := H6.other3 (w.heap.size + 1) hrn (fun e => absurd e.2 (Nat.not_lt.2 (Nat.le_add_right _ _))) (.string (bs n.op)) (.int .i64 0) (.slice Av 32 Cv)
   refine ⟨S7.only, ?_⟩
   rw [HR.out]
   refine ⟨.slice Av 32 Cv, V, rfl, ⟨Av, Cv, by rw [HUL.out], by rw [HUL.out]; exact hv1, hv2, ?_⟩, H7.mono (fun g _ _ he => .inl he.1), S7⟩
   refine hvb6.keep (by simp) (fun k hk hP => ⟨?_, fun e => ?_, .inr ?_⟩)
   · have hne : k ≠ w.heap.size + 1 := by omega
     exact (Below.heap_setCell _ ⟨w.heap.size + 1, 2, none⟩ _ k hne).trans ((Below.heap_setCell _ ⟨w.heap.size + 1, 1, none⟩ _ k hne).trans (Below.heap_setCell _ ⟨w.heap.size + 1, 0, none⟩ _ k hne))
   · have := (h.low e).2; omega
   · omega
 · have hX64 : (((X : Nat) : Int) == 64) = false := by rw [beq_eq_false_iff_ne]; omega
   rw [if_pos h64] at hR
   have HR := hidI hR
   clear hR ho hX
   unfold ndc
   go_enter Tryz.func88, Tryz.ntmps88
   go_wp2
   rw [← HW.out]
   refine wp_region_held_drew (S := fun wz => Below W1.heap.size W1 wz) (by kernel_rfl) ((Below.refl _ W1).drew) (fun hHeld => ?_)
   refine tkT 0 (some 78) (.pointer (some ⟨w.heap.size, 4, none⟩)) rfl rfl (fun _ _ => rfl) hHeld ?_
   simp only [Act.put, sb1, sz1, ss1]
   refine tkT 1 (some 79) (.slice (some ⟨gn, on, none⟩) 1 C) rfl rfl (fun wz hz => by have z0 := below_some hz nc4; unfold execOp; go_simp) hHeld ?_
   simp only [Act.put, sb1, sz1, ss1]
   refine tkT 2 (some 80) (.pointer (some ⟨gn, on + 0 * 5, none⟩)) rfl rfl (fun wz _ => run_at_nd _ _ rfl gn on 0 1 C rfl rfl (by decide) wz) hHeld ?_
   simp only [Act.put, sb1, sz1, ss1]
   refine tkT 3 (some 81) (.pointer (some ⟨gn, on + 0 * 5 + 1, none⟩)) rfl rfl (fun _ _ => rfl) hHeld ?_
   simp only [Act.put, sb1, sz1, ss1]
   refine tkT 4 (some 82) (.string (bs x)) rfl rfl (fun wz hz => by have z0 := below_some hz sxr; unfold execOp; go_simp) hHeld ?_
   simp only [Act.put, sb1, sz1, ss1]
   refine tkT 5 (some 83) (.int .i64 (X : Nat)) rfl rfl (fun wz _ => by unfold execOp; go_simp; rw [HX.out]) hHeld ?_
   simp only [Act.put, sb1, sz1, ss1]
   refine tkT 6 (some 84) (.bool false) rfl rfl (fun wz _ => run_eqC _ 64 rfl (X : Nat) rfl false hX64 wz) hHeld ?_
   simp only [Act.put, sb1, sz1, ss1]
   refine tkT 7 (some 85) (.pointer (some ⟨w.heap.size, 3, none⟩)) rfl rfl (fun _ _ => rfl) hHeld ?_
   simp only [Act.put, sb1, sz1, ss1]
   refine tkT 8 (some 86) (.int .i64 n.a) rfl rfl (fun wz hz => by have z0 := below_some hz nc3; unfold execOp; go_simp) hHeld ?_
   simp only [Act.put, sb1, sz1, ss1]
   refine callToP 9 (some 87) 86 #[.bool false, .int .i64 135, .int .i64 n.a] (by kernel_rfl) rfl rfl (by rfl) (by kernel_rfl) (need_no 135 n.a W1.drew) ?_
   rintro e w5 ⟨rfl, rfl⟩
   refine .inr ⟨_, rfl, ?_⟩
   exact ⟨rfl, S1.only.drew, by rw [HR.out]; rfl⟩
end
section
open Go.ChangeShapes Go.WideShapes Go.ChangeAt Go.RowKit Go.MapKept
variable {E : Nat → Prop}
theorem said_volume {w : World} {cb : Nat} {V : CV} {c : Ck} (h : CkAt E w cb V c) (n : Nd) (A : Option Addr) (L C : Nat) (hL : L = 1) (w0 : World) (gn on : Nat) (hA : A = some ⟨gn, on, none⟩) (hgn : gn < w.heap.size) (x : Nd) (An : Option Addr) (Cn : Nat) (hnx : nthN n.l 0 = x) (hat : NdAt w gn (on + 0 * 5) x An Cn) (hrx : RdN w0 x An Cn) (hcb : w0.heap.size ≤ cb - 1) (hb0 : Below w0.heap.size w0 w) (hxr : ExR 12 x) (hxc : ExprC cb w0 12) (hnm : NmOk c.names c.parts) (hby : ∀ x ∈ c.names, x.2.bytes.length ≤ 1000) (ho : n.op = wVolume) :
  Calls Tryz.prog 88 #[.pointer (some ⟨cb, 0, none⟩), .agg (ndc n (.slice A L C))] w (SdRes E w cb V (csaid c n)) := by
 obtain ⟨W1, hW1⟩ : ∃ W1, W1 = ((w.alloc (.cells #[.string (bs n.op), .string (bs n.s), .int .i64 n.n, .int .i64 n.a, .slice A L C] 24)).alloc (.cells #[.string ⟨#[]⟩, .int .i64 0, .slice none 0 0] 136)).alloc (.cells #[.string (bs n.op), .int .i64 0, .slice none 0 0] 136) := ⟨_, rfl⟩
 have hb1 : Below w.heap.size w W1 := by rw [hW1]; exact three_mn _ _ _
 have N1 : Has W1 w.heap.size 24 #[.string (bs n.op), .string (bs n.s), .int .i64 n.n, .int .i64 n.a, .slice A L C] := by rw [hW1]; exact ((Has.new w _ _).alloc _).alloc _
 have R1 : Has W1 (w.heap.size + 1) 136 #[.string ⟨#[]⟩, .int .i64 0, .slice none 0 0] := by rw [hW1]; exact (Has.new_at (by simp)).alloc _
 have M1 : Has W1 (w.heap.size + 2) 136 #[.string (bs n.op), .int .i64 0, .slice none 0 0] := by rw [hW1]; exact Has.new_at (by simp)
 have h1 := (e0_mono h).keep hb1
 have S1 : Stp cb V w V W1 := Stp.of hb1
 have HW := hidI hW1
 have lcb := h.has.lt
 have hrn : ¬ V.own cb (w.heap.size + 1) := fun e => by have := (h.low e).2; omega
 have hmn : ¬ V.own cb (w.heap.size + 2) := fun e => by have := (h.low e).2; omega
 have hot := bs_toList n.op
 have f0 : (n.op == [106, 111, 117, 114, 110, 97, 108]) = false := by rw [ho]; decide
 have f1 : (n.op == [100, 101, 118, 105, 99, 101]) = false := by rw [ho]; decide
 have f2 : (n.op == [107, 101, 121]) = false := by rw [ho]; decide
 have f3 : (n.op == [114, 111, 111, 116]) = false := by rw [ho]; decide
 have f4 : (n.op == [118, 111, 108, 117, 109, 101]) = true := by rw [ho]; decide
 have hR : csaid c n = match cexpr c.names 12 c.parts x with | .error e => .error e | .ok (k, ps) => .ok ({ c with parts := ps }, ⟨n.op, k, []⟩) := by
  unfold csaid
  rw [if_neg (show ¬ n.op = wJournal by rw [ho]; decide), if_neg (show ¬ n.op = wDevice by rw [ho]; decide), if_neg (show ¬ (n.op = wKey ∨ n.op = wRoot) by rw [ho]; decide), hnx]
  rfl
 subst hL hA
 have hat1 : NdAt W1 gn (on + 0 * 5) x An Cn := fun j hj => (hb1.cell (p := ⟨gn, on + 0 * 5 + j, none⟩) hgn).trans (hat j hj)
 have hcx := hxc _ W1 V c x An Cn h1 hrx hcb (hb0.trans (hb1.mono hb0.size)) hxr hnm hby
 have nc4 := N1.cell 4
 have nl1 := N1.lt
 simp only [ga1, gz1, gs1] at nc4
 clear hW1
 cases hX : cexpr c.names 12 c.parts x with
 | error er =>
   obtain ⟨ec, ek⟩ := er
   rw [hX] at hR hcx
   have HR := hidI hR
   clear hR ho hX
   unfold ndc at hcx
   unfold ndc
   go_enter Tryz.func88, Tryz.ntmps88
   go_wp2_with (first
    | ((refine at_dstL 97 rfl ?_)
       (rw [← HW.out])
       (refine wpList_is (some 97) (.slice (some ⟨gn, on, none⟩) 1 C) rfl (by rfl) (by unfold execOp; go_simp) ?_))
    | ((refine at_dstL 98 rfl ?_)
       (refine wpList_is (some 98) (.pointer (some ⟨gn, on + 0 * 5, none⟩)) rfl (by rfl) (run_at_nd _ _ rfl gn on 0 1 C rfl rfl (by decide) W1) ?_))
    | ((refine at_dstL 99 rfl ?_)
       (refine wpList_is (some 99) _ rfl (by rfl) (run_load_nd _ rfl gn (on + 0 * 5) rfl W1 hat1) ?_)
       (unfold nval))
    | ((go_at_call 120)
       (refine hcx.mono ?_)
       (rintro e w5 ⟨ho5, rfl⟩)))
   exact ⟨rfl, S1.only.trans ho5, by rw [HR.out]⟩
 | ok r =>
   obtain ⟨k, ps⟩ := r
   rw [hX] at hR hcx
   have HR := hidI hR
   clear hR ho hX
   unfold ndc at hcx
   unfold ndc
   go_enter Tryz.func88, Tryz.ntmps88
   go_wp2_with (first
    | ((refine at_dstL 97 rfl ?_)
       (rw [← HW.out])
       (refine wpList_is (some 97) (.slice (some ⟨gn, on, none⟩) 1 C) rfl (by rfl) (by unfold execOp; go_simp) ?_))
    | ((refine at_dstL 98 rfl ?_)
       (refine wpList_is (some 98) (.pointer (some ⟨gn, on + 0 * 5, none⟩)) rfl (by rfl) (run_at_nd _ _ rfl gn on 0 1 C rfl rfl (by decide) W1) ?_))
    | ((refine at_dstL 99 rfl ?_)
       (refine wpList_is (some 99) _ rfl (by rfl) (run_load_nd _ rfl gn (on + 0 * 5) rfl W1 hat1) ?_)
       (unfold nval))
    | ((go_at_call 120)
       (refine hcx.mono ?_)
       (rintro e w5 ⟨ho5, rfl, V5, H5, S5⟩)
       (have M5 : Has w5 (w.heap.size + 2) 136 #[.string (bs n.op), .int .i64 0, .slice none 0 0] := (S5.inner _ M1.lt hmn).1.trans M1)
       (have R5 : Has w5 (w.heap.size + 1) 136 #[.string ⟨#[]⟩, .int .i64 0, .slice none 0 0] := (S5.inner _ R1.lt hrn).1.trans R1)
       (have m0 := M5.cell 0)
       (have m1 := M5.cell 1)
       (have m2 := M5.cell 2)
       (have r0 := R5.cell 0)
       (have r1 := R5.cell 1)
       (have r2 := R5.cell 2)
       (simp only [ga1, gz1, gs1] at m0 m1 m2 r0 r1 r2)
       (have mf := M5.free 1)
       (have ml := M5.lt)
       (have g0 := R5.free 0)
       (have g1 := R5.free 1)
       (have g2 := R5.free 2)
       (have rl := R5.lt)))
   have hmn5 := (S5.inner _ M1.lt hmn).2
   have hrn5 := (S5.inner _ R1.lt hrn).2
   have lm1 := M1.lt
   have H6 := (H5.mono (E' := fun g => (E g ∧ g < w.heap.size) ∨ w.heap.size + 2 < g) (fun g _ _ he => by
    rcases he with he | he
    · exact .inl he
    · exact .inr (by omega))).other ⟨w.heap.size + 2, 1, none⟩ hmn5 (fun e => by
      rcases e with e | e
      · exact absurd e.2 (Nat.not_lt.2 (Nat.le_add_right _ _))
      · exact absurd e (Nat.lt_irrefl _)) (.int .i64 (k : Nat))
   have S6 := (S1.trans S5).set (q := ⟨w.heap.size + 2, 1, none⟩) (by show w.heap.size ≤ w.heap.size + 2; omega) (.int .i64 (k : Nat))
   have R6 := R5.other (p := ⟨w.heap.size + 2, 1, none⟩) (by show w.heap.size + 1 ≠ w.heap.size + 2; omega) (.int .i64 (k : Nat))
   refine ret_mn rfl rfl (R6.set3 _ _ _) rfl ?_
   have S7 := S6.set3 (g := w.heap.size + 1) (by omega) (.string (bs n.op)) (.int .i64 (k : Nat)) (.slice none 0 0)
   have H7 := H6.other3 (w.heap.size + 1) hrn5 (fun e => by
    rcases e with e | e
    · exact absurd e.2 (Nat.not_lt.2 (Nat.le_add_right _ _))
    · exact absurd e (by show ¬ w.heap.size + 2 < w.heap.size + 1; omega)) (.string (bs n.op)) (.int .i64 (k : Nat)) (.slice none 0 0)
   refine ⟨S7.only, ?_⟩
   rw [HR.out]
   exact ⟨.slice none 0 0, V5, rfl, nil_mn rfl, H7.mono (fun g _ _ he => by
    rcases he with he | he
    · exact .inl he.1
    · exact .inr (by omega)), S7⟩
end
section
open Go.ChangeShapes Go.WideShapes Go.ChangeAt Go.RowKit Go.MapKept
variable {E : Nat → Prop}
theorem expr_use {w : World} {cb : Nat} {V : CV} {c : Ck} (h : CkAt E w cb V c) (n : Nd) (A : Option Addr) (L C d : Nat) (ho : n.op = wUse) : Calls Tryz.prog 120 #[.pointer (some ⟨cb, 0, none⟩), .agg (ndc n (.slice A L C))] w (XRes E w cb V c (cexpr c.names (d + 1) c.parts n)) := by
 have hR : cexpr c.names (d + 1) c.parts n = match known c.names n [wDevice, wVolume] with | .error e => .error e | .ok m => .ok (m.node, c.parts) := by
  show (if n.op = wUse then _ else _) = _
  rw [if_pos ho]; rfl
 rw [hR]
 have f0 : (n.op == [117, 115, 101]) = true := by rw [ho]; decide
 have hot := bs_toList n.op
 obtain ⟨W1, hW1⟩ : ∃ W1, W1 = (w.alloc (.cells #[.string (bs n.op), .string (bs n.s), .int .i64 n.n, .int .i64 n.a, .slice A L C] 24)).alloc (.cells #[.string ⟨#[100, 101, 118, 105, 99, 101]⟩, .string ⟨#[118, 111, 108, 117, 109, 101]⟩] 9) := ⟨_, rfl⟩
 have hb1 : Below w.heap.size w W1 := by rw [hW1]; exact b_two w _ _
 have hkn := known_c (h.keep hb1) n A L C [wDevice, wVolume] (.slice (some ⟨w.heap.size + 1, 0, none⟩) 2 2) (.inr ⟨w.heap.size + 1, rfl, by rw [hW1]; exact Has.new_at (by simp)⟩) (by simp)
 rw [hW1] at hkn
 have HW : Hid (W1 = (w.alloc (.cells #[.string (bs n.op), .string (bs n.s), .int .i64 n.n, .int .i64 n.a, .slice A L C] 24)).alloc (.cells #[.string ⟨#[100, 101, 118, 105, 99, 101]⟩, .string ⟨#[118, 111, 108, 117, 109, 101]⟩] 9)) := hW1
 clear hW1 hR ho
 cases hK : known c.names n [wDevice, wVolume] with
 | error er =>
   obtain ⟨ec, ek⟩ := er
   rw [hK] at hkn
   clear hK
   unfold ndc at hkn ⊢
   go_enter Tryz.func120, Tryz.ntmps120
   go_wp2_with (first
    | ((go_at_call 117)
       (refine hkn.mono ?_)
       (rintro e w2 ⟨hb2, rfl⟩)))
   rw [← HW.out] at hb2
   exact ⟨rfl, .of (hb1.trans (hb2.mono hb1.size)), rfl⟩
 | ok m =>
   rw [hK] at hkn
   clear hK
   unfold ndc at hkn ⊢
   go_enter Tryz.func120, Tryz.ntmps120
   go_wp2_with (first
    | ((go_at_call 117)
       (refine hkn.mono ?_)
       (rintro e w2 ⟨hb2, Am, Cm, rfl, hm1, hm2, hbp⟩)
       (unfold mnv))
    | ((refine at_dstL 16 rfl ?_)
       (refine wpList_is (some 16) (.int .i64 (m.node : Nat)) rfl (by rfl) (by kernel_rfl) ?_)))
   go_ret
   rw [← HW.out] at hb2
   have hb02 : Below w.heap.size w w2 := hb1.trans (hb2.mono hb1.size)
   exact ⟨.of hb02, rfl, V, (h.keep hb02).mono (fun k _ _ he => .inl he), Stp.of hb02⟩
end
section
open Go.ChangeShapes Go.WideShapes Go.ChangeAt Go.RowKit Go.MapKept
structure KsAt (E : Nat → Prop) (W1 wr : World) (cb : Nat) (V V' : CV) (c : Ck) (d : Nat) (l : List Nd) (i : Nat) (v : Value) (ks : List Nat) (ps : List Pt) : Prop where
 is : ckids (cexpr c.names d) c.parts ((l.take i).filter fun x => !(x.op == wNum || x.op == wName)) = .ok (ks, ps)
 row : wr.ownsRow W1.heap.size 3 1 v ks.length (ks.map fun k => .int .i64 (k : Nat))
 free : ∀ g, v.ownBlock = some g → ¬ V'.own cb g
 ck : CkAt (fun g => (E g ∨ W1.heap.size ≤ g) ∧ v.ownBlock ≠ some g) wr cb V' { c with parts := ps }
 stp : Stp cb V W1 V' wr
 nms : NmOk c.names ps
theorem KsAt.step {E : Nat → Prop} {W1 wr w5 w6 : World} {cb : Nat} {V V' V5 : CV} {c : Ck} {d : Nat} {l : List Nd} {i : Nat} {v : Value} {ks : List Nat} {ps p5 : List Pt} {k : Nat} {o : Obj} {A6 : Option Addr} {C6 : Nat} (h : KsAt E W1 wr cb V V' c d l i v ks ps) (hi : i < l.length) (hx : (l[i].op == wNum || l[i].op == wName) = false) (hk : cexpr c.names d ps l[i] = .ok (k, p5))
  (h5 : CkAt (fun g => ((E g ∨ W1.heap.size ≤ g) ∧ v.ownBlock ≠ some g) ∨ (wr.alloc o).heap.size ≤ g) w5 cb V5 { c with parts := p5 }) (s5 : Stp cb V' (wr.alloc o) V5 w5) (hn5 : NmOk c.names p5)
  (hr6 : w6.ownsRow W1.heap.size 3 1 (.slice A6 (ks.length + 1) C6) (ks.length + 1) (ks.map (fun k => .int .i64 (k : Nat)) ++ [.int .i64 (k : Nat)])) (hg6 : (w5.alloc (.cells #[.int .i64 (k : Nat)] 3)).grownBy w6 v.ownBlock) (hw6 : (Value.slice A6 (ks.length + 1) C6).ownBlock = v.ownBlock ∨ (Value.slice A6 (ks.length + 1) C6).ownBlock = some (w5.alloc (.cells #[.int .i64 (k : Nat)] 3)).heap.size) :
  KsAt E W1 w6 cb V V5 c d l (i + 1) (.slice A6 (ks.length + 1) C6) (ks ++ [k]) p5 := by
 have hvl : ∀ g, v.ownBlock = some g → W1.heap.size ≤ g ∧ g < wr.heap.size := fun g e => (row_lt h.row e).symm
 have hs1 : wr.heap.size < (wr.alloc o).heap.size := by simp
 have hs5 := s5.only.size
 have hin : ∀ g, v.ownBlock = some g → ¬ V5.own cb g := fun g e => (s5.inner g (by have := (hvl g e).2; omega) (h.free g e)).2
 have hb5 := b_one w5 (.cells #[.int .i64 (k : Nat)] 3)
 have hsz5 : (w5.alloc (.cells #[.int .i64 (k : Nat)] 3)).heap.size = w5.heap.size + 1 := by simp
 have h5' : CkAt (fun g => (E g ∨ W1.heap.size ≤ g) ∧ v.ownBlock ≠ some g ∧ g ≠ (w5.alloc (.cells #[.int .i64 (k : Nat)] 3)).heap.size) (w5.alloc (.cells #[.int .i64 (k : Nat)] 3)) cb V5 { c with parts := p5 } := by
  refine (h5.keep hb5).mono (fun g hg hn he => ?_)
  refine ⟨?_, ?_, by omega⟩
  · rcases he with he | he
    · exact he.1
    · exact .inr (Nat.le_trans (Nat.le_trans h.stp.only.size (Nat.le_of_lt hs1)) he)
  · rcases he with he | he
    · exact he.2
    · intro e
      have := (hvl g e).2
      omega
 have h6 := h5'.grown hg6 hin (fun g he => he.2.1)
 refine ⟨?_, by rw [List.length_append, List.length_singleton, List.map_append, List.map_cons, List.map_nil]; exact hr6, fun g e => ?_, h6.mono (fun g hg hn he => ⟨he.1, fun e => ?_⟩), ?_, hn5⟩
 · rw [kids_snoc l hi, hx]
   simp only [Bool.false_eq_true, if_false]
   rw [ckids_snoc, h.is]
   simp only
   rw [hk]
 · rcases hw6 with q | q
   · exact hin g (q ▸ e)
   · rw [q] at e
     cases e
     intro ho
     have := (h5.low ho).2
     omega
 · rcases hw6 with q | q
   · exact he.2.1 (q ▸ e)
   · rw [q] at e
     cases e
     exact he.2.2 rfl
 · exact ((h.stp.trans ((Stp.of (b_one wr o)).trans s5)).trans (Stp.of hb5)).grown hg6 (fun g e => (hvl g e).1)
theorem KsAt.pass {E : Nat → Prop} {W1 wr : World} {cb : Nat} {V V' : CV} {c : Ck} {d : Nat} {l : List Nd} {i : Nat} {v : Value} {ks : List Nat} {ps : List Pt} {o : Obj} (h : KsAt E W1 wr cb V V' c d l i v ks ps) (hi : i < l.length) (hx : (l[i].op == wNum || l[i].op == wName) = true) : KsAt E W1 (wr.alloc o) cb V V' c d l (i + 1) v ks ps := by
 refine ⟨?_, row_grown h.row (fun g ob e ho => (Below.heap_alloc wr o g (Array.getElem?_eq_some_iff.1 ho).1).trans ho), h.free, h.ck.alloc o, h.stp.trans (Stp.of (b_one wr o)), h.nms⟩
 rw [kids_snoc l hi, hx]
 simp only [if_true, List.append_nil]
 exact h.is
end
section
open Go.ChangeShapes Go.WideShapes Go.ChangeAt Go.RowKit Go.MapKept
variable {E : Nat → Prop}
theorem cpart_c {w : World} {cb : Nat} {V : CV} {c : Ck} {ks : List Nat} {bk ok Ck : Nat} (hI : PIn E w cb V c ks bk ok Ck) (n : Nd) (A : Option Addr) (C : Nat) (hr : RdN w n A C) (hs : ExS n) (hk : ks.length = (kidsOf n).length) (hn : NmOk c.names c.parts) (hby : ∀ x ∈ c.names, x.2.bytes.length ≤ 1000) :
  Calls Tryz.prog 144 #[.pointer (some ⟨cb, 0, none⟩), .agg (ndc n (.slice A n.l.length C)), .slice (some ⟨bk, ok, none⟩) ks.length Ck] w (PtRes w (noK (cpart c.names c.parts n ks))) := by
 rcases hs.word with ho | ho | ho | ho
 · obtain ⟨h1, h2, h3⟩ := hs.lin ho
   exact part_linear hI n A C hr ho h1 h2 h3
 · exact part_several hI n A C hr ho
 · obtain ⟨h1, h2⟩ := hs.snap ho
   exact part_snapshot hI n A C hr ho h1 (by rw [hk]; exact hs.shape.snap ho) h2
 · exact part_secured hI n A C hr ho (hs.sec ho) hn hby
theorem add_c {w : World} {cb : Nat} {V : CV} {c : Ck} (h : CkAt E w cb V c) (p : Pt) (Ak : Option Addr) (Ck : Nat) (A2 : Option Addr) (C2 : Nat) (A3 : Option Addr) (C3 : Nat) (hu : PtIn w (fun g => ¬ V.own cb g ∧ E g) p (.slice Ak p.kids.length Ck, .slice A2 p.key.length C2, .slice A3 p.root.length C3)) (hkids : ∀ k ∈ p.kids, k < c.parts.length) (hkl : p.kids.length ≤ 1000) (h52 : p.kind = 5 → p.kids.length = 2) (hfew : c.parts.length ≤ 90000) :
  Calls Tryz.prog 84 #[.pointer (some ⟨cb, 0, none⟩), .agg #[.int .i64 (p.kind : Nat), .int .i64 (p.size : Nat), .slice Ak p.kids.length Ck, .int .i64 (p.dev : Nat), .int .i64 (p.first : Nat), .int .i64 (p.chunk : Nat), .slice A2 p.key.length C2, .slice A3 p.root.length C3]] w (AddR E w cb V c p) := by
 by_cases h5 : p.kind = 5
 · exact add_snapshot h p Ak Ck A2 C2 A3 C3 hu hkids hkl h5 (h52 h5) hfew
 · by_cases h8 : p.kind = 8
   · exact add_verity h p Ak Ck A2 C2 A3 C3 hu hkids hkl h8 hfew
   · exact add_plain h p Ak Ck A2 C2 A3 C3 hu hkids hkl h5 h8 hfew
end
end Go.Proofs.YthndifegfmjpbaaGreatDoor
