/- Texts that the statements of this stage share, joined. -/
import Derived.Test.YthndifegfmjpbaaGreatDoorJoint28
namespace Go.Proofs.YthndifegfmjpbaaGreatDoor
set_option linter.unusedVariables false
set_option maxRecDepth 100000
set_option maxHeartbeats 40000000
section
open Go.ChangeShapes Go.WideShapes Go.ChangeAt Go.RowKit Go.MapKept
variable {E : Nat → Prop}
theorem said_device {w : World} {cb : Nat} {V : CV} {c : Ck} (h : CkAt E w cb V c) (n : Nd) (A : Option Addr) (L C : Nat) (ho : n.op = wDevice) (hdv : c.devs.length ≤ 90000) :
  Calls Tryz.prog 88 #[.pointer (some ⟨cb, 0, none⟩), .agg (ndc n (.slice A L C))] w (SdRes E w cb V (csaid c n)) := by
 obtain ⟨W1, hW1⟩ : ∃ W1, W1 = ((w.alloc (.cells #[.string (bs n.op), .string (bs n.s), .int .i64 n.n, .int .i64 n.a, .slice A L C] 24)).alloc (.cells #[.string ⟨#[]⟩, .int .i64 0, .slice none 0 0] 136)).alloc (.cells #[.string (bs n.op), .int .i64 0, .slice none 0 0] 136) := ⟨_, rfl⟩
 have hb1 : Below w.heap.size w W1 := by rw [hW1]; exact three_mn _ _ _
 have N1 : Has W1 w.heap.size 24 #[.string (bs n.op), .string (bs n.s), .int .i64 n.n, .int .i64 n.a, .slice A L C] := by rw [hW1]; exact ((Has.new w _ _).alloc _).alloc _
 have R1 : Has W1 (w.heap.size + 1) 136 #[.string ⟨#[]⟩, .int .i64 0, .slice none 0 0] := by rw [hW1]; exact (Has.new_at (by simp)).alloc _
 have M1 : Has W1 (w.heap.size + 2) 136 #[.string (bs n.op), .int .i64 0, .slice none 0 0] := by rw [hW1]; exact Has.new_at (by simp)
 have h1 := (e0_mono h).keep hb1
 have S1 : Stp cb V w V W1 := Stp.of hb1
 have HW := hidI hW1
 have lcb := h.has.lt
 have hrn : ¬ V.own cb (w.heap.size + 1) := fun e => by have := (h.low e).2; omega
 have hmn : ¬ V.own cb (w.heap.size + 2) := fun e => by have := (h.low e).2; omega
 have hot := bs_toList n.op
 have f0 : (n.op == [106, 111, 117, 114, 110, 97, 108]) = false := by rw [ho]; decide
 have f1 : (n.op == [100, 101, 118, 105, 99, 101]) = true := by rw [ho]; decide
 have f2 : (n.op == [107, 101, 121]) = false := by rw [ho]; decide
 have f3 : (n.op == [114, 111, 111, 116]) = false := by rw [ho]; decide
 have f4 : (n.op == [118, 111, 108, 117, 109, 101]) = false := by rw [ho]; decide
 have hR : csaid c n = if ¬ (1 ≤ n.n ∧ n.n ≤ 2048) then .error (134, n.a) else .ok ({ c with devs := c.devs ++ [n.n.toNat] }, ⟨n.op, cntN c.names [wDevice], []⟩) := by
  unfold csaid
  rw [if_neg (show ¬ n.op = wJournal by rw [ho]; decide), if_pos ho]
 clear hW1
 by_cases h12 : 1 ≤ n.n ∧ n.n ≤ 2048
 · rw [if_neg (not_not_intro h12)] at hR
   have HR := hidI hR
   obtain ⟨k1, k2⟩ := h12
   clear hR ho
   have hny := need_yes 134 n.a W1
   unfold ndc
   go_enter Tryz.func88, Tryz.ntmps88
   have hah := ahead_c (h1.alloc (.cells #[.string ⟨#[100, 101, 118, 105, 99, 101]⟩] 9)) [wDevice] (.slice (some ⟨W1.heap.size, 0, none⟩) 1 1) (.inr ⟨W1.heap.size, rfl, Has.new_at rfl⟩) (by simp)
   obtain ⟨CN, hCN⟩ : ∃ CN, CN = cntN c.names [wDevice] := ⟨_, rfl⟩
   have HCN := hidI hCN
   obtain ⟨DL, hDL⟩ : ∃ DL, DL = c.devs.length := ⟨_, rfl⟩
   have HDL := hidI hDL
   have hdl : DL ≤ 90000 := by rw [hDL]; exact hdv
   change Calls _ _ _ _ (fun e w' => e = .returned (.int .i64 (cntN c.names [wDevice] : Nat)) ∧ Below (W1.alloc (.cells #[.string ⟨#[100, 101, 118, 105, 99, 101]⟩] 9)).heap.size (W1.alloc (.cells #[.string ⟨#[100, 101, 118, 105, 99, 101]⟩] 9)) w') at hah
   rw [← hCN] at hah
   clear hCN hDL
   have HMM := hidI (fun w2 (hb : Below (W1.alloc (.cells #[.string ⟨#[100, 101, 118, 105, 99, 101]⟩] 9)).heap.size (W1.alloc (.cells #[.string ⟨#[100, 101, 118, 105, 99, 101]⟩] 9)) w2) => (b_one W1 (.cells #[.string ⟨#[100, 101, 118, 105, 99, 101]⟩] 9)).trans (hb.mono (by simp)))
   go_wp2_with (first
    | ((go_at_call 86)
       (first | rw [← HW.out] | skip)
       (refine hny.mono ?_)
       (rintro e w3 ⟨rfl, hw3⟩)
       (obtain rfl : W1 = w3 := hw3.symm))
    | ((go_at_call 118)
       (refine hah.mono ?_)
       (rintro e w2 ⟨rfl, hb2'⟩)
       (have hb2 := HMM.out w2 hb2')
       (have M2 := M1.below hb2 M1.lt)
       (have m1 := M2.cell 1)
       (have g1 := M2.free 1)
       (have ml := M2.lt)))
   have H2 := h1.keep hb2
   have S2 := S1.trans (Stp.of (cb := cb) (V := V) hb2)
   have N2 := N1.below hb2 N1.lt
   have R2 := R1.below hb2 R1.lt
   have H3 := H2.other ⟨w.heap.size + 2, 1, none⟩ hmn (fun e => absurd e.2 (Nat.not_lt.2 (Nat.le_add_right _ _))) (.int .i64 (CN : Nat))
   have S3 := S2.set (q := ⟨w.heap.size + 2, 1, none⟩) (by show w.heap.size ≤ w.heap.size + 2; omega) (.int .i64 (CN : Nat))
   have N3 := N2.other (p := ⟨w.heap.size + 2, 1, none⟩) (by show w.heap.size ≠ w.heap.size + 2; omega) (.int .i64 (CN : Nat))
   have R3 := R2.other (p := ⟨w.heap.size + 2, 1, none⟩) (by show w.heap.size + 1 ≠ w.heap.size + 2; omega) (.int .i64 (CN : Nat))
   have M3 : Has (w2.setCell ⟨w.heap.size + 2, 1, none⟩ (.int .i64 (CN : Nat))) (w.heap.size + 2) 136 #[.string (bs n.op), .int .i64 (CN : Nat), .slice none 0 0] := M2.putP 1 _
   generalize w2.setCell ⟨w.heap.size + 2, 1, none⟩ (.int .i64 (CN : Nat)) = W3 at *
   have c0 := H3.has.cell 0
   have n2 := N3.cell 2
   simp only [ga1, gz1, gs1] at c0 n2
   clear m1 g1 ml hb2 hb2' H2 S2 N2 R2 M2 hah HMM
   refine lastTo (S := fun wz => wz.cell? ⟨cb, 0, none⟩ = some V.vd ∧ wz.cell? ⟨w.heap.size, 2, none⟩ = some (.int .i64 n.n)) 13 (by kernel_rfl) (⟨c0, n2⟩) (fun hHeld => ?_)
   refine tkL 0 (some 65) (.pointer (some ⟨cb, 0, none⟩)) rfl rfl (fun _ _ => rfl) hHeld ?_
   simp only [Act.put, sb1, sz1, ss1]
   refine tkL 1 (some 66) (.pointer (some ⟨cb, 0, none⟩)) rfl rfl (fun _ _ => rfl) hHeld ?_
   simp only [Act.put, sb1, sz1, ss1]
   refine tkL 2 (some 67) (.pointer (some ⟨cb, 0, none⟩)) rfl rfl (fun _ _ => rfl) hHeld ?_
   simp only [Act.put, sb1, sz1, ss1]
   refine tkL 3 (some 68) (.pointer (some ⟨cb, 0, none⟩)) rfl rfl (fun _ _ => rfl) hHeld ?_
   simp only [Act.put, sb1, sz1, ss1]
   refine tkL 4 (some 69) (.pointer (some ⟨cb, 0, none⟩)) rfl rfl (fun _ _ => rfl) hHeld ?_
   simp only [Act.put, sb1, sz1, ss1]
   refine tkL 5 (some 70) (V.vd) rfl rfl (fun wz hz => by obtain ⟨z0, z1⟩ := hz; unfold execOp; go_simp) hHeld ?_
   simp only [Act.put, sb1, sz1, ss1]
   refine tkL 6 (some 71) (.pointer (some ⟨w.heap.size, 2, none⟩)) rfl rfl (fun _ _ => rfl) hHeld ?_
   simp only [Act.put, sb1, sz1, ss1]
   refine tkL 7 (some 72) (.int .i64 n.n) rfl rfl (fun wz hz => by obtain ⟨z0, z1⟩ := hz; unfold execOp; go_simp) hHeld ?_
   simp only [Act.put, sb1, sz1, ss1]
   have hS2 : (W3.drew.alloc (.cells #[.int .i64 n.n] 3)).cell? ⟨cb, 0, none⟩ = some V.vd ∧ (W3.drew.alloc (.cells #[.int .i64 n.n] 3)).cell? ⟨w.heap.size, 2, none⟩ = some (.int .i64 n.n) := ⟨below_some (b_one W3.drew _) hHeld.1, below_some (b_one W3.drew _) hHeld.2⟩
   refine valL 8 (some 73) (.slice (some ⟨W3.heap.size, 0, none⟩) 1 1) (W3.drew.alloc (.cells #[.int .i64 n.n] 3)) (by kernel_rfl) rfl rfl (by rfl) (by kernel_rfl) hS2 ?_
   simp only [Act.put, sb1, sz1, ss1]
   have hb4 : Below W3.heap.size W3 (W3.drew.alloc (.cells #[.int .i64 n.n] 3)) := (below_drew (Below.refl _ W3)).trans (b_one W3.drew _)
   have G3 := H3.keep hb4
   obtain ⟨A6, C6, w6, hr6, hrow6, hg6, hw6⟩ := append_one kInts (ty := 29) (W3.drew.alloc (.cells #[.int .i64 n.n] 3)) cb DL _ _ (by have := G3.devs; rw [← HDL.out] at this; exact this) (by have := G3.has.lt; omega) (by omega) [.int .i64 n.n] rfl (by intro u hu; simp at hu; subst hu; rfl) W3.heap.size (Has.new_at rfl)
   have N6 : Has w6 w.heap.size 24 #[.string (bs n.op), .string (bs n.s), .int .i64 n.n, .int .i64 n.a, .slice A L C] := grown_has ((has_drew N3).alloc _) hg6 (row_has_ne G3.devs ((has_drew N3).alloc _) (by decide))
   have R6 : Has w6 (w.heap.size + 1) 136 #[.string ⟨#[]⟩, .int .i64 0, .slice none 0 0] := grown_has ((has_drew R3).alloc _) hg6 (row_has_ne G3.devs ((has_drew R3).alloc _) (by decide))
   have M6 := grown_has ((has_drew M3).alloc (.cells #[.int .i64 n.n] 3)) hg6 (row_has_ne G3.devs ((has_drew M3).alloc _) (by decide))
   have cb6h := grown_has G3.has hg6 (row_has_ne G3.devs G3.has (by decide))
   have hS6 : w6.cell? ⟨cb, 0, none⟩ = some V.vd ∧ w6.cell? ⟨w.heap.size, 2, none⟩ = some (.int .i64 n.n) := ⟨cb6h.cell 0, N6.cell 2⟩
   refine valL 9 (some 74) (.slice A6 (DL + 1) C6) w6 (by kernel_rfl) rfl rfl (by rfl) (run_app_is _ _ rfl rfl rfl hr6) hS6 ?_
   simp only [Act.put, sb1, sz1, ss1]
   refine valL 10 (some 75) (.pointer (some ⟨cb, 0, none⟩)) w6 (by kernel_rfl) rfl rfl (by rfl) rfl hS6 ?_
   simp only [Act.put, sb1, sz1, ss1]
   refine valL 11 (some 76) (.pointer (some ⟨cb, 0, none⟩)) w6 (by kernel_rfl) rfl rfl (by rfl) rfl hS6 ?_
   simp only [Act.put, sb1, sz1, ss1]
   refine valL 12 (some 77) (.pointer (some ⟨cb, 0, none⟩)) w6 (by kernel_rfl) rfl rfl (by rfl) rfl hS6 ?_
   simp only [Act.put, sb1, sz1, ss1]
   have q6 := cb6h.cell 0
   have f6 := cb6h.free 0
   refine lastSkip 13 none (w6.setCell ⟨cb, 0, none⟩ (.slice A6 (DL + 1) C6)) (by kernel_rfl) rfl rfl (by rfl) (by unfold execOp; go_simp) (by kernel_rfl) ?_
   simp only [Act.put]
   have hvn : (Value.int .i64 n.n) = .int .i64 ((n.n.toNat : Nat) : Int) := by congr 1; omega
   rw [hvn] at hrow6
   have hPD := G3.putDev (A6 := A6) (C6 := C6) (d := n.n.toNat) hg6 (by have := hrow6; rw [HDL.out] at this; exact this) (by have := hw6; rw [HDL.out] at this; exact this) hdv
   have H4 : CkAt (fun g => E g ∧ g < w.heap.size) (w6.setCell ⟨cb, 0, none⟩ (.slice A6 (DL + 1) C6)) cb { V with vd := .slice A6 (DL + 1) C6 } { c with devs := c.devs ++ [n.n.toNat] } := by rw [HDL.out]; exact hPD.1
   have S4 : Stp cb V (W3.drew.alloc (.cells #[.int .i64 n.n] 3)) { V with vd := .slice A6 (DL + 1) C6 } (w6.setCell ⟨cb, 0, none⟩ (.slice A6 (DL + 1) C6)) := by rw [HDL.out]; exact hPD.2
   have hrn4 := (S4.inner (w.heap.size + 1) (by have := M3.lt; simp; omega) hrn).2
   have S5 := (S3.trans (Stp.of (cb := cb) (V := V) hb4)).trans S4
   have R5 := R6.other (p := ⟨cb, 0, none⟩) (by show w.heap.size + 1 ≠ cb; omega) (.slice A6 (DL + 1) C6)
   have M5 := M6.other (p := ⟨cb, 0, none⟩) (by show w.heap.size + 2 ≠ cb; omega) (.slice A6 (DL + 1) C6)
   clear hPD S4
   generalize w6.setCell ⟨cb, 0, none⟩ (.slice A6 (DL + 1) C6) = W5 at *
   have m0 := M5.cell 0
   have m1 := M5.cell 1
   have m2 := M5.cell 2
   simp only [ga1, gz1, gs1] at m0 m1 m2
   have r0 := R5.cell 0
   have r1 := R5.cell 1
   have r2 := R5.cell 2
   simp only [ga1, gz1, gs1] at r0 r1 r2
   have g0 := R5.free 0
   have g1 := R5.free 1
   have g2 := R5.free 2
   have rl := R5.lt
   have mlt := M5.lt
   clear q6 f6 hS6 hS2 hHeld cb6h M6 R6 N6 hrow6 hr6 hg6 hw6 G3 c0 n2 hb4
   go_wp2
   refine ret_mn rfl rfl (R5.set3 _ _ _) rfl ?_
   have S6 := S5.set3 (g := w.heap.size + 1) (by omega) (.string (bs n.op)) (.int .i64 (CN : Nat)) (.slice none 0 0)
   have H6 := H4.other3 (w.heap.size + 1) hrn4 (fun e => absurd e.2 (Nat.not_lt.2 (Nat.le_add_right _ _))) (.string (bs n.op)) (.int .i64 (CN : Nat)) (.slice none 0 0)
   refine ⟨S6.only, ?_⟩
   rw [HR.out]
   exact ⟨.slice none 0 0, _, by rw [← HCN.out]; rfl, nil_mn rfl, H6.mono (fun g _ _ he => .inl he.1), S6⟩
 · rw [if_pos h12] at hR
   have HR := hidI hR
   have hno := need_no 134 n.a W1
   rcases (by omega : ¬ 1 ≤ n.n ∨ (1 ≤ n.n ∧ ¬ n.n ≤ 2048)) with k1 | ⟨k1, k2⟩
   all_goals
    clear h12 hR ho
    unfold ndc
    go_enter Tryz.func88, Tryz.ntmps88
    go_wp2_with (first
     | ((go_at_call 86)
        (first | rw [← HW.out] | skip)
        (refine hno.mono ?_)
        (rintro e w3 ⟨rfl, hw3⟩)
        (obtain rfl : W1 = w3 := hw3.symm)))
    exact ⟨rfl, S1.only, by rw [HR.out]; rfl⟩
end
section
open Go.ChangeShapes Go.WideShapes Go.ChangeAt Go.RowKit Go.MapKept
variable {E : Nat → Prop}
theorem said_journal {w : World} {cb : Nat} {V : CV} {c : Ck} (h : CkAt E w cb V c) (n : Nd) (A : Option Addr) (L C : Nat) (ho : n.op = wJournal) (hdv : c.devs.length ≤ 90000) :
  Calls Tryz.prog 88 #[.pointer (some ⟨cb, 0, none⟩), .agg (ndc n (.slice A L C))] w (SdRes E w cb V (csaid c n)) := by
 obtain ⟨W1, hW1⟩ : ∃ W1, W1 = ((w.alloc (.cells #[.string (bs n.op), .string (bs n.s), .int .i64 n.n, .int .i64 n.a, .slice A L C] 24)).alloc (.cells #[.string ⟨#[]⟩, .int .i64 0, .slice none 0 0] 136)).alloc (.cells #[.string (bs n.op), .int .i64 0, .slice none 0 0] 136) := ⟨_, rfl⟩
 have hb1 : Below w.heap.size w W1 := by rw [hW1]; exact three_mn _ _ _
 have N1 : Has W1 w.heap.size 24 #[.string (bs n.op), .string (bs n.s), .int .i64 n.n, .int .i64 n.a, .slice A L C] := by rw [hW1]; exact ((Has.new w _ _).alloc _).alloc _
 have R1 : Has W1 (w.heap.size + 1) 136 #[.string ⟨#[]⟩, .int .i64 0, .slice none 0 0] := by rw [hW1]; exact (Has.new_at (by simp)).alloc _
 have M1 : Has W1 (w.heap.size + 2) 136 #[.string (bs n.op), .int .i64 0, .slice none 0 0] := by rw [hW1]; exact Has.new_at (by simp)
 have h1 := (e0_mono h).keep hb1
 have S1 : Stp cb V w V W1 := Stp.of hb1
 have HW := hidI hW1
 have lcb := h.has.lt
 have hrn : ¬ V.own cb (w.heap.size + 1) := fun e => by have := (h.low e).2; omega
 have hmn : ¬ V.own cb (w.heap.size + 2) := fun e => by have := (h.low e).2; omega
 have hot := bs_toList n.op
 have f0 : (n.op == [106, 111, 117, 114, 110, 97, 108]) = true := by rw [ho]; decide
 have f1 : (n.op == [100, 101, 118, 105, 99, 101]) = false := by rw [ho]; decide
 have f2 : (n.op == [107, 101, 121]) = false := by rw [ho]; decide
 have f3 : (n.op == [114, 111, 111, 116]) = false := by rw [ho]; decide
 have f4 : (n.op == [118, 111, 108, 117, 109, 101]) = false := by rw [ho]; decide
 have hR : csaid c n = if ¬ (256 ≤ n.n ∧ n.n ≤ 2048) then .error (134, n.a) else if c.jour.isSome then .error (138, n.a) else .ok ({ c with jour := some c.devs.length, devs := c.devs ++ [n.n.toNat] }, ⟨n.op, cntN c.names [wDevice], []⟩) := by
  unfold csaid
  rw [if_pos ho]
 have c1 := h1.has.cell 1
 have nc3 := N1.cell 3
 simp only [ga1, gz1, gs1] at c1 nc3
 clear hW1
 by_cases h12 : 256 ≤ n.n ∧ n.n ≤ 2048
 · rw [if_neg (not_not_intro h12)] at hR
   obtain ⟨k1, k2⟩ := h12
   have k3 : 1 ≤ n.n := by omega
   have hny := need_yes 134 n.a W1
   cases hx : c.jour with
   | some x0 =>
     have hxe : (jI c.jour == -1) = false := by
      rw [hx, beq_eq_false_iff_ne]
      show ((x0 : Nat) : Int) ≠ -1
      omega
     rw [hx, if_pos (show (some x0).isSome = true from rfl)] at hR
     have HR := hidI hR
     clear hR ho hx
     unfold ndc
     go_enter Tryz.func88, Tryz.ntmps88
     go_wp2_with (first
      | ((go_at_call 86)
         (first | rw [← HW.out] | skip)
         (refine hny.mono ?_)
         (rintro e w3 ⟨rfl, hw3⟩)
         (obtain rfl : W1 = w3 := hw3.symm)))
     refine wp_region_held_drew (S := fun wz => Below W1.heap.size W1 wz) (by kernel_rfl) ((Below.refl _ W1).drew) (fun hHeld => ?_)
     refine tkT 0 (some 31) (.pointer (some ⟨cb, 0, none⟩)) rfl rfl (fun _ _ => rfl) hHeld ?_
     simp only [Act.put, sb1, sz1, ss1]
     refine tkT 1 (some 32) (.pointer (some ⟨cb, 0, none⟩)) rfl rfl (fun _ _ => rfl) hHeld ?_
     simp only [Act.put, sb1, sz1, ss1]
     refine tkT 2 (some 33) (.pointer (some ⟨cb, 0, none⟩)) rfl rfl (fun _ _ => rfl) hHeld ?_
     simp only [Act.put, sb1, sz1, ss1]
     refine tkT 3 (some 34) (.pointer (some ⟨cb, 1, none⟩)) rfl rfl (fun _ _ => rfl) hHeld ?_
     simp only [Act.put, sb1, sz1, ss1]
     refine tkT 4 (some 35) (.int .i64 (jI c.jour)) rfl rfl (fun wz hz => by have z0 := below_some hz c1; unfold execOp; go_simp) hHeld ?_
     simp only [Act.put, sb1, sz1, ss1]
     refine tkT 5 (some 36) (.bool false) rfl rfl (fun wz _ => run_eqC _ (-1) rfl (jI c.jour) rfl false hxe wz) hHeld ?_
     simp only [Act.put, sb1, sz1, ss1]
     refine tkT 6 (some 37) (.pointer (some ⟨w.heap.size, 3, none⟩)) rfl rfl (fun _ _ => rfl) hHeld ?_
     simp only [Act.put, sb1, sz1, ss1]
     refine tkT 7 (some 38) (.int .i64 n.a) rfl rfl (fun wz hz => by have z0 := below_some hz nc3; unfold execOp; go_simp) hHeld ?_
     simp only [Act.put, sb1, sz1, ss1]
     refine callToP 8 (some 39) 86 #[.bool false, .int .i64 138, .int .i64 n.a] (by kernel_rfl) rfl rfl (by rfl) (by kernel_rfl) (need_no 138 n.a W1.drew) ?_
     rintro e w5 ⟨rfl, rfl⟩
     refine .inr ⟨_, rfl, ?_⟩
     exact ⟨rfl, S1.only.drew, by rw [HR.out]; rfl⟩
   | none =>
     have hxe : (jI c.jour == -1) = true := by rw [hx]; rfl
     rw [hx, if_neg (show ¬ (none : Option Nat).isSome = true by decide)] at hR
     have HR := hidI hR
     clear hR ho hx
     unfold ndc
     go_enter Tryz.func88, Tryz.ntmps88
     go_wp2_with (first
      | ((go_at_call 86)
         (first | rw [← HW.out] | skip)
         (refine hny.mono ?_)
         (rintro e w3 ⟨rfl, hw3⟩)
         (obtain rfl : W1 = w3 := hw3.symm)))
     refine wp_region_held_drew (S := fun wz => Below W1.heap.size W1 wz) (by kernel_rfl) ((Below.refl _ W1).drew) (fun hHeld => ?_)
     refine tkT 0 (some 31) (.pointer (some ⟨cb, 0, none⟩)) rfl rfl (fun _ _ => rfl) hHeld ?_
     simp only [Act.put, sb1, sz1, ss1]
     refine tkT 1 (some 32) (.pointer (some ⟨cb, 0, none⟩)) rfl rfl (fun _ _ => rfl) hHeld ?_
     simp only [Act.put, sb1, sz1, ss1]
     refine tkT 2 (some 33) (.pointer (some ⟨cb, 0, none⟩)) rfl rfl (fun _ _ => rfl) hHeld ?_
     simp only [Act.put, sb1, sz1, ss1]
     refine tkT 3 (some 34) (.pointer (some ⟨cb, 1, none⟩)) rfl rfl (fun _ _ => rfl) hHeld ?_
     simp only [Act.put, sb1, sz1, ss1]
     refine tkT 4 (some 35) (.int .i64 (jI c.jour)) rfl rfl (fun wz hz => by have z0 := below_some hz c1; unfold execOp; go_simp) hHeld ?_
     simp only [Act.put, sb1, sz1, ss1]
     refine tkT 5 (some 36) (.bool true) rfl rfl (fun wz _ => run_eqC _ (-1) rfl (jI c.jour) rfl true hxe wz) hHeld ?_
     simp only [Act.put, sb1, sz1, ss1]
     refine tkT 6 (some 37) (.pointer (some ⟨w.heap.size, 3, none⟩)) rfl rfl (fun _ _ => rfl) hHeld ?_
     simp only [Act.put, sb1, sz1, ss1]
     refine tkT 7 (some 38) (.int .i64 n.a) rfl rfl (fun wz hz => by have z0 := below_some hz nc3; unfold execOp; go_simp) hHeld ?_
     simp only [Act.put, sb1, sz1, ss1]
     refine callToP 8 (some 39) 86 #[.bool true, .int .i64 138, .int .i64 n.a] (by kernel_rfl) rfl rfl (by rfl) (by kernel_rfl) (need_yes 138 n.a W1.drew) ?_
     rintro e w5 ⟨rfl, rfl⟩
     refine .inl ⟨_, rfl, hHeld, ?_⟩
     simp only [Act.put, sb1, sz1, ss1]
     refine wpAnyH_done (by kernel_rfl) ?_ _
     have hbd : Below W1.heap.size W1 W1.drew := below_drew (Below.refl _ W1)
     have H2 := h1.keep hbd
     have S2 := S1.trans (Stp.of (cb := cb) (V := V) hbd)
     have N2 := has_drew N1
     have R2 := has_drew R1
     have M2 := has_drew M1
     clear hHeld c1 nc3 h1 S1 N1 R1 M1 hb1 HW hny
     generalize W1.drew = W2 at *
     obtain ⟨Ad, Cd, evd⟩ := H2.vdv
     have a0 := H2.has.cell 0
     have a1 := H2.has.cell 1
     have a1f := H2.has.free 1
     have alt := H2.has.lt
     have a2 := N2.cell 2
     have a3 := N2.cell 3
     have anl := N2.lt
     simp only [List.getElem?_toArray, List.getElem?_cons_zero, List.getElem?_cons_succ, evd] at a0 a1 a2 a3
     obtain ⟨DJ, hDJ⟩ : ∃ DJ, DJ = c.devs.length := ⟨_, rfl⟩
     have HDJ := hidI hDJ
     rw [← hDJ] at a0
     clear hDJ
     obtain ⟨WJ, hWJ⟩ : ∃ WJ, WJ = W2.setCell ⟨cb, 1, none⟩ (.int .i64 (DJ : Nat)) := ⟨_, rfl⟩
     have hPJ := H2.put (c' := { c with jour := some c.devs.length }) 1 (.int .i64 (c.devs.length : Nat)) (H2.has.putP 1 _) rfl rfl rfl
     have HJ : CkAt (fun g => E g ∧ g < w.heap.size) WJ cb V { c with jour := some c.devs.length } := by rw [hWJ, HDJ.out]; exact hPJ.1
     have SJ : Stp cb V w V WJ := by rw [hWJ, HDJ.out]; exact S2.trans hPJ.2
     have NJ : Has WJ w.heap.size 24 #[.string (bs n.op), .string (bs n.s), .int .i64 n.n, .int .i64 n.a, .slice A L C] := by rw [hWJ]; exact N2.other (p := ⟨cb, 1, none⟩) (by show w.heap.size ≠ cb; omega) _
     have RJ : Has WJ (w.heap.size + 1) 136 #[.string ⟨#[]⟩, .int .i64 0, .slice none 0 0] := by rw [hWJ]; exact R2.other (p := ⟨cb, 1, none⟩) (by show w.heap.size + 1 ≠ cb; omega) _
     have MJ : Has WJ (w.heap.size + 2) 136 #[.string (bs n.op), .int .i64 0, .slice none 0 0] := by rw [hWJ]; exact M2.other (p := ⟨cb, 1, none⟩) (by show w.heap.size + 2 ≠ cb; omega) _
     have HW := hidI hWJ
     have hdj : (DJ : Int) ≤ 90000 := by have := HDJ.out; omega
     clear hPJ N2 R2 M2 S2 H2 hWJ
     have hny := need_yes 134 n.a WJ
     have hah := ahead_c (HJ.alloc (.cells #[.string ⟨#[100, 101, 118, 105, 99, 101]⟩] 9)) [wDevice] (.slice (some ⟨WJ.heap.size, 0, none⟩) 1 1) (.inr ⟨WJ.heap.size, rfl, Has.new_at rfl⟩) (by simp)
     obtain ⟨CN, hCN⟩ : ∃ CN, CN = cntN c.names [wDevice] := ⟨_, rfl⟩
     have HCN := hidI hCN
     obtain ⟨DL, hDL⟩ : ∃ DL, DL = c.devs.length := ⟨_, rfl⟩
     have HDL := hidI hDL
     have hdl : DL ≤ 90000 := by rw [hDL]; exact hdv
     change Calls _ _ _ _ (fun e w' => e = .returned (.int .i64 (cntN c.names [wDevice] : Nat)) ∧ Below (WJ.alloc (.cells #[.string ⟨#[100, 101, 118, 105, 99, 101]⟩] 9)).heap.size (WJ.alloc (.cells #[.string ⟨#[100, 101, 118, 105, 99, 101]⟩] 9)) w') at hah
     rw [← hCN] at hah
     clear hCN hDL
     have HMM := hidI (fun w2 (hb : Below (WJ.alloc (.cells #[.string ⟨#[100, 101, 118, 105, 99, 101]⟩] 9)).heap.size (WJ.alloc (.cells #[.string ⟨#[100, 101, 118, 105, 99, 101]⟩] 9)) w2) => (b_one WJ (.cells #[.string ⟨#[100, 101, 118, 105, 99, 101]⟩] 9)).trans (hb.mono (by simp)))
     go_wp2_with (first
      | ((go_at_call 86)
         (first | rw [← HW.out] | skip)
         (refine hny.mono ?_)
         (rintro e w3 ⟨rfl, hw3⟩)
         (obtain rfl : WJ = w3 := hw3.symm))
      | ((go_at_call 118)
         (refine hah.mono ?_)
         (rintro e w2 ⟨rfl, hb2'⟩)
         (have hb2 := HMM.out w2 hb2')
         (have M2 := MJ.below hb2 MJ.lt)
         (have m1 := M2.cell 1)
         (have g1 := M2.free 1)
         (have ml := M2.lt)))
     have H2 := HJ.keep hb2
     have S2 := SJ.trans (Stp.of (cb := cb) (V := V) hb2)
     have N2 := NJ.below hb2 NJ.lt
     have R2 := RJ.below hb2 RJ.lt
     have H3 := H2.other ⟨w.heap.size + 2, 1, none⟩ hmn (fun e => absurd e.2 (Nat.not_lt.2 (Nat.le_add_right _ _))) (.int .i64 (CN : Nat))
     have S3 := S2.set (q := ⟨w.heap.size + 2, 1, none⟩) (by show w.heap.size ≤ w.heap.size + 2; omega) (.int .i64 (CN : Nat))
     have N3 := N2.other (p := ⟨w.heap.size + 2, 1, none⟩) (by show w.heap.size ≠ w.heap.size + 2; omega) (.int .i64 (CN : Nat))
     have R3 := R2.other (p := ⟨w.heap.size + 2, 1, none⟩) (by show w.heap.size + 1 ≠ w.heap.size + 2; omega) (.int .i64 (CN : Nat))
     have M3 : Has (w2.setCell ⟨w.heap.size + 2, 1, none⟩ (.int .i64 (CN : Nat))) (w.heap.size + 2) 136 #[.string (bs n.op), .int .i64 (CN : Nat), .slice none 0 0] := M2.putP 1 _
     generalize w2.setCell ⟨w.heap.size + 2, 1, none⟩ (.int .i64 (CN : Nat)) = W3 at *
     have c0 := H3.has.cell 0
     have n2 := N3.cell 2
     simp only [ga1, gz1, gs1] at c0 n2
     clear m1 g1 ml hb2 hb2' H2 S2 N2 R2 M2 hah HMM
     refine lastTo (S := fun wz => wz.cell? ⟨cb, 0, none⟩ = some V.vd ∧ wz.cell? ⟨w.heap.size, 2, none⟩ = some (.int .i64 n.n)) 13 (by kernel_rfl) (⟨c0, n2⟩) (fun hHeld => ?_)
     refine tkL 0 (some 65) (.pointer (some ⟨cb, 0, none⟩)) rfl rfl (fun _ _ => rfl) hHeld ?_
     simp only [Act.put, sb1, sz1, ss1]
     refine tkL 1 (some 66) (.pointer (some ⟨cb, 0, none⟩)) rfl rfl (fun _ _ => rfl) hHeld ?_
     simp only [Act.put, sb1, sz1, ss1]
     refine tkL 2 (some 67) (.pointer (some ⟨cb, 0, none⟩)) rfl rfl (fun _ _ => rfl) hHeld ?_
     simp only [Act.put, sb1, sz1, ss1]
     refine tkL 3 (some 68) (.pointer (some ⟨cb, 0, none⟩)) rfl rfl (fun _ _ => rfl) hHeld ?_
     simp only [Act.put, sb1, sz1, ss1]
     refine tkL 4 (some 69) (.pointer (some ⟨cb, 0, none⟩)) rfl rfl (fun _ _ => rfl) hHeld ?_
     simp only [Act.put, sb1, sz1, ss1]
     refine tkL 5 (some 70) (V.vd) rfl rfl (fun wz hz => by obtain ⟨z0, z1⟩ := hz; unfold execOp; go_simp) hHeld ?_
     simp only [Act.put, sb1, sz1, ss1]
     refine tkL 6 (some 71) (.pointer (some ⟨w.heap.size, 2, none⟩)) rfl rfl (fun _ _ => rfl) hHeld ?_
     simp only [Act.put, sb1, sz1, ss1]
     refine tkL 7 (some 72) (.int .i64 n.n) rfl rfl (fun wz hz => by obtain ⟨z0, z1⟩ := hz; unfold execOp; go_simp) hHeld ?_
     simp only [Act.put, sb1, sz1, ss1]
     have hS2 : (W3.drew.alloc (.cells #[.int .i64 n.n] 3)).cell? ⟨cb, 0, none⟩ = some V.vd ∧ (W3.drew.alloc (.cells #[.int .i64 n.n] 3)).cell? ⟨w.heap.size, 2, none⟩ = some (.int .i64 n.n) := ⟨below_some (b_one W3.drew _) hHeld.1, below_some (b_one W3.drew _) hHeld.2⟩
     refine valL 8 (some 73) (.slice (some ⟨W3.heap.size, 0, none⟩) 1 1) (W3.drew.alloc (.cells #[.int .i64 n.n] 3)) (by kernel_rfl) rfl rfl (by rfl) (by kernel_rfl) hS2 ?_
     simp only [Act.put, sb1, sz1, ss1]
     have hb4 : Below W3.heap.size W3 (W3.drew.alloc (.cells #[.int .i64 n.n] 3)) := (below_drew (Below.refl _ W3)).trans (b_one W3.drew _)
     have G3 := H3.keep hb4
     obtain ⟨A6, C6, w6, hr6, hrow6, hg6, hw6⟩ := append_one kInts (ty := 29) (W3.drew.alloc (.cells #[.int .i64 n.n] 3)) cb DL _ _ (by have := G3.devs; rw [← HDL.out] at this; exact this) (by have := G3.has.lt; omega) (by omega) [.int .i64 n.n] rfl (by intro u hu; simp at hu; subst hu; rfl) W3.heap.size (Has.new_at rfl)
     have N6 : Has w6 w.heap.size 24 #[.string (bs n.op), .string (bs n.s), .int .i64 n.n, .int .i64 n.a, .slice A L C] := grown_has ((has_drew N3).alloc _) hg6 (row_has_ne G3.devs ((has_drew N3).alloc _) (by decide))
     have R6 : Has w6 (w.heap.size + 1) 136 #[.string ⟨#[]⟩, .int .i64 0, .slice none 0 0] := grown_has ((has_drew R3).alloc _) hg6 (row_has_ne G3.devs ((has_drew R3).alloc _) (by decide))
     have M6 := grown_has ((has_drew M3).alloc (.cells #[.int .i64 n.n] 3)) hg6 (row_has_ne G3.devs ((has_drew M3).alloc _) (by decide))
     have cb6h := grown_has G3.has hg6 (row_has_ne G3.devs G3.has (by decide))
     have hS6 : w6.cell? ⟨cb, 0, none⟩ = some V.vd ∧ w6.cell? ⟨w.heap.size, 2, none⟩ = some (.int .i64 n.n) := ⟨cb6h.cell 0, N6.cell 2⟩
     refine valL 9 (some 74) (.slice A6 (DL + 1) C6) w6 (by kernel_rfl) rfl rfl (by rfl) (run_app_is _ _ rfl rfl rfl hr6) hS6 ?_
     simp only [Act.put, sb1, sz1, ss1]
     refine valL 10 (some 75) (.pointer (some ⟨cb, 0, none⟩)) w6 (by kernel_rfl) rfl rfl (by rfl) rfl hS6 ?_
     simp only [Act.put, sb1, sz1, ss1]
     refine valL 11 (some 76) (.pointer (some ⟨cb, 0, none⟩)) w6 (by kernel_rfl) rfl rfl (by rfl) rfl hS6 ?_
     simp only [Act.put, sb1, sz1, ss1]
     refine valL 12 (some 77) (.pointer (some ⟨cb, 0, none⟩)) w6 (by kernel_rfl) rfl rfl (by rfl) rfl hS6 ?_
     simp only [Act.put, sb1, sz1, ss1]
     have q6 := cb6h.cell 0
     have f6 := cb6h.free 0
     refine lastSkip 13 none (w6.setCell ⟨cb, 0, none⟩ (.slice A6 (DL + 1) C6)) (by kernel_rfl) rfl rfl (by rfl) (by unfold execOp; go_simp) (by kernel_rfl) ?_
     simp only [Act.put]
     have hvn : (Value.int .i64 n.n) = .int .i64 ((n.n.toNat : Nat) : Int) := by congr 1; omega
     rw [hvn] at hrow6
     have hPD := G3.putDev (A6 := A6) (C6 := C6) (d := n.n.toNat) hg6 (by have := hrow6; rw [HDL.out] at this; exact this) (by have := hw6; rw [HDL.out] at this; exact this) hdv
     have H4 : CkAt (fun g => E g ∧ g < w.heap.size) (w6.setCell ⟨cb, 0, none⟩ (.slice A6 (DL + 1) C6)) cb { V with vd := .slice A6 (DL + 1) C6 } { c with jour := some c.devs.length, devs := c.devs ++ [n.n.toNat] } := by rw [HDL.out]; exact hPD.1
     have S4 : Stp cb V (W3.drew.alloc (.cells #[.int .i64 n.n] 3)) { V with vd := .slice A6 (DL + 1) C6 } (w6.setCell ⟨cb, 0, none⟩ (.slice A6 (DL + 1) C6)) := by rw [HDL.out]; exact hPD.2
     have hrn4 := (S4.inner (w.heap.size + 1) (by have := M3.lt; simp; omega) hrn).2
     have S5 := (S3.trans (Stp.of (cb := cb) (V := V) hb4)).trans S4
     have R5 := R6.other (p := ⟨cb, 0, none⟩) (by show w.heap.size + 1 ≠ cb; omega) (.slice A6 (DL + 1) C6)
     have M5 := M6.other (p := ⟨cb, 0, none⟩) (by show w.heap.size + 2 ≠ cb; omega) (.slice A6 (DL + 1) C6)
     clear hPD S4
     generalize w6.setCell ⟨cb, 0, none⟩ (.slice A6 (DL + 1) C6) = W5 at *
     have m0 := M5.cell 0
     have m1 := M5.cell 1
     have m2 := M5.cell 2
     simp only [ga1, gz1, gs1] at m0 m1 m2
     have r0 := R5.cell 0
     have r1 := R5.cell 1
     have r2 := R5.cell 2
     simp only [ga1, gz1, gs1] at r0 r1 r2
     have g0 := R5.free 0
     have g1 := R5.free 1
     have g2 := R5.free 2
     have rl := R5.lt
     have mlt := M5.lt
     clear q6 f6 hS6 hS2 hHeld cb6h M6 R6 N6 hrow6 hr6 hg6 hw6 G3 c0 n2 hb4
     go_wp2
     refine ret_mn rfl rfl (R5.set3 _ _ _) rfl ?_
     have S6 := S5.set3 (g := w.heap.size + 1) (by omega) (.string (bs n.op)) (.int .i64 (CN : Nat)) (.slice none 0 0)
     have H6 := H4.other3 (w.heap.size + 1) hrn4 (fun e => absurd e.2 (Nat.not_lt.2 (Nat.le_add_right _ _))) (.string (bs n.op)) (.int .i64 (CN : Nat)) (.slice none 0 0)
     refine ⟨S6.only, ?_⟩
     rw [HR.out]
     exact ⟨.slice none 0 0, _, by rw [← HCN.out]; rfl, nil_mn rfl, H6.mono (fun g _ _ he => .inl he.1), S6⟩
 · rw [if_pos h12] at hR
   have HR := hidI hR
   have hno := need_no 134 n.a W1
   rcases (by omega : ¬ 256 ≤ n.n ∨ (256 ≤ n.n ∧ ¬ n.n ≤ 2048)) with k1 | ⟨k1, k2⟩
   all_goals
    clear h12 hR ho c1 nc3
    unfold ndc
    go_enter Tryz.func88, Tryz.ntmps88
    go_wp2_with (first
     | ((go_at_call 86)
        (first | rw [← HW.out] | skip)
        (refine hno.mono ?_)
        (rintro e w3 ⟨rfl, hw3⟩)
        (obtain rfl : W1 = w3 := hw3.symm)))
    exact ⟨rfl, S1.only, by rw [HR.out]; rfl⟩
end
end Go.Proofs.YthndifegfmjpbaaGreatDoor
