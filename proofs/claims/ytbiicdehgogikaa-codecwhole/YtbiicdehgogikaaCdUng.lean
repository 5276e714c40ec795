/- The program's ungrouped. -/
import Derived.Test.YtbiicdehgogikaaCdUngM
namespace Go.Proofs.Ytbiicdehgogikaa
open Go.ChangeShapes Go.WideShapes Go.ChangeAt Go.RowKit
set_option linter.unusedVariables false

set_option maxRecDepth 100000 in
set_option maxHeartbeats 2000000 in
theorem ungrouped_any (L C : Nat) (B : Nat → Nat) (a : Option Addr) (w : World) (h : ByIn w a L C B) :
    Calls Try.prog 29 #[.slice a L C] w (UngR w L B) := by
  have hmf : ∀ (fn : Fn) (first cap : Array Value) (w : World), (Instr.makeFunc fn first cap).run Try.prog w = .ok (.func fn first cap) w := fun _ _ _ _ => rfl
  have hmax := h.max
  obtain ⟨wx, hwx⟩ : ∃ wx, wx = w.alloc (.cells #[.slice a L C] 23) := ⟨_, rfl⟩
  have hbx : Below w.heap.size w wx := by rw [hwx]; exact (Below.refl _ _).alloc (Nat.le_refl _) _
  have hrx : Rest wx w.heap.size a L 0 := by
    refine ⟨a, C, by rw [hwx]; exact Has.new _ _ _, h.le, fun hlt => ?_⟩
    rcases h.at_ with h0 | ⟨b, off, e, _⟩
    · omega
    · exact ⟨b, off, e, e⟩
  by_cases h2 : 2 ≤ L
  · have T0 := take_ok 2 h.at_ hbx (Nat.le_refl _) hrx (by decide) (by decide) (by omega) h.max
    by_cases hn : uN B ≤ 100
    · obtain ⟨n, hnE⟩ : ∃ n, n = uN B := ⟨_, rfl⟩
      have HN : Hid (n = uN B) := hnE
      have hn1 : n ≤ 100 := by omega
      subst hwx
      clear hnE
      go_enter Try.func29, Try.ntmps29
      go_wp2_with (first
        | ((go_at_call 39)
           (refine Calls.mono T0 ?_)
           (rintro e w1 ⟨A1, C1, u1, rfl, hy1, hn1', hc1, hr1, hw1⟩)
           (clear T0)
           (have hbw1 : Below w.heap.size w w1 := by (rw [hw1]; exact hbx.setCell (Nat.le_refl _) _))
           (clear hw1)
           (have G0 : Calls Try.prog 40 #[.slice A1 2 C1, .int .i64 101] w1 fun e w2 => e = .returned (.int .i64 (n : Nat)) ∧ w2 = w1 := by (have := cget_ok 2 C1 101 (by decide) (by decide) hy1 (fun j => h.byt _) (show uN B < 101 by omega) (by decide); rw [HN.out]; exact this))
           (obtain ⟨w3, cs3, hH3, hs3, hb3, hrun⟩ := make_wr n (by omega) w1))
        | ((go_at_call 40)
           (refine Calls.mono G0 ?_)
           (rintro e w2 ⟨rfl, hw2⟩)
           (obtain rfl : w1 = w2 := hw2.symm)
           (clear G0))
        | ((refine at_dst 10 rfl ?_)
           (refine wpList_make6 rfl _ (hrun _ _ _ _ rfl rfl rfl) ?_)))
      have hlt1 := hr1.lt
      have hbw3 := hbw1.trans (hb3.mono hbw1.size)
      have hr3 := hr1.below hb3 hlt1
      obtain ⟨g, hg⟩ : ∃ g, g = w1.heap.size := ⟨_, rfl⟩
      rw [← hg] at hH3 hlt1 ⊢
      have hI0 : UInv w g w.heap.size n a L B 0 w3 := ⟨cs3, fun _ => none, fun _ => 0, hH3, ⟨hs3, (fun i hi => by omega), (fun i hi => by omega), (fun i hi => by omega)⟩, (fun i hi => by omega), hr3, hbw3, (fun i hi => by omega), by omega⟩
      clear hrun hb3 hr1 hy1 hc1 hn1' hbw1 hH3 hs3 hbw3 hr3 hrx hbx hg
      go_loopw [5, 13] (fun _ iv wr => ∃ k : Nat, k ≤ n ∧ iv = .int .i64 (k : Nat) ∧ UInv w g w.heap.size n a L B k wr)
        (fun _ iv _ => n - (intOf iv).toNat)
      case atStart => exact ⟨0, Nat.zero_le _, rfl, hI0⟩
      case round =>
        clear hI0
        obtain ⟨k, hk, rfl, hinv⟩ := hrel
        by_cases hlt : k < n
        · obtain ⟨cs, A, Cc, hH, hC, ho, hr, hbel, hok, hle⟩ := hinv
          have i0 : (k : Int) < (n : Int) := by omega
          have hcsz := hC.size
          obtain ⟨x0, hx0⟩ : ∃ x, cs[k * 3]? = some x := ⟨_, Array.getElem?_eq_getElem (show k * 3 < cs.size by omega)⟩
          obtain ⟨x1, hx1⟩ : ∃ x, cs[k * 3 + 1]? = some x := ⟨_, Array.getElem?_eq_getElem (show k * 3 + 1 < cs.size by omega)⟩
          obtain ⟨x2, hx2⟩ : ∃ x, cs[k * 3 + 2]? = some x := ⟨_, Array.getElem?_eq_getElem (show k * 3 + 2 < cs.size by omega)⟩
          by_cases hs1 : 2 + 69 * k + 1 ≤ L
          · have T1 := take_ok 1 h.at_ hbel (Nat.le_refl _) hr (by decide) (by decide) hs1 h.max
            by_cases hD : uD B k < 8
            · by_cases hs4 : 2 + 69 * k + 1 + 4 ≤ L
              · by_cases hS : uS B k < 2048
                · by_cases hs64 : 2 + 69 * k + 1 + 4 + 64 ≤ L
                  · skip
                    go_wp2_with (first
                      | ((go_at_call 39)
                         (refine at_arg 0 (.int .i64 1) rfl ?_)
                         (refine Calls.mono T1 ?_)
                         (rintro e w4 ⟨A1, C1, u1, rfl, hy1, hn1, hc1, hr1, hq1⟩)
                         (clear T1)
                         (have hw1 := hq1)
                         (clear hq1)
                         (have hbw4 : Below w.heap.size w w4 := by (rw [hw1]; exact hbel.setCell (Nat.le_refl _) _))
                         (have hH4 : Has w4 g 49 cs := by (rw [hw1]; exact hH.other (by show g ≠ w.heap.size; omega) _))
                         (have d0 : w4.cell? ⟨g, k * 3, none⟩ = some x0 := (hH4.cell _).trans hx0)
                         (have z0 := hH4.free (k * 3))
                         (have HW1 : Hid (w4 = wr.setCell ⟨w.heap.size, 0, none⟩ u1) := hw1)
                         (clear hw1)
                         (have G1 : Calls Try.prog 40 #[.slice A1 1 C1, .int .i64 8] w4 fun e w2 => e = .returned (.int .i64 (uD B k : Nat)) ∧ w2 = w4 := cget_ok 1 C1 8 (by decide) (by decide) hy1 (fun j => h.byt _) hD (by decide))
                         (obtain ⟨w5, hw5⟩ : ∃ w5, w5 = w4.setCell ⟨g, k * 3, none⟩ (.int .i64 (uD B k : Nat)) := ⟨_, rfl⟩)
                         (have hbw5 : Below w.heap.size w w5 := by (rw [hw5]; exact hbw4.setCell (by show w.heap.size ≤ g; omega) _))
                         (have hH5 : Has w5 g 49 (cs.setIfInBounds (k * 3) (.int .i64 (uD B k : Nat))) := by (rw [hw5]; exact hH4.put _ _))
                         (have hr5 : Rest w5 w.heap.size a L (2 + 69 * k + 1) := by (rw [hw5]; exact hr1.other (by show w.heap.size ≠ g; omega) _))
                         (have T2 := take_ok 4 h.at_ hbw5 (Nat.le_refl _) hr5 (by decide) (by decide) hs4 h.max)
                         (rw [hw5] at T2)
                         (have HW5 : Hid (w5 = w4.setCell ⟨g, k * 3, none⟩ (.int .i64 (uD B k : Nat))) := hw5)
                         (clear hw5))
                      | ((go_at_call 39)
                         (refine at_arg 0 (.int .i64 4) rfl ?_)
                         (refine Calls.mono T2 ?_)
                         (rintro e w6 ⟨A2, C2, u2, rfl, hy2, hn2, hc2, hr2, hq2⟩)
                         (clear T2)
                         (have hw2 : w6 = w5.setCell ⟨w.heap.size, 0, none⟩ u2 := by (rw [hq2, HW5.out]))
                         (clear hq2)
                         (have hbw6 : Below w.heap.size w w6 := by (rw [hw2]; exact hbw5.setCell (Nat.le_refl _) _))
                         (have hH6 : Has w6 g 49 (cs.setIfInBounds (k * 3) (.int .i64 (uD B k : Nat))) := by (rw [hw2]; exact hH5.other (by show g ≠ w.heap.size; omega) _))
                         (have d1 : w6.cell? ⟨g, k * 3 + 1, none⟩ = some x1 := (hH6.cell _).trans (by (rw [Array.getElem?_setIfInBounds, if_neg (by omega)]; exact hx1)))
                         (have z1 := hH6.free (k * 3 + 1))
                         (have HW2 : Hid (w6 = w5.setCell ⟨w.heap.size, 0, none⟩ u2) := hw2)
                         (clear hw2)
                         (have G2 : Calls Try.prog 40 #[.slice A2 4 C2, .int .i64 2048] w6 fun e w2 => e = .returned (.int .i64 (uS B k : Nat)) ∧ w2 = w6 := cget_ok 4 C2 2048 (by decide) (by decide) hy2 (fun j => h.byt _) hS (by decide))
                         (obtain ⟨w7, hw7⟩ : ∃ w7, w7 = w6.setCell ⟨g, k * 3 + 1, none⟩ (.int .i64 (uS B k : Nat)) := ⟨_, rfl⟩)
                         (have hbw7 : Below w.heap.size w w7 := by (rw [hw7]; exact hbw6.setCell (by show w.heap.size ≤ g; omega) _))
                         (have hH7 : Has w7 g 49 ((cs.setIfInBounds (k * 3) (.int .i64 (uD B k : Nat))).setIfInBounds (k * 3 + 1) (.int .i64 (uS B k : Nat))) := by (rw [hw7]; exact hH6.put _ _))
                         (have hr7 : Rest w7 w.heap.size a L (2 + 69 * k + 1 + 4) := by (rw [hw7]; exact hr2.other (by show w.heap.size ≠ g; omega) _))
                         (have T3 := take_ok 64 h.at_ hbw7 (Nat.le_refl _) hr7 (by decide) (by decide) hs64 h.max)
                         (rw [hw7] at T3)
                         (have HW7 : Hid (w7 = w6.setCell ⟨g, k * 3 + 1, none⟩ (.int .i64 (uS B k : Nat))) := hw7)
                         (clear hw7))
                      | ((go_at_call 39)
                         (refine at_arg 0 (.int .i64 64) rfl ?_)
                         (refine Calls.mono T3 ?_)
                         (rintro e w8 ⟨A3, C3, u3, rfl, hy3, hn3, hc3, hr3, hq3⟩)
                         (clear T3)
                         (have hw3 : w8 = w7.setCell ⟨w.heap.size, 0, none⟩ u3 := by (rw [hq3, HW7.out]))
                         (clear hq3)
                         (have hbw8 : Below w.heap.size w w8 := by (rw [hw3]; exact hbw7.setCell (Nat.le_refl _) _))
                         (have hH8 : Has w8 g 49 ((cs.setIfInBounds (k * 3) (.int .i64 (uD B k : Nat))).setIfInBounds (k * 3 + 1) (.int .i64 (uS B k : Nat))) := by (rw [hw3]; exact hH7.other (by show g ≠ w.heap.size; omega) _))
                         (have CL := clone_any hy3 hn3 (by decide))
                         (have HW3 : Hid (w8 = w7.setCell ⟨w.heap.size, 0, none⟩ u3) := hw3)
                         (clear hw3))
                      | ((go_at_call 40)
                         (refine at_arg 1 (.int .i64 8) rfl ?_)
                         (refine Calls.mono G1 ?_)
                         (rintro e wz ⟨rfl, hwz⟩)
                         (obtain rfl : w4 = wz := hwz.symm)
                         (clear G1))
                      | ((go_at_call 40)
                         (refine at_arg 1 (.int .i64 2048) rfl ?_)
                         (refine Calls.mono G2 ?_)
                         (rintro e wz ⟨rfl, hwz⟩)
                         (obtain rfl : w6 = wz := hwz.symm)
                         (clear G2))
                      | ((go_at_call 32)
                         (refine Calls.mono CL ?_)
                         (rintro e w9 ⟨hb9, v9, rfl, ho9⟩)
                         (clear CL)
                         (obtain ⟨A9, C9, rfl, _⟩ := own_bytes ho9)
                         (have hH9 := hH8.below hb9 hH8.lt)
                         (have hbw9 := hbw8.trans (hb9.mono hbw8.size))
                         (have hr9 := hr3.below hb9 hr3.lt)
                         (have d2 : w9.cell? ⟨g, k * 3 + 2, none⟩ = some x2 := (hH9.cell _).trans (by (rw [Array.getElem?_setIfInBounds, if_neg (by omega), Array.getElem?_setIfInBounds, if_neg (by omega)]; exact hx2)))
                         (have z2 := hH9.free (k * 3 + 2))
                         (have ho9' := own_mono ho9 (show g + 1 ≤ w8.heap.size from hH8.lt)))
                      | ((refine at_dst 21 rfl ?_)
                         (refine wpList_is (some 21) (.pointer (some ⟨g, k * 3, none⟩)) rfl rfl (run_at_wr0 _ _ rfl g k n n rfl rfl hlt _) ?_))
                      | ((refine at_dst 28 rfl ?_)
                         (refine wpList_is (some 28) (.pointer (some ⟨g, k * 3, none⟩)) rfl rfl (run_at_wr0 _ _ rfl g k n n rfl rfl hlt _) ?_))
                      | ((refine at_dst 35 rfl ?_)
                         (refine wpList_is (some 35) (.pointer (some ⟨g, k * 3, none⟩)) rfl rfl (run_at_wr0 _ _ rfl g k n n rfl rfl hlt _) ?_)))
                    go_roundw
                    case rel =>
                      refine ⟨k + 1, by omega, by go_num, ⟨_, _, _, hH9.put (k * 3 + 2) _, hC.step hlt A9 C9, ?_, ?_, ?_, ?_, ?_⟩⟩
                      · intro i hi
                        by_cases hik : i = k
                        · subst hik
                          simp only [if_pos]
                          exact own_set ho9' _ _ (by show g < g + 1; omega)
                        · simp only [if_neg hik]
                          have h0 := ho i (by omega)
                          have b1 := own_set h0 ⟨w.heap.size, 0, none⟩ u1 (by show w.heap.size < g + 1; omega)
                          rw [← HW1.out] at b1
                          have b2 := own_set b1 ⟨g, k * 3, none⟩ (.int .i64 (uD B k : Nat)) (by show g < g + 1; omega)
                          rw [← HW5.out] at b2
                          have b3 := own_set b2 ⟨w.heap.size, 0, none⟩ u2 (by show w.heap.size < g + 1; omega)
                          rw [← HW2.out] at b3
                          have b4 := own_set b3 ⟨g, k * 3 + 1, none⟩ (.int .i64 (uS B k : Nat)) (by show g < g + 1; omega)
                          rw [← HW7.out] at b4
                          have h1 := own_set b4 ⟨w.heap.size, 0, none⟩ u3 (by show w.heap.size < g + 1; omega)
                          rw [← HW3.out] at h1
                          exact own_set (own_below h1 hb9 (fun g' hg' => (h1.lt g' hg').2)) _ _ (by show g < g + 1; omega)
                      · rw [show 2 + 69 * (k + 1) = 2 + 69 * k + 1 + 4 + 64 by omega]
                        exact hr9.other (by show w.heap.size ≠ g; omega) _
                      · exact hbw9.setCell (by show w.heap.size ≤ g; omega) _
                      · intro i hi
                        by_cases hik : i = k
                        · subst hik
                          exact ⟨hD, hS⟩
                        · exact hok i (by omega)
                      · omega
                    case measure => simp [intOf]; omega
                  · have hs64 : L < 2 + 69 * k + 1 + 4 + 64 := by omega
                    go_wp2_with (first
                      | ((go_at_call 39)
                         (refine at_arg 0 (.int .i64 1) rfl ?_)
                         (refine Calls.mono T1 ?_)
                         (rintro e w4 ⟨A1, C1, u1, rfl, hy1, hn1, hc1, hr1, hq1⟩)
                         (clear T1)
                         (have hw1 := hq1)
                         (clear hq1)
                         (have hbw4 : Below w.heap.size w w4 := by (rw [hw1]; exact hbel.setCell (Nat.le_refl _) _))
                         (have hH4 : Has w4 g 49 cs := by (rw [hw1]; exact hH.other (by show g ≠ w.heap.size; omega) _))
                         (have d0 : w4.cell? ⟨g, k * 3, none⟩ = some x0 := (hH4.cell _).trans hx0)
                         (have z0 := hH4.free (k * 3))
                         (have HW1 : Hid (w4 = wr.setCell ⟨w.heap.size, 0, none⟩ u1) := hw1)
                         (clear hw1)
                         (have G1 : Calls Try.prog 40 #[.slice A1 1 C1, .int .i64 8] w4 fun e w2 => e = .returned (.int .i64 (uD B k : Nat)) ∧ w2 = w4 := cget_ok 1 C1 8 (by decide) (by decide) hy1 (fun j => h.byt _) hD (by decide))
                         (obtain ⟨w5, hw5⟩ : ∃ w5, w5 = w4.setCell ⟨g, k * 3, none⟩ (.int .i64 (uD B k : Nat)) := ⟨_, rfl⟩)
                         (have hbw5 : Below w.heap.size w w5 := by (rw [hw5]; exact hbw4.setCell (by show w.heap.size ≤ g; omega) _))
                         (have hH5 : Has w5 g 49 (cs.setIfInBounds (k * 3) (.int .i64 (uD B k : Nat))) := by (rw [hw5]; exact hH4.put _ _))
                         (have hr5 : Rest w5 w.heap.size a L (2 + 69 * k + 1) := by (rw [hw5]; exact hr1.other (by show w.heap.size ≠ g; omega) _))
                         (have T2 := take_ok 4 h.at_ hbw5 (Nat.le_refl _) hr5 (by decide) (by decide) hs4 h.max)
                         (rw [hw5] at T2)
                         (have HW5 : Hid (w5 = w4.setCell ⟨g, k * 3, none⟩ (.int .i64 (uD B k : Nat))) := hw5)
                         (clear hw5))
                      | ((go_at_call 39)
                         (refine at_arg 0 (.int .i64 4) rfl ?_)
                         (refine Calls.mono T2 ?_)
                         (rintro e w6 ⟨A2, C2, u2, rfl, hy2, hn2, hc2, hr2, hq2⟩)
                         (clear T2)
                         (have hw2 : w6 = w5.setCell ⟨w.heap.size, 0, none⟩ u2 := by (rw [hq2, HW5.out]))
                         (clear hq2)
                         (have hbw6 : Below w.heap.size w w6 := by (rw [hw2]; exact hbw5.setCell (Nat.le_refl _) _))
                         (have hH6 : Has w6 g 49 (cs.setIfInBounds (k * 3) (.int .i64 (uD B k : Nat))) := by (rw [hw2]; exact hH5.other (by show g ≠ w.heap.size; omega) _))
                         (have d1 : w6.cell? ⟨g, k * 3 + 1, none⟩ = some x1 := (hH6.cell _).trans (by (rw [Array.getElem?_setIfInBounds, if_neg (by omega)]; exact hx1)))
                         (have z1 := hH6.free (k * 3 + 1))
                         (have HW2 : Hid (w6 = w5.setCell ⟨w.heap.size, 0, none⟩ u2) := hw2)
                         (clear hw2)
                         (have G2 : Calls Try.prog 40 #[.slice A2 4 C2, .int .i64 2048] w6 fun e w2 => e = .returned (.int .i64 (uS B k : Nat)) ∧ w2 = w6 := cget_ok 4 C2 2048 (by decide) (by decide) hy2 (fun j => h.byt _) hS (by decide))
                         (obtain ⟨w7, hw7⟩ : ∃ w7, w7 = w6.setCell ⟨g, k * 3 + 1, none⟩ (.int .i64 (uS B k : Nat)) := ⟨_, rfl⟩)
                         (have hbw7 : Below w.heap.size w w7 := by (rw [hw7]; exact hbw6.setCell (by show w.heap.size ≤ g; omega) _))
                         (have hH7 : Has w7 g 49 ((cs.setIfInBounds (k * 3) (.int .i64 (uD B k : Nat))).setIfInBounds (k * 3 + 1) (.int .i64 (uS B k : Nat))) := by (rw [hw7]; exact hH6.put _ _))
                         (have hr7 : Rest w7 w.heap.size a L (2 + 69 * k + 1 + 4) := by (rw [hw7]; exact hr2.other (by show w.heap.size ≠ g; omega) _))
                         (have N3 := take_no 64 hr7 (by decide) (by decide) hs64 h.max)
                         (rw [hw7] at N3)
                         (have HW7 : Hid (w7 = w6.setCell ⟨g, k * 3 + 1, none⟩ (.int .i64 (uS B k : Nat))) := hw7)
                         (clear hw7))
                      | ((go_at_call 39)
                         (refine at_arg 0 (.int .i64 64) rfl ?_)
                         (refine Calls.mono N3 ?_)
                         (rintro e wz ⟨rfl, hwz⟩)
                         (subst hwz)
                         (clear N3))
                      | ((go_at_call 40)
                         (refine at_arg 1 (.int .i64 8) rfl ?_)
                         (refine Calls.mono G1 ?_)
                         (rintro e wz ⟨rfl, hwz⟩)
                         (obtain rfl : w4 = wz := hwz.symm)
                         (clear G1))
                      | ((go_at_call 40)
                         (refine at_arg 1 (.int .i64 2048) rfl ?_)
                         (refine Calls.mono G2 ?_)
                         (rintro e wz ⟨rfl, hwz⟩)
                         (obtain rfl : w6 = wz := hwz.symm)
                         (clear G2))
                      | ((refine at_dst 21 rfl ?_)
                         (refine wpList_is (some 21) (.pointer (some ⟨g, k * 3, none⟩)) rfl rfl (run_at_wr0 _ _ rfl g k n n rfl rfl hlt _) ?_))
                      | ((refine at_dst 28 rfl ?_)
                         (refine wpList_is (some 28) (.pointer (some ⟨g, k * 3, none⟩)) rfl rfl (run_at_wr0 _ _ rfl g k n n rfl rfl hlt _) ?_))
                      | ((refine at_dst 35 rfl ?_)
                         (refine wpList_is (some 35) (.pointer (some ⟨g, k * 3, none⟩)) rfl rfl (run_at_wr0 _ _ rfl g k n n rfl rfl hlt _) ?_)))
                    exact ⟨rfl, (by rw [← HW7.out]; exact hbw7), .inr ⟨fun hh => by (have h5 := hh.2.2.1; rw [← HN.out] at h5; omega), rfl⟩⟩
                · have hS : 2048 ≤ uS B k := by omega
                  go_wp2_with (first
                    | ((go_at_call 39)
                       (refine at_arg 0 (.int .i64 1) rfl ?_)
                       (refine Calls.mono T1 ?_)
                       (rintro e w4 ⟨A1, C1, u1, rfl, hy1, hn1, hc1, hr1, hq1⟩)
                       (clear T1)
                       (have hw1 := hq1)
                       (clear hq1)
                       (have hbw4 : Below w.heap.size w w4 := by (rw [hw1]; exact hbel.setCell (Nat.le_refl _) _))
                       (have hH4 : Has w4 g 49 cs := by (rw [hw1]; exact hH.other (by show g ≠ w.heap.size; omega) _))
                       (have d0 : w4.cell? ⟨g, k * 3, none⟩ = some x0 := (hH4.cell _).trans hx0)
                       (have z0 := hH4.free (k * 3))
                       (have HW1 : Hid (w4 = wr.setCell ⟨w.heap.size, 0, none⟩ u1) := hw1)
                       (clear hw1)
                       (have G1 : Calls Try.prog 40 #[.slice A1 1 C1, .int .i64 8] w4 fun e w2 => e = .returned (.int .i64 (uD B k : Nat)) ∧ w2 = w4 := cget_ok 1 C1 8 (by decide) (by decide) hy1 (fun j => h.byt _) hD (by decide))
                       (obtain ⟨w5, hw5⟩ : ∃ w5, w5 = w4.setCell ⟨g, k * 3, none⟩ (.int .i64 (uD B k : Nat)) := ⟨_, rfl⟩)
                       (have hbw5 : Below w.heap.size w w5 := by (rw [hw5]; exact hbw4.setCell (by show w.heap.size ≤ g; omega) _))
                       (have hH5 : Has w5 g 49 (cs.setIfInBounds (k * 3) (.int .i64 (uD B k : Nat))) := by (rw [hw5]; exact hH4.put _ _))
                       (have hr5 : Rest w5 w.heap.size a L (2 + 69 * k + 1) := by (rw [hw5]; exact hr1.other (by show w.heap.size ≠ g; omega) _))
                       (have T2 := take_ok 4 h.at_ hbw5 (Nat.le_refl _) hr5 (by decide) (by decide) hs4 h.max)
                       (rw [hw5] at T2)
                       (have HW5 : Hid (w5 = w4.setCell ⟨g, k * 3, none⟩ (.int .i64 (uD B k : Nat))) := hw5)
                       (clear hw5))
                    | ((go_at_call 39)
                       (refine at_arg 0 (.int .i64 4) rfl ?_)
                       (refine Calls.mono T2 ?_)
                       (rintro e w6 ⟨A2, C2, u2, rfl, hy2, hn2, hc2, hr2, hq2⟩)
                       (clear T2)
                       (have hw2 : w6 = w5.setCell ⟨w.heap.size, 0, none⟩ u2 := by (rw [hq2, HW5.out]))
                       (clear hq2)
                       (have hbw6 : Below w.heap.size w w6 := by (rw [hw2]; exact hbw5.setCell (Nat.le_refl _) _))
                       (have hH6 : Has w6 g 49 (cs.setIfInBounds (k * 3) (.int .i64 (uD B k : Nat))) := by (rw [hw2]; exact hH5.other (by show g ≠ w.heap.size; omega) _))
                       (have d1 : w6.cell? ⟨g, k * 3 + 1, none⟩ = some x1 := (hH6.cell _).trans (by (rw [Array.getElem?_setIfInBounds, if_neg (by omega)]; exact hx1)))
                       (have z1 := hH6.free (k * 3 + 1))
                       (have HW2 : Hid (w6 = w5.setCell ⟨w.heap.size, 0, none⟩ u2) := hw2)
                       (clear hw2)
                       (have G2 : Calls Try.prog 40 #[.slice A2 4 C2, .int .i64 2048] w6 fun e w2 => e = .panicked ngp ∧ w2 = w6 := cget_no 4 C2 2048 (by decide) (by decide) hy2 (fun j => h.byt _) hS (by decide)))
                    | ((go_at_call 40)
                       (refine at_arg 1 (.int .i64 8) rfl ?_)
                       (refine Calls.mono G1 ?_)
                       (rintro e wz ⟨rfl, hwz⟩)
                       (obtain rfl : w4 = wz := hwz.symm)
                       (clear G1))
                    | ((go_at_call 40)
                       (refine at_arg 1 (.int .i64 2048) rfl ?_)
                       (refine Calls.mono G2 ?_)
                       (rintro e wz ⟨rfl, hwz⟩)
                       (obtain rfl : w6 = wz := hwz.symm)
                       (clear G2))
                    | ((refine at_dst 21 rfl ?_)
                       (refine wpList_is (some 21) (.pointer (some ⟨g, k * 3, none⟩)) rfl rfl (run_at_wr0 _ _ rfl g k n n rfl rfl hlt _) ?_))
                    | ((refine at_dst 28 rfl ?_)
                       (refine wpList_is (some 28) (.pointer (some ⟨g, k * 3, none⟩)) rfl rfl (run_at_wr0 _ _ rfl g k n n rfl rfl hlt _) ?_)))
                  exact ⟨rfl, hbw6, .inr ⟨fun hh => by (have h5 := (hh.2.2.2 k (by rw [← HN.out]; exact hlt)).2; omega), rfl⟩⟩
              · have hs4 : L < 2 + 69 * k + 1 + 4 := by omega
                go_wp2_with (first
                  | ((go_at_call 39)
                     (refine at_arg 0 (.int .i64 1) rfl ?_)
                     (refine Calls.mono T1 ?_)
                     (rintro e w4 ⟨A1, C1, u1, rfl, hy1, hn1, hc1, hr1, hq1⟩)
                     (clear T1)
                     (have hw1 := hq1)
                     (clear hq1)
                     (have hbw4 : Below w.heap.size w w4 := by (rw [hw1]; exact hbel.setCell (Nat.le_refl _) _))
                     (have hH4 : Has w4 g 49 cs := by (rw [hw1]; exact hH.other (by show g ≠ w.heap.size; omega) _))
                     (have d0 : w4.cell? ⟨g, k * 3, none⟩ = some x0 := (hH4.cell _).trans hx0)
                     (have z0 := hH4.free (k * 3))
                     (have HW1 : Hid (w4 = wr.setCell ⟨w.heap.size, 0, none⟩ u1) := hw1)
                     (clear hw1)
                     (have G1 : Calls Try.prog 40 #[.slice A1 1 C1, .int .i64 8] w4 fun e w2 => e = .returned (.int .i64 (uD B k : Nat)) ∧ w2 = w4 := cget_ok 1 C1 8 (by decide) (by decide) hy1 (fun j => h.byt _) hD (by decide))
                     (obtain ⟨w5, hw5⟩ : ∃ w5, w5 = w4.setCell ⟨g, k * 3, none⟩ (.int .i64 (uD B k : Nat)) := ⟨_, rfl⟩)
                     (have hbw5 : Below w.heap.size w w5 := by (rw [hw5]; exact hbw4.setCell (by show w.heap.size ≤ g; omega) _))
                     (have hH5 : Has w5 g 49 (cs.setIfInBounds (k * 3) (.int .i64 (uD B k : Nat))) := by (rw [hw5]; exact hH4.put _ _))
                     (have hr5 : Rest w5 w.heap.size a L (2 + 69 * k + 1) := by (rw [hw5]; exact hr1.other (by show w.heap.size ≠ g; omega) _))
                     (have N2 := take_no 4 hr5 (by decide) (by decide) hs4 h.max)
                     (rw [hw5] at N2)
                     (have HW5 : Hid (w5 = w4.setCell ⟨g, k * 3, none⟩ (.int .i64 (uD B k : Nat))) := hw5)
                     (clear hw5))
                  | ((go_at_call 39)
                     (refine at_arg 0 (.int .i64 4) rfl ?_)
                     (refine Calls.mono N2 ?_)
                     (rintro e wz ⟨rfl, hwz⟩)
                     (subst hwz)
                     (clear N2))
                  | ((go_at_call 40)
                     (refine at_arg 1 (.int .i64 8) rfl ?_)
                     (refine Calls.mono G1 ?_)
                     (rintro e wz ⟨rfl, hwz⟩)
                     (obtain rfl : w4 = wz := hwz.symm)
                     (clear G1))
                  | ((refine at_dst 21 rfl ?_)
                     (refine wpList_is (some 21) (.pointer (some ⟨g, k * 3, none⟩)) rfl rfl (run_at_wr0 _ _ rfl g k n n rfl rfl hlt _) ?_))
                  | ((refine at_dst 28 rfl ?_)
                     (refine wpList_is (some 28) (.pointer (some ⟨g, k * 3, none⟩)) rfl rfl (run_at_wr0 _ _ rfl g k n n rfl rfl hlt _) ?_)))
                exact ⟨rfl, (by rw [← HW5.out]; exact hbw5), .inr ⟨fun hh => by (have h5 := hh.2.2.1; rw [← HN.out] at h5; omega), rfl⟩⟩
            · have hD : 8 ≤ uD B k := by omega
              go_wp2_with (first
                | ((go_at_call 39)
                   (refine at_arg 0 (.int .i64 1) rfl ?_)
                   (refine Calls.mono T1 ?_)
                   (rintro e w4 ⟨A1, C1, u1, rfl, hy1, hn1, hc1, hr1, hq1⟩)
                   (clear T1)
                   (have hw1 := hq1)
                   (clear hq1)
                   (have hbw4 : Below w.heap.size w w4 := by (rw [hw1]; exact hbel.setCell (Nat.le_refl _) _))
                   (have hH4 : Has w4 g 49 cs := by (rw [hw1]; exact hH.other (by show g ≠ w.heap.size; omega) _))
                   (have d0 : w4.cell? ⟨g, k * 3, none⟩ = some x0 := (hH4.cell _).trans hx0)
                   (have z0 := hH4.free (k * 3))
                   (have HW1 : Hid (w4 = wr.setCell ⟨w.heap.size, 0, none⟩ u1) := hw1)
                   (clear hw1)
                   (have G1 : Calls Try.prog 40 #[.slice A1 1 C1, .int .i64 8] w4 fun e w2 => e = .panicked ngp ∧ w2 = w4 := cget_no 1 C1 8 (by decide) (by decide) hy1 (fun j => h.byt _) hD (by decide)))
                | ((go_at_call 40)
                   (refine at_arg 1 (.int .i64 8) rfl ?_)
                   (refine Calls.mono G1 ?_)
                   (rintro e wz ⟨rfl, hwz⟩)
                   (obtain rfl : w4 = wz := hwz.symm)
                   (clear G1))
                | ((refine at_dst 21 rfl ?_)
                   (refine wpList_is (some 21) (.pointer (some ⟨g, k * 3, none⟩)) rfl rfl (run_at_wr0 _ _ rfl g k n n rfl rfl hlt _) ?_)))
              exact ⟨rfl, hbw4, .inr ⟨fun hh => by (have h5 := (hh.2.2.2 k (by rw [← HN.out]; exact hlt)).1; omega), rfl⟩⟩
          · have N1 := take_no 1 hr (by decide) (by decide) (by omega) h.max
            go_wp2_with (first
              | ((go_at_call 39)
                 (refine at_arg 0 (.int .i64 1) rfl ?_)
                 (refine Calls.mono N1 ?_)
                 (rintro e wz ⟨rfl, hwz⟩)
                 (obtain rfl : wr = wz := hwz.symm)
                 (clear N1))
              | ((refine at_dst 21 rfl ?_)
                 (refine wpList_is (some 21) (.pointer (some ⟨g, k * 3, none⟩)) rfl rfl (run_at_wr0 _ _ rfl g k n n rfl rfl hlt _) ?_)))
            exact ⟨rfl, hbel, .inr ⟨fun hh => by (have h5 := hh.2.2.1; rw [← HN.out] at h5; omega), rfl⟩⟩
        · obtain rfl : k = n := by omega
          have hinv' := hinv
          obtain ⟨cs, A, Cc, hH, hC, ho, ⟨A2, C2, hp2, _⟩, hbel, hok, hle⟩ := hinv
          have d0 : wr.cell? ⟨w.heap.size, 0, none⟩ = some (.slice A2 (L - (2 + 69 * k) : Nat) C2) := hp2.cell 0
          obtain ⟨M, hM⟩ : ∃ M, M = L - (2 + 69 * k) := ⟨_, rfl⟩
          rw [← hM] at d0
          by_cases h0 : M = 0
          · have hM0 : ¬ (0 : Int) < (M : Int) := by omega
            clear hp2
            have HM : Hid (M = L - (2 + 69 * k)) := hM
            have H0 : Hid (M = 0) := h0
            clear hM h0
            go_wp2
            go_ret
            obtain ⟨A9, C9, hwl, hdb⟩ := hinv'.wl (k := 0) h.byt hn1
            have hMM := HM.out
            have hM0' := H0.out
            have hkn := HN.out
            refine ⟨hbel, .inl ⟨⟨h2, hn, by omega, fun i hi => hok i (by omega)⟩, A9, C9, g, ?_, by omega, ?_, fun i hi b off e => ?_⟩⟩
            · rw [← hkn]
              rfl
            · rw [← hkn]
              exact hwl
            · have := hdb i (by omega) b off e
              omega
          · have hM0 : (0 : Int) < (M : Int) := by omega
            have HM : Hid (M = L - (2 + 69 * k)) := hM
            clear hp2 h0
            go_wp2
            exact ⟨rfl, hbel, .inr ⟨fun hh => by (have h5 := hh.2.2.1; have hkn := HN.out; have hMM := HM.out; omega), rfl⟩⟩
    · have hn2 : 101 ≤ uN B := by omega
      subst hwx
      go_enter Try.func29, Try.ntmps29
      go_wp2_with (first
        | ((go_at_call 39)
           (refine Calls.mono T0 ?_)
           (rintro e w1 ⟨A1, C1, u1, rfl, hy1, hn1', hc1, hr1, hw1⟩)
           (clear T0)
           (have hbw1 : Below w.heap.size w w1 := by (rw [hw1]; exact hbx.setCell (Nat.le_refl _) _))
           (clear hw1)
           (have G0 : Calls Try.prog 40 #[.slice A1 2 C1, .int .i64 101] w1 fun e w2 => e = .panicked ngp ∧ w2 = w1 := cget_no 2 C1 101 (by decide) (by decide) hy1 (fun j => h.byt _) hn2 (by decide)))
        | ((go_at_call 40)
           (refine Calls.mono G0 ?_)
           (rintro e w2 ⟨rfl, hw2⟩)
           (obtain rfl : w1 = w2 := hw2.symm)
           (clear G0)))
      exact ⟨rfl, hbw1, .inr ⟨fun hh => hn hh.2.1, rfl⟩⟩
  · have T0 := take_no 2 hrx (by decide) (by decide) (by omega) h.max
    subst hwx
    go_enter Try.func29, Try.ntmps29
    go_wp2_with (first
      | ((go_at_call 39)
         (refine Calls.mono T0 ?_)
         (rintro e w1 ⟨rfl, hw1⟩)
         (subst hw1)
         (clear T0)))
    exact ⟨rfl, hbx, .inr ⟨fun hh => h2 hh.1, rfl⟩⟩
end Go.Proofs.Ytbiicdehgogikaa
