/- The walk of OctetsFit: for every three ints it returns true and writes nothing that was there. -/
import Derived.Test.YtcgoepbmbeimmabAlive
namespace Go.Proofs.Ytcgoepbmbeimmab
open Go.ChangeShapes Go.WideShapes Go.ChangeAt Go.RowKit

theorem fits_edge (s : Int) (w : World) (hs : -9223372036854775808 ≤ s ∧ s ≤ 9223372036854775807) :
    Calls Try.prog 5 #[.int .i64 (wrap64 (wrap64 9223372036854775808 - 1)), .int .i64 1, .int .i64 s] w fun e w' => e = .returned (.bool false) ∧ w' = w := by
  have hw : wrap64 (wrap64 9223372036854775808 - 1) = 9223372036854775807 := by unfold wrap64; omega
  have f3 : fitsB 9223372036854775807 1 s = false := by unfold fitsB; simp; omega
  have h := fits_any 9223372036854775807 1 s w (by unfold I64; omega) (by unfold I64; omega) hs
  rw [f3] at h
  rw [hw]
  exact h

theorem i64_of {a : Int} (h : (Lit.int .i64 a).wf = true) : I64 a := bounds_i64 h

theorem fit_neg (a n s : Int) (w : World) (ha : -9223372036854775808 ≤ a ∧ a ≤ 9223372036854775807) (hn : -9223372036854775808 ≤ n ∧ n ≤ 9223372036854775807) (hs : -9223372036854775808 ≤ s ∧ s ≤ 9223372036854775807) (c0 : n < 0) :
    Calls Try.prog 3 #[.int .i64 a, .int .i64 n, .int .i64 s] w fun e w' => e = .returned (.bool true) ∧ Below w.heap.size w w' := by
  have f1 : fitsB a n s = false := by unfold fitsB; simp; omega
  have hal := alive_any w
  go_enter Try.func3, Try.ntmps3
  go_wp2_with (first | (go_at_call 5; refine (fits_any _ _ _ _ (by unfold I64; omega) (by unfold I64; omega) (by unfold I64; omega)).mono ?_; rintro e w1 ⟨rfl, rfl⟩) | (go_at_call 6; refine hal.mono ?_; rintro e w1 ⟨rfl, hb⟩))
  all_goals (go_ret; exact ⟨rfl, hb⟩)

theorem fit_zero_in (a n s : Int) (w : World) (ha : -9223372036854775808 ≤ a ∧ a ≤ 9223372036854775807) (hn : -9223372036854775808 ≤ n ∧ n ≤ 9223372036854775807) (hs : -9223372036854775808 ≤ s ∧ s ≤ 9223372036854775807) (c0 : n = 0) (c2 : 0 ≤ a) (c3 : a ≤ s) :
    Calls Try.prog 3 #[.int .i64 a, .int .i64 n, .int .i64 s] w fun e w' => e = .returned (.bool true) ∧ Below w.heap.size w w' := by
  subst c0
  have f1 : fitsB a 0 s = true := by unfold fitsB; simp; omega
  have hal := alive_any w
  go_enter Try.func3, Try.ntmps3
  go_wp2_with (first | (go_at_call 5; refine (fits_any _ _ _ _ (by unfold I64; omega) (by unfold I64; omega) (by unfold I64; omega)).mono ?_; rintro e w1 ⟨rfl, rfl⟩) | (go_at_call 6; refine hal.mono ?_; rintro e w1 ⟨rfl, hb⟩))
  all_goals (go_ret; exact ⟨rfl, hb⟩)

theorem fit_zero_out (a n s : Int) (w : World) (ha : -9223372036854775808 ≤ a ∧ a ≤ 9223372036854775807) (hn : -9223372036854775808 ≤ n ∧ n ≤ 9223372036854775807) (hs : -9223372036854775808 ≤ s ∧ s ≤ 9223372036854775807) (c0 : n = 0) (c2 : 0 ≤ a) (c3 : s < a) :
    Calls Try.prog 3 #[.int .i64 a, .int .i64 n, .int .i64 s] w fun e w' => e = .returned (.bool true) ∧ Below w.heap.size w w' := by
  subst c0
  have hd : decide (a ≤ s) = false := by simp; omega
  have f1 : fitsB a 0 s = false := by unfold fitsB; simp; omega
  have hal := alive_any w
  go_enter Try.func3, Try.ntmps3
  go_wp2_with (first | (go_at_call 5; refine (fits_any _ _ _ _ (by unfold I64; omega) (by unfold I64; omega) (by unfold I64; omega)).mono ?_; rintro e w1 ⟨rfl, rfl⟩) | (go_at_call 6; refine hal.mono ?_; rintro e w1 ⟨rfl, hb⟩))
  all_goals (go_ret; exact ⟨rfl, hb⟩)

theorem fit_zero_neg (a n s : Int) (w : World) (ha : -9223372036854775808 ≤ a ∧ a ≤ 9223372036854775807) (hn : -9223372036854775808 ≤ n ∧ n ≤ 9223372036854775807) (hs : -9223372036854775808 ≤ s ∧ s ≤ 9223372036854775807) (c0 : n = 0) (c2 : a < 0) :
    Calls Try.prog 3 #[.int .i64 a, .int .i64 n, .int .i64 s] w fun e w' => e = .returned (.bool true) ∧ Below w.heap.size w w' := by
  subst c0
  have f1 : fitsB a 0 s = false := by unfold fitsB; simp; omega
  have hal := alive_any w
  go_enter Try.func3, Try.ntmps3
  go_wp2_with (first | (go_at_call 5; refine (fits_any _ _ _ _ (by unfold I64; omega) (by unfold I64; omega) (by unfold I64; omega)).mono ?_; rintro e w1 ⟨rfl, rfl⟩) | (go_at_call 6; refine hal.mono ?_; rintro e w1 ⟨rfl, hb⟩))
  all_goals (go_ret; exact ⟨rfl, hb⟩)

theorem fit_pos_neg (a n s : Int) (w : World) (ha : -9223372036854775808 ≤ a ∧ a ≤ 9223372036854775807) (hn : -9223372036854775808 ≤ n ∧ n ≤ 9223372036854775807) (hs : -9223372036854775808 ≤ s ∧ s ≤ 9223372036854775807) (c0 : 0 < n) (c1 : a < 0) :
    Calls Try.prog 3 #[.int .i64 a, .int .i64 n, .int .i64 s] w fun e w' => e = .returned (.bool true) ∧ Below w.heap.size w w' := by
  have f1 : fitsB a n s = false := by unfold fitsB; simp; omega
  have f2 : fitsB a 1 s = false := by unfold fitsB; simp; omega
  have hal := alive_any w
  go_enter Try.func3, Try.ntmps3
  go_wp2_with (first | (go_at_call 5; refine (fits_any _ _ _ _ (by unfold I64; omega) (by unfold I64; omega) (by unfold I64; omega)).mono ?_; rintro e w1 ⟨rfl, rfl⟩) | (go_at_call 6; refine hal.mono ?_; rintro e w1 ⟨rfl, hb⟩))
  all_goals (go_ret; exact ⟨rfl, hb⟩)

theorem fit_big_a (a n s : Int) (w : World) (ha : -9223372036854775808 ≤ a ∧ a ≤ 9223372036854775807) (hn : -9223372036854775808 ≤ n ∧ n ≤ 9223372036854775807) (hs : -9223372036854775808 ≤ s ∧ s ≤ 9223372036854775807) (c0 : 0 < n) (c1 : 4611686018427387904 < a) :
    Calls Try.prog 3 #[.int .i64 a, .int .i64 n, .int .i64 s] w fun e w' => e = .returned (.bool true) ∧ Below w.heap.size w w' := by
  have hal := alive_any w
  go_enter Try.func3, Try.ntmps3
  go_wp2_with (first | (go_at_call 5; refine (fits_any _ _ _ _ (by unfold I64; omega) (by unfold I64; omega) (by unfold I64; omega)).mono ?_; rintro e w1 ⟨rfl, rfl⟩) | (go_at_call 6; refine hal.mono ?_; rintro e w1 ⟨rfl, hb⟩))
  all_goals (go_ret; exact ⟨rfl, hb⟩)

theorem fit_big_n (a n s : Int) (w : World) (ha : -9223372036854775808 ≤ a ∧ a ≤ 9223372036854775807) (hn : -9223372036854775808 ≤ n ∧ n ≤ 9223372036854775807) (hs : -9223372036854775808 ≤ s ∧ s ≤ 9223372036854775807) (c0 : 0 < n) (c1 : 0 ≤ a) (c2 : a ≤ 4611686018427387904) (c3 : 4611686018427387904 < n) :
    Calls Try.prog 3 #[.int .i64 a, .int .i64 n, .int .i64 s] w fun e w' => e = .returned (.bool true) ∧ Below w.heap.size w w' := by
  have hal := alive_any w
  go_enter Try.func3, Try.ntmps3
  go_wp2_with (first | (go_at_call 5; refine (fits_any _ _ _ _ (by unfold I64; omega) (by unfold I64; omega) (by unfold I64; omega)).mono ?_; rintro e w1 ⟨rfl, rfl⟩) | (go_at_call 6; refine hal.mono ?_; rintro e w1 ⟨rfl, hb⟩))
  all_goals (go_ret; exact ⟨rfl, hb⟩)

theorem fit_pos_in (a n s : Int) (w : World) (ha : -9223372036854775808 ≤ a ∧ a ≤ 9223372036854775807) (hn : -9223372036854775808 ≤ n ∧ n ≤ 9223372036854775807) (hs : -9223372036854775808 ≤ s ∧ s ≤ 9223372036854775807) (c0 : 0 < n) (c1 : 0 ≤ a) (c2 : a ≤ 4611686018427387904) (c3 : n ≤ 4611686018427387904) (c4 : a + n ≤ s) :
    Calls Try.prog 3 #[.int .i64 a, .int .i64 n, .int .i64 s] w fun e w' => e = .returned (.bool true) ∧ Below w.heap.size w w' := by
  have f1 : fitsB a n s = true := by unfold fitsB; simp; omega
  have f2 : fitsB a 1 s = true := by unfold fitsB; simp; omega
  have f3 : fitsB (a + n - 1) 1 s = true := by unfold fitsB; simp; omega
  have hal := alive_any w
  go_enter Try.func3, Try.ntmps3
  go_wp2_with (first | (go_at_call 5; refine (fits_any _ _ _ _ (by unfold I64; omega) (by unfold I64; omega) (by unfold I64; omega)).mono ?_; rintro e w1 ⟨rfl, rfl⟩) | (go_at_call 6; refine hal.mono ?_; rintro e w1 ⟨rfl, hb⟩))
  all_goals (go_ret; exact ⟨rfl, hb⟩)

theorem fit_edge (a n s : Int) (w : World) (ha : -9223372036854775808 ≤ a ∧ a ≤ 9223372036854775807) (hn : -9223372036854775808 ≤ n ∧ n ≤ 9223372036854775807) (hs : -9223372036854775808 ≤ s ∧ s ≤ 9223372036854775807) (c0 : n = 4611686018427387904) (c1 : a = 4611686018427387904) :
    Calls Try.prog 3 #[.int .i64 a, .int .i64 n, .int .i64 s] w fun e w' => e = .returned (.bool true) ∧ Below w.heap.size w w' := by
  subst c0 c1
  have f1 : fitsB 4611686018427387904 4611686018427387904 s = false := by unfold fitsB; simp; omega
  have hal := alive_any w
  by_cases c5 : fitsB 4611686018427387904 1 s = true
  · go_enter Try.func3, Try.ntmps3
    go_wp2_with (first | (go_at_call 5; refine (fits_any _ _ _ _ (by unfold I64; omega) (by unfold I64; omega) (by unfold I64; omega)).mono ?_; rintro e w1 ⟨rfl, rfl⟩) | (go_at_call 5; refine (fits_edge s _ hs).mono ?_; rintro e w1 ⟨rfl, rfl⟩) | (go_at_call 6; refine hal.mono ?_; rintro e w1 ⟨rfl, hb⟩))
    all_goals (go_ret; exact ⟨rfl, hb⟩)
  · have c5 : fitsB 4611686018427387904 1 s = false := by simpa using c5
    go_enter Try.func3, Try.ntmps3
    go_wp2_with (first | (go_at_call 5; refine (fits_any _ _ _ _ (by unfold I64; omega) (by unfold I64; omega) (by unfold I64; omega)).mono ?_; rintro e w1 ⟨rfl, rfl⟩) | (go_at_call 5; refine (fits_edge s _ hs).mono ?_; rintro e w1 ⟨rfl, rfl⟩) | (go_at_call 6; refine hal.mono ?_; rintro e w1 ⟨rfl, hb⟩))
    all_goals (go_ret; exact ⟨rfl, hb⟩)

theorem fit_pos_out (a n s : Int) (w : World) (ha : -9223372036854775808 ≤ a ∧ a ≤ 9223372036854775807) (hn : -9223372036854775808 ≤ n ∧ n ≤ 9223372036854775807) (hs : -9223372036854775808 ≤ s ∧ s ≤ 9223372036854775807) (c0 : 0 < n) (c1 : 0 ≤ a) (c2 : a ≤ 4611686018427387904) (c3 : n ≤ 4611686018427387904) (c4 : s < a + n) (c6 : a + n ≤ 9223372036854775807) :
    Calls Try.prog 3 #[.int .i64 a, .int .i64 n, .int .i64 s] w fun e w' => e = .returned (.bool true) ∧ Below w.heap.size w w' := by
  have f1 : fitsB a n s = false := by unfold fitsB; simp; omega
  have f3 : fitsB (a + n - 1) 1 s = false := by unfold fitsB; simp; omega
  have hal := alive_any w
  by_cases c5 : fitsB a 1 s = true
  · go_enter Try.func3, Try.ntmps3
    go_wp2_with (first | (go_at_call 5; refine (fits_any _ _ _ _ (by unfold I64; omega) (by unfold I64; omega) (by unfold I64; omega)).mono ?_; rintro e w1 ⟨rfl, rfl⟩) | (go_at_call 6; refine hal.mono ?_; rintro e w1 ⟨rfl, hb⟩))
    all_goals (go_ret; exact ⟨rfl, hb⟩)
  · have c5 : fitsB a 1 s = false := by simpa using c5
    go_enter Try.func3, Try.ntmps3
    go_wp2_with (first | (go_at_call 5; refine (fits_any _ _ _ _ (by unfold I64; omega) (by unfold I64; omega) (by unfold I64; omega)).mono ?_; rintro e w1 ⟨rfl, rfl⟩) | (go_at_call 6; refine hal.mono ?_; rintro e w1 ⟨rfl, hb⟩))
    all_goals (go_ret; exact ⟨rfl, hb⟩)

theorem fit_walk (a n s : Int) (wa : (Lit.int .i64 a).wf = true) (wn : (Lit.int .i64 n).wf = true) (ws : (Lit.int .i64 s).wf = true) (w : World) :
    Calls Try.prog 3 #[.int .i64 a, .int .i64 n, .int .i64 s] w fun e w' => e = .returned (.bool true) ∧ Below w.heap.size w w' := by
  have ha := bounds_i64 wa
  have hn := bounds_i64 wn
  have hs := bounds_i64 ws
  by_cases c0 : n < 0
  · exact fit_neg a n s w ha hn hs c0
  · by_cases c1 : n = 0
    · by_cases c2 : a < 0
      · exact fit_zero_neg a n s w ha hn hs c1 c2
      · by_cases c3 : a ≤ s
        · exact fit_zero_in a n s w ha hn hs c1 (by omega) c3
        · exact fit_zero_out a n s w ha hn hs c1 (by omega) (by omega)
    · by_cases c2 : a < 0
      · exact fit_pos_neg a n s w ha hn hs (by omega) c2
      · by_cases c3 : 4611686018427387904 < a
        · exact fit_big_a a n s w ha hn hs (by omega) c3
        · by_cases c4 : 4611686018427387904 < n
          · exact fit_big_n a n s w ha hn hs (by omega) (by omega) (by omega) c4
          · by_cases c5 : a + n ≤ s
            · exact fit_pos_in a n s w ha hn hs (by omega) (by omega) (by omega) (by omega) c5
            · by_cases c6 : a + n ≤ 9223372036854775807
              · exact fit_pos_out a n s w ha hn hs (by omega) (by omega) (by omega) (by omega) (by omega) c6
              · exact fit_edge a n s w ha hn hs (by omega) (by omega)
end Go.Proofs.Ytcgoepbmbeimmab
