/- The document's Build, of data that may not be. -/
import Derived.Test.YtoeanaadlihkeaaDoorMkRef3
namespace Go.Proofs.YtoeanaadlihkeaaDoor
open Go.ChangeShapes Go.WideShapes Go.ChangeAt Go.RowKit
set_option linter.unusedVariables false

set_option maxRecDepth 100000 in
set_option maxHeartbeats 3200000 in
theorem rbuild_none (L c : Nat) (a : Option Addr) (w : World) (hL : L ≤ maxLen) (hno : ¬ (L % 64 = 0 ∧ 64 ≤ L ∧ L ≤ 131072)) :
    Calls Tryd.prog 15 #[.slice a L c] w fun e w' => e = .returned (.tuple #[.slice none 0 0, .agg (cellsN .u8 32 fun _ => 0), .int .i64 1]) ∧ Below w.heap.size w w' := by
  unfold maxLen at hL
  have hN : Has (w.alloc (.cells (cellsN .u8 32 fun _ => 0) 28)) w.heap.size 28 (cellsN .u8 32 fun _ => 0) := Has.new _ _ _
  have hB : Below w.heap.size w (w.alloc (.cells (cellsN .u8 32 fun _ => 0) 28)) := (Below.refl _ _).alloc (Nat.le_refl _) _
  go_enter Tryd.func15, Tryd.ntmps15
  rcases (show ¬ ((L : Int) % 64 = 0) ∨ ((L : Int) % 64 = 0 ∧ (L : Int) / 64 < 1) ∨ ((L : Int) % 64 = 0 ∧ ¬ ((L : Int) / 64 < 1) ∧ 2048 < (L : Int) / 64) from by omega) with h | ⟨h, h'⟩ | ⟨h, h', h''⟩
  all_goals
    go_wp2_with (first
      | ((refine wpList_store_rowG rfl 28 _ _ rfl (w.heap.size) (cellsN .u8 32 fun _ => 0) rfl rfl 28 _ hN (by rw [cellsN_size]; exact Tryd.size28) (by simp [cellsN_size]) (cellsN_one _ _ _) ?_)
         (intro w6 hw6)
         (have hR6 : Has w6 w.heap.size 28 (cellsN .u8 32 fun _ => 0) := (by rw [hw6]; exact hN.setRow _))
         (have hB6 : Below w.heap.size w w6 := (by rw [hw6]; exact below_setRow hB (Nat.le_refl _) _))
         (clear hw6)))
    exact bodyPost_ret (results_mix rfl _ _ (w.heap.size) 28 _ (0, 0) 32 5 rfl hR6 Tryd.underlying28 (by rw [cellsN_size]; exact Tryd.size28)) rfl ⟨rfl, hB6⟩

theorem rbuild_no : BuildNo 15 := by
  intro L d a c w hG hc hb hd hL hno
  refine (rbuild_none L c a w hL hno).mono ?_
  rintro e w' ⟨rfl, hb⟩
  exact ⟨none, 0, rfl, fun _ => rfl, hb⟩
end Go.Proofs.YtoeanaadlihkeaaDoor
