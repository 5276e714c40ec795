/- The program's Build, of data that may and that may not be. -/
import Derived.Test.YtoeanaadlihkeabDoorMkBuildP
namespace Go.Proofs.YtoeanaadlihkeabDoor
open Go.ChangeShapes Go.WideShapes Go.ChangeAt Go.RowKit
set_option linter.unusedVariables false

theorem Build_ok : BuildOk 6 := fun n d a c w hG h1 h2 hc hb hd => callsIn_wide.1 (Build_in n d a c w hG h1 h2 hc hb hd)

set_option maxRecDepth 100000 in
set_option maxHeartbeats 2000000 in
theorem Build_no : BuildNo 6 := by
  intro L d a c w hG hc hb hd hL hno
  have hN : Has (w.alloc (.cells (cellsN .u8 32 fun _ => 0) 24)) w.heap.size 24 (cellsN .u8 32 fun _ => 0) := Has.new _ _ _
  have hb0 : Below w.heap.size w (w.alloc (.cells (cellsN .u8 32 fun _ => 0) 24)) := (Below.refl _ _).alloc (Nat.le_refl _) _
  unfold maxLen at hL
  by_cases hr : L % 64 = 0
  · obtain ⟨n, hn⟩ : ∃ n, n = L / 64 := ⟨_, rfl⟩
    have hq : (L : Int) / 64 = (n : Int) := by omega
    have hr' : (L : Int) % 64 = 0 := by omega
    have KL : Hid (∀ wz, Calls Tryd.prog 11 #[.int .i64 (n : Nat)] wz fun e w' => ∃ la lc, e = .returned (.slice la 0 lc) ∧ Below wz.heap.size wz w') := fun wz => Calls.mono (Levels_ok n wz ⟨by omega, by omega⟩) (by
      rintro e w' ⟨la, lc, rfl, _, _, _, hb⟩
      rw [levN_out (by omega)]
      exact ⟨la, lc, rfl, hb⟩)
    clear hn hr hno
    go_enter Tryd.func6, Tryd.ntmps6
    go_wp2_with (first
      | ((go_at_call 11)
         (refine (KL.out _).mono ?_)
         (rintro e w1 ⟨la, lc, rfl, hb1⟩)
         (have hN1 := hN.below hb1 hN.lt)
         (have hB1 := hb0.trans (hb1.mono hb0.size))
         (clear hN hb0 hb1 KL))
      | ((refine wpList_store_rowG rfl 24 _ _ rfl (w.heap.size) (cellsN .u8 32 fun _ => 0) rfl rfl 24 _ hN1 (by rw [cellsN_size]; exact Tryd.size24) (by simp [cellsN_size]) (cellsN_one _ _ _) ?_)
         (intro w6 hw6)
         (have hR6 : Has w6 w.heap.size 24 (cellsN .u8 32 fun _ => 0) := (by rw [hw6]; exact hN1.setRow _))
         (have hB6 : Below w.heap.size w w6 := (by rw [hw6]; exact below_setRow hB1 (Nat.le_refl _) _))
         (clear hw6)))
    refine bodyPost_ret (results_mix rfl _ _ w.heap.size 24 _ (0, 0) 32 5 rfl hR6 Tryd.underlying24 (by rw [cellsN_size]; exact Tryd.size24)) rfl ?_
    exact ⟨none, 0, rfl, fun _ => rfl, hB6⟩
  · have hr' : ¬ (L : Int) % 64 = 0 := by omega
    clear hno
    go_enter Tryd.func6, Tryd.ntmps6
    go_wp2_with (first
      | ((refine wpList_store_rowG rfl 24 _ _ rfl (w.heap.size) (cellsN .u8 32 fun _ => 0) rfl rfl 24 _ hN (by rw [cellsN_size]; exact Tryd.size24) (by simp [cellsN_size]) (cellsN_one _ _ _) ?_)
         (intro w6 hw6)
         (have hR6 : Has w6 w.heap.size 24 (cellsN .u8 32 fun _ => 0) := (by rw [hw6]; exact hN.setRow _))
         (have hB6 : Below w.heap.size w w6 := (by rw [hw6]; exact below_setRow hb0 (Nat.le_refl _) _))
         (clear hw6)))
    refine bodyPost_ret (results_mix rfl _ _ w.heap.size 24 _ (0, 0) 32 5 rfl hR6 Tryd.underlying24 (by rw [cellsN_size]; exact Tryd.size24)) rfl ?_
    exact ⟨none, 0, rfl, fun _ => rfl, hB6⟩
end Go.Proofs.YtoeanaadlihkeabDoor
