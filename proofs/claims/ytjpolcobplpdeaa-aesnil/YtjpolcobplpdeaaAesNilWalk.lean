/- AesNil, walked. -/
import Derived.Test.YtjpolcobplpdeaaAesAlive
namespace Go.Proofs.Ytjpolcobplpdeaa
open Go.ChangeShapes Go.WideShapes Go.ChangeAt Go.RowKit
set_option linter.unusedVariables false

set_option maxRecDepth 100000 in
theorem nil_walk (f : Nat → Nat) (w : World) : Calls Try.prog 5 #[.agg (cellsN .u8 16 f)] w fun e w' => e = .returned (.bool true) ∧ Below w.heap.size w w' := by
  have hz : ∀ j, j < 16 → (fun _ : Nat => 0) j < 256 := fun _ _ => (by decide : 0 < 256)
  have hen := fun w => encrypt_nil f w
  have hde := fun w => decrypt_nil f w
  have hB0 : Has (w.alloc (.cells (cellsN .u8 16 f) 23)) w.heap.size 23 (cellsN .u8 16 f) := Has.new _ _ _
  have hal := alive_any (w.alloc (.cells (cellsN .u8 16 f) 23))
  go_enter Try.func5, Try.ntmps5
  go_wp2_with (first
    | (go_at_call 10; refine hal.mono ?_; rintro e w1 ⟨rfl, hb1⟩; have hB1 := hB0.below hb1 hB0.lt)
    | (refine wpList_val _ (.agg (cellsN .u8 16 f)) rfl (by rfl) (run_load_row 23 (.tmp 1) rfl w.heap.size rfl _ 23 Try.underlying23 (by rw [cellsN_size]; exact Try.size23) _ hB1) ?_)
    | (go_at_call 11; refine (hen _).mono ?_; rintro e w2 ⟨rfl, hb2⟩; have hB2 := hB1.below hb2 hB1.lt)
    | (refine wpList_val _ (.bool true) rfl (by rfl) (run_eql_true (.tmp 8) (.tmp 9) rfl (fun _ => 0) rfl rfl hz _) ?_)
    | (refine wpList_val _ (.agg (cellsN .u8 16 f)) rfl (by rfl) (run_load_row 23 (.tmp 1) rfl w.heap.size rfl _ 23 Try.underlying23 (by rw [cellsN_size]; exact Try.size23) _ hB2) ?_)
    | (go_at_call 13; refine (hde _).mono ?_; rintro e w3 ⟨rfl, hb3⟩)
    | (refine wpList_val _ (.bool true) rfl (by rfl) (run_eql_true (.tmp 15) (.tmp 16) rfl (fun _ => 0) rfl rfl hz _) ?_))
  go_ret
  have h1 : Below w.heap.size w w1 := ((Below.refl _ _).alloc (Nat.le_refl _) _).trans (hb1.mono (by simp))
  have h2 := h1.trans (hb2.mono h1.size)
  exact ⟨rfl, h2.trans (hb3.mono h2.size)⟩
end Go.Proofs.Ytjpolcobplpdeaa
