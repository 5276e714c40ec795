/- LexReserved, walked. -/
import Derived.Test.YtefjfjjoghikeaaDoorLxReserved
namespace Go.Proofs.YtefjfjjoghikeaaDoor
open Go.ChangeShapes Go.WideShapes Go.ChangeAt Go.RowKit
set_option linter.unusedVariables false

set_option maxRecDepth 100000 in
set_option maxHeartbeats 2000000 in
theorem lexReserved_c (x : List UInt8) (w : World) : Calls Tryd.prog 3 #[.string (bs x)] w fun e w' => e = .returned (.bool true) ∧ Below w.heap.size w w' := by
  have ha := alive_c w
  have h1 := fun W => reserved_c x W
  have h2 := fun W => rreserved_c x W
  have h3 : ∀ W, Calls Tryd.prog 9 #[.string ⟨#[100, 101, 118, 105, 99, 101]⟩] W fun e w' => e = .returned (.bool true) ∧ w' = W := fun W => reserved_c [100, 101, 118, 105, 99, 101] W
  have h4 : ∀ W, Calls Tryd.prog 9 #[.string ⟨#[100, 101, 118, 105, 99]⟩] W fun e w' => e = .returned (.bool false) ∧ w' = W := fun W => reserved_c [100, 101, 118, 105, 99] W
  generalize resv x = b at h1 h2
  go_enter Tryd.func3, Tryd.ntmps3
  go_wp2_with (first
    | (go_at_call 8; refine ha.mono ?_; rintro e w1 ⟨rfl, hb1⟩)
    | (go_at_call 10; refine (h2 _).mono ?_; rintro e w2 ⟨rfl, hb2⟩)
    | (go_at_call 9; refine at_argL 0 (.string (bs x)) rfl ?_; refine (h1 _).mono ?_; rintro e w' ⟨rfl, rfl⟩)
    | (go_at_call 9; refine at_argL 0 (.string ⟨#[100, 101, 118, 105, 99, 101]⟩) rfl ?_; refine (h3 _).mono ?_; rintro e w' ⟨rfl, rfl⟩)
    | (go_at_call 9; refine at_argL 0 (.string ⟨#[100, 101, 118, 105, 99]⟩) rfl ?_; refine (h4 _).mono ?_; rintro e w' ⟨rfl, rfl⟩))
  go_ret
  exact ⟨rfl, hb1.trans (hb2.mono hb1.size)⟩
end Go.Proofs.YtefjfjjoghikeaaDoor
