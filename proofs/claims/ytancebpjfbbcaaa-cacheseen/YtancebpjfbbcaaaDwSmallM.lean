/- device: Size, Moment. -/
import Derived.Test.YtancebpjfbbcaaaDwSmall
namespace Go.Proofs.Ytancebpjfbbcaaa
open Go.ChangeShapes Go.WideShapes Go.ChangeAt Go.RowKit
set_option linter.unusedVariables false

variable {w w' : World} {p c bb bs bc : Nat} {s : DS} {vw vs : Value}

theorem size_r (h : RepAt w p s c bb bs bc vw vs) : Calls Try.prog 66 #[ptr p] w fun e w' => e = .returned (.int .i64 (s.n : Nat)) ∧ w' = w := by
  have h0 : w.cell? ⟨p, 0, none⟩ = some (.int .i64 (s.n : Nat)) := h.cell 0
  clear h
  go_enter Try.func66, Try.ntmps66
  go_wp2
  go_ret
  exact ⟨rfl, rfl⟩

end Go.Proofs.Ytancebpjfbbcaaa
