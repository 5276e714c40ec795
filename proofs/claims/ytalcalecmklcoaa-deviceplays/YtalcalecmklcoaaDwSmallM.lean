/- device: Size, Moment. -/
import Derived.Test.YtalcalecmklcoaaDwSmall
namespace Go.Proofs.Ytalcalecmklcoaa
open Go.ChangeShapes Go.WideShapes Go.ChangeAt Go.RowKit
set_option linter.unusedVariables false

variable {w w' : World} {p c bb bs bc : Nat} {s : DS} {vw vs : Value}

theorem size_r (h : RepAt w p s c bb bs bc vw vs) : Calls Try.prog 35 #[ptr p] w fun e w' => e = .returned (.int .i64 (s.n : Nat)) ∧ w' = w := by
  have h0 : w.cell? ⟨p, 0, none⟩ = some (.int .i64 (s.n : Nat)) := h.cell 0
  clear h
  go_enter Try.func35, Try.ntmps35
  go_wp2
  go_ret
  exact ⟨rfl, rfl⟩

theorem moment_r {m : Nat} (h : RepAt w p s c bb bs bc vw vs) (hc : Has w c 80 #[.int .i64 (m : Nat)]) : Calls Try.prog 38 #[ptr p] w fun e w' => e = .returned (.int .i64 (m : Nat)) ∧ w' = w := by
  have h0 : w.cell? ⟨p, 8, none⟩ = some (.pointer (some ⟨c, 0, none⟩)) := h.cell 8
  have h1 : w.cell? ⟨c, 0, none⟩ = some (.int .i64 (m : Nat)) := hc.cell 0
  clear h hc
  go_enter Try.func38, Try.ntmps38
  go_wp2
  go_ret
  exact ⟨rfl, rfl⟩
end Go.Proofs.Ytalcalecmklcoaa
