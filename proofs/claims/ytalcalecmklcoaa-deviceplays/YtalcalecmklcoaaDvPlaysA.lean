/- DevicePlays, whole. -/
import Derived.Test.YtalcalecmklcoaaDvPlays
import Derived.Test.YtalcalecmklcoaaDvPlaysN
namespace Go.Proofs.Ytalcalecmklcoaa
open Go.ChangeShapes Go.WideShapes Go.ChangeAt Go.RowKit
set_option linter.unusedVariables false

variable {D : DevRep}

theorem plays_any (hD : DevOk D) (hM : DevMore D) (hT : DevTog D) (w : World) (z : Int) (hz : i64ok z) (sa : Option Addr) (len scap : Nat) (O : Nat → OpV) (hS : Script w sa len O ∧ ∀ i, i < len → (O i).L ≤ 140737488351232) :
    Calls Try.prog 3 #[.int .i64 z, .slice sa len scap] w fun e w' => e = .returned (.bool true) ∧ Below w.heap.size w w' := by
  by_cases h : 1 ≤ z ∧ z ≤ 2048
  · obtain ⟨n, rfl⟩ : ∃ n : Nat, z = (n : Int) := ⟨z.toNat, by omega⟩
    exact plays_yes hD hM hT w n (by omega) (by omega) sa len scap O hS.1 hS.2
  · exact plays_no hD w z hz h sa len scap (by have := hS.1.1; unfold maxLen at this; omega)
end Go.Proofs.Ytalcalecmklcoaa
