/- DeviceTogether, whole. -/
import Derived.Test.YtalcalecmklcoaaDvTogP
import Derived.Test.YtalcalecmklcoaaDvTogN
namespace Go.Proofs.Ytalcalecmklcoaa
open Go.ChangeShapes Go.WideShapes Go.ChangeAt Go.RowKit
set_option linter.unusedVariables false

variable {D : DevRep}

theorem together_any (hD : DevOk D) (hM : DevMore D) (hT : DevTog D) (w : World) (sa : Option Addr) (len scap : Nat) (O : Nat → TwoV) (hS : Scr2 w sa len O) (at_ : Int) (hat : i64ok at_) (ka : Option Addr) (kL kC : Nat) (kb : Nat → Bool) (hk : BoIn w ka kL kC kb) :
    Calls Try.prog 7 #[.slice sa len scap, .int .i64 at_, .slice ka kL kC] w fun e w' => e = .returned (.bool true) ∧ Below w.heap.size w w' := by
  obtain ⟨q, hq⟩ : ∃ q : Nat, (0 ≤ at_ ∧ at_ = (q : Int)) ∨ (at_ < 0 ∧ at_ = -((q : Int) + 1)) := ⟨if 0 ≤ at_ then at_.toNat else (-(at_ + 1)).toNat, by split <;> omega⟩
  have hq2 : (q : Int) ≤ 9223372036854775807 := by have := hat.1; have := hat.2; omega
  rcases hq with ⟨h0, rfl⟩ | ⟨h0, rfl⟩
  · exact together_pos hD hM hT w sa len scap O hS q hq2 ka kL kC kb hk
  · exact together_neg hD hM hT w sa len scap O hS q hq2 ka kL kC kb hk
end Go.Proofs.Ytalcalecmklcoaa
