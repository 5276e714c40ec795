/- The reference's CutMoment, what it is made of left open. -/
import Derived.Test.YtalcalecmklcoaaRfPb
import Derived.Test.YtalcalecmklcoaaRfCutM
namespace Go.Proofs.Ytalcalecmklcoaa
open Go.ChangeShapes Go.WideShapes Go.ChangeAt Go.RowKit
set_option linter.unusedVariables false

variable {N : Nat} {w w' : World} {q m : Nat} {s : DS} {G : Nat → Prop}

theorem rin_cutMo (h : RefF N w q s m G) (hN : N ≤ 10000) (i : Int) (a : Option Addr) (L C : Nat) (kf : Nat → Bool) (hk : Bools w a L kf) :
    Calls Try.prog 30 #[ptr q, .int .i64 i, .slice a L C] w fun e w' => Below w.heap.size w w' ∧ ∃ q' G', e = .returned (ptr q') ∧ Grew w G G' ∧ RefF N w' q' (cutMoD s m i (keepOf kf L)) 0 G' := by
  obtain ⟨Fl, Ll, sp, vF, vL, vS, h, h1, h2, hG⟩ := h
  refine (cutMoR h i a L C kf hk (by omega) (by omega) (by omega)).mono ?_
  intro e w' h
  exact h.ref h1 h2 hG
end Go.Proofs.Ytalcalecmklcoaa
