/- A list of ints, opened. -/
import Derived.Test.YtfgoongfmidpgabDoorJoint11
namespace Go.Proofs.YtfgoongfmidpgabDoor
open Go.ChangeShapes Go.WideShapes Go.ChangeAt Go.RowKit
set_option linter.unusedVariables false

/-- Ints in memory. -/
def IntsIn (w : World) (a : Option Addr) (n : Nat) (f : Nat → Int) : Prop := n ≤ maxLen ∧ ∀ i, i < n → ∃ x o, a = some ⟨x, o, none⟩ ∧ x < w.heap.size ∧ w.cell? ⟨x, o + i, none⟩ = some (.int .i64 (f i)) ∧ i64ok (f i)

section
variable {H : Type} {enc : TypeId × Value → H} {W : World} {fuel : Nat}
theorem open_intsJ {a : Option Addr} {l c : Nat} {y : DataW H × List MemPlace} (hf : DataW.trod enc Tryd.prog W 0 (fun _ => true) true fuel 23 [.slice a l c] = some y) : ∃ f, IntsIn W a l f := by
  obtain ⟨a', len, cap, e, h1, h2, h3⟩ := open_ones Tryd.underlying23 cells3D hf
  injection e with e1 e2 e3
  subst e1 e2 e3
  have hh : ∀ i : Nat, ∃ z : Int, i < l → ∃ x o, a = some ⟨x, o, none⟩ ∧ x < W.heap.size ∧ W.cell? ⟨x, o + i, none⟩ = some (.int .i64 z) ∧ i64ok z := fun i => by
    by_cases h : i < l
    · obtain ⟨x, o, u, n', z, g1, g2, g3, g4⟩ := h3 i h
      obtain ⟨k, rfl, hk⟩ := open_i64 g4
      exact ⟨k, fun _ => ⟨x, o, g1, g2, g3, hk⟩⟩
    · exact ⟨0, fun h' => absurd h' h⟩
  obtain ⟨f, hf⟩ := Classical.axiomOfChoice hh
  exact ⟨f, h2, hf⟩
end
end Go.Proofs.YtfgoongfmidpgabDoor
