/- An array of bytes, as it came in. -/
import Derived.Test.YtbiicdehgogikaaCdMath
namespace Go.Proofs.Ytbiicdehgogikaa
open Go.ChangeShapes Go.WideShapes Go.ChangeAt Go.RowKit
set_option linter.unusedVariables false

theorem okWide_arr {w : World} {r : Reach} {base : Nat} {t : TypeId} {v : Value} {n : Nat} {e : TypeId} (ht : Try.prog.underlying t = some (.array n e)) (h : Value.okWide Try.prog w r base t v) : ∃ cs, v = .agg cs ∧ cs.size = Try.prog.cellsOf t := by
  simp only [Value.okWide, ht] at h
  obtain ⟨cs, h1, h2, _⟩ := h
  exact ⟨cs, h1, h2⟩

/-- The bytes of an array, as a function of the place. -/
theorem open_arr {H : Type} {enc : TypeId × Value → H} {W : World} {fuel : Nat} {t n : Nat} {cs : Array Value} {y : DataW H × List MemPlace} (ht : Try.prog.underlying t = some (.array n 5)) (hc5 : Try.prog.cellsOf 5 = 1) (hs : cs.size = n)
    (hf : DataW.trod enc Try.prog W 0 (fun _ => true) true fuel t cs.toList = some y) : ∃ f : Nat → Nat, cs = cellsN .u8 n f ∧ ∀ j, j < n → f j < 256 := by
  obtain ⟨xs, m, rfl, _, _, hxl, hall⟩ := DataW.trod_array ht hf
  have hcell : ∀ i, i < n → ∃ z : Nat, cs[i]? = some (.int .u8 (z : Int)) ∧ z < 256 := by
    intro i hi
    have h1 := hall i hi
    rw [hc5, Nat.mul_one, List.getElem?_eq_getElem (by rw [hxl]; exact hi)] at h1
    obtain ⟨z, hz, _, hw⟩ := DataW.trod_int Try.underlying5 h1
    have hb := hw
    simp [Lit.wf, IntKind.min, IntKind.max, IntKind.signed, IntKind.bits] at hb
    have hl : i < cs.toList.length := by simpa [hs] using hi
    rw [List.drop_eq_getElem_cons hl, List.take_succ_cons, List.take_zero] at hz
    have hz' : cs.toList[i] = .int .u8 z := by simpa using hz
    refine ⟨z.toNat, ?_, by omega⟩
    rw [show ((z.toNat : Nat) : Int) = z by omega, ← hz', ← Array.getElem?_toList, List.getElem?_eq_getElem hl]
  refine ⟨fun i => if h : i < n then (hcell i h).choose else 0, ?_, fun j hj => ?_⟩
  · apply Array.ext_getElem?
    intro i
    by_cases hi : i < n
    · rw [cellsN_get _ _ _ _ hi, dif_pos hi]
      exact (hcell i hi).choose_spec.1
    · rw [show (cellsN .u8 n fun i => if h : i < n then (hcell i h).choose else 0)[i]? = none by simp [cellsN]; omega]
      simp [hs]; omega
  · simp only [dif_pos hj]
    exact (hcell j hj).choose_spec.2
end Go.Proofs.Ytbiicdehgogikaa
