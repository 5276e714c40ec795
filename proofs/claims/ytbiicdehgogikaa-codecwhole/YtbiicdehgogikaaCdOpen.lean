/- What came in: a place, sized bytes, a sector. -/
import Derived.Test.YtbiicdehgogikaaCdMath
import Derived.SizedLaws
namespace Go.Proofs.Ytbiicdehgogikaa
open Go.ChangeShapes Go.WideShapes Go.ChangeAt Go.RowKit
set_option linter.unusedVariables false

variable {H : Type} {enc : TypeId × Value → H} {W : World} {fuel : Nat}

theorem bytes5D : Try.prog.bytesOf 5 = 1 := by kernel_rfl

theorem by_sized {a : Option Addr} {L C : Nat} {y : DataW H × List MemPlace} (hf : DataW.trod enc Try.prog W 0 (fun _ => true) true fuel 23 [.slice a L C] = some y) (hw : ∀ n ∈ y.1.weights Try.prog 23, n ≤ reachBytes) : L ≤ 140737488351232 := by
  rcases open_ints Try.underlying23 Try.underlying5 cells5D hf with ⟨hcs, _⟩ | ⟨x, l, c, zs, hcs, _, hl, hm, hzl, hx, hcell, hwz⟩
  · simp only [List.cons.injEq, Value.slice.injEq, and_true] at hcs
    omega
  · simp only [List.cons.injEq, Value.slice.injEq, and_true] at hcs
    obtain ⟨rfl, rfl, rfl⟩ := hcs
    have hzl' : zs.length = C := by simpa using hzl
    have h := hw (((lits (H := H) .u8 (zs.take L)).length + (lits (H := H) .u8 (zs.drop L)).length) * Try.prog.bytesOf 5) (by rw [hx]; simp [DataW.weights, Try.underlying23])
    rw [bytes5D] at h
    simp only [lits, List.length_map, List.length_take, List.length_drop, reachBytes] at h
    omega

theorem open_place {cs : Array Value} {y : DataW H × List MemPlace} (hcs : cs.size = 3) (hf : DataW.trod enc Try.prog W 0 (fun _ => true) true fuel 34 (Value.agg cs).cells.toList = some y) :
    ∃ a L C b I S, cs = #[.slice a L C, .int .i64 I, .int .i64 S] ∧ ByIn W a L C b ∧ i64ok I ∧ i64ok S := by
  have hf' : DataW.trod enc Try.prog W 0 (fun _ => true) true fuel 34 cs.toList = some y := hf
  obtain ⟨y0, y1, y2, n', _, _, e0, e1, e2⟩ := Go.Deep.trod_struct3 Try.underlying34 hf'
  obtain ⟨l⟩ := cs
  match l, hcs with
  | [v0, v1, v2], _ =>
    have f0 : DataW.trod enc Try.prog W 0 (fun _ => true) true n' 23 [v0] = some y0 := e0
    have f1 : DataW.trod enc Try.prog W 0 (fun _ => true) true n' 3 [v1] = some y1 := e1
    have f2 : DataW.trod enc Try.prog W 0 (fun _ => true) true n' 3 [v2] = some y2 := e2
    obtain ⟨a, L, C, b, rfl, h⟩ := open_by f0
    obtain ⟨I, rfl, hI⟩ := open_i64 f1
    obtain ⟨S, rfl, hS⟩ := open_i64 f2
    exact ⟨a, L, C, b, I, S, rfl, h, hI, hS⟩

theorem place_sized {a : Option Addr} {L C : Nat} {I S : Int} {y : DataW H × List MemPlace} (hf : DataW.trod enc Try.prog W 0 (fun _ => true) true fuel 34 [.slice a L C, .int .i64 I, .int .i64 S] = some y) (hw : ∀ n ∈ y.1.weights Try.prog 34, n ≤ reachBytes) : L ≤ 140737488351232 := by
  obtain ⟨y0, y1, y2, n', hy, _, e0, e1, e2⟩ := Go.Deep.trod_struct3 Try.underlying34 hf
  have f0 : DataW.trod enc Try.prog W 0 (fun _ => true) true n' 23 [.slice a L C] = some y0 := e0
  refine by_sized f0 (fun n hn => hw n ?_)
  rw [hy]
  simp [DataW.weights, DataW.weightsEach, Try.underlying34]
  exact .inl hn
end Go.Proofs.Ytbiicdehgogikaa
