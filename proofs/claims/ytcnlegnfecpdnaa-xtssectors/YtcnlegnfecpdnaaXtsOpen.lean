/- A Spot, as it came in. -/
import Derived.Test.YtcnlegnfecpdnaaAesOpen
import Derived.Test.YtcnlegnfecpdnaaArrOpen
namespace Go.Proofs.Ytcnlegnfecpdnaa
open Go.ChangeShapes Go.WideShapes Go.ChangeAt Go.RowKit
set_option linter.unusedVariables false

def spotCells (s n : Int) (f : Nat → Nat) : Array Value := #[.int .u64 s, .int .i64 n] ++ cellsN .u8 16 f

theorem spot_size (s n : Int) (f : Nat → Nat) : (spotCells s n f).size = 18 := by
  unfold spotCells
  rw [Array.size_append, cellsN_size]
  rfl

theorem spot_0 (s n : Int) (f : Nat → Nat) : (spotCells s n f)[0]? = some (.int .u64 s) := by
  unfold spotCells
  rw [Array.getElem?_append_left (by simp)]
  rfl

theorem spot_1 (s n : Int) (f : Nat → Nat) : (spotCells s n f)[1]? = some (.int .i64 n) := by
  unfold spotCells
  rw [Array.getElem?_append_left (by simp)]
  rfl

theorem spot_2 (s n : Int) (f : Nat → Nat) (j : Nat) (h : j < 16) : (spotCells s n f)[2 + j]? = some (.int .u8 (f j : Nat)) := by
  unfold spotCells
  rw [Array.getElem?_append_right (Nat.le_add_right 2 j)]
  show (cellsN .u8 16 f)[2 + j - 2]? = _
  rw [show 2 + j - 2 = j by omega]
  exact cellsN_get _ _ _ _ h

theorem open_spot {H : Type} {enc : TypeId × Value → H} {W : World} {fuel : Nat} {cs : Array Value} {y : DataW H × List MemPlace} (hs : cs.size = 18) (hf : DataW.trod enc Try.prog W 0 (fun _ => true) true fuel 47 cs.toList = some y) :
    ∃ (s n : Int) (f : Nat → Nat), cs = spotCells s n f ∧ (Lit.int .u64 s).wf = true ∧ (Lit.int .i64 n).wf = true ∧ ∀ j, j < 16 → f j < 256 := by
  obtain ⟨xs, n, _, rfl, hl, hlen, hff⟩ := DataW.trod_struct Try.underlying47 hf
  have hlen' : xs.length = 3 := by simpa using hlen
  obtain ⟨y0, y1, y2, rfl⟩ : ∃ y0 y1 y2, xs = [y0, y1, y2] := by
    match xs, hlen' with
    | [y0, y1, y2], _ => exact ⟨y0, y1, y2, rfl⟩
  have h0 := hff 0 _ rfl
  have h1 := hff 1 _ rfl
  have h2 := hff 2 _ rfl
  have c0 : Try.prog.cellsOf 34 = 1 := by kernel_rfl
  have c1 : Try.prog.cellsOf 3 = 1 := by kernel_rfl
  have c2 : Try.prog.cellsOf 23 = 16 := by kernel_rfl
  have e0 : DataW.trod enc Try.prog W 0 (fun _ => true) true n 34 ((cs.toList.drop 0).take 1) = some y0 := by rw [← c0]; exact h0
  have e1 : DataW.trod enc Try.prog W 0 (fun _ => true) true n 3 ((cs.toList.drop 1).take 1) = some y1 := by rw [← c1]; exact h1
  have e2 : DataW.trod enc Try.prog W 0 (fun _ => true) true n 23 ((cs.toList.drop 2).take 16) = some y2 := by rw [← c2]; exact h2
  obtain ⟨s, hs1, _, hs2⟩ := DataW.trod_int Try.underlying34 e0
  obtain ⟨m, hm1, _, hm2⟩ := DataW.trod_int Try.underlying3 e1
  obtain ⟨f, hfe, hfl⟩ := open_arr (cs := ((cs.toList.drop 2).take 16).toArray) Try.underlying23 (by kernel_rfl) (by simp [hs]) e2
  refine ⟨s, m, f, ?_, hs2, hm2, hfl⟩
  have hfe' : (cs.toList.drop 2).take 16 = (cellsN .u8 16 f).toList := by rw [← hfe]
  apply Array.ext'
  have hL : cs.toList.length = 18 := by simp [hs]
  have d0 : cs.toList = cs.toList.take 1 ++ cs.toList.drop 1 := (List.take_append_drop 1 _).symm
  have d1 : cs.toList.drop 1 = (cs.toList.drop 1).take 1 ++ cs.toList.drop 2 := by
    have := (List.take_append_drop 1 (cs.toList.drop 1)).symm
    rwa [List.drop_drop] at this
  have d2 : cs.toList.drop 2 = (cs.toList.drop 2).take 16 := (List.take_of_length_le (by rw [List.length_drop, hL]; decide)).symm
  rw [d0, d1, d2, hfe', hm1, show cs.toList.take 1 = [.int .u64 s] from hs1]
  unfold spotCells
  simp
end Go.Proofs.Ytcnlegnfecpdnaa
