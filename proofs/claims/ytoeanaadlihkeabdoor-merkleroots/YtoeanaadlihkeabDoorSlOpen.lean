/- Byte slices, and slices of them, that came in, as functions of the place. -/
import Derived.Test.YtoeanaadlihkeabDoorShaLaid
import Derived.Deep.Matrix
namespace Go.Proofs.YtoeanaadlihkeabDoor
open Go.ChangeShapes Go.WideShapes Go.ChangeAt Go.RowKit
set_option linter.unusedVariables false

/-- The bytes of a list of numbers. -/
def bn (zs : List Int) (j : Nat) : Nat := (zs.getD j 0).toNat % 256

theorem bn_lt (zs : List Int) (j : Nat) : bn zs j < 256 := Nat.mod_lt _ (by decide)

theorem bn_eq {zs : List Int} (hw : ∀ n ∈ zs, (Lit.int .u8 n).wf = true) (j : Nat) (hj : j < zs.length) : zs.getD j 0 = ((bn zs j : Nat) : Int) := by
  have hmem : zs.getD j 0 ∈ zs := by rw [List.getD_eq_getElem?_getD, List.getElem?_eq_getElem hj]; exact List.getElem_mem hj
  have h := hw _ hmem
  simp [Lit.wf, IntKind.min, IntKind.max, IntKind.signed, IntKind.bits] at h
  unfold bn
  rw [Int.natCast_emod, Int.toNat_of_nonneg (by simpa using h.1)]
  have := h.2
  simp at this ⊢
  omega

theorem cell_lt {w : World} {p : Addr} {v : Value} (h : w.cell? p = some v) : p.block < w.heap.size := by
  by_cases c : p.block < w.heap.size
  · exact c
  · have : w.heap[p.block]? = none := by simp; omega
    simp [World.cell?, this] at h

/-- A row of cells, by its address, as bytes. -/
theorem bytes_of_cells {w : World} {x : Addr} {len cap : Nat} {zs : List Int} (hl : len ≤ cap) (hz : zs.length = cap) (hc : ∀ i, i < cap → w.cell? (x.add i) = some (.int .u8 (zs.getD i 0))) (hw : ∀ n ∈ zs, (Lit.int .u8 n).wf = true) : Bytes w (some x) len (bn zs) := by
  by_cases h0 : len = 0
  · exact .inl h0
  · obtain ⟨b, off, spot⟩ := x
    have hs : spot = none := by simpa [Addr.add] using World.cell?_spot (hc 0 (by omega))
    subst hs
    have e1 : ∀ j, (⟨b, off, none⟩ : Addr).add j = ⟨b, off + j, none⟩ := fun j => by simp [Addr.add]
    refine .inr ⟨b, off, rfl, cell_lt (hc 0 (by omega)), fun j hj => ?_⟩
    have h := hc j (by omega)
    rw [e1, bn_eq hw j (by omega)] at h
    exact h

theorem bytes_of_isRow {w : World} {a : Option Addr} {len cap : Nat} {zs : List Int} (h : IsRow .u8 w a len cap zs) : Bytes w a len (bn zs) := by
  rcases h with ⟨_, rfl, _, _⟩ | ⟨x, rfl, hl, hm, hz, hc, hw⟩
  · exact .inl rfl
  · exact bytes_of_cells hl hz (fun i hi => hc i (by omega)) hw

theorem isRow_facts {k : IntKind} {w : World} {a : Option Addr} {len cap : Nat} {zs : List Int} (h : IsRow k w a len cap zs) : len ≤ cap ∧ cap ≤ maxLen ∧ (a = none → len = 0 ∧ cap = 0) := by
  rcases h with ⟨rfl, rfl, rfl, rfl⟩ | ⟨x, rfl, hl, hm, hz, hc, hw⟩
  · exact ⟨Nat.le_refl _, Nat.zero_le _, fun _ => ⟨rfl, rfl⟩⟩
  · exact ⟨hl, hm, fun h => by cases h⟩

theorem i64_bounds {n : Int} (h : (Lit.int .i64 n).wf = true) : -9223372036854775808 ≤ n ∧ n ≤ 9223372036854775807 := by
  simp [Lit.wf, IntKind.min, IntKind.max, IntKind.signed, IntKind.bits] at h
  omega

theorem u8_bounds {n : Int} (h : (Lit.int .u8 n).wf = true) : 0 ≤ n ∧ n ≤ 255 := by
  simp [Lit.wf, IntKind.min, IntKind.max, IntKind.signed, IntKind.bits] at h
  omega

/-- A slice of byte slices. -/
theorem rows_of_trod {H : Type} {enc : TypeId × Value → H} {w : World} {base : Nat} {held : Bool} {fuel t len cap : Nat} {a : Option Addr} {x : DataW H × List MemPlace} (ht : Tryd.prog.underlying t = some (.slice 22)) (ce : Tryd.prog.cellsOf 22 = 1) (cq : Tryd.prog.cellsOf 5 = 1)
    (h : DataW.trod enc Tryd.prog w base (fun _ => true) held fuel t [.slice a len cap] = some x) :
    len ≤ maxLen ∧ ∃ (A : Nat → Option Addr) (L C : Nat → Nat) (M : Nat → Nat → Nat), ∀ i, i < len → (∃ b off, a = some ⟨b, off, none⟩ ∧ b < w.heap.size ∧ w.cell? ⟨b, off + i, none⟩ = some (.slice (A i) (L i) (C i))) ∧ L i ≤ C i ∧ (A i = none → L i = 0 ∧ C i = 0) ∧ Bytes w (A i) (L i) (M i) ∧ ∀ j, M i j < 256 := by
  rcases Go.Deep.open_int_rows ht Tryd.underlying22 Tryd.underlying5 ce cq h with ⟨hcs, _⟩ | ⟨x, l, c, A, L, C, Z, hcs, _, hl, hm, _, hr⟩
  · simp only [List.cons.injEq, Value.slice.injEq, and_true] at hcs
    obtain ⟨rfl, rfl, rfl⟩ := hcs
    exact ⟨Nat.zero_le _, fun _ => none, fun _ => 0, fun _ => 0, fun _ _ => 0, fun i hi => by omega⟩
  · simp only [List.cons.injEq, Value.slice.injEq, and_true] at hcs
    obtain ⟨rfl, rfl, rfl⟩ := hcs
    refine ⟨Nat.le_trans hl hm, A, L, C, fun i => bn (Z i), fun i hi => ?_⟩
    obtain ⟨h1, h2, h3, h4, h5, h6, h7⟩ := hr i (by omega)
    refine ⟨?_, h2, fun e => ⟨by have := h6 e; omega, h6 e⟩, ?_, bn_lt _⟩
    · obtain ⟨b, off, spot⟩ := x
      have hs : spot = none := by simpa [Addr.add] using World.cell?_spot (hr 0 (by omega)).1
      subst hs
      rw [show (⟨b, off, none⟩ : Addr).add i = ⟨b, off + i, none⟩ from by simp [Addr.add]] at h1
      exact ⟨b, off, rfl, cell_lt h1, h1⟩
    · cases hA : A i with
      | none => exact .inl (by have := h6 hA; omega)
      | some a' => exact bytes_of_cells h2 h4 (h7 a' hA).2 h5
end Go.Proofs.YtoeanaadlihkeabDoor
