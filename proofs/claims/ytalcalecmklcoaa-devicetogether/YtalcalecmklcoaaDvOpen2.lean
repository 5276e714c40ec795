/- A script for two devices, as it came in. -/
import Derived.Test.YtalcalecmklcoaaDvOpen
import Derived.Test.YtalcalecmklcoaaDvTogS
namespace Go.Proofs.Ytalcalecmklcoaa
open Go.ChangeShapes Go.WideShapes Go.ChangeAt Go.RowKit
set_option linter.unusedVariables false

theorem cellsTwoD : Try.prog.cellsOf 65 = 4 := by kernel_rfl

variable {H : Type} {enc : TypeId × Value → H} {W : World} {fuel : Nat}

set_option maxRecDepth 100000 in
theorem open_script2 {a : Option Addr} {len cap : Nat} {x : DataW H × List MemPlace} (hf : DataW.trod enc Try.prog W 0 (fun _ => true) true fuel 61 [.slice a len cap] = some x) : ∃ O, Scr2 W a len O := by
  rcases Go.Deep.open_slice Try.underlying61 hf with ⟨hcs, _⟩ | ⟨ad, l, c, m, n, D, Pl, hcs, _, hl, hm, hmm, _, hx⟩
  · simp only [List.cons.injEq, Value.slice.injEq, and_true] at hcs
    obtain ⟨rfl, rfl, rfl⟩ := hcs
    exact ⟨fun _ => ⟨false, false, 0, none, 0, 0, fun _ => 0⟩, Nat.zero_le _, fun i hi => by omega⟩
  · simp only [List.cons.injEq, Value.slice.injEq, and_true] at hcs
    obtain ⟨rfl, rfl, rfl⟩ := hcs
    simp only [if_true] at hmm
    have each : ∀ i, i < len → ∃ v : TwoV, ∃ x o, ad = ⟨x, o, none⟩ ∧ x < W.heap.size ∧ TwoIn W x (o + i * 4) v := by
      intro i hi
      obtain ⟨cs', h1, h2⟩ := hx i (by omega)
      rw [cellsTwoD] at h1
      obtain ⟨_, hlen, hcell⟩ := World.cells?_some h1
      obtain ⟨y0, y1, y2, y3, n', _, _, e0, e1, e2, e3⟩ := Go.Joins.trod_struct4 Try.underlying65 h2
      match cs', hlen with
      | [v0, v1, v2, v3], _ =>
        have f0 : DataW.trod enc Try.prog W 0 (fun _ => true) true n' 4 [v0] = some y0 := e0
        have f1 : DataW.trod enc Try.prog W 0 (fun _ => true) true n' 4 [v1] = some y1 := e1
        have f2 : DataW.trod enc Try.prog W 0 (fun _ => true) true n' 3 [v2] = some y2 := e2
        have f3 : DataW.trod enc Try.prog W 0 (fun _ => true) true n' 33 [v3] = some y3 := e3
        obtain ⟨k, rfl⟩ := open_bool1 f0
        obtain ⟨q, rfl⟩ := open_bool1 f1
        obtain ⟨j, rfl, hj⟩ := open_i64 f2
        obtain ⟨a3, L3, C3, b3, rfl, h3'⟩ := open_by f3
        have c0 := hcell 0 (by omega)
        have c1 := hcell 1 (by omega)
        have c2 := hcell 2 (by omega)
        have c3 := hcell 3 (by omega)
        rw [Go.Deep.add_add] at c0 c1 c2 c3
        obtain ⟨b, off, spot⟩ := ad
        have hs : spot = none := by
          have hi0 : 0 < m := by omega
          obtain ⟨cs0, g1, _⟩ := hx 0 hi0
          rw [cellsTwoD] at g1
          obtain ⟨_, hlen0, hcell0⟩ := World.cells?_some g1
          have := hcell0 0 (by omega)
          rw [Go.Deep.add_add] at this
          cases hv : cs0[0]? with
          | none => rw [List.getElem?_eq_none_iff] at hv; omega
          | some u => simpa [Addr.add] using World.cell?_spot (this.trans hv)
        subst hs
        have ea : ∀ j, (⟨b, off, none⟩ : Addr).add j = ⟨b, off + j, none⟩ := fun j => by simp [Addr.add]
        rw [ea] at c0 c1 c2 c3
        refine ⟨⟨k, q, j, a3, L3, C3, b3⟩, b, off, rfl, World.block_lt_of_cell? W _ c0, ?_⟩
        exact ⟨by simpa using c0, by rw [Nat.add_assoc]; simpa using c1, by rw [Nat.add_assoc]; simpa using c2, by rw [Nat.add_assoc]; simpa using c3, hj, h3'⟩
    refine ⟨fun i => if h : i < len then (each i h).choose else ⟨false, false, 0, none, 0, 0, fun _ => 0⟩, Nat.le_trans hl hm, fun i hi => ?_⟩
    simp only [dif_pos hi]
    obtain ⟨x, o, e, h1, h2⟩ := (each i hi).choose_spec
    exact ⟨x, o, by rw [e], h1, h2⟩
end Go.Proofs.Ytalcalecmklcoaa
