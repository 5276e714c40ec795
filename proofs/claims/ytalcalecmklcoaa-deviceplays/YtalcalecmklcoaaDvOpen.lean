/- Bytes, bools and scripts, as they came in. -/
import Derived.Test.YtalcalecmklcoaaDvScript
import Derived.Deep.Slices
import Derived.Deep.Grids
import Derived.Lib.SmallJoins
namespace Go.Proofs.Ytalcalecmklcoaa
open Go.ChangeShapes Go.WideShapes Go.ChangeAt Go.RowKit
set_option linter.unusedVariables false

def bnD (zs : List Int) (j : Nat) : Nat := (zs.getD j 0).toNat % 256

theorem bnD_eq {zs : List Int} (hw : ∀ n ∈ zs, (Lit.int .u8 n).wf = true) (j : Nat) (hj : j < zs.length) : zs.getD j 0 = ((bnD zs j : Nat) : Int) := by
  have hmem : zs.getD j 0 ∈ zs := by rw [List.getD_eq_getElem?_getD, List.getElem?_eq_getElem hj]; exact List.getElem_mem hj
  have h := hw _ hmem
  simp [Lit.wf, IntKind.min, IntKind.max, IntKind.signed, IntKind.bits] at h
  unfold bnD
  rw [Int.natCast_emod, Int.toNat_of_nonneg (by simpa using h.1)]
  have := h.2
  simp at this ⊢
  omega

theorem i64_of_wf {n : Int} (h : (Lit.int .i64 n).wf = true) : i64ok n := by
  simp [Lit.wf, IntKind.min, IntKind.max, IntKind.signed, IntKind.bits] at h
  unfold i64ok
  omega

theorem cells5D : Try.prog.cellsOf 5 = 1 := by kernel_rfl
theorem cells4D : Try.prog.cellsOf 4 = 1 := by kernel_rfl
theorem cellsOpD : Try.prog.cellsOf 36 = 4 := by kernel_rfl

variable {H : Type} {enc : TypeId × Value → H} {W : World} {fuel : Nat}

theorem open_by {v : Value} {y : DataW H × List MemPlace} (hf : DataW.trod enc Try.prog W 0 (fun _ => true) true fuel 33 [v] = some y) : ∃ a L C b, v = .slice a L C ∧ ByIn W a L C b := by
  rcases open_ints Try.underlying33 Try.underlying5 cells5D hf with ⟨hcs, _⟩ | ⟨x, l, c, zs, hcs, _, hl, hm, hzl, hx, hcell, hwz⟩
  · simp only [List.cons.injEq, and_true] at hcs
    exact ⟨none, 0, 0, fun _ => 0, hcs, Nat.le_refl _, Nat.zero_le _, fun _ => ⟨rfl, rfl⟩, .inl rfl, fun _ => by decide, trivial⟩
  · simp only [List.cons.injEq, and_true] at hcs
    have hzl' : zs.length = c := by simpa using hzl
    refine ⟨some x, l, c, bnD zs, hcs, hl, Nat.le_trans hl hm, (fun e => by cases e), ?_, fun j => Nat.mod_lt _ (by decide), trivial⟩
    by_cases h0 : l = 0
    · exact .inl h0
    · obtain ⟨b, off, spot⟩ := x
      have hs : spot = none := by simpa [Addr.add] using World.cell?_spot (hcell 0 (by omega))
      subst hs
      have e1 : ∀ j, (⟨b, off, none⟩ : Addr).add j = ⟨b, off + j, none⟩ := fun j => by simp [Addr.add]
      refine .inr ⟨b, off, rfl, World.block_lt_of_cell? W _ (hcell 0 (by omega)), fun j hj => ?_⟩
      have h := hcell j (by omega)
      rw [e1, bnD_eq hwz j (by omega)] at h
      exact h

theorem open_bo {v : Value} {y : DataW H × List MemPlace} (hf : DataW.trod enc Try.prog W 0 (fun _ => true) true fuel 34 [v] = some y) : ∃ a L C b, v = .slice a L C ∧ BoIn W a L C b := by
  rcases Go.Deep.open_bools Try.underlying34 Try.underlying4 cells4D hf with ⟨hcs, _⟩ | ⟨x, l, c, B, hcs, _, hl, hm, _, hcell⟩
  · simp only [List.cons.injEq, and_true] at hcs
    exact ⟨none, 0, 0, fun _ => false, hcs, Nat.le_refl _, Nat.zero_le _, .inl rfl⟩
  · simp only [List.cons.injEq, and_true] at hcs
    refine ⟨some x, l, c, B, hcs, hl, Nat.le_trans hl hm, ?_⟩
    by_cases h0 : l = 0
    · exact .inl h0
    · obtain ⟨b, off, spot⟩ := x
      have hs : spot = none := by simpa [Addr.add] using World.cell?_spot (hcell 0 (by omega))
      subst hs
      have e1 : ∀ j, (⟨b, off, none⟩ : Addr).add j = ⟨b, off + j, none⟩ := fun j => by simp [Addr.add]
      refine .inr ⟨b, off, rfl, World.block_lt_of_cell? W _ (hcell 0 (by omega)), fun j hj => ?_⟩
      have h := hcell j (by omega)
      rw [e1] at h
      exact h

theorem open_i64 {v : Value} {y : DataW H × List MemPlace} (hf : DataW.trod enc Try.prog W 0 (fun _ => true) true fuel 3 [v] = some y) : ∃ n, v = .int .i64 n ∧ i64ok n := by
  obtain ⟨s, hs1, _, hs2⟩ := DataW.trod_int Try.underlying3 hf
  simp only [List.cons.injEq, and_true] at hs1
  exact ⟨s, hs1, i64_of_wf hs2⟩

theorem open_bool1 {v : Value} {y : DataW H × List MemPlace} (hf : DataW.trod enc Try.prog W 0 (fun _ => true) true fuel 4 [v] = some y) : ∃ b, v = .bool b := by
  obtain ⟨b, hs1, _⟩ := DataW.trod_bool Try.underlying4 hf
  simp only [List.cons.injEq, and_true] at hs1
  exact ⟨b, hs1⟩

set_option maxRecDepth 100000 in
theorem open_script {a : Option Addr} {len cap : Nat} {x : DataW H × List MemPlace} (hf : DataW.trod enc Try.prog W 0 (fun _ => true) true fuel 22 [.slice a len cap] = some x) : ∃ O, Script W a len O := by
  rcases Go.Deep.open_slice Try.underlying22 hf with ⟨hcs, _⟩ | ⟨ad, l, c, m, n, D, Pl, hcs, _, hl, hm, hmm, _, hx⟩
  · simp only [List.cons.injEq, Value.slice.injEq, and_true] at hcs
    obtain ⟨rfl, rfl, rfl⟩ := hcs
    exact ⟨fun _ => ⟨0, 0, none, 0, 0, fun _ => 0, none, 0, 0, fun _ => false⟩, Nat.zero_le _, fun i hi => by omega⟩
  · simp only [List.cons.injEq, Value.slice.injEq, and_true] at hcs
    obtain ⟨rfl, rfl, rfl⟩ := hcs
    simp only [if_true] at hmm
    have each : ∀ i, i < len → ∃ v : OpV, ∃ x o, ad = ⟨x, o, none⟩ ∧ x < W.heap.size ∧ OpIn W x (o + i * 4) v := by
      intro i hi
      obtain ⟨cs', h1, h2⟩ := hx i (by omega)
      rw [cellsOpD] at h1
      obtain ⟨_, hlen, hcell⟩ := World.cells?_some h1
      obtain ⟨y0, y1, y2, y3, n', _, _, e0, e1, e2, e3⟩ := Go.Joins.trod_struct4 Try.underlying36 h2
      match cs', hlen with
      | [v0, v1, v2, v3], _ =>
        have f0 : DataW.trod enc Try.prog W 0 (fun _ => true) true n' 3 [v0] = some y0 := e0
        have f1 : DataW.trod enc Try.prog W 0 (fun _ => true) true n' 3 [v1] = some y1 := e1
        have f2 : DataW.trod enc Try.prog W 0 (fun _ => true) true n' 33 [v2] = some y2 := e2
        have f3 : DataW.trod enc Try.prog W 0 (fun _ => true) true n' 34 [v3] = some y3 := e3
        obtain ⟨k, rfl, hk⟩ := open_i64 f0
        obtain ⟨j, rfl, hj⟩ := open_i64 f1
        obtain ⟨a2, L2, C2, b2, rfl, h2'⟩ := open_by f2
        obtain ⟨a3, L3, C3, b3, rfl, h3'⟩ := open_bo f3
        have c0 := hcell 0 (by omega)
        have c1 := hcell 1 (by omega)
        have c2 := hcell 2 (by omega)
        have c3 := hcell 3 (by omega)
        rw [Go.Deep.add_add] at c0 c1 c2 c3
        obtain ⟨b, off, spot⟩ := ad
        have hs : spot = none := by
          by_cases hz : i * 4 = 0
          · rw [hz] at c0
            simpa [Addr.add] using World.cell?_spot c0
          · have hi0 : 0 < m := by omega
            obtain ⟨cs0, g1, _⟩ := hx 0 hi0
            rw [cellsOpD] at g1
            obtain ⟨_, hlen0, hcell0⟩ := World.cells?_some g1
            have := hcell0 0 (by omega)
            rw [Go.Deep.add_add] at this
            cases hv : cs0[0]? with
            | none => rw [List.getElem?_eq_none_iff] at hv; omega
            | some u => simpa [Addr.add] using World.cell?_spot (this.trans hv)
        subst hs
        have ea : ∀ j, (⟨b, off, none⟩ : Addr).add j = ⟨b, off + j, none⟩ := fun j => by simp [Addr.add]
        rw [ea] at c0 c1 c2 c3
        refine ⟨⟨k, j, a2, L2, C2, b2, a3, L3, C3, b3⟩, b, off, rfl, World.block_lt_of_cell? W _ c0, ?_⟩
        exact ⟨by simpa using c0, by rw [Nat.add_assoc]; simpa using c1, by rw [Nat.add_assoc]; simpa using c2, by rw [Nat.add_assoc]; simpa using c3, hk, hj, h2', h3'⟩
    refine ⟨fun i => if h : i < len then (each i h).choose else ⟨0, 0, none, 0, 0, fun _ => 0, none, 0, 0, fun _ => false⟩, Nat.le_trans hl hm, fun i hi => ?_⟩
    simp only [dif_pos hi]
    obtain ⟨x, o, e, h1, h2⟩ := (each i hi).choose_spec
    exact ⟨x, o, by rw [e], h1, h2⟩
end Go.Proofs.Ytalcalecmklcoaa
