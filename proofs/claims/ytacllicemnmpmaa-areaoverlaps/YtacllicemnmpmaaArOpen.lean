/- Ints and ranges, as they came in. -/
import Derived.Test.YtacllicemnmpmaaArOvl
import Derived.Deep.Slices
import Derived.Deep.Grids
import Derived.Lib.SmallJoins
namespace Go.Proofs.Ytacllicemnmpmaa
open Go.ChangeShapes Go.WideShapes Go.ChangeAt Go.RowKit
set_option linter.unusedVariables false

theorem i64_of_wf {n : Int} (h : (Lit.int .i64 n).wf = true) : i64ok n := by
  simp [Lit.wf, IntKind.min, IntKind.max, IntKind.signed, IntKind.bits] at h
  unfold i64ok
  omega

theorem cells3D : Try.prog.cellsOf 3 = 1 := by kernel_rfl
theorem cellsRD : Try.prog.cellsOf 33 = 3 := by kernel_rfl

variable {H : Type} {enc : TypeId × Value → H} {W : World} {fuel : Nat}

theorem open_i64 {v : Value} {y : DataW H × List MemPlace} (hf : DataW.trod enc Try.prog W 0 (fun _ => true) true fuel 3 [v] = some y) : ∃ n, v = .int .i64 n ∧ i64ok n := by
  obtain ⟨s, hs1, _, hs2⟩ := DataW.trod_int Try.underlying3 hf
  simp only [List.cons.injEq, and_true] at hs1
  exact ⟨s, hs1, i64_of_wf hs2⟩

/-- A range, each number one of 64 bits. -/
def R3.ok (r : R3) : Prop := i64ok r.d ∧ i64ok r.f ∧ i64ok r.c

theorem open_r3 {v0 v1 v2 : Value} {y : DataW H × List MemPlace} (hf : DataW.trod enc Try.prog W 0 (fun _ => true) true fuel 33 [v0, v1, v2] = some y) : ∃ r : R3, v0 = .int .i64 r.d ∧ v1 = .int .i64 r.f ∧ v2 = .int .i64 r.c ∧ r.ok := by
  obtain ⟨xs, m, rfl, _, _, hxl, hall⟩ := DataW.trod_array Try.underlying33 hf
  have each : ∀ (i : Nat) (v : Value), i < 3 → ([v0, v1, v2].drop i).take 1 = [v] → ∃ n, v = .int .i64 n ∧ i64ok n := by
    intro i v hi hv
    have h1 := hall i hi
    rw [cells3D, Nat.mul_one, List.getElem?_eq_getElem (by rw [hxl]; exact hi), hv] at h1
    exact open_i64 h1
  obtain ⟨d, rfl, hd⟩ := each 0 v0 (by omega) rfl
  obtain ⟨f, rfl, hf'⟩ := each 1 v1 (by omega) rfl
  obtain ⟨c, rfl, hc⟩ := each 2 v2 (by omega) rfl
  exact ⟨⟨d, f, c⟩, rfl, rfl, rfl, hd, hf', hc⟩

set_option maxRecDepth 100000 in
theorem open_rng {a : Option Addr} {len cap : Nat} {x : DataW H × List MemPlace} (hf : DataW.trod enc Try.prog W 0 (fun _ => true) true fuel 27 [.slice a len cap] = some x) : ∃ F : Nat → R3, Rng W a len F ∧ (∀ i, i < len → (F i).ok) ∧ len ≤ cap ∧ cap ≤ maxLen ∧ (a = none → len = 0 ∧ cap = 0) := by
  rcases Go.Deep.open_slice Try.underlying27 hf with ⟨hcs, _⟩ | ⟨ad, l, c, m, n, D, Pl, hcs, _, hl, hm, hmm, _, hx⟩
  · simp only [List.cons.injEq, Value.slice.injEq, and_true] at hcs
    obtain ⟨rfl, rfl, rfl⟩ := hcs
    exact ⟨fun _ => ⟨0, 0, 0⟩, .inl rfl, fun i hi => by omega, Nat.le_refl _, Nat.zero_le _, fun _ => ⟨rfl, rfl⟩⟩
  · simp only [List.cons.injEq, Value.slice.injEq, and_true] at hcs
    obtain ⟨rfl, rfl, rfl⟩ := hcs
    simp only [if_true] at hmm
    have each : ∀ i, i < len → ∃ v : R3, ∃ x o, ad = ⟨x, o, none⟩ ∧ x < W.heap.size ∧ (W.cell? ⟨x, o + i * 3, none⟩ = some (.int .i64 v.d) ∧ W.cell? ⟨x, o + i * 3 + 1, none⟩ = some (.int .i64 v.f) ∧ W.cell? ⟨x, o + i * 3 + 2, none⟩ = some (.int .i64 v.c)) ∧ v.ok := by
      intro i hi
      obtain ⟨cs', h1, h2⟩ := hx i (by omega)
      rw [cellsRD] at h1
      obtain ⟨_, hlen, hcell⟩ := World.cells?_some h1
      match cs', hlen with
      | [v0, v1, v2], _ =>
        obtain ⟨r, rfl, rfl, rfl, hok⟩ := open_r3 h2
        have c0 := hcell 0 (by omega)
        have c1 := hcell 1 (by omega)
        have c2 := hcell 2 (by omega)
        rw [Go.Deep.add_add] at c0 c1 c2
        obtain ⟨b, off, spot⟩ := ad
        have hs : spot = none := by
          have hi0 : 0 < m := by omega
          obtain ⟨cs0, g1, _⟩ := hx 0 hi0
          rw [cellsRD] at g1
          obtain ⟨_, hlen0, hcell0⟩ := World.cells?_some g1
          have := hcell0 0 (by omega)
          rw [Go.Deep.add_add] at this
          cases hv : cs0[0]? with
          | none => rw [List.getElem?_eq_none_iff] at hv; omega
          | some u => simpa [Addr.add] using World.cell?_spot (this.trans hv)
        subst hs
        have ea : ∀ j, (⟨b, off, none⟩ : Addr).add j = ⟨b, off + j, none⟩ := fun j => by simp [Addr.add]
        rw [ea] at c0 c1 c2
        refine ⟨r, b, off, rfl, World.block_lt_of_cell? W _ c0, ?_, hok⟩
        exact ⟨by simpa using c0, by rw [Nat.add_assoc]; simpa using c1, by rw [Nat.add_assoc]; simpa using c2⟩
    obtain ⟨F, hF⟩ : ∃ F : Nat → R3, ∀ i, i < len → ∃ x o, ad = ⟨x, o, none⟩ ∧ x < W.heap.size ∧ (W.cell? ⟨x, o + i * 3, none⟩ = some (.int .i64 (F i).d) ∧ W.cell? ⟨x, o + i * 3 + 1, none⟩ = some (.int .i64 (F i).f) ∧ W.cell? ⟨x, o + i * 3 + 2, none⟩ = some (.int .i64 (F i).c)) ∧ (F i).ok := by
      refine ⟨fun i => if h : i < len then (each i h).choose else ⟨0, 0, 0⟩, fun i hi => ?_⟩
      simp only [dif_pos hi]
      exact (each i hi).choose_spec
    refine ⟨F, ?_, fun i hi => by obtain ⟨_, _, _, _, _, h⟩ := hF i hi; exact h, hl, hm, fun e => by cases e⟩
    by_cases h0 : len = 0
    · exact .inl h0
    · obtain ⟨x, o, rfl, hb, _, _⟩ := hF 0 (by omega)
      refine .inr ⟨x, o, rfl, hb, fun i hi => ?_⟩
      obtain ⟨x', o', e, _, hc, _⟩ := hF i hi
      cases e
      exact hc
end Go.Proofs.Ytacllicemnmpmaa
