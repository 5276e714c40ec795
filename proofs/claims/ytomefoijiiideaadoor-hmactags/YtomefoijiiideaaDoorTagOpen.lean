/- A key, a sector's number, its data and a tag, as they came in. -/
import Derived.Test.YtomefoijiiideaaDoorSlOpen
import Derived.Lib.SmallJoins
import Derived.SizedLaws
namespace Go.Proofs.YtomefoijiiideaaDoor
open Go.ChangeShapes Go.WideShapes Go.ChangeAt Go.RowKit
set_option linter.unusedVariables false

theorem Tryd.bytes5 : Tryd.prog.bytesOf 5 = 1 := by kernel_rfl

theorem open_row {H : Type} {enc : TypeId × Value → H} {W : World} {fuel : Nat} {v : Value} {y : DataW H × List MemPlace} (hf : DataW.trod enc Tryd.prog W 0 (fun _ => true) true fuel 22 [v] = some y) (hz : ∀ n ∈ y.1.weights Tryd.prog 22, n ≤ reachBytes) :
    ∃ a len cap zs, v = .slice a len cap ∧ IsRow .u8 W a len cap zs ∧ cap ≤ 140737488351232 := by
  rcases open_ints Tryd.underlying22 Tryd.underlying5 (by kernel_rfl) hf with ⟨hcs, _⟩ | ⟨x, l, c, zs, hcs, _, hl, hm, hzl, hx, hcell, hwz⟩
  · simp only [List.cons.injEq, and_true] at hcs
    exact ⟨none, 0, 0, [], hcs, .inl ⟨rfl, rfl, rfl, rfl⟩, by omega⟩
  · simp only [List.cons.injEq, and_true] at hcs
    have hzl' : zs.length = c := by simpa using hzl
    refine ⟨some x, l, c, zs, hcs, .inr ⟨x, rfl, hl, hm, hzl', hcell, hwz⟩, ?_⟩
    have hy : y.1 = .slice (lits .u8 (zs.take l)) (lits .u8 (zs.drop l)) := congrArg Prod.fst hx
    have := hz (((lits (H := H) .u8 (zs.take l)).length + (lits (H := H) .u8 (zs.drop l)).length) * Tryd.prog.bytesOf 5) (by
      rw [hy]
      unfold DataW.weights
      rw [Tryd.underlying22]
      exact List.mem_cons_self)
    rw [Tryd.bytes5] at this
    simp only [lits, List.length_map, List.length_take, List.length_drop, reachBytes] at this
    omega

/-- What came in. -/
def Tagd (W : World) (TX : Array Value) (a0 : Option Addr) (l0 c0 : Nat) (z0 : List Int) (s : Int) (a1 : Option Addr) (l1 c1 : Nat) (z1 : List Int) (a2 : Option Addr) (l2 c2 : Nat) (z2 : List Int) : Prop :=
  TX = #[.slice a0 l0 c0, .int .i64 s, .slice a1 l1 c1, .slice a2 l2 c2] ∧ (IsRow .u8 W a0 l0 c0 z0 ∧ c0 ≤ 140737488351232) ∧ (IsRow .u8 W a1 l1 c1 z1 ∧ c1 ≤ 140737488351232) ∧ (IsRow .u8 W a2 l2 c2 z2 ∧ c2 ≤ 140737488351232) ∧ (Lit.int .i64 s).wf = true

theorem open_tagged {H : Type} {enc : TypeId × Value → H} {W : World} {fuel : Nat} {cs : Array Value} {y : DataW H × List MemPlace} (hs : cs.size = 4) (hf : DataW.trod enc Tryd.prog W 0 (fun _ => true) true fuel 39 cs.toList = some y) (hz : ∀ n ∈ y.1.weights Tryd.prog 39, n ≤ reachBytes) :
    ∃ a0 l0 c0 z0 s a1 l1 c1 z1 a2 l2 c2 z2, Tagd W cs a0 l0 c0 z0 s a1 l1 c1 z1 a2 l2 c2 z2 := by
  obtain ⟨v0, v1, v2, v3, rfl⟩ := Go.Joins.array4 hs
  obtain ⟨y0, y1, y2, y3, n, rfl, _, h0, h1, h2, h3⟩ := Go.Joins.trod_struct4 Tryd.underlying39 hf
  have hw : ∀ (j : Nat) t d, [22, 3, 22, 22][j]? = some t → [y0.1, y1.1, y2.1, y3.1][j]? = some d → ∀ n ∈ d.weights Tryd.prog t, n ≤ reachBytes := by
    intro j t d ht hd n hn
    refine hz n ?_
    unfold DataW.weights
    rw [Tryd.underlying39]
    exact DataW.weights_mem_each ht hd n hn
  have e0 : DataW.trod enc Tryd.prog W 0 (fun _ => true) true n 22 [v0] = some y0 := h0
  have e1 : DataW.trod enc Tryd.prog W 0 (fun _ => true) true n 3 [v1] = some y1 := h1
  have e2 : DataW.trod enc Tryd.prog W 0 (fun _ => true) true n 22 [v2] = some y2 := h2
  have e3 : DataW.trod enc Tryd.prog W 0 (fun _ => true) true n 22 [v3] = some y3 := h3
  obtain ⟨a0, l0, c0, z0, rfl, r0⟩ := open_row e0 (hw 0 _ _ rfl rfl)
  obtain ⟨a1, l1, c1, z1, rfl, r1⟩ := open_row e2 (hw 2 _ _ rfl rfl)
  obtain ⟨a2, l2, c2, z2, rfl, r2⟩ := open_row e3 (hw 3 _ _ rfl rfl)
  obtain ⟨s, hs1, _, hs2⟩ := DataW.trod_int Tryd.underlying3 e1
  simp only [List.cons.injEq, and_true] at hs1
  subst hs1
  exact ⟨a0, l0, c0, z0, s, a1, l1, c1, z1, a2, l2, c2, z2, rfl, r0, r1, r2, hs2⟩
end Go.Proofs.YtomefoijiiideaaDoor
