/- What the listed variables hold, out of the row's hypothesis; the witness's own world. -/
import Derived.Test.YtoeanaadlihkeabDoorShaEval
import Derived.LaidMore
import Derived.Stop.Joined
import Derived.Lib.LaidU8
import Derived.MakeChecks
namespace Go.Proofs.YtoeanaadlihkeabDoor
open Go.ChangeShapes Go.WideShapes Go.ChangeAt Go.WideMaps Go.WideElems Go.RowKit

theorem gConstants : Tryd.prog.globalNamed (Rows.merkleRootsRow.named.getD 1 Rows.merkleRootsRow.program) = some 1 := by kernel_rfl
theorem gFirst : Tryd.prog.globalNamed (Rows.merkleRootsRow.named.getD 0 Rows.merkleRootsRow.program) = some 0 := by kernel_rfl
theorem tConstants : (Tryd.prog.globals[1]?).map (·.type) = some 65 := by kernel_rfl
theorem tFirst : (Tryd.prog.globals[0]?).map (·.type) = some 54 := by kernel_rfl
theorem dConstants {H : Type} : (Rows.laid_cofferdam_sha_constants : DataW H) = .agg (kList.map fun x => .lit (.int .u32 ((x : Nat) : Int))) := rfl
theorem dFirst {H : Type} : (Rows.laid_cofferdam_sha_firstState : DataW H) = .agg (hList.map fun x => .lit (.int .u32 ((x : Nat) : Int))) := rfl
theorem Tryd.cells53 : Tryd.prog.cellsOf 53 = 1 := by kernel_rfl

theorem var_nums {H : Type} {enc : TypeId × Value → H} {W : World} {base : Nat} {sp : Nat → Bool} {held : Bool} {fuel : Nat} {name : String} {g t n : Nat} {l : List Nat} {cs : Array Value} {p : List MemPlace}
    (hg : Tryd.prog.globalNamed name = some g) (ht : Tryd.prog.underlying t = some (.array n 53)) (hn : l.length = n) (hv : W.var? Tryd.prog name = some cs)
    (hd : DataW.trod enc Tryd.prog W base sp held fuel t cs.toList = some (.agg (l.map fun x => .lit (.int .u32 ((x : Nat) : Int))), p)) (i : Nat) (hi : i < n) :
    W.cell? ⟨g, i, none⟩ = some (.int .u32 ((l.getD i 0 : Nat) : Int)) := by
  obtain ⟨fuel', d, q, h1, h2⟩ := Lib.array_elem ht hd i hi
  rw [Tryd.cells53] at h2
  obtain ⟨k, e1, e2, _⟩ := DataW.trod_int Tryd.underlying53 h2
  rw [World.var?_cell hg hv i]
  have hl : i < l.length := by omega
  rw [List.getElem?_map, List.getElem?_eq_getElem hl] at h1
  simp only [Prod.mk.injEq] at e2
  rw [e2.1] at h1
  simp only [Option.map_some, Option.some.injEq, DataW.lit.injEq, Lit.int.injEq, true_and] at h1
  rw [List.getD_eq_getElem?_getD, List.getElem?_eq_getElem hl, Option.getD_some, h1, ← Array.getElem?_toList]
  rw [Nat.mul_one] at e1
  have := congrArg (fun x : List Value => x[0]?) e1
  simpa using this

theorem of_laid {W : World} (h : laidMetH Tryd.prog Rows.merkleRootsRow.laid W) : Glob Hc Kc W := by
  rw [MakeChecks.laidMetH_plain _ _ _ (by kernel_rfl)] at h
  obtain ⟨ps, ⟨g0, t0, cs0, f0, p0, q0, hg0, ht0, hv0, hd0, ⟨g1, t1, cs1, f1, p1, q1, hg1, ht1, hv1, hd1, _, _⟩, _⟩, _, _⟩ := h
  obtain rfl := Option.some.inj (gConstants.symm.trans hg0)
  obtain rfl := Option.some.inj (gFirst.symm.trans hg1)
  obtain rfl := Option.some.inj (tConstants.symm.trans ht0)
  obtain rfl := Option.some.inj (tFirst.symm.trans ht1)
  rw [dConstants] at hd0
  rw [dFirst] at hd1
  have c0 := var_nums hg0 Tryd.underlying65 rfl hv0 hd0 0 (by decide)
  exact ⟨World.block_lt_of_cell? W ⟨1, 0, none⟩ c0, fun j hj => var_nums hg1 Tryd.underlying54 rfl hv1 hd1 j hj, fun j hj => var_nums hg0 Tryd.underlying65 rfl hv0 hd0 j hj⟩

/-- A slice of integers that came in: nil, or a row of cells. -/
def IsRow (k : IntKind) (w : World) (a : Option Addr) (len cap : Nat) (zs : List Int) : Prop :=
  (a = none ∧ len = 0 ∧ cap = 0 ∧ zs = []) ∨
  ∃ x, a = some x ∧ len ≤ cap ∧ cap ≤ maxLen ∧ zs.length = cap ∧ (∀ i, i < zs.length → w.cell? (x.add i) = some (.int k (zs.getD i 0))) ∧ ∀ n ∈ zs, (Lit.int k n).wf = true
end Go.Proofs.YtoeanaadlihkeabDoor
