/- Texts that the statements of this stage share, joined: ObShaLaid, JnOpenA. -/
import Derived.Test.YtoiaclmfljoomaaDoorJoint04
import Derived.LaidMore
import Derived.Stop.Joined
import Derived.Lib.LaidU8
import Derived.MakeChecks
import Derived.Test.YtoiaclmfljoomaaDoorJoint02
import Derived.Deep.Slices
import Derived.Deep.Grids
import Derived.Lib.SmallJoins
import Derived.ChangeSame

/- What the listed variables hold, out of the row's hypothesis; the witness's own world. -/
namespace Go.Proofs.YtoiaclmfljoomaaDoor
open Go.ChangeShapes Go.WideShapes Go.ChangeAt Go.WideMaps Go.WideElems Go.RowKit

theorem gConstants : Tryd.prog.globalNamed (Rows.journalPlaysRow.named.getD 1 Rows.journalPlaysRow.program) = some 1 := by kernel_rfl
theorem gFirst : Tryd.prog.globalNamed (Rows.journalPlaysRow.named.getD 0 Rows.journalPlaysRow.program) = some 0 := by kernel_rfl
theorem tConstants : (Tryd.prog.globals[1]?).map (·.type) = some 144 := by kernel_rfl
theorem tFirst : (Tryd.prog.globals[0]?).map (·.type) = some 142 := by kernel_rfl
theorem dConstants {H : Type} : (Rows.laid_cofferdam_sha_constants : DataW H) = .agg (kList.map fun x => .lit (.int .u32 ((x : Nat) : Int))) := rfl
theorem dFirst {H : Type} : (Rows.laid_cofferdam_sha_firstState : DataW H) = .agg (hList.map fun x => .lit (.int .u32 ((x : Nat) : Int))) := rfl
theorem Tryd.cells141 : Tryd.prog.cellsOf 141 = 1 := by kernel_rfl

theorem var_nums {H : Type} {enc : TypeId × Value → H} {W : World} {base : Nat} {sp : Nat → Bool} {held : Bool} {fuel : Nat} {name : String} {g t n : Nat} {l : List Nat} {cs : Array Value} {p : List MemPlace}
    (hg : Tryd.prog.globalNamed name = some g) (ht : Tryd.prog.underlying t = some (.array n 141)) (hn : l.length = n) (hv : W.var? Tryd.prog name = some cs)
    (hd : DataW.trod enc Tryd.prog W base sp held fuel t cs.toList = some (.agg (l.map fun x => .lit (.int .u32 ((x : Nat) : Int))), p)) (i : Nat) (hi : i < n) :
    W.cell? ⟨g, i, none⟩ = some (.int .u32 ((l.getD i 0 : Nat) : Int)) := by
  obtain ⟨fuel', d, q, h1, h2⟩ := Lib.array_elem ht hd i hi
  rw [Tryd.cells141] at h2
  obtain ⟨k, e1, e2, _⟩ := DataW.trod_int Tryd.underlying141 h2
  rw [World.var?_cell hg hv i]
  have hl : i < l.length := by omega
  rw [List.getElem?_map, List.getElem?_eq_getElem hl] at h1
  simp only [Prod.mk.injEq] at e2
  rw [e2.1] at h1
  simp only [Option.map_some, Option.some.injEq, DataW.lit.injEq, Lit.int.injEq, true_and] at h1
  rw [List.getD_eq_getElem?_getD, List.getElem?_eq_getElem hl, Option.getD_some, h1, ← Array.getElem?_toList]
  rw [Nat.mul_one] at e1
  have := congrArg (fun x : List Value => x[0]?) e1
  simpa using this

theorem of_laid {W : World} (h : laidMetH Tryd.prog Rows.journalPlaysRow.laid W) : Glob Hc Kc W := by
  rw [MakeChecks.laidMetH_plain _ _ _ (by kernel_rfl)] at h
  obtain ⟨ps, ⟨g0, t0, cs0, f0, p0, q0, hg0, ht0, hv0, hd0, ⟨g1, t1, cs1, f1, p1, q1, hg1, ht1, hv1, hd1, _, _⟩, _⟩, _, _⟩ := h
  obtain rfl := Option.some.inj (gConstants.symm.trans hg0)
  obtain rfl := Option.some.inj (gFirst.symm.trans hg1)
  obtain rfl := Option.some.inj (tConstants.symm.trans ht0)
  obtain rfl := Option.some.inj (tFirst.symm.trans ht1)
  rw [dConstants] at hd0
  rw [dFirst] at hd1
  have c0 := var_nums hg0 Tryd.underlying144 rfl hv0 hd0 0 (by decide)
  exact ⟨World.block_lt_of_cell? W ⟨1, 0, none⟩ c0, fun j hj => var_nums hg1 Tryd.underlying142 rfl hv1 hd1 j hj, fun j hj => var_nums hg0 Tryd.underlying144 rfl hv0 hd0 j hj⟩

/-- A slice of integers that came in: nil, or a row of cells. -/
def IsRow (k : IntKind) (w : World) (a : Option Addr) (len cap : Nat) (zs : List Int) : Prop :=
  (a = none ∧ len = 0 ∧ cap = 0 ∧ zs = []) ∨
  ∃ x, a = some x ∧ len ≤ cap ∧ cap ≤ maxLen ∧ zs.length = cap ∧ (∀ i, i < zs.length → w.cell? (x.add i) = some (.int k (zs.getD i 0))) ∧ ∀ n ∈ zs, (Lit.int k n).wf = true
end Go.Proofs.YtoiaclmfljoomaaDoor

/- Bytes, bools, numbers, lists of records, as they came in. -/
namespace Go.Proofs.YtoiaclmfljoomaaDoor
open Go.ChangeShapes Go.WideShapes Go.ChangeAt Go.RowKit
set_option linter.unusedVariables false

def bnD (zs : List Int) (j : Nat) : Nat := (zs.getD j 0).toNat % 256

theorem bnD_eq {zs : List Int} (hw : ∀ n ∈ zs, (Lit.int .u8 n).wf = true) (j : Nat) (hj : j < zs.length) : zs.getD j 0 = ((bnD zs j : Nat) : Int) := by
  have hmem : zs.getD j 0 ∈ zs := by rw [List.getD_eq_getElem?_getD, List.getElem?_eq_getElem hj]; exact List.getElem_mem hj
  have h := hw _ hmem
  simp [Lit.wf, IntKind.min, IntKind.max, IntKind.signed, IntKind.bits] at h
  unfold bnD
  rw [Int.natCast_emod, Int.toNat_of_nonneg (by simpa using h.1)]
  have := h.2
  simp at this ⊢
  omega

theorem i64_of_wf {n : Int} (h : (Lit.int .i64 n).wf = true) : i64ok n := by
  simp [Lit.wf, IntKind.min, IntKind.max, IntKind.signed, IntKind.bits] at h
  unfold i64ok
  omega

theorem cells5D : Tryd.prog.cellsOf 5 = 1 := by kernel_rfl
theorem cells4D : Tryd.prog.cellsOf 4 = 1 := by kernel_rfl
theorem cells3D : Tryd.prog.cellsOf 3 = 1 := by kernel_rfl
theorem cellsByD : Tryd.prog.cellsOf 33 = 1 := by kernel_rfl
theorem cellsRcD : Tryd.prog.cellsOf 32 = 1 := by kernel_rfl

variable {H : Type} {enc : TypeId × Value → H} {W : World} {fuel : Nat}

theorem open_by {v : Value} {y : DataW H × List MemPlace} (hf : DataW.trod enc Tryd.prog W 0 (fun _ => true) true fuel 33 [v] = some y) : ∃ a L C b, v = .slice a L C ∧ ByIn W a L C b := by
  rcases open_ints Tryd.underlying33 Tryd.underlying5 cells5D hf with ⟨hcs, _⟩ | ⟨x, l, c, zs, hcs, _, hl, hm, hzl, hx, hcell, hwz⟩
  · simp only [List.cons.injEq, and_true] at hcs
    exact ⟨none, 0, 0, fun _ => 0, hcs, Nat.le_refl _, Nat.zero_le _, fun _ => ⟨rfl, rfl⟩, .inl rfl, fun _ => by decide⟩
  · simp only [List.cons.injEq, and_true] at hcs
    have hzl' : zs.length = c := by simpa using hzl
    refine ⟨some x, l, c, bnD zs, hcs, hl, Nat.le_trans hl hm, (fun e => by cases e), ?_, fun j => Nat.mod_lt _ (by decide)⟩
    by_cases h0 : l = 0
    · exact .inl h0
    · obtain ⟨b, off, spot⟩ := x
      have hs : spot = none := by simpa [Addr.add] using World.cell?_spot (hcell 0 (by omega))
      subst hs
      have e1 : ∀ j, (⟨b, off, none⟩ : Addr).add j = ⟨b, off + j, none⟩ := fun j => by simp [Addr.add]
      refine .inr ⟨b, off, rfl, World.block_lt_of_cell? W _ (hcell 0 (by omega)), fun j hj => ?_⟩
      have h := hcell j (by omega)
      rw [e1, bnD_eq hwz j (by omega)] at h
      exact h

theorem open_bo {v : Value} {y : DataW H × List MemPlace} (hf : DataW.trod enc Tryd.prog W 0 (fun _ => true) true fuel 34 [v] = some y) : ∃ a L C b, v = .slice a L C ∧ BoIn W a L C b := by
  rcases Go.Deep.open_bools Tryd.underlying34 Tryd.underlying4 cells4D hf with ⟨hcs, _⟩ | ⟨x, l, c, B, hcs, _, hl, hm, _, hcell⟩
  · simp only [List.cons.injEq, and_true] at hcs
    exact ⟨none, 0, 0, fun _ => false, hcs, Nat.le_refl _, Nat.zero_le _, .inl rfl⟩
  · simp only [List.cons.injEq, and_true] at hcs
    refine ⟨some x, l, c, B, hcs, hl, Nat.le_trans hl hm, ?_⟩
    by_cases h0 : l = 0
    · exact .inl h0
    · obtain ⟨b, off, spot⟩ := x
      have hs : spot = none := by simpa [Addr.add] using World.cell?_spot (hcell 0 (by omega))
      subst hs
      have e1 : ∀ j, (⟨b, off, none⟩ : Addr).add j = ⟨b, off + j, none⟩ := fun j => by simp [Addr.add]
      refine .inr ⟨b, off, rfl, World.block_lt_of_cell? W _ (hcell 0 (by omega)), fun j hj => ?_⟩
      have h := hcell j (by omega)
      rw [e1] at h
      exact h

structure CutV where
  i : Int
  a : Option Addr
  L : Nat
  C : Nat
  k : Nat → Bool

/-- When power goes, and what it keeps, as it came in. -/
def CutIn (W : World) (cs : Array Value) (O : CutV) : Prop := cs = #[.int .i64 O.i, .slice O.a O.L O.C] ∧ i64ok O.i ∧ BoIn W O.a O.L O.C O.k

theorem open_i64 {v : Value} {y : DataW H × List MemPlace} (hf : DataW.trod enc Tryd.prog W 0 (fun _ => true) true fuel 3 [v] = some y) : ∃ n, v = .int .i64 n ∧ i64ok n := by
  obtain ⟨s, hs1, _, hs2⟩ := DataW.trod_int Tryd.underlying3 hf
  simp only [List.cons.injEq, and_true] at hs1
  exact ⟨s, hs1, i64_of_wf hs2⟩

/-- A slice whose elements have one cell each: what each of them is. -/
theorem open_ones {t e : TypeId} (ht : Tryd.prog.underlying t = some (.slice e)) (he : Tryd.prog.cellsOf e = 1) {v : Value} {y : DataW H × List MemPlace} (hf : DataW.trod enc Tryd.prog W 0 (fun _ => true) true fuel t [v] = some y) :
    ∃ a len cap, v = .slice a len cap ∧ len ≤ cap ∧ len ≤ maxLen ∧ ∀ i, i < len → ∃ x o u n' z, a = some ⟨x, o, none⟩ ∧ x < W.heap.size ∧ W.cell? ⟨x, o + i, none⟩ = some u ∧ DataW.trod enc Tryd.prog W 0 (fun _ => true) true n' e [u] = some z := by
  rcases Go.Deep.open_slice ht hf with ⟨hcs, _⟩ | ⟨ad, l, c, m, n, D, Pl, hcs, _, hl, hm, hmm, _, hx⟩
  · simp only [List.cons.injEq, and_true] at hcs
    exact ⟨none, 0, 0, hcs, Nat.le_refl _, Nat.zero_le _, fun i hi => by omega⟩
  · simp only [List.cons.injEq, and_true] at hcs
    simp only [if_true] at hmm
    refine ⟨some ad, l, c, hcs, hl, Nat.le_trans hl hm, fun i hi => ?_⟩
    obtain ⟨cs', h1, h2⟩ := hx i (by omega)
    rw [he] at h1
    obtain ⟨_, hlen, hcell⟩ := World.cells?_some h1
    match cs', hlen with
    | [u], _ =>
      have c0 := hcell 0 (by omega)
      rw [Go.Deep.add_add] at c0
      obtain ⟨b, off, spot⟩ := ad
      have hs : spot = none := by
        by_cases hz : i * 1 = 0
        · rw [hz] at c0
          simpa [Addr.add] using World.cell?_spot c0
        · have hi0 : 0 < m := by omega
          obtain ⟨cs0, g1, _⟩ := hx 0 hi0
          rw [he] at g1
          obtain ⟨_, hlen0, hcell0⟩ := World.cells?_some g1
          have := hcell0 0 (by omega)
          rw [Go.Deep.add_add] at this
          cases hv : cs0[0]? with
          | none => rw [List.getElem?_eq_none_iff] at hv; omega
          | some u => simpa [Addr.add] using World.cell?_spot (this.trans hv)
      subst hs
      have ea : ∀ j, (⟨b, off, none⟩ : Addr).add j = ⟨b, off + j, none⟩ := fun j => by simp [Addr.add]
      rw [ea] at c0
      have c0' : W.cell? ⟨b, off + i, none⟩ = some u := by simpa using c0
      exact ⟨b, off, u, _, _, rfl, World.block_lt_of_cell? W _ c0', c0', h2⟩


theorem rl_of {a : Option Addr} {len : Nat} (hm : len ≤ maxLen) (h : ∀ i, i < len → ∃ r : RC, ∃ x o ad C, a = some ⟨x, o, none⟩ ∧ x < W.heap.size ∧ W.cell? ⟨x, o + i, none⟩ = some (.slice ad r.L C) ∧ ByIn W ad r.L C r.f) : ∃ rs, Rl W a rs ∧ rs.length = len := by
  refine ⟨(List.range len).map fun i => if h' : i < len then (h i h').choose else ⟨0, fun _ => 0⟩, ⟨by simpa using hm, fun i r hr => ?_⟩, by simp⟩
  have hi : i < len := by
    have := (List.getElem?_eq_some_iff.1 hr).1
    simpa using this
  rw [List.getElem?_map, List.getElem?_range hi] at hr
  simp only [Option.map_some, Option.some.injEq, dif_pos hi] at hr
  subst hr
  exact (h i hi).choose_spec

theorem open_rl {v : Value} {y : DataW H × List MemPlace} (hf : DataW.trod enc Tryd.prog W 0 (fun _ => true) true fuel 32 [v] = some y) : ∃ a len cap rs, v = .slice a len cap ∧ len ≤ cap ∧ Rl W a rs ∧ rs.length = len := by
  obtain ⟨a, len, cap, rfl, hl, hm, hx⟩ := open_ones Tryd.underlying32 cellsByD hf
  obtain ⟨rs, h1, h2⟩ := rl_of hm (fun i hi => by
    obtain ⟨x, o, u, n', z, e, hxl, hc, ht⟩ := hx i hi
    obtain ⟨ad, L, C, b, rfl, hb⟩ := open_by ht
    exact ⟨⟨L, b⟩, x, o, ad, C, e, hxl, hc, hb⟩)
  exact ⟨a, len, cap, rs, rfl, hl, h1, h2⟩

/-- Records, more of them, and power that goes twice, as they came in. -/
structure TornV where
  a : Option Addr
  L : Nat
  C : Nat
  rs : List RC
  b : Option Addr
  M : Nat
  E : Nat
  qs : List RC
  c : CutV
  d : CutV

def TornIn (W : World) (cs : Array Value) (O : TornV) : Prop := cs = #[.slice O.a O.L O.C, .slice O.b O.M O.E, .int .i64 O.c.i, .slice O.c.a O.c.L O.c.C, .int .i64 O.d.i, .slice O.d.a O.d.L O.d.C] ∧ (Rl W O.a O.rs ∧ O.L = O.rs.length) ∧ (Rl W O.b O.qs ∧ O.M = O.qs.length) ∧ (i64ok O.c.i ∧ BoIn W O.c.a O.c.L O.c.C O.c.k) ∧ i64ok O.d.i ∧ BoIn W O.d.a O.d.L O.d.C O.d.k

end Go.Proofs.YtoiaclmfljoomaaDoor
