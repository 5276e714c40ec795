/- cache: scripts, bytes, numbers, as they came in. -/
import Derived.Test.YtancebpjfbbcaaaCcPick
import Derived.Deep.Slices
import Derived.Deep.Grids
import Derived.Lib.SmallJoins
import Derived.ChangeSame
namespace Go.Proofs.Ytancebpjfbbcaaa
open Go.ChangeShapes Go.WideShapes Go.ChangeAt Go.RowKit
set_option linter.unusedVariables false

/-- Bytes that came in. -/
structure ByC (w : World) (a : Option Addr) (L C : Nat) (b : Nat → Nat) : Prop where
  le : L ≤ C
  max : L ≤ maxLen
  nil : a = none → L = 0 ∧ C = 0
  at_ : Bytes w a L b
  byt : ∀ j, b j < 256

theorem ByC.below {w w' : World} {a : Option Addr} {L C B : Nat} {b : Nat → Nat} (h : ByC w a L C b) (hb : Below B w w') (hB : w.heap.size ≤ B) : ByC w' a L C b :=
  ⟨h.le, h.max, h.nil, h.at_.below hb hB, h.byt⟩

def bnC (zs : List Int) (j : Nat) : Nat := (zs.getD j 0).toNat % 256

theorem bnC_eq {zs : List Int} (hw : ∀ n ∈ zs, (Lit.int .u8 n).wf = true) (j : Nat) (hj : j < zs.length) : zs.getD j 0 = ((bnC zs j : Nat) : Int) := by
  have hmem : zs.getD j 0 ∈ zs := by rw [List.getD_eq_getElem?_getD, List.getElem?_eq_getElem hj]; exact List.getElem_mem hj
  have h := hw _ hmem
  simp [Lit.wf, IntKind.min, IntKind.max, IntKind.signed, IntKind.bits] at h
  unfold bnC
  rw [Int.natCast_emod, Int.toNat_of_nonneg (by simpa using h.1)]
  have := h.2
  simp at this ⊢
  omega

theorem i64_of_wfC {n : Int} (h : (Lit.int .i64 n).wf = true) : i64ok n := by
  simp [Lit.wf, IntKind.min, IntKind.max, IntKind.signed, IntKind.bits] at h
  unfold i64ok
  omega

theorem cells5C : Try.prog.cellsOf 5 = 1 := by kernel_rfl

variable {H : Type} {enc : TypeId × Value → H} {W : World} {fuel : Nat}

theorem open_byC {v : Value} {y : DataW H × List MemPlace} (hf : DataW.trod enc Try.prog W 0 (fun _ => true) true fuel 39 [v] = some y) : ∃ a L C b, v = .slice a L C ∧ ByC W a L C b := by
  rcases open_ints Try.underlying39 Try.underlying5 cells5C hf with ⟨hcs, _⟩ | ⟨x, l, c, zs, hcs, _, hl, hm, hzl, hx, hcell, hwz⟩
  · simp only [List.cons.injEq, and_true] at hcs
    exact ⟨none, 0, 0, fun _ => 0, hcs, Nat.le_refl _, Nat.zero_le _, fun _ => ⟨rfl, rfl⟩, .inl rfl, fun _ => by decide⟩
  · simp only [List.cons.injEq, and_true] at hcs
    have hzl' : zs.length = c := by simpa using hzl
    refine ⟨some x, l, c, bnC zs, hcs, hl, Nat.le_trans hl hm, (fun e => by cases e), ?_, fun j => Nat.mod_lt _ (by decide)⟩
    by_cases h0 : l = 0
    · exact .inl h0
    · obtain ⟨b, off, spot⟩ := x
      have hs : spot = none := by simpa [Addr.add] using World.cell?_spot (hcell 0 (by omega))
      subst hs
      have e1 : ∀ j, (⟨b, off, none⟩ : Addr).add j = ⟨b, off + j, none⟩ := fun j => by simp [Addr.add]
      refine .inr ⟨b, off, rfl, World.block_lt_of_cell? W _ (hcell 0 (by omega)), fun j hj => ?_⟩
      have h := hcell j (by omega)
      rw [e1, bnC_eq hwz j (by omega)] at h
      exact h

theorem open_i64C {v : Value} {y : DataW H × List MemPlace} (hf : DataW.trod enc Try.prog W 0 (fun _ => true) true fuel 3 [v] = some y) : ∃ n, v = .int .i64 n ∧ i64ok n := by
  obtain ⟨s, hs1, _, hs2⟩ := DataW.trod_int Try.underlying3 hf
  simp only [List.cons.injEq, and_true] at hs1
  exact ⟨s, hs1, i64_of_wfC hs2⟩

/-- One of a script: its kind, its bytes, its number, what it keeps. -/
structure OpC where
  k : Int
  d : Int
  i : Int
  a : Option Addr
  L : Nat
  C : Nat
  b : Nat → Nat

structure OpCIn (w : World) (x o : Nat) (v : OpC) : Prop where
  c0 : w.cell? ⟨x, o, none⟩ = some (.int .i64 v.k)
  c1 : w.cell? ⟨x, o + 1, none⟩ = some (.int .i64 v.d)
  c2 : w.cell? ⟨x, o + 2, none⟩ = some (.int .i64 v.i)
  c3 : w.cell? ⟨x, o + 3, none⟩ = some (.slice v.a v.L v.C)
  ok : i64ok v.k
  od : i64ok v.d
  oi : i64ok v.i
  by_ : ByC w v.a v.L v.C v.b

def ScrC (w : World) (a : Option Addr) (len : Nat) (O : Nat → OpC) : Prop := len ≤ maxLen ∧ ∀ i, i < len → ∃ x o, a = some ⟨x, o, none⟩ ∧ x < w.heap.size ∧ OpCIn w x (o + i * 4) (O i)

theorem OpCIn.below {w w' : World} {x o B : Nat} {v : OpC} (h : OpCIn w x o v) (hx : x < w.heap.size) (hb : Below B w w') (hB : w.heap.size ≤ B) : OpCIn w' x o v :=
  ⟨(hb.cell (show x < B by omega)).trans h.c0, (hb.cell (show x < B by omega)).trans h.c1, (hb.cell (show x < B by omega)).trans h.c2, (hb.cell (show x < B by omega)).trans h.c3, h.ok, h.od, h.oi, h.by_.below hb hB⟩

theorem run_at_opC {o : Oper} {a : Act} (x i : Operand) (ho : o.op = .indexAddr 22 x i) (g off k n cap : Nat) (hx : a.eval x = .slice (some ⟨g, off, none⟩) n cap) (hi : a.eval i = .int .i64 (k : Nat)) (hk : k < n) (w : World) : (execOp a.eval o).run Try.prog w = .ok (.value (.pointer (some ⟨g, off + k * 4, none⟩))) w := by
  unfold execOp
  cases hq : Try.prog.info? 41 with
  | none => exact absurd hq (by have h : (Try.prog.info? 41).isSome = true := (by kernel_rfl); intro e; rw [e] at h; cases h)
  | some inf =>
    have hz : inf.size = 4 := by
      have h : (Try.prog.info? 41).map (·.size) = some 4 := by kernel_rfl
      simpa [hq] using h
    simp only [ho, hx, hi]
    simp [Instr.indexAt, Instr.sureAddr, run_underlying Try.underlying22, asIntOf, sizeOf, typeInfo, hq, hz, Addr.add_mid, go_sem]
    intro h
    omega

theorem cellsOpC : Try.prog.cellsOf 41 = 4 := by kernel_rfl

set_option maxRecDepth 100000 in
theorem open_scrC {a : Option Addr} {len cap : Nat} {x : DataW H × List MemPlace} (hf : DataW.trod enc Try.prog W 0 (fun _ => true) true fuel 22 [.slice a len cap] = some x) : ∃ O, ScrC W a len O := by
  rcases Go.Deep.open_slice Try.underlying22 hf with ⟨hcs, _⟩ | ⟨ad, l, c, m, n, D, Pl, hcs, _, hl, hm, hmm, _, hx⟩
  · simp only [List.cons.injEq, Value.slice.injEq, and_true] at hcs
    obtain ⟨rfl, rfl, rfl⟩ := hcs
    exact ⟨fun _ => ⟨0, 0, 0, none, 0, 0, fun _ => 0⟩, Nat.zero_le _, fun i hi => by omega⟩
  · simp only [List.cons.injEq, Value.slice.injEq, and_true] at hcs
    obtain ⟨rfl, rfl, rfl⟩ := hcs
    simp only [if_true] at hmm
    have each : ∀ i, i < len → ∃ v : OpC, ∃ x o, ad = ⟨x, o, none⟩ ∧ x < W.heap.size ∧ OpCIn W x (o + i * 4) v := by
      intro i hi
      obtain ⟨cs', h1, h2⟩ := hx i (by omega)
      rw [cellsOpC] at h1
      obtain ⟨_, hlen, hcell⟩ := World.cells?_some h1
      obtain ⟨y0, y1, y2, y3, n', _, _, e0, e1, e2, e3⟩ := Go.Joins.trod_struct4 Try.underlying41 h2
      match cs', hlen with
      | [v0, v1, v2, v3], _ =>
        have f0 : DataW.trod enc Try.prog W 0 (fun _ => true) true n' 3 [v0] = some y0 := e0
        have f1 : DataW.trod enc Try.prog W 0 (fun _ => true) true n' 3 [v1] = some y1 := e1
        have f2 : DataW.trod enc Try.prog W 0 (fun _ => true) true n' 3 [v2] = some y2 := e2
        have f3 : DataW.trod enc Try.prog W 0 (fun _ => true) true n' 39 [v3] = some y3 := e3
        obtain ⟨k, rfl, hk⟩ := open_i64C f0
        obtain ⟨dd, rfl, hdd⟩ := open_i64C f1
        obtain ⟨j, rfl, hj⟩ := open_i64C f2
        obtain ⟨a3, L3, C3, b3, rfl, h3'⟩ := open_byC f3
        have c0 := hcell 0 (by omega)
        have c1 := hcell 1 (by omega)
        have c2 := hcell 2 (by omega)
        have c3 := hcell 3 (by omega)
        rw [Go.Deep.add_add] at c0 c1 c2 c3
        obtain ⟨b, off, spot⟩ := ad
        have hs : spot = none := by
          by_cases hz : i * 4 = 0
          · rw [hz] at c0
            simpa [Addr.add] using World.cell?_spot c0
          · have hi0 : 0 < m := by omega
            obtain ⟨cs0, g1, _⟩ := hx 0 hi0
            rw [cellsOpC] at g1
            obtain ⟨_, hlen0, hcell0⟩ := World.cells?_some g1
            have := hcell0 0 (by omega)
            rw [Go.Deep.add_add] at this
            cases hv : cs0[0]? with
            | none => rw [List.getElem?_eq_none_iff] at hv; omega
            | some u => simpa [Addr.add] using World.cell?_spot (this.trans hv)
        subst hs
        have ea : ∀ j, (⟨b, off, none⟩ : Addr).add j = ⟨b, off + j, none⟩ := fun j => by simp [Addr.add]
        rw [ea] at c0 c1 c2 c3
        refine ⟨⟨k, dd, j, a3, L3, C3, b3⟩, b, off, rfl, World.block_lt_of_cell? W _ c0, ?_⟩
        exact ⟨by simpa using c0, by rw [Nat.add_assoc]; simpa using c1, by rw [Nat.add_assoc]; simpa using c2, by rw [Nat.add_assoc]; simpa using c3, hk, hdd, hj, h3'⟩
    refine ⟨fun i => if h : i < len then (each i h).choose else ⟨0, 0, 0, none, 0, 0, fun _ => 0⟩, Nat.le_trans hl hm, fun i hi => ?_⟩
    simp only [dif_pos hi]
    obtain ⟨x, o, e, h1, h2⟩ := (each i hi).choose_spec
    exact ⟨x, o, by rw [e], h1, h2⟩
end Go.Proofs.Ytancebpjfbbcaaa
