/- JournalPlays' scripts, as they came in. -/
import Derived.Test.YtoiaclmfljoomaaDoorJoint12
namespace Go.Proofs.YtoiaclmfljoomaaDoor
open Go.ChangeShapes Go.WideShapes Go.ChangeAt Go.RowKit
set_option linter.unusedVariables false

/-- One of a script: its kind, its bytes, its number, what it keeps. -/
structure OpJ where
  k : Int
  a : Option Addr
  L : Nat
  C : Nat
  b : Nat → Nat
  i : Int
  ka : Option Addr
  kl : Nat
  kc : Nat
  kb : Nat → Bool

structure OpJIn (w : World) (x o : Nat) (v : OpJ) : Prop where
  c0 : w.cell? ⟨x, o, none⟩ = some (.int .i64 v.k)
  c1 : w.cell? ⟨x, o + 1, none⟩ = some (.slice v.a v.L v.C)
  c2 : w.cell? ⟨x, o + 2, none⟩ = some (.int .i64 v.i)
  c3 : w.cell? ⟨x, o + 3, none⟩ = some (.slice v.ka v.kl v.kc)
  ok : i64ok v.k
  oi : i64ok v.i
  by_ : ByIn w v.a v.L v.C v.b
  bo : BoIn w v.ka v.kl v.kc v.kb

def ScrJ (w : World) (a : Option Addr) (len : Nat) (O : Nat → OpJ) : Prop := len ≤ maxLen ∧ ∀ i, i < len → ∃ x o, a = some ⟨x, o, none⟩ ∧ x < w.heap.size ∧ OpJIn w x (o + i * 4) (O i)

theorem OpJIn.below {w w' : World} {x o B : Nat} {v : OpJ} (h : OpJIn w x o v) (hx : x < w.heap.size) (hb : Below B w w') (hB : w.heap.size ≤ B) : OpJIn w' x o v :=
  ⟨(hb.cell (show x < B by omega)).trans h.c0, (hb.cell (show x < B by omega)).trans h.c1, (hb.cell (show x < B by omega)).trans h.c2, (hb.cell (show x < B by omega)).trans h.c3, h.ok, h.oi, h.by_.below hb hB, h.bo.below hb hB⟩

theorem run_at_opJ {o : Oper} {a : Act} (x i : Operand) (ho : o.op = .indexAddr 22 x i) (g off k n cap : Nat) (hx : a.eval x = .slice (some ⟨g, off, none⟩) n cap) (hi : a.eval i = .int .i64 (k : Nat)) (hk : k < n) (w : World) : (execOp a.eval o).run Tryd.prog w = .ok (.value (.pointer (some ⟨g, off + k * 4, none⟩))) w := by
  unfold execOp
  cases hq : Tryd.prog.info? 36 with
  | none => exact absurd hq (by have h : (Tryd.prog.info? 36).isSome = true := (by kernel_rfl); intro e; rw [e] at h; cases h)
  | some inf =>
    have hz : inf.size = 4 := by
      have h : (Tryd.prog.info? 36).map (·.size) = some 4 := by kernel_rfl
      simpa [hq] using h
    simp only [ho, hx, hi]
    simp [Instr.indexAt, Instr.sureAddr, run_underlying Tryd.underlying22, asIntOf, sizeOf, typeInfo, hq, hz, Addr.add_mid, go_sem]
    intro h
    omega

theorem cellsOpJ : Tryd.prog.cellsOf 36 = 4 := by kernel_rfl

variable {H : Type} {enc : TypeId × Value → H} {W : World} {fuel : Nat}

set_option maxRecDepth 100000 in
theorem open_scrJ {a : Option Addr} {len cap : Nat} {x : DataW H × List MemPlace} (hf : DataW.trod enc Tryd.prog W 0 (fun _ => true) true fuel 22 [.slice a len cap] = some x) : ∃ O, ScrJ W a len O := by
  rcases Go.Deep.open_slice Tryd.underlying22 hf with ⟨hcs, _⟩ | ⟨ad, l, c, m, n, D, Pl, hcs, _, hl, hm, hmm, _, hx⟩
  · simp only [List.cons.injEq, Value.slice.injEq, and_true] at hcs
    obtain ⟨rfl, rfl, rfl⟩ := hcs
    exact ⟨fun _ => ⟨0, none, 0, 0, fun _ => 0, 0, none, 0, 0, fun _ => false⟩, Nat.zero_le _, fun i hi => by omega⟩
  · simp only [List.cons.injEq, Value.slice.injEq, and_true] at hcs
    obtain ⟨rfl, rfl, rfl⟩ := hcs
    simp only [if_true] at hmm
    have each : ∀ i, i < len → ∃ v : OpJ, ∃ x o, ad = ⟨x, o, none⟩ ∧ x < W.heap.size ∧ OpJIn W x (o + i * 4) v := by
      intro i hi
      obtain ⟨cs', h1, h2⟩ := hx i (by omega)
      rw [cellsOpJ] at h1
      obtain ⟨_, hlen, hcell⟩ := World.cells?_some h1
      obtain ⟨y0, y1, y2, y3, n', _, _, e0, e1, e2, e3⟩ := Go.Joins.trod_struct4 Tryd.underlying36 h2
      match cs', hlen with
      | [v0, v1, v2, v3], _ =>
        have f0 : DataW.trod enc Tryd.prog W 0 (fun _ => true) true n' 3 [v0] = some y0 := e0
        have f1 : DataW.trod enc Tryd.prog W 0 (fun _ => true) true n' 33 [v1] = some y1 := e1
        have f2 : DataW.trod enc Tryd.prog W 0 (fun _ => true) true n' 3 [v2] = some y2 := e2
        have f3 : DataW.trod enc Tryd.prog W 0 (fun _ => true) true n' 34 [v3] = some y3 := e3
        obtain ⟨k, rfl, hk⟩ := open_i64 f0
        obtain ⟨a2, L2, C2, b2, rfl, h2'⟩ := open_by f1
        obtain ⟨j, rfl, hj⟩ := open_i64 f2
        obtain ⟨a3, L3, C3, b3, rfl, h3'⟩ := open_bo f3
        have c0 := hcell 0 (by omega)
        have c1 := hcell 1 (by omega)
        have c2 := hcell 2 (by omega)
        have c3 := hcell 3 (by omega)
        rw [Go.Deep.add_add] at c0 c1 c2 c3
        obtain ⟨b, off, spot⟩ := ad
        have hs : spot = none := by
          by_cases hz : i * 4 = 0
          · rw [hz] at c0
            simpa [Addr.add] using World.cell?_spot c0
          · have hi0 : 0 < m := by omega
            obtain ⟨cs0, g1, _⟩ := hx 0 hi0
            rw [cellsOpJ] at g1
            obtain ⟨_, hlen0, hcell0⟩ := World.cells?_some g1
            have := hcell0 0 (by omega)
            rw [Go.Deep.add_add] at this
            cases hv : cs0[0]? with
            | none => rw [List.getElem?_eq_none_iff] at hv; omega
            | some u => simpa [Addr.add] using World.cell?_spot (this.trans hv)
        subst hs
        have ea : ∀ j, (⟨b, off, none⟩ : Addr).add j = ⟨b, off + j, none⟩ := fun j => by simp [Addr.add]
        rw [ea] at c0 c1 c2 c3
        refine ⟨⟨k, a2, L2, C2, b2, j, a3, L3, C3, b3⟩, b, off, rfl, World.block_lt_of_cell? W _ c0, ?_⟩
        exact ⟨by simpa using c0, by rw [Nat.add_assoc]; simpa using c1, by rw [Nat.add_assoc]; simpa using c2, by rw [Nat.add_assoc]; simpa using c3, hk, hj, h2', h3'⟩
    refine ⟨fun i => if h : i < len then (each i h).choose else ⟨0, none, 0, 0, fun _ => 0, 0, none, 0, 0, fun _ => false⟩, Nat.le_trans hl hm, fun i hi => ?_⟩
    simp only [dif_pos hi]
    obtain ⟨x, o, e, h1, h2⟩ := (each i hi).choose_spec
    exact ⟨x, o, by rw [e], h1, h2⟩
end Go.Proofs.YtoiaclmfljoomaaDoor
