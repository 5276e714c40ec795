/- The parts of a node that is read. -/
import Derived.Test.YtpckmllmjdafpaaGreatDoorPrLeaf
import Derived.Test.YtpckmllmjdafpaaGreatDoorJoint08
namespace Go.Proofs.YtpckmllmjdafpaaGreatDoor
open Go.ChangeShapes Go.WideShapes Go.ChangeAt Go.RowKit
set_option linter.unusedVariables false

def nth (l : List Nd) (k : Nat) : Nd := l.getD k (.mk [] [] 0 0 [])

theorem nth_get {l : List Nd} {k : Nat} (h : k < l.length) : nth l k = l[k] := by
  unfold nth
  rw [List.getD_eq_getElem?_getD, List.getElem?_eq_getElem h]
  rfl

/-- A node's value. -/
def nval (n : Nd) (A : Option Addr) (C : Nat) : Value := .agg #[.string (bs n.op), .string (bs n.s), .int .i64 n.n, .int .i64 n.a, .slice A n.l.length C]

/-- Where one of them lies. -/
def NdAt (w : World) (g p : Nat) (n : Nd) (A : Option Addr) (C : Nat) : Prop := ∀ j, j < 5 → w.cell? ⟨g, p + j, none⟩ = (ndc n (.slice A n.l.length C))[j]?

theorem run_load_nd {o : Oper} {a : Act} (x : Operand) (ho : o.op = .load 24 x) (g p : Nat) (hx : a.eval x = .pointer (some ⟨g, p, none⟩)) {n : Nd} {A : Option Addr} {C : Nat} (w : World) (h : NdAt w g p n A C) : (execOp a.eval o).run Tryz.prog w = .ok (.value (nval n A C)) w := by
  have q0 := h 0 (by decide)
  have q1 := h 1 (by decide)
  have q2 := h 2 (by decide)
  have q3 := h 3 (by decide)
  have q4 := h 4 (by decide)
  simp only [Nat.add_zero] at q0
  simp only [ndc] at q0 q1 q2 q3 q4
  unfold execOp nval
  simp only [ho, hx]
  go_simp

theorem run_at_nd {o : Oper} {a : Act} (x i : Operand) (ho : o.op = .indexAddr 22 x i) (g off k n cap : Nat) (hx : a.eval x = .slice (some ⟨g, off, none⟩) n cap) (hi : a.eval i = .int .i64 (k : Nat)) (hk : k < n) (w : World) : (execOp a.eval o).run Tryz.prog w = .ok (.value (.pointer (some ⟨g, off + k * 5, none⟩))) w := by
  unfold execOp
  obtain ⟨i0, hq, hz0, hz, hz2⟩ := info_parts Tryz.infoNode
  simp only [ho, hx, hi]
  simp [Instr.indexAt, Instr.sureAddr, run_underlying Tryz.underlying22, asIntOf, sizeOf, typeInfo, hq, hz, Addr.add_mid, go_sem]
  intro h
  omega

theorem NdAt.grow {w w' : World} {g p B : Nat} {n : Nd} {A : Option Addr} {C : Nat} (h : NdAt w g p n A C) (hb : Below B w w') (hg : g < B) : NdAt w' g p n A C := fun j hj => (hb.cell (p := ⟨g, p + j, none⟩) hg).trans (h j hj)

theorem parts_at {w : World} {n : Nd} {A : Option Addr} {C : Nat} (h : RdN w n A C) (hpos : 0 < n.l.length) : ∃ (g off : Nat) (Au : Nat → Option Addr) (Cu : Nat → Nat), A = some ⟨g, off, none⟩ ∧ g < w.heap.size ∧ ∀ k, k < n.l.length → NdAt w g (off + k * 5) (nth n.l k) (Au k) (Cu k) ∧ RdN w (nth n.l k) (Au k) (Cu k) := by
  obtain ⟨g, off, _, e, hg, _⟩ := h.rd.get 0 hpos
  have each : ∀ k, ∃ (Av : Option Addr) (Cv : Nat), k < n.l.length → NdAt w g (off + k * 5) (nth n.l k) Av Cv ∧ RdN w (nth n.l k) Av Cv := by
    intro k
    by_cases hk : k < n.l.length
    · obtain ⟨g', off', u, e', hg', hc, hr, hs, ho⟩ := h.rd.get k hk
      rw [e] at e'
      cases e'
      obtain ⟨Av, Cv, rfl, _, _⟩ := hr.slice
      refine ⟨Av, Cv, fun _ => ?_⟩
      rw [nth_get hk]
      exact ⟨hc, hr, hs, ho⟩
    · exact ⟨none, 0, fun h => absurd h hk⟩
  exact ⟨g, off, fun k => (each k).choose, fun k => (each k).choose_spec.choose, e, hg, fun k hk => (each k).choose_spec.choose_spec hk⟩
end Go.Proofs.YtpckmllmjdafpaaGreatDoor
