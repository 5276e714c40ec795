/- Two lists of the same tokens are one. -/
import Derived.Test.YtefjfjjoghikeaaDoorJoint03
namespace Go.Proofs.YtefjfjjoghikeaaDoor
open Go.ChangeShapes Go.WideShapes Go.ChangeAt Go.RowKit
set_option linter.unusedVariables false

/-- Tokens that lie somewhere. -/
def TokAt (w : World) (v : Value) (ts : Toks) : Prop := ∃ A C, v = .slice A ts.length C ∧ ts.length ≤ C ∧ C ≤ 9223372036854775807 ∧ ∀ i (hi : i < ts.length), ∃ g, A = some ⟨g, 0, none⟩ ∧ g < w.heap.size ∧ ∀ j, j < 4 → w.cell? ⟨g, i * 4 + j, none⟩ = (tkv ts[i].1 ts[i].2)[j]?

theorem TokRow.at_ {w : World} {base : Nat} {v : Value} {ts : Toks} (h : TokRow w base v ts) : TokAt w v ts := by
  by_cases hne : ts = []
  · subst hne
    rcases h.2 with ⟨rfl, h0⟩ | ⟨g, cap, cur, rfl, _, _, hn, hm, _⟩
    · exact ⟨none, 0, rfl, Nat.le_refl _, by omega, fun i hi => by simp at hi⟩
    · exact ⟨_, cap, rfl, hn, hm, fun i hi => by simp at hi⟩
  · obtain ⟨g, C, rfl, h1, h2, h3, h4, _, hc⟩ := h.lies hne
    exact ⟨_, C, rfl, h3, h4, fun i hi => ⟨g, rfl, h2, fun j hj => hc i hi j hj⟩⟩

theorem TokAt.below {w w' : World} {v : Value} {ts : Toks} (h : TokAt w v ts) (hb : Below w.heap.size w w') : TokAt w' v ts := by
  obtain ⟨A, C, rfl, h1, h2, h3⟩ := h
  refine ⟨A, C, rfl, h1, h2, fun i hi => ?_⟩
  obtain ⟨g, e, hg, hc⟩ := h3 i hi
  exact ⟨g, e, Nat.lt_of_lt_of_le hg hb.size, fun j hj => (hb.cell (p := ⟨g, i * 4 + j, none⟩) hg).trans (hc j hj)⟩

theorem TokAt.nil (w : World) : TokAt w (.slice none 0 0) [] := ⟨none, 0, rfl, Nat.le_refl _, by omega, fun i hi => by simp at hi⟩

theorem below_drewN {B : Nat} {a w : World} (h : Below B a w) (m : Nat) : Below B a (w.drewN m) := ⟨h.os, h.tape, h.output, h.size, h.block⟩

set_option maxRecDepth 100000 in
set_option maxHeartbeats 2000000 in
theorem same_c (w : World) (v v' : Value) (ts : Toks) (h : TokAt w v ts) (h' : TokAt w v' ts) (hn : ts.length ≤ 2000) : Calls Tryd.prog 13 #[v, v'] w fun e w' => e = .returned (.bool true) ∧ Below w.heap.size w w' := by
  obtain ⟨A, C, rfl, a1, a2, a3⟩ := h
  obtain ⟨A', C', rfl, b1, b2, b3⟩ := h'
  obtain ⟨M, hM⟩ : ∃ M, M = ts.length := ⟨_, rfl⟩
  rw [← hM] at a1 b1 hn ⊢
  have HM : Hid (M = ts.length) := hM
  clear hM
  go_enter Tryd.func13, Tryd.ntmps13
  go_wp2
  go_loopw [5] (fun z wr => ∃ k : Nat, k ≤ M ∧ z = .int .i64 (k : Nat) ∧ ∃ m, wr = w.drewN m) (fun z _ => M - (intOf z).toNat)
  case atStart => exact ⟨0, Nat.zero_le _, rfl, 0, rfl⟩
  case round =>
    obtain ⟨k, hk, rfl, m, rfl⟩ := hrel
    by_cases hlt : k < M
    · have hlt' : k < ts.length := by rw [← HM.out]; exact hlt
      obtain ⟨g, rfl, hg, hc⟩ := a3 k hlt'
      obtain ⟨g', rfl, hg', hc'⟩ := b3 k hlt'
      have c0 : w.cell? ⟨g, k * 4, none⟩ = some (.int .i64 (ts[k].1.kind : Nat)) := hc 0 (by decide)
      have c1 : w.cell? ⟨g, k * 4 + 1, none⟩ = some (.string (bs ts[k].1.s)) := hc 1 (by decide)
      have c2 : w.cell? ⟨g, k * 4 + 2, none⟩ = some (.int .i64 (ts[k].1.n : Nat)) := hc 2 (by decide)
      have c3 : w.cell? ⟨g, k * 4 + 3, none⟩ = some (.int .i64 (ts[k].2 : Nat)) := hc 3 (by decide)
      have d0 : w.cell? ⟨g', k * 4, none⟩ = some (.int .i64 (ts[k].1.kind : Nat)) := hc' 0 (by decide)
      have d1 : w.cell? ⟨g', k * 4 + 1, none⟩ = some (.string (bs ts[k].1.s)) := hc' 1 (by decide)
      have d2 : w.cell? ⟨g', k * 4 + 2, none⟩ = some (.int .i64 (ts[k].1.n : Nat)) := hc' 2 (by decide)
      have d3 : w.cell? ⟨g', k * 4 + 3, none⟩ = some (.int .i64 (ts[k].2 : Nat)) := hc' 3 (by decide)
      have hlt2 : ((k : Nat) : Int) < ((M : Nat) : Int) := by omega
      generalize ts[k].1 = t at c0 c1 c2 c3 d0 d1 d2 d3
      generalize ts[k].2 = p at c0 c1 c2 c3 d0 d1 d2 d3
      clear hc hc' a3 b3
      go_wp2_with fail
      go_quiet (fail)
      go_wp2
      go_roundw
      case rel => exact ⟨k + 1, by omega, by go_num, _, rfl⟩
      case measure => simp [intOf]; omega
    · have hlt2 : ¬ ((k : Nat) : Int) < ((M : Nat) : Int) := by omega
      clear a3 b3
      go_wp2
      go_ret
      exact ⟨rfl, below_drewN (Below.refl _ _) m⟩
end Go.Proofs.YtefjfjjoghikeaaDoor
