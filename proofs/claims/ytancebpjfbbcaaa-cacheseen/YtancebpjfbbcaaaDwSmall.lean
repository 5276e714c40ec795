/- device: what only tells; refusals. -/
import Derived.Test.YtancebpjfbbcaaaDwRep
namespace Go.Proofs.Ytancebpjfbbcaaa
open Go.ChangeShapes Go.WideShapes Go.ChangeAt Go.RowKit
set_option linter.unusedVariables false

variable {w w' : World} {p c bb bs bc : Nat} {s : DS} {vw vs : Value}

theorem below_self (w : World) : Below w.heap.size w w := Below.refl _ _

theorem pending_r (h : RepAt w p s c bb bs bc vw vs) : Calls Try.prog 36 #[ptr p] w fun e w' => e = .returned (.int .i64 (pend s.log : Nat)) ∧ w' = w := by
  have h0 : w.cell? ⟨p, 7, none⟩ = some (.int .i64 (pend s.log : Nat)) := h.cell 7
  clear h
  go_enter Try.func36, Try.ntmps36
  go_wp2
  go_ret
  exact ⟨rfl, rfl⟩

theorem dead_r (h : RepAt w p s c bb bs bc vw vs) : Calls Try.prog 44 #[ptr p] w fun e w' => e = .returned (.bool s.dead) ∧ w' = w := by
  have h0 : w.cell? ⟨p, 1, none⟩ = some (.bool s.dead) := h.cell 1
  clear h
  go_enter Try.func44, Try.ntmps44
  go_wp2
  go_ret
  exact ⟨rfl, rfl⟩

theorem writes_r (h : RepAt w p s c bb bs bc vw vs) : Calls Try.prog 38 #[ptr p] w fun e w' => e = .returned (.int .i64 (wrs s.log : Nat)) ∧ w' = w := by
  have h0 : w.cell? ⟨p, 5, none⟩ = some vw := h.cell 5
  obtain ⟨a, cap, rfl, _⟩ := own_slice h.wr
  clear h
  go_enter Try.func38, Try.ntmps38
  go_wp2
  go_ret
  exact ⟨rfl, rfl⟩

set_option maxRecDepth 100000 in
set_option maxHeartbeats 1000000 in
theorem bad_r (h : RepAt w p s c bb bs bc vw vs) (i : Int) : Calls Try.prog 60 #[ptr p, .int .i64 i] w fun e w' => e = .returned (.bool (decide (0 ≤ i ∧ i < s.n) && s.bad i.toNat)) ∧ Below w.heap.size w w' := by
  have h0 : w.cell? ⟨p, 2, none⟩ = some (.map (some bb)) := h.cell 2
  obtain ⟨f, hm, hf⟩ := h.bad
  have hlk := hm.look Try.underlying86 (.agg #[]) (zero_unit w) i true
  rw [if_pos rfl, (hf i).2] at hlk
  rw [← (hf i).1]
  clear h hm hf
  generalize (f i).isSome = q at hlk ⊢
  go_enter Try.func60, Try.ntmps60
  go_wp2
  go_ret
  exact ⟨rfl, (Below.refl _ _).alloc (Nat.le_refl _) _⟩

def rfErr (s : DS) (i : Int) : Int := if s.dead then 73 else if i < 0 ∨ (s.n : Int) ≤ i then 71 else 0

set_option maxRecDepth 100000 in
set_option maxHeartbeats 1000000 in
theorem refusal_r (h : RepAt w p s c bb bs bc vw vs) (i : Int) : Calls Try.prog 53 #[ptr p, .int .i64 i] w fun e w' => e = .returned (.int .i64 (rfErr s i)) ∧ w' = w := by
  have h0 : w.cell? ⟨p, 0, none⟩ = some (.int .i64 (s.n : Nat)) := h.cell 0
  have h1 : w.cell? ⟨p, 1, none⟩ = some (.bool s.dead) := h.cell 1
  clear h
  unfold rfErr
  obtain ⟨sn, fst, log, bad, dead⟩ := s
  simp only at h0 h1 ⊢
  cases dead
  · by_cases hi : i < 0
    · rw [if_neg (by simp), if_pos (.inl hi)]
      go_enter Try.func53, Try.ntmps53
      go_wp2
      go_ret
      exact ⟨rfl, rfl⟩
    · by_cases hj : (sn : Int) ≤ i
      · rw [if_neg (by simp), if_pos (.inr hj)]
        go_enter Try.func53, Try.ntmps53
        go_wp2
        go_ret
        exact ⟨rfl, rfl⟩
      · rw [if_neg (by simp), if_neg (fun h => h.elim hi hj)]
        go_enter Try.func53, Try.ntmps53
        go_wp2
        go_ret
        exact ⟨rfl, rfl⟩
  · rw [if_pos rfl]
    go_enter Try.func53, Try.ntmps53
    go_wp2
    go_ret
    exact ⟨rfl, rfl⟩

set_option maxRecDepth 100000 in
set_option maxHeartbeats 1000000 in
theorem writeRefusal_r (h : RepAt w p s c bb bs bc vw vs) (i : Int) (a : Option Addr) (L C : Nat) : Calls Try.prog 56 #[ptr p, .int .i64 i, .slice a L C] w fun e w' => e = .returned (.int .i64 (wrErr s i L)) ∧ w' = w := by
  have hr := refusal_r h i
  clear h
  by_cases h0 : rfErr s i = 0
  · have hw : wrErr s i L = if 64 < L then 1 else 0 := by
      unfold rfErr at h0
      unfold wrErr
      split at h0
      · cases h0
      · split at h0
        · cases h0
        · rw [if_neg (by assumption), if_neg (by assumption)]
    rw [h0] at hr
    rw [hw]
    by_cases hL : 64 < L
    · rw [if_pos hL]
      have hL' : (64 : Int) < (L : Int) := by omega
      go_enter Try.func56, Try.ntmps56
      go_wp2_with (go_at_call 53; refine hr.mono ?_; rintro e w' ⟨rfl, rfl⟩)
      go_ret
      exact ⟨rfl, rfl⟩
    · rw [if_neg hL]
      have hL' : ¬ (64 : Int) < (L : Int) := by omega
      go_enter Try.func56, Try.ntmps56
      go_wp2_with (go_at_call 53; refine hr.mono ?_; rintro e w' ⟨rfl, rfl⟩)
      go_ret
      exact ⟨rfl, rfl⟩
  · have hw : wrErr s i L = rfErr s i := by
      unfold rfErr at h0 ⊢
      unfold wrErr
      split
      · rfl
      · split
        · rfl
        · rename_i h1 h2
          rw [if_neg h1, if_neg h2] at h0
          exact absurd rfl h0
    rw [hw]
    generalize rfErr s i = q at hr h0 ⊢
    go_enter Try.func56, Try.ntmps56
    go_wp2_with (go_at_call 53; refine hr.mono ?_; rintro e w' ⟨rfl, rfl⟩)
    go_ret
    exact ⟨rfl, rfl⟩
end Go.Proofs.Ytancebpjfbbcaaa
