/- Plain facts on how a range is cut at the multiples of a step. -/
import Derived.Test.YtcgoepbmbeimmaaBase
namespace Go.Proofs.Ytcgoepbmbeimmaa
open Go.RowKit

/-- The parts of the range of m things from a on, cut at the multiples of t; at most k of them. -/
def partsF (t : Nat) : Nat → Nat → Nat → List (Nat × Nat)
  | 0, _, _ => []
  | k + 1, a, m => if m = 0 then [] else (a, min m (t - a % t)) :: partsF t k (a + min m (t - a % t)) (m - min m (t - a % t))

/-- The parts of the range of m things from a on, cut at the multiples of t. -/
def parts (t a m : Nat) : List (Nat × Nat) := partsF t m a m

theorem parts_zero (t a : Nat) : parts t a 0 = [] := rfl

theorem partsF_more (t : Nat) (ht : 1 ≤ t) : ∀ k m a, m ≤ k → partsF t (k + 1) a m = partsF t k a m := by
  intro k
  induction k with
  | zero =>
    intro m a h
    obtain rfl : m = 0 := by omega
    rfl
  | succ k ih =>
    intro m a h
    have h1 := Nat.mod_lt a (show t > 0 by omega)
    by_cases h0 : m = 0
    · subst h0; rfl
    · rw [partsF, if_neg h0]
      conv => rhs; rw [partsF, if_neg h0]
      rw [ih _ _ (by omega)]

theorem partsF_any (t : Nat) (ht : 1 ≤ t) (m a : Nat) : ∀ d, partsF t (m + d) a m = parts t a m := by
  intro d
  induction d with
  | zero => rfl
  | succ d ih => rw [← Nat.add_assoc, partsF_more t ht _ _ _ (by omega), ih]

theorem parts_pos (t a m : Nat) (ht : 1 ≤ t) (hm : 1 ≤ m) : parts t a m = (a, min m (t - a % t)) :: parts t (a + min m (t - a % t)) (m - min m (t - a % t)) := by
  have h1 := Nat.mod_lt a (show t > 0 by omega)
  obtain ⟨k, rfl⟩ : ∃ k, m = k + 1 := ⟨m - 1, by omega⟩
  have e := partsF_any t ht (k + 1 - min (k + 1) (t - a % t)) (a + min (k + 1) (t - a % t)) (min (k + 1) (t - a % t) - 1)
  rw [show k + 1 - min (k + 1) (t - a % t) + (min (k + 1) (t - a % t) - 1) = k from by omega] at e
  rw [← e]
  show partsF t (k + 1) a (k + 1) = _
  rw [partsF, if_neg (by omega)]

theorem parts_short (t a m : Nat) (ht : 1 ≤ t) (hm : 1 ≤ m) (h : m ≤ t - a % t) : parts t a m = [(a, m)] := by
  rw [parts_pos t a m ht hm, Nat.min_eq_left h, Nat.sub_self, parts_zero]

theorem parts_long (t a m : Nat) (ht : 1 ≤ t) (h : t - a % t ≤ m) : parts t a m = (a, t - a % t) :: parts t (a + (t - a % t)) (m - (t - a % t)) := by
  have := Nat.mod_lt a (show t > 0 by omega)
  rw [parts_pos t a m ht (by omega), Nat.min_eq_right h]

theorem mod_end (t a : Nat) (ht : 1 ≤ t) : (a + (t - a % t)) % t = 0 := by
  have h1 := Nat.mod_lt a (show t > 0 by omega)
  have h2 := Nat.mod_add_div a t
  have : a + (t - a % t) = t * (a / t + 1) := by rw [Nat.mul_add, Nat.mul_one]; omega
  rw [this, Nat.mul_mod_right]

theorem mod_in (t a m : Nat) (h : a % t + m < t) : (a + m) % t = a % t + m := by
  rw [← Nat.mod_add_mod]
  exact Nat.mod_eq_of_lt h

theorem parts_new (t : Nat) (ht : 1 ≤ t) : ∀ m a, (m = 0 ∨ (a + m) % t = 0) → parts t a (m + 1) = parts t a m ++ [(a + m, 1)] := by
  intro m
  induction m using Nat.strongRecOn with
  | _ m ih =>
    intro a h
    have h1 := Nat.mod_lt a (show t > 0 by omega)
    by_cases h0 : m = 0
    · subst h0
      rw [parts_short t a (0 + 1) ht (by omega) (by omega), parts_zero]
      rfl
    · have h : (a + m) % t = 0 := by omega
      by_cases c : m < t - a % t
      · rw [mod_in t a m (by omega)] at h
        omega
      · rw [parts_long t a (m + 1) ht (by omega), parts_long t a m ht (by omega)]
        have := ih (m - (t - a % t)) (by omega) (a + (t - a % t)) (.inr (by rw [show a + (t - a % t) + (m - (t - a % t)) = a + m from by omega]; exact h))
        rw [show m + 1 - (t - a % t) = m - (t - a % t) + 1 from by omega, this, show a + (t - a % t) + (m - (t - a % t)) = a + m from by omega]
        rfl

theorem parts_more (t : Nat) (ht : 1 ≤ t) : ∀ m a, 1 ≤ m → (a + m) % t ≠ 0 → ∃ q x c, parts t a m = q ++ [(x, c)] ∧ parts t a (m + 1) = q ++ [(x, c + 1)] := by
  intro m
  induction m using Nat.strongRecOn with
  | _ m ih =>
    intro a h0 h
    have h1 := Nat.mod_lt a (show t > 0 by omega)
    by_cases c : m < t - a % t
    · exact ⟨[], a, m, by rw [parts_short t a m ht h0 (by omega)]; rfl, by rw [parts_short t a (m + 1) ht (by omega) (by omega)]; rfl⟩
    · by_cases e : m = t - a % t
      · have := mod_end t a ht
        rw [← e] at this
        omega
      · obtain ⟨q, x, d, g1, g2⟩ := ih (m - (t - a % t)) (by omega) (a + (t - a % t)) (by omega) (by rw [show a + (t - a % t) + (m - (t - a % t)) = a + m from by omega]; exact h)
        refine ⟨(a, t - a % t) :: q, x, d, ?_, ?_⟩
        · rw [parts_long t a m ht (by omega), g1]
          rfl
        · rw [parts_long t a (m + 1) ht (by omega), show m + 1 - (t - a % t) = m - (t - a % t) + 1 from by omega, g2]
          rfl

theorem parts_len (t : Nat) (ht : 1 ≤ t) : ∀ m a, (parts t a m).length ≤ m := by
  intro m
  induction m using Nat.strongRecOn with
  | _ m ih =>
    intro a
    by_cases h0 : m = 0
    · subst h0; simp [parts_zero]
    · have h1 := Nat.mod_lt a (show t > 0 by omega)
      rw [parts_pos t a m ht (by omega), List.length_cons]
      have := ih (m - min m (t - a % t)) (by omega) (a + min m (t - a % t))
      omega

theorem parts_ones : ∀ m a, (parts 1 a m).length = m := by
  intro m
  induction m with
  | zero => intro a; simp [parts_zero]
  | succ m ih =>
    intro a
    rw [parts_long 1 a (m + 1) (by omega) (by omega), List.length_cons, show 1 - a % 1 = 1 from by omega]
    simp [ih]

/-- Each part, cut again, is one part. -/
theorem parts_once (t : Nat) (ht : 1 ≤ t) : ∀ m a, ∀ p ∈ parts t a m, a ≤ p.1 ∧ 1 ≤ p.2 ∧ p.1 + p.2 ≤ a + m ∧ parts t p.1 p.2 = [p] := by
  intro m
  induction m using Nat.strongRecOn with
  | _ m ih =>
    intro a p hp
    have h1 := Nat.mod_lt a (show t > 0 by omega)
    by_cases h0 : m = 0
    · subst h0; simp [parts_zero] at hp
    · rw [parts_pos t a m ht (by omega)] at hp
      rcases List.mem_cons.1 hp with rfl | hp
      · exact ⟨Nat.le_refl _, by simp only []; omega, by simp only []; omega, parts_short t a _ ht (by omega) (by omega)⟩
      · have := ih (m - min m (t - a % t)) (by omega) _ p hp
        exact ⟨by omega, this.2.1, by omega, this.2.2.2⟩

/-- The cells of such a list, as they lie in memory. -/
def pairs : List (Nat × Nat) → List Value
  | [] => []
  | (x, c) :: l => .int .i64 (x : Int) :: .int .i64 (c : Int) :: pairs l

theorem pairs_append (l m : List (Nat × Nat)) : pairs (l ++ m) = pairs l ++ pairs m := by
  induction l with
  | nil => rfl
  | cons p l ih => obtain ⟨x, c⟩ := p; simp [pairs, ih]

theorem pairs_len (l : List (Nat × Nat)) : (pairs l).length = l.length * 2 := by
  induction l with
  | nil => rfl
  | cons p l ih => obtain ⟨x, c⟩ := p; simp [pairs, ih]; omega

theorem pairs_at : ∀ (l : List (Nat × Nat)) (i : Nat) (p : Nat × Nat), l[i]? = some p → (pairs l)[i * 2]? = some (.int .i64 (p.1 : Int)) ∧ (pairs l)[i * 2 + 1]? = some (.int .i64 (p.2 : Int)) := by
  intro l
  induction l with
  | nil => intro i p h; simp at h
  | cons q l ih =>
    intro i p h
    obtain ⟨x, c⟩ := q
    cases i with
    | zero => simp at h; subst h; simp [pairs]
    | succ i =>
      have := ih i p (by simpa using h)
      rw [show (i + 1) * 2 = i * 2 + 1 + 1 from by omega]
      simpa [pairs] using this

end Go.Proofs.Ytcgoepbmbeimmaa
