/- Plain mathematics of sizes: all hash sectors, the greatest number that fits. -/
import Derived.Test.YtacllicemnmpmaaArLev
namespace Go.Proofs.Ytacllicemnmpmaa
open Go.RowKit
set_option linter.unusedVariables false

/-- All hash sectors of n data sectors. -/
def hs (n : Nat) : Nat := off n (levN (n : Int))

theorem hs_zero : hs 0 = 0 := rfl

theorem off_in (n k : Nat) : off n (k + 1) = (n + 1) / 2 + off ((n + 1) / 2) k := by
  induction k with
  | zero => simp [off, lv]
  | succ k ih =>
    have e : off n (k + 1 + 1) = off n (k + 1) + lv n (k + 1 + 1) := rfl
    have e2 : off ((n + 1) / 2) (k + 1) = off ((n + 1) / 2) k + lv ((n + 1) / 2) (k + 1) := rfl
    rw [e, ih, e2, lv_in]; omega

/-- The same by halves. -/
def hh (n : Nat) : Nat := off n (dep n)

theorem hs_in {n : Nat} (h1 : 1 ≤ n) (h2 : n ≤ 2048) : hs n = hh n := by
  unfold hs hh
  rw [levN_in (by omega), Int.toNat_natCast]

theorem hh_two {n : Nat} (h1 : 1 ≤ n) (h : n ≤ 2) : hh n = 1 := by
  unfold hh
  rw [dep_le2 h]
  simp [off, lv]; omega

theorem hh_more {n : Nat} (h : 2 < n) : hh n = (n + 1) / 2 + hh ((n + 1) / 2) := by
  unfold hh
  rw [dep_more h, off_in]

theorem hh_mono (b : Nat) : ∀ a, 1 ≤ a → a ≤ b → hh a ≤ hh b := by
  induction b using Nat.strongRecOn with
  | _ b ih =>
    intro a h1 h
    by_cases hb : b ≤ 2
    · rw [hh_two h1 (by omega), hh_two (by omega) hb]; exact Nat.le_refl _
    · rw [hh_more (by omega : 2 < b)]
      by_cases ha : a ≤ 2
      · rw [hh_two h1 ha]; omega
      · rw [hh_more (by omega : 2 < a)]
        have := ih ((b + 1) / 2) (by omega) ((a + 1) / 2) (by omega) (by omega)
        omega

theorem hh_le (n : Nat) : 1 ≤ n → n ≤ 2048 → hh n ≤ 2058 := by
  intro h1 h2
  have h := hh_mono 2048 n h1 h2
  have e : hh 2048 = 2047 := by decide +kernel
  omega

theorem hs_mono {a b : Nat} (h : a ≤ b) (hb : b ≤ 2048) : hs a ≤ hs b := by
  by_cases h0 : a = 0
  · subst h0; rw [hs_zero]; omega
  · rw [hs_in (by omega) (by omega), hs_in (by omega) hb]
    exact hh_mono b a (by omega) h

theorem hs_le (n : Nat) : hs n ≤ 2058 := by
  by_cases h : 1 ≤ n ∧ n ≤ 2048
  · rw [hs_in h.1 h.2]; exact hh_le n h.1 h.2
  · unfold hs
    rw [levN_out (by omega)]; show 0 ≤ _; omega

theorem hs_out {n : Nat} (h : 2048 < n) : hs n = 0 := by
  unfold hs
  rw [levN_out (by omega)]; rfl

theorem off_part (n : Nat) (k : Nat) (hk : k ≤ levN (n : Int)) : off n k ≤ hs n := by
  unfold hs
  generalize levN (n : Int) = m at hk
  induction m with
  | zero => obtain rfl : k = 0 := by omega
            exact Nat.le_refl _
  | succ m ih =>
    by_cases e : k = m + 1
    · rw [e]; exact Nat.le_refl _
    · have := ih (by omega); simp only [off]; omega

/-- The greatest number up to L that fits, where each below one that fits does. -/
def Great (L : Nat) (F : Nat → Bool) (r : Nat) : Prop := r ≤ L ∧ (∀ t, t < r → F (t + 1) = true) ∧ (r < L → F (r + 1) = false)

theorem Great.eq {L : Nat} {F : Nat → Bool} {r s : Nat} (h : Great L F r) (k : Great L F s) : r = s := by
  rcases Nat.lt_trichotomy r s with e | e | e
  · have a := h.2.2 (by have := k.1; omega)
    rw [k.2.1 r e] at a; cases a
  · exact e
  · have a := k.2.2 (by have := h.1; omega)
    rw [h.2.1 s e] at a; cases a

theorem Great.fits {L : Nat} {F : Nat → Bool} {r : Nat} (h : Great L F r) (h0 : F 0 = true) : F r = true := by
  cases r with
  | zero => exact h0
  | succ r => exact h.2.1 r (Nat.lt_succ_self _)

/-- Data and the rest fit. -/
def fit (rest : Nat → Nat) (n : Nat) (d : Nat) : Bool := decide (d + rest d ≤ n)

theorem fit_anti {rest : Nat → Nat} {n L : Nat} (hm : ∀ a b, a ≤ b → b ≤ L → rest a ≤ rest b) (a b : Nat) (h : a ≤ b) (hb : b ≤ L) (hf : fit rest n b = true) : fit rest n a = true := by
  unfold fit at *
  have := hm a b h hb
  simp only [decide_eq_true_eq] at *
  omega

/-- Tags of d sectors. -/
def tg (d : Nat) : Nat := (d + 3) / 4

theorem tg_mono (a b : Nat) (h : a ≤ b) : tg a ≤ tg b := by unfold tg; omega

/-- A store's slots. -/
def sfit (table chunk n : Nat) (s : Nat) : Bool := decide (table + s * chunk ≤ n)

theorem sfit_anti {table chunk n : Nat} (a b : Nat) (h : a ≤ b) (hf : sfit table chunk n b = true) : sfit table chunk n a = true := by
  unfold sfit at *
  have := Nat.mul_le_mul_right chunk h
  simp only [decide_eq_true_eq] at *
  omega

/-- One sector more. -/
theorem Great.more {L n : Nat} {rest : Nat → Nat} (hm : ∀ a b, a ≤ b → b ≤ L → rest a ≤ rest b) {r s : Nat} (h : Great L (fit rest n) r) (k : Great L (fit rest (n + 1)) s) : r ≤ s ∧ s ≤ r + 1 := by
  constructor
  · by_cases e : r ≤ s
    · exact e
    · exfalso
      have hL := h.1
      have a := k.2.2 (by omega)
      have b := h.2.1 s (by omega)
      unfold fit at a b
      simp only [decide_eq_true_eq, decide_eq_false_iff_not] at a b
      omega
  · by_cases e : s ≤ r + 1
    · exact e
    · exfalso
      have hL := k.1
      have a := h.2.2 (by omega)
      have b := k.2.1 (r + 1) (by omega)
      have c := hm (r + 1) (r + 1 + 1) (by omega) (by omega)
      unfold fit at a b
      simp only [decide_eq_true_eq, decide_eq_false_iff_not] at a b
      omega

theorem Great.slots {L n table chunk : Nat} (hc : 1 ≤ chunk) {r s : Nat} (h : Great L (sfit table chunk n) r) (k : Great L (sfit table chunk (n + 1)) s) : r ≤ s ∧ s ≤ r + 1 := by
  constructor
  · by_cases e : r ≤ s
    · exact e
    · exfalso
      have hL := h.1
      have a := k.2.2 (by omega)
      have b := h.2.1 s (by omega)
      unfold sfit at a b
      simp only [decide_eq_true_eq, decide_eq_false_iff_not] at a b
      omega
  · by_cases e : s ≤ r + 1
    · exact e
    · exfalso
      have hL := k.1
      have a := h.2.2 (by omega)
      have b := k.2.1 (r + 1) (by omega)
      unfold sfit at a b
      simp only [decide_eq_true_eq, decide_eq_false_iff_not] at a b
      have c : (r + 1 + 1) * chunk = (r + 1) * chunk + chunk := Nat.succ_mul _ _
      omega

theorem great_ex (L : Nat) (F : Nat → Bool) : ∃ r, Great L F r := by
  induction L with
  | zero => exact ⟨0, Nat.le_refl _, fun t h => absurd h (Nat.not_lt_zero _), fun h => absurd h (Nat.not_lt_zero _)⟩
  | succ L ih =>
    obtain ⟨r, h1, h2, h3⟩ := ih
    by_cases e : r < L
    · exact ⟨r, by omega, h2, fun _ => h3 e⟩
    · obtain rfl : r = L := by omega
      cases hF : F (r + 1) with
      | false => exact ⟨r, by omega, h2, fun _ => hF⟩
      | true => exact ⟨r + 1, Nat.le_refl _, fun t ht => by
          by_cases e2 : t < r
          · exact h2 t e2
          · obtain rfl : t = r := by omega
            exact hF, fun h => absurd h (Nat.lt_irrefl _)⟩
end Go.Proofs.Ytacllicemnmpmaa
