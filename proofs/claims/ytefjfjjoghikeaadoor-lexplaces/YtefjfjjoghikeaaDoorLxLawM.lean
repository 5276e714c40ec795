/- What the laws of lex ask, of plain lists. -/
import Derived.Test.YtefjfjjoghikeaaDoorJoint00
namespace Go.Proofs.YtefjfjjoghikeaaDoor
set_option linter.unusedVariables false

theorem scan_count (f : Nat) : ∀ (x : List UInt8) (a k k' : Nat) (us : Toks), scan f x a k = .ok us → k' + us.length ≤ 500 → scan f x a k' = .ok us := by
  induction f with
  | zero => intro x a k k' us h hk; exact h
  | succ f ih =>
    intro x a k k' us h hk
    by_cases hne : x.drop (skp false x) = []
    · rw [scan_end hne] at h; rw [scan_end hne]; exact h
    · cases hr : one (x.drop (skp false x)) with
      | error e => obtain ⟨e, o⟩ := e; rw [scan_bad hne hr] at h; cases h
      | ok r =>
        obtain ⟨t, n⟩ := r
        by_cases h5 : k = 500
        · subst h5; rw [scan_many hne hr] at h; cases h
        · rw [scan_next hne hr h5] at h
          cases hs : scan f (x.drop (skp false x + n)) (a + skp false x + n) (k + 1) with
          | error e => rw [hs] at h; cases h
          | ok vs =>
            rw [hs] at h
            cases h
            simp only [List.cons_append, List.nil_append, List.length_cons] at hk
            rw [scan_next hne hr (by omega), ih _ _ _ (k' + 1) vs hs (by omega)]
            rfl

/-- All places further on. -/
def further (d : Nat) (us : Toks) : Toks := us.map fun t => (t.1, t.2 + d)

theorem further_len (d : Nat) (us : Toks) : (further d us).length = us.length := by simp [further]

theorem Scan_len {l : List UInt8} {ts : Toks} (h : Scan l = .ok ts) : ts.length ≤ 500 ∧ ∀ t ∈ ts, Good t.1 := by
  unfold Scan at h
  split at h
  · cases h
  · have := scan_goods _ _ _ _ _ h (by omega)
    exact ⟨by omega, this.1⟩

theorem Scan_joined {a b : List UInt8} {ts us : Toks} (ha : Scan a = .ok ts) (hb : Scan b = .ok us) (hl : a.length + b.length + 1 ≤ 2000) (hn : ts.length + us.length ≤ 500) : Scan (a ++ 10 :: b) = .ok (ts ++ further (a.length + 1) us) := by
  unfold Scan at ha hb ⊢
  rw [if_neg (by omega)] at ha hb
  rw [if_neg (by simp; omega), scan_append (a.length + 1) _ ((10 :: b).length + 1) a b 0 0 (by omega) (by omega) (by omega), ha]
  simp only [Nat.zero_add]
  have hp := scan_pass (f := (10 :: b).length + 1) (g := b.length + 1) (u := [10]) (z := b) a.length ts.length (by simp [skp, isBlk]; omega) (by simp) (by omega)
  simp only [List.singleton_append, List.length_singleton] at hp
  rw [hp]
  have h1 := scan_shift (b.length + 1) b 0 ts.length (a.length + 1)
  rw [Nat.zero_add] at h1
  rw [h1, scan_count _ _ _ _ _ _ hb (by omega)]
  rfl

/-- A note. -/
def note (x : List UInt8) : List UInt8 := 47 :: 47 :: (x ++ [10])

theorem note_len (x : List UInt8) : (note x).length = x.length + 3 := by simp [note]

theorem skp_note_ahead (x z : List UInt8) (h : ∀ c ∈ x, c ≠ 10) : skp false (note x ++ z) = (note x).length + skp false z := by
  have := skp_noted x z h
  rw [note_len]
  rw [← this]
  simp [note]

theorem Scan_noted {s x : List UInt8} (h : ∀ c ∈ x, c ≠ 10) (hl : (note x ++ s ++ 10 :: note x).length ≤ 2000) : Scan (note x ++ s ++ 10 :: note x) = shift (note x).length (Scan s) := by
  have hl' := hl
  simp only [List.length_append, List.length_cons] at hl'
  unfold Scan
  rw [if_neg (by omega), if_neg (by omega), List.append_assoc]
  rw [scan_pass (g := (s ++ 10 :: note x).length + 1) 0 0 (skp_note_ahead x _ h) (by omega) (by omega)]
  rw [scan_append (s.length + 1) _ ((10 :: note x).length + 1) s (note x) _ 0 (by omega) (by omega) (by omega), Nat.zero_add]
  have h1 := scan_shift (s.length + 1) s 0 0 (note x).length
  rw [Nat.zero_add] at h1
  rw [h1]
  cases scan (s.length + 1) s 0 0 with
  | error e => obtain ⟨e, o⟩ := e; rfl
  | ok ts =>
    have hs : skp false (10 :: note x) = (10 :: note x).length := by
      have := skp_note_ahead x [] h
      rw [List.append_nil] at this
      simp only [skp, isBlk, List.length_cons]
      simp only [skp, Nat.add_zero] at this
      simp [this]
    simp only [shift]
    rw [scan_end (by rw [hs]; simp)]
    simp [ahead]

theorem Scan_stands {l : List UInt8} {ts : Toks} (h : Scan l = .ok ts) : Stands l 0 ts := by
  unfold Scan at h
  split at h
  · cases h
  · exact scan_stands l _ 0 0 ts (by rw [List.drop_zero]; exact h)

theorem Scan_again {ts : List Tk} (hg : ∀ t ∈ ts, Good t) (hn : ts.length ≤ 500) (hl : ¬ 2000 < (again ts).length) : Scan (again ts) = .ok (placed 0 ts) := by
  unfold Scan
  rw [if_neg hl]
  exact scan_again ts _ 0 0 hg (by omega) (by omega)

theorem Scan_err {l : List UInt8} {er o : Nat} (h : Scan l = .error (er, o)) : er ≠ 0 ∧ o ≤ l.length := by
  have one_e : ∀ (x : List UInt8) (er o : Nat), x ≠ [] → one x = .error (er, o) → er ≠ 0 ∧ o ≤ x.length := by
    intro x er o hx h
    cases x with
    | nil => exact absurd rfl hx
    | cons c r =>
      have h2 := cnt_le isFig (c :: r)
      have h3 := cnt_le isHxy r
      simp only [List.length_cons] at h2 ⊢
      simp only [one] at h
      repeat' split at h
      all_goals first | (cases h; exact ⟨by decide, by omega⟩) | cases h
  have sc : ∀ (f : Nat) (x : List UInt8) (a k er o : Nat), scan f x a k = .error (er, o) → er ≠ 0 ∧ o ≤ a + x.length := by
    intro f
    induction f with
    | zero => intro x a k er o h; cases h
    | succ f ih =>
      intro x a k er o h
      by_cases hne : x.drop (skp false x) = []
      · rw [scan_end hne] at h; cases h
      · have hsl := skp_le false x
        have hpos := List.length_pos_iff.2 hne
        rw [List.length_drop] at hpos
        cases hr : one (x.drop (skp false x)) with
        | error e =>
          obtain ⟨e', o'⟩ := e
          rw [scan_bad hne hr] at h
          have := one_e _ _ _ hne hr
          rw [List.length_drop] at this
          cases h
          exact ⟨this.1, by omega⟩
        | ok r =>
          obtain ⟨t, n⟩ := r
          have hn := one_len hr
          rw [List.length_drop] at hn
          by_cases h5 : k = 500
          · subst h5; rw [scan_many hne hr] at h; cases h; exact ⟨by decide, by omega⟩
          · rw [scan_next hne hr h5] at h
            cases hs : scan f (x.drop (skp false x + n)) (a + skp false x + n) (k + 1) with
            | error e =>
              obtain ⟨e', o'⟩ := e
              rw [hs] at h
              have := ih _ _ _ _ _ hs
              rw [List.length_drop] at this
              cases h
              exact ⟨this.1, by omega⟩
            | ok vs => rw [hs] at h; cases h
  unfold Scan at h
  split at h
  · cases h; exact ⟨by decide, by omega⟩
  · have := sc _ _ _ _ _ _ h
    exact ⟨this.1, by omega⟩
end Go.Proofs.YtefjfjjoghikeaaDoor
