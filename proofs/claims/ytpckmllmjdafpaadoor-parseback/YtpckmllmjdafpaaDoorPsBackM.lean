/- What is parsed is right; its text's tokens are those that were read. -/
import Derived.Test.YtpckmllmjdafpaaDoorPsGood
namespace Go.Proofs.YtpckmllmjdafpaaDoor
set_option linter.unusedVariables false

/-- Tokens written, each with what stands behind it. -/
abbrev Lay := List (Tk × List UInt8)

def laid (L : Lay) : List UInt8 := L.flatMap fun p => txt p.1 ++ p.2
def toks (L : Lay) : List Tk := L.map Prod.fst

/-- Where they stand. -/
def places (a : Nat) : Lay → Toks
  | [] => []
  | p :: L => (p.1, a) :: places (a + (txt p.1).length + p.2.length) L

theorem fsts_places (a : Nat) (L : Lay) : fsts (places a L) = toks L := by
  induction L generalizing a with
  | nil => rfl
  | cons p L ih => simp only [places, fsts, toks, List.map_cons, List.cons.injEq, true_and]; exact ih _

/-- A layout that may be: between two words there is a blank. -/
inductive LayOk : Lay → Prop where
  | nil : LayOk []
  | cons (t : Tk) (s : List UInt8) (L : Lay) : Good t → (s = [] ∨ s = [32] ∨ s = [10]) → (t.kind = 3 ∨ s ≠ [] ∨ ∃ u b L', L = (u, b) :: L' ∧ u.kind = 3) → LayOk L → LayOk ((t, s) :: L)

theorem wdy_let {c : UInt8} (h : isWdy c = false) : isLet c = false := by
  unfold isWdy at h
  rw [Bool.or_eq_false_iff] at h
  exact h.1
theorem wdy_fig {c : UInt8} (h : isWdy c = false) : isFig c = false := by
  unfold isWdy at h
  rw [Bool.or_eq_false_iff] at h
  exact h.2
theorem wdy_hxy {c : UInt8} (h : isWdy c = false) : isHxy c = false := by
  have h1 := wdy_let h
  have h2 := wdy_fig h
  unfold isLet isSml at h1
  unfold isHxy
  rw [h2]
  simp at h1 ⊢
  intro h3
  have := h1.1 h3
  omega

/-- A token stands as it did where no byte of a word comes behind. -/
theorem one_wide {u v v' : List UInt8} {t : Tk} (h : one (u ++ v) = .ok (t, u.length)) (kW : ∀ c, v'.head? = some c → isWdy c = false) : one (u ++ v') = .ok (t, u.length) := by
  cases u with
  | nil => have := (one_len h).1; simp at this
  | cons c u =>
    simp only [List.cons_append] at h ⊢
    simp only [one] at h ⊢
    split at h
    · rename_i hc
      rw [if_pos hc]
      split at h
      · cases h
      · rename_i hl
        have hn : cnt isWdy (c :: (u ++ v)) = (c :: u).length := by injection h with h; exact (Prod.mk.inj h).2
        obtain ⟨a1, a2⟩ := cnt_whole (u := c :: u) (v := v) hn
        have hn' : cnt isWdy (c :: (u ++ v')) = (c :: u).length := cnt_of (u := c :: u) (v := v') a1 kW
        rw [hn] at h hl
        rw [hn', if_neg hl]
        cases h
        rw [← List.cons_append, List.take_left, ← List.cons_append, List.take_left]
    · rename_i hc
      rw [if_neg hc]
      split at h
      · rename_i hf
        rw [if_pos hf]
        split at h
        · cases h
        · rename_i hl
          split at h
          · cases h
          · rename_i hlt
            have hn : cnt isFig (c :: (u ++ v)) = (c :: u).length := by injection h with h; exact (Prod.mk.inj h).2
            obtain ⟨a1, a2⟩ := cnt_whole (u := c :: u) (v := v) hn
            have hn' : cnt isFig (c :: (u ++ v')) = (c :: u).length := cnt_of (u := c :: u) (v := v') a1 (fun c hc => wdy_fig (kW c hc))
            rw [hn] at h hl hlt
            rw [hn', if_neg hl]
            rw [← List.cons_append, List.drop_left] at hlt
            have b2 : ∀ c, v'.head? = some c → isLet c = false := fun c hc => wdy_let (kW c hc)
            rw [← List.cons_append, List.drop_left, letAt_of b2]
            cases h
            rw [List.take_left, ← List.cons_append, List.take_left]
            rfl
      · rename_i hf
        rw [if_neg hf]
        split at h
        · rename_i h36
          rw [if_pos h36]
          split at h
          · cases h
          · rename_i h0
            split at h
            · cases h
            · rename_i hl
              split at h
              · cases h
              · rename_i hlt
                have hn : cnt isHxy (u ++ v) = u.length := by injection h with h; have := (Prod.mk.inj h).2; simpa using this
                obtain ⟨a1, a2⟩ := cnt_whole hn
                have hn' : cnt isHxy (u ++ v') = u.length := cnt_of a1 (fun c hc => wdy_hxy (kW c hc))
                rw [hn] at h h0 hl hlt
                rw [hn', if_neg h0, if_neg hl]
                rw [List.drop_left] at hlt
                have b2 : ∀ c, v'.head? = some c → isLet c = false := fun c hc => wdy_let (kW c hc)
                rw [List.drop_left, letAt_of b2]
                cases h
                rw [List.take_left, List.take_left]
                rfl
        · rename_i h36
          rw [if_neg h36]
          split at h
          · rename_i hs
            rw [if_pos hs]
            exact h
          · cases h

theorem one_txt2 {t : Tk} (h : Good t) (z : List UInt8) (hz : t.kind = 3 ∨ ∀ c, z.head? = some c → isWdy c = false) : one (txt t ++ z) = .ok (t, (txt t).length) := by
  by_cases h3 : t.kind = 3
  · obtain ⟨c, e, hs, h1, h2, h4⟩ := h.sign h3
    obtain ⟨k, s, n⟩ := t
    simp only at h3 e
    subst h3
    have hn : n = 0 := h.zero (by show (3 : Nat) ≠ 1; decide)
    subst hn
    subst e
    simp [txt, one, hs, h1, h2, h4]
  · rcases hz with h' | h'
    · exact absurd h' h3
    · exact one_wide (one_txt h []) h'

theorem sgn_wdy {c : UInt8} (h : isSgn c = true) : isWdy c = false := by
  simp [isSgn] at h
  rcases h with (((rfl | rfl) | rfl) | rfl) | rfl <;> decide

theorem laid_head {L : Lay} {t : Tk} {s : List UInt8} (h : LayOk ((t, s) :: L)) : t.kind = 3 ∨ ∀ c, (s ++ laid L).head? = some c → isWdy c = false := by
  cases h with
  | cons t s L hg hs hb hL =>
    rcases hb with h1 | h1 | ⟨u, b, L', rfl, hu⟩
    · exact .inl h1
    · right
      intro c hc
      rcases hs with rfl | rfl | rfl
      · exact absurd rfl h1
      · simp at hc; subst hc; decide
      · simp at hc; subst hc; decide
    · right
      intro c hc
      rcases hs with rfl | rfl | rfl
      · cases hL with
        | cons u b L' hgu _ _ _ =>
          obtain ⟨d, e, hd, _⟩ := hgu.sign hu
          have ht : txt u = [d] := by unfold txt; rw [if_neg (by omega), if_neg (by omega), e]
          simp only [List.nil_append, laid, List.flatMap_cons, ht, List.cons_append, List.head?_cons, Option.some.injEq] at hc
          subst hc
          exact sgn_wdy hd
      · simp at hc; subst hc; decide
      · simp at hc; subst hc; decide

/-- What is written is read again. -/
theorem scan_lay (L : Lay) : ∀ (f a k : Nat), LayOk L → k + L.length ≤ 500 → (laid L).length < f → scan f (laid L) a k = .ok (places a L) := by
  induction L with
  | nil => intro f a k _ _ hf; cases f with
    | zero => omega
    | succ f => exact scan_end rfl
  | cons p L ih =>
    obtain ⟨t, s⟩ := p
    intro f a k h hk hf
    have hh := laid_head h
    cases h with
    | cons t s L hg hs hb hL =>
    cases f with
    | zero => omega
    | succ f =>
    have hc : laid ((t, s) :: L) = txt t ++ (s ++ laid L) := by simp [laid]
    have hs0 := skp_firm (txt_firm hg) (s ++ laid L)
    have h1 := one_txt2 hg (s ++ laid L) hh
    have hpos : 1 ≤ (txt t).length := (one_len h1).1
    have hne : txt t ++ (s ++ laid L) ≠ [] := by intro e; rw [e] at h1; cases h1
    rw [hc] at hf ⊢
    simp only [List.length_append] at hf
    simp only [List.length_cons] at hk
    rw [scan_next (by rw [hs0]; exact hne) (by rw [hs0]; exact h1) (by omega), hs0]
    simp only [Nat.zero_add, Nat.add_zero, List.drop_left]
    have hrest : scan f (s ++ laid L) (a + (txt t).length) (k + 1) = .ok (places (a + (txt t).length + s.length) L) := by
      rcases hs with rfl | rfl | rfl
      · simp only [List.nil_append, List.length_nil, Nat.add_zero] at hf ⊢
        exact ih f _ _ hL (by omega) (by omega)
      · have hp := scan_pass (f := f) (g := (laid L).length + 1) (u := [32]) (z := laid L) (a + (txt t).length) (k + 1) (by simp [skp, isBlk]; omega) (by simp only [List.length_append]; simp at hf ⊢; omega) (by omega)
        rw [hp]
        exact ih _ _ _ hL (by omega) (by omega)
      · have hp := scan_pass (f := f) (g := (laid L).length + 1) (u := [10]) (z := laid L) (a + (txt t).length) (k + 1) (by simp [skp, isBlk]; omega) (by simp only [List.length_append]; simp at hf ⊢; omega) (by omega)
        rw [hp]
        exact ih _ _ _ hL (by omega) (by omega)
    rw [hrest]
    rfl
end Go.Proofs.YtpckmllmjdafpaaDoor
