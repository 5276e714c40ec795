/- Two texts that are files, with a line's end between. -/
import Derived.Test.YtpckmllmjdafpaaDoorPsLike
import Derived.Test.YtpckmllmjdafpaaDoorPsCutM
namespace Go.Proofs.YtpckmllmjdafpaaDoor
set_option linter.unusedVariables false

theorem scan_more (f : Nat) : ∀ (x : List UInt8) (a k k' : Nat) (us : Toks), scan f x a k = .ok us → x.length < f → k' ≤ 500 → 500 < k' + us.length → ∃ o, scan f x a k' = .error (103, o) := by
  induction f with
  | zero => intro x a k k' us h hf; omega
  | succ f ih =>
    intro x a k k' us h hf hk hgt
    by_cases hne : x.drop (skp false x) = []
    · rw [scan_end hne] at h; cases h; simp at hgt; omega
    · cases hr : one (x.drop (skp false x)) with
      | error e => obtain ⟨e, o⟩ := e; rw [scan_bad hne hr] at h; cases h
      | ok r =>
        obtain ⟨t, n⟩ := r
        have hn := one_len hr
        rw [List.length_drop] at hn
        by_cases h5 : k = 500
        · subst h5; rw [scan_many hne hr] at h; cases h
        · rw [scan_next hne hr h5] at h
          cases hs : scan f (x.drop (skp false x + n)) (a + skp false x + n) (k + 1) with
          | error e => rw [hs] at h; cases h
          | ok vs =>
            rw [hs] at h
            cases h
            by_cases h6 : k' = 500
            · subst h6; exact ⟨_, scan_many hne hr⟩
            · simp only [List.cons_append, List.nil_append, List.length_cons] at hgt
              obtain ⟨o, ho⟩ := ih _ _ _ (k' + 1) vs hs (by simp only [List.length_drop]; omega) (by omega) (by omega)
              exact ⟨o, by rw [scan_next hne hr h6, ho]; rfl⟩

theorem Scan_over {a b : List UInt8} {ts us : Toks} (ha : Scan a = .ok ts) (hb : Scan b = .ok us) (hn : 500 < ts.length + us.length) : ∃ o, Scan (a ++ 10 :: b) = .error (103, o) := by
  have hts := (Scan_len ha).1
  unfold Scan at ha hb ⊢
  split
  · exact ⟨0, rfl⟩
  · rename_i hl
    simp only [List.length_append, List.length_cons] at hl
    rw [if_neg (by omega)] at ha hb
    rw [scan_append (a.length + 1) _ ((10 :: b).length + 1) a b 0 0 (by omega) (by omega) (by omega), ha]
    simp only [Nat.zero_add]
    have hp := scan_pass (f := (10 :: b).length + 1) (g := b.length + 1) (u := [10]) (z := b) a.length ts.length (by simp [skp, isBlk]; omega) (by simp) (by omega)
    simp only [List.singleton_append, List.length_singleton] at hp
    rw [hp]
    have h1 := scan_shift (b.length + 1) b 0 ts.length (a.length + 1)
    rw [Nat.zero_add] at h1
    obtain ⟨o, ho⟩ := scan_more _ _ _ _ ts.length _ hb (by omega) hts hn
    rw [h1, ho]
    exact ⟨_, rfl⟩

theorem Parse_ok {x : List UInt8} {n : Nd} (h : Parse x = .ok n) : ∃ ts l, Scan x = .ok ts ∧ pfile 501 x.length ts = .ok (l, []) ∧ n = .mk wFile [] 0 0 l := by
  unfold Parse at h
  cases hS : Scan x with
  | error e => rw [hS] at h; cases h
  | ok ts =>
    rw [hS] at h
    simp only at h
    cases hp : pfile 501 x.length ts with
    | error e => rw [hp] at h; cases h
    | ok y =>
      obtain ⟨l, r⟩ := y
      rw [hp] at h
      cases h
      have hl := (Scan_len hS).1
      have hr := file_rest 501 _ _ _ _ hp (by omega)
      subst hr
      exact ⟨ts, l, rfl, hp, rfl⟩

theorem Parse_of {x : List UInt8} {ts : Toks} {l : List Nd} (hS : Scan x = .ok ts) (hp : pfile 501 x.length ts = .ok (l, [])) : Parse x = .ok (.mk wFile [] 0 0 l) := by
  unfold Parse
  rw [hS]
  simp only [hp]

theorem fsts_further (d : Nat) (us : Toks) : fsts (further d us) = fsts us := by simp [fsts, further]

/-- Files are statements. -/
theorem Parse_joined {a b : List UInt8} {n m : Nd} (ha : Parse a = .ok n) (hb : Parse b = .ok m) : (∃ o, Parse (a ++ 10 :: b) = .error (103, o)) ∨ ∃ l m', n = .mk wFile [] 0 0 l ∧ AL m.l m' ∧ Parse (a ++ 10 :: b) = .ok (.mk wFile [] 0 0 (l ++ m')) := by
  obtain ⟨ts, l, sa, pa, rfl⟩ := Parse_ok ha
  obtain ⟨us, m, sb, pb, rfl⟩ := Parse_ok hb
  have hta := (Scan_len sa).1
  have htb := (Scan_len sb).1
  by_cases hl : a.length + b.length + 1 ≤ 2000
  · by_cases hn : ts.length + us.length ≤ 500
    · right
      have hj := Scan_joined sa sb hl hn
      obtain ⟨m', r', p2, hal, er⟩ := file_lk 501 b.length (a ++ 10 :: b).length us (further (a.length + 1) us) (fsts_further _ _).symm m [] pb
      have hr' : r' = [] := by
        cases r' with
        | nil => rfl
        | cons u r => cases er
      subst hr'
      have hfl : (further (a.length + 1) us).length = us.length := further_len _ _
      exact ⟨l, m', rfl, hal, Parse_of hj (file_join 501 501 501 a.length (a ++ 10 :: b).length ts (further (a.length + 1) us) l m' pa (by omega) p2 (by omega) (by omega))⟩
    · left
      obtain ⟨o, ho⟩ := Scan_over sa sb (by omega)
      exact ⟨o, by unfold Parse; rw [ho]⟩
  · left
    refine ⟨0, ?_⟩
    unfold Parse
    have : Scan (a ++ 10 :: b) = .error (103, 0) := by unfold Scan; rw [if_pos (by simp only [List.length_append, List.length_cons]; omega)]
    rw [this]
end Go.Proofs.YtpckmllmjdafpaaDoor
