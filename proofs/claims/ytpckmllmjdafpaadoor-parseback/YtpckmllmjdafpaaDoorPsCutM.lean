/- A text that is cut where a fault was met. -/
import Derived.Test.YtpckmllmjdafpaaDoorJoint00
namespace Go.Proofs.YtpckmllmjdafpaaDoor
set_option linter.unusedVariables false

theorem one_first {c : UInt8} {r : List UInt8} {t : Tk} {n : Nat} (h : one (c :: r) = .ok (t, n)) : c ≠ 47 ∧ 1 ≤ n ∧ n ≤ r.length + 1 := by
  have hl := one_len h
  refine ⟨?_, hl.1, by simpa using hl.2⟩
  rintro rfl
  have h1 : isSml 47 = false := by decide
  have h2 : isFig 47 = false := by decide
  have h3 : isSgn 47 = false := by decide
  simp [one, h1, h2, h3] at h

theorem skp_keep (u : List UInt8) : ∀ (b : Bool) (c : UInt8) (v v' : List UInt8), c ≠ 47 → skp b (u ++ c :: v) = u.length → skp b (u ++ c :: v') = u.length := by
  induction u with
  | nil =>
    intro b c v v' hc h
    cases b
    · simp only [List.nil_append, skp, List.length_nil] at h ⊢
      have hc' : (c == 47) = false := by simpa using hc
      rw [hc', Bool.false_and] at h ⊢
      by_cases hb : isBlk c = true
      · rw [if_pos hb] at h; omega
      · rw [if_neg hb]; rfl
    · simp only [List.nil_append, skp, List.length_nil] at h
      split at h <;> omega
  | cons d u ih =>
    intro b c v v' hc h
    have hh : ∀ z, (u ++ c :: z).head? = (u ++ [c]).head? := by intro z; cases u <;> simp
    cases b
    · simp only [List.cons_append, skp, List.length_cons, hh] at h ⊢
      split at h
      · rename_i hb; rw [if_pos hb]; have := ih false c v v' hc (by omega); omega
      · rename_i hb
        rw [if_neg hb]
        split at h
        · rename_i hn; rw [if_pos hn]; have := ih true c v v' hc (by omega); omega
        · omega
    · simp only [List.cons_append, skp, List.length_cons] at h ⊢
      split at h
      · rename_i hb; rw [if_pos hb]; have := ih false c v v' hc (by omega); omega
      · rename_i hb; rw [if_neg hb]; have := ih true c v v' hc (by omega); omega

theorem skp_over (u : List UInt8) : ∀ (b : Bool) (v v' : List UInt8), v.head? ≠ some 47 → u.length ≤ skp b (u ++ v) → u.length ≤ skp b (u ++ v') := by
  induction u with
  | nil => intro b v v' hv h; simp
  | cons d u ih =>
    intro b v v' hv h
    cases b
    · simp only [List.cons_append, skp, List.length_cons] at h ⊢
      split at h
      · rename_i hb; rw [if_pos hb]; have := ih false v v' hv (by omega); omega
      · rename_i hb
        rw [if_neg hb]
        split at h
        · rename_i hn
          have hn' : (d == 47 && (u ++ v').head? == some 47) = true := by
            cases u with
            | nil =>
              simp only [List.nil_append, Bool.and_eq_true, beq_iff_eq] at hn
              exact absurd hn.2 hv
            | cons e u => simpa using hn
          rw [if_pos hn']
          have := ih true v v' hv (by omega)
          omega
        · omega
    · simp only [List.cons_append, skp, List.length_cons] at h ⊢
      split at h
      · rename_i hb; rw [if_pos hb]; have := ih false v v' hv (by omega); omega
      · rename_i hb; rw [if_neg hb]; have := ih true v v' hv (by omega); omega

theorem cnt_whole {p : UInt8 → Bool} {u v : List UInt8} (h : cnt p (u ++ v) = u.length) : (∀ c ∈ u, p c = true) ∧ (∀ c, v.head? = some c → p c = false) := by
  induction u with
  | nil =>
    refine ⟨by simp, fun c hc => ?_⟩
    cases v with
    | nil => cases hc
    | cons d v =>
      simp only [List.head?_cons, Option.some.injEq] at hc
      subst hc
      simp only [List.nil_append, cnt_cons, List.length_nil] at h
      cases hp : p d
      · rfl
      · rw [hp] at h; simp at h
  | cons d u ih =>
    simp only [List.cons_append, cnt_cons, List.length_cons] at h
    split at h
    · rename_i hp
      obtain ⟨h1, h2⟩ := ih (by omega)
      refine ⟨fun c hc => ?_, h2⟩
      rcases List.mem_cons.1 hc with rfl | hc
      · exact hp
      · exact h1 c hc
    · omega

theorem cnt_of {p : UInt8 → Bool} {u v : List UInt8} (h1 : ∀ c ∈ u, p c = true) (h2 : ∀ c, v.head? = some c → p c = false) : cnt p (u ++ v) = u.length := by
  cases v with
  | nil =>
    rw [List.append_nil]
    clear h2
    induction u with
    | nil => rfl
    | cons d u ih => rw [cnt_cons, if_pos (h1 d (by simp)), ih (fun c hc => h1 c (by simp [hc]))]; rfl
  | cons c v => exact cnt_all p u c v h1 (h2 c rfl)

theorem letAt_of {v : List UInt8} (h : ∀ c, v.head? = some c → isLet c = false) : letAt v = false := by
  cases v with
  | nil => rfl
  | cons c v => simp [letAt, h c rfl]

theorem letAt_no {v : List UInt8} (h : letAt v = false) : ∀ c, v.head? = some c → isLet c = false := by
  cases v with
  | nil => intro c h; cases h
  | cons d v => intro c hc; simp only [List.head?_cons, Option.some.injEq] at hc; subst hc; simpa [letAt] using h

/-- A token stands as it did, whatever comes behind what comes next; or a blank. -/
theorem one_keep {u v v' : List UInt8} {t : Tk} (h : one (u ++ v) = .ok (t, u.length)) (hv : v'.head? = v.head? ∨ v'.head? = some 32) : one (u ++ v') = .ok (t, u.length) := by
  have key : ∀ p : UInt8 → Bool, p 32 = false → (∀ c, v.head? = some c → p c = false) → ∀ c, v'.head? = some c → p c = false := by
    intro p hp h c hc
    rcases hv with e | e
    · exact h c (by rw [← e]; exact hc)
    · rw [e] at hc; cases hc; exact hp
  cases u with
  | nil => have := (one_len h).1; simp at this
  | cons c u =>
    simp only [List.cons_append] at h ⊢
    simp only [one] at h ⊢
    split at h
    · rename_i hc
      rw [if_pos hc]
      split at h
      · cases h
      · rename_i hl
        have hn : cnt isWdy (c :: (u ++ v)) = (c :: u).length := by injection h with h; exact (Prod.mk.inj h).2
        obtain ⟨a1, a2⟩ := cnt_whole (u := c :: u) (v := v) hn
        have hn' : cnt isWdy (c :: (u ++ v')) = (c :: u).length := cnt_of (u := c :: u) (v := v') a1 (key isWdy (by decide) a2)
        rw [hn] at h hl
        rw [hn', if_neg hl]
        cases h
        rw [← List.cons_append, List.take_left, ← List.cons_append, List.take_left]
    · rename_i hc
      rw [if_neg hc]
      split at h
      · rename_i hf
        rw [if_pos hf]
        split at h
        · cases h
        · rename_i hl
          split at h
          · cases h
          · rename_i hlt
            have hn : cnt isFig (c :: (u ++ v)) = (c :: u).length := by injection h with h; exact (Prod.mk.inj h).2
            obtain ⟨a1, a2⟩ := cnt_whole (u := c :: u) (v := v) hn
            have hn' : cnt isFig (c :: (u ++ v')) = (c :: u).length := cnt_of (u := c :: u) (v := v') a1 (key isFig (by decide) a2)
            rw [hn] at h hl hlt
            rw [hn', if_neg hl]
            rw [← List.cons_append, List.drop_left] at hlt
            have b2 := key isLet (by decide) (letAt_no (by simpa using hlt))
            rw [← List.cons_append, List.drop_left, letAt_of b2]
            cases h
            rw [List.take_left, ← List.cons_append, List.take_left]
            rfl
      · rename_i hf
        rw [if_neg hf]
        split at h
        · rename_i h36
          rw [if_pos h36]
          split at h
          · cases h
          · rename_i h0
            split at h
            · cases h
            · rename_i hl
              split at h
              · cases h
              · rename_i hlt
                have hn : cnt isHxy (u ++ v) = u.length := by injection h with h; have := (Prod.mk.inj h).2; simpa using this
                obtain ⟨a1, a2⟩ := cnt_whole hn
                have hn' : cnt isHxy (u ++ v') = u.length := cnt_of a1 (key isHxy (by decide) a2)
                rw [hn] at h h0 hl hlt
                rw [hn', if_neg h0, if_neg hl]
                rw [List.drop_left] at hlt
                have b2 := key isLet (by decide) (letAt_no (by simpa using hlt))
                rw [List.drop_left, letAt_of b2]
                cases h
                rw [List.take_left, List.take_left]
                rfl
        · rename_i h36
          rw [if_neg h36]
          split at h
          · rename_i hs
            rw [if_pos hs]
            exact h
          · cases h

theorem scan_ge (f : Nat) : ∀ (x : List UInt8) (a k : Nat) (ts : Toks), scan f x a k = .ok ts → ∀ t ∈ ts, a + skp false x ≤ t.2 := by
  induction f with
  | zero => intro x a k ts h; cases h; intro t ht; cases ht
  | succ f ih =>
    intro x a k ts h
    by_cases hne : x.drop (skp false x) = []
    · rw [scan_end hne] at h; cases h; intro t ht; cases ht
    · cases hr : one (x.drop (skp false x)) with
      | error e => obtain ⟨e, o⟩ := e; rw [scan_bad hne hr] at h; cases h
      | ok r =>
        obtain ⟨t, n⟩ := r
        by_cases h5 : k = 500
        · subst h5; rw [scan_many hne hr] at h; cases h
        · rw [scan_next hne hr h5] at h
          cases hs : scan f (x.drop (skp false x + n)) (a + skp false x + n) (k + 1) with
          | error e => rw [hs] at h; cases h
          | ok us =>
            rw [hs] at h
            cases h
            intro u hu
            rcases List.mem_cons.1 hu with rfl | hu
            · exact Nat.le_refl _
            · have := ih _ _ _ _ hs u hu
              omega

theorem cut_scan (q : Toks) : ∀ (f : Nat) (s : List UInt8) (a k : Nat) (r : Toks), scan f s a k = .ok (q ++ r) → s.length < f → ∀ (other : List UInt8) (g : Nat) (us : Toks) (P : Nat), P = place (a + s.length) r →
    scan g (s.take (P - a) ++ 32 :: other) a k = .ok us → (s.take (P - a) ++ 32 :: other).length < g → a ≤ P ∧ P ≤ a + s.length ∧ ∃ us2, us = q ++ us2 ∧ ∀ t ∈ us2, P ≤ t.2 := by
  induction q with
  | nil =>
    intro f s a k r h hf other g us P hP hy hg
    cases f with
    | zero => omega
    | succ f =>
    have hle := skp_le false s
    have hm : P = a + skp false s := by
      by_cases hne : s.drop (skp false s) = []
      · rw [scan_end hne] at h
        have hr : r = [] := by injection h with h; exact h.symm
        rw [hP, hr]
        have := List.drop_eq_nil_iff.1 hne
        show a + s.length = _
        omega
      · cases hr : one (s.drop (skp false s)) with
        | error e => obtain ⟨e, o⟩ := e; rw [scan_bad hne hr] at h; cases h
        | ok x =>
          obtain ⟨t, n⟩ := x
          by_cases h5 : k = 500
          · subst h5; rw [scan_many hne hr] at h; cases h
          · rw [scan_next hne hr h5] at h
            cases hs : scan f (s.drop (skp false s + n)) (a + skp false s + n) (k + 1) with
            | error e => rw [hs] at h; cases h
            | ok vs =>
              rw [hs] at h
              have hr2 : r = (t, a + skp false s) :: vs := by injection h with h; exact h.symm
              rw [hP, hr2]
              rfl
    refine ⟨by omega, by omega, us, rfl, fun t ht => ?_⟩
    have hge := scan_ge g _ a k us hy t ht
    have hov : skp false s ≤ skp false (s.take (P - a) ++ 32 :: other) := by
      have e : P - a = skp false s := by omega
      rw [e]
      have hl : (s.take (skp false s)).length = skp false s := by rw [List.length_take]; omega
      have hd : (s.drop (skp false s)).head? ≠ some 47 := by
        intro hh
        cases hc : s.drop (skp false s) with
        | nil => rw [hc] at hh; cases hh
        | cons c rest =>
          rw [hc] at hh
          simp only [List.head?_cons, Option.some.injEq] at hh
          subst hh
          have hne : s.drop (skp false s) ≠ [] := by rw [hc]; simp
          cases hr : one (s.drop (skp false s)) with
          | error e => obtain ⟨e, o⟩ := e; rw [scan_bad hne hr] at h; cases h
          | ok x => obtain ⟨t, n⟩ := x; rw [hc] at hr; exact absurd rfl (one_first hr).1
      have := skp_over (s.take (skp false s)) false (s.drop (skp false s)) (32 :: other) hd (by rw [List.take_append_drop, hl]; exact Nat.le_refl _)
      rw [hl] at this
      exact this
    omega
  | cons tp q ih =>
    intro f s a k r h hf other g us P hP hy hg
    cases f with
    | zero => omega
    | succ f =>
    have hle := skp_le false s
    by_cases hne : s.drop (skp false s) = []
    · rw [scan_end hne] at h; cases h
    · cases hr : one (s.drop (skp false s)) with
      | error e => obtain ⟨e, o⟩ := e; rw [scan_bad hne hr] at h; cases h
      | ok x =>
        obtain ⟨t, n⟩ := x
        have hn := one_len hr
        rw [List.length_drop] at hn
        by_cases h5 : k = 500
        · subst h5; rw [scan_many hne hr] at h; cases h
        · rw [scan_next hne hr h5] at h
          cases hs : scan f (s.drop (skp false s + n)) (a + skp false s + n) (k + 1) with
          | error e => rw [hs] at h; cases h
          | ok vs =>
            rw [hs] at h
            have h' : (t, a + skp false s) :: vs = tp :: (q ++ r) := by injection h
            injection h' with e1 e2
            subst e1
            rw [e2] at hs
            obtain ⟨m, hm⟩ : ∃ m, skp false s = m := ⟨_, rfl⟩
            rw [hm] at hne hr hn hs hle
            rw [hm]
            clear h
            -- the rest
            have hlen : (s.drop (m + n)).length = s.length - (m + n) := by simp
            have hPr : P = place (a + m + n + (s.drop (m + n)).length) r := by rw [hP, hlen]; congr 1; omega
            have hPge : a + m + n ≤ P := by
              rw [hPr]
              cases r with
              | nil => show _ ≤ a + m + n + _; omega
              | cons u r' =>
                have := scan_ge f _ _ _ _ hs u (by simp)
                show _ ≤ u.2
                omega
            have hPle : P ≤ a + s.length := by
              rw [hPr]
              cases r with
              | nil => show a + m + n + _ ≤ _; omega
              | cons u r' =>
                have hst := scan_stands (List.replicate (a + m + n) 0 ++ s.drop (m + n)) f (a + m + n) (k + 1) (q ++ u :: r') (by rw [List.drop_left' (by simp)]; exact hs)
                have hall : ∀ (lo : Nat) (zs : Toks), Stands (List.replicate (a + m + n) 0 ++ s.drop (m + n)) lo zs → ∀ z ∈ zs, z.2 < (List.replicate (a + m + n) 0 ++ s.drop (m + n)).length := by
                  intro lo zs
                  induction zs generalizing lo with
                  | nil => intro _ z hz; cases hz
                  | cons y zs ih2 =>
                    obtain ⟨y1, y2⟩ := y
                    rintro ⟨_, h2, n', _, h4⟩ z hz
                    rcases List.mem_cons.1 hz with rfl | hz
                    · exact h2
                    · exact ih2 _ h4 z hz
                have := hall _ _ hst u (by simp)
                rw [List.length_append, List.length_replicate, hlen] at this
                show u.2 ≤ _
                omega
            -- the text that is cut
            have hsplit : s.take (P - a) = s.take m ++ ((s.drop m).take n ++ (s.drop (m + n)).take (P - (a + m + n))) := by
              have e3 : P - a = m + (n + (P - (a + m + n))) := by omega
              rw [e3, List.take_add, List.take_add, List.drop_drop]
            obtain ⟨R, hR⟩ : ∃ R, R = (s.drop (m + n)).take (P - (a + m + n)) ++ 32 :: other := ⟨_, rfl⟩
            have hY : s.take (P - a) ++ 32 :: other = s.take m ++ ((s.drop m).take n ++ R) := by rw [hsplit, hR]; simp [List.append_assoc]
            have hlm : (s.take m).length = m := by rw [List.length_take]; omega
            have hln : ((s.drop m).take n).length = n := by rw [List.length_take, List.length_drop]; omega
            have hdn : s.drop m = (s.drop m).take n ++ s.drop (m + n) := by rw [← List.drop_drop]; exact (List.take_append_drop n (s.drop m)).symm
            have hRh : R.head? = (s.drop (m + n)).head? ∨ R.head? = some 32 := by
              rw [hR]
              cases hz : (s.drop (m + n)).take (P - (a + m + n)) with
              | nil => exact .inr rfl
              | cons c z =>
                left
                cases hw : s.drop (m + n) with
                | nil => rw [hw] at hz; simp at hz
                | cons d w2 =>
                  rw [hw] at hz
                  cases hp : P - (a + m + n) with
                  | zero => rw [hp] at hz; simp at hz
                  | succ p => rw [hp, List.take_succ_cons] at hz; injection hz with e4 _; simp [e4]
            have hone : one ((s.drop m).take n ++ R) = .ok (t, n) := by
              have h6 : one ((s.drop m).take n ++ s.drop (m + n)) = .ok (t, ((s.drop m).take n).length) := by rw [← hdn, hln]; exact hr
              have := one_keep h6 hRh
              rw [hln] at this
              exact this
            have hsk : skp false (s.take (P - a) ++ 32 :: other) = m := by
              rw [hY]
              cases hc : (s.drop m).take n with
              | nil => rw [hc] at hln; simp at hln; omega
              | cons c rest =>
                have hsc : s.drop m = c :: (rest ++ s.drop (m + n)) := by rw [hdn, hc]; simp
                rw [hsc] at hr
                have h47 := (one_first hr).1
                have h7 : skp false (s.take m ++ c :: (rest ++ s.drop (m + n))) = (s.take m).length := by rw [← hsc, List.take_append_drop, hlm, hm]
                have := skp_keep (s.take m) false c _ (rest ++ R) h47 h7
                rw [hlm] at this
                simpa using this
            cases g with
            | zero => omega
            | succ g =>
            have hdY : (s.take (P - a) ++ 32 :: other).drop m = (s.drop m).take n ++ R := by rw [hY, List.drop_left' hlm]
            have hne2 : (s.take (P - a) ++ 32 :: other).drop (skp false (s.take (P - a) ++ 32 :: other)) ≠ [] := by
              rw [hsk, hdY]
              intro e5
              rw [e5] at hone
              have := (one_len hone).2
              simp at this
              omega
            rw [scan_next hne2 (by rw [hsk, hdY]; exact hone) h5, hsk] at hy
            have hdR : (s.take (P - a) ++ 32 :: other).drop (m + n) = R := by rw [← List.drop_drop, hdY, List.drop_left' hln]
            rw [hdR] at hy
            cases hs2 : scan g R (a + m + n) (k + 1) with
            | error e => rw [hs2] at hy; cases hy
            | ok vs2 =>
              rw [hs2] at hy
              have hus : us = (t, a + m) :: vs2 := by injection hy with hy; exact hy.symm
              have hlY : (s.take (P - a) ++ 32 :: other).length = m + n + R.length := by rw [hY, List.length_append, List.length_append, hlm, hln]; omega
              rw [hR] at hs2
              obtain ⟨-, -, us2, e6, h8⟩ := ih f (s.drop (m + n)) (a + m + n) (k + 1) r hs (by rw [hlen]; omega) other g vs2 P hPr hs2 (by rw [← hR]; omega)
              exact ⟨by omega, hPle, us2, by rw [hus, e6]; rfl, h8⟩

theorem Scan_code {l : List UInt8} {e o : Nat} (h : Scan l = .error (e, o)) : e ≠ 111 ∧ e ≠ 112 := by
  have h1 : ∀ (x : List UInt8) (e o : Nat), one x = .error (e, o) → e = 101 ∨ e = 102 := by
    intro x e o h
    cases x with
    | nil => cases h; exact .inl rfl
    | cons c r =>
      simp only [one] at h
      repeat' split at h
      all_goals first | (cases h; exact .inl rfl) | (cases h; exact .inr rfl) | cases h
  have sc : ∀ (f : Nat) (x : List UInt8) (a k e o : Nat), scan f x a k = .error (e, o) → e = 101 ∨ e = 102 ∨ e = 103 := by
    intro f
    induction f with
    | zero => intro x a k e o h; cases h
    | succ f ih =>
      intro x a k e o h
      by_cases hne : x.drop (skp false x) = []
      · rw [scan_end hne] at h; cases h
      · cases hr : one (x.drop (skp false x)) with
        | error y =>
          obtain ⟨e', o'⟩ := y
          rw [scan_bad hne hr] at h
          cases h
          rcases h1 _ _ _ hr with h | h <;> omega
        | ok y =>
          obtain ⟨t, n⟩ := y
          by_cases h5 : k = 500
          · subst h5; rw [scan_many hne hr] at h; cases h; omega
          · rw [scan_next hne hr h5] at h
            cases hs : scan f (x.drop (skp false x + n)) (a + skp false x + n) (k + 1) with
            | error y => obtain ⟨e', o'⟩ := y; rw [hs] at h; have := ih _ _ _ _ _ hs; cases h; exact this
            | ok vs => rw [hs] at h; cases h
  unfold Scan at h
  split at h
  · cases h; omega
  · have := sc _ _ _ _ _ _ h
    omega

/-- A parser tells of no other faults. -/
def Coded {α : Type} (P : Par α) : Prop := ∀ en ts c k, P en ts = .error (c, k) → c ≠ 0

theorem Coded.ret {α : Type} (x : α) : Coded (pret x) := fun en ts c k h => by cases h
theorem Coded.bind {α β : Type} {P : Par α} {f : α → Par β} (hP : Coded P) (hf : ∀ x, Coded (f x)) : Coded (pbind P f) := by
  intro en ts c k h
  unfold pbind at h
  cases hp : P en ts with
  | error e => rw [hp] at h; cases h; exact hP en ts c k hp
  | ok y => obtain ⟨x, r⟩ := y; rw [hp] at h; exact hf x en r c k h
theorem Coded.take (p : Tk → Bool) : Coded (ptake p) := by
  intro en ts c k h
  cases ts with
  | nil => cases h; decide
  | cons t r => simp only [ptake] at h; split at h <;> cases h; decide
theorem Coded.fork {α : Type} (p : Tk → Bool) {P Q : Par α} (hP : Coded P) (hQ : Coded Q) : Coded (pif p P Q) := by
  intro en ts c k h
  unfold pif at h
  split at h
  · exact hP en ts c k h
  · exact hQ en ts c k h
theorem Coded.ite {α : Type} {P Q : Par α} (c : Prop) [Decidable c] (hP : Coded P) (hQ : Coded Q) : Coded (if c then P else Q) := by
  split
  · exact hP
  · exact hQ
theorem part_coded {pe : Par Nd} (h : Coded pe) (k : Kd) : Coded (ppart pe k) := by
  cases k
  · exact h
  · exact (Coded.take _).bind fun _ => Coded.ret _
  · exact (Coded.take _).bind fun _ => Coded.ret _
theorem kinds_coded {pe : Par Nd} (h : Coded pe) (ks : List Kd) : ∀ b, Coded (pkinds pe b ks) := by
  induction ks with
  | nil => intro b; cases b <;> exact Coded.ret _
  | cons k ks ih =>
    intro b
    cases b
    · exact (Coded.take _).bind fun _ => (part_coded h k).bind fun _ => (ih false).bind fun _ => Coded.ret _
    · exact (part_coded h k).bind fun _ => (ih false).bind fun _ => Coded.ret _
theorem more_coded {pe : Par Nd} (h : Coded pe) (f : Nat) : Coded (pmore pe f) := by
  induction f with
  | zero => exact Coded.ret _
  | succ f ih => exact Coded.fork _ ((Coded.take _).bind fun _ => h.bind fun _ => ih.bind fun _ => Coded.ret _) (Coded.ret _)
theorem expr_coded (d : Nat) : Coded (pexpr d) := by
  induction d with
  | zero => intro en ts c k h; cases h; decide
  | succ d ih => exact (Coded.take _).bind fun _ => Coded.ite _ (Coded.ret _) (((Coded.take _).bind fun _ => (kinds_coded ih _ _).bind fun _ => (Coded.ite _ (more_coded ih _) (Coded.ret _)).bind fun _ => (Coded.take _).bind fun _ => Coded.ret _).bind fun _ => Coded.ret _)
theorem rest_coded (op : List UInt8) : Coded (prest op) := by
  unfold prest
  exact Coded.ite _ ((Coded.take _).bind fun _ => Coded.ret _) (Coded.ite _ ((Coded.take _).bind fun _ => Coded.ret _)
    (Coded.ite _ ((Coded.take _).bind fun _ => (expr_coded 12).bind fun _ => Coded.ret _) (Coded.fork _ ((Coded.take _).bind fun _ => Coded.ret _) (Coded.ret _))))
theorem file_coded (f : Nat) : Coded (pfile f) := by
  induction f with
  | zero => exact Coded.ret _
  | succ f ih =>
    have hb : Coded (pbind pstmt fun n => pbind (pfile f) fun l => pret (n :: l)) := ((Coded.take _).bind fun _ => (Coded.take _).bind fun _ => (rest_coded _).bind fun _ => (Coded.take _).bind fun _ => Coded.ret _).bind fun _ => ih.bind fun _ => Coded.ret _
    intro en ts c k h
    cases ts with
    | nil => cases h
    | cons t r => exact hb en (t :: r) c k h

theorem Parse_place {x : List UInt8} {c k : Nat} (h : Parse x = .error (c, k)) : k ≤ x.length ∧ c ≠ 0 := by
  unfold Parse at h
  cases hS : Scan x with
  | error e => obtain ⟨e, o⟩ := e; rw [hS] at h; cases h; have := Scan_err hS; exact ⟨this.2, this.1⟩
  | ok ts =>
    rw [hS] at h
    simp only at h
    cases hp : pfile 501 x.length ts with
    | ok y => rw [hp] at h; cases h
    | error e =>
      obtain ⟨e, o⟩ := e
      rw [hp] at h
      cases h
      obtain ⟨q, r, e1, e2, _⟩ := (file_stable 501 x.length ts).2 c k hp
      refine ⟨?_, file_coded 501 x.length ts c k hp⟩
      rw [e2]
      cases r with
      | nil => exact Nat.le_refl _
      | cons u r' =>
        have hst := Scan_stands hS
        have hall : ∀ (lo : Nat) (zs : Toks), Stands x lo zs → ∀ z ∈ zs, z.2 < x.length := by
          intro lo zs
          induction zs generalizing lo with
          | nil => intro _ z hz; cases hz
          | cons y zs ih2 =>
            obtain ⟨y1, y2⟩ := y
            rintro ⟨_, h2, n', _, h4⟩ z hz
            rcases List.mem_cons.1 hz with rfl | hz
            · exact h2
            · exact ih2 _ h4 z hz
        have := hall _ _ hst u (by rw [e1]; simp)
        show u.2 ≤ _
        omega

/-- What stands behind a fault's place does not matter. -/
theorem Parse_cut {x : List UInt8} {P : Nat} (h : Parse x = .error (111, P)) (other : List UInt8) {k : Nat} (h2 : Parse (x.take P ++ 32 :: other) = .error (111, k)) : P ≤ k := by
  unfold Parse at h h2
  cases hS : Scan x with
  | error e => obtain ⟨e, o⟩ := e; rw [hS] at h; cases h; exact absurd rfl (Scan_code hS).1
  | ok ts =>
    cases hS2 : Scan (x.take P ++ 32 :: other) with
    | error e => obtain ⟨e, o⟩ := e; rw [hS2] at h2; cases h2; exact absurd rfl (Scan_code hS2).1
    | ok us =>
      rw [hS] at h
      rw [hS2] at h2
      simp only at h h2
      cases hp : pfile 501 x.length ts with
      | ok y => rw [hp] at h; cases h
      | error e =>
        rw [hp] at h
        cases h
        cases hp2 : pfile 501 (x.take P ++ 32 :: other).length us with
        | ok y => rw [hp2] at h2; cases h2
        | error e =>
          rw [hp2] at h2
          cases h2
          obtain ⟨q, r, e1, e2, _⟩ := (file_stable 501 _ _).2 111 P hp
          obtain ⟨q', r', e1', e2', hst⟩ := (file_stable 501 _ _).2 111 k hp2
          unfold Scan at hS hS2
          split at hS
          · cases hS
          · split at hS2
            · cases hS2
            · rw [e1] at hS
              obtain ⟨-, -, us2, e3, h3⟩ := cut_scan q _ x 0 0 r hS (by omega) other _ us P (by rw [e2, Nat.zero_add]) (by rw [Nat.sub_zero]; exact hS2) (by rw [Nat.sub_zero]; omega)
              rcases Nat.lt_or_ge k P with hk | hk
              · exfalso
                -- the fault's token is one of q
                cases r' with
                | nil =>
                  rw [e2'] at hk
                  have hPl := (cut_scan q _ x 0 0 r hS (by omega) other _ us P (by rw [e2, Nat.zero_add]) (by rw [Nat.sub_zero]; exact hS2) (by rw [Nat.sub_zero]; omega)).2.1
                  simp only [place, List.length_append, List.length_take, List.length_cons] at hk
                  omega
                | cons u r'' =>
                  have hku : u.2 = k := e2'.symm
                  have hsplit : q' ++ u :: r'' = q ++ us2 := by rw [← e1', e3]
                  have hq : ∃ z, q = q' ++ u :: z := by
                    rcases List.append_eq_append_iff.1 hsplit with ⟨c, hc1, hc2⟩ | ⟨c, hc1, hc2⟩
                    · cases c with
                      | nil =>
                        simp only [List.nil_append] at hc2
                        have := h3 u (by rw [← hc2]; simp)
                        omega
                      | cons d c =>
                        rw [List.cons_append] at hc2
                        injection hc2 with h4 h5
                        exact ⟨c, by rw [hc1, h4]⟩
                    · have := h3 u (by rw [hc2]; simp)
                      omega
                  obtain ⟨z, hz⟩ := hq
                  have h6 := hst x.length (u :: (z ++ r)) rfl
                  have h7 : ts = q' ++ u :: (z ++ r) := by rw [e1, hz]; simp
                  rw [← h7, hp] at h6
                  injection h6 with h6
                  injection h6 with _ h6
                  have h8 : P = u.2 := h6
                  omega
              · exact hk
end Go.Proofs.YtpckmllmjdafpaaDoor
