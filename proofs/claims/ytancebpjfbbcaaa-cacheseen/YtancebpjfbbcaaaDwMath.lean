/- How the program keeps what came: its writes in a list, those Syncs that made something safe in another: reckoning alone. -/
import Derived.Test.YtancebpjfbbcaaaDvMath
namespace Go.Proofs.Ytancebpjfbbcaaa
set_option linter.unusedVariables false

/-- The writes of what came. -/
def ws (l : List AE) : List AE := l.filter fun e => !e.sync

/-- The Syncs that made something safe: how many writes were ahead, and the moment. -/
def syG : Nat → Nat → List AE → List (Nat × Int)
  | _, _, [] => []
  | nw, pd, e :: l => if e.sync then (if 0 < pd then (nw, e.mo) :: syG nw 0 l else syG nw 0 l) else syG (nw + 1) (if e.sure then pd else pd + 1) l
def syOf (l : List AE) : List (Nat × Int) := syG 0 0 l

/-- How many are pending behind some, pd having been so ahead. -/
def pdG : Nat → List AE → Nat
  | pd, [] => pd
  | pd, e :: l => pdG (if e.sync then 0 else if e.sure then pd else pd + 1) l

theorem ws_len (l : List AE) : (ws l).length = wrs l := rfl

theorem ws_append (l m : List AE) : ws (l ++ m) = ws l ++ ws m := by simp [ws]
theorem wrs_append (l m : List AE) : wrs (l ++ m) = wrs l + wrs m := by simp [wrs]

theorem syG_append (l m : List AE) : ∀ nw pd, syG nw pd (l ++ m) = syG nw pd l ++ syG (nw + wrs l) (pdG pd l) m := by
  induction l with
  | nil => intro nw pd; rfl
  | cons e l ih =>
    intro nw pd
    show (if e.sync then (if 0 < pd then (nw, e.mo) :: syG nw 0 (l ++ m) else syG nw 0 (l ++ m)) else syG (nw + 1) (if e.sure then pd else pd + 1) (l ++ m)) = (if e.sync then (if 0 < pd then (nw, e.mo) :: syG nw 0 l else syG nw 0 l) else syG (nw + 1) (if e.sure then pd else pd + 1) l) ++ syG (nw + wrs (e :: l)) (pdG (if e.sync then 0 else if e.sure then pd else pd + 1) l) m
    rw [wrs_cons]
    cases he : e.sync
    · simp only [Bool.false_eq_true, if_false]
      rw [ih]
      congr 2
      omega
    · simp only [if_true]
      split
      · rw [ih, List.cons_append]
        congr 2
        simp
      · rw [ih]
        congr 2
        simp

theorem pdG_snoc (l : List AE) (e : AE) : ∀ pd, pdG pd (l ++ [e]) = if e.sync then 0 else pdG pd l + (if e.sure then 0 else 1) := by
  induction l with
  | nil => intro pd; show (if e.sync then 0 else if e.sure then pd else pd + 1) = _; cases e.sync <;> cases e.sure <;> rfl
  | cons d l ih => intro pd; exact ih _

theorem rev_ind {motive : List AE → Prop} (h0 : motive []) (h1 : ∀ l e, motive l → motive (l ++ [e])) (l : List AE) : motive l := by
  rw [← List.reverse_reverse l]
  generalize l.reverse = r
  induction r with
  | nil => exact h0
  | cons e r ih => rw [List.reverse_cons]; exact h1 _ _ ih

theorem pdG_pend (l : List AE) : pdG 0 l = pend l := by
  induction l using rev_ind with
  | h0 => rfl
  | h1 l e ih => rw [pdG_snoc, pend_snoc, ih]

theorem syOf_snoc (l : List AE) (e : AE) : syOf (l ++ [e]) = if e.sync ∧ 0 < pend l then syOf l ++ [(wrs l, e.mo)] else syOf l := by
  unfold syOf
  rw [syG_append, pdG_pend, Nat.zero_add]
  show syG 0 0 l ++ (if e.sync then (if 0 < pend l then (wrs l, e.mo) :: [] else []) else []) = _
  by_cases he : e.sync = true
  · by_cases hp : 0 < pend l
    · rw [if_pos he, if_pos hp, if_pos ⟨he, hp⟩]
    · rw [if_pos he, if_neg hp, if_neg (fun h => hp h.2), List.append_nil]
  · rw [if_neg he, if_neg (fun h => he h.1), List.append_nil]

/-- What the last of some says, 0 if there is none. -/
def lastS (l : List (Nat × Int)) : Nat := (l.getLast?.map (·.1)).getD 0
theorem lastS_nil : lastS [] = 0 := rfl
theorem lastS_snoc (l : List (Nat × Int)) (x : Nat × Int) : lastS (l ++ [x]) = x.1 := by simp [lastS]

/-- How many writes there are ahead of the last Sync. -/
def ahead : List AE → Nat
  | [] => 0
  | e :: l => if e.sync then ahead l else if l.any (·.sync) then 1 + ahead l else 0

theorem ahead_none (l : List AE) (h : l.any (·.sync) = false) : ahead l = 0 := by
  induction l with
  | nil => rfl
  | cons e l ih =>
    simp only [List.any_cons, Bool.or_eq_false_iff] at h
    show (if e.sync then _ else if l.any (·.sync) then _ else 0) = 0
    rw [h.1, h.2]
    rfl

theorem ahead_snoc (l : List AE) (e : AE) : ahead (l ++ [e]) = if e.sync then wrs l else ahead l := by
  induction l with
  | nil => show (if e.sync then 0 else if ([] : List AE).any (·.sync) then 1 + 0 else 0) = _; cases e.sync <;> rfl
  | cons d l ih =>
    show (if d.sync then ahead (l ++ [e]) else if (l ++ [e]).any (·.sync) then 1 + ahead (l ++ [e]) else 0) = _
    rw [ih, wrs_cons, List.any_append]
    show _ = if e.sync then _ else (if d.sync then ahead l else if l.any (·.sync) then 1 + ahead l else 0)
    cases he : e.sync <;> cases hd : d.sync <;> simp [he]

theorem ahead_le (l : List AE) : ahead l ≤ wrs l := by
  induction l using rev_ind with
  | h0 => exact Nat.le_refl _
  | h1 l e ih => rw [ahead_snoc, wrs_snoc]; cases e.sync <;> simp <;> omega

/-- Where nothing is pending all behind the last Sync is sure. -/
theorem pend_none (l : List AE) : pend l = 0 → ∀ j e, ahead l ≤ j → (ws l)[j]? = some e → e.sure = true := by
  induction l using rev_ind with
  | h0 => intro _ j e _ h; simp [ws] at h
  | h1 l d ih =>
    intro hp j e hj he
    rw [ahead_snoc] at hj
    rw [pend_snoc] at hp
    rw [ws_append] at he
    cases hd : d.sync
    · rw [hd] at hp hj
      simp only [Bool.false_eq_true, if_false] at hp hj
      have hws : ws [d] = [d] := by simp [ws, hd]
      rw [hws] at he
      by_cases hlt : j < (ws l).length
      · rw [List.getElem?_append_left hlt] at he
        exact ih (by omega) j e hj he
      · rw [List.getElem?_append_right (by omega)] at he
        have h0 : j - (ws l).length = 0 := by
          rcases Nat.eq_zero_or_pos (j - (ws l).length) with h | h
          · exact h
          · rw [List.getElem?_eq_none (by simp; omega)] at he; cases he
        rw [h0] at he
        simp only [List.getElem?_cons_zero, Option.some.injEq] at he
        subst he
        cases hs : d.sure
        · rw [hs] at hp; simp at hp
        · rfl
    · rw [hd] at hj
      simp only [if_true] at hj
      have hws : ws [d] = [] := by simp [ws, hd]
      rw [hws, List.append_nil] at he
      have := (List.getElem?_eq_some_iff.1 he).1
      rw [ws_len] at this
      omega

/-- What the last Sync that was kept says: no more than is so; and what lies between is sure. -/
theorem last_ahead (l : List AE) : lastS (syOf l) ≤ ahead l ∧ ∀ j e, lastS (syOf l) ≤ j → j < ahead l → (ws l)[j]? = some e → e.sure = true := by
  induction l using rev_ind with
  | h0 => exact ⟨Nat.le_refl _, fun j e _ h => absurd h (Nat.not_lt_zero _)⟩
  | h1 l d ih =>
    have hal := ahead_le l
    rw [syOf_snoc, ahead_snoc, ws_append]
    cases hd : d.sync
    · simp only [Bool.false_eq_true, false_and, if_false]
      refine ⟨ih.1, fun j e h1 h2 he => ih.2 j e h1 h2 ?_⟩
      rw [List.getElem?_append_left (by rw [ws_len]; omega)] at he
      exact he
    · have hws : ws [d] = [] := by simp [ws, hd]
      rw [hws, List.append_nil]
      simp only [true_and, if_true]
      by_cases hp : 0 < pend l
      · rw [if_pos hp, lastS_snoc]
        exact ⟨Nat.le_refl _, fun j e h1 h2 => by omega⟩
      · rw [if_neg hp]
        refine ⟨by omega, fun j e h1 h2 he => ?_⟩
        by_cases hj : j < ahead l
        · exact ih.2 j e h1 hj he
        · exact pend_none l (by omega) j e (by omega) he

/-- What the program does: over the writes, by their numbers. -/
def clo (keep : Nat → Bool) (safe : Nat) : Nat → Nat → List AE → (Nat → Nat → Nat) → Nat → Nat → Nat
  | _, _, [], f => f
  | i, k, e :: l, f => if e.sure || decide (i < safe) then clo keep safe (i + 1) k l (upF f e) else clo keep safe (i + 1) (k + 1) l (if keep k then upF f e else f)

theorem clo_shift (keep : Nat → Bool) (safe : Nat) (l : List AE) : ∀ i k f, clo keep (1 + safe) (i + 1) k l f = clo keep safe i k l f := by
  induction l with
  | nil => intro i k f; rfl
  | cons e l ih =>
    intro i k f
    show (if e.sure || decide (i + 1 < 1 + safe) then _ else _) = (if e.sure || decide (i < safe) then _ else _)
    rw [ih, ih]
    have : decide (i + 1 < 1 + safe) = decide (i < safe) := by simp; omega
    rw [this]

theorem clo_zero (keep : Nat → Bool) (l : List AE) : ∀ i i' k f, clo keep 0 i k l f = clo keep 0 i' k l f := by
  induction l with
  | nil => intro i i' k f; rfl
  | cons e l ih =>
    intro i i' k f
    show (if e.sure || decide (i < 0) then _ else _) = (if e.sure || decide (i' < 0) then _ else _)
    rw [ih (i + 1) (i' + 1), ih (i + 1) (i' + 1)]
    have h1 : decide (i < 0) = false := by simp
    have h2 : decide (i' < 0) = false := by simp
    rw [h1, h2]

/-- What is left, by the numbers of the writes. -/
theorem left_clo (keep : Nat → Bool) (l : List AE) : ∀ k f, left keep k l f = clo keep (ahead l) 0 k (ws l) f := by
  induction l with
  | nil => intro k f; rfl
  | cons e l ih =>
    intro k f
    show (if e.sync then left keep k l f else if e.sure || l.any (·.sync) then left keep k l (upF f e) else left keep (k + 1) l (if keep k then upF f e else f)) = _
    have ha : ahead (e :: l) = if e.sync then ahead l else if l.any (·.sync) then 1 + ahead l else 0 := rfl
    cases he : e.sync
    · have hw : ws (e :: l) = e :: ws l := by simp [ws, he]
      rw [hw, ha, he]
      simp only [Bool.false_eq_true, if_false]
      show _ = (if e.sure || decide (0 < if l.any (·.sync) then 1 + ahead l else 0) then clo keep _ (0 + 1) k (ws l) (upF f e) else clo keep _ (0 + 1) (k + 1) (ws l) (if keep k then upF f e else f))
      cases hn : l.any (·.sync)
      · simp only [Bool.false_eq_true, if_false, Nat.lt_irrefl, decide_false]
        rw [ih, ih, ahead_none l hn, clo_zero keep (ws l) (0 + 1) 0, clo_zero keep (ws l) (0 + 1) 0]
      · simp only [if_true, Bool.or_true]
        rw [if_pos (by simp; omega), clo_shift, ih]
    · have hw : ws (e :: l) = ws l := by simp [ws, he]
      rw [hw, ha, he]
      simp only [if_true]
      exact ih k f

theorem clo_congr (keep : Nat → Bool) (s1 s2 : Nat) (l : List AE) : ∀ i k f, (∀ j e, l[j]? = some e → (decide (i + j < s1) = decide (i + j < s2)) ∨ e.sure = true) → clo keep s1 i k l f = clo keep s2 i k l f := by
  induction l with
  | nil => intro i k f _; rfl
  | cons e l ih =>
    intro i k f h
    have h' : ∀ j e', l[j]? = some e' → (decide (i + 1 + j < s1) = decide (i + 1 + j < s2)) ∨ e'.sure = true := fun j e' he => by
      have := h (j + 1) e' (by simpa using he)
      rw [show i + (j + 1) = i + 1 + j by omega] at this
      exact this
    show (if e.sure || decide (i < s1) then _ else _) = (if e.sure || decide (i < s2) then _ else _)
    rw [ih _ _ _ h', ih _ _ _ h']
    rcases h 0 e rfl with h0 | h0
    · rw [Nat.add_zero] at h0
      rw [h0]
    · rw [h0]
      rfl

/-- What is left, as the program has it. -/
theorem left_prog (keep : Nat → Bool) (l : List AE) (f : Nat → Nat → Nat) : left keep 0 l f = clo keep (lastS (syOf l)) 0 0 (ws l) f := by
  rw [left_clo]
  obtain ⟨h1, h2⟩ := last_ahead l
  apply clo_congr
  intro j e he
  rw [Nat.zero_add]
  by_cases ha : lastS (syOf l) ≤ j
  · by_cases hb : j < ahead l
    · exact .inr (h2 j e ha hb he)
    · exact .inl (by simp; omega)
  · exact .inl (by simp; omega)

/-! Parts of what came -/

theorem sy_from (l : List AE) : ∀ nw pd x, x ∈ syG nw pd l → (∃ e ∈ l, e.sync = true ∧ e.mo = x.2) ∧ nw ≤ x.1 ∧ x.1 ≤ nw + wrs l := by
  induction l with
  | nil => intro nw pd x h; cases h
  | cons e l ih =>
    intro nw pd x h
    rw [wrs_cons]
    unfold syG at h
    cases he : e.sync
    · rw [he] at h
      simp only [Bool.false_eq_true, if_false] at h ⊢
      obtain ⟨⟨d, hd, h1⟩, h2, h3⟩ := ih _ _ x h
      exact ⟨⟨d, by simp [hd], h1⟩, by omega, by omega⟩
    · rw [he] at h
      simp only [if_true] at h ⊢
      have key : x ∈ syG nw 0 l → (∃ d ∈ e :: l, d.sync = true ∧ d.mo = x.2) ∧ nw ≤ x.1 ∧ x.1 ≤ nw + (0 + wrs l) := fun h => by
        obtain ⟨⟨d, hd, h1⟩, h2, h3⟩ := ih _ _ x h
        exact ⟨⟨d, by simp [hd], h1⟩, by omega, by omega⟩
      split at h
      · rcases List.mem_cons.1 h with rfl | h
        · exact ⟨⟨e, by simp, he, rfl⟩, by simp, by simp⟩
        · exact key h
      · exact key h

/-- Those that some have come of. -/
theorem sy_part (l m : List AE) : ∃ r, syOf (l ++ m) = syOf l ++ r ∧ (∀ x ∈ r, (∃ e ∈ m, e.sync = true ∧ e.mo = x.2) ∧ wrs l ≤ x.1) ∧ ∀ x ∈ syOf l, ∃ e ∈ l, e.sync = true ∧ e.mo = x.2 := by
  refine ⟨syG (0 + wrs l) (pdG 0 l) m, syG_append l m 0 0, fun x hx => ?_, fun x hx => (sy_from l 0 0 x hx).1⟩
  obtain ⟨h1, h2, _⟩ := sy_from m _ _ x hx
  exact ⟨h1, by omega⟩

theorem filter_part {p : Nat × Int → Bool} (l r : List (Nat × Int)) (hl : ∀ x ∈ l, p x = true) (hr : ∀ x ∈ r, p x = false) : (l ++ r).filter p = l := by
  rw [List.filter_append, List.filter_eq_self.2 hl, List.filter_eq_nil_iff.2 (fun x hx => by rw [hr x hx]; simp), List.append_nil]

theorem upTo_split (l : List AE) : ∀ n, ∃ m, l = upTo n l ++ m := by
  induction l with
  | nil => intro n; exact ⟨[], by rw [upTo_nil]; rfl⟩
  | cons e l ih =>
    intro n
    cases n with
    | zero => exact ⟨e :: l, rfl⟩
    | succ n =>
      obtain ⟨m, hm⟩ := ih (if e.sync then n + 1 else n)
      exact ⟨m, by show e :: l = e :: upTo (if e.sync then n + 1 else n) l ++ m; rw [List.cons_append, ← hm]⟩

theorem upTo_count (l : List AE) : ∀ n, n ≤ wrs l → wrs (upTo n l) = n := by
  induction l with
  | nil => intro n h; rw [upTo_nil]; simp [wrs] at h ⊢; omega
  | cons e l ih =>
    intro n h
    cases n with
    | zero => rfl
    | succ n =>
      show wrs (e :: upTo (if e.sync then n + 1 else n) l) = n + 1
      rw [wrs_cons] at h ⊢
      cases he : e.sync
      · rw [he] at h
        simp only [Bool.false_eq_true, if_false] at h ⊢
        rw [ih n (by omega)]
        omega
      · rw [he] at h
        simp only [if_true] at h ⊢
        rw [ih (n + 1) (by omega)]
        omega

/-- The Syncs up to the n-th write have less than n writes ahead. -/
theorem upTo_sy (l : List AE) : ∀ n nw pd x, n ≤ wrs l → x ∈ syG nw pd (upTo n l) → x.1 < nw + n := by
  induction l with
  | nil => intro n nw pd x _ h; rw [upTo_nil] at h; cases h
  | cons e l ih =>
    intro n nw pd x hn h
    cases n with
    | zero => cases h
    | succ n =>
      rw [wrs_cons] at hn
      have h' : x ∈ syG nw pd (e :: upTo (if e.sync then n + 1 else n) l) := h
      unfold syG at h'
      cases he : e.sync
      · rw [he] at h' hn
        simp only [Bool.false_eq_true, if_false] at h' hn
        have := ih n _ _ x (by omega) h'
        omega
      · rw [he] at h' hn
        simp only [if_true] at h' hn
        split at h'
        · rcases List.mem_cons.1 h' with rfl | h'
          · simp
          · exact ih (n + 1) _ _ x (by omega) h'
        · exact ih (n + 1) _ _ x (by omega) h'

theorem take_ws (l m : List AE) : (ws (l ++ m)).take (wrs l) = ws l := by
  rw [ws_append, ← ws_len, List.take_left]

/-- Cut behind the n-th write. -/
theorem at_prog (keep : Nat → Bool) (l : List AE) (n : Nat) (hn : n ≤ wrs l) (f : Nat → Nat → Nat) : left keep 0 (upTo n l) f = clo keep (lastS ((syOf l).filter fun x => decide (x.1 < n))) 0 0 ((ws l).take n) f := by
  obtain ⟨m, hm⟩ := upTo_split l n
  have hc := upTo_count l n hn
  obtain ⟨r, hr, h2, h3⟩ := sy_part (upTo n l) m
  rw [← hm] at hr
  rw [left_prog]
  have hf : (syOf l).filter (fun x => decide (x.1 < n)) = syOf (upTo n l) := by
    rw [hr]
    refine filter_part _ _ (fun x hx => ?_) (fun x hx => ?_)
    · have := upTo_sy l n 0 0 x hn hx
      simp
      omega
    · have := (h2 x hx).2
      simp
      omega
  rw [hf]
  have ht := take_ws (upTo n l) m
  rw [← hm, hc] at ht
  rw [ht]

/-- Is an entry there at the moment m? -/
def kp (m : Int) (e : AE) : Bool := if e.sync then decide (e.mo < m) else decide (e.mo ≤ m)

/-- Moments go up: who is there at a moment has all ahead of him there. -/
def Rise (l : List AE) : Prop := l.Pairwise fun e e' => ∀ m : Int, 0 ≤ m → kp m e' = true → kp m e = true

theorem rise_split (m : Int) (hm : 0 ≤ m) (l : List AE) (h : Rise l) : ∃ r, l = momL m l ++ r ∧ (∀ e ∈ r, kp m e = false) ∧ ∀ e ∈ momL m l, kp m e = true := by
  induction l with
  | nil => exact ⟨[], rfl, by simp, by simp [momL]⟩
  | cons e l ih =>
    obtain ⟨h1, h2⟩ := List.pairwise_cons.1 h
    cases he : kp m e
    · have hn : ∀ e' ∈ l, kp m e' = false := fun e' he' => by
        cases hk : kp m e'
        · rfl
        · rw [h1 e' he' m hm hk] at he; cases he
      have h0 : momL m (e :: l) = [] := by
        unfold momL
        rw [List.filter_eq_nil_iff]
        intro d hd
        rcases List.mem_cons.1 hd with rfl | hd
        · show ¬ kp m d = true
          rw [he]; simp
        · show ¬ kp m d = true
          rw [hn d hd]; simp
      rw [h0]
      refine ⟨e :: l, rfl, fun d hd => ?_, by simp⟩
      rcases List.mem_cons.1 hd with rfl | hd
      · exact he
      · exact hn d hd
    · obtain ⟨r, h3, h4, h5⟩ := ih h2
      have h0 : momL m (e :: l) = e :: momL m l := by
        unfold momL
        rw [List.filter_cons_of_pos]
        exact he
      rw [h0]
      refine ⟨r, by rw [List.cons_append, ← h3], h4, fun d hd => ?_⟩
      rcases List.mem_cons.1 hd with rfl | hd
      · exact he
      · exact h5 d hd

/-- Cut behind the moment m. -/
theorem mo_prog (keep : Nat → Bool) (l : List AE) (m : Int) (hm : 0 ≤ m) (h : Rise l) (f : Nat → Nat → Nat) : left keep 0 (momL m l) f = clo keep (lastS ((syOf l).filter fun x => decide (x.2 < m))) 0 0 ((ws l).take (wrs (momL m l))) f := by
  obtain ⟨r, hr, h1, h2⟩ := rise_split m hm l h
  obtain ⟨q, hq, h3, h4⟩ := sy_part (momL m l) r
  rw [← hr] at hq
  rw [left_prog]
  have hf : (syOf l).filter (fun x => decide (x.2 < m)) = syOf (momL m l) := by
    rw [hq]
    refine filter_part _ _ (fun x hx => ?_) (fun x hx => ?_)
    · obtain ⟨e, he, hs, ho⟩ := h4 x hx
      have := h2 e he
      unfold kp at this
      rw [if_pos hs, ho] at this
      exact this
    · obtain ⟨e, he, hs, ho⟩ := (h3 x hx).1
      have := h1 e he
      unfold kp at this
      rw [if_pos hs, ho] at this
      exact this
  rw [hf]
  have ht := take_ws (momL m l) r
  rw [← hr] at ht
  rw [ht]

/-- How many writes there are up to a moment: the first that is behind it ends them. -/
theorem mo_first (l : List AE) (m : Int) (hm : 0 ≤ m) (h : Rise l) : ∀ j e, (ws l)[j]? = some e → (e.mo ≤ m ↔ j < wrs (momL m l)) := by
  obtain ⟨r, hr, h1, h2⟩ := rise_split m hm l h
  intro j e he
  have hw : ws l = ws (momL m l) ++ ws r := by rw [← ws_append, ← hr]
  rw [hw] at he
  have hk : ∀ L : List AE, e ∈ ws L → e ∈ L ∧ e.sync = false := fun L hL => by
    have := List.mem_filter.1 hL
    exact ⟨this.1, by simpa using this.2⟩
  rw [← ws_len]
  by_cases hj : j < (ws (momL m l)).length
  · rw [List.getElem?_append_left hj] at he
    obtain ⟨hm1, hs⟩ := hk _ (List.mem_of_getElem? he)
    have := h2 e hm1
    unfold kp at this
    rw [hs] at this
    simp at this
    exact ⟨fun _ => hj, fun _ => this⟩
  · rw [List.getElem?_append_right (by omega)] at he
    obtain ⟨hm1, hs⟩ := hk _ (List.mem_of_getElem? he)
    have := h1 e hm1
    unfold kp at this
    rw [hs] at this
    simp at this
    exact ⟨fun h => by omega, fun h => absurd h hj⟩

theorem rise_snoc (l : List AE) (h : Rise l) (e : AE) (c : Int) (hc : ∀ d ∈ l, d.mo ≤ c) (he : if e.sync then c ≤ e.mo else c + 1 ≤ e.mo) : Rise (l ++ [e]) := by
  unfold Rise
  rw [List.pairwise_append]
  refine ⟨h, by simp, fun d hd e' he' => ?_⟩
  rw [List.mem_singleton] at he'
  subst he'
  intro m hm hk
  have h1 := hc d hd
  unfold kp at hk ⊢
  cases hs : e'.sync
  · rw [hs] at hk he
    simp at hk he
    cases hd : d.sync <;> simp <;> omega
  · rw [hs] at hk he
    simp at hk he
    cases hd : d.sync <;> simp <;> omega

theorem anew_rise (l : List AE) : Rise (l.map anewE) := by
  unfold Rise
  rw [List.pairwise_map]
  refine List.pairwise_of_forall (fun e e' => ?_)
  intro m hm _
  unfold kp anewE
  cases e.sync <;> simp <;> omega

theorem anew_ws (l : List AE) : ws (l.map anewE) = (ws l).map anewE := by
  induction l with
  | nil => rfl
  | cons e l ih =>
    unfold ws at ih ⊢
    have : (anewE e).sync = e.sync := rfl
    rw [List.map_cons]
    cases he : e.sync
    · rw [List.filter_cons_of_pos (by rw [this, he]; rfl), List.filter_cons_of_pos (by rw [he]; rfl), List.map_cons, ih]
    · rw [List.filter_cons_of_neg (by rw [this, he]; simp), List.filter_cons_of_neg (by rw [he]; simp), ih]

theorem anew_sy (l : List AE) : ∀ nw pd, syG nw pd (l.map anewE) = (syG nw pd l).map fun x => (x.1, -1) := by
  induction l with
  | nil => intro nw pd; rfl
  | cons e l ih =>
    intro nw pd
    show (if e.sync then (if 0 < pd then (nw, if e.sync then -1 else 0) :: syG nw 0 (l.map anewE) else syG nw 0 (l.map anewE)) else syG (nw + 1) (if e.sure then pd else pd + 1) (l.map anewE)) = ((if e.sync then (if 0 < pd then (nw, e.mo) :: syG nw 0 l else syG nw 0 l) else syG (nw + 1) (if e.sure then pd else pd + 1) l)).map _
    cases he : e.sync
    · simp only [Bool.false_eq_true, if_false]
      exact ih _ _
    · simp only [if_true]
      split
      · rw [ih, List.map_cons]
      · exact ih _ _

theorem anew_pend (l : List AE) : pend (l.map anewE) = pend l := by
  rw [← pdG_pend, ← pdG_pend]
  generalize 0 = pd
  induction l generalizing pd with
  | nil => rfl
  | cons e l ih => exact ih _

theorem anew_holds (s : DS) : holds (anewD s) = holds s := by
  unfold holds anewD
  show (s.log.map anewE).foldl upF s.fst = _
  rw [List.foldl_map]
  rfl
end Go.Proofs.Ytancebpjfbbcaaa
