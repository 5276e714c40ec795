/- Texts that the statements of this stage share, joined: DwMath, DwRep, DwSmall, DwNew, DwRead, DwPut, DwWrite. -/
import Derived.Test.YtoiaclmfljoomaaDoorJoint01
import Derived.Test.YtoiaclmfljoomaaDoorJoint09
import Derived.Test.YtoiaclmfljoomaaDoorJoint02
import Derived.Test.YtoiaclmfljoomaaDoorJoint00

/- How the program keeps what came: its writes in a list, those Syncs that made something safe in another: reckoning alone. -/
namespace Go.Proofs.YtoiaclmfljoomaaDoor
set_option linter.unusedVariables false

/-- The writes of what came. -/
def ws (l : List AE) : List AE := l.filter fun e => !e.sync

/-- The Syncs that made something safe: how many writes were ahead, and the moment. -/
def syG : Nat → Nat → List AE → List (Nat × Int)
  | _, _, [] => []
  | nw, pd, e :: l => if e.sync then (if 0 < pd then (nw, e.mo) :: syG nw 0 l else syG nw 0 l) else syG (nw + 1) (if e.sure then pd else pd + 1) l
def syOf (l : List AE) : List (Nat × Int) := syG 0 0 l

/-- How many are pending behind some, pd having been so ahead. -/
def pdG : Nat → List AE → Nat
  | pd, [] => pd
  | pd, e :: l => pdG (if e.sync then 0 else if e.sure then pd else pd + 1) l

theorem ws_len (l : List AE) : (ws l).length = wrs l := rfl

theorem ws_append (l m : List AE) : ws (l ++ m) = ws l ++ ws m := by simp [ws]
theorem wrs_append (l m : List AE) : wrs (l ++ m) = wrs l + wrs m := by simp [wrs]

theorem syG_append (l m : List AE) : ∀ nw pd, syG nw pd (l ++ m) = syG nw pd l ++ syG (nw + wrs l) (pdG pd l) m := by
  induction l with
  | nil => intro nw pd; rfl
  | cons e l ih =>
    intro nw pd
    show (if e.sync then (if 0 < pd then (nw, e.mo) :: syG nw 0 (l ++ m) else syG nw 0 (l ++ m)) else syG (nw + 1) (if e.sure then pd else pd + 1) (l ++ m)) = (if e.sync then (if 0 < pd then (nw, e.mo) :: syG nw 0 l else syG nw 0 l) else syG (nw + 1) (if e.sure then pd else pd + 1) l) ++ syG (nw + wrs (e :: l)) (pdG (if e.sync then 0 else if e.sure then pd else pd + 1) l) m
    rw [wrs_cons]
    cases he : e.sync
    · simp only [Bool.false_eq_true, if_false]
      rw [ih]
      congr 2
      omega
    · simp only [if_true]
      split
      · rw [ih, List.cons_append]
        congr 2
        simp
      · rw [ih]
        congr 2
        simp

theorem pdG_snoc (l : List AE) (e : AE) : ∀ pd, pdG pd (l ++ [e]) = if e.sync then 0 else pdG pd l + (if e.sure then 0 else 1) := by
  induction l with
  | nil => intro pd; show (if e.sync then 0 else if e.sure then pd else pd + 1) = _; cases e.sync <;> cases e.sure <;> rfl
  | cons d l ih => intro pd; exact ih _

theorem rev_ind {motive : List AE → Prop} (h0 : motive []) (h1 : ∀ l e, motive l → motive (l ++ [e])) (l : List AE) : motive l := by
  rw [← List.reverse_reverse l]
  generalize l.reverse = r
  induction r with
  | nil => exact h0
  | cons e r ih => rw [List.reverse_cons]; exact h1 _ _ ih

theorem pdG_pend (l : List AE) : pdG 0 l = pend l := by
  induction l using rev_ind with
  | h0 => rfl
  | h1 l e ih => rw [pdG_snoc, pend_snoc, ih]

theorem syOf_snoc (l : List AE) (e : AE) : syOf (l ++ [e]) = if e.sync ∧ 0 < pend l then syOf l ++ [(wrs l, e.mo)] else syOf l := by
  unfold syOf
  rw [syG_append, pdG_pend, Nat.zero_add]
  show syG 0 0 l ++ (if e.sync then (if 0 < pend l then (wrs l, e.mo) :: [] else []) else []) = _
  by_cases he : e.sync = true
  · by_cases hp : 0 < pend l
    · rw [if_pos he, if_pos hp, if_pos ⟨he, hp⟩]
    · rw [if_pos he, if_neg hp, if_neg (fun h => hp h.2), List.append_nil]
  · rw [if_neg he, if_neg (fun h => he h.1), List.append_nil]

/-- What the last of some says, 0 if there is none. -/
def lastS (l : List (Nat × Int)) : Nat := (l.getLast?.map (·.1)).getD 0
theorem lastS_nil : lastS [] = 0 := rfl
theorem lastS_snoc (l : List (Nat × Int)) (x : Nat × Int) : lastS (l ++ [x]) = x.1 := by simp [lastS]

/-- How many writes there are ahead of the last Sync. -/
def ahead : List AE → Nat
  | [] => 0
  | e :: l => if e.sync then ahead l else if l.any (·.sync) then 1 + ahead l else 0

theorem ahead_none (l : List AE) (h : l.any (·.sync) = false) : ahead l = 0 := by
  induction l with
  | nil => rfl
  | cons e l ih =>
    simp only [List.any_cons, Bool.or_eq_false_iff] at h
    show (if e.sync then _ else if l.any (·.sync) then _ else 0) = 0
    rw [h.1, h.2]
    rfl

theorem ahead_snoc (l : List AE) (e : AE) : ahead (l ++ [e]) = if e.sync then wrs l else ahead l := by
  induction l with
  | nil => show (if e.sync then 0 else if ([] : List AE).any (·.sync) then 1 + 0 else 0) = _; cases e.sync <;> rfl
  | cons d l ih =>
    show (if d.sync then ahead (l ++ [e]) else if (l ++ [e]).any (·.sync) then 1 + ahead (l ++ [e]) else 0) = _
    rw [ih, wrs_cons, List.any_append]
    show _ = if e.sync then _ else (if d.sync then ahead l else if l.any (·.sync) then 1 + ahead l else 0)
    cases he : e.sync <;> cases hd : d.sync <;> simp [he]

theorem ahead_le (l : List AE) : ahead l ≤ wrs l := by
  induction l using rev_ind with
  | h0 => exact Nat.le_refl _
  | h1 l e ih => rw [ahead_snoc, wrs_snoc]; cases e.sync <;> simp <;> omega

/-- Where nothing is pending all behind the last Sync is sure. -/
theorem pend_none (l : List AE) : pend l = 0 → ∀ j e, ahead l ≤ j → (ws l)[j]? = some e → e.sure = true := by
  induction l using rev_ind with
  | h0 => intro _ j e _ h; simp [ws] at h
  | h1 l d ih =>
    intro hp j e hj he
    rw [ahead_snoc] at hj
    rw [pend_snoc] at hp
    rw [ws_append] at he
    cases hd : d.sync
    · rw [hd] at hp hj
      simp only [Bool.false_eq_true, if_false] at hp hj
      have hws : ws [d] = [d] := by simp [ws, hd]
      rw [hws] at he
      by_cases hlt : j < (ws l).length
      · rw [List.getElem?_append_left hlt] at he
        exact ih (by omega) j e hj he
      · rw [List.getElem?_append_right (by omega)] at he
        have h0 : j - (ws l).length = 0 := by
          rcases Nat.eq_zero_or_pos (j - (ws l).length) with h | h
          · exact h
          · rw [List.getElem?_eq_none (by simp; omega)] at he; cases he
        rw [h0] at he
        simp only [List.getElem?_cons_zero, Option.some.injEq] at he
        subst he
        cases hs : d.sure
        · rw [hs] at hp; simp at hp
        · rfl
    · rw [hd] at hj
      simp only [if_true] at hj
      have hws : ws [d] = [] := by simp [ws, hd]
      rw [hws, List.append_nil] at he
      have := (List.getElem?_eq_some_iff.1 he).1
      rw [ws_len] at this
      omega

/-- What the last Sync that was kept says: no more than is so; and what lies between is sure. -/
theorem last_ahead (l : List AE) : lastS (syOf l) ≤ ahead l ∧ ∀ j e, lastS (syOf l) ≤ j → j < ahead l → (ws l)[j]? = some e → e.sure = true := by
  induction l using rev_ind with
  | h0 => exact ⟨Nat.le_refl _, fun j e _ h => absurd h (Nat.not_lt_zero _)⟩
  | h1 l d ih =>
    have hal := ahead_le l
    rw [syOf_snoc, ahead_snoc, ws_append]
    cases hd : d.sync
    · simp only [Bool.false_eq_true, false_and, if_false]
      refine ⟨ih.1, fun j e h1 h2 he => ih.2 j e h1 h2 ?_⟩
      rw [List.getElem?_append_left (by rw [ws_len]; omega)] at he
      exact he
    · have hws : ws [d] = [] := by simp [ws, hd]
      rw [hws, List.append_nil]
      simp only [true_and, if_true]
      by_cases hp : 0 < pend l
      · rw [if_pos hp, lastS_snoc]
        exact ⟨Nat.le_refl _, fun j e h1 h2 => by omega⟩
      · rw [if_neg hp]
        refine ⟨by omega, fun j e h1 h2 he => ?_⟩
        by_cases hj : j < ahead l
        · exact ih.2 j e h1 hj he
        · exact pend_none l (by omega) j e (by omega) he

/-- What the program does: over the writes, by their numbers. -/
def clo (keep : Nat → Bool) (safe : Nat) : Nat → Nat → List AE → (Nat → Nat → Nat) → Nat → Nat → Nat
  | _, _, [], f => f
  | i, k, e :: l, f => if e.sure || decide (i < safe) then clo keep safe (i + 1) k l (upF f e) else clo keep safe (i + 1) (k + 1) l (if keep k then upF f e else f)

theorem clo_shift (keep : Nat → Bool) (safe : Nat) (l : List AE) : ∀ i k f, clo keep (1 + safe) (i + 1) k l f = clo keep safe i k l f := by
  induction l with
  | nil => intro i k f; rfl
  | cons e l ih =>
    intro i k f
    show (if e.sure || decide (i + 1 < 1 + safe) then _ else _) = (if e.sure || decide (i < safe) then _ else _)
    rw [ih, ih]
    have : decide (i + 1 < 1 + safe) = decide (i < safe) := by simp; omega
    rw [this]

theorem clo_zero (keep : Nat → Bool) (l : List AE) : ∀ i i' k f, clo keep 0 i k l f = clo keep 0 i' k l f := by
  induction l with
  | nil => intro i i' k f; rfl
  | cons e l ih =>
    intro i i' k f
    show (if e.sure || decide (i < 0) then _ else _) = (if e.sure || decide (i' < 0) then _ else _)
    rw [ih (i + 1) (i' + 1), ih (i + 1) (i' + 1)]
    have h1 : decide (i < 0) = false := by simp
    have h2 : decide (i' < 0) = false := by simp
    rw [h1, h2]

/-- What is left, by the numbers of the writes. -/
theorem left_clo (keep : Nat → Bool) (l : List AE) : ∀ k f, left keep k l f = clo keep (ahead l) 0 k (ws l) f := by
  induction l with
  | nil => intro k f; rfl
  | cons e l ih =>
    intro k f
    show (if e.sync then left keep k l f else if e.sure || l.any (·.sync) then left keep k l (upF f e) else left keep (k + 1) l (if keep k then upF f e else f)) = _
    have ha : ahead (e :: l) = if e.sync then ahead l else if l.any (·.sync) then 1 + ahead l else 0 := rfl
    cases he : e.sync
    · have hw : ws (e :: l) = e :: ws l := by simp [ws, he]
      rw [hw, ha, he]
      simp only [Bool.false_eq_true, if_false]
      show _ = (if e.sure || decide (0 < if l.any (·.sync) then 1 + ahead l else 0) then clo keep _ (0 + 1) k (ws l) (upF f e) else clo keep _ (0 + 1) (k + 1) (ws l) (if keep k then upF f e else f))
      cases hn : l.any (·.sync)
      · simp only [Bool.false_eq_true, if_false, Nat.lt_irrefl, decide_false]
        rw [ih, ih, ahead_none l hn, clo_zero keep (ws l) (0 + 1) 0, clo_zero keep (ws l) (0 + 1) 0]
      · simp only [if_true, Bool.or_true]
        rw [if_pos (by simp; omega), clo_shift, ih]
    · have hw : ws (e :: l) = ws l := by simp [ws, he]
      rw [hw, ha, he]
      simp only [if_true]
      exact ih k f

theorem clo_congr (keep : Nat → Bool) (s1 s2 : Nat) (l : List AE) : ∀ i k f, (∀ j e, l[j]? = some e → (decide (i + j < s1) = decide (i + j < s2)) ∨ e.sure = true) → clo keep s1 i k l f = clo keep s2 i k l f := by
  induction l with
  | nil => intro i k f _; rfl
  | cons e l ih =>
    intro i k f h
    have h' : ∀ j e', l[j]? = some e' → (decide (i + 1 + j < s1) = decide (i + 1 + j < s2)) ∨ e'.sure = true := fun j e' he => by
      have := h (j + 1) e' (by simpa using he)
      rw [show i + (j + 1) = i + 1 + j by omega] at this
      exact this
    show (if e.sure || decide (i < s1) then _ else _) = (if e.sure || decide (i < s2) then _ else _)
    rw [ih _ _ _ h', ih _ _ _ h']
    rcases h 0 e rfl with h0 | h0
    · rw [Nat.add_zero] at h0
      rw [h0]
    · rw [h0]
      rfl

/-- What is left, as the program has it. -/
theorem left_prog (keep : Nat → Bool) (l : List AE) (f : Nat → Nat → Nat) : left keep 0 l f = clo keep (lastS (syOf l)) 0 0 (ws l) f := by
  rw [left_clo]
  obtain ⟨h1, h2⟩ := last_ahead l
  apply clo_congr
  intro j e he
  rw [Nat.zero_add]
  by_cases ha : lastS (syOf l) ≤ j
  · by_cases hb : j < ahead l
    · exact .inr (h2 j e ha hb he)
    · exact .inl (by simp; omega)
  · exact .inl (by simp; omega)

/-! Parts of what came -/

theorem sy_from (l : List AE) : ∀ nw pd x, x ∈ syG nw pd l → (∃ e ∈ l, e.sync = true ∧ e.mo = x.2) ∧ nw ≤ x.1 ∧ x.1 ≤ nw + wrs l := by
  induction l with
  | nil => intro nw pd x h; cases h
  | cons e l ih =>
    intro nw pd x h
    rw [wrs_cons]
    unfold syG at h
    cases he : e.sync
    · rw [he] at h
      simp only [Bool.false_eq_true, if_false] at h ⊢
      obtain ⟨⟨d, hd, h1⟩, h2, h3⟩ := ih _ _ x h
      exact ⟨⟨d, by simp [hd], h1⟩, by omega, by omega⟩
    · rw [he] at h
      simp only [if_true] at h ⊢
      have key : x ∈ syG nw 0 l → (∃ d ∈ e :: l, d.sync = true ∧ d.mo = x.2) ∧ nw ≤ x.1 ∧ x.1 ≤ nw + (0 + wrs l) := fun h => by
        obtain ⟨⟨d, hd, h1⟩, h2, h3⟩ := ih _ _ x h
        exact ⟨⟨d, by simp [hd], h1⟩, by omega, by omega⟩
      split at h
      · rcases List.mem_cons.1 h with rfl | h
        · exact ⟨⟨e, by simp, he, rfl⟩, by simp, by simp⟩
        · exact key h
      · exact key h

/-- Those that some have come of. -/
theorem sy_part (l m : List AE) : ∃ r, syOf (l ++ m) = syOf l ++ r ∧ (∀ x ∈ r, (∃ e ∈ m, e.sync = true ∧ e.mo = x.2) ∧ wrs l ≤ x.1) ∧ ∀ x ∈ syOf l, ∃ e ∈ l, e.sync = true ∧ e.mo = x.2 := by
  refine ⟨syG (0 + wrs l) (pdG 0 l) m, syG_append l m 0 0, fun x hx => ?_, fun x hx => (sy_from l 0 0 x hx).1⟩
  obtain ⟨h1, h2, _⟩ := sy_from m _ _ x hx
  exact ⟨h1, by omega⟩

theorem filter_part {p : Nat × Int → Bool} (l r : List (Nat × Int)) (hl : ∀ x ∈ l, p x = true) (hr : ∀ x ∈ r, p x = false) : (l ++ r).filter p = l := by
  rw [List.filter_append, List.filter_eq_self.2 hl, List.filter_eq_nil_iff.2 (fun x hx => by rw [hr x hx]; simp), List.append_nil]

theorem upTo_split (l : List AE) : ∀ n, ∃ m, l = upTo n l ++ m := by
  induction l with
  | nil => intro n; exact ⟨[], by rw [upTo_nil]; rfl⟩
  | cons e l ih =>
    intro n
    cases n with
    | zero => exact ⟨e :: l, rfl⟩
    | succ n =>
      obtain ⟨m, hm⟩ := ih (if e.sync then n + 1 else n)
      exact ⟨m, by show e :: l = e :: upTo (if e.sync then n + 1 else n) l ++ m; rw [List.cons_append, ← hm]⟩

theorem upTo_count (l : List AE) : ∀ n, n ≤ wrs l → wrs (upTo n l) = n := by
  induction l with
  | nil => intro n h; rw [upTo_nil]; simp [wrs] at h ⊢; omega
  | cons e l ih =>
    intro n h
    cases n with
    | zero => rfl
    | succ n =>
      show wrs (e :: upTo (if e.sync then n + 1 else n) l) = n + 1
      rw [wrs_cons] at h ⊢
      cases he : e.sync
      · rw [he] at h
        simp only [Bool.false_eq_true, if_false] at h ⊢
        rw [ih n (by omega)]
        omega
      · rw [he] at h
        simp only [if_true] at h ⊢
        rw [ih (n + 1) (by omega)]
        omega

/-- The Syncs up to the n-th write have less than n writes ahead. -/
theorem upTo_sy (l : List AE) : ∀ n nw pd x, n ≤ wrs l → x ∈ syG nw pd (upTo n l) → x.1 < nw + n := by
  induction l with
  | nil => intro n nw pd x _ h; rw [upTo_nil] at h; cases h
  | cons e l ih =>
    intro n nw pd x hn h
    cases n with
    | zero => cases h
    | succ n =>
      rw [wrs_cons] at hn
      have h' : x ∈ syG nw pd (e :: upTo (if e.sync then n + 1 else n) l) := h
      unfold syG at h'
      cases he : e.sync
      · rw [he] at h' hn
        simp only [Bool.false_eq_true, if_false] at h' hn
        have := ih n _ _ x (by omega) h'
        omega
      · rw [he] at h' hn
        simp only [if_true] at h' hn
        split at h'
        · rcases List.mem_cons.1 h' with rfl | h'
          · simp
          · exact ih (n + 1) _ _ x (by omega) h'
        · exact ih (n + 1) _ _ x (by omega) h'

theorem take_ws (l m : List AE) : (ws (l ++ m)).take (wrs l) = ws l := by
  rw [ws_append, ← ws_len, List.take_left]

/-- Cut behind the n-th write. -/
theorem at_prog (keep : Nat → Bool) (l : List AE) (n : Nat) (hn : n ≤ wrs l) (f : Nat → Nat → Nat) : left keep 0 (upTo n l) f = clo keep (lastS ((syOf l).filter fun x => decide (x.1 < n))) 0 0 ((ws l).take n) f := by
  obtain ⟨m, hm⟩ := upTo_split l n
  have hc := upTo_count l n hn
  obtain ⟨r, hr, h2, h3⟩ := sy_part (upTo n l) m
  rw [← hm] at hr
  rw [left_prog]
  have hf : (syOf l).filter (fun x => decide (x.1 < n)) = syOf (upTo n l) := by
    rw [hr]
    refine filter_part _ _ (fun x hx => ?_) (fun x hx => ?_)
    · have := upTo_sy l n 0 0 x hn hx
      simp
      omega
    · have := (h2 x hx).2
      simp
      omega
  rw [hf]
  have ht := take_ws (upTo n l) m
  rw [← hm, hc] at ht
  rw [ht]

/-- Is an entry there at the moment m? -/
def kp (m : Int) (e : AE) : Bool := if e.sync then decide (e.mo < m) else decide (e.mo ≤ m)

/-- Moments go up: who is there at a moment has all ahead of him there. -/
def Rise (l : List AE) : Prop := l.Pairwise fun e e' => ∀ m : Int, 0 ≤ m → kp m e' = true → kp m e = true

theorem rise_split (m : Int) (hm : 0 ≤ m) (l : List AE) (h : Rise l) : ∃ r, l = momL m l ++ r ∧ (∀ e ∈ r, kp m e = false) ∧ ∀ e ∈ momL m l, kp m e = true := by
  induction l with
  | nil => exact ⟨[], rfl, by simp, by simp [momL]⟩
  | cons e l ih =>
    obtain ⟨h1, h2⟩ := List.pairwise_cons.1 h
    cases he : kp m e
    · have hn : ∀ e' ∈ l, kp m e' = false := fun e' he' => by
        cases hk : kp m e'
        · rfl
        · rw [h1 e' he' m hm hk] at he; cases he
      have h0 : momL m (e :: l) = [] := by
        unfold momL
        rw [List.filter_eq_nil_iff]
        intro d hd
        rcases List.mem_cons.1 hd with rfl | hd
        · show ¬ kp m d = true
          rw [he]; simp
        · show ¬ kp m d = true
          rw [hn d hd]; simp
      rw [h0]
      refine ⟨e :: l, rfl, fun d hd => ?_, by simp⟩
      rcases List.mem_cons.1 hd with rfl | hd
      · exact he
      · exact hn d hd
    · obtain ⟨r, h3, h4, h5⟩ := ih h2
      have h0 : momL m (e :: l) = e :: momL m l := by
        unfold momL
        rw [List.filter_cons_of_pos]
        exact he
      rw [h0]
      refine ⟨r, by rw [List.cons_append, ← h3], h4, fun d hd => ?_⟩
      rcases List.mem_cons.1 hd with rfl | hd
      · exact he
      · exact h5 d hd

/-- Cut behind the moment m. -/
theorem mo_prog (keep : Nat → Bool) (l : List AE) (m : Int) (hm : 0 ≤ m) (h : Rise l) (f : Nat → Nat → Nat) : left keep 0 (momL m l) f = clo keep (lastS ((syOf l).filter fun x => decide (x.2 < m))) 0 0 ((ws l).take (wrs (momL m l))) f := by
  obtain ⟨r, hr, h1, h2⟩ := rise_split m hm l h
  obtain ⟨q, hq, h3, h4⟩ := sy_part (momL m l) r
  rw [← hr] at hq
  rw [left_prog]
  have hf : (syOf l).filter (fun x => decide (x.2 < m)) = syOf (momL m l) := by
    rw [hq]
    refine filter_part _ _ (fun x hx => ?_) (fun x hx => ?_)
    · obtain ⟨e, he, hs, ho⟩ := h4 x hx
      have := h2 e he
      unfold kp at this
      rw [if_pos hs, ho] at this
      exact this
    · obtain ⟨e, he, hs, ho⟩ := (h3 x hx).1
      have := h1 e he
      unfold kp at this
      rw [if_pos hs, ho] at this
      exact this
  rw [hf]
  have ht := take_ws (momL m l) r
  rw [← hr] at ht
  rw [ht]

/-- How many writes there are up to a moment: the first that is behind it ends them. -/
theorem mo_first (l : List AE) (m : Int) (hm : 0 ≤ m) (h : Rise l) : ∀ j e, (ws l)[j]? = some e → (e.mo ≤ m ↔ j < wrs (momL m l)) := by
  obtain ⟨r, hr, h1, h2⟩ := rise_split m hm l h
  intro j e he
  have hw : ws l = ws (momL m l) ++ ws r := by rw [← ws_append, ← hr]
  rw [hw] at he
  have hk : ∀ L : List AE, e ∈ ws L → e ∈ L ∧ e.sync = false := fun L hL => by
    have := List.mem_filter.1 hL
    exact ⟨this.1, by simpa using this.2⟩
  rw [← ws_len]
  by_cases hj : j < (ws (momL m l)).length
  · rw [List.getElem?_append_left hj] at he
    obtain ⟨hm1, hs⟩ := hk _ (List.mem_of_getElem? he)
    have := h2 e hm1
    unfold kp at this
    rw [hs] at this
    simp at this
    exact ⟨fun _ => hj, fun _ => this⟩
  · rw [List.getElem?_append_right (by omega)] at he
    obtain ⟨hm1, hs⟩ := hk _ (List.mem_of_getElem? he)
    have := h1 e hm1
    unfold kp at this
    rw [hs] at this
    simp at this
    exact ⟨fun h => by omega, fun h => absurd h hj⟩

theorem rise_snoc (l : List AE) (h : Rise l) (e : AE) (c : Int) (hc : ∀ d ∈ l, d.mo ≤ c) (he : if e.sync then c ≤ e.mo else c + 1 ≤ e.mo) : Rise (l ++ [e]) := by
  unfold Rise
  rw [List.pairwise_append]
  refine ⟨h, by simp, fun d hd e' he' => ?_⟩
  rw [List.mem_singleton] at he'
  subst he'
  intro m hm hk
  have h1 := hc d hd
  unfold kp at hk ⊢
  cases hs : e'.sync
  · rw [hs] at hk he
    simp at hk he
    cases hd : d.sync <;> simp <;> omega
  · rw [hs] at hk he
    simp at hk he
    cases hd : d.sync <;> simp <;> omega

theorem anew_rise (l : List AE) : Rise (l.map anewE) := by
  unfold Rise
  rw [List.pairwise_map]
  refine List.pairwise_of_forall (fun e e' => ?_)
  intro m hm _
  unfold kp anewE
  cases e.sync <;> simp <;> omega

theorem anew_ws (l : List AE) : ws (l.map anewE) = (ws l).map anewE := by
  induction l with
  | nil => rfl
  | cons e l ih =>
    unfold ws at ih ⊢
    have : (anewE e).sync = e.sync := rfl
    rw [List.map_cons]
    cases he : e.sync
    · rw [List.filter_cons_of_pos (by rw [this, he]; rfl), List.filter_cons_of_pos (by rw [he]; rfl), List.map_cons, ih]
    · rw [List.filter_cons_of_neg (by rw [this, he]; simp), List.filter_cons_of_neg (by rw [he]; simp), ih]

theorem anew_sy (l : List AE) : ∀ nw pd, syG nw pd (l.map anewE) = (syG nw pd l).map fun x => (x.1, -1) := by
  induction l with
  | nil => intro nw pd; rfl
  | cons e l ih =>
    intro nw pd
    show (if e.sync then (if 0 < pd then (nw, if e.sync then -1 else 0) :: syG nw 0 (l.map anewE) else syG nw 0 (l.map anewE)) else syG (nw + 1) (if e.sure then pd else pd + 1) (l.map anewE)) = ((if e.sync then (if 0 < pd then (nw, e.mo) :: syG nw 0 l else syG nw 0 l) else syG (nw + 1) (if e.sure then pd else pd + 1) l)).map _
    cases he : e.sync
    · simp only [Bool.false_eq_true, if_false]
      exact ih _ _
    · simp only [if_true]
      split
      · rw [ih, List.map_cons]
      · exact ih _ _

theorem anew_pend (l : List AE) : pend (l.map anewE) = pend l := by
  rw [← pdG_pend, ← pdG_pend]
  generalize 0 = pd
  induction l generalizing pd with
  | nil => rfl
  | cons e l ih => exact ih _

theorem anew_holds (s : DS) : holds (anewD s) = holds s := by
  unfold holds anewD
  show (s.log.map anewE).foldl upF s.fst = _
  rw [List.foldl_map]
  rfl
end Go.Proofs.YtoiaclmfljoomaaDoor

/- How a device of the program lies in memory. -/
namespace Go.Proofs.YtoiaclmfljoomaaDoor
open Go.ChangeShapes Go.WideShapes Go.ChangeAt Go.RowKit
set_option linter.unusedVariables false

/-- The cells of a write, of a Sync. -/
def wcells (e : AE) : List Value := .int .i64 (e.i : Nat) :: (bl e.b 64 ++ [.int .i64 e.mo, .bool e.sure])
def scells (x : Nat × Int) : List Value := [.int .i64 (x.1 : Nat), .int .i64 x.2]
def Wc (l : List AE) : List Value := (ws l).flatMap wcells
def Sc (l : List AE) : List Value := (syOf l).flatMap scells

theorem wcells_len (e : AE) : (wcells e).length = 67 := by simp [wcells, bl]
theorem wcells_mo (e : AE) : (wcells e)[65]? = some (.int .i64 e.mo) := by
  unfold wcells
  rw [show (65 : Nat) = 64 + 1 from rfl, List.getElem?_cons_succ, List.getElem?_append_right (by simp [bl])]
  simp [bl]

theorem wcells_su (e : AE) : (wcells e)[66]? = some (.bool e.sure) := by
  unfold wcells
  rw [show (66 : Nat) = 65 + 1 from rfl, List.getElem?_cons_succ, List.getElem?_append_right (by simp [bl])]
  simp [bl]

theorem wcells_i (e : AE) : (wcells e)[0]? = some (.int .i64 (e.i : Nat)) := rfl

theorem flat_len {α : Type} (g : α → List Value) (k : Nat) (hg : ∀ a, (g a).length = k) (l : List α) : (l.flatMap g).length = l.length * k := by
  induction l with
  | nil => simp
  | cons a l ih => rw [List.flatMap_cons, List.length_append, hg, ih, List.length_cons, Nat.succ_mul]; omega

theorem flat_at {α : Type} (g : α → List Value) (k : Nat) (hg : ∀ a, (g a).length = k) (l : List α) : ∀ (i j : Nat) (a : α), l[i]? = some a → j < k → (l.flatMap g)[i * k + j]? = (g a)[j]? := by
  induction l with
  | nil => intro i j a h; simp at h
  | cons b l ih =>
    intro i j a h hj
    rw [List.flatMap_cons]
    cases i with
    | zero =>
      simp only [List.getElem?_cons_zero, Option.some.injEq] at h
      subst h
      rw [Nat.zero_mul, Nat.zero_add, List.getElem?_append_left (by rw [hg]; exact hj)]
    | succ i =>
      rw [List.getElem?_append_right (by rw [hg, Nat.succ_mul]; omega), hg]
      rw [show (i + 1) * k + j - k = i * k + j by rw [Nat.succ_mul]; omega]
      exact ih i j a (by simpa using h) hj

theorem Wc_at (l : List AE) (i j : Nat) (e : AE) (h : (ws l)[i]? = some e) (hj : j < 67) : (Wc l)[i * 67 + j]? = (wcells e)[j]? := flat_at wcells 67 wcells_len (ws l) i j e h hj
theorem Sc_at (l : List AE) (i j : Nat) (x : Nat × Int) (h : (syOf l)[i]? = some x) (hj : j < 2) : (Sc l)[i * 2 + j]? = (scells x)[j]? := flat_at scells 2 (fun _ => rfl) (syOf l) i j x h hj

theorem Tryd.size102 : (Tryd.prog.info? 102).map (·.size) = some 64 := by kernel_rfl
theorem Tryd.size115 : (Tryd.prog.info? 115).map (·.size) = some 67 := by kernel_rfl
theorem Tryd.size80 : (Tryd.prog.info? 80).map (·.size) = some 2 := by kernel_rfl
theorem Tryd.size77 : (Tryd.prog.info? 77).map (·.size) = some 9 := by kernel_rfl

def zsec : Value := .agg (cellsN .u8 64 fun _ => 0)
theorem zero_sec (w : World) : (zeroValue 102).run Tryd.prog w = .ok zsec w := by kernel_rfl
theorem zero_unit (w : World) : (zeroValue 86).run Tryd.prog w = .ok (.agg #[]) w := by kernel_rfl

/-- Block b is a map of sectors: as far as n goes it tells g. -/
def SecMap (w : World) (b n : Nat) (g : Nat → Nat → Nat) : Prop := ∃ f, MapIs w b f ∧ ∀ i, i < n → (f (i : Nat)).getD zsec = .agg (cellsN .u8 64 (g i))

/-- Block b is the set of those that are bad. -/
def BadMap (w : World) (b n : Nat) (g : Nat → Bool) : Prop := ∃ f, MapIs w b f ∧ ∀ a : Int, (f a).isSome = (decide (0 ≤ a ∧ a < n) && g a.toNat) ∧ (f a).getD (.agg #[]) = .agg #[]

theorem SecMap.lt {w : World} {b n : Nat} {g : Nat → Nat → Nat} (h : SecMap w b n g) : b < w.heap.size := by obtain ⟨f, h, _⟩ := h; exact h.lt
theorem BadMap.lt {w : World} {b n : Nat} {g : Nat → Bool} (h : BadMap w b n g) : b < w.heap.size := by obtain ⟨f, h, _⟩ := h; exact h.lt
theorem SecMap.kept {w w' : World} {b n : Nat} {g : Nat → Nat → Nat} (h : SecMap w b n g) (hb : w'.heap[b]? = w.heap[b]?) : SecMap w' b n g := by obtain ⟨f, h, r⟩ := h; exact ⟨f, h.kept hb, r⟩
theorem BadMap.kept {w w' : World} {b n : Nat} {g : Nat → Bool} (h : BadMap w b n g) (hb : w'.heap[b]? = w.heap[b]?) : BadMap w' b n g := by obtain ⟨f, h, r⟩ := h; exact ⟨f, h.kept hb, r⟩
theorem SecMap.below {w w' : World} {b n B : Nat} {g : Nat → Nat → Nat} (h : SecMap w b n g) (hb : Below B w w') (hB : b < B) : SecMap w' b n g := h.kept (hb.block b hB)
theorem SecMap.congr {w : World} {b n : Nat} {g g' : Nat → Nat → Nat} (h : SecMap w b n g) (hg : ∀ i, i < n → ∀ j, j < 64 → g i j = g' i j) : SecMap w b n g' := by
  obtain ⟨f, h, r⟩ := h
  exact ⟨f, h, fun i hi => by rw [r i hi, cellsN_congr .u8 64 (g i) (g' i) (hg i hi)]⟩

theorem SecMap.made (w : World) (n : Nat) : SecMap (w.alloc (.map #[] 0)) w.heap.size n (fun _ _ => 0) := ⟨_, MapIs.made w, fun _ _ => rfl⟩
theorem BadMap.made (w : World) (n : Nat) : BadMap (w.alloc (.map #[] 0)) w.heap.size n (fun _ => false) := ⟨_, MapIs.made w, fun _ => ⟨by simp, rfl⟩⟩

/-- The cells of a device. -/
def dcells (n : Nat) (dead : Bool) (bb bs bc : Nat) (vw vs : Value) (pd c : Nat) : Array Value :=
  #[.int .i64 (n : Nat), .bool dead, .map (some bb), .map (some bs), .map (some bc), vw, vs, .int .i64 (pd : Nat), .pointer (some ⟨c, 0, none⟩)]

/-- All blocks that a device hangs on. -/
def Foot (p bb bs bc : Nat) (vw vs : Value) (k : Nat) : Prop := k = p ∨ k = bb ∨ k = bs ∨ k = bc ∨ vw.ownBlock = some k ∨ vs.ownBlock = some k

structure RepAt (w : World) (p : Nat) (s : DS) (c bb bs bc : Nat) (vw vs : Value) : Prop where
  has : Has w p 77 (dcells s.n s.dead bb bs bc vw vs (pend s.log) c)
  n1 : 1 ≤ s.n
  n2 : s.n ≤ 2048
  bad : BadMap w bb s.n s.bad
  fst : SecMap w bs s.n s.fst
  now : SecMap w bc s.n (holds s)
  wr : w.ownsRow 0 115 67 vw (wrs s.log) (Wc s.log)
  sy : w.ownsRow 0 80 2 vs (syOf s.log).length (Sc s.log)
  d1 : bb ≠ bs
  d2 : bb ≠ bc
  d3 : bs ≠ bc
  rise : Rise s.log

def theRep : DevRep where
  R w p s c F := ∃ bb bs bc vw vs, RepAt w p s c bb bs bc vw vs ∧ ∀ k, F k ↔ Foot p bb bs bc vw vs k
  C w c m := Has w c 104 #[.int .i64 (m : Nat)]

theorem own_kept {w w' : World} {e size n : Nat} {v : Value} {xs : List Value} (h : w.ownsRow 0 e size v n xs) (hb : ∀ g, v.ownBlock = some g → w'.heap[g]? = w.heap[g]?) : w'.ownsRow 0 e size v n xs := by
  refine ⟨h.1, ?_⟩
  rcases h.2 with h0 | ⟨g, cap, cur, hv, h1, hg, r⟩
  · exact .inl h0
  · exact .inr ⟨g, cap, cur, hv, h1, (hb g (by rw [hv]; rfl)).trans hg, r⟩

theorem own_block {w : World} {e size n : Nat} {v : Value} {xs : List Value} (h : w.ownsRow 0 e size v n xs) {g : Nat} (hg : v.ownBlock = some g) : ∃ cur, w.heap[g]? = some (.cells cur e (0, 0)) := by
  rcases h.2 with ⟨rfl, _⟩ | ⟨g', cap, cur, rfl, h1, hh, r⟩
  · cases hg
  · injection hg with hg
    subst hg
    exact ⟨cur, hh⟩

/-- A row of the call's or of a device's own, as a slice. -/
theorem own_slice {w : World} {e size n : Nat} {v : Value} {xs : List Value} (h : w.ownsRow 0 e size v n xs) : ∃ a cap, v = .slice a n cap ∧ n ≤ cap ∧ (a = none → n = 0 ∧ cap = 0) ∧ (∀ ad, a = some ad → ∃ g, ad = ⟨g, 0, none⟩) ∧ ∀ g, a = some ⟨g, 0, none⟩ → ∀ j v, xs[j]? = some v → w.cell? ⟨g, j, none⟩ = some v := by
  rcases h.2 with ⟨rfl, rfl⟩ | ⟨g, cap, cur, rfl, hb, hg, hn, hm, hs, ht⟩
  · exact ⟨none, 0, rfl, Nat.le_refl _, fun _ => ⟨rfl, rfl⟩, (fun _ h => by cases h), (fun g h => by cases h)⟩
  · refine ⟨some ⟨g, 0, none⟩, cap, rfl, hn, (fun e => by cases e), (fun ad q => ⟨g, (Option.some.inj q).symm⟩), fun g' q j v hv => ?_⟩
    injection q with q
    injection q with q
    subst q
    have hj : j < n * size := by rw [← h.1]; exact (List.getElem?_eq_some_iff.1 hv).1
    rw [cell_of_row w g j cur e (0, 0) hg, ← Array.getElem?_toList]
    rw [← ht, List.getElem?_take_of_lt hj] at hv
    exact hv

variable {w w' : World} {p c bb bs bc : Nat} {s : DS} {vw vs : Value}

theorem RepAt.lt (h : RepAt w p s c bb bs bc vw vs) (k : Nat) (hk : Foot p bb bs bc vw vs k) : k < w.heap.size := by
  rcases hk with rfl | rfl | rfl | rfl | hk | hk
  · exact h.has.lt
  · exact h.bad.lt
  · exact h.fst.lt
  · exact h.now.lt
  · exact (h.wr.lt k hk).2
  · exact (h.sy.lt k hk).2

theorem RepAt.kept (h : RepAt w p s c bb bs bc vw vs) (hb : ∀ k, Foot p bb bs bc vw vs k → w'.heap[k]? = w.heap[k]?) : RepAt w' p s c bb bs bc vw vs :=
  ⟨(hb p (.inl rfl)).trans h.has, h.n1, h.n2, h.bad.kept (hb bb (.inr (.inl rfl))), h.fst.kept (hb bs (.inr (.inr (.inl rfl)))), h.now.kept (hb bc (.inr (.inr (.inr (.inl rfl))))),
    own_kept h.wr (fun g hg => hb g (.inr (.inr (.inr (.inr (.inl hg)))))), own_kept h.sy (fun g hg => hb g (.inr (.inr (.inr (.inr (.inr hg)))))), h.d1, h.d2, h.d3, h.rise⟩

/-! Blocks that are none of one another. -/
theorem cells_ne {g g' t t' : Nat} {cs cs' : Array Value} {fr fr' : Nat × Nat} (h : w.heap[g]? = some (.cells cs t fr)) (h' : w.heap[g']? = some (.cells cs' t' fr')) (hne : t ≠ t') : g ≠ g' := by
  rintro rfl
  rw [h] at h'
  injection h' with h'
  injection h' with _ h'
  exact hne h'

theorem BadMap.ne {b n g t : Nat} {f : Nat → Bool} {cs : Array Value} {fr : Nat × Nat} (h : BadMap w b n f) (hg : w.heap[g]? = some (.cells cs t fr)) : b ≠ g := by obtain ⟨f, h, _⟩ := h; exact h.ne hg
theorem SecMap.ne {b n g t : Nat} {f : Nat → Nat → Nat} {cs : Array Value} {fr : Nat × Nat} (h : SecMap w b n f) (hg : w.heap[g]? = some (.cells cs t fr)) : b ≠ g := by obtain ⟨f, h, _⟩ := h; exact h.ne hg

theorem RepAt.wr_p (h : RepAt w p s c bb bs bc vw vs) : vw.ownBlock ≠ some p := fun hg => by
  obtain ⟨cur, hc⟩ := own_block h.wr hg
  exact cells_ne hc h.has (by decide) rfl
theorem RepAt.sy_p (h : RepAt w p s c bb bs bc vw vs) : vs.ownBlock ≠ some p := fun hg => by
  obtain ⟨cur, hc⟩ := own_block h.sy hg
  exact cells_ne hc h.has (by decide) rfl
theorem RepAt.wr_sy (h : RepAt w p s c bb bs bc vw vs) {g : Nat} (h1 : vw.ownBlock = some g) : vs.ownBlock ≠ some g := fun hg => by
  obtain ⟨cur, hc⟩ := own_block h.wr h1
  obtain ⟨cur', hc'⟩ := own_block h.sy hg
  exact cells_ne hc hc' (by decide) rfl
theorem RepAt.wr_bb (h : RepAt w p s c bb bs bc vw vs) : vw.ownBlock ≠ some bb := fun hg => by obtain ⟨cur, hc⟩ := own_block h.wr hg; exact h.bad.ne hc rfl
theorem RepAt.wr_bs (h : RepAt w p s c bb bs bc vw vs) : vw.ownBlock ≠ some bs := fun hg => by obtain ⟨cur, hc⟩ := own_block h.wr hg; exact h.fst.ne hc rfl
theorem RepAt.wr_bc (h : RepAt w p s c bb bs bc vw vs) : vw.ownBlock ≠ some bc := fun hg => by obtain ⟨cur, hc⟩ := own_block h.wr hg; exact h.now.ne hc rfl
theorem RepAt.sy_bb (h : RepAt w p s c bb bs bc vw vs) : vs.ownBlock ≠ some bb := fun hg => by obtain ⟨cur, hc⟩ := own_block h.sy hg; exact h.bad.ne hc rfl
theorem RepAt.sy_bs (h : RepAt w p s c bb bs bc vw vs) : vs.ownBlock ≠ some bs := fun hg => by obtain ⟨cur, hc⟩ := own_block h.sy hg; exact h.fst.ne hc rfl
theorem RepAt.sy_bc (h : RepAt w p s c bb bs bc vw vs) : vs.ownBlock ≠ some bc := fun hg => by obtain ⟨cur, hc⟩ := own_block h.sy hg; exact h.now.ne hc rfl
theorem RepAt.bb_p (h : RepAt w p s c bb bs bc vw vs) : bb ≠ p := h.bad.ne h.has
theorem RepAt.bs_p (h : RepAt w p s c bb bs bc vw vs) : bs ≠ p := h.fst.ne h.has
theorem RepAt.bc_p (h : RepAt w p s c bb bs bc vw vs) : bc ≠ p := h.now.ne h.has

/-- The cells, one by one. -/
theorem RepAt.cell (h : RepAt w p s c bb bs bc vw vs) (j : Nat) : w.cell? ⟨p, j, none⟩ = (dcells s.n s.dead bb bs bc vw vs (pend s.log) c)[j]? := h.has.cell j

theorem Has.setV {w : World} {g t : Nat} {cs : Array Value} (h : Has w g t cs) (j : Nat) (v : Value) : Has (w.setCell ⟨g, j, none⟩ v) g t (cs.setIfInBounds j v) := by
  have h' : w.heap[g]? = some (.cells cs t (0, 0)) := h
  show (w.setCell ⟨g, j, none⟩ _).heap[g]? = _
  simp only [World.setCell, Array.getElem?_modify, h', if_pos, Option.map_some]
  rfl

theorem only_setCell (w : World) (g j : Nat) (v : Value) : Only (fun k => k = g) w (w.setCell ⟨g, j, none⟩ v) :=
  ⟨rfl, rfl, rfl, by simp [World.setCell], fun k hk hn => Below.heap_setCell w _ v k hn⟩
end Go.Proofs.YtoiaclmfljoomaaDoor

/- device: what only tells; refusals. -/
namespace Go.Proofs.YtoiaclmfljoomaaDoor
open Go.ChangeShapes Go.WideShapes Go.ChangeAt Go.RowKit
set_option linter.unusedVariables false

variable {w w' : World} {p c bb bs bc : Nat} {s : DS} {vw vs : Value}

theorem below_self (w : World) : Below w.heap.size w w := Below.refl _ _

theorem pending_r (h : RepAt w p s c bb bs bc vw vs) : Calls Tryd.prog 56 #[ptr p] w fun e w' => e = .returned (.int .i64 (pend s.log : Nat)) ∧ w' = w := by
  have h0 : w.cell? ⟨p, 7, none⟩ = some (.int .i64 (pend s.log : Nat)) := h.cell 7
  clear h
  go_enter Tryd.func56, Tryd.ntmps56
  go_wp2
  go_ret
  exact ⟨rfl, rfl⟩

theorem dead_r (h : RepAt w p s c bb bs bc vw vs) : Calls Tryd.prog 16 #[ptr p] w fun e w' => e = .returned (.bool s.dead) ∧ w' = w := by
  have h0 : w.cell? ⟨p, 1, none⟩ = some (.bool s.dead) := h.cell 1
  clear h
  go_enter Tryd.func16, Tryd.ntmps16
  go_wp2
  go_ret
  exact ⟨rfl, rfl⟩


set_option maxRecDepth 100000 in
set_option maxHeartbeats 1000000 in
theorem bad_r (h : RepAt w p s c bb bs bc vw vs) (i : Int) : Calls Tryd.prog 20 #[ptr p, .int .i64 i] w fun e w' => e = .returned (.bool (decide (0 ≤ i ∧ i < s.n) && s.bad i.toNat)) ∧ Below w.heap.size w w' := by
  have h0 : w.cell? ⟨p, 2, none⟩ = some (.map (some bb)) := h.cell 2
  obtain ⟨f, hm, hf⟩ := h.bad
  have hlk := hm.look Tryd.underlying72 (.agg #[]) (zero_unit w) i true
  rw [if_pos rfl, (hf i).2] at hlk
  rw [← (hf i).1]
  clear h hm hf
  generalize (f i).isSome = q at hlk ⊢
  go_enter Tryd.func20, Tryd.ntmps20
  go_wp2
  go_ret
  exact ⟨rfl, (Below.refl _ _).alloc (Nat.le_refl _) _⟩

def rfErr (s : DS) (i : Int) : Int := if s.dead then 73 else if i < 0 ∨ (s.n : Int) ≤ i then 71 else 0

set_option maxRecDepth 100000 in
set_option maxHeartbeats 1000000 in
theorem refusal_r (h : RepAt w p s c bb bs bc vw vs) (i : Int) : Calls Tryd.prog 52 #[ptr p, .int .i64 i] w fun e w' => e = .returned (.int .i64 (rfErr s i)) ∧ w' = w := by
  have h0 : w.cell? ⟨p, 0, none⟩ = some (.int .i64 (s.n : Nat)) := h.cell 0
  have h1 : w.cell? ⟨p, 1, none⟩ = some (.bool s.dead) := h.cell 1
  clear h
  unfold rfErr
  obtain ⟨sn, fst, log, bad, dead⟩ := s
  simp only at h0 h1 ⊢
  cases dead
  · by_cases hi : i < 0
    · rw [if_neg (by simp), if_pos (.inl hi)]
      go_enter Tryd.func52, Tryd.ntmps52
      go_wp2
      go_ret
      exact ⟨rfl, rfl⟩
    · by_cases hj : (sn : Int) ≤ i
      · rw [if_neg (by simp), if_pos (.inr hj)]
        go_enter Tryd.func52, Tryd.ntmps52
        go_wp2
        go_ret
        exact ⟨rfl, rfl⟩
      · rw [if_neg (by simp), if_neg (fun h => h.elim hi hj)]
        go_enter Tryd.func52, Tryd.ntmps52
        go_wp2
        go_ret
        exact ⟨rfl, rfl⟩
  · rw [if_pos rfl]
    go_enter Tryd.func52, Tryd.ntmps52
    go_wp2
    go_ret
    exact ⟨rfl, rfl⟩

set_option maxRecDepth 100000 in
set_option maxHeartbeats 1000000 in
theorem writeRefusal_r (h : RepAt w p s c bb bs bc vw vs) (i : Int) (a : Option Addr) (L C : Nat) : Calls Tryd.prog 63 #[ptr p, .int .i64 i, .slice a L C] w fun e w' => e = .returned (.int .i64 (wrErr s i L)) ∧ w' = w := by
  have hr := refusal_r h i
  clear h
  by_cases h0 : rfErr s i = 0
  · have hw : wrErr s i L = if 64 < L then 1 else 0 := by
      unfold rfErr at h0
      unfold wrErr
      split at h0
      · cases h0
      · split at h0
        · cases h0
        · rw [if_neg (by assumption), if_neg (by assumption)]
    rw [h0] at hr
    rw [hw]
    by_cases hL : 64 < L
    · rw [if_pos hL]
      have hL' : (64 : Int) < (L : Int) := by omega
      go_enter Tryd.func63, Tryd.ntmps63
      go_wp2_with (go_at_call 52; refine hr.mono ?_; rintro e w' ⟨rfl, rfl⟩)
      go_ret
      exact ⟨rfl, rfl⟩
    · rw [if_neg hL]
      have hL' : ¬ (64 : Int) < (L : Int) := by omega
      go_enter Tryd.func63, Tryd.ntmps63
      go_wp2_with (go_at_call 52; refine hr.mono ?_; rintro e w' ⟨rfl, rfl⟩)
      go_ret
      exact ⟨rfl, rfl⟩
  · have hw : wrErr s i L = rfErr s i := by
      unfold rfErr at h0 ⊢
      unfold wrErr
      split
      · rfl
      · split
        · rfl
        · rename_i h1 h2
          rw [if_neg h1, if_neg h2] at h0
          exact absurd rfl h0
    rw [hw]
    generalize rfErr s i = q at hr h0 ⊢
    go_enter Tryd.func63, Tryd.ntmps63
    go_wp2_with (go_at_call 52; refine hr.mono ?_; rintro e w' ⟨rfl, rfl⟩)
    go_ret
    exact ⟨rfl, rfl⟩
end Go.Proofs.YtoiaclmfljoomaaDoor

/- device: fresh, New. -/
namespace Go.Proofs.YtoiaclmfljoomaaDoor
open Go.ChangeShapes Go.WideShapes Go.ChangeAt Go.RowKit
set_option linter.unusedVariables false

abbrev nilS : Value := .slice none 0 0

set_option maxRecDepth 100000 in
set_option maxHeartbeats 2000000 in
theorem fresh_r (w : World) (n bs : Nat) (f : Int → Option Value) (h : MapIs w bs f) : Calls Tryd.prog 36 #[.int .i64 (n : Nat), .map (some bs)] w fun e w' =>
    ∃ p bb bc c, e = .returned (ptr p) ∧ Has w' p 77 (dcells n false bb bs bc nilS nilS 0 c) ∧ MapIs w' bb (fun _ => none) ∧ MapIs w' bs f ∧ MapIs w' bc f ∧ Has w' c 104 #[.int .i64 (0 : Nat)] ∧ w.heap.size ≤ p ∧ w.heap.size ≤ bb ∧ w.heap.size ≤ bc ∧ w.heap.size ≤ c ∧ bb ≠ bc ∧ Below w.heap.size w w' := by
  have hmm := @run_makeMap Tryd.prog
  have hlt := h.lt
  have hb1 : Below w.heap.size w (w.alloc (.map #[] 0)) := (Below.refl _ _).alloc (Nat.le_refl _) _
  have hcl := clone_sec bs f (w.alloc (.map #[] 0)) (h.alloc _)
  have hm1 : MapIs (w.alloc (.map #[] 0)) w.heap.size (fun _ => none) := MapIs.made w
  go_enter Tryd.func36, Tryd.ntmps36
  go_wp2_with (first
    | ((go_at_call 62)
       (refine hcl.mono ?_)
       (rintro e w2 ⟨rfl, hm2, hb2⟩))
    | (refine wpList_is (some 10) (.agg #[.int .i64 (0 : Nat)]) rfl (by rfl) (by kernel_rfl) ?_)
    | (refine wpList_is_w (some 11) (.pointer (some ⟨w2.heap.size, 0, none⟩)) (w2.alloc (.cells #[.int .i64 (0 : Nat)] 104)) rfl (by rfl) (by kernel_rfl) ?_)
    | (refine wpList_is (some 12) (.agg (dcells n false w.heap.size bs (w.heap.size + 1) nilS nilS 0 w2.heap.size)) rfl (by rfl) (by kernel_rfl) ?_)
    | (refine wpList_is_w (some 13) (.pointer (some ⟨(w2.alloc (.cells #[.int .i64 (0 : Nat)] 104)).heap.size, 0, none⟩)) ((w2.alloc (.cells #[.int .i64 (0 : Nat)] 104)).alloc (.cells (dcells n false w.heap.size bs (w.heap.size + 1) nilS nilS 0 w2.heap.size) 77)) rfl (by rfl) (by kernel_rfl) ?_))
  go_ret
  have hsz : (w.alloc (.map #[] 0)).heap.size = w.heap.size + 1 := by simp
  have hs2 := hb2.size
  have hlt2 := hm2.lt
  rw [hsz] at hb2 hm2 hs2 hlt2
  have hB : Below w.heap.size w w2 := hb1.trans (hb2.mono (by omega))
  refine ⟨w2.heap.size + 1, w.heap.size, w.heap.size + 1, w2.heap.size, rfl, Has.new_at (by simp), ((hm1.below hb2 (by omega)).alloc _).alloc _, (((h.alloc _).below hb2 (by omega)).alloc _).alloc _, (hm2.alloc _).alloc _, (Has.new_at rfl).alloc _, by omega, by omega, by omega, by omega, by omega, (hB.alloc hB.size _).alloc (by simp; omega) _⟩

theorem of_fresh {w : World} {p bb bs bc c n : Nat} {fs fc : Nat → Nat → Nat} (h : Has w p 77 (dcells n false bb bs bc nilS nilS 0 c)) (hb : MapIs w bb fun _ => none) (h1 : 1 ≤ n) (h2 : n ≤ 2048) (hs : SecMap w bs n fs) (hc : SecMap w bc n fs) (d1 : bb ≠ bs) (d2 : bb ≠ bc) (d3 : bs ≠ bc) :
    RepAt w p ⟨n, fs, [], fun _ => false, false⟩ c bb bs bc nilS nilS :=
  ⟨h, h1, h2, ⟨_, hb, fun _ => ⟨by simp, rfl⟩⟩, hs, hc, World.ownsRow_nil _ _ _ _, World.ownsRow_nil _ _ _ _, d1, d2, d3, List.Pairwise.nil⟩

theorem foot_new {w : World} {p bb bs bc : Nat} (h1 : w.heap.size ≤ p) (h2 : w.heap.size ≤ bb) (h3 : w.heap.size ≤ bs) (h4 : w.heap.size ≤ bc) (k : Nat) (hk : Foot p bb bs bc nilS nilS k) : w.heap.size ≤ k := by
  rcases hk with rfl | rfl | rfl | rfl | hk | hk
  · exact h1
  · exact h2
  · exact h3
  · exact h4
  · cases hk
  · cases hk

set_option maxRecDepth 100000 in
set_option maxHeartbeats 2000000 in
theorem new_r (n : Nat) (w : World) (h1 : 1 ≤ n) (h2 : n ≤ 2048) : Calls Tryd.prog 10 #[.int .i64 (n : Nat)] w fun e w' => ∃ p c F, e = .returned (.tuple #[ptr p, .int .i64 0]) ∧ Dev theRep w' p (fresh n) c 0 F ∧ (∀ k, F k → w.heap.size ≤ k) ∧ w.heap.size ≤ c ∧ Below w.heap.size w w' := by
  have hmm := @run_makeMap Tryd.prog
  have hm1 : MapIs (w.alloc (.map #[] 0)) w.heap.size (fun _ => none) := MapIs.made w
  have hb1 : Below w.heap.size w (w.alloc (.map #[] 0)) := (Below.refl _ _).alloc (Nat.le_refl _) _
  have hfr := fresh_r (w.alloc (.map #[] 0)) n w.heap.size _ hm1
  have i1 : ¬ ((n : Int) < 1) := by omega
  have i2 : ¬ ((2048 : Int) < (n : Int)) := by omega
  generalize ((n : Nat) : Int) = x at hfr i1 i2 ⊢
  go_enter Tryd.func10, Tryd.ntmps10
  go_wp2_with (first
    | ((go_at_call 36)
       (refine hfr.mono ?_)
       (rintro e w2 ⟨p, bb, bc, c, rfl, g1, g2, g3, g4, g5, q1, q2, q3, q4, q5, hb2⟩)))
  go_ret2
  have hsz : (w.alloc (.map #[] 0)).heap.size = w.heap.size + 1 := by simp
  rw [hsz] at q1 q2 q3 q4 hb2
  have hr := of_fresh (fs := fun _ _ => 0) (fc := fun _ _ => 0) g1 g2 h1 h2 ⟨_, g3, fun _ _ => rfl⟩ ⟨_, g4, fun _ _ => rfl⟩ (by omega) q5 (by omega)
  refine ⟨p, c, Foot p bb w.heap.size bc nilS nilS, rfl, ⟨⟨bb, w.heap.size, bc, nilS, nilS, hr, fun _ => Iff.rfl⟩, g5, ?_, fun e he => by cases he⟩, foot_new (by omega) (by omega) (Nat.le_refl _) (by omega), by omega, hb1.trans (hb2.mono (by omega))⟩
  rintro (e | e | e | e | e | e)
  · exact cells_ne g5 g1 (by decide) e
  · exact g2.ne g5 e.symm
  · exact g3.ne g5 e.symm
  · exact g4.ne g5 e.symm
  · cases e
  · cases e

set_option maxRecDepth 100000 in
set_option maxHeartbeats 1000000 in
theorem newNo_r (n : Int) (w : World) (hn : i64ok n) (h : ¬ (1 ≤ n ∧ n ≤ 2048)) : Calls Tryd.prog 10 #[.int .i64 n] w fun e w' => e = .returned (.tuple #[.pointer none, .int .i64 1]) ∧ Below w.heap.size w w' := by
  by_cases h1 : n < 1
  · go_enter Tryd.func10, Tryd.ntmps10
    go_wp2
    go_ret2
    exact ⟨rfl, Below.refl _ _⟩
  · have h2 : (2048 : Int) < n := by omega
    go_enter Tryd.func10, Tryd.ntmps10
    go_wp2
    go_ret2
    exact ⟨rfl, Below.refl _ _⟩
end Go.Proofs.YtoiaclmfljoomaaDoor

/- device: Kill, Spoil, Read. -/
namespace Go.Proofs.YtoiaclmfljoomaaDoor
open Go.ChangeShapes Go.WideShapes Go.ChangeAt Go.RowKit
set_option linter.unusedVariables false

variable {w w' : World} {p c bb bs bc : Nat} {s : DS} {vw vs : Value}

/-- All but the device's own block is as it was. -/
theorem RepAt.turnP (h : RepAt w p s c bb bs bc vw vs) (ho : Only (fun k => k = p) w w') {s' : DS} {c' : Nat} (hh : Has w' p 77 (dcells s'.n s'.dead bb bs bc vw vs (pend s'.log) c')) (e1 : s'.n = s.n) (e2 : s'.fst = s.fst) (e3 : s'.log = s.log) (e4 : s'.bad = s.bad) : RepAt w' p s' c' bb bs bc vw vs := by
  obtain ⟨n', f', l', b', d'⟩ := s'
  simp only at e1 e2 e3 e4
  subst e1 e2 e3 e4
  exact ⟨hh, h.n1, h.n2, h.bad.kept (ho.block _ h.bad.lt h.bb_p), h.fst.kept (ho.block _ h.fst.lt h.bs_p), h.now.kept (ho.block _ h.now.lt h.bc_p),
    own_kept h.wr (fun g hg => ho.block g (h.wr.lt g hg).2 (fun e => h.wr_p (e ▸ hg))), own_kept h.sy (fun g hg => ho.block g (h.sy.lt g hg).2 (fun e => h.sy_p (e ▸ hg))), h.d1, h.d2, h.d3, h.rise⟩

set_option maxRecDepth 100000 in
theorem kill_r (h : RepAt w p s c bb bs bc vw vs) : Calls Tryd.prog 21 #[ptr p] w fun e w' => e = .returned (.tuple #[]) ∧ Only (fun k => k = p) w w' ∧ RepAt w' p (killD s) c bb bs bc vw vs := by
  have h0 : w.cell? ⟨p, 1, none⟩ = some (.bool s.dead) := h.cell 1
  have h1 := h.has.free 1
  have hH := h.has.setV 1 (.bool true)
  have hR := fun hh => h.turnP (only_setCell w p 1 (.bool true)) (s' := killD s) (c' := c) hh rfl rfl rfl rfl
  clear h
  go_enter Tryd.func21, Tryd.ntmps21
  go_wp2
  go_end0
  exact ⟨rfl, only_setCell w p 1 _, hR hH⟩

set_option maxRecDepth 100000 in
set_option maxHeartbeats 1000000 in
theorem spoil_r (h : RepAt w p s c bb bs bc vw vs) (i : Int) (hi : rfErr s i = 0) : Calls Tryd.prog 22 #[ptr p, .int .i64 i] w fun e w' => e = .returned (.tuple #[]) ∧ Only (fun k => k = bb) w w' ∧ RepAt w' p (spoilD s i.toNat) c bb bs bc vw vs := by
  have h0 : w.cell? ⟨p, 2, none⟩ = some (.map (some bb)) := h.cell 2
  have hr := refusal_r h i
  rw [hi] at hr
  obtain ⟨f, hm, hf⟩ := h.bad
  obtain ⟨w1, hrun, hm1, ho, hs1⟩ := hm.put Tryd.underlying72 i (.agg #[])
  have hin : 0 ≤ i ∧ i < s.n := by
    unfold rfErr at hi
    split at hi
    · cases hi
    · split at hi
      · cases hi
      · omega
  have hR : RepAt w1 p (spoilD s i.toNat) c bb bs bc vw vs := by
    refine ⟨(ho.block p h.has.lt h.bb_p.symm).trans h.has, h.n1, h.n2, ⟨_, hm1, fun a => ?_⟩, h.fst.kept (ho.block _ h.fst.lt h.d1.symm), h.now.kept (ho.block _ h.now.lt h.d2.symm),
      own_kept h.wr (fun g hg => ho.block g (h.wr.lt g hg).2 (fun e => h.wr_bb (e ▸ hg))), own_kept h.sy (fun g hg => ho.block g (h.sy.lt g hg).2 (fun e => h.sy_bb (e ▸ hg))), h.d1, h.d2, h.d3, h.rise⟩
    show (if a = i then some (Value.agg #[]) else f a).isSome = (decide (0 ≤ a ∧ a < s.n) && (if a.toNat = i.toNat then true else s.bad a.toNat)) ∧ (if a = i then some (Value.agg #[]) else f a).getD (.agg #[]) = .agg #[]
    by_cases ha : a = i
    · subst ha
      rw [if_pos rfl, if_pos rfl, decide_eq_true hin]
      exact ⟨rfl, rfl⟩
    · rw [if_neg ha, (hf a).1]
      refine ⟨?_, (hf a).2⟩
      by_cases hb : 0 ≤ a ∧ a < s.n
      · rw [if_neg (fun e => ha (by omega))]
      · rw [decide_eq_false hb]
        rfl
  clear h hm hf hm1 hi hin hs1
  go_enter Tryd.func22, Tryd.ntmps22
  go_wp2_with (first
    | ((go_at_call 52)
       (refine hr.mono ?_)
       (rintro e w' ⟨rfl, hw'⟩; obtain rfl : w = w' := hw'.symm)))
  go_end0
  exact ⟨rfl, ho, hR⟩

set_option maxRecDepth 100000 in
theorem spoilNo_r (h : RepAt w p s c bb bs bc vw vs) (i : Int) (hi : rfErr s i ≠ 0) : Calls Tryd.prog 22 #[ptr p, .int .i64 i] w fun e w' => e = .returned (.tuple #[]) ∧ w' = w := by
  have hr := refusal_r h i
  clear h
  generalize rfErr s i = q at hr hi
  go_enter Tryd.func22, Tryd.ntmps22
  go_wp2_with (first
    | ((go_at_call 52)
       (refine hr.mono ?_)
       (rintro e w' ⟨rfl, hw'⟩; obtain rfl : w = w' := hw'.symm)))
  go_end0
  exact ⟨rfl, rfl⟩

theorem rd_rf (s : DS) (i : Int) : rdErr s i = if rfErr s i = 0 then (if (decide (0 ≤ i ∧ i < s.n) && s.bad i.toNat) then 72 else 0) else rfErr s i := by
  unfold rdErr rfErr
  by_cases h1 : s.dead = true
  · rw [if_pos h1, if_pos h1, if_neg (by decide)]
  · rw [if_neg h1, if_neg h1]
    by_cases h2 : i < 0 ∨ (s.n : Int) ≤ i
    · rw [if_pos h2, if_pos h2, if_neg (by decide)]
    · rw [if_neg h2, if_neg h2, if_pos rfl, decide_eq_true (show 0 ≤ i ∧ i < (s.n : Int) by omega)]
      rfl

set_option maxRecDepth 100000 in
set_option maxHeartbeats 1000000 in
theorem read_r (h : RepAt w p s c bb bs bc vw vs) (i : Int) : Calls Tryd.prog 69 #[ptr p, .int .i64 i] w fun e w' => Below w.heap.size w w' ∧ ∃ v, e = .returned (.tuple #[v, .int .i64 (rdErr s i)]) ∧ ((rdErr s i ≠ 0 ∧ NoSec v) ∨ (rdErr s i = 0 ∧ NewSec w w' v (holds s i.toNat))) := by
  have hr := refusal_r h i
  rw [rd_rf]
  by_cases h0 : rfErr s i = 0
  · rw [if_pos h0]
    rw [h0] at hr
    have hin : 0 ≤ i ∧ i < s.n := by
      unfold rfErr at h0
      split at h0
      · cases h0
      · split at h0
        · cases h0
        · omega
    have hbd := bad_r h i
    cases hq : (decide (0 ≤ i ∧ i < s.n) && s.bad i.toNat)
    · rw [hq] at hbd
      rw [if_neg (by simp)]
      obtain ⟨f, hm, hf⟩ := h.now
      have hfi := hf i.toNat (by omega)
      rw [show ((i.toNat : Nat) : Int) = i by omega] at hfi
      have hc4 : w.cell? ⟨p, 4, none⟩ = some (.map (some bc)) := h.cell 4
      have hplt := h.has.lt
      have hmlt := hm.lt
      have hlk := fun w1 (hb : Below w.heap.size w w1) => (hm.below hb hmlt).look Tryd.underlying60 zsec (zero_sec w1) i false
      clear h hf
      simp only [Bool.false_eq_true, if_false, hfi] at hlk
      generalize holds s i.toNat = F at hlk ⊢
      go_enter Tryd.func69, Tryd.ntmps69
      go_wp2_with (first
        | ((go_at_call 52)
           (refine hr.mono ?_)
           (rintro e w' ⟨rfl, hw'⟩; obtain rfl : w = w' := hw'.symm))
        | ((go_at_call 20)
           (refine hbd.mono ?_)
           (rintro e w1 ⟨rfl, hb1⟩)
           (have hl1 := hlk w1 hb1)
           (have hc1 : w1.cell? ⟨p, 4, none⟩ = some (.map (some bc)) := (hb1.cell hplt).trans hc4)
           (clear hlk))
        | (refine wpList_is_w (some 7) (.pointer (some ⟨w1.heap.size, 0, none⟩)) (w1.alloc (.cells (cellsN .u8 64 fun _ => 0) 102)) rfl (by rfl) (by kernel_rfl) ?_)
        | ((refine wpList_store_rowG rfl 102 _ _ rfl w1.heap.size (cellsN .u8 64 F) rfl rfl 102 (cellsN .u8 64 fun _ => 0) (Has.new_at rfl) (by rw [cellsN_size]; exact Tryd.size102) (by simp [cellsN_size]) (cellsN_one _ _ _) ?_)
           (intro w2 hw2)
           (have hH : Has w2 w1.heap.size 102 (cellsN .u8 64 F) := by rw [hw2]; exact (Has.new_at (t := 102) (cs := cellsN .u8 64 fun _ => 0) rfl).setRow _)
           (have hB2 : Below w.heap.size w w2 := by rw [hw2]; exact below_setRow (hb1.alloc hb1.size _) hb1.size _)
           (clear hw2)))
      go_ret2
      refine ⟨hB2, _, rfl, .inr ⟨by trivial, w1.heap.size, 0, 64, 102, cellsN .u8 64 F, rfl, Nat.le_refl _, hb1.size, hH, fun j hj => by rw [Nat.zero_add]; exact cellsN_get _ _ _ _ hj⟩⟩
    · rw [hq] at hbd
      rw [if_pos rfl]
      clear h
      go_enter Tryd.func69, Tryd.ntmps69
      go_wp2_with (first
        | ((go_at_call 52)
           (refine hr.mono ?_)
           (rintro e w' ⟨rfl, hw'⟩; obtain rfl : w = w' := hw'.symm))
        | ((go_at_call 20)
           (refine hbd.mono ?_)
           (rintro e w1 ⟨rfl, hb1⟩)))
      go_ret2
      exact ⟨hb1, _, rfl, .inl ⟨by decide, none, 0, rfl⟩⟩
  · rw [if_neg h0]
    clear h
    generalize rfErr s i = q at hr h0 ⊢
    go_enter Tryd.func69, Tryd.ntmps69
    go_wp2_with (first
      | ((go_at_call 52)
         (refine hr.mono ?_)
         (rintro e w' ⟨rfl, hw'⟩; obtain rfl : w = w' := hw'.symm)))
    go_ret2
    exact ⟨Below.refl _ _, _, rfl, .inl ⟨h0, none, 0, rfl⟩⟩
end Go.Proofs.YtoiaclmfljoomaaDoor

/- device: put. -/
namespace Go.Proofs.YtoiaclmfljoomaaDoor
open Go.ChangeShapes Go.WideShapes Go.ChangeAt Go.RowKit
set_option linter.unusedVariables false

theorem run_load_ws {o : Oper} {a : Act} (x : Operand) (ho : o.op = .load 73 x) (p : Addr) (hx : a.eval x = .pointer (some p)) (v : Value) (w : World) (h : w.cell? p = some v) : (execOp a.eval o).run Tryd.prog w = .ok (.value v) w := by
  unfold execOp
  simp only [ho, hx]
  go_simp

theorem run_load_pc {o : Oper} {a : Act} (x : Operand) (ho : o.op = .load 75 x) (p : Addr) (hx : a.eval x = .pointer (some p)) (v : Value) (w : World) (h : w.cell? p = some v) : (execOp a.eval o).run Tryd.prog w = .ok (.value v) w := by
  unfold execOp
  simp only [ho, hx]
  go_simp

theorem run_load_n {o : Oper} {a : Act} (x : Operand) (ho : o.op = .load 3 x) (p : Addr) (hx : a.eval x = .pointer (some p)) (v : Value) (w : World) (h : w.cell? p = some v) : (execOp a.eval o).run Tryd.prog w = .ok (.value v) w := by
  unfold execOp
  simp only [ho, hx]
  go_simp

theorem run_load_sm {o : Oper} {a : Act} (x : Operand) (ho : o.op = .load 60 x) (p : Addr) (hx : a.eval x = .pointer (some p)) (v : Value) (w : World) (h : w.cell? p = some v) : (execOp a.eval o).run Tryd.prog w = .ok (.value v) w := by
  unfold execOp
  simp only [ho, hx]
  go_simp

theorem run_store_ws {o : Oper} {a : Act} (x y : Operand) (ho : o.op = .store 73 x y) (p : Addr) (hx : a.eval x = .pointer (some p)) (A : Option Addr) (n c : Nat) (hy : a.eval y = .slice A n c) (w : World) (u : Value) (h : w.cell? p = some u) (hf : w.frozen? p = false) : (execOp a.eval o).run Tryd.prog w = .ok .skip (w.setCell p (.slice A n c)) := by
  unfold execOp
  simp only [ho, hx, hy]
  go_simp

theorem run_app {o : Oper} {a : Act} {w w' : World} (t : TypeId) (s x : Operand) (ho : o.op = .call { callee := .builtin .append, args := #[s, x], argTypes := #[t, t] }) (vs vx : Value) (hs : a.eval s = vs) (hx : a.eval x = vx) (v' : Value) (ty : TypeId) (hty : o.type = ty)
    (hr : (Builtin.append_ #[t, t] ty #[vs, vx]).run Tryd.prog w = .ok v' w') : (execOp a.eval o).run Tryd.prog w = .ok (.value v') w' := by
  subst hty
  unfold execOp
  simp [ho, resolve, invoke, builtin, hs, hx, hr]

theorem run_mapUpd {o : Oper} {a : Act} {w w' : World} (t : TypeId) (x y z : Operand) (ho : o.op = .mapUpdate t x y z) (vm vk vv : Value) (hx : a.eval x = vm) (hy : a.eval y = vk) (hz : a.eval z = vv)
    (hr : (Instr.mapUpdate t vm vk vv).run Tryd.prog w = .ok () w') : (execOp a.eval o).run Tryd.prog w = .ok .skip w' := by
  unfold execOp
  simp [ho, hx, hy, hz, hr]

theorem run_build_w {o : Oper} {a : Act} (x1 x2 x3 x4 : Operand) (ho : o.op = .build 115 #[(0, x1), (1, x2), (2, x3), (3, x4)]) (I : Nat) (B : Nat → Nat) (mo : Nat) (tp : Bool) (h1 : a.eval x1 = .int .i64 (I : Nat)) (h2 : a.eval x2 = .agg (cellsN .u8 64 B)) (h3 : a.eval x3 = .int .i64 (mo : Nat)) (h4 : a.eval x4 = .bool tp) (w : World) :
    (execOp a.eval o).run Tryd.prog w = .ok (.value (.agg (wcells ⟨I, B, false, tp, (mo : Nat)⟩).toArray)) w := by
  unfold execOp
  simp only [ho, List.map_toArray, List.map_cons, List.map_nil, h1, h2, h3, h4]
  kernel_rfl

theorem run_bs_w {o : Oper} {a : Act} (x : Operand) (ho : o.op = .buildSlice 73 1 #[(0, x)]) (e : AE) (hx : a.eval x = .agg (wcells e).toArray) (w : World) :
    (execOp a.eval o).run Tryd.prog w = .ok (.value (.slice (some ⟨w.heap.size, 0, none⟩) 1 1)) (w.alloc (.cells (wcells e).toArray 115)) := by
  unfold execOp
  simp only [ho, List.map_toArray, List.map_cons, List.map_nil, hx]
  kernel_rfl

theorem info_w : (Tryd.prog.info? 115).map (fun i => (i.zero, i.size, i.bytes)) = some (some (.agg (wcells ⟨0, fun _ => 0, false, false, 0⟩).toArray), 67, 88) := by kernel_rfl
theorem info_s : (Tryd.prog.info? 80).map (fun i => (i.zero, i.size, i.bytes)) = some (some (.agg #[.int .i64 0, .int .i64 0]), 2, 16) := by kernel_rfl

theorem wcells_one (e : AE) : ∀ u ∈ wcells e, u.oneCell' = true := by
  intro u hu
  unfold wcells at hu
  rcases List.mem_cons.1 hu with rfl | hu
  · rfl
  · rcases List.mem_append.1 hu with hu | hu
    · exact bl_one _ _ u hu
    · rcases List.mem_cons.1 hu with rfl | hu
      · rfl
      · rw [List.mem_singleton] at hu
        subst hu
        rfl

/-- A write is added to a row of writes. -/
theorem app_w {w : World} {v : Value} {n : Nat} {xs : List Value} (e : AE) (hown : w.ownsRow 0 115 67 v n xs) (hn : n ≤ 100000) (ty : TypeId) :
    ∃ g cap w', (Builtin.append_ #[73, 73] ty #[v, .slice (some ⟨w.heap.size, 0, none⟩) 1 1]).run Tryd.prog (w.alloc (.cells (wcells e).toArray 115)) = .ok (.slice (some ⟨g, 0, none⟩) (n + 1) cap) w' ∧
      w'.ownsRow 0 115 67 (.slice (some ⟨g, 0, none⟩) (n + 1) cap) (n + 1) (xs ++ wcells e) ∧ (w.alloc (.cells (wcells e).toArray 115)).grownBy w' v.ownBlock ∧ (v.ownBlock = some g ∨ g = w.heap.size + 1) := by
  obtain ⟨i0, hi0, hz0, hz1, hz2⟩ := info_parts info_w
  obtain ⟨g, cap, w', h1, h2, h3, h4, _⟩ := run_append_lies (P := Tryd.prog) (w.alloc (.cells (wcells e).toArray 115)) 73 ty 0 115 i0 _ 67 88 Tryd.underlying73 hi0 hz0 hz1 hz2 (by simp [Value.cells, wcells_len]) (by decide) v n xs (hown.alloc _) ⟨w.heap.size, 0, none⟩ 1 1 (wcells e) (by rw [wcells_len]) (World.news_of_block (cs := (wcells e).toArray) (Has.new w 115 _)) (wcells_one e) (by decide) (by unfold maxLen; omega) (by omega) (Nat.zero_le _) (w.heap.size + 1) (by simp)
  exact ⟨g, cap, w', h1, h2, h3, h4⟩

theorem SecMap.put {w : World} {b n : Nat} {g : Nat → Nat → Nat} (h : SecMap w b n g) (I : Nat) (B : Nat → Nat) :
    ∃ w', (Instr.mapUpdate 60 (.map (some b)) (.int .i64 (I : Nat)) (.agg (cellsN .u8 64 B))).run Tryd.prog w = .ok () w' ∧ SecMap w' b n (fun i => if i = I then B else g i) ∧ Only (fun k => k = b) w w' ∧ w'.heap.size = w.heap.size := by
  obtain ⟨f, hm, hf⟩ := h
  obtain ⟨w', h1, h2, h3, h4⟩ := hm.put Tryd.underlying60 (I : Nat) (.agg (cellsN .u8 64 B))
  refine ⟨w', h1, ⟨_, h2, fun i hi => ?_⟩, h3, h4⟩
  show (if (i : Int) = (I : Int) then some (Value.agg (cellsN .u8 64 B)) else f i).getD zsec = .agg (cellsN .u8 64 (if i = I then B else g i))
  by_cases e : i = I
  · subst e
    rw [if_pos rfl, if_pos rfl]
    rfl
  · rw [if_neg (by omega), if_neg e]
    exact hf i hi

variable {w w' : World} {p c bb bs bc : Nat} {s : DS} {vw vs : Value}

/-- What put leaves: all but the number of those that are pending. -/
structure PutPost (w w' : World) (p : Nat) (s : DS) (c bb bs bc : Nat) (vw vs vw' : Value) (e : AE) (m1 : Nat) : Prop where
  only : Only (fun k => k = p ∨ k = c ∨ k = bc ∨ vw.ownBlock = some k) w w'
  grew : ∀ k, vw'.ownBlock = some k → vw.ownBlock = some k ∨ w.heap.size ≤ k
  has : Has w' p 77 (dcells s.n s.dead bb bs bc vw' vs (pend s.log) c)
  clock : Has w' c 104 #[.int .i64 (m1 : Nat)]
  rep : ∀ w3, Only (fun k => k = p) w' w3 → Has w3 p 77 (dcells s.n s.dead bb bs bc vw' vs (pend (addD s e).log) c) → RepAt w3 p (addD s e) c bb bs bc vw' vs

set_option maxRecDepth 100000 in
set_option maxHeartbeats 4000000 in
theorem put_r (h : RepAt w p s c bb bs bc vw vs) {m : Nat} (hc : Has w c 104 #[.int .i64 (m : Nat)]) (hcF : ¬ Foot p bb bs bc vw vs c) (hp : Past s m) (I : Nat) (a : Option Addr) (L C : Nat) (b : Nat → Nat) (hL : L ≤ 64) (hb : Bytes w a L b) (tp : Bool) (hm : m ≤ 100000) (hlen : s.log.length ≤ 100000) :
    Calls Tryd.prog 64 #[ptr p, .int .i64 (I : Nat), .slice a L C, .bool tp] w fun e w' => e = .returned (.tuple #[]) ∧ ∃ vw', PutPost w w' p s c bb bs bc vw vs vw' ⟨I, full b L, false, tp, ((m + 1 : Nat) : Int)⟩ (m + 1) := by
  have hplt := h.has.lt
  have hclt := hc.lt
  have hcp : c ≠ p := fun e => hcF (.inl e)
  have hcbc : c ≠ bc := fun e => hcF (.inr (.inr (.inr (.inl e))))
  have hH1 : Has (w.alloc (.cells (cellsN .u8 64 fun _ => 0) 102)) w.heap.size 102 (cellsN .u8 64 fun _ => 0) := Has.new w _ _
  have hb1 : Below w.heap.size w (w.alloc (.cells (cellsN .u8 64 fun _ => 0) 102)) := (Below.refl _ _).alloc (Nat.le_refl _) _
  have hby := hb.below hb1 (Nat.le_refl _)
  obtain ⟨cs, hcs⟩ : ∃ cs, cs = (List.range L).map fun j => Value.int .u8 (b j : Nat) := ⟨_, rfl⟩
  have s1 : cs.length = Nat.min L 64 := by rw [hcs, List.length_map, List.length_range]; exact (Nat.min_eq_left hL).symm
  have s2 : 0 < cs.length → some (⟨w.heap.size, 0, none⟩ : Addr) = some ⟨w.heap.size, 0, none⟩ ∧ ∃ ad, a = some ad ∧ ∀ j v, cs[j]? = some v → (w.alloc (.cells (cellsN .u8 64 fun _ => 0) 102)).cell? (ad.add j) = some v := by
    rw [hcs]
    exact fun h0 => ⟨rfl, hby.src L (Nat.le_refl _) h0⟩
  have s3 : 0 + cs.length ≤ (cellsN .u8 64 fun _ => 0).toList.length := by rw [hcs]; simp [cellsN]; omega
  have s4 : ∀ v ∈ cs, v.oneCell' = true := by rw [hcs]; exact ints_one b L
  have S5 : Hid ((splice (cellsN .u8 64 fun _ => 0).toList 0 cs).toArray = cellsN .u8 64 (full b L)) := by
    show _ = _
    rw [hcs, spliced6 b L 64 hL]
    rfl
  have HR : Hid (RepAt w p s c bb bs bc vw vs) := h
  have HC : Hid (Has w c 104 #[.int .i64 (m : Nat)]) := hc
  have hc8 : w.cell? ⟨p, 8, none⟩ = some (.pointer (some ⟨c, 0, none⟩)) := h.cell 8
  have hc0 : w.cell? ⟨c, 0, none⟩ = some (.int .i64 (m : Nat)) := hc.cell 0
  clear hcs hby h hc
  go_enter Tryd.func64, Tryd.ntmps64
  go_wp2_with (first
    | (refine wpList_is_w (some 8) (.pointer (some ⟨w.heap.size, 0, none⟩)) (w.alloc (.cells (cellsN .u8 64 fun _ => 0) 102)) rfl (by rfl) (by kernel_rfl) ?_)
    | ((refine wpList_copy_splice rfl (.tmp 9) (.tmp 10) 33 33 rfl 5 Tryd.underlying33 (by kernel_rfl) (some ⟨w.heap.size, 0, none⟩) a 64 64 L C rfl rfl w.heap.size 0 (cellsN .u8 64 fun _ => 0).toList 102 hH1 cs s1 s2 s3 s4 w.heap.size w hb1 (Nat.le_refl _) ?_)
       (intro w5 hg5 hb5)
       (have hH5 : Has w5 w.heap.size 102 (cellsN .u8 64 (full b L)) := (by
          have hh := hg5.out
          rw [S5.out] at hh
          exact hh))
       (have k8 : w5.cell? ⟨p, 8, none⟩ = some (.pointer (some ⟨c, 0, none⟩)) := (hb5.cell hplt).trans hc8)
       (have k0 : w5.cell? ⟨c, 0, none⟩ = some (.int .i64 (m : Nat)) := (hb5.cell hclt).trans hc0)
       (have kf : w5.frozen? ⟨c, 0, none⟩ = false := (HC.out.below hb5 hclt).free 0)
       (clear hg5 hH1 hb1 s1 s2 s3 s4 S5)))
  have h := HR.out
  have hc := HC.out
  obtain ⟨g, hg⟩ : ∃ g, g = w.heap.size := ⟨_, rfl⟩
  obtain ⟨m1, hm1⟩ : ∃ m1, m1 = m + 1 := ⟨_, rfl⟩
  obtain ⟨B, hB⟩ : ∃ B, B = full b L := ⟨_, rfl⟩
  obtain ⟨w6, hw6⟩ : ∃ w6, w6 = w5.setCell ⟨c, 0, none⟩ (.int .i64 (m1 : Nat)) := ⟨_, rfl⟩
  rw [show w5.setCell ⟨c, 0, none⟩ (.int .i64 ((m : Int) + 1)) = w6 by rw [hw6, hm1]; simp]
  rw [← hg, ← hB] at hH5
  rw [← hg]
  have hO6 : Only (fun k => k = c) w5 w6 := by rw [hw6]; exact only_setCell _ _ _ _
  have hcg : c ≠ g := by omega
  have hcl6 : Has w6 c 104 #[.int .i64 (m1 : Nat)] := by rw [hw6]; exact (hc.below hb5 hclt).setV 0 _
  have hO06 : Only (fun k => k = c) w w6 := ⟨hO6.os.trans hb5.os, hO6.tape.trans hb5.tape, hO6.output.trans hb5.output, Nat.le_trans hb5.size hO6.size, fun k hk hn => (hO6.block k (Nat.lt_of_lt_of_le hk hb5.size) hn).trans (hb5.block k hk)⟩
  have hR6 : RepAt w6 p s c bb bs bc vw vs := h.kept (fun k hk => hO06.block k (h.lt k hk) (fun e => hcF (e ▸ hk)))
  have hH6 : Has w6 g 102 (cellsN .u8 64 B) := (hO6.block g hH5.lt (Ne.symm hcg)).trans hH5
  have hgF : ∀ k, Foot p bb bs bc vw vs k → k ≠ g := fun k hk e => by have := h.lt k hk; omega
  obtain ⟨e0, he0⟩ : ∃ e0 : AE, e0 = ⟨I, B, false, tp, (m1 : Nat)⟩ := ⟨_, rfl⟩
  have hDr : Below w6.heap.size w6 w6.drew := (Below.refl _ w6).drew
  have hR6d : RepAt w6.drew p s c bb bs bc vw vs := hR6.kept (fun _ _ => rfl)
  obtain ⟨g7, cap7, w7, hr7, hown7, hgr7, hl7⟩ := app_w e0 hR6d.wr (by
    have : wrs s.log ≤ s.log.length := List.length_filter_le _ _
    omega) 73
  have hA : Below w6.heap.size w6 (w6.drew.alloc (.cells (wcells e0).toArray 115)) := hDr.alloc (Nat.le_refl _) _
  have hO7 : Only (fun k => vw.ownBlock = some k) w6 w7 := ⟨hgr7.os.trans hA.os, hgr7.tape.trans hA.tape, hgr7.output.trans hA.output, Nat.le_trans hA.size hgr7.size, fun k hk hn => (hgr7.block k (Nat.lt_of_lt_of_le hk hA.size) (fun e => hn e.symm)).trans (hA.block k hk)⟩
  have hgw : vw.ownBlock ≠ some g := fun e => hgF g (.inr (.inr (.inr (.inr (.inl e))))) rfl
  have hcw : vw.ownBlock ≠ some c := fun e => hcF (.inr (.inr (.inr (.inr (.inl e)))))
  have p5 : w6.cell? ⟨p, 5, none⟩ = some vw := hR6.cell 5
  have p8 : w6.cell? ⟨p, 8, none⟩ = some (.pointer (some ⟨c, 0, none⟩)) := hR6.cell 8
  have c0 : w6.cell? ⟨c, 0, none⟩ = some (.int .i64 (m1 : Nat)) := hcl6.cell 0
  have held : ∀ wz, Only (fun k => vw.ownBlock = some k) w6 wz → wz.cell? ⟨p, 5, none⟩ = some vw ∧ wz.cell? ⟨p, 8, none⟩ = some (.pointer (some ⟨c, 0, none⟩)) ∧ wz.cell? ⟨c, 0, none⟩ = some (.int .i64 (m1 : Nat)) ∧ Has wz g 102 (cellsN .u8 64 B) := fun wz hz =>
    ⟨(hz.cell hR6.has.lt hR6.wr_p).trans p5, (hz.cell hR6.has.lt hR6.wr_p).trans p8, (hz.cell hcl6.lt hcw).trans c0, (hz.block g hH6.lt hgw).trans hH6⟩
  refine lastTo (S := fun wz => wz.cell? ⟨p, 5, none⟩ = some vw ∧ wz.cell? ⟨p, 8, none⟩ = some (.pointer (some ⟨c, 0, none⟩)) ∧ wz.cell? ⟨c, 0, none⟩ = some (.int .i64 (m1 : Nat)) ∧ Has wz g 102 (cellsN .u8 64 B)) 20 (by kernel_rfl) ⟨p5, p8, c0, hH6⟩ (fun hHeld => ?_)
  refine takeL 0 (some 22) (ptr p) rfl rfl (by decide) (by kernel_rfl) (by kernel_rfl) (by kernel_rfl) (by kernel_rfl) (fun _ _ _ h => h) (by rfl) (fun _ _ => rfl) hHeld ?_
  simp only [Act.put, List.setIfInBounds_toArray, List.set_cons_zero, List.set_cons_succ]
  refine takeL 1 (some 23) (ptr p) rfl rfl (by decide) (by kernel_rfl) (by kernel_rfl) (by kernel_rfl) (by kernel_rfl) (fun _ _ _ h => h) (by rfl) (fun _ _ => rfl) hHeld ?_
  simp only [Act.put, List.setIfInBounds_toArray, List.set_cons_zero, List.set_cons_succ]
  refine takeL 2 (some 24) (.pointer (some ⟨p, 0, none⟩)) rfl rfl (by decide) (by kernel_rfl) (by kernel_rfl) (by kernel_rfl) (by kernel_rfl) (fun _ _ _ h => h) (by rfl) (fun _ _ => rfl) hHeld ?_
  simp only [Act.put, List.setIfInBounds_toArray, List.set_cons_zero, List.set_cons_succ]
  refine takeL 3 (some 25) (.pointer (some ⟨p, 5, none⟩)) rfl rfl (by decide) (by kernel_rfl) (by kernel_rfl) (by kernel_rfl) (by kernel_rfl) (fun _ _ _ h => h) (by rfl) (fun _ _ => rfl) hHeld ?_
  simp only [Act.put, List.setIfInBounds_toArray, List.set_cons_zero, List.set_cons_succ]
  refine takeL 4 (some 26) (vw) rfl rfl (by decide) (by kernel_rfl) (by kernel_rfl) (by kernel_rfl) (by kernel_rfl) (fun _ _ _ h => h) (by rfl) (fun wz hz => run_load_ws _ rfl _ rfl _ wz hz.1) hHeld ?_
  simp only [Act.put, List.setIfInBounds_toArray, List.set_cons_zero, List.set_cons_succ]
  refine takeL 5 (some 27) (.int .i64 (I : Nat)) rfl rfl (by decide) (by kernel_rfl) (by kernel_rfl) (by kernel_rfl) (by kernel_rfl) (fun _ _ _ h => h) (by rfl) (fun _ _ => rfl) hHeld ?_
  simp only [Act.put, List.setIfInBounds_toArray, List.set_cons_zero, List.set_cons_succ]
  refine takeL 6 (some 28) (.agg (cellsN .u8 64 B)) rfl rfl (by decide) (by kernel_rfl) (by kernel_rfl) (by kernel_rfl) (by kernel_rfl) (fun _ _ _ h => h) (by rfl) (fun wz hz => run_load_row 102 _ rfl g rfl _ 102 Tryd.underlying102 (by rw [cellsN_size]; exact Tryd.size102) wz hz.2.2.2) hHeld ?_
  simp only [Act.put, List.setIfInBounds_toArray, List.set_cons_zero, List.set_cons_succ]
  refine takeL 7 (some 29) (ptr p) rfl rfl (by decide) (by kernel_rfl) (by kernel_rfl) (by kernel_rfl) (by kernel_rfl) (fun _ _ _ h => h) (by rfl) (fun _ _ => rfl) hHeld ?_
  simp only [Act.put, List.setIfInBounds_toArray, List.set_cons_zero, List.set_cons_succ]
  refine takeL 8 (some 30) (.pointer (some ⟨p, 0, none⟩)) rfl rfl (by decide) (by kernel_rfl) (by kernel_rfl) (by kernel_rfl) (by kernel_rfl) (fun _ _ _ h => h) (by rfl) (fun _ _ => rfl) hHeld ?_
  simp only [Act.put, List.setIfInBounds_toArray, List.set_cons_zero, List.set_cons_succ]
  refine takeL 9 (some 31) (.pointer (some ⟨p, 8, none⟩)) rfl rfl (by decide) (by kernel_rfl) (by kernel_rfl) (by kernel_rfl) (by kernel_rfl) (fun _ _ _ h => h) (by rfl) (fun _ _ => rfl) hHeld ?_
  simp only [Act.put, List.setIfInBounds_toArray, List.set_cons_zero, List.set_cons_succ]
  refine takeL 10 (some 32) (.pointer (some ⟨c, 0, none⟩)) rfl rfl (by decide) (by kernel_rfl) (by kernel_rfl) (by kernel_rfl) (by kernel_rfl) (fun _ _ _ h => h) (by rfl) (fun wz hz => run_load_pc _ rfl _ rfl _ wz hz.2.1) hHeld ?_
  simp only [Act.put, List.setIfInBounds_toArray, List.set_cons_zero, List.set_cons_succ]
  refine takeL 11 (some 33) (.pointer (some ⟨c, 0, none⟩)) rfl rfl (by decide) (by kernel_rfl) (by kernel_rfl) (by kernel_rfl) (by kernel_rfl) (fun _ _ _ h => h) (by rfl) (fun _ _ => rfl) hHeld ?_
  simp only [Act.put, List.setIfInBounds_toArray, List.set_cons_zero, List.set_cons_succ]
  refine takeL 12 (some 34) (.pointer (some ⟨c, 0, none⟩)) rfl rfl (by decide) (by kernel_rfl) (by kernel_rfl) (by kernel_rfl) (by kernel_rfl) (fun _ _ _ h => h) (by rfl) (fun _ _ => rfl) hHeld ?_
  simp only [Act.put, List.setIfInBounds_toArray, List.set_cons_zero, List.set_cons_succ]
  refine takeL 13 (some 35) (.int .i64 (m1 : Nat)) rfl rfl (by decide) (by kernel_rfl) (by kernel_rfl) (by kernel_rfl) (by kernel_rfl) (fun _ _ _ h => h) (by rfl) (fun wz hz => run_load_n _ rfl _ rfl _ wz hz.2.2.1) hHeld ?_
  simp only [Act.put, List.setIfInBounds_toArray, List.set_cons_zero, List.set_cons_succ]
  refine takeL 14 (some 36) (.bool tp) rfl rfl (by decide) (by kernel_rfl) (by kernel_rfl) (by kernel_rfl) (by kernel_rfl) (fun _ _ _ h => h) (by rfl) (fun _ _ => rfl) hHeld ?_
  simp only [Act.put, List.setIfInBounds_toArray, List.set_cons_zero, List.set_cons_succ]
  refine takeL 15 (some 37) (.agg (wcells ⟨I, B, false, tp, (m1 : Nat)⟩).toArray) rfl rfl (by decide) (by kernel_rfl) (by kernel_rfl) (by kernel_rfl) (by kernel_rfl) (fun _ _ _ h => h) (by rfl) (fun _ _ => run_build_w _ _ _ _ rfl _ _ _ _ rfl rfl rfl rfl _) hHeld ?_
  simp only [Act.put, List.setIfInBounds_toArray, List.set_cons_zero, List.set_cons_succ]
  rw [← he0]
  have hHeld8 := held (w6.drew.alloc (.cells (wcells e0).toArray 115)) (Only.of_below hA (Nat.le_refl _))
  refine valL 16 (some 38) (.slice (some ⟨w6.drew.heap.size, 0, none⟩) 1 1) (w6.drew.alloc (.cells (wcells e0).toArray 115)) (by kernel_rfl) rfl rfl (by rfl) (run_bs_w _ rfl e0 rfl w6.drew) hHeld8 ?_
  simp only [Act.put, List.setIfInBounds_toArray, List.set_cons_zero, List.set_cons_succ]
  have hHeld9 := held w7 hO7
  refine valL 17 (some 39) (.slice (some ⟨g7, 0, none⟩) (wrs s.log + 1) cap7) w7 (by kernel_rfl) rfl rfl (by rfl) (run_app 73 _ _ rfl vw (.slice (some ⟨w6.drew.heap.size, 0, none⟩) 1 1) rfl rfl _ 73 rfl hr7) hHeld9 ?_
  simp only [Act.put, List.setIfInBounds_toArray, List.set_cons_zero, List.set_cons_succ]
  refine valL 18 (some 40) (.pointer (some ⟨p, 0, none⟩)) w7 (by kernel_rfl) rfl rfl (by rfl) (by kernel_rfl) hHeld9 ?_
  simp only [Act.put, List.setIfInBounds_toArray, List.set_cons_zero, List.set_cons_succ]
  refine valL 19 (some 41) (.pointer (some ⟨p, 5, none⟩)) w7 (by kernel_rfl) rfl rfl (by rfl) (by kernel_rfl) hHeld9 ?_
  simp only [Act.put, List.setIfInBounds_toArray, List.set_cons_zero, List.set_cons_succ]
  have hR7 : Has w7 p 77 (dcells s.n s.dead bb bs bc vw vs (pend s.log) c) := (hO7.block p hR6.has.lt hR6.wr_p).trans hR6.has
  have f7 := hR7.free 5
  refine lastSkip 20 none (w7.setCell ⟨p, 5, none⟩ (.slice (some ⟨g7, 0, none⟩) (wrs s.log + 1) cap7)) (by kernel_rfl) rfl rfl (by rfl) (run_store_ws _ _ rfl ⟨p, 5, none⟩ rfl _ _ _ rfl w7 _ hHeld9.1 f7) (by kernel_rfl) ?_
  simp only [Act.put]
  obtain ⟨v7, hv7⟩ : ∃ v7 : Value, v7 = .slice (some ⟨g7, 0, none⟩) (wrs s.log + 1) cap7 := ⟨_, rfl⟩
  rw [← hv7]
  rw [← hv7] at hown7
  have hl7' : ∀ k, v7.ownBlock = some k → vw.ownBlock = some k ∨ w6.heap.size ≤ k := by
    intro k hk
    rw [hv7] at hk
    have hk' : g7 = k := by simpa [Value.ownBlock] using hk
    subst hk'
    rcases hl7 with h1 | h1
    · exact .inl h1
    · have h2 : g7 = w6.heap.size + 1 := h1
      exact .inr (by omega)
  obtain ⟨w8, hw8⟩ : ∃ w8, w8 = w7.setCell ⟨p, 5, none⟩ v7 := ⟨_, rfl⟩
  rw [← hw8]
  have hO8 : Only (fun k => k = p) w7 w8 := by rw [hw8]; exact only_setCell _ _ _ _
  have hR8 : Has w8 p 77 (dcells s.n s.dead bb bs bc v7 vs (pend s.log) c) := by rw [hw8]; exact hR7.setV 5 v7
  have hnow7 : SecMap w7 bc s.n (holds s) := hR6.now.kept (hO7.block _ hR6.now.lt hR6.wr_bc)
  have hnow8 : SecMap w8 bc s.n (holds s) := hnow7.kept (hO8.block _ hnow7.lt (hnow7.ne hR7))
  have hH8 : Has w8 g 102 (cellsN .u8 64 B) := (hO8.block g hHeld9.2.2.2.lt (fun e => hgF p (.inl rfl) e.symm)).trans hHeld9.2.2.2
  have q4 : w8.cell? ⟨p, 4, none⟩ = some (.map (some bc)) := hR8.cell 4
  have hnow8d : SecMap w8.drew bc s.n (holds s) := hnow8.kept rfl
  obtain ⟨w9, hr9, hs9, ho9, hz9⟩ := hnow8d.put I B
  have hDr8 : Below w8.heap.size w8 w8.drew := (Below.refl _ w8).drew
  have ho89 : Only (fun k => k = bc) w8 w9 := ⟨ho9.os.trans hDr8.os, ho9.tape.trans hDr8.tape, ho9.output.trans hDr8.output, Nat.le_trans hDr8.size ho9.size, fun k hk hn => (ho9.block k hk hn).trans (hDr8.block k hk)⟩
  clear hw8 hw6
  go_wp2
  refine lastTo (S := fun wz => wz.cell? ⟨p, 4, none⟩ = some (.map (some bc)) ∧ Has wz g 102 (cellsN .u8 64 B)) 6 (by kernel_rfl) ⟨q4, hH8⟩ (fun hHeld => ?_)
  refine takeL 0 (some 42) (ptr p) rfl rfl (by decide) (by kernel_rfl) (by kernel_rfl) (by kernel_rfl) (by kernel_rfl) (fun _ _ _ h => h) (by rfl) (fun _ _ => rfl) hHeld ?_
  simp only [Act.put, List.setIfInBounds_toArray, List.set_cons_zero, List.set_cons_succ]
  refine takeL 1 (some 43) (.pointer (some ⟨p, 0, none⟩)) rfl rfl (by decide) (by kernel_rfl) (by kernel_rfl) (by kernel_rfl) (by kernel_rfl) (fun _ _ _ h => h) (by rfl) (fun _ _ => rfl) hHeld ?_
  simp only [Act.put, List.setIfInBounds_toArray, List.set_cons_zero, List.set_cons_succ]
  refine takeL 2 (some 44) (.pointer (some ⟨p, 4, none⟩)) rfl rfl (by decide) (by kernel_rfl) (by kernel_rfl) (by kernel_rfl) (by kernel_rfl) (fun _ _ _ h => h) (by rfl) (fun _ _ => rfl) hHeld ?_
  simp only [Act.put, List.setIfInBounds_toArray, List.set_cons_zero, List.set_cons_succ]
  refine takeL 3 (some 45) (.map (some bc)) rfl rfl (by decide) (by kernel_rfl) (by kernel_rfl) (by kernel_rfl) (by kernel_rfl) (fun _ _ _ h => h) (by rfl) (fun wz hz => run_load_sm _ rfl _ rfl _ wz hz.1) hHeld ?_
  simp only [Act.put, List.setIfInBounds_toArray, List.set_cons_zero, List.set_cons_succ]
  refine takeL 4 (some 46) (.int .i64 (I : Nat)) rfl rfl (by decide) (by kernel_rfl) (by kernel_rfl) (by kernel_rfl) (by kernel_rfl) (fun _ _ _ h => h) (by rfl) (fun _ _ => rfl) hHeld ?_
  simp only [Act.put, List.setIfInBounds_toArray, List.set_cons_zero, List.set_cons_succ]
  refine takeL 5 (some 47) (.agg (cellsN .u8 64 B)) rfl rfl (by decide) (by kernel_rfl) (by kernel_rfl) (by kernel_rfl) (by kernel_rfl) (fun _ _ _ h => h) (by rfl) (fun wz hz => run_load_row 102 _ rfl g rfl _ 102 Tryd.underlying102 (by rw [cellsN_size]; exact Tryd.size102) wz hz.2) hHeld ?_
  simp only [Act.put, List.setIfInBounds_toArray, List.set_cons_zero, List.set_cons_succ]
  refine lastSkip 6 none w9 (by kernel_rfl) rfl rfl (by rfl) (run_mapUpd 60 _ _ _ rfl (.map (some bc)) (.int .i64 (I : Nat)) (.agg (cellsN .u8 64 B)) rfl rfl rfl hr9) (by kernel_rfl) ?_
  simp only [Act.put]
  go_end0
  have hAll : Only (fun k => k = p ∨ k = c ∨ k = bc ∨ vw.ownBlock = some k) w w9 :=
    (((hO06.mono (G := fun k => k = p ∨ k = c ∨ k = bc ∨ vw.ownBlock = some k) (fun k hk => .inr (.inl hk))).trans hO7 (fun x _ hx => .inr (.inr (.inr hx)))).trans hO8 (fun x _ hx => .inl hx)).trans ho89 (fun x _ hx => .inr (.inr (.inl hx)))
  have hsz6 : w.heap.size ≤ w6.heap.size := hO06.size
  have hR9 : Has w9 p 77 (dcells s.n s.dead bb bs bc v7 vs (pend s.log) c) := (ho89.block p hR8.lt h.bc_p.symm).trans hR8
  have hcl7 : Has w7 c 104 #[.int .i64 (m1 : Nat)] := (hO7.block c hcl6.lt hcw).trans hcl6
  have hcl8 : Has w8 c 104 #[.int .i64 (m1 : Nat)] := (hO8.block c hcl7.lt hcp).trans hcl7
  have hcl9 : Has w9 c 104 #[.int .i64 (m1 : Nat)] := (ho89.block c hcl8.lt hcbc).trans hcl8
  have hown8 : w8.ownsRow 0 115 67 v7 (wrs s.log + 1) (Wc s.log ++ wcells e0) := own_kept hown7 (fun q hq => hO8.block q (hown7.lt q hq).2 (fun e => by obtain ⟨cur, hcur⟩ := own_block hown7 hq; exact cells_ne hcur hR7 (by decide) e))
  have hown9 : w9.ownsRow 0 115 67 v7 (wrs s.log + 1) (Wc s.log ++ wcells e0) := own_kept hown8 (fun q hq => ho89.block q (hown8.lt q hq).2 (fun e => by obtain ⟨cur, hcur⟩ := own_block hown8 hq; exact hnow8.ne hcur e.symm))
  have he1 : (⟨I, full b L, false, tp, ((m + 1 : Nat) : Int)⟩ : AE) = e0 := by rw [he0, hB, hm1]
  refine ⟨rfl, v7, ?_⟩
  rw [he1, ← hm1]
  refine ⟨hAll, fun k hk => (hl7' k hk).imp id (fun h1 => Nat.le_trans hsz6 h1), hR9, hcl9, fun w3 ho3 hh3 => ?_⟩
  have hns : e0.sync = false := by rw [he0]
  have hlog : (addD s e0).log = s.log ++ [e0] := rfl
  have hws0 : ws [e0] = [e0] := by simp [ws, hns]
  refine ⟨hh3, h.n1, h.n2, h.bad.kept ((ho3.block _ (Nat.lt_of_lt_of_le h.bad.lt hAll.size) h.bb_p).trans (hAll.block _ h.bad.lt ?_)), h.fst.kept ((ho3.block _ (Nat.lt_of_lt_of_le h.fst.lt hAll.size) h.bs_p).trans (hAll.block _ h.fst.lt ?_)), ?_, ?_, ?_, h.d1, h.d2, h.d3, ?_⟩
  · rintro (q | q | q | q)
    · exact h.bb_p q
    · exact hcF (.inr (.inl q.symm))
    · exact h.d2 q
    · exact h.wr_bb q
  · rintro (q | q | q | q)
    · exact h.bs_p q
    · exact hcF (.inr (.inr (.inl q.symm)))
    · exact h.d3 q
    · exact h.wr_bs q
  · refine (hs9.kept (ho3.block _ hs9.lt h.bc_p)).congr (fun i hi j hj => ?_)
    rw [holds_add]
    unfold upF
    rw [he0]
    simp
  · have hw1 : wrs (addD s e0).log = wrs s.log + 1 := by rw [hlog, wrs_snoc, hns]; rfl
    have hw2 : Wc (addD s e0).log = Wc s.log ++ wcells e0 := by rw [hlog]; unfold Wc; rw [ws_append, hws0, List.flatMap_append]; simp
    rw [hw1, hw2]
    exact own_kept hown9 (fun q hq => ho3.block q (hown9.lt q hq).2 (fun e => by obtain ⟨cur, hcur⟩ := own_block hown9 hq; exact cells_ne hcur hR9 (by decide) e))
  · have hsy : syOf (addD s e0).log = syOf s.log := by rw [hlog, syOf_snoc, hns]; simp
    unfold Sc
    rw [hsy]
    exact own_kept h.sy (fun q hq => (ho3.block q (Nat.lt_of_lt_of_le (h.sy.lt q hq).2 hAll.size) (fun e => h.sy_p (e ▸ hq))).trans (hAll.block q (h.sy.lt q hq).2 (by
      rintro (r | r | r | r)
      · exact h.sy_p (r ▸ hq)
      · exact hcF (.inr (.inr (.inr (.inr (.inr (r ▸ hq))))))
      · exact h.sy_bc (r ▸ hq)
      · exact h.wr_sy r hq)))
  · exact rise_snoc s.log h.rise e0 (m : Nat) hp (by rw [he0, hm1]; simp)
end Go.Proofs.YtoiaclmfljoomaaDoor

/- device: Write, Tamper. -/
namespace Go.Proofs.YtoiaclmfljoomaaDoor
open Go.ChangeShapes Go.WideShapes Go.ChangeAt Go.RowKit
set_option linter.unusedVariables false

variable {w w' : World} {p c bb bs bc : Nat} {s : DS} {vw vs : Value}

theorem pend_le (l : List AE) : pend l ≤ l.length := by
  induction l with
  | nil => exact Nat.le_refl _
  | cons e l ih =>
    show (if l.any (·.sync) then pend l else (if e.sync || e.sure then 0 else 1) + pend l) ≤ l.length + 1
    split
    · omega
    · split <;> omega

/-- delete, in a walk. -/
theorem wpList_del {ops : Array Oper} {rest : List Oper} {o : Oper} {a : Act} {w : World} {Q : Exit → Act → World → Prop} (hgd : o.guard = none) (x y : Operand) (t e : TypeId) (ho : o.op = .call { callee := .builtin .delete, args := #[x, y], argTypes := #[t, 3] }) (ht : Tryd.prog.underlying t = some (.map 3 e))
    (b : Nat) (f : Int → Option Value) (hm : MapIs w b f) (k : Int) (hx : a.eval x = .map (some b)) (hy : a.eval y = .int .i64 k)
    (h : ∀ w', MapIs w' b (fun x => if x = k then none else f x) → Only (fun q => q = b) w w' → wpList Tryd.prog ops Q rest (a.put o.dst (.tuple #[])) w') : wpList Tryd.prog ops Q (o :: rest) a w := by
  obtain ⟨w', hr, h1, h2, _⟩ := hm.del ht k o.type
  refine wpList_plain hgd fun K hK => ?_
  unfold Oper.wp
  have hrun : (execOp a.eval o).run Tryd.prog w = .ok (.value (.tuple #[])) w' := by
    unfold execOp
    simp [ho, resolve, invoke, builtin, hx, hy, hr]
  rw [hrun]
  exact hK _ _ (h w' h1 h2)

theorem wr_inside (s : DS) (i : Int) (L : Nat) (h : wrErr s i L = 0) : s.dead = false ∧ 0 ≤ i ∧ i < s.n ∧ L ≤ 64 := by
  unfold wrErr at h
  split at h
  · cases h
  · rename_i hd
    split at h
    · cases h
    · split at h
      · cases h
      · exact ⟨by simpa using hd, by omega, by omega, by omega⟩

theorem past_add (s : DS) (m : Nat) (hp : Past s m) (i : Nat) (b : Nat → Nat) (sy su : Bool) : ∀ e ∈ (addD s ⟨i, b, sy, su, ((m + 1 : Nat) : Int)⟩).log, e.mo ≤ ((m + 1 : Nat) : Int) := by
  intro e he
  have he' : e ∈ s.log ++ [_] := he
  rcases List.mem_append.1 he' with h | h
  · have := hp e h
    omega
  · rw [List.mem_singleton] at h
    rw [h]
    exact Int.le_refl _

/-- Grown by what was added. -/
theorem foot_grew {w : World} {p bb bs bc : Nat} {vw vw' vs : Value} (hg : ∀ k, vw'.ownBlock = some k → vw.ownBlock = some k ∨ w.heap.size ≤ k) (k : Nat) (hk : Foot p bb bs bc vw' vs k) : Foot p bb bs bc vw vs k ∨ w.heap.size ≤ k := by
  rcases hk with h | h | h | h | h | h
  · exact .inl (.inl h)
  · exact .inl (.inr (.inl h))
  · exact .inl (.inr (.inr (.inl h)))
  · exact .inl (.inr (.inr (.inr (.inl h))))
  · rcases hg k h with h | h
    · exact .inl (.inr (.inr (.inr (.inr (.inl h)))))
    · exact .inr h
  · exact .inl (.inr (.inr (.inr (.inr (.inr h)))))



set_option maxRecDepth 100000 in
set_option maxHeartbeats 4000000 in
theorem write_c (h : RepAt w p s c bb bs bc vw vs) {m : Nat} (hc : Has w c 104 #[.int .i64 (m : Nat)]) (hcF : ¬ Foot p bb bs bc vw vs c) (hp : Past s m) (I : Nat) (a : Option Addr) (L C : Nat) (b : Nat → Nat) (hb : Bytes w a L b) (hm : m ≤ 100000) (hlen : s.log.length ≤ 100000) (h0 : wrErr s (I : Nat) L = 0) :
    Calls Tryd.prog 39 #[ptr p, .int .i64 (I : Nat), .slice a L C] w fun e w' => e = .returned (.int .i64 0) ∧ ∃ vw', Only (fun k => Foot p bb bs bc vw vs k ∨ k = c) w w' ∧ (∀ k, vw'.ownBlock = some k → vw.ownBlock = some k ∨ w.heap.size ≤ k) ∧ Has w' c 104 #[.int .i64 ((m + 1 : Nat) : Int)] ∧ RepAt w' p (wroteD s I (full b L) ((m + 1 : Nat) : Int)) c bb bs bc vw' vs := by
  have hr := writeRefusal_r h (I : Nat) a L C
  rw [h0] at hr
  obtain ⟨_, _, hI, hL⟩ := wr_inside s (I : Nat) L h0
  have hpt := put_r h hc hcF hp I a L C b hL hb false hm hlen
  obtain ⟨e0, he0⟩ : ∃ e0 : AE, e0 = ⟨I, full b L, false, false, ((m + 1 : Nat) : Int)⟩ := ⟨_, rfl⟩
  rw [← he0] at hpt
  have hpd : pend (addD s e0).log = pend s.log + 1 := by
    show pend (s.log ++ [e0]) = _
    rw [pend_snoc, he0]
    simp
  have hple : pend s.log ≤ 100000 := Nat.le_trans (pend_le _) hlen
  have hst : wroteD s I (full b L) ((m + 1 : Nat) : Int) = { addD s e0 with bad := fun k => if k = I then false else s.bad k } := by rw [he0]; rfl
  have hlt := h.has.lt
  have hclt := hc.lt
  have hbp := h.bb_p
  have hcp : c ≠ p := fun e => hcF (.inl e)
  have hcb : bb ≠ c := fun e => hcF (.inr (.inl e.symm))
  have hblt := h.bad.lt
  clear h hc hb
  go_enter Tryd.func39, Tryd.ntmps39
  go_wp2_with (first
    | ((go_at_call 63)
       (refine hr.mono ?_)
       (rintro e w' ⟨rfl, hw'⟩; obtain rfl : w = w' := hw'.symm))
    | ((go_at_call 64)
       (refine hpt.mono ?_)
       (rintro e w1 ⟨rfl, vw', hpost⟩)
       (have k7 : w1.cell? ⟨p, 7, none⟩ = some (.int .i64 (pend s.log : Nat)) := hpost.has.cell 7)
       (have k2 : w1.cell? ⟨p, 2, none⟩ = some (.map (some bb)) := hpost.has.cell 2)
       (have kf := hpost.has.free 7)
       (have hH2 := hpost.has.setV 7 (.int .i64 ((pend s.log + 1 : Nat) : Int)))
       (have hR2 := hpost.rep (w1.setCell ⟨p, 7, none⟩ (.int .i64 ((pend s.log + 1 : Nat) : Int))) (only_setCell _ _ _ _) (by rw [hpd]; exact hH2))
       (obtain ⟨f, hf, hff⟩ := hR2.bad)
       (rw [show (((pend s.log + 1 : Nat) : Int)) = ((pend s.log : Nat) : Int) + 1 from by simp] at hf hR2))
    | ((refine wpList_del rfl (.tmp 29) (.tmp 30) 72 86 rfl Tryd.underlying72 bb f hf (I : Nat) rfl rfl ?_)
       (intro w3 hm3 ho3)))
  go_ret
  have hsz : w1.heap.size = (w1.setCell ⟨p, 7, none⟩ (.int .i64 (((pend s.log : Nat) : Int) + 1))).heap.size := by simp [World.setCell]
  have hO12 := only_setCell w1 p 7 (.int .i64 (((pend s.log : Nat) : Int) + 1))
  refine ⟨rfl, vw', ?_, hpost.grew, ?_, ?_⟩
  · refine ((hpost.only.mono (G := fun k => Foot p bb bs bc vw vs k ∨ k = c) ?_).trans hO12 (fun x _ hx => .inl (.inl hx))).trans ho3 (fun x _ hx => .inl (.inr (.inl hx)))
    rintro k (q | q | q | q)
    · exact .inl (.inl q)
    · exact .inr q
    · exact .inl (.inr (.inr (.inr (.inl q))))
    · exact .inl (.inr (.inr (.inr (.inr (.inl q)))))
  · have h2 : Has (w1.setCell ⟨p, 7, none⟩ (.int .i64 (((pend s.log : Nat) : Int) + 1))) c 104 #[.int .i64 ((m + 1 : Nat) : Int)] := (hO12.block c hpost.clock.lt hcp).trans hpost.clock
    exact (ho3.block c h2.lt (Ne.symm hcb)).trans h2
  · rw [hst]
    refine ⟨(ho3.block p hR2.has.lt (Ne.symm hbp)).trans hR2.has, hR2.n1, hR2.n2, ⟨_, hm3, fun x => ?_⟩, hR2.fst.kept (ho3.block _ hR2.fst.lt hR2.d1.symm), hR2.now.kept (ho3.block _ hR2.now.lt hR2.d2.symm),
      own_kept hR2.wr (fun g hg => ho3.block g (hR2.wr.lt g hg).2 (fun e => hR2.wr_bb (e ▸ hg))), own_kept hR2.sy (fun g hg => ho3.block g (hR2.sy.lt g hg).2 (fun e => hR2.sy_bb (e ▸ hg))), hR2.d1, hR2.d2, hR2.d3, hR2.rise⟩
    show (if x = (I : Int) then none else f x).isSome = (decide (0 ≤ x ∧ x < s.n) && (if x.toNat = I then false else s.bad x.toNat)) ∧ (if x = (I : Int) then none else f x).getD (Value.agg #[]) = .agg #[]
    by_cases hx : x = (I : Int)
    · subst hx
      rw [if_pos rfl, if_pos (by omega)]
      exact ⟨by simp, rfl⟩
    · rw [if_neg hx, (hff x).1]
      refine ⟨?_, (hff x).2⟩
      show (decide (0 ≤ x ∧ x < s.n) && s.bad x.toNat) = _
      by_cases hin : 0 ≤ x ∧ x < s.n
      · rw [if_neg (fun e => hx (by omega))]
      · rw [decide_eq_false hin]
        rfl

set_option maxRecDepth 100000 in
set_option maxHeartbeats 1000000 in
theorem writeNo_c (h : RepAt w p s c bb bs bc vw vs) (i : Int) (a : Option Addr) (L C : Nat) (h0 : wrErr s i L ≠ 0) :
    Calls Tryd.prog 39 #[ptr p, .int .i64 i, .slice a L C] w fun e w' => e = .returned (.int .i64 (wrErr s i L)) ∧ w' = w := by
  have hr := writeRefusal_r h i a L C
  clear h
  generalize wrErr s i L = q at hr h0 ⊢
  go_enter Tryd.func39, Tryd.ntmps39
  go_wp2_with (first
    | ((go_at_call 63)
       (refine hr.mono ?_)
       (rintro e w' ⟨rfl, hw'⟩; obtain rfl : w = w' := hw'.symm)))
  go_ret
  exact ⟨rfl, rfl⟩
end Go.Proofs.YtoiaclmfljoomaaDoor
