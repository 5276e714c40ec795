/- Devices as the chapter has them: reckoning alone. -/
import Derived.WalkKit
namespace Go.Proofs.Ytancebpjfbbcaaa
set_option linter.unusedVariables false

/-- A write (or a tampering), or a Sync. -/
structure AE where
  i : Nat
  b : Nat → Nat
  sync : Bool
  sure : Bool
  mo : Int

/-- A device: what it held at first, all that came, what is bad, whether it is dead. -/
structure DS where
  n : Nat
  fst : Nat → Nat → Nat
  log : List AE
  bad : Nat → Bool
  dead : Bool

/-- Bytes, and noughts behind them. -/
def full (b : Nat → Nat) (L : Nat) : Nat → Nat := fun j => if j < L then b j else 0

theorem full_lt (b : Nat → Nat) (L : Nat) (h : ∀ j, b j < 256) (j : Nat) : full b L j < 256 := by
  unfold full
  split
  · exact h j
  · decide

def upF (f : Nat → Nat → Nat) (e : AE) : Nat → Nat → Nat := fun i => if e.sync = false ∧ i = e.i then e.b else f i

/-- What the sectors hold. -/
def holds (s : DS) : Nat → Nat → Nat := s.log.foldl upF s.fst

def wrs (l : List AE) : Nat := (l.filter fun e => !e.sync).length

/-- How many are not safe: those behind the last Sync that are not sure. -/
def pend : List AE → Nat
  | [] => 0
  | e :: l => if l.any (·.sync) then pend l else (if e.sync || e.sure then 0 else 1) + pend l

/-- Which of some entries are left: those ahead of the last Sync, the sure ones, and of the others (numbered from k on) those that are kept. -/
def left (keep : Nat → Bool) : Nat → List AE → (Nat → Nat → Nat) → Nat → Nat → Nat
  | _, [], f => f
  | k, e :: l, f =>
    if e.sync then left keep k l f
    else if e.sure || l.any (·.sync) then left keep k l (upF f e)
    else left keep (k + 1) l (if keep k then upF f e else f)

def keepOf (M : Nat → Bool) (L : Nat) : Nat → Bool := fun k => decide (k < L) && M k

def fresh (n : Nat) : DS := ⟨n, fun _ _ => 0, [], fun _ => false, false⟩

/-- The device that is left. -/
def cutL (s : DS) (l : List AE) (keep : Nat → Bool) : DS := ⟨s.n, left keep 0 l s.fst, [], s.bad, s.dead⟩
def cutD (s : DS) (keep : Nat → Bool) : DS := cutL s s.log keep

/-- The entries up to the n-th write, ahead of anything behind it. -/
def upTo : Nat → List AE → List AE
  | 0, _ => []
  | _, [] => []
  | n + 1, e :: l => e :: upTo (if e.sync then n + 1 else n) l
def cutAtD (s : DS) (n : Int) (keep : Nat → Bool) : DS := cutL s (upTo (min n.toNat (wrs s.log)) s.log) keep

def momL (m : Int) (l : List AE) : List AE := l.filter fun e => if e.sync then decide (e.mo < m) else decide (e.mo ≤ m)
def cutMoD (s : DS) (clock : Nat) (m : Int) (keep : Nat → Bool) : DS := cutL s (momL (max (min m clock) 0) s.log) keep

def anewE (e : AE) : AE := { e with mo := if e.sync then -1 else 0 }
def anewD (s : DS) : DS := { s with log := s.log.map anewE }

def addD (s : DS) (e : AE) : DS := { s with log := s.log ++ [e] }
def wroteD (s : DS) (i : Nat) (b : Nat → Nat) (mo : Int) : DS := { addD s ⟨i, b, false, false, mo⟩ with bad := fun k => if k = i then false else s.bad k }
def tampD (s : DS) (i : Nat) (b : Nat → Nat) (mo : Int) : DS := addD s ⟨i, b, false, true, mo⟩
def syncD (s : DS) (mo : Int) : DS := addD s ⟨0, fun _ => 0, true, false, mo⟩
def spoilD (s : DS) (i : Nat) : DS := { s with bad := fun k => if k = i then true else s.bad k }
def killD (s : DS) : DS := { s with dead := true }

/-- What a write answers. -/
def wrErr (s : DS) (i : Int) (L : Nat) : Int := if s.dead then 73 else if i < 0 ∨ (s.n : Int) ≤ i then 71 else if 64 < L then 1 else 0
def rdErr (s : DS) (i : Int) : Int := if s.dead then 73 else if i < 0 ∨ (s.n : Int) ≤ i then 71 else if s.bad i.toNat then 72 else 0

/-! What is kept -/

theorem holds_add (s : DS) (e : AE) : holds (addD s e) = upF (holds s) e := by
  unfold holds addD
  simp [List.foldl_append]

theorem any_snoc_sync (l : List AE) (e : AE) (he : e.sync = true) : (l ++ [e]).any (·.sync) = true := by simp [he]

/-- All that is ahead of a Sync is left. -/
theorem left_ahead (keep : Nat → Bool) (k : Nat) (l m : List AE) (f : Nat → Nat → Nat) (e : AE) (he : e.sync = true) : left keep k (l ++ e :: m) f = left keep k m (l.foldl upF f) := by
  induction l generalizing f with
  | nil =>
    show (if e.sync then left keep k m f else _) = _
    rw [if_pos he]
    rfl
  | cons d l ih =>
    have ha : (l ++ e :: m).any (·.sync) = true := by simp [he]
    show (if d.sync then left keep k (l ++ e :: m) f else if d.sure || (l ++ e :: m).any (·.sync) then left keep k (l ++ e :: m) (upF f d) else _) = _
    by_cases hd : d.sync = true
    · rw [if_pos hd, ih]
      have : upF f d = f := by
        funext i
        unfold upF
        rw [if_neg (by simp [hd])]
      rw [List.foldl_cons, this]
    · rw [if_neg hd, if_pos (by rw [ha]; simp), ih, List.foldl_cons]

/-- What a sector holds in what is left: what it held, or what a write left. -/
theorem left_or (keep : Nat → Bool) (l : List AE) : ∀ (k : Nat) (f : Nat → Nat → Nat) (i : Nat), left keep k l f i = f i ∨ ∃ e ∈ l, e.sync = false ∧ e.i = i ∧ left keep k l f i = e.b := by
  induction l with
  | nil => intro k f i; exact .inl rfl
  | cons d l ih =>
    intro k f i
    have step : ∀ k', left keep k' l (upF f d) i = f i ∨ ∃ e ∈ d :: l, e.sync = false ∧ e.i = i ∧ left keep k' l (upF f d) i = e.b := by
      intro k'
      rcases ih k' (upF f d) i with h | ⟨e, he, h1, h2, h3⟩
      · by_cases hd : d.sync = false ∧ i = d.i
        · exact .inr ⟨d, by simp, hd.1, hd.2.symm, by rw [h]; unfold upF; rw [if_pos hd]⟩
        · exact .inl (by rw [h]; unfold upF; rw [if_neg hd])
      · exact .inr ⟨e, by simp [he], h1, h2, h3⟩
    have keepf : ∀ k', left keep k' l f i = f i ∨ ∃ e ∈ d :: l, e.sync = false ∧ e.i = i ∧ left keep k' l f i = e.b := by
      intro k'
      rcases ih k' f i with h | ⟨e, he, h1⟩
      · exact .inl h
      · exact .inr ⟨e, by simp [he], h1⟩
    unfold left
    split
    · exact keepf k
    · split
      · exact step k
      · split
        · exact step (k + 1)
        · exact keepf (k + 1)

/-- All kept: what is left is what it holds. -/
theorem left_all (keep : Nat → Bool) (l : List AE) : ∀ (k : Nat) (f : Nat → Nat → Nat), (∀ q, k ≤ q → q < k + wrs l → keep q = true) → left keep k l f = l.foldl upF f := by
  induction l with
  | nil => intro k f _; rfl
  | cons d l ih =>
    intro k f h
    have hw : wrs (d :: l) = (if d.sync then 0 else 1) + wrs l := by
      unfold wrs
      cases hd : d.sync <;> simp [hd, Nat.add_comm]
    rw [hw] at h
    unfold left
    split
    · rename_i hd
      rw [if_pos hd] at h
      rw [ih k f (fun q h1 h2 => h q h1 (by omega)), List.foldl_cons]
      congr 1
      funext i
      unfold upF
      rw [if_neg (by simp [hd])]
    · rename_i hd
      rw [if_neg hd] at h
      split
      · rw [ih k _ (fun q h1 h2 => h q h1 (by omega)), List.foldl_cons]
      · rw [if_pos (h k (Nat.le_refl _) (by omega)), ih (k + 1) _ (fun q h1 h2 => h q (by omega) (by omega)), List.foldl_cons]

theorem wrs_cons (d : AE) (l : List AE) : wrs (d :: l) = (if d.sync then 0 else 1) + wrs l := by
  unfold wrs
  cases hd : d.sync <;> simp [hd, Nat.add_comm]

theorem upF_sync (f : Nat → Nat → Nat) (d : AE) (h : d.sync = true) : upF f d = f := by
  funext i
  unfold upF
  rw [if_neg (by simp [h])]

theorem fold_none (l : List AE) : ∀ f : Nat → Nat → Nat, wrs l = 0 → l.foldl upF f = f := by
  induction l with
  | nil => intro f _; rfl
  | cons d l ih =>
    intro f h
    rw [wrs_cons] at h
    by_cases hd : d.sync = true
    · rw [List.foldl_cons, upF_sync f d hd, ih f (by rw [if_pos hd] at h; omega)]
    · rw [if_neg hd] at h
      omega

theorem upTo_nil (n : Nat) : upTo n [] = [] := by cases n <;> rfl

theorem upTo_fold (l : List AE) : ∀ f : Nat → Nat → Nat, (upTo (wrs l) l).foldl upF f = l.foldl upF f := by
  induction l with
  | nil => intro f; rw [upTo_nil]
  | cons d l ih =>
    intro f
    rw [wrs_cons]
    by_cases hd : d.sync = true
    · rw [if_pos hd, Nat.zero_add, List.foldl_cons, upF_sync f d hd]
      by_cases h0 : wrs l = 0
      · rw [h0, fold_none l f h0]
        rfl
      · obtain ⟨m, hm⟩ : ∃ m, wrs l = m + 1 := ⟨wrs l - 1, by omega⟩
        rw [hm]
        show (d :: upTo (if d.sync then m + 1 else m) l).foldl upF f = _
        rw [if_pos hd, ← hm, List.foldl_cons, upF_sync f d hd, ih]
    · rw [if_neg hd, Nat.add_comm]
      show (d :: upTo (if d.sync then wrs l + 1 else wrs l) l).foldl upF f = _
      rw [if_neg hd, List.foldl_cons, List.foldl_cons, ih]

theorem upTo_wrs (l : List AE) : ∀ n, wrs (upTo n l) ≤ n := by
  induction l with
  | nil => intro n; rw [upTo_nil]; simp [wrs]
  | cons d l ih =>
    intro n
    cases n with
    | zero => simp [upTo, wrs]
    | succ n =>
      show wrs (d :: upTo (if d.sync then n + 1 else n) l) ≤ n + 1
      rw [wrs_cons]
      by_cases hd : d.sync = true
      · rw [if_pos hd, if_pos hd]
        have := ih (n + 1)
        omega
      · rw [if_neg hd, if_neg hd]
        have := ih n
        omega

theorem wrs_snoc (l : List AE) (e : AE) : wrs (l ++ [e]) = wrs l + (if e.sync then 0 else 1) := by
  unfold wrs
  cases he : e.sync <;> simp [he]

theorem pend_snoc (l : List AE) (e : AE) : pend (l ++ [e]) = if e.sync then 0 else pend l + (if e.sure then 0 else 1) := by
  induction l with
  | nil =>
    show (if ([] : List AE).any (·.sync) then pend [] else (if e.sync || e.sure then 0 else 1) + pend []) = _
    cases h1 : e.sync <;> cases h2 : e.sure <;> simp [pend]
  | cons d l ih =>
    show (if (l ++ [e]).any (·.sync) then pend (l ++ [e]) else (if d.sync || d.sure then 0 else 1) + pend (l ++ [e])) = _
    rw [ih]
    cases h1 : e.sync
    · have ha : (l ++ [e]).any (·.sync) = l.any (·.sync) := by simp [h1]
      rw [ha]
      simp only [Bool.false_eq_true, if_false]
      show _ = (if l.any (·.sync) then pend l else (if d.sync || d.sure then 0 else 1) + pend l) + _
      split <;> omega
    · have ha : (l ++ [e]).any (·.sync) = true := by simp [h1]
      rw [ha]
      simp
end Go.Proofs.Ytancebpjfbbcaaa
