/- Texts that the statements of this stage share, joined: LxMath, LxJoin, LxAgain, LxLawM, LxWords, PsMath, Bas. -/
import Derived.Lib.Atoi
import Derived.Test.YtpckmllmjdafpaaGreatDoorRows
import Derived.WalkKit
import Derived.ProofKit
import Derived.OpenShut
import Derived.Below
import Derived.WalkLawsBesides
import Derived.WalkSpells
import Derived.Laws.BitsAllLaws
import Derived.Deep.QuietTactic
import Derived.BigQuiet
import Derived.Deep.WholeRow
import Derived.Deep.MidRow
import Derived.Laws.AppendOwnNone
import Derived.OwnWalk
import Derived.DeepKeys
import Derived.Deep.AppendLies
import Derived.Laws.CopyOwn

/- Texts as tokens: plain lists of bytes. -/
namespace Go.Proofs.YtpckmllmjdafpaaGreatDoor
set_option linter.unusedVariables false

def isBlk (c : UInt8) : Bool := c == 9 || c == 10 || c == 13 || c == 32
def isFig (c : UInt8) : Bool := decide (48 ≤ c.toNat) && decide (c.toNat ≤ 57)
def isSml (c : UInt8) : Bool := decide (97 ≤ c.toNat) && decide (c.toNat ≤ 122)
def isLet (c : UInt8) : Bool := isSml c || c == 95
def isWdy (c : UInt8) : Bool := isLet c || isFig c
def isHxy (c : UInt8) : Bool := isFig c || (decide (97 ≤ c.toNat) && decide (c.toNat ≤ 102))
def isLin (c : UInt8) : Bool := !(c == 10)
def isSgn (c : UInt8) : Bool := c == 40 || c == 41 || c == 44 || c == 61 || c == 59

/-- How many bytes of a kind stand ahead. -/
def cnt (p : UInt8 → Bool) (x : List UInt8) : Nat := (x.takeWhile p).length

/-- How many bytes of blanks and notes stand ahead (true: a note is under way). -/
def skp : Bool → List UInt8 → Nat
  | _, [] => 0
  | false, c :: t => if isBlk c then skp false t + 1 else if c == 47 && t.head? == some 47 then skp true t + 1 else 0
  | true, c :: t => if c == 10 then skp false t + 1 else skp true t + 1

/-- A token, but for its place. -/
structure Tk where
  kind : Nat
  s : List UInt8
  n : Nat

def val (x : List UInt8) : Nat := x.foldl (fun v c => 10 * v + (c.toNat - 48)) 0

def letAt (x : List UInt8) : Bool := x.head?.any isLet

/-- The token that stands ahead, and how many bytes it has; or the fault, and how far on. -/
def one : List UInt8 → Except (Nat × Nat) (Tk × Nat)
  | [] => .error (101, 0)
  | c :: t =>
    if isSml c then (if 16 < cnt isWdy (c :: t) then .error (102, 0) else .ok (⟨0, (c :: t).take (cnt isWdy (c :: t)), 0⟩, cnt isWdy (c :: t)))
    else if isFig c then (if 9 < cnt isFig (c :: t) then .error (102, 0) else if letAt ((c :: t).drop (cnt isFig (c :: t))) then .error (101, cnt isFig (c :: t)) else .ok (⟨1, [], val ((c :: t).take (cnt isFig (c :: t)))⟩, cnt isFig (c :: t)))
    else if c == 36 then (if cnt isHxy t = 0 then .error (101, 1) else if 128 < cnt isHxy t then .error (102, 0) else if letAt (t.drop (cnt isHxy t)) then .error (101, cnt isHxy t + 1) else .ok (⟨2, t.take (cnt isHxy t), 0⟩, cnt isHxy t + 1))
    else if isSgn c then .ok (⟨3, [c], 0⟩, 1)
    else .error (101, 0)

abbrev Toks := List (Tk × Nat)

/-- What is read of x, which stands at place a, behind k tokens. -/
def scan : Nat → List UInt8 → Nat → Nat → Except (Nat × Nat) Toks
  | 0, _, _, _ => .ok []
  | f + 1, x, a, k =>
    if x.drop (skp false x) = [] then .ok [] else
    match one (x.drop (skp false x)) with
    | .error (e, o) => .error (e, a + skp false x + o)
    | .ok (t, n) => if k = 500 then .error (103, a + skp false x) else
      match scan f ((x.drop (skp false x)).drop n) (a + skp false x + n) (k + 1) with
      | .error e => .error e
      | .ok ts => .ok ((t, a + skp false x) :: ts)

def Scan (l : List UInt8) : Except (Nat × Nat) Toks := if 2000 < l.length then .error (103, 0) else scan (l.length + 1) l 0 0

theorem cnt_le (p : UInt8 → Bool) (x : List UInt8) : cnt p x ≤ x.length := (List.takeWhile_sublist p).length_le

theorem cnt_nil (p : UInt8 → Bool) : cnt p [] = 0 := rfl

theorem cnt_cons (p : UInt8 → Bool) (c : UInt8) (t : List UInt8) : cnt p (c :: t) = if p c then cnt p t + 1 else 0 := by
  unfold cnt
  rw [List.takeWhile_cons]
  split <;> simp

theorem skp_le (b : Bool) (x : List UInt8) : skp b x ≤ x.length := by
  induction x generalizing b with
  | nil => cases b <;> simp [skp]
  | cons c t ih =>
    have h1 := ih false
    have h2 := ih true
    cases b <;> simp only [skp, List.length_cons] <;> repeat' split
    all_goals omega

theorem one_len {x : List UInt8} {t : Tk} {n : Nat} (h : one x = .ok (t, n)) : 1 ≤ n ∧ n ≤ x.length := by
  cases x with
  | nil => simp [one] at h
  | cons c r =>
    have h1 := cnt_le isWdy (c :: r)
    have h2 := cnt_le isFig (c :: r)
    have h3 := cnt_le isHxy r
    simp only [one] at h
    split at h
    · rename_i hc
      split at h
      · cases h
      · cases h
        refine ⟨?_, h1⟩
        have hw : isWdy c = true := by simp [isWdy, isLet, hc]
        rw [cnt_cons, if_pos hw]
        omega
    · split at h
      · rename_i hc
        split at h
        · cases h
        · split at h
          · cases h
          · cases h
            refine ⟨?_, h2⟩
            rw [cnt_cons, if_pos hc]
            omega
      · split at h
        · split at h
          · cases h
          · split at h
            · cases h
            · split at h
              · cases h
              · cases h
                simp only [List.length_cons]
                omega
        · split at h
          · cases h
            simp
          · cases h

theorem scan_fuel (f : Nat) : ∀ (g : Nat) (x : List UInt8) (a k : Nat), x.length < f → x.length < g → scan f x a k = scan g x a k := by
  induction f with
  | zero => intro g x a k h; omega
  | succ f ih =>
    intro g x a k hf hg
    cases g with
    | zero => omega
    | succ g =>
      simp only [scan]
      split
      · rfl
      · rename_i hne
        have hs := skp_le false x
        cases ho : one (x.drop (skp false x)) with
        | error e => rfl
        | ok r =>
          obtain ⟨t, n⟩ := r
          have hn := one_len ho
          simp only
          split
          · rfl
          · rw [List.length_drop] at hn
            rw [ih g _ _ _ (by simp only [List.length_drop]; omega) (by simp only [List.length_drop]; omega)]

/-- Tokens ahead of others. -/
def ahead (ts : Toks) : Except (Nat × Nat) Toks → Except (Nat × Nat) Toks
  | .error e => .error e
  | .ok us => .ok (ts ++ us)

theorem ahead_nil (r : Except (Nat × Nat) Toks) : ahead [] r = r := by cases r <;> rfl

theorem ahead_ahead (ts us : Toks) (r : Except (Nat × Nat) Toks) : ahead ts (ahead us r) = ahead (ts ++ us) r := by cases r <;> simp [ahead]

/-- One step of a scan: no token is left. -/
theorem scan_end {f : Nat} {x : List UInt8} {a k : Nat} (h : x.drop (skp false x) = []) : scan (f + 1) x a k = .ok [] := by
  simp only [scan, if_pos h]

theorem scan_bad {f : Nat} {x : List UInt8} {a k e o : Nat} (h : x.drop (skp false x) ≠ []) (ho : one (x.drop (skp false x)) = .error (e, o)) : scan (f + 1) x a k = .error (e, a + skp false x + o) := by
  simp only [scan, if_neg h, ho]

theorem scan_many {f : Nat} {x : List UInt8} {a : Nat} {t : Tk} {n : Nat} (h : x.drop (skp false x) ≠ []) (ho : one (x.drop (skp false x)) = .ok (t, n)) : scan (f + 1) x a 500 = .error (103, a + skp false x) := by
  simp only [scan, if_neg h, ho, if_pos]

theorem scan_next {f : Nat} {x : List UInt8} {a k : Nat} {t : Tk} {n : Nat} (h : x.drop (skp false x) ≠ []) (ho : one (x.drop (skp false x)) = .ok (t, n)) (hk : k ≠ 500) :
    scan (f + 1) x a k = ahead [(t, a + skp false x)] (scan f (x.drop (skp false x + n)) (a + skp false x + n) (k + 1)) := by
  simp only [scan, if_neg h, ho, if_neg hk, List.drop_drop]
  cases scan f (x.drop (skp false x + n)) (a + skp false x + n) (k + 1) <;> rfl
end Go.Proofs.YtpckmllmjdafpaaGreatDoor

/- Texts one behind the other. -/
namespace Go.Proofs.YtpckmllmjdafpaaGreatDoor
set_option linter.unusedVariables false

theorem cnt_append (p : UInt8 → Bool) (x : List UInt8) (c : UInt8) (z : List UInt8) (h : p c = false) : cnt p (x ++ c :: z) = cnt p x := by
  induction x with
  | nil => simp [cnt_cons, h, cnt_nil]
  | cons d t ih =>
    simp only [List.cons_append, cnt_cons]
    split
    · rw [ih]
    · rfl

theorem skp_append (b : Bool) (x z : List UInt8) : skp b (x ++ 10 :: z) = if skp b x < x.length then skp b x else x.length + skp false (10 :: z) := by
  have hb : skp b (10 :: z) = skp false (10 :: z) := by cases b <;> simp [skp, isBlk]
  have hb' : skp true (10 :: z) = skp false (10 :: z) := by simp [skp, isBlk]
  have hb0 : skp false (10 :: z) = skp false (10 :: z) := rfl
  generalize hK : skp false (10 :: z) = K at hb hb' ⊢
  clear hb0
  induction x generalizing b with
  | nil => simp [hb]
  | cons c t ih =>
    have h1 := ih false hK
    have h2 := ih true hb'
    have hh : ((t ++ 10 :: z).head? == some 47) = (t.head? == some 47) := by cases t <;> simp
    cases b
    · simp only [List.cons_append, skp, List.length_cons, hh]
      split
      · rw [h1]; split <;> split <;> omega
      · split
        · rw [h2]; split <;> split <;> omega
        · simp
    · simp only [List.cons_append, skp, List.length_cons]
      split
      · rw [h1]; split <;> split <;> omega
      · rw [h2]; split <;> split <;> omega

theorem letAt_append (x z : List UInt8) : letAt (x ++ 10 :: z) = letAt x := by
  cases x with
  | nil => simp [letAt, isLet, isSml]
  | cons c t => simp [letAt]

theorem drop_cnt_append (p : UInt8 → Bool) (x z : List UInt8) : (x ++ z).drop (cnt p x) = x.drop (cnt p x) ++ z := by
  rw [List.drop_append_of_le_length (cnt_le p x)]

theorem take_cnt_append (p : UInt8 → Bool) (x z : List UInt8) : (x ++ z).take (cnt p x) = x.take (cnt p x) := by
  rw [List.take_append_of_le_length (cnt_le p x)]

/-- A token stands as it did where a line's end comes behind. -/
theorem one_append (x z : List UInt8) (hx : x ≠ []) : one (x ++ 10 :: z) = one x := by
  cases x with
  | nil => exact absurd rfl hx
  | cons c t =>
    have w1 : cnt isWdy (c :: (t ++ 10 :: z)) = cnt isWdy (c :: t) := cnt_append isWdy (c :: t) 10 z (by decide)
    have w2 : cnt isFig (c :: (t ++ 10 :: z)) = cnt isFig (c :: t) := cnt_append isFig (c :: t) 10 z (by decide)
    have w3 : cnt isHxy (t ++ 10 :: z) = cnt isHxy t := cnt_append isHxy t 10 z (by decide)
    have d2 : (c :: (t ++ 10 :: z)).drop (cnt isFig (c :: t)) = (c :: t).drop (cnt isFig (c :: t)) ++ 10 :: z := drop_cnt_append isFig (c :: t) (10 :: z)
    have d3 : (t ++ 10 :: z).drop (cnt isHxy t) = t.drop (cnt isHxy t) ++ 10 :: z := drop_cnt_append isHxy t (10 :: z)
    have t1 : (c :: (t ++ 10 :: z)).take (cnt isWdy (c :: t)) = (c :: t).take (cnt isWdy (c :: t)) := take_cnt_append isWdy (c :: t) (10 :: z)
    have t2 : (c :: (t ++ 10 :: z)).take (cnt isFig (c :: t)) = (c :: t).take (cnt isFig (c :: t)) := take_cnt_append isFig (c :: t) (10 :: z)
    have t3 : (t ++ 10 :: z).take (cnt isHxy t) = t.take (cnt isHxy t) := take_cnt_append isHxy t (10 :: z)
    simp only [List.cons_append, one, w1, w2, w3, d2, d3, t1, t2, t3, letAt_append]

/-- A text, a line's end, and what comes behind: the first one's tokens, then the rest's. -/
theorem scan_append (f : Nat) : ∀ (g h : Nat) (x z : List UInt8) (a k : Nat), x.length < f → (x ++ 10 :: z).length < g → (10 :: z).length < h →
    scan g (x ++ 10 :: z) a k = match scan f x a k with | .error e => .error e | .ok ts => ahead ts (scan h (10 :: z) (a + x.length) (k + ts.length)) := by
  induction f with
  | zero => intro g h x z a k hx; omega
  | succ f ih =>
    intro g h x z a k hx hg hh
    cases g with
    | zero => omega
    | succ g =>
    have hs := skp_le false x
    have hz := skp_le false (10 :: z)
    have hap := skp_append false x z
    simp only [List.length_append, List.length_cons] at hg hh hz
    by_cases hlt : skp false x < x.length
    · rw [if_pos hlt] at hap
      have hd : (x ++ 10 :: z).drop (skp false (x ++ 10 :: z)) = x.drop (skp false x) ++ 10 :: z := by
        rw [hap, List.drop_append_of_le_length hs]
      have hne : x.drop (skp false x) ≠ [] := by intro e; have := congrArg List.length e; simp at this; omega
      have hne' : (x ++ 10 :: z).drop (skp false (x ++ 10 :: z)) ≠ [] := by rw [hd]; simp
      have ho := one_append (x.drop (skp false x)) z hne
      cases hr : one (x.drop (skp false x)) with
      | error e =>
        obtain ⟨e, o⟩ := e
        rw [scan_bad hne hr, scan_bad hne' (by rw [hd, ho, hr]), hap]
      | ok r =>
        obtain ⟨t, n⟩ := r
        have hn := one_len hr
        rw [List.length_drop] at hn
        by_cases hk : k = 500
        · subst hk
          rw [scan_many hne hr, scan_many hne' (by rw [hd, ho, hr]), hap]
        · rw [scan_next hne hr hk, scan_next hne' (by rw [hd, ho, hr]) hk, hap, List.drop_append_of_le_length (by omega)]
          rw [ih g h (x.drop (skp false x + n)) z _ (k + 1) (by simp only [List.length_drop]; omega) (by simp only [List.length_append, List.length_cons, List.length_drop]; omega) (by simp only [List.length_cons]; omega)]
          cases scan f (x.drop (skp false x + n)) (a + skp false x + n) (k + 1) with
          | error e => rfl
          | ok ts =>
            simp only [ahead, List.cons_append, List.nil_append]
            have e1 : a + skp false x + n + (x.drop (skp false x + n)).length = a + x.length := by simp only [List.length_drop]; omega
            have e2 : k + 1 + ts.length = k + (ts.length + 1) := by omega
            simp only [e1, e2, List.length_cons]
            cases scan h (10 :: z) (a + x.length) (k + (ts.length + 1)) <;> rfl
    · rw [if_neg hlt] at hap
      have hd : x.drop (skp false x) = [] := by rw [List.drop_eq_nil_iff]; omega
      rw [scan_end hd]
      simp only [ahead_nil, List.length_nil, Nat.add_zero]
      cases h with
      | zero => omega
      | succ h =>
      have hd2 : (x ++ 10 :: z).drop (skp false (x ++ 10 :: z)) = (10 :: z).drop (skp false (10 :: z)) := by
        rw [hap, List.drop_append, List.drop_eq_nil_of_le (by omega), List.nil_append]
        congr 1
        omega
      by_cases hne : (10 :: z).drop (skp false (10 :: z)) = []
      · rw [scan_end hne, scan_end (by rw [hd2]; exact hne)]
      · have hne' : (x ++ 10 :: z).drop (skp false (x ++ 10 :: z)) ≠ [] := by rw [hd2]; exact hne
        cases hr : one ((10 :: z).drop (skp false (10 :: z))) with
        | error e =>
          obtain ⟨e, o⟩ := e
          rw [scan_bad hne hr, scan_bad hne' (by rw [hd2, hr]), hap]
          simp only [Nat.add_assoc]
        | ok r =>
          obtain ⟨t, n⟩ := r
          have hn := one_len hr
          rw [List.length_drop] at hn
          simp only [List.length_cons] at hn
          by_cases hk : k = 500
          · subst hk
            rw [scan_many hne hr, scan_many hne' (by rw [hd2, hr]), hap]
            simp only [Nat.add_assoc]
          · rw [scan_next hne hr hk, scan_next hne' (by rw [hd2, hr]) hk, hap]
            have e1 : (x ++ 10 :: z).drop (x.length + skp false (10 :: z) + n) = (10 :: z).drop (skp false (10 :: z) + n) := by
              rw [List.drop_append, List.drop_eq_nil_of_le (by omega), List.nil_append]
              congr 1
              omega
            rw [e1, scan_fuel g h _ _ _ (by simp only [List.length_drop, List.length_cons]; omega) (by simp only [List.length_drop, List.length_cons]; omega)]
            simp only [Nat.add_assoc]

/-- All places further on. -/
def shift (d : Nat) : Except (Nat × Nat) Toks → Except (Nat × Nat) Toks
  | .error (e, o) => .error (e, o + d)
  | .ok ts => .ok (ts.map fun t => (t.1, t.2 + d))

theorem scan_shift (f : Nat) : ∀ (x : List UInt8) (a k d : Nat), scan f x (a + d) k = shift d (scan f x a k) := by
  induction f with
  | zero => intro x a k d; rfl
  | succ f ih =>
    intro x a k d
    by_cases hne : x.drop (skp false x) = []
    · rw [scan_end hne, scan_end hne]; rfl
    · cases hr : one (x.drop (skp false x)) with
      | error e =>
        obtain ⟨e, o⟩ := e
        rw [scan_bad hne hr, scan_bad hne hr]
        show _ = Except.error _
        rw [show a + d + skp false x + o = a + skp false x + o + d by omega]
      | ok r =>
        obtain ⟨t, n⟩ := r
        by_cases hk : k = 500
        · subst hk
          rw [scan_many hne hr, scan_many hne hr]
          show _ = Except.error _
          rw [show a + d + skp false x = a + skp false x + d by omega]
        · rw [scan_next hne hr hk, scan_next hne hr hk, show a + d + skp false x + n = a + skp false x + n + d by omega, ih, show a + d + skp false x = a + skp false x + d by omega]
          cases scan f (x.drop (skp false x + n)) (a + skp false x + n) (k + 1) with
          | error e => obtain ⟨e, o⟩ := e; rfl
          | ok ts => rfl

theorem skp_note (b : Bool) (x z : List UInt8) (h : ∀ c ∈ x, c ≠ 10) : skp true (x ++ 10 :: z) = x.length + 1 + skp false z := by
  induction x with
  | nil => simp [skp]; omega
  | cons c t ih =>
    have hc : c ≠ 10 := h c (by simp)
    simp only [List.cons_append, skp, List.length_cons]
    rw [if_neg (by simpa using hc), ih (fun d hd => h d (by simp [hd]))]
    omega

/-- A note ahead is passed over. -/
theorem skp_noted (x z : List UInt8) (h : ∀ c ∈ x, c ≠ 10) : skp false (47 :: 47 :: (x ++ 10 :: z)) = x.length + 3 + skp false z := by
  rw [skp]
  have : skp true (47 :: (x ++ 10 :: z)) = x.length + 2 + skp false z := by
    have := skp_note true (47 :: x) z (by intro c hc; rcases List.mem_cons.1 hc with rfl | hc; decide; exact h c hc)
    rw [List.cons_append] at this
    rw [this]
    simp
  simp [isBlk, this]
  omega

/-- A scan behind what is passed over. -/
theorem scan_pass {f g : Nat} {u z : List UInt8} (a k : Nat) (h : skp false (u ++ z) = u.length + skp false z) (hf : (u ++ z).length < f) (hg : z.length < g) : scan f (u ++ z) a k = scan g z (a + u.length) k := by
  cases f with
  | zero => omega
  | succ f =>
  cases g with
  | zero => omega
  | succ g =>
  have hz := skp_le false z
  simp only [List.length_append] at hf
  have hd : (u ++ z).drop (skp false (u ++ z)) = z.drop (skp false z) := by
    rw [h, List.drop_append, List.drop_eq_nil_of_le (by omega), List.nil_append]
    congr 1
    omega
  by_cases hne : z.drop (skp false z) = []
  · rw [scan_end hne, scan_end (by rw [hd]; exact hne)]
  · have hne' : (u ++ z).drop (skp false (u ++ z)) ≠ [] := by rw [hd]; exact hne
    cases hr : one (z.drop (skp false z)) with
    | error e =>
      obtain ⟨e, o⟩ := e
      rw [scan_bad hne hr, scan_bad hne' (by rw [hd, hr]), h]
      simp only [Nat.add_assoc]
    | ok r =>
      obtain ⟨t, n⟩ := r
      have hn := one_len hr
      rw [List.length_drop] at hn
      by_cases hk : k = 500
      · subst hk
        rw [scan_many hne hr, scan_many hne' (by rw [hd, hr]), h]
        simp only [Nat.add_assoc]
      · rw [scan_next hne hr hk, scan_next hne' (by rw [hd, hr]) hk, h]
        have e1 : (u ++ z).drop (u.length + skp false z + n) = z.drop (skp false z + n) := by
          rw [List.drop_append, List.drop_eq_nil_of_le (by omega), List.nil_append]
          congr 1
          omega
        rw [e1, scan_fuel f g _ _ _ (by simp only [List.length_drop]; omega) (by simp only [List.length_drop]; omega)]
        simp only [Nat.add_assoc]
end Go.Proofs.YtpckmllmjdafpaaGreatDoor

/- Tokens that are written, and read again; where tokens stand. -/
namespace Go.Proofs.YtpckmllmjdafpaaGreatDoor
set_option linter.unusedVariables false

/-- A token that may be. -/
structure Good (t : Tk) : Prop where
  le : t.kind ≤ 3
  word : t.kind = 0 → (∃ c r, t.s = c :: r ∧ isSml c = true) ∧ (∀ c ∈ t.s, isWdy c = true) ∧ t.s.length ≤ 16
  num : t.kind = 1 → t.s = [] ∧ t.n < 1000000000
  hex : t.kind = 2 → t.s ≠ [] ∧ (∀ c ∈ t.s, isHxy c = true) ∧ t.s.length ≤ 128
  sign : t.kind = 3 → ∃ c, t.s = [c] ∧ isSgn c = true ∧ isSml c = false ∧ isFig c = false ∧ c ≠ 36
  zero : t.kind ≠ 1 → t.n = 0

theorem take_cnt (p : UInt8 → Bool) (x : List UInt8) : x.take (cnt p x) = x.takeWhile p := by
  unfold cnt
  exact (List.prefix_iff_eq_take.1 (List.takeWhile_prefix p)).symm

theorem mem_cnt {p : UInt8 → Bool} {x : List UInt8} : ∀ c ∈ x.take (cnt p x), p c = true := by
  rw [take_cnt]
  intro c hc
  exact List.all_eq_true.1 List.all_takeWhile c hc

theorem val_snoc (x : List UInt8) (c : UInt8) : val (x ++ [c]) = 10 * val x + (c.toNat - 48) := by simp [val, List.foldl_append]

theorem val_bound (x : List UInt8) (h : ∀ c ∈ x, isFig c = true) : val x < 10 ^ x.length := by
  induction hn : x.length generalizing x with
  | zero => rw [List.length_eq_zero_iff.1 hn]; decide
  | succ n ih =>
    have hx : x ≠ [] := by intro e; subst e; simp at hn
    have e := List.dropLast_concat_getLast hx
    have h1 := ih x.dropLast (fun c hc => h c (List.dropLast_subset x hc)) (by simp [hn])
    have h2 := h (x.getLast hx) (List.getLast_mem hx)
    rw [← e, val_snoc]
    simp [isFig] at h2
    rw [Nat.pow_succ]
    omega

theorem one_good {x : List UInt8} {t : Tk} {n : Nat} (h : one x = .ok (t, n)) : Good t := by
  cases x with
  | nil => simp [one] at h
  | cons c r =>
    simp only [one] at h
    split at h
    · rename_i hc
      split at h
      · cases h
      · rename_i hl
        cases h
        have hw : isWdy c = true := by simp [isWdy, isLet, hc]
        refine ⟨(by show (0 : Nat) ≤ 3; decide), fun _ => ⟨⟨c, r.take (cnt isWdy r), ?_, hc⟩, mem_cnt, ?_⟩, fun e => (by cases e), fun e => (by cases e), fun e => (by cases e), fun _ => rfl⟩
        · show (c :: r).take (cnt isWdy (c :: r)) = _
          rw [cnt_cons, if_pos hw, List.take_succ_cons]
        · show ((c :: r).take (cnt isWdy (c :: r))).length ≤ 16
          rw [List.length_take]
          omega
    · split at h
      · rename_i hc
        split at h
        · cases h
        · rename_i hl
          split at h
          · cases h
          · cases h
            refine ⟨(by show (1 : Nat) ≤ 3; decide), fun e => (by cases e), fun _ => ⟨rfl, ?_⟩, fun e => (by cases e), fun e => (by cases e), fun e => absurd rfl e⟩
            have hb := val_bound ((c :: r).take (cnt isFig (c :: r))) mem_cnt
            rw [List.length_take, Nat.min_eq_left (cnt_le isFig (c :: r))] at hb
            have h9 : 10 ^ cnt isFig (c :: r) ≤ 10 ^ 9 := Nat.pow_le_pow_right (by decide) (by omega)
            exact Nat.lt_of_lt_of_le hb h9
      · split at h
        · split at h
          · cases h
          · rename_i h0
            split at h
            · cases h
            · rename_i hl
              split at h
              · cases h
              · cases h
                refine ⟨(by show (2 : Nat) ≤ 3; decide), fun e => (by cases e), fun e => (by cases e), fun _ => ⟨?_, mem_cnt, ?_⟩, fun e => (by cases e), fun _ => rfl⟩
                · intro e
                  have := congrArg List.length e
                  have hle := cnt_le isHxy r
                  simp at this
                  rcases this with h | h
                  · exact h0 h
                  · rw [h] at h0; exact h0 rfl
                · show (r.take (cnt isHxy r)).length ≤ 128
                  rw [List.length_take]
                  omega
        · split at h
          · rename_i h1 h2 h3 h4
            cases h
            refine ⟨(by show (3 : Nat) ≤ 3; decide), fun e => (by cases e), fun e => (by cases e), fun e => (by cases e), fun _ => ⟨c, rfl, h4, by simpa using h1, by simpa using h2, by simpa using h3⟩, fun _ => rfl⟩
          · cases h

/-- A number's figures, at most f and one more. -/
def dgF : Nat → Nat → List UInt8
  | 0, n => [UInt8.ofNat (48 + n)]
  | f + 1, n => if n < 10 then [UInt8.ofNat (48 + n)] else dgF f (n / 10) ++ [UInt8.ofNat (48 + n % 10)]

theorem dgF_fuel (f : Nat) : ∀ (g n : Nat), n ≤ f → n ≤ g → dgF f n = dgF g n := by
  induction f with
  | zero =>
    intro g n hf hg
    cases g with
    | zero => rfl
    | succ g => rw [dgF, dgF, if_pos (by omega)]
  | succ f ih =>
    intro g n hf hg
    cases g with
    | zero => rw [dgF, dgF, if_pos (by omega)]
    | succ g =>
      rw [dgF, dgF]
      by_cases h : n < 10
      · rw [if_pos h, if_pos h]
      · rw [if_neg h, if_neg h, ih g (n / 10) (by omega) (by omega)]

/-- A number's figures. -/
def dg (n : Nat) : List UInt8 := dgF n n

theorem dg_small {n : Nat} (h : n < 10) : dg n = [UInt8.ofNat (48 + n)] := by
  unfold dg
  cases n with
  | zero => rfl
  | succ n => rw [dgF, if_pos h]

theorem dg_great {n : Nat} (h : ¬ n < 10) : dg n = dg (n / 10) ++ [UInt8.ofNat (48 + n % 10)] := by
  unfold dg
  cases n with
  | zero => omega
  | succ n => rw [dgF, if_neg h, dgF_fuel n ((n + 1) / 10) _ (by omega) (Nat.le_refl _)]

theorem fig_of (m : Nat) (h : m < 10) : isFig (UInt8.ofNat (48 + m)) = true ∧ (UInt8.ofNat (48 + m)).toNat - 48 = m := by
  have : (UInt8.ofNat (48 + m)).toNat = 48 + m := by simp; omega
  constructor
  · simp only [isFig, this]; simp; omega
  · rw [this]; omega

theorem dg_fig (n : Nat) : ∀ c ∈ dg n, isFig c = true := by
  induction n using Nat.strongRecOn with
  | _ n ih =>
    by_cases h : n < 10
    · rw [dg_small h]; intro c hc; rw [List.mem_singleton.1 hc]; exact (fig_of n h).1
    · rw [dg_great h]
      intro c hc
      rcases List.mem_append.1 hc with hc | hc
      · exact ih (n / 10) (by omega) c hc
      · rw [List.mem_singleton.1 hc]; exact (fig_of _ (by omega)).1

theorem dg_val (n : Nat) : val (dg n) = n := by
  induction n using Nat.strongRecOn with
  | _ n ih =>
    by_cases h : n < 10
    · rw [dg_small h]; show 10 * 0 + _ = n; rw [(fig_of n h).2]; omega
    · rw [dg_great h, val_snoc, ih (n / 10) (by omega), (fig_of _ (by omega)).2]; omega

theorem dg_ne (n : Nat) : dg n ≠ [] := by
  by_cases h : n < 10
  · rw [dg_small h]; simp
  · rw [dg_great h]; simp

theorem dg_len (k : Nat) : ∀ n, n < 10 ^ (k + 1) → (dg n).length ≤ k + 1 := by
  induction k with
  | zero => intro n h; rw [dg_small (by simpa using h)]; simp
  | succ k ih =>
    intro n h
    by_cases h10 : n < 10
    · rw [dg_small h10]; simp
    · rw [dg_great h10, List.length_append]
      have := ih (n / 10) (by rw [Nat.pow_succ] at h; omega)
      simp
      omega

/-- A token as it is written. -/
def txt (t : Tk) : List UInt8 := if t.kind = 1 then dg t.n else if t.kind = 2 then 36 :: t.s else t.s

theorem cnt_all (p : UInt8 → Bool) (x : List UInt8) (c : UInt8) (z : List UInt8) (h : ∀ d ∈ x, p d = true) (hc : p c = false) : cnt p (x ++ c :: z) = x.length := by
  rw [cnt_append p x c z hc]
  unfold cnt
  congr 1
  induction x with
  | nil => rfl
  | cons d t ih => rw [List.takeWhile_cons, if_pos (h d (by simp)), ih (fun e he => h e (by simp [he]))]

theorem letAt32 (z : List UInt8) : letAt (32 :: z) = false := by simp [letAt, isLet, isSml]

/-- The first byte of a token as it is written begins no blank and no note. -/
def Firm1 (x : List UInt8) : Prop := ∃ c r, x = c :: r ∧ isBlk c = false ∧ c ≠ 47

theorem firm_of {c : UInt8} {r : List UInt8} (h : 48 ≤ c.toNat ∨ c = 36 ∨ c = 40 ∨ c = 41 ∨ c = 44) : Firm1 (c :: r) := by
  refine ⟨c, r, rfl, ?_, ?_⟩
  · simp only [isBlk]
    rcases h with h | rfl | rfl | rfl | rfl
    · have h1 : c ≠ 9 := by rintro rfl; simp at h
      have h2 : c ≠ 10 := by rintro rfl; simp at h
      have h3 : c ≠ 13 := by rintro rfl; simp at h
      have h4 : c ≠ 32 := by rintro rfl; simp at h
      simp [h1, h2, h3, h4]
    all_goals decide
  · rcases h with h | rfl | rfl | rfl | rfl
    · rintro rfl; simp at h
    all_goals decide

theorem txt_firm {t : Tk} (h : Good t) : Firm1 (txt t) := by
  unfold txt
  by_cases h1 : t.kind = 1
  · rw [if_pos h1]
    cases e : dg t.n with
    | nil => exact absurd e (dg_ne _)
    | cons c r =>
      have := dg_fig t.n c (by rw [e]; simp)
      simp [isFig] at this
      exact firm_of (.inl this.1)
  · rw [if_neg h1]
    by_cases h2 : t.kind = 2
    · rw [if_pos h2]; exact firm_of (.inr (.inl rfl))
    · rw [if_neg h2]
      have hle := h.le
      by_cases h0 : t.kind = 0
      · obtain ⟨⟨c, r, e, hc⟩, _⟩ := h.word h0
        rw [e]
        simp [isSml] at hc
        exact firm_of (.inl (by omega))
      · obtain ⟨c, e, hc, _⟩ := h.sign (by omega)
        rw [e]
        simp [isSgn] at hc
        rcases hc with (((rfl | rfl) | rfl) | rfl) | rfl
        · exact firm_of (by decide)
        · exact firm_of (by decide)
        · exact firm_of (by decide)
        · exact firm_of (by decide)
        · exact firm_of (by decide)

theorem skp_firm {x : List UInt8} (h : Firm1 x) (z : List UInt8) : skp false (x ++ z) = 0 := by
  obtain ⟨c, r, rfl, h1, h2⟩ := h
  simp [skp, h1, h2]

theorem one_txt {t : Tk} (h : Good t) (z : List UInt8) : one (txt t ++ 32 :: z) = .ok (t, (txt t).length) := by
  obtain ⟨k, s, n⟩ := t
  have hle := h.le
  have hw := h.word
  have hn := h.num
  have hx := h.hex
  have hs := h.sign
  have hz := h.zero
  simp only at hle hw hn hx hs hz
  unfold txt
  simp only
  by_cases h1 : k = 1
  · subst h1
    obtain ⟨rfl, hb⟩ := hn rfl
    rw [if_pos rfl]
    have hf := dg_fig n
    have hl := dg_len 8 n (by simpa using hb)
    have hv := dg_val n
    have hc := cnt_all isFig (dg n) 32 z hf (by decide)
    cases e : dg n with
    | nil => exact absurd e (dg_ne _)
    | cons c r =>
      rw [e] at hf hl hv hc
      have hfc := hf c (by simp)
      have hsc : isSml c = false := by simp [isFig] at hfc; simp [isSml]; omega
      simp only [List.cons_append] at hc ⊢
      simp only [one, hsc, hfc, hc, if_true]
      have d1 : (c :: (r ++ 32 :: z)).drop (c :: r).length = 32 :: z := by rw [← List.cons_append, List.drop_left]
      have d2 : (c :: (r ++ 32 :: z)).take (c :: r).length = c :: r := by rw [← List.cons_append, List.take_left]
      rw [d1, d2, letAt32, hv]
      simp only [List.length_cons] at hl
      simp
      omega
  · rw [if_neg h1]
    have hn0 := hz h1
    subst hn0
    by_cases h2 : k = 2
    · subst h2
      obtain ⟨hne, hh, hl⟩ := hx rfl
      rw [if_pos rfl]
      have hc := cnt_all isHxy s 32 z hh (by decide)
      have hne' : s.length ≠ 0 := by intro e; exact hne (List.length_eq_zero_iff.1 e)
      have c1 : isSml 36 = false := by decide
      have c2 : isFig 36 = false := by decide
      simp only [List.cons_append, one, c1, c2, hc, List.drop_left, List.take_left, letAt32]
      rw [if_neg (by decide), if_neg (by decide), if_pos (by decide), if_neg hne', if_neg (by omega)]
      simp
    · rw [if_neg h2]
      by_cases h0 : k = 0
      · subst h0
        obtain ⟨⟨c, r, rfl, hc⟩, ha, hl⟩ := hw rfl
        have hcn := cnt_all isWdy (c :: r) 32 z ha (by decide)
        simp only [List.cons_append] at hcn ⊢
        simp only [one, hc, hcn, if_true]
        have d2 : (c :: (r ++ 32 :: z)).take (c :: r).length = c :: r := by rw [← List.cons_append, List.take_left]
        rw [d2, if_neg (by omega)]
      · have h3 : k = 3 := by omega
        subst h3
        obtain ⟨c, rfl, c1, c2, c3, c4⟩ := hs rfl
        simp [one, c1, c2, c3, c4]

/-- Tokens written one behind the other, a blank behind each. -/
def again : List Tk → List UInt8
  | [] => []
  | t :: r => txt t ++ 32 :: again r

/-- Where they stand then. -/
def placed (a : Nat) : List Tk → Toks
  | [] => []
  | t :: r => (t, a) :: placed (a + (txt t).length + 1) r

theorem scan_again (ts : List Tk) : ∀ (f a k : Nat), (∀ t ∈ ts, Good t) → k + ts.length ≤ 500 → (again ts).length < f → scan f (again ts) a k = .ok (placed a ts) := by
  induction ts with
  | nil => intro f a k _ _ hf; cases f with
    | zero => omega
    | succ f => exact scan_end rfl
  | cons t r ih =>
    intro f a k hg hk hf
    cases f with
    | zero => omega
    | succ f =>
    have ht := hg t (by simp)
    have hs := skp_firm (txt_firm ht) (32 :: again r)
    have h1 := one_txt ht (again r)
    have hne : txt t ++ 32 :: again r ≠ [] := by simp
    simp only [again, List.length_append, List.length_cons] at hf ⊢
    simp only [List.length_cons] at hk
    rw [scan_next (by rw [hs]; exact hne) (by rw [hs]; exact h1) (by omega), hs]
    simp only [Nat.zero_add, Nat.add_zero, List.drop_left]
    have hp := scan_pass (f := f) (g := (again r).length + 1) (u := [32]) (z := again r) (a + (txt t).length) (k + 1) (by simp [skp, isBlk]; omega) (by simp; have := List.length_pos_iff.2 (fun e => (by obtain ⟨c, r, e', _⟩ := txt_firm ht; rw [e'] at e; cases e) : txt t ≠ []); omega) (by omega)
    simp only [List.singleton_append, List.length_singleton] at hp
    rw [hp, ih _ _ _ (fun u hu => hg u (by simp [hu])) (by omega) (by omega)]
    rfl

/-- What a scan tells are tokens that may be, at most 500 with those ahead. -/
theorem scan_goods (f : Nat) : ∀ (x : List UInt8) (a k : Nat) (ts : Toks), scan f x a k = .ok ts → k ≤ 500 → (∀ t ∈ ts, Good t.1) ∧ k + ts.length ≤ 500 := by
  induction f with
  | zero => intro x a k ts h hk; cases h; exact ⟨by simp, by simpa using hk⟩
  | succ f ih =>
    intro x a k ts h hk
    by_cases hne : x.drop (skp false x) = []
    · rw [scan_end hne] at h; cases h; exact ⟨by simp, by simpa using hk⟩
    · cases hr : one (x.drop (skp false x)) with
      | error e => obtain ⟨e, o⟩ := e; rw [scan_bad hne hr] at h; cases h
      | ok r =>
        obtain ⟨t, n⟩ := r
        by_cases h5 : k = 500
        · subst h5; rw [scan_many hne hr] at h; cases h
        · rw [scan_next hne hr h5] at h
          cases hs : scan f (x.drop (skp false x + n)) (a + skp false x + n) (k + 1) with
          | error e => rw [hs] at h; cases h
          | ok us =>
            rw [hs] at h
            cases h
            obtain ⟨g1, g2⟩ := ih _ _ _ _ hs (by omega)
            refine ⟨?_, by simp only [List.cons_append, List.nil_append, List.length_cons]; omega⟩
            intro u hu
            rcases List.mem_cons.1 hu with rfl | hu
            · exact one_good hr
            · exact g1 u hu

/-- Tokens stand in l from lo on, one behind the other. -/
def Stands (l : List UInt8) : Nat → Toks → Prop
  | _, [] => True
  | lo, (t, p) :: r => lo ≤ p ∧ p < l.length ∧ ∃ n, one (l.drop p) = .ok (t, n) ∧ Stands l (p + n) r

theorem scan_stands (l : List UInt8) (f : Nat) : ∀ (a k : Nat) (ts : Toks), scan f (l.drop a) a k = .ok ts → Stands l a ts := by
  induction f with
  | zero => intro a k ts h; cases h; trivial
  | succ f ih =>
    intro a k ts h
    by_cases hne : (l.drop a).drop (skp false (l.drop a)) = []
    · rw [scan_end hne] at h; cases h; trivial
    · cases hr : one ((l.drop a).drop (skp false (l.drop a))) with
      | error e => obtain ⟨e, o⟩ := e; rw [scan_bad hne hr] at h; cases h
      | ok r =>
        obtain ⟨t, n⟩ := r
        by_cases h5 : k = 500
        · subst h5; rw [scan_many hne hr] at h; cases h
        · rw [scan_next hne hr h5] at h
          cases hs : scan f ((l.drop a).drop (skp false (l.drop a) + n)) (a + skp false (l.drop a) + n) (k + 1) with
          | error e => rw [hs] at h; cases h
          | ok us =>
            rw [hs] at h
            cases h
            rw [List.drop_drop] at hs hr hne
            refine ⟨by omega, ?_, n, hr, ?_⟩
            · have := List.length_pos_iff.2 hne; rw [List.length_drop] at this; omega
            · exact ih _ _ _ (by rw [← Nat.add_assoc] at hs; exact hs)

theorem one_text {x : List UInt8} {t : Tk} {n : Nat} (h : one x = .ok (t, n)) (h1 : t.kind ≠ 1) (h2 : t.kind ≠ 2) : n = t.s.length ∧ x.take n = t.s := by
  cases x with
  | nil => simp [one] at h
  | cons c r =>
    simp only [one] at h
    split at h
    · split at h
      · cases h
      · cases h; exact ⟨by rw [List.length_take, Nat.min_eq_left (cnt_le isWdy _)], rfl⟩
    · split at h
      · split at h
        · cases h
        · split at h
          · cases h
          · cases h; exact absurd rfl h1
      · split at h
        · split at h
          · cases h
          · split at h
            · cases h
            · split at h
              · cases h
              · cases h; exact absurd rfl h2
        · split at h
          · cases h; exact ⟨rfl, rfl⟩
          · cases h

theorem one_num {x : List UInt8} {t : Tk} {n : Nat} (h : one x = .ok (t, n)) (h1 : t.kind = 1) : n = cnt isFig x ∧ n ≤ 9 ∧ t.n = val (x.take n) := by
  cases x with
  | nil => simp [one] at h
  | cons c r =>
    simp only [one] at h
    split at h
    · split at h
      · cases h
      · cases h; cases h1
    · split at h
      · split at h
        · cases h
        · split at h
          · cases h
          · cases h; exact ⟨rfl, by omega, rfl⟩
      · split at h
        · split at h
          · cases h
          · split at h
            · cases h
            · split at h
              · cases h
              · cases h; cases h1
        · split at h
          · cases h; cases h1
          · cases h

theorem one_hex {x : List UInt8} {t : Tk} {n : Nat} (h : one x = .ok (t, n)) (h1 : t.kind = 2) : n = t.s.length + 1 ∧ ∃ r, x = 36 :: r ∧ r.take t.s.length = t.s := by
  cases x with
  | nil => simp [one] at h
  | cons c r =>
    simp only [one] at h
    split at h
    · split at h
      · cases h
      · cases h; cases h1
    · split at h
      · split at h
        · cases h
        · split at h
          · cases h
          · cases h; cases h1
      · split at h
        · rename_i hc
          split at h
          · cases h
          · split at h
            · cases h
            · split at h
              · cases h
              · cases h
                have hl : (r.take (cnt isHxy r)).length = cnt isHxy r := by rw [List.length_take, Nat.min_eq_left (cnt_le isHxy r)]
                refine ⟨by simp only [hl], r, by rw [eq_of_beq hc], by simp only [hl]⟩
        · split at h
          · cases h; cases h1
          · cases h
end Go.Proofs.YtpckmllmjdafpaaGreatDoor

/- What the laws of lex ask, of plain lists. -/
namespace Go.Proofs.YtpckmllmjdafpaaGreatDoor
set_option linter.unusedVariables false

theorem scan_count (f : Nat) : ∀ (x : List UInt8) (a k k' : Nat) (us : Toks), scan f x a k = .ok us → k' + us.length ≤ 500 → scan f x a k' = .ok us := by
  induction f with
  | zero => intro x a k k' us h hk; exact h
  | succ f ih =>
    intro x a k k' us h hk
    by_cases hne : x.drop (skp false x) = []
    · rw [scan_end hne] at h; rw [scan_end hne]; exact h
    · cases hr : one (x.drop (skp false x)) with
      | error e => obtain ⟨e, o⟩ := e; rw [scan_bad hne hr] at h; cases h
      | ok r =>
        obtain ⟨t, n⟩ := r
        by_cases h5 : k = 500
        · subst h5; rw [scan_many hne hr] at h; cases h
        · rw [scan_next hne hr h5] at h
          cases hs : scan f (x.drop (skp false x + n)) (a + skp false x + n) (k + 1) with
          | error e => rw [hs] at h; cases h
          | ok vs =>
            rw [hs] at h
            cases h
            simp only [List.cons_append, List.nil_append, List.length_cons] at hk
            rw [scan_next hne hr (by omega), ih _ _ _ (k' + 1) vs hs (by omega)]
            rfl

/-- All places further on. -/
def further (d : Nat) (us : Toks) : Toks := us.map fun t => (t.1, t.2 + d)

theorem further_len (d : Nat) (us : Toks) : (further d us).length = us.length := by simp [further]

theorem Scan_len {l : List UInt8} {ts : Toks} (h : Scan l = .ok ts) : ts.length ≤ 500 ∧ ∀ t ∈ ts, Good t.1 := by
  unfold Scan at h
  split at h
  · cases h
  · have := scan_goods _ _ _ _ _ h (by omega)
    exact ⟨by omega, this.1⟩

theorem Scan_joined {a b : List UInt8} {ts us : Toks} (ha : Scan a = .ok ts) (hb : Scan b = .ok us) (hl : a.length + b.length + 1 ≤ 2000) (hn : ts.length + us.length ≤ 500) : Scan (a ++ 10 :: b) = .ok (ts ++ further (a.length + 1) us) := by
  unfold Scan at ha hb ⊢
  rw [if_neg (by omega)] at ha hb
  rw [if_neg (by simp; omega), scan_append (a.length + 1) _ ((10 :: b).length + 1) a b 0 0 (by omega) (by omega) (by omega), ha]
  simp only [Nat.zero_add]
  have hp := scan_pass (f := (10 :: b).length + 1) (g := b.length + 1) (u := [10]) (z := b) a.length ts.length (by simp [skp, isBlk]; omega) (by simp) (by omega)
  simp only [List.singleton_append, List.length_singleton] at hp
  rw [hp]
  have h1 := scan_shift (b.length + 1) b 0 ts.length (a.length + 1)
  rw [Nat.zero_add] at h1
  rw [h1, scan_count _ _ _ _ _ _ hb (by omega)]
  rfl

/-- A note. -/
def note (x : List UInt8) : List UInt8 := 47 :: 47 :: (x ++ [10])

theorem note_len (x : List UInt8) : (note x).length = x.length + 3 := by simp [note]

theorem skp_note_ahead (x z : List UInt8) (h : ∀ c ∈ x, c ≠ 10) : skp false (note x ++ z) = (note x).length + skp false z := by
  have := skp_noted x z h
  rw [note_len]
  rw [← this]
  simp [note]

theorem Scan_noted {s x : List UInt8} (h : ∀ c ∈ x, c ≠ 10) (hl : (note x ++ s ++ 10 :: note x).length ≤ 2000) : Scan (note x ++ s ++ 10 :: note x) = shift (note x).length (Scan s) := by
  have hl' := hl
  simp only [List.length_append, List.length_cons] at hl'
  unfold Scan
  rw [if_neg (by omega), if_neg (by omega), List.append_assoc]
  rw [scan_pass (g := (s ++ 10 :: note x).length + 1) 0 0 (skp_note_ahead x _ h) (by omega) (by omega)]
  rw [scan_append (s.length + 1) _ ((10 :: note x).length + 1) s (note x) _ 0 (by omega) (by omega) (by omega), Nat.zero_add]
  have h1 := scan_shift (s.length + 1) s 0 0 (note x).length
  rw [Nat.zero_add] at h1
  rw [h1]
  cases scan (s.length + 1) s 0 0 with
  | error e => obtain ⟨e, o⟩ := e; rfl
  | ok ts =>
    have hs : skp false (10 :: note x) = (10 :: note x).length := by
      have := skp_note_ahead x [] h
      rw [List.append_nil] at this
      simp only [skp, isBlk, List.length_cons]
      simp only [skp, Nat.add_zero] at this
      simp [this]
    simp only [shift]
    rw [scan_end (by rw [hs]; simp)]
    simp [ahead]

theorem Scan_stands {l : List UInt8} {ts : Toks} (h : Scan l = .ok ts) : Stands l 0 ts := by
  unfold Scan at h
  split at h
  · cases h
  · exact scan_stands l _ 0 0 ts (by rw [List.drop_zero]; exact h)

theorem Scan_again {ts : List Tk} (hg : ∀ t ∈ ts, Good t) (hn : ts.length ≤ 500) (hl : ¬ 2000 < (again ts).length) : Scan (again ts) = .ok (placed 0 ts) := by
  unfold Scan
  rw [if_neg hl]
  exact scan_again ts _ 0 0 hg (by omega) (by omega)

theorem Scan_err {l : List UInt8} {er o : Nat} (h : Scan l = .error (er, o)) : er ≠ 0 ∧ o ≤ l.length := by
  have one_e : ∀ (x : List UInt8) (er o : Nat), x ≠ [] → one x = .error (er, o) → er ≠ 0 ∧ o ≤ x.length := by
    intro x er o hx h
    cases x with
    | nil => exact absurd rfl hx
    | cons c r =>
      have h2 := cnt_le isFig (c :: r)
      have h3 := cnt_le isHxy r
      simp only [List.length_cons] at h2 ⊢
      simp only [one] at h
      repeat' split at h
      all_goals first | (cases h; exact ⟨by decide, by omega⟩) | cases h
  have sc : ∀ (f : Nat) (x : List UInt8) (a k er o : Nat), scan f x a k = .error (er, o) → er ≠ 0 ∧ o ≤ a + x.length := by
    intro f
    induction f with
    | zero => intro x a k er o h; cases h
    | succ f ih =>
      intro x a k er o h
      by_cases hne : x.drop (skp false x) = []
      · rw [scan_end hne] at h; cases h
      · have hsl := skp_le false x
        have hpos := List.length_pos_iff.2 hne
        rw [List.length_drop] at hpos
        cases hr : one (x.drop (skp false x)) with
        | error e =>
          obtain ⟨e', o'⟩ := e
          rw [scan_bad hne hr] at h
          have := one_e _ _ _ hne hr
          rw [List.length_drop] at this
          cases h
          exact ⟨this.1, by omega⟩
        | ok r =>
          obtain ⟨t, n⟩ := r
          have hn := one_len hr
          rw [List.length_drop] at hn
          by_cases h5 : k = 500
          · subst h5; rw [scan_many hne hr] at h; cases h; exact ⟨by decide, by omega⟩
          · rw [scan_next hne hr h5] at h
            cases hs : scan f (x.drop (skp false x + n)) (a + skp false x + n) (k + 1) with
            | error e =>
              obtain ⟨e', o'⟩ := e
              rw [hs] at h
              have := ih _ _ _ _ _ hs
              rw [List.length_drop] at this
              cases h
              exact ⟨this.1, by omega⟩
            | ok vs => rw [hs] at h; cases h
  unfold Scan at h
  split at h
  · cases h; exact ⟨by decide, by omega⟩
  · have := sc _ _ _ _ _ _ h
    exact ⟨this.1, by omega⟩
end Go.Proofs.YtpckmllmjdafpaaGreatDoor

/- The reserved words. -/
namespace Go.Proofs.YtpckmllmjdafpaaGreatDoor
set_option linter.unusedVariables false

def RW : List (List UInt8) := [[100, 101, 118, 105, 99, 101], [106, 111, 117, 114, 110, 97, 108], [107, 101, 121], [114, 111, 111, 116], [118, 111, 108, 117, 109, 101], [101, 120, 112, 111, 114, 116], [114, 101, 97, 100, 111, 110, 108, 121], [108, 105, 110, 101, 97, 114], [99, 111, 110, 99, 97, 116], [109, 105, 114, 114, 111, 114], [115, 110, 97, 112, 115, 104, 111, 116], [99, 114, 121, 112, 116], [105, 110, 116, 101, 103, 114, 105, 116, 121], [118, 101, 114, 105, 116, 121]]

def resv (x : List UInt8) : Bool := (x == [100, 101, 118, 105, 99, 101]) || (x == [106, 111, 117, 114, 110, 97, 108]) || (x == [107, 101, 121]) || (x == [114, 111, 111, 116]) || (x == [118, 111, 108, 117, 109, 101]) || (x == [101, 120, 112, 111, 114, 116]) || (x == [114, 101, 97, 100, 111, 110, 108, 121]) || (x == [108, 105, 110, 101, 97, 114]) || (x == [99, 111, 110, 99, 97, 116]) || (x == [109, 105, 114, 114, 111, 114]) || (x == [115, 110, 97, 112, 115, 104, 111, 116]) || (x == [99, 114, 121, 112, 116]) || (x == [105, 110, 116, 101, 103, 114, 105, 116, 121]) || (x == [118, 101, 114, 105, 116, 121])
end Go.Proofs.YtpckmllmjdafpaaGreatDoor

/- Tokens as trees: plain lists. -/
namespace Go.Proofs.YtpckmllmjdafpaaGreatDoor
set_option linter.unusedVariables false

/-- A tree. -/
inductive Nd where
  | mk (op s : List UInt8) (n : Int) (a : Int) (l : List Nd) : Nd

def Nd.op : Nd → List UInt8 | .mk o _ _ _ _ => o
def Nd.s : Nd → List UInt8 | .mk _ s _ _ _ => s
def Nd.n : Nd → Int | .mk _ _ n _ _ => n
def Nd.a : Nd → Int | .mk _ _ _ a _ => a
def Nd.l : Nd → List Nd | .mk _ _ _ _ l => l

def wFile : List UInt8 := [102, 105, 108, 101]
def wUse : List UInt8 := [117, 115, 101]
def wNum : List UInt8 := [110, 117, 109]
def wName : List UInt8 := [110, 97, 109, 101]
def wHex : List UInt8 := [104, 101, 120]
def wExpr : List UInt8 := [101, 120, 112, 114]
def wDevice : List UInt8 := [100, 101, 118, 105, 99, 101]
def wJournal : List UInt8 := [106, 111, 117, 114, 110, 97, 108]
def wKey : List UInt8 := [107, 101, 121]
def wRoot : List UInt8 := [114, 111, 111, 116]
def wVolume : List UInt8 := [118, 111, 108, 117, 109, 101]
def wExport : List UInt8 := [101, 120, 112, 111, 114, 116]
def wReadonly : List UInt8 := [114, 101, 97, 100, 111, 110, 108, 121]
def wLinear : List UInt8 := [108, 105, 110, 101, 97, 114]
def wConcat : List UInt8 := [99, 111, 110, 99, 97, 116]
def wMirror : List UInt8 := [109, 105, 114, 114, 111, 114]
def wSnapshot : List UInt8 := [115, 110, 97, 112, 115, 104, 111, 116]
def wCrypt : List UInt8 := [99, 114, 121, 112, 116]
def wIntegrity : List UInt8 := [105, 110, 116, 101, 103, 114, 105, 116, 121]
def wVerity : List UInt8 := [118, 101, 114, 105, 116, 121]

/-- What stands in parentheses: an expr, a number, a name. -/
inductive Kd where
  | ex | nu | na

def Kd.w : Kd → List UInt8
  | .ex => wExpr
  | .nu => wNum
  | .na => wName

def inside (op : List UInt8) : List Kd × Bool :=
  if op = wLinear then ([.ex, .nu, .nu], false)
  else if op = wConcat ∨ op = wMirror then ([.ex], true)
  else if op = wSnapshot then ([.ex, .ex, .nu], false)
  else if op = wCrypt ∨ op = wIntegrity ∨ op = wVerity then ([.ex, .na], false)
  else ([], false)

def isNm (t : Tk) : Bool := t.kind == 0 && !resv t.s
def isSg (x : List UInt8) (t : Tk) : Bool := t.kind == 3 && t.s == x
def isKi (k : Nat) (t : Tk) : Bool := t.kind == k
def isWd (l : List (List UInt8)) (t : Tk) : Bool := t.kind == 0 && l.any (fun y => t.s == y)
def begins (t : Tk) : Bool := isNm t || (t.kind == 0 && decide (0 < (inside t.s).1.length))

def place (en : Nat) : Toks → Nat
  | [] => en
  | t :: _ => t.2

abbrev PR (α : Type) := Except (Nat × Nat) (α × Toks)
abbrev Par (α : Type) := Nat → Toks → PR α

def pret {α : Type} (x : α) : Par α := fun _ ts => .ok (x, ts)
def pbind {α β : Type} (p : Par α) (f : α → Par β) : Par β := fun en ts => match p en ts with
  | .error e => .error e
  | .ok (x, r) => f x en r

/-- One token that may come. -/
def ptake (p : Tk → Bool) : Par (Tk × Nat) := fun en ts => match ts with
  | [] => .error (111, en)
  | t :: r => if p t.1 then .ok (t, r) else .error (111, t.2)

/-- Whether one comes. -/
def pcomes (p : Tk → Bool) (ts : Toks) : Bool := match ts with
  | [] => false
  | t :: _ => p t.1

def pif {α : Type} (p : Tk → Bool) (x y : Par α) : Par α := fun en ts => if pcomes p ts then x en ts else y en ts

def ppart (pe : Par Nd) : Kd → Par Nd
  | .nu => pbind (ptake (isKi 1)) fun t => pret (.mk wNum [] t.1.n t.2 [])
  | .na => pbind (ptake isNm) fun t => pret (.mk wName t.1.s 0 t.2 [])
  | .ex => pe

def cmm : Tk → Bool := isSg [44]

def pkinds (pe : Par Nd) : Bool → List Kd → Par (List Nd)
  | _, [] => pret []
  | true, k :: ks => pbind (ppart pe k) fun n => pbind (pkinds pe false ks) fun l => pret (n :: l)
  | false, k :: ks => pbind (ptake cmm) fun _ => pbind (ppart pe k) fun n => pbind (pkinds pe false ks) fun l => pret (n :: l)

def pmore (pe : Par Nd) : Nat → Par (List Nd)
  | 0 => pret []
  | f + 1 => pif cmm (pbind (ptake cmm) fun _ => pbind pe fun n => pbind (pmore pe f) fun l => pret (n :: l)) (pret [])

def pparts (pe : Par Nd) (op : List UInt8) : Par (List Nd) :=
  pbind (ptake (isSg [40])) fun _ => pbind (pkinds pe true (inside op).1) fun l =>
    pbind (if (inside op).2 then pmore pe 501 else pret []) fun m => pbind (ptake (isSg [41])) fun _ => pret (l ++ m)

/-- An expr, where so many nestings are left. -/
def pexpr : Nat → Par Nd
  | 0 => fun en ts => .error (112, place en ts)
  | d + 1 => pbind (ptake begins) fun t => if isNm t.1 then pret (.mk wUse t.1.s 0 t.2 []) else pbind (pparts (pexpr d) t.1.s) fun l => pret (.mk t.1.s [] 0 t.2 l)

def stmts : List (List UInt8) := [wDevice, wJournal, wKey, wRoot, wVolume, wExport]

/-- What comes behind a statement's name. -/
def prest (op : List UInt8) : Par (Int × List Nd) :=
  if op = wDevice ∨ op = wJournal then pbind (ptake (isKi 1)) fun t => pret (t.1.n, [])
  else if op = wKey ∨ op = wRoot then pbind (ptake (isKi 2)) fun t => pret (0, [.mk wHex t.1.s 0 t.2 []])
  else if op = wVolume then pbind (ptake (isSg [61])) fun _ => pbind (pexpr 12) fun n => pret (0, [n])
  else pif (isWd [wReadonly]) (pbind (ptake (isWd [wReadonly])) fun _ => pret (1, [])) (pret (0, []))

def pstmt : Par Nd := pbind (ptake (isWd stmts)) fun t => pbind (ptake isNm) fun u => pbind (prest t.1.s) fun r => pbind (ptake (isSg [59])) fun _ => pret (.mk t.1.s u.1.s r.1 t.2 r.2)

def pfile : Nat → Par (List Nd)
  | 0 => pret []
  | f + 1 => fun en ts => match ts with
    | [] => .ok ([], [])
    | t :: r => (pbind pstmt fun n => pbind (pfile f) fun l => pret (n :: l)) en (t :: r)

/-- A text's tree. -/
def Parse (x : List UInt8) : Except (Nat × Nat) Nd := match Scan x with
  | .error e => .error e
  | .ok ts => match pfile 501 x.length ts with
    | .error e => .error e
    | .ok (l, _) => .ok (.mk wFile [] 0 0 l)

/-- A parser that looks at no more than the next token. -/
def Stable {α : Type} (P : Par α) : Prop := ∀ en ts,
  (∀ x r, P en ts = .ok (x, r) → ∃ q, ts = q ++ r ∧ ∀ en' r', r'.head? = r.head? → P en' (q ++ r') = .ok (x, r')) ∧
  (∀ c k, P en ts = .error (c, k) → ∃ q r, ts = q ++ r ∧ k = place en r ∧ ∀ en' r', r'.head? = r.head? → P en' (q ++ r') = .error (c, place en' r'))

theorem head_app {q r r' : Toks} (h : r'.head? = r.head?) : (q ++ r').head? = (q ++ r).head? := by cases q <;> simp [h]

theorem Stable.ret {α : Type} (x : α) : Stable (pret x) := by
  intro en ts
  refine ⟨fun y r h => ?_, fun c k h => (by cases h)⟩
  cases h
  exact ⟨[], rfl, fun en' r' _ => rfl⟩

theorem Stable.bind {α β : Type} {P : Par α} {f : α → Par β} (hP : Stable P) (hf : ∀ x, Stable (f x)) : Stable (pbind P f) := by
  intro en ts
  constructor
  · intro y r h
    unfold pbind at h
    cases hp : P en ts with
    | error e => rw [hp] at h; cases h
    | ok xr =>
      obtain ⟨x, s⟩ := xr
      rw [hp] at h
      obtain ⟨q1, e1, h1⟩ := (hP en ts).1 x s hp
      obtain ⟨q2, e2, h2⟩ := (hf x en s).1 y r h
      refine ⟨q1 ++ q2, by rw [e1, e2, List.append_assoc], fun en' r' hr => ?_⟩
      unfold pbind
      rw [List.append_assoc, h1 en' (q2 ++ r') (by rw [e2]; exact head_app hr)]
      exact h2 en' r' hr
  · intro c k h
    unfold pbind at h
    cases hp : P en ts with
    | error e =>
      rw [hp] at h
      cases h
      obtain ⟨q, r, e1, e2, h1⟩ := (hP en ts).2 c k hp
      refine ⟨q, r, e1, e2, fun en' r' hr => ?_⟩
      unfold pbind
      rw [h1 en' r' hr]
    | ok xr =>
      obtain ⟨x, s⟩ := xr
      rw [hp] at h
      obtain ⟨q1, e1, h1⟩ := (hP en ts).1 x s hp
      obtain ⟨q2, r, e2, e3, h2⟩ := (hf x en s).2 c k h
      refine ⟨q1 ++ q2, r, by rw [e1, e2, List.append_assoc], e3, fun en' r' hr => ?_⟩
      unfold pbind
      rw [List.append_assoc, h1 en' (q2 ++ r') (by rw [e2]; exact head_app hr)]
      exact h2 en' r' hr

theorem Stable.take (p : Tk → Bool) : Stable (ptake p) := by
  intro en ts
  cases ts with
  | nil =>
    refine ⟨fun x r h => (by cases h), fun c k h => ?_⟩
    cases h
    refine ⟨[], [], rfl, rfl, fun en' r' hr => ?_⟩
    cases r' with
    | nil => rfl
    | cons a b => cases hr
  | cons t ts =>
    constructor
    · intro x r h
      simp only [ptake] at h
      split at h
      · rename_i hp
        cases h
        refine ⟨[t], rfl, fun en' r' hr => ?_⟩
        show (if p t.1 then _ else _) = _
        rw [if_pos hp]
        rfl
      · cases h
    · intro c k h
      simp only [ptake] at h
      split at h
      · cases h
      · rename_i hp
        cases h
        refine ⟨[], t :: ts, rfl, rfl, fun en' r' hr => ?_⟩
        cases r' with
        | nil => cases hr
        | cons a b =>
          simp only [List.head?_cons, Option.some.injEq] at hr
          subst hr
          show (if p a.1 then _ else _) = _
          rw [if_neg hp]
          rfl

theorem comes_head (p : Tk → Bool) {r r' : Toks} (h : r'.head? = r.head?) : pcomes p r' = pcomes p r := by
  cases r <;> cases r' <;> simp_all [pcomes]

theorem Stable.fork {α : Type} (p : Tk → Bool) {P Q : Par α} (hP : Stable P) (hQ : Stable Q) : Stable (pif p P Q) := by
  intro en ts
  have key : ∀ (q r r' : Toks), r'.head? = r.head? → pcomes p (q ++ r') = pcomes p (q ++ r) := fun q r r' h => comes_head p (head_app h)
  unfold pif
  by_cases h0 : pcomes p ts = true
  · rw [if_pos h0]
    constructor
    · intro x r h
      obtain ⟨q, e, hq⟩ := (hP en ts).1 x r h
      refine ⟨q, e, fun en' r' hr => ?_⟩
      rw [if_pos (by rw [key q r r' hr, ← e]; exact h0)]
      exact hq en' r' hr
    · intro c k h
      obtain ⟨q, r, e, ek, hq⟩ := (hP en ts).2 c k h
      refine ⟨q, r, e, ek, fun en' r' hr => ?_⟩
      rw [if_pos (by rw [key q r r' hr, ← e]; exact h0)]
      exact hq en' r' hr
  · rw [if_neg h0]
    constructor
    · intro x r h
      obtain ⟨q, e, hq⟩ := (hQ en ts).1 x r h
      refine ⟨q, e, fun en' r' hr => ?_⟩
      rw [if_neg (by rw [key q r r' hr, ← e]; exact h0)]
      exact hq en' r' hr
    · intro c k h
      obtain ⟨q, r, e, ek, hq⟩ := (hQ en ts).2 c k h
      refine ⟨q, r, e, ek, fun en' r' hr => ?_⟩
      rw [if_neg (by rw [key q r r' hr, ← e]; exact h0)]
      exact hq en' r' hr

theorem Stable.ite {α : Type} {P Q : Par α} (c : Prop) [Decidable c] (hP : Stable P) (hQ : Stable Q) : Stable (if c then P else Q) := by
  split
  · exact hP
  · exact hQ

theorem part_stable {pe : Par Nd} (h : Stable pe) (k : Kd) : Stable (ppart pe k) := by
  cases k
  · exact h
  · exact (Stable.take _).bind fun _ => Stable.ret _
  · exact (Stable.take _).bind fun _ => Stable.ret _

theorem kinds_stable {pe : Par Nd} (h : Stable pe) (ks : List Kd) : ∀ b, Stable (pkinds pe b ks) := by
  induction ks with
  | nil => intro b; cases b <;> exact Stable.ret _
  | cons k ks ih =>
    intro b
    cases b
    · exact (Stable.take _).bind fun _ => (part_stable h k).bind fun _ => (ih false).bind fun _ => Stable.ret _
    · exact (part_stable h k).bind fun _ => (ih false).bind fun _ => Stable.ret _

theorem more_stable {pe : Par Nd} (h : Stable pe) (f : Nat) : Stable (pmore pe f) := by
  induction f with
  | zero => exact Stable.ret _
  | succ f ih => exact Stable.fork _ ((Stable.take _).bind fun _ => h.bind fun _ => ih.bind fun _ => Stable.ret _) (Stable.ret _)

theorem parts_stable {pe : Par Nd} (h : Stable pe) (op : List UInt8) : Stable (pparts pe op) :=
  (Stable.take _).bind fun _ => (kinds_stable h _ _).bind fun _ => (Stable.ite _ (more_stable h _) (Stable.ret _)).bind fun _ => (Stable.take _).bind fun _ => Stable.ret _

theorem expr_stable (d : Nat) : Stable (pexpr d) := by
  induction d with
  | zero =>
    intro en ts
    refine ⟨fun x r h => (by cases h), fun c k h => ?_⟩
    cases h
    exact ⟨[], ts, rfl, rfl, fun en' r' hr => rfl⟩
  | succ d ih => exact (Stable.take _).bind fun _ => Stable.ite _ (Stable.ret _) ((parts_stable ih _).bind fun _ => Stable.ret _)

theorem rest_stable (op : List UInt8) : Stable (prest op) := by
  unfold prest
  exact Stable.ite _ ((Stable.take _).bind fun _ => Stable.ret _) (Stable.ite _ ((Stable.take _).bind fun _ => Stable.ret _)
    (Stable.ite _ ((Stable.take _).bind fun _ => (expr_stable 12).bind fun _ => Stable.ret _) (Stable.fork _ ((Stable.take _).bind fun _ => Stable.ret _) (Stable.ret _))))

theorem stmt_stable : Stable pstmt :=
  (Stable.take _).bind fun _ => (Stable.take _).bind fun _ => (rest_stable _).bind fun _ => (Stable.take _).bind fun _ => Stable.ret _

theorem file_stable (f : Nat) : Stable (pfile f) := by
  induction f with
  | zero => exact Stable.ret _
  | succ f ih =>
    have hb : Stable (pbind pstmt fun n => pbind (pfile f) fun l => pret (n :: l)) := stmt_stable.bind fun _ => ih.bind fun _ => Stable.ret _
    intro en ts
    cases ts with
    | nil =>
      refine ⟨fun x r h => ?_, fun c k h => (by cases h)⟩
      cases h
      refine ⟨[], rfl, fun en' r' hr => ?_⟩
      cases r' with
      | nil => rfl
      | cons a b => cases hr
    | cons t ts =>
      have hd : ∀ (q r r' : Toks), t :: ts = q ++ r → r'.head? = r.head? → ∀ en', pfile (f + 1) en' (q ++ r') = (pbind pstmt fun n => pbind (pfile f) fun l => pret (n :: l)) en' (q ++ r') := by
        intro q r r' e hr en'
        cases q with
        | nil =>
          cases r' with
          | nil => simp only [List.nil_append] at e; subst e; cases hr
          | cons a b => rfl
        | cons a b => rfl
      constructor
      · intro x r h
        obtain ⟨q, e, hq⟩ := (hb en (t :: ts)).1 x r h
        exact ⟨q, e, fun en' r' hr => (hd q r r' e hr en').trans (hq en' r' hr)⟩
      · intro c k h
        obtain ⟨q, r, e, ek, hq⟩ := (hb en (t :: ts)).2 c k h
        exact ⟨q, r, e, ek, fun en' r' hr => (hd q r r' e hr en').trans (hq en' r' hr)⟩
end Go.Proofs.YtpckmllmjdafpaaGreatDoor

/- Blocks of numbers, bytes and rows in memory, free of any package's own types. -/
namespace Go.Proofs.YtpckmllmjdafpaaGreatDoor
open Go.ChangeShapes Go.WideShapes Go.ChangeAt Go.RowKit
set_option linter.unusedVariables false

def cellsN (k : IntKind) (n : Nat) (f : Nat → Nat) : Array Value := ((List.range n).map fun j => Value.int k (f j : Nat)).toArray

theorem cellsN_size (k : IntKind) (n : Nat) (f : Nat → Nat) : (cellsN k n f).size = n := by simp [cellsN]

theorem cellsN_get (k : IntKind) (n : Nat) (f : Nat → Nat) (j : Nat) (h : j < n) : (cellsN k n f)[j]? = some (.int k (f j : Nat)) := by
  simp [cellsN, h]

theorem cellsN_one (k : IntKind) (n : Nat) (f : Nat → Nat) : (cellsN k n f).all (·.oneCell') = true := by
  simp [cellsN, Value.oneCell']

def upd (f : Nat → Nat) (j v : Nat) : Nat → Nat := fun i => if i = j then v else f i

theorem cellsN_set (k : IntKind) (n : Nat) (f : Nat → Nat) (j v : Nat) : (cellsN k n f).setIfInBounds j (.int k (v : Nat)) = cellsN k n (upd f j v) := by
  apply Array.ext_getElem?
  intro i
  rw [Array.getElem?_setIfInBounds]
  simp only [cellsN_size]
  by_cases hi : i < n
  · rw [cellsN_get _ _ _ _ hi, cellsN_get _ _ _ _ hi]
    by_cases e : j = i
    · subst e; simp [upd, hi]
    · have : ¬ i = j := fun h => e h.symm
      simp [upd, e, this]
  · have e1 : (cellsN k n f)[i]? = none := by simp [cellsN]; omega
    have e2 : (cellsN k n (upd f j v))[i]? = none := by simp [cellsN]; omega
    rw [e1, e2]
    split
    · subst_vars; simp [hi]
    · rfl

theorem cellsN_congr (k : IntKind) (n : Nat) (f g : Nat → Nat) (h : ∀ j, j < n → f j = g j) : cellsN k n f = cellsN k n g := by
  unfold cellsN
  congr 1
  apply List.map_congr_left
  intro j hj
  rw [h j (by simpa using hj)]

/-- Block g holds the cells cs, none of them frozen. -/
def Has (w : World) (g t : Nat) (cs : Array Value) : Prop := w.heap[g]? = some (.cells cs t (0, 0))

theorem Has.lt {w : World} {g t : Nat} {cs : Array Value} (h : Has w g t cs) : g < w.heap.size := (Array.getElem?_eq_some_iff.1 h).1

theorem Has.cell {w : World} {g t : Nat} {cs : Array Value} (h : Has w g t cs) (j : Nat) : w.cell? ⟨g, j, none⟩ = cs[j]? := cell_of_row w g j cs t (0, 0) h

theorem Has.num {w : World} {g t n : Nat} {k : IntKind} {f : Nat → Nat} (h : Has w g t (cellsN k n f)) (j : Nat) (hj : j < n) : w.cell? ⟨g, j, none⟩ = some (.int k (f j : Nat)) := by
  rw [h.cell, cellsN_get _ _ _ _ hj]

theorem Has.free {w : World} {g t : Nat} {cs : Array Value} (h : Has w g t cs) (j : Nat) : w.frozen? ⟨g, j, none⟩ = false := by
  have h' : w.heap[g]? = some (.cells cs t (0, 0)) := h
  simp [World.frozen?, h']

theorem Has.below {w w' : World} {B g t : Nat} {cs : Array Value} (h : Has w g t cs) (hb : Below B w w') (hg : g < B) : Has w' g t cs := (hb.block g hg).trans h

theorem Has.drewN {w : World} {g t : Nat} {cs : Array Value} (h : Has w g t cs) (m : Nat) : Has (w.drewN m) g t cs := h

theorem Has.alloc {w : World} {g t : Nat} {cs : Array Value} (h : Has w g t cs) (o : Obj) : Has (w.alloc o) g t cs := (Below.heap_alloc w o g h.lt).trans h

theorem Has.new (w : World) (t : Nat) (cs : Array Value) : Has (w.alloc (.cells cs t)) w.heap.size t cs := heap_alloc_new w _

theorem Has.new_at {w : World} {g t : Nat} {cs : Array Value} (h : g = w.heap.size) : Has (w.alloc (.cells cs t)) g t cs := h ▸ heap_alloc_new w _

theorem Has.other {w : World} {g t : Nat} {cs : Array Value} (h : Has w g t cs) {p : Addr} (hp : g ≠ p.block) (u : Value) : Has (w.setCell p u) g t cs := (Below.heap_setCell w p u g hp).trans h

theorem Has.set {w : World} {g t n : Nat} {k : IntKind} {f : Nat → Nat} (h : Has w g t (cellsN k n f)) (j v : Nat) : Has (w.setCell ⟨g, j, none⟩ (.int k (v : Nat))) g t (cellsN k n (upd f j v)) := by
  have h' : w.heap[g]? = some (.cells (cellsN k n f) t (0, 0)) := h
  show (w.setCell ⟨g, j, none⟩ _).heap[g]? = _
  simp only [World.setCell, Array.getElem?_modify, h', if_pos, Option.map_some]
  rw [cellsN_set]
  rfl

theorem Has.setRow {w : World} {g t : Nat} {cs : Array Value} (h : Has w g t cs) (cs' : Array Value) : Has (w.setRow g cs') g t cs' := setRow_heap w g cs cs' t (0, 0) h

theorem below_setRow {B : Nat} {a w : World} (h : Below B a w) {g : Nat} (hg : B ≤ g) (cs : Array Value) : Below B a (w.setRow g cs) :=
  h.trans ⟨rfl, rfl, rfl, by simp [World.setRow], fun k hk => by simp only [World.setRow, Array.getElem?_modify]; rw [if_neg (by omega)]⟩

theorem Has.setRow_other {w : World} {g g' t : Nat} {cs : Array Value} (h : Has w g t cs) (hne : g ≠ g') (cs' : Array Value) : Has (w.setRow g' cs') g t cs := by
  show (w.setRow g' cs').heap[g]? = _
  simp only [World.setRow, Array.getElem?_modify]
  rw [if_neg (fun e => hne e.symm)]
  exact h

theorem Has.load {w : World} {g t n e : Nat} {cs : Array Value} (h : Has w g t cs) (ty : Nat) (hu : Tryz.prog.underlying ty = some (.array n e)) (hi : (Tryz.prog.info? ty).map (·.size) = some cs.size) :
    (Instr.loadAt ty (.pointer (some ⟨g, 0, none⟩))).run Tryz.prog w = .ok (.agg cs) w := by
  simp only [Instr.loadAt, Instr.sureAddr, Sem.run_bind, Sem.run_pure, Result.andThen]
  exact run_loadVar_row _ _ t ty cs (0, 0) _ h hu rfl hi

theorem Has.store {w : World} {g t : Nat} {cs cs' : Array Value} (h : Has w g t cs) (ty : Nat) (hi : (Tryz.prog.info? ty).map (·.size) = some cs'.size) (ho : cs.size = cs'.size) (h1 : cs'.all (·.oneCell') = true) :
    (Instr.storeAt ty (.pointer (some ⟨g, 0, none⟩)) (.agg cs')).run Tryz.prog w = .ok () (w.setRow g cs') := by
  simp only [Instr.storeAt, Instr.sureAddr, Sem.run_bind, Sem.run_pure, Result.andThen]
  exact run_storeVar_row w g t ty cs cs' h hi ho h1

theorem wpList_store_rowG {ops : Array Oper} {rest : List Oper} {o : Oper} {a : Act} {w : World} {Q : Exit → Act → World → Prop} (hgd : o.guard = none) (ty : TypeId) (x y : Operand) (ho : o.op = .store ty x y)
    (g : Nat) (cells : Array Value) (hx : a.eval x = .pointer (some ⟨g, 0, none⟩)) (hy : a.eval y = .agg cells)
    (t : TypeId) (old : Array Value) (hg : Has w g t old) (hi : (Tryz.prog.info? ty).map (·.size) = some cells.size)
    (hold : old.size = cells.size) (h1 : cells.all (·.oneCell') = true)
    (h : ∀ w2, w2 = w.setRow g cells → wpList Tryz.prog ops Q rest (a.put o.dst undef) w2) : wpList Tryz.prog ops Q (o :: rest) a w :=
  wpList_store_row hgd ty x y ho g cells hx hy t old hg hi hold h1 (h _ rfl)

theorem zeros (k : IntKind) (n : Nat) : cellsN k n (fun _ => 0) = (List.replicate n (Value.int k 0)).toArray := by
  unfold cellsN
  congr 1
  apply List.ext_getElem?
  intro i
  simp [List.getElem?_replicate]
  split <;> simp_all

def part (f : Nat → Nat) (k : Nat) : Nat → Nat := fun j => if j < k then f j else 0

theorem part_next (f : Nat → Nat) (k : Nat) : upd (part f k) k (f k) = part f (k + 1) := by
  funext i
  unfold upd part
  by_cases e : i = k
  · subst e; simp
  · have : (i < k + 1) = (i < k) := by simp; omega
    simp [e, this]

theorem Tryz.info5 : (Tryz.prog.info? 5).map (fun i => (i.zero, i.size, i.bytes)) = some (some (.int .u8 0), 1, 1) := by kernel_rfl

def Bytes (w : World) (a : Option Addr) (len : Nat) (m : Nat → Nat) : Prop := len = 0 ∨ ∃ b off, a = some ⟨b, off, none⟩ ∧ b < w.heap.size ∧ ∀ j, j < len → w.cell? ⟨b, off + j, none⟩ = some (.int .u8 (m j : Nat))

theorem Bytes.below {w w' : World} {a : Option Addr} {len B : Nat} {m : Nat → Nat} (h : Bytes w a len m) (hb : Below B w w') (hB : w.heap.size ≤ B) : Bytes w' a len m := by
  rcases h with h | ⟨b, off, h1, h2, h3⟩
  · exact .inl h
  · exact .inr ⟨b, off, h1, Nat.lt_of_lt_of_le h2 hb.size, fun j hj => (hb.cell (show b < B by omega)).trans (h3 j hj)⟩

def bl (f : Nat → Nat) (n : Nat) : List Value := (List.range n).map fun j => Value.int .u8 (f j : Nat)

/-- f's first n, and g behind them. -/
def cat (f : Nat → Nat) (n : Nat) (g : Nat → Nat) : Nat → Nat := fun j => if j < n then f j else g (j - n)

theorem bl_len (f : Nat → Nat) (n : Nat) : (bl f n).length = n * 1 := by simp [bl]

theorem bl_get (f : Nat → Nat) (n j : Nat) (h : j < n) : (bl f n)[j]? = some (.int .u8 (f j : Nat)) := by simp [bl, h]

theorem bl_one (f : Nat → Nat) (n : Nat) : ∀ u ∈ bl f n, u.oneCell' = true := by
  intro u hu
  obtain ⟨j, _, rfl⟩ := List.mem_map.1 hu
  rfl

theorem bl_cat (f g : Nat → Nat) (n l : Nat) : bl f n ++ bl g l = bl (cat f n g) (n + l) := by
  unfold bl
  rw [List.range_add, List.map_append, List.map_map]
  congr 1
  · apply List.map_congr_left
    intro j hj
    have : j < n := by simpa using hj
    simp only [cat, if_pos this]
  · apply List.map_congr_left
    intro j hj
    simp only [Function.comp, cat]
    rw [if_neg (by omega), show n + j - n = j from by omega]

theorem bl_cat_zero (f g : Nat → Nat) (n : Nat) : bl (cat f n g) (n + 0) = bl f n := by
  rw [← bl_cat f g n 0]
  simp [bl]

theorem cat_lt (f g : Nat → Nat) (n : Nat) (hf : ∀ j, f j < 256) (hg : ∀ j, g j < 256) (j : Nat) : cat f n g j < 256 := by
  unfold cat
  split
  · exact hf _
  · exact hg _

theorem grownBy_refl (w : World) (r : Option Nat) : w.grownBy w r := ⟨rfl, rfl, rfl, Nat.le_refl _, fun _ _ _ => rfl⟩

/-- One append of bytes, nil or not, to a row of the call's own. -/
theorem wpList_append_bytes {ops : Array Oper} {rest : List Oper} {o : Oper} {a : Act} {w : World} {Q : Exit → Act → World → Prop} (hgd : o.guard = none) (s x : Operand)
    (ho : o.op = .call { callee := .builtin .append, args := #[s, x], argTypes := #[34, 34] }) (base : Nat) (v : Value) (n : Nat) (f : Nat → Nat) (hs : a.eval s = v) (hown : w.ownsRow base 5 1 v n (bl f n))
    (A : Option Addr) (L C : Nat) (g : Nat → Nat) (hx : a.eval x = .slice A L C) (hnil : A = none → L = 0 ∧ C = 0) (hb : Bytes w A L g) (h63 : n + L ≤ 140737488355328) (hbase : base ≤ w.heap.size)
    (h : ∀ v' w', w'.ownsRow base 5 1 v' (n + L) (bl (cat f n g) (n + L)) → w.grownBy w' v.ownBlock → wpList Tryz.prog ops Q rest (a.put o.dst v') w') : wpList Tryz.prog ops Q (o :: rest) a w := by
  obtain ⟨i0, hi, hz0, hz1, hz2⟩ := info_parts Tryz.info5
  cases A with
  | none =>
    obtain ⟨rfl, rfl⟩ := hnil rfl
    refine wpList_append_own_none hgd s x 34 ho base 5 i0 1 Tryz.underlying34 hi v n _ hs hown hx ?_
    exact h v w (by rw [bl_cat_zero]; exact hown) (grownBy_refl _ _)
  | some ad =>
    refine wpList_append_own w hgd s x 34 ho base 5 i0 (.int .u8 0) 1 1 Tryz.underlying34 hi hz0 hz1 hz2 rfl (by decide) v n _ hs hown ad L C (bl g L) hx (bl_len g L) ?_ (bl_one g L) (by unfold maxLen; omega) (by omega) hbase ?_
    · intro j u hj
      by_cases hjl : j < L
      · rw [bl_get g L j hjl] at hj
        rcases hb with h0 | ⟨b, off, e, _, hc⟩
        · omega
        · obtain rfl : ad = ⟨b, off, none⟩ := Option.some.inj e
          have e1 : (⟨b, off, none⟩ : Addr).add j = ⟨b, off + j, none⟩ := by unfold Addr.add; split <;> simp_all
          rw [e1, hc j hjl]
          exact hj
      · rw [List.getElem?_eq_none (by rw [bl_len]; omega)] at hj
        simp at hj
    · intro v' w' h1 h2 _
      rw [bl_cat] at h1
      exact h v' w' h1 h2

/-- What is owned, as bytes of a slice. -/
theorem own_bytes {w : World} {base n : Nat} {v : Value} {f : Nat → Nat} (h : w.ownsRow base 5 1 v n (bl f n)) : ∃ a cap, v = .slice a n cap ∧ n ≤ cap ∧ (a = none → n = 0 ∧ cap = 0) ∧ Bytes w a n f ∧ ∀ b off, a = some ⟨b, off, none⟩ → base ≤ b ∧ b < w.heap.size := by
  rcases h.2 with ⟨rfl, rfl⟩ | ⟨g, cap, cur, rfl, hb, hg, hn, hm, hs, ht⟩
  · exact ⟨none, 0, rfl, Nat.le_refl _, fun _ => ⟨rfl, rfl⟩, .inl rfl, fun b off e => by cases e⟩
  · have hlt : g < w.heap.size := (Array.getElem?_eq_some_iff.1 hg).1
    refine ⟨some ⟨g, 0, none⟩, cap, rfl, hn, (fun e => by cases e), .inr ⟨g, 0, rfl, hlt, ?_⟩, ?_⟩
    · intro j hj
      rw [cell_of_row w g (0 + j) cur 5 (0, 0) hg, Nat.zero_add]
      have := bl_get f n j hj
      rw [← ht, List.getElem?_take_of_lt (by omega), Array.getElem?_toList] at this
      exact this
    · intro b off e
      simp only [Option.some.injEq, Addr.mk.injEq, and_true] at e
      omega

theorem own_below {w w' : World} {base B n : Nat} {v : Value} {xs : List Value} (h : w.ownsRow base 5 1 v n xs) (hb : Below B w w') (hB : ∀ g, v.ownBlock = some g → g < B) : w'.ownsRow base 5 1 v n xs := by
  refine ⟨h.1, ?_⟩
  rcases h.2 with h0 | ⟨g, cap, cur, hv, h1, hg, r⟩
  · exact .inl h0
  · exact .inr ⟨g, cap, cur, hv, h1, (hb.block g (hB g (by rw [hv]; rfl))).trans hg, r⟩

theorem cat_zero (f g : Nat → Nat) : cat f 0 g = g := by funext j; simp [cat]

theorem bl_set (f : Nat → Nat) (n q v : Nat) : (bl f n).set q (.int .u8 (v : Nat)) = bl (upd f q v) n := by
  apply List.ext_getElem?
  intro i
  rw [List.getElem?_set]
  by_cases hi : i < n
  · rw [bl_get _ _ _ hi, bl_get _ _ _ hi, show (bl f n).length = n from by simp [bl]]
    by_cases e : q = i
    · subst e; simp [upd, hi]
    · have : ¬ i = q := fun h => e h.symm
      simp [upd, e, this]
  · rw [List.getElem?_eq_none (by simp [bl]; omega), List.getElem?_eq_none (by simp [bl]; omega), show (bl f n).length = n from by simp [bl]]
    split
    · subst_vars; simp [hi]
    · rfl

theorem Bytes.congr {w : World} {a : Option Addr} {len : Nat} {m m' : Nat → Nat} (h : Bytes w a len m) (hm : ∀ j, j < len → m' j = m j) : Bytes w a len m' := by
  rcases h with h | ⟨b, off, h1, h2, h3⟩
  · exact .inl h
  · exact .inr ⟨b, off, h1, h2, fun j hj => by rw [hm j hj]; exact h3 j hj⟩

theorem cat_cat (f g : Nat → Nat) (n : Nat) : cat (cat f n g) n g = cat f n g := by
  funext j
  unfold cat
  by_cases h : j < n
  · rw [if_pos h, if_pos h]
  · rw [if_neg h, if_neg h]

theorem Has.bytes {w : World} {g t n : Nat} {f : Nat → Nat} (h : Has w g t (cellsN .u8 n f)) : Bytes w (some ⟨g, 0, none⟩) n f :=
  .inr ⟨g, 0, rfl, h.lt, fun j hj => by rw [Nat.zero_add]; exact h.num j hj⟩

theorem Bytes.setRow {w : World} {a : Option Addr} {len : Nat} {m : Nat → Nat} (h : Bytes w a len m) (g : Nat) (cs : Array Value) (hne : ∀ b o, a = some ⟨b, o, none⟩ → b ≠ g) : Bytes (w.setRow g cs) a len m := by
  rcases h with h | ⟨b, o, rfl, hlt, hc⟩
  · exact .inl h
  · have hb := setRow_other w g b cs (hne b o rfl)
    have hlt' : b < (w.setRow g cs).heap.size := (Array.getElem?_eq_some_iff.1 (hb.trans (Array.getElem?_eq_getElem hlt))).1
    exact .inr ⟨b, o, rfl, hlt', fun j hj => by rw [← hc j hj]; simp only [World.cell?, hb]⟩

/-- A slice of bytes within one. -/
theorem Bytes.part {w : World} {b o len : Nat} {m : Nat → Nat} (h : Bytes w (some ⟨b, o, none⟩) len m) (s k : Nat) (hk : s + k ≤ len) : Bytes w (some ⟨b, o + s, none⟩) k (fun j => m (s + j)) := by
  rcases h with h | ⟨b', o', e, hlt, hc⟩
  · exact .inl (by omega)
  · cases e
    exact .inr ⟨b, o + s, rfl, hlt, fun j hj => by rw [Nat.add_assoc]; exact hc _ (by omega)⟩

theorem Bytes.grownTo {w w' : World} {a : Option Addr} {len : Nat} {m : Nat → Nat} {r : Option Nat} (h : Bytes w a len m) (hg : w.grownBy w' r) (hne : ∀ b off, a = some ⟨b, off, none⟩ → r ≠ some b) : Bytes w' a len m := by
  rcases h with h | ⟨b, o, rfl, hlt, hc⟩
  · exact .inl h
  · have hb := hg.block b hlt (fun e => hne b o rfl e.symm)
    exact .inr ⟨b, o, rfl, Nat.lt_of_lt_of_le hlt hg.size, fun j hj => by rw [← hc j hj]; simp only [World.cell?, hb]⟩

theorem wpList_is {ops : Array Oper} {rest : List Oper} {o : Oper} {a : Act} {w : World} {Q : Exit → Act → World → Prop} (d : Option Tmp) (v : Value) (hd : o.dst = d) (hw : Region.wanted o (yielded ops a.tmps) = true)
    (hrun : (execOp a.eval o).run Tryz.prog w = .ok (.value v) w) (h : wpList Tryz.prog ops Q rest (a.put d v) w) : wpList Tryz.prog ops Q (o :: rest) a w :=
  wpList_step fun K hK => by
    subst hd
    rw [if_pos hw]
    unfold Oper.wp
    rw [hrun]
    exact hK _ _ h

theorem wpList_is_w {ops : Array Oper} {rest : List Oper} {o : Oper} {a : Act} {w : World} {Q : Exit → Act → World → Prop} (d : Option Tmp) (v : Value) (w' : World) (hd : o.dst = d) (hw : Region.wanted o (yielded ops a.tmps) = true)
    (hrun : (execOp a.eval o).run Tryz.prog w = .ok (.value v) w') (h : wpList Tryz.prog ops Q rest (a.put d v) w') : wpList Tryz.prog ops Q (o :: rest) a w :=
  wpList_step fun K hK => by
    subst hd
    rw [if_pos hw]
    unfold Oper.wp
    rw [hrun]
    exact hK _ _ h

theorem bl_zeros (n : Nat) : (madeCells (Value.int .u8 0).cells (n * 1)).toList = bl (fun _ => 0) n := by
  unfold bl madeCells
  apply List.ext_getElem?
  intro i
  by_cases h : i < n
  · simp [h, Value.cells, Nat.mod_one]
  · simp [h, Value.cells]

theorem own_has6 {w : World} {base n g : Nat} {f : Nat → Nat} (h : w.ownsRow base 5 1 (.slice (some ⟨g, 0, none⟩) n n) n (bl f n)) : Has w g 5 (cellsN .u8 n f) := by
  rcases h.2 with ⟨e, _⟩ | ⟨g', cap, cur, e, hb, hg, hn, hm, hs, ht⟩
  · cases e
  · injection e with e1 _ e3
    injection e1 with e1
    injection e1 with e1
    subst e1 e3
    have hc : cur = cellsN .u8 n f := by
      apply Array.toList_inj.1
      rw [← List.take_of_length_le (l := cur.toList) (i := n * 1) (by rw [Array.length_toList, hs]; exact Nat.le_refl _), ht]
      unfold bl cellsN
      rfl
    show w.heap[g]? = _
    rw [hg, hc]

theorem make_has (n : Nat) (hn : n ≤ 10000000) (w : World) : ∃ w', Has w' w.heap.size 5 (cellsN .u8 n fun _ => 0) ∧ Below w.heap.size w w' ∧
    ∀ (o : Oper) (a : Act) (l c : Operand), o.op = .makeSlice 34 l c → a.eval l = .int .i64 (n : Nat) → a.eval c = .int .i64 (n : Nat) → (execOp a.eval o).run Tryz.prog w = .ok (.value (.slice (some ⟨w.heap.size, 0, none⟩) n n)) w' := by
  obtain ⟨i0, hi, hz0, hz1, hz2⟩ := info_parts Tryz.info5
  obtain ⟨w', hrun, r1, r2⟩ := run_make_full (P := Tryz.prog) w w.heap.size 34 5 i0 (.int .u8 0) 1 Tryz.underlying34 hi hz0 hz1 .i64 .i64 n (by rw [hz2]; omega) (by unfold maxLen; omega) (Nat.le_refl _)
  rw [bl_zeros] at r1
  refine ⟨w', own_has6 r1, (Below.refl _ _).grown r2 (Nat.le_refl _) (by intro k h; cases h), ?_⟩
  intro o a l c ho hl hc
  unfold execOp
  simp [ho, hl, hc, hrun, Result.andThen]

theorem Bytes.src {w : World} {a : Option Addr} {n : Nat} {f : Nat → Nat} (hb : Bytes w a n f) (c : Nat) (hc : c ≤ n) : 0 < ((List.range c).map fun j => Value.int .u8 (f j : Nat)).length → ∃ ad, a = some ad ∧ ∀ j v, ((List.range c).map fun j => Value.int .u8 (f j : Nat))[j]? = some v → w.cell? (ad.add j) = some v := by
  intro h0
  simp only [List.length_map, List.length_range] at h0
  rcases hb with h | ⟨b, off, rfl, h2, h3⟩
  · omega
  · refine ⟨_, rfl, fun j v hv => ?_⟩
    rw [Addr.add_mid]
    have hj : j < c := by have := (List.getElem?_eq_some_iff.1 hv).1; simpa using this
    rw [h3 j (by omega), ← hv]
    simp [hj]

theorem ints_one (f : Nat → Nat) (n : Nat) : ∀ v ∈ (List.range n).map fun j => Value.int .u8 (f j : Nat), v.oneCell' = true := by
  intro v hv
  obtain ⟨j, _, rfl⟩ := List.mem_map.1 hv
  rfl

/-- Bytes laid over the beginning of a row of noughts. -/
theorem spliced6 (f : Nat → Nat) (n M : Nat) (hn : n ≤ M) : splice (cellsN .u8 M fun _ => 0).toList 0 ((List.range n).map fun j => Value.int .u8 (f j : Nat)) = (cellsN .u8 M fun j => if j < n then f j else 0).toList := by
  apply List.ext_getElem?
  intro i
  unfold splice
  rw [List.take_zero, List.nil_append]
  by_cases h1 : i < n
  · have e := cellsN_get .u8 M (fun j => if j < n then f j else 0) i (by omega)
    rw [← Array.getElem?_toList, if_pos h1] at e
    rw [List.getElem?_append_left (by simpa using h1), e]
    simp [h1]
  · rw [List.getElem?_append_right (by simp; omega), List.getElem?_drop]
    simp only [List.length_map, List.length_range]
    rw [show 0 + n + (i - n) = i from by omega]
    by_cases h2 : i < M
    · rw [Array.getElem?_toList, Array.getElem?_toList, cellsN_get _ _ _ _ h2, cellsN_get _ _ _ _ h2, if_neg h1]
    · rw [List.getElem?_eq_none (by simp [cellsN]; omega), List.getElem?_eq_none (by simp [cellsN]; omega)]

def pickF (d : Nat → Nat) (L : Nat) : Nat → Nat := fun j => if j < L then d j else 0

theorem pickF_lt (d : Nat → Nat) (L : Nat) (hd : ∀ j, d j < 256) (j : Nat) : pickF d L j < 256 := by
  unfold pickF
  split
  · exact hd j
  · decide

/-- What picked lays, of M bytes. -/
theorem pick_words (d : Nat → Nat) (L M c : Nat) (a : Option Addr) (w : World) (hb : Bytes w a L d) (hM : M ≤ 100000) : ∃ (w1 : World) (cs : List Value), Has w1 w.heap.size 5 (cellsN .u8 M fun _ => 0) ∧ Below w.heap.size w w1 ∧
    (∀ (o : Oper) (a : Act) (l c : Operand), o.op = .makeSlice 34 l c → a.eval l = .int .i64 (M : Nat) → a.eval c = .int .i64 (M : Nat) → (execOp a.eval o).run Tryz.prog w = .ok (.value (.slice (some ⟨w.heap.size, 0, none⟩) M M)) w1) ∧
    cs.length = Nat.min L M ∧ (0 < cs.length → some (⟨w.heap.size, 0, none⟩ : Addr) = some ⟨w.heap.size, 0, none⟩ ∧ ∃ ad, a = some ad ∧ ∀ j v, cs[j]? = some v → w1.cell? (ad.add j) = some v) ∧ 0 + cs.length ≤ (cellsN .u8 M fun _ => 0).toList.length ∧
    (∀ v ∈ cs, v.oneCell' = true) ∧ (splice (cellsN .u8 M fun _ => 0).toList 0 cs).toArray = cellsN .u8 M (pickF d L) := by
  obtain ⟨w1, hH1, hb1, hmk⟩ := make_has M (by omega) w
  obtain ⟨cc, hcc⟩ : ∃ cc, cc = Nat.min L M := ⟨_, rfl⟩
  have hccb : cc ≤ L ∧ cc ≤ M := by rw [hcc]; exact ⟨Nat.min_le_left _ _, Nat.min_le_right _ _⟩
  have hby := hb.below hb1 (Nat.le_refl _)
  have HP : cellsN .u8 M (fun j => if j < cc then d j else 0) = cellsN .u8 M (pickF d L) := by
    apply cellsN_congr
    intro j hj
    unfold pickF
    by_cases h : j < L
    · rw [if_pos h, if_pos (by rw [hcc]; exact Nat.lt_min.2 ⟨h, hj⟩)]
    · rw [if_neg h, if_neg (by omega)]
  refine ⟨w1, (List.range cc).map fun j => Value.int .u8 (d j : Nat), hH1, hb1, hmk, by rw [hcc]; simp, fun h0 => ⟨rfl, hby.src cc hccb.1 h0⟩, by simp [cellsN]; omega, ints_one d cc, ?_⟩
  rw [spliced6 d cc M hccb.2, ← HP]

theorem wpList_make6 {ops : Array Oper} {rest : List Oper} {o : Oper} {a : Act} {w w' : World} {Q : Exit → Act → World → Prop} (hgd : o.guard = none) (v : Value) (hr : (execOp a.eval o).run Tryz.prog w = .ok (.value v) w') (h : wpList Tryz.prog ops Q rest (a.put o.dst v) w') : wpList Tryz.prog ops Q (o :: rest) a w :=
  wpList_plain hgd fun K hK => by
    unfold Oper.wp
    rw [hr]
    exact hK _ _ h

/-- The bytes f laid over F from place o on. -/
def over (F : Nat → Nat) (o n : Nat) (f : Nat → Nat) : Nat → Nat := fun j => if o ≤ j ∧ j < o + n then f (j - o) else F j

theorem over_splice (F f : Nat → Nat) (M o n : Nat) (h : o + n ≤ M) : ((cellsN .u8 M F).toList.take o ++ (bl f n ++ (cellsN .u8 M F).toList.drop (o + (bl f n).length))).toArray = cellsN .u8 M (over F o n f) := by
  have hl : (bl f n).length = n := by simp [bl]
  rw [hl]
  apply Array.ext_getElem?
  intro i
  rw [List.getElem?_toArray]
  have hs : (cellsN .u8 M F).toList.length = M := by rw [Array.length_toList, cellsN_size]
  by_cases h1 : i < o
  · rw [List.getElem?_append_left (by simp [hs]; omega), List.getElem?_take, if_pos h1, Array.getElem?_toList, cellsN_get _ _ _ _ (by omega), cellsN_get _ _ _ _ (by omega)]
    unfold over
    rw [if_neg (by omega)]
  · rw [List.getElem?_append_right (by simp [hs]; omega)]
    have ht : ((cellsN .u8 M F).toList.take o).length = o := by rw [List.length_take, hs]; omega
    rw [ht]
    by_cases h2 : i < o + n
    · rw [List.getElem?_append_left (by rw [hl]; omega), bl_get _ _ _ (by omega), cellsN_get _ _ _ _ (by omega)]
      unfold over
      rw [if_pos (by omega)]
    · rw [List.getElem?_append_right (by rw [hl]; omega), hl, List.getElem?_drop, Array.getElem?_toList, show o + n + (i - o - n) = i by omega]
      by_cases h3 : i < M
      · rw [cellsN_get _ _ _ _ h3, cellsN_get _ _ _ _ h3]
        unfold over
        rw [if_neg (by omega)]
      · rw [Array.getElem?_eq_none (by rw [cellsN_size]; omega), Array.getElem?_eq_none (by rw [cellsN_size]; omega)]

theorem grown_trans {a b c : World} {r : Option Nat} (h : a.grownBy b r) (k : b.grownBy c r) : a.grownBy c r := ⟨k.os.trans h.os, k.tape.trans h.tape, k.output.trans h.output, Nat.le_trans h.size k.size, fun i hi hne => (k.block i (Nat.lt_of_lt_of_le hi h.size) hne).trans (h.block i hi hne)⟩

theorem grown_below {a b : World} {r : Option Nat} (h : Below a.heap.size a b) : a.grownBy b r := ⟨h.os, h.tape, h.output, h.size, fun i hi _ => h.block i hi⟩

theorem grown_row (W : World) (b : Nat) (cs : Array Value) : W.grownBy (W.setRow b cs) (some b) :=
  ⟨rfl, rfl, rfl, by simp [World.setRow], fun k hk hne => by simp only [World.setRow, Array.getElem?_modify]; rw [if_neg (fun e => hne (by rw [← e]))]⟩

theorem run_slice_from {o : Oper} {a : Act} (x l : Operand) (ho : o.op = .slice 34 x (some l) none none) (b off L cap q : Nat) (hx : a.eval x = .slice (some ⟨b, off, none⟩) L cap) (hl : a.eval l = .int .i64 (q : Nat)) (h1 : q ≤ L) (w : World) :
    (execOp a.eval o).run Tryz.prog w = .ok (.value (.slice (some (if cap = q then ⟨b, off, none⟩ else ⟨b, off + q, none⟩)) (L - q) (cap - q))) w := by
  unfold execOp
  simp only [ho, hx, hl, Option.map_some, Option.map_none]
  simp [Instr.sliceAt, Instr.slice, Instr.sliceBounds, Instr.sliceBound, run_underlying Tryz.underlying34, go_sem, asIntOf, h1]
  split <;> rfl

theorem run_slice_to {o : Oper} {a : Act} (x l : Operand) (ho : o.op = .slice 34 x none (some l) none) (b off L cap q : Nat) (hx : a.eval x = .slice (some ⟨b, off, none⟩) L cap) (hl : a.eval l = .int .i64 (q : Nat)) (h1 : q ≤ cap) (w : World) :
    (execOp a.eval o).run Tryz.prog w = .ok (.value (.slice (some ⟨b, off, none⟩) q cap)) w := by
  unfold execOp
  simp only [ho, hx, hl, Option.map_some, Option.map_none]
  simp [Instr.sliceAt, Instr.slice, Instr.sliceBounds, Instr.sliceBound, run_underlying Tryz.underlying34, go_sem, asIntOf, h1]

theorem Has.grown {w w' : World} {g b t : Nat} {cs : Array Value} (h : Has w b t cs) (hg : w.grownBy w' (some g)) (hne : b ≠ g) : Has w' b t cs := (hg.block b h.lt (fun e => hne (by cases e; rfl))).trans h

theorem Bytes.range {w : World} {b o len : Nat} {m : Nat → Nat} (h : Bytes w (some ⟨b, o, none⟩) len m) (s k : Nat) (hk : s + k ≤ len) : w.rangeAt b (o + s) (cellsN .u8 k (fun j => m (s + j))).toList := by
  intro j v hj
  have hjk : j < k := by
    have := (List.getElem?_eq_some_iff.1 hj).1
    rwa [Array.length_toList, cellsN_size] at this
  rw [Array.getElem?_toList, cellsN_get _ _ _ _ hjk] at hj
  cases hj
  rcases h with h | ⟨b', o', e, _, hc⟩
  · omega
  · cases e
    rw [Nat.add_assoc]
    exact hc (s + j) (by omega)

end Go.Proofs.YtpckmllmjdafpaaGreatDoor
