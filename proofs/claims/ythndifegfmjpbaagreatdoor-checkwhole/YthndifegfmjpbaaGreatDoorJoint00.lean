/- Texts that the statements of this stage share, joined. -/
import Derived.Lib.Atoi
import Derived.Test.YthndifegfmjpbaaGreatDoorRows
import Derived.WalkKit
import Derived.ProofKit
import Derived.OpenShut
import Derived.Below
import Derived.WalkLawsBesides
import Derived.WalkSpells
import Derived.Laws.BitsAllLaws
import Derived.Deep.QuietTactic
import Derived.BigQuiet
import Derived.Deep.WholeRow
import Derived.Deep.MidRow
import Derived.Laws.AppendOwnNone
import Derived.OwnWalk
import Derived.DeepKeys
import Derived.Deep.AppendLies
import Derived.Laws.CopyOwn
namespace Go.Proofs.YthndifegfmjpbaaGreatDoor
set_option linter.unusedVariables false
set_option maxRecDepth 100000
set_option maxHeartbeats 40000000
section
def isBlk (c : UInt8) : Bool := c == 9 || c == 10 || c == 13 || c == 32
def isFig (c : UInt8) : Bool := decide (48 ≤ c.toNat) && decide (c.toNat ≤ 57)
def isSml (c : UInt8) : Bool := decide (97 ≤ c.toNat) && decide (c.toNat ≤ 122)
def isLet (c : UInt8) : Bool := isSml c || c == 95
def isWdy (c : UInt8) : Bool := isLet c || isFig c
def isHxy (c : UInt8) : Bool := isFig c || (decide (97 ≤ c.toNat) && decide (c.toNat ≤ 102))
def isLin (c : UInt8) : Bool := !(c == 10)
def isSgn (c : UInt8) : Bool := c == 40 || c == 41 || c == 44 || c == 61 || c == 59
def cnt (p : UInt8 → Bool) (x : List UInt8) : Nat := (x.takeWhile p).length
def skp : Bool → List UInt8 → Nat
 | _, [] => 0
 | false, c :: t => if isBlk c then skp false t + 1 else if c == 47 && t.head? == some 47 then skp true t + 1 else 0
 | true, c :: t => if c == 10 then skp false t + 1 else skp true t + 1
structure Tk where
 kind : Nat
 s : List UInt8
 n : Nat
def val (x : List UInt8) : Nat := x.foldl (fun v c => 10 * v + (c.toNat - 48)) 0
def letAt (x : List UInt8) : Bool := x.head?.any isLet
def one : List UInt8 → Except (Nat × Nat) (Tk × Nat)
 | [] => .error (101, 0)
 | c :: t =>
   if isSml c then (if 16 < cnt isWdy (c :: t) then .error (102, 0) else .ok (⟨0, (c :: t).take (cnt isWdy (c :: t)), 0⟩, cnt isWdy (c :: t)))
   else if isFig c then (if 9 < cnt isFig (c :: t) then .error (102, 0) else if letAt ((c :: t).drop (cnt isFig (c :: t))) then .error (101, cnt isFig (c :: t)) else .ok (⟨1, [], val ((c :: t).take (cnt isFig (c :: t)))⟩, cnt isFig (c :: t)))
   else if c == 36 then (if cnt isHxy t = 0 then .error (101, 1) else if 128 < cnt isHxy t then .error (102, 0) else if letAt (t.drop (cnt isHxy t)) then .error (101, cnt isHxy t + 1) else .ok (⟨2, t.take (cnt isHxy t), 0⟩, cnt isHxy t + 1))
   else if isSgn c then .ok (⟨3, [c], 0⟩, 1)
   else .error (101, 0)
abbrev Toks := List (Tk × Nat)
def scan : Nat → List UInt8 → Nat → Nat → Except (Nat × Nat) Toks
 | 0, _, _, _ => .ok []
 | f + 1, x, a, k =>
   if x.drop (skp false x) = [] then .ok [] else
   match one (x.drop (skp false x)) with
   | .error (e, o) => .error (e, a + skp false x + o)
   | .ok (t, n) => if k = 500 then .error (103, a + skp false x) else
     match scan f ((x.drop (skp false x)).drop n) (a + skp false x + n) (k + 1) with
     | .error e => .error e
     | .ok ts => .ok ((t, a + skp false x) :: ts)
def Scan (l : List UInt8) : Except (Nat × Nat) Toks := if 2000 < l.length then .error (103, 0) else scan (l.length + 1) l 0 0
theorem cnt_le (p : UInt8 → Bool) (x : List UInt8) : cnt p x ≤ x.length := (List.takeWhile_sublist p).length_le
theorem cnt_cons (p : UInt8 → Bool) (c : UInt8) (t : List UInt8) : cnt p (c :: t) = if p c then cnt p t + 1 else 0 := by
 unfold cnt
 rw [List.takeWhile_cons]
 split <;> simp
theorem skp_le (b : Bool) (x : List UInt8) : skp b x ≤ x.length := by
 induction x generalizing b with
 | nil => cases b <;> simp [skp]
 | cons c t ih =>
   have h1 := ih false
   have h2 := ih true
   cases b <;> simp only [skp, List.length_cons] <;> repeat' split
   all_goals omega
theorem one_len {x : List UInt8} {t : Tk} {n : Nat} (h : one x = .ok (t, n)) : 1 ≤ n ∧ n ≤ x.length := by
 cases x with
 | nil => simp [one] at h
 | cons c r =>
   have h1 := cnt_le isWdy (c :: r)
   have h2 := cnt_le isFig (c :: r)
   have h3 := cnt_le isHxy r
   simp only [one] at h
   split at h
   · rename_i hc
     split at h
     · cases h
     · cases h
       refine ⟨?_, h1⟩
       have hw : isWdy c = true := by simp [isWdy, isLet, hc]
       rw [cnt_cons, if_pos hw]
       omega
   · split at h
     · rename_i hc
       split at h
       · cases h
       · split at h
         · cases h
         · cases h
           refine ⟨?_, h2⟩
           rw [cnt_cons, if_pos hc]
           omega
     · split at h
       · split at h
         · cases h
         · split at h
           · cases h
           · split at h
             · cases h
             · cases h
               simp only [List.length_cons]
               omega
       · split at h
         · cases h
           simp
         · cases h
def ahead (ts : Toks) : Except (Nat × Nat) Toks → Except (Nat × Nat) Toks
 | .error e => .error e
 | .ok us => .ok (ts ++ us)
theorem ahead_nil (r : Except (Nat × Nat) Toks) : ahead [] r = r := by cases r <;> rfl
theorem ahead_ahead (ts us : Toks) (r : Except (Nat × Nat) Toks) : ahead ts (ahead us r) = ahead (ts ++ us) r := by cases r <;> simp [ahead]
theorem scan_end {f : Nat} {x : List UInt8} {a k : Nat} (h : x.drop (skp false x) = []) : scan (f + 1) x a k = .ok [] := by
 simp only [scan, if_pos h]
theorem scan_bad {f : Nat} {x : List UInt8} {a k e o : Nat} (h : x.drop (skp false x) ≠ []) (ho : one (x.drop (skp false x)) = .error (e, o)) : scan (f + 1) x a k = .error (e, a + skp false x + o) := by
 simp only [scan, if_neg h, ho]
theorem scan_many {f : Nat} {x : List UInt8} {a : Nat} {t : Tk} {n : Nat} (h : x.drop (skp false x) ≠ []) (ho : one (x.drop (skp false x)) = .ok (t, n)) : scan (f + 1) x a 500 = .error (103, a + skp false x) := by
 simp only [scan, if_neg h, ho, if_pos]
theorem scan_next {f : Nat} {x : List UInt8} {a k : Nat} {t : Tk} {n : Nat} (h : x.drop (skp false x) ≠ []) (ho : one (x.drop (skp false x)) = .ok (t, n)) (hk : k ≠ 500) :
  scan (f + 1) x a k = ahead [(t, a + skp false x)] (scan f (x.drop (skp false x + n)) (a + skp false x + n) (k + 1)) := by
 simp only [scan, if_neg h, ho, if_neg hk, List.drop_drop]
 cases scan f (x.drop (skp false x + n)) (a + skp false x + n) (k + 1) <;> rfl
end
section
structure Good (t : Tk) : Prop where
 le : t.kind ≤ 3
 word : t.kind = 0 → (∃ c r, t.s = c :: r ∧ isSml c = true) ∧ (∀ c ∈ t.s, isWdy c = true) ∧ t.s.length ≤ 16
 num : t.kind = 1 → t.s = [] ∧ t.n < 1000000000
 hex : t.kind = 2 → t.s ≠ [] ∧ (∀ c ∈ t.s, isHxy c = true) ∧ t.s.length ≤ 128
 sign : t.kind = 3 → ∃ c, t.s = [c] ∧ isSgn c = true ∧ isSml c = false ∧ isFig c = false ∧ c ≠ 36
 zero : t.kind ≠ 1 → t.n = 0
theorem take_cnt (p : UInt8 → Bool) (x : List UInt8) : x.take (cnt p x) = x.takeWhile p := by
 unfold cnt
 exact (List.prefix_iff_eq_take.1 (List.takeWhile_prefix p)).symm
theorem mem_cnt {p : UInt8 → Bool} {x : List UInt8} : ∀ c ∈ x.take (cnt p x), p c = true := by
 rw [take_cnt]
 intro c hc
 exact List.all_eq_true.1 List.all_takeWhile c hc
theorem val_snoc (x : List UInt8) (c : UInt8) : val (x ++ [c]) = 10 * val x + (c.toNat - 48) := by simp [val, List.foldl_append]
theorem val_bound (x : List UInt8) (h : ∀ c ∈ x, isFig c = true) : val x < 10 ^ x.length := by
 induction hn : x.length generalizing x with
 | zero => rw [List.length_eq_zero_iff.1 hn]; decide
 | succ n ih =>
   have hx : x ≠ [] := by intro e; subst e; simp at hn
   have e := List.dropLast_concat_getLast hx
   have h1 := ih x.dropLast (fun c hc => h c (List.dropLast_subset x hc)) (by simp [hn])
   have h2 := h (x.getLast hx) (List.getLast_mem hx)
   rw [← e, val_snoc]
   simp [isFig] at h2
   rw [Nat.pow_succ]
   omega
theorem one_good {x : List UInt8} {t : Tk} {n : Nat} (h : one x = .ok (t, n)) : Good t := by
 cases x with
 | nil => simp [one] at h
 | cons c r =>
   simp only [one] at h
   split at h
   · rename_i hc
     split at h
     · cases h
     · rename_i hl
       cases h
       have hw : isWdy c = true := by simp [isWdy, isLet, hc]
       refine ⟨(by show (0 : Nat) ≤ 3; decide), fun _ => ⟨⟨c, r.take (cnt isWdy r), ?_, hc⟩, mem_cnt, ?_⟩, fun e => (by cases e), fun e => (by cases e), fun e => (by cases e), fun _ => rfl⟩
       · show (c :: r).take (cnt isWdy (c :: r)) = _
         rw [cnt_cons, if_pos hw, List.take_succ_cons]
       · show ((c :: r).take (cnt isWdy (c :: r))).length ≤ 16
         rw [List.length_take]
         omega
   · split at h
     · rename_i hc
       split at h
       · cases h
       · rename_i hl
         split at h
         · cases h
         · cases h
           refine ⟨(by show (1 : Nat) ≤ 3; decide), fun e => (by cases e), fun _ => ⟨rfl, ?_⟩, fun e => (by cases e), fun e => (by cases e), fun e => absurd rfl e⟩
           have hb := val_bound ((c :: r).take (cnt isFig (c :: r))) mem_cnt
           rw [List.length_take, Nat.min_eq_left (cnt_le isFig (c :: r))] at hb
           have h9 : 10 ^ cnt isFig (c :: r) ≤ 10 ^ 9 := Nat.pow_le_pow_right (by decide) (by omega)
           exact Nat.lt_of_lt_of_le hb h9
     · split at h
       · split at h
         · cases h
         · rename_i h0
           split at h
           · cases h
           · rename_i hl
             split at h
             · cases h
             · cases h
               refine ⟨(by show (2 : Nat) ≤ 3; decide), fun e => (by cases e), fun e => (by cases e), fun _ => ⟨?_, mem_cnt, ?_⟩, fun e => (by cases e), fun _ => rfl⟩
               · intro e
                 have := congrArg List.length e
                 have hle := cnt_le isHxy r
                 simp at this
                 rcases this with h | h
                 · exact h0 h
                 · rw [h] at h0; exact h0 rfl
               · show (r.take (cnt isHxy r)).length ≤ 128
                 rw [List.length_take]
                 omega
       · split at h
         · rename_i h1 h2 h3 h4
           cases h
           refine ⟨(by show (3 : Nat) ≤ 3; decide), fun e => (by cases e), fun e => (by cases e), fun e => (by cases e), fun _ => ⟨c, rfl, h4, by simpa using h1, by simpa using h2, by simpa using h3⟩, fun _ => rfl⟩
         · cases h
def dgF : Nat → Nat → List UInt8
 | 0, n => [UInt8.ofNat (48 + n)]
 | f + 1, n => if n < 10 then [UInt8.ofNat (48 + n)] else dgF f (n / 10) ++ [UInt8.ofNat (48 + n % 10)]
def dg (n : Nat) : List UInt8 := dgF n n
theorem scan_goods (f : Nat) : ∀ (x : List UInt8) (a k : Nat) (ts : Toks), scan f x a k = .ok ts → k ≤ 500 → (∀ t ∈ ts, Good t.1) ∧ k + ts.length ≤ 500 := by
 induction f with
 | zero => intro x a k ts h hk; cases h; exact ⟨by simp, by simpa using hk⟩
 | succ f ih =>
   intro x a k ts h hk
   by_cases hne : x.drop (skp false x) = []
   · rw [scan_end hne] at h; cases h; exact ⟨by simp, by simpa using hk⟩
   · cases hr : one (x.drop (skp false x)) with
     | error e => obtain ⟨e, o⟩ := e; rw [scan_bad hne hr] at h; cases h
     | ok r =>
       obtain ⟨t, n⟩ := r
       by_cases h5 : k = 500
       · subst h5; rw [scan_many hne hr] at h; cases h
       · rw [scan_next hne hr h5] at h
         cases hs : scan f (x.drop (skp false x + n)) (a + skp false x + n) (k + 1) with
         | error e => rw [hs] at h; cases h
         | ok us =>
           rw [hs] at h
           cases h
           obtain ⟨g1, g2⟩ := ih _ _ _ _ hs (by omega)
           refine ⟨?_, by simp only [List.cons_append, List.nil_append, List.length_cons]; omega⟩
           intro u hu
           rcases List.mem_cons.1 hu with rfl | hu
           · exact one_good hr
           · exact g1 u hu
end
section
theorem Scan_len {l : List UInt8} {ts : Toks} (h : Scan l = .ok ts) : ts.length ≤ 500 ∧ ∀ t ∈ ts, Good t.1 := by
 unfold Scan at h
 split at h
 · cases h
 · have := scan_goods _ _ _ _ _ h (by omega)
   exact ⟨by omega, this.1⟩
def note (x : List UInt8) : List UInt8 := 47 :: 47 :: (x ++ [10])
end
section
def RW : List (List UInt8) := [[100, 101, 118, 105, 99, 101], [106, 111, 117, 114, 110, 97, 108], [107, 101, 121], [114, 111, 111, 116], [118, 111, 108, 117, 109, 101], [101, 120, 112, 111, 114, 116], [114, 101, 97, 100, 111, 110, 108, 121], [108, 105, 110, 101, 97, 114], [99, 111, 110, 99, 97, 116], [109, 105, 114, 114, 111, 114], [115, 110, 97, 112, 115, 104, 111, 116], [99, 114, 121, 112, 116], [105, 110, 116, 101, 103, 114, 105, 116, 121], [118, 101, 114, 105, 116, 121]]
def resv (x : List UInt8) : Bool := (x == [100, 101, 118, 105, 99, 101]) || (x == [106, 111, 117, 114, 110, 97, 108]) || (x == [107, 101, 121]) || (x == [114, 111, 111, 116]) || (x == [118, 111, 108, 117, 109, 101]) || (x == [101, 120, 112, 111, 114, 116]) || (x == [114, 101, 97, 100, 111, 110, 108, 121]) || (x == [108, 105, 110, 101, 97, 114]) || (x == [99, 111, 110, 99, 97, 116]) || (x == [109, 105, 114, 114, 111, 114]) || (x == [115, 110, 97, 112, 115, 104, 111, 116]) || (x == [99, 114, 121, 112, 116]) || (x == [105, 110, 116, 101, 103, 114, 105, 116, 121]) || (x == [118, 101, 114, 105, 116, 121])
end
section
inductive Nd where
 | mk (op s : List UInt8) (n : Int) (a : Int) (l : List Nd) : Nd
def Nd.op : Nd → List UInt8 | .mk o _ _ _ _ => o
def Nd.s : Nd → List UInt8 | .mk _ s _ _ _ => s
def Nd.n : Nd → Int | .mk _ _ n _ _ => n
def Nd.a : Nd → Int | .mk _ _ _ a _ => a
def Nd.l : Nd → List Nd | .mk _ _ _ _ l => l
def wFile : List UInt8 := [102, 105, 108, 101]
def wUse : List UInt8 := [117, 115, 101]
def wNum : List UInt8 := [110, 117, 109]
def wName : List UInt8 := [110, 97, 109, 101]
def wHex : List UInt8 := [104, 101, 120]
def wExpr : List UInt8 := [101, 120, 112, 114]
def wDevice : List UInt8 := [100, 101, 118, 105, 99, 101]
def wJournal : List UInt8 := [106, 111, 117, 114, 110, 97, 108]
def wKey : List UInt8 := [107, 101, 121]
def wRoot : List UInt8 := [114, 111, 111, 116]
def wVolume : List UInt8 := [118, 111, 108, 117, 109, 101]
def wExport : List UInt8 := [101, 120, 112, 111, 114, 116]
def wReadonly : List UInt8 := [114, 101, 97, 100, 111, 110, 108, 121]
def wLinear : List UInt8 := [108, 105, 110, 101, 97, 114]
def wConcat : List UInt8 := [99, 111, 110, 99, 97, 116]
def wMirror : List UInt8 := [109, 105, 114, 114, 111, 114]
def wSnapshot : List UInt8 := [115, 110, 97, 112, 115, 104, 111, 116]
def wCrypt : List UInt8 := [99, 114, 121, 112, 116]
def wIntegrity : List UInt8 := [105, 110, 116, 101, 103, 114, 105, 116, 121]
def wVerity : List UInt8 := [118, 101, 114, 105, 116, 121]
inductive Kd where
 | ex | nu | na
def Kd.w : Kd → List UInt8
 | .ex => wExpr
 | .nu => wNum
 | .na => wName
def inside (op : List UInt8) : List Kd × Bool :=
 if op = wLinear then ([.ex, .nu, .nu], false)
 else if op = wConcat ∨ op = wMirror then ([.ex], true)
 else if op = wSnapshot then ([.ex, .ex, .nu], false)
 else if op = wCrypt ∨ op = wIntegrity ∨ op = wVerity then ([.ex, .na], false)
 else ([], false)
def isNm (t : Tk) : Bool := t.kind == 0 && !resv t.s
def isSg (x : List UInt8) (t : Tk) : Bool := t.kind == 3 && t.s == x
def isKi (k : Nat) (t : Tk) : Bool := t.kind == k
def isWd (l : List (List UInt8)) (t : Tk) : Bool := t.kind == 0 && l.any (fun y => t.s == y)
def begins (t : Tk) : Bool := isNm t || (t.kind == 0 && decide (0 < (inside t.s).1.length))
def place (en : Nat) : Toks → Nat
 | [] => en
 | t :: _ => t.2
abbrev PR (α : Type) := Except (Nat × Nat) (α × Toks)
abbrev Par (α : Type) := Nat → Toks → PR α
def pret {α : Type} (x : α) : Par α := fun _ ts => .ok (x, ts)
def pbind {α β : Type} (p : Par α) (f : α → Par β) : Par β := fun en ts => match p en ts with
 | .error e => .error e
 | .ok (x, r) => f x en r
def ptake (p : Tk → Bool) : Par (Tk × Nat) := fun en ts => match ts with
 | [] => .error (111, en)
 | t :: r => if p t.1 then .ok (t, r) else .error (111, t.2)
def pcomes (p : Tk → Bool) (ts : Toks) : Bool := match ts with
 | [] => false
 | t :: _ => p t.1
def pif {α : Type} (p : Tk → Bool) (x y : Par α) : Par α := fun en ts => if pcomes p ts then x en ts else y en ts
def ppart (pe : Par Nd) : Kd → Par Nd
 | .nu => pbind (ptake (isKi 1)) fun t => pret (.mk wNum [] t.1.n t.2 [])
 | .na => pbind (ptake isNm) fun t => pret (.mk wName t.1.s 0 t.2 [])
 | .ex => pe
def cmm : Tk → Bool := isSg [44]
def pkinds (pe : Par Nd) : Bool → List Kd → Par (List Nd)
 | _, [] => pret []
 | true, k :: ks => pbind (ppart pe k) fun n => pbind (pkinds pe false ks) fun l => pret (n :: l)
 | false, k :: ks => pbind (ptake cmm) fun _ => pbind (ppart pe k) fun n => pbind (pkinds pe false ks) fun l => pret (n :: l)
def pmore (pe : Par Nd) : Nat → Par (List Nd)
 | 0 => pret []
 | f + 1 => pif cmm (pbind (ptake cmm) fun _ => pbind pe fun n => pbind (pmore pe f) fun l => pret (n :: l)) (pret [])
def pparts (pe : Par Nd) (op : List UInt8) : Par (List Nd) :=
 pbind (ptake (isSg [40])) fun _ => pbind (pkinds pe true (inside op).1) fun l =>
  pbind (if (inside op).2 then pmore pe 501 else pret []) fun m => pbind (ptake (isSg [41])) fun _ => pret (l ++ m)
def pexpr : Nat → Par Nd
 | 0 => fun en ts => .error (112, place en ts)
 | d + 1 => pbind (ptake begins) fun t => if isNm t.1 then pret (.mk wUse t.1.s 0 t.2 []) else pbind (pparts (pexpr d) t.1.s) fun l => pret (.mk t.1.s [] 0 t.2 l)
def stmts : List (List UInt8) := [wDevice, wJournal, wKey, wRoot, wVolume, wExport]
def prest (op : List UInt8) : Par (Int × List Nd) :=
 if op = wDevice ∨ op = wJournal then pbind (ptake (isKi 1)) fun t => pret (t.1.n, [])
 else if op = wKey ∨ op = wRoot then pbind (ptake (isKi 2)) fun t => pret (0, [.mk wHex t.1.s 0 t.2 []])
 else if op = wVolume then pbind (ptake (isSg [61])) fun _ => pbind (pexpr 12) fun n => pret (0, [n])
 else pif (isWd [wReadonly]) (pbind (ptake (isWd [wReadonly])) fun _ => pret (1, [])) (pret (0, []))
def pstmt : Par Nd := pbind (ptake (isWd stmts)) fun t => pbind (ptake isNm) fun u => pbind (prest t.1.s) fun r => pbind (ptake (isSg [59])) fun _ => pret (.mk t.1.s u.1.s r.1 t.2 r.2)
def pfile : Nat → Par (List Nd)
 | 0 => pret []
 | f + 1 => fun en ts => match ts with
   | [] => .ok ([], [])
   | t :: r => (pbind pstmt fun n => pbind (pfile f) fun l => pret (n :: l)) en (t :: r)
def Parse (x : List UInt8) : Except (Nat × Nat) Nd := match Scan x with
 | .error e => .error e
 | .ok ts => match pfile 501 x.length ts with
   | .error e => .error e
   | .ok (l, _) => .ok (.mk wFile [] 0 0 l)
def Stable {α : Type} (P : Par α) : Prop := ∀ en ts,
 (∀ x r, P en ts = .ok (x, r) → ∃ q, ts = q ++ r ∧ ∀ en' r', r'.head? = r.head? → P en' (q ++ r') = .ok (x, r')) ∧
 (∀ c k, P en ts = .error (c, k) → ∃ q r, ts = q ++ r ∧ k = place en r ∧ ∀ en' r', r'.head? = r.head? → P en' (q ++ r') = .error (c, place en' r'))
theorem head_app {q r r' : Toks} (h : r'.head? = r.head?) : (q ++ r').head? = (q ++ r).head? := by cases q <;> simp [h]
theorem Stable.ret {α : Type} (x : α) : Stable (pret x) := by
 intro en ts
 refine ⟨fun y r h => ?_, fun c k h => (by cases h)⟩
 cases h
 exact ⟨[], rfl, fun en' r' _ => rfl⟩
theorem Stable.bind {α β : Type} {P : Par α} {f : α → Par β} (hP : Stable P) (hf : ∀ x, Stable (f x)) : Stable (pbind P f) := by
 intro en ts
 constructor
 · intro y r h
   unfold pbind at h
   cases hp : P en ts with
   | error e => rw [hp] at h; cases h
   | ok xr =>
     obtain ⟨x, s⟩ := xr
     rw [hp] at h
     obtain ⟨q1, e1, h1⟩ := (hP en ts).1 x s hp
     obtain ⟨q2, e2, h2⟩ := (hf x en s).1 y r h
     refine ⟨q1 ++ q2, by rw [e1, e2, List.append_assoc], fun en' r' hr => ?_⟩
     unfold pbind
     rw [List.append_assoc, h1 en' (q2 ++ r') (by rw [e2]; exact head_app hr)]
     exact h2 en' r' hr
 · intro c k h
   unfold pbind at h
   cases hp : P en ts with
   | error e =>
     rw [hp] at h
     cases h
     obtain ⟨q, r, e1, e2, h1⟩ := (hP en ts).2 c k hp
     refine ⟨q, r, e1, e2, fun en' r' hr => ?_⟩
     unfold pbind
     rw [h1 en' r' hr]
   | ok xr =>
     obtain ⟨x, s⟩ := xr
     rw [hp] at h
     obtain ⟨q1, e1, h1⟩ := (hP en ts).1 x s hp
     obtain ⟨q2, r, e2, e3, h2⟩ := (hf x en s).2 c k h
     refine ⟨q1 ++ q2, r, by rw [e1, e2, List.append_assoc], e3, fun en' r' hr => ?_⟩
     unfold pbind
     rw [List.append_assoc, h1 en' (q2 ++ r') (by rw [e2]; exact head_app hr)]
     exact h2 en' r' hr
theorem Stable.take (p : Tk → Bool) : Stable (ptake p) := by
 intro en ts
 cases ts with
 | nil =>
   refine ⟨fun x r h => (by cases h), fun c k h => ?_⟩
   cases h
   refine ⟨[], [], rfl, rfl, fun en' r' hr => ?_⟩
   cases r' with
   | nil => rfl
   | cons a b => cases hr
 | cons t ts =>
   constructor
   · intro x r h
     simp only [ptake] at h
     split at h
     · rename_i hp
       cases h
       refine ⟨[t], rfl, fun en' r' hr => ?_⟩
       show (if p t.1 then _ else _) = _
       rw [if_pos hp]
       rfl
     · cases h
   · intro c k h
     simp only [ptake] at h
     split at h
     · cases h
     · rename_i hp
       cases h
       refine ⟨[], t :: ts, rfl, rfl, fun en' r' hr => ?_⟩
       cases r' with
       | nil => cases hr
       | cons a b =>
         simp only [List.head?_cons, Option.some.injEq] at hr
         subst hr
         show (if p a.1 then _ else _) = _
         rw [if_neg hp]
         rfl
theorem comes_head (p : Tk → Bool) {r r' : Toks} (h : r'.head? = r.head?) : pcomes p r' = pcomes p r := by
 cases r <;> cases r' <;> simp_all [pcomes]
theorem Stable.fork {α : Type} (p : Tk → Bool) {P Q : Par α} (hP : Stable P) (hQ : Stable Q) : Stable (pif p P Q) := by
 intro en ts
 have key : ∀ (q r r' : Toks), r'.head? = r.head? → pcomes p (q ++ r') = pcomes p (q ++ r) := fun q r r' h => comes_head p (head_app h)
 unfold pif
 by_cases h0 : pcomes p ts = true
 · rw [if_pos h0]
   constructor
   · intro x r h
     obtain ⟨q, e, hq⟩ := (hP en ts).1 x r h
     refine ⟨q, e, fun en' r' hr => ?_⟩
     rw [if_pos (by rw [key q r r' hr, ← e]; exact h0)]
     exact hq en' r' hr
   · intro c k h
     obtain ⟨q, r, e, ek, hq⟩ := (hP en ts).2 c k h
     refine ⟨q, r, e, ek, fun en' r' hr => ?_⟩
     rw [if_pos (by rw [key q r r' hr, ← e]; exact h0)]
     exact hq en' r' hr
 · rw [if_neg h0]
   constructor
   · intro x r h
     obtain ⟨q, e, hq⟩ := (hQ en ts).1 x r h
     refine ⟨q, e, fun en' r' hr => ?_⟩
     rw [if_neg (by rw [key q r r' hr, ← e]; exact h0)]
     exact hq en' r' hr
   · intro c k h
     obtain ⟨q, r, e, ek, hq⟩ := (hQ en ts).2 c k h
     refine ⟨q, r, e, ek, fun en' r' hr => ?_⟩
     rw [if_neg (by rw [key q r r' hr, ← e]; exact h0)]
     exact hq en' r' hr
theorem Stable.ite {α : Type} {P Q : Par α} (c : Prop) [Decidable c] (hP : Stable P) (hQ : Stable Q) : Stable (if c then P else Q) := by
 split
 · exact hP
 · exact hQ
theorem part_stable {pe : Par Nd} (h : Stable pe) (k : Kd) : Stable (ppart pe k) := by
 cases k
 · exact h
 · exact (Stable.take _).bind fun _ => Stable.ret _
 · exact (Stable.take _).bind fun _ => Stable.ret _
theorem kinds_stable {pe : Par Nd} (h : Stable pe) (ks : List Kd) : ∀ b, Stable (pkinds pe b ks) := by
 induction ks with
 | nil => intro b; cases b <;> exact Stable.ret _
 | cons k ks ih =>
   intro b
   cases b
   · exact (Stable.take _).bind fun _ => (part_stable h k).bind fun _ => (ih false).bind fun _ => Stable.ret _
   · exact (part_stable h k).bind fun _ => (ih false).bind fun _ => Stable.ret _
theorem more_stable {pe : Par Nd} (h : Stable pe) (f : Nat) : Stable (pmore pe f) := by
 induction f with
 | zero => exact Stable.ret _
 | succ f ih => exact Stable.fork _ ((Stable.take _).bind fun _ => h.bind fun _ => ih.bind fun _ => Stable.ret _) (Stable.ret _)
theorem parts_stable {pe : Par Nd} (h : Stable pe) (op : List UInt8) : Stable (pparts pe op) :=
 (Stable.take _).bind fun _ => (kinds_stable h _ _).bind fun _ => (Stable.ite _ (more_stable h _) (Stable.ret _)).bind fun _ => (Stable.take _).bind fun _ => Stable.ret _
theorem expr_stable (d : Nat) : Stable (pexpr d) := by
 induction d with
 | zero =>
   intro en ts
   refine ⟨fun x r h => (by cases h), fun c k h => ?_⟩
   cases h
   exact ⟨[], ts, rfl, rfl, fun en' r' hr => rfl⟩
 | succ d ih => exact (Stable.take _).bind fun _ => Stable.ite _ (Stable.ret _) ((parts_stable ih _).bind fun _ => Stable.ret _)
theorem rest_stable (op : List UInt8) : Stable (prest op) := by
 unfold prest
 exact Stable.ite _ ((Stable.take _).bind fun _ => Stable.ret _) (Stable.ite _ ((Stable.take _).bind fun _ => Stable.ret _)
  (Stable.ite _ ((Stable.take _).bind fun _ => (expr_stable 12).bind fun _ => Stable.ret _) (Stable.fork _ ((Stable.take _).bind fun _ => Stable.ret _) (Stable.ret _))))
end
section
open Go.ChangeShapes Go.WideShapes Go.ChangeAt Go.RowKit
def cellsN (k : IntKind) (n : Nat) (f : Nat → Nat) : Array Value := ((List.range n).map fun j => Value.int k (f j : Nat)).toArray
theorem cellsN_size (k : IntKind) (n : Nat) (f : Nat → Nat) : (cellsN k n f).size = n := by simp [cellsN]
theorem cellsN_get (k : IntKind) (n : Nat) (f : Nat → Nat) (j : Nat) (h : j < n) : (cellsN k n f)[j]? = some (.int k (f j : Nat)) := by
 simp [cellsN, h]
def upd (f : Nat → Nat) (j v : Nat) : Nat → Nat := fun i => if i = j then v else f i
theorem cellsN_set (k : IntKind) (n : Nat) (f : Nat → Nat) (j v : Nat) : (cellsN k n f).setIfInBounds j (.int k (v : Nat)) = cellsN k n (upd f j v) := by
 apply Array.ext_getElem?
 intro i
 rw [Array.getElem?_setIfInBounds]
 simp only [cellsN_size]
 by_cases hi : i < n
 · rw [cellsN_get _ _ _ _ hi, cellsN_get _ _ _ _ hi]
   by_cases e : j = i
   · subst e; simp [upd, hi]
   · have : ¬ i = j := fun h => e h.symm
     simp [upd, e, this]
 · have e1 : (cellsN k n f)[i]? = none := by simp [cellsN]; omega
   have e2 : (cellsN k n (upd f j v))[i]? = none := by simp [cellsN]; omega
   rw [e1, e2]
   split
   · subst_vars; simp [hi]
   · rfl
theorem cellsN_congr (k : IntKind) (n : Nat) (f g : Nat → Nat) (h : ∀ j, j < n → f j = g j) : cellsN k n f = cellsN k n g := by
 unfold cellsN
 congr 1
 apply List.map_congr_left
 intro j hj
 rw [h j (by simpa using hj)]
def Has (w : World) (g t : Nat) (cs : Array Value) : Prop := w.heap[g]? = some (.cells cs t (0, 0))
theorem Has.lt {w : World} {g t : Nat} {cs : Array Value} (h : Has w g t cs) : g < w.heap.size := (Array.getElem?_eq_some_iff.1 h).1
theorem Has.cell {w : World} {g t : Nat} {cs : Array Value} (h : Has w g t cs) (j : Nat) : w.cell? ⟨g, j, none⟩ = cs[j]? := cell_of_row w g j cs t (0, 0) h
theorem Has.num {w : World} {g t n : Nat} {k : IntKind} {f : Nat → Nat} (h : Has w g t (cellsN k n f)) (j : Nat) (hj : j < n) : w.cell? ⟨g, j, none⟩ = some (.int k (f j : Nat)) := by
 rw [h.cell, cellsN_get _ _ _ _ hj]
theorem Has.free {w : World} {g t : Nat} {cs : Array Value} (h : Has w g t cs) (j : Nat) : w.frozen? ⟨g, j, none⟩ = false := by
 have h' : w.heap[g]? = some (.cells cs t (0, 0)) := h
 simp [World.frozen?, h']
theorem Has.below {w w' : World} {B g t : Nat} {cs : Array Value} (h : Has w g t cs) (hb : Below B w w') (hg : g < B) : Has w' g t cs := (hb.block g hg).trans h
theorem Has.drewN {w : World} {g t : Nat} {cs : Array Value} (h : Has w g t cs) (m : Nat) : Has (w.drewN m) g t cs := h
theorem Has.alloc {w : World} {g t : Nat} {cs : Array Value} (h : Has w g t cs) (o : Obj) : Has (w.alloc o) g t cs := (Below.heap_alloc w o g h.lt).trans h
theorem Has.new (w : World) (t : Nat) (cs : Array Value) : Has (w.alloc (.cells cs t)) w.heap.size t cs := heap_alloc_new w _
theorem Has.new_at {w : World} {g t : Nat} {cs : Array Value} (h : g = w.heap.size) : Has (w.alloc (.cells cs t)) g t cs := h ▸ heap_alloc_new w _
theorem Has.other {w : World} {g t : Nat} {cs : Array Value} (h : Has w g t cs) {p : Addr} (hp : g ≠ p.block) (u : Value) : Has (w.setCell p u) g t cs := (Below.heap_setCell w p u g hp).trans h
theorem Has.set {w : World} {g t n : Nat} {k : IntKind} {f : Nat → Nat} (h : Has w g t (cellsN k n f)) (j v : Nat) : Has (w.setCell ⟨g, j, none⟩ (.int k (v : Nat))) g t (cellsN k n (upd f j v)) := by
 have h' : w.heap[g]? = some (.cells (cellsN k n f) t (0, 0)) := h
 show (w.setCell ⟨g, j, none⟩ _).heap[g]? = _
 simp only [World.setCell, Array.getElem?_modify, h', if_pos, Option.map_some]
 rw [cellsN_set]
 rfl
theorem Has.setRow {w : World} {g t : Nat} {cs : Array Value} (h : Has w g t cs) (cs' : Array Value) : Has (w.setRow g cs') g t cs' := setRow_heap w g cs cs' t (0, 0) h
theorem below_setRow {B : Nat} {a w : World} (h : Below B a w) {g : Nat} (hg : B ≤ g) (cs : Array Value) : Below B a (w.setRow g cs) :=
 h.trans ⟨rfl, rfl, rfl, by simp [World.setRow], fun k hk => by simp only [World.setRow, Array.getElem?_modify]; rw [if_neg (by omega)]⟩
theorem Has.setRow_other {w : World} {g g' t : Nat} {cs : Array Value} (h : Has w g t cs) (hne : g ≠ g') (cs' : Array Value) : Has (w.setRow g' cs') g t cs := by
 show (w.setRow g' cs').heap[g]? = _
 simp only [World.setRow, Array.getElem?_modify]
 rw [if_neg (fun e => hne e.symm)]
 exact h
theorem Has.load {w : World} {g t n e : Nat} {cs : Array Value} (h : Has w g t cs) (ty : Nat) (hu : Tryz.prog.underlying ty = some (.array n e)) (hi : (Tryz.prog.info? ty).map (·.size) = some cs.size) :
  (Instr.loadAt ty (.pointer (some ⟨g, 0, none⟩))).run Tryz.prog w = .ok (.agg cs) w := by
 simp only [Instr.loadAt, Instr.sureAddr, Sem.run_bind, Sem.run_pure, Result.andThen]
 exact run_loadVar_row _ _ t ty cs (0, 0) _ h hu rfl hi
theorem Has.store {w : World} {g t : Nat} {cs cs' : Array Value} (h : Has w g t cs) (ty : Nat) (hi : (Tryz.prog.info? ty).map (·.size) = some cs'.size) (ho : cs.size = cs'.size) (h1 : cs'.all (·.oneCell') = true) :
  (Instr.storeAt ty (.pointer (some ⟨g, 0, none⟩)) (.agg cs')).run Tryz.prog w = .ok () (w.setRow g cs') := by
 simp only [Instr.storeAt, Instr.sureAddr, Sem.run_bind, Sem.run_pure, Result.andThen]
 exact run_storeVar_row w g t ty cs cs' h hi ho h1
def part (f : Nat → Nat) (k : Nat) : Nat → Nat := fun j => if j < k then f j else 0
theorem Tryz.info5 : (Tryz.prog.info? 5).map (fun i => (i.zero, i.size, i.bytes)) = some (some (.int .u8 0), 1, 1) := by kernel_rfl
def Bytes (w : World) (a : Option Addr) (len : Nat) (m : Nat → Nat) : Prop := len = 0 ∨ ∃ b off, a = some ⟨b, off, none⟩ ∧ b < w.heap.size ∧ ∀ j, j < len → w.cell? ⟨b, off + j, none⟩ = some (.int .u8 (m j : Nat))
theorem Bytes.below {w w' : World} {a : Option Addr} {len B : Nat} {m : Nat → Nat} (h : Bytes w a len m) (hb : Below B w w') (hB : w.heap.size ≤ B) : Bytes w' a len m := by
 rcases h with h | ⟨b, off, h1, h2, h3⟩
 · exact .inl h
 · exact .inr ⟨b, off, h1, Nat.lt_of_lt_of_le h2 hb.size, fun j hj => (hb.cell (show b < B by omega)).trans (h3 j hj)⟩
def bl (f : Nat → Nat) (n : Nat) : List Value := (List.range n).map fun j => Value.int .u8 (f j : Nat)
def cat (f : Nat → Nat) (n : Nat) (g : Nat → Nat) : Nat → Nat := fun j => if j < n then f j else g (j - n)
theorem grownBy_refl (w : World) (r : Option Nat) : w.grownBy w r := ⟨rfl, rfl, rfl, Nat.le_refl _, fun _ _ _ => rfl⟩
theorem Has.bytes {w : World} {g t n : Nat} {f : Nat → Nat} (h : Has w g t (cellsN .u8 n f)) : Bytes w (some ⟨g, 0, none⟩) n f :=
 .inr ⟨g, 0, rfl, h.lt, fun j hj => by rw [Nat.zero_add]; exact h.num j hj⟩
theorem Bytes.setRow {w : World} {a : Option Addr} {len : Nat} {m : Nat → Nat} (h : Bytes w a len m) (g : Nat) (cs : Array Value) (hne : ∀ b o, a = some ⟨b, o, none⟩ → b ≠ g) : Bytes (w.setRow g cs) a len m := by
 rcases h with h | ⟨b, o, rfl, hlt, hc⟩
 · exact .inl h
 · have hb := setRow_other w g b cs (hne b o rfl)
   have hlt' : b < (w.setRow g cs).heap.size := (Array.getElem?_eq_some_iff.1 (hb.trans (Array.getElem?_eq_getElem hlt))).1
   exact .inr ⟨b, o, rfl, hlt', fun j hj => by rw [← hc j hj]; simp only [World.cell?, hb]⟩
theorem Bytes.part {w : World} {b o len : Nat} {m : Nat → Nat} (h : Bytes w (some ⟨b, o, none⟩) len m) (s k : Nat) (hk : s + k ≤ len) : Bytes w (some ⟨b, o + s, none⟩) k (fun j => m (s + j)) := by
 rcases h with h | ⟨b', o', e, hlt, hc⟩
 · exact .inl (by omega)
 · cases e
   exact .inr ⟨b, o + s, rfl, hlt, fun j hj => by rw [Nat.add_assoc]; exact hc _ (by omega)⟩
theorem wpList_is {ops : Array Oper} {rest : List Oper} {o : Oper} {a : Act} {w : World} {Q : Exit → Act → World → Prop} (d : Option Tmp) (v : Value) (hd : o.dst = d) (hw : Region.wanted o (yielded ops a.tmps) = true)
  (hrun : (execOp a.eval o).run Tryz.prog w = .ok (.value v) w) (h : wpList Tryz.prog ops Q rest (a.put d v) w) : wpList Tryz.prog ops Q (o :: rest) a w :=
 wpList_step fun K hK => by
  subst hd
  rw [if_pos hw]
  unfold Oper.wp
  rw [hrun]
  exact hK _ _ h
theorem wpList_is_w {ops : Array Oper} {rest : List Oper} {o : Oper} {a : Act} {w : World} {Q : Exit → Act → World → Prop} (d : Option Tmp) (v : Value) (w' : World) (hd : o.dst = d) (hw : Region.wanted o (yielded ops a.tmps) = true)
  (hrun : (execOp a.eval o).run Tryz.prog w = .ok (.value v) w') (h : wpList Tryz.prog ops Q rest (a.put d v) w') : wpList Tryz.prog ops Q (o :: rest) a w :=
 wpList_step fun K hK => by
  subst hd
  rw [if_pos hw]
  unfold Oper.wp
  rw [hrun]
  exact hK _ _ h
theorem bl_zeros (n : Nat) : (madeCells (Value.int .u8 0).cells (n * 1)).toList = bl (fun _ => 0) n := by
 unfold bl madeCells
 apply List.ext_getElem?
 intro i
 by_cases h : i < n
 · simp [h, Value.cells, Nat.mod_one]
 · simp [h, Value.cells]
theorem own_has6 {w : World} {base n g : Nat} {f : Nat → Nat} (h : w.ownsRow base 5 1 (.slice (some ⟨g, 0, none⟩) n n) n (bl f n)) : Has w g 5 (cellsN .u8 n f) := by
 rcases h.2 with ⟨e, _⟩ | ⟨g', cap, cur, e, hb, hg, hn, hm, hs, ht⟩
 · cases e
 · injection e with e1 _ e3
   injection e1 with e1
   injection e1 with e1
   subst e1 e3
   have hc : cur = cellsN .u8 n f := by
    apply Array.toList_inj.1
    rw [← List.take_of_length_le (l := cur.toList) (i := n * 1) (by rw [Array.length_toList, hs]; exact Nat.le_refl _), ht]
    unfold bl cellsN
    rfl
   show w.heap[g]? = _
   rw [hg, hc]
theorem make_has (n : Nat) (hn : n ≤ 10000000) (w : World) : ∃ w', Has w' w.heap.size 5 (cellsN .u8 n fun _ => 0) ∧ Below w.heap.size w w' ∧
  ∀ (o : Oper) (a : Act) (l c : Operand), o.op = .makeSlice 45 l c → a.eval l = .int .i64 (n : Nat) → a.eval c = .int .i64 (n : Nat) → (execOp a.eval o).run Tryz.prog w = .ok (.value (.slice (some ⟨w.heap.size, 0, none⟩) n n)) w' := by
 obtain ⟨i0, hi, hz0, hz1, hz2⟩ := info_parts Tryz.info5
 obtain ⟨w', hrun, r1, r2⟩ := run_make_full (P := Tryz.prog) w w.heap.size 45 5 i0 (.int .u8 0) 1 Tryz.underlying45 hi hz0 hz1 .i64 .i64 n (by rw [hz2]; omega) (by unfold maxLen; omega) (Nat.le_refl _)
 rw [bl_zeros] at r1
 refine ⟨w', own_has6 r1, (Below.refl _ _).grown r2 (Nat.le_refl _) (by intro k h; cases h), ?_⟩
 intro o a l c ho hl hc
 unfold execOp
 simp [ho, hl, hc, hrun, Result.andThen]
def over (F : Nat → Nat) (o n : Nat) (f : Nat → Nat) : Nat → Nat := fun j => if o ≤ j ∧ j < o + n then f (j - o) else F j
theorem Has.grown {w w' : World} {g b t : Nat} {cs : Array Value} (h : Has w b t cs) (hg : w.grownBy w' (some g)) (hne : b ≠ g) : Has w' b t cs := (hg.block b h.lt (fun e => hne (by cases e; rfl))).trans h
theorem Bytes.range {w : World} {b o len : Nat} {m : Nat → Nat} (h : Bytes w (some ⟨b, o, none⟩) len m) (s k : Nat) (hk : s + k ≤ len) : w.rangeAt b (o + s) (cellsN .u8 k (fun j => m (s + j))).toList := by
 intro j v hj
 have hjk : j < k := by
  have := (List.getElem?_eq_some_iff.1 hj).1
  rwa [Array.length_toList, cellsN_size] at this
 rw [Array.getElem?_toList, cellsN_get _ _ _ _ hjk] at hj
 cases hj
 rcases h with h | ⟨b', o', e, _, hc⟩
 · omega
 · cases e
   rw [Nat.add_assoc]
   exact hc (s + j) (by omega)
theorem sb1 {α : Type} (l : List α) (i : Nat) (v : α) : l.toArray.setIfInBounds i v = (l.set i v).toArray := by simp
theorem sz1 {α : Type} {a b : α} {l : List α} : (a :: l).set 0 b = b :: l := rfl
theorem ss1 {α : Type} {a b : α} {l : List α} {n : Nat} : (a :: l).set (n + 1) b = a :: l.set n b := rfl
theorem ga1 {α : Type} {l : List α} {i : Nat} : l.toArray[i]? = l[i]? := by simp
theorem gz1 {α : Type} {a : α} {l : List α} : (a :: l)[0]? = some a := rfl
theorem gs1 {α : Type} {a : α} {l : List α} {i : Nat} : (a :: l)[i + 1]? = l[i]? := rfl
end
end Go.Proofs.YthndifegfmjpbaaGreatDoor
