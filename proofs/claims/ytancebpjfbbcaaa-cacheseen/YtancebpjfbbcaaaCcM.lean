/- cache: writes that wait, as plain mathematics. -/
import Derived.Test.YtancebpjfbbcaaaDvSays
namespace Go.Proofs.Ytancebpjfbbcaaa
open Go.ChangeShapes Go.WideShapes Go.ChangeAt Go.RowKit
set_option linter.unusedVariables false

/-- A write that waits: of which device, which sector, what. -/
structure Wr where
  d : Nat
  s : Nat
  f : Nat → Nat

def hit (d s : Nat) (x : Wr) : Bool := d == x.d && s == x.s

theorem hit_iff {d s : Nat} {x : Wr} : hit d s x = true ↔ d = x.d ∧ s = x.s := by
  unfold hit
  simp

/-- A write, and the value of its bytes. -/
abbrev Rw := Wr × Value

def fnd (l : List Rw) (d s : Nat) : Option Nat := l.findIdx? (fun r => hit d s r.1)

/-- What a group has of a sector. -/
def look (l : List Rw) (d s : Nat) : Option Rw := l.find? (fun r => hit d s r.1)

/-- A sector is written. -/
def putW (l : List Rw) (d s : Nat) (f : Nat → Nat) (v : Value) : List Rw := match fnd l d s with
  | some i => l.set i (⟨d, s, f⟩, v)
  | none => l ++ [(⟨d, s, f⟩, v)]

theorem fnd_cons (r : Rw) (l : List Rw) (d s : Nat) : fnd (r :: l) d s = if hit d s r.1 then some 0 else (fnd l d s).map (· + 1) := by
  unfold fnd
  rw [List.findIdx?_cons]

theorem look_cons (r : Rw) (l : List Rw) (d s : Nat) : look (r :: l) d s = if hit d s r.1 = true then some r else look l d s := by
  unfold look
  rw [List.find?_cons]
  cases hit d s r.1 <;> rfl

theorem fnd_at {l : List Rw} {d s i : Nat} (h : fnd l d s = some i) : ∃ r, l[i]? = some r ∧ hit d s r.1 = true ∧ look l d s = some r := by
  induction l generalizing i with
  | nil => cases h
  | cons a l ih =>
    rw [fnd_cons] at h
    by_cases ha : hit d s a.1 = true
    · rw [if_pos ha] at h
      cases h
      exact ⟨a, rfl, ha, by rw [look_cons, if_pos ha]⟩
    · rw [if_neg ha] at h
      cases hf : fnd l d s with
      | none => rw [hf] at h; cases h
      | some j =>
        rw [hf] at h
        cases h
        obtain ⟨r, h1, h2, h3⟩ := ih hf
        exact ⟨r, by simpa using h1, h2, by rw [look_cons, if_neg ha]; exact h3⟩

theorem fnd_none {l : List Rw} {d s : Nat} (h : fnd l d s = none) : (∀ r ∈ l, hit d s r.1 = false) ∧ look l d s = none := by
  unfold fnd at h
  rw [List.findIdx?_eq_none_iff] at h
  exact ⟨h, by unfold look; rw [List.find?_eq_none]; intro r hr; simp [h r hr]⟩

def Uni (l : List Rw) : Prop := l.Pairwise (fun a b => ¬ (a.1.d = b.1.d ∧ a.1.s = b.1.s))

theorem fnd_lt {l : List Rw} {d s i : Nat} (h : fnd l d s = some i) : i < l.length := by
  obtain ⟨r, h1, _⟩ := fnd_at h
  exact (List.getElem?_eq_some_iff.1 h1).1

/-- Whatever holds of all that are there and of the new one. -/
theorem putW_all {l : List Rw} {d s : Nat} {f : Nat → Nat} {v : Value} {p : Rw → Prop} (h : ∀ r ∈ l, p r) (hn : p (⟨d, s, f⟩, v)) : ∀ r ∈ putW l d s f v, p r := by
  intro r hr
  unfold putW at hr
  split at hr
  · rcases List.mem_or_eq_of_mem_set hr with h1 | rfl
    · exact h r h1
    · exact hn
  · rcases List.mem_append.1 hr with h1 | h1
    · exact h r h1
    · rw [List.mem_singleton] at h1
      exact h1 ▸ hn

theorem putW_uni {l : List Rw} {d s : Nat} {f : Nat → Nat} {v : Value} (h : Uni l) : Uni (putW l d s f v) := by
  unfold Uni putW at *
  split
  · rename_i i hi
    obtain ⟨r, h1, h2, _⟩ := fnd_at hi
    obtain ⟨e1, e2⟩ := hit_iff.1 h2
    have hk : (l.set i ((⟨d, s, f⟩ : Wr), v)).map (fun r => (r.1.d, r.1.s)) = l.map (fun r => (r.1.d, r.1.s)) := by
      rw [List.map_set]
      apply List.ext_getElem?
      intro j
      rw [List.getElem?_set]
      by_cases hij : i = j
      · subst hij
        rw [if_pos rfl, if_pos (by simpa using fnd_lt hi), List.getElem?_map, h1]
        simp [e1, e2]
      · rw [if_neg hij]
    have h' := (List.pairwise_map (f := fun r : Rw => (r.1.d, r.1.s)) (R := fun a b => ¬ (a.1 = b.1 ∧ a.2 = b.2)) (l := l)).2 h
    rw [← hk] at h'
    exact List.pairwise_map.1 h'
  · rename_i hi
    rw [List.pairwise_append]
    refine ⟨h, by simp, fun a ha b hb => ?_⟩
    rw [List.mem_singleton] at hb
    subst hb
    have := (fnd_none hi).1 a ha
    rintro ⟨e1, e2⟩
    have e1 : a.1.d = d := e1
    have e2 : a.1.s = s := e2
    unfold hit at this
    simp [e1, e2] at this

theorem look_put (l : List Rw) (d s : Nat) (f : Nat → Nat) (v : Value) (d' s' : Nat) : look (putW l d s f v) d' s' = if d' = d ∧ s' = s then some (⟨d, s, f⟩, v) else look l d' s' := by
  unfold putW
  split
  · rename_i i hi
    induction l generalizing i with
    | nil => cases hi
    | cons a l ih =>
      rw [fnd_cons] at hi
      by_cases ha : hit d s a.1 = true
      · rw [if_pos ha] at hi
        cases hi
        rw [List.set_cons_zero, look_cons, look_cons]
        obtain ⟨e1, e2⟩ := hit_iff.1 ha
        by_cases hq : d' = d ∧ s' = s
        · rw [if_pos hq, if_pos (hit_iff.2 hq)]
        · rw [if_neg hq, if_neg (fun h => hq (hit_iff.1 h)), if_neg (fun h => hq (by have := hit_iff.1 h; rw [← e1, ← e2] at this; exact this))]
      · rw [if_neg ha] at hi
        cases hf : fnd l d s with
        | none => rw [hf] at hi; cases hi
        | some j =>
          rw [hf] at hi
          cases hi
          have h3 := ih j hf
          show look (a :: l.set j _) d' s' = _
          rw [look_cons, look_cons]
          by_cases hq : hit d' s' a.1 = true
          · rw [if_pos hq, if_pos hq, if_neg]
            rintro ⟨rfl, rfl⟩
            exact ha hq
          · rw [if_neg hq, if_neg hq]
            exact h3
  · rename_i hi
    have hn := fnd_none hi
    unfold look
    rw [List.find?_append]
    by_cases hq : d' = d ∧ s' = s
    · obtain ⟨rfl, rfl⟩ := hq
      have h2 : l.find? (fun r => hit d' s' r.1) = none := hn.2
      rw [h2, if_pos ⟨rfl, rfl⟩]
      have h3 : look [(⟨d', s', f⟩, v)] d' s' = some (⟨d', s', f⟩, v) := by rw [look_cons]; exact if_pos (hit_iff (x := ⟨d', s', f⟩).2 ⟨rfl, rfl⟩)
      exact h3
    · have h3 : look [(⟨d, s, f⟩, v)] d' s' = none := by rw [look_cons, if_neg (fun h => hq (hit_iff.1 h))]; rfl
      have h4 : List.find? (fun r : Rw => hit d' s' r.1) [(⟨d, s, f⟩, v)] = none := h3
      rw [if_neg hq, h4, Option.or_none]

theorem putW_len (l : List Rw) (d s : Nat) (f : Nat → Nat) (v : Value) : (putW l d s f v).length ≤ l.length + 1 := by
  unfold putW
  split <;> simp

theorem putW_ne (l : List Rw) (d s : Nat) (f : Nat → Nat) (v : Value) : putW l d s f v ≠ [] := by
  unfold putW
  split
  · rename_i i hi
    have := fnd_lt hi
    intro e
    have e' := congrArg List.length e
    simp at e'
    rw [e'] at this
    simp at this
  · simp
end Go.Proofs.Ytancebpjfbbcaaa
