/- The same tokens, elsewhere, are the same tree but for its places; files one behind the other. -/
import Derived.Test.YtpckmllmjdafpaaDoorPsSame
namespace Go.Proofs.YtpckmllmjdafpaaDoor
set_option linter.unusedVariables false

/-- Lists of trees that are one, but for their places. -/
inductive AL : List Nd → List Nd → Prop where
  | nil : AL [] []
  | cons {x y : Nd} {l m : List Nd} : Alike x y → AL l m → AL (x :: l) (y :: m)

theorem AL.len {l m : List Nd} (h : AL l m) : l.length = m.length := by
  induction h with
  | nil => rfl
  | cons _ _ ih => simp [ih]

theorem AL.get {l m : List Nd} (h : AL l m) : ∀ i (h1 : i < l.length) (h2 : i < m.length), Alike l[i] m[i] := by
  induction h with
  | nil => intro i h1; simp at h1
  | cons hx _ ih =>
    intro i h1 h2
    cases i with
    | zero => exact hx
    | succ i => exact ih i (by simpa using h1) (by simpa using h2)

theorem Alike.of {o s : List UInt8} {n a b : Int} {l l' : List Nd} (h : AL l l') : Alike (.mk o s n a l) (.mk o s n b l') := .mk o s n a b l l' h.len h.get

theorem AL.append {l m l' m' : List Nd} (h : AL l m) (h' : AL l' m') : AL (l ++ l') (m ++ m') := by
  induction h with
  | nil => exact h'
  | cons hx _ ih => exact .cons hx ih

theorem Alike.symm {x y : Nd} (h : Alike x y) : Alike y x := by
  induction h with
  | mk o s n a b l l' hl hk ih => exact .mk o s n b a l' l hl.symm (fun i h h' => ih i h' h)

theorem AL.symm {l m : List Nd} (h : AL l m) : AL m l := by
  induction h with
  | nil => exact .nil
  | cons hx _ ih => exact .cons hx.symm ih

theorem AL.of_get {l m : List Nd} (hl : l.length = m.length) (h : ∀ i (h1 : i < l.length) (h2 : i < m.length), Alike l[i] m[i]) : AL l m := by
  induction l generalizing m with
  | nil => cases m with
    | nil => exact .nil
    | cons y m => simp at hl
  | cons x l ih =>
    cases m with
    | nil => simp at hl
    | cons y m => exact .cons (h 0 (by simp) (by simp)) (ih (by simpa using hl) (fun i h1 h2 => h (i + 1) (by simpa using h1) (by simpa using h2)))

def fsts (ts : Toks) : List Tk := ts.map Prod.fst

/-- Two parsers that tell alike of the same tokens. -/
def Lk {α β : Type} (R : α → β → Prop) (P : Par α) (Q : Par β) : Prop := ∀ en en' ts us, fsts ts = fsts us → ∀ x r, P en ts = .ok (x, r) → ∃ y s, Q en' us = .ok (y, s) ∧ R x y ∧ fsts r = fsts s

theorem Lk.ret {α β : Type} {R : α → β → Prop} {x : α} {y : β} (h : R x y) : Lk R (pret x) (pret y) := by
  intro en en' ts us e x' r hx
  cases hx
  exact ⟨y, us, rfl, h, e⟩

theorem Lk.bind {α β γ δ : Type} {R : α → β → Prop} {S : γ → δ → Prop} {P : Par α} {Q : Par β} {f : α → Par γ} {g : β → Par δ} (h : Lk R P Q) (hf : ∀ x y, R x y → Lk S (f x) (g y)) : Lk S (pbind P f) (pbind Q g) := by
  intro en en' ts us e x r hx
  unfold pbind at hx
  cases hp : P en ts with
  | error er => rw [hp] at hx; cases hx
  | ok z =>
    obtain ⟨z, t⟩ := z
    rw [hp] at hx
    obtain ⟨y, s, hq, hr, e2⟩ := h en en' ts us e z t hp
    obtain ⟨y2, s2, hq2, hr2, e3⟩ := hf z y hr en en' t s e2 x r hx
    refine ⟨y2, s2, ?_, hr2, e3⟩
    unfold pbind
    rw [hq]
    exact hq2

theorem Lk.take (p : Tk → Bool) : Lk (fun t u : Tk × Nat => t.1 = u.1) (ptake p) (ptake p) := by
  intro en en' ts us e x r hx
  cases ts with
  | nil => cases hx
  | cons t ts =>
    cases us with
    | nil => cases e
    | cons u us =>
      simp only [fsts, List.map_cons, List.cons.injEq] at e
      simp only [ptake] at hx
      split at hx
      · rename_i hp
        cases hx
        exact ⟨u, us, by simp only [ptake]; rw [← e.1, if_pos hp], e.1, e.2⟩
      · cases hx

theorem Lk.fork {α β : Type} {R : α → β → Prop} (p : Tk → Bool) {P P' : Par α} {Q Q' : Par β} (h : Lk R P Q) (h' : Lk R P' Q') : Lk R (pif p P P') (pif p Q Q') := by
  intro en en' ts us e x r hx
  have hc : pcomes p ts = pcomes p us := by
    cases ts with
    | nil => cases us with
      | nil => rfl
      | cons u us => cases e
    | cons t ts => cases us with
      | nil => cases e
      | cons u us => simp only [fsts, List.map_cons, List.cons.injEq] at e; simp only [pcomes, e.1]
  unfold pif at hx ⊢
  rw [← hc]
  split at hx
  · rename_i h0
    simp only [if_pos h0]
    exact h en en' ts us e x r hx
  · rename_i h0
    simp only [if_neg h0]
    exact h' en en' ts us e x r hx

theorem Lk.ite {α β : Type} {R : α → β → Prop} (c : Prop) [Decidable c] {P P' : Par α} {Q Q' : Par β} (h : Lk R P Q) (h' : Lk R P' Q') : Lk R (if c then P else P') (if c then Q else Q') := by
  split
  · exact h
  · exact h'

theorem part_lk {pe : Par Nd} (h : Lk Alike pe pe) (k : Kd) : Lk Alike (ppart pe k) (ppart pe k) := by
  cases k
  · exact h
  · exact (Lk.take _).bind fun t u e => Lk.ret (by simp only [e]; exact Alike.of .nil)
  · exact (Lk.take _).bind fun t u e => Lk.ret (by simp only [e]; exact Alike.of .nil)

theorem kinds_lk {pe : Par Nd} (h : Lk Alike pe pe) (ks : List Kd) : ∀ b, Lk AL (pkinds pe b ks) (pkinds pe b ks) := by
  induction ks with
  | nil => intro b; cases b <;> exact Lk.ret .nil
  | cons k ks ih =>
    intro b
    cases b
    · exact (Lk.take _).bind fun _ _ _ => (part_lk h k).bind fun _ _ hx => (ih false).bind fun _ _ hl => Lk.ret (.cons hx hl)
    · exact (part_lk h k).bind fun _ _ hx => (ih false).bind fun _ _ hl => Lk.ret (.cons hx hl)

theorem more_lk {pe : Par Nd} (h : Lk Alike pe pe) (f : Nat) : Lk AL (pmore pe f) (pmore pe f) := by
  induction f with
  | zero => exact Lk.ret .nil
  | succ f ih => exact Lk.fork _ ((Lk.take _).bind fun _ _ _ => h.bind fun _ _ hx => ih.bind fun _ _ hl => Lk.ret (.cons hx hl)) (Lk.ret .nil)

theorem parts_lk {pe : Par Nd} (h : Lk Alike pe pe) (op : List UInt8) : Lk AL (pparts pe op) (pparts pe op) :=
  (Lk.take _).bind fun _ _ _ => (kinds_lk h _ _).bind fun _ _ hl => (Lk.ite _ (more_lk h _) (Lk.ret .nil)).bind fun _ _ hm => (Lk.take _).bind fun _ _ _ => Lk.ret (hl.append hm)

theorem expr_lk (d : Nat) : Lk Alike (pexpr d) (pexpr d) := by
  induction d with
  | zero => intro en en' ts us e x r hx; cases hx
  | succ d ih =>
    refine (Lk.take _).bind fun t u e => ?_
    simp only [e]
    exact Lk.ite _ (Lk.ret (Alike.of .nil)) ((parts_lk ih _).bind fun _ _ hl => Lk.ret (Alike.of hl))

def RL (x y : Int × List Nd) : Prop := x.1 = y.1 ∧ AL x.2 y.2

theorem rest_lk (op : List UInt8) : Lk RL (prest op) (prest op) := by
  unfold prest
  exact Lk.ite _ ((Lk.take _).bind fun t u e => Lk.ret ⟨by simp only [e], .nil⟩) (Lk.ite _ ((Lk.take _).bind fun t u e => Lk.ret ⟨rfl, .cons (by simp only [e]; exact Alike.of .nil) .nil⟩)
    (Lk.ite _ ((Lk.take _).bind fun _ _ _ => (expr_lk 12).bind fun _ _ hx => Lk.ret ⟨rfl, .cons hx .nil⟩) (Lk.fork _ ((Lk.take _).bind fun _ _ _ => Lk.ret ⟨rfl, .nil⟩) (Lk.ret ⟨rfl, .nil⟩))))

theorem stmt_lk : Lk Alike pstmt pstmt := by
  refine (Lk.take _).bind fun t u e => (Lk.take _).bind fun t' u' e' => ?_
  simp only [e, e']
  exact (rest_lk _).bind fun x y hx => (Lk.take _).bind fun _ _ _ => Lk.ret (by rw [hx.1]; exact Alike.of hx.2)

theorem file_lk (f : Nat) : Lk AL (pfile f) (pfile f) := by
  induction f with
  | zero => exact Lk.ret .nil
  | succ f ih =>
    have hb : Lk AL (pbind pstmt fun n => pbind (pfile f) fun l => pret (n :: l)) (pbind pstmt fun n => pbind (pfile f) fun l => pret (n :: l)) := stmt_lk.bind fun _ _ hx => ih.bind fun _ _ hl => Lk.ret (.cons hx hl)
    intro en en' ts us e x r hx
    cases ts with
    | nil => cases us with
      | nil => cases hx; exact ⟨[], [], rfl, .nil, rfl⟩
      | cons u us => cases e
    | cons t ts => cases us with
      | nil => cases e
      | cons u us => exact hb en en' (t :: ts) (u :: us) e x r hx

theorem take_eq {p : Tk → Bool} {en : Nat} {ts r : Toks} {t : Tk × Nat} (h : ptake p en ts = .ok (t, r)) : ts = t :: r := by
  cases ts with
  | nil => cases h
  | cons u us =>
    simp only [ptake] at h
    split at h
    · cases h; rfl
    · cases h

/-- A statement stands as it did, whatever comes behind. -/
theorem stmt_ext {en : Nat} {ts r : Toks} {n : Nd} (h : pstmt en ts = .ok (n, r)) : ∃ q, ts = q ++ r ∧ ∀ en' r', pstmt en' (q ++ r') = .ok (n, r') := by
  cases hT1 : ptake (isWd stmts) en ts with
  | error e => rw [stmt_one hT1] at h; cases h
  | ok x =>
    obtain ⟨t, r1⟩ := x
    cases hT2 : ptake isNm en r1 with
    | error e => rw [stmt_two hT1 hT2] at h; cases h
    | ok y =>
      obtain ⟨u, r2⟩ := y
      rw [stmt_three hT1 hT2] at h
      cases hp : prest t.1.s en r2 with
      | error e => rw [after_one hp] at h; cases h
      | ok z =>
        obtain ⟨z, r3⟩ := z
        cases hT4 : ptake (isSg [59]) en r3 with
        | error e => rw [after_two hp hT4] at h; cases h
        | ok v =>
          obtain ⟨v, r4⟩ := v
          rw [after_ok hp hT4] at h
          cases h
          have w1 := ptake_is hT1
          have w2 := ptake_is hT2
          have w4 := ptake_is hT4
          have l1 : ts = t :: r1 := take_eq hT1
          have l2 : r1 = u :: r2 := take_eq hT2
          have l4 := take_eq hT4
          obtain ⟨q, e3, s3⟩ := (rest_stable t.1.s en r2).1 _ _ hp
          refine ⟨t :: u :: (q ++ [v]), by rw [l1, l2, e3, l4]; simp, fun en' r' => ?_⟩
          have a1 : ptake (isWd stmts) en' ((t :: u :: (q ++ [v])) ++ r') = .ok (t, u :: (q ++ v :: r')) := by simp only [List.cons_append, List.append_assoc, List.nil_append, ptake, w1, if_true]
          have a2 : ptake isNm en' (u :: (q ++ v :: r')) = .ok (u, q ++ v :: r') := by simp only [ptake, w2, if_true]
          rw [stmt_three a1 a2]
          exact after_ok (y := v) (s3 en' (v :: r') (by rw [l4]; rfl)) (by simp only [ptake, w4, if_true])

theorem file_rest (f : Nat) : ∀ (en : Nat) (ts r : Toks) (l : List Nd), pfile f en ts = .ok (l, r) → ts.length < f → r = [] := by
  induction f with
  | zero => intro en ts r l h hf; omega
  | succ f ih =>
    intro en ts r l h hf
    cases ts with
    | nil => cases h; rfl
    | cons t ts =>
      rw [file_step] at h
      cases hs : pstmt en (t :: ts) with
      | error e => rw [hs] at h; cases h
      | ok x =>
        obtain ⟨n, r1⟩ := x
        rw [hs] at h
        simp only at h
        have h1 := stmt_shorter hs
        cases hp : pfile f en r1 with
        | error e => rw [hp] at h; cases h
        | ok y =>
          obtain ⟨l', r'⟩ := y
          rw [hp] at h
          cases h
          exact ih en r1 r l' hp (by simp only [List.length_cons] at h1 hf; omega)

theorem file_fuel (f : Nat) : ∀ (g en : Nat) (ts : Toks), ts.length < f → ts.length < g → pfile f en ts = pfile g en ts := by
  induction f with
  | zero => intro g en ts h; omega
  | succ f ih =>
    intro g en ts hf hg
    cases g with
    | zero => omega
    | succ g =>
    cases ts with
    | nil => rfl
    | cons t ts =>
      rw [file_step, file_step]
      cases hs : pstmt en (t :: ts) with
      | error e => rfl
      | ok x =>
        obtain ⟨n, r1⟩ := x
        have h1 := stmt_shorter hs
        simp only [List.length_cons] at h1 hf hg
        simp only
        rw [ih g en r1 (by omega) (by omega)]

/-- Files one behind the other. -/
theorem file_join (f : Nat) : ∀ (g h en en' : Nat) (ts us : Toks) (l m : List Nd), pfile f en ts = .ok (l, []) → ts.length < f → pfile h en' us = .ok (m, []) → us.length < h → ts.length + us.length < g → pfile g en' (ts ++ us) = .ok (l ++ m, []) := by
  induction f with
  | zero => intro g h en en' ts us l m h1 hf; omega
  | succ f ih =>
    intro g h en en' ts us l m h1 hf h2 hh hg
    cases ts with
    | nil =>
      cases h1
      simp only [List.nil_append]
      exact (file_fuel h g en' us hh (by simpa using hg)).symm.trans h2
    | cons t ts =>
      rw [file_step] at h1
      cases hs : pstmt en (t :: ts) with
      | error e => rw [hs] at h1; cases h1
      | ok x =>
        obtain ⟨n, r1⟩ := x
        rw [hs] at h1
        simp only at h1
        have hsh := stmt_shorter hs
        obtain ⟨q, e1, s1⟩ := stmt_ext hs
        cases hp : pfile f en r1 with
        | error e => rw [hp] at h1; cases h1
        | ok y =>
          obtain ⟨l', r'⟩ := y
          rw [hp] at h1
          cases h1
          cases g with
          | zero => omega
          | succ g =>
          have e2 : t :: ts ++ us = q ++ (r1 ++ us) := by rw [e1, List.append_assoc]
          have hne : ∃ t' z, q ++ (r1 ++ us) = t' :: z := by rw [← e2]; exact ⟨t, ts ++ us, rfl⟩
          obtain ⟨t', z, e3⟩ := hne
          simp only [List.length_cons] at hsh hf hg
          rw [e2, e3, file_step, ← e3, s1 en' (r1 ++ us)]
          simp only
          rw [ih g h en en' r1 us l' m hp (by omega) h2 hh (by omega)]
          rfl
end Go.Proofs.YtpckmllmjdafpaaDoor
