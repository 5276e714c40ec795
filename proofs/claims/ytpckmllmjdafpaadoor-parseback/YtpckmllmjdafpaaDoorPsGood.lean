/- What a parser tells of tokens that may be. -/
import Derived.Test.YtpckmllmjdafpaaDoorPsJoinM
namespace Go.Proofs.YtpckmllmjdafpaaDoor
set_option linter.unusedVariables false

def Goods (ts : Toks) : Prop := ∀ t ∈ ts, Good t.1

/-- What a parser tells of tokens that may be meets R. -/
def Gp {α : Type} (R : α → Prop) (P : Par α) : Prop := ∀ en ts, Goods ts → ∀ x r, P en ts = .ok (x, r) → R x ∧ Goods r

theorem Gp.ret {α : Type} {R : α → Prop} {x : α} (h : R x) : Gp R (pret x) := fun en ts hg y r hy => by cases hy; exact ⟨h, hg⟩

theorem Gp.bind {α β : Type} {R : α → Prop} {S : β → Prop} {P : Par α} {f : α → Par β} (h : Gp R P) (hf : ∀ x, R x → Gp S (f x)) : Gp S (pbind P f) := by
  intro en ts hg y r hy
  unfold pbind at hy
  cases hp : P en ts with
  | error e => rw [hp] at hy; cases hy
  | ok z =>
    obtain ⟨z, s⟩ := z
    rw [hp] at hy
    obtain ⟨h1, h2⟩ := h en ts hg z s hp
    exact hf z h1 en s h2 y r hy

theorem Gp.take (p : Tk → Bool) : Gp (fun t : Tk × Nat => Good t.1 ∧ p t.1 = true) (ptake p) := by
  intro en ts hg y r hy
  have h1 := take_eq hy
  have h2 := ptake_is hy
  subst h1
  exact ⟨⟨hg _ (by simp), h2⟩, fun t ht => hg t (by simp [ht])⟩

theorem Gp.fork {α : Type} {R : α → Prop} (p : Tk → Bool) {P Q : Par α} (h : Gp R P) (h' : Gp R Q) : Gp R (pif p P Q) := by
  intro en ts hg y r hy
  unfold pif at hy
  split at hy
  · exact h en ts hg y r hy
  · exact h' en ts hg y r hy

theorem Gp.ite {α : Type} {R : α → Prop} (c : Prop) [Decidable c] {P Q : Par α} (h : Gp R P) (h' : Gp R Q) : Gp R (if c then P else Q) := by
  split
  · exact h
  · exact h'

theorem Good.short {t : Tk} (h : Good t) : t.s.length ≤ 1000 := by
  have hle := h.le
  by_cases h0 : t.kind = 0
  · have := (h.word h0).2.2; omega
  · by_cases h1 : t.kind = 1
    · rw [(h.num h1).1]; simp
    · by_cases h2 : t.kind = 2
      · have := (h.hex h2).2.2; omega
      · obtain ⟨c, e, _⟩ := h.sign (by omega)
        rw [e]; simp

def SmlL (l : List Nd) : Prop := ∀ x ∈ l, Sml x

theorem SmlL.nil : SmlL [] := fun x h => by cases h
theorem SmlL.cons {x : Nd} {l : List Nd} (h : Sml x) (hl : SmlL l) : SmlL (x :: l) := fun y hy => by
  rcases List.mem_cons.1 hy with rfl | hy
  · exact h
  · exact hl y hy
theorem SmlL.append {l m : List Nd} (h : SmlL l) (hm : SmlL m) : SmlL (l ++ m) := fun y hy => (List.mem_append.1 hy).elim (h y) (hm y)

theorem part_sml {pe : Par Nd} (h : Gp Sml pe) (k : Kd) : Gp Sml (ppart pe k) := by
  cases k
  · exact h
  · exact (Gp.take _).bind fun t ht => Gp.ret (.mk _ _ _ _ _ (by decide) (by decide) SmlL.nil)
  · exact (Gp.take _).bind fun t ht => Gp.ret (.mk _ _ _ _ _ (by decide) ht.1.short SmlL.nil)

theorem kinds_sml {pe : Par Nd} (h : Gp Sml pe) (ks : List Kd) : ∀ b, Gp SmlL (pkinds pe b ks) := by
  induction ks with
  | nil => intro b; cases b <;> exact Gp.ret SmlL.nil
  | cons k ks ih =>
    intro b
    cases b
    · exact (Gp.take _).bind fun _ _ => (part_sml h k).bind fun _ hx => (ih false).bind fun _ hl => Gp.ret (hl.cons hx)
    · exact (part_sml h k).bind fun _ hx => (ih false).bind fun _ hl => Gp.ret (hl.cons hx)

theorem more_sml {pe : Par Nd} (h : Gp Sml pe) (f : Nat) : Gp SmlL (pmore pe f) := by
  induction f with
  | zero => exact Gp.ret SmlL.nil
  | succ f ih => exact Gp.fork _ ((Gp.take _).bind fun _ _ => h.bind fun _ hx => ih.bind fun _ hl => Gp.ret (hl.cons hx)) (Gp.ret SmlL.nil)

theorem expr_sml (d : Nat) : Gp Sml (pexpr d) := by
  induction d with
  | zero => intro en ts hg x r hx; cases hx
  | succ d ih =>
    exact (Gp.take _).bind fun t ht => Gp.ite _ (Gp.ret (.mk _ _ _ _ _ (by decide) ht.1.short SmlL.nil))
      (((Gp.take _).bind fun _ _ => (kinds_sml ih _ _).bind fun _ hl => (Gp.ite _ (more_sml ih _) (Gp.ret SmlL.nil)).bind fun _ hm => (Gp.take _).bind fun _ _ => Gp.ret (hl.append hm)).bind fun _ hl => Gp.ret (.mk _ _ _ _ _ ht.1.short (by decide) hl))

theorem stmt_sml : Gp Sml pstmt := by
  refine (Gp.take _).bind fun t ht => (Gp.take _).bind fun u hu => ?_
  have hr : Gp (fun x : Int × List Nd => SmlL x.2) (prest t.1.s) := by
    unfold prest
    exact Gp.ite _ ((Gp.take _).bind fun _ _ => Gp.ret SmlL.nil) (Gp.ite _ ((Gp.take _).bind fun v hv => Gp.ret (SmlL.nil.cons (.mk _ _ _ _ _ (by decide) hv.1.short SmlL.nil)))
      (Gp.ite _ ((Gp.take _).bind fun _ _ => (expr_sml 12).bind fun _ hx => Gp.ret (SmlL.nil.cons hx)) (Gp.fork _ ((Gp.take _).bind fun _ _ => Gp.ret SmlL.nil) (Gp.ret SmlL.nil))))
  exact hr.bind fun x hx => (Gp.take _).bind fun _ _ => Gp.ret (.mk _ _ _ _ _ ht.1.short hu.1.short hx)

theorem file_sml (f : Nat) : Gp SmlL (pfile f) := by
  induction f with
  | zero => exact Gp.ret SmlL.nil
  | succ f ih =>
    have hb : Gp SmlL (pbind pstmt fun n => pbind (pfile f) fun l => pret (n :: l)) := stmt_sml.bind fun _ hx => ih.bind fun _ hl => Gp.ret (hl.cons hx)
    intro en ts hg x r hx
    cases ts with
    | nil => cases hx; exact ⟨SmlL.nil, hg⟩
    | cons t ts => exact hb en (t :: ts) hg x r hx

theorem Parse_sml {x : List UInt8} {n : Nd} (h : Parse x = .ok n) : Sml n := by
  obtain ⟨ts, l, hS, hp, rfl⟩ := Parse_ok h
  exact .mk _ _ _ _ _ (by decide) (by decide) (file_sml 501 _ ts (Scan_len hS).2 l [] hp).1

theorem Parse_short {x : List UInt8} {n : Nd} (h : Parse x = .ok n) : n.l.length ≤ 500 := by
  obtain ⟨ts, l, hS, hp, rfl⟩ := Parse_ok h
  have hl := (Scan_len hS).1
  have : ∀ (f en : Nat) (ts : Toks) (l : List Nd) (r : Toks), pfile f en ts = .ok (l, r) → l.length ≤ ts.length := by
    intro f
    induction f with
    | zero => intro en ts l r h; cases h; simp
    | succ f ih =>
      intro en ts l r h
      cases ts with
      | nil => cases h; simp
      | cons t ts =>
        rw [file_step] at h
        cases hs : pstmt en (t :: ts) with
        | error e => rw [hs] at h; cases h
        | ok y =>
          obtain ⟨n, r1⟩ := y
          rw [hs] at h
          have h1 := stmt_shorter hs
          simp only at h
          cases hp : pfile f en r1 with
          | error e => rw [hp] at h; cases h
          | ok z =>
            obtain ⟨l', r'⟩ := z
            rw [hp] at h
            cases h
            have := ih _ _ _ _ hp
            simp only [List.length_cons, List.singleton_append] at *
            omega
  have := this _ _ _ _ _ hp
  show l.length ≤ 500
  omega
end Go.Proofs.YtpckmllmjdafpaaDoor
