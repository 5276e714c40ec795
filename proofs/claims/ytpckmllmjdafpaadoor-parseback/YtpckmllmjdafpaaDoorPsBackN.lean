/- What was read of a tree, and its text. -/
import Derived.Test.YtpckmllmjdafpaaDoorPsBackM
namespace Go.Proofs.YtpckmllmjdafpaaDoor
set_option linter.unusedVariables false

/-- What a parser tells of tokens that may be, and those that it took, meet R. -/
def Gq {α : Type} (R : α → List Tk → Prop) (P : Par α) : Prop := ∀ en ts, Goods ts → ∀ x r, P en ts = .ok (x, r) → ∃ q, fsts ts = q ++ fsts r ∧ R x q ∧ Goods r

theorem Gq.ret {α : Type} {R : α → List Tk → Prop} {x : α} (h : R x []) : Gq R (pret x) := fun en ts hg y r hy => by cases hy; exact ⟨[], rfl, h, hg⟩

theorem Gq.bind {α β : Type} {R : α → List Tk → Prop} {S : β → List Tk → Prop} {P : Par α} {f : α → Par β} (h : Gq R P) (hf : ∀ x q, R x q → Gq (fun y q' => S y (q ++ q')) (f x)) : Gq S (pbind P f) := by
  intro en ts hg y r hy
  unfold pbind at hy
  cases hp : P en ts with
  | error e => rw [hp] at hy; cases hy
  | ok z =>
    obtain ⟨z, s⟩ := z
    rw [hp] at hy
    obtain ⟨q, e1, h1, h2⟩ := h en ts hg z s hp
    obtain ⟨q', e2, h3, h4⟩ := hf z q h1 en s h2 y r hy
    exact ⟨q ++ q', by rw [e1, e2, List.append_assoc], h3, h4⟩

theorem Gq.take (p : Tk → Bool) : Gq (fun (t : Tk × Nat) q => q = [t.1] ∧ Good t.1 ∧ p t.1 = true) (ptake p) := by
  intro en ts hg y r hy
  have h1 := take_eq hy
  have h2 := ptake_is hy
  subst h1
  exact ⟨[y.1], rfl, ⟨rfl, hg _ (by simp), h2⟩, fun t ht => hg t (by simp [ht])⟩

theorem Gq.fork {α : Type} {R : α → List Tk → Prop} (p : Tk → Bool) {P Q : Par α} (h : Gq R P) (h' : Gq R Q) : Gq R (pif p P Q) := by
  intro en ts hg y r hy
  unfold pif at hy
  split at hy
  · exact h en ts hg y r hy
  · exact h' en ts hg y r hy

theorem Gq.ite {α : Type} {R : α → List Tk → Prop} (c : Prop) [Decidable c] {P Q : Par α} (h : c → Gq R P) (h' : ¬ c → Gq R Q) : Gq R (if c then P else Q) := by
  split
  · exact h ‹_›
  · exact h' ‹_›

theorem Gq.mono {α : Type} {R S : α → List Tk → Prop} {P : Par α} (h : Gq R P) (hs : ∀ x q, R x q → S x q) : Gq S P := by
  intro en ts hg y r hy
  obtain ⟨q, e, h1, h2⟩ := h en ts hg y r hy
  exact ⟨q, e, hs _ _ h1, h2⟩

/-- A layout that may be where a sign comes behind. -/
def OkTo (L : Lay) : Prop := ∀ u b rest, u.kind = 3 → LayOk ((u, b) :: rest) → LayOk (L ++ (u, b) :: rest)

/-- It begins with a sign, if with anything. -/
def HeadS (L : Lay) : Prop := L = [] ∨ ∃ u b L', L = (u, b) :: L' ∧ u.kind = 3

theorem OkTo.nil : OkTo [] := fun u b rest _ h => h

theorem OkTo.word {t : Tk} (h : Good t) : OkTo [(t, [])] := fun u b rest hu hr => .cons t [] _ h (.inl rfl) (.inr (.inr ⟨u, b, rest, rfl, hu⟩)) hr

theorem OkTo.append {L M : Lay} (h : OkTo L) (hm : OkTo M) (hs : HeadS M) : OkTo (L ++ M) := by
  intro u b rest hu hr
  rw [List.append_assoc]
  rcases hs with rfl | ⟨v, c, M', rfl, hv⟩
  · exact h u b rest hu hr
  · exact h v c (M' ++ (u, b) :: rest) hv (hm u b rest hu hr)

/-- A sign, and what comes behind it. -/
theorem OkTo.sign {t : Tk} {s : List UInt8} {L : Lay} (h : Good t) (h3 : t.kind = 3) (hs : s = [] ∨ s = [32] ∨ s = [10]) (hL : OkTo L) : OkTo ((t, s) :: L) := by
  intro u b rest hu hr
  exact .cons t s _ h hs (.inl h3) (hL u b rest hu hr)

theorem laid_append (L M : Lay) : laid (L ++ M) = laid L ++ laid M := by simp [laid]
theorem toks_append (L M : Lay) : toks (L ++ M) = toks L ++ toks M := by simp [toks]
theorem laid_cons (t : Tk) (s : List UInt8) (L : Lay) : laid ((t, s) :: L) = txt t ++ (s ++ laid L) := by simp [laid]
theorem toks_cons (t : Tk) (s : List UInt8) (L : Lay) : toks ((t, s) :: L) = t :: toks L := rfl

def sgn (c : UInt8) : Tk := ⟨3, [c], 0⟩

theorem sgn_of {t : Tk} {c : UInt8} (h : Good t) (hs : isSg [c] t = true) : t = sgn c := by
  unfold isSg at hs
  simp only [Bool.and_eq_true, beq_iff_eq] at hs
  obtain ⟨k, s, n⟩ := t
  simp only at hs
  obtain ⟨rfl, rfl⟩ := hs
  have := h.zero (by show (3 : Nat) ≠ 1; decide)
  simp only at this
  subst this
  rfl

theorem sgn_good (c : UInt8) (h : isSgn c = true) : Good (sgn c) := by
  have h1 : isSml c = false ∧ isFig c = false ∧ c ≠ 36 := by
    simp [isSgn] at h
    rcases h with (((rfl | rfl) | rfl) | rfl) | rfl <;> decide
  exact ⟨by show (3 : Nat) ≤ 3; decide, fun e => (by cases e), fun e => (by cases e), fun e => (by cases e), fun _ => ⟨c, rfl, h, h1.1, h1.2.1, h1.2.2⟩, fun _ => rfl⟩

theorem txt_sgn (c : UInt8) : txt (sgn c) = [c] := rfl

theorem txt_word {t : Tk} (h : t.kind = 0) : txt t = t.s := by unfold txt; rw [if_neg (by omega), if_neg (by omega)]

theorem nm_word {t : Tk} (h : isNm t = true) : t.kind = 0 ∧ resv t.s = false := by
  unfold isNm at h
  simpa using h

theorem dec_dg (n : Nat) : Lib.decDigits n = dg n := by
  induction n using Nat.strongRecOn with
  | _ n ih =>
    rw [Lib.decDigits]
    split
    · rename_i h; rw [dg_small h]
    · rename_i h; rw [ih (n / 10) (by omega), ← dg_great h]

theorem itoa_nat (n : Nat) : Lib.itoa (n : Int) = dg n := by
  unfold Lib.itoa
  rw [if_neg (by omega), Int.toNat_natCast, dec_dg]

/-- A token by itself. -/
theorem tok1_of {t : Tk} (h : Good t) (h3 : t.kind ≠ 3) : ∃ a, tok1 (txt t) = some (t, a) := by
  have hl : (txt t).length ≤ 2000 := by
    have hs := h.short
    unfold txt
    split
    · rename_i h1; have := dg_len 8 t.n (by have := (h.num h1).2; simpa using this); omega
    · split
      · rename_i h2; have := (h.hex h2).2.2; simp; omega
      · omega
  have hL : LayOk [(t, [10])] := .cons t [10] [] h (.inr (.inr rfl)) (.inr (.inl (by simp))) .nil
  have h1 := one_txt2 h [] (.inr (fun c hc => by cases hc))
  rw [List.append_nil] at h1
  have hs0 := skp_firm (txt_firm h) []
  rw [List.append_nil] at hs0
  have hne : txt t ≠ [] := by intro e; rw [e] at h1; cases h1
  refine ⟨0, ?_⟩
  unfold tok1 Scan
  rw [if_neg (by omega), scan_next (by rw [hs0]; exact hne) (by rw [hs0]; exact h1) (by omega), hs0]
  have hf : 1 ≤ (txt t).length := (one_len h1).1
  obtain ⟨f, hf'⟩ : ∃ f, (txt t).length = f + 1 := ⟨(txt t).length - 1, by omega⟩
  simp only [Nat.zero_add, Nat.add_zero, List.drop_length]
  rw [hf', scan_end rfl]
  rfl

theorem nm_has {t : Tk} (h : Good t) (hn : isNm t = true) : hasNm t.s = true := by
  obtain ⟨h0, h1⟩ := nm_word hn
  obtain ⟨a, ha⟩ := tok1_of h (by omega)
  rw [txt_word h0] at ha
  unfold hasNm
  rw [ha]
  simp [hn]

theorem hx_has {t : Tk} (h : Good t) (h2 : t.kind = 2) : hasHx t.s = true := by
  obtain ⟨a, ha⟩ := tok1_of h (by omega)
  have e : txt t = 36 :: t.s := by unfold txt; rw [if_neg (by omega), if_pos h2]
  rw [e] at ha
  unfold hasHx
  rw [ha]
  simp [h2]

theorem num_has {t : Tk} (h : Good t) (h1 : t.kind = 1) : numOk (t.n : Int) = true := by
  have := (h.num h1).2
  unfold numOk
  simp
  omega
end Go.Proofs.YtpckmllmjdafpaaDoor
