/- Exprs: what was read of them, and their text. -/
import Derived.Test.YtpckmllmjdafpaaDoorPsBackN
namespace Go.Proofs.YtpckmllmjdafpaaDoor
set_option linter.unusedVariables false

/-- A text may be told of n, and it is q's. -/
def Told (f : Nat) (n : Nd) (q : List Tk) : Prop := TxOk f n ∧ Few f n ∧ ∃ L, OkTo L ∧ laid L = textE f n ∧ toks L = q

def AllOk (f : Nat) (l : List Nd) : Prop := ∀ x ∈ l, TxOk f x ∧ Few f x

theorem AllOk.nil (f : Nat) : AllOk f [] := fun x h => by cases h
theorem AllOk.cons {f : Nat} {x : Nd} {l : List Nd} (h1 : TxOk f x) (h2 : Few f x) (h : AllOk f l) : AllOk f (x :: l) := fun y hy => by
  rcases List.mem_cons.1 hy with rfl | hy
  · exact ⟨h1, h2⟩
  · exact h y hy
theorem AllOk.append {f : Nat} {l m : List Nd} (h : AllOk f l) (hm : AllOk f m) : AllOk f (l ++ m) := fun y hy => (List.mem_append.1 hy).elim (h y) (hm y)

inductive F2 (re : Nd → Bool) : List Kd → List Nd → Prop where
  | nil : F2 re [] []
  | cons {k : Kd} {ks : List Kd} {x : Nd} {l : List Nd} : partOk re k x = true → F2 re ks l → F2 re (k :: ks) (x :: l)

theorem F2.len {re : Nd → Bool} {ks : List Kd} {l : List Nd} (h : F2 re ks l) : ks.length = l.length := by
  induction h with
  | nil => rfl
  | cons _ _ ih => simp [ih]

theorem F2.get {re : Nd → Bool} {ks : List Kd} {l : List Nd} (h : F2 re ks l) : ∀ i (h1 : i < ks.length) (h2 : i < l.length), partOk re ks[i] l[i] = true := by
  induction h with
  | nil => intro i h1; simp at h1
  | cons hx _ ih =>
    intro i h1 h2
    cases i with
    | zero => exact hx
    | succ i => exact ih i (by simpa using h1) (by simpa using h2)

def PtR (d : Nat) (k : Kd) (n : Nd) (q : List Tk) : Prop := partOk (rightE d) k n = true ∧ Told (d + 1) n q

theorem ki_kind {k : Nat} {t : Tk} (h : isKi k t = true) : t.kind = k := by unfold isKi at h; simpa using h

theorem part_pr (d : Nat) (h : Gq (fun n q => rightE d n = true ∧ Told (d + 1) n q) (pexpr d)) (k : Kd) : Gq (PtR d k) (ppart (pexpr d) k) := by
  cases k
  · exact h
  · refine (Gq.take _).bind fun t q ht => Gq.ret ?_
    obtain ⟨rfl, hg, hk⟩ := ht
    have hk1 := ki_kind hk
    have hn := num_has hg hk1
    refine ⟨?_, .inr (.inl ⟨?_, rfl, hn⟩), ⟨Nat.zero_le _, fun x hx => by cases hx⟩, [(t.1, [])], OkTo.word hg, ?_, rfl⟩
    · show (_ && numOk (t.1.n : Int) && _) = true
      rw [hn]
      rfl
    · show ¬ (wNum = wUse ∨ wNum = wName)
      decide
    · rw [laid_cons]
      have e : textE (d + 1) (.mk wNum [] (t.1.n : Int) (t.2 : Int) []) = Lib.itoa (t.1.n : Int) := (if_neg (by show ¬ (wNum = wUse ∨ wNum = wName); decide)).trans (if_pos rfl)
      rw [e, itoa_nat]
      simp [laid, txt, hk1]
  · refine (Gq.take _).bind fun t q ht => Gq.ret ?_
    obtain ⟨rfl, hg, hk⟩ := ht
    have hn := nm_has hg hk
    refine ⟨?_, .inl (.inr rfl), ⟨Nat.zero_le _, fun x hx => by cases hx⟩, [(t.1, [])], OkTo.word hg, ?_, rfl⟩
    · show (_ && hasNm t.1.s && _ && _) = true
      rw [hn]
      rfl
    · have e : textE (d + 1) (.mk wName t.1.s 0 (t.2 : Int) []) = t.1.s := if_pos (.inr rfl)
      rw [e, laid_cons, txt_word (nm_word hk).1]
      simp [laid]

/-- What stands behind the first part. -/
def TL (d : Nat) (l : List Nd) (q : List Tk) : Prop := AllOk (d + 1) l ∧ ∃ L, OkTo L ∧ HeadS L ∧ laid L = Lib.joinTail [44, 32] (l.map (textE (d + 1))) ∧ toks L = q

theorem TL.nil (d : Nat) : TL d [] [] := ⟨AllOk.nil _, [], OkTo.nil, .inl rfl, rfl, rfl⟩

theorem joinTail_cons (sep x : List UInt8) (r : List (List UInt8)) : Lib.joinTail sep (x :: r) = sep ++ x ++ Lib.joinTail sep r := by simp [Lib.joinTail]

theorem joinTail_append (sep : List UInt8) (r s : List (List UInt8)) : Lib.joinTail sep (r ++ s) = Lib.joinTail sep r ++ Lib.joinTail sep s := by simp [Lib.joinTail]

theorem TL.cons {d : Nat} {x : Nd} {l : List Nd} {t : Tk} {qx ql : List Tk} (ht : t = sgn 44) (hx : Told (d + 1) x qx) (hl : TL d l ql) : TL d (x :: l) ([t] ++ (qx ++ (ql ++ []))) := by
  obtain ⟨h1, h2, Lx, o1, e1, t1⟩ := hx
  obtain ⟨ha, Ll, o2, hs, e2, t2⟩ := hl
  subst ht
  refine ⟨ha.cons h1 h2, (sgn 44, [32]) :: (Lx ++ Ll), OkTo.sign (sgn_good 44 (by decide)) rfl (.inr (.inl rfl)) (o1.append o2 hs), .inr ⟨sgn 44, [32], _, rfl, rfl⟩, ?_, ?_⟩
  · rw [laid_cons, laid_append, e1, e2, List.map_cons, joinTail_cons]
    simp [txt_sgn]
  · rw [toks_cons, toks_append, t1, t2]
    simp

theorem kinds_tl (d : Nat) (h : ∀ k, Gq (PtR d k) (ppart (pexpr d) k)) (ks : List Kd) : Gq (fun l q => F2 (rightE d) ks l ∧ TL d l q) (pkinds (pexpr d) false ks) := by
  induction ks with
  | nil => exact Gq.ret ⟨.nil, TL.nil d⟩
  | cons k ks ih =>
    exact (Gq.take _).bind fun t q ht => (h k).bind fun x qx hx => ih.bind fun l ql hl => Gq.ret (by
      obtain ⟨rfl, hg, hk⟩ := ht
      exact ⟨.cons hx.1 hl.1, TL.cons (sgn_of hg hk) hx.2 hl.2⟩)

theorem more_tl (d : Nat) (h : Gq (fun n q => rightE d n = true ∧ Told (d + 1) n q) (pexpr d)) (f : Nat) : Gq (fun l q => ((∀ x ∈ l, rightE d x = true) ∧ l.length ≤ f) ∧ TL d l q) (pmore (pexpr d) f) := by
  induction f with
  | zero => exact Gq.ret ⟨⟨(fun x h => by cases h), Nat.zero_le _⟩, TL.nil d⟩
  | succ f ih =>
    refine Gq.fork _ ((Gq.take _).bind fun t q ht => h.bind fun x qx hx => ih.bind fun l ql hl => Gq.ret ?_) (Gq.ret ⟨⟨(fun x h => by cases h), Nat.zero_le _⟩, TL.nil d⟩)
    obtain ⟨rfl, hg, hk⟩ := ht
    refine ⟨⟨fun y hy => ?_, by simp only [List.length_cons]; have := hl.1.2; omega⟩, TL.cons (sgn_of hg hk) hx.2 hl.2⟩
    rcases List.mem_cons.1 hy with rfl | hy
    · exact hx.1
    · exact hl.1.1 y hy

theorem parts_right {d : Nat} {op s : List UInt8} {n a : Int} {l m : List Nd} (hpos : 0 < (inside op).1.length) (hf : F2 (rightE d) (inside op).1 l) (hm : (inside op).2 = false → m = []) (hm2 : ∀ x ∈ m, rightE d x = true) : partsOk (rightE d) (.mk op s n a (l ++ m)) = true := by
  unfold partsOk
  rw [Bool.and_eq_true]
  have hlen := hf.len
  constructor
  · show fits (inside op).1 (inside op).2 (l ++ m).length = true
    unfold fits
    rw [List.length_append]
    cases hb : (inside op).2 with
    | false =>
      have := hm hb
      subst this
      rw [List.length_nil, decide_eq_false (show ¬ (inside op).1.length = 0 by omega), decide_eq_false (show ¬ l.length + 0 < (inside op).1.length by omega), decide_eq_false (show ¬ (inside op).1.length < l.length + 0 by omega)]
      rfl
    | true =>
      rw [decide_eq_false (show ¬ (inside op).1.length = 0 by omega), decide_eq_false (show ¬ l.length + m.length < (inside op).1.length by omega)]
      simp
  · rw [List.all_eq_true]
    intro i hi
    have hi' : i < (l ++ m).length := List.mem_range.1 hi
    show partOk (rightE d) (kdAt (inside op).1 i) ((l ++ m).getD i _) = true
    rw [List.getD_eq_getElem?_getD, List.getElem?_eq_getElem hi']
    show partOk (rightE d) (kdAt (inside op).1 i) (l ++ m)[i] = true
    cases hb : (inside op).2 with
    | false =>
      have := hm hb
      subst this
      simp only [List.append_nil] at hi' ⊢
      obtain ⟨hk, e⟩ := kdAt_get (ks := (inside op).1) (i := i) hpos
      rw [← e]
      have hmin : min i ((inside op).1.length - 1) = i := by omega
      have := hf.get i (by omega) hi'
      simp only [hmin]
      exact this
    | true =>
      have hks := inside_more hb
      have hkd : kdAt (inside op).1 i = .ex := by
        rw [hks]
        unfold kdAt
        simp
      rw [hkd]
      show rightE d _ = true
      by_cases hil : i < l.length
      · rw [List.getElem_append_left hil]
        rw [hks] at hf hlen
        have h0 : i = 0 := by simp at hlen; omega
        have := hf.get i (by simp; omega) hil
        simp only [h0] at this ⊢
        exact this
      · rw [List.getElem_append_right (by omega)]
        exact hm2 _ (List.getElem_mem _)

theorem join_app (x : List UInt8) (r s : List (List UInt8)) (sep : List UInt8) : Lib.join (x :: r ++ s) sep = Lib.join (x :: r) sep ++ Lib.joinTail sep s := by
  rw [List.cons_append, Lib.join_cons, Lib.join_cons, joinTail_append, List.append_assoc]

/-- What stands in parentheses, with them. -/
def InP (d : Nat) (op : List UInt8) (l : List Nd) (q : List Tk) : Prop := (∀ s n a, partsOk (rightE d) (.mk op s n a l) = true) ∧ AllOk (d + 1) l ∧ l.length ≤ 1000 ∧ ∃ L, OkTo L ∧ HeadS L ∧ laid L = [40] ++ Lib.join (l.map (textE (d + 1))) [44, 32] ++ [41] ∧ toks L = q

theorem parts_inp (d : Nat) (h : Gq (fun n q => rightE d n = true ∧ Told (d + 1) n q) (pexpr d)) (op : List UInt8) (hpos : 0 < (inside op).1.length) : Gq (InP d op) (pparts (pexpr d) op) := by
  have hp := part_pr d h
  have hfirst : Gq (fun l q => F2 (rightE d) (inside op).1 l ∧ AllOk (d + 1) l ∧ ∃ x r L, l = x :: r ∧ OkTo L ∧ laid L = Lib.join (l.map (textE (d + 1))) [44, 32] ∧ toks L = q) (pkinds (pexpr d) true (inside op).1) := by
    cases hks : (inside op).1 with
    | nil => rw [hks] at hpos; simp at hpos
    | cons k ks =>
      refine (hp k).bind fun x qx hx => (kinds_tl d hp ks).bind fun l ql hl => Gq.ret ?_
      obtain ⟨h0, h1, h2, Lx, o1, e1, t1⟩ := hx
      obtain ⟨hf, ha, Ll, o2, hs, e2, t2⟩ := hl
      refine ⟨.cons h0 hf, ha.cons h1 h2, x, l, Lx ++ Ll, rfl, o1.append o2 hs, ?_, ?_⟩
      · rw [laid_append, e1, e2, List.map_cons, Lib.join_cons]
      · rw [toks_append, t1, t2]; simp
  have hmore : Gq (fun m q => (((inside op).2 = false → m = []) ∧ (∀ x ∈ m, rightE d x = true) ∧ m.length ≤ 501) ∧ TL d m q) (if (inside op).2 = true then pmore (pexpr d) 501 else pret []) :=
    Gq.ite _ (fun hb => (more_tl d h 501).mono fun m q hm => ⟨⟨fun e => (by rw [hb] at e; cases e), hm.1.1, hm.1.2⟩, hm.2⟩) (fun hb => Gq.ret ⟨⟨fun _ => rfl, (fun x hx => by cases hx), Nat.zero_le _⟩, TL.nil d⟩)
  refine (Gq.take _).bind fun t1 q1 h1 => hfirst.bind fun l ql hl => hmore.bind fun m qm hm => (Gq.take _).bind fun t2 q2 h2 => Gq.ret ?_
  obtain ⟨rfl, hg1, hk1⟩ := h1
  obtain ⟨rfl, hg2, hk2⟩ := h2
  obtain ⟨hf, ha, x, r, L, rfl, o1, e1, tt1⟩ := hl
  obtain ⟨⟨c1, c2, c3⟩, hb, M, o2, hs, e2, tt2⟩ := hm
  have s1 := sgn_of hg1 hk1
  have s2 := sgn_of hg2 hk2
  have hlen := hf.len
  have h3 := inside_len op
  refine ⟨fun s n a => parts_right hpos hf c1 c2, ha.append hb, by rw [List.length_append]; omega, (sgn 40, []) :: (L ++ M ++ [(sgn 41, [])]), ?_, .inr ⟨sgn 40, [], _, rfl, rfl⟩, ?_, ?_⟩
  · exact OkTo.sign (sgn_good 40 (by decide)) rfl (.inl rfl) ((o1.append o2 hs).append (OkTo.sign (sgn_good 41 (by decide)) rfl (.inl rfl) OkTo.nil) (.inr ⟨sgn 41, [], [], rfl, rfl⟩))
  · rw [laid_cons, laid_append, laid_append, e1, e2, List.map_append, List.map_cons, join_app]
    simp [laid, txt_sgn]
  · rw [toks_cons, toks_append, toks_append, tt1, tt2, s1, s2]
    simp [toks]

theorem not_use {op : List UInt8} (h : 0 < (inside op).1.length) : ¬ (op = wUse ∨ op = wName) ∧ op ≠ wNum ∧ op ≠ wUse := by
  refine ⟨?_, ?_, ?_⟩
  · rintro (rfl | rfl)
    · exact absurd h (by decide)
    · exact absurd h (by decide)
  · rintro rfl; exact absurd h (by decide)
  · rintro rfl; exact absurd h (by decide)

theorem expr_told (d : Nat) : Gq (fun n q => rightE d n = true ∧ Told (d + 1) n q) (pexpr d) := by
  induction d with
  | zero => intro en ts hg x r hx; cases hx
  | succ d ih =>
    refine (Gq.take _).bind fun t q ht => ?_
    obtain ⟨rfl, hg, hb⟩ := ht
    refine Gq.ite _ (fun hn => Gq.ret ?_) (fun hn => ?_)
    · have hh := nm_has hg hn
      refine ⟨?_, .inl (.inl rfl), ⟨Nat.zero_le _, fun x hx => by cases hx⟩, [(t.1, [])], OkTo.word hg, ?_, rfl⟩
      · show (true && (if wUse = wUse then hasNm t.1.s && true else _)) = true
        rw [if_pos rfl, hh]
        rfl
      · have e : textE (d + 2) (.mk wUse t.1.s 0 (t.2 : Int) []) = t.1.s := if_pos (.inl rfl)
        rw [e, laid_cons, txt_word (nm_word hn).1]
        simp [laid]
    · have hpos := begins_kinds hb (by simpa using hn)
      have h0 : t.1.kind = 0 := by
        unfold begins at hb
        rw [show isNm t.1 = false by simpa using hn] at hb
        simp at hb
        exact hb.1
      obtain ⟨u1, u2, u3⟩ := not_use hpos
      refine (parts_inp d ih t.1.s hpos).bind fun l ql hl => Gq.ret ?_
      obtain ⟨hp, ha, hle, L, o1, hs, e1, t1⟩ := hl
      refine ⟨?_, .inr (.inr ⟨u1, u2, fun x hx => (ha x hx).1⟩), ⟨by show l.length ≤ _; omega, fun x hx => (ha x hx).2⟩, (t.1, []) :: L, ?_, ?_, ?_⟩
      · show (true && (if t.1.s = wUse then _ else true && partsOk (rightE d) _)) = true
        rw [if_neg u3, hp [] 0 (t.2 : Int)]
        rfl
      · exact (OkTo.word hg).append o1 hs
      · have e : textE (d + 2) (.mk t.1.s [] 0 (t.2 : Int) l) = t.1.s ++ [40] ++ Lib.join (l.map (textE (d + 1))) [44, 32] ++ [41] := (if_neg u1).trans (if_neg u2)
        rw [e, laid_cons, e1, txt_word h0]
        simp
      · rw [toks_cons, t1]
        simp
end Go.Proofs.YtpckmllmjdafpaaDoor
