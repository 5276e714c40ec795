/- Statements and files: what was read of them, and their text. -/
import Derived.Test.YtpckmllmjdafpaaDoorPsBackE
namespace Go.Proofs.YtpckmllmjdafpaaDoor
set_option linter.unusedVariables false

/-- What a line is of, its lengths aside. -/
structure LnP (n : Nd) : Prop where
  s : n.s.length ≤ 1000
  num : (n.op = wDevice ∨ n.op = wJournal) → numOk n.n = true
  hex : (n.op = wKey ∨ n.op = wRoot) → ∃ m, n.l = [m] ∧ m.s.length ≤ 1000
  vol : n.op = wVolume → ∃ m, n.l = [m] ∧ TxOk 13 m ∧ Few 13 m

/-- What stands behind a name. -/
def Rs (op : List UInt8) (r : Int × List Nd) (q : List Tk) : Prop :=
  (∀ s a, hasNm s = true → rightS (.mk op s r.1 a r.2) = true) ∧ (∀ s a, s.length ≤ 1000 → LnP (.mk op s r.1 a r.2)) ∧
  ∃ sep L, ((sep = [] ∧ L = []) ∨ (sep = [32] ∧ OkTo L)) ∧ (∀ s a, sep ++ laid L = lineR (.mk op s r.1 a r.2)) ∧ toks L = q

theorem lnp_of {op s : List UInt8} {n a : Int} {l : List Nd} (hs : s.length ≤ 1000) (h1 : (op = wDevice ∨ op = wJournal) → numOk n = true) (h2 : (op = wKey ∨ op = wRoot) → ∃ m, l = [m] ∧ m.s.length ≤ 1000) (h3 : op = wVolume → ∃ m, l = [m] ∧ TxOk 13 m ∧ Few 13 m) : LnP (.mk op s n a l) := ⟨hs, h1, h2, h3⟩

theorem rest_told (op : List UInt8) (hop : op ∈ stmts) : Gq (Rs op) (prest op) := by
  unfold prest
  refine Gq.ite _ (fun h1 => ?_) (fun h1 => Gq.ite _ (fun h2 => ?_) (fun h2 => Gq.ite _ (fun h3 => ?_) (fun h3 => ?_)))
  · refine (Gq.take _).bind fun t q ht => Gq.ret ?_
    obtain ⟨rfl, hg, hk⟩ := ht
    have hk1 := ki_kind hk
    have hn := num_has hg hk1
    refine ⟨fun s a hs => ?_, fun s a hs => lnp_of hs (fun _ => hn) (fun h => ?_) (fun h => ?_), [32], [(t.1, [])], .inr ⟨rfl, OkTo.word hg⟩, fun s a => ?_, rfl⟩
    · show (hasNm s && (if op = wDevice ∨ op = wJournal then numOk (t.1.n : Int) && true else _)) = true
      rw [hs, if_pos h1, hn]; rfl
    · exfalso
      rcases h1 with rfl | rfl <;> rcases h with h | h <;> exact absurd h (by decide)
    · exfalso
      rcases h1 with rfl | rfl <;> exact absurd h (by decide)
    · show [32] ++ laid [(t.1, [])] = if op = wDevice ∨ op = wJournal then 32 :: Lib.itoa (t.1.n : Int) else _
      rw [if_pos h1, itoa_nat]
      simp [laid, txt, hk1]
  · refine (Gq.take _).bind fun t q ht => Gq.ret ?_
    obtain ⟨rfl, hg, hk⟩ := ht
    have hk2 := ki_kind hk
    have hh := hx_has hg hk2
    refine ⟨fun s a hs => ?_, fun s a hs => lnp_of hs (fun h => absurd h h1) (fun _ => ⟨_, rfl, hg.short⟩) (fun h => ?_), [32], [(t.1, [])], .inr ⟨rfl, OkTo.word hg⟩, fun s a => ?_, rfl⟩
    · show (hasNm s && (if op = wDevice ∨ op = wJournal then _ else if op = wKey ∨ op = wRoot then (true && true && (true && hasHx t.1.s && true && true)) else _)) = true
      rw [hs, if_neg h1, if_pos h2, hh]; rfl
    · exfalso
      rcases h2 with rfl | rfl <;> exact absurd h (by decide)
    · show [32] ++ laid [(t.1, [])] = if op = wDevice ∨ op = wJournal then _ else if op = wKey ∨ op = wRoot then [32, 36] ++ t.1.s else _
      rw [if_neg h1, if_pos h2]
      simp [laid, txt, hk2]
  · refine (Gq.take _).bind fun t q ht => (expr_told 12).bind fun n ql hn => Gq.ret ?_
    obtain ⟨rfl, hg, hk⟩ := ht
    obtain ⟨hr, hT, hF, L, o1, e1, t1⟩ := hn
    have hs61 := sgn_of hg hk
    refine ⟨fun s a hs => ?_, fun s a hs => lnp_of hs (fun h => absurd h h1) (fun h => absurd h h2) (fun _ => ⟨_, rfl, hT, hF⟩), [32], (sgn 61, [32]) :: L, .inr ⟨rfl, OkTo.sign (sgn_good 61 (by decide)) rfl (.inr (.inl rfl)) o1⟩, fun s a => ?_, ?_⟩
    · show (hasNm s && (if op = wDevice ∨ op = wJournal then _ else if op = wKey ∨ op = wRoot then _ else if op = wVolume then (true && true && rightE 12 n) else _)) = true
      rw [hs, if_neg h1, if_neg h2, if_pos h3, hr]; rfl
    · show [32] ++ laid ((sgn 61, [32]) :: L) = if op = wDevice ∨ op = wJournal then _ else if op = wKey ∨ op = wRoot then _ else if op = wVolume then [32, 61, 32] ++ textE 13 n else _
      rw [if_neg h1, if_neg h2, if_pos h3, laid_cons, e1, txt_sgn]
      simp
    · rw [toks_cons, t1, hs61]
      simp
  · have hex : op = wExport := by
      unfold stmts at hop
      simp only [List.mem_cons, List.not_mem_nil, or_false] at hop
      rcases hop with h | h | h | h | h | h
      · exact absurd (.inl h) h1
      · exact absurd (.inr h) h1
      · exact absurd (.inl h) h2
      · exact absurd (.inr h) h2
      · exact absurd h h3
      · exact h
    subst hex
    refine Gq.fork _ ((Gq.take _).bind fun t q ht => Gq.ret ?_) (Gq.ret ?_)
    · obtain ⟨rfl, hg, hk⟩ := ht
      have hw : t.1.kind = 0 ∧ t.1.s = wReadonly := by
        unfold isWd at hk
        simpa using hk
      refine ⟨fun s a hs => ?_, fun s a hs => lnp_of hs (fun h => absurd h h1) (fun h => absurd h h2) (fun h => absurd h h3), [32], [(t.1, [])], .inr ⟨rfl, OkTo.word hg⟩, fun s a => ?_, rfl⟩
      · show (hasNm s && _) = true
        rw [hs]
        rfl
      · show [32] ++ laid [(t.1, [])] = 32 :: wReadonly
        rw [laid_cons, txt_word hw.1, hw.2]
        rfl
    · refine ⟨fun s a hs => ?_, fun s a hs => lnp_of hs (fun h => absurd h h1) (fun h => absurd h h2) (fun h => absurd h h3), [], [], .inl ⟨rfl, rfl⟩, fun s a => rfl, rfl⟩
      show (hasNm s && _) = true
      rw [hs]
      rfl

/-- A statement, and the tokens of its text. -/
def St (n : Nd) (q : List Tk) : Prop := rightS n = true ∧ LnP n ∧ ∃ L, (∀ rest, LayOk rest → LayOk (L ++ rest)) ∧ laid L = lineS n ∧ toks L = q

theorem stmt_told : Gq St pstmt := by
  refine (Gq.take _).bind fun t q ht => (Gq.take _).bind fun u q2 hu => ?_
  obtain ⟨rfl, hg, hk⟩ := ht
  obtain ⟨rfl, hgu, hku⟩ := hu
  have hw : t.1.kind = 0 ∧ t.1.s ∈ stmts := by
    unfold isWd at hk
    simp only [Bool.and_eq_true, beq_iff_eq, List.any_eq_true] at hk
    obtain ⟨h0, y, hy, e⟩ := hk
    exact ⟨h0, by rw [e]; exact hy⟩
  refine (rest_told t.1.s hw.2).bind fun r q3 hr => (Gq.take _).bind fun v q4 hv => Gq.ret ?_
  obtain ⟨rfl, hgv, hkv⟩ := hv
  obtain ⟨hR, hP, sep, L, hsep, hl, hq⟩ := hr
  have hs59 := sgn_of hgv hkv
  have hu0 := (nm_word hku).1
  refine ⟨hR _ _ (nm_has hgu hku), hP _ _ hgu.short, (t.1, [32]) :: (u.1, sep) :: (L ++ [(sgn 59, [10])]), fun rest hrest => ?_, ?_, ?_⟩
  · have h0 : LayOk ((sgn 59, [10]) :: rest) := .cons _ _ _ (sgn_good 59 (by decide)) (.inr (.inr rfl)) (.inl rfl) hrest
    have e : (t.1, [32]) :: (u.1, sep) :: (L ++ [(sgn 59, [10])]) ++ rest = (t.1, [32]) :: (u.1, sep) :: (L ++ (sgn 59, [10]) :: rest) := by simp
    rw [e]
    refine .cons _ _ _ hg (.inr (.inl rfl)) (.inr (.inl (by simp))) ?_
    rcases hsep with ⟨rfl, rfl⟩ | ⟨rfl, hL⟩
    · exact .cons _ _ _ hgu (.inl rfl) (.inr (.inr ⟨sgn 59, [10], rest, rfl, rfl⟩)) h0
    · exact .cons _ _ _ hgu (.inr (.inl rfl)) (.inr (.inl (by simp))) (hL _ _ _ rfl h0)
  · rw [laid_cons, laid_cons, laid_append, txt_word hw.1, txt_word hu0]
    have e := hl u.1.s (t.2 : Int)
    show _ = t.1.s ++ [32] ++ u.1.s ++ lineR (.mk t.1.s u.1.s r.1 (t.2 : Int) r.2) ++ [59, 10]
    rw [← e]
    simp [laid, txt_sgn]
  · rw [toks_cons, toks_cons, toks_append, hq, hs59]
    simp [toks]

def FileT (l : List Nd) (q : List Tk) : Prop := (∀ x ∈ l, rightS x = true ∧ LnP x) ∧ ∃ L, LayOk L ∧ laid L = l.flatMap lineS ∧ toks L = q

theorem file_told (f : Nat) : Gq FileT (pfile f) := by
  induction f with
  | zero => exact Gq.ret ⟨fun x h => (by cases h), [], .nil, rfl, rfl⟩
  | succ f ih =>
    have hb : Gq FileT (pbind pstmt fun n => pbind (pfile f) fun l => pret (n :: l)) := stmt_told.bind fun n q hn => ih.bind fun l ql hl => Gq.ret (by
      obtain ⟨h1, h2, L, o1, e1, t1⟩ := hn
      obtain ⟨h3, M, o2, e2, t2⟩ := hl
      refine ⟨fun x hx => ?_, L ++ M, o1 M o2, ?_, ?_⟩
      · rcases List.mem_cons.1 hx with rfl | hx
        · exact ⟨h1, h2⟩
        · exact h3 x hx
      · rw [laid_append, e1, e2]; rfl
      · rw [toks_append, t1, t2]; simp)
    intro en ts hg x r hx
    cases ts with
    | nil => cases hx; exact ⟨[], rfl, ⟨fun x h => (by cases h), [], .nil, rfl, rfl⟩, hg⟩
    | cons t ts => exact hb en (t :: ts) hg x r hx

theorem txt_short {t : Tk} (h : Good t) : (txt t).length ≤ 1001 := by
  have hs := h.short
  unfold txt
  split
  · rename_i h1; have := dg_len 8 t.n (by have := (h.num h1).2; simpa using this); omega
  · split
    · simp; omega
    · omega

theorem lay_len {L : Lay} (h : LayOk L) : (laid L).length ≤ 1002 * L.length := by
  induction h with
  | nil => simp [laid]
  | cons t s L hg hs _ _ ih =>
    rw [laid_cons]
    have := txt_short hg
    have h1 : s.length ≤ 1 := by rcases hs with rfl | rfl | rfl <;> simp
    simp only [List.length_append, List.length_cons]
    omega

theorem flat_mem {x : Nd} {l : List Nd} (h : x ∈ l) : (lineS x).length ≤ (l.flatMap lineS).length := by
  induction l with
  | nil => cases h
  | cons y l ih =>
    rw [List.flatMap_cons, List.length_append]
    rcases List.mem_cons.1 h with rfl | h
    · omega
    · have := ih h; omega

theorem ln_of {n : Nd} (h : LnP n) (hz : (lineS n).length ≤ 1000000) : LnOk n := by
  refine ⟨by have := h.s; omega, h.num, fun e => ?_, fun e => ?_⟩
  · obtain ⟨m, e1, e2⟩ := h.hex e
    exact ⟨m, e1, by omega⟩
  · obtain ⟨m, e1, e2, e3⟩ := h.vol e
    refine ⟨m, e1, e2, ?_, e3⟩
    have e4 : lineR n = [32, 61, 32] ++ textE 13 m := by
      unfold lineR
      rw [if_neg (by rw [e]; decide), if_neg (by rw [e]; decide), if_pos e, e1]
      rfl
    unfold lineS at hz
    rw [e4] at hz
    simp only [List.length_append] at hz
    omega

theorem alike_text (f : Nat) : ∀ (x y : Nd), Alike x y → textE f x = textE f y := by
  induction f with
  | zero => intro x y _; rfl
  | succ f ih =>
    intro x y h
    cases h with
    | mk o s n a b l l' hl hi =>
      have e : l.map (textE f) = l'.map (textE f) := by
        apply List.ext_getElem
        · simp [hl]
        · intro i h1 h2
          simp only [List.getElem_map]
          exact ih _ _ (hi i (by simpa using h1) (by simpa using h2))
      simp only [textE, Nd.op, Nd.s, Nd.n, Nd.l]
      rw [e]
      rfl

theorem alike_s {x y : Nd} (h : Alike x y) : x.s = y.s := by cases h; rfl

theorem alike_line {x y : Nd} (h : Alike x y) : lineS x = lineS y := by
  cases h with
  | mk o s n a b l l' hl hi =>
    have e : lineR (.mk o s n a l) = lineR (.mk o s n b l') := by
      unfold lineR
      simp only [Nd.op, Nd.n, Nd.l]
      have h0 : (l.getD 0 (.mk [] [] 0 0 [])).s = (l'.getD 0 (.mk [] [] 0 0 [])).s ∧ textE 13 (l.getD 0 (.mk [] [] 0 0 [])) = textE 13 (l'.getD 0 (.mk [] [] 0 0 [])) := by
        cases l with
        | nil =>
          cases l' with
          | nil => exact ⟨rfl, rfl⟩
          | cons y l' => simp at hl
        | cons x l =>
          cases l' with
          | nil => simp at hl
          | cons y l' =>
            have := hi 0 (by simp) (by simp)
            exact ⟨alike_s this, alike_text 13 _ _ this⟩
      rw [h0.1, h0.2]
      rfl
    unfold lineS
    rw [e]
    rfl

theorem al_lines {l m : List Nd} (h : AL l m) : l.flatMap lineS = m.flatMap lineS := by
  have hl := h.len
  have hg := h.get
  have e : l.map lineS = m.map lineS := by
    apply List.ext_getElem
    · simp [hl]
    · intro i h1 h2
      simp only [List.getElem_map]
      exact alike_line (hg i (by simpa using h1) (by simpa using h2))
  rw [List.flatMap_def, List.flatMap_def, e]

/-- What is parsed is right, and its print is short. -/
theorem Parse_right {x : List UInt8} {n : Nd} (h : Parse x = .ok n) : Right n = true ∧ (∀ y ∈ n.l, LnOk y) ∧ (printed n).length ≤ 1000000 := by
  obtain ⟨ts, l, hS, hp, rfl⟩ := Parse_ok h
  obtain ⟨hlen, hgd⟩ := Scan_len hS
  obtain ⟨q, e, ⟨h1, L, o1, e1, t1⟩, _⟩ := file_told 501 _ ts hgd l [] hp
  have hq : L.length ≤ 500 := by
    have : (toks L).length = ts.length := by rw [t1]; have := congrArg List.length e; simpa [fsts] using this.symm
    simp [toks] at this
    omega
  have hz : (l.flatMap lineS).length ≤ 1000000 := by rw [← e1]; have := lay_len o1; omega
  refine ⟨?_, fun y hy => ln_of (h1 y hy).2 (by have := flat_mem (l := l) hy; omega), hz⟩
  unfold Right
  rw [show Nd.l (.mk wFile [] 0 0 l) = l from rfl, List.all_eq_true.2 (fun y hy => (h1 y hy).1)]
  rfl

/-- There and back. -/
theorem Parse_back {x : List UInt8} {n : Nd} (h : Parse x = .ok n) (hz : (printed n).length ≤ 2000) : ∃ m, Parse (printed n) = .ok m ∧ Alike n m ∧ printed m = printed n := by
  obtain ⟨ts, l, hS, hp, rfl⟩ := Parse_ok h
  obtain ⟨hlen, hgd⟩ := Scan_len hS
  obtain ⟨q, e, ⟨h1, L, o1, e1, t1⟩, _⟩ := file_told 501 _ ts hgd l [] hp
  have e' : toks L = fsts ts := by rw [t1, e]; simp [fsts]
  have hq : L.length ≤ 500 := by
    have : (toks L).length = ts.length := by rw [e']; simp [fsts]
    simp [toks] at this
    omega
  have hpr : printed (.mk wFile [] 0 0 l) = laid L := e1.symm
  rw [hpr] at hz ⊢
  have hS2 : Scan (laid L) = .ok (places 0 L) := by
    unfold Scan
    rw [if_neg (by omega)]
    exact scan_lay L _ 0 0 o1 (by omega) (by omega)
  obtain ⟨m, s, hp2, hal, hs⟩ := file_lk 501 x.length (laid L).length ts (places 0 L) (by rw [fsts_places, e']) l [] hp
  have hs0 : s = [] := by
    cases s with
    | nil => rfl
    | cons a b => simp [fsts] at hs
  subst hs0
  refine ⟨_, Parse_of hS2 hp2, Alike.of hal, ?_⟩
  rw [← hpr]
  exact (al_lines hal).symm
end Go.Proofs.YtpckmllmjdafpaaDoor
