/- Right trees of few parts: their texts are short. -/
import Derived.Test.YtpckmllmjdafpaaGreatDoorPrParts
namespace Go.Proofs.YtpckmllmjdafpaaGreatDoor
open Go.RowKit
set_option linter.unusedVariables false

theorem tok1_good {x : List UInt8} {t : Tk × Nat} (h : tok1 x = some t) : Good t.1 := by
  unfold tok1 at h
  cases hS : Scan x with
  | error r => rw [hS] at h; cases h
  | ok ts =>
    rw [hS] at h
    match ts, h with
    | [u], h =>
      cases h
      exact (Scan_len hS).2 t (by simp)

theorem nm_len {x : List UInt8} (h : hasNm x = true) : x.length ≤ 16 := by
  unfold hasNm at h
  cases ht : tok1 x with
  | none => rw [ht] at h; cases h
  | some t =>
    rw [ht] at h
    simp only [Bool.and_eq_true, beq_iff_eq] at h
    have hk : t.1.kind = 0 := by
      have := h.1
      unfold isNm at this
      simp only [Bool.and_eq_true, beq_iff_eq] at this
      exact this.1
    have := ((tok1_good ht).word hk).2.2
    rw [h.2] at this
    exact this

theorem hx_len {x : List UInt8} (h : hasHx x = true) : x.length ≤ 128 := by
  unfold hasHx at h
  cases ht : tok1 (36 :: x) with
  | none => rw [ht] at h; cases h
  | some t =>
    rw [ht] at h
    simp only [Bool.and_eq_true, beq_iff_eq] at h
    have := ((tok1_good ht).hex h.1).2.2
    rw [h.2] at this
    exact this

theorem sz_pos (f : Nat) (n : Nd) : 1 ≤ szF (f + 1) n := by
  show 1 ≤ 1 + _
  omega

theorem sum_mem {l : List Nat} {x : Nat} (h : x ∈ l) : x ≤ l.sum := by
  induction l with
  | nil => cases h
  | cons y l ih =>
    rw [List.sum_cons]
    rcases List.mem_cons.1 h with rfl | h
    · omega
    · have := ih h; omega

theorem sum_len (f : Nat) (l : List Nd) : l.length ≤ (l.map (szF (f + 1))).sum := by
  induction l with
  | nil => simp
  | cons x l ih =>
    have := sz_pos f x
    simp only [List.length_cons, List.map_cons, List.sum_cons]
    omega

theorem join_len (l : List Nd) (g : Nd → List UInt8) (s : Nd → Nat) (h : ∀ x ∈ l, (g x).length + 2 ≤ 40 * s x) : (Lib.join (l.map g) [44, 32]).length ≤ 40 * (l.map s).sum := by
  have tail : ∀ r : List Nd, (∀ x ∈ r, (g x).length + 2 ≤ 40 * s x) → (Lib.joinTail [44, 32] (r.map g)).length ≤ 40 * (r.map s).sum := by
    intro r
    induction r with
    | nil => intro _; simp [Lib.joinTail]
    | cons x r ih =>
      intro hr
      have h1 := hr x (by simp)
      have h2 := ih (fun y hy => hr y (by simp [hy]))
      have e : Lib.joinTail [44, 32] ((x :: r).map g) = [44, 32] ++ g x ++ Lib.joinTail [44, 32] (r.map g) := by simp [Lib.joinTail]
      rw [e]
      simp only [List.length_append, List.length_cons, List.length_nil, List.map_cons, List.sum_cons]
      omega
  cases l with
  | nil => simp [Lib.join]
  | cons x l =>
    rw [List.map_cons, Lib.join_cons]
    have h1 := h x (by simp)
    have h2 := tail l (fun y hy => h y (by simp [hy]))
    simp only [List.length_append, List.map_cons, List.sum_cons]
    omega

theorem op_len {op : List UInt8} (h : (inside op).1 ≠ []) : op.length ≤ 9 ∧ op ≠ wUse ∧ op ≠ wName ∧ op ≠ wNum ∧ op ≠ wHex := by
  have key : op = wLinear ∨ op = wSnapshot ∨ op = wCrypt ∨ op = wIntegrity ∨ op = wVerity ∨ op = wConcat ∨ op = wMirror := by
    by_cases o1 : op = wLinear
    · exact .inl o1
    by_cases o2 : op = wSnapshot
    · exact .inr (.inl o2)
    by_cases o3 : op = wCrypt
    · exact .inr (.inr (.inl o3))
    by_cases o4 : op = wIntegrity
    · exact .inr (.inr (.inr (.inl o4)))
    by_cases o5 : op = wVerity
    · exact .inr (.inr (.inr (.inr (.inl o5))))
    by_cases o6 : op = wConcat
    · exact .inr (.inr (.inr (.inr (.inr (.inl o6)))))
    by_cases o7 : op = wMirror
    · exact .inr (.inr (.inr (.inr (.inr (.inr o7)))))
    exact absurd (no_op ⟨o1, o2, o3, o4, o5, o6, o7⟩) h
  rcases key with rfl | rfl | rfl | rfl | rfl | rfl | rfl <;> decide

theorem parts_mem {re : Nd → Bool} {n : Nd} (h : partsOk re n = true) : (inside n.op).1 ≠ [] ∧ ∀ x ∈ n.l, ∃ k, partOk re k x = true := by
  constructor
  · intro e
    rw [pk_none e] at h
    cases h
  · intro x hx
    unfold partsOk at h
    rw [Bool.and_eq_true, List.all_eq_true] at h
    obtain ⟨i, hi, rfl⟩ := List.getElem_of_mem hx
    have := h.2 i (List.mem_range.2 hi)
    rw [List.getD_eq_getElem?_getD, List.getElem?_eq_getElem hi] at this
    exact ⟨_, this⟩

/-- What is told of a part. -/
def Ok3 (f : Nat) (n : Nd) : Prop := TxOk f n ∧ TxR f n ∧ (szF f n ≤ 1000 → Few f n) ∧ (textE f n).length + 2 ≤ 40 * szF f n

theorem leaf_sz (d : Nat) {x : Nd} (h : x.l.length = 0) : szF (d + 1) x = 1 ∧ Few (d + 1) x := by
  have e : x.l = [] := List.length_eq_zero_iff.1 h
  constructor
  · show 1 + (x.l.map (szF d)).sum = 1
    rw [e]; rfl
  · exact ⟨by rw [h]; omega, fun y hy => by rw [e] at hy; cases hy⟩

theorem part_ok3 (d : Nat) (hE : ∀ m, rightE d m = true → Ok3 (d + 1) m) (k : Kd) (x : Nd) (h : partOk (rightE d) k x = true) : Ok3 (d + 1) x := by
  cases k
  · exact hE x h
  · have h : (x.op == wNum && x.s == [] && numOk x.n && decide (x.l.length = 0)) = true := h
    simp only [Bool.and_eq_true, beq_iff_eq, decide_eq_true_eq] at h
    obtain ⟨⟨⟨h1, h2⟩, h3⟩, h4⟩ := h
    obtain ⟨s1, s2⟩ := leaf_sz d h4
    have hn : ¬ (x.op = wUse ∨ x.op = wName) := by rw [h1]; decide
    have he : textE (d + 1) x = Lib.itoa x.n := (if_neg hn).trans (if_pos h1)
    refine ⟨.inr (.inl ⟨hn, h1, h3⟩), .inr (.inl ⟨hn, h1, h3⟩), fun _ => s2, ?_⟩
    rw [he, s1]
    have := itoa_len h3
    omega
  · have h : (x.op == wName && hasNm x.s && decide (x.n = 0) && decide (x.l.length = 0)) = true := h
    simp only [Bool.and_eq_true, beq_iff_eq, decide_eq_true_eq] at h
    obtain ⟨⟨⟨h1, h2⟩, h3⟩, h4⟩ := h
    obtain ⟨s1, s2⟩ := leaf_sz d h4
    have he : textE (d + 1) x = x.s := if_pos (.inr h1)
    refine ⟨.inl (.inr h1), .inl (.inr h1), fun _ => s2, ?_⟩
    rw [he, s1]
    have := nm_len h2
    omega

theorem expr_ok3 (d : Nat) : ∀ m, rightE d m = true → Ok3 (d + 1) m := by
  induction d with
  | zero => intro m h; cases h
  | succ d ih =>
    intro m h
    rw [re_eq, Bool.and_eq_true] at h
    obtain ⟨_, h⟩ := h
    by_cases ho : m.op = wUse
    · rw [if_pos ho, Bool.and_eq_true] at h
      obtain ⟨s1, s2⟩ := leaf_sz (d + 1) (by simpa using h.2 : m.l.length = 0)
      have he : textE (d + 2) m = m.s := if_pos (.inl ho)
      refine ⟨.inl (.inl ho), .inl (.inl ho), fun _ => s2, ?_⟩
      rw [he, s1]
      have := nm_len h.1
      omega
    · rw [if_neg ho, Bool.and_eq_true] at h
      obtain ⟨hks, hp⟩ := parts_mem h.2
      obtain ⟨o1, o2, o3, o4, o5⟩ := op_len hks
      have hn : ¬ (m.op = wUse ∨ m.op = wName) := by rintro (e | e); exact o2 e; exact o3 e
      have hk : ∀ x ∈ m.l, Ok3 (d + 1) x := fun x hx => by
        obtain ⟨k, hk⟩ := hp x hx
        exact part_ok3 d ih k x hk
      have hsz : szF (d + 1 + 1) m = 1 + (m.l.map (szF (d + 1))).sum := rfl
      have he : textE (d + 2) m = m.op ++ [40] ++ Lib.join (m.l.map (textE (d + 1))) [44, 32] ++ [41] := (if_neg hn).trans (if_neg o4)
      refine ⟨.inr (.inr ⟨hn, o4, fun x hx => (hk x hx).1⟩), .inr (.inr ⟨hn, o4, o5, fun x hx => (hk x hx).2.1⟩), fun hs => ⟨?_, fun x hx => (hk x hx).2.2.1 ?_⟩, ?_⟩
      · have := sum_len d m.l; omega
      · have := sum_mem (List.mem_map_of_mem (f := szF (d + 1)) hx); omega
      · have := join_len m.l (textE (d + 1)) (szF (d + 1)) (fun x hx => (hk x hx).2.2.2)
        rw [he]
        simp only [List.length_append, List.length_cons, List.length_nil]
        omega

/-- A right statement's line. -/
theorem stmt_ok {x : Nd} (h : rightS x = true) (hs : szF 14 x ≤ 300) : LnOk x ∧ LnR x ∧ (lineS x).length ≤ 240 * szF 14 x := by
  have hnm : hasNm x.s = true := by unfold rightS at h; rw [Bool.and_eq_true] at h; exact h.1
  have hsl := nm_len hnm
  have hpos : 1 ≤ szF 14 x := sz_pos 13 x
  have hw := stmt_word h
  have hline : (lineS x).length = x.op.length + 1 + x.s.length + (lineR x).length + 2 := by unfold lineS; simp only [List.length_append, List.length_cons, List.length_nil]
  rcases hw with ho | ho | ho | ho | ho | ho
  case inl | inr.inl =>
    have h := h
    rw [rs_dev hnm (by first | exact .inl ho | exact .inr ho), Bool.and_eq_true] at h
    have e : lineR x = 32 :: Lib.itoa x.n := if_pos (by first | exact .inl ho | exact .inr ho)
    have hi := itoa_len h.1
    refine ⟨⟨by omega, fun _ => h.1, fun k => ?_, fun k => ?_⟩, ⟨by rw [ho]; simp, fun _ => h.1, fun k => ?_, fun k => ?_⟩, ?_⟩
    · exfalso; rw [ho] at k; exact absurd k (by decide)
    · exfalso; rw [ho] at k; exact absurd k (by decide)
    · exfalso; rw [ho] at k; exact absurd k (by decide)
    · exfalso; rw [ho] at k; exact absurd k (by decide)
    · rw [hline, e, ho]
      simp only [List.length_cons]
      show (_ : Nat) ≤ _
      have h8 : wDevice.length ≤ 8 ∧ wJournal.length ≤ 8 := by decide
      omega
  case inr.inr.inl | inr.inr.inr.inl =>
    have h := h
    rw [rs_key hnm (by first | exact .inl ho | exact .inr ho), Bool.and_eq_true, Bool.and_eq_true] at h
    have hl1 : x.l.length = 1 := by simpa using h.1.2
    obtain ⟨m, hm⟩ := List.length_eq_one_iff.1 hl1
    have hn0 : nth x.l 0 = m := by rw [hm]; rfl
    have hh := h.2
    rw [hn0] at hh
    unfold hexOk at hh
    simp only [Bool.and_eq_true, beq_iff_eq] at hh
    have hml := hx_len hh.1.1.2
    have e : lineR x = [32, 36] ++ (nth x.l 0).s := (if_neg (by rw [ho]; decide)).trans (if_pos (by first | exact .inl ho | exact .inr ho))
    refine ⟨⟨by omega, fun k => ?_, fun _ => ⟨m, hm, by omega⟩, fun k => ?_⟩, ⟨by rw [ho]; simp, fun k => ?_, fun _ => ⟨hl1, by rw [hn0]; exact hh.1.1.1⟩, fun k => ?_⟩, ?_⟩
    · exfalso; rw [ho] at k; exact absurd k (by decide)
    · exfalso; rw [ho] at k; exact absurd k (by decide)
    · exfalso; rw [ho] at k; exact absurd k (by decide)
    · exfalso; rw [ho] at k; exact absurd k (by decide)
    · rw [hline, e, hn0, ho]
      simp only [List.length_append, List.length_cons, List.length_nil]
      have h8 : wKey.length ≤ 8 ∧ wRoot.length ≤ 8 := by decide
      omega
  case inr.inr.inr.inr.inl =>
    have h := h
    rw [rs_vol hnm ho, Bool.and_eq_true, Bool.and_eq_true] at h
    have hl1 : x.l.length = 1 := by simpa using h.1.2
    obtain ⟨m, hm⟩ := List.length_eq_one_iff.1 hl1
    have hn0 : nth x.l 0 = m := by rw [hm]; rfl
    have hr := h.2
    rw [hn0] at hr
    obtain ⟨t1, t2, t3, t4⟩ : Ok3 13 m := expr_ok3 12 m hr
    have hsz : szF 14 x = 1 + szF 13 m := by
      show 1 + (x.l.map (szF 13)).sum = _
      rw [hm]; simp
    have e : lineR x = [32, 61, 32] ++ textE 13 (nth x.l 0) := (if_neg (by rw [ho]; decide)).trans ((if_neg (by rw [ho]; decide)).trans (if_pos ho))
    refine ⟨⟨by omega, fun k => ?_, fun k => ?_, fun _ => ⟨m, hm, t1, by omega, t3 (by omega)⟩⟩, ⟨by rw [ho]; simp, fun k => ?_, fun k => ?_, fun _ => ⟨hl1, by rw [hn0]; exact t2, by rw [hn0]; exact t3 (by omega)⟩⟩, ?_⟩
    · exfalso; rw [ho] at k; exact absurd k (by decide)
    · exfalso; rw [ho] at k; exact absurd k (by decide)
    · exfalso; rw [ho] at k; exact absurd k (by decide)
    · exfalso; rw [ho] at k; exact absurd k (by decide)
    · rw [hline, e, hn0, ho]
      simp only [List.length_append, List.length_cons, List.length_nil]
      have h8 : wVolume.length ≤ 8 := by decide
      omega
  case inr.inr.inr.inr.inr =>
    have e : (lineR x).length ≤ 9 := by
      have : lineR x = if x.op = wExport ∧ x.n = 1 then 32 :: wReadonly else [] := (if_neg (by rw [ho]; decide)).trans ((if_neg (by rw [ho]; decide)).trans (if_neg (by rw [ho]; decide)))
      rw [this]
      split
      · decide
      · simp
    refine ⟨⟨by omega, fun k => ?_, fun k => ?_, fun k => ?_⟩, ⟨by rw [ho]; simp, fun k => ?_, fun k => ?_, fun k => ?_⟩, ?_⟩
    · exfalso; rw [ho] at k; exact absurd k (by decide)
    · exfalso; rw [ho] at k; exact absurd k (by decide)
    · exfalso; rw [ho] at k; exact absurd k (by decide)
    · exfalso; rw [ho] at k; exact absurd k (by decide)
    · exfalso; rw [ho] at k; exact absurd k (by decide)
    · exfalso; rw [ho] at k; exact absurd k (by decide)
    · rw [hline, ho]
      have h8 : wExport.length ≤ 8 := by decide
      omega

theorem lines_len (l : List Nd) (h : ∀ x ∈ l, (lineS x).length ≤ 240 * szF 14 x) : (l.flatMap lineS).length ≤ 240 * (l.map (szF 14)).sum := by
  induction l with
  | nil => simp
  | cons x l ih =>
    have h1 := h x (by simp)
    have h2 := ih (fun y hy => h y (by simp [hy]))
    rw [List.flatMap_cons, List.length_append, List.map_cons, List.sum_cons]
    omega

theorem right_ok {n : Nd} (h : Right n = true) (hs : ∀ f, szF f n ≤ 300) : (∀ x ∈ n.l, LnOk x) ∧ (∀ x ∈ n.l, LnR x) ∧ (printed n).length ≤ 100000 := by
  have hall : ∀ x ∈ n.l, rightS x = true := by
    unfold Right at h
    simp only [Bool.and_eq_true] at h
    exact List.all_eq_true.1 h.1.1.1
  have hz : 1 + (n.l.map (szF 14)).sum ≤ 300 := hs 15
  have each : ∀ x ∈ n.l, LnOk x ∧ LnR x ∧ (lineS x).length ≤ 240 * szF 14 x := fun x hx => stmt_ok (hall x hx) (by have := sum_mem (List.mem_map_of_mem (f := szF 14) hx); omega)
  refine ⟨fun x hx => (each x hx).1, fun x hx => (each x hx).2.1, ?_⟩
  have := lines_len n.l (fun x hx => (each x hx).2.2)
  unfold printed
  omega
end Go.Proofs.YtpckmllmjdafpaaGreatDoor
