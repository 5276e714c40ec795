/- Texts that the statements of this stage share, joined. -/
import Derived.Test.YthndifegfmjpbaaGreatDoorJoint27
import Derived.Test.YthndifegfmjpbaaGreatDoorJoint09
import Derived.Test.YthndifegfmjpbaaGreatDoorJoint24
import Derived.Test.YthndifegfmjpbaaGreatDoorJoint20
import Derived.Test.YthndifegfmjpbaaGreatDoorJoint25
namespace Go.Proofs.YthndifegfmjpbaaGreatDoor
set_option linter.unusedVariables false
set_option maxRecDepth 100000
set_option maxHeartbeats 40000000
section
open Go.ChangeShapes Go.WideShapes Go.ChangeAt Go.RowKit Go.MapKept
variable {E : Nat → Prop}
structure ExS (n : Nd) : Prop where
 shape : ShapeOk n (kidsOf n).length
 word : n.op = wLinear ∨ (n.op = wConcat ∨ n.op = wMirror) ∨ n.op = wSnapshot ∨ (n.op = wCrypt ∨ n.op = wIntegrity ∨ n.op = wVerity)
 lin : n.op = wLinear → n.l.length = 3 ∧ (0 ≤ (nth n.l 1).n ∧ (nth n.l 1).n ≤ 999999999) ∧ (0 ≤ (nth n.l 2).n ∧ (nth n.l 2).n ≤ 999999999)
 snap : n.op = wSnapshot → n.l.length = 3 ∧ (0 ≤ (nth n.l 2).n ∧ (nth n.l 2).n ≤ 999999999)
 sec : (n.op = wCrypt ∨ n.op = wIntegrity ∨ n.op = wVerity) → 2 ≤ n.l.length
 few : n.l.length ≤ 80000
inductive ExR : Nat → Nd → Prop where
 | use (d : Nat) (n : Nd) : n.op = wUse → ExR (d + 1) n
 | mk (d : Nat) (n : Nd) : n.op ≠ wUse → ExS n → (∀ x ∈ kidsOf n, ExR d x) → ExR (d + 1) n
theorem ExR.ok {d : Nat} {n : Nd} (h : ExR d n) : ExOk d n := by
 induction h with
 | use d n e => exact .use d n e
 | mk d n e hs _ ih => exact .mk d n e hs.shape ih
def XRes (E : Nat → Prop) (w : World) (cb : Nat) (V : CV) (c : Ck) (R : Except Er (Nat × List Pt)) (e : Ending) (w' : World) : Prop := Onl (V.own cb) w w' ∧ match R with
 | .error (ec, ek) => e = .panicked (cflt ec ek)
 | .ok (k, ps) => e = .returned (.int .i64 (k : Nat)) ∧ ∃ V', CkAt (fun g => E g ∨ w.heap.size ≤ g) w' cb V' { c with parts := ps } ∧ Stp cb V w V' w'
def ExprC (cb : Nat) (w0 : World) (d : Nat) : Prop := ∀ (E : Nat → Prop) (w : World) (V : CV) (c : Ck) (n : Nd) (A : Option Addr) (C : Nat), CkAt E w cb V c → RdN w0 n A C → w0.heap.size ≤ cb - 1 → Below w0.heap.size w0 w → ExR d n → NmOk c.names c.parts → (∀ x ∈ c.names, x.2.bytes.length ≤ 1000) →
 Calls Tryz.prog 120 #[.pointer (some ⟨cb, 0, none⟩), .agg (ndc n (.slice A n.l.length C))] w (XRes E w cb V c (cexpr c.names d c.parts n))
theorem Stp.grown {cb : Nat} {V V5 : CV} {W1 w5 w6 : World} {v : Value} (s : Stp cb V W1 V5 w5) (hg : w5.grownBy w6 v.ownBlock) (hv : ∀ g, v.ownBlock = some g → W1.heap.size ≤ g) : Stp cb V W1 V5 w6 :=
 ⟨⟨hg.os.trans s.only.os, hg.tape.trans s.only.tape, hg.output.trans s.only.output, Nat.le_trans s.only.size hg.size, fun k hk hn => (hg.block k (Nat.lt_of_lt_of_le hk s.only.size) (fun e => by have := hv k e.symm; omega)).trans (s.only.block k hk hn)⟩, s.new⟩
theorem CkAt.grown {w w6 : World} {cb : Nat} {V : CV} {c : Ck} {v : Value} (h : CkAt E w cb V c) (hg : w.grownBy w6 v.ownBlock) (hn : ∀ g, v.ownBlock = some g → ¬ V.own cb g) (hE : ∀ g, E g → v.ownBlock ≠ some g) : CkAt E w6 cb V c := by
 have hk : ∀ k, k < w.heap.size → (¬ V.own cb k ∧ E k) → w6.heap[k]? = w.heap[k]? ∧ (¬ V.own cb k ∧ E k) := fun k hk hh => ⟨hg.block k hk (fun e => hE k hh.2 e.symm), hh⟩
 have kept : ∀ {k : Nat} {o : Obj}, V.own cb k → w.heap[k]? = some o → w6.heap[k]? = some o := fun {k o} ho hh => (hg.block k (Array.getElem?_eq_some_iff.1 hh).1 (fun e => hn k e.symm ho)).trans hh
 obtain ⟨us, e1, r1, i1⟩ := h.prts
 obtain ⟨ms, e2, r2, i2⟩ := h.nms
 exact ⟨kept (.inl rfl) h.has, row_grown h.devs (fun g o e ho => kept (.inr (.inl e)) ho), row_grown h.only (fun g o e ho => kept (.inr (.inr (.inr (.inl e)))) ho), ⟨us, e1, row_grown r1 (fun g o e ho => kept (.inr (.inr (.inl e))) ho), fun i a b => (i1 i a b).keep hg.size hk⟩, ⟨ms, e2, kept (.inr (.inr (.inr (.inr rfl)))) r2, fun i a b => (i2 i a b).keep hg.size hk⟩, h.uniq, h.mlt, h.few⟩
theorem kids_snoc (l : List Nd) {i : Nat} (h : i < l.length) : (l.take (i + 1)).filter (fun x => !(x.op == wNum || x.op == wName)) = (l.take i).filter (fun x => !(x.op == wNum || x.op == wName)) ++ (if (l[i].op == wNum || l[i].op == wName) = true then [] else [l[i]]) := by
 rw [List.take_succ_eq_append_getElem h, List.filter_append]
 cases hb : (l[i].op == wNum || l[i].op == wName) <;> simp only [List.filter_cons, List.filter_nil, hb, Bool.not_false, Bool.not_true, if_true, Bool.false_eq_true, if_false]
theorem ckids_snoc (f : List Pt → Nd → Except Er (Nat × List Pt)) (x : Nd) : ∀ (l : List Nd) (ps : List Pt), ckids f ps (l ++ [x]) = match ckids f ps l with
  | .error e => .error e
  | .ok (ks, p1) => match f p1 x with
    | .error e => .error e
    | .ok (k, p2) => .ok (ks ++ [k], p2) := by
 intro l
 induction l with
 | nil =>
   intro ps
   simp only [List.nil_append, ckids]
   cases f ps x with
   | error e => rfl
   | ok r => obtain ⟨k, p2⟩ := r; rfl
 | cons y l ih =>
   intro ps
   simp only [List.cons_append, ckids]
   cases f ps y with
   | error e => rfl
   | ok r =>
     obtain ⟨k, p1⟩ := r
     simp only [ih]
     cases ckids f p1 l with
     | error e => rfl
     | ok r2 =>
       obtain ⟨ks, p2⟩ := r2
       simp only
       cases f p2 x with
       | error e => rfl
       | ok r3 => obtain ⟨k3, p3⟩ := r3; rfl
theorem ckids_len (f : List Pt → Nd → Except Er (Nat × List Pt)) : ∀ (l : List Nd) (ps : List Pt) (ks : List Nat) (p1 : List Pt), ckids f ps l = .ok (ks, p1) → ks.length = l.length := by
 intro l
 induction l with
 | nil => intro ps ks p1 h; cases h; rfl
 | cons y l ih =>
   intro ps ks p1 h
   simp only [ckids] at h
   cases hf : f ps y with
   | error e => rw [hf] at h; cases h
   | ok q =>
     obtain ⟨k, p2⟩ := q
     rw [hf] at h
     simp only at h
     cases hc : ckids f p2 l with
     | error e => rw [hc] at h; cases h
     | ok q2 =>
       obtain ⟨ks2, p3⟩ := q2
       rw [hc] at h
       cases h
       simp [ih p2 ks2 _ hc]
theorem ckids_err (f : List Pt → Nd → Except Er (Nat × List Pt)) (l r : List Nd) (ps : List Pt) (e : Er) (h : ckids f ps l = .error e) : ckids f ps (l ++ r) = .error e := by
 induction l generalizing ps with
 | nil => cases h
 | cons y l ih =>
   simp only [List.cons_append, ckids] at h ⊢
   cases hf : f ps y with
   | error e' => rw [hf] at h; exact h
   | ok q =>
     obtain ⟨k, p1⟩ := q
     rw [hf] at h
     simp only at h ⊢
     cases hc : ckids f p1 l with
     | error e' => rw [hc] at h; cases h; rw [ih p1 hc]
     | ok q2 => rw [hc] at h; cases h
end
section
inductive Lim : Nd → Prop where
 | mk (n : Nd) : n.l.length ≤ 80000 → (∀ x ∈ n.l, Lim x) → Lim n
theorem Lim.len {n : Nd} (h : Lim n) : n.l.length ≤ 80000 := by cases h; assumption
theorem Lim.all {n : Nd} (h : Lim n) : ∀ x ∈ n.l, Lim x := by cases h; assumption
theorem parts_shape {re : Nd → Bool} {n : Nd} (h : partsOk re n = true) : 0 < (inside n.op).1.length ∧ (inside n.op).1.length ≤ n.l.length ∧ ((inside n.op).2 = false → n.l.length = (inside n.op).1.length) ∧ ∀ i, i < n.l.length → partOk re (kdAt (inside n.op).1 i) (nth n.l i) = true := by
 unfold partsOk fits at h
 simp only [Bool.and_eq_true, Bool.not_eq_true', decide_eq_false_iff_not, Bool.and_eq_false_iff, Bool.not_eq_false', List.all_eq_true] at h
 obtain ⟨⟨⟨h1, h2⟩, h3⟩, h4⟩ := h
 refine ⟨by omega, by omega, fun e => ?_, fun i hi => h4 i (List.mem_range.2 hi)⟩
 rcases h3 with q | q
 · omega
 · rw [e] at q; cases q
theorem inside_word {op : List UInt8} (h : 0 < (inside op).1.length) : op = wLinear ∨ (op = wConcat ∨ op = wMirror) ∨ op = wSnapshot ∨ (op = wCrypt ∨ op = wIntegrity ∨ op = wVerity) := by
 unfold inside at h
 by_cases e1 : op = wLinear
 · exact .inl e1
 · by_cases e2 : op = wConcat ∨ op = wMirror
   · exact .inr (.inl e2)
   · by_cases e3 : op = wSnapshot
     · exact .inr (.inr (.inl e3))
     · by_cases e4 : op = wCrypt ∨ op = wIntegrity ∨ op = wVerity
       · exact .inr (.inr (.inr e4))
       · rw [if_neg e1, if_neg e2, if_neg e3, if_neg e4] at h
         exact absurd h (by decide)
theorem word_ne {op : List UInt8} (h : op = wUse ∨ 0 < (inside op).1.length) : (op == wNum || op == wName) = false := by
 rcases h with h | h
 · rw [h]; decide
 · rcases inside_word h with h | (h | h) | h | h | h | h <;> rw [h] <;> decide
theorem rightE_parts {d : Nat} {n : Nd} (h : rightE (d + 1) n = true) (hu : n.op ≠ wUse) : partsOk (rightE d) n = true := by
 unfold rightE at h
 rw [if_neg hu] at h
 simp only [Bool.and_eq_true] at h
 exact h.2.2
theorem rightE_ne {d : Nat} {n : Nd} (h : rightE d n = true) : (n.op == wNum || n.op == wName) = false := by
 cases d with
 | zero => cases h
 | succ d =>
   by_cases hu : n.op = wUse
   · exact word_ne (.inl hu)
   · exact word_ne (.inr (parts_shape (rightE_parts h hu)).1)
theorem nu_ok {re : Nd → Bool} {x : Nd} (h : partOk re .nu x = true) : (x.op == wNum || x.op == wName) = true ∧ 0 ≤ x.n ∧ x.n ≤ 999999999 := by
 unfold partOk numOk at h
 simp only [Bool.and_eq_true, decide_eq_true_eq] at h
 exact ⟨by rw [h.1.1.1]; rfl, h.1.2.1, h.1.2.2⟩
theorem na_ok {re : Nd → Bool} {x : Nd} (h : partOk re .na x = true) : (x.op == wNum || x.op == wName) = true := by
 unfold partOk at h
 simp only [Bool.and_eq_true, decide_eq_true_eq] at h
 rw [h.1.1.1, Bool.or_true]
theorem len3 {l : List Nd} (h : l.length = 3) : l = [nth l 0, nth l 1, nth l 2] := by
 match l, h with
 | [a, b, c], _ => rfl
theorem len2 {l : List Nd} (h : l.length = 2) : l = [nth l 0, nth l 1] := by
 match l, h with
 | [a, b], _ => rfl
theorem kids_of {n : Nd} : kidsOf n = n.l.filter fun x => !(x.op == wNum || x.op == wName) := rfl
theorem parts_exs {d : Nat} {n : Nd} (h : partsOk (rightE d) n = true) (hl : n.l.length ≤ 80000) : ExS n ∧ ∀ x ∈ kidsOf n, rightE d x = true := by
 obtain ⟨h1, h2, h3, h4⟩ := parts_shape h
 rcases inside_word h1 with ho | ho | ho | ho
 · have hi : inside n.op = ([.ex, .nu, .nu], false) := by rw [ho]; rfl
   rw [hi] at h3 h4
   have hl3 : n.l.length = 3 := h3 rfl
   have p0 : rightE d (nth n.l 0) = true := h4 0 (by omega)
   have p1 := nu_ok (h4 1 (by omega))
   have p2 := nu_ok (h4 2 (by omega))
   have hk : kidsOf n = [nth n.l 0] := by
    rw [kids_of]
    generalize hy : n.l = y at *
    rw [len3 hl3]
    simp only [List.filter_cons, List.filter_nil, rightE_ne p0, p1.1, p2.1, Bool.not_true, Bool.not_false, if_true, Bool.false_eq_true, if_false]
    rfl
   have e1 : n.op ≠ wConcat := by rw [ho]; decide
   have e2 : n.op ≠ wMirror := by rw [ho]; decide
   have e3 : n.op ≠ wSnapshot := by rw [ho]; decide
   refine ⟨⟨⟨by rw [hk]; simp, fun _ => ⟨by rw [hk]; rfl, p1.2.1, p2.2.1⟩, fun _ => by rw [hk]; rfl, fun e => absurd e e3⟩, .inl ho, fun _ => ⟨hl3, p1.2, p2.2⟩, fun e => absurd e e3, fun e => ?_, hl⟩, ?_⟩
   · rw [ho] at e
     rcases e with e | e | e <;> exact absurd e (by decide)
   · rw [hk]; intro x hx; rw [List.mem_singleton.1 hx]; exact p0
 · have hi : inside n.op = ([.ex], true) := by rcases ho with ho | ho <;> rw [ho] <;> rfl
   rw [hi] at h2 h4
   have hall : ∀ x ∈ n.l, rightE d x = true := fun x hx => by
    obtain ⟨i, hi, rfl⟩ := List.getElem_of_mem hx
    have := h4 i hi
    rw [nth_get hi] at this
    have hkd : kdAt [.ex] i = .ex := by
     unfold kdAt
     rw [show min i ([Kd.ex].length - 1) = 0 by simp]
     rfl
    rw [hkd] at this
    exact this
   have hk : kidsOf n = n.l := by
    rw [kids_of, List.filter_eq_self]
    intro x hx
    rw [rightE_ne (hall x hx)]; rfl
   have h2' : 1 ≤ n.l.length := h2
   refine ⟨⟨⟨by rw [hk]; exact h2', fun e => ?_, fun e => ?_, fun e => ?_⟩, .inr (.inl ho), fun e => ?_, fun e => ?_, fun e => ?_, hl⟩, by rw [hk]; exact hall⟩
   · rcases ho with ho | ho <;> rw [ho] at e <;> exact absurd e (by decide)
   · rcases ho with ho | ho
     · exact absurd ho e.1
     · exact absurd ho e.2.1
   · rcases ho with ho | ho <;> rw [ho] at e <;> exact absurd e (by decide)
   · rcases ho with ho | ho <;> rw [ho] at e <;> exact absurd e (by decide)
   · rcases ho with ho | ho <;> rw [ho] at e <;> exact absurd e (by decide)
   · rcases ho with ho | ho <;> rw [ho] at e <;> rcases e with e | e | e <;> exact absurd e (by decide)
 · have hi : inside n.op = ([.ex, .ex, .nu], false) := by rw [ho]; rfl
   rw [hi] at h3 h4
   have hl3 : n.l.length = 3 := h3 rfl
   have p0 : rightE d (nth n.l 0) = true := h4 0 (by omega)
   have p1 : rightE d (nth n.l 1) = true := h4 1 (by omega)
   have p2 := nu_ok (h4 2 (by omega))
   have hk : kidsOf n = [nth n.l 0, nth n.l 1] := by
    rw [kids_of]
    generalize hy : n.l = y at *
    rw [len3 hl3]
    simp only [List.filter_cons, List.filter_nil, rightE_ne p0, rightE_ne p1, p2.1, Bool.not_true, Bool.not_false, if_true, Bool.false_eq_true, if_false]
    rfl
   have e1 : n.op ≠ wLinear := by rw [ho]; decide
   refine ⟨⟨⟨by rw [hk]; simp, fun e => absurd e e1, fun e => absurd ho e.2.2, fun _ => by rw [hk]; rfl⟩, .inr (.inr (.inl ho)), fun e => absurd e e1, fun _ => ⟨hl3, p2.2⟩, fun e => ?_, hl⟩, ?_⟩
   · rw [ho] at e
     rcases e with e | e | e <;> exact absurd e (by decide)
   · rw [hk]; intro x hx
     rcases List.mem_cons.1 hx with e | e
     · rw [e]; exact p0
     · rw [List.mem_singleton.1 e]; exact p1
 · have hi : inside n.op = ([.ex, .na], false) := by rcases ho with ho | ho | ho <;> rw [ho] <;> rfl
   rw [hi] at h3 h4
   have hl2 : n.l.length = 2 := h3 rfl
   have p0 : rightE d (nth n.l 0) = true := h4 0 (by omega)
   have p1 := na_ok (h4 1 (by omega))
   have hk : kidsOf n = [nth n.l 0] := by
    rw [kids_of]
    generalize hy : n.l = y at *
    rw [len2 hl2]
    simp only [List.filter_cons, List.filter_nil, rightE_ne p0, p1, Bool.not_true, Bool.not_false, if_true, Bool.false_eq_true, if_false]
    rfl
   have e1 : n.op ≠ wLinear := by rcases ho with ho | ho | ho <;> rw [ho] <;> decide
   have e3 : n.op ≠ wSnapshot := by rcases ho with ho | ho | ho <;> rw [ho] <;> decide
   refine ⟨⟨⟨by rw [hk]; simp, fun e => absurd e e1, fun _ => by rw [hk]; rfl, fun e => absurd e e3⟩, .inr (.inr (.inr ho)), fun e => absurd e e1, fun e => absurd e e3, fun _ => by omega, hl⟩, ?_⟩
   rw [hk]; intro x hx; rw [List.mem_singleton.1 hx]; exact p0
theorem right_exr (d : Nat) : ∀ {n : Nd}, rightE d n = true → Lim n → ExR d n := by
 induction d with
 | zero => intro n h; cases h
 | succ d ih =>
   intro n h hl
   by_cases hu : n.op = wUse
   · exact .use d n hu
   · obtain ⟨h1, h2⟩ := parts_exs (rightE_parts h hu) hl.len
     exact .mk d n hu h1 fun x hx => ih (h2 x hx) (hl.all x ((List.mem_filter.1 hx).1))
theorem hx_of {x : List UInt8} (h : hasHx x = true) : ∀ c ∈ x, isHxy c = true := by
 unfold hasHx at h
 cases ht : tok1 (36 :: x) with
 | none => rw [ht] at h; cases h
 | some t =>
   rw [ht] at h
   simp only [Bool.and_eq_true, beq_iff_eq] at h
   unfold tok1 at ht
   split at ht
   · rename_i t' hS
     cases ht
     have hg := ((Scan_len hS).2 t (by simp)).hex h.1
     rw [h.2] at hg
     exact hg.2.1
   · cases ht
structure StR (n : Nd) : Prop where
 word : n.op = wDevice ∨ n.op = wJournal ∨ n.op = wKey ∨ n.op = wRoot ∨ n.op = wVolume ∨ n.op = wExport
 num : (n.op = wDevice ∨ n.op = wJournal) → 0 ≤ n.n ∧ n.n ≤ 999999999
 key : (n.op = wKey ∨ n.op = wRoot) → n.l.length = 1 ∧ ∀ c ∈ (nth n.l 0).s, isHxy c = true
 vol : n.op = wVolume → n.l.length = 1 ∧ ExR 12 (nth n.l 0)
 exp : n.op = wExport → n.n = 0 ∨ n.n = 1
theorem right_str {n : Nd} (h : rightS n = true) (hl : Lim n) : StR n := by
 unfold rightS at h
 simp only [Bool.and_eq_true] at h
 obtain ⟨h1, h⟩ := h
 by_cases e1 : n.op = wDevice ∨ n.op = wJournal
 · rw [if_pos e1] at h
   unfold numOk at h
   simp only [Bool.and_eq_true, decide_eq_true_eq] at h
   refine ⟨by rcases e1 with e | e; exact .inl e; exact .inr (.inl e), fun _ => h.1, fun e => ?_, fun e => ?_, fun e => ?_⟩
   · rcases e1 with q | q <;> rw [q] at e <;> rcases e with e | e <;> exact absurd e (by decide)
   · rcases e1 with q | q <;> rw [q] at e <;> exact absurd e (by decide)
   · rcases e1 with q | q <;> rw [q] at e <;> exact absurd e (by decide)
 · rw [if_neg e1] at h
   by_cases e2 : n.op = wKey ∨ n.op = wRoot
   · rw [if_pos e2] at h
     unfold hexOk at h
     simp only [Bool.and_eq_true, decide_eq_true_eq] at h
     refine ⟨by rcases e2 with e | e; exact .inr (.inr (.inl e)); exact .inr (.inr (.inr (.inl e))), fun e => absurd e e1, fun _ => ⟨h.1.2, hx_of h.2.1.1.2⟩, fun e => ?_, fun e => ?_⟩
     · rcases e2 with q | q <;> rw [q] at e <;> exact absurd e (by decide)
     · rcases e2 with q | q <;> rw [q] at e <;> exact absurd e (by decide)
   · rw [if_neg e2] at h
     by_cases e3 : n.op = wVolume
     · rw [if_pos e3] at h
       simp only [Bool.and_eq_true, decide_eq_true_eq] at h
       have h0 : 0 < n.l.length := by omega
       refine ⟨.inr (.inr (.inr (.inr (.inl e3)))), fun e => absurd e e1, fun e => absurd e e2, fun _ => ⟨h.1.2, right_exr 12 h.2 (hl.all _ ?_)⟩, fun e => ?_⟩
       · show nth n.l 0 ∈ n.l
         rw [nth_get h0]
         exact List.getElem_mem h0
       · rw [e3] at e; exact absurd e (by decide)
     · rw [if_neg e3] at h
       by_cases e4 : n.op = wExport
       · rw [if_pos e4] at h
         simp only [Bool.and_eq_true, Bool.or_eq_true, decide_eq_true_eq] at h
         exact ⟨.inr (.inr (.inr (.inr (.inr e4)))), fun e => absurd e e1, fun e => absurd e e2, fun e => absurd e e3, fun _ => h.1⟩
       · rw [if_neg e4] at h
         cases h
end
section
def isDJ (x : Nd) : Bool := x.op == wDevice || x.op == wJournal
def isDv (x : Nd) : Bool := x.op == wDevice
theorem dv_t {x : Nd} (h : x.op = wDevice) : isDv x = true := by unfold isDv; rw [h]; decide
theorem dv_f {x : Nd} (h : x.op ≠ wDevice) : isDv x = false := by unfold isDv; rw [beq_eq_false_iff_ne]; exact h
theorem dj_t {x : Nd} (h : x.op = wDevice ∨ x.op = wJournal) : isDJ x = true := by unfold isDJ; rcases h with h | h <;> rw [h] <;> decide
theorem dj_f {x : Nd} (h : ¬ (x.op = wDevice ∨ x.op = wJournal)) : isDJ x = false := by
 unfold isDJ
 rw [show (x.op == wDevice) = false by rw [beq_eq_false_iff_ne]; exact fun e => h (.inl e), show (x.op == wJournal) = false by rw [beq_eq_false_iff_ne]; exact fun e => h (.inr e)]
 rfl
theorem disks_app (q r : List Nd) : ∀ d, disks d (q ++ r) = disks d q ++ disks (d + devN q) r := by
 induction q with
 | nil => intro d; simp [disks, devN]
 | cons y q ih =>
   intro d
   simp only [List.cons_append, disks, devN]
   by_cases h1 : y.op = wDevice
   · rw [if_pos h1, if_pos h1, if_pos (show y.op = wDevice ∨ y.op = wJournal from .inl h1), ih, List.cons_append, show d + 1 + devN q = d + (1 + devN q) by omega]
   · rw [if_neg h1, if_neg h1]
     by_cases h2 : y.op = wJournal
     · rw [if_pos h2, if_pos h2, if_pos (show y.op = wDevice ∨ y.op = wJournal from .inr h2), ih, show d + 1 + devN q = d + (1 + devN q) by omega]
     · rw [if_neg h2, if_neg h2, if_neg (show ¬ (y.op = wDevice ∨ y.op = wJournal) by simp [h1, h2]), ih, Nat.zero_add]
theorem disks_len (q : List Nd) : ∀ d, (disks d q).length = (q.filter isDv).length := by
 induction q with
 | nil => intro d; rfl
 | cons y q ih =>
   intro d
   simp only [disks, List.filter_cons]
   by_cases h1 : y.op = wDevice
   · rw [if_pos h1, if_pos (dv_t h1), List.length_cons, List.length_cons, ih]
   · rw [if_neg h1, dv_f h1]
     simp only [Bool.false_eq_true, if_false]
     by_cases h2 : y.op = wJournal
     · rw [if_pos h2, ih]
     · rw [if_neg h2, ih]
theorem devN_eq (q : List Nd) : devN q = (q.filter isDJ).length := by
 induction q with
 | nil => rfl
 | cons y q ih =>
   simp only [devN, List.filter_cons]
   by_cases h1 : y.op = wDevice ∨ y.op = wJournal
   · rw [if_pos h1, if_pos (dj_t h1), List.length_cons, ih, Nat.add_comm]
   · rw [if_neg h1, dj_f h1]
     simp only [Bool.false_eq_true, if_false]
     rw [ih, Nat.zero_add]
theorem disk_at {l q r : List Nd} {x : Nd} (hl : l = q ++ x :: r) (hx : x.op = wDevice) (rs : List Pt) : ptAt (disks 0 l ++ rs) (q.filter isDv).length = ⟨1, x.n.toNat, [], (q.filter isDJ).length, 0, 0, [], []⟩ ∧ (q.filter isDv).length < (disks 0 l ++ rs).length := by
 subst hl
 rw [disks_app, ← disks_len q 0, ← devN_eq, Nat.zero_add]
 have e : disks (devN q) (x :: r) = ⟨1, x.n.toNat, [], devN q, 0, 0, [], []⟩ :: disks (devN q + 1) r := by
  show (if x.op = wDevice then _ else _) = _
  rw [if_pos hx]
 rw [e, List.append_assoc, List.cons_append]
 exact ⟨part_mid _ _ _, by simp⟩
theorem cntN_snoc (ns : Nms) (x : List UInt8 × Mn) (ws : List (List UInt8)) : cntN (ns ++ [x]) ws = cntN ns ws + (if ws.any (fun y => x.2.word == y) = true then 1 else 0) := by
 unfold cntN
 rw [List.filter_append, List.length_append]
 congr 1
 simp only [List.filter_cons, List.filter_nil]
 split <;> rfl
theorem NmOk.snoc {ns : Nms} {ps : List Pt} (h : NmOk ns ps) {s : List UInt8} {m : Mn} (h1 : (m.word = wDevice ∨ m.word = wVolume) → NdOk ps m.node) (h2 : (m.word = wKey ∨ m.word = wRoot) → m.bytes.length = 32) : NmOk (ns ++ [(s, m)]) ps := fun x hx => by
 rcases List.mem_append.1 hx with q | q
 · exact h x q
 · rw [List.mem_singleton.1 q]
   exact ⟨h1, h2⟩
theorem unhex_half : ∀ (k : Nat) (x : List UInt8), x.length = 2 * k → (unhex x).length = k := by
 intro k
 induction k with
 | zero => intro x h; rw [List.length_eq_zero_iff.1 (by omega : x.length = 0)]; rfl
 | succ k ih =>
   intro x h
   match x, h with
   | a :: b :: r, h =>
     simp only [unhex, List.length_cons]
     rw [ih r (by simp at h; omega)]
theorem ckids_few {f : List Pt → Nd → Except Er (Nat × List Pt)} (hf : ∀ ps x k p1, f ps x = .ok (k, p1) → p1.length ≤ max 64 ps.length ∧ ps.length ≤ p1.length) (l : List Nd) : ∀ ps ks p1, ckids f ps l = .ok (ks, p1) → p1.length ≤ max 64 ps.length ∧ ps.length ≤ p1.length := by
 induction l with
 | nil => intro ps ks p1 h; cases h; exact ⟨by omega, Nat.le_refl _⟩
 | cons x l ih =>
   intro ps ks p1 h
   unfold ckids at h
   cases h1 : f ps x with
   | error e => rw [h1] at h; cases h
   | ok y =>
     obtain ⟨k, p2⟩ := y
     rw [h1] at h
     simp only at h
     cases h2 : ckids f p2 l with
     | error e => rw [h2] at h; cases h
     | ok z =>
       obtain ⟨ks2, p3⟩ := z
       rw [h2] at h
       cases h
       have := hf _ _ _ _ h1
       have := ih _ _ _ h2
       omega
theorem cexpr_few {ns : Nms} (d : Nat) : ∀ ps n k p1, cexpr ns d ps n = .ok (k, p1) → p1.length ≤ max 64 ps.length ∧ ps.length ≤ p1.length := by
 induction d with
 | zero => intro ps n k p1 h; cases h
 | succ d ih =>
   intro ps n k p1 h
   unfold cexpr at h
   by_cases hu : n.op = wUse
   · rw [if_pos hu] at h
     cases hk : known ns n [wDevice, wVolume] with
     | error e => rw [hk] at h; cases h
     | ok m => rw [hk] at h; cases h; exact ⟨by omega, Nat.le_refl _⟩
   · rw [if_neg hu] at h
     cases hc : ckids (cexpr ns d) ps (kidsOf n) with
     | error e => rw [hc] at h; cases h
     | ok y =>
       obtain ⟨ks, p2⟩ := y
       rw [hc] at h
       simp only at h
       have hb := ckids_few ih _ _ _ _ hc
       split at h
       · cases h
       · cases hp : cpart ns p2 n ks with
         | error e => rw [hp] at h; cases h
         | ok p =>
           rw [hp] at h
           cases h
           rw [List.length_append, List.length_singleton]
           omega
structure Inv0 (l D : List Nd) (nv nq : Nat) (c : Ck) : Prop where
 devs : c.devs = D.map (fun x => x.n.toNat)
 dev : cntN c.names [wDevice] = nv
 dj : cntN c.names [wDevice, wJournal] = D.length
 le8 : D.length ≤ 8
 ok : ∀ x ∈ D, 1 ≤ x.n ∧ x.n ≤ 2048
 jour : ∀ j, c.jour = some j → ∃ y, D[j]? = some y ∧ y.op = wJournal
 parts : ∃ rs, c.parts = disks 0 l ++ rs ∧ Grown' (disks 0 l) rs
 few : c.parts.length ≤ max 64 (disks 0 l).length
 nms : NmOk c.names c.parts
 byts : ∀ x ∈ c.names, x.2.bytes.length ≤ 1000
 expo : ∀ x, c.expo = some x → NdOk c.parts x
 uniq : c.names.Pairwise (fun x y => x.1 ≠ y.1)
 nlen : c.names.length ≤ nq
def Inv (l q : List Nd) (c : Ck) : Prop := Inv0 l (q.filter isDJ) (q.filter isDv).length q.length c
theorem Inv.start (l : List Nd) : Inv l [] (ck0 (disks 0 l)) :=
 ⟨rfl, rfl, rfl, (by decide), (fun x h => by cases h), (fun j h => by cases h), ⟨[], by simp [ck0], trivial⟩, (by show (disks 0 l).length ≤ _; omega), (fun x h => by cases h), (fun x h => by cases h), (fun x h => by cases h), List.Pairwise.nil, Nat.le_refl _⟩
theorem lk_none {ns : Nms} {s : List UInt8} (h : lk ns s = none) : ∀ x ∈ ns, x.1 ≠ s := fun x hx e => by
 unfold lk at h
 rw [Option.map_eq_none_iff, List.find?_eq_none] at h
 exact h x hx (by simp [e])
theorem uniq_snoc {ns : Nms} {s : List UInt8} (m : Mn) (h : ns.Pairwise (fun x y => x.1 ≠ y.1)) (hn : lk ns s = none) : (ns ++ [(s, m)]).Pairwise (fun x y => x.1 ≠ y.1) :=
 List.pairwise_append.2 ⟨h, List.pairwise_singleton _ _, fun a ha b hb => by rw [List.mem_singleton.1 hb]; exact lk_none hn a ha⟩
theorem Inv.step {l q r : List Nd} {x : Nd} {c c' : Ck} (hl : l = q ++ x :: r) (h : Inv l q c) (hx : StR x) (hs : cstmt c x = .ok c') : Inv l (q ++ [x]) c' := by
 have f1 : (q ++ [x]).filter isDJ = q.filter isDJ ++ (if isDJ x = true then [x] else []) := by
  rw [List.filter_append]; congr 1
  simp only [List.filter_cons, List.filter_nil]
 have f2 : ((q ++ [x]).filter isDv).length = (q.filter isDv).length + (if isDv x = true then 1 else 0) := by
  rw [List.filter_append, List.length_append]; congr 1
  simp only [List.filter_cons, List.filter_nil]
  split <;> rfl
 have hd0 : ptAt c.parts (q.filter isDv).length = ⟨1, x.n.toNat, [], (q.filter isDJ).length, 0, 0, [], []⟩ ∧ (q.filter isDv).length < c.parts.length ∨ x.op ≠ wDevice := by
  by_cases e : x.op = wDevice
  · obtain ⟨rs, e1, _⟩ := h.parts
    rw [e1]
    exact .inl (disk_at hl e rs)
  · exact .inr e
 unfold Inv at h ⊢
 rw [f1, f2, List.length_append, List.length_singleton]
 clear f1 f2 hl
 generalize q.filter isDJ = D at *
 generalize (q.filter isDv).length = nv at *
 generalize q.length = nq at *
 unfold cstmt at hs
 by_cases e0 : x.op = wExport
 · rw [if_pos e0] at hs
   have g1 : isDJ x = false := dj_f (by rw [e0]; decide)
   have g2 : isDv x = false := dv_f (by rw [e0]; decide)
   rw [g1, g2]
   simp only [Bool.false_eq_true, if_false, List.append_nil, Nat.add_zero]
   unfold cexport at hs
   split at hs
   · cases hs
   · cases hk : known c.names x [wDevice, wVolume] with
     | error e => rw [hk] at hs; cases hs
     | ok m =>
       rw [hk] at hs
       cases hs
       exact ⟨h.devs, h.dev, h.dj, h.le8, h.ok, h.jour, h.parts, h.few, h.nms, h.byts, (fun y hy => by cases hy; exact known_node h.nms hk), h.uniq, Nat.le_succ_of_le h.nlen⟩
 · rw [if_neg e0] at hs
   split at hs
   · cases hs
   · rename_i hlk
     have hlk : lk c.names x.s = none := by simpa using hlk
     split at hs
     · cases hs
     · rename_i hfull
       have hfull : full c.names x.op = false := by simpa using hfull
       unfold csaid at hs
       by_cases e1 : x.op = wJournal
       · have g1 : isDJ x = true := dj_t (.inr e1)
         have g2 : isDv x = false := dv_f (by rw [e1]; decide)
         have h8 : D.length ≠ 8 := by
          unfold full at hfull
          rw [if_pos (.inr e1)] at hfull
          rw [← h.dj]
          simpa using hfull
         have hle := h.le8
         rw [g1, g2]
         simp only [if_true, Bool.false_eq_true, if_false, Nat.add_zero]
         rw [if_pos e1] at hs
         by_cases hsz : 256 ≤ x.n ∧ x.n ≤ 2048
         · rw [if_neg (not_not_intro hsz)] at hs
           by_cases hj : c.jour.isSome = true
           · rw [if_pos hj] at hs; cases hs
           · rw [if_neg hj] at hs
             cases hs
             refine ⟨by show c.devs ++ [_] = _; rw [h.devs, List.map_append]; rfl, ?_, ?_, by simp; omega, fun y hy => ?_, fun j hj' => ?_, h.parts, h.few, h.nms.snoc (fun e => ?_) (fun e => ?_), fun y hy => ?_, h.expo, uniq_snoc _ h.uniq hlk, by simp [h.nlen]⟩
             · show cntN (c.names ++ [_]) _ = _
               rw [cntN_snoc, h.dev]
               simp only [e1]
               rfl
             · show cntN (c.names ++ [_]) _ = _
               rw [cntN_snoc, h.dj, List.length_append]
               simp only [e1]
               rfl
             · rcases List.mem_append.1 hy with q | q
               · exact h.ok y q
               · rw [List.mem_singleton.1 q]; omega
             · cases hj'
               refine ⟨x, ?_, e1⟩
               rw [h.devs, List.length_map, List.getElem?_append_right (Nat.le_refl _)]
               simp
             · rcases e with e | e
               · exact absurd (e1.symm.trans e) (by decide)
               · exact absurd (e1.symm.trans e) (by decide)
             · rcases e with e | e
               · exact absurd (e1.symm.trans e) (by decide)
               · exact absurd (e1.symm.trans e) (by decide)
             · rcases List.mem_append.1 hy with q | q
               · exact h.byts y q
               · rw [List.mem_singleton.1 q]; exact Nat.zero_le _
         · rw [if_pos hsz] at hs; cases hs
       · rw [if_neg e1] at hs
         by_cases e2 : x.op = wDevice
         · have g1 : isDJ x = true := dj_t (.inl e2)
           have g2 : isDv x = true := dv_t e2
           have h8 : D.length ≠ 8 := by
            unfold full at hfull
            rw [if_pos (.inl e2)] at hfull
            rw [← h.dj]
            simpa using hfull
           have hle := h.le8
           have hd : ptAt c.parts nv = ⟨1, x.n.toNat, [], D.length, 0, 0, [], []⟩ ∧ nv < c.parts.length := hd0.resolve_right (fun q => q e2)
           rw [g1, g2]
           simp only [if_true]
           rw [if_pos e2] at hs
           by_cases hsz : 1 ≤ x.n ∧ x.n ≤ 2048
           · rw [if_neg (not_not_intro hsz)] at hs
             cases hs
             refine ⟨by show c.devs ++ [_] = _; rw [h.devs, List.map_append]; rfl, ?_, ?_, by simp; omega, fun y hy => ?_, fun j hj' => ?_, h.parts, h.few, h.nms.snoc (fun e => ?_) (fun e => ?_), fun y hy => ?_, h.expo, uniq_snoc _ h.uniq hlk, by simp [h.nlen]⟩
             · show cntN (c.names ++ [_]) _ = _
               rw [cntN_snoc, h.dev]
               simp only [e2]
               rfl
             · show cntN (c.names ++ [_]) _ = _
               rw [cntN_snoc, h.dj, List.length_append]
               simp only [e2]
               rfl
             · rcases List.mem_append.1 hy with q | q
               · exact h.ok y q
               · rw [List.mem_singleton.1 q]; exact hsz
             · obtain ⟨y, hy, ho⟩ := h.jour j hj'
               exact ⟨y, by rw [List.getElem?_append_left (List.getElem?_eq_some_iff.1 hy).1]; exact hy, ho⟩
             · show NdOk c.parts (cntN c.names [wDevice])
               rw [h.dev]
               refine ⟨hd.2, ?_⟩
               unfold sz
               rw [hd.1]
               show 1 ≤ x.n.toNat ∧ x.n.toNat ≤ 8192
               omega
             · rcases e with e | e
               · exact absurd (e2.symm.trans e) (by decide)
               · exact absurd (e2.symm.trans e) (by decide)
             · rcases List.mem_append.1 hy with q | q
               · exact h.byts y q
               · rw [List.mem_singleton.1 q]; exact Nat.zero_le _
           · rw [if_pos hsz] at hs; cases hs
         · have g1 : isDJ x = false := dj_f (by simp [e1, e2])
           have g2 : isDv x = false := dv_f e2
           rw [g1, g2]
           simp only [Bool.false_eq_true, if_false, List.append_nil, Nat.add_zero]
           rw [if_neg e2] at hs
           have c1 : ∀ m : Mn, m.word = x.op → cntN (c.names ++ [(x.s, m)]) [wDevice] = nv := fun m hm => by
            rw [cntN_snoc, h.dev, if_neg (by simp [hm, e2])]; rfl
           have c2 : ∀ m : Mn, m.word = x.op → cntN (c.names ++ [(x.s, m)]) [wDevice, wJournal] = D.length := fun m hm => by
            rw [cntN_snoc, h.dj, if_neg (by simp [hm, e1, e2])]; rfl
           by_cases e3 : x.op = wKey ∨ x.op = wRoot
           · rw [if_pos e3] at hs
             by_cases hlen : (nthN x.l 0).s.length ≠ 64
             · rw [if_pos hlen] at hs; cases hs
             · rw [if_neg hlen] at hs
               cases hs
               have hun := unhex_half 32 (nthN x.l 0).s (by omega)
               refine ⟨h.devs, c1 _ rfl, c2 _ rfl, h.le8, h.ok, h.jour, h.parts, h.few, h.nms.snoc (fun e => ?_) (fun e => hun), fun y hy => ?_, h.expo, uniq_snoc _ h.uniq hlk, by simp [h.nlen]⟩
               · rcases e3 with e3 | e3 <;> rcases e with e | e <;> exact absurd (e3.symm.trans e) (by decide)
               · rcases List.mem_append.1 hy with q | q
                 · exact h.byts y q
                 · rw [List.mem_singleton.1 q]
                   show (unhex _).length ≤ 1000
                   omega
           · rw [if_neg e3] at hs
             have e4 : x.op = wVolume := by
              rcases hx.word with e | e | e | e | e | e
              · exact absurd e e2
              · exact absurd e e1
              · exact absurd (.inl e) e3
              · exact absurd (.inr e) e3
              · exact e
              · exact absurd e e0
             cases hc : cexpr c.names 12 c.parts (nthN x.l 0) with
             | error e => rw [hc] at hs; cases hs
             | ok y =>
               obtain ⟨k, ps⟩ := y
               rw [hc] at hs
               cases hs
               have hfw := cexpr_few 12 _ _ _ _ hc
               obtain ⟨rs, e5, hk, hg⟩ := cexpr_ok 12 h.nms ((hx.vol e4).2.ok) hc
               have hfew := h.few
               obtain ⟨rs0, e6, hg0⟩ := h.parts
               subst e5
               refine ⟨h.devs, c1 _ rfl, c2 _ rfl, h.le8, h.ok, h.jour, ⟨rs0 ++ rs, ?_, hg0.app (by rw [← e6]; exact hg)⟩, ?_, (h.nms.more rs).snoc (fun e => hk) (fun e => ?_), fun y hy => ?_, fun y hy => (h.expo y hy).more rs, uniq_snoc _ h.uniq hlk, by simp [h.nlen]⟩
               · show c.parts ++ rs = _
                 rw [e6, List.append_assoc]
               · show (c.parts ++ rs).length ≤ _
                 omega
               · rcases e with e | e <;> exact absurd (e4.symm.trans e) (by decide)
               · rcases List.mem_append.1 hy with q | q
                 · exact h.byts y q
                 · rw [List.mem_singleton.1 q]; exact Nat.zero_le _
theorem grown_get {rs : List Pt} : ∀ {ps : List Pt}, Grown' ps rs → ∀ i (h : i < rs.length), PtOk (ps ++ rs.take i) rs[i] := by
 induction rs with
 | nil => intro ps _ i h; cases h
 | cons p rs ih =>
   intro ps h i hi
   cases i with
   | zero => simpa using h.1
   | succ i =>
     have := ih h.2 i (by simpa using hi)
     simpa using this
theorem disk_mem {l : List Nd} : ∀ {d : Nat} {p : Pt}, p ∈ disks d l → ∃ j x, (l.filter isDJ)[j]? = some x ∧ x.op = wDevice ∧ p = ⟨1, x.n.toNat, [], d + j, 0, 0, [], []⟩ := by
 induction l with
 | nil => intro d p h; cases h
 | cons y l ih =>
   intro d p h
   simp only [disks] at h
   by_cases h1 : y.op = wDevice
   · rw [if_pos h1] at h
     have e : (y :: l).filter isDJ = y :: l.filter isDJ := by rw [List.filter_cons, if_pos (dj_t (.inl h1))]
     rw [e]
     rcases List.mem_cons.1 h with q | q
     · exact ⟨0, y, rfl, h1, q⟩
     · obtain ⟨j, x, a, b, c⟩ := ih q
       exact ⟨j + 1, x, by simpa using a, b, by rw [c]; simp; omega⟩
   · rw [if_neg h1] at h
     by_cases h2 : y.op = wJournal
     · rw [if_pos h2] at h
       have e : (y :: l).filter isDJ = y :: l.filter isDJ := by rw [List.filter_cons, if_pos (dj_t (.inr h2))]
       rw [e]
       obtain ⟨j, x, a, b, c⟩ := ih h
       exact ⟨j + 1, x, by simpa using a, b, by rw [c]; simp; omega⟩
     · rw [if_neg h2] at h
       have e : (y :: l).filter isDJ = l.filter isDJ := by rw [List.filter_cons, dj_f (by simp [h1, h2])]; rfl
       rw [e]
       exact ih h
theorem Inv.part {l : List Nd} {c : Ck} (h : Inv l l c) {i : Nat} (hi : i < c.parts.length) : (∃ j x, (l.filter isDJ)[j]? = some x ∧ x.op = wDevice ∧ c.parts[i] = ⟨1, x.n.toNat, [], j, 0, 0, [], []⟩ ∧ 1 ≤ x.n ∧ x.n ≤ 2048) ∨ PtOk (c.parts.take i) c.parts[i] := by
 obtain ⟨rs, e, hg⟩ := h.parts
 by_cases hd : i < (disks 0 l).length
 · left
   have hm : c.parts[i] ∈ disks 0 l := by
    simp only [e, List.getElem_append_left hd]
    exact List.getElem_mem hd
   obtain ⟨j, x, a, b, q⟩ := disk_mem hm
   rw [Nat.zero_add] at q
   exact ⟨j, x, a, b, q, h.ok x (List.mem_of_getElem? a)⟩
 · right
   have hr : i - (disks 0 l).length < rs.length := by rw [e, List.length_append] at hi; omega
   have := grown_get hg _ hr
   have e2 : c.parts.take i = disks 0 l ++ rs.take (i - (disks 0 l).length) := by rw [e, List.take_append, List.take_of_length_le (by omega)]
   have e3 : c.parts[i] = rs[i - (disks 0 l).length] := by simp only [e, List.getElem_append_right (Nat.le_of_not_lt hd)]
   rw [e2, e3]
   exact this
theorem sz_take {ps : List Pt} {i k : Nat} (h : NdOk (ps.take i) k) : k < i ∧ NdOk ps k := by
 have h1 := h.1
 rw [List.length_take] at h1
 have := h.more (ps.drop i)
 rw [List.take_append_drop] at this
 exact ⟨by omega, this⟩
theorem Inv.wf {l : List Nd} {c : Ck} (h : Inv l l c) : WfR c.parts := by
 refine ⟨fun i hi k hk => ?_, fun i hi => ?_, fun i hi => ?_, fun i hi e => ?_, fun i hi e => ?_, fun i hi => ?_, fun i hi => ?_⟩
 · rw [ptAt_get hi] at hk
   rcases h.part hi with ⟨j, x, _, _, q, _⟩ | q
   · rw [q] at hk; cases hk
   · exact (sz_take (q.kids k hk)).1
 · unfold sz
   rw [ptAt_get hi]
   rcases h.part hi with ⟨j, x, _, _, q, _⟩ | q
   · rw [q]; show x.n.toNat ≤ 8192; omega
   · exact q.hi
 · rw [ptAt_get hi]
   rcases h.part hi with ⟨j, x, _, _, q, _⟩ | q
   · rw [q]; exact Nat.zero_le _
   · have := q.fst; omega
 · rw [ptAt_get hi] at e ⊢
   rcases h.part hi with ⟨j, x, _, _, q, _⟩ | q
   · rw [q] at e; cases e
   · exact (q.snap e).1
 · rw [ptAt_get hi] at e ⊢
   rcases h.part hi with ⟨j, x, _, _, q, _⟩ | q
   · rw [q] at e; rcases e with e | e <;> cases e
   · rw [q.one (.inr (.inr e))]; exact Nat.le_refl _
 · rw [ptAt_get hi]
   rcases h.part hi with ⟨j, x, _, _, q, _⟩ | q
   · rw [q]; exact Nat.zero_le _
   · have := q.four; omega
 · rw [ptAt_get hi]
   rcases h.part hi with ⟨j, x, _, _, q, _⟩ | q
   · rw [q]; exact ⟨Nat.le_refl _, by show 1 ≤ 8; decide⟩
   · exact ⟨by have := q.kind; omega, q.kind.2⟩
end
section
open Go.ChangeShapes Go.WideShapes Go.ChangeAt Go.RowKit Go.MapKept
variable {E : Nat → Prop}
def SdRes (E : Nat → Prop) (w : World) (cb : Nat) (V : CV) (R : Except Er (Ck × Mn)) (e : Ending) (w' : World) : Prop := Onl (V.own cb) w w' ∧ match R with
 | .error (ec, ek) => e = .panicked (cflt ec ek)
 | .ok (c', m) => ∃ u V', e = .returned (mnv m u) ∧ MnIn w' (fun g => ¬ V'.own cb g ∧ (E g ∨ w.heap.size ≤ g)) m u ∧ CkAt (fun g => E g ∨ w.heap.size ≤ g) w' cb V' c' ∧ Stp cb V w V' w'
theorem CkAt.other {w : World} {cb : Nat} {V : CV} {c : Ck} (h : CkAt E w cb V c) (q : Addr) (hq : ¬ V.own cb q.block) (hE : ¬ E q.block) (v : Value) : CkAt E (w.setCell q v) cb V c := by
 have hk : ∀ k, k < w.heap.size → (¬ V.own cb k ∧ E k) → (w.setCell q v).heap[k]? = w.heap[k]? ∧ (¬ V.own cb k ∧ E k) := fun k hk hh => ⟨Below.heap_setCell w q v k (by rintro rfl; exact hE hh.2), hh⟩
 have kept : ∀ {k : Nat} {o : Obj}, V.own cb k → w.heap[k]? = some o → (w.setCell q v).heap[k]? = some o := fun {k o} ho hh => (Below.heap_setCell w q v k (by rintro rfl; exact hq ho)).trans hh
 obtain ⟨us, e1, r1, i1⟩ := h.prts
 obtain ⟨ms, e2, r2, i2⟩ := h.nms
 have hsz : w.heap.size ≤ (w.setCell q v).heap.size := by simp
 exact ⟨kept (.inl rfl) h.has, row_grown h.devs (fun g o e ho => kept (.inr (.inl e)) ho), row_grown h.only (fun g o e ho => kept (.inr (.inr (.inr (.inl e)))) ho), ⟨us, e1, row_grown r1 (fun g o e ho => kept (.inr (.inr (.inl e))) ho), fun i a b => (i1 i a b).keep hsz hk⟩, ⟨ms, e2, kept (.inr (.inr (.inr (.inr rfl)))) r2, fun i a b => (i2 i a b).keep hsz hk⟩, h.uniq, h.mlt, h.few⟩
theorem Stp.set {cb : Nat} {V V' : CV} {w w' : World} (s : Stp cb V w V' w') {q : Addr} (hq : w.heap.size ≤ q.block) (v : Value) : Stp cb V w V' (w'.setCell q v) := ⟨s.only.set (.inr hq) v, s.new⟩
theorem CkAt.other3 {w : World} {cb : Nat} {V : CV} {c : Ck} (h : CkAt E w cb V c) (g : Nat) (hq : ¬ V.own cb g) (hE : ¬ E g) (x0 x1 x2 : Value) : CkAt E (((w.setCell ⟨g, 0, none⟩ x0).setCell ⟨g, 1, none⟩ x1).setCell ⟨g, 2, none⟩ x2) cb V c := ((h.other ⟨g, 0, none⟩ hq hE x0).other ⟨g, 1, none⟩ hq hE x1).other ⟨g, 2, none⟩ hq hE x2
theorem Stp.set3 {cb : Nat} {V V' : CV} {w w' : World} (s : Stp cb V w V' w') {g : Nat} (hq : w.heap.size ≤ g) (x0 x1 x2 : Value) : Stp cb V w V' (((w'.setCell ⟨g, 0, none⟩ x0).setCell ⟨g, 1, none⟩ x1).setCell ⟨g, 2, none⟩ x2) := ((s.set (q := ⟨g, 0, none⟩) hq x0).set (q := ⟨g, 1, none⟩) hq x1).set (q := ⟨g, 2, none⟩) hq x2
theorem CkAt.vdv {w : World} {cb : Nat} {V : CV} {c : Ck} (h : CkAt E w cb V c) : ∃ A C, V.vd = .slice A c.devs.length C := by
 rcases h.devs.2 with ⟨e, h0⟩ | ⟨b, cap, cur, e, _⟩
 · exact ⟨none, 0, by rw [e, h0]⟩
 · exact ⟨_, _, e⟩
theorem nil_mn {w : World} {P : Nat → Prop} {m : Mn} (h : m.bytes = []) : MnIn w P m (.slice none 0 0) := ⟨none, 0, by rw [h]; rfl, by rw [h]; exact Nat.le_refl _, by unfold maxLen; omega, .inl h⟩
theorem e0_mono {w : World} {cb : Nat} {V : CV} {c : Ck} (h : CkAt E w cb V c) : CkAt (fun g => E g ∧ g < w.heap.size) w cb V c := h.mono (fun k hk _ he => ⟨he, hk⟩)
theorem three_mn {w : World} (a b c : Obj) : Below w.heap.size w (((w.alloc a).alloc b).alloc c) := ((Below.refl _ w).alloc (Nat.le_refl _) a |>.alloc (by simp) b).alloc (by simp; omega) c
end
end Go.Proofs.YthndifegfmjpbaaGreatDoor
