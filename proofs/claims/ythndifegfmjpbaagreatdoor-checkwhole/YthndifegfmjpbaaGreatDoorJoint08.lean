/- Texts that the statements of this stage share, joined. -/
import Derived.Test.YthndifegfmjpbaaGreatDoorJoint00
import Derived.Test.YthndifegfmjpbaaGreatDoorJoint07
import Derived.Test.YthndifegfmjpbaaGreatDoorJoint01
namespace Go.Proofs.YthndifegfmjpbaaGreatDoor
set_option linter.unusedVariables false
set_option maxRecDepth 100000
set_option maxHeartbeats 40000000
section
def Tell {α : Type} (bad : Int) (R : PR α) (ts : Toks) (x : α) (i' : Nat) (bad' : Int) : Prop :=
 if bad = 0 then (match R with
  | .ok (y, r) => x = y ∧ ts.drop i' = r ∧ bad' = 0
  | .error _ => bad' ≠ 0) else bad' ≠ 0
theorem Tell.bind {α β : Type} {P : Par α} {f : α → Par β} {en : Nat} {ts : Toks} {bad bad1 bad2 : Int} {i i1 i2 : Nat} {x : α} {y : β} (h1 : Tell bad (P en (ts.drop i)) ts x i1 bad1) (h2 : Tell bad1 (f x en (ts.drop i1)) ts y i2 bad2) : Tell bad (pbind P f en (ts.drop i)) ts y i2 bad2 := by
 unfold Tell at *
 unfold pbind
 by_cases hb : bad = 0
 · rw [if_pos hb] at h1 ⊢
   cases hP : P en (ts.drop i) with
   | error e =>
     rw [hP] at h1
     simp only at h1 ⊢
     rw [if_neg h1] at h2
     exact h2
   | ok r =>
     obtain ⟨y', r⟩ := r
     rw [hP] at h1
     obtain ⟨rfl, e2, e3⟩ := h1
     rw [if_pos e3, e2] at h2
     exact h2
 · rw [if_neg hb] at h1 ⊢
   rw [if_neg h1] at h2
   exact h2
theorem Tell.ret {α : Type} (bad : Int) (x : α) (en : Nat) (ts : Toks) (i : Nat) : Tell bad (pret x en (ts.drop i)) ts x i bad := by
 unfold Tell pret
 by_cases hb : bad = 0
 · rw [if_pos hb]; exact ⟨rfl, rfl, hb⟩
 · rw [if_neg hb]; exact hb
theorem Tell.map {α β : Type} {P : Par α} (f : α → β) {en : Nat} {ts : Toks} {bad bad1 : Int} {i i1 : Nat} {x : α} (h1 : Tell bad (P en (ts.drop i)) ts x i1 bad1) : Tell bad (pbind P (fun x => pret (f x)) en (ts.drop i)) ts (f x) i1 bad1 := h1.bind (Tell.ret bad1 (f x) en ts i1)
theorem Tell.bad {α : Type} {bad bad' : Int} (h : bad ≠ 0) (h' : bad' ≠ 0) (R : PR α) (ts : Toks) (x : α) (i' : Nat) : Tell bad R ts x i' bad' := by
 unfold Tell; rw [if_neg h]; exact h'
theorem Tell.err {α : Type} {bad bad' : Int} {R : PR α} {e : Nat × Nat} (hR : R = .error e) (h' : bad' ≠ 0) (ts : Toks) (x : α) (i' : Nat) : Tell bad R ts x i' bad' := by
 unfold Tell; rw [hR]; by_cases h : bad = 0
 · rw [if_pos h]; exact h'
 · rw [if_neg h]; exact h'
theorem Tell.ok {α : Type} {R : PR α} {ts : Toks} {x : α} {i' : Nat} (hR : R = .ok (x, ts.drop i')) : Tell 0 R ts x i' 0 := by
 unfold Tell; rw [hR, if_pos rfl]; exact ⟨rfl, rfl, rfl⟩
theorem Tell.stays {α : Type} {bad bad' : Int} {R : PR α} {ts : Toks} {x : α} {i' : Nat} (h : Tell bad R ts x i' bad') (hb : bad ≠ 0) : bad' ≠ 0 := by
 unfold Tell at h; rw [if_neg hb] at h; exact h
theorem Tell.was {α : Type} {bad bad' : Int} {R : PR α} {ts : Toks} {x : α} {i' : Nat} (h : Tell bad R ts x i' bad') (hb : bad' = 0) : bad = 0 ∧ R = .ok (x, ts.drop i') := by
 by_cases e : bad = 0
 · refine ⟨e, ?_⟩
   unfold Tell at h
   rw [if_pos e] at h
   cases R with
   | error e => exact absurd hb h
   | ok r =>
     obtain ⟨y, r⟩ := r
     obtain ⟨rfl, rfl, _⟩ := h
     rfl
 · exact absurd hb (h.stays e)
theorem take_tell {p : Tk → Bool} {en : Nat} {ts : Toks} {i : Nat} (hi : i < ts.length) (hp : p ts[i].1 = true) : Tell 0 (ptake p en (ts.drop i)) ts ts[i] (i + 1) 0 := by
 apply Tell.ok
 rw [List.drop_eq_getElem_cons hi]
 simp only [ptake]
 rw [if_pos hp]
theorem take_fail {p : Tk → Bool} {en : Nat} {ts : Toks} {i : Nat} {bad bad' : Int} (h : bad ≠ 0 ∨ pcomes p (ts.drop i) = false) (h' : bad' ≠ 0) (x : Tk × Nat) (i' : Nat) : Tell bad (ptake p en (ts.drop i)) ts x i' bad' := by
 rcases h with h | h
 · exact Tell.bad h h' _ _ _ _
 · cases hd : ts.drop i with
   | nil => exact Tell.err (e := (111, en)) rfl h' _ _ _
   | cons t r =>
     rw [hd] at h
     refine Tell.err (e := (111, t.2)) ?_ h' _ _ _
     simp only [ptake]
     rw [if_neg (by simpa [pcomes] using h)]
theorem comes_at {p : Tk → Bool} {ts : Toks} {i : Nat} (hi : i < ts.length) : pcomes p (ts.drop i) = p ts[i].1 := by
 rw [List.drop_eq_getElem_cons hi]; rfl
theorem comes_end {p : Tk → Bool} {ts : Toks} {i : Nat} (hi : ¬ i < ts.length) : pcomes p (ts.drop i) = false := by
 rw [List.drop_eq_nil_of_le (by omega)]; rfl
def MoreK (pe : Par Nd) (en : Nat) (ts : Toks) (bad0 : Int) (i0 : Nat) (l : List Nd) (i : Nat) (bad : Int) : Prop :=
 ∀ (m : List Nd) (i' : Nat) (bad' : Int), (∀ F, ts.length - i < F → Tell bad (pmore pe F en (ts.drop i)) ts m i' bad') → ∀ F, ts.length - i0 < F → Tell bad0 (pmore pe F en (ts.drop i0)) ts (l ++ m) i' bad'
theorem MoreK.start (pe : Par Nd) (en : Nat) (ts : Toks) (bad0 : Int) (i0 : Nat) : MoreK pe en ts bad0 i0 [] i0 bad0 := fun m i' bad' h F hF => h F hF
theorem MoreK.next {pe : Par Nd} {en : Nat} {ts : Toks} {bad0 : Int} {i0 : Nat} {l : List Nd} {i : Nat} (h : MoreK pe en ts bad0 i0 l i 0) (hi : i < ts.length) (hc : cmm ts[i].1 = true) {x : Nd} {i2 : Nat} {bad2 : Int} (hx : Tell 0 (pe en (ts.drop (i + 1))) ts x i2 bad2) (hle : i + 1 ≤ i2) : MoreK pe en ts bad0 i0 (l ++ [x]) i2 bad2 := by
 intro m i' bad' hm F hF
 rw [List.append_assoc]
 refine h ([x] ++ m) i' bad' (fun F' hF' => ?_) F hF
 obtain ⟨F1, rfl⟩ : ∃ F1, F' = F1 + 1 := ⟨F' - 1, by omega⟩
 show Tell 0 (pif cmm _ _ en (ts.drop i)) ts _ i' bad'
 unfold pif
 rw [if_pos (by rw [comes_at hi]; exact hc)]
 exact (take_tell hi hc).bind (hx.bind ((hm F1 (by omega)).map (fun l => x :: l)))
theorem MoreK.stop {pe : Par Nd} {en : Nat} {ts : Toks} {bad0 : Int} {i0 : Nat} {l : List Nd} {i : Nat} {bad : Int} (h : MoreK pe en ts bad0 i0 l i bad) (hc : bad ≠ 0 ∨ pcomes cmm (ts.drop i) = false) (F : Nat) (hF : ts.length - i0 < F) : Tell bad0 (pmore pe F en (ts.drop i0)) ts l i bad := by
 have := h [] i bad (fun F' hF' => ?_) F hF
 · simpa using this
 · rcases hc with hc | hc
   · exact Tell.bad hc hc _ _ _ _
   · obtain ⟨F1, rfl⟩ : ∃ F1, F' = F1 + 1 := ⟨F' - 1, by omega⟩
     show Tell bad (pif cmm _ _ en (ts.drop i)) ts _ i bad
     unfold pif
     rw [if_neg (by rw [hc]; decide)]
     exact Tell.ret bad [] en ts i
def FileK (en : Nat) (ts : Toks) (l : List Nd) (i : Nat) (bad : Int) : Prop :=
 ∀ (m : List Nd) (i' : Nat) (bad' : Int), (∀ F, ts.length - i < F → Tell bad (pfile F en (ts.drop i)) ts m i' bad') → ∀ F, ts.length < F → Tell 0 (pfile F en ts) ts (l ++ m) i' bad'
theorem FileK.start (en : Nat) (ts : Toks) : FileK en ts [] 0 0 := fun m i' bad' h F hF => by simpa using h F (by simpa using hF)
theorem FileK.next {en : Nat} {ts : Toks} {l : List Nd} {i : Nat} (h : FileK en ts l i 0) (hi : i < ts.length) {x : Nd} {i2 : Nat} {bad2 : Int} (hx : Tell 0 (pstmt en (ts.drop i)) ts x i2 bad2) (hle : bad2 = 0 → i + 1 ≤ i2) : FileK en ts (l ++ [x]) i2 bad2 := by
 intro m i' bad' hm F hF
 rw [List.append_assoc]
 refine h ([x] ++ m) i' bad' (fun F' hF' => ?_) F hF
 obtain ⟨F1, rfl⟩ : ∃ F1, F' = F1 + 1 := ⟨F' - 1, by omega⟩
 have e : pfile (F1 + 1) en (ts.drop i) = (pbind pstmt fun n => pbind (pfile F1) fun l => pret (n :: l)) en (ts.drop i) := by
  rw [List.drop_eq_getElem_cons hi]; rfl
 rw [e]
 by_cases hb : bad2 = 0
 · exact hx.bind ((hm F1 (by have := hle hb; omega)).map (fun l => x :: l))
 · have hb' : bad' ≠ 0 := by
    have := hm (ts.length + 1) (by omega)
    exact this.stays hb
   exact hx.bind (Tell.bad hb hb' _ _ _ _)
theorem FileK.stop {en : Nat} {ts : Toks} {l : List Nd} {i : Nat} {bad : Int} (h : FileK en ts l i bad) (hc : bad ≠ 0 ∨ ¬ i < ts.length) : Tell 0 (pfile 501 en ts) ts l i bad ∨ 500 < ts.length := by
 by_cases hl : 500 < ts.length
 · exact .inr hl
 · refine .inl ?_
   have := h [] i bad (fun F' hF' => ?_) 501 (by omega)
   · simpa using this
   · rcases hc with hc | hc
     · exact Tell.bad hc hc _ _ _ _
     · obtain ⟨F1, rfl⟩ : ∃ F1, F' = F1 + 1 := ⟨F' - 1, by omega⟩
       rw [List.drop_eq_nil_of_le (by omega)]
       unfold Tell
       by_cases hb : bad = 0
       · rw [if_pos hb]
         exact ⟨rfl, List.drop_eq_nil_of_le (by omega), hb⟩
       · rw [if_neg hb]; exact hb
end
section
open Go.ChangeShapes Go.WideShapes Go.ChangeAt Go.RowKit
theorem ris_bad {w : World} {rb : Nat} {A : Option Addr} {C : Nat} {ts : Toks} {i en : Nat} {bad k : Int} (h : RdrAt w rb A C ts i en bad k) (hb : bad ≠ 0) (s : List UInt8) : Calls Tryz.prog 43 #[.pointer (some ⟨rb, 0, none⟩), .string (bs s)] w fun e w' => e = .returned (.bool false) ∧ ∃ q, w' = w.drewN q := by
 have c0 := h.has.cell 0
 have c1 := h.has.cell 1
 have c3 := h.has.cell 3
 simp only [ga1, gz1, gs1] at c0 c1 c3
 have hlt := h.has.lt
 generalize ts.length = L at *
 have hd : decide (bad = 0) = false := decide_eq_false hb
 have hd2 : (bad == 0) = false := by simpa using hb
 clear h
 go_enter Tryz.func43, Tryz.ntmps43
 go_wp2
 go_quiet (fail)
 go_wp2
 go_ret
 exact ⟨rfl, _, rfl⟩
theorem RdrAt.set {w w' : World} {rb : Nat} {A : Option Addr} {C : Nat} {ts : Toks} {i i' en : Nat} {bad k bad' k' : Int} (h : RdrAt w rb A C ts i en bad k) (hk : Kp rb w w') (hh : Has w' rb 61 #[.slice A ts.length C, .int .i64 (i' : Nat), .int .i64 (en : Nat), .int .i64 bad', .int .i64 k']) (hi : i' ≤ ts.length) : RdrAt w' rb A C ts i' en bad' k' :=
 ⟨hh, fun j hj => by
  obtain ⟨g, off, e, hg, hne, ht⟩ := h.tok j hj
  exact ⟨g, off, e, Nat.lt_of_lt_of_le hg hk.size, hne, ht.kp hk hne hg⟩, hi, h.few, h.end'⟩
theorem Kp.refl' (p : Nat) (w : World) : Kp p w w := Kp.of (Below.refl _ _)
theorem RdrAt.drewN {w : World} {rb : Nat} {A : Option Addr} {C : Nat} {ts : Toks} {i en : Nat} {bad k : Int} (h : RdrAt w rb A C ts i en bad k) (q : Nat) : RdrAt (w.drewN q) rb A C ts i en bad k := ⟨h.has, h.tok, h.le, h.few, h.end'⟩
theorem Kp.drewN {p : Nat} {w w' : World} (h : Kp p w w') (q : Nat) : Kp p w (w'.drewN q) := ⟨h.os, h.tape, h.output, h.size, h.block⟩
theorem RdrAt.kp {w w' : World} {rb : Nat} {A : Option Addr} {C : Nat} {ts : Toks} {i en : Nat} {bad k : Int} (h : RdrAt w rb A C ts i en bad k) (hb : Below w.heap.size w w') : RdrAt w' rb A C ts i en bad k := h.set (Kp.of hb) (h.has.below hb h.has.lt) h.le
theorem rfail_c {w : World} {rb : Nat} {A : Option Addr} {C : Nat} {ts : Toks} {i en : Nat} {bad k : Int} (h : RdrAt w rb A C ts i en bad k) (er : Int) (her : er ≠ 0) : Calls Tryz.prog 44 #[.pointer (some ⟨rb, 0, none⟩), .int .i64 er] w fun e w' => e = .returned (.tuple #[]) ∧ ∃ bad' k', bad' ≠ 0 ∧ RdrAt w' rb A C ts i en bad' k' ∧ Kp rb w w' := by
 have c3 := h.has.cell 3
 have c4 := h.has.cell 4
 simp only [ga1, gz1, gs1] at c3 c4
 have hlt := h.has.lt
 have f3 := h.has.free 3
 have f4 := h.has.free 4
 by_cases hb : bad = 0
 · subst hb
   have hw1 : Kp rb w (w.setCell ⟨rb, 3, none⟩ (.int .i64 er)) := (Kp.refl' rb w).setP 3 _
   have h1 : RdrAt (w.setCell ⟨rb, 3, none⟩ (.int .i64 er)) rb A C ts i en er k := h.set hw1 (h.has.putP 3 _) h.le
   go_enter Tryz.func44, Tryz.ntmps44
   go_wp2_with (first
    | ((go_at_call 42)
       (refine (rplace_c h1).mono ?_)
       (rintro e w1 ⟨rfl, q, rfl⟩)))
   go_end0
   exact ⟨rfl, er, _, her, (h1.drewN q).set ((Kp.refl' rb _).setP 4 _) ((h1.drewN q).has.putP 4 _) h.le, (hw1.drewN q).setP 4 _⟩
 · have hd : decide (bad = 0) = false := decide_eq_false hb
   go_enter Tryz.func44, Tryz.ntmps44
   go_wp2
   go_end0
   exact ⟨rfl, bad, k, hb, h, Kp.refl' _ _⟩
def Rst (w : World) (rb : Nat) (A : Option Addr) (C : Nat) (ts : Toks) (i en : Nat) (w' : World) (i' : Nat) (bad' : Int) : Prop := i ≤ i' ∧ i' ≤ ts.length ∧ Kp rb w w' ∧ ∃ k', Has w' rb 61 #[.slice A ts.length C, .int .i64 (i' : Nat), .int .i64 (en : Nat), .int .i64 bad', .int .i64 k']
theorem Rst.at {w w' : World} {rb : Nat} {A : Option Addr} {C : Nat} {ts : Toks} {i i' en : Nat} {bad k bad' : Int} (h : RdrAt w rb A C ts i en bad k) (s : Rst w rb A C ts i en w' i' bad') : ∃ k', RdrAt w' rb A C ts i' en bad' k' := by
 obtain ⟨_, h2, h3, k', h4⟩ := s
 exact ⟨k', h.set h3 h4 h2⟩
theorem Rst.of {w w' : World} {rb : Nat} {A : Option Addr} {C : Nat} {ts : Toks} {i i' en : Nat} {bad' k' : Int} (hi : i ≤ i') (hk : Kp rb w w') (h : RdrAt w' rb A C ts i' en bad' k') : Rst w rb A C ts i en w' i' bad' := ⟨hi, h.le, hk, k', h.has⟩
theorem Rst.trans {w w1 w2 : World} {rb : Nat} {A : Option Addr} {C : Nat} {ts : Toks} {i i1 i2 en : Nat} {b1 b2 : Int} (h : Rst w rb A C ts i en w1 i1 b1) (k : Rst w1 rb A C ts i1 en w2 i2 b2) : Rst w rb A C ts i en w2 i2 b2 := ⟨Nat.le_trans h.1 k.1, k.2.1, h.2.2.1.trans k.2.2.1, k.2.2.2⟩
theorem kp_alloc_left {p : Nat} {w w' : World} {o : Obj} (h : Kp p (w.alloc o) w') : Kp p w w' := (Kp.of ((Below.refl _ _).alloc (Nat.le_refl _) o)).trans h
theorem Rst.left {w w1 : World} {rb : Nat} {A : Option Addr} {C : Nat} {ts : Toks} {i i' en : Nat} {bad' : Int} {o : Obj} (h : Rst (w.alloc o) rb A C ts i en w1 i' bad') : Rst w rb A C ts i en w1 i' bad' := ⟨h.1, h.2.1, kp_alloc_left h.2.2.1, h.2.2.2⟩
theorem Rst.new {w w1 : World} {rb : Nat} {A : Option Addr} {C : Nat} {ts : Toks} {i i' en : Nat} {bad' : Int} (h : Rst w rb A C ts i en w1 i' bad') {q : Addr} (hq : w.heap.size ≤ q.block) (hr : rb < w.heap.size) (v : Value) : Rst w rb A C ts i en (w1.setCell q v) i' bad' := by
 obtain ⟨h1, h2, h3, k', h4⟩ := h
 exact ⟨h1, h2, h3.setNew hq v, k', h4.other (by omega) v⟩
theorem Rst.alloc {w w1 : World} {rb : Nat} {A : Option Addr} {C : Nat} {ts : Toks} {i i' en : Nat} {bad' : Int} (h : Rst w rb A C ts i en w1 i' bad') (o : Obj) : Rst w rb A C ts i en (w1.alloc o) i' bad' := by
 obtain ⟨h1, h2, h3, k', h4⟩ := h
 exact ⟨h1, h2, h3.alloc o, k', h4.alloc o⟩
theorem Rst.below {w w1 w2 : World} {rb : Nat} {A : Option Addr} {C : Nat} {ts : Toks} {i i' en : Nat} {bad' : Int} (h : Rst w rb A C ts i en w1 i' bad') {B : Nat} (hb : Below B w1 w2) (hB : w.heap.size ≤ B) (hr : rb < w.heap.size) : Rst w rb A C ts i en w2 i' bad' := by
 obtain ⟨h1, h2, h3, k', h4⟩ := h
 exact ⟨h1, h2, ⟨hb.os.trans h3.os, hb.tape.trans h3.tape, hb.output.trans h3.output, Nat.le_trans h3.size hb.size, fun k hk hn => (hb.block k (by omega)).trans (h3.block k hk hn)⟩, k', h4.below hb (by omega)⟩
theorem Rst.refl {w : World} {rb : Nat} {A : Option Addr} {C : Nat} {ts : Toks} {i en : Nat} {bad k : Int} (h : RdrAt w rb A C ts i en bad k) : Rst w rb A C ts i en w i bad := ⟨Nat.le_refl _, h.le, Kp.refl _ _, k, h.has⟩
theorem Rst.drewN {w w1 : World} {rb : Nat} {A : Option Addr} {C : Nat} {ts : Toks} {i i' en : Nat} {bad' : Int} (h : Rst w rb A C ts i en w1 i' bad') (q : Nat) : Rst w rb A C ts i en (w1.drewN q) i' bad' := ⟨h.1, h.2.1, h.2.2.1.drewN q, h.2.2.2⟩
end
section
open Go.ChangeShapes Go.WideShapes Go.ChangeAt Go.RowKit
def isWS (s : List UInt8) (t : Tk) : Bool := (t.kind == 0 || t.kind == 3) && t.s == s
theorem comes_eq (ts : Toks) (i : Nat) (s : List UInt8) : comes ts i s = pcomes (isWS s) (ts.drop i) := by
 unfold comes
 by_cases hi : i < ts.length
 · rw [List.getElem?_eq_getElem hi, comes_at hi]; rfl
 · rw [List.getElem?_eq_none (by omega), comes_end hi]
def isB (bad : Int) (ts : Toks) (i : Nat) (s : List UInt8) : Bool := decide (bad = 0) && pcomes (isWS s) (ts.drop i)
theorem ris_any {w : World} {rb : Nat} {A : Option Addr} {C : Nat} {ts : Toks} {i en : Nat} {bad k : Int} (h : RdrAt w rb A C ts i en bad k) (s : List UInt8) : Calls Tryz.prog 43 #[.pointer (some ⟨rb, 0, none⟩), .string (bs s)] w fun e w' => e = .returned (.bool (isB bad ts i s)) ∧ ∃ q, w' = w.drewN q := by
 unfold isB
 by_cases hb : bad = 0
 · subst hb
   refine (ris_c h s).mono ?_
   rintro e w' ⟨rfl, hw⟩
   exact ⟨by rw [comes_eq]; simp, hw⟩
 · refine (ris_bad h hb s).mono ?_
   rintro e w' ⟨rfl, hw⟩
   exact ⟨by simp [hb], hw⟩
theorem isB_true {bad : Int} {ts : Toks} {i : Nat} {s : List UInt8} (h : isB bad ts i s = true) : bad = 0 ∧ ∃ hi : i < ts.length, isWS s ts[i].1 = true := by
 unfold isB at h
 simp only [Bool.and_eq_true, decide_eq_true_eq] at h
 refine ⟨h.1, ?_⟩
 by_cases hi : i < ts.length
 · exact ⟨hi, by have := comes_at (p := isWS s) hi; rw [← this]; exact h.2⟩
 · rw [comes_end hi] at h; cases h.2
theorem isB_false {bad : Int} {ts : Toks} {i : Nat} {s : List UInt8} (h : isB bad ts i s = false) : bad ≠ 0 ∨ pcomes (isWS s) (ts.drop i) = false := by
 unfold isB at h
 by_cases hb : bad = 0
 · right; simpa [hb] using h
 · exact .inl hb
theorem rmust_c {w : World} {rb : Nat} {A : Option Addr} {C : Nat} {ts : Toks} {i en : Nat} {bad k : Int} (h : RdrAt w rb A C ts i en bad k) (s : List UInt8) : Calls Tryz.prog 47 #[.pointer (some ⟨rb, 0, none⟩), .string (bs s)] w fun e w' => e = .returned (.tuple #[]) ∧ ∃ i' bad', Rst w rb A C ts i en w' i' bad' ∧ ∃ x, Tell bad (ptake (isWS s) en (ts.drop i)) ts x i' bad' := by
 cases hc : isB bad ts i s with
 | false =>
   have hs := (ris_any h s)
   rw [hc] at hs
   have hb := isB_false hc
   go_enter Tryz.func47, Tryz.ntmps47
   go_wp2_with (first
    | ((go_at_call 43)
       (refine hs.mono ?_)
       (rintro e w1 ⟨rfl, q, rfl⟩))
    | ((go_at_call 44)
       (refine (rfail_c (h.drewN q) 111 (by decide)).mono ?_)
       (rintro e w1 ⟨rfl, bad', k', hb', h', hk⟩)))
   refine bodyPost_ret (results_none rfl _ _ _) rfl ?_
   exact ⟨rfl, i, bad', Rst.of (Nat.le_refl _) ⟨hk.os, hk.tape, hk.output, hk.size, hk.block⟩ h', (⟨0, [], 0⟩, 0), take_fail hb hb' _ _⟩
 | true =>
   have hs := (ris_any h s)
   rw [hc] at hs
   obtain ⟨rfl, hi, hp⟩ := isB_true hc
   have c1 := h.has.cell 1
   simp only [ga1, gz1, gs1] at c1
   have hlt := h.has.lt
   have f1 := h.has.free 1
   have hf := h.few
   have hi2 : (i : Int) < 501 := by omega
   have R : ∀ q, ∃ i' bad', Rst w rb A C ts i en ((w.drewN q).setCell ⟨rb, 1, none⟩ (.int .i64 ((i : Int) + 1))) i' bad' ∧ ∃ x, Tell 0 (ptake (isWS s) en (ts.drop i)) ts x i' bad' := by
    intro q
    refine ⟨i + 1, 0, ⟨by omega, by omega, ((Kp.refl' rb w).drewN q).setP 1 _, k, ?_⟩, _, take_tell hi hp⟩
    have := (h.drewN q).has.putP 1 (.int .i64 ((i : Int) + 1))
    simpa using this
   clear hc hp hi h hf
   generalize ts.length = L at *
   go_enter Tryz.func47, Tryz.ntmps47
   go_wp2_with (first
    | ((go_at_call 43)
       (refine hs.mono ?_)
       (rintro e w1 ⟨rfl, q, rfl⟩)))
   go_end0
   exact ⟨rfl, R q⟩
end
section
open Go.ChangeShapes Go.WideShapes Go.ChangeAt Go.RowKit
theorem PAt.set {W : World} {pb en : Nat} {r : Toks} (h : PAt W pb r en) {q : Addr} (hq : pb < q.block) (v : Value) : PAt (W.setCell q v) pb r en := by
 obtain ⟨A, C, hH, h1, h2, h3, h4⟩ := h
 refine ⟨A, C, hH.other (by omega) v, h1, h2, h3, fun hne => ?_⟩
 obtain ⟨g, off, e, hg, ht⟩ := h4 hne
 exact ⟨g, off, e, hg, fun i hi j hj => (World.cell?_of_block (Below.heap_setCell W q v g (by omega))).trans (ht i hi j hj)⟩
theorem PAt.low {W W' : World} {pb en B : Nat} {r : Toks} (h : PAt W pb r en) (hb : Below B W W') (hB : pb < B) : PAt W' pb r en := by
 obtain ⟨A, C, hH, h1, h2, h3, h4⟩ := h
 refine ⟨A, C, hH.below hb hB, h1, h2, h3, fun hne => ?_⟩
 obtain ⟨g, off, e, hg, ht⟩ := h4 hne
 exact ⟨g, off, e, hg, fun i hi j hj => (hb.cell (p := ⟨g, off + i * 4 + j, none⟩) (by show g < _; omega)).trans (ht i hi j hj)⟩
theorem PAt.has {W : World} {pb en : Nat} {r : Toks} (h : PAt W pb r en) : ∃ cs, Has W pb 87 cs := by obtain ⟨A, C, hH, _⟩ := h; exact ⟨_, hH⟩
theorem PAt.new {W : World} {pb en : Nat} {r : Toks} (h : PAt W pb r en) (o : Obj) : PAt (W.alloc o) pb r en := h.below ((Below.refl _ _).alloc (Nat.le_refl _) _)
abbrev put5 (W : World) (g : Nat) (x0 x1 x2 x3 x4 : Value) : World := ((((W.setCell ⟨g, 0, none⟩ x0).setCell ⟨g, 1, none⟩ x1).setCell ⟨g, 2, none⟩ x2).setCell ⟨g, 3, none⟩ x3).setCell ⟨g, 4, none⟩ x4
theorem PAt.set5 {W : World} {pb en : Nat} {r : Toks} (h : PAt W pb r en) {g : Nat} (hq : pb < g) (x0 x1 x2 x3 x4 : Value) : PAt (put5 W g x0 x1 x2 x3 x4) pb r en :=
 ((((h.set (q := ⟨g, 0, none⟩) hq x0).set (q := ⟨g, 1, none⟩) hq x1).set (q := ⟨g, 2, none⟩) hq x2).set (q := ⟨g, 3, none⟩) hq x3).set (q := ⟨g, 4, none⟩) hq x4
theorem Kp.set5 {w W : World} {pb : Nat} (h : Kp pb w W) {g : Nat} (hq : w.heap.size ≤ g) (x0 x1 x2 x3 x4 : Value) : Kp pb w (put5 W g x0 x1 x2 x3 x4) :=
 ((((h.setNew (q := ⟨g, 0, none⟩) hq x0).setNew (q := ⟨g, 1, none⟩) hq x1).setNew (q := ⟨g, 2, none⟩) hq x2).setNew (q := ⟨g, 3, none⟩) hq x3).setNew (q := ⟨g, 4, none⟩) hq x4
theorem NdR.set5 {w : World} {P : Nat → Prop} {l : List Nd} {v : Value} (h : NdR w P l v) {g : Nat} (hq : ∀ k, P k → k ≠ g) (x0 x1 x2 x3 x4 : Value) : NdR (put5 w g x0 x1 x2 x3 x4) P l v :=
 h.keep fun k o hk ho => by
  have hne := hq k hk
  rw [Below.heap_setCell _ _ _ k hne, Below.heap_setCell _ _ _ k hne, Below.heap_setCell _ _ _ k hne, Below.heap_setCell _ _ _ k hne, Below.heap_setCell _ _ _ k hne]
  exact ho
theorem b_one (w : World) (o : Obj) : Below w.heap.size w (w.alloc o) := (Below.refl _ _).alloc (Nat.le_refl _) _
theorem b_two (w : World) (o o' : Obj) : Below w.heap.size w ((w.alloc o).alloc o') := ((Below.refl _ _).alloc (Nat.le_refl _) _).alloc (by simp) _
end
section
open Go.ChangeShapes Go.WideShapes Go.ChangeAt Go.RowKit
def pre (l : List Nd) : PR (List Nd) → PR (List Nd)
 | .error e => .error e
 | .ok (m, r) => .ok (l ++ m, r)
theorem ptake_shorter {p : Tk → Bool} {en : Nat} {ts r : Toks} {t : Tk × Nat} (h : ptake p en ts = .ok (t, r)) : ts.length = r.length + 1 := by
 cases ts with
 | nil => cases h
 | cons u ts =>
   simp only [ptake] at h
   split at h
   · cases h; rfl
   · cases h
theorem shorter {P : Par Nd} (hP : Stable P) {en : Nat} {ts r : Toks} {n : Nd} (h : P en ts = .ok (n, r)) : r.length ≤ ts.length := by
 obtain ⟨q, e, _⟩ := (hP en ts).1 n r h
 rw [e, List.length_append]
 omega
theorem inside_len (op : List UInt8) : (inside op).1.length ≤ 3 := by
 unfold inside
 split
 · decide
 · split
   · decide
   · split
     · decide
     · split <;> decide
end
section
open Go.ChangeShapes Go.WideShapes Go.ChangeAt Go.RowKit
def pleft (pb : Nat) (w : World) : Nat := match w.cell? ⟨pb, 0, none⟩ with
 | some (.slice _ L _) => L
 | _ => 0
theorem PAt.left {w : World} {pb en : Nat} {ts : Toks} (h : PAt w pb ts en) : pleft pb w = ts.length := by
 obtain ⟨A, C, hH, _⟩ := h
 unfold pleft
 rw [hH.cell 0]
 rfl
theorem Strs.get {w : World} {A : Option Addr} {L C : Nat} {ks : List Kd} (h : Strs w (.slice A L C) (kw ks)) : L = ks.length ∧ L ≤ C ∧ (0 < ks.length → C ≤ ks.length) ∧ ∀ i (hi : i < ks.length), ∃ g, A = some ⟨g, 0, none⟩ ∧ w.cell? ⟨g, i, none⟩ = some (.string (bs ks[i].w)) := by
 rcases h with ⟨h, e⟩ | ⟨g, e, h⟩
 · cases e
   have : ks = [] := by cases ks with
    | nil => rfl
    | cons a b => simp [kw] at h
   subst this
   exact ⟨rfl, Nat.le_refl _, fun h => Nat.zero_le _, fun i hi => by simp at hi⟩
 · simp only [kw, List.length_map] at e
   cases e
   refine ⟨rfl, Nat.le_refl _, fun _ => Nat.le_refl _, fun i hi => ⟨g, rfl, ?_⟩⟩
   rw [h.cell]
   simp [kw, hi]
end
section
open Go.ChangeShapes Go.WideShapes Go.ChangeAt Go.RowKit
section
variable {P : Program} {ops : Array Oper} {Q : Exit → Act → World → Prop} {md : Region.Mode} {S : World → Prop} {m : Nat}
theorem not_ready {k i : Nat} {listed : Array Bool} (hw : waitsFor md ops k i = true) (hi : listed.getD i true = false) : k ∉ Region.ready md ops listed := by
 intro hm
 obtain ⟨_, o, ho, hall⟩ := mem_ready.1 hm
 simp only [waitsFor, ho, Option.any_some, Array.any_eq_true', Bool.and_eq_true, beq_iff_eq] at hw
 obtain ⟨e, he, hb, rfl⟩ := hw
 have h1 := hall e he hb
 by_cases hlt : e.on < listed.size
 · simp [hlt] at hi h1
   rw [hi] at h1
   cases h1
 · simp [Array.getElem?_eq_none (Nat.not_lt.1 hlt)] at h1
def chainB (md : Region.Mode) (ops : Array Oper) : Nat → List Nat → Bool
 | _, [] => true
 | i, k :: ks => waitsFor md ops k i && chainB md ops k ks
theorem chain_none {listed : Array Bool} : ∀ {ks : List Nat} {i m : Nat}, chainB md ops i (ks ++ [m]) = true → listed.getD i true = false → (∀ k ∈ ks, listed.getD k true = false) → m ∉ Region.ready md ops listed ∧ ∀ k ∈ ks, k ∉ Region.ready md ops listed
 | [], i, m, hc, hi, hk => by
   have hc' : (waitsFor md ops m i && true) = true := hc
   rw [Bool.and_true] at hc'
   exact ⟨not_ready hc' hi, fun k hk => by cases hk⟩
 | k :: ks, i, m, hc, hi, hk => by
   have hc' : (waitsFor md ops k i && chainB md ops k (ks ++ [m])) = true := hc
   rw [Bool.and_eq_true] at hc'
   obtain ⟨h1, h2⟩ := chain_none hc'.2 (hk k (List.mem_cons_self ..)) (fun q hq => hk q (List.mem_cons_of_mem _ hq))
   refine ⟨h1, fun q hq => ?_⟩
   rcases List.mem_cons.1 hq with rfl | h3
   · exact not_ready hc'.1 hi
   · exact h2 q h3
theorem AnyL.frontC {i : Nat} {oi : Oper} {v : Value} (ks : List Nat) (hi : ops[i]? = some oi) (him : i ≠ m) (hch : chainB md ops i (ks ++ [m]) = true) (hsel : ∀ (j : Nat) (o : Oper) cs b, ops[j]? = some o → o.op ≠ .select cs b)
  (hQ : ∀ c a w, Q (.panic c) (a.put oi.dst v) w → Q (.panic c) a w) : ∀ (n : Nat) (listed : Array Bool) (a : Act) (w : World), (∀ k ∈ ks, listed.getD k true = false) →
    (∀ j oj, ops[j]? = some oj → j ≠ i → listed.getD j true = false → (∀ e ∈ oj.after, Region.binds md e = true → e.on ≠ i) → oi.apart ops oj = true) →
    i ∈ Region.ready md ops listed → YieldsIf P ops S oi v a → S w → AnyL P md ops Q S m n (listed.setIfInBounds i true) (a.put oi.dst v) w → AnyL P md ops Q S m (n + 1) listed a w
 | n, listed, a, w, hun, hfree, hr, hy, hS, H => by
   refine ⟨fun h => absurd (h ▸ hr) (by simp), fun j hj => ?_⟩
   by_cases hji : j = i
   · subst hji
     exact hy.wpOp hi hS ⟨fun _ => hS, H⟩
   obtain ⟨hm0, hk0⟩ := chain_none hch (mem_ready.1 hr).1 hun
   have hjm : j ≠ m := fun e => hm0 (e ▸ hj)
   have hj' := ready_mono hj hji
   cases n with
   | zero => exact absurd (H.1 ▸ hj') (by simp)
   | succ n =>
     obtain ⟨hjun, oj, hoj, hall⟩ := mem_ready.1 hj
     have hno : ∀ e ∈ oj.after, Region.binds md e = true → e.on ≠ i := by
      intro e he hb heq
      have h1 := hall e he hb
      have h0 := (mem_ready.1 hr).1
      subst heq
      by_cases hlt : e.on < listed.size
      · simp [hlt] at h0 h1
        rw [h0] at h1
        cases h1
      · simp [Array.getElem?_eq_none (Nat.not_lt.1 hlt)] at h1
     refine wpOp_mono ?_ (wpOp_putIf hoj (hfree j oj hoj hji hjun hno) (fun cs b => hsel i oi cs b hi) (fun cs b => hsel j oj cs b hoj) hQ hy (H.2 j hj'))
     rintro a' w' ⟨hy', hS', H'⟩
     refine ⟨hS', AnyL.frontC ks hi him hch hsel hQ n (listed.setIfInBounds j true) a' w' (fun k hk => ?_) (fun k ok hk hki hun hn => hfree k ok hk hki ?_ hn) (ready_mono hr (Ne.symm hji)) hy' (hS' hjm) ?_⟩
     · have hjk : j ≠ k := fun e => hk0 k hk (e ▸ hj)
       rw [getD_set_ne true hjk]
       exact hun k hk
     · by_cases hjk : j = k
       · subst hjk; exact hjun
       · rwa [getD_set_ne true hjk] at hun
     · rw [Array.setIfInBounds_comm _ _ hji]
       exact H'
theorem takeC {oi : Oper} (i : Nat) (ks : List Nat) (d : Option Tmp) (v : Value) {n : Nat} {listed : Array Bool} {a : Act} {w : World} (hi : ops[i]? = some oi) (hd : oi.dst = d) (him : i ≠ m) (hch : chainB md ops i (ks ++ [m]) = true) (hun : ks.all (fun k => listed.getD k true == false) = true)
  (hs : Region.noSelect ops = true) (hf : Region.free md ops listed i = true) (hr : (Region.ready md ops listed).contains i = true)
  (hQ : ∀ c a w, Q (.panic c) (a.put d v) w → Q (.panic c) a w) (hw : Region.wanted oi (yielded ops a.tmps) = true) (hy : ∀ w, S w → (execOp a.eval oi).run P w = .ok (.value v) w) (hS : S w)
  (h : AnyL P md ops Q S m n (listed.setIfInBounds i true) (a.put d v) w) : AnyL P md ops Q S m (n + 1) listed a w := by
 subst hd
 refine AnyL.frontC ks hi him hch (Region.noSelect_spec hs) hQ n listed a w (fun k hk => ?_) (Region.free_spec hi hf) (by simpa using hr) (.inl ⟨hw, hy⟩) hS h
 have := List.all_eq_true.1 hun k hk
 simpa using this
end
end
section
open Go.ChangeShapes Go.WideShapes Go.ChangeAt Go.RowKit
theorem run_load_one {o : Oper} {a : Act} (ty : TypeId) (x : Operand) (ho : o.op = .load ty x) (hty : ty = 9 ∨ ty = 3) (p : Addr) (hx : a.eval x = .pointer (some p)) (v : Value) (w : World) (h : w.cell? p = some v) : (execOp a.eval o).run Tryz.prog w = .ok (.value v) w := by
 unfold execOp
 simp only [ho, hx]
 rcases hty with rfl | rfl
 · go_simp
 · go_simp
theorem Kp.setRow {p : Nat} {w w' : World} (h : Kp p w w') {g : Nat} (hg : w.heap.size ≤ g) (X : Array Value) : Kp p w (w'.setRow g X) :=
 ⟨h.os, h.tape, h.output, by have := h.size; simpa using this, fun k hk hn => (setRow_other w' g k X (by omega)).trans (h.block k hk hn)⟩
theorem PAt.setRow {W : World} {pb en : Nat} {r : Toks} (h : PAt W pb r en) {g : Nat} (hq : pb < g) (X : Array Value) : PAt (W.setRow g X) pb r en := by
 obtain ⟨A, C, hH, h1, h2, h3, h4⟩ := h
 refine ⟨A, C, hH.setRow_other (by omega) X, h1, h2, h3, fun hne => ?_⟩
 obtain ⟨g', off, e, hg, ht⟩ := h4 hne
 exact ⟨g', off, e, hg, fun i hi j hj => (World.cell?_of_block (setRow_other W g g' X (by omega))).trans (ht i hi j hj)⟩
theorem NdR.setRow {w : World} {P : Nat → Prop} {l : List Nd} {v : Value} (h : NdR w P l v) {g : Nat} (hq : ∀ k, P k → k ≠ g) (X : Array Value) : NdR (w.setRow g X) P l v :=
 h.keep fun k o hk ho => (setRow_other w g k X (hq k hk)).trans ho
end
section
open Go.ChangeShapes Go.WideShapes Go.ChangeAt Go.RowKit
theorem bsDevice : bs wDevice = ⟨#[100, 101, 118, 105, 99, 101]⟩ := rfl
theorem bsJournal : bs wJournal = ⟨#[106, 111, 117, 114, 110, 97, 108]⟩ := rfl
theorem bsKey : bs wKey = ⟨#[107, 101, 121]⟩ := rfl
theorem bsRoot : bs wRoot = ⟨#[114, 111, 111, 116]⟩ := rfl
theorem bsVolume : bs wVolume = ⟨#[118, 111, 108, 117, 109, 101]⟩ := rfl
theorem bsExport : bs wExport = ⟨#[101, 120, 112, 111, 114, 116]⟩ := rfl
theorem ptake_is {p : Tk → Bool} {en : Nat} {ts r : Toks} {t : Tk × Nat} (h : ptake p en ts = .ok (t, r)) : p t.1 = true := by
 cases ts with
 | nil => cases h
 | cons u us =>
   simp only [ptake] at h
   split at h
   · rename_i hp; cases h; exact hp
   · cases h
def pafter (t u : Tk × Nat) : Par Nd := pbind (prest t.1.s) fun r => pbind (ptake (isSg [59])) fun _ => pret (.mk t.1.s u.1.s r.1 t.2 r.2)
theorem stmt_one {en : Nat} {ts : Toks} {e : Nat × Nat} (h : ptake (isWd stmts) en ts = .error e) : pstmt en ts = .error e := by
 unfold pstmt pbind
 rw [h]
theorem stmt_two {en : Nat} {ts r : Toks} {t : Tk × Nat} {e : Nat × Nat} (h : ptake (isWd stmts) en ts = .ok (t, r)) (h2 : ptake isNm en r = .error e) : pstmt en ts = .error e := by
 unfold pstmt pbind
 simp only [h, h2]
theorem stmt_three {en : Nat} {ts r r' : Toks} {t u : Tk × Nat} (h : ptake (isWd stmts) en ts = .ok (t, r)) (h2 : ptake isNm en r = .ok (u, r')) : pstmt en ts = pafter t u en r' := by
 unfold pstmt
 show pbind _ _ en ts = _
 rw [pbind, h]
 show pbind _ _ en r = _
 rw [pbind, h2]
 rfl
end
section
open Go.ChangeShapes Go.WideShapes Go.ChangeAt Go.RowKit
theorem file_step (f en : Nat) (t : Tk × Nat) (r : Toks) : pfile (f + 1) en (t :: r) = match pstmt en (t :: r) with | .error e => .error e | .ok (n, r') => pre [n] (pfile f en r') := by
 show pbind pstmt _ en (t :: r) = _
 unfold pbind
 cases pstmt en (t :: r) with
 | error e => rfl
 | ok x =>
   obtain ⟨n, r'⟩ := x
   simp only
   cases pfile f en r' with
   | error e => rfl
   | ok y => obtain ⟨m, r''⟩ := y; rfl
theorem stmt_shorter {en : Nat} {ts r : Toks} {n : Nd} (h : pstmt en ts = .ok (n, r)) : r.length + 1 ≤ ts.length := by
 cases hT1 : ptake (isWd stmts) en ts with
 | error e => rw [stmt_one hT1] at h; cases h
 | ok x =>
   obtain ⟨t, r1⟩ := x
   have := ptake_shorter hT1
   cases hT2 : ptake isNm en r1 with
   | error e => rw [stmt_two hT1 hT2] at h; cases h
   | ok y =>
     obtain ⟨u, r2⟩ := y
     have h2 := ptake_shorter hT2
     rw [stmt_three hT1 hT2] at h
     have hs : Stable (pafter t u) := (rest_stable _).bind fun _ => (Stable.take _).bind fun _ => Stable.ret _
     have := shorter hs h
     omega
end
section
open Go.ChangeShapes Go.WideShapes Go.ChangeAt Go.RowKit
theorem has_drew {w : World} {g t : Nat} {cs : Array Value} (h : Has w g t cs) : Has w.drew g t cs := h
theorem below_drew {B : Nat} {a w : World} (h : Below B a w) : Below B a w.drew := ⟨h.os, h.tape, h.output, h.size, h.block⟩
theorem Has.oth5 {w : World} {g g' t : Nat} {cs : Array Value} (h : Has w g t cs) (hne : g ≠ g') (x0 x1 x2 x3 x4 : Value) : Has (put5 w g' x0 x1 x2 x3 x4) g t cs :=
 ((((h.other (p := ⟨g', 0, none⟩) hne x0).other (p := ⟨g', 1, none⟩) hne x1).other (p := ⟨g', 2, none⟩) hne x2).other (p := ⟨g', 3, none⟩) hne x3).other (p := ⟨g', 4, none⟩) hne x4
theorem b5 {w : World} {p : Nat} (x0 x1 x2 x3 x4 y z : Value) (o : Obj) (hp : p ≤ w.heap.size) : Below p w ((((put5 w p x0 x1 x2 x3 x4).setCell ⟨p + 1, 0, none⟩ y).setCell ⟨p + 2, 0, none⟩ z).alloc o).drew := by
 have h0 : Below p w (((put5 w p x0 x1 x2 x3 x4).setCell ⟨p + 1, 0, none⟩ y).setCell ⟨p + 2, 0, none⟩ z) := (((((((Below.refl p w).setCell (p := ⟨p, 0, none⟩) (Nat.le_refl p) x0).setCell (p := ⟨p, 1, none⟩) (Nat.le_refl p) x1).setCell (p := ⟨p, 2, none⟩) (Nat.le_refl p) x2).setCell (p := ⟨p, 3, none⟩) (Nat.le_refl p) x3).setCell (p := ⟨p, 4, none⟩) (Nat.le_refl p) x4).setCell (p := ⟨p + 1, 0, none⟩) (by show p ≤ p + 1; omega) y).setCell (p := ⟨p + 2, 0, none⟩) (by show p ≤ p + 2; omega) z
 exact below_drew (h0.alloc (by have := h0.size; omega) o)
end
section
open Go.ChangeShapes Go.WideShapes Go.ChangeAt Go.RowKit
theorem bel5 {w W : World} (h : Below w.heap.size w W) (x0 x1 x2 x3 x4 : Value) : Below w.heap.size w (put5 W w.heap.size x0 x1 x2 x3 x4) :=
 ((((h.setCell (p := ⟨w.heap.size, 0, none⟩) (Nat.le_refl _) x0).setCell (p := ⟨w.heap.size, 1, none⟩) (Nat.le_refl _) x1).setCell (p := ⟨w.heap.size, 2, none⟩) (Nat.le_refl _) x2).setCell (p := ⟨w.heap.size, 3, none⟩) (Nat.le_refl _) x3).setCell (p := ⟨w.heap.size, 4, none⟩) (Nat.le_refl _) x4
theorem PAt.start {w1 : World} {base en : Nat} {A : Option Addr} {C : Nat} {ts : Toks} (h : TokRow w1 base (.slice A ts.length C) ts) (hl : ts.length ≤ 500) : PAt (w1.alloc (.cells #[.slice A ts.length C, .int .i64 (en : Nat)] 87)) w1.heap.size ts en := by
 have hb := b_one w1 (.cells #[.slice A ts.length C, .int .i64 (en : Nat)] 87)
 by_cases hne : ts = []
 · subst hne
   rcases h.2 with ⟨e, _⟩ | ⟨g, cap, cur, e, _, _, hn, hm, _⟩
   · cases e
     exact ⟨none, 0, Has.new _ _ _, Nat.le_refl _, by omega, hl, fun h => absurd rfl h⟩
   · cases e
     exact ⟨_, C, Has.new _ _ _, hn, hm, hl, fun h => absurd rfl h⟩
 · obtain ⟨g, C', e, h1, h2, h3, h4, _, hc⟩ := h.lies hne
   cases e
   refine ⟨_, C, Has.new _ _ _, h3, h4, hl, fun _ => ⟨g, 0, rfl, h2, fun i hi j hj => ?_⟩⟩
   rw [Nat.zero_add]
   exact (hb.cell (p := ⟨g, i * 4 + j, none⟩) h2).trans (hc i hi j hj)
theorem ret_three {fn : Func} {R : Ending → World → Prop} {a : Act} {W : World} {s t u g : Nat} {x0 x1 x2 x3 x4 y z : Value} (hr : fn.results = #[.cell s 24, .tmp t, .tmp u]) (hs : a.tmps[s]?.getD undef = .pointer (some ⟨g, 0, none⟩)) (ht : a.tmps[t]?.getD undef = y) (hu : a.tmps[u]?.getD undef = z) (hH : Has W g 24 #[x0, x1, x2, x3, x4]) (hd : a.defers = []) (h : R (.returned (.tuple #[.agg #[x0, x1, x2, x3, x4], y, z])) W) : bodyPost Tryz.prog fn R .ret a W := by
 have q0 := hH.cell 0
 have q1 := hH.cell 1
 have q2 := hH.cell 2
 have q3 := hH.cell 3
 have q4 := hH.cell 4
 exact bodyPost_ret (by simp only [results, hr]; simp [hs, ht, hu, go_sem, q0, q1, q2, q3, q4]) hd h
end
section
open Go.ChangeShapes Go.WideShapes Go.ChangeAt Go.RowKit
inductive Rd (w : World) : List Nd → Value → Prop where
 | mk (l : List Nd) (vs : List Value) (A : Option Addr) (C : Nat) : vs.length = l.length → l.length ≤ C → C ≤ 9223372036854775807 →
   (∀ i (h : i < l.length) (h' : i < vs.length), ∃ g off, A = some ⟨g, off, none⟩ ∧ g < w.heap.size ∧ ∀ j, j < 5 → w.cell? ⟨g, off + i * 5 + j, none⟩ = (ndc l[i] vs[i])[j]?) →
   (∀ i (h : i < l.length) (h' : i < vs.length), Rd w l[i].l vs[i]) → (∀ x ∈ l, x.s.length < maxLen ∧ x.op.length < maxLen) → Rd w l (.slice A l.length C)
theorem Rd.grow {w w' : World} {l : List Nd} {v : Value} (h : Rd w l v) (hb : Below w.heap.size w w') : Rd w' l v := by
 induction h with
 | mk l vs A C h1 h2 h3 h4 h5 h6 ih =>
   refine .mk l vs A C h1 h2 h3 (fun i h h' => ?_) ih h6
   obtain ⟨g, off, e, hg, hc⟩ := h4 i h h'
   exact ⟨g, off, e, Nat.lt_of_lt_of_le hg hb.size, fun j hj => (hb.cell (p := ⟨g, off + i * 5 + j, none⟩) hg).trans (hc j hj)⟩
theorem Rd.slice {w : World} {l : List Nd} {v : Value} (h : Rd w l v) : ∃ A C, v = .slice A l.length C ∧ l.length ≤ C ∧ C ≤ 9223372036854775807 := by
 cases h with
 | mk l vs A C h1 h2 h3 => exact ⟨A, C, rfl, h2, h3⟩
theorem Rd.get {w : World} {l : List Nd} {A : Option Addr} {L C : Nat} (h : Rd w l (.slice A L C)) (i : Nat) (hi : i < l.length) : ∃ g off u, A = some ⟨g, off, none⟩ ∧ g < w.heap.size ∧ (∀ j, j < 5 → w.cell? ⟨g, off + i * 5 + j, none⟩ = (ndc l[i] u)[j]?) ∧ Rd w l[i].l u ∧ l[i].s.length < maxLen ∧ l[i].op.length < maxLen := by
 cases h with
 | mk l vs A C h1 h2 h3 h4 h5 h6 =>
   obtain ⟨g, off, e, hg, hc⟩ := h4 i hi (by omega)
   obtain ⟨h7, h8⟩ := h6 _ (List.getElem_mem hi)
   exact ⟨g, off, vs[i], e, hg, hc, h5 i hi (by omega), h7, h8⟩
inductive Sml : Nd → Prop where
 | mk (op s : List UInt8) (n a : Int) (l : List Nd) : op.length ≤ 1000 → s.length ≤ 1000 → (∀ x ∈ l, Sml x) → Sml (.mk op s n a l)
theorem Sml.s {n : Nd} (h : Sml n) : n.s.length ≤ 1000 := by cases h; assumption
theorem Sml.op {n : Nd} (h : Sml n) : n.op.length ≤ 1000 := by cases h; assumption
theorem Sml.l {n : Nd} (h : Sml n) : ∀ x ∈ n.l, Sml x := by cases h; assumption
theorem NdR.rd {w : World} {P : Nat → Prop} {l : List Nd} {v : Value} (h : NdR w P l v) (hs : ∀ x ∈ l, Sml x) : Rd w l v := by
 induction h with
 | mk l vs v h1 h2 h3 h4 ih =>
   have hk := fun i (h : i < l.length) (h' : i < vs.length) => ih i h h' (hs _ (List.getElem_mem h)).l
   have hm : ∀ x ∈ l, x.s.length < maxLen ∧ x.op.length < maxLen := fun x hx => ⟨by have := (hs x hx).s; unfold maxLen; omega, by have := (hs x hx).op; unfold maxLen; omega⟩
   rcases h2.2 with ⟨rfl, h0⟩ | ⟨g, cap, cur, rfl, _, hg, hn, hm2, hsz, ht⟩
   · have : l = [] := List.length_eq_zero_iff.1 h0
     subst this
     exact .mk [] vs none 0 h1 (Nat.le_refl _) (by omega) (fun i h => by simp at h) hk hm
   · refine .mk l vs (some ⟨g, 0, none⟩) cap h1 hn hm2 (fun i h h' => ⟨g, 0, rfl, (Array.getElem?_eq_some_iff.1 hg).1, fun j hj => ?_⟩) hk hm
     rw [Nat.zero_add, ← ndl_get l vs i h h' j hj, ← ht, List.getElem?_take_of_lt (by omega), Array.getElem?_toList]
     exact cell_of_row w g (i * 5 + j) cur _ _ hg
def tok1 (x : List UInt8) : Option (Tk × Nat) := match Scan x with
 | .ok [t] => some t
 | _ => none
def TokenOne (o : Option (Tk × Nat)) : Value := match o with
 | some t => .tuple #[.agg (tkv t.1 t.2), .bool true]
 | none => .tuple #[.agg #[.int .i64 0, .string ⟨#[]⟩, .int .i64 0, .int .i64 0], .bool false]
def hasNm (x : List UInt8) : Bool := match tok1 x with
 | some t => isNm t.1 && t.1.s == x
 | none => false
def hasHx (x : List UInt8) : Bool := match tok1 (36 :: x) with
 | some t => t.1.kind == 2 && t.1.s == x
 | none => false
theorem ret_tokb {fn : Func} {R : Ending → World → Prop} {a : Act} {W : World} {s t g : Nat} {x0 x1 x2 x3 y : Value} (hr : fn.results = #[.cell s 100, .tmp t]) (hs : a.tmps[s]?.getD undef = .pointer (some ⟨g, 0, none⟩)) (ht : a.tmps[t]?.getD undef = y) (hH : Has W g 100 #[x0, x1, x2, x3]) (hd : a.defers = []) (h : R (.returned (.tuple #[.agg #[x0, x1, x2, x3], y])) W) : bodyPost Tryz.prog fn R .ret a W := by
 have q0 := hH.cell 0
 have q1 := hH.cell 1
 have q2 := hH.cell 2
 have q3 := hH.cell 3
 exact bodyPost_ret (by simp only [results, hr]; simp [hs, ht, go_sem, q0, q1, q2, q3]) hd h
theorem bel4 {w W : World} (h : Below w.heap.size w W) (x0 x1 x2 x3 : Value) : Below w.heap.size w ((((W.setCell ⟨w.heap.size, 0, none⟩ x0).setCell ⟨w.heap.size, 1, none⟩ x1).setCell ⟨w.heap.size, 2, none⟩ x2).setCell ⟨w.heap.size, 3, none⟩ x3) :=
 (((h.setCell (p := ⟨w.heap.size, 0, none⟩) (Nat.le_refl _) x0).setCell (p := ⟨w.heap.size, 1, none⟩) (Nat.le_refl _) x1).setCell (p := ⟨w.heap.size, 2, none⟩) (Nat.le_refl _) x2).setCell (p := ⟨w.heap.size, 3, none⟩) (Nat.le_refl _) x3
theorem token_c (x : List UInt8) (w : World) (hm : x.length ≤ maxLen) : Calls Tryz.prog 112 #[.string (bs x)] w fun e w' => e = .returned (TokenOne (tok1 x)) ∧ Below w.heap.size w w' := by
 have other : ∀ (A : Option Addr) (L C : Nat) (er o : Int), ¬ (L : Int) = 1 → (L : Int) ≤ 9223372036854775807 → (∀ W, Calls Tryz.prog 35 #[.string (bs x)] W fun e w' => ∃ A C, e = .returned (.tuple #[.slice A L C, .int .i64 er, .int .i64 o]) ∧ Below W.heap.size W w') → tok1 x = none →
   Calls Tryz.prog 112 #[.string (bs x)] w fun e w' => e = .returned (TokenOne (tok1 x)) ∧ Below w.heap.size w w' := by
  intro A L C er o hL hL2 hsc hn
  rw [hn]
  clear hn hm
  go_enter Tryz.func112, Tryz.ntmps112
  go_wp2_with (first
   | ((go_at_call 35)
      (refine (hsc _).mono ?_)
      (rintro e w1 ⟨A, C, rfl, hb1⟩)
      (have ha1 := (Has.new w 100 #[.int .i64 0, .string ⟨#[]⟩, .int .i64 0, .int .i64 0]).below hb1 (by simp))
      (have a0 := ha1.cell 0)
      (have a1 := ha1.cell 1)
      (have a2 := ha1.cell 2)
      (have a3 := ha1.cell 3)
      (have f0 := ha1.free 0)
      (have f1 := ha1.free 1)
      (have f2 := ha1.free 2)
      (have f3 := ha1.free 3)
      (have la := ha1.lt)))
  have hb : Below w.heap.size w w1 := (b_one w _).trans (hb1.mono (by simp))
  exact ret_tokb rfl rfl rfl (ha1.set4 _ _ _ _) rfl ⟨rfl, bel4 hb _ _ _ _⟩
 cases hS : Scan x with
 | error r =>
   obtain ⟨er, o⟩ := r
   exact other none 0 0 er o (by decide) (by decide) (fun W => (scan_err_c W x hm hS).mono fun e w' h => ⟨none, 0, h.1, h.2⟩) (by unfold tok1; rw [hS])
 | ok ts =>
   have hlen := (Scan_len hS).1
   have hsc := fun W => scan_ok_c W x hm hS
   by_cases h1 : ts.length = 1
   · obtain ⟨t, rfl⟩ := List.length_eq_one_iff.1 h1
     have hT : tok1 x = some t := by unfold tok1; rw [hS]
     rw [hT]
     have hsc' : ∀ W, Calls Tryz.prog 35 #[.string (bs x)] W fun e w' => ∃ g C, e = .returned (.tuple #[.slice (some ⟨g, 0, none⟩) 1 C, .int .i64 0, .int .i64 (-1)]) ∧ Below W.heap.size W w' ∧ g < w'.heap.size ∧ 1 ≤ C ∧ C ≤ 9223372036854775807 ∧ w'.cell? ⟨g, 0, none⟩ = some (.int .i64 (t.1.kind : Nat)) ∧ w'.cell? ⟨g, 1, none⟩ = some (.string (bs t.1.s)) ∧ w'.cell? ⟨g, 2, none⟩ = some (.int .i64 (t.1.n : Nat)) ∧ w'.cell? ⟨g, 3, none⟩ = some (.int .i64 (t.2 : Nat)) := by
      intro W
      refine (hsc W).mono ?_
      rintro e w' ⟨A, C, rfl, hb, htr⟩
      obtain ⟨g, C', e, q1, q2, q3, q4, _, hc⟩ := htr.lies (by simp)
      cases e
      exact ⟨g, C, rfl, hb, q2, q3, q4, hc 0 (by simp) 0 (by decide), hc 0 (by simp) 1 (by decide), hc 0 (by simp) 2 (by decide), hc 0 (by simp) 3 (by decide)⟩
     clear hsc hT hS h1 other hm hlen
     go_enter Tryz.func112, Tryz.ntmps112
     go_wp2_with (first
      | ((go_at_call 35)
         (refine (hsc' _).mono ?_)
         (rintro e w1 ⟨g, C, rfl, hb1, hgl, hC1, hC2, d0, d1, d2, d3⟩)
         (have ha1 := (Has.new w 100 #[.int .i64 0, .string ⟨#[]⟩, .int .i64 0, .int .i64 0]).below hb1 (by simp))
         (have a0 := ha1.cell 0)
         (have a1 := ha1.cell 1)
         (have a2 := ha1.cell 2)
         (have a3 := ha1.cell 3)
         (have f0 := ha1.free 0)
         (have f1 := ha1.free 1)
         (have f2 := ha1.free 2)
         (have f3 := ha1.free 3)
         (have la := ha1.lt)))
     have hb : Below w.heap.size w w1 := (b_one w _).trans (hb1.mono (by simp))
     exact ret_tokb rfl rfl rfl (ha1.set4 _ _ _ _) rfl ⟨rfl, bel4 hb _ _ _ _⟩
   · refine other none ts.length 0 0 (-1) (by omega) (by omega) (fun W => (hsc W).mono fun e w' ⟨A, C, h, hb, _⟩ => ⟨A, C, h, hb⟩) ?_
     unfold tok1
     rw [hS]
     match ts, h1 with
     | [], _ => rfl
     | [t], h => exact absurd rfl h
     | _ :: _ :: _, _ => rfl
end
end Go.Proofs.YthndifegfmjpbaaGreatDoor
