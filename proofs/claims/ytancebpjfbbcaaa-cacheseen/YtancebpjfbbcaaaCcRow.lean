/- cache: the laws' rows of sectors: three times six slices. -/
import Derived.Test.YtancebpjfbbcaaaCcFull
import Derived.Test.YtancebpjfbbcaaaCcScr
namespace Go.Proofs.Ytancebpjfbbcaaa
open Go.ChangeShapes Go.WideShapes Go.ChangeAt Go.RowKit Go.MapKept
set_option linter.unusedVariables false

def c18 (U : Nat → Value) : Array Value := ((List.range 18).map U).toArray
theorem c18_size (U : Nat → Value) : (c18 U).size = 18 := by simp [c18]
theorem c18_get (U : Nat → Value) {j : Nat} (hj : j < 18) : (c18 U)[j]? = some (U j) := by
  unfold c18
  rw [List.getElem?_toArray, List.getElem?_map, List.getElem?_range hj]
  rfl

/-- What is laid by of a sector: nothing, or its bytes. -/
def VV (w : World) (H : Nat → Prop) (v : Value) (q : Option (Nat → Nat)) : Prop := (q = none ∧ v = .slice none 0 0) ∨ ∃ f g c cur, q = some f ∧ v = .slice (some ⟨g, 0, none⟩) 64 c ∧ 64 ≤ c ∧ Bytes w (some ⟨g, 0, none⟩) 64 f ∧ (∀ j, f j < 256) ∧ ¬ H g ∧ Has w g 5 cur

variable {w w' : World} {H H' : Nat → Prop} {v : Value} {q : Option (Nat → Nat)} {g : Nat} {U : Nat → Value} {Q : Nat → Nat → Option (Nat → Nat)}

theorem VV.keep (h : VV w H v q) (hk : ∀ k cur, ¬ H k → Has w k 5 cur → w'.heap[k]? = w.heap[k]? ∧ ¬ H' k) : VV w' H' v q := by
  rcases h with h | ⟨f, g, c, cur, h1, h2, h3, h4, h5, h6, h7⟩
  · exact .inl h
  · obtain ⟨e1, e2⟩ := hk g cur h6 h7
    refine .inr ⟨f, g, c, cur, h1, h2, h3, ?_, h5, e2, e1.trans h7⟩
    rcases h4 with h0 | ⟨b, o, e, hb, hc⟩
    · cases h0
    · cases e
      have hh : Has w' g 5 cur := e1.trans h7
      exact .inr ⟨g, 0, rfl, hh.lt, fun j hj => (World.cell?_of_block e1).trans (hc j hj)⟩

theorem VV.below (h : VV w H v q) (hb : Below w.heap.size w w') : VV w' H v q := h.keep (fun k cur hk hh => ⟨hb.block k hh.lt, hk⟩)
theorem VV.step (h : VV w H v q) (ho : Only H w w') (hg : Grew w H H') : VV w' H' v q := h.keep (fun k cur hk hh => ⟨ho.block k hh.lt hk, fun e => (hg k e).elim hk (fun e2 => absurd hh.lt (Nat.not_lt.2 e2))⟩)
theorem VV.rows (h : VV w H v q) {t : Nat} {cs : Array Value} (hg : Has w g t cs) (ht : t ≠ 5) (ho : Only (fun k => k = g) w w') : VV w' H v q := h.keep (fun k cur hk hh => ⟨ho.block k hh.lt (fun e => by
  subst e
  have h1 : w.heap[k]? = some (.cells cur 5 (0, 0)) := hh
  have h2 : w.heap[k]? = some (.cells cs t (0, 0)) := hg
  rw [h2] at h1
  injection h1 with h1
  injection h1 with _ h1
  exact ht h1), hk⟩)
theorem VV.one (h : VV w H v q) : v.oneCell' = true := by
  rcases h with ⟨_, rfl⟩ | ⟨f, g, c, cur, _, rfl, _⟩ <;> rfl
theorem VV.nil (w : World) (H : Nat → Prop) : VV w H (.slice none 0 0) none := .inl ⟨rfl, rfl⟩

structure Row18 (w : World) (H : Nat → Prop) (g : Nat) (U : Nat → Value) (Q : Nat → Nat → Option (Nat → Nat)) : Prop where
  has : Has w g 60 (c18 U)
  out : ¬ H g
  at_ : ∀ d s, d < 3 → s < 6 → VV w H (U (d * 6 + s)) (Q d s)

theorem Row18.below (h : Row18 w H g U Q) (hb : Below w.heap.size w w') : Row18 w' H g U Q := ⟨h.has.below hb h.has.lt, h.out, fun d s hd hs => (h.at_ d s hd hs).below hb⟩
theorem Row18.step (h : Row18 w H g U Q) (ho : Only H w w') (hg : Grew w H H') : Row18 w' H' g U Q :=
  ⟨(ho.block g h.has.lt h.out).trans h.has, fun e => (hg g e).elim h.out (fun e2 => absurd h.has.lt (Nat.not_lt.2 e2)), fun d s hd hs => (h.at_ d s hd hs).step ho hg⟩
theorem Row18.rows (h : Row18 w H g U Q) {g' : Nat} {cs : Array Value} (hg : Has w g' 60 cs) (hne : g ≠ g') (ho : Only (fun k => k = g') w w') : Row18 w' H g U Q :=
  ⟨(ho.block g h.has.lt hne).trans h.has, h.out, fun d s hd hs => (h.at_ d s hd hs).rows hg (by decide) ho⟩
theorem Row18.congr (h : Row18 w H g U Q) {Q' : Nat → Nat → Option (Nat → Nat)} (e : ∀ d s, d < 3 → s < 6 → Q d s = Q' d s) : Row18 w H g U Q' := ⟨h.has, h.out, fun d s hd hs => e d s hd hs ▸ h.at_ d s hd hs⟩

def updU (U : Nat → Value) (i : Nat) (v : Value) : Nat → Value := fun j => if j = i then v else U j

theorem c18_set (U : Nat → Value) (i : Nat) (v : Value) : (c18 U).setIfInBounds i v = c18 (updU U i v) := by
  apply Array.ext_getElem?
  intro j
  rw [Array.getElem?_setIfInBounds]
  by_cases hj : j < 18
  · rw [c18_get _ hj, c18_get _ hj, c18_size]
    unfold updU
    by_cases e : i = j
    · subst e
      rw [if_pos rfl, if_pos hj, if_pos rfl]
    · rw [if_neg e, if_neg (fun e2 => e e2.symm)]
  · rw [Array.getElem?_eq_none (by rw [c18_size]; omega), Array.getElem?_eq_none (by rw [c18_size]; omega)]
    split
    · rw [if_neg (by rw [c18_size]; omega)]
    · rfl

/-- One is laid by. -/
theorem Row18.put (h : Row18 w H g U Q) {d s : Nat} (hd : d < 3) (hs : s < 6) {v : Value} {q : Option (Nat → Nat)} (hv : VV w H v q) : Row18 (w.setCell ⟨g, d * 6 + s, none⟩ v) H g (updU U (d * 6 + s) v) (fun d' s' => if d' = d ∧ s' = s then q else Q d' s') := by
  have ho := only_setCell w g (d * 6 + s) v
  refine ⟨by rw [← c18_set]; exact h.has.setV _ v, h.out, fun d' s' hd' hs' => ?_⟩
  unfold updU
  by_cases e : d' = d ∧ s' = s
  · obtain ⟨rfl, rfl⟩ := e
    rw [if_pos rfl, if_pos ⟨rfl, rfl⟩]
    exact hv.rows h.has (by decide) ho
  · rw [if_neg (by omega), if_neg e]
    exact (h.at_ d' s' hd' hs').rows h.has (by decide) ho

/-- All of them are nothing. -/
theorem Row18.nils (hh : Has w g 60 (c18 fun _ => .slice none 0 0)) (ho : ¬ H g) : Row18 w H g (fun _ => .slice none 0 0) (fun _ _ => none) := ⟨hh, ho, fun _ _ _ _ => VV.nil _ _⟩

theorem Row18.cell (h : Row18 w H g U Q) {d s : Nat} (hd : d < 3) (hs : s < 6) : w.cell? ⟨g, d * 6 + s, none⟩ = some (U (d * 6 + s)) := (h.has.cell _).trans (c18_get U (by omega))

theorem run_at_18 {o : Oper} {a : Act} (x i : Operand) (ho : o.op = .indexAddr 60 x i) (g k : Nat) (hx : a.eval x = .pointer (some ⟨g, 0, none⟩)) (hi : a.eval i = .int .i64 (k : Nat)) (hk : k < 3) (w : World) : (execOp a.eval o).run Try.prog w = .ok (.value (.pointer (some ⟨g, k * 6, none⟩))) w := by
  unfold execOp
  rcases (show k = 0 ∨ k = 1 ∨ k = 2 by omega) with rfl | rfl | rfl <;> (simp only [ho, hx, hi]; go_simp)

theorem run_at_6 {o : Oper} {a : Act} (x i : Operand) (ho : o.op = .indexAddr 59 x i) (g d k : Nat) (hx : a.eval x = .pointer (some ⟨g, d, none⟩)) (hi : a.eval i = .int .i64 (k : Nat)) (hk : k < 6) (w : World) : (execOp a.eval o).run Try.prog w = .ok (.value (.pointer (some ⟨g, d + k, none⟩))) w := by
  have i0 : (k : Int) < 6 := by omega
  have i1 : (0 : Int) ≤ (k : Int) := by omega
  unfold execOp
  simp only [ho, hx, hi]
  go_simp

theorem zero18 : c18 (fun _ => .slice none 0 0) = #[.slice none 0 0, .slice none 0 0, .slice none 0 0, .slice none 0 0, .slice none 0 0, .slice none 0 0, .slice none 0 0, .slice none 0 0, .slice none 0 0, .slice none 0 0, .slice none 0 0, .slice none 0 0, .slice none 0 0, .slice none 0 0, .slice none 0 0, .slice none 0 0, .slice none 0 0, .slice none 0 0] := rfl

theorem Try.size60 : (Try.prog.info? 60).map (·.size) = some 18 := by kernel_rfl

theorem run_load_opC {o : Oper} {a : Act} (x : Operand) (ho : o.op = .load 41 x) (b off : Nat) (hx : a.eval x = .pointer (some ⟨b, off, none⟩)) (v : OpC) (w : World) (h : OpCIn w b off v) : (execOp a.eval o).run Try.prog w = .ok (.value (.agg #[.int .i64 v.k, .int .i64 v.d, .int .i64 v.i, .slice v.a v.L v.C])) w :=
  run_load_many x ho b off hx [.int .i64 v.k, .int .i64 v.d, .int .i64 v.i, .slice v.a v.L v.C] _ Try.underlying41 rfl (by kernel_rfl) w (fun j u hu => by
    rcases (show j = 0 ∨ j = 1 ∨ j = 2 ∨ j = 3 ∨ 4 ≤ j by omega) with rfl | rfl | rfl | rfl | hj
    · rw [← hu]; exact h.c0
    · rw [← hu]; exact h.c1
    · rw [← hu]; exact h.c2
    · rw [← hu]; exact h.c3
    · rw [List.getElem?_eq_none (by simpa using hj)] at hu
      cases hu)

theorem Try.sizeOpC : (Try.prog.info? 41).map (·.size) = some 4 := by kernel_rfl
theorem kByC : KindC 39 5 1 1 := ⟨Try.underlying39, ⟨.int .u8 0, by kernel_rfl, rfl⟩, by decide, by decide⟩

theorem run_load_byC {o : Oper} {a : Act} (x : Operand) (ho : o.op = .load 39 x) (p : Addr) (hx : a.eval x = .pointer (some p)) (v : Value) (w : World) (h : w.cell? p = some v) : (execOp a.eval o).run Try.prog w = .ok (.value v) w := by
  unfold execOp
  simp only [ho, hx]
  go_simp

theorem run_store_byC {o : Oper} {a : Act} (x y : Operand) (ho : o.op = .store 39 x y) (p : Addr) (hx : a.eval x = .pointer (some p)) (A : Option Addr) (n c : Nat) (hy : a.eval y = .slice A n c) (w : World) (u : Value) (h : w.cell? p = some u) (hf : w.frozen? p = false) : (execOp a.eval o).run Try.prog w = .ok .skip (w.setCell p (.slice A n c)) := by
  unfold execOp
  simp only [ho, hx, hy]
  go_simp

/-- The kept row, where some of the open one's have come to it. -/
def mixQ (l : List Wr) (L : List (List Wr)) (n : Nat) (d s : Nat) : Option (Nat → Nat) := if d * 6 + s < n then (lookE l d s).or (lookL L d s) else lookL L d s

theorem mix_zero (l : List Wr) (L : List (List Wr)) (d s : Nat) : mixQ l L 0 d s = lookL L d s := if_neg (Nat.not_lt_zero _)
theorem mix_end (l : List Wr) (L : List (List Wr)) {d s : Nat} (hd : d < 3) (hs : s < 6) : mixQ l L 18 d s = lookL (if l = [] then L else L ++ [l]) d s := by
  unfold mixQ
  rw [if_pos (by omega)]
  by_cases e : l = []
  · rw [if_pos e, e]
    rfl
  · rw [if_neg e, lookL_snoc]
theorem mix_next (l : List Wr) (L : List (List Wr)) {k j d s : Nat} (hj : j < 6) (hs : s < 6) : mixQ l L (k * 6 + (j + 1)) d s = if d = k ∧ s = j then (lookE l k j).or (lookL L k j) else mixQ l L (k * 6 + j) d s := by
  unfold mixQ
  by_cases e : d = k ∧ s = j
  · obtain ⟨rfl, rfl⟩ := e
    rw [if_pos (by omega), if_pos ⟨rfl, rfl⟩]
  · rw [if_neg e]
    by_cases h : d * 6 + s < k * 6 + j
    · rw [if_pos h, if_pos (by omega)]
    · rw [if_neg h, if_neg (by omega)]
end Go.Proofs.Ytancebpjfbbcaaa
