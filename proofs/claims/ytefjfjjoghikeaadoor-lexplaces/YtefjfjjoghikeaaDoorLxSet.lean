/- A token's place is set; tokens are appended to tokens. -/
import Derived.Test.YtefjfjjoghikeaaDoorLxSame
import Derived.Test.YtefjfjjoghikeaaDoorLxLawM
namespace Go.Proofs.YtefjfjjoghikeaaDoor
open Go.ChangeShapes Go.WideShapes Go.ChangeAt Go.RowKit
set_option linter.unusedVariables false

theorem tkl_cons (t : Tk × Nat) (r : Toks) : tkl (t :: r) = (tkv t.1 t.2).toList ++ tkl r := by simp [tkl]

theorem tkl_set (ts : Toks) (k p : Nat) (h : k < ts.length) : (tkl ts).set (k * 4 + 3) (.int .i64 (p : Nat)) = tkl (ts.set k (ts[k].1, p)) := by
  induction ts generalizing k with
  | nil => simp at h
  | cons t r ih =>
    cases k with
    | zero =>
      simp only [List.set_cons_zero, List.getElem_cons_zero]
      rw [tkl_cons, tkl_cons]
      simp [tkv]
    | succ k =>
      simp only [List.length_cons] at h
      simp only [List.set_cons_succ, List.getElem_cons_succ]
      rw [tkl_cons, tkl_cons, List.set_append]
      rw [if_neg (by simp [tkv]; omega), ← ih k (by omega)]
      congr 2
      simp [tkv]
      omega

theorem setCell_heap {w : World} {g e : Nat} {cur : Array Value} (h : Has w g e cur) (j : Nat) (v : Value) : Has (w.setCell ⟨g, j, none⟩ v) g e (cur.setIfInBounds j v) := by
  have h' : w.heap[g]? = some (.cells cur e (0, 0)) := h
  show (w.setCell ⟨g, j, none⟩ v).heap[g]? = _
  simp [World.setCell, Array.getElem?_modify, h']

/-- The k-th token's place is set. -/
theorem TokRow.set {w : World} {base : Nat} {v : Value} {ts : Toks} (h : TokRow w base v ts) {g : Nat} {L C : Nat} (hv : v = .slice (some ⟨g, 0, none⟩) L C) (k p : Nat) (hk : k < ts.length) : TokRow (w.setCell ⟨g, k * 4 + 3, none⟩ (.int .i64 (p : Nat))) base v (ts.set k (ts[k].1, p)) := by
  subst hv
  rcases h.2 with ⟨e, h0⟩ | ⟨g', cap, cur, e, h1, hg, hn, hm, hs, ht⟩
  · cases e
  · cases e
    have hlen : (ts.set k (ts[k].1, p)).length = ts.length := by simp
    refine ⟨by rw [hlen, tkl_len, hlen], .inr ⟨g, C, cur.setIfInBounds (k * 4 + 3) (.int .i64 (p : Nat)), by rw [hlen], h1, setCell_heap hg _ _, by rw [hlen]; exact hn, hm, by simp [hs], ?_⟩⟩
    rw [hlen, ← tkl_set ts k p hk, ← ht, Array.toList_setIfInBounds, List.take_set]

theorem TokRow.own_lt {w : World} {base : Nat} {v : Value} {ts : Toks} (h : TokRow w base v ts) {g L C : Nat} (hv : v = .slice (some ⟨g, 0, none⟩) L C) : base ≤ g ∧ g < w.heap.size := by
  have := row_lt h (g := g) (by rw [hv]; rfl)
  exact ⟨this.2, this.1⟩

/-- What lies elsewhere is not touched. -/
theorem TokRow.other {w : World} {base : Nat} {v : Value} {ts : Toks} (h : TokRow w base v ts) {g j : Nat} {u : Value} (hne : v.ownBlock ≠ some g) : TokRow (w.setCell ⟨g, j, none⟩ u) base v ts :=
  row_grown h (fun g' o e ho => (Below.heap_setCell w ⟨g, j, none⟩ u g' (fun e' => hne (by rw [e, e']))).trans ho)

/-- Places of the first k set by f. -/
def turned (f : Nat → Nat → Nat) (k : Nat) (ts : Toks) : Toks := (ts.mapIdx fun i t => if i < k then (t.1, f i t.2) else t)

theorem turned_len (f : Nat → Nat → Nat) (k : Nat) (ts : Toks) : (turned f k ts).length = ts.length := by simp [turned]

theorem turned_zero (f : Nat → Nat → Nat) (ts : Toks) : turned f 0 ts = ts := by
  unfold turned
  apply List.ext_getElem
  · simp
  · intro i h1 h2; simp

theorem turned_get (f : Nat → Nat → Nat) (k : Nat) (ts : Toks) (i : Nat) (h : i < ts.length) : (turned f k ts)[i]'(by rw [turned_len]; exact h) = if i < k then (ts[i].1, f i ts[i].2) else ts[i] := by simp [turned]

theorem turned_step (f : Nat → Nat → Nat) (k : Nat) (ts : Toks) (h : k < ts.length) : (turned f k ts).set k (((turned f k ts)[k]'(by rw [turned_len]; exact h)).1, f k ts[k].2) = turned f (k + 1) ts := by
  apply List.ext_getElem
  · simp [turned]
  · intro i h1 h2
    have hi : i < ts.length := by rw [turned_len] at h2; exact h2
    rw [List.getElem_set, turned_get _ _ _ _ hi, turned_get _ _ _ _ hi, turned_get _ _ _ _ h]
    by_cases e : k = i
    · subst e; simp
    · rw [if_neg e]
      by_cases hik : i < k
      · rw [if_pos hik, if_pos (by omega)]
      · rw [if_neg hik, if_neg (by omega)]

theorem turned_all (f : Nat → Nat → Nat) (ts : Toks) : turned f ts.length ts = ts.mapIdx fun i t => (t.1, f i t.2) := by
  apply List.ext_getElem
  · simp [turned]
  · intro i h1 h2
    have hi : i < ts.length := by rw [turned_len] at h1; exact h1
    rw [turned_get _ _ _ _ hi, if_pos hi]
    simp

theorem turned_further (d : Nat) (ts : Toks) : turned (fun _ p => p + d) ts.length ts = further d ts := by
  rw [turned_all]
  unfold further
  apply List.ext_getElem
  · simp
  · intro i h1 h2; simp

/-- Tokens are appended to tokens of the call's own. -/
theorem wpList_append_toks {ops : Array Oper} {rest : List Oper} {o : Oper} {a : Act} {w : World} {Q : Exit → Act → World → Prop} (hgd : o.guard = none) (s x : Operand)
    (ho : o.op = .call { callee := .builtin .append, args := #[s, x], argTypes := #[24, 24] }) (base : Nat) (v : Value) (ts : Toks) (hs : a.eval s = v) (hown : TokRow w base v ts)
    (v2 : Value) (us : Toks) (b2 : Nat) (hx : a.eval x = v2) (hr : TokRow w b2 v2 us) (hn : ts.length + us.length ≤ 500) (hbase : base ≤ w.heap.size)
    (h : ∀ v' w', TokRow w' base v' (ts ++ us) → Below base w w' → wpList Tryd.prog ops Q rest (a.put o.dst v') w') : wpList Tryd.prog ops Q (o :: rest) a w := by
  obtain ⟨i0, hi, hz0, hz1, hz2⟩ := info_parts Tryd.infoTok
  rcases hr.2 with ⟨rfl, h0⟩ | ⟨g, cap, cur, rfl, h1, hg, hn2, hm, hs2, ht⟩
  · have hu : us = [] := List.length_eq_zero_iff.1 h0
    subst hu
    refine wpList_append_own_none hgd s x 24 ho base 30 i0 4 Tryd.underlying24 hi v ts.length (tkl ts) hs hown hx ?_
    exact h v w (by rw [List.append_nil]; exact hown) ((Below.refl _ _).mono hbase)
  · refine wpList_append_own w hgd s x 24 ho base 30 i0 (.agg #[.int .i64 0, .string ⟨#[]⟩, .int .i64 0, .int .i64 0]) 4 40 Tryd.underlying24 hi hz0 hz1 hz2 rfl (by decide) v ts.length (tkl ts) hs hown ⟨g, 0, none⟩ us.length cap (tkl us) hx (tkl_len us) ?_ (tkl_cells us) (by unfold maxLen; omega) (by omega) hbase ?_
    · intro j u hj
      have hj2 : j < us.length * 4 := by
        have := (List.getElem?_eq_some_iff.1 hj).1
        rw [tkl_len] at this
        exact this
      rw [show (⟨g, 0, none⟩ : Addr).add j = ⟨g, j, none⟩ by simp [Addr.add]; omega]
      refine (cell_of_row w g j cur _ _ hg).trans ?_
      rw [← Array.getElem?_toList, ← hj, ← ht, List.getElem?_take_of_lt hj2]
    · intro v' w' h1 h2 _
      refine h v' w' ?_ (grown_own hown h2 hbase)
      show w'.ownsRow base 30 4 v' (ts ++ us).length (tkl (ts ++ us))
      rw [tkl_append, List.length_append]
      exact h1
end Go.Proofs.YtefjfjjoghikeaaDoor
