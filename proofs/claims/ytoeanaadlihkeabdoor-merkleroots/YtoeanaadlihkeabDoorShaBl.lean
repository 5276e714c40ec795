/- Byte slices that a call makes; appending bytes to them. -/
import Derived.Test.YtoeanaadlihkeabDoorShaSum
import Derived.Laws.AppendOwnNone
import Derived.OwnWalk
namespace Go.Proofs.YtoeanaadlihkeabDoor
open Go.ChangeShapes Go.WideShapes Go.ChangeAt Go.RowKit
set_option linter.unusedVariables false

def bl (f : Nat → Nat) (n : Nat) : List Value := (List.range n).map fun j => Value.int .u8 (f j : Nat)

/-- f's first n, and g behind them. -/
def cat (f : Nat → Nat) (n : Nat) (g : Nat → Nat) : Nat → Nat := fun j => if j < n then f j else g (j - n)

theorem bl_len (f : Nat → Nat) (n : Nat) : (bl f n).length = n * 1 := by simp [bl]

theorem bl_get (f : Nat → Nat) (n j : Nat) (h : j < n) : (bl f n)[j]? = some (.int .u8 (f j : Nat)) := by simp [bl, h]

theorem bl_one (f : Nat → Nat) (n : Nat) : ∀ u ∈ bl f n, u.oneCell' = true := by
  intro u hu
  obtain ⟨j, _, rfl⟩ := List.mem_map.1 hu
  rfl

theorem bl_cat (f g : Nat → Nat) (n l : Nat) : bl f n ++ bl g l = bl (cat f n g) (n + l) := by
  unfold bl
  rw [List.range_add, List.map_append, List.map_map]
  congr 1
  · apply List.map_congr_left
    intro j hj
    have : j < n := by simpa using hj
    simp only [cat, if_pos this]
  · apply List.map_congr_left
    intro j hj
    simp only [Function.comp, cat]
    rw [if_neg (by omega), show n + j - n = j from by omega]

theorem bl_cat_zero (f g : Nat → Nat) (n : Nat) : bl (cat f n g) (n + 0) = bl f n := by
  rw [← bl_cat f g n 0]
  simp [bl]

theorem cat_lt (f g : Nat → Nat) (n : Nat) (hf : ∀ j, f j < 256) (hg : ∀ j, g j < 256) (j : Nat) : cat f n g j < 256 := by
  unfold cat
  split
  · exact hf _
  · exact hg _

theorem grownBy_refl (w : World) (r : Option Nat) : w.grownBy w r := ⟨rfl, rfl, rfl, Nat.le_refl _, fun _ _ _ => rfl⟩

/-- One append of bytes, nil or not, to a row of the call's own. -/
theorem wpList_append_bytes {ops : Array Oper} {rest : List Oper} {o : Oper} {a : Act} {w : World} {Q : Exit → Act → World → Prop} (hgd : o.guard = none) (s x : Operand)
    (ho : o.op = .call { callee := .builtin .append, args := #[s, x], argTypes := #[22, 22] }) (base : Nat) (v : Value) (n : Nat) (f : Nat → Nat) (hs : a.eval s = v) (hown : w.ownsRow base 5 1 v n (bl f n))
    (A : Option Addr) (L C : Nat) (g : Nat → Nat) (hx : a.eval x = .slice A L C) (hnil : A = none → L = 0 ∧ C = 0) (hb : Bytes w A L g) (h63 : n + L ≤ 140737488355328) (hbase : base ≤ w.heap.size)
    (h : ∀ v' w', w'.ownsRow base 5 1 v' (n + L) (bl (cat f n g) (n + L)) → w.grownBy w' v.ownBlock → wpList Tryd.prog ops Q rest (a.put o.dst v') w') : wpList Tryd.prog ops Q (o :: rest) a w := by
  obtain ⟨i0, hi, hz0, hz1, hz2⟩ := info_parts Tryd.info5
  cases A with
  | none =>
    obtain ⟨rfl, rfl⟩ := hnil rfl
    refine wpList_append_own_none hgd s x 22 ho base 5 i0 1 Tryd.underlying22 hi v n _ hs hown hx ?_
    exact h v w (by rw [bl_cat_zero]; exact hown) (grownBy_refl _ _)
  | some ad =>
    refine wpList_append_own w hgd s x 22 ho base 5 i0 (.int .u8 0) 1 1 Tryd.underlying22 hi hz0 hz1 hz2 rfl (by decide) v n _ hs hown ad L C (bl g L) hx (bl_len g L) ?_ (bl_one g L) (by unfold maxLen; omega) (by omega) hbase ?_
    · intro j u hj
      by_cases hjl : j < L
      · rw [bl_get g L j hjl] at hj
        rcases hb with h0 | ⟨b, off, e, _, hc⟩
        · omega
        · obtain rfl : ad = ⟨b, off, none⟩ := Option.some.inj e
          have e1 : (⟨b, off, none⟩ : Addr).add j = ⟨b, off + j, none⟩ := by unfold Addr.add; split <;> simp_all
          rw [e1, hc j hjl]
          exact hj
      · rw [List.getElem?_eq_none (by rw [bl_len]; omega)] at hj
        simp at hj
    · intro v' w' h1 h2 _
      rw [bl_cat] at h1
      exact h v' w' h1 h2

/-- What is owned, as bytes of a slice. -/
theorem own_bytes {w : World} {base n : Nat} {v : Value} {f : Nat → Nat} (h : w.ownsRow base 5 1 v n (bl f n)) : ∃ a cap, v = .slice a n cap ∧ n ≤ cap ∧ (a = none → n = 0 ∧ cap = 0) ∧ Bytes w a n f ∧ ∀ b off, a = some ⟨b, off, none⟩ → base ≤ b ∧ b < w.heap.size := by
  rcases h.2 with ⟨rfl, rfl⟩ | ⟨g, cap, cur, rfl, hb, hg, hn, hm, hs, ht⟩
  · exact ⟨none, 0, rfl, Nat.le_refl _, fun _ => ⟨rfl, rfl⟩, .inl rfl, fun b off e => by cases e⟩
  · have hlt : g < w.heap.size := (Array.getElem?_eq_some_iff.1 hg).1
    refine ⟨some ⟨g, 0, none⟩, cap, rfl, hn, (fun e => by cases e), .inr ⟨g, 0, rfl, hlt, ?_⟩, ?_⟩
    · intro j hj
      rw [cell_of_row w g (0 + j) cur 5 (0, 0) hg, Nat.zero_add]
      have := bl_get f n j hj
      rw [← ht, List.getElem?_take_of_lt (by omega), Array.getElem?_toList] at this
      exact this
    · intro b off e
      simp only [Option.some.injEq, Addr.mk.injEq, and_true] at e
      omega

theorem own_below {w w' : World} {base B n : Nat} {v : Value} {xs : List Value} (h : w.ownsRow base 5 1 v n xs) (hb : Below B w w') (hB : ∀ g, v.ownBlock = some g → g < B) : w'.ownsRow base 5 1 v n xs := by
  refine ⟨h.1, ?_⟩
  rcases h.2 with h0 | ⟨g, cap, cur, hv, h1, hg, r⟩
  · exact .inl h0
  · exact .inr ⟨g, cap, cur, hv, h1, (hb.block g (hB g (by rw [hv]; rfl))).trans hg, r⟩

theorem own_but {w w' : World} {base g0 n : Nat} {v : Value} {xs : List Value} (h : w.ownsRow base 5 1 v n xs) (hb : But g0 w w') (hB : g0 < base) : w'.ownsRow base 5 1 v n xs := by
  refine ⟨h.1, ?_⟩
  rcases h.2 with h0 | ⟨g, cap, cur, hv, h1, hg, r⟩
  · exact .inl h0
  · exact .inr ⟨g, cap, cur, hv, h1, (hb.2.2.2.2 g (Array.getElem?_eq_some_iff.1 hg).1 (by omega)).trans hg, r⟩

theorem Hash.below {H0 K m : Nat → Nat} {w w' : World} {g N B : Nat} (h : Hash H0 K w g m N) (hb : Below B w w') (hg : g < B) : Hash H0 K w' g m N := by
  obtain ⟨rest, h1, h2, h3⟩ := h
  exact ⟨rest, h1, h2, h3.below hb hg⟩

theorem Hash.lt {H0 K m : Nat → Nat} {w : World} {g N : Nat} (h : Hash H0 K w g m N) : g < w.heap.size := by
  obtain ⟨rest, h1, h2, h3⟩ := h
  exact h3.lt

theorem Hash.but {H0 K m : Nat → Nat} {w w' : World} {g g0 N : Nat} (h : Hash H0 K w g m N) (hb : But g0 w w') (hg : g ≠ g0) : Hash H0 K w' g m N := by
  obtain ⟨rest, h1, h2, h3⟩ := h
  exact ⟨rest, h1, h2, (hb.2.2.2.2 g h3.lt hg).trans h3⟩

theorem Hash.grown {H0 K m : Nat → Nat} {w w' : World} {g N : Nat} {r : Option Nat} (h : Hash H0 K w g m N) (hb : w.grownBy w' r) (hg : some g ≠ r) : Hash H0 K w' g m N := by
  obtain ⟨rest, h1, h2, h3⟩ := h
  exact ⟨rest, h1, h2, (hb.block g h3.lt hg).trans h3⟩

theorem cat_zero (f g : Nat → Nat) : cat f 0 g = g := by funext j; simp [cat]

theorem bl_set (f : Nat → Nat) (n q v : Nat) : (bl f n).set q (.int .u8 (v : Nat)) = bl (upd f q v) n := by
  apply List.ext_getElem?
  intro i
  rw [List.getElem?_set]
  by_cases hi : i < n
  · rw [bl_get _ _ _ hi, bl_get _ _ _ hi, show (bl f n).length = n from by simp [bl]]
    by_cases e : q = i
    · subst e; simp [upd, hi]
    · have : ¬ i = q := fun h => e h.symm
      simp [upd, e, this]
  · rw [List.getElem?_eq_none (by simp [bl]; omega), List.getElem?_eq_none (by simp [bl]; omega), show (bl f n).length = n from by simp [bl]]
    split
    · subst_vars; simp [hi]
    · rfl

theorem Bytes.congr {w : World} {a : Option Addr} {len : Nat} {m m' : Nat → Nat} (h : Bytes w a len m) (hm : ∀ j, j < len → m' j = m j) : Bytes w a len m' := by
  rcases h with h | ⟨b, off, h1, h2, h3⟩
  · exact .inl h
  · exact .inr ⟨b, off, h1, h2, fun j hj => by rw [hm j hj]; exact h3 j hj⟩

theorem cat_cat (f g : Nat → Nat) (n : Nat) : cat (cat f n g) n g = cat f n g := by
  funext j
  unfold cat
  by_cases h : j < n
  · rw [if_pos h, if_pos h]
  · rw [if_neg h, if_neg h]

end Go.Proofs.YtoeanaadlihkeabDoor
