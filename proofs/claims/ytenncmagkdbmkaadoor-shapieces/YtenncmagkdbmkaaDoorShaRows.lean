/- Byte slices that a law's call makes; appending bytes to them. -/
import Derived.Test.YtenncmagkdbmkaaDoorShaAlive
import Derived.Laws.AppendOwnNone
namespace Go.Proofs.YtenncmagkdbmkaaDoor
open Go.ChangeShapes Go.WideShapes Go.ChangeAt Go.RowKit

def bl (f : Nat → Nat) (n : Nat) : List Value := (List.range n).map fun j => Value.int .u8 (f j : Nat)

/-- f's first n, and g behind them. -/
def cat (f : Nat → Nat) (n : Nat) (g : Nat → Nat) : Nat → Nat := fun j => if j < n then f j else g (j - n)

theorem bl_len (f : Nat → Nat) (n : Nat) : (bl f n).length = n * 1 := by simp [bl]

theorem bl_get (f : Nat → Nat) (n j : Nat) (h : j < n) : (bl f n)[j]? = some (.int .u8 (f j : Nat)) := by simp [bl, h]

theorem bl_one (f : Nat → Nat) (n : Nat) : ∀ u ∈ bl f n, u.oneCell' = true := by
  intro u hu
  obtain ⟨j, _, rfl⟩ := List.mem_map.1 hu
  rfl

theorem bl_cat (f g : Nat → Nat) (n l : Nat) : bl f n ++ bl g l = bl (cat f n g) (n + l) := by
  unfold bl
  rw [List.range_add, List.map_append, List.map_map]
  congr 1
  · apply List.map_congr_left
    intro j hj
    have : j < n := by simpa using hj
    simp only [cat, if_pos this]
  · apply List.map_congr_left
    intro j hj
    simp only [Function.comp, cat]
    rw [if_neg (by omega), show n + j - n = j from by omega]

theorem bl_cat_zero (f g : Nat → Nat) (n : Nat) : bl (cat f n g) (n + 0) = bl f n := by
  rw [← bl_cat f g n 0]
  simp [bl]

theorem cat_lt (f g : Nat → Nat) (n : Nat) (hf : ∀ j, f j < 256) (hg : ∀ j, g j < 256) (j : Nat) : cat f n g j < 256 := by
  unfold cat
  split
  · exact hf _
  · exact hg _

theorem grownBy_refl (w : World) (r : Option Nat) : w.grownBy w r := ⟨rfl, rfl, rfl, Nat.le_refl _, fun _ _ _ => rfl⟩

/-- One append of bytes, nil or not, to a row of the call's own. -/
theorem wpList_append_bytes {ops : Array Oper} {rest : List Oper} {o : Oper} {a : Act} {w : World} {Q : Exit → Act → World → Prop} (hgd : o.guard = none) (s x : Operand)
    (ho : o.op = .call { callee := .builtin .append, args := #[s, x], argTypes := #[22, 22] }) (base : Nat) (v : Value) (n : Nat) (f : Nat → Nat) (hs : a.eval s = v) (hown : w.ownsRow base 5 1 v n (bl f n))
    (A : Option Addr) (L C : Nat) (g : Nat → Nat) (hx : a.eval x = .slice A L C) (hnil : A = none → L = 0 ∧ C = 0) (hb : Bytes w A L g) (h63 : n + L ≤ 140737488351232) (hbase : base ≤ w.heap.size)
    (h : ∀ v' w', w'.ownsRow base 5 1 v' (n + L) (bl (cat f n g) (n + L)) → w.grownBy w' v.ownBlock → wpList Tryd.prog ops Q rest (a.put o.dst v') w') : wpList Tryd.prog ops Q (o :: rest) a w := by
  obtain ⟨i0, hi, hz0, hz1, hz2⟩ := info_parts Tryd.info5
  cases A with
  | none =>
    obtain ⟨rfl, rfl⟩ := hnil rfl
    refine wpList_append_own_none hgd s x 22 ho base 5 i0 1 Tryd.underlying22 hi v n _ hs hown hx ?_
    exact h v w (by rw [bl_cat_zero]; exact hown) (grownBy_refl _ _)
  | some ad =>
    refine wpList_append_own w hgd s x 22 ho base 5 i0 (.int .u8 0) 1 1 Tryd.underlying22 hi hz0 hz1 hz2 rfl (by decide) v n _ hs hown ad L C (bl g L) hx (bl_len g L) ?_ (bl_one g L) (by unfold maxLen; omega) (by omega) hbase ?_
    · intro j u hj
      by_cases hjl : j < L
      · rw [bl_get g L j hjl] at hj
        rcases hb with h0 | ⟨b, off, e, _, hc⟩
        · omega
        · obtain rfl : ad = ⟨b, off, none⟩ := Option.some.inj e
          have e1 : (⟨b, off, none⟩ : Addr).add j = ⟨b, off + j, none⟩ := by unfold Addr.add; split <;> simp_all
          rw [e1, hc j hjl]
          exact hj
      · rw [List.getElem?_eq_none (by rw [bl_len]; omega)] at hj
        simp at hj
    · intro v' w' h1 h2 _
      rw [bl_cat] at h1
      exact h v' w' h1 h2

/-- What is owned, as bytes of a slice. -/
theorem own_bytes {w : World} {base n : Nat} {v : Value} {f : Nat → Nat} (h : w.ownsRow base 5 1 v n (bl f n)) : ∃ a cap, v = .slice a n cap ∧ n ≤ cap ∧ (a = none → n = 0 ∧ cap = 0) ∧ Bytes w a n f ∧ ∀ b off, a = some ⟨b, off, none⟩ → base ≤ b ∧ b < w.heap.size := by
  rcases h.2 with ⟨rfl, rfl⟩ | ⟨g, cap, cur, rfl, hb, hg, hn, hm, hs, ht⟩
  · exact ⟨none, 0, rfl, Nat.le_refl _, fun _ => ⟨rfl, rfl⟩, .inl rfl, fun b off e => by cases e⟩
  · have hlt : g < w.heap.size := (Array.getElem?_eq_some_iff.1 hg).1
    refine ⟨some ⟨g, 0, none⟩, cap, rfl, hn, (fun e => by cases e), .inr ⟨g, 0, rfl, hlt, ?_⟩, ?_⟩
    · intro j hj
      rw [cell_of_row w g (0 + j) cur 5 (0, 0) hg, Nat.zero_add]
      have := bl_get f n j hj
      rw [← ht, List.getElem?_take_of_lt (by omega), Array.getElem?_toList] at this
      exact this
    · intro b off e
      simp only [Option.some.injEq, Addr.mk.injEq, and_true] at e
      omega

theorem own_below {w w' : World} {base B n : Nat} {v : Value} {xs : List Value} (h : w.ownsRow base 5 1 v n xs) (hb : Below B w w') (hB : ∀ g, v.ownBlock = some g → g < B) : w'.ownsRow base 5 1 v n xs := by
  refine ⟨h.1, ?_⟩
  rcases h.2 with h0 | ⟨g, cap, cur, hv, h1, hg, r⟩
  · exact .inl h0
  · exact .inr ⟨g, cap, cur, hv, h1, (hb.block g (hB g (by rw [hv]; rfl))).trans hg, r⟩

theorem own_but {w w' : World} {base g0 n : Nat} {v : Value} {xs : List Value} (h : w.ownsRow base 5 1 v n xs) (hb : But g0 w w') (hB : g0 < base) : w'.ownsRow base 5 1 v n xs := by
  refine ⟨h.1, ?_⟩
  rcases h.2 with h0 | ⟨g, cap, cur, hv, h1, hg, r⟩
  · exact .inl h0
  · exact .inr ⟨g, cap, cur, hv, h1, (hb.2.2.2.2 g (Array.getElem?_eq_some_iff.1 hg).1 (by omega)).trans hg, r⟩

theorem Hash.below {H0 K m : Nat → Nat} {w w' : World} {g N B : Nat} (h : Hash H0 K w g m N) (hb : Below B w w') (hg : g < B) : Hash H0 K w' g m N := by
  obtain ⟨rest, h1, h2, h3⟩ := h
  exact ⟨rest, h1, h2, h3.below hb hg⟩

theorem Hash.lt {H0 K m : Nat → Nat} {w : World} {g N : Nat} (h : Hash H0 K w g m N) : g < w.heap.size := by
  obtain ⟨rest, h1, h2, h3⟩ := h
  exact h3.lt

theorem Hash.but {H0 K m : Nat → Nat} {w w' : World} {g g0 N : Nat} (h : Hash H0 K w g m N) (hb : But g0 w w') (hg : g ≠ g0) : Hash H0 K w' g m N := by
  obtain ⟨rest, h1, h2, h3⟩ := h
  exact ⟨rest, h1, h2, (hb.2.2.2.2 g h3.lt hg).trans h3⟩

theorem Hash.grown {H0 K m : Nat → Nat} {w w' : World} {g N : Nat} {r : Option Nat} (h : Hash H0 K w g m N) (hb : w.grownBy w' r) (hg : some g ≠ r) : Hash H0 K w' g m N := by
  obtain ⟨rest, h1, h2, h3⟩ := h
  exact ⟨rest, h1, h2, (hb.block g h3.lt hg).trans h3⟩

/-- Of two hashes: the bytes that the first has taken in; the law's own row; the second has taken in nothing. B: all of this lies below it. -/
def PInv (w wr : World) (B : Nat) (mm : Nat → Nat) (Nh N : Nat) (v : Value) : Prop :=
  Hash Hc Kc wr w.heap.size mm Nh ∧ Hash Hc Kc wr (w.heap.size + 1) mm 0 ∧ Glob Hc Kc wr ∧ wr.ownsRow (w.heap.size + 2) 5 1 v N (bl mm N) ∧ Below w.heap.size w wr ∧ w.heap.size + 2 ≤ B ∧ B ≤ wr.heap.size ∧ ∀ g, v.ownBlock = some g → g < B

theorem PInv.below {w wr w' : World} {B : Nat} {mm : Nat → Nat} {Nh N : Nat} {v : Value} (h : PInv w wr B mm Nh N v) (hb : Below B wr w') : PInv w w' B mm Nh N v := by
  obtain ⟨a, b, c, d, e, f, g, i⟩ := h
  exact ⟨a.below hb (by omega), b.below hb (by omega), c.below hb (by omega), own_below d hb i, e.trans (hb.mono (by omega)), f, Nat.le_trans g hb.size, i⟩

theorem PInv.up {w wr : World} {B : Nat} {mm : Nat → Nat} {Nh N : Nat} {v : Value} (h : PInv w wr B mm Nh N v) : PInv w wr wr.heap.size mm Nh N v := by
  obtain ⟨a, b, c, d, e, f, g, i⟩ := h
  exact ⟨a, b, c, d, e, Nat.le_trans f g, Nat.le_refl _, fun x hx => Nat.lt_of_lt_of_le (i x hx) g⟩

theorem PInv.congr {w wr : World} {B : Nat} {mm mm' : Nat → Nat} {N : Nat} {v : Value} (h : PInv w wr B mm N N v) (hm : ∀ j, j < N → mm j = mm' j) : PInv w wr B mm' N N v := by
  obtain ⟨a, b, c, d, e, f, g, i⟩ := h
  refine ⟨a.congr hm, b.congr (fun j hj => by omega), c, ?_, e, f, g, i⟩
  have : bl mm' N = bl mm N := by
    unfold bl
    apply List.map_congr_left
    intro j hj
    rw [hm j (by simpa using hj)]
  rw [this]
  exact d

theorem PInv.wrote {w wr w' : World} {B : Nat} {mm : Nat → Nat} {Nh Nh' N : Nat} {v : Value} (h : PInv w wr B mm Nh N v) (hb : But w.heap.size wr w') (hh : Hash Hc Kc w' w.heap.size mm Nh') (h1 : 1 < w.heap.size) : PInv w w' B mm Nh' N v := by
  obtain ⟨a, b, c, d, e, f, g, i⟩ := h
  exact ⟨hh, b.but hb (by omega), c.but hb h1, own_but d hb (by omega), e.trans (hb.below (Nat.le_refl _) e.size), f, Nat.le_trans g hb.2.2.2.1, i⟩

theorem PInv.start {w : World} (hG : Glob Hc Kc w) (mm : Nat → Nat) : PInv w ((w.alloc (.cells (hcells Hc (fun _ => 0) 0) 57)).alloc (.cells (hcells Hc (fun _ => 0) 0) 57)) (w.heap.size + 2) mm 0 0 (.slice none 0 0) := by
  have hb : Below w.heap.size w ((w.alloc (.cells (hcells Hc (fun _ => 0) 0) 57)).alloc (.cells (hcells Hc (fun _ => 0) 0) 57)) := ((Below.refl _ _).alloc (Nat.le_refl _) _).alloc (by simp) _
  exact ⟨⟨fun _ => 0, fun _ _ => by show 0 < 256; decide, fun j hj => by omega, (Has.new_at rfl).alloc _⟩, ⟨fun _ => 0, fun _ _ => by show 0 < 256; decide, fun j hj => by omega, Has.new_at (by simp)⟩, hG.below hb hG.1, World.ownsRow_nil _ _ _ _, hb, Nat.le_refl _, by simp, fun g hg => by simp [Value.ownBlock] at hg⟩

/-- Behind the append to the law's own row. -/
theorem PInv.appended {w wr w' : World} {B : Nat} {mm : Nat → Nat} {Nh N N' : Nat} {v v' : Value} (h : PInv w wr B mm Nh N v) (hg : wr.grownBy w' v.ownBlock) (ho : w'.ownsRow (w.heap.size + 2) 5 1 v' N' (bl mm N')) : PInv w w' w'.heap.size mm Nh N' v' := by
  obtain ⟨a, b, c, d, e, f, g, i⟩ := h
  have hbl := fun k hk => (d.lt k hk).1
  have hb : Below (w.heap.size + 2) wr w' := ⟨hg.os, hg.tape, hg.output, hg.size, fun k hk => hg.block k (by omega) (fun hh => by have := hbl k hh.symm; omega)⟩
  exact ⟨a.below hb (by omega), b.below hb (by omega), c.below hb (by omega), ho, e.trans (hb.mono (by omega)), Nat.le_trans f (Nat.le_trans g hg.size), Nat.le_refl _, fun x hx => (ho.lt x hx).2⟩

/-- A slice of byte slices that came in. -/
def Pieces (w : World) (a : Option Addr) (len : Nat) (A : Nat → Option Addr) (L C : Nat → Nat) (M : Nat → Nat → Nat) : Prop :=
  ∀ i, i < len → (∃ b off, a = some ⟨b, off, none⟩ ∧ b < w.heap.size ∧ w.cell? ⟨b, off + i, none⟩ = some (.slice (A i) (L i) (C i))) ∧ L i ≤ C i ∧ (A i = none → L i = 0 ∧ C i = 0) ∧ Bytes w (A i) (L i) (M i) ∧ ∀ j, M i j < 256
end Go.Proofs.YtenncmagkdbmkaaDoor
