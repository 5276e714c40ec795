/- ShaApart: two hashes and two rows, side by side. -/
import Derived.Test.YtcfcfchacfjmpaaDoorShaBl
import Derived.Test.YtcfcfchacfjmpaaDoorShaAlive
namespace Go.Proofs.YtcfcfchacfjmpaaDoor
open Go.ChangeShapes Go.WideShapes Go.ChangeAt Go.RowKit
set_option linter.unusedVariables false

/-- f, but x at p. -/
def fset {α : Type} (f : Nat → α) (p : Nat) (x : α) : Nat → α := fun q => if q = p then x else f q

theorem fset_at {α : Type} (f : Nat → α) (p : Nat) (x : α) : fset f p x p = x := by simp [fset]
theorem fset_ne {α : Type} (f : Nat → α) (p q : Nat) (x : α) (h : q ≠ p) : fset f p x q = f q := by simp [fset, h]

/-- The law's two arrays; of each hash what it has taken in (NH bytes of M); of each row its N bytes. -/
def AInv (w wr : World) (V : Nat → Value) (M : Nat → Nat → Nat) (NH N : Nat → Nat) : Prop :=
  Has wr w.heap.size 25 #[.pointer (some ⟨w.heap.size + 2, 0, none⟩), .pointer (some ⟨w.heap.size + 3, 0, none⟩)] ∧ Has wr (w.heap.size + 1) 27 #[V 0, V 1] ∧
  (∀ p, p < 2 → Hash Hc Kc wr (w.heap.size + 2 + p) (M p) (NH p)) ∧ (∀ p, p < 2 → wr.ownsRow (w.heap.size + 4) 5 1 (V p) (N p) (bl (M p) (N p))) ∧
  (∀ g, (V 0).ownBlock = some g → (V 1).ownBlock ≠ some g) ∧ Glob Hc Kc wr ∧ w.heap.size + 4 ≤ wr.heap.size ∧ Below w.heap.size w wr

theorem AInv.below {w wr w' : World} {V : Nat → Value} {M : Nat → Nat → Nat} {NH N : Nat → Nat} (h : AInv w wr V M NH N) (hb : Below wr.heap.size wr w') : AInv w w' V M NH N := by
  obtain ⟨a, b, c, d, e, f, g, i⟩ := h
  exact ⟨a.below hb a.lt, b.below hb b.lt, fun p hp => (c p hp).below hb (by omega), fun p hp => own_below (d p hp) hb (fun g hg => ((d p hp).lt g hg).2), e, f.below hb f.1, Nat.le_trans g hb.size, i.trans (hb.mono i.size)⟩

theorem AInv.drew {w wr : World} {V : Nat → Value} {M : Nat → Nat → Nat} {NH N : Nat → Nat} (h : AInv w wr V M NH N) : AInv w wr.drew V M NH N := h.below (Below.refl _ _).drew

theorem AInv.congr {w wr : World} {V : Nat → Value} {M M' : Nat → Nat → Nat} {NH N : Nat → Nat} (h : AInv w wr V M NH N) (hm : ∀ p, p < 2 → ∀ j, j < NH p ∨ j < N p → M p j = M' p j) : AInv w wr V M' NH N := by
  obtain ⟨a, b, c, d, e, f, g, i⟩ := h
  refine ⟨a, b, fun p hp => (c p hp).congr (fun j hj => hm p hp j (.inl hj)), fun p hp => ?_, e, f, g, i⟩
  have : bl (M' p) (N p) = bl (M p) (N p) := by
    unfold bl
    apply List.map_congr_left
    intro j hj
    rw [hm p hp j (.inr (by simpa using hj))]
  rw [this]
  exact d p hp

/-- Behind a Write to hash p. -/
theorem AInv.wrote {w wr w' : World} {V : Nat → Value} {M : Nat → Nat → Nat} {NH N : Nat → Nat} (h : AInv w wr V M NH N) (p K : Nat) (hp : p < 2) (hb : But (w.heap.size + 2 + p) wr w') (hh : Hash Hc Kc w' (w.heap.size + 2 + p) (M p) K) (h1 : 1 < w.heap.size) : AInv w w' V M (fset NH p K) N := by
  obtain ⟨a, b, c, d, e, f, g, i⟩ := h
  have sa : w.heap.size < wr.heap.size := a.lt
  have sb : w.heap.size + 1 < wr.heap.size := b.lt
  refine ⟨(hb.2.2.2.2 _ sa (by omega)).trans a, (hb.2.2.2.2 _ sb (by omega)).trans b, fun q hq => ?_, fun q hq => own_but (d q hq) hb (by omega), e, f.but hb (by omega), Nat.le_trans g hb.2.2.2.1, i.trans (hb.below (by omega) (by omega))⟩
  by_cases hqp : q = p
  · subst hqp; rw [fset_at]; exact hh
  · rw [fset_ne _ _ _ _ hqp]; exact (c q hq).but hb (by omega)

/-- Behind an append to row p, and the store of what it tells. -/
theorem AInv.appended {w wr w' : World} {V : Nat → Value} {M : Nat → Nat → Nat} {NH N : Nat → Nat} (h : AInv w wr V M NH N) (p K : Nat) (v : Value) (hp : p < 2) (hg : wr.grownBy w' (V p).ownBlock) (ho : w'.ownsRow (w.heap.size + 4) 5 1 v K (bl (M p) K)) (hv : ∀ g, v.ownBlock = some g → (V p).ownBlock = some g ∨ wr.heap.size ≤ g) (h1 : 1 < w.heap.size) :
    AInv w (w'.setCell ⟨w.heap.size + 1, p, none⟩ v) (fset V p v) M NH (fset N p K) := by
  obtain ⟨a, b, c, d, e, f, g, i⟩ := h
  have sa : w.heap.size < wr.heap.size := a.lt
  have sb : w.heap.size + 1 < wr.heap.size := b.lt
  have hob : ∀ q, q < 2 → ∀ k, (V q).ownBlock = some k → w.heap.size + 4 ≤ k ∧ k < wr.heap.size := fun q hq k hk => (d q hq).lt k hk
  have hlow : ∀ k, k < w.heap.size + 4 → w'.heap[k]? = wr.heap[k]? := fun k hk => hg.block k (by omega) (fun hh => by have := hob p hp k hh.symm; omega)
  have hb' : Below (w.heap.size + 1) wr w' := ⟨hg.os, hg.tape, hg.output, hg.size, fun k hk => hlow k (by omega)⟩
  have hB : Below (w.heap.size + 1) wr (w'.setCell ⟨w.heap.size + 1, p, none⟩ v) := hb'.setCell (Nat.le_refl _) v
  have hc' : Has w' (w.heap.size + 1) 27 #[V 0, V 1] := (hlow (w.heap.size + 1) (by omega)).trans b
  have hoth : ∀ q, q < 2 → q ≠ p → w'.ownsRow (w.heap.size + 4) 5 1 (V q) (N q) (bl (M q) (N q)) := fun q hq hqp => by
    refine ⟨(d q hq).1, ?_⟩
    rcases id (d q hq).2 with h0 | ⟨g', cap, cur, hv', h1, hg', r⟩
    · exact .inl h0
    · refine .inr ⟨g', cap, cur, hv', h1, (hg.block g' (Array.getElem?_eq_some_iff.1 hg').1 (fun hh => ?_)).trans hg', r⟩
      have hq' : (V q).ownBlock = some g' := by rw [hv']; rfl
      rcases (show p = 0 ∨ p = 1 by omega) with rfl | rfl
      · obtain rfl : q = 1 := by omega
        exact e g' hh.symm hq'
      · obtain rfl : q = 0 := by omega
        exact e g' hq' hh.symm
  have hset : ∀ {q : Nat} {u : Value} {xs : List Value}, w'.ownsRow (w.heap.size + 4) 5 1 u q xs → (w'.setCell ⟨w.heap.size + 1, p, none⟩ v).ownsRow (w.heap.size + 4) 5 1 u q xs := fun {q u xs} h => by
    refine ⟨h.1, ?_⟩
    rcases id h.2 with h0 | ⟨g', cap, cur, hv', h1, hg', r⟩
    · exact .inl h0
    · exact .inr ⟨g', cap, cur, hv', h1, Has.other (show Has w' g' 5 cur from hg') (show g' ≠ w.heap.size + 1 by have := h1; omega) v, r⟩
  refine ⟨a.below hB (by omega), ?_, fun q hq => ?_, fun q hq => ?_, ?_, f.below hB (by omega), Nat.le_trans g hB.size, i.trans (hB.mono (by omega))⟩
  · have h' : w'.heap[w.heap.size + 1]? = some (.cells #[V 0, V 1] 27 (0, 0)) := hc'
    show (w'.setCell ⟨w.heap.size + 1, p, none⟩ v).heap[w.heap.size + 1]? = _
    simp only [World.setCell, Array.getElem?_modify, h', if_pos, Option.map_some]
    rcases (show p = 0 ∨ p = 1 by omega) with rfl | rfl <;> rfl
  · have hcq := c q hq
    obtain ⟨rest, h1, h2, hH⟩ := hcq
    refine ⟨rest, h1, h2, ?_⟩
    have : Has w' (w.heap.size + 2 + q) 40 _ := (hlow (w.heap.size + 2 + q) (by omega)).trans hH
    exact this.other (show w.heap.size + 2 + q ≠ w.heap.size + 1 by omega) v
  · by_cases hqp : q = p
    · subst hqp; rw [fset_at, fset_at]; exact hset ho
    · rw [fset_ne _ _ _ _ hqp, fset_ne _ _ _ _ hqp]; exact hset (hoth q hq hqp)
  · intro k hk hk1
    rcases (show p = 0 ∨ p = 1 by omega) with rfl | rfl
    · rw [fset_at] at hk
      rw [fset_ne _ _ _ _ (by decide)] at hk1
      rcases hv k hk with h | h
      · exact e k h hk1
      · have := (hob 1 (by decide) k hk1).2; omega
    · rw [fset_at] at hk1
      rw [fset_ne _ _ _ _ (by decide)] at hk
      rcases hv k hk1 with h | h
      · exact e k hk h
      · have := (hob 0 (by decide) k hk).2; omega
end Go.Proofs.YtcfcfchacfjmpaaDoor
