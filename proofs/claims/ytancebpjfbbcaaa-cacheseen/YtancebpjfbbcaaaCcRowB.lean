/- CacheSeen: the row of what was read, three times six slices (wherever they lie). -/
import Derived.Test.YtancebpjfbbcaaaCcRow
import Derived.Test.YtancebpjfbbcaaaCcReadS
namespace Go.Proofs.Ytancebpjfbbcaaa
open Go.ChangeShapes Go.WideShapes Go.ChangeAt Go.RowKit Go.MapKept
set_option linter.unusedVariables false

/-- What is laid by in row r: nothing, or bytes that are neither the cache's nor the row's. -/
def VB (w : World) (H : Nat → Prop) (r : Nat) (v : Value) (q : Option (Nat → Nat)) : Prop := (q = none ∧ v = .slice none 0 0) ∨ ∃ f g o c, q = some f ∧ v = .slice (some ⟨g, o, none⟩) 64 c ∧ Bytes w (some ⟨g, o, none⟩) 64 f ∧ ¬ H g ∧ g ≠ r ∧ g < w.heap.size

variable {w w' : World} {H H' : Nat → Prop} {v : Value} {q : Option (Nat → Nat)} {r : Nat} {U : Nat → Value} {Q : Nat → Nat → Option (Nat → Nat)}

theorem VB.keep (h : VB w H r v q) (hs : w.heap.size ≤ w'.heap.size) (hk : ∀ k, ¬ H k → k ≠ r → k < w.heap.size → w'.heap[k]? = w.heap[k]? ∧ ¬ H' k) : VB w' H' r v q := by
  rcases h with h | ⟨f, g, o, c, h1, h2, h4, h6, h7, h8⟩
  · exact .inl h
  · obtain ⟨e1, e2⟩ := hk g h6 h7 h8
    refine .inr ⟨f, g, o, c, h1, h2, ?_, e2, h7, Nat.lt_of_lt_of_le h8 hs⟩
    rcases h4 with h0 | ⟨b, o', e, hb, hc⟩
    · cases h0
    · cases e
      exact .inr ⟨g, o, rfl, Nat.lt_of_lt_of_le h8 hs, fun j hj => (World.cell?_of_block e1).trans (hc j hj)⟩

theorem VB.one (h : VB w H r v q) : v.oneCell' = true := by
  rcases h with ⟨_, rfl⟩ | ⟨f, g, o, c, _, rfl, _⟩ <;> rfl

structure RowB (w : World) (H : Nat → Prop) (r : Nat) (U : Nat → Value) (Q : Nat → Nat → Option (Nat → Nat)) : Prop where
  has : Has w r 60 (c18 U)
  out : ¬ H r
  at_ : ∀ d s, d < 3 → s < 6 → VB w H r (U (d * 6 + s)) (Q d s)

theorem RowB.below (h : RowB w H r U Q) (hb : Below w.heap.size w w') : RowB w' H r U Q :=
  ⟨h.has.below hb h.has.lt, h.out, fun d s hd hs => (h.at_ d s hd hs).keep hb.size (fun k h1 _ h3 => ⟨hb.block k h3, h1⟩)⟩

theorem RowB.step (h : RowB w H r U Q) (ho : Only H w w') (hg : Grew w H H') : RowB w' H' r U Q :=
  ⟨(ho.block r h.has.lt h.out).trans h.has, fun e => (hg r e).elim h.out (fun e2 => absurd h.has.lt (Nat.not_lt.2 e2)), fun d s hd hs => (h.at_ d s hd hs).keep ho.size (fun k h1 _ h3 => ⟨ho.block k h3 h1, fun e => (hg k e).elim h1 (fun e2 => absurd h3 (Nat.not_lt.2 e2))⟩)⟩

theorem RowB.congr (h : RowB w H r U Q) {Q' : Nat → Nat → Option (Nat → Nat)} (e : ∀ d s, d < 3 → s < 6 → Q d s = Q' d s) : RowB w H r U Q' := ⟨h.has, h.out, fun d s hd hs => e d s hd hs ▸ h.at_ d s hd hs⟩

/-- One is laid by. -/
theorem RowB.put (h : RowB w H r U Q) {d s : Nat} (hd : d < 3) (hs : s < 6) {v : Value} {q : Option (Nat → Nat)} (hv : VB w H r v q) : RowB (w.setCell ⟨r, d * 6 + s, none⟩ v) H r (updU U (d * 6 + s) v) (fun d' s' => if d' = d ∧ s' = s then q else Q d' s') := by
  have ho := only_setCell w r (d * 6 + s) v
  have hk : ∀ k, ¬ H k → k ≠ r → k < w.heap.size → (w.setCell ⟨r, d * 6 + s, none⟩ v).heap[k]? = w.heap[k]? ∧ ¬ H k := fun k h1 h2 h3 => ⟨ho.block k h3 h2, h1⟩
  refine ⟨by rw [← c18_set]; exact h.has.setV _ v, h.out, fun d' s' hd' hs' => ?_⟩
  unfold updU
  by_cases e : d' = d ∧ s' = s
  · obtain ⟨rfl, rfl⟩ := e
    rw [if_pos rfl, if_pos ⟨rfl, rfl⟩]
    exact hv.keep ho.size hk
  · rw [if_neg (by omega), if_neg e]
    exact (h.at_ d' s' hd' hs').keep ho.size hk

theorem RowB.nils (hh : Has w r 60 (c18 fun _ => .slice none 0 0)) (ho : ¬ H r) : RowB w H r (fun _ => .slice none 0 0) (fun _ _ => none) := ⟨hh, ho, fun _ _ _ _ => .inl ⟨rfl, rfl⟩⟩

theorem RowB.cell (h : RowB w H r U Q) {d s : Nat} (hd : d < 3) (hs : s < 6) : w.cell? ⟨r, d * 6 + s, none⟩ = some (U (d * 6 + s)) := (h.has.cell _).trans (c18_get U (by omega))

/-- What Read tells is such bytes. -/
theorem NewSec.vb {f : Nat → Nat} (h : NewSec w w' v f) (hH : ∀ k, H k → k < w.heap.size) (hr : r < w.heap.size) : VB w' H r v (some f) := by
  obtain ⟨g, o, c, rfl, _, h2, h3⟩ := h.bytes
  refine .inr ⟨f, g, o, c, rfl, rfl, h3, fun e => absurd (hH g e) (Nat.not_lt.2 h2), by omega, ?_⟩
  rcases h3 with h0 | ⟨b, o', e, hb, _⟩
  · cases h0
  · cases e
    exact hb
end Go.Proofs.Ytancebpjfbbcaaa
