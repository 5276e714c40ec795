/- The document's Build. -/
import Derived.Test.YtoeanaadlihkeaaDoorMkApp2
import Derived.Test.YtoeanaadlihkeaaDoorMkRefH
import Derived.Test.YtoeanaadlihkeaaDoorMkRef2
namespace Go.Proofs.YtoeanaadlihkeaaDoor
open Go.ChangeShapes Go.WideShapes Go.ChangeAt Go.RowKit
set_option linter.unusedVariables false

/-- Between two levels. -/
def BO (w wr : World) (d : Nat → Nat) (n k : Nat) (tv : Value) (A : Option Addr) (c : Nat) : Prop :=
  64 * lv n k ≤ c ∧ Bytes wr A (64 * lv n k) (lvl d n k) ∧ (∀ b o, A = some ⟨b, o, none⟩ → tv.ownBlock ≠ some b) ∧ wr.ownsRow (w.heap.size + 1) 5 1 tv (64 * off n k) (bl (tree d n k) (64 * off n k)) ∧
    Has wr w.heap.size 28 (cellsN .u8 32 fun _ => 0) ∧ w.heap.size + 1 ≤ wr.heap.size ∧ Below w.heap.size w wr

theorem BO.below {w wr w' : World} {d : Nat → Nat} {n k : Nat} {tv : Value} {A : Option Addr} {c : Nat} (h : BO w wr d n k tv A c) (hb : Below wr.heap.size wr w') : BO w w' d n k tv A c := by
  obtain ⟨h1, h2, h3, h4, h5, h6, h7⟩ := h
  exact ⟨h1, h2.below hb (Nat.le_refl _), h3, own_below h4 hb (fun g hg => (h4.lt g hg).2), h5.below hb h5.lt, Nat.le_trans h6 hb.size, h7.trans (hb.mono h7.size)⟩

/-- The level that was made is laid behind the tree, and is the next one. -/
theorem BO.next {w wr w' : World} {d : Nat → Nat} {n k : Nat} {tv tv' nv : Value} {A : Option Addr} {c : Nat} {base : Nat} (h : BO w wr d n k tv A c) (hbase : w.heap.size + 1 ≤ base) (ho : wr.ownsRow base 5 1 nv (64 * lv n (k + 1)) (bl (lvl d n (k + 1)) (64 * lv n (k + 1))))
    (hlow : ∀ g, tv.ownBlock = some g → g < base) (hg : wr.grownBy w' tv.ownBlock) (ho' : w'.ownsRow (w.heap.size + 1) 5 1 tv' (64 * off n (k + 1)) (bl (tree d n (k + 1)) (64 * off n (k + 1))))
    (hw : ∀ g, tv'.ownBlock = some g → tv.ownBlock = some g ∨ wr.heap.size ≤ g) : ∃ A' c', nv = .slice A' (64 * lv n (k + 1)) c' ∧ BO w w' d n (k + 1) tv' A' c' := by
  obtain ⟨h1, h2, h3, h4, h5, h6, h7⟩ := h
  obtain ⟨a, cap, rfl, e1, e2, e3, e4⟩ := own_bytes ho
  refine ⟨a, cap, rfl, e1, e3.grownTo hg (fun b o e he => ?_), fun b o e he => ?_, ho', ?_, Nat.le_trans h6 hg.size, ?_⟩
  · have := hlow b he; have := (e4 b o e).1; omega
  · have hb := e4 b o e
    rcases hw b he with h | h
    · have := hlow b h; omega
    · omega
  · exact (hg.block _ h5.lt (fun e => by have := (h4.lt _ e.symm).1; omega)).trans h5
  · exact h7.grown hg h7.size (fun g e => by have := (h4.lt g e).1; omega)
end Go.Proofs.YtoeanaadlihkeaaDoor
