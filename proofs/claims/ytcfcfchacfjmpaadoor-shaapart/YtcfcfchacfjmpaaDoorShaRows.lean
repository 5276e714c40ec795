/- Two hashes and a row of bytes, side by side. -/
import Derived.Test.YtcfcfchacfjmpaaDoorShaBl
import Derived.Test.YtcfcfchacfjmpaaDoorShaAlive
namespace Go.Proofs.YtcfcfchacfjmpaaDoor
open Go.ChangeShapes Go.WideShapes Go.ChangeAt Go.RowKit

/-- Of two hashes: the bytes that the first has taken in; the law's own row; the second has taken in nothing. B: all of this lies below it. -/
def PInv (w wr : World) (B : Nat) (mm : Nat → Nat) (Nh N : Nat) (v : Value) : Prop :=
  Hash Hc Kc wr w.heap.size mm Nh ∧ Hash Hc Kc wr (w.heap.size + 1) mm 0 ∧ Glob Hc Kc wr ∧ wr.ownsRow (w.heap.size + 2) 5 1 v N (bl mm N) ∧ Below w.heap.size w wr ∧ w.heap.size + 2 ≤ B ∧ B ≤ wr.heap.size ∧ ∀ g, v.ownBlock = some g → g < B

theorem PInv.below {w wr w' : World} {B : Nat} {mm : Nat → Nat} {Nh N : Nat} {v : Value} (h : PInv w wr B mm Nh N v) (hb : Below B wr w') : PInv w w' B mm Nh N v := by
  obtain ⟨a, b, c, d, e, f, g, i⟩ := h
  exact ⟨a.below hb (by omega), b.below hb (by omega), c.below hb (by omega), own_below d hb i, e.trans (hb.mono (by omega)), f, Nat.le_trans g hb.size, i⟩

theorem PInv.up {w wr : World} {B : Nat} {mm : Nat → Nat} {Nh N : Nat} {v : Value} (h : PInv w wr B mm Nh N v) : PInv w wr wr.heap.size mm Nh N v := by
  obtain ⟨a, b, c, d, e, f, g, i⟩ := h
  exact ⟨a, b, c, d, e, Nat.le_trans f g, Nat.le_refl _, fun x hx => Nat.lt_of_lt_of_le (i x hx) g⟩

theorem PInv.congr {w wr : World} {B : Nat} {mm mm' : Nat → Nat} {N : Nat} {v : Value} (h : PInv w wr B mm N N v) (hm : ∀ j, j < N → mm j = mm' j) : PInv w wr B mm' N N v := by
  obtain ⟨a, b, c, d, e, f, g, i⟩ := h
  refine ⟨a.congr hm, b.congr (fun j hj => by omega), c, ?_, e, f, g, i⟩
  have : bl mm' N = bl mm N := by
    unfold bl
    apply List.map_congr_left
    intro j hj
    rw [hm j (by simpa using hj)]
  rw [this]
  exact d

theorem PInv.wrote {w wr w' : World} {B : Nat} {mm : Nat → Nat} {Nh Nh' N : Nat} {v : Value} (h : PInv w wr B mm Nh N v) (hb : But w.heap.size wr w') (hh : Hash Hc Kc w' w.heap.size mm Nh') (h1 : 1 < w.heap.size) : PInv w w' B mm Nh' N v := by
  obtain ⟨a, b, c, d, e, f, g, i⟩ := h
  exact ⟨hh, b.but hb (by omega), c.but hb h1, own_but d hb (by omega), e.trans (hb.below (Nat.le_refl _) e.size), f, Nat.le_trans g hb.2.2.2.1, i⟩

theorem PInv.start {w : World} (hG : Glob Hc Kc w) (mm : Nat → Nat) : PInv w ((w.alloc (.cells (hcells Hc (fun _ => 0) 0) 40)).alloc (.cells (hcells Hc (fun _ => 0) 0) 40)) (w.heap.size + 2) mm 0 0 (.slice none 0 0) := by
  have hb : Below w.heap.size w ((w.alloc (.cells (hcells Hc (fun _ => 0) 0) 40)).alloc (.cells (hcells Hc (fun _ => 0) 0) 40)) := ((Below.refl _ _).alloc (Nat.le_refl _) _).alloc (by simp) _
  exact ⟨⟨fun _ => 0, fun _ _ => by show 0 < 256; decide, fun j hj => by omega, (Has.new_at rfl).alloc _⟩, ⟨fun _ => 0, fun _ _ => by show 0 < 256; decide, fun j hj => by omega, Has.new_at (by simp)⟩, hG.below hb hG.1, World.ownsRow_nil _ _ _ _, hb, Nat.le_refl _, by simp, fun g hg => by simp [Value.ownBlock] at hg⟩

/-- Behind the append to the law's own row. -/
theorem PInv.appended {w wr w' : World} {B : Nat} {mm : Nat → Nat} {Nh N N' : Nat} {v v' : Value} (h : PInv w wr B mm Nh N v) (hg : wr.grownBy w' v.ownBlock) (ho : w'.ownsRow (w.heap.size + 2) 5 1 v' N' (bl mm N')) : PInv w w' w'.heap.size mm Nh N' v' := by
  obtain ⟨a, b, c, d, e, f, g, i⟩ := h
  have hbl := fun k hk => (d.lt k hk).1
  have hb : Below (w.heap.size + 2) wr w' := ⟨hg.os, hg.tape, hg.output, hg.size, fun k hk => hg.block k (by omega) (fun hh => by have := hbl k hh.symm; omega)⟩
  exact ⟨a.below hb (by omega), b.below hb (by omega), c.below hb (by omega), ho, e.trans (hb.mono (by omega)), Nat.le_trans f (Nat.le_trans g hg.size), Nat.le_refl _, fun x hx => (ho.lt x hx).2⟩

/-- A slice of byte slices that came in. -/
def Pieces (w : World) (a : Option Addr) (len : Nat) (A : Nat → Option Addr) (L C : Nat → Nat) (M : Nat → Nat → Nat) : Prop :=
  ∀ i, i < len → (∃ b off, a = some ⟨b, off, none⟩ ∧ b < w.heap.size ∧ w.cell? ⟨b, off + i, none⟩ = some (.slice (A i) (L i) (C i))) ∧ L i ≤ C i ∧ (A i = none → L i = 0 ∧ C i = 0) ∧ Bytes w (A i) (L i) (M i) ∧ ∀ j, M i j < 256
end Go.Proofs.YtcfcfchacfjmpaaDoor
