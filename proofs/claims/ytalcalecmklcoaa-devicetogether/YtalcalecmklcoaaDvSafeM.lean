/- What DeviceSafe keeps in memory beside its device. -/
import Derived.Test.YtalcalecmklcoaaDvBool
namespace Go.Proofs.Ytalcalecmklcoaa
open Go.ChangeShapes Go.WideShapes Go.ChangeAt Go.RowKit
set_option linter.unusedVariables false

def cells8 (W : Nat → Value) : Array Value := ((List.range 8).map W).toArray

theorem cells8_get (W : Nat → Value) (j : Nat) (h : j < 8) : (cells8 W)[j]? = some (W j) := by simp [cells8, h]

def updV (W : Nat → Value) (i : Nat) (v : Value) : Nat → Value := fun j => if j = i then v else W j

theorem cells8_set (W : Nat → Value) (i : Nat) (v : Value) : (cells8 W).setIfInBounds i v = cells8 (updV W i v) := by
  apply Array.ext_getElem?
  intro j
  rw [Array.getElem?_setIfInBounds]
  have hs : (cells8 W).size = 8 := by simp [cells8]
  by_cases hj : j < 8
  · rw [cells8_get _ j hj, cells8_get _ j hj]
    by_cases e : i = j
    · subst e; simp [updV, hs, hj]
    · have : ¬ j = i := fun h => e h.symm
      simp [updV, e, this]
  · have e1 : (cells8 W)[j]? = none := by simp [cells8]; omega
    have e2 : (cells8 (updV W i v))[j]? = none := by simp [cells8]; omega
    rw [e1, e2]
    split
    · subst_vars; simp [hs, hj]
    · rfl

theorem Has.set8 {w : World} {g t : Nat} {W : Nat → Value} (h : Has w g t (cells8 W)) (i : Nat) (v : Value) : Has (w.setCell ⟨g, i, none⟩ v) g t (cells8 (updV W i v)) := by
  have h' : w.heap[g]? = some (.cells (cells8 W) t (0, 0)) := h
  show (w.setCell ⟨g, i, none⟩ _).heap[g]? = _
  simp only [World.setCell, Array.getElem?_modify, h', if_pos, Option.map_some]
  rw [cells8_set]
  rfl

/-- No part of the device. -/
def Out (F : Nat → Prop) (c k : Nat) : Prop := ¬ F k ∧ k ≠ c

theorem Out.grew {w : World} {F F' : Nat → Prop} {c k : Nat} (h : Out F c k) (hg : Grew w F F') (hk : k < w.heap.size) : Out F' c k := ⟨fun hf => (hg k hf).elim h.1 (fun h2 => by omega), h.2⟩

theorem Has.only {w w' : World} {g t c : Nat} {cs : Array Value} {F : Nat → Prop} (h : Has w g t cs) (ho : Only (fun k => F k ∨ k = c) w w') (hn : Out F c g) : Has w' g t cs := (ho.block g h.lt (fun hh => hh.elim hn.1 hn.2)).trans h

/-- Bytes outside the device. -/
def OutBy (w : World) (F : Nat → Prop) (c : Nat) (v : Value) (f : Nat → Nat) : Prop := ∃ b o k, v = .slice (some ⟨b, o, none⟩) 64 k ∧ Out F c b ∧ Bytes w (some ⟨b, o, none⟩) 64 f

theorem OutBy.only {w w' : World} {c : Nat} {F F' : Nat → Prop} {v : Value} {f : Nat → Nat} (h : OutBy w F c v f) (ho : Only (fun k => F k ∨ k = c) w w') (hg : Grew w F F') : OutBy w' F' c v f := by
  obtain ⟨b, o, k, rfl, hb, hy⟩ := h
  rcases hy with hy | ⟨b', o', e, hlt, hc⟩
  · cases hy
  · cases e
    exact ⟨b, o, k, rfl, hb.grew hg hlt, .inr ⟨b, o, rfl, Nat.lt_of_lt_of_le hlt ho.size, fun j hj => (ho.cell (p := ⟨b, o + j, none⟩) hlt (fun hh => hh.elim hb.1 hb.2)).trans (hc j hj)⟩⟩

theorem OutBy.below {w w' : World} {c : Nat} {F : Nat → Prop} {v : Value} {f : Nat → Nat} (h : OutBy w F c v f) (hb : Below w.heap.size w w') : OutBy w' F c v f := by
  obtain ⟨b, o, k, rfl, hn, hy⟩ := h
  exact ⟨b, o, k, rfl, hn, hy.below hb (Nat.le_refl _)⟩

/-- Bytes are not turned by the turn of a block that holds slices. -/
theorem OutBy.slices {w w' : World} {c g t : Nat} {cs : Array Value} {F : Nat → Prop} {v : Value} {f : Nat → Nat} (h : OutBy w F c v f) (hg : w.grownBy w' (some g)) (hs : Has w g t cs) (hsl : ∀ (j : Nat) (u : Value), cs[j]? = some u → ∀ k n, u ≠ .int k n) : OutBy w' F c v f := by
  obtain ⟨b, o, k, rfl, hn, hy⟩ := h
  refine ⟨b, o, k, rfl, hn, ?_⟩
  rcases hy with hy | ⟨b', o', e, hlt, hc⟩
  · cases hy
  · cases e
    have hne : b ≠ g := fun e => by
      have h0 := hc 0 (by omega)
      rw [e, hs.cell] at h0
      exact hsl _ _ h0 _ _ rfl
    exact .inr ⟨b, o, rfl, Nat.lt_of_lt_of_le hlt hg.size, fun j hj => (World.cell?_of_block (a := ⟨b, o + j, none⟩) (hg.block b hlt (fun e => hne (by cases e; rfl)))).trans (hc j hj)⟩

/-- The abstract part: what a sector holds behind a loss of power. -/
theorem safe_or (s : DS) (l lat : List AE) (e : AE) (he : e.sync = true) (hl : s.log = l ++ e :: lat) (keep : Nat → Bool) (i : Nat) : holds (cutD s keep) i = l.foldl upF s.fst i ∨ ∃ d ∈ lat, d.sync = false ∧ d.i = i ∧ holds (cutD s keep) i = d.b := by
  show left keep 0 s.log s.fst i = _ ∨ ∃ d ∈ lat, d.sync = false ∧ d.i = i ∧ left keep 0 s.log s.fst i = d.b
  rw [hl, left_ahead keep 0 l lat s.fst e he]
  exact left_or keep lat 0 _ i
end Go.Proofs.Ytalcalecmklcoaa
