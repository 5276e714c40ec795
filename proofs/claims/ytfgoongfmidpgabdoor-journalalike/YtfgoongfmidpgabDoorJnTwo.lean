/- Two journals side by side, each over a device of its own. -/
import Derived.Test.YtfgoongfmidpgabDoorJnOwnR
namespace Go.Proofs.YtfgoongfmidpgabDoor
open Go.ChangeShapes Go.WideShapes Go.ChangeAt Go.RowKit
set_option linter.unusedVariables false

variable {D : DevRep} {B : Nat} {w0 w w' : World} {j p c m : Nat} {s : DS} {F : Nat → Prop} {rs : List RC} {fl : Nat} {G : Nat → Prop} {j' p' c' m' : Nat} {s' : DS} {F' : Nat → Prop} {rs' : List RC} {fl' : Nat} {G' : Nat → Prop}

/-- All blocks of a journal and its device. -/
def Bl (F : Nat → Prop) (c : Nat) (G : Nat → Prop) (k : Nat) : Prop := (F k ∨ k = c) ∨ G k

/-- Two devices, apart. -/
structure II (D : DevRep) (B : Nat) (w0 w : World) (p : Nat) (s : DS) (c m : Nat) (F : Nat → Prop) (p' : Nat) (s' : DS) (c' m' : Nat) (F' : Nat → Prop) : Prop where
  a : In D B w0 w p s c m F
  b : In D B w0 w p' s' c' m' F'
  ap : ∀ k, (F k ∨ k = c) → ¬ (F' k ∨ k = c')

/-- A journal, and a device apart from it. -/
structure JI (D : DevRep) (B : Nat) (w0 w : World) (j p : Nat) (s : DS) (c m : Nat) (F : Nat → Prop) (rs : List RC) (fl : Nat) (G : Nat → Prop) (p' : Nat) (s' : DS) (c' m' : Nat) (F' : Nat → Prop) : Prop where
  a : JIn D B w0 w j p s c m F rs fl G
  b : In D B w0 w p' s' c' m' F'
  ap : ∀ k, Bl F c G k → ¬ (F' k ∨ k = c')

/-- Two journals, apart. -/
structure JJ (D : DevRep) (B : Nat) (w0 w : World) (j p : Nat) (s : DS) (c m : Nat) (F : Nat → Prop) (rs : List RC) (fl : Nat) (G : Nat → Prop) (j' p' : Nat) (s' : DS) (c' m' : Nat) (F' : Nat → Prop) (rs' : List RC) (fl' : Nat) (G' : Nat → Prop) : Prop where
  a : JIn D B w0 w j p s c m F rs fl G
  b : JIn D B w0 w j' p' s' c' m' F' rs' fl' G'
  ap : ∀ k, Bl F c G k → ¬ Bl F' c' G' k

theorem JIn.bl (h : JIn D B w0 w j p s c m F rs fl G) (k : Nat) (hk : Bl F c G k) : B ≤ k := by
  rcases hk with (h1 | h1) | h1
  · exact h.dev.base k h1
  · rw [h1]
    exact h.dev.cb
  · exact h.base k h1

theorem JIn.bl_lt (h : JIn D B w0 w j p s c m F rs fl G) (hD : DevOk D) (k : Nat) (hk : Bl F c G k) : k < w.heap.size := by
  rcases hk with (h1 | h1) | h1
  · exact h.dev.lt hD k h1
  · rw [h1]
    exact h.dev.clt hD
  · exact h.lt k h1

theorem JJ.symm (h : JJ D B w0 w j p s c m F rs fl G j' p' s' c' m' F' rs' fl' G') : JJ D B w0 w j' p' s' c' m' F' rs' fl' G' j p s c m F rs fl G := ⟨h.b, h.a, fun k h1 h2 => h.ap k h2 h1⟩

theorem JJ.next (h : JJ D B w0 w j p s c m F rs fl G j' p' s' c' m' F' rs' fl' G') (hD : DevOk D) (hb : Below w.heap.size w w') : JJ D B w0 w' j p s c m F rs fl G j' p' s' c' m' F' rs' fl' G' := ⟨h.a.next hD hb, h.b.next hD hb, h.ap⟩

/-- The first one's step. -/
theorem JJ.step (h : JJ D B w0 w j p s c m F rs fl G j' p' s' c' m' F' rs' fl' G') (hD : DevOk D) {s1 : DS} {m1 : Nat} {F1 : Nat → Prop} {rs1 : List RC} {fl1 : Nat} {G1 : Nat → Prop} (hs : JStep D B w0 w w' j p s1 c m1 F F1 rs1 fl1 G G1) : JJ D B w0 w' j p s1 c m1 F1 rs1 fl1 G1 j' p' s' c' m' F' rs' fl' G' := by
  refine ⟨hs.jin, h.b.only hD hs.only (fun k hk hx => h.ap k hx (.inl (.inl hk))) (fun hx => h.ap c' hx (.inl (.inr rfl))) (fun k hk hx => h.ap k hx (.inr hk)) (fun k hk => h.a.bl k hk), fun k hk hx => ?_⟩
  have hlt := h.b.bl_lt hD k hx
  rcases hk with (h1 | h1) | h1
  · rcases hs.grewF k h1 with h2 | h2
    · exact h.ap k (.inl (.inl h2)) hx
    · omega
  · exact h.ap k (.inl (.inr h1)) hx
  · rcases hs.grewG k h1 with h2 | h2
    · exact h.ap k (.inr h2) hx
    · omega

/-- The first one's device opened anew. -/
theorem JJ.reopen (h : JJ D B w0 w j p s c m F rs fl G j' p' s' c' m' F' rs' fl' G') (hD : DevOk D) {j1 : Nat} {s1 : DS} {m1 : Nat} {F1 : Nat → Prop} {rs1 : List RC} {fl1 : Nat} {G1 : Nat → Prop} (hJ : JIn D B w0 w' j1 p s1 c m1 F1 rs1 fl1 G1) (ho : Only (fun k => F k ∨ k = c) w w') (hF : Grew w F F1) (hG : ∀ k, G1 k → w.heap.size ≤ k) : JJ D B w0 w' j1 p s1 c m1 F1 rs1 fl1 G1 j' p' s' c' m' F' rs' fl' G' := by
  refine ⟨hJ, h.b.only hD ho (fun k hk hx => h.ap k (.inl hx) (.inl (.inl hk))) (fun hx => h.ap c' (.inl hx) (.inl (.inr rfl))) (fun k hk hx => h.ap k (.inl hx) (.inr hk)) (fun k hk => h.a.bl k (.inl hk)), fun k hk hx => ?_⟩
  have hlt := h.b.bl_lt hD k hx
  rcases hk with (h1 | h1) | h1
  · rcases hF k h1 with h2 | h2
    · exact h.ap k (.inl (.inl h2)) hx
    · omega
  · exact h.ap k (.inl (.inr h1)) hx
  · have := hG k h1
    omega

/-- The first device formatted. -/
theorem II.format (h : II D B w0 w p s c m F p' s' c' m' F') (hD : DevOk D) {s1 : DS} {m1 : Nat} {F1 : Nat → Prop} {rs1 : List RC} {fl1 : Nat} {G1 : Nat → Prop} (hJ : JIn D B w0 w' j p s1 c m1 F1 rs1 fl1 G1) (ho : Only (fun k => F k ∨ k = c) w w') (hF : Grew w F F1) (hG : ∀ k, G1 k → w.heap.size ≤ k) : JI D B w0 w' j p s1 c m1 F1 rs1 fl1 G1 p' s' c' m' F' := by
  have hb : ∀ k, (F' k ∨ k = c') → k < w.heap.size := fun k hk => hk.elim (h.b.lt hD k) (fun e => by rw [e]; exact h.b.clt hD)
  refine ⟨hJ, h.b.only hD ho (fun k hk hx => h.ap k hx (.inl hk)) (fun hx => h.ap c' hx (.inr rfl)) (fun k hk => hk.elim (h.a.base k) (fun e => by rw [e]; exact h.a.cb)), fun k hk hx => ?_⟩
  have hlt := hb k hx
  rcases hk with (h1 | h1) | h1
  · rcases hF k h1 with h2 | h2
    · exact h.ap k (.inl h2) hx
    · omega
  · exact h.ap k (.inr h1) hx
  · have := hG k h1
    omega

/-- The second device formatted. -/
theorem JI.format (h : JI D B w0 w j p s c m F rs fl G p' s' c' m' F') (hD : DevOk D) {s1 : DS} {m1 : Nat} {F1 : Nat → Prop} {rs1 : List RC} {fl1 : Nat} {G1 : Nat → Prop} (hJ : JIn D B w0 w' j' p' s1 c' m1 F1 rs1 fl1 G1) (ho : Only (fun k => F' k ∨ k = c') w w') (hF : Grew w F' F1) (hG : ∀ k, G1 k → w.heap.size ≤ k) : JJ D B w0 w' j p s c m F rs fl G j' p' s1 c' m1 F1 rs1 fl1 G1 := by
  refine ⟨h.a.only hD ho (fun k hk hx => h.ap k (.inl (.inl hk)) hx) (fun hx => h.ap c (.inl (.inr rfl)) hx) (fun k hk hx => h.ap k (.inr hk) hx) (fun k hk => hk.elim (h.b.base k) (fun e => by rw [e]; exact h.b.cb)), hJ, fun k hk hx => ?_⟩
  have hlt := h.a.bl_lt hD k hk
  rcases hx with (h1 | h1) | h1
  · rcases hF k h1 with h2 | h2
    · exact h.ap k hk (.inl h2)
    · omega
  · exact h.ap k hk (.inr h1)
  · have := hG k h1
    omega

/-- A device, and one that is new behind it. -/
theorem II.new (h : In D B w0 w p s c m F) (hD : DevOk D) (hb : Below w.heap.size w w') (h' : In D B w0 w' p' s' c' m' F') (hF : ∀ k, F' k → w.heap.size ≤ k) (hc : w.heap.size ≤ c') : II D B w0 w' p s c m F p' s' c' m' F' := by
  refine ⟨h.next hD hb, h', fun k hk hx => ?_⟩
  have h1 : k < w.heap.size := hk.elim (h.lt hD k) (fun e => by rw [e]; exact h.clt hD)
  rcases hx with h2 | h2
  · have := hF k h2
    omega
  · omega
end Go.Proofs.YtfgoongfmidpgabDoor
