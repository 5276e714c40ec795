/- Bytes taken by a closure. -/
import Derived.Test.YtbiicdehgogikaaCdGrp
import Derived.Test.YtbiicdehgogikaaCdClone
namespace Go.Proofs.Ytbiicdehgogikaa
open Go.ChangeShapes Go.WideShapes Go.ChangeAt Go.RowKit
set_option linter.unusedVariables false

/-- What is left of bytes when c are taken: the variable at p. -/
def Rest (w : World) (p : Nat) (a : Option Addr) (L c : Nat) : Prop := ∃ A C, Has w p 23 #[.slice A (L - c : Nat) C] ∧ L - c ≤ C ∧ (c < L → ∃ b off, a = some ⟨b, off, none⟩ ∧ A = some ⟨b, off + c, none⟩)

theorem Rest.other {w : World} {p L c : Nat} {a : Option Addr} (h : Rest w p a L c) {q : Addr} (hq : p ≠ q.block) (u : Value) : Rest (w.setCell q u) p a L c := by
  obtain ⟨A, C, h1, h2⟩ := h
  exact ⟨A, C, h1.other hq u, h2⟩

theorem Rest.below {w w' : World} {p L c B : Nat} {a : Option Addr} (h : Rest w p a L c) (hb : Below B w w') (hB : p < B) : Rest w' p a L c := by
  obtain ⟨A, C, h1, h2⟩ := h
  exact ⟨A, C, h1.below hb hB, h2⟩

theorem Rest.lt {w : World} {p L c : Nat} {a : Option Addr} (h : Rest w p a L c) : p < w.heap.size := by
  obtain ⟨A, C, h1, h2⟩ := h
  exact h1.lt

/-- What taking s bytes leaves. -/
def Took (w : World) (p : Nat) (a : Option Addr) (L c s : Nat) (B : Nat → Nat) (e : Ending) (w' : World) : Prop := ∃ A C u, e = .returned (.slice A s C) ∧ Bytes w' A s (fun j => B (c + j)) ∧ (A = none → s = 0 ∧ C = 0) ∧ s ≤ C ∧ Rest w' p a L (c + s) ∧ w' = w.setCell ⟨p, 0, none⟩ u

set_option maxRecDepth 100000 in
set_option maxHeartbeats 1000000 in
theorem take_ok {w0 w : World} {p L c : Nat} {a : Option Addr} {B : Nat → Nat} (s : Nat) (hb : Bytes w0 a L B) (hbel : Below w0.heap.size w0 w) (hp : w0.heap.size ≤ p) (hr : Rest w p a L c) (h1 : 1 ≤ s) (hs : s ≤ 64) (h : c + s ≤ L) (hL : L ≤ maxLen) :
    Calls Try.prog 39 #[.int .i64 (s : Nat), .pointer (some ⟨p, 0, none⟩)] w (Took w p a L c s B) := by
  obtain ⟨A, C, hH, hC, hA⟩ := hr
  obtain ⟨b, off, rfl, rfl⟩ := hA (by omega)
  obtain ⟨M, hM⟩ : ∃ M, M = L - c := ⟨_, rfl⟩
  rw [← hM] at hH hC
  have hM1 : s ≤ M := by omega
  have hM2 : ¬ (M : Int) < (s : Int) := by omega
  have c0 : w.cell? ⟨p, 0, none⟩ = some (.slice (some ⟨b, off + c, none⟩) M C) := hH.cell 0
  have z0 := hH.free 0
  unfold maxLen at hL
  have hM3 : M ≤ 9223372036854775807 := by omega
  obtain ⟨R, hR⟩ : ∃ R : Addr, R = if C = s then (⟨b, off + c, none⟩ : Addr) else ⟨b, off + c + s, none⟩ := ⟨_, rfl⟩
  have HR : Hid (R = if C = s then (⟨b, off + c, none⟩ : Addr) else ⟨b, off + c + s, none⟩) := hR
  have HM : Hid (M = L - c) := hM
  have HB := fun u => (hb.below (hbel.setCell (p := ⟨p, 0, none⟩) hp u) (Nat.le_refl _)).part c s h
  clear hR hM hA hb
  go_enter Try.func39, Try.ntmps39
  go_wp2_with (first
    | ((refine at_dst 13 rfl ?_)
       (refine wpList_is (some 13) (.slice (some ⟨b, off + c, none⟩) s C) rfl rfl (run_slice_to _ _ rfl b (off + c) M C s rfl rfl (by omega) _) ?_))
    | ((refine at_dst 16 rfl ?_)
       (refine wpList_is (some 16) (.slice (some R) (M - s : Nat) (C - s)) rfl rfl (by rw [HR.out]; exact run_slice_from _ _ rfl b (off + c) M C s rfl rfl (by omega) _) ?_)))
  go_ret
  refine ⟨_, _, _, rfl, HB _, (fun e => by cases e), by omega, ⟨some R, C - s, ?_, ?_, ?_⟩, rfl⟩
  · rw [show L - (c + s) = M - s by have := HM.out; omega]
    exact hH.put 0 _
  · have := HM.out
    omega
  · intro hlt
    refine ⟨b, off, rfl, ?_⟩
    have hM' := HM.out
    rw [HR.out, if_neg (by omega), Nat.add_assoc]

set_option maxHeartbeats 1000000 in
theorem take_no {w : World} {p L c : Nat} {a : Option Addr} (s : Nat) (hr : Rest w p a L c) (h1 : 1 ≤ s) (hs : s ≤ 64) (h : L < c + s) (hL : L ≤ maxLen) :
    Calls Try.prog 39 #[.int .i64 (s : Nat), .pointer (some ⟨p, 0, none⟩)] w fun e w' => e = .panicked ngp ∧ w' = w := by
  obtain ⟨A, C, hH, hC, hA⟩ := hr
  obtain ⟨M, hM⟩ : ∃ M, M = L - c := ⟨_, rfl⟩
  rw [← hM] at hH hC
  have hM2 : (M : Int) < (s : Int) := by omega
  have c0 : w.cell? ⟨p, 0, none⟩ = some (.slice A M C) := hH.cell 0
  unfold maxLen at hL
  have hM3 : M ≤ 9223372036854775807 := by omega
  go_enter Try.func39, Try.ntmps39
  go_wp2
  exact ⟨rfl, rfl, rfl⟩
end Go.Proofs.Ytbiicdehgogikaa
