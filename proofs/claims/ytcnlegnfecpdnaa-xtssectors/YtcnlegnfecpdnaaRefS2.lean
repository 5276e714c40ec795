/- The reference's S and back; products by the factors of mixing. -/
import Derived.Test.YtcnlegnfecpdnaaRefS
import Derived.Sort.AtCallIn
namespace Go.Proofs.Ytcnlegnfecpdnaa
open Go.ChangeShapes Go.WideShapes Go.ChangeAt Go.RowKit
set_option linter.unusedVariables false

set_option maxRecDepth 100000 in
theorem S_any (x : Nat) (w : World) (hx : x < 256) :
    Calls Try.prog 28 #[.int .u8 x] w fun e w' => e = .returned (.int .u8 (SB x : Nat)) ∧ w' = w := by
  have hin := fun w => inverse_any x w hx
  have hyl := invN_lt x hx
  have HE : Hid (SN x = SB x) := SN_eq x hx
  obtain ⟨y, hy⟩ : ∃ y, y = invN x := ⟨_, rfl⟩
  have HS : Hid (SN x = y ^^^ leftN y 1 ^^^ leftN y 2 ^^^ leftN y 3 ^^^ leftN y 4 ^^^ 99) := (by rw [hy]; rfl : SN x = _)
  rw [← hy] at hyl
  simp only [← hy] at hin
  clear hy
  have b1 := leftN_lt y 1 hyl
  have b2 := leftN_lt y 2 hyl
  have b3 := leftN_lt y 3 hyl
  have b4 := leftN_lt y 4 hyl
  have e1 := x8 hyl b1
  have e2 := x8 (xor8 hyl b1) b2
  have e3 := x8 (xor8 (xor8 hyl b1) b2) b3
  have e4 := x8 (xor8 (xor8 (xor8 hyl b1) b2) b3) b4
  have e5 : bits .xor .u8 ((y ^^^ leftN y 1 ^^^ leftN y 2 ^^^ leftN y 3 ^^^ leftN y 4 : Nat) : Int) 99 = ((y ^^^ leftN y 1 ^^^ leftN y 2 ^^^ leftN y 3 ^^^ leftN y 4 ^^^ 99 : Nat) : Int) := x8 (xor8 (xor8 (xor8 (xor8 hyl b1) b2) b3) b4) (show 99 < 256 by decide)
  have l1 := fun w => left_any y 1 w hyl (by omega) (by omega)
  have l2 := fun w => left_any y 2 w hyl (by omega) (by omega)
  have l3 := fun w => left_any y 3 w hyl (by omega) (by omega)
  have l4 := fun w => left_any y 4 w hyl (by omega) (by omega)
  go_enter Try.func28, Try.ntmps28
  go_wp2_with (first
    | (go_at_call 43; refine (hin _).mono ?_; rintro e w' ⟨rfl, rfl⟩)
    | (go_at_call_of 44 (Value.int .u64 1); refine (l1 _).mono ?_; rintro e w' ⟨rfl, rfl⟩)
    | (go_at_call_of 44 (Value.int .u64 2); refine (l2 _).mono ?_; rintro e w' ⟨rfl, rfl⟩)
    | (go_at_call_of 44 (Value.int .u64 3); refine (l3 _).mono ?_; rintro e w' ⟨rfl, rfl⟩)
    | (go_at_call_of 44 (Value.int .u64 4); refine (l4 _).mono ?_; rintro e w' ⟨rfl, rfl⟩))
  go_ret
  refine ⟨?_, rfl⟩
  rw [← HE.out, HS.out]
  rfl

set_option maxRecDepth 100000 in
theorem back_any (x : Nat) (w : World) (hx : x < 256) :
    Calls Try.prog 38 #[.int .u8 x] w fun e w' => e = .returned (.int .u8 (IB x : Nat)) ∧ w' = w := by
  have HE : Hid (BN x = IB x) := BN_eq x hx
  have b1 := leftN_lt x 1 hx
  have b2 := leftN_lt x 3 hx
  have b3 := leftN_lt x 6 hx
  have e1 := x8 b1 b2
  have e2 := x8 (xor8 b1 b2) b3
  have e3 : bits .xor .u8 ((leftN x 1 ^^^ leftN x 3 ^^^ leftN x 6 : Nat) : Int) 5 = ((leftN x 1 ^^^ leftN x 3 ^^^ leftN x 6 ^^^ 5 : Nat) : Int) := x8 (xor8 (xor8 b1 b2) b3) (show 5 < 256 by decide)
  have hin := fun w => inverse_any (leftN x 1 ^^^ leftN x 3 ^^^ leftN x 6 ^^^ 5) w (xor8 (xor8 (xor8 b1 b2) b3) (by decide))
  have l1 := fun w => left_any x 1 w hx (by omega) (by omega)
  have l2 := fun w => left_any x 3 w hx (by omega) (by omega)
  have l3 := fun w => left_any x 6 w hx (by omega) (by omega)
  go_enter Try.func38, Try.ntmps38
  go_wp2_with (first
    | (go_at_call 43; refine (hin _).mono ?_; rintro e w' ⟨rfl, rfl⟩)
    | (go_at_call_of 44 (Value.int .u64 1); refine (l1 _).mono ?_; rintro e w' ⟨rfl, rfl⟩)
    | (go_at_call_of 44 (Value.int .u64 3); refine (l2 _).mono ?_; rintro e w' ⟨rfl, rfl⟩)
    | (go_at_call_of 44 (Value.int .u64 6); refine (l3 _).mono ?_; rintro e w' ⟨rfl, rfl⟩))
  go_ret
  refine ⟨?_, rfl⟩
  rw [← HE.out]
  rfl

/-! Products by the factors. -/
theorem mul1 (x : Nat) (h : x < 256) : mulN 1 x = x := by
  have : ∀ x : Fin 256, mulN 1 x.val = x.val := by decide +kernel
  exact this ⟨x, h⟩
theorem mul2 (x : Nat) (h : x < 256) : mulN 2 x = dbl x := by
  have : ∀ x : Fin 256, mulN 2 x.val = dbl x.val := by decide +kernel
  exact this ⟨x, h⟩
theorem mul3 (x : Nat) (h : x < 256) : mulN 3 x = dbl x ^^^ x := by
  have : ∀ x : Fin 256, mulN 3 x.val = dbl x.val ^^^ x.val := by decide +kernel
  exact this ⟨x, h⟩
theorem mul9 (x : Nat) (h : x < 256) : mulN 9 x = dbl (dbl (dbl x)) ^^^ x := by
  have : ∀ x : Fin 256, mulN 9 x.val = dbl (dbl (dbl x.val)) ^^^ x.val := by decide +kernel
  exact this ⟨x, h⟩
theorem mul11 (x : Nat) (h : x < 256) : mulN 11 x = dbl (dbl (dbl x)) ^^^ dbl x ^^^ x := by
  have : ∀ x : Fin 256, mulN 11 x.val = dbl (dbl (dbl x.val)) ^^^ dbl x.val ^^^ x.val := by decide +kernel
  exact this ⟨x, h⟩
theorem mul13 (x : Nat) (h : x < 256) : mulN 13 x = dbl (dbl (dbl x)) ^^^ dbl (dbl x) ^^^ x := by
  have : ∀ x : Fin 256, mulN 13 x.val = dbl (dbl (dbl x.val)) ^^^ dbl (dbl x.val) ^^^ x.val := by decide +kernel
  exact this ⟨x, h⟩
theorem mul14 (x : Nat) (h : x < 256) : mulN 14 x = dbl (dbl (dbl x)) ^^^ dbl (dbl x) ^^^ dbl x := by
  have : ∀ x : Fin 256, mulN 14 x.val = dbl (dbl (dbl x.val)) ^^^ dbl (dbl x.val) ^^^ dbl x.val := by decide +kernel
  exact this ⟨x, h⟩
theorem mulx2 (x : Nat) (h : x < 256) : mulN x 2 = dbl x := by
  have : ∀ x : Fin 256, mulN x.val 2 = dbl x.val := by decide +kernel
  exact this ⟨x, h⟩

/-- A column by four factors. -/
def mixF (F v : Nat → Nat) (r : Nat) : Nat := 0 ^^^ mulN (F ((0 + 4 - r) % 4)) (v 0) ^^^ mulN (F ((1 + 4 - r) % 4)) (v 1) ^^^ mulN (F ((2 + 4 - r) % 4)) (v 2) ^^^ mulN (F ((3 + 4 - r) % 4)) (v 3)

def encF (j : Nat) : Nat := if j = 0 then 2 else if j = 1 then 3 else 1
def decF (j : Nat) : Nat := if j = 0 then 14 else if j = 1 then 11 else if j = 2 then 13 else 9

theorem mixF_enc (v : Nat → Nat) (h : ∀ r, r < 4 → v r < 256) (r : Nat) (hr : r < 4) : mixF encF v r = mixN v r := by
  have h0 := h 0 (by decide)
  have h1 := h 1 (by decide)
  have h2 := h 2 (by decide)
  have h3 := h 3 (by decide)
  have D := E_dbl v h
  have X := E_xor v
  rcases four_case hr with rfl | rfl | rfl | rfl <;>
    (simp [mixF, encF, mul1, mul2, mul3, h0, h1, h2, h3]
     simp only [mixN, E_0 v, E_1 v, E_2 v, E_3 v, Nat.reduceAdd, Nat.reduceMod, X, Nat.reduceXor, D, Nat.reduceMul, Nat.reduceLT])

theorem mixF_dec (v : Nat → Nat) (h : ∀ r, r < 4 → v r < 256) (r : Nat) (hr : r < 4) : mixF decF v r = unmixN v r := by
  have h0 := h 0 (by decide)
  have h1 := h 1 (by decide)
  have h2 := h 2 (by decide)
  have h3 := h 3 (by decide)
  have D := E_dbl v h
  have X := E_xor v
  rcases four_case hr with rfl | rfl | rfl | rfl <;>
    (simp [mixF, decF, mul9, mul11, mul13, mul14, h0, h1, h2, h3]
     simp only [unmixN, mixN, E_0 v, E_1 v, E_2 v, E_3 v, Nat.reduceAdd, Nat.reduceMod, X, Nat.reduceXor, D, Nat.reduceMul, Nat.reduceLT])
end Go.Proofs.Ytcnlegnfecpdnaa
