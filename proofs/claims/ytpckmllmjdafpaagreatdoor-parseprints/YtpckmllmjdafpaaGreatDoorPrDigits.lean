/- Digits of the reference. -/
import Derived.Test.YtpckmllmjdafpaaGreatDoorPrRight
import Derived.Test.YtpckmllmjdafpaaGreatDoorJoint00
namespace Go.Proofs.YtpckmllmjdafpaaGreatDoor
open Go.ChangeShapes Go.WideShapes Go.ChangeAt Go.RowKit
set_option linter.unusedVariables false

theorem dg_of {n : Nat} : dg n = (if n < 10 then [] else dg (n / 10)) ++ [UInt8.ofNat (48 + n % 10)] := by
  by_cases h : n < 10
  · rw [dg_small h, if_pos h, Nat.mod_eq_of_lt h]; rfl
  · rw [dg_great h, if_neg h]

/-- The figures of n ahead of x; none where n is 0 and x is something. -/
def dgx (n : Nat) (x : List UInt8) : List UInt8 := if n = 0 ∧ x ≠ [] then x else dg n ++ x

theorem dgx_step (n : Nat) (x : List UInt8) (h : ¬ (n = 0 ∧ x ≠ [])) : dgx n x = dgx (n / 10) (UInt8.ofNat (48 + n % 10) :: x) := by
  unfold dgx
  rw [if_neg h, dg_of]
  by_cases h1 : n < 10
  · rw [if_pos h1, if_pos ⟨by omega, by simp⟩]; rfl
  · rw [if_neg h1, if_neg (by omega)]; simp

def figs : List UInt8 := [48, 49, 50, 51, 52, 53, 54, 55, 56, 57]

theorem fig_at (k : Nat) (h : k < 10) : (bs figs).extract k (k + 1) = bs [UInt8.ofNat (48 + k)] := by
  rw [bs_extract, Nat.add_sub_cancel_left]
  match k, h with
  | 0, _ => rfl
  | 1, _ => rfl
  | 2, _ => rfl
  | 3, _ => rfl
  | 4, _ => rfl
  | 5, _ => rfl
  | 6, _ => rfl
  | 7, _ => rfl
  | 8, _ => rfl
  | 9, _ => rfl

set_option maxRecDepth 100000 in
set_option maxHeartbeats 2000000 in
theorem rdigits_c (n : Nat) (hn : n < 1000000000) (w : World) : Calls Tryz.prog 14 #[.int .i64 (n : Nat)] w fun e w' => e = .returned (.string (bs (dg n))) ∧ w' = w := by
  have HG : Hid (dgx n [] = dg n) := by show dgx n [] = _; unfold dgx; rw [if_neg (by simp)]; simp
  go_enter Tryz.func14, Tryz.ntmps14
  go_wp2
  go_loop [0, 3] (fun z s => ∃ (m : Nat) (x : List UInt8), m < 1000000000 ∧ z = .int .i64 (m : Nat) ∧ s = .string (bs x) ∧ dgx m x = dg n ∧ x.length ≤ 10 ∧ m * 10 ^ x.length ≤ n) (fun z s => 2 * (intOf z).toNat + (match s with | .string y => if y.size = 0 then 1 else 0 | _ => 0))
  case atStart => exact ⟨n, [], hn, rfl, rfl, HG.out, by simp, by simp⟩
  case round =>
    obtain ⟨m, x, hm, rfl, rfl, hd, hxl10, hmn⟩ := hrel
    have ht := bs_toList x
    by_cases hm0 : 0 < m
    · have hp : ((0 : Nat) : Int) < ((m : Nat) : Int) := by omega
      have hstay : ¬ (m = 0 ∧ x ≠ []) := by omega
      have hxl : x.length ≤ 9 := by
        have h1 : 10 ^ x.length ≤ m * 10 ^ x.length := Nat.le_mul_of_pos_left _ hm0
        have h2 : ¬ 9 < x.length := by
          intro h9
          have h3 : 10 ^ 10 ≤ 10 ^ x.length := Nat.pow_le_pow_right (by decide) (by omega)
          have : (10 : Nat) ^ 10 = 10000000000 := by decide
          omega
        omega
      obtain ⟨K, hK⟩ : ∃ K, K = m % 10 := ⟨_, rfl⟩
      obtain ⟨D, hD⟩ : ∃ D, D = m / 10 := ⟨_, rfl⟩
      have hK1 : K < 10 := by omega
      have r1 : ((m : Nat) : Int) % 10 = ((K : Nat) : Int) := by omega
      have r2 : ((m : Nat) : Int) / 10 = ((D : Nat) : Int) := by omega
      have r3 : (⟨#[48, 49, 50, 51, 52, 53, 54, 55, 56, 57]⟩ : ByteArray).extract K (K + 1) = bs [UInt8.ofNat (48 + K)] := fig_at K hK1
      have r4 : bs [UInt8.ofNat (48 + K)] ++ bs x = bs (UInt8.ofNat (48 + K) :: x) := bs_cat _ _
      have hst := dgx_step m x hstay
      rw [← hK, ← hD, hd] at hst
      have HD : Hid (dgx D (UInt8.ofNat (48 + K) :: x) = dg n) := hst.symm
      have hs1 : (bs [UInt8.ofNat (48 + K)]).size = 1 := by rw [bs_size]; rfl
      have hs2 : (bs x).size ≤ 10 := by rw [bs_size]; omega
      have hm2 : D * 10 ^ (x.length + 1) ≤ n := by
        have : D * 10 ≤ m := by omega
        rw [Nat.pow_succ]
        calc D * (10 ^ x.length * 10) = (D * 10) * 10 ^ x.length := by rw [Nat.mul_comm (10 ^ x.length) 10, Nat.mul_assoc]
          _ ≤ m * 10 ^ x.length := Nat.mul_le_mul_right _ this
          _ ≤ n := hmn
      obtain ⟨d, hdd⟩ : ∃ d, d = UInt8.ofNat (48 + K) := ⟨_, rfl⟩
      rw [← hdd] at r3 r4 HD hs1
      clear hdd
      have hDm : D ≤ m := by omega
      have hD9 : D < 1000000000 := by omega
      have hx9 : x.length ≤ 9 := hxl
      have hb1 : ((K : Nat) : Int) + 1 ≤ 10 := by omega
      clear hst hD hK hd hmn hxl hstay
      have hp2 : (0 : Int) < ((m : Nat) : Int) := by omega
      go_wp2
      go_round
      case rel => exact ⟨D, _, hD9, rfl, rfl, HD.out, by simp; omega, by simpa using hm2⟩
      case measure => simp [intOf, bs_size]; split <;> omega
    · have hm1 : m = 0 := by omega
      subst hm1
      by_cases hx0 : x = []
      · subst hx0
        have hstay : ¬ ((0 : Nat) = 0 ∧ ([] : List UInt8) ≠ []) := by simp
        have hd' : dg n = [48] := by rw [← hd]; unfold dgx; rw [if_neg (by simp), dg_small (by decide)]; rfl
        have HE : Hid (dg n = [48]) := hd'
        clear hd hd'
        go_wp2
        go_round
        case rel => exact ⟨0, [48], by decide, rfl, rfl, by rw [HE.out]; rfl, by decide, by simp⟩
        case measure => decide
      · have hdn : x = dg n := by rw [← hd]; unfold dgx; rw [if_pos ⟨rfl, hx0⟩]
        have hne : (x == []) = false := by simpa using hx0
        have HE : Hid (x = dg n) := hdn
        clear hdn hd
        go_wp2
        go_ret
        exact ⟨by rw [← HE.out]; rfl, rfl⟩

end Go.Proofs.YtpckmllmjdafpaaGreatDoor
