/- The reference's products, inverses, S and its other way. -/
import Derived.Test.YtcnlegnfecpdnaaAesTab
namespace Go.Proofs.Ytcnlegnfecpdnaa
open Go.ChangeShapes Go.WideShapes Go.ChangeAt Go.RowKit
set_option linter.unusedVariables false

/-- Behind i of the eight steps: the sum so far, a, b. -/
def mulAt (a b : Nat) : Nat → Nat × Nat × Nat
  | 0 => (0, a, b)
  | i + 1 => ((if (mulAt a b i).2.2 % 2 = 1 then (mulAt a b i).1 ^^^ (mulAt a b i).2.1 else (mulAt a b i).1), dbl (mulAt a b i).2.1, (mulAt a b i).2.2 / 2)

def mulN (a b : Nat) : Nat := (mulAt a b 8).1

theorem mulAt_lt (a b : Nat) (ha : a < 256) (hb : b < 256) : ∀ i, (mulAt a b i).1 < 256 ∧ (mulAt a b i).2.1 < 256 ∧ (mulAt a b i).2.2 < 256
  | 0 => ⟨by show 0 < 256; decide, ha, hb⟩
  | i + 1 => by
    obtain ⟨h1, h2, h3⟩ := mulAt_lt a b ha hb i
    refine ⟨?_, dbl_lt _ h2, Nat.lt_of_le_of_lt (Nat.div_le_self _ _) h3⟩
    show (if (mulAt a b i).2.2 % 2 = 1 then _ else _) < 256
    split
    · exact xor8 h1 h2
    · exact h1

theorem mulN_lt (a b : Nat) (ha : a < 256) (hb : b < 256) : mulN a b < 256 := (mulAt_lt a b ha hb 8).1

theorem int_eq {k : IntKind} {a b : Int} (h : a = b) : Value.int k a = .int k b := by rw [h]

set_option maxRecDepth 100000 in
theorem mul_any (a b : Nat) (w : World) (ha : a < 256) (hb : b < 256) :
    Calls Try.prog 29 #[.int .u8 a, .int .u8 b] w fun e w' => e = .returned (.int .u8 (mulN a b : Nat)) ∧ w' = w := by
  go_enter Try.func29, Try.ntmps29
  go_wp2
  go_loop [0, 1, 5, 6] (fun x y o i => ∃ k : Nat, k ≤ 8 ∧ i = .int .i64 k ∧ x = .int .u8 ((mulAt a b k).2.1 : Nat) ∧ y = .int .u8 ((mulAt a b k).2.2 : Nat) ∧ o = .int .u8 ((mulAt a b k).1 : Nat))
    (fun _ _ _ i => 8 - (intOf i).toNat)
  case atStart => exact ⟨0, Nat.zero_le _, rfl, rfl, rfl, rfl⟩
  case round =>
    obtain ⟨k, hk, rfl, rfl, rfl, rfl⟩ := hrel
    obtain ⟨h1, h2, h3⟩ := mulAt_lt a b ha hb k
    by_cases hlt : k < 8
    · obtain ⟨p, hp⟩ : ∃ p, p = (mulAt a b k).1 := ⟨_, rfl⟩
      obtain ⟨x, hx⟩ : ∃ p, p = (mulAt a b k).2.1 := ⟨_, rfl⟩
      obtain ⟨y, hy⟩ : ∃ p, p = (mulAt a b k).2.2 := ⟨_, rfl⟩
      have HR : Hid (mulAt a b (k + 1) = ((if y % 2 = 1 then p ^^^ x else p), dbl x, y / 2)) := (by rw [hp, hx, hy]; rfl : mulAt a b (k + 1) = _)
      rw [← hp] at h1 ⊢
      rw [← hx] at h2 ⊢
      rw [← hy] at h3 ⊢
      clear hp hx hy
      have e1 := x8 h1 h2
      have i1 : (k : Int) < 8 := by omega
      have i0 : (0 : Int) ≤ (k : Int) := by omega
      by_cases hm : y % 2 = 1
      · have m1 : (y : Int) % 2 = 1 := by omega
        by_cases hh : x < 128
        · have hi : ¬ (128 : Int) ≤ (x : Int) := by omega
          have hd : Hid (x * 2 ^ 1 % 256 = dbl x) := dbl_low x h2 hh
          go_wp2
          go_round
          case rel =>
            refine ⟨k + 1, by omega, by go_num, ?_, ?_, ?_⟩
            · rw [HR.out]
              exact int_eq (show (x : Int) * 2 = ((dbl x : Nat) : Int) by rw [← hd.out]; omega)
            · rw [HR.out]
              exact int_eq (show (y : Int) / 2 = ((y / 2 : Nat) : Int) by omega)
            · rw [HR.out]
              exact int_eq (show ((p ^^^ x : Nat) : Int) = ((if y % 2 = 1 then p ^^^ x else p : Nat) : Int) by rw [if_pos hm])
          case measure => simp [intOf]; omega
        · have hi : (128 : Int) ≤ (x : Int) := by omega
          have e2 : bits .xor .u8 ((x : Int) * 2 % 256) 27 = ((dbl x : Nat) : Int) := by
            have := u8_xor_nat (x * 2 ^ 1 % 256) 27 (Nat.mod_lt _ (by decide)) (by decide)
            rw [dbl_high x h2 hh] at this
            rw [← this, show ((x * 2 ^ 1 % 256 : Nat) : Int) = (x : Int) * 2 % 256 by omega]
            rfl
          go_wp2
          go_round
          case rel =>
            refine ⟨k + 1, by omega, by go_num, ?_, ?_, ?_⟩
            · rw [HR.out]
            · rw [HR.out]
              exact int_eq (show (y : Int) / 2 = ((y / 2 : Nat) : Int) by omega)
            · rw [HR.out]
              exact int_eq (show ((p ^^^ x : Nat) : Int) = ((if y % 2 = 1 then p ^^^ x else p : Nat) : Int) by rw [if_pos hm])
          case measure => simp [intOf]; omega
      · have m1 : ¬ (y : Int) % 2 = 1 := by omega
        by_cases hh : x < 128
        · have hi : ¬ (128 : Int) ≤ (x : Int) := by omega
          have hd : Hid (x * 2 ^ 1 % 256 = dbl x) := dbl_low x h2 hh
          go_wp2
          go_round
          case rel =>
            refine ⟨k + 1, by omega, by go_num, ?_, ?_, ?_⟩
            · rw [HR.out]
              exact int_eq (show (x : Int) * 2 = ((dbl x : Nat) : Int) by rw [← hd.out]; omega)
            · rw [HR.out]
              exact int_eq (show (y : Int) / 2 = ((y / 2 : Nat) : Int) by omega)
            · rw [HR.out]
              exact int_eq (show ((p : Nat) : Int) = ((if y % 2 = 1 then p ^^^ x else p : Nat) : Int) by rw [if_neg hm])
          case measure => simp [intOf]; omega
        · have hi : (128 : Int) ≤ (x : Int) := by omega
          have e2 : bits .xor .u8 ((x : Int) * 2 % 256) 27 = ((dbl x : Nat) : Int) := by
            have := u8_xor_nat (x * 2 ^ 1 % 256) 27 (Nat.mod_lt _ (by decide)) (by decide)
            rw [dbl_high x h2 hh] at this
            rw [← this, show ((x * 2 ^ 1 % 256 : Nat) : Int) = (x : Int) * 2 % 256 by omega]
            rfl
          go_wp2
          go_round
          case rel =>
            refine ⟨k + 1, by omega, by go_num, ?_, ?_, ?_⟩
            · rw [HR.out]
            · rw [HR.out]
              exact int_eq (show (y : Int) / 2 = ((y / 2 : Nat) : Int) by omega)
            · rw [HR.out]
              exact int_eq (show ((p : Nat) : Int) = ((if y % 2 = 1 then p ^^^ x else p : Nat) : Int) by rw [if_neg hm])
          case measure => simp [intOf]; omega
    · obtain rfl : k = 8 := by omega
      go_wp2
      go_ret
      exact ⟨rfl, rfl⟩

/-- Behind i of the seven steps: the product so far, the power. -/
def invAt (a : Nat) : Nat → Nat × Nat
  | 0 => (1, a)
  | i + 1 => (mulN (invAt a i).1 (mulN (invAt a i).2 (invAt a i).2), mulN (invAt a i).2 (invAt a i).2)

def invN (a : Nat) : Nat := (invAt a 7).1

theorem invAt_lt (a : Nat) (ha : a < 256) : ∀ i, (invAt a i).1 < 256 ∧ (invAt a i).2 < 256
  | 0 => ⟨by show 1 < 256; decide, ha⟩
  | i + 1 => by
    obtain ⟨h1, h2⟩ := invAt_lt a ha i
    exact ⟨mulN_lt _ _ h1 (mulN_lt _ _ h2 h2), mulN_lt _ _ h2 h2⟩

theorem invN_lt (a : Nat) (ha : a < 256) : invN a < 256 := (invAt_lt a ha 7).1

set_option maxRecDepth 100000 in
theorem inverse_any (a : Nat) (w : World) (ha : a < 256) :
    Calls Try.prog 43 #[.int .u8 a] w fun e w' => e = .returned (.int .u8 (invN a : Nat)) ∧ w' = w := by
  go_enter Try.func43, Try.ntmps43
  go_wp2
  go_loop [3, 4, 5] (fun o p i => ∃ k : Nat, k ≤ 7 ∧ i = .int .i64 k ∧ o = .int .u8 ((invAt a k).1 : Nat) ∧ p = .int .u8 ((invAt a k).2 : Nat))
    (fun _ _ i => 7 - (intOf i).toNat)
  case atStart => exact ⟨0, Nat.zero_le _, rfl, rfl, rfl⟩
  case round =>
    obtain ⟨k, hk, rfl, rfl, rfl⟩ := hrel
    obtain ⟨h1, h2⟩ := invAt_lt a ha k
    by_cases hlt : k < 7
    · have i1 : (k : Int) < 7 := by omega
      have m1 := mulN_lt _ _ h2 h2
      have q1 := fun w => mul_any (invAt a k).2 (invAt a k).2 w h2 h2
      have q2 := fun w => mul_any (invAt a k).1 (mulN (invAt a k).2 (invAt a k).2) w h1 m1
      go_wp2_with (first
        | (go_at_call 29; have _t := q1; refine (q1 _).mono ?_; rintro e w' ⟨rfl, rfl⟩; clear q1 _t)
        | (go_at_call 29; refine (q2 _).mono ?_; rintro e w' ⟨rfl, rfl⟩))
      go_round
      case rel => exact ⟨k + 1, by omega, by go_num, rfl, rfl⟩
      case measure => simp [intOf]; omega
    · obtain rfl : k = 7 := by omega
      go_wp2
      go_ret
      exact ⟨rfl, rfl⟩

def leftN (a n : Nat) : Nat := (a * 2 ^ n) % 256 ||| (a / 2 ^ (8 - n))

theorem leftN_lt (a n : Nat) (h : a < 256) : leftN a n < 256 := by
  unfold leftN
  rw [show (256 : Nat) = 2 ^ 8 from rfl] at *
  exact Nat.or_lt_two_pow (Nat.mod_lt _ (by decide)) (Nat.lt_of_le_of_lt (Nat.div_le_self _ _) h)

theorem left_any (a n : Nat) (w : World) (ha : a < 256) (h1 : 1 ≤ n) (h2 : n ≤ 7) :
    Calls Try.prog 44 #[.int .u8 a, .int .u64 n] w fun e w' => e = .returned (.int .u8 (leftN a n : Nat)) ∧ w' = w := by
  go_enter Try.func44, Try.ntmps44
  go_wp2
  go_ret
  refine ⟨?_, rfl⟩
  have e1 : (a : Int) * 2 ^ n % 256 = ((a * 2 ^ n % 256 : Nat) : Int) := by rw [Int.natCast_emod, Int.natCast_mul, Int.natCast_pow]; rfl
  have e2 : (a : Int) / 2 ^ (8 - n) = ((a / 2 ^ (8 - n) : Nat) : Int) := by rw [Int.natCast_ediv, Int.natCast_pow]; rfl
  show Ending.returned (.int .u8 (bits .or .u8 ((a : Int) * 2 ^ n % 256) ((a : Int) / 2 ^ (8 - n)))) = _
  rw [e1, e2, u8_or_nat _ _ (Nat.mod_lt _ (by decide)) (Nat.lt_of_le_of_lt (Nat.div_le_self _ _) ha)]
  rfl

def SN (x : Nat) : Nat := invN x ^^^ leftN (invN x) 1 ^^^ leftN (invN x) 2 ^^^ leftN (invN x) 3 ^^^ leftN (invN x) 4 ^^^ 99
def BN (x : Nat) : Nat := invN (leftN x 1 ^^^ leftN x 3 ^^^ leftN x 6 ^^^ 5)

theorem SN_eq (x : Nat) (h : x < 256) : SN x = SB x := by
  have : ∀ x : Fin 256, SN x.val = SB x.val := by decide +kernel
  exact this ⟨x, h⟩
theorem BN_eq (x : Nat) (h : x < 256) : BN x = IB x := by
  have : ∀ x : Fin 256, BN x.val = IB x.val := by decide +kernel
  exact this ⟨x, h⟩
end Go.Proofs.Ytcnlegnfecpdnaa
