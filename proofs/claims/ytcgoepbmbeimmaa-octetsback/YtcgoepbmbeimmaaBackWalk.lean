/- The walk of OctetsBack: for every uint64 and every byte slice it returns true and writes nothing that was there. -/
import Derived.Test.YtcgoepbmbeimmaaSlices
namespace Go.Proofs.Ytcgoepbmbeimmaa
open Go.ChangeShapes Go.WideShapes Go.ChangeAt Go.RowKit

theorem less_pow (n : Int) (k : Nat) (h0 : 0 ≤ n) (hk : k ≤ 7) : decide (n < IntKind.u64.wrap (2 ^ (8 * k))) = hold n k := by
  have hp := pow_le k hk
  have hq : (0 : Int) < 2 ^ (8 * k) := Int.pow_pos (by decide)
  rw [IntWalk.u64_in _ ⟨by omega, by omega⟩, Bool.eq_iff_iff, hold_iff n k h0]
  simp

theorem hold_8 (n : Int) (h1 : 0 ≤ n) (h2 : n ≤ 18446744073709551615) : hold n ((8 : Nat) : Int) = true := by
  rw [hold_iff n 8 h1]
  have : (2 : Int) ^ (8 * 8) = 18446744073709551616 := rfl
  rw [this]
  omega

theorem isRow_len {w : World} {a : Option Addr} {len cap : Nat} {zs : List Int} (h : IsRow .u8 w a len cap zs) : len ≤ 9223372036854775807 ∧ (a = none → len = 0) := by
  rcases h with ⟨_, rfl, _, _⟩ | ⟨x, rfl, hl, hm, _⟩
  · exact ⟨by omega, fun _ => rfl⟩
  · unfold maxLen at hm
    exact ⟨by omega, by simp⟩

set_option maxHeartbeats 1000000 in
theorem back_walk (n : Int) (a : Option Addr) (len cap : Nat) (zs : List Int) (w : World) (wn : (Lit.int .u64 n).wf = true) (hrow : IsRow .u8 w a len cap zs) :
    Calls Try.prog 6 #[.int .u64 n, .slice a len cap] w fun e w' => e = .returned (.bool true) ∧ Below w.heap.size w w' := by
  have hn := bounds_u64 wn
  obtain ⟨hm, hnil⟩ := isRow_len hrow
  have hR := row_of_isRow hrow
  obtain ⟨f, hf⟩ : ∃ f : Nat → Int, f = fun j => zs.getD j 0 := ⟨_, rfl⟩
  rw [← hf] at hR
  clear wn hrow hf
  go_enter Try.func6, Try.ntmps6
  go_wp2
  go_loopw [5] (fun i wr => ∃ k : Nat, 1 ≤ k ∧ k ≤ 9 ∧ i = .int .i64 k ∧ Below w.heap.size w wr) (fun i _ => 9 - (intOf i).toNat)
  case atStart => exact ⟨1, by omega, by omega, rfl, Below.refl _ _⟩
  case round =>
    obtain ⟨k, hk1, hk2, rfl, hbel⟩ := hrel
    by_cases hlt : k ≤ 7
    · have hd := less_pow n k hn.1 hlt
      by_cases hh : hold n k = true
      · have hv := val_back n k hn.1 ((hold_iff n k hn.1).1 hh)
        have p1 := put_ok k n wr hk1 (by omega) hh
        rw [hh] at hd
        clear hR hnil
        go_wp2_with (first
          | (go_at_call 11; refine p1.mono ?_; rintro e w1 ⟨rfl, o1, b1⟩; have g1 := get_row k hk1 (by omega) (row_own o1 (fun j _ => byteAt_bd n k j)); rw [hv] at g1; clear p1 o1)
          | (go_at_call 9; refine g1.mono ?_; rintro e w2 ⟨rfl, rfl⟩; clear g1))
        go_roundw
        case rel => exact ⟨k + 1, by omega, by omega, by go_num, hbel.trans (b1.mono hbel.size)⟩
        case measure => simp [intOf]; omega
      · have hh : hold n k = false := by simpa using hh
        have p1 := put_err k n wr (.inr (.inr hh))
        rw [hh] at hd
        clear hR hnil
        go_wp2_with (go_at_call 11; refine p1.mono ?_; rintro e w1 ⟨rfl, b1⟩; clear p1)
        go_roundw
        case rel => exact ⟨k + 1, by omega, by omega, by go_num, hbel.trans (b1.mono hbel.size)⟩
        case measure => simp [intOf]; omega
    · by_cases h8 : k = 8
      · subst h8
        have hh := hold_8 n hn.1 hn.2
        have hv := val_back n 8 hn.1 ((hold_iff n 8 hn.1).1 hh)
        have p1 := put_ok 8 n wr hk1 (by omega) hh
        clear hR hnil
        go_wp2_with (first
          | (go_at_call 11; refine p1.mono ?_; rintro e w1 ⟨rfl, o1, b1⟩; have g1 := get_row 8 hk1 (by omega) (row_own o1 (fun j _ => byteAt_bd n 8 j)); rw [hv] at g1; clear p1 o1)
          | (go_at_call 9; refine g1.mono ?_; rintro e w2 ⟨rfl, rfl⟩; clear g1))
        go_roundw
        case rel => exact ⟨9, by omega, by omega, rfl, hbel.trans (b1.mono hbel.size)⟩
        case measure => simp [intOf]
      · obtain rfl : k = 9 := by omega
        have hRr := hR.below hbel (Nat.le_refl _)
        clear hR
        by_cases hl : 1 ≤ len ∧ len ≤ 8
        · obtain ⟨l1, l2⟩ := hl
          have hf : ∀ j, j < len → 0 ≤ f j ∧ f j ≤ 255 := fun j hj => (hRr j hj).1
          have g1 := get_row cap l1 l2 hRr
          have hvb := val_bd f len hf len (Nat.le_refl _)
          have hh : hold (val f len) len = true := (hold_iff _ _ hvb.1).2 hvb.2
          have p1 := put_ok len (val f len) wr l1 l2 hh
          have hbl : (byteList (byteAt (val f len) len) len == byteList f len) = true := by
            rw [byteList_eq _ _ _ (byteAt_val f len hf)]
            simp
          have d1 : (1 : Int) ≤ (len : Int) := by omega
          have d2 : (len : Int) ≤ 8 := by omega
          have e1 : decide ((1 : Int) ≤ (len : Int)) = true := by simpa using d1
          have e2 : decide ((len : Int) ≤ 8) = true := by simpa using d2
          clear hvb hh hf
          go_wp2_with (first
            | (go_at_call 9; refine g1.mono ?_; rintro e w2 ⟨rfl, rfl⟩; clear g1)
            | (go_at_call 11; refine p1.mono ?_; rintro e w1 ⟨rfl, o1, b1⟩; have s1 := same_any len cap (row_own o1 (fun j _ => byteAt_bd (val f len) len j)) (hRr.below b1 (Nat.le_refl _)) (by simp) hnil; rw [hbl] at s1; have hal := alive_any w1; clear p1 o1 hRr hnil)
            | (go_at_call 13; refine s1.mono ?_; rintro e w2 ⟨rfl, rfl⟩; clear s1)
            | (go_at_call 14; refine hal.mono ?_; rintro e w3 ⟨rfl, b3⟩; clear hal))
          go_ret
          exact ⟨rfl, hbel.trans ((b1.mono hbel.size).trans (b3.mono (Nat.le_trans hbel.size b1.size)))⟩
        · have g1 := get_err a len cap wr (by omega) hm
          have hal := alive_any wr
          clear hRr hnil
          by_cases l1 : 1 ≤ len
          · have l2 : 8 < len := by omega
            clear hl
            go_wp2_with (first
              | (go_at_call 9; refine g1.mono ?_; rintro e w2 ⟨rfl, rfl⟩; clear g1)
              | (go_at_call 14; refine hal.mono ?_; rintro e w3 ⟨rfl, b3⟩; clear hal))
            go_ret
            exact ⟨rfl, hbel.trans (b3.mono hbel.size)⟩
          · obtain rfl : len = 0 := by omega
            clear hl
            go_wp2_with (first
              | (go_at_call 9; refine g1.mono ?_; rintro e w2 ⟨rfl, rfl⟩; clear g1)
              | (go_at_call 14; refine hal.mono ?_; rintro e w3 ⟨rfl, b3⟩; clear hal))
            go_ret
            exact ⟨rfl, hbel.trans (b3.mono hbel.size)⟩
end Go.Proofs.Ytcgoepbmbeimmaa
