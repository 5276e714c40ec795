/- The walk of CodecNumbers: its calls and its loop. -/
import Derived.Test.YtbiicdehgogikaaCdLawN
namespace Go.Proofs.Ytbiicdehgogikaa
open Go.ChangeShapes Go.WideShapes Go.ChangeAt Go.RowKit
set_option linter.unusedVariables false

theorem rem_neg (i : Int) (m : Nat) (hm : 0 < m) (h : i < 0) : ∃ I : Nat, I < m ∧ -(i + 1).tmod (m : Int) = (I : Int) := by
  have e : (i + 1).tmod (m : Int) = -((-(i + 1)) % (m : Int)) := by
    have h1 : (i + 1) = -(-(i + 1)) := by omega
    rw [h1, Int.neg_tmod, Int.tmod_eq_emod_of_nonneg (by omega)]
    simp
  have h2 := Int.emod_nonneg (-(i + 1)) (show (m : Int) ≠ 0 by omega)
  have h3 := Int.emod_lt_of_pos (-(i + 1)) (show (0 : Int) < m by omega)
  exact ⟨((-(i + 1)) % (m : Int)).toNat, by omega, by rw [e]; omega⟩

theorem rem_pos (i : Int) (m : Nat) (hm : 0 < m) (h : ¬ i < 0) : ∃ I : Nat, I < m ∧ i % (m : Int) = (I : Int) := by
  have h2 := Int.emod_nonneg i (show (m : Int) ≠ 0 by omega)
  have h3 := Int.emod_lt_of_pos i (show (0 : Int) < m by omega)
  exact ⟨(i % (m : Int)).toNat, by omega, by omega⟩

set_option maxRecDepth 100000 in
set_option maxHeartbeats 400000 in
theorem numbers_nn (w : World) (f : Nat → Nat) (i n : Int) (hf : ∀ j, f j < 256) (hi : -9223372036854775808 ≤ i ∧ i ≤ 9223372036854775807) (hn : -9223372036854775808 ≤ n ∧ n ≤ 9223372036854775807) (h1 : i < 0) (h2 : n < 0) :
    Calls Try.prog 8 #[.agg (cellsN .u8 64 f), .int .i64 i, .int .i64 n] w fun e w' => e = .returned (.bool true) ∧ Below w.heap.size w w' := by
  obtain ⟨hi1, hi2⟩ := hi
  obtain ⟨hn1, hn2⟩ := hn
  obtain ⟨I, hI, eI⟩ := rem_neg i 16 (by decide) h1
  obtain ⟨N, hN, eN⟩ := rem_neg n 2147483648 (by decide) h2
  have eI : -(i + 1).tmod 16 = (I : Int) := eI
  have eN : -(n + 1).tmod 2147483648 = (N : Int) := eN
  obtain ⟨wx, hwx⟩ : ∃ wx, wx = w.alloc (.cells (cellsN .u8 64 f) 42) := ⟨_, rfl⟩
  have hbx : Below w.heap.size w wx := by rw [hwx]; exact (Below.refl _ _).alloc (Nat.le_refl _) _
  have hx : Has wx w.heap.size 42 (cellsN .u8 64 f) := by rw [hwx]; exact Has.new _ _ _
  have hst := tells_own (setn_yes I N hx.bytes (Nat.le_refl _) (inF_num I hI) hN)
  have HN : Hid (N < 2147483648) := hN
  clear hN
  subst hwx
  go_enter Try.func8, Try.ntmps8
  go_wp2_with (first
    | ((go_at_call 22)
       (refine Calls.mono hst ?_)
       (rintro e w2 ⟨ua, uc, rfl, ub, un, ul, hb2⟩)
       (clear hst)))
  have hbw2 := hbx.trans (hb2.mono hbx.size)
  have hx2 := hx.below hb2 hx.lt
  have sft : ∀ j, sfld f I 4 (nbs N 4) j < 256 := over_lt hf (nbs_lt _ _) _ _
  have ebd : (0 : Int) ≤ (I : Int) ∧ (I : Int) < 16 := by omega
  clear hbx hx hb2
  go_loopw [9] (fun iv wr => ∃ k : Nat, k ≤ 16 ∧ iv = .int .i64 (k : Nat) ∧ Below w2.heap.size w2 wr)
    (fun iv _ => 16 - (intOf iv).toNat)
  case atStart => exact ⟨0, by omega, rfl, Below.refl _ _⟩
  case round =>
    obtain ⟨k, hk, rfl, hbr⟩ := hrel
    by_cases hlt : k < 16
    · have F1 := num_at k hlt (hx2.below hbr hx2.lt).bytes (Nat.le_refl _) hf
      have F2f := fun w3 (hb : Below w2.heap.size w2 w3) => num_at k hlt (ub.below hb (Nat.le_refl _)) ul sft
      obtain ⟨q1, q2⟩ := num_set f I k N HN.out
      rw [q1, q2] at F2f
      generalize numX f k = X at F1 F2f
      generalize numE f k = E at F1 F2f
      have i0 : (k : Int) < 16 := by omega
      clear q1 q2 hx2 ub sft
      by_cases hkI : k = I
      · rw [if_pos hkI, if_pos hkI] at F2f
        subst hkI
        go_wp2_with (first
          | ((go_at_call 20)
             (refine Calls.mono F1 ?_)
             (rintro e w3 ⟨rfl, hb3⟩)
             (clear F1)
             (have hbr3 := hbr.trans (hb3.mono hbr.size))
             (have F2 := F2f w3 hbr3))
          | ((go_at_call 20)
             (refine Calls.mono F2 ?_)
             (rintro e w4 ⟨rfl, hb4⟩)
             (clear F2)
             (have hbr4 := hbr3.trans (hb4.mono hbr3.size))))
        go_roundw
        case rel => exact ⟨k + 1, by omega, by go_num, hbr4⟩
        case measure => simp [intOf]; omega
      · rw [if_neg hkI, if_neg hkI] at F2f
        have HK : Hid (¬ k = I) := hkI
        have hke : ¬ (k : Int) = (I : Int) := by omega
        clear hkI
        go_wp2_with (first
          | ((go_at_call 20)
             (refine Calls.mono F1 ?_)
             (rintro e w3 ⟨rfl, hb3⟩)
             (clear F1)
             (have hbr3 := hbr.trans (hb3.mono hbr.size))
             (have F2 := F2f w3 hbr3))
          | ((go_at_call 20)
             (refine Calls.mono F2 ?_)
             (rintro e w4 ⟨rfl, hb4⟩)
             (clear F2)
             (have hbr4 := hbr3.trans (hb4.mono hbr3.size))))
        go_roundw
        case rel => exact ⟨k + 1, by omega, by go_num, hbr4⟩
        case measure => simp [intOf]; omega
    · have AL := alive_any wr
      have i0 : ¬ (k : Int) < 16 := by omega
      go_wp2_with (first
        | ((go_at_call 15)
           (refine AL.mono ?_)
           (rintro e w6 ⟨rfl, hb6⟩)))
      go_ret
      have hbr6 := hbr.trans (hb6.mono hbr.size)
      exact ⟨rfl, hbw2.trans (hbr6.mono hbw2.size)⟩

set_option maxRecDepth 100000 in
set_option maxHeartbeats 400000 in
theorem numbers_np (w : World) (f : Nat → Nat) (i n : Int) (hf : ∀ j, f j < 256) (hi : -9223372036854775808 ≤ i ∧ i ≤ 9223372036854775807) (hn : -9223372036854775808 ≤ n ∧ n ≤ 9223372036854775807) (h1 : i < 0) (h2 : ¬ n < 0) :
    Calls Try.prog 8 #[.agg (cellsN .u8 64 f), .int .i64 i, .int .i64 n] w fun e w' => e = .returned (.bool true) ∧ Below w.heap.size w w' := by
  obtain ⟨hi1, hi2⟩ := hi
  obtain ⟨hn1, hn2⟩ := hn
  obtain ⟨I, hI, eI⟩ := rem_neg i 16 (by decide) h1
  obtain ⟨N, hN, eN⟩ := rem_pos n 2147483648 (by decide) h2
  have eI : -(i + 1).tmod 16 = (I : Int) := eI
  have eN : n % 2147483648 = (N : Int) := eN
  obtain ⟨wx, hwx⟩ : ∃ wx, wx = w.alloc (.cells (cellsN .u8 64 f) 42) := ⟨_, rfl⟩
  have hbx : Below w.heap.size w wx := by rw [hwx]; exact (Below.refl _ _).alloc (Nat.le_refl _) _
  have hx : Has wx w.heap.size 42 (cellsN .u8 64 f) := by rw [hwx]; exact Has.new _ _ _
  have hst := tells_own (setn_yes I N hx.bytes (Nat.le_refl _) (inF_num I hI) hN)
  have HN : Hid (N < 2147483648) := hN
  clear hN
  subst hwx
  go_enter Try.func8, Try.ntmps8
  go_wp2_with (first
    | ((go_at_call 22)
       (refine Calls.mono hst ?_)
       (rintro e w2 ⟨ua, uc, rfl, ub, un, ul, hb2⟩)
       (clear hst)))
  have hbw2 := hbx.trans (hb2.mono hbx.size)
  have hx2 := hx.below hb2 hx.lt
  have sft : ∀ j, sfld f I 4 (nbs N 4) j < 256 := over_lt hf (nbs_lt _ _) _ _
  have ebd : (0 : Int) ≤ (I : Int) ∧ (I : Int) < 16 := by omega
  clear hbx hx hb2
  go_loopw [9] (fun iv wr => ∃ k : Nat, k ≤ 16 ∧ iv = .int .i64 (k : Nat) ∧ Below w2.heap.size w2 wr)
    (fun iv _ => 16 - (intOf iv).toNat)
  case atStart => exact ⟨0, by omega, rfl, Below.refl _ _⟩
  case round =>
    obtain ⟨k, hk, rfl, hbr⟩ := hrel
    by_cases hlt : k < 16
    · have F1 := num_at k hlt (hx2.below hbr hx2.lt).bytes (Nat.le_refl _) hf
      have F2f := fun w3 (hb : Below w2.heap.size w2 w3) => num_at k hlt (ub.below hb (Nat.le_refl _)) ul sft
      obtain ⟨q1, q2⟩ := num_set f I k N HN.out
      rw [q1, q2] at F2f
      generalize numX f k = X at F1 F2f
      generalize numE f k = E at F1 F2f
      have i0 : (k : Int) < 16 := by omega
      clear q1 q2 hx2 ub sft
      by_cases hkI : k = I
      · rw [if_pos hkI, if_pos hkI] at F2f
        subst hkI
        go_wp2_with (first
          | ((go_at_call 20)
             (refine Calls.mono F1 ?_)
             (rintro e w3 ⟨rfl, hb3⟩)
             (clear F1)
             (have hbr3 := hbr.trans (hb3.mono hbr.size))
             (have F2 := F2f w3 hbr3))
          | ((go_at_call 20)
             (refine Calls.mono F2 ?_)
             (rintro e w4 ⟨rfl, hb4⟩)
             (clear F2)
             (have hbr4 := hbr3.trans (hb4.mono hbr3.size))))
        go_roundw
        case rel => exact ⟨k + 1, by omega, by go_num, hbr4⟩
        case measure => simp [intOf]; omega
      · rw [if_neg hkI, if_neg hkI] at F2f
        have HK : Hid (¬ k = I) := hkI
        have hke : ¬ (k : Int) = (I : Int) := by omega
        clear hkI
        go_wp2_with (first
          | ((go_at_call 20)
             (refine Calls.mono F1 ?_)
             (rintro e w3 ⟨rfl, hb3⟩)
             (clear F1)
             (have hbr3 := hbr.trans (hb3.mono hbr.size))
             (have F2 := F2f w3 hbr3))
          | ((go_at_call 20)
             (refine Calls.mono F2 ?_)
             (rintro e w4 ⟨rfl, hb4⟩)
             (clear F2)
             (have hbr4 := hbr3.trans (hb4.mono hbr3.size))))
        go_roundw
        case rel => exact ⟨k + 1, by omega, by go_num, hbr4⟩
        case measure => simp [intOf]; omega
    · have AL := alive_any wr
      have i0 : ¬ (k : Int) < 16 := by omega
      go_wp2_with (first
        | ((go_at_call 15)
           (refine AL.mono ?_)
           (rintro e w6 ⟨rfl, hb6⟩)))
      go_ret
      have hbr6 := hbr.trans (hb6.mono hbr.size)
      exact ⟨rfl, hbw2.trans (hbr6.mono hbw2.size)⟩

set_option maxRecDepth 100000 in
set_option maxHeartbeats 400000 in
theorem numbers_pn (w : World) (f : Nat → Nat) (i n : Int) (hf : ∀ j, f j < 256) (hi : -9223372036854775808 ≤ i ∧ i ≤ 9223372036854775807) (hn : -9223372036854775808 ≤ n ∧ n ≤ 9223372036854775807) (h1 : ¬ i < 0) (h2 : n < 0) :
    Calls Try.prog 8 #[.agg (cellsN .u8 64 f), .int .i64 i, .int .i64 n] w fun e w' => e = .returned (.bool true) ∧ Below w.heap.size w w' := by
  obtain ⟨hi1, hi2⟩ := hi
  obtain ⟨hn1, hn2⟩ := hn
  obtain ⟨I, hI, eI⟩ := rem_pos i 16 (by decide) h1
  obtain ⟨N, hN, eN⟩ := rem_neg n 2147483648 (by decide) h2
  have eI : i % 16 = (I : Int) := eI
  have eN : -(n + 1).tmod 2147483648 = (N : Int) := eN
  obtain ⟨wx, hwx⟩ : ∃ wx, wx = w.alloc (.cells (cellsN .u8 64 f) 42) := ⟨_, rfl⟩
  have hbx : Below w.heap.size w wx := by rw [hwx]; exact (Below.refl _ _).alloc (Nat.le_refl _) _
  have hx : Has wx w.heap.size 42 (cellsN .u8 64 f) := by rw [hwx]; exact Has.new _ _ _
  have hst := tells_own (setn_yes I N hx.bytes (Nat.le_refl _) (inF_num I hI) hN)
  have HN : Hid (N < 2147483648) := hN
  clear hN
  subst hwx
  go_enter Try.func8, Try.ntmps8
  go_wp2_with (first
    | ((go_at_call 22)
       (refine Calls.mono hst ?_)
       (rintro e w2 ⟨ua, uc, rfl, ub, un, ul, hb2⟩)
       (clear hst)))
  have hbw2 := hbx.trans (hb2.mono hbx.size)
  have hx2 := hx.below hb2 hx.lt
  have sft : ∀ j, sfld f I 4 (nbs N 4) j < 256 := over_lt hf (nbs_lt _ _) _ _
  have ebd : (0 : Int) ≤ (I : Int) ∧ (I : Int) < 16 := by omega
  clear hbx hx hb2
  go_loopw [9] (fun iv wr => ∃ k : Nat, k ≤ 16 ∧ iv = .int .i64 (k : Nat) ∧ Below w2.heap.size w2 wr)
    (fun iv _ => 16 - (intOf iv).toNat)
  case atStart => exact ⟨0, by omega, rfl, Below.refl _ _⟩
  case round =>
    obtain ⟨k, hk, rfl, hbr⟩ := hrel
    by_cases hlt : k < 16
    · have F1 := num_at k hlt (hx2.below hbr hx2.lt).bytes (Nat.le_refl _) hf
      have F2f := fun w3 (hb : Below w2.heap.size w2 w3) => num_at k hlt (ub.below hb (Nat.le_refl _)) ul sft
      obtain ⟨q1, q2⟩ := num_set f I k N HN.out
      rw [q1, q2] at F2f
      generalize numX f k = X at F1 F2f
      generalize numE f k = E at F1 F2f
      have i0 : (k : Int) < 16 := by omega
      clear q1 q2 hx2 ub sft
      by_cases hkI : k = I
      · rw [if_pos hkI, if_pos hkI] at F2f
        subst hkI
        go_wp2_with (first
          | ((go_at_call 20)
             (refine Calls.mono F1 ?_)
             (rintro e w3 ⟨rfl, hb3⟩)
             (clear F1)
             (have hbr3 := hbr.trans (hb3.mono hbr.size))
             (have F2 := F2f w3 hbr3))
          | ((go_at_call 20)
             (refine Calls.mono F2 ?_)
             (rintro e w4 ⟨rfl, hb4⟩)
             (clear F2)
             (have hbr4 := hbr3.trans (hb4.mono hbr3.size))))
        go_roundw
        case rel => exact ⟨k + 1, by omega, by go_num, hbr4⟩
        case measure => simp [intOf]; omega
      · rw [if_neg hkI, if_neg hkI] at F2f
        have HK : Hid (¬ k = I) := hkI
        have hke : ¬ (k : Int) = (I : Int) := by omega
        clear hkI
        go_wp2_with (first
          | ((go_at_call 20)
             (refine Calls.mono F1 ?_)
             (rintro e w3 ⟨rfl, hb3⟩)
             (clear F1)
             (have hbr3 := hbr.trans (hb3.mono hbr.size))
             (have F2 := F2f w3 hbr3))
          | ((go_at_call 20)
             (refine Calls.mono F2 ?_)
             (rintro e w4 ⟨rfl, hb4⟩)
             (clear F2)
             (have hbr4 := hbr3.trans (hb4.mono hbr3.size))))
        go_roundw
        case rel => exact ⟨k + 1, by omega, by go_num, hbr4⟩
        case measure => simp [intOf]; omega
    · have AL := alive_any wr
      have i0 : ¬ (k : Int) < 16 := by omega
      go_wp2_with (first
        | ((go_at_call 15)
           (refine AL.mono ?_)
           (rintro e w6 ⟨rfl, hb6⟩)))
      go_ret
      have hbr6 := hbr.trans (hb6.mono hbr.size)
      exact ⟨rfl, hbw2.trans (hbr6.mono hbw2.size)⟩

set_option maxRecDepth 100000 in
set_option maxHeartbeats 400000 in
theorem numbers_pp (w : World) (f : Nat → Nat) (i n : Int) (hf : ∀ j, f j < 256) (hi : -9223372036854775808 ≤ i ∧ i ≤ 9223372036854775807) (hn : -9223372036854775808 ≤ n ∧ n ≤ 9223372036854775807) (h1 : ¬ i < 0) (h2 : ¬ n < 0) :
    Calls Try.prog 8 #[.agg (cellsN .u8 64 f), .int .i64 i, .int .i64 n] w fun e w' => e = .returned (.bool true) ∧ Below w.heap.size w w' := by
  obtain ⟨hi1, hi2⟩ := hi
  obtain ⟨hn1, hn2⟩ := hn
  obtain ⟨I, hI, eI⟩ := rem_pos i 16 (by decide) h1
  obtain ⟨N, hN, eN⟩ := rem_pos n 2147483648 (by decide) h2
  have eI : i % 16 = (I : Int) := eI
  have eN : n % 2147483648 = (N : Int) := eN
  obtain ⟨wx, hwx⟩ : ∃ wx, wx = w.alloc (.cells (cellsN .u8 64 f) 42) := ⟨_, rfl⟩
  have hbx : Below w.heap.size w wx := by rw [hwx]; exact (Below.refl _ _).alloc (Nat.le_refl _) _
  have hx : Has wx w.heap.size 42 (cellsN .u8 64 f) := by rw [hwx]; exact Has.new _ _ _
  have hst := tells_own (setn_yes I N hx.bytes (Nat.le_refl _) (inF_num I hI) hN)
  have HN : Hid (N < 2147483648) := hN
  clear hN
  subst hwx
  go_enter Try.func8, Try.ntmps8
  go_wp2_with (first
    | ((go_at_call 22)
       (refine Calls.mono hst ?_)
       (rintro e w2 ⟨ua, uc, rfl, ub, un, ul, hb2⟩)
       (clear hst)))
  have hbw2 := hbx.trans (hb2.mono hbx.size)
  have hx2 := hx.below hb2 hx.lt
  have sft : ∀ j, sfld f I 4 (nbs N 4) j < 256 := over_lt hf (nbs_lt _ _) _ _
  have ebd : (0 : Int) ≤ (I : Int) ∧ (I : Int) < 16 := by omega
  clear hbx hx hb2
  go_loopw [9] (fun iv wr => ∃ k : Nat, k ≤ 16 ∧ iv = .int .i64 (k : Nat) ∧ Below w2.heap.size w2 wr)
    (fun iv _ => 16 - (intOf iv).toNat)
  case atStart => exact ⟨0, by omega, rfl, Below.refl _ _⟩
  case round =>
    obtain ⟨k, hk, rfl, hbr⟩ := hrel
    by_cases hlt : k < 16
    · have F1 := num_at k hlt (hx2.below hbr hx2.lt).bytes (Nat.le_refl _) hf
      have F2f := fun w3 (hb : Below w2.heap.size w2 w3) => num_at k hlt (ub.below hb (Nat.le_refl _)) ul sft
      obtain ⟨q1, q2⟩ := num_set f I k N HN.out
      rw [q1, q2] at F2f
      generalize numX f k = X at F1 F2f
      generalize numE f k = E at F1 F2f
      have i0 : (k : Int) < 16 := by omega
      clear q1 q2 hx2 ub sft
      by_cases hkI : k = I
      · rw [if_pos hkI, if_pos hkI] at F2f
        subst hkI
        go_wp2_with (first
          | ((go_at_call 20)
             (refine Calls.mono F1 ?_)
             (rintro e w3 ⟨rfl, hb3⟩)
             (clear F1)
             (have hbr3 := hbr.trans (hb3.mono hbr.size))
             (have F2 := F2f w3 hbr3))
          | ((go_at_call 20)
             (refine Calls.mono F2 ?_)
             (rintro e w4 ⟨rfl, hb4⟩)
             (clear F2)
             (have hbr4 := hbr3.trans (hb4.mono hbr3.size))))
        go_roundw
        case rel => exact ⟨k + 1, by omega, by go_num, hbr4⟩
        case measure => simp [intOf]; omega
      · rw [if_neg hkI, if_neg hkI] at F2f
        have HK : Hid (¬ k = I) := hkI
        have hke : ¬ (k : Int) = (I : Int) := by omega
        clear hkI
        go_wp2_with (first
          | ((go_at_call 20)
             (refine Calls.mono F1 ?_)
             (rintro e w3 ⟨rfl, hb3⟩)
             (clear F1)
             (have hbr3 := hbr.trans (hb3.mono hbr.size))
             (have F2 := F2f w3 hbr3))
          | ((go_at_call 20)
             (refine Calls.mono F2 ?_)
             (rintro e w4 ⟨rfl, hb4⟩)
             (clear F2)
             (have hbr4 := hbr3.trans (hb4.mono hbr3.size))))
        go_roundw
        case rel => exact ⟨k + 1, by omega, by go_num, hbr4⟩
        case measure => simp [intOf]; omega
    · have AL := alive_any wr
      have i0 : ¬ (k : Int) < 16 := by omega
      go_wp2_with (first
        | ((go_at_call 15)
           (refine AL.mono ?_)
           (rintro e w6 ⟨rfl, hb6⟩)))
      go_ret
      have hbr6 := hbr.trans (hb6.mono hbr.size)
      exact ⟨rfl, hbw2.trans (hbr6.mono hbw2.size)⟩

theorem numbers_walk (w : World) (f : Nat → Nat) (i n : Int) (hf : ∀ j, f j < 256) (hi : i64ok i) (hn : i64ok n) :
    Calls Try.prog 8 #[.agg (cellsN .u8 64 f), .int .i64 i, .int .i64 n] w fun e w' => e = .returned (.bool true) ∧ Below w.heap.size w w' := by
  by_cases h1 : i < 0
  · by_cases h2 : n < 0
    · exact numbers_nn w f i n hf hi hn h1 h2
    · exact numbers_np w f i n hf hi hn h1 h2
  · by_cases h2 : n < 0
    · exact numbers_pn w f i n hf hi hn h1 h2
    · exact numbers_pp w f i n hf hi hn h1 h2
end Go.Proofs.Ytbiicdehgogikaa
