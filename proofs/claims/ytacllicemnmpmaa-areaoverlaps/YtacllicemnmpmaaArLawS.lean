/- AreaSizes: any numbers. -/
import Derived.Test.YtacllicemnmpmaaArAlive
namespace Go.Proofs.Ytacllicemnmpmaa
open Go.ChangeShapes Go.WideShapes Go.ChangeAt Go.RowKit Go.Shelf
set_option linter.unusedVariables false

/-- The program and the document tell the same two numbers. -/
theorem both_int (n : Int) : ∃ a b : Int, (∀ w, Calls Try.prog 8 #[.int .i64 n] w fun e w' => e = .returned (.tuple #[.int .i64 a, .int .i64 b]) ∧ Below w.heap.size w w') ∧
    (∀ w, Calls Try.prog 9 #[.int .i64 n] w fun e w' => e = .returned (.tuple #[.int .i64 a, .int .i64 b]) ∧ Below w.heap.size w w') := by
  by_cases h : 0 ≤ n ∧ n ≤ 8192
  · obtain ⟨N, rfl⟩ : ∃ N : Nat, n = N := ⟨n.toNat, by omega⟩
    obtain ⟨r, hr⟩ : ∃ r, Great 8192 (fit tg N) r := by
      obtain ⟨r, hr⟩ := great_ex 8192 (fit tg N)
      exact ⟨r, hr⟩
    refine ⟨r, tg r, fun w => ?_, fun w => ?_⟩
    · refine (Integrity_c N w (by omega)).mono ?_
      rintro e w' ⟨s, rfl, hs, hb⟩
      obtain rfl := hs.eq hr
      exact ⟨rfl, hb⟩
    · refine (rInt_c N w (by omega)).mono ?_
      rintro e w' ⟨s, rfl, hs, rfl⟩
      obtain rfl := hs.eq hr
      exact ⟨rfl, Below.refl _ _⟩
  · refine ⟨0, 0, fun w => ?_, fun w => ?_⟩
    · exact Integrity_no n w h
    · refine (rInt_no n w h).mono ?_
      rintro e w' ⟨rfl, rfl⟩
      exact ⟨rfl, Below.refl _ _⟩

theorem both_ver (n : Int) : ∃ a b : Int, (∀ w, Calls Try.prog 10 #[.int .i64 n] w fun e w' => e = .returned (.tuple #[.int .i64 a, .int .i64 b]) ∧ Below w.heap.size w w') ∧
    (∀ w, Calls Try.prog 11 #[.int .i64 n] w fun e w' => e = .returned (.tuple #[.int .i64 a, .int .i64 b]) ∧ Below w.heap.size w w') := by
  by_cases h : 0 ≤ n ∧ n ≤ 8192
  · obtain ⟨N, rfl⟩ : ∃ N : Nat, n = N := ⟨n.toNat, by omega⟩
    obtain ⟨r, hr⟩ := great_ex 2048 (fit hs N)
    refine ⟨r, hs r, fun w => ?_, fun w => ?_⟩
    · refine (Verity_c N w (by omega)).mono ?_
      rintro e w' ⟨s, rfl, hs, hb⟩
      obtain rfl := hs.eq hr
      exact ⟨rfl, hb⟩
    · refine (rVer_c N w (by omega)).mono ?_
      rintro e w' ⟨s, rfl, hs, hb⟩
      obtain rfl := hs.eq hr
      exact ⟨rfl, hb⟩
  · refine ⟨0, 0, fun w => ?_, fun w => ?_⟩
    · exact Verity_no n w h
    · refine (rVer_no n w h).mono ?_
      rintro e w' ⟨rfl, rfl⟩
      exact ⟨rfl, Below.refl _ _⟩

theorem both_sto (n o c : Int) : ∃ a b : Int, (∀ w, Calls Try.prog 12 #[.int .i64 n, .int .i64 o, .int .i64 c] w fun e w' => e = .returned (.tuple #[.int .i64 a, .int .i64 b]) ∧ Below w.heap.size w w') ∧
    (∀ w, Calls Try.prog 13 #[.int .i64 n, .int .i64 o, .int .i64 c] w fun e w' => e = .returned (.tuple #[.int .i64 a, .int .i64 b]) ∧ Below w.heap.size w w') := by
  by_cases h : (1 ≤ n ∧ n ≤ 8192) ∧ (1 ≤ o ∧ o ≤ 8192) ∧ (1 ≤ c ∧ c ≤ 16)
  · obtain ⟨N, rfl⟩ : ∃ N : Nat, n = N := ⟨n.toNat, by omega⟩
    obtain ⟨O, rfl⟩ : ∃ N : Nat, o = N := ⟨o.toNat, by omega⟩
    obtain ⟨C, rfl⟩ : ∃ N : Nat, c = N := ⟨c.toNat, by omega⟩
    obtain ⟨r, hr⟩ := great_ex (chunksOf O C) (sfit (tableOf O C) C N)
    refine ⟨stA (tableOf O C) r, r, fun w => ?_, fun w => ?_⟩
    · refine (Store_c N O C w (by omega) (by omega) (by omega)).mono ?_
      rintro e w' ⟨s, rfl, hs, hb⟩
      obtain rfl := hs.eq hr
      exact ⟨rfl, hb⟩
    · refine (rStore_c N O C w (by omega) (by omega) (by omega)).mono ?_
      rintro e w' ⟨s, rfl, hs, rfl⟩
      obtain rfl := hs.eq hr
      exact ⟨rfl, Below.refl _ _⟩
  · refine ⟨0, 0, fun w => ?_, fun w => ?_⟩
    · exact Store_no n o c w h
    · refine (rStore_no n o c w h).mono ?_
      rintro e w' ⟨rfl, rfl⟩
      exact ⟨rfl, Below.refl _ _⟩

theorem b2 {w a b : World} (h : Below w.heap.size w a) (k : Below a.heap.size a b) : Below w.heap.size w b := h.trans (k.mono h.size)

set_option maxRecDepth 100000 in
set_option maxHeartbeats 2000000 in
theorem sizes_walk (n o c : Int) (w : World) : Calls Try.prog 3 #[.int .i64 n, .int .i64 o, .int .i64 c] w fun e w' => e = .returned (.bool true) ∧ Below w.heap.size w w' := by
  obtain ⟨a1, b1, p1, r1⟩ := both_int n
  obtain ⟨a2, b2', p2, r2⟩ := both_ver n
  obtain ⟨a3, b3, p3, r3⟩ := both_sto n o c
  have P1 : Hid _ := p1
  have P2 : Hid _ := p2
  have P3 : Hid _ := p3
  have R1 : Hid _ := r1
  have R2 : Hid _ := r2
  have R3 : Hid _ := r3
  clear p1 p2 p3 r1 r2 r3
  go_enter Try.func3, Try.ntmps3
  go_wp2_with (first
    | ((go_at_call 8)
       (refine (P1.out _).mono ?_)
       (rintro e w1 ⟨rfl, h1⟩))
    | ((go_at_call 9)
       (refine (R1.out _).mono ?_)
       (rintro e w2 ⟨rfl, h2⟩))
    | ((go_at_call 10)
       (refine (P2.out _).mono ?_)
       (rintro e w3 ⟨rfl, h3⟩))
    | ((go_at_call 11)
       (refine (R2.out _).mono ?_)
       (rintro e w4 ⟨rfl, h4⟩))
    | ((go_at_call 12)
       (refine (P3.out _).mono ?_)
       (rintro e w5 ⟨rfl, h5⟩))
    | ((go_at_call 13)
       (refine (R3.out _).mono ?_)
       (rintro e w6 ⟨rfl, h6⟩))
    | ((go_at_call 14)
       (refine (alive_c _).mono ?_)
       (rintro e w7 ⟨rfl, h7⟩)))
  go_ret
  exact ⟨rfl, b2 (b2 (b2 (b2 (b2 (b2 h1 h2) h3) h4) h5) h6) h7⟩
end Go.Proofs.Ytacllicemnmpmaa
