/- AreaMore: one sector more. -/
import Derived.Test.YtacllicemnmpmaaArLawS
namespace Go.Proofs.Ytacllicemnmpmaa
open Go.ChangeShapes Go.WideShapes Go.ChangeAt Go.RowKit Go.Shelf
set_option linter.unusedVariables false

theorem more_int (n : Nat) (h : n ≤ 8191) : ∃ a b c d : Int, (a ≤ b ∧ b ≤ a + 1 ∧ 0 ≤ a ∧ a ≤ 8192) ∧ (∀ w, Calls Try.prog 8 #[.int .i64 (n : Nat)] w fun e w' => e = .returned (.tuple #[.int .i64 a, .int .i64 c]) ∧ Below w.heap.size w w') ∧
    (∀ w, Calls Try.prog 8 #[.int .i64 ((n : Int) + 1)] w fun e w' => e = .returned (.tuple #[.int .i64 b, .int .i64 d]) ∧ Below w.heap.size w w') := by
  obtain ⟨r, hr⟩ := great_ex 8192 (fit tg n)
  obtain ⟨s, hs⟩ := great_ex 8192 (fit tg (n + 1))
  have hm := Great.more (fun a b hab _ => tg_mono a b hab) hr hs
  refine ⟨r, s, tg r, tg s, ⟨by omega, by omega, by omega, by have := hr.1; omega⟩, fun w => ?_, fun w => ?_⟩
  · refine (Integrity_c n w (by omega)).mono ?_
    rintro e w' ⟨t, rfl, ht, hb⟩
    obtain rfl := ht.eq hr
    exact ⟨rfl, hb⟩
  · refine (Integrity_c (n + 1) w (by omega)).mono ?_
    rintro e w' ⟨t, rfl, ht, hb⟩
    obtain rfl := ht.eq hs
    exact ⟨rfl, hb⟩

theorem more_ver (n : Nat) (h : n ≤ 8191) : ∃ a b c d : Int, (a ≤ b ∧ b ≤ a + 1 ∧ 0 ≤ a ∧ a ≤ 8192) ∧ (∀ w, Calls Try.prog 10 #[.int .i64 (n : Nat)] w fun e w' => e = .returned (.tuple #[.int .i64 a, .int .i64 c]) ∧ Below w.heap.size w w') ∧
    (∀ w, Calls Try.prog 10 #[.int .i64 ((n : Int) + 1)] w fun e w' => e = .returned (.tuple #[.int .i64 b, .int .i64 d]) ∧ Below w.heap.size w w') := by
  obtain ⟨r, hr⟩ := great_ex 2048 (fit hs n)
  obtain ⟨s, hsg⟩ := great_ex 2048 (fit hs (n + 1))
  have hm := Great.more (fun a b hab hb => hs_mono hab hb) hr hsg
  refine ⟨r, s, hs r, hs s, ⟨by omega, by omega, by omega, by have := hr.1; omega⟩, fun w => ?_, fun w => ?_⟩
  · refine (Verity_c n w (by omega)).mono ?_
    rintro e w' ⟨t, rfl, ht, hb⟩
    obtain rfl := ht.eq hr
    exact ⟨rfl, hb⟩
  · refine (Verity_c (n + 1) w (by omega)).mono ?_
    rintro e w' ⟨t, rfl, ht, hb⟩
    obtain rfl := ht.eq hsg
    exact ⟨rfl, hb⟩

theorem more_sto (n : Nat) (o c : Int) (h : n ≤ 8191) : ∃ t s u v : Int, (s ≤ v ∧ v ≤ s + 1 ∧ 0 ≤ s ∧ s ≤ 8192 ∧ (s = 0 ∨ t = u)) ∧ (∀ w, Calls Try.prog 12 #[.int .i64 (n : Nat), .int .i64 o, .int .i64 c] w fun e w' => e = .returned (.tuple #[.int .i64 t, .int .i64 s]) ∧ Below w.heap.size w w') ∧
    (∀ w, Calls Try.prog 12 #[.int .i64 ((n : Int) + 1), .int .i64 o, .int .i64 c] w fun e w' => e = .returned (.tuple #[.int .i64 u, .int .i64 v]) ∧ Below w.heap.size w w') := by
  by_cases hoc : (1 ≤ o ∧ o ≤ 8192) ∧ (1 ≤ c ∧ c ≤ 16)
  · obtain ⟨O, rfl⟩ : ∃ N : Nat, o = N := ⟨o.toNat, by omega⟩
    obtain ⟨C, rfl⟩ : ∃ N : Nat, c = N := ⟨c.toNat, by omega⟩
    have hcl := chunks_le (origin := O) (chunk := C) (by omega) (by omega) (by omega)
    have hT : 1 ≤ tableOf O C := by unfold tableOf; omega
    obtain ⟨v, hv⟩ := great_ex (chunksOf O C) (sfit (tableOf O C) C (n + 1))
    by_cases h1 : 1 ≤ n
    · obtain ⟨s, hs⟩ := great_ex (chunksOf O C) (sfit (tableOf O C) C n)
      have hm := Great.slots (by omega) hs hv
      refine ⟨stA (tableOf O C) s, s, stA (tableOf O C) v, v, ⟨by omega, by omega, by omega, by have := hs.1; omega, ?_⟩, fun w => ?_, fun w => ?_⟩
      · by_cases h0 : s = 0
        · exact .inl (by omega)
        · right
          unfold stA
          rw [if_neg h0, if_neg (by omega)]
      · refine (Store_c n O C w (by omega) (by omega) (by omega)).mono ?_
        rintro e w' ⟨t, rfl, ht, hb⟩
        obtain rfl := ht.eq hs
        exact ⟨rfl, hb⟩
      · refine (Store_c (n + 1) O C w (by omega) (by omega) (by omega)).mono ?_
        rintro e w' ⟨t, rfl, ht, hb⟩
        obtain rfl := ht.eq hv
        exact ⟨rfl, hb⟩
    · obtain rfl : n = 0 := by omega
      have hv0 : v = 0 := by
        refine hv.eq ⟨by omega, fun t ht => absurd ht (Nat.not_lt_zero _), fun _ => ?_⟩
        unfold sfit
        exact decide_eq_false (by omega)
      subst hv0
      refine ⟨0, 0, stA (tableOf O C) 0, (0 : Nat), ⟨by omega, by omega, by omega, by omega, .inl rfl⟩, fun w => ?_, fun w => ?_⟩
      · exact Store_no _ _ _ w (by omega)
      · refine (Store_c (0 + 1) O C w (by omega) (by omega) (by omega)).mono ?_
        rintro e w' ⟨t, rfl, ht, hb⟩
        obtain rfl := ht.eq hv
        exact ⟨rfl, hb⟩
  · refine ⟨0, 0, 0, 0, ⟨by omega, by omega, by omega, by omega, .inl rfl⟩, fun w => ?_, fun w => ?_⟩
    · exact Store_no _ _ _ w (fun h => hoc h.2)
    · exact Store_no _ _ _ w (fun h => hoc h.2)

set_option maxRecDepth 100000 in
set_option maxHeartbeats 4000000 in
theorem more_walk (n o c : Int) (w : World) : Calls Try.prog 6 #[.int .i64 n, .int .i64 o, .int .i64 c] w fun e w' => e = .returned (.bool true) ∧ Below w.heap.size w w' := by
  rcases (by omega : n < 0 ∨ (0 ≤ n ∧ 8191 < n) ∨ (0 ≤ n ∧ n ≤ 8191)) with h1 | ⟨h1, h2⟩ | ⟨h1, h2⟩
  · go_enter Try.func6, Try.ntmps6
    go_wp2_with (first
      | ((go_at_call 14)
         (refine (alive_c _).mono ?_)
         (rintro e w7 ⟨rfl, h7⟩)))
    go_ret
    exact ⟨rfl, h7⟩
  · go_enter Try.func6, Try.ntmps6
    go_wp2_with (first
      | ((go_at_call 14)
         (refine (alive_c _).mono ?_)
         (rintro e w7 ⟨rfl, h7⟩)))
    go_ret
    exact ⟨rfl, h7⟩
  · obtain ⟨N, hN⟩ : ∃ N : Nat, n = N := ⟨n.toNat, by omega⟩
    obtain ⟨a1, b1, c1, d1, ⟨i1, i2, i3, i4⟩, p1, r1⟩ := more_int N (by omega)
    obtain ⟨a2, b2', c2, d2, ⟨j1, j2, j3, j4⟩, p2, r2⟩ := more_ver N (by omega)
    obtain ⟨t, s, u, v, ⟨k1, k2, k3, k4, k5⟩, p3, r3⟩ := more_sto N o c (by omega)
    rw [← hN] at p1 r1 p2 r2 p3 r3
    have P1 : Hid _ := p1
    have P2 : Hid _ := p2
    have P3 : Hid _ := p3
    have R1 : Hid _ := r1
    have R2 : Hid _ := r2
    have R3 : Hid _ := r3
    have K5 : Hid (s = 0 ∨ t = u) := k5
    clear p1 p2 p3 r1 r2 r3 hN k5
    by_cases hs : s = 0
    · have hsb : (s == 0) = true := by simpa using hs
      subst hs
      go_enter Try.func6, Try.ntmps6
      go_wp2_with (first
        | ((go_at_call 8)
           (refine at_arg 0 (.int .i64 n) rfl ?_)
           (refine (P1.out _).mono ?_)
           (rintro e w1 ⟨rfl, g1⟩))
        | ((go_at_call 8)
           (refine (R1.out _).mono ?_)
           (rintro e w2 ⟨rfl, g2⟩))
        | ((go_at_call 10)
           (refine at_arg 0 (.int .i64 n) rfl ?_)
           (refine (P2.out _).mono ?_)
           (rintro e w3 ⟨rfl, g3⟩))
        | ((go_at_call 10)
           (refine (R2.out _).mono ?_)
           (rintro e w4 ⟨rfl, g4⟩))
        | ((go_at_call 12)
           (refine at_arg 0 (.int .i64 n) rfl ?_)
           (refine (P3.out _).mono ?_)
           (rintro e w5 ⟨rfl, g5⟩))
        | ((go_at_call 12)
           (refine (R3.out _).mono ?_)
           (rintro e w6 ⟨rfl, g6⟩))
        | ((go_at_call 14)
           (refine (alive_c _).mono ?_)
           (rintro e w7 ⟨rfl, g7⟩)))
      go_ret
      exact ⟨rfl, b2 (b2 (b2 (b2 (b2 (b2 g1 g2) g3) g4) g5) g6) g7⟩
    · have htu : t = u := by rcases K5.out with h | h; exact absurd h hs; exact h
      subst htu
      have hsb : (s == 0) = false := by simpa using hs
      go_enter Try.func6, Try.ntmps6
      go_wp2_with (first
        | ((go_at_call 8)
           (refine at_arg 0 (.int .i64 n) rfl ?_)
           (refine (P1.out _).mono ?_)
           (rintro e w1 ⟨rfl, g1⟩))
        | ((go_at_call 8)
           (refine (R1.out _).mono ?_)
           (rintro e w2 ⟨rfl, g2⟩))
        | ((go_at_call 10)
           (refine at_arg 0 (.int .i64 n) rfl ?_)
           (refine (P2.out _).mono ?_)
           (rintro e w3 ⟨rfl, g3⟩))
        | ((go_at_call 10)
           (refine (R2.out _).mono ?_)
           (rintro e w4 ⟨rfl, g4⟩))
        | ((go_at_call 12)
           (refine at_arg 0 (.int .i64 n) rfl ?_)
           (refine (P3.out _).mono ?_)
           (rintro e w5 ⟨rfl, g5⟩))
        | ((go_at_call 12)
           (refine (R3.out _).mono ?_)
           (rintro e w6 ⟨rfl, g6⟩))
        | ((go_at_call 14)
           (refine (alive_c _).mono ?_)
           (rintro e w7 ⟨rfl, g7⟩)))
      go_ret
      exact ⟨rfl, b2 (b2 (b2 (b2 (b2 (b2 g1 g2) g3) g4) g5) g6) g7⟩
end Go.Proofs.Ytacllicemnmpmaa
