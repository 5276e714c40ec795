/- AreaBest: nothing is wasted. -/
import Derived.Test.YtacllicemnmpmaaArLawM
namespace Go.Proofs.Ytacllicemnmpmaa
open Go.ChangeShapes Go.WideShapes Go.ChangeAt Go.RowKit Go.Shelf
set_option linter.unusedVariables false

/-- What Integrity and Verity tell at n, as numbers. -/
structure BestAt (n : Nat) (d e : Nat) : Prop where
  i1 : d + tg d ≤ n
  i2 : n < d + 1 + tg (d + 1)
  v1 : e + hs e ≤ n
  v2 : e ≤ 2048
  v3 : e = 2048 ∨ n < e + 1 + hs (e + 1)

theorem best_at (n : Nat) (h : n ≤ 8192) : ∃ d e : Nat, BestAt n d e ∧ (∀ w, Calls Try.prog 8 #[.int .i64 (n : Nat)] w fun x w' => x = .returned (.tuple #[.int .i64 (d : Nat), .int .i64 (tg d : Nat)]) ∧ Below w.heap.size w w') ∧
    (∀ w, Calls Try.prog 10 #[.int .i64 (n : Nat)] w fun x w' => x = .returned (.tuple #[.int .i64 (e : Nat), .int .i64 (hs e : Nat)]) ∧ Below w.heap.size w w') := by
  obtain ⟨r, hr⟩ := great_ex 8192 (fit tg n)
  obtain ⟨s, hsg⟩ := great_ex 2048 (fit hs n)
  have a1 : r + tg r ≤ n := by
    have := hr.fits (by unfold fit tg; simp)
    unfold fit at this
    simpa using this
  have a2 : n < r + 1 + tg (r + 1) := by
    have hrl : r < 8192 := by
      rcases Nat.lt_or_ge r 8192 with e | e
      · exact e
      · unfold tg at a1; omega
    have := hr.2.2 hrl
    unfold fit at this
    simp only [decide_eq_false_iff_not] at this
    omega
  have b1 : s + hs s ≤ n := by
    have := hsg.fits (by unfold fit; rw [hs_zero]; simp)
    unfold fit at this
    simpa using this
  have b3 : s = 2048 ∨ n < s + 1 + hs (s + 1) := by
    have := hsg.1
    rcases Nat.lt_or_ge s 2048 with e | e
    · right
      have := hsg.2.2 e
      unfold fit at this
      simp only [decide_eq_false_iff_not] at this
      omega
    · left; omega
  refine ⟨r, s, ⟨a1, a2, b1, hsg.1, b3⟩, fun w => ?_, fun w => ?_⟩
  · refine (Integrity_c n w h).mono ?_
    rintro e w' ⟨t, rfl, ht, hb⟩
    obtain rfl := ht.eq hr
    exact ⟨rfl, hb⟩
  · refine (Verity_c n w h).mono ?_
    rintro e w' ⟨t, rfl, ht, hb⟩
    obtain rfl := ht.eq hsg
    exact ⟨rfl, hb⟩

theorem levels_n (e : Nat) (h : e ≤ 2049) (w : World) : Calls Try.prog 17 #[.int .i64 (e : Nat)] w fun x w' =>
    ∃ a c, x = .returned (.slice a (levN (e : Int)) c) ∧ Ints w' a (levN (e : Int)) (fun k => lv e (k + 1)) ∧ Below w.heap.size w w' := by
  have hL := Levels_ok (e : Int) w ⟨by omega, by omega⟩
  rw [Int.toNat_natCast] at hL
  refine hL.mono ?_
  rintro x w' ⟨a, c, rfl, _, _, hi, hb⟩
  exact ⟨a, c, rfl, hi, hb⟩

/-- The levels' sums. -/
theorem levels_sum (e : Nat) : (∀ k, k ≤ levN (e : Int) → off e k ≤ 2058) ∧ off e (levN (e : Int)) = hs e := ⟨fun k hk => Nat.le_trans (off_part e k hk) (hs_le e), rfl⟩

set_option maxRecDepth 100000 in
set_option maxHeartbeats 4000000 in
theorem best_walk (n : Int) (w : World) (hn : i64ok n) : Calls Try.prog 5 #[.int .i64 n] w fun e w' => e = .returned (.bool true) ∧ Below w.heap.size w w' := by
  obtain ⟨hn1, hn2⟩ := hn
  by_cases h0 : n < 0
  · obtain ⟨N, hN', hN⟩ : ∃ N : Nat, -((n + 1).tmod 8193) = (N : Int) ∧ N ≤ 8192 := by
      refine ⟨((-(n + 1)) % 8193).toNat, ?_, by omega⟩
      rw [← Int.neg_tmod, Int.tmod_eq_emod_of_nonneg (by omega)]
      omega
    have HM : Hid (-((n + 1).tmod 8193) = (N : Int)) := hN'
    clear hN'
    obtain ⟨d, e, hB, hI, hV⟩ := best_at N hN
    obtain ⟨i1, i2, v1, v2, v3⟩ := hB
    have P1 : Hid _ := hI
    have P2 : Hid _ := hV
    have L1 : Hid _ := levels_n e (by omega)
    have L2 : Hid _ := levels_n (e + 1) (by omega)
    have F1 : Hid _ := levels_sum e
    have F2 : Hid _ := levels_sum (e + 1)
    have V3 : Hid (e = 2048 ∨ N < e + 1 + hs (e + 1)) := v3
    have T1 : Hid (((d : Int) + 3) / 4 = ((tg d : Nat) : Int)) := (by unfold tg; omega : ((d : Int) + 3) / 4 = ((tg d : Nat) : Int))
    have T2 : Hid (((d : Int) + 4) / 4 = ((tg (d + 1) : Nat) : Int)) := (by unfold tg; omega : ((d : Int) + 4) / 4 = ((tg (d + 1) : Nat) : Int))
    have k1 : (tg d : Int) = ((d : Int) + 3) / 4 := T1.out.symm
    have k2 : (d : Int) + ((d : Int) + 3) / 4 ≤ (N : Int) := by rw [T1.out]; omega
    have k3 : (N : Int) < (d : Int) + 1 + ((d : Int) + 4) / 4 := by rw [T2.out]; omega
    rw [k1] at P1
    clear hI hV i1 i2 k1 T1 T2 v3
    have hd : d ≤ 8192 := by omega
    have m11 := levN_11 (e : Int)
    have m12 := levN_11 ((e + 1 : Nat) : Int)
    generalize hs e = he at *
    generalize hs (e + 1) = hf at *
    generalize levN (e : Int) = m1 at *
    generalize levN ((e + 1 : Nat) : Int) = m2 at *
    rw [show ((e + 1 : Nat) : Int) = (e : Int) + 1 by omega] at L2
    obtain ⟨f11, f12⟩ := F1.out
    obtain ⟨f21, f22⟩ := F2.out
    go_enter Try.func5, Try.ntmps5
    go_wp2_with (first
      | ((go_at_call 8)
         (rw [HM.out])
         (refine (P1.out _).mono ?_)
         (rintro x w1 ⟨rfl, g1⟩))
      | ((go_at_call 10)
         (refine (P2.out _).mono ?_)
         (rintro x w2 ⟨rfl, g2⟩))
      | ((go_at_call 17)
         (refine (L1.out _).mono ?_)
         (rintro x w3 ⟨a1, c1, rfl, z1, g3⟩)))
    have HP1 : Hid (∀ k, k ≤ m1 → off e k ≤ 2058) := f11
    have HP2 : Hid (∀ k, k ≤ m2 → off (e + 1) k ≤ 2058) := f21
    have HE1 : Hid (off e m1 = he) := f12
    have HE2 : Hid (off (e + 1) m2 = hf) := f22
    clear f11 f12 f21 f22 F1 F2
    go_loop [7, 9] (fun s i => ∃ k : Nat, k ≤ m1 ∧ i = .int .i64 k ∧ s = .int .i64 (off e k : Nat)) (fun _ i => m1 - (intOf i).toNat)
    case atStart => exact ⟨0, Nat.zero_le _, rfl, rfl⟩
    case round =>
      obtain ⟨k, hk, rfl, rfl⟩ := hrel
      have hp := HP1.out k hk
      by_cases hlt : k < m1
      · have hp2 := HP1.out (k + 1) hlt
        have HS : Hid ((off e k : Int) + (lv e (k + 1) : Int) = ((off e (k + 1) : Nat) : Int)) := (by simp only [off]; omega : (off e k : Int) + (lv e (k + 1) : Int) = ((off e (k + 1) : Nat) : Int))
        obtain ⟨b, o, rfl, hbl, hcell⟩ := ints_at z1 k hlt
        have hv : lv e (k + 1) ≤ 2058 := by simp only [off] at hp2; omega
        clear hp2 z1
        generalize lv e (k + 1) = v at *
        generalize off e k = s at *
        go_wp2
        go_round
        case rel => exact ⟨k + 1, hlt, by go_num, by rw [HS.out]⟩
        case measure => simp [intOf]; omega
      · obtain rfl : k = m1 := by omega
        rw [HE1.out] at hp ⊢
        clear z1 hlt hk HE1
        go_wp2_with (first
          | ((go_at_call 17)
             (refine (L2.out _).mono ?_)
             (rintro x w4 ⟨a2, c2, rfl, z2, g4⟩)))
        go_loop [10, 12] (fun s i => ∃ k : Nat, k ≤ m2 ∧ i = .int .i64 k ∧ s = .int .i64 (off (e + 1) k : Nat)) (fun _ i => m2 - (intOf i).toNat)
        case atStart => exact ⟨0, Nat.zero_le _, rfl, rfl⟩
        case round =>
          obtain ⟨j, hj, rfl, rfl⟩ := hrel
          have hq := HP2.out j hj
          by_cases hlt : j < m2
          · have hp2 := HP2.out (j + 1) hlt
            have HS : Hid ((off (e + 1) j : Int) + (lv (e + 1) (j + 1) : Int) = ((off (e + 1) (j + 1) : Nat) : Int)) := (by simp only [off]; omega : (off (e + 1) j : Int) + (lv (e + 1) (j + 1) : Int) = ((off (e + 1) (j + 1) : Nat) : Int))
            obtain ⟨b, o, rfl, hbl, hcell⟩ := ints_at z2 j hlt
            have hv : lv (e + 1) (j + 1) ≤ 2058 := by simp only [off] at hp2; omega
            clear hp2 z2
            generalize lv (e + 1) (j + 1) = v at *
            generalize off (e + 1) j = s at *
            go_wp2
            go_round
            case rel => exact ⟨j + 1, hlt, by go_num, by rw [HS.out]⟩
            case measure => simp [intOf]; omega
          · obtain rfl : j = m2 := by omega
            rw [HE2.out] at hq ⊢
            clear z2 hlt hj HE2
            have v1i : (e : Int) + (he : Int) ≤ (N : Int) := by omega
            have v0i : 0 ≤ (e : Int) := by omega
            by_cases h48 : e = 2048
            · have hei : (e : Int) = 2048 := by omega
              have heb : ((e : Int) == 2048) = true := by simpa using hei
              clear h48 hei
              go_wp2_with (first
                | ((go_at_call 14)
                   (refine (alive_c _).mono ?_)
                   (rintro x w7 ⟨rfl, g7⟩)))
              go_ret
              exact ⟨rfl, b2 (b2 (b2 (b2 g1 g2) g3) g4) g7⟩
            · have hei : ¬ (e : Int) = 2048 := by omega
              have heb : ((e : Int) == 2048) = false := by simpa using hei
              have v4 : (N : Int) < (e : Int) + 1 + (hf : Int) := by rcases V3.out with h | h; exact absurd h h48; omega
              clear h48
              go_wp2_with (first
                | ((go_at_call 14)
                   (refine (alive_c _).mono ?_)
                   (rintro x w7 ⟨rfl, g7⟩)))
              go_ret
              exact ⟨rfl, b2 (b2 (b2 (b2 g1 g2) g3) g4) g7⟩
  · have h1 : 0 ≤ n := by omega
    clear h0
    obtain ⟨N, hN', hN⟩ : ∃ N : Nat, n % 8193 = (N : Int) ∧ N ≤ 8192 := ⟨(n % 8193).toNat, by omega, by omega⟩
    have HM : Hid (n % 8193 = (N : Int)) := hN'
    clear hN'
    obtain ⟨d, e, hB, hI, hV⟩ := best_at N hN
    obtain ⟨i1, i2, v1, v2, v3⟩ := hB
    have P1 : Hid _ := hI
    have P2 : Hid _ := hV
    have L1 : Hid _ := levels_n e (by omega)
    have L2 : Hid _ := levels_n (e + 1) (by omega)
    have F1 : Hid _ := levels_sum e
    have F2 : Hid _ := levels_sum (e + 1)
    have V3 : Hid (e = 2048 ∨ N < e + 1 + hs (e + 1)) := v3
    have T1 : Hid (((d : Int) + 3) / 4 = ((tg d : Nat) : Int)) := (by unfold tg; omega : ((d : Int) + 3) / 4 = ((tg d : Nat) : Int))
    have T2 : Hid (((d : Int) + 4) / 4 = ((tg (d + 1) : Nat) : Int)) := (by unfold tg; omega : ((d : Int) + 4) / 4 = ((tg (d + 1) : Nat) : Int))
    have k1 : (tg d : Int) = ((d : Int) + 3) / 4 := T1.out.symm
    have k2 : (d : Int) + ((d : Int) + 3) / 4 ≤ (N : Int) := by rw [T1.out]; omega
    have k3 : (N : Int) < (d : Int) + 1 + ((d : Int) + 4) / 4 := by rw [T2.out]; omega
    rw [k1] at P1
    clear hI hV i1 i2 k1 T1 T2 v3
    have hd : d ≤ 8192 := by omega
    have m11 := levN_11 (e : Int)
    have m12 := levN_11 ((e + 1 : Nat) : Int)
    generalize hs e = he at *
    generalize hs (e + 1) = hf at *
    generalize levN (e : Int) = m1 at *
    generalize levN ((e + 1 : Nat) : Int) = m2 at *
    rw [show ((e + 1 : Nat) : Int) = (e : Int) + 1 by omega] at L2
    obtain ⟨f11, f12⟩ := F1.out
    obtain ⟨f21, f22⟩ := F2.out
    go_enter Try.func5, Try.ntmps5
    go_wp2_with (first
      | ((go_at_call 8)
         (rw [HM.out])
         (refine (P1.out _).mono ?_)
         (rintro x w1 ⟨rfl, g1⟩))
      | ((go_at_call 10)
         (refine (P2.out _).mono ?_)
         (rintro x w2 ⟨rfl, g2⟩))
      | ((go_at_call 17)
         (refine (L1.out _).mono ?_)
         (rintro x w3 ⟨a1, c1, rfl, z1, g3⟩)))
    have HP1 : Hid (∀ k, k ≤ m1 → off e k ≤ 2058) := f11
    have HP2 : Hid (∀ k, k ≤ m2 → off (e + 1) k ≤ 2058) := f21
    have HE1 : Hid (off e m1 = he) := f12
    have HE2 : Hid (off (e + 1) m2 = hf) := f22
    clear f11 f12 f21 f22 F1 F2
    go_loop [7, 9] (fun s i => ∃ k : Nat, k ≤ m1 ∧ i = .int .i64 k ∧ s = .int .i64 (off e k : Nat)) (fun _ i => m1 - (intOf i).toNat)
    case atStart => exact ⟨0, Nat.zero_le _, rfl, rfl⟩
    case round =>
      obtain ⟨k, hk, rfl, rfl⟩ := hrel
      have hp := HP1.out k hk
      by_cases hlt : k < m1
      · have hp2 := HP1.out (k + 1) hlt
        have HS : Hid ((off e k : Int) + (lv e (k + 1) : Int) = ((off e (k + 1) : Nat) : Int)) := (by simp only [off]; omega : (off e k : Int) + (lv e (k + 1) : Int) = ((off e (k + 1) : Nat) : Int))
        obtain ⟨b, o, rfl, hbl, hcell⟩ := ints_at z1 k hlt
        have hv : lv e (k + 1) ≤ 2058 := by simp only [off] at hp2; omega
        clear hp2 z1
        generalize lv e (k + 1) = v at *
        generalize off e k = s at *
        go_wp2
        go_round
        case rel => exact ⟨k + 1, hlt, by go_num, by rw [HS.out]⟩
        case measure => simp [intOf]; omega
      · obtain rfl : k = m1 := by omega
        rw [HE1.out] at hp ⊢
        clear z1 hlt hk HE1
        go_wp2_with (first
          | ((go_at_call 17)
             (refine (L2.out _).mono ?_)
             (rintro x w4 ⟨a2, c2, rfl, z2, g4⟩)))
        go_loop [10, 12] (fun s i => ∃ k : Nat, k ≤ m2 ∧ i = .int .i64 k ∧ s = .int .i64 (off (e + 1) k : Nat)) (fun _ i => m2 - (intOf i).toNat)
        case atStart => exact ⟨0, Nat.zero_le _, rfl, rfl⟩
        case round =>
          obtain ⟨j, hj, rfl, rfl⟩ := hrel
          have hq := HP2.out j hj
          by_cases hlt : j < m2
          · have hp2 := HP2.out (j + 1) hlt
            have HS : Hid ((off (e + 1) j : Int) + (lv (e + 1) (j + 1) : Int) = ((off (e + 1) (j + 1) : Nat) : Int)) := (by simp only [off]; omega : (off (e + 1) j : Int) + (lv (e + 1) (j + 1) : Int) = ((off (e + 1) (j + 1) : Nat) : Int))
            obtain ⟨b, o, rfl, hbl, hcell⟩ := ints_at z2 j hlt
            have hv : lv (e + 1) (j + 1) ≤ 2058 := by simp only [off] at hp2; omega
            clear hp2 z2
            generalize lv (e + 1) (j + 1) = v at *
            generalize off (e + 1) j = s at *
            go_wp2
            go_round
            case rel => exact ⟨j + 1, hlt, by go_num, by rw [HS.out]⟩
            case measure => simp [intOf]; omega
          · obtain rfl : j = m2 := by omega
            rw [HE2.out] at hq ⊢
            clear z2 hlt hj HE2
            have v1i : (e : Int) + (he : Int) ≤ (N : Int) := by omega
            have v0i : 0 ≤ (e : Int) := by omega
            by_cases h48 : e = 2048
            · have hei : (e : Int) = 2048 := by omega
              have heb : ((e : Int) == 2048) = true := by simpa using hei
              clear h48 hei
              go_wp2_with (first
                | ((go_at_call 14)
                   (refine (alive_c _).mono ?_)
                   (rintro x w7 ⟨rfl, g7⟩)))
              go_ret
              exact ⟨rfl, b2 (b2 (b2 (b2 g1 g2) g3) g4) g7⟩
            · have hei : ¬ (e : Int) = 2048 := by omega
              have heb : ((e : Int) == 2048) = false := by simpa using hei
              have v4 : (N : Int) < (e : Int) + 1 + (hf : Int) := by rcases V3.out with h | h; exact absurd h h48; omega
              clear h48
              go_wp2_with (first
                | ((go_at_call 14)
                   (refine (alive_c _).mono ?_)
                   (rintro x w7 ⟨rfl, g7⟩)))
              go_ret
              exact ⟨rfl, b2 (b2 (b2 (b2 g1 g2) g3) g4) g7⟩
end Go.Proofs.Ytacllicemnmpmaa
