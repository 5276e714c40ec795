/- The document's sizes. -/
import Derived.Test.YtacllicemnmpmaaArStore
namespace Go.Proofs.Ytacllicemnmpmaa
open Go.ChangeShapes Go.WideShapes Go.ChangeAt Go.RowKit Go.Shelf
set_option linter.unusedVariables false

theorem rInt_no (n : Int) (w : World) (h : ¬ (0 ≤ n ∧ n ≤ 8192)) : Calls Try.prog 9 #[.int .i64 n] w fun e w' => e = .returned (.tuple #[.int .i64 0, .int .i64 0]) ∧ w' = w := by
  by_cases h1 : n < 0
  · clear h
    go_enter Try.func9, Try.ntmps9
    go_wp2
    go_ret2
    exact ⟨rfl, rfl⟩
  · have h2 : 8192 < n := by omega
    clear h
    go_enter Try.func9, Try.ntmps9
    go_wp2
    go_ret2
    exact ⟨rfl, rfl⟩

theorem fit_eq (rest : Nat → Nat) (n d : Nat) (b : Bool) : fit rest n d = b ↔ ((b = true ∧ d + rest d ≤ n) ∨ (b = false ∧ ¬ d + rest d ≤ n)) := by
  unfold fit
  cases b <;> simp

set_option maxHeartbeats 1000000 in
theorem rInt_c (n : Nat) (w : World) (h : n ≤ 8192) : Calls Try.prog 9 #[.int .i64 (n : Nat)] w fun e w' => ∃ r : Nat, e = .returned (.tuple #[.int .i64 (r : Nat), .int .i64 (tg r : Nat)]) ∧ Great 8192 (fit tg n) r ∧ w' = w := by
  go_enter Try.func9, Try.ntmps9
  go_wp2
  go_loop [4] (fun d => ∃ k : Nat, k ≤ 8192 ∧ d = .int .i64 k ∧ (∀ t, t < k → fit tg n (t + 1) = true)) (fun d => 8193 - (intOf d).toNat)
  case atStart => exact ⟨0, by omega, rfl, fun t ht => absurd ht (Nat.not_lt_zero _)⟩
  case round =>
    obtain ⟨k, hk, rfl, hall⟩ := hrel
    have HA : Hid (∀ t, t < k → fit tg n (t + 1) = true) := hall
    clear hall
    by_cases hlt : k + 1 + tg (k + 1) ≤ n
    · have hf : Hid (fit tg n (k + 1) = true) := ((fit_eq _ _ _ _).2 (.inl ⟨rfl, hlt⟩) : fit tg n (k + 1) = true)
      have hi : (k : Int) + 1 + ((k : Int) + 4) / 4 ≤ (n : Int) := by unfold tg at hlt; omega
      have hk2 : k + 1 ≤ 8192 := by omega
      clear hlt
      go_wp2
      go_round
      case rel => exact ⟨k + 1, hk2, by go_num, fun t ht => by
        by_cases e : t < k
        · exact HA.out t e
        · obtain rfl : t = k := by omega
          exact hf.out⟩
      case measure => simp [intOf]; omega
    · have hf : Hid (fit tg n (k + 1) = false) := ((fit_eq _ _ _ _).2 (.inr ⟨rfl, hlt⟩) : fit tg n (k + 1) = false)
      have hi : ¬ ((k : Int) + 1 + ((k : Int) + 4) / 4 ≤ (n : Int)) := by unfold tg at hlt; omega
      have HT : Hid (((k : Int) + 3) / 4 = ((tg k : Nat) : Int)) := (by unfold tg; omega : ((k : Int) + 3) / 4 = ((tg k : Nat) : Int))
      clear hlt
      go_wp2
      go_ret2
      refine ⟨k, ?_, ⟨hk, HA.out, fun _ => hf.out⟩, rfl⟩
      rw [← HT.out]
      rfl

set_option maxHeartbeats 1000000 in
theorem rhashes_c (n : Nat) (w : World) (hn : n ≤ 8192) : Calls Try.prog 22 #[.int .i64 (n : Nat)] w fun e w' => e = .returned (.int .i64 (hs n : Nat)) ∧ Below w.heap.size w w' := by
  have hL := rlevels_any (n : Int) w ⟨by omega, by omega⟩
  rw [Int.toNat_natCast] at hL
  have HP : Hid (∀ k, k ≤ levN (n : Int) → off n k ≤ 2058) := fun k hk => Nat.le_trans (off_part n k hk) (hs_le n)
  have HE : Hid (off n (levN (n : Int)) = hs n) := rfl
  have h11 := levN_11 (n : Int)
  generalize levN (n : Int) = m at hL HP HE h11
  generalize (n : Int) = N at hL ⊢
  clear hn
  go_enter Try.func22, Try.ntmps22
  go_wp2_with (first
    | ((go_at_call 32)
       (refine hL.mono ?_)
       (rintro e w1 ⟨a, c, rfl, hc1, hc2, hints, hb⟩)))
  go_loop [3, 5] (fun s i => ∃ k : Nat, k ≤ m ∧ i = .int .i64 k ∧ s = .int .i64 (off n k : Nat)) (fun _ i => m - (intOf i).toNat)
  case atStart => exact ⟨0, Nat.zero_le _, rfl, rfl⟩
  case round =>
    obtain ⟨k, hk, rfl, rfl⟩ := hrel
    have hp := HP.out k hk
    by_cases hlt : k < m
    · have hp2 := HP.out (k + 1) hlt
      have HS : Hid ((off n k : Int) + (lv n (k + 1) : Int) = ((off n (k + 1) : Nat) : Int)) := (by simp only [off]; omega : (off n k : Int) + (lv n (k + 1) : Int) = ((off n (k + 1) : Nat) : Int))
      obtain ⟨b, o, rfl, hbl, hcell⟩ := ints_at hints k hlt
      have hv : lv n (k + 1) ≤ 2058 := by simp only [off] at hp2; omega
      clear hL hp2
      generalize lv n (k + 1) = v at *
      generalize off n k = s at *
      go_wp2
      go_round
      case rel => exact ⟨k + 1, hlt, by go_num, by rw [HS.out]⟩
      case measure => simp [intOf]; omega
    · obtain rfl : k = m := by omega
      clear hL
      go_wp2
      go_ret
      rw [HE.out]
      exact ⟨rfl, hb⟩

theorem rVer_no (n : Int) (w : World) (h : ¬ (0 ≤ n ∧ n ≤ 8192)) : Calls Try.prog 11 #[.int .i64 n] w fun e w' => e = .returned (.tuple #[.int .i64 0, .int .i64 0]) ∧ w' = w := by
  by_cases h1 : n < 0
  · clear h
    go_enter Try.func11, Try.ntmps11
    go_wp2
    go_ret2
    exact ⟨rfl, rfl⟩
  · have h2 : 8192 < n := by omega
    clear h
    go_enter Try.func11, Try.ntmps11
    go_wp2
    go_ret2
    exact ⟨rfl, rfl⟩

set_option maxRecDepth 100000 in
set_option maxHeartbeats 2000000 in
theorem rVer_c (n : Nat) (w : World) (h : n ≤ 8192) : Calls Try.prog 11 #[.int .i64 (n : Nat)] w fun e w' => ∃ r : Nat, e = .returned (.tuple #[.int .i64 (r : Nat), .int .i64 (hs r : Nat)]) ∧ Great 2048 (fit hs n) r ∧ Below w.heap.size w w' := by
  go_enter Try.func11, Try.ntmps11
  go_wp2
  go_loopw [4] (fun d wr => ∃ k : Nat, k ≤ 2048 ∧ d = .int .i64 k ∧ Hid (∀ t, t < k → fit hs n (t + 1) = true) ∧ Below w.heap.size w wr) (fun d _ => 2049 - (intOf d).toNat)
  case atStart => exact ⟨0, by omega, rfl, (fun t ht => absurd ht (Nat.not_lt_zero _) : ∀ t, t < 0 → fit hs n (t + 1) = true), Below.refl _ _⟩
  case round =>
    obtain ⟨k, hk, rfl, HA, hb⟩ := hrel
    by_cases hk8 : k < 2048
    · have hR := fun W => rhashes_c (k + 1) W (by omega)
      have hv := hs_le (k + 1)
      by_cases hlt : k + 1 + hs (k + 1) ≤ n
      · have hf : Hid (fit hs n (k + 1) = true) := ((fit_eq _ _ _ _).2 (.inl ⟨rfl, hlt⟩) : fit hs n (k + 1) = true)
        generalize hs (k + 1) = v at hR hlt hv
        go_wp2_with (first
          | ((go_at_call 22)
             (refine (hR _).mono ?_)
             (rintro e w1 ⟨rfl, hb1⟩)))
        go_roundw
        case rel => exact ⟨k + 1, hk8, by go_num, (fun t ht => by
          by_cases e : t < k
          · exact HA.out t e
          · obtain rfl : t = k := by omega
            exact hf.out : ∀ t, t < k + 1 → fit hs n (t + 1) = true), hb.trans (hb1.mono hb.size)⟩
        case measure => simp [intOf]; omega
      · have hf : Hid (fit hs n (k + 1) = false) := ((fit_eq _ _ _ _).2 (.inr ⟨rfl, hlt⟩) : fit hs n (k + 1) = false)
        generalize hs (k + 1) = v at hR hlt hv
        have hG : Hid (Great 2048 (fit hs n) k) := (⟨hk, HA.out, fun _ => hf.out⟩ : Great 2048 (fit hs n) k)
        by_cases h0 : k = 0
        · subst h0
          go_wp2_with (first
            | ((go_at_call 22)
               (refine (hR _).mono ?_)
               (rintro e w1 ⟨rfl, hb1⟩)))
          go_ret2
          exact ⟨0, rfl, hG.out, hb.trans (hb1.mono hb.size)⟩
        · have h0i : ¬ ((k : Int) = 0) := by omega
          have hR2 := fun W => rhashes_c k W (by omega)
          obtain ⟨v2, hv2⟩ : ∃ v2, v2 = hs k := ⟨_, rfl⟩
          have HV : Hid (v2 = hs k) := hv2
          rw [← hv2] at hR2
          clear hv2
          go_wp2_with (first
            | ((go_at_call 22)
               (refine at_arg 0 (.int .i64 ((k : Int) + 1)) rfl ?_)
               (refine (hR _).mono ?_)
               (rintro e w1 ⟨rfl, hb1⟩))
            | ((go_at_call 22)
               (refine (hR2 _).mono ?_)
               (rintro e w2 ⟨rfl, hb2⟩)))
          go_ret2
          refine ⟨k, ?_, hG.out, (hb.trans (hb1.mono hb.size)).trans (hb2.mono (by have := hb.size; have := hb1.size; omega))⟩
          rw [← HV.out]
          rfl
    · obtain rfl : k = 2048 := by omega
      have hG : Hid (Great 2048 (fit hs n) 2048) := (⟨hk, HA.out, fun h => absurd h hk8⟩ : Great 2048 (fit hs n) 2048)
      have hR2 := fun W => rhashes_c 2048 W (by omega)
      go_wp2_with (first
            | ((go_at_call 22)
               (refine (hR2 _).mono ?_)
               (rintro e w2 ⟨rfl, hb2⟩)))
      go_ret2
      exact ⟨2048, rfl, hG.out, hb.trans (hb2.mono hb.size)⟩

set_option maxRecDepth 100000 in
set_option maxHeartbeats 2000000 in
theorem rStore_no (n o c : Int) (w : World) (h : ¬ ((1 ≤ n ∧ n ≤ 8192) ∧ (1 ≤ o ∧ o ≤ 8192) ∧ (1 ≤ c ∧ c ≤ 16))) :
    Calls Try.prog 13 #[.int .i64 n, .int .i64 o, .int .i64 c] w fun e w' => e = .returned (.tuple #[.int .i64 0, .int .i64 0]) ∧ w' = w := by
  rcases (by omega : n < 1 ∨ (1 ≤ n ∧ 8192 < n) ∨ (1 ≤ n ∧ n ≤ 8192 ∧ o < 1) ∨ (1 ≤ n ∧ n ≤ 8192 ∧ 1 ≤ o ∧ 8192 < o) ∨ (1 ≤ n ∧ n ≤ 8192 ∧ 1 ≤ o ∧ o ≤ 8192 ∧ c < 1) ∨ (1 ≤ n ∧ n ≤ 8192 ∧ 1 ≤ o ∧ o ≤ 8192 ∧ 1 ≤ c ∧ 16 < c)) with h1 | ⟨h1, h2⟩ | ⟨h1, h2, h3⟩ | ⟨h1, h2, h3, h4⟩ | ⟨h1, h2, h3, h4, h5⟩ | ⟨h1, h2, h3, h4, h5, h6⟩
  all_goals
    clear h
    go_enter Try.func13, Try.ntmps13
    go_wp2
    go_ret2
    exact ⟨rfl, rfl⟩

theorem sfit_eq (T c n d : Nat) (b : Bool) : sfit T c n d = b ↔ ((b = true ∧ T + d * c ≤ n) ∨ (b = false ∧ ¬ T + d * c ≤ n)) := by
  unfold sfit
  cases b <;> simp

set_option maxRecDepth 100000 in
set_option maxHeartbeats 2000000 in
theorem rStore_c (n o c : Nat) (w : World) (h1 : 1 ≤ n ∧ n ≤ 8192) (h2 : 1 ≤ o ∧ o ≤ 8192) (h3 : 1 ≤ c ∧ c ≤ 16) :
    Calls Try.prog 13 #[.int .i64 (n : Nat), .int .i64 (o : Nat), .int .i64 (c : Nat)] w fun e w' => ∃ s : Nat, e = .returned (.tuple #[.int .i64 (stA (tableOf o c) s : Nat), .int .i64 (s : Nat)]) ∧ Great (chunksOf o c) (sfit (tableOf o c) c n) s ∧ w' = w := by
  have hcl := chunks_le h2.1 h2.2 h3.1
  have hd : ((o : Int) + (c : Int) - 1) / (c : Int) = (chunksOf o c : Nat) := by
    unfold chunksOf; rw [Int.natCast_ediv]; congr 1; omega
  have ht : ((chunksOf o c : Int) + 15) / 16 = (tableOf o c : Nat) := by unfold tableOf; omega
  have htl : tableOf o c ≤ 8192 := by unfold tableOf; omega
  obtain ⟨h11, h12⟩ := h1
  obtain ⟨h21, h22⟩ := h2
  obtain ⟨h31, h32⟩ := h3
  obtain ⟨k1, k2⟩ := hcl
  generalize tableOf o c = T at *
  generalize chunksOf o c = K at *
  have hc0 : ¬ ((c : Int) = 0) := by omega
  have hc1 : ¬ ((c : Int) = -1) := by omega
  go_enter Try.func13, Try.ntmps13
  go_wp2
  simp only [hd, ht]
  clear hd ht
  go_loop [10] (fun d => ∃ k : Nat, k ≤ K ∧ d = .int .i64 k ∧ Hid (∀ t, t < k → sfit T c n (t + 1) = true)) (fun d => 8193 - (intOf d).toNat)
  case atStart => exact ⟨0, by omega, rfl, (fun t ht => absurd ht (Nat.not_lt_zero _) : ∀ t, t < 0 → sfit T c n (t + 1) = true)⟩
  case round =>
    obtain ⟨k, hk, rfl, HA⟩ := hrel
    by_cases hkK : k < K
    · have hm : (k + 1) * c ≤ 8192 * 16 := Nat.mul_le_mul (by omega) h32
      have hme : ((k : Int) + 1) * (c : Int) = (((k + 1) * c : Nat) : Int) := by rw [Int.natCast_mul]; rfl
      have HME : Hid (((k : Int) + 1) * (c : Int) = (((k + 1) * c : Nat) : Int)) := hme
      have hm1 : ((k : Int) + 1) * (c : Int) ≤ 131072 := by rw [hme]; omega
      have hm2 : 0 ≤ ((k : Int) + 1) * (c : Int) := by rw [hme]; omega
      by_cases hlt : T + (k + 1) * c ≤ n
      · have hf : Hid (sfit T c n (k + 1) = true) := ((sfit_eq _ _ _ _ _).2 (.inl ⟨rfl, hlt⟩) : sfit T c n (k + 1) = true)
        have hi : (T : Int) + ((k : Int) + 1) * (c : Int) ≤ (n : Int) := by rw [hme]; omega
        clear hlt hme hm
        go_wp2
        go_round
        case rel => exact ⟨k + 1, hkK, by go_num, (fun t ht => by
          by_cases e : t < k
          · exact HA.out t e
          · obtain rfl : t = k := by omega
            exact hf.out : ∀ t, t < k + 1 → sfit T c n (t + 1) = true)⟩
        case measure => simp [intOf]; omega
      · have hf : Hid (sfit T c n (k + 1) = false) := ((sfit_eq _ _ _ _ _).2 (.inr ⟨rfl, hlt⟩) : sfit T c n (k + 1) = false)
        have hi : ¬ ((T : Int) + ((k : Int) + 1) * (c : Int) ≤ (n : Int)) := by rw [hme]; omega
        have hG : Hid (Great K (sfit T c n) k) := (⟨hk, HA.out, fun _ => hf.out⟩ : Great K (sfit T c n) k)
        clear hlt hme hm
        by_cases h0 : k = 0
        · subst h0
          go_wp2
          go_ret2
          exact ⟨0, rfl, hG.out, rfl⟩
        · have h0i : ¬ ((k : Int) = 0) := by omega
          go_wp2
          go_ret2
          refine ⟨k, ?_, hG.out, rfl⟩
          unfold stA
          rw [if_neg h0]
          rfl
    · obtain rfl : k = K := by omega
      have hG : Hid (Great k (sfit T c n) k) := (⟨hk, HA.out, fun h => absurd h hkK⟩ : Great k (sfit T c n) k)
      have h0 : ¬ k = 0 := by omega
      have h0i : ¬ ((k : Int) = 0) := by omega
      go_wp2
      go_ret2
      refine ⟨k, ?_, hG.out, rfl⟩
      unfold stA
      rw [if_neg h0]
      rfl
end Go.Proofs.Ytacllicemnmpmaa
