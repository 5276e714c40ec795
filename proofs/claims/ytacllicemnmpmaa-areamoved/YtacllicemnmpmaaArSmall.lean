/- Area's small functions. -/
import Derived.Test.YtacllicemnmpmaaArMath
namespace Go.Proofs.Ytacllicemnmpmaa
open Go.RowKit Go.Shelf
set_option linter.unusedVariables false

theorem within_yes (a b c : Int) (w : World) (h : b ≤ a ∧ a ≤ c) : Calls Try.prog 23 #[.int .i64 a, .int .i64 b, .int .i64 c] w fun e w' => e = .returned (.bool true) ∧ w' = w := by
  obtain ⟨h1, h2⟩ := h
  go_enter Try.func23, Try.ntmps23
  go_wp2
  go_ret
  exact ⟨rfl, rfl⟩

theorem within_no (a b c : Int) (w : World) (h : ¬ (b ≤ a ∧ a ≤ c)) : Calls Try.prog 23 #[.int .i64 a, .int .i64 b, .int .i64 c] w fun e w' => e = .returned (.bool false) ∧ w' = w := by
  by_cases h1 : b ≤ a
  · have h2 : ¬ a ≤ c := fun h2 => h ⟨h1, h2⟩
    clear h
    go_enter Try.func23, Try.ntmps23
    go_wp2
    go_ret
    exact ⟨rfl, rfl⟩
  · clear h
    go_enter Try.func23, Try.ntmps23
    go_wp2
    go_ret
    exact ⟨rfl, rfl⟩

theorem groups_c (x s : Nat) (w : World) (hx : x ≤ 100000) (h1 : 1 ≤ s) (h2 : s ≤ 100000) : Calls Try.prog 20 #[.int .i64 (x : Nat), .int .i64 (s : Nat)] w fun e w' => e = .returned (.int .i64 (((x + s - 1) / s : Nat) : Int)) ∧ w' = w := by
  have HE : Hid (((x : Int) + (s : Int) - 1) / (s : Int) = (((x + s - 1) / s : Nat) : Int)) := (by
    rw [Int.natCast_ediv]; congr 1; omega : ((x : Int) + (s : Int) - 1) / (s : Int) = (((x + s - 1) / s : Nat) : Int))
  generalize (((x + s - 1) / s : Nat) : Int) = q at HE ⊢
  generalize hX : (x : Int) = X at HE ⊢
  generalize hS : (s : Int) = S at HE ⊢
  have a1 : 0 ≤ X := by omega
  have a2 : X ≤ 100000 := by omega
  have a3 : 1 ≤ S := by omega
  have a4 : S ≤ 100000 := by omega
  clear hX hS hx h1 h2
  have a5 : ¬ S = 0 := by omega
  have a6 : ¬ S = -1 := by omega
  go_enter Try.func20, Try.ntmps20
  go_wp2
  go_ret
  rw [HE.out]
  exact ⟨rfl, rfl⟩

theorem tags_c (d : Nat) (w : World) (h : d ≤ 8192) : Calls Try.prog 19 #[.int .i64 (d : Nat)] w fun e w' => e = .returned (.int .i64 (tg d : Nat)) ∧ w' = w := by
  have hg := groups_c d 4 w (by omega) (by omega) (by omega)
  rw [show (d + 4 - 1) / 4 = tg d by unfold tg; omega] at hg
  generalize ((tg d : Nat) : Int) = q at hg ⊢
  generalize ((d : Nat) : Int) = D at hg ⊢
  clear h
  go_enter Try.func19, Try.ntmps19
  go_wp2_with (first
    | ((go_at_call 20)
       (refine hg.mono ?_)
       (rintro e w1 ⟨rfl, rfl⟩)))
  go_ret
  exact ⟨rfl, rfl⟩

/-- The sum over a row of ints. -/
theorem ints_at {w : World} {a : Option Addr} {n : Nat} {f : Nat → Nat} (h : Ints w a n f) (k : Nat) (hk : k < n) : ∃ b off, a = some ⟨b, off, none⟩ ∧ b < w.heap.size ∧ w.cell? ⟨b, off + k, none⟩ = some (.int .i64 (f k : Nat)) := by
  rcases h with h | ⟨b, off, rfl, hb, hc⟩
  · omega
  · exact ⟨b, off, rfl, hb, hc k hk⟩

set_option maxHeartbeats 1000000 in
theorem hashes_c (n : Nat) (w : World) (hn : n ≤ 8192) : Calls Try.prog 21 #[.int .i64 (n : Nat)] w fun e w' => e = .returned (.int .i64 (hs n : Nat)) ∧ Below w.heap.size w w' := by
  have hL := Levels_ok (n : Int) w ⟨by omega, by omega⟩
  rw [Int.toNat_natCast] at hL
  have HP : Hid (∀ k, k ≤ levN (n : Int) → off n k ≤ 2058) := fun k hk => Nat.le_trans (off_part n k hk) (hs_le n)
  have HE : Hid (off n (levN (n : Int)) = hs n) := rfl
  have h11 := levN_11 (n : Int)
  generalize levN (n : Int) = m at hL HP HE h11
  generalize (n : Int) = N at hL ⊢
  clear hn
  go_enter Try.func21, Try.ntmps21
  go_wp2_with (first
    | ((go_at_call 17)
       (refine hL.mono ?_)
       (rintro e w1 ⟨a, c, rfl, hc1, hc2, hints, hb⟩)))
  go_loop [3, 9] (fun s i => ∃ k : Nat, k ≤ m ∧ i = .int .i64 k ∧ s = .int .i64 (off n k : Nat)) (fun _ i => m - (intOf i).toNat)
  case atStart => exact ⟨0, Nat.zero_le _, rfl, rfl⟩
  case round =>
    obtain ⟨k, hk, rfl, rfl⟩ := hrel
    have hp := HP.out k hk
    by_cases hlt : k < m
    · have hp2 := HP.out (k + 1) hlt
      have HS : Hid ((off n k : Int) + (lv n (k + 1) : Int) = ((off n (k + 1) : Nat) : Int)) := (by simp only [off]; omega : (off n k : Int) + (lv n (k + 1) : Int) = ((off n (k + 1) : Nat) : Int))
      obtain ⟨b, o, rfl, hbl, hcell⟩ := ints_at hints k hlt
      have hv : lv n (k + 1) ≤ 2058 := by simp only [off] at hp2; omega
      clear hL hp2
      generalize lv n (k + 1) = v at *
      generalize off n k = s at *
      go_wp2
      go_round
      case rel => exact ⟨k + 1, hlt, by go_num, by rw [HS.out]⟩
      case measure => simp [intOf]; omega
    · obtain rfl : k = m := by omega
      clear hL
      go_wp2
      go_ret
      rw [HE.out]
      exact ⟨rfl, hb⟩
end Go.Proofs.Ytacllicemnmpmaa
