/- cache: pick; a nil cache. -/
import Derived.Test.YtancebpjfbbcaaaCcAlive
namespace Go.Proofs.Ytancebpjfbbcaaa
open Go.ChangeShapes Go.WideShapes Go.ChangeAt Go.RowKit Go.MapKept
set_option linter.unusedVariables false

/-- Which of m things a raw number speaks of. -/
def pk (c : Int) (m : Nat) : Nat := ((if c < 0 then -(c + 1) else c) % (m : Int)).toNat

theorem pk_lt (c : Int) (m : Nat) (hm : 0 < m) : pk c m < m := by
  unfold pk
  have h1 := Int.emod_nonneg (if c < 0 then -(c + 1) else c) (show (m : Int) ≠ 0 by omega)
  have h2 := Int.emod_lt_of_pos (if c < 0 then -(c + 1) else c) (show (0 : Int) < (m : Int) by omega)
  omega

theorem pk_val (c : Int) (m : Nat) (hm : 0 < m) : ((pk c m : Nat) : Int) = (if c < 0 then -(c + 1) else c).tmod (m : Int) := by
  unfold pk
  rw [Int.toNat_of_nonneg (Int.emod_nonneg _ (by omega)), Int.tmod_eq_emod_of_nonneg]
  split <;> omega

set_option maxRecDepth 100000 in
set_option maxHeartbeats 1000000 in
theorem pick_c (c : Int) (hc : i64ok c) (m : Nat) (hm : 0 < m) (hm2 : m ≤ 1000) (w : World) : Calls Try.prog 9 #[.int .i64 c, .int .i64 (m : Nat)] w fun e w' => e = .returned (.int .i64 (pk c m : Nat)) ∧ w' = w := by
  have hv := pk_val c m hm
  obtain ⟨hc1, hc2⟩ := hc
  have hm0 : ¬ (m : Int) = 0 := by omega
  have hmm : ¬ (m : Int) = -1 := by omega
  rw [hv]
  clear hv
  by_cases h : c < 0
  · rw [if_pos h]
    go_enter Try.func9, Try.ntmps9
    go_wp2
    go_ret
    refine ⟨?_, rfl⟩
    rw [Int.neg_tmod]
    rfl
  · rw [if_neg h]
    go_enter Try.func9, Try.ntmps9
    go_wp2
    go_ret
    refine ⟨?_, rfl⟩
    rw [Int.tmod_eq_emod_of_nonneg (by omega)]
    rfl
end Go.Proofs.Ytancebpjfbbcaaa
