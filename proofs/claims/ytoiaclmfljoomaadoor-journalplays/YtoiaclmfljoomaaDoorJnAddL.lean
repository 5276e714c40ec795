/- The law's add: what Add must answer. -/
import Derived.Test.YtoiaclmfljoomaaDoorJnPlayM
namespace Go.Proofs.YtoiaclmfljoomaaDoor
open Go.ChangeShapes Go.WideShapes Go.ChangeAt Go.RowKit
set_option linter.unusedVariables false

set_option maxRecDepth 100000 in
set_option maxHeartbeats 4000000 in
theorem add_l {w : World} {a : Option Addr} {n c : Nat} {rs : List RC} (h : Rl w a rs) (e : n = rs.length) (hs : Sized rs) (hE : endOf 0 rs ≤ 1000000) (ad : Option Addr) (L C N : Nat) (hL : L ≤ 9223372036854775807) (hN : N ≤ 1000000) :
    Calls Tryd.prog 13 #[.slice a n c, .slice ad L C, .int .i64 (N : Nat)] w fun e w' => e = .returned (.int .i64 (addErr rs N L)) ∧ Below w.heap.size w w' := by
  have hsz := size_any (c := c) h e hs hE
  obtain ⟨E, hEe⟩ : ∃ E, E = endOf 0 rs := ⟨_, rfl⟩
  rw [← hEe] at hsz hE
  have HEE : Hid (E = endOf 0 rs) := hEe
  clear hEe
  have hEb : (E : Int) ≤ 1000000 := by omega
  have hE0 : (0 : Int) ≤ (E : Int) := by omega
  have hNb : (N : Int) ≤ 1000000 := by omega
  by_cases hbad : L = 0 ∨ 8192 < L
  · have hae : addErr rs N L = 91 := by
      unfold addErr
      rw [if_pos (by omega)]
    rw [hae]
    clear hae hsz
    rcases hbad with h0 | h0
    · subst h0
      go_enter Tryd.func13, Tryd.ntmps13
      go_wp2
      go_ret
      exact ⟨rfl, Below.refl _ _⟩
    · have j0 : ¬ (L : Int) = 0 := by omega
      have j1 : (8192 : Int) < (L : Int) := by omega
      go_enter Tryd.func13, Tryd.ntmps13
      go_wp2
      go_ret
      exact ⟨rfl, Below.refl _ _⟩
  · have j0 : ¬ (L : Int) = 0 := by omega
    have j1 : ¬ (8192 : Int) < (L : Int) := by omega
    have hL8 : L ≤ 8192 := by omega
    have hL1 : 1 ≤ L := by omega
    obtain ⟨J, hJ⟩ : ∃ J, J = jrnd L := ⟨_, rfl⟩
    have hJb : (J : Int) ≤ 8200 := by rw [hJ]; unfold jrnd; omega
    have hJ0 : (0 : Int) ≤ (J : Int) := by omega
    have HJ : Hid (J = jrnd L) := hJ
    clear hJ hbad h hs hE e
    by_cases hfit : E + 8 + J ≤ N
    · have hae : addErr rs N L = 0 := by
        unfold addErr
        rw [if_neg (by omega), if_neg (by rw [← HEE.out, ← HJ.out]; omega)]
      rw [hae]
      have hti : ¬ (N : Int) < (E : Int) + 8 + (J : Int) := by omega
      clear hae
      go_enter Tryd.func13, Tryd.ntmps13
      go_wp2_with (first
        | ((go_at_call 27)
           (refine hsz.mono ?_)
           (rintro e w1 ⟨rfl, hb1⟩)
           (have hr1 := round_any L w1 (by omega))
           (rw [← HJ.out] at hr1)
           (clear hsz))
        | ((go_at_call 40)
           (refine hr1.mono ?_)
           (rintro e wz ⟨rfl, hz⟩)
           (obtain rfl : w1 = wz := hz.symm)
           (clear hr1)))
      go_ret
      exact ⟨rfl, hb1⟩
    · have hae : addErr rs N L = 92 := by
        unfold addErr
        rw [if_neg (by omega), if_pos (by rw [← HEE.out, ← HJ.out]; omega)]
      rw [hae]
      have hti : (N : Int) < (E : Int) + 8 + (J : Int) := by omega
      clear hae
      go_enter Tryd.func13, Tryd.ntmps13
      go_wp2_with (first
        | ((go_at_call 27)
           (refine hsz.mono ?_)
           (rintro e w1 ⟨rfl, hb1⟩)
           (have hr1 := round_any L w1 (by omega))
           (rw [← HJ.out] at hr1)
           (clear hsz))
        | ((go_at_call 40)
           (refine hr1.mono ?_)
           (rintro e wz ⟨rfl, hz⟩)
           (obtain rfl : w1 = wz := hz.symm)
           (clear hr1)))
      go_ret
      exact ⟨rfl, hb1⟩
end Go.Proofs.YtoiaclmfljoomaaDoor
