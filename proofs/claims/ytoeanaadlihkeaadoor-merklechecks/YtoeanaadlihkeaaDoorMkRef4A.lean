/- The document's Check, of anything. -/
import Derived.Test.YtoeanaadlihkeaaDoorMkRef4
namespace Go.Proofs.YtoeanaadlihkeaaDoor
open Go.ChangeShapes Go.WideShapes Go.ChangeAt Go.RowKit
set_option linter.unusedVariables false

set_option maxRecDepth 100000 in
set_option maxHeartbeats 3200000 in
theorem rcheck_no (n i : Int) (hn : i64ok n) (L C : Nat) (a : Option Addr) (len cap : Nat) (pa : Option Addr) (vr : Value) (w : World) (hL : L ≤ maxLen) (hlen : len ≤ maxLen)
    (hno : i < 0 ∨ n ≤ i ∨ levN n = 0 ∨ len ≠ levN n ∨ L ≠ 64) :
    Calls Tryd.prog 18 #[.int .i64 n, .int .i64 i, .slice a L C, .slice pa len cap, vr] w fun e w' => e = .returned (.bool false) ∧ Below w.heap.size w w' := by
  unfold maxLen at hL hlen
  have hl := rlevels_any n w hn
  have h11 := levN_11 n
  obtain ⟨X, hX⟩ : ∃ X, X = levN n := ⟨_, rfl⟩
  rw [← hX] at hl h11 hno
  clear hX
  go_enter Tryd.func18, Tryd.ntmps18
  by_cases h1 : i < 0
  · clear hno
    go_wp2_with (first
      | ((go_at_call 10)
         (refine hl.mono ?_)
         (rintro e w1 ⟨la, lc, rfl, hlc, hln, hli, hb1⟩)))
    exact bodyPost_ret (results_tmp rfl _ _ _) rfl ⟨rfl, hb1⟩
  by_cases h2 : n ≤ i
  · clear hno
    go_wp2_with (first
      | ((go_at_call 10)
         (refine hl.mono ?_)
         (rintro e w1 ⟨la, lc, rfl, hlc, hln, hli, hb1⟩)))
    exact bodyPost_ret (results_tmp rfl _ _ _) rfl ⟨rfl, hb1⟩
  have d1 : decide (i < 0) = false := by simpa using h1
  have d2 : decide (n ≤ i) = false := by simpa using h2
  by_cases h3 : X = 0
  · subst h3
    clear hno
    go_wp2_with (first
      | ((go_at_call 10)
         (refine hl.mono ?_)
         (rintro e w1 ⟨la, lc, rfl, hlc, hln, hli, hb1⟩)))
    exact bodyPost_ret (results_tmp rfl _ _ _) rfl ⟨rfl, hb1⟩
  have d3 : ((X : Int) == 0) = false := by simp; omega
  by_cases h4 : len = X
  · subst h4
    have h5 : ¬ ((L : Int) = 64) := by omega
    clear hno
    go_wp2_with (first
      | ((go_at_call 10)
         (refine hl.mono ?_)
         (rintro e w1 ⟨la, lc, rfl, hlc, hln, hli, hb1⟩)))
    exact bodyPost_ret (results_tmp rfl _ _ _) rfl ⟨rfl, hb1⟩
  · have d4 : ((len : Int) != (X : Int)) = true := by simp; omega
    clear hno
    go_wp2_with (first
      | ((go_at_call 10)
         (refine hl.mono ?_)
         (rintro e w1 ⟨la, lc, rfl, hlc, hln, hli, hb1⟩)))
    exact bodyPost_ret (results_tmp rfl _ _ _) rfl ⟨rfl, hb1⟩

theorem rcheck_any : CheckOk 18 := by
  intro n i L C a x len cap pa A Lp Cp P Lr Cr ra r w hG hn hi hLC hLm han hx hxl hlm hP hrc hrm hrn hr hrl
  by_cases h : i < 0 ∨ n ≤ i ∨ levN n = 0 ∨ len ≠ levN n ∨ L ≠ 64
  · refine (rcheck_no n i hn L C a len cap pa _ w hLm hlm h).mono ?_
    rintro e w' ⟨rfl, hb⟩
    refine ⟨⟨false, rfl, ⟨(fun h => absurd h (by decide)), fun hs => ?_⟩⟩, hb⟩
    obtain ⟨s1, s2, s3, s4, s5, _⟩ := hs
    have hd := dep_pos n.toNat
    have e := levN_in (n := n) ⟨by omega, s3⟩
    omega
  · have hin : 1 ≤ n ∧ n ≤ 2048 := by
      by_cases hh : 1 ≤ n ∧ n ≤ 2048
      · exact hh
      · have := levN_out hh; omega
    have e := levN_in hin
    obtain ⟨N, rfl⟩ : ∃ N : Nat, n = N := ⟨n.toNat, by omega⟩
    obtain ⟨I, rfl⟩ : ∃ I : Nat, i = I := ⟨i.toNat, by omega⟩
    obtain rfl : L = 64 := by omega
    rw [Int.toNat_natCast] at e
    obtain rfl : len = dep N := by omega
    refine (rcheck_in N I (by omega) (by omega) C a x cap pa A Lp Cp P Lr Cr ra r w hLC hx hxl hP hrc hrm hrn hr hrl).mono ?_
    rintro e w' ⟨⟨b, rfl, hb⟩, hbw⟩
    refine ⟨⟨b, rfl, hb.trans ?_⟩, hbw⟩
    unfold Fits Shows
    simp only [Int.toNat_natCast, true_and]
    constructor
    · rintro ⟨f1, f2, f3, f4⟩
      exact ⟨by omega, by omega, by omega, f1, f2, f3, f4⟩
    · rintro ⟨_, _, _, f1, f2, f3, f4⟩
      exact ⟨f1, f2, f3, f4⟩
end Go.Proofs.YtoeanaadlihkeaaDoor
