/- Fields of a sector: hasField, Within; bytes.Clone. -/
import Derived.Test.YtbiicdehgogikaaCdMath
namespace Go.Proofs.Ytbiicdehgogikaa
open Go.ChangeShapes Go.WideShapes Go.ChangeAt Go.RowKit
set_option linter.unusedVariables false

/-- Whether a sector has an i-th field of s bytes. -/
def inF (L : Nat) (i s : Int) : Prop := L = 64 ∧ 1 ≤ s ∧ s ≤ 64 ∧ 0 ≤ i ∧ (i + 1) * s ≤ 64

theorem inF_div (i s : Int) (h1 : 1 ≤ s) (h2 : s ≤ 64) (h3 : 0 ≤ i) : (i + 1) * s ≤ 64 ↔ i < Int.tdiv 64 s := by
  rw [Int.tdiv_eq_ediv_of_nonneg (by decide), ← Int.add_one_le_iff]
  exact (Int.le_ediv_iff_mul_le (by omega)).symm

theorem mul_bd (i s : Int) (h1 : 1 ≤ s) (h3 : 0 ≤ i) (h : (i + 1) * s ≤ 64) : i ≤ 63 := by
  have h2 : (i + 1) * 1 ≤ (i + 1) * s := Int.mul_le_mul_of_nonneg_left h1 (by omega)
  omega

theorem tdiv_bd (s : Int) (h1 : 1 ≤ s) (h2 : s ≤ 64) : 1 ≤ Int.tdiv 64 s ∧ Int.tdiv 64 s ≤ 64 := by
  rw [Int.tdiv_eq_ediv_of_nonneg (by decide)]
  refine ⟨(Int.le_ediv_iff_mul_le (by omega)).2 (by omega), Int.ediv_le_self _ (by decide)⟩

theorem hasF_yes (i s : Int) (a : Option Addr) (C : Nat) (w : World) (h : inF 64 i s) :
    Calls Try.prog 31 #[.slice a 64 C, .int .i64 i, .int .i64 s] w fun e w' => e = .returned (.bool true) ∧ w' = w := by
  obtain ⟨_, h1, h2, h3, h4⟩ := h
  have h5 := (inF_div i s h1 h2 h3).1 h4
  have h6 := tdiv_bd s h1 h2
  have h7 : ¬ s = 0 := by omega
  clear h4
  generalize hq : Int.tdiv 64 s = Q at h5 h6
  go_enter Try.func31, Try.ntmps31
  go_wp2
  go_ret
  exact ⟨rfl, rfl⟩

theorem hasF_no (L : Nat) (i s : Int) (a : Option Addr) (C : Nat) (w : World) (hm : L ≤ maxLen) (hi : i64ok i) (hs : i64ok s) (h : ¬ inF L i s) :
    Calls Try.prog 31 #[.slice a L C, .int .i64 i, .int .i64 s] w fun e w' => e = .returned (.bool false) ∧ w' = w := by
  unfold maxLen at hm
  unfold i64ok at hi hs
  by_cases hL : L = 64
  · subst hL
    by_cases h1 : 1 ≤ s
    · by_cases h2 : s ≤ 64
      · by_cases h3 : 0 ≤ i
        · have h4 : ¬ (i + 1) * s ≤ 64 := fun e => h ⟨rfl, h1, h2, h3, e⟩
          have h5 : ¬ i < Int.tdiv 64 s := fun e => h4 ((inF_div i s h1 h2 h3).2 e)
          have h6 := tdiv_bd s h1 h2
          have h7 : ¬ s = 0 := by omega
          clear h4 h
          generalize hq : Int.tdiv 64 s = Q at h5 h6
          go_enter Try.func31, Try.ntmps31
          go_wp2
          go_ret
          exact ⟨rfl, rfl⟩
        · clear h
          go_enter Try.func31, Try.ntmps31
          go_wp2
          go_ret
          exact ⟨rfl, rfl⟩
      · clear h
        go_enter Try.func31, Try.ntmps31
        go_wp2
        go_ret
        exact ⟨rfl, rfl⟩
    · clear h
      go_enter Try.func31, Try.ntmps31
      go_wp2
      go_ret
      exact ⟨rfl, rfl⟩
  · have hL' : ¬ (L : Int) = 64 := by omega
    clear h hL
    go_enter Try.func31, Try.ntmps31
    go_wp2
    go_ret
    exact ⟨rfl, rfl⟩

theorem within_yes (i s : Int) (a : Option Addr) (C : Nat) (w : World) (h : inF 64 i s) :
    Calls Try.prog 33 #[.slice a 64 C, .int .i64 i, .int .i64 s] w fun e w' => e = .returned (.bool true) ∧ w' = w := by
  obtain ⟨_, h1, h2, h3, h4⟩ := h
  have h5 := mul_bd i s h1 h3 h4
  have h6 : 0 ≤ (i + 1) * s := Int.mul_nonneg (by omega) (by omega)
  generalize hq : (i + 1) * s = Q at h4 h6
  go_enter Try.func33, Try.ntmps33
  go_wp2
  go_ret
  exact ⟨rfl, rfl⟩

theorem within_no (L : Nat) (i s : Int) (a : Option Addr) (C : Nat) (w : World) (hm : L ≤ maxLen) (hi : i64ok i) (hs : i64ok s) (h : ¬ inF L i s) :
    Calls Try.prog 33 #[.slice a L C, .int .i64 i, .int .i64 s] w fun e w' => e = .returned (.bool false) ∧ w' = w := by
  unfold maxLen at hm
  unfold i64ok at hi hs
  by_cases hL : L = 64
  · subst hL
    by_cases h1 : 1 ≤ s
    · by_cases h2 : s ≤ 64
      · by_cases h3 : 0 ≤ i
        · have h4 : ¬ (i + 1) * s ≤ 64 := fun e => h ⟨rfl, h1, h2, h3, e⟩
          clear h
          by_cases h5 : i < 64
          · have h6 : (i + 1) * s ≤ 64 * 64 := Int.mul_le_mul (by omega) (by omega) (by omega) (by omega)
            have h7 : 0 ≤ (i + 1) * s := Int.mul_nonneg (by omega) (by omega)
            generalize hq : (i + 1) * s = Q at h4 h6 h7
            go_enter Try.func33, Try.ntmps33
            go_wp2
            go_ret
            exact ⟨rfl, rfl⟩
          · clear h4
            go_enter Try.func33, Try.ntmps33
            go_wp2
            go_ret
            exact ⟨rfl, rfl⟩
        · clear h
          go_enter Try.func33, Try.ntmps33
          go_wp2
          go_ret
          exact ⟨rfl, rfl⟩
      · clear h
        go_enter Try.func33, Try.ntmps33
        go_wp2
        go_ret
        exact ⟨rfl, rfl⟩
    · clear h
      go_enter Try.func33, Try.ntmps33
      go_wp2
      go_ret
      exact ⟨rfl, rfl⟩
  · have hL' : ¬ (L : Int) = 64 := by omega
    clear h hL
    go_enter Try.func33, Try.ntmps33
    go_wp2
    go_ret
    exact ⟨rfl, rfl⟩
end Go.Proofs.Ytbiicdehgogikaa
