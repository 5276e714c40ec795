/- The walk of CodecNumbers. -/
import Derived.Test.YtbiicdehgogikaaCdBoth
import Derived.Test.YtbiicdehgogikaaCdLawA
namespace Go.Proofs.Ytbiicdehgogikaa
open Go.ChangeShapes Go.WideShapes Go.ChangeAt Go.RowKit
set_option linter.unusedVariables false

theorem nbs4 (n j : Nat) : nbs (n : Int) 4 j = n / 2 ^ (8 * (4 - 1 - j)) % 256 := by
  unfold nbs byteAt
  have : ((n : Int) / 2 ^ (8 * (4 - 1 - j)) % 256) = ((n / 2 ^ (8 * (4 - 1 - j)) % 256 : Nat) : Int) := by simp
  rw [this]
  omega

/-- Four bytes of a number stand for it. -/
theorem vn_nbs4 (n : Nat) (h : n < 4294967296) : vn (nbs (n : Int) 4) 4 = n := by
  simp only [vn, nbs4]
  omega

theorem inF_num (i : Nat) (h : i < 16) : inF 64 (i : Int) ((4 : Nat) : Int) := ⟨rfl, by omega, by omega, by omega, by omega⟩

/-- What is told of the k-th number. -/
def numX (f : Nat → Nat) (k : Nat) : Int := if vn (fld f k 4) 4 < 2147483648 then (vn (fld f k 4) 4 : Nat) else 0
def numE (f : Nat → Nat) (k : Nat) : Int := if vn (fld f k 4) 4 < 2147483648 then 0 else 81

theorem num_at {w : World} {a : Option Addr} {C : Nat} {f : Nat → Nat} (k : Nat) (hk : k < 16) (hb : Bytes w a 64 f) (hC : 64 ≤ C) (hf : ∀ j, f j < 256) : TellsN 20 #[.slice a 64 C, .int .i64 (k : Nat)] w (numX f k) (numE f k) := by
  unfold numX numE
  by_cases hv : vn (fld f k 4) 4 < 2147483648
  · rw [if_pos hv, if_pos hv]
    exact tellsN_swap (num_yes k hb hC hf (inF_num k hk) hv)
  · rw [if_neg hv, if_neg hv]
    exact tellsN_swap (num_big k hb hC hf (inF_num k hk) (Nat.le_of_not_lt hv))

theorem num_set (f : Nat → Nat) (i k n : Nat) (hn : n < 2147483648) : numX (sfld f i 4 (nbs n 4)) k = (if k = i then (n : Int) else numX f k) ∧ numE (sfld f i 4 (nbs n 4)) k = (if k = i then 0 else numE f k) := by
  have h : vn (fld (sfld f i 4 (nbs n 4)) k 4) 4 = if k = i then n else vn (fld f k 4) 4 := by
    by_cases hk : k = i
    · rw [if_pos hk, ← vn_nbs4 n (by omega)]
      apply vn_congr
      intro j hj
      rw [fld_sfld f _ k i 4 (by decide) j hj, if_pos hk, vn_nbs4 n (by omega)]
    · rw [if_neg hk]
      apply vn_congr
      intro j hj
      rw [fld_sfld f _ k i 4 (by decide) j hj, if_neg hk]
  unfold numX numE
  rw [h]
  by_cases hk : k = i
  · rw [if_pos hk, if_pos hk, if_pos hn, if_pos hn, if_pos hk]
    exact ⟨rfl, rfl⟩
  · rw [if_neg hk, if_neg hk, if_neg hk]
    exact ⟨rfl, rfl⟩

/-- An int as the law makes it: below so many, from 0 on. -/
def cutN (n : Int) (m : Nat) : Nat := (if n < 0 then -(n + 1) else n).toNat % m
end Go.Proofs.Ytbiicdehgogikaa
