/- A group's bytes. -/
import Derived.Test.YtbiicdehgogikaaCdIn
namespace Go.Proofs.Ytbiicdehgogikaa
open Go.ChangeShapes Go.WideShapes Go.ChangeAt Go.RowKit
set_option linter.unusedVariables false

def okW (v : WV) : Prop := (0 ≤ v.dev ∧ v.dev < 8) ∧ (0 ≤ v.sec ∧ v.sec < 2048) ∧ v.L = 64
def okG (n : Nat) (V : Nat → WV) : Prop := n ≤ 100 ∧ ∀ i, i < n → okW (V i)

/-- The j-th byte of n writes' group. -/
def gb (n : Nat) (V : Nat → WV) (j : Nat) : Nat :=
  if j < 2 then nbs n 2 j else if (j - 2) % 69 < 1 then nbs (V ((j - 2) / 69)).dev 1 0 else if (j - 2) % 69 < 5 then nbs (V ((j - 2) / 69)).sec 4 ((j - 2) % 69 - 1) else (V ((j - 2) / 69)).b ((j - 2) % 69 - 5)

theorem gb_cnt (n : Nat) (V : Nat → WV) (j : Nat) (hj : j < 2) : nbs n 2 j = gb n V j := by
  unfold gb
  rw [if_pos hj]

theorem gb_dev (n : Nat) (V : Nat → WV) (k j : Nat) (hj : j < 1) : nbs (V k).dev 1 j = gb n V (2 + 69 * k + j) := by
  obtain rfl : j = 0 := by omega
  unfold gb
  rw [if_neg (by omega), show (2 + 69 * k + 0 - 2) % 69 = 0 by omega, if_pos (by decide), show (2 + 69 * k + 0 - 2) / 69 = k by omega]

theorem gb_sec (n : Nat) (V : Nat → WV) (k j : Nat) (hj : j < 4) : nbs (V k).sec 4 j = gb n V (2 + 69 * k + 1 + j) := by
  unfold gb
  rw [if_neg (by omega), show (2 + 69 * k + 1 + j - 2) % 69 = 1 + j by omega, if_neg (by omega), if_pos (by omega), show (2 + 69 * k + 1 + j - 2) / 69 = k by omega, show 1 + j - 1 = j by omega]

theorem gb_dat (n : Nat) (V : Nat → WV) (k j : Nat) (hj : j < 64) : (V k).b j = gb n V (2 + 69 * k + 1 + 4 + j) := by
  unfold gb
  rw [if_neg (by omega), show (2 + 69 * k + 1 + 4 + j - 2) % 69 = 5 + j by omega, if_neg (by omega), if_neg (by omega), show (2 + 69 * k + 1 + 4 + j - 2) / 69 = k by omega, show 5 + j - 5 = j by omega]

theorem gb_lt (n : Nat) (V : Nat → WV) (hb : ∀ k j, (V k).b j < 256) (j : Nat) : gb n V j < 256 := by
  unfold gb
  split
  · exact nbs_lt _ _ _
  · split
    · exact nbs_lt _ _ _
    · split
      · exact nbs_lt _ _ _
      · exact hb _ _

theorem bl_ext (f g : Nat → Nat) (n l : Nat) (h : ∀ j, j < l → g j = f (n + j)) : bl (cat f n g) (n + l) = bl f (n + l) := by
  unfold bl
  apply List.map_congr_left
  intro j hj
  have hj' : j < n + l := by simpa using hj
  unfold cat
  by_cases hn : j < n
  · rw [if_pos hn]
  · rw [if_neg hn, h (j - n) (by omega), show n + (j - n) = j by omega]

theorem bl_congr (f g : Nat → Nat) (n : Nat) (h : ∀ j, j < n → f j = g j) : bl f n = bl g n := by
  unfold bl
  apply List.map_congr_left
  intro j hj
  rw [h j (by simpa using hj)]

theorem hold_1 (n : Nat) (h : n < 256) : hold (n : Int) ((1 : Nat) : Int) = true := by
  unfold hold
  have : (n : Int) / 2 ^ (8 * ((1 : Nat) : Int)).toNat = 0 := Int.ediv_eq_zero_of_lt (by omega) (by show (n : Int) < 256; omega)
  rw [this]
  rfl

theorem hold_2 (n : Nat) (h : n < 65536) : hold (n : Int) ((2 : Nat) : Int) = true := by
  unfold hold
  have : (n : Int) / 2 ^ (8 * ((2 : Nat) : Int)).toNat = 0 := Int.ediv_eq_zero_of_lt (by omega) (by show (n : Int) < 65536; omega)
  rw [this]
  rfl

theorem hold_4 (n : Nat) (h : n < 4294967296) : hold (n : Int) ((4 : Nat) : Int) = true := by
  unfold hold
  have : (n : Int) / 2 ^ (8 * ((4 : Nat) : Int)).toNat = 0 := Int.ediv_eq_zero_of_lt (by omega) (by show (n : Int) < 4294967296; omega)
  rw [this]
  rfl

theorem own_mono {w : World} {b b' e s n : Nat} {v : Value} {xs : List Value} (h : w.ownsRow b e s v n xs) (hb : b' ≤ b) : w.ownsRow b' e s v n xs := by
  refine ⟨h.1, ?_⟩
  rcases h.2 with h0 | ⟨g, cap, cur, hv, h1, r⟩
  · exact .inl h0
  · exact .inr ⟨g, cap, cur, hv, Nat.le_trans hb h1, r⟩

/-- What an append to a row of the call's own leaves alone. -/
theorem kept_g {w w' : World} {g t : Nat} {cs : Array Value} {r : Option Nat} (h : Has w g t cs) (hg : w.grownBy w' r) (hne : r ≠ some g) : Has w' g t cs := (hg.block g h.lt (fun e => hne e.symm)).trans h

theorem row_ne {w : World} {b e s n g t : Nat} {v : Value} {xs : List Value} {cs : Array Value} (h : w.ownsRow b e s v n xs) (hv : v.ownBlock = some g) (hg : Has w g t cs) (hne : e ≠ t) : False := by
  rcases h.2 with ⟨rfl, _⟩ | ⟨g', cap, cur, rfl, _, hb, _⟩
  · cases hv
  · have : g' = g := by simpa [Value.ownBlock] using hv
    subst this
    have h2 : w.heap[g']? = some (.cells cs t (0, 0)) := hg
    rw [hb] at h2
    injection h2 with h3
    injection h3 with _ h4 _
    exact hne h4

theorem below_g {a w w' : World} {r : Option Nat} (h : Below a.heap.size a w) (hg : w.grownBy w' r) (hr : ∀ g, r = some g → a.heap.size ≤ g) : Below a.heap.size a w' :=
  h.trans ⟨hg.os, hg.tape, hg.output, hg.size, fun k hk => hg.block k (Nat.lt_of_lt_of_le hk h.size) (fun e => by have := hr k e.symm; omega)⟩
end Go.Proofs.Ytbiicdehgogikaa
