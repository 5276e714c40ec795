/- Small facts of trees and of bytes that lie in memory. -/
import Derived.Test.YtoeanaadlihkeabDoorMkSays
import Derived.Test.YtoeanaadlihkeabDoorShaEq
namespace Go.Proofs.YtoeanaadlihkeabDoor
open Go.ChangeShapes Go.WideShapes Go.ChangeAt Go.RowKit
set_option linter.unusedVariables false

theorem Hc_lt6 : ∀ j, j < 8 → Hc j < 4294967296 := by
  intro j hj
  rcases (show j = 0 ∨ j = 1 ∨ j = 2 ∨ j = 3 ∨ j = 4 ∨ j = 5 ∨ j = 6 ∨ j = 7 from by omega) with rfl | rfl | rfl | rfl | rfl | rfl | rfl | rfl <;> decide

theorem lv_step (N k : Nat) : lv N (k + 1) = (lv N k + 1) / 2 := rfl

theorem off_step (N k : Nat) : off N (k + 1) = off N k + lv N (k + 1) := rfl

theorem pl_step (I k : Nat) : pl I (k + 1) = pl I k / 2 := rfl

theorem pl_le (I k : Nat) : pl I k ≤ I := by
  induction k with
  | zero => exact Nat.le_refl _
  | succ k ih => rw [pl_step]; omega

theorem off_max (N k : Nat) (h1 : 1 ≤ N) (h2 : N ≤ 2048) (hk : k ≤ 11) : off N k ≤ 22528 := by
  have h := off_le N k h1
  have : k * N ≤ 11 * 2048 := Nat.mul_le_mul hk h2
  omega

theorem kd_zero : kd 0 = 0 := rfl

theorem kd_succ (k : Nat) : kd (k + 1) = 1 := rfl

theorem kd_lt (k : Nat) : kd k < 256 := by unfold kd; split <;> decide

theorem hsh_lt (k : Nat) (f : Nat → Nat) (j : Nat) : hsh k f j < 256 := SHA_lt _ _ _ _ _

theorem lvl_lt (d : Nat → Nat) (n : Nat) (hd : ∀ j, d j < 256) : ∀ k j, lvl d n k j < 256 := by
  intro k
  cases k with
  | zero => exact hd
  | succ k =>
    intro j
    show (if j / 32 < lv n k then _ else 0) < 256
    split
    · exact hsh_lt _ _ _
    · decide

theorem lvl_hash (d : Nat → Nat) (n k q j : Nat) (hq : q < lv n k) (hj : j < 32) : lvl d n (k + 1) (32 * q + j) = hsh (kd k) (sec (lvl d n k) q) j := by
  have e1 : (32 * q + j) / 32 = q := by omega
  have e2 : (32 * q + j) % 32 = j := by omega
  show (if (32 * q + j) / 32 < lv n k then hsh (if k = 0 then 0 else 1) (sec (lvl d n k) ((32 * q + j) / 32)) ((32 * q + j) % 32) else 0) = _
  rw [e1, e2, if_pos hq]
  rfl

theorem lvl_rest (d : Nat → Nat) (n k j : Nat) (hj : 32 * lv n k ≤ j) : lvl d n (k + 1) j = 0 := by
  show (if j / 32 < lv n k then _ else 0) = 0
  rw [if_neg (by omega)]

/-- The next hash of a level is appended. -/
theorem lvl_more (d : Nat → Nat) (n k q : Nat) (hq : q < lv n k) : bl (cat (lvl d n (k + 1)) (32 * q) (hsh (kd k) (sec (lvl d n k) q))) (32 * q + 32) = bl (lvl d n (k + 1)) (32 * q + 32) := by
  unfold bl
  apply List.map_congr_left
  intro j hj
  have hj' : j < 32 * q + 32 := by simpa using hj
  unfold cat
  by_cases h : j < 32 * q
  · rw [if_pos h]
  · rw [if_neg h, ← lvl_hash d n k q (j - 32 * q) hq (by omega), show 32 * q + (j - 32 * q) = j from by omega]

/-- A level that has an odd number of hashes is filled up. -/
theorem lvl_fill (d : Nat → Nat) (n k : Nat) : bl (cat (lvl d n (k + 1)) (32 * lv n k) (fun _ => 0)) (32 * lv n k + 32) = bl (lvl d n (k + 1)) (32 * lv n k + 32) := by
  unfold bl
  apply List.map_congr_left
  intro j hj
  unfold cat
  by_cases h : j < 32 * lv n k
  · rw [if_pos h]
  · rw [if_neg h, lvl_rest d n k j (by omega)]

theorem Has.bytes {w : World} {g t n : Nat} {f : Nat → Nat} (h : Has w g t (cellsN .u8 n f)) : Bytes w (some ⟨g, 0, none⟩) n f :=
  .inr ⟨g, 0, rfl, h.lt, fun j hj => by rw [Nat.zero_add]; exact h.num j hj⟩

theorem Bytes.setRow {w : World} {a : Option Addr} {len : Nat} {m : Nat → Nat} (h : Bytes w a len m) (g : Nat) (cs : Array Value) (hne : ∀ b o, a = some ⟨b, o, none⟩ → b ≠ g) : Bytes (w.setRow g cs) a len m := by
  rcases h with h | ⟨b, o, rfl, hlt, hc⟩
  · exact .inl h
  · have hb := setRow_other w g b cs (hne b o rfl)
    have hlt' : b < (w.setRow g cs).heap.size := (Array.getElem?_eq_some_iff.1 (hb.trans (Array.getElem?_eq_getElem hlt))).1
    exact .inr ⟨b, o, rfl, hlt', fun j hj => by rw [← hc j hj]; simp only [World.cell?, hb]⟩

theorem off_mono (n a b : Nat) (hab : a ≤ b) : off n a ≤ off n b := by
  induction hab with
  | refl => exact Nat.le_refl _
  | step _ ih => exact Nat.le_trans ih (Nat.le_add_right _ _)

theorem off_lt (n k : Nat) (h1 : 1 ≤ n) (hk : k < dep n) : off n k < off n (k + 1) ∧ off n (k + 1) ≤ off n (dep n) := by
  have := lv_pos n (k + 1) h1
  exact ⟨by rw [off_step]; omega, off_mono n _ _ hk⟩

theorem up_lt (x : Nat → Nat) (P : Nat → Nat → Nat) (k j : Nat) : up x P k j < 256 := by
  cases k with
  | zero => exact hsh_lt _ _ _
  | succ k => exact hsh_lt _ _ _

theorem stands_more {i k : Nat} {x : Nat → Nat} {P : Nat → Nat → Nat} (h : Stands i x P k) (h' : ∀ j, j < 32 → P k (32 * (pl i k % 2) + j) = up x P k j) : Stands i x P (k + 1) := by
  intro q hq j hj
  by_cases h0 : q = k
  · subst h0; exact h' j hj
  · exact h q (by omega) j hj

theorem stands_less {i k m : Nat} {x : Nat → Nat} {P : Nat → Nat → Nat} (h : Stands i x P m) (hk : k ≤ m) : Stands i x P k := fun q hq => h q (by omega)

theorem Pieces.below {w w' : World} {a : Option Addr} {len : Nat} {A : Nat → Option Addr} {L C : Nat → Nat} {M : Nat → Nat → Nat} (h : Pieces w a len A L C M) (hb : Below w.heap.size w w') : Pieces w' a len A L C M := by
  intro i hi
  obtain ⟨⟨b, o, rfl, hlt, hc⟩, h2, h3, h4, h5⟩ := h i hi
  exact ⟨⟨b, o, rfl, Nat.lt_of_lt_of_le hlt hb.size, (hb.cell (p := ⟨b, o + i, none⟩) hlt).trans hc⟩, h2, h3, h4.below hb (Nat.le_refl _), h5⟩
end Go.Proofs.YtoeanaadlihkeabDoor
