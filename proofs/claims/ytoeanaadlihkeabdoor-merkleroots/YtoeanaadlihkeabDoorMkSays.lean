/- What the four functions of merkle, the program's and the document's, are to answer: as words about one function's number. -/
import Derived.Test.YtoeanaadlihkeabDoorMkMath
namespace Go.Proofs.YtoeanaadlihkeabDoor
open Go.RowKit

/-- A slice of byte slices that came in. -/
def Pieces (w : World) (a : Option Addr) (len : Nat) (A : Nat → Option Addr) (L C : Nat → Nat) (M : Nat → Nat → Nat) : Prop :=
  ∀ i, i < len → (∃ b off, a = some ⟨b, off, none⟩ ∧ b < w.heap.size ∧ w.cell? ⟨b, off + i, none⟩ = some (.slice (A i) (L i) (C i))) ∧ L i ≤ C i ∧ (A i = none → L i = 0 ∧ C i = 0) ∧ Bytes w (A i) (L i) (M i) ∧ ∀ j, M i j < 256

/-- A slice of whole numbers. -/
def Ints (w : World) (a : Option Addr) (len : Nat) (f : Nat → Nat) : Prop := len = 0 ∨ ∃ b off, a = some ⟨b, off, none⟩ ∧ b < w.heap.size ∧ ∀ j, j < len → w.cell? ⟨b, off + j, none⟩ = some (.int .i64 (f j : Nat))

theorem Ints.below {w w' : World} {a : Option Addr} {len B : Nat} {f : Nat → Nat} (h : Ints w a len f) (hb : Below B w w') (hB : w.heap.size ≤ B) : Ints w' a len f := by
  rcases h with h | ⟨b, off, rfl, hlt, hc⟩
  · exact .inl h
  · exact .inr ⟨b, off, rfl, Nat.lt_of_lt_of_le hlt (Nat.le_trans (Nat.le_refl _) hb.size), fun j hj => (hb.cell (p := ⟨b, off + j, none⟩) (by show b < B; omega)).trans (hc j hj)⟩

def i64ok (n : Int) : Prop := -9223372036854775808 ≤ n ∧ n ≤ 9223372036854775807

/-- How many levels there are of any number; none where it may not be. -/
def levN (n : Int) : Nat := if 1 ≤ n ∧ n ≤ 2048 then dep n.toNat else 0
def patN (n i : Int) : Nat := if 0 ≤ i ∧ i < n ∧ n ≤ 2048 then dep n.toNat else 0

theorem levN_in {n : Int} (h : 1 ≤ n ∧ n ≤ 2048) : levN n = dep n.toNat := if_pos h
theorem levN_out {n : Int} (h : ¬ (1 ≤ n ∧ n ≤ 2048)) : levN n = 0 := if_neg h
theorem patN_in {n i : Int} (h : 0 ≤ i ∧ i < n ∧ n ≤ 2048) : patN n i = dep n.toNat := if_pos h
theorem patN_out {n i : Int} (h : ¬ (0 ≤ i ∧ i < n ∧ n ≤ 2048)) : patN n i = 0 := if_neg h

theorem levN_11 (n : Int) : levN n ≤ 11 := by
  unfold levN
  split
  · exact dep_11 _ (by omega)
  · omega

theorem patN_11 (n i : Int) : patN n i ≤ 11 := by
  unfold patN
  split
  · exact dep_11 _ (by omega)
  · omega

/-- M1: Levels. -/
def LevelsOk (f : Nat) : Prop := ∀ (n : Int) (w : World), i64ok n → Calls Tryd.prog f #[.int .i64 n] w fun e w' =>
  ∃ a c, e = .returned (.slice a (levN n) c) ∧ levN n ≤ c ∧ (a = none → levN n = 0 ∧ c = 0) ∧ Ints w' a (levN n) (fun k => lv n.toNat (k + 1)) ∧ Below w.heap.size w w'

/-- M1: Path. -/
def PathOk (f : Nat) : Prop := ∀ (n i : Int) (w : World), i64ok n → i64ok i → Calls Tryd.prog f #[.int .i64 n, .int .i64 i] w fun e w' =>
  ∃ a c, e = .returned (.slice a (patN n i) c) ∧ patN n i ≤ c ∧ (a = none → patN n i = 0 ∧ c = 0) ∧ Ints w' a (patN n i) (fun k => off n.toNat k + pl i.toNat (k + 1)) ∧ Below w.heap.size w w'

/-- M2: Build, of data that may be. -/
def BuildOk (f : Nat) : Prop := ∀ (n : Nat) (d : Nat → Nat) (a : Option Addr) (c : Nat) (w : World), Glob Hc Kc w → 1 ≤ n → n ≤ 2048 → 64 * n ≤ c → Bytes w a (64 * n) d → (∀ j, d j < 256) →
  Calls Tryd.prog f #[.slice a (64 * n : Nat) c] w fun e w' => ∃ a' c', e = .returned (.tuple #[.slice a' (64 * off n (dep n) : Nat) c', .agg (cellsN .u8 32 (root d n)), .int .i64 0]) ∧
    64 * off n (dep n) ≤ c' ∧ (a' = none → 64 * off n (dep n) = 0 ∧ c' = 0) ∧ Bytes w' a' (64 * off n (dep n)) (tree d n (dep n)) ∧ Below w.heap.size w w'

/-- M2: Build, of data that may not be. -/
def BuildNo (f : Nat) : Prop := ∀ (L : Nat) (d : Nat → Nat) (a : Option Addr) (c : Nat) (w : World), Glob Hc Kc w → L ≤ c → Bytes w a L d → (∀ j, d j < 256) → L ≤ maxLen → ¬ (L % 64 = 0 ∧ 64 ≤ L ∧ L ≤ 131072) →
  Calls Tryd.prog f #[.slice a L c] w fun e w' => ∃ a' c', e = .returned (.tuple #[.slice a' 0 c', .agg (cellsN .u8 32 fun _ => 0), .int .i64 1]) ∧ (a' = none → c' = 0) ∧ Below w.heap.size w w'

/-- When a sector is shown. -/
def Shows (n i : Int) (L : Nat) (x : Nat → Nat) (len : Nat) (Lp : Nat → Nat) (P : Nat → Nat → Nat) (Lr : Nat) (r : Nat → Nat) : Prop :=
  0 ≤ i ∧ i < n ∧ n ≤ 2048 ∧ L = 64 ∧ len = dep n.toNat ∧ (∀ k, k < dep n.toNat → Lp k = 64) ∧ Stands i.toNat x P (dep n.toNat) ∧ Lr = 32 ∧ ∀ j, j < 32 → r j = up x P (dep n.toNat) j

/-- M3: Check. -/
def CheckOk (f : Nat) : Prop := ∀ (n i : Int) (L C : Nat) (a : Option Addr) (x : Nat → Nat) (len cap : Nat) (pa : Option Addr) (A : Nat → Option Addr) (Lp Cp : Nat → Nat) (P : Nat → Nat → Nat) (Lr Cr : Nat) (ra : Option Addr) (r : Nat → Nat) (w : World),
  Glob Hc Kc w → i64ok n → i64ok i → L ≤ C → L ≤ maxLen → (a = none → L = 0 ∧ C = 0) → Bytes w a L x → (∀ j, x j < 256) → len ≤ maxLen → Pieces w pa len A Lp Cp P →
  Lr ≤ Cr → Lr ≤ maxLen → (ra = none → Lr = 0 ∧ Cr = 0) → Bytes w ra Lr r → (∀ j, r j < 256) →
  Calls Tryd.prog f #[.int .i64 n, .int .i64 i, .slice a L C, .slice pa len cap, .slice ra Lr Cr] w fun e w' => (∃ b : Bool, e = .returned (.bool b) ∧ (b = true ↔ Shows n i L x len Lp P Lr r)) ∧ Below w.heap.size w w'

end Go.Proofs.YtoeanaadlihkeabDoor
