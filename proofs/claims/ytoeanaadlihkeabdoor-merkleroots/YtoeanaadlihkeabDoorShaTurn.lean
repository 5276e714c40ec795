/- Contracts of sha's words' turns: right, the closures that turns and turnsAndShift make. -/
import Derived.Test.YtoeanaadlihkeabDoorRows
import Derived.WalkKit
import Derived.ProofKit
import Derived.OpenShut
import Derived.Below
import Derived.WalkLawsBesides
import Derived.WalkSpells
import Derived.Laws.BitsAllLaws
import Derived.Deep.QuietTactic
import Derived.BigQuiet
namespace Go.Proofs.YtoeanaadlihkeabDoor
open Go.ChangeShapes Go.WideShapes Go.ChangeAt Go.RowKit

def rotr (n x : Nat) : Nat := (x * 2 ^ (32 - n)) % 4294967296 ||| (x / 2 ^ n)

theorem wrap_u32 (x : Nat) : IntKind.u32.wrap (x : Int) = ((x % 4294967296 : Nat) : Int) := by
  simp only [IntKind.wrap, IntKind.bits, IntKind.signed]
  simp
  try omega

theorem mask31 (n : Nat) (h1 : 1 ≤ n) (h2 : n ≤ 31) : bits .and .u64 (IntKind.u64.wrap (-(n : Int))) 31 = ((32 - n : Nat) : Int) := by
  have e : IntKind.u64.wrap (-(n : Int)) = ((18446744073709551616 - n : Nat) : Int) := by
    simp only [IntKind.wrap, IntKind.bits, IntKind.signed]
    simp
    omega
  rw [e]
  have := u64_and_nat (18446744073709551616 - n) 31 (by omega) (by omega)
  rw [show ((31 : Nat) : Int) = 31 from rfl] at this
  rw [this]
  congr 1
  rw [show (31 : Nat) = 2 ^ 5 - 1 from rfl, Nat.and_two_pow_sub_one_eq_mod]
  omega

theorem rotr_lt (n x : Nat) (h : x < 4294967296) : rotr n x < 4294967296 := by
  unfold rotr
  rw [show (4294967296 : Nat) = 2 ^ 32 from rfl] at *
  exact Nat.or_lt_two_pow (Nat.mod_lt _ (by decide)) (Nat.lt_of_le_of_lt (Nat.div_le_self _ _) h)

theorem right_any (x n : Nat) (w : World) (hx : x < 4294967296) (h1 : 1 ≤ n) (h2 : n ≤ 31) :
    Calls Tryd.prog 31 #[.int .u32 x, .int .i64 n] w fun e w' => e = .returned (.int .u32 (rotr n x : Nat)) ∧ w' = w := by
  have hm := mask31 n h1 h2
  obtain ⟨m, hmn⟩ : ∃ m, m = 32 - n := ⟨_, rfl⟩
  rw [← hmn] at hm
  have hm1 : m ≤ 31 := by omega
  have HD : Hid (m = 32 - n) := hmn
  clear hmn
  go_enter Tryd.func31, Tryd.ntmps31
  go_wp2
  go_ret
  refine ⟨?_, rfl⟩
  show Ending.returned (.int .u32 (bits .or .u32 ((x : Int) * 2 ^ m % 4294967296) ((x : Int) / 2 ^ (32 - m)))) = _
  have hmn := HD.out
  subst hmn
  have e1 : ((x : Int) * 2 ^ (32 - n) % 4294967296) = ((x * 2 ^ (32 - n) % 4294967296 : Nat) : Int) := by rw [Int.natCast_emod, Int.natCast_mul, Int.natCast_pow]; rfl
  have e2 : ((x : Int) / 2 ^ (32 - (32 - n))) = ((x / 2 ^ n : Nat) : Int) := by rw [show 32 - (32 - n) = n from by omega, Int.natCast_ediv, Int.natCast_pow]; rfl
  rw [e1, e2, u32_or_nat _ _ (Nat.mod_lt _ (by decide)) (Nat.lt_of_le_of_lt (Nat.div_le_self _ _) hx)]
  rfl

def turn3 (i j k x : Nat) : Nat := rotr i x ^^^ rotr j x ^^^ rotr k x
def turn2 (i j k x : Nat) : Nat := rotr i x ^^^ rotr j x ^^^ (x / 2 ^ k)

theorem xor_lt {a b : Nat} (ha : a < 4294967296) (hb : b < 4294967296) : a ^^^ b < 4294967296 := by
  rw [show (4294967296 : Nat) = 2 ^ 32 from rfl] at *
  exact Nat.xor_lt_two_pow ha hb

theorem turn3_lt {i j k x : Nat} (h : x < 4294967296) : turn3 i j k x < 4294967296 := xor_lt (xor_lt (rotr_lt _ _ h) (rotr_lt _ _ h)) (rotr_lt _ _ h)
theorem turn2_lt {i j k x : Nat} (h : x < 4294967296) : turn2 i j k x < 4294967296 := xor_lt (xor_lt (rotr_lt _ _ h) (rotr_lt _ _ h)) (Nat.lt_of_le_of_lt (Nat.div_le_self _ _) h)

theorem turns_any (x i j k a b c : Nat) (w : World) (hx : x < 4294967296) (hi : 1 ≤ i ∧ i ≤ 31) (hj : 1 ≤ j ∧ j ≤ 31) (hk : 1 ≤ k ∧ k ≤ 31)
    (ha : w.cell? ⟨a, 0, none⟩ = some (.int .i64 i)) (hb : w.cell? ⟨b, 0, none⟩ = some (.int .i64 j)) (hc : w.cell? ⟨c, 0, none⟩ = some (.int .i64 k)) :
    Calls Tryd.prog 30 #[.int .u32 x, .pointer (some ⟨a, 0, none⟩), .pointer (some ⟨b, 0, none⟩), .pointer (some ⟨c, 0, none⟩)] w fun e w' => e = .returned (.int .u32 (turn3 i j k x : Nat)) ∧ ∃ m, w' = w.drewN m := by
  have e1 := u32_xor_nat (rotr i x) (rotr j x) (rotr_lt _ _ hx) (rotr_lt _ _ hx)
  have e2 := u32_xor_nat (rotr i x ^^^ rotr j x) (rotr k x) (xor_lt (rotr_lt _ _ hx) (rotr_lt _ _ hx)) (rotr_lt _ _ hx)
  go_enter Tryd.func30, Tryd.ntmps30
  go_wp2_with fail
  go_quiet ((go_at_call 31; exact Calls.quiet_of_same (right_any _ _ _ hx (by omega) (by omega))))
  go_wp2
  go_ret
  exact ⟨rfl, nq, rfl⟩

theorem turnsShift_any (x i j k a b c : Nat) (w : World) (hx : x < 4294967296) (hi : 1 ≤ i ∧ i ≤ 31) (hj : 1 ≤ j ∧ j ≤ 31) (hk : 1 ≤ k ∧ k ≤ 31)
    (ha : w.cell? ⟨a, 0, none⟩ = some (.int .i64 i)) (hb : w.cell? ⟨b, 0, none⟩ = some (.int .i64 j)) (hc : w.cell? ⟨c, 0, none⟩ = some (.int .i64 k)) :
    Calls Tryd.prog 34 #[.int .u32 x, .pointer (some ⟨a, 0, none⟩), .pointer (some ⟨b, 0, none⟩), .pointer (some ⟨c, 0, none⟩)] w fun e w' => e = .returned (.int .u32 (turn2 i j k x : Nat)) ∧ ∃ m, w' = w.drewN m := by
  have e1 := u32_xor_nat (rotr i x) (rotr j x) (rotr_lt _ _ hx) (rotr_lt _ _ hx)
  have e2 := u32_xor_nat (rotr i x ^^^ rotr j x) (x / 2 ^ k) (xor_lt (rotr_lt _ _ hx) (rotr_lt _ _ hx)) (Nat.lt_of_le_of_lt (Nat.div_le_self _ _) hx)
  have e3 : (((x / 2 ^ k : Nat) : Int)) = (x : Int) / 2 ^ k := by rw [Int.natCast_ediv, Int.natCast_pow]; rfl
  rw [e3] at e2
  clear e3
  go_enter Tryd.func34, Tryd.ntmps34
  go_wp2_with fail
  go_quiet ((go_at_call 31; exact Calls.quiet_of_same (right_any _ _ _ hx (by omega) (by omega))))
  go_wp2
  go_ret
  exact ⟨rfl, nq, rfl⟩
end Go.Proofs.YtoeanaadlihkeabDoor
