/- The reference's turn and number. -/
import Derived.Test.YtoeanaadlihkeaaDoorShaEval
import Derived.Laws.Strings
namespace Go.Proofs.YtoeanaadlihkeaaDoor
open Go.ChangeShapes Go.WideShapes Go.ChangeAt Go.RowKit
set_option linter.unusedVariables false

theorem rturn_any (x n : Nat) (w : World) (hx : x < 4294967296) (h1 : 1 ≤ n) (h2 : n ≤ 31) :
    Calls Tryd.prog 41 #[.int .u32 x, .int .u32 n] w fun e w' => e = .returned (.int .u32 (rotr n x : Nat)) ∧ w' = w := by
  have hwr : IntKind.u32.wrap ((32 : Int) - (n : Int)) = ((32 - n : Nat) : Int) := by
    rw [show ((32 : Int) - (n : Int)) = ((32 - n : Nat) : Int) from by omega, wrap_u32]
    congr 1
    omega
  obtain ⟨m, hm⟩ : ∃ m, m = 32 - n := ⟨_, rfl⟩
  rw [← hm] at hwr
  have hm1 : m ≤ 31 := by omega
  have HD : Hid (m = 32 - n) := hm
  clear hm
  go_enter Tryd.func41, Tryd.ntmps41
  go_wp2
  go_ret
  refine ⟨?_, rfl⟩
  show Ending.returned (.int .u32 (bits .or .u32 ((x : Int) / 2 ^ n) ((x : Int) * 2 ^ m % 4294967296))) = _
  have hmn := HD.out
  subst hmn
  have e1 : ((x : Int) * 2 ^ (32 - n) % 4294967296) = ((x * 2 ^ (32 - n) % 4294967296 : Nat) : Int) := by rw [Int.natCast_emod, Int.natCast_mul, Int.natCast_pow]; rfl
  have e2 : ((x : Int) / 2 ^ n) = ((x / 2 ^ n : Nat) : Int) := by rw [Int.natCast_ediv, Int.natCast_pow]; rfl
  rw [e1, e2, u32_or_nat _ _ (Nat.lt_of_le_of_lt (Nat.div_le_self _ _) hx) (Nat.mod_lt _ (by decide)), Nat.or_comm]
  rfl

/-- A digit's value. -/
def dv (c : Nat) : Nat := if 97 ≤ c then c - 97 + 10 else c - 48
/-- The first t of the eight digits from place 8 i on. -/
def nv (c : Nat → Nat) (i : Nat) : Nat → Nat
  | 0 => 0
  | t + 1 => (16 * nv c i t + dv (c (8 * i + t))) % 4294967296

/-- A string of digits. -/
def Digits (s : ByteArray) (c : Nat → Nat) (n : Nat) : Prop := s.size = n ∧ ∀ k, k < n → s[k]? = some (UInt8.ofNat (c k)) ∧ 48 ≤ c k ∧ c k ≤ 102

set_option maxRecDepth 100000 in
theorem rnum_any (s : ByteArray) (c : Nat → Nat) (n i : Nat) (w : World) (hs : Digits s c n) (hn : n ≤ 1000) (hi : 8 * i + 8 ≤ n) :
    Calls Tryd.prog 38 #[.string s, .int .i64 i] w fun e w' => e = .returned (.int .u32 (nv c i 8 : Nat)) ∧ w' = w := by
  go_enter Tryd.func38, Tryd.ntmps38
  go_wp2
  go_loopw [5, 6] (fun x k wr => ∃ t : Nat, t ≤ 8 ∧ k = .int .i64 ((8 * i + t : Nat) : Int) ∧ x = .int .u32 (nv c i t : Nat) ∧ wr = w)
    (fun _ k _ => 8 * i + 8 - (intOf k).toNat)
  case atStart => exact ⟨0, Nat.zero_le _, by go_num, rfl, rfl⟩
  case round =>
    obtain ⟨t, ht, rfl, rfl, rfl⟩ := hrel
    by_cases hlt : t < 8
    · obtain ⟨hb, hl, hu⟩ := hs.2 (8 * i + t) (by omega)
      obtain ⟨k, hk⟩ : ∃ k, k = 8 * i + t := ⟨_, rfl⟩
      obtain ⟨x, hx⟩ : ∃ x, x = nv c i t := ⟨_, rfl⟩
      obtain ⟨d, hd⟩ : ∃ d, d = c (8 * i + t) := ⟨_, rfl⟩
      have hxb : x < 4294967296 := by
        rw [hx]
        cases t with
        | zero => show 0 < 4294967296; decide
        | succ t => exact Nat.mod_lt _ (by decide)
      have hnx : nv c i (t + 1) = (16 * x + dv d) % 4294967296 := by rw [hx, hd]; rfl
      have hsz : s.size = n := hs.1
      rw [← hd] at hl hu hb
      rw [← hk] at hb ⊢
      rw [← hx]
      have hget : ∀ h : k < s.size, (s[k]'h).toNat = d := fun h => by
        rw [ByteArray.getElem?_lt' s _ h] at hb
        rw [Option.some.inj hb]
        simp
        omega
      have hks : k < s.size := by omega
      have hks' : (k : Int) < (s.size : Int) := by omega
      have i0 : (k : Int) < 8 * (i : Int) + 8 := by omega
      have HN : Hid (nv c i (t + 1) = (16 * x + dv d) % 4294967296) := hnx
      have HK : Hid (k = 8 * i + t) := hk
      clear hk hx hd hnx hb hs hsz
      by_cases h97 : 97 ≤ d
      · have e97 : (97 : Int) ≤ (d : Int) := by omega
        go_wp2
        go_roundw
        case rel =>
          refine ⟨t + 1, by omega, ?_, ?_, trivial⟩
          · rw [HK.out]; go_num
          · rw [HN.out]
            unfold dv
            rw [if_pos h97]
            congr 1
            omega
        case measure => simp [intOf]; have := HK.out; omega
      · have e97 : (d : Int) < 97 := by omega
        go_wp2
        go_roundw
        case rel =>
          refine ⟨t + 1, by omega, ?_, ?_, trivial⟩
          · rw [HK.out]; go_num
          · rw [HN.out]
            unfold dv
            rw [if_neg h97]
            congr 1
            omega
        case measure => simp [intOf]; have := HK.out; omega
    · obtain rfl : t = 8 := by omega
      go_wp2
      go_ret
      exact ⟨rfl, rfl⟩
end Go.Proofs.YtoeanaadlihkeaaDoor
