/- Plain facts on bytes and numbers: bytes stand in order as the numbers do, and numbers go there and back. -/
import Derived.Test.YtcgoepbmbeimmaaAlive
namespace Go.Proofs.Ytcgoepbmbeimmaa
open Go.RowKit

def lv : List UInt8 → Nat
  | [] => 0
  | c :: l => c.toNat * 256 ^ l.length + lv l

theorem lv_lt : ∀ l : List UInt8, lv l < 256 ^ l.length
  | [] => by simp [lv]
  | c :: l => by
    have h := lv_lt l
    have hc : c.toNat < 256 := c.toNat_lt
    simp only [lv, List.length_cons, Nat.pow_succ]
    have : c.toNat * 256 ^ l.length + 256 ^ l.length ≤ 256 ^ l.length * 256 := by
      rw [← Nat.succ_mul, Nat.mul_comm]
      exact Nat.mul_le_mul_left _ hc
    omega

theorem lv_less : ∀ l m : List UInt8, l.length = m.length → Op.bytesLess l m = decide (lv l < lv m)
  | [], [], _ => by simp [Op.bytesLess, lv]
  | [], _ :: _, h => by simp at h
  | _ :: _, [], h => by simp at h
  | c :: l, d :: m, h => by
    have h : l.length = m.length := by simpa using h
    have ih := lv_less l m h
    have h1 := lv_lt l
    have h2 := lv_lt m
    rw [← h] at h2
    simp only [Op.bytesLess, lv, ← h, ih]
    rw [Bool.eq_iff_iff]
    simp only [Bool.or_eq_true, Bool.and_eq_true, decide_eq_true_eq, beq_iff_eq, UInt8.lt_iff_toNat_lt]
    generalize 256 ^ l.length = P at *
    constructor
    · rintro (g | ⟨rfl, g⟩)
      · have : (c.toNat + 1) * P ≤ d.toNat * P := Nat.mul_le_mul_right _ g
        rw [Nat.succ_mul] at this
        omega
      · omega
    · intro g
      by_cases e : c.toNat < d.toNat
      · exact .inl e
      · right
        by_cases e' : d.toNat < c.toNat
        · have : (d.toNat + 1) * P ≤ c.toNat * P := Nat.mul_le_mul_right _ e'
          rw [Nat.succ_mul] at this
          omega
        · have e2 : c.toNat = d.toNat := by omega
          rw [e2] at g
          exact ⟨UInt8.toNat_inj.1 e2, by omega⟩

theorem byteList_succ (n : Int) (s : Nat) : byteList (byteAt n (s + 1)) (s + 1) = UInt8.ofNat (n / 2 ^ (8 * s) % 256).toNat :: byteList (byteAt n s) s := by
  unfold byteList
  rw [List.range_succ_eq_map, List.map_cons, List.map_map]
  congr 1
  apply List.map_congr_left
  intro j hj
  simp only [Function.comp, byteAt]
  rw [show s + 1 - 1 - j.succ = s - 1 - j from by omega]

theorem lv_bytes (n : Int) (h : 0 ≤ n) : ∀ s : Nat, (lv (byteList (byteAt n s) s) : Int) = n % 2 ^ (8 * s)
  | 0 => by simp [byteList, lv]
  | s + 1 => by
    rw [byteList_succ]
    simp only [lv]
    have hl : (byteList (byteAt n s) s).length = s := by simp [byteList]
    have ih := lv_bytes n h s
    rw [hl]
    have hb : (UInt8.ofNat (n / 2 ^ (8 * s) % 256).toNat).toNat = (n / 2 ^ (8 * s) % 256).toNat := by simp; omega
    rw [hb, Int.natCast_add, ih, Int.natCast_mul, Int.toNat_of_nonneg (by omega), Int.natCast_pow]
    have e1 : ((256 : Nat) : Int) ^ s = 2 ^ (8 * s) := by rw [Int.pow_mul]; rfl
    rw [e1, show 8 * (s + 1) = 8 * s + 8 from rfl, Int.pow_add]
    have hP : (0 : Int) < 2 ^ (8 * s) := Int.pow_pos (by decide)
    generalize (2 : Int) ^ (8 * s) = P at *
    rw [show (2 : Int) ^ 8 = 256 from rfl]
    have d1 := Int.emod_def n (P * 256)
    have d2 : n / (P * 256) = n / P / 256 := (Int.ediv_ediv_of_nonneg (Int.le_of_lt hP)).symm
    have d3 := Int.emod_def n P
    have d4 := Int.emod_def (n / P) 256
    rw [d1, d2, d3, d4, Int.sub_mul, Int.mul_assoc P 256, Int.mul_comm (n / P) P, Int.mul_comm (256 * (n / P / 256)) P]
    omega

theorem less8 (a b : Int) (ha : 0 ≤ a ∧ a ≤ 18446744073709551615) (hb : 0 ≤ b ∧ b ≤ 18446744073709551615) :
    Op.bytesLess (byteList (byteAt a 8) 8) (byteList (byteAt b 8) 8) = decide (a < b) := by
  have h1 := lv_bytes a ha.1 8
  have h2 := lv_bytes b hb.1 8
  rw [lv_less _ _ (by simp [byteList])]
  have e : (2 : Int) ^ (8 * 8) = 18446744073709551616 := rfl
  rw [e] at h1 h2
  rw [Bool.eq_iff_iff]
  simp only [decide_eq_true_eq]
  omega

theorem same8 (a b : Int) (ha : 0 ≤ a ∧ a ≤ 18446744073709551615) (hb : 0 ≤ b ∧ b ≤ 18446744073709551615) :
    (byteList (byteAt a 8) 8 == byteList (byteAt b 8) 8) = (a == b) := by
  have h1 := lv_bytes a ha.1 8
  have h2 := lv_bytes b hb.1 8
  have e : (2 : Int) ^ (8 * 8) = 18446744073709551616 := rfl
  rw [e] at h1 h2
  rw [Bool.eq_iff_iff]
  simp only [beq_iff_eq]
  constructor
  · intro g
    rw [g] at h1
    omega
  · intro g
    rw [g]

end Go.Proofs.Ytcgoepbmbeimmaa
