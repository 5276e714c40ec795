/- The document's own Get and Put. -/
import Derived.Test.YtcgoepbmbeimmaaSlices
namespace Go.Proofs.Ytcgoepbmbeimmaa
open Go.ChangeShapes Go.WideShapes Go.ChangeAt Go.RowKit

theorem rget_pos (len cap b off : Nat) (f : Nat → Int) (w : World) (h1 : 1 ≤ len) (h2 : len ≤ 8) (hf : ∀ j, j < len → 0 ≤ f j ∧ f j ≤ 255)
    (hc : ∀ j, j < len → w.cell? ⟨b, off + j, none⟩ = some (.int .u8 (f j))) :
    Calls Try.prog 10 #[.slice (some ⟨b, off, none⟩) len cap] w fun e w' => e = .returned (.tuple #[.int .u64 (val f len), .int .i64 0]) ∧ w' = w := by
  have hbd := val_bd f len hf
  go_enter Try.func10, Try.ntmps10
  go_wp2
  go_loop [4, 5] (fun n i => ∃ k : Nat, k ≤ len ∧ i = .int .i64 k ∧ n = .int .u64 (val f k)) (fun _ i => len - (intOf i).toNat)
  case atStart => exact ⟨0, Nat.zero_le _, rfl, rfl⟩
  case round =>
    obtain ⟨k, hk, rfl, rfl⟩ := hrel
    have hx := hbd k hk
    by_cases hlt : k < len
    · have hc := hc k hlt
      have hf := hf k hlt
      have hp := pow_le k (by omega)
      have hv1 : 0 ≤ val f k := hx.1
      have hv2 : val f k < 72057594037927936 := by omega
      clear hbd hp hx
      go_wp2
      go_round
      case rel => exact ⟨k + 1, by omega, by go_num, by rw [show val f (k + 1) = val f k * 256 + f k from rfl, Int.mul_comm]⟩
      case measure => simp [intOf]; omega
    · obtain rfl : k = len := by omega
      clear hbd hx
      go_wp2
      go_ret2
      exact ⟨rfl, rfl⟩

theorem rget_row {w : World} {a : Option Addr} {len : Nat} {f : Nat → Int} (cap : Nat) (h1 : 1 ≤ len) (h2 : len ≤ 8) (h : Row w a len f) :
    Calls Try.prog 10 #[.slice a len cap] w fun e w' => e = .returned (.tuple #[.int .u64 (val f len), .int .i64 0]) ∧ w' = w := by
  obtain ⟨_, b, off, rfl, _, _⟩ := h 0 (by omega)
  refine rget_pos len cap b off f w h1 h2 (fun j hj => (h j hj).1) ?_
  intro j hj
  obtain ⟨_, b', off', e, _, hc⟩ := h j hj
  simp only [Option.some.injEq, Addr.mk.injEq, and_true] at e
  obtain ⟨rfl, rfl⟩ := e
  exact hc

theorem rget_err (a : Option Addr) (len cap : Nat) (w : World) (h : len < 1 ∨ 8 < len) :
    Calls Try.prog 10 #[.slice a len cap] w fun e w' => e = .returned (.tuple #[.int .u64 0, .int .i64 1]) ∧ w' = w := by
  by_cases c1 : len < 1
  · obtain rfl : len = 0 := by omega
    clear h
    go_enter Try.func10, Try.ntmps10
    go_wp2
    go_ret2
    exact ⟨rfl, rfl⟩
  · have c2 : 8 < len := by omega
    clear h
    go_enter Try.func10, Try.ntmps10
    go_wp2
    go_ret2
    exact ⟨rfl, rfl⟩

def fillB (f : Nat → Int) (s k : Nat) : List Value := (List.range s).map fun j => .int .u8 (if k ≤ j then f j else 0)

theorem fillB_zero (f : Nat → Int) (s : Nat) : fill f s 0 = fillB f s s := by
  unfold fill fillB
  apply List.map_congr_left
  intro j hj
  have : j < s := by simpa using hj
  have h : ¬ s ≤ j := by omega
  simp [h]

theorem fillB_all (f : Nat → Int) (s : Nat) : fillB f s 0 = fill f s s := by
  unfold fill fillB
  apply List.map_congr_left
  intro j hj
  have : j < s := by simpa using hj
  simp [this]

theorem fillB_set (f : Nat → Int) (s k : Nat) : (fillB f s (k + 1)).set k (.int .u8 (f k)) = fillB f s k := by
  apply List.ext_getElem?
  intro i
  simp only [fillB, List.getElem?_set, List.getElem?_map, List.length_map, List.length_range]
  by_cases hi : i < s
  · rw [List.getElem?_range hi]
    by_cases e : k = i
    · subst e; simp [hi]
    · have : (k + 1 ≤ i) = (k ≤ i) := by simp; omega
      simp [e, this]
  · have : (List.range s)[i]? = none := by simp; omega
    simp [this]
    omega

theorem rput_size (s n : Int) (w : World) (h : s < 1 ∨ 8 < s) :
    Calls Try.prog 12 #[.int .u64 n, .int .i64 s] w fun e w' => e = .returned (.tuple #[.slice none 0 0, .int .i64 1]) ∧ w' = w := by
  by_cases c1 : s < 1
  · clear h
    go_enter Try.func12, Try.ntmps12
    go_wp2
    go_ret2
    exact ⟨rfl, rfl⟩
  · have c2 : 8 < s := by omega
    clear h
    go_enter Try.func12, Try.ntmps12
    go_wp2
    go_ret2
    exact ⟨rfl, rfl⟩

theorem div_step (n : Int) (s k : Nat) (hk : k + 1 ≤ s) : n / 2 ^ (8 * (s - (k + 1))) / 256 = n / 2 ^ (8 * (s - k)) := by
  have e : 8 * (s - k) = 8 * (s - (k + 1)) + 8 := by omega
  have hP : (0 : Int) < 2 ^ (8 * (s - (k + 1))) := Int.pow_pos (by decide)
  rw [e, Int.pow_add, show (2 : Int) ^ 8 = 256 from rfl, Int.ediv_ediv_of_nonneg (Int.le_of_lt hP)]

theorem div_bd (n : Int) (k : Nat) (h : 0 ≤ n ∧ n ≤ 18446744073709551615) : 0 ≤ n / 2 ^ k ∧ n / 2 ^ k ≤ 18446744073709551615 := by
  have hP : (0 : Int) < 2 ^ k := Int.pow_pos (by decide)
  refine ⟨Int.ediv_nonneg h.1 (Int.le_of_lt hP), ?_⟩
  have := Int.ediv_le_self (2 ^ k) h.1
  omega

set_option maxHeartbeats 800000 in
theorem rput_any (s : Nat) (n : Int) (w : World) (h1 : 1 ≤ s) (h2 : s ≤ 8) (hn : 0 ≤ n ∧ n ≤ 18446744073709551615) :
    Calls Try.prog 12 #[.int .u64 n, .int .i64 s] w fun e w' => Below w.heap.size w w' ∧
      ((hold n s = true ∧ e = .returned (.tuple #[.slice (some ⟨w.heap.size, 0, none⟩) s s, .int .i64 0]) ∧ Row w' (some ⟨w.heap.size, 0, none⟩) s (byteAt n s)) ∨
       (hold n s = false ∧ e = .returned (.tuple #[.slice none 0 0, .int .i64 1]))) := by
  obtain ⟨i0, hi, hz0, hz1, hz2⟩ := info_parts Try.info5
  go_enter Try.func12, Try.ntmps12
  go_wp2_with (at_make; refine wpList_make_full _ rfl _ _ 22 rfl w.heap.size 5 i0 (.int .u8 0) 1 Try.underlying22 hi hz0 hz1 .i64 .i64 _ _ s rfl rfl rfl rfl (by rw [hz2]; omega) (by unfold maxLen; omega) (Nat.le_refl _) ?_; intro w1 hown hgr)
  rw [fill_zero (byteAt n s), fillB_zero] at hown
  have hb0 : Below w.heap.size w w1 := (Below.refl _ _).grown hgr (Nat.le_refl _) (by intro k h; cases h)
  clear hgr hi hz0 hz1 hz2
  go_loopw [0, 7] (fun x i wr => ∃ k : Nat, k ≤ s ∧ i = .int .i64 ((k : Int) - 1) ∧ x = .int .u64 (n / 2 ^ (8 * (s - k))) ∧ wr.ownsRow w.heap.size 5 1 (.slice (some ⟨w.heap.size, 0, none⟩) s s) s (fillB (byteAt n s) s k) ∧ Below w.heap.size w wr)
    (fun _ i _ => (intOf i + 1).toNat)
  case atStart => exact ⟨s, Nat.le_refl _, rfl, by simp, hown, hb0⟩
  case round =>
    clear hown hb0
    obtain ⟨k, hk, rfl, rfl, hown, hbel⟩ := hrel
    have hd := div_bd n (8 * (s - k)) hn
    cases k with
    | succ k =>
      have hfz := hown.frozenAt k
      have hce : wr.cell? ⟨w.heap.size, k, none⟩ = some (.int .u8 0) := by
        have h3 : k < s := by omega
        rw [hown.cellAt k (by omega)]
        simp [fillB, h3]
        intro h4
        omega
      have hst := div_step n s k hk
      have hby : n / 2 ^ (8 * (s - (k + 1))) % 256 = byteAt n s k := by
        unfold byteAt
        rw [show s - 1 - k = s - (k + 1) from by omega]
      have ek : ((k + 1 : Nat) : Int) - 1 = (k : Int) := by omega
      obtain ⟨D, hD⟩ : ∃ D, D = n / 2 ^ (8 * (s - (k + 1))) := ⟨_, rfl⟩
      rw [← hD] at hst hby hd ⊢
      rw [ek]
      have HD : Hid (D / 256 = n / 2 ^ (8 * (s - k))) := hst
      clear hst hD
      go_wp2
      go_roundw
      case rel =>
        have R := hown.stored k (.int .u8 (byteAt n s k))
        rw [fillB_set] at R
        exact ⟨k, by omega, rfl, by rw [HD.out], R.1, hbel.setCell (Nat.le_refl _) _⟩
      case measure => simp [intOf]
    | zero =>
      rw [fillB_all] at hown
      have hrow := row_own hown (fun j _ => byteAt_bd n s j)
      clear hown
      rw [show s - 0 = s from rfl] at hd ⊢
      have hh : hold n s = (n / 2 ^ (8 * s) == 0) := by
        unfold hold
        rw [show (8 * (s : Int)).toNat = 8 * s from by omega]
      have e0 : (((0 : Nat) : Int) - 1) = -1 := rfl
      rw [e0]
      obtain ⟨D, hD⟩ : ∃ D, D = n / 2 ^ (8 * s) := ⟨_, rfl⟩
      rw [← hD] at hd hh ⊢
      have HH : Hid (hold n s = (D == 0)) := hh
      clear hh hD e0
      by_cases hz : D = 0
      · subst hz
        go_wp2
        go_ret2
        exact ⟨hbel, .inl ⟨by rw [HH.out]; rfl, rfl, hrow⟩⟩
      · have hz' : 0 < D := by omega
        have HZ : Hid (¬ D = 0) := hz
        clear hz
        go_wp2
        go_ret2
        exact ⟨hbel, .inr ⟨by rw [HH.out]; simpa using HZ.out, rfl⟩⟩
end Go.Proofs.Ytcgoepbmbeimmaa
