/- The reference's Decrypt. -/
import Derived.Test.YtcnlegnfecpdnaaAesDec
import Derived.Test.YtcnlegnfecpdnaaRef4Enc
namespace Go.Proofs.Ytcnlegnfecpdnaa
open Go.ChangeShapes Go.WideShapes Go.ChangeAt Go.RowKit
set_option linter.unusedVariables false

/-- What is laid of t, row by row, each row turned. -/
def rowD (T : Nat → Nat) (r c j : Nat) : Nat := if j % 4 < r ∨ (j % 4 = r ∧ (j / 4 + 3 * r) % 4 < c) then T j else 0

theorem rowD_0 (T : Nat → Nat) : rowD T 0 0 = fun _ => 0 := by
  funext j
  unfold rowD
  rw [if_neg (by omega)]

theorem rowD_c (T : Nat → Nat) (r c : Nat) (hr : r < 4) (hc : c < 4) : cellsN .u8 16 (upd (rowD T r c) (r + 4 * ((c + r) % 4)) (T (r + 4 * ((c + r) % 4)))) = cellsN .u8 16 (rowD T r (c + 1)) :=
  cellsN_congr _ _ _ _ (fun j hj => by
    unfold upd rowD
    by_cases e : j = r + 4 * ((c + r) % 4)
    · subst e
      have e2 : (r + 4 * ((c + r) % 4)) / 4 = (c + r) % 4 := by omega
      rw [if_pos rfl, if_pos (Or.inr ⟨by omega, by rw [e2]; omega⟩)]
    · rw [if_neg e]
      by_cases h : j % 4 < r ∨ (j % 4 = r ∧ (j / 4 + 3 * r) % 4 < c)
      · rw [if_pos h, if_pos (by omega)]
      · rw [if_neg h, if_neg (by omega)])

theorem rowD_r (T : Nat → Nat) (r : Nat) : cellsN .u8 16 (rowD T r 4) = cellsN .u8 16 (rowD T (r + 1) 0) :=
  cellsN_congr _ _ _ _ (fun j hj => by
    unfold rowD
    by_cases h : j % 4 < r ∨ (j % 4 = r ∧ (j / 4 + 3 * r) % 4 < 4)
    · rw [if_pos h, if_pos (by omega)]
    · rw [if_neg h, if_neg (by omega)])

theorem rowD_all (T : Nat → Nat) : cellsN .u8 16 (rowD T 4 0) = cellsN .u8 16 T :=
  cellsN_congr _ _ _ _ (fun j hj => by unfold rowD; rw [if_pos (by omega)])

set_option maxRecDepth 100000 in
set_option maxHeartbeats 1600000 in
theorem rdec_10 (K f : Nat → Nat) (g c : Nat) (w : World) (hf : Byt f) (hK : ∀ j, K j < 256) (hg : g < w.heap.size) (hc : ∀ j, j < 176 → w.cell? ⟨g, j, none⟩ = some (.int .u8 (K j : Nat))) :
    Calls Try.prog 16 #[.slice (some ⟨g, 0, none⟩) 176 c, .agg (cellsN .u8 16 f)] w fun e w' => e = .returned (.agg (cellsN .u8 16 (decS K 10 f))) ∧ Below w.heap.size w w' := by
  have HA : Hid (∀ wz s k, Byt s → k ≤ 10 → Below w.heap.size w wz → Calls Try.prog 35 #[.agg (cellsN .u8 16 s), .slice (some ⟨g, 0, none⟩) 176 c, .int .i64 (k : Nat)] wz fun e w' => e = .returned (.agg (cellsN .u8 16 (xorS s (rk K k)))) ∧ Below wz.heap.size wz w') :=
    fun wz s k hs hk hb => added_any s K g 176 c k wz hs hK (Nat.lt_of_lt_of_le hg hb.size) (by omega) (by omega) (fun j hj => (hb.cell hg).trans (hc j hj))
  have hR0 : Has ((w.alloc (.cells (cellsN .u8 16 f) 23)).alloc (.cells (cellsN .u8 16 fun _ => 0) 23)) (w.heap.size + 1) 23 (cellsN .u8 16 fun _ => 0) := Has.new_at (by simp)
  have hS0 : Has ((w.alloc (.cells (cellsN .u8 16 f) 23)).alloc (.cells (cellsN .u8 16 fun _ => 0) 23)) w.heap.size 23 (cellsN .u8 16 f) := (Has.new_at rfl).alloc _
  have hb0 := two_below w (.cells (cellsN .u8 16 f) 23) (.cells (cellsN .u8 16 fun _ => 0) 23)
  have hK' : ∀ j, j < 240 → K j < 256 := fun j _ => hK j
  clear hc
  go_enter Try.func16, Try.ntmps16
  go_wp2
  go_loopw [6] (fun i wr => ∃ k : Nat, k ≤ 10 ∧ i = .int .i64 (k : Nat) ∧ Has wr w.heap.size 23 (cellsN .u8 16 (decAt K 10 f (10 - k))) ∧ Has wr (w.heap.size + 1) 23 (cellsN .u8 16 fun _ => 0) ∧ Below w.heap.size w wr)
    (fun i _ => (intOf i).toNat)
  case atStart => exact ⟨10, Nat.le_refl _, rfl, hS0, hR0, hb0⟩
  case round =>
    clear hS0 hR0 hb0
    obtain ⟨k, hk, rfl, hS1, hR1, hB1⟩ := hrel
    have hs := decAt_lt hK' 10 (by omega) hf (10 - k)
    by_cases hlt : 0 < k
    · obtain ⟨m, rfl⟩ : ∃ m, k = m + 1 := ⟨k - 1, by omega⟩
      obtain ⟨s, hse⟩ : ∃ s, s = decAt K 10 f (10 - (m + 1)) := ⟨_, rfl⟩
      rw [← hse] at hS1 hs
      have HS : Hid (s = decAt K 10 f (10 - (m + 1))) := hse
      clear hse
      have i1 : (1 : Int) ≤ (m : Int) + 1 := by omega
      have q1 := HA.out wr s (m + 1) hs (by omega) hB1
      have hx : Byt (xorS s (rk K (m + 1))) := hs.xor (Byt.rk hK' (m + 1) (by omega))
      obtain ⟨x, hxe⟩ : ∃ x, x = xorS s (rk K (m + 1)) := ⟨_, rfl⟩
      have HX : Hid (x = xorS s (rk K (m + 1))) := hxe
      rw [← hxe] at q1 hx
      clear hxe
      by_cases hm : m + 1 < 10
      · have i2 : (m : Int) + 1 < 10 := by omega
        have hy : Byt (colS unmixN x) := hx.unmix
        have q4 := fun wz => mixed_dec x wz hx
        obtain ⟨y, hye⟩ : ∃ y, y = colS unmixN x := ⟨_, rfl⟩
        have HY : Hid (y = colS unmixN x) := hye
        rw [← hye] at q4 hy
        clear hye
        go_wp2_with (first
          | (refine wpList_load_row rfl 23 _ rfl (w.heap.size) rfl 23 _ (0, 0) _ hS1 Try.underlying23 rfl (by rw [cellsN_size]; exact Try.size23) ?_)
          | (go_at_call 35; refine q1.mono ?_; rintro e w2 ⟨rfl, hbw2⟩; have hS2 := hS1.below hbw2 hS1.lt; have hR2 := hR1.below hbw2 hR1.lt; have hB2 := hB1.trans (hbw2.mono hB1.size); clear q1 hS1 hR1 hB1 hbw2)
          | (refine wpList_store_rowG rfl 23 _ _ rfl (w.heap.size) (cellsN .u8 16 (x)) rfl rfl 23 _ hS2 (by rw [cellsN_size]; exact Try.size23) (by simp [cellsN_size]) (cellsN_one _ _ _) ?_; intro w3 hw3; (have hS3 : Has w3 w.heap.size 23 (cellsN .u8 16 (x)) := by rw [hw3]; exact hS2.setRow _); (have hR3 : Has w3 (w.heap.size + 1) 23 (cellsN .u8 16 fun _ => 0) := by rw [hw3]; exact hR2.setRow_other (by omega) _); (have hB3 : Below w.heap.size w w3 := by rw [hw3]; exact below_setRow hB2 (Nat.le_refl _) _); (clear hw3 hS2 hR2 hB2))
          | (refine wpList_load_row rfl 23 _ rfl (w.heap.size) rfl 23 _ (0, 0) _ hS3 Try.underlying23 rfl (by rw [cellsN_size]; exact Try.size23) ?_)
          | (go_at_call 36; refine (q4 _).mono ?_; rintro e w4 ⟨rfl, hbw4⟩; have hS4 := hS3.below hbw4 hS3.lt; have hR4 := hR3.below hbw4 hR3.lt; have hB4 := hB3.trans (hbw4.mono hB3.size); clear q4 hS3 hR3 hB3 hbw4)
          | (refine wpList_store_rowG rfl 23 _ _ rfl (w.heap.size) (cellsN .u8 16 (y)) rfl rfl 23 _ hS4 (by rw [cellsN_size]; exact Try.size23) (by simp [cellsN_size]) (cellsN_one _ _ _) ?_; intro w5 hw5; (have hS5 : Has w5 w.heap.size 23 (cellsN .u8 16 (y)) := by rw [hw5]; exact hS4.setRow _); (have hR5 : Has w5 (w.heap.size + 1) 23 (cellsN .u8 16 fun _ => 0) := by rw [hw5]; exact hR4.setRow_other (by omega) _); (have hB5 : Below w.heap.size w w5 := by rw [hw5]; exact below_setRow hB4 (Nat.le_refl _) _); (clear hw5 hS4 hR4 hB4)))
        obtain ⟨T, hTe⟩ : ∃ T, T = subS IB (turnS 3 y) := ⟨_, rfl⟩
        have HT : Hid (T = subS IB (turnS 3 y)) := hTe
        clear hTe
        obtain ⟨gt, hgt⟩ : ∃ g, g = w5.heap.size := ⟨_, rfl⟩
        have hI0 : TIn w gt y (fun _ => 0) (w5.alloc (.cells (cellsN .u8 16 fun _ => 0) 23)) := ⟨hS5.alloc _, hR5.alloc _, Has.new_at hgt, by rw [hgt]; exact hR5.lt, hB5.alloc hB5.size _⟩
        clear hS5 hR5 hB5
        rw [← hgt]
        clear hgt
        go_loopw [8] (fun i wr => ∃ r : Nat, r ≤ 4 ∧ i = .int .i64 r ∧ TIn w gt y (rowD T r 0) wr)
          (fun i _ => 4 - (intOf i).toNat)
        case atStart => exact ⟨0, Nat.zero_le _, rfl, by rw [rowD_0]; exact hI0⟩
        case round =>
          clear hI0
          obtain ⟨r, hr, rfl, hI⟩ := hrel
          by_cases hrl : r < 4
          · have ir : (r : Int) < 4 := by omega
            go_wp2
            go_loopw [9] (fun i wr => ∃ c : Nat, c ≤ 4 ∧ i = .int .i64 c ∧ TIn w gt y (rowD T r c) wr)
              (fun i _ => 4 - (intOf i).toNat)
            case atStart => exact ⟨0, Nat.zero_le _, rfl, hI⟩
            case round =>
              clear hI
              obtain ⟨c', hc', rfl, hI⟩ := hrel
              by_cases hcl : c' < 4
              · have ic : (c' : Int) < 4 := by omega
                have hq : r + 4 * ((c' + r) % 4) < 16 := by omega
                have hq' : r + 4 * c' < 16 := by omega
                have d1 := hI.1.num (r + 4 * c') hq'
                have d2 := hI.2.2.1.num (r + 4 * ((c' + r) % 4)) hq
                have d4 := hI.2.2.1.free (r + 4 * ((c' + r) % 4))
                have hsa := fun w => back_any (y (r + 4 * c')) w (hy _ hq')
                go_wp2_with (go_at_call 38; refine (hsa _).mono ?_; rintro e w' ⟨rfl, rfl⟩)
                go_roundw
                case rel =>
                  refine ⟨c' + 1, by omega, by go_num, hI.1.other (by have := hI.2.2.2.1; show w.heap.size ≠ gt; omega) _, hI.2.1.other (by have := hI.2.2.2.1; show w.heap.size + 1 ≠ gt; omega) _, ?_, hI.2.2.2.1, hI.2.2.2.2.setCell (by have := hI.2.2.2.1; show w.heap.size ≤ gt; omega) _⟩
                  have := hI.2.2.1.set (r + 4 * ((c' + r) % 4)) (T (r + 4 * ((c' + r) % 4)))
                  rw [rowD_c T r c' hrl hcl] at this
                  rw [show IB (y (r + 4 * c')) = T (r + 4 * ((c' + r) % 4)) by rw [HT.out]; unfold subS turnS; rw [show (r + 4 * ((c' + r) % 4)) % 4 = r by omega, show (r + 4 * ((c' + r) % 4)) / 4 = (c' + r) % 4 by omega, show ((c' + r) % 4 + r * 3) % 4 = c' by omega]]
                  exact this
                case measure => simp [intOf]; omega
              · obtain rfl : c' = 4 := by omega
                have hI2 : TIn w gt y (rowD T (r + 1) 0) wr := by unfold TIn at hI ⊢; rw [← rowD_r]; exact hI
                go_wp2
                go_roundw
                case rel => exact ⟨r + 1, by omega, by go_num, hI2⟩
                case measure => simp [intOf]; omega
          · obtain rfl : r = 4 := by omega
            have hI2 : TIn w gt y T wr := by unfold TIn at hI ⊢; rw [← rowD_all]; exact hI
            clear hI
            go_wp2_with (first
              | (refine wpList_load_row rfl 23 _ rfl (gt) rfl 23 _ (0, 0) _ hI2.2.2.1 Try.underlying23 rfl (by rw [cellsN_size]; exact Try.size23) ?_)
              | (refine wpList_store_rowG rfl 23 _ _ rfl (w.heap.size) (cellsN .u8 16 (T)) rfl rfl 23 _ hI2.1 (by rw [cellsN_size]; exact Try.size23) (by simp [cellsN_size]) (cellsN_one _ _ _) ?_; intro w9 hw9; (have hS9 : Has w9 w.heap.size 23 (cellsN .u8 16 T) := by rw [hw9]; exact hI2.1.setRow _); (have hR9 : Has w9 (w.heap.size + 1) 23 (cellsN .u8 16 fun _ => 0) := by rw [hw9]; exact hI2.2.1.setRow_other (by omega) _); (have hB9 : Below w.heap.size w w9 := by rw [hw9]; exact below_setRow hI2.2.2.2.2 (Nat.le_refl _) _); (clear hw9 hI2)))
            go_roundw
            case rel =>
              refine ⟨m, by omega, by go_num, ?_, hR9, hB9⟩
              rw [show decAt K 10 f (10 - m) = T by
                rw [show 10 - m = (10 - (m + 1)) + 1 by omega]
                show decR K 10 (10 - (10 - (m + 1))) (decAt K 10 f (10 - (m + 1))) = _
                rw [show 10 - (10 - (m + 1)) = m + 1 by omega]
                unfold decR
                rw [if_pos hm, ← HS.out, ← HX.out, ← HY.out, ← HT.out]]
              exact hS9
            case measure => first | (simp [intOf]; done) | (simp [intOf]; omega)
      · have i2 : ¬ (m : Int) + 1 < 10 := by omega
        go_wp2_with (first
          | (refine wpList_load_row rfl 23 _ rfl (w.heap.size) rfl 23 _ (0, 0) _ hS1 Try.underlying23 rfl (by rw [cellsN_size]; exact Try.size23) ?_)
          | (go_at_call 35; refine q1.mono ?_; rintro e w2 ⟨rfl, hbw2⟩; have hS2 := hS1.below hbw2 hS1.lt; have hR2 := hR1.below hbw2 hR1.lt; have hB2 := hB1.trans (hbw2.mono hB1.size); clear q1 hS1 hR1 hB1 hbw2)
          | (refine wpList_store_rowG rfl 23 _ _ rfl (w.heap.size) (cellsN .u8 16 (x)) rfl rfl 23 _ hS2 (by rw [cellsN_size]; exact Try.size23) (by simp [cellsN_size]) (cellsN_one _ _ _) ?_; intro w3 hw3; (have hS3 : Has w3 w.heap.size 23 (cellsN .u8 16 (x)) := by rw [hw3]; exact hS2.setRow _); (have hR3 : Has w3 (w.heap.size + 1) 23 (cellsN .u8 16 fun _ => 0) := by rw [hw3]; exact hR2.setRow_other (by omega) _); (have hB3 : Below w.heap.size w w3 := by rw [hw3]; exact below_setRow hB2 (Nat.le_refl _) _); (clear hw3 hS2 hR2 hB2)))
        obtain ⟨T, hTe⟩ : ∃ T, T = subS IB (turnS 3 x) := ⟨_, rfl⟩
        have HT : Hid (T = subS IB (turnS 3 x)) := hTe
        clear hTe
        obtain ⟨gt, hgt⟩ : ∃ g, g = w3.heap.size := ⟨_, rfl⟩
        have hI0 : TIn w gt x (fun _ => 0) (w3.alloc (.cells (cellsN .u8 16 fun _ => 0) 23)) := ⟨hS3.alloc _, hR3.alloc _, Has.new_at hgt, by rw [hgt]; exact hR3.lt, hB3.alloc hB3.size _⟩
        clear hS3 hR3 hB3
        rw [← hgt]
        clear hgt
        go_loopw [8] (fun i wr => ∃ r : Nat, r ≤ 4 ∧ i = .int .i64 r ∧ TIn w gt x (rowD T r 0) wr)
          (fun i _ => 4 - (intOf i).toNat)
        case atStart => exact ⟨0, Nat.zero_le _, rfl, by rw [rowD_0]; exact hI0⟩
        case round =>
          clear hI0
          obtain ⟨r, hr, rfl, hI⟩ := hrel
          by_cases hrl : r < 4
          · have ir : (r : Int) < 4 := by omega
            go_wp2
            go_loopw [9] (fun i wr => ∃ c : Nat, c ≤ 4 ∧ i = .int .i64 c ∧ TIn w gt x (rowD T r c) wr)
              (fun i _ => 4 - (intOf i).toNat)
            case atStart => exact ⟨0, Nat.zero_le _, rfl, hI⟩
            case round =>
              clear hI
              obtain ⟨c', hc', rfl, hI⟩ := hrel
              by_cases hcl : c' < 4
              · have ic : (c' : Int) < 4 := by omega
                have hq : r + 4 * ((c' + r) % 4) < 16 := by omega
                have hq' : r + 4 * c' < 16 := by omega
                have d1 := hI.1.num (r + 4 * c') hq'
                have d2 := hI.2.2.1.num (r + 4 * ((c' + r) % 4)) hq
                have d4 := hI.2.2.1.free (r + 4 * ((c' + r) % 4))
                have hsa := fun w => back_any (x (r + 4 * c')) w (hx _ hq')
                go_wp2_with (go_at_call 38; refine (hsa _).mono ?_; rintro e w' ⟨rfl, rfl⟩)
                go_roundw
                case rel =>
                  refine ⟨c' + 1, by omega, by go_num, hI.1.other (by have := hI.2.2.2.1; show w.heap.size ≠ gt; omega) _, hI.2.1.other (by have := hI.2.2.2.1; show w.heap.size + 1 ≠ gt; omega) _, ?_, hI.2.2.2.1, hI.2.2.2.2.setCell (by have := hI.2.2.2.1; show w.heap.size ≤ gt; omega) _⟩
                  have := hI.2.2.1.set (r + 4 * ((c' + r) % 4)) (T (r + 4 * ((c' + r) % 4)))
                  rw [rowD_c T r c' hrl hcl] at this
                  rw [show IB (x (r + 4 * c')) = T (r + 4 * ((c' + r) % 4)) by rw [HT.out]; unfold subS turnS; rw [show (r + 4 * ((c' + r) % 4)) % 4 = r by omega, show (r + 4 * ((c' + r) % 4)) / 4 = (c' + r) % 4 by omega, show ((c' + r) % 4 + r * 3) % 4 = c' by omega]]
                  exact this
                case measure => simp [intOf]; omega
              · obtain rfl : c' = 4 := by omega
                have hI2 : TIn w gt x (rowD T (r + 1) 0) wr := by unfold TIn at hI ⊢; rw [← rowD_r]; exact hI
                go_wp2
                go_roundw
                case rel => exact ⟨r + 1, by omega, by go_num, hI2⟩
                case measure => simp [intOf]; omega
          · obtain rfl : r = 4 := by omega
            have hI2 : TIn w gt x T wr := by unfold TIn at hI ⊢; rw [← rowD_all]; exact hI
            clear hI
            go_wp2_with (first
              | (refine wpList_load_row rfl 23 _ rfl (gt) rfl 23 _ (0, 0) _ hI2.2.2.1 Try.underlying23 rfl (by rw [cellsN_size]; exact Try.size23) ?_)
              | (refine wpList_store_rowG rfl 23 _ _ rfl (w.heap.size) (cellsN .u8 16 (T)) rfl rfl 23 _ hI2.1 (by rw [cellsN_size]; exact Try.size23) (by simp [cellsN_size]) (cellsN_one _ _ _) ?_; intro w9 hw9; (have hS9 : Has w9 w.heap.size 23 (cellsN .u8 16 T) := by rw [hw9]; exact hI2.1.setRow _); (have hR9 : Has w9 (w.heap.size + 1) 23 (cellsN .u8 16 fun _ => 0) := by rw [hw9]; exact hI2.2.1.setRow_other (by omega) _); (have hB9 : Below w.heap.size w w9 := by rw [hw9]; exact below_setRow hI2.2.2.2.2 (Nat.le_refl _) _); (clear hw9 hI2)))
            go_roundw
            case rel =>
              refine ⟨m, by omega, by go_num, ?_, hR9, hB9⟩
              rw [show decAt K 10 f (10 - m) = T by
                rw [show 10 - m = (10 - (m + 1)) + 1 by omega]
                show decR K 10 (10 - (10 - (m + 1))) (decAt K 10 f (10 - (m + 1))) = _
                rw [show 10 - (10 - (m + 1)) = m + 1 by omega]
                unfold decR
                rw [if_neg hm, ← HS.out, ← HX.out, ← HT.out]]
              exact hS9
            case measure => first | (simp [intOf]; done) | (simp [intOf]; omega)
    · obtain rfl : k = 0 := by omega
      obtain ⟨s, hse⟩ : ∃ s, s = decAt K 10 f 10 := ⟨_, rfl⟩
      have hS1' : Has wr w.heap.size 23 (cellsN .u8 16 s) := by rw [hse]; exact hS1
      have hs' : Byt s := by rw [hse]; exact hs
      have HS : Hid (s = decAt K 10 f 10) := hse
      clear hS1 hs hse
      have q1 := HA.out wr s 0 hs' (by omega) hB1
      go_wp2_with (first
        | (refine wpList_load_row rfl 23 _ rfl (w.heap.size) rfl 23 _ (0, 0) _ hS1' Try.underlying23 rfl (by rw [cellsN_size]; exact Try.size23) ?_)
        | (go_at_call 35; refine q1.mono ?_; rintro e w2 ⟨rfl, hb2⟩; have hR2 := hR1.below hb2 hR1.lt; have hB2 := hB1.trans (hb2.mono hB1.size); have hN := hR2.setRow (cellsN .u8 16 (xorS s (rk K 0))); clear q1 hS1' hR1 hB1 hb2)
        | (refine wpList_store_row rfl 23 _ _ rfl (w.heap.size + 1) (cellsN .u8 16 (xorS s (rk K 0))) rfl rfl 23 _ hR2 (by rw [cellsN_size]; exact Try.size23) (by simp [cellsN_size]) (cellsN_one _ _ _) ?_))
      refine bodyPost_ret (results_cell_row rfl _ _ (w.heap.size + 1) 23 _ (0, 0) _ rfl hN Try.underlying23 rfl (by rw [cellsN_size]; exact Try.size23)) rfl ⟨?_, below_setRow hB2 (by omega) _⟩
      unfold decS
      rw [← HS.out]

set_option maxRecDepth 100000 in
set_option maxHeartbeats 1600000 in
theorem rdec_14 (K f : Nat → Nat) (g c : Nat) (w : World) (hf : Byt f) (hK : ∀ j, K j < 256) (hg : g < w.heap.size) (hc : ∀ j, j < 240 → w.cell? ⟨g, j, none⟩ = some (.int .u8 (K j : Nat))) :
    Calls Try.prog 16 #[.slice (some ⟨g, 0, none⟩) 240 c, .agg (cellsN .u8 16 f)] w fun e w' => e = .returned (.agg (cellsN .u8 16 (decS K 14 f))) ∧ Below w.heap.size w w' := by
  have HA : Hid (∀ wz s k, Byt s → k ≤ 14 → Below w.heap.size w wz → Calls Try.prog 35 #[.agg (cellsN .u8 16 s), .slice (some ⟨g, 0, none⟩) 240 c, .int .i64 (k : Nat)] wz fun e w' => e = .returned (.agg (cellsN .u8 16 (xorS s (rk K k)))) ∧ Below wz.heap.size wz w') :=
    fun wz s k hs hk hb => added_any s K g 240 c k wz hs hK (Nat.lt_of_lt_of_le hg hb.size) (by omega) (by omega) (fun j hj => (hb.cell hg).trans (hc j hj))
  have hR0 : Has ((w.alloc (.cells (cellsN .u8 16 f) 23)).alloc (.cells (cellsN .u8 16 fun _ => 0) 23)) (w.heap.size + 1) 23 (cellsN .u8 16 fun _ => 0) := Has.new_at (by simp)
  have hS0 : Has ((w.alloc (.cells (cellsN .u8 16 f) 23)).alloc (.cells (cellsN .u8 16 fun _ => 0) 23)) w.heap.size 23 (cellsN .u8 16 f) := (Has.new_at rfl).alloc _
  have hb0 := two_below w (.cells (cellsN .u8 16 f) 23) (.cells (cellsN .u8 16 fun _ => 0) 23)
  have hK' : ∀ j, j < 240 → K j < 256 := fun j _ => hK j
  clear hc
  go_enter Try.func16, Try.ntmps16
  go_wp2
  go_loopw [6] (fun i wr => ∃ k : Nat, k ≤ 14 ∧ i = .int .i64 (k : Nat) ∧ Has wr w.heap.size 23 (cellsN .u8 16 (decAt K 14 f (14 - k))) ∧ Has wr (w.heap.size + 1) 23 (cellsN .u8 16 fun _ => 0) ∧ Below w.heap.size w wr)
    (fun i _ => (intOf i).toNat)
  case atStart => exact ⟨14, Nat.le_refl _, rfl, hS0, hR0, hb0⟩
  case round =>
    clear hS0 hR0 hb0
    obtain ⟨k, hk, rfl, hS1, hR1, hB1⟩ := hrel
    have hs := decAt_lt hK' 14 (by omega) hf (14 - k)
    by_cases hlt : 0 < k
    · obtain ⟨m, rfl⟩ : ∃ m, k = m + 1 := ⟨k - 1, by omega⟩
      obtain ⟨s, hse⟩ : ∃ s, s = decAt K 14 f (14 - (m + 1)) := ⟨_, rfl⟩
      rw [← hse] at hS1 hs
      have HS : Hid (s = decAt K 14 f (14 - (m + 1))) := hse
      clear hse
      have i1 : (1 : Int) ≤ (m : Int) + 1 := by omega
      have q1 := HA.out wr s (m + 1) hs (by omega) hB1
      have hx : Byt (xorS s (rk K (m + 1))) := hs.xor (Byt.rk hK' (m + 1) (by omega))
      obtain ⟨x, hxe⟩ : ∃ x, x = xorS s (rk K (m + 1)) := ⟨_, rfl⟩
      have HX : Hid (x = xorS s (rk K (m + 1))) := hxe
      rw [← hxe] at q1 hx
      clear hxe
      by_cases hm : m + 1 < 14
      · have i2 : (m : Int) + 1 < 14 := by omega
        have hy : Byt (colS unmixN x) := hx.unmix
        have q4 := fun wz => mixed_dec x wz hx
        obtain ⟨y, hye⟩ : ∃ y, y = colS unmixN x := ⟨_, rfl⟩
        have HY : Hid (y = colS unmixN x) := hye
        rw [← hye] at q4 hy
        clear hye
        go_wp2_with (first
          | (refine wpList_load_row rfl 23 _ rfl (w.heap.size) rfl 23 _ (0, 0) _ hS1 Try.underlying23 rfl (by rw [cellsN_size]; exact Try.size23) ?_)
          | (go_at_call 35; refine q1.mono ?_; rintro e w2 ⟨rfl, hbw2⟩; have hS2 := hS1.below hbw2 hS1.lt; have hR2 := hR1.below hbw2 hR1.lt; have hB2 := hB1.trans (hbw2.mono hB1.size); clear q1 hS1 hR1 hB1 hbw2)
          | (refine wpList_store_rowG rfl 23 _ _ rfl (w.heap.size) (cellsN .u8 16 (x)) rfl rfl 23 _ hS2 (by rw [cellsN_size]; exact Try.size23) (by simp [cellsN_size]) (cellsN_one _ _ _) ?_; intro w3 hw3; (have hS3 : Has w3 w.heap.size 23 (cellsN .u8 16 (x)) := by rw [hw3]; exact hS2.setRow _); (have hR3 : Has w3 (w.heap.size + 1) 23 (cellsN .u8 16 fun _ => 0) := by rw [hw3]; exact hR2.setRow_other (by omega) _); (have hB3 : Below w.heap.size w w3 := by rw [hw3]; exact below_setRow hB2 (Nat.le_refl _) _); (clear hw3 hS2 hR2 hB2))
          | (refine wpList_load_row rfl 23 _ rfl (w.heap.size) rfl 23 _ (0, 0) _ hS3 Try.underlying23 rfl (by rw [cellsN_size]; exact Try.size23) ?_)
          | (go_at_call 36; refine (q4 _).mono ?_; rintro e w4 ⟨rfl, hbw4⟩; have hS4 := hS3.below hbw4 hS3.lt; have hR4 := hR3.below hbw4 hR3.lt; have hB4 := hB3.trans (hbw4.mono hB3.size); clear q4 hS3 hR3 hB3 hbw4)
          | (refine wpList_store_rowG rfl 23 _ _ rfl (w.heap.size) (cellsN .u8 16 (y)) rfl rfl 23 _ hS4 (by rw [cellsN_size]; exact Try.size23) (by simp [cellsN_size]) (cellsN_one _ _ _) ?_; intro w5 hw5; (have hS5 : Has w5 w.heap.size 23 (cellsN .u8 16 (y)) := by rw [hw5]; exact hS4.setRow _); (have hR5 : Has w5 (w.heap.size + 1) 23 (cellsN .u8 16 fun _ => 0) := by rw [hw5]; exact hR4.setRow_other (by omega) _); (have hB5 : Below w.heap.size w w5 := by rw [hw5]; exact below_setRow hB4 (Nat.le_refl _) _); (clear hw5 hS4 hR4 hB4)))
        obtain ⟨T, hTe⟩ : ∃ T, T = subS IB (turnS 3 y) := ⟨_, rfl⟩
        have HT : Hid (T = subS IB (turnS 3 y)) := hTe
        clear hTe
        obtain ⟨gt, hgt⟩ : ∃ g, g = w5.heap.size := ⟨_, rfl⟩
        have hI0 : TIn w gt y (fun _ => 0) (w5.alloc (.cells (cellsN .u8 16 fun _ => 0) 23)) := ⟨hS5.alloc _, hR5.alloc _, Has.new_at hgt, by rw [hgt]; exact hR5.lt, hB5.alloc hB5.size _⟩
        clear hS5 hR5 hB5
        rw [← hgt]
        clear hgt
        go_loopw [8] (fun i wr => ∃ r : Nat, r ≤ 4 ∧ i = .int .i64 r ∧ TIn w gt y (rowD T r 0) wr)
          (fun i _ => 4 - (intOf i).toNat)
        case atStart => exact ⟨0, Nat.zero_le _, rfl, by rw [rowD_0]; exact hI0⟩
        case round =>
          clear hI0
          obtain ⟨r, hr, rfl, hI⟩ := hrel
          by_cases hrl : r < 4
          · have ir : (r : Int) < 4 := by omega
            go_wp2
            go_loopw [9] (fun i wr => ∃ c : Nat, c ≤ 4 ∧ i = .int .i64 c ∧ TIn w gt y (rowD T r c) wr)
              (fun i _ => 4 - (intOf i).toNat)
            case atStart => exact ⟨0, Nat.zero_le _, rfl, hI⟩
            case round =>
              clear hI
              obtain ⟨c', hc', rfl, hI⟩ := hrel
              by_cases hcl : c' < 4
              · have ic : (c' : Int) < 4 := by omega
                have hq : r + 4 * ((c' + r) % 4) < 16 := by omega
                have hq' : r + 4 * c' < 16 := by omega
                have d1 := hI.1.num (r + 4 * c') hq'
                have d2 := hI.2.2.1.num (r + 4 * ((c' + r) % 4)) hq
                have d4 := hI.2.2.1.free (r + 4 * ((c' + r) % 4))
                have hsa := fun w => back_any (y (r + 4 * c')) w (hy _ hq')
                go_wp2_with (go_at_call 38; refine (hsa _).mono ?_; rintro e w' ⟨rfl, rfl⟩)
                go_roundw
                case rel =>
                  refine ⟨c' + 1, by omega, by go_num, hI.1.other (by have := hI.2.2.2.1; show w.heap.size ≠ gt; omega) _, hI.2.1.other (by have := hI.2.2.2.1; show w.heap.size + 1 ≠ gt; omega) _, ?_, hI.2.2.2.1, hI.2.2.2.2.setCell (by have := hI.2.2.2.1; show w.heap.size ≤ gt; omega) _⟩
                  have := hI.2.2.1.set (r + 4 * ((c' + r) % 4)) (T (r + 4 * ((c' + r) % 4)))
                  rw [rowD_c T r c' hrl hcl] at this
                  rw [show IB (y (r + 4 * c')) = T (r + 4 * ((c' + r) % 4)) by rw [HT.out]; unfold subS turnS; rw [show (r + 4 * ((c' + r) % 4)) % 4 = r by omega, show (r + 4 * ((c' + r) % 4)) / 4 = (c' + r) % 4 by omega, show ((c' + r) % 4 + r * 3) % 4 = c' by omega]]
                  exact this
                case measure => simp [intOf]; omega
              · obtain rfl : c' = 4 := by omega
                have hI2 : TIn w gt y (rowD T (r + 1) 0) wr := by unfold TIn at hI ⊢; rw [← rowD_r]; exact hI
                go_wp2
                go_roundw
                case rel => exact ⟨r + 1, by omega, by go_num, hI2⟩
                case measure => simp [intOf]; omega
          · obtain rfl : r = 4 := by omega
            have hI2 : TIn w gt y T wr := by unfold TIn at hI ⊢; rw [← rowD_all]; exact hI
            clear hI
            go_wp2_with (first
              | (refine wpList_load_row rfl 23 _ rfl (gt) rfl 23 _ (0, 0) _ hI2.2.2.1 Try.underlying23 rfl (by rw [cellsN_size]; exact Try.size23) ?_)
              | (refine wpList_store_rowG rfl 23 _ _ rfl (w.heap.size) (cellsN .u8 16 (T)) rfl rfl 23 _ hI2.1 (by rw [cellsN_size]; exact Try.size23) (by simp [cellsN_size]) (cellsN_one _ _ _) ?_; intro w9 hw9; (have hS9 : Has w9 w.heap.size 23 (cellsN .u8 16 T) := by rw [hw9]; exact hI2.1.setRow _); (have hR9 : Has w9 (w.heap.size + 1) 23 (cellsN .u8 16 fun _ => 0) := by rw [hw9]; exact hI2.2.1.setRow_other (by omega) _); (have hB9 : Below w.heap.size w w9 := by rw [hw9]; exact below_setRow hI2.2.2.2.2 (Nat.le_refl _) _); (clear hw9 hI2)))
            go_roundw
            case rel =>
              refine ⟨m, by omega, by go_num, ?_, hR9, hB9⟩
              rw [show decAt K 14 f (14 - m) = T by
                rw [show 14 - m = (14 - (m + 1)) + 1 by omega]
                show decR K 14 (14 - (14 - (m + 1))) (decAt K 14 f (14 - (m + 1))) = _
                rw [show 14 - (14 - (m + 1)) = m + 1 by omega]
                unfold decR
                rw [if_pos hm, ← HS.out, ← HX.out, ← HY.out, ← HT.out]]
              exact hS9
            case measure => first | (simp [intOf]; done) | (simp [intOf]; omega)
      · have i2 : ¬ (m : Int) + 1 < 14 := by omega
        go_wp2_with (first
          | (refine wpList_load_row rfl 23 _ rfl (w.heap.size) rfl 23 _ (0, 0) _ hS1 Try.underlying23 rfl (by rw [cellsN_size]; exact Try.size23) ?_)
          | (go_at_call 35; refine q1.mono ?_; rintro e w2 ⟨rfl, hbw2⟩; have hS2 := hS1.below hbw2 hS1.lt; have hR2 := hR1.below hbw2 hR1.lt; have hB2 := hB1.trans (hbw2.mono hB1.size); clear q1 hS1 hR1 hB1 hbw2)
          | (refine wpList_store_rowG rfl 23 _ _ rfl (w.heap.size) (cellsN .u8 16 (x)) rfl rfl 23 _ hS2 (by rw [cellsN_size]; exact Try.size23) (by simp [cellsN_size]) (cellsN_one _ _ _) ?_; intro w3 hw3; (have hS3 : Has w3 w.heap.size 23 (cellsN .u8 16 (x)) := by rw [hw3]; exact hS2.setRow _); (have hR3 : Has w3 (w.heap.size + 1) 23 (cellsN .u8 16 fun _ => 0) := by rw [hw3]; exact hR2.setRow_other (by omega) _); (have hB3 : Below w.heap.size w w3 := by rw [hw3]; exact below_setRow hB2 (Nat.le_refl _) _); (clear hw3 hS2 hR2 hB2)))
        obtain ⟨T, hTe⟩ : ∃ T, T = subS IB (turnS 3 x) := ⟨_, rfl⟩
        have HT : Hid (T = subS IB (turnS 3 x)) := hTe
        clear hTe
        obtain ⟨gt, hgt⟩ : ∃ g, g = w3.heap.size := ⟨_, rfl⟩
        have hI0 : TIn w gt x (fun _ => 0) (w3.alloc (.cells (cellsN .u8 16 fun _ => 0) 23)) := ⟨hS3.alloc _, hR3.alloc _, Has.new_at hgt, by rw [hgt]; exact hR3.lt, hB3.alloc hB3.size _⟩
        clear hS3 hR3 hB3
        rw [← hgt]
        clear hgt
        go_loopw [8] (fun i wr => ∃ r : Nat, r ≤ 4 ∧ i = .int .i64 r ∧ TIn w gt x (rowD T r 0) wr)
          (fun i _ => 4 - (intOf i).toNat)
        case atStart => exact ⟨0, Nat.zero_le _, rfl, by rw [rowD_0]; exact hI0⟩
        case round =>
          clear hI0
          obtain ⟨r, hr, rfl, hI⟩ := hrel
          by_cases hrl : r < 4
          · have ir : (r : Int) < 4 := by omega
            go_wp2
            go_loopw [9] (fun i wr => ∃ c : Nat, c ≤ 4 ∧ i = .int .i64 c ∧ TIn w gt x (rowD T r c) wr)
              (fun i _ => 4 - (intOf i).toNat)
            case atStart => exact ⟨0, Nat.zero_le _, rfl, hI⟩
            case round =>
              clear hI
              obtain ⟨c', hc', rfl, hI⟩ := hrel
              by_cases hcl : c' < 4
              · have ic : (c' : Int) < 4 := by omega
                have hq : r + 4 * ((c' + r) % 4) < 16 := by omega
                have hq' : r + 4 * c' < 16 := by omega
                have d1 := hI.1.num (r + 4 * c') hq'
                have d2 := hI.2.2.1.num (r + 4 * ((c' + r) % 4)) hq
                have d4 := hI.2.2.1.free (r + 4 * ((c' + r) % 4))
                have hsa := fun w => back_any (x (r + 4 * c')) w (hx _ hq')
                go_wp2_with (go_at_call 38; refine (hsa _).mono ?_; rintro e w' ⟨rfl, rfl⟩)
                go_roundw
                case rel =>
                  refine ⟨c' + 1, by omega, by go_num, hI.1.other (by have := hI.2.2.2.1; show w.heap.size ≠ gt; omega) _, hI.2.1.other (by have := hI.2.2.2.1; show w.heap.size + 1 ≠ gt; omega) _, ?_, hI.2.2.2.1, hI.2.2.2.2.setCell (by have := hI.2.2.2.1; show w.heap.size ≤ gt; omega) _⟩
                  have := hI.2.2.1.set (r + 4 * ((c' + r) % 4)) (T (r + 4 * ((c' + r) % 4)))
                  rw [rowD_c T r c' hrl hcl] at this
                  rw [show IB (x (r + 4 * c')) = T (r + 4 * ((c' + r) % 4)) by rw [HT.out]; unfold subS turnS; rw [show (r + 4 * ((c' + r) % 4)) % 4 = r by omega, show (r + 4 * ((c' + r) % 4)) / 4 = (c' + r) % 4 by omega, show ((c' + r) % 4 + r * 3) % 4 = c' by omega]]
                  exact this
                case measure => simp [intOf]; omega
              · obtain rfl : c' = 4 := by omega
                have hI2 : TIn w gt x (rowD T (r + 1) 0) wr := by unfold TIn at hI ⊢; rw [← rowD_r]; exact hI
                go_wp2
                go_roundw
                case rel => exact ⟨r + 1, by omega, by go_num, hI2⟩
                case measure => simp [intOf]; omega
          · obtain rfl : r = 4 := by omega
            have hI2 : TIn w gt x T wr := by unfold TIn at hI ⊢; rw [← rowD_all]; exact hI
            clear hI
            go_wp2_with (first
              | (refine wpList_load_row rfl 23 _ rfl (gt) rfl 23 _ (0, 0) _ hI2.2.2.1 Try.underlying23 rfl (by rw [cellsN_size]; exact Try.size23) ?_)
              | (refine wpList_store_rowG rfl 23 _ _ rfl (w.heap.size) (cellsN .u8 16 (T)) rfl rfl 23 _ hI2.1 (by rw [cellsN_size]; exact Try.size23) (by simp [cellsN_size]) (cellsN_one _ _ _) ?_; intro w9 hw9; (have hS9 : Has w9 w.heap.size 23 (cellsN .u8 16 T) := by rw [hw9]; exact hI2.1.setRow _); (have hR9 : Has w9 (w.heap.size + 1) 23 (cellsN .u8 16 fun _ => 0) := by rw [hw9]; exact hI2.2.1.setRow_other (by omega) _); (have hB9 : Below w.heap.size w w9 := by rw [hw9]; exact below_setRow hI2.2.2.2.2 (Nat.le_refl _) _); (clear hw9 hI2)))
            go_roundw
            case rel =>
              refine ⟨m, by omega, by go_num, ?_, hR9, hB9⟩
              rw [show decAt K 14 f (14 - m) = T by
                rw [show 14 - m = (14 - (m + 1)) + 1 by omega]
                show decR K 14 (14 - (14 - (m + 1))) (decAt K 14 f (14 - (m + 1))) = _
                rw [show 14 - (14 - (m + 1)) = m + 1 by omega]
                unfold decR
                rw [if_neg hm, ← HS.out, ← HX.out, ← HT.out]]
              exact hS9
            case measure => first | (simp [intOf]; done) | (simp [intOf]; omega)
    · obtain rfl : k = 0 := by omega
      obtain ⟨s, hse⟩ : ∃ s, s = decAt K 14 f 14 := ⟨_, rfl⟩
      have hS1' : Has wr w.heap.size 23 (cellsN .u8 16 s) := by rw [hse]; exact hS1
      have hs' : Byt s := by rw [hse]; exact hs
      have HS : Hid (s = decAt K 14 f 14) := hse
      clear hS1 hs hse
      have q1 := HA.out wr s 0 hs' (by omega) hB1
      go_wp2_with (first
        | (refine wpList_load_row rfl 23 _ rfl (w.heap.size) rfl 23 _ (0, 0) _ hS1' Try.underlying23 rfl (by rw [cellsN_size]; exact Try.size23) ?_)
        | (go_at_call 35; refine q1.mono ?_; rintro e w2 ⟨rfl, hb2⟩; have hR2 := hR1.below hb2 hR1.lt; have hB2 := hB1.trans (hb2.mono hB1.size); have hN := hR2.setRow (cellsN .u8 16 (xorS s (rk K 0))); clear q1 hS1' hR1 hB1 hb2)
        | (refine wpList_store_row rfl 23 _ _ rfl (w.heap.size + 1) (cellsN .u8 16 (xorS s (rk K 0))) rfl rfl 23 _ hR2 (by rw [cellsN_size]; exact Try.size23) (by simp [cellsN_size]) (cellsN_one _ _ _) ?_))
      refine bodyPost_ret (results_cell_row rfl _ _ (w.heap.size + 1) 23 _ (0, 0) _ rfl hN Try.underlying23 rfl (by rw [cellsN_size]; exact Try.size23)) rfl ⟨?_, below_setRow hB2 (by omega) _⟩
      unfold decS
      rw [← HS.out]

end Go.Proofs.Ytcnlegnfecpdnaa
