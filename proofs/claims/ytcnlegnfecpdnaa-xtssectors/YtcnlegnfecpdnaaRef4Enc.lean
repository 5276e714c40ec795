/- The reference's Encrypt. -/
import Derived.Test.YtcnlegnfecpdnaaRef4Add
namespace Go.Proofs.Ytcnlegnfecpdnaa
open Go.ChangeShapes Go.WideShapes Go.ChangeAt Go.RowKit
set_option linter.unusedVariables false

/-- What is laid of t, row by row. -/
def rowS (T : Nat → Nat) (r c j : Nat) : Nat := if j % 4 < r ∨ (j % 4 = r ∧ j / 4 < c) then T j else 0

theorem rowS_0 (T : Nat → Nat) : rowS T 0 0 = fun _ => 0 := by
  funext j
  unfold rowS
  rw [if_neg (by omega)]

theorem rowS_c (T : Nat → Nat) (r c : Nat) (hr : r < 4) (hc : c < 4) : upd (rowS T r c) (r + 4 * c) (T (r + 4 * c)) = rowS T r (c + 1) := by
  funext j
  unfold upd rowS
  by_cases e : j = r + 4 * c
  · subst e
    rw [if_pos rfl, if_pos (by omega)]
  · rw [if_neg e]
    by_cases h : j % 4 < r ∨ (j % 4 = r ∧ j / 4 < c)
    · rw [if_pos h, if_pos (by omega)]
    · rw [if_neg h, if_neg (by omega)]

theorem rowS_r (T : Nat → Nat) (r : Nat) : cellsN .u8 16 (rowS T r 4) = cellsN .u8 16 (rowS T (r + 1) 0) :=
  cellsN_congr _ _ _ _ (fun j hj => by
    unfold rowS
    by_cases h : j % 4 < r ∨ (j % 4 = r ∧ j / 4 < 4)
    · rw [if_pos h, if_pos (by omega)]
    · rw [if_neg h, if_neg (by omega)])

theorem rowS_all (T : Nat → Nat) : cellsN .u8 16 (rowS T 4 0) = cellsN .u8 16 T :=
  cellsN_congr _ _ _ _ (fun j hj => by unfold rowS; rw [if_pos (by omega)])

def TIn (w : World) (gt : Nat) (s t : Nat → Nat) (wr : World) : Prop :=
  Has wr w.heap.size 23 (cellsN .u8 16 s) ∧ Has wr (w.heap.size + 1) 23 (cellsN .u8 16 fun _ => 0) ∧ Has wr gt 23 (cellsN .u8 16 t) ∧ w.heap.size + 1 < gt ∧ Below w.heap.size w wr

theorem TIn.below {w : World} {gt : Nat} {s t : Nat → Nat} {wr wr' : World} (h : TIn w gt s t wr) (hb : Below wr.heap.size wr wr') : TIn w gt s t wr' :=
  ⟨h.1.below hb h.1.lt, h.2.1.below hb h.2.1.lt, h.2.2.1.below hb h.2.2.1.lt, h.2.2.2.1, h.2.2.2.2.trans (hb.mono h.2.2.2.2.size)⟩

theorem TIn.setT {w : World} {gt : Nat} {s t : Nat → Nat} {wr : World} (h : TIn w gt s t wr) (t' : Nat → Nat) : TIn w gt s t' (wr.setRow gt (cellsN .u8 16 t')) :=
  ⟨h.1.setRow_other (by have := h.2.2.2.1; omega) _, h.2.1.setRow_other (by have := h.2.2.2.1; omega) _, h.2.2.1.setRow _, h.2.2.2.1, below_setRow h.2.2.2.2 (by have := h.2.2.2.1; omega) _⟩

theorem mixed_enc (s : Nat → Nat) (w : World) (hs : Byt s) : Calls Try.prog 36 #[.agg (cellsN .u8 16 s), .agg #[.int .u8 2, .int .u8 3, .int .u8 1, .int .u8 1]] w fun e w' => e = .returned (.agg (cellsN .u8 16 (colS mixN s))) ∧ Below w.heap.size w w' := by
  have := mixed_any s encF w hs (fun j _ => by unfold encF; split <;> (try split) <;> decide)
  rw [cellsN_congr .u8 16 (colS (mixF encF) s) (colS mixN s) (fun j hj => by unfold colS; exact mixF_enc _ (fun r hr => hs _ (by omega)) _ (Nat.mod_lt _ (by decide)))] at this
  exact this

theorem mixed_dec (s : Nat → Nat) (w : World) (hs : Byt s) : Calls Try.prog 36 #[.agg (cellsN .u8 16 s), .agg #[.int .u8 14, .int .u8 11, .int .u8 13, .int .u8 9]] w fun e w' => e = .returned (.agg (cellsN .u8 16 (colS unmixN s))) ∧ Below w.heap.size w w' := by
  have := mixed_any s decF w hs (fun j _ => by unfold decF; split <;> (try split) <;> (try split) <;> decide)
  rw [cellsN_congr .u8 16 (colS (mixF decF) s) (colS unmixN s) (fun j hj => by unfold colS; exact mixF_dec _ (fun r hr => hs _ (by omega)) _ (Nat.mod_lt _ (by decide)))] at this
  exact this

set_option maxRecDepth 100000 in
set_option maxHeartbeats 1600000 in
theorem renc_10 (K f : Nat → Nat) (g c : Nat) (w : World) (hf : Byt f) (hK : ∀ j, K j < 256) (hg : g < w.heap.size) (hc : ∀ j, j < 176 → w.cell? ⟨g, j, none⟩ = some (.int .u8 (K j : Nat))) :
    Calls Try.prog 14 #[.slice (some ⟨g, 0, none⟩) 176 c, .agg (cellsN .u8 16 f)] w fun e w' => e = .returned (.agg (cellsN .u8 16 (encAt K 10 f 10))) ∧ Below w.heap.size w w' := by
  have HA : Hid (∀ wz s k, Byt s → k ≤ 10 → Below w.heap.size w wz → Calls Try.prog 35 #[.agg (cellsN .u8 16 s), .slice (some ⟨g, 0, none⟩) 176 c, .int .i64 (k : Nat)] wz fun e w' => e = .returned (.agg (cellsN .u8 16 (xorS s (rk K k)))) ∧ Below wz.heap.size wz w') :=
    fun wz s k hs hk hb => added_any s K g 176 c k wz hs hK (Nat.lt_of_lt_of_le hg hb.size) (by omega) (by omega) (fun j hj => (hb.cell hg).trans (hc j hj))
  have hR0 : Has ((w.alloc (.cells (cellsN .u8 16 f) 23)).alloc (.cells (cellsN .u8 16 fun _ => 0) 23)) (w.heap.size + 1) 23 (cellsN .u8 16 fun _ => 0) := Has.new_at (by simp)
  have hS0 : Has ((w.alloc (.cells (cellsN .u8 16 f) 23)).alloc (.cells (cellsN .u8 16 fun _ => 0) 23)) w.heap.size 23 (cellsN .u8 16 f) := (Has.new_at rfl).alloc _
  have hb0 := two_below w (.cells (cellsN .u8 16 f) 23) (.cells (cellsN .u8 16 fun _ => 0) 23)
  have hK' : ∀ j, j < 240 → K j < 256 := fun j _ => hK j
  have q0 := HA.out _ f 0 hf (by omega) hb0
  clear hc
  go_enter Try.func14, Try.ntmps14
  go_wp2_with (first
    | (refine wpList_load_row rfl 23 _ rfl (w.heap.size) rfl 23 _ (0, 0) _ hS0 Try.underlying23 rfl (by rw [cellsN_size]; exact Try.size23) ?_)
    | (go_at_call 35; refine q0.mono ?_; rintro e w1 ⟨rfl, hb1⟩; have hS1 := hS0.below hb1 hS0.lt; have hR1 := hR0.below hb1 hR0.lt; have hB1 := hb0.trans (hb1.mono hb0.size); clear q0 hS0 hR0 hb0)
    | (refine wpList_store_rowG rfl 23 _ _ rfl (w.heap.size) (cellsN .u8 16 (xorS f (rk K 0))) rfl rfl 23 _ hS1 (by rw [cellsN_size]; exact Try.size23) (by simp [cellsN_size]) (cellsN_one _ _ _) ?_; intro w2 hw2; (have hS2 : Has w2 w.heap.size 23 (cellsN .u8 16 (xorS f (rk K 0))) := by rw [hw2]; exact hS1.setRow _); (have hR2 : Has w2 (w.heap.size + 1) 23 (cellsN .u8 16 fun _ => 0) := by rw [hw2]; exact hR1.setRow_other (by omega) _); (have hB2 : Below w.heap.size w w2 := by rw [hw2]; exact below_setRow hB1 (Nat.le_refl _) _); (clear hw2 hS1 hR1 hB1 hb1)))
  go_loopw [6] (fun i wr => ∃ k : Nat, k ≤ 10 ∧ i = .int .i64 ((k + 1 : Nat) : Int) ∧ Has wr w.heap.size 23 (cellsN .u8 16 (encAt K 10 f k)) ∧ Has wr (w.heap.size + 1) 23 (cellsN .u8 16 fun _ => 0) ∧ Below w.heap.size w wr)
    (fun i _ => 11 - (intOf i).toNat)
  case atStart => exact ⟨0, Nat.zero_le _, rfl, hS2, hR2, hB2⟩
  case round =>
    clear hS2 hR2 hB2
    obtain ⟨k, hk, rfl, hS, hR, hbel⟩ := hrel
    have hs := encAt_lt hK' 10 hf k (by omega)
    by_cases hlt : k < 10
    · obtain ⟨s, hse⟩ : ∃ s, s = encAt K 10 f k := ⟨_, rfl⟩
      rw [← hse] at hS hs
      have HS : Hid (s = encAt K 10 f k) := hse
      clear hse
      have i1 : (k : Int) + 1 ≤ 10 := by omega
      have hT := hs.sub SB_lt
      have hTT : Byt (turnS 1 (subS SB s)) := hT.turn 1
      obtain ⟨T, hTe⟩ : ∃ T, T = turnS 1 (subS SB s) := ⟨_, rfl⟩
      have HT : Hid (T = turnS 1 (subS SB s)) := hTe
      rw [← hTe] at hTT
      clear hT hTe
      obtain ⟨gt, hgt⟩ : ∃ g, g = wr.heap.size := ⟨_, rfl⟩
      have hI0 : TIn w gt s (fun _ => 0) (wr.alloc (.cells (cellsN .u8 16 fun _ => 0) 23)) := ⟨hS.alloc _, hR.alloc _, Has.new_at hgt, by rw [hgt]; exact hR.lt, hbel.alloc hbel.size _⟩
      clear hS hR hbel
      go_wp2
      rw [← hgt]
      clear hgt
      go_loopw [8] (fun i wr => ∃ r : Nat, r ≤ 4 ∧ i = .int .i64 r ∧ TIn w gt s (rowS T r 0) wr)
        (fun i _ => 4 - (intOf i).toNat)
      case atStart => exact ⟨0, Nat.zero_le _, rfl, by rw [rowS_0]; exact hI0⟩
      case round =>
        clear hI0
        obtain ⟨r, hr, rfl, hI⟩ := hrel
        by_cases hrl : r < 4
        · have ir : (r : Int) < 4 := by omega
          go_wp2
          go_loopw [9] (fun i wr => ∃ c : Nat, c ≤ 4 ∧ i = .int .i64 c ∧ TIn w gt s (rowS T r c) wr)
            (fun i _ => 4 - (intOf i).toNat)
          case atStart => exact ⟨0, Nat.zero_le _, rfl, hI⟩
          case round =>
            clear hI
            obtain ⟨c', hc', rfl, hI⟩ := hrel
            by_cases hcl : c' < 4
            · have ic : (c' : Int) < 4 := by omega
              have hq : r + 4 * ((c' + r) % 4) < 16 := by omega
              have d1 := hI.1.num (r + 4 * ((c' + r) % 4)) hq
              have d2 := hI.2.2.1.num (r + 4 * c') (by omega)
              have d4 := hI.2.2.1.free (r + 4 * c')
              have hsa := fun w => S_any (s (r + 4 * ((c' + r) % 4))) w (hs _ hq)
              go_wp2_with (go_at_call 28; refine (hsa _).mono ?_; rintro e w' ⟨rfl, rfl⟩)
              go_roundw
              case rel =>
                refine ⟨c' + 1, by omega, by go_num, hI.1.other (by have := hI.2.2.2.1; show w.heap.size ≠ gt; omega) _, hI.2.1.other (by have := hI.2.2.2.1; show w.heap.size + 1 ≠ gt; omega) _, ?_, hI.2.2.2.1, hI.2.2.2.2.setCell (by have := hI.2.2.2.1; show w.heap.size ≤ gt; omega) _⟩
                have := hI.2.2.1.set (r + 4 * c') (T (r + 4 * c'))
                rw [rowS_c T r c' hrl hcl] at this
                rw [show SB (s (r + 4 * ((c' + r) % 4))) = T (r + 4 * c') by rw [HT.out]; unfold turnS subS; rw [show (r + 4 * c') % 4 = r by omega, show (r + 4 * c') / 4 = c' by omega, Nat.mul_one]]
                exact this
              case measure => simp [intOf]; omega
            · obtain rfl : c' = 4 := by omega
              have hI2 : TIn w gt s (rowS T (r + 1) 0) wr := by unfold TIn at hI ⊢; rw [← rowS_r]; exact hI
              go_wp2
              go_roundw
              case rel => exact ⟨r + 1, by omega, by go_num, hI2⟩
              case measure => simp [intOf]; omega
        · obtain rfl : r = 4 := by omega
          have hI2 : TIn w gt s T wr := by unfold TIn at hI ⊢; rw [← rowS_all]; exact hI
          clear hI
          by_cases hm : k + 1 < 10
          · have i2 : (k : Int) + 1 < 10 := by omega
            have hmx : Byt (colS mixN T) := hTT.mix
            have qa := fun wz hb => HA.out wz (colS mixN T) (k + 1) hmx (by omega) hb
            go_wp2_with (first
              | (refine wpList_load_row rfl 23 _ rfl (gt) rfl 23 _ (0, 0) _ hI2.2.2.1 Try.underlying23 rfl (by rw [cellsN_size]; exact Try.size23) ?_)
              | (go_at_call 36; refine (mixed_enc T _ hTT).mono ?_; rintro e w4 ⟨rfl, hb4⟩; have hI4 := hI2.below hb4; clear hI2)
              | (refine wpList_store_rowG rfl 23 _ _ rfl (gt) (cellsN .u8 16 (colS mixN T)) rfl rfl 23 _ hI4.2.2.1 (by rw [cellsN_size]; exact Try.size23) (by simp [cellsN_size]) (cellsN_one _ _ _) ?_; intro w5 hw5; (have hI5 := hI4.setT (colS mixN T)); (rw [← hw5] at hI5); (have q5 := qa w5); (clear hw5 hI4 qa))
              | (refine wpList_load_row rfl 23 _ rfl (gt) rfl 23 _ (0, 0) _ hI5.2.2.1 Try.underlying23 rfl (by rw [cellsN_size]; exact Try.size23) ?_)
              | (go_at_call 35; refine (q5 hI5.2.2.2.2).mono ?_; rintro e w6 ⟨rfl, hb6⟩; have hI6 := hI5.below hb6; clear hI5 q5)
              | (refine wpList_store_rowG rfl 23 _ _ rfl (w.heap.size) (cellsN .u8 16 (xorS (colS mixN T) (rk K (k + 1)))) rfl rfl 23 _ hI6.1 (by rw [cellsN_size]; exact Try.size23) (by simp [cellsN_size]) (cellsN_one _ _ _) ?_; intro w7 hw7; (have hS7 : Has w7 w.heap.size 23 (cellsN .u8 16 (xorS (colS mixN T) (rk K (k + 1)))) := by rw [hw7]; exact hI6.1.setRow _); (have hR7 : Has w7 (w.heap.size + 1) 23 (cellsN .u8 16 fun _ => 0) := by rw [hw7]; exact hI6.2.1.setRow_other (by omega) _); (have hB7 : Below w.heap.size w w7 := by rw [hw7]; exact below_setRow hI6.2.2.2.2 (Nat.le_refl _) _); (clear hw7 hI6)))
            go_roundw
            case rel =>
              refine ⟨k + 1, by omega, by go_num, ?_, hR7, hB7⟩
              rw [show encAt K 10 f (k + 1) = xorS (colS mixN T) (rk K (k + 1)) by show encR K 10 (k + 1) (encAt K 10 f k) = _; unfold encR; rw [if_pos hm, ← HS.out, ← HT.out]]
              exact hS7
            case measure => simp [intOf]; omega
          · have i2 : ¬ (k : Int) + 1 < 10 := by omega
            have qa := HA.out wr T (k + 1) hTT (by omega) hI2.2.2.2.2
            go_wp2_with (first
              | (refine wpList_load_row rfl 23 _ rfl (gt) rfl 23 _ (0, 0) _ hI2.2.2.1 Try.underlying23 rfl (by rw [cellsN_size]; exact Try.size23) ?_)
              | (go_at_call 35; refine qa.mono ?_; rintro e w6 ⟨rfl, hb6⟩; have hI6 := hI2.below hb6; clear hI2 qa)
              | (refine wpList_store_rowG rfl 23 _ _ rfl (w.heap.size) (cellsN .u8 16 (xorS T (rk K (k + 1)))) rfl rfl 23 _ hI6.1 (by rw [cellsN_size]; exact Try.size23) (by simp [cellsN_size]) (cellsN_one _ _ _) ?_; intro w7 hw7; (have hS7 : Has w7 w.heap.size 23 (cellsN .u8 16 (xorS T (rk K (k + 1)))) := by rw [hw7]; exact hI6.1.setRow _); (have hR7 : Has w7 (w.heap.size + 1) 23 (cellsN .u8 16 fun _ => 0) := by rw [hw7]; exact hI6.2.1.setRow_other (by omega) _); (have hB7 : Below w.heap.size w w7 := by rw [hw7]; exact below_setRow hI6.2.2.2.2 (Nat.le_refl _) _); (clear hw7 hI6)))
            go_roundw
            case rel =>
              refine ⟨k + 1, by omega, by go_num, ?_, hR7, hB7⟩
              rw [show encAt K 10 f (k + 1) = xorS T (rk K (k + 1)) by show encR K 10 (k + 1) (encAt K 10 f k) = _; unfold encR; rw [if_neg hm, ← HS.out, ← HT.out]]
              exact hS7
            case measure => simp [intOf]; omega
    · obtain rfl : k = 10 := by omega
      have hN := hR.setRow (cellsN .u8 16 (encAt K 10 f 10))
      go_wp2_with (first
        | (refine wpList_load_row rfl 23 _ rfl (w.heap.size) rfl 23 _ (0, 0) _ hS Try.underlying23 rfl (by rw [cellsN_size]; exact Try.size23) ?_)
        | (refine wpList_store_row rfl 23 _ _ rfl (w.heap.size + 1) (cellsN .u8 16 (encAt K 10 f 10)) rfl rfl 23 _ hR (by rw [cellsN_size]; exact Try.size23) (by simp [cellsN_size]) (cellsN_one _ _ _) ?_))
      exact bodyPost_ret (results_cell_row rfl _ _ (w.heap.size + 1) 23 _ (0, 0) _ rfl hN Try.underlying23 rfl (by rw [cellsN_size]; exact Try.size23)) rfl ⟨rfl, below_setRow hbel (by omega) _⟩

set_option maxRecDepth 100000 in
set_option maxHeartbeats 1600000 in
theorem renc_14 (K f : Nat → Nat) (g c : Nat) (w : World) (hf : Byt f) (hK : ∀ j, K j < 256) (hg : g < w.heap.size) (hc : ∀ j, j < 240 → w.cell? ⟨g, j, none⟩ = some (.int .u8 (K j : Nat))) :
    Calls Try.prog 14 #[.slice (some ⟨g, 0, none⟩) 240 c, .agg (cellsN .u8 16 f)] w fun e w' => e = .returned (.agg (cellsN .u8 16 (encAt K 14 f 14))) ∧ Below w.heap.size w w' := by
  have HA : Hid (∀ wz s k, Byt s → k ≤ 14 → Below w.heap.size w wz → Calls Try.prog 35 #[.agg (cellsN .u8 16 s), .slice (some ⟨g, 0, none⟩) 240 c, .int .i64 (k : Nat)] wz fun e w' => e = .returned (.agg (cellsN .u8 16 (xorS s (rk K k)))) ∧ Below wz.heap.size wz w') :=
    fun wz s k hs hk hb => added_any s K g 240 c k wz hs hK (Nat.lt_of_lt_of_le hg hb.size) (by omega) (by omega) (fun j hj => (hb.cell hg).trans (hc j hj))
  have hR0 : Has ((w.alloc (.cells (cellsN .u8 16 f) 23)).alloc (.cells (cellsN .u8 16 fun _ => 0) 23)) (w.heap.size + 1) 23 (cellsN .u8 16 fun _ => 0) := Has.new_at (by simp)
  have hS0 : Has ((w.alloc (.cells (cellsN .u8 16 f) 23)).alloc (.cells (cellsN .u8 16 fun _ => 0) 23)) w.heap.size 23 (cellsN .u8 16 f) := (Has.new_at rfl).alloc _
  have hb0 := two_below w (.cells (cellsN .u8 16 f) 23) (.cells (cellsN .u8 16 fun _ => 0) 23)
  have hK' : ∀ j, j < 240 → K j < 256 := fun j _ => hK j
  have q0 := HA.out _ f 0 hf (by omega) hb0
  clear hc
  go_enter Try.func14, Try.ntmps14
  go_wp2_with (first
    | (refine wpList_load_row rfl 23 _ rfl (w.heap.size) rfl 23 _ (0, 0) _ hS0 Try.underlying23 rfl (by rw [cellsN_size]; exact Try.size23) ?_)
    | (go_at_call 35; refine q0.mono ?_; rintro e w1 ⟨rfl, hb1⟩; have hS1 := hS0.below hb1 hS0.lt; have hR1 := hR0.below hb1 hR0.lt; have hB1 := hb0.trans (hb1.mono hb0.size); clear q0 hS0 hR0 hb0)
    | (refine wpList_store_rowG rfl 23 _ _ rfl (w.heap.size) (cellsN .u8 16 (xorS f (rk K 0))) rfl rfl 23 _ hS1 (by rw [cellsN_size]; exact Try.size23) (by simp [cellsN_size]) (cellsN_one _ _ _) ?_; intro w2 hw2; (have hS2 : Has w2 w.heap.size 23 (cellsN .u8 16 (xorS f (rk K 0))) := by rw [hw2]; exact hS1.setRow _); (have hR2 : Has w2 (w.heap.size + 1) 23 (cellsN .u8 16 fun _ => 0) := by rw [hw2]; exact hR1.setRow_other (by omega) _); (have hB2 : Below w.heap.size w w2 := by rw [hw2]; exact below_setRow hB1 (Nat.le_refl _) _); (clear hw2 hS1 hR1 hB1 hb1)))
  go_loopw [6] (fun i wr => ∃ k : Nat, k ≤ 14 ∧ i = .int .i64 ((k + 1 : Nat) : Int) ∧ Has wr w.heap.size 23 (cellsN .u8 16 (encAt K 14 f k)) ∧ Has wr (w.heap.size + 1) 23 (cellsN .u8 16 fun _ => 0) ∧ Below w.heap.size w wr)
    (fun i _ => 15 - (intOf i).toNat)
  case atStart => exact ⟨0, Nat.zero_le _, rfl, hS2, hR2, hB2⟩
  case round =>
    clear hS2 hR2 hB2
    obtain ⟨k, hk, rfl, hS, hR, hbel⟩ := hrel
    have hs := encAt_lt hK' 14 hf k (by omega)
    by_cases hlt : k < 14
    · obtain ⟨s, hse⟩ : ∃ s, s = encAt K 14 f k := ⟨_, rfl⟩
      rw [← hse] at hS hs
      have HS : Hid (s = encAt K 14 f k) := hse
      clear hse
      have i1 : (k : Int) + 1 ≤ 14 := by omega
      have hT := hs.sub SB_lt
      have hTT : Byt (turnS 1 (subS SB s)) := hT.turn 1
      obtain ⟨T, hTe⟩ : ∃ T, T = turnS 1 (subS SB s) := ⟨_, rfl⟩
      have HT : Hid (T = turnS 1 (subS SB s)) := hTe
      rw [← hTe] at hTT
      clear hT hTe
      obtain ⟨gt, hgt⟩ : ∃ g, g = wr.heap.size := ⟨_, rfl⟩
      have hI0 : TIn w gt s (fun _ => 0) (wr.alloc (.cells (cellsN .u8 16 fun _ => 0) 23)) := ⟨hS.alloc _, hR.alloc _, Has.new_at hgt, by rw [hgt]; exact hR.lt, hbel.alloc hbel.size _⟩
      clear hS hR hbel
      go_wp2
      rw [← hgt]
      clear hgt
      go_loopw [8] (fun i wr => ∃ r : Nat, r ≤ 4 ∧ i = .int .i64 r ∧ TIn w gt s (rowS T r 0) wr)
        (fun i _ => 4 - (intOf i).toNat)
      case atStart => exact ⟨0, Nat.zero_le _, rfl, by rw [rowS_0]; exact hI0⟩
      case round =>
        clear hI0
        obtain ⟨r, hr, rfl, hI⟩ := hrel
        by_cases hrl : r < 4
        · have ir : (r : Int) < 4 := by omega
          go_wp2
          go_loopw [9] (fun i wr => ∃ c : Nat, c ≤ 4 ∧ i = .int .i64 c ∧ TIn w gt s (rowS T r c) wr)
            (fun i _ => 4 - (intOf i).toNat)
          case atStart => exact ⟨0, Nat.zero_le _, rfl, hI⟩
          case round =>
            clear hI
            obtain ⟨c', hc', rfl, hI⟩ := hrel
            by_cases hcl : c' < 4
            · have ic : (c' : Int) < 4 := by omega
              have hq : r + 4 * ((c' + r) % 4) < 16 := by omega
              have d1 := hI.1.num (r + 4 * ((c' + r) % 4)) hq
              have d2 := hI.2.2.1.num (r + 4 * c') (by omega)
              have d4 := hI.2.2.1.free (r + 4 * c')
              have hsa := fun w => S_any (s (r + 4 * ((c' + r) % 4))) w (hs _ hq)
              go_wp2_with (go_at_call 28; refine (hsa _).mono ?_; rintro e w' ⟨rfl, rfl⟩)
              go_roundw
              case rel =>
                refine ⟨c' + 1, by omega, by go_num, hI.1.other (by have := hI.2.2.2.1; show w.heap.size ≠ gt; omega) _, hI.2.1.other (by have := hI.2.2.2.1; show w.heap.size + 1 ≠ gt; omega) _, ?_, hI.2.2.2.1, hI.2.2.2.2.setCell (by have := hI.2.2.2.1; show w.heap.size ≤ gt; omega) _⟩
                have := hI.2.2.1.set (r + 4 * c') (T (r + 4 * c'))
                rw [rowS_c T r c' hrl hcl] at this
                rw [show SB (s (r + 4 * ((c' + r) % 4))) = T (r + 4 * c') by rw [HT.out]; unfold turnS subS; rw [show (r + 4 * c') % 4 = r by omega, show (r + 4 * c') / 4 = c' by omega, Nat.mul_one]]
                exact this
              case measure => simp [intOf]; omega
            · obtain rfl : c' = 4 := by omega
              have hI2 : TIn w gt s (rowS T (r + 1) 0) wr := by unfold TIn at hI ⊢; rw [← rowS_r]; exact hI
              go_wp2
              go_roundw
              case rel => exact ⟨r + 1, by omega, by go_num, hI2⟩
              case measure => simp [intOf]; omega
        · obtain rfl : r = 4 := by omega
          have hI2 : TIn w gt s T wr := by unfold TIn at hI ⊢; rw [← rowS_all]; exact hI
          clear hI
          by_cases hm : k + 1 < 14
          · have i2 : (k : Int) + 1 < 14 := by omega
            have hmx : Byt (colS mixN T) := hTT.mix
            have qa := fun wz hb => HA.out wz (colS mixN T) (k + 1) hmx (by omega) hb
            go_wp2_with (first
              | (refine wpList_load_row rfl 23 _ rfl (gt) rfl 23 _ (0, 0) _ hI2.2.2.1 Try.underlying23 rfl (by rw [cellsN_size]; exact Try.size23) ?_)
              | (go_at_call 36; refine (mixed_enc T _ hTT).mono ?_; rintro e w4 ⟨rfl, hb4⟩; have hI4 := hI2.below hb4; clear hI2)
              | (refine wpList_store_rowG rfl 23 _ _ rfl (gt) (cellsN .u8 16 (colS mixN T)) rfl rfl 23 _ hI4.2.2.1 (by rw [cellsN_size]; exact Try.size23) (by simp [cellsN_size]) (cellsN_one _ _ _) ?_; intro w5 hw5; (have hI5 := hI4.setT (colS mixN T)); (rw [← hw5] at hI5); (have q5 := qa w5); (clear hw5 hI4 qa))
              | (refine wpList_load_row rfl 23 _ rfl (gt) rfl 23 _ (0, 0) _ hI5.2.2.1 Try.underlying23 rfl (by rw [cellsN_size]; exact Try.size23) ?_)
              | (go_at_call 35; refine (q5 hI5.2.2.2.2).mono ?_; rintro e w6 ⟨rfl, hb6⟩; have hI6 := hI5.below hb6; clear hI5 q5)
              | (refine wpList_store_rowG rfl 23 _ _ rfl (w.heap.size) (cellsN .u8 16 (xorS (colS mixN T) (rk K (k + 1)))) rfl rfl 23 _ hI6.1 (by rw [cellsN_size]; exact Try.size23) (by simp [cellsN_size]) (cellsN_one _ _ _) ?_; intro w7 hw7; (have hS7 : Has w7 w.heap.size 23 (cellsN .u8 16 (xorS (colS mixN T) (rk K (k + 1)))) := by rw [hw7]; exact hI6.1.setRow _); (have hR7 : Has w7 (w.heap.size + 1) 23 (cellsN .u8 16 fun _ => 0) := by rw [hw7]; exact hI6.2.1.setRow_other (by omega) _); (have hB7 : Below w.heap.size w w7 := by rw [hw7]; exact below_setRow hI6.2.2.2.2 (Nat.le_refl _) _); (clear hw7 hI6)))
            go_roundw
            case rel =>
              refine ⟨k + 1, by omega, by go_num, ?_, hR7, hB7⟩
              rw [show encAt K 14 f (k + 1) = xorS (colS mixN T) (rk K (k + 1)) by show encR K 14 (k + 1) (encAt K 14 f k) = _; unfold encR; rw [if_pos hm, ← HS.out, ← HT.out]]
              exact hS7
            case measure => simp [intOf]; omega
          · have i2 : ¬ (k : Int) + 1 < 14 := by omega
            have qa := HA.out wr T (k + 1) hTT (by omega) hI2.2.2.2.2
            go_wp2_with (first
              | (refine wpList_load_row rfl 23 _ rfl (gt) rfl 23 _ (0, 0) _ hI2.2.2.1 Try.underlying23 rfl (by rw [cellsN_size]; exact Try.size23) ?_)
              | (go_at_call 35; refine qa.mono ?_; rintro e w6 ⟨rfl, hb6⟩; have hI6 := hI2.below hb6; clear hI2 qa)
              | (refine wpList_store_rowG rfl 23 _ _ rfl (w.heap.size) (cellsN .u8 16 (xorS T (rk K (k + 1)))) rfl rfl 23 _ hI6.1 (by rw [cellsN_size]; exact Try.size23) (by simp [cellsN_size]) (cellsN_one _ _ _) ?_; intro w7 hw7; (have hS7 : Has w7 w.heap.size 23 (cellsN .u8 16 (xorS T (rk K (k + 1)))) := by rw [hw7]; exact hI6.1.setRow _); (have hR7 : Has w7 (w.heap.size + 1) 23 (cellsN .u8 16 fun _ => 0) := by rw [hw7]; exact hI6.2.1.setRow_other (by omega) _); (have hB7 : Below w.heap.size w w7 := by rw [hw7]; exact below_setRow hI6.2.2.2.2 (Nat.le_refl _) _); (clear hw7 hI6)))
            go_roundw
            case rel =>
              refine ⟨k + 1, by omega, by go_num, ?_, hR7, hB7⟩
              rw [show encAt K 14 f (k + 1) = xorS T (rk K (k + 1)) by show encR K 14 (k + 1) (encAt K 14 f k) = _; unfold encR; rw [if_neg hm, ← HS.out, ← HT.out]]
              exact hS7
            case measure => simp [intOf]; omega
    · obtain rfl : k = 14 := by omega
      have hN := hR.setRow (cellsN .u8 16 (encAt K 14 f 14))
      go_wp2_with (first
        | (refine wpList_load_row rfl 23 _ rfl (w.heap.size) rfl 23 _ (0, 0) _ hS Try.underlying23 rfl (by rw [cellsN_size]; exact Try.size23) ?_)
        | (refine wpList_store_row rfl 23 _ _ rfl (w.heap.size + 1) (cellsN .u8 16 (encAt K 14 f 14)) rfl rfl 23 _ hR (by rw [cellsN_size]; exact Try.size23) (by simp [cellsN_size]) (cellsN_one _ _ _) ?_))
      exact bodyPost_ret (results_cell_row rfl _ _ (w.heap.size + 1) 23 _ (0, 0) _ rfl hN Try.underlying23 rfl (by rw [cellsN_size]; exact Try.size23)) rfl ⟨rfl, below_setRow hbel (by omega) _⟩

end Go.Proofs.Ytcnlegnfecpdnaa
