/- aes: expand, at a key of 16 bytes. -/
import Derived.Test.YtcnlegnfecpdnaaAesWords
namespace Go.Proofs.Ytcnlegnfecpdnaa
open Go.ChangeShapes Go.WideShapes Go.ChangeAt Go.RowKit
set_option linter.unusedVariables false

set_option maxRecDepth 100000 in
set_option maxHeartbeats 1600000 in
theorem expand_4 (key : Nat → Nat) (b o cap : Nat) (w : World) (hk : ∀ j, j < 16 → key j < 256) (hb : b < w.heap.size) (hcap : 16 ≤ cap) (hc : ∀ j, j < 16 → w.cell? ⟨b, o + j, none⟩ = some (.int .u8 (key j : Nat))) :
    Calls Try.prog 25 #[.slice (some ⟨b, o, none⟩) 16 cap] w fun e w' => ∃ g, e = .returned (.slice (some ⟨g, 0, none⟩) 44 44) ∧ w.heap.size ≤ g ∧ Has w' g 58 (cellsN .u8 176 (flat 4 key 44)) ∧ Below w.heap.size w w' := by
  have hsb := substitutes_any w
  have hz := (zero_of_info Try.zero52).1
  have hmk := make44
  obtain ⟨Z, hZ⟩ : ∃ Z, Z = cellsN .u8 256 fun _ => 0 := ⟨_, rfl⟩
  rw [← hZ] at hz
  have HZ : Hid (Z.size = 256) := (by rw [hZ, cellsN_size] : Z.size = 256)
  clear hZ
  go_enter Try.func25, Try.ntmps25
  go_wp2_with (first
    | (go_at_call 27; refine hsb.mono ?_; rintro e w1 ⟨rfl, hb1⟩; have hn1 : Has (w1.alloc (.cells Z 52)) w1.heap.size 52 Z := Has.new _ _ _)
    | (refine wpList_store_rowG rfl 52 _ _ rfl w1.heap.size (cellsN .u8 256 SB) rfl rfl 52 _ hn1 (by rw [cellsN_size]; exact Try.size52) (by rw [cellsN_size]; exact HZ.out) (cellsN_one _ _ _) ?_
       intro w2 hw2
       have hT2 : Has w2 w1.heap.size 52 (cellsN .u8 256 SB) := by rw [hw2]; exact hn1.setRow _
       have hb2 : Below w.heap.size w w2 := by rw [hw2]; exact below_setRow (hb1.alloc hb1.size _) hb1.size _
       have hs2 : w.heap.size ≤ w1.heap.size := hb1.size
       clear hw2 hn1 hb1 hsb hz))
  go_loopw [6, 21] (fun p i wr => ∃ k : Nat, k ≤ 44 ∧ i = .int .i64 k ∧ p = .int .u8 (pw ((k - 1) / 4) : Nat) ∧ Has wr w1.heap.size 52 (cellsN .u8 256 SB) ∧ Has wr w2.heap.size 58 (cellsN .u8 176 (flat 4 key k)) ∧ w1.heap.size < w2.heap.size ∧ Below w.heap.size w wr)
    (fun _ i _ => 44 - (intOf i).toNat)
  case atStart => exact ⟨0, Nat.zero_le _, rfl, rfl, hT2.alloc _, Has.new _ _ _, hT2.lt, hb2.alloc hb2.size _⟩
  case round =>
    clear hT2 hb2 hmk
    obtain ⟨k, hkT, rfl, rfl, hTb, hWd, h12, hbel⟩ := hrel
    by_cases hlt : k < 44
    · have i1 : (k : Int) < 44 := by omega
      have i0 : (0 : Int) ≤ (k : Int) := by omega
      by_cases hkn : k < 4
      · -- a word of the key
        have hsrc : ∀ j v, (cellsN .u8 4 (fun r => key (k * 4 + r))).toList[j]? = some v → wr.drew.cell? ((⟨b, o + k * 4, none⟩ : Addr).add j) = some v := by
          intro j v hv
          rw [Array.getElem?_toList] at hv
          by_cases hj : j < 4
          · rw [cellsN_get _ _ _ _ hj] at hv
            rw [Addr.add_mid, Nat.add_assoc, hbel.drew.cell (p := ⟨b, o + (k * 4 + j), none⟩) hb, hc (k * 4 + j) (by omega)]
            exact hv
          · rw [show (cellsN .u8 4 (fun r => key (k * 4 + r)))[j]? = none by simp [cellsN]; omega] at hv
            cases hv
        have i2 : (k : Int) < 4 := by omega
        go_wp2_with fail
        refine wp_region_held_drew (S := fun _ => True) (by kernel_rfl) trivial (fun hHeld => ?_)
        refine takeTo 0 (some 27) (.slice (some ⟨w2.heap.size, 0, none⟩) 44 44) rfl rfl (by kernel_rfl) (by kernel_rfl) (by kernel_rfl) (fun _ _ _ h => h) (by rfl) (fun _ _ => rfl) hHeld ?_
        simp only [Act.put, List.setIfInBounds_toArray, List.set_cons_zero, List.set_cons_succ]
        refine takeTo 1 (some 28) (.int .i64 (k : Int)) rfl rfl (by kernel_rfl) (by kernel_rfl) (by kernel_rfl) (fun _ _ _ h => h) (by rfl) (fun _ _ => rfl) hHeld ?_
        simp only [Act.put, List.setIfInBounds_toArray, List.set_cons_zero, List.set_cons_succ]
        refine takeTo 2 (some 29) (.pointer (some ⟨w2.heap.size, 0 + k * 4, none⟩)) rfl rfl (by kernel_rfl) (by kernel_rfl) (by kernel_rfl) (fun _ _ _ h => h) (by rfl) (fun wz _ => run_indexAddrS 50 _ _ rfl w2.heap.size 0 k 44 44 4 58 rfl rfl Try.underlying50 Try.size58 hlt wz) hHeld ?_
        simp only [Act.put, List.setIfInBounds_toArray, List.set_cons_zero, List.set_cons_succ]
        refine takeTo 3 (some 30) (.slice (some ⟨w2.heap.size, 0 + k * 4, none⟩) 4 4) rfl rfl (by kernel_rfl) (by kernel_rfl) (by kernel_rfl) (fun _ _ _ h => h) (by rfl) (fun wz _ => run_slice_word _ rfl w2.heap.size (0 + k * 4) rfl wz) hHeld ?_
        simp only [Act.put, List.setIfInBounds_toArray, List.set_cons_zero, List.set_cons_succ]
        refine takeTo 4 (some 31) (.slice (some ⟨b, o, none⟩) 16 cap) rfl rfl (by kernel_rfl) (by kernel_rfl) (by kernel_rfl) (fun _ _ _ h => h) (by rfl) (fun _ _ => rfl) hHeld ?_
        simp only [Act.put, List.setIfInBounds_toArray, List.set_cons_zero, List.set_cons_succ]
        refine takeTo 5 (some 32) (.int .i64 (k : Int)) rfl rfl (by kernel_rfl) (by kernel_rfl) (by kernel_rfl) (fun _ _ _ h => h) (by rfl) (fun _ _ => rfl) hHeld ?_
        simp only [Act.put, List.setIfInBounds_toArray, List.set_cons_zero, List.set_cons_succ]
        refine takeTo 6 (some 33) (.int .i64 ((k * 4 : Nat) : Int)) rfl rfl (by kernel_rfl) (by kernel_rfl) (by kernel_rfl) (fun _ _ _ h => h) (by rfl) (fun wz _ => run_mul4 _ rfl k rfl (by omega) wz) hHeld ?_
        simp only [Act.put, List.setIfInBounds_toArray, List.set_cons_zero, List.set_cons_succ]
        refine takeTo 7 (some 34) (.slice (some ⟨b, o + k * 4, none⟩) (16 - k * 4) (cap - k * 4)) rfl rfl (by kernel_rfl) (by kernel_rfl) (by kernel_rfl) (fun _ _ _ h => h) (by rfl) (fun wz _ => run_slice_low _ _ rfl b o 16 cap (k * 4) rfl rfl (by omega) hcap wz) hHeld ?_
        simp only [Act.put, List.setIfInBounds_toArray, List.set_cons_zero, List.set_cons_succ]
        refine ready1 8 (by kernel_rfl) (stepVal (some 35) _ _ rfl rfl (by rfl) (run_copy_op (w := wr.drew) _ _ 22 22 rfl 5 Try.underlying22 one_u8 w2.heap.size (0 + k * 4) 4 4 ⟨b, o + k * 4, none⟩ (16 - k * 4) (cap - k * 4) rfl rfl (cellsN .u8 176 (flat 4 key k)) 58 hWd (cellsN .u8 4 (fun r => key (k * 4 + r))).toList (by rw [Array.length_toList, cellsN_size]; exact (Nat.min_eq_right (show 4 ≤ 16 - k * 4 by omega)).symm) hsrc (by rw [Array.length_toList, cellsN_size, cellsN_size]; omega) (oneCells _ _ _)) ⟨trivial, ?_⟩)
        rw [cellsN_splice _ _ _ _ _ _ (show 0 + k * 4 + 4 ≤ 176 by omega), Nat.zero_add, flat_low 4 key k hkn]
        have hW3 : Has (wr.drew.setRow w2.heap.size (cellsN .u8 176 (flat 4 key (k + 1)))) w2.heap.size 58 (cellsN .u8 176 (flat 4 key (k + 1))) := Has.setRow (w := wr.drew) hWd _
        have hT3 : Has (wr.drew.setRow w2.heap.size (cellsN .u8 176 (flat 4 key (k + 1)))) w1.heap.size 52 (cellsN .u8 256 SB) := Has.setRow_other (w := wr.drew) hTb (by omega) _
        have hb3 : Below w.heap.size w (wr.drew.setRow w2.heap.size (cellsN .u8 176 (flat 4 key (k + 1)))) := below_setRow hbel.drew (by omega) _
        obtain ⟨w3, hw3⟩ : ∃ x, x = wr.drew.setRow w2.heap.size (cellsN .u8 176 (flat 4 key (k + 1))) := ⟨_, rfl⟩
        rw [← hw3] at hW3 hT3 hb3 ⊢
        clear hw3 hsrc hHeld
        simp only [Act.put, List.setIfInBounds_toArray, List.set_cons_zero, List.set_cons_succ]
        refine wpAnyH_done (by kernel_rfl) ?_ _
        go_wp2
        go_roundw
        case rel => exact ⟨k + 1, by omega, by go_num, by rw [show (k + 1 - 1) / 4 = (k - 1) / 4 by omega], hT3, hW3, h12, hb3⟩
        case measure => simp [intOf]; omega
      · obtain ⟨q, rfl⟩ : ∃ q, k = q + 4 := ⟨k - 4, by omega⟩
        have hfl := flat_lt 4 key hk (q + 4)
        obtain ⟨W, hW⟩ : ∃ W, W = flat 4 key (q + 4) := ⟨_, rfl⟩
        rw [← hW] at hfl hWd
        have HW : Hid (W = flat 4 key (q + 4)) := hW
        clear hW
        have hr1 := range_of_has hWd ((q + 3) * 4) 4 (by omega)
        have hn3 : Has (wr.alloc (.cells (cellsN .u8 4 fun _ => 0) 58)) wr.heap.size 58 (cellsN .u8 4 fun _ => 0) := Has.new _ _ _
        have i2 : ¬ (q : Int) + 4 < 4 := by omega
        have i3 : (q : Int) < 40 := by omega
        have i4 : (0 : Int) ≤ (q : Int) := by omega
        by_cases hmod : q % 4 = 0
        · have j2 : (q : Int) % 4 = 0 := by omega
          have j3 : ((q : Int) + 4) % 4 = 0 := by omega
          obtain ⟨x0, h0⟩ : ∃ x, x = W ((q + 3) * 4 + 0) := ⟨_, rfl⟩
          obtain ⟨x1, h1⟩ : ∃ x, x = W ((q + 3) * 4 + 1) := ⟨_, rfl⟩
          obtain ⟨x2, h2⟩ : ∃ x, x = W ((q + 3) * 4 + 2) := ⟨_, rfl⟩
          obtain ⟨x3, h3⟩ : ∃ x, x = W ((q + 3) * 4 + 3) := ⟨_, rfl⟩
          have g0 : x0 < 256 := h0 ▸ hfl _
          have g1 : x1 < 256 := h1 ▸ hfl _
          have g2 : x2 < 256 := h2 ▸ hfl _
          have g3 : x3 < 256 := h3 ▸ hfl _
          have hcx : cellsN .u8 4 (fun r => W ((q + 3) * 4 + r)) = cellsN .u8 4 (four x0 x1 x2 x3) := by rw [h0, h1, h2, h3]; rfl
          have H4 : Hid (x0 = W ((q + 3) * 4 + 0) ∧ x1 = W ((q + 3) * 4 + 1) ∧ x2 = W ((q + 3) * 4 + 2) ∧ x3 = W ((q + 3) * 4 + 3)) := ⟨h0, h1, h2, h3⟩
          have HCX : Hid (cellsN .u8 4 (fun r => W ((q + 3) * 4 + r)) = cellsN .u8 4 (four x0 x1 x2 x3)) := hcx
          clear h0 h1 h2 h3 hcx
          have hpl := pw_lt ((q + 3) / 4)
          go_wp2_with (first
            | (refine (wpList_load_mid rfl 58 _ rfl w2.heap.size ((q + 3) * 4) rfl (cellsN .u8 4 (fun r => W ((q + 3) * 4 + r))).toList _ hr1 Try.underlying58 rfl (by rw [Array.length_toList, cellsN_size]; exact Try.size58) ?_); rw [Array.toArray_toList])
            | (refine wpList_store_rowG rfl 58 _ _ rfl wr.heap.size (cellsN .u8 4 (fun r => W ((q + 3) * 4 + r))) rfl rfl 58 _ hn3 (by rw [cellsN_size]; exact Try.size58) (by simp [cellsN_size]) (cellsN_one _ _ _) ?_
               intro w3 hw3
               have hX3 : Has w3 wr.heap.size 58 (cellsN .u8 4 (fun r => W ((q + 3) * 4 + r))) := by rw [hw3]; exact hn3.setRow _
               have hT3 : Has w3 w1.heap.size 52 (cellsN .u8 256 SB) := by rw [hw3]; exact (hTb.alloc _).setRow_other (by have := hTb.lt; omega) _
               have hW3 : Has w3 w2.heap.size 58 (cellsN .u8 176 W) := by rw [hw3]; exact (hWd.alloc _).setRow_other (by have := hWd.lt; omega) _
               have hb3 : Below w.heap.size w w3 := by rw [hw3]; exact below_setRow (hbel.alloc hbel.size _) hbel.size _
               have ht8 : w2.heap.size < wr.heap.size := hWd.lt
               have hr2 := range_of_has hW3 (q * 4) 4 (by omega)
               clear hw3 hn3 hTb hWd hbel hr1))
          rw [HCX.out] at hX3
          refine lastTo (S := fun w' => Has w' w1.heap.size 52 (cellsN .u8 256 SB) ∧ Has w' wr.heap.size 58 (cellsN .u8 4 (four x0 x1 x2 x3))) 19 (by kernel_rfl) ⟨hT3, hX3⟩ (fun hHeld => ?_)
          refine takeL 0 (some 46) (.pointer (some ⟨wr.heap.size, 0 + 1, none⟩)) rfl rfl (by decide) (by kernel_rfl) (by kernel_rfl) (by kernel_rfl) (by kernel_rfl) (fun _ _ _ h => h) (by rfl) (fun wz _ => run_indexK .i64 58 _ _ rfl wr.heap.size 0 1 4 5 rfl rfl Try.underlying58 one_u8 (by omega) wz) hHeld ?_
          simp only [Act.put, List.setIfInBounds_toArray, List.set_cons_zero, List.set_cons_succ]
          refine takeL 1 (some 47) (.int .u8 (x1 : Nat)) rfl rfl (by decide) (by kernel_rfl) (by kernel_rfl) (by kernel_rfl) (by kernel_rfl) (fun _ _ _ h => h) (by rfl) (fun wz hz => run_load_u8 _ rfl wr.heap.size (0 + 1) rfl _ wz (hz.2.num 1 (by omega))) hHeld ?_
          simp only [Act.put, List.setIfInBounds_toArray, List.set_cons_zero, List.set_cons_succ]
          refine takeL 2 (some 48) (.pointer (some ⟨w1.heap.size, 0 + x1, none⟩)) rfl rfl (by decide) (by kernel_rfl) (by kernel_rfl) (by kernel_rfl) (by kernel_rfl) (fun _ _ _ h => h) (by rfl) (fun wz _ => run_indexK .u8 52 _ _ rfl w1.heap.size 0 x1 256 5 rfl rfl Try.underlying52 one_u8 g1 wz) hHeld ?_
          simp only [Act.put, List.setIfInBounds_toArray, List.set_cons_zero, List.set_cons_succ]
          refine takeL 3 (some 49) (.int .u8 (SB x1 : Nat)) rfl rfl (by decide) (by kernel_rfl) (by kernel_rfl) (by kernel_rfl) (by kernel_rfl) (fun _ _ _ h => h) (by rfl) (fun wz hz => run_load_u8 _ rfl w1.heap.size (0 + x1) rfl _ wz (by rw [Nat.zero_add]; exact hz.1.num x1 g1)) hHeld ?_
          simp only [Act.put, List.setIfInBounds_toArray, List.set_cons_zero, List.set_cons_succ]
          refine takeL 4 (some 50) (.int .u8 (pw ((q + 3) / 4) : Nat)) rfl rfl (by decide) (by kernel_rfl) (by kernel_rfl) (by kernel_rfl) (by kernel_rfl) (fun _ _ _ h => h) (by rfl) (fun _ _ => rfl) hHeld ?_
          simp only [Act.put, List.setIfInBounds_toArray, List.set_cons_zero, List.set_cons_succ]
          refine takeL 5 (some 51) (.int .u8 ((SB x1 ^^^ pw ((q + 3) / 4) : Nat) : Int)) rfl rfl (by decide) (by kernel_rfl) (by kernel_rfl) (by kernel_rfl) (by kernel_rfl) (fun _ _ _ h => h) (by rfl) (fun wz _ => run_xor8 _ _ rfl (SB x1) _ rfl rfl (SB_lt x1 g1) hpl wz) hHeld ?_
          simp only [Act.put, List.setIfInBounds_toArray, List.set_cons_zero, List.set_cons_succ]
          refine takeL 6 (some 52) (.pointer (some ⟨wr.heap.size, 0 + 2, none⟩)) rfl rfl (by decide) (by kernel_rfl) (by kernel_rfl) (by kernel_rfl) (by kernel_rfl) (fun _ _ _ h => h) (by rfl) (fun wz _ => run_indexK .i64 58 _ _ rfl wr.heap.size 0 2 4 5 rfl rfl Try.underlying58 one_u8 (by omega) wz) hHeld ?_
          simp only [Act.put, List.setIfInBounds_toArray, List.set_cons_zero, List.set_cons_succ]
          refine takeL 7 (some 53) (.int .u8 (x2 : Nat)) rfl rfl (by decide) (by kernel_rfl) (by kernel_rfl) (by kernel_rfl) (by kernel_rfl) (fun _ _ _ h => h) (by rfl) (fun wz hz => run_load_u8 _ rfl wr.heap.size (0 + 2) rfl _ wz (hz.2.num 2 (by omega))) hHeld ?_
          simp only [Act.put, List.setIfInBounds_toArray, List.set_cons_zero, List.set_cons_succ]
          refine takeL 8 (some 54) (.pointer (some ⟨w1.heap.size, 0 + x2, none⟩)) rfl rfl (by decide) (by kernel_rfl) (by kernel_rfl) (by kernel_rfl) (by kernel_rfl) (fun _ _ _ h => h) (by rfl) (fun wz _ => run_indexK .u8 52 _ _ rfl w1.heap.size 0 x2 256 5 rfl rfl Try.underlying52 one_u8 g2 wz) hHeld ?_
          simp only [Act.put, List.setIfInBounds_toArray, List.set_cons_zero, List.set_cons_succ]
          refine takeL 9 (some 55) (.int .u8 (SB x2 : Nat)) rfl rfl (by decide) (by kernel_rfl) (by kernel_rfl) (by kernel_rfl) (by kernel_rfl) (fun _ _ _ h => h) (by rfl) (fun wz hz => run_load_u8 _ rfl w1.heap.size (0 + x2) rfl _ wz (by rw [Nat.zero_add]; exact hz.1.num x2 g2)) hHeld ?_
          simp only [Act.put, List.setIfInBounds_toArray, List.set_cons_zero, List.set_cons_succ]
          refine takeL 10 (some 56) (.pointer (some ⟨wr.heap.size, 0 + 3, none⟩)) rfl rfl (by decide) (by kernel_rfl) (by kernel_rfl) (by kernel_rfl) (by kernel_rfl) (fun _ _ _ h => h) (by rfl) (fun wz _ => run_indexK .i64 58 _ _ rfl wr.heap.size 0 3 4 5 rfl rfl Try.underlying58 one_u8 (by omega) wz) hHeld ?_
          simp only [Act.put, List.setIfInBounds_toArray, List.set_cons_zero, List.set_cons_succ]
          refine takeL 11 (some 57) (.int .u8 (x3 : Nat)) rfl rfl (by decide) (by kernel_rfl) (by kernel_rfl) (by kernel_rfl) (by kernel_rfl) (fun _ _ _ h => h) (by rfl) (fun wz hz => run_load_u8 _ rfl wr.heap.size (0 + 3) rfl _ wz (hz.2.num 3 (by omega))) hHeld ?_
          simp only [Act.put, List.setIfInBounds_toArray, List.set_cons_zero, List.set_cons_succ]
          refine takeL 12 (some 58) (.pointer (some ⟨w1.heap.size, 0 + x3, none⟩)) rfl rfl (by decide) (by kernel_rfl) (by kernel_rfl) (by kernel_rfl) (by kernel_rfl) (fun _ _ _ h => h) (by rfl) (fun wz _ => run_indexK .u8 52 _ _ rfl w1.heap.size 0 x3 256 5 rfl rfl Try.underlying52 one_u8 g3 wz) hHeld ?_
          simp only [Act.put, List.setIfInBounds_toArray, List.set_cons_zero, List.set_cons_succ]
          refine takeL 13 (some 59) (.int .u8 (SB x3 : Nat)) rfl rfl (by decide) (by kernel_rfl) (by kernel_rfl) (by kernel_rfl) (by kernel_rfl) (fun _ _ _ h => h) (by rfl) (fun wz hz => run_load_u8 _ rfl w1.heap.size (0 + x3) rfl _ wz (by rw [Nat.zero_add]; exact hz.1.num x3 g3)) hHeld ?_
          simp only [Act.put, List.setIfInBounds_toArray, List.set_cons_zero, List.set_cons_succ]
          refine takeL 14 (some 60) (.pointer (some ⟨wr.heap.size, 0 + 0, none⟩)) rfl rfl (by decide) (by kernel_rfl) (by kernel_rfl) (by kernel_rfl) (by kernel_rfl) (fun _ _ _ h => h) (by rfl) (fun wz _ => run_indexK .i64 58 _ _ rfl wr.heap.size 0 0 4 5 rfl rfl Try.underlying58 one_u8 (by omega) wz) hHeld ?_
          simp only [Act.put, List.setIfInBounds_toArray, List.set_cons_zero, List.set_cons_succ]
          refine takeL 15 (some 61) (.int .u8 (x0 : Nat)) rfl rfl (by decide) (by kernel_rfl) (by kernel_rfl) (by kernel_rfl) (by kernel_rfl) (fun _ _ _ h => h) (by rfl) (fun wz hz => run_load_u8 _ rfl wr.heap.size (0 + 0) rfl _ wz (hz.2.num 0 (by omega))) hHeld ?_
          simp only [Act.put, List.setIfInBounds_toArray, List.set_cons_zero, List.set_cons_succ]
          refine takeL 16 (some 62) (.pointer (some ⟨w1.heap.size, 0 + x0, none⟩)) rfl rfl (by decide) (by kernel_rfl) (by kernel_rfl) (by kernel_rfl) (by kernel_rfl) (fun _ _ _ h => h) (by rfl) (fun wz _ => run_indexK .u8 52 _ _ rfl w1.heap.size 0 x0 256 5 rfl rfl Try.underlying52 one_u8 g0 wz) hHeld ?_
          simp only [Act.put, List.setIfInBounds_toArray, List.set_cons_zero, List.set_cons_succ]
          refine takeL 17 (some 63) (.int .u8 (SB x0 : Nat)) rfl rfl (by decide) (by kernel_rfl) (by kernel_rfl) (by kernel_rfl) (by kernel_rfl) (fun _ _ _ h => h) (by rfl) (fun wz hz => run_load_u8 _ rfl w1.heap.size (0 + x0) rfl _ wz (by rw [Nat.zero_add]; exact hz.1.num x0 g0)) hHeld ?_
          simp only [Act.put, List.setIfInBounds_toArray, List.set_cons_zero, List.set_cons_succ]
          refine takeL 18 (some 64) (.agg (cellsN .u8 4 (four (SB x1 ^^^ pw ((q + 3) / 4)) (SB x2) (SB x3) (SB x0)))) rfl rfl (by decide) (by kernel_rfl) (by kernel_rfl) (by kernel_rfl) (by kernel_rfl) (fun _ _ _ h => h) (by rfl) (fun wz _ => run_build4 _ _ _ _ rfl _ _ _ _ rfl rfl rfl rfl wz) hHeld ?_
          simp only [Act.put, List.setIfInBounds_toArray, List.set_cons_zero, List.set_cons_succ]
          refine lastSkip 19 none (w3.drew.setRow wr.heap.size (cellsN .u8 4 (four (SB x1 ^^^ pw ((q + 3) / 4)) (SB x2) (SB x3) (SB x0)))) (by kernel_rfl) rfl rfl (by rfl) (run_store_row 58 _ _ rfl wr.heap.size rfl _ rfl 58 (by rw [cellsN_size]; exact Try.size58) _ hX3 (by simp [cellsN_size]) (cellsN_one _ _ _)) (by kernel_rfl) ?_
          simp only [Act.put]
          have hx4 := H4.out
          have hX5 : Has (w3.drew.setRow wr.heap.size (cellsN .u8 4 (four (SB x1 ^^^ pw ((q + 3) / 4)) (SB x2) (SB x3) (SB x0)))) wr.heap.size 58 (cellsN .u8 4 (four (SB x1 ^^^ pw ((q + 3) / 4)) (SB x2) (SB x3) (SB x0))) := Has.setRow (w := w3.drew) hX3 _
          have hT5 : Has (w3.drew.setRow wr.heap.size (cellsN .u8 4 (four (SB x1 ^^^ pw ((q + 3) / 4)) (SB x2) (SB x3) (SB x0)))) w1.heap.size 52 (cellsN .u8 256 SB) := Has.setRow_other (w := w3.drew) hT3 (by omega) _
          have hW5 : Has (w3.drew.setRow wr.heap.size (cellsN .u8 4 (four (SB x1 ^^^ pw ((q + 3) / 4)) (SB x2) (SB x3) (SB x0)))) w2.heap.size 58 (cellsN .u8 176 W) := Has.setRow_other (w := w3.drew) hW3 (by omega) _
          have hb5 : Below w.heap.size w (w3.drew.setRow wr.heap.size (cellsN .u8 4 (four (SB x1 ^^^ pw ((q + 3) / 4)) (SB x2) (SB x3) (SB x0)))) := below_setRow hb3.drew (by omega) _
          obtain ⟨w5, hw5⟩ : ∃ x, x = w3.drew.setRow wr.heap.size (cellsN .u8 4 (four (SB x1 ^^^ pw ((q + 3) / 4)) (SB x2) (SB x3) (SB x0))) := ⟨_, rfl⟩
          rw [← hw5] at hX5 hT5 hW5 hb5 ⊢
          rw [show (cellsN .u8 4 (four (SB x1 ^^^ pw ((q + 3) / 4)) (SB x2) (SB x3) (SB x0))) = cellsN .u8 4 (tw 4 W (q + 4)) by rw [hx4.1, hx4.2.1, hx4.2.2.1, hx4.2.2.2]; exact tw_turn 4 W q _ (by omega) hmod rfl] at hX5
          clear hw5 hx4 hHeld hX3 hT3 hW3 hb3 hr2 H4 HCX
          have hr2 := range_of_has hW5 (q * 4) 4 (by omega)
          go_wp2_with (first
            | (go_at_call 42; refine (double_any _ _ hpl).mono ?_; rintro e w' ⟨rfl, rfl⟩)
            | (refine wpList_load_mid rfl 58 _ rfl w2.heap.size (q * 4) rfl (cellsN .u8 4 (fun r => W (q * 4 + r))).toList _ hr2 Try.underlying58 rfl (by rw [Array.length_toList, cellsN_size]; exact Try.size58) ?_; rw [Array.toArray_toList]))
          have HNW : Hid (∀ j, nw 4 key W (q + 4) j = W (4 * q + j) ^^^ tw 4 W (q + 4) j) := nw_high 4 key W q
          have htl := tw_lt 4 W hfl (q + 4)
          obtain ⟨TW, hTW⟩ : ∃ TW, TW = tw 4 W (q + 4) := ⟨_, rfl⟩
          rw [← hTW] at hX5 HNW htl
          clear hTW
          go_loopw [100] (fun i wr2 => ∃ j : Nat, j ≤ 4 ∧ i = .int .i64 j ∧ Has wr2 w1.heap.size 52 (cellsN .u8 256 SB) ∧ Has wr2 w2.heap.size 58 (cellsN .u8 176 (flatJ 4 key W (q + 4) j)) ∧ Has wr2 wr.heap.size 58 (cellsN .u8 4 TW) ∧ Below w.heap.size w wr2)
            (fun i _ => 4 - (intOf i).toNat)
          case atStart => exact ⟨0, Nat.zero_le _, rfl, hT5, by rw [flatJ_0]; exact hW5, hX5, hb5⟩
          case round =>
            clear hT5 hW5 hX5 hb5 hr2
            obtain ⟨j, hj4, rfl, hT6, hW6, hX6, hb6⟩ := hrel
            by_cases hj : j < 4
            · have hix := index4 (fun r => W (q * 4 + r)) j wr hj
              have j1 : (j : Int) < 4 := by omega
              have j0 : (0 : Int) ≤ (j : Int) := by omega
              have c1 := hX6.num j hj
              have c2 := hW6.num ((q + 4) * 4 + j) (by omega)
              have f2 := hW6.free ((q + 4) * 4 + j)
              have hx := x8 (hfl (q * 4 + j)) (htl j)
              go_wp2_with fail
              go_region
              go_wp2
              go_roundw
              case rel =>
                refine ⟨j + 1, by omega, by go_num, hT6.other (by simp; omega) _, ?_, hX6.other (by simp; omega) _, (hb6.setCell (by simp; omega) _).drew⟩
                rw [show W (q * 4 + j) ^^^ TW j = nw 4 key W (q + 4) j by rw [HNW.out, Nat.mul_comm q 4]]
                have := hW6.set ((q + 4) * 4 + j) (nw 4 key W (q + 4) j)
                rw [flatJ_next] at this
                exact this
              case measure => simp [intOf]; omega
            · obtain rfl : j = 4 := by omega
              rw [HW.out, flatJ_4] at hW6
              go_wp2
              go_roundw
              case rel => exact ⟨q + 4 + 1, by omega, by go_num, by rw [show (q + 4 + 1 - 1) / 4 = (q + 3) / 4 + 1 by omega, pw_succ], hT6, hW6, h12, hb6⟩
              case measure => simp [intOf]; omega
        · have j2 : ¬ (q : Int) % 4 = 0 := by omega
          have j3 : ¬ ((q : Int) + 4) % 4 = 0 := by omega
          go_wp2_with (first
            | (refine (wpList_load_mid rfl 58 _ rfl w2.heap.size ((q + 3) * 4) rfl (cellsN .u8 4 (fun r => W ((q + 3) * 4 + r))).toList _ hr1 Try.underlying58 rfl (by rw [Array.length_toList, cellsN_size]; exact Try.size58) ?_); rw [Array.toArray_toList])
            | (refine wpList_store_rowG rfl 58 _ _ rfl wr.heap.size (cellsN .u8 4 (fun r => W ((q + 3) * 4 + r))) rfl rfl 58 _ hn3 (by rw [cellsN_size]; exact Try.size58) (by simp [cellsN_size]) (cellsN_one _ _ _) ?_
               intro w3 hw3
               have hX3 : Has w3 wr.heap.size 58 (cellsN .u8 4 (fun r => W ((q + 3) * 4 + r))) := by rw [hw3]; exact hn3.setRow _
               have hT3 : Has w3 w1.heap.size 52 (cellsN .u8 256 SB) := by rw [hw3]; exact (hTb.alloc _).setRow_other (by have := hTb.lt; omega) _
               have hW3 : Has w3 w2.heap.size 58 (cellsN .u8 176 W) := by rw [hw3]; exact (hWd.alloc _).setRow_other (by have := hWd.lt; omega) _
               have hb3 : Below w.heap.size w w3 := by rw [hw3]; exact below_setRow (hbel.alloc hbel.size _) hbel.size _
               have ht8 : w2.heap.size < wr.heap.size := hWd.lt
               have hr2 := range_of_has hW3 (q * 4) 4 (by omega)
               clear hw3 hn3 hTb hWd hbel hr1)
            | (refine wpList_load_mid rfl 58 _ rfl w2.heap.size (q * 4) rfl (cellsN .u8 4 (fun r => W (q * 4 + r))).toList _ hr2 Try.underlying58 rfl (by rw [Array.length_toList, cellsN_size]; exact Try.size58) ?_; rw [Array.toArray_toList]))
          have hX5 : Has w3 wr.heap.size 58 (cellsN .u8 4 (tw 4 W (q + 4))) := by
            rw [cellsN_congr .u8 4 (tw 4 W (q + 4)) (fun r => W ((q + 3) * 4 + r)) (fun r hr => by unfold tw; rw [if_neg (by omega), if_neg (by omega)]; congr 1; omega)]
            exact hX3
          have hT5 := hT3
          have hW5 := hW3
          have hb5 := hb3
          clear hX3 hT3 hW3 hb3
          have HNW : Hid (∀ j, nw 4 key W (q + 4) j = W (4 * q + j) ^^^ tw 4 W (q + 4) j) := nw_high 4 key W q
          have htl := tw_lt 4 W hfl (q + 4)
          obtain ⟨TW, hTW⟩ : ∃ TW, TW = tw 4 W (q + 4) := ⟨_, rfl⟩
          rw [← hTW] at hX5 HNW htl
          clear hTW
          go_loopw [100] (fun i wr2 => ∃ j : Nat, j ≤ 4 ∧ i = .int .i64 j ∧ Has wr2 w1.heap.size 52 (cellsN .u8 256 SB) ∧ Has wr2 w2.heap.size 58 (cellsN .u8 176 (flatJ 4 key W (q + 4) j)) ∧ Has wr2 wr.heap.size 58 (cellsN .u8 4 TW) ∧ Below w.heap.size w wr2)
            (fun i _ => 4 - (intOf i).toNat)
          case atStart => exact ⟨0, Nat.zero_le _, rfl, hT5, by rw [flatJ_0]; exact hW5, hX5, hb5⟩
          case round =>
            clear hT5 hW5 hX5 hb5 hr2
            obtain ⟨j, hj4, rfl, hT6, hW6, hX6, hb6⟩ := hrel
            by_cases hj : j < 4
            · have hix := index4 (fun r => W (q * 4 + r)) j wr hj
              have j1 : (j : Int) < 4 := by omega
              have j0 : (0 : Int) ≤ (j : Int) := by omega
              have c1 := hX6.num j hj
              have c2 := hW6.num ((q + 4) * 4 + j) (by omega)
              have f2 := hW6.free ((q + 4) * 4 + j)
              have hx := x8 (hfl (q * 4 + j)) (htl j)
              go_wp2_with fail
              go_region
              go_wp2
              go_roundw
              case rel =>
                refine ⟨j + 1, by omega, by go_num, hT6.other (by simp; omega) _, ?_, hX6.other (by simp; omega) _, (hb6.setCell (by simp; omega) _).drew⟩
                rw [show W (q * 4 + j) ^^^ TW j = nw 4 key W (q + 4) j by rw [HNW.out, Nat.mul_comm q 4]]
                have := hW6.set ((q + 4) * 4 + j) (nw 4 key W (q + 4) j)
                rw [flatJ_next] at this
                exact this
              case measure => simp [intOf]; omega
            · obtain rfl : j = 4 := by omega
              rw [HW.out, flatJ_4] at hW6
              go_wp2
              go_roundw
              case rel => exact ⟨q + 4 + 1, by omega, by go_num, by rw [show (q + 4 + 1 - 1) / 4 = (q + 3) / 4 by omega], hT6, hW6, h12, hb6⟩
              case measure => simp [intOf]; omega
    · obtain rfl : k = 44 := by omega
      go_wp2
      go_ret
      exact ⟨w2.heap.size, rfl, by omega, hWd, hbel⟩
end Go.Proofs.Ytcnlegnfecpdnaa
