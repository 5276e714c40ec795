/- aes: New, at a key of 32 bytes. -/
import Derived.Test.YtcnlegnfecpdnaaAesNewA
namespace Go.Proofs.Ytcnlegnfecpdnaa
open Go.ChangeShapes Go.WideShapes Go.ChangeAt Go.RowKit
set_option linter.unusedVariables false

set_option maxRecDepth 100000 in
set_option maxHeartbeats 1600000 in
theorem new_32 (key : Nat → Nat) (b o cap : Nat) (w : World) (hk : ∀ j, j < 32 → key j < 256) (hb : b < w.heap.size) (hcap : 32 ≤ cap) (hc : ∀ j, j < 32 → w.cell? ⟨b, o + j, none⟩ = some (.int .u8 (key j : Nat))) :
    Calls Try.prog 9 #[.slice (some ⟨b, o, none⟩) 32 cap] w fun e w' => ∃ g, e = .returned (.tuple #[.pointer (some ⟨g, 0, none⟩), .int .i64 0]) ∧ w.heap.size ≤ g ∧ Has w' g 57 (ccells (flat 8 key 60) 14 IB) ∧ Below w.heap.size w w' := by
  have hexp := expand_8 key b o cap w hk hb hcap hc
  obtain ⟨F, hF⟩ : ∃ F, F = flat 8 key 60 := ⟨_, rfl⟩
  rw [← hF] at hexp
  have HF : Hid (pk F 60 = flat 8 key 60) := (by rw [hF]; exact pk_all 8 key 60 : pk F 60 = flat 8 key 60)
  clear hF hc hk
  go_enter Try.func9, Try.ntmps9
  go_wp2_with (first
    | (go_at_call 25; refine hexp.mono ?_; rintro e w1 ⟨ge, rfl, hge, hF1, hb1⟩)
    | (go_at_call 27; refine (substitutes_any _).mono ?_; rintro e w2 ⟨rfl, hb2⟩)
    | (go_at_call 26; refine (otherWay_any _).mono ?_; rintro e w3 ⟨rfl, hb3⟩)
    | (refine wpList_run rfl (some 24) rfl _ (run_build_cipher 14 _ _ rfl rfl rfl built_14 _) ?_))
  have hF3 := ((hF1.below hb2 hF1.lt).below hb3 (Nat.lt_of_lt_of_le hF1.lt hb2.size)).alloc (.cells (ccells (fun _ => 0) 14 IB) 57)
  have hC3 := Has.new w3 57 (ccells (fun _ => 0) 14 IB)
  have hs3 : ge < w3.heap.size := Nat.lt_of_lt_of_le (Nat.lt_of_lt_of_le hF1.lt hb2.size) hb3.size
  have hB3 : Below w.heap.size w (w3.alloc (.cells (ccells (fun _ => 0) 14 IB) 57)) := ((hb1.trans (hb2.mono hb1.size)).trans (hb3.mono (Nat.le_trans hb1.size hb2.size))).alloc (by omega) _
  obtain ⟨gc, hgc⟩ : ∃ gc, gc = w3.heap.size := ⟨_, rfl⟩
  rw [← hgc] at hC3 hs3 ⊢
  have hgl : w.heap.size ≤ gc := by omega
  go_loopw [28] (fun i wr => ∃ k : Nat, k ≤ 60 ∧ i = .int .i64 k ∧ Has wr gc 57 (ccells (pk F k) 14 IB) ∧ Has wr ge 58 (cellsN .u8 240 F) ∧ Below w.heap.size w wr)
    (fun i _ => 60 - (intOf i).toNat)
  case atStart => exact ⟨0, Nat.zero_le _, rfl, hC3, hF3, hB3⟩
  case round =>
    clear hF3 hC3 hB3 hexp hF1 hb1 hb2 hb3 hgc
    obtain ⟨k, hkT, rfl, hCk, hFk, hbk⟩ := hrel
    by_cases hlt : k < 60
    · have i1 : (k : Int) < 60 := by omega
      have i0 : (0 : Int) ≤ (k : Int) := by omega
      have hr1 := range_of_has hFk (k * 4) 4 (by omega)
      have hn4 : Has (wr.alloc (.cells (cellsN .u8 4 fun _ => 0) 58)) wr.heap.size 58 (cellsN .u8 4 fun _ => 0) := Has.new _ _ _
      go_wp2_with (first
        | (refine wpList_load_mid rfl 58 _ rfl ge (k * 4) rfl (cellsN .u8 4 (fun r => F (k * 4 + r))).toList _ hr1 Try.underlying58 rfl (by rw [Array.length_toList, cellsN_size]; exact Try.size58) ?_; rw [Array.toArray_toList])
        | (refine wpList_store_rowG rfl 58 _ _ rfl wr.heap.size (cellsN .u8 4 (fun r => F (k * 4 + r))) rfl rfl 58 _ hn4 (by rw [cellsN_size]; exact Try.size58) (by simp [cellsN_size]) (cellsN_one _ _ _) ?_
           intro w4 hw4
           have hX4 : Has w4 wr.heap.size 58 (cellsN .u8 4 (fun r => F (k * 4 + r))) := by rw [hw4]; exact hn4.setRow _
           have hC4 : Has w4 gc 57 (ccells (pk F k) 14 IB) := by rw [hw4]; exact (hCk.alloc _).setRow_other (by have := hCk.lt; omega) _
           have hF4 : Has w4 ge 58 (cellsN .u8 240 F) := by rw [hw4]; exact (hFk.alloc _).setRow_other (by have := hFk.lt; omega) _
           have hb4 : Below w.heap.size w w4 := by rw [hw4]; exact below_setRow (hbk.alloc hbk.size _) hbk.size _
           clear hw4 hn4 hCk hFk hbk hr1))
      have hsrc : ∀ j v, (cellsN .u8 4 (fun r => F (k * 4 + r))).toList[j]? = some v → w4.drew.cell? ((⟨wr.heap.size, 0, none⟩ : Addr).add j) = some v := by
        intro j v hv
        rw [Addr.add_mid, Has.cell (w := w4.drew) hX4]
        simpa using hv
      refine wp_region_held_drew (S := fun _ => True) (by kernel_rfl) trivial (fun hHeld => ?_)
      refine takeTo 0 (some 33) (.pointer (some ⟨gc, 0, none⟩)) rfl rfl (by kernel_rfl) (by kernel_rfl) (by kernel_rfl) (fun _ _ _ h => h) (by rfl) (fun _ _ => rfl) hHeld ?_
      simp only [Act.put, List.setIfInBounds_toArray, List.set_cons_zero, List.set_cons_succ]
      refine takeTo 1 (some 34) (.int .i64 (k : Int)) rfl rfl (by kernel_rfl) (by kernel_rfl) (by kernel_rfl) (fun _ _ _ h => h) (by rfl) (fun _ _ => rfl) hHeld ?_
      simp only [Act.put, List.setIfInBounds_toArray, List.set_cons_zero, List.set_cons_succ]
      refine takeTo 2 (some 35) (.int .i64 ((k / 4 : Nat) : Int)) rfl rfl (by kernel_rfl) (by kernel_rfl) (by kernel_rfl) (fun _ _ _ h => h) (by rfl) (fun wz _ => run_quo4 _ rfl k rfl (by omega) wz) hHeld ?_
      simp only [Act.put, List.setIfInBounds_toArray, List.set_cons_zero, List.set_cons_succ]
      refine takeTo 3 (some 36) (.pointer (some ⟨gc, 0, none⟩)) rfl rfl (by kernel_rfl) (by kernel_rfl) (by kernel_rfl) (fun _ _ _ h => h) (by rfl) (fun _ _ => rfl) hHeld ?_
      simp only [Act.put, List.setIfInBounds_toArray, List.set_cons_zero, List.set_cons_succ]
      refine takeTo 4 (some 37) (.pointer (some ⟨gc, 0, none⟩)) rfl rfl (by kernel_rfl) (by kernel_rfl) (by kernel_rfl) (fun _ _ _ h => h) (by rfl) (fun wz _ => run_fieldAddr 57 _ 0 rfl (.pointer (some ⟨gc, 0, none⟩)) (.pointer (some ⟨gc, 0, none⟩)) rfl (field0 gc) wz) hHeld ?_
      simp only [Act.put, List.setIfInBounds_toArray, List.set_cons_zero, List.set_cons_succ]
      refine takeTo 5 (some 38) (.pointer (some ⟨gc, 0 + k / 4 * 16, none⟩)) rfl rfl (by kernel_rfl) (by kernel_rfl) (by kernel_rfl) (fun _ _ _ h => h) (by rfl) (fun wz _ => run_indexAddr 55 _ _ rfl gc 0 (k / 4) 15 16 23 rfl rfl Try.underlying55 Try.size23 (by omega) wz) hHeld ?_
      simp only [Act.put, List.setIfInBounds_toArray, List.set_cons_zero, List.set_cons_succ]
      refine takeTo 6 (some 39) (.int .i64 (k : Int)) rfl rfl (by kernel_rfl) (by kernel_rfl) (by kernel_rfl) (fun _ _ _ h => h) (by rfl) (fun _ _ => rfl) hHeld ?_
      simp only [Act.put, List.setIfInBounds_toArray, List.set_cons_zero, List.set_cons_succ]
      refine takeTo 7 (some 40) (.int .i64 ((k % 4 : Nat) : Int)) rfl rfl (by kernel_rfl) (by kernel_rfl) (by kernel_rfl) (fun _ _ _ h => h) (by rfl) (fun wz _ => run_rem4 _ rfl k rfl (by omega) wz) hHeld ?_
      simp only [Act.put, List.setIfInBounds_toArray, List.set_cons_zero, List.set_cons_succ]
      refine takeTo 8 (some 41) (.int .i64 ((k % 4 * 4 : Nat) : Int)) rfl rfl (by kernel_rfl) (by kernel_rfl) (by kernel_rfl) (fun _ _ _ h => h) (by rfl) (fun wz _ => run_mul4 _ rfl (k % 4) rfl (by omega) wz) hHeld ?_
      simp only [Act.put, List.setIfInBounds_toArray, List.set_cons_zero, List.set_cons_succ]
      refine takeTo 9 (some 42) (.slice (some ⟨gc, 0 + k / 4 * 16 + k % 4 * 4, none⟩) (16 - k % 4 * 4) (16 - k % 4 * 4)) rfl rfl (by kernel_rfl) (by kernel_rfl) (by kernel_rfl) (fun _ _ _ h => h) (by rfl) (fun wz _ => run_slice_key _ _ rfl gc (0 + k / 4 * 16) (k % 4 * 4) rfl rfl (by omega) wz) hHeld ?_
      simp only [Act.put, List.setIfInBounds_toArray, List.set_cons_zero, List.set_cons_succ]
      refine takeTo 10 (some 43) (.slice (some ⟨wr.heap.size, 0, none⟩) 4 4) rfl rfl (by kernel_rfl) (by kernel_rfl) (by kernel_rfl) (fun _ _ _ h => h) (by rfl) (fun wz _ => run_slice_word _ rfl wr.heap.size 0 rfl wz) hHeld ?_
      simp only [Act.put, List.setIfInBounds_toArray, List.set_cons_zero, List.set_cons_succ]
      refine ready1 11 (by kernel_rfl) (stepVal (some 44) _ _ rfl rfl (by rfl) (run_copy_op (w := w4.drew) _ _ 22 22 rfl 5 Try.underlying22 one_u8 gc (0 + k / 4 * 16 + k % 4 * 4) (16 - k % 4 * 4) (16 - k % 4 * 4) ⟨wr.heap.size, 0, none⟩ 4 4 rfl rfl (ccells (pk F k) 14 IB) 57 hC4 (cellsN .u8 4 (fun r => F (k * 4 + r))).toList (by rw [Array.length_toList, cellsN_size]; exact (Nat.min_eq_left (show 4 ≤ 16 - k % 4 * 4 by omega)).symm) hsrc (by rw [Array.length_toList, cellsN_size, ccells_size]; omega) (oneCells _ _ _)) ⟨trivial, ?_⟩)
      rw [show 0 + k / 4 * 16 + k % 4 * 4 = k * 4 by omega, ccells_splice _ _ _ _ _ (show k * 4 + 4 ≤ 240 by omega), pk_next F k]
      have hC5 : Has (w4.drew.setRow gc (ccells (pk F (k + 1)) 14 IB)) gc 57 (ccells (pk F (k + 1)) 14 IB) := Has.setRow (w := w4.drew) hC4 _
      have hF5 : Has (w4.drew.setRow gc (ccells (pk F (k + 1)) 14 IB)) ge 58 (cellsN .u8 240 F) := Has.setRow_other (w := w4.drew) hF4 (by omega) _
      have hb5 : Below w.heap.size w (w4.drew.setRow gc (ccells (pk F (k + 1)) 14 IB)) := below_setRow hb4.drew (by omega) _
      obtain ⟨w5, hw5⟩ : ∃ x, x = w4.drew.setRow gc (ccells (pk F (k + 1)) 14 IB) := ⟨_, rfl⟩
      rw [← hw5] at hC5 hF5 hb5 ⊢
      clear hw5 hHeld hsrc hC4 hF4 hb4 hX4
      simp only [Act.put, List.setIfInBounds_toArray, List.set_cons_zero, List.set_cons_succ]
      refine wpAnyH_done (by kernel_rfl) ?_ _
      go_wp2
      go_roundw
      case rel => exact ⟨k + 1, by omega, by go_num, hC5, hF5, hb5⟩
      case measure => simp [intOf]; omega
    · obtain rfl : k = 60 := by omega
      rw [HF.out] at hCk
      go_wp2
      go_ret2
      exact ⟨gc, rfl, hgl, hCk, hbk⟩

end Go.Proofs.Ytcnlegnfecpdnaa
