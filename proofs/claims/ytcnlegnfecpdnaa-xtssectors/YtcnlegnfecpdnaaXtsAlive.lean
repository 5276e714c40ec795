/- The live question of xts, answered. -/
import Derived.Test.YtcnlegnfecpdnaaXtsKey
import Derived.Test.YtcnlegnfecpdnaaXtsSeal
import Derived.Test.YtcnlegnfecpdnaaXtsBackM
import Derived.Test.YtcnlegnfecpdnaaXtsLive
namespace Go.Proofs.Ytcnlegnfecpdnaa
open Go.ChangeShapes Go.WideShapes Go.ChangeAt Go.RowKit
set_option linter.unusedVariables false

theorem aKey_lt (j : Nat) : aKey j < 256 := by unfold aKey; split <;> omega
theorem fix_aKey : fixK aKey = aKey := by
  have : halves aKey = false := by decide +kernel
  unfold fixK
  rw [this]
  rfl

theorem key_alive (w : World) : Calls Try.prog 24 #[.agg (cellsN .u8 32 aKey)] w fun e w' => ∃ q c, e = .returned (.slice (some ⟨q, 0, none⟩) 32 c) ∧ 32 ≤ c ∧ w.heap.size ≤ q ∧ Bytes w' (some ⟨q, 0, none⟩) 32 aKey ∧ Below w.heap.size w w' := by
  have := key_any aKey w aKey_lt
  rwa [fix_aKey] at this

theorem new_alive (q c : Nat) (w : World) (hc : 32 ≤ c) (hb : Bytes w (some ⟨q, 0, none⟩) 32 aKey) :
    Calls Try.prog 18 #[.slice (some ⟨q, 0, none⟩) 32 c] w fun e w' => ∃ g gk gl, e = .returned (.tuple #[.pointer (some ⟨g, 0, none⟩), .int .i64 0]) ∧ XC w' g gk gl 16 aKey aLow ∧ Below w.heap.size w w' := by
  rcases hb with h | ⟨b, o, e, h1, h2⟩
  · omega
  · simp only [Option.some.injEq, Addr.mk.injEq, and_true] at e
    obtain ⟨rfl, rfl⟩ := e
    exact xnew_ok 16 (.inl rfl) aKey q 0 c w aKey_lt h1 hc h2 (by decide +kernel)

theorem sealed_ne : (strN (sealB (encX 16 aKey) (tw0 16 aLow 7) (fun _ => 0)) 16 == strN (fun j => sealB (encX 16 aKey) (tw0 16 aLow 7) (fun _ => 0) (16 + j)) 16) = false := by
  have hl : ∀ j, sealB (encX 16 aKey) (tw0 16 aLow 7) (fun _ => 0) j < 256 := sealB_lt (fun f hf => encX_lt 16 (.inl rfl) aKey aKey_lt hf) (tw0_lt 16 (.inl rfl) aLow (fun j => aKey_lt _) 7) (fun _ => by decide)
  rw [Bool.eq_false_iff]
  intro h
  have h0 := (strN_iff _ _ 16 hl (fun j => hl _)).1 h 0 (by decide)
  rw [live_0] at h0
  have h1 : sealB (encX 16 aKey) (tw0 16 aLow 7) (fun _ => 0) (16 + 0) = sealB (encX 16 aKey) (tw0 16 aLow 7) (fun _ => 0) 16 := congrArg _ rfl
  rw [h1, live_16] at h0
  omega

set_option maxRecDepth 100000 in
set_option maxHeartbeats 1600000 in
theorem xalive_any (w : World) : Calls Try.prog 17 #[] w fun e w' => e = .returned (.bool true) ∧ Below w.heap.size w w' := by
  have hne := sealed_ne
  have hlS : ∀ j, sealB (encX 16 aKey) (tw0 16 aLow 7) (fun _ => 0) j < 256 := sealB_lt (fun f hf => encX_lt 16 (.inl rfl) aKey aKey_lt hf) (tw0_lt 16 (.inl rfl) aLow (fun j => aKey_lt _) 7) (fun _ => by decide)
  have hbk := open_seal 16 (.inl rfl) aKey aKey_lt (t := tw0 16 aLow 7) (D := fun _ => 0) (tw0_lt 16 (.inl rfl) aLow (fun j => aKey_lt _) 7) (fun _ => by decide)
  have HS : Hid (∀ wz g gk gl b, XC wz g gk gl 16 aKey aLow → Bytes wz (some ⟨b, 0, none⟩) 32 (fun _ => 0) → Calls Try.prog 20 #[.pointer (some ⟨g, 0, none⟩), .int .u64 7, .slice (some ⟨b, 0, none⟩) 32 32] wz fun e w' => ∃ q, e = .returned (.tuple #[.slice (some ⟨q, 0, none⟩) 32 32, .int .i64 0]) ∧ wz.heap.size ≤ q ∧ Has w' q 5 (cellsN .u8 32 (sealB (encX 16 aKey) (tw0 16 aLow 7) (fun _ => 0))) ∧ Below wz.heap.size wz w') :=
    fun wz g gk gl b hC hb => seal_ok 16 (.inl rfl) aKey aLow g gk gl 7 b 0 32 2 (fun _ => 0) wz aKey_lt (fun j => aKey_lt _) (by decide) (fun _ => by decide) (by decide) (by decide) (by decide) hC hb
  have HO : Hid (∀ wz g gk gl b, XC wz g gk gl 16 aKey aLow → Bytes wz (some ⟨b, 0, none⟩) 32 (sealB (encX 16 aKey) (tw0 16 aLow 7) (fun _ => 0)) → Calls Try.prog 22 #[.pointer (some ⟨g, 0, none⟩), .int .u64 7, .slice (some ⟨b, 0, none⟩) 32 32] wz fun e w' => ∃ q, e = .returned (.tuple #[.slice (some ⟨q, 0, none⟩) 32 32, .int .i64 0]) ∧ wz.heap.size ≤ q ∧ Has w' q 5 (cellsN .u8 32 (fun _ => 0)) ∧ Below wz.heap.size wz w') :=
    fun wz g gk gl b hC hb => by
      have := open_ok 16 (.inl rfl) aKey aLow g gk gl 7 b 0 32 2 (sealB (encX 16 aKey) (tw0 16 aLow 7) (fun _ => 0)) wz aKey_lt (fun j => aKey_lt _) (by decide) hlS (by decide) (by decide) (by decide) hC hb
      rw [hbk] at this
      exact this
  obtain ⟨Z, hZ⟩ : ∃ Z, Z = sealB (encX 16 aKey) (tw0 16 aLow 7) (fun _ => 0) := ⟨_, rfl⟩
  rw [← hZ] at hne hlS HS HO
  clear hZ hbk
  have HNE : Hid ((strN Z 16 == strN (fun j => Z (16 + j)) 16) = false) := hne
  clear hne
  obtain ⟨i0, hi, hz0, hz1, hz2⟩ := info_parts Try.info5
  have hlit : (#[.int .u8 1, .int .u8 0, .int .u8 0, .int .u8 0, .int .u8 0, .int .u8 0, .int .u8 0, .int .u8 0, .int .u8 0, .int .u8 0, .int .u8 0, .int .u8 0, .int .u8 0, .int .u8 0, .int .u8 0, .int .u8 0, .int .u8 0, .int .u8 0, .int .u8 0, .int .u8 0, .int .u8 0, .int .u8 0, .int .u8 0, .int .u8 0, .int .u8 0, .int .u8 0, .int .u8 0, .int .u8 0, .int .u8 0, .int .u8 0, .int .u8 0, .int .u8 0] : Array Value) = cellsN .u8 32 aKey := by kernel_rfl
  go_enter Try.func17, Try.ntmps17
  go_wp2_with (first
    | (go_at_call 24; refine (key_alive _).mono ?_; rintro e w1 ⟨q1, c1, rfl, hc1, hq1, hb1, hB1⟩)
    | (go_at_call 18; refine (new_alive _ _ _ hc1 hb1).mono ?_; rintro e w2 ⟨g, gk, gl, rfl, hC2, hb2⟩; have hB2 := hB1.trans (hb2.mono hB1.size))
    | (at_make; refine wpList_make_full _ rfl _ _ 22 rfl w2.heap.size 5 i0 (.int .u8 0) 1 Try.underlying22 hi hz0 hz1 .i64 .i64 _ _ 32 rfl rfl rfl rfl (by rw [hz2]; omega) (by unfold maxLen; omega) (Nat.le_refl _) ?_; intro w3 own3 gr3; rw [zero_bl] at own3; have hD3 := own_has own3; have hb3 : Below w2.heap.size w2 w3 := (Below.refl _ _).grown gr3 (Nat.le_refl _) (by intro k h; cases h); have hC3 := hC2.below hb3 (Nat.le_refl _); have hB3 := hB2.trans (hb3.mono hB2.size); clear own3 gr3)
    | (go_at_call 20; refine (HS.out _ g gk gl _ hC3 (has_bytes hD3 32 (Nat.le_refl _))).mono ?_; rintro e w4 ⟨q4, rfl, hq4, hD4, hb4⟩; have hC4 := hC3.below hb4 (Nat.le_refl _); have hB4 := hB3.trans (hb4.mono hB3.size)))
  have h16 : Bytes w4.drew (some ⟨q4, 0, none⟩) 16 Z := has_bytes (w := w4.drew) hD4 16 (by decide)
  have h32 : Bytes w4.drew (some ⟨q4, 0 + 16, none⟩) (32 - 16) (fun j => Z (16 + j)) := .inr ⟨q4, 0 + 16, rfl, Has.lt (w := w4.drew) hD4, fun j hj => by rw [Nat.zero_add]; exact Has.num (w := w4.drew) hD4 (16 + j) (by omega)⟩
  refine wp_region_held_drew (S := fun wz => Bytes wz (some ⟨q4, 0, none⟩) 16 Z ∧ Bytes wz (some ⟨q4, 0 + 16, none⟩) (32 - 16) (fun j => Z (16 + j))) (by kernel_rfl) ⟨h16, h32⟩ (fun hHeld => ?_)
  refine takeTo 0 (some 25) (.int .i64 0) rfl rfl (by kernel_rfl) (by kernel_rfl) (by kernel_rfl) (fun _ _ _ h => h) (by rfl) (fun _ _ => rfl) hHeld ?_
  simp only [Act.put, List.setIfInBounds_toArray, List.set_cons_zero, List.set_cons_succ]
  refine takeTo 1 (some 26) (.bool false) rfl rfl (by kernel_rfl) (by kernel_rfl) (by kernel_rfl) (fun _ _ _ h => h) (by rfl) (fun _ _ => rfl) hHeld ?_
  simp only [Act.put, List.setIfInBounds_toArray, List.set_cons_zero, List.set_cons_succ]
  refine takeTo 2 (some 27) (.bool false) rfl rfl (by kernel_rfl) (by kernel_rfl) (by kernel_rfl) (fun _ _ _ h => h) (by rfl) (fun _ _ => rfl) hHeld ?_
  simp only [Act.put, List.setIfInBounds_toArray, List.set_cons_zero, List.set_cons_succ]
  refine takeTo 3 (some 28) (.slice (some ⟨q4, 0, none⟩) 32 32) rfl rfl (by kernel_rfl) (by kernel_rfl) (by kernel_rfl) (fun _ _ _ h => h) (by rfl) (fun _ _ => rfl) hHeld ?_
  simp only [Act.put, List.setIfInBounds_toArray, List.set_cons_zero, List.set_cons_succ]
  refine takeTo 4 (some 29) (.int .i64 (32 : Nat)) rfl rfl (by kernel_rfl) (by kernel_rfl) (by kernel_rfl) (fun _ _ _ h => h) (by rfl) (fun wz _ => run_len _ rfl _ 32 32 rfl (by omega) wz) hHeld ?_
  simp only [Act.put, List.setIfInBounds_toArray, List.set_cons_zero, List.set_cons_succ]
  refine takeTo 5 (some 30) (.bool false) rfl rfl (by kernel_rfl) (by kernel_rfl) (by kernel_rfl) (fun _ _ _ h => h) (by rfl) (fun _ _ => rfl) hHeld ?_
  simp only [Act.put, List.setIfInBounds_toArray, List.set_cons_zero, List.set_cons_succ]
  refine takeTo 6 (some 31) (.bool false) rfl rfl (by kernel_rfl) (by kernel_rfl) (by kernel_rfl) (fun _ _ _ h => h) (by rfl) (fun _ _ => rfl) hHeld ?_
  simp only [Act.put, List.setIfInBounds_toArray, List.set_cons_zero, List.set_cons_succ]
  refine takeTo 7 (some 32) (.bool false) rfl rfl (by kernel_rfl) (by kernel_rfl) (by kernel_rfl) (fun _ _ _ h => h) (by rfl) (fun _ _ => rfl) hHeld ?_
  simp only [Act.put, List.setIfInBounds_toArray, List.set_cons_zero, List.set_cons_succ]
  refine takeTo 8 (some 33) (.slice (some ⟨q4, 0, none⟩) 32 32) rfl rfl (by kernel_rfl) (by kernel_rfl) (by kernel_rfl) (fun _ _ _ h => h) (by rfl) (fun _ _ => rfl) hHeld ?_
  simp only [Act.put, List.setIfInBounds_toArray, List.set_cons_zero, List.set_cons_succ]
  refine takeTo 9 (some 34) (.slice (some ⟨q4, 0, none⟩) 16 32) rfl rfl (by kernel_rfl) (by kernel_rfl) (by kernel_rfl) (fun _ _ _ h => h) (by rfl) (fun wz _ => run_slice_hiX _ _ rfl q4 0 32 32 16 rfl rfl (by omega) (by omega) wz) hHeld ?_
  simp only [Act.put, List.setIfInBounds_toArray, List.set_cons_zero, List.set_cons_succ]
  refine takeTo 10 (some 35) (.string ⟨(strN Z 16).toArray⟩) rfl rfl (by kernel_rfl) (by kernel_rfl) (by kernel_rfl) (fun _ _ _ h => h) (by rfl) (fun wz hz => run_conv_str _ rfl (.slice (some ⟨q4, 0, none⟩) 16 32) rfl _ wz (conv_bytesN 32 hz.1 hlS (fun e => by cases e))) hHeld ?_
  simp only [Act.put, List.setIfInBounds_toArray, List.set_cons_zero, List.set_cons_succ]
  refine takeTo 11 (some 36) (.slice (some ⟨q4, 0, none⟩) 32 32) rfl rfl (by kernel_rfl) (by kernel_rfl) (by kernel_rfl) (fun _ _ _ h => h) (by rfl) (fun _ _ => rfl) hHeld ?_
  simp only [Act.put, List.setIfInBounds_toArray, List.set_cons_zero, List.set_cons_succ]
  refine takeTo 12 (some 37) (.slice (some ⟨q4, 0 + 16, none⟩) (32 - 16) (32 - 16)) rfl rfl (by kernel_rfl) (by kernel_rfl) (by kernel_rfl) (fun _ _ _ h => h) (by rfl) (fun wz _ => run_slice_low _ _ rfl q4 0 32 32 16 rfl rfl (by omega) (by omega) wz) hHeld ?_
  simp only [Act.put, List.setIfInBounds_toArray, List.set_cons_zero, List.set_cons_succ]
  refine takeTo 13 (some 38) (.string ⟨(strN (fun j => Z (16 + j)) 16).toArray⟩) rfl rfl (by kernel_rfl) (by kernel_rfl) (by kernel_rfl) (fun _ _ _ h => h) (by rfl) (fun wz hz => run_conv_str _ rfl (.slice (some ⟨q4, 0 + 16, none⟩) (32 - 16) (32 - 16)) rfl _ wz (conv_bytesN (32 - 16) hz.2 (fun j => hlS _) (fun e => by cases e))) hHeld ?_
  simp only [Act.put, List.setIfInBounds_toArray, List.set_cons_zero, List.set_cons_succ]
  refine takeTo 14 (some 39) (.bool false) rfl rfl (by kernel_rfl) (by kernel_rfl) (by kernel_rfl) (fun _ _ _ h => h) (by rfl) (fun wz _ => run_eql_strs _ _ rfl _ _ rfl rfl _ HNE.out wz) hHeld ?_
  simp only [Act.put, List.setIfInBounds_toArray, List.set_cons_zero, List.set_cons_succ]
  refine takeTo 15 (some 40) (.bool false) rfl rfl (by kernel_rfl) (by kernel_rfl) (by kernel_rfl) (fun _ _ _ h => h) (by rfl) (fun _ _ => rfl) hHeld ?_
  simp only [Act.put, List.setIfInBounds_toArray, List.set_cons_zero, List.set_cons_succ]
  refine wpAnyH_done (by kernel_rfl) ?_ _
  clear hHeld h16 h32
  have hD4d : Has w4.drew q4 5 (cellsN .u8 32 Z) := hD4
  have hB4d : Below w.heap.size w w4.drew := hB4.drew
  have hC4d : XC w4.drew g gk gl 16 aKey aLow := hC4
  go_wp2_with (go_at_call 22; refine (HO.out _ g gk gl _ hC4d (has_bytes hD4d 32 (Nat.le_refl _))).mono ?_; rintro e w5 ⟨q5, rfl, hq5, hD5, hb5⟩; have hB5 := hB4d.trans (hb5.mono hB4d.size))
  have hz5 : Bytes w5.drew (some ⟨q5, 0, none⟩) 32 (fun _ => 0) := has_bytes (w := w5.drew) hD5 32 (Nat.le_refl _)
  refine wp_region_held_drew (S := fun wz => Bytes wz (some ⟨q5, 0, none⟩) 32 (fun _ => 0)) (by kernel_rfl) hz5 (fun hHeld => ?_)
  refine takeTo 0 (some 47) (.int .i64 0) rfl rfl (by kernel_rfl) (by kernel_rfl) (by kernel_rfl) (fun _ _ _ h => h) (by rfl) (fun _ _ => rfl) hHeld ?_
  simp only [Act.put, List.setIfInBounds_toArray, List.set_cons_zero, List.set_cons_succ]
  refine takeTo 1 (some 48) (.bool true) rfl rfl (by kernel_rfl) (by kernel_rfl) (by kernel_rfl) (fun _ _ _ h => h) (by rfl) (fun _ _ => rfl) hHeld ?_
  simp only [Act.put, List.setIfInBounds_toArray, List.set_cons_zero, List.set_cons_succ]
  refine takeTo 2 (some 49) (.bool true) rfl rfl (by kernel_rfl) (by kernel_rfl) (by kernel_rfl) (fun _ _ _ h => h) (by rfl) (fun _ _ => rfl) hHeld ?_
  simp only [Act.put, List.setIfInBounds_toArray, List.set_cons_zero, List.set_cons_succ]
  refine takeTo 3 (some 50) (.slice (some ⟨q5, 0, none⟩) 32 32) rfl rfl (by kernel_rfl) (by kernel_rfl) (by kernel_rfl) (fun _ _ _ h => h) (by rfl) (fun _ _ => rfl) hHeld ?_
  simp only [Act.put, List.setIfInBounds_toArray, List.set_cons_zero, List.set_cons_succ]
  refine takeTo 4 (some 51) (.string ⟨(strN (fun _ => 0) 32).toArray⟩) rfl rfl (by kernel_rfl) (by kernel_rfl) (by kernel_rfl) (fun _ _ _ h => h) (by rfl) (fun wz hz => run_conv_str _ rfl (.slice (some ⟨q5, 0, none⟩) 32 32) rfl _ wz (conv_bytesN 32 hz (fun _ => by decide) (fun e => by cases e))) hHeld ?_
  simp only [Act.put, List.setIfInBounds_toArray, List.set_cons_zero, List.set_cons_succ]
  obtain ⟨w6, hD6, hb6, hr6⟩ := make_bytes 32 (by decide) w5.drew
  refine ready1 5 (by kernel_rfl) (stepVal (some 52) (.slice (some ⟨w5.drew.heap.size, 0, none⟩) 32 32) w6 rfl rfl (by rfl) (hr6 _ _ _ _ rfl rfl rfl) ⟨hz5.below hb6 (Nat.le_refl _), ?_⟩)
  simp only [Act.put, List.setIfInBounds_toArray, List.set_cons_zero, List.set_cons_succ]
  have hB6 : Below w.heap.size w w6 := hB5.drew.trans (hb6.mono hB5.size)
  have hz6 : Bytes w6 (some ⟨w5.drew.heap.size, 0, none⟩) 32 (fun _ => 0) := has_bytes hD6 32 (Nat.le_refl _)
  refine ready1 6 (by kernel_rfl) (stepVal (some 53) (.string ⟨(strN (fun _ => 0) 32).toArray⟩) w6 rfl rfl (by rfl) (run_conv_str _ rfl (.slice (some ⟨w5.drew.heap.size, 0, none⟩) 32 32) rfl _ w6 (conv_bytesN 32 hz6 (fun _ => by decide) (fun e => by cases e))) ⟨hz5.below hb6 (Nat.le_refl _), ?_⟩)
  simp only [Act.put, List.setIfInBounds_toArray, List.set_cons_zero, List.set_cons_succ]
  have hHeld : Bytes w6 (some ⟨q5, 0, none⟩) 32 (fun _ => 0) := hz5.below hb6 (Nat.le_refl _)
  refine takeTo 7 (some 54) (.bool true) rfl rfl (by kernel_rfl) (by kernel_rfl) (by kernel_rfl) (fun _ _ _ h => h) (by rfl) (fun wz _ => run_eql_strs _ _ rfl _ _ rfl rfl _ (beq_self_eq_true _) wz) hHeld ?_
  simp only [Act.put, List.setIfInBounds_toArray, List.set_cons_zero, List.set_cons_succ]
  refine takeTo 8 (some 55) (.bool true) rfl rfl (by kernel_rfl) (by kernel_rfl) (by kernel_rfl) (fun _ _ _ h => h) (by rfl) (fun _ _ => rfl) hHeld ?_
  simp only [Act.put, List.setIfInBounds_toArray, List.set_cons_zero, List.set_cons_succ]
  refine takeTo 9 (some 0) (.bool true) rfl rfl (by kernel_rfl) (by kernel_rfl) (by kernel_rfl) (fun _ _ _ h => h) (by rfl) (fun _ _ => rfl) hHeld ?_
  simp only [Act.put, List.setIfInBounds_toArray, List.set_cons_zero]
  refine wpAnyH_done (by kernel_rfl) ?_ _
  go_wp2
  go_ret
  exact ⟨rfl, hB6⟩
end Go.Proofs.Ytcnlegnfecpdnaa
