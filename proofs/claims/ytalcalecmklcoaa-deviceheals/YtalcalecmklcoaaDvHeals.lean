/- DeviceHeals, walked. -/
import Derived.Test.YtalcalecmklcoaaDvMin
import Derived.Test.YtalcalecmklcoaaDvSaysM
namespace Go.Proofs.Ytalcalecmklcoaa
open Go.ChangeShapes Go.WideShapes Go.ChangeAt Go.RowKit
set_option linter.unusedVariables false

variable {D : DevRep}

set_option maxRecDepth 100000 in
set_option maxHeartbeats 3200000 in
theorem heals_any (hD : DevOk D) (hM : DevMore D) (w : World) (sa : Option Addr) (len scap : Nat) (O : Nat → OpV) (hS : Script w sa len O) (at_ : Int) (hat : i64ok at_) (ba : Option Addr) (bL bC : Nat) (b : Nat → Nat) (hb : ByIn w ba bL bC b) :
    Calls Try.prog 8 #[.slice sa len scap, .int .i64 at_, .slice ba bL bC] w fun e w' => e = .returned (.bool true) ∧ Below w.heap.size w w' := by
  have hnew := in_new (B := w.heap.size) (w0 := w) hD 6 (by decide) (by decide) (Below.refl _ w) (Nat.le_refl _)
  have hlen := hS.1
  unfold maxLen at hlen
  obtain ⟨q, hq⟩ : ∃ q : Nat, (0 ≤ at_ ∧ at_ = (q : Int)) ∨ (at_ < 0 ∧ at_ = -((q : Int) + 1)) := ⟨if 0 ≤ at_ then at_.toNat else (-(at_ + 1)).toNat, by split <;> omega⟩
  have hq2 : (q : Int) ≤ 9223372036854775807 := by have := hat.1; have := hat.2; omega
  rcases hq with ⟨h0, rfl⟩ | ⟨h0, rfl⟩
  · skip
    go_enter Try.func8, Try.ntmps8
    go_wp2_with (first
      | ((go_at_call 9)
         (refine hnew.mono ?_)
         (rintro e w1 ⟨p, c, F, rfl, hI, hb1, hF1, hc1⟩)
         (have hal := in_tells hD hI (dalive_any hD w1))
         (clear hnew hF1 hc1 hb1))
      | ((go_at_call 10)
         (refine hal.mono ?_)
         (rintro e w2 ⟨rfl, hb2, hI2⟩)
         (clear hal hI)))
    obtain ⟨r, hr⟩ : ∃ r : Nat, r = q % 6 := ⟨_, rfl⟩
    have hr6 : r < 6 := by omega
    rw [show ((q : Int) % 6) = ((r : Nat) : Int) by omega]
    clear hr h0 hq2 hat
    go_loopw [9] (fun i wr => ∃ k : Nat, k ≤ len ∧ k ≤ 60 ∧ i = .int .i64 (k : Nat) ∧ Going D 6 w wr p c k) (fun i _ => 60 - (intOf i).toNat)
    case atStart => exact ⟨0, Nat.zero_le _, Nat.zero_le _, rfl, _, _, _, hI2, rfl, rfl, Nat.le_refl _, Nat.le_refl _⟩
    case round =>
      obtain ⟨k, hkl0, hk60, rfl, hgo⟩ := hrel
      clear hI2
      by_cases hkk : k < len ∧ k < 60
      · obtain ⟨hkl, hk6⟩ := hkk
        obtain ⟨x, o, rfl, hx, hop⟩ := hS.2 k hkl
        obtain ⟨s, m, F', hIn, hn, hdd, hll, hmm⟩ := hgo
        obtain ⟨v, hv⟩ : ∃ v, v = O k := ⟨_, rfl⟩
        rw [← hv] at hop
        have hOp := hop.below hx hIn.below (Nat.le_refl _)
        have hby := hop.by_
        have c0 := hOp.c0
        have i0 : (k : Int) < (len : Int) := by omega
        have i1 : (0 : Int) ≤ (k : Int) := by omega
        have i2 : (k : Int) < 60 := by omega
        clear hv hS
        by_cases h1 : v.k = 1
        · rw [h1] at c0
          go_wp2
          have hwr' := in_write hD (hIn.next hD (Below.refl _ wr).drew) v.i v.a v.L v.C v.b hop.oi (by omega) (by omega) hby.le hby.max hby.nil (hby.at_.below (hIn.below.trans ((Below.refl _ wr).drew.mono hIn.sz)) (Nat.le_refl _)) hby.byt (.inr (hIn.apart hby.lt))
          refine wp_region_held_drew (S := fun wz => wz.cell? ⟨x, o + k * 4 + 1, none⟩ = some (.int .i64 v.i) ∧ wz.cell? ⟨x, o + k * 4 + 2, none⟩ = some (.slice v.a v.L v.C)) (by kernel_rfl) ⟨hOp.c1, hOp.c2⟩ (fun hHeld => ?_)
          refine takeTo 0 (some 60) (ptr p) rfl rfl (by kernel_rfl) (by kernel_rfl) (by kernel_rfl) (fun _ _ _ h => h) (by rfl) (fun _ _ => rfl) hHeld ?_
          simp only [Act.put, List.setIfInBounds_toArray, List.set_cons_zero, List.set_cons_succ]
          refine takeTo 1 (some 61) (.slice (some ⟨x, o, none⟩) len scap) rfl rfl (by kernel_rfl) (by kernel_rfl) (by kernel_rfl) (fun _ _ _ h => h) (by rfl) (fun _ _ => rfl) hHeld ?_
          simp only [Act.put, List.setIfInBounds_toArray, List.set_cons_zero, List.set_cons_succ]
          refine takeTo 2 (some 62) (.int .i64 (k : Nat)) rfl rfl (by kernel_rfl) (by kernel_rfl) (by kernel_rfl) (fun _ _ _ h => h) (by rfl) (fun _ _ => rfl) hHeld ?_
          simp only [Act.put, List.setIfInBounds_toArray, List.set_cons_zero, List.set_cons_succ]
          refine takeTo 3 (some 63) (.pointer (some ⟨x, o + k * 4, none⟩)) rfl rfl (by kernel_rfl) (by kernel_rfl) (by kernel_rfl) (fun _ _ _ h => h) (by rfl) (fun wz _ => run_at_op _ _ rfl x o k len scap rfl rfl hkl wz) hHeld ?_
          simp only [Act.put, List.setIfInBounds_toArray, List.set_cons_zero, List.set_cons_succ]
          refine takeTo 4 (some 64) (.pointer (some ⟨x, o + k * 4 + 1, none⟩)) rfl rfl (by kernel_rfl) (by kernel_rfl) (by kernel_rfl) (fun _ _ _ h => h) (by rfl) (fun _ _ => rfl) hHeld ?_
          simp only [Act.put, List.setIfInBounds_toArray, List.set_cons_zero, List.set_cons_succ]
          refine takeTo 5 (some 65) (.int .i64 v.i) rfl rfl (by kernel_rfl) (by kernel_rfl) (by kernel_rfl) (fun _ _ _ h => h) (by rfl) (fun wz hz => run_load_i _ rfl _ rfl _ wz hz.1) hHeld ?_
          simp only [Act.put, List.setIfInBounds_toArray, List.set_cons_zero, List.set_cons_succ]
          refine takeTo 6 (some 66) (.slice (some ⟨x, o, none⟩) len scap) rfl rfl (by kernel_rfl) (by kernel_rfl) (by kernel_rfl) (fun _ _ _ h => h) (by rfl) (fun _ _ => rfl) hHeld ?_
          simp only [Act.put, List.setIfInBounds_toArray, List.set_cons_zero, List.set_cons_succ]
          refine takeTo 7 (some 67) (.int .i64 (k : Nat)) rfl rfl (by kernel_rfl) (by kernel_rfl) (by kernel_rfl) (fun _ _ _ h => h) (by rfl) (fun _ _ => rfl) hHeld ?_
          simp only [Act.put, List.setIfInBounds_toArray, List.set_cons_zero, List.set_cons_succ]
          refine takeTo 8 (some 68) (.pointer (some ⟨x, o + k * 4, none⟩)) rfl rfl (by kernel_rfl) (by kernel_rfl) (by kernel_rfl) (fun _ _ _ h => h) (by rfl) (fun wz _ => run_at_op _ _ rfl x o k len scap rfl rfl hkl wz) hHeld ?_
          simp only [Act.put, List.setIfInBounds_toArray, List.set_cons_zero, List.set_cons_succ]
          refine takeTo 9 (some 69) (.pointer (some ⟨x, o + k * 4 + 2, none⟩)) rfl rfl (by kernel_rfl) (by kernel_rfl) (by kernel_rfl) (fun _ _ _ h => h) (by rfl) (fun _ _ => rfl) hHeld ?_
          simp only [Act.put, List.setIfInBounds_toArray, List.set_cons_zero, List.set_cons_succ]
          refine takeTo 10 (some 70) (.slice v.a v.L v.C) rfl rfl (by kernel_rfl) (by kernel_rfl) (by kernel_rfl) (fun _ _ _ h => h) (by rfl) (fun wz hz => run_load_row1 _ rfl _ rfl _ wz hz.2) hHeld ?_
          simp only [Act.put, List.setIfInBounds_toArray, List.set_cons_zero, List.set_cons_succ]
          refine callTo 11 (some 71) 11 #[ptr p, .int .i64 v.i, .slice v.a v.L v.C] (by kernel_rfl) rfl rfl (by rfl) (by kernel_rfl) hwr' ?_
          rintro e5 w5 ⟨rfl, _, F5, _, hI5⟩
          have hOp5 := hop.below hx hI5.below (Nat.le_refl _)
          refine ⟨_, rfl, ⟨hOp5.c1, hOp5.c2⟩, ?_⟩
          simp only [Act.put, List.setIfInBounds_toArray, List.set_cons_zero, List.set_cons_succ]
          refine wpAnyH_done (by kernel_rfl) ?_ _
          go_wp2
          go_roundw
          case rel => exact ⟨k + 1, by omega, by omega, by go_num, Going.wrote (wr := wr) hI5 hn hdd hll hmm⟩
          case measure => simp [intOf]; omega
        by_cases h2 : v.k = 2
        · rw [h2] at c0
          have hsy := in_sync hD hIn (by omega) (by omega)
          go_wp2_with (first
            | ((go_at_call 13)
               (refine hsy.mono ?_)
               (rintro e w5 ⟨rfl, _, F5, _, hI5⟩)
               (clear hsy)))
          go_roundw
          case rel => exact ⟨k + 1, by omega, by omega, by go_num, Going.synced (wr := wr) hI5 hn hdd hll hmm⟩
          case measure => simp [intOf]; omega
        by_cases h8 : v.k = 8
        · rw [h8] at c0
          go_wp2
          have hwr' := in_tamper hD (hIn.next hD (Below.refl _ wr).drew) v.i v.a v.L v.C v.b hop.oi (by omega) (by omega) hby.le hby.max hby.nil (hby.at_.below (hIn.below.trans ((Below.refl _ wr).drew.mono hIn.sz)) (Nat.le_refl _)) hby.byt (.inr (hIn.apart hby.lt))
          refine wp_region_held_drew (S := fun wz => wz.cell? ⟨x, o + k * 4 + 1, none⟩ = some (.int .i64 v.i) ∧ wz.cell? ⟨x, o + k * 4 + 2, none⟩ = some (.slice v.a v.L v.C)) (by kernel_rfl) ⟨hOp.c1, hOp.c2⟩ (fun hHeld => ?_)
          refine takeTo 0 (some 78) (ptr p) rfl rfl (by kernel_rfl) (by kernel_rfl) (by kernel_rfl) (fun _ _ _ h => h) (by rfl) (fun _ _ => rfl) hHeld ?_
          simp only [Act.put, List.setIfInBounds_toArray, List.set_cons_zero, List.set_cons_succ]
          refine takeTo 1 (some 79) (.slice (some ⟨x, o, none⟩) len scap) rfl rfl (by kernel_rfl) (by kernel_rfl) (by kernel_rfl) (fun _ _ _ h => h) (by rfl) (fun _ _ => rfl) hHeld ?_
          simp only [Act.put, List.setIfInBounds_toArray, List.set_cons_zero, List.set_cons_succ]
          refine takeTo 2 (some 80) (.int .i64 (k : Nat)) rfl rfl (by kernel_rfl) (by kernel_rfl) (by kernel_rfl) (fun _ _ _ h => h) (by rfl) (fun _ _ => rfl) hHeld ?_
          simp only [Act.put, List.setIfInBounds_toArray, List.set_cons_zero, List.set_cons_succ]
          refine takeTo 3 (some 81) (.pointer (some ⟨x, o + k * 4, none⟩)) rfl rfl (by kernel_rfl) (by kernel_rfl) (by kernel_rfl) (fun _ _ _ h => h) (by rfl) (fun wz _ => run_at_op _ _ rfl x o k len scap rfl rfl hkl wz) hHeld ?_
          simp only [Act.put, List.setIfInBounds_toArray, List.set_cons_zero, List.set_cons_succ]
          refine takeTo 4 (some 82) (.pointer (some ⟨x, o + k * 4 + 1, none⟩)) rfl rfl (by kernel_rfl) (by kernel_rfl) (by kernel_rfl) (fun _ _ _ h => h) (by rfl) (fun _ _ => rfl) hHeld ?_
          simp only [Act.put, List.setIfInBounds_toArray, List.set_cons_zero, List.set_cons_succ]
          refine takeTo 5 (some 83) (.int .i64 v.i) rfl rfl (by kernel_rfl) (by kernel_rfl) (by kernel_rfl) (fun _ _ _ h => h) (by rfl) (fun wz hz => run_load_i _ rfl _ rfl _ wz hz.1) hHeld ?_
          simp only [Act.put, List.setIfInBounds_toArray, List.set_cons_zero, List.set_cons_succ]
          refine takeTo 6 (some 84) (.slice (some ⟨x, o, none⟩) len scap) rfl rfl (by kernel_rfl) (by kernel_rfl) (by kernel_rfl) (fun _ _ _ h => h) (by rfl) (fun _ _ => rfl) hHeld ?_
          simp only [Act.put, List.setIfInBounds_toArray, List.set_cons_zero, List.set_cons_succ]
          refine takeTo 7 (some 85) (.int .i64 (k : Nat)) rfl rfl (by kernel_rfl) (by kernel_rfl) (by kernel_rfl) (fun _ _ _ h => h) (by rfl) (fun _ _ => rfl) hHeld ?_
          simp only [Act.put, List.setIfInBounds_toArray, List.set_cons_zero, List.set_cons_succ]
          refine takeTo 8 (some 86) (.pointer (some ⟨x, o + k * 4, none⟩)) rfl rfl (by kernel_rfl) (by kernel_rfl) (by kernel_rfl) (fun _ _ _ h => h) (by rfl) (fun wz _ => run_at_op _ _ rfl x o k len scap rfl rfl hkl wz) hHeld ?_
          simp only [Act.put, List.setIfInBounds_toArray, List.set_cons_zero, List.set_cons_succ]
          refine takeTo 9 (some 87) (.pointer (some ⟨x, o + k * 4 + 2, none⟩)) rfl rfl (by kernel_rfl) (by kernel_rfl) (by kernel_rfl) (fun _ _ _ h => h) (by rfl) (fun _ _ => rfl) hHeld ?_
          simp only [Act.put, List.setIfInBounds_toArray, List.set_cons_zero, List.set_cons_succ]
          refine takeTo 10 (some 88) (.slice v.a v.L v.C) rfl rfl (by kernel_rfl) (by kernel_rfl) (by kernel_rfl) (fun _ _ _ h => h) (by rfl) (fun wz hz => run_load_row1 _ rfl _ rfl _ wz hz.2) hHeld ?_
          simp only [Act.put, List.setIfInBounds_toArray, List.set_cons_zero, List.set_cons_succ]
          refine callTo 11 (some 89) 18 #[ptr p, .int .i64 v.i, .slice v.a v.L v.C] (by kernel_rfl) rfl rfl (by rfl) (by kernel_rfl) hwr' ?_
          rintro e5 w5 ⟨rfl, _, F5, _, hI5⟩
          have hOp5 := hop.below hx hI5.below (Nat.le_refl _)
          refine ⟨_, rfl, ⟨hOp5.c1, hOp5.c2⟩, ?_⟩
          simp only [Act.put, List.setIfInBounds_toArray, List.set_cons_zero, List.set_cons_succ]
          refine wpAnyH_done (by kernel_rfl) ?_ _
          go_wp2
          go_roundw
          case rel => exact ⟨k + 1, by omega, by omega, by go_num, Going.tampered (wr := wr) hI5 hn hdd hll hmm⟩
          case measure => simp [intOf]; omega
        · obtain ⟨z, hz⟩ : ∃ z, z = v.k := ⟨_, rfl⟩
          rw [← hz] at c0 h1 h2 h8
          clear hz
          go_wp2
          go_roundw
          case rel => exact ⟨k + 1, by omega, by omega, by go_num, Going.more ⟨s, m, F', hIn, hn, hdd, hll, hmm⟩⟩
          case measure => simp [intOf]; omega
      · obtain ⟨s, m, F', hIn, hn, hdd, hll, hmm⟩ := hgo
        have hr64 : i64ok (r : Int) := ⟨by omega, by omega⟩
        obtain ⟨L, hLL⟩ : ∃ L, L = min bL 64 := ⟨_, rfl⟩
        have hL64 : L ≤ 64 := by omega
        have hLb : L ≤ bL := by omega
        have HLL : Hid (L = min bL 64) := hLL
        have HF : Hid (∀ m m2, _) := fun m m2 => heal_facts s r m m2 b b bL L (keepOf (fun _ => false) 0) hdd (by omega) hL64
        have hsp := in_spoil hD hIn (r : Int) hr64
        clear hLL
        by_cases hk6 : k < len
        · have i0 : (k : Int) < (len : Int) := by omega
          have i1 : ¬ (k : Int) < 60 := by omega
          go_wp2_with (first
            | ((go_at_call 15)
               (refine hsp.mono ?_)
               (rintro e w3 ⟨rfl, _, F3, _, hI3⟩)
               (have hr1 := in_read hD hI3 (r : Int) hr64)
               (rw [(HF.out 0 0).1] at hr1)
               (clear hsp))
            | ((go_at_call 20)
               (have _t := hr1)
               (refine hr1.mono ?_)
               (rintro e w4 ⟨hb4, hI4, v4, rfl, (⟨_, a4, c4, rfl⟩ | ⟨hv, _⟩)⟩)
               (case inr => exact absurd hv (by decide))
               (have htp := in_tamper hD hI4 (r : Int) ba bL bC b hr64 (by omega) (by rw [spS_len]; omega) hb.le hb.max hb.nil (hb.at_.below hI4.below (Nat.le_refl _)) hb.byt (.inr (hI4.apart hb.lt)))
               (clear hr1 _t))
            | ((go_at_call 18)
               (refine htp.mono ?_)
               (rintro e w5 ⟨rfl, _, F5, _, hI5⟩)
               (have hm5 := wrM_le (spS s (r : Int)) (r : Int) bL m)
               (obtain ⟨m5, hm5e⟩ : ∃ m5, m5 = wrM (spS s (r : Int)) (r : Int) bL m := ⟨_, rfl⟩)
               (rw [← hm5e] at hI5 hm5)
               (have hl5 := tpS_len (spS s (r : Int)) (r : Int) b bL m)
               (have hl5s := spS_len s (r : Int))
               (have hsy := in_sync hD hI5 (by omega) (by omega))
               (clear htp hm5e))
            | ((go_at_call 13)
               (refine hsy.mono ?_)
               (rintro e w6 ⟨rfl, _, F6, _, hI6⟩)
               (have hl6 := syS_len (tpS (spS s (r : Int)) (r : Int) b bL m) m5)
               (have H := HF.out m m5)
               (have HH : Hid _ := H)
               (have hr2 := in_read hD hI6 (r : Int) hr64)
               (rw [H.2.1] at hr2)
               (have hcut := fun wz (hz : In D w.heap.size w wz p (syS (tpS (spS s (r : Int)) (r : Int) b bL m) m5) c m5 F6) => in_cut hD hz none 0 0 (fun _ => false) (by omega) (by decide) (Nat.le_refl _) (.inl rfl))
               (obtain ⟨S6, hS6⟩ : ∃ S6, S6 = syS (tpS (spS s (r : Int)) (r : Int) b bL m) m5 := ⟨_, rfl⟩)
               (rw [← hS6] at hI6 hcut HH hr2 hl6)
               (clear hsy H hS6))
            | ((go_at_call 20)
               (have _t := hr2)
               (refine hr2.mono ?_)
               (rintro e w7 ⟨hb7, hI7, v7, rfl, (⟨_, a7, c7, rfl⟩ | ⟨hv, _⟩)⟩)
               (case inr => exact absurd hv (by decide))
               (clear hr2 _t))
            | ((go_at_call 25)
               (refine (hcut _ hI7).mono ?_)
               (rintro e w8 ⟨hb8, hI8, p', c', F', rfl, hJ8, _, _⟩)
               (have hr3 := in_read hD hJ8 (r : Int) hr64)
               (rw [HH.out.2.2.1] at hr3)
               (clear hcut))
            | ((go_at_call 20)
               (have _t := hr3)
               (refine hr3.mono ?_)
               (rintro e w9 ⟨hb9, hJ9, v9, rfl, (⟨_, a9, c9, rfl⟩ | ⟨hv, _⟩)⟩)
               (case inr => exact absurd hv (by decide))
               (have hI9 := hI8.next hD hb9)
               (have hwr := in_write hD hI9 (r : Int) ba L bC b hr64 (by omega) (by omega) (Nat.le_trans hLb hb.le) (Nat.le_trans hLb hb.max) (fun e => by have := hb.nil e; omega) (by_less (hb.at_.below hI9.below (Nat.le_refl _)) hLb) hb.byt (.inr (hI9.apart hb.lt)))
               (rw [HH.out.2.2.2.1] at hwr)
               (clear hr3 _t))
            | (refine wpList_is (some 124) (.int .i64 (L : Nat)) rfl (by rfl) (run_min64 _ rfl bL L HLL.out rfl _) ?_)
            | (refine wpList_is (some 125) (.slice ba L bC) rfl (by rfl) (run_slice_top _ _ rfl ba bL bC L rfl rfl (Nat.le_trans hLb hb.le) _) ?_)
            | ((go_at_call 11)
               (refine hwr.mono ?_)
               (rintro e w10 ⟨rfl, _, F10, _, hI10⟩)
               (have hr4 := in_read hD hI10 (r : Int) hr64)
               (rw [HH.out.2.2.2.2.1] at hr4)
               (clear hwr))
            | ((go_at_call 20)
               (refine hr4.mono ?_)
               (rintro e w11 ⟨hb11, hI11, v11, rfl, (⟨hv, _⟩ | ⟨_, hv11⟩)⟩)
               (case inl => exact absurd rfl hv)
               (obtain ⟨g11, o11, k11, rfl, hk11, hg11, hB11⟩ := hv11.bytes)
               (rw [Int.toNat_natCast, HH.out.2.2.2.2.2.1] at hB11)
               (have hfu := full_any b L bC ba w11 (Nat.le_trans hLb hb.max) (by_less (hb.at_.below hI11.below (Nat.le_refl _)) hLb))
               (clear hr4 hv11))
            | ((go_at_call 32)
               (refine hfu.mono ?_)
               (rintro e w12 ⟨rfl, hH12, hb12⟩)
               (have hI12 := hI11.next hD hb12)
               (have hsm := same_true (k11) 64 (hB11.below hb12 (Nat.le_refl _)) hH12.bytes (full_lt b L hb.byt) (fun e => by cases e) (fun e => by cases e))
               (clear hfu))
            | ((go_at_call 22)
               (refine hsm.mono ?_)
               (rintro e w13 ⟨rfl, hw13⟩)
               (subst hw13)
               (have hbd := in_tells hD hI12 (hM.isBad w13 p _ c _ F10 (r : Int) hI12.dev hr64))
               (rw [Int.toNat_natCast, HH.out.2.2.2.2.2.2, Bool.and_false] at hbd)
               (clear hsm))
            | ((go_at_call 37)
               (refine hbd.mono ?_)
               (rintro e w14 ⟨rfl, hb14, hI14⟩)))
          all_goals exact bodyPost_ret (results_tmp rfl _ _ _) rfl ⟨rfl, hI14.below⟩
        · have i0 : ¬ (k : Int) < (len : Int) := by omega
          go_wp2_with (first
            | ((go_at_call 15)
               (refine hsp.mono ?_)
               (rintro e w3 ⟨rfl, _, F3, _, hI3⟩)
               (have hr1 := in_read hD hI3 (r : Int) hr64)
               (rw [(HF.out 0 0).1] at hr1)
               (clear hsp))
            | ((go_at_call 20)
               (have _t := hr1)
               (refine hr1.mono ?_)
               (rintro e w4 ⟨hb4, hI4, v4, rfl, (⟨_, a4, c4, rfl⟩ | ⟨hv, _⟩)⟩)
               (case inr => exact absurd hv (by decide))
               (have htp := in_tamper hD hI4 (r : Int) ba bL bC b hr64 (by omega) (by rw [spS_len]; omega) hb.le hb.max hb.nil (hb.at_.below hI4.below (Nat.le_refl _)) hb.byt (.inr (hI4.apart hb.lt)))
               (clear hr1 _t))
            | ((go_at_call 18)
               (refine htp.mono ?_)
               (rintro e w5 ⟨rfl, _, F5, _, hI5⟩)
               (have hm5 := wrM_le (spS s (r : Int)) (r : Int) bL m)
               (obtain ⟨m5, hm5e⟩ : ∃ m5, m5 = wrM (spS s (r : Int)) (r : Int) bL m := ⟨_, rfl⟩)
               (rw [← hm5e] at hI5 hm5)
               (have hl5 := tpS_len (spS s (r : Int)) (r : Int) b bL m)
               (have hl5s := spS_len s (r : Int))
               (have hsy := in_sync hD hI5 (by omega) (by omega))
               (clear htp hm5e))
            | ((go_at_call 13)
               (refine hsy.mono ?_)
               (rintro e w6 ⟨rfl, _, F6, _, hI6⟩)
               (have hl6 := syS_len (tpS (spS s (r : Int)) (r : Int) b bL m) m5)
               (have H := HF.out m m5)
               (have HH : Hid _ := H)
               (have hr2 := in_read hD hI6 (r : Int) hr64)
               (rw [H.2.1] at hr2)
               (have hcut := fun wz (hz : In D w.heap.size w wz p (syS (tpS (spS s (r : Int)) (r : Int) b bL m) m5) c m5 F6) => in_cut hD hz none 0 0 (fun _ => false) (by omega) (by decide) (Nat.le_refl _) (.inl rfl))
               (obtain ⟨S6, hS6⟩ : ∃ S6, S6 = syS (tpS (spS s (r : Int)) (r : Int) b bL m) m5 := ⟨_, rfl⟩)
               (rw [← hS6] at hI6 hcut HH hr2 hl6)
               (clear hsy H hS6))
            | ((go_at_call 20)
               (have _t := hr2)
               (refine hr2.mono ?_)
               (rintro e w7 ⟨hb7, hI7, v7, rfl, (⟨_, a7, c7, rfl⟩ | ⟨hv, _⟩)⟩)
               (case inr => exact absurd hv (by decide))
               (clear hr2 _t))
            | ((go_at_call 25)
               (refine (hcut _ hI7).mono ?_)
               (rintro e w8 ⟨hb8, hI8, p', c', F', rfl, hJ8, _, _⟩)
               (have hr3 := in_read hD hJ8 (r : Int) hr64)
               (rw [HH.out.2.2.1] at hr3)
               (clear hcut))
            | ((go_at_call 20)
               (have _t := hr3)
               (refine hr3.mono ?_)
               (rintro e w9 ⟨hb9, hJ9, v9, rfl, (⟨_, a9, c9, rfl⟩ | ⟨hv, _⟩)⟩)
               (case inr => exact absurd hv (by decide))
               (have hI9 := hI8.next hD hb9)
               (have hwr := in_write hD hI9 (r : Int) ba L bC b hr64 (by omega) (by omega) (Nat.le_trans hLb hb.le) (Nat.le_trans hLb hb.max) (fun e => by have := hb.nil e; omega) (by_less (hb.at_.below hI9.below (Nat.le_refl _)) hLb) hb.byt (.inr (hI9.apart hb.lt)))
               (rw [HH.out.2.2.2.1] at hwr)
               (clear hr3 _t))
            | (refine wpList_is (some 124) (.int .i64 (L : Nat)) rfl (by rfl) (run_min64 _ rfl bL L HLL.out rfl _) ?_)
            | (refine wpList_is (some 125) (.slice ba L bC) rfl (by rfl) (run_slice_top _ _ rfl ba bL bC L rfl rfl (Nat.le_trans hLb hb.le) _) ?_)
            | ((go_at_call 11)
               (refine hwr.mono ?_)
               (rintro e w10 ⟨rfl, _, F10, _, hI10⟩)
               (have hr4 := in_read hD hI10 (r : Int) hr64)
               (rw [HH.out.2.2.2.2.1] at hr4)
               (clear hwr))
            | ((go_at_call 20)
               (refine hr4.mono ?_)
               (rintro e w11 ⟨hb11, hI11, v11, rfl, (⟨hv, _⟩ | ⟨_, hv11⟩)⟩)
               (case inl => exact absurd rfl hv)
               (obtain ⟨g11, o11, k11, rfl, hk11, hg11, hB11⟩ := hv11.bytes)
               (rw [Int.toNat_natCast, HH.out.2.2.2.2.2.1] at hB11)
               (have hfu := full_any b L bC ba w11 (Nat.le_trans hLb hb.max) (by_less (hb.at_.below hI11.below (Nat.le_refl _)) hLb))
               (clear hr4 hv11))
            | ((go_at_call 32)
               (refine hfu.mono ?_)
               (rintro e w12 ⟨rfl, hH12, hb12⟩)
               (have hI12 := hI11.next hD hb12)
               (have hsm := same_true (k11) 64 (hB11.below hb12 (Nat.le_refl _)) hH12.bytes (full_lt b L hb.byt) (fun e => by cases e) (fun e => by cases e))
               (clear hfu))
            | ((go_at_call 22)
               (refine hsm.mono ?_)
               (rintro e w13 ⟨rfl, hw13⟩)
               (subst hw13)
               (have hbd := in_tells hD hI12 (hM.isBad w13 p _ c _ F10 (r : Int) hI12.dev hr64))
               (rw [Int.toNat_natCast, HH.out.2.2.2.2.2.2, Bool.and_false] at hbd)
               (clear hsm))
            | ((go_at_call 37)
               (refine hbd.mono ?_)
               (rintro e w14 ⟨rfl, hb14, hI14⟩)))
          all_goals exact bodyPost_ret (results_tmp rfl _ _ _) rfl ⟨rfl, hI14.below⟩
  · skip
    go_enter Try.func8, Try.ntmps8
    go_wp2_with (first
      | ((go_at_call 9)
         (refine hnew.mono ?_)
         (rintro e w1 ⟨p, c, F, rfl, hI, hb1, hF1, hc1⟩)
         (have hal := in_tells hD hI (dalive_any hD w1))
         (clear hnew hF1 hc1 hb1))
      | ((go_at_call 10)
         (refine hal.mono ?_)
         (rintro e w2 ⟨rfl, hb2, hI2⟩)
         (clear hal hI)))
    obtain ⟨r, hr⟩ : ∃ r : Nat, r = q % 6 := ⟨_, rfl⟩
    have hr6 : r < 6 := by omega
    rw [show (-(-((q : Int) + 1) + 1).tmod 6) = ((r : Nat) : Int) by rw [show (-((q : Int) + 1) + 1) = -(q : Int) by omega, Int.neg_tmod, Int.neg_neg, Int.tmod_eq_emod_of_nonneg (by omega)]; omega]
    clear hr h0 hq2 hat
    go_loopw [9] (fun i wr => ∃ k : Nat, k ≤ len ∧ k ≤ 60 ∧ i = .int .i64 (k : Nat) ∧ Going D 6 w wr p c k) (fun i _ => 60 - (intOf i).toNat)
    case atStart => exact ⟨0, Nat.zero_le _, Nat.zero_le _, rfl, _, _, _, hI2, rfl, rfl, Nat.le_refl _, Nat.le_refl _⟩
    case round =>
      obtain ⟨k, hkl0, hk60, rfl, hgo⟩ := hrel
      clear hI2
      by_cases hkk : k < len ∧ k < 60
      · obtain ⟨hkl, hk6⟩ := hkk
        obtain ⟨x, o, rfl, hx, hop⟩ := hS.2 k hkl
        obtain ⟨s, m, F', hIn, hn, hdd, hll, hmm⟩ := hgo
        obtain ⟨v, hv⟩ : ∃ v, v = O k := ⟨_, rfl⟩
        rw [← hv] at hop
        have hOp := hop.below hx hIn.below (Nat.le_refl _)
        have hby := hop.by_
        have c0 := hOp.c0
        have i0 : (k : Int) < (len : Int) := by omega
        have i1 : (0 : Int) ≤ (k : Int) := by omega
        have i2 : (k : Int) < 60 := by omega
        clear hv hS
        by_cases h1 : v.k = 1
        · rw [h1] at c0
          go_wp2
          have hwr' := in_write hD (hIn.next hD (Below.refl _ wr).drew) v.i v.a v.L v.C v.b hop.oi (by omega) (by omega) hby.le hby.max hby.nil (hby.at_.below (hIn.below.trans ((Below.refl _ wr).drew.mono hIn.sz)) (Nat.le_refl _)) hby.byt (.inr (hIn.apart hby.lt))
          refine wp_region_held_drew (S := fun wz => wz.cell? ⟨x, o + k * 4 + 1, none⟩ = some (.int .i64 v.i) ∧ wz.cell? ⟨x, o + k * 4 + 2, none⟩ = some (.slice v.a v.L v.C)) (by kernel_rfl) ⟨hOp.c1, hOp.c2⟩ (fun hHeld => ?_)
          refine takeTo 0 (some 60) (ptr p) rfl rfl (by kernel_rfl) (by kernel_rfl) (by kernel_rfl) (fun _ _ _ h => h) (by rfl) (fun _ _ => rfl) hHeld ?_
          simp only [Act.put, List.setIfInBounds_toArray, List.set_cons_zero, List.set_cons_succ]
          refine takeTo 1 (some 61) (.slice (some ⟨x, o, none⟩) len scap) rfl rfl (by kernel_rfl) (by kernel_rfl) (by kernel_rfl) (fun _ _ _ h => h) (by rfl) (fun _ _ => rfl) hHeld ?_
          simp only [Act.put, List.setIfInBounds_toArray, List.set_cons_zero, List.set_cons_succ]
          refine takeTo 2 (some 62) (.int .i64 (k : Nat)) rfl rfl (by kernel_rfl) (by kernel_rfl) (by kernel_rfl) (fun _ _ _ h => h) (by rfl) (fun _ _ => rfl) hHeld ?_
          simp only [Act.put, List.setIfInBounds_toArray, List.set_cons_zero, List.set_cons_succ]
          refine takeTo 3 (some 63) (.pointer (some ⟨x, o + k * 4, none⟩)) rfl rfl (by kernel_rfl) (by kernel_rfl) (by kernel_rfl) (fun _ _ _ h => h) (by rfl) (fun wz _ => run_at_op _ _ rfl x o k len scap rfl rfl hkl wz) hHeld ?_
          simp only [Act.put, List.setIfInBounds_toArray, List.set_cons_zero, List.set_cons_succ]
          refine takeTo 4 (some 64) (.pointer (some ⟨x, o + k * 4 + 1, none⟩)) rfl rfl (by kernel_rfl) (by kernel_rfl) (by kernel_rfl) (fun _ _ _ h => h) (by rfl) (fun _ _ => rfl) hHeld ?_
          simp only [Act.put, List.setIfInBounds_toArray, List.set_cons_zero, List.set_cons_succ]
          refine takeTo 5 (some 65) (.int .i64 v.i) rfl rfl (by kernel_rfl) (by kernel_rfl) (by kernel_rfl) (fun _ _ _ h => h) (by rfl) (fun wz hz => run_load_i _ rfl _ rfl _ wz hz.1) hHeld ?_
          simp only [Act.put, List.setIfInBounds_toArray, List.set_cons_zero, List.set_cons_succ]
          refine takeTo 6 (some 66) (.slice (some ⟨x, o, none⟩) len scap) rfl rfl (by kernel_rfl) (by kernel_rfl) (by kernel_rfl) (fun _ _ _ h => h) (by rfl) (fun _ _ => rfl) hHeld ?_
          simp only [Act.put, List.setIfInBounds_toArray, List.set_cons_zero, List.set_cons_succ]
          refine takeTo 7 (some 67) (.int .i64 (k : Nat)) rfl rfl (by kernel_rfl) (by kernel_rfl) (by kernel_rfl) (fun _ _ _ h => h) (by rfl) (fun _ _ => rfl) hHeld ?_
          simp only [Act.put, List.setIfInBounds_toArray, List.set_cons_zero, List.set_cons_succ]
          refine takeTo 8 (some 68) (.pointer (some ⟨x, o + k * 4, none⟩)) rfl rfl (by kernel_rfl) (by kernel_rfl) (by kernel_rfl) (fun _ _ _ h => h) (by rfl) (fun wz _ => run_at_op _ _ rfl x o k len scap rfl rfl hkl wz) hHeld ?_
          simp only [Act.put, List.setIfInBounds_toArray, List.set_cons_zero, List.set_cons_succ]
          refine takeTo 9 (some 69) (.pointer (some ⟨x, o + k * 4 + 2, none⟩)) rfl rfl (by kernel_rfl) (by kernel_rfl) (by kernel_rfl) (fun _ _ _ h => h) (by rfl) (fun _ _ => rfl) hHeld ?_
          simp only [Act.put, List.setIfInBounds_toArray, List.set_cons_zero, List.set_cons_succ]
          refine takeTo 10 (some 70) (.slice v.a v.L v.C) rfl rfl (by kernel_rfl) (by kernel_rfl) (by kernel_rfl) (fun _ _ _ h => h) (by rfl) (fun wz hz => run_load_row1 _ rfl _ rfl _ wz hz.2) hHeld ?_
          simp only [Act.put, List.setIfInBounds_toArray, List.set_cons_zero, List.set_cons_succ]
          refine callTo 11 (some 71) 11 #[ptr p, .int .i64 v.i, .slice v.a v.L v.C] (by kernel_rfl) rfl rfl (by rfl) (by kernel_rfl) hwr' ?_
          rintro e5 w5 ⟨rfl, _, F5, _, hI5⟩
          have hOp5 := hop.below hx hI5.below (Nat.le_refl _)
          refine ⟨_, rfl, ⟨hOp5.c1, hOp5.c2⟩, ?_⟩
          simp only [Act.put, List.setIfInBounds_toArray, List.set_cons_zero, List.set_cons_succ]
          refine wpAnyH_done (by kernel_rfl) ?_ _
          go_wp2
          go_roundw
          case rel => exact ⟨k + 1, by omega, by omega, by go_num, Going.wrote (wr := wr) hI5 hn hdd hll hmm⟩
          case measure => simp [intOf]; omega
        by_cases h2 : v.k = 2
        · rw [h2] at c0
          have hsy := in_sync hD hIn (by omega) (by omega)
          go_wp2_with (first
            | ((go_at_call 13)
               (refine hsy.mono ?_)
               (rintro e w5 ⟨rfl, _, F5, _, hI5⟩)
               (clear hsy)))
          go_roundw
          case rel => exact ⟨k + 1, by omega, by omega, by go_num, Going.synced (wr := wr) hI5 hn hdd hll hmm⟩
          case measure => simp [intOf]; omega
        by_cases h8 : v.k = 8
        · rw [h8] at c0
          go_wp2
          have hwr' := in_tamper hD (hIn.next hD (Below.refl _ wr).drew) v.i v.a v.L v.C v.b hop.oi (by omega) (by omega) hby.le hby.max hby.nil (hby.at_.below (hIn.below.trans ((Below.refl _ wr).drew.mono hIn.sz)) (Nat.le_refl _)) hby.byt (.inr (hIn.apart hby.lt))
          refine wp_region_held_drew (S := fun wz => wz.cell? ⟨x, o + k * 4 + 1, none⟩ = some (.int .i64 v.i) ∧ wz.cell? ⟨x, o + k * 4 + 2, none⟩ = some (.slice v.a v.L v.C)) (by kernel_rfl) ⟨hOp.c1, hOp.c2⟩ (fun hHeld => ?_)
          refine takeTo 0 (some 78) (ptr p) rfl rfl (by kernel_rfl) (by kernel_rfl) (by kernel_rfl) (fun _ _ _ h => h) (by rfl) (fun _ _ => rfl) hHeld ?_
          simp only [Act.put, List.setIfInBounds_toArray, List.set_cons_zero, List.set_cons_succ]
          refine takeTo 1 (some 79) (.slice (some ⟨x, o, none⟩) len scap) rfl rfl (by kernel_rfl) (by kernel_rfl) (by kernel_rfl) (fun _ _ _ h => h) (by rfl) (fun _ _ => rfl) hHeld ?_
          simp only [Act.put, List.setIfInBounds_toArray, List.set_cons_zero, List.set_cons_succ]
          refine takeTo 2 (some 80) (.int .i64 (k : Nat)) rfl rfl (by kernel_rfl) (by kernel_rfl) (by kernel_rfl) (fun _ _ _ h => h) (by rfl) (fun _ _ => rfl) hHeld ?_
          simp only [Act.put, List.setIfInBounds_toArray, List.set_cons_zero, List.set_cons_succ]
          refine takeTo 3 (some 81) (.pointer (some ⟨x, o + k * 4, none⟩)) rfl rfl (by kernel_rfl) (by kernel_rfl) (by kernel_rfl) (fun _ _ _ h => h) (by rfl) (fun wz _ => run_at_op _ _ rfl x o k len scap rfl rfl hkl wz) hHeld ?_
          simp only [Act.put, List.setIfInBounds_toArray, List.set_cons_zero, List.set_cons_succ]
          refine takeTo 4 (some 82) (.pointer (some ⟨x, o + k * 4 + 1, none⟩)) rfl rfl (by kernel_rfl) (by kernel_rfl) (by kernel_rfl) (fun _ _ _ h => h) (by rfl) (fun _ _ => rfl) hHeld ?_
          simp only [Act.put, List.setIfInBounds_toArray, List.set_cons_zero, List.set_cons_succ]
          refine takeTo 5 (some 83) (.int .i64 v.i) rfl rfl (by kernel_rfl) (by kernel_rfl) (by kernel_rfl) (fun _ _ _ h => h) (by rfl) (fun wz hz => run_load_i _ rfl _ rfl _ wz hz.1) hHeld ?_
          simp only [Act.put, List.setIfInBounds_toArray, List.set_cons_zero, List.set_cons_succ]
          refine takeTo 6 (some 84) (.slice (some ⟨x, o, none⟩) len scap) rfl rfl (by kernel_rfl) (by kernel_rfl) (by kernel_rfl) (fun _ _ _ h => h) (by rfl) (fun _ _ => rfl) hHeld ?_
          simp only [Act.put, List.setIfInBounds_toArray, List.set_cons_zero, List.set_cons_succ]
          refine takeTo 7 (some 85) (.int .i64 (k : Nat)) rfl rfl (by kernel_rfl) (by kernel_rfl) (by kernel_rfl) (fun _ _ _ h => h) (by rfl) (fun _ _ => rfl) hHeld ?_
          simp only [Act.put, List.setIfInBounds_toArray, List.set_cons_zero, List.set_cons_succ]
          refine takeTo 8 (some 86) (.pointer (some ⟨x, o + k * 4, none⟩)) rfl rfl (by kernel_rfl) (by kernel_rfl) (by kernel_rfl) (fun _ _ _ h => h) (by rfl) (fun wz _ => run_at_op _ _ rfl x o k len scap rfl rfl hkl wz) hHeld ?_
          simp only [Act.put, List.setIfInBounds_toArray, List.set_cons_zero, List.set_cons_succ]
          refine takeTo 9 (some 87) (.pointer (some ⟨x, o + k * 4 + 2, none⟩)) rfl rfl (by kernel_rfl) (by kernel_rfl) (by kernel_rfl) (fun _ _ _ h => h) (by rfl) (fun _ _ => rfl) hHeld ?_
          simp only [Act.put, List.setIfInBounds_toArray, List.set_cons_zero, List.set_cons_succ]
          refine takeTo 10 (some 88) (.slice v.a v.L v.C) rfl rfl (by kernel_rfl) (by kernel_rfl) (by kernel_rfl) (fun _ _ _ h => h) (by rfl) (fun wz hz => run_load_row1 _ rfl _ rfl _ wz hz.2) hHeld ?_
          simp only [Act.put, List.setIfInBounds_toArray, List.set_cons_zero, List.set_cons_succ]
          refine callTo 11 (some 89) 18 #[ptr p, .int .i64 v.i, .slice v.a v.L v.C] (by kernel_rfl) rfl rfl (by rfl) (by kernel_rfl) hwr' ?_
          rintro e5 w5 ⟨rfl, _, F5, _, hI5⟩
          have hOp5 := hop.below hx hI5.below (Nat.le_refl _)
          refine ⟨_, rfl, ⟨hOp5.c1, hOp5.c2⟩, ?_⟩
          simp only [Act.put, List.setIfInBounds_toArray, List.set_cons_zero, List.set_cons_succ]
          refine wpAnyH_done (by kernel_rfl) ?_ _
          go_wp2
          go_roundw
          case rel => exact ⟨k + 1, by omega, by omega, by go_num, Going.tampered (wr := wr) hI5 hn hdd hll hmm⟩
          case measure => simp [intOf]; omega
        · obtain ⟨z, hz⟩ : ∃ z, z = v.k := ⟨_, rfl⟩
          rw [← hz] at c0 h1 h2 h8
          clear hz
          go_wp2
          go_roundw
          case rel => exact ⟨k + 1, by omega, by omega, by go_num, Going.more ⟨s, m, F', hIn, hn, hdd, hll, hmm⟩⟩
          case measure => simp [intOf]; omega
      · obtain ⟨s, m, F', hIn, hn, hdd, hll, hmm⟩ := hgo
        have hr64 : i64ok (r : Int) := ⟨by omega, by omega⟩
        obtain ⟨L, hLL⟩ : ∃ L, L = min bL 64 := ⟨_, rfl⟩
        have hL64 : L ≤ 64 := by omega
        have hLb : L ≤ bL := by omega
        have HLL : Hid (L = min bL 64) := hLL
        have HF : Hid (∀ m m2, _) := fun m m2 => heal_facts s r m m2 b b bL L (keepOf (fun _ => false) 0) hdd (by omega) hL64
        have hsp := in_spoil hD hIn (r : Int) hr64
        clear hLL
        by_cases hk6 : k < len
        · have i0 : (k : Int) < (len : Int) := by omega
          have i1 : ¬ (k : Int) < 60 := by omega
          go_wp2_with (first
            | ((go_at_call 15)
               (refine hsp.mono ?_)
               (rintro e w3 ⟨rfl, _, F3, _, hI3⟩)
               (have hr1 := in_read hD hI3 (r : Int) hr64)
               (rw [(HF.out 0 0).1] at hr1)
               (clear hsp))
            | ((go_at_call 20)
               (have _t := hr1)
               (refine hr1.mono ?_)
               (rintro e w4 ⟨hb4, hI4, v4, rfl, (⟨_, a4, c4, rfl⟩ | ⟨hv, _⟩)⟩)
               (case inr => exact absurd hv (by decide))
               (have htp := in_tamper hD hI4 (r : Int) ba bL bC b hr64 (by omega) (by rw [spS_len]; omega) hb.le hb.max hb.nil (hb.at_.below hI4.below (Nat.le_refl _)) hb.byt (.inr (hI4.apart hb.lt)))
               (clear hr1 _t))
            | ((go_at_call 18)
               (refine htp.mono ?_)
               (rintro e w5 ⟨rfl, _, F5, _, hI5⟩)
               (have hm5 := wrM_le (spS s (r : Int)) (r : Int) bL m)
               (obtain ⟨m5, hm5e⟩ : ∃ m5, m5 = wrM (spS s (r : Int)) (r : Int) bL m := ⟨_, rfl⟩)
               (rw [← hm5e] at hI5 hm5)
               (have hl5 := tpS_len (spS s (r : Int)) (r : Int) b bL m)
               (have hl5s := spS_len s (r : Int))
               (have hsy := in_sync hD hI5 (by omega) (by omega))
               (clear htp hm5e))
            | ((go_at_call 13)
               (refine hsy.mono ?_)
               (rintro e w6 ⟨rfl, _, F6, _, hI6⟩)
               (have hl6 := syS_len (tpS (spS s (r : Int)) (r : Int) b bL m) m5)
               (have H := HF.out m m5)
               (have HH : Hid _ := H)
               (have hr2 := in_read hD hI6 (r : Int) hr64)
               (rw [H.2.1] at hr2)
               (have hcut := fun wz (hz : In D w.heap.size w wz p (syS (tpS (spS s (r : Int)) (r : Int) b bL m) m5) c m5 F6) => in_cut hD hz none 0 0 (fun _ => false) (by omega) (by decide) (Nat.le_refl _) (.inl rfl))
               (obtain ⟨S6, hS6⟩ : ∃ S6, S6 = syS (tpS (spS s (r : Int)) (r : Int) b bL m) m5 := ⟨_, rfl⟩)
               (rw [← hS6] at hI6 hcut HH hr2 hl6)
               (clear hsy H hS6))
            | ((go_at_call 20)
               (have _t := hr2)
               (refine hr2.mono ?_)
               (rintro e w7 ⟨hb7, hI7, v7, rfl, (⟨_, a7, c7, rfl⟩ | ⟨hv, _⟩)⟩)
               (case inr => exact absurd hv (by decide))
               (clear hr2 _t))
            | ((go_at_call 25)
               (refine (hcut _ hI7).mono ?_)
               (rintro e w8 ⟨hb8, hI8, p', c', F', rfl, hJ8, _, _⟩)
               (have hr3 := in_read hD hJ8 (r : Int) hr64)
               (rw [HH.out.2.2.1] at hr3)
               (clear hcut))
            | ((go_at_call 20)
               (have _t := hr3)
               (refine hr3.mono ?_)
               (rintro e w9 ⟨hb9, hJ9, v9, rfl, (⟨_, a9, c9, rfl⟩ | ⟨hv, _⟩)⟩)
               (case inr => exact absurd hv (by decide))
               (have hI9 := hI8.next hD hb9)
               (have hwr := in_write hD hI9 (r : Int) ba L bC b hr64 (by omega) (by omega) (Nat.le_trans hLb hb.le) (Nat.le_trans hLb hb.max) (fun e => by have := hb.nil e; omega) (by_less (hb.at_.below hI9.below (Nat.le_refl _)) hLb) hb.byt (.inr (hI9.apart hb.lt)))
               (rw [HH.out.2.2.2.1] at hwr)
               (clear hr3 _t))
            | (refine wpList_is (some 124) (.int .i64 (L : Nat)) rfl (by rfl) (run_min64 _ rfl bL L HLL.out rfl _) ?_)
            | (refine wpList_is (some 125) (.slice ba L bC) rfl (by rfl) (run_slice_top _ _ rfl ba bL bC L rfl rfl (Nat.le_trans hLb hb.le) _) ?_)
            | ((go_at_call 11)
               (refine hwr.mono ?_)
               (rintro e w10 ⟨rfl, _, F10, _, hI10⟩)
               (have hr4 := in_read hD hI10 (r : Int) hr64)
               (rw [HH.out.2.2.2.2.1] at hr4)
               (clear hwr))
            | ((go_at_call 20)
               (refine hr4.mono ?_)
               (rintro e w11 ⟨hb11, hI11, v11, rfl, (⟨hv, _⟩ | ⟨_, hv11⟩)⟩)
               (case inl => exact absurd rfl hv)
               (obtain ⟨g11, o11, k11, rfl, hk11, hg11, hB11⟩ := hv11.bytes)
               (rw [Int.toNat_natCast, HH.out.2.2.2.2.2.1] at hB11)
               (have hfu := full_any b L bC ba w11 (Nat.le_trans hLb hb.max) (by_less (hb.at_.below hI11.below (Nat.le_refl _)) hLb))
               (clear hr4 hv11))
            | ((go_at_call 32)
               (refine hfu.mono ?_)
               (rintro e w12 ⟨rfl, hH12, hb12⟩)
               (have hI12 := hI11.next hD hb12)
               (have hsm := same_true (k11) 64 (hB11.below hb12 (Nat.le_refl _)) hH12.bytes (full_lt b L hb.byt) (fun e => by cases e) (fun e => by cases e))
               (clear hfu))
            | ((go_at_call 22)
               (refine hsm.mono ?_)
               (rintro e w13 ⟨rfl, hw13⟩)
               (subst hw13)
               (have hbd := in_tells hD hI12 (hM.isBad w13 p _ c _ F10 (r : Int) hI12.dev hr64))
               (rw [Int.toNat_natCast, HH.out.2.2.2.2.2.2, Bool.and_false] at hbd)
               (clear hsm))
            | ((go_at_call 37)
               (refine hbd.mono ?_)
               (rintro e w14 ⟨rfl, hb14, hI14⟩)))
          all_goals exact bodyPost_ret (results_tmp rfl _ _ _) rfl ⟨rfl, hI14.below⟩
        · have i0 : ¬ (k : Int) < (len : Int) := by omega
          go_wp2_with (first
            | ((go_at_call 15)
               (refine hsp.mono ?_)
               (rintro e w3 ⟨rfl, _, F3, _, hI3⟩)
               (have hr1 := in_read hD hI3 (r : Int) hr64)
               (rw [(HF.out 0 0).1] at hr1)
               (clear hsp))
            | ((go_at_call 20)
               (have _t := hr1)
               (refine hr1.mono ?_)
               (rintro e w4 ⟨hb4, hI4, v4, rfl, (⟨_, a4, c4, rfl⟩ | ⟨hv, _⟩)⟩)
               (case inr => exact absurd hv (by decide))
               (have htp := in_tamper hD hI4 (r : Int) ba bL bC b hr64 (by omega) (by rw [spS_len]; omega) hb.le hb.max hb.nil (hb.at_.below hI4.below (Nat.le_refl _)) hb.byt (.inr (hI4.apart hb.lt)))
               (clear hr1 _t))
            | ((go_at_call 18)
               (refine htp.mono ?_)
               (rintro e w5 ⟨rfl, _, F5, _, hI5⟩)
               (have hm5 := wrM_le (spS s (r : Int)) (r : Int) bL m)
               (obtain ⟨m5, hm5e⟩ : ∃ m5, m5 = wrM (spS s (r : Int)) (r : Int) bL m := ⟨_, rfl⟩)
               (rw [← hm5e] at hI5 hm5)
               (have hl5 := tpS_len (spS s (r : Int)) (r : Int) b bL m)
               (have hl5s := spS_len s (r : Int))
               (have hsy := in_sync hD hI5 (by omega) (by omega))
               (clear htp hm5e))
            | ((go_at_call 13)
               (refine hsy.mono ?_)
               (rintro e w6 ⟨rfl, _, F6, _, hI6⟩)
               (have hl6 := syS_len (tpS (spS s (r : Int)) (r : Int) b bL m) m5)
               (have H := HF.out m m5)
               (have HH : Hid _ := H)
               (have hr2 := in_read hD hI6 (r : Int) hr64)
               (rw [H.2.1] at hr2)
               (have hcut := fun wz (hz : In D w.heap.size w wz p (syS (tpS (spS s (r : Int)) (r : Int) b bL m) m5) c m5 F6) => in_cut hD hz none 0 0 (fun _ => false) (by omega) (by decide) (Nat.le_refl _) (.inl rfl))
               (obtain ⟨S6, hS6⟩ : ∃ S6, S6 = syS (tpS (spS s (r : Int)) (r : Int) b bL m) m5 := ⟨_, rfl⟩)
               (rw [← hS6] at hI6 hcut HH hr2 hl6)
               (clear hsy H hS6))
            | ((go_at_call 20)
               (have _t := hr2)
               (refine hr2.mono ?_)
               (rintro e w7 ⟨hb7, hI7, v7, rfl, (⟨_, a7, c7, rfl⟩ | ⟨hv, _⟩)⟩)
               (case inr => exact absurd hv (by decide))
               (clear hr2 _t))
            | ((go_at_call 25)
               (refine (hcut _ hI7).mono ?_)
               (rintro e w8 ⟨hb8, hI8, p', c', F', rfl, hJ8, _, _⟩)
               (have hr3 := in_read hD hJ8 (r : Int) hr64)
               (rw [HH.out.2.2.1] at hr3)
               (clear hcut))
            | ((go_at_call 20)
               (have _t := hr3)
               (refine hr3.mono ?_)
               (rintro e w9 ⟨hb9, hJ9, v9, rfl, (⟨_, a9, c9, rfl⟩ | ⟨hv, _⟩)⟩)
               (case inr => exact absurd hv (by decide))
               (have hI9 := hI8.next hD hb9)
               (have hwr := in_write hD hI9 (r : Int) ba L bC b hr64 (by omega) (by omega) (Nat.le_trans hLb hb.le) (Nat.le_trans hLb hb.max) (fun e => by have := hb.nil e; omega) (by_less (hb.at_.below hI9.below (Nat.le_refl _)) hLb) hb.byt (.inr (hI9.apart hb.lt)))
               (rw [HH.out.2.2.2.1] at hwr)
               (clear hr3 _t))
            | (refine wpList_is (some 124) (.int .i64 (L : Nat)) rfl (by rfl) (run_min64 _ rfl bL L HLL.out rfl _) ?_)
            | (refine wpList_is (some 125) (.slice ba L bC) rfl (by rfl) (run_slice_top _ _ rfl ba bL bC L rfl rfl (Nat.le_trans hLb hb.le) _) ?_)
            | ((go_at_call 11)
               (refine hwr.mono ?_)
               (rintro e w10 ⟨rfl, _, F10, _, hI10⟩)
               (have hr4 := in_read hD hI10 (r : Int) hr64)
               (rw [HH.out.2.2.2.2.1] at hr4)
               (clear hwr))
            | ((go_at_call 20)
               (refine hr4.mono ?_)
               (rintro e w11 ⟨hb11, hI11, v11, rfl, (⟨hv, _⟩ | ⟨_, hv11⟩)⟩)
               (case inl => exact absurd rfl hv)
               (obtain ⟨g11, o11, k11, rfl, hk11, hg11, hB11⟩ := hv11.bytes)
               (rw [Int.toNat_natCast, HH.out.2.2.2.2.2.1] at hB11)
               (have hfu := full_any b L bC ba w11 (Nat.le_trans hLb hb.max) (by_less (hb.at_.below hI11.below (Nat.le_refl _)) hLb))
               (clear hr4 hv11))
            | ((go_at_call 32)
               (refine hfu.mono ?_)
               (rintro e w12 ⟨rfl, hH12, hb12⟩)
               (have hI12 := hI11.next hD hb12)
               (have hsm := same_true (k11) 64 (hB11.below hb12 (Nat.le_refl _)) hH12.bytes (full_lt b L hb.byt) (fun e => by cases e) (fun e => by cases e))
               (clear hfu))
            | ((go_at_call 22)
               (refine hsm.mono ?_)
               (rintro e w13 ⟨rfl, hw13⟩)
               (subst hw13)
               (have hbd := in_tells hD hI12 (hM.isBad w13 p _ c _ F10 (r : Int) hI12.dev hr64))
               (rw [Int.toNat_natCast, HH.out.2.2.2.2.2.2, Bool.and_false] at hbd)
               (clear hsm))
            | ((go_at_call 37)
               (refine hbd.mono ?_)
               (rintro e w14 ⟨rfl, hb14, hI14⟩)))
          all_goals exact bodyPost_ret (results_tmp rfl _ _ _) rfl ⟨rfl, hI14.below⟩
end Go.Proofs.Ytalcalecmklcoaa
