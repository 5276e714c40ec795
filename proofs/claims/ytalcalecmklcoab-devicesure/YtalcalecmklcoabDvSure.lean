/- DeviceSure, walked. -/
import Derived.Test.YtalcalecmklcoabDvSureM
namespace Go.Proofs.Ytalcalecmklcoab
open Go.ChangeShapes Go.WideShapes Go.ChangeAt Go.RowKit
set_option linter.unusedVariables false

variable {D : DevRep}

set_option maxRecDepth 100000 in
set_option maxHeartbeats 3200000 in
theorem sure_any (hD : DevOk D) (w : World) (sa : Option Addr) (len scap : Nat) (O : Nat → OpV) (hS : Script w sa len O) (ba : Option Addr) (bL bC : Nat) (b : Nat → Nat) (hb : ByIn w ba bL bC b) (ka : Option Addr) (kL kC : Nat) (kb : Nat → Bool) (hk : BoIn w ka kL kC kb) :
    Calls Try.prog 4 #[.slice sa len scap, .slice ba bL bC, .slice ka kL kC] w fun e w' => e = .returned (.bool true) ∧ Below w.heap.size w w' := by
  have hnew := in_new (B := w.heap.size) (w0 := w) hD 6 (by decide) (by decide) (Below.refl _ w) (Nat.le_refl _)
  have hlen := hS.1
  unfold maxLen at hlen
  go_enter Try.func4, Try.ntmps4
  go_wp2_with (first
    | ((go_at_call 5)
       (refine hnew.mono ?_)
       (rintro e w1 ⟨p, c, F, rfl, hI, hb1, hF1, hc1⟩)
       (have hal := in_tells hD hI (dalive_any hD w1))
       (clear hnew hF1 hc1 hb1))
    | ((go_at_call 6)
       (refine hal.mono ?_)
       (rintro e w2 ⟨rfl, hb2, hI2⟩)
       (clear hal hI)))
  go_loopw [9] (fun i wr => ∃ k : Nat, k ≤ len ∧ k ≤ 60 ∧ i = .int .i64 (k : Nat) ∧ GoingQ D 6 NoBad w wr p c k) (fun i _ => 60 - (intOf i).toNat)
  case atStart => exact ⟨0, Nat.zero_le _, Nat.zero_le _, rfl, _, _, _, hI2, rfl, rfl, Nat.le_refl _, Nat.le_refl _, fun _ => rfl⟩
  case round =>
    obtain ⟨k, hkl0, hk60, rfl, hgo⟩ := hrel
    clear hI2
    obtain ⟨s, m, F', hIn, hn, hdd, hll, hmm, hQ⟩ := hgo
    by_cases hkk : k < len ∧ k < 60
    · obtain ⟨hkl, hk6⟩ := hkk
      obtain ⟨x, o, rfl, hx, hop⟩ := hS.2 k hkl
      obtain ⟨v, hv⟩ : ∃ v, v = O k := ⟨_, rfl⟩
      rw [← hv] at hop
      have hOp := hop.below hx hIn.below (Nat.le_refl _)
      have hby := hop.by_
      have c0 := hOp.c0
      have i0 : (k : Int) < (len : Int) := by omega
      have i1 : (0 : Int) ≤ (k : Int) := by omega
      have i2 : (k : Int) < 60 := by omega
      clear hv hS
      by_cases h2 : v.k = 2
      · rw [h2] at c0
        have hsy := in_sync hD hIn (by omega) (by omega)
        go_wp2_with (first
          | ((go_at_call 7)
             (refine hsy.mono ?_)
             (rintro e w5 ⟨rfl, hO5, F5, hg5, hI5⟩)
             (clear hsy)))
        go_roundw
        case rel => exact ⟨k + 1, by omega, by omega, by go_num, GoingQ.synced (wr := wr) hI5 hn hdd hll hmm (nobad_sy _ _ hQ)⟩
        case measure => simp [intOf]; omega
      · obtain ⟨z, hz⟩ : ∃ z, z = v.k := ⟨_, rfl⟩
        rw [← hz] at c0 h2
        clear hz
        go_wp2
        have hwr' := in_write hD (hIn.next hD (Below.refl _ wr).drew) v.i v.a v.L v.C v.b hop.oi (by omega) (by omega) hby.le hby.max hby.nil (hby.at_.below (hIn.below.trans ((Below.refl _ wr).drew.mono hIn.sz)) (Nat.le_refl _)) hby.byt (.inr (hIn.apart hby.lt))
        refine wp_region_held_drew (S := fun wz => wz.cell? ⟨x, o + k * 4 + 1, none⟩ = some (.int .i64 v.i) ∧ wz.cell? ⟨x, o + k * 4 + 2, none⟩ = some (.slice v.a v.L v.C)) (by kernel_rfl) ⟨hOp.c1, hOp.c2⟩ (fun hHeld => ?_)
        refine takeTo 0 (some 48) (ptr p) rfl rfl (by kernel_rfl) (by kernel_rfl) (by kernel_rfl) (fun _ _ _ h => h) (by rfl) (fun _ _ => rfl) hHeld ?_
        simp only [Act.put, List.setIfInBounds_toArray, List.set_cons_zero, List.set_cons_succ]
        refine takeTo 1 (some 49) (.slice (some ⟨x, o, none⟩) len scap) rfl rfl (by kernel_rfl) (by kernel_rfl) (by kernel_rfl) (fun _ _ _ h => h) (by rfl) (fun _ _ => rfl) hHeld ?_
        simp only [Act.put, List.setIfInBounds_toArray, List.set_cons_zero, List.set_cons_succ]
        refine takeTo 2 (some 50) (.int .i64 (k : Nat)) rfl rfl (by kernel_rfl) (by kernel_rfl) (by kernel_rfl) (fun _ _ _ h => h) (by rfl) (fun _ _ => rfl) hHeld ?_
        simp only [Act.put, List.setIfInBounds_toArray, List.set_cons_zero, List.set_cons_succ]
        refine takeTo 3 (some 51) (.pointer (some ⟨x, o + k * 4, none⟩)) rfl rfl (by kernel_rfl) (by kernel_rfl) (by kernel_rfl) (fun _ _ _ h => h) (by rfl) (fun wz _ => run_at_op _ _ rfl x o k len scap rfl rfl hkl wz) hHeld ?_
        simp only [Act.put, List.setIfInBounds_toArray, List.set_cons_zero, List.set_cons_succ]
        refine takeTo 4 (some 52) (.pointer (some ⟨x, o + k * 4 + 1, none⟩)) rfl rfl (by kernel_rfl) (by kernel_rfl) (by kernel_rfl) (fun _ _ _ h => h) (by rfl) (fun _ _ => rfl) hHeld ?_
        simp only [Act.put, List.setIfInBounds_toArray, List.set_cons_zero, List.set_cons_succ]
        refine takeTo 5 (some 53) (.int .i64 v.i) rfl rfl (by kernel_rfl) (by kernel_rfl) (by kernel_rfl) (fun _ _ _ h => h) (by rfl) (fun wz hz => run_load_i _ rfl _ rfl _ wz hz.1) hHeld ?_
        simp only [Act.put, List.setIfInBounds_toArray, List.set_cons_zero, List.set_cons_succ]
        refine takeTo 6 (some 54) (.slice (some ⟨x, o, none⟩) len scap) rfl rfl (by kernel_rfl) (by kernel_rfl) (by kernel_rfl) (fun _ _ _ h => h) (by rfl) (fun _ _ => rfl) hHeld ?_
        simp only [Act.put, List.setIfInBounds_toArray, List.set_cons_zero, List.set_cons_succ]
        refine takeTo 7 (some 55) (.int .i64 (k : Nat)) rfl rfl (by kernel_rfl) (by kernel_rfl) (by kernel_rfl) (fun _ _ _ h => h) (by rfl) (fun _ _ => rfl) hHeld ?_
        simp only [Act.put, List.setIfInBounds_toArray, List.set_cons_zero, List.set_cons_succ]
        refine takeTo 8 (some 56) (.pointer (some ⟨x, o + k * 4, none⟩)) rfl rfl (by kernel_rfl) (by kernel_rfl) (by kernel_rfl) (fun _ _ _ h => h) (by rfl) (fun wz _ => run_at_op _ _ rfl x o k len scap rfl rfl hkl wz) hHeld ?_
        simp only [Act.put, List.setIfInBounds_toArray, List.set_cons_zero, List.set_cons_succ]
        refine takeTo 9 (some 57) (.pointer (some ⟨x, o + k * 4 + 2, none⟩)) rfl rfl (by kernel_rfl) (by kernel_rfl) (by kernel_rfl) (fun _ _ _ h => h) (by rfl) (fun _ _ => rfl) hHeld ?_
        simp only [Act.put, List.setIfInBounds_toArray, List.set_cons_zero, List.set_cons_succ]
        refine takeTo 10 (some 58) (.slice v.a v.L v.C) rfl rfl (by kernel_rfl) (by kernel_rfl) (by kernel_rfl) (fun _ _ _ h => h) (by rfl) (fun wz hz => run_load_row1 _ rfl _ rfl _ wz hz.2) hHeld ?_
        simp only [Act.put, List.setIfInBounds_toArray, List.set_cons_zero, List.set_cons_succ]
        refine callTo 11 (some 59) 8 #[ptr p, .int .i64 v.i, .slice v.a v.L v.C] (by kernel_rfl) rfl rfl (by rfl) (by kernel_rfl) hwr' ?_
        rintro e5 w5 ⟨rfl, hO5, F5, hg5, hI5⟩
        have hOp5 := hop.below hx hI5.below (Nat.le_refl _)
        refine ⟨_, rfl, ⟨hOp5.c1, hOp5.c2⟩, ?_⟩
        simp only [Act.put, List.setIfInBounds_toArray, List.set_cons_zero, List.set_cons_succ]
        refine wpAnyH_done (by kernel_rfl) ?_ _
        go_wp2
        go_roundw
        case rel => exact ⟨k + 1, by omega, by omega, by go_num, GoingQ.wrote (wr := wr) hI5 hn hdd hll hmm (nobad_wr _ _ _ _ _ hQ)⟩
        case measure => simp [intOf]; omega
    · obtain ⟨L, hLL⟩ : ∃ L, L = min bL 64 := ⟨_, rfl⟩
      have hL64 : L ≤ 64 := by omega
      have hLb : L ≤ bL := by omega
      have HLL : Hid (L = min bL 64) := hLL
      have htp := in_tamper hD hIn 3 ba L bC b ⟨by decide, by decide⟩ (by omega) (by omega) (Nat.le_trans hLb hb.le) (Nat.le_trans hLb hb.max) (fun e => by have := hb.nil e; omega) (by_less (hb.at_.below hIn.below (Nat.le_refl _)) hLb) hb.byt (.inr (hIn.apart hb.lt))
      have hw0 : wrErr s 3 L = 0 := wrErr_ok s 3 L hdd (by omega) hL64
      have e1 : tpS s 3 b L m = tampD s 3 (full b L) (m + 1) := by
        unfold tpS
        rw [if_pos hw0]
        rfl
      have e2 : wrM s 3 L m = m + 1 := by
        unfold wrM
        rw [if_pos hw0]
      rw [e1, e2] at htp
      have hsu : SureAt (tampD s 3 (full b L) (m + 1)) 3 (full b L) := sure_tamper s 3 _ _
      have hl3 : (tampD s 3 (full b L) (m + 1)).log.length ≤ 61 := by
        show (s.log ++ [_]).length ≤ 61
        rw [List.length_append]
        show s.log.length + 1 ≤ 61
        omega
      have hnb : NoBad (tampD s 3 (full b L) (m + 1)) := hQ
      obtain ⟨S, hSS⟩ : ∃ S, S = tampD s 3 (full b L) (m + 1) := ⟨_, rfl⟩
      have hSn : S.n = 6 := by rw [hSS]; exact hn
      have hSd : S.dead = false := by rw [hSS]; exact hdd
      rw [← hSS] at htp hsu hl3 hnb
      clear hLL e1 e2 hw0 hSS hQ hn hdd
      by_cases hk6 : k < len
      · have i0 : (k : Int) < (len : Int) := by omega
        have i1 : ¬ (k : Int) < 60 := by omega
        go_wp2_with (first
          | (refine wpList_is (some 63) (.int .i64 (L : Nat)) rfl (by rfl) (run_min64 _ rfl bL L HLL.out rfl _) ?_)
          | (refine wpList_is (some 64) (.slice ba L bC) rfl (by rfl) (run_slice_top _ _ rfl ba bL bC L rfl rfl (Nat.le_trans hLb hb.le) _) ?_)
          | ((go_at_call 14)
             (refine htp.mono ?_)
             (rintro e w3 ⟨rfl, _, F3, _, hI3⟩)
             (clear htp hIn)))
        have hm61 : m + 1 ≤ 61 := by omega
        obtain ⟨K0, hK0⟩ : ∃ K0 : Nat, K0 = k := ⟨_, rfl⟩
        clear i0 hkk hk6 hkl0 hk60 hll hmm
        go_loopw [11] (fun i wr => ∃ k : Nat, k ≤ len ∧ k ≤ 60 ∧ i = .int .i64 (k : Nat) ∧ GoingQ D 6 (fun s => NoBad s ∧ SureAt s 3 (full b L)) w wr p c (k + 61)) (fun i _ => 60 - (intOf i).toNat)
        case atStart => exact ⟨0, Nat.zero_le _, Nat.zero_le _, rfl, _, _, _, hI3, hSn, hSd, by omega, by omega, hnb, hsu⟩
        case round =>
          obtain ⟨k, hkl0, hk60, rfl, hgo⟩ := hrel
          clear hI3 hsu hnb hSn hSd hl3
          obtain ⟨s, m, F', hIn, hn, hdd, hll, hmm, hQ, hQ2⟩ := hgo
          by_cases hkk : k < len ∧ k < 60
          · obtain ⟨hkl, hk6⟩ := hkk
            obtain ⟨x, o, rfl, hx, hop⟩ := hS.2 k hkl
            obtain ⟨v, hv⟩ : ∃ v, v = O k := ⟨_, rfl⟩
            rw [← hv] at hop
            have hOp := hop.below hx hIn.below (Nat.le_refl _)
            have hby := hop.by_
            have c0 := hOp.c1
            have i0 : (k : Int) < (len : Int) := by omega
            have i1 : (0 : Int) ≤ (k : Int) := by omega
            have i2 : (k : Int) < 60 := by omega
            clear hv hS
            by_cases h2 : v.i = 3
            · rw [h2] at c0
              go_wp2
              go_roundw
              case rel => exact ⟨k + 1, by omega, by omega, by go_num, (by rw [show k + 1 + 61 = k + 61 + 1 by omega]; exact GoingQ.more ⟨s, m, F', hIn, hn, hdd, hll, hmm, hQ, hQ2⟩)⟩
              case measure => simp [intOf]; omega
            · obtain ⟨z, hz⟩ : ∃ z, z = v.i := ⟨_, rfl⟩
              rw [← hz] at c0 h2
              have HZ : Hid (z = v.i) := hz
              clear hz
              go_wp2
              have hwr' := in_write hD (hIn.next hD (Below.refl _ wr).drew) v.i v.a v.L v.C v.b hop.oi (by omega) (by omega) hby.le hby.max hby.nil (hby.at_.below (hIn.below.trans ((Below.refl _ wr).drew.mono hIn.sz)) (Nat.le_refl _)) hby.byt (.inr (hIn.apart hby.lt))
              refine wp_region_held_drew (S := fun wz => wz.cell? ⟨x, o + k * 4 + 1, none⟩ = some (.int .i64 v.i) ∧ wz.cell? ⟨x, o + k * 4 + 2, none⟩ = some (.slice v.a v.L v.C)) (by kernel_rfl) ⟨hOp.c1, hOp.c2⟩ (fun hHeld => ?_)
              refine takeTo 0 (some 84) (ptr p) rfl rfl (by kernel_rfl) (by kernel_rfl) (by kernel_rfl) (fun _ _ _ h => h) (by rfl) (fun _ _ => rfl) hHeld ?_
              simp only [Act.put, List.setIfInBounds_toArray, List.set_cons_zero, List.set_cons_succ]
              refine takeTo 1 (some 85) (.slice (some ⟨x, o, none⟩) len scap) rfl rfl (by kernel_rfl) (by kernel_rfl) (by kernel_rfl) (fun _ _ _ h => h) (by rfl) (fun _ _ => rfl) hHeld ?_
              simp only [Act.put, List.setIfInBounds_toArray, List.set_cons_zero, List.set_cons_succ]
              refine takeTo 2 (some 86) (.int .i64 (k : Nat)) rfl rfl (by kernel_rfl) (by kernel_rfl) (by kernel_rfl) (fun _ _ _ h => h) (by rfl) (fun _ _ => rfl) hHeld ?_
              simp only [Act.put, List.setIfInBounds_toArray, List.set_cons_zero, List.set_cons_succ]
              refine takeTo 3 (some 87) (.pointer (some ⟨x, o + k * 4, none⟩)) rfl rfl (by kernel_rfl) (by kernel_rfl) (by kernel_rfl) (fun _ _ _ h => h) (by rfl) (fun wz _ => run_at_op _ _ rfl x o k len scap rfl rfl hkl wz) hHeld ?_
              simp only [Act.put, List.setIfInBounds_toArray, List.set_cons_zero, List.set_cons_succ]
              refine takeTo 4 (some 88) (.pointer (some ⟨x, o + k * 4 + 1, none⟩)) rfl rfl (by kernel_rfl) (by kernel_rfl) (by kernel_rfl) (fun _ _ _ h => h) (by rfl) (fun _ _ => rfl) hHeld ?_
              simp only [Act.put, List.setIfInBounds_toArray, List.set_cons_zero, List.set_cons_succ]
              refine takeTo 5 (some 89) (.int .i64 v.i) rfl rfl (by kernel_rfl) (by kernel_rfl) (by kernel_rfl) (fun _ _ _ h => h) (by rfl) (fun wz hz => run_load_i _ rfl _ rfl _ wz hz.1) hHeld ?_
              simp only [Act.put, List.setIfInBounds_toArray, List.set_cons_zero, List.set_cons_succ]
              refine takeTo 6 (some 90) (.slice (some ⟨x, o, none⟩) len scap) rfl rfl (by kernel_rfl) (by kernel_rfl) (by kernel_rfl) (fun _ _ _ h => h) (by rfl) (fun _ _ => rfl) hHeld ?_
              simp only [Act.put, List.setIfInBounds_toArray, List.set_cons_zero, List.set_cons_succ]
              refine takeTo 7 (some 91) (.int .i64 (k : Nat)) rfl rfl (by kernel_rfl) (by kernel_rfl) (by kernel_rfl) (fun _ _ _ h => h) (by rfl) (fun _ _ => rfl) hHeld ?_
              simp only [Act.put, List.setIfInBounds_toArray, List.set_cons_zero, List.set_cons_succ]
              refine takeTo 8 (some 92) (.pointer (some ⟨x, o + k * 4, none⟩)) rfl rfl (by kernel_rfl) (by kernel_rfl) (by kernel_rfl) (fun _ _ _ h => h) (by rfl) (fun wz _ => run_at_op _ _ rfl x o k len scap rfl rfl hkl wz) hHeld ?_
              simp only [Act.put, List.setIfInBounds_toArray, List.set_cons_zero, List.set_cons_succ]
              refine takeTo 9 (some 93) (.pointer (some ⟨x, o + k * 4 + 2, none⟩)) rfl rfl (by kernel_rfl) (by kernel_rfl) (by kernel_rfl) (fun _ _ _ h => h) (by rfl) (fun _ _ => rfl) hHeld ?_
              simp only [Act.put, List.setIfInBounds_toArray, List.set_cons_zero, List.set_cons_succ]
              refine takeTo 10 (some 94) (.slice v.a v.L v.C) rfl rfl (by kernel_rfl) (by kernel_rfl) (by kernel_rfl) (fun _ _ _ h => h) (by rfl) (fun wz hz => run_load_row1 _ rfl _ rfl _ wz hz.2) hHeld ?_
              simp only [Act.put, List.setIfInBounds_toArray, List.set_cons_zero, List.set_cons_succ]
              refine callTo 11 (some 95) 8 #[ptr p, .int .i64 v.i, .slice v.a v.L v.C] (by kernel_rfl) rfl rfl (by rfl) (by kernel_rfl) hwr' ?_
              rintro e5 w5 ⟨rfl, hO5, F5, hg5, hI5⟩
              have hOp5 := hop.below hx hI5.below (Nat.le_refl _)
              refine ⟨_, rfl, ⟨hOp5.c1, hOp5.c2⟩, ?_⟩
              simp only [Act.put, List.setIfInBounds_toArray, List.set_cons_zero, List.set_cons_succ]
              refine wpAnyH_done (by kernel_rfl) ?_ _
              go_wp2
              go_roundw
              case rel => exact ⟨k + 1, by omega, by omega, by go_num, (by rw [show k + 1 + 61 = k + 61 + 1 by omega]; exact GoingQ.wrote (Q := fun s => NoBad s ∧ SureAt s 3 (full b L)) (wr := wr) hI5 hn hdd hll hmm ⟨nobad_wr _ _ _ _ _ hQ, sure_wr _ 3 _ _ _ _ _ hQ2 (by rw [← HZ.out]; exact h2)⟩)⟩
              case measure => simp [intOf]; omega
          · by_cases hk6 : k < len
            · have i0 : (k : Int) < (len : Int) := by omega
              have i1 : ¬ (k : Int) < 60 := by omega
              have hcut := in_cut hD hIn ka kL kC kb (by omega) hk.max hk.le (hk.at_.below hIn.below (Nat.le_refl _))
              have E1 : rdErr (cutD s (keepOf kb kL)) 3 = 0 := rdErr_ok _ 3 hdd (by show 3 < s.n; omega) (hQ 3)
              have E2 : holds (cutD s (keepOf kb kL)) (3 : Int).toNat = full b L := sure_cut s 3 (full b L) _ hQ2
              obtain ⟨T, hT⟩ : ∃ T, T = cutD s (keepOf kb kL) := ⟨_, rfl⟩
              rw [← hT] at hcut E1 E2
              clear hT
              go_wp2_with (first
                | ((go_at_call 15)
                   (refine hcut.mono ?_)
                   (rintro e w4 ⟨hb4, hI4, p', c', F4, rfl, hJ4, _, _⟩)
                   (have hr1 := in_read hD hJ4 3 ⟨by decide, by decide⟩)
                   (rw [E1] at hr1)
                   (clear hcut))
                | ((go_at_call 12)
                   (refine hr1.mono ?_)
                   (rintro e w5 ⟨hb5, hJ5, v5, rfl, (⟨hv, _⟩ | ⟨_, hv5⟩)⟩)
                   (case inl => exact absurd rfl hv)
                   (obtain ⟨g5, o5, k5, rfl, hk5, hg5, hB5⟩ := hv5.bytes)
                   (rw [E2] at hB5)
                   (have hfu := full_any b L bC ba w5 (Nat.le_trans hLb hb.max) (by_less (hb.at_.below hJ5.below (Nat.le_refl _)) hLb))
                   (clear hr1 hv5))
                | ((go_at_call 18)
                   (refine hfu.mono ?_)
                   (rintro e w6 ⟨rfl, hH6, hb6⟩)
                   (have hJ6 := hJ5.next hD hb6)
                   (have hsm := same_true k5 64 (hB5.below hb6 (Nat.le_refl _)) hH6.bytes (full_lt b L hb.byt) (fun e => by cases e) (fun e => by cases e))
                   (clear hfu))
                | ((go_at_call 17)
                   (refine hsm.mono ?_)
                   (rintro e w7 ⟨rfl, hw7⟩)
                   (subst hw7)))
              all_goals exact bodyPost_ret (results_tmp rfl _ _ _) rfl ⟨rfl, hJ6.below⟩
            · have i0 : ¬ (k : Int) < (len : Int) := by omega
              have hcut := in_cut hD hIn ka kL kC kb (by omega) hk.max hk.le (hk.at_.below hIn.below (Nat.le_refl _))
              have E1 : rdErr (cutD s (keepOf kb kL)) 3 = 0 := rdErr_ok _ 3 hdd (by show 3 < s.n; omega) (hQ 3)
              have E2 : holds (cutD s (keepOf kb kL)) (3 : Int).toNat = full b L := sure_cut s 3 (full b L) _ hQ2
              obtain ⟨T, hT⟩ : ∃ T, T = cutD s (keepOf kb kL) := ⟨_, rfl⟩
              rw [← hT] at hcut E1 E2
              clear hT
              go_wp2_with (first
                | ((go_at_call 15)
                   (refine hcut.mono ?_)
                   (rintro e w4 ⟨hb4, hI4, p', c', F4, rfl, hJ4, _, _⟩)
                   (have hr1 := in_read hD hJ4 3 ⟨by decide, by decide⟩)
                   (rw [E1] at hr1)
                   (clear hcut))
                | ((go_at_call 12)
                   (refine hr1.mono ?_)
                   (rintro e w5 ⟨hb5, hJ5, v5, rfl, (⟨hv, _⟩ | ⟨_, hv5⟩)⟩)
                   (case inl => exact absurd rfl hv)
                   (obtain ⟨g5, o5, k5, rfl, hk5, hg5, hB5⟩ := hv5.bytes)
                   (rw [E2] at hB5)
                   (have hfu := full_any b L bC ba w5 (Nat.le_trans hLb hb.max) (by_less (hb.at_.below hJ5.below (Nat.le_refl _)) hLb))
                   (clear hr1 hv5))
                | ((go_at_call 18)
                   (refine hfu.mono ?_)
                   (rintro e w6 ⟨rfl, hH6, hb6⟩)
                   (have hJ6 := hJ5.next hD hb6)
                   (have hsm := same_true k5 64 (hB5.below hb6 (Nat.le_refl _)) hH6.bytes (full_lt b L hb.byt) (fun e => by cases e) (fun e => by cases e))
                   (clear hfu))
                | ((go_at_call 17)
                   (refine hsm.mono ?_)
                   (rintro e w7 ⟨rfl, hw7⟩)
                   (subst hw7)))
              all_goals exact bodyPost_ret (results_tmp rfl _ _ _) rfl ⟨rfl, hJ6.below⟩
      · have i0 : ¬ (k : Int) < (len : Int) := by omega
        go_wp2_with (first
          | (refine wpList_is (some 63) (.int .i64 (L : Nat)) rfl (by rfl) (run_min64 _ rfl bL L HLL.out rfl _) ?_)
          | (refine wpList_is (some 64) (.slice ba L bC) rfl (by rfl) (run_slice_top _ _ rfl ba bL bC L rfl rfl (Nat.le_trans hLb hb.le) _) ?_)
          | ((go_at_call 14)
             (refine htp.mono ?_)
             (rintro e w3 ⟨rfl, _, F3, _, hI3⟩)
             (clear htp hIn)))
        have hm61 : m + 1 ≤ 61 := by omega
        obtain ⟨K0, hK0⟩ : ∃ K0 : Nat, K0 = k := ⟨_, rfl⟩
        clear i0 hkk hk6 hkl0 hk60 hll hmm
        go_loopw [11] (fun i wr => ∃ k : Nat, k ≤ len ∧ k ≤ 60 ∧ i = .int .i64 (k : Nat) ∧ GoingQ D 6 (fun s => NoBad s ∧ SureAt s 3 (full b L)) w wr p c (k + 61)) (fun i _ => 60 - (intOf i).toNat)
        case atStart => exact ⟨0, Nat.zero_le _, Nat.zero_le _, rfl, _, _, _, hI3, hSn, hSd, by omega, by omega, hnb, hsu⟩
        case round =>
          obtain ⟨k, hkl0, hk60, rfl, hgo⟩ := hrel
          clear hI3 hsu hnb hSn hSd hl3
          obtain ⟨s, m, F', hIn, hn, hdd, hll, hmm, hQ, hQ2⟩ := hgo
          by_cases hkk : k < len ∧ k < 60
          · obtain ⟨hkl, hk6⟩ := hkk
            obtain ⟨x, o, rfl, hx, hop⟩ := hS.2 k hkl
            obtain ⟨v, hv⟩ : ∃ v, v = O k := ⟨_, rfl⟩
            rw [← hv] at hop
            have hOp := hop.below hx hIn.below (Nat.le_refl _)
            have hby := hop.by_
            have c0 := hOp.c1
            have i0 : (k : Int) < (len : Int) := by omega
            have i1 : (0 : Int) ≤ (k : Int) := by omega
            have i2 : (k : Int) < 60 := by omega
            clear hv hS
            by_cases h2 : v.i = 3
            · rw [h2] at c0
              go_wp2
              go_roundw
              case rel => exact ⟨k + 1, by omega, by omega, by go_num, (by rw [show k + 1 + 61 = k + 61 + 1 by omega]; exact GoingQ.more ⟨s, m, F', hIn, hn, hdd, hll, hmm, hQ, hQ2⟩)⟩
              case measure => simp [intOf]; omega
            · obtain ⟨z, hz⟩ : ∃ z, z = v.i := ⟨_, rfl⟩
              rw [← hz] at c0 h2
              have HZ : Hid (z = v.i) := hz
              clear hz
              go_wp2
              have hwr' := in_write hD (hIn.next hD (Below.refl _ wr).drew) v.i v.a v.L v.C v.b hop.oi (by omega) (by omega) hby.le hby.max hby.nil (hby.at_.below (hIn.below.trans ((Below.refl _ wr).drew.mono hIn.sz)) (Nat.le_refl _)) hby.byt (.inr (hIn.apart hby.lt))
              refine wp_region_held_drew (S := fun wz => wz.cell? ⟨x, o + k * 4 + 1, none⟩ = some (.int .i64 v.i) ∧ wz.cell? ⟨x, o + k * 4 + 2, none⟩ = some (.slice v.a v.L v.C)) (by kernel_rfl) ⟨hOp.c1, hOp.c2⟩ (fun hHeld => ?_)
              refine takeTo 0 (some 84) (ptr p) rfl rfl (by kernel_rfl) (by kernel_rfl) (by kernel_rfl) (fun _ _ _ h => h) (by rfl) (fun _ _ => rfl) hHeld ?_
              simp only [Act.put, List.setIfInBounds_toArray, List.set_cons_zero, List.set_cons_succ]
              refine takeTo 1 (some 85) (.slice (some ⟨x, o, none⟩) len scap) rfl rfl (by kernel_rfl) (by kernel_rfl) (by kernel_rfl) (fun _ _ _ h => h) (by rfl) (fun _ _ => rfl) hHeld ?_
              simp only [Act.put, List.setIfInBounds_toArray, List.set_cons_zero, List.set_cons_succ]
              refine takeTo 2 (some 86) (.int .i64 (k : Nat)) rfl rfl (by kernel_rfl) (by kernel_rfl) (by kernel_rfl) (fun _ _ _ h => h) (by rfl) (fun _ _ => rfl) hHeld ?_
              simp only [Act.put, List.setIfInBounds_toArray, List.set_cons_zero, List.set_cons_succ]
              refine takeTo 3 (some 87) (.pointer (some ⟨x, o + k * 4, none⟩)) rfl rfl (by kernel_rfl) (by kernel_rfl) (by kernel_rfl) (fun _ _ _ h => h) (by rfl) (fun wz _ => run_at_op _ _ rfl x o k len scap rfl rfl hkl wz) hHeld ?_
              simp only [Act.put, List.setIfInBounds_toArray, List.set_cons_zero, List.set_cons_succ]
              refine takeTo 4 (some 88) (.pointer (some ⟨x, o + k * 4 + 1, none⟩)) rfl rfl (by kernel_rfl) (by kernel_rfl) (by kernel_rfl) (fun _ _ _ h => h) (by rfl) (fun _ _ => rfl) hHeld ?_
              simp only [Act.put, List.setIfInBounds_toArray, List.set_cons_zero, List.set_cons_succ]
              refine takeTo 5 (some 89) (.int .i64 v.i) rfl rfl (by kernel_rfl) (by kernel_rfl) (by kernel_rfl) (fun _ _ _ h => h) (by rfl) (fun wz hz => run_load_i _ rfl _ rfl _ wz hz.1) hHeld ?_
              simp only [Act.put, List.setIfInBounds_toArray, List.set_cons_zero, List.set_cons_succ]
              refine takeTo 6 (some 90) (.slice (some ⟨x, o, none⟩) len scap) rfl rfl (by kernel_rfl) (by kernel_rfl) (by kernel_rfl) (fun _ _ _ h => h) (by rfl) (fun _ _ => rfl) hHeld ?_
              simp only [Act.put, List.setIfInBounds_toArray, List.set_cons_zero, List.set_cons_succ]
              refine takeTo 7 (some 91) (.int .i64 (k : Nat)) rfl rfl (by kernel_rfl) (by kernel_rfl) (by kernel_rfl) (fun _ _ _ h => h) (by rfl) (fun _ _ => rfl) hHeld ?_
              simp only [Act.put, List.setIfInBounds_toArray, List.set_cons_zero, List.set_cons_succ]
              refine takeTo 8 (some 92) (.pointer (some ⟨x, o + k * 4, none⟩)) rfl rfl (by kernel_rfl) (by kernel_rfl) (by kernel_rfl) (fun _ _ _ h => h) (by rfl) (fun wz _ => run_at_op _ _ rfl x o k len scap rfl rfl hkl wz) hHeld ?_
              simp only [Act.put, List.setIfInBounds_toArray, List.set_cons_zero, List.set_cons_succ]
              refine takeTo 9 (some 93) (.pointer (some ⟨x, o + k * 4 + 2, none⟩)) rfl rfl (by kernel_rfl) (by kernel_rfl) (by kernel_rfl) (fun _ _ _ h => h) (by rfl) (fun _ _ => rfl) hHeld ?_
              simp only [Act.put, List.setIfInBounds_toArray, List.set_cons_zero, List.set_cons_succ]
              refine takeTo 10 (some 94) (.slice v.a v.L v.C) rfl rfl (by kernel_rfl) (by kernel_rfl) (by kernel_rfl) (fun _ _ _ h => h) (by rfl) (fun wz hz => run_load_row1 _ rfl _ rfl _ wz hz.2) hHeld ?_
              simp only [Act.put, List.setIfInBounds_toArray, List.set_cons_zero, List.set_cons_succ]
              refine callTo 11 (some 95) 8 #[ptr p, .int .i64 v.i, .slice v.a v.L v.C] (by kernel_rfl) rfl rfl (by rfl) (by kernel_rfl) hwr' ?_
              rintro e5 w5 ⟨rfl, hO5, F5, hg5, hI5⟩
              have hOp5 := hop.below hx hI5.below (Nat.le_refl _)
              refine ⟨_, rfl, ⟨hOp5.c1, hOp5.c2⟩, ?_⟩
              simp only [Act.put, List.setIfInBounds_toArray, List.set_cons_zero, List.set_cons_succ]
              refine wpAnyH_done (by kernel_rfl) ?_ _
              go_wp2
              go_roundw
              case rel => exact ⟨k + 1, by omega, by omega, by go_num, (by rw [show k + 1 + 61 = k + 61 + 1 by omega]; exact GoingQ.wrote (Q := fun s => NoBad s ∧ SureAt s 3 (full b L)) (wr := wr) hI5 hn hdd hll hmm ⟨nobad_wr _ _ _ _ _ hQ, sure_wr _ 3 _ _ _ _ _ hQ2 (by rw [← HZ.out]; exact h2)⟩)⟩
              case measure => simp [intOf]; omega
          · by_cases hk6 : k < len
            · have i0 : (k : Int) < (len : Int) := by omega
              have i1 : ¬ (k : Int) < 60 := by omega
              have hcut := in_cut hD hIn ka kL kC kb (by omega) hk.max hk.le (hk.at_.below hIn.below (Nat.le_refl _))
              have E1 : rdErr (cutD s (keepOf kb kL)) 3 = 0 := rdErr_ok _ 3 hdd (by show 3 < s.n; omega) (hQ 3)
              have E2 : holds (cutD s (keepOf kb kL)) (3 : Int).toNat = full b L := sure_cut s 3 (full b L) _ hQ2
              obtain ⟨T, hT⟩ : ∃ T, T = cutD s (keepOf kb kL) := ⟨_, rfl⟩
              rw [← hT] at hcut E1 E2
              clear hT
              go_wp2_with (first
                | ((go_at_call 15)
                   (refine hcut.mono ?_)
                   (rintro e w4 ⟨hb4, hI4, p', c', F4, rfl, hJ4, _, _⟩)
                   (have hr1 := in_read hD hJ4 3 ⟨by decide, by decide⟩)
                   (rw [E1] at hr1)
                   (clear hcut))
                | ((go_at_call 12)
                   (refine hr1.mono ?_)
                   (rintro e w5 ⟨hb5, hJ5, v5, rfl, (⟨hv, _⟩ | ⟨_, hv5⟩)⟩)
                   (case inl => exact absurd rfl hv)
                   (obtain ⟨g5, o5, k5, rfl, hk5, hg5, hB5⟩ := hv5.bytes)
                   (rw [E2] at hB5)
                   (have hfu := full_any b L bC ba w5 (Nat.le_trans hLb hb.max) (by_less (hb.at_.below hJ5.below (Nat.le_refl _)) hLb))
                   (clear hr1 hv5))
                | ((go_at_call 18)
                   (refine hfu.mono ?_)
                   (rintro e w6 ⟨rfl, hH6, hb6⟩)
                   (have hJ6 := hJ5.next hD hb6)
                   (have hsm := same_true k5 64 (hB5.below hb6 (Nat.le_refl _)) hH6.bytes (full_lt b L hb.byt) (fun e => by cases e) (fun e => by cases e))
                   (clear hfu))
                | ((go_at_call 17)
                   (refine hsm.mono ?_)
                   (rintro e w7 ⟨rfl, hw7⟩)
                   (subst hw7)))
              all_goals exact bodyPost_ret (results_tmp rfl _ _ _) rfl ⟨rfl, hJ6.below⟩
            · have i0 : ¬ (k : Int) < (len : Int) := by omega
              have hcut := in_cut hD hIn ka kL kC kb (by omega) hk.max hk.le (hk.at_.below hIn.below (Nat.le_refl _))
              have E1 : rdErr (cutD s (keepOf kb kL)) 3 = 0 := rdErr_ok _ 3 hdd (by show 3 < s.n; omega) (hQ 3)
              have E2 : holds (cutD s (keepOf kb kL)) (3 : Int).toNat = full b L := sure_cut s 3 (full b L) _ hQ2
              obtain ⟨T, hT⟩ : ∃ T, T = cutD s (keepOf kb kL) := ⟨_, rfl⟩
              rw [← hT] at hcut E1 E2
              clear hT
              go_wp2_with (first
                | ((go_at_call 15)
                   (refine hcut.mono ?_)
                   (rintro e w4 ⟨hb4, hI4, p', c', F4, rfl, hJ4, _, _⟩)
                   (have hr1 := in_read hD hJ4 3 ⟨by decide, by decide⟩)
                   (rw [E1] at hr1)
                   (clear hcut))
                | ((go_at_call 12)
                   (refine hr1.mono ?_)
                   (rintro e w5 ⟨hb5, hJ5, v5, rfl, (⟨hv, _⟩ | ⟨_, hv5⟩)⟩)
                   (case inl => exact absurd rfl hv)
                   (obtain ⟨g5, o5, k5, rfl, hk5, hg5, hB5⟩ := hv5.bytes)
                   (rw [E2] at hB5)
                   (have hfu := full_any b L bC ba w5 (Nat.le_trans hLb hb.max) (by_less (hb.at_.below hJ5.below (Nat.le_refl _)) hLb))
                   (clear hr1 hv5))
                | ((go_at_call 18)
                   (refine hfu.mono ?_)
                   (rintro e w6 ⟨rfl, hH6, hb6⟩)
                   (have hJ6 := hJ5.next hD hb6)
                   (have hsm := same_true k5 64 (hB5.below hb6 (Nat.le_refl _)) hH6.bytes (full_lt b L hb.byt) (fun e => by cases e) (fun e => by cases e))
                   (clear hfu))
                | ((go_at_call 17)
                   (refine hsm.mono ?_)
                   (rintro e w7 ⟨rfl, hw7⟩)
                   (subst hw7)))
              all_goals exact bodyPost_ret (results_tmp rfl _ _ _) rfl ⟨rfl, hJ6.below⟩
end Go.Proofs.Ytalcalecmklcoab
