/- DeviceEnds, walked. -/
import Derived.Test.YtalcalecmklcoabDvMin
namespace Go.Proofs.Ytalcalecmklcoab
open Go.ChangeShapes Go.WideShapes Go.ChangeAt Go.RowKit
set_option linter.unusedVariables false

variable {D : DevRep}

set_option maxRecDepth 100000 in
set_option maxHeartbeats 3200000 in
theorem ends_any (hD : DevOk D) (w : World) (sa : Option Addr) (len scap : Nat) (O : Nat → OpV) (hS : Script w sa len O) (i : Int) (hi : i64ok i) (ba : Option Addr) (bL bC : Nat) (b : Nat → Nat) (hb : ByIn w ba bL bC b) :
    Calls Try.prog 3 #[.slice sa len scap, .int .i64 i, .slice ba bL bC] w fun e w' => e = .returned (.bool true) ∧ Below w.heap.size w w' := by
  have hnew := in_new (B := w.heap.size) (w0 := w) hD 6 (by decide) (by decide) (Below.refl _ w) (Nat.le_refl _)
  have hlen := hS.1
  unfold maxLen at hlen
  go_enter Try.func3, Try.ntmps3
  go_wp2_with (first
    | ((go_at_call 5)
       (refine hnew.mono ?_)
       (rintro e w1 ⟨p, c, F, rfl, hI, hb1, hF1, hc1⟩)
       (have hal := in_tells hD hI (dalive_any hD w1))
       (clear hnew hF1 hc1 hb1))
    | ((go_at_call 6)
       (refine hal.mono ?_)
       (rintro e w2 ⟨rfl, hb2, hI2⟩)
       (clear hal hI)))
  go_loopw [9] (fun i wr => ∃ k : Nat, k ≤ len ∧ k ≤ 60 ∧ i = .int .i64 (k : Nat) ∧ Going D 6 w wr p c k) (fun i _ => 60 - (intOf i).toNat)
  case atStart => exact ⟨0, Nat.zero_le _, Nat.zero_le _, rfl, _, _, _, hI2, rfl, rfl, Nat.le_refl _, Nat.le_refl _⟩
  case round =>
    obtain ⟨k, hkl0, hk60, rfl, hgo⟩ := hrel
    clear hI2
    obtain ⟨s, m, F', hIn, hn, hdd, hll, hmm⟩ := hgo
    by_cases hkk : k < len ∧ k < 60
    · obtain ⟨hkl, hk6⟩ := hkk
      obtain ⟨x, o, rfl, hx, hop⟩ := hS.2 k hkl
      obtain ⟨v, hv⟩ : ∃ v, v = O k := ⟨_, rfl⟩
      rw [← hv] at hop
      have hOp := hop.below hx hIn.below (Nat.le_refl _)
      have hby := hop.by_
      have c0 := hOp.c0
      have i0 : (k : Int) < (len : Int) := by omega
      have i1 : (0 : Int) ≤ (k : Int) := by omega
      have i2 : (k : Int) < 60 := by omega
      clear hv hS
      by_cases h2 : v.k = 2
      · rw [h2] at c0
        have hsy := in_sync hD hIn (by omega) (by omega)
        go_wp2_with (first
          | ((go_at_call 7)
             (refine hsy.mono ?_)
             (rintro e w5 ⟨rfl, hO5, F5, hg5, hI5⟩)
             (clear hsy)))
        go_roundw
        case rel => exact ⟨k + 1, by omega, by omega, by go_num, Going.synced (wr := wr) hI5 hn hdd hll hmm⟩
        case measure => simp [intOf]; omega
      · obtain ⟨z, hz⟩ : ∃ z, z = v.k := ⟨_, rfl⟩
        rw [← hz] at c0 h2
        clear hz
        go_wp2
        have hwr' := in_write hD (hIn.next hD (Below.refl _ wr).drew) v.i v.a v.L v.C v.b hop.oi (by omega) (by omega) hby.le hby.max hby.nil (hby.at_.below (hIn.below.trans ((Below.refl _ wr).drew.mono hIn.sz)) (Nat.le_refl _)) hby.byt (.inr (hIn.apart hby.lt))
        refine wp_region_held_drew (S := fun wz => wz.cell? ⟨x, o + k * 4 + 1, none⟩ = some (.int .i64 v.i) ∧ wz.cell? ⟨x, o + k * 4 + 2, none⟩ = some (.slice v.a v.L v.C)) (by kernel_rfl) ⟨hOp.c1, hOp.c2⟩ (fun hHeld => ?_)
        refine takeTo 0 (some 50) (ptr p) rfl rfl (by kernel_rfl) (by kernel_rfl) (by kernel_rfl) (fun _ _ _ h => h) (by rfl) (fun _ _ => rfl) hHeld ?_
        simp only [Act.put, List.setIfInBounds_toArray, List.set_cons_zero, List.set_cons_succ]
        refine takeTo 1 (some 51) (.slice (some ⟨x, o, none⟩) len scap) rfl rfl (by kernel_rfl) (by kernel_rfl) (by kernel_rfl) (fun _ _ _ h => h) (by rfl) (fun _ _ => rfl) hHeld ?_
        simp only [Act.put, List.setIfInBounds_toArray, List.set_cons_zero, List.set_cons_succ]
        refine takeTo 2 (some 52) (.int .i64 (k : Nat)) rfl rfl (by kernel_rfl) (by kernel_rfl) (by kernel_rfl) (fun _ _ _ h => h) (by rfl) (fun _ _ => rfl) hHeld ?_
        simp only [Act.put, List.setIfInBounds_toArray, List.set_cons_zero, List.set_cons_succ]
        refine takeTo 3 (some 53) (.pointer (some ⟨x, o + k * 4, none⟩)) rfl rfl (by kernel_rfl) (by kernel_rfl) (by kernel_rfl) (fun _ _ _ h => h) (by rfl) (fun wz _ => run_at_op _ _ rfl x o k len scap rfl rfl hkl wz) hHeld ?_
        simp only [Act.put, List.setIfInBounds_toArray, List.set_cons_zero, List.set_cons_succ]
        refine takeTo 4 (some 54) (.pointer (some ⟨x, o + k * 4 + 1, none⟩)) rfl rfl (by kernel_rfl) (by kernel_rfl) (by kernel_rfl) (fun _ _ _ h => h) (by rfl) (fun _ _ => rfl) hHeld ?_
        simp only [Act.put, List.setIfInBounds_toArray, List.set_cons_zero, List.set_cons_succ]
        refine takeTo 5 (some 55) (.int .i64 v.i) rfl rfl (by kernel_rfl) (by kernel_rfl) (by kernel_rfl) (fun _ _ _ h => h) (by rfl) (fun wz hz => run_load_i _ rfl _ rfl _ wz hz.1) hHeld ?_
        simp only [Act.put, List.setIfInBounds_toArray, List.set_cons_zero, List.set_cons_succ]
        refine takeTo 6 (some 56) (.slice (some ⟨x, o, none⟩) len scap) rfl rfl (by kernel_rfl) (by kernel_rfl) (by kernel_rfl) (fun _ _ _ h => h) (by rfl) (fun _ _ => rfl) hHeld ?_
        simp only [Act.put, List.setIfInBounds_toArray, List.set_cons_zero, List.set_cons_succ]
        refine takeTo 7 (some 57) (.int .i64 (k : Nat)) rfl rfl (by kernel_rfl) (by kernel_rfl) (by kernel_rfl) (fun _ _ _ h => h) (by rfl) (fun _ _ => rfl) hHeld ?_
        simp only [Act.put, List.setIfInBounds_toArray, List.set_cons_zero, List.set_cons_succ]
        refine takeTo 8 (some 58) (.pointer (some ⟨x, o + k * 4, none⟩)) rfl rfl (by kernel_rfl) (by kernel_rfl) (by kernel_rfl) (fun _ _ _ h => h) (by rfl) (fun wz _ => run_at_op _ _ rfl x o k len scap rfl rfl hkl wz) hHeld ?_
        simp only [Act.put, List.setIfInBounds_toArray, List.set_cons_zero, List.set_cons_succ]
        refine takeTo 9 (some 59) (.pointer (some ⟨x, o + k * 4 + 2, none⟩)) rfl rfl (by kernel_rfl) (by kernel_rfl) (by kernel_rfl) (fun _ _ _ h => h) (by rfl) (fun _ _ => rfl) hHeld ?_
        simp only [Act.put, List.setIfInBounds_toArray, List.set_cons_zero, List.set_cons_succ]
        refine takeTo 10 (some 60) (.slice v.a v.L v.C) rfl rfl (by kernel_rfl) (by kernel_rfl) (by kernel_rfl) (fun _ _ _ h => h) (by rfl) (fun wz hz => run_load_row1 _ rfl _ rfl _ wz hz.2) hHeld ?_
        simp only [Act.put, List.setIfInBounds_toArray, List.set_cons_zero, List.set_cons_succ]
        refine callTo 11 (some 61) 8 #[ptr p, .int .i64 v.i, .slice v.a v.L v.C] (by kernel_rfl) rfl rfl (by rfl) (by kernel_rfl) hwr' ?_
        rintro e5 w5 ⟨rfl, hO5, F5, hg5, hI5⟩
        have hOp5 := hop.below hx hI5.below (Nat.le_refl _)
        refine ⟨_, rfl, ⟨hOp5.c1, hOp5.c2⟩, ?_⟩
        simp only [Act.put, List.setIfInBounds_toArray, List.set_cons_zero, List.set_cons_succ]
        refine wpAnyH_done (by kernel_rfl) ?_ _
        go_wp2
        go_roundw
        case rel => exact ⟨k + 1, by omega, by omega, by go_num, Going.wrote (wr := wr) hI5 hn hdd hll hmm⟩
        case measure => simp [intOf]; omega
    · have hwn := in_tells hD hIn (hD.writes wr p s c m F' hIn.dev (by omega))
      have hki : (killD s).dead = true := rfl
      have E1 := rdErr_dead (killD s) i hki
      have E2 := wrErr_dead (killD s) i bL hki
      obtain ⟨A, hA⟩ : ∃ A, A = wrs s.log := ⟨_, rfl⟩
      obtain ⟨P, hP⟩ : ∃ P, P = pend s.log := ⟨_, rfl⟩
      have HW : Hid (A = wrs s.log ∧ P = pend s.log) := ⟨hA, hP⟩
      rw [← hA] at hwn
      clear hA hP
      by_cases hk6 : k < len
      · have i0 : (k : Int) < (len : Int) := by omega
        have i1 : ¬ (k : Int) < 60 := by omega
        go_wp2_with (first
          | ((go_at_call 9)
             (have _t := hwn)
             (refine hwn.mono ?_)
             (rintro e w3 ⟨rfl, hb3, hI3⟩)
             (have hpn := in_tells hD hI3 (hD.pending w3 p s c m F' hI3.dev (by omega)))
             (rw [← HW.out.2] at hpn)
             (clear hwn _t))
          | ((go_at_call 10)
             (have _t := hpn)
             (refine hpn.mono ?_)
             (rintro e w4 ⟨rfl, hb4, hI4⟩)
             (have hkl := in_kill hD hI4)
             (clear hpn _t))
          | ((go_at_call 11)
             (refine hkl.mono ?_)
             (rintro e w5 ⟨rfl, _, F5, _, hI5⟩)
             (have hr1 := in_read hD hI5 i hi)
             (rw [E1] at hr1)
             (clear hkl))
          | ((go_at_call 12)
             (have _t := hr1)
             (refine hr1.mono ?_)
             (rintro e w6 ⟨hb6, hI6, v6, rfl, (⟨_, a6, c6, rfl⟩ | ⟨hv, _⟩)⟩)
             (case inr => exact absurd hv (by decide))
             (have hwr := in_write hD hI6 i ba bL bC b hi (by omega) (by show s.log.length ≤ _; omega) hb.le hb.max hb.nil (hb.at_.below hI6.below (Nat.le_refl _)) hb.byt (.inr (hI6.apart hb.lt)))
             (rw [E2, dead_wrS _ _ _ _ _ hki, dead_wrM _ _ _ _ hki] at hwr)
             (clear hr1 _t))
          | ((go_at_call 8)
             (refine hwr.mono ?_)
             (rintro e w7 ⟨rfl, _, F7, _, hI7⟩)
             (have hsp := in_spoil hD hI7 i hi)
             (rw [dead_spS _ _ hki] at hsp)
             (clear hwr))
          | ((go_at_call 13)
             (refine hsp.mono ?_)
             (rintro e w8 ⟨rfl, _, F8, _, hI8⟩)
             (have htp := in_tamper hD hI8 i ba bL bC b hi (by omega) (by show s.log.length ≤ _; omega) hb.le hb.max hb.nil (hb.at_.below hI8.below (Nat.le_refl _)) hb.byt (.inr (hI8.apart hb.lt)))
             (rw [dead_tpS _ _ _ _ _ hki, dead_wrM _ _ _ _ hki] at htp)
             (clear hsp))
          | ((go_at_call 14)
             (refine htp.mono ?_)
             (rintro e w9 ⟨rfl, _, F9, _, hI9⟩)
             (have hcut := in_cut hD hI9 none 0 0 (fun _ => false) (by show s.log.length ≤ _; omega) (by decide) (Nat.le_refl _) (.inl rfl))
             (clear htp))
          | ((go_at_call 15)
             (refine hcut.mono ?_)
             (rintro e w10 ⟨hb10, hI10, p', c', F', rfl, hJ10, _, _⟩)
             (have hr3 := in_read hD hJ10 i hi)
             (rw [rdErr_dead (cutD (killD s) (keepOf (fun _ => false) 0)) i hki] at hr3)
             (clear hcut))
          | ((go_at_call 12)
             (have _t := hr3)
             (refine hr3.mono ?_)
             (rintro e w11 ⟨hb11, hJ11, v11, rfl, (⟨_, a11, c11, rfl⟩ | ⟨hv, _⟩)⟩)
             (case inr => exact absurd hv (by decide))
             (have hI11 := hI10.next hD hb11)
             (have hsy := in_sync_dead hD hI11 (by omega) (by show s.log.length ≤ _; omega) hki)
             (clear hr3 _t))
          | ((go_at_call 7)
             (refine hsy.mono ?_)
             (rintro e w12 ⟨rfl, hb12⟩)
             (have hI12 := hI11.next hD hb12)
             (have hJ12 := hJ11.next hD hb12)
             (have hde := in_tells hD hI12 (hD.isDead w12 p' (cutD (killD s) (keepOf (fun _ => false) 0)) c' 0 F' hJ12.dev))
             (clear hsy))
          | ((go_at_call 16)
             (refine hde.mono ?_)
             (rintro e w13 ⟨rfl, hb13, hI13⟩)
             (have hw2 := in_tells hD hI13 (hD.writes w13 p (killD s) c m F9 hI13.dev (by show s.log.length ≤ _; omega)))
             (rw [show wrs (killD s).log = A from HW.out.1.symm] at hw2)
             (clear hde))
          | ((go_at_call 9)
             (refine hw2.mono ?_)
             (rintro e w14 ⟨rfl, hb14, hI14⟩)
             (have hp2 := in_tells hD hI14 (hD.pending w14 p (killD s) c m F9 hI14.dev (by show s.log.length ≤ _; omega)))
             (rw [show pend (killD s).log = P from HW.out.2.symm] at hp2)
             (clear hw2))
          | ((go_at_call 10)
             (refine hp2.mono ?_)
             (rintro e w15 ⟨rfl, hb15, hI15⟩)))
        all_goals exact bodyPost_ret (results_tmp rfl _ _ _) rfl ⟨rfl, hI15.below⟩
      · have i0 : ¬ (k : Int) < (len : Int) := by omega
        go_wp2_with (first
          | ((go_at_call 9)
             (have _t := hwn)
             (refine hwn.mono ?_)
             (rintro e w3 ⟨rfl, hb3, hI3⟩)
             (have hpn := in_tells hD hI3 (hD.pending w3 p s c m F' hI3.dev (by omega)))
             (rw [← HW.out.2] at hpn)
             (clear hwn _t))
          | ((go_at_call 10)
             (have _t := hpn)
             (refine hpn.mono ?_)
             (rintro e w4 ⟨rfl, hb4, hI4⟩)
             (have hkl := in_kill hD hI4)
             (clear hpn _t))
          | ((go_at_call 11)
             (refine hkl.mono ?_)
             (rintro e w5 ⟨rfl, _, F5, _, hI5⟩)
             (have hr1 := in_read hD hI5 i hi)
             (rw [E1] at hr1)
             (clear hkl))
          | ((go_at_call 12)
             (have _t := hr1)
             (refine hr1.mono ?_)
             (rintro e w6 ⟨hb6, hI6, v6, rfl, (⟨_, a6, c6, rfl⟩ | ⟨hv, _⟩)⟩)
             (case inr => exact absurd hv (by decide))
             (have hwr := in_write hD hI6 i ba bL bC b hi (by omega) (by show s.log.length ≤ _; omega) hb.le hb.max hb.nil (hb.at_.below hI6.below (Nat.le_refl _)) hb.byt (.inr (hI6.apart hb.lt)))
             (rw [E2, dead_wrS _ _ _ _ _ hki, dead_wrM _ _ _ _ hki] at hwr)
             (clear hr1 _t))
          | ((go_at_call 8)
             (refine hwr.mono ?_)
             (rintro e w7 ⟨rfl, _, F7, _, hI7⟩)
             (have hsp := in_spoil hD hI7 i hi)
             (rw [dead_spS _ _ hki] at hsp)
             (clear hwr))
          | ((go_at_call 13)
             (refine hsp.mono ?_)
             (rintro e w8 ⟨rfl, _, F8, _, hI8⟩)
             (have htp := in_tamper hD hI8 i ba bL bC b hi (by omega) (by show s.log.length ≤ _; omega) hb.le hb.max hb.nil (hb.at_.below hI8.below (Nat.le_refl _)) hb.byt (.inr (hI8.apart hb.lt)))
             (rw [dead_tpS _ _ _ _ _ hki, dead_wrM _ _ _ _ hki] at htp)
             (clear hsp))
          | ((go_at_call 14)
             (refine htp.mono ?_)
             (rintro e w9 ⟨rfl, _, F9, _, hI9⟩)
             (have hcut := in_cut hD hI9 none 0 0 (fun _ => false) (by show s.log.length ≤ _; omega) (by decide) (Nat.le_refl _) (.inl rfl))
             (clear htp))
          | ((go_at_call 15)
             (refine hcut.mono ?_)
             (rintro e w10 ⟨hb10, hI10, p', c', F', rfl, hJ10, _, _⟩)
             (have hr3 := in_read hD hJ10 i hi)
             (rw [rdErr_dead (cutD (killD s) (keepOf (fun _ => false) 0)) i hki] at hr3)
             (clear hcut))
          | ((go_at_call 12)
             (have _t := hr3)
             (refine hr3.mono ?_)
             (rintro e w11 ⟨hb11, hJ11, v11, rfl, (⟨_, a11, c11, rfl⟩ | ⟨hv, _⟩)⟩)
             (case inr => exact absurd hv (by decide))
             (have hI11 := hI10.next hD hb11)
             (have hsy := in_sync_dead hD hI11 (by omega) (by show s.log.length ≤ _; omega) hki)
             (clear hr3 _t))
          | ((go_at_call 7)
             (refine hsy.mono ?_)
             (rintro e w12 ⟨rfl, hb12⟩)
             (have hI12 := hI11.next hD hb12)
             (have hJ12 := hJ11.next hD hb12)
             (have hde := in_tells hD hI12 (hD.isDead w12 p' (cutD (killD s) (keepOf (fun _ => false) 0)) c' 0 F' hJ12.dev))
             (clear hsy))
          | ((go_at_call 16)
             (refine hde.mono ?_)
             (rintro e w13 ⟨rfl, hb13, hI13⟩)
             (have hw2 := in_tells hD hI13 (hD.writes w13 p (killD s) c m F9 hI13.dev (by show s.log.length ≤ _; omega)))
             (rw [show wrs (killD s).log = A from HW.out.1.symm] at hw2)
             (clear hde))
          | ((go_at_call 9)
             (refine hw2.mono ?_)
             (rintro e w14 ⟨rfl, hb14, hI14⟩)
             (have hp2 := in_tells hD hI14 (hD.pending w14 p (killD s) c m F9 hI14.dev (by show s.log.length ≤ _; omega)))
             (rw [show pend (killD s).log = P from HW.out.2.symm] at hp2)
             (clear hw2))
          | ((go_at_call 10)
             (refine hp2.mono ?_)
             (rintro e w15 ⟨rfl, hb15, hI15⟩)))
        all_goals exact bodyPost_ret (results_tmp rfl _ _ _) rfl ⟨rfl, hI15.below⟩
end Go.Proofs.Ytalcalecmklcoab
