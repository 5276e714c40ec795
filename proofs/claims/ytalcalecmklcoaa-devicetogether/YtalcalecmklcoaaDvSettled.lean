/- DeviceSettled, walked. -/
import Derived.Test.YtalcalecmklcoaaDvBool
namespace Go.Proofs.Ytalcalecmklcoaa
open Go.ChangeShapes Go.WideShapes Go.ChangeAt Go.RowKit
set_option linter.unusedVariables false

variable {D : DevRep}

/-- Five devices side by side. -/
def Five (D : DevRep) (w : World) (S1 S2 S3 S4 S5 : DS) (p1 p2 p3 p4 p5 : Nat) (wr : World) : Prop :=
  (∃ c m F, In D w.heap.size w wr p1 S1 c m F) ∧ (∃ c m F, In D w.heap.size w wr p2 S2 c m F) ∧ (∃ c m F, In D w.heap.size w wr p3 S3 c m F) ∧ (∃ c m F, In D w.heap.size w wr p4 S4 c m F) ∧ (∃ c m F, In D w.heap.size w wr p5 S5 c m F)

theorem Five.next {w : World} {S1 S2 S3 S4 S5 : DS} {p1 p2 p3 p4 p5 : Nat} {wr wr' : World} (h : Five D w S1 S2 S3 S4 S5 p1 p2 p3 p4 p5 wr) (hD : DevOk D) (hb : Below wr.heap.size wr wr') : Five D w S1 S2 S3 S4 S5 p1 p2 p3 p4 p5 wr' := by
  obtain ⟨⟨a, b, c, h1⟩, ⟨d, e, f, h2⟩, ⟨g, h, i, h3⟩, ⟨j, k, l, h4⟩, ⟨m, n, o, h5⟩⟩ := h
  exact ⟨⟨a, b, c, h1.next hD hb⟩, ⟨d, e, f, h2.next hD hb⟩, ⟨_, _, _, h3.next hD hb⟩, ⟨j, k, l, h4.next hD hb⟩, ⟨m, n, o, h5.next hD hb⟩⟩

set_option maxRecDepth 100000 in
set_option maxHeartbeats 3200000 in
theorem settled_any (hD : DevOk D) (hM : DevMore D) (w : World) (sa : Option Addr) (len scap : Nat) (O : Nat → OpV) (hS : Script w sa len O) (ka : Option Addr) (kL kC : Nat) (kb : Nat → Bool) (hk : BoIn w ka kL kC kb) (ga : Option Addr) (gL gC : Nat) (gb : Nat → Bool) (hg : BoIn w ga gL gC gb) :
    Calls Try.prog 5 #[.slice sa len scap, .slice ka kL kC, .slice ga gL gC] w fun e w' => e = .returned (.bool true) ∧ Below w.heap.size w w' := by
  have hnew := in_new (B := w.heap.size) (w0 := w) hD 8 (by decide) (by decide) (Below.refl _ w) (Nat.le_refl _)
  have hlen := hS.1
  unfold maxLen at hlen
  go_enter Try.func5, Try.ntmps5
  go_wp2_with (first
    | ((go_at_call 9)
       (refine hnew.mono ?_)
       (rintro e w1 ⟨p, c, F, rfl, hI, hb1, hF1, hc1⟩)
       (have hal := in_tells hD hI (dalive_any hD w1))
       (clear hnew hF1 hc1 hb1))
    | ((go_at_call 10)
       (refine hal.mono ?_)
       (rintro e w2 ⟨rfl, hb2, hI2⟩)
       (clear hal hI)))
  go_loopw [9] (fun i wr => ∃ k : Nat, k ≤ len ∧ k ≤ 100 ∧ i = .int .i64 (k : Nat) ∧ GoingQ D 8 (fun s => NoBad s ∧ BytS s) w wr p c k) (fun i _ => 100 - (intOf i).toNat)
  case atStart => exact ⟨0, Nat.zero_le _, Nat.zero_le _, rfl, _, _, _, hI2, rfl, rfl, Nat.le_refl _, Nat.le_refl _, fun _ => rfl, byt_fresh 8⟩
  case round =>
    obtain ⟨k, hkl0, hk60, rfl, hgo⟩ := hrel
    clear hI2
    obtain ⟨s, m, F', hIn, hn, hdd, hll, hmm, hQ, hBy⟩ := hgo
    by_cases hkk : k < len ∧ k < 100
    · obtain ⟨hkl, hk6⟩ := hkk
      obtain ⟨x, o, rfl, hx, hop⟩ := hS.2 k hkl
      obtain ⟨v, hv⟩ : ∃ v, v = O k := ⟨_, rfl⟩
      rw [← hv] at hop
      have hOp := hop.below hx hIn.below (Nat.le_refl _)
      have hby := hop.by_
      have c0 := hOp.c0
      have i0 : (k : Int) < (len : Int) := by omega
      have i1 : (0 : Int) ≤ (k : Int) := by omega
      have i2 : (k : Int) < 100 := by omega
      clear hv hS
      by_cases h2 : v.k = 2
      · rw [h2] at c0
        have hsy := in_sync hD hIn (by omega) (by omega)
        go_wp2_with (first
          | ((go_at_call 13)
             (refine hsy.mono ?_)
             (rintro e w5 ⟨rfl, hO5, F5, hg5, hI5⟩)
             (clear hsy)))
        go_roundw
        case rel => exact ⟨k + 1, by omega, by omega, by go_num, GoingQ.synced (Q := fun s => NoBad s ∧ BytS s) (wr := wr) hI5 hn hdd hll hmm ⟨nobad_sy _ _ hQ, byt_sy _ _ hBy⟩⟩
        case measure => simp [intOf]; omega
      · obtain ⟨z, hz⟩ : ∃ z, z = v.k := ⟨_, rfl⟩
        rw [← hz] at c0 h2
        clear hz
        go_wp2
        have hwr' := in_write hD (hIn.next hD (Below.refl _ wr).drew) v.i v.a v.L v.C v.b hop.oi (by omega) (by omega) hby.le hby.max hby.nil (hby.at_.below (hIn.below.trans ((Below.refl _ wr).drew.mono hIn.sz)) (Nat.le_refl _)) hby.byt (.inr (hIn.apart hby.lt))
        refine wp_region_held_drew (S := fun wz => wz.cell? ⟨x, o + k * 4 + 1, none⟩ = some (.int .i64 v.i) ∧ wz.cell? ⟨x, o + k * 4 + 2, none⟩ = some (.slice v.a v.L v.C)) (by kernel_rfl) ⟨hOp.c1, hOp.c2⟩ (fun hHeld => ?_)
        refine takeTo 0 (some 62) (ptr p) rfl rfl (by kernel_rfl) (by kernel_rfl) (by kernel_rfl) (fun _ _ _ h => h) (by rfl) (fun _ _ => rfl) hHeld ?_
        simp only [Act.put, List.setIfInBounds_toArray, List.set_cons_zero, List.set_cons_succ]
        refine takeTo 1 (some 63) (.slice (some ⟨x, o, none⟩) len scap) rfl rfl (by kernel_rfl) (by kernel_rfl) (by kernel_rfl) (fun _ _ _ h => h) (by rfl) (fun _ _ => rfl) hHeld ?_
        simp only [Act.put, List.setIfInBounds_toArray, List.set_cons_zero, List.set_cons_succ]
        refine takeTo 2 (some 64) (.int .i64 (k : Nat)) rfl rfl (by kernel_rfl) (by kernel_rfl) (by kernel_rfl) (fun _ _ _ h => h) (by rfl) (fun _ _ => rfl) hHeld ?_
        simp only [Act.put, List.setIfInBounds_toArray, List.set_cons_zero, List.set_cons_succ]
        refine takeTo 3 (some 65) (.pointer (some ⟨x, o + k * 4, none⟩)) rfl rfl (by kernel_rfl) (by kernel_rfl) (by kernel_rfl) (fun _ _ _ h => h) (by rfl) (fun wz _ => run_at_op _ _ rfl x o k len scap rfl rfl hkl wz) hHeld ?_
        simp only [Act.put, List.setIfInBounds_toArray, List.set_cons_zero, List.set_cons_succ]
        refine takeTo 4 (some 66) (.pointer (some ⟨x, o + k * 4 + 1, none⟩)) rfl rfl (by kernel_rfl) (by kernel_rfl) (by kernel_rfl) (fun _ _ _ h => h) (by rfl) (fun _ _ => rfl) hHeld ?_
        simp only [Act.put, List.setIfInBounds_toArray, List.set_cons_zero, List.set_cons_succ]
        refine takeTo 5 (some 67) (.int .i64 v.i) rfl rfl (by kernel_rfl) (by kernel_rfl) (by kernel_rfl) (fun _ _ _ h => h) (by rfl) (fun wz hz => run_load_i _ rfl _ rfl _ wz hz.1) hHeld ?_
        simp only [Act.put, List.setIfInBounds_toArray, List.set_cons_zero, List.set_cons_succ]
        refine takeTo 6 (some 68) (.slice (some ⟨x, o, none⟩) len scap) rfl rfl (by kernel_rfl) (by kernel_rfl) (by kernel_rfl) (fun _ _ _ h => h) (by rfl) (fun _ _ => rfl) hHeld ?_
        simp only [Act.put, List.setIfInBounds_toArray, List.set_cons_zero, List.set_cons_succ]
        refine takeTo 7 (some 69) (.int .i64 (k : Nat)) rfl rfl (by kernel_rfl) (by kernel_rfl) (by kernel_rfl) (fun _ _ _ h => h) (by rfl) (fun _ _ => rfl) hHeld ?_
        simp only [Act.put, List.setIfInBounds_toArray, List.set_cons_zero, List.set_cons_succ]
        refine takeTo 8 (some 70) (.pointer (some ⟨x, o + k * 4, none⟩)) rfl rfl (by kernel_rfl) (by kernel_rfl) (by kernel_rfl) (fun _ _ _ h => h) (by rfl) (fun wz _ => run_at_op _ _ rfl x o k len scap rfl rfl hkl wz) hHeld ?_
        simp only [Act.put, List.setIfInBounds_toArray, List.set_cons_zero, List.set_cons_succ]
        refine takeTo 9 (some 71) (.pointer (some ⟨x, o + k * 4 + 2, none⟩)) rfl rfl (by kernel_rfl) (by kernel_rfl) (by kernel_rfl) (fun _ _ _ h => h) (by rfl) (fun _ _ => rfl) hHeld ?_
        simp only [Act.put, List.setIfInBounds_toArray, List.set_cons_zero, List.set_cons_succ]
        refine takeTo 10 (some 72) (.slice v.a v.L v.C) rfl rfl (by kernel_rfl) (by kernel_rfl) (by kernel_rfl) (fun _ _ _ h => h) (by rfl) (fun wz hz => run_load_row1 _ rfl _ rfl _ wz hz.2) hHeld ?_
        simp only [Act.put, List.setIfInBounds_toArray, List.set_cons_zero, List.set_cons_succ]
        refine callTo 11 (some 73) 11 #[ptr p, .int .i64 v.i, .slice v.a v.L v.C] (by kernel_rfl) rfl rfl (by rfl) (by kernel_rfl) hwr' ?_
        rintro e5 w5 ⟨rfl, hO5, F5, hg5, hI5⟩
        have hOp5 := hop.below hx hI5.below (Nat.le_refl _)
        refine ⟨_, rfl, ⟨hOp5.c1, hOp5.c2⟩, ?_⟩
        simp only [Act.put, List.setIfInBounds_toArray, List.set_cons_zero, List.set_cons_succ]
        refine wpAnyH_done (by kernel_rfl) ?_ _
        go_wp2
        go_roundw
        case rel => exact ⟨k + 1, by omega, by omega, by go_num, GoingQ.wrote (Q := fun s => NoBad s ∧ BytS s) (wr := wr) hI5 hn hdd hll hmm ⟨nobad_wr _ _ _ _ _ hQ, byt_wr _ _ _ _ _ hBy hby.byt⟩⟩
        case measure => simp [intOf]; omega
    · have hwn : wrs s.log ≤ 100 := Nat.le_trans (List.length_filter_le _ _) (by omega)
      have HF : Hid (∀ i, i < 8 → _) := fun i hi => settled_facts s (keepOf kb kL) (keepOf gb gL) i hn hdd hQ hi
      obtain ⟨A, hA⟩ : ∃ A, A = wrs s.log := ⟨_, rfl⟩
      have HA : Hid (A = wrs s.log) := hA
      rw [← hA] at hwn
      have hA64 : i64ok (A : Int) := ⟨by omega, by omega⟩
      clear hA
      by_cases hk6 : k < len
      · have i0 : (k : Int) < (len : Int) := by omega
        have i1 : ¬ (k : Int) < 100 := by omega
        go_wp2
        clear i0
        go_loopw [10, 11] (fun v i wz => ∃ q : Nat, q ≤ A ∧ i = .int .i64 (q : Nat) ∧ wz.ownsRow wr.heap.size 4 1 v q (tl q) ∧ In D w.heap.size w wz p s c m F' ∧ wr.heap.size ≤ wz.heap.size) (fun _ i _ => A - (intOf i).toNat)
        case atStart => exact ⟨0, Nat.zero_le _, rfl, World.ownsRow_nil _ _ _ _, hIn, Nat.le_refl _⟩
        case round =>
          rename World => wo
          obtain ⟨q, hq, rfl, hown, hI3, hzz⟩ := hrel
          have hwc := hD.writes wo p s c m F' hI3.dev (by omega)
          rw [← HA.out] at hwc
          by_cases hqA : q < A
          · have j0 : (q : Int) < (A : Int) := by omega
            go_wp2_with (first
              | ((go_at_call 34)
                 (refine hwc.mono ?_)
                 (rintro e w4 ⟨rfl, hb4⟩)
                 (have hI4 := hI3.next hD hb4)
                 (have hown4 := ownB_below hown hb4 (fun g hg => (hown.lt g hg).2))
                 (clear hwc))
              | ((refine wpList_append_true rfl _ _ rfl wr.heap.size _ q rfl hown4 rfl (by omega) (Nat.le_trans hzz hb4.size) ?_)
                 (intro g5 cap5 w5 hown5 hgr5)
                 (have hI5 := (hI4.alloc hD (.cells #[.bool true] 4)).grown hD hgr5 (Z := wr.heap.size) (fun r e => (hown4.lt r e).1) (fun k hk => hIn.lt hD k hk) (hIn.clt hD) hIn.sz)))
            go_roundw
            case rel => exact ⟨q + 1, hqA, by go_num, hown5, hI5, Nat.le_trans hzz (Nat.le_trans hb4.size (Nat.le_trans (by simp) hgr5.size))⟩
            case measure => simp [intOf]; omega
          · obtain rfl : q = A := by omega
            have j0 : ¬ (q : Int) < (q : Int) := by omega
            obtain ⟨fa, fc, rfl, hfc, hfb⟩ := own_trues hown
            go_wp2_with (first
              | ((go_at_call 34)
                 (have _t := hwc)
                 (refine hwc.mono ?_)
                 (rintro e w4 ⟨rfl, hb4⟩)
                 (have hI4 := hI3.next hD hb4)
                 (have hf4 := hfb.below hb4 (Nat.le_refl _))
                 (have hc1 := in_cut hD hI4 ka kL kC kb (by omega) hk.max hk.le (hk.at_.below hI4.below (Nat.le_refl _)))
                 (clear hwc _t))
              | ((go_at_call 25)
                 (have _t := hc1)
                 (refine hc1.mono ?_)
                 (rintro e w5 ⟨hb5, hI5, p1, c1, F1, rfl, hJ1, _, _⟩)
                 (have hf5 := hf4.below hb5 (Nat.le_refl _))
                 (have hc2 := in_cut hD hJ1 ga gL gC gb (Nat.zero_le _) hg.max hg.le (hg.at_.below hJ1.below (Nat.le_refl _)))
                 (clear hc1 _t hf4))
              | ((go_at_call 25)
                 (have _t := hc2)
                 (refine hc2.mono ?_)
                 (rintro e w6 ⟨hb6, hK1, p2, c2, F2, rfl, hJ2, _, _⟩)
                 (have hf6 := hf5.below hb6 (Nat.le_refl _))
                 (have hI6 := hI5.next hD hb6)
                 (have hc3 := in_cut hD hI6 fa q fc (fun _ => true) (by omega) (by unfold maxLen; omega) hfc hf6)
                 (clear hc2 _t hf5))
              | ((go_at_call 25)
                 (have _t := hc3)
                 (refine hc3.mono ?_)
                 (rintro e w7 ⟨hb7, hI7, p3, c3, F3, rfl, hJ3, _, _⟩)
                 (have hf7 := hf6.below hb7 (Nat.le_refl _))
                 (have hK7 := hK1.next hD hb7)
                 (have hL7 := hJ2.next hD hb7)
                 (have hw7 := hD.writes w7 p s c m F' hI7.dev (by omega))
                 (rw [← HA.out] at hw7)
                 (clear hc3 _t hf6))
              | ((go_at_call 34)
                 (have _t := hw7)
                 (refine hw7.mono ?_)
                 (rintro e w8 ⟨rfl, hb8⟩)
                 (have hI8 := hI7.next hD hb8)
                 (have hK8 := hK7.next hD hb8)
                 (have hL8 := hL7.next hD hb8)
                 (have hM8 := hJ3.next hD hb8)
                 (have hc4 := in_cutAt hD hM hI8 (q : Int) fa q fc (fun _ => true) hA64 (by omega) (by unfold maxLen; omega) hfc (hf7.below hb8 (Nat.le_refl _)))
                 (clear hw7 _t))
              | ((go_at_call 27)
                 (refine hc4.mono ?_)
                 (rintro e w9 ⟨hb9, hI9, p4, c4, F4, rfl, hJ4, _, _⟩)
                 (have h5 : Five D w s (cutD s (keepOf kb kL)) (cutD (cutD s (keepOf kb kL)) (keepOf gb gL)) (cutD s (keepOf (fun _ => true) q)) (cutAtD s (q : Int) (keepOf (fun _ => true) q)) p p1 p2 p3 p4 w9 := ⟨⟨_, _, _, hI9⟩, ⟨_, _, _, hK8.next hD hb9⟩, ⟨_, _, _, hL8.next hD hb9⟩, ⟨_, _, _, hM8.next hD hb9⟩, ⟨_, _, _, hJ4⟩⟩)
                 (have hw9 := hD.writes w9 p1 (cutD s (keepOf kb kL)) c1 0 F1 (hK8.next hD hb9).dev (Nat.zero_le _))
                 (rw [show wrs (cutD s (keepOf kb kL)).log = 0 from rfl] at hw9)
                 (clear hc4 hI3 hI4 hI5 hI6 hI7 hI8 hI9 hJ1 hK1 hJ2 hJ3 hJ4 hK7 hK8 hL7 hL8 hM8 hIn))
              | ((go_at_call 34)
                 (refine hw9.mono ?_)
                 (rintro e w10 ⟨rfl, hb10⟩)
                 (have h510 := h5.next hD hb10)
                 (clear hw9 h5)))
            go_loopw [16] (fun i wz => ∃ t : Nat, t ≤ 8 ∧ i = .int .i64 (t : Nat) ∧ Five D w s (cutD s (keepOf kb kL)) (cutD (cutD s (keepOf kb kL)) (keepOf gb gL)) (cutD s (keepOf (fun _ => true) q)) (cutAtD s (q : Int) (keepOf (fun _ => true) q)) p p1 p2 p3 p4 wz) (fun i _ => 8 - (intOf i).toNat)
            case atStart => exact ⟨0, Nat.zero_le _, rfl, h510⟩
            case round =>
              clear h510
              obtain ⟨t, ht, rfl, h5⟩ := hrel
              by_cases ht8 : t < 8
              · have j1 : (t : Int) < 8 := by omega
                have ht64 : i64ok (t : Int) := ⟨by omega, by omega⟩
                obtain ⟨E1, E2, E3, E4, E5, E6, E7, E8⟩ := HF.out t ht8
                rw [← HA.out] at E4 E5 E7 E8
                obtain ⟨S1, hS1⟩ : ∃ S1, S1 = cutD s (keepOf kb kL) := ⟨_, rfl⟩
                obtain ⟨S2, hS2⟩ : ∃ S2, S2 = cutD (cutD s (keepOf kb kL)) (keepOf gb gL) := ⟨_, rfl⟩
                obtain ⟨S3, hS3⟩ : ∃ S3, S3 = cutD s (keepOf (fun _ => true) q) := ⟨_, rfl⟩
                obtain ⟨S4, hS4⟩ : ∃ S4, S4 = cutAtD s (q : Int) (keepOf (fun _ => true) q) := ⟨_, rfl⟩
                have HSS : Hid (S1 = cutD s (keepOf kb kL) ∧ S2 = cutD (cutD s (keepOf kb kL)) (keepOf gb gL) ∧ S3 = cutD s (keepOf (fun _ => true) q) ∧ S4 = cutAtD s (q : Int) (keepOf (fun _ => true) q)) := ⟨hS1, hS2, hS3, hS4⟩
                rw [← hS2, ← hS1] at E6
                rw [← hS3] at E7 E4
                rw [← hS4] at E8 E5
                rw [← hS1] at E2
                rw [← hS2] at E3
                rw [← hS2, ← hS1, ← hS3, ← hS4] at h5
                obtain ⟨f1, hf1⟩ : ∃ f1, f1 = holds S1 t := ⟨_, rfl⟩
                obtain ⟨f0, hf0⟩ : ∃ f0, f0 = holds s t := ⟨_, rfl⟩
                have hl1 : ∀ j, f1 j < 256 := by rw [hf1, HSS.out.1]; exact holds_lt _ (byt_cut _ _ hBy) t
                have hl0 : ∀ j, f0 j < 256 := by rw [hf0]; exact holds_lt _ hBy t
                obtain ⟨⟨a1, b1, g1, k1⟩, ⟨a2, b2, g2, k2⟩, ⟨a3, b3, g3, k3⟩, ⟨a4, b4, g4, k4⟩, ⟨a5, b5, g5, k5⟩⟩ := h5
                have r1 := in_read hD k2 (t : Int) ht64
                rw [E2, Int.toNat_natCast, ← hf1] at r1
                have HE : Hid (holds S2 t = f1 ∧ holds S3 t = f0 ∧ holds S4 t = f0 ∧ holds s t = f0) := ⟨by rw [E6, hf1], by rw [E7, hf0], by rw [E8, hf0], hf0.symm⟩
                clear hS1 hS2 hS3 hS4 hf1 hf0 E2 E6 E7 E8
                go_wp2_with (first
                  | ((go_at_call 20)
                     (have _t := r1)
                     (refine r1.mono ?_)
                     (rintro e x1 ⟨y1, _, v1, rfl, (⟨hv, _⟩ | ⟨_, hv1⟩)⟩)
                     (case inl => exact absurd rfl hv)
                     (obtain ⟨n1, o1, q1, rfl, _, _, B1⟩ := hv1.bytes)
                     (have r2 := in_read hD (k3.next hD y1) (t : Int) ht64)
                     (rw [E3, Int.toNat_natCast, HE.out.1] at r2)
                     (have k1' := k1.next hD y1)
                     (have k4' := k4.next hD y1)
                     (have k5' := k5.next hD y1)
                     (have k2' := k2.next hD y1)
                     (have k3' := k3.next hD y1)
                     (clear r1 _t hv1 k1 k2 k3 k4 k5))
                  | ((go_at_call 20)
                     (have _t := r2)
                     (refine r2.mono ?_)
                     (rintro e x2 ⟨y2, _, v2, rfl, (⟨hv, _⟩ | ⟨_, hv2⟩)⟩)
                     (case inl => exact absurd rfl hv)
                     (obtain ⟨n2, o2, q2, rfl, _, _, B2⟩ := hv2.bytes)
                     (have B1 := B1.below y2 (Nat.le_refl _))
                     (have r3 := in_read hD (k4'.next hD y2) (t : Int) ht64)
                     (rw [E4, Int.toNat_natCast, HE.out.2.1] at r3)
                     (have k1 := k1'.next hD y2)
                     (have k2 := k2'.next hD y2)
                     (have k3 := k3'.next hD y2)
                     (have k4 := k4'.next hD y2)
                     (have k5 := k5'.next hD y2)
                     (clear r2 _t hv2 k1' k2' k3' k4' k5'))
                  | ((go_at_call 20)
                     (have _t := r3)
                     (refine r3.mono ?_)
                     (rintro e x3 ⟨y3, _, v3, rfl, (⟨hv, _⟩ | ⟨_, hv3⟩)⟩)
                     (case inl => exact absurd rfl hv)
                     (obtain ⟨n3, o3, q3, rfl, _, _, B3⟩ := hv3.bytes)
                     (have B1 := B1.below y3 (Nat.le_refl _))
                     (have B2 := B2.below y3 (Nat.le_refl _))
                     (have r4 := in_read hD (k5.next hD y3) (t : Int) ht64)
                     (rw [E5, Int.toNat_natCast, HE.out.2.2.1] at r4)
                     (have k1' := k1.next hD y3)
                     (have k2' := k2.next hD y3)
                     (have k3' := k3.next hD y3)
                     (have k4' := k4.next hD y3)
                     (have k5' := k5.next hD y3)
                     (clear r3 _t hv3 k1 k2 k3 k4 k5))
                  | ((go_at_call 20)
                     (have _t := r4)
                     (refine r4.mono ?_)
                     (rintro e x4 ⟨y4, _, v4, rfl, (⟨hv, _⟩ | ⟨_, hv4⟩)⟩)
                     (case inl => exact absurd rfl hv)
                     (obtain ⟨n4, o4, q4, rfl, _, _, B4⟩ := hv4.bytes)
                     (have B1 := B1.below y4 (Nat.le_refl _))
                     (have B2 := B2.below y4 (Nat.le_refl _))
                     (have B3 := B3.below y4 (Nat.le_refl _))
                     (have r5 := in_read hD (k1'.next hD y4) (t : Int) ht64)
                     (rw [E1, Int.toNat_natCast, HE.out.2.2.2] at r5)
                     (have k1 := k1'.next hD y4)
                     (have k2 := k2'.next hD y4)
                     (have k3 := k3'.next hD y4)
                     (have k4 := k4'.next hD y4)
                     (have k5 := k5'.next hD y4)
                     (clear r4 _t hv4 k1' k2' k3' k4' k5'))
                  | ((go_at_call 20)
                     (refine r5.mono ?_)
                     (rintro e x5 ⟨y5, _, v5, rfl, (⟨hv, _⟩ | ⟨_, hv5⟩)⟩)
                     (case inl => exact absurd rfl hv)
                     (obtain ⟨n5, o5, q5, rfl, _, _, B5⟩ := hv5.bytes)
                     (have B1 := B1.below y5 (Nat.le_refl _))
                     (have B2 := B2.below y5 (Nat.le_refl _))
                     (have B3 := B3.below y5 (Nat.le_refl _))
                     (have B4 := B4.below y5 (Nat.le_refl _))
                     (have s1 := same_true q1 q2 B1 B2 hl1 (fun e => by cases e) (fun e => by cases e))
                     (have s2 := same_true q3 q5 B3 B5 hl0 (fun e => by cases e) (fun e => by cases e))
                     (have s3 := same_true q4 q5 B4 B5 hl0 (fun e => by cases e) (fun e => by cases e))
                     (have K5 : Five D w s S1 S2 S3 S4 p p1 p2 p3 p4 x5 := ⟨⟨_, _, _, k1.next hD y5⟩, ⟨_, _, _, k2.next hD y5⟩, ⟨_, _, _, k3.next hD y5⟩, ⟨_, _, _, k4.next hD y5⟩, ⟨_, _, _, k5.next hD y5⟩⟩)
                     (clear r5 hv5 k1 k2 k3 k4 k5 B1 B2 B3 B4 B5))
                  | ((go_at_call 22)
                     (have _t := s1)
                     (refine s1.mono ?_)
                     (rintro e x6 ⟨rfl, hx6⟩)
                     (subst hx6)
                     (clear s1 _t))
                  | ((go_at_call 22)
                     (have _t := s2)
                     (refine s2.mono ?_)
                     (rintro e x7 ⟨rfl, hx7⟩)
                     (subst hx7)
                     (clear s2 _t))
                  | ((go_at_call 22)
                     (refine s3.mono ?_)
                     (rintro e x8 ⟨rfl, hx8⟩)
                     (subst hx8)
                     (clear s3)))
                go_roundw
                case rel =>
                  obtain ⟨z1, z2, z3, z4⟩ := HSS.out
                  rw [z4, z3, z2, z1] at K5
                  exact ⟨t + 1, by omega, by go_num, K5⟩
                case measure => simp [intOf]; omega
              · obtain rfl : t = 8 := by omega
                obtain ⟨a1, b1, g1, k1⟩ := h5.1
                have j1 : ¬ ((8 : Nat) : Int) < 8 := by omega
                go_wp2
                exact bodyPost_ret (results_tmp rfl _ _ _) rfl ⟨rfl, k1.below⟩
      · have i0 : ¬ (k : Int) < (len : Int) := by omega
        go_wp2
        clear i0
        go_loopw [10, 11] (fun v i wz => ∃ q : Nat, q ≤ A ∧ i = .int .i64 (q : Nat) ∧ wz.ownsRow wr.heap.size 4 1 v q (tl q) ∧ In D w.heap.size w wz p s c m F' ∧ wr.heap.size ≤ wz.heap.size) (fun _ i _ => A - (intOf i).toNat)
        case atStart => exact ⟨0, Nat.zero_le _, rfl, World.ownsRow_nil _ _ _ _, hIn, Nat.le_refl _⟩
        case round =>
          rename World => wo
          obtain ⟨q, hq, rfl, hown, hI3, hzz⟩ := hrel
          have hwc := hD.writes wo p s c m F' hI3.dev (by omega)
          rw [← HA.out] at hwc
          by_cases hqA : q < A
          · have j0 : (q : Int) < (A : Int) := by omega
            go_wp2_with (first
              | ((go_at_call 34)
                 (refine hwc.mono ?_)
                 (rintro e w4 ⟨rfl, hb4⟩)
                 (have hI4 := hI3.next hD hb4)
                 (have hown4 := ownB_below hown hb4 (fun g hg => (hown.lt g hg).2))
                 (clear hwc))
              | ((refine wpList_append_true rfl _ _ rfl wr.heap.size _ q rfl hown4 rfl (by omega) (Nat.le_trans hzz hb4.size) ?_)
                 (intro g5 cap5 w5 hown5 hgr5)
                 (have hI5 := (hI4.alloc hD (.cells #[.bool true] 4)).grown hD hgr5 (Z := wr.heap.size) (fun r e => (hown4.lt r e).1) (fun k hk => hIn.lt hD k hk) (hIn.clt hD) hIn.sz)))
            go_roundw
            case rel => exact ⟨q + 1, hqA, by go_num, hown5, hI5, Nat.le_trans hzz (Nat.le_trans hb4.size (Nat.le_trans (by simp) hgr5.size))⟩
            case measure => simp [intOf]; omega
          · obtain rfl : q = A := by omega
            have j0 : ¬ (q : Int) < (q : Int) := by omega
            obtain ⟨fa, fc, rfl, hfc, hfb⟩ := own_trues hown
            go_wp2_with (first
              | ((go_at_call 34)
                 (have _t := hwc)
                 (refine hwc.mono ?_)
                 (rintro e w4 ⟨rfl, hb4⟩)
                 (have hI4 := hI3.next hD hb4)
                 (have hf4 := hfb.below hb4 (Nat.le_refl _))
                 (have hc1 := in_cut hD hI4 ka kL kC kb (by omega) hk.max hk.le (hk.at_.below hI4.below (Nat.le_refl _)))
                 (clear hwc _t))
              | ((go_at_call 25)
                 (have _t := hc1)
                 (refine hc1.mono ?_)
                 (rintro e w5 ⟨hb5, hI5, p1, c1, F1, rfl, hJ1, _, _⟩)
                 (have hf5 := hf4.below hb5 (Nat.le_refl _))
                 (have hc2 := in_cut hD hJ1 ga gL gC gb (Nat.zero_le _) hg.max hg.le (hg.at_.below hJ1.below (Nat.le_refl _)))
                 (clear hc1 _t hf4))
              | ((go_at_call 25)
                 (have _t := hc2)
                 (refine hc2.mono ?_)
                 (rintro e w6 ⟨hb6, hK1, p2, c2, F2, rfl, hJ2, _, _⟩)
                 (have hf6 := hf5.below hb6 (Nat.le_refl _))
                 (have hI6 := hI5.next hD hb6)
                 (have hc3 := in_cut hD hI6 fa q fc (fun _ => true) (by omega) (by unfold maxLen; omega) hfc hf6)
                 (clear hc2 _t hf5))
              | ((go_at_call 25)
                 (have _t := hc3)
                 (refine hc3.mono ?_)
                 (rintro e w7 ⟨hb7, hI7, p3, c3, F3, rfl, hJ3, _, _⟩)
                 (have hf7 := hf6.below hb7 (Nat.le_refl _))
                 (have hK7 := hK1.next hD hb7)
                 (have hL7 := hJ2.next hD hb7)
                 (have hw7 := hD.writes w7 p s c m F' hI7.dev (by omega))
                 (rw [← HA.out] at hw7)
                 (clear hc3 _t hf6))
              | ((go_at_call 34)
                 (have _t := hw7)
                 (refine hw7.mono ?_)
                 (rintro e w8 ⟨rfl, hb8⟩)
                 (have hI8 := hI7.next hD hb8)
                 (have hK8 := hK7.next hD hb8)
                 (have hL8 := hL7.next hD hb8)
                 (have hM8 := hJ3.next hD hb8)
                 (have hc4 := in_cutAt hD hM hI8 (q : Int) fa q fc (fun _ => true) hA64 (by omega) (by unfold maxLen; omega) hfc (hf7.below hb8 (Nat.le_refl _)))
                 (clear hw7 _t))
              | ((go_at_call 27)
                 (refine hc4.mono ?_)
                 (rintro e w9 ⟨hb9, hI9, p4, c4, F4, rfl, hJ4, _, _⟩)
                 (have h5 : Five D w s (cutD s (keepOf kb kL)) (cutD (cutD s (keepOf kb kL)) (keepOf gb gL)) (cutD s (keepOf (fun _ => true) q)) (cutAtD s (q : Int) (keepOf (fun _ => true) q)) p p1 p2 p3 p4 w9 := ⟨⟨_, _, _, hI9⟩, ⟨_, _, _, hK8.next hD hb9⟩, ⟨_, _, _, hL8.next hD hb9⟩, ⟨_, _, _, hM8.next hD hb9⟩, ⟨_, _, _, hJ4⟩⟩)
                 (have hw9 := hD.writes w9 p1 (cutD s (keepOf kb kL)) c1 0 F1 (hK8.next hD hb9).dev (Nat.zero_le _))
                 (rw [show wrs (cutD s (keepOf kb kL)).log = 0 from rfl] at hw9)
                 (clear hc4 hI3 hI4 hI5 hI6 hI7 hI8 hI9 hJ1 hK1 hJ2 hJ3 hJ4 hK7 hK8 hL7 hL8 hM8 hIn))
              | ((go_at_call 34)
                 (refine hw9.mono ?_)
                 (rintro e w10 ⟨rfl, hb10⟩)
                 (have h510 := h5.next hD hb10)
                 (clear hw9 h5)))
            go_loopw [16] (fun i wz => ∃ t : Nat, t ≤ 8 ∧ i = .int .i64 (t : Nat) ∧ Five D w s (cutD s (keepOf kb kL)) (cutD (cutD s (keepOf kb kL)) (keepOf gb gL)) (cutD s (keepOf (fun _ => true) q)) (cutAtD s (q : Int) (keepOf (fun _ => true) q)) p p1 p2 p3 p4 wz) (fun i _ => 8 - (intOf i).toNat)
            case atStart => exact ⟨0, Nat.zero_le _, rfl, h510⟩
            case round =>
              clear h510
              obtain ⟨t, ht, rfl, h5⟩ := hrel
              by_cases ht8 : t < 8
              · have j1 : (t : Int) < 8 := by omega
                have ht64 : i64ok (t : Int) := ⟨by omega, by omega⟩
                obtain ⟨E1, E2, E3, E4, E5, E6, E7, E8⟩ := HF.out t ht8
                rw [← HA.out] at E4 E5 E7 E8
                obtain ⟨S1, hS1⟩ : ∃ S1, S1 = cutD s (keepOf kb kL) := ⟨_, rfl⟩
                obtain ⟨S2, hS2⟩ : ∃ S2, S2 = cutD (cutD s (keepOf kb kL)) (keepOf gb gL) := ⟨_, rfl⟩
                obtain ⟨S3, hS3⟩ : ∃ S3, S3 = cutD s (keepOf (fun _ => true) q) := ⟨_, rfl⟩
                obtain ⟨S4, hS4⟩ : ∃ S4, S4 = cutAtD s (q : Int) (keepOf (fun _ => true) q) := ⟨_, rfl⟩
                have HSS : Hid (S1 = cutD s (keepOf kb kL) ∧ S2 = cutD (cutD s (keepOf kb kL)) (keepOf gb gL) ∧ S3 = cutD s (keepOf (fun _ => true) q) ∧ S4 = cutAtD s (q : Int) (keepOf (fun _ => true) q)) := ⟨hS1, hS2, hS3, hS4⟩
                rw [← hS2, ← hS1] at E6
                rw [← hS3] at E7 E4
                rw [← hS4] at E8 E5
                rw [← hS1] at E2
                rw [← hS2] at E3
                rw [← hS2, ← hS1, ← hS3, ← hS4] at h5
                obtain ⟨f1, hf1⟩ : ∃ f1, f1 = holds S1 t := ⟨_, rfl⟩
                obtain ⟨f0, hf0⟩ : ∃ f0, f0 = holds s t := ⟨_, rfl⟩
                have hl1 : ∀ j, f1 j < 256 := by rw [hf1, HSS.out.1]; exact holds_lt _ (byt_cut _ _ hBy) t
                have hl0 : ∀ j, f0 j < 256 := by rw [hf0]; exact holds_lt _ hBy t
                obtain ⟨⟨a1, b1, g1, k1⟩, ⟨a2, b2, g2, k2⟩, ⟨a3, b3, g3, k3⟩, ⟨a4, b4, g4, k4⟩, ⟨a5, b5, g5, k5⟩⟩ := h5
                have r1 := in_read hD k2 (t : Int) ht64
                rw [E2, Int.toNat_natCast, ← hf1] at r1
                have HE : Hid (holds S2 t = f1 ∧ holds S3 t = f0 ∧ holds S4 t = f0 ∧ holds s t = f0) := ⟨by rw [E6, hf1], by rw [E7, hf0], by rw [E8, hf0], hf0.symm⟩
                clear hS1 hS2 hS3 hS4 hf1 hf0 E2 E6 E7 E8
                go_wp2_with (first
                  | ((go_at_call 20)
                     (have _t := r1)
                     (refine r1.mono ?_)
                     (rintro e x1 ⟨y1, _, v1, rfl, (⟨hv, _⟩ | ⟨_, hv1⟩)⟩)
                     (case inl => exact absurd rfl hv)
                     (obtain ⟨n1, o1, q1, rfl, _, _, B1⟩ := hv1.bytes)
                     (have r2 := in_read hD (k3.next hD y1) (t : Int) ht64)
                     (rw [E3, Int.toNat_natCast, HE.out.1] at r2)
                     (have k1' := k1.next hD y1)
                     (have k4' := k4.next hD y1)
                     (have k5' := k5.next hD y1)
                     (have k2' := k2.next hD y1)
                     (have k3' := k3.next hD y1)
                     (clear r1 _t hv1 k1 k2 k3 k4 k5))
                  | ((go_at_call 20)
                     (have _t := r2)
                     (refine r2.mono ?_)
                     (rintro e x2 ⟨y2, _, v2, rfl, (⟨hv, _⟩ | ⟨_, hv2⟩)⟩)
                     (case inl => exact absurd rfl hv)
                     (obtain ⟨n2, o2, q2, rfl, _, _, B2⟩ := hv2.bytes)
                     (have B1 := B1.below y2 (Nat.le_refl _))
                     (have r3 := in_read hD (k4'.next hD y2) (t : Int) ht64)
                     (rw [E4, Int.toNat_natCast, HE.out.2.1] at r3)
                     (have k1 := k1'.next hD y2)
                     (have k2 := k2'.next hD y2)
                     (have k3 := k3'.next hD y2)
                     (have k4 := k4'.next hD y2)
                     (have k5 := k5'.next hD y2)
                     (clear r2 _t hv2 k1' k2' k3' k4' k5'))
                  | ((go_at_call 20)
                     (have _t := r3)
                     (refine r3.mono ?_)
                     (rintro e x3 ⟨y3, _, v3, rfl, (⟨hv, _⟩ | ⟨_, hv3⟩)⟩)
                     (case inl => exact absurd rfl hv)
                     (obtain ⟨n3, o3, q3, rfl, _, _, B3⟩ := hv3.bytes)
                     (have B1 := B1.below y3 (Nat.le_refl _))
                     (have B2 := B2.below y3 (Nat.le_refl _))
                     (have r4 := in_read hD (k5.next hD y3) (t : Int) ht64)
                     (rw [E5, Int.toNat_natCast, HE.out.2.2.1] at r4)
                     (have k1' := k1.next hD y3)
                     (have k2' := k2.next hD y3)
                     (have k3' := k3.next hD y3)
                     (have k4' := k4.next hD y3)
                     (have k5' := k5.next hD y3)
                     (clear r3 _t hv3 k1 k2 k3 k4 k5))
                  | ((go_at_call 20)
                     (have _t := r4)
                     (refine r4.mono ?_)
                     (rintro e x4 ⟨y4, _, v4, rfl, (⟨hv, _⟩ | ⟨_, hv4⟩)⟩)
                     (case inl => exact absurd rfl hv)
                     (obtain ⟨n4, o4, q4, rfl, _, _, B4⟩ := hv4.bytes)
                     (have B1 := B1.below y4 (Nat.le_refl _))
                     (have B2 := B2.below y4 (Nat.le_refl _))
                     (have B3 := B3.below y4 (Nat.le_refl _))
                     (have r5 := in_read hD (k1'.next hD y4) (t : Int) ht64)
                     (rw [E1, Int.toNat_natCast, HE.out.2.2.2] at r5)
                     (have k1 := k1'.next hD y4)
                     (have k2 := k2'.next hD y4)
                     (have k3 := k3'.next hD y4)
                     (have k4 := k4'.next hD y4)
                     (have k5 := k5'.next hD y4)
                     (clear r4 _t hv4 k1' k2' k3' k4' k5'))
                  | ((go_at_call 20)
                     (refine r5.mono ?_)
                     (rintro e x5 ⟨y5, _, v5, rfl, (⟨hv, _⟩ | ⟨_, hv5⟩)⟩)
                     (case inl => exact absurd rfl hv)
                     (obtain ⟨n5, o5, q5, rfl, _, _, B5⟩ := hv5.bytes)
                     (have B1 := B1.below y5 (Nat.le_refl _))
                     (have B2 := B2.below y5 (Nat.le_refl _))
                     (have B3 := B3.below y5 (Nat.le_refl _))
                     (have B4 := B4.below y5 (Nat.le_refl _))
                     (have s1 := same_true q1 q2 B1 B2 hl1 (fun e => by cases e) (fun e => by cases e))
                     (have s2 := same_true q3 q5 B3 B5 hl0 (fun e => by cases e) (fun e => by cases e))
                     (have s3 := same_true q4 q5 B4 B5 hl0 (fun e => by cases e) (fun e => by cases e))
                     (have K5 : Five D w s S1 S2 S3 S4 p p1 p2 p3 p4 x5 := ⟨⟨_, _, _, k1.next hD y5⟩, ⟨_, _, _, k2.next hD y5⟩, ⟨_, _, _, k3.next hD y5⟩, ⟨_, _, _, k4.next hD y5⟩, ⟨_, _, _, k5.next hD y5⟩⟩)
                     (clear r5 hv5 k1 k2 k3 k4 k5 B1 B2 B3 B4 B5))
                  | ((go_at_call 22)
                     (have _t := s1)
                     (refine s1.mono ?_)
                     (rintro e x6 ⟨rfl, hx6⟩)
                     (subst hx6)
                     (clear s1 _t))
                  | ((go_at_call 22)
                     (have _t := s2)
                     (refine s2.mono ?_)
                     (rintro e x7 ⟨rfl, hx7⟩)
                     (subst hx7)
                     (clear s2 _t))
                  | ((go_at_call 22)
                     (refine s3.mono ?_)
                     (rintro e x8 ⟨rfl, hx8⟩)
                     (subst hx8)
                     (clear s3)))
                go_roundw
                case rel =>
                  obtain ⟨z1, z2, z3, z4⟩ := HSS.out
                  rw [z4, z3, z2, z1] at K5
                  exact ⟨t + 1, by omega, by go_num, K5⟩
                case measure => simp [intOf]; omega
              · obtain rfl : t = 8 := by omega
                obtain ⟨a1, b1, g1, k1⟩ := h5.1
                have j1 : ¬ ((8 : Nat) : Int) < 8 := by omega
                go_wp2
                exact bodyPost_ret (results_tmp rfl _ _ _) rfl ⟨rfl, k1.below⟩
end Go.Proofs.Ytalcalecmklcoaa
