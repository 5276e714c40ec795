/- MerklePlaces, walked. -/
import Derived.Test.YtoeanaadlihkeaaDoorMkAlive
import Derived.Test.YtoeanaadlihkeaaDoorMkRef2
namespace Go.Proofs.YtoeanaadlihkeaaDoor
open Go.ChangeShapes Go.WideShapes Go.ChangeAt Go.RowKit
set_option linter.unusedVariables false

set_option maxRecDepth 100000 in
set_option maxHeartbeats 3200000 in
theorem places_walk (hM : MerkleOk) (n i : Int) (hn : i64ok n) (hi : i64ok i) (w : World) (hG : Glob Hc Kc w) : Calls Tryd.prog 3 #[.int .i64 n, .int .i64 i] w fun e w' => e = .returned (.bool true) ∧ Below w.heap.size w w' := by
  have k1 := fun w => hM.1 n w hn
  have k2 := fun w => rlevels_any n w hn
  have k3 := fun w => hM.2.1 n i w hn hi
  have k4 := fun w => rpath_any n i w hn hi
  have hX := levN_11 n
  have hY := patN_11 n i
  have hal := fun w hG => live_any hM w hG
  obtain ⟨f, hf⟩ : ∃ f : Nat → Nat, f = fun k => lv n.toNat (k + 1) := ⟨_, rfl⟩
  obtain ⟨g, hg⟩ : ∃ g : Nat → Nat, g = fun k => off n.toNat k + pl i.toNat (k + 1) := ⟨_, rfl⟩
  rw [← hf] at k1 k2
  rw [← hg] at k3 k4
  clear hf hg
  generalize levN n = X at *
  generalize patN n i = Y at *
  have K1 : Hid _ := k1
  have K2 : Hid _ := k2
  have K3 : Hid _ := k3
  have K4 : Hid _ := k4
  have K5 : Hid _ := hal
  clear k1 k2 k3 k4 hal
  have k1 := K1.out w
  go_enter Tryd.func3, Tryd.ntmps3
  go_wp2_with (first
    | ((go_at_call 9)
       (refine k1.mono ?_)
       (rintro e w1 ⟨la, lc, rfl, hlc, _, hl1, hb1⟩)
       (have k2 := K2.out w1)
       (clear k1))
    | ((go_at_call 10)
       (refine k2.mono ?_)
       (rintro e w2 ⟨ma, mc, rfl, hmc, _, hm2, hb2⟩)
       (have hl2 := hl1.below hb2 (Nat.le_refl _))
       (have hB2 := hb1.trans (hb2.mono hb1.size))
       (have k3 := K3.out w2)
       (clear k2 hl1 hb1 hb2))
    | ((go_at_call 11)
       (refine k3.mono ?_)
       (rintro e w3 ⟨pa, pc, rfl, hpc, _, hp3, hb3⟩)
       (have hl3 := hl2.below hb3 (Nat.le_refl _))
       (have hm3 := hm2.below hb3 (Nat.le_refl _))
       (have hB3 := hB2.trans (hb3.mono hB2.size))
       (have k4 := K4.out w3)
       (clear k3 hl2 hm2 hb3 hB2))
    | ((go_at_call 12)
       (refine k4.mono ?_)
       (rintro e w4 ⟨qa, qc, rfl, hqc, _, hq4, hb4⟩)
       (have hl4 := hl3.below hb4 (Nat.le_refl _))
       (have hm4 := hm3.below hb4 (Nat.le_refl _))
       (have hp4 := hp3.below hb4 (Nat.le_refl _))
       (have hB4 := hB3.trans (hb4.mono hB3.size))
       (clear k4 hl3 hm3 hp3 hb4 hB3)))
  go_loopw [9] (fun i wr => ∃ k : Nat, k ≤ X ∧ i = .int .i64 (k : Nat) ∧ Below w4.heap.size w4 wr) (fun i _ => X - (intOf i).toNat)
  case atStart => exact ⟨0, Nat.zero_le _, rfl, Below.refl _ _⟩
  case round =>
    obtain ⟨k, hk, rfl, hbel⟩ := hrel
    by_cases hlt : k < X
    · obtain ⟨lb, lo, rfl, _, hlcell⟩ := (hl4.below hbel (Nat.le_refl _)).resolve_left (by omega)
      obtain ⟨mb, mo, rfl, _, hmcell⟩ := (hm4.below hbel (Nat.le_refl _)).resolve_left (by omega)
      have c1 := hlcell k hlt
      have c2 := hmcell k hlt
      have hk1 : (k : Int) < (X : Int) := by omega
      have hk0 : (0 : Int) ≤ (k : Int) := by omega
      generalize f k = y at c1 c2
      clear hlcell hmcell hl4 hm4
      go_wp2
      go_quiet (fail)
      go_wp2
      go_roundw
      case rel => exact ⟨k + 1, by omega, by go_num, below_drewN hbel nq⟩
      case measure => simp [intOf]; omega
    · obtain rfl : k = X := by omega
      go_wp2
      clear hl4 hm4
      go_loopw [10] (fun i wr => ∃ k : Nat, k ≤ Y ∧ i = .int .i64 (k : Nat) ∧ Below w4.heap.size w4 wr) (fun i _ => Y - (intOf i).toNat)
      case atStart => exact ⟨0, Nat.zero_le _, rfl, hbel⟩
      case round =>
        obtain ⟨k, hk, rfl, hbel⟩ := hrel
        by_cases hlt : k < Y
        · obtain ⟨lb, lo, rfl, _, hlcell⟩ := (hp4.below hbel (Nat.le_refl _)).resolve_left (by omega)
          obtain ⟨mb, mo, rfl, _, hmcell⟩ := (hq4.below hbel (Nat.le_refl _)).resolve_left (by omega)
          have c1 := hlcell k hlt
          have c2 := hmcell k hlt
          have hk1 : (k : Int) < (Y : Int) := by omega
          have hk0 : (0 : Int) ≤ (k : Int) := by omega
          generalize g k = y at c1 c2
          clear hlcell hmcell hp4 hq4
          go_wp2
          go_quiet (fail)
          go_wp2
          go_roundw
          case rel => exact ⟨k + 1, by omega, by go_num, below_drewN hbel nq⟩
          case measure => simp [intOf]; omega
        · obtain rfl : k = Y := by omega
          have k5 := K5.out wr (hG.below (hB4.trans (hbel.mono hB4.size)) hG.1)
          have hBw := hB4.trans (hbel.mono hB4.size)
          go_wp2_with (first
            | ((go_at_call 13)
               (refine k5.mono ?_)
               (rintro e w5 ⟨rfl, hb5⟩)))
          go_ret
          exact ⟨rfl, hBw.trans (hb5.mono hBw.size)⟩
end Go.Proofs.YtoeanaadlihkeaaDoor
