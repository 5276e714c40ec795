/- MerkleHalves, walked. -/
import Derived.Test.YtoeanaadlihkeaaDoorMkAlive
import Derived.Test.YtoeanaadlihkeaaDoorMkApp
namespace Go.Proofs.YtoeanaadlihkeaaDoor
open Go.ChangeShapes Go.WideShapes Go.ChangeAt Go.RowKit
set_option linter.unusedVariables false

set_option maxRecDepth 100000 in
set_option maxHeartbeats 3200000 in
theorem halves_out (hM : MerkleOk) (n i : Int) (hn : i64ok n) (hi : i64ok i) (w : World) (hG : Glob Hc Kc w) (ho : ¬ (1 ≤ n ∧ n ≤ 2048)) : Calls Tryd.prog 8 #[.int .i64 n, .int .i64 i] w fun e w' => e = .returned (.bool true) ∧ Below w.heap.size w w' := by
  have k1 := hM.1 n w hn
  have k3 := fun w => hM.2.1 n i w hn hi
  have hal := fun w hG => live_any hM w hG
  rw [levN_out ho] at k1
  rw [patN_out (by omega)] at k3
  have K3 : Hid _ := k3
  have K5 : Hid _ := hal
  clear k3 hal
  go_enter Tryd.func8, Tryd.ntmps8
  rcases (show n < 1 ∨ (¬ n < 1 ∧ 2048 < n) from by omega) with h | ⟨h, h'⟩
  all_goals
    clear ho
    go_wp2_with (first
      | ((go_at_call 9)
         (refine k1.mono ?_)
         (rintro e w1 ⟨la, lc, rfl, hlc, _, hl1, hb1⟩)
         (have k5 := K5.out w1 (hG.below hb1 hG.1))
         (clear k1))
      | ((go_at_call 13)
         (refine k5.mono ?_)
         (rintro e w2 ⟨rfl, hb2⟩)
         (have hB2 := hb1.trans (hb2.mono hb1.size))
         (have k3 := K3.out w2)
         (clear k5))
      | ((go_at_call 11)
         (refine k3.mono ?_)
         (rintro e w3 ⟨pa, pc, rfl, hpc, _, hp3, hb3⟩)
         (have hB3 := hB2.trans (hb3.mono hB2.size))
         (clear k3)))
    go_ret
    exact ⟨rfl, hB3⟩

set_option maxRecDepth 100000 in
set_option maxHeartbeats 3200000 in
theorem halves_in (hM : MerkleOk) (N : Nat) (i : Int) (hi : i64ok i) (w : World) (hG : Glob Hc Kc w) (h1 : 1 ≤ N) (h2 : N ≤ 2048) : Calls Tryd.prog 8 #[.int .i64 (N : Nat), .int .i64 i] w fun e w' => e = .returned (.bool true) ∧ Below w.heap.size w w' := by
  have hno : i64ok N := ⟨by omega, by omega⟩
  have k1 := hM.1 N w hno
  have k3 := fun w => hM.2.1 N i w hno hi
  have hal := fun w hG => live_any hM w hG
  rw [levN_in ⟨by omega, by omega⟩, Int.toNat_natCast] at k1
  rw [Int.toNat_natCast] at k3
  have hD1 := dep_pos N
  have hD11 := dep_11 N h2
  have hlast : lv N (dep N - 1 + 1) = 1 := by rw [show dep N - 1 + 1 = dep N from by omega]; exact lv_dep N h1
  have HT : Hid (∀ k, 0 < k → k < dep N → 2 ≤ lv N k) := fun k h h' => lv_two N k h h'
  obtain ⟨D, hD⟩ : ∃ D, D = dep N := ⟨_, rfl⟩
  rw [← hD] at k1 hD1 hD11 hlast HT
  have HD : Hid (D = dep N) := hD
  clear hD
  have K3 : Hid _ := k3
  have K5 : Hid _ := hal
  clear k3 hal
  have hD0 : ((D : Int) == 0) = false := by simp; omega
  have hDi : (1 : Int) ≤ D := by omega
  have hDm : (D : Int) - 1 = ((D - 1 : Nat) : Int) := by omega
  go_enter Tryd.func8, Tryd.ntmps8
  go_wp2_with (first
    | ((go_at_call 9)
       (refine k1.mono ?_)
       (rintro e w1 ⟨la, lc, rfl, hlc, _, hl1, hb1⟩)
       (obtain ⟨lb, lo, rfl, hlb, hlcell⟩ := hl1.resolve_left (by omega))
       (have cl : w1.cell? ⟨lb, lo + (D - 1), none⟩ = some (.int .i64 1) := (hlcell (D - 1) (by omega)).trans (by show some (Value.int .i64 ((lv N (D - 1 + 1) : Nat) : Int)) = _; rw [hlast]; rfl))
       (clear k1)))
  clear cl hlast hDm
  go_loopw [6, 7] (fun b kv wr => ∃ k : Nat, k ≤ D ∧ kv = .int .i64 (k : Nat) ∧ b = .int .i64 (lv N k : Nat) ∧ wr = w1) (fun _ kv _ => D - (intOf kv).toNat)
  case atStart => exact ⟨0, Nat.zero_le _, rfl, rfl, rfl⟩
  case round =>
    obtain ⟨k, hk, rfl, rfl, rfl⟩ := hrel
    by_cases hlt : k < D
    · have c1 := hlcell k hlt
      have hk1 : (k : Int) < (D : Int) := by omega
      have hy1 := lv_pos N k h1
      have hy2 := Nat.le_trans (lv_le N k h1) h2
      have hz2 := Nat.le_trans (lv_le N (k + 1) h1) h2
      have hst : lv N (k + 1) = (lv N k + 1) / 2 := rfl
      have ht := HT.out k
      have HS : Hid (lv N (k + 1) = lv N (k + 1)) := (rfl : _ = _)
      obtain ⟨y, hy⟩ : ∃ y, y = lv N k := ⟨_, rfl⟩
      obtain ⟨z, hz⟩ : ∃ z, z = lv N (k + 1) := ⟨_, rfl⟩
      have HZ : Hid (z = lv N (k + 1)) := hz
      change wr.cell? ⟨lb, lo + k, none⟩ = some (.int .i64 ((lv N (k + 1) : Nat) : Int)) at c1
      rw [← hz] at c1 hst hz2
      rw [← hy] at hy1 hy2 hst ht ⊢
      have hzi : ((z : Int) != (((y : Int) + 1) / 2)) = false := by simp; omega
      have hk0 : (0 : Int) < (k : Int) → ¬ ((y : Int) = 1) := by intro h; have := ht (by omega) hlt; omega
      clear hst ht hy hz hlcell
      by_cases hkz : k = 0
      · subst hkz
        rw [Nat.add_zero] at c1
        go_wp2
        go_roundw
        case rel => exact ⟨1, by omega, rfl, by rw [← HZ.out], trivial⟩
        case measure => simp [intOf]; omega
      · have hkp : (0 : Int) < (k : Int) := by omega
        have hyn := hk0 hkp
        clear hk0
        go_wp2
        go_roundw
        case rel => exact ⟨k + 1, by omega, rfl, by rw [← HZ.out], trivial⟩
        case measure => simp [intOf]; omega
    · obtain rfl : k = D := by omega
      have k3 := K3.out wr
      by_cases hin : 0 ≤ i ∧ i < (N : Int)
      · obtain ⟨I, rfl⟩ : ∃ I : Nat, i = I := ⟨i.toNat, by omega⟩
        rw [patN_in ⟨by omega, by omega, by omega⟩, Int.toNat_natCast, Int.toNat_natCast, ← HD.out] at k3
        have hI : I < N := by omega
        have hNI : ¬ (N ≤ I) := by omega
        have hIi : (I : Int) < N := by omega
        clear hin
        go_wp2_with (first
          | ((go_at_call 11)
             (refine k3.mono ?_)
             (rintro e w2 ⟨pa, pc, rfl, hpc, _, hp2, hb2⟩)
             (obtain ⟨pb, po, rfl, hpb, hpcell⟩ := hp2.resolve_left (by omega))
             (have hlc2 : ∀ j, j < k → w2.cell? ⟨lb, lo + j, none⟩ = some (.int .i64 ((lv N (j + 1) : Nat) : Int)) := fun j hj => (hb2.cell (p := ⟨lb, lo + j, none⟩) hlb).trans (hlcell j hj))
             (have hB2 := hb1.trans (hb2.mono hb1.size))
             (clear k3 hlcell)))
        go_loopw [9, 10, 11] (fun fi av kv wr => ∃ j : Nat, j ≤ k ∧ kv = .int .i64 (j : Nat) ∧ av = .int .i64 (pl I j : Nat) ∧ fi = .int .i64 (off N j : Nat) ∧ wr = w2) (fun _ _ kv _ => k - (intOf kv).toNat)
        case atStart => exact ⟨0, Nat.zero_le _, rfl, rfl, rfl, rfl⟩
        case round =>
          obtain ⟨j, hj, rfl, rfl, rfl, rfl⟩ := hrel
          by_cases hlt2 : j < k
          · have c1 := hlc2 j hlt2
            have c2 := hpcell j hlt2
            change wr.cell? ⟨pb, po + j, none⟩ = some (.int .i64 ((off N j + pl I (j + 1) : Nat) : Int)) at c2
            have hj1 : (j : Int) < (k : Int) := by omega
            have ho := off_max N j h1 h2 (by omega)
            have hx := pl_le I j
            have hv := Nat.le_trans (lv_le N (j + 1) h1) h2
            have HS : Hid (pl I (j + 1) = pl I j / 2 ∧ off N (j + 1) = off N j + lv N (j + 1)) := ⟨rfl, rfl⟩
            obtain ⟨x, hxx⟩ : ∃ x, x = pl I j := ⟨_, rfl⟩
            obtain ⟨y, hyy⟩ : ∃ y, y = lv N (j + 1) := ⟨_, rfl⟩
            obtain ⟨o1, hoo⟩ : ∃ o1, o1 = off N j := ⟨_, rfl⟩
            obtain ⟨s, hs⟩ : ∃ s, s = off N j + pl I (j + 1) := ⟨_, rfl⟩
            have hse : s = o1 + x / 2 := by rw [hs, hoo, hxx]; rfl
            rw [← hs] at c2
            rw [← hyy] at c1 hv
            rw [← hxx] at hx ⊢
            rw [← hoo] at ho ⊢
            have HE : Hid (x = pl I j ∧ y = lv N (j + 1) ∧ o1 = off N j) := ⟨hxx, hyy, hoo⟩
            have hsi : ((s : Int) != ((o1 : Int) + (x : Int) / 2)) = false := by simp; omega
            clear hse hs hxx hyy hoo hlc2 hpcell
            go_wp2
            go_roundw
            case rel =>
              obtain ⟨e1, e2, e3⟩ := HE.out
              obtain ⟨e4, e5⟩ := HS.out
              exact ⟨j + 1, by omega, rfl, by rw [e4, ← e1]; rfl, by rw [e5, ← e2, ← e3]; rfl, trivial⟩
            case measure => simp [intOf]; omega
          · obtain rfl : j = k := by omega
            have k5 := K5.out wr (hG.below hB2 hG.1)
            clear hlc2 hpcell
            go_wp2_with (first
              | ((go_at_call 13)
                 (refine k5.mono ?_)
                 (rintro e w5 ⟨rfl, hb5⟩)))
            go_ret
            exact ⟨rfl, hB2.trans (hb5.mono hB2.size)⟩
      · rw [patN_out (by omega)] at k3
        rcases (show i < 0 ∨ (¬ i < 0 ∧ (N : Int) ≤ i) from by omega) with h | ⟨h, h'⟩
        all_goals
          clear hin hlcell
          go_wp2_with (first
            | ((go_at_call 11)
               (refine k3.mono ?_)
               (rintro e w2 ⟨pa, pc, rfl, hpc, _, hp2, hb2⟩)
               (have hB2 := hb1.trans (hb2.mono hb1.size))
               (have k5 := K5.out w2 (hG.below hB2 hG.1))
               (clear k3))
            | ((go_at_call 13)
               (refine k5.mono ?_)
               (rintro e w5 ⟨rfl, hb5⟩)))
          go_ret
          exact ⟨rfl, hB2.trans (hb5.mono hB2.size)⟩

theorem halves_walk (hM : MerkleOk) (n i : Int) (hn : i64ok n) (hi : i64ok i) (w : World) (hG : Glob Hc Kc w) : Calls Tryd.prog 8 #[.int .i64 n, .int .i64 i] w fun e w' => e = .returned (.bool true) ∧ Below w.heap.size w w' := by
  by_cases h : 1 ≤ n ∧ n ≤ 2048
  · obtain ⟨N, rfl⟩ : ∃ N : Nat, n = N := ⟨n.toNat, by omega⟩
    exact halves_in hM N i hi w hG (by omega) (by omega)
  · exact halves_out hM n i hn hi w hG h
end Go.Proofs.YtoeanaadlihkeaaDoor
