/- The document's Build: the walk. -/
import Derived.Test.YtoeanaadlihkeaaDoorMkRef3
namespace Go.Proofs.YtoeanaadlihkeaaDoor
open Go.ChangeShapes Go.WideShapes Go.ChangeAt Go.RowKit
set_option linter.unusedVariables false

set_option maxRecDepth 100000 in
set_option maxHeartbeats 3200000 in
theorem rbuild_any : BuildOk 15 := by
  intro n d a c w hG h1 h2 hc hb hd
  obtain ⟨L, hL⟩ : ∃ L, L = 64 * n := ⟨_, rfl⟩
  rw [← hL] at hb hc ⊢
  have hq : (L : Int) / 64 = (n : Int) := by omega
  have hr : (L : Int) % 64 = 0 := by omega
  have hn1 : (1 : Int) ≤ (n : Int) := by omega
  have hn2 : (n : Int) ≤ 2048 := by omega
  have hLb : L ≤ 131072 := by omega
  have HL : Hid (L = 64 * n) := hL
  have hN : Has (w.alloc (.cells (cellsN .u8 32 fun _ => 0) 28)) w.heap.size 28 (cellsN .u8 32 fun _ => 0) := Has.new _ _ _
  have hB0 : BO w (w.alloc (.cells (cellsN .u8 32 fun _ => 0) 28)) d n 0 (.slice none 0 0) a c := by
    rw [hL] at hb hc
    exact ⟨hc, hb.below ((Below.refl _ _).alloc (Nat.le_refl _) _) (Nat.le_refl _), fun _ _ _ e => (by cases e), World.ownsRow_nil _ _ _ _, hN, by simp, (Below.refl _ _).alloc (Nat.le_refl _) _⟩
  clear hL hN
  have hNd : Hid (dep n ≤ 11) := dep_11 n h2
  go_enter Tryd.func15, Tryd.ntmps15
  go_wp2
  clear hb hq hr hn1 hn2 hc
  go_loopw [6, 7, 8] (fun tv lvv kv wr => ∃ (k : Nat) (A : Option Addr) (C : Nat), k ≤ dep n ∧ kv = .int .u8 (kd k : Nat) ∧ lvv = .slice A (64 * lv n k) C ∧ BO w wr d n k tv A C)
    (fun tv _ _ _ => 64 * off n (dep n) - lenOf tv)
  case atStart => exact ⟨0, a, c, Nat.zero_le _, rfl, by rw [HL.out]; rfl, hB0⟩
  case round =>
    clear hB0 HL
    obtain ⟨k, A, C, hk, rfl, rfl, hBO⟩ := hrel
    have hd11 := hNd.out
    have hk11 : k ≤ 11 := by omega
    have hy1 := lv_pos n k h1
    have hy2 := Nat.le_trans (lv_le n k h1) h2
    have hC := hBO.1
    obtain ⟨Lk, hLk⟩ : ∃ Lk, Lk = 64 * lv n k := ⟨_, rfl⟩
    have HLk : Hid (Lk = 64 * lv n k) := hLk
    have hLkb : Lk ≤ 131072 := by omega
    rw [← hLk] at hC ⊢
    by_cases hlt0 : k < dep n
    · have HK : Hid (k < dep n) := hlt0
      by_cases h0 : k = 0
      · have hkd : kd k = 0 := by rw [h0]; rfl
        rw [hkd, show ((0 : Nat) : Int) = 0 from rfl]
        clear hlt0 hLk
        go_wp2
        rename World => wo
        go_loopw [9, 10] (fun nv at_ wr2 => ∃ q : Nat, q ≤ lv n k ∧ at_ = .int .i64 ((64 * q : Nat) : Int) ∧ wr2.ownsRow wo.heap.size 5 1 nv (32 * q) (bl (lvl d n (k + 1)) (32 * q)) ∧ Below wo.heap.size wo wr2)
          (fun _ at_ _ => 64 * lv n k - (intOf at_).toNat)
        case atStart => exact ⟨0, Nat.zero_le _, rfl, World.ownsRow_nil _ _ _ _, Below.refl _ _⟩
        case round =>
          obtain ⟨q, hq0, rfl, own, hbel⟩ := hrel
          have hBO2 := hBO.below hbel
          have hLk2 := HLk.out
          by_cases hlt : q < lv n k
          · obtain ⟨b, o, rfl, hcell⟩ : ∃ b o, A = some ⟨b, o, none⟩ ∧ Bytes wr (some ⟨b, o, none⟩) (64 * lv n k) (lvl d n k) := by
              rcases hBO2.2.1 with h | ⟨b, o, rfl, h⟩
              · omega
              · exact ⟨b, o, rfl, hBO2.2.1⟩
            have hsec := hcell.part (64 * q) 64 (by omega)
            have hlo : ∀ j, (fun j => lvl d n k (64 * q + j)) j < 256 := fun j => lvl_lt d n hd k _
            have hh := rhash_any 0 _ _ (C - 64 * q) wr (by decide) hsec hlo (by omega)
            obtain ⟨t, ht⟩ : ∃ t, t = 64 * q := ⟨_, rfl⟩
            obtain ⟨H, hH⟩ : ∃ H, H = hsh 0 (fun j => lvl d n k (64 * q + j)) := ⟨_, rfl⟩
            have HH : Hid (H = hsh (kd k) (sec (lvl d n k) q)) := by rw [hH, hkd]; exact (rfl : _ = _)
            have HT : Hid (t = 64 * q ∧ q < lv n k) := ⟨ht, hlt⟩
            have hHlt : ∀ j, H j < 256 := fun j => by rw [hH]; exact hsh_lt _ _ j
            have hq1 : 32 * q ≤ 1000000 := by omega
            rw [← hH] at hh
            rw [← ht] at hh ⊢
            have ht1 : t + 64 ≤ Lk := by omega
            have hC2 : t + 64 ≤ C := by omega
            have htb : t ≤ 131072 := by omega
            have ht1i : (t : Int) + 64 ≤ Lk := by omega
            have htl : (t : Int) < Lk := by omega
            clear hH hlt ht hsec hcell hLk2 hkd
            go_wp2_with (first
              | ((go_at_call 26)
                 (refine hh.mono ?_)
                 (rintro e w3 ⟨rfl, hb3⟩)
                 (have hN3 : Has (w3.alloc (.cells (cellsN .u8 32 fun _ => 0) 28)) w3.heap.size 28 (cellsN .u8 32 fun _ => 0) := Has.new _ _ _)
                 (have hb4 : Below wr.heap.size wr (w3.alloc (.cells (cellsN .u8 32 fun _ => 0) 28)) := hb3.alloc hb3.size _)
                 (clear hh))
              | ((refine wpList_store_rowG rfl 28 _ _ rfl (w3.heap.size) (cellsN .u8 32 H) rfl rfl 28 _ hN3 (by rw [cellsN_size]; exact Tryd.size28) (by simp [cellsN_size]) (cellsN_one _ _ _) ?_)
                 (intro w6 hw6)
                 (have hR6 : Has w6 w3.heap.size 28 (cellsN .u8 32 H) := (by rw [hw6]; exact hN3.setRow _))
                 (have hb6 : Below wr.heap.size wr w6 := (by rw [hw6]; exact below_setRow hb4 hb3.size _))
                 (have own6 := own_below own hb6 (fun g hg => (own.lt g hg).2))
                 (have hbe6 : Below wo.heap.size wo w6 := hbel.trans (hb6.mono hbel.size))
                 (clear hw6 hb4 hN3 own))
              | ((at_builtin)
                 (refine wpList_append_bytes rfl _ _ rfl wo.heap.size _ (32 * q) (lvl d n (k + 1)) rfl own6 (some ⟨w3.heap.size, 0, none⟩) 32 32 H rfl (fun e => by cases e) hR6.bytes (by omega) (hbe6.size) ?_)
                 (intro v2 w2 own2 gr2)
                 (have hb2 : Below wo.heap.size wo w2 := hbe6.grown gr2 hbe6.size (fun k' h => (own6.lt k' h).1))
                 (rw [HH.out, lvl_more d n k q HT.out.2] at own2)
                 (clear gr2 own6)))
            go_roundw
            case rel =>
              obtain ⟨e1, e2⟩ := HT.out
              refine ⟨q + 1, by omega, congrArg _ (by omega), ?_, hb2⟩
              rw [show 32 * (q + 1) = 32 * q + 32 from by omega]
              exact own2
            case measure => have := HT.out; simp [intOf]; omega
          · obtain rfl : q = lv n k := by omega
            have HY : Hid (lv n (k + 1) = (lv n k + 1) / 2 ∧ off n (k + 1) = off n k + lv n (k + 1)) := ⟨rfl, rfl⟩
            obtain ⟨M, hM⟩ : ∃ M, M = 32 * lv n k := ⟨_, rfl⟩
            have hMb : M ≤ 65536 := by omega
            rw [← hLk2]
            have hoff := off_max n k h1 h2 (by omega)
            have fin : ∀ (nv : Value) (w1 : World), w1.ownsRow wo.heap.size 5 1 nv (64 * lv n (k + 1)) (bl (lvl d n (k + 1)) (64 * lv n (k + 1))) → Below wo.heap.size wo w1 → ∃ a1 c1 tv' w' A' C', nv = .slice a1 (64 * lv n (k + 1)) c1 ∧
                (∀ ty, (Builtin.append_ #[27, 27] ty #[u6, .slice a1 (64 * lv n (k + 1)) c1]).run Tryd.prog w1 = .ok tv' w') ∧ nv = .slice A' (64 * lv n (k + 1)) C' ∧ BO w w' d n (k + 1) tv' A' C' ∧ lenOf tv' = 64 * off n (k + 1) := by
              intro nv w1 own1 hbw1
              have hy := HY.out
              have hBO1 := hBO.below hbw1
              obtain ⟨a1, c1, rfl, e1, e2, e3, e4⟩ := own_bytes own1
              obtain ⟨tv', w', hr', own', gr', wh'⟩ := append_where w1 (w.heap.size + 1) u6 (64 * off n k) (tree d n k) hBO1.2.2.2.1 a1 (64 * lv n (k + 1)) c1 (lvl d n (k + 1)) e2 e3 (by omega) hBO1.2.2.2.2.2.1
              rw [show 64 * off n k + 64 * lv n (k + 1) = 64 * off n (k + 1) from by omega] at own'
              obtain ⟨A', C', e5, e6⟩ := hBO1.next hBO.2.2.2.2.2.1 own1 (fun g hg => (hBO.2.2.2.1.lt g hg).2) gr' own' wh'
              obtain ⟨ta, tc, rfl, _⟩ := own_bytes own'
              exact ⟨a1, c1, _, w', A', C', rfl, hr', e5, e6, rfl⟩
            have HFin : Hid _ := fin
            have HLen : Hid (lenOf u6 = 64 * off n k) := by obtain ⟨ta, tc, rfl, _⟩ := own_bytes hBO.2.2.2.1; exact (rfl : _ = _)
            clear fin
            rcases Nat.mod_two_eq_zero_or_one (lv n k) with hpar | hpar
            · have hm : (M : Int) % 64 = 0 := by omega
              have hMe : 32 * lv n k = 64 * lv n (k + 1) := by have := HY.out; omega
              obtain ⟨a1, c1, tv', w', A', C', rfl, hr', e5, hBO', hlen'⟩ := HFin.out _ wr (hMe ▸ own) hbel
              rw [← hMe, ← hM] at hr' ⊢
              have HE : Hid (A' = a1 ∧ C' = c1) := by injection e5 with x1 _ x3; exact ⟨x1.symm, x3.symm⟩
              have HM : Hid (M = 32 * lv n k ∧ 32 * lv n k = 64 * lv n (k + 1)) := ⟨hM, hMe⟩
              clear hM hMe hpar own hbel hBO2 hLk2 hlt e5 hq0 hoff hkd
              go_wp2_with (first
                | ((at_builtin)
                   (refine wpList_append_at rfl _ _ _ _ rfl _ _ rfl rfl tv' hr' ?_)))
              go_roundw
              case rel =>
                obtain ⟨rfl, rfl⟩ := HE.out
                have := HM.out
                exact ⟨k + 1, A', C', HK.out, rfl, congrArg (fun z => Value.slice A' z C') (by omega), hBO'⟩
              case measure =>
                have e1 := off_lt n k h1 HK.out
                have e2 := HLen.out
                show 64 * off n (dep n) - lenOf tv' < 64 * off n (dep n) - lenOf u6
                omega
            · have hm : ¬ ((M : Int) % 64 = 0) := by omega
              have hMe : 32 * lv n k + 32 = 64 * lv n (k + 1) := by have := HY.out; omega
              obtain ⟨nv1, w1, hr1, own1, gr1⟩ := run_append_noughts wr wo.heap.size _ (32 * lv n k) (lvl d n (k + 1)) own 32 (by omega) hbel.size
              rw [lvl_fill d n k, hMe] at own1
              have hb1 : Below wo.heap.size wo w1 := hbel.grown gr1 hbel.size (fun k' h => (own.lt k' h).1)
              obtain ⟨a1, c1, tv', w', A', C', rfl, hr', e5, hBO', hlen'⟩ := HFin.out _ w1 own1 hb1
              obtain ⟨va, vc, rfl, _⟩ := own_bytes own
              obtain ⟨M2, hM2⟩ : ∃ M2, M2 = 64 * lv n (k + 1) := ⟨_, rfl⟩
              rw [← hM] at hr1 ⊢
              rw [← hM2] at hr' hr1
              have HE : Hid (A' = a1 ∧ C' = c1) := by injection e5 with x1 _ x3; exact ⟨x1.symm, x3.symm⟩
              have HM : Hid (M2 = 64 * lv n (k + 1)) := hM2
              clear hM hMe hpar own hbel hBO2 hLk2 hlt e5 hq0 hoff hkd hM2 own1 hb1 gr1
              go_wp2_with (first
                | ((at_builtin)
                   (refine wpList_append_at rfl _ _ _ _ rfl _ _ rfl rfl _ hr1 ?_))
                | ((at_builtin)
                   (refine wpList_append_at rfl _ _ _ _ rfl _ _ rfl rfl tv' hr' ?_)))
              go_roundw
              case rel =>
                obtain ⟨rfl, rfl⟩ := HE.out
                have := HM.out
                exact ⟨k + 1, A', C', HK.out, rfl, congrArg (fun z => Value.slice A' z C') (by omega), hBO'⟩
              case measure =>
                have e1 := off_lt n k h1 HK.out
                have e2 := HLen.out
                show 64 * off n (dep n) - lenOf tv' < 64 * off n (dep n) - lenOf u6
                omega
      · have hkd : kd k = 1 := by unfold kd; rw [if_neg h0]
        have h64 : (64 : Int) < Lk := by have := lv_two n k (by omega) hlt0; omega
        rw [hkd, show ((1 : Nat) : Int) = 1 from rfl]
        clear hlt0 hLk
        go_wp2
        rename World => wo
        go_loopw [9, 10] (fun nv at_ wr2 => ∃ q : Nat, q ≤ lv n k ∧ at_ = .int .i64 ((64 * q : Nat) : Int) ∧ wr2.ownsRow wo.heap.size 5 1 nv (32 * q) (bl (lvl d n (k + 1)) (32 * q)) ∧ Below wo.heap.size wo wr2)
          (fun _ at_ _ => 64 * lv n k - (intOf at_).toNat)
        case atStart => exact ⟨0, Nat.zero_le _, rfl, World.ownsRow_nil _ _ _ _, Below.refl _ _⟩
        case round =>
          obtain ⟨q, hq0, rfl, own, hbel⟩ := hrel
          have hBO2 := hBO.below hbel
          have hLk2 := HLk.out
          by_cases hlt : q < lv n k
          · obtain ⟨b, o, rfl, hcell⟩ : ∃ b o, A = some ⟨b, o, none⟩ ∧ Bytes wr (some ⟨b, o, none⟩) (64 * lv n k) (lvl d n k) := by
              rcases hBO2.2.1 with h | ⟨b, o, rfl, h⟩
              · omega
              · exact ⟨b, o, rfl, hBO2.2.1⟩
            have hsec := hcell.part (64 * q) 64 (by omega)
            have hlo : ∀ j, (fun j => lvl d n k (64 * q + j)) j < 256 := fun j => lvl_lt d n hd k _
            have hh := rhash_any 1 _ _ (C - 64 * q) wr (by decide) hsec hlo (by omega)
            obtain ⟨t, ht⟩ : ∃ t, t = 64 * q := ⟨_, rfl⟩
            obtain ⟨H, hH⟩ : ∃ H, H = hsh 1 (fun j => lvl d n k (64 * q + j)) := ⟨_, rfl⟩
            have HH : Hid (H = hsh (kd k) (sec (lvl d n k) q)) := by rw [hH, hkd]; exact (rfl : _ = _)
            have HT : Hid (t = 64 * q ∧ q < lv n k) := ⟨ht, hlt⟩
            have hHlt : ∀ j, H j < 256 := fun j => by rw [hH]; exact hsh_lt _ _ j
            have hq1 : 32 * q ≤ 1000000 := by omega
            rw [← hH] at hh
            rw [← ht] at hh ⊢
            have ht1 : t + 64 ≤ Lk := by omega
            have hC2 : t + 64 ≤ C := by omega
            have htb : t ≤ 131072 := by omega
            have ht1i : (t : Int) + 64 ≤ Lk := by omega
            have htl : (t : Int) < Lk := by omega
            clear hH hlt ht hsec hcell hLk2 hkd
            go_wp2_with (first
              | ((go_at_call 26)
                 (refine hh.mono ?_)
                 (rintro e w3 ⟨rfl, hb3⟩)
                 (have hN3 : Has (w3.alloc (.cells (cellsN .u8 32 fun _ => 0) 28)) w3.heap.size 28 (cellsN .u8 32 fun _ => 0) := Has.new _ _ _)
                 (have hb4 : Below wr.heap.size wr (w3.alloc (.cells (cellsN .u8 32 fun _ => 0) 28)) := hb3.alloc hb3.size _)
                 (clear hh))
              | ((refine wpList_store_rowG rfl 28 _ _ rfl (w3.heap.size) (cellsN .u8 32 H) rfl rfl 28 _ hN3 (by rw [cellsN_size]; exact Tryd.size28) (by simp [cellsN_size]) (cellsN_one _ _ _) ?_)
                 (intro w6 hw6)
                 (have hR6 : Has w6 w3.heap.size 28 (cellsN .u8 32 H) := (by rw [hw6]; exact hN3.setRow _))
                 (have hb6 : Below wr.heap.size wr w6 := (by rw [hw6]; exact below_setRow hb4 hb3.size _))
                 (have own6 := own_below own hb6 (fun g hg => (own.lt g hg).2))
                 (have hbe6 : Below wo.heap.size wo w6 := hbel.trans (hb6.mono hbel.size))
                 (clear hw6 hb4 hN3 own))
              | ((at_builtin)
                 (refine wpList_append_bytes rfl _ _ rfl wo.heap.size _ (32 * q) (lvl d n (k + 1)) rfl own6 (some ⟨w3.heap.size, 0, none⟩) 32 32 H rfl (fun e => by cases e) hR6.bytes (by omega) (hbe6.size) ?_)
                 (intro v2 w2 own2 gr2)
                 (have hb2 : Below wo.heap.size wo w2 := hbe6.grown gr2 hbe6.size (fun k' h => (own6.lt k' h).1))
                 (rw [HH.out, lvl_more d n k q HT.out.2] at own2)
                 (clear gr2 own6)))
            go_roundw
            case rel =>
              obtain ⟨e1, e2⟩ := HT.out
              refine ⟨q + 1, by omega, congrArg _ (by omega), ?_, hb2⟩
              rw [show 32 * (q + 1) = 32 * q + 32 from by omega]
              exact own2
            case measure => have := HT.out; simp [intOf]; omega
          · obtain rfl : q = lv n k := by omega
            have HY : Hid (lv n (k + 1) = (lv n k + 1) / 2 ∧ off n (k + 1) = off n k + lv n (k + 1)) := ⟨rfl, rfl⟩
            obtain ⟨M, hM⟩ : ∃ M, M = 32 * lv n k := ⟨_, rfl⟩
            have hMb : M ≤ 65536 := by omega
            rw [← hLk2]
            have hoff := off_max n k h1 h2 (by omega)
            have fin : ∀ (nv : Value) (w1 : World), w1.ownsRow wo.heap.size 5 1 nv (64 * lv n (k + 1)) (bl (lvl d n (k + 1)) (64 * lv n (k + 1))) → Below wo.heap.size wo w1 → ∃ a1 c1 tv' w' A' C', nv = .slice a1 (64 * lv n (k + 1)) c1 ∧
                (∀ ty, (Builtin.append_ #[27, 27] ty #[u6, .slice a1 (64 * lv n (k + 1)) c1]).run Tryd.prog w1 = .ok tv' w') ∧ nv = .slice A' (64 * lv n (k + 1)) C' ∧ BO w w' d n (k + 1) tv' A' C' ∧ lenOf tv' = 64 * off n (k + 1) := by
              intro nv w1 own1 hbw1
              have hy := HY.out
              have hBO1 := hBO.below hbw1
              obtain ⟨a1, c1, rfl, e1, e2, e3, e4⟩ := own_bytes own1
              obtain ⟨tv', w', hr', own', gr', wh'⟩ := append_where w1 (w.heap.size + 1) u6 (64 * off n k) (tree d n k) hBO1.2.2.2.1 a1 (64 * lv n (k + 1)) c1 (lvl d n (k + 1)) e2 e3 (by omega) hBO1.2.2.2.2.2.1
              rw [show 64 * off n k + 64 * lv n (k + 1) = 64 * off n (k + 1) from by omega] at own'
              obtain ⟨A', C', e5, e6⟩ := hBO1.next hBO.2.2.2.2.2.1 own1 (fun g hg => (hBO.2.2.2.1.lt g hg).2) gr' own' wh'
              obtain ⟨ta, tc, rfl, _⟩ := own_bytes own'
              exact ⟨a1, c1, _, w', A', C', rfl, hr', e5, e6, rfl⟩
            have HFin : Hid _ := fin
            have HLen : Hid (lenOf u6 = 64 * off n k) := by obtain ⟨ta, tc, rfl, _⟩ := own_bytes hBO.2.2.2.1; exact (rfl : _ = _)
            clear fin
            rcases Nat.mod_two_eq_zero_or_one (lv n k) with hpar | hpar
            · have hm : (M : Int) % 64 = 0 := by omega
              have hMe : 32 * lv n k = 64 * lv n (k + 1) := by have := HY.out; omega
              obtain ⟨a1, c1, tv', w', A', C', rfl, hr', e5, hBO', hlen'⟩ := HFin.out _ wr (hMe ▸ own) hbel
              rw [← hMe, ← hM] at hr' ⊢
              have HE : Hid (A' = a1 ∧ C' = c1) := by injection e5 with x1 _ x3; exact ⟨x1.symm, x3.symm⟩
              have HM : Hid (M = 32 * lv n k ∧ 32 * lv n k = 64 * lv n (k + 1)) := ⟨hM, hMe⟩
              clear hM hMe hpar own hbel hBO2 hLk2 hlt e5 hq0 hoff hkd
              go_wp2_with (first
                | ((at_builtin)
                   (refine wpList_append_at rfl _ _ _ _ rfl _ _ rfl rfl tv' hr' ?_)))
              go_roundw
              case rel =>
                obtain ⟨rfl, rfl⟩ := HE.out
                have := HM.out
                exact ⟨k + 1, A', C', HK.out, rfl, congrArg (fun z => Value.slice A' z C') (by omega), hBO'⟩
              case measure =>
                have e1 := off_lt n k h1 HK.out
                have e2 := HLen.out
                show 64 * off n (dep n) - lenOf tv' < 64 * off n (dep n) - lenOf u6
                omega
            · have hm : ¬ ((M : Int) % 64 = 0) := by omega
              have hMe : 32 * lv n k + 32 = 64 * lv n (k + 1) := by have := HY.out; omega
              obtain ⟨nv1, w1, hr1, own1, gr1⟩ := run_append_noughts wr wo.heap.size _ (32 * lv n k) (lvl d n (k + 1)) own 32 (by omega) hbel.size
              rw [lvl_fill d n k, hMe] at own1
              have hb1 : Below wo.heap.size wo w1 := hbel.grown gr1 hbel.size (fun k' h => (own.lt k' h).1)
              obtain ⟨a1, c1, tv', w', A', C', rfl, hr', e5, hBO', hlen'⟩ := HFin.out _ w1 own1 hb1
              obtain ⟨va, vc, rfl, _⟩ := own_bytes own
              obtain ⟨M2, hM2⟩ : ∃ M2, M2 = 64 * lv n (k + 1) := ⟨_, rfl⟩
              rw [← hM] at hr1 ⊢
              rw [← hM2] at hr' hr1
              have HE : Hid (A' = a1 ∧ C' = c1) := by injection e5 with x1 _ x3; exact ⟨x1.symm, x3.symm⟩
              have HM : Hid (M2 = 64 * lv n (k + 1)) := hM2
              clear hM hMe hpar own hbel hBO2 hLk2 hlt e5 hq0 hoff hkd hM2 own1 hb1 gr1
              go_wp2_with (first
                | ((at_builtin)
                   (refine wpList_append_at rfl _ _ _ _ rfl _ _ rfl rfl _ hr1 ?_))
                | ((at_builtin)
                   (refine wpList_append_at rfl _ _ _ _ rfl _ _ rfl rfl tv' hr' ?_)))
              go_roundw
              case rel =>
                obtain ⟨rfl, rfl⟩ := HE.out
                have := HM.out
                exact ⟨k + 1, A', C', HK.out, rfl, congrArg (fun z => Value.slice A' z C') (by omega), hBO'⟩
              case measure =>
                have e1 := off_lt n k h1 HK.out
                have e2 := HLen.out
                show 64 * off n (dep n) - lenOf tv' < 64 * off n (dep n) - lenOf u6
                omega
    · obtain rfl : k = dep n := by omega
      have hp := dep_pos n
      have hkd : kd (dep n) = 1 := by unfold kd; rw [if_neg (by omega)]
      obtain rfl : Lk = 64 := by rw [hLk, lv_dep n h1]
      have hlev := hBO.2.1
      rw [lv_dep n h1] at hlev
      have hh := rhash_any 1 _ A C wr (by decide) hlev (lvl_lt d n hd _) hC
      obtain ⟨H, hH⟩ : ∃ H, H = hsh 1 (lvl d n (dep n)) := ⟨_, rfl⟩
      have HH : Hid (H = root d n) := hH
      rw [← hH] at hh
      obtain ⟨ta, tc, rfl, hB1, hB2, hB3, hB5⟩ := own_bytes hBO.2.2.2.1
      have hR := hBO.2.2.2.2.1
      have hbw := hBO.2.2.2.2.2.2
      obtain ⟨T, hT⟩ : ∃ T, T = 64 * off n (dep n) := ⟨_, rfl⟩
      have HT : Hid (T = 64 * off n (dep n)) := hT
      rw [← hT] at hB1 hB2 hB3
      rw [← hT] at ⊢
      rw [hkd, show ((1 : Nat) : Int) = 1 from rfl]
      clear hLk hBO hkd hH hlev hT
      go_wp2_with (first
        | ((go_at_call 26)
           (refine hh.mono ?_)
           (rintro e w3 ⟨rfl, hb3⟩)
           (have hR3 := hR.below hb3 hR.lt)
           (have hbw3 := hbw.trans (hb3.mono hbw.size))
           (have hB4 := hB3.below hb3 (Nat.le_refl _)))
        | ((refine wpList_store_rowG rfl 28 _ _ rfl (w.heap.size) (cellsN .u8 32 H) rfl rfl 28 _ hR3 (by rw [cellsN_size]; exact Tryd.size28) (by simp [cellsN_size]) (cellsN_one _ _ _) ?_)
           (intro w6 hw6)
           (have hR6 : Has w6 w.heap.size 28 (cellsN .u8 32 H) := (by rw [hw6]; exact hR3.setRow _))
           (have hB6 : Below w.heap.size w w6 := (by rw [hw6]; exact below_setRow hbw3 (Nat.le_refl _) _))
           (have hT6 : Bytes w6 ta T (tree d n (dep n)) := (by rw [hw6]; exact hB4.setRow _ _ (fun b o e => by have := (hB5 b o e).1; omega)))
           (clear hw6)))
      refine bodyPost_ret (results_mix rfl _ _ (w.heap.size) 28 _ (0, 0) 32 5 rfl hR6 Tryd.underlying28 (by rw [cellsN_size]; exact Tryd.size28)) rfl ?_
      rw [← HT.out, ← HH.out]
      exact ⟨ta, tc, rfl, hB1, hB2, hT6, hB6⟩
end Go.Proofs.YtoeanaadlihkeaaDoor
