/- Texts that the statements of this stage share, joined: ObRefSum, JrReadM, JnForm. -/
import Derived.Test.YtoiaclmfljoomaaDoorJoint04
import Derived.Test.YtoiaclmfljoomaaDoorJoint05
import Derived.BigRegion
import Derived.Test.YtoiaclmfljoomaaDoorJoint03

/- The reference's Sum. -/
namespace Go.Proofs.YtoiaclmfljoomaaDoor
open Go.ChangeShapes Go.WideShapes Go.ChangeAt Go.RowKit
set_option linter.unusedVariables false

theorem Hc_lt' : ∀ j, j < 8 → Hc j < 4294967296 := by
  intro j hj
  rcases (show j = 0 ∨ j = 1 ∨ j = 2 ∨ j = 3 ∨ j = 4 ∨ j = 5 ∨ j = 6 ∨ j = 7 from by omega) with rfl | rfl | rfl | rfl | rfl | rfl | rfl | rfl <;> decide

theorem ch2_eq (e f g : Nat) (he : e < 4294967296) (hf : f < 4294967296) (hg : g < 4294967296) :
    bits .xor .u32 (bits .and .u32 (e : Int) (f : Int)) (bits .and .u32 (bits .xor .u32 (e : Int) 4294967295) (g : Int)) = ((ch e f g : Nat) : Int) := by
  have h := ch_eq e f g he hf hg
  have h0 : (if IntKind.u32.signed = true then -1 else IntKind.u32.max) = ((4294967295 : Nat) : Int) := by simp [IntKind.signed, IntKind.max, IntKind.bits]
  rw [h0, u32_xor_nat _ _ (by decide) he, Nat.xor_comm, ← u32_xor_nat _ _ he (by decide)] at h
  exact h

theorem but_has {g k t : Nat} {w w' : World} {cs : Array Value} (h : But g w w') (hk : Has w k t cs) (hne : k ≠ g) : Has w' k t cs := (h.2.2.2.2 k hk.lt hne).trans hk

theorem but_but {g g' : Nat} {a b c : World} (h : But g a b) (h' : But g' b c) (hg : a.heap.size ≤ g') : But g a c :=
  ⟨h'.1.trans h.1, h'.2.1.trans h.2.1, h'.2.2.1.trans h.2.2.1, Nat.le_trans h.2.2.2.1 h'.2.2.2.1, fun k hk hne => (h'.2.2.2.2 k (Nat.lt_of_lt_of_le hk h.2.2.2.1) (by omega)).trans (h.2.2.2.2 k hk hne)⟩

theorem t3_lt (i j k : Nat) {x : Nat} (h : x < 4294967296) : turn3 i j k x < 4294967296 := xor_lt (xor_lt (rotr_lt _ _ h) (rotr_lt _ _ h)) (rotr_lt _ _ h)
theorem ch_lt {e f g : Nat} (he : e < 4294967296) (hf : f < 4294967296) (hg : g < 4294967296) : ch e f g < 4294967296 := xor_lt (and_lt he) (and_lt (by omega))
theorem maj_lt {a b c : Nat} (ha : a < 4294967296) (hb : b < 4294967296) (hc : c < 4294967296) : maj a b c < 4294967296 := xor_lt (xor_lt (and_lt ha) (and_lt ha)) (and_lt hb)
theorem Kc_lt' : ∀ j, j < 64 → Kc j < 4294967296 := by
  intro j hj
  have : ∀ j : Fin 64, Kc j.val < 4294967296 := by decide +kernel
  exact this ⟨j, hj⟩

theorem part_all (f : Nat → Nat) (n : Nat) (k : IntKind) : cellsN k n (part f n) = cellsN k n f := cellsN_congr k n _ _ (fun j hj => by simp [part, hj])

set_option maxRecDepth 100000 in
set_option maxHeartbeats 3200000 in
theorem rsum_any (m : Nat → Nat) (n c : Nat) (a : Option Addr) (w : World) (hnil : a = none → n = 0 ∧ c = 0) (hb : Bytes w a n m) (hm : ∀ j, m j < 256) (hn : n ≤ 140737488355000) (hc : n ≤ c) :
    Calls Tryd.prog 75 #[.slice a n c] w fun e w' => e = .returned (.agg (cellsN .u8 32 (SHA Hc Kc m n))) ∧ Below w.heap.size w w' := by
  go_enter Tryd.func75, Tryd.ntmps75
  go_wp2
  go_loopw [4] (fun i wr => ∃ k : Nat, k ≤ 8 ∧ i = .int .i64 k ∧ Has wr w.heap.size 108 (cellsN .u8 32 fun _ => 0) ∧ Has wr (w.heap.size + 1) 142 (cellsN .u32 8 (part Hc k)) ∧ wr.heap.size = w.heap.size + 2 ∧ Below w.heap.size w wr)
    (fun i _ => 8 - (intOf i).toNat)
  case atStart =>
    refine ⟨0, Nat.zero_le _, rfl, ?_, ?_, by simp, ((Below.refl _ _).alloc (Nat.le_refl _) _).alloc (by simp) _⟩
    · exact (Has.new w _ _).alloc _
    · exact Has.new_at (by simp)
  case round =>
    obtain ⟨k, hk, rfl, hR, hS, hsz, hbel⟩ := hrel
    by_cases hlt : k < 8
    · have hce := hS.num k hlt
      have hfz := hS.free k
      have i0 : (k : Int) < 8 := by omega
      go_wp2_with (first
        | (go_at_call 100; refine (rnum_any _ sqC 64 k _ ⟨by kernel_rfl, by decide +kernel⟩ (by decide) (by omega)).mono ?_; rintro e w1 ⟨rfl, rfl⟩))
      go_roundw
      case rel =>
        have hS' := hS.set k (Hc k)
        rw [part_next] at hS'
        rw [sq_num k hlt]
        exact ⟨k + 1, by omega, by go_num, hR.other (by show w.heap.size ≠ w.heap.size + 1; omega) _, hS', by simp [World.setCell, hsz], hbel.setCell (by show w.heap.size ≤ w.heap.size + 1; omega) _⟩
      case measure => simp [intOf]; omega
    · obtain rfl : k = 8 := by omega
      rw [part_all] at hS
      rw [show ((8 : Nat) : Int) = 8 from rfl]
      go_wp2
      go_loopw [6] (fun i wr' => ∃ k : Nat, k ≤ 64 ∧ i = .int .i64 k ∧ Has wr' w.heap.size 108 (cellsN .u8 32 fun _ => 0) ∧ Has wr' (w.heap.size + 1) 142 (cellsN .u32 8 Hc) ∧ Has wr' (w.heap.size + 2) 144 (cellsN .u32 64 (part Kc k)) ∧ Below w.heap.size w wr')
        (fun i _ => 64 - (intOf i).toNat)
      case atStart =>
        refine ⟨0, Nat.zero_le _, rfl, hR.alloc _, hS.alloc _, Has.new_at hsz.symm, hbel.alloc hbel.size _⟩
      case round =>
        clear hR hS hsz hbel
        obtain ⟨k, hk, rfl, hR, hS, hK, hbel⟩ := hrel
        by_cases hlt : k < 64
        · have hce := hK.num k hlt
          have hfz := hK.free k
          have i0 : (k : Int) < 64 := by omega
          go_wp2_with (first
            | (go_at_call 100; refine (rnum_any _ cbC 512 k _ ⟨by kernel_rfl, by decide +kernel⟩ (by decide) (by omega)).mono ?_; rintro e w1 ⟨rfl, rfl⟩))
          go_roundw
          case rel =>
            have hK' := hK.set k (Kc k)
            rw [part_next] at hK'
            rw [cb_num k hlt]
            exact ⟨k + 1, by omega, by go_num, hR.other (by show w.heap.size ≠ w.heap.size + 2; omega) _, hS.other (by show w.heap.size + 1 ≠ w.heap.size + 2; omega) _, hK', hbel.setCell (by show w.heap.size ≤ w.heap.size + 2; omega) _⟩
          case measure => simp [intOf]; omega
        · obtain rfl : k = 64 := by omega
          rw [part_all] at hK
          rw [show ((64 : Nat) : Int) = 64 from rfl]
          have hpd := rpad_any m n c a wr hnil (hb.below hbel (Nat.le_refl _)) hn hc
          go_wp2_with (first
            | ((go_at_call 101)
               (refine hpd.mono ?_)
               (rintro e w2 ⟨v2, rfl, own2, hb2⟩)
               (have hR2 := hR.below hb2 hR.lt)
               (have hS2 := hS.below hb2 hS.lt)
               (have hK2 := hK.below hb2 hK.lt)
               (have hB2 : Below w.heap.size w w2 := hbel.trans (hb2.mono hbel.size))
               (have hlk := hK.lt)
               (clear hpd hb2 hR hS hK hbel)))
          obtain ⟨Q, hQ⟩ : ∃ Q, n + plen n = 64 * Q := ⟨(n + plen n) / 64, by rw [plen_zs]; unfold zs; omega⟩
          have hQ1 : 1 ≤ Q := by rw [plen_zs] at hQ; omega
          have hQb : 64 * Q ≤ 140737488355200 := by rw [← hQ, plen_zs]; unfold zs; omega
          rw [hQ] at own2
          obtain ⟨gp, vc, rfl, hvc, hgb, hgl⟩ : ∃ g vc, v2 = .slice (some ⟨g, 0, none⟩) (64 * Q) vc ∧ 64 * Q ≤ vc ∧ wr.heap.size ≤ g ∧ g < w2.heap.size := by
            rcases own2.2 with ⟨_, h0⟩ | ⟨g, cap, cur, rfl, hbg, hgg, hn, _⟩
            · omega
            · exact ⟨g, cap, rfl, hn, hbg, (Array.getElem?_eq_some_iff.1 hgg).1⟩
          have hcl : ∀ j, j < 64 * Q → w2.cell? ⟨gp, j, none⟩ = some (.int .u8 (padm m n j : Nat)) := fun j hj => by rw [own2.cellAt j (by omega)]; exact bl_get _ _ j hj
          have HSH : Hid (SHA Hc Kc m n = dig (stAt Hc Kc (padm m n) Q)) := (by show SHA Hc Kc m n = _; unfold SHA; rw [hQ, Nat.mul_div_cancel_left Q (by decide)])
          have hpm := padm_lt m n hm
          obtain ⟨M, hM⟩ : ∃ M, M = padm m n := ⟨_, rfl⟩
          rw [← hM] at hcl hpm
          have HM' : Hid (M = padm m n) := hM
          clear own2 hb hnil hQ hM
          go_loopw [8] (fun i wr => ∃ q : Nat, q ≤ Q ∧ i = .int .i64 ((64 * q : Nat) : Int) ∧ Has wr (w.heap.size + 1) 142 (cellsN .u32 8 (stAt Hc Kc M q)) ∧ But (w.heap.size + 1) w2 wr)
            (fun i _ => 64 * Q - (intOf i).toNat)
          case atStart => exact ⟨0, Nat.zero_le _, rfl, hS2, But.refl _ _⟩
          case round =>
            clear hS2
            obtain ⟨q, hq, rfl, hS, hbut⟩ := hrel
            have hR := hbut.2.2.2.2 w.heap.size hR2.lt (by omega)
            have hK := hbut.2.2.2.2 (w.heap.size + 2) hK2.lt (by omega)
            have hbel : Below w.heap.size w wr := hB2.trans (hbut.below (Nat.le_succ _) hB2.size)
            by_cases hlt : q < Q
            · obtain ⟨at_, hat⟩ : ∃ x, x = 64 * q := ⟨_, rfl⟩
              have hcw : ∀ j, j < 64 → wr.cell? ⟨gp, at_ + j, none⟩ = some (.int .u8 (M (at_ + j) : Nat)) := fun j hj => (hbut.cell (p := ⟨gp, at_ + j, none⟩) hgl (by show gp ≠ w.heap.size + 1; omega)).trans (hcl _ (by omega))
              have hwd := words_low (fun j => M (at_ + j)) gp at_ (vc - at_) wr (by omega) (fun j => hpm _) (Nat.lt_of_lt_of_le hgl hbut.2.2.2.1) hcw
              rw [← hat]
              have i0 : (at_ : Int) < ((64 * Q : Nat) : Int) := by omega
              have i1 : (0 : Int) ≤ (at_ : Int) := by omega
              have i2 : (at_ : Int) + 64 ≤ (vc : Int) := by omega
              have i3 : ¬ (vc = at_) := by omega
              have i4 : (at_ : Int) ≤ (at_ : Int) + 64 := by omega
              have wr1 : IntKind.i64.wrap ((at_ : Int) + 64) = (at_ : Int) + 64 := by rw [IntKind.wrap_i64]; omega
              have t1 : ((at_ : Int) + 64).toNat = at_ + 64 := by omega
              have HAT : Hid (at_ = 64 * q) := hat
              have hpml := hpm
              clear hcl hcw hpm hat
              go_wp2_with (first
                | ((go_at_call 102)
                   (refine hwd.mono ?_)
                   (rintro e w3 ⟨v3, rfl, own3, hb3⟩)
                   (have hS3 := hS.below hb3 hS.lt)
                   (have hbut3 : But (w.heap.size + 1) w2 w3 := hbut.trans (But.of_below hb3 (Nat.le_refl _)))
                   (have hn3 : Has (w3.alloc (.cells (cellsN .u32 8 fun _ => 0) 142)) w3.heap.size 142 (cellsN .u32 8 fun _ => 0) := Has.new _ _ _)
                   (clear hwd))
                | (refine wpList_load_row rfl 142 _ rfl (w.heap.size + 1) rfl 142 _ (0, 0) _ hS3 Tryd.underlying142 rfl (by rw [cellsN_size]; exact Tryd.size142) ?_)
                | ((refine wpList_store_rowG rfl 142 _ _ rfl (w3.heap.size) (cellsN .u32 8 (stAt Hc Kc M q)) rfl rfl 142 _ hn3 (by rw [cellsN_size]; exact Tryd.size142) (by simp [cellsN_size]) (cellsN_one _ _ _) ?_)
                   (intro w4 hw4)
                   (have hX4 : Has w4 w3.heap.size 142 (cellsN .u32 8 (stAt Hc Kc M q)) := (by rw [hw4]; exact hn3.setRow _))
                   (have hB4 : Below w3.heap.size w3 w4 := (by rw [hw4]; exact below_setRow ((Below.refl _ _).alloc (Nat.le_refl _) _) (Nat.le_refl _) _))
                   (have hS4 := hS3.below hB4 hS3.lt)
                   (have own4 : w4.ownsRow wr.heap.size 141 1 v3 64 (wl (sched fun j => M (at_ + j)) 64) := (by
                      refine ⟨own3.1, ?_⟩
                      rcases own3.2 with h0 | ⟨g, cap, cur, hv, h1, hg, r⟩
                      · exact .inl h0
                      · exact .inr ⟨g, cap, cur, hv, h1, (hB4.block g (Array.getElem?_eq_some_iff.1 hg).1).trans hg, r⟩))
                   (have hbut4 : But (w.heap.size + 1) w2 w4 := hbut3.trans (But.of_below hB4 (Nat.le_refl _)))
                   (have hgw : ∀ g, Value.ownBlock v3 = some g → g < w3.heap.size := (fun g hg => (own3.lt g hg).2))
                   (clear hw4 hn3 hS3 own3 hbut3)))
              obtain ⟨gw, vcw, rfl, hgw1, hgw2⟩ : ∃ g vc, v3 = .slice (some ⟨g, 0, none⟩) 64 vc ∧ wr.heap.size ≤ g ∧ g < w3.heap.size := by
                rcases own4.2 with ⟨_, h0⟩ | ⟨g, cap, cur, rfl, hbg, hgg, hn, _⟩
                · omega
                · exact ⟨g, cap, rfl, hbg, hgw g rfl⟩
              obtain ⟨W, hW⟩ : ∃ W, W = sched fun j => M (at_ + j) := ⟨_, rfl⟩
              obtain ⟨st, hst⟩ : ∃ st, st = stAt Hc Kc M q := ⟨_, rfl⟩
              rw [← hW] at own4
              rw [← hst] at hX4 hS4
              have hwc : ∀ j, j < 64 → w4.cell? ⟨gw, j, none⟩ = some (.int .u32 (W j : Nat)) := fun j hj => by rw [own4.cellAt j (by omega)]; exact wl_get _ _ j hj
              have hstl : ∀ j, j < 8 → st j < 4294967296 := fun j hj => by rw [hst]; exact stAt_lt Hc Kc M Hc_lt' q j hj
              have hK4 := but_has hbut4 hK2 (by omega)
              have hgx : w.heap.size + 2 < w3.heap.size := by have := hb3.size; have := hbut.2.2.2.1; have := hK2.lt; omega
              have HW : Hid (W = sched fun j => M (at_ + j)) := hW
              have HST : Hid (st = stAt Hc Kc M q) := hst
              clear own4 hW hst
              obtain ⟨gx, hgxe⟩ : ∃ g, g = w3.heap.size := ⟨_, rfl⟩
              rw [← hgxe] at hX4 hgx hgw2 ⊢
              have hgx4 : gx ≤ w4.heap.size := by rw [hgxe]; exact hB4.size
              have hg2x : w2.heap.size ≤ gx := by rw [hgxe]; exact Nat.le_trans hbut.2.2.2.1 hb3.size
              clear hgxe
              have hWl : ∀ j, W j < 4294967296 := fun j => by rw [HW.out]; exact sched_lt _ (fun j _ => by have := hpml (at_ + j); exact this) j
              have hKl := Kc_lt'
              go_loopw [11] (fun i w5 => ∃ k : Nat, k ≤ 64 ∧ i = .int .i64 k ∧ Has w5 gx 142 (cellsN .u32 8 (rnds Kc W st k)) ∧ But gx w4 w5)
                (fun i _ => 64 - (intOf i).toNat)
              case atStart => exact ⟨0, Nat.zero_le _, rfl, hX4, But.refl _ _⟩
              case round =>
                clear hX4
                obtain ⟨k, hk, rfl, hX, hbx⟩ := hrel
                by_cases hltk : k < 64
                · obtain ⟨s, hs⟩ : ∃ s, s = rnds Kc W st k := ⟨_, rfl⟩
                  have hsl := rnds_lt Kc W st hstl k
                  rw [← hs] at hX hsl
                  have x0 := hsl 0 (by omega)
                  have x1 := hsl 1 (by omega)
                  have x2 := hsl 2 (by omega)
                  have x3 := hsl 3 (by omega)
                  have x4 := hsl 4 (by omega)
                  have x5 := hsl 5 (by omega)
                  have x6 := hsl 6 (by omega)
                  have x7 := hsl 7 (by omega)
                  have c0 := hX.num 0 (by omega)
                  have c1 := hX.num 1 (by omega)
                  have c2 := hX.num 2 (by omega)
                  have c3 := hX.num 3 (by omega)
                  have c4 := hX.num 4 (by omega)
                  have c5 := hX.num 5 (by omega)
                  have c6 := hX.num 6 (by omega)
                  have c7 := hX.num 7 (by omega)
                  have i1k : (k : Int) < 64 := by omega
                  have i0k : (0 : Int) ≤ (k : Int) := by omega
                  have kc := (but_has hbx hK4 (by omega)).num k hltk
                  have hgw4 : gw < w4.heap.size := by omega
                  have wc := (hbx.cell (p := ⟨gw, k, none⟩) hgw4 (by show gw ≠ gx; omega)).trans (hwc k hltk)
                  have HS : Hid (s = rnds Kc W st k) := hs
                  have HWC : Hid _ := hwc
                  clear hs hwc hsl hstl
                  -- rounds
                  go_wp2_with fail
                  refine wp_region_held_drew (S := fun w' => w' = wr.drew) (by kernel_rfl) rfl (fun hHeld => ?_)
                  refine takeTo 0 (some 58) (.pointer (some ⟨gx, 0 + 7, none⟩)) rfl rfl (by kernel_rfl) (by kernel_rfl) (by kernel_rfl) (fun _ _ _ h => h) (by rfl) (fun wz _ => run_indexA 142 _ _ rfl gx 0 7 8 141 rfl rfl Tryd.underlying142 one_u32 (by omega) wz) hHeld ?_
                  simp only [Act.put, List.setIfInBounds_toArray, List.set_cons_zero, List.set_cons_succ]
                  refine takeTo 1 (some 59) (.int .u32 ((s 7 : Nat) : Int)) rfl rfl (by kernel_rfl) (by kernel_rfl) (by kernel_rfl) (fun _ _ _ h => h) (by rfl) (fun wz hz => run_load_u32 _ rfl gx (0 + 7) rfl _ wz (by rw [hz]; exact Has.num (w := wr.drew) hX 7 (by omega))) hHeld ?_
                  simp only [Act.put, List.setIfInBounds_toArray, List.set_cons_zero, List.set_cons_succ]
                  refine takeTo 2 (some 60) (.int .u32 ((s 4 : Nat) : Int)) rfl rfl (by kernel_rfl) (by kernel_rfl) (by kernel_rfl) (fun _ _ _ h => h) (by rfl) (fun _ _ => rfl) hHeld ?_
                  simp only [Act.put, List.setIfInBounds_toArray, List.set_cons_zero, List.set_cons_succ]
                  refine takeTo 4 (some 62) (.int .u32 ((s 4 : Nat) : Int)) rfl rfl (by kernel_rfl) (by kernel_rfl) (by kernel_rfl) (fun _ _ _ h => h) (by rfl) (fun _ _ => rfl) hHeld ?_
                  simp only [Act.put, List.setIfInBounds_toArray, List.set_cons_zero, List.set_cons_succ]
                  refine takeTo 7 (some 65) (.int .u32 ((s 4 : Nat) : Int)) rfl rfl (by kernel_rfl) (by kernel_rfl) (by kernel_rfl) (fun _ _ _ h => h) (by rfl) (fun _ _ => rfl) hHeld ?_
                  simp only [Act.put, List.setIfInBounds_toArray, List.set_cons_zero, List.set_cons_succ]
                  refine takeTo 11 (some 69) (.int .u32 ((s 4 : Nat) : Int)) rfl rfl (by kernel_rfl) (by kernel_rfl) (by kernel_rfl) (fun _ _ _ h => h) (by rfl) (fun _ _ => rfl) hHeld ?_
                  simp only [Act.put, List.setIfInBounds_toArray, List.set_cons_zero, List.set_cons_succ]
                  refine takeTo 12 (some 70) (.pointer (some ⟨gx, 0 + 5, none⟩)) rfl rfl (by kernel_rfl) (by kernel_rfl) (by kernel_rfl) (fun _ _ _ h => h) (by rfl) (fun wz _ => run_indexA 142 _ _ rfl gx 0 5 8 141 rfl rfl Tryd.underlying142 one_u32 (by omega) wz) hHeld ?_
                  simp only [Act.put, List.setIfInBounds_toArray, List.set_cons_zero, List.set_cons_succ]
                  refine takeTo 13 (some 71) (.int .u32 ((s 5 : Nat) : Int)) rfl rfl (by kernel_rfl) (by kernel_rfl) (by kernel_rfl) (fun _ _ _ h => h) (by rfl) (fun wz hz => run_load_u32 _ rfl gx (0 + 5) rfl _ wz (by rw [hz]; exact Has.num (w := wr.drew) hX 5 (by omega))) hHeld ?_
                  simp only [Act.put, List.setIfInBounds_toArray, List.set_cons_zero, List.set_cons_succ]
                  refine takeTo 14 (some 72) (.int .u32 ((s 4 &&& s 5 : Nat) : Int)) rfl rfl (by kernel_rfl) (by kernel_rfl) (by kernel_rfl) (fun _ _ _ h => h) (by rfl) (fun wz _ => run_and32 _ _ rfl (s 4) (s 5) rfl rfl (x4) (x5) wz) hHeld ?_
                  simp only [Act.put, List.setIfInBounds_toArray, List.set_cons_zero, List.set_cons_succ]
                  refine takeTo 15 (some 73) (.int .u32 ((s 4 : Nat) : Int)) rfl rfl (by kernel_rfl) (by kernel_rfl) (by kernel_rfl) (fun _ _ _ h => h) (by rfl) (fun _ _ => rfl) hHeld ?_
                  simp only [Act.put, List.setIfInBounds_toArray, List.set_cons_zero, List.set_cons_succ]
                  refine takeTo 16 (some 74) (.int .u32 ((4294967295 - s 4 : Nat) : Int)) rfl rfl (by kernel_rfl) (by kernel_rfl) (by kernel_rfl) (fun _ _ _ h => h) (by rfl) (fun wz _ => run_not32 _ rfl (s 4) rfl x4 wz) hHeld ?_
                  simp only [Act.put, List.setIfInBounds_toArray, List.set_cons_zero, List.set_cons_succ]
                  refine takeTo 17 (some 75) (.pointer (some ⟨gx, 0 + 6, none⟩)) rfl rfl (by kernel_rfl) (by kernel_rfl) (by kernel_rfl) (fun _ _ _ h => h) (by rfl) (fun wz _ => run_indexA 142 _ _ rfl gx 0 6 8 141 rfl rfl Tryd.underlying142 one_u32 (by omega) wz) hHeld ?_
                  simp only [Act.put, List.setIfInBounds_toArray, List.set_cons_zero, List.set_cons_succ]
                  refine takeTo 18 (some 76) (.int .u32 ((s 6 : Nat) : Int)) rfl rfl (by kernel_rfl) (by kernel_rfl) (by kernel_rfl) (fun _ _ _ h => h) (by rfl) (fun wz hz => run_load_u32 _ rfl gx (0 + 6) rfl _ wz (by rw [hz]; exact Has.num (w := wr.drew) hX 6 (by omega))) hHeld ?_
                  simp only [Act.put, List.setIfInBounds_toArray, List.set_cons_zero, List.set_cons_succ]
                  refine takeTo 19 (some 77) (.int .u32 (((4294967295 - s 4) &&& s 6 : Nat) : Int)) rfl rfl (by kernel_rfl) (by kernel_rfl) (by kernel_rfl) (fun _ _ _ h => h) (by rfl) (fun wz _ => run_and32 _ _ rfl (4294967295 - s 4) (s 6) rfl rfl (by omega) (x6) wz) hHeld ?_
                  simp only [Act.put, List.setIfInBounds_toArray, List.set_cons_zero, List.set_cons_succ]
                  refine takeTo 20 (some 78) (.int .u32 ((ch (s 4) (s 5) (s 6) : Nat) : Int)) rfl rfl (by kernel_rfl) (by kernel_rfl) (by kernel_rfl) (fun _ _ _ h => h) (by rfl) (fun wz _ => run_xor32 _ _ rfl (s 4 &&& s 5) ((4294967295 - s 4) &&& s 6) rfl rfl (and_lt x4) (and_lt (by omega)) wz) hHeld ?_
                  simp only [Act.put, List.setIfInBounds_toArray, List.set_cons_zero, List.set_cons_succ]
                  refine takeTo 22 (some 80) (.int .i64 (k : Int)) rfl rfl (by kernel_rfl) (by kernel_rfl) (by kernel_rfl) (fun _ _ _ h => h) (by rfl) (fun _ _ => rfl) hHeld ?_
                  simp only [Act.put, List.setIfInBounds_toArray, List.set_cons_zero, List.set_cons_succ]
                  refine takeTo 23 (some 81) (.pointer (some ⟨w.heap.size + 2, 0 + k, none⟩)) rfl rfl (by kernel_rfl) (by kernel_rfl) (by kernel_rfl) (fun _ _ _ h => h) (by rfl) (fun wz _ => run_indexA 144 _ _ rfl (w.heap.size + 2) 0 k 64 141 rfl rfl Tryd.underlying144 one_u32 hltk wz) hHeld ?_
                  simp only [Act.put, List.setIfInBounds_toArray, List.set_cons_zero, List.set_cons_succ]
                  refine takeTo 24 (some 82) (.int .u32 ((Kc k : Nat) : Int)) rfl rfl (by kernel_rfl) (by kernel_rfl) (by kernel_rfl) (fun _ _ _ h => h) (by rfl) (fun wz hz => run_load_u32 _ rfl (w.heap.size + 2) (0 + k) rfl _ wz (by rw [hz, Nat.zero_add]; exact kc)) hHeld ?_
                  simp only [Act.put, List.setIfInBounds_toArray, List.set_cons_zero, List.set_cons_succ]
                  refine takeTo 26 (some 84) (.slice (some ⟨gw, 0, none⟩) 64 vcw) rfl rfl (by kernel_rfl) (by kernel_rfl) (by kernel_rfl) (fun _ _ _ h => h) (by rfl) (fun _ _ => rfl) hHeld ?_
                  simp only [Act.put, List.setIfInBounds_toArray, List.set_cons_zero, List.set_cons_succ]
                  refine takeTo 27 (some 85) (.int .i64 (k : Int)) rfl rfl (by kernel_rfl) (by kernel_rfl) (by kernel_rfl) (fun _ _ _ h => h) (by rfl) (fun _ _ => rfl) hHeld ?_
                  simp only [Act.put, List.setIfInBounds_toArray, List.set_cons_zero, List.set_cons_succ]
                  refine takeTo 28 (some 86) (.pointer (some ⟨gw, 0 + k, none⟩)) rfl rfl (by kernel_rfl) (by kernel_rfl) (by kernel_rfl) (fun _ _ _ h => h) (by rfl) (fun wz _ => run_indexS 145 _ _ rfl gw 0 k 64 vcw 141 rfl rfl Tryd.underlying145 one_u32 hltk wz) hHeld ?_
                  simp only [Act.put, List.setIfInBounds_toArray, List.set_cons_zero, List.set_cons_succ]
                  refine takeTo 29 (some 87) (.int .u32 ((W k : Nat) : Int)) rfl rfl (by kernel_rfl) (by kernel_rfl) (by kernel_rfl) (fun _ _ _ h => h) (by rfl) (fun wz hz => run_load_u32 _ rfl gw (0 + k) rfl _ wz (by rw [hz, Nat.zero_add]; exact wc)) hHeld ?_
                  simp only [Act.put, List.setIfInBounds_toArray, List.set_cons_zero, List.set_cons_succ]
                  refine callTo 3 (some 61) 103 #[.int .u32 ((s 4 : Nat) : Int), .int .u32 6] (by kernel_rfl) rfl rfl (by rfl) (by kernel_rfl) (rturn_any (s 4) 6 _ x4 (by omega) (by omega)) ?_
                  rintro e w' ⟨rfl, rfl⟩
                  refine ⟨_, rfl, rfl, ?_⟩
                  simp only [Act.put, List.setIfInBounds_toArray, List.set_cons_zero, List.set_cons_succ]
                  refine callTo 5 (some 63) 103 #[.int .u32 ((s 4 : Nat) : Int), .int .u32 11] (by kernel_rfl) rfl rfl (by rfl) (by kernel_rfl) (rturn_any (s 4) 11 _ x4 (by omega) (by omega)) ?_
                  rintro e w' ⟨rfl, rfl⟩
                  refine ⟨_, rfl, rfl, ?_⟩
                  simp only [Act.put, List.setIfInBounds_toArray, List.set_cons_zero, List.set_cons_succ]
                  refine takeTo 6 (some 64) (.int .u32 ((rotr 6 (s 4) ^^^ rotr 11 (s 4) : Nat) : Int)) rfl rfl (by kernel_rfl) (by kernel_rfl) (by kernel_rfl) (fun _ _ _ h => h) (by rfl) (fun wz _ => run_xor32 _ _ rfl (rotr 6 (s 4)) (rotr 11 (s 4)) rfl rfl (rotr_lt _ _ x4) (rotr_lt _ _ x4) wz) hHeld ?_
                  simp only [Act.put, List.setIfInBounds_toArray, List.set_cons_zero, List.set_cons_succ]
                  refine callTo 8 (some 66) 103 #[.int .u32 ((s 4 : Nat) : Int), .int .u32 25] (by kernel_rfl) rfl rfl (by rfl) (by kernel_rfl) (rturn_any (s 4) 25 _ x4 (by omega) (by omega)) ?_
                  rintro e w' ⟨rfl, rfl⟩
                  refine ⟨_, rfl, rfl, ?_⟩
                  simp only [Act.put, List.setIfInBounds_toArray, List.set_cons_zero, List.set_cons_succ]
                  refine takeTo 9 (some 67) (.int .u32 ((turn3 6 11 25 (s 4) : Nat) : Int)) rfl rfl (by kernel_rfl) (by kernel_rfl) (by kernel_rfl) (fun _ _ _ h => h) (by rfl) (fun wz _ => run_xor32 _ _ rfl (rotr 6 (s 4) ^^^ rotr 11 (s 4)) (rotr 25 (s 4)) rfl rfl (xor_lt (rotr_lt _ _ x4) (rotr_lt _ _ x4)) (rotr_lt _ _ x4) wz) hHeld ?_
                  simp only [Act.put, List.setIfInBounds_toArray, List.set_cons_zero, List.set_cons_succ]
                  refine takeTo 10 (some 68) (.int .u32 ((add32 (s 7) (turn3 6 11 25 (s 4)) : Nat) : Int)) rfl rfl (by kernel_rfl) (by kernel_rfl) (by kernel_rfl) (fun _ _ _ h => h) (by rfl) (fun wz _ => run_add32 _ _ rfl (s 7) (turn3 6 11 25 (s 4)) rfl rfl (x7) (t3_lt _ _ _ x4) wz) hHeld ?_
                  simp only [Act.put, List.setIfInBounds_toArray, List.set_cons_zero, List.set_cons_succ]
                  refine takeTo 21 (some 79) (.int .u32 ((add32 (add32 (s 7) (turn3 6 11 25 (s 4))) (ch (s 4) (s 5) (s 6)) : Nat) : Int)) rfl rfl (by kernel_rfl) (by kernel_rfl) (by kernel_rfl) (fun _ _ _ h => h) (by rfl) (fun wz _ => run_add32 _ _ rfl (add32 (s 7) (turn3 6 11 25 (s 4))) (ch (s 4) (s 5) (s 6)) rfl rfl (add32_lt _ _) (ch_lt x4 x5 x6) wz) hHeld ?_
                  simp only [Act.put, List.setIfInBounds_toArray, List.set_cons_zero, List.set_cons_succ]
                  refine takeTo 25 (some 83) (.int .u32 ((add32 (add32 (add32 (s 7) (turn3 6 11 25 (s 4))) (ch (s 4) (s 5) (s 6))) (Kc k) : Nat) : Int)) rfl rfl (by kernel_rfl) (by kernel_rfl) (by kernel_rfl) (fun _ _ _ h => h) (by rfl) (fun wz _ => run_add32 _ _ rfl (add32 (add32 (s 7) (turn3 6 11 25 (s 4))) (ch (s 4) (s 5) (s 6))) (Kc k) rfl rfl (add32_lt _ _) (hKl k hltk) wz) hHeld ?_
                  simp only [Act.put, List.setIfInBounds_toArray, List.set_cons_zero, List.set_cons_succ]
                  refine takeTo 30 (some 88) (.int .u32 ((rnd1 Kc W s k : Nat) : Int)) rfl rfl (by kernel_rfl) (by kernel_rfl) (by kernel_rfl) (fun _ _ _ h => h) (by rfl) (fun wz _ => run_add32 _ _ rfl (add32 (add32 (add32 (s 7) (turn3 6 11 25 (s 4))) (ch (s 4) (s 5) (s 6))) (Kc k)) (W k) rfl rfl (add32_lt _ _) (hWl k) wz) hHeld ?_
                  simp only [Act.put, List.setIfInBounds_toArray, List.set_cons_zero, List.set_cons_succ]
                  refine takeTo 31 (some 14) (.int .u32 ((rnd1 Kc W s k : Nat) : Int)) rfl rfl (by kernel_rfl) (by kernel_rfl) (by kernel_rfl) (fun _ _ _ h => h) (by rfl) (fun _ _ => rfl) hHeld ?_
                  simp only [Act.put, List.setIfInBounds_toArray, List.set_cons_zero, List.set_cons_succ]
                  refine wpAnyH_done (by kernel_rfl) ?_ _
                  clear hHeld
                  go_wp2_with fail
                  refine wp_region_held_drew (S := fun w' => w' = wr.drew.drew) (by kernel_rfl) rfl (fun hHeld => ?_)
                  refine takeTo 0 (some 89) (.int .u32 ((s 0 : Nat) : Int)) rfl rfl (by kernel_rfl) (by kernel_rfl) (by kernel_rfl) (fun _ _ _ h => h) (by rfl) (fun _ _ => rfl) hHeld ?_
                  simp only [Act.put, List.setIfInBounds_toArray, List.set_cons_zero, List.set_cons_succ]
                  refine takeTo 2 (some 91) (.int .u32 ((s 0 : Nat) : Int)) rfl rfl (by kernel_rfl) (by kernel_rfl) (by kernel_rfl) (fun _ _ _ h => h) (by rfl) (fun _ _ => rfl) hHeld ?_
                  simp only [Act.put, List.setIfInBounds_toArray, List.set_cons_zero, List.set_cons_succ]
                  refine takeTo 5 (some 94) (.int .u32 ((s 0 : Nat) : Int)) rfl rfl (by kernel_rfl) (by kernel_rfl) (by kernel_rfl) (fun _ _ _ h => h) (by rfl) (fun _ _ => rfl) hHeld ?_
                  simp only [Act.put, List.setIfInBounds_toArray, List.set_cons_zero, List.set_cons_succ]
                  refine takeTo 8 (some 97) (.int .u32 ((s 0 : Nat) : Int)) rfl rfl (by kernel_rfl) (by kernel_rfl) (by kernel_rfl) (fun _ _ _ h => h) (by rfl) (fun _ _ => rfl) hHeld ?_
                  simp only [Act.put, List.setIfInBounds_toArray, List.set_cons_zero, List.set_cons_succ]
                  refine takeTo 9 (some 98) (.pointer (some ⟨gx, 0 + 1, none⟩)) rfl rfl (by kernel_rfl) (by kernel_rfl) (by kernel_rfl) (fun _ _ _ h => h) (by rfl) (fun wz _ => run_indexA 142 _ _ rfl gx 0 1 8 141 rfl rfl Tryd.underlying142 one_u32 (by omega) wz) hHeld ?_
                  simp only [Act.put, List.setIfInBounds_toArray, List.set_cons_zero, List.set_cons_succ]
                  refine takeTo 10 (some 99) (.int .u32 ((s 1 : Nat) : Int)) rfl rfl (by kernel_rfl) (by kernel_rfl) (by kernel_rfl) (fun _ _ _ h => h) (by rfl) (fun wz hz => run_load_u32 _ rfl gx (0 + 1) rfl _ wz (by rw [hz]; exact Has.num (w := wr.drew.drew) hX 1 (by omega))) hHeld ?_
                  simp only [Act.put, List.setIfInBounds_toArray, List.set_cons_zero, List.set_cons_succ]
                  refine takeTo 11 (some 100) (.int .u32 ((s 0 &&& s 1 : Nat) : Int)) rfl rfl (by kernel_rfl) (by kernel_rfl) (by kernel_rfl) (fun _ _ _ h => h) (by rfl) (fun wz _ => run_and32 _ _ rfl (s 0) (s 1) rfl rfl (x0) (x1) wz) hHeld ?_
                  simp only [Act.put, List.setIfInBounds_toArray, List.set_cons_zero, List.set_cons_succ]
                  refine takeTo 12 (some 101) (.int .u32 ((s 0 : Nat) : Int)) rfl rfl (by kernel_rfl) (by kernel_rfl) (by kernel_rfl) (fun _ _ _ h => h) (by rfl) (fun _ _ => rfl) hHeld ?_
                  simp only [Act.put, List.setIfInBounds_toArray, List.set_cons_zero, List.set_cons_succ]
                  refine takeTo 13 (some 102) (.pointer (some ⟨gx, 0 + 2, none⟩)) rfl rfl (by kernel_rfl) (by kernel_rfl) (by kernel_rfl) (fun _ _ _ h => h) (by rfl) (fun wz _ => run_indexA 142 _ _ rfl gx 0 2 8 141 rfl rfl Tryd.underlying142 one_u32 (by omega) wz) hHeld ?_
                  simp only [Act.put, List.setIfInBounds_toArray, List.set_cons_zero, List.set_cons_succ]
                  refine takeTo 14 (some 103) (.int .u32 ((s 2 : Nat) : Int)) rfl rfl (by kernel_rfl) (by kernel_rfl) (by kernel_rfl) (fun _ _ _ h => h) (by rfl) (fun wz hz => run_load_u32 _ rfl gx (0 + 2) rfl _ wz (by rw [hz]; exact Has.num (w := wr.drew.drew) hX 2 (by omega))) hHeld ?_
                  simp only [Act.put, List.setIfInBounds_toArray, List.set_cons_zero, List.set_cons_succ]
                  refine takeTo 15 (some 104) (.int .u32 ((s 0 &&& s 2 : Nat) : Int)) rfl rfl (by kernel_rfl) (by kernel_rfl) (by kernel_rfl) (fun _ _ _ h => h) (by rfl) (fun wz _ => run_and32 _ _ rfl (s 0) (s 2) rfl rfl (x0) (x2) wz) hHeld ?_
                  simp only [Act.put, List.setIfInBounds_toArray, List.set_cons_zero, List.set_cons_succ]
                  refine takeTo 16 (some 105) (.int .u32 (((s 0 &&& s 1) ^^^ (s 0 &&& s 2) : Nat) : Int)) rfl rfl (by kernel_rfl) (by kernel_rfl) (by kernel_rfl) (fun _ _ _ h => h) (by rfl) (fun wz _ => run_xor32 _ _ rfl (s 0 &&& s 1) (s 0 &&& s 2) rfl rfl (and_lt x0) (and_lt x0) wz) hHeld ?_
                  simp only [Act.put, List.setIfInBounds_toArray, List.set_cons_zero, List.set_cons_succ]
                  refine takeTo 17 (some 106) (.pointer (some ⟨gx, 0 + 1, none⟩)) rfl rfl (by kernel_rfl) (by kernel_rfl) (by kernel_rfl) (fun _ _ _ h => h) (by rfl) (fun wz _ => run_indexA 142 _ _ rfl gx 0 1 8 141 rfl rfl Tryd.underlying142 one_u32 (by omega) wz) hHeld ?_
                  simp only [Act.put, List.setIfInBounds_toArray, List.set_cons_zero, List.set_cons_succ]
                  refine takeTo 18 (some 107) (.int .u32 ((s 1 : Nat) : Int)) rfl rfl (by kernel_rfl) (by kernel_rfl) (by kernel_rfl) (fun _ _ _ h => h) (by rfl) (fun wz hz => run_load_u32 _ rfl gx (0 + 1) rfl _ wz (by rw [hz]; exact Has.num (w := wr.drew.drew) hX 1 (by omega))) hHeld ?_
                  simp only [Act.put, List.setIfInBounds_toArray, List.set_cons_zero, List.set_cons_succ]
                  refine takeTo 19 (some 108) (.pointer (some ⟨gx, 0 + 2, none⟩)) rfl rfl (by kernel_rfl) (by kernel_rfl) (by kernel_rfl) (fun _ _ _ h => h) (by rfl) (fun wz _ => run_indexA 142 _ _ rfl gx 0 2 8 141 rfl rfl Tryd.underlying142 one_u32 (by omega) wz) hHeld ?_
                  simp only [Act.put, List.setIfInBounds_toArray, List.set_cons_zero, List.set_cons_succ]
                  refine takeTo 20 (some 109) (.int .u32 ((s 2 : Nat) : Int)) rfl rfl (by kernel_rfl) (by kernel_rfl) (by kernel_rfl) (fun _ _ _ h => h) (by rfl) (fun wz hz => run_load_u32 _ rfl gx (0 + 2) rfl _ wz (by rw [hz]; exact Has.num (w := wr.drew.drew) hX 2 (by omega))) hHeld ?_
                  simp only [Act.put, List.setIfInBounds_toArray, List.set_cons_zero, List.set_cons_succ]
                  refine takeTo 21 (some 110) (.int .u32 ((s 1 &&& s 2 : Nat) : Int)) rfl rfl (by kernel_rfl) (by kernel_rfl) (by kernel_rfl) (fun _ _ _ h => h) (by rfl) (fun wz _ => run_and32 _ _ rfl (s 1) (s 2) rfl rfl (x1) (x2) wz) hHeld ?_
                  simp only [Act.put, List.setIfInBounds_toArray, List.set_cons_zero, List.set_cons_succ]
                  refine takeTo 22 (some 111) (.int .u32 ((maj (s 0) (s 1) (s 2) : Nat) : Int)) rfl rfl (by kernel_rfl) (by kernel_rfl) (by kernel_rfl) (fun _ _ _ h => h) (by rfl) (fun wz _ => run_xor32 _ _ rfl ((s 0 &&& s 1) ^^^ (s 0 &&& s 2)) (s 1 &&& s 2) rfl rfl (xor_lt (and_lt x0) (and_lt x0)) (and_lt x1) wz) hHeld ?_
                  simp only [Act.put, List.setIfInBounds_toArray, List.set_cons_zero, List.set_cons_succ]
                  refine callTo 1 (some 90) 103 #[.int .u32 ((s 0 : Nat) : Int), .int .u32 2] (by kernel_rfl) rfl rfl (by rfl) (by kernel_rfl) (rturn_any (s 0) 2 _ x0 (by omega) (by omega)) ?_
                  rintro e w' ⟨rfl, rfl⟩
                  refine ⟨_, rfl, rfl, ?_⟩
                  simp only [Act.put, List.setIfInBounds_toArray, List.set_cons_zero, List.set_cons_succ]
                  refine callTo 3 (some 92) 103 #[.int .u32 ((s 0 : Nat) : Int), .int .u32 13] (by kernel_rfl) rfl rfl (by rfl) (by kernel_rfl) (rturn_any (s 0) 13 _ x0 (by omega) (by omega)) ?_
                  rintro e w' ⟨rfl, rfl⟩
                  refine ⟨_, rfl, rfl, ?_⟩
                  simp only [Act.put, List.setIfInBounds_toArray, List.set_cons_zero, List.set_cons_succ]
                  refine takeTo 4 (some 93) (.int .u32 ((rotr 2 (s 0) ^^^ rotr 13 (s 0) : Nat) : Int)) rfl rfl (by kernel_rfl) (by kernel_rfl) (by kernel_rfl) (fun _ _ _ h => h) (by rfl) (fun wz _ => run_xor32 _ _ rfl (rotr 2 (s 0)) (rotr 13 (s 0)) rfl rfl (rotr_lt _ _ x0) (rotr_lt _ _ x0) wz) hHeld ?_
                  simp only [Act.put, List.setIfInBounds_toArray, List.set_cons_zero, List.set_cons_succ]
                  refine callTo 6 (some 95) 103 #[.int .u32 ((s 0 : Nat) : Int), .int .u32 22] (by kernel_rfl) rfl rfl (by rfl) (by kernel_rfl) (rturn_any (s 0) 22 _ x0 (by omega) (by omega)) ?_
                  rintro e w' ⟨rfl, rfl⟩
                  refine ⟨_, rfl, rfl, ?_⟩
                  simp only [Act.put, List.setIfInBounds_toArray, List.set_cons_zero, List.set_cons_succ]
                  refine takeTo 7 (some 96) (.int .u32 ((turn3 2 13 22 (s 0) : Nat) : Int)) rfl rfl (by kernel_rfl) (by kernel_rfl) (by kernel_rfl) (fun _ _ _ h => h) (by rfl) (fun wz _ => run_xor32 _ _ rfl (rotr 2 (s 0) ^^^ rotr 13 (s 0)) (rotr 22 (s 0)) rfl rfl (xor_lt (rotr_lt _ _ x0) (rotr_lt _ _ x0)) (rotr_lt _ _ x0) wz) hHeld ?_
                  simp only [Act.put, List.setIfInBounds_toArray, List.set_cons_zero, List.set_cons_succ]
                  refine takeTo 23 (some 112) (.int .u32 ((rnd2 s : Nat) : Int)) rfl rfl (by kernel_rfl) (by kernel_rfl) (by kernel_rfl) (fun _ _ _ h => h) (by rfl) (fun wz _ => run_add32 _ _ rfl (turn3 2 13 22 (s 0)) (maj (s 0) (s 1) (s 2)) rfl rfl (t3_lt _ _ _ x0) (maj_lt x0 x1 x2) wz) hHeld ?_
                  simp only [Act.put, List.setIfInBounds_toArray, List.set_cons_zero, List.set_cons_succ]
                  refine takeTo 24 (some 15) (.int .u32 ((rnd2 s : Nat) : Int)) rfl rfl (by kernel_rfl) (by kernel_rfl) (by kernel_rfl) (fun _ _ _ h => h) (by rfl) (fun _ _ => rfl) hHeld ?_
                  simp only [Act.put, List.setIfInBounds_toArray, List.set_cons_zero, List.set_cons_succ]
                  refine wpAnyH_done (by kernel_rfl) ?_ _
                  clear hHeld
                  have hXd : Has wr.drew.drew gx 142 (cellsN .u32 8 s) := hX
                  have d1 := hXd.num 1 (by omega)
                  have d2 := hXd.num 2 (by omega)
                  have d3 := hXd.num 3 (by omega)
                  have d5 := hXd.num 5 (by omega)
                  have d6 := hXd.num 6 (by omega)
                  have y1 : rnd1 Kc W s k < 4294967296 := add32_lt _ _
                  have y2 : rnd2 s < 4294967296 := add32_lt _ _
                  obtain ⟨wq, hwq⟩ : ∃ x, x = wr.drew.drew := ⟨_, rfl⟩
                  rw [← hwq] at hXd d1 d2 d3 d5 d6 ⊢
                  have hbq : But gx w4 wq := by rw [hwq]; exact hbx
                  clear hwq hX hbx kc wc c0 c1 c2 c3 c4 c5 c6 c7
                  go_wp2_with (first
                    | (refine wpList_val (some 115) (.int .u32 ((add32 (rnd1 Kc W s k) (rnd2 s) : Nat) : Int)) rfl (by rfl) (run_add32 (.tmp 113) (.tmp 114) rfl (rnd1 Kc W s k) (rnd2 s) rfl rfl y1 y2 _) ?_)
                    | (refine wpList_val (some 124) (.int .u32 ((add32 (s 3) (rnd1 Kc W s k) : Nat) : Int)) rfl (by rfl) (run_add32 (.tmp 122) (.tmp 123) rfl (s 3) (rnd1 Kc W s k) rfl rfl x3 y1 _) ?_)
                    | (refine wpList_val (some 130) (.agg (cellsN .u32 8 (rnd Kc W s k))) rfl (by rfl) (run_build8 _ _ _ _ _ _ _ _ rfl (rnd Kc W s k) (by rw [rnd_0]; rfl) (by rw [rnd_i _ _ _ _ 1 (by decide) (by decide)]; rfl) (by rw [rnd_i _ _ _ _ 2 (by decide) (by decide)]; rfl) (by rw [rnd_i _ _ _ _ 3 (by decide) (by decide)]; rfl) (by rw [rnd_4]; rfl) (by rw [rnd_i _ _ _ _ 5 (by decide) (by decide)]; rfl) (by rw [rnd_i _ _ _ _ 6 (by decide) (by decide)]; rfl) (by rw [rnd_i _ _ _ _ 7 (by decide) (by decide)]; rfl) _) ?_)
                    | (refine wpList_store_rowG rfl 142 _ _ rfl gx (cellsN .u32 8 (rnd Kc W s k)) rfl rfl 142 _ hXd (by rw [cellsN_size]; exact Tryd.size142) (by simp [cellsN_size]) (cellsN_one _ _ _) ?_
                       intro w6 hw6
                       have hX6 : Has w6 gx 142 (cellsN .u32 8 (rnd Kc W s k)) := by rw [hw6]; exact hXd.setRow _
                       have hb6 : But gx w4 w6 := by rw [hw6]; exact hbq.setRow _
                       clear hw6 hXd hbq d1 d2 d3 d5 d6))
                  go_roundw
                  case rel =>
                    refine ⟨k + 1, by omega, by go_num, ?_, hb6⟩
                    rw [rnds_succ, ← HS.out]
                    exact hX6
                  case measure => simp [intOf]; omega
                · obtain rfl : k = 64 := by omega
                  rw [show ((64 : Nat) : Int) = 64 from rfl]
                  obtain ⟨R64, hR64⟩ : ∃ x, x = rnds Kc W st 64 := ⟨_, rfl⟩
                  have hrl : ∀ j, j < 8 → R64 j < 4294967296 := fun j hj => by rw [hR64]; exact rnds_lt Kc W st hstl 64 j hj
                  rw [← hR64] at hX
                  have HR64 : Hid (R64 = rnds Kc W st 64) := hR64
                  have hS5 := but_has hbx hS4 (by omega)
                  have hbut5 := but_but hbut4 hbx hg2x
                  clear hR64 hbx hwc
                  go_wp2
                  go_loopw [16] (fun i w7 => ∃ i' : Nat, i' ≤ 8 ∧ i = .int .i64 i' ∧ Has w7 (w.heap.size + 1) 142 (cellsN .u32 8 (upto st R64 i')) ∧ Has w7 gx 142 (cellsN .u32 8 R64) ∧ But (w.heap.size + 1) w2 w7)
                    (fun i _ => 8 - (intOf i).toNat)
                  case atStart => exact ⟨0, Nat.zero_le _, rfl, by rw [upto_zero]; exact hS5, hX, hbut5⟩
                  case round =>
                    clear hX hS5 hbut5
                    obtain ⟨i, hi8, rfl, hS6, hX6, hbut6⟩ := hrel
                    by_cases hlti : i < 8
                    · have c1 := hS6.num i hlti
                      rw [upto_at] at c1
                      have c2 := hX6.num i hlti
                      have f1 := hS6.free i
                      have i1 : (i : Int) < 8 := by omega
                      have i0' : (0 : Int) ≤ (i : Int) := by omega
                      have z1 := hstl i hlti
                      have z2 := hrl i hlti
                      go_wp2_with fail
                      go_region
                      rw [add_u32]
                      go_wp2
                      go_roundw
                      case rel =>
                        refine ⟨i + 1, by omega, by go_num, ?_, hX6.other (by show gx ≠ w.heap.size + 1; omega) _, hbut6.setCell _ _⟩
                        have := hS6.set i (add32 (st i) (R64 i))
                        rw [upto_next] at this
                        exact this
                      case measure => simp [intOf]; omega
                    · obtain rfl : i = 8 := by omega
                      rw [show ((8 : Nat) : Int) = 8 from rfl]
                      have hS7 : Has wr (w.heap.size + 1) 142 (cellsN .u32 8 (stAt Hc Kc M (q + 1))) := by
                        rw [cellsN_congr .u32 8 (stAt Hc Kc M (q + 1)) (upto st R64 8) (fun j hj => by
                          show nextSt Kc (stAt Hc Kc M q) (fun j => M (64 * q + j)) j = upto st R64 8 j
                          unfold nextSt upto
                          rw [if_pos hj, HR64.out, HW.out, ← HST.out, ← HAT.out])]
                        exact hS6
                      go_wp2
                      go_roundw
                      case rel =>
                        have hat := HAT.out
                        exact ⟨q + 1, by omega, by rw [hat]; go_num, hS7, hbut6⟩
                      case measure => simp [intOf]; omega
            · obtain rfl : q = Q := by omega
              obtain ⟨st, hst⟩ : ∃ st, st = stAt Hc Kc M q := ⟨_, rfl⟩
              have hstl : ∀ j, j < 8 → st j < 4294967296 := fun j hj => by rw [hst]; exact stAt_lt Hc Kc M Hc_lt' q j hj
              rw [← hst] at hS
              have HST : Hid (dig st = SHA Hc Kc m n) := (by show dig st = SHA Hc Kc m n; rw [HSH.out, hst, HM'.out])
              have hR' : Has wr w.heap.size 108 (cellsN .u8 32 fun _ => 0) := hR.trans hR2
              clear hst hK
              obtain ⟨gd, hgd⟩ : ∃ g, g = wr.heap.size := ⟨_, rfl⟩
              have hgd1 : w.heap.size + 1 < gd := by rw [hgd]; exact hS.lt
              have hE := Has.new_at (cs := cellsN .u8 32 fun _ => 0) (t := 108) hgd
              have i0 : ¬ ((64 * q : Nat) : Int) < ((64 * q : Nat) : Int) := by omega
              go_wp2
              rw [← hgd]
              go_loopw [18] (fun i w8 => ∃ k : Nat, k ≤ 32 ∧ i = .int .i64 k ∧ Has w8 (w.heap.size + 1) 142 (cellsN .u32 8 st) ∧ Has w8 w.heap.size 108 (cellsN .u8 32 fun _ => 0) ∧ Has w8 gd 108 (cellsN .u8 32 (part (dig st) k)) ∧ Below w.heap.size w w8)
                (fun i _ => 32 - (intOf i).toNat)
              case atStart => exact ⟨0, Nat.zero_le _, rfl, hS.alloc _, hR'.alloc _, hE, hbel.alloc hbel.size _⟩
              case round =>
                clear hS hR' hE hbel hgd
                obtain ⟨k, hk, rfl, hS, hR', hD, hbel⟩ := hrel
                by_cases hlt : k < 32
                · have hs := hS.num (k / 4) (by omega)
                  have hv := hstl (k / 4) (by omega)
                  have hc := hD.num k hlt
                  have hf := hD.free k
                  go_wp2
                  go_roundw
                  case rel =>
                    have e : ((st (k / 4) : Nat) : Int) / 2 ^ (24 - 8 * (k % 4)) % 256 = ((dig st k : Nat) : Int) := by unfold dig; rw [Int.natCast_emod, Int.natCast_ediv, Int.natCast_pow]; rfl
                    rw [e]
                    refine ⟨k + 1, by omega, by go_num, hS.other (by show w.heap.size + 1 ≠ gd; omega) _, hR'.other (by show w.heap.size ≠ gd; omega) _, ?_, hbel.setCell (by show w.heap.size ≤ gd; omega) _⟩
                    have := hD.set k (dig st k)
                    rw [part_next] at this
                    exact this
                  case measure => simp [intOf]; omega
                · obtain rfl : k = 32 := by omega
                  rw [part_all, HST.out] at hD
                  obtain ⟨X, hX⟩ : ∃ X, X = cellsN .u8 32 (SHA Hc Kc m n) := ⟨_, rfl⟩
                  have hXs : X.size = 32 := by rw [hX, cellsN_size]
                  have hX1 : X.all (·.oneCell') = true := by rw [hX]; exact cellsN_one _ _ _
                  rw [← hX] at hD
                  have HX : Hid (X = cellsN .u8 32 (SHA Hc Kc m n)) := hX
                  clear hX
                  have hN := hR'.setRow X
                  go_wp2_with (first
                    | (refine wpList_load_row rfl 108 _ rfl gd rfl 108 _ (0, 0) _ hD Tryd.underlying108 rfl (by rw [hXs]; exact Tryd.size108) ?_)
                    | (refine wpList_store_row rfl 108 _ _ rfl w.heap.size X rfl rfl 108 _ hR' (by rw [hXs]; exact Tryd.size108) (by rw [hXs, cellsN_size]) hX1 ?_))
                  exact bodyPost_ret (results_cell_row rfl _ _ w.heap.size 108 _ (0, 0) _ rfl hN Tryd.underlying108 rfl (by rw [hXs]; exact Tryd.size108)) rfl ⟨by rw [HX.out], below_setRow hbel (Nat.le_refl _) _⟩
end Go.Proofs.YtoiaclmfljoomaaDoor

/- The reference's Read: its list as it grows. -/
namespace Go.Proofs.YtoiaclmfljoomaaDoor
open Go.ChangeShapes Go.WideShapes Go.ChangeAt Go.RowKit
set_option linter.unusedVariables false

/-- A record's digest. -/
def dgS (L : Nat) (f : Nat → Nat) : Nat → Nat := SHA Hc Kc f L

theorem dgS_congr (L : Nat) (f g : Nat → Nat) (h : ∀ j, j < L → f j = g j) : dgS L f = dgS L g := SHA_congr Hc Kc f g L h

theorem dgS_lt (L : Nat) (f : Nat → Nat) (j : Nat) : dgS L f j < 256 := SHA_lt _ _ _ _ _

theorem cnt_vn (B : Nat → Nat) (p : Nat) : vn (fun j => B (p + j)) 4 = cntAt B p := by
  simp only [vn, cntAt, Nat.zero_mul, Nat.zero_add, Nat.add_zero]

/-- The cells of a list of slices. -/
def rcells (q : List (Nat × Nat)) (A : Nat → Option Addr) (Cc : Nat → Nat) : List Value := (List.range q.length).map fun i => .slice (A i) (q.getD i (0, 0)).2 (Cc i)

theorem rcells_len (q : List (Nat × Nat)) (A : Nat → Option Addr) (Cc : Nat → Nat) : (rcells q A Cc).length = q.length := by simp [rcells]

theorem rcells_snoc (q : List (Nat × Nat)) (x : Nat × Nat) (A A' : Nat → Option Addr) (Cc Cc' : Nat → Nat) (a : Option Addr) (c : Nat) (h : ∀ i, i < q.length → A' i = A i ∧ Cc' i = Cc i) (ha : A' q.length = a) (hc : Cc' q.length = c) : rcells (q ++ [x]) A' Cc' = rcells q A Cc ++ [.slice a x.2 c] := by
  unfold rcells
  rw [List.length_append, List.length_singleton, List.range_succ, List.map_append]
  congr 1
  · apply List.map_congr_left
    intro i hi
    have hi' : i < q.length := by simpa using hi
    obtain ⟨h1, h2⟩ := h i hi'
    rw [h1, h2, List.getD_eq_getElem?_getD, List.getD_eq_getElem?_getD, List.getElem?_append_left hi']
  · simp [ha, hc]

/-- What holds when the records q are read, up to T. -/
def RdInv (w : World) (B : Nat → Nat) (N : Nat) (T : Nat) (v : Value) (wr : World) : Prop := ∃ q A Cc, reads dgS B N 0 = (q ++ (reads dgS B N T).1, (reads dgS B N T).2) ∧ wr.ownsRow w.heap.size 33 1 v q.length (rcells q A Cc) ∧
  (∀ (i : Nat) x, q[i]? = some x → wr.ownsRow w.heap.size 5 1 (.slice (A i) x.2 (Cc i)) x.2 (bl (fun j => B (x.1 + 8 + j)) x.2)) ∧ Below w.heap.size w wr ∧ q.length ≤ T ∧ T ≤ N

/-- What Read leaves. -/
def RdR (w : World) (B : Nat → Nat) (N : Nat) (e : Ending) (w' : World) : Prop := Below w.heap.size w w' ∧ ∃ a c, e = .returned (.tuple #[.slice a (reads dgS B N 0).1.length c, .int .i64 ((reads dgS B N 0).2 : Nat)]) ∧ Rl w' a (recsOf B (reads dgS B N 0).1)

theorem RdInv.done {w wr : World} {B : Nat → Nat} {N T : Nat} {v : Value} (h : RdInv w B N T v wr) (hB : ∀ j, B j < 256) (hno : okAt dgS B N T = false) (hN : N ≤ 1000000) : (reads dgS B N 0).2 = T ∧ ∃ a c, v = .slice a (reads dgS B N 0).1.length c ∧ Rl wr a (recsOf B (reads dgS B N 0).1) := by
  obtain ⟨q, A, Cc, hr, ho, hd, _, hq, hT⟩ := h
  rw [reads_no hno, List.append_nil] at hr
  rw [hr]
  refine ⟨rfl, ?_⟩
  show ∃ a c, v = .slice a q.length c ∧ Rl wr a (recsOf B q)
  rcases ho.2 with ⟨rfl, h0⟩ | ⟨g, cap, cur, rfl, hb, hg, hn, hm, hsz, htk⟩
  · have : q = [] := List.eq_nil_of_length_eq_zero h0
    subst this
    exact ⟨none, 0, rfl, Rl.nil _ _⟩
  · refine ⟨some ⟨g, 0, none⟩, cap, rfl, by unfold recsOf maxLen; rw [List.length_map]; omega, fun i r hi => ?_⟩
    unfold recsOf at hi
    rw [List.getElem?_map] at hi
    cases hx : q[i]? with
    | none => rw [hx] at hi; cases hi
    | some x =>
      rw [hx] at hi
      obtain rfl : (⟨x.2, fun j => B (x.1 + 8 + j)⟩ : RC) = r := by simpa using hi
      have hil : i < q.length := (List.getElem?_eq_some_iff.1 hx).1
      obtain ⟨a', cap', e, hl, hnil, hy, _⟩ := own_bytes (hd i x hx)
      simp only [Value.slice.injEq] at e
      obtain ⟨rfl, _, rfl⟩ := e
      refine ⟨g, 0, A i, Cc i, rfl, (Array.getElem?_eq_some_iff.1 hg).1, ?_, hl, ?_, hnil, hy, fun j => hB _⟩
      · rw [cell_of_row wr g (0 + i) cur 33 (0, 0) hg, Nat.zero_add]
        have h3 : (rcells q A Cc)[i]? = some (.slice (A i) x.2 (Cc i)) := by
          unfold rcells
          rw [List.getElem?_map, List.getElem?_range hil]
          simp [List.getD, hx]
        rw [← htk, List.getElem?_take_of_lt (by omega), Array.getElem?_toList] at h3
        exact h3
      · have := (hd i x hx).1
        show x.2 ≤ maxLen
        rcases (hd i x hx).2 with ⟨h5, h6⟩ | ⟨g2, cap2, cur2, _, _, _, h6, h7, _⟩
        · rw [h6]
          exact Nat.zero_le _
        · exact Nat.le_trans h6 h7
end Go.Proofs.YtoiaclmfljoomaaDoor

/- journal: formed. -/
namespace Go.Proofs.YtoiaclmfljoomaaDoor
open Go.ChangeShapes Go.WideShapes Go.ChangeAt Go.RowKit
set_option linter.unusedVariables false

theorem bl_ext (f g : Nat → Nat) (n : Nat) (h : ∀ j, j < n → f j = g j) : bl f n = bl g n := by
  unfold bl
  apply List.map_congr_left
  intro j hj
  rw [h j (by simpa using hj)]

/-- The four pieces of a record. -/
def piL (L : Nat) : Nat → Nat := fun i => if i = 0 then 4 else if i = 1 then 4 else if i = 2 then L else jrnd L - L
def piF (L : Nat) (f : Nat → Nat) : Nat → Nat → Nat := fun i => if i = 0 then nbs (L : Nat) 4 else if i = 1 then dgS L f else if i = 2 then f else fun _ => 0

theorem pi_sum (L : Nat) : sumL (piL L) 4 = 8 + jrnd L := by
  have := jrnd_ge L
  show 0 + 4 + 4 + L + (jrnd L - L) = _
  omega

theorem nbs4 (L j : Nat) (hj : j < 4) : nbs (L : Nat) 4 j = L / 256 ^ (3 - j) % 256 := by
  unfold nbs byteAt
  rcases (show j = 0 ∨ j = 1 ∨ j = 2 ∨ j = 3 by omega) with rfl | rfl | rfl | rfl <;> simp only [Nat.reduceSub, Nat.reduceMul, Nat.reducePow, Int.reducePow] <;> omega

theorem pi_cat (L : Nat) (f : Nat → Nat) (j : Nat) (hj : j < 8 + jrnd L) : catS (piL L) (piF L f) 4 j = formF dgS ⟨L, f⟩ j := by
  show cat (cat (cat (cat (fun _ => 0) 0 (nbs (L : Nat) 4)) (0 + 4) (dgS L f)) (0 + 4 + 4) f) (0 + 4 + 4 + L) (fun _ => 0) j = _
  rw [cat_zero]
  unfold cat formF
  by_cases h1 : j < 4
  · rw [if_pos (by omega), if_pos (by omega), if_pos (by omega), if_pos h1]
    exact nbs4 L j h1
  · by_cases h2 : j < 8
    · rw [if_pos (by omega), if_pos (by omega), if_neg (by omega), if_neg h1, if_pos h2]
    · by_cases h3 : j < 8 + L
      · rw [if_pos (by omega), if_neg (by omega), if_neg h1, if_neg h2, if_pos h3]
      · rw [if_neg (by omega), if_neg h1, if_neg h2, if_neg h3]

theorem hold4 (L : Nat) (h : L ≤ 8192) : hold (L : Nat) (4 : Nat) = true := by
  unfold hold
  have e : ((8 : Int) * ((4 : Nat) : Int)).toNat = 32 := by decide
  rw [e]
  have : (L : Int) / 2 ^ 32 = 0 := by
    have : (2 : Int) ^ 32 = 4294967296 := by decide
    omega
  rw [this]
  rfl

theorem run_slice_dig {o : Oper} {a : Act} (x : Operand) (ho : o.op = .slice 108 x none (some (.const (.int .i64 4))) none) (g : Nat) (hx : a.eval x = .pointer (some ⟨g, 0, none⟩)) (w : World) : (execOp a.eval o).run Tryd.prog w = .ok (.value (.slice (some ⟨g, 0, none⟩) 4 32)) w := by
  unfold execOp
  simp only [ho, hx]
  kernel_rfl

theorem by_less9 {w : World} {a : Option Addr} {L L' : Nat} {b : Nat → Nat} (h : Bytes w a L b) (hL : L' ≤ L) : Bytes w a L' b := by
  rcases h with h0 | ⟨x, o, e, hx, hc⟩
  · exact .inl (by omega)
  · exact .inr ⟨x, o, e, hx, fun j hj => hc j (by omega)⟩

theorem own_mono {w : World} {b b' n : Nat} {v : Value} {xs : List Value} (h : w.ownsRow b 5 1 v n xs) (hb : b' ≤ b) : w.ownsRow b' 5 1 v n xs := by
  refine ⟨h.1, ?_⟩
  rcases h.2 with h0 | ⟨g, cap, cur, h1, h2, h3⟩
  · exact .inl h0
  · exact .inr ⟨g, cap, cur, h1, Nat.le_trans hb h2, h3⟩

theorem form_cat {w w1 w2 w3 w4 : World} {a : Option Addr} {L C Y : Nat} {f : Nat → Nat} (hb1 : Below w.heap.size w w1) (hb2 : Below w1.heap.size w1 w2) (hb3 : Below w2.heap.size w2 w3) (hb4 : Below w3.heap.size w3 w4)
    (ho1 : w1.ownsRow (w.heap.size + 2) 5 1 (.slice (some ⟨w.heap.size + 2, 0, none⟩) 4 4) 4 (bl (nbs (L : Nat) 4) 4)) (hH3 : Has w3 w2.heap.size 108 (cellsN .u8 32 (SHA Hc Kc f L))) (hH4 : Has w4 w3.heap.size 5 (cellsN .u8 Y fun _ => 0)) (hb : Bytes w a L f) (hY : Y = jrnd L - L) (hL : L ≤ 8192) (hna : a ≠ none) :
    Calls Tryd.prog 67 #[.slice (some ⟨w4.heap.size, 0, none⟩) 4 4] (w4.alloc (.cells #[.slice (some ⟨w.heap.size + 2, 0, none⟩) 4 4, .slice (some ⟨w2.heap.size, 0, none⟩) 4 32, .slice a L C, .slice (some ⟨w3.heap.size, 0, none⟩) Y Y] 33))
      fun e w' => Below w.heap.size w w' ∧ ∃ v, e = .returned v ∧ w'.ownsRow w.heap.size 5 1 v (8 + jrnd L) (bl (formF dgS ⟨L, f⟩) (8 + jrnd L)) := by
  obtain ⟨cs, hcs⟩ : ∃ cs : Array Value, cs = #[.slice (some ⟨w.heap.size + 2, 0, none⟩) 4 4, .slice (some ⟨w2.heap.size, 0, none⟩) 4 32, .slice a L C, .slice (some ⟨w3.heap.size, 0, none⟩) Y Y] := ⟨_, rfl⟩
  rw [← hcs]
  have hb5 : Below w4.heap.size w4 (w4.alloc (.cells cs 33)) := (Below.refl _ _).alloc (Nat.le_refl _) _
  have hb45 := hb4.trans (hb5.mono hb4.size)
  have hb35 := hb3.trans (hb45.mono hb3.size)
  have hb25 := hb2.trans (hb35.mono hb2.size)
  have hb15 := hb1.trans (hb25.mono hb1.size)
  have hs := pi_sum L
  have hjl := jrnd_lt L
  have hnew : Has (w4.alloc (.cells cs 33)) w4.heap.size 33 cs := Has.new _ _ _
  obtain ⟨a1, cap1, e1, _, _, hB1, _⟩ := own_bytes ho1
  cases e1
  have hc := concat_c 4 (fun i => if i = 0 then some ⟨w.heap.size + 2, 0, none⟩ else if i = 1 then some ⟨w2.heap.size, 0, none⟩ else if i = 2 then a else some ⟨w3.heap.size, 0, none⟩) (piL L) (fun i => if i = 0 then 4 else if i = 1 then 32 else if i = 2 then C else Y) (piF L f) (w4.alloc (.cells cs 33)) w4.heap.size 4 (by decide) hnew.lt
    (fun i hi => by
      rw [hnew.cell, hcs]
      rcases (show i = 0 ∨ i = 1 ∨ i = 2 ∨ i = 3 by omega) with rfl | rfl | rfl | rfl
      · rfl
      · rfl
      · rfl
      · rw [hY]; rfl)
    (fun i hi => by
      rcases (show i = 0 ∨ i = 1 ∨ i = 2 ∨ i = 3 by omega) with rfl | rfl | rfl | rfl
      · exact hB1.below hb25 (Nat.le_refl _)
      · exact by_less9 (hH3.bytes.below hb45 (Nat.le_refl _)) (show 4 ≤ 32 by decide)
      · exact hb.below hb15 (Nat.le_refl _)
      · have := hH4.bytes.below hb5 (Nat.le_refl _)
        rw [hY] at this
        exact this)
    (fun i hi => by
      rcases (show i = 0 ∨ i = 1 ∨ i = 2 ∨ i = 3 by omega) with rfl | rfl | rfl | rfl
      · intro e; cases e
      · intro e; cases e
      · intro e; exact absurd e hna
      · intro e; cases e)
    (by rw [hs]; omega)
  rw [hs, bl_ext _ _ _ (pi_cat L f)] at hc
  refine hc.mono ?_
  rintro e w' ⟨hb', v, rfl, ho⟩
  exact ⟨hb15.trans (hb'.mono hb15.size), v, rfl, own_mono ho hb15.size⟩

set_option maxRecDepth 100000 in
set_option maxHeartbeats 1000000 in
theorem formed_c {w : World} {a : Option Addr} {L C : Nat} {f : Nat → Nat} (hG : Glob Hc Kc w) (h1 : 1 ≤ L) (hL : L ≤ 8192) (hc : L ≤ C) (hb : Bytes w a L f) (hf : ∀ j, f j < 256) :
    Calls Tryd.prog 43 #[.slice a L C] w fun e w' => Below w.heap.size w w' ∧ ∃ v, e = .returned v ∧ w'.ownsRow w.heap.size 5 1 v (8 + jrnd L) (bl (formF dgS ⟨L, f⟩) (8 + jrnd L)) := by
  have hna : a ≠ none := by
    intro e
    rcases hb with h | ⟨b, o, h, _⟩
    · omega
    · rw [e] at h; cases h
  have hp := put_s 4 (L : Nat) w (by decide) (by decide) (hold4 L hL)
  have hjr := jrnd_ge L
  have hjl := jrnd_lt L
  have i1 : (L : Int) ≤ 8192 := by omega
  have i2 : (0 : Int) ≤ (L : Int) := by omega
  obtain ⟨Y, hY⟩ : ∃ Y, Y = jrnd L - L := ⟨_, rfl⟩
  have HY : Hid (8 + jrnd L = 8 + L + Y) := by show 8 + jrnd L = 8 + L + Y; omega
  have hY2 : Y < 8 := by omega
  have HY3 : Hid (Y = jrnd L - L) := hY
  have e9 : 8 + (L : Int) + (Y : Int) - 8 - (L : Int) = (Y : Int) := by omega
  clear hjr hjl hY
  go_enter Tryd.func43, Tryd.ntmps43
  go_wp2_with (first
    | ((go_at_call 65)
       (refine hp.mono ?_)
       (rintro e w1 ⟨rfl, ho1, hb1⟩)
       (have hsm := sum_any C (hG.below hb1 hG.1) Hc_lt' hf hc (by omega) (hb.below hb1 (Nat.le_refl _)))
       (clear hp))
    | ((go_at_call 66)
       (refine hsm.mono ?_)
       (rintro e w2 ⟨rfl, hb2⟩)
       (clear hsm)
       (have hb12 := hb1.trans (hb2.mono hb1.size)))
    | (refine at_dst 5 rfl ?_; refine wpList_is_w (some 5) (.pointer (some ⟨w2.heap.size, 0, none⟩)) (w2.alloc (.cells (cellsN .u8 32 fun _ => 0) 108)) rfl (by rfl) (by kernel_rfl) ?_)
    | ((refine at_storeJ 108 (.tmp 5) (.tmp 15) rfl ?_)
       (refine wpList_copyL w2 _ _ _ rfl (.tmp 5) (.tmp 15) rfl rfl rfl (by rw [cellsN_size]; exact Tryd.size108) (by simp [cellsN_size]) (cellsN_one _ _ _) ?_)
       (intro w3 hH3 hb3)
       (have hb13 := hb12.trans (hb3.mono hb12.size))
       (have hsz := size_j a L C w3 (by omega))
       (rw [HY.out] at hsz)
       (obtain ⟨w4, hH4, hb4, hmk⟩ := make_has Y (by omega) w3)
       (have hb14 := hb13.trans (hb4.mono hb13.size)))
    | ((go_at_call 41)
       (refine hsz.mono ?_)
       (rintro e wz ⟨rfl, hz⟩)
       (obtain rfl : w3 = wz := hz.symm)
       (clear hsz))
    | (refine at_dst 22 rfl ?_; refine wpList_is_w (some 22) (.slice (some ⟨w3.heap.size, 0, none⟩) Y Y) w4 rfl (by rfl) (hmk _ _ _ _ rfl (by simp [Act.eval]) (by simp [Act.eval])) ?_)
    | (refine at_dst 24 rfl ?_; refine wpList_is (some 24) (.slice (some ⟨w2.heap.size, 0, none⟩) 4 32) rfl (by rfl) (run_slice_dig _ rfl _ rfl _) ?_)
    | ((refine at_dst 27 rfl ?_)
       (refine wpList_is_w (some 27) (.slice (some ⟨w4.heap.size, 0, none⟩) 4 4) (w4.alloc (.cells #[.slice (some ⟨w.heap.size + 2, 0, none⟩) 4 4, .slice (some ⟨w2.heap.size, 0, none⟩) 4 32, .slice a L C, .slice (some ⟨w3.heap.size, 0, none⟩) Y Y] 33)) rfl (by rfl) (by kernel_rfl) ?_)
       (have hcc := form_cat (C := C) hb1 hb2 hb3 hb4 ho1 hH3 hH4 hb HY3.out hL hna)
       (generalize w4.alloc (.cells #[.slice (some ⟨w.heap.size + 2, 0, none⟩) 4 4, .slice (some ⟨w2.heap.size, 0, none⟩) 4 32, .slice a L C, .slice (some ⟨w3.heap.size, 0, none⟩) Y Y] 33) = w5 at hcc ⊢))
    | ((go_at_call 67)
       (refine Calls.mono hcc ?_)
       (rintro e w6 ⟨hb6, v6, rfl, ho6⟩)
       (clear hcc)))
  go_ret
  exact ⟨hb6, _, rfl, ho6⟩
end Go.Proofs.YtoiaclmfljoomaaDoor
