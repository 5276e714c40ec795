/- The reference's Keys, at a key of 32 bytes. -/
import Derived.Test.YtcnlegnfecpdnaaRef4Keys4
namespace Go.Proofs.Ytcnlegnfecpdnaa
open Go.ChangeShapes Go.WideShapes Go.ChangeAt Go.RowKit
set_option linter.unusedVariables false

set_option maxRecDepth 100000 in
set_option maxHeartbeats 3200000 in
theorem rkeys_8 (key : Nat → Nat) (b o cap : Nat) (w : World) (hk : ∀ j, j < 32 → key j < 256) (hb : b < w.heap.size) (hc : ∀ j, j < 32 → w.cell? ⟨b, o + j, none⟩ = some (.int .u8 (key j : Nat))) :
    Calls Try.prog 10 #[.slice (some ⟨b, o, none⟩) 32 cap] w fun e w' => ∃ g c, e = .returned (.slice (some ⟨g, 0, none⟩) 240 c) ∧ w.heap.size ≤ g ∧ g < w'.heap.size ∧ RKS g 240 (flat 8 key 60) w' ∧ Below w.heap.size w w' := by
  obtain ⟨F, hF⟩ : ∃ F, F = flat 8 key 60 := ⟨_, rfl⟩
  have hFl : ∀ j, F j < 256 := fun j => by rw [hF]; exact flat_lt 8 key hk 60 j
  have HFk : Hid (bl key 32 = bl F 32) := (by
    unfold bl
    apply List.map_congr_left
    intro j hj
    have hj' : j < 32 := by simpa using hj
    have := flat_key 8 key 60 (j / 4) (j % 4) (by omega) (by omega) (by omega)
    rw [show 4 * (j / 4) + j % 4 = j by omega] at this
    rw [hF, this] : bl key 32 = bl F 32)
  have HFr : Hid (∀ k j, 8 ≤ k → k < 60 → j < 4 → F (4 * k + j) = F (4 * (k - 8) + j) ^^^ tw 8 F k j) := fun k j h1 h2 h3 => by rw [hF]; exact flat_rec 8 key 60 k j h2 h3 h1 (by omega)
  have HF : Hid (F = flat 8 key 60) := hF
  rw [← hF]
  have own0 := World.ownsRow_lit (base := w.heap.size) (e := 5) (size := 1) w #[] 0 (Nat.le_refl _) (by unfold maxLen; omega) rfl
  have hbE : Below w.heap.size w (w.alloc (.cells #[] 5)) := (Below.refl _ _).alloc (Nat.le_refl _) _
  have hB0 : Bytes (w.alloc (.cells #[] 5)) (some ⟨b, o, none⟩) 32 key := .inr ⟨b, o, rfl, Nat.lt_of_lt_of_le hb hbE.size, fun j hj => (hbE.cell (p := ⟨b, o + j, none⟩) hb).trans (hc j hj)⟩
  clear hF hc
  go_enter Try.func10, Try.ntmps10
  go_wp2_with (refine wpList_append_bytes rfl _ _ rfl w.heap.size _ 0 (fun _ => 0) rfl own0 (some ⟨b, o, none⟩) 32 cap key rfl (fun e => by cases e) hB0 (by omega) (by simp) ?_; intro v1 w1 own1 gr1; have hb1 : Below w.heap.size w w1 := hbE.grown gr1 (by simp) (fun k' h => (own0.lt k' h).1); rw [Nat.zero_add, cat_zero, HFk.out] at own1; clear own0 gr1 hB0 hbE)
  obtain ⟨g0, c0, rfl⟩ : ∃ g c, v1 = .slice (some ⟨g, 0, none⟩) 32 c := by
    rcases own1.2 with ⟨_, e⟩ | ⟨g, c, cur, e, _⟩
    · cases e
    · exact ⟨g, c, e⟩
  go_loopw [4, 5, 6] (fun v p i wr => ∃ k g vc : Nat, 8 ≤ k ∧ k ≤ 60 ∧ i = .int .i64 (k : Nat) ∧ p = .int .u8 (pw ((k - 1) / 8) : Nat) ∧ v = .slice (some ⟨g, 0, none⟩) (4 * k) vc ∧ wr.ownsRow w.heap.size 5 1 (.slice (some ⟨g, 0, none⟩) (4 * k) vc) (4 * k) (bl F (4 * k)) ∧ Below w.heap.size w wr)
    (fun _ _ i _ => 60 - (intOf i).toNat)
  case atStart => exact ⟨8, g0, c0, Nat.le_refl _, by omega, rfl, rfl, rfl, own1, hb1⟩
  case round =>
    clear own1 hb1
    obtain ⟨k, g, vc, hk1, hk2, rfl, rfl, rfl, own, hbel⟩ := hrel
    obtain ⟨hcl, hg, hbase⟩ := own_cells own (by omega)
    obtain ⟨p, hp⟩ : ∃ p, p = pw ((k - 1) / 8) := ⟨_, rfl⟩
    have hpl : p < 256 := by rw [hp]; exact pw_lt _
    have HP : Hid (p = pw ((k - 1) / 8)) := hp
    rw [← hp]
    clear hp
    by_cases hlt : k < 60
    · have i1 : (k : Int) < 60 := by omega
      have i0 : (0 : Int) ≤ (k : Int) := by omega
      obtain ⟨x0, hx0⟩ : ∃ x, x = F (4 * k - 4) := ⟨_, rfl⟩
      have HX0 : Hid (x0 = F (4 * k - 4)) := hx0
      have hl0 : x0 < 256 := by rw [hx0]; exact hFl _
      clear hx0
      obtain ⟨x1, hx1⟩ : ∃ x, x = F (4 * k - 3) := ⟨_, rfl⟩
      have HX1 : Hid (x1 = F (4 * k - 3)) := hx1
      have hl1 : x1 < 256 := by rw [hx1]; exact hFl _
      clear hx1
      obtain ⟨x2, hx2⟩ : ∃ x, x = F (4 * k - 2) := ⟨_, rfl⟩
      have HX2 : Hid (x2 = F (4 * k - 2)) := hx2
      have hl2 : x2 < 256 := by rw [hx2]; exact hFl _
      clear hx2
      obtain ⟨x3, hx3⟩ : ∃ x, x = F (4 * k - 1) := ⟨_, rfl⟩
      have HX3 : Hid (x3 = F (4 * k - 1)) := hx3
      have hl3 : x3 < 256 := by rw [hx3]; exact hFl _
      clear hx3
      have hbd : Below wr.drew.heap.size wr.drew (wr.drew.alloc (.cells (cellsN .u8 4 (four x0 x1 x2 x3)) 5)) := (Below.refl _ _).alloc (Nat.le_refl _) _
      have hgg : g < wr.drew.heap.size := hg
      have ownd : wr.drew.ownsRow w.heap.size 5 1 (.slice (some ⟨g, 0, none⟩) (4 * k) vc) (4 * k) (bl F (4 * k)) := own
      have ownA := own_below ownd hbd (fun g' h => (ownd.lt g' h).2)
      have hclA : RKS g (4 * k) F (wr.drew.alloc (.cells (cellsN .u8 4 (four x0 x1 x2 x3)) 5)) := fun i hi => (hbd.cell (p := ⟨g, i, none⟩) hg).trans (hcl i hi)
      have hXA := Has.new wr.drew 5 (cellsN .u8 4 (four x0 x1 x2 x3))
      have hbA : Below w.heap.size w (wr.drew.alloc (.cells (cellsN .u8 4 (four x0 x1 x2 x3)) 5)) := hbel.drew.alloc hbel.size _
      clear hbd ownd
      go_wp2_with fail
      refine wp_region_held_drew (S := RKS g (4 * k) F) (by kernel_rfl) hcl (fun hHeld => ?_)
      refine takeTo 0 (some 31) (.slice (some ⟨g, 0, none⟩) (4 * k) vc) rfl rfl (by kernel_rfl) (by kernel_rfl) (by kernel_rfl) (fun _ _ _ h => h) (by rfl) (fun _ _ => rfl) hHeld ?_
      simp only [Act.put, List.setIfInBounds_toArray, List.set_cons_zero, List.set_cons_succ]
      refine takeTo 1 (some 32) (.int .i64 (k : Nat)) rfl rfl (by kernel_rfl) (by kernel_rfl) (by kernel_rfl) (fun _ _ _ h => h) (by rfl) (fun _ _ => rfl) hHeld ?_
      simp only [Act.put, List.setIfInBounds_toArray, List.set_cons_zero, List.set_cons_succ]
      refine takeTo 2 (some 33) (.int .i64 ((4 * k : Nat) : Int)) rfl rfl (by kernel_rfl) (by kernel_rfl) (by kernel_rfl) (fun _ _ _ h => h) (by rfl) (fun wz _ => run_4mul (.tmp 32) rfl k rfl (by omega) wz) hHeld ?_
      simp only [Act.put, List.setIfInBounds_toArray, List.set_cons_zero, List.set_cons_succ]
      refine takeTo 3 (some 34) (.int .i64 ((4 * k - 4 : Nat) : Int)) rfl rfl (by kernel_rfl) (by kernel_rfl) (by kernel_rfl) (fun _ _ _ h => h) (by rfl) (fun wz _ => run_subN (.tmp 33) (.const (.int .i64 4)) rfl (4 * k) 4 rfl rfl (by omega) (by omega) wz) hHeld ?_
      simp only [Act.put, List.setIfInBounds_toArray, List.set_cons_zero, List.set_cons_succ]
      refine takeTo 4 (some 35) (.pointer (some ⟨g, 0 + (4 * k - 4) * 1, none⟩)) rfl rfl (by kernel_rfl) (by kernel_rfl) (by kernel_rfl) (fun _ _ _ h => h) (by rfl) (fun wz _ => run_indexAddrS 22 (.tmp 31) (.tmp 34) rfl g 0 (4 * k - 4) (4 * k) vc 1 5 rfl rfl Try.underlying22 one_u8 (by omega) wz) hHeld ?_
      simp only [Act.put, List.setIfInBounds_toArray, List.set_cons_zero, List.set_cons_succ]
      refine takeTo 5 (some 36) (.int .u8 (x0 : Nat)) rfl rfl (by kernel_rfl) (by kernel_rfl) (by kernel_rfl) (fun _ _ _ h => h) (by rfl) (fun wz h => run_load_u8 (.tmp 35) rfl g (0 + (4 * k - 4) * 1) rfl _ wz (by rw [Nat.zero_add, Nat.mul_one, HX0.out]; exact h (4 * k - 4) (by omega))) hHeld ?_
      simp only [Act.put, List.setIfInBounds_toArray, List.set_cons_zero, List.set_cons_succ]
      refine takeTo 6 (some 37) (.slice (some ⟨g, 0, none⟩) (4 * k) vc) rfl rfl (by kernel_rfl) (by kernel_rfl) (by kernel_rfl) (fun _ _ _ h => h) (by rfl) (fun _ _ => rfl) hHeld ?_
      simp only [Act.put, List.setIfInBounds_toArray, List.set_cons_zero, List.set_cons_succ]
      refine takeTo 7 (some 38) (.int .i64 (k : Nat)) rfl rfl (by kernel_rfl) (by kernel_rfl) (by kernel_rfl) (fun _ _ _ h => h) (by rfl) (fun _ _ => rfl) hHeld ?_
      simp only [Act.put, List.setIfInBounds_toArray, List.set_cons_zero, List.set_cons_succ]
      refine takeTo 8 (some 39) (.int .i64 ((4 * k : Nat) : Int)) rfl rfl (by kernel_rfl) (by kernel_rfl) (by kernel_rfl) (fun _ _ _ h => h) (by rfl) (fun wz _ => run_4mul (.tmp 38) rfl k rfl (by omega) wz) hHeld ?_
      simp only [Act.put, List.setIfInBounds_toArray, List.set_cons_zero, List.set_cons_succ]
      refine takeTo 9 (some 40) (.int .i64 ((4 * k - 3 : Nat) : Int)) rfl rfl (by kernel_rfl) (by kernel_rfl) (by kernel_rfl) (fun _ _ _ h => h) (by rfl) (fun wz _ => run_subN (.tmp 39) (.const (.int .i64 3)) rfl (4 * k) 3 rfl rfl (by omega) (by omega) wz) hHeld ?_
      simp only [Act.put, List.setIfInBounds_toArray, List.set_cons_zero, List.set_cons_succ]
      refine takeTo 10 (some 41) (.pointer (some ⟨g, 0 + (4 * k - 3) * 1, none⟩)) rfl rfl (by kernel_rfl) (by kernel_rfl) (by kernel_rfl) (fun _ _ _ h => h) (by rfl) (fun wz _ => run_indexAddrS 22 (.tmp 37) (.tmp 40) rfl g 0 (4 * k - 3) (4 * k) vc 1 5 rfl rfl Try.underlying22 one_u8 (by omega) wz) hHeld ?_
      simp only [Act.put, List.setIfInBounds_toArray, List.set_cons_zero, List.set_cons_succ]
      refine takeTo 11 (some 42) (.int .u8 (x1 : Nat)) rfl rfl (by kernel_rfl) (by kernel_rfl) (by kernel_rfl) (fun _ _ _ h => h) (by rfl) (fun wz h => run_load_u8 (.tmp 41) rfl g (0 + (4 * k - 3) * 1) rfl _ wz (by rw [Nat.zero_add, Nat.mul_one, HX1.out]; exact h (4 * k - 3) (by omega))) hHeld ?_
      simp only [Act.put, List.setIfInBounds_toArray, List.set_cons_zero, List.set_cons_succ]
      refine takeTo 12 (some 43) (.slice (some ⟨g, 0, none⟩) (4 * k) vc) rfl rfl (by kernel_rfl) (by kernel_rfl) (by kernel_rfl) (fun _ _ _ h => h) (by rfl) (fun _ _ => rfl) hHeld ?_
      simp only [Act.put, List.setIfInBounds_toArray, List.set_cons_zero, List.set_cons_succ]
      refine takeTo 13 (some 44) (.int .i64 (k : Nat)) rfl rfl (by kernel_rfl) (by kernel_rfl) (by kernel_rfl) (fun _ _ _ h => h) (by rfl) (fun _ _ => rfl) hHeld ?_
      simp only [Act.put, List.setIfInBounds_toArray, List.set_cons_zero, List.set_cons_succ]
      refine takeTo 14 (some 45) (.int .i64 ((4 * k : Nat) : Int)) rfl rfl (by kernel_rfl) (by kernel_rfl) (by kernel_rfl) (fun _ _ _ h => h) (by rfl) (fun wz _ => run_4mul (.tmp 44) rfl k rfl (by omega) wz) hHeld ?_
      simp only [Act.put, List.setIfInBounds_toArray, List.set_cons_zero, List.set_cons_succ]
      refine takeTo 15 (some 46) (.int .i64 ((4 * k - 2 : Nat) : Int)) rfl rfl (by kernel_rfl) (by kernel_rfl) (by kernel_rfl) (fun _ _ _ h => h) (by rfl) (fun wz _ => run_subN (.tmp 45) (.const (.int .i64 2)) rfl (4 * k) 2 rfl rfl (by omega) (by omega) wz) hHeld ?_
      simp only [Act.put, List.setIfInBounds_toArray, List.set_cons_zero, List.set_cons_succ]
      refine takeTo 16 (some 47) (.pointer (some ⟨g, 0 + (4 * k - 2) * 1, none⟩)) rfl rfl (by kernel_rfl) (by kernel_rfl) (by kernel_rfl) (fun _ _ _ h => h) (by rfl) (fun wz _ => run_indexAddrS 22 (.tmp 43) (.tmp 46) rfl g 0 (4 * k - 2) (4 * k) vc 1 5 rfl rfl Try.underlying22 one_u8 (by omega) wz) hHeld ?_
      simp only [Act.put, List.setIfInBounds_toArray, List.set_cons_zero, List.set_cons_succ]
      refine takeTo 17 (some 48) (.int .u8 (x2 : Nat)) rfl rfl (by kernel_rfl) (by kernel_rfl) (by kernel_rfl) (fun _ _ _ h => h) (by rfl) (fun wz h => run_load_u8 (.tmp 47) rfl g (0 + (4 * k - 2) * 1) rfl _ wz (by rw [Nat.zero_add, Nat.mul_one, HX2.out]; exact h (4 * k - 2) (by omega))) hHeld ?_
      simp only [Act.put, List.setIfInBounds_toArray, List.set_cons_zero, List.set_cons_succ]
      refine takeTo 18 (some 49) (.slice (some ⟨g, 0, none⟩) (4 * k) vc) rfl rfl (by kernel_rfl) (by kernel_rfl) (by kernel_rfl) (fun _ _ _ h => h) (by rfl) (fun _ _ => rfl) hHeld ?_
      simp only [Act.put, List.setIfInBounds_toArray, List.set_cons_zero, List.set_cons_succ]
      refine takeTo 19 (some 50) (.int .i64 (k : Nat)) rfl rfl (by kernel_rfl) (by kernel_rfl) (by kernel_rfl) (fun _ _ _ h => h) (by rfl) (fun _ _ => rfl) hHeld ?_
      simp only [Act.put, List.setIfInBounds_toArray, List.set_cons_zero, List.set_cons_succ]
      refine takeTo 20 (some 51) (.int .i64 ((4 * k : Nat) : Int)) rfl rfl (by kernel_rfl) (by kernel_rfl) (by kernel_rfl) (fun _ _ _ h => h) (by rfl) (fun wz _ => run_4mul (.tmp 50) rfl k rfl (by omega) wz) hHeld ?_
      simp only [Act.put, List.setIfInBounds_toArray, List.set_cons_zero, List.set_cons_succ]
      refine takeTo 21 (some 52) (.int .i64 ((4 * k - 1 : Nat) : Int)) rfl rfl (by kernel_rfl) (by kernel_rfl) (by kernel_rfl) (fun _ _ _ h => h) (by rfl) (fun wz _ => run_subN (.tmp 51) (.const (.int .i64 1)) rfl (4 * k) 1 rfl rfl (by omega) (by omega) wz) hHeld ?_
      simp only [Act.put, List.setIfInBounds_toArray, List.set_cons_zero, List.set_cons_succ]
      refine takeTo 22 (some 53) (.pointer (some ⟨g, 0 + (4 * k - 1) * 1, none⟩)) rfl rfl (by kernel_rfl) (by kernel_rfl) (by kernel_rfl) (fun _ _ _ h => h) (by rfl) (fun wz _ => run_indexAddrS 22 (.tmp 49) (.tmp 52) rfl g 0 (4 * k - 1) (4 * k) vc 1 5 rfl rfl Try.underlying22 one_u8 (by omega) wz) hHeld ?_
      simp only [Act.put, List.setIfInBounds_toArray, List.set_cons_zero, List.set_cons_succ]
      refine takeTo 23 (some 54) (.int .u8 (x3 : Nat)) rfl rfl (by kernel_rfl) (by kernel_rfl) (by kernel_rfl) (fun _ _ _ h => h) (by rfl) (fun wz h => run_load_u8 (.tmp 53) rfl g (0 + (4 * k - 1) * 1) rfl _ wz (by rw [Nat.zero_add, Nat.mul_one, HX3.out]; exact h (4 * k - 1) (by omega))) hHeld ?_
      simp only [Act.put, List.setIfInBounds_toArray, List.set_cons_zero, List.set_cons_succ]
      refine ready1 24 (by kernel_rfl) (stepVal (some 55) (.slice (some ⟨wr.drew.heap.size, 0, none⟩) 4 4) (wr.drew.alloc (.cells (cellsN .u8 4 (four x0 x1 x2 x3)) 5)) rfl rfl (by rfl) (run_slice4 (.tmp 36) (.tmp 42) (.tmp 48) (.tmp 54) rfl x0 x1 x2 x3 rfl rfl rfl rfl wr.drew) ⟨hclA, ?_⟩)
      simp only [Act.put, List.setIfInBounds_toArray, List.set_cons_zero, List.set_cons_succ]
      obtain ⟨wA, hwA⟩ : ∃ x, x = wr.drew.alloc (.cells (cellsN .u8 4 (four x0 x1 x2 x3)) 5) := ⟨_, rfl⟩
      obtain ⟨gA, hgA⟩ : ∃ x, x = wr.drew.heap.size := ⟨_, rfl⟩
      rw [← hwA, ← hgA]
      rw [← hwA] at hclA ownA hbA hXA
      rw [← hgA] at hXA hgg
      clear hHeld hcl own hbel
      refine takeTo 25 (some 7) (.slice (some ⟨gA, 0, none⟩) 4 4) rfl rfl (by kernel_rfl) (by kernel_rfl) (by kernel_rfl) (fun _ _ _ h => h) (by rfl) (fun _ _ => rfl) hclA ?_
      simp only [Act.put, List.setIfInBounds_toArray, List.set_cons_zero, List.set_cons_succ]
      refine wpAnyH_done (by kernel_rfl) ?_ _
      clear hwA hgA
      by_cases ht0 : k % 8 = 0
      · have i2 : (k : Int) % 8 = 0 := by omega
        have hpn : pw ((k + 1 - 1) / 8) = dbl p := by rw [show (k + 1 - 1) / 8 = (k - 1) / 8 + 1 by omega, pw_succ, ← HP.out]
        obtain ⟨s0, hs0⟩ : ∃ s, s = SB x0 := ⟨_, rfl⟩
        have hsl0 : s0 < 256 := by rw [hs0]; exact SB_lt _ hl0
        have HC0 : Hid (∀ W, Calls Try.prog 28 #[.int .u8 (x0 : Nat)] W fun e w' => e = .returned (.int .u8 (s0 : Nat)) ∧ w' = W) := fun W => by rw [hs0]; exact S_any x0 W hl0
        have HS0 : Hid (s0 = SB x0) := hs0
        clear hs0
        obtain ⟨s1, hs1⟩ : ∃ s, s = SB x1 := ⟨_, rfl⟩
        have hsl1 : s1 < 256 := by rw [hs1]; exact SB_lt _ hl1
        have HC1 : Hid (∀ W, Calls Try.prog 28 #[.int .u8 (x1 : Nat)] W fun e w' => e = .returned (.int .u8 (s1 : Nat)) ∧ w' = W) := fun W => by rw [hs1]; exact S_any x1 W hl1
        have HS1 : Hid (s1 = SB x1) := hs1
        clear hs1
        obtain ⟨s2, hs2⟩ : ∃ s, s = SB x2 := ⟨_, rfl⟩
        have hsl2 : s2 < 256 := by rw [hs2]; exact SB_lt _ hl2
        have HC2 : Hid (∀ W, Calls Try.prog 28 #[.int .u8 (x2 : Nat)] W fun e w' => e = .returned (.int .u8 (s2 : Nat)) ∧ w' = W) := fun W => by rw [hs2]; exact S_any x2 W hl2
        have HS2 : Hid (s2 = SB x2) := hs2
        clear hs2
        obtain ⟨s3, hs3⟩ : ∃ s, s = SB x3 := ⟨_, rfl⟩
        have hsl3 : s3 < 256 := by rw [hs3]; exact SB_lt _ hl3
        have HC3 : Hid (∀ W, Calls Try.prog 28 #[.int .u8 (x3 : Nat)] W fun e w' => e = .returned (.int .u8 (s3 : Nat)) ∧ w' = W) := fun W => by rw [hs3]; exact S_any x3 W hl3
        have HS3 : Hid (s3 = SB x3) := hs3
        clear hs3
        have ex := x8 hsl1 hpl
        have hxl := xor8 hsl1 hpl
        have qm : ∀ W, Calls Try.prog 29 #[.int .u8 (p : Nat), .int .u8 2] W fun e w' => e = .returned (.int .u8 (dbl p : Nat)) ∧ w' = W := fun W => by rw [← mulx2 p hpl]; exact mul_any p 2 W hpl (by decide)
        have HQ : Hid (∀ W, Calls Try.prog 29 #[.int .u8 (p : Nat), .int .u8 2] W fun e w' => e = .returned (.int .u8 (dbl p : Nat)) ∧ w' = W) := qm
        clear qm
        have c0 : wA.drew.cell? ⟨gA, 0, none⟩ = some (.int .u8 (x0 : Nat)) := hXA.num 0 (by omega)
        have c1 : wA.drew.cell? ⟨gA, 1, none⟩ = some (.int .u8 (x1 : Nat)) := hXA.num 1 (by omega)
        have c2 : wA.drew.cell? ⟨gA, 2, none⟩ = some (.int .u8 (x2 : Nat)) := hXA.num 2 (by omega)
        have c3 : wA.drew.cell? ⟨gA, 3, none⟩ = some (.int .u8 (x3 : Nat)) := hXA.num 3 (by omega)
        obtain ⟨X, hX⟩ : ∃ X, X = four (s1 ^^^ p) s2 s3 s0 := ⟨_, rfl⟩
        have hXl : ∀ j, j < 4 → X j < 256 := fun j hj => by rw [hX]; unfold four; split <;> (try split) <;> (try split) <;> (first | assumption | exact xor8 (by assumption) (by assumption))
        have HV : Hid (∀ j, j < 4 → F (4 * k + j) = F (4 * (k - 8) + j) ^^^ X j) := fun j hj => by
          rw [HFr.out k j hk1 hlt hj]
          congr 1
          rw [hX]
          unfold tw
          rw [if_pos ht0]
          rcases four_case hj with rfl | rfl | rfl | rfl
          · show SB (F (4 * (k - 1) + 1)) ^^^ pw (k / 8 - 1) = s1 ^^^ p
            rw [show 4 * (k - 1) + 1 = 4 * k - 3 by omega, show k / 8 - 1 = (k - 1) / 8 by omega, ← HP.out, HS1.out, HX1.out]
          · show SB (F (4 * (k - 1) + 2)) ^^^ 0 = s2
            rw [Nat.xor_zero, show 4 * (k - 1) + 2 = 4 * k - 2 by omega, HS2.out, HX2.out]
          · show SB (F (4 * (k - 1) + 3)) ^^^ 0 = s3
            rw [Nat.xor_zero, show 4 * (k - 1) + 3 = 4 * k - 1 by omega, HS3.out, HX3.out]
          · show SB (F (4 * (k - 1) + 0)) ^^^ 0 = s0
            rw [Nat.xor_zero, show 4 * (k - 1) + 0 = 4 * k - 4 by omega, HS0.out, HX0.out]
        have hbD : Below wA.heap.size wA (wA.alloc (.cells #[.int .u8 ((s1 ^^^ p : Nat) : Int), .int .u8 (s2 : Nat), .int .u8 (s3 : Nat), .int .u8 (s0 : Nat)] 5)).drew := ((Below.refl _ _).alloc (Nat.le_refl _) _).drew
        have ownT : (wA.alloc (.cells #[.int .u8 ((s1 ^^^ p : Nat) : Int), .int .u8 (s2 : Nat), .int .u8 (s3 : Nat), .int .u8 (s0 : Nat)] 5)).drew.ownsRow w.heap.size 5 1 (.slice (some ⟨g, 0, none⟩) (4 * k) vc) (4 * k) (bl F (4 * k)) := own_below ownA hbD (fun g' h => (ownA.lt g' h).2)
        have htT : RKS wA.heap.size 4 X (wA.alloc (.cells #[.int .u8 ((s1 ^^^ p : Nat) : Int), .int .u8 (s2 : Nat), .int .u8 (s3 : Nat), .int .u8 (s0 : Nat)] 5)).drew := fun j hj => by rw [hX]; exact (Has.new wA 5 (cellsN .u8 4 (four (s1 ^^^ p) s2 s3 s0))).num j hj
        have hgtT : wA.heap.size < (wA.alloc (.cells #[.int .u8 ((s1 ^^^ p : Nat) : Int), .int .u8 (s2 : Nat), .int .u8 (s3 : Nat), .int .u8 (s0 : Nat)] 5)).drew.heap.size := (Has.new wA 5 #[.int .u8 ((s1 ^^^ p : Nat) : Int), .int .u8 (s2 : Nat), .int .u8 (s3 : Nat), .int .u8 (s0 : Nat)]).lt
        have hgne : g ≠ wA.heap.size := by have := (ownA.lt g rfl).2; omega
        have hbT : Below w.heap.size w (wA.alloc (.cells #[.int .u8 ((s1 ^^^ p : Nat) : Int), .int .u8 (s2 : Nat), .int .u8 (s3 : Nat), .int .u8 (s0 : Nat)] 5)).drew := (hbA.alloc hbA.size _).drew
        have e0 : (wA.alloc (.cells #[.int .u8 ((s1 ^^^ p : Nat) : Int), .int .u8 (s2 : Nat), .int .u8 (s3 : Nat), .int .u8 (s0 : Nat)] 5)).drew.cell? ⟨gA, 0, none⟩ = some (.int .u8 (x0 : Nat)) := (hbD.cell (p := ⟨gA, 0, none⟩) hXA.lt).trans c0
        have e1 : (wA.alloc (.cells #[.int .u8 ((s1 ^^^ p : Nat) : Int), .int .u8 (s2 : Nat), .int .u8 (s3 : Nat), .int .u8 (s0 : Nat)] 5)).drew.cell? ⟨gA, 1, none⟩ = some (.int .u8 (x1 : Nat)) := (hbD.cell (p := ⟨gA, 1, none⟩) hXA.lt).trans c1
        have e2 : (wA.alloc (.cells #[.int .u8 ((s1 ^^^ p : Nat) : Int), .int .u8 (s2 : Nat), .int .u8 (s3 : Nat), .int .u8 (s0 : Nat)] 5)).drew.cell? ⟨gA, 2, none⟩ = some (.int .u8 (x2 : Nat)) := (hbD.cell (p := ⟨gA, 2, none⟩) hXA.lt).trans c2
        have e3 : (wA.alloc (.cells #[.int .u8 ((s1 ^^^ p : Nat) : Int), .int .u8 (s2 : Nat), .int .u8 (s3 : Nat), .int .u8 (s0 : Nat)] 5)).drew.cell? ⟨gA, 3, none⟩ = some (.int .u8 (x3 : Nat)) := (hbD.cell (p := ⟨gA, 3, none⟩) hXA.lt).trans c3
        clear hbD hclA ownA hbA hXA hX hgg hg hbase
        go_wp2_with fail
        go_region_held3 (fun w' => w'.cell? ⟨gA, 0, none⟩ = some (.int .u8 (x0 : Nat)) ∧ w'.cell? ⟨gA, 1, none⟩ = some (.int .u8 (x1 : Nat)) ∧ w'.cell? ⟨gA, 2, none⟩ = some (.int .u8 (x2 : Nat)) ∧ w'.cell? ⟨gA, 3, none⟩ = some (.int .u8 (x3 : Nat)))
          (first | exact ⟨c0, c1, c2, c3⟩ | exact ⟨e0, e1, e2, e3⟩ | go_keep)
          (first
            | (go_at_call_of 28 (Value.int .u8 (x0 : Nat)); refine (HC0.out _).mono ?_; rintro e w' ⟨rfl, rfl⟩)
            | (go_at_call_of 28 (Value.int .u8 (x1 : Nat)); refine (HC1.out _).mono ?_; rintro e w' ⟨rfl, rfl⟩)
            | (go_at_call_of 28 (Value.int .u8 (x2 : Nat)); refine (HC2.out _).mono ?_; rintro e w' ⟨rfl, rfl⟩)
            | (go_at_call_of 28 (Value.int .u8 (x3 : Nat)); refine (HC3.out _).mono ?_; rintro e w' ⟨rfl, rfl⟩))
        clear c0 c1 c2 c3 e0 e1 e2 e3
        go_wp2_with (go_at_call 29; refine (HQ.out _).mono ?_; rintro e w' ⟨rfl, rfl⟩)
        go_loopw [4, 8] (fun v i wr => ∃ j g2 vc2 : Nat, j ≤ 4 ∧ i = .int .i64 (j : Nat) ∧ v = .slice (some ⟨g2, 0, none⟩) (4 * k + j) vc2 ∧ wr.ownsRow w.heap.size 5 1 (.slice (some ⟨g2, 0, none⟩) (4 * k + j) vc2) (4 * k + j) (bl F (4 * k + j)) ∧ RKS wA.heap.size 4 X wr ∧ wA.heap.size < wr.heap.size ∧ g2 ≠ wA.heap.size ∧ Below w.heap.size w wr)
          (fun _ i _ => 4 - (intOf i).toNat)
        case atStart => exact ⟨0, g, vc, Nat.zero_le _, rfl, rfl, ownT, htT, hgtT, hgne, hbT⟩
        case round =>
          clear ownT htT hgtT hgne hbT
          obtain ⟨j, g2, vc2, hj, rfl, rfl, own2, ht2, hgt2, hne2, hb2⟩ := hrel
          obtain ⟨hc2, hg2, hbase2⟩ := own_cells own2 (by omega)
          by_cases hjl : j < 4
          · have ij : (j : Int) < 4 := by omega
            go_wp2_with fail
            refine wp_region_held_drew (S := fun wz => RKS g2 (4 * k + j) F wz ∧ RKS wA.heap.size 4 X wz) (by kernel_rfl) ⟨hc2, ht2⟩ (fun hHeld => ?_)
            refine takeTo 0 (some 109) (.slice (some ⟨g2, 0, none⟩) (4 * k + j) vc2) rfl rfl (by kernel_rfl) (by kernel_rfl) (by kernel_rfl) (fun _ _ _ h => h) (by rfl) (fun _ _ => rfl) hHeld ?_
            simp only [Act.put, List.setIfInBounds_toArray, List.set_cons_zero, List.set_cons_succ]
            refine takeTo 1 (some 110) (.slice (some ⟨g2, 0, none⟩) (4 * k + j) vc2) rfl rfl (by kernel_rfl) (by kernel_rfl) (by kernel_rfl) (fun _ _ _ h => h) (by rfl) (fun _ _ => rfl) hHeld ?_
            simp only [Act.put, List.setIfInBounds_toArray, List.set_cons_zero, List.set_cons_succ]
            refine takeTo 2 (some 111) (.int .i64 (k : Nat)) rfl rfl (by kernel_rfl) (by kernel_rfl) (by kernel_rfl) (fun _ _ _ h => h) (by rfl) (fun _ _ => rfl) hHeld ?_
            simp only [Act.put, List.setIfInBounds_toArray, List.set_cons_zero, List.set_cons_succ]
            refine takeTo 3 (some 112) (.int .i64 (8 : Nat)) rfl rfl (by kernel_rfl) (by kernel_rfl) (by kernel_rfl) (fun _ _ _ h => h) (by rfl) (fun _ _ => rfl) hHeld ?_
            simp only [Act.put, List.setIfInBounds_toArray, List.set_cons_zero, List.set_cons_succ]
            refine takeTo 4 (some 113) (.int .i64 ((k - 8 : Nat) : Int)) rfl rfl (by kernel_rfl) (by kernel_rfl) (by kernel_rfl) (fun _ _ _ h => h) (by rfl) (fun wz _ => run_subN (.tmp 111) (.tmp 112) rfl k 8 rfl rfl (by omega) (by omega) wz) hHeld ?_
            simp only [Act.put, List.setIfInBounds_toArray, List.set_cons_zero, List.set_cons_succ]
            refine takeTo 5 (some 114) (.int .i64 ((4 * (k - 8) : Nat) : Int)) rfl rfl (by kernel_rfl) (by kernel_rfl) (by kernel_rfl) (fun _ _ _ h => h) (by rfl) (fun wz _ => run_4mul (.tmp 113) rfl (k - 8) rfl (by omega) wz) hHeld ?_
            simp only [Act.put, List.setIfInBounds_toArray, List.set_cons_zero, List.set_cons_succ]
            refine takeTo 6 (some 115) (.int .i64 (j : Nat)) rfl rfl (by kernel_rfl) (by kernel_rfl) (by kernel_rfl) (fun _ _ _ h => h) (by rfl) (fun _ _ => rfl) hHeld ?_
            simp only [Act.put, List.setIfInBounds_toArray, List.set_cons_zero, List.set_cons_succ]
            refine takeTo 7 (some 116) (.int .i64 ((4 * (k - 8) + j : Nat) : Int)) rfl rfl (by kernel_rfl) (by kernel_rfl) (by kernel_rfl) (fun _ _ _ h => h) (by rfl) (fun wz _ => run_addN (.tmp 114) (.tmp 115) rfl (4 * (k - 8)) j rfl rfl (by omega) (by omega) wz) hHeld ?_
            simp only [Act.put, List.setIfInBounds_toArray, List.set_cons_zero, List.set_cons_succ]
            refine takeTo 8 (some 117) (.pointer (some ⟨g2, 0 + (4 * (k - 8) + j) * 1, none⟩)) rfl rfl (by kernel_rfl) (by kernel_rfl) (by kernel_rfl) (fun _ _ _ h => h) (by rfl) (fun wz _ => run_indexAddrS 22 (.tmp 110) (.tmp 116) rfl g2 0 (4 * (k - 8) + j) (4 * k + j) vc2 1 5 rfl rfl Try.underlying22 one_u8 (by omega) wz) hHeld ?_
            simp only [Act.put, List.setIfInBounds_toArray, List.set_cons_zero, List.set_cons_succ]
            refine takeTo 9 (some 118) (.int .u8 (F (4 * (k - 8) + j) : Nat)) rfl rfl (by kernel_rfl) (by kernel_rfl) (by kernel_rfl) (fun _ _ _ h => h) (by rfl) (fun wz h => run_load_u8 (.tmp 117) rfl g2 (0 + (4 * (k - 8) + j) * 1) rfl _ wz (by rw [Nat.zero_add, Nat.mul_one]; exact h.1 _ (by omega))) hHeld ?_
            simp only [Act.put, List.setIfInBounds_toArray, List.set_cons_zero, List.set_cons_succ]
            refine takeTo 10 (some 119) (.slice (some ⟨wA.heap.size, 0, none⟩) 4 4) rfl rfl (by kernel_rfl) (by kernel_rfl) (by kernel_rfl) (fun _ _ _ h => h) (by rfl) (fun _ _ => rfl) hHeld ?_
            simp only [Act.put, List.setIfInBounds_toArray, List.set_cons_zero, List.set_cons_succ]
            refine takeTo 11 (some 120) (.int .i64 (j : Nat)) rfl rfl (by kernel_rfl) (by kernel_rfl) (by kernel_rfl) (fun _ _ _ h => h) (by rfl) (fun _ _ => rfl) hHeld ?_
            simp only [Act.put, List.setIfInBounds_toArray, List.set_cons_zero, List.set_cons_succ]
            refine takeTo 12 (some 121) (.pointer (some ⟨wA.heap.size, 0 + j * 1, none⟩)) rfl rfl (by kernel_rfl) (by kernel_rfl) (by kernel_rfl) (fun _ _ _ h => h) (by rfl) (fun wz _ => run_indexAddrS 22 (.tmp 119) (.tmp 120) rfl wA.heap.size 0 j 4 4 1 5 rfl rfl Try.underlying22 one_u8 hjl wz) hHeld ?_
            simp only [Act.put, List.setIfInBounds_toArray, List.set_cons_zero, List.set_cons_succ]
            refine takeTo 13 (some 122) (.int .u8 (X j : Nat)) rfl rfl (by kernel_rfl) (by kernel_rfl) (by kernel_rfl) (fun _ _ _ h => h) (by rfl) (fun wz h => run_load_u8 (.tmp 121) rfl wA.heap.size (0 + j * 1) rfl _ wz (by rw [Nat.zero_add, Nat.mul_one]; exact h.2 _ hjl)) hHeld ?_
            simp only [Act.put, List.setIfInBounds_toArray, List.set_cons_zero, List.set_cons_succ]
            refine takeTo 14 (some 123) (.int .u8 ((F (4 * (k - 8) + j) ^^^ X j : Nat) : Int)) rfl rfl (by kernel_rfl) (by kernel_rfl) (by kernel_rfl) (fun _ _ _ h => h) (by rfl) (fun wz _ => run_xor8 (.tmp 118) (.tmp 122) rfl _ _ rfl rfl (hFl _) (hXl j hjl) wz) hHeld ?_
            simp only [Act.put, List.setIfInBounds_toArray, List.set_cons_zero, List.set_cons_succ]
            have hbB : Below wr.drew.heap.size wr.drew (wr.drew.alloc (.cells #[.int .u8 ((F (4 * (k - 8) + j) ^^^ X j : Nat) : Int)] 5)) := (Below.refl _ _).alloc (Nat.le_refl _) _
            have own2d : wr.drew.ownsRow w.heap.size 5 1 (.slice (some ⟨g2, 0, none⟩) (4 * k + j) vc2) (4 * k + j) (bl F (4 * k + j)) := own2
            have own3 := own_below own2d hbB (fun g' h => (own2d.lt g' h).2)
            have hc3 : RKS g2 (4 * k + j) F (wr.drew.alloc (.cells #[.int .u8 ((F (4 * (k - 8) + j) ^^^ X j : Nat) : Int)] 5)) := fun i hi => (hbB.cell (p := ⟨g2, i, none⟩) hg2).trans (hc2 i hi)
            have ht3 : RKS wA.heap.size 4 X (wr.drew.alloc (.cells #[.int .u8 ((F (4 * (k - 8) + j) ^^^ X j : Nat) : Int)] 5)) := fun i hi => (hbB.cell (p := ⟨wA.heap.size, i, none⟩) hgt2).trans (ht2 i hi)
            have hy3 := (Has.new wr.drew 5 #[.int .u8 ((F (4 * (k - 8) + j) ^^^ X j : Nat) : Int)]).cell 0
            have hb3 : Below w.heap.size w (wr.drew.alloc (.cells #[.int .u8 ((F (4 * (k - 8) + j) ^^^ X j : Nat) : Int)] 5)) := hb2.drew.alloc hb2.size _
            refine ready1 15 (by kernel_rfl) (stepVal (some 124) (.slice (some ⟨wr.drew.heap.size, 0, none⟩) 1 1) (wr.drew.alloc (.cells #[.int .u8 ((F (4 * (k - 8) + j) ^^^ X j : Nat) : Int)] 5)) rfl rfl (by rfl) (run_slice1 (.tmp 123) rfl _ rfl wr.drew) ⟨⟨hc3, ht3⟩, ?_⟩)
            simp only [Act.put, List.setIfInBounds_toArray, List.set_cons_zero, List.set_cons_succ]
            obtain ⟨w3, hw3⟩ : ∃ x, x = wr.drew.alloc (.cells #[.int .u8 ((F (4 * (k - 8) + j) ^^^ X j : Nat) : Int)] 5) := ⟨_, rfl⟩
            have hsz3 : w3.heap.size = wr.drew.heap.size + 1 := by rw [hw3]; simp
            obtain ⟨g3, hg3⟩ : ∃ x, x = wr.drew.heap.size := ⟨_, rfl⟩
            have hg2' : g2 < g3 := by rw [hg3]; exact hg2
            have hgt2' : wA.heap.size < g3 := by rw [hg3]; exact hgt2
            rw [← hw3, ← hg3]
            rw [← hw3] at own3 hc3 ht3 hy3 hb3
            rw [← hg3] at hy3 hsz3
            clear hbB own2d own2 hc2 ht2 hb2 hw3 hg3 hHeld hg2 hgt2
            obtain ⟨g4, c4, w4, hr4, own4, gr4, old4, lie4⟩ := run_append_byte w3 w.heap.size g2 vc2 (4 * k + j) F (by omega) own3 g3 1 _ hy3 (HV.out j hjl) (by omega) hb3.size
            have hb4 : Below w.heap.size w w4 := hb3.grown gr4 hb3.size (fun k' h => by obtain rfl : g2 = k' := Option.some.inj h; exact hbase2)
            have ht4 : RKS wA.heap.size 4 X w4 := fun i hi => (gr4.cell_far ⟨wA.heap.size, i, none⟩ (by show wA.heap.size < w3.heap.size; omega) (fun e => hne2 (Option.some.inj e).symm)).trans (ht3 i hi)
            refine ready1 16 (by kernel_rfl) (stepVal (some 125) (.slice (some ⟨g4, 0, none⟩) (4 * k + j + 1) c4) w4 rfl rfl (by rfl) (run_opB (.tmp 109) (.tmp 124) rfl rfl rfl hr4) ⟨⟨old4, ht4⟩, ?_⟩)
            simp only [Act.put, List.setIfInBounds_toArray, List.set_cons_zero, List.set_cons_succ]
            refine takeTo 17 (some 4) (.slice (some ⟨g4, 0, none⟩) (4 * k + j + 1) c4) rfl rfl (by kernel_rfl) (by kernel_rfl) (by kernel_rfl) (fun _ _ _ h => h) (by rfl) (fun _ _ => rfl) ⟨old4, ht4⟩ ?_
            simp only [Act.put, List.setIfInBounds_toArray, List.set_cons_zero, List.set_cons_succ]
            refine wpAnyH_done (by kernel_rfl) ?_ _
            go_wp2
            go_roundw
            case rel => exact ⟨j + 1, g4, c4, by omega, by go_num, rfl, own4, ht4, by have := gr4.size; omega, by omega, hb4⟩
            case measure => simp [intOf]; omega
          · obtain rfl : j = 4 := by omega
            go_wp2
            go_roundw
            case rel => exact ⟨k + 1, g2, vc2, by omega, by omega, by go_num, by rw [hpn], by rw [show 4 * (k + 1) = 4 * k + 4 by omega], by rw [show 4 * (k + 1) = 4 * k + 4 by omega]; exact own2, hb2⟩
            case measure => simp [intOf]; omega
      · by_cases ht4 : k % 8 = 4
        · have i2 : ¬ (k : Int) % 8 = 0 := by omega
          have i3 : (k : Int) % 8 = 4 := by omega
          have hpn : pw ((k + 1 - 1) / 8) = p := by rw [show (k + 1 - 1) / 8 = (k - 1) / 8 by omega]; exact HP.out.symm
          obtain ⟨s0, hs0⟩ : ∃ s, s = SB x0 := ⟨_, rfl⟩
          have hsl0 : s0 < 256 := by rw [hs0]; exact SB_lt _ hl0
          have HC0 : Hid (∀ W, Calls Try.prog 28 #[.int .u8 (x0 : Nat)] W fun e w' => e = .returned (.int .u8 (s0 : Nat)) ∧ w' = W) := fun W => by rw [hs0]; exact S_any x0 W hl0
          have HS0 : Hid (s0 = SB x0) := hs0
          clear hs0
          obtain ⟨s1, hs1⟩ : ∃ s, s = SB x1 := ⟨_, rfl⟩
          have hsl1 : s1 < 256 := by rw [hs1]; exact SB_lt _ hl1
          have HC1 : Hid (∀ W, Calls Try.prog 28 #[.int .u8 (x1 : Nat)] W fun e w' => e = .returned (.int .u8 (s1 : Nat)) ∧ w' = W) := fun W => by rw [hs1]; exact S_any x1 W hl1
          have HS1 : Hid (s1 = SB x1) := hs1
          clear hs1
          obtain ⟨s2, hs2⟩ : ∃ s, s = SB x2 := ⟨_, rfl⟩
          have hsl2 : s2 < 256 := by rw [hs2]; exact SB_lt _ hl2
          have HC2 : Hid (∀ W, Calls Try.prog 28 #[.int .u8 (x2 : Nat)] W fun e w' => e = .returned (.int .u8 (s2 : Nat)) ∧ w' = W) := fun W => by rw [hs2]; exact S_any x2 W hl2
          have HS2 : Hid (s2 = SB x2) := hs2
          clear hs2
          obtain ⟨s3, hs3⟩ : ∃ s, s = SB x3 := ⟨_, rfl⟩
          have hsl3 : s3 < 256 := by rw [hs3]; exact SB_lt _ hl3
          have HC3 : Hid (∀ W, Calls Try.prog 28 #[.int .u8 (x3 : Nat)] W fun e w' => e = .returned (.int .u8 (s3 : Nat)) ∧ w' = W) := fun W => by rw [hs3]; exact S_any x3 W hl3
          have HS3 : Hid (s3 = SB x3) := hs3
          clear hs3
          have c0 : wA.drew.cell? ⟨gA, 0, none⟩ = some (.int .u8 (x0 : Nat)) := hXA.num 0 (by omega)
          have c1 : wA.drew.cell? ⟨gA, 1, none⟩ = some (.int .u8 (x1 : Nat)) := hXA.num 1 (by omega)
          have c2 : wA.drew.cell? ⟨gA, 2, none⟩ = some (.int .u8 (x2 : Nat)) := hXA.num 2 (by omega)
          have c3 : wA.drew.cell? ⟨gA, 3, none⟩ = some (.int .u8 (x3 : Nat)) := hXA.num 3 (by omega)
          obtain ⟨X, hX⟩ : ∃ X, X = four s0 s1 s2 s3 := ⟨_, rfl⟩
          have hXl : ∀ j, j < 4 → X j < 256 := fun j hj => by rw [hX]; unfold four; split <;> (try split) <;> (try split) <;> (first | assumption | exact xor8 (by assumption) (by assumption))
          have HV : Hid (∀ j, j < 4 → F (4 * k + j) = F (4 * (k - 8) + j) ^^^ X j) := fun j hj => by
            rw [HFr.out k j hk1 hlt hj]
            congr 1
            rw [hX]
            unfold tw
            rw [if_neg ht0, if_pos ⟨rfl, ht4⟩]
            rcases four_case hj with rfl | rfl | rfl | rfl
            · show SB (F (4 * (k - 1) + 0)) = s0
              rw [show 4 * (k - 1) + 0 = 4 * k - 4 by omega, HS0.out, HX0.out]
            · show SB (F (4 * (k - 1) + 1)) = s1
              rw [show 4 * (k - 1) + 1 = 4 * k - 3 by omega, HS1.out, HX1.out]
            · show SB (F (4 * (k - 1) + 2)) = s2
              rw [show 4 * (k - 1) + 2 = 4 * k - 2 by omega, HS2.out, HX2.out]
            · show SB (F (4 * (k - 1) + 3)) = s3
              rw [show 4 * (k - 1) + 3 = 4 * k - 1 by omega, HS3.out, HX3.out]
          have hbD : Below wA.heap.size wA (wA.alloc (.cells #[.int .u8 (s0 : Nat), .int .u8 (s1 : Nat), .int .u8 (s2 : Nat), .int .u8 (s3 : Nat)] 5)).drew := ((Below.refl _ _).alloc (Nat.le_refl _) _).drew
          have ownT : (wA.alloc (.cells #[.int .u8 (s0 : Nat), .int .u8 (s1 : Nat), .int .u8 (s2 : Nat), .int .u8 (s3 : Nat)] 5)).drew.ownsRow w.heap.size 5 1 (.slice (some ⟨g, 0, none⟩) (4 * k) vc) (4 * k) (bl F (4 * k)) := own_below ownA hbD (fun g' h => (ownA.lt g' h).2)
          have htT : RKS wA.heap.size 4 X (wA.alloc (.cells #[.int .u8 (s0 : Nat), .int .u8 (s1 : Nat), .int .u8 (s2 : Nat), .int .u8 (s3 : Nat)] 5)).drew := fun j hj => by rw [hX]; exact (Has.new wA 5 (cellsN .u8 4 (four s0 s1 s2 s3))).num j hj
          have hgtT : wA.heap.size < (wA.alloc (.cells #[.int .u8 (s0 : Nat), .int .u8 (s1 : Nat), .int .u8 (s2 : Nat), .int .u8 (s3 : Nat)] 5)).drew.heap.size := (Has.new wA 5 #[.int .u8 (s0 : Nat), .int .u8 (s1 : Nat), .int .u8 (s2 : Nat), .int .u8 (s3 : Nat)]).lt
          have hgne : g ≠ wA.heap.size := by have := (ownA.lt g rfl).2; omega
          have hbT : Below w.heap.size w (wA.alloc (.cells #[.int .u8 (s0 : Nat), .int .u8 (s1 : Nat), .int .u8 (s2 : Nat), .int .u8 (s3 : Nat)] 5)).drew := (hbA.alloc hbA.size _).drew
          have e0 : (wA.alloc (.cells #[.int .u8 (s0 : Nat), .int .u8 (s1 : Nat), .int .u8 (s2 : Nat), .int .u8 (s3 : Nat)] 5)).drew.cell? ⟨gA, 0, none⟩ = some (.int .u8 (x0 : Nat)) := (hbD.cell (p := ⟨gA, 0, none⟩) hXA.lt).trans c0
          have e1 : (wA.alloc (.cells #[.int .u8 (s0 : Nat), .int .u8 (s1 : Nat), .int .u8 (s2 : Nat), .int .u8 (s3 : Nat)] 5)).drew.cell? ⟨gA, 1, none⟩ = some (.int .u8 (x1 : Nat)) := (hbD.cell (p := ⟨gA, 1, none⟩) hXA.lt).trans c1
          have e2 : (wA.alloc (.cells #[.int .u8 (s0 : Nat), .int .u8 (s1 : Nat), .int .u8 (s2 : Nat), .int .u8 (s3 : Nat)] 5)).drew.cell? ⟨gA, 2, none⟩ = some (.int .u8 (x2 : Nat)) := (hbD.cell (p := ⟨gA, 2, none⟩) hXA.lt).trans c2
          have e3 : (wA.alloc (.cells #[.int .u8 (s0 : Nat), .int .u8 (s1 : Nat), .int .u8 (s2 : Nat), .int .u8 (s3 : Nat)] 5)).drew.cell? ⟨gA, 3, none⟩ = some (.int .u8 (x3 : Nat)) := (hbD.cell (p := ⟨gA, 3, none⟩) hXA.lt).trans c3
          clear hbD hclA ownA hbA hXA hX hgg hg hbase
          go_wp2_with fail
          go_region_held3 (fun w' => w'.cell? ⟨gA, 0, none⟩ = some (.int .u8 (x0 : Nat)) ∧ w'.cell? ⟨gA, 1, none⟩ = some (.int .u8 (x1 : Nat)) ∧ w'.cell? ⟨gA, 2, none⟩ = some (.int .u8 (x2 : Nat)) ∧ w'.cell? ⟨gA, 3, none⟩ = some (.int .u8 (x3 : Nat)))
            (first | exact ⟨c0, c1, c2, c3⟩ | exact ⟨e0, e1, e2, e3⟩ | go_keep)
            (first
              | (go_at_call_of 28 (Value.int .u8 (x0 : Nat)); refine (HC0.out _).mono ?_; rintro e w' ⟨rfl, rfl⟩)
              | (go_at_call_of 28 (Value.int .u8 (x1 : Nat)); refine (HC1.out _).mono ?_; rintro e w' ⟨rfl, rfl⟩)
              | (go_at_call_of 28 (Value.int .u8 (x2 : Nat)); refine (HC2.out _).mono ?_; rintro e w' ⟨rfl, rfl⟩)
              | (go_at_call_of 28 (Value.int .u8 (x3 : Nat)); refine (HC3.out _).mono ?_; rintro e w' ⟨rfl, rfl⟩))
          clear c0 c1 c2 c3 e0 e1 e2 e3
          go_wp2
          go_loopw [4, 8] (fun v i wr => ∃ j g2 vc2 : Nat, j ≤ 4 ∧ i = .int .i64 (j : Nat) ∧ v = .slice (some ⟨g2, 0, none⟩) (4 * k + j) vc2 ∧ wr.ownsRow w.heap.size 5 1 (.slice (some ⟨g2, 0, none⟩) (4 * k + j) vc2) (4 * k + j) (bl F (4 * k + j)) ∧ RKS wA.heap.size 4 X wr ∧ wA.heap.size < wr.heap.size ∧ g2 ≠ wA.heap.size ∧ Below w.heap.size w wr)
            (fun _ i _ => 4 - (intOf i).toNat)
          case atStart => exact ⟨0, g, vc, Nat.zero_le _, rfl, rfl, ownT, htT, hgtT, hgne, hbT⟩
          case round =>
            clear ownT htT hgtT hgne hbT
            obtain ⟨j, g2, vc2, hj, rfl, rfl, own2, ht2, hgt2, hne2, hb2⟩ := hrel
            obtain ⟨hc2, hg2, hbase2⟩ := own_cells own2 (by omega)
            by_cases hjl : j < 4
            · have ij : (j : Int) < 4 := by omega
              go_wp2_with fail
              refine wp_region_held_drew (S := fun wz => RKS g2 (4 * k + j) F wz ∧ RKS wA.heap.size 4 X wz) (by kernel_rfl) ⟨hc2, ht2⟩ (fun hHeld => ?_)
              refine takeTo 0 (some 109) (.slice (some ⟨g2, 0, none⟩) (4 * k + j) vc2) rfl rfl (by kernel_rfl) (by kernel_rfl) (by kernel_rfl) (fun _ _ _ h => h) (by rfl) (fun _ _ => rfl) hHeld ?_
              simp only [Act.put, List.setIfInBounds_toArray, List.set_cons_zero, List.set_cons_succ]
              refine takeTo 1 (some 110) (.slice (some ⟨g2, 0, none⟩) (4 * k + j) vc2) rfl rfl (by kernel_rfl) (by kernel_rfl) (by kernel_rfl) (fun _ _ _ h => h) (by rfl) (fun _ _ => rfl) hHeld ?_
              simp only [Act.put, List.setIfInBounds_toArray, List.set_cons_zero, List.set_cons_succ]
              refine takeTo 2 (some 111) (.int .i64 (k : Nat)) rfl rfl (by kernel_rfl) (by kernel_rfl) (by kernel_rfl) (fun _ _ _ h => h) (by rfl) (fun _ _ => rfl) hHeld ?_
              simp only [Act.put, List.setIfInBounds_toArray, List.set_cons_zero, List.set_cons_succ]
              refine takeTo 3 (some 112) (.int .i64 (8 : Nat)) rfl rfl (by kernel_rfl) (by kernel_rfl) (by kernel_rfl) (fun _ _ _ h => h) (by rfl) (fun _ _ => rfl) hHeld ?_
              simp only [Act.put, List.setIfInBounds_toArray, List.set_cons_zero, List.set_cons_succ]
              refine takeTo 4 (some 113) (.int .i64 ((k - 8 : Nat) : Int)) rfl rfl (by kernel_rfl) (by kernel_rfl) (by kernel_rfl) (fun _ _ _ h => h) (by rfl) (fun wz _ => run_subN (.tmp 111) (.tmp 112) rfl k 8 rfl rfl (by omega) (by omega) wz) hHeld ?_
              simp only [Act.put, List.setIfInBounds_toArray, List.set_cons_zero, List.set_cons_succ]
              refine takeTo 5 (some 114) (.int .i64 ((4 * (k - 8) : Nat) : Int)) rfl rfl (by kernel_rfl) (by kernel_rfl) (by kernel_rfl) (fun _ _ _ h => h) (by rfl) (fun wz _ => run_4mul (.tmp 113) rfl (k - 8) rfl (by omega) wz) hHeld ?_
              simp only [Act.put, List.setIfInBounds_toArray, List.set_cons_zero, List.set_cons_succ]
              refine takeTo 6 (some 115) (.int .i64 (j : Nat)) rfl rfl (by kernel_rfl) (by kernel_rfl) (by kernel_rfl) (fun _ _ _ h => h) (by rfl) (fun _ _ => rfl) hHeld ?_
              simp only [Act.put, List.setIfInBounds_toArray, List.set_cons_zero, List.set_cons_succ]
              refine takeTo 7 (some 116) (.int .i64 ((4 * (k - 8) + j : Nat) : Int)) rfl rfl (by kernel_rfl) (by kernel_rfl) (by kernel_rfl) (fun _ _ _ h => h) (by rfl) (fun wz _ => run_addN (.tmp 114) (.tmp 115) rfl (4 * (k - 8)) j rfl rfl (by omega) (by omega) wz) hHeld ?_
              simp only [Act.put, List.setIfInBounds_toArray, List.set_cons_zero, List.set_cons_succ]
              refine takeTo 8 (some 117) (.pointer (some ⟨g2, 0 + (4 * (k - 8) + j) * 1, none⟩)) rfl rfl (by kernel_rfl) (by kernel_rfl) (by kernel_rfl) (fun _ _ _ h => h) (by rfl) (fun wz _ => run_indexAddrS 22 (.tmp 110) (.tmp 116) rfl g2 0 (4 * (k - 8) + j) (4 * k + j) vc2 1 5 rfl rfl Try.underlying22 one_u8 (by omega) wz) hHeld ?_
              simp only [Act.put, List.setIfInBounds_toArray, List.set_cons_zero, List.set_cons_succ]
              refine takeTo 9 (some 118) (.int .u8 (F (4 * (k - 8) + j) : Nat)) rfl rfl (by kernel_rfl) (by kernel_rfl) (by kernel_rfl) (fun _ _ _ h => h) (by rfl) (fun wz h => run_load_u8 (.tmp 117) rfl g2 (0 + (4 * (k - 8) + j) * 1) rfl _ wz (by rw [Nat.zero_add, Nat.mul_one]; exact h.1 _ (by omega))) hHeld ?_
              simp only [Act.put, List.setIfInBounds_toArray, List.set_cons_zero, List.set_cons_succ]
              refine takeTo 10 (some 119) (.slice (some ⟨wA.heap.size, 0, none⟩) 4 4) rfl rfl (by kernel_rfl) (by kernel_rfl) (by kernel_rfl) (fun _ _ _ h => h) (by rfl) (fun _ _ => rfl) hHeld ?_
              simp only [Act.put, List.setIfInBounds_toArray, List.set_cons_zero, List.set_cons_succ]
              refine takeTo 11 (some 120) (.int .i64 (j : Nat)) rfl rfl (by kernel_rfl) (by kernel_rfl) (by kernel_rfl) (fun _ _ _ h => h) (by rfl) (fun _ _ => rfl) hHeld ?_
              simp only [Act.put, List.setIfInBounds_toArray, List.set_cons_zero, List.set_cons_succ]
              refine takeTo 12 (some 121) (.pointer (some ⟨wA.heap.size, 0 + j * 1, none⟩)) rfl rfl (by kernel_rfl) (by kernel_rfl) (by kernel_rfl) (fun _ _ _ h => h) (by rfl) (fun wz _ => run_indexAddrS 22 (.tmp 119) (.tmp 120) rfl wA.heap.size 0 j 4 4 1 5 rfl rfl Try.underlying22 one_u8 hjl wz) hHeld ?_
              simp only [Act.put, List.setIfInBounds_toArray, List.set_cons_zero, List.set_cons_succ]
              refine takeTo 13 (some 122) (.int .u8 (X j : Nat)) rfl rfl (by kernel_rfl) (by kernel_rfl) (by kernel_rfl) (fun _ _ _ h => h) (by rfl) (fun wz h => run_load_u8 (.tmp 121) rfl wA.heap.size (0 + j * 1) rfl _ wz (by rw [Nat.zero_add, Nat.mul_one]; exact h.2 _ hjl)) hHeld ?_
              simp only [Act.put, List.setIfInBounds_toArray, List.set_cons_zero, List.set_cons_succ]
              refine takeTo 14 (some 123) (.int .u8 ((F (4 * (k - 8) + j) ^^^ X j : Nat) : Int)) rfl rfl (by kernel_rfl) (by kernel_rfl) (by kernel_rfl) (fun _ _ _ h => h) (by rfl) (fun wz _ => run_xor8 (.tmp 118) (.tmp 122) rfl _ _ rfl rfl (hFl _) (hXl j hjl) wz) hHeld ?_
              simp only [Act.put, List.setIfInBounds_toArray, List.set_cons_zero, List.set_cons_succ]
              have hbB : Below wr.drew.heap.size wr.drew (wr.drew.alloc (.cells #[.int .u8 ((F (4 * (k - 8) + j) ^^^ X j : Nat) : Int)] 5)) := (Below.refl _ _).alloc (Nat.le_refl _) _
              have own2d : wr.drew.ownsRow w.heap.size 5 1 (.slice (some ⟨g2, 0, none⟩) (4 * k + j) vc2) (4 * k + j) (bl F (4 * k + j)) := own2
              have own3 := own_below own2d hbB (fun g' h => (own2d.lt g' h).2)
              have hc3 : RKS g2 (4 * k + j) F (wr.drew.alloc (.cells #[.int .u8 ((F (4 * (k - 8) + j) ^^^ X j : Nat) : Int)] 5)) := fun i hi => (hbB.cell (p := ⟨g2, i, none⟩) hg2).trans (hc2 i hi)
              have ht3 : RKS wA.heap.size 4 X (wr.drew.alloc (.cells #[.int .u8 ((F (4 * (k - 8) + j) ^^^ X j : Nat) : Int)] 5)) := fun i hi => (hbB.cell (p := ⟨wA.heap.size, i, none⟩) hgt2).trans (ht2 i hi)
              have hy3 := (Has.new wr.drew 5 #[.int .u8 ((F (4 * (k - 8) + j) ^^^ X j : Nat) : Int)]).cell 0
              have hb3 : Below w.heap.size w (wr.drew.alloc (.cells #[.int .u8 ((F (4 * (k - 8) + j) ^^^ X j : Nat) : Int)] 5)) := hb2.drew.alloc hb2.size _
              refine ready1 15 (by kernel_rfl) (stepVal (some 124) (.slice (some ⟨wr.drew.heap.size, 0, none⟩) 1 1) (wr.drew.alloc (.cells #[.int .u8 ((F (4 * (k - 8) + j) ^^^ X j : Nat) : Int)] 5)) rfl rfl (by rfl) (run_slice1 (.tmp 123) rfl _ rfl wr.drew) ⟨⟨hc3, ht3⟩, ?_⟩)
              simp only [Act.put, List.setIfInBounds_toArray, List.set_cons_zero, List.set_cons_succ]
              obtain ⟨w3, hw3⟩ : ∃ x, x = wr.drew.alloc (.cells #[.int .u8 ((F (4 * (k - 8) + j) ^^^ X j : Nat) : Int)] 5) := ⟨_, rfl⟩
              have hsz3 : w3.heap.size = wr.drew.heap.size + 1 := by rw [hw3]; simp
              obtain ⟨g3, hg3⟩ : ∃ x, x = wr.drew.heap.size := ⟨_, rfl⟩
              have hg2' : g2 < g3 := by rw [hg3]; exact hg2
              have hgt2' : wA.heap.size < g3 := by rw [hg3]; exact hgt2
              rw [← hw3, ← hg3]
              rw [← hw3] at own3 hc3 ht3 hy3 hb3
              rw [← hg3] at hy3 hsz3
              clear hbB own2d own2 hc2 ht2 hb2 hw3 hg3 hHeld hg2 hgt2
              obtain ⟨g4, c4, w4, hr4, own4, gr4, old4, lie4⟩ := run_append_byte w3 w.heap.size g2 vc2 (4 * k + j) F (by omega) own3 g3 1 _ hy3 (HV.out j hjl) (by omega) hb3.size
              have hb4 : Below w.heap.size w w4 := hb3.grown gr4 hb3.size (fun k' h => by obtain rfl : g2 = k' := Option.some.inj h; exact hbase2)
              have ht4 : RKS wA.heap.size 4 X w4 := fun i hi => (gr4.cell_far ⟨wA.heap.size, i, none⟩ (by show wA.heap.size < w3.heap.size; omega) (fun e => hne2 (Option.some.inj e).symm)).trans (ht3 i hi)
              refine ready1 16 (by kernel_rfl) (stepVal (some 125) (.slice (some ⟨g4, 0, none⟩) (4 * k + j + 1) c4) w4 rfl rfl (by rfl) (run_opB (.tmp 109) (.tmp 124) rfl rfl rfl hr4) ⟨⟨old4, ht4⟩, ?_⟩)
              simp only [Act.put, List.setIfInBounds_toArray, List.set_cons_zero, List.set_cons_succ]
              refine takeTo 17 (some 4) (.slice (some ⟨g4, 0, none⟩) (4 * k + j + 1) c4) rfl rfl (by kernel_rfl) (by kernel_rfl) (by kernel_rfl) (fun _ _ _ h => h) (by rfl) (fun _ _ => rfl) ⟨old4, ht4⟩ ?_
              simp only [Act.put, List.setIfInBounds_toArray, List.set_cons_zero, List.set_cons_succ]
              refine wpAnyH_done (by kernel_rfl) ?_ _
              go_wp2
              go_roundw
              case rel => exact ⟨j + 1, g4, c4, by omega, by go_num, rfl, own4, ht4, by have := gr4.size; omega, by omega, hb4⟩
              case measure => simp [intOf]; omega
            · obtain rfl : j = 4 := by omega
              go_wp2
              go_roundw
              case rel => exact ⟨k + 1, g2, vc2, by omega, by omega, by go_num, by rw [hpn], by rw [show 4 * (k + 1) = 4 * k + 4 by omega], by rw [show 4 * (k + 1) = 4 * k + 4 by omega]; exact own2, hb2⟩
              case measure => simp [intOf]; omega
        · have i3 : ¬ (k : Int) % 8 = 4 := by omega
          have i2 : ¬ (k : Int) % 8 = 0 := by omega
          have hpn : pw ((k + 1 - 1) / 8) = p := by rw [show (k + 1 - 1) / 8 = (k - 1) / 8 by omega]; exact HP.out.symm
          obtain ⟨X, hX⟩ : ∃ X, X = four x0 x1 x2 x3 := ⟨_, rfl⟩
          have hXl : ∀ j, j < 4 → X j < 256 := fun j hj => by rw [hX]; unfold four; split <;> (try split) <;> (try split) <;> (first | assumption | exact xor8 (by assumption) (by assumption))
          have HV : Hid (∀ j, j < 4 → F (4 * k + j) = F (4 * (k - 8) + j) ^^^ X j) := fun j hj => by
            rw [HFr.out k j hk1 hlt hj]
            congr 1
            rw [hX]
            unfold tw
            rw [if_neg ht0, if_neg (fun h => ht4 h.2)]
            rcases four_case hj with rfl | rfl | rfl | rfl
            · show F (4 * (k - 1) + 0) = x0
              rw [show 4 * (k - 1) + 0 = 4 * k - 4 by omega, HX0.out]
            · show F (4 * (k - 1) + 1) = x1
              rw [show 4 * (k - 1) + 1 = 4 * k - 3 by omega, HX1.out]
            · show F (4 * (k - 1) + 2) = x2
              rw [show 4 * (k - 1) + 2 = 4 * k - 2 by omega, HX2.out]
            · show F (4 * (k - 1) + 3) = x3
              rw [show 4 * (k - 1) + 3 = 4 * k - 1 by omega, HX3.out]
          have ownT := ownA
          have htT : RKS gA 4 X wA := fun j hj => by rw [hX]; exact hXA.num j hj
          have hgtT : gA < wA.heap.size := hXA.lt
          have hgne : g ≠ gA := by omega
          have hbT := hbA
          clear hclA ownA hbA hXA hX hgg hg hbase
          go_wp2
          go_loopw [4, 8] (fun v i wr => ∃ j g2 vc2 : Nat, j ≤ 4 ∧ i = .int .i64 (j : Nat) ∧ v = .slice (some ⟨g2, 0, none⟩) (4 * k + j) vc2 ∧ wr.ownsRow w.heap.size 5 1 (.slice (some ⟨g2, 0, none⟩) (4 * k + j) vc2) (4 * k + j) (bl F (4 * k + j)) ∧ RKS gA 4 X wr ∧ gA < wr.heap.size ∧ g2 ≠ gA ∧ Below w.heap.size w wr)
            (fun _ i _ => 4 - (intOf i).toNat)
          case atStart => exact ⟨0, g, vc, Nat.zero_le _, rfl, rfl, ownT, htT, hgtT, hgne, hbT⟩
          case round =>
            clear ownT htT hgtT hgne hbT
            obtain ⟨j, g2, vc2, hj, rfl, rfl, own2, ht2, hgt2, hne2, hb2⟩ := hrel
            obtain ⟨hc2, hg2, hbase2⟩ := own_cells own2 (by omega)
            by_cases hjl : j < 4
            · have ij : (j : Int) < 4 := by omega
              go_wp2_with fail
              refine wp_region_held_drew (S := fun wz => RKS g2 (4 * k + j) F wz ∧ RKS gA 4 X wz) (by kernel_rfl) ⟨hc2, ht2⟩ (fun hHeld => ?_)
              refine takeTo 0 (some 109) (.slice (some ⟨g2, 0, none⟩) (4 * k + j) vc2) rfl rfl (by kernel_rfl) (by kernel_rfl) (by kernel_rfl) (fun _ _ _ h => h) (by rfl) (fun _ _ => rfl) hHeld ?_
              simp only [Act.put, List.setIfInBounds_toArray, List.set_cons_zero, List.set_cons_succ]
              refine takeTo 1 (some 110) (.slice (some ⟨g2, 0, none⟩) (4 * k + j) vc2) rfl rfl (by kernel_rfl) (by kernel_rfl) (by kernel_rfl) (fun _ _ _ h => h) (by rfl) (fun _ _ => rfl) hHeld ?_
              simp only [Act.put, List.setIfInBounds_toArray, List.set_cons_zero, List.set_cons_succ]
              refine takeTo 2 (some 111) (.int .i64 (k : Nat)) rfl rfl (by kernel_rfl) (by kernel_rfl) (by kernel_rfl) (fun _ _ _ h => h) (by rfl) (fun _ _ => rfl) hHeld ?_
              simp only [Act.put, List.setIfInBounds_toArray, List.set_cons_zero, List.set_cons_succ]
              refine takeTo 3 (some 112) (.int .i64 (8 : Nat)) rfl rfl (by kernel_rfl) (by kernel_rfl) (by kernel_rfl) (fun _ _ _ h => h) (by rfl) (fun _ _ => rfl) hHeld ?_
              simp only [Act.put, List.setIfInBounds_toArray, List.set_cons_zero, List.set_cons_succ]
              refine takeTo 4 (some 113) (.int .i64 ((k - 8 : Nat) : Int)) rfl rfl (by kernel_rfl) (by kernel_rfl) (by kernel_rfl) (fun _ _ _ h => h) (by rfl) (fun wz _ => run_subN (.tmp 111) (.tmp 112) rfl k 8 rfl rfl (by omega) (by omega) wz) hHeld ?_
              simp only [Act.put, List.setIfInBounds_toArray, List.set_cons_zero, List.set_cons_succ]
              refine takeTo 5 (some 114) (.int .i64 ((4 * (k - 8) : Nat) : Int)) rfl rfl (by kernel_rfl) (by kernel_rfl) (by kernel_rfl) (fun _ _ _ h => h) (by rfl) (fun wz _ => run_4mul (.tmp 113) rfl (k - 8) rfl (by omega) wz) hHeld ?_
              simp only [Act.put, List.setIfInBounds_toArray, List.set_cons_zero, List.set_cons_succ]
              refine takeTo 6 (some 115) (.int .i64 (j : Nat)) rfl rfl (by kernel_rfl) (by kernel_rfl) (by kernel_rfl) (fun _ _ _ h => h) (by rfl) (fun _ _ => rfl) hHeld ?_
              simp only [Act.put, List.setIfInBounds_toArray, List.set_cons_zero, List.set_cons_succ]
              refine takeTo 7 (some 116) (.int .i64 ((4 * (k - 8) + j : Nat) : Int)) rfl rfl (by kernel_rfl) (by kernel_rfl) (by kernel_rfl) (fun _ _ _ h => h) (by rfl) (fun wz _ => run_addN (.tmp 114) (.tmp 115) rfl (4 * (k - 8)) j rfl rfl (by omega) (by omega) wz) hHeld ?_
              simp only [Act.put, List.setIfInBounds_toArray, List.set_cons_zero, List.set_cons_succ]
              refine takeTo 8 (some 117) (.pointer (some ⟨g2, 0 + (4 * (k - 8) + j) * 1, none⟩)) rfl rfl (by kernel_rfl) (by kernel_rfl) (by kernel_rfl) (fun _ _ _ h => h) (by rfl) (fun wz _ => run_indexAddrS 22 (.tmp 110) (.tmp 116) rfl g2 0 (4 * (k - 8) + j) (4 * k + j) vc2 1 5 rfl rfl Try.underlying22 one_u8 (by omega) wz) hHeld ?_
              simp only [Act.put, List.setIfInBounds_toArray, List.set_cons_zero, List.set_cons_succ]
              refine takeTo 9 (some 118) (.int .u8 (F (4 * (k - 8) + j) : Nat)) rfl rfl (by kernel_rfl) (by kernel_rfl) (by kernel_rfl) (fun _ _ _ h => h) (by rfl) (fun wz h => run_load_u8 (.tmp 117) rfl g2 (0 + (4 * (k - 8) + j) * 1) rfl _ wz (by rw [Nat.zero_add, Nat.mul_one]; exact h.1 _ (by omega))) hHeld ?_
              simp only [Act.put, List.setIfInBounds_toArray, List.set_cons_zero, List.set_cons_succ]
              refine takeTo 10 (some 119) (.slice (some ⟨gA, 0, none⟩) 4 4) rfl rfl (by kernel_rfl) (by kernel_rfl) (by kernel_rfl) (fun _ _ _ h => h) (by rfl) (fun _ _ => rfl) hHeld ?_
              simp only [Act.put, List.setIfInBounds_toArray, List.set_cons_zero, List.set_cons_succ]
              refine takeTo 11 (some 120) (.int .i64 (j : Nat)) rfl rfl (by kernel_rfl) (by kernel_rfl) (by kernel_rfl) (fun _ _ _ h => h) (by rfl) (fun _ _ => rfl) hHeld ?_
              simp only [Act.put, List.setIfInBounds_toArray, List.set_cons_zero, List.set_cons_succ]
              refine takeTo 12 (some 121) (.pointer (some ⟨gA, 0 + j * 1, none⟩)) rfl rfl (by kernel_rfl) (by kernel_rfl) (by kernel_rfl) (fun _ _ _ h => h) (by rfl) (fun wz _ => run_indexAddrS 22 (.tmp 119) (.tmp 120) rfl gA 0 j 4 4 1 5 rfl rfl Try.underlying22 one_u8 hjl wz) hHeld ?_
              simp only [Act.put, List.setIfInBounds_toArray, List.set_cons_zero, List.set_cons_succ]
              refine takeTo 13 (some 122) (.int .u8 (X j : Nat)) rfl rfl (by kernel_rfl) (by kernel_rfl) (by kernel_rfl) (fun _ _ _ h => h) (by rfl) (fun wz h => run_load_u8 (.tmp 121) rfl gA (0 + j * 1) rfl _ wz (by rw [Nat.zero_add, Nat.mul_one]; exact h.2 _ hjl)) hHeld ?_
              simp only [Act.put, List.setIfInBounds_toArray, List.set_cons_zero, List.set_cons_succ]
              refine takeTo 14 (some 123) (.int .u8 ((F (4 * (k - 8) + j) ^^^ X j : Nat) : Int)) rfl rfl (by kernel_rfl) (by kernel_rfl) (by kernel_rfl) (fun _ _ _ h => h) (by rfl) (fun wz _ => run_xor8 (.tmp 118) (.tmp 122) rfl _ _ rfl rfl (hFl _) (hXl j hjl) wz) hHeld ?_
              simp only [Act.put, List.setIfInBounds_toArray, List.set_cons_zero, List.set_cons_succ]
              have hbB : Below wr.drew.heap.size wr.drew (wr.drew.alloc (.cells #[.int .u8 ((F (4 * (k - 8) + j) ^^^ X j : Nat) : Int)] 5)) := (Below.refl _ _).alloc (Nat.le_refl _) _
              have own2d : wr.drew.ownsRow w.heap.size 5 1 (.slice (some ⟨g2, 0, none⟩) (4 * k + j) vc2) (4 * k + j) (bl F (4 * k + j)) := own2
              have own3 := own_below own2d hbB (fun g' h => (own2d.lt g' h).2)
              have hc3 : RKS g2 (4 * k + j) F (wr.drew.alloc (.cells #[.int .u8 ((F (4 * (k - 8) + j) ^^^ X j : Nat) : Int)] 5)) := fun i hi => (hbB.cell (p := ⟨g2, i, none⟩) hg2).trans (hc2 i hi)
              have ht3 : RKS gA 4 X (wr.drew.alloc (.cells #[.int .u8 ((F (4 * (k - 8) + j) ^^^ X j : Nat) : Int)] 5)) := fun i hi => (hbB.cell (p := ⟨gA, i, none⟩) hgt2).trans (ht2 i hi)
              have hy3 := (Has.new wr.drew 5 #[.int .u8 ((F (4 * (k - 8) + j) ^^^ X j : Nat) : Int)]).cell 0
              have hb3 : Below w.heap.size w (wr.drew.alloc (.cells #[.int .u8 ((F (4 * (k - 8) + j) ^^^ X j : Nat) : Int)] 5)) := hb2.drew.alloc hb2.size _
              refine ready1 15 (by kernel_rfl) (stepVal (some 124) (.slice (some ⟨wr.drew.heap.size, 0, none⟩) 1 1) (wr.drew.alloc (.cells #[.int .u8 ((F (4 * (k - 8) + j) ^^^ X j : Nat) : Int)] 5)) rfl rfl (by rfl) (run_slice1 (.tmp 123) rfl _ rfl wr.drew) ⟨⟨hc3, ht3⟩, ?_⟩)
              simp only [Act.put, List.setIfInBounds_toArray, List.set_cons_zero, List.set_cons_succ]
              obtain ⟨w3, hw3⟩ : ∃ x, x = wr.drew.alloc (.cells #[.int .u8 ((F (4 * (k - 8) + j) ^^^ X j : Nat) : Int)] 5) := ⟨_, rfl⟩
              have hsz3 : w3.heap.size = wr.drew.heap.size + 1 := by rw [hw3]; simp
              obtain ⟨g3, hg3⟩ : ∃ x, x = wr.drew.heap.size := ⟨_, rfl⟩
              have hg2' : g2 < g3 := by rw [hg3]; exact hg2
              have hgt2' : gA < g3 := by rw [hg3]; exact hgt2
              rw [← hw3, ← hg3]
              rw [← hw3] at own3 hc3 ht3 hy3 hb3
              rw [← hg3] at hy3 hsz3
              clear hbB own2d own2 hc2 ht2 hb2 hw3 hg3 hHeld hg2 hgt2
              obtain ⟨g4, c4, w4, hr4, own4, gr4, old4, lie4⟩ := run_append_byte w3 w.heap.size g2 vc2 (4 * k + j) F (by omega) own3 g3 1 _ hy3 (HV.out j hjl) (by omega) hb3.size
              have hb4 : Below w.heap.size w w4 := hb3.grown gr4 hb3.size (fun k' h => by obtain rfl : g2 = k' := Option.some.inj h; exact hbase2)
              have ht4 : RKS gA 4 X w4 := fun i hi => (gr4.cell_far ⟨gA, i, none⟩ (by show gA < w3.heap.size; omega) (fun e => hne2 (Option.some.inj e).symm)).trans (ht3 i hi)
              refine ready1 16 (by kernel_rfl) (stepVal (some 125) (.slice (some ⟨g4, 0, none⟩) (4 * k + j + 1) c4) w4 rfl rfl (by rfl) (run_opB (.tmp 109) (.tmp 124) rfl rfl rfl hr4) ⟨⟨old4, ht4⟩, ?_⟩)
              simp only [Act.put, List.setIfInBounds_toArray, List.set_cons_zero, List.set_cons_succ]
              refine takeTo 17 (some 4) (.slice (some ⟨g4, 0, none⟩) (4 * k + j + 1) c4) rfl rfl (by kernel_rfl) (by kernel_rfl) (by kernel_rfl) (fun _ _ _ h => h) (by rfl) (fun _ _ => rfl) ⟨old4, ht4⟩ ?_
              simp only [Act.put, List.setIfInBounds_toArray, List.set_cons_zero, List.set_cons_succ]
              refine wpAnyH_done (by kernel_rfl) ?_ _
              go_wp2
              go_roundw
              case rel => exact ⟨j + 1, g4, c4, by omega, by go_num, rfl, own4, ht4, by have := gr4.size; omega, by omega, hb4⟩
              case measure => simp [intOf]; omega
            · obtain rfl : j = 4 := by omega
              go_wp2
              go_roundw
              case rel => exact ⟨k + 1, g2, vc2, by omega, by omega, by go_num, by rw [hpn], by rw [show 4 * (k + 1) = 4 * k + 4 by omega], by rw [show 4 * (k + 1) = 4 * k + 4 by omega]; exact own2, hb2⟩
              case measure => simp [intOf]; omega
    · obtain rfl : k = 60 := by omega
      go_wp2
      go_ret
      exact ⟨g, vc, rfl, hbase, hg, hcl, hbel⟩

end Go.Proofs.Ytcnlegnfecpdnaa
