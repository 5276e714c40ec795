/- XtsApart, walked. -/
import Derived.Test.YtcnlegnfecpdnaaXApM
namespace Go.Proofs.Ytcnlegnfecpdnaa
open Go.ChangeShapes Go.WideShapes Go.ChangeAt Go.RowKit
set_option linter.unusedVariables false

theorem i64_boundsA {n : Int} (h : (Lit.int .i64 n).wf = true) : -9223372036854775808 ≤ n ∧ n ≤ 9223372036854775807 := by
  simp [Lit.wf, IntKind.min, IntKind.max, IntKind.signed, IntKind.bits] at h
  omega

/-- What At comes to. -/
def atA (x : Int) : Nat := if x < 0 then (-(x + 1)).toNat else x.toNat

theorem run_build0 {o : Oper} {a : Act} (ho : o.op = .build 23 #[]) (w : World) : (execOp a.eval o).run Try.prog w = .ok (.value (.agg (cellsN .u8 16 fun _ => 0))) w := by
  have h := nilBlock w
  unfold execOp
  simp only [ho]
  simp [h]

theorem takeA {w : World} {a : Option Addr} {len m : Nat} {D : Nat → Nat} (h : Bytes w a len D) (hm : m ≤ len) : Bytes w a m D := by
  rcases h with h | ⟨b, off, h1, h2, h3⟩
  · exact .inl (by omega)
  · exact .inr ⟨b, off, h1, h2, fun j hj => h3 j (by omega)⟩

set_option maxRecDepth 100000 in
theorem xap_long (f h : Nat → Nat) (s x : Int) (a : Option Addr) (len cap : Nat) (w : World) (hl : 256 < len ∨ len < 16) (hl2 : len ≤ 140737488351232) :
    Calls Try.prog 6 #[.agg (cellsN .u8 32 f), .slice a len cap, .agg (spotCells s x h)] w fun e w' => e = .returned (.bool true) ∧ Below w.heap.size w w' := by
  have hB0 : Below w.heap.size w ((w.alloc (.cells (cellsN .u8 32 f) 43)).alloc (.cells (spotCells s x h) 47)) := two_below _ _ _
  rcases hl with h1 | h1
  · have i1 : (256 : Int) < (len : Int) := by omega
    go_enter Try.func6, Try.ntmps6
    go_wp2_with (go_at_call 17; refine (xalive_any _).mono ?_; rintro e w2 ⟨rfl, hb2⟩; have hB2 := hB0.trans (hb2.mono hB0.size))
    go_ret
    exact ⟨rfl, hB2⟩
  · have i1 : ¬ (256 : Int) < (len : Int) := by omega
    have i2 : (len : Int) / 16 = 0 := by omega
    go_enter Try.func6, Try.ntmps6
    go_wp2_with (go_at_call 17; refine (xalive_any _).mono ?_; rintro e w2 ⟨rfl, hb2⟩; have hB2 := hB0.trans (hb2.mono hB0.size))
    go_ret
    exact ⟨rfl, hB2⟩

set_option maxRecDepth 100000 in
set_option maxHeartbeats 3200000 in
theorem xap_neg (f B : Nat → Nat) (s : Nat) (x : Int) (b o len n r cap : Nat) (D : Nat → Nat) (w : World) (hf : ∀ j, f j < 256) (hB : ∀ j, j < 16 → B j < 256) (hs : s < 18446744073709551616) (hx : -9223372036854775808 ≤ x ∧ x ≤ 9223372036854775807) (hD : ∀ j, D j < 256) (hlen : len ≤ 256) (hn : n = len / 16) (hn1 : 1 ≤ n) (hr : r = atA x % n) (hcap : len ≤ cap) (hcap2 : cap ≤ 140737488351232) (hb : Bytes w (some ⟨b, o, none⟩) len D) (hneg : x < 0) :
    Calls Try.prog 6 #[.agg (cellsN .u8 32 f), .slice (some ⟨b, o, none⟩) len cap, .agg (spotCells (s : Nat) x B)] w fun e w' => e = .returned (.bool true) ∧ Below w.heap.size w w' := by
  have hr1 : r < n := by rw [hr]; exact Nat.mod_lt _ (by omega)
  obtain ⟨N, hN⟩ : ∃ N, N = 16 * n := ⟨_, rfl⟩
  have i1 : ¬ (256 : Int) < (len : Int) := by omega
  have i2 : (len : Int) / 16 = (n : Int) := by omega
  have i3 : ¬ (n : Int) = 0 := by omega
  have i4 : ((n : Int) == 0) = false := by simp; omega
  have i5 : (n : Int) ≤ 16 := by omega
  have i6 : (1 : Int) ≤ (n : Int) := by omega
  have i7 : -((x + 1).tmod (n : Int)) = (r : Int) := by
    have e : (-(x + 1)) = (atA x : Int) := by unfold atA; rw [if_pos hneg]; omega
    rw [← Int.neg_tmod]
    rw [e, hr, Int.tmod_eq_emod_of_nonneg (by omega)]
    omega
  have i8 : (r : Int) < (n : Int) := by omega
  have i9 : (0 : Int) ≤ (r : Int) := by omega
  have i10 : 16 * (n : Int) = (N : Int) := by omega
  have g0 : n ≤ 16 := by omega
  have g1 : N ≤ len := by omega
  have g2x : 0 < N := by omega
  have g5 : N % 16 = 0 := by omega
  have HN16 : Hid (N = 16 * n) := hN
  clear hn hr hN
  have hDw := takeA hb g1
  have hD2 := byAt_lt D B r 16 (Nat.le_refl _) hD hB
  have hP := sealF_lt f hf s D hD
  have hR := openF_lt f hf s D hD
  have hP2 := sealF_lt f hf s _ hD2
  have hR2 := openF_lt f hf s _ hD2
  have HP : Hid (∀ i, (strN (fun j => sealF f s D (16 * i + j)) 16 == strN (fun j => sealF f s (byAt D B r 16) (16 * i + j)) 16) = !chgB B i r) := fun i => chg_seal f hf s D B hD hB r i
  have HR : Hid (∀ i, (strN (fun j => openF f s D (16 * i + j)) 16 == strN (fun j => openF f s (byAt D B r 16) (16 * i + j)) 16) = !chgB B i r) := fun i => chg_open f hf s D B hD hB r i
  have HS1 : Hid (∀ wz g gk gl b c, N ≤ c → XK wz g gk gl f → Bytes wz (some ⟨b, 0, none⟩) N D → Calls Try.prog 20 #[.pointer (some ⟨g, 0, none⟩), .int .u64 (s : Nat), .slice (some ⟨b, 0, none⟩) N c] wz fun e w' => ∃ q, e = .returned (.tuple #[.slice (some ⟨q, 0, none⟩) N N, .int .i64 0]) ∧ wz.heap.size ≤ q ∧ Has w' q 5 (cellsN .u8 N (sealF f s D)) ∧ Below wz.heap.size wz w') :=
    fun wz g gk gl b c hc hC h => seal_lawX f hf g gk gl s b 0 c N D wz hs hD g2x g5 (by omega) hc hC h
  have HS2 : Hid (∀ wz g gk gl b c, N ≤ c → XK wz g gk gl f → Bytes wz (some ⟨b, 0, none⟩) N (byAt D B r 16) → Calls Try.prog 20 #[.pointer (some ⟨g, 0, none⟩), .int .u64 (s : Nat), .slice (some ⟨b, 0, none⟩) N c] wz fun e w' => ∃ q, e = .returned (.tuple #[.slice (some ⟨q, 0, none⟩) N N, .int .i64 0]) ∧ wz.heap.size ≤ q ∧ Has w' q 5 (cellsN .u8 N (sealF f s (byAt D B r 16))) ∧ Below wz.heap.size wz w') :=
    fun wz g gk gl b c hc hC h => seal_lawX f hf g gk gl s b 0 c N (byAt D B r 16) wz hs hD2 g2x g5 (by omega) hc hC h
  have HO1 : Hid (∀ wz g gk gl b c, N ≤ c → XK wz g gk gl f → Bytes wz (some ⟨b, 0, none⟩) N D → Calls Try.prog 22 #[.pointer (some ⟨g, 0, none⟩), .int .u64 (s : Nat), .slice (some ⟨b, 0, none⟩) N c] wz fun e w' => ∃ q, e = .returned (.tuple #[.slice (some ⟨q, 0, none⟩) N N, .int .i64 0]) ∧ wz.heap.size ≤ q ∧ Has w' q 5 (cellsN .u8 N (openF f s D)) ∧ Below wz.heap.size wz w') :=
    fun wz g gk gl b c hc hC h => open_lawX f hf g gk gl s b 0 c N D wz hs hD g2x g5 (by omega) hc hC h
  have HO2 : Hid (∀ wz g gk gl b c, N ≤ c → XK wz g gk gl f → Bytes wz (some ⟨b, 0, none⟩) N (byAt D B r 16) → Calls Try.prog 22 #[.pointer (some ⟨g, 0, none⟩), .int .u64 (s : Nat), .slice (some ⟨b, 0, none⟩) N c] wz fun e w' => ∃ q, e = .returned (.tuple #[.slice (some ⟨q, 0, none⟩) N N, .int .i64 0]) ∧ wz.heap.size ≤ q ∧ Has w' q 5 (cellsN .u8 N (openF f s (byAt D B r 16))) ∧ Below wz.heap.size wz w') :=
    fun wz g gk gl b c hc hC h => open_lawX f hf g gk gl s b 0 c N (byAt D B r 16) wz hs hD2 g2x g5 (by omega) hc hC h
  obtain ⟨P, hPe⟩ : ∃ P, P = sealF f s D := ⟨_, rfl⟩
  obtain ⟨R, hRe⟩ : ∃ R, R = openF f s D := ⟨_, rfl⟩
  obtain ⟨P2, hP2e⟩ : ∃ P, P = sealF f s (byAt D B r 16) := ⟨_, rfl⟩
  obtain ⟨R2, hR2e⟩ : ∃ R, R = openF f s (byAt D B r 16) := ⟨_, rfl⟩
  rw [← hPe] at HS1 hP HP
  rw [← hRe] at HO1 hR HR
  rw [← hP2e] at HS2 hP2 HP
  rw [← hR2e] at HO2 hR2 HR
  clear hPe hRe hP2e hR2e hb
  obtain ⟨w0, hw0⟩ : ∃ x', x' = (w.alloc (.cells (cellsN .u8 32 f) 43)).alloc (.cells (spotCells (s : Nat) x B) 47) := ⟨_, rfl⟩
  have hB0 : Below w.heap.size w w0 := by rw [hw0]; exact two_below _ _ _
  have hF0 : Has w0 w.heap.size 43 (cellsN .u8 32 f) := by rw [hw0]; exact (Has.new _ _ _).alloc _
  have hS0 : Has w0 (w.heap.size + 1) 47 (spotCells (s : Nat) x B) := by rw [hw0]; exact Has.new_at (by simp)
  go_enter Try.func6, Try.ntmps6
  rw [hw0] at hF0 hS0 hB0
  go_wp2_with (first
    | (refine wpList_load_row rfl 43 _ rfl w.heap.size rfl 43 (cellsN .u8 32 f) (0, 0) _ hF0 Try.underlying43 rfl (by rw [cellsN_size]; exact Try.size32) ?_)
    | (go_at_call 24; refine (key_any f _ hf).mono ?_; rintro e w1 ⟨q1, c1, rfl, hc1, hq1, hk1, hb1⟩; have hB1 := hB0.trans (hb1.mono hB0.size); have hS1 := hS0.below hb1 hS0.lt)
    | (go_at_call 18
       refine (new_law f hf _ _ _ hc1 hk1).mono ?_
       rintro e w2 ⟨g, gk, gl, rfl, hC2, hb2⟩
       have hB2 := hB1.trans (hb2.mono hB1.size)
       have hS2 := hS1.below hb2 hS1.lt
       have hx1 : w2.cell? ⟨w.heap.size + 1, 1, none⟩ = some (.int .i64 x) := (by rw [hS2.cell, spot_1])
       have own0 := World.ownsRow_lit (base := w2.heap.size) (e := 5) (size := 1) w2 #[] 0 (Nat.le_refl _) (by unfold maxLen; omega) rfl
       have hbE : Below w2.heap.size w2 (w2.alloc (.cells #[] 5)) := (Below.refl _ _).alloc (Nat.le_refl _) _
       have hkb0 := (hDw.below hB2 (Nat.le_refl _)).below hbE (Nat.le_refl _))
    | (refine wpList_val (some 61) (.slice (some ⟨b, o, none⟩) N cap) rfl (by rfl) (run_slice_hiX _ _ rfl b o len cap N rfl rfl (by omega) (by omega) _) ?_)
    | ((at_builtin)
       (have _t := own0)
       (refine wpList_append_bytes rfl _ _ rfl w2.heap.size _ 0 (fun _ => 0) rfl own0 (some ⟨b, o, none⟩) N cap D rfl (fun e => by cases e) hkb0 (by omega) (by simp) ?_)
       (intro v3 w3 own3 gr3)
       (have hb3 : Below w2.heap.size w2 w3 := hbE.grown gr3 (by simp) (fun k' h => (by have e := Option.some.inj (show some w2.heap.size = some k' from h); omega)))
       (rw [Nat.zero_add, cat_zero] at own3)
       (obtain ⟨g1', d1, rfl, hd1, hg1, hcell1, hbg1, own3'⟩ := own_rowX own3 g2x)
       (have hone3 : Bytes w3 (some ⟨g1', 0, none⟩) N D := .inr ⟨g1', 0, rfl, hg1, fun j hj => by rw [Nat.zero_add]; exact hcell1 j hj⟩)
       (have hB3 := hB2.trans (hb3.mono hB2.size))
       (have hS3 := hS2.below hb3 hS2.lt)
       (have hC3 := hC2.below hb3 (Nat.le_refl _))
       (have own0b := World.ownsRow_lit (base := w3.heap.size) (e := 5) (size := 1) w3 #[] 0 (Nat.le_refl _) (by unfold maxLen; omega) rfl)
       (have hbEb : Below w3.heap.size w3 (w3.alloc (.cells #[] 5)) := (Below.refl _ _).alloc (Nat.le_refl _) _)
       (have hkb1 := hone3.below hbEb (Nat.le_refl _))
       (clear own0 _t gr3 hkb0 hbE own3 own3' hcell1))
    | ((at_builtin)
       (have _t := own0b)
       (refine wpList_append_bytes rfl _ _ rfl w3.heap.size _ 0 (fun _ => 0) rfl own0b (some ⟨g1', 0, none⟩) N d1 D rfl (fun e => by cases e) hkb1 (by omega) (by simp) ?_)
       (intro v4 w4 own4 gr4)
       (have hb4 : Below w3.heap.size w3 w4 := hbEb.grown gr4 (by simp) (fun k' h => (by have e := Option.some.inj (show some w3.heap.size = some k' from h); omega)))
       (rw [Nat.zero_add, cat_zero] at own4)
       (obtain ⟨g2, d2, rfl, hd2, hg2, hcell2, hbg2, own4'⟩ := own_rowX own4 g2x)
       (clear own0b _t gr4 hkb1 hbEb own4 hcell2)))
  go_loopw [13] (fun i wr => ∃ k : Nat, k ≤ 16 ∧ i = .int .i64 k ∧ wr.ownsRow w3.heap.size 5 1 (.slice (some ⟨g2, 0, none⟩) N d2) N (bl (byAt D B r k) N) ∧ Below w3.heap.size w3 wr)
    (fun i _ => 16 - (intOf i).toNat)
  case atStart => exact ⟨0, Nat.zero_le _, rfl, by rw [byAt_0]; exact own4', hb4⟩
  case round =>
    clear own4' hb4
    obtain ⟨k, hk, rfl, hown, hbr⟩ := hrel
    have hNn := HN16.out
    by_cases hlt : k < 16
    · have dd1 : wr.drew.cell? ⟨g2, 0 + (16 * r + k) * 1, none⟩ = some (.int .u8 (D (16 * r + k) : Nat)) := by
        rw [Nat.zero_add, Nat.mul_one]
        show wr.cell? ⟨g2, 16 * r + k, none⟩ = _
        rw [hown.cellAt (16 * r + k) (by omega), bl_get _ _ _ (show 16 * r + k < N by omega), byAt_at]
      have hSr := hS3.below hbr hS3.lt
      have dd2 : wr.drew.cell? ⟨w.heap.size + 1, 2 + k, none⟩ = some (.int .u8 (B k : Nat)) := by
        show wr.cell? ⟨w.heap.size + 1, 2 + k, none⟩ = _
        rw [hSr.cell, spot_2 _ _ _ _ hlt]
      have dd4 : wr.drew.frozen? ⟨g2, 0 + (16 * r + k) * 1, none⟩ = false := by
        rw [Nat.zero_add, Nat.mul_one]
        exact hown.frozenAt (16 * r + k)
      have j1 : (k : Int) < 16 := by omega
      go_wp2_with fail
      refine lastTo (S := fun w' => w'.cell? ⟨g2, 0 + (16 * r + k) * 1, none⟩ = some (.int .u8 (D (16 * r + k) : Nat)) ∧ w'.cell? ⟨w.heap.size + 1, 2 + k, none⟩ = some (.int .u8 (B k : Nat))) 18 (by kernel_rfl) ⟨dd1, dd2⟩ (fun hHeld => ?_)
      refine takeL 0 (some 70) (.slice (some ⟨g2, 0, none⟩) N d2) rfl rfl (by decide) (by kernel_rfl) (by kernel_rfl) (by kernel_rfl) (by kernel_rfl) (fun _ _ _ h => h) (by rfl) (fun _ _ => rfl) hHeld ?_
      simp only [Act.put, List.setIfInBounds_toArray, List.set_cons_zero, List.set_cons_succ]
      refine takeL 1 (some 71) (.int .i64 (r : Nat)) rfl rfl (by decide) (by kernel_rfl) (by kernel_rfl) (by kernel_rfl) (by kernel_rfl) (fun _ _ _ h => h) (by rfl) (fun _ _ => rfl) hHeld ?_
      simp only [Act.put, List.setIfInBounds_toArray, List.set_cons_zero, List.set_cons_succ]
      refine takeL 2 (some 72) (.int .i64 ((16 * r : Nat) : Int)) rfl rfl (by decide) (by kernel_rfl) (by kernel_rfl) (by kernel_rfl) (by kernel_rfl) (fun _ _ _ h => h) (by rfl) (fun wz _ => run_16mulX _ rfl r rfl (by omega) wz) hHeld ?_
      simp only [Act.put, List.setIfInBounds_toArray, List.set_cons_zero, List.set_cons_succ]
      refine takeL 3 (some 73) (.int .i64 (k : Nat)) rfl rfl (by decide) (by kernel_rfl) (by kernel_rfl) (by kernel_rfl) (by kernel_rfl) (fun _ _ _ h => h) (by rfl) (fun _ _ => rfl) hHeld ?_
      simp only [Act.put, List.setIfInBounds_toArray, List.set_cons_zero, List.set_cons_succ]
      refine takeL 4 (some 74) (.int .i64 ((16 * r + k : Nat) : Int)) rfl rfl (by decide) (by kernel_rfl) (by kernel_rfl) (by kernel_rfl) (by kernel_rfl) (fun _ _ _ h => h) (by rfl) (fun wz _ => run_addX _ _ rfl (16 * r) k rfl rfl (by omega) (by omega) wz) hHeld ?_
      simp only [Act.put, List.setIfInBounds_toArray, List.set_cons_zero, List.set_cons_succ]
      refine takeL 5 (some 75) (.slice (some ⟨g2, 0, none⟩) N d2) rfl rfl (by decide) (by kernel_rfl) (by kernel_rfl) (by kernel_rfl) (by kernel_rfl) (fun _ _ _ h => h) (by rfl) (fun _ _ => rfl) hHeld ?_
      simp only [Act.put, List.setIfInBounds_toArray, List.set_cons_zero, List.set_cons_succ]
      refine takeL 6 (some 76) (.int .i64 (r : Nat)) rfl rfl (by decide) (by kernel_rfl) (by kernel_rfl) (by kernel_rfl) (by kernel_rfl) (fun _ _ _ h => h) (by rfl) (fun _ _ => rfl) hHeld ?_
      simp only [Act.put, List.setIfInBounds_toArray, List.set_cons_zero, List.set_cons_succ]
      refine takeL 7 (some 77) (.int .i64 ((16 * r : Nat) : Int)) rfl rfl (by decide) (by kernel_rfl) (by kernel_rfl) (by kernel_rfl) (by kernel_rfl) (fun _ _ _ h => h) (by rfl) (fun wz _ => run_16mulX _ rfl r rfl (by omega) wz) hHeld ?_
      simp only [Act.put, List.setIfInBounds_toArray, List.set_cons_zero, List.set_cons_succ]
      refine takeL 8 (some 78) (.int .i64 (k : Nat)) rfl rfl (by decide) (by kernel_rfl) (by kernel_rfl) (by kernel_rfl) (by kernel_rfl) (fun _ _ _ h => h) (by rfl) (fun _ _ => rfl) hHeld ?_
      simp only [Act.put, List.setIfInBounds_toArray, List.set_cons_zero, List.set_cons_succ]
      refine takeL 9 (some 79) (.int .i64 ((16 * r + k : Nat) : Int)) rfl rfl (by decide) (by kernel_rfl) (by kernel_rfl) (by kernel_rfl) (by kernel_rfl) (fun _ _ _ h => h) (by rfl) (fun wz _ => run_addX _ _ rfl (16 * r) k rfl rfl (by omega) (by omega) wz) hHeld ?_
      simp only [Act.put, List.setIfInBounds_toArray, List.set_cons_zero, List.set_cons_succ]
      refine takeL 10 (some 80) (.pointer (some ⟨g2, 0 + (16 * r + k) * 1, none⟩)) rfl rfl (by decide) (by kernel_rfl) (by kernel_rfl) (by kernel_rfl) (by kernel_rfl) (fun _ _ _ h => h) (by rfl) (fun wz _ => run_indexAddrS 22 _ _ rfl g2 0 (16 * r + k) N d2 1 5 rfl rfl Try.underlying22 one_u8 (by omega) wz) hHeld ?_
      simp only [Act.put, List.setIfInBounds_toArray, List.set_cons_zero, List.set_cons_succ]
      refine takeL 11 (some 81) (.int .u8 (D (16 * r + k) : Nat)) rfl rfl (by decide) (by kernel_rfl) (by kernel_rfl) (by kernel_rfl) (by kernel_rfl) (fun _ _ _ h => h) (by rfl) (fun wz hz => run_load_u8 _ rfl g2 (0 + (16 * r + k) * 1) rfl _ wz hz.1) hHeld ?_
      simp only [Act.put, List.setIfInBounds_toArray, List.set_cons_zero, List.set_cons_succ]
      refine takeL 12 (some 82) (.int .i64 (k : Nat)) rfl rfl (by decide) (by kernel_rfl) (by kernel_rfl) (by kernel_rfl) (by kernel_rfl) (fun _ _ _ h => h) (by rfl) (fun _ _ => rfl) hHeld ?_
      simp only [Act.put, List.setIfInBounds_toArray, List.set_cons_zero, List.set_cons_succ]
      refine takeL 13 (some 83) (.pointer (some ⟨w.heap.size + 1, 2, none⟩)) rfl rfl (by decide) (by kernel_rfl) (by kernel_rfl) (by kernel_rfl) (by kernel_rfl) (fun _ _ _ h => h) (by rfl) (fun wz _ => run_fieldAddr 47 _ 2 rfl (.pointer (some ⟨w.heap.size + 1, 0, none⟩)) (.pointer (some ⟨w.heap.size + 1, 2, none⟩)) rfl (sfield2X _) wz) hHeld ?_
      simp only [Act.put, List.setIfInBounds_toArray, List.set_cons_zero, List.set_cons_succ]
      refine takeL 14 (some 84) (.pointer (some ⟨w.heap.size + 1, 2 + k, none⟩)) rfl rfl (by decide) (by kernel_rfl) (by kernel_rfl) (by kernel_rfl) (by kernel_rfl) (fun _ _ _ h => h) (by rfl) (fun wz _ => run_indexK .i64 23 _ _ rfl (w.heap.size + 1) 2 k 16 5 rfl rfl Try.underlying23 one_u8 (by omega) wz) hHeld ?_
      simp only [Act.put, List.setIfInBounds_toArray, List.set_cons_zero, List.set_cons_succ]
      refine takeL 15 (some 85) (.int .u8 (B k : Nat)) rfl rfl (by decide) (by kernel_rfl) (by kernel_rfl) (by kernel_rfl) (by kernel_rfl) (fun _ _ _ h => h) (by rfl) (fun wz hz => run_load_u8 _ rfl (w.heap.size + 1) (2 + k) rfl _ wz hz.2) hHeld ?_
      simp only [Act.put, List.setIfInBounds_toArray, List.set_cons_zero, List.set_cons_succ]
      refine takeL 16 (some 86) (.int .u8 ((D (16 * r + k) ^^^ B k : Nat) : Int)) rfl rfl (by decide) (by kernel_rfl) (by kernel_rfl) (by kernel_rfl) (by kernel_rfl) (fun _ _ _ h => h) (by rfl) (fun wz _ => run_xor8 _ _ rfl _ _ rfl rfl (hD _) (hB k hlt) wz) hHeld ?_
      simp only [Act.put, List.setIfInBounds_toArray, List.set_cons_zero, List.set_cons_succ]
      refine takeL 17 (some 87) (.pointer (some ⟨g2, 0 + (16 * r + k) * 1, none⟩)) rfl rfl (by decide) (by kernel_rfl) (by kernel_rfl) (by kernel_rfl) (by kernel_rfl) (fun _ _ _ h => h) (by rfl) (fun wz _ => run_indexAddrS 22 _ _ rfl g2 0 (16 * r + k) N d2 1 5 rfl rfl Try.underlying22 one_u8 (by omega) wz) hHeld ?_
      simp only [Act.put, List.setIfInBounds_toArray, List.set_cons_zero, List.set_cons_succ]
      refine lastSkip 18 none (wr.drew.setCell ⟨g2, 0 + (16 * r + k) * 1, none⟩ (.int .u8 ((D (16 * r + k) ^^^ B k : Nat) : Int))) (by kernel_rfl) rfl rfl (by rfl) (run_store_u8X _ _ rfl g2 (0 + (16 * r + k) * 1) rfl _ rfl _ dd1 dd4) (by kernel_rfl) ?_
      clear hHeld dd1 dd2 dd4
      simp only [Act.put]
      go_wp2
      go_roundw
      case rel =>
        have R := hown.stored (16 * r + k) (.int .u8 ((D (16 * r + k) ^^^ B k : Nat) : Int))
        rw [bl_set, byAt_next] at R
        exact ⟨k + 1, by omega, by go_num, own_below R.1 ((Below.refl _ _).drew) (fun k hk => (R.1.lt k hk).2), (hbr.setCell (show w3.heap.size ≤ g2 by omega) _).drew⟩
      case measure => simp [intOf]; omega
    · obtain rfl : k = 16 := by omega
      have htwo : Bytes wr (some ⟨g2, 0, none⟩) N (byAt D B r 16) := by
        obtain ⟨a, cap, e1, e2, e3, e4, e5⟩ := own_bytes hown
        simp only [Value.slice.injEq] at e1
        obtain ⟨rfl, _, rfl⟩ := e1
        exact e4
      have hone := hone3.below hbr (Nat.le_refl _)
      have hC4 := hC3.below hbr (Nat.le_refl _)
      have hS4 := hS3.below hbr hS3.lt
      have hB4 := hB3.trans (hbr.mono hB3.size)
      have hx4 : wr.cell? ⟨w.heap.size + 1, 0, none⟩ = some (.int .u64 (s : Nat)) := by rw [hS4.cell, spot_0]
      clear hown hbr hone3 hC3 hS3 hB3 hx1 hNn
      generalize byAt D B r 16 = D2 at HS2 HO2 htwo
      go_wp2_with (first
        | (go_at_call 20
           refine (HS1.out _ g gk gl g1' d1 hd1 hC4 hone).mono ?_
           rintro e w5 ⟨q5, rfl, hq5, hD5, hb5⟩
           have hx5 : w5.cell? ⟨w.heap.size + 1, 0, none⟩ = some (.int .u64 (s : Nat)) := (by rw [(hS4.below hb5 hS4.lt).cell, spot_0])
           have hC5 := hC4.below hb5 (Nat.le_refl _)
           have hone5 := hone.below hb5 (Nat.le_refl _)
           have htwo5 := htwo.below hb5 (Nat.le_refl _)
           have hS5 := hS4.below hb5 hS4.lt
           have hB5 := hB4.trans (hb5.mono hB4.size)
           clear HS1 hx4)
        | (go_at_call 20
           refine (HS2.out _ g gk gl g2 d2 hd2 hC5 htwo5).mono ?_
           rintro e w6 ⟨q6, rfl, hq6, hD6, hb6⟩
           have hx6 : w6.cell? ⟨w.heap.size + 1, 0, none⟩ = some (.int .u64 (s : Nat)) := (by rw [(hS5.below hb6 hS5.lt).cell, spot_0])
           have hC6 := hC5.below hb6 (Nat.le_refl _)
           have hone6 := hone5.below hb6 (Nat.le_refl _)
           have htwo6 := htwo5.below hb6 (Nat.le_refl _)
           have hS6 := hS5.below hb6 hS5.lt
           have hE6 := hD5.below hb6 hD5.lt
           have hB6 := hB5.trans (hb6.mono hB5.size)
           clear HS2 hx5)
        | (go_at_call 22
           refine (HO1.out _ g gk gl g1' d1 hd1 hC6 hone6).mono ?_
           rintro e w7 ⟨q7, rfl, hq7, hD7, hb7⟩
           have hx7 : w7.cell? ⟨w.heap.size + 1, 0, none⟩ = some (.int .u64 (s : Nat)) := (by rw [(hS6.below hb7 hS6.lt).cell, spot_0])
           have hC7 := hC6.below hb7 (Nat.le_refl _)
           have htwo7 := htwo6.below hb7 (Nat.le_refl _)
           have hS7 := hS6.below hb7 hS6.lt
           have hE7 := hE6.below hb7 hE6.lt
           have hG7 := hD6.below hb7 hD6.lt
           have hB7 := hB6.trans (hb7.mono hB6.size)
           clear HO1 hx6)
        | (go_at_call 22
           refine (HO2.out _ g gk gl g2 d2 hd2 hC7 htwo7).mono ?_
           rintro e w8 ⟨q8, rfl, hq8, hD8, hb8⟩
           have hS8 := hS7.below hb8 hS7.lt
           have hE8 := hE7.below hb8 hE7.lt
           have hG8 := hG7.below hb8 hG7.lt
           have hJ8 := hD7.below hb8 hD7.lt
           have hB8 := hB7.trans (hb8.mono hB7.size)
           clear HO2 hx7))
      clear hC4 hC5 hC6 hC7 hS4 hS5 hS6 hS7 hone hone5 hone6 htwo htwo5 htwo6 htwo7 hE6 hE7 hG7 hD5 hD6 hD7 hB4 hB5 hB6 hB7
      clear hq5 hq6 hq7 hq8 hb5 hb6 hb7 hb8 hx i7 hneg hcap hcap2 i2
      go_loopw [22] (fun i wr => ∃ k : Nat, k ≤ n ∧ i = .int .i64 k ∧ Below w8.heap.size w8 wr)
        (fun i _ => n - (intOf i).toNat)
      case atStart => exact ⟨0, Nat.zero_le _, rfl, Below.refl _ _⟩
      case round =>
        obtain ⟨k, hk, rfl, hbr⟩ := hrel
        by_cases hlt : k < n
        · have hAll : Has wr.drew q5 5 (cellsN .u8 N P) ∧ Has wr.drew q6 5 (cellsN .u8 N P2) ∧ Has wr.drew q7 5 (cellsN .u8 N R) ∧ Has wr.drew q8 5 (cellsN .u8 N R2) := ⟨hE8.below hbr.drew hE8.lt, hG8.below hbr.drew hG8.lt, hJ8.below hbr.drew hJ8.lt, hD8.below hbr.drew hD8.lt⟩
          have hSr := hS8.below hbr hS8.lt
          have hBy : wr.rangeAt (w.heap.size + 1) 2 (cellsN .u8 16 B).toList := range_cells (fun j hj => by rw [hSr.cell, spot_2 _ _ _ _ hj])
          have j1 : (k : Int) < (n : Int) := by omega
          have j2 : (0 : Int) ≤ (k : Int) := by omega
          have hkN : 16 * k + 16 ≤ N := by have := HN16.out; omega
          by_cases hi : k = r
          · have e1 : ((k : Int) == (r : Int)) = true := by simp; omega
            obtain ⟨c, hc⟩ : ∃ c, c = chgB B k r := ⟨_, rfl⟩
            have hch : chgB B k r = c := hc.symm
            have HCV : Hid ((!eqB B fun _ => 0) = c) := by
              unfold Hid
              rw [hc]
              unfold chgB
              simp [hi]
            clear hc hi
            go_wp2_with (first | (refine wpList_val (some 156) (.agg (cellsN .u8 16 B)) rfl (by rfl) (run_load_mid 23 _ rfl (w.heap.size + 1) 2 rfl _ Try.underlying23 rfl (by rw [cellsN_size]; exact Try.size23) _ hBy) ?_) | (refine wpList_val (some 157) (.agg (cellsN .u8 16 fun _ => 0)) rfl (by rfl) (run_build0 rfl _) ?_) | (refine wpList_val (some 158) (.bool c) rfl (by rfl) (by rw [← HCV.out]; exact run_neq_block _ _ rfl B (fun _ => 0) rfl rfl hB (fun _ _ => by decide) _) ?_))
            refine wp_region_held_drew (S := fun wz => Has wz q5 5 (cellsN .u8 N P) ∧ Has wz q6 5 (cellsN .u8 N P2) ∧ Has wz q7 5 (cellsN .u8 N R) ∧ Has wz q8 5 (cellsN .u8 N R2)) (by kernel_rfl) hAll (fun hHeld => ?_)
            refine takeTo 0 (some 160) (.slice (some ⟨q5, 0, none⟩) N N) rfl rfl (by kernel_rfl) (by kernel_rfl) (by kernel_rfl) (fun _ _ _ h => h) (by rfl) (fun _ _ => rfl) hHeld ?_
            simp only [Act.put, List.setIfInBounds_toArray, List.set_cons_zero, List.set_cons_succ]
            refine takeTo 1 (some 161) (.int .i64 (k : Nat)) rfl rfl (by kernel_rfl) (by kernel_rfl) (by kernel_rfl) (fun _ _ _ h => h) (by rfl) (fun _ _ => rfl) hHeld ?_
            simp only [Act.put, List.setIfInBounds_toArray, List.set_cons_zero, List.set_cons_succ]
            refine takeTo 2 (some 162) (.int .i64 ((16 * k : Nat) : Int)) rfl rfl (by kernel_rfl) (by kernel_rfl) (by kernel_rfl) (fun _ _ _ h => h) (by rfl) (fun wz _ => run_16mulX _ rfl k rfl (by omega) wz) hHeld ?_
            simp only [Act.put, List.setIfInBounds_toArray, List.set_cons_zero, List.set_cons_succ]
            refine takeTo 3 (some 163) (.int .i64 (k : Nat)) rfl rfl (by kernel_rfl) (by kernel_rfl) (by kernel_rfl) (fun _ _ _ h => h) (by rfl) (fun _ _ => rfl) hHeld ?_
            simp only [Act.put, List.setIfInBounds_toArray, List.set_cons_zero, List.set_cons_succ]
            refine takeTo 4 (some 164) (.int .i64 ((16 * k : Nat) : Int)) rfl rfl (by kernel_rfl) (by kernel_rfl) (by kernel_rfl) (fun _ _ _ h => h) (by rfl) (fun wz _ => run_16mulX _ rfl k rfl (by omega) wz) hHeld ?_
            simp only [Act.put, List.setIfInBounds_toArray, List.set_cons_zero, List.set_cons_succ]
            refine takeTo 5 (some 165) (.int .i64 ((16 * k + 16 : Nat) : Int)) rfl rfl (by kernel_rfl) (by kernel_rfl) (by kernel_rfl) (fun _ _ _ h => h) (by rfl) (fun wz _ => run_addX _ _ rfl (16 * k) 16 rfl rfl (by omega) (by omega) wz) hHeld ?_
            simp only [Act.put, List.setIfInBounds_toArray, List.set_cons_zero, List.set_cons_succ]
            refine takeTo 6 (some 166) (.slice (some ⟨q5, 0 + 16 * k, none⟩) 16 (N - 16 * k)) rfl rfl (by kernel_rfl) (by kernel_rfl) (by kernel_rfl) (fun _ _ _ h => h) (by rfl) (fun wz _ => run_slice_midX _ _ _ rfl q5 0 N N (16 * k) 16 rfl rfl rfl (by omega) (by omega) wz) hHeld ?_
            simp only [Act.put, List.setIfInBounds_toArray, List.set_cons_zero, List.set_cons_succ]
            refine takeTo 7 (some 167) (.string ⟨(strN (fun j => P (16 * k + j)) 16).toArray⟩) rfl rfl (by kernel_rfl) (by kernel_rfl) (by kernel_rfl) (fun _ _ _ h => h) (by rfl) (fun wz hz => run_conv_str _ rfl (.slice (some ⟨q5, 0 + 16 * k, none⟩) 16 (N - 16 * k)) rfl _ wz (conv_bytesN (N - 16 * k) (has_mid hz.1 (16 * k) 16 (by omega)) (fun j => hP _) (fun e => by cases e))) hHeld ?_
            simp only [Act.put, List.setIfInBounds_toArray, List.set_cons_zero, List.set_cons_succ]
            refine takeTo 8 (some 168) (.slice (some ⟨q6, 0, none⟩) N N) rfl rfl (by kernel_rfl) (by kernel_rfl) (by kernel_rfl) (fun _ _ _ h => h) (by rfl) (fun _ _ => rfl) hHeld ?_
            simp only [Act.put, List.setIfInBounds_toArray, List.set_cons_zero, List.set_cons_succ]
            refine takeTo 9 (some 169) (.int .i64 (k : Nat)) rfl rfl (by kernel_rfl) (by kernel_rfl) (by kernel_rfl) (fun _ _ _ h => h) (by rfl) (fun _ _ => rfl) hHeld ?_
            simp only [Act.put, List.setIfInBounds_toArray, List.set_cons_zero, List.set_cons_succ]
            refine takeTo 10 (some 170) (.int .i64 ((16 * k : Nat) : Int)) rfl rfl (by kernel_rfl) (by kernel_rfl) (by kernel_rfl) (fun _ _ _ h => h) (by rfl) (fun wz _ => run_16mulX _ rfl k rfl (by omega) wz) hHeld ?_
            simp only [Act.put, List.setIfInBounds_toArray, List.set_cons_zero, List.set_cons_succ]
            refine takeTo 11 (some 171) (.int .i64 (k : Nat)) rfl rfl (by kernel_rfl) (by kernel_rfl) (by kernel_rfl) (fun _ _ _ h => h) (by rfl) (fun _ _ => rfl) hHeld ?_
            simp only [Act.put, List.setIfInBounds_toArray, List.set_cons_zero, List.set_cons_succ]
            refine takeTo 12 (some 172) (.int .i64 ((16 * k : Nat) : Int)) rfl rfl (by kernel_rfl) (by kernel_rfl) (by kernel_rfl) (fun _ _ _ h => h) (by rfl) (fun wz _ => run_16mulX _ rfl k rfl (by omega) wz) hHeld ?_
            simp only [Act.put, List.setIfInBounds_toArray, List.set_cons_zero, List.set_cons_succ]
            refine takeTo 13 (some 173) (.int .i64 ((16 * k + 16 : Nat) : Int)) rfl rfl (by kernel_rfl) (by kernel_rfl) (by kernel_rfl) (fun _ _ _ h => h) (by rfl) (fun wz _ => run_addX _ _ rfl (16 * k) 16 rfl rfl (by omega) (by omega) wz) hHeld ?_
            simp only [Act.put, List.setIfInBounds_toArray, List.set_cons_zero, List.set_cons_succ]
            refine takeTo 14 (some 174) (.slice (some ⟨q6, 0 + 16 * k, none⟩) 16 (N - 16 * k)) rfl rfl (by kernel_rfl) (by kernel_rfl) (by kernel_rfl) (fun _ _ _ h => h) (by rfl) (fun wz _ => run_slice_midX _ _ _ rfl q6 0 N N (16 * k) 16 rfl rfl rfl (by omega) (by omega) wz) hHeld ?_
            simp only [Act.put, List.setIfInBounds_toArray, List.set_cons_zero, List.set_cons_succ]
            refine takeTo 15 (some 175) (.string ⟨(strN (fun j => P2 (16 * k + j)) 16).toArray⟩) rfl rfl (by kernel_rfl) (by kernel_rfl) (by kernel_rfl) (fun _ _ _ h => h) (by rfl) (fun wz hz => run_conv_str _ rfl (.slice (some ⟨q6, 0 + 16 * k, none⟩) 16 (N - 16 * k)) rfl _ wz (conv_bytesN (N - 16 * k) (has_mid hz.2.1 (16 * k) 16 (by omega)) (fun j => hP2 _) (fun e => by cases e))) hHeld ?_
            simp only [Act.put, List.setIfInBounds_toArray, List.set_cons_zero, List.set_cons_succ]
            refine takeTo 16 (some 176) (.bool c) rfl rfl (by kernel_rfl) (by kernel_rfl) (by kernel_rfl) (fun _ _ _ h => h) (by rfl) (fun wz _ => run_neq_strs _ _ rfl _ _ rfl rfl _ (by rw [HP.out k, hch]) wz) hHeld ?_
            simp only [Act.put, List.setIfInBounds_toArray, List.set_cons_zero, List.set_cons_succ]
            refine takeTo 17 (some 177) (.bool c) rfl rfl (by kernel_rfl) (by kernel_rfl) (by kernel_rfl) (fun _ _ _ h => h) (by rfl) (fun _ _ => rfl) hHeld ?_
            simp only [Act.put, List.setIfInBounds_toArray, List.set_cons_zero, List.set_cons_succ]
            refine takeTo 18 (some 178) (.bool false) rfl rfl (by kernel_rfl) (by kernel_rfl) (by kernel_rfl) (fun _ _ _ h => h) (by rfl) (fun wz _ => run_neq_bools _ _ rfl c rfl rfl wz) hHeld ?_
            simp only [Act.put, List.setIfInBounds_toArray, List.set_cons_zero, List.set_cons_succ]
            refine takeTo 19 (some 179) (.bool false) rfl rfl (by kernel_rfl) (by kernel_rfl) (by kernel_rfl) (fun _ _ _ h => h) (by rfl) (fun _ _ => rfl) hHeld ?_
            simp only [Act.put, List.setIfInBounds_toArray, List.set_cons_zero, List.set_cons_succ]
            refine takeTo 20 (some 180) (.slice (some ⟨q7, 0, none⟩) N N) rfl rfl (by kernel_rfl) (by kernel_rfl) (by kernel_rfl) (fun _ _ _ h => h) (by rfl) (fun _ _ => rfl) hHeld ?_
            simp only [Act.put, List.setIfInBounds_toArray, List.set_cons_zero, List.set_cons_succ]
            refine takeTo 21 (some 181) (.int .i64 (k : Nat)) rfl rfl (by kernel_rfl) (by kernel_rfl) (by kernel_rfl) (fun _ _ _ h => h) (by rfl) (fun _ _ => rfl) hHeld ?_
            simp only [Act.put, List.setIfInBounds_toArray, List.set_cons_zero, List.set_cons_succ]
            refine takeTo 22 (some 182) (.int .i64 ((16 * k : Nat) : Int)) rfl rfl (by kernel_rfl) (by kernel_rfl) (by kernel_rfl) (fun _ _ _ h => h) (by rfl) (fun wz _ => run_16mulX _ rfl k rfl (by omega) wz) hHeld ?_
            simp only [Act.put, List.setIfInBounds_toArray, List.set_cons_zero, List.set_cons_succ]
            refine takeTo 23 (some 183) (.int .i64 (k : Nat)) rfl rfl (by kernel_rfl) (by kernel_rfl) (by kernel_rfl) (fun _ _ _ h => h) (by rfl) (fun _ _ => rfl) hHeld ?_
            simp only [Act.put, List.setIfInBounds_toArray, List.set_cons_zero, List.set_cons_succ]
            refine takeTo 24 (some 184) (.int .i64 ((16 * k : Nat) : Int)) rfl rfl (by kernel_rfl) (by kernel_rfl) (by kernel_rfl) (fun _ _ _ h => h) (by rfl) (fun wz _ => run_16mulX _ rfl k rfl (by omega) wz) hHeld ?_
            simp only [Act.put, List.setIfInBounds_toArray, List.set_cons_zero, List.set_cons_succ]
            refine takeTo 25 (some 185) (.int .i64 ((16 * k + 16 : Nat) : Int)) rfl rfl (by kernel_rfl) (by kernel_rfl) (by kernel_rfl) (fun _ _ _ h => h) (by rfl) (fun wz _ => run_addX _ _ rfl (16 * k) 16 rfl rfl (by omega) (by omega) wz) hHeld ?_
            simp only [Act.put, List.setIfInBounds_toArray, List.set_cons_zero, List.set_cons_succ]
            refine takeTo 26 (some 186) (.slice (some ⟨q7, 0 + 16 * k, none⟩) 16 (N - 16 * k)) rfl rfl (by kernel_rfl) (by kernel_rfl) (by kernel_rfl) (fun _ _ _ h => h) (by rfl) (fun wz _ => run_slice_midX _ _ _ rfl q7 0 N N (16 * k) 16 rfl rfl rfl (by omega) (by omega) wz) hHeld ?_
            simp only [Act.put, List.setIfInBounds_toArray, List.set_cons_zero, List.set_cons_succ]
            refine takeTo 27 (some 187) (.string ⟨(strN (fun j => R (16 * k + j)) 16).toArray⟩) rfl rfl (by kernel_rfl) (by kernel_rfl) (by kernel_rfl) (fun _ _ _ h => h) (by rfl) (fun wz hz => run_conv_str _ rfl (.slice (some ⟨q7, 0 + 16 * k, none⟩) 16 (N - 16 * k)) rfl _ wz (conv_bytesN (N - 16 * k) (has_mid hz.2.2.1 (16 * k) 16 (by omega)) (fun j => hR _) (fun e => by cases e))) hHeld ?_
            simp only [Act.put, List.setIfInBounds_toArray, List.set_cons_zero, List.set_cons_succ]
            refine takeTo 28 (some 188) (.slice (some ⟨q8, 0, none⟩) N N) rfl rfl (by kernel_rfl) (by kernel_rfl) (by kernel_rfl) (fun _ _ _ h => h) (by rfl) (fun _ _ => rfl) hHeld ?_
            simp only [Act.put, List.setIfInBounds_toArray, List.set_cons_zero, List.set_cons_succ]
            refine takeTo 29 (some 189) (.int .i64 (k : Nat)) rfl rfl (by kernel_rfl) (by kernel_rfl) (by kernel_rfl) (fun _ _ _ h => h) (by rfl) (fun _ _ => rfl) hHeld ?_
            simp only [Act.put, List.setIfInBounds_toArray, List.set_cons_zero, List.set_cons_succ]
            refine takeTo 30 (some 190) (.int .i64 ((16 * k : Nat) : Int)) rfl rfl (by kernel_rfl) (by kernel_rfl) (by kernel_rfl) (fun _ _ _ h => h) (by rfl) (fun wz _ => run_16mulX _ rfl k rfl (by omega) wz) hHeld ?_
            simp only [Act.put, List.setIfInBounds_toArray, List.set_cons_zero, List.set_cons_succ]
            refine takeTo 31 (some 191) (.int .i64 (k : Nat)) rfl rfl (by kernel_rfl) (by kernel_rfl) (by kernel_rfl) (fun _ _ _ h => h) (by rfl) (fun _ _ => rfl) hHeld ?_
            simp only [Act.put, List.setIfInBounds_toArray, List.set_cons_zero, List.set_cons_succ]
            refine takeTo 32 (some 192) (.int .i64 ((16 * k : Nat) : Int)) rfl rfl (by kernel_rfl) (by kernel_rfl) (by kernel_rfl) (fun _ _ _ h => h) (by rfl) (fun wz _ => run_16mulX _ rfl k rfl (by omega) wz) hHeld ?_
            simp only [Act.put, List.setIfInBounds_toArray, List.set_cons_zero, List.set_cons_succ]
            refine takeTo 33 (some 193) (.int .i64 ((16 * k + 16 : Nat) : Int)) rfl rfl (by kernel_rfl) (by kernel_rfl) (by kernel_rfl) (fun _ _ _ h => h) (by rfl) (fun wz _ => run_addX _ _ rfl (16 * k) 16 rfl rfl (by omega) (by omega) wz) hHeld ?_
            simp only [Act.put, List.setIfInBounds_toArray, List.set_cons_zero, List.set_cons_succ]
            refine takeTo 34 (some 194) (.slice (some ⟨q8, 0 + 16 * k, none⟩) 16 (N - 16 * k)) rfl rfl (by kernel_rfl) (by kernel_rfl) (by kernel_rfl) (fun _ _ _ h => h) (by rfl) (fun wz _ => run_slice_midX _ _ _ rfl q8 0 N N (16 * k) 16 rfl rfl rfl (by omega) (by omega) wz) hHeld ?_
            simp only [Act.put, List.setIfInBounds_toArray, List.set_cons_zero, List.set_cons_succ]
            refine takeTo 35 (some 195) (.string ⟨(strN (fun j => R2 (16 * k + j)) 16).toArray⟩) rfl rfl (by kernel_rfl) (by kernel_rfl) (by kernel_rfl) (fun _ _ _ h => h) (by rfl) (fun wz hz => run_conv_str _ rfl (.slice (some ⟨q8, 0 + 16 * k, none⟩) 16 (N - 16 * k)) rfl _ wz (conv_bytesN (N - 16 * k) (has_mid hz.2.2.2 (16 * k) 16 (by omega)) (fun j => hR2 _) (fun e => by cases e))) hHeld ?_
            simp only [Act.put, List.setIfInBounds_toArray, List.set_cons_zero, List.set_cons_succ]
            refine takeTo 36 (some 196) (.bool c) rfl rfl (by kernel_rfl) (by kernel_rfl) (by kernel_rfl) (fun _ _ _ h => h) (by rfl) (fun wz _ => run_neq_strs _ _ rfl _ _ rfl rfl _ (by rw [HR.out k, hch]) wz) hHeld ?_
            simp only [Act.put, List.setIfInBounds_toArray, List.set_cons_zero, List.set_cons_succ]
            refine takeTo 37 (some 197) (.bool c) rfl rfl (by kernel_rfl) (by kernel_rfl) (by kernel_rfl) (fun _ _ _ h => h) (by rfl) (fun _ _ => rfl) hHeld ?_
            simp only [Act.put, List.setIfInBounds_toArray, List.set_cons_zero, List.set_cons_succ]
            refine takeTo 38 (some 198) (.bool false) rfl rfl (by kernel_rfl) (by kernel_rfl) (by kernel_rfl) (fun _ _ _ h => h) (by rfl) (fun wz _ => run_neq_bools _ _ rfl c rfl rfl wz) hHeld ?_
            simp only [Act.put, List.setIfInBounds_toArray, List.set_cons_zero, List.set_cons_succ]
            refine takeTo 39 (some 199) (.bool false) rfl rfl (by kernel_rfl) (by kernel_rfl) (by kernel_rfl) (fun _ _ _ h => h) (by rfl) (fun _ _ => rfl) hHeld ?_
            simp only [Act.put, List.setIfInBounds_toArray, List.set_cons_zero, List.set_cons_succ]
            refine wpAnyH_done (by kernel_rfl) ?_ _
            clear hHeld
            go_wp2
            go_roundw
            case rel => exact ⟨k + 1, by omega, by go_num, hbr.drew⟩
            case measure => simp [intOf]; omega
          · have e1 : ((k : Int) == (r : Int)) = false := by simp; omega
            have hch : chgB B k r = false := by unfold chgB; simp [hi]
            clear hi
            go_wp2_with fail
            refine wp_region_held_drew (S := fun wz => Has wz q5 5 (cellsN .u8 N P) ∧ Has wz q6 5 (cellsN .u8 N P2) ∧ Has wz q7 5 (cellsN .u8 N R) ∧ Has wz q8 5 (cellsN .u8 N R2)) (by kernel_rfl) hAll (fun hHeld => ?_)
            refine takeTo 0 (some 160) (.slice (some ⟨q5, 0, none⟩) N N) rfl rfl (by kernel_rfl) (by kernel_rfl) (by kernel_rfl) (fun _ _ _ h => h) (by rfl) (fun _ _ => rfl) hHeld ?_
            simp only [Act.put, List.setIfInBounds_toArray, List.set_cons_zero, List.set_cons_succ]
            refine takeTo 1 (some 161) (.int .i64 (k : Nat)) rfl rfl (by kernel_rfl) (by kernel_rfl) (by kernel_rfl) (fun _ _ _ h => h) (by rfl) (fun _ _ => rfl) hHeld ?_
            simp only [Act.put, List.setIfInBounds_toArray, List.set_cons_zero, List.set_cons_succ]
            refine takeTo 2 (some 162) (.int .i64 ((16 * k : Nat) : Int)) rfl rfl (by kernel_rfl) (by kernel_rfl) (by kernel_rfl) (fun _ _ _ h => h) (by rfl) (fun wz _ => run_16mulX _ rfl k rfl (by omega) wz) hHeld ?_
            simp only [Act.put, List.setIfInBounds_toArray, List.set_cons_zero, List.set_cons_succ]
            refine takeTo 3 (some 163) (.int .i64 (k : Nat)) rfl rfl (by kernel_rfl) (by kernel_rfl) (by kernel_rfl) (fun _ _ _ h => h) (by rfl) (fun _ _ => rfl) hHeld ?_
            simp only [Act.put, List.setIfInBounds_toArray, List.set_cons_zero, List.set_cons_succ]
            refine takeTo 4 (some 164) (.int .i64 ((16 * k : Nat) : Int)) rfl rfl (by kernel_rfl) (by kernel_rfl) (by kernel_rfl) (fun _ _ _ h => h) (by rfl) (fun wz _ => run_16mulX _ rfl k rfl (by omega) wz) hHeld ?_
            simp only [Act.put, List.setIfInBounds_toArray, List.set_cons_zero, List.set_cons_succ]
            refine takeTo 5 (some 165) (.int .i64 ((16 * k + 16 : Nat) : Int)) rfl rfl (by kernel_rfl) (by kernel_rfl) (by kernel_rfl) (fun _ _ _ h => h) (by rfl) (fun wz _ => run_addX _ _ rfl (16 * k) 16 rfl rfl (by omega) (by omega) wz) hHeld ?_
            simp only [Act.put, List.setIfInBounds_toArray, List.set_cons_zero, List.set_cons_succ]
            refine takeTo 6 (some 166) (.slice (some ⟨q5, 0 + 16 * k, none⟩) 16 (N - 16 * k)) rfl rfl (by kernel_rfl) (by kernel_rfl) (by kernel_rfl) (fun _ _ _ h => h) (by rfl) (fun wz _ => run_slice_midX _ _ _ rfl q5 0 N N (16 * k) 16 rfl rfl rfl (by omega) (by omega) wz) hHeld ?_
            simp only [Act.put, List.setIfInBounds_toArray, List.set_cons_zero, List.set_cons_succ]
            refine takeTo 7 (some 167) (.string ⟨(strN (fun j => P (16 * k + j)) 16).toArray⟩) rfl rfl (by kernel_rfl) (by kernel_rfl) (by kernel_rfl) (fun _ _ _ h => h) (by rfl) (fun wz hz => run_conv_str _ rfl (.slice (some ⟨q5, 0 + 16 * k, none⟩) 16 (N - 16 * k)) rfl _ wz (conv_bytesN (N - 16 * k) (has_mid hz.1 (16 * k) 16 (by omega)) (fun j => hP _) (fun e => by cases e))) hHeld ?_
            simp only [Act.put, List.setIfInBounds_toArray, List.set_cons_zero, List.set_cons_succ]
            refine takeTo 8 (some 168) (.slice (some ⟨q6, 0, none⟩) N N) rfl rfl (by kernel_rfl) (by kernel_rfl) (by kernel_rfl) (fun _ _ _ h => h) (by rfl) (fun _ _ => rfl) hHeld ?_
            simp only [Act.put, List.setIfInBounds_toArray, List.set_cons_zero, List.set_cons_succ]
            refine takeTo 9 (some 169) (.int .i64 (k : Nat)) rfl rfl (by kernel_rfl) (by kernel_rfl) (by kernel_rfl) (fun _ _ _ h => h) (by rfl) (fun _ _ => rfl) hHeld ?_
            simp only [Act.put, List.setIfInBounds_toArray, List.set_cons_zero, List.set_cons_succ]
            refine takeTo 10 (some 170) (.int .i64 ((16 * k : Nat) : Int)) rfl rfl (by kernel_rfl) (by kernel_rfl) (by kernel_rfl) (fun _ _ _ h => h) (by rfl) (fun wz _ => run_16mulX _ rfl k rfl (by omega) wz) hHeld ?_
            simp only [Act.put, List.setIfInBounds_toArray, List.set_cons_zero, List.set_cons_succ]
            refine takeTo 11 (some 171) (.int .i64 (k : Nat)) rfl rfl (by kernel_rfl) (by kernel_rfl) (by kernel_rfl) (fun _ _ _ h => h) (by rfl) (fun _ _ => rfl) hHeld ?_
            simp only [Act.put, List.setIfInBounds_toArray, List.set_cons_zero, List.set_cons_succ]
            refine takeTo 12 (some 172) (.int .i64 ((16 * k : Nat) : Int)) rfl rfl (by kernel_rfl) (by kernel_rfl) (by kernel_rfl) (fun _ _ _ h => h) (by rfl) (fun wz _ => run_16mulX _ rfl k rfl (by omega) wz) hHeld ?_
            simp only [Act.put, List.setIfInBounds_toArray, List.set_cons_zero, List.set_cons_succ]
            refine takeTo 13 (some 173) (.int .i64 ((16 * k + 16 : Nat) : Int)) rfl rfl (by kernel_rfl) (by kernel_rfl) (by kernel_rfl) (fun _ _ _ h => h) (by rfl) (fun wz _ => run_addX _ _ rfl (16 * k) 16 rfl rfl (by omega) (by omega) wz) hHeld ?_
            simp only [Act.put, List.setIfInBounds_toArray, List.set_cons_zero, List.set_cons_succ]
            refine takeTo 14 (some 174) (.slice (some ⟨q6, 0 + 16 * k, none⟩) 16 (N - 16 * k)) rfl rfl (by kernel_rfl) (by kernel_rfl) (by kernel_rfl) (fun _ _ _ h => h) (by rfl) (fun wz _ => run_slice_midX _ _ _ rfl q6 0 N N (16 * k) 16 rfl rfl rfl (by omega) (by omega) wz) hHeld ?_
            simp only [Act.put, List.setIfInBounds_toArray, List.set_cons_zero, List.set_cons_succ]
            refine takeTo 15 (some 175) (.string ⟨(strN (fun j => P2 (16 * k + j)) 16).toArray⟩) rfl rfl (by kernel_rfl) (by kernel_rfl) (by kernel_rfl) (fun _ _ _ h => h) (by rfl) (fun wz hz => run_conv_str _ rfl (.slice (some ⟨q6, 0 + 16 * k, none⟩) 16 (N - 16 * k)) rfl _ wz (conv_bytesN (N - 16 * k) (has_mid hz.2.1 (16 * k) 16 (by omega)) (fun j => hP2 _) (fun e => by cases e))) hHeld ?_
            simp only [Act.put, List.setIfInBounds_toArray, List.set_cons_zero, List.set_cons_succ]
            refine takeTo 16 (some 176) (.bool false) rfl rfl (by kernel_rfl) (by kernel_rfl) (by kernel_rfl) (fun _ _ _ h => h) (by rfl) (fun wz _ => run_neq_strs _ _ rfl _ _ rfl rfl _ (by rw [HP.out k, hch]) wz) hHeld ?_
            simp only [Act.put, List.setIfInBounds_toArray, List.set_cons_zero, List.set_cons_succ]
            refine takeTo 17 (some 177) (.bool false) rfl rfl (by kernel_rfl) (by kernel_rfl) (by kernel_rfl) (fun _ _ _ h => h) (by rfl) (fun _ _ => rfl) hHeld ?_
            simp only [Act.put, List.setIfInBounds_toArray, List.set_cons_zero, List.set_cons_succ]
            refine takeTo 18 (some 178) (.bool false) rfl rfl (by kernel_rfl) (by kernel_rfl) (by kernel_rfl) (fun _ _ _ h => h) (by rfl) (fun wz _ => run_neq_bools _ _ rfl false rfl rfl wz) hHeld ?_
            simp only [Act.put, List.setIfInBounds_toArray, List.set_cons_zero, List.set_cons_succ]
            refine takeTo 19 (some 179) (.bool false) rfl rfl (by kernel_rfl) (by kernel_rfl) (by kernel_rfl) (fun _ _ _ h => h) (by rfl) (fun _ _ => rfl) hHeld ?_
            simp only [Act.put, List.setIfInBounds_toArray, List.set_cons_zero, List.set_cons_succ]
            refine takeTo 20 (some 180) (.slice (some ⟨q7, 0, none⟩) N N) rfl rfl (by kernel_rfl) (by kernel_rfl) (by kernel_rfl) (fun _ _ _ h => h) (by rfl) (fun _ _ => rfl) hHeld ?_
            simp only [Act.put, List.setIfInBounds_toArray, List.set_cons_zero, List.set_cons_succ]
            refine takeTo 21 (some 181) (.int .i64 (k : Nat)) rfl rfl (by kernel_rfl) (by kernel_rfl) (by kernel_rfl) (fun _ _ _ h => h) (by rfl) (fun _ _ => rfl) hHeld ?_
            simp only [Act.put, List.setIfInBounds_toArray, List.set_cons_zero, List.set_cons_succ]
            refine takeTo 22 (some 182) (.int .i64 ((16 * k : Nat) : Int)) rfl rfl (by kernel_rfl) (by kernel_rfl) (by kernel_rfl) (fun _ _ _ h => h) (by rfl) (fun wz _ => run_16mulX _ rfl k rfl (by omega) wz) hHeld ?_
            simp only [Act.put, List.setIfInBounds_toArray, List.set_cons_zero, List.set_cons_succ]
            refine takeTo 23 (some 183) (.int .i64 (k : Nat)) rfl rfl (by kernel_rfl) (by kernel_rfl) (by kernel_rfl) (fun _ _ _ h => h) (by rfl) (fun _ _ => rfl) hHeld ?_
            simp only [Act.put, List.setIfInBounds_toArray, List.set_cons_zero, List.set_cons_succ]
            refine takeTo 24 (some 184) (.int .i64 ((16 * k : Nat) : Int)) rfl rfl (by kernel_rfl) (by kernel_rfl) (by kernel_rfl) (fun _ _ _ h => h) (by rfl) (fun wz _ => run_16mulX _ rfl k rfl (by omega) wz) hHeld ?_
            simp only [Act.put, List.setIfInBounds_toArray, List.set_cons_zero, List.set_cons_succ]
            refine takeTo 25 (some 185) (.int .i64 ((16 * k + 16 : Nat) : Int)) rfl rfl (by kernel_rfl) (by kernel_rfl) (by kernel_rfl) (fun _ _ _ h => h) (by rfl) (fun wz _ => run_addX _ _ rfl (16 * k) 16 rfl rfl (by omega) (by omega) wz) hHeld ?_
            simp only [Act.put, List.setIfInBounds_toArray, List.set_cons_zero, List.set_cons_succ]
            refine takeTo 26 (some 186) (.slice (some ⟨q7, 0 + 16 * k, none⟩) 16 (N - 16 * k)) rfl rfl (by kernel_rfl) (by kernel_rfl) (by kernel_rfl) (fun _ _ _ h => h) (by rfl) (fun wz _ => run_slice_midX _ _ _ rfl q7 0 N N (16 * k) 16 rfl rfl rfl (by omega) (by omega) wz) hHeld ?_
            simp only [Act.put, List.setIfInBounds_toArray, List.set_cons_zero, List.set_cons_succ]
            refine takeTo 27 (some 187) (.string ⟨(strN (fun j => R (16 * k + j)) 16).toArray⟩) rfl rfl (by kernel_rfl) (by kernel_rfl) (by kernel_rfl) (fun _ _ _ h => h) (by rfl) (fun wz hz => run_conv_str _ rfl (.slice (some ⟨q7, 0 + 16 * k, none⟩) 16 (N - 16 * k)) rfl _ wz (conv_bytesN (N - 16 * k) (has_mid hz.2.2.1 (16 * k) 16 (by omega)) (fun j => hR _) (fun e => by cases e))) hHeld ?_
            simp only [Act.put, List.setIfInBounds_toArray, List.set_cons_zero, List.set_cons_succ]
            refine takeTo 28 (some 188) (.slice (some ⟨q8, 0, none⟩) N N) rfl rfl (by kernel_rfl) (by kernel_rfl) (by kernel_rfl) (fun _ _ _ h => h) (by rfl) (fun _ _ => rfl) hHeld ?_
            simp only [Act.put, List.setIfInBounds_toArray, List.set_cons_zero, List.set_cons_succ]
            refine takeTo 29 (some 189) (.int .i64 (k : Nat)) rfl rfl (by kernel_rfl) (by kernel_rfl) (by kernel_rfl) (fun _ _ _ h => h) (by rfl) (fun _ _ => rfl) hHeld ?_
            simp only [Act.put, List.setIfInBounds_toArray, List.set_cons_zero, List.set_cons_succ]
            refine takeTo 30 (some 190) (.int .i64 ((16 * k : Nat) : Int)) rfl rfl (by kernel_rfl) (by kernel_rfl) (by kernel_rfl) (fun _ _ _ h => h) (by rfl) (fun wz _ => run_16mulX _ rfl k rfl (by omega) wz) hHeld ?_
            simp only [Act.put, List.setIfInBounds_toArray, List.set_cons_zero, List.set_cons_succ]
            refine takeTo 31 (some 191) (.int .i64 (k : Nat)) rfl rfl (by kernel_rfl) (by kernel_rfl) (by kernel_rfl) (fun _ _ _ h => h) (by rfl) (fun _ _ => rfl) hHeld ?_
            simp only [Act.put, List.setIfInBounds_toArray, List.set_cons_zero, List.set_cons_succ]
            refine takeTo 32 (some 192) (.int .i64 ((16 * k : Nat) : Int)) rfl rfl (by kernel_rfl) (by kernel_rfl) (by kernel_rfl) (fun _ _ _ h => h) (by rfl) (fun wz _ => run_16mulX _ rfl k rfl (by omega) wz) hHeld ?_
            simp only [Act.put, List.setIfInBounds_toArray, List.set_cons_zero, List.set_cons_succ]
            refine takeTo 33 (some 193) (.int .i64 ((16 * k + 16 : Nat) : Int)) rfl rfl (by kernel_rfl) (by kernel_rfl) (by kernel_rfl) (fun _ _ _ h => h) (by rfl) (fun wz _ => run_addX _ _ rfl (16 * k) 16 rfl rfl (by omega) (by omega) wz) hHeld ?_
            simp only [Act.put, List.setIfInBounds_toArray, List.set_cons_zero, List.set_cons_succ]
            refine takeTo 34 (some 194) (.slice (some ⟨q8, 0 + 16 * k, none⟩) 16 (N - 16 * k)) rfl rfl (by kernel_rfl) (by kernel_rfl) (by kernel_rfl) (fun _ _ _ h => h) (by rfl) (fun wz _ => run_slice_midX _ _ _ rfl q8 0 N N (16 * k) 16 rfl rfl rfl (by omega) (by omega) wz) hHeld ?_
            simp only [Act.put, List.setIfInBounds_toArray, List.set_cons_zero, List.set_cons_succ]
            refine takeTo 35 (some 195) (.string ⟨(strN (fun j => R2 (16 * k + j)) 16).toArray⟩) rfl rfl (by kernel_rfl) (by kernel_rfl) (by kernel_rfl) (fun _ _ _ h => h) (by rfl) (fun wz hz => run_conv_str _ rfl (.slice (some ⟨q8, 0 + 16 * k, none⟩) 16 (N - 16 * k)) rfl _ wz (conv_bytesN (N - 16 * k) (has_mid hz.2.2.2 (16 * k) 16 (by omega)) (fun j => hR2 _) (fun e => by cases e))) hHeld ?_
            simp only [Act.put, List.setIfInBounds_toArray, List.set_cons_zero, List.set_cons_succ]
            refine takeTo 36 (some 196) (.bool false) rfl rfl (by kernel_rfl) (by kernel_rfl) (by kernel_rfl) (fun _ _ _ h => h) (by rfl) (fun wz _ => run_neq_strs _ _ rfl _ _ rfl rfl _ (by rw [HR.out k, hch]) wz) hHeld ?_
            simp only [Act.put, List.setIfInBounds_toArray, List.set_cons_zero, List.set_cons_succ]
            refine takeTo 37 (some 197) (.bool false) rfl rfl (by kernel_rfl) (by kernel_rfl) (by kernel_rfl) (fun _ _ _ h => h) (by rfl) (fun _ _ => rfl) hHeld ?_
            simp only [Act.put, List.setIfInBounds_toArray, List.set_cons_zero, List.set_cons_succ]
            refine takeTo 38 (some 198) (.bool false) rfl rfl (by kernel_rfl) (by kernel_rfl) (by kernel_rfl) (fun _ _ _ h => h) (by rfl) (fun wz _ => run_neq_bools _ _ rfl false rfl rfl wz) hHeld ?_
            simp only [Act.put, List.setIfInBounds_toArray, List.set_cons_zero, List.set_cons_succ]
            refine takeTo 39 (some 199) (.bool false) rfl rfl (by kernel_rfl) (by kernel_rfl) (by kernel_rfl) (fun _ _ _ h => h) (by rfl) (fun _ _ => rfl) hHeld ?_
            simp only [Act.put, List.setIfInBounds_toArray, List.set_cons_zero, List.set_cons_succ]
            refine wpAnyH_done (by kernel_rfl) ?_ _
            clear hHeld
            go_wp2
            go_roundw
            case rel => exact ⟨k + 1, by omega, by go_num, hbr.drew⟩
            case measure => simp [intOf]; omega
        · obtain rfl : k = n := by omega
          have j1 : ¬ (k : Int) < (k : Int) := by omega
          have hB9 := hB8.trans (hbr.mono hB8.size)
          go_wp2_with (go_at_call 17; refine (xalive_any _).mono ?_; rintro e w10 ⟨rfl, hb10⟩; have hB10 := hB9.trans (hb10.mono hB9.size))
          go_ret
          exact ⟨rfl, hB10⟩

set_option maxRecDepth 100000 in
set_option maxHeartbeats 3200000 in
theorem xap_pos (f B : Nat → Nat) (s : Nat) (x : Int) (b o len n r cap : Nat) (D : Nat → Nat) (w : World) (hf : ∀ j, f j < 256) (hB : ∀ j, j < 16 → B j < 256) (hs : s < 18446744073709551616) (hx : -9223372036854775808 ≤ x ∧ x ≤ 9223372036854775807) (hD : ∀ j, D j < 256) (hlen : len ≤ 256) (hn : n = len / 16) (hn1 : 1 ≤ n) (hr : r = atA x % n) (hcap : len ≤ cap) (hcap2 : cap ≤ 140737488351232) (hb : Bytes w (some ⟨b, o, none⟩) len D) (hneg : ¬ x < 0) :
    Calls Try.prog 6 #[.agg (cellsN .u8 32 f), .slice (some ⟨b, o, none⟩) len cap, .agg (spotCells (s : Nat) x B)] w fun e w' => e = .returned (.bool true) ∧ Below w.heap.size w w' := by
  have hr1 : r < n := by rw [hr]; exact Nat.mod_lt _ (by omega)
  obtain ⟨N, hN⟩ : ∃ N, N = 16 * n := ⟨_, rfl⟩
  have i1 : ¬ (256 : Int) < (len : Int) := by omega
  have i2 : (len : Int) / 16 = (n : Int) := by omega
  have i3 : ¬ (n : Int) = 0 := by omega
  have i4 : ((n : Int) == 0) = false := by simp; omega
  have i5 : (n : Int) ≤ 16 := by omega
  have i6 : (1 : Int) ≤ (n : Int) := by omega
  have i7 : x.tmod (n : Int) = (r : Int) := by
    have e : x = (atA x : Int) := by unfold atA; rw [if_neg hneg]; omega
    rw [e, hr, Int.tmod_eq_emod_of_nonneg (by omega)]
    omega
  have i8 : (r : Int) < (n : Int) := by omega
  have i9 : (0 : Int) ≤ (r : Int) := by omega
  have i10 : 16 * (n : Int) = (N : Int) := by omega
  have g0 : n ≤ 16 := by omega
  have g1 : N ≤ len := by omega
  have g2x : 0 < N := by omega
  have g5 : N % 16 = 0 := by omega
  have HN16 : Hid (N = 16 * n) := hN
  clear hn hr hN
  have hDw := takeA hb g1
  have hD2 := byAt_lt D B r 16 (Nat.le_refl _) hD hB
  have hP := sealF_lt f hf s D hD
  have hR := openF_lt f hf s D hD
  have hP2 := sealF_lt f hf s _ hD2
  have hR2 := openF_lt f hf s _ hD2
  have HP : Hid (∀ i, (strN (fun j => sealF f s D (16 * i + j)) 16 == strN (fun j => sealF f s (byAt D B r 16) (16 * i + j)) 16) = !chgB B i r) := fun i => chg_seal f hf s D B hD hB r i
  have HR : Hid (∀ i, (strN (fun j => openF f s D (16 * i + j)) 16 == strN (fun j => openF f s (byAt D B r 16) (16 * i + j)) 16) = !chgB B i r) := fun i => chg_open f hf s D B hD hB r i
  have HS1 : Hid (∀ wz g gk gl b c, N ≤ c → XK wz g gk gl f → Bytes wz (some ⟨b, 0, none⟩) N D → Calls Try.prog 20 #[.pointer (some ⟨g, 0, none⟩), .int .u64 (s : Nat), .slice (some ⟨b, 0, none⟩) N c] wz fun e w' => ∃ q, e = .returned (.tuple #[.slice (some ⟨q, 0, none⟩) N N, .int .i64 0]) ∧ wz.heap.size ≤ q ∧ Has w' q 5 (cellsN .u8 N (sealF f s D)) ∧ Below wz.heap.size wz w') :=
    fun wz g gk gl b c hc hC h => seal_lawX f hf g gk gl s b 0 c N D wz hs hD g2x g5 (by omega) hc hC h
  have HS2 : Hid (∀ wz g gk gl b c, N ≤ c → XK wz g gk gl f → Bytes wz (some ⟨b, 0, none⟩) N (byAt D B r 16) → Calls Try.prog 20 #[.pointer (some ⟨g, 0, none⟩), .int .u64 (s : Nat), .slice (some ⟨b, 0, none⟩) N c] wz fun e w' => ∃ q, e = .returned (.tuple #[.slice (some ⟨q, 0, none⟩) N N, .int .i64 0]) ∧ wz.heap.size ≤ q ∧ Has w' q 5 (cellsN .u8 N (sealF f s (byAt D B r 16))) ∧ Below wz.heap.size wz w') :=
    fun wz g gk gl b c hc hC h => seal_lawX f hf g gk gl s b 0 c N (byAt D B r 16) wz hs hD2 g2x g5 (by omega) hc hC h
  have HO1 : Hid (∀ wz g gk gl b c, N ≤ c → XK wz g gk gl f → Bytes wz (some ⟨b, 0, none⟩) N D → Calls Try.prog 22 #[.pointer (some ⟨g, 0, none⟩), .int .u64 (s : Nat), .slice (some ⟨b, 0, none⟩) N c] wz fun e w' => ∃ q, e = .returned (.tuple #[.slice (some ⟨q, 0, none⟩) N N, .int .i64 0]) ∧ wz.heap.size ≤ q ∧ Has w' q 5 (cellsN .u8 N (openF f s D)) ∧ Below wz.heap.size wz w') :=
    fun wz g gk gl b c hc hC h => open_lawX f hf g gk gl s b 0 c N D wz hs hD g2x g5 (by omega) hc hC h
  have HO2 : Hid (∀ wz g gk gl b c, N ≤ c → XK wz g gk gl f → Bytes wz (some ⟨b, 0, none⟩) N (byAt D B r 16) → Calls Try.prog 22 #[.pointer (some ⟨g, 0, none⟩), .int .u64 (s : Nat), .slice (some ⟨b, 0, none⟩) N c] wz fun e w' => ∃ q, e = .returned (.tuple #[.slice (some ⟨q, 0, none⟩) N N, .int .i64 0]) ∧ wz.heap.size ≤ q ∧ Has w' q 5 (cellsN .u8 N (openF f s (byAt D B r 16))) ∧ Below wz.heap.size wz w') :=
    fun wz g gk gl b c hc hC h => open_lawX f hf g gk gl s b 0 c N (byAt D B r 16) wz hs hD2 g2x g5 (by omega) hc hC h
  obtain ⟨P, hPe⟩ : ∃ P, P = sealF f s D := ⟨_, rfl⟩
  obtain ⟨R, hRe⟩ : ∃ R, R = openF f s D := ⟨_, rfl⟩
  obtain ⟨P2, hP2e⟩ : ∃ P, P = sealF f s (byAt D B r 16) := ⟨_, rfl⟩
  obtain ⟨R2, hR2e⟩ : ∃ R, R = openF f s (byAt D B r 16) := ⟨_, rfl⟩
  rw [← hPe] at HS1 hP HP
  rw [← hRe] at HO1 hR HR
  rw [← hP2e] at HS2 hP2 HP
  rw [← hR2e] at HO2 hR2 HR
  clear hPe hRe hP2e hR2e hb
  obtain ⟨w0, hw0⟩ : ∃ x', x' = (w.alloc (.cells (cellsN .u8 32 f) 43)).alloc (.cells (spotCells (s : Nat) x B) 47) := ⟨_, rfl⟩
  have hB0 : Below w.heap.size w w0 := by rw [hw0]; exact two_below _ _ _
  have hF0 : Has w0 w.heap.size 43 (cellsN .u8 32 f) := by rw [hw0]; exact (Has.new _ _ _).alloc _
  have hS0 : Has w0 (w.heap.size + 1) 47 (spotCells (s : Nat) x B) := by rw [hw0]; exact Has.new_at (by simp)
  go_enter Try.func6, Try.ntmps6
  rw [hw0] at hF0 hS0 hB0
  go_wp2_with (first
    | (refine wpList_load_row rfl 43 _ rfl w.heap.size rfl 43 (cellsN .u8 32 f) (0, 0) _ hF0 Try.underlying43 rfl (by rw [cellsN_size]; exact Try.size32) ?_)
    | (go_at_call 24; refine (key_any f _ hf).mono ?_; rintro e w1 ⟨q1, c1, rfl, hc1, hq1, hk1, hb1⟩; have hB1 := hB0.trans (hb1.mono hB0.size); have hS1 := hS0.below hb1 hS0.lt)
    | (go_at_call 18
       refine (new_law f hf _ _ _ hc1 hk1).mono ?_
       rintro e w2 ⟨g, gk, gl, rfl, hC2, hb2⟩
       have hB2 := hB1.trans (hb2.mono hB1.size)
       have hS2 := hS1.below hb2 hS1.lt
       have hx1 : w2.cell? ⟨w.heap.size + 1, 1, none⟩ = some (.int .i64 x) := (by rw [hS2.cell, spot_1])
       have own0 := World.ownsRow_lit (base := w2.heap.size) (e := 5) (size := 1) w2 #[] 0 (Nat.le_refl _) (by unfold maxLen; omega) rfl
       have hbE : Below w2.heap.size w2 (w2.alloc (.cells #[] 5)) := (Below.refl _ _).alloc (Nat.le_refl _) _
       have hkb0 := (hDw.below hB2 (Nat.le_refl _)).below hbE (Nat.le_refl _))
    | (refine wpList_val (some 61) (.slice (some ⟨b, o, none⟩) N cap) rfl (by rfl) (run_slice_hiX _ _ rfl b o len cap N rfl rfl (by omega) (by omega) _) ?_)
    | ((at_builtin)
       (have _t := own0)
       (refine wpList_append_bytes rfl _ _ rfl w2.heap.size _ 0 (fun _ => 0) rfl own0 (some ⟨b, o, none⟩) N cap D rfl (fun e => by cases e) hkb0 (by omega) (by simp) ?_)
       (intro v3 w3 own3 gr3)
       (have hb3 : Below w2.heap.size w2 w3 := hbE.grown gr3 (by simp) (fun k' h => (by have e := Option.some.inj (show some w2.heap.size = some k' from h); omega)))
       (rw [Nat.zero_add, cat_zero] at own3)
       (obtain ⟨g1', d1, rfl, hd1, hg1, hcell1, hbg1, own3'⟩ := own_rowX own3 g2x)
       (have hone3 : Bytes w3 (some ⟨g1', 0, none⟩) N D := .inr ⟨g1', 0, rfl, hg1, fun j hj => by rw [Nat.zero_add]; exact hcell1 j hj⟩)
       (have hB3 := hB2.trans (hb3.mono hB2.size))
       (have hS3 := hS2.below hb3 hS2.lt)
       (have hC3 := hC2.below hb3 (Nat.le_refl _))
       (have own0b := World.ownsRow_lit (base := w3.heap.size) (e := 5) (size := 1) w3 #[] 0 (Nat.le_refl _) (by unfold maxLen; omega) rfl)
       (have hbEb : Below w3.heap.size w3 (w3.alloc (.cells #[] 5)) := (Below.refl _ _).alloc (Nat.le_refl _) _)
       (have hkb1 := hone3.below hbEb (Nat.le_refl _))
       (clear own0 _t gr3 hkb0 hbE own3 own3' hcell1))
    | ((at_builtin)
       (have _t := own0b)
       (refine wpList_append_bytes rfl _ _ rfl w3.heap.size _ 0 (fun _ => 0) rfl own0b (some ⟨g1', 0, none⟩) N d1 D rfl (fun e => by cases e) hkb1 (by omega) (by simp) ?_)
       (intro v4 w4 own4 gr4)
       (have hb4 : Below w3.heap.size w3 w4 := hbEb.grown gr4 (by simp) (fun k' h => (by have e := Option.some.inj (show some w3.heap.size = some k' from h); omega)))
       (rw [Nat.zero_add, cat_zero] at own4)
       (obtain ⟨g2, d2, rfl, hd2, hg2, hcell2, hbg2, own4'⟩ := own_rowX own4 g2x)
       (clear own0b _t gr4 hkb1 hbEb own4 hcell2)))
  go_loopw [13] (fun i wr => ∃ k : Nat, k ≤ 16 ∧ i = .int .i64 k ∧ wr.ownsRow w3.heap.size 5 1 (.slice (some ⟨g2, 0, none⟩) N d2) N (bl (byAt D B r k) N) ∧ Below w3.heap.size w3 wr)
    (fun i _ => 16 - (intOf i).toNat)
  case atStart => exact ⟨0, Nat.zero_le _, rfl, by rw [byAt_0]; exact own4', hb4⟩
  case round =>
    clear own4' hb4
    obtain ⟨k, hk, rfl, hown, hbr⟩ := hrel
    have hNn := HN16.out
    by_cases hlt : k < 16
    · have dd1 : wr.drew.cell? ⟨g2, 0 + (16 * r + k) * 1, none⟩ = some (.int .u8 (D (16 * r + k) : Nat)) := by
        rw [Nat.zero_add, Nat.mul_one]
        show wr.cell? ⟨g2, 16 * r + k, none⟩ = _
        rw [hown.cellAt (16 * r + k) (by omega), bl_get _ _ _ (show 16 * r + k < N by omega), byAt_at]
      have hSr := hS3.below hbr hS3.lt
      have dd2 : wr.drew.cell? ⟨w.heap.size + 1, 2 + k, none⟩ = some (.int .u8 (B k : Nat)) := by
        show wr.cell? ⟨w.heap.size + 1, 2 + k, none⟩ = _
        rw [hSr.cell, spot_2 _ _ _ _ hlt]
      have dd4 : wr.drew.frozen? ⟨g2, 0 + (16 * r + k) * 1, none⟩ = false := by
        rw [Nat.zero_add, Nat.mul_one]
        exact hown.frozenAt (16 * r + k)
      have j1 : (k : Int) < 16 := by omega
      go_wp2_with fail
      refine lastTo (S := fun w' => w'.cell? ⟨g2, 0 + (16 * r + k) * 1, none⟩ = some (.int .u8 (D (16 * r + k) : Nat)) ∧ w'.cell? ⟨w.heap.size + 1, 2 + k, none⟩ = some (.int .u8 (B k : Nat))) 18 (by kernel_rfl) ⟨dd1, dd2⟩ (fun hHeld => ?_)
      refine takeL 0 (some 70) (.slice (some ⟨g2, 0, none⟩) N d2) rfl rfl (by decide) (by kernel_rfl) (by kernel_rfl) (by kernel_rfl) (by kernel_rfl) (fun _ _ _ h => h) (by rfl) (fun _ _ => rfl) hHeld ?_
      simp only [Act.put, List.setIfInBounds_toArray, List.set_cons_zero, List.set_cons_succ]
      refine takeL 1 (some 71) (.int .i64 (r : Nat)) rfl rfl (by decide) (by kernel_rfl) (by kernel_rfl) (by kernel_rfl) (by kernel_rfl) (fun _ _ _ h => h) (by rfl) (fun _ _ => rfl) hHeld ?_
      simp only [Act.put, List.setIfInBounds_toArray, List.set_cons_zero, List.set_cons_succ]
      refine takeL 2 (some 72) (.int .i64 ((16 * r : Nat) : Int)) rfl rfl (by decide) (by kernel_rfl) (by kernel_rfl) (by kernel_rfl) (by kernel_rfl) (fun _ _ _ h => h) (by rfl) (fun wz _ => run_16mulX _ rfl r rfl (by omega) wz) hHeld ?_
      simp only [Act.put, List.setIfInBounds_toArray, List.set_cons_zero, List.set_cons_succ]
      refine takeL 3 (some 73) (.int .i64 (k : Nat)) rfl rfl (by decide) (by kernel_rfl) (by kernel_rfl) (by kernel_rfl) (by kernel_rfl) (fun _ _ _ h => h) (by rfl) (fun _ _ => rfl) hHeld ?_
      simp only [Act.put, List.setIfInBounds_toArray, List.set_cons_zero, List.set_cons_succ]
      refine takeL 4 (some 74) (.int .i64 ((16 * r + k : Nat) : Int)) rfl rfl (by decide) (by kernel_rfl) (by kernel_rfl) (by kernel_rfl) (by kernel_rfl) (fun _ _ _ h => h) (by rfl) (fun wz _ => run_addX _ _ rfl (16 * r) k rfl rfl (by omega) (by omega) wz) hHeld ?_
      simp only [Act.put, List.setIfInBounds_toArray, List.set_cons_zero, List.set_cons_succ]
      refine takeL 5 (some 75) (.slice (some ⟨g2, 0, none⟩) N d2) rfl rfl (by decide) (by kernel_rfl) (by kernel_rfl) (by kernel_rfl) (by kernel_rfl) (fun _ _ _ h => h) (by rfl) (fun _ _ => rfl) hHeld ?_
      simp only [Act.put, List.setIfInBounds_toArray, List.set_cons_zero, List.set_cons_succ]
      refine takeL 6 (some 76) (.int .i64 (r : Nat)) rfl rfl (by decide) (by kernel_rfl) (by kernel_rfl) (by kernel_rfl) (by kernel_rfl) (fun _ _ _ h => h) (by rfl) (fun _ _ => rfl) hHeld ?_
      simp only [Act.put, List.setIfInBounds_toArray, List.set_cons_zero, List.set_cons_succ]
      refine takeL 7 (some 77) (.int .i64 ((16 * r : Nat) : Int)) rfl rfl (by decide) (by kernel_rfl) (by kernel_rfl) (by kernel_rfl) (by kernel_rfl) (fun _ _ _ h => h) (by rfl) (fun wz _ => run_16mulX _ rfl r rfl (by omega) wz) hHeld ?_
      simp only [Act.put, List.setIfInBounds_toArray, List.set_cons_zero, List.set_cons_succ]
      refine takeL 8 (some 78) (.int .i64 (k : Nat)) rfl rfl (by decide) (by kernel_rfl) (by kernel_rfl) (by kernel_rfl) (by kernel_rfl) (fun _ _ _ h => h) (by rfl) (fun _ _ => rfl) hHeld ?_
      simp only [Act.put, List.setIfInBounds_toArray, List.set_cons_zero, List.set_cons_succ]
      refine takeL 9 (some 79) (.int .i64 ((16 * r + k : Nat) : Int)) rfl rfl (by decide) (by kernel_rfl) (by kernel_rfl) (by kernel_rfl) (by kernel_rfl) (fun _ _ _ h => h) (by rfl) (fun wz _ => run_addX _ _ rfl (16 * r) k rfl rfl (by omega) (by omega) wz) hHeld ?_
      simp only [Act.put, List.setIfInBounds_toArray, List.set_cons_zero, List.set_cons_succ]
      refine takeL 10 (some 80) (.pointer (some ⟨g2, 0 + (16 * r + k) * 1, none⟩)) rfl rfl (by decide) (by kernel_rfl) (by kernel_rfl) (by kernel_rfl) (by kernel_rfl) (fun _ _ _ h => h) (by rfl) (fun wz _ => run_indexAddrS 22 _ _ rfl g2 0 (16 * r + k) N d2 1 5 rfl rfl Try.underlying22 one_u8 (by omega) wz) hHeld ?_
      simp only [Act.put, List.setIfInBounds_toArray, List.set_cons_zero, List.set_cons_succ]
      refine takeL 11 (some 81) (.int .u8 (D (16 * r + k) : Nat)) rfl rfl (by decide) (by kernel_rfl) (by kernel_rfl) (by kernel_rfl) (by kernel_rfl) (fun _ _ _ h => h) (by rfl) (fun wz hz => run_load_u8 _ rfl g2 (0 + (16 * r + k) * 1) rfl _ wz hz.1) hHeld ?_
      simp only [Act.put, List.setIfInBounds_toArray, List.set_cons_zero, List.set_cons_succ]
      refine takeL 12 (some 82) (.int .i64 (k : Nat)) rfl rfl (by decide) (by kernel_rfl) (by kernel_rfl) (by kernel_rfl) (by kernel_rfl) (fun _ _ _ h => h) (by rfl) (fun _ _ => rfl) hHeld ?_
      simp only [Act.put, List.setIfInBounds_toArray, List.set_cons_zero, List.set_cons_succ]
      refine takeL 13 (some 83) (.pointer (some ⟨w.heap.size + 1, 2, none⟩)) rfl rfl (by decide) (by kernel_rfl) (by kernel_rfl) (by kernel_rfl) (by kernel_rfl) (fun _ _ _ h => h) (by rfl) (fun wz _ => run_fieldAddr 47 _ 2 rfl (.pointer (some ⟨w.heap.size + 1, 0, none⟩)) (.pointer (some ⟨w.heap.size + 1, 2, none⟩)) rfl (sfield2X _) wz) hHeld ?_
      simp only [Act.put, List.setIfInBounds_toArray, List.set_cons_zero, List.set_cons_succ]
      refine takeL 14 (some 84) (.pointer (some ⟨w.heap.size + 1, 2 + k, none⟩)) rfl rfl (by decide) (by kernel_rfl) (by kernel_rfl) (by kernel_rfl) (by kernel_rfl) (fun _ _ _ h => h) (by rfl) (fun wz _ => run_indexK .i64 23 _ _ rfl (w.heap.size + 1) 2 k 16 5 rfl rfl Try.underlying23 one_u8 (by omega) wz) hHeld ?_
      simp only [Act.put, List.setIfInBounds_toArray, List.set_cons_zero, List.set_cons_succ]
      refine takeL 15 (some 85) (.int .u8 (B k : Nat)) rfl rfl (by decide) (by kernel_rfl) (by kernel_rfl) (by kernel_rfl) (by kernel_rfl) (fun _ _ _ h => h) (by rfl) (fun wz hz => run_load_u8 _ rfl (w.heap.size + 1) (2 + k) rfl _ wz hz.2) hHeld ?_
      simp only [Act.put, List.setIfInBounds_toArray, List.set_cons_zero, List.set_cons_succ]
      refine takeL 16 (some 86) (.int .u8 ((D (16 * r + k) ^^^ B k : Nat) : Int)) rfl rfl (by decide) (by kernel_rfl) (by kernel_rfl) (by kernel_rfl) (by kernel_rfl) (fun _ _ _ h => h) (by rfl) (fun wz _ => run_xor8 _ _ rfl _ _ rfl rfl (hD _) (hB k hlt) wz) hHeld ?_
      simp only [Act.put, List.setIfInBounds_toArray, List.set_cons_zero, List.set_cons_succ]
      refine takeL 17 (some 87) (.pointer (some ⟨g2, 0 + (16 * r + k) * 1, none⟩)) rfl rfl (by decide) (by kernel_rfl) (by kernel_rfl) (by kernel_rfl) (by kernel_rfl) (fun _ _ _ h => h) (by rfl) (fun wz _ => run_indexAddrS 22 _ _ rfl g2 0 (16 * r + k) N d2 1 5 rfl rfl Try.underlying22 one_u8 (by omega) wz) hHeld ?_
      simp only [Act.put, List.setIfInBounds_toArray, List.set_cons_zero, List.set_cons_succ]
      refine lastSkip 18 none (wr.drew.setCell ⟨g2, 0 + (16 * r + k) * 1, none⟩ (.int .u8 ((D (16 * r + k) ^^^ B k : Nat) : Int))) (by kernel_rfl) rfl rfl (by rfl) (run_store_u8X _ _ rfl g2 (0 + (16 * r + k) * 1) rfl _ rfl _ dd1 dd4) (by kernel_rfl) ?_
      clear hHeld dd1 dd2 dd4
      simp only [Act.put]
      go_wp2
      go_roundw
      case rel =>
        have R := hown.stored (16 * r + k) (.int .u8 ((D (16 * r + k) ^^^ B k : Nat) : Int))
        rw [bl_set, byAt_next] at R
        exact ⟨k + 1, by omega, by go_num, own_below R.1 ((Below.refl _ _).drew) (fun k hk => (R.1.lt k hk).2), (hbr.setCell (show w3.heap.size ≤ g2 by omega) _).drew⟩
      case measure => simp [intOf]; omega
    · obtain rfl : k = 16 := by omega
      have htwo : Bytes wr (some ⟨g2, 0, none⟩) N (byAt D B r 16) := by
        obtain ⟨a, cap, e1, e2, e3, e4, e5⟩ := own_bytes hown
        simp only [Value.slice.injEq] at e1
        obtain ⟨rfl, _, rfl⟩ := e1
        exact e4
      have hone := hone3.below hbr (Nat.le_refl _)
      have hC4 := hC3.below hbr (Nat.le_refl _)
      have hS4 := hS3.below hbr hS3.lt
      have hB4 := hB3.trans (hbr.mono hB3.size)
      have hx4 : wr.cell? ⟨w.heap.size + 1, 0, none⟩ = some (.int .u64 (s : Nat)) := by rw [hS4.cell, spot_0]
      clear hown hbr hone3 hC3 hS3 hB3 hx1 hNn
      generalize byAt D B r 16 = D2 at HS2 HO2 htwo
      go_wp2_with (first
        | (go_at_call 20
           refine (HS1.out _ g gk gl g1' d1 hd1 hC4 hone).mono ?_
           rintro e w5 ⟨q5, rfl, hq5, hD5, hb5⟩
           have hx5 : w5.cell? ⟨w.heap.size + 1, 0, none⟩ = some (.int .u64 (s : Nat)) := (by rw [(hS4.below hb5 hS4.lt).cell, spot_0])
           have hC5 := hC4.below hb5 (Nat.le_refl _)
           have hone5 := hone.below hb5 (Nat.le_refl _)
           have htwo5 := htwo.below hb5 (Nat.le_refl _)
           have hS5 := hS4.below hb5 hS4.lt
           have hB5 := hB4.trans (hb5.mono hB4.size)
           clear HS1 hx4)
        | (go_at_call 20
           refine (HS2.out _ g gk gl g2 d2 hd2 hC5 htwo5).mono ?_
           rintro e w6 ⟨q6, rfl, hq6, hD6, hb6⟩
           have hx6 : w6.cell? ⟨w.heap.size + 1, 0, none⟩ = some (.int .u64 (s : Nat)) := (by rw [(hS5.below hb6 hS5.lt).cell, spot_0])
           have hC6 := hC5.below hb6 (Nat.le_refl _)
           have hone6 := hone5.below hb6 (Nat.le_refl _)
           have htwo6 := htwo5.below hb6 (Nat.le_refl _)
           have hS6 := hS5.below hb6 hS5.lt
           have hE6 := hD5.below hb6 hD5.lt
           have hB6 := hB5.trans (hb6.mono hB5.size)
           clear HS2 hx5)
        | (go_at_call 22
           refine (HO1.out _ g gk gl g1' d1 hd1 hC6 hone6).mono ?_
           rintro e w7 ⟨q7, rfl, hq7, hD7, hb7⟩
           have hx7 : w7.cell? ⟨w.heap.size + 1, 0, none⟩ = some (.int .u64 (s : Nat)) := (by rw [(hS6.below hb7 hS6.lt).cell, spot_0])
           have hC7 := hC6.below hb7 (Nat.le_refl _)
           have htwo7 := htwo6.below hb7 (Nat.le_refl _)
           have hS7 := hS6.below hb7 hS6.lt
           have hE7 := hE6.below hb7 hE6.lt
           have hG7 := hD6.below hb7 hD6.lt
           have hB7 := hB6.trans (hb7.mono hB6.size)
           clear HO1 hx6)
        | (go_at_call 22
           refine (HO2.out _ g gk gl g2 d2 hd2 hC7 htwo7).mono ?_
           rintro e w8 ⟨q8, rfl, hq8, hD8, hb8⟩
           have hS8 := hS7.below hb8 hS7.lt
           have hE8 := hE7.below hb8 hE7.lt
           have hG8 := hG7.below hb8 hG7.lt
           have hJ8 := hD7.below hb8 hD7.lt
           have hB8 := hB7.trans (hb8.mono hB7.size)
           clear HO2 hx7))
      clear hC4 hC5 hC6 hC7 hS4 hS5 hS6 hS7 hone hone5 hone6 htwo htwo5 htwo6 htwo7 hE6 hE7 hG7 hD5 hD6 hD7 hB4 hB5 hB6 hB7
      clear hq5 hq6 hq7 hq8 hb5 hb6 hb7 hb8 hx i7 hneg hcap hcap2 i2
      go_loopw [22] (fun i wr => ∃ k : Nat, k ≤ n ∧ i = .int .i64 k ∧ Below w8.heap.size w8 wr)
        (fun i _ => n - (intOf i).toNat)
      case atStart => exact ⟨0, Nat.zero_le _, rfl, Below.refl _ _⟩
      case round =>
        obtain ⟨k, hk, rfl, hbr⟩ := hrel
        by_cases hlt : k < n
        · have hAll : Has wr.drew q5 5 (cellsN .u8 N P) ∧ Has wr.drew q6 5 (cellsN .u8 N P2) ∧ Has wr.drew q7 5 (cellsN .u8 N R) ∧ Has wr.drew q8 5 (cellsN .u8 N R2) := ⟨hE8.below hbr.drew hE8.lt, hG8.below hbr.drew hG8.lt, hJ8.below hbr.drew hJ8.lt, hD8.below hbr.drew hD8.lt⟩
          have hSr := hS8.below hbr hS8.lt
          have hBy : wr.rangeAt (w.heap.size + 1) 2 (cellsN .u8 16 B).toList := range_cells (fun j hj => by rw [hSr.cell, spot_2 _ _ _ _ hj])
          have j1 : (k : Int) < (n : Int) := by omega
          have j2 : (0 : Int) ≤ (k : Int) := by omega
          have hkN : 16 * k + 16 ≤ N := by have := HN16.out; omega
          by_cases hi : k = r
          · have e1 : ((k : Int) == (r : Int)) = true := by simp; omega
            obtain ⟨c, hc⟩ : ∃ c, c = chgB B k r := ⟨_, rfl⟩
            have hch : chgB B k r = c := hc.symm
            have HCV : Hid ((!eqB B fun _ => 0) = c) := by
              unfold Hid
              rw [hc]
              unfold chgB
              simp [hi]
            clear hc hi
            go_wp2_with (first | (refine wpList_val (some 156) (.agg (cellsN .u8 16 B)) rfl (by rfl) (run_load_mid 23 _ rfl (w.heap.size + 1) 2 rfl _ Try.underlying23 rfl (by rw [cellsN_size]; exact Try.size23) _ hBy) ?_) | (refine wpList_val (some 157) (.agg (cellsN .u8 16 fun _ => 0)) rfl (by rfl) (run_build0 rfl _) ?_) | (refine wpList_val (some 158) (.bool c) rfl (by rfl) (by rw [← HCV.out]; exact run_neq_block _ _ rfl B (fun _ => 0) rfl rfl hB (fun _ _ => by decide) _) ?_))
            refine wp_region_held_drew (S := fun wz => Has wz q5 5 (cellsN .u8 N P) ∧ Has wz q6 5 (cellsN .u8 N P2) ∧ Has wz q7 5 (cellsN .u8 N R) ∧ Has wz q8 5 (cellsN .u8 N R2)) (by kernel_rfl) hAll (fun hHeld => ?_)
            refine takeTo 0 (some 160) (.slice (some ⟨q5, 0, none⟩) N N) rfl rfl (by kernel_rfl) (by kernel_rfl) (by kernel_rfl) (fun _ _ _ h => h) (by rfl) (fun _ _ => rfl) hHeld ?_
            simp only [Act.put, List.setIfInBounds_toArray, List.set_cons_zero, List.set_cons_succ]
            refine takeTo 1 (some 161) (.int .i64 (k : Nat)) rfl rfl (by kernel_rfl) (by kernel_rfl) (by kernel_rfl) (fun _ _ _ h => h) (by rfl) (fun _ _ => rfl) hHeld ?_
            simp only [Act.put, List.setIfInBounds_toArray, List.set_cons_zero, List.set_cons_succ]
            refine takeTo 2 (some 162) (.int .i64 ((16 * k : Nat) : Int)) rfl rfl (by kernel_rfl) (by kernel_rfl) (by kernel_rfl) (fun _ _ _ h => h) (by rfl) (fun wz _ => run_16mulX _ rfl k rfl (by omega) wz) hHeld ?_
            simp only [Act.put, List.setIfInBounds_toArray, List.set_cons_zero, List.set_cons_succ]
            refine takeTo 3 (some 163) (.int .i64 (k : Nat)) rfl rfl (by kernel_rfl) (by kernel_rfl) (by kernel_rfl) (fun _ _ _ h => h) (by rfl) (fun _ _ => rfl) hHeld ?_
            simp only [Act.put, List.setIfInBounds_toArray, List.set_cons_zero, List.set_cons_succ]
            refine takeTo 4 (some 164) (.int .i64 ((16 * k : Nat) : Int)) rfl rfl (by kernel_rfl) (by kernel_rfl) (by kernel_rfl) (fun _ _ _ h => h) (by rfl) (fun wz _ => run_16mulX _ rfl k rfl (by omega) wz) hHeld ?_
            simp only [Act.put, List.setIfInBounds_toArray, List.set_cons_zero, List.set_cons_succ]
            refine takeTo 5 (some 165) (.int .i64 ((16 * k + 16 : Nat) : Int)) rfl rfl (by kernel_rfl) (by kernel_rfl) (by kernel_rfl) (fun _ _ _ h => h) (by rfl) (fun wz _ => run_addX _ _ rfl (16 * k) 16 rfl rfl (by omega) (by omega) wz) hHeld ?_
            simp only [Act.put, List.setIfInBounds_toArray, List.set_cons_zero, List.set_cons_succ]
            refine takeTo 6 (some 166) (.slice (some ⟨q5, 0 + 16 * k, none⟩) 16 (N - 16 * k)) rfl rfl (by kernel_rfl) (by kernel_rfl) (by kernel_rfl) (fun _ _ _ h => h) (by rfl) (fun wz _ => run_slice_midX _ _ _ rfl q5 0 N N (16 * k) 16 rfl rfl rfl (by omega) (by omega) wz) hHeld ?_
            simp only [Act.put, List.setIfInBounds_toArray, List.set_cons_zero, List.set_cons_succ]
            refine takeTo 7 (some 167) (.string ⟨(strN (fun j => P (16 * k + j)) 16).toArray⟩) rfl rfl (by kernel_rfl) (by kernel_rfl) (by kernel_rfl) (fun _ _ _ h => h) (by rfl) (fun wz hz => run_conv_str _ rfl (.slice (some ⟨q5, 0 + 16 * k, none⟩) 16 (N - 16 * k)) rfl _ wz (conv_bytesN (N - 16 * k) (has_mid hz.1 (16 * k) 16 (by omega)) (fun j => hP _) (fun e => by cases e))) hHeld ?_
            simp only [Act.put, List.setIfInBounds_toArray, List.set_cons_zero, List.set_cons_succ]
            refine takeTo 8 (some 168) (.slice (some ⟨q6, 0, none⟩) N N) rfl rfl (by kernel_rfl) (by kernel_rfl) (by kernel_rfl) (fun _ _ _ h => h) (by rfl) (fun _ _ => rfl) hHeld ?_
            simp only [Act.put, List.setIfInBounds_toArray, List.set_cons_zero, List.set_cons_succ]
            refine takeTo 9 (some 169) (.int .i64 (k : Nat)) rfl rfl (by kernel_rfl) (by kernel_rfl) (by kernel_rfl) (fun _ _ _ h => h) (by rfl) (fun _ _ => rfl) hHeld ?_
            simp only [Act.put, List.setIfInBounds_toArray, List.set_cons_zero, List.set_cons_succ]
            refine takeTo 10 (some 170) (.int .i64 ((16 * k : Nat) : Int)) rfl rfl (by kernel_rfl) (by kernel_rfl) (by kernel_rfl) (fun _ _ _ h => h) (by rfl) (fun wz _ => run_16mulX _ rfl k rfl (by omega) wz) hHeld ?_
            simp only [Act.put, List.setIfInBounds_toArray, List.set_cons_zero, List.set_cons_succ]
            refine takeTo 11 (some 171) (.int .i64 (k : Nat)) rfl rfl (by kernel_rfl) (by kernel_rfl) (by kernel_rfl) (fun _ _ _ h => h) (by rfl) (fun _ _ => rfl) hHeld ?_
            simp only [Act.put, List.setIfInBounds_toArray, List.set_cons_zero, List.set_cons_succ]
            refine takeTo 12 (some 172) (.int .i64 ((16 * k : Nat) : Int)) rfl rfl (by kernel_rfl) (by kernel_rfl) (by kernel_rfl) (fun _ _ _ h => h) (by rfl) (fun wz _ => run_16mulX _ rfl k rfl (by omega) wz) hHeld ?_
            simp only [Act.put, List.setIfInBounds_toArray, List.set_cons_zero, List.set_cons_succ]
            refine takeTo 13 (some 173) (.int .i64 ((16 * k + 16 : Nat) : Int)) rfl rfl (by kernel_rfl) (by kernel_rfl) (by kernel_rfl) (fun _ _ _ h => h) (by rfl) (fun wz _ => run_addX _ _ rfl (16 * k) 16 rfl rfl (by omega) (by omega) wz) hHeld ?_
            simp only [Act.put, List.setIfInBounds_toArray, List.set_cons_zero, List.set_cons_succ]
            refine takeTo 14 (some 174) (.slice (some ⟨q6, 0 + 16 * k, none⟩) 16 (N - 16 * k)) rfl rfl (by kernel_rfl) (by kernel_rfl) (by kernel_rfl) (fun _ _ _ h => h) (by rfl) (fun wz _ => run_slice_midX _ _ _ rfl q6 0 N N (16 * k) 16 rfl rfl rfl (by omega) (by omega) wz) hHeld ?_
            simp only [Act.put, List.setIfInBounds_toArray, List.set_cons_zero, List.set_cons_succ]
            refine takeTo 15 (some 175) (.string ⟨(strN (fun j => P2 (16 * k + j)) 16).toArray⟩) rfl rfl (by kernel_rfl) (by kernel_rfl) (by kernel_rfl) (fun _ _ _ h => h) (by rfl) (fun wz hz => run_conv_str _ rfl (.slice (some ⟨q6, 0 + 16 * k, none⟩) 16 (N - 16 * k)) rfl _ wz (conv_bytesN (N - 16 * k) (has_mid hz.2.1 (16 * k) 16 (by omega)) (fun j => hP2 _) (fun e => by cases e))) hHeld ?_
            simp only [Act.put, List.setIfInBounds_toArray, List.set_cons_zero, List.set_cons_succ]
            refine takeTo 16 (some 176) (.bool c) rfl rfl (by kernel_rfl) (by kernel_rfl) (by kernel_rfl) (fun _ _ _ h => h) (by rfl) (fun wz _ => run_neq_strs _ _ rfl _ _ rfl rfl _ (by rw [HP.out k, hch]) wz) hHeld ?_
            simp only [Act.put, List.setIfInBounds_toArray, List.set_cons_zero, List.set_cons_succ]
            refine takeTo 17 (some 177) (.bool c) rfl rfl (by kernel_rfl) (by kernel_rfl) (by kernel_rfl) (fun _ _ _ h => h) (by rfl) (fun _ _ => rfl) hHeld ?_
            simp only [Act.put, List.setIfInBounds_toArray, List.set_cons_zero, List.set_cons_succ]
            refine takeTo 18 (some 178) (.bool false) rfl rfl (by kernel_rfl) (by kernel_rfl) (by kernel_rfl) (fun _ _ _ h => h) (by rfl) (fun wz _ => run_neq_bools _ _ rfl c rfl rfl wz) hHeld ?_
            simp only [Act.put, List.setIfInBounds_toArray, List.set_cons_zero, List.set_cons_succ]
            refine takeTo 19 (some 179) (.bool false) rfl rfl (by kernel_rfl) (by kernel_rfl) (by kernel_rfl) (fun _ _ _ h => h) (by rfl) (fun _ _ => rfl) hHeld ?_
            simp only [Act.put, List.setIfInBounds_toArray, List.set_cons_zero, List.set_cons_succ]
            refine takeTo 20 (some 180) (.slice (some ⟨q7, 0, none⟩) N N) rfl rfl (by kernel_rfl) (by kernel_rfl) (by kernel_rfl) (fun _ _ _ h => h) (by rfl) (fun _ _ => rfl) hHeld ?_
            simp only [Act.put, List.setIfInBounds_toArray, List.set_cons_zero, List.set_cons_succ]
            refine takeTo 21 (some 181) (.int .i64 (k : Nat)) rfl rfl (by kernel_rfl) (by kernel_rfl) (by kernel_rfl) (fun _ _ _ h => h) (by rfl) (fun _ _ => rfl) hHeld ?_
            simp only [Act.put, List.setIfInBounds_toArray, List.set_cons_zero, List.set_cons_succ]
            refine takeTo 22 (some 182) (.int .i64 ((16 * k : Nat) : Int)) rfl rfl (by kernel_rfl) (by kernel_rfl) (by kernel_rfl) (fun _ _ _ h => h) (by rfl) (fun wz _ => run_16mulX _ rfl k rfl (by omega) wz) hHeld ?_
            simp only [Act.put, List.setIfInBounds_toArray, List.set_cons_zero, List.set_cons_succ]
            refine takeTo 23 (some 183) (.int .i64 (k : Nat)) rfl rfl (by kernel_rfl) (by kernel_rfl) (by kernel_rfl) (fun _ _ _ h => h) (by rfl) (fun _ _ => rfl) hHeld ?_
            simp only [Act.put, List.setIfInBounds_toArray, List.set_cons_zero, List.set_cons_succ]
            refine takeTo 24 (some 184) (.int .i64 ((16 * k : Nat) : Int)) rfl rfl (by kernel_rfl) (by kernel_rfl) (by kernel_rfl) (fun _ _ _ h => h) (by rfl) (fun wz _ => run_16mulX _ rfl k rfl (by omega) wz) hHeld ?_
            simp only [Act.put, List.setIfInBounds_toArray, List.set_cons_zero, List.set_cons_succ]
            refine takeTo 25 (some 185) (.int .i64 ((16 * k + 16 : Nat) : Int)) rfl rfl (by kernel_rfl) (by kernel_rfl) (by kernel_rfl) (fun _ _ _ h => h) (by rfl) (fun wz _ => run_addX _ _ rfl (16 * k) 16 rfl rfl (by omega) (by omega) wz) hHeld ?_
            simp only [Act.put, List.setIfInBounds_toArray, List.set_cons_zero, List.set_cons_succ]
            refine takeTo 26 (some 186) (.slice (some ⟨q7, 0 + 16 * k, none⟩) 16 (N - 16 * k)) rfl rfl (by kernel_rfl) (by kernel_rfl) (by kernel_rfl) (fun _ _ _ h => h) (by rfl) (fun wz _ => run_slice_midX _ _ _ rfl q7 0 N N (16 * k) 16 rfl rfl rfl (by omega) (by omega) wz) hHeld ?_
            simp only [Act.put, List.setIfInBounds_toArray, List.set_cons_zero, List.set_cons_succ]
            refine takeTo 27 (some 187) (.string ⟨(strN (fun j => R (16 * k + j)) 16).toArray⟩) rfl rfl (by kernel_rfl) (by kernel_rfl) (by kernel_rfl) (fun _ _ _ h => h) (by rfl) (fun wz hz => run_conv_str _ rfl (.slice (some ⟨q7, 0 + 16 * k, none⟩) 16 (N - 16 * k)) rfl _ wz (conv_bytesN (N - 16 * k) (has_mid hz.2.2.1 (16 * k) 16 (by omega)) (fun j => hR _) (fun e => by cases e))) hHeld ?_
            simp only [Act.put, List.setIfInBounds_toArray, List.set_cons_zero, List.set_cons_succ]
            refine takeTo 28 (some 188) (.slice (some ⟨q8, 0, none⟩) N N) rfl rfl (by kernel_rfl) (by kernel_rfl) (by kernel_rfl) (fun _ _ _ h => h) (by rfl) (fun _ _ => rfl) hHeld ?_
            simp only [Act.put, List.setIfInBounds_toArray, List.set_cons_zero, List.set_cons_succ]
            refine takeTo 29 (some 189) (.int .i64 (k : Nat)) rfl rfl (by kernel_rfl) (by kernel_rfl) (by kernel_rfl) (fun _ _ _ h => h) (by rfl) (fun _ _ => rfl) hHeld ?_
            simp only [Act.put, List.setIfInBounds_toArray, List.set_cons_zero, List.set_cons_succ]
            refine takeTo 30 (some 190) (.int .i64 ((16 * k : Nat) : Int)) rfl rfl (by kernel_rfl) (by kernel_rfl) (by kernel_rfl) (fun _ _ _ h => h) (by rfl) (fun wz _ => run_16mulX _ rfl k rfl (by omega) wz) hHeld ?_
            simp only [Act.put, List.setIfInBounds_toArray, List.set_cons_zero, List.set_cons_succ]
            refine takeTo 31 (some 191) (.int .i64 (k : Nat)) rfl rfl (by kernel_rfl) (by kernel_rfl) (by kernel_rfl) (fun _ _ _ h => h) (by rfl) (fun _ _ => rfl) hHeld ?_
            simp only [Act.put, List.setIfInBounds_toArray, List.set_cons_zero, List.set_cons_succ]
            refine takeTo 32 (some 192) (.int .i64 ((16 * k : Nat) : Int)) rfl rfl (by kernel_rfl) (by kernel_rfl) (by kernel_rfl) (fun _ _ _ h => h) (by rfl) (fun wz _ => run_16mulX _ rfl k rfl (by omega) wz) hHeld ?_
            simp only [Act.put, List.setIfInBounds_toArray, List.set_cons_zero, List.set_cons_succ]
            refine takeTo 33 (some 193) (.int .i64 ((16 * k + 16 : Nat) : Int)) rfl rfl (by kernel_rfl) (by kernel_rfl) (by kernel_rfl) (fun _ _ _ h => h) (by rfl) (fun wz _ => run_addX _ _ rfl (16 * k) 16 rfl rfl (by omega) (by omega) wz) hHeld ?_
            simp only [Act.put, List.setIfInBounds_toArray, List.set_cons_zero, List.set_cons_succ]
            refine takeTo 34 (some 194) (.slice (some ⟨q8, 0 + 16 * k, none⟩) 16 (N - 16 * k)) rfl rfl (by kernel_rfl) (by kernel_rfl) (by kernel_rfl) (fun _ _ _ h => h) (by rfl) (fun wz _ => run_slice_midX _ _ _ rfl q8 0 N N (16 * k) 16 rfl rfl rfl (by omega) (by omega) wz) hHeld ?_
            simp only [Act.put, List.setIfInBounds_toArray, List.set_cons_zero, List.set_cons_succ]
            refine takeTo 35 (some 195) (.string ⟨(strN (fun j => R2 (16 * k + j)) 16).toArray⟩) rfl rfl (by kernel_rfl) (by kernel_rfl) (by kernel_rfl) (fun _ _ _ h => h) (by rfl) (fun wz hz => run_conv_str _ rfl (.slice (some ⟨q8, 0 + 16 * k, none⟩) 16 (N - 16 * k)) rfl _ wz (conv_bytesN (N - 16 * k) (has_mid hz.2.2.2 (16 * k) 16 (by omega)) (fun j => hR2 _) (fun e => by cases e))) hHeld ?_
            simp only [Act.put, List.setIfInBounds_toArray, List.set_cons_zero, List.set_cons_succ]
            refine takeTo 36 (some 196) (.bool c) rfl rfl (by kernel_rfl) (by kernel_rfl) (by kernel_rfl) (fun _ _ _ h => h) (by rfl) (fun wz _ => run_neq_strs _ _ rfl _ _ rfl rfl _ (by rw [HR.out k, hch]) wz) hHeld ?_
            simp only [Act.put, List.setIfInBounds_toArray, List.set_cons_zero, List.set_cons_succ]
            refine takeTo 37 (some 197) (.bool c) rfl rfl (by kernel_rfl) (by kernel_rfl) (by kernel_rfl) (fun _ _ _ h => h) (by rfl) (fun _ _ => rfl) hHeld ?_
            simp only [Act.put, List.setIfInBounds_toArray, List.set_cons_zero, List.set_cons_succ]
            refine takeTo 38 (some 198) (.bool false) rfl rfl (by kernel_rfl) (by kernel_rfl) (by kernel_rfl) (fun _ _ _ h => h) (by rfl) (fun wz _ => run_neq_bools _ _ rfl c rfl rfl wz) hHeld ?_
            simp only [Act.put, List.setIfInBounds_toArray, List.set_cons_zero, List.set_cons_succ]
            refine takeTo 39 (some 199) (.bool false) rfl rfl (by kernel_rfl) (by kernel_rfl) (by kernel_rfl) (fun _ _ _ h => h) (by rfl) (fun _ _ => rfl) hHeld ?_
            simp only [Act.put, List.setIfInBounds_toArray, List.set_cons_zero, List.set_cons_succ]
            refine wpAnyH_done (by kernel_rfl) ?_ _
            clear hHeld
            go_wp2
            go_roundw
            case rel => exact ⟨k + 1, by omega, by go_num, hbr.drew⟩
            case measure => simp [intOf]; omega
          · have e1 : ((k : Int) == (r : Int)) = false := by simp; omega
            have hch : chgB B k r = false := by unfold chgB; simp [hi]
            clear hi
            go_wp2_with fail
            refine wp_region_held_drew (S := fun wz => Has wz q5 5 (cellsN .u8 N P) ∧ Has wz q6 5 (cellsN .u8 N P2) ∧ Has wz q7 5 (cellsN .u8 N R) ∧ Has wz q8 5 (cellsN .u8 N R2)) (by kernel_rfl) hAll (fun hHeld => ?_)
            refine takeTo 0 (some 160) (.slice (some ⟨q5, 0, none⟩) N N) rfl rfl (by kernel_rfl) (by kernel_rfl) (by kernel_rfl) (fun _ _ _ h => h) (by rfl) (fun _ _ => rfl) hHeld ?_
            simp only [Act.put, List.setIfInBounds_toArray, List.set_cons_zero, List.set_cons_succ]
            refine takeTo 1 (some 161) (.int .i64 (k : Nat)) rfl rfl (by kernel_rfl) (by kernel_rfl) (by kernel_rfl) (fun _ _ _ h => h) (by rfl) (fun _ _ => rfl) hHeld ?_
            simp only [Act.put, List.setIfInBounds_toArray, List.set_cons_zero, List.set_cons_succ]
            refine takeTo 2 (some 162) (.int .i64 ((16 * k : Nat) : Int)) rfl rfl (by kernel_rfl) (by kernel_rfl) (by kernel_rfl) (fun _ _ _ h => h) (by rfl) (fun wz _ => run_16mulX _ rfl k rfl (by omega) wz) hHeld ?_
            simp only [Act.put, List.setIfInBounds_toArray, List.set_cons_zero, List.set_cons_succ]
            refine takeTo 3 (some 163) (.int .i64 (k : Nat)) rfl rfl (by kernel_rfl) (by kernel_rfl) (by kernel_rfl) (fun _ _ _ h => h) (by rfl) (fun _ _ => rfl) hHeld ?_
            simp only [Act.put, List.setIfInBounds_toArray, List.set_cons_zero, List.set_cons_succ]
            refine takeTo 4 (some 164) (.int .i64 ((16 * k : Nat) : Int)) rfl rfl (by kernel_rfl) (by kernel_rfl) (by kernel_rfl) (fun _ _ _ h => h) (by rfl) (fun wz _ => run_16mulX _ rfl k rfl (by omega) wz) hHeld ?_
            simp only [Act.put, List.setIfInBounds_toArray, List.set_cons_zero, List.set_cons_succ]
            refine takeTo 5 (some 165) (.int .i64 ((16 * k + 16 : Nat) : Int)) rfl rfl (by kernel_rfl) (by kernel_rfl) (by kernel_rfl) (fun _ _ _ h => h) (by rfl) (fun wz _ => run_addX _ _ rfl (16 * k) 16 rfl rfl (by omega) (by omega) wz) hHeld ?_
            simp only [Act.put, List.setIfInBounds_toArray, List.set_cons_zero, List.set_cons_succ]
            refine takeTo 6 (some 166) (.slice (some ⟨q5, 0 + 16 * k, none⟩) 16 (N - 16 * k)) rfl rfl (by kernel_rfl) (by kernel_rfl) (by kernel_rfl) (fun _ _ _ h => h) (by rfl) (fun wz _ => run_slice_midX _ _ _ rfl q5 0 N N (16 * k) 16 rfl rfl rfl (by omega) (by omega) wz) hHeld ?_
            simp only [Act.put, List.setIfInBounds_toArray, List.set_cons_zero, List.set_cons_succ]
            refine takeTo 7 (some 167) (.string ⟨(strN (fun j => P (16 * k + j)) 16).toArray⟩) rfl rfl (by kernel_rfl) (by kernel_rfl) (by kernel_rfl) (fun _ _ _ h => h) (by rfl) (fun wz hz => run_conv_str _ rfl (.slice (some ⟨q5, 0 + 16 * k, none⟩) 16 (N - 16 * k)) rfl _ wz (conv_bytesN (N - 16 * k) (has_mid hz.1 (16 * k) 16 (by omega)) (fun j => hP _) (fun e => by cases e))) hHeld ?_
            simp only [Act.put, List.setIfInBounds_toArray, List.set_cons_zero, List.set_cons_succ]
            refine takeTo 8 (some 168) (.slice (some ⟨q6, 0, none⟩) N N) rfl rfl (by kernel_rfl) (by kernel_rfl) (by kernel_rfl) (fun _ _ _ h => h) (by rfl) (fun _ _ => rfl) hHeld ?_
            simp only [Act.put, List.setIfInBounds_toArray, List.set_cons_zero, List.set_cons_succ]
            refine takeTo 9 (some 169) (.int .i64 (k : Nat)) rfl rfl (by kernel_rfl) (by kernel_rfl) (by kernel_rfl) (fun _ _ _ h => h) (by rfl) (fun _ _ => rfl) hHeld ?_
            simp only [Act.put, List.setIfInBounds_toArray, List.set_cons_zero, List.set_cons_succ]
            refine takeTo 10 (some 170) (.int .i64 ((16 * k : Nat) : Int)) rfl rfl (by kernel_rfl) (by kernel_rfl) (by kernel_rfl) (fun _ _ _ h => h) (by rfl) (fun wz _ => run_16mulX _ rfl k rfl (by omega) wz) hHeld ?_
            simp only [Act.put, List.setIfInBounds_toArray, List.set_cons_zero, List.set_cons_succ]
            refine takeTo 11 (some 171) (.int .i64 (k : Nat)) rfl rfl (by kernel_rfl) (by kernel_rfl) (by kernel_rfl) (fun _ _ _ h => h) (by rfl) (fun _ _ => rfl) hHeld ?_
            simp only [Act.put, List.setIfInBounds_toArray, List.set_cons_zero, List.set_cons_succ]
            refine takeTo 12 (some 172) (.int .i64 ((16 * k : Nat) : Int)) rfl rfl (by kernel_rfl) (by kernel_rfl) (by kernel_rfl) (fun _ _ _ h => h) (by rfl) (fun wz _ => run_16mulX _ rfl k rfl (by omega) wz) hHeld ?_
            simp only [Act.put, List.setIfInBounds_toArray, List.set_cons_zero, List.set_cons_succ]
            refine takeTo 13 (some 173) (.int .i64 ((16 * k + 16 : Nat) : Int)) rfl rfl (by kernel_rfl) (by kernel_rfl) (by kernel_rfl) (fun _ _ _ h => h) (by rfl) (fun wz _ => run_addX _ _ rfl (16 * k) 16 rfl rfl (by omega) (by omega) wz) hHeld ?_
            simp only [Act.put, List.setIfInBounds_toArray, List.set_cons_zero, List.set_cons_succ]
            refine takeTo 14 (some 174) (.slice (some ⟨q6, 0 + 16 * k, none⟩) 16 (N - 16 * k)) rfl rfl (by kernel_rfl) (by kernel_rfl) (by kernel_rfl) (fun _ _ _ h => h) (by rfl) (fun wz _ => run_slice_midX _ _ _ rfl q6 0 N N (16 * k) 16 rfl rfl rfl (by omega) (by omega) wz) hHeld ?_
            simp only [Act.put, List.setIfInBounds_toArray, List.set_cons_zero, List.set_cons_succ]
            refine takeTo 15 (some 175) (.string ⟨(strN (fun j => P2 (16 * k + j)) 16).toArray⟩) rfl rfl (by kernel_rfl) (by kernel_rfl) (by kernel_rfl) (fun _ _ _ h => h) (by rfl) (fun wz hz => run_conv_str _ rfl (.slice (some ⟨q6, 0 + 16 * k, none⟩) 16 (N - 16 * k)) rfl _ wz (conv_bytesN (N - 16 * k) (has_mid hz.2.1 (16 * k) 16 (by omega)) (fun j => hP2 _) (fun e => by cases e))) hHeld ?_
            simp only [Act.put, List.setIfInBounds_toArray, List.set_cons_zero, List.set_cons_succ]
            refine takeTo 16 (some 176) (.bool false) rfl rfl (by kernel_rfl) (by kernel_rfl) (by kernel_rfl) (fun _ _ _ h => h) (by rfl) (fun wz _ => run_neq_strs _ _ rfl _ _ rfl rfl _ (by rw [HP.out k, hch]) wz) hHeld ?_
            simp only [Act.put, List.setIfInBounds_toArray, List.set_cons_zero, List.set_cons_succ]
            refine takeTo 17 (some 177) (.bool false) rfl rfl (by kernel_rfl) (by kernel_rfl) (by kernel_rfl) (fun _ _ _ h => h) (by rfl) (fun _ _ => rfl) hHeld ?_
            simp only [Act.put, List.setIfInBounds_toArray, List.set_cons_zero, List.set_cons_succ]
            refine takeTo 18 (some 178) (.bool false) rfl rfl (by kernel_rfl) (by kernel_rfl) (by kernel_rfl) (fun _ _ _ h => h) (by rfl) (fun wz _ => run_neq_bools _ _ rfl false rfl rfl wz) hHeld ?_
            simp only [Act.put, List.setIfInBounds_toArray, List.set_cons_zero, List.set_cons_succ]
            refine takeTo 19 (some 179) (.bool false) rfl rfl (by kernel_rfl) (by kernel_rfl) (by kernel_rfl) (fun _ _ _ h => h) (by rfl) (fun _ _ => rfl) hHeld ?_
            simp only [Act.put, List.setIfInBounds_toArray, List.set_cons_zero, List.set_cons_succ]
            refine takeTo 20 (some 180) (.slice (some ⟨q7, 0, none⟩) N N) rfl rfl (by kernel_rfl) (by kernel_rfl) (by kernel_rfl) (fun _ _ _ h => h) (by rfl) (fun _ _ => rfl) hHeld ?_
            simp only [Act.put, List.setIfInBounds_toArray, List.set_cons_zero, List.set_cons_succ]
            refine takeTo 21 (some 181) (.int .i64 (k : Nat)) rfl rfl (by kernel_rfl) (by kernel_rfl) (by kernel_rfl) (fun _ _ _ h => h) (by rfl) (fun _ _ => rfl) hHeld ?_
            simp only [Act.put, List.setIfInBounds_toArray, List.set_cons_zero, List.set_cons_succ]
            refine takeTo 22 (some 182) (.int .i64 ((16 * k : Nat) : Int)) rfl rfl (by kernel_rfl) (by kernel_rfl) (by kernel_rfl) (fun _ _ _ h => h) (by rfl) (fun wz _ => run_16mulX _ rfl k rfl (by omega) wz) hHeld ?_
            simp only [Act.put, List.setIfInBounds_toArray, List.set_cons_zero, List.set_cons_succ]
            refine takeTo 23 (some 183) (.int .i64 (k : Nat)) rfl rfl (by kernel_rfl) (by kernel_rfl) (by kernel_rfl) (fun _ _ _ h => h) (by rfl) (fun _ _ => rfl) hHeld ?_
            simp only [Act.put, List.setIfInBounds_toArray, List.set_cons_zero, List.set_cons_succ]
            refine takeTo 24 (some 184) (.int .i64 ((16 * k : Nat) : Int)) rfl rfl (by kernel_rfl) (by kernel_rfl) (by kernel_rfl) (fun _ _ _ h => h) (by rfl) (fun wz _ => run_16mulX _ rfl k rfl (by omega) wz) hHeld ?_
            simp only [Act.put, List.setIfInBounds_toArray, List.set_cons_zero, List.set_cons_succ]
            refine takeTo 25 (some 185) (.int .i64 ((16 * k + 16 : Nat) : Int)) rfl rfl (by kernel_rfl) (by kernel_rfl) (by kernel_rfl) (fun _ _ _ h => h) (by rfl) (fun wz _ => run_addX _ _ rfl (16 * k) 16 rfl rfl (by omega) (by omega) wz) hHeld ?_
            simp only [Act.put, List.setIfInBounds_toArray, List.set_cons_zero, List.set_cons_succ]
            refine takeTo 26 (some 186) (.slice (some ⟨q7, 0 + 16 * k, none⟩) 16 (N - 16 * k)) rfl rfl (by kernel_rfl) (by kernel_rfl) (by kernel_rfl) (fun _ _ _ h => h) (by rfl) (fun wz _ => run_slice_midX _ _ _ rfl q7 0 N N (16 * k) 16 rfl rfl rfl (by omega) (by omega) wz) hHeld ?_
            simp only [Act.put, List.setIfInBounds_toArray, List.set_cons_zero, List.set_cons_succ]
            refine takeTo 27 (some 187) (.string ⟨(strN (fun j => R (16 * k + j)) 16).toArray⟩) rfl rfl (by kernel_rfl) (by kernel_rfl) (by kernel_rfl) (fun _ _ _ h => h) (by rfl) (fun wz hz => run_conv_str _ rfl (.slice (some ⟨q7, 0 + 16 * k, none⟩) 16 (N - 16 * k)) rfl _ wz (conv_bytesN (N - 16 * k) (has_mid hz.2.2.1 (16 * k) 16 (by omega)) (fun j => hR _) (fun e => by cases e))) hHeld ?_
            simp only [Act.put, List.setIfInBounds_toArray, List.set_cons_zero, List.set_cons_succ]
            refine takeTo 28 (some 188) (.slice (some ⟨q8, 0, none⟩) N N) rfl rfl (by kernel_rfl) (by kernel_rfl) (by kernel_rfl) (fun _ _ _ h => h) (by rfl) (fun _ _ => rfl) hHeld ?_
            simp only [Act.put, List.setIfInBounds_toArray, List.set_cons_zero, List.set_cons_succ]
            refine takeTo 29 (some 189) (.int .i64 (k : Nat)) rfl rfl (by kernel_rfl) (by kernel_rfl) (by kernel_rfl) (fun _ _ _ h => h) (by rfl) (fun _ _ => rfl) hHeld ?_
            simp only [Act.put, List.setIfInBounds_toArray, List.set_cons_zero, List.set_cons_succ]
            refine takeTo 30 (some 190) (.int .i64 ((16 * k : Nat) : Int)) rfl rfl (by kernel_rfl) (by kernel_rfl) (by kernel_rfl) (fun _ _ _ h => h) (by rfl) (fun wz _ => run_16mulX _ rfl k rfl (by omega) wz) hHeld ?_
            simp only [Act.put, List.setIfInBounds_toArray, List.set_cons_zero, List.set_cons_succ]
            refine takeTo 31 (some 191) (.int .i64 (k : Nat)) rfl rfl (by kernel_rfl) (by kernel_rfl) (by kernel_rfl) (fun _ _ _ h => h) (by rfl) (fun _ _ => rfl) hHeld ?_
            simp only [Act.put, List.setIfInBounds_toArray, List.set_cons_zero, List.set_cons_succ]
            refine takeTo 32 (some 192) (.int .i64 ((16 * k : Nat) : Int)) rfl rfl (by kernel_rfl) (by kernel_rfl) (by kernel_rfl) (fun _ _ _ h => h) (by rfl) (fun wz _ => run_16mulX _ rfl k rfl (by omega) wz) hHeld ?_
            simp only [Act.put, List.setIfInBounds_toArray, List.set_cons_zero, List.set_cons_succ]
            refine takeTo 33 (some 193) (.int .i64 ((16 * k + 16 : Nat) : Int)) rfl rfl (by kernel_rfl) (by kernel_rfl) (by kernel_rfl) (fun _ _ _ h => h) (by rfl) (fun wz _ => run_addX _ _ rfl (16 * k) 16 rfl rfl (by omega) (by omega) wz) hHeld ?_
            simp only [Act.put, List.setIfInBounds_toArray, List.set_cons_zero, List.set_cons_succ]
            refine takeTo 34 (some 194) (.slice (some ⟨q8, 0 + 16 * k, none⟩) 16 (N - 16 * k)) rfl rfl (by kernel_rfl) (by kernel_rfl) (by kernel_rfl) (fun _ _ _ h => h) (by rfl) (fun wz _ => run_slice_midX _ _ _ rfl q8 0 N N (16 * k) 16 rfl rfl rfl (by omega) (by omega) wz) hHeld ?_
            simp only [Act.put, List.setIfInBounds_toArray, List.set_cons_zero, List.set_cons_succ]
            refine takeTo 35 (some 195) (.string ⟨(strN (fun j => R2 (16 * k + j)) 16).toArray⟩) rfl rfl (by kernel_rfl) (by kernel_rfl) (by kernel_rfl) (fun _ _ _ h => h) (by rfl) (fun wz hz => run_conv_str _ rfl (.slice (some ⟨q8, 0 + 16 * k, none⟩) 16 (N - 16 * k)) rfl _ wz (conv_bytesN (N - 16 * k) (has_mid hz.2.2.2 (16 * k) 16 (by omega)) (fun j => hR2 _) (fun e => by cases e))) hHeld ?_
            simp only [Act.put, List.setIfInBounds_toArray, List.set_cons_zero, List.set_cons_succ]
            refine takeTo 36 (some 196) (.bool false) rfl rfl (by kernel_rfl) (by kernel_rfl) (by kernel_rfl) (fun _ _ _ h => h) (by rfl) (fun wz _ => run_neq_strs _ _ rfl _ _ rfl rfl _ (by rw [HR.out k, hch]) wz) hHeld ?_
            simp only [Act.put, List.setIfInBounds_toArray, List.set_cons_zero, List.set_cons_succ]
            refine takeTo 37 (some 197) (.bool false) rfl rfl (by kernel_rfl) (by kernel_rfl) (by kernel_rfl) (fun _ _ _ h => h) (by rfl) (fun _ _ => rfl) hHeld ?_
            simp only [Act.put, List.setIfInBounds_toArray, List.set_cons_zero, List.set_cons_succ]
            refine takeTo 38 (some 198) (.bool false) rfl rfl (by kernel_rfl) (by kernel_rfl) (by kernel_rfl) (fun _ _ _ h => h) (by rfl) (fun wz _ => run_neq_bools _ _ rfl false rfl rfl wz) hHeld ?_
            simp only [Act.put, List.setIfInBounds_toArray, List.set_cons_zero, List.set_cons_succ]
            refine takeTo 39 (some 199) (.bool false) rfl rfl (by kernel_rfl) (by kernel_rfl) (by kernel_rfl) (fun _ _ _ h => h) (by rfl) (fun _ _ => rfl) hHeld ?_
            simp only [Act.put, List.setIfInBounds_toArray, List.set_cons_zero, List.set_cons_succ]
            refine wpAnyH_done (by kernel_rfl) ?_ _
            clear hHeld
            go_wp2
            go_roundw
            case rel => exact ⟨k + 1, by omega, by go_num, hbr.drew⟩
            case measure => simp [intOf]; omega
        · obtain rfl : k = n := by omega
          have j1 : ¬ (k : Int) < (k : Int) := by omega
          have hB9 := hB8.trans (hbr.mono hB8.size)
          go_wp2_with (go_at_call 17; refine (xalive_any _).mono ?_; rintro e w10 ⟨rfl, hb10⟩; have hB10 := hB9.trans (hb10.mono hB9.size))
          go_ret
          exact ⟨rfl, hB10⟩

theorem xap_walk (f h : Nat → Nat) (s0 x : Int) (a : Option Addr) (len cap : Nat) (zs : List Int) (w : World) (hf : ∀ j, j < 32 → f j < 256) (hh : ∀ j, j < 16 → h j < 256) (hs0 : (Lit.int .u64 s0).wf = true) (hx : (Lit.int .i64 x).wf = true) (ht : IsRow .u8 w a len cap zs) (hc : cap ≤ 140737488351232) :
    Calls Try.prog 6 #[.agg (cellsN .u8 32 f), .slice a len cap, .agg (spotCells s0 x h)] w fun e w' => e = .returned (.bool true) ∧ Below w.heap.size w w' := by
  obtain ⟨g, hg, e⟩ := all32 f hf
  obtain ⟨s, rfl, hs⟩ := u64_nat hs0
  rw [e]
  obtain ⟨hl, _, hnil⟩ := isRow_facts ht
  have hb := bytes_of_isRow ht
  by_cases h1 : 256 < len ∨ len < 16
  · exact xap_long g h s x a len cap w h1 (by omega)
  · rcases id hb with h2 | ⟨b, o, rfl, _, _⟩
    · omega
    · by_cases hneg : x < 0
      · exact xap_neg g h s x b o len (len / 16) (atA x % (len / 16)) cap (bn zs) w hg hh hs (i64_boundsA hx) (bn_lt zs) (by omega) rfl (by omega) rfl hl hc hb hneg
      · exact xap_pos g h s x b o len (len / 16) (atA x % (len / 16)) cap (bn zs) w hg hh hs (i64_boundsA hx) (bn_lt zs) (by omega) rfl (by omega) rfl hl hc hb hneg
end Go.Proofs.Ytcnlegnfecpdnaa
