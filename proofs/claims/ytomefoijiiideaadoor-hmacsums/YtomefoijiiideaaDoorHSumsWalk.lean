/- HmacSums, walked. -/
import Derived.Test.YtomefoijiiideaaDoorRef3Sum
import Derived.Test.YtomefoijiiideaaDoorHmacAlive
import Derived.Test.YtomefoijiiideaaDoorShaEq
namespace Go.Proofs.YtomefoijiiideaaDoor
open Go.ChangeShapes Go.WideShapes Go.ChangeAt Go.RowKit
set_option linter.unusedVariables false

set_option maxRecDepth 100000 in
set_option maxHeartbeats 1600000 in
theorem hsums_walk (ka : Option Addr) (kl kc : Nat) (kf : Nat → Nat) (ba : Option Addr) (n bc : Nat) (M : Nat → Nat) (w : World) (hG : Glob Hc Kc w) (hkf : ∀ j, kf j < 256) (hM : ∀ j, M j < 256) (hkc : kl ≤ kc) (hkl : kl ≤ 140737488351232) (hknil : ka = none → kl = 0 ∧ kc = 0) (hkb : Bytes w ka kl kf)
    (hbc : n ≤ bc) (hn : n ≤ 140737488351232) (hbnil : ba = none → n = 0 ∧ bc = 0) (hbb : Bytes w ba n M) :
    Calls Tryd.prog 5 #[.slice ka kl kc, .slice ba n bc] w fun e w' => e = .returned (.bool true) ∧ Below w.heap.size w w' := by
  have own0 := World.ownsRow_lit (base := w.heap.size) (e := 5) (size := 1) w #[] 0 (Nat.le_refl _) (by unfold maxLen; omega) rfl
  have hbE : Below w.heap.size w (w.alloc (.cells #[] 5)) := (Below.refl _ _).alloc (Nat.le_refl _) _
  have hB0 := hkb.below hbE (Nat.le_refl _)
  have HRS : Hid (∀ wz, Below w.heap.size w wz → Calls Tryd.prog 16 #[.slice ka kl kc, .slice ba n bc] wz fun e w' => e = .returned (.agg (cellsN .u8 32 (HM Hc Kc kf kl M n))) ∧ Below wz.heap.size wz w') := fun wz h => r3_any ka ba kl kc n bc kf M wz hkf hM hkc hkl hknil (hkb.below h (Nat.le_refl _)) hbc hn hbnil (hbb.below h (Nat.le_refl _))
  have HSS : Hid (∀ wz g2 c2 g5 c5, Below w.heap.size w wz → g2 < wz.heap.size → kl ≤ c2 → (∀ j, j < kl → wz.cell? ⟨g2, 0 + j, none⟩ = some (.int .u8 (kf j : Nat))) → g5 < wz.heap.size → n ≤ c5 → (∀ j, j < n → wz.cell? ⟨g5, 0 + j, none⟩ = some (.int .u8 (M j : Nat))) → Calls Tryd.prog 14 #[.slice (some ⟨g2, 0, none⟩) kl c2, .slice (some ⟨g5, 0, none⟩) n c5] wz fun e w' => e = .returned (.agg (cellsN .u8 32 (HM Hc Kc kf kl M n))) ∧ Below wz.heap.size wz w') :=
    fun wz g2 c2 g5 c5 h hg hc2 hcell hg5 hc5 hcell5 => hsum_one c2 c5 (hG.below h hG.1) Hc_lt hkf hM hc2 (by omega) (.inr ⟨g2, 0, rfl, hg, hcell⟩) hc5 (by omega) (.inr ⟨g5, 0, rfl, hg5, hcell5⟩)
  have HS1 : Hid (∀ wz g2 c2, Below w.heap.size w wz → g2 < wz.heap.size → (∀ j, j < kl → wz.cell? ⟨g2, 0 + j, none⟩ = some (.int .u8 (kf j : Nat))) → Calls Tryd.prog 8 #[.slice (some ⟨g2, 0, none⟩) kl c2, .slice ka kl kc] wz fun e w' => e = .returned (.bool true) ∧ w' = wz) :=
    fun wz g2 c2 h hg hcell => same_true c2 kc (.inr ⟨g2, 0, rfl, hg, hcell⟩) (hkb.below h (Nat.le_refl _)) hkf (fun e => by cases e) (fun e => (hknil e).1)
  have HS2 : Hid (∀ wz g2 c2, Below w.heap.size w wz → g2 < wz.heap.size → (∀ j, j < n → wz.cell? ⟨g2, 0 + j, none⟩ = some (.int .u8 (M j : Nat))) → Calls Tryd.prog 8 #[.slice (some ⟨g2, 0, none⟩) n c2, .slice ba n bc] wz fun e w' => e = .returned (.bool true) ∧ w' = wz) :=
    fun wz g2 c2 h hg hcell => same_true c2 bc (.inr ⟨g2, 0, rfl, hg, hcell⟩) (hbb.below h (Nat.le_refl _)) hM (fun e => by cases e) (fun e => (hbnil e).1)
  obtain ⟨X, hX⟩ : ∃ X, X = cellsN .u8 32 (HM Hc Kc kf kl M n) := ⟨_, rfl⟩
  have hXs : X.size = 32 := by rw [hX, cellsN_size]
  have hX1 : X.all (·.oneCell') = true := by rw [hX]; exact cellsN_one _ _ _
  have hXe : ∀ w, (Op.equalIn 10000 23 (.agg X) (.agg X)).run Tryd.prog w = .ok true w := fun w => by rw [hX]; exact eq_digest _ w (fun j _ => by rw [HM_eq]; exact SHA_lt _ _ _ _ _)
  rw [← hX] at HRS HSS
  clear hX
  go_enter Tryd.func5, Tryd.ntmps5
  go_wp2_with (first
    | ((at_builtin)
       (have _t := own0)
       (refine wpList_append_bytes rfl _ _ rfl w.heap.size _ 0 (fun _ => 0) rfl own0 ka kl kc kf rfl hknil hB0 (by omega) (by simp) ?_)
       (intro v1 w1 own1 gr1)
       (have hb1 : Below w.heap.size w w1 := hbE.grown gr1 (by simp) (fun k' h => (own0.lt k' h).1))
       (rw [Nat.zero_add, cat_zero] at own1)
       (have hbL : Below w1.heap.size w1 (w1.alloc (.cells #[.int .u8 ((77 : Nat) : Int)] 5)) := (Below.refl _ _).alloc (Nat.le_refl _) _)
       (have own1x := own_below own1 hbL (fun g hg => (own1.lt g hg).2))
       (have hb1x : Below w.heap.size w (w1.alloc (.cells #[.int .u8 ((77 : Nat) : Int)] 5)) := hb1.trans (hbL.mono hb1.size))
       (clear own0 _t gr1 hB0 hbE own1 hbL))
    | ((at_builtin)
       (have _t := own1x)
       (refine wpList_append_bytes rfl _ _ rfl w.heap.size _ kl kf rfl own1x (some ⟨w1.heap.size, 0, none⟩) 1 1 (fun _ => 77) rfl (fun e => by cases e) (one_of w1 77) (by omega) hb1x.size ?_)
       (intro v2 w2 own2 gr2)
       (have hb2 : Below w.heap.size w w2 := hb1x.grown gr2 hb1x.size (fun k' h => (own1x.lt k' h).1))
       (obtain ⟨g2, c2, rfl, hc2, hg2, hcell2⟩ := own_some own2 (by omega))
       (have hkm : ∀ j, j < kl → w2.cell? ⟨g2, 0 + j, none⟩ = some (.int .u8 (kf j : Nat)) := (fun j hj => by rw [Nat.zero_add, hcell2 j (by omega)]; simp only [cat, if_pos hj]))
       (have hk77 : w2.cell? ⟨g2, kl, none⟩ = some (.int .u8 77) := (by rw [hcell2 kl (by omega)]; simp only [cat, if_neg (Nat.lt_irrefl kl)]; rfl))
       (have own3 := World.ownsRow_lit (base := w2.heap.size) (e := 5) (size := 1) w2 #[] 0 (Nat.le_refl _) (by unfold maxLen; omega) rfl)
       (have hbE3 : Below w2.heap.size w2 (w2.alloc (.cells #[] 5)) := (Below.refl _ _).alloc (Nat.le_refl _) _)
       (have hbb3 := (hbb.below hb2 (Nat.le_refl _)).below hbE3 (Nat.le_refl _))
       (clear own1x _t gr2 hb1x hcell2 own2))
    | (refine wpList_val (some 17) (.slice (some ⟨g2, 0, none⟩) kl c2) rfl (by rfl) (run_slice_hi _ _ rfl g2 0 (kl + 1) c2 kl rfl rfl (by omega) (by omega) _) ?_)
    | ((at_builtin)
       (have _t := own3)
       (refine wpList_append_bytes rfl _ _ rfl w2.heap.size _ 0 (fun _ => 0) rfl own3 ba n bc M rfl hbnil hbb3 (by omega) (by simp) ?_)
       (intro v4 w4 own4 gr4)
       (have hb4 : Below w2.heap.size w2 w4 := hbE3.grown gr4 (by simp) (fun k' h => (own3.lt k' h).1))
       (rw [Nat.zero_add, cat_zero] at own4)
       (have hbL4 : Below w4.heap.size w4 (w4.alloc (.cells #[.int .u8 ((77 : Nat) : Int)] 5)) := (Below.refl _ _).alloc (Nat.le_refl _) _)
       (have own4x := own_below own4 hbL4 (fun g hg => (own4.lt g hg).2))
       (have hb4x : Below w2.heap.size w2 (w4.alloc (.cells #[.int .u8 ((77 : Nat) : Int)] 5)) := hb4.trans (hbL4.mono hb4.size))
       (clear own3 _t gr4 hbE3 own4 hbL4 hbb3))
    | ((at_builtin)
       (refine wpList_append_bytes rfl _ _ rfl w2.heap.size _ n M rfl own4x (some ⟨w4.heap.size, 0, none⟩) 1 1 (fun _ => 77) rfl (fun e => by cases e) (one_of w4 77) (by omega) hb4x.size ?_)
       (intro v5 w5 own5 gr5)
       (have hb5 : Below w2.heap.size w2 w5 := hb4x.grown gr5 hb4x.size (fun k' h => (own4x.lt k' h).1))
       (obtain ⟨g5, c5, rfl, hc5, hg5, hcell5⟩ := own_some own5 (by omega))
       (have hnm : ∀ j, j < n → w5.cell? ⟨g5, 0 + j, none⟩ = some (.int .u8 (M j : Nat)) := (fun j hj => by rw [Nat.zero_add, hcell5 j (by omega)]; simp only [cat, if_pos hj]))
       (have hn77 : w5.cell? ⟨g5, n, none⟩ = some (.int .u8 77) := (by rw [hcell5 n (by omega)]; simp only [cat, if_neg (Nat.lt_irrefl n)]; rfl))
       (have hkm5 : ∀ j, j < kl → w5.cell? ⟨g2, 0 + j, none⟩ = some (.int .u8 (kf j : Nat)) := (fun j hj => (hb5.cell hg2).trans (hkm j hj)))
       (have hk775 : w5.cell? ⟨g2, kl, none⟩ = some (.int .u8 77) := (hb5.cell hg2).trans hk77)
       (have hB5 : Below w.heap.size w w5 := hb2.trans (hb5.mono hb2.size))
       (have hg25 : g2 < w5.heap.size := Nat.lt_of_lt_of_le hg2 hb5.size)
       (have hss := HSS.out w5 g2 c2 g5 c5 hB5 hg25 (by omega) hkm5 hg5 (by omega) hnm)
       (clear own4x gr5 hb4x hcell5 own5 hkm hk77))
    | (refine wpList_val (some 25) (.slice (some ⟨g5, 0, none⟩) n c5) rfl (by rfl) (run_slice_hi _ _ rfl g5 0 (n + 1) c5 n rfl rfl (by omega) (by omega) _) ?_)
    | (go_at_call 14; refine hss.mono ?_; rintro e w6 ⟨rfl, hb6⟩; have hn6 : Has (w6.alloc (.cells (cellsN .u8 32 fun _ => 0) 23)) w6.heap.size 23 (cellsN .u8 32 fun _ => 0) := Has.new _ _ _)
    | (refine wpList_store_rowG rfl 23 _ _ rfl w6.heap.size X rfl rfl 23 _ hn6 (by rw [hXs]; exact Tryd.size23) (by rw [hXs, cellsN_size]) hX1 ?_
       intro w8 hw8
       have hX8 : Has w8 w6.heap.size 23 X := by rw [hw8]; exact hn6.setRow _
       have hb68 : Below w6.heap.size w6 w8 := by rw [hw8]; exact below_setRow ((Below.refl _ _).alloc (Nat.le_refl _) _) (Nat.le_refl _) _
       have hb58 : Below w5.heap.size w5 w8 := hb6.trans (hb68.mono hb6.size)
       have hB8 : Below w.heap.size w w8 := hB5.trans (hb58.mono hB5.size)
       have hk8 : w8.cell? ⟨g2, kl, none⟩ = some (.int .u8 77) := (hb58.cell hg25).trans hk775
       have hn8 : w8.cell? ⟨g5, n, none⟩ = some (.int .u8 77) := (hb58.cell hg5).trans hn77
       have hG8 : Glob Hc Kc w8.drew := hG.below hB8.drew hG.1
       have hsm1 := HS1.out w8 g2 c2 hB8 (Nat.lt_of_lt_of_le hg25 hb58.size) (fun j hj => (hb58.cell hg25).trans (hkm5 j hj))
       have hsm2 := HS2.out w8 g5 c5 hB8 (Nat.lt_of_lt_of_le hg5 hb58.size) (fun j hj => (hb58.cell hg5).trans (hnm j hj))
       clear hw8 hn6 hb68 hb58 hkm5 hnm hn77 hk775 hss)
    | (go_at_call 8; have _t := hsm1; refine hsm1.mono ?_; rintro e w9 ⟨rfl, hw9⟩; rw [hw9]; clear hw9 w9 hsm1 _t)
    | (go_at_call 8; refine hsm2.mono ?_; rintro e w9 ⟨rfl, hw9⟩; rw [hw9]; clear hw9 w9))
  obtain ⟨gd, hgd⟩ : ∃ g, g = w6.heap.size := ⟨_, rfl⟩
  rw [← hgd] at hX8 ⊢
  clear hgd hsm2 HSS HS1 HS2 hkb hbb hb1 hb2 hb6
  have hS0 : Has w8.drew gd 23 X ∧ w8.drew.cell? ⟨g2, kl, none⟩ = some (.int .u8 77) ∧ w8.drew.cell? ⟨g5, n, none⟩ = some (.int .u8 77) := ⟨hX8, hk8, hn8⟩
  refine wp_region_held_drew (S := fun w' => Has w' gd 23 X ∧ w'.cell? ⟨g2, kl, none⟩ = some (.int .u8 77) ∧ w'.cell? ⟨g5, n, none⟩ = some (.int .u8 77)) (by kernel_rfl) hS0 (fun hHeld => ?_)
  refine callTo 0 (some 35) 15 #[] (by kernel_rfl) rfl rfl (by rfl) (by kernel_rfl) (halive_any _ hG8) ?_
  rintro e wa ⟨rfl, hbwa⟩
  have hSwa : Has wa gd 23 X ∧ wa.cell? ⟨g2, kl, none⟩ = some (.int .u8 77) ∧ wa.cell? ⟨g5, n, none⟩ = some (.int .u8 77) := ⟨Has.below hHeld.1 hbwa (Has.lt hHeld.1), (hbwa.cell (cell_in hHeld.2.1)).trans hHeld.2.1, (hbwa.cell (cell_in hHeld.2.2)).trans hHeld.2.2⟩
  refine ⟨_, rfl, hSwa, ?_⟩
  clear hHeld
  have hHeld := hSwa
  simp only [Act.put, List.setIfInBounds_toArray, List.set_cons_zero, List.set_cons_succ]
  have hBa : Below w.heap.size w wa := hB8.drew.trans (hbwa.mono hB8.size)
  have hrs := HRS.out wa hBa
  refine takeTo 1 (some 36) (.bool true) rfl rfl (by kernel_rfl) (by kernel_rfl) (by kernel_rfl) (fun _ _ _ h => h) (by rfl) (fun _ _ => rfl) hHeld ?_
  simp only [Act.put, List.setIfInBounds_toArray, List.set_cons_zero, List.set_cons_succ]
  refine takeTo 2 (some 37) (.agg X) rfl rfl (by kernel_rfl) (by kernel_rfl) (by kernel_rfl) (fun _ _ _ h => h) (by rfl) (fun wz hz => run_load_row 23 _ rfl gd rfl X 23 Tryd.underlying23 (by rw [hXs]; exact Tryd.size23) wz hz.1) hHeld ?_
  simp only [Act.put, List.setIfInBounds_toArray, List.set_cons_zero, List.set_cons_succ]
  refine takeTo 3 (some 38) (.slice ka kl kc) rfl rfl (by kernel_rfl) (by kernel_rfl) (by kernel_rfl) (fun _ _ _ h => h) (by rfl) (fun _ _ => rfl) hHeld ?_
  simp only [Act.put, List.setIfInBounds_toArray, List.set_cons_zero, List.set_cons_succ]
  refine takeTo 4 (some 39) (.slice ba n bc) rfl rfl (by kernel_rfl) (by kernel_rfl) (by kernel_rfl) (fun _ _ _ h => h) (by rfl) (fun _ _ => rfl) hHeld ?_
  simp only [Act.put, List.setIfInBounds_toArray, List.set_cons_zero, List.set_cons_succ]
  refine callTo 5 (some 40) 16 #[.slice ka kl kc, .slice ba n bc] (by kernel_rfl) rfl rfl (by rfl) (by kernel_rfl) (hrs) ?_
  rintro e wb ⟨rfl, hbwb⟩
  have hSwb : Has wb gd 23 X ∧ wb.cell? ⟨g2, kl, none⟩ = some (.int .u8 77) ∧ wb.cell? ⟨g5, n, none⟩ = some (.int .u8 77) := ⟨Has.below hHeld.1 hbwb (Has.lt hHeld.1), (hbwb.cell (cell_in hHeld.2.1)).trans hHeld.2.1, (hbwb.cell (cell_in hHeld.2.2)).trans hHeld.2.2⟩
  refine ⟨_, rfl, hSwb, ?_⟩
  clear hHeld
  have hHeld := hSwb
  simp only [Act.put, List.setIfInBounds_toArray, List.set_cons_zero, List.set_cons_succ]
  have hBb : Below w.heap.size w wb := hBa.trans (hbwb.mono hBa.size)
  refine takeTo 6 (some 41) (.bool true) rfl rfl (by kernel_rfl) (by kernel_rfl) (by kernel_rfl) (fun _ _ _ h => h) (by rfl) (fun wz _ => run_eql_same _ _ rfl X rfl rfl hXe wz) hHeld ?_
  simp only [Act.put, List.setIfInBounds_toArray, List.set_cons_zero, List.set_cons_succ]
  refine takeTo 7 (some 42) (.bool true) rfl rfl (by kernel_rfl) (by kernel_rfl) (by kernel_rfl) (fun _ _ _ h => h) (by rfl) (fun _ _ => rfl) hHeld ?_
  simp only [Act.put, List.setIfInBounds_toArray, List.set_cons_zero, List.set_cons_succ]
  refine takeTo 8 (some 43) (.bool true) rfl rfl (by kernel_rfl) (by kernel_rfl) (by kernel_rfl) (fun _ _ _ h => h) (by rfl) (fun _ _ => rfl) hHeld ?_
  simp only [Act.put, List.setIfInBounds_toArray, List.set_cons_zero, List.set_cons_succ]
  refine takeTo 9 (some 44) (.bool true) rfl rfl (by kernel_rfl) (by kernel_rfl) (by kernel_rfl) (fun _ _ _ h => h) (by rfl) (fun _ _ => rfl) hHeld ?_
  simp only [Act.put, List.setIfInBounds_toArray, List.set_cons_zero, List.set_cons_succ]
  refine takeTo 10 (some 45) (.bool true) rfl rfl (by kernel_rfl) (by kernel_rfl) (by kernel_rfl) (fun _ _ _ h => h) (by rfl) (fun _ _ => rfl) hHeld ?_
  simp only [Act.put, List.setIfInBounds_toArray, List.set_cons_zero, List.set_cons_succ]
  refine takeTo 11 (some 46) (.bool true) rfl rfl (by kernel_rfl) (by kernel_rfl) (by kernel_rfl) (fun _ _ _ h => h) (by rfl) (fun _ _ => rfl) hHeld ?_
  simp only [Act.put, List.setIfInBounds_toArray, List.set_cons_zero, List.set_cons_succ]
  refine takeTo 12 (some 47) (.bool true) rfl rfl (by kernel_rfl) (by kernel_rfl) (by kernel_rfl) (fun _ _ _ h => h) (by rfl) (fun _ _ => rfl) hHeld ?_
  simp only [Act.put, List.setIfInBounds_toArray, List.set_cons_zero, List.set_cons_succ]
  refine takeTo 13 (some 48) (.bool true) rfl rfl (by kernel_rfl) (by kernel_rfl) (by kernel_rfl) (fun _ _ _ h => h) (by rfl) (fun _ _ => rfl) hHeld ?_
  simp only [Act.put, List.setIfInBounds_toArray, List.set_cons_zero, List.set_cons_succ]
  refine takeTo 14 (some 49) (.bool true) rfl rfl (by kernel_rfl) (by kernel_rfl) (by kernel_rfl) (fun _ _ _ h => h) (by rfl) (fun _ _ => rfl) hHeld ?_
  simp only [Act.put, List.setIfInBounds_toArray, List.set_cons_zero, List.set_cons_succ]
  refine takeTo 15 (some 50) (.slice (some ⟨g2, 0, none⟩) kl c2) rfl rfl (by kernel_rfl) (by kernel_rfl) (by kernel_rfl) (fun _ _ _ h => h) (by rfl) (fun _ _ => rfl) hHeld ?_
  simp only [Act.put, List.setIfInBounds_toArray, List.set_cons_zero, List.set_cons_succ]
  refine takeTo 16 (some 51) (.slice ka kl kc) rfl rfl (by kernel_rfl) (by kernel_rfl) (by kernel_rfl) (fun _ _ _ h => h) (by rfl) (fun _ _ => rfl) hHeld ?_
  simp only [Act.put, List.setIfInBounds_toArray, List.set_cons_zero, List.set_cons_succ]
  refine takeTo 17 (some 52) (.int .i64 (kl : Int)) rfl rfl (by kernel_rfl) (by kernel_rfl) (by kernel_rfl) (fun _ _ _ h => h) (by rfl) (fun _ _ => by kernel_rfl) hHeld ?_
  simp only [Act.put, List.setIfInBounds_toArray, List.set_cons_zero, List.set_cons_succ]
  refine takeTo 18 (some 53) (.int .i64 ((kl + 1 : Nat) : Int)) rfl rfl (by kernel_rfl) (by kernel_rfl) (by kernel_rfl) (fun _ _ _ h => h) (by rfl) (fun wz _ => run_add1 _ rfl kl rfl hkl wz) hHeld ?_
  simp only [Act.put, List.setIfInBounds_toArray, List.set_cons_zero, List.set_cons_succ]
  refine takeTo 19 (some 54) (.slice (some ⟨g2, 0, none⟩) (kl + 1) c2) rfl rfl (by kernel_rfl) (by kernel_rfl) (by kernel_rfl) (fun _ _ _ h => h) (by rfl) (fun wz _ => run_slice_hi _ _ rfl g2 0 kl c2 (kl + 1) rfl rfl hc2 (by omega) wz) hHeld ?_
  simp only [Act.put, List.setIfInBounds_toArray, List.set_cons_zero, List.set_cons_succ]
  refine takeTo 20 (some 55) (.slice ka kl kc) rfl rfl (by kernel_rfl) (by kernel_rfl) (by kernel_rfl) (fun _ _ _ h => h) (by rfl) (fun _ _ => rfl) hHeld ?_
  simp only [Act.put, List.setIfInBounds_toArray, List.set_cons_zero, List.set_cons_succ]
  refine takeTo 21 (some 56) (.int .i64 (kl : Int)) rfl rfl (by kernel_rfl) (by kernel_rfl) (by kernel_rfl) (fun _ _ _ h => h) (by rfl) (fun _ _ => by kernel_rfl) hHeld ?_
  simp only [Act.put, List.setIfInBounds_toArray, List.set_cons_zero, List.set_cons_succ]
  refine takeTo 22 (some 57) (.pointer (some ⟨g2, 0 + kl, none⟩)) rfl rfl (by kernel_rfl) (by kernel_rfl) (by kernel_rfl) (fun _ _ _ h => h) (by rfl) (fun wz _ => run_indexS 22 _ _ rfl g2 0 kl (kl + 1) c2 5 rfl rfl Tryd.underlying22 one_u8 (by omega) wz) hHeld ?_
  simp only [Act.put, List.setIfInBounds_toArray, List.set_cons_zero, List.set_cons_succ]
  refine takeTo 23 (some 58) (.int .u8 77) rfl rfl (by kernel_rfl) (by kernel_rfl) (by kernel_rfl) (fun _ _ _ h => h) (by rfl) (fun wz hz => run_load_u8 _ rfl g2 (0 + kl) rfl _ wz (by rw [Nat.zero_add]; exact hz.2.1)) hHeld ?_
  simp only [Act.put, List.setIfInBounds_toArray, List.set_cons_zero, List.set_cons_succ]
  refine takeTo 24 (some 59) (.bool true) rfl rfl (by kernel_rfl) (by kernel_rfl) (by kernel_rfl) (fun _ _ _ h => h) (by rfl) (fun _ _ => rfl) hHeld ?_
  simp only [Act.put, List.setIfInBounds_toArray, List.set_cons_zero, List.set_cons_succ]
  refine takeTo 25 (some 60) (.bool true) rfl rfl (by kernel_rfl) (by kernel_rfl) (by kernel_rfl) (fun _ _ _ h => h) (by rfl) (fun _ _ => rfl) hHeld ?_
  simp only [Act.put, List.setIfInBounds_toArray, List.set_cons_zero, List.set_cons_succ]
  refine takeTo 26 (some 61) (.bool true) rfl rfl (by kernel_rfl) (by kernel_rfl) (by kernel_rfl) (fun _ _ _ h => h) (by rfl) (fun _ _ => rfl) hHeld ?_
  simp only [Act.put, List.setIfInBounds_toArray, List.set_cons_zero, List.set_cons_succ]
  refine takeTo 27 (some 62) (.slice (some ⟨g5, 0, none⟩) n c5) rfl rfl (by kernel_rfl) (by kernel_rfl) (by kernel_rfl) (fun _ _ _ h => h) (by rfl) (fun _ _ => rfl) hHeld ?_
  simp only [Act.put, List.setIfInBounds_toArray, List.set_cons_zero, List.set_cons_succ]
  refine takeTo 28 (some 63) (.slice ba n bc) rfl rfl (by kernel_rfl) (by kernel_rfl) (by kernel_rfl) (fun _ _ _ h => h) (by rfl) (fun _ _ => rfl) hHeld ?_
  simp only [Act.put, List.setIfInBounds_toArray, List.set_cons_zero, List.set_cons_succ]
  refine takeTo 29 (some 64) (.int .i64 (n : Int)) rfl rfl (by kernel_rfl) (by kernel_rfl) (by kernel_rfl) (fun _ _ _ h => h) (by rfl) (fun _ _ => by kernel_rfl) hHeld ?_
  simp only [Act.put, List.setIfInBounds_toArray, List.set_cons_zero, List.set_cons_succ]
  refine takeTo 30 (some 65) (.int .i64 ((n + 1 : Nat) : Int)) rfl rfl (by kernel_rfl) (by kernel_rfl) (by kernel_rfl) (fun _ _ _ h => h) (by rfl) (fun wz _ => run_add1 _ rfl n rfl hn wz) hHeld ?_
  simp only [Act.put, List.setIfInBounds_toArray, List.set_cons_zero, List.set_cons_succ]
  refine takeTo 31 (some 66) (.slice (some ⟨g5, 0, none⟩) (n + 1) c5) rfl rfl (by kernel_rfl) (by kernel_rfl) (by kernel_rfl) (fun _ _ _ h => h) (by rfl) (fun wz _ => run_slice_hi _ _ rfl g5 0 n c5 (n + 1) rfl rfl hc5 (by omega) wz) hHeld ?_
  simp only [Act.put, List.setIfInBounds_toArray, List.set_cons_zero, List.set_cons_succ]
  refine takeTo 32 (some 67) (.slice ba n bc) rfl rfl (by kernel_rfl) (by kernel_rfl) (by kernel_rfl) (fun _ _ _ h => h) (by rfl) (fun _ _ => rfl) hHeld ?_
  simp only [Act.put, List.setIfInBounds_toArray, List.set_cons_zero, List.set_cons_succ]
  refine takeTo 33 (some 68) (.int .i64 (n : Int)) rfl rfl (by kernel_rfl) (by kernel_rfl) (by kernel_rfl) (fun _ _ _ h => h) (by rfl) (fun _ _ => by kernel_rfl) hHeld ?_
  simp only [Act.put, List.setIfInBounds_toArray, List.set_cons_zero, List.set_cons_succ]
  refine takeTo 34 (some 69) (.pointer (some ⟨g5, 0 + n, none⟩)) rfl rfl (by kernel_rfl) (by kernel_rfl) (by kernel_rfl) (fun _ _ _ h => h) (by rfl) (fun wz _ => run_indexS 22 _ _ rfl g5 0 n (n + 1) c5 5 rfl rfl Tryd.underlying22 one_u8 (by omega) wz) hHeld ?_
  simp only [Act.put, List.setIfInBounds_toArray, List.set_cons_zero, List.set_cons_succ]
  refine takeTo 35 (some 70) (.int .u8 77) rfl rfl (by kernel_rfl) (by kernel_rfl) (by kernel_rfl) (fun _ _ _ h => h) (by rfl) (fun wz hz => run_load_u8 _ rfl g5 (0 + n) rfl _ wz (by rw [Nat.zero_add]; exact hz.2.2)) hHeld ?_
  simp only [Act.put, List.setIfInBounds_toArray, List.set_cons_zero, List.set_cons_succ]
  refine takeTo 36 (some 71) (.bool true) rfl rfl (by kernel_rfl) (by kernel_rfl) (by kernel_rfl) (fun _ _ _ h => h) (by rfl) (fun _ _ => rfl) hHeld ?_
  simp only [Act.put, List.setIfInBounds_toArray, List.set_cons_zero, List.set_cons_succ]
  refine takeTo 37 (some 72) (.bool true) rfl rfl (by kernel_rfl) (by kernel_rfl) (by kernel_rfl) (fun _ _ _ h => h) (by rfl) (fun _ _ => rfl) hHeld ?_
  simp only [Act.put, List.setIfInBounds_toArray, List.set_cons_zero, List.set_cons_succ]
  refine takeTo 38 (some 4) (.bool true) rfl rfl (by kernel_rfl) (by kernel_rfl) (by kernel_rfl) (fun _ _ _ h => h) (by rfl) (fun _ _ => rfl) hHeld ?_
  simp only [Act.put, List.setIfInBounds_toArray, List.set_cons_zero, List.set_cons_succ]
  refine wpAnyH_done (by kernel_rfl) ?_ _
  go_wp2
  go_ret
  exact ⟨rfl, hBb⟩
end Go.Proofs.YtomefoijiiideaaDoor
