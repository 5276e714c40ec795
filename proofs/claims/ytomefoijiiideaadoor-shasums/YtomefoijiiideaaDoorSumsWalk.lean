/- ShaSums, walked. -/
import Derived.Test.YtomefoijiiideaaDoorRefSum
import Derived.Test.YtomefoijiiideaaDoorShaAlive
import Derived.Test.YtomefoijiiideaaDoorSameAny
namespace Go.Proofs.YtomefoijiiideaaDoor
open Go.ChangeShapes Go.WideShapes Go.ChangeAt Go.RowKit
set_option linter.unusedVariables false

theorem Glob.drew' {H0 K : Nat → Nat} {w : World} (h : Glob H0 K w) : Glob H0 K w.drew := h

set_option maxRecDepth 100000 in
set_option maxHeartbeats 1600000 in
theorem sums_walk (a : Option Addr) (n c : Nat) (m : Nat → Nat) (w : World) (hG : Glob Hc Kc w) (hm : ∀ j, m j < 256) (hc : n ≤ c) (hn : n ≤ 140737488351232) (hnil : a = none → n = 0 ∧ c = 0) (hb : Bytes w a n m) :
    Calls Tryd.prog 3 #[.slice a n c] w fun e w' => e = .returned (.bool true) ∧ Below w.heap.size w w' := by
  have own0 := World.ownsRow_lit (base := w.heap.size) (e := 5) (size := 1) w #[] 0 (Nat.le_refl _) (by unfold maxLen; omega) rfl
  have hbE : Below w.heap.size w (w.alloc (.cells #[] 5)) := (Below.refl _ _).alloc (Nat.le_refl _) _
  have hB0 := hb.below hbE (Nat.le_refl _)
  have HRS : Hid (∀ wz, Below w.heap.size w wz → Calls Tryd.prog 10 #[.slice a n c] wz fun e w' => e = .returned (.agg (cellsN .u8 32 (SHA Hc Kc m n))) ∧ Below wz.heap.size wz w') := fun wz h => rsum_any m n c a wz hnil (hb.below h (Nat.le_refl _)) hm hn hc
  have HSS : Hid (∀ wz g2 c2, Below w.heap.size w wz → g2 < wz.heap.size → n ≤ c2 → (∀ j, j < n → wz.cell? ⟨g2, 0 + j, none⟩ = some (.int .u8 (m j : Nat))) → Calls Tryd.prog 7 #[.slice (some ⟨g2, 0, none⟩) n c2] wz fun e w' => e = .returned (.agg (cellsN .u8 32 (SHA Hc Kc m n))) ∧ Below wz.heap.size wz w') :=
    fun wz g2 c2 h hg hc2 hcell => sum_any c2 (hG.below h hG.1) Hc_lt hm hc2 (by omega) (.inr ⟨g2, 0, rfl, hg, hcell⟩)
  have HSM : Hid (∀ wz g2 c2, Below w.heap.size w wz → g2 < wz.heap.size → (∀ j, j < n → wz.cell? ⟨g2, 0 + j, none⟩ = some (.int .u8 (m j : Nat))) → Calls Tryd.prog 8 #[.slice (some ⟨g2, 0, none⟩) n c2, .slice a n c] wz fun e w' => e = .returned (.bool true) ∧ w' = wz) :=
    fun wz g2 c2 h hg hcell => same_true c2 c (.inr ⟨g2, 0, rfl, hg, hcell⟩) (hb.below h (Nat.le_refl _)) hm (fun e => by cases e) (fun e => (hnil e).1)
  obtain ⟨X, hX⟩ : ∃ X, X = cellsN .u8 32 (SHA Hc Kc m n) := ⟨_, rfl⟩
  have hXs : X.size = 32 := by rw [hX, cellsN_size]
  have hX1 : X.all (·.oneCell') = true := by rw [hX]; exact cellsN_one _ _ _
  have hXe : ∀ w, (Op.equalIn 10000 23 (.agg X) (.agg X)).run Tryd.prog w = .ok true w := fun w => by rw [hX]; exact eq_digest _ w (fun j _ => SHA_lt _ _ _ _ _)
  rw [← hX] at HRS HSS
  clear hX
  go_enter Tryd.func3, Tryd.ntmps3
  go_wp2_with (first
    | ((at_builtin)
       (have _t := own0)
       (refine wpList_append_bytes rfl _ _ rfl w.heap.size _ 0 (fun _ => 0) rfl own0 a n c m rfl hnil hB0 (by omega) (by simp) ?_)
       (intro v1 w1 own1 gr1)
       (have hb1 : Below w.heap.size w w1 := hbE.grown gr1 (by simp) (fun k' h => (own0.lt k' h).1))
       (rw [Nat.zero_add, cat_zero] at own1)
       (have hbL : Below w1.heap.size w1 (w1.alloc (.cells #[.int .u8 ((77 : Nat) : Int)] 5)) := (Below.refl _ _).alloc (Nat.le_refl _) _)
       (have own1x := own_below own1 hbL (fun g hg => (own1.lt g hg).2))
       (have hb1x : Below w.heap.size w (w1.alloc (.cells #[.int .u8 ((77 : Nat) : Int)] 5)) := hb1.trans (hbL.mono hb1.size))
       (clear own0 _t gr1 hB0 hbE own1 hbL))
    | ((at_builtin)
       (refine wpList_append_bytes rfl _ _ rfl w.heap.size _ n m rfl own1x (some ⟨w1.heap.size, 0, none⟩) 1 1 (fun _ => 77) rfl (fun e => by cases e) (one_of w1 77) (by omega) hb1x.size ?_)
       (intro v2 w2 own2 gr2)
       (have hb2 : Below w.heap.size w w2 := hb1x.grown gr2 hb1x.size (fun k' h => (own1x.lt k' h).1))
       (obtain ⟨g2, c2, rfl, hc2, hg2, hcell2⟩ := own_some own2 (by omega))
       (have hcm : ∀ j, j < n → w2.cell? ⟨g2, 0 + j, none⟩ = some (.int .u8 (m j : Nat)) := (fun j hj => by rw [Nat.zero_add, hcell2 j (by omega)]; simp only [cat, if_pos hj]))
       (have hc77 : w2.cell? ⟨g2, n, none⟩ = some (.int .u8 77) := (by rw [hcell2 n (by omega)]; simp only [cat, if_neg (Nat.lt_irrefl n)]; rfl))
       (have hss := HSS.out w2 g2 c2 hb2 hg2 (by omega) hcm)
       (clear own1x gr2 hb1x hcell2 own2))
    | (refine wpList_val (some 13) (.slice (some ⟨g2, 0, none⟩) n c2) rfl (by rfl) (run_slice_hi _ _ rfl g2 0 (n + 1) c2 n rfl rfl (by omega) (by omega) _) ?_)
    | (go_at_call 7; refine hss.mono ?_; rintro e w3 ⟨rfl, hb3⟩; have hn3 : Has (w3.alloc (.cells (cellsN .u8 32 fun _ => 0) 23)) w3.heap.size 23 (cellsN .u8 32 fun _ => 0) := Has.new _ _ _)
    | (refine wpList_store_rowG rfl 23 _ _ rfl w3.heap.size X rfl rfl 23 _ hn3 (by rw [hXs]; exact Tryd.size23) (by rw [hXs, cellsN_size]) hX1 ?_
       intro w5 hw5
       have hX5 : Has w5 w3.heap.size 23 X := by rw [hw5]; exact hn3.setRow _
       have hb35 : Below w3.heap.size w3 w5 := by rw [hw5]; exact below_setRow ((Below.refl _ _).alloc (Nat.le_refl _) _) (Nat.le_refl _) _
       have hb25 : Below w2.heap.size w2 w5 := hb3.trans (hb35.mono hb3.size)
       have hB5 : Below w.heap.size w w5 := hb2.trans (hb25.mono hb2.size)
       have hcm5 : ∀ j, j < n → w5.cell? ⟨g2, 0 + j, none⟩ = some (.int .u8 (m j : Nat)) := fun j hj => (hb25.cell hg2).trans (hcm j hj)
       have hC5 : w5.cell? ⟨g2, n, none⟩ = some (.int .u8 77) := (hb25.cell hg2).trans hc77
       have hG5 : Glob Hc Kc w5 := hG.below hB5 hG.1
       have hsm := HSM.out w5 g2 c2 hB5 (Nat.lt_of_lt_of_le hg2 hb25.size) hcm5
       clear hw5 hn3 hb35 hb25 hcm hc77 hcm5 hss)
    | (go_at_call 8; refine hsm.mono ?_; rintro e w9 ⟨rfl, hw9⟩; rw [hw9]; clear hw9 w9))
  obtain ⟨gd, hgd⟩ : ∃ g, g = w3.heap.size := ⟨_, rfl⟩
  rw [← hgd] at hX5 ⊢
  clear hgd hsm HSS HSM hb hb1 hb2 hb3
  have hS0 : Has w5.drew gd 23 X ∧ w5.drew.cell? ⟨g2, n, none⟩ = some (.int .u8 77) := ⟨hX5, hC5⟩
  refine wp_region_held_drew (S := fun w' => Has w' gd 23 X ∧ w'.cell? ⟨g2, n, none⟩ = some (.int .u8 77)) (by kernel_rfl) hS0 (fun hHeld => ?_)
  refine callTo 0 (some 19) 9 #[] (by kernel_rfl) rfl rfl (by rfl) (by kernel_rfl) (alive_any _ hG5.drew') ?_
  rintro e w6 ⟨rfl, hbw6⟩
  have hSw6 : Has w6 gd 23 X ∧ w6.cell? ⟨g2, n, none⟩ = some (.int .u8 77) := ⟨Has.below hHeld.1 hbw6 (Has.lt hHeld.1), (hbw6.cell (cell_in hHeld.2)).trans hHeld.2⟩
  refine ⟨_, rfl, hSw6, ?_⟩
  clear hHeld
  have hHeld := hSw6
  simp only [Act.put, List.setIfInBounds_toArray, List.set_cons_zero, List.set_cons_succ]
  have hB6 : Below w.heap.size w w6 := hB5.drew.trans (hbw6.mono hB5.size)
  have hrs := HRS.out w6 hB6
  refine takeTo 1 (some 20) (.bool true) rfl rfl (by kernel_rfl) (by kernel_rfl) (by kernel_rfl) (fun _ _ _ h => h) (by rfl) (fun _ _ => rfl) hHeld ?_
  simp only [Act.put, List.setIfInBounds_toArray, List.set_cons_zero, List.set_cons_succ]
  refine takeTo 2 (some 21) (.agg X) rfl rfl (by kernel_rfl) (by kernel_rfl) (by kernel_rfl) (fun _ _ _ h => h) (by rfl) (fun wz hz => run_load_row 23 _ rfl gd rfl X 23 Tryd.underlying23 (by rw [hXs]; exact Tryd.size23) wz hz.1) hHeld ?_
  simp only [Act.put, List.setIfInBounds_toArray, List.set_cons_zero, List.set_cons_succ]
  refine takeTo 3 (some 22) (.slice a n c) rfl rfl (by kernel_rfl) (by kernel_rfl) (by kernel_rfl) (fun _ _ _ h => h) (by rfl) (fun _ _ => rfl) hHeld ?_
  simp only [Act.put, List.setIfInBounds_toArray, List.set_cons_zero, List.set_cons_succ]
  refine callTo 4 (some 23) 10 #[.slice a n c] (by kernel_rfl) rfl rfl (by rfl) (by kernel_rfl) (hrs) ?_
  rintro e w7 ⟨rfl, hbw7⟩
  have hSw7 : Has w7 gd 23 X ∧ w7.cell? ⟨g2, n, none⟩ = some (.int .u8 77) := ⟨Has.below hHeld.1 hbw7 (Has.lt hHeld.1), (hbw7.cell (cell_in hHeld.2)).trans hHeld.2⟩
  refine ⟨_, rfl, hSw7, ?_⟩
  clear hHeld
  have hHeld := hSw7
  simp only [Act.put, List.setIfInBounds_toArray, List.set_cons_zero, List.set_cons_succ]
  have hB7 : Below w.heap.size w w7 := hB6.trans (hbw7.mono hB6.size)
  refine takeTo 5 (some 24) (.bool true) rfl rfl (by kernel_rfl) (by kernel_rfl) (by kernel_rfl) (fun _ _ _ h => h) (by rfl) (fun wz _ => run_eql_same _ _ rfl X rfl rfl hXe wz) hHeld ?_
  simp only [Act.put, List.setIfInBounds_toArray, List.set_cons_zero, List.set_cons_succ]
  refine takeTo 6 (some 25) (.bool true) rfl rfl (by kernel_rfl) (by kernel_rfl) (by kernel_rfl) (fun _ _ _ h => h) (by rfl) (fun _ _ => rfl) hHeld ?_
  simp only [Act.put, List.setIfInBounds_toArray, List.set_cons_zero, List.set_cons_succ]
  refine takeTo 7 (some 26) (.bool true) rfl rfl (by kernel_rfl) (by kernel_rfl) (by kernel_rfl) (fun _ _ _ h => h) (by rfl) (fun _ _ => rfl) hHeld ?_
  simp only [Act.put, List.setIfInBounds_toArray, List.set_cons_zero, List.set_cons_succ]
  refine takeTo 8 (some 27) (.bool true) rfl rfl (by kernel_rfl) (by kernel_rfl) (by kernel_rfl) (fun _ _ _ h => h) (by rfl) (fun _ _ => rfl) hHeld ?_
  simp only [Act.put, List.setIfInBounds_toArray, List.set_cons_zero, List.set_cons_succ]
  refine takeTo 9 (some 28) (.bool true) rfl rfl (by kernel_rfl) (by kernel_rfl) (by kernel_rfl) (fun _ _ _ h => h) (by rfl) (fun _ _ => rfl) hHeld ?_
  simp only [Act.put, List.setIfInBounds_toArray, List.set_cons_zero, List.set_cons_succ]
  refine takeTo 10 (some 29) (.bool true) rfl rfl (by kernel_rfl) (by kernel_rfl) (by kernel_rfl) (fun _ _ _ h => h) (by rfl) (fun _ _ => rfl) hHeld ?_
  simp only [Act.put, List.setIfInBounds_toArray, List.set_cons_zero, List.set_cons_succ]
  refine takeTo 11 (some 30) (.slice (some ⟨g2, 0, none⟩) n c2) rfl rfl (by kernel_rfl) (by kernel_rfl) (by kernel_rfl) (fun _ _ _ h => h) (by rfl) (fun _ _ => rfl) hHeld ?_
  simp only [Act.put, List.setIfInBounds_toArray, List.set_cons_zero, List.set_cons_succ]
  refine takeTo 12 (some 31) (.slice a n c) rfl rfl (by kernel_rfl) (by kernel_rfl) (by kernel_rfl) (fun _ _ _ h => h) (by rfl) (fun _ _ => rfl) hHeld ?_
  simp only [Act.put, List.setIfInBounds_toArray, List.set_cons_zero, List.set_cons_succ]
  refine takeTo 13 (some 32) (.int .i64 (n : Int)) rfl rfl (by kernel_rfl) (by kernel_rfl) (by kernel_rfl) (fun _ _ _ h => h) (by rfl) (fun _ _ => by kernel_rfl) hHeld ?_
  simp only [Act.put, List.setIfInBounds_toArray, List.set_cons_zero, List.set_cons_succ]
  refine takeTo 14 (some 33) (.int .i64 ((n + 1 : Nat) : Int)) rfl rfl (by kernel_rfl) (by kernel_rfl) (by kernel_rfl) (fun _ _ _ h => h) (by rfl) (fun wz _ => run_add1 _ rfl n rfl hn wz) hHeld ?_
  simp only [Act.put, List.setIfInBounds_toArray, List.set_cons_zero, List.set_cons_succ]
  refine takeTo 15 (some 34) (.slice (some ⟨g2, 0, none⟩) (n + 1) c2) rfl rfl (by kernel_rfl) (by kernel_rfl) (by kernel_rfl) (fun _ _ _ h => h) (by rfl) (fun wz _ => run_slice_hi _ _ rfl g2 0 n c2 (n + 1) rfl rfl hc2 (by omega) wz) hHeld ?_
  simp only [Act.put, List.setIfInBounds_toArray, List.set_cons_zero, List.set_cons_succ]
  refine takeTo 16 (some 35) (.slice a n c) rfl rfl (by kernel_rfl) (by kernel_rfl) (by kernel_rfl) (fun _ _ _ h => h) (by rfl) (fun _ _ => rfl) hHeld ?_
  simp only [Act.put, List.setIfInBounds_toArray, List.set_cons_zero, List.set_cons_succ]
  refine takeTo 17 (some 36) (.int .i64 (n : Int)) rfl rfl (by kernel_rfl) (by kernel_rfl) (by kernel_rfl) (fun _ _ _ h => h) (by rfl) (fun _ _ => by kernel_rfl) hHeld ?_
  simp only [Act.put, List.setIfInBounds_toArray, List.set_cons_zero, List.set_cons_succ]
  refine takeTo 18 (some 37) (.pointer (some ⟨g2, 0 + n, none⟩)) rfl rfl (by kernel_rfl) (by kernel_rfl) (by kernel_rfl) (fun _ _ _ h => h) (by rfl) (fun wz _ => run_indexS 22 _ _ rfl g2 0 n (n + 1) c2 5 rfl rfl Tryd.underlying22 one_u8 (by omega) wz) hHeld ?_
  simp only [Act.put, List.setIfInBounds_toArray, List.set_cons_zero, List.set_cons_succ]
  refine takeTo 19 (some 38) (.int .u8 77) rfl rfl (by kernel_rfl) (by kernel_rfl) (by kernel_rfl) (fun _ _ _ h => h) (by rfl) (fun wz hz => run_load_u8 _ rfl g2 (0 + n) rfl _ wz (by rw [Nat.zero_add]; exact hz.2)) hHeld ?_
  simp only [Act.put, List.setIfInBounds_toArray, List.set_cons_zero, List.set_cons_succ]
  refine takeTo 20 (some 39) (.bool true) rfl rfl (by kernel_rfl) (by kernel_rfl) (by kernel_rfl) (fun _ _ _ h => h) (by rfl) (fun _ _ => rfl) hHeld ?_
  simp only [Act.put, List.setIfInBounds_toArray, List.set_cons_zero, List.set_cons_succ]
  refine takeTo 21 (some 40) (.bool true) rfl rfl (by kernel_rfl) (by kernel_rfl) (by kernel_rfl) (fun _ _ _ h => h) (by rfl) (fun _ _ => rfl) hHeld ?_
  simp only [Act.put, List.setIfInBounds_toArray, List.set_cons_zero, List.set_cons_succ]
  refine takeTo 22 (some 2) (.bool true) rfl rfl (by kernel_rfl) (by kernel_rfl) (by kernel_rfl) (fun _ _ _ h => h) (by rfl) (fun _ _ => rfl) hHeld ?_
  simp only [Act.put, List.setIfInBounds_toArray, List.set_cons_zero, List.set_cons_succ]
  refine wpAnyH_done (by kernel_rfl) ?_ _
  go_wp2
  go_ret
  exact ⟨rfl, hB7⟩
end Go.Proofs.YtomefoijiiideaaDoor
