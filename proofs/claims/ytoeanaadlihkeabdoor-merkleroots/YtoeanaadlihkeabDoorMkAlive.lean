/- The live question of stage 6, out of what is asked of merkle's functions. -/
import Derived.Test.YtoeanaadlihkeabDoorMkOps
namespace Go.Proofs.YtoeanaadlihkeabDoor
open Go.ChangeShapes Go.WideShapes Go.ChangeAt Go.RowKit
set_option linter.unusedVariables false

/-- All that is asked of merkle's functions. -/
def MerkleOk : Prop := LevelsOk 11 ∧ PathOk 16 ∧ BuildOk 6 ∧ CheckOk 17

theorem dep1 : dep 1 = 1 := dep_le2 (by decide)
theorem dep5 : dep 5 = 3 := by rw [dep_more (by decide), show (5 + 1) / 2 = 3 from rfl, dep_more (by decide), show (3 + 1) / 2 = 2 from rfl, dep_le2 (by decide)]

def zer : Nat → Nat := fun _ => 0
theorem zer_lt (j : Nat) : zer j < 256 := (by decide : 0 < 256)

theorem tree_lt (d : Nat → Nat) (n : Nat) (hd : ∀ j, d j < 256) : ∀ k j, tree d n k j < 256 := by
  intro k
  induction k with
  | zero => intro j; exact (by decide : 0 < 256)
  | succ k ih => intro j; exact cat_lt _ _ _ ih (lvl_lt d n hd (k + 1)) j

theorem root_lt (d : Nat → Nat) (n j : Nat) : root d n j < 256 := hsh_lt _ _ _

/-- The tree's sectors above a data sector, as Check's path. -/
theorem shows_own (d : Nat → Nat) (n i : Nat) (hi : i < n) (hn : n ≤ 2048) (x : Nat → Nat) (hx : ∀ j, j < 64 → x j = sec d i j) (P : Nat → Nat → Nat) (Lp : Nat → Nat) (hL : ∀ k, k < dep n → Lp k = 64)
    (hP : ∀ k, k < dep n → ∀ j, j < 64 → P k j = sec (tree d n (dep n)) (off n k + pl i (k + 1)) j) : Shows n i 64 x (dep n) Lp P 32 (root d n) := by
  have hP' : ∀ k, k < dep n → ∀ j, j < 64 → P k j = sec (lvl d n (k + 1)) (pl i (k + 1)) j := fun k hk j hj => (hP k hk j hj).trans (tree_sec d n (dep n) k i j hk hi hj)
  unfold Shows
  simp only [Int.toNat_natCast]
  refine ⟨by omega, by omega, by omega, trivial, trivial, hL, own_stands d n i P (dep n) hi hP' x hx, trivial, fun j hj => ?_⟩
  rw [own_root d n i P hi hP' x hx]

theorem bl_zeros (n : Nat) : (madeCells (Value.int .u8 0).cells (n * 1)).toList = bl (fun _ => 0) n := by
  unfold bl madeCells
  apply List.ext_getElem?
  intro i
  by_cases h : i < n
  · simp [h, Value.cells, Nat.mod_one]
  · simp [h, Value.cells]


theorem make_bytes6 (n : Nat) (hn : n ≤ 100000) (w : World) : ∃ w', Bytes w' (some ⟨w.heap.size, 0, none⟩) n zer ∧ Below w.heap.size w w' ∧ w.heap.size < w'.heap.size ∧
    ∀ (o : Oper) (a : Act) (l c : Operand), o.op = .makeSlice 22 l c → a.eval l = .int .i64 (n : Nat) → a.eval c = .int .i64 (n : Nat) → (execOp a.eval o).run Tryd.prog w = .ok (.value (.slice (some ⟨w.heap.size, 0, none⟩) n n)) w' := by
  obtain ⟨i0, hi, hz0, hz1, hz2⟩ := info_parts Tryd.info5
  obtain ⟨w', hrun, r1, r2⟩ := run_make_full (P := Tryd.prog) w w.heap.size 22 5 i0 (.int .u8 0) 1 Tryd.underlying22 hi hz0 hz1 .i64 .i64 n (by rw [hz2]; omega) (by unfold maxLen; omega) (Nat.le_refl _)
  rw [bl_zeros] at r1
  have hb : Bytes w' (some ⟨w.heap.size, 0, none⟩) n zer := by
    obtain ⟨a, cap, e, _, _, h, _⟩ := own_bytes r1
    cases e
    exact h
  refine ⟨w', hb, (Below.refl _ _).grown r2 (Nat.le_refl _) (by intro k h; cases h), (r1.lt _ rfl).2, ?_⟩
  intro o a l c ho hl hc
  unfold execOp
  simp [ho, hl, hc, hrun, Result.andThen]

theorem wpList_make6 {ops : Array Oper} {rest : List Oper} {o : Oper} {a : Act} {w w' : World} {Q : Exit → Act → World → Prop} (hgd : o.guard = none) (v : Value) (hr : (execOp a.eval o).run Tryd.prog w = .ok (.value v) w') (h : wpList Tryd.prog ops Q rest (a.put o.dst v) w') : wpList Tryd.prog ops Q (o :: rest) a w :=
  wpList_plain hgd fun K hK => by
    unfold Oper.wp
    rw [hr]
    exact hK _ _ h

/-- The tree of one sector of noughts, and that it shows it. -/
theorem live_words (hM : MerkleOk) : ∃ (R T : Nat → Nat), (∀ j, R j < 256) ∧ (∀ j, T j < 256) ∧
    (∀ w p, Glob Hc Kc w → Bytes w (some ⟨p, 0, none⟩) 64 zer → Calls Tryd.prog 6 #[.slice (some ⟨p, 0, none⟩) 64 64] w fun e w' => ∃ b o c, e = .returned (.tuple #[.slice (some ⟨b, o, none⟩) 64 c, .agg (cellsN .u8 32 R), .int .i64 0]) ∧ 64 ≤ c ∧ Bytes w' (some ⟨b, o, none⟩) 64 T ∧ Below w.heap.size w w') ∧
    (∀ w p q g b o c, Glob Hc Kc w → Bytes w (some ⟨p, 0, none⟩) 64 zer → Bytes w (some ⟨b, o, none⟩) 64 T → 64 ≤ c → Bytes w (some ⟨g, 0, none⟩) 32 R → w.cell? ⟨q, 0, none⟩ = some (.slice (some ⟨b, o, none⟩) 64 c) →
      Calls Tryd.prog 17 #[.int .i64 1, .int .i64 0, .slice (some ⟨p, 0, none⟩) 64 64, .slice (some ⟨q, 0, none⟩) 1 1, .slice (some ⟨g, 0, none⟩) 32 32] w fun e w' => e = .returned (.bool true) ∧ Below w.heap.size w w') := by
  refine ⟨root zer 1, tree zer 1 1, root_lt _ _, tree_lt zer 1 zer_lt 1, ?_, ?_⟩
  · intro w p hG hb
    have h := hM.2.2.1 1 zer (some ⟨p, 0, none⟩) 64 w hG (by decide) (by decide) (by decide) hb zer_lt
    rw [dep1, show off 1 1 = 1 from rfl] at h
    refine h.mono ?_
    rintro e w' ⟨a', c', rfl, h1, h2, h3, h4⟩
    rcases id h3 with h0 | ⟨b, o, rfl, _⟩
    · omega
    · exact ⟨b, o, c', rfl, h1, h3, h4⟩
  · intro w p q g b o c hG hz ht hc hr hq
    have hql : q < w.heap.size := World.block_lt_of_cell? w ⟨q, 0, none⟩ hq
    have hP : Pieces w (some ⟨q, 0, none⟩) 1 (fun _ => some ⟨b, o, none⟩) (fun _ => 64) (fun _ => c) (fun _ => tree zer 1 1) := by
      intro i hi
      obtain rfl : i = 0 := by omega
      exact ⟨⟨q, 0, rfl, hql, hq⟩, hc, (fun e => by cases e), ht, tree_lt zer 1 zer_lt 1⟩
    have h := hM.2.2.2 1 0 64 64 (some ⟨p, 0, none⟩) zer 1 1 (some ⟨q, 0, none⟩) (fun _ => some ⟨b, o, none⟩) (fun _ => 64) (fun _ => c) (fun _ => tree zer 1 1) 32 32 (some ⟨g, 0, none⟩) (root zer 1) w hG ⟨by decide, by decide⟩ ⟨by decide, by decide⟩ (Nat.le_refl _) (by unfold maxLen; omega) (fun e => by cases e) hz zer_lt (by unfold maxLen; omega) hP (Nat.le_refl _) (by unfold maxLen; omega) (fun e => by cases e) hr (root_lt _ _)
    refine h.mono ?_
    rintro e w' ⟨⟨bb, rfl, hb⟩, hbw⟩
    have hs := shows_own zer 1 0 (by decide) (by decide) zer (fun _ _ => rfl) (fun _ => tree zer 1 1) (fun _ => 64) (fun _ _ => rfl) (fun k hk j hj => by
      rw [dep1] at hk ⊢
      obtain rfl : k = 0 := by omega
      show _ = tree zer 1 1 (64 * (0 + 0) + j)
      rw [show 64 * (0 + 0) + j = j from by omega])
    rw [dep1] at hs
    obtain rfl : bb = true := hb.2 hs
    exact ⟨rfl, hbw⟩

set_option maxRecDepth 100000 in
set_option maxHeartbeats 3200000 in
theorem live_any (hM : MerkleOk) (w : World) (hG : Glob Hc Kc w) : Calls Tryd.prog 7 #[] w fun e w' => e = .returned (.bool true) ∧ Below w.heap.size w w' := by
  have hl := hM.1 5 w ⟨by decide, by decide⟩
  have hp := fun w => hM.2.1 5 4 w ⟨by decide, by decide⟩ ⟨by decide, by decide⟩
  rw [show levN 5 = 3 from by rw [levN_in ⟨by decide, by decide⟩]; exact dep5] at hl
  rw [show patN 5 4 = 3 from by rw [patN_in ⟨by decide, by decide, by decide⟩]; exact dep5] at hp
  obtain ⟨R, T, hRl, hTl, hbu, hch⟩ := live_words hM
  have HB : Hid _ := hbu
  have HC : Hid _ := hch
  have HP : Hid _ := hp
  clear hbu hch hp
  go_enter Tryd.func7, Tryd.ntmps7
  go_wp2_with (first
    | ((go_at_call 11)
       (refine hl.mono ?_)
       (rintro e w1 ⟨la, lc, rfl, hlc, hln, hli, hb1⟩)
       (have hp := HP.out w1)
       (clear hl))
    | ((go_at_call 16)
       (refine hp.mono ?_)
       (rintro e w2 ⟨pa, pc, rfl, hpc, hpn, hpi, hb2⟩)
       (obtain ⟨lb, lo, rfl, _, hlcell⟩ := (hli.below hb2 (Nat.le_refl _)).resolve_left (by decide))
       (obtain ⟨pb, po, rfl, _, hpcell⟩ := hpi.resolve_left (by decide))
       (have c0 : w2.cell? ⟨lb, lo, none⟩ = some (.int .i64 3) := hlcell 0 (by decide))
       (have c1 : w2.cell? ⟨pb, po + 1, none⟩ = some (.int .i64 4) := hpcell 1 (by decide))
       (have c2 : w2.cell? ⟨pb, po + 2, none⟩ = some (.int .i64 5) := hpcell 2 (by decide))
       (have hB2 : Below w.heap.size w w2 := hb1.trans (hb2.mono hb1.size))
       (have hG2 := hG.below hB2 hG.1)
       (obtain ⟨w3, hz3, hb3, hs3, hmk⟩ := make_bytes6 64 (by decide) w2)
       (have hbuild := HB.out w3 w2.heap.size (hG2.below hb3 hG2.1) hz3)
       (clear hp hpi hli hlcell hpcell))
    | ((at_make)
       (refine wpList_make6 rfl _ (hmk _ _ _ _ rfl rfl rfl) ?_)
       (clear hmk))
    | ((go_at_call 6)
       (refine hbuild.mono ?_)
       (rintro e w4 ⟨tb, to_, tc, rfl, htc, ht4, hb4⟩)
       (have hB4 : Below w.heap.size w w4 := hB2.trans ((hb3.mono hB2.size).trans (hb4.mono (Nat.le_trans hB2.size hb3.size))))
       (have hN4 : Has (w4.alloc (.cells (cellsN .u8 32 fun _ => 0) 24)) w4.heap.size 24 (cellsN .u8 32 fun _ => 0) := Has.new _ _ _)
       (clear hbuild))
    | ((refine wpList_store_rowG rfl 24 _ _ rfl (w4.heap.size) (cellsN .u8 32 R) rfl rfl 24 _ hN4 (by rw [cellsN_size]; exact Tryd.size24) (by simp [cellsN_size]) (cellsN_one _ _ _) ?_)
       (intro w6 hw6)
       (have hR6 : Has w6 w4.heap.size 24 (cellsN .u8 32 R) := (by rw [hw6]; exact hN4.setRow _))
       (have hb6 : Below w4.heap.size w4 w6 := (by rw [hw6]; exact below_setRow ((Below.refl _ _).alloc (Nat.le_refl _) _) (Nat.le_refl _) _))
       (clear hw6)))
  refine wp_region_held_drew (S := fun _ => True) (by kernel_rfl) trivial (fun hHeld => ?_)
  refine takeTo 0 (some 40) (.int .i64 0) rfl rfl (by kernel_rfl) (by kernel_rfl) (by kernel_rfl) (fun _ _ _ h => h) (by rfl) (fun _ _ => rfl) hHeld ?_
  simp only [Act.put, List.setIfInBounds_toArray, List.set_cons_zero, List.set_cons_succ]
  refine takeTo 1 (some 41) (.bool true) rfl rfl (by kernel_rfl) (by kernel_rfl) (by kernel_rfl) (fun _ _ _ h => h) (by rfl) (fun _ _ => by kernel_rfl) hHeld ?_
  simp only [Act.put, List.setIfInBounds_toArray, List.set_cons_zero, List.set_cons_succ]
  refine takeTo 2 (some 42) (.bool true) rfl rfl (by kernel_rfl) (by kernel_rfl) (by kernel_rfl) (fun _ _ _ h => h) (by rfl) (fun _ _ => rfl) hHeld ?_
  simp only [Act.put, List.setIfInBounds_toArray, List.set_cons_zero, List.set_cons_succ]
  refine takeTo 3 (some 43) (.slice (some ⟨tb, to_, none⟩) 64 tc) rfl rfl (by kernel_rfl) (by kernel_rfl) (by kernel_rfl) (fun _ _ _ h => h) (by rfl) (fun _ _ => rfl) hHeld ?_
  simp only [Act.put, List.setIfInBounds_toArray, List.set_cons_zero, List.set_cons_succ]
  refine takeTo 4 (some 44) (.int .i64 64) rfl rfl (by kernel_rfl) (by kernel_rfl) (by kernel_rfl) (fun _ _ _ h => h) (by rfl) (fun wz _ => run_len_of _ _ Tryd.underlying22 _ rfl _ 64 _ rfl wz) hHeld ?_
  simp only [Act.put, List.setIfInBounds_toArray, List.set_cons_zero, List.set_cons_succ]
  refine takeTo 5 (some 45) (.bool true) rfl rfl (by kernel_rfl) (by kernel_rfl) (by kernel_rfl) (fun _ _ _ h => h) (by rfl) (fun _ _ => by kernel_rfl) hHeld ?_
  simp only [Act.put, List.setIfInBounds_toArray, List.set_cons_zero, List.set_cons_succ]
  refine takeTo 6 (some 46) (.bool true) rfl rfl (by kernel_rfl) (by kernel_rfl) (by kernel_rfl) (fun _ _ _ h => h) (by rfl) (fun _ _ => by kernel_rfl) hHeld ?_
  simp only [Act.put, List.setIfInBounds_toArray, List.set_cons_zero, List.set_cons_succ]
  refine takeTo 7 (some 47) (.bool true) rfl rfl (by kernel_rfl) (by kernel_rfl) (by kernel_rfl) (fun _ _ _ h => h) (by rfl) (fun _ _ => rfl) hHeld ?_
  simp only [Act.put, List.setIfInBounds_toArray, List.set_cons_zero, List.set_cons_succ]
  refine takeTo 9 (some 49) (.slice (some ⟨tb, to_, none⟩) 64 tc) rfl rfl (by kernel_rfl) (by kernel_rfl) (by kernel_rfl) (fun _ _ _ h => h) (by rfl) (fun _ _ => rfl) hHeld ?_
  simp only [Act.put, List.setIfInBounds_toArray, List.set_cons_zero, List.set_cons_succ]
  refine takeTo 11 (some 51) (.slice (some ⟨w4.heap.size, 0, none⟩) 32 32) rfl rfl (by kernel_rfl) (by kernel_rfl) (by kernel_rfl) (fun _ _ _ h => h) (by rfl) (fun _ _ => by kernel_rfl) hHeld ?_
  simp only [Act.put, List.setIfInBounds_toArray, List.set_cons_zero, List.set_cons_succ]
  have hBd : Below w.heap.size w w6.drew := (hB4.trans (hb6.mono hB4.size)).drew
  have htd : Bytes w6.drew (some ⟨tb, to_, none⟩) 64 T := (ht4.below hb6 (Nat.le_refl _)).below (Below.refl _ _).drew (Nat.le_refl _)
  have hRd : Has w6.drew w4.heap.size 24 (cellsN .u8 32 R) := hR6
  clear hHeld hR6 hb6
  generalize w6.drew = wd at *
  have fin : ∀ (wz : World) (p q : Nat), Below wd.heap.size wd wz → Bytes wz (some ⟨p, 0, none⟩) 64 zer → wz.cell? ⟨q, 0, none⟩ = some (.slice (some ⟨tb, to_, none⟩) 64 tc) →
      Calls Tryd.prog 17 #[.int .i64 1, .int .i64 0, .slice (some ⟨p, 0, none⟩) 64 64, .slice (some ⟨q, 0, none⟩) 1 1, .slice (some ⟨w4.heap.size, 0, none⟩) 32 32] wz fun e w' => e = .returned (.bool true) ∧ Below w.heap.size w w' := by
    intro wz p q hbz hz hq
    have hBz := hBd.trans (hbz.mono hBd.size)
    refine (HC.out wz p q w4.heap.size tb to_ tc (hG.below hBz hG.1) hz (htd.below hbz (Nat.le_refl _)) htc (hRd.below hbz hRd.lt).bytes hq).mono ?_
    rintro e w' ⟨rfl, hb⟩
    exact ⟨rfl, hBz.trans (hb.mono hBz.size)⟩
  have HF : Hid _ := fin
  clear fin
  refine ready2 8 10 (by kernel_rfl) ?_ ?_
  · obtain ⟨w7, hz7, hb7, hs7, hmk⟩ := make_bytes6 64 (by decide) wd
    refine stepVal (some 48) _ w7 rfl rfl (by rfl) (hmk _ _ _ _ rfl rfl rfl) ⟨trivial, ?_⟩
    simp only [Act.put, List.setIfInBounds_toArray, List.set_cons_zero, List.set_cons_succ]
    have hb8 : Below w7.heap.size w7 (w7.alloc (.cells #[.slice (some ⟨tb, to_, none⟩) 64 tc] 22)) := (Below.refl _ _).alloc (Nat.le_refl _) _
    have hc8 : (w7.alloc (.cells #[.slice (some ⟨tb, to_, none⟩) 64 tc] 22)).cell? ⟨w7.heap.size, 0, none⟩ = some (.slice (some ⟨tb, to_, none⟩) 64 tc) := (Has.new w7 22 #[.slice (some ⟨tb, to_, none⟩) 64 tc]).cell 0
    refine ready1 10 (by kernel_rfl) (stepVal (some 50) (.slice (some ⟨w7.heap.size, 0, none⟩) 1 1) (w7.alloc (.cells #[.slice (some ⟨tb, to_, none⟩) 64 tc] 22)) rfl rfl (by rfl) (by kernel_rfl) ⟨trivial, ?_⟩)
    simp only [Act.put, List.setIfInBounds_toArray, List.set_cons_zero, List.set_cons_succ]
    refine ready1 12 (by kernel_rfl) (stepCall (some 52) 17 #[.int .i64 1, .int .i64 0, .slice (some ⟨wd.heap.size, 0, none⟩) 64 64, .slice (some ⟨w7.heap.size, 0, none⟩) 1 1, .slice (some ⟨w4.heap.size, 0, none⟩) 32 32] rfl rfl (by rfl) (by kernel_rfl) (HF.out _ _ _ (hb7.trans (hb8.mono hb7.size)) (hz7.below hb8 (Nat.le_refl _)) hc8) ?_)
    rintro e w9 ⟨rfl, hb9⟩
    refine ⟨_, rfl, trivial, ?_⟩
    simp only [Act.put, List.setIfInBounds_toArray, List.set_cons_zero, List.set_cons_succ]
    have hHeld : True := trivial
    refine takeTo 13 (some 53) (.bool true) rfl rfl (by kernel_rfl) (by kernel_rfl) (by kernel_rfl) (fun _ _ _ h => h) (by rfl) (fun _ _ => by kernel_rfl) hHeld ?_
    simp only [Act.put, List.setIfInBounds_toArray, List.set_cons_zero, List.set_cons_succ]
    refine takeTo 14 (some 0) (.bool true) rfl rfl (by kernel_rfl) (by kernel_rfl) (by kernel_rfl) (fun _ _ _ h => h) (by rfl) (fun _ _ => rfl) hHeld ?_
    simp only [Act.put, List.setIfInBounds_toArray, List.set_cons_zero]
    refine wpAnyH_done (by kernel_rfl) ?_ _
    go_wp2
    go_ret
    exact ⟨rfl, hb9⟩
  · have hb7 : Below wd.heap.size wd (wd.alloc (.cells #[.slice (some ⟨tb, to_, none⟩) 64 tc] 22)) := (Below.refl _ _).alloc (Nat.le_refl _) _
    have hc7 : (wd.alloc (.cells #[.slice (some ⟨tb, to_, none⟩) 64 tc] 22)).cell? ⟨wd.heap.size, 0, none⟩ = some (.slice (some ⟨tb, to_, none⟩) 64 tc) := (Has.new wd 22 #[.slice (some ⟨tb, to_, none⟩) 64 tc]).cell 0
    refine stepVal (some 50) (.slice (some ⟨wd.heap.size, 0, none⟩) 1 1) (wd.alloc (.cells #[.slice (some ⟨tb, to_, none⟩) 64 tc] 22)) rfl rfl (by rfl) (by kernel_rfl) ⟨trivial, ?_⟩
    simp only [Act.put, List.setIfInBounds_toArray, List.set_cons_zero, List.set_cons_succ]
    have hsz : wd.heap.size < (wd.alloc (.cells #[.slice (some ⟨tb, to_, none⟩) 64 tc] 22)).heap.size := by simp
    generalize wd.alloc (.cells #[.slice (some ⟨tb, to_, none⟩) 64 tc] 22) = w7 at *
    obtain ⟨w8, hz8, hb8, hs8, hmk⟩ := make_bytes6 64 (by decide) w7
    refine ready1 8 (by kernel_rfl) (stepVal (some 48) _ w8 rfl rfl (by rfl) (hmk _ _ _ _ rfl rfl rfl) ⟨trivial, ?_⟩)
    simp only [Act.put, List.setIfInBounds_toArray, List.set_cons_zero, List.set_cons_succ]
    refine ready1 12 (by kernel_rfl) (stepCall (some 52) 17 #[.int .i64 1, .int .i64 0, .slice (some ⟨w7.heap.size, 0, none⟩) 64 64, .slice (some ⟨wd.heap.size, 0, none⟩) 1 1, .slice (some ⟨w4.heap.size, 0, none⟩) 32 32] rfl rfl (by rfl) (by kernel_rfl) (HF.out _ _ _ (hb7.trans (hb8.mono hb7.size)) hz8 ((hb8.cell (p := ⟨wd.heap.size, 0, none⟩) hsz).trans hc7)) ?_)
    rintro e w9 ⟨rfl, hb9⟩
    refine ⟨_, rfl, trivial, ?_⟩
    simp only [Act.put, List.setIfInBounds_toArray, List.set_cons_zero, List.set_cons_succ]
    have hHeld : True := trivial
    refine takeTo 13 (some 53) (.bool true) rfl rfl (by kernel_rfl) (by kernel_rfl) (by kernel_rfl) (fun _ _ _ h => h) (by rfl) (fun _ _ => by kernel_rfl) hHeld ?_
    simp only [Act.put, List.setIfInBounds_toArray, List.set_cons_zero, List.set_cons_succ]
    refine takeTo 14 (some 0) (.bool true) rfl rfl (by kernel_rfl) (by kernel_rfl) (by kernel_rfl) (fun _ _ _ h => h) (by rfl) (fun _ _ => rfl) hHeld ?_
    simp only [Act.put, List.setIfInBounds_toArray, List.set_cons_zero]
    refine wpAnyH_done (by kernel_rfl) ?_ _
    go_wp2
    go_ret
    exact ⟨rfl, hb9⟩
end Go.Proofs.YtoeanaadlihkeabDoor
