/- MerkleChecks, walked. -/
import Derived.Test.YtoeanaadlihkeaaDoorMkAlive
import Derived.Test.YtoeanaadlihkeaaDoorMkRef4A
namespace Go.Proofs.YtoeanaadlihkeaaDoor
open Go.ChangeShapes Go.WideShapes Go.ChangeAt Go.RowKit
set_option linter.unusedVariables false

theorem run_load_int {o : Oper} {a : Act} (x : Operand) (ho : o.op = .load 3 x) (p : Addr) (hx : a.eval x = .pointer (some p)) (v : Value) (w : World) (h : w.cell? p = some v) : (execOp a.eval o).run Tryd.prog w = .ok (.value v) w := by
  unfold execOp
  simp only [ho, hx]
  go_simp

theorem run_load_rows {o : Oper} {a : Act} (x : Operand) (ho : o.op = .load 34 x) (p : Addr) (hx : a.eval x = .pointer (some p)) (v : Value) (w : World) (h : w.cell? p = some v) : (execOp a.eval o).run Tryd.prog w = .ok (.value v) w := by
  unfold execOp
  simp only [ho, hx]
  go_simp

theorem run_eql_bools {o : Oper} {a : Act} (x y : Operand) (ho : o.op = .binOp .eql 4 x y 4) (c : Bool) (hx : a.eval x = .bool c) (hy : a.eval y = .bool c) (w : World) : (execOp a.eval o).run Tryd.prog w = .ok (.value (.bool true)) w := by
  unfold execOp
  simp only [ho, hx, hy]
  go_simp

set_option maxRecDepth 100000 in
set_option maxHeartbeats 3200000 in
theorem checks_walk (hM : MerkleOk) (n i : Int) (L C : Nat) (a : Option Addr) (x : Nat → Nat) (len cap : Nat) (pa : Option Addr) (A : Nat → Option Addr) (Lp Cp : Nat → Nat) (P : Nat → Nat → Nat) (Lr Cr : Nat) (ra : Option Addr) (r : Nat → Nat) (w : World)
    (hG : Glob Hc Kc w) (hn : i64ok n) (hi : i64ok i) (hLC : L ≤ C) (hLm : L ≤ maxLen) (han : a = none → L = 0 ∧ C = 0) (hx : Bytes w a L x) (hxl : ∀ j, x j < 256) (hlm : len ≤ maxLen) (hP : Pieces w pa len A Lp Cp P)
    (hrc : Lr ≤ Cr) (hrm : Lr ≤ maxLen) (hrn : ra = none → Lr = 0 ∧ Cr = 0) (hr : Bytes w ra Lr r) (hrl : ∀ j, r j < 256) :
    Calls Tryd.prog 5 #[.agg #[.int .i64 n, .int .i64 i, .slice a L C, .slice pa len cap, .slice ra Lr Cr]] w fun e w' => e = .returned (.bool true) ∧ Below w.heap.size w w' := by
  have c1 := fun wz (hb : Below w.heap.size w wz) => hM.2.2.2 n i L C a x len cap pa A Lp Cp P Lr Cr ra r wz (hG.below hb hG.1) hn hi hLC hLm han (hx.below hb (Nat.le_refl _)) hxl hlm (Pieces.below hP hb) hrc hrm hrn (hr.below hb (Nat.le_refl _)) hrl
  have c2 := fun wz (hb : Below w.heap.size w wz) => rcheck_any n i L C a x len cap pa A Lp Cp P Lr Cr ra r wz (hG.below hb hG.1) hn hi hLC hLm han (hx.below hb (Nat.le_refl _)) hxl hlm (Pieces.below hP hb) hrc hrm hrn (hr.below hb (Nat.le_refl _)) hrl
  generalize Shows n i L x len Lp P Lr r = Sh at c1 c2
  have C1 : Hid _ := c1
  have C2 : Hid _ := c2
  have K5 : Hid _ := fun w hG => live_any hM w hG
  clear c1 c2 hP hx hr
  have hN : Has (w.alloc (.cells #[.int .i64 n, .int .i64 i, .slice a L C, .slice pa len cap, .slice ra Lr Cr] 36)) w.heap.size 36 #[.int .i64 n, .int .i64 i, .slice a L C, .slice pa len cap, .slice ra Lr Cr] := Has.new _ _ _
  have hB0 : Below w.heap.size w (w.alloc (.cells #[.int .i64 n, .int .i64 i, .slice a L C, .slice pa len cap, .slice ra Lr Cr] 36)) := (Below.refl _ _).alloc (Nat.le_refl _) _
  go_enter Tryd.func5, Tryd.ntmps5
  go_wp2
  generalize (w.alloc (.cells #[.int .i64 n, .int .i64 i, .slice a L C, .slice pa len cap, .slice ra Lr Cr] 36)) = w0 at *
  have hNd : Has w0.drew w.heap.size 36 #[.int .i64 n, .int .i64 i, .slice a L C, .slice pa len cap, .slice ra Lr Cr] := hN
  have hBd : Below w.heap.size w w0.drew := hB0.drew
  have hal := K5.out w0.drew (hG.below hBd hG.1)
  refine wp_region_held_drew (S := fun w' => Has w' w.heap.size 36 #[.int .i64 n, .int .i64 i, .slice a L C, .slice pa len cap, .slice ra Lr Cr]) (by kernel_rfl) hNd (fun hHeld => ?_)
  refine callTo 0 (some 3) 13 #[] (by kernel_rfl) rfl rfl (by rfl) (by kernel_rfl) hal ?_
  rintro e wa ⟨rfl, hba⟩
  have hHa : Has wa w.heap.size 36 #[.int .i64 n, .int .i64 i, .slice a L C, .slice pa len cap, .slice ra Lr Cr] := hNd.below hba hNd.lt
  have hBa : Below w.heap.size w wa := hBd.trans (hba.mono hBd.size)
  refine ⟨_, rfl, hHa, ?_⟩
  clear hHeld hNd hal hba hBd hB0 hN
  have hHeld := hHa
  simp only [Act.put, List.setIfInBounds_toArray, List.set_cons_zero, List.set_cons_succ]
  refine takeTo 1 (some 4) (.bool true) rfl rfl (by kernel_rfl) (by kernel_rfl) (by kernel_rfl) (fun _ _ _ h => h) (by rfl) (fun _ _ => rfl) hHeld ?_
  simp only [Act.put, List.setIfInBounds_toArray, List.set_cons_zero, List.set_cons_succ]
  refine takeTo 2 (some 5) (.pointer (some ⟨w.heap.size, 0, none⟩)) rfl rfl (by kernel_rfl) (by kernel_rfl) (by kernel_rfl) (fun _ _ _ h => h) (by rfl) (fun _ _ => by kernel_rfl) hHeld ?_
  simp only [Act.put, List.setIfInBounds_toArray, List.set_cons_zero, List.set_cons_succ]
  refine takeTo 3 (some 6) (.int .i64 n) rfl rfl (by kernel_rfl) (by kernel_rfl) (by kernel_rfl) (fun _ _ _ h => h) (by rfl) (fun wz hz => run_load_int _ rfl _ rfl _ wz (hz.cell 0)) hHeld ?_
  simp only [Act.put, List.setIfInBounds_toArray, List.set_cons_zero, List.set_cons_succ]
  refine takeTo 4 (some 7) (.pointer (some ⟨w.heap.size, 1, none⟩)) rfl rfl (by kernel_rfl) (by kernel_rfl) (by kernel_rfl) (fun _ _ _ h => h) (by rfl) (fun _ _ => by kernel_rfl) hHeld ?_
  simp only [Act.put, List.setIfInBounds_toArray, List.set_cons_zero, List.set_cons_succ]
  refine takeTo 5 (some 8) (.int .i64 i) rfl rfl (by kernel_rfl) (by kernel_rfl) (by kernel_rfl) (fun _ _ _ h => h) (by rfl) (fun wz hz => run_load_int _ rfl _ rfl _ wz (hz.cell 1)) hHeld ?_
  simp only [Act.put, List.setIfInBounds_toArray, List.set_cons_zero, List.set_cons_succ]
  refine takeTo 6 (some 9) (.pointer (some ⟨w.heap.size, 2, none⟩)) rfl rfl (by kernel_rfl) (by kernel_rfl) (by kernel_rfl) (fun _ _ _ h => h) (by rfl) (fun _ _ => by kernel_rfl) hHeld ?_
  simp only [Act.put, List.setIfInBounds_toArray, List.set_cons_zero, List.set_cons_succ]
  refine takeTo 7 (some 10) (.slice a L C) rfl rfl (by kernel_rfl) (by kernel_rfl) (by kernel_rfl) (fun _ _ _ h => h) (by rfl) (fun wz hz => run_load_row1 _ rfl _ rfl _ wz (hz.cell 2)) hHeld ?_
  simp only [Act.put, List.setIfInBounds_toArray, List.set_cons_zero, List.set_cons_succ]
  refine takeTo 8 (some 11) (.pointer (some ⟨w.heap.size, 3, none⟩)) rfl rfl (by kernel_rfl) (by kernel_rfl) (by kernel_rfl) (fun _ _ _ h => h) (by rfl) (fun _ _ => by kernel_rfl) hHeld ?_
  simp only [Act.put, List.setIfInBounds_toArray, List.set_cons_zero, List.set_cons_succ]
  refine takeTo 9 (some 12) (.slice pa len cap) rfl rfl (by kernel_rfl) (by kernel_rfl) (by kernel_rfl) (fun _ _ _ h => h) (by rfl) (fun wz hz => run_load_rows _ rfl _ rfl _ wz (hz.cell 3)) hHeld ?_
  simp only [Act.put, List.setIfInBounds_toArray, List.set_cons_zero, List.set_cons_succ]
  refine takeTo 10 (some 13) (.pointer (some ⟨w.heap.size, 4, none⟩)) rfl rfl (by kernel_rfl) (by kernel_rfl) (by kernel_rfl) (fun _ _ _ h => h) (by rfl) (fun _ _ => by kernel_rfl) hHeld ?_
  simp only [Act.put, List.setIfInBounds_toArray, List.set_cons_zero, List.set_cons_succ]
  refine takeTo 11 (some 14) (.slice ra Lr Cr) rfl rfl (by kernel_rfl) (by kernel_rfl) (by kernel_rfl) (fun _ _ _ h => h) (by rfl) (fun wz hz => run_load_row1 _ rfl _ rfl _ wz (hz.cell 4)) hHeld ?_
  simp only [Act.put, List.setIfInBounds_toArray, List.set_cons_zero, List.set_cons_succ]
  refine takeTo 13 (some 16) (.pointer (some ⟨w.heap.size, 0, none⟩)) rfl rfl (by kernel_rfl) (by kernel_rfl) (by kernel_rfl) (fun _ _ _ h => h) (by rfl) (fun _ _ => by kernel_rfl) hHeld ?_
  simp only [Act.put, List.setIfInBounds_toArray, List.set_cons_zero, List.set_cons_succ]
  refine takeTo 14 (some 17) (.int .i64 n) rfl rfl (by kernel_rfl) (by kernel_rfl) (by kernel_rfl) (fun _ _ _ h => h) (by rfl) (fun wz hz => run_load_int _ rfl _ rfl _ wz (hz.cell 0)) hHeld ?_
  simp only [Act.put, List.setIfInBounds_toArray, List.set_cons_zero, List.set_cons_succ]
  refine takeTo 15 (some 18) (.pointer (some ⟨w.heap.size, 1, none⟩)) rfl rfl (by kernel_rfl) (by kernel_rfl) (by kernel_rfl) (fun _ _ _ h => h) (by rfl) (fun _ _ => by kernel_rfl) hHeld ?_
  simp only [Act.put, List.setIfInBounds_toArray, List.set_cons_zero, List.set_cons_succ]
  refine takeTo 16 (some 19) (.int .i64 i) rfl rfl (by kernel_rfl) (by kernel_rfl) (by kernel_rfl) (fun _ _ _ h => h) (by rfl) (fun wz hz => run_load_int _ rfl _ rfl _ wz (hz.cell 1)) hHeld ?_
  simp only [Act.put, List.setIfInBounds_toArray, List.set_cons_zero, List.set_cons_succ]
  refine takeTo 17 (some 20) (.pointer (some ⟨w.heap.size, 2, none⟩)) rfl rfl (by kernel_rfl) (by kernel_rfl) (by kernel_rfl) (fun _ _ _ h => h) (by rfl) (fun _ _ => by kernel_rfl) hHeld ?_
  simp only [Act.put, List.setIfInBounds_toArray, List.set_cons_zero, List.set_cons_succ]
  refine takeTo 18 (some 21) (.slice a L C) rfl rfl (by kernel_rfl) (by kernel_rfl) (by kernel_rfl) (fun _ _ _ h => h) (by rfl) (fun wz hz => run_load_row1 _ rfl _ rfl _ wz (hz.cell 2)) hHeld ?_
  simp only [Act.put, List.setIfInBounds_toArray, List.set_cons_zero, List.set_cons_succ]
  refine takeTo 19 (some 22) (.pointer (some ⟨w.heap.size, 3, none⟩)) rfl rfl (by kernel_rfl) (by kernel_rfl) (by kernel_rfl) (fun _ _ _ h => h) (by rfl) (fun _ _ => by kernel_rfl) hHeld ?_
  simp only [Act.put, List.setIfInBounds_toArray, List.set_cons_zero, List.set_cons_succ]
  refine takeTo 20 (some 23) (.slice pa len cap) rfl rfl (by kernel_rfl) (by kernel_rfl) (by kernel_rfl) (fun _ _ _ h => h) (by rfl) (fun wz hz => run_load_rows _ rfl _ rfl _ wz (hz.cell 3)) hHeld ?_
  simp only [Act.put, List.setIfInBounds_toArray, List.set_cons_zero, List.set_cons_succ]
  refine takeTo 21 (some 24) (.pointer (some ⟨w.heap.size, 4, none⟩)) rfl rfl (by kernel_rfl) (by kernel_rfl) (by kernel_rfl) (fun _ _ _ h => h) (by rfl) (fun _ _ => by kernel_rfl) hHeld ?_
  simp only [Act.put, List.setIfInBounds_toArray, List.set_cons_zero, List.set_cons_succ]
  refine takeTo 22 (some 25) (.slice ra Lr Cr) rfl rfl (by kernel_rfl) (by kernel_rfl) (by kernel_rfl) (fun _ _ _ h => h) (by rfl) (fun wz hz => run_load_row1 _ rfl _ rfl _ wz (hz.cell 4)) hHeld ?_
  simp only [Act.put, List.setIfInBounds_toArray, List.set_cons_zero, List.set_cons_succ]
  refine ready1 12 (by kernel_rfl) ?_
  · refine stepCall (some 15) 17 #[.int .i64 n, .int .i64 i, .slice a L C, .slice pa len cap, .slice ra Lr Cr] rfl rfl (by rfl) (by kernel_rfl) (C1.out wa hBa) ?_
    rintro e w3 ⟨⟨b, rfl, hb⟩, hb3⟩
    have hB3 := hBa.trans (hb3.mono hBa.size)
    refine ⟨_, rfl, hHa.below hb3 hHa.lt, ?_⟩
    simp only [Act.put, List.setIfInBounds_toArray, List.set_cons_zero, List.set_cons_succ]
    refine ready1 23 (by kernel_rfl) (stepCall (some 26) 18 #[.int .i64 n, .int .i64 i, .slice a L C, .slice pa len cap, .slice ra Lr Cr] rfl rfl (by rfl) (by kernel_rfl) (C2.out w3 hB3) ?_)
    rintro e w4 ⟨⟨b', rfl, hb'⟩, hb4⟩
    have hB4 := hB3.trans (hb4.mono hB3.size)
    obtain rfl : b = b' := by
      have e := hb.trans hb'.symm
      cases b <;> cases b' <;> simp_all
    clear hHeld
    have hHeld := (hHa.below hb3 hHa.lt).below hb4 (hHa.below hb3 hHa.lt).lt
    refine ⟨_, rfl, hHeld, ?_⟩
    simp only [Act.put, List.setIfInBounds_toArray, List.set_cons_zero, List.set_cons_succ]
    refine takeTo 24 (some 27) (.bool true) rfl rfl (by kernel_rfl) (by kernel_rfl) (by kernel_rfl) (fun _ _ _ h => h) (by rfl) (fun wz _ => run_eql_bools _ _ rfl b rfl rfl wz) hHeld ?_
    simp only [Act.put, List.setIfInBounds_toArray, List.set_cons_zero, List.set_cons_succ]
    refine takeTo 25 (some 28) (.bool true) rfl rfl (by kernel_rfl) (by kernel_rfl) (by kernel_rfl) (fun _ _ _ h => h) (by rfl) (fun _ _ => by kernel_rfl) hHeld ?_
    simp only [Act.put, List.setIfInBounds_toArray, List.set_cons_zero, List.set_cons_succ]
    refine takeTo 26 (some 2) (.bool true) rfl rfl (by kernel_rfl) (by kernel_rfl) (by kernel_rfl) (fun _ _ _ h => h) (by rfl) (fun _ _ => rfl) hHeld ?_
    simp only [Act.put, List.setIfInBounds_toArray, List.set_cons_zero, List.set_cons_succ]
    refine wpAnyH_done (by kernel_rfl) ?_ _
    go_wp2
    go_ret
    exact ⟨rfl, hB4⟩
end Go.Proofs.YtoeanaadlihkeaaDoor
