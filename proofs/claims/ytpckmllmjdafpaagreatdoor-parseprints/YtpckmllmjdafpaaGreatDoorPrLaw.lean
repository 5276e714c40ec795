/- ParsePrints, walked. -/
import Derived.Test.YtpckmllmjdafpaaGreatDoorPrMath
import Derived.Test.YtpckmllmjdafpaaGreatDoorJoint09
import Derived.Test.YtpckmllmjdafpaaGreatDoorJoint01
namespace Go.Proofs.YtpckmllmjdafpaaGreatDoor
open Go.ChangeShapes Go.WideShapes Go.ChangeAt Go.RowKit
set_option linter.unusedVariables false

theorem run_eqB {o : Oper} {a : Act} (x y : Operand) (ho : o.op = .binOp .eql 4 x y 4) (c : Bool) (hx : a.eval x = .bool c) (hy : a.eval y = .bool c) (w : World) : (execOp a.eval o).run Tryz.prog w = .ok (.value (.bool true)) w := by
  unfold execOp
  simp only [ho, hx, hy]
  go_simp

theorem run_eqS {o : Oper} {a : Act} (x y : Operand) (ho : o.op = .binOp .eql 9 x y 9) (p : ByteArray) (hx : a.eval x = .string p) (hy : a.eval y = .string p) (w : World) : (execOp a.eval o).run Tryz.prog w = .ok (.value (.bool true)) w := by
  unfold execOp
  simp only [ho, hx, hy]
  go_simp

theorem run_eqE {o : Oper} {a : Act} (x y : Operand) (ho : o.op = .binOp .eql 27 x y 27) (v : Int) (hx : a.eval x = .int .i64 v) (hy : a.eval y = .int .i64 v) (w : World) : (execOp a.eval o).run Tryz.prog w = .ok (.value (.bool true)) w := by
  unfold execOp
  simp only [ho, hx, hy]
  go_simp

set_option maxRecDepth 100000 in
set_option maxHeartbeats 2000000 in
theorem prints_walk (n : Nd) (A : Option Addr) (C : Nat) (w : World) (h : RdN w n A C) (ht : Tab w) : Calls Tryz.prog 3 #[nval n A C] w fun e w' => e = .returned (.bool true) ∧ Below w.heap.size w w' := by
  have hal := fun W (hb : Below w.heap.size w W) => alive_c W (ht.below hb)
  have hpc := fun W (hb : Below w.heap.size w W) => lparts_c n A C W (h.grow hb)
  have HAL : Hid _ := hal
  have HPC : Hid _ := hpc
  obtain ⟨S, E, hboth⟩ : ∃ (S : ByteArray) (E : Int), (∀ f, szF f n ≤ 300) → ∀ W, Below w.heap.size w W → (Calls Tryz.prog 6 #[nval n A C] W fun e w' => e = .returned (.tuple #[.string S, .int .i64 E]) ∧ Below W.heap.size W w') ∧ (Calls Tryz.prog 7 #[nval n A C] W fun e w' => e = .returned (.tuple #[.string S, .int .i64 E]) ∧ Below W.heap.size W w') := by
    cases hR : Right n with
    | true =>
      refine ⟨bs (printed n), 0, fun hs W hW => ?_⟩
      obtain ⟨k1, k2, k3⟩ := right_ok hR hs
      exact ⟨print_ok n A C W (h.grow hW) (ht.below hW) hR k1 (by omega), rprint_ok n A C W (h.grow hW) hR k2 (by omega)⟩
    | false => exact ⟨⟨#[]⟩, 111, fun hs W hW => ⟨print_no n A C W (h.grow hW) hR, rprint_no n A C W (h.grow hW) hR⟩⟩
  have HBO : Hid _ := hboth
  have HR1 : Hid (∀ W, Below w.heap.size w W → Calls Tryz.prog 8 #[nval n A C] W (Yes W (Right n))) := fun W hW => right_c n A C W (h.grow hW)
  have HR2 : Hid (∀ W, Below w.heap.size w W → Calls Tryz.prog 9 #[nval n A C] W (Yes W (Right n))) := fun W hW => rright_c n A C W (h.grow hW)
  have hlen := h.len
  clear hal hpc hboth h
  generalize Right n = R at HR1 HR2
  unfold nval at *
  generalize n.l.length = L at *
  obtain ⟨V0, hV0⟩ : ∃ V, V = w.alloc (.cells #[.string (bs n.op), .string (bs n.s), .int .i64 n.n, .int .i64 n.a, .slice A L C] 24) := ⟨_, rfl⟩
  have hbV : Below w.heap.size w V0 := by rw [hV0]; exact b_one _ _
  have hVs : V0.heap.size = w.heap.size + 1 := by rw [hV0]; simp
  have HB : Hid (∀ W, Below V0.heap.size V0 W → Has W w.heap.size 24 #[.string (bs n.op), .string (bs n.s), .int .i64 n.n, .int .i64 n.a, .slice A L C]) := fun W hW => Has.below (by rw [hV0]; exact Has.new _ _ _) hW (by omega)
  have HW : Hid (∀ W, Below V0.heap.size V0 W → Below w.heap.size w W) := fun W hW => hbV.trans (hW.mono (by omega))
  have hp := HPC.out V0 hbV
  clear hlen
  go_enter Tryz.func3, Tryz.ntmps3
  go_wp2_with (first
    | ((go_at_call 4)
       (rw [← hV0])
       (refine hp.mono ?_)
       (rintro e w1 ⟨r, rfl, r1, r2, r3, hb1⟩)
       (obtain ⟨p0, p1, p2, p3, p4⟩ := five (HB.out _ hb1))
       (have R3 : Hid (r ≤ 300 → ∀ f, szF f n ≤ r) := r3)
       (clear r3))
    | ((go_at_call 5)
       (refine (HAL.out _ (HW.out _ hb1)).mono ?_)
       (rintro e w9 ⟨rfl, hb9⟩))
    | ((go_at_call 6)
       (have hr3 : r ≤ 300 := by omega)
       (refine (HBO.out (fun f => Nat.le_trans (R3.out hr3 f) hr3) _ (HW.out _ hb1)).1.mono ?_)
       (rintro e w2 ⟨rfl, hb2⟩)
       (have bk2 := hb1.trans (hb2.mono hb1.size))
       (obtain ⟨p0, p1, p2, p3, p4⟩ := five (HB.out _ bk2)))
    | ((go_at_call 7)
       (refine (HBO.out (fun f => Nat.le_trans (R3.out hr3 f) hr3) _ (HW.out _ bk2)).2.mono ?_)
       (rintro e w3 ⟨rfl, hb3⟩)
       (have bk3 := bk2.trans (hb3.mono bk2.size))))
  · go_ret
    exact ⟨rfl, (HW.out _ hb1).trans (hb9.mono (HW.out _ hb1).size)⟩
  · skip
    refine wp_region_held_drew (S := fun W => Has W w.heap.size 24 #[.string (bs n.op), .string (bs n.s), .int .i64 n.n, .int .i64 n.a, .slice A L C]) (by kernel_rfl) (show Has w3.drew w.heap.size 24 #[.string (bs n.op), .string (bs n.s), .int .i64 n.n, .int .i64 n.a, .slice A L C] from has_drew (HB.out _ bk3)) (fun hHeld => ?_)
    have bk4 : Below V0.heap.size V0 w3.drew := below_drew bk3
    refine callTo 0 (some 21) 5 #[] (by kernel_rfl) rfl rfl (by rfl) (by kernel_rfl) (HAL.out _ (HW.out _ bk4)) ?_
    rintro e w5 ⟨rfl, hb5⟩
    have bk5 := bk4.trans (hb5.mono bk4.size)
    refine ⟨_, rfl, HB.out _ bk5, ?_⟩
    simp only [Act.put, List.setIfInBounds_toArray, List.set_cons_zero, List.set_cons_succ]
    refine takeTo 1 (some 22) (.bool true) rfl rfl (by kernel_rfl) (by kernel_rfl) (by kernel_rfl) (fun _ _ _ h => h) (by rfl) (fun _ _ => rfl) (HB.out _ bk5) ?_
    simp only [Act.put, List.setIfInBounds_toArray, List.set_cons_zero, List.set_cons_succ]
    refine takeTo 2 (some 23) (.agg #[.string (bs n.op), .string (bs n.s), .int .i64 n.n, .int .i64 n.a, .slice A L C]) rfl rfl (by kernel_rfl) (by kernel_rfl) (by kernel_rfl) (fun _ _ _ h => h) (by rfl) (fun wz hz => run_load_node _ rfl w.heap.size rfl wz hz) (HB.out _ bk5) ?_
    simp only [Act.put, List.setIfInBounds_toArray, List.set_cons_zero, List.set_cons_succ]
    refine takeTo 4 (some 25) (.agg #[.string (bs n.op), .string (bs n.s), .int .i64 n.n, .int .i64 n.a, .slice A L C]) rfl rfl (by kernel_rfl) (by kernel_rfl) (by kernel_rfl) (fun _ _ _ h => h) (by rfl) (fun wz hz => run_load_node _ rfl w.heap.size rfl wz hz) (HB.out _ bk5) ?_
    simp only [Act.put, List.setIfInBounds_toArray, List.set_cons_zero, List.set_cons_succ]
    refine callTo 3 (some 24) 8 #[.agg #[.string (bs n.op), .string (bs n.s), .int .i64 n.n, .int .i64 n.a, .slice A L C]] (by kernel_rfl) rfl rfl (by rfl) (by kernel_rfl) (HR1.out _ (HW.out _ bk5)) ?_
    rintro e w6 ⟨rfl, hb6⟩
    have bk6 := bk5.trans (hb6.mono bk5.size)
    refine ⟨_, rfl, HB.out _ bk6, ?_⟩
    simp only [Act.put, List.setIfInBounds_toArray, List.set_cons_zero, List.set_cons_succ]
    refine callTo 5 (some 26) 9 #[.agg #[.string (bs n.op), .string (bs n.s), .int .i64 n.n, .int .i64 n.a, .slice A L C]] (by kernel_rfl) rfl rfl (by rfl) (by kernel_rfl) (HR2.out _ (HW.out _ bk6)) ?_
    rintro e w7 ⟨rfl, hb7⟩
    have bk7 := bk6.trans (hb7.mono bk6.size)
    refine ⟨_, rfl, HB.out _ bk7, ?_⟩
    simp only [Act.put, List.setIfInBounds_toArray, List.set_cons_zero, List.set_cons_succ]
    refine takeTo 6 (some 27) (.bool true) rfl rfl (by kernel_rfl) (by kernel_rfl) (by kernel_rfl) (fun _ _ _ h => h) (by rfl) (fun wz _ => run_eqB _ _ rfl R rfl rfl wz) (HB.out _ bk7) ?_
    simp only [Act.put, List.setIfInBounds_toArray, List.set_cons_zero, List.set_cons_succ]
    refine takeTo 7 (some 28) (.bool true) rfl rfl (by kernel_rfl) (by kernel_rfl) (by kernel_rfl) (fun _ _ _ h => h) (by rfl) (fun _ _ => rfl) (HB.out _ bk7) ?_
    simp only [Act.put, List.setIfInBounds_toArray, List.set_cons_zero, List.set_cons_succ]
    refine takeTo 8 (some 29) (.bool true) rfl rfl (by kernel_rfl) (by kernel_rfl) (by kernel_rfl) (fun _ _ _ h => h) (by rfl) (fun _ _ => rfl) (HB.out _ bk7) ?_
    simp only [Act.put, List.setIfInBounds_toArray, List.set_cons_zero, List.set_cons_succ]
    refine takeTo 9 (some 30) (.string S) rfl rfl (by kernel_rfl) (by kernel_rfl) (by kernel_rfl) (fun _ _ _ h => h) (by rfl) (fun _ _ => rfl) (HB.out _ bk7) ?_
    simp only [Act.put, List.setIfInBounds_toArray, List.set_cons_zero, List.set_cons_succ]
    refine takeTo 10 (some 31) (.string S) rfl rfl (by kernel_rfl) (by kernel_rfl) (by kernel_rfl) (fun _ _ _ h => h) (by rfl) (fun _ _ => rfl) (HB.out _ bk7) ?_
    simp only [Act.put, List.setIfInBounds_toArray, List.set_cons_zero, List.set_cons_succ]
    refine takeTo 11 (some 32) (.bool true) rfl rfl (by kernel_rfl) (by kernel_rfl) (by kernel_rfl) (fun _ _ _ h => h) (by rfl) (fun wz _ => run_eqS _ _ rfl S rfl rfl wz) (HB.out _ bk7) ?_
    simp only [Act.put, List.setIfInBounds_toArray, List.set_cons_zero, List.set_cons_succ]
    refine takeTo 12 (some 33) (.bool true) rfl rfl (by kernel_rfl) (by kernel_rfl) (by kernel_rfl) (fun _ _ _ h => h) (by rfl) (fun _ _ => rfl) (HB.out _ bk7) ?_
    simp only [Act.put, List.setIfInBounds_toArray, List.set_cons_zero, List.set_cons_succ]
    refine takeTo 13 (some 34) (.bool true) rfl rfl (by kernel_rfl) (by kernel_rfl) (by kernel_rfl) (fun _ _ _ h => h) (by rfl) (fun _ _ => rfl) (HB.out _ bk7) ?_
    simp only [Act.put, List.setIfInBounds_toArray, List.set_cons_zero, List.set_cons_succ]
    refine takeTo 14 (some 35) (.int .i64 E) rfl rfl (by kernel_rfl) (by kernel_rfl) (by kernel_rfl) (fun _ _ _ h => h) (by rfl) (fun _ _ => rfl) (HB.out _ bk7) ?_
    simp only [Act.put, List.setIfInBounds_toArray, List.set_cons_zero, List.set_cons_succ]
    refine takeTo 15 (some 36) (.int .i64 E) rfl rfl (by kernel_rfl) (by kernel_rfl) (by kernel_rfl) (fun _ _ _ h => h) (by rfl) (fun _ _ => rfl) (HB.out _ bk7) ?_
    simp only [Act.put, List.setIfInBounds_toArray, List.set_cons_zero, List.set_cons_succ]
    refine takeTo 16 (some 37) (.bool true) rfl rfl (by kernel_rfl) (by kernel_rfl) (by kernel_rfl) (fun _ _ _ h => h) (by rfl) (fun wz _ => run_eqE _ _ rfl E rfl rfl wz) (HB.out _ bk7) ?_
    simp only [Act.put, List.setIfInBounds_toArray, List.set_cons_zero, List.set_cons_succ]
    refine takeTo 17 (some 38) (.bool true) rfl rfl (by kernel_rfl) (by kernel_rfl) (by kernel_rfl) (fun _ _ _ h => h) (by rfl) (fun _ _ => rfl) (HB.out _ bk7) ?_
    simp only [Act.put, List.setIfInBounds_toArray, List.set_cons_zero, List.set_cons_succ]
    refine takeTo 18 (some 2) (.bool true) rfl rfl (by kernel_rfl) (by kernel_rfl) (by kernel_rfl) (fun _ _ _ h => h) (by rfl) (fun _ _ => rfl) (HB.out _ bk7) ?_
    simp only [Act.put, List.setIfInBounds_toArray, List.set_cons_zero, List.set_cons_succ]
    refine wpAnyH_done (by kernel_rfl) ?_ _
    go_wp2
    go_ret
    exact ⟨rfl, HW.out _ bk7⟩
end Go.Proofs.YtpckmllmjdafpaaGreatDoor
