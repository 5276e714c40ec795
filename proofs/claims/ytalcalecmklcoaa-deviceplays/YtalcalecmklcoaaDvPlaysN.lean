/- DevicePlays, walked: no device. -/
import Derived.Test.YtalcalecmklcoaaRfPb
import Derived.Test.YtalcalecmklcoaaDvAlive
namespace Go.Proofs.Ytalcalecmklcoaa
open Go.ChangeShapes Go.WideShapes Go.ChangeAt Go.RowKit
set_option linter.unusedVariables false

variable {D : DevRep}

theorem run_gei {o : Oper} {a : Act} (x y : Operand) (ho : o.op = .binOp .geq 3 x y 3) (p q : Int) (hx : a.eval x = .int .i64 p) (hy : a.eval y = .int .i64 q) (b : Bool) (h : decide (q ≤ p) = b) (w : World) : (execOp a.eval o).run Try.prog w = .ok (.value (.bool b)) w := by
  subst h
  unfold execOp
  simp only [ho, hx, hy]
  go_simp

theorem run_lei {o : Oper} {a : Act} (x y : Operand) (ho : o.op = .binOp .leq 3 x y 3) (p q : Int) (hx : a.eval x = .int .i64 p) (hy : a.eval y = .int .i64 q) (b : Bool) (h : decide (p ≤ q) = b) (w : World) : (execOp a.eval o).run Try.prog w = .ok (.value (.bool b)) w := by
  subst h
  unfold execOp
  simp only [ho, hx, hy]
  go_simp

set_option maxRecDepth 100000 in
set_option maxHeartbeats 8000000 in
theorem plays_no (hD : DevOk D) (w : World) (z : Int) (hz : i64ok z) (hno : ¬ (1 ≤ z ∧ z ≤ 2048)) (sa : Option Addr) (len scap : Nat) (hlen : len ≤ 9223372036854775807) :
    Calls Try.prog 3 #[.int .i64 z, .slice sa len scap] w fun e w' => e = .returned (.bool true) ∧ Below w.heap.size w w' := by
  have hnew := hD.newNo z w hz hno
  by_cases z1 : 1 ≤ z
  · have d1 : decide ((1 : Int) ≤ z) = true := decide_eq_true z1
    have d2 : decide (z ≤ (2048 : Int)) = false := decide_eq_false (fun h => hno ⟨z1, h⟩)
    clear z1 hno hz
    go_enter Try.func3, Try.ntmps3
    go_wp2_with (first
      | ((go_at_call 9)
         (refine hnew.mono ?_)
         (rintro e w1 ⟨rfl, hb1⟩)
         (have hal := dalive_any hD w1)
         (clear hnew))
      | ((go_at_call 10)
         (refine hal.mono ?_)
         (rintro e w2 ⟨rfl, hb2⟩)
         (clear hal))
      | (refine at_dst 29 rfl ?_; refine wpList_is (some 29) (.bool true) rfl (by rfl) (run_gei (.tmp 28) _ rfl z 1 rfl rfl true d1 _) ?_)
      | (refine at_dst 32 rfl ?_; refine wpList_is (some 32) (.bool false) rfl (by rfl) (run_lei (.tmp 31) _ rfl z 2048 rfl rfl false d2 _) ?_)
      | (refine at_dst 57 rfl ?_; refine wpList_is (some 57) (.agg #[.int .i64 z, nilS, nilS, nilS, .bool false, .int .i64 0]) rfl (by rfl) (by kernel_rfl) ?_)
      | (refine at_dst 58 rfl ?_; refine wpList_is_w (some 58) (ptr w2.heap.size) (w2.alloc (.cells #[.int .i64 z, nilS, nilS, nilS, .bool false, .int .i64 0] 32)) rfl (by rfl) (by kernel_rfl) ?_))
    have hb3 : Below w.heap.size w (w2.alloc (.cells #[.int .i64 z, nilS, nilS, nilS, .bool false, .int .i64 0] 32)) := (hb1.trans (hb2.mono hb1.size)).trans ((Below.refl _ _).alloc (Nat.le_trans hb1.size hb2.size) _)
    go_loopw [5, 8, 9] (fun dv qv iv wr => dv = .pointer none ∧ qv = ptr w2.heap.size ∧ iv = .int .i64 0 ∧ Below w.heap.size w wr) (fun _ _ _ _ => 0)
    case atStart => exact ⟨rfl, rfl, rfl, hb3⟩
    case round =>
      obtain ⟨rfl, rfl, rfl, hb⟩ := hrel
      by_cases hl : 0 < len
      · have i0 : (0 : Int) < (len : Int) := by omega
        go_wp2
        go_ret
        exact ⟨rfl, hb⟩
      · have i0 : ¬ (0 : Int) < (len : Int) := by omega
        go_wp2
        go_ret
        exact ⟨rfl, hb⟩
  · have d1 : decide ((1 : Int) ≤ z) = false := decide_eq_false z1
    have d2 : True := trivial
    clear z1 hno hz
    go_enter Try.func3, Try.ntmps3
    go_wp2_with (first
      | ((go_at_call 9)
         (refine hnew.mono ?_)
         (rintro e w1 ⟨rfl, hb1⟩)
         (have hal := dalive_any hD w1)
         (clear hnew))
      | ((go_at_call 10)
         (refine hal.mono ?_)
         (rintro e w2 ⟨rfl, hb2⟩)
         (clear hal))
      | (refine at_dst 29 rfl ?_; refine wpList_is (some 29) (.bool false) rfl (by rfl) (run_gei (.tmp 28) _ rfl z 1 rfl rfl false d1 _) ?_)
      | (refine at_dst 57 rfl ?_; refine wpList_is (some 57) (.agg #[.int .i64 z, nilS, nilS, nilS, .bool false, .int .i64 0]) rfl (by rfl) (by kernel_rfl) ?_)
      | (refine at_dst 58 rfl ?_; refine wpList_is_w (some 58) (ptr w2.heap.size) (w2.alloc (.cells #[.int .i64 z, nilS, nilS, nilS, .bool false, .int .i64 0] 32)) rfl (by rfl) (by kernel_rfl) ?_))
    have hb3 : Below w.heap.size w (w2.alloc (.cells #[.int .i64 z, nilS, nilS, nilS, .bool false, .int .i64 0] 32)) := (hb1.trans (hb2.mono hb1.size)).trans ((Below.refl _ _).alloc (Nat.le_trans hb1.size hb2.size) _)
    go_loopw [5, 8, 9] (fun dv qv iv wr => dv = .pointer none ∧ qv = ptr w2.heap.size ∧ iv = .int .i64 0 ∧ Below w.heap.size w wr) (fun _ _ _ _ => 0)
    case atStart => exact ⟨rfl, rfl, rfl, hb3⟩
    case round =>
      obtain ⟨rfl, rfl, rfl, hb⟩ := hrel
      by_cases hl : 0 < len
      · have i0 : (0 : Int) < (len : Int) := by omega
        go_wp2
        go_ret
        exact ⟨rfl, hb⟩
      · have i0 : ¬ (0 : Int) < (len : Int) := by omega
        go_wp2
        go_ret
        exact ⟨rfl, hb⟩
end Go.Proofs.Ytalcalecmklcoaa
