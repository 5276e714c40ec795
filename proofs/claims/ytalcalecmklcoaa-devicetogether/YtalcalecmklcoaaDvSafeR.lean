/- What single operations of DeviceSafe yield. -/
import Derived.Test.YtalcalecmklcoaaDvMay
namespace Go.Proofs.Ytalcalecmklcoaa
open Go.ChangeShapes Go.WideShapes Go.ChangeAt Go.RowKit
set_option linter.unusedVariables false

theorem run_eql_err {o : Oper} {a : Act} (x y : Operand) (ho : o.op = .binOp .eql 24 x y 24) (z : Int) (hx : a.eval x = .int .i64 z) (hy : a.eval y = .int .i64 0) (c : Bool) (h : decide (z = 0) = c) (w : World) : (execOp a.eval o).run Try.prog w = .ok (.value (.bool c)) w := by
  have e : (z == 0) = c := by rw [← h]; rfl
  unfold execOp
  simp only [ho, hx, hy]
  go_simp

theorem run_index_may {o : Oper} {a : Act} (x i : Operand) (ho : o.op = .indexAddr 54 x i) (g k : Nat) (hx : a.eval x = .pointer (some ⟨g, 0, none⟩)) (hi : a.eval i = .int .i64 (k : Nat)) (hk : k < 8) (w : World) : (execOp a.eval o).run Try.prog w = .ok (.value (.pointer (some ⟨g, k, none⟩))) w := by
  have i0 : (k : Int) < 8 := by omega
  have i1 : (0 : Int) ≤ (k : Int) := by omega
  unfold execOp
  simp only [ho, hx, hi]
  go_simp

theorem run_load_V {o : Oper} {a : Act} (x : Operand) (ho : o.op = .load 53 x) (p : Addr) (hx : a.eval x = .pointer (some p)) (v : Value) (w : World) (h : w.cell? p = some v) : (execOp a.eval o).run Try.prog w = .ok (.value v) w := by
  unfold execOp
  simp only [ho, hx]
  go_simp

theorem run_build_V {o : Oper} {a : Act} (x : Operand) (ho : o.op = .buildSlice 53 1 #[(0, x)]) (g : Nat) (hx : a.eval x = .slice (some ⟨g, 0, none⟩) 64 64) (w : World) : (execOp a.eval o).run Try.prog w = .ok (.value (.slice (some ⟨w.heap.size, 0, none⟩) 1 1)) (w.alloc (.cells #[.slice (some ⟨g, 0, none⟩) 64 64] 33)) := by
  unfold execOp
  simp only [ho, List.map_toArray, List.map_cons, List.map_nil, hx]
  go_simp

theorem run_append_V {o : Oper} {a : Act} {w w' : World} (s x : Operand) (ho : o.op = .call { callee := .builtin .append, args := #[s, x], argTypes := #[53, 53] }) (vs vx : Value) (hs : a.eval s = vs) (hx : a.eval x = vx) (v' : Value) (ty : TypeId) (hty : o.type = ty)
    (hr : (Builtin.append_ #[53, 53] ty #[vs, vx]).run Try.prog w = .ok v' w') : (execOp a.eval o).run Try.prog w = .ok (.value v') w' := by
  subst hty
  unfold execOp
  simp [ho, resolve, invoke, builtin, hs, hx, hr]

theorem run_store_V {o : Oper} {a : Act} (x y : Operand) (ho : o.op = .store 53 x y) (p : Addr) (hx : a.eval x = .pointer (some p)) (A : Option Addr) (n c : Nat) (hy : a.eval y = .slice A n c) (w : World) (u : Value) (h : w.cell? p = some u) (hf : w.frozen? p = false) : (execOp a.eval o).run Try.prog w = .ok .skip (w.setCell p (.slice A n c)) := by
  unfold execOp
  simp only [ho, hx, hy]
  go_simp

theorem wr_in (s : DS) (i : Int) (L : Nat) (h : wrErr s i L = 0) (hn : s.n = 8) : ∃ I : Nat, I < 8 ∧ i = (I : Int) := by
  unfold wrErr at h
  split at h
  · cases h
  · split at h
    · cases h
    · exact ⟨i.toNat, by omega, by omega⟩
end Go.Proofs.Ytalcalecmklcoaa
