/- min of a length and 64. -/
import Derived.Test.YtalcalecmklcoaaDvGoing
namespace Go.Proofs.Ytalcalecmklcoaa
open Go.ChangeShapes Go.WideShapes Go.ChangeAt Go.RowKit
set_option linter.unusedVariables false
theorem run_min64 {o : Oper} {a : Act} (x : Operand) (ho : o.op = .call { callee := .builtin .min, args := #[x, .const (.int .i64 64)], argTypes := #[3, 3] }) (n L : Nat) (hL : L = min n 64) (hx : a.eval x = .int .i64 (n : Nat)) (w : World) : (execOp a.eval o).run Try.prog w = .ok (.value (.int .i64 (L : Nat))) w := by
  unfold execOp
  simp only [ho, resolve, invoke, builtin, List.map_toArray, List.map_cons, List.map_nil, hx]
  by_cases h : n < 64
  · have e : L = n := by omega
    have h' : (n : Int) < 64 := by omega
    rw [e]
    go_simp
    omega
  · have e : L = 64 := by omega
    have h' : ¬ (n : Int) < 64 := by omega
    rw [e]
    go_simp
    omega
end Go.Proofs.Ytalcalecmklcoaa
