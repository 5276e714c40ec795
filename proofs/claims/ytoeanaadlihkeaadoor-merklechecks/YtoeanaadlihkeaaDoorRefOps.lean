/- Operations on words of 32 bits, said outright. -/
import Derived.Test.YtoeanaadlihkeaaDoorRegTo
import Derived.Test.YtoeanaadlihkeaaDoorRefTurn
import Derived.Test.YtoeanaadlihkeaaDoorShaNext
namespace Go.Proofs.YtoeanaadlihkeaaDoor
open Go.ChangeShapes Go.WideShapes Go.ChangeAt Go.RowKit
set_option linter.unusedVariables false

theorem one_u32 : (Tryd.prog.info? 57).map (·.size) = some 1 := by kernel_rfl

theorem add_mid (b o j : Nat) : (⟨b, o, none⟩ : Addr).add j = ⟨b, o + j, none⟩ := by unfold Addr.add; split <;> simp_all

theorem run_indexA {o : Oper} {a : Act} (ty : TypeId) (x i : Operand) (ho : o.op = .indexAddr ty x i) (g off k n : Nat) (e : TypeId) (hx : a.eval x = .pointer (some ⟨g, off, none⟩)) (hi : a.eval i = .int .i64 (k : Nat))
    (hu : Tryd.prog.underlying ty = some (.array n e)) (hs : (Tryd.prog.info? e).map (·.size) = some 1) (hk : k < n) (w : World) : (execOp a.eval o).run Tryd.prog w = .ok (.value (.pointer (some ⟨g, off + k, none⟩))) w := by
  unfold execOp
  cases hq : Tryd.prog.info? e with
  | none => simp [hq] at hs
  | some inf =>
    have hz : inf.size = 1 := by simpa [hq] using hs
    simp only [ho, hx, hi]
    simp [Instr.indexAt, Instr.sureAddr, run_underlying hu, asIntOf, sizeOf, typeInfo, hq, hz, add_mid, go_sem]
    intro h
    omega

theorem run_indexS {o : Oper} {a : Act} (ty : TypeId) (x i : Operand) (ho : o.op = .indexAddr ty x i) (g off k n cap : Nat) (e : TypeId) (hx : a.eval x = .slice (some ⟨g, off, none⟩) n cap) (hi : a.eval i = .int .i64 (k : Nat))
    (hu : Tryd.prog.underlying ty = some (.slice e)) (hs : (Tryd.prog.info? e).map (·.size) = some 1) (hk : k < n) (w : World) : (execOp a.eval o).run Tryd.prog w = .ok (.value (.pointer (some ⟨g, off + k, none⟩))) w := by
  unfold execOp
  cases hq : Tryd.prog.info? e with
  | none => simp [hq] at hs
  | some inf =>
    have hz : inf.size = 1 := by simpa [hq] using hs
    simp only [ho, hx, hi]
    simp [Instr.indexAt, Instr.sureAddr, run_underlying hu, asIntOf, sizeOf, typeInfo, hq, hz, add_mid, go_sem]
    intro h
    omega

theorem run_load_u32 {o : Oper} {a : Act} (x : Operand) (ho : o.op = .load 57 x) (g off : Nat) (hx : a.eval x = .pointer (some ⟨g, off, none⟩)) (v : Value) (w : World) (h : w.cell? ⟨g, off, none⟩ = some v) : (execOp a.eval o).run Tryd.prog w = .ok (.value v) w := by
  unfold execOp
  simp only [ho, hx]
  go_simp

theorem run_xor32 {o : Oper} {a : Act} (x y : Operand) (ho : o.op = .binOp .xor 57 x y 57) (p q : Nat) (hx : a.eval x = .int .u32 (p : Nat)) (hy : a.eval y = .int .u32 (q : Nat)) (hp : p < 4294967296) (hq : q < 4294967296) (w : World) : (execOp a.eval o).run Tryd.prog w = .ok (.value (.int .u32 ((p ^^^ q : Nat) : Int))) w := by
  have e := u32_xor_nat p q hp hq
  unfold execOp
  simp only [ho, hx, hy]
  go_simp

theorem run_and32 {o : Oper} {a : Act} (x y : Operand) (ho : o.op = .binOp .and 57 x y 57) (p q : Nat) (hx : a.eval x = .int .u32 (p : Nat)) (hy : a.eval y = .int .u32 (q : Nat)) (hp : p < 4294967296) (hq : q < 4294967296) (w : World) : (execOp a.eval o).run Tryd.prog w = .ok (.value (.int .u32 ((p &&& q : Nat) : Int))) w := by
  have e := u32_and_nat p q hp hq
  unfold execOp
  simp only [ho, hx, hy]
  go_simp

theorem run_add32 {o : Oper} {a : Act} (x y : Operand) (ho : o.op = .binOp .add 57 x y 57) (p q : Nat) (hx : a.eval x = .int .u32 (p : Nat)) (hy : a.eval y = .int .u32 (q : Nat)) (hp : p < 4294967296) (hq : q < 4294967296) (w : World) : (execOp a.eval o).run Tryd.prog w = .ok (.value (.int .u32 ((add32 p q : Nat) : Int))) w := by
  unfold execOp
  simp only [ho, hx, hy]
  go_simp
  rw [← Int.natCast_add, wrap_u32]
  rfl

theorem run_build8 {o : Oper} {a : Act} (x0 x1 x2 x3 x4 x5 x6 x7 : Operand) (ho : o.op = .build 58 #[(0, x0), (1, x1), (2, x2), (3, x3), (4, x4), (5, x5), (6, x6), (7, x7)]) (f : Nat → Nat)
    (h0 : a.eval x0 = .int .u32 (f 0 : Nat)) (h1 : a.eval x1 = .int .u32 (f 1 : Nat)) (h2 : a.eval x2 = .int .u32 (f 2 : Nat)) (h3 : a.eval x3 = .int .u32 (f 3 : Nat)) (h4 : a.eval x4 = .int .u32 (f 4 : Nat)) (h5 : a.eval x5 = .int .u32 (f 5 : Nat)) (h6 : a.eval x6 = .int .u32 (f 6 : Nat)) (h7 : a.eval x7 = .int .u32 (f 7 : Nat)) (w : World) :
    (execOp a.eval o).run Tryd.prog w = .ok (.value (.agg (cellsN .u32 8 f))) w := by
  rw [show cellsN .u32 8 f = #[.int .u32 (f 0 : Nat), .int .u32 (f 1 : Nat), .int .u32 (f 2 : Nat), .int .u32 (f 3 : Nat), .int .u32 (f 4 : Nat), .int .u32 (f 5 : Nat), .int .u32 (f 6 : Nat), .int .u32 (f 7 : Nat)] from rfl]
  unfold execOp
  simp only [ho, h0, h1, h2, h3, h4, h5, h6, h7, List.map_toArray, List.map_cons, List.map_nil]
  go_simp

/-- One that yields, guarded or not. -/
theorem wpList_val {ops : Array Oper} {rest : List Oper} {o : Oper} {a : Act} {w : World} {Q : Exit → Act → World → Prop} (d : Option Tmp) (v : Value) (hd : o.dst = d) (hw : Region.wanted o (yielded ops a.tmps) = true)
    (hrun : (execOp a.eval o).run Tryd.prog w = .ok (.value v) w) (h : wpList Tryd.prog ops Q rest (a.put d v) w) : wpList Tryd.prog ops Q (o :: rest) a w :=
  wpList_step fun K hK => by
    subst hd
    rw [if_pos hw]
    unfold Oper.wp
    rw [hrun]
    exact hK _ _ h

theorem not32 (e : Nat) (he : e < 4294967296) : e ^^^ 4294967295 = 4294967295 - e := by
  rw [Nat.xor_comm, show (4294967295 : Nat) = 2 ^ 32 - 1 from rfl]
  apply Nat.eq_of_testBit_eq
  intro i
  rw [Nat.testBit_xor, Nat.testBit_two_pow_sub_one, show 2 ^ 32 - 1 - e = 2 ^ 32 - (e + 1) from by omega, Nat.testBit_two_pow_sub_succ (by omega)]
  by_cases hi : i < 32
  · simp [hi]
  · simp [hi]
    exact Nat.testBit_lt_two_pow (Nat.lt_of_lt_of_le (show e < 2 ^ 32 from he) (Nat.pow_le_pow_right (by decide) (by omega)))

theorem run_not32 {o : Oper} {a : Act} (x : Operand) (ho : o.op = .binOp .xor 57 x (.const (.int .u32 4294967295)) 57) (p : Nat) (hx : a.eval x = .int .u32 (p : Nat)) (hp : p < 4294967296) (w : World) : (execOp a.eval o).run Tryd.prog w = .ok (.value (.int .u32 ((4294967295 - p : Nat) : Int))) w := by
  have := run_xor32 x (.const (.int .u32 4294967295)) ho p 4294967295 hx rfl hp (by omega) w
  rwa [not32 p hp] at this
end Go.Proofs.YtoeanaadlihkeaaDoor
