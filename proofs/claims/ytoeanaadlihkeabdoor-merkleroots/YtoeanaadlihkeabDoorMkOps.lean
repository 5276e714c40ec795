/- What single operations yield, for regions that draw their order. -/
import Derived.Test.YtoeanaadlihkeabDoorMkApp2
import Derived.Test.YtoeanaadlihkeabDoorSame6
namespace Go.Proofs.YtoeanaadlihkeabDoor
open Go.ChangeShapes Go.WideShapes Go.ChangeAt Go.RowKit
set_option linter.unusedVariables false

theorem run_conv_str {o : Oper} {a : Act} (x : Operand) (ho : o.op = .convert 22 9 x) (v : Value) (hx : a.eval x = v) (s : ByteArray) (w : World) (h : (convert 22 9 v).run Tryd.prog w = .ok (.string s) w) : (execOp a.eval o).run Tryd.prog w = .ok (.value (.string s)) w := by
  unfold execOp
  simp only [ho, hx, Sem.run_bind, h]
  rfl

theorem slice_mid (b o cap L q m : Nat) (w : World) (h1 : q + m ≤ cap) (h2 : 0 < m) : (Instr.sliceAt 22 (.slice (some ⟨b, o, none⟩) L cap) (some (.int .i64 (q : Int))) (some (.int .i64 ((q : Int) + (m : Int)))) none).run Tryd.prog w = .ok (.slice (some ⟨b, o + q, none⟩) m (cap - q)) w := by
  have i5 : ¬ cap = q := by omega
  simp [Instr.sliceAt, Instr.slice, Instr.sliceBounds, run_underlying Tryd.underlying22, go_sem, i5]
  rw [if_pos (by omega), if_pos (by omega), show ((q : Int) + (m : Int)).toNat - q = m by omega]


theorem run_slice_midX {o : Oper} {a : Act} (x l h : Operand) (ho : o.op = .slice 22 x (some l) (some h) none) (b off L cap q m : Nat) (hx : a.eval x = .slice (some ⟨b, off, none⟩) L cap) (hl : a.eval l = .int .i64 (q : Nat)) (hh : a.eval h = .int .i64 ((q + m : Nat) : Int)) (h1 : q + m ≤ cap) (h2 : 0 < m) (w : World) :
    (execOp a.eval o).run Tryd.prog w = .ok (.value (.slice (some ⟨b, off + q, none⟩) m (cap - q))) w := by
  have e := slice_mid b off cap L q m w h1 h2
  rw [show ((q : Int) + (m : Int)) = ((q + m : Nat) : Int) by omega] at e
  unfold execOp
  simp only [ho, hx, hl, hh, Option.map_some, Option.map_none, Sem.run_bind, e, Result.andThen_ok, Sem.run_pure]

theorem run_neq_strs {o : Oper} {a : Act} (x y : Operand) (ho : o.op = .binOp .neq 9 x y 9) (s t : List UInt8) (hx : a.eval x = .string ⟨s.toArray⟩) (hy : a.eval y = .string ⟨t.toArray⟩) (c : Bool) (hc : (s == t) = !c) (w : World) : (execOp a.eval o).run Tryd.prog w = .ok (.value (.bool c)) w := by
  have hc' : (s != t) = c := by rw [bne, hc, Bool.not_not]
  clear hc
  subst hc'
  unfold execOp
  simp only [ho, hx, hy]
  go_simp
  simp [bne]

theorem run_addX {o : Oper} {a : Act} (x y : Operand) (ho : o.op = .binOp .add 3 x y 3) (p q : Nat) (hx : a.eval x = .int .i64 (p : Nat)) (hy : a.eval y = .int .i64 (q : Nat)) (hp : p ≤ 10000) (hq : q ≤ 10000) (w : World) :
    (execOp a.eval o).run Tryd.prog w = .ok (.value (.int .i64 ((p + q : Nat) : Int))) w := by
  have hw : IntKind.i64.wrap ((p : Int) + (q : Int)) = (p : Int) + (q : Int) := by rw [IntKind.wrap_i64]; omega
  unfold execOp
  simp only [ho, hx, hy]
  go_simp

/-- One that is guarded and not wanted. -/
theorem skipTo {P : Program} {ops : Array Oper} {Q : Exit → Act → World → Prop} {md : Region.Mode} {S : World → Prop} {oi : Oper} (i : Nat) (d : Option Tmp) {fuel : Nat} {listed : Array Bool} {a : Act} {w : World} (hi : ops[i]? = some oi) (hd : oi.dst = d)
    (hs : Region.noSelect ops = true) (hf : Region.free md ops listed i = true) (hr : (Region.ready md ops listed).contains i = true)
    (hQ : ∀ c a w, Q (.panic c) (a.put d undef) w → Q (.panic c) a w) (hw : Region.wanted oi (yielded ops a.tmps) = false) (hS : S w)
    (h : wpAnyH P md ops Q S fuel (listed.setIfInBounds i true) (a.put d undef) w) : wpAnyH P md ops Q S (fuel + 1) listed a w := by
  subst hd
  exact wpAnyH_take hi hs hf hr hQ (.inr ⟨hw, rfl⟩) hS h

theorem run_at_slice {o : Oper} {a : Act} (ty : TypeId) (x i : Operand) (ho : o.op = .indexAddr ty x i) (g off k n cap : Nat) (e : TypeId) (hx : a.eval x = .slice (some ⟨g, off, none⟩) n cap) (hi : a.eval i = .int .i64 (k : Nat))
    (hu : Tryd.prog.underlying ty = some (.slice e)) (hs : (Tryd.prog.info? e).map (·.size) = some 1) (hk : k < n) (w : World) : (execOp a.eval o).run Tryd.prog w = .ok (.value (.pointer (some ⟨g, off + k, none⟩))) w := by
  unfold execOp
  cases hq : Tryd.prog.info? e with
  | none => simp [hq] at hs
  | some inf =>
    have hz : inf.size = 1 := by simpa [hq] using hs
    simp only [ho, hx, hi]
    simp [Instr.indexAt, Instr.sureAddr, run_underlying hu, asIntOf, sizeOf, typeInfo, hq, hz, Addr.add_mid, go_sem]
    intro h
    omega

theorem run_load_row1 {o : Oper} {a : Act} (x : Operand) (ho : o.op = .load 22 x) (p : Addr) (hx : a.eval x = .pointer (some p)) (v : Value) (w : World) (h : w.cell? p = some v) : (execOp a.eval o).run Tryd.prog w = .ok (.value v) w := by
  unfold execOp
  simp only [ho, hx]
  go_simp

theorem run_len_of {o : Oper} {a : Act} (ty e : TypeId) (hu : Tryd.prog.underlying ty = some (.slice e)) (x : Operand) (ho : o.op = .call { callee := .builtin .len, args := #[x], argTypes := #[ty] }) (A : Option Addr) (L C : Nat) (hx : a.eval x = .slice A L C) (w : World) :
    (execOp a.eval o).run Tryd.prog w = .ok (.value (.int .i64 (L : Nat))) w := by
  have hr : (Builtin.len_ #[ty] o.type #[.slice A L C]).run Tryd.prog w = .ok (.int .i64 (L : Nat)) w := by
    simp [Builtin.len_, run_underlying hu, go_sem, goInt]
  unfold execOp
  simp [ho, resolve, invoke, builtin, hx, hr]

theorem run_less {o : Oper} {a : Act} (x y : Operand) (ho : o.op = .binOp .lss 3 x y 3) (p q : Nat) (hx : a.eval x = .int .i64 (p : Nat)) (hy : a.eval y = .int .i64 (q : Nat)) (c : Bool) (h : decide (p < q) = c) (w : World) : (execOp a.eval o).run Tryd.prog w = .ok (.value (.bool c)) w := by
  subst h
  have e : decide ((p : Int) < (q : Int)) = decide (p < q) := by simp
  unfold execOp
  simp only [ho, hx, hy]
  go_simp


theorem run_eql_strs {o : Oper} {a : Act} (x y : Operand) (ho : o.op = .binOp .eql 9 x y 9) (s t : List UInt8) (hx : a.eval x = .string ⟨s.toArray⟩) (hy : a.eval y = .string ⟨t.toArray⟩) (c : Bool) (hc : (s == t) = c) (w : World) : (execOp a.eval o).run Tryd.prog w = .ok (.value (.bool c)) w := by
  subst hc
  unfold execOp
  simp only [ho, hx, hy]
  go_simp

theorem strN_same {f g : Nat → Nat} {n : Nat} (h : ∀ j, j < n → f j = g j) : strN f n = strN g n := by
  unfold strN
  apply List.map_congr_left
  intro j hj
  rw [h j (by simpa using hj)]

theorem strN_eq {f g : Nat → Nat} {n m : Nat} (hf : ∀ j, f j < 256) (hg : ∀ j, g j < 256) : strN f n = strN g m ↔ n = m ∧ ∀ j, j < n → f j = g j := by
  constructor
  · intro h
    have hl : (strN f n).length = (strN g m).length := by rw [h]
    have hl' : n = m := by simpa [strN] using hl
    refine ⟨hl', fun j hj => ?_⟩
    have h1 : (strN f n)[j]? = (strN g m)[j]? := by rw [h]
    have h2 : UInt8.ofNat (f j) = UInt8.ofNat (g j) := by simpa [strN, hj, ← hl'] using h1
    have h3 := congrArg UInt8.toNat h2
    have a1 := hf j
    have a2 := hg j
    simpa [UInt8.toNat_ofNat', Nat.mod_eq_of_lt a1, Nat.mod_eq_of_lt a2] using h3
  · rintro ⟨rfl, h⟩
    exact strN_same h
end Go.Proofs.YtoeanaadlihkeabDoor
