/- A script that came in: a slice of structs. -/
import Derived.Test.YtalcalecmklcoaaDvAlive
import Derived.Test.YtalcalecmklcoaaBasReg
import Derived.Test.YtalcalecmklcoaaBasSame
namespace Go.Proofs.Ytalcalecmklcoaa
open Go.ChangeShapes Go.WideShapes Go.ChangeAt Go.RowKit
set_option linter.unusedVariables false

/-- One of a script: its kind, its number, its bytes, what it keeps. -/
structure OpV where
  k : Int
  i : Int
  a : Option Addr
  L : Nat
  C : Nat
  b : Nat → Nat
  ka : Option Addr
  kl : Nat
  kc : Nat
  kb : Nat → Bool

/-- Bytes that came in. -/
structure ByIn (w : World) (a : Option Addr) (L C : Nat) (b : Nat → Nat) : Prop where
  le : L ≤ C
  max : L ≤ maxLen
  nil : a = none → L = 0 ∧ C = 0
  at_ : Bytes w a L b
  byt : ∀ j, b j < 256
  lt : True

/-- Bools that came in. -/
structure BoIn (w : World) (a : Option Addr) (L C : Nat) (b : Nat → Bool) : Prop where
  le : L ≤ C
  max : L ≤ maxLen
  at_ : Bools w a L b

structure OpIn (w : World) (x o : Nat) (v : OpV) : Prop where
  c0 : w.cell? ⟨x, o, none⟩ = some (.int .i64 v.k)
  c1 : w.cell? ⟨x, o + 1, none⟩ = some (.int .i64 v.i)
  c2 : w.cell? ⟨x, o + 2, none⟩ = some (.slice v.a v.L v.C)
  c3 : w.cell? ⟨x, o + 3, none⟩ = some (.slice v.ka v.kl v.kc)
  ok : i64ok v.k
  oi : i64ok v.i
  by_ : ByIn w v.a v.L v.C v.b
  bo : BoIn w v.ka v.kl v.kc v.kb

def Script (w : World) (a : Option Addr) (len : Nat) (O : Nat → OpV) : Prop := len ≤ maxLen ∧ ∀ i, i < len → ∃ x o, a = some ⟨x, o, none⟩ ∧ x < w.heap.size ∧ OpIn w x (o + i * 4) (O i)

theorem Bools.below {w w' : World} {a : Option Addr} {len B : Nat} {m : Nat → Bool} (h : Bools w a len m) (hb : Below B w w') (hB : w.heap.size ≤ B) : Bools w' a len m := by
  rcases h with h | ⟨b, off, h1, h2, h3⟩
  · exact .inl h
  · exact .inr ⟨b, off, h1, Nat.lt_of_lt_of_le h2 hb.size, fun j hj => (hb.cell (show b < B by omega)).trans (h3 j hj)⟩

theorem ByIn.below {w w' : World} {a : Option Addr} {L C B : Nat} {b : Nat → Nat} (h : ByIn w a L C b) (hb : Below B w w') (hB : w.heap.size ≤ B) : ByIn w' a L C b :=
  ⟨h.le, h.max, h.nil, h.at_.below hb hB, h.byt, trivial⟩

theorem BoIn.below {w w' : World} {a : Option Addr} {L C B : Nat} {b : Nat → Bool} (h : BoIn w a L C b) (hb : Below B w w') (hB : w.heap.size ≤ B) : BoIn w' a L C b := ⟨h.le, h.max, h.at_.below hb hB⟩

theorem OpIn.below {w w' : World} {x o B : Nat} {v : OpV} (h : OpIn w x o v) (hx : x < w.heap.size) (hb : Below B w w') (hB : w.heap.size ≤ B) : OpIn w' x o v :=
  ⟨(hb.cell (show x < B by omega)).trans h.c0, (hb.cell (show x < B by omega)).trans h.c1, (hb.cell (show x < B by omega)).trans h.c2, (hb.cell (show x < B by omega)).trans h.c3, h.ok, h.oi, h.by_.below hb hB, h.bo.below hb hB⟩

theorem run_at_op {o : Oper} {a : Act} (x i : Operand) (ho : o.op = .indexAddr 22 x i) (g off k n cap : Nat) (hx : a.eval x = .slice (some ⟨g, off, none⟩) n cap) (hi : a.eval i = .int .i64 (k : Nat)) (hk : k < n) (w : World) : (execOp a.eval o).run Try.prog w = .ok (.value (.pointer (some ⟨g, off + k * 4, none⟩))) w := by
  unfold execOp
  cases hq : Try.prog.info? 36 with
  | none => exact absurd hq (by have h : (Try.prog.info? 36).isSome = true := (by kernel_rfl); intro e; rw [e] at h; cases h)
  | some inf =>
    have hz : inf.size = 4 := by
      have h : (Try.prog.info? 36).map (·.size) = some 4 := by kernel_rfl
      simpa [hq] using h
    simp only [ho, hx, hi]
    simp [Instr.indexAt, Instr.sureAddr, run_underlying Try.underlying22, asIntOf, sizeOf, typeInfo, hq, hz, Addr.add_mid, go_sem]
    intro h
    omega

theorem run_load_i {o : Oper} {a : Act} (x : Operand) (ho : o.op = .load 3 x) (p : Addr) (hx : a.eval x = .pointer (some p)) (v : Value) (w : World) (h : w.cell? p = some v) : (execOp a.eval o).run Try.prog w = .ok (.value v) w := by
  unfold execOp
  simp only [ho, hx]
  go_simp
end Go.Proofs.Ytalcalecmklcoaa
