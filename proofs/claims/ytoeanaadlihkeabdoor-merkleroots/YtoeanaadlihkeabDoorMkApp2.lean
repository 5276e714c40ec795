/- Appends by what they yield; a result of three, the second in a cell. -/
import Derived.Test.YtoeanaadlihkeabDoorApApp
import Derived.Test.YtoeanaadlihkeabDoorMkLem
namespace Go.Proofs.YtoeanaadlihkeabDoor
open Go.ChangeShapes Go.WideShapes Go.ChangeAt Go.RowKit
set_option linter.unusedVariables false

theorem wpList_append_at {ops : Array Oper} {rest : List Oper} {o : Oper} {a : Act} {w w' : World} {Q : Exit → Act → World → Prop} (hgd : o.guard = none) (s x : Operand) (t tn : TypeId)
    (ho : o.op = .call { callee := .builtin .append, args := #[s, x], argTypes := #[t, tn] }) (vs vx : Value) (hs : a.eval s = vs) (hx : a.eval x = vx) (v' : Value)
    (hr : ∀ ty, (Builtin.append_ #[t, tn] ty #[vs, vx]).run Tryd.prog w = .ok v' w') (h : wpList Tryd.prog ops Q rest (a.put o.dst v') w') : wpList Tryd.prog ops Q (o :: rest) a w :=
  wpList_plain hgd fun K hK => by
    unfold Oper.wp
    rw [run_append_op s x t tn ho vs vx hs hx v' hr]
    exact hK _ _ h

theorem results_mix {fn : Func} {t p u : Tmp} {ty : TypeId} (h : fn.results = #[.tmp t, .cell p ty, .tmp u]) (tmps : Array Value) (w : World) (g : Nat) (tt : TypeId) (cs : Array Value) (fr : Nat × Nat) (len : Nat) (el : TypeId)
    (hp : tmps.getD p undef = .pointer (some ⟨g, 0, none⟩)) (hg : w.heap[g]? = some (.cells cs tt fr))
    (hu : Tryd.prog.underlying ty = some (.array len el)) (hi : (Tryd.prog.info? ty).map (·.size) = some cs.size) :
    (results fn tmps).run Tryd.prog w = .ok (.tuple #[tmps.getD t undef, .agg cs, tmps.getD u undef]) w := by
  have hp' : tmps[p]?.getD undef = .pointer (some ⟨g, 0, none⟩) := by simpa using hp
  simp [results, h, hp', asAddr, run_loadVar_row w g tt ty cs fr (.array len el) hg hu rfl hi]

/-- A slice of bytes within one. -/
theorem Bytes.part {w : World} {b o len : Nat} {m : Nat → Nat} (h : Bytes w (some ⟨b, o, none⟩) len m) (s k : Nat) (hk : s + k ≤ len) : Bytes w (some ⟨b, o + s, none⟩) k (fun j => m (s + j)) := by
  rcases h with h | ⟨b', o', e, hlt, hc⟩
  · exact .inl (by omega)
  · cases e
    exact .inr ⟨b, o + s, rfl, hlt, fun j hj => by rw [Nat.add_assoc]; exact hc _ (by omega)⟩

theorem Bytes.grownTo {w w' : World} {a : Option Addr} {len : Nat} {m : Nat → Nat} {r : Option Nat} (h : Bytes w a len m) (hg : w.grownBy w' r) (hne : ∀ b off, a = some ⟨b, off, none⟩ → r ≠ some b) : Bytes w' a len m := by
  rcases h with h | ⟨b, o, rfl, hlt, hc⟩
  · exact .inl h
  · have hb := hg.block b hlt (fun e => hne b o rfl e.symm)
    exact .inr ⟨b, o, rfl, Nat.lt_of_lt_of_le hlt hg.size, fun j hj => by rw [← hc j hj]; simp only [World.cell?, hb]⟩
end Go.Proofs.YtoeanaadlihkeabDoor
