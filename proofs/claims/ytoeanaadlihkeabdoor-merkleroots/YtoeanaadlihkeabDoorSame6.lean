/- The reference's Same; lengths and pieces of slices, said outright. -/
import Derived.Test.YtoeanaadlihkeabDoorShaBl
namespace Go.Proofs.YtoeanaadlihkeabDoor
open Go.ChangeShapes Go.WideShapes Go.ChangeAt Go.RowKit
set_option linter.unusedVariables false

/-! Bytes as strings -/
def strN (f : Nat → Nat) (n : Nat) : List UInt8 := (List.range n).map fun j => UInt8.ofNat (f j)

theorem conv_bytesN {w : World} {a : Option Addr} {len : Nat} {f : Nat → Nat} (cap : Nat) (h : Bytes w a len f) (hf : ∀ j, f j < 256) (hn : a = none → len = 0) :
    (convert 22 9 (.slice a len cap)).run Tryd.prog w = .ok (.string ⟨(strN f len).toArray⟩) w := by
  have hl : (strN f len).length = len := by simp [strN]
  cases a with
  | none =>
    obtain rfl := hn rfl
    rw [run_convert_bytes_string w 22 9 5 none 0 cap Tryd.underlying22 Tryd.underlying5 Tryd.underlying9]
    rfl
  | some x =>
    have h' := run_convert_bytes_back (P := Tryd.prog) w 22 9 5 x cap (strN f len) Tryd.underlying22 Tryd.underlying5 Tryd.underlying9 (by
      intro j hj
      rw [hl] at hj
      rcases h with h0 | ⟨b, off, e, _, hc⟩
      · omega
      · obtain rfl : x = ⟨b, off, none⟩ := Option.some.inj e
        rw [show (⟨b, off, none⟩ : Addr).add j = ⟨b, off + j, none⟩ from by simp [Addr.add], hc j hj]
        simp only [strN, List.getElem_map, List.getElem_range]
        have := hf j
        simp
        omega)
    rw [hl] at h'
    exact h'

theorem same_any {w : World} {a1 a2 : Option Addr} {l1 l2 : Nat} {f g : Nat → Nat} (c1 c2 : Nat) (h1 : Bytes w a1 l1 f) (h2 : Bytes w a2 l2 g) (hf : ∀ j, f j < 256) (hg : ∀ j, g j < 256) (n1 : a1 = none → l1 = 0) (n2 : a2 = none → l2 = 0) :
    Calls Tryd.prog 10 #[.slice a1 l1 c1, .slice a2 l2 c2] w fun e w' => e = .returned (.bool (strN f l1 == strN g l2)) ∧ w' = w := by
  have k1 := conv_bytesN c1 h1 hf n1
  have k2 := conv_bytesN c2 h2 hg n2
  clear h1 h2 n1 n2 hf hg
  go_enter Tryd.func10, Tryd.ntmps10
  go_wp2
  go_ret
  exact ⟨rfl, rfl⟩

theorem same_true {w : World} {a1 a2 : Option Addr} {l : Nat} {f : Nat → Nat} (c1 c2 : Nat) (h1 : Bytes w a1 l f) (h2 : Bytes w a2 l f) (hf : ∀ j, f j < 256) (n1 : a1 = none → l = 0) (n2 : a2 = none → l = 0) :
    Calls Tryd.prog 10 #[.slice a1 l c1, .slice a2 l c2] w fun e w' => e = .returned (.bool true) ∧ w' = w := by
  have := same_any c1 c2 h1 h2 hf hf n1 n2
  rwa [beq_self_eq_true] at this

theorem one_u8 : (Tryd.prog.info? 5).map (·.size) = some 1 := by kernel_rfl

theorem run_load_u8 {o : Oper} {a : Act} (x : Operand) (ho : o.op = .load 5 x) (g off : Nat) (hx : a.eval x = .pointer (some ⟨g, off, none⟩)) (v : Value) (w : World) (h : w.cell? ⟨g, off, none⟩ = some v) : (execOp a.eval o).run Tryd.prog w = .ok (.value v) w := by
  unfold execOp
  simp only [ho, hx]
  go_simp

theorem run_add1 {o : Oper} {a : Act} (x : Operand) (ho : o.op = .binOp .add 3 x (.const (.int .i64 1)) 3) (n : Nat) (hx : a.eval x = .int .i64 (n : Nat)) (h : n ≤ 140737488351232) (w : World) :
    (execOp a.eval o).run Tryd.prog w = .ok (.value (.int .i64 ((n + 1 : Nat) : Int))) w := by
  have hw : IntKind.i64.wrap ((n : Int) + 1) = (n : Int) + 1 := by rw [IntKind.wrap_i64]; omega
  unfold execOp
  simp only [ho, hx]
  go_simp

theorem slice_hi (b o cap L q : Nat) (w : World) (h1 : q ≤ cap) (h2 : 0 < cap) : (Instr.sliceAt 22 (.slice (some ⟨b, o, none⟩) L cap) none (some (.int .i64 (q : Int))) none).run Tryd.prog w = .ok (.slice (some ⟨b, o, none⟩) q cap) w := by
  simp [Instr.sliceAt, Instr.slice, Instr.sliceBounds, run_underlying Tryd.underlying22, go_sem]
  intro h
  omega

theorem run_slice_hi {o : Oper} {a : Act} (x h : Operand) (ho : o.op = .slice 22 x none (some h) none) (b off L cap q : Nat) (hx : a.eval x = .slice (some ⟨b, off, none⟩) L cap) (hl : a.eval h = .int .i64 (q : Nat)) (h1 : q ≤ cap) (h2 : 0 < cap) (w : World) :
    (execOp a.eval o).run Tryd.prog w = .ok (.value (.slice (some ⟨b, off, none⟩) q cap)) w := by
  unfold execOp
  simp only [ho, hx, hl, Option.map_some, Option.map_none, Sem.run_bind, slice_hi b off cap L q w h1 h2, Result.andThen_ok, Sem.run_pure]

theorem own_some {w : World} {base n : Nat} {v : Value} {f : Nat → Nat} (h : w.ownsRow base 5 1 v n (bl f n)) (hn : 0 < n) : ∃ g c, v = .slice (some ⟨g, 0, none⟩) n c ∧ n ≤ c ∧ g < w.heap.size ∧ ∀ j, j < n → w.cell? ⟨g, j, none⟩ = some (.int .u8 (f j : Nat)) := by
  rcases h.2 with ⟨_, h0⟩ | ⟨g, cap, cur, rfl, hbg, hgg, hnc, _⟩
  · omega
  · exact ⟨g, cap, rfl, hnc, (Array.getElem?_eq_some_iff.1 hgg).1, fun j hj => by rw [h.cellAt j (by omega)]; exact bl_get _ _ j hj⟩

theorem cell_in {w : World} {p : Addr} {v : Value} (h : w.cell? p = some v) : p.block < w.heap.size := World.block_lt_of_cell? w p h
end Go.Proofs.YtoeanaadlihkeabDoor
