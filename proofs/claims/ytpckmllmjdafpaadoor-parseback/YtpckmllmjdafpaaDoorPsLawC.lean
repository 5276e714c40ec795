/- ParseCut, walked. -/
import Derived.Test.YtpckmllmjdafpaaDoorJoint09
import Derived.Test.YtpckmllmjdafpaaDoorPsCutM
import Derived.LaidSub
import Derived.Lib.LaidTab
namespace Go.Proofs.YtpckmllmjdafpaaDoor
open Go.ChangeShapes Go.WideShapes Go.ChangeAt Go.RowKit
set_option linter.unusedVariables false

theorem parse_ok_c (x : List UInt8) (w : World) (hm : x.length ≤ maxLen) {n : Nd} (h : Parse x = .ok n) : Calls Tryd.prog 4 #[.string (bs x)] w fun e w' => ∃ A C, e = .returned (.tuple #[.agg #[.string (bs n.op), .string (bs n.s), .int .i64 n.n, .int .i64 n.a, .slice A n.l.length C], .int .i64 0, .int .i64 (-1)]) ∧ NdR w' (fun g => w.heap.size ≤ g) n.l (.slice A n.l.length C) ∧ Below w.heap.size w w' := by
  have := parse_c x w hm
  rw [h] at this
  exact this.mono fun e w' ⟨hb, A, C, he, hn⟩ => ⟨A, C, he, hn, hb⟩

theorem parse_err_c (x : List UInt8) (w : World) (hm : x.length ≤ maxLen) {c k : Nat} (h : Parse x = .error (c, k)) : Calls Tryd.prog 4 #[.string (bs x)] w fun e w' => e = .returned (.tuple #[.agg #[.string ⟨#[]⟩, .string ⟨#[]⟩, .int .i64 0, .int .i64 0, .slice none 0 0], .int .i64 (c : Nat), .int .i64 (k : Nat)]) ∧ Below w.heap.size w w' := by
  have := parse_c x w hm
  rw [h] at this
  exact this.mono fun e w' ⟨hb, he⟩ => ⟨he, hb⟩

theorem bel_pa {w w1 w2 : World} {o : Obj} (h1 : Below w.heap.size w w1) (h2 : Below (w1.alloc o).heap.size (w1.alloc o) w2) : Below w.heap.size w w2 :=
  (h1.alloc h1.size o).trans (h2.mono (by have := h1.size; simp; omega))

theorem run_str_to {o : Oper} {a : Act} (x h : Operand) (ho : o.op = .slice 9 x none (some h) none) (p : ByteArray) (k : Nat) (hx : a.eval x = .string p) (hh : a.eval h = .int .i64 (k : Nat)) (hk : k ≤ p.size) (w : World) : (execOp a.eval o).run Tryd.prog w = .ok (.value (.string (p.extract 0 k))) w := by
  have h1 : (k : Int) ≤ (p.size : Int) := by omega
  unfold execOp
  simp only [ho, hx, hh, Option.map_some, Option.map_none]
  go_simp

theorem below_al {w : World} (o : Obj) : Below w.heap.size w (w.alloc o) := b_one w o

end Go.Proofs.YtpckmllmjdafpaaDoor
