/- bytes.Clone; slices of bytes. -/
import Derived.Test.YtbiicdehgogikaaCdField
namespace Go.Proofs.Ytbiicdehgogikaa
open Go.ChangeShapes Go.WideShapes Go.ChangeAt Go.RowKit
set_option linter.unusedVariables false

theorem own_empty (w : World) (f : Nat → Nat) : (w.alloc (.cells #[] 5)).ownsRow w.heap.size 5 1 (.slice (some ⟨w.heap.size, 0, none⟩) 0 0) 0 (bl f 0) :=
  ⟨rfl, .inr ⟨w.heap.size, 0, #[], rfl, Nat.le_refl _, heap_alloc_new w _, Nat.le_refl _, Nat.zero_le _, rfl, rfl⟩⟩

theorem run_slice_both {o : Oper} {a : Act} (x l h : Operand) (ho : o.op = .slice 23 x (some l) (some h) none) (b off L cap p q : Nat) (hx : a.eval x = .slice (some ⟨b, off, none⟩) L cap) (hl : a.eval l = .int .i64 (p : Nat)) (hh : a.eval h = .int .i64 (q : Nat)) (h1 : p ≤ q) (h2 : q ≤ cap) (w : World) :
    (execOp a.eval o).run Try.prog w = .ok (.value (.slice (some (if cap = p then ⟨b, off, none⟩ else ⟨b, off + p, none⟩)) (q - p) (cap - p))) w := by
  unfold execOp
  simp only [ho, hx, hl, hh, Option.map_some, Option.map_none]
  simp [Instr.sliceAt, Instr.slice, Instr.sliceBounds, Instr.sliceBound, run_underlying Try.underlying23, go_sem, asIntOf, h1, h2]
  split <;> rfl

theorem run_slice_len {o : Oper} {a : Act} (x l h : Operand) (ho : o.op = .slice 23 x (some l) (some h) none) (b off L cap p s : Nat) (hx : a.eval x = .slice (some ⟨b, off, none⟩) L cap) (hl : a.eval l = .int .i64 (p : Nat)) (hh : a.eval h = .int .i64 ((p + s : Nat) : Int)) (h2 : p + s ≤ cap) (w : World) :
    (execOp a.eval o).run Try.prog w = .ok (.value (.slice (some (if cap = p then ⟨b, off, none⟩ else ⟨b, off + p, none⟩)) s (cap - p))) w := by
  have := run_slice_both x l h ho b off L cap p (p + s) hx hl hh (by omega) h2 w
  rwa [show p + s - p = s by omega] at this

theorem Bytes.cut {w : World} {b o len cap : Nat} {m : Nat → Nat} (h : Bytes w (some ⟨b, o, none⟩) len m) (p k : Nat) (hk : p + k ≤ len) (hc : len ≤ cap) : Bytes w (some (if cap = p then ⟨b, o, none⟩ else ⟨b, o + p, none⟩)) k (fun j => m (p + j)) := by
  by_cases h0 : cap = p
  · exact .inl (by omega)
  · rw [if_neg h0]
    exact h.part p k hk

set_option maxHeartbeats 1000000 in
theorem clone_any {w : World} {a : Option Addr} {L C : Nat} {f : Nat → Nat} (h : Bytes w a L f) (hn : a = none → L = 0 ∧ C = 0) (hL : L ≤ 140737488355328) :
    Calls Try.prog 32 #[.slice a L C] w fun e w' => Below w.heap.size w w' ∧ ∃ v, e = .returned v ∧ w'.ownsRow w.heap.size 5 1 v L (bl f L) := by
  cases a with
  | none =>
    obtain ⟨rfl, rfl⟩ := hn rfl
    have hnil : ∀ w : World, (binOp BinOp.eql 23 (.slice none 0 0) (.slice none 0 0)).run Try.prog w = .ok (.bool true) w := fun _ => by kernel_rfl
    go_enter Try.func32, Try.ntmps32
    go_wp2
    go_ret
    exact ⟨Below.refl _ _, _, rfl, rfl, .inl ⟨rfl, rfl⟩⟩
  | some ad =>
    have hnil : ∀ w : World, (binOp BinOp.eql 23 (.slice (some ad) L C) (.slice none 0 0)).run Try.prog w = .ok (.bool false) w := fun _ => by kernel_rfl
    have h2 : Bytes (w.alloc (.cells #[] 5)) (some ad) L f := h.below ((Below.refl _ _).alloc (Nat.le_refl _) _) (Nat.le_refl _)
    go_enter Try.func32, Try.ntmps32
    go_wp2_with (first
      | ((refine at_dst 7 rfl ?_)
         (refine wpList_append_bytes rfl _ _ rfl w.heap.size _ 0 f rfl (own_empty w f) (some ad) L C f rfl (fun e => by cases e) h2 (by omega) (by simp) ?_)
         (intro v' w' ho hg)))
    go_ret
    rw [Nat.zero_add, cat_zero] at ho
    exact ⟨below_g ((Below.refl _ _).alloc (Nat.le_refl _) _) hg (fun g e => by cases e; exact Nat.le_refl _), _, rfl, ho⟩
end Go.Proofs.Ytbiicdehgogikaa
