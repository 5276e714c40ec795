/- The reference of layer 10: the token at a place: what its walks share. -/
import Derived.Test.YtpckmllmjdafpaaGreatDoorLySkip
import Derived.RegionTactic
namespace Go.Proofs.YtpckmllmjdafpaaGreatDoor
open Go.ChangeShapes Go.WideShapes Go.ChangeAt Go.RowKit
set_option linter.unusedVariables false

/-- A token in memory. -/
def rtkv (t : Tk) (p : Nat) : Array Value := #[.int .i64 (t.kind : Nat), .string (bs t.s), .int .i64 (t.n : Nat), .int .i64 (p : Nat)]

/-- What the reference's one answers. -/
def ROneR (w : World) (i : Nat) (t : Tk) (E : Nat) (er : Int) (a : Int) (e : Ending) (w' : World) : Prop := e = .returned (.tuple #[.agg (rtkv t i), .int .i64 (E : Nat), .int .i64 er, .int .i64 a]) ∧ Below w.heap.size w w'

theorem sml_fig {c : UInt8} (h : isSml c = true) : isFig c = false := by
  simp [isSml] at h
  simp [isFig]
  omega

theorem rbs_nil : bs [] = ⟨#[]⟩ := rfl

theorem two_below {w : World} {o1 : Obj} (o2 : Obj) : Below w.heap.size w ((w.alloc o1).alloc o2) := ((Below.refl _ _).alloc (Nat.le_refl _) _).alloc (by simp) _

theorem two_belowN {w : World} {o1 : Obj} (o2 : Obj) (m : Nat) : Below w.heap.size w (((w.alloc o1).alloc o2).drewN m) := ⟨(two_below (o1 := o1) o2).os, (two_below (o1 := o1) o2).tape, (two_below (o1 := o1) o2).output, (two_below (o1 := o1) o2).size, (two_below (o1 := o1) o2).block⟩
end Go.Proofs.YtpckmllmjdafpaaGreatDoor
