/- ParseJoined, walked. -/
import Derived.Test.YtpckmllmjdafpaaDoorPsLawC
import Derived.Test.YtpckmllmjdafpaaDoorPsGood
import Derived.Test.YtpckmllmjdafpaaDoorPsCat
namespace Go.Proofs.YtpckmllmjdafpaaDoor
open Go.ChangeShapes Go.WideShapes Go.ChangeAt Go.RowKit
set_option linter.unusedVariables false

/-- What Parse answers, whatever it is. -/
def PWeak (W : World) (e : Ending) (w' : World) : Prop := ∃ (o s : List UInt8) (i j : Int) (A : Option Addr) (L C : Nat) (er k : Int), e = .returned (.tuple #[.agg #[.string (bs o), .string (bs s), .int .i64 i, .int .i64 j, .slice A L C], .int .i64 er, .int .i64 k]) ∧ Below W.heap.size W w'

theorem parse_weak (x : List UInt8) (W : World) (hm : x.length ≤ maxLen) : Calls Tryd.prog 4 #[.string (bs x)] W (PWeak W) := by
  refine (parse_c x W hm).mono ?_
  rintro e w' ⟨hb, h⟩
  cases hP : Parse x with
  | error r => obtain ⟨c, k⟩ := r; rw [hP] at h; exact ⟨[], [], 0, 0, none, 0, 0, c, k, h, hb⟩
  | ok n => rw [hP] at h; obtain ⟨A, C, he, _⟩ := h; exact ⟨n.op, n.s, n.n, n.a, A, n.l.length, C, 0, -1, he, hb⟩

theorem bel_pa2 {w w1 w2 : World} {o : Obj} (h1 : Below w.heap.size w w1) (h2 : Below (w1.alloc o).heap.size (w1.alloc o) w2) : Below w.heap.size w w2 := bel_pa h1 h2

theorem Alike.refl {n : Nd} (h : Sml n) : Alike n n := by
  induction h with
  | mk op s n a l h1 h2 h3 ih => exact .mk op s n a a l l rfl (fun i h h' => ih _ (List.getElem_mem h))

theorem AL.refl {l : List Nd} (h : SmlL l) : AL l l := AL.of_get rfl (fun i h1 h2 => Alike.refl (h _ (List.getElem_mem h1)))

theorem NdR.drew {w : World} {P : Nat → Prop} {l : List Nd} {v : Value} (h : NdR w P l v) : NdR w.drew P l v := h.keep fun g o _ ho => ho

end Go.Proofs.YtpckmllmjdafpaaDoor
