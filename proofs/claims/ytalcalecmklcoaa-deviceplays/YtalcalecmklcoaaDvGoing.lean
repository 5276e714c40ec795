/- Between two steps of a script. -/
import Derived.Test.YtalcalecmklcoaaDvFacts
namespace Go.Proofs.Ytalcalecmklcoaa
open Go.ChangeShapes Go.WideShapes Go.ChangeAt Go.RowKit
set_option linter.unusedVariables false

/-- What holds between two steps of a script, of six sectors. -/
def Going (D : DevRep) (n : Nat) (w wr : World) (p c k : Nat) : Prop := ∃ s m F, In D w.heap.size w wr p s c m F ∧ s.n = n ∧ s.dead = false ∧ s.log.length ≤ k ∧ m ≤ k

theorem wrS_n (s : DS) (i : Int) (b : Nat → Nat) (L m : Nat) : (wrS s i b L m).n = s.n := by unfold wrS; split <;> rfl
theorem tpS_n (s : DS) (i : Int) (b : Nat → Nat) (L m : Nat) : (tpS s i b L m).n = s.n := by unfold tpS; split <;> rfl
theorem syS_n (s : DS) (m : Nat) : (syS s m).n = s.n := by unfold syS; split <;> rfl
theorem wrS_dead (s : DS) (i : Int) (b : Nat → Nat) (L m : Nat) : (wrS s i b L m).dead = s.dead := by unfold wrS; split <;> rfl
theorem tpS_dead (s : DS) (i : Int) (b : Nat → Nat) (L m : Nat) : (tpS s i b L m).dead = s.dead := by unfold tpS; split <;> rfl
theorem syS_dead (s : DS) (m : Nat) : (syS s m).dead = s.dead := by unfold syS; split <;> rfl

theorem Going.wrote {D : DevRep} {n : Nat} {w wr wr' : World} {p c k m : Nat} {s : DS} {F : Nat → Prop} {i : Int} {b : Nat → Nat} {L : Nat} (h : In D w.heap.size w wr' p (wrS s i b L m) c (wrM s i L m) F) (hn : s.n = n) (hd : s.dead = false) (hl : s.log.length ≤ k) (hm : m ≤ k) : Going D n w wr' p c (k + 1) :=
  ⟨_, _, _, h, by rw [wrS_n, hn], by rw [wrS_dead, hd], by have := wrS_len s i b L m; omega, by have := wrM_le s i L m; omega⟩
theorem Going.tampered {D : DevRep} {n : Nat} {w wr wr' : World} {p c k m : Nat} {s : DS} {F : Nat → Prop} {i : Int} {b : Nat → Nat} {L : Nat} (h : In D w.heap.size w wr' p (tpS s i b L m) c (wrM s i L m) F) (hn : s.n = n) (hd : s.dead = false) (hl : s.log.length ≤ k) (hm : m ≤ k) : Going D n w wr' p c (k + 1) :=
  ⟨_, _, _, h, by rw [tpS_n, hn], by rw [tpS_dead, hd], by have := tpS_len s i b L m; omega, by have := wrM_le s i L m; omega⟩
theorem Going.synced {D : DevRep} {n : Nat} {w wr wr' : World} {p c k m : Nat} {s : DS} {F : Nat → Prop} (h : In D w.heap.size w wr' p (syS s m) c m F) (hn : s.n = n) (hd : s.dead = false) (hl : s.log.length ≤ k) (hm : m ≤ k) : Going D n w wr' p c (k + 1) :=
  ⟨_, _, _, h, by rw [syS_n, hn], by rw [syS_dead, hd], by have := syS_len s m; omega, by omega⟩
theorem Going.more {D : DevRep} {n : Nat} {w wr : World} {p c k : Nat} (h : Going D n w wr p c k) : Going D n w wr p c (k + 1) := by
  obtain ⟨s, m, F, h1, h2, h3, h4, h5⟩ := h
  exact ⟨s, m, F, h1, h2, h3, by omega, by omega⟩
end Go.Proofs.Ytalcalecmklcoaa
