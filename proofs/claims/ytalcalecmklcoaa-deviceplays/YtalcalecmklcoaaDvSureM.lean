/- What a tampered sector holds behind any loss of power. -/
import Derived.Test.YtalcalecmklcoaaDvMin
namespace Go.Proofs.Ytalcalecmklcoaa
open Go.ChangeShapes Go.WideShapes Go.ChangeAt Go.RowKit
set_option linter.unusedVariables false

/-- What is left, one more having come. -/
theorem left_snoc (keep : Nat → Bool) (e : AE) (he : e.sync = false) (l : List AE) : ∀ (k : Nat) (f : Nat → Nat → Nat), ∃ n, left keep k (l ++ [e]) f = if e.sure || keep n then upF (left keep k l f) e else left keep k l f := by
  induction l with
  | nil =>
    intro k f
    refine ⟨k, ?_⟩
    show (if e.sync then left keep k [] f else if e.sure || ([] : List AE).any (·.sync) then left keep k [] (upF f e) else left keep (k + 1) [] (if keep k then upF f e else f)) = _
    rw [if_neg (by simp [he])]
    cases h1 : e.sure <;> cases h2 : keep k <;> simp [left]
  | cons d l ih =>
    intro k f
    have ha : (l ++ [e]).any (·.sync) = l.any (·.sync) := by simp [he]
    show ∃ n, (if d.sync then left keep k (l ++ [e]) f else if d.sure || (l ++ [e]).any (·.sync) then left keep k (l ++ [e]) (upF f d) else left keep (k + 1) (l ++ [e]) (if keep k then upF f d else f)) = if e.sure || keep n then upF (left keep k (d :: l) f) e else left keep k (d :: l) f
    rw [ha]
    have hc : left keep k (d :: l) f = (if d.sync then left keep k l f else if d.sure || l.any (·.sync) then left keep k l (upF f d) else left keep (k + 1) l (if keep k then upF f d else f)) := rfl
    rw [hc]
    by_cases h1 : d.sync = true
    · rw [if_pos h1, if_pos h1]
      exact ih k f
    · rw [if_neg h1, if_neg h1]
      by_cases h2 : (d.sure || l.any (·.sync)) = true
      · rw [if_pos h2, if_pos h2]
        exact ih k _
      · rw [if_neg h2, if_neg h2]
        exact ih (k + 1) _

/-- Whatever is kept, the sector q holds b. -/
def SureAt (s : DS) (q : Nat) (b : Nat → Nat) : Prop := ∀ keep k f, left keep k s.log f q = b

theorem sure_tamper (s : DS) (q : Nat) (b : Nat → Nat) (mo : Int) : SureAt (tampD s q b mo) q b := by
  intro keep k f
  obtain ⟨n, h⟩ := left_snoc keep ⟨q, b, false, true, mo⟩ rfl s.log k f
  show left keep k (s.log ++ [⟨q, b, false, true, mo⟩]) f q = b
  rw [h]
  show (if true || keep n then _ else _ : Nat → Nat → Nat) q = b
  rw [if_pos (by simp)]
  unfold upF
  rw [if_pos ⟨rfl, rfl⟩]

theorem sure_write (s : DS) (q i : Nat) (b d : Nat → Nat) (mo : Int) (h : SureAt s q b) (hi : i ≠ q) : SureAt (wroteD s i d mo) q b := by
  intro keep k f
  obtain ⟨n, e⟩ := left_snoc keep ⟨i, d, false, false, mo⟩ rfl s.log k f
  show left keep k (s.log ++ [⟨i, d, false, false, mo⟩]) f q = b
  rw [e]
  split
  · unfold upF
    rw [if_neg (fun hh => hi hh.2.symm)]
    exact h keep k f
  · exact h keep k f

theorem sure_cut (s : DS) (q : Nat) (b : Nat → Nat) (keep : Nat → Bool) (h : SureAt s q b) : holds (cutD s keep) q = b := h keep 0 s.fst

def NoBad (s : DS) : Prop := ∀ j, s.bad j = false

theorem nobad_wr (s : DS) (i : Int) (b : Nat → Nat) (L m : Nat) (h : NoBad s) : NoBad (wrS s i b L m) := by
  unfold wrS
  split
  · intro j
    show (if j = i.toNat then false else s.bad j) = false
    split
    · rfl
    · exact h j
  · exact h

theorem nobad_sy (s : DS) (m : Nat) (h : NoBad s) : NoBad (syS s m) := by
  unfold NoBad
  rw [syS_bad]
  exact h

theorem sure_wr (s : DS) (q : Nat) (i : Int) (b d : Nat → Nat) (L m : Nat) (h : SureAt s q b) (hi : i ≠ (q : Int)) : SureAt (wrS s i d L m) q b := by
  unfold wrS
  split
  · rename_i he
    have hi0 : 0 ≤ i := by
      unfold wrErr at he
      split at he
      · cases he
      · split at he
        · cases he
        · omega
    exact sure_write s q i.toNat b (full d L) _ h (by omega)
  · exact h

/-- What holds between two steps of a script, with more said of the state. -/
def GoingQ (D : DevRep) (n : Nat) (Q : DS → Prop) (w wr : World) (p c k : Nat) : Prop := ∃ s m F, In D w.heap.size w wr p s c m F ∧ s.n = n ∧ s.dead = false ∧ s.log.length ≤ k ∧ m ≤ k ∧ Q s

theorem GoingQ.wrote {D : DevRep} {n : Nat} {Q : DS → Prop} {w wr wr' : World} {p c k m : Nat} {s : DS} {F : Nat → Prop} {i : Int} {b : Nat → Nat} {L : Nat} (h : In D w.heap.size w wr' p (wrS s i b L m) c (wrM s i L m) F) (hn : s.n = n) (hd : s.dead = false) (hl : s.log.length ≤ k) (hm : m ≤ k) (hQ : Q (wrS s i b L m)) : GoingQ D n Q w wr' p c (k + 1) :=
  ⟨_, _, _, h, by rw [wrS_n, hn], by rw [wrS_dead, hd], by have := wrS_len s i b L m; omega, by have := wrM_le s i L m; omega, hQ⟩
theorem GoingQ.synced {D : DevRep} {n : Nat} {Q : DS → Prop} {w wr wr' : World} {p c k m : Nat} {s : DS} {F : Nat → Prop} (h : In D w.heap.size w wr' p (syS s m) c m F) (hn : s.n = n) (hd : s.dead = false) (hl : s.log.length ≤ k) (hm : m ≤ k) (hQ : Q (syS s m)) : GoingQ D n Q w wr' p c (k + 1) :=
  ⟨_, _, _, h, by rw [syS_n, hn], by rw [syS_dead, hd], by have := syS_len s m; omega, by omega, hQ⟩
theorem GoingQ.more {D : DevRep} {n : Nat} {Q : DS → Prop} {w wr : World} {p c k : Nat} (h : GoingQ D n Q w wr p c k) : GoingQ D n Q w wr p c (k + 1) := by
  obtain ⟨s, m, F, h1, h2, h3, h4, h5, h6⟩ := h
  exact ⟨s, m, F, h1, h2, h3, by omega, by omega, h6⟩
end Go.Proofs.Ytalcalecmklcoaa
