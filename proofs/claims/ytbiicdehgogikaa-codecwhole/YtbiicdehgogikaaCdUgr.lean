/- The program's Ungroup. -/
import Derived.Test.YtbiicdehgogikaaCdUng
namespace Go.Proofs.Ytbiicdehgogikaa
open Go.ChangeShapes Go.WideShapes Go.ChangeAt Go.RowKit
set_option linter.unusedVariables false

theorem cell_same {w w' : World} {x : Nat} (h : w'.heap[x]? = w.heap[x]?) (o : Nat) : w'.cell? ⟨x, o, none⟩ = w.cell? ⟨x, o, none⟩ := by simp only [World.cell?, h]

theorem Wl.setOld {w : World} {a : Option Addr} {n K : Nat} {V : Nat → WV} (h : Wl w a n V) (hx : ∀ x o, a = some ⟨x, o, none⟩ → K ≤ x) (hd : ∀ i, i < n → ∀ b off, (V i).a = some ⟨b, off, none⟩ → K ≤ b) (p : Addr) (hp : p.block < K) (u : Value) : Wl (w.setCell p u) a n V := by
  refine ⟨h.1, fun i hi => ?_⟩
  obtain ⟨x, o, e, hlt, hw⟩ := h.2 i hi
  have hk := hx x o e
  have hs : (w.setCell p u).heap[x]? = w.heap[x]? := Below.heap_setCell w p u x (by omega)
  refine ⟨x, o, e, by simpa [World.setCell] using hlt, (cell_same hs _).trans hw.c0, (cell_same hs _).trans hw.c1, (cell_same hs _).trans hw.c2, hw.od, hw.os, hw.by_.le, hw.by_.max, hw.by_.nil, ?_, hw.by_.byt⟩
  rcases hw.by_.at_ with h0 | ⟨b, off, e2, hb, hc⟩
  · exact .inl h0
  · have hs2 : (w.setCell p u).heap[b]? = w.heap[b]? := Below.heap_setCell w p u b (by have := hd i hi b off e2; omega)
    exact .inr ⟨b, off, e2, by simpa [World.setCell] using hb, fun j hj => (cell_same hs2 _).trans (hc j hj)⟩

/-- What Ungroup leaves where bytes are a group. -/
def UgrR (w : World) (B : Nat → Nat) (w' : World) (v : Value) : Prop := ∃ A Cc g, v = .slice (some ⟨g, 0, none⟩) (uN B) (uN B) ∧ Wl w' (some ⟨g, 0, none⟩) (uN B) (uV B A Cc) ∧ Below w.heap.size w w'

/-- The like, and that all of it is new. -/
def UgrN (K : Nat) (B : Nat → Nat) (w' : World) (v : Value) : Prop := ∃ A Cc g, v = .slice (some ⟨g, 0, none⟩) (uN B) (uN B) ∧ Wl w' (some ⟨g, 0, none⟩) (uN B) (uV B A Cc) ∧ K ≤ g ∧ ∀ i, i < uN B → ∀ b off, A i = some ⟨b, off, none⟩ → K ≤ b

theorem UgrN.set {K : Nat} {B : Nat → Nat} {w : World} {v : Value} (h : UgrN K B w v) (p : Addr) (hp : p.block < K) (u : Value) : UgrN K B (w.setCell p u) v := by
  obtain ⟨A, Cc, g, hv, hwl, hg, hd⟩ := h
  exact ⟨A, Cc, g, hv, hwl.setOld (K := K) (fun x o e => by cases e; exact hg) (fun i hi b off e => hd i hi b off e) p hp u, hg, hd⟩

set_option maxHeartbeats 1000000 in
theorem uclo_ok (L C p q : Nat) (B : Nat → Nat) (a : Option Addr) (u : Value) (w : World) (h : ByIn w a L C B) (hp : Has w p 23 #[.slice a L C]) (hq : Has w q 22 #[u]) (hok : okU L B) :
    Calls Try.prog 28 #[.pointer (some ⟨p, 0, none⟩), .pointer (some ⟨q, 0, none⟩)] w fun e w' => e = .returned (.tuple #[]) ∧ ∃ w1 v, Below w.heap.size w w1 ∧ UgrN w.heap.size B w1 v ∧ w' = w1.setCell ⟨q, 0, none⟩ v := by
  have hg : Calls Try.prog 29 #[.slice a L C] w fun e w' => Below w.heap.size w w' ∧ ∃ g, e = .returned (.slice (some ⟨g, 0, none⟩) (uN B) (uN B)) ∧ UgrN w.heap.size B w' (.slice (some ⟨g, 0, none⟩) (uN B) (uN B)) :=
    (ungrouped_any L C B a w h).mono (by
      rintro e w1 ⟨hb, ⟨_, A, Cc, g, rfl, hg, hwl, hd⟩ | ⟨hn, _⟩⟩
      · exact ⟨hb, g, rfl, A, Cc, g, rfl, hwl, hg, hd⟩
      · exact absurd hok hn)
  have c0 : w.cell? ⟨p, 0, none⟩ = some (.slice a L C) := hp.cell 0
  clear h
  go_enter Try.func28, Try.ntmps28
  go_wp2_with (first
    | ((go_at_call 29)
       (refine hg.mono ?_)
       (rintro e w1 ⟨hb, g, rfl, ho⟩)
       (have c1 := (hq.below hb hq.lt).cell 0)
       (have z1 := (hq.below hb hq.lt).free 0)
       (clear hg)))
  go_end0
  exact ⟨rfl, w1, _, hb, ho, rfl⟩

theorem uclo_no (L C p q : Nat) (B : Nat → Nat) (a : Option Addr) (w : World) (h : ByIn w a L C B) (hp : Has w p 23 #[.slice a L C]) (hok : ¬ okU L B) :
    Calls Try.prog 28 #[.pointer (some ⟨p, 0, none⟩), .pointer (some ⟨q, 0, none⟩)] w fun e w' => e = .panicked ngp ∧ Below w.heap.size w w' := by
  have hg : Calls Try.prog 29 #[.slice a L C] w fun e w' => e = .panicked ngp ∧ Below w.heap.size w w' :=
    (ungrouped_any L C B a w h).mono (by
      rintro e w1 ⟨hb, ⟨ho, _⟩ | ⟨hn, rfl⟩⟩
      · exact absurd ho hok
      · exact ⟨rfl, hb⟩)
  have c0 : w.cell? ⟨p, 0, none⟩ = some (.slice a L C) := hp.cell 0
  clear h
  go_enter Try.func28, Try.ntmps28
  go_wp2_with (first
    | ((go_at_call 29)
       (refine hg.mono ?_)
       (rintro e w1 ⟨rfl, hb⟩)
       (clear hg)))
  exact ⟨rfl, rfl, hb⟩

set_option maxHeartbeats 1000000 in
theorem ungroup_ok (L C : Nat) (B : Nat → Nat) (a : Option Addr) (w : World) (h : ByIn w a L C B) (hok : okU L B) :
    Calls Try.prog 11 #[.slice a L C] w fun e w' => ∃ v, e = .returned (.tuple #[v, .int .i64 0]) ∧ UgrR w B w' v := by
  have hmf : ∀ (fn : Fn) (first cap : Array Value) (w : World), (Instr.makeFunc fn first cap).run Try.prog w = .ok (.func fn first cap) w := fun _ _ _ _ => rfl
  obtain ⟨W1, hW1⟩ : ∃ W1, W1 = (w.alloc (.cells #[.slice a L C] 23)).alloc (.cells #[.slice none 0 0] 22) := ⟨_, rfl⟩
  have s1 : W1.heap.size = w.heap.size + 2 := by rw [hW1]; simp only [World.size_alloc]
  have b1 : Below w.heap.size w W1 := by rw [hW1]; exact ((Below.refl _ _).alloc (Nat.le_refl _) _).alloc (by simp) _
  have p1 : Has W1 w.heap.size 23 #[.slice a L C] := by rw [hW1]; exact (Has.new_at rfl).alloc _
  have q1 : Has W1 (w.heap.size + 1) 22 #[.slice none 0 0] := by rw [hW1]; exact Has.new_at (by simp only [World.size_alloc])
  have b2 : Below W1.heap.size W1 (tcell W1) := (Below.refl _ _).alloc (Nat.le_refl _) _
  have s2 : (tcell W1).heap.size = w.heap.size + 3 := by unfold tcell; simp only [World.size_alloc, s1]
  have b02 : Below w.heap.size w (tcell W1) := b1.trans (b2.mono (by omega))
  have t2 : Has (tcell W1) W1.heap.size 24 #[.int .i64 0] := Has.new_at rfl
  have hcl := uclo_ok L C w.heap.size (w.heap.size + 1) B a _ (tcell W1) (h.below b02 (Nat.le_refl _)) (p1.alloc _) (q1.alloc _) hok
  have htr := tried_ok 28 w.heap.size (w.heap.size + 1) (.inr rfl) _ W1 hcl (by
    rintro w' ⟨w1, v, hb, ho, rfl⟩
    refine ((t2.below hb t2.lt).other ?_ _)
    show W1.heap.size ≠ w.heap.size + 1
    omega)
  clear hcl
  have htr' : Calls Try.prog 24 #[.func (.func 28) #[] #[.pointer (some ⟨w.heap.size, 0, none⟩), .pointer (some ⟨w.heap.size + 1, 0, none⟩)]] W1 fun e w' => e = .returned (.int .i64 0) ∧ ∃ v, w'.cell? ⟨w.heap.size + 1, 0, none⟩ = some v ∧ UgrR w B w' v := by
    refine htr.mono ?_
    rintro e w5 ⟨rfl, w4, ⟨w3, v, hb3, ho3, rfl⟩, rfl⟩
    have q5 := (((q1.alloc _).below hb3 (q1.alloc _).lt).put 0 v).other (p := ⟨W1.heap.size, 0, none⟩) (u := .int .i64 0) (show w.heap.size + 1 ≠ W1.heap.size from by omega)
    have ho5 := (ho3.set ⟨w.heap.size + 1, 0, none⟩ (by show w.heap.size + 1 < _; omega) v).set ⟨W1.heap.size, 0, none⟩ (by show W1.heap.size < _; omega) (.int .i64 0)
    obtain ⟨A, Cc, g, hv, hwl, _, _⟩ := ho5
    exact ⟨rfl, v, q5.cell 0, A, Cc, g, hv, hwl, ((b02.trans (hb3.mono (by omega))).setCell (by show w.heap.size ≤ w.heap.size + 1; omega) _).setCell (by show w.heap.size ≤ W1.heap.size; omega) _⟩
  clear htr q1 p1 b2 s2 b02 t2 b1 s1 h
  subst hW1
  go_enter Try.func11, Try.ntmps11
  go_wp2_with (first
    | ((go_at_call 24)
       (refine htr'.mono ?_)
       (rintro e w5 ⟨rfl, v, hc5, hb5⟩)
       (clear htr')))
  go_ret2
  exact ⟨v, rfl, hb5⟩

set_option maxHeartbeats 1000000 in
theorem ungroup_no (L C : Nat) (B : Nat → Nat) (a : Option Addr) (w : World) (h : ByIn w a L C B) (hok : ¬ okU L B) :
    Calls Try.prog 11 #[.slice a L C] w fun e w' => Below w.heap.size w w' ∧ e = .returned (.tuple #[.slice none 0 0, .int .i64 81]) := by
  have hmf : ∀ (fn : Fn) (first cap : Array Value) (w : World), (Instr.makeFunc fn first cap).run Try.prog w = .ok (.func fn first cap) w := fun _ _ _ _ => rfl
  obtain ⟨W1, hW1⟩ : ∃ W1, W1 = (w.alloc (.cells #[.slice a L C] 23)).alloc (.cells #[.slice none 0 0] 22) := ⟨_, rfl⟩
  have s1 : W1.heap.size = w.heap.size + 2 := by rw [hW1]; simp only [World.size_alloc]
  have b1 : Below w.heap.size w W1 := by rw [hW1]; exact ((Below.refl _ _).alloc (Nat.le_refl _) _).alloc (by simp) _
  have p1 : Has W1 w.heap.size 23 #[.slice a L C] := by rw [hW1]; exact (Has.new_at rfl).alloc _
  have q1 : Has W1 (w.heap.size + 1) 22 #[.slice none 0 0] := by rw [hW1]; exact Has.new_at (by simp only [World.size_alloc])
  have b2 : Below W1.heap.size W1 (tcell W1) := (Below.refl _ _).alloc (Nat.le_refl _) _
  have s2 : (tcell W1).heap.size = w.heap.size + 3 := by unfold tcell; simp only [World.size_alloc, s1]
  have b02 : Below w.heap.size w (tcell W1) := b1.trans (b2.mono (by omega))
  have t2 : Has (tcell W1) W1.heap.size 24 #[.int .i64 0] := Has.new_at rfl
  have hcl := uclo_no L C w.heap.size (w.heap.size + 1) B a (tcell W1) (h.below b02 (Nat.le_refl _)) (p1.alloc _) hok
  have htr := tried_no 28 w.heap.size (w.heap.size + 1) (.inr rfl) _ W1 hcl (fun w' hb => t2.below hb t2.lt)
  clear hcl
  have htr' : Calls Try.prog 24 #[.func (.func 28) #[] #[.pointer (some ⟨w.heap.size, 0, none⟩), .pointer (some ⟨w.heap.size + 1, 0, none⟩)]] W1 fun e w' => e = .returned (.int .i64 81) ∧ w'.cell? ⟨w.heap.size + 1, 0, none⟩ = some (.slice none 0 0) ∧ Below w.heap.size w w' := by
    refine htr.mono ?_
    rintro e w5 ⟨rfl, w3, hb3, rfl⟩
    have q5 := (((q1.alloc _).below hb3 (q1.alloc _).lt).alloc (.cells #[] 57)).other (p := ⟨W1.heap.size, 0, none⟩) (u := .int .i64 81) (show w.heap.size + 1 ≠ W1.heap.size from by omega)
    exact ⟨rfl, q5.cell 0, ((b02.trans (hb3.mono (by omega))).alloc (by have := hb3.size; omega) _).setCell (by show w.heap.size ≤ W1.heap.size; omega) _⟩
  clear htr q1 p1 b2 s2 b02 t2 b1 s1 h
  subst hW1
  go_enter Try.func11, Try.ntmps11
  go_wp2_with (first
    | ((go_at_call 24)
       (refine htr'.mono ?_)
       (rintro e w5 ⟨rfl, hc5, hb5⟩)
       (clear htr')))
  go_ret2
  exact ⟨hb5, rfl⟩
end Go.Proofs.Ytbiicdehgogikaa
