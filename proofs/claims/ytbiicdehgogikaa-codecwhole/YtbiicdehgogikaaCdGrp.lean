/- The program's Group. -/
import Derived.Test.YtbiicdehgogikaaCdGroup
namespace Go.Proofs.Ytbiicdehgogikaa
open Go.ChangeShapes Go.WideShapes Go.ChangeAt Go.RowKit
set_option linter.unusedVariables false

theorem own_set {w : World} {b e s n : Nat} {v : Value} {xs : List Value} (h : w.ownsRow b e s v n xs) (p : Addr) (u : Value) (hp : p.block < b) : (w.setCell p u).ownsRow b e s v n xs := by
  refine ⟨h.1, ?_⟩
  rcases h.2 with h0 | ⟨g, cap, cur, hv, h1, hg, r⟩
  · exact .inl h0
  · exact .inr ⟨g, cap, cur, hv, h1, (Below.heap_setCell w p u g (by omega)).trans hg, r⟩

theorem own_alloc {w : World} {b e s n : Nat} {v : Value} {xs : List Value} (h : w.ownsRow b e s v n xs) (o : Obj) : (w.alloc o).ownsRow b e s v n xs := by
  refine ⟨h.1, ?_⟩
  rcases h.2 with h0 | ⟨g, cap, cur, hv, h1, hg, r⟩
  · exact .inl h0
  · exact .inr ⟨g, cap, cur, hv, h1, (Below.heap_alloc w o g (Array.getElem?_eq_some_iff.1 hg).1).trans hg, r⟩

set_option maxHeartbeats 1000000 in
theorem gclo_ok (n cap p q : Nat) (V : Nat → WV) (a : Option Addr) (u : Value) (w : World) (h : Wl w a n V) (hp : Has w p 22 #[.slice a n cap]) (hq : Has w q 23 #[u]) (hok : okG n V) :
    Calls Try.prog 25 #[.pointer (some ⟨p, 0, none⟩), .pointer (some ⟨q, 0, none⟩)] w fun e w' => e = .returned (.tuple #[]) ∧ ∃ w1 v, Below w.heap.size w w1 ∧ w1.ownsRow w.heap.size 5 1 v (2 + 69 * n) (bl (gb n V) (2 + 69 * n)) ∧ w' = w1.setCell ⟨q, 0, none⟩ v := by
  have hg : Calls Try.prog 26 #[.slice a n cap] w fun e w' => Below w.heap.size w w' ∧ ∃ v, e = .returned v ∧ w'.ownsRow w.heap.size 5 1 v (2 + 69 * n) (bl (gb n V) (2 + 69 * n)) :=
    (grouped_any n cap V a w h).mono (by
      rintro e w1 ⟨hb, ⟨_, v, rfl, ho⟩ | ⟨hn, _⟩⟩
      · exact ⟨hb, v, rfl, ho⟩
      · exact absurd hok hn)
  have c0 : w.cell? ⟨p, 0, none⟩ = some (.slice a n cap) := hp.cell 0
  clear h
  go_enter Try.func25, Try.ntmps25
  go_wp2_with (first
    | ((go_at_call 26)
       (refine hg.mono ?_)
       (rintro e w1 ⟨hb, v, rfl, ho⟩)
       (obtain ⟨a9, c9, rfl, _⟩ := own_bytes ho)
       (have c1 := (hq.below hb hq.lt).cell 0)
       (have z1 := (hq.below hb hq.lt).free 0)
       (clear hg)))
  go_end0
  exact ⟨rfl, w1, _, hb, ho, rfl⟩

theorem gclo_no (n cap p q : Nat) (V : Nat → WV) (a : Option Addr) (w : World) (h : Wl w a n V) (hp : Has w p 22 #[.slice a n cap]) (hok : ¬ okG n V) :
    Calls Try.prog 25 #[.pointer (some ⟨p, 0, none⟩), .pointer (some ⟨q, 0, none⟩)] w fun e w' => e = .panicked ngp ∧ Below w.heap.size w w' := by
  have hg : Calls Try.prog 26 #[.slice a n cap] w fun e w' => e = .panicked ngp ∧ Below w.heap.size w w' :=
    (grouped_any n cap V a w h).mono (by
      rintro e w1 ⟨hb, ⟨ho, _⟩ | ⟨hn, rfl⟩⟩
      · exact absurd ho hok
      · exact ⟨rfl, hb⟩)
  have c0 : w.cell? ⟨p, 0, none⟩ = some (.slice a n cap) := hp.cell 0
  clear h
  go_enter Try.func25, Try.ntmps25
  go_wp2_with (first
    | ((go_at_call 26)
       (refine hg.mono ?_)
       (rintro e w1 ⟨rfl, hb⟩)
       (clear hg)))
  exact ⟨rfl, rfl, hb⟩

set_option maxHeartbeats 1000000 in
theorem group_ok (n cap : Nat) (V : Nat → WV) (a : Option Addr) (w : World) (h : Wl w a n V) (hok : okG n V) :
    Calls Try.prog 9 #[.slice a n cap] w fun e w' => Below w.heap.size w w' ∧ ∃ v, e = .returned (.tuple #[v, .int .i64 0]) ∧ w'.ownsRow w.heap.size 5 1 v (2 + 69 * n) (bl (gb n V) (2 + 69 * n)) := by
  have hmf : ∀ (fn : Fn) (first cap : Array Value) (w : World), (Instr.makeFunc fn first cap).run Try.prog w = .ok (.func fn first cap) w := fun _ _ _ _ => rfl
  obtain ⟨W1, hW1⟩ : ∃ W1, W1 = (w.alloc (.cells #[.slice a n cap] 22)).alloc (.cells #[.slice none 0 0] 23) := ⟨_, rfl⟩
  have s1 : W1.heap.size = w.heap.size + 2 := by rw [hW1]; simp only [World.size_alloc]
  have b1 : Below w.heap.size w W1 := by rw [hW1]; exact ((Below.refl _ _).alloc (Nat.le_refl _) _).alloc (by simp) _
  have p1 : Has W1 w.heap.size 22 #[.slice a n cap] := by rw [hW1]; exact (Has.new_at rfl).alloc _
  have q1 : Has W1 (w.heap.size + 1) 23 #[.slice none 0 0] := by rw [hW1]; exact Has.new_at (by simp only [World.size_alloc])
  have b2 : Below W1.heap.size W1 (tcell W1) := (Below.refl _ _).alloc (Nat.le_refl _) _
  have s2 : (tcell W1).heap.size = w.heap.size + 3 := by unfold tcell; simp only [World.size_alloc, s1]
  have b02 : Below w.heap.size w (tcell W1) := b1.trans (b2.mono (by omega))
  have t2 : Has (tcell W1) W1.heap.size 24 #[.int .i64 0] := Has.new_at rfl
  have hcl := gclo_ok n cap w.heap.size (w.heap.size + 1) V a _ (tcell W1) (h.below b02 (Nat.le_refl _)) (p1.alloc _) (q1.alloc _) hok
  have htr := tried_ok 25 w.heap.size (w.heap.size + 1) (.inl rfl) _ W1 hcl (by
    rintro w' ⟨w1, v, hb, ho, rfl⟩
    refine ((t2.below hb t2.lt).other ?_ _)
    show W1.heap.size ≠ w.heap.size + 1
    omega)
  clear hcl
  have htr' : Calls Try.prog 24 #[.func (.func 25) #[] #[.pointer (some ⟨w.heap.size, 0, none⟩), .pointer (some ⟨w.heap.size + 1, 0, none⟩)]] W1 fun e w' => e = .returned (.int .i64 0) ∧ ∃ v, w'.cell? ⟨w.heap.size + 1, 0, none⟩ = some v ∧ Below w.heap.size w w' ∧ w'.ownsRow w.heap.size 5 1 v (2 + 69 * n) (bl (gb n V) (2 + 69 * n)) := by
    refine htr.mono ?_
    rintro e w5 ⟨rfl, w4, ⟨w3, v, hb3, ho3, rfl⟩, rfl⟩
    have q5 := (((q1.alloc _).below hb3 (q1.alloc _).lt).put 0 v).other (p := ⟨W1.heap.size, 0, none⟩) (u := .int .i64 0) (show w.heap.size + 1 ≠ W1.heap.size from by omega)
    refine ⟨rfl, v, q5.cell 0, ((b02.trans (hb3.mono (by omega))).setCell (by show w.heap.size ≤ w.heap.size + 1; omega) _).setCell (by show w.heap.size ≤ W1.heap.size; omega) _, ?_⟩
    exact own_mono (own_set (own_set ho3 _ _ (by show w.heap.size + 1 < _; omega)) _ _ (by show W1.heap.size < _; omega)) (by omega)
  clear htr q1 p1 b2 s2 b02 t2 b1 s1 h
  subst hW1
  go_enter Try.func9, Try.ntmps9
  go_wp2_with (first
    | ((go_at_call 24)
       (refine htr'.mono ?_)
       (rintro e w5 ⟨rfl, v, hc5, hb5, ho5⟩)
       (clear htr')))
  go_ret2
  exact ⟨hb5, v, rfl, ho5⟩

set_option maxHeartbeats 1000000 in
theorem group_no (n cap : Nat) (V : Nat → WV) (a : Option Addr) (w : World) (h : Wl w a n V) (hok : ¬ okG n V) :
    Calls Try.prog 9 #[.slice a n cap] w fun e w' => Below w.heap.size w w' ∧ e = .returned (.tuple #[.slice none 0 0, .int .i64 81]) := by
  have hmf : ∀ (fn : Fn) (first cap : Array Value) (w : World), (Instr.makeFunc fn first cap).run Try.prog w = .ok (.func fn first cap) w := fun _ _ _ _ => rfl
  obtain ⟨W1, hW1⟩ : ∃ W1, W1 = (w.alloc (.cells #[.slice a n cap] 22)).alloc (.cells #[.slice none 0 0] 23) := ⟨_, rfl⟩
  have s1 : W1.heap.size = w.heap.size + 2 := by rw [hW1]; simp only [World.size_alloc]
  have b1 : Below w.heap.size w W1 := by rw [hW1]; exact ((Below.refl _ _).alloc (Nat.le_refl _) _).alloc (by simp) _
  have p1 : Has W1 w.heap.size 22 #[.slice a n cap] := by rw [hW1]; exact (Has.new_at rfl).alloc _
  have q1 : Has W1 (w.heap.size + 1) 23 #[.slice none 0 0] := by rw [hW1]; exact Has.new_at (by simp only [World.size_alloc])
  have b2 : Below W1.heap.size W1 (tcell W1) := (Below.refl _ _).alloc (Nat.le_refl _) _
  have s2 : (tcell W1).heap.size = w.heap.size + 3 := by unfold tcell; simp only [World.size_alloc, s1]
  have b02 : Below w.heap.size w (tcell W1) := b1.trans (b2.mono (by omega))
  have t2 : Has (tcell W1) W1.heap.size 24 #[.int .i64 0] := Has.new_at rfl
  have hcl := gclo_no n cap w.heap.size (w.heap.size + 1) V a (tcell W1) (h.below b02 (Nat.le_refl _)) (p1.alloc _) hok
  have htr := tried_no 25 w.heap.size (w.heap.size + 1) (.inl rfl) _ W1 hcl (fun w' hb => t2.below hb t2.lt)
  clear hcl
  have htr' : Calls Try.prog 24 #[.func (.func 25) #[] #[.pointer (some ⟨w.heap.size, 0, none⟩), .pointer (some ⟨w.heap.size + 1, 0, none⟩)]] W1 fun e w' => e = .returned (.int .i64 81) ∧ w'.cell? ⟨w.heap.size + 1, 0, none⟩ = some (.slice none 0 0) ∧ Below w.heap.size w w' := by
    refine htr.mono ?_
    rintro e w5 ⟨rfl, w3, hb3, rfl⟩
    have q5 := (((q1.alloc _).below hb3 (q1.alloc _).lt).alloc (.cells #[] 57)).other (p := ⟨W1.heap.size, 0, none⟩) (u := .int .i64 81) (show w.heap.size + 1 ≠ W1.heap.size from by omega)
    exact ⟨rfl, q5.cell 0, ((b02.trans (hb3.mono (by omega))).alloc (by have := hb3.size; omega) _).setCell (by show w.heap.size ≤ W1.heap.size; omega) _⟩
  clear htr q1 p1 b2 s2 b02 t2 b1 s1 h
  subst hW1
  go_enter Try.func9, Try.ntmps9
  go_wp2_with (first
    | ((go_at_call 24)
       (refine htr'.mono ?_)
       (rintro e w5 ⟨rfl, hc5, hb5⟩)
       (clear htr')))
  go_ret2
  exact ⟨hb5, rfl⟩
end Go.Proofs.Ytbiicdehgogikaa
