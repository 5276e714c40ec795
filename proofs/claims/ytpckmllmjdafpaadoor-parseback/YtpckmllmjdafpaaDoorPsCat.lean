/- Nodes appended to nodes. -/
import Derived.Test.YtpckmllmjdafpaaDoorPsSame
import Derived.Laws.AppendOwnNone
namespace Go.Proofs.YtpckmllmjdafpaaDoor
open Go.ChangeShapes Go.WideShapes Go.ChangeAt Go.RowKit
set_option linter.unusedVariables false

/-- A row that was made since W0, of nodes whose parts lay there. -/
def RowK (W0 W : World) (P : Nat → Prop) (l : List Nd) (v : Value) : Prop := ∃ vs, vs.length = l.length ∧ W.ownsRow W0.heap.size 24 5 v l.length (ndl l vs) ∧ (∀ i (h : i < l.length) (h' : i < vs.length), NdR W0 P l[i].l vs[i]) ∧ Below W0.heap.size W0 W

theorem ndl_len (l : List Nd) : ∀ vs : List Value, vs.length = l.length → (ndl l vs).length = l.length * 5 := by
  induction l with
  | nil => intro vs h; simp [ndl]
  | cons n l ih =>
    intro vs h
    cases vs with
    | nil => simp at h
    | cons v vs => rw [ndl_cons, List.length_append, ih vs (by simpa using h)]; simp [ndc]; omega

/-- What it is in the end. -/
theorem RowK.done {W0 W W' : World} {P : Nat → Prop} {l : List Nd} {v : Value} (h : RowK W0 W P l v) (hk : ∀ g o, P g → W0.heap[g]? = some o → W'.heap[g]? = some o) (hr : ∀ g o, W0.heap.size ≤ g → W.heap[g]? = some o → W'.heap[g]? = some o) : NdR W' (fun _ => True) l v := by
  obtain ⟨vs, h1, h2, h3, h4⟩ := h
  have h2' : W'.ownsRow W0.heap.size 24 5 v l.length (ndl l vs) := row_grown h2 (fun g o e ho => hr g o (row_lt h2 e).2 ho)
  refine .mk l vs v h1 ⟨h2'.1, ?_⟩ (fun _ _ => trivial) (fun i h h' => ((h3 i h h').keep hk).mono fun _ _ => trivial)
  rcases h2'.2 with h0 | ⟨g, cap, cur, hv, _, r⟩
  · exact .inl h0
  · exact .inr ⟨g, cap, cur, hv, Nat.zero_le _, r⟩

theorem RowK.slice {W0 W : World} {P : Nat → Prop} {l : List Nd} {v : Value} (h : RowK W0 W P l v) : ∃ A C, v = .slice A l.length C := by
  obtain ⟨vs, h1, h2, _⟩ := h
  rcases h2.2 with ⟨rfl, h0⟩ | ⟨g, cap, cur, rfl, _⟩
  · exact ⟨none, 0, by rw [h0]⟩
  · exact ⟨_, _, rfl⟩

theorem rowK_new (W0 : World) (P : Nat → Prop) : RowK W0 (W0.alloc (.cells #[] 24)) P [] (.slice (some ⟨W0.heap.size, 0, none⟩) 0 0) :=
  ⟨[], rfl, ⟨rfl, .inr ⟨W0.heap.size, 0, #[], rfl, Nat.le_refl _, Has.new _ _ _, Nat.le_refl _, by decide, rfl, rfl⟩⟩, (fun i h => by simp at h), b_one _ _⟩

theorem ndl_cells (l : List Nd) : ∀ vs : List Value, (∀ v ∈ vs, ∃ A L C, v = Value.slice A L C) → ∀ u ∈ ndl l vs, u.oneCell' = true := by
  induction l with
  | nil => intro vs _ u hu; cases hu
  | cons n l ih =>
    intro vs hv u hu
    cases vs with
    | nil => simp [ndl] at hu
    | cons v vs =>
      rw [ndl_cons] at hu
      rcases List.mem_append.1 hu with h | h
      · obtain ⟨A, L, C, rfl⟩ := hv v (by simp)
        exact ndc_cells n A L C u h
      · exact ih vs (fun v hv' => hv v (by simp [hv'])) u h

theorem run_append_cat {ty : TypeId} {W0 W : World} {P : Nat → Prop} {l m : List Nd} {v u : Value} (h : RowK W0 W P l v) (hm : NdR W0 P m u) (hl : l.length ≤ 1000) (hml : m.length ≤ 1000) :
    ∃ v' W', (Builtin.append_ #[22, 22] ty #[v, u]).run Tryd.prog W = .ok v' W' ∧ RowK W0 W' P (l ++ m) v' := by
  obtain ⟨vs, h1, h2, h3, h5⟩ := h
  obtain ⟨i0, hi, hz0, hz1, hz2⟩ := info_parts Tryd.infoNode
  cases hm with
  | mk m us u u1 u2 u3 u5 =>
  have hvs : ∀ x ∈ us, ∃ A L C, x = Value.slice A L C := by
    intro x hx
    obtain ⟨i, hi', rfl⟩ := List.getElem_of_mem hx
    obtain ⟨A, C, e⟩ := (u5 i (by omega) hi').slice
    exact ⟨A, _, C, e⟩
  rcases u2.2 with ⟨rfl, hm0⟩ | ⟨g, C, cur, rfl, _, hg, hn, hm2, hsz, ht⟩
  · have e0 : m = [] := List.length_eq_zero_iff.1 hm0
    subst e0
    have hrun := run_append_owned_none (P := Tryd.prog) (w := W) W0.heap.size 22 ty 24 i0 5 Tryd.underlying22 hi v l.length (ndl l vs) h2
    exact ⟨v, W, hrun, vs, by simpa using h1, by simpa using h2, by simpa using h3, h5⟩
  · have hcell : ∀ j x, (ndl m us)[j]? = some x → W.cell? ((⟨g, 0, none⟩ : Addr).add j) = some x := by
      intro j x hj
      rw [Addr.add_mid, Nat.zero_add]
      refine below_some h5 ?_
      have hjl : j < m.length * 5 := by
        rw [← ndl_len m us u1]
        rcases Nat.lt_or_ge j (ndl m us).length with h | h
        · exact h
        · rw [List.getElem?_eq_none h] at hj; cases hj
      rw [← ht, List.getElem?_take_of_lt hjl, Array.getElem?_toList] at hj
      rw [← hj]
      exact cell_of_row W0 g j cur _ _ hg
    obtain ⟨v', w', hr, g1, g2, g3⟩ := run_append_own (P := Tryd.prog) W W0.heap.size 22 ty 24 i0 _ 5 72 Tryd.underlying22 hi hz0 hz1 hz2 rfl (by decide) v l.length (ndl l vs) h2 ⟨g, 0, none⟩ m.length C (ndl m us) (ndl_len m us u1) hcell (ndl_cells m us hvs) (by unfold maxLen; omega) (by omega) h5.size
    refine ⟨v', w', hr, vs ++ us, by simp [h1, u1], ?_, ?_, h5.trans (grown_own h2 g2 h5.size)⟩
    · rw [ndl_append l m vs us h1, List.length_append]
      exact g1
    · intro i h h'
      by_cases hil : i < l.length
      · rw [List.getElem_append_left hil, List.getElem_append_left (by omega)]
        exact h3 i hil (by omega)
      · rw [List.getElem_append_right (by omega), List.getElem_append_right (by omega)]
        have := u5 (i - l.length) (by simp at h; omega) (by simp at h; omega)
        simp only [h1]
        exact this
end Go.Proofs.YtpckmllmjdafpaaDoor
