/- One byte appended to a row of the call's own, with where the row lies then. -/
import Derived.Test.YtomefoijiiideaaDoorRefSum
import Derived.Deep.AppendLies
namespace Go.Proofs.YtomefoijiiideaaDoor
open Go.ChangeShapes Go.WideShapes Go.ChangeAt Go.RowKit
set_option linter.unusedVariables false

theorem bl_snoc (f : Nat → Nat) (n y : Nat) (h : f n = y) : bl f n ++ [.int .u8 (y : Nat)] = bl f (n + 1) := by
  unfold bl
  rw [List.range_succ, List.map_append]
  simp [h]

/-- One byte that was just laid is appended. -/
theorem wpList_append_one {ops : Array Oper} {rest : List Oper} {o : Oper} {a : Act} {w0 : World} {Q : Exit → Act → World → Prop} (hgd : o.guard = none) (s x : Operand)
    (ho : o.op = .call { callee := .builtin .append, args := #[s, x], argTypes := #[22, 22] }) (base : Nat) (v : Value) (n : Nat) (f : Nat → Nat) (hs : a.eval s = v) (hown : w0.ownsRow base 5 1 v n (bl f n))
    (y : Nat) (hx : a.eval x = .slice (some ⟨w0.heap.size, 0, none⟩) 1 1) (hf : f n = y) (h63 : n + 1 ≤ 140737488355328) (hbase : base ≤ w0.heap.size)
    (h : ∀ g cap w', w'.ownsRow base 5 1 (.slice (some ⟨g, 0, none⟩) (n + 1) cap) (n + 1) (bl f (n + 1)) → (w0.alloc (.cells #[.int .u8 (y : Nat)] 5)).grownBy w' v.ownBlock → (v.ownBlock = some g ∨ g = w0.heap.size + 1) → g < w'.heap.size → wpList Tryd.prog ops Q rest (a.put o.dst (.slice (some ⟨g, 0, none⟩) (n + 1) cap)) w') :
    wpList Tryd.prog ops Q (o :: rest) a (w0.alloc (.cells #[.int .u8 (y : Nat)] 5)) := by
  obtain ⟨i0, hi, hz0, hz1, hz2⟩ := info_parts Tryd.info5
  have hb : Below w0.heap.size w0 (w0.alloc (.cells #[.int .u8 (y : Nat)] 5)) := (Below.refl _ _).alloc (Nat.le_refl _) _
  refine wpList_append_lies _ hgd s x 22 ho base 5 i0 (.int .u8 0) 1 1 Tryd.underlying22 hi hz0 hz1 hz2 rfl (by decide) v n _ hs (own_below hown hb (fun g hg => (hown.lt g hg).2)) ⟨w0.heap.size, 0, none⟩ 1 1 [.int .u8 (y : Nat)] hx (by rfl) ?_ (by simp [Value.oneCell']) (by decide) (by unfold maxLen; omega) (by omega) (by simp; omega) (w0.heap.size + 1) (by simp) ?_
  · intro j u hj
    have hj0 : j = 0 := by
      rcases j with _ | j
      · rfl
      · simp at hj
    subst hj0
    have e : (⟨w0.heap.size, 0, none⟩ : Addr).add 0 = ⟨w0.heap.size, 0, none⟩ := by simp [Addr.add]
    rw [e, (Has.new w0 5 #[.int .u8 (y : Nat)]).cell 0]
    simpa using hj
  · intro g cap w' h1 h2 h3 h4
    rw [bl_snoc f n y hf] at h1
    exact h g cap w' h1 h2 h3 h4

/-- A row that lies elsewhere stays. -/
theorem own_grown {w w' : World} {base n : Nat} {v : Value} {xs : List Value} {r : Option Nat} (h : w.ownsRow base 5 1 v n xs) (hg : w.grownBy w' r) (hne : ∀ g, v.ownBlock = some g → r ≠ some g) : w'.ownsRow base 5 1 v n xs := by
  refine ⟨h.1, ?_⟩
  rcases h.2 with h0 | ⟨g, cap, cur, hv, h1, hgg, r'⟩
  · exact .inl h0
  · exact .inr ⟨g, cap, cur, hv, h1, (hg.block g (Array.getElem?_eq_some_iff.1 hgg).1 (fun e => hne g (by rw [hv]; rfl) e.symm)).trans hgg, r'⟩
end Go.Proofs.YtomefoijiiideaaDoor
