/- copy of bytes into a row of the call's own. -/
import Derived.Test.YtbiicdehgogikaaCdClone
namespace Go.Proofs.Ytbiicdehgogikaa
open Go.ChangeShapes Go.WideShapes Go.ChangeAt Go.RowKit
set_option linter.unusedVariables false

theorem bl_get? (f : Nat → Nat) (n j : Nat) : (bl f n)[j]? = if j < n then some (.int .u8 (f j : Nat)) else none := by
  by_cases h : j < n
  · rw [if_pos h]
    exact bl_get f n j h
  · rw [if_neg h, List.getElem?_eq_none]
    rw [bl_len]
    omega

theorem copied_row (cur : List Value) (F f : Nat → Nat) (n P s : Nat) (hc : cur.take n = bl F n) (hn : n ≤ cur.length) (hfit : P + s ≤ n) : (cur.take P ++ (bl f s ++ cur.drop (P + s))).take n = bl (over F P s f) n := by
  have hl : (bl f s).length = s := by rw [bl_len]; omega
  apply List.ext_getElem?
  intro j
  rw [bl_get?]
  by_cases hj : j < n
  · rw [if_pos hj, List.getElem?_take_of_lt hj]
    have hcj : ∀ j, j < n → cur[j]? = some (.int .u8 (F j : Nat)) := by
      intro j hj
      have h := congrArg (fun l => l[j]?) hc
      simp only [List.getElem?_take_of_lt hj, bl_get?, if_pos hj] at h
      exact h
    by_cases h1 : j < P
    · rw [List.getElem?_append_left (by rw [List.length_take]; omega), List.getElem?_take_of_lt h1, hcj j hj]
      unfold over
      rw [if_neg (by omega)]
    · have hP : (cur.take P).length = P := by rw [List.length_take]; omega
      rw [List.getElem?_append_right (by omega), hP]
      by_cases h2 : j < P + s
      · rw [List.getElem?_append_left (by omega), bl_get?, if_pos (by omega)]
        unfold over
        rw [if_pos (by omega)]
      · rw [List.getElem?_append_right (by omega), hl, List.getElem?_drop, show P + s + (j - P - s) = j by omega, hcj j hj]
        unfold over
        rw [if_neg (by omega)]
  · rw [if_neg hj, List.getElem?_eq_none]
    rw [List.length_take]
    omega

theorem wpList_copy_row {ops : Array Oper} {rest : List Oper} {o : Oper} {a : Act} {w : World} {Q : Exit → Act → World → Prop} (hgd : o.guard = none) (d x : Operand)
    (ho : o.op = .call { callee := .builtin .copy, args := #[d, x], argTypes := #[23, 23] }) (base g n cap P s : Nat) (F f : Nat → Nat) (hown : w.ownsRow base 5 1 (.slice (some ⟨g, 0, none⟩) n cap) n (bl F n))
    (hd : a.eval d = .slice (some ⟨g, P, none⟩) (n - P) (cap - P)) (A : Option Addr) (sC : Nat) (hx : a.eval x = .slice A s sC) (hA : Bytes w A s f) (h1 : 1 ≤ s) (hfit : P + s ≤ n)
    (h : ∀ w2, w2.ownsRow base 5 1 (.slice (some ⟨g, 0, none⟩) n cap) n (bl (over F P s f) n) → w.grownBy w2 (some g) → wpList Try.prog ops Q rest (a.put o.dst (goInt s)) w2) : wpList Try.prog ops Q (o :: rest) a w := by
  have hl : (bl f s).length = s := by rw [bl_len]; omega
  obtain ⟨b, off, rfl, hlt, hc⟩ : ∃ b off, A = some ⟨b, off, none⟩ ∧ b < w.heap.size ∧ ∀ j, j < s → w.cell? ⟨b, off + j, none⟩ = some (.int .u8 (f j : Nat)) := by
    rcases hA with h0 | h0
    · omega
    · exact h0
  rcases hown.2 with ⟨h0, _⟩ | ⟨g', cap', cur, hv, hbase, hg, hnc, hmx, hsz, htk⟩
  · cases h0
  · simp only [Value.slice.injEq, Option.some.injEq, Addr.mk.injEq, and_true, true_and] at hv
    obtain ⟨rfl, rfl⟩ := hv
    rw [Nat.mul_one] at hsz htk
    refine wpList_copy_own hgd d x _ _ ho 5 Try.underlying23 (by kernel_rfl) g P (n - P) (cap - P) ⟨b, off, none⟩ s sC hd hx cur 5 hg (bl f s) (by rw [hl]; exact (Nat.min_eq_left (by omega)).symm) ?_ (by rw [hl]; omega) (bl_one f s) ?_
    · intro j v hj
      have hjs : j < s := by
        have := (List.getElem?_eq_some_iff.1 hj).1
        rwa [hl] at this
      rw [bl_get _ _ _ hjs] at hj
      cases hj
      rw [Addr.add_mid]
      exact hc j hjs
    · rw [hl]
      refine h _ ⟨by rw [bl_len], .inr ⟨g, cap, _, rfl, hbase, setRow_heap w g cur _ 5 (0, 0) hg, hnc, hmx, ?_, ?_⟩⟩ (grown_row _ _ _)
      · simp [hl]
        omega
      · rw [Nat.mul_one]
        exact copied_row cur.toList F f n P s htk (by simp; omega) hfit
end Go.Proofs.Ytbiicdehgogikaa
