/- A row of whole numbers of the call's own, and one number appended to it. -/
import Derived.Test.YtoeanaadlihkeabDoorMkLem
import Derived.Deep.AppendLies
namespace Go.Proofs.YtoeanaadlihkeabDoor
open Go.ChangeShapes Go.WideShapes Go.ChangeAt Go.RowKit
set_option linter.unusedVariables false

def il (f : Nat → Nat) (n : Nat) : List Value := (List.range n).map fun j => Value.int .i64 (f j : Nat)

theorem il_snoc (f : Nat → Nat) (n y : Nat) (h : f n = y) : il f n ++ [.int .i64 (y : Nat)] = il f (n + 1) := by
  unfold il
  rw [List.range_succ, List.map_append]
  simp [h]

theorem il_get (f : Nat → Nat) (n j : Nat) (h : j < n) : (il f n)[j]? = some (.int .i64 (f j : Nat)) := by simp [il, h]

theorem info3 : (Tryd.prog.info? 3).map (fun i => (i.zero, i.size, i.bytes)) = some (some (.int .i64 0), 1, 8) := by kernel_rfl

theorem ownT_below {w w' : World} {base B n t : Nat} {v : Value} {xs : List Value} (h : w.ownsRow base t 1 v n xs) (hb : Below B w w') (hB : ∀ g, v.ownBlock = some g → g < B) : w'.ownsRow base t 1 v n xs := by
  refine ⟨h.1, ?_⟩
  rcases h.2 with h0 | ⟨g, cap, cur, hv, h1, hg, r⟩
  · exact .inl h0
  · exact .inr ⟨g, cap, cur, hv, h1, (hb.block g (hB g (by rw [hv]; rfl))).trans hg, r⟩

/-- One number that was just laid is appended. -/
theorem wpList_append_int {ops : Array Oper} {rest : List Oper} {o : Oper} {a : Act} {w0 : World} {Q : Exit → Act → World → Prop} (hgd : o.guard = none) (s x : Operand)
    (ho : o.op = .call { callee := .builtin .append, args := #[s, x], argTypes := #[35, 35] }) (base : Nat) (v : Value) (n : Nat) (f : Nat → Nat) (hs : a.eval s = v) (hown : w0.ownsRow base 3 1 v n (il f n))
    (z : Int) (hx : a.eval x = .slice (some ⟨w0.heap.size, 0, none⟩) 1 1) (hf : z = ((f n : Nat) : Int)) (h63 : n + 1 ≤ 100000) (hbase : base ≤ w0.heap.size)
    (h : ∀ g cap w', w'.ownsRow base 3 1 (.slice (some ⟨g, 0, none⟩) (n + 1) cap) (n + 1) (il f (n + 1)) → (w0.alloc (.cells #[.int .i64 z] 3)).grownBy w' v.ownBlock → (v.ownBlock = some g ∨ g = w0.heap.size + 1) → g < w'.heap.size → wpList Tryd.prog ops Q rest (a.put o.dst (.slice (some ⟨g, 0, none⟩) (n + 1) cap)) w') :
    wpList Tryd.prog ops Q (o :: rest) a (w0.alloc (.cells #[.int .i64 z] 3)) := by
  subst hf
  obtain ⟨i0, hi, hz0, hz1, hz2⟩ := info_parts info3
  have hb : Below w0.heap.size w0 (w0.alloc (.cells #[.int .i64 (f n : Nat)] 3)) := (Below.refl _ _).alloc (Nat.le_refl _) _
  refine wpList_append_lies _ hgd s x 35 ho base 3 i0 (.int .i64 0) 1 8 Tryd.underlying35 hi hz0 hz1 hz2 rfl (by decide) v n _ hs (ownT_below hown hb (fun g hg => (hown.lt g hg).2)) ⟨w0.heap.size, 0, none⟩ 1 1 [.int .i64 (f n : Nat)] hx (by rfl) ?_ (by simp [Value.oneCell']) (by decide) (by unfold maxLen; omega) (by omega) (by simp; omega) (w0.heap.size + 1) (by simp) ?_
  · intro j u hj
    have hj0 : j = 0 := by
      rcases j with _ | j
      · rfl
      · simp at hj
    subst hj0
    have e : (⟨w0.heap.size, 0, none⟩ : Addr).add 0 = ⟨w0.heap.size, 0, none⟩ := by simp [Addr.add]
    rw [e, (Has.new w0 3 #[.int .i64 (f n : Nat)]).cell 0]
    simpa using hj
  · intro g cap w' h1 h2 h3 h4
    rw [il_snoc f n (f n) rfl] at h1
    exact h g cap w' h1 h2 h3 h4

theorem own_ints {w : World} {base n : Nat} {v : Value} {f : Nat → Nat} (h : w.ownsRow base 3 1 v n (il f n)) : ∃ a cap, v = .slice a n cap ∧ n ≤ cap ∧ (a = none → n = 0 ∧ cap = 0) ∧ Ints w a n f := by
  rcases h.2 with ⟨rfl, rfl⟩ | ⟨g, cap, cur, rfl, hb, hg, hn, hm, hs, ht⟩
  · exact ⟨none, 0, rfl, Nat.le_refl _, fun _ => ⟨rfl, rfl⟩, .inl rfl⟩
  · have hlt : g < w.heap.size := (Array.getElem?_eq_some_iff.1 hg).1
    refine ⟨some ⟨g, 0, none⟩, cap, rfl, hn, (fun e => by cases e), .inr ⟨g, 0, rfl, hlt, ?_⟩⟩
    intro j hj
    rw [Nat.zero_add, h.cellAt j (by omega)]
    exact il_get f n j hj
end Go.Proofs.YtoeanaadlihkeabDoor
