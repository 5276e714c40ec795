/- Rows of ranges that grow. -/
import Derived.Test.YtacllicemnmpmaaArLawO
import Derived.Test.YtacllicemnmpmaaArOpen
import Derived.Deep.AppendLies
namespace Go.Proofs.Ytacllicemnmpmaa
open Go.ChangeShapes Go.WideShapes Go.ChangeAt Go.RowKit Go.Shelf
set_option linter.unusedVariables false

/-- Only at the operation that lays this slot. -/
theorem at_dst {ops : Array Oper} {rest : List Oper} {o : Oper} {a : Act} {w : World} {Q : Exit → Act → World → Prop} (d : Tmp) (h : o.dst = some d) (k : wpList Try.prog ops Q (o :: rest) a w) : wpList Try.prog ops Q (o :: rest) a w := k

def rl (F : Nat → R3) : Nat → List Value
  | 0 => []
  | n + 1 => rl F n ++ [.int .i64 (F n).d, .int .i64 (F n).f, .int .i64 (F n).c]

theorem rl_len (F : Nat → R3) (n : Nat) : (rl F n).length = n * 3 := by
  induction n with
  | zero => rfl
  | succ n ih => simp only [rl, List.length_append, ih, List.length_cons, List.length_nil]; omega

theorem rl_get (F : Nat → R3) (n i : Nat) (hi : i < n) : (rl F n)[i * 3]? = some (.int .i64 (F i).d) ∧ (rl F n)[i * 3 + 1]? = some (.int .i64 (F i).f) ∧ (rl F n)[i * 3 + 2]? = some (.int .i64 (F i).c) := by
  induction n with
  | zero => omega
  | succ n ih =>
    have hl := rl_len F n
    by_cases e : i < n
    · obtain ⟨a, b, c⟩ := ih e
      simp only [rl]
      rw [List.getElem?_append_left (by omega), List.getElem?_append_left (by omega), List.getElem?_append_left (by omega)]
      exact ⟨a, b, c⟩
    · obtain rfl : i = n := by omega
      simp only [rl]
      rw [List.getElem?_append_right (by omega), List.getElem?_append_right (by omega), List.getElem?_append_right (by omega), hl]
      rw [show i * 3 - i * 3 = 0 by omega, show i * 3 + 1 - i * 3 = 1 by omega, show i * 3 + 2 - i * 3 = 2 by omega]
      exact ⟨rfl, rfl, rfl⟩

theorem rl_congr {F G : Nat → R3} {n : Nat} (h : ∀ i, i < n → F i = G i) : rl F n = rl G n := by
  induction n with
  | zero => rfl
  | succ n ih => simp only [rl]; rw [ih (fun i hi => h i (by omega)), h n (by omega)]

theorem ownR_below {w w' : World} {base B n t k : Nat} {v : Value} {xs : List Value} (h : w.ownsRow base t k v n xs) (hb : Below B w w') (hB : ∀ g, v.ownBlock = some g → g < B) : w'.ownsRow base t k v n xs := by
  refine ⟨h.1, ?_⟩
  rcases h.2 with h0 | ⟨g, cap, cur, hv, h1, hg, r⟩
  · exact .inl h0
  · exact .inr ⟨g, cap, cur, hv, h1, (hb.block g (hB g (by rw [hv]; rfl))).trans hg, r⟩

theorem ownR_grown {w w' : World} {base n t k : Nat} {v : Value} {xs : List Value} {r : Option Nat} (h : w.ownsRow base t k v n xs) (hg : w.grownBy w' r) (hne : ∀ g, v.ownBlock = some g → r ≠ some g) : w'.ownsRow base t k v n xs := by
  refine ⟨h.1, ?_⟩
  rcases h.2 with h0 | ⟨g, cap, cur, hv, h1, hgg, r'⟩
  · exact .inl h0
  · exact .inr ⟨g, cap, cur, hv, h1, (hg.block g (Array.getElem?_eq_some_iff.1 hgg).1 (fun e => hne g (by rw [hv]; rfl) e.symm)).trans hgg, r'⟩

theorem own_rng {w : World} {base n : Nat} {v : Value} {F : Nat → R3} (h : w.ownsRow base 33 3 v n (rl F n)) : ∃ a cap, v = .slice a n cap ∧ n ≤ cap ∧ cap ≤ maxLen ∧ Rng w a n F := by
  rcases h.2 with ⟨rfl, rfl⟩ | ⟨g, cap, cur, rfl, hb, hg, hn, hm, hs, ht⟩
  · exact ⟨none, 0, rfl, Nat.le_refl _, Nat.zero_le _, .inl rfl⟩
  · have hlt : g < w.heap.size := (Array.getElem?_eq_some_iff.1 hg).1
    refine ⟨some ⟨g, 0, none⟩, cap, rfl, hn, hm, .inr ⟨g, 0, rfl, hlt, fun i hi => ?_⟩⟩
    obtain ⟨a, b, c⟩ := rl_get F n i hi
    rw [Nat.zero_add, h.cellAt (i * 3) (by omega), h.cellAt (i * 3 + 1) (by omega), h.cellAt (i * 3 + 2) (by omega)]
    exact ⟨a, b, c⟩

theorem infoR : (Try.prog.info? 33).map (fun i => (i.zero, i.size, i.bytes)) = some (some (.agg #[.int .i64 0, .int .i64 0, .int .i64 0]), 3, 24) := by kernel_rfl

/-- One range that was just laid is appended. -/
theorem wpList_append_r3 {ops : Array Oper} {rest : List Oper} {o : Oper} {a : Act} {w0 : World} {Q : Exit → Act → World → Prop} (hgd : o.guard = none) (s x : Operand)
    (ho : o.op = .call { callee := .builtin .append, args := #[s, x], argTypes := #[27, 27] }) (base : Nat) (v : Value) (n : Nat) (F : Nat → R3) (hs : a.eval s = v) (hown : w0.ownsRow base 33 3 v n (rl F n))
    (d f c : Int) (hx : a.eval x = .slice (some ⟨w0.heap.size, 0, none⟩) 1 1) (hd : d = (F n).d) (hf : f = (F n).f) (hc : c = (F n).c) (h63 : n + 1 ≤ 100000) (hbase : base ≤ w0.heap.size)
    (h : ∀ g cap w', w'.ownsRow base 33 3 (.slice (some ⟨g, 0, none⟩) (n + 1) cap) (n + 1) (rl F (n + 1)) → (w0.alloc (.cells #[.int .i64 d, .int .i64 f, .int .i64 c] 33)).grownBy w' v.ownBlock → (v.ownBlock = some g ∨ g = w0.heap.size + 1) → g < w'.heap.size → wpList Try.prog ops Q rest (a.put o.dst (.slice (some ⟨g, 0, none⟩) (n + 1) cap)) w') :
    wpList Try.prog ops Q (o :: rest) a (w0.alloc (.cells #[.int .i64 d, .int .i64 f, .int .i64 c] 33)) := by
  subst hd hf hc
  obtain ⟨i0, hi, hz0, hz1, hz2⟩ := info_parts infoR
  have hb : Below w0.heap.size w0 (w0.alloc (.cells #[.int .i64 (F n).d, .int .i64 (F n).f, .int .i64 (F n).c] 33)) := (Below.refl _ _).alloc (Nat.le_refl _) _
  refine wpList_append_lies _ hgd s x 27 ho base 33 i0 (.agg #[.int .i64 0, .int .i64 0, .int .i64 0]) 3 24 Try.underlying27 hi hz0 hz1 hz2 rfl (by decide) v n _ hs (ownR_below hown hb (fun g hg => (hown.lt g hg).2)) ⟨w0.heap.size, 0, none⟩ 1 1 [.int .i64 (F n).d, .int .i64 (F n).f, .int .i64 (F n).c] hx (by rfl) ?_ (by simp [Value.oneCell']) (by decide) (by unfold maxLen; omega) (by omega) (by simp; omega) (w0.heap.size + 1) (by simp) ?_
  · intro j u hj
    have e : (⟨w0.heap.size, 0, none⟩ : Addr).add j = ⟨w0.heap.size, j, none⟩ := by simp [Addr.add]; exact fun h => h.symm
    rw [e, (Has.new w0 33 #[.int .i64 (F n).d, .int .i64 (F n).f, .int .i64 (F n).c]).cell j]
    simpa using hj
  · intro g cap w' h1 h2 h3 h4
    exact h g cap w' h1 h2 h3 h4

/-- Moved, and named otherwise. -/
def mv (F : Nat → R3) (by' : Int) (i : Nat) : R3 := ⟨3 * (F i).d + 1, (F i).f + by', (F i).c⟩

def Good (r : R3) : Prop := 0 ≤ r.f ∧ r.f ≤ 1048576 ∧ r.c ≤ 1048576 ∧ r.d ≤ 1099511627776 ∧ -1099511627776 ≤ r.d

theorem lies_mv (f c b : Int) (h1 : 0 ≤ f) (h2 : f ≤ 1048576) (h3 : c ≤ 1048576) (h4 : 0 ≤ b) (h5 : b < 1000) : liesB (f + b) c = liesB f c := by
  unfold liesB
  exact decide_eq_decide.2 (by omega)

theorem share_mv (F : Nat → R3) (b : Int) (h4 : 0 ≤ b) (h5 : b < 1000) (i j : Nat) (hi : Good (F i)) (hj : Good (F j)) : SS F i j = SS (mv F b) i j := by
  obtain ⟨a1, a2, a3, a4, a5⟩ := hi
  obtain ⟨c1, c2, c3, c4, c5⟩ := hj
  unfold SS shareB mv
  simp only
  rw [lies_mv _ _ b a1 a2 a3 h4 h5, lies_mv _ _ b c1 c2 c3 h4 h5]
  have e1 : (F i).d = (F j).d ↔ 3 * (F i).d + 1 = 3 * (F j).d + 1 := by omega
  have e2 : (F i).f < (F j).f + (F j).c ↔ (F i).f + b < (F j).f + b + (F j).c := by omega
  have e3 : (F j).f < (F i).f + (F i).c ↔ (F j).f + b < (F i).f + b + (F i).c := by omega
  exact decide_eq_decide.2 (by rw [e1, e2, e3])
end Go.Proofs.Ytacllicemnmpmaa
