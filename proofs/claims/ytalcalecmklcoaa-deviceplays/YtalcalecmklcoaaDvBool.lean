/- A row of trues of the call's own; devices beside it. -/
import Derived.Test.YtalcalecmklcoaaDvSureM
import Derived.Test.YtalcalecmklcoaaDvSaysM
import Derived.Deep.AppendLies
namespace Go.Proofs.Ytalcalecmklcoaa
open Go.ChangeShapes Go.WideShapes Go.ChangeAt Go.RowKit
set_option linter.unusedVariables false

def tl (n : Nat) : List Value := List.replicate n (.bool true)

theorem info4 : (Try.prog.info? 4).map (fun i => (i.zero, i.size, i.bytes)) = some (some (.bool false), 1, 1) := by kernel_rfl

theorem ownB_below {w w' : World} {base B n : Nat} {v : Value} {xs : List Value} (h : w.ownsRow base 4 1 v n xs) (hb : Below B w w') (hB : ∀ g, v.ownBlock = some g → g < B) : w'.ownsRow base 4 1 v n xs := by
  refine ⟨h.1, ?_⟩
  rcases h.2 with h0 | ⟨g, cap, cur, hv, h1, hg, r⟩
  · exact .inl h0
  · exact .inr ⟨g, cap, cur, hv, h1, (hb.block g (hB g (by rw [hv]; rfl))).trans hg, r⟩

theorem wpList_append_true {ops : Array Oper} {rest : List Oper} {o : Oper} {a : Act} {w0 : World} {Q : Exit → Act → World → Prop} (hgd : o.guard = none) (s x : Operand)
    (ho : o.op = .call { callee := .builtin .append, args := #[s, x], argTypes := #[34, 34] }) (base : Nat) (v : Value) (n : Nat) (hs : a.eval s = v) (hown : w0.ownsRow base 4 1 v n (tl n))
    (hx : a.eval x = .slice (some ⟨w0.heap.size, 0, none⟩) 1 1) (h63 : n + 1 ≤ 100000) (hbase : base ≤ w0.heap.size)
    (h : ∀ g cap w', w'.ownsRow base 4 1 (.slice (some ⟨g, 0, none⟩) (n + 1) cap) (n + 1) (tl (n + 1)) → (w0.alloc (.cells #[.bool true] 4)).grownBy w' v.ownBlock → wpList Try.prog ops Q rest (a.put o.dst (.slice (some ⟨g, 0, none⟩) (n + 1) cap)) w') :
    wpList Try.prog ops Q (o :: rest) a (w0.alloc (.cells #[.bool true] 4)) := by
  obtain ⟨i0, hi, hz0, hz1, hz2⟩ := info_parts info4
  have hb : Below w0.heap.size w0 (w0.alloc (.cells #[.bool true] 4)) := (Below.refl _ _).alloc (Nat.le_refl _) _
  refine wpList_append_lies _ hgd s x 34 ho base 4 i0 (.bool false) 1 1 Try.underlying34 hi hz0 hz1 hz2 rfl (by decide) v n _ hs (ownB_below hown hb (fun g hg => (hown.lt g hg).2)) ⟨w0.heap.size, 0, none⟩ 1 1 [.bool true] hx (by rfl) ?_ (by simp [Value.oneCell']) (by decide) (by unfold maxLen; omega) (by omega) (by simp; omega) (w0.heap.size + 1) (by simp) ?_
  · intro j u hj
    have hj0 : j = 0 := by
      rcases j with _ | j
      · rfl
      · simp at hj
    subst hj0
    have e : (⟨w0.heap.size, 0, none⟩ : Addr).add 0 = ⟨w0.heap.size, 0, none⟩ := by simp [Addr.add]
    rw [e, (Has.new w0 4 #[.bool true]).cell 0]
    simpa using hj
  · intro g cap w' h1 h2 h3 h4
    rw [show tl n ++ [.bool true] = tl (n + 1) from (List.replicate_succ' (n := n)).symm] at h1
    exact h g cap w' h1 h2

theorem own_trues {w : World} {base n : Nat} {v : Value} (h : w.ownsRow base 4 1 v n (tl n)) : ∃ a cap, v = .slice a n cap ∧ n ≤ cap ∧ Bools w a n (fun _ => true) := by
  rcases h.2 with ⟨rfl, rfl⟩ | ⟨g, cap, cur, rfl, hb, hg, hn, hm, hs, ht⟩
  · exact ⟨none, 0, rfl, Nat.le_refl _, .inl rfl⟩
  · have hlt : g < w.heap.size := (Array.getElem?_eq_some_iff.1 hg).1
    refine ⟨some ⟨g, 0, none⟩, cap, rfl, hn, .inr ⟨g, 0, rfl, hlt, ?_⟩⟩
    intro j hj
    rw [Nat.zero_add, h.cellAt j (by omega)]
    simp [tl, hj]

/-- A row of the call's own grew: a device that was there ahead of it is as it was. -/
theorem In.grown {D : DevRep} {B Z : Nat} {w0 w w' : World} {p c m : Nat} {s : DS} {F : Nat → Prop} {row : Option Nat} (h : In D B w0 w p s c m F) (hD : DevOk D) (hg : w.grownBy w' row) (hrow : ∀ r, row = some r → Z ≤ r) (hF : ∀ k, F k → k < Z) (hc : c < Z) (hZ : B ≤ Z) : In D B w0 w' p s c m F :=
  h.only hD (G := fun k => some k = row) ⟨hg.os, hg.tape, hg.output, hg.size, fun k hk hn => hg.block k hk hn⟩ (fun k hk e => by have := hF k hk; have := hrow k e.symm; omega) (fun e => by have := hrow c e.symm; omega) (fun k e => by have := hrow k e.symm; omega)

/-- All bytes of a device are bytes. -/
def BytS (s : DS) : Prop := (∀ i j, s.fst i j < 256) ∧ ∀ e, e ∈ s.log → ∀ j, e.b j < 256

theorem upF_lt (f : Nat → Nat → Nat) (e : AE) (h : ∀ i j, f i j < 256) (he : ∀ j, e.b j < 256) : ∀ i j, upF f e i j < 256 := by
  intro i j
  unfold upF
  split
  · exact he j
  · exact h i j

theorem fold_lt (l : List AE) : ∀ f : Nat → Nat → Nat, (∀ i j, f i j < 256) → (∀ e, e ∈ l → ∀ j, e.b j < 256) → ∀ i j, l.foldl upF f i j < 256 := by
  induction l with
  | nil => intro f h _; exact h
  | cons d l ih => intro f h he; exact ih (upF f d) (upF_lt f d h (he d (by simp))) (fun e hm => he e (by simp [hm]))

theorem left_lt (keep : Nat → Bool) (l : List AE) : ∀ (k : Nat) (f : Nat → Nat → Nat), (∀ i j, f i j < 256) → (∀ e, e ∈ l → ∀ j, e.b j < 256) → ∀ i j, left keep k l f i j < 256 := by
  intro k f h he i j
  rcases left_or keep l k f i with e | ⟨e, hm, _, _, e3⟩
  · rw [e]; exact h i j
  · rw [e3]; exact he e hm j

theorem holds_lt (s : DS) (h : BytS s) : ∀ i j, holds s i j < 256 := fold_lt s.log s.fst h.1 h.2
theorem byt_cut (s : DS) (k : Nat → Bool) (h : BytS s) : BytS (cutD s k) := ⟨left_lt k s.log 0 s.fst h.1 h.2, fun e he => by cases he⟩

theorem byt_wr (s : DS) (i : Int) (b : Nat → Nat) (L m : Nat) (h : BytS s) (hb : ∀ j, b j < 256) : BytS (wrS s i b L m) := by
  unfold wrS
  split
  · refine ⟨h.1, fun e he => ?_⟩
    rcases List.mem_append.1 he with he | he
    · exact h.2 e he
    · obtain rfl := List.mem_singleton.1 he
      exact full_lt b L hb
  · exact h

theorem byt_sy (s : DS) (m : Nat) (h : BytS s) : BytS (syS s m) := by
  unfold syS
  split
  · exact h
  · refine ⟨h.1, fun e he => ?_⟩
    rcases List.mem_append.1 he with he | he
    · exact h.2 e he
    · obtain rfl := List.mem_singleton.1 he
      intro j
      show 0 < 256
      decide

theorem byt_fresh (n : Nat) : BytS (fresh n) := ⟨fun _ _ => by show 0 < 256; decide, fun e he => by cases he⟩

/-- The states of DeviceSettled. -/
theorem settled_facts (s : DS) (kp ag : Nat → Bool) (i : Nat) (hn : s.n = 8) (hd : s.dead = false) (hb : NoBad s) (hi : i < 8) :
    rdErr s (i : Int) = 0 ∧ rdErr (cutD s kp) (i : Int) = 0 ∧ rdErr (cutD (cutD s kp) ag) (i : Int) = 0 ∧ rdErr (cutD s (keepOf (fun _ => true) (wrs s.log))) (i : Int) = 0 ∧ rdErr (cutAtD s (wrs s.log : Nat) (keepOf (fun _ => true) (wrs s.log))) (i : Int) = 0 ∧
    holds (cutD (cutD s kp) ag) = holds (cutD s kp) ∧ holds (cutD s (keepOf (fun _ => true) (wrs s.log))) = holds s ∧ holds (cutAtD s (wrs s.log : Nat) (keepOf (fun _ => true) (wrs s.log))) = holds s := by
  have h8 : i < s.n := by omega
  refine ⟨rdErr_ok s i hd h8 (hb i), rdErr_ok _ i hd h8 (hb i), rdErr_ok _ i hd h8 (hb i), rdErr_ok _ i hd h8 (hb i), rdErr_ok _ i hd h8 (hb i), rfl, ?_, ?_⟩
  · exact left_all _ s.log 0 s.fst (fun q h1 h2 => by unfold keepOf; simp; omega)
  · show left _ 0 (upTo (min ((wrs s.log : Nat) : Int).toNat (wrs s.log)) s.log) s.fst = _
    rw [Int.toNat_natCast, Nat.min_self, left_all _ _ 0 s.fst (fun q h1 h2 => by have := upTo_wrs s.log (wrs s.log); unfold keepOf; simp; omega)]
    exact upTo_fold s.log s.fst
end Go.Proofs.Ytalcalecmklcoaa
