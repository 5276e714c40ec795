/- Single operations within a fence, by what they yield; calls in a round by plain contracts. -/
import Derived.RangeFuncBox
import Derived.RangeFuncLeaves
import Derived.Shelf.Abstract
import Derived.WalkKit
import Derived.OwnWalkIn
import Derived.TacticsInMore
import Derived.LoopNIn
import Derived.LoopIn
import Derived.Maps.AppendAt
import Derived.RangeFuncCalls
import Derived.OrdersIn
import Derived.Test.YtancebpjfbbcaaaCcBack
namespace Go.Proofs.Ytancebpjfbbcaaa
open Go.RowKit Go.Shelf
set_option linter.unusedVariables false

theorem wpListIn_val {F : Fence} {n : Nat} {ops : Array Oper} {rest : List Oper} {o : Oper} {a : Act} {w w' : World} {Q : Exit → Act → World → Prop} (hg : o.guard = none) (v : Value) (hab : ∀ f, o.about Try.prog w a.eval = some f → F.fn f) (hd : ∀ c, o.op ≠ .defer c)
    (hr : (execOp a.eval o).run Try.prog w = .ok (.value v) w') (h : wpListIn F n Try.prog ops Q rest (a.put o.dst v) w') : wpListIn F n Try.prog ops Q (o :: rest) a w := by
  refine wpListIn_plain hg fun K hK' => ?_
  unfold Oper.wpIn
  refine ⟨hab, ?_⟩
  rw [Oper.semAt_plain F _ _ hd, hr]
  exact hK' _ _ h

theorem wpListIn_skp {F : Fence} {n : Nat} {ops : Array Oper} {rest : List Oper} {o : Oper} {a : Act} {w w' : World} {Q : Exit → Act → World → Prop} (hg : o.guard = none) (hab : ∀ f, o.about Try.prog w a.eval = some f → F.fn f) (hd : ∀ c, o.op ≠ .defer c)
    (hr : (execOp a.eval o).run Try.prog w = .ok .skip w') (h : wpListIn F n Try.prog ops Q rest (a.put o.dst undef) w') : wpListIn F n Try.prog ops Q (o :: rest) a w := by
  refine wpListIn_plain hg fun K hK' => ?_
  unfold Oper.wpIn
  refine ⟨hab, ?_⟩
  rw [Oper.semAt_plain F _ _ hd, hr]
  exact hK' _ _ h

/-- A plain contract serves in a round of a wide fence. -/
theorem callsIn_round {l n : Nat} {f : FuncId} {args : Array Value} {w : World} {R : Ending → World → Prop} (h : Calls Try.prog f args w R) : CallsIn (Fence.wide.inRound l) n Try.prog f args w R := CallsIn.inRound l (callsIn_wide.2 h)

/-- What an operation does in the plain walk it does in a round of the wide fence. -/
theorem op_bridge {l n : Nat} {o : Oper} {a : Act} {w : World} {K : Act → World → Prop} {Q : Exit → Act → World → Prop} (hd : ∀ c, o.op ≠ .defer c) (h : o.wp Try.prog a w K Q) : o.wpIn (Fence.wide.inRound l) n Try.prog a w K Q := by
  refine ⟨fun _ _ => trivial, ?_⟩
  rw [Oper.semAt_plain (Fence.wide.inRound l) _ _ hd]
  unfold Oper.wp at h
  cases hr : (execOp a.eval o).run Try.prog w with
  | halt x w' =>
    rw [hr] at h
    cases x with
    | panic v => exact h
    | _ => exact h.elim
  | ok x w' =>
    rw [hr] at h
    cases x with
    | value v => exact h
    | skip => exact h
    | defer d => exact h
    | enter f args =>
      refine ⟨fun hh => (by cases hh), CallsIn.inRound l (CallsIn.mono (callsIn_wide.2 h) fun e w'' hh => ?_)⟩
      cases e <;> exact hh
    | row row args => exact ⟨fun hh => (by cases hh), fun c cs _ => let ⟨v, w2, r, s⟩ := h c cs; ⟨v, w2, r, stepsIn_wide.2 s⟩⟩
    | _ => exact h.elim

theorem op_in {l n : Nat} {o : Oper} {a : Act} {w : World} {K K' : Act → World → Prop} {Q : Exit → Act → World → Prop} (hd : ∀ c, o.op ≠ .defer c) (hQ : ¬ LetsOut Q) (hK : ∀ a w, K a w → K' a w) (h : o.wp Try.prog a w K Q ∨ (o.asks Try.prog a w ∧ LetsOut Q)) : o.wpIn (Fence.wide.inRound l) n Try.prog a w K' Q := by
  rcases h with h | ⟨_, h⟩
  · exact op_bridge hd (Oper.wp_mono hK h)
  · exact absurd h hQ

/-- A region's plain walk, in a round. -/
theorem list_in {l n : Nat} {ops : Array Oper} {Q : Exit → Act → World → Prop} (hQ : ¬ LetsOut Q) : ∀ (rest : List Oper) (hd : ∀ o ∈ rest, ∀ c, o.op ≠ .defer c) (a : Act) (w : World), wpList Try.prog ops Q rest a w → wpListIn (Fence.wide.inRound l) n Try.prog ops Q rest a w := by
  intro rest
  induction rest with
  | nil => intro _ a w h; exact h
  | cons o rest ih =>
    intro hd a w h
    unfold wpList at h
    unfold wpListIn
    split
    · rename_i hw
      rw [if_pos hw] at h
      exact op_in (hd o (by simp)) hQ (fun a w => ih (fun o' ho' => hd o' (by simp [ho'])) a w) h
    · rename_i hw
      rw [if_neg hw] at h
      exact ⟨fun _ _ => trivial, ih (fun o' ho' => hd o' (by simp [ho'])) _ _ h⟩

theorem any_in {l n : Nat} {md : Region.Mode} {ops : Array Oper} {Q : Exit → Act → World → Prop} (hQ : ¬ LetsOut Q) (hd : ∀ (i : Nat) o, ops[i]? = some o → ∀ c, o.op ≠ .defer c) : ∀ (fuel : Nat) (listed : Array Bool) (a : Act) (w : World), wpAny Try.prog md ops Q fuel listed a w → wpAnyIn (Fence.wide.inRound l) n Try.prog md ops Q fuel listed a w := by
  intro fuel
  induction fuel with
  | zero => intro listed a w h; exact h
  | succ fuel ih =>
    intro listed a w h
    refine ⟨h.1, fun i hi => ?_⟩
    have h2 := h.2 i hi
    unfold wpOp at h2
    unfold wpOpIn
    cases ho : ops[i]? with
    | none =>
      rw [ho] at h2
      exact ih _ _ _ h2
    | some o =>
      rw [ho] at h2
      dsimp only at h2 ⊢
      split
      · rename_i hw
        rw [if_pos hw] at h2
        exact op_in (hd i o ho) hQ (fun a w => ih _ a w) h2
      · rename_i hw
        rw [if_neg hw] at h2
        exact ⟨fun _ _ => trivial, ih _ _ _ h2⟩

/-- A region that draws its order, in a round, by the plain walk of every order. -/
theorem region_any_in {l n id : Nat} {ops : Array Oper} {Q : Exit → Act → World → Prop} {a : Act} {w : World} (hQ : ¬ LetsOut Q) (hd : (ops.all fun o => match o.op with | .defer _ => false | _ => true) = true) (h : wpAny Try.prog .any ops Q ops.size (Array.replicate ops.size false) a w.drew) : (Code.region id ops true).wpIn (Fence.wide.inRound l) n Try.prog Q a w := by
  refine wpIn_region_any (by kernel_rfl) (any_in hQ (fun i o ho c hc => ?_) _ _ _ _ h)
  have hi := Array.all_eq_true.1 hd i (Array.getElem?_eq_some_iff.1 ho).1
  rw [(Array.getElem?_eq_some_iff.1 ho).2, hc] at hi
  cases hi

/-- One that does not, in a round. -/
theorem region_list_in {l n id : Nat} {ops : List Oper} {Q : Exit → Act → World → Prop} {a : Act} {w : World} (hQ : ¬ LetsOut Q) (hd : (ops.all fun o => match o.op with | .defer _ => false | _ => true) = true) (h : wpList Try.prog ops.toArray Q ops a w) : (Code.region id ops.toArray false).wpIn (Fence.wide.inRound l) n Try.prog Q a w := by
  refine wpIn_region_lit (list_in hQ ops (fun o ho c hc => ?_) a w h)
  have hi := List.all_eq_true.1 hd o ho
  rw [hc] at hi
  cases hi

/-- With what is held: the words takeTo, ready1, stepVal, stepCall serve. -/
theorem region_held_in {l n id : Nat} {ops : Array Oper} {Q : Exit → Act → World → Prop} {S : World → Prop} {a : Act} {w : World} (hQ : ¬ LetsOut Q) (hd : (ops.all fun o => match o.op with | .defer _ => false | _ => true) = true) (hS : S w.drew) (h : S w.drew → wpAnyH Try.prog .any ops Q S ops.size (Array.replicate ops.size false) a w.drew) : (Code.region id ops true).wpIn (Fence.wide.inRound l) n Try.prog Q a w :=
  region_any_in hQ hd (wpAny_of_held _ _ _ _ (h hS))

theorem Has.ownF {A B : World} {g t D : Nat} {cs : Array Value} {row : Option Nat} (h : Has A g t cs) (hg : A.grownBy B row) (hr : ∀ r, row = some r → D ≤ r ∧ ∃ o : Obj, A.heap[r]? = some o ∧ o.isCells = false) : Has B g t cs := by
  refine (hg.block g h.lt fun e => ?_).trans h
  obtain ⟨_, o, ho, hc⟩ := hr g e.symm
  have h' : A.heap[g]? = some (.cells cs t (0, 0)) := h
  rw [h'] at ho
  cases ho
  cases hc

theorem next_range {m : Nat} {pre : List Nat} {x : Nat} (h : pre ++ [x] <+: List.range m) : x < m ∧ pre = List.range x := by
  obtain ⟨t, ht⟩ := h
  have hl := congrArg List.length ht
  simp at hl
  have hkm : pre.length < m := by omega
  have e2 : (List.range m)[pre.length]? = some x := by rw [← ht]; simp
  have e3 : (List.range m)[pre.length]? = some pre.length := by simp [hkm]
  rw [e3] at e2
  have hx : pre.length = x := Option.some.inj e2
  refine ⟨by omega, ?_⟩
  have e1 : (List.range m).take pre.length = pre := by rw [← ht]; simp
  rw [← e1, List.take_range, Nat.min_eq_left (by omega), hx]

/-- The frame of a round, its group in block B. -/
def AtG (T : Nat → Nat → Array Value) (mv lv : Nat → Value) (n : Nat) (x : Nat) (a' : Act) (W : World) : Prop := ∃ B, a' = { tmps := T x B, defers := [] } ∧ Has W B 70 #[mv (n - 1 - x), lv (n - 1 - x)]

theorem atG_own (T : Nat → Nat → Array Value) (mv lv : Nat → Value) (n D : Nat) (x : Nat) (a' : Act) : OwnFrom D (fun (_ : Unit) W => AtG T mv lv n x a' W) := by
  rintro _ A B row ⟨b, h1, h2⟩ hg hr
  exact ⟨b, h1, h2.ownF hg hr⟩
end Go.Proofs.Ytancebpjfbbcaaa
