/- Texts on the program's own functions, joined. -/
import Derived.Test.YtoeanaadlihkeabDoorMkLem
import Derived.RangeFuncBox
import Derived.RangeFuncLeaves
import Derived.Shelf.Abstract
import Derived.WalkKit
import Derived.OwnWalkIn
import Derived.TacticsInMore
import Derived.LoopNIn
import Derived.LoopIn
import Derived.Maps.AppendAt
import Derived.RangeFuncCalls
import Derived.OrdersIn
import Derived.Test.YtoeanaadlihkeabDoorMkOps
import Derived.Laws.CopyOwn

/- The program's hash of a sector: New, Write of the kind, Write of the sector, Sum. -/
namespace Go.Proofs.YtoeanaadlihkeabDoor
open Go.ChangeShapes Go.WideShapes Go.ChangeAt Go.RowKit
set_option linter.unusedVariables false

/-- What holds of the world while bytes are taken in. -/
def HInv (w wr : World) (m : Nat → Nat) (N : Nat) : Prop :=
  Has wr w.heap.size 24 (cellsN .u8 32 fun _ => 0) ∧ Hash Hc Kc wr (w.heap.size + 1) m N ∧ Below w.heap.size w wr ∧ Glob Hc Kc wr

theorem But.has {g k t : Nat} {w w' : World} {cs : Array Value} (h : But g w w') (hk : Has w k t cs) (hne : k ≠ g) : Has w' k t cs := (h.2.2.2.2 k hk.lt hne).trans hk

theorem HInv.wrote {m : Nat → Nat} {w wr w' : World} {N N' : Nat} (h : HInv w wr m N) (h1 : 1 < w.heap.size) (hb : But (w.heap.size + 1) wr w') (hh : Hash Hc Kc w' (w.heap.size + 1) m N') : HInv w w' m N' := by
  obtain ⟨a, b, c, d⟩ := h
  exact ⟨hb.has a (by omega), hh, c.trans (hb.below (Nat.le_succ _) c.size), d.but hb (by omega)⟩

theorem HInv.alloc {m : Nat → Nat} {w wr : World} {N : Nat} (h : HInv w wr m N) (o : Obj) : HInv w (wr.alloc o) m N := by
  obtain ⟨a, b, c, d⟩ := h
  exact ⟨a.alloc _, b.below ((Below.refl _ _).alloc (Nat.le_refl _) o) b.lt, c.trans ((Below.refl _ _).alloc c.size o), d.alloc o⟩

theorem kind_bytes (w : World) (kd : Nat) (f : Nat → Nat) : Bytes (w.alloc (.cells #[.int .u8 (kd : Nat)] 5)) (some ⟨w.heap.size, 0, none⟩) 1 fun j => cat (fun _ => kd) 1 f (0 + j) := by
  refine .inr ⟨w.heap.size, 0, rfl, by simp, ?_⟩
  intro j hj
  obtain rfl : j = 0 := by omega
  rw [(Has.new w 5 #[.int .u8 (kd : Nat)]).cell 0]
  rfl

set_option maxRecDepth 100000 in
set_option maxHeartbeats 1600000 in
theorem mhash_any (kd : Nat) (f : Nat → Nat) (a : Option Addr) (c : Nat) (w : World) (hG : Glob Hc Kc w) (hk : kd < 256) (hb : Bytes w a 64 f) (hf : ∀ j, f j < 256) (hc : 64 ≤ c) :
    Calls Tryd.prog 15 #[.int .u8 (kd : Nat), .slice a (64 : Nat) c] w fun e w' => e = .returned (.agg (cellsN .u8 32 (hsh kd f))) ∧ Below w.heap.size w w' := by
  obtain ⟨m, hm⟩ : ∃ m, m = cat (fun _ => kd) 1 f := ⟨_, rfl⟩
  have hml : ∀ j, m j < 256 := by rw [hm]; exact cat_lt _ _ _ (fun _ => hk) hf
  have hnew := new_sum m hG
  have h1 := hG.1
  have hkb := fun w => kind_bytes w kd f
  rw [← hm] at hkb
  have hbm : Bytes w a 64 fun j => m (1 + j) := hb.congr (fun j _ => by rw [hm]; unfold cat; rw [if_neg (by omega), Nat.add_sub_cancel_left])
  have HM : Hid (hsh kd f = SHA Hc Kc m 65) := (by rw [hm]; rfl)
  rw [HM.out]
  clear hm
  go_enter Tryd.func15, Tryd.ntmps15
  go_wp2_with (first
    | ((go_at_call 18)
       (refine hnew.mono ?_)
       (rintro e w1 ⟨rfl, hS1⟩)
       (have hI1 := HInv.alloc (⟨hS1.1, hS1.2.1, hS1.2.2.1, hS1.2.2.2.1⟩ : HInv w w1 m 0) (.cells #[.int .u8 (kd : Nat)] 5))
       (have hwr := write_any 1 hI1.2.2.2 Hc_lt6 hml (by omega) (Nat.le_refl 1) (by omega) hI1.2.1 (hkb w1) (.inr (fun b off e => by cases e; have := hS1.2.2.2.2; omega)))
       (clear hnew hS1))
    | ((go_at_call 19)
       (have _t := hI1)
       (refine hwr.mono ?_)
       (rintro e w2 ⟨rfl, hh2, hb2⟩)
       (have hI2 := hI1.wrote h1 hb2 hh2)
       (have hwr2 := write_any c hI2.2.2.2 Hc_lt6 hml (by omega) hc (by omega) hI2.2.1 (hbm.below hI2.2.2.1 (Nat.le_refl _)) (hbm.apart (by omega)))
       (clear hwr hb2 hh2 hI1 _t))
    | ((go_at_call 19)
       (have _t := hI2)
       (refine hwr2.mono ?_)
       (rintro e w3 ⟨rfl, hh3, hb3⟩)
       (have hI3 := hI2.wrote h1 hb3 hh3)
       (have hs := hsum_any Hc Kc m (w.heap.size + 1) 65 w3 hI3.2.2.2 Hc_lt6 hml (by omega) (by omega) hI3.2.1)
       (obtain ⟨q, hq⟩ : ∃ q, q = SHA Hc Kc m 65 := ⟨_, rfl⟩)
       (have HQ : Hid (q = SHA Hc Kc m 65) := hq)
       (rw [← hq] at hs)
       (clear hwr2 hb3 hh3 hI2 _t hq))
    | ((go_at_call 20)
       (refine hs.mono ?_)
       (rintro e w4 ⟨rfl, hb4⟩)
       (have hR4 : Has w4 w.heap.size 24 (cellsN .u8 32 fun _ => 0) := hI3.1.below hb4 hI3.1.lt)
       (have hB4 : Below w.heap.size w w4 := hI3.2.2.1.trans (hb4.mono hI3.2.2.1.size))
       (clear hb4 hs))
    | ((refine wpList_store_rowG rfl 24 _ _ rfl (w.heap.size) (cellsN .u8 32 q) rfl rfl 24 _ hR4 (by rw [cellsN_size]; exact Tryd.size24) (by simp [cellsN_size]) (cellsN_one _ _ _) ?_)
       (intro w6 hw6)
       (have hR6 : Has w6 w.heap.size 24 (cellsN .u8 32 q) := (by rw [hw6]; exact hR4.setRow _))
       (have hB6 : Below w.heap.size w w6 := (by rw [hw6]; exact below_setRow hB4 (Nat.le_refl _) _))
       (clear hw6)))
  exact bodyPost_ret (results_cell_row rfl _ _ (w.heap.size) 24 _ (0, 0) _ rfl hR6 Tryd.underlying24 rfl (by rw [cellsN_size]; exact Tryd.size24)) rfl ⟨by rw [HQ.out], hB6⟩
end Go.Proofs.YtoeanaadlihkeabDoor

/- Single operations within a fence, by what they yield; calls in a round by plain contracts. -/
namespace Go.Proofs.YtoeanaadlihkeabDoor
open Go.RowKit Go.Shelf
set_option linter.unusedVariables false

theorem wpListIn_val {F : Fence} {n : Nat} {ops : Array Oper} {rest : List Oper} {o : Oper} {a : Act} {w w' : World} {Q : Exit → Act → World → Prop} (hg : o.guard = none) (v : Value) (hab : ∀ f, o.about Tryd.prog w a.eval = some f → F.fn f) (hd : ∀ c, o.op ≠ .defer c)
    (hr : (execOp a.eval o).run Tryd.prog w = .ok (.value v) w') (h : wpListIn F n Tryd.prog ops Q rest (a.put o.dst v) w') : wpListIn F n Tryd.prog ops Q (o :: rest) a w := by
  refine wpListIn_plain hg fun K hK' => ?_
  unfold Oper.wpIn
  refine ⟨hab, ?_⟩
  rw [Oper.semAt_plain F _ _ hd, hr]
  exact hK' _ _ h

theorem wpListIn_skp {F : Fence} {n : Nat} {ops : Array Oper} {rest : List Oper} {o : Oper} {a : Act} {w w' : World} {Q : Exit → Act → World → Prop} (hg : o.guard = none) (hab : ∀ f, o.about Tryd.prog w a.eval = some f → F.fn f) (hd : ∀ c, o.op ≠ .defer c)
    (hr : (execOp a.eval o).run Tryd.prog w = .ok .skip w') (h : wpListIn F n Tryd.prog ops Q rest (a.put o.dst undef) w') : wpListIn F n Tryd.prog ops Q (o :: rest) a w := by
  refine wpListIn_plain hg fun K hK' => ?_
  unfold Oper.wpIn
  refine ⟨hab, ?_⟩
  rw [Oper.semAt_plain F _ _ hd, hr]
  exact hK' _ _ h

/-- A plain contract serves in a round of a wide fence. -/
theorem callsIn_round {l n : Nat} {f : FuncId} {args : Array Value} {w : World} {R : Ending → World → Prop} (h : Calls Tryd.prog f args w R) : CallsIn (Fence.wide.inRound l) n Tryd.prog f args w R := CallsIn.inRound l (callsIn_wide.2 h)

/-- What an operation does in the plain walk it does in a round of the wide fence. -/
theorem op_bridge {l n : Nat} {o : Oper} {a : Act} {w : World} {K : Act → World → Prop} {Q : Exit → Act → World → Prop} (hd : ∀ c, o.op ≠ .defer c) (h : o.wp Tryd.prog a w K Q) : o.wpIn (Fence.wide.inRound l) n Tryd.prog a w K Q := by
  refine ⟨fun _ _ => trivial, ?_⟩
  rw [Oper.semAt_plain (Fence.wide.inRound l) _ _ hd]
  unfold Oper.wp at h
  cases hr : (execOp a.eval o).run Tryd.prog w with
  | halt x w' =>
    rw [hr] at h
    cases x with
    | panic v => exact h
    | _ => exact h.elim
  | ok x w' =>
    rw [hr] at h
    cases x with
    | value v => exact h
    | skip => exact h
    | defer d => exact h
    | enter f args =>
      refine ⟨fun hh => (by cases hh), CallsIn.inRound l (CallsIn.mono (callsIn_wide.2 h) fun e w'' hh => ?_)⟩
      cases e <;> exact hh
    | row row args => exact ⟨fun hh => (by cases hh), fun c cs _ => let ⟨v, w2, r, s⟩ := h c cs; ⟨v, w2, r, stepsIn_wide.2 s⟩⟩
    | _ => exact h.elim

theorem op_in {l n : Nat} {o : Oper} {a : Act} {w : World} {K K' : Act → World → Prop} {Q : Exit → Act → World → Prop} (hd : ∀ c, o.op ≠ .defer c) (hQ : ¬ LetsOut Q) (hK : ∀ a w, K a w → K' a w) (h : o.wp Tryd.prog a w K Q ∨ (o.asks Tryd.prog a w ∧ LetsOut Q)) : o.wpIn (Fence.wide.inRound l) n Tryd.prog a w K' Q := by
  rcases h with h | ⟨_, h⟩
  · exact op_bridge hd (Oper.wp_mono hK h)
  · exact absurd h hQ

/-- A region's plain walk, in a round. -/
theorem list_in {l n : Nat} {ops : Array Oper} {Q : Exit → Act → World → Prop} (hQ : ¬ LetsOut Q) : ∀ (rest : List Oper) (hd : ∀ o ∈ rest, ∀ c, o.op ≠ .defer c) (a : Act) (w : World), wpList Tryd.prog ops Q rest a w → wpListIn (Fence.wide.inRound l) n Tryd.prog ops Q rest a w := by
  intro rest
  induction rest with
  | nil => intro _ a w h; exact h
  | cons o rest ih =>
    intro hd a w h
    unfold wpList at h
    unfold wpListIn
    split
    · rename_i hw
      rw [if_pos hw] at h
      exact op_in (hd o (by simp)) hQ (fun a w => ih (fun o' ho' => hd o' (by simp [ho'])) a w) h
    · rename_i hw
      rw [if_neg hw] at h
      exact ⟨fun _ _ => trivial, ih (fun o' ho' => hd o' (by simp [ho'])) _ _ h⟩

theorem any_in {l n : Nat} {md : Region.Mode} {ops : Array Oper} {Q : Exit → Act → World → Prop} (hQ : ¬ LetsOut Q) (hd : ∀ (i : Nat) o, ops[i]? = some o → ∀ c, o.op ≠ .defer c) : ∀ (fuel : Nat) (listed : Array Bool) (a : Act) (w : World), wpAny Tryd.prog md ops Q fuel listed a w → wpAnyIn (Fence.wide.inRound l) n Tryd.prog md ops Q fuel listed a w := by
  intro fuel
  induction fuel with
  | zero => intro listed a w h; exact h
  | succ fuel ih =>
    intro listed a w h
    refine ⟨h.1, fun i hi => ?_⟩
    have h2 := h.2 i hi
    unfold wpOp at h2
    unfold wpOpIn
    cases ho : ops[i]? with
    | none =>
      rw [ho] at h2
      exact ih _ _ _ h2
    | some o =>
      rw [ho] at h2
      dsimp only at h2 ⊢
      split
      · rename_i hw
        rw [if_pos hw] at h2
        exact op_in (hd i o ho) hQ (fun a w => ih _ a w) h2
      · rename_i hw
        rw [if_neg hw] at h2
        exact ⟨fun _ _ => trivial, ih _ _ _ h2⟩

/-- A region that draws its order, in a round, by the plain walk of every order. -/
theorem region_any_in {l n id : Nat} {ops : Array Oper} {Q : Exit → Act → World → Prop} {a : Act} {w : World} (hQ : ¬ LetsOut Q) (hd : (ops.all fun o => match o.op with | .defer _ => false | _ => true) = true) (h : wpAny Tryd.prog .any ops Q ops.size (Array.replicate ops.size false) a w.drew) : (Code.region id ops true).wpIn (Fence.wide.inRound l) n Tryd.prog Q a w := by
  refine wpIn_region_any (by kernel_rfl) (any_in hQ (fun i o ho c hc => ?_) _ _ _ _ h)
  have hi := Array.all_eq_true.1 hd i (Array.getElem?_eq_some_iff.1 ho).1
  rw [(Array.getElem?_eq_some_iff.1 ho).2, hc] at hi
  cases hi

/-- One that does not, in a round. -/
theorem region_list_in {l n id : Nat} {ops : List Oper} {Q : Exit → Act → World → Prop} {a : Act} {w : World} (hQ : ¬ LetsOut Q) (hd : (ops.all fun o => match o.op with | .defer _ => false | _ => true) = true) (h : wpList Tryd.prog ops.toArray Q ops a w) : (Code.region id ops.toArray false).wpIn (Fence.wide.inRound l) n Tryd.prog Q a w := by
  refine wpIn_region_lit (list_in hQ ops (fun o ho c hc => ?_) a w h)
  have hi := List.all_eq_true.1 hd o ho
  rw [hc] at hi
  cases hi

/-- With what is held: the words takeTo, ready1, stepVal, stepCall serve. -/
theorem region_held_in {l n id : Nat} {ops : Array Oper} {Q : Exit → Act → World → Prop} {S : World → Prop} {a : Act} {w : World} (hQ : ¬ LetsOut Q) (hd : (ops.all fun o => match o.op with | .defer _ => false | _ => true) = true) (hS : S w.drew) (h : S w.drew → wpAnyH Tryd.prog .any ops Q S ops.size (Array.replicate ops.size false) a w.drew) : (Code.region id ops true).wpIn (Fence.wide.inRound l) n Tryd.prog Q a w :=
  region_any_in hQ hd (wpAny_of_held _ _ _ _ (h hS))
end Go.Proofs.YtoeanaadlihkeabDoor

/- A region that draws its order and whose last operation writes what the others read (as in the seat of aes, free of it); a call in it; two of them one behind the other. -/
namespace Go.Proofs.YtoeanaadlihkeabDoor
open Go.ChangeShapes Go.WideShapes Go.ChangeAt Go.RowKit
set_option linter.unusedVariables false

section
variable {P : Program} {ops : Array Oper} {Q : Exit → Act → World → Prop} {md : Region.Mode} {S : World → Prop} {m : Nat}

/-- In every order; S behind each operation but number m. -/
def AnyL (P : Program) (md : Region.Mode) (ops : Array Oper) (Q : Exit → Act → World → Prop) (S : World → Prop) (m : Nat) : Nat → Array Bool → Act → World → Prop
  | 0, listed, a, w => Region.ready md ops listed = [] ∧ Q .normal a w
  | n + 1, listed, a, w => (Region.ready md ops listed = [] → Q .normal a w) ∧ ∀ j ∈ Region.ready md ops listed, wpOp P ops Q j (fun a' w' => (j ≠ m → S w') ∧ AnyL P md ops Q S m n (listed.setIfInBounds j true) a' w') a w

theorem AnyL.any : ∀ (n : Nat) (listed : Array Bool) (a : Act) (w : World), AnyL P md ops Q S m n listed a w → wpAny P md ops Q n listed a w
  | 0, _, _, _, h => h
  | n + 1, _, _, _, h => ⟨h.1, fun j hj => wpOp_mono (fun a' w' h' => AnyL.any n _ a' w' h'.2) (h.2 j hj)⟩

theorem lastTo {id : Nat} {a : Act} {w : World} (m : Nat) (hm : P.follows .mixedOrders = true) (hS : S w.drew)
    (h : S w.drew → AnyL P .any ops Q S m ops.size (Array.replicate ops.size false) a w.drew) : (Code.region id ops true).wp P Q a w :=
  wp_region_any hm (AnyL.any _ _ _ _ (h hS))

/-- Number m waits for number i. -/
def waitsFor (md : Region.Mode) (ops : Array Oper) (m i : Nat) : Bool := (ops[m]?).any fun o => o.after.any fun e => Region.binds md e && e.on == i

theorem not_yet {i : Nat} {listed : Array Bool} (hw : waitsFor md ops m i = true) (hr : i ∈ Region.ready md ops listed) : m ∉ Region.ready md ops listed := by
  intro hm
  obtain ⟨_, o, ho, hall⟩ := mem_ready.1 hm
  obtain ⟨hi0, _⟩ := mem_ready.1 hr
  simp only [waitsFor, ho, Option.any_some, Array.any_eq_true', Bool.and_eq_true, beq_iff_eq] at hw
  obtain ⟨e, he, hb, rfl⟩ := hw
  have h1 := hall e he hb
  by_cases hlt : e.on < listed.size
  · simp [hlt] at hi0 h1
    rw [hi0] at h1
    cases h1
  · simp [Array.getElem?_eq_none (Nat.not_lt.1 hlt)] at h1

theorem AnyL.front {i : Nat} {oi : Oper} {v : Value} (hi : ops[i]? = some oi) (him : i ≠ m) (hw : waitsFor md ops m i = true) (hsel : ∀ (j : Nat) (o : Oper) cs b, ops[j]? = some o → o.op ≠ .select cs b)
    (hQ : ∀ c a w, Q (.panic c) (a.put oi.dst v) w → Q (.panic c) a w) : ∀ (n : Nat) (listed : Array Bool) (a : Act) (w : World),
      (∀ j oj, ops[j]? = some oj → j ≠ i → listed.getD j true = false → (∀ e ∈ oj.after, Region.binds md e = true → e.on ≠ i) → oi.apart ops oj = true) →
      i ∈ Region.ready md ops listed → YieldsIf P ops S oi v a → S w → AnyL P md ops Q S m n (listed.setIfInBounds i true) (a.put oi.dst v) w → AnyL P md ops Q S m (n + 1) listed a w
  | n, listed, a, w, hfree, hr, hy, hS, H => by
    refine ⟨fun h => absurd (h ▸ hr) (by simp), fun j hj => ?_⟩
    by_cases hji : j = i
    · subst hji
      exact hy.wpOp hi hS ⟨fun _ => hS, H⟩
    have hjm : j ≠ m := fun e => not_yet hw hr (e ▸ hj)
    have hj' := ready_mono hj hji
    cases n with
    | zero => exact absurd (H.1 ▸ hj') (by simp)
    | succ n =>
      obtain ⟨hjun, oj, hoj, hall⟩ := mem_ready.1 hj
      have hno : ∀ e ∈ oj.after, Region.binds md e = true → e.on ≠ i := by
        intro e he hb heq
        have h1 := hall e he hb
        have h0 := (mem_ready.1 hr).1
        subst heq
        by_cases hlt : e.on < listed.size
        · simp [hlt] at h0 h1
          rw [h0] at h1
          cases h1
        · simp [Array.getElem?_eq_none (Nat.not_lt.1 hlt)] at h1
      refine wpOp_mono ?_ (wpOp_putIf hoj (hfree j oj hoj hji hjun hno) (fun cs b => hsel i oi cs b hi) (fun cs b => hsel j oj cs b hoj) hQ hy (H.2 j hj'))
      rintro a' w' ⟨hy', hS', H'⟩
      refine ⟨hS', AnyL.front hi him hw hsel hQ n (listed.setIfInBounds j true) a' w' (fun k ok hk hki hun hn => hfree k ok hk hki ?_ hn) (ready_mono hr (Ne.symm hji)) hy' (hS' hjm) ?_⟩
      · by_cases hjk : j = k
        · subst hjk; exact hjun
        · rwa [getD_set_ne true hjk] at hun
      · rw [Array.setIfInBounds_comm _ _ hji]
        exact H'

/-- One that yields in every world that meets S is taken first. -/
theorem takeL {oi : Oper} (i : Nat) (d : Option Tmp) (v : Value) {n : Nat} {listed : Array Bool} {a : Act} {w : World} (hi : ops[i]? = some oi) (hd : oi.dst = d) (him : i ≠ m) (hwf : waitsFor md ops m i = true)
    (hs : Region.noSelect ops = true) (hf : Region.free md ops listed i = true) (hr : (Region.ready md ops listed).contains i = true)
    (hQ : ∀ c a w, Q (.panic c) (a.put d v) w → Q (.panic c) a w) (hw : Region.wanted oi (yielded ops a.tmps) = true) (hy : ∀ w, S w → (execOp a.eval oi).run P w = .ok (.value v) w) (hS : S w)
    (h : AnyL P md ops Q S m n (listed.setIfInBounds i true) (a.put d v) w) : AnyL P md ops Q S m (n + 1) listed a w := by
  subst hd
  exact AnyL.front hi him hwf (Region.noSelect_spec hs) hQ n listed a w (Region.free_spec hi hf) (by simpa using hr) (.inl ⟨hw, hy⟩) hS h

/-- The last one. -/
theorem lastSkip {oi : Oper} (m : Nat) (d : Option Tmp) (w' : World) {n : Nat} {listed : Array Bool} {a : Act} {w : World} (hr : Region.ready md ops listed = [m])
    (hi : ops[m]? = some oi) (hd : oi.dst = d) (hw : Region.wanted oi (yielded ops a.tmps) = true)
    (hrun : (execOp a.eval oi).run P w = .ok .skip w') (he : Region.ready md ops (listed.setIfInBounds m true) = [])
    (h : Q .normal (a.put d undef) w') : AnyL P md ops Q S m (n + 1) listed a w := by
  subst hd
  refine ⟨fun h0 => absurd (hr ▸ h0) (by simp), fun j hj => ?_⟩
  obtain rfl : j = m := by rw [hr] at hj; simpa using hj
  refine wpOp_step hi (fun K hK => ?_)
  rw [if_pos hw]
  unfold Oper.wp
  rw [hrun]
  refine hK _ _ ⟨fun h => absurd rfl h, ?_⟩
  cases n with
  | zero => exact ⟨he, h⟩
  | succ n => exact ⟨fun _ => h, by rw [he]; simp⟩

/-- A call by its contract, where nothing else may come up. -/
theorem callL {oi : Oper} (i : Nat) (d : Option Tmp) (f : FuncId) (args : Array Value) {n : Nat} {listed : Array Bool} {a : Act} {w : World} {Post : Ending → World → Prop}
    (hr : Region.ready md ops listed = [i]) (hi : ops[i]? = some oi) (hd : oi.dst = d) (hw : Region.wanted oi (yielded ops a.tmps) = true)
    (hrun : (execOp a.eval oi).run P w = .ok (.enter f args) w) (hc : Calls P f args w Post)
    (h : ∀ e w', Post e w' → ∃ v, e = .returned v ∧ S w' ∧ AnyL P md ops Q S m n (listed.setIfInBounds i true) (a.put d v) w') : AnyL P md ops Q S m (n + 1) listed a w := by
  subst hd
  refine ⟨fun h0 => absurd (hr ▸ h0) (by simp), fun j hj => ?_⟩
  obtain rfl : j = i := by rw [hr] at hj; simpa using hj
  refine wpOp_step hi (fun K hK => ?_)
  rw [if_pos hw]
  unfold Oper.wp
  rw [hrun, Oper.upon_enter]
  refine hc.mono fun e w' hh => ?_
  obtain ⟨v, rfl, hS, hrest⟩ := h e w' hh
  exact hK _ _ ⟨fun _ => hS, hrest⟩

/-- One that only skips, where nothing else may come up. -/
theorem skipL {oi : Oper} (i : Nat) (d : Option Tmp) (w' : World) {n : Nat} {listed : Array Bool} {a : Act} {w : World}
    (hr : Region.ready md ops listed = [i]) (hi : ops[i]? = some oi) (hd : oi.dst = d) (hw : Region.wanted oi (yielded ops a.tmps) = true)
    (hrun : (execOp a.eval oi).run P w = .ok .skip w') (hS : S w')
    (h : AnyL P md ops Q S m n (listed.setIfInBounds i true) (a.put d undef) w') : AnyL P md ops Q S m (n + 1) listed a w := by
  subst hd
  refine ⟨fun h0 => absurd (hr ▸ h0) (by simp), fun j hj => ?_⟩
  obtain rfl : j = i := by rw [hr] at hj; simpa using hj
  refine wpOp_step hi (fun K hK => ?_)
  rw [if_pos hw]
  unfold Oper.wp
  rw [hrun]
  exact hK _ _ ⟨fun _ => hS, h⟩
end

theorem last_in {l n id : Nat} {ops : Array Oper} {Q : Exit → Act → World → Prop} {S : World → Prop} {a : Act} {w : World} (m : Nat) (hQ : ¬ LetsOut Q) (hd : (ops.all fun o => match o.op with | .defer _ => false | _ => true) = true) (hS : S w.drew) (h : S w.drew → AnyL Tryd.prog .any ops Q S m ops.size (Array.replicate ops.size false) a w.drew) : (Code.region id ops true).wpIn (Fence.wide.inRound l) n Tryd.prog Q a w :=
  region_any_in hQ hd (AnyL.any _ _ _ _ (h hS))
end Go.Proofs.YtoeanaadlihkeabDoor

/- The program's putHashes: a level is filled with the hashes of the sectors below it. -/
namespace Go.Proofs.YtoeanaadlihkeabDoor
open Go.ChangeShapes Go.WideShapes Go.ChangeAt Go.RowKit
set_option linter.unusedVariables false

/-- The bytes f laid over F from place o on. -/
def over (F : Nat → Nat) (o n : Nat) (f : Nat → Nat) : Nat → Nat := fun j => if o ≤ j ∧ j < o + n then f (j - o) else F j

theorem over_splice (F f : Nat → Nat) (M o n : Nat) (h : o + n ≤ M) : ((cellsN .u8 M F).toList.take o ++ (bl f n ++ (cellsN .u8 M F).toList.drop (o + (bl f n).length))).toArray = cellsN .u8 M (over F o n f) := by
  have hl : (bl f n).length = n := by simp [bl]
  rw [hl]
  apply Array.ext_getElem?
  intro i
  rw [List.getElem?_toArray]
  have hs : (cellsN .u8 M F).toList.length = M := by rw [Array.length_toList, cellsN_size]
  by_cases h1 : i < o
  · rw [List.getElem?_append_left (by simp [hs]; omega), List.getElem?_take, if_pos h1, Array.getElem?_toList, cellsN_get _ _ _ _ (by omega), cellsN_get _ _ _ _ (by omega)]
    unfold over
    rw [if_neg (by omega)]
  · rw [List.getElem?_append_right (by simp [hs]; omega)]
    have ht : ((cellsN .u8 M F).toList.take o).length = o := by rw [List.length_take, hs]; omega
    rw [ht]
    by_cases h2 : i < o + n
    · rw [List.getElem?_append_left (by rw [hl]; omega), bl_get _ _ _ (by omega), cellsN_get _ _ _ _ (by omega)]
      unfold over
      rw [if_pos (by omega)]
    · rw [List.getElem?_append_right (by rw [hl]; omega), hl, List.getElem?_drop, Array.getElem?_toList, show o + n + (i - o - n) = i by omega]
      by_cases h3 : i < M
      · rw [cellsN_get _ _ _ _ h3, cellsN_get _ _ _ _ h3]
        unfold over
        rw [if_neg (by omega)]
      · rw [Array.getElem?_eq_none (by rw [cellsN_size]; omega), Array.getElem?_eq_none (by rw [cellsN_size]; omega)]

theorem grown_trans {a b c : World} {r : Option Nat} (h : a.grownBy b r) (k : b.grownBy c r) : a.grownBy c r := ⟨k.os.trans h.os, k.tape.trans h.tape, k.output.trans h.output, Nat.le_trans h.size k.size, fun i hi hne => (k.block i (Nat.lt_of_lt_of_le hi h.size) hne).trans (h.block i hi hne)⟩
theorem grown_below {a b : World} {r : Option Nat} (h : Below a.heap.size a b) : a.grownBy b r := ⟨h.os, h.tape, h.output, h.size, fun i hi _ => h.block i hi⟩
theorem grown_row (W : World) (b : Nat) (cs : Array Value) : W.grownBy (W.setRow b cs) (some b) :=
  ⟨rfl, rfl, rfl, by simp [World.setRow], fun k hk hne => by simp only [World.setRow, Array.getElem?_modify]; rw [if_neg (fun e => hne (by rw [← e]))]⟩

/-- copy of a whole digest into a row of bytes. -/
theorem wpList_copy_at {ops : Array Oper} {rest : List Oper} {o : Oper} {a : Act} {w : World} {Q : Exit → Act → World → Prop} (hgd : o.guard = none) (d s : Operand)
    (ho : o.op = .call { callee := .builtin .copy, args := #[d, s], argTypes := #[22, 22] }) (g off dLen dCap b : Nat) (hd : a.eval d = .slice (some ⟨g, off, none⟩) dLen dCap) (hs : a.eval s = .slice (some ⟨b, 0, none⟩) 32 32)
    (M : Nat) (F f : Nat → Nat) (hg : Has w g 5 (cellsN .u8 M F)) (hb : Has w b 24 (cellsN .u8 32 f)) (hL : 32 ≤ dLen) (hfit : off + 32 ≤ M)
    (h : ∀ w2, Has w2 g 5 (cellsN .u8 M (over F off 32 f)) → w.grownBy w2 (some g) → wpList Tryd.prog ops Q rest (a.put o.dst (goInt 32)) w2) : wpList Tryd.prog ops Q (o :: rest) a w := by
  have hl : (bl f 32).length = 32 := by simp [bl]
  refine wpList_copy_own hgd d s _ _ ho 5 Tryd.underlying22 (by kernel_rfl) g off dLen dCap ⟨b, 0, none⟩ 32 32 hd hs (cellsN .u8 M F) 5 hg (bl f 32) (by rw [hl]; exact (Nat.min_eq_left hL).symm) ?_ (by rw [hl, cellsN_size]; exact hfit) (bl_one f 32) ?_
  · intro j v hj
    have hj32 : j < 32 := by
      have := (List.getElem?_eq_some_iff.1 hj).1
      rwa [hl] at this
    rw [bl_get _ _ _ hj32] at hj
    cases hj
    rw [Addr.add_mid, Nat.zero_add]
    exact hb.num j hj32
  · rw [over_splice F f M off 32 hfit, hl]
    exact h _ (hg.setRow _) (grown_row _ _ _)

theorem run_slice_from {o : Oper} {a : Act} (x l : Operand) (ho : o.op = .slice 22 x (some l) none none) (b off L cap q : Nat) (hx : a.eval x = .slice (some ⟨b, off, none⟩) L cap) (hl : a.eval l = .int .i64 (q : Nat)) (h1 : q ≤ L) (w : World) :
    (execOp a.eval o).run Tryd.prog w = .ok (.value (.slice (some (if cap = q then ⟨b, off, none⟩ else ⟨b, off + q, none⟩)) (L - q) (cap - q))) w := by
  unfold execOp
  simp only [ho, hx, hl, Option.map_some, Option.map_none]
  simp [Instr.sliceAt, Instr.slice, Instr.sliceBounds, Instr.sliceBound, run_underlying Tryd.underlying22, go_sem, asIntOf, h1]
  split <;> rfl

theorem run_slice_to {o : Oper} {a : Act} (x l : Operand) (ho : o.op = .slice 22 x none (some l) none) (b off L cap q : Nat) (hx : a.eval x = .slice (some ⟨b, off, none⟩) L cap) (hl : a.eval l = .int .i64 (q : Nat)) (h1 : q ≤ cap) (w : World) :
    (execOp a.eval o).run Tryd.prog w = .ok (.value (.slice (some ⟨b, off, none⟩) q cap)) w := by
  unfold execOp
  simp only [ho, hx, hl, Option.map_some, Option.map_none]
  simp [Instr.sliceAt, Instr.slice, Instr.sliceBounds, Instr.sliceBound, run_underlying Tryd.underlying22, go_sem, asIntOf, h1]
end Go.Proofs.YtoeanaadlihkeabDoor

/- A step of a plain region whose value is said outright. -/
namespace Go.Proofs.YtoeanaadlihkeabDoor
open Go.RowKit
theorem wpList_is {ops : Array Oper} {rest : List Oper} {o : Oper} {a : Act} {w : World} {Q : Exit → Act → World → Prop} (d : Option Tmp) (v : Value) (hd : o.dst = d) (hw : Region.wanted o (yielded ops a.tmps) = true)
    (hrun : (execOp a.eval o).run Tryd.prog w = .ok (.value v) w) (h : wpList Tryd.prog ops Q rest (a.put d v) w) : wpList Tryd.prog ops Q (o :: rest) a w :=
  wpList_step fun K hK => by
    subst hd
    rw [if_pos hw]
    unfold Oper.wp
    rw [hrun]
    exact hK _ _ h

theorem wpList_is_w {ops : Array Oper} {rest : List Oper} {o : Oper} {a : Act} {w : World} {Q : Exit → Act → World → Prop} (d : Option Tmp) (v : Value) (w' : World) (hd : o.dst = d) (hw : Region.wanted o (yielded ops a.tmps) = true)
    (hrun : (execOp a.eval o).run Tryd.prog w = .ok (.value v) w') (h : wpList Tryd.prog ops Q rest (a.put d v) w') : wpList Tryd.prog ops Q (o :: rest) a w :=
  wpList_step fun K hK => by
    subst hd
    rw [if_pos hw]
    unfold Oper.wp
    rw [hrun]
    exact hK _ _ h
end Go.Proofs.YtoeanaadlihkeabDoor

/- The program's putHashes, its loop. -/
namespace Go.Proofs.YtoeanaadlihkeabDoor
open Go.ChangeShapes Go.WideShapes Go.ChangeAt Go.RowKit
set_option linter.unusedVariables false

/-- The first p hashes laid over F from place o on. -/
def hov (F f : Nat → Nat) (kd o p : Nat) : Nat → Nat := fun j => if o ≤ j ∧ j < o + 32 * p then hsh kd (sec f ((j - o) / 32)) ((j - o) % 32) else F j

theorem hov_zero (F f : Nat → Nat) (kd o : Nat) : hov F f kd o 0 = F := by
  funext j
  unfold hov
  rw [if_neg (by omega)]

theorem hov_more (F f : Nat → Nat) (kd o p : Nat) : over (hov F f kd o p) (o + 32 * p) 32 (hsh kd (sec f p)) = hov F f kd o (p + 1) := by
  funext j
  unfold over hov
  by_cases h : o + 32 * p ≤ j ∧ j < o + 32 * p + 32
  · rw [if_pos h, if_pos (by omega), show (j - o) / 32 = p by omega, show (j - o) % 32 = j - (o + 32 * p) by omega]
  · rw [if_neg h]
    by_cases h2 : o ≤ j ∧ j < o + 32 * p
    · rw [if_pos h2, if_pos (by omega)]
    · rw [if_neg h2, if_neg (by omega)]

theorem hov_front (F f : Nat → Nat) (kd o p j : Nat) (h : j < o) : hov F f kd o p j = F j := by
  unfold hov
  rw [if_neg (by omega)]

theorem Glob.grown {w w' : World} {g : Nat} (h : Glob Hc Kc w) (hg : w.grownBy w' (some g)) (h1 : 1 < g) : Glob Hc Kc w' :=
  h.below (B := 2) ⟨hg.os, hg.tape, hg.output, hg.size, fun k hk => hg.block k (by have := h.1; omega) (fun e => by cases e; omega)⟩ (by decide)

theorem Has.grown {w w' : World} {g b t : Nat} {cs : Array Value} (h : Has w b t cs) (hg : w.grownBy w' (some g)) (hne : b ≠ g) : Has w' b t cs := (hg.block b h.lt (fun e => hne (by cases e; rfl))).trans h

def slen : Value → Nat
  | .slice _ l _ => l
  | _ => 0

set_option maxRecDepth 100000 in
set_option maxHeartbeats 2000000 in
theorem put_any (kd q M o Lt Ct cb g : Nat) (F f : Nat → Nat) (ab : Option Addr) (w : World) (hG : Glob Hc Kc w) (hk : kd < 256) (hf : ∀ j, f j < 256) (hq : 1 ≤ q) (hq2 : q ≤ 2048) (hg : Has w g 5 (cellsN .u8 M F)) (hg1 : 1 < g) (hL : 32 * q ≤ Lt) (hLC : Lt ≤ Ct) (hM : o + Lt ≤ M) (hcb : 64 * q ≤ cb)
    (hB : ∀ wr F', w.grownBy wr (some g) → Has wr g 5 (cellsN .u8 M F') → (∀ j, j < o → F' j = F j) → Bytes wr ab (64 * q) f) :
    Calls Tryd.prog 14 #[.slice (some ⟨g, o, none⟩) (Lt : Nat) Ct, .int .u8 (kd : Nat), .slice ab (64 * q : Nat) cb] w fun e w' => e = .returned (.tuple #[]) ∧ Has w' g 5 (cellsN .u8 M (hov F f kd o q)) ∧ w.grownBy w' (some g) := by
  obtain ⟨b0, o0, rfl⟩ : ∃ b0 o0, ab = some ⟨b0, o0, none⟩ := by
    rcases hB w F (grownBy_refl _ _) hg (fun _ _ => rfl) with h | ⟨b, off, h, _⟩
    · omega
    · exact ⟨b, off, h⟩
  obtain ⟨L, hLq⟩ : ∃ L, L = 64 * q := ⟨_, rfl⟩
  have HL : Hid (L = 64 * q) := hLq
  rw [← hLq]
  rw [← hLq] at hcb
  clear hLq
  go_enter Tryd.func14, Tryd.ntmps14
  go_wp2
  go_loopw [0, 2] (fun t b wr => ∃ p : Nat, p ≤ q ∧ (∃ at_ ct, t = .slice at_ (Lt - 32 * p) ct ∧ Lt - 32 * p ≤ ct ∧ (p < q → at_ = some ⟨g, o + 32 * p, none⟩)) ∧ (∃ ab' cb', b = .slice ab' (64 * q - 64 * p) cb' ∧ 64 * q - 64 * p ≤ cb' ∧ (p < q → ab' = some ⟨b0, o0 + 64 * p, none⟩)) ∧ Has wr g 5 (cellsN .u8 M (hov F f kd o p)) ∧ w.grownBy wr (some g))
    (fun _ b _ => slen b)
  case atStart =>
    refine ⟨0, Nat.zero_le _, ⟨_, _, rfl, hLC, fun _ => rfl⟩, ⟨_, cb, ?_, ?_, fun _ => rfl⟩, by rw [hov_zero]; exact hg, grownBy_refl _ _⟩
    · rw [HL.out]; rfl
    · rw [HL.out] at hcb; exact hcb
  case round =>
    obtain ⟨p, hp, ⟨at_, ct, rfl, hct, hat⟩, ⟨ab', cb', rfl, hcb', hab⟩, hrow, hgr⟩ := hrel
    by_cases hlt : p < q
    · have hat' := hat hlt
      have hab' := hab hlt
      subst hat'
      subst hab'
      clear hat hab
      have hBy := hB wr _ hgr hrow (fun j hj => hov_front F f kd o p j hj)
      have hBs : Bytes wr (some ⟨b0, o0 + 64 * p, none⟩) 64 (sec f p) := hBy.part (64 * p) 64 (by omega)
      have hs := mhash_any kd (sec f p) (some ⟨b0, o0 + 64 * p, none⟩) cb' wr (hG.grown hgr hg1) hk hBs (fun j => hf _) (by omega)
      obtain ⟨H, hH⟩ : ∃ H, H = hsh kd (sec f p) := ⟨_, rfl⟩
      have hmore := hov_more F f kd o p
      rw [← hH] at hs hmore
      obtain ⟨X, hX⟩ : ∃ X, X = hov F f kd o p := ⟨_, rfl⟩
      rw [← hX] at hrow hmore
      obtain ⟨n1, hn1⟩ : ∃ n1, n1 = 64 * q - 64 * p := ⟨_, rfl⟩
      obtain ⟨n0, hn0⟩ : ∃ n0, n0 = Lt - 32 * p := ⟨_, rfl⟩
      have h64 : 64 ≤ n1 := by omega
      have h32 : 32 ≤ n0 := by omega
      have hoM : o + 32 * p + 32 ≤ M := by omega
      rw [← hn1] at hcb' ⊢
      rw [← hn0] at hct ⊢
      have HN : Hid (n1 = 64 * q - 64 * p ∧ n0 = Lt - 32 * p ∧ o + Lt ≤ M ∧ 32 * q ≤ Lt) := ⟨hn1, hn0, hM, hL⟩
      have HB : Hid (∀ wr F', w.grownBy wr (some g) → Has wr g 5 (cellsN .u8 M F') → (∀ j, j < o → F' j = F j) → Bytes wr (some ⟨b0, o0, none⟩) (64 * q) f) := hB
      have hgw := hrow.lt
      obtain ⟨o1, ho1⟩ : ∃ o1, o1 = o0 + 64 * p := ⟨_, rfl⟩
      obtain ⟨o2, ho2⟩ : ∃ o2, o2 = o + 32 * p := ⟨_, rfl⟩
      have HO : Hid (o1 = o0 + 64 * p ∧ o2 = o + 32 * p) := ⟨ho1, ho2⟩
      rw [← ho1] at hs ⊢
      rw [← ho2] at hmore hoM ⊢
      clear hH hX hB hBy hBs hn1 hn0 hM hL ho1 ho2
      go_wp2_with (first
        | (refine wpList_is (some 12) (.slice (some ⟨b0, o1, none⟩) 64 cb') rfl (by rfl) (run_slice_to _ _ rfl b0 o1 n1 cb' 64 rfl rfl (by omega) _) ?_)
        | ((go_at_call 15)
           (refine hs.mono ?_)
           (rintro e w2 ⟨rfl, hb2⟩)
           (have hrow2 := (hrow.below hb2 hgw).alloc (.cells (cellsN .u8 32 fun _ => 0) 24))
           (have hN2 := Has.new w2 24 (cellsN .u8 32 fun _ => 0))
           (have hg2 := grown_trans hgr (grown_below hb2))
           (have hle : w.heap.size ≤ w2.heap.size := Nat.le_trans hgr.size hb2.size)
           (have hlt2 : g < w2.heap.size := Nat.lt_of_lt_of_le hgw hb2.size)
           (clear hs hb2 hrow hgr))
        | ((refine wpList_store_rowG rfl 24 _ _ rfl w2.heap.size (cellsN .u8 32 H) rfl rfl 24 _ hN2 (by rw [cellsN_size]; exact Tryd.size24) (by simp [cellsN_size]) (cellsN_one _ _ _) ?_)
           (intro w3 hw3)
           (have hN3 : Has w3 w2.heap.size 24 (cellsN .u8 32 H) := (by rw [hw3]; exact hN2.setRow _))
           (have hrow3 : Has w3 g 5 (cellsN .u8 M X) := (by rw [hw3]; exact hrow2.setRow_other (by omega) _))
           (have hg3 : w.grownBy w3 (some g) := (by rw [hw3]; exact grown_trans hg2 (grown_below (below_setRow ((Below.refl _ w2).alloc (Nat.le_refl _) _) (Nat.le_refl _) _))))
           (clear hw3 hN2 hrow2 hg2))
        | ((refine wpList_copy_at rfl _ _ rfl g o2 n0 ct w2.heap.size rfl rfl M X H hrow3 hN3 h32 hoM ?_)
           (intro w4 hrow4 hg4)
           (rw [hmore] at hrow4)
           (have hg5 := grown_trans hg3 hg4)
           (clear hrow3 hN3 hg3 hg4)))
      simp only [Act.put, List.setIfInBounds_toArray, List.set_cons_zero, List.set_cons_succ]
      refine wp_region_held_drew (S := fun w' => True) (by kernel_rfl) trivial (fun hHeld => ?_)
      refine takeTo 0 (some 17) (.slice (some ⟨g, o2, none⟩) n0 ct) rfl rfl (by kernel_rfl) (by kernel_rfl) (by kernel_rfl) (fun _ _ _ h => h) (by rfl) (fun _ _ => rfl) hHeld ?_
      simp only [Act.put, List.setIfInBounds_toArray, List.set_cons_zero, List.set_cons_succ]
      refine takeTo 1 (some 18) (.slice (some (if ct = 32 then ⟨g, o2, none⟩ else ⟨g, o2 + 32, none⟩)) (n0 - 32) (ct - 32)) rfl rfl (by kernel_rfl) (by kernel_rfl) (by kernel_rfl) (fun _ _ _ h => h) (by rfl) (fun wz _ => run_slice_from _ _ rfl g o2 n0 ct 32 rfl rfl h32 wz) hHeld ?_
      simp only [Act.put, List.setIfInBounds_toArray, List.set_cons_zero, List.set_cons_succ]
      refine takeTo 2 (some 19) (.slice (some ⟨b0, o1, none⟩) n1 cb') rfl rfl (by kernel_rfl) (by kernel_rfl) (by kernel_rfl) (fun _ _ _ h => h) (by rfl) (fun _ _ => rfl) hHeld ?_
      simp only [Act.put, List.setIfInBounds_toArray, List.set_cons_zero, List.set_cons_succ]
      refine takeTo 3 (some 20) (.slice (some (if cb' = 64 then ⟨b0, o1, none⟩ else ⟨b0, o1 + 64, none⟩)) (n1 - 64) (cb' - 64)) rfl rfl (by kernel_rfl) (by kernel_rfl) (by kernel_rfl) (fun _ _ _ h => h) (by rfl) (fun wz _ => run_slice_from _ _ rfl b0 o1 n1 cb' 64 rfl rfl h64 wz) hHeld ?_
      simp only [Act.put, List.setIfInBounds_toArray, List.set_cons_zero, List.set_cons_succ]
      refine takeTo 4 (some 0) (.slice (some (if ct = 32 then ⟨g, o2, none⟩ else ⟨g, o2 + 32, none⟩)) (n0 - 32) (ct - 32)) rfl rfl (by kernel_rfl) (by kernel_rfl) (by kernel_rfl) (fun _ _ _ h => h) (by rfl) (fun _ _ => rfl) hHeld ?_
      simp only [Act.put, List.setIfInBounds_toArray, List.set_cons_zero]
      refine takeTo 5 (some 2) (.slice (some (if cb' = 64 then ⟨b0, o1, none⟩ else ⟨b0, o1 + 64, none⟩)) (n1 - 64) (cb' - 64)) rfl rfl (by kernel_rfl) (by kernel_rfl) (by kernel_rfl) (fun _ _ _ h => h) (by rfl) (fun _ _ => rfl) hHeld ?_
      simp only [Act.put, List.setIfInBounds_toArray, List.set_cons_zero, List.set_cons_succ]
      refine wpAnyH_done (by kernel_rfl) ?_ _
      go_wp2
      go_roundw
      case rel =>
        obtain ⟨e1, e2, e3, e4⟩ := HN.out
        obtain ⟨e5, e6⟩ := HO.out
        refine ⟨p + 1, hlt, ⟨_, _, by rw [show Lt - 32 * (p + 1) = n0 - 32 by omega], by omega, fun h => ?_⟩, ⟨_, _, by rw [show 64 * q - 64 * (p + 1) = n1 - 64 by omega], by omega, fun h => ?_⟩, hrow4.drewN 1, grown_trans hg5 ⟨rfl, rfl, rfl, Nat.le_refl _, fun _ _ _ => rfl⟩⟩
        · rw [if_neg (by omega), e6, show o + 32 * p + 32 = o + 32 * (p + 1) by omega]
        · rw [if_neg (by omega), e5, show o0 + 64 * p + 64 = o0 + 64 * (p + 1) by omega]
      case measure => simp [slen]; omega
    · obtain rfl : p = q := by omega
      rw [Nat.sub_self]
      go_wp2
      refine bodyPost_end (results_none rfl _ _ _) rfl ?_
      exact ⟨rfl, hrow, hgr⟩
end Go.Proofs.YtoeanaadlihkeabDoor

/- The program's hashAt: the hash at a place of a sector; and Equal of two slices of bytes. -/
namespace Go.Proofs.YtoeanaadlihkeabDoor
open Go.ChangeShapes Go.WideShapes Go.ChangeAt Go.RowKit
set_option linter.unusedVariables false

theorem Bytes.range {w : World} {b o len : Nat} {m : Nat → Nat} (h : Bytes w (some ⟨b, o, none⟩) len m) (s k : Nat) (hk : s + k ≤ len) : w.rangeAt b (o + s) (cellsN .u8 k (fun j => m (s + j))).toList := by
  intro j v hj
  have hjk : j < k := by
    have := (List.getElem?_eq_some_iff.1 hj).1
    rwa [Array.length_toList, cellsN_size] at this
  rw [Array.getElem?_toList, cellsN_get _ _ _ _ hjk] at hj
  cases hj
  rcases h with h | ⟨b', o', e, _, hc⟩
  · omega
  · cases e
    rw [Nat.add_assoc]
    exact hc (s + j) (by omega)

theorem run_array_at {o : Oper} {a : Act} (x : Operand) (ho : o.op = .sliceToArrayPointer 24 x) (A : Option Addr) (L C : Nat) (hx : a.eval x = .slice A L C) (h : 32 ≤ L) (w : World) : (execOp a.eval o).run Tryd.prog w = .ok (.value (.pointer A)) w := by
  have h' : ¬ L < 32 := by omega
  unfold execOp
  simp only [ho, hx]
  simp [Instr.arrayAt, run_underlying Tryd.underlying24, go_sem, h']

set_option maxRecDepth 100000 in
set_option maxHeartbeats 1000000 in
theorem hash_at (p : Nat) (f : Nat → Nat) (b o c : Nat) (w : World) (hp : p < 2) (hb : Bytes w (some ⟨b, o, none⟩) 64 f) (hc : 64 ≤ c) :
    Calls Tryd.prog 23 #[.slice (some ⟨b, o, none⟩) (64 : Nat) c, .int .i64 (p : Nat)] w fun e w' => e = .returned (.agg (cellsN .u8 32 fun j => f (32 * p + j))) ∧ Below w.heap.size w w' := by
  have hN : Has (w.alloc (.cells (cellsN .u8 32 fun _ => 0) 24)) w.heap.size 24 (cellsN .u8 32 fun _ => 0) := Has.new _ _ _
  have hb0 : Below w.heap.size w (w.alloc (.cells (cellsN .u8 32 fun _ => 0) 24)) := (Below.refl _ _).alloc (Nat.le_refl _) _
  have hr := (hb.below hb0 (Nat.le_refl _)).range (32 * p) 32 (by omega)
  obtain ⟨h, hh⟩ : ∃ h, h = fun j => f (32 * p + j) := ⟨_, rfl⟩
  rw [← hh] at hr ⊢
  clear hh
  rcases (show p = 0 ∨ p = 1 by omega) with rfl | rfl
  · have c0 : ¬ c = 0 := by omega
    go_enter Tryd.func23, Tryd.ntmps23
    go_wp2_with (first
      | (refine wpList_is (some 8) (.slice (some ⟨b, o + 32 * 0, none⟩) 64 c) rfl (by rfl) ((run_slice_from _ _ rfl b o 64 c 0 rfl rfl (by omega) _).trans (by rw [if_neg c0]; rfl)) ?_)
      | (refine wpList_is (some 9) (.pointer (some ⟨b, o, none⟩)) rfl (by rfl) (run_array_at _ rfl _ 64 c rfl (by omega) _) ?_)
      | (refine wpList_load_mid rfl 24 _ rfl b (o + 32 * 0) rfl (cellsN .u8 32 h).toList _ hr Tryd.underlying24 rfl (by rw [Array.length_toList, cellsN_size]; exact Tryd.size24) ?_; rw [Array.toArray_toList])
      | ((refine wpList_store_rowG rfl 24 _ _ rfl (w.heap.size) (cellsN .u8 32 h) rfl rfl 24 _ hN (by rw [cellsN_size]; exact Tryd.size24) (by simp [cellsN_size]) (cellsN_one _ _ _) ?_)
         (intro w6 hw6)
         (have hR6 : Has w6 w.heap.size 24 (cellsN .u8 32 h) := (by rw [hw6]; exact hN.setRow _))
         (have hB6 : Below w.heap.size w w6 := (by rw [hw6]; exact below_setRow hb0 (Nat.le_refl _) _))
         (clear hw6)))
    exact bodyPost_ret (results_cell_row rfl _ _ (w.heap.size) 24 _ (0, 0) _ rfl hR6 Tryd.underlying24 rfl (by rw [cellsN_size]; exact Tryd.size24)) rfl ⟨rfl, hB6⟩
  · have c0 : ¬ c = 32 := by omega
    go_enter Tryd.func23, Tryd.ntmps23
    go_wp2_with (first
      | (refine wpList_is (some 8) (.slice (some ⟨b, o + 32 * 1, none⟩) 32 (c - 32)) rfl (by rfl) ((run_slice_from _ _ rfl b o 64 c 32 rfl rfl (by omega) _).trans (by rw [if_neg c0])) ?_)
      | (refine wpList_is (some 9) (.pointer (some ⟨b, o + 32, none⟩)) rfl (by rfl) (run_array_at _ rfl _ 32 (c - 32) rfl (by omega) _) ?_)
      | (refine wpList_load_mid rfl 24 _ rfl b (o + 32 * 1) rfl (cellsN .u8 32 h).toList _ hr Tryd.underlying24 rfl (by rw [Array.length_toList, cellsN_size]; exact Tryd.size24) ?_; rw [Array.toArray_toList])
      | ((refine wpList_store_rowG rfl 24 _ _ rfl (w.heap.size) (cellsN .u8 32 h) rfl rfl 24 _ hN (by rw [cellsN_size]; exact Tryd.size24) (by simp [cellsN_size]) (cellsN_one _ _ _) ?_)
         (intro w6 hw6)
         (have hR6 : Has w6 w.heap.size 24 (cellsN .u8 32 h) := (by rw [hw6]; exact hN.setRow _))
         (have hB6 : Below w.heap.size w w6 := (by rw [hw6]; exact below_setRow hb0 (Nat.le_refl _) _))
         (clear hw6)))
    exact bodyPost_ret (results_cell_row rfl _ _ (w.heap.size) 24 _ (0, 0) _ rfl hR6 Tryd.underlying24 rfl (by rw [cellsN_size]; exact Tryd.size24)) rfl ⟨rfl, hB6⟩
end Go.Proofs.YtoeanaadlihkeabDoor

/- Equal of two slices of bytes; a level laid into the tree. -/
namespace Go.Proofs.YtoeanaadlihkeabDoor
open Go.ChangeShapes Go.WideShapes Go.ChangeAt Go.RowKit
set_option linter.unusedVariables false

set_option maxRecDepth 100000 in
theorem bytes_equal (f g : Nat → Nat) (La Ca Lb Cb : Nat) (a b : Option Addr) (w : World) (ha : Bytes w a La f) (hb : Bytes w b Lb g) (hf : ∀ j, f j < 256) (hg : ∀ j, g j < 256) (hna : a = none → La = 0) (hnb : b = none → Lb = 0) :
    Calls Tryd.prog 24 #[.slice a (La : Nat) Ca, .slice b (Lb : Nat) Cb] w fun e w' => e = .returned (.bool (strN f La == strN g Lb)) ∧ w' = w := by
  go_enter Tryd.func24, Tryd.ntmps24
  go_wp2_with (first
    | (refine wpList_is (some 6) (.string ⟨(strN f La).toArray⟩) rfl (by rfl) (run_conv_str _ rfl (.slice a La Ca) rfl _ _ (conv_bytesN Ca ha hf hna)) ?_)
    | (refine wpList_is (some 8) (.string ⟨(strN g Lb).toArray⟩) rfl (by rfl) (run_conv_str _ rfl (.slice b Lb Cb) rfl _ _ (conv_bytesN Cb hb hg hnb)) ?_)
    | (refine wpList_is (some 9) (.bool (strN f La == strN g Lb)) rfl (by rfl) (run_eql_strs _ _ rfl _ _ rfl rfl _ rfl _) ?_))
  exact bodyPost_ret (results_tmp rfl _ _ _) rfl ⟨rfl, rfl⟩

theorem tree_rest (d : Nat → Nat) (n k j : Nat) (hj : 64 * off n k ≤ j) : tree d n k j = 0 := by
  cases k with
  | zero => rfl
  | succ k =>
    have e := off_step n k
    have e2 := lv_step n k
    unfold tree cat
    rw [if_neg (by omega)]
    exact lvl_rest d n k _ (by omega)

/-- The next level, laid into the tree. -/
theorem hov_tree (d : Nat → Nat) (n k : Nat) : hov (tree d n k) (lvl d n k) (kd k) (64 * off n k) (lv n k) = tree d n (k + 1) := by
  funext j
  have e2 := lv_step n k
  unfold hov
  by_cases h : 64 * off n k ≤ j ∧ j < 64 * off n k + 32 * lv n k
  · rw [if_pos h]
    unfold tree cat
    rw [if_neg (by omega)]
    obtain ⟨t, rfl⟩ : ∃ t, j = 64 * off n k + t := ⟨j - 64 * off n k, by omega⟩
    rw [Nat.add_sub_cancel_left]
    have := lvl_hash d n k (t / 32) (t % 32) (by omega) (by omega)
    rw [show 32 * (t / 32) + t % 32 = t by omega] at this
    exact this.symm
  · rw [if_neg h]
    by_cases h2 : j < 64 * off n k
    · show _ = (if j < 64 * off n k then tree d n k j else lvl d n (k + 1) (j - 64 * off n k))
      rw [if_pos h2]
    · rw [tree_rest d n k j (by omega)]
      show _ = (if j < 64 * off n k then tree d n k j else lvl d n (k + 1) (j - 64 * off n k))
      rw [if_neg h2, lvl_rest d n k _ (by omega)]
end Go.Proofs.YtoeanaadlihkeabDoor
