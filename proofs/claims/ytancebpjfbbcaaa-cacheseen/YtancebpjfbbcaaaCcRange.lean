/- A range over a function, slices.Backward of groups (out of the elder OaArLev, for another type). -/
import Derived.Test.YtancebpjfbbcaaaCcGet
import Derived.Test.YtancebpjfbbcaaaBas
import Derived.Test.YtancebpjfbbcaaaBasReg
import Derived.WalkKit
import Derived.ProofKit
import Derived.OpenShut
import Derived.Below
import Derived.WalkLawsBesides
import Derived.WalkSpells
import Derived.Laws.BitsAllLaws
import Derived.Deep.QuietTactic
import Derived.BigQuiet
import Derived.Deep.WholeRow
import Derived.Deep.RegionHeld3
import Derived.Laws.CopyOwn
import Derived.Deep.MidRow
import Derived.Laws.AppendOwnNone
import Derived.OwnWalk
import Derived.DeepKeys
import Derived.Lib.AppendZerosOnto
import Derived.KernelRfl
import Derived.RangeFuncBox
import Derived.RangeFuncLeaves
import Derived.Shelf.Abstract
import Derived.OwnWalkIn
import Derived.TacticsInMore
import Derived.LoopNIn
import Derived.LoopIn
import Derived.Maps.AppendAt
import Derived.RangeFuncCalls
import Derived.OrdersIn
import Derived.RangeFuncWrites
import Derived.Deep.AppendLies
namespace Go.Proofs.Ytancebpjfbbcaaa
set_option linter.unusedVariables false
open Go.RowKit Go.Shelf

/-- What an iterator and the loop's own book-keeping may turn: a block that is no cells, or one of the type level. -/
def Loose (o : Obj) : Prop := o.isCells = false ∨ ∃ cs fr, o = .cells cs 71 fr

/-- What the loop's invariant abides. -/
def Firm {β : Type} (D : Nat) (I : β → World → Prop) : Prop := ∀ s A B row, I s A → A.grownBy B row → (∀ r, row = some r → D ≤ r ∧ ∃ o : Obj, A.heap[r]? = some o ∧ Loose o) → I s B

theorem Firm.own {β : Type} {D : Nat} {I : β → World → Prop} (h : Firm D I) : OwnFrom D I := fun s A B row hs hg hr => h s A B row hs hg (fun r e => ⟨(hr r e).1, (hr r e).2.choose, (hr r e).2.choose_spec.1, .inl (hr r e).2.choose_spec.2⟩)

theorem Firm.mono {β : Type} {D D' : Nat} {I : β → World → Prop} (h : Firm D I) (hD : D ≤ D') : Firm D' I := fun s A B row hs hg hr => h s A B row hs hg (fun r e => ⟨Nat.le_trans hD (hr r e).1, (hr r e).2⟩)

theorem Firm.alloc {β : Type} {D : Nat} {I : β → World → Prop} (h : Firm D I) {s : β} {W : World} (o : Obj) (hs : I s W) : I s (W.alloc o) := h.own.alloc o hs

theorem grown_setCell (W : World) (b j : Nat) (v : Value) : W.grownBy (W.setCell ⟨b, j, none⟩ v) (some b) :=
  ⟨rfl, rfl, rfl, by simp [World.setCell], fun k hk hne => by simp only [World.setCell, Array.getElem?_modify]; rw [if_neg (fun e => hne (by rw [← e]))]⟩

theorem grown_setRow (W : World) (b : Nat) (cs : Array Value) : W.grownBy (W.setRow b cs) (some b) :=
  ⟨rfl, rfl, rfl, by simp [World.setRow], fun k hk hne => by simp only [World.setRow, Array.getElem?_modify]; rw [if_neg (fun e => hne (by rw [← e]))]⟩

theorem Firm.setRow {β : Type} {D g : Nat} {I : β → World → Prop} (h : Firm D I) {s : β} {W : World} {cs : Array Value} (hs : I s W) (hD : D ≤ g) (hg : Has W g 71 cs) (cs' : Array Value) : I s (W.setRow g cs') :=
  h s W _ (some g) hs (grown_setRow W g cs') (fun r e => by cases e; exact ⟨hD, _, hg, .inr ⟨_, _, rfl⟩⟩)

theorem Firm.below {β : Type} {D B : Nat} {w : World} (h : B ≤ w.heap.size) (hD : B ≤ D) : Firm D (fun (_ : β) W => Below B w W) := fun s A C row hs hg hr => hs.trans ⟨hg.os, hg.tape, hg.output, hg.size, fun k hk => hg.block k (by have := hs.size; omega) (fun e => by have := (hr k e.symm).1; omega)⟩

theorem Has.firm {A B : World} {g t D : Nat} {cs : Array Value} {row : Option Nat} (ht : t ≠ 71) (h : Has A g t cs) (hg : A.grownBy B row) (hr : ∀ r, row = some r → D ≤ r ∧ ∃ o : Obj, A.heap[r]? = some o ∧ Loose o) : Has B g t cs := by
  refine (hg.block g h.lt fun e => ?_).trans h
  obtain ⟨_, o, ho, hc⟩ := hr g e.symm
  have h' : A.heap[g]? = some (.cells cs t (0, 0)) := h
  rw [h'] at ho
  cases ho
  rcases hc with hc | ⟨_, _, hc⟩
  · cases hc
  · injection hc with h1 h2
    exact ht h2

/-- What a round leaves as it lay. -/
structure Stay (V V' : World) : Prop where
  size : V.heap.size ≤ V'.heap.size
  same : ∀ (g : Nat) (o : Obj), V.heap[g]? = some o → Loose o → V'.heap[g]? = some o

theorem Stay.refl (V : World) : Stay V V := ⟨Nat.le_refl _, fun _ _ h _ => h⟩

theorem Stay.trans {X Y Z : World} (h : Stay X Y) (k : Stay Y Z) : Stay X Z := ⟨Nat.le_trans h.size k.size, fun g o hg ho => k.same g o (h.same g o hg ho) ho⟩

theorem Stay.grown {V V' : World} {row : Option Nat} (hg : V.grownBy V' row) (hr : ∀ r, row = some r → ∃ cs t fr, V.heap[r]? = some (.cells cs t fr) ∧ t ≠ 71) : Stay V V' := ⟨hg.size, fun g o ho hl => (hg.block g (Array.getElem?_eq_some_iff.1 ho).1 (fun e => by
  obtain ⟨cs, t, fr, h, ht⟩ := hr g e.symm
  rw [h] at ho
  cases ho
  rcases hl with hl | ⟨_, _, hl⟩
  · cases hl
  · injection hl with h1 h2
    exact ht h2)).trans ho⟩

theorem Stay.alloc (V : World) (o : Obj) : Stay V (V.alloc o) := Stay.grown (World.grownBy_alloc V o none) (fun r e => by cases e)

theorem Stay.below {B : Nat} {V V' : World} (h : Below B V V') (hB : V.heap.size ≤ B) : Stay V V' := ⟨h.size, fun g o ho _ => (h.block g (by have := (Array.getElem?_eq_some_iff.1 ho).1; omega)).trans ho⟩

theorem Stay.setRow {V : World} {g t : Nat} {cs : Array Value} (h : Has V g t cs) (ht : t ≠ 71) (cs' : Array Value) : Stay V (V.setRow g cs') := Stay.grown (grown_setRow V g cs') (fun r e => by cases e; exact ⟨_, _, _, h, ht⟩)

theorem Stay.setCell {V : World} {g t : Nat} {cs : Array Value} (h : Has V g t cs) (ht : t ≠ 71) (j : Nat) (v : Value) : Stay V (V.setCell ⟨g, j, none⟩ v) := Stay.grown (grown_setCell V g j v) (fun r e => by cases e; exact ⟨_, _, _, h, ht⟩)

theorem Stay.has {V V' : World} {g : Nat} {cs : Array Value} (h : Stay V V') (hg : Has V g 71 cs) : Has V' g 71 cs := h.same g _ hg (.inr ⟨_, _, rfl⟩)

/-- What an iterator owes that hands over just the elements of xs, in their order, until it is told to stop. -/
def SeqN {α : Type} (KW : World → Prop) (m gf : Nat) (lb : Array Value) (encs : α → Array Value) (xs : List α) (w : World) : Prop :=
  ∀ (l D : Nat) (J Jx : List α → World → Prop) (W : World), Below w.heap.size w W → D ≤ W.heap.size → Firm D J → Firm D Jx → (∀ pre V, J pre V → KW V) →
    (∀ pre x V, pre ++ [x] <+: xs → J pre V → YieldAt Fence.wide (m - 1) Try.prog l (encs x) V fun e V' => (e = .returned (.bool true) ∧ J (pre ++ [x]) V' ∧ ∀ g cs, Has V g 71 cs → Has V' g 71 cs) ∨ (e = .returned (.bool false) ∧ Jx (pre ++ [x]) V')) → J [] W →
    CallsIn Fence.wide m Try.prog gf (#[.func (.yield l) #[] #[]] ++ lb) W fun e W' => (∃ v, e = .returned v) ∧ (J xs W' ∨ ∃ pre, pre <+: xs ∧ Jx pre W')

/-- How a round's body ends. -/
def staysN {α : Type} (I : List α → World → Prop) (Ix : List α → World → Prop) (xs : List α) (W : World) : Exit → Act → World → Prop
  | .normal, _, W' => Stay W W' ∧ I xs W'
  | .ret, _, W' => Stay W W' ∧ Ix xs W'
  | _, _, _ => False

theorem range_law {α : Type} {g : Operand} {ps : Array Tmp} {assign body : Code} {Q : Exit → Act → World → Prop} {a : Act} {w : World} {n gf : Nat} {lb : Array Value} (hg : a.eval g = .func (.func gf) #[] lb)
    (eg : ∀ args w, (callFunc gf args).run Try.prog w = .ok (.enter gf args) w) {encs : α → Array Value} {xs : List α} {KW : World → Prop} (hit : SeqN KW (n - 1) gf lb encs xs w) (hps : ∀ x, (encs x).size = ps.size)
    (I Ix : List α → World → Prop) (hKW : ∀ pre V, I pre V → KW V) (hI : Firm w.heap.size I) (hIx : Firm w.heap.size Ix) (h0 : I [] w) (Ax : α → Act → World → Prop) (hAx : ∀ x a', OwnFrom w.heap.size (fun (_ : Unit) W => Ax x a' W))
    (hassign : ∀ (l : Nat) (pre : List α) (x : α) (W : World) (K : Act → World → Prop), I pre W → (∀ a' W', Stay W W' → I pre W' → Ax x a' W' → K a' W') → assign.wpIn (Fence.wide.inRound l) (n - 1 - 1) Try.prog (Exit.then K (fun _ _ _ => False)) { tmps := (ps.zip (encs x)).foldl (fun t (p, v) => t.setIfInBounds p v) a.tmps, defers := [] } W)
    (hbody : ∀ (l : Nat) (pre : List α) (x : α) (a' : Act) (W : World), pre ++ [x] <+: xs → I pre W → Ax x a' W → body.wpIn (Fence.wide.inRound l) (n - 1 - 1) Try.prog (staysN I Ix (pre ++ [x]) W) a' W)
    (hdone : ∀ (D : Nat) (W : World), w.heap.size ≤ D → I xs W → W.heap[D]? = some (.deferred (some [])) → Q .normal { a with defers := { target := .collected D, args := #[] } :: a.defers } W)
    (hstop : ∀ (D : Nat) (pre : List α) (W : World), w.heap.size ≤ D → pre <+: xs → Ix pre W → W.heap[D]? = some (.deferred (some [])) → Code.ret.wpIn Fence.wide n Try.prog Q { a with defers := { target := .collected D, args := #[] } :: a.defers } W) :
    (Code.rangeFunc g ps assign body).wpIn Fence.wide n Try.prog Q a w := by
  refine wpIn_rangeFunc fun fn hfn => ?_
  let L := w.heap.size + 1
  let R : LoopState → Option Code → Loop := fun st pe => { state := st, pending := pe, fn, tmps := a.tmps, params := ps, assign, body, defers := w.heap.size }
  let W1 := (w.alloc (.deferred (some []))).alloc (.loop (R .ready none))
  have hk1 : W1.heap[w.heap.size]? = some (.deferred (some [])) := (Below.heap_alloc _ _ _ (by simp)).trans (World.alloc_heap_new w _)
  have hl1 : W1.heap[L]? = some (.loop (R .ready none)) := by
    have h := World.alloc_heap_new (w.alloc (.deferred (some []))) (.loop (R .ready none))
    rwa [World.size_alloc] at h
  have hb1 : Below w.heap.size w W1 := ((Below.refl _ w).alloc (Nat.le_refl _) _).alloc (by simp) _
  have hLw : w.heap.size ≤ L := Nat.le_succ _
  have hLn : w.heap.size ≠ L := by show w.heap.size ≠ w.heap.size + 1; omega
  let J : List α → World → Prop := fun pre W => I pre W ∧ W.heap[L]? = some (.loop (R .ready none)) ∧ W.heap[w.heap.size]? = some (.deferred (some []))
  let Jx : List α → World → Prop := fun pre W => Ix pre W ∧ W.heap[L]? = some (.loop (R .done (some .ret))) ∧ W.heap[w.heap.size]? = some (.deferred (some []))
  have keep : ∀ {A B : World} {row : Option Nat} {k : Nat} {o : Obj}, A.heap[k]? = some o → o.isCells = false → k < W1.heap.size → A.grownBy B row → (∀ r, row = some r → W1.heap.size ≤ r ∧ ∃ o : Obj, A.heap[r]? = some o ∧ Loose o) → B.heap[k]? = some o := by
    intro A B row k o hk ho hlt hgr hr
    exact (hgr.block k (Array.getElem?_eq_some_iff.1 hk).1 (fun e => by have := (hr k e.symm).1; omega)).trans hk
  have hs1 : W1.heap.size = w.heap.size + 2 := by simp [W1]
  refine ⟨L, [{ target := .collected w.heap.size, args := #[] }], W1, { target := .fn (.func gf) lb, args := #[.func (.yield L) #[] #[]] }, W1, gf, #[.func (.yield L) #[] #[]] ++ lb, W1, run_enterLoop_outer _ _ _ _ _, ?_, fun _ _ => trivial, ?_, fun h => (by cases h), ?_⟩
  · simp only [resolve, hg]
    simp [go_sem]
  · simp [invoke, go_sem, eg]
  · refine (hit L W1.heap.size J Jx W1 hb1 (Nat.le_refl _) ?_ ?_ (fun pre V h => hKW pre V h.1) ?_ ⟨hI.alloc _ (hI.alloc _ h0), hl1, hk1⟩).mono ?_
    · rintro s A B row ⟨h1, h2, h3⟩ hgr hr
      exact ⟨hI.mono (by omega) s A B row h1 hgr hr, keep h2 rfl (by omega) hgr hr, keep h3 rfl (by omega) hgr hr⟩
    · rintro s A B row ⟨h1, h2, h3⟩ hgr hr
      exact ⟨hIx.mono (by omega) s A B row h1 hgr hr, keep h2 rfl (by omega) hgr hr, keep h3 rfl (by omega) hgr hr⟩
    · rintro pre x V hpx ⟨hi, hl, hk⟩
      refine ⟨fn, _, assign, body, run_yield (args := encs x) hl (hps x), roundIn_of_wpIn hfn (hassign L pre x V _ hi ?_)⟩
      intro a' V1 hst hi1 hax
      have hl1' := hst.same L _ hl (.inl rfl)
      have hk1' := hst.same _ _ hk (.inl rfl)
      have hL : L < V1.heap.size := (Array.getElem?_eq_some_iff.1 hl1').1
      have hl2 : (V1.putObj L (.loop (R .busy none))).heap[L]? = some (.loop (R .busy none)) := World.putObj_heap_same hL
      have hk2 : (V1.putObj L (.loop (R .busy none))).heap[w.heap.size]? = some (.deferred (some [])) := (World.putObj_heap_other hLn).trans hk1'
      refine ⟨_, run_beginRound hl1' rfl, ?_⟩
      refine wpIn_mono (hbody L pre x a' _ hpx (hI.own.putObj _ hi1 hLw hl1' rfl) ((hAx x a').putObj (s := ()) _ hax hLw hl1' rfl)) ?_
      intro e a3 V3 hp
      cases e with
      | normal =>
        obtain ⟨hkf, hi3⟩ := hp
        have hl3 := hkf.same L _ hl2 (.inl rfl)
        have hk3 := hkf.same _ _ hk2 (.inl rfl)
        refine ⟨_, _, run_endRound none hl3, .inl ⟨rfl, ⟨hI.own.putObj _ hi3 hLw hl3 rfl, World.putObj_heap_same (Array.getElem?_eq_some_iff.1 hl3).1, (World.putObj_heap_other hLn).trans hk3⟩, ?_⟩⟩
        intro b cs hb
        have hbL : b ≠ L := by
          intro e
          have hb' : V.heap[b]? = some (.cells cs 71 (0, 0)) := hb
          rw [e, hl] at hb'
          cases hb'
        have h1 : Has V1 b 71 cs := hst.has hb
        have h2 : Has (V1.putObj L (.loop (R .busy none))) b 71 cs := (World.putObj_heap_other hbL).trans h1
        have h3 : Has V3 b 71 cs := hkf.has h2
        exact (World.putObj_heap_other hbL).trans h3
      | ret =>
        obtain ⟨hkf, hi3⟩ := hp
        have hl3 := hkf.same L _ hl2 (.inl rfl)
        have hk3 := hkf.same _ _ hk2 (.inl rfl)
        exact ⟨_, _, run_endRound (some .ret) hl3, .inr ⟨rfl, hIx.own.putObj _ hi3 hLw hl3 rfl, World.putObj_heap_same (Array.getElem?_eq_some_iff.1 hl3).1, (World.putObj_heap_other hLn).trans hk3⟩⟩
      | _ => exact hp.elim
    · rintro e W2 ⟨⟨v, rfl⟩, (⟨hi, hl, hk⟩ | ⟨pre, hpre, hi, hl, hk⟩)⟩
      · exact ⟨none, _, run_endLoop hl (by simp [R]), hdone _ _ (Nat.le_refl _) (hI.own.putObj _ hi hLw hl rfl) ((World.putObj_heap_other hLn).trans hk)⟩
      · exact ⟨some .ret, _, run_endLoop hl (by simp [R]), hstop _ pre _ (Nat.le_refl _) hpre (hIx.own.putObj _ hi hLw hl rfl) ((World.putObj_heap_other hLn).trans hk)⟩

open Go.ChangeShapes Go.WideShapes Go.ChangeAt Go.RowKit
set_option linter.unusedVariables false
variable {P : Program} {ops : Array Oper} {Q : Exit → Act → World → Prop} {md : Region.Mode} {S : World → Prop} {m : Nat}









open Go.RowKit Go.Shelf
set_option linter.unusedVariables false

theorem Firm.drew {β : Type} {D : Nat} {I : β → World → Prop} (h : Firm D I) {s : β} (W : World) (hs : I s W) : I s W.drew := h s W _ none hs ⟨rfl, rfl, rfl, Nat.le_refl _, fun _ _ _ => rfl⟩ (fun r e => by cases e)
end Go.Proofs.Ytancebpjfbbcaaa
