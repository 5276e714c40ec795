/- Texts on the program's own functions, joined. -/
import Derived.Test.YtoeanaadlihkeabDoorMkPa
import Derived.RangeFuncWrites
import Derived.Test.YtoeanaadlihkeabDoorMkApp

/- A range over a function whose iterator keeps a variable of its own, of the type level: what the two sides owe each other. -/
namespace Go.Proofs.YtoeanaadlihkeabDoor
open Go.RowKit Go.Shelf
set_option linter.unusedVariables false

/-- What an iterator and the loop's own book-keeping may turn: a block that is no cells, or one of the type level. -/
def Loose (o : Obj) : Prop := o.isCells = false ∨ ∃ cs fr, o = .cells cs 42 fr

/-- What the loop's invariant abides. -/
def Firm {β : Type} (D : Nat) (I : β → World → Prop) : Prop := ∀ s A B row, I s A → A.grownBy B row → (∀ r, row = some r → D ≤ r ∧ ∃ o : Obj, A.heap[r]? = some o ∧ Loose o) → I s B

theorem Firm.own {β : Type} {D : Nat} {I : β → World → Prop} (h : Firm D I) : OwnFrom D I := fun s A B row hs hg hr => h s A B row hs hg (fun r e => ⟨(hr r e).1, (hr r e).2.choose, (hr r e).2.choose_spec.1, .inl (hr r e).2.choose_spec.2⟩)

theorem Firm.mono {β : Type} {D D' : Nat} {I : β → World → Prop} (h : Firm D I) (hD : D ≤ D') : Firm D' I := fun s A B row hs hg hr => h s A B row hs hg (fun r e => ⟨Nat.le_trans hD (hr r e).1, (hr r e).2⟩)

theorem Firm.alloc {β : Type} {D : Nat} {I : β → World → Prop} (h : Firm D I) {s : β} {W : World} (o : Obj) (hs : I s W) : I s (W.alloc o) := h.own.alloc o hs

theorem grown_setCell (W : World) (b j : Nat) (v : Value) : W.grownBy (W.setCell ⟨b, j, none⟩ v) (some b) :=
  ⟨rfl, rfl, rfl, by simp [World.setCell], fun k hk hne => by simp only [World.setCell, Array.getElem?_modify]; rw [if_neg (fun e => hne (by rw [← e]))]⟩

theorem grown_setRow (W : World) (b : Nat) (cs : Array Value) : W.grownBy (W.setRow b cs) (some b) :=
  ⟨rfl, rfl, rfl, by simp [World.setRow], fun k hk hne => by simp only [World.setRow, Array.getElem?_modify]; rw [if_neg (fun e => hne (by rw [← e]))]⟩

theorem Firm.setRow {β : Type} {D g : Nat} {I : β → World → Prop} (h : Firm D I) {s : β} {W : World} {cs : Array Value} (hs : I s W) (hD : D ≤ g) (hg : Has W g 42 cs) (cs' : Array Value) : I s (W.setRow g cs') :=
  h s W _ (some g) hs (grown_setRow W g cs') (fun r e => by cases e; exact ⟨hD, _, hg, .inr ⟨_, _, rfl⟩⟩)

theorem Firm.below {β : Type} {D B : Nat} {w : World} (h : B ≤ w.heap.size) (hD : B ≤ D) : Firm D (fun (_ : β) W => Below B w W) := fun s A C row hs hg hr => hs.trans ⟨hg.os, hg.tape, hg.output, hg.size, fun k hk => hg.block k (by have := hs.size; omega) (fun e => by have := (hr k e.symm).1; omega)⟩

theorem Has.firm {A B : World} {g t D : Nat} {cs : Array Value} {row : Option Nat} (ht : t ≠ 42) (h : Has A g t cs) (hg : A.grownBy B row) (hr : ∀ r, row = some r → D ≤ r ∧ ∃ o : Obj, A.heap[r]? = some o ∧ Loose o) : Has B g t cs := by
  refine (hg.block g h.lt fun e => ?_).trans h
  obtain ⟨_, o, ho, hc⟩ := hr g e.symm
  have h' : A.heap[g]? = some (.cells cs t (0, 0)) := h
  rw [h'] at ho
  cases ho
  rcases hc with hc | ⟨_, _, hc⟩
  · cases hc
  · injection hc with h1 h2
    exact ht h2

/-- What a round leaves as it lay. -/
structure Stay (V V' : World) : Prop where
  size : V.heap.size ≤ V'.heap.size
  same : ∀ (g : Nat) (o : Obj), V.heap[g]? = some o → Loose o → V'.heap[g]? = some o

theorem Stay.refl (V : World) : Stay V V := ⟨Nat.le_refl _, fun _ _ h _ => h⟩
theorem Stay.trans {X Y Z : World} (h : Stay X Y) (k : Stay Y Z) : Stay X Z := ⟨Nat.le_trans h.size k.size, fun g o hg ho => k.same g o (h.same g o hg ho) ho⟩

theorem Stay.grown {V V' : World} {row : Option Nat} (hg : V.grownBy V' row) (hr : ∀ r, row = some r → ∃ cs t fr, V.heap[r]? = some (.cells cs t fr) ∧ t ≠ 42) : Stay V V' := ⟨hg.size, fun g o ho hl => (hg.block g (Array.getElem?_eq_some_iff.1 ho).1 (fun e => by
  obtain ⟨cs, t, fr, h, ht⟩ := hr g e.symm
  rw [h] at ho
  cases ho
  rcases hl with hl | ⟨_, _, hl⟩
  · cases hl
  · injection hl with h1 h2
    exact ht h2)).trans ho⟩

theorem Stay.alloc (V : World) (o : Obj) : Stay V (V.alloc o) := Stay.grown (World.grownBy_alloc V o none) (fun r e => by cases e)
theorem Stay.below {B : Nat} {V V' : World} (h : Below B V V') (hB : V.heap.size ≤ B) : Stay V V' := ⟨h.size, fun g o ho _ => (h.block g (by have := (Array.getElem?_eq_some_iff.1 ho).1; omega)).trans ho⟩
theorem Stay.setRow {V : World} {g t : Nat} {cs : Array Value} (h : Has V g t cs) (ht : t ≠ 42) (cs' : Array Value) : Stay V (V.setRow g cs') := Stay.grown (grown_setRow V g cs') (fun r e => by cases e; exact ⟨_, _, _, h, ht⟩)
theorem Stay.setCell {V : World} {g t : Nat} {cs : Array Value} (h : Has V g t cs) (ht : t ≠ 42) (j : Nat) (v : Value) : Stay V (V.setCell ⟨g, j, none⟩ v) := Stay.grown (grown_setCell V g j v) (fun r e => by cases e; exact ⟨_, _, _, h, ht⟩)
theorem Stay.has {V V' : World} {g : Nat} {cs : Array Value} (h : Stay V V') (hg : Has V g 42 cs) : Has V' g 42 cs := h.same g _ hg (.inr ⟨_, _, rfl⟩)

/-- What an iterator owes that hands over just the elements of xs, in their order, until it is told to stop. -/
def SeqN {α : Type} (m gf : Nat) (lb : Array Value) (encs : α → Array Value) (xs : List α) (w : World) : Prop :=
  ∀ (l D : Nat) (J Jx : List α → World → Prop) (W : World), Below w.heap.size w W → D ≤ W.heap.size → Firm D J → Firm D Jx →
    (∀ pre x V, pre ++ [x] <+: xs → J pre V → YieldAt Fence.wide (m - 1) Tryd.prog l (encs x) V fun e V' => (e = .returned (.bool true) ∧ J (pre ++ [x]) V' ∧ ∀ g cs, Has V g 42 cs → Has V' g 42 cs) ∨ (e = .returned (.bool false) ∧ Jx (pre ++ [x]) V')) → J [] W →
    CallsIn Fence.wide m Tryd.prog gf (#[.func (.yield l) #[] #[]] ++ lb) W fun e W' => (∃ v, e = .returned v) ∧ (J xs W' ∨ ∃ pre, pre <+: xs ∧ Jx pre W')

/-- How a round's body ends. -/
def staysN {α : Type} (I : List α → World → Prop) (Ix : List α → World → Prop) (xs : List α) (W : World) : Exit → Act → World → Prop
  | .normal, _, W' => Stay W W' ∧ I xs W'
  | .ret, _, W' => Stay W W' ∧ Ix xs W'
  | _, _, _ => False

theorem staysN_out {α : Type} {I Ix : List α → World → Prop} {xs : List α} {W : World} : ¬ LetsOut (staysN I Ix xs W) := by
  rintro ⟨_, _, h⟩
  exact h

theorem range_law {α : Type} {g : Operand} {ps : Array Tmp} {assign body : Code} {Q : Exit → Act → World → Prop} {a : Act} {w : World} {n gf : Nat} {lb : Array Value} (hg : a.eval g = .func (.func gf) #[] lb)
    (eg : ∀ args w, (callFunc gf args).run Tryd.prog w = .ok (.enter gf args) w) {encs : α → Array Value} {xs : List α} (hit : SeqN (n - 1) gf lb encs xs w) (hps : ∀ x, (encs x).size = ps.size)
    (I Ix : List α → World → Prop) (hI : Firm w.heap.size I) (hIx : Firm w.heap.size Ix) (h0 : I [] w) (Ax : α → Act → World → Prop) (hAx : ∀ x a', OwnFrom w.heap.size (fun (_ : Unit) W => Ax x a' W))
    (hassign : ∀ (l : Nat) (pre : List α) (x : α) (W : World) (K : Act → World → Prop), I pre W → (∀ a' W', Stay W W' → I pre W' → Ax x a' W' → K a' W') → assign.wpIn (Fence.wide.inRound l) (n - 1 - 1) Tryd.prog (Exit.then K (fun _ _ _ => False)) { tmps := (ps.zip (encs x)).foldl (fun t (p, v) => t.setIfInBounds p v) a.tmps, defers := [] } W)
    (hbody : ∀ (l : Nat) (pre : List α) (x : α) (a' : Act) (W : World), pre ++ [x] <+: xs → I pre W → Ax x a' W → body.wpIn (Fence.wide.inRound l) (n - 1 - 1) Tryd.prog (staysN I Ix (pre ++ [x]) W) a' W)
    (hdone : ∀ (D : Nat) (W : World), w.heap.size ≤ D → I xs W → W.heap[D]? = some (.deferred (some [])) → Q .normal { a with defers := { target := .collected D, args := #[] } :: a.defers } W)
    (hstop : ∀ (D : Nat) (pre : List α) (W : World), w.heap.size ≤ D → pre <+: xs → Ix pre W → W.heap[D]? = some (.deferred (some [])) → Code.ret.wpIn Fence.wide n Tryd.prog Q { a with defers := { target := .collected D, args := #[] } :: a.defers } W) :
    (Code.rangeFunc g ps assign body).wpIn Fence.wide n Tryd.prog Q a w := by
  refine wpIn_rangeFunc fun fn hfn => ?_
  let L := w.heap.size + 1
  let R : LoopState → Option Code → Loop := fun st pe => { state := st, pending := pe, fn, tmps := a.tmps, params := ps, assign, body, defers := w.heap.size }
  let W1 := (w.alloc (.deferred (some []))).alloc (.loop (R .ready none))
  have hk1 : W1.heap[w.heap.size]? = some (.deferred (some [])) := (Below.heap_alloc _ _ _ (by simp)).trans (World.alloc_heap_new w _)
  have hl1 : W1.heap[L]? = some (.loop (R .ready none)) := by
    have h := World.alloc_heap_new (w.alloc (.deferred (some []))) (.loop (R .ready none))
    rwa [World.size_alloc] at h
  have hb1 : Below w.heap.size w W1 := ((Below.refl _ w).alloc (Nat.le_refl _) _).alloc (by simp) _
  have hLw : w.heap.size ≤ L := Nat.le_succ _
  have hLn : w.heap.size ≠ L := by show w.heap.size ≠ w.heap.size + 1; omega
  let J : List α → World → Prop := fun pre W => I pre W ∧ W.heap[L]? = some (.loop (R .ready none)) ∧ W.heap[w.heap.size]? = some (.deferred (some []))
  let Jx : List α → World → Prop := fun pre W => Ix pre W ∧ W.heap[L]? = some (.loop (R .done (some .ret))) ∧ W.heap[w.heap.size]? = some (.deferred (some []))
  have keep : ∀ {A B : World} {row : Option Nat} {k : Nat} {o : Obj}, A.heap[k]? = some o → o.isCells = false → k < W1.heap.size → A.grownBy B row → (∀ r, row = some r → W1.heap.size ≤ r ∧ ∃ o : Obj, A.heap[r]? = some o ∧ Loose o) → B.heap[k]? = some o := by
    intro A B row k o hk ho hlt hgr hr
    exact (hgr.block k (Array.getElem?_eq_some_iff.1 hk).1 (fun e => by have := (hr k e.symm).1; omega)).trans hk
  have hs1 : W1.heap.size = w.heap.size + 2 := by simp [W1]
  refine ⟨L, [{ target := .collected w.heap.size, args := #[] }], W1, { target := .fn (.func gf) lb, args := #[.func (.yield L) #[] #[]] }, W1, gf, #[.func (.yield L) #[] #[]] ++ lb, W1, run_enterLoop_outer _ _ _ _ _, ?_, fun _ _ => trivial, ?_, fun h => (by cases h), ?_⟩
  · simp only [resolve, hg]
    simp [go_sem]
  · simp [invoke, go_sem, eg]
  · refine (hit L W1.heap.size J Jx W1 hb1 (Nat.le_refl _) ?_ ?_ ?_ ⟨hI.alloc _ (hI.alloc _ h0), hl1, hk1⟩).mono ?_
    · rintro s A B row ⟨h1, h2, h3⟩ hgr hr
      exact ⟨hI.mono (by omega) s A B row h1 hgr hr, keep h2 rfl (by omega) hgr hr, keep h3 rfl (by omega) hgr hr⟩
    · rintro s A B row ⟨h1, h2, h3⟩ hgr hr
      exact ⟨hIx.mono (by omega) s A B row h1 hgr hr, keep h2 rfl (by omega) hgr hr, keep h3 rfl (by omega) hgr hr⟩
    · rintro pre x V hpx ⟨hi, hl, hk⟩
      refine ⟨fn, _, assign, body, run_yield (args := encs x) hl (hps x), roundIn_of_wpIn hfn (hassign L pre x V _ hi ?_)⟩
      intro a' V1 hst hi1 hax
      have hl1' := hst.same L _ hl (.inl rfl)
      have hk1' := hst.same _ _ hk (.inl rfl)
      have hL : L < V1.heap.size := (Array.getElem?_eq_some_iff.1 hl1').1
      have hl2 : (V1.putObj L (.loop (R .busy none))).heap[L]? = some (.loop (R .busy none)) := World.putObj_heap_same hL
      have hk2 : (V1.putObj L (.loop (R .busy none))).heap[w.heap.size]? = some (.deferred (some [])) := (World.putObj_heap_other hLn).trans hk1'
      refine ⟨_, run_beginRound hl1' rfl, ?_⟩
      refine wpIn_mono (hbody L pre x a' _ hpx (hI.own.putObj _ hi1 hLw hl1' rfl) ((hAx x a').putObj (s := ()) _ hax hLw hl1' rfl)) ?_
      intro e a3 V3 hp
      cases e with
      | normal =>
        obtain ⟨hkf, hi3⟩ := hp
        have hl3 := hkf.same L _ hl2 (.inl rfl)
        have hk3 := hkf.same _ _ hk2 (.inl rfl)
        refine ⟨_, _, run_endRound none hl3, .inl ⟨rfl, ⟨hI.own.putObj _ hi3 hLw hl3 rfl, World.putObj_heap_same (Array.getElem?_eq_some_iff.1 hl3).1, (World.putObj_heap_other hLn).trans hk3⟩, ?_⟩⟩
        intro b cs hb
        have hbL : b ≠ L := by
          intro e
          have hb' : V.heap[b]? = some (.cells cs 42 (0, 0)) := hb
          rw [e, hl] at hb'
          cases hb'
        have h1 : Has V1 b 42 cs := hst.has hb
        have h2 : Has (V1.putObj L (.loop (R .busy none))) b 42 cs := (World.putObj_heap_other hbL).trans h1
        have h3 : Has V3 b 42 cs := hkf.has h2
        exact (World.putObj_heap_other hbL).trans h3
      | ret =>
        obtain ⟨hkf, hi3⟩ := hp
        have hl3 := hkf.same L _ hl2 (.inl rfl)
        have hk3 := hkf.same _ _ hk2 (.inl rfl)
        exact ⟨_, _, run_endRound (some .ret) hl3, .inr ⟨rfl, hIx.own.putObj _ hi3 hLw hl3 rfl, World.putObj_heap_same (Array.getElem?_eq_some_iff.1 hl3).1, (World.putObj_heap_other hLn).trans hk3⟩⟩
      | _ => exact hp.elim
    · rintro e W2 ⟨⟨v, rfl⟩, (⟨hi, hl, hk⟩ | ⟨pre, hpre, hi, hl, hk⟩)⟩
      · exact ⟨none, _, run_endLoop hl (by simp [R]), hdone _ _ (Nat.le_refl _) (hI.own.putObj _ hi hLw hl rfl) ((World.putObj_heap_other hLn).trans hk)⟩
      · exact ⟨some .ret, _, run_endLoop hl (by simp [R]), hstop _ pre _ (Nat.le_refl _) hpre (hIx.own.putObj _ hi hLw hl rfl) ((World.putObj_heap_other hLn).trans hk)⟩
end Go.Proofs.YtoeanaadlihkeabDoor

/- The program's iterator over the levels. -/
namespace Go.Proofs.YtoeanaadlihkeabDoor
open Go.RowKit Go.Shelf
set_option linter.unusedVariables false

attribute [local go_sem] Oper.semAt_some

def lcells (f c : Nat) : Array Value := #[.int .i64 (f : Nat), .int .i64 (c : Nat)]

theorem lcells_one (f c : Nat) : ((lcells f c).all fun x => x.oneCell') = true := by simp [lcells, Value.oneCell']

/-- What is handed over at level k: its number, its first sector, how many it has. -/
def lenc (N k : Nat) : Array Value := #[.int .i64 (k : Nat), .agg (lcells (off N k) (lv N (k + 1)))]

theorem next_range {m : Nat} {pre : List Nat} {x : Nat} (h : pre ++ [x] <+: List.range m) : x < m ∧ pre = List.range x := by
  obtain ⟨t, ht⟩ := h
  have hl := congrArg List.length ht
  simp at hl
  have hkm : pre.length < m := by omega
  have e2 : (List.range m)[pre.length]? = some x := by rw [← ht]; simp
  have e3 : (List.range m)[pre.length]? = some pre.length := by simp [hkm]
  rw [e3] at e2
  have hx : pre.length = x := Option.some.inj e2
  refine ⟨by omega, ?_⟩
  have e1 : (List.range m).take pre.length = pre := by rw [← ht]; simp
  rw [← e1, List.take_range, Nat.min_eq_left (by omega), hx]

theorem range_pre {k m : Nat} (h : k ≤ m) : List.range k <+: List.range m := by
  obtain ⟨d, rfl⟩ : ∃ d, m = k + d := ⟨m - k, by omega⟩
  rw [List.range_add]
  exact List.prefix_append _ _

theorem pre_range {m : Nat} {pre : List Nat} (h : pre <+: List.range m) : ∃ k, k ≤ m ∧ pre = List.range k := by
  have hl := h.length_le
  simp at hl
  refine ⟨pre.length, hl, ?_⟩
  obtain ⟨t, ht⟩ := h
  have e1 : (List.range m).take pre.length = pre := by rw [← ht]; simp
  rw [← e1, List.take_range]
  simp [Nat.min_eq_left hl]

theorem run_addN {o : Oper} {a : Act} (x y : Operand) (ho : o.op = .binOp .add 3 x y 3) (p q : Nat) (hx : a.eval x = .int .i64 (p : Nat)) (hy : a.eval y = .int .i64 (q : Nat)) (hp : p ≤ 1000000) (hq : q ≤ 1000000) (w : World) :
    (execOp a.eval o).run Tryd.prog w = .ok (.value (.int .i64 ((p + q : Nat) : Int))) w := by
  have hw : IntKind.i64.wrap ((p : Int) + (q : Int)) = (p : Int) + (q : Int) := by rw [IntKind.wrap_i64]; omega
  unfold execOp
  simp only [ho, hx, hy]
  go_simp

theorem run_load_3 {o : Oper} {a : Act} (x : Operand) (ho : o.op = .load 3 x) (p : Addr) (hx : a.eval x = .pointer (some p)) (v : Value) (w : World) (h : w.cell? p = some v) : (execOp a.eval o).run Tryd.prog w = .ok (.value v) w := by
  unfold execOp
  simp only [ho, hx]
  go_simp

theorem run_buildL {o : Oper} {a : Act} (x0 x1 : Operand) (ho : o.op = .build 42 #[(0, x0), (1, x1)]) (p q : Nat) (h0 : a.eval x0 = .int .i64 (p : Nat)) (h1 : a.eval x1 = .int .i64 (q : Nat)) (w : World) :
    (execOp a.eval o).run Tryd.prog w = .ok (.value (.agg (lcells p q))) w := by
  unfold lcells
  unfold execOp
  simp only [ho, h0, h1, List.map_toArray, List.map_cons, List.map_nil]
  go_simp

set_option maxRecDepth 100000 in
theorem sectors_for (n : Nat) (w : World) (h : n ≤ 1000000) : Calls Tryd.prog 22 #[.int .i64 (n : Nat)] w fun e w' => e = .returned (.int .i64 (((n + 1) / 2 : Nat) : Int)) ∧ w' = w := by
  go_enter Tryd.func22, Tryd.ntmps22
  go_wp2
  go_ret
  refine ⟨?_, rfl⟩
  have e : ((n : Int) + 2 - 1) / 2 = (((n + 1) / 2 : Nat) : Int) := by omega
  show Ending.returned (.int .i64 (((n : Int) + 2 - 1) / 2)) = _
  rw [e]

theorem Firm.drew {β : Type} {D : Nat} {I : β → World → Prop} (h : Firm D I) {s : β} (W : World) (hs : I s W) : I s W.drew := h s W _ none hs ⟨rfl, rfl, rfl, Nat.le_refl _, fun _ _ _ => rfl⟩ (fun r e => by cases e)

theorem Tryd.size42 : (Tryd.prog.info? 42).map (·.size) = some 2 := by kernel_rfl

set_option maxRecDepth 100000 in
set_option maxHeartbeats 1000000 in
theorem lev_in (m l D Bn N : Nat) (h1 : 1 ≤ N) (h2 : N ≤ 2048) (J Jx : List Nat → World → Prop) (hJ : Firm D J)
    (W : World) (hBn : W.cell? ⟨Bn, 0, none⟩ = some (.int .i64 (N : Nat))) (hD : D ≤ W.heap.size)
    (hY : ∀ pre x V, pre ++ [x] <+: List.range (dep N) → J pre V → YieldAt Fence.wide (m - 1) Tryd.prog l (lenc N x) V fun e V' => (e = .returned (.bool true) ∧ J (pre ++ [x]) V' ∧ ∀ g cs, Has V g 42 cs → Has V' g 42 cs) ∨ (e = .returned (.bool false) ∧ Jx (pre ++ [x]) V')) (h0 : J [] W) :
    CallsIn Fence.wide m Tryd.prog 21 #[.func (.yield l) #[] #[], .pointer (some ⟨Bn, 0, none⟩)] W fun e W' => (∃ v, e = .returned v) ∧ (J (List.range (dep N)) W' ∨ ∃ pre, pre <+: List.range (dep N) ∧ Jx pre W') := by
  have hs : ∀ k w, CallsIn Fence.wide k Tryd.prog 22 #[.int .i64 (N : Nat)] w fun e w' => e = .returned (.int .i64 (((N + 1) / 2 : Nat) : Int)) ∧ w' = w := fun k w => callsIn_wide.2 (sectors_for N w (by omega))
  refine callsIn_of_wp Tryd.func21 rfl trivial ?_ rfl
  simp only [Tryd.ntmps21, List.size_toArray, List.length_cons, List.length_nil, Nat.reduceAdd, Nat.reduceSub, Array.replicate_succ, Array.replicate_zero, List.push_toArray, List.append_toArray, List.nil_append, List.cons_append]
  gi_wp2_with (refine ⟨trivial, fun h => (by cases h), ?_⟩; refine (hs _ _).mono ?_; rintro e w' ⟨rfl, rfl⟩)
  gi_loopw [3] (fun s wr => ∃ k : Nat, k < dep N ∧ s = .int .i64 (k : Nat) ∧ Has wr w'.heap.size 42 (lcells (off N k) (lv N (k + 1))) ∧ J (List.range k) wr) (fun s _ => dep N - (intOf s).toNat)
  case atStart =>
    refine ⟨0, dep_pos N, rfl, ?_, hJ.alloc _ h0⟩
    have e : ((N : Int) + 1) / 2 = ((lv N 1 : Nat) : Int) := by show _ = (((N + 1) / 2 : Nat) : Int); omega
    rw [e]
    exact Has.new _ _ _
  case round =>
    obtain ⟨k, hk, rfl, hl, hJk⟩ := hrel
    have hpre : List.range k ++ [k] <+: List.range (dep N) := by rw [← List.range_succ]; exact range_pre hk
    obtain ⟨fn, tmps, assign, body, hy, hR⟩ := hY (List.range k) k wr hpre hJk
    have hc1 := lv_pos N (k + 1) h1
    have hc2 := Nat.le_trans (lv_le N (k + 1) h1) h2
    have hf2 := off_max N k h1 h2 (Nat.le_trans (Nat.le_of_lt hk) (dep_11 N h2))
    obtain ⟨f, hf⟩ : ∃ f, f = off N k := ⟨_, rfl⟩
    obtain ⟨c, hc⟩ : ∃ c, c = lv N (k + 1) := ⟨_, rfl⟩
    have HV : Hid (f = off N k ∧ c = lv N (k + 1)) := ⟨hf, hc⟩
    unfold lenc at hy
    rw [← hf, ← hc] at hy hl
    rw [← hc] at hc1 hc2
    rw [← hf] at hf2
    clear hf hc
    unfold lcells at hy
    have hl0 := hl
    have t0 := hl.cell 0
    have t1 := hl.cell 1
    simp only [lcells, List.getElem?_toArray, List.getElem?_cons_zero, List.getElem?_cons_succ] at t0 t1
    gi_wp2
    refine ⟨fun h => (by cases h), hR.mono ?_⟩
    clear hR hy hl t0 t1
    rintro e W3 (⟨rfl, hJ3, hkeep⟩ | ⟨rfl, hJx3⟩)
    · have hl3 := hkeep _ _ hl0
      have t0 := hl3.cell 0
      have t1 := hl3.cell 1
      simp only [lcells, List.getElem?_toArray, List.getElem?_cons_zero, List.getElem?_cons_succ] at t0 t1
      clear hkeep hJk hl0
      by_cases hone : c = 1
      · have hi1 : ¬ (1 : Int) < (c : Int) := by omega
        have hkd : k + 1 = dep N := by
          refine Classical.byContradiction fun h => ?_
          have := lv_two N (k + 1) (by omega) (by omega)
          rw [← HV.out.2] at this
          omega
        gi_wp2
        refine bodyPost_end (results_none rfl _ _ _) rfl ?_
        exact ⟨⟨_, rfl⟩, .inl (by rw [← hkd, List.range_succ]; exact hJ3)⟩
      · have hi1 : (1 : Int) < (c : Int) := by omega
        have hkd : k + 1 < dep N := by
          refine Nat.lt_of_le_of_ne hk fun h => hone ?_
          have := lv_dep N h1
          rw [← h, ← HV.out.2] at this
          exact this
        have hsc := sectors_for c
        gi_wp2
        refine wpIn_wide.2 ?_
        refine lastTo (S := fun wz => Has wz w'.heap.size 42 (lcells f c) ∧ J (List.range k ++ [k]) wz) 12 (by kernel_rfl) ⟨hl3.drewN 1, hJ.drew _ hJ3⟩ (fun hHeld => ?_)
        refine takeL 0 (some 23) (.int .i64 (k : Nat)) rfl rfl (by decide) (by kernel_rfl) (by kernel_rfl) (by kernel_rfl) (by kernel_rfl) (fun _ _ _ h => h) (by rfl) (fun _ _ => rfl) hHeld ?_
        simp only [Act.put, List.setIfInBounds_toArray, List.set_cons_zero, List.set_cons_succ]
        refine takeL 1 (some 24) (.int .i64 ((k + 1 : Nat) : Int)) rfl rfl (by decide) (by kernel_rfl) (by kernel_rfl) (by kernel_rfl) (by kernel_rfl) (fun _ _ _ h => h) (by rfl) (fun wz _ => run_addN _ _ rfl k 1 rfl rfl (by have := dep_11 N h2; omega) (by omega) wz) hHeld ?_
        simp only [Act.put, List.setIfInBounds_toArray, List.set_cons_zero, List.set_cons_succ]
        refine takeL 2 (some 25) (.pointer (some ⟨w'.heap.size, 0, none⟩)) rfl rfl (by decide) (by kernel_rfl) (by kernel_rfl) (by kernel_rfl) (by kernel_rfl) (fun _ _ _ h => h) (by rfl) (fun _ _ => rfl) hHeld ?_
        simp only [Act.put, List.setIfInBounds_toArray, List.set_cons_zero, List.set_cons_succ]
        refine takeL 3 (some 26) (.int .i64 (f : Nat)) rfl rfl (by decide) (by kernel_rfl) (by kernel_rfl) (by kernel_rfl) (by kernel_rfl) (fun _ _ _ h => h) (by rfl) (fun wz hz => run_load_3 _ rfl _ rfl _ wz (hz.1.cell 0)) hHeld ?_
        simp only [Act.put, List.setIfInBounds_toArray, List.set_cons_zero, List.set_cons_succ]
        refine takeL 4 (some 27) (.pointer (some ⟨w'.heap.size, 1, none⟩)) rfl rfl (by decide) (by kernel_rfl) (by kernel_rfl) (by kernel_rfl) (by kernel_rfl) (fun _ _ _ h => h) (by rfl) (fun _ _ => rfl) hHeld ?_
        simp only [Act.put, List.setIfInBounds_toArray, List.set_cons_zero, List.set_cons_succ]
        refine takeL 5 (some 28) (.int .i64 (c : Nat)) rfl rfl (by decide) (by kernel_rfl) (by kernel_rfl) (by kernel_rfl) (by kernel_rfl) (fun _ _ _ h => h) (by rfl) (fun wz hz => run_load_3 _ rfl _ rfl _ wz (hz.1.cell 1)) hHeld ?_
        simp only [Act.put, List.setIfInBounds_toArray, List.set_cons_zero, List.set_cons_succ]
        refine takeL 6 (some 29) (.int .i64 ((f + c : Nat) : Int)) rfl rfl (by decide) (by kernel_rfl) (by kernel_rfl) (by kernel_rfl) (by kernel_rfl) (fun _ _ _ h => h) (by rfl) (fun wz _ => run_addN _ _ rfl f c rfl rfl (by omega) (by omega) wz) hHeld ?_
        simp only [Act.put, List.setIfInBounds_toArray, List.set_cons_zero, List.set_cons_succ]
        refine takeL 7 (some 30) (.pointer (some ⟨w'.heap.size, 1, none⟩)) rfl rfl (by decide) (by kernel_rfl) (by kernel_rfl) (by kernel_rfl) (by kernel_rfl) (fun _ _ _ h => h) (by rfl) (fun _ _ => rfl) hHeld ?_
        simp only [Act.put, List.setIfInBounds_toArray, List.set_cons_zero, List.set_cons_succ]
        refine takeL 8 (some 31) (.int .i64 (c : Nat)) rfl rfl (by decide) (by kernel_rfl) (by kernel_rfl) (by kernel_rfl) (by kernel_rfl) (fun _ _ _ h => h) (by rfl) (fun wz hz => run_load_3 _ rfl _ rfl _ wz (hz.1.cell 1)) hHeld ?_
        simp only [Act.put, List.setIfInBounds_toArray, List.set_cons_zero, List.set_cons_succ]
        refine callL 9 (some 32) 22 #[.int .i64 (c : Nat)] (by kernel_rfl) rfl rfl (by rfl) (by kernel_rfl) (hsc W3.drew (by omega)) ?_
        rintro e w5 ⟨rfl, rfl⟩
        refine ⟨_, rfl, hHeld, ?_⟩
        simp only [Act.put, List.setIfInBounds_toArray, List.set_cons_zero, List.set_cons_succ]
        refine takeL 10 (some 33) (.agg (lcells (f + c) ((c + 1) / 2))) rfl rfl (by decide) (by kernel_rfl) (by kernel_rfl) (by kernel_rfl) (by kernel_rfl) (fun _ _ _ h => h) (by rfl) (fun wz _ => run_buildL _ _ rfl (f + c) ((c + 1) / 2) rfl rfl wz) hHeld ?_
        simp only [Act.put, List.setIfInBounds_toArray, List.set_cons_zero, List.set_cons_succ]
        refine takeL 11 (some 3) (.int .i64 ((k + 1 : Nat) : Int)) rfl rfl (by decide) (by kernel_rfl) (by kernel_rfl) (by kernel_rfl) (by kernel_rfl) (fun _ _ _ h => h) (by rfl) (fun _ _ => rfl) hHeld ?_
        simp only [Act.put, List.setIfInBounds_toArray, List.set_cons_zero, List.set_cons_succ]
        refine lastSkip 12 none _ (by kernel_rfl) rfl rfl (by rfl) (run_store_row 42 _ _ rfl w'.heap.size rfl (lcells (f + c) ((c + 1) / 2)) rfl 42 Tryd.size42 _ hHeld.1 rfl (lcells_one _ _)) (by kernel_rfl) ?_
        simp only [Act.put]
        gi_wp2
        go_roundw
        case rel =>
          refine ⟨k + 1, hkd, by go_num, ?_, ?_⟩
          · have h := hHeld.1.setRow (lcells (f + c) ((c + 1) / 2))
            rw [show lcells (f + c) ((c + 1) / 2) = lcells (off N (k + 1)) (lv N (k + 1 + 1)) from by rw [HV.out.1, HV.out.2]; rfl] at h ⊢
            exact h
          · rw [List.range_succ]
            exact hJ.setRow hHeld.2 hD hHeld.1 _
        case measure => simp [intOf]; omega
    · gi_wp2
      refine bodyPost_end (results_none rfl _ _ _) rfl ?_
      exact ⟨⟨_, rfl⟩, .inr ⟨List.range k ++ [k], hpre, hJx3⟩⟩
end Go.Proofs.YtoeanaadlihkeabDoor

/- The iterator of any number, and its maker. -/
namespace Go.Proofs.YtoeanaadlihkeabDoor
open Go.RowKit Go.Shelf
set_option linter.unusedVariables false

attribute [local go_sem] Oper.semAt_some

set_option maxRecDepth 100000 in
set_option maxHeartbeats 1000000 in
theorem lev_out (m l Bn : Nat) (n : Int) (ho : ¬ (1 ≤ n ∧ n ≤ 2048)) (J : List Nat → World → Prop)
    (W : World) (hBn : W.cell? ⟨Bn, 0, none⟩ = some (.int .i64 n)) (h0 : J [] W) :
    CallsIn Fence.wide m Tryd.prog 21 #[.func (.yield l) #[] #[], .pointer (some ⟨Bn, 0, none⟩)] W fun e W' => (∃ v, e = .returned v) ∧ J [] W' := by
  refine callsIn_of_wp Tryd.func21 rfl trivial ?_ rfl
  simp only [Tryd.ntmps21, List.size_toArray, List.length_cons, List.length_nil, Nat.reduceAdd, Nat.reduceSub, Array.replicate_succ, Array.replicate_zero, List.push_toArray, List.append_toArray, List.nil_append, List.cons_append]
  by_cases h : n < 1
  · gi_wp2
    refine bodyPost_ret (results_none rfl _ _ _) rfl ?_
    exact ⟨⟨_, rfl⟩, h0⟩
  · have h' : 2048 < n := by omega
    gi_wp2
    refine bodyPost_ret (results_none rfl _ _ _) rfl ?_
    exact ⟨⟨_, rfl⟩, h0⟩

theorem lev_seq (m Bn : Nat) (n : Int) (w : World) (hB : Bn < w.heap.size) (hc : w.cell? ⟨Bn, 0, none⟩ = some (.int .i64 n)) :
    SeqN m 21 #[.pointer (some ⟨Bn, 0, none⟩)] (lenc n.toNat) (List.range (levN n)) w := fun l D J Jx W hW hD hJ hJx hY h0 => by
  have hcW := (hW.cell (p := ⟨Bn, 0, none⟩) hB).trans hc
  by_cases h : 1 ≤ n ∧ n ≤ 2048
  · obtain ⟨N, rfl⟩ : ∃ N : Nat, n = N := ⟨n.toNat, by omega⟩
    rw [levN_in h] at hY ⊢
    simp only [Int.toNat_natCast] at hY ⊢
    exact lev_in m l D Bn N (by omega) (by omega) J Jx hJ W hcW hD hY h0
  · rw [levN_out h]
    refine (lev_out m l Bn n h J W hcW h0).mono ?_
    rintro e W' ⟨h1, h2⟩
    exact ⟨h1, .inl h2⟩

/-- The maker: the number is boxed, the function value captures the box. -/
theorem levels_any (n : Int) (w : World) : Calls Tryd.prog 13 #[.int .i64 n] w fun e w' => e = .returned (.func (.func 21) #[] #[.pointer (some ⟨w.heap.size, 0, none⟩)]) ∧ w' = w.alloc (.cells #[.int .i64 n] 3) := by
  go_enter Tryd.func13, Tryd.ntmps13
  go_wp2
  go_ret
  exact ⟨rfl, rfl⟩

/-- A box beside the row that it holds, in a loop's invariant. -/
theorem own_firm {A B : World} {base t n D : Nat} {v : Value} {xs : List Value} {row : Option Nat} (ht : t ≠ 42) (h : A.ownsRow base t 1 v n xs) (hg : A.grownBy B row) (hr : ∀ r, row = some r → D ≤ r ∧ ∃ o : Obj, A.heap[r]? = some o ∧ Loose o) : B.ownsRow base t 1 v n xs := by
  refine ⟨h.1, ?_⟩
  rcases h.2 with h0 | ⟨g, cap, cur, hv, h1, hgg, r⟩
  · exact .inl h0
  · exact .inr ⟨g, cap, cur, hv, h1, (Has.firm (cs := cur) (t := t) ht hgg hg hr : Has B g t cur), r⟩
end Go.Proofs.YtoeanaadlihkeabDoor

/- What a round of a range over the levels holds: its own variable; a box, and the row of numbers in it, appended to. -/
namespace Go.Proofs.YtoeanaadlihkeabDoor
open Go.RowKit Go.Shelf
set_option linter.unusedVariables false

theorem Has.ownF {A B : World} {g t D : Nat} {cs : Array Value} {row : Option Nat} (h : Has A g t cs) (hg : A.grownBy B row) (hr : ∀ r, row = some r → D ≤ r ∧ ∃ o : Obj, A.heap[r]? = some o ∧ o.isCells = false) : Has B g t cs := by
  refine (hg.block g h.lt fun e => ?_).trans h
  obtain ⟨_, o, ho, hc⟩ := hr g e.symm
  have h' : A.heap[g]? = some (.cells cs t (0, 0)) := h
  rw [h'] at ho
  cases ho
  cases hc

/-- The frame of a round at level x, its own variable in block B. -/
def AtL (N : Nat) (T : Nat → Nat → Array Value) (x : Nat) (a' : Act) (W : World) : Prop := ∃ B, a' = { tmps := T x B, defers := [] } ∧ Has W B 42 (lcells (off N x) (lv N (x + 1)))

theorem atL_own (N D : Nat) (T : Nat → Nat → Array Value) (x : Nat) (a' : Act) : OwnFrom D (fun (_ : Unit) W => AtL N T x a' W) := by
  rintro _ A B row ⟨b, h1, h2⟩ hg hr
  exact ⟨b, h1, h2.ownF hg hr⟩

theorem box_appended {W w1 : World} {n₀ base B : Nat} {t : TypeId} {v v' : Value} {k m : Nat} {xs ys : List Value} {tmp : Obj}
    (hv : Has W B t #[v]) (hte : t ≠ 3) (htl : t ≠ 42) (hrow : W.ownsRow base 3 1 v k xs) (hn₀ : n₀ ≤ W.heap.size) (hB : n₀ ≤ B) (hnb : n₀ ≤ base)
    (hown' : w1.ownsRow base 3 1 v' m ys) (hgrow : (W.alloc tmp).grownBy w1 v.ownBlock) :
    Has w1 B t #[v] ∧ Has (w1.setCell ⟨B, 0, none⟩ v') B t #[v'] ∧ (w1.setCell ⟨B, 0, none⟩ v').ownsRow base 3 1 v' m ys ∧ Stay W (w1.setCell ⟨B, 0, none⟩ v') ∧ Below n₀ W (w1.setCell ⟨B, 0, none⟩ v') := by
  have hv1 : Has w1 B t #[v] := Boxed.kept (t := t) (Boxed.alloc (t := t) hv tmp) hgrow (Boxed.not_row (t := t) hv hte hrow)
  refine ⟨hv1, Boxed.set (t := t) v' hv1, hown'.kept (grownBy_setCell' w1 B v') (.inr (Boxed.not_row (t := t) hv1 hte hown').symm), ?_, ?_⟩
  · refine ((Stay.alloc W tmp).trans (Stay.grown hgrow ?_)).trans (Stay.setCell (t := t) (cs := #[v]) hv1 htl 0 v')
    intro r e
    rcases (hrow.alloc tmp).2 with ⟨rfl, _⟩ | ⟨g, cap, cur, rfl, _, hgb, _⟩
    · simp [Value.ownBlock] at e
    · obtain rfl : g = r := by simpa [Value.ownBlock] using e
      exact ⟨cur, 3, _, hgb, by decide⟩
  · refine (((Below.refl n₀ W).alloc hn₀ tmp).grown hgrow (by simp; omega) fun j ej => ?_).setCell (p := ⟨B, 0, none⟩) hB v'
    exact Nat.le_trans hnb (hrow.lt j ej).1

/-- Another box, behind an append and the store of the row. -/
theorem other_appended {W w1 : World} {base B B6 t6 : Nat} {v v' u : Value} {k : Nat} {xs : List Value} {tmp : Obj} (h6 : Has W B6 t6 #[u]) (hrow : W.ownsRow base 3 1 v k xs) (hb : B6 < base) (hne : B6 ≠ B) (hgrow : (W.alloc tmp).grownBy w1 v.ownBlock) : Has (w1.setCell ⟨B, 0, none⟩ v') B6 t6 #[u] := by
  refine Has.other (p := ⟨B, 0, none⟩) ((hgrow.block B6 (h6.alloc tmp).lt (fun e => ?_)).trans (h6.alloc tmp)) hne v'
  have := (hrow.lt B6 e.symm).1
  omega

theorem size_setCell (W : World) (p : Addr) (v : Value) : (W.setCell p v).heap.size = W.heap.size := by simp [World.setCell]
end Go.Proofs.YtoeanaadlihkeabDoor

/- How many bytes the program says that a tree has. -/
namespace Go.Proofs.YtoeanaadlihkeabDoor
open Go.RowKit Go.Shelf
set_option linter.unusedVariables false

attribute [local go_sem] Oper.semAt_some

/-- Between two rounds. -/
def SizI (w : World) (N : Nat) (pre : List Nat) (W : World) : Prop := Has W w.heap.size 3 #[.int .i64 ((64 * off N pre.length : Nat) : Int)] ∧ Below w.heap.size w W

theorem sizI_firm (w : World) (N D : Nat) (hD : w.heap.size ≤ D) : Firm D (SizI w N) := by
  rintro pre A B row ⟨h1, h4⟩ hg hr
  exact ⟨h1.firm (by decide) hg hr, Firm.below (β := Unit) (Nat.le_refl _) hD () A B row h4 hg hr⟩

set_option maxRecDepth 100000 in
set_option maxHeartbeats 2000000 in
theorem size_in (N : Nat) (w : World) (h1 : 1 ≤ N) (h2 : N ≤ 2048) : CallsIn Fence.wide 3 Tryd.prog 12 #[.int .i64 (N : Nat)] w fun e W' => e = .returned (.int .i64 ((64 * off N (dep N) : Nat) : Int)) ∧ Below w.heap.size w W' := by
  have hlev : levN (N : Int) = dep N := by rw [levN_in (by omega), Int.toNat_natCast]
  refine callsIn_of_wp_marks Tryd.func12 rfl trivial ?_ rfl
  simp only [Tryd.ntmps12, List.size_toArray, List.length_cons, List.length_nil, Nat.reduceAdd, Nat.reduceSub, Array.replicate_succ, Array.replicate_zero, List.push_toArray, List.append_toArray, List.nil_append, List.cons_append]
  refine wpIn_wide.2 ?_
  go_wp2_with (first
    | ((go_at_call 13)
       (refine (levels_any _ _).mono ?_)
       (rintro e w1 ⟨rfl, rfl⟩)))
  refine (wpIn_wide (n := 3)).1 ?_
  have h0 : SizI w N [] ((w.alloc (.cells #[.int .i64 0] 3)).alloc (.cells #[.int .i64 (N : Nat)] 3)) := ⟨(Has.new _ _ _).alloc _, ((Below.refl _ w).alloc (Nat.le_refl _) _).alloc (by simp) _⟩
  have hs0 : ((w.alloc (.cells #[.int .i64 0] 3)).alloc (.cells #[.int .i64 (N : Nat)] 3)).heap.size = w.heap.size + 2 := by simp
  have hb0 : Has ((w.alloc (.cells #[.int .i64 0] 3)).alloc (.cells #[.int .i64 (N : Nat)] 3)) (w.heap.size + 1) 3 #[.int .i64 (N : Nat)] := Has.new_at (by simp)
  obtain ⟨W0, hW0⟩ : ∃ W0, W0 = (w.alloc (.cells #[.int .i64 0] 3)).alloc (.cells #[.int .i64 (N : Nat)] 3) := ⟨_, rfl⟩
  rw [← hW0] at h0 hs0 hb0 ⊢
  clear hW0
  refine range_law (n := 3) (gf := 21) (lb := #[.pointer (some ⟨w.heap.size + 1, 0, none⟩)]) rfl (enters_of Tryd.func21 (by kernel_rfl) rfl)
    (lev_seq (3 - 1) (w.heap.size + 1) N W0 (by omega) (hb0.cell 0)) (fun _ => rfl)
    (SizI w N) (fun _ _ => False) (sizI_firm w _ _ (by omega)) (fun _ _ _ _ h => h.elim) h0
    (AtL N (fun x B => #[.int .i64 (N : Nat), undef, .int .i64 0, .pointer (some ⟨w.heap.size, 0, none⟩), undef, .pointer (some ⟨B, 0, none⟩), .int .i64 (N : Nat), .func (.func 21) #[] #[.pointer (some ⟨w.heap.size + 1, 0, none⟩)], .int .i64 (x : Nat), .agg (lcells (off N x) (lv N (x + 1))), undef, undef, undef, undef, undef, undef])) (atL_own _ _ _) ?assign ?body ?done ?stop
  case assign =>
    intro l pre x W K hI hK
    simp only [lenc, lcells]
    gi_wp2
    exact hK _ _ (Stay.alloc _ _) ((sizI_firm w _ _ (Nat.le_refl _)).alloc _ hI) ⟨_, rfl, Has.new _ _ _⟩
  case body =>
    rintro l pre x a' W hpre ⟨hv, hB⟩ ⟨B, rfl, hl⟩
    obtain ⟨hx, rfl⟩ := next_range hpre
    rw [hlev] at hx
    rw [List.length_range] at hv
    have hx11 := dep_11 N h2
    have hf2 := off_max N x h1 h2 (by omega)
    have hc2 := Nat.le_trans (lv_le N (x + 1) h1) h2
    have hstep := off_step N x
    obtain ⟨s, hs⟩ : ∃ s, s = 64 * off N x := ⟨_, rfl⟩
    obtain ⟨c, hc⟩ : ∃ c, c = lv N (x + 1) := ⟨_, rfl⟩
    have hs2 : s ≤ 1441792 := by omega
    have hnext : (s : Int) + (c : Int) * 64 = ((64 * off N (x + 1) : Nat) : Int) := by rw [hstep, ← hc]; omega
    have HV : Hid ((s : Int) + (c : Int) * 64 = ((64 * off N (x + 1) : Nat) : Int)) := hnext
    have c0 := hv.cell 0
    have f0 := hv.free 0
    have t1 := hl.cell 1
    simp only [lcells, List.getElem?_toArray, List.getElem?_cons_zero, List.getElem?_cons_succ] at t1 c0
    rw [← hs] at c0
    rw [← hc] at t1 hc2
    have g2 := fun u => Boxed.set (t := 3) u hv
    have g4 := fun u => Stay.setCell hv (by decide) 0 u
    clear hstep hs hc hnext hf2
    gi_wp2
    refine ⟨g4 _, ?_, (hB.setCell (Nat.le_refl _) _)⟩
    rw [HV.out, List.length_append, List.length_range, List.length_singleton]
    exact g2 _
  case done =>
    rintro D W hD ⟨hv, hB⟩ hK
    rw [List.length_range, hlev] at hv
    have hc := hv.cell 0
    simp only [List.getElem?_toArray, List.getElem?_cons_zero] at hc
    go_wp2
    refine ⟨by simp, .inl ⟨_, _, rfl, run_takeDeferred hK, ?_⟩⟩
    exact ⟨_, results_tmp rfl _ _ _, rfl, hB.trans (belowK_b (w := w) (Nat.le_refl _) W D _ _ (by omega) hK rfl rfl)⟩
  case stop =>
    rintro D pre W _ _ h
    exact h.elim

theorem tree_size (N : Nat) (w : World) (h1 : 1 ≤ N) (h2 : N ≤ 2048) : Calls Tryd.prog 12 #[.int .i64 (N : Nat)] w fun e W' => e = .returned (.int .i64 ((64 * off N (dep N) : Nat) : Int)) ∧ Below w.heap.size w W' := callsIn_wide.1 (size_in N w h1 h2)
end Go.Proofs.YtoeanaadlihkeabDoor

/- The program's Levels. -/
namespace Go.Proofs.YtoeanaadlihkeabDoor
open Go.RowKit Go.Shelf
set_option linter.unusedVariables false

attribute [local go_sem] Oper.semAt_some

/-- Between two rounds. -/
def LevI (w : World) (n : Int) (pre : List Nat) (W : World) : Prop := (∃ v, Has W w.heap.size 35 #[v] ∧ W.ownsRow w.heap.size 3 1 v pre.length (il (fun k => lv n.toNat (k + 1)) pre.length)) ∧ Below w.heap.size w W

theorem levI_firm (w : World) (n : Int) (D : Nat) (hD : w.heap.size ≤ D) : Firm D (LevI w n) := by
  rintro pre A B row ⟨⟨v, h1, h2⟩, h3⟩ hg hr
  exact ⟨⟨v, h1.firm (by decide) hg hr, own_firm (by decide) h2 hg hr⟩, Firm.below (β := Unit) (Nat.le_refl _) hD () A B row h3 hg hr⟩

set_option maxRecDepth 100000 in
set_option maxHeartbeats 2000000 in
theorem Levels_in (n : Int) (w : World) (hn : i64ok n) : CallsIn Fence.wide 3 Tryd.prog 11 #[.int .i64 n] w fun e W' => ∃ v, e = .returned v ∧ W'.ownsRow w.heap.size 3 1 v (levN n) (il (fun k => lv n.toNat (k + 1)) (levN n)) ∧ Below w.heap.size w W' := by
  have hlen := levN_11 n
  obtain ⟨i0, hi, hz0, hz1, hz2⟩ := info_parts info3
  refine callsIn_of_wp_marks Tryd.func11 rfl trivial ?_ rfl
  simp only [Tryd.ntmps11, List.size_toArray, List.length_cons, List.length_nil, Nat.reduceAdd, Nat.reduceSub, Array.replicate_succ, Array.replicate_zero, List.push_toArray, List.append_toArray, List.nil_append, List.cons_append]
  refine wpIn_wide.2 ?_
  go_wp2_with (first
    | ((go_at_call 13)
       (refine (levels_any _ _).mono ?_)
       (rintro e w1 ⟨rfl, rfl⟩)))
  refine (wpIn_wide (n := 3)).1 ?_
  have h0 : LevI w n [] ((w.alloc (.cells #[.slice none 0 0] 35)).alloc (.cells #[.int .i64 n] 3)) := ⟨⟨.slice none 0 0, (Has.new _ _ _).alloc _, World.ownsRow_nil _ _ _ _⟩, ((Below.refl _ w).alloc (Nat.le_refl _) _).alloc (by simp) _⟩
  have hs0 : ((w.alloc (.cells #[.slice none 0 0] 35)).alloc (.cells #[.int .i64 n] 3)).heap.size = w.heap.size + 2 := by simp
  have hb0 : Has ((w.alloc (.cells #[.slice none 0 0] 35)).alloc (.cells #[.int .i64 n] 3)) (w.heap.size + 1) 3 #[.int .i64 n] := Has.new_at (by simp)
  obtain ⟨W0, hW0⟩ : ∃ W0, W0 = (w.alloc (.cells #[.slice none 0 0] 35)).alloc (.cells #[.int .i64 n] 3) := ⟨_, rfl⟩
  rw [← hW0] at h0 hs0 hb0 ⊢
  clear hW0
  refine range_law (n := 3) (gf := 21) (lb := #[.pointer (some ⟨w.heap.size + 1, 0, none⟩)]) rfl (enters_of Tryd.func21 (by kernel_rfl) rfl)
    (lev_seq (3 - 1) (w.heap.size + 1) n W0 (by omega) (hb0.cell 0)) (fun _ => rfl)
    (LevI w n) (fun _ _ => False) (levI_firm w n _ (by omega)) (fun _ _ _ _ h => h.elim) h0
    (AtL n.toNat (fun x B => #[.int .i64 n, undef, .slice none 0 0, .pointer (some ⟨w.heap.size, 0, none⟩), undef, .pointer (some ⟨B, 0, none⟩), .int .i64 n, .func (.func 21) #[] #[.pointer (some ⟨w.heap.size + 1, 0, none⟩)], .int .i64 (x : Nat), .agg (lcells (off n.toNat x) (lv n.toNat (x + 1))), undef, undef, undef, undef, undef, undef])) (atL_own _ _ _) ?assign ?body ?done ?stop
  case assign =>
    intro l pre x W K hI hK
    simp only [lenc, lcells]
    gi_wp2
    exact hK _ _ (Stay.alloc _ _) ((levI_firm w n _ (Nat.le_refl _)).alloc _ hI) ⟨_, rfl, Has.new _ _ _⟩
  case body =>
    rintro l pre x a' W hpre ⟨⟨v, hv, hrow⟩, hB⟩ ⟨B, rfl, hl⟩
    obtain ⟨hx, rfl⟩ := next_range hpre
    rw [List.length_range] at hrow
    have hc := hv.cell 0
    have t1 := hl.cell 1
    simp only [lcells, List.getElem?_toArray, List.getElem?_cons_zero, List.getElem?_cons_succ] at t1 hc
    have hlc : (il (fun k => lv n.toNat (k + 1)) x) ++ [.int .i64 (lv n.toNat (x + 1) : Nat)] = il (fun k => lv n.toNat (k + 1)) (x + 1) := il_snoc _ x _ rfl
    obtain ⟨c, hcc⟩ : ∃ c, c = lv n.toNat (x + 1) := ⟨_, rfl⟩
    rw [← hcc] at t1 hlc
    clear hcc
    gi_wp2_with (gi_at_builtin; refine wpListIn_append_own _ rfl _ _ 35 rfl w.heap.size 3 i0 (.int .i64 0) 1 8 Tryd.underlying35 hi hz0 hz1 hz2 rfl (by decide) _ _ _ rfl (hrow.alloc _) ⟨W.heap.size, 0, none⟩ 1 1 [.int .i64 (c : Nat)] rfl rfl (cell_one_new _ _ _) (by simp [Value.oneCell']) (by unfold maxLen; omega) (by omega) (by have := hB.size; simp; omega) ?_; intro v' w1 hown' hgrow _; obtain ⟨g', cap', rfl⟩ := ownsRow_succ hown'; obtain ⟨hv1, hv2, hr2, hk2, hb2⟩ := box_appended hv (by decide) (by decide) hrow hB.size (Nat.le_refl _) (Nat.le_refl _) hown' hgrow; have hc1 := hv1.cell 0; have hf1 := hv1.free 0)
    refine ⟨hk2, ⟨⟨_, hv2, ?_⟩, hB.trans hb2⟩⟩
    rw [hlc] at hr2
    simpa using hr2
  case done =>
    rintro D W hD ⟨⟨v, hv, hrow⟩, hB⟩ hK
    rw [List.length_range] at hrow
    have hc := hv.cell 0
    go_wp2
    refine ⟨by simp, .inl ⟨_, _, rfl, run_takeDeferred hK, ?_⟩⟩
    exact ⟨_, results_tmp rfl _ _ _, v, rfl, ownsRow_putObj hrow _ hK rfl, hB.trans (belowK_b (w := w) (Nat.le_refl _) W D _ _ (by omega) hK rfl rfl)⟩
  case stop =>
    rintro D pre W _ _ h
    exact h.elim

theorem Levels_ok : LevelsOk 11 := by
  intro n w hn
  refine Calls.mono (callsIn_wide.1 (Levels_in n w hn)) ?_
  rintro e w' ⟨v, rfl, own, hb⟩
  obtain ⟨a, c, rfl, h1, h2, h3⟩ := own_ints own
  exact ⟨a, c, rfl, h1, h2, h3, hb⟩
end Go.Proofs.YtoeanaadlihkeabDoor

/- The program's Path. -/
namespace Go.Proofs.YtoeanaadlihkeabDoor
open Go.RowKit Go.Shelf
set_option linter.unusedVariables false

attribute [local go_sem] Oper.semAt_some

/-- A number's box is written; the row's box and the row lie elsewhere. -/
theorem num_set {W : World} {B5 B6 base k t : Nat} {u v : Value} {xs : List Value} (hv : Has W B5 t #[v]) (hp : Has W B6 3 #[u]) (hrow : W.ownsRow base 3 1 v k xs) (h6 : B6 < base) (hne : B5 ≠ B6) (u' : Value) :
    Has (W.setCell ⟨B6, 0, none⟩ u') B5 t #[v] ∧ Has (W.setCell ⟨B6, 0, none⟩ u') B6 3 #[u'] ∧ (W.setCell ⟨B6, 0, none⟩ u').ownsRow base 3 1 v k xs ∧ Stay W (W.setCell ⟨B6, 0, none⟩ u') := by
  refine ⟨hv.other hne u', ?_, hrow.kept (grown_setCell W B6 0 u') (.inr fun e => ?_), Stay.setCell hp (by decide) 0 u'⟩
  · exact Boxed.set (t := 3) u' hp
  · have := (hrow.lt B6 (by rw [e])).1
    omega

/-- Between two rounds. -/
def PatI (w : World) (N I : Nat) (pre : List Nat) (W : World) : Prop := (∃ v, Has W w.heap.size 35 #[v] ∧ Has W (w.heap.size + 1) 3 #[.int .i64 (pl I pre.length : Nat)] ∧ W.ownsRow (w.heap.size + 2) 3 1 v pre.length (il (fun k => off N k + pl I (k + 1)) pre.length)) ∧ Below w.heap.size w W ∧ w.heap.size + 2 ≤ W.heap.size

theorem patI_firm (w : World) (N I D : Nat) (hD : w.heap.size ≤ D) : Firm D (PatI w N I) := by
  rintro pre A B row ⟨⟨v, h1, h2, h3⟩, h4, h5⟩ hg hr
  exact ⟨⟨v, h1.firm (by decide) hg hr, h2.firm (by decide) hg hr, own_firm (by decide) h3 hg hr⟩, Firm.below (β := Unit) (Nat.le_refl _) hD () A B row h4 hg hr, Nat.le_trans h5 hg.size⟩

set_option maxRecDepth 100000 in
set_option maxHeartbeats 2000000 in
theorem Path_in (n : Int) (I : Nat) (w : World) (hn : i64ok n) (hI : (I : Int) < n) : CallsIn Fence.wide 3 Tryd.prog 16 #[.int .i64 n, .int .i64 (I : Nat)] w fun e W' => ∃ v base, e = .returned v ∧ W'.ownsRow base 3 1 v (levN n) (il (fun k => off n.toNat k + pl I (k + 1)) (levN n)) ∧ Below w.heap.size w W' := by
  have hlen := levN_11 n
  obtain ⟨i0, hi, hz0, hz1, hz2⟩ := info_parts info3
  refine callsIn_of_wp_marks Tryd.func16 rfl trivial ?_ rfl
  simp only [Tryd.ntmps16, List.size_toArray, List.length_cons, List.length_nil, Nat.reduceAdd, Nat.reduceSub, Array.replicate_succ, Array.replicate_zero, List.push_toArray, List.append_toArray, List.nil_append, List.cons_append]
  refine wpIn_wide.2 ?_
  have i1 : ¬ n ≤ (I : Int) := by omega
  go_wp2_with (first
    | ((go_at_call 13)
       (refine (levels_any _ _).mono ?_)
       (rintro e w1 ⟨rfl, rfl⟩)))
  refine (wpIn_wide (n := 3)).1 ?_
  have h0 : PatI w n.toNat I [] (((w.alloc (.cells #[.slice none 0 0] 35)).alloc (.cells #[.int .i64 (I : Nat)] 3)).alloc (.cells #[.int .i64 n] 3)) := ⟨⟨.slice none 0 0, ((Has.new _ _ _).alloc _).alloc _, (Has.new_at (by simp)).alloc _, World.ownsRow_nil _ _ _ _⟩, (((Below.refl _ w).alloc (Nat.le_refl _) _).alloc (by simp) _).alloc (by simp; omega) _, by simp⟩
  have hs0 : (((w.alloc (.cells #[.slice none 0 0] 35)).alloc (.cells #[.int .i64 (I : Nat)] 3)).alloc (.cells #[.int .i64 n] 3)).heap.size = w.heap.size + 3 := by simp
  have hb0 : Has (((w.alloc (.cells #[.slice none 0 0] 35)).alloc (.cells #[.int .i64 (I : Nat)] 3)).alloc (.cells #[.int .i64 n] 3)) (w.heap.size + 2) 3 #[.int .i64 n] := Has.new_at (by simp)
  obtain ⟨W0, hW0⟩ : ∃ W0, W0 = ((w.alloc (.cells #[.slice none 0 0] 35)).alloc (.cells #[.int .i64 (I : Nat)] 3)).alloc (.cells #[.int .i64 n] 3) := ⟨_, rfl⟩
  rw [← hW0] at h0 hs0 hb0 ⊢
  clear hW0
  refine range_law (n := 3) (gf := 21) (lb := #[.pointer (some ⟨w.heap.size + 2, 0, none⟩)]) rfl (enters_of Tryd.func21 (by kernel_rfl) rfl)
    (lev_seq (3 - 1) (w.heap.size + 2) n W0 (by omega) (hb0.cell 0)) (fun _ => rfl)
    (PatI w n.toNat I) (fun _ _ => False) (patI_firm w _ _ _ (by omega)) (fun _ _ _ _ h => h.elim) h0
    (AtL n.toNat (fun x B => #[.int .i64 n, .int .i64 (I : Nat), undef, undef, .slice none 0 0, .pointer (some ⟨w.heap.size, 0, none⟩), .pointer (some ⟨w.heap.size + 1, 0, none⟩), undef, .pointer (some ⟨B, 0, none⟩), .int .i64 (I : Nat), .bool (decide ((I : Int) < 0)), .bool (decide ((I : Int) < 0)), .int .i64 (I : Nat), .int .i64 n, .bool false, .bool (decide ((I : Int) < 0)), .int .i64 (I : Nat), .int .i64 n, .func (.func 21) #[] #[.pointer (some ⟨w.heap.size + 2, 0, none⟩)], .int .i64 (x : Nat), .agg (lcells (off n.toNat x) (lv n.toNat (x + 1))), undef, undef, undef, undef, undef, undef, undef, undef, undef, undef])) (atL_own _ _ _) ?assign ?body ?done ?stop
  case assign =>
    intro l pre x W K hI hK
    simp only [lenc, lcells]
    gi_wp2
    exact hK _ _ (Stay.alloc _ _) ((patI_firm w _ _ _ (Nat.le_refl _)).alloc _ hI) ⟨_, rfl, Has.new _ _ _⟩
  case body =>
    rintro l pre x a' W hpre ⟨⟨v, hv, hp, hrow⟩, hB, hsz⟩ ⟨B, rfl, hl⟩
    obtain ⟨hx, rfl⟩ := next_range hpre
    rw [List.length_range] at hrow hp
    have hin : 1 ≤ n ∧ n ≤ 2048 := by
      refine Classical.byContradiction fun h => ?_
      rw [levN_out h] at hx
      omega
    have hp2 := pl_le I x
    have hf2 := off_max n.toNat x (by omega) (by omega) (by omega)
    have hlc : (il (fun k => off n.toNat k + pl I (k + 1)) x) ++ [.int .i64 ((off n.toNat x + pl I (x + 1) : Nat) : Int)] = il (fun k => off n.toNat k + pl I (k + 1)) (x + 1) := il_snoc _ x _ rfl
    have hps := pl_step I x
    obtain ⟨f, hff⟩ : ∃ f, f = off n.toNat x := ⟨_, rfl⟩
    obtain ⟨p, hpp⟩ : ∃ p, p = pl I x := ⟨_, rfl⟩
    rw [← hff] at hl hlc hf2
    rw [← hpp] at hp hp2 hps
    rw [hps] at hlc
    have hlv : Has W B 42 (lcells f (lv n.toNat (x + 1))) := hl
    obtain ⟨g1, g2, g3, g4⟩ := num_set hv hp hrow (by omega) (by omega) (.int .i64 ((p : Int) / 2))
    have hBp : B ≠ w.heap.size + 1 := fun e => by
      have h1 : W.heap[B]? = some (.cells (lcells f (lv n.toNat (x + 1))) 42 (0, 0)) := hl
      have h2 : W.heap[w.heap.size + 1]? = some (.cells #[.int .i64 (p : Nat)] 3 (0, 0)) := hp
      rw [e, h2] at h1
      cases h1
    have g5 : Has (W.setCell ⟨w.heap.size + 1, 0, none⟩ (.int .i64 ((p : Int) / 2))) B 42 (lcells f (lv n.toNat (x + 1))) := hl.other hBp _
    have c6 := hp.cell 0
    have f6 := hp.free 0
    have hB2 : Below w.heap.size W (W.setCell ⟨w.heap.size + 1, 0, none⟩ (.int .i64 ((p : Int) / 2))) := (Below.refl _ _).setCell (by show w.heap.size ≤ w.heap.size + 1; omega) _
    have c61 := g1.cell 0
    have c62 := g2.cell 0
    have c65 := g5.cell 0
    simp only [lcells, List.getElem?_toArray, List.getElem?_cons_zero] at c6 c61 c62 c65
    have HV : Hid (f = off n.toNat x ∧ p = pl I x) := ⟨hff, hpp⟩
    clear hff hpp hps hlv hl
    have hnew := cell_one_new (W.setCell ⟨w.heap.size + 1, 0, none⟩ (.int .i64 ((p : Int) / 2))) (.int .i64 ((f : Int) + (p : Int) / 2)) 3
    have hsz2 := size_setCell W ⟨w.heap.size + 1, 0, none⟩ (.int .i64 ((p : Int) / 2))
    rw [hsz2] at hnew
    gi_wp2_with (gi_at_builtin; refine wpListIn_append_own _ rfl _ _ 35 rfl (w.heap.size + 2) 3 i0 (.int .i64 0) 1 8 Tryd.underlying35 hi hz0 hz1 hz2 rfl (by decide) _ _ _ rfl (g3.alloc _) ⟨W.heap.size, 0, none⟩ 1 1 [.int .i64 ((f : Int) + (p : Int) / 2)] rfl rfl hnew (by simp [Value.oneCell']) (by unfold maxLen; omega) (by omega) (by simp; omega) ?_; intro v' w1 hown' hgrow _; obtain ⟨g', cap', rfl⟩ := ownsRow_succ hown'; obtain ⟨hv1, hv2, hr2, hk2, hb2⟩ := box_appended g1 (by decide) (by decide) g3 (n₀ := w.heap.size) (by omega) (Nat.le_refl _) (by omega) hown' hgrow; have ho2 := other_appended (B := w.heap.size) (v' := .slice (some ⟨g', 0, none⟩) (x + 1) cap') g2 g3 (by omega) (by omega) hgrow; have hc1 := hv1.cell 0; have hf1 := hv1.free 0)
    refine ⟨g4.trans hk2, ⟨⟨_, hv2, ?_, ?_⟩, (hB.trans hB2).trans hb2, Nat.le_trans hsz (g4.trans hk2).size⟩⟩
    · rw [List.length_append, List.length_range, List.length_singleton, pl_step, ← HV.out.2]
      exact ho2
    · have e : ((f : Int) + (p : Int) / 2) = ((f + p / 2 : Nat) : Int) := by omega
      rw [e, hlc] at hr2
      simpa using hr2
  case done =>
    rintro D W hD ⟨⟨v, hv, hp, hrow⟩, hB, hsz⟩ hK
    rw [List.length_range] at hrow
    have hc := hv.cell 0
    go_wp2
    refine ⟨by simp, .inl ⟨_, _, rfl, run_takeDeferred hK, ?_⟩⟩
    exact ⟨_, results_tmp rfl _ _ _, v, _, rfl, ownsRow_putObj hrow _ hK rfl, hB.trans (belowK_b (w := w) (Nat.le_refl _) W D _ _ (by omega) hK rfl rfl)⟩
  case stop =>
    rintro D pre W _ _ h
    exact h.elim

set_option maxRecDepth 100000 in
theorem Path_no (n i : Int) (w : World) (hi : i < 0 ∨ n ≤ i) : Calls Tryd.prog 16 #[.int .i64 n, .int .i64 i] w fun e w' => e = .returned (.slice none 0 0) ∧ w' = w := by
  by_cases h : i < 0
  · go_enter Tryd.func16, Tryd.ntmps16
    go_wp2
    go_ret
    exact ⟨rfl, rfl⟩
  · have h' : n ≤ i := by omega
    go_enter Tryd.func16, Tryd.ntmps16
    go_wp2
    go_ret
    exact ⟨rfl, rfl⟩

theorem Path_ok : PathOk 16 := by
  intro n i w hn hi
  by_cases h : 0 ≤ i ∧ i < n
  · obtain ⟨I, rfl⟩ : ∃ I : Nat, i = I := ⟨i.toNat, by omega⟩
    refine Calls.mono (callsIn_wide.1 (Path_in n I w hn h.2)) ?_
    rintro e w' ⟨v, base, rfl, own, hb⟩
    obtain ⟨a, c, rfl, h1, h2, h3⟩ := own_ints own
    have hp : patN n (I : Int) = levN n := by
      unfold patN levN
      by_cases hm : n ≤ 2048
      · rw [if_pos ⟨h.1, h.2, hm⟩, if_pos ⟨by omega, hm⟩]
      · rw [if_neg (fun h => hm h.2.2), if_neg (fun h => hm h.2)]
    rw [hp, Int.toNat_natCast]
    exact ⟨a, c, rfl, h1, h2, h3, hb⟩
  · refine (Path_no n i w (by omega)).mono ?_
    rintro e w' ⟨rfl, rfl⟩
    rw [patN_out (fun hh => h ⟨hh.1, hh.2.1⟩)]
    exact ⟨none, 0, rfl, Nat.le_refl _, fun _ => ⟨rfl, rfl⟩, .inl rfl, Below.refl _ _⟩
end Go.Proofs.YtoeanaadlihkeabDoor

/- What single operations on numbers yield. -/
namespace Go.Proofs.YtoeanaadlihkeabDoor
open Go.RowKit
set_option linter.unusedVariables false

theorem run_neq_i {o : Oper} {a : Act} (x y : Operand) (ho : o.op = .binOp .neq 3 x y 3) (p q : Nat) (hx : a.eval x = .int .i64 (p : Nat)) (hy : a.eval y = .int .i64 (q : Nat)) (c : Bool) (h : decide (p = q) = !c) (w : World) : (execOp a.eval o).run Tryd.prog w = .ok (.value (.bool c)) w := by
  have e : ((p : Int) != (q : Int)) = c := by
    have e2 : (((p : Int)) == (q : Int)) = decide (p = q) := by
      rw [Bool.eq_iff_iff]
      simp
      omega
    rw [bne, e2, h, Bool.not_not]
  unfold execOp
  simp only [ho, hx, hy]
  go_simp

theorem run_rem2 {o : Oper} {a : Act} (x y : Operand) (ho : o.op = .binOp .rem 3 x y 3) (p : Nat) (hx : a.eval x = .int .i64 (p : Nat)) (hy : a.eval y = .int .i64 2) (hp : p ≤ 1000000) (w : World) :
    (execOp a.eval o).run Tryd.prog w = .ok (.value (.int .i64 ((p % 2 : Nat) : Int))) w := by
  unfold execOp
  simp only [ho, hx, hy]
  go_simp
  exact Int.tmod_eq_emod_of_nonneg (by omega)

theorem run_quo2 {o : Oper} {a : Act} (x y : Operand) (ho : o.op = .binOp .quo 3 x y 3) (p : Nat) (hx : a.eval x = .int .i64 (p : Nat)) (hy : a.eval y = .int .i64 2) (hp : p ≤ 1000000) (w : World) :
    (execOp a.eval o).run Tryd.prog w = .ok (.value (.int .i64 ((p / 2 : Nat) : Int))) w := by
  unfold execOp
  simp only [ho, hx, hy]
  go_simp
  rw [IntKind.wrap_i64]
  omega

theorem run_store_3 {o : Oper} {a : Act} (x y : Operand) (ho : o.op = .store 3 x y) (g : Nat) (hx : a.eval x = .pointer (some ⟨g, 0, none⟩)) (z : Int) (hy : a.eval y = .int .i64 z) (w : World) {u : Value} (h : Has w g 3 #[u]) :
    (execOp a.eval o).run Tryd.prog w = .ok .skip (w.setCell ⟨g, 0, none⟩ (.int .i64 z)) := by
  have c := h.cell 0
  have f := h.free 0
  simp only [List.getElem?_toArray, List.getElem?_cons_zero] at c
  unfold execOp
  simp only [ho, hx, hy]
  go_simp
end Go.Proofs.YtoeanaadlihkeabDoor
