/- Texts that the statements of this stage share, joined: Bas, BasReg, ObShaTurn, ObShaMem, ObShaSched, ObShaNext, ObShaPad. -/
import Derived.Test.YtoiaclmfljoomaaDoorRows
import Derived.WalkKit
import Derived.ProofKit
import Derived.OpenShut
import Derived.Below
import Derived.WalkLawsBesides
import Derived.WalkSpells
import Derived.Laws.BitsAllLaws
import Derived.Deep.QuietTactic
import Derived.BigQuiet
import Derived.Deep.WholeRow
import Derived.Deep.MidRow
import Derived.Laws.AppendOwnNone
import Derived.OwnWalk
import Derived.DeepKeys
import Derived.Deep.AppendLies
import Derived.Laws.CopyOwn
import Derived.Deep.RegionHeld3

/- Blocks of numbers, bytes and rows in memory, free of any package's own types. -/
namespace Go.Proofs.YtoiaclmfljoomaaDoor
open Go.ChangeShapes Go.WideShapes Go.ChangeAt Go.RowKit
set_option linter.unusedVariables false

def cellsN (k : IntKind) (n : Nat) (f : Nat → Nat) : Array Value := ((List.range n).map fun j => Value.int k (f j : Nat)).toArray

theorem cellsN_size (k : IntKind) (n : Nat) (f : Nat → Nat) : (cellsN k n f).size = n := by simp [cellsN]

theorem cellsN_get (k : IntKind) (n : Nat) (f : Nat → Nat) (j : Nat) (h : j < n) : (cellsN k n f)[j]? = some (.int k (f j : Nat)) := by
  simp [cellsN, h]

theorem cellsN_one (k : IntKind) (n : Nat) (f : Nat → Nat) : (cellsN k n f).all (·.oneCell') = true := by
  simp [cellsN, Value.oneCell']

def upd (f : Nat → Nat) (j v : Nat) : Nat → Nat := fun i => if i = j then v else f i

theorem cellsN_set (k : IntKind) (n : Nat) (f : Nat → Nat) (j v : Nat) : (cellsN k n f).setIfInBounds j (.int k (v : Nat)) = cellsN k n (upd f j v) := by
  apply Array.ext_getElem?
  intro i
  rw [Array.getElem?_setIfInBounds]
  simp only [cellsN_size]
  by_cases hi : i < n
  · rw [cellsN_get _ _ _ _ hi, cellsN_get _ _ _ _ hi]
    by_cases e : j = i
    · subst e; simp [upd, hi]
    · have : ¬ i = j := fun h => e h.symm
      simp [upd, e, this]
  · have e1 : (cellsN k n f)[i]? = none := by simp [cellsN]; omega
    have e2 : (cellsN k n (upd f j v))[i]? = none := by simp [cellsN]; omega
    rw [e1, e2]
    split
    · subst_vars; simp [hi]
    · rfl

theorem cellsN_congr (k : IntKind) (n : Nat) (f g : Nat → Nat) (h : ∀ j, j < n → f j = g j) : cellsN k n f = cellsN k n g := by
  unfold cellsN
  congr 1
  apply List.map_congr_left
  intro j hj
  rw [h j (by simpa using hj)]

/-- Block g holds the cells cs, none of them frozen. -/
def Has (w : World) (g t : Nat) (cs : Array Value) : Prop := w.heap[g]? = some (.cells cs t (0, 0))

theorem Has.lt {w : World} {g t : Nat} {cs : Array Value} (h : Has w g t cs) : g < w.heap.size := (Array.getElem?_eq_some_iff.1 h).1

theorem Has.cell {w : World} {g t : Nat} {cs : Array Value} (h : Has w g t cs) (j : Nat) : w.cell? ⟨g, j, none⟩ = cs[j]? := cell_of_row w g j cs t (0, 0) h

theorem Has.num {w : World} {g t n : Nat} {k : IntKind} {f : Nat → Nat} (h : Has w g t (cellsN k n f)) (j : Nat) (hj : j < n) : w.cell? ⟨g, j, none⟩ = some (.int k (f j : Nat)) := by
  rw [h.cell, cellsN_get _ _ _ _ hj]

theorem Has.free {w : World} {g t : Nat} {cs : Array Value} (h : Has w g t cs) (j : Nat) : w.frozen? ⟨g, j, none⟩ = false := by
  have h' : w.heap[g]? = some (.cells cs t (0, 0)) := h
  simp [World.frozen?, h']

theorem Has.below {w w' : World} {B g t : Nat} {cs : Array Value} (h : Has w g t cs) (hb : Below B w w') (hg : g < B) : Has w' g t cs := (hb.block g hg).trans h

theorem Has.drewN {w : World} {g t : Nat} {cs : Array Value} (h : Has w g t cs) (m : Nat) : Has (w.drewN m) g t cs := h

theorem Has.alloc {w : World} {g t : Nat} {cs : Array Value} (h : Has w g t cs) (o : Obj) : Has (w.alloc o) g t cs := (Below.heap_alloc w o g h.lt).trans h

theorem Has.new (w : World) (t : Nat) (cs : Array Value) : Has (w.alloc (.cells cs t)) w.heap.size t cs := heap_alloc_new w _

theorem Has.new_at {w : World} {g t : Nat} {cs : Array Value} (h : g = w.heap.size) : Has (w.alloc (.cells cs t)) g t cs := h ▸ heap_alloc_new w _

theorem Has.other {w : World} {g t : Nat} {cs : Array Value} (h : Has w g t cs) {p : Addr} (hp : g ≠ p.block) (u : Value) : Has (w.setCell p u) g t cs := (Below.heap_setCell w p u g hp).trans h

theorem Has.set {w : World} {g t n : Nat} {k : IntKind} {f : Nat → Nat} (h : Has w g t (cellsN k n f)) (j v : Nat) : Has (w.setCell ⟨g, j, none⟩ (.int k (v : Nat))) g t (cellsN k n (upd f j v)) := by
  have h' : w.heap[g]? = some (.cells (cellsN k n f) t (0, 0)) := h
  show (w.setCell ⟨g, j, none⟩ _).heap[g]? = _
  simp only [World.setCell, Array.getElem?_modify, h', if_pos, Option.map_some]
  rw [cellsN_set]
  rfl

theorem Has.setRow {w : World} {g t : Nat} {cs : Array Value} (h : Has w g t cs) (cs' : Array Value) : Has (w.setRow g cs') g t cs' := setRow_heap w g cs cs' t (0, 0) h

theorem below_setRow {B : Nat} {a w : World} (h : Below B a w) {g : Nat} (hg : B ≤ g) (cs : Array Value) : Below B a (w.setRow g cs) :=
  h.trans ⟨rfl, rfl, rfl, by simp [World.setRow], fun k hk => by simp only [World.setRow, Array.getElem?_modify]; rw [if_neg (by omega)]⟩

theorem Has.setRow_other {w : World} {g g' t : Nat} {cs : Array Value} (h : Has w g t cs) (hne : g ≠ g') (cs' : Array Value) : Has (w.setRow g' cs') g t cs := by
  show (w.setRow g' cs').heap[g]? = _
  simp only [World.setRow, Array.getElem?_modify]
  rw [if_neg (fun e => hne e.symm)]
  exact h

theorem Has.load {w : World} {g t n e : Nat} {cs : Array Value} (h : Has w g t cs) (ty : Nat) (hu : Tryd.prog.underlying ty = some (.array n e)) (hi : (Tryd.prog.info? ty).map (·.size) = some cs.size) :
    (Instr.loadAt ty (.pointer (some ⟨g, 0, none⟩))).run Tryd.prog w = .ok (.agg cs) w := by
  simp only [Instr.loadAt, Instr.sureAddr, Sem.run_bind, Sem.run_pure, Result.andThen]
  exact run_loadVar_row _ _ t ty cs (0, 0) _ h hu rfl hi

theorem Has.store {w : World} {g t : Nat} {cs cs' : Array Value} (h : Has w g t cs) (ty : Nat) (hi : (Tryd.prog.info? ty).map (·.size) = some cs'.size) (ho : cs.size = cs'.size) (h1 : cs'.all (·.oneCell') = true) :
    (Instr.storeAt ty (.pointer (some ⟨g, 0, none⟩)) (.agg cs')).run Tryd.prog w = .ok () (w.setRow g cs') := by
  simp only [Instr.storeAt, Instr.sureAddr, Sem.run_bind, Sem.run_pure, Result.andThen]
  exact run_storeVar_row w g t ty cs cs' h hi ho h1

theorem wpList_store_rowG {ops : Array Oper} {rest : List Oper} {o : Oper} {a : Act} {w : World} {Q : Exit → Act → World → Prop} (hgd : o.guard = none) (ty : TypeId) (x y : Operand) (ho : o.op = .store ty x y)
    (g : Nat) (cells : Array Value) (hx : a.eval x = .pointer (some ⟨g, 0, none⟩)) (hy : a.eval y = .agg cells)
    (t : TypeId) (old : Array Value) (hg : Has w g t old) (hi : (Tryd.prog.info? ty).map (·.size) = some cells.size)
    (hold : old.size = cells.size) (h1 : cells.all (·.oneCell') = true)
    (h : ∀ w2, w2 = w.setRow g cells → wpList Tryd.prog ops Q rest (a.put o.dst undef) w2) : wpList Tryd.prog ops Q (o :: rest) a w :=
  wpList_store_row hgd ty x y ho g cells hx hy t old hg hi hold h1 (h _ rfl)

theorem zeros (k : IntKind) (n : Nat) : cellsN k n (fun _ => 0) = (List.replicate n (Value.int k 0)).toArray := by
  unfold cellsN
  congr 1
  apply List.ext_getElem?
  intro i
  simp [List.getElem?_replicate]
  split <;> simp_all

def part (f : Nat → Nat) (k : Nat) : Nat → Nat := fun j => if j < k then f j else 0

theorem part_next (f : Nat → Nat) (k : Nat) : upd (part f k) k (f k) = part f (k + 1) := by
  funext i
  unfold upd part
  by_cases e : i = k
  · subst e; simp
  · have : (i < k + 1) = (i < k) := by simp; omega
    simp [e, this]

theorem Tryd.info5 : (Tryd.prog.info? 5).map (fun i => (i.zero, i.size, i.bytes)) = some (some (.int .u8 0), 1, 1) := by kernel_rfl

def Bytes (w : World) (a : Option Addr) (len : Nat) (m : Nat → Nat) : Prop := len = 0 ∨ ∃ b off, a = some ⟨b, off, none⟩ ∧ b < w.heap.size ∧ ∀ j, j < len → w.cell? ⟨b, off + j, none⟩ = some (.int .u8 (m j : Nat))

theorem Bytes.below {w w' : World} {a : Option Addr} {len B : Nat} {m : Nat → Nat} (h : Bytes w a len m) (hb : Below B w w') (hB : w.heap.size ≤ B) : Bytes w' a len m := by
  rcases h with h | ⟨b, off, h1, h2, h3⟩
  · exact .inl h
  · exact .inr ⟨b, off, h1, Nat.lt_of_lt_of_le h2 hb.size, fun j hj => (hb.cell (show b < B by omega)).trans (h3 j hj)⟩

def bl (f : Nat → Nat) (n : Nat) : List Value := (List.range n).map fun j => Value.int .u8 (f j : Nat)

/-- f's first n, and g behind them. -/
def cat (f : Nat → Nat) (n : Nat) (g : Nat → Nat) : Nat → Nat := fun j => if j < n then f j else g (j - n)

theorem bl_len (f : Nat → Nat) (n : Nat) : (bl f n).length = n * 1 := by simp [bl]

theorem bl_get (f : Nat → Nat) (n j : Nat) (h : j < n) : (bl f n)[j]? = some (.int .u8 (f j : Nat)) := by simp [bl, h]

theorem bl_one (f : Nat → Nat) (n : Nat) : ∀ u ∈ bl f n, u.oneCell' = true := by
  intro u hu
  obtain ⟨j, _, rfl⟩ := List.mem_map.1 hu
  rfl

theorem bl_cat (f g : Nat → Nat) (n l : Nat) : bl f n ++ bl g l = bl (cat f n g) (n + l) := by
  unfold bl
  rw [List.range_add, List.map_append, List.map_map]
  congr 1
  · apply List.map_congr_left
    intro j hj
    have : j < n := by simpa using hj
    simp only [cat, if_pos this]
  · apply List.map_congr_left
    intro j hj
    simp only [Function.comp, cat]
    rw [if_neg (by omega), show n + j - n = j from by omega]

theorem bl_cat_zero (f g : Nat → Nat) (n : Nat) : bl (cat f n g) (n + 0) = bl f n := by
  rw [← bl_cat f g n 0]
  simp [bl]

theorem cat_lt (f g : Nat → Nat) (n : Nat) (hf : ∀ j, f j < 256) (hg : ∀ j, g j < 256) (j : Nat) : cat f n g j < 256 := by
  unfold cat
  split
  · exact hf _
  · exact hg _

theorem grownBy_refl (w : World) (r : Option Nat) : w.grownBy w r := ⟨rfl, rfl, rfl, Nat.le_refl _, fun _ _ _ => rfl⟩

/-- One append of bytes, nil or not, to a row of the call's own. -/
theorem wpList_append_bytes {ops : Array Oper} {rest : List Oper} {o : Oper} {a : Act} {w : World} {Q : Exit → Act → World → Prop} (hgd : o.guard = none) (s x : Operand)
    (ho : o.op = .call { callee := .builtin .append, args := #[s, x], argTypes := #[33, 33] }) (base : Nat) (v : Value) (n : Nat) (f : Nat → Nat) (hs : a.eval s = v) (hown : w.ownsRow base 5 1 v n (bl f n))
    (A : Option Addr) (L C : Nat) (g : Nat → Nat) (hx : a.eval x = .slice A L C) (hnil : A = none → L = 0 ∧ C = 0) (hb : Bytes w A L g) (h63 : n + L ≤ 140737488355328) (hbase : base ≤ w.heap.size)
    (h : ∀ v' w', w'.ownsRow base 5 1 v' (n + L) (bl (cat f n g) (n + L)) → w.grownBy w' v.ownBlock → wpList Tryd.prog ops Q rest (a.put o.dst v') w') : wpList Tryd.prog ops Q (o :: rest) a w := by
  obtain ⟨i0, hi, hz0, hz1, hz2⟩ := info_parts Tryd.info5
  cases A with
  | none =>
    obtain ⟨rfl, rfl⟩ := hnil rfl
    refine wpList_append_own_none hgd s x 33 ho base 5 i0 1 Tryd.underlying33 hi v n _ hs hown hx ?_
    exact h v w (by rw [bl_cat_zero]; exact hown) (grownBy_refl _ _)
  | some ad =>
    refine wpList_append_own w hgd s x 33 ho base 5 i0 (.int .u8 0) 1 1 Tryd.underlying33 hi hz0 hz1 hz2 rfl (by decide) v n _ hs hown ad L C (bl g L) hx (bl_len g L) ?_ (bl_one g L) (by unfold maxLen; omega) (by omega) hbase ?_
    · intro j u hj
      by_cases hjl : j < L
      · rw [bl_get g L j hjl] at hj
        rcases hb with h0 | ⟨b, off, e, _, hc⟩
        · omega
        · obtain rfl : ad = ⟨b, off, none⟩ := Option.some.inj e
          have e1 : (⟨b, off, none⟩ : Addr).add j = ⟨b, off + j, none⟩ := by unfold Addr.add; split <;> simp_all
          rw [e1, hc j hjl]
          exact hj
      · rw [List.getElem?_eq_none (by rw [bl_len]; omega)] at hj
        simp at hj
    · intro v' w' h1 h2 _
      rw [bl_cat] at h1
      exact h v' w' h1 h2

/-- What is owned, as bytes of a slice. -/
theorem own_bytes {w : World} {base n : Nat} {v : Value} {f : Nat → Nat} (h : w.ownsRow base 5 1 v n (bl f n)) : ∃ a cap, v = .slice a n cap ∧ n ≤ cap ∧ (a = none → n = 0 ∧ cap = 0) ∧ Bytes w a n f ∧ ∀ b off, a = some ⟨b, off, none⟩ → base ≤ b ∧ b < w.heap.size := by
  rcases h.2 with ⟨rfl, rfl⟩ | ⟨g, cap, cur, rfl, hb, hg, hn, hm, hs, ht⟩
  · exact ⟨none, 0, rfl, Nat.le_refl _, fun _ => ⟨rfl, rfl⟩, .inl rfl, fun b off e => by cases e⟩
  · have hlt : g < w.heap.size := (Array.getElem?_eq_some_iff.1 hg).1
    refine ⟨some ⟨g, 0, none⟩, cap, rfl, hn, (fun e => by cases e), .inr ⟨g, 0, rfl, hlt, ?_⟩, ?_⟩
    · intro j hj
      rw [cell_of_row w g (0 + j) cur 5 (0, 0) hg, Nat.zero_add]
      have := bl_get f n j hj
      rw [← ht, List.getElem?_take_of_lt (by omega), Array.getElem?_toList] at this
      exact this
    · intro b off e
      simp only [Option.some.injEq, Addr.mk.injEq, and_true] at e
      omega

theorem own_below {w w' : World} {base B n : Nat} {v : Value} {xs : List Value} (h : w.ownsRow base 5 1 v n xs) (hb : Below B w w') (hB : ∀ g, v.ownBlock = some g → g < B) : w'.ownsRow base 5 1 v n xs := by
  refine ⟨h.1, ?_⟩
  rcases h.2 with h0 | ⟨g, cap, cur, hv, h1, hg, r⟩
  · exact .inl h0
  · exact .inr ⟨g, cap, cur, hv, h1, (hb.block g (hB g (by rw [hv]; rfl))).trans hg, r⟩

theorem cat_zero (f g : Nat → Nat) : cat f 0 g = g := by funext j; simp [cat]

theorem bl_set (f : Nat → Nat) (n q v : Nat) : (bl f n).set q (.int .u8 (v : Nat)) = bl (upd f q v) n := by
  apply List.ext_getElem?
  intro i
  rw [List.getElem?_set]
  by_cases hi : i < n
  · rw [bl_get _ _ _ hi, bl_get _ _ _ hi, show (bl f n).length = n from by simp [bl]]
    by_cases e : q = i
    · subst e; simp [upd, hi]
    · have : ¬ i = q := fun h => e h.symm
      simp [upd, e, this]
  · rw [List.getElem?_eq_none (by simp [bl]; omega), List.getElem?_eq_none (by simp [bl]; omega), show (bl f n).length = n from by simp [bl]]
    split
    · subst_vars; simp [hi]
    · rfl

theorem Bytes.congr {w : World} {a : Option Addr} {len : Nat} {m m' : Nat → Nat} (h : Bytes w a len m) (hm : ∀ j, j < len → m' j = m j) : Bytes w a len m' := by
  rcases h with h | ⟨b, off, h1, h2, h3⟩
  · exact .inl h
  · exact .inr ⟨b, off, h1, h2, fun j hj => by rw [hm j hj]; exact h3 j hj⟩

theorem cat_cat (f g : Nat → Nat) (n : Nat) : cat (cat f n g) n g = cat f n g := by
  funext j
  unfold cat
  by_cases h : j < n
  · rw [if_pos h, if_pos h]
  · rw [if_neg h, if_neg h]

theorem Has.bytes {w : World} {g t n : Nat} {f : Nat → Nat} (h : Has w g t (cellsN .u8 n f)) : Bytes w (some ⟨g, 0, none⟩) n f :=
  .inr ⟨g, 0, rfl, h.lt, fun j hj => by rw [Nat.zero_add]; exact h.num j hj⟩

theorem Bytes.setRow {w : World} {a : Option Addr} {len : Nat} {m : Nat → Nat} (h : Bytes w a len m) (g : Nat) (cs : Array Value) (hne : ∀ b o, a = some ⟨b, o, none⟩ → b ≠ g) : Bytes (w.setRow g cs) a len m := by
  rcases h with h | ⟨b, o, rfl, hlt, hc⟩
  · exact .inl h
  · have hb := setRow_other w g b cs (hne b o rfl)
    have hlt' : b < (w.setRow g cs).heap.size := (Array.getElem?_eq_some_iff.1 (hb.trans (Array.getElem?_eq_getElem hlt))).1
    exact .inr ⟨b, o, rfl, hlt', fun j hj => by rw [← hc j hj]; simp only [World.cell?, hb]⟩

/-- A slice of bytes within one. -/
theorem Bytes.part {w : World} {b o len : Nat} {m : Nat → Nat} (h : Bytes w (some ⟨b, o, none⟩) len m) (s k : Nat) (hk : s + k ≤ len) : Bytes w (some ⟨b, o + s, none⟩) k (fun j => m (s + j)) := by
  rcases h with h | ⟨b', o', e, hlt, hc⟩
  · exact .inl (by omega)
  · cases e
    exact .inr ⟨b, o + s, rfl, hlt, fun j hj => by rw [Nat.add_assoc]; exact hc _ (by omega)⟩

theorem Bytes.grownTo {w w' : World} {a : Option Addr} {len : Nat} {m : Nat → Nat} {r : Option Nat} (h : Bytes w a len m) (hg : w.grownBy w' r) (hne : ∀ b off, a = some ⟨b, off, none⟩ → r ≠ some b) : Bytes w' a len m := by
  rcases h with h | ⟨b, o, rfl, hlt, hc⟩
  · exact .inl h
  · have hb := hg.block b hlt (fun e => hne b o rfl e.symm)
    exact .inr ⟨b, o, rfl, Nat.lt_of_lt_of_le hlt hg.size, fun j hj => by rw [← hc j hj]; simp only [World.cell?, hb]⟩

theorem wpList_is {ops : Array Oper} {rest : List Oper} {o : Oper} {a : Act} {w : World} {Q : Exit → Act → World → Prop} (d : Option Tmp) (v : Value) (hd : o.dst = d) (hw : Region.wanted o (yielded ops a.tmps) = true)
    (hrun : (execOp a.eval o).run Tryd.prog w = .ok (.value v) w) (h : wpList Tryd.prog ops Q rest (a.put d v) w) : wpList Tryd.prog ops Q (o :: rest) a w :=
  wpList_step fun K hK => by
    subst hd
    rw [if_pos hw]
    unfold Oper.wp
    rw [hrun]
    exact hK _ _ h

theorem wpList_is_w {ops : Array Oper} {rest : List Oper} {o : Oper} {a : Act} {w : World} {Q : Exit → Act → World → Prop} (d : Option Tmp) (v : Value) (w' : World) (hd : o.dst = d) (hw : Region.wanted o (yielded ops a.tmps) = true)
    (hrun : (execOp a.eval o).run Tryd.prog w = .ok (.value v) w') (h : wpList Tryd.prog ops Q rest (a.put d v) w') : wpList Tryd.prog ops Q (o :: rest) a w :=
  wpList_step fun K hK => by
    subst hd
    rw [if_pos hw]
    unfold Oper.wp
    rw [hrun]
    exact hK _ _ h

theorem bl_zeros (n : Nat) : (madeCells (Value.int .u8 0).cells (n * 1)).toList = bl (fun _ => 0) n := by
  unfold bl madeCells
  apply List.ext_getElem?
  intro i
  by_cases h : i < n
  · simp [h, Value.cells, Nat.mod_one]
  · simp [h, Value.cells]

theorem own_has6 {w : World} {base n g : Nat} {f : Nat → Nat} (h : w.ownsRow base 5 1 (.slice (some ⟨g, 0, none⟩) n n) n (bl f n)) : Has w g 5 (cellsN .u8 n f) := by
  rcases h.2 with ⟨e, _⟩ | ⟨g', cap, cur, e, hb, hg, hn, hm, hs, ht⟩
  · cases e
  · injection e with e1 _ e3
    injection e1 with e1
    injection e1 with e1
    subst e1 e3
    have hc : cur = cellsN .u8 n f := by
      apply Array.toList_inj.1
      rw [← List.take_of_length_le (l := cur.toList) (i := n * 1) (by rw [Array.length_toList, hs]; exact Nat.le_refl _), ht]
      unfold bl cellsN
      rfl
    show w.heap[g]? = _
    rw [hg, hc]

theorem make_has (n : Nat) (hn : n ≤ 10000000) (w : World) : ∃ w', Has w' w.heap.size 5 (cellsN .u8 n fun _ => 0) ∧ Below w.heap.size w w' ∧
    ∀ (o : Oper) (a : Act) (l c : Operand), o.op = .makeSlice 33 l c → a.eval l = .int .i64 (n : Nat) → a.eval c = .int .i64 (n : Nat) → (execOp a.eval o).run Tryd.prog w = .ok (.value (.slice (some ⟨w.heap.size, 0, none⟩) n n)) w' := by
  obtain ⟨i0, hi, hz0, hz1, hz2⟩ := info_parts Tryd.info5
  obtain ⟨w', hrun, r1, r2⟩ := run_make_full (P := Tryd.prog) w w.heap.size 33 5 i0 (.int .u8 0) 1 Tryd.underlying33 hi hz0 hz1 .i64 .i64 n (by rw [hz2]; omega) (by unfold maxLen; omega) (Nat.le_refl _)
  rw [bl_zeros] at r1
  refine ⟨w', own_has6 r1, (Below.refl _ _).grown r2 (Nat.le_refl _) (by intro k h; cases h), ?_⟩
  intro o a l c ho hl hc
  unfold execOp
  simp [ho, hl, hc, hrun, Result.andThen]

theorem Bytes.src {w : World} {a : Option Addr} {n : Nat} {f : Nat → Nat} (hb : Bytes w a n f) (c : Nat) (hc : c ≤ n) : 0 < ((List.range c).map fun j => Value.int .u8 (f j : Nat)).length → ∃ ad, a = some ad ∧ ∀ j v, ((List.range c).map fun j => Value.int .u8 (f j : Nat))[j]? = some v → w.cell? (ad.add j) = some v := by
  intro h0
  simp only [List.length_map, List.length_range] at h0
  rcases hb with h | ⟨b, off, rfl, h2, h3⟩
  · omega
  · refine ⟨_, rfl, fun j v hv => ?_⟩
    rw [Addr.add_mid]
    have hj : j < c := by have := (List.getElem?_eq_some_iff.1 hv).1; simpa using this
    rw [h3 j (by omega), ← hv]
    simp [hj]

theorem ints_one (f : Nat → Nat) (n : Nat) : ∀ v ∈ (List.range n).map fun j => Value.int .u8 (f j : Nat), v.oneCell' = true := by
  intro v hv
  obtain ⟨j, _, rfl⟩ := List.mem_map.1 hv
  rfl

/-- Bytes laid over the beginning of a row of noughts. -/
theorem spliced6 (f : Nat → Nat) (n M : Nat) (hn : n ≤ M) : splice (cellsN .u8 M fun _ => 0).toList 0 ((List.range n).map fun j => Value.int .u8 (f j : Nat)) = (cellsN .u8 M fun j => if j < n then f j else 0).toList := by
  apply List.ext_getElem?
  intro i
  unfold splice
  rw [List.take_zero, List.nil_append]
  by_cases h1 : i < n
  · have e := cellsN_get .u8 M (fun j => if j < n then f j else 0) i (by omega)
    rw [← Array.getElem?_toList, if_pos h1] at e
    rw [List.getElem?_append_left (by simpa using h1), e]
    simp [h1]
  · rw [List.getElem?_append_right (by simp; omega), List.getElem?_drop]
    simp only [List.length_map, List.length_range]
    rw [show 0 + n + (i - n) = i from by omega]
    by_cases h2 : i < M
    · rw [Array.getElem?_toList, Array.getElem?_toList, cellsN_get _ _ _ _ h2, cellsN_get _ _ _ _ h2, if_neg h1]
    · rw [List.getElem?_eq_none (by simp [cellsN]; omega), List.getElem?_eq_none (by simp [cellsN]; omega)]

def pickF (d : Nat → Nat) (L : Nat) : Nat → Nat := fun j => if j < L then d j else 0

theorem pickF_lt (d : Nat → Nat) (L : Nat) (hd : ∀ j, d j < 256) (j : Nat) : pickF d L j < 256 := by
  unfold pickF
  split
  · exact hd j
  · decide

/-- What picked lays, of M bytes. -/
theorem pick_words (d : Nat → Nat) (L M c : Nat) (a : Option Addr) (w : World) (hb : Bytes w a L d) (hM : M ≤ 100000) : ∃ (w1 : World) (cs : List Value), Has w1 w.heap.size 5 (cellsN .u8 M fun _ => 0) ∧ Below w.heap.size w w1 ∧
    (∀ (o : Oper) (a : Act) (l c : Operand), o.op = .makeSlice 33 l c → a.eval l = .int .i64 (M : Nat) → a.eval c = .int .i64 (M : Nat) → (execOp a.eval o).run Tryd.prog w = .ok (.value (.slice (some ⟨w.heap.size, 0, none⟩) M M)) w1) ∧
    cs.length = Nat.min L M ∧ (0 < cs.length → some (⟨w.heap.size, 0, none⟩ : Addr) = some ⟨w.heap.size, 0, none⟩ ∧ ∃ ad, a = some ad ∧ ∀ j v, cs[j]? = some v → w1.cell? (ad.add j) = some v) ∧ 0 + cs.length ≤ (cellsN .u8 M fun _ => 0).toList.length ∧
    (∀ v ∈ cs, v.oneCell' = true) ∧ (splice (cellsN .u8 M fun _ => 0).toList 0 cs).toArray = cellsN .u8 M (pickF d L) := by
  obtain ⟨w1, hH1, hb1, hmk⟩ := make_has M (by omega) w
  obtain ⟨cc, hcc⟩ : ∃ cc, cc = Nat.min L M := ⟨_, rfl⟩
  have hccb : cc ≤ L ∧ cc ≤ M := by rw [hcc]; exact ⟨Nat.min_le_left _ _, Nat.min_le_right _ _⟩
  have hby := hb.below hb1 (Nat.le_refl _)
  have HP : cellsN .u8 M (fun j => if j < cc then d j else 0) = cellsN .u8 M (pickF d L) := by
    apply cellsN_congr
    intro j hj
    unfold pickF
    by_cases h : j < L
    · rw [if_pos h, if_pos (by rw [hcc]; exact Nat.lt_min.2 ⟨h, hj⟩)]
    · rw [if_neg h, if_neg (by omega)]
  refine ⟨w1, (List.range cc).map fun j => Value.int .u8 (d j : Nat), hH1, hb1, hmk, by rw [hcc]; simp, fun h0 => ⟨rfl, hby.src cc hccb.1 h0⟩, by simp [cellsN]; omega, ints_one d cc, ?_⟩
  rw [spliced6 d cc M hccb.2, ← HP]

theorem wpList_make6 {ops : Array Oper} {rest : List Oper} {o : Oper} {a : Act} {w w' : World} {Q : Exit → Act → World → Prop} (hgd : o.guard = none) (v : Value) (hr : (execOp a.eval o).run Tryd.prog w = .ok (.value v) w') (h : wpList Tryd.prog ops Q rest (a.put o.dst v) w') : wpList Tryd.prog ops Q (o :: rest) a w :=
  wpList_plain hgd fun K hK => by
    unfold Oper.wp
    rw [hr]
    exact hK _ _ h

/-- The bytes f laid over F from place o on. -/
def over (F : Nat → Nat) (o n : Nat) (f : Nat → Nat) : Nat → Nat := fun j => if o ≤ j ∧ j < o + n then f (j - o) else F j

theorem over_splice (F f : Nat → Nat) (M o n : Nat) (h : o + n ≤ M) : ((cellsN .u8 M F).toList.take o ++ (bl f n ++ (cellsN .u8 M F).toList.drop (o + (bl f n).length))).toArray = cellsN .u8 M (over F o n f) := by
  have hl : (bl f n).length = n := by simp [bl]
  rw [hl]
  apply Array.ext_getElem?
  intro i
  rw [List.getElem?_toArray]
  have hs : (cellsN .u8 M F).toList.length = M := by rw [Array.length_toList, cellsN_size]
  by_cases h1 : i < o
  · rw [List.getElem?_append_left (by simp [hs]; omega), List.getElem?_take, if_pos h1, Array.getElem?_toList, cellsN_get _ _ _ _ (by omega), cellsN_get _ _ _ _ (by omega)]
    unfold over
    rw [if_neg (by omega)]
  · rw [List.getElem?_append_right (by simp [hs]; omega)]
    have ht : ((cellsN .u8 M F).toList.take o).length = o := by rw [List.length_take, hs]; omega
    rw [ht]
    by_cases h2 : i < o + n
    · rw [List.getElem?_append_left (by rw [hl]; omega), bl_get _ _ _ (by omega), cellsN_get _ _ _ _ (by omega)]
      unfold over
      rw [if_pos (by omega)]
    · rw [List.getElem?_append_right (by rw [hl]; omega), hl, List.getElem?_drop, Array.getElem?_toList, show o + n + (i - o - n) = i by omega]
      by_cases h3 : i < M
      · rw [cellsN_get _ _ _ _ h3, cellsN_get _ _ _ _ h3]
        unfold over
        rw [if_neg (by omega)]
      · rw [Array.getElem?_eq_none (by rw [cellsN_size]; omega), Array.getElem?_eq_none (by rw [cellsN_size]; omega)]

theorem grown_trans {a b c : World} {r : Option Nat} (h : a.grownBy b r) (k : b.grownBy c r) : a.grownBy c r := ⟨k.os.trans h.os, k.tape.trans h.tape, k.output.trans h.output, Nat.le_trans h.size k.size, fun i hi hne => (k.block i (Nat.lt_of_lt_of_le hi h.size) hne).trans (h.block i hi hne)⟩

theorem grown_below {a b : World} {r : Option Nat} (h : Below a.heap.size a b) : a.grownBy b r := ⟨h.os, h.tape, h.output, h.size, fun i hi _ => h.block i hi⟩

theorem grown_row (W : World) (b : Nat) (cs : Array Value) : W.grownBy (W.setRow b cs) (some b) :=
  ⟨rfl, rfl, rfl, by simp [World.setRow], fun k hk hne => by simp only [World.setRow, Array.getElem?_modify]; rw [if_neg (fun e => hne (by rw [← e]))]⟩

theorem run_slice_from {o : Oper} {a : Act} (x l : Operand) (ho : o.op = .slice 33 x (some l) none none) (b off L cap q : Nat) (hx : a.eval x = .slice (some ⟨b, off, none⟩) L cap) (hl : a.eval l = .int .i64 (q : Nat)) (h1 : q ≤ L) (w : World) :
    (execOp a.eval o).run Tryd.prog w = .ok (.value (.slice (some (if cap = q then ⟨b, off, none⟩ else ⟨b, off + q, none⟩)) (L - q) (cap - q))) w := by
  unfold execOp
  simp only [ho, hx, hl, Option.map_some, Option.map_none]
  simp [Instr.sliceAt, Instr.slice, Instr.sliceBounds, Instr.sliceBound, run_underlying Tryd.underlying33, go_sem, asIntOf, h1]
  split <;> rfl

theorem run_slice_to {o : Oper} {a : Act} (x l : Operand) (ho : o.op = .slice 33 x none (some l) none) (b off L cap q : Nat) (hx : a.eval x = .slice (some ⟨b, off, none⟩) L cap) (hl : a.eval l = .int .i64 (q : Nat)) (h1 : q ≤ cap) (w : World) :
    (execOp a.eval o).run Tryd.prog w = .ok (.value (.slice (some ⟨b, off, none⟩) q cap)) w := by
  unfold execOp
  simp only [ho, hx, hl, Option.map_some, Option.map_none]
  simp [Instr.sliceAt, Instr.slice, Instr.sliceBounds, Instr.sliceBound, run_underlying Tryd.underlying33, go_sem, asIntOf, h1]

theorem Has.grown {w w' : World} {g b t : Nat} {cs : Array Value} (h : Has w b t cs) (hg : w.grownBy w' (some g)) (hne : b ≠ g) : Has w' b t cs := (hg.block b h.lt (fun e => hne (by cases e; rfl))).trans h

theorem Bytes.range {w : World} {b o len : Nat} {m : Nat → Nat} (h : Bytes w (some ⟨b, o, none⟩) len m) (s k : Nat) (hk : s + k ≤ len) : w.rangeAt b (o + s) (cellsN .u8 k (fun j => m (s + j))).toList := by
  intro j v hj
  have hjk : j < k := by
    have := (List.getElem?_eq_some_iff.1 hj).1
    rwa [Array.length_toList, cellsN_size] at this
  rw [Array.getElem?_toList, cellsN_get _ _ _ _ hjk] at hj
  cases hj
  rcases h with h | ⟨b', o', e, _, hc⟩
  · omega
  · cases e
    rw [Nat.add_assoc]
    exact hc (s + j) (by omega)

end Go.Proofs.YtoiaclmfljoomaaDoor

/- Moves through a region that draws its order, what is laid said outright. -/
namespace Go.Proofs.YtoiaclmfljoomaaDoor
open Go.ChangeShapes Go.WideShapes Go.ChangeAt Go.RowKit
set_option linter.unusedVariables false

section
variable {P : Program} {ops : Array Oper} {Q : Exit → Act → World → Prop} {md : Region.Mode} {S : World → Prop} {m : Nat}

/-- One that yields in every world that meets S is taken first. -/
theorem takeTo {oi : Oper} (i : Nat) (d : Option Tmp) (v : Value) {fuel : Nat} {listed : Array Bool} {a : Act} {w : World} (hi : ops[i]? = some oi) (hd : oi.dst = d)
    (hs : Region.noSelect ops = true) (hf : Region.free md ops listed i = true) (hr : (Region.ready md ops listed).contains i = true)
    (hQ : ∀ c a w, Q (.panic c) (a.put d v) w → Q (.panic c) a w) (hw : Region.wanted oi (yielded ops a.tmps) = true) (hy : ∀ w, S w → (execOp a.eval oi).run P w = .ok (.value v) w) (hS : S w)
    (h : wpAnyH P md ops Q S fuel (listed.setIfInBounds i true) (a.put d v) w) : wpAnyH P md ops Q S (fuel + 1) listed a w := by
  subst hd
  exact wpAnyH_take hi hs hf hr hQ (.inl ⟨hw, hy⟩) hS h

/-- A call by its contract, where nothing else may come up. -/
theorem callTo {oi : Oper} (i : Nat) (d : Option Tmp) (f : FuncId) (args : Array Value) {fuel : Nat} {listed : Array Bool} {a : Act} {w : World} {Post : Ending → World → Prop}
    (hr : Region.ready md ops listed = [i]) (hi : ops[i]? = some oi) (hd : oi.dst = d) (hw : Region.wanted oi (yielded ops a.tmps) = true)
    (hrun : (execOp a.eval oi).run P w = .ok (.enter f args) w) (hc : Calls P f args w Post)
    (h : ∀ e w', Post e w' → ∃ v, e = .returned v ∧ S w' ∧ wpAnyH P md ops Q S fuel (listed.setIfInBounds i true) (a.put d v) w') : wpAnyH P md ops Q S (fuel + 1) listed a w := by
  subst hd
  refine wpAnyH_ready hr (by simp) (AllReadyH.cons hi (fun K hK => ?_) AllReadyH.nil)
  rw [if_pos hw]
  unfold Oper.wp
  rw [hrun, Oper.upon_enter]
  refine hc.mono fun e w' hh => ?_
  obtain ⟨v, rfl, hS, hrest⟩ := h e w' hh
  exact hK.out _ _ hS (fun _ => hrest)

/-- Number i comes up now. -/
def StepH (P : Program) (md : Region.Mode) (ops : Array Oper) (Q : Exit → Act → World → Prop) (S : World → Prop) (fuel : Nat) (listed : Array Bool) (a : Act) (w : World) (i : Nat) : Prop :=
  wpOp P ops Q i (fun a' w' => S w' ∧ wpAnyH P md ops Q S fuel (listed.setIfInBounds i true) a' w') a w

theorem ready1 {fuel : Nat} {listed : Array Bool} {a : Act} {w : World} (i : Nat) (hr : Region.ready md ops listed = [i]) (h : StepH P md ops Q S fuel listed a w i) : wpAnyH P md ops Q S (fuel + 1) listed a w :=
  wpAnyH_all hr (by simp) (fun k hk => by obtain rfl : k = i := (by simpa using hk); exact h)

theorem ready2 {fuel : Nat} {listed : Array Bool} {a : Act} {w : World} (i j : Nat) (hr : Region.ready md ops listed = [i, j]) (h1 : StepH P md ops Q S fuel listed a w i) (h2 : StepH P md ops Q S fuel listed a w j) : wpAnyH P md ops Q S (fuel + 1) listed a w :=
  wpAnyH_all hr (by simp) (fun k hk => by
    rcases (show k = i ∨ k = j by simpa using hk) with rfl | rfl
    · exact h1
    · exact h2)

theorem stepCall {oi : Oper} {i : Nat} (d : Option Tmp) (f : FuncId) (args : Array Value) {fuel : Nat} {listed : Array Bool} {a : Act} {w : World} {Post : Ending → World → Prop}
    (hi : ops[i]? = some oi) (hd : oi.dst = d) (hw : Region.wanted oi (yielded ops a.tmps) = true)
    (hrun : (execOp a.eval oi).run P w = .ok (.enter f args) w) (hc : Calls P f args w Post)
    (h : ∀ e w', Post e w' → ∃ v, e = .returned v ∧ S w' ∧ wpAnyH P md ops Q S fuel (listed.setIfInBounds i true) (a.put d v) w') : StepH P md ops Q S fuel listed a w i := by
  subst hd
  refine wpOp_step hi (fun K hK => ?_)
  rw [if_pos hw]
  unfold Oper.wp
  rw [hrun, Oper.upon_enter]
  refine hc.mono fun e w' hh => ?_
  obtain ⟨v, rfl, hS⟩ := h e w' hh
  exact hK _ _ hS

theorem stepVal {oi : Oper} {i : Nat} (d : Option Tmp) (v : Value) (w' : World) {fuel : Nat} {listed : Array Bool} {a : Act} {w : World}
    (hi : ops[i]? = some oi) (hd : oi.dst = d) (hw : Region.wanted oi (yielded ops a.tmps) = true)
    (hrun : (execOp a.eval oi).run P w = .ok (.value v) w')
    (h : S w' ∧ wpAnyH P md ops Q S fuel (listed.setIfInBounds i true) (a.put d v) w') : StepH P md ops Q S fuel listed a w i := by
  subst hd
  refine wpOp_step hi (fun K hK => ?_)
  rw [if_pos hw]
  unfold Oper.wp
  rw [hrun]
  exact hK _ _ h

theorem stepSkip {oi : Oper} {i : Nat} (d : Option Tmp) (w' : World) {fuel : Nat} {listed : Array Bool} {a : Act} {w : World}
    (hi : ops[i]? = some oi) (hd : oi.dst = d) (hw : Region.wanted oi (yielded ops a.tmps) = true)
    (hrun : (execOp a.eval oi).run P w = .ok .skip w')
    (h : S w' ∧ wpAnyH P md ops Q S fuel (listed.setIfInBounds i true) (a.put d undef) w') : StepH P md ops Q S fuel listed a w i := by
  subst hd
  refine wpOp_step hi (fun K hK => ?_)
  rw [if_pos hw]
  unfold Oper.wp
  rw [hrun]
  exact hK _ _ h

/-- In every order; S behind each operation but number m. -/
def AnyL (P : Program) (md : Region.Mode) (ops : Array Oper) (Q : Exit → Act → World → Prop) (S : World → Prop) (m : Nat) : Nat → Array Bool → Act → World → Prop
  | 0, listed, a, w => Region.ready md ops listed = [] ∧ Q .normal a w
  | n + 1, listed, a, w => (Region.ready md ops listed = [] → Q .normal a w) ∧ ∀ j ∈ Region.ready md ops listed, wpOp P ops Q j (fun a' w' => (j ≠ m → S w') ∧ AnyL P md ops Q S m n (listed.setIfInBounds j true) a' w') a w

theorem AnyL.any : ∀ (n : Nat) (listed : Array Bool) (a : Act) (w : World), AnyL P md ops Q S m n listed a w → wpAny P md ops Q n listed a w
  | 0, _, _, _, h => h
  | n + 1, _, _, _, h => ⟨h.1, fun j hj => wpOp_mono (fun a' w' h' => AnyL.any n _ a' w' h'.2) (h.2 j hj)⟩

theorem lastTo {id : Nat} {a : Act} {w : World} (m : Nat) (hm : P.follows .mixedOrders = true) (hS : S w.drew)
    (h : S w.drew → AnyL P .any ops Q S m ops.size (Array.replicate ops.size false) a w.drew) : (Code.region id ops true).wp P Q a w :=
  wp_region_any hm (AnyL.any _ _ _ _ (h hS))

/-- Number m waits for number i. -/
def waitsFor (md : Region.Mode) (ops : Array Oper) (m i : Nat) : Bool := (ops[m]?).any fun o => o.after.any fun e => Region.binds md e && e.on == i

theorem not_yet {i : Nat} {listed : Array Bool} (hw : waitsFor md ops m i = true) (hr : i ∈ Region.ready md ops listed) : m ∉ Region.ready md ops listed := by
  intro hm
  obtain ⟨_, o, ho, hall⟩ := mem_ready.1 hm
  obtain ⟨hi0, _⟩ := mem_ready.1 hr
  simp only [waitsFor, ho, Option.any_some, Array.any_eq_true', Bool.and_eq_true, beq_iff_eq] at hw
  obtain ⟨e, he, hb, rfl⟩ := hw
  have h1 := hall e he hb
  by_cases hlt : e.on < listed.size
  · simp [hlt] at hi0 h1
    rw [hi0] at h1
    cases h1
  · simp [Array.getElem?_eq_none (Nat.not_lt.1 hlt)] at h1

theorem AnyL.front {i : Nat} {oi : Oper} {v : Value} (hi : ops[i]? = some oi) (him : i ≠ m) (hw : waitsFor md ops m i = true) (hsel : ∀ (j : Nat) (o : Oper) cs b, ops[j]? = some o → o.op ≠ .select cs b)
    (hQ : ∀ c a w, Q (.panic c) (a.put oi.dst v) w → Q (.panic c) a w) : ∀ (n : Nat) (listed : Array Bool) (a : Act) (w : World),
      (∀ j oj, ops[j]? = some oj → j ≠ i → listed.getD j true = false → (∀ e ∈ oj.after, Region.binds md e = true → e.on ≠ i) → oi.apart ops oj = true) →
      i ∈ Region.ready md ops listed → YieldsIf P ops S oi v a → S w → AnyL P md ops Q S m n (listed.setIfInBounds i true) (a.put oi.dst v) w → AnyL P md ops Q S m (n + 1) listed a w
  | n, listed, a, w, hfree, hr, hy, hS, H => by
    refine ⟨fun h => absurd (h ▸ hr) (by simp), fun j hj => ?_⟩
    by_cases hji : j = i
    · subst hji
      exact hy.wpOp hi hS ⟨fun _ => hS, H⟩
    have hjm : j ≠ m := fun e => not_yet hw hr (e ▸ hj)
    have hj' := ready_mono hj hji
    cases n with
    | zero => exact absurd (H.1 ▸ hj') (by simp)
    | succ n =>
      obtain ⟨hjun, oj, hoj, hall⟩ := mem_ready.1 hj
      have hno : ∀ e ∈ oj.after, Region.binds md e = true → e.on ≠ i := by
        intro e he hb heq
        have h1 := hall e he hb
        have h0 := (mem_ready.1 hr).1
        subst heq
        by_cases hlt : e.on < listed.size
        · simp [hlt] at h0 h1
          rw [h0] at h1
          cases h1
        · simp [Array.getElem?_eq_none (Nat.not_lt.1 hlt)] at h1
      refine wpOp_mono ?_ (wpOp_putIf hoj (hfree j oj hoj hji hjun hno) (fun cs b => hsel i oi cs b hi) (fun cs b => hsel j oj cs b hoj) hQ hy (H.2 j hj'))
      rintro a' w' ⟨hy', hS', H'⟩
      refine ⟨hS', AnyL.front hi him hw hsel hQ n (listed.setIfInBounds j true) a' w' (fun k ok hk hki hun hn => hfree k ok hk hki ?_ hn) (ready_mono hr (Ne.symm hji)) hy' (hS' hjm) ?_⟩
      · by_cases hjk : j = k
        · subst hjk; exact hjun
        · rwa [getD_set_ne true hjk] at hun
      · rw [Array.setIfInBounds_comm _ _ hji]
        exact H'

/-- One that yields in every world that meets S is taken first. -/
theorem takeL {oi : Oper} (i : Nat) (d : Option Tmp) (v : Value) {n : Nat} {listed : Array Bool} {a : Act} {w : World} (hi : ops[i]? = some oi) (hd : oi.dst = d) (him : i ≠ m) (hwf : waitsFor md ops m i = true)
    (hs : Region.noSelect ops = true) (hf : Region.free md ops listed i = true) (hr : (Region.ready md ops listed).contains i = true)
    (hQ : ∀ c a w, Q (.panic c) (a.put d v) w → Q (.panic c) a w) (hw : Region.wanted oi (yielded ops a.tmps) = true) (hy : ∀ w, S w → (execOp a.eval oi).run P w = .ok (.value v) w) (hS : S w)
    (h : AnyL P md ops Q S m n (listed.setIfInBounds i true) (a.put d v) w) : AnyL P md ops Q S m (n + 1) listed a w := by
  subst hd
  exact AnyL.front hi him hwf (Region.noSelect_spec hs) hQ n listed a w (Region.free_spec hi hf) (by simpa using hr) (.inl ⟨hw, hy⟩) hS h

/-- The last one. -/
theorem lastSkip {oi : Oper} (m : Nat) (d : Option Tmp) (w' : World) {n : Nat} {listed : Array Bool} {a : Act} {w : World} (hr : Region.ready md ops listed = [m])
    (hi : ops[m]? = some oi) (hd : oi.dst = d) (hw : Region.wanted oi (yielded ops a.tmps) = true)
    (hrun : (execOp a.eval oi).run P w = .ok .skip w') (he : Region.ready md ops (listed.setIfInBounds m true) = [])
    (h : Q .normal (a.put d undef) w') : AnyL P md ops Q S m (n + 1) listed a w := by
  subst hd
  refine ⟨fun h0 => absurd (hr ▸ h0) (by simp), fun j hj => ?_⟩
  obtain rfl : j = m := by rw [hr] at hj; simpa using hj
  refine wpOp_step hi (fun K hK => ?_)
  rw [if_pos hw]
  unfold Oper.wp
  rw [hrun]
  refine hK _ _ ⟨fun h => absurd rfl h, ?_⟩
  cases n with
  | zero => exact ⟨he, h⟩
  | succ n => exact ⟨fun _ => h, by rw [he]; simp⟩

/-- A call by its contract, where nothing else may come up. -/
theorem callL {oi : Oper} (i : Nat) (d : Option Tmp) (f : FuncId) (args : Array Value) {n : Nat} {listed : Array Bool} {a : Act} {w : World} {Post : Ending → World → Prop}
    (hr : Region.ready md ops listed = [i]) (hi : ops[i]? = some oi) (hd : oi.dst = d) (hw : Region.wanted oi (yielded ops a.tmps) = true)
    (hrun : (execOp a.eval oi).run P w = .ok (.enter f args) w) (hc : Calls P f args w Post)
    (h : ∀ e w', Post e w' → ∃ v, e = .returned v ∧ S w' ∧ AnyL P md ops Q S m n (listed.setIfInBounds i true) (a.put d v) w') : AnyL P md ops Q S m (n + 1) listed a w := by
  subst hd
  refine ⟨fun h0 => absurd (hr ▸ h0) (by simp), fun j hj => ?_⟩
  obtain rfl : j = i := by rw [hr] at hj; simpa using hj
  refine wpOp_step hi (fun K hK => ?_)
  rw [if_pos hw]
  unfold Oper.wp
  rw [hrun, Oper.upon_enter]
  refine hc.mono fun e w' hh => ?_
  obtain ⟨v, rfl, hS, hrest⟩ := h e w' hh
  exact hK _ _ ⟨fun _ => hS, hrest⟩

/-- One that only skips, where nothing else may come up. -/
theorem skipL {oi : Oper} (i : Nat) (d : Option Tmp) (w' : World) {n : Nat} {listed : Array Bool} {a : Act} {w : World}
    (hr : Region.ready md ops listed = [i]) (hi : ops[i]? = some oi) (hd : oi.dst = d) (hw : Region.wanted oi (yielded ops a.tmps) = true)
    (hrun : (execOp a.eval oi).run P w = .ok .skip w') (hS : S w')
    (h : AnyL P md ops Q S m n (listed.setIfInBounds i true) (a.put d undef) w') : AnyL P md ops Q S m (n + 1) listed a w := by
  subst hd
  refine ⟨fun h0 => absurd (hr ▸ h0) (by simp), fun j hj => ?_⟩
  obtain rfl : j = i := by rw [hr] at hj; simpa using hj
  refine wpOp_step hi (fun K hK => ?_)
  rw [if_pos hw]
  unfold Oper.wp
  rw [hrun]
  exact hK _ _ ⟨fun _ => hS, h⟩

/-- One that yields and may make memory, where nothing else may come up. -/
theorem valL {oi : Oper} (i : Nat) (d : Option Tmp) (v : Value) (w' : World) {n : Nat} {listed : Array Bool} {a : Act} {w : World}
    (hr : Region.ready md ops listed = [i]) (hi : ops[i]? = some oi) (hd : oi.dst = d) (hw : Region.wanted oi (yielded ops a.tmps) = true)
    (hrun : (execOp a.eval oi).run P w = .ok (.value v) w') (hS : S w')
    (h : AnyL P md ops Q S m n (listed.setIfInBounds i true) (a.put d v) w') : AnyL P md ops Q S m (n + 1) listed a w := by
  subst hd
  refine ⟨fun h0 => absurd (hr ▸ h0) (by simp), fun j hj => ?_⟩
  obtain rfl : j = i := by rw [hr] at hj; simpa using hj
  refine wpOp_step hi (fun K hK => ?_)
  rw [if_pos hw]
  unfold Oper.wp
  rw [hrun]
  exact hK _ _ ⟨fun _ => hS, h⟩

end

theorem run_store_row {o : Oper} {a : Act} (ty : TypeId) (x y : Operand) (ho : o.op = .store ty x y) (g : Nat) (hx : a.eval x = .pointer (some ⟨g, 0, none⟩)) (X : Array Value) (hy : a.eval y = .agg X) (t : TypeId) {cs : Array Value}
    (hi : (Tryd.prog.info? ty).map (·.size) = some X.size) (w : World) (h : Has w g t cs) (hs : cs.size = X.size) (h1 : X.all (·.oneCell') = true) : (execOp a.eval o).run Tryd.prog w = .ok .skip (w.setRow g X) := by
  unfold execOp
  simp only [ho, hx, hy, Sem.run_bind, h.store ty hi hs h1]
  rfl

theorem run_load_row {o : Oper} {a : Act} (ty : TypeId) (x : Operand) (ho : o.op = .load ty x) (g : Nat) (hx : a.eval x = .pointer (some ⟨g, 0, none⟩)) (X : Array Value) (t : TypeId) {n e : Nat}
    (hu : Tryd.prog.underlying ty = some (.array n e)) (hi : (Tryd.prog.info? ty).map (·.size) = some X.size) (w : World) (h : Has w g t X) : (execOp a.eval o).run Tryd.prog w = .ok (.value (.agg X)) w := by
  unfold execOp
  simp only [ho, hx, Sem.run_bind, Sem.run_pure, Result.andThen_ok, h.load ty hu hi]

/-- One that is guarded and not wanted. -/
theorem skipTo {P : Program} {ops : Array Oper} {Q : Exit → Act → World → Prop} {md : Region.Mode} {S : World → Prop} {oi : Oper} (i : Nat) (d : Option Tmp) {fuel : Nat} {listed : Array Bool} {a : Act} {w : World} (hi : ops[i]? = some oi) (hd : oi.dst = d)
    (hs : Region.noSelect ops = true) (hf : Region.free md ops listed i = true) (hr : (Region.ready md ops listed).contains i = true)
    (hQ : ∀ c a w, Q (.panic c) (a.put d undef) w → Q (.panic c) a w) (hw : Region.wanted oi (yielded ops a.tmps) = false) (hS : S w)
    (h : wpAnyH P md ops Q S fuel (listed.setIfInBounds i true) (a.put d undef) w) : wpAnyH P md ops Q S (fuel + 1) listed a w := by
  subst hd
  exact wpAnyH_take hi hs hf hr hQ (.inr ⟨hw, rfl⟩) hS h

theorem run_at_slice {o : Oper} {a : Act} (ty : TypeId) (x i : Operand) (ho : o.op = .indexAddr ty x i) (g off k n cap : Nat) (e : TypeId) (hx : a.eval x = .slice (some ⟨g, off, none⟩) n cap) (hi : a.eval i = .int .i64 (k : Nat))
    (hu : Tryd.prog.underlying ty = some (.slice e)) (hs : (Tryd.prog.info? e).map (·.size) = some 1) (hk : k < n) (w : World) : (execOp a.eval o).run Tryd.prog w = .ok (.value (.pointer (some ⟨g, off + k, none⟩))) w := by
  unfold execOp
  cases hq : Tryd.prog.info? e with
  | none => simp [hq] at hs
  | some inf =>
    have hz : inf.size = 1 := by simpa [hq] using hs
    simp only [ho, hx, hi]
    simp [Instr.indexAt, Instr.sureAddr, run_underlying hu, asIntOf, sizeOf, typeInfo, hq, hz, Addr.add_mid, go_sem]
    intro h
    omega

theorem run_len_of {o : Oper} {a : Act} (ty e : TypeId) (hu : Tryd.prog.underlying ty = some (.slice e)) (x : Operand) (ho : o.op = .call { callee := .builtin .len, args := #[x], argTypes := #[ty] }) (A : Option Addr) (L C : Nat) (hx : a.eval x = .slice A L C) (w : World) :
    (execOp a.eval o).run Tryd.prog w = .ok (.value (.int .i64 (L : Nat))) w := by
  have hr : (Builtin.len_ #[ty] o.type #[.slice A L C]).run Tryd.prog w = .ok (.int .i64 (L : Nat)) w := by
    simp [Builtin.len_, run_underlying hu, go_sem, goInt]
  unfold execOp
  simp [ho, resolve, invoke, builtin, hx, hr]

theorem run_less {o : Oper} {a : Act} (x y : Operand) (ho : o.op = .binOp .lss 3 x y 3) (p q : Nat) (hx : a.eval x = .int .i64 (p : Nat)) (hy : a.eval y = .int .i64 (q : Nat)) (c : Bool) (h : decide (p < q) = c) (w : World) : (execOp a.eval o).run Tryd.prog w = .ok (.value (.bool c)) w := by
  subst h
  have e : decide ((p : Int) < (q : Int)) = decide (p < q) := by simp
  unfold execOp
  simp only [ho, hx, hy]
  go_simp

theorem run_load_row1 {o : Oper} {a : Act} (x : Operand) (ho : o.op = .load 33 x) (p : Addr) (hx : a.eval x = .pointer (some p)) (v : Value) (w : World) (h : w.cell? p = some v) : (execOp a.eval o).run Tryd.prog w = .ok (.value v) w := by
  unfold execOp
  simp only [ho, hx]
  go_simp

end Go.Proofs.YtoiaclmfljoomaaDoor

/- Contracts of sha's words' turns: right, the closures that turns and turnsAndShift make. -/
namespace Go.Proofs.YtoiaclmfljoomaaDoor
open Go.ChangeShapes Go.WideShapes Go.ChangeAt Go.RowKit

def rotr (n x : Nat) : Nat := (x * 2 ^ (32 - n)) % 4294967296 ||| (x / 2 ^ n)

theorem wrap_u32 (x : Nat) : IntKind.u32.wrap (x : Int) = ((x % 4294967296 : Nat) : Int) := by
  simp only [IntKind.wrap, IntKind.bits, IntKind.signed]
  simp
  try omega

theorem mask31 (n : Nat) (h1 : 1 ≤ n) (h2 : n ≤ 31) : bits .and .u64 (IntKind.u64.wrap (-(n : Int))) 31 = ((32 - n : Nat) : Int) := by
  have e : IntKind.u64.wrap (-(n : Int)) = ((18446744073709551616 - n : Nat) : Int) := by
    simp only [IntKind.wrap, IntKind.bits, IntKind.signed]
    simp
    omega
  rw [e]
  have := u64_and_nat (18446744073709551616 - n) 31 (by omega) (by omega)
  rw [show ((31 : Nat) : Int) = 31 from rfl] at this
  rw [this]
  congr 1
  rw [show (31 : Nat) = 2 ^ 5 - 1 from rfl, Nat.and_two_pow_sub_one_eq_mod]
  omega

theorem rotr_lt (n x : Nat) (h : x < 4294967296) : rotr n x < 4294967296 := by
  unfold rotr
  rw [show (4294967296 : Nat) = 2 ^ 32 from rfl] at *
  exact Nat.or_lt_two_pow (Nat.mod_lt _ (by decide)) (Nat.lt_of_le_of_lt (Nat.div_le_self _ _) h)

theorem right_any (x n : Nat) (w : World) (hx : x < 4294967296) (h1 : 1 ≤ n) (h2 : n ≤ 31) :
    Calls Tryd.prog 126 #[.int .u32 x, .int .i64 n] w fun e w' => e = .returned (.int .u32 (rotr n x : Nat)) ∧ w' = w := by
  have hm := mask31 n h1 h2
  obtain ⟨m, hmn⟩ : ∃ m, m = 32 - n := ⟨_, rfl⟩
  rw [← hmn] at hm
  have hm1 : m ≤ 31 := by omega
  have HD : Hid (m = 32 - n) := hmn
  clear hmn
  go_enter Tryd.func126, Tryd.ntmps126
  go_wp2
  go_ret
  refine ⟨?_, rfl⟩
  show Ending.returned (.int .u32 (bits .or .u32 ((x : Int) * 2 ^ m % 4294967296) ((x : Int) / 2 ^ (32 - m)))) = _
  have hmn := HD.out
  subst hmn
  have e1 : ((x : Int) * 2 ^ (32 - n) % 4294967296) = ((x * 2 ^ (32 - n) % 4294967296 : Nat) : Int) := by rw [Int.natCast_emod, Int.natCast_mul, Int.natCast_pow]; rfl
  have e2 : ((x : Int) / 2 ^ (32 - (32 - n))) = ((x / 2 ^ n : Nat) : Int) := by rw [show 32 - (32 - n) = n from by omega, Int.natCast_ediv, Int.natCast_pow]; rfl
  rw [e1, e2, u32_or_nat _ _ (Nat.mod_lt _ (by decide)) (Nat.lt_of_le_of_lt (Nat.div_le_self _ _) hx)]
  rfl

def turn3 (i j k x : Nat) : Nat := rotr i x ^^^ rotr j x ^^^ rotr k x
def turn2 (i j k x : Nat) : Nat := rotr i x ^^^ rotr j x ^^^ (x / 2 ^ k)

theorem xor_lt {a b : Nat} (ha : a < 4294967296) (hb : b < 4294967296) : a ^^^ b < 4294967296 := by
  rw [show (4294967296 : Nat) = 2 ^ 32 from rfl] at *
  exact Nat.xor_lt_two_pow ha hb

theorem turn3_lt {i j k x : Nat} (h : x < 4294967296) : turn3 i j k x < 4294967296 := xor_lt (xor_lt (rotr_lt _ _ h) (rotr_lt _ _ h)) (rotr_lt _ _ h)
theorem turn2_lt {i j k x : Nat} (h : x < 4294967296) : turn2 i j k x < 4294967296 := xor_lt (xor_lt (rotr_lt _ _ h) (rotr_lt _ _ h)) (Nat.lt_of_le_of_lt (Nat.div_le_self _ _) h)

theorem turns_any (x i j k a b c : Nat) (w : World) (hx : x < 4294967296) (hi : 1 ≤ i ∧ i ≤ 31) (hj : 1 ≤ j ∧ j ≤ 31) (hk : 1 ≤ k ∧ k ≤ 31)
    (ha : w.cell? ⟨a, 0, none⟩ = some (.int .i64 i)) (hb : w.cell? ⟨b, 0, none⟩ = some (.int .i64 j)) (hc : w.cell? ⟨c, 0, none⟩ = some (.int .i64 k)) :
    Calls Tryd.prog 125 #[.int .u32 x, .pointer (some ⟨a, 0, none⟩), .pointer (some ⟨b, 0, none⟩), .pointer (some ⟨c, 0, none⟩)] w fun e w' => e = .returned (.int .u32 (turn3 i j k x : Nat)) ∧ ∃ m, w' = w.drewN m := by
  have e1 := u32_xor_nat (rotr i x) (rotr j x) (rotr_lt _ _ hx) (rotr_lt _ _ hx)
  have e2 := u32_xor_nat (rotr i x ^^^ rotr j x) (rotr k x) (xor_lt (rotr_lt _ _ hx) (rotr_lt _ _ hx)) (rotr_lt _ _ hx)
  go_enter Tryd.func125, Tryd.ntmps125
  go_wp2_with fail
  go_quiet ((go_at_call 126; exact Calls.quiet_of_same (right_any _ _ _ hx (by omega) (by omega))))
  go_wp2
  go_ret
  exact ⟨rfl, nq, rfl⟩

theorem turnsShift_any (x i j k a b c : Nat) (w : World) (hx : x < 4294967296) (hi : 1 ≤ i ∧ i ≤ 31) (hj : 1 ≤ j ∧ j ≤ 31) (hk : 1 ≤ k ∧ k ≤ 31)
    (ha : w.cell? ⟨a, 0, none⟩ = some (.int .i64 i)) (hb : w.cell? ⟨b, 0, none⟩ = some (.int .i64 j)) (hc : w.cell? ⟨c, 0, none⟩ = some (.int .i64 k)) :
    Calls Tryd.prog 133 #[.int .u32 x, .pointer (some ⟨a, 0, none⟩), .pointer (some ⟨b, 0, none⟩), .pointer (some ⟨c, 0, none⟩)] w fun e w' => e = .returned (.int .u32 (turn2 i j k x : Nat)) ∧ ∃ m, w' = w.drewN m := by
  have e1 := u32_xor_nat (rotr i x) (rotr j x) (rotr_lt _ _ hx) (rotr_lt _ _ hx)
  have e2 := u32_xor_nat (rotr i x ^^^ rotr j x) (x / 2 ^ k) (xor_lt (rotr_lt _ _ hx) (rotr_lt _ _ hx)) (Nat.lt_of_le_of_lt (Nat.div_le_self _ _) hx)
  have e3 : (((x / 2 ^ k : Nat) : Int)) = (x : Int) / 2 ^ k := by rw [Int.natCast_ediv, Int.natCast_pow]; rfl
  rw [e3] at e2
  clear e3
  go_enter Tryd.func133, Tryd.ntmps133
  go_wp2_with fail
  go_quiet ((go_at_call 126; exact Calls.quiet_of_same (right_any _ _ _ hx (by omega) (by omega))))
  go_wp2
  go_ret
  exact ⟨rfl, nq, rfl⟩
end Go.Proofs.YtoiaclmfljoomaaDoor

/- Blocks of numbers that the call made, as functions of the place; and sha's digest over a state's eight words. -/
namespace Go.Proofs.YtoiaclmfljoomaaDoor
open Go.ChangeShapes Go.WideShapes Go.ChangeAt Go.RowKit



























theorem Tryd.size142 : (Tryd.prog.info? 142).map (·.size) = some 8 := by kernel_rfl
theorem Tryd.size108 : (Tryd.prog.info? 108).map (·.size) = some 32 := by kernel_rfl
theorem Tryd.size144 : (Tryd.prog.info? 144).map (·.size) = some 64 := by kernel_rfl

def dig (st : Nat → Nat) (i : Nat) : Nat := st (i / 4) / 2 ^ (24 - 8 * (i % 4)) % 256




set_option maxRecDepth 100000 in
theorem digest_any (st : Nat → Nat) (w : World) (hst : ∀ j, j < 8 → st j < 4294967296) :
    Calls Tryd.prog 113 #[.agg (cellsN .u32 8 st)] w fun e w' => e = .returned (.agg (cellsN .u8 32 (dig st))) ∧ Below w.heap.size w w' := by
  go_enter Tryd.func113, Tryd.ntmps113
  go_wp2
  go_loopw [5] (fun i wr => ∃ k : Nat, k ≤ 32 ∧ i = .int .i64 k ∧ Has wr w.heap.size 142 (cellsN .u32 8 st) ∧ Has wr (w.heap.size + 1) 108 (cellsN .u8 32 fun _ => 0) ∧ Has wr (w.heap.size + 1 + 1) 108 (cellsN .u8 32 (part (dig st) k)) ∧ Below w.heap.size w wr)
    (fun i _ => 32 - (intOf i).toNat)
  case atStart =>
    refine ⟨0, Nat.zero_le _, rfl, ?_, ?_, ?_, ?_⟩
    · exact ((Has.new w _ _).alloc _).alloc _
    · exact (Has.new_at (by simp)).alloc _
    · exact Has.new_at (by simp)
    · exact (((Below.refl _ _).alloc (Nat.le_refl _) _).alloc (by simp) _).alloc (by simp; omega) _
  case round =>
    obtain ⟨k, hk, rfl, hS, hR, hD, hbel⟩ := hrel
    by_cases hlt : k < 32
    · have hs := hS.num (k / 4) (by omega)
      have hv := hst (k / 4) (by omega)
      have hc := hD.num k hlt
      have hf := hD.free k
      go_wp2
      go_roundw
      case rel =>
        have e : ((st (k / 4) : Nat) : Int) / 2 ^ (24 - 8 * (k % 4)) % 256 = ((dig st k : Nat) : Int) := by unfold dig; rw [Int.natCast_emod, Int.natCast_ediv, Int.natCast_pow]; rfl
        rw [e]
        refine ⟨k + 1, by omega, by go_num, hS.other (by simp; omega) _, hR.other (by simp) _, ?_, hbel.setCell (by simp; omega) _⟩
        have := hD.set k (dig st k)
        rw [part_next] at this
        exact this
      case measure => simp [intOf]; omega
    · obtain rfl : k = 32 := by omega
      have hN := hR.setRow (cellsN .u8 32 (part (dig st) 32))
      go_wp2_with (first
        | (refine wpList_load_row rfl 108 _ rfl (w.heap.size + 1 + 1) rfl 108 _ (0, 0) _ hD Tryd.underlying108 rfl (by rw [cellsN_size]; exact Tryd.size108) ?_)
        | (refine wpList_store_row rfl 108 _ _ rfl (w.heap.size + 1) (cellsN .u8 32 (part (dig st) 32)) rfl rfl 108 _ hR (by rw [cellsN_size]; exact Tryd.size108) (by simp [cellsN_size]) (cellsN_one _ _ _) ?_))
      refine bodyPost_ret (results_cell_row rfl _ _ (w.heap.size + 1) 108 _ (0, 0) _ rfl hN Tryd.underlying108 rfl (by rw [cellsN_size]; exact Tryd.size108)) rfl ⟨?_, below_setRow hbel (by omega) _⟩
      rw [cellsN_congr .u8 32 (part (dig st) 32) (dig st) (fun j hj => by simp [part, hj])]
end Go.Proofs.YtoiaclmfljoomaaDoor

/- sha's schedule: a block's words, and those that follow from them. -/
namespace Go.Proofs.YtoiaclmfljoomaaDoor
open Go.ChangeShapes Go.WideShapes Go.ChangeAt Go.RowKit

def add32 (a b : Nat) : Nat := (a + b) % 4294967296

def ld (blk : Nat → Nat) : Nat → Nat → Nat
  | 0 => fun _ => 0
  | i + 1 => upd (ld blk i) (i / 4) (ld blk i (i / 4) * 256 % 4294967296 ||| blk i)

def wnext (f : Nat → Nat) (t : Nat) : Nat := add32 (add32 (add32 (turn2 17 19 10 (f (t - 2))) (f (t - 7))) (turn2 7 18 3 (f (t - 15)))) (f (t - 16))

def ext (f0 : Nat → Nat) : Nat → Nat → Nat
  | 0 => f0
  | t + 1 => upd (ext f0 t) (16 + t) (wnext (ext f0 t) (16 + t))

theorem ext_step (f0 : Nat → Nat) (k : Nat) (h : 16 ≤ k) : ext f0 (k + 1 - 16) = upd (ext f0 (k - 16)) k (wnext (ext f0 (k - 16)) k) := by
  rw [show k + 1 - 16 = (k - 16) + 1 from by omega]
  show upd _ (16 + (k - 16)) (wnext _ (16 + (k - 16))) = _
  rw [show 16 + (k - 16) = k from by omega]

def sched (blk : Nat → Nat) : Nat → Nat := ext (ld blk 64) 48

theorem add32_lt (a b : Nat) : add32 a b < 4294967296 := Nat.mod_lt _ (by decide)

theorem or_lt {a b : Nat} (ha : a < 4294967296) (hb : b < 4294967296) : a ||| b < 4294967296 := by
  rw [show (4294967296 : Nat) = 2 ^ 32 from rfl] at *
  exact Nat.or_lt_two_pow ha hb

theorem ld_lt (blk : Nat → Nat) (h : ∀ j, j < 64 → blk j < 256) : ∀ i, i ≤ 64 → ∀ j, ld blk i j < 4294967296 := by
  intro i
  induction i with
  | zero => intro _ j; simp [ld]
  | succ i ih =>
    intro hi j
    unfold ld upd
    have hb := h i (by omega)
    by_cases e : j = i / 4
    · simp only [e, if_pos]; exact or_lt (Nat.mod_lt _ (by decide)) (by omega)
    · simp only [e, if_false]; exact ih (by omega) j

theorem ext_lt (f : Nat → Nat) (h : ∀ j, f j < 4294967296) : ∀ t j, ext f t j < 4294967296 := by
  intro t
  induction t with
  | zero => exact h
  | succ t ih =>
    intro j
    unfold ext upd
    by_cases e : j = 16 + t
    · simp only [e, if_pos]; exact add32_lt _ _
    · simp only [e, if_false]; exact ih j

theorem add_u32 (a b : Nat) : ((a : Int) + (b : Int)) % 4294967296 = ((add32 a b : Nat) : Int) := by unfold add32; omega

theorem wrapadd_u32 (a b : Nat) : IntKind.u32.wrap ((a : Int) + (b : Int)) = ((add32 a b : Nat) : Int) := by
  rw [← add_u32]
  simp only [IntKind.wrap, IntKind.bits, IntKind.signed]
  simp

/-- Three captured numbers, each in a block of its own. -/
def Three (w : World) (g : Nat) (i j k : Nat) : Prop := Has w g 3 #[.int .i64 (i : Nat)] ∧ Has w (g + 1) 3 #[.int .i64 (j : Nat)] ∧ Has w (g + 1 + 1) 3 #[.int .i64 (k : Nat)]

theorem Three.other {w : World} {g i j k : Nat} (h : Three w g i j k) {p : Addr} (hp : g + 1 + 1 < p.block) (u : Value) : Three (w.setCell p u) g i j k :=
  ⟨h.1.other (by omega) _, h.2.1.other (by omega) _, h.2.2.other (by omega) _⟩

theorem Three.drewN {w : World} {g i j k : Nat} (h : Three w g i j k) (m : Nat) : Three (w.drewN m) g i j k := h

theorem Three.heap {w w' : World} {g i j k : Nat} (h : Three w g i j k) (hw : w'.heap = w.heap) : Three w' g i j k := by unfold Three Has at *; rw [hw]; exact h

theorem Three.alloc {w : World} {g i j k : Nat} (h : Three w g i j k) (o : Obj) : Three (w.alloc o) g i j k := ⟨h.1.alloc _, h.2.1.alloc _, h.2.2.alloc _⟩

theorem Three.new (w : World) (g i j k : Nat) (hg : g = w.heap.size) : Three (((w.alloc (.cells #[.int .i64 (i : Nat)] 3)).alloc (.cells #[.int .i64 (j : Nat)] 3)).alloc (.cells #[.int .i64 (k : Nat)] 3)) g i j k := by
  subst hg
  exact ⟨((Has.new_at rfl).alloc _).alloc _, (Has.new_at (by simp)).alloc _, Has.new_at (by simp)⟩

theorem Three.shift {w : World} {g i j k : Nat} (h : Three w g i j k) (x : Nat) (hx : x < 4294967296) (hi : 1 ≤ i ∧ i ≤ 31) (hj : 1 ≤ j ∧ j ≤ 31) (hk : 1 ≤ k ∧ k ≤ 31) :
    Calls Tryd.prog 133 #[.int .u32 x, .pointer (some ⟨g, 0, none⟩), .pointer (some ⟨g + 1, 0, none⟩), .pointer (some ⟨g + 1 + 1, 0, none⟩)] w fun e w' => e = .returned (.int .u32 (turn2 i j k x : Nat)) ∧ ∃ m, w' = w.drewN m :=
  turnsShift_any x i j k _ _ _ w hx hi hj hk (by rw [h.1.cell]; rfl) (by rw [h.2.1.cell]; rfl) (by rw [h.2.2.cell]; rfl)

theorem Three.turn {w : World} {g i j k : Nat} (h : Three w g i j k) (x : Nat) (hx : x < 4294967296) (hi : 1 ≤ i ∧ i ≤ 31) (hj : 1 ≤ j ∧ j ≤ 31) (hk : 1 ≤ k ∧ k ≤ 31) :
    Calls Tryd.prog 125 #[.int .u32 x, .pointer (some ⟨g, 0, none⟩), .pointer (some ⟨g + 1, 0, none⟩), .pointer (some ⟨g + 1 + 1, 0, none⟩)] w fun e w' => e = .returned (.int .u32 (turn3 i j k x : Nat)) ∧ ∃ m, w' = w.drewN m :=
  turns_any x i j k _ _ _ w hx hi hj hk (by rw [h.1.cell]; rfl) (by rw [h.2.1.cell]; rfl) (by rw [h.2.2.cell]; rfl)

theorem mkShift (i j k : Int) (w : World) : Calls Tryd.prog 127 #[.int .i64 i, .int .i64 j, .int .i64 k] w fun e w' =>
    e = .returned (.func (.func 133) #[] #[.pointer (some ⟨w.heap.size, 0, none⟩), .pointer (some ⟨w.heap.size + 1, 0, none⟩), .pointer (some ⟨w.heap.size + 1 + 1, 0, none⟩)]) ∧
      w' = ((w.alloc (.cells #[.int .i64 i] 3)).alloc (.cells #[.int .i64 j] 3)).alloc (.cells #[.int .i64 k] 3) := by
  go_enter Tryd.func127, Tryd.ntmps127
  go_wp2
  go_ret
  exact ⟨rfl, rfl⟩

theorem mkTurns (i j k : Int) (w : World) : Calls Tryd.prog 118 #[.int .i64 i, .int .i64 j, .int .i64 k] w fun e w' =>
    e = .returned (.func (.func 125) #[] #[.pointer (some ⟨w.heap.size, 0, none⟩), .pointer (some ⟨w.heap.size + 1, 0, none⟩), .pointer (some ⟨w.heap.size + 1 + 1, 0, none⟩)]) ∧
      w' = ((w.alloc (.cells #[.int .i64 i] 3)).alloc (.cells #[.int .i64 j] 3)).alloc (.cells #[.int .i64 k] 3) := by
  go_enter Tryd.func118, Tryd.ntmps118
  go_wp2
  go_ret
  exact ⟨rfl, rfl⟩

set_option maxRecDepth 100000 in
set_option maxHeartbeats 1600000 in
theorem schedule_any (blk : Nat → Nat) (b o : Nat) (w : World) (hb : b < w.heap.size) (hblk : ∀ j, j < 64 → blk j < 256)
    (hc : ∀ j, j < 64 → w.cell? ⟨b, o + j, none⟩ = some (.int .u8 (blk j : Nat))) :
    Calls Tryd.prog 119 #[.pointer (some ⟨b, o, none⟩)] w fun e w' => e = .returned (.agg (cellsN .u32 64 (sched blk))) ∧ Below w.heap.size w w' := by
  have hldlt := ld_lt blk hblk
  go_enter Tryd.func119, Tryd.ntmps119
  go_wp2_with (go_at_call 127; refine (mkShift _ _ _ _).mono ?_; rintro e w' ⟨rfl, rfl⟩)
  go_loopw [12] (fun i wr => ∃ k : Nat, k ≤ 64 ∧ i = .int .i64 k ∧ (Three wr (w.heap.size + 1) 7 18 3 ∧ Three wr (w.heap.size + 1 + 1 + 1 + 1) 17 19 10) ∧ Has wr w.heap.size 144 (cellsN .u32 64 fun _ => 0) ∧ Has wr (w.heap.size + 1 + 1 + 1 + 1 + 1 + 1 + 1) 144 (cellsN .u32 64 (ld blk k)) ∧ Below w.heap.size w wr)
    (fun i _ => 64 - (intOf i).toNat)
  case atStart =>
    refine ⟨0, Nat.zero_le _, rfl, ⟨((((Three.new _ _ 7 18 3 (by simp)).alloc _).alloc _).alloc _).alloc _, (Three.new _ _ 17 19 10 (by simp)).alloc _⟩, ?_, ?_, ?_⟩
    · exact (((((((Has.new_at (by simp)).alloc _).alloc _).alloc _).alloc _).alloc _).alloc _).alloc _
    · exact Has.new_at (by simp)
    · refine ((((((((Below.refl _ _).alloc (Nat.le_refl _) _).alloc ?_ _).alloc ?_ _).alloc ?_ _).alloc ?_ _).alloc ?_ _).alloc ?_ _).alloc ?_ _ <;> (simp; try omega)
  case round =>
    obtain ⟨k, hk, rfl, ⟨t1, t2⟩, hR, hW, hbel⟩ := hrel
    by_cases hlt : k < 64
    · have hcell : wr.cell? ⟨b, o + k, none⟩ = some (.int .u8 (blk k : Nat)) := (hbel.cell hb).trans (hc k hlt)
      have hk0 : (0 : Int) ≤ (k : Int) := Int.natCast_nonneg _
      have hk1 : (k : Int) < 64 := by omega
      have hbk := hblk k hlt
      have hwc := hW.num (k / 4) (by omega)
      have hwf := hW.free (k / 4)
      have hwl := hldlt k hk (k / 4)
      clear hldlt hc hblk
      go_wp2_with fail
      go_quiet (fail)
      go_wp2
      have e1 := u32_or_nat (ld blk k (k / 4) * 256 % 4294967296) (blk k) (Nat.mod_lt _ (by decide)) (by omega)
      rw [Int.natCast_emod, Int.natCast_mul] at e1
      go_roundw
      case rel =>
        refine ⟨k + 1, by omega, by go_num, ⟨(t1.drewN nq).other (by simp; try omega) _, (t2.drewN nq).other (by simp; try omega) _⟩, (hR.drewN nq).other (by simp; try omega) _, ?_, (below_drewN hbel nq).setCell (by simp; try omega) _⟩
        have := (hW.drewN nq).set (k / 4) (ld blk k (k / 4) * 256 % 4294967296 ||| blk k)
        rw [← e1] at this
        exact this
      case measure => simp [intOf]; omega
    · obtain rfl : k = 64 := by omega
      have hel : ∀ t j, ext (ld blk 64) t j < 4294967296 := ext_lt _ (hldlt 64 (Nat.le_refl _))
      clear hldlt hc hblk
      rw [show ((64 : Nat) : Int) = 64 from rfl]
      go_wp2
      go_loopw [8] (fun i wr => ∃ k : Nat, 16 ≤ k ∧ k ≤ 64 ∧ i = .int .i64 k ∧ (Three wr (w.heap.size + 1) 7 18 3 ∧ Three wr (w.heap.size + 1 + 1 + 1 + 1) 17 19 10) ∧ Has wr w.heap.size 144 (cellsN .u32 64 fun _ => 0) ∧ Has wr (w.heap.size + 1 + 1 + 1 + 1 + 1 + 1 + 1) 144 (cellsN .u32 64 (ext (ld blk 64) (k - 16))) ∧ Below w.heap.size w wr)
        (fun i _ => 64 - (intOf i).toNat)
      case atStart => exact ⟨16, Nat.le_refl _, by omega, rfl, ⟨t1, t2⟩, hR, hW, hbel⟩
      case round =>
        clear t1 t2 hR hW hbel
        obtain ⟨k, hk1, hk2, rfl, ⟨t1, t2⟩, hR, hW, hbel⟩ := hrel
        by_cases hlt : k < 64
        · have hx := hel (k - 16)
          clear hel
          obtain ⟨f, hf⟩ : ∃ f, f = ext (ld blk 64) (k - 16) := ⟨_, rfl⟩
          rw [← hf] at hW hx
          have HF : Hid (f = ext (ld blk 64) (k - 16)) := hf
          clear hf
          obtain ⟨a2, ha2⟩ : ∃ a, a = k - 2 := ⟨_, rfl⟩
          have q2 := hW.num a2 (by omega)
          have w2 : IntKind.i64.wrap ((k : Int) - 2) = (a2 : Int) := by rw [IntWalk.i64_in _ ⟨by omega, by omega⟩]; omega
          have l2 : (0 : Int) ≤ (a2 : Int) := by omega
          have g2 : (a2 : Int) < 64 := by omega
          have n2 : ¬ a2 = k := by omega
          have A2 : Hid (a2 = k - 2) := ha2
          clear ha2
          obtain ⟨a7, ha7⟩ : ∃ a, a = k - 7 := ⟨_, rfl⟩
          have q7 := hW.num a7 (by omega)
          have w7 : IntKind.i64.wrap ((k : Int) - 7) = (a7 : Int) := by rw [IntWalk.i64_in _ ⟨by omega, by omega⟩]; omega
          have l7 : (0 : Int) ≤ (a7 : Int) := by omega
          have g7 : (a7 : Int) < 64 := by omega
          have n7 : ¬ a7 = k := by omega
          have A7 : Hid (a7 = k - 7) := ha7
          clear ha7
          obtain ⟨a15, ha15⟩ : ∃ a, a = k - 15 := ⟨_, rfl⟩
          have q15 := hW.num a15 (by omega)
          have w15 : IntKind.i64.wrap ((k : Int) - 15) = (a15 : Int) := by rw [IntWalk.i64_in _ ⟨by omega, by omega⟩]; omega
          have l15 : (0 : Int) ≤ (a15 : Int) := by omega
          have g15 : (a15 : Int) < 64 := by omega
          have n15 : ¬ a15 = k := by omega
          have A15 : Hid (a15 = k - 15) := ha15
          clear ha15
          obtain ⟨a16, ha16⟩ : ∃ a, a = k - 16 := ⟨_, rfl⟩
          have q16 := hW.num a16 (by omega)
          have w16 : IntKind.i64.wrap ((k : Int) - 16) = (a16 : Int) := by rw [IntWalk.i64_in _ ⟨by omega, by omega⟩]; omega
          have l16 : (0 : Int) ≤ (a16 : Int) := by omega
          have g16 : (a16 : Int) < 64 := by omega
          have n16 : ¬ a16 = k := by omega
          have A16 : Hid (a16 = k - 16) := ha16
          clear ha16
          have hwc := hW.num k (by omega)
          have hwf := hW.free k
          have i1 : (k : Int) < 64 := by omega
          have i2 : (16 : Int) ≤ (k : Int) := by omega
          have s1 := fun (w1 : World) (h1 : w1.heap = wr.heap) => (t2.heap h1).shift (f a2) (hx _) ⟨by omega, by omega⟩ ⟨by omega, by omega⟩ ⟨by omega, by omega⟩
          have s2 := fun (w1 : World) (h1 : w1.heap = wr.heap) => (t1.heap h1).shift (f a15) (hx _) ⟨by omega, by omega⟩ ⟨by omega, by omega⟩ ⟨by omega, by omega⟩
          go_wp2_with fail
          go_region_held3 (fun w' => w'.cell? ⟨w.heap.size + 1 + 1 + 1 + 1 + 1 + 1 + 1, a2, none⟩ = some (.int .u32 (f a2 : Nat)) ∧ w'.cell? ⟨w.heap.size + 1 + 1 + 1 + 1 + 1 + 1 + 1, a7, none⟩ = some (.int .u32 (f a7 : Nat)) ∧ w'.cell? ⟨w.heap.size + 1 + 1 + 1 + 1 + 1 + 1 + 1, a15, none⟩ = some (.int .u32 (f a15 : Nat)) ∧ w'.cell? ⟨w.heap.size + 1 + 1 + 1 + 1 + 1 + 1 + 1, a16, none⟩ = some (.int .u32 (f a16 : Nat)))
            (first | go_keep | ((try dsimp only); refine And.intro ?_ (And.intro ?_ (And.intro ?_ ?_)) <;> (refine (World.cell?_setCell_other _ _ _ _ ?_).trans ?_ <;> first | exact q2 | exact q7 | exact q15 | exact q16 | (intro h; simp at h <;> omega))))
            (first | (go_at_call_of 133 (Value.int .u32 ((f a2 : Nat) : Int)); refine (s1 _ ?_).mono ?_; exact rfl; rintro e w' ⟨rfl, m1, rfl⟩) | (go_at_call_of 133 (Value.int .u32 ((f a15 : Nat) : Int)); refine (s2 _ ?_).mono ?_; exact rfl; rintro e w' ⟨rfl, m2, rfl⟩))
          go_wp2
          go_roundw
          case rel =>
            simp only [add_u32]
            refine ⟨k + 1, by omega, by omega, by go_num, ⟨(t1.drewN _).other (by simp; try omega) _, (t2.drewN _).other (by simp; try omega) _⟩, (hR.drewN _).other (by simp; try omega) _, ?_, (below_drewN hbel _).setCell (by simp; try omega) _⟩
            have := (hW.drewN (1 + m1 + m2)).set k (add32 (add32 (add32 (turn2 17 19 10 (f a2)) (f a7)) (turn2 7 18 3 (f a15))) (f a16))
            rw [ext_step _ _ hk1]
            have e := HF.out
            rw [← e]
            unfold wnext
            rw [← A2.out, ← A7.out, ← A15.out, ← A16.out]
            exact this
          case measure => simp [intOf]; omega
        · obtain rfl : k = 64 := by omega
          have hN := hR.setRow (cellsN .u32 64 (ext (ld blk 64) (64 - 16)))
          clear hel
          go_wp2_with (first
            | (refine wpList_load_row rfl 144 _ rfl (w.heap.size + 1 + 1 + 1 + 1 + 1 + 1 + 1) rfl 144 _ (0, 0) _ hW Tryd.underlying144 rfl (by rw [cellsN_size]; exact Tryd.size144) ?_)
            | (refine wpList_store_row rfl 144 _ _ rfl (w.heap.size) (cellsN .u32 64 (ext (ld blk 64) (64 - 16))) rfl rfl 144 _ hR (by rw [cellsN_size]; exact Tryd.size144) (by simp [cellsN_size]) (cellsN_one _ _ _) ?_))
          exact bodyPost_ret (results_cell_row rfl _ _ (w.heap.size) 144 _ (0, 0) _ rfl hN Tryd.underlying144 rfl (by rw [cellsN_size]; exact Tryd.size144)) rfl ⟨rfl, below_setRow hbel (by omega) _⟩
end Go.Proofs.YtoiaclmfljoomaaDoor

/- sha's next: the state behind one more block. -/
namespace Go.Proofs.YtoiaclmfljoomaaDoor
open Go.ChangeShapes Go.WideShapes Go.ChangeAt Go.RowKit

def ch (e f g : Nat) : Nat := (e &&& f) ^^^ ((4294967295 - e) &&& g)
def maj (a b c : Nat) : Nat := (a &&& b) ^^^ (a &&& c) ^^^ (b &&& c)

def rnd1 (K W s : Nat → Nat) (t : Nat) : Nat := add32 (add32 (add32 (add32 (s 7) (turn3 6 11 25 (s 4))) (ch (s 4) (s 5) (s 6))) (K t)) (W t)
def rnd2 (s : Nat → Nat) : Nat := add32 (turn3 2 13 22 (s 0)) (maj (s 0) (s 1) (s 2))

def rnd (K W s : Nat → Nat) (t i : Nat) : Nat := if i = 0 then add32 (rnd1 K W s t) (rnd2 s) else if i = 4 then add32 (s 3) (rnd1 K W s t) else s (i - 1)

theorem rnd_0 (K W s : Nat → Nat) (t : Nat) : rnd K W s t 0 = add32 (rnd1 K W s t) (rnd2 s) := if_pos rfl
theorem rnd_4 (K W s : Nat → Nat) (t : Nat) : rnd K W s t 4 = add32 (s 3) (rnd1 K W s t) := by unfold rnd; rw [if_neg (by decide), if_pos rfl]
theorem rnd_i (K W s : Nat → Nat) (t i : Nat) (h0 : ¬ i = 0) (h4 : ¬ i = 4) : rnd K W s t i = s (i - 1) := by unfold rnd; rw [if_neg h0, if_neg h4]

def rnds (K W s : Nat → Nat) : Nat → Nat → Nat
  | 0 => s
  | t + 1 => rnd K W (rnds K W s t) t

def nextSt (K st blk : Nat → Nat) : Nat → Nat := fun i => add32 (st i) (rnds K (sched blk) st 64 i)

theorem rnd_lt (K W s : Nat → Nat) (t : Nat) (h : ∀ i, i < 8 → s i < 4294967296) (i : Nat) (hi : i < 8) : rnd K W s t i < 4294967296 := by
  by_cases h0 : i = 0
  · subst h0; rw [rnd_0]; exact add32_lt _ _
  · by_cases h4 : i = 4
    · subst h4; rw [rnd_4]; exact add32_lt _ _
    · rw [rnd_i _ _ _ _ _ h0 h4]; exact h (i - 1) (by omega)

theorem rnds_lt (K W s : Nat → Nat) (h : ∀ i, i < 8 → s i < 4294967296) : ∀ t i, i < 8 → rnds K W s t i < 4294967296 := by
  intro t
  induction t with
  | zero => exact h
  | succ t ih => intro i hi; exact rnd_lt K W _ t ih i hi

theorem and_lt {a b : Nat} (ha : a < 4294967296) : a &&& b < 4294967296 := Nat.lt_of_le_of_lt Nat.and_le_left ha

theorem sched_lt (blk : Nat → Nat) (h : ∀ j, j < 64 → blk j < 256) (j : Nat) : sched blk j < 4294967296 := ext_lt _ (ld_lt blk h 64 (Nat.le_refl _)) 48 j

theorem ch_eq (e f g : Nat) (he : e < 4294967296) (hf : f < 4294967296) (hg : g < 4294967296) :
    bits .xor .u32 (bits .and .u32 (e : Int) (f : Int)) (bits .and .u32 (bits .xor .u32 (if IntKind.u32.signed = true then -1 else IntKind.u32.max) (e : Int)) (g : Int)) = ((ch e f g : Nat) : Int) := by
  have h0 : (if IntKind.u32.signed = true then -1 else IntKind.u32.max) = ((4294967295 : Nat) : Int) := by simp [IntKind.signed, IntKind.max, IntKind.bits]
  have h1 : 4294967295 ^^^ e = 4294967295 - e := by
    rw [show (4294967295 : Nat) = 2 ^ 32 - 1 from rfl]
    apply Nat.eq_of_testBit_eq
    intro i
    rw [Nat.testBit_xor, Nat.testBit_two_pow_sub_one, show 2 ^ 32 - 1 - e = 2 ^ 32 - (e + 1) from by omega, Nat.testBit_two_pow_sub_succ (by omega)]
    by_cases hi : i < 32
    · simp [hi]
    · simp [hi]
      exact Nat.testBit_lt_two_pow (Nat.lt_of_lt_of_le (show e < 2 ^ 32 from he) (Nat.pow_le_pow_right (by decide) (by omega)))
  rw [h0, u32_xor_nat _ _ (by decide) he, h1, u32_and_nat _ _ he hf, u32_and_nat _ _ (by omega) hg, u32_xor_nat _ _ (and_lt he) (and_lt (by omega))]
  rfl

theorem maj_eq (a b c : Nat) (ha : a < 4294967296) (hb : b < 4294967296) (hc : c < 4294967296) :
    bits .xor .u32 (bits .xor .u32 (bits .and .u32 (a : Int) (b : Int)) (bits .and .u32 (a : Int) (c : Int))) (bits .and .u32 (b : Int) (c : Int)) = ((maj a b c : Nat) : Int) := by
  rw [u32_and_nat _ _ ha hb, u32_and_nat _ _ ha hc, u32_and_nat _ _ hb hc, u32_xor_nat _ _ (and_lt ha) (and_lt ha), u32_xor_nat _ _ (xor_lt (and_lt ha) (and_lt ha)) (and_lt hb)]
  rfl

theorem sum5 (a b c d e : Nat) : ((a : Int) + (b : Int) + (c : Int) + (d : Int) + (e : Int)) % 4294967296 = ((add32 (add32 (add32 (add32 a b) c) d) e : Nat) : Int) := by
  unfold add32; omega

theorem rnds_succ (K W s : Nat → Nat) (t : Nat) : rnds K W s (t + 1) = rnd K W (rnds K W s t) t := rfl

theorem index_cells (s : Nat → Nat) (k : Nat) (w : World) (h : k < 8) : (Instr.index 142 (.agg (cellsN .u32 8 s)) (.int .i64 (k : Nat))).run Tryd.prog w = .ok (.int .u32 (s k : Nat)) w := by
  have hg := cellsN_get .u32 8 s k h
  simp [Instr.index, run_underlying Tryd.underlying142, asIntOf, go_sem, hg]
  omega

def upto (f g : Nat → Nat) (k : Nat) : Nat → Nat := fun j => if j < k then add32 (f j) (g j) else f j

theorem upto_zero (f g : Nat → Nat) : upto f g 0 = f := by funext j; simp [upto]
theorem upto_at (f g : Nat → Nat) (k : Nat) : upto f g k k = f k := by simp [upto]
theorem upto_next (f g : Nat → Nat) (k : Nat) : upd (upto f g k) k (add32 (f k) (g k)) = upto f g (k + 1) := by
  funext i
  unfold upd upto
  by_cases e : i = k
  · subst e; simp
  · have : (i < k + 1) = (i < k) := by simp; omega
    simp [e, this]

/-- The world in which next calls schedule. -/
def nw (st : Nat → Nat) (w : World) : World :=
  (((((((w.alloc (.cells (cellsN .u32 8 st) 142)).alloc (.cells #[.int .u32 0, .int .u32 0, .int .u32 0, .int .u32 0, .int .u32 0, .int .u32 0, .int .u32 0, .int .u32 0] 142)).alloc (.cells #[.int .i64 2] 3)).alloc (.cells #[.int .i64 13] 3)).alloc (.cells #[.int .i64 22] 3)).alloc (.cells #[.int .i64 6] 3)).alloc (.cells #[.int .i64 11] 3)).alloc (.cells #[.int .i64 25] 3)

theorem nw_below (st : Nat → Nat) (w : World) : Below w.heap.size w (nw st w) := by
  unfold nw
  refine ((((((((Below.refl _ _).alloc (Nat.le_refl _) _).alloc ?_ _).alloc ?_ _).alloc ?_ _).alloc ?_ _).alloc ?_ _).alloc ?_ _).alloc ?_ _ <;> (simp; try omega)

theorem nw_size (st : Nat → Nat) (w : World) : (nw st w).heap.size = w.heap.size + 1 + 1 + 1 + 1 + 1 + 1 + 1 + 1 := by unfold nw; simp

/-- What next has laid, in every later world. -/
def Laid (st : Nat → Nat) (w w1 : World) : Prop :=
  Has w1 w.heap.size 142 (cellsN .u32 8 st) ∧ Has w1 (w.heap.size + 1) 142 (cellsN .u32 8 fun _ => 0) ∧ Three w1 (w.heap.size + 1 + 1) 2 13 22 ∧ Three w1 (w.heap.size + 1 + 1 + 1 + 1 + 1) 6 11 25 ∧ w.heap.size + 1 + 1 + 1 + 1 + 1 + 1 + 1 + 1 ≤ w1.heap.size ∧ Below w.heap.size w w1

theorem Three.below {w w' : World} {B g i j k : Nat} (h : Three w g i j k) (hb : Below B w w') (hg : g + 1 + 1 < B) : Three w' g i j k :=
  ⟨h.1.below hb (by omega), h.2.1.below hb (by omega), h.2.2.below hb hg⟩

theorem nw_laid (st : Nat → Nat) (w w1 : World) (hb : Below (nw st w).heap.size (nw st w) w1) : Laid st w w1 := by
  have h2 : Three (nw st w) (w.heap.size + 1 + 1 + 1 + 1 + 1) 6 11 25 := by unfold nw; exact Three.new _ _ 6 11 25 (by simp)
  have h1 : Three (nw st w) (w.heap.size + 1 + 1) 2 13 22 := by unfold nw; exact (((Three.new _ _ 2 13 22 (by simp)).alloc _).alloc _).alloc _
  have hs : Has (nw st w) w.heap.size 142 (cellsN .u32 8 st) := by unfold nw; exact (((((((Has.new_at rfl).alloc _).alloc _).alloc _).alloc _).alloc _).alloc _).alloc _
  have hr : Has (nw st w) (w.heap.size + 1) 142 (cellsN .u32 8 fun _ => 0) := by unfold nw; exact ((((((Has.new_at (by simp)).alloc _).alloc _).alloc _).alloc _).alloc _).alloc _
  have hz := nw_size st w
  have hw := hb.size
  exact ⟨hs.below hb (by omega), hr.below hb (by omega), h1.below hb (by omega), h2.below hb (by omega), by omega, (nw_below st w).trans (hb.mono (by omega))⟩

theorem Laid.drewN {st : Nat → Nat} {w w1 : World} (h : Laid st w w1) (m : Nat) : Laid st w (w1.drewN m) := ⟨h.1, h.2.1, h.2.2.1, h.2.2.2.1, h.2.2.2.2.1, below_drewN h.2.2.2.2.2 m⟩

theorem Laid.row {st : Nat → Nat} {w w1 : World} (h : Laid st w w1) (o : Obj) (cs : Array Value) : Laid st w ((w1.alloc o).setRow w1.heap.size cs) := by
  obtain ⟨a, b, c, d, e, f⟩ := h
  refine ⟨(a.alloc _).setRow_other (by omega) _, (b.alloc _).setRow_other (by omega) _, ⟨(c.1.alloc _).setRow_other (by omega) _, (c.2.1.alloc _).setRow_other (by omega) _, (c.2.2.alloc _).setRow_other (by omega) _⟩, ⟨(d.1.alloc _).setRow_other (by omega) _, (d.2.1.alloc _).setRow_other (by omega) _, (d.2.2.alloc _).setRow_other (by omega) _⟩, ?_, below_setRow (f.alloc (by omega) _) (by omega) _⟩
  simp [World.setRow]
  omega

set_option maxRecDepth 100000 in
set_option maxHeartbeats 1600000 in
theorem next_any (K st blk : Nat → Nat) (b o : Nat) (w : World) (hb : b < w.heap.size) (hblk : ∀ j, j < 64 → blk j < 256) (hst : ∀ j, j < 8 → st j < 4294967296)
    (h1 : 1 < w.heap.size) (hKc : ∀ j, j < 64 → w.cell? ⟨1, j, none⟩ = some (.int .u32 (K j : Nat)))
    (hc : ∀ j, j < 64 → w.cell? ⟨b, o + j, none⟩ = some (.int .u8 (blk j : Nat))) :
    Calls Tryd.prog 111 #[.agg (cellsN .u32 8 st), .pointer (some ⟨b, o, none⟩)] w fun e w' => e = .returned (.agg (cellsN .u32 8 (nextSt K st blk))) ∧ Below w.heap.size w w' := by
  have hsch : Calls Tryd.prog 119 #[.pointer (some ⟨b, o, none⟩)] (nw st w) fun e w' => e = .returned (.agg (cellsN .u32 64 (sched blk))) ∧ Laid st w w' :=
    (schedule_any blk b o (nw st w) (Nat.lt_of_lt_of_le hb (nw_below st w).size) hblk (fun j hj => ((nw_below st w).cell hb).trans (hc j hj))).mono fun e w' h => ⟨h.1, nw_laid st w w' h.2⟩
  have hW := fun j => sched_lt blk hblk j
  clear hblk hc
  go_enter Tryd.func111, Tryd.ntmps111
  go_wp2_with (first
    | (go_at_call 118; refine (mkTurns _ _ _ _).mono ?_; rintro e w' ⟨rfl, rfl⟩)
    | (go_at_call 119; refine hsch.mono ?_; rintro e w1 ⟨rfl, hb1⟩; have hs0 : Has (w1.alloc (.cells (cellsN .u32 64 fun _ => 0) 144)) w1.heap.size 144 (cellsN .u32 64 fun _ => 0) := Has.new _ _ _)
    | (refine wpList_store_rowG rfl 144 _ _ rfl _ (cellsN .u32 64 (sched blk)) rfl rfl 144 _ hs0 (by rw [cellsN_size]; exact Tryd.size144) (by simp [cellsN_size]) (cellsN_one _ _ _) ?_; intro w2 hw2; have hL : Laid st w w2 := (by rw [hw2]; exact hb1.row _ _); have hWd : Has w2 w1.heap.size 144 (cellsN .u32 64 (sched blk)) := (by rw [hw2]; exact hs0.setRow _); have hM : w.heap.size + 1 + 1 + 1 + 1 + 1 + 1 + 1 + 1 ≤ w1.heap.size := hb1.2.2.2.2.1; clear hw2 hs0))
  clear hsch hb1
  have c0 := hL.1.num 0 (by omega)
  have c1 := hL.1.num 1 (by omega)
  have c2 := hL.1.num 2 (by omega)
  have c3 := hL.1.num 3 (by omega)
  have c4 := hL.1.num 4 (by omega)
  have c5 := hL.1.num 5 (by omega)
  have c6 := hL.1.num 6 (by omega)
  have c7 := hL.1.num 7 (by omega)
  go_quiet (fail)
  go_wp2
  have hLd := hL.drewN nq
  have hWq := hWd.drewN nq
  clear c0 c1 c2 c3 c4 c5 c6 c7 hL hWd
  go_loopw [8, 9, 10, 11, 12, 13, 14, 15, 41] (fun a b c d e f g h i wr => ∃ k : Nat, k ≤ 64 ∧ i = .int .i64 k ∧ a = .int .u32 (rnds K (sched blk) st k 0 : Nat) ∧ b = .int .u32 (rnds K (sched blk) st k 1 : Nat) ∧ c = .int .u32 (rnds K (sched blk) st k 2 : Nat) ∧ d = .int .u32 (rnds K (sched blk) st k 3 : Nat) ∧
      e = .int .u32 (rnds K (sched blk) st k 4 : Nat) ∧ f = .int .u32 (rnds K (sched blk) st k 5 : Nat) ∧ g = .int .u32 (rnds K (sched blk) st k 6 : Nat) ∧ h = .int .u32 (rnds K (sched blk) st k 7 : Nat) ∧ Laid st w wr ∧ Has wr w1.heap.size 144 (cellsN .u32 64 (sched blk)))
    (fun _ _ _ _ _ _ _ _ i _ => 64 - (intOf i).toNat)
  case atStart => exact ⟨0, Nat.zero_le _, rfl, rfl, rfl, rfl, rfl, rfl, rfl, rfl, rfl, hLd, hWq⟩
  case round =>
    clear hLd hWq
    obtain ⟨k, hk, rfl, rfl, rfl, rfl, rfl, rfl, rfl, rfl, rfl, hLd, hWq⟩ := hrel
    have hsl := rnds_lt K (sched blk) st hst k
    by_cases hlt : k < 64
    · obtain ⟨s, hs⟩ : ∃ s, s = rnds K (sched blk) st k := ⟨_, rfl⟩
      rw [← hs] at hsl ⊢
      have HS : Hid (s = rnds K (sched blk) st k) := hs
      clear hs
      have x0 := hsl 0 (by omega)
      have x1 := hsl 1 (by omega)
      have x2 := hsl 2 (by omega)
      have x3 := hsl 3 (by omega)
      have x4 := hsl 4 (by omega)
      have x5 := hsl 5 (by omega)
      have x6 := hsl 6 (by omega)
      have x7 := hsl 7 (by omega)
      have i1 : (k : Int) < 64 := by omega
      have i0 : (0 : Int) ≤ (k : Int) := by omega
      have kc : wr.cell? ⟨1, k, none⟩ = some (.int .u32 (K k : Nat)) := (hLd.2.2.2.2.2.cell h1).trans (hKc k hlt)
      have wc := hWq.num k hlt
      have s1 := fun m => (hLd.drewN m).2.2.2.1.turn (s 4) x4 ⟨by omega, by omega⟩ ⟨by omega, by omega⟩ ⟨by omega, by omega⟩
      have s0 := fun m => (hLd.drewN m).2.2.1.turn (s 0) x0 ⟨by omega, by omega⟩ ⟨by omega, by omega⟩ ⟨by omega, by omega⟩
      clear hsl hst hKc hW
      go_wp2_with fail
      go_quiet ((go_at_call 125; exact Calls.quiet_of (s1 _)))
      go_wp2_with (go_at_call 125; refine (s0 _).mono ?_; rintro e w' ⟨rfl, m2, rfl⟩)
      have e1 := ch_eq (s 4) (s 5) (s 6) x4 x5 x6
      have e2 := maj_eq (s 0) (s 1) (s 2) x0 x1 x2
      rw [e1, e2, sum5, add_u32, add_u32, add_u32]
      clear e1 e2
      go_roundw
      case rel =>
        rw [HS.out] at *
        refine ⟨k + 1, by omega, by go_num, ?_, ?_, ?_, ?_, ?_, ?_, ?_, ?_, hLd.drewN _, hWq.drewN _⟩
        · rw [rnds_succ, rnd_0]; rfl
        · rw [rnds_succ, rnd_i _ _ _ _ 1 (by decide) (by decide)]
        · rw [rnds_succ, rnd_i _ _ _ _ 2 (by decide) (by decide)]
        · rw [rnds_succ, rnd_i _ _ _ _ 3 (by decide) (by decide)]
        · rw [rnds_succ, rnd_4]; rfl
        · rw [rnds_succ, rnd_i _ _ _ _ 5 (by decide) (by decide)]
        · rw [rnds_succ, rnd_i _ _ _ _ 6 (by decide) (by decide)]
        · rw [rnds_succ, rnd_i _ _ _ _ 7 (by decide) (by decide)]
      case measure => simp [intOf]; omega
    · obtain rfl : k = 64 := by omega
      obtain ⟨s, hs⟩ : ∃ s, s = rnds K (sched blk) st 64 := ⟨_, rfl⟩
      rw [← hs] at hsl ⊢
      have HS : Hid (s = rnds K (sched blk) st 64) := hs
      clear hs hKc hW
      rw [show ((64 : Nat) : Int) = 64 from rfl]
      go_wp2
      rw [show (#[Value.int .u32 ((s 0 : Nat) : Int), .int .u32 ((s 1 : Nat) : Int), .int .u32 ((s 2 : Nat) : Int), .int .u32 ((s 3 : Nat) : Int), .int .u32 ((s 4 : Nat) : Int), .int .u32 ((s 5 : Nat) : Int), .int .u32 ((s 6 : Nat) : Int), .int .u32 ((s 7 : Nat) : Int)] : Array Value) = cellsN .u32 8 s from rfl]
      obtain ⟨hS, hR, _, _, _, hbel⟩ := hLd
      go_loopw [103] (fun i wr => ∃ k : Nat, k ≤ 8 ∧ i = .int .i64 k ∧ Has wr w.heap.size 142 (cellsN .u32 8 (upto st s k)) ∧ Has wr (w.heap.size + 1) 142 (cellsN .u32 8 fun _ => 0) ∧ Below w.heap.size w wr)
        (fun i _ => 8 - (intOf i).toNat)
      case atStart => exact ⟨0, Nat.zero_le _, rfl, by rw [upto_zero]; exact hS, hR, hbel⟩
      case round =>
        clear hS hR hbel hWq
        obtain ⟨k, hk, rfl, hS, hR, hbel⟩ := hrel
        by_cases hlt : k < 8
        · have hc := hS.num k hlt
          have hf := hS.free k
          have hg := cellsN_get .u32 8 s k hlt
          have hz := cellsN_size .u32 8 s
          have hsk := hsl k hlt
          have i1 : (k : Int) < 8 := by omega
          have i0 : (0 : Int) ≤ (k : Int) := by omega
          rw [upto_at] at hc
          have hix := index_cells s k wr hlt
          go_wp2
          rw [add_u32]
          go_roundw
          case rel =>
            refine ⟨k + 1, by omega, by go_num, ?_, hR.other (by simp) _, hbel.setCell (by simp) _⟩
            have := hS.set k (add32 (st k) (s k))
            rw [upto_next] at this
            exact this
          case measure => simp [intOf]; omega
        · obtain rfl : k = 8 := by omega
          have hN := hR.setRow (cellsN .u32 8 (upto st s 8))
          go_wp2_with (first
            | (refine wpList_load_row rfl 142 _ rfl (w.heap.size) rfl 142 _ (0, 0) _ hS Tryd.underlying142 rfl (by rw [cellsN_size]; exact Tryd.size142) ?_)
            | (refine wpList_store_row rfl 142 _ _ rfl (w.heap.size + 1) (cellsN .u32 8 (upto st s 8)) rfl rfl 142 _ hR (by rw [cellsN_size]; exact Tryd.size142) (by simp [cellsN_size]) (cellsN_one _ _ _) ?_))
          refine bodyPost_ret (results_cell_row rfl _ _ (w.heap.size + 1) 142 _ (0, 0) _ rfl hN Tryd.underlying142 rfl (by rw [cellsN_size]; exact Tryd.size142)) rfl ⟨?_, below_setRow hbel (by omega) _⟩
          rw [cellsN_congr .u32 8 (upto st s 8) (nextSt K st blk) (fun j hj => by simp only [upto, if_pos hj, nextSt]; rw [HS.out])]
end Go.Proofs.YtoiaclmfljoomaaDoor

/- sha's padding: what stands behind a message of so many bytes. -/
namespace Go.Proofs.YtoiaclmfljoomaaDoor
open Go.ChangeShapes Go.WideShapes Go.ChangeAt Go.RowKit

def plen (n : Nat) : Nat := 1 + (64 - (n + 9) % 64) % 64 + 8

/-- The byte at place j of the padding of n bytes. -/
def padB (n j : Nat) : Nat := if j = 0 then 128 else if j + 8 < plen n then 0 else n * 8 / 2 ^ (8 * (plen n - 1 - j)) % 256

/-- The row behind the first k of the number's bytes, the last one first. -/
def padK (L n k : Nat) : Nat → Nat := fun j => if j = 0 then 128 else if L ≤ j + k then n * 8 / 2 ^ (8 * (L - 1 - j)) % 256 else 0

theorem padK_next (L n k : Nat) (hL : 9 ≤ L) (hk : k < 8) : upd (padK L n k) (L - 1 - k) (n * 8 / 2 ^ (8 * k) % 256) = padK L n (k + 1) := by
  funext i
  unfold upd padK
  by_cases e : i = L - 1 - k
  · have h0 : ¬ i = 0 := by omega
    have h1 : L ≤ i + (k + 1) := by omega
    rw [if_pos e, if_neg h0, if_pos h1, show L - 1 - i = k from by omega]
  · rw [if_neg e]
    by_cases h0 : i = 0
    · rw [if_pos h0, if_pos h0]
    · rw [if_neg h0, if_neg h0]
      by_cases h1 : L ≤ i + k
      · rw [if_pos h1, if_pos (by omega)]
      · rw [if_neg h1, if_neg (by omega)]


theorem made_zero (s : Nat) : (madeCells (Value.int .u8 0).cells (s * 1)).toList = (cellsN .u8 s fun _ => 0).toList := by
  apply List.ext_getElem?
  intro i
  simp only [cellsN, madeCells, Value.cells, Array.toList_map, Array.toList_range, List.getElem?_map, Nat.mul_one]
  cases (List.range s)[i]? with
  | none => rfl
  | some x => simp [Nat.mod_one]

theorem own_has {w : World} {base e g n : Nat} {f : Nat → Nat} (h : w.ownsRow base e 1 (.slice (some ⟨g, 0, none⟩) n n) n (cellsN .u8 n f).toList) : Has w g e (cellsN .u8 n f) := by
  rcases h.2 with ⟨h0, _⟩ | ⟨g', cap, cur, hv, hb, hg, hn, hm, hs, ht⟩
  · simp at h0
  · simp only [Value.slice.injEq, Option.some.injEq, Addr.mk.injEq, true_and, and_true] at hv
    obtain ⟨rfl, rfl⟩ := hv
    have e : cur = cellsN .u8 n f := by
      apply Array.toList_inj.1
      rw [← ht, List.take_of_length_le (by simp [hs])]
    subst e
    exact hg

theorem plen_ge (n : Nat) : 9 ≤ plen n ∧ plen n ≤ 72 := by unfold plen; omega

theorem padding_any (n : Nat) (w : World) (hn : n < 1152921504606846976) :
    Calls Tryd.prog 112 #[.int .u64 n] w fun e w' => e = .returned (.slice (some ⟨w.heap.size, 0, none⟩) (plen n) (plen n)) ∧ Has w' w.heap.size 5 (cellsN .u8 (plen n) (padB n)) ∧ Below w.heap.size w w' := by
  obtain ⟨i0, hi, hz0, hz1, hz2⟩ := info_parts Tryd.info5
  have hp := plen_ge n
  obtain ⟨L, hL⟩ : ∃ L, L = plen n := ⟨_, rfl⟩
  have HL : Hid (L = plen n) := hL
  have hr : (1 : Int) + -(((n : Int) + 1 + 8) % 64) % 64 + 8 = (L : Int) := by rw [hL]; unfold plen; omega
  rw [← hL] at hp ⊢
  clear hL
  go_enter Tryd.func112, Tryd.ntmps112
  go_wp2_with (at_make; refine wpList_make_full _ rfl _ _ 33 rfl w.heap.size 5 i0 (.int .u8 0) 1 Tryd.underlying33 hi hz0 hz1 .u64 .u64 _ _ L rfl rfl rfl rfl (by rw [hz2]; omega) (by unfold maxLen; omega) (Nat.le_refl _) ?_; intro w1 hown hgr; rw [made_zero] at hown; have hH := own_has hown; have hb0 : Below w.heap.size w w1 := (Below.refl _ _).grown hgr (Nat.le_refl _) (by intro k h; cases h); clear hown hgr; have hc0 := hH.num 0 (by omega); have hf0 := hH.free 0)
  clear hi hz0 hz1 hz2 hc0 hf0
  go_loopw [20] (fun i wr => ∃ k : Nat, k ≤ 8 ∧ i = .int .i64 k ∧ Has wr w.heap.size 5 (cellsN .u8 L (padK L n k)) ∧ Below w.heap.size w wr)
    (fun i _ => 8 - (intOf i).toNat)
  case atStart =>
    refine ⟨0, Nat.zero_le _, rfl, ?_, hb0.setCell (by simp) _⟩
    have := hH.set 0 128
    rw [cellsN_congr .u8 L _ (padK L n 0) (fun j hj => by
      unfold upd padK
      by_cases h0 : j = 0
      · rw [if_pos h0, if_pos h0]
      · rw [if_neg h0, if_neg h0, if_neg (by omega)])] at this
    exact this
  case round =>
    clear hH hb0
    obtain ⟨k, hk, rfl, hH, hbel⟩ := hrel
    by_cases hlt : k < 8
    · obtain ⟨q, hq⟩ : ∃ q, q = L - 1 - k := ⟨_, rfl⟩
      have hc := hH.num q (by omega)
      have hf := hH.free q
      have hqi : (L : Int) - 1 - (k : Int) = (q : Int) := by omega
      have hn8 : IntKind.u64.wrap ((n : Int) * 8) = (n : Int) * 8 := IntWalk.u64_in _ ⟨by omega, by omega⟩
      have HQ : Hid (q = L - 1 - k) := hq
      clear hq
      go_wp2
      go_roundw
      case rel =>
        have e : (n : Int) * 8 / 2 ^ (8 * k) % 256 = ((n * 8 / 2 ^ (8 * k) % 256 : Nat) : Int) := by rw [Int.natCast_emod, Int.natCast_ediv, Int.natCast_pow, Int.natCast_mul]; rfl
        rw [e]
        refine ⟨k + 1, by omega, by go_num, ?_, hbel.setCell (by simp) _⟩
        have := hH.set q (n * 8 / 2 ^ (8 * k) % 256)
        rw [HQ.out, padK_next L n k hp.1 hlt, ← HQ.out] at this
        exact this
      case measure => simp [intOf]; omega
    · obtain rfl : k = 8 := by omega
      go_wp2
      go_ret
      refine ⟨rfl, ?_, hbel⟩
      rw [← cellsN_congr .u8 L (padK L n 8) (padB n) (fun j hj => by
        unfold padK padB
        rw [← HL.out]
        by_cases h0 : j = 0
        · rw [if_pos h0, if_pos h0]
        · rw [if_neg h0, if_neg h0]
          by_cases h1 : L ≤ j + 8
          · rw [if_pos h1, if_neg (by omega)]
          · rw [if_neg h1, if_pos (by omega)])]
      exact hH
end Go.Proofs.YtoiaclmfljoomaaDoor
