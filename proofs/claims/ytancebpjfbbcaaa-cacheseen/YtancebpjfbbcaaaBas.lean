/- Blocks of numbers, bytes and rows in memory, free of any package's own types. -/
import Derived.Test.YtancebpjfbbcaaaRows
import Derived.WalkKit
import Derived.ProofKit
import Derived.OpenShut
import Derived.Below
import Derived.WalkLawsBesides
import Derived.WalkSpells
import Derived.Laws.BitsAllLaws
import Derived.Deep.QuietTactic
import Derived.BigQuiet
import Derived.Deep.WholeRow
import Derived.Deep.MidRow
import Derived.Laws.AppendOwnNone
import Derived.OwnWalk
import Derived.DeepKeys
import Derived.Deep.AppendLies
import Derived.Laws.CopyOwn
namespace Go.Proofs.Ytancebpjfbbcaaa
open Go.ChangeShapes Go.WideShapes Go.ChangeAt Go.RowKit
set_option linter.unusedVariables false

def cellsN (k : IntKind) (n : Nat) (f : Nat → Nat) : Array Value := ((List.range n).map fun j => Value.int k (f j : Nat)).toArray

theorem cellsN_size (k : IntKind) (n : Nat) (f : Nat → Nat) : (cellsN k n f).size = n := by simp [cellsN]

theorem cellsN_get (k : IntKind) (n : Nat) (f : Nat → Nat) (j : Nat) (h : j < n) : (cellsN k n f)[j]? = some (.int k (f j : Nat)) := by
  simp [cellsN, h]

theorem cellsN_one (k : IntKind) (n : Nat) (f : Nat → Nat) : (cellsN k n f).all (·.oneCell') = true := by
  simp [cellsN, Value.oneCell']

def upd (f : Nat → Nat) (j v : Nat) : Nat → Nat := fun i => if i = j then v else f i

theorem cellsN_set (k : IntKind) (n : Nat) (f : Nat → Nat) (j v : Nat) : (cellsN k n f).setIfInBounds j (.int k (v : Nat)) = cellsN k n (upd f j v) := by
  apply Array.ext_getElem?
  intro i
  rw [Array.getElem?_setIfInBounds]
  simp only [cellsN_size]
  by_cases hi : i < n
  · rw [cellsN_get _ _ _ _ hi, cellsN_get _ _ _ _ hi]
    by_cases e : j = i
    · subst e; simp [upd, hi]
    · have : ¬ i = j := fun h => e h.symm
      simp [upd, e, this]
  · have e1 : (cellsN k n f)[i]? = none := by simp [cellsN]; omega
    have e2 : (cellsN k n (upd f j v))[i]? = none := by simp [cellsN]; omega
    rw [e1, e2]
    split
    · subst_vars; simp [hi]
    · rfl

theorem cellsN_congr (k : IntKind) (n : Nat) (f g : Nat → Nat) (h : ∀ j, j < n → f j = g j) : cellsN k n f = cellsN k n g := by
  unfold cellsN
  congr 1
  apply List.map_congr_left
  intro j hj
  rw [h j (by simpa using hj)]

/-- Block g holds the cells cs, none of them frozen. -/
def Has (w : World) (g t : Nat) (cs : Array Value) : Prop := w.heap[g]? = some (.cells cs t (0, 0))

theorem Has.lt {w : World} {g t : Nat} {cs : Array Value} (h : Has w g t cs) : g < w.heap.size := (Array.getElem?_eq_some_iff.1 h).1

theorem Has.cell {w : World} {g t : Nat} {cs : Array Value} (h : Has w g t cs) (j : Nat) : w.cell? ⟨g, j, none⟩ = cs[j]? := cell_of_row w g j cs t (0, 0) h

theorem Has.num {w : World} {g t n : Nat} {k : IntKind} {f : Nat → Nat} (h : Has w g t (cellsN k n f)) (j : Nat) (hj : j < n) : w.cell? ⟨g, j, none⟩ = some (.int k (f j : Nat)) := by
  rw [h.cell, cellsN_get _ _ _ _ hj]

theorem Has.free {w : World} {g t : Nat} {cs : Array Value} (h : Has w g t cs) (j : Nat) : w.frozen? ⟨g, j, none⟩ = false := by
  have h' : w.heap[g]? = some (.cells cs t (0, 0)) := h
  simp [World.frozen?, h']

theorem Has.below {w w' : World} {B g t : Nat} {cs : Array Value} (h : Has w g t cs) (hb : Below B w w') (hg : g < B) : Has w' g t cs := (hb.block g hg).trans h

theorem Has.drewN {w : World} {g t : Nat} {cs : Array Value} (h : Has w g t cs) (m : Nat) : Has (w.drewN m) g t cs := h

theorem Has.alloc {w : World} {g t : Nat} {cs : Array Value} (h : Has w g t cs) (o : Obj) : Has (w.alloc o) g t cs := (Below.heap_alloc w o g h.lt).trans h

theorem Has.new (w : World) (t : Nat) (cs : Array Value) : Has (w.alloc (.cells cs t)) w.heap.size t cs := heap_alloc_new w _

theorem Has.new_at {w : World} {g t : Nat} {cs : Array Value} (h : g = w.heap.size) : Has (w.alloc (.cells cs t)) g t cs := h ▸ heap_alloc_new w _

theorem Has.other {w : World} {g t : Nat} {cs : Array Value} (h : Has w g t cs) {p : Addr} (hp : g ≠ p.block) (u : Value) : Has (w.setCell p u) g t cs := (Below.heap_setCell w p u g hp).trans h

theorem Has.set {w : World} {g t n : Nat} {k : IntKind} {f : Nat → Nat} (h : Has w g t (cellsN k n f)) (j v : Nat) : Has (w.setCell ⟨g, j, none⟩ (.int k (v : Nat))) g t (cellsN k n (upd f j v)) := by
  have h' : w.heap[g]? = some (.cells (cellsN k n f) t (0, 0)) := h
  show (w.setCell ⟨g, j, none⟩ _).heap[g]? = _
  simp only [World.setCell, Array.getElem?_modify, h', if_pos, Option.map_some]
  rw [cellsN_set]
  rfl

theorem Has.setRow {w : World} {g t : Nat} {cs : Array Value} (h : Has w g t cs) (cs' : Array Value) : Has (w.setRow g cs') g t cs' := setRow_heap w g cs cs' t (0, 0) h

theorem below_setRow {B : Nat} {a w : World} (h : Below B a w) {g : Nat} (hg : B ≤ g) (cs : Array Value) : Below B a (w.setRow g cs) :=
  h.trans ⟨rfl, rfl, rfl, by simp [World.setRow], fun k hk => by simp only [World.setRow, Array.getElem?_modify]; rw [if_neg (by omega)]⟩

theorem Has.setRow_other {w : World} {g g' t : Nat} {cs : Array Value} (h : Has w g t cs) (hne : g ≠ g') (cs' : Array Value) : Has (w.setRow g' cs') g t cs := by
  show (w.setRow g' cs').heap[g]? = _
  simp only [World.setRow, Array.getElem?_modify]
  rw [if_neg (fun e => hne e.symm)]
  exact h

theorem Has.load {w : World} {g t n e : Nat} {cs : Array Value} (h : Has w g t cs) (ty : Nat) (hu : Try.prog.underlying ty = some (.array n e)) (hi : (Try.prog.info? ty).map (·.size) = some cs.size) :
    (Instr.loadAt ty (.pointer (some ⟨g, 0, none⟩))).run Try.prog w = .ok (.agg cs) w := by
  simp only [Instr.loadAt, Instr.sureAddr, Sem.run_bind, Sem.run_pure, Result.andThen]
  exact run_loadVar_row _ _ t ty cs (0, 0) _ h hu rfl hi

theorem Has.store {w : World} {g t : Nat} {cs cs' : Array Value} (h : Has w g t cs) (ty : Nat) (hi : (Try.prog.info? ty).map (·.size) = some cs'.size) (ho : cs.size = cs'.size) (h1 : cs'.all (·.oneCell') = true) :
    (Instr.storeAt ty (.pointer (some ⟨g, 0, none⟩)) (.agg cs')).run Try.prog w = .ok () (w.setRow g cs') := by
  simp only [Instr.storeAt, Instr.sureAddr, Sem.run_bind, Sem.run_pure, Result.andThen]
  exact run_storeVar_row w g t ty cs cs' h hi ho h1

theorem wpList_store_rowG {ops : Array Oper} {rest : List Oper} {o : Oper} {a : Act} {w : World} {Q : Exit → Act → World → Prop} (hgd : o.guard = none) (ty : TypeId) (x y : Operand) (ho : o.op = .store ty x y)
    (g : Nat) (cells : Array Value) (hx : a.eval x = .pointer (some ⟨g, 0, none⟩)) (hy : a.eval y = .agg cells)
    (t : TypeId) (old : Array Value) (hg : Has w g t old) (hi : (Try.prog.info? ty).map (·.size) = some cells.size)
    (hold : old.size = cells.size) (h1 : cells.all (·.oneCell') = true)
    (h : ∀ w2, w2 = w.setRow g cells → wpList Try.prog ops Q rest (a.put o.dst undef) w2) : wpList Try.prog ops Q (o :: rest) a w :=
  wpList_store_row hgd ty x y ho g cells hx hy t old hg hi hold h1 (h _ rfl)

theorem zeros (k : IntKind) (n : Nat) : cellsN k n (fun _ => 0) = (List.replicate n (Value.int k 0)).toArray := by
  unfold cellsN
  congr 1
  apply List.ext_getElem?
  intro i
  simp [List.getElem?_replicate]
  split <;> simp_all

def part (f : Nat → Nat) (k : Nat) : Nat → Nat := fun j => if j < k then f j else 0

theorem part_next (f : Nat → Nat) (k : Nat) : upd (part f k) k (f k) = part f (k + 1) := by
  funext i
  unfold upd part
  by_cases e : i = k
  · subst e; simp
  · have : (i < k + 1) = (i < k) := by simp; omega
    simp [e, this]

theorem Try.info5 : (Try.prog.info? 5).map (fun i => (i.zero, i.size, i.bytes)) = some (some (.int .u8 0), 1, 1) := by kernel_rfl

def Bytes (w : World) (a : Option Addr) (len : Nat) (m : Nat → Nat) : Prop := len = 0 ∨ ∃ b off, a = some ⟨b, off, none⟩ ∧ b < w.heap.size ∧ ∀ j, j < len → w.cell? ⟨b, off + j, none⟩ = some (.int .u8 (m j : Nat))

theorem Bytes.below {w w' : World} {a : Option Addr} {len B : Nat} {m : Nat → Nat} (h : Bytes w a len m) (hb : Below B w w') (hB : w.heap.size ≤ B) : Bytes w' a len m := by
  rcases h with h | ⟨b, off, h1, h2, h3⟩
  · exact .inl h
  · exact .inr ⟨b, off, h1, Nat.lt_of_lt_of_le h2 hb.size, fun j hj => (hb.cell (show b < B by omega)).trans (h3 j hj)⟩

def bl (f : Nat → Nat) (n : Nat) : List Value := (List.range n).map fun j => Value.int .u8 (f j : Nat)

/-- f's first n, and g behind them. -/
def cat (f : Nat → Nat) (n : Nat) (g : Nat → Nat) : Nat → Nat := fun j => if j < n then f j else g (j - n)

theorem bl_len (f : Nat → Nat) (n : Nat) : (bl f n).length = n * 1 := by simp [bl]

theorem bl_get (f : Nat → Nat) (n j : Nat) (h : j < n) : (bl f n)[j]? = some (.int .u8 (f j : Nat)) := by simp [bl, h]

theorem bl_one (f : Nat → Nat) (n : Nat) : ∀ u ∈ bl f n, u.oneCell' = true := by
  intro u hu
  obtain ⟨j, _, rfl⟩ := List.mem_map.1 hu
  rfl

theorem bl_cat (f g : Nat → Nat) (n l : Nat) : bl f n ++ bl g l = bl (cat f n g) (n + l) := by
  unfold bl
  rw [List.range_add, List.map_append, List.map_map]
  congr 1
  · apply List.map_congr_left
    intro j hj
    have : j < n := by simpa using hj
    simp only [cat, if_pos this]
  · apply List.map_congr_left
    intro j hj
    simp only [Function.comp, cat]
    rw [if_neg (by omega), show n + j - n = j from by omega]

theorem bl_cat_zero (f g : Nat → Nat) (n : Nat) : bl (cat f n g) (n + 0) = bl f n := by
  rw [← bl_cat f g n 0]
  simp [bl]

theorem cat_lt (f g : Nat → Nat) (n : Nat) (hf : ∀ j, f j < 256) (hg : ∀ j, g j < 256) (j : Nat) : cat f n g j < 256 := by
  unfold cat
  split
  · exact hf _
  · exact hg _

theorem grownBy_refl (w : World) (r : Option Nat) : w.grownBy w r := ⟨rfl, rfl, rfl, Nat.le_refl _, fun _ _ _ => rfl⟩

/-- One append of bytes, nil or not, to a row of the call's own. -/
theorem wpList_append_bytes {ops : Array Oper} {rest : List Oper} {o : Oper} {a : Act} {w : World} {Q : Exit → Act → World → Prop} (hgd : o.guard = none) (s x : Operand)
    (ho : o.op = .call { callee := .builtin .append, args := #[s, x], argTypes := #[39, 39] }) (base : Nat) (v : Value) (n : Nat) (f : Nat → Nat) (hs : a.eval s = v) (hown : w.ownsRow base 5 1 v n (bl f n))
    (A : Option Addr) (L C : Nat) (g : Nat → Nat) (hx : a.eval x = .slice A L C) (hnil : A = none → L = 0 ∧ C = 0) (hb : Bytes w A L g) (h63 : n + L ≤ 140737488355328) (hbase : base ≤ w.heap.size)
    (h : ∀ v' w', w'.ownsRow base 5 1 v' (n + L) (bl (cat f n g) (n + L)) → w.grownBy w' v.ownBlock → wpList Try.prog ops Q rest (a.put o.dst v') w') : wpList Try.prog ops Q (o :: rest) a w := by
  obtain ⟨i0, hi, hz0, hz1, hz2⟩ := info_parts Try.info5
  cases A with
  | none =>
    obtain ⟨rfl, rfl⟩ := hnil rfl
    refine wpList_append_own_none hgd s x 39 ho base 5 i0 1 Try.underlying39 hi v n _ hs hown hx ?_
    exact h v w (by rw [bl_cat_zero]; exact hown) (grownBy_refl _ _)
  | some ad =>
    refine wpList_append_own w hgd s x 39 ho base 5 i0 (.int .u8 0) 1 1 Try.underlying39 hi hz0 hz1 hz2 rfl (by decide) v n _ hs hown ad L C (bl g L) hx (bl_len g L) ?_ (bl_one g L) (by unfold maxLen; omega) (by omega) hbase ?_
    · intro j u hj
      by_cases hjl : j < L
      · rw [bl_get g L j hjl] at hj
        rcases hb with h0 | ⟨b, off, e, _, hc⟩
        · omega
        · obtain rfl : ad = ⟨b, off, none⟩ := Option.some.inj e
          have e1 : (⟨b, off, none⟩ : Addr).add j = ⟨b, off + j, none⟩ := by unfold Addr.add; split <;> simp_all
          rw [e1, hc j hjl]
          exact hj
      · rw [List.getElem?_eq_none (by rw [bl_len]; omega)] at hj
        simp at hj
    · intro v' w' h1 h2 _
      rw [bl_cat] at h1
      exact h v' w' h1 h2

/-- What is owned, as bytes of a slice. -/
theorem own_bytes {w : World} {base n : Nat} {v : Value} {f : Nat → Nat} (h : w.ownsRow base 5 1 v n (bl f n)) : ∃ a cap, v = .slice a n cap ∧ n ≤ cap ∧ (a = none → n = 0 ∧ cap = 0) ∧ Bytes w a n f ∧ ∀ b off, a = some ⟨b, off, none⟩ → base ≤ b ∧ b < w.heap.size := by
  rcases h.2 with ⟨rfl, rfl⟩ | ⟨g, cap, cur, rfl, hb, hg, hn, hm, hs, ht⟩
  · exact ⟨none, 0, rfl, Nat.le_refl _, fun _ => ⟨rfl, rfl⟩, .inl rfl, fun b off e => by cases e⟩
  · have hlt : g < w.heap.size := (Array.getElem?_eq_some_iff.1 hg).1
    refine ⟨some ⟨g, 0, none⟩, cap, rfl, hn, (fun e => by cases e), .inr ⟨g, 0, rfl, hlt, ?_⟩, ?_⟩
    · intro j hj
      rw [cell_of_row w g (0 + j) cur 5 (0, 0) hg, Nat.zero_add]
      have := bl_get f n j hj
      rw [← ht, List.getElem?_take_of_lt (by omega), Array.getElem?_toList] at this
      exact this
    · intro b off e
      simp only [Option.some.injEq, Addr.mk.injEq, and_true] at e
      omega

theorem own_below {w w' : World} {base B n : Nat} {v : Value} {xs : List Value} (h : w.ownsRow base 5 1 v n xs) (hb : Below B w w') (hB : ∀ g, v.ownBlock = some g → g < B) : w'.ownsRow base 5 1 v n xs := by
  refine ⟨h.1, ?_⟩
  rcases h.2 with h0 | ⟨g, cap, cur, hv, h1, hg, r⟩
  · exact .inl h0
  · exact .inr ⟨g, cap, cur, hv, h1, (hb.block g (hB g (by rw [hv]; rfl))).trans hg, r⟩

theorem cat_zero (f g : Nat → Nat) : cat f 0 g = g := by funext j; simp [cat]

theorem bl_set (f : Nat → Nat) (n q v : Nat) : (bl f n).set q (.int .u8 (v : Nat)) = bl (upd f q v) n := by
  apply List.ext_getElem?
  intro i
  rw [List.getElem?_set]
  by_cases hi : i < n
  · rw [bl_get _ _ _ hi, bl_get _ _ _ hi, show (bl f n).length = n from by simp [bl]]
    by_cases e : q = i
    · subst e; simp [upd, hi]
    · have : ¬ i = q := fun h => e h.symm
      simp [upd, e, this]
  · rw [List.getElem?_eq_none (by simp [bl]; omega), List.getElem?_eq_none (by simp [bl]; omega), show (bl f n).length = n from by simp [bl]]
    split
    · subst_vars; simp [hi]
    · rfl

theorem Bytes.congr {w : World} {a : Option Addr} {len : Nat} {m m' : Nat → Nat} (h : Bytes w a len m) (hm : ∀ j, j < len → m' j = m j) : Bytes w a len m' := by
  rcases h with h | ⟨b, off, h1, h2, h3⟩
  · exact .inl h
  · exact .inr ⟨b, off, h1, h2, fun j hj => by rw [hm j hj]; exact h3 j hj⟩

theorem cat_cat (f g : Nat → Nat) (n : Nat) : cat (cat f n g) n g = cat f n g := by
  funext j
  unfold cat
  by_cases h : j < n
  · rw [if_pos h, if_pos h]
  · rw [if_neg h, if_neg h]

theorem Has.bytes {w : World} {g t n : Nat} {f : Nat → Nat} (h : Has w g t (cellsN .u8 n f)) : Bytes w (some ⟨g, 0, none⟩) n f :=
  .inr ⟨g, 0, rfl, h.lt, fun j hj => by rw [Nat.zero_add]; exact h.num j hj⟩

theorem Bytes.setRow {w : World} {a : Option Addr} {len : Nat} {m : Nat → Nat} (h : Bytes w a len m) (g : Nat) (cs : Array Value) (hne : ∀ b o, a = some ⟨b, o, none⟩ → b ≠ g) : Bytes (w.setRow g cs) a len m := by
  rcases h with h | ⟨b, o, rfl, hlt, hc⟩
  · exact .inl h
  · have hb := setRow_other w g b cs (hne b o rfl)
    have hlt' : b < (w.setRow g cs).heap.size := (Array.getElem?_eq_some_iff.1 (hb.trans (Array.getElem?_eq_getElem hlt))).1
    exact .inr ⟨b, o, rfl, hlt', fun j hj => by rw [← hc j hj]; simp only [World.cell?, hb]⟩

/-- A slice of bytes within one. -/
theorem Bytes.part {w : World} {b o len : Nat} {m : Nat → Nat} (h : Bytes w (some ⟨b, o, none⟩) len m) (s k : Nat) (hk : s + k ≤ len) : Bytes w (some ⟨b, o + s, none⟩) k (fun j => m (s + j)) := by
  rcases h with h | ⟨b', o', e, hlt, hc⟩
  · exact .inl (by omega)
  · cases e
    exact .inr ⟨b, o + s, rfl, hlt, fun j hj => by rw [Nat.add_assoc]; exact hc _ (by omega)⟩

theorem Bytes.grownTo {w w' : World} {a : Option Addr} {len : Nat} {m : Nat → Nat} {r : Option Nat} (h : Bytes w a len m) (hg : w.grownBy w' r) (hne : ∀ b off, a = some ⟨b, off, none⟩ → r ≠ some b) : Bytes w' a len m := by
  rcases h with h | ⟨b, o, rfl, hlt, hc⟩
  · exact .inl h
  · have hb := hg.block b hlt (fun e => hne b o rfl e.symm)
    exact .inr ⟨b, o, rfl, Nat.lt_of_lt_of_le hlt hg.size, fun j hj => by rw [← hc j hj]; simp only [World.cell?, hb]⟩

theorem wpList_is {ops : Array Oper} {rest : List Oper} {o : Oper} {a : Act} {w : World} {Q : Exit → Act → World → Prop} (d : Option Tmp) (v : Value) (hd : o.dst = d) (hw : Region.wanted o (yielded ops a.tmps) = true)
    (hrun : (execOp a.eval o).run Try.prog w = .ok (.value v) w) (h : wpList Try.prog ops Q rest (a.put d v) w) : wpList Try.prog ops Q (o :: rest) a w :=
  wpList_step fun K hK => by
    subst hd
    rw [if_pos hw]
    unfold Oper.wp
    rw [hrun]
    exact hK _ _ h

theorem wpList_is_w {ops : Array Oper} {rest : List Oper} {o : Oper} {a : Act} {w : World} {Q : Exit → Act → World → Prop} (d : Option Tmp) (v : Value) (w' : World) (hd : o.dst = d) (hw : Region.wanted o (yielded ops a.tmps) = true)
    (hrun : (execOp a.eval o).run Try.prog w = .ok (.value v) w') (h : wpList Try.prog ops Q rest (a.put d v) w') : wpList Try.prog ops Q (o :: rest) a w :=
  wpList_step fun K hK => by
    subst hd
    rw [if_pos hw]
    unfold Oper.wp
    rw [hrun]
    exact hK _ _ h

theorem bl_zeros (n : Nat) : (madeCells (Value.int .u8 0).cells (n * 1)).toList = bl (fun _ => 0) n := by
  unfold bl madeCells
  apply List.ext_getElem?
  intro i
  by_cases h : i < n
  · simp [h, Value.cells, Nat.mod_one]
  · simp [h, Value.cells]

theorem own_has6 {w : World} {base n g : Nat} {f : Nat → Nat} (h : w.ownsRow base 5 1 (.slice (some ⟨g, 0, none⟩) n n) n (bl f n)) : Has w g 5 (cellsN .u8 n f) := by
  rcases h.2 with ⟨e, _⟩ | ⟨g', cap, cur, e, hb, hg, hn, hm, hs, ht⟩
  · cases e
  · injection e with e1 _ e3
    injection e1 with e1
    injection e1 with e1
    subst e1 e3
    have hc : cur = cellsN .u8 n f := by
      apply Array.toList_inj.1
      rw [← List.take_of_length_le (l := cur.toList) (i := n * 1) (by rw [Array.length_toList, hs]; exact Nat.le_refl _), ht]
      unfold bl cellsN
      rfl
    show w.heap[g]? = _
    rw [hg, hc]

theorem make_has (n : Nat) (hn : n ≤ 10000000) (w : World) : ∃ w', Has w' w.heap.size 5 (cellsN .u8 n fun _ => 0) ∧ Below w.heap.size w w' ∧
    ∀ (o : Oper) (a : Act) (l c : Operand), o.op = .makeSlice 39 l c → a.eval l = .int .i64 (n : Nat) → a.eval c = .int .i64 (n : Nat) → (execOp a.eval o).run Try.prog w = .ok (.value (.slice (some ⟨w.heap.size, 0, none⟩) n n)) w' := by
  obtain ⟨i0, hi, hz0, hz1, hz2⟩ := info_parts Try.info5
  obtain ⟨w', hrun, r1, r2⟩ := run_make_full (P := Try.prog) w w.heap.size 39 5 i0 (.int .u8 0) 1 Try.underlying39 hi hz0 hz1 .i64 .i64 n (by rw [hz2]; omega) (by unfold maxLen; omega) (Nat.le_refl _)
  rw [bl_zeros] at r1
  refine ⟨w', own_has6 r1, (Below.refl _ _).grown r2 (Nat.le_refl _) (by intro k h; cases h), ?_⟩
  intro o a l c ho hl hc
  unfold execOp
  simp [ho, hl, hc, hrun, Result.andThen]

theorem Bytes.src {w : World} {a : Option Addr} {n : Nat} {f : Nat → Nat} (hb : Bytes w a n f) (c : Nat) (hc : c ≤ n) : 0 < ((List.range c).map fun j => Value.int .u8 (f j : Nat)).length → ∃ ad, a = some ad ∧ ∀ j v, ((List.range c).map fun j => Value.int .u8 (f j : Nat))[j]? = some v → w.cell? (ad.add j) = some v := by
  intro h0
  simp only [List.length_map, List.length_range] at h0
  rcases hb with h | ⟨b, off, rfl, h2, h3⟩
  · omega
  · refine ⟨_, rfl, fun j v hv => ?_⟩
    rw [Addr.add_mid]
    have hj : j < c := by have := (List.getElem?_eq_some_iff.1 hv).1; simpa using this
    rw [h3 j (by omega), ← hv]
    simp [hj]

theorem ints_one (f : Nat → Nat) (n : Nat) : ∀ v ∈ (List.range n).map fun j => Value.int .u8 (f j : Nat), v.oneCell' = true := by
  intro v hv
  obtain ⟨j, _, rfl⟩ := List.mem_map.1 hv
  rfl

/-- Bytes laid over the beginning of a row of noughts. -/
theorem spliced6 (f : Nat → Nat) (n M : Nat) (hn : n ≤ M) : splice (cellsN .u8 M fun _ => 0).toList 0 ((List.range n).map fun j => Value.int .u8 (f j : Nat)) = (cellsN .u8 M fun j => if j < n then f j else 0).toList := by
  apply List.ext_getElem?
  intro i
  unfold splice
  rw [List.take_zero, List.nil_append]
  by_cases h1 : i < n
  · have e := cellsN_get .u8 M (fun j => if j < n then f j else 0) i (by omega)
    rw [← Array.getElem?_toList, if_pos h1] at e
    rw [List.getElem?_append_left (by simpa using h1), e]
    simp [h1]
  · rw [List.getElem?_append_right (by simp; omega), List.getElem?_drop]
    simp only [List.length_map, List.length_range]
    rw [show 0 + n + (i - n) = i from by omega]
    by_cases h2 : i < M
    · rw [Array.getElem?_toList, Array.getElem?_toList, cellsN_get _ _ _ _ h2, cellsN_get _ _ _ _ h2, if_neg h1]
    · rw [List.getElem?_eq_none (by simp [cellsN]; omega), List.getElem?_eq_none (by simp [cellsN]; omega)]

def pickF (d : Nat → Nat) (L : Nat) : Nat → Nat := fun j => if j < L then d j else 0

theorem pickF_lt (d : Nat → Nat) (L : Nat) (hd : ∀ j, d j < 256) (j : Nat) : pickF d L j < 256 := by
  unfold pickF
  split
  · exact hd j
  · decide

/-- What picked lays, of M bytes. -/
theorem pick_words (d : Nat → Nat) (L M c : Nat) (a : Option Addr) (w : World) (hb : Bytes w a L d) (hM : M ≤ 100000) : ∃ (w1 : World) (cs : List Value), Has w1 w.heap.size 5 (cellsN .u8 M fun _ => 0) ∧ Below w.heap.size w w1 ∧
    (∀ (o : Oper) (a : Act) (l c : Operand), o.op = .makeSlice 39 l c → a.eval l = .int .i64 (M : Nat) → a.eval c = .int .i64 (M : Nat) → (execOp a.eval o).run Try.prog w = .ok (.value (.slice (some ⟨w.heap.size, 0, none⟩) M M)) w1) ∧
    cs.length = Nat.min L M ∧ (0 < cs.length → some (⟨w.heap.size, 0, none⟩ : Addr) = some ⟨w.heap.size, 0, none⟩ ∧ ∃ ad, a = some ad ∧ ∀ j v, cs[j]? = some v → w1.cell? (ad.add j) = some v) ∧ 0 + cs.length ≤ (cellsN .u8 M fun _ => 0).toList.length ∧
    (∀ v ∈ cs, v.oneCell' = true) ∧ (splice (cellsN .u8 M fun _ => 0).toList 0 cs).toArray = cellsN .u8 M (pickF d L) := by
  obtain ⟨w1, hH1, hb1, hmk⟩ := make_has M (by omega) w
  obtain ⟨cc, hcc⟩ : ∃ cc, cc = Nat.min L M := ⟨_, rfl⟩
  have hccb : cc ≤ L ∧ cc ≤ M := by rw [hcc]; exact ⟨Nat.min_le_left _ _, Nat.min_le_right _ _⟩
  have hby := hb.below hb1 (Nat.le_refl _)
  have HP : cellsN .u8 M (fun j => if j < cc then d j else 0) = cellsN .u8 M (pickF d L) := by
    apply cellsN_congr
    intro j hj
    unfold pickF
    by_cases h : j < L
    · rw [if_pos h, if_pos (by rw [hcc]; exact Nat.lt_min.2 ⟨h, hj⟩)]
    · rw [if_neg h, if_neg (by omega)]
  refine ⟨w1, (List.range cc).map fun j => Value.int .u8 (d j : Nat), hH1, hb1, hmk, by rw [hcc]; simp, fun h0 => ⟨rfl, hby.src cc hccb.1 h0⟩, by simp [cellsN]; omega, ints_one d cc, ?_⟩
  rw [spliced6 d cc M hccb.2, ← HP]

theorem wpList_make6 {ops : Array Oper} {rest : List Oper} {o : Oper} {a : Act} {w w' : World} {Q : Exit → Act → World → Prop} (hgd : o.guard = none) (v : Value) (hr : (execOp a.eval o).run Try.prog w = .ok (.value v) w') (h : wpList Try.prog ops Q rest (a.put o.dst v) w') : wpList Try.prog ops Q (o :: rest) a w :=
  wpList_plain hgd fun K hK => by
    unfold Oper.wp
    rw [hr]
    exact hK _ _ h

/-- The bytes f laid over F from place o on. -/
def over (F : Nat → Nat) (o n : Nat) (f : Nat → Nat) : Nat → Nat := fun j => if o ≤ j ∧ j < o + n then f (j - o) else F j

theorem over_splice (F f : Nat → Nat) (M o n : Nat) (h : o + n ≤ M) : ((cellsN .u8 M F).toList.take o ++ (bl f n ++ (cellsN .u8 M F).toList.drop (o + (bl f n).length))).toArray = cellsN .u8 M (over F o n f) := by
  have hl : (bl f n).length = n := by simp [bl]
  rw [hl]
  apply Array.ext_getElem?
  intro i
  rw [List.getElem?_toArray]
  have hs : (cellsN .u8 M F).toList.length = M := by rw [Array.length_toList, cellsN_size]
  by_cases h1 : i < o
  · rw [List.getElem?_append_left (by simp [hs]; omega), List.getElem?_take, if_pos h1, Array.getElem?_toList, cellsN_get _ _ _ _ (by omega), cellsN_get _ _ _ _ (by omega)]
    unfold over
    rw [if_neg (by omega)]
  · rw [List.getElem?_append_right (by simp [hs]; omega)]
    have ht : ((cellsN .u8 M F).toList.take o).length = o := by rw [List.length_take, hs]; omega
    rw [ht]
    by_cases h2 : i < o + n
    · rw [List.getElem?_append_left (by rw [hl]; omega), bl_get _ _ _ (by omega), cellsN_get _ _ _ _ (by omega)]
      unfold over
      rw [if_pos (by omega)]
    · rw [List.getElem?_append_right (by rw [hl]; omega), hl, List.getElem?_drop, Array.getElem?_toList, show o + n + (i - o - n) = i by omega]
      by_cases h3 : i < M
      · rw [cellsN_get _ _ _ _ h3, cellsN_get _ _ _ _ h3]
        unfold over
        rw [if_neg (by omega)]
      · rw [Array.getElem?_eq_none (by rw [cellsN_size]; omega), Array.getElem?_eq_none (by rw [cellsN_size]; omega)]

theorem grown_trans {a b c : World} {r : Option Nat} (h : a.grownBy b r) (k : b.grownBy c r) : a.grownBy c r := ⟨k.os.trans h.os, k.tape.trans h.tape, k.output.trans h.output, Nat.le_trans h.size k.size, fun i hi hne => (k.block i (Nat.lt_of_lt_of_le hi h.size) hne).trans (h.block i hi hne)⟩

theorem grown_below {a b : World} {r : Option Nat} (h : Below a.heap.size a b) : a.grownBy b r := ⟨h.os, h.tape, h.output, h.size, fun i hi _ => h.block i hi⟩

theorem grown_row (W : World) (b : Nat) (cs : Array Value) : W.grownBy (W.setRow b cs) (some b) :=
  ⟨rfl, rfl, rfl, by simp [World.setRow], fun k hk hne => by simp only [World.setRow, Array.getElem?_modify]; rw [if_neg (fun e => hne (by rw [← e]))]⟩

theorem run_slice_from {o : Oper} {a : Act} (x l : Operand) (ho : o.op = .slice 39 x (some l) none none) (b off L cap q : Nat) (hx : a.eval x = .slice (some ⟨b, off, none⟩) L cap) (hl : a.eval l = .int .i64 (q : Nat)) (h1 : q ≤ L) (w : World) :
    (execOp a.eval o).run Try.prog w = .ok (.value (.slice (some (if cap = q then ⟨b, off, none⟩ else ⟨b, off + q, none⟩)) (L - q) (cap - q))) w := by
  unfold execOp
  simp only [ho, hx, hl, Option.map_some, Option.map_none]
  simp [Instr.sliceAt, Instr.slice, Instr.sliceBounds, Instr.sliceBound, run_underlying Try.underlying39, go_sem, asIntOf, h1]
  split <;> rfl

theorem run_slice_to {o : Oper} {a : Act} (x l : Operand) (ho : o.op = .slice 39 x none (some l) none) (b off L cap q : Nat) (hx : a.eval x = .slice (some ⟨b, off, none⟩) L cap) (hl : a.eval l = .int .i64 (q : Nat)) (h1 : q ≤ cap) (w : World) :
    (execOp a.eval o).run Try.prog w = .ok (.value (.slice (some ⟨b, off, none⟩) q cap)) w := by
  unfold execOp
  simp only [ho, hx, hl, Option.map_some, Option.map_none]
  simp [Instr.sliceAt, Instr.slice, Instr.sliceBounds, Instr.sliceBound, run_underlying Try.underlying39, go_sem, asIntOf, h1]

theorem Has.grown {w w' : World} {g b t : Nat} {cs : Array Value} (h : Has w b t cs) (hg : w.grownBy w' (some g)) (hne : b ≠ g) : Has w' b t cs := (hg.block b h.lt (fun e => hne (by cases e; rfl))).trans h

theorem Bytes.range {w : World} {b o len : Nat} {m : Nat → Nat} (h : Bytes w (some ⟨b, o, none⟩) len m) (s k : Nat) (hk : s + k ≤ len) : w.rangeAt b (o + s) (cellsN .u8 k (fun j => m (s + j))).toList := by
  intro j v hj
  have hjk : j < k := by
    have := (List.getElem?_eq_some_iff.1 hj).1
    rwa [Array.length_toList, cellsN_size] at this
  rw [Array.getElem?_toList, cellsN_get _ _ _ _ hjk] at hj
  cases hj
  rcases h with h | ⟨b', o', e, _, hc⟩
  · omega
  · cases e
    rw [Nat.add_assoc]
    exact hc (s + j) (by omega)

end Go.Proofs.Ytancebpjfbbcaaa
