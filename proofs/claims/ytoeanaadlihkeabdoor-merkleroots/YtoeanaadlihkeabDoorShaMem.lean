/- Blocks of numbers that the call made, as functions of the place; and sha's digest over a state's eight words. -/
import Derived.Test.YtoeanaadlihkeabDoorShaTurn
import Derived.Deep.WholeRow
namespace Go.Proofs.YtoeanaadlihkeabDoor
open Go.ChangeShapes Go.WideShapes Go.ChangeAt Go.RowKit

def cellsN (k : IntKind) (n : Nat) (f : Nat → Nat) : Array Value := ((List.range n).map fun j => Value.int k (f j : Nat)).toArray

theorem cellsN_size (k : IntKind) (n : Nat) (f : Nat → Nat) : (cellsN k n f).size = n := by simp [cellsN]

theorem cellsN_get (k : IntKind) (n : Nat) (f : Nat → Nat) (j : Nat) (h : j < n) : (cellsN k n f)[j]? = some (.int k (f j : Nat)) := by
  simp [cellsN, h]

theorem cellsN_one (k : IntKind) (n : Nat) (f : Nat → Nat) : (cellsN k n f).all (·.oneCell') = true := by
  simp [cellsN, Value.oneCell']

def upd (f : Nat → Nat) (j v : Nat) : Nat → Nat := fun i => if i = j then v else f i

theorem cellsN_set (k : IntKind) (n : Nat) (f : Nat → Nat) (j v : Nat) : (cellsN k n f).setIfInBounds j (.int k (v : Nat)) = cellsN k n (upd f j v) := by
  apply Array.ext_getElem?
  intro i
  rw [Array.getElem?_setIfInBounds]
  simp only [cellsN_size]
  by_cases hi : i < n
  · rw [cellsN_get _ _ _ _ hi, cellsN_get _ _ _ _ hi]
    by_cases e : j = i
    · subst e; simp [upd, hi]
    · have : ¬ i = j := fun h => e h.symm
      simp [upd, e, this]
  · have e1 : (cellsN k n f)[i]? = none := by simp [cellsN]; omega
    have e2 : (cellsN k n (upd f j v))[i]? = none := by simp [cellsN]; omega
    rw [e1, e2]
    split
    · subst_vars; simp [hi]
    · rfl

theorem cellsN_congr (k : IntKind) (n : Nat) (f g : Nat → Nat) (h : ∀ j, j < n → f j = g j) : cellsN k n f = cellsN k n g := by
  unfold cellsN
  congr 1
  apply List.map_congr_left
  intro j hj
  rw [h j (by simpa using hj)]

/-- Block g holds the cells cs, none of them frozen. -/
def Has (w : World) (g t : Nat) (cs : Array Value) : Prop := w.heap[g]? = some (.cells cs t (0, 0))

theorem Has.lt {w : World} {g t : Nat} {cs : Array Value} (h : Has w g t cs) : g < w.heap.size := (Array.getElem?_eq_some_iff.1 h).1

theorem Has.cell {w : World} {g t : Nat} {cs : Array Value} (h : Has w g t cs) (j : Nat) : w.cell? ⟨g, j, none⟩ = cs[j]? := cell_of_row w g j cs t (0, 0) h

theorem Has.num {w : World} {g t n : Nat} {k : IntKind} {f : Nat → Nat} (h : Has w g t (cellsN k n f)) (j : Nat) (hj : j < n) : w.cell? ⟨g, j, none⟩ = some (.int k (f j : Nat)) := by
  rw [h.cell, cellsN_get _ _ _ _ hj]

theorem Has.free {w : World} {g t : Nat} {cs : Array Value} (h : Has w g t cs) (j : Nat) : w.frozen? ⟨g, j, none⟩ = false := by
  have h' : w.heap[g]? = some (.cells cs t (0, 0)) := h
  simp [World.frozen?, h']

theorem Has.below {w w' : World} {B g t : Nat} {cs : Array Value} (h : Has w g t cs) (hb : Below B w w') (hg : g < B) : Has w' g t cs := (hb.block g hg).trans h

theorem Has.drewN {w : World} {g t : Nat} {cs : Array Value} (h : Has w g t cs) (m : Nat) : Has (w.drewN m) g t cs := h

theorem Has.alloc {w : World} {g t : Nat} {cs : Array Value} (h : Has w g t cs) (o : Obj) : Has (w.alloc o) g t cs := (Below.heap_alloc w o g h.lt).trans h

theorem Has.new (w : World) (t : Nat) (cs : Array Value) : Has (w.alloc (.cells cs t)) w.heap.size t cs := heap_alloc_new w _

theorem Has.new_at {w : World} {g t : Nat} {cs : Array Value} (h : g = w.heap.size) : Has (w.alloc (.cells cs t)) g t cs := h ▸ heap_alloc_new w _

theorem Has.other {w : World} {g t : Nat} {cs : Array Value} (h : Has w g t cs) {p : Addr} (hp : g ≠ p.block) (u : Value) : Has (w.setCell p u) g t cs := (Below.heap_setCell w p u g hp).trans h

theorem Has.set {w : World} {g t n : Nat} {k : IntKind} {f : Nat → Nat} (h : Has w g t (cellsN k n f)) (j v : Nat) : Has (w.setCell ⟨g, j, none⟩ (.int k (v : Nat))) g t (cellsN k n (upd f j v)) := by
  have h' : w.heap[g]? = some (.cells (cellsN k n f) t (0, 0)) := h
  show (w.setCell ⟨g, j, none⟩ _).heap[g]? = _
  simp only [World.setCell, Array.getElem?_modify, h', if_pos, Option.map_some]
  rw [cellsN_set]
  rfl

theorem Has.setRow {w : World} {g t : Nat} {cs : Array Value} (h : Has w g t cs) (cs' : Array Value) : Has (w.setRow g cs') g t cs' := setRow_heap w g cs cs' t (0, 0) h

theorem below_setRow {B : Nat} {a w : World} (h : Below B a w) {g : Nat} (hg : B ≤ g) (cs : Array Value) : Below B a (w.setRow g cs) :=
  h.trans ⟨rfl, rfl, rfl, by simp [World.setRow], fun k hk => by simp only [World.setRow, Array.getElem?_modify]; rw [if_neg (by omega)]⟩

theorem Has.setRow_other {w : World} {g g' t : Nat} {cs : Array Value} (h : Has w g t cs) (hne : g ≠ g') (cs' : Array Value) : Has (w.setRow g' cs') g t cs := by
  show (w.setRow g' cs').heap[g]? = _
  simp only [World.setRow, Array.getElem?_modify]
  rw [if_neg (fun e => hne e.symm)]
  exact h

theorem Has.load {w : World} {g t n e : Nat} {cs : Array Value} (h : Has w g t cs) (ty : Nat) (hu : Tryd.prog.underlying ty = some (.array n e)) (hi : (Tryd.prog.info? ty).map (·.size) = some cs.size) :
    (Instr.loadAt ty (.pointer (some ⟨g, 0, none⟩))).run Tryd.prog w = .ok (.agg cs) w := by
  simp only [Instr.loadAt, Instr.sureAddr, Sem.run_bind, Sem.run_pure, Result.andThen]
  exact run_loadVar_row _ _ t ty cs (0, 0) _ h hu rfl hi

theorem Has.store {w : World} {g t : Nat} {cs cs' : Array Value} (h : Has w g t cs) (ty : Nat) (hi : (Tryd.prog.info? ty).map (·.size) = some cs'.size) (ho : cs.size = cs'.size) (h1 : cs'.all (·.oneCell') = true) :
    (Instr.storeAt ty (.pointer (some ⟨g, 0, none⟩)) (.agg cs')).run Tryd.prog w = .ok () (w.setRow g cs') := by
  simp only [Instr.storeAt, Instr.sureAddr, Sem.run_bind, Sem.run_pure, Result.andThen]
  exact run_storeVar_row w g t ty cs cs' h hi ho h1


theorem wpList_store_rowG {ops : Array Oper} {rest : List Oper} {o : Oper} {a : Act} {w : World} {Q : Exit → Act → World → Prop} (hgd : o.guard = none) (ty : TypeId) (x y : Operand) (ho : o.op = .store ty x y)
    (g : Nat) (cells : Array Value) (hx : a.eval x = .pointer (some ⟨g, 0, none⟩)) (hy : a.eval y = .agg cells)
    (t : TypeId) (old : Array Value) (hg : Has w g t old) (hi : (Tryd.prog.info? ty).map (·.size) = some cells.size)
    (hold : old.size = cells.size) (h1 : cells.all (·.oneCell') = true)
    (h : ∀ w2, w2 = w.setRow g cells → wpList Tryd.prog ops Q rest (a.put o.dst undef) w2) : wpList Tryd.prog ops Q (o :: rest) a w :=
  wpList_store_row hgd ty x y ho g cells hx hy t old hg hi hold h1 (h _ rfl)

theorem Tryd.size54 : (Tryd.prog.info? 54).map (·.size) = some 8 := by kernel_rfl
theorem Tryd.size24 : (Tryd.prog.info? 24).map (·.size) = some 32 := by kernel_rfl
theorem Tryd.size65 : (Tryd.prog.info? 65).map (·.size) = some 64 := by kernel_rfl

def dig (st : Nat → Nat) (i : Nat) : Nat := st (i / 4) / 2 ^ (24 - 8 * (i % 4)) % 256

theorem zeros (k : IntKind) (n : Nat) : cellsN k n (fun _ => 0) = (List.replicate n (Value.int k 0)).toArray := by
  unfold cellsN
  congr 1
  apply List.ext_getElem?
  intro i
  simp [List.getElem?_replicate]
  split <;> simp_all

def part (f : Nat → Nat) (k : Nat) : Nat → Nat := fun j => if j < k then f j else 0

theorem part_next (f : Nat → Nat) (k : Nat) : upd (part f k) k (f k) = part f (k + 1) := by
  funext i
  unfold upd part
  by_cases e : i = k
  · subst e; simp
  · have : (i < k + 1) = (i < k) := by simp; omega
    simp [e, this]

set_option maxRecDepth 100000 in
theorem digest_any (st : Nat → Nat) (w : World) (hst : ∀ j, j < 8 → st j < 4294967296) :
    Calls Tryd.prog 27 #[.agg (cellsN .u32 8 st)] w fun e w' => e = .returned (.agg (cellsN .u8 32 (dig st))) ∧ Below w.heap.size w w' := by
  go_enter Tryd.func27, Tryd.ntmps27
  go_wp2
  go_loopw [5] (fun i wr => ∃ k : Nat, k ≤ 32 ∧ i = .int .i64 k ∧ Has wr w.heap.size 54 (cellsN .u32 8 st) ∧ Has wr (w.heap.size + 1) 24 (cellsN .u8 32 fun _ => 0) ∧ Has wr (w.heap.size + 1 + 1) 24 (cellsN .u8 32 (part (dig st) k)) ∧ Below w.heap.size w wr)
    (fun i _ => 32 - (intOf i).toNat)
  case atStart =>
    refine ⟨0, Nat.zero_le _, rfl, ?_, ?_, ?_, ?_⟩
    · exact ((Has.new w _ _).alloc _).alloc _
    · exact (Has.new_at (by simp)).alloc _
    · exact Has.new_at (by simp)
    · exact (((Below.refl _ _).alloc (Nat.le_refl _) _).alloc (by simp) _).alloc (by simp; omega) _
  case round =>
    obtain ⟨k, hk, rfl, hS, hR, hD, hbel⟩ := hrel
    by_cases hlt : k < 32
    · have hs := hS.num (k / 4) (by omega)
      have hv := hst (k / 4) (by omega)
      have hc := hD.num k hlt
      have hf := hD.free k
      go_wp2
      go_roundw
      case rel =>
        have e : ((st (k / 4) : Nat) : Int) / 2 ^ (24 - 8 * (k % 4)) % 256 = ((dig st k : Nat) : Int) := by unfold dig; rw [Int.natCast_emod, Int.natCast_ediv, Int.natCast_pow]; rfl
        rw [e]
        refine ⟨k + 1, by omega, by go_num, hS.other (by simp; omega) _, hR.other (by simp) _, ?_, hbel.setCell (by simp; omega) _⟩
        have := hD.set k (dig st k)
        rw [part_next] at this
        exact this
      case measure => simp [intOf]; omega
    · obtain rfl : k = 32 := by omega
      have hN := hR.setRow (cellsN .u8 32 (part (dig st) 32))
      go_wp2_with (first
        | (refine wpList_load_row rfl 24 _ rfl (w.heap.size + 1 + 1) rfl 24 _ (0, 0) _ hD Tryd.underlying24 rfl (by rw [cellsN_size]; exact Tryd.size24) ?_)
        | (refine wpList_store_row rfl 24 _ _ rfl (w.heap.size + 1) (cellsN .u8 32 (part (dig st) 32)) rfl rfl 24 _ hR (by rw [cellsN_size]; exact Tryd.size24) (by simp [cellsN_size]) (cellsN_one _ _ _) ?_))
      refine bodyPost_ret (results_cell_row rfl _ _ (w.heap.size + 1) 24 _ (0, 0) _ rfl hN Tryd.underlying24 rfl (by rw [cellsN_size]; exact Tryd.size24)) rfl ⟨?_, below_setRow hbel (by omega) _⟩
      rw [cellsN_congr .u8 32 (part (dig st) 32) (dig st) (fun j hj => by simp [part, hj])]
end Go.Proofs.YtoeanaadlihkeabDoor
