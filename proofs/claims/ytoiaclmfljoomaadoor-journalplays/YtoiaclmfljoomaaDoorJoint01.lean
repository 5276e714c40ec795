/- Texts that the statements of this stage share, joined: ObShaHash, ObShaWrite, ObShaSum, ObShaBl, ObShaEq, ObRegTo, ObBlMore, DvMath. -/
import Derived.Test.YtoiaclmfljoomaaDoorJoint00
import Derived.Laws.CopyOwn
import Derived.Deep.MidRow
import Derived.Laws.AppendOwnNone
import Derived.OwnWalk
import Derived.DeepKeys
import Derived.Deep.RegionHeld3
import Derived.Lib.AppendZerosOnto
import Derived.WalkKit

/- A hash's block, as its state, its rest and its size; New. -/
namespace Go.Proofs.YtoiaclmfljoomaaDoor
open Go.ChangeShapes Go.WideShapes Go.ChangeAt Go.RowKit

def hcell (st rest : Nat → Nat) (n j : Nat) : Value := if j < 8 then .int .u32 (st j : Nat) else if j < 72 then .int .u8 (rest (j - 8) : Nat) else .int .u64 (n : Nat)

def hcells (st rest : Nat → Nat) (n : Nat) : Array Value := ((List.range 73).map (hcell st rest n)).toArray

theorem hcells_size (st rest : Nat → Nat) (n : Nat) : (hcells st rest n).size = 73 := by simp [hcells]

theorem hcells_get (st rest : Nat → Nat) (n j : Nat) (h : j < 73) : (hcells st rest n)[j]? = some (hcell st rest n j) := by simp [hcells, h]

theorem hcells_none (st rest : Nat → Nat) (n j : Nat) (h : ¬ j < 73) : (hcells st rest n)[j]? = none := by simp [hcells]; omega

theorem hcells_one (st rest : Nat → Nat) (n : Nat) : (hcells st rest n).all (·.oneCell') = true := by
  rw [Array.all_eq_true_iff_forall_mem]
  intro v hv
  simp only [hcells, List.mem_toArray, List.mem_map] at hv
  obtain ⟨j, _, rfl⟩ := hv
  unfold hcell
  split
  · rfl
  · split <;> rfl

theorem hcells_ext {a : Array Value} {st rest : Nat → Nat} {n : Nat} (hs : a.size = 73) (h : ∀ j, j < 73 → a[j]? = some (hcell st rest n j)) : a = hcells st rest n := by
  apply Array.ext_getElem?
  intro j
  by_cases hj : j < 73
  · rw [h j hj, hcells_get _ _ _ _ hj]
  · rw [hcells_none _ _ _ _ hj]; simp; omega

section
variable {w : World} {g : Nat} {st rest : Nat → Nat} {n : Nat}

theorem hash_state (h : Has w g 154 (hcells st rest n)) (j : Nat) (hj : j < 8) : w.cell? ⟨g, j, none⟩ = some (.int .u32 (st j : Nat)) := by
  rw [h.cell, hcells_get _ _ _ _ (by omega)]; simp [hcell, hj]

theorem hash_rest (h : Has w g 154 (hcells st rest n)) (j : Nat) (hj : j < 64) : w.cell? ⟨g, 8 + j, none⟩ = some (.int .u8 (rest j : Nat)) := by
  rw [h.cell, hcells_get _ _ _ _ (by omega)]
  have h1 : ¬ 8 + j < 8 := by omega
  have h2 : 8 + j < 72 := by omega
  simp only [hcell, if_neg h1, if_pos h2]
  rw [show 8 + j - 8 = j from by omega]

theorem hash_size (h : Has w g 154 (hcells st rest n)) : w.cell? ⟨g, 72, none⟩ = some (.int .u64 (n : Nat)) := by
  rw [h.cell, hcells_get _ _ _ _ (by omega)]; rfl

theorem set_has {cs : Array Value} {t : Nat} (h : Has w g t cs) (j : Nat) (v : Value) : Has (w.setCell ⟨g, j, none⟩ v) g t (cs.setIfInBounds j v) := by
  have h' : w.heap[g]? = some (.cells cs t (0, 0)) := h
  show (w.setCell ⟨g, j, none⟩ _).heap[g]? = _
  simp only [World.setCell, Array.getElem?_modify, h', if_pos, Option.map_some]
  rfl

theorem hash_setSize (h : Has w g 154 (hcells st rest n)) (n' : Nat) : Has (w.setCell ⟨g, 72, none⟩ (.int .u64 (n' : Nat))) g 154 (hcells st rest n') := by
  have := set_has h 72 (.int .u64 (n' : Nat))
  rw [hcells_ext (a := (hcells st rest n).setIfInBounds 72 (.int .u64 (n' : Nat))) (st := st) (rest := rest) (n := n') (by simp [hcells_size]) (fun j hj => by
    rw [Array.getElem?_setIfInBounds, hcells_size, hcells_get _ _ _ _ hj]
    by_cases e : 72 = j
    · subst e; rfl
    · rw [if_neg e]; unfold hcell; by_cases h8 : j < 8
      · rw [if_pos h8, if_pos h8]
      · rw [if_neg h8, if_neg h8, if_pos (by omega), if_pos (by omega)])] at this
  exact this

theorem hash_setState (h : Has w g 154 (hcells st rest n)) (i v : Nat) (hi : i < 8) : Has (w.setCell ⟨g, i, none⟩ (.int .u32 (v : Nat))) g 154 (hcells (upd st i v) rest n) := by
  have := set_has h i (.int .u32 (v : Nat))
  rw [hcells_ext (a := (hcells st rest n).setIfInBounds i (.int .u32 (v : Nat))) (st := upd st i v) (rest := rest) (n := n) (by simp [hcells_size]) (fun j hj => by
    rw [Array.getElem?_setIfInBounds, hcells_size, hcells_get _ _ _ _ hj]
    by_cases e : i = j
    · subst e; rw [if_pos rfl, if_pos hj]; simp [hcell, upd, hi]
    · have e' : ¬ j = i := fun x => e x.symm
      rw [if_neg e]; unfold hcell upd; simp only [if_neg e'])] at this
  exact this
end

theorem Tryd.size154 : (Tryd.prog.info? 154).map (·.size) = some 73 := by kernel_rfl

def zlit : Array Value := #[.int .u32 0, .int .u32 0, .int .u32 0, .int .u32 0, .int .u32 0, .int .u32 0, .int .u32 0, .int .u32 0, .int .u8 0, .int .u8 0, .int .u8 0, .int .u8 0, .int .u8 0, .int .u8 0, .int .u8 0, .int .u8 0, .int .u8 0, .int .u8 0, .int .u8 0, .int .u8 0, .int .u8 0, .int .u8 0, .int .u8 0, .int .u8 0, .int .u8 0, .int .u8 0, .int .u8 0, .int .u8 0, .int .u8 0, .int .u8 0, .int .u8 0, .int .u8 0, .int .u8 0, .int .u8 0, .int .u8 0, .int .u8 0, .int .u8 0, .int .u8 0, .int .u8 0, .int .u8 0, .int .u8 0, .int .u8 0, .int .u8 0, .int .u8 0, .int .u8 0, .int .u8 0, .int .u8 0, .int .u8 0, .int .u8 0, .int .u8 0, .int .u8 0, .int .u8 0, .int .u8 0, .int .u8 0, .int .u8 0, .int .u8 0, .int .u8 0, .int .u8 0, .int .u8 0, .int .u8 0, .int .u8 0, .int .u8 0, .int .u8 0, .int .u8 0, .int .u8 0, .int .u8 0, .int .u8 0, .int .u8 0, .int .u8 0, .int .u8 0, .int .u8 0, .int .u8 0, .int .u64 0]

theorem Tryd.zero154 : (Tryd.prog.info? 154).map (fun i => (i.zero, i.size)) = some (some (.agg zlit), 73) := by kernel_rfl

theorem zlit_eq : zlit = hcells (fun _ => 0) (fun _ => 0) 0 := by kernel_rfl

theorem newcells (H0 : Nat → Nat) : (((((((((hcells (fun _ => 0) (fun _ => 0) 0).setIfInBounds 0 (.int .u32 ((H0 0 : Nat) : Int))).setIfInBounds 1 (.int .u32 ((H0 1 : Nat) : Int))).setIfInBounds 2 (.int .u32 ((H0 2 : Nat) : Int))).setIfInBounds 3 (.int .u32 ((H0 3 : Nat) : Int))).setIfInBounds 4 (.int .u32 ((H0 4 : Nat) : Int))).setIfInBounds 5 (.int .u32 ((H0 5 : Nat) : Int))).setIfInBounds 6 (.int .u32 ((H0 6 : Nat) : Int))).setIfInBounds 7 (.int .u32 ((H0 7 : Nat) : Int))) = hcells H0 (fun _ => 0) 0 := by
  refine hcells_ext (by simp [hcells_size]) ?_
  intro j hj
  by_cases h8 : j < 8
  · rcases (show j = 0 ∨ j = 1 ∨ j = 2 ∨ j = 3 ∨ j = 4 ∨ j = 5 ∨ j = 6 ∨ j = 7 from by omega) with rfl | rfl | rfl | rfl | rfl | rfl | rfl | rfl <;> simp [hcells_size, hcell]
  · have h0 : ¬ 0 = j := by omega
    have h1 : ¬ 1 = j := by omega
    have h2 : ¬ 2 = j := by omega
    have h3 : ¬ 3 = j := by omega
    have h4 : ¬ 4 = j := by omega
    have h5 : ¬ 5 = j := by omega
    have h6 : ¬ 6 = j := by omega
    have h7 : ¬ 7 = j := by omega
    simp only [Array.getElem?_setIfInBounds, if_neg h0, if_neg h1, if_neg h2, if_neg h3, if_neg h4, if_neg h5, if_neg h6, if_neg h7]
    rw [hcells_get _ _ _ _ hj]
    simp only [hcell, if_neg h8]

/-- What the package's variables hold. -/
def Glob (H0 K : Nat → Nat) (w : World) : Prop := 1 < w.heap.size ∧ (∀ j, j < 8 → w.cell? ⟨0, j, none⟩ = some (.int .u32 (H0 j : Nat))) ∧ ∀ j, j < 64 → w.cell? ⟨1, j, none⟩ = some (.int .u32 (K j : Nat))

set_option maxRecDepth 100000 in
theorem new_any (H0 K : Nat → Nat) (w : World) (hG : Glob H0 K w) :
    Calls Tryd.prog 94 #[] w fun e w' => e = .returned (.pointer (some ⟨w.heap.size, 0, none⟩)) ∧ w' = w.alloc (.cells (hcells H0 (fun _ => 0) 0) 154) := by
  have c0 := hG.2.1 0 (by omega)
  have c1 := hG.2.1 1 (by omega)
  have c2 := hG.2.1 2 (by omega)
  have c3 := hG.2.1 3 (by omega)
  have c4 := hG.2.1 4 (by omega)
  have c5 := hG.2.1 5 (by omega)
  have c6 := hG.2.1 6 (by omega)
  have c7 := hG.2.1 7 (by omega)
  obtain ⟨Z, hZ⟩ : ∃ Z, Z = hcells (fun _ => 0) (fun _ => 0) 0 := ⟨_, rfl⟩
  have hz := (zero_of_info Tryd.zero154).1 w
  rw [zlit_eq] at hz
  have hzs : Z.size = 73 := by rw [hZ, hcells_size]
  rw [← hZ] at hz
  go_enter Tryd.func94, Tryd.ntmps94
  go_wp2
  go_ret
  exact ⟨rfl, by rw [newcells]⟩
end Go.Proofs.YtoiaclmfljoomaaDoor

/- A hash's Write: it takes bytes in behind what was. -/
namespace Go.Proofs.YtoiaclmfljoomaaDoor
open Go.ChangeShapes Go.WideShapes Go.ChangeAt Go.RowKit

/-- The state behind i whole blocks of the bytes m 0, m 1, .. -/
def stAt (H0 K m : Nat → Nat) : Nat → Nat → Nat
  | 0 => H0
  | i + 1 => nextSt K (stAt H0 K m i) fun j => m (64 * i + j)

/-- The block g holds a hash that has taken in the first N of the bytes m. -/
def Hash (H0 K : Nat → Nat) (w : World) (g : Nat) (m : Nat → Nat) (N : Nat) : Prop :=
  ∃ rest : Nat → Nat, (∀ j, j < 64 → rest j < 256) ∧ (∀ j, j < N % 64 → rest j = m (64 * (N / 64) + j)) ∧ Has w g 154 (hcells (stAt H0 K m (N / 64)) rest N)

/-- But for block g all that was there is as it was. -/
def But (g : Nat) (w w' : World) : Prop := w'.os = w.os ∧ w'.tape = w.tape ∧ w'.output = w.output ∧ w.heap.size ≤ w'.heap.size ∧ ∀ k, k < w.heap.size → k ≠ g → w'.heap[k]? = w.heap[k]?

theorem But.refl (g : Nat) (w : World) : But g w w := ⟨rfl, rfl, rfl, Nat.le_refl _, fun _ _ _ => rfl⟩
theorem But.trans {g : Nat} {a b c : World} (h : But g a b) (k : But g b c) : But g a c :=
  ⟨k.1.trans h.1, k.2.1.trans h.2.1, k.2.2.1.trans h.2.2.1, Nat.le_trans h.2.2.2.1 k.2.2.2.1, fun i hi hg => (k.2.2.2.2 i (Nat.lt_of_lt_of_le hi h.2.2.2.1) hg).trans (h.2.2.2.2 i hi hg)⟩
theorem But.of_below {g B : Nat} {w w' : World} (h : Below B w w') (hB : w.heap.size ≤ B) : But g w w' := ⟨h.os, h.tape, h.output, h.size, fun k hk _ => h.block k (Nat.lt_of_lt_of_le hk hB)⟩
theorem But.drewN {g : Nat} {w w' : World} (h : But g w w') (n : Nat) : But g w (w'.drewN n) := h
theorem But.setCell {g : Nat} {w w' : World} (h : But g w w') (j : Nat) (v : Value) : But g w (w'.setCell ⟨g, j, none⟩ v) :=
  h.trans ⟨rfl, rfl, rfl, by simp [World.setCell], fun k _ hg => Below.heap_setCell _ _ _ _ hg⟩
theorem But.setRow {g : Nat} {w w' : World} (h : But g w w') (cs : Array Value) : But g w (w'.setRow g cs) :=
  h.trans ⟨rfl, rfl, rfl, by simp [World.setRow], fun k _ hg => by simp only [World.setRow, Array.getElem?_modify]; rw [if_neg (fun e => hg e.symm)]⟩
theorem But.cell {g : Nat} {w w' : World} (h : But g w w') {p : Addr} (hp : p.block < w.heap.size) (hg : p.block ≠ g) : w'.cell? p = w.cell? p := World.cell?_of_block (w := w) (h.2.2.2.2 p.block hp hg)

theorem Glob.but {H0 K : Nat → Nat} {g : Nat} {w w' : World} (h : Glob H0 K w) (hb : But g w w') (hg : 1 < g) : Glob H0 K w' :=
  ⟨Nat.lt_of_lt_of_le h.1 hb.2.2.2.1, fun j hj => (hb.cell (show 0 < w.heap.size by have := h.1; omega) (show 0 ≠ g by omega)).trans (h.2.1 j hj), fun j hj => (hb.cell (show 1 < w.heap.size from h.1) (show 1 ≠ g by omega)).trans (h.2.2 j hj)⟩

theorem nextSt_lt (K st blk : Nat → Nat) (j : Nat) : nextSt K st blk j < 4294967296 := add32_lt _ _

theorem stAt_lt (H0 K m : Nat → Nat) (h : ∀ j, j < 8 → H0 j < 4294967296) (i j : Nat) (hj : j < 8) : stAt H0 K m i j < 4294967296 := by
  cases i with
  | zero => exact h j hj
  | succ i => exact nextSt_lt _ _ _ _

/-- One copy, as a step of a region that draws its order. -/
theorem step_copy_row {ops : Array Oper} {o : Oper} {a : Act} {w : World} {C : Act → World → Prop} {Q : Exit → Act → World → Prop} {E : Prop} (hgd : o.guard = none) (d s : Operand) (dT sT : TypeId)
    (ho : o.op = .call { callee := .builtin .copy, args := #[d, s], argTypes := #[dT, sT] }) (elem : TypeId) (hu : Tryd.prog.underlying dT = some (.slice elem)) (hsz : (Tryd.prog.info? elem).map (·.size) = some 1)
    (g off dLen dCap : Nat) (ad : Addr) (sLen sCap : Nat) (hd : a.eval d = .slice (some ⟨g, off, none⟩) dLen dCap) (hs : a.eval s = .slice (some ad) sLen sCap)
    (cur : Array Value) (t : TypeId) (hg : Has w g t cur) (cs : List Value) (hn : cs.length = Nat.min sLen dLen)
    (hsrc : ∀ j v, cs[j]? = some v → w.cell? (ad.add j) = some v) (hfit : off + cs.length ≤ cur.size) (h1 : ∀ v ∈ cs, v.oneCell' = true)
    (h : ∀ w', w' = w.setRow g (cur.toList.take off ++ (cs ++ cur.toList.drop (off + cs.length))).toArray → C (a.put o.dst (goInt cs.length)) w') :
    if Region.wanted o (yielded ops a.tmps) = true then Oper.wp Tryd.prog o a w C Q else E := by
  have hw : Region.wanted o (yielded ops a.tmps) = true := by simp [Region.wanted, hgd]
  rw [if_pos hw]
  have hrun := run_copy_row (P := Tryd.prog) w dT sT o.type elem g off dLen dCap ad sLen sCap cur t cs hu hsz hg hn hsrc hfit h1
  unfold Oper.wp
  simp [execOp, ho, resolve, invoke, builtin, hd, hs, hrun, Result.andThen]
  exact h _ rfl

def restW (rest m : Nat → Nat) (M r c : Nat) : Nat → Nat := fun j => if j < r then rest j else if j < r + c then m (M + (j - r)) else rest j

theorem copied (st rest m : Nat → Nat) (n M r c : Nat) (hc : r + c ≤ 64) :
    ((hcells st rest n).toList.take (8 + r) ++ (((List.range c).map fun j => Value.int .u8 (m (M + j) : Nat)) ++ (hcells st rest n).toList.drop (8 + r + c))).toArray = hcells st (restW rest m M r c) n := by
  have hl : (hcells st rest n).toList.length = 73 := by simp [hcells]
  refine hcells_ext (by simp [hl]; omega) ?_
  intro j hj
  rw [List.getElem?_toArray]
  have hold : ∀ i, i < 73 → (hcells st rest n).toList[i]? = some (hcell st rest n i) := fun i hi => by
    rw [Array.getElem?_toList, hcells_get _ _ _ _ hi]
  by_cases h1 : j < 8 + r
  · rw [List.getElem?_append_left (by simp [hl]; omega), List.getElem?_take_of_lt h1, hold j hj]
    unfold hcell
    by_cases h8 : j < 8
    · rw [if_pos h8, if_pos h8]
    · rw [if_neg h8, if_neg h8, if_pos (by omega), if_pos (by omega)]
      unfold restW
      rw [if_pos (by omega)]
  · rw [List.getElem?_append_right (by simp [hl]; omega)]
    have e1 : ((hcells st rest n).toList.take (8 + r)).length = 8 + r := by simp [hl]; omega
    rw [e1]
    have h8 : ¬ j < 8 := by omega
    by_cases h2 : j < 8 + r + c
    · rw [List.getElem?_append_left (by simp; omega), List.getElem?_map, List.getElem?_range (by omega)]
      unfold hcell
      rw [if_neg h8, if_pos (by omega)]
      unfold restW
      rw [if_neg (by omega), if_pos (by omega), show j - 8 - r = j - (8 + r) from by omega]
      rfl
    · rw [List.getElem?_append_right (by simp; omega), List.getElem?_drop]
      rw [show 8 + r + c + (j - (8 + r) - ((List.range c).map fun j => Value.int .u8 (m (M + j) : Nat)).length) = j from by simp; omega, hold j hj]
      unfold hcell
      rw [if_neg h8, if_neg h8]
      by_cases h72 : j < 72
      · rw [if_pos h72, if_pos h72]
        unfold restW
        rw [if_neg (by omega), if_neg (by omega)]
      · rw [if_neg h72, if_neg h72]

theorem hcells_congr (st st' rest rest' : Nat → Nat) (n : Nat) (h : ∀ j, j < 8 → st j = st' j) (h' : ∀ j, j < 64 → rest j = rest' j) : hcells st rest n = hcells st' rest' n := by
  refine hcells_ext (hcells_size _ _ _) ?_
  intro j hj
  rw [hcells_get _ _ _ _ hj]
  unfold hcell
  by_cases h8 : j < 8
  · rw [if_pos h8, if_pos h8, h j h8]
  · rw [if_neg h8, if_neg h8]
    by_cases h72 : j < 72
    · rw [if_pos h72, if_pos h72, h' _ (by omega)]
    · rw [if_neg h72, if_neg h72]

theorem ld_congr (blk blk' : Nat → Nat) (h : ∀ j, j < 64 → blk j = blk' j) : ∀ i, i ≤ 64 → ld blk i = ld blk' i := by
  intro i
  induction i with
  | zero => intro _; rfl
  | succ i ih =>
    intro hi
    simp only [ld]
    rw [ih (by omega), h i (by omega)]

theorem nextSt_congr (K st blk blk' : Nat → Nat) (h : ∀ j, j < 64 → blk j = blk' j) : nextSt K st blk = nextSt K st blk' := by
  unfold nextSt sched
  rw [ld_congr blk blk' h 64 (Nat.le_refl _)]

theorem restW_lt (rest m : Nat → Nat) (M r c : Nat) (h1 : ∀ j, j < 64 → rest j < 256) (hm : ∀ j, m j < 256) (j : Nat) (hj : j < 64) : restW rest m M r c j < 256 := by
  unfold restW
  split
  · exact h1 j hj
  · split
    · exact hm _
    · exact h1 j hj

theorem restW_eq (rest m : Nat → Nat) (M c : Nat) (h2 : ∀ j, j < M % 64 → rest j = m (64 * (M / 64) + j)) (j : Nat) (hj : j < M % 64 + c) : restW rest m M (M % 64) c j = m (64 * (M / 64) + j) := by
  unfold restW
  by_cases h : j < M % 64
  · rw [if_pos h, h2 j h]
  · rw [if_neg h, if_pos hj]
    congr 1
    omega

theorem hash_part {H0 K m rest : Nat → Nat} {w : World} {g M k : Nat} (hH : Has w g 154 (hcells (stAt H0 K m (M / 64)) (restW rest m M (M % 64) k) (M + k))) (hm : ∀ j, m j < 256)
    (h1 : ∀ j, j < 64 → rest j < 256) (h2 : ∀ j, j < M % 64 → rest j = m (64 * (M / 64) + j)) (hk : M % 64 + k < 64) : Hash H0 K w g m (M + k) := by
  have e1 : (M + k) / 64 = M / 64 := by omega
  have e2 : (M + k) % 64 = M % 64 + k := by omega
  refine ⟨restW rest m M (M % 64) k, fun j hj => restW_lt _ _ _ _ _ h1 hm j hj, ?_, ?_⟩
  · intro j hj
    rw [e2] at hj
    rw [e1]
    exact restW_eq rest m M k h2 j hj
  · rw [e1]
    exact hH

theorem hash_full {H0 K m rest s' : Nat → Nat} {w : World} {g M k : Nat} (hH : Has w g 154 (hcells s' (restW rest m M (M % 64) k) (M + k))) (hm : ∀ j, m j < 256)
    (hs : ∀ j, j < 8 → s' j = nextSt K (stAt H0 K m (M / 64)) (restW rest m M (M % 64) k) j)
    (h1 : ∀ j, j < 64 → rest j < 256) (h2 : ∀ j, j < M % 64 → rest j = m (64 * (M / 64) + j)) (hk : M % 64 + k = 64) : Hash H0 K w g m (M + k) := by
  have e1 : (M + k) / 64 = M / 64 + 1 := by omega
  have e2 : (M + k) % 64 = 0 := by omega
  refine ⟨restW rest m M (M % 64) k, fun j hj => restW_lt _ _ _ _ _ h1 hm j hj, ?_, ?_⟩
  · intro j hj
    omega
  · rw [e1, show stAt H0 K m (M / 64 + 1) = nextSt K (stAt H0 K m (M / 64)) (fun j => m (64 * (M / 64) + j)) from rfl,
      ← nextSt_congr K (stAt H0 K m (M / 64)) (restW rest m M (M % 64) k) (fun j => m (64 * (M / 64) + j)) (fun j hj => restW_eq rest m M k h2 j (by omega)),
      ← hcells_congr s' _ _ _ (M + k) hs (fun _ _ => rfl)]
    exact hH

theorem hash_set8 {w : World} {g n : Nat} {st rest : Nat → Nat} (v : Nat → Nat) (h : Has w g 154 (hcells st rest n)) :
    Has ((((((((w.setCell ⟨g, 0, none⟩ (.int .u32 ((v 0 : Nat) : Int))).setCell ⟨g, 1, none⟩ (.int .u32 ((v 1 : Nat) : Int))).setCell ⟨g, 2, none⟩ (.int .u32 ((v 2 : Nat) : Int))).setCell ⟨g, 3, none⟩ (.int .u32 ((v 3 : Nat) : Int))).setCell ⟨g, 4, none⟩ (.int .u32 ((v 4 : Nat) : Int))).setCell ⟨g, 5, none⟩ (.int .u32 ((v 5 : Nat) : Int))).setCell ⟨g, 6, none⟩ (.int .u32 ((v 6 : Nat) : Int))).setCell ⟨g, 7, none⟩ (.int .u32 ((v 7 : Nat) : Int))) g 154 (hcells v rest n) := by
  have := (hash_setState (hash_setState (hash_setState (hash_setState (hash_setState (hash_setState (hash_setState (hash_setState h 0 (v 0) (by decide)) 1 (v 1) (by decide)) 2 (v 2) (by decide)) 3 (v 3) (by decide)) 4 (v 4) (by decide)) 5 (v 5) (by decide)) 6 (v 6) (by decide)) 7 (v 7) (by decide))
  rw [hcells_congr _ v rest rest n (fun j hj => by
    rcases (show j = 0 ∨ j = 1 ∨ j = 2 ∨ j = 3 ∨ j = 4 ∨ j = 5 ∨ j = 6 ∨ j = 7 from by omega) with rfl | rfl | rfl | rfl | rfl | rfl | rfl | rfl <;> simp [upd]) (fun _ _ => rfl)] at this
  exact this

def lenOf : Value → Nat
  | .slice _ l _ => l
  | _ => 0

theorem cells8 (f : Nat → Nat) : cellsN .u32 8 f = #[.int .u32 ((f 0 : Nat) : Int), .int .u32 ((f 1 : Nat) : Int), .int .u32 ((f 2 : Nat) : Int), .int .u32 ((f 3 : Nat) : Int), .int .u32 ((f 4 : Nat) : Int), .int .u32 ((f 5 : Nat) : Int), .int .u32 ((f 6 : Nat) : Int), .int .u32 ((f 7 : Nat) : Int)] := rfl

theorem Tryd.size5 : (Tryd.prog.info? 5).map (·.size) = some 1 := by kernel_rfl

set_option maxRecDepth 100000 in
set_option maxHeartbeats 1600000 in
theorem write_pos (H0 K m : Nat → Nat) (g N b off len cap : Nat) (w : World) (hG : Glob H0 K w) (hH0 : ∀ j, j < 8 → H0 j < 4294967296) (hm : ∀ j, m j < 256) (hg : 1 < g) (hb : b < w.heap.size) (hbg : b ≠ g)
    (hcap : len ≤ cap) (hN : N + len < 1152921504606846976) (hh : Hash H0 K w g m N) (hc : ∀ j, j < len → w.cell? ⟨b, off + j, none⟩ = some (.int .u8 (m (N + j) : Nat))) :
    Calls Tryd.prog 95 #[.pointer (some ⟨g, 0, none⟩), .slice (some ⟨b, off, none⟩) len cap] w fun e w' => e = .returned (.tuple #[]) ∧ Hash H0 K w' g m (N + len) ∧ But g w w' := by
  go_enter Tryd.func95, Tryd.ntmps95
  go_wp2
  go_loopw [1] (fun s wr => ∃ c o : Nat, c ≤ len ∧ s = .slice (some ⟨b, o, none⟩) (len - c) (cap - c) ∧ (c < len → o = off + c) ∧ Hash H0 K wr g m (N + c) ∧ But g w wr)
    (fun s _ => lenOf s)
  case atStart => exact ⟨0, off, Nat.zero_le _, rfl, fun _ => rfl, hh, But.refl _ _⟩
  case round =>
    clear hh
    obtain ⟨c, o, hcl, rfl, ho, ⟨rest, hr1, hr2, hH⟩, hbut⟩ := hrel
    by_cases hlt : c < len
    · obtain rfl := ho hlt
      obtain ⟨M, hM⟩ : ∃ M, M = N + c := ⟨_, rfl⟩
      obtain ⟨q, hq⟩ : ∃ q, q = len - c := ⟨_, rfl⟩
      obtain ⟨p, hp⟩ : ∃ p, p = cap - c := ⟨_, rfl⟩
      obtain ⟨r, hr⟩ : ∃ r, r = M % 64 := ⟨_, rfl⟩
      rw [← hM] at hr2 hH
      rw [← hq, ← hp]
      have hsz := hash_size hH
      have hri : (M : Int) % 64 = (r : Int) := by omega
      have hri2 : (M : Int).tmod 64 = (r : Int) := by rw [Int.tmod_eq_emod_of_nonneg (by omega)]; omega
      have h64r : ¬ 64 = r := by omega
      have q0 : (0 : Int) < (q : Int) := by omega
      have r0 : (0 : Int) ≤ (r : Int) := by omega
      have r1 : (r : Int) < 64 := by omega
      have r2 : (r : Int) ≤ 64 := by omega
      have HM : Hid (M = N + c ∧ q = len - c ∧ p = cap - c ∧ r = M % 64) := ⟨hM, hq, hp, hr⟩
      clear hM hq hp hr
      obtain ⟨k, hk⟩ : ∃ k, k = Nat.min q (64 - r) := ⟨_, rfl⟩
      have hk64 : k ≤ 64 - r := by rw [hk]; exact Nat.min_le_right _ _
      have hkr : r + k ≤ 64 := by omega
      have hkq : k ≤ q := by rw [hk]; exact Nat.min_le_left _ _
      have HKE : Hid (k = q ∨ k = 64 - r) := by
        rcases Nat.le_total q (64 - r) with h | h
        · exact Or.inl (by rw [hk]; exact Nat.min_eq_left h)
        · exact Or.inr (by rw [hk]; exact Nat.min_eq_right h)
      have HK : Hid (k = Nat.min q (64 - r)) := hk
      clear hk
      have hsrc : ∀ j v, ((List.range k).map fun j => Value.int .u8 (m (M + j) : Nat))[j]? = some v → wr.cell? ((⟨b, off + c, none⟩ : Addr).add j) = some v := by
        intro j v hv
        rw [List.getElem?_map] at hv
        by_cases hj : j < k
        · rw [List.getElem?_range hj] at hv
          have e1 : (⟨b, off + c, none⟩ : Addr).add j = ⟨b, off + (c + j), none⟩ := by unfold Addr.add; split <;> simp_all [Nat.add_assoc]
          have h3 := HM.out
          rw [e1, hbut.cell hb hbg, hc (c + j) (by omega)]
          rw [← hv, show N + (c + j) = M + j from by omega]
          rfl
        · rw [List.getElem?_eq_none (by simp; omega)] at hv
          simp at hv
      have hone : ∀ v ∈ (List.range k).map fun j => Value.int .u8 (m (M + j) : Nat), v.oneCell' = true := by
        intro v hv
        simp only [List.mem_map] at hv
        obtain ⟨j, _, rfl⟩ := hv
        rfl
      have hlen : ((List.range k).map fun j => Value.int .u8 (m (M + j) : Nat)).length = k := by simp
      obtain ⟨cs, hcs⟩ : ∃ cs, cs = (List.range k).map fun j => Value.int .u8 (m (M + j) : Nat) := ⟨_, rfl⟩
      rw [← hcs] at hsrc hone hlen
      have HC : Hid (cs = (List.range k).map fun j => Value.int .u8 (m (M + j) : Nat)) := hcs
      clear hcs
      have HLn : Hid (cs.length = k) := hlen
      clear hlen
      have HS : Hid (∀ j v, cs[j]? = some v → wr.cell? ((⟨b, off + c, none⟩ : Addr).add j) = some v) := hsrc
      have HO : Hid (∀ v ∈ cs, v.oneCell' = true) := hone
      clear hsrc hone
      go_wp2_with fail
      go_region_held3 (fun w' => w'.cell? ⟨g, 72, none⟩ = some (.int .u64 (M : Nat)))
        (first
          | go_keep
          | exact hsz2)
        (first
          | ((refine step_copy_row rfl _ _ 33 33 rfl 5 Tryd.underlying33 Tryd.size5 g (8 + r) (64 - r) (64 - r) ⟨b, off + c, none⟩ q p (by rfl) (by rfl) (hcells (stAt H0 K m (M / 64)) rest M) 154 hH cs (by rw [HLn.out]; exact HK.out) HS.out (by rw [HLn.out, hcells_size]; omega) HO.out ?_)
             (intro w2 hw2)
             (have hH2 : Has w2 g 154 (hcells (stAt H0 K m (M / 64)) (restW rest m M r k) M) := (by rw [hw2, ← copied _ _ _ _ _ _ _ hkr, ← HC.out, HLn.out]; exact hH.setRow _))
             (have hB2 : But g w w2 := (by rw [hw2]; exact hbut.setRow _))
             (clear hw2)
             (have hsz2 := hash_size hH2)
             (rw [HLn.out])))
      clear hsz HC HLn HS HO hH hbut
      have hf72 := hH2.free 72
      have h3 := HM.out
      have k1 : (0 : Int) < (k : Int) := by have e := HKE.out; omega
      have k2 : (k : Int) ≤ (q : Int) := by omega
      have k3 : (q : Int) ≤ (p : Int) := by omega
      have hMb : M < 1152921504606846976 := by omega
      have hkb : k ≤ 64 := by omega
      have hH3 : Has (w2.setCell ⟨g, 72, none⟩ (.int .u64 ((M : Int) + (k : Int)))) g 154 (hcells (stAt H0 K m (M / 64)) (restW rest m M r k) (M + k)) := by
        have := hash_setSize hH2 (M + k)
        rwa [Int.natCast_add] at this
      have hB3 : But g w (w2.setCell ⟨g, 72, none⟩ (.int .u64 ((M : Int) + (k : Int)))) := hB2.setCell _ _
      by_cases hfull : r + k = 64
      · have hm0 : ((M : Int) + (k : Int)) % 64 = 0 := by omega
        obtain ⟨st, hst⟩ : ∃ st, st = stAt H0 K m (M / 64) := ⟨_, rfl⟩
        rw [← hst] at hH3 hH2
        obtain ⟨rw', hrw⟩ : ∃ x, x = restW rest m M r k := ⟨_, rfl⟩
        rw [← hrw] at hH3 hH2
        have hsl : ∀ j, j < 8 → st j < 4294967296 := fun j hj => by rw [hst]; exact stAt_lt H0 K m hH0 _ j hj
        have hrl : ∀ j, j < 64 → rw' j < 256 := fun j hj => by rw [hrw]; exact restW_lt _ _ _ _ _ hr1 hm j hj
        have hG3 := hG.but hB3 hg
        have hnext : ∀ w1 : World, (w1.heap = (w2.setCell ⟨g, 72, none⟩ (.int .u64 ((M : Int) + (k : Int)))).heap ∧ w1.os = (w2.setCell ⟨g, 72, none⟩ (.int .u64 ((M : Int) + (k : Int)))).os ∧ w1.tape = (w2.setCell ⟨g, 72, none⟩ (.int .u64 ((M : Int) + (k : Int)))).tape ∧ w1.output = (w2.setCell ⟨g, 72, none⟩ (.int .u64 ((M : Int) + (k : Int)))).output) → Calls Tryd.prog 111 #[.agg #[.int .u32 ((st 0 : Nat) : Int), .int .u32 ((st 1 : Nat) : Int), .int .u32 ((st 2 : Nat) : Int), .int .u32 ((st 3 : Nat) : Int), .int .u32 ((st 4 : Nat) : Int), .int .u32 ((st 5 : Nat) : Int), .int .u32 ((st 6 : Nat) : Int), .int .u32 ((st 7 : Nat) : Int)], .pointer (some ⟨g, 8, none⟩)] w1
            fun e w' => e = .returned (.agg #[.int .u32 ((nextSt K st rw' 0 : Nat) : Int), .int .u32 ((nextSt K st rw' 1 : Nat) : Int), .int .u32 ((nextSt K st rw' 2 : Nat) : Int), .int .u32 ((nextSt K st rw' 3 : Nat) : Int), .int .u32 ((nextSt K st rw' 4 : Nat) : Int), .int .u32 ((nextSt K st rw' 5 : Nat) : Int), .int .u32 ((nextSt K st rw' 6 : Nat) : Int), .int .u32 ((nextSt K st rw' 7 : Nat) : Int)]) ∧ Has w' g 154 (hcells st rw' (M + k)) ∧ But g w w' := by
          intro w1 ⟨hw1, hw2a, hw2b, hw2c⟩
          have hH4 : Has w1 g 154 (hcells st rw' (M + k)) := by unfold Has; rw [hw1]; exact hH3
          have hG4 : Glob H0 K w1 := by
            obtain ⟨x1, x2, x3⟩ := hG3
            exact ⟨by rw [hw1]; exact x1, fun j hj => (World.cell?_of_block (by rw [hw1])).trans (x2 j hj), fun j hj => (World.cell?_of_block (by rw [hw1])).trans (x3 j hj)⟩
          have := next_any K st rw' g 8 w1 hH4.lt hrl hsl hG4.1 hG4.2.2 (fun j hj => hash_rest hH4 j hj)
          rw [cells8, cells8] at this
          refine this.mono ?_
          rintro e w' ⟨h6, h7⟩
          refine ⟨h6, hH4.below h7 hH4.lt, hB3.trans ⟨h7.os.trans ?_, h7.tape.trans ?_, h7.output.trans ?_, by rw [← hw1]; exact h7.size, fun i hi _ => by rw [h7.block i (by rw [hw1]; exact hi), hw1]⟩⟩
          · exact hw2a
          · exact hw2b
          · exact hw2c
        have c0 := hash_state hH3 0 (by omega)
        have c1 := hash_state hH3 1 (by omega)
        have c2 := hash_state hH3 2 (by omega)
        have c3 := hash_state hH3 3 (by omega)
        have c4 := hash_state hH3 4 (by omega)
        have c5 := hash_state hH3 5 (by omega)
        have c6 := hash_state hH3 6 (by omega)
        have c7 := hash_state hH3 7 (by omega)
        have HST : Hid (st = stAt H0 K m (M / 64) ∧ rw' = restW rest m M r k) := ⟨hst, hrw⟩
        have HF : Hid (r + k = 64) := hfull
        clear hst hrw hsl hrl hG3 h3 hfull
        by_cases hpk : p = k
        · go_wp2_with fail
          go_region_with (first
              | ((go_at_call 111)
                 (refine (hnext _ ?_).mono ?_)
                 (exact ⟨rfl, rfl, rfl, rfl⟩)
                 (rintro e w5 ⟨rfl, hH5, hB5⟩)
                 (have d0 := hash_state hH5 0 (by omega))
                 (have d1 := hash_state hH5 1 (by omega))
                 (have d2 := hash_state hH5 2 (by omega))
                 (have d3 := hash_state hH5 3 (by omega))
                 (have d4 := hash_state hH5 4 (by omega))
                 (have d5 := hash_state hH5 5 (by omega))
                 (have d6 := hash_state hH5 6 (by omega))
                 (have d7 := hash_state hH5 7 (by omega))
                 (have f0 := hH5.free 0)
                 (have f1 := hH5.free 1)
                 (have f2 := hH5.free 2)
                 (have f3 := hH5.free 3)
                 (have f4 := hH5.free 4)
                 (have f5 := hH5.free 5)
                 (have f6 := hH5.free 6)
                 (have f7 := hH5.free 7)))
          go_wp2
          go_roundw
          case rel =>
            have h3 := HM.out
            have h4 := HF.out
            have h5 := HST.out
            refine ⟨c + k, off + c, by omega, by rw [show len - (c + k) = q - k from by omega, show cap - (c + k) = 0 from by omega], fun h => absurd h (by omega), ?_, (((((((hB5.setCell _ _).setCell _ _).setCell _ _).setCell _ _).setCell _ _).setCell _ _).setCell _ _).setCell _ _⟩
            rw [show N + (c + k) = M + k from by omega]
            have h6 := hash_set8 (nextSt K st rw') hH5
            rw [h5.2, h5.1, h3.2.2.2] at h6
            rw [h5.2, h5.1, h3.2.2.2]
            exact hash_full h6 hm (fun _ _ => rfl) hr1 hr2 (by omega)
          case measure => simp only [lenOf]; omega
        · go_wp2_with fail
          go_region_with (first
              | ((go_at_call 111)
                 (refine (hnext _ ?_).mono ?_)
                 (exact ⟨rfl, rfl, rfl, rfl⟩)
                 (rintro e w5 ⟨rfl, hH5, hB5⟩)
                 (have d0 := hash_state hH5 0 (by omega))
                 (have d1 := hash_state hH5 1 (by omega))
                 (have d2 := hash_state hH5 2 (by omega))
                 (have d3 := hash_state hH5 3 (by omega))
                 (have d4 := hash_state hH5 4 (by omega))
                 (have d5 := hash_state hH5 5 (by omega))
                 (have d6 := hash_state hH5 6 (by omega))
                 (have d7 := hash_state hH5 7 (by omega))
                 (have f0 := hH5.free 0)
                 (have f1 := hH5.free 1)
                 (have f2 := hH5.free 2)
                 (have f3 := hH5.free 3)
                 (have f4 := hH5.free 4)
                 (have f5 := hH5.free 5)
                 (have f6 := hH5.free 6)
                 (have f7 := hH5.free 7)))
          go_wp2
          go_roundw
          case rel =>
            have h3 := HM.out
            have h4 := HF.out
            have h5 := HST.out
            refine ⟨c + k, off + c + k, by omega, by rw [show len - (c + k) = q - k from by omega, show cap - (c + k) = p - k from by omega], fun h => by omega, ?_, (((((((hB5.setCell _ _).setCell _ _).setCell _ _).setCell _ _).setCell _ _).setCell _ _).setCell _ _).setCell _ _⟩
            rw [show N + (c + k) = M + k from by omega]
            have h6 := hash_set8 (nextSt K st rw') hH5
            rw [h5.2, h5.1, h3.2.2.2] at h6
            rw [h5.2, h5.1, h3.2.2.2]
            exact hash_full h6 hm (fun _ _ => rfl) hr1 hr2 (by omega)
          case measure => simp only [lenOf]; omega
      · have hkq2 : k = q := by have e := HKE.out; omega
        have hm0 : ((M : Int) + (k : Int)) % 64 = ((r + k : Nat) : Int) := by omega
        have hm1 : ¬ ((r + k : Nat) : Int) = 0 := by omega
        have HH : Hid (k = q) := hkq2
        clear h3 hkq2 hfull
        by_cases hpk : p = k
        · go_wp2
          go_roundw
          case rel =>
            have h3 := HM.out
            have h4 := HH.out
            refine ⟨c + k, off + c, by omega, by rw [show len - (c + k) = q - k from by omega, show cap - (c + k) = 0 from by omega], fun h => absurd h (by omega), ?_, hB3⟩
            rw [show N + (c + k) = M + k from by omega]
            rw [h3.2.2.2] at hH3
            exact hash_part hH3 hm hr1 hr2 (by omega)
          case measure => simp only [lenOf]; omega
        · go_wp2
          go_roundw
          case rel =>
            have h3 := HM.out
            have h4 := HH.out
            refine ⟨c + k, off + c + k, by omega, by rw [show len - (c + k) = q - k from by omega, show cap - (c + k) = p - k from by omega], fun h => absurd h (by omega), ?_, hB3⟩
            rw [show N + (c + k) = M + k from by omega]
            rw [h3.2.2.2] at hH3
            exact hash_part hH3 hm hr1 hr2 (by omega)
          case measure => simp only [lenOf]; omega
    · obtain rfl : c = len := by omega
      have hll : c - c = 0 := by omega
      rw [hll]
      go_wp2
      go_end0
      exact ⟨rfl, ⟨rest, hr1, hr2, hH⟩, hbut⟩
end Go.Proofs.YtoiaclmfljoomaaDoor

/- A hash's Sum, and Sum of bytes at once. -/
namespace Go.Proofs.YtoiaclmfljoomaaDoor
open Go.ChangeShapes Go.WideShapes Go.ChangeAt Go.RowKit

theorem stAt_congr (H0 K m m' : Nat → Nat) : ∀ i, (∀ j, j < 64 * i → m j = m' j) → stAt H0 K m i = stAt H0 K m' i := by
  intro i
  induction i with
  | zero => intro _; rfl
  | succ i ih =>
    intro h
    have e := ih (fun j hj => h j (by omega))
    show nextSt K (stAt H0 K m i) _ = nextSt K (stAt H0 K m' i) _
    rw [e]
    exact nextSt_congr K _ _ _ (fun j hj => h _ (by omega))

theorem Hash.congr {H0 K m m' : Nat → Nat} {w : World} {g N : Nat} (h : Hash H0 K w g m N) (hm : ∀ j, j < N → m j = m' j) : Hash H0 K w g m' N := by
  obtain ⟨rest, h1, h2, h3⟩ := h
  refine ⟨rest, h1, fun j hj => (h2 j hj).trans (hm _ (by omega)), ?_⟩
  rw [← stAt_congr H0 K m m' (N / 64) (fun j hj => hm j (by omega))]
  exact h3

/-- The padded message. -/
def padm (m : Nat → Nat) (N : Nat) : Nat → Nat := fun j => if j < N then m j else padB N (j - N)

/-- The digest's bytes. -/
def SHA (H0 K m : Nat → Nat) (N : Nat) : Nat → Nat := dig (stAt H0 K (padm m N) ((N + plen N) / 64))

theorem SHA_congr (H0 K m m' : Nat → Nat) (N : Nat) (h : ∀ j, j < N → m j = m' j) : SHA H0 K m N = SHA H0 K m' N := by
  have e : padm m N = padm m' N := by
    funext j
    unfold padm
    by_cases hj : j < N
    · rw [if_pos hj, if_pos hj, h j hj]
    · rw [if_neg hj, if_neg hj]
  unfold SHA
  rw [e]

theorem padB_lt (N j : Nat) : padB N j < 256 := by
  unfold padB
  split
  · omega
  · split
    · omega
    · exact Nat.mod_lt _ (by decide)

theorem padm_lt (m : Nat → Nat) (N : Nat) (hm : ∀ j, m j < 256) (j : Nat) : padm m N j < 256 := by
  unfold padm
  split
  · exact hm _
  · exact padB_lt _ _

theorem write_zero (g : Nat) (a : Option Addr) (cap : Nat) (w : World) :
    Calls Tryd.prog 95 #[.pointer (some ⟨g, 0, none⟩), .slice a 0 cap] w fun e w' => e = .returned (.tuple #[]) ∧ w' = w := by
  go_enter Tryd.func95, Tryd.ntmps95
  go_wp2
  go_loopw [1] (fun s wr => s = .slice a 0 cap ∧ wr = w) (fun s _ => lenOf s)
  case atStart => exact ⟨rfl, rfl⟩
  case round =>
    obtain ⟨rfl, rfl⟩ := hrel
    go_wp2
    go_end0
    exact ⟨rfl, rfl⟩

theorem write_nil (s : Value) (w : World) : Calls Tryd.prog 95 #[.pointer none, s] w fun e w' => e = .returned (.tuple #[]) ∧ w' = w := by
  go_enter Tryd.func95, Tryd.ntmps95
  go_wp2
  exact bodyPost_ret (results_none rfl _ _ _) rfl ⟨rfl, rfl⟩

theorem sum_nil (w : World) : Calls Tryd.prog 96 #[.pointer none] w fun e w' => e = .returned (.agg (cellsN .u8 32 fun _ => 0)) ∧ Below w.heap.size w w' := by
  have hN : Has (w.alloc (.cells (cellsN .u8 32 fun _ => 0) 108)) w.heap.size 108 (cellsN .u8 32 fun _ => 0) := Has.new _ _ _
  go_enter Tryd.func96, Tryd.ntmps96
  go_wp2_with (refine wpList_store_rowG rfl 108 _ _ rfl (w.heap.size) (cellsN .u8 32 fun _ => 0) rfl rfl 108 _ hN (by rw [cellsN_size]; exact Tryd.size108) (by simp [cellsN_size]) (cellsN_one _ _ _) ?_; intro w2 hw2; have hH2 : Has w2 w.heap.size 108 (cellsN .u8 32 fun _ => 0) := (by rw [hw2]; exact hN.setRow _); have hB2 : Below w.heap.size w w2 := (by rw [hw2]; exact below_setRow ((Below.refl _ _).alloc (Nat.le_refl _) _) (Nat.le_refl _) _); clear hw2)
  exact bodyPost_ret (results_cell_row rfl _ _ (w.heap.size) 108 _ (0, 0) _ rfl hH2 Tryd.underlying108 rfl (by rw [cellsN_size]; exact Tryd.size108)) rfl ⟨rfl, hB2⟩

theorem But.below {g B : Nat} {w w' : World} (h : But g w w') (hg : B ≤ g) (hB : B ≤ w.heap.size) : Below B w w' := ⟨h.1, h.2.1, h.2.2.1, h.2.2.2.1, fun k hk => h.2.2.2.2 k (by omega) (by omega)⟩

/-- Behind the copy of the hash. -/
def Sum2 (H0 K : Nat → Nat) (w w2 : World) (m : Nat → Nat) (g N : Nat) : Prop :=
  Has w2 w.heap.size 108 (cellsN .u8 32 fun _ => 0) ∧ Hash H0 K w2 (w.heap.size + 1) (padm m N) N ∧ w2.cell? ⟨g, 72, none⟩ = some (.int .u64 (N : Nat)) ∧ Below w.heap.size w w2 ∧ w2.heap.size = w.heap.size + 2 ∧ Glob H0 K w2

theorem padm_old (m : Nat → Nat) (N j : Nat) (h : j < N) : m j = padm m N j := by unfold padm; rw [if_pos h]

theorem Glob.below {H0 K : Nat → Nat} {B : Nat} {w w' : World} (h : Glob H0 K w) (hb : Below B w w') (hB : 1 < B) : Glob H0 K w' :=
  ⟨Nat.lt_of_lt_of_le h.1 hb.size, fun j hj => (hb.cell (show 0 < B by omega)).trans (h.2.1 j hj), fun j hj => (hb.cell (show 1 < B from hB)).trans (h.2.2 j hj)⟩

theorem sum2_of {H0 K m rest : Nat → Nat} {w : World} {g N : Nat} (hG : Glob H0 K w) (h1 : ∀ j, j < 64 → rest j < 256) (h2 : ∀ j, j < N % 64 → rest j = m (64 * (N / 64) + j))
    (hH : Has w g 154 (hcells (stAt H0 K m (N / 64)) rest N)) :
    Sum2 H0 K w (((w.alloc (.cells (cellsN .u8 32 fun _ => 0) 108)).alloc (.cells (hcells (fun _ => 0) (fun _ => 0) 0) 154)).setRow (w.heap.size + 1) (hcells (stAt H0 K m (N / 64)) rest N)) m g N := by
  have hlt := hH.lt
  have hn : Has ((w.alloc (.cells (cellsN .u8 32 fun _ => 0) 108)).alloc (.cells (hcells (fun _ => 0) (fun _ => 0) 0) 154)) (w.heap.size + 1) 154 (hcells (fun _ => 0) (fun _ => 0) 0) := Has.new_at (by simp)
  have hb : Below w.heap.size w (((w.alloc (.cells (cellsN .u8 32 fun _ => 0) 108)).alloc (.cells (hcells (fun _ => 0) (fun _ => 0) 0) 154)).setRow (w.heap.size + 1) (hcells (stAt H0 K m (N / 64)) rest N)) :=
    below_setRow (((Below.refl _ _).alloc (Nat.le_refl _) _).alloc (by simp) _) (by omega) _
  refine ⟨((Has.new_at rfl).alloc _).setRow_other (by omega) _, Hash.congr ⟨rest, h1, h2, hn.setRow _⟩ (fun j hj => padm_old m N j hj), (hb.cell hlt).trans (hash_size hH), hb, ?_, hG.below hb hG.1⟩
  simp [World.setRow]

theorem Sum2.pad {H0 K m : Nat → Nat} {w w2 w3 : World} {g N : Nat} (h : Sum2 H0 K w w2 m g N) (hp : Has w3 w2.heap.size 5 (cellsN .u8 (plen N) (padB N))) (hb : Below w2.heap.size w2 w3) :
    Glob H0 K w3 ∧ w2.heap.size < w3.heap.size ∧ w2.heap.size ≠ w.heap.size + 1 ∧ Hash H0 K w3 (w.heap.size + 1) (padm m N) N ∧
      (∀ j, j < plen N → w3.cell? ⟨w2.heap.size, 0 + j, none⟩ = some (.int .u8 (padm m N (N + j) : Nat))) ∧
      ∀ w4, But (w.heap.size + 1) w3 w4 → Has w4 w.heap.size 108 (cellsN .u8 32 fun _ => 0) ∧ Below w.heap.size w w4 := by
  obtain ⟨a, ⟨rest, r1, r2, r3⟩, _, d, e, f⟩ := h
  have hs := hb.size
  have h1 := f.1
  refine ⟨f.below hb f.1, hp.lt, by omega, ⟨rest, r1, r2, r3.below hb r3.lt⟩, ?_, ?_⟩
  · intro j hj
    rw [Nat.zero_add, hp.num j hj]
    unfold padm
    rw [if_neg (by omega), show N + j - N = j from by omega]
  · intro w4 hb4
    have hb5 := hb4.below (B := w.heap.size + 1) (Nat.le_refl _) (by omega)
    exact ⟨(a.below hb a.lt).below hb5 (by omega), (d.trans (hb.mono (by omega))).trans (hb5.mono (by omega))⟩

theorem zeros32 : cellsN .u8 32 (fun _ => 0) = (List.replicate 32 (Value.int .u8 0)).toArray := zeros _ _

set_option maxRecDepth 100000 in
set_option maxHeartbeats 1600000 in
theorem hsum_any (H0 K m : Nat → Nat) (g N : Nat) (w : World) (hG : Glob H0 K w) (hH0 : ∀ j, j < 8 → H0 j < 4294967296) (hm : ∀ j, m j < 256) (hg : 1 < g) (hN : N < 1152921504606846000) (hh : Hash H0 K w g m N) :
    Calls Tryd.prog 96 #[.pointer (some ⟨g, 0, none⟩)] w fun e w' => e = .returned (.agg (cellsN .u8 32 (SHA H0 K m N))) ∧ Below w.heap.size w w' := by
  obtain ⟨rest, h1, h2, hH⟩ := hh
  have hz := (zero_of_info Tryd.zero154).1
  rw [zlit_eq] at hz
  have hHa := hH.alloc (.cells (cellsN .u8 32 fun _ => 0) 108)
  have hg2 := hH.lt
  have hst0 : Has ((w.alloc (.cells (cellsN .u8 32 fun _ => 0) 108)).alloc (.cells (hcells (fun _ => 0) (fun _ => 0) 0) 154)) (w.heap.size + 1) 154 (hcells (fun _ => 0) (fun _ => 0) 0) := Has.new_at (by simp)
  go_enter Tryd.func96, Tryd.ntmps96
  go_wp2_with (first
    | (refine wpList_load_row rfl 154 _ rfl g rfl 154 _ (0, 0) _ hHa Tryd.underlying154 rfl (by rw [hcells_size]; exact Tryd.size154) ?_)
    | ((refine wpList_store_rowG rfl 154 _ _ rfl (w.heap.size + 1) (hcells (stAt H0 K m (N / 64)) rest N) rfl rfl 154 _ hst0 (by rw [hcells_size]; exact Tryd.size154) (by simp [hcells_size]) (hcells_one _ _ _) ?_)
       (intro w2 hw2)
       (have hS2 : Sum2 H0 K w w2 m g N := (by rw [hw2]; exact sum2_of hG h1 h2 hH))
       (have hsz2 := hS2.2.2.1)
       (clear hw2))
    | ((go_at_call 112)
       (refine (padding_any N w2 (by omega)).mono ?_)
       (rintro e w3 ⟨rfl, hp3, hb3⟩)
       (have hS3 := hS2.pad hp3 hb3)
       (clear hp3 hb3))
    | ((go_at_call 95)
       (refine (write_pos H0 K (padm m N) (w.heap.size + 1) N w2.heap.size 0 (plen N) (plen N) w3 hS3.1 hH0 (padm_lt m N hm) (by omega) hS3.2.1 hS3.2.2.1 (Nat.le_refl _) (by have := plen_ge N; omega) hS3.2.2.2.1 hS3.2.2.2.2.1).mono ?_)
       (rintro e w4 ⟨rfl, ⟨rest4, _, _, hH4⟩, hb4⟩)
       (have hS4 := hS3.2.2.2.2.2 w4 hb4)
       (clear hb4)
       (have d0 := hash_state hH4 0 (by omega))
       (have d1 := hash_state hH4 1 (by omega))
       (have d2 := hash_state hH4 2 (by omega))
       (have d3 := hash_state hH4 3 (by omega))
       (have d4 := hash_state hH4 4 (by omega))
       (have d5 := hash_state hH4 5 (by omega))
       (have d6 := hash_state hH4 6 (by omega))
       (have d7 := hash_state hH4 7 (by omega)))
    | ((go_at_call 113)
       (have hdg := digest_any (stAt H0 K (padm m N) ((N + plen N) / 64)) w4 (fun j hj => stAt_lt H0 K _ hH0 _ j hj))
       (rw [cells8] at hdg)
       (refine hdg.mono ?_)
       (rintro e w5 ⟨rfl, hb5⟩)
       (have hR5 : Has w5 w.heap.size 108 (cellsN .u8 32 fun _ => 0) := hS4.1.below hb5 hS4.1.lt)
       (have hB5 : Below w.heap.size w w5 := hS4.2.trans (hb5.mono hS4.2.size))
       (clear hb5 hdg))
    | ((refine wpList_store_rowG rfl 108 _ _ rfl (w.heap.size) (cellsN .u8 32 (dig (stAt H0 K (padm m N) ((N + plen N) / 64)))) rfl rfl 108 _ hR5 (by rw [cellsN_size]; exact Tryd.size108) (by simp [cellsN_size]) (cellsN_one _ _ _) ?_)
       (intro w6 hw6)
       (have hR6 : Has w6 w.heap.size 108 (cellsN .u8 32 (dig (stAt H0 K (padm m N) ((N + plen N) / 64)))) := (by rw [hw6]; exact hR5.setRow _))
       (have hB6 : Below w.heap.size w w6 := (by rw [hw6]; exact below_setRow hB5 (Nat.le_refl _) _))
       (clear hw6)))
  exact bodyPost_ret (results_cell_row rfl _ _ (w.heap.size) 108 _ (0, 0) _ rfl hR6 Tryd.underlying108 rfl (by rw [cellsN_size]; exact Tryd.size108)) rfl ⟨rfl, hB6⟩


theorem write_any {H0 K m : Nat → Nat} {g N len : Nat} {w : World} {a : Option Addr} (cap : Nat) (hG : Glob H0 K w) (hH0 : ∀ j, j < 8 → H0 j < 4294967296) (hm : ∀ j, m j < 256) (hg : 1 < g)
    (hcap : len ≤ cap) (hN : N + len < 1152921504606846976) (hh : Hash H0 K w g m N) (hb : Bytes w a len fun j => m (N + j)) (hbg : len = 0 ∨ ∀ b off, a = some ⟨b, off, none⟩ → b ≠ g) :
    Calls Tryd.prog 95 #[.pointer (some ⟨g, 0, none⟩), .slice a len cap] w fun e w' => e = .returned (.tuple #[]) ∧ Hash H0 K w' g m (N + len) ∧ But g w w' := by
  by_cases h0 : len = 0
  · subst h0
    refine (write_zero g a cap w).mono ?_
    rintro e w' ⟨rfl, rfl⟩
    exact ⟨rfl, hh, But.refl _ _⟩
  · rcases hb with h | ⟨b, off, rfl, h2, h3⟩
    · exact absurd h h0
    · exact write_pos H0 K m g N b off len cap w hG hH0 hm hg h2 (hbg.resolve_left h0 b off rfl) hcap hN hh h3

theorem Bytes.apart {w : World} {a : Option Addr} {len g : Nat} {m : Nat → Nat} (h : Bytes w a len m) (hg : w.heap.size ≤ g) : len = 0 ∨ ∀ b off, a = some ⟨b, off, none⟩ → b ≠ g := by
  rcases h with h | ⟨b', off', h1, h2, _⟩
  · exact .inl h
  · refine .inr fun b off e => ?_
    rw [h1] at e
    simp at e
    omega

/-- Behind New, in Sum. -/
def Sum1 (H0 K : Nat → Nat) (w w1 : World) (m : Nat → Nat) : Prop :=
  Has w1 w.heap.size 108 (cellsN .u8 32 fun _ => 0) ∧ Hash H0 K w1 (w.heap.size + 1) m 0 ∧ Below w.heap.size w w1 ∧ Glob H0 K w1 ∧ w1.heap.size = w.heap.size + 2

theorem sum1_of {H0 K : Nat → Nat} {w : World} (m : Nat → Nat) (hG : Glob H0 K w) : Sum1 H0 K w ((w.alloc (.cells (cellsN .u8 32 fun _ => 0) 108)).alloc (.cells (hcells H0 (fun _ => 0) 0) 154)) m := by
  have hb : Below w.heap.size w ((w.alloc (.cells (cellsN .u8 32 fun _ => 0) 108)).alloc (.cells (hcells H0 (fun _ => 0) 0) 154)) := ((Below.refl _ _).alloc (Nat.le_refl _) _).alloc (by simp) _
  exact ⟨(Has.new_at rfl).alloc _, ⟨fun _ => 0, fun _ _ => by show 0 < 256; decide, fun j hj => by omega, Has.new_at (by simp)⟩, hb, hG.below hb hG.1, by simp⟩

theorem Glob.alloc {H0 K : Nat → Nat} {w : World} (h : Glob H0 K w) (o : Obj) : Glob H0 K (w.alloc o) := h.below ((Below.refl w.heap.size w).alloc (Nat.le_refl _) o) h.1

theorem new_sum {H0 K : Nat → Nat} {w : World} (m : Nat → Nat) (hG : Glob H0 K w) : Calls Tryd.prog 94 #[] (w.alloc (.cells (cellsN .u8 32 fun _ => 0) 108))
    fun e w1 => e = .returned (.pointer (some ⟨w.heap.size + 1, 0, none⟩)) ∧ Sum1 H0 K w w1 m := by
  refine (new_any H0 K _ (hG.alloc _)).mono ?_
  rintro e w1 ⟨rfl, rfl⟩
  exact ⟨by simp, sum1_of m hG⟩

set_option maxRecDepth 100000 in
set_option maxHeartbeats 1600000 in
theorem sum_any {H0 K m : Nat → Nat} {len : Nat} {w : World} {a : Option Addr} (cap : Nat) (hG : Glob H0 K w) (hH0 : ∀ j, j < 8 → H0 j < 4294967296) (hm : ∀ j, m j < 256)
    (hcap : len ≤ cap) (hN : len < 1152921504606846000) (hb : Bytes w a len m) :
    Calls Tryd.prog 66 #[.slice a len cap] w fun e w' => e = .returned (.agg (cellsN .u8 32 (SHA H0 K m len))) ∧ Below w.heap.size w w' := by
  have hnew := new_sum m hG
  go_enter Tryd.func66, Tryd.ntmps66
  go_wp2_with (first
    | ((go_at_call 94)
       (refine hnew.mono ?_)
       (rintro e w1 ⟨rfl, hS1⟩)
       (have hwr := write_any cap hS1.2.2.2.1 hH0 hm (by have := hG.1; omega) hcap (by omega) hS1.2.1 (by simpa using hb.below hS1.2.2.1 (Nat.le_refl _)) (hb.apart (by omega))))
    | ((go_at_call 95)
       (refine hwr.mono ?_)
       (rintro e w2 ⟨rfl, hh2, hb2⟩)
       (have hS2 := hS1.2.2.2.1.but hb2 (by have := hG.1; omega))
       (have hB2 : Below w.heap.size w w2 := hS1.2.2.1.trans (hb2.below (by omega) (by have := hS1.2.2.2.2; omega)))
       (have hR2 : Has w2 w.heap.size 108 (cellsN .u8 32 fun _ => 0) := hS1.1.below (hb2.below (B := w.heap.size + 1) (Nat.le_refl _) (by have := hS1.2.2.2.2; omega)) (by omega))
       (rw [Nat.zero_add] at hh2)
       (clear hb2 hwr))
    | ((go_at_call 96)
       (refine (hsum_any H0 K m (w.heap.size + 1) len w2 hS2 hH0 hm (by have := hG.1; omega) hN hh2).mono ?_)
       (rintro e w3 ⟨rfl, hb3⟩)
       (have hR3 : Has w3 w.heap.size 108 (cellsN .u8 32 fun _ => 0) := hR2.below hb3 hR2.lt)
       (have hB3 : Below w.heap.size w w3 := hB2.trans (hb3.mono hB2.size))
       (clear hb3))
    | ((refine wpList_store_rowG rfl 108 _ _ rfl (w.heap.size) (cellsN .u8 32 (SHA H0 K m len)) rfl rfl 108 _ hR3 (by rw [cellsN_size]; exact Tryd.size108) (by simp [cellsN_size]) (cellsN_one _ _ _) ?_)
       (intro w6 hw6)
       (have hR6 : Has w6 w.heap.size 108 (cellsN .u8 32 (SHA H0 K m len)) := (by rw [hw6]; exact hR3.setRow _))
       (have hB6 : Below w.heap.size w w6 := (by rw [hw6]; exact below_setRow hB3 (Nat.le_refl _) _))
       (clear hw6)))
  exact bodyPost_ret (results_cell_row rfl _ _ (w.heap.size) 108 _ (0, 0) _ rfl hR6 Tryd.underlying108 rfl (by rw [cellsN_size]; exact Tryd.size108)) rfl ⟨rfl, hB6⟩
end Go.Proofs.YtoiaclmfljoomaaDoor

/- Byte slices that a call makes; appending bytes to them. -/
namespace Go.Proofs.YtoiaclmfljoomaaDoor
open Go.ChangeShapes Go.WideShapes Go.ChangeAt Go.RowKit
set_option linter.unusedVariables false













theorem own_but {w w' : World} {base g0 n : Nat} {v : Value} {xs : List Value} (h : w.ownsRow base 5 1 v n xs) (hb : But g0 w w') (hB : g0 < base) : w'.ownsRow base 5 1 v n xs := by
  refine ⟨h.1, ?_⟩
  rcases h.2 with h0 | ⟨g, cap, cur, hv, h1, hg, r⟩
  · exact .inl h0
  · exact .inr ⟨g, cap, cur, hv, h1, (hb.2.2.2.2 g (Array.getElem?_eq_some_iff.1 hg).1 (by omega)).trans hg, r⟩

theorem Hash.below {H0 K m : Nat → Nat} {w w' : World} {g N B : Nat} (h : Hash H0 K w g m N) (hb : Below B w w') (hg : g < B) : Hash H0 K w' g m N := by
  obtain ⟨rest, h1, h2, h3⟩ := h
  exact ⟨rest, h1, h2, h3.below hb hg⟩

theorem Hash.lt {H0 K m : Nat → Nat} {w : World} {g N : Nat} (h : Hash H0 K w g m N) : g < w.heap.size := by
  obtain ⟨rest, h1, h2, h3⟩ := h
  exact h3.lt

theorem Hash.but {H0 K m : Nat → Nat} {w w' : World} {g g0 N : Nat} (h : Hash H0 K w g m N) (hb : But g0 w w') (hg : g ≠ g0) : Hash H0 K w' g m N := by
  obtain ⟨rest, h1, h2, h3⟩ := h
  exact ⟨rest, h1, h2, (hb.2.2.2.2 g h3.lt hg).trans h3⟩

theorem Hash.grown {H0 K m : Nat → Nat} {w w' : World} {g N : Nat} {r : Option Nat} (h : Hash H0 K w g m N) (hb : w.grownBy w' r) (hg : some g ≠ r) : Hash H0 K w' g m N := by
  obtain ⟨rest, h1, h2, h3⟩ := h
  exact ⟨rest, h1, h2, (hb.block g h3.lt hg).trans h3⟩





end Go.Proofs.YtoiaclmfljoomaaDoor

/- Two digests that are the same are equal. -/
namespace Go.Proofs.YtoiaclmfljoomaaDoor
open Go.ChangeShapes Go.WideShapes Go.ChangeAt Go.RowKit

theorem mapM_some {α β : Type} (F : α → Option β) (G : α → β) : ∀ l : List α, (∀ x ∈ l, F x = some (G x)) → l.mapM F = some (l.map G) := by
  intro l
  induction l with
  | nil => intro _; simp
  | cons x l ih =>
    intro h
    rw [List.mapM_cons, h x (by simp), ih (fun y hy => h y (by simp [hy]))]
    rfl

theorem Tryd.cells108 : Tryd.prog.cellsOf 108 = 32 := by kernel_rfl
theorem Tryd.cells5 : Tryd.prog.cellsOf 5 = 1 := by kernel_rfl

theorem one_at (f : Nat → Nat) (i : Nat) (h : i < 32) : ((cellsN .u8 32 f).toList.drop (i * 1)).take 1 = [Value.int .u8 (f i : Nat)] := by
  have hl : i < (cellsN .u8 32 f).toList.length := by simp [cellsN_size, h]
  rw [Nat.mul_one, List.drop_eq_getElem_cons hl, List.take_succ_cons, List.take_zero]
  have := cellsN_get .u8 32 f i h
  rw [← Array.getElem?_toList, List.getElem?_eq_getElem hl] at this
  rw [Option.some.inj this]

theorem key_digest (f : Nat → Nat) (hf : ∀ j, j < 32 → f j < 256) : Tryd.prog.keyLits 2 108 (cellsN .u8 32 f).toList = some ((List.range 32).map fun i => [Lit.int .u8 (f i : Nat)]).flatten := by
  unfold Program.keyLits
  rw [Tryd.underlying108]
  simp only [Tryd.cells108, Tryd.cells5]
  rw [if_pos (by simp [cellsN_size]), mapM_some _ (fun i => [Lit.int .u8 (f i : Nat)]) (List.range 32) ?_]
  · rfl
  · intro i hi
    have hi' : i < 32 := by simpa using hi
    have hb := hf i hi'
    rw [one_at f i hi']
    unfold Program.keyLits
    rw [Tryd.underlying5]
    simp [Lit.wf, IntKind.min, IntKind.max, IntKind.signed, IntKind.bits]
    omega

theorem formed_digest (f : Nat → Nat) : (Value.agg (cellsN .u8 32 f)).formed Tryd.prog 108 = true := by
  unfold Value.formed
  simp only [Tryd.underlying108, Tryd.cells108, cellsN_size]
  rfl

theorem eq_digest (f : Nat → Nat) (w : World) (hf : ∀ j, j < 32 → f j < 256) : (Op.equalIn 10000 108 (.agg (cellsN .u8 32 f)) (.agg (cellsN .u8 32 f))).run Tryd.prog w = .ok true w := by
  obtain ⟨r, hr, hiff⟩ := run_equalIn_deep (P := Tryd.prog) 9998 2 108 (by kernel_rfl) w 2 2 (.agg (cellsN .u8 32 f)) (.agg (cellsN .u8 32 f)) _ _ (formed_digest f) (formed_digest f) (key_digest f hf) (key_digest f hf)
  rw [hiff.2 rfl] at hr
  exact hr

theorem SHA_lt (H0 K m : Nat → Nat) (N j : Nat) : SHA H0 K m N j < 256 := Nat.mod_lt _ (by decide)
end Go.Proofs.YtoiaclmfljoomaaDoor

/- Moves through a region that draws its order, what is laid said outright. -/
namespace Go.Proofs.YtoiaclmfljoomaaDoor
open Go.ChangeShapes Go.WideShapes Go.ChangeAt Go.RowKit
set_option linter.unusedVariables false

section
variable {P : Program} {ops : Array Oper} {Q : Exit → Act → World → Prop} {md : Region.Mode} {S : World → Prop}








end



theorem run_neq_same {o : Oper} {a : Act} (x y : Operand) (ho : o.op = .binOp .neq 108 x y 108) (X : Array Value) (hx : a.eval x = .agg X) (hy : a.eval y = .agg X) (heq : ∀ w, (Op.equalIn 10000 108 (.agg X) (.agg X)).run Tryd.prog w = .ok true w) (w : World) :
    (execOp a.eval o).run Tryd.prog w = .ok (.value (.bool false)) w := by
  unfold execOp
  simp only [ho, hx, hy]
  go_simp

theorem run_eql_same {o : Oper} {a : Act} (x y : Operand) (ho : o.op = .binOp .eql 108 x y 108) (X : Array Value) (hx : a.eval x = .agg X) (hy : a.eval y = .agg X) (heq : ∀ w, (Op.equalIn 10000 108 (.agg X) (.agg X)).run Tryd.prog w = .ok true w) (w : World) :
    (execOp a.eval o).run Tryd.prog w = .ok (.value (.bool true)) w := by
  unfold execOp
  simp only [ho, hx, hy]
  go_simp
end Go.Proofs.YtoiaclmfljoomaaDoor

/- Appends of bytes, and of noughts, to a row of the call's own, in a region that draws its order. -/
namespace Go.Proofs.YtoiaclmfljoomaaDoor
open Go.ChangeShapes Go.WideShapes Go.ChangeAt Go.RowKit
set_option linter.unusedVariables false

theorem run_append_op {o : Oper} {a : Act} {w w' : World} (s x : Operand) (t tn : TypeId) (ho : o.op = .call { callee := .builtin .append, args := #[s, x], argTypes := #[t, tn] }) (vs vx : Value) (hs : a.eval s = vs) (hx : a.eval x = vx)
    (v' : Value) (hr : ∀ ty, (Builtin.append_ #[t, tn] ty #[vs, vx]).run Tryd.prog w = .ok v' w') : (execOp a.eval o).run Tryd.prog w = .ok (.value v') w' := by
  unfold execOp
  simp only [ho, resolve, invoke, builtin, Sem.run_bind, Sem.run_pure, Result.andThen_ok, List.map_toArray, List.map_cons, List.map_nil, hs, hx, hr]

theorem bytes_news {w : World} {ad : Addr} {L : Nat} {g : Nat → Nat} (hb : Bytes w (some ad) L g) : ∀ j u, (bl g L)[j]? = some u → w.cell? (ad.add j) = some u := by
  intro j u hj
  by_cases hjl : j < L
  · rw [bl_get g L j hjl] at hj
    rcases hb with h0 | ⟨b, off, e, _, hc⟩
    · omega
    · obtain rfl : ad = ⟨b, off, none⟩ := Option.some.inj e
      have e1 : (⟨b, off, none⟩ : Addr).add j = ⟨b, off + j, none⟩ := by unfold Addr.add; split <;> simp_all
      rw [e1, hc j hjl]
      exact hj
  · rw [List.getElem?_eq_none (by rw [bl_len]; omega)] at hj
    simp at hj

/-- Bytes appended, the run alone. -/
theorem run_append_bytes (w : World) (base : Nat) (v : Value) (n : Nat) (f : Nat → Nat) (hown : w.ownsRow base 5 1 v n (bl f n))
    (A : Option Addr) (L C : Nat) (g : Nat → Nat) (hnil : A = none → L = 0 ∧ C = 0) (hb : Bytes w A L g) (h63 : n + L ≤ 140737488355328) (hbase : base ≤ w.heap.size) :
    ∃ v' w', (∀ ty, (Builtin.append_ #[33, 33] ty #[v, .slice A L C]).run Tryd.prog w = .ok v' w') ∧ w'.ownsRow base 5 1 v' (n + L) (bl (cat f n g) (n + L)) ∧ w.grownBy w' v.ownBlock := by
  obtain ⟨i0, hi, hz0, hz1, hz2⟩ := info_parts Tryd.info5
  cases A with
  | none =>
    obtain ⟨rfl, rfl⟩ := hnil rfl
    refine ⟨v, w, fun ty => ?_, by rw [bl_cat_zero]; exact hown, grownBy_refl _ _⟩
    rcases hown.2 with ⟨rfl, rfl⟩ | ⟨g', cap, cur, rfl, hbg, hg, hnc, hcm, hcs, htake⟩
    · simp [Builtin.append_, run_underlying Tryd.underlying33, sizeOf, typeInfo, hi, Builtin.lenOf, Builtin.firstCells]
    · simp [Builtin.append_, run_underlying Tryd.underlying33, sizeOf, typeInfo, hi, Builtin.lenOf, Builtin.firstCells, hnc, storeCells]
  | some ad =>
    obtain ⟨v', w', hr, h2, h3, _⟩ := run_append_own (P := Tryd.prog) w base 33 0 5 i0 (.int .u8 0) 1 1 Tryd.underlying33 hi hz0 hz1 hz2 rfl (by decide) v n _ hown ad L C (bl g L) (bl_len g L) (bytes_news hb) (bl_one g L) (by unfold maxLen; omega) (by omega) hbase
    rw [bl_cat] at h2
    exact ⟨v', w', fun ty => hr, h2, h3⟩

theorem zero_bl (k : Nat) : (Builtin.zeroCells (Value.int .u8 0).cells k).toList = bl (fun _ => 0) k := by
  unfold bl Builtin.zeroCells
  apply List.ext_getElem?
  intro i
  by_cases h : i < k
  · simp [h, Value.cells, Nat.mod_one]
  · simp [h, Value.cells]

/-- Noughts appended, by their number, the run alone. -/
theorem run_append_noughts (w : World) (base : Nat) (v : Value) (n : Nat) (f : Nat → Nat) (hown : w.ownsRow base 5 1 v n (bl f n)) (k : Nat) (h63 : n + k ≤ 100000000) (hbase : base ≤ w.heap.size) :
    ∃ v' w', (∀ ty, (Builtin.append_ #[33, 3] ty #[v, .int .i64 k]).run Tryd.prog w = .ok v' w') ∧ w'.ownsRow base 5 1 v' (n + k) (bl (cat f n fun _ => 0) (n + k)) ∧ w.grownBy w' v.ownBlock := by
  obtain ⟨i0, hi, hz0, hz1, hz2⟩ := info_parts Tryd.info5
  have hwr : IntKind.i64.wrap (k : Int) = k := by rw [IntKind.wrap_i64]; omega
  have hneg : ¬ ((k : Int) < 0) := by omega
  have h48 : ¬ (281474976710656 < (k : Int) * (i0.bytes : Int)) := by rw [hz2]; omega
  by_cases hk : k = 0
  · subst hk
    refine ⟨v, w, fun ty => ?_, by rw [bl_cat_zero]; exact hown, grownBy_refl _ _⟩
    rcases hown.2 with ⟨rfl, rfl⟩ | ⟨g', cap, cur, rfl, hbg, hg, hnc, hcm, hcs, htake⟩
    · simp [Builtin.append_, run_underlying Tryd.underlying33, run_underlying Tryd.underlying3, sizeOf, typeInfo, hi, asInt, asIntOf, IntKind.wrap_i64]
    · simp [Builtin.append_, run_underlying Tryd.underlying33, run_underlying Tryd.underlying3, sizeOf, typeInfo, hi, asInt, asIntOf, hnc, storeCells, IntKind.wrap_i64]
  have grown : ∀ old, w.ownsRow base 5 1 v n (bl f n) → (w.drew.alloc (.cells ((bl f n).toArray ++ Builtin.zeroCells (Value.int .u8 0).cells k ++ Builtin.zeroCells (Value.int .u8 0).cells (grownCap w (n + k) old 5 - (n + k))) 5)).ownsRow base 5 1 (.slice (some ⟨w.heap.size, 0, none⟩) (n + k) (grownCap w (n + k) old 5)) (n + k) (bl (cat f n fun _ => 0) (n + k)) := by
    intro old _
    have hge := grownCap_ge w (n + k) old 5
    have hcm : grownCap w (n + k) old 5 ≤ maxLen := grownCap_le_maxLen w (n + k) old 5 (by unfold maxLen; omega)
    refine ⟨bl_len _ _, .inr ⟨w.heap.size, _, _, rfl, hbase, heap_alloc_new w.drew _, hge, hcm, ?_, ?_⟩⟩
    · simp only [Array.size_append, List.size_toArray, size_zeroCells, Value.cells]
      simp [bl]
      omega
    · rw [Array.toList_append, Array.toList_append, zero_bl, ← bl_cat, show (n + k) * 1 = (bl f n ++ bl (fun _ => 0) k).length from by simp [bl]]
      exact List.take_left
  rcases hown.2 with ⟨rfl, rfl⟩ | ⟨g, cap, cur, rfl, hbg, hg, hnc, hcm, hcs, htake⟩
  · have hr := fun ty => Lib.run_append_nil_zeros (P := Tryd.prog) w 33 3 ty 5 i0 (.int .u8 0) .i64 .i64 Tryd.underlying33 Tryd.underlying3 hi hz0 k (by omega) (by omega) (by omega) (by rw [hz2]; omega)
    have hgr := grown 0 hown
    simp only [Nat.zero_add] at hgr ⊢
    refine ⟨_, _, hr, ?_, ⟨rfl, rfl, rfl, by simp, fun k' hk' _ => heap_alloc_old w.drew _ hk'⟩⟩
    simpa [bl] using hgr
  · by_cases hroom : n + k ≤ cap
    · have hst := run_storeCells_at Tryd.prog g (n * 1) 5 (bl (fun _ => 0) k) 0 cur w hg (by rw [bl_len, hcs]; omega) (bl_one _ _)
      simp only [Nat.add_zero, Nat.mul_one] at hst
      obtain ⟨R, hR⟩ : ∃ R : Array Value, R = (cur.toList.take n ++ bl (fun _ => 0) k ++ cur.toList.drop (n + (bl (fun _ => 0) k).length)).toArray := ⟨_, rfl⟩
      rw [← hR] at hst
      refine ⟨.slice (some ⟨g, 0, none⟩) (n + k) cap, w.setRow g R, fun ty => ?_, ⟨bl_len _ _, .inr ⟨g, cap, R, rfl, hbg, setRow_heap w g cur R 5 _ hg, hroom, hcm, ?_, ?_⟩⟩, ⟨rfl, rfl, rfl, by simp, fun k' _ hk' => setRow_other w g k' _ (fun e => hk' (by simp [Value.ownBlock, e]))⟩⟩
      · simp only [Builtin.append_]
        simp [run_underlying Tryd.underlying33, run_underlying Tryd.underlying3, sizeOf, typeInfo, zeroValue, hi, hz0, hz1, asInt, asIntOf, hwr, hneg, h48, hroom, hk, Addr.add_lit, zero_bl, hst]
      · rw [hR]
        simp only [List.size_toArray, List.length_append, List.length_take, List.length_drop, Array.length_toList]
        simp [bl]
        omega
      · rw [Nat.mul_one] at htake
        rw [hR, htake, ← bl_cat, show (n + k) * 1 = (bl f n ++ bl (fun _ => 0) k).length from by simp [bl]]
        exact List.take_left
    · have holds : ∀ j u, (bl f n)[j]? = some u → w.cell? ((⟨g, 0, none⟩ : Addr).add j) = some u := hown.cells (g := g) rfl
      have hold := run_firstCells_some (P := Tryd.prog) w.drew i0.size n ⟨g, 0, none⟩ n cap (bl f n) (by rw [hz1]; exact bl_len f n) holds
      have hr := fun ty => Lib.run_append_grow_zeros (P := Tryd.prog) w 33 3 ty 5 i0 (.int .u8 0) .i64 .i64 Tryd.underlying33 Tryd.underlying3 hi hz0 (some ⟨g, 0, none⟩) n cap (bl f n) hold k (by omega) (by omega) (by omega) (by omega) (by rw [hz2]; omega) (growslice_fits (by omega) (by rw [hz2]; omega))
      exact ⟨_, _, hr, grown cap hown, ⟨rfl, rfl, rfl, by simp, fun k' hk' _ => heap_alloc_old w.drew _ hk'⟩⟩
end Go.Proofs.YtoiaclmfljoomaaDoor

/- Devices as the chapter has them: reckoning alone. -/
namespace Go.Proofs.YtoiaclmfljoomaaDoor
set_option linter.unusedVariables false

/-- A write (or a tampering), or a Sync. -/
structure AE where
  i : Nat
  b : Nat → Nat
  sync : Bool
  sure : Bool
  mo : Int

/-- A device: what it held at first, all that came, what is bad, whether it is dead. -/
structure DS where
  n : Nat
  fst : Nat → Nat → Nat
  log : List AE
  bad : Nat → Bool
  dead : Bool

/-- Bytes, and noughts behind them. -/
def full (b : Nat → Nat) (L : Nat) : Nat → Nat := fun j => if j < L then b j else 0

theorem full_lt (b : Nat → Nat) (L : Nat) (h : ∀ j, b j < 256) (j : Nat) : full b L j < 256 := by
  unfold full
  split
  · exact h j
  · decide

def upF (f : Nat → Nat → Nat) (e : AE) : Nat → Nat → Nat := fun i => if e.sync = false ∧ i = e.i then e.b else f i

/-- What the sectors hold. -/
def holds (s : DS) : Nat → Nat → Nat := s.log.foldl upF s.fst

def wrs (l : List AE) : Nat := (l.filter fun e => !e.sync).length

/-- How many are not safe: those behind the last Sync that are not sure. -/
def pend : List AE → Nat
  | [] => 0
  | e :: l => if l.any (·.sync) then pend l else (if e.sync || e.sure then 0 else 1) + pend l

/-- Which of some entries are left: those ahead of the last Sync, the sure ones, and of the others (numbered from k on) those that are kept. -/
def left (keep : Nat → Bool) : Nat → List AE → (Nat → Nat → Nat) → Nat → Nat → Nat
  | _, [], f => f
  | k, e :: l, f =>
    if e.sync then left keep k l f
    else if e.sure || l.any (·.sync) then left keep k l (upF f e)
    else left keep (k + 1) l (if keep k then upF f e else f)

def keepOf (M : Nat → Bool) (L : Nat) : Nat → Bool := fun k => decide (k < L) && M k

def fresh (n : Nat) : DS := ⟨n, fun _ _ => 0, [], fun _ => false, false⟩

/-- The device that is left. -/
def cutL (s : DS) (l : List AE) (keep : Nat → Bool) : DS := ⟨s.n, left keep 0 l s.fst, [], s.bad, s.dead⟩
def cutD (s : DS) (keep : Nat → Bool) : DS := cutL s s.log keep

/-- The entries up to the n-th write, ahead of anything behind it. -/
def upTo : Nat → List AE → List AE
  | 0, _ => []
  | _, [] => []
  | n + 1, e :: l => e :: upTo (if e.sync then n + 1 else n) l
def cutAtD (s : DS) (n : Int) (keep : Nat → Bool) : DS := cutL s (upTo (min n.toNat (wrs s.log)) s.log) keep

def momL (m : Int) (l : List AE) : List AE := l.filter fun e => if e.sync then decide (e.mo < m) else decide (e.mo ≤ m)
def cutMoD (s : DS) (clock : Nat) (m : Int) (keep : Nat → Bool) : DS := cutL s (momL (max (min m clock) 0) s.log) keep

def anewE (e : AE) : AE := { e with mo := if e.sync then -1 else 0 }
def anewD (s : DS) : DS := { s with log := s.log.map anewE }

def addD (s : DS) (e : AE) : DS := { s with log := s.log ++ [e] }
def wroteD (s : DS) (i : Nat) (b : Nat → Nat) (mo : Int) : DS := { addD s ⟨i, b, false, false, mo⟩ with bad := fun k => if k = i then false else s.bad k }
def tampD (s : DS) (i : Nat) (b : Nat → Nat) (mo : Int) : DS := addD s ⟨i, b, false, true, mo⟩
def syncD (s : DS) (mo : Int) : DS := addD s ⟨0, fun _ => 0, true, false, mo⟩
def spoilD (s : DS) (i : Nat) : DS := { s with bad := fun k => if k = i then true else s.bad k }
def killD (s : DS) : DS := { s with dead := true }

/-- What a write answers. -/
def wrErr (s : DS) (i : Int) (L : Nat) : Int := if s.dead then 73 else if i < 0 ∨ (s.n : Int) ≤ i then 71 else if 64 < L then 1 else 0
def rdErr (s : DS) (i : Int) : Int := if s.dead then 73 else if i < 0 ∨ (s.n : Int) ≤ i then 71 else if s.bad i.toNat then 72 else 0

/-! What is kept -/

theorem holds_add (s : DS) (e : AE) : holds (addD s e) = upF (holds s) e := by
  unfold holds addD
  simp [List.foldl_append]

theorem any_snoc_sync (l : List AE) (e : AE) (he : e.sync = true) : (l ++ [e]).any (·.sync) = true := by simp [he]

/-- All that is ahead of a Sync is left. -/
theorem left_ahead (keep : Nat → Bool) (k : Nat) (l m : List AE) (f : Nat → Nat → Nat) (e : AE) (he : e.sync = true) : left keep k (l ++ e :: m) f = left keep k m (l.foldl upF f) := by
  induction l generalizing f with
  | nil =>
    show (if e.sync then left keep k m f else _) = _
    rw [if_pos he]
    rfl
  | cons d l ih =>
    have ha : (l ++ e :: m).any (·.sync) = true := by simp [he]
    show (if d.sync then left keep k (l ++ e :: m) f else if d.sure || (l ++ e :: m).any (·.sync) then left keep k (l ++ e :: m) (upF f d) else _) = _
    by_cases hd : d.sync = true
    · rw [if_pos hd, ih]
      have : upF f d = f := by
        funext i
        unfold upF
        rw [if_neg (by simp [hd])]
      rw [List.foldl_cons, this]
    · rw [if_neg hd, if_pos (by rw [ha]; simp), ih, List.foldl_cons]

/-- What a sector holds in what is left: what it held, or what a write left. -/
theorem left_or (keep : Nat → Bool) (l : List AE) : ∀ (k : Nat) (f : Nat → Nat → Nat) (i : Nat), left keep k l f i = f i ∨ ∃ e ∈ l, e.sync = false ∧ e.i = i ∧ left keep k l f i = e.b := by
  induction l with
  | nil => intro k f i; exact .inl rfl
  | cons d l ih =>
    intro k f i
    have step : ∀ k', left keep k' l (upF f d) i = f i ∨ ∃ e ∈ d :: l, e.sync = false ∧ e.i = i ∧ left keep k' l (upF f d) i = e.b := by
      intro k'
      rcases ih k' (upF f d) i with h | ⟨e, he, h1, h2, h3⟩
      · by_cases hd : d.sync = false ∧ i = d.i
        · exact .inr ⟨d, by simp, hd.1, hd.2.symm, by rw [h]; unfold upF; rw [if_pos hd]⟩
        · exact .inl (by rw [h]; unfold upF; rw [if_neg hd])
      · exact .inr ⟨e, by simp [he], h1, h2, h3⟩
    have keepf : ∀ k', left keep k' l f i = f i ∨ ∃ e ∈ d :: l, e.sync = false ∧ e.i = i ∧ left keep k' l f i = e.b := by
      intro k'
      rcases ih k' f i with h | ⟨e, he, h1⟩
      · exact .inl h
      · exact .inr ⟨e, by simp [he], h1⟩
    unfold left
    split
    · exact keepf k
    · split
      · exact step k
      · split
        · exact step (k + 1)
        · exact keepf (k + 1)

/-- All kept: what is left is what it holds. -/
theorem left_all (keep : Nat → Bool) (l : List AE) : ∀ (k : Nat) (f : Nat → Nat → Nat), (∀ q, k ≤ q → q < k + wrs l → keep q = true) → left keep k l f = l.foldl upF f := by
  induction l with
  | nil => intro k f _; rfl
  | cons d l ih =>
    intro k f h
    have hw : wrs (d :: l) = (if d.sync then 0 else 1) + wrs l := by
      unfold wrs
      cases hd : d.sync <;> simp [hd, Nat.add_comm]
    rw [hw] at h
    unfold left
    split
    · rename_i hd
      rw [if_pos hd] at h
      rw [ih k f (fun q h1 h2 => h q h1 (by omega)), List.foldl_cons]
      congr 1
      funext i
      unfold upF
      rw [if_neg (by simp [hd])]
    · rename_i hd
      rw [if_neg hd] at h
      split
      · rw [ih k _ (fun q h1 h2 => h q h1 (by omega)), List.foldl_cons]
      · rw [if_pos (h k (Nat.le_refl _) (by omega)), ih (k + 1) _ (fun q h1 h2 => h q (by omega) (by omega)), List.foldl_cons]

theorem wrs_cons (d : AE) (l : List AE) : wrs (d :: l) = (if d.sync then 0 else 1) + wrs l := by
  unfold wrs
  cases hd : d.sync <;> simp [hd, Nat.add_comm]

theorem upF_sync (f : Nat → Nat → Nat) (d : AE) (h : d.sync = true) : upF f d = f := by
  funext i
  unfold upF
  rw [if_neg (by simp [h])]

theorem fold_none (l : List AE) : ∀ f : Nat → Nat → Nat, wrs l = 0 → l.foldl upF f = f := by
  induction l with
  | nil => intro f _; rfl
  | cons d l ih =>
    intro f h
    rw [wrs_cons] at h
    by_cases hd : d.sync = true
    · rw [List.foldl_cons, upF_sync f d hd, ih f (by rw [if_pos hd] at h; omega)]
    · rw [if_neg hd] at h
      omega

theorem upTo_nil (n : Nat) : upTo n [] = [] := by cases n <;> rfl

theorem upTo_fold (l : List AE) : ∀ f : Nat → Nat → Nat, (upTo (wrs l) l).foldl upF f = l.foldl upF f := by
  induction l with
  | nil => intro f; rw [upTo_nil]
  | cons d l ih =>
    intro f
    rw [wrs_cons]
    by_cases hd : d.sync = true
    · rw [if_pos hd, Nat.zero_add, List.foldl_cons, upF_sync f d hd]
      by_cases h0 : wrs l = 0
      · rw [h0, fold_none l f h0]
        rfl
      · obtain ⟨m, hm⟩ : ∃ m, wrs l = m + 1 := ⟨wrs l - 1, by omega⟩
        rw [hm]
        show (d :: upTo (if d.sync then m + 1 else m) l).foldl upF f = _
        rw [if_pos hd, ← hm, List.foldl_cons, upF_sync f d hd, ih]
    · rw [if_neg hd, Nat.add_comm]
      show (d :: upTo (if d.sync then wrs l + 1 else wrs l) l).foldl upF f = _
      rw [if_neg hd, List.foldl_cons, List.foldl_cons, ih]

theorem upTo_wrs (l : List AE) : ∀ n, wrs (upTo n l) ≤ n := by
  induction l with
  | nil => intro n; rw [upTo_nil]; simp [wrs]
  | cons d l ih =>
    intro n
    cases n with
    | zero => simp [upTo, wrs]
    | succ n =>
      show wrs (d :: upTo (if d.sync then n + 1 else n) l) ≤ n + 1
      rw [wrs_cons]
      by_cases hd : d.sync = true
      · rw [if_pos hd, if_pos hd]
        have := ih (n + 1)
        omega
      · rw [if_neg hd, if_neg hd]
        have := ih n
        omega

theorem wrs_snoc (l : List AE) (e : AE) : wrs (l ++ [e]) = wrs l + (if e.sync then 0 else 1) := by
  unfold wrs
  cases he : e.sync <;> simp [he]

theorem pend_snoc (l : List AE) (e : AE) : pend (l ++ [e]) = if e.sync then 0 else pend l + (if e.sure then 0 else 1) := by
  induction l with
  | nil =>
    show (if ([] : List AE).any (·.sync) then pend [] else (if e.sync || e.sure then 0 else 1) + pend []) = _
    cases h1 : e.sync <;> cases h2 : e.sure <;> simp [pend]
  | cons d l ih =>
    show (if (l ++ [e]).any (·.sync) then pend (l ++ [e]) else (if d.sync || d.sure then 0 else 1) + pend (l ++ [e])) = _
    rw [ih]
    cases h1 : e.sync
    · have ha : (l ++ [e]).any (·.sync) = l.any (·.sync) := by simp [h1]
      rw [ha]
      simp only [Bool.false_eq_true, if_false]
      show _ = (if l.any (·.sync) then pend l else (if d.sync || d.sure then 0 else 1) + pend l) + _
      split <;> omega
    · have ha : (l ++ [e]).any (·.sync) = true := by simp [h1]
      rw [ha]
      simp
end Go.Proofs.YtoiaclmfljoomaaDoor
