/- A hash's block, as its state, its rest and its size; New. -/
import Derived.Test.YtoeanaadlihkeabDoorShaNext
import Derived.Test.YtoeanaadlihkeabDoorShaPad
import Derived.Laws.CopyOwn
import Derived.Deep.MidRow
namespace Go.Proofs.YtoeanaadlihkeabDoor
open Go.ChangeShapes Go.WideShapes Go.ChangeAt Go.RowKit

def hcell (st rest : Nat → Nat) (n j : Nat) : Value := if j < 8 then .int .u32 (st j : Nat) else if j < 72 then .int .u8 (rest (j - 8) : Nat) else .int .u64 (n : Nat)

def hcells (st rest : Nat → Nat) (n : Nat) : Array Value := ((List.range 73).map (hcell st rest n)).toArray

theorem hcells_size (st rest : Nat → Nat) (n : Nat) : (hcells st rest n).size = 73 := by simp [hcells]

theorem hcells_get (st rest : Nat → Nat) (n j : Nat) (h : j < 73) : (hcells st rest n)[j]? = some (hcell st rest n j) := by simp [hcells, h]

theorem hcells_none (st rest : Nat → Nat) (n j : Nat) (h : ¬ j < 73) : (hcells st rest n)[j]? = none := by simp [hcells]; omega

theorem hcells_one (st rest : Nat → Nat) (n : Nat) : (hcells st rest n).all (·.oneCell') = true := by
  rw [Array.all_eq_true_iff_forall_mem]
  intro v hv
  simp only [hcells, List.mem_toArray, List.mem_map] at hv
  obtain ⟨j, _, rfl⟩ := hv
  unfold hcell
  split
  · rfl
  · split <;> rfl

theorem hcells_ext {a : Array Value} {st rest : Nat → Nat} {n : Nat} (hs : a.size = 73) (h : ∀ j, j < 73 → a[j]? = some (hcell st rest n j)) : a = hcells st rest n := by
  apply Array.ext_getElem?
  intro j
  by_cases hj : j < 73
  · rw [h j hj, hcells_get _ _ _ _ hj]
  · rw [hcells_none _ _ _ _ hj]; simp; omega

section
variable {w : World} {g : Nat} {st rest : Nat → Nat} {n : Nat}

theorem hash_state (h : Has w g 58 (hcells st rest n)) (j : Nat) (hj : j < 8) : w.cell? ⟨g, j, none⟩ = some (.int .u32 (st j : Nat)) := by
  rw [h.cell, hcells_get _ _ _ _ (by omega)]; simp [hcell, hj]

theorem hash_rest (h : Has w g 58 (hcells st rest n)) (j : Nat) (hj : j < 64) : w.cell? ⟨g, 8 + j, none⟩ = some (.int .u8 (rest j : Nat)) := by
  rw [h.cell, hcells_get _ _ _ _ (by omega)]
  have h1 : ¬ 8 + j < 8 := by omega
  have h2 : 8 + j < 72 := by omega
  simp only [hcell, if_neg h1, if_pos h2]
  rw [show 8 + j - 8 = j from by omega]

theorem hash_size (h : Has w g 58 (hcells st rest n)) : w.cell? ⟨g, 72, none⟩ = some (.int .u64 (n : Nat)) := by
  rw [h.cell, hcells_get _ _ _ _ (by omega)]; rfl

theorem set_has {cs : Array Value} {t : Nat} (h : Has w g t cs) (j : Nat) (v : Value) : Has (w.setCell ⟨g, j, none⟩ v) g t (cs.setIfInBounds j v) := by
  have h' : w.heap[g]? = some (.cells cs t (0, 0)) := h
  show (w.setCell ⟨g, j, none⟩ _).heap[g]? = _
  simp only [World.setCell, Array.getElem?_modify, h', if_pos, Option.map_some]
  rfl

theorem hash_setSize (h : Has w g 58 (hcells st rest n)) (n' : Nat) : Has (w.setCell ⟨g, 72, none⟩ (.int .u64 (n' : Nat))) g 58 (hcells st rest n') := by
  have := set_has h 72 (.int .u64 (n' : Nat))
  rw [hcells_ext (a := (hcells st rest n).setIfInBounds 72 (.int .u64 (n' : Nat))) (st := st) (rest := rest) (n := n') (by simp [hcells_size]) (fun j hj => by
    rw [Array.getElem?_setIfInBounds, hcells_size, hcells_get _ _ _ _ hj]
    by_cases e : 72 = j
    · subst e; rfl
    · rw [if_neg e]; unfold hcell; by_cases h8 : j < 8
      · rw [if_pos h8, if_pos h8]
      · rw [if_neg h8, if_neg h8, if_pos (by omega), if_pos (by omega)])] at this
  exact this

theorem hash_setState (h : Has w g 58 (hcells st rest n)) (i v : Nat) (hi : i < 8) : Has (w.setCell ⟨g, i, none⟩ (.int .u32 (v : Nat))) g 58 (hcells (upd st i v) rest n) := by
  have := set_has h i (.int .u32 (v : Nat))
  rw [hcells_ext (a := (hcells st rest n).setIfInBounds i (.int .u32 (v : Nat))) (st := upd st i v) (rest := rest) (n := n) (by simp [hcells_size]) (fun j hj => by
    rw [Array.getElem?_setIfInBounds, hcells_size, hcells_get _ _ _ _ hj]
    by_cases e : i = j
    · subst e; rw [if_pos rfl, if_pos hj]; simp [hcell, upd, hi]
    · have e' : ¬ j = i := fun x => e x.symm
      rw [if_neg e]; unfold hcell upd; simp only [if_neg e'])] at this
  exact this
end

theorem Tryd.size58 : (Tryd.prog.info? 58).map (·.size) = some 73 := by kernel_rfl

def zlit : Array Value := #[.int .u32 0, .int .u32 0, .int .u32 0, .int .u32 0, .int .u32 0, .int .u32 0, .int .u32 0, .int .u32 0, .int .u8 0, .int .u8 0, .int .u8 0, .int .u8 0, .int .u8 0, .int .u8 0, .int .u8 0, .int .u8 0, .int .u8 0, .int .u8 0, .int .u8 0, .int .u8 0, .int .u8 0, .int .u8 0, .int .u8 0, .int .u8 0, .int .u8 0, .int .u8 0, .int .u8 0, .int .u8 0, .int .u8 0, .int .u8 0, .int .u8 0, .int .u8 0, .int .u8 0, .int .u8 0, .int .u8 0, .int .u8 0, .int .u8 0, .int .u8 0, .int .u8 0, .int .u8 0, .int .u8 0, .int .u8 0, .int .u8 0, .int .u8 0, .int .u8 0, .int .u8 0, .int .u8 0, .int .u8 0, .int .u8 0, .int .u8 0, .int .u8 0, .int .u8 0, .int .u8 0, .int .u8 0, .int .u8 0, .int .u8 0, .int .u8 0, .int .u8 0, .int .u8 0, .int .u8 0, .int .u8 0, .int .u8 0, .int .u8 0, .int .u8 0, .int .u8 0, .int .u8 0, .int .u8 0, .int .u8 0, .int .u8 0, .int .u8 0, .int .u8 0, .int .u8 0, .int .u64 0]

theorem Tryd.zero58 : (Tryd.prog.info? 58).map (fun i => (i.zero, i.size)) = some (some (.agg zlit), 73) := by kernel_rfl

theorem zlit_eq : zlit = hcells (fun _ => 0) (fun _ => 0) 0 := by kernel_rfl

theorem newcells (H0 : Nat → Nat) : (((((((((hcells (fun _ => 0) (fun _ => 0) 0).setIfInBounds 0 (.int .u32 ((H0 0 : Nat) : Int))).setIfInBounds 1 (.int .u32 ((H0 1 : Nat) : Int))).setIfInBounds 2 (.int .u32 ((H0 2 : Nat) : Int))).setIfInBounds 3 (.int .u32 ((H0 3 : Nat) : Int))).setIfInBounds 4 (.int .u32 ((H0 4 : Nat) : Int))).setIfInBounds 5 (.int .u32 ((H0 5 : Nat) : Int))).setIfInBounds 6 (.int .u32 ((H0 6 : Nat) : Int))).setIfInBounds 7 (.int .u32 ((H0 7 : Nat) : Int))) = hcells H0 (fun _ => 0) 0 := by
  refine hcells_ext (by simp [hcells_size]) ?_
  intro j hj
  by_cases h8 : j < 8
  · rcases (show j = 0 ∨ j = 1 ∨ j = 2 ∨ j = 3 ∨ j = 4 ∨ j = 5 ∨ j = 6 ∨ j = 7 from by omega) with rfl | rfl | rfl | rfl | rfl | rfl | rfl | rfl <;> simp [hcells_size, hcell]
  · have h0 : ¬ 0 = j := by omega
    have h1 : ¬ 1 = j := by omega
    have h2 : ¬ 2 = j := by omega
    have h3 : ¬ 3 = j := by omega
    have h4 : ¬ 4 = j := by omega
    have h5 : ¬ 5 = j := by omega
    have h6 : ¬ 6 = j := by omega
    have h7 : ¬ 7 = j := by omega
    simp only [Array.getElem?_setIfInBounds, if_neg h0, if_neg h1, if_neg h2, if_neg h3, if_neg h4, if_neg h5, if_neg h6, if_neg h7]
    rw [hcells_get _ _ _ _ hj]
    simp only [hcell, if_neg h8]

/-- What the package's variables hold. -/
def Glob (H0 K : Nat → Nat) (w : World) : Prop := 1 < w.heap.size ∧ (∀ j, j < 8 → w.cell? ⟨0, j, none⟩ = some (.int .u32 (H0 j : Nat))) ∧ ∀ j, j < 64 → w.cell? ⟨1, j, none⟩ = some (.int .u32 (K j : Nat))

set_option maxRecDepth 100000 in
theorem new_any (H0 K : Nat → Nat) (w : World) (hG : Glob H0 K w) :
    Calls Tryd.prog 18 #[] w fun e w' => e = .returned (.pointer (some ⟨w.heap.size, 0, none⟩)) ∧ w' = w.alloc (.cells (hcells H0 (fun _ => 0) 0) 58) := by
  have c0 := hG.2.1 0 (by omega)
  have c1 := hG.2.1 1 (by omega)
  have c2 := hG.2.1 2 (by omega)
  have c3 := hG.2.1 3 (by omega)
  have c4 := hG.2.1 4 (by omega)
  have c5 := hG.2.1 5 (by omega)
  have c6 := hG.2.1 6 (by omega)
  have c7 := hG.2.1 7 (by omega)
  obtain ⟨Z, hZ⟩ : ∃ Z, Z = hcells (fun _ => 0) (fun _ => 0) 0 := ⟨_, rfl⟩
  have hz := (zero_of_info Tryd.zero58).1 w
  rw [zlit_eq] at hz
  have hzs : Z.size = 73 := by rw [hZ, hcells_size]
  rw [← hZ] at hz
  go_enter Tryd.func18, Tryd.ntmps18
  go_wp2
  go_ret
  exact ⟨rfl, by rw [newcells]⟩
end Go.Proofs.YtoeanaadlihkeabDoor
