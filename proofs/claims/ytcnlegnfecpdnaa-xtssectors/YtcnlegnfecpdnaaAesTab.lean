/- S, its other way; substitutes, otherWay. -/
import Derived.Test.YtcnlegnfecpdnaaAesLoops
import Derived.Great.BuildSlice
namespace Go.Proofs.Ytcnlegnfecpdnaa
open Go.ChangeShapes Go.WideShapes Go.ChangeAt Go.RowKit

def sList : List Nat := [99, 124, 119, 123, 242, 107, 111, 197, 48, 1, 103, 43, 254, 215, 171, 118, 202, 130, 201, 125, 250, 89, 71, 240, 173, 212, 162, 175, 156, 164, 114, 192, 183, 253, 147, 38, 54, 63, 247, 204, 52, 165, 229, 241, 113, 216, 49, 21, 4, 199, 35, 195, 24, 150, 5, 154, 7, 18, 128, 226, 235, 39, 178, 117, 9, 131, 44, 26, 27, 110, 90, 160, 82, 59, 214, 179, 41, 227, 47, 132, 83, 209, 0, 237, 32, 252, 177, 91, 106, 203, 190, 57, 74, 76, 88, 207, 208, 239, 170, 251, 67, 77, 51, 133, 69, 249, 2, 127, 80, 60, 159, 168, 81, 163, 64, 143, 146, 157, 56, 245, 188, 182, 218, 33, 16, 255, 243, 210, 205, 12, 19, 236, 95, 151, 68, 23, 196, 167, 126, 61, 100, 93, 25, 115, 96, 129, 79, 220, 34, 42, 144, 136, 70, 238, 184, 20, 222, 94, 11, 219, 224, 50, 58, 10, 73, 6, 36, 92, 194, 211, 172, 98, 145, 149, 228, 121, 231, 200, 55, 109, 141, 213, 78, 169, 108, 86, 244, 234, 101, 122, 174, 8, 186, 120, 37, 46, 28, 166, 180, 198, 232, 221, 116, 31, 75, 189, 139, 138, 112, 62, 181, 102, 72, 3, 246, 14, 97, 53, 87, 185, 134, 193, 29, 158, 225, 248, 152, 17, 105, 217, 142, 148, 155, 30, 135, 233, 206, 85, 40, 223, 140, 161, 137, 13, 191, 230, 66, 104, 65, 153, 45, 15, 176, 84, 187, 22]
def iList : List Nat := [82, 9, 106, 213, 48, 54, 165, 56, 191, 64, 163, 158, 129, 243, 215, 251, 124, 227, 57, 130, 155, 47, 255, 135, 52, 142, 67, 68, 196, 222, 233, 203, 84, 123, 148, 50, 166, 194, 35, 61, 238, 76, 149, 11, 66, 250, 195, 78, 8, 46, 161, 102, 40, 217, 36, 178, 118, 91, 162, 73, 109, 139, 209, 37, 114, 248, 246, 100, 134, 104, 152, 22, 212, 164, 92, 204, 93, 101, 182, 146, 108, 112, 72, 80, 253, 237, 185, 218, 94, 21, 70, 87, 167, 141, 157, 132, 144, 216, 171, 0, 140, 188, 211, 10, 247, 228, 88, 5, 184, 179, 69, 6, 208, 44, 30, 143, 202, 63, 15, 2, 193, 175, 189, 3, 1, 19, 138, 107, 58, 145, 17, 65, 79, 103, 220, 234, 151, 242, 207, 206, 240, 180, 230, 115, 150, 172, 116, 34, 231, 173, 53, 133, 226, 249, 55, 232, 28, 117, 223, 110, 71, 241, 26, 113, 29, 41, 197, 137, 111, 183, 98, 14, 170, 24, 190, 27, 252, 86, 62, 75, 198, 210, 121, 32, 154, 219, 192, 254, 120, 205, 90, 244, 31, 221, 168, 51, 136, 7, 199, 49, 177, 18, 16, 89, 39, 128, 236, 95, 96, 81, 127, 169, 25, 181, 74, 13, 45, 229, 122, 159, 147, 201, 156, 239, 160, 224, 59, 77, 174, 42, 245, 176, 200, 235, 187, 60, 131, 83, 153, 97, 23, 43, 4, 126, 186, 119, 214, 38, 225, 105, 20, 99, 85, 33, 12, 125]

def SB (x : Nat) : Nat := sList.getD x 0
def IB (x : Nat) : Nat := iList.getD x 0

theorem SB_lt (x : Nat) (h : x < 256) : SB x < 256 := by
  have : ∀ x : Fin 256, SB x.val < 256 := by decide +kernel
  exact this ⟨x, h⟩
theorem IB_lt (x : Nat) (h : x < 256) : IB x < 256 := by
  have : ∀ x : Fin 256, IB x.val < 256 := by decide +kernel
  exact this ⟨x, h⟩
theorem IB_SB (x : Nat) (h : x < 256) : IB (SB x) = x := by
  have : ∀ x : Fin 256, IB (SB x.val) = x.val := by decide +kernel
  exact this ⟨x, h⟩
theorem SB_IB (x : Nat) (h : x < 256) : SB (IB x) = x := by
  have : ∀ x : Fin 256, SB (IB x.val) = x.val := by decide +kernel
  exact this ⟨x, h⟩

theorem sCells : (sList.map fun (x : Nat) => Value.int .u8 (x : Int)).toArray = cellsN .u8 256 SB := by kernel_rfl

theorem Try.zero52 : (Try.prog.info? 52).map (fun i => (i.zero, i.size)) = some (some (.agg (cellsN .u8 256 fun _ => 0)), 256) := by kernel_rfl

theorem sParts : ((sList.map fun (x : Nat) => (x : Int)).map (Value.int .u8)).toArray = cellsN .u8 256 SB := by kernel_rfl

theorem table_len : ((Try.prog.info? 52).bind (·.zero)).map (·.cells.size) = some (sList.map fun (x : Nat) => (x : Int)).length := by kernel_rfl
theorem one_u8 : (Try.prog.info? 5).map (·.size) = some 1 := by kernel_rfl

set_option maxRecDepth 100000 in
theorem substitutes_any (w : World) :
    Calls Try.prog 27 #[] w fun e w' => e = .returned (.agg (cellsN .u8 256 SB)) ∧ Below w.heap.size w w' := by
  have hz := (zero_of_info Try.zero52).1
  have hR : Has (w.alloc (.cells (cellsN .u8 256 fun _ => 0) 52)) w.heap.size 52 (cellsN .u8 256 fun _ => 0) := Has.new _ _ _
  go_enter Try.func27, Try.ntmps27
  go_wp2_with (first
    | (refine wpList_buildFlatArrTo rfl 52 5 256 _ rfl .u8 (sList.map fun (x : Nat) => (x : Int)) (some 1) rfl Try.underlying52 one_u8 table_len (by kernel_rfl) ?_; rw [sParts])
    | (refine wpList_store_row rfl 52 _ _ rfl w.heap.size (cellsN .u8 256 SB) rfl rfl 52 _ hR (by rw [cellsN_size]; exact Try.size52) (by simp [cellsN_size]) (cellsN_one _ _ _) ?_))
  have hN := hR.setRow (cellsN .u8 256 SB)
  refine bodyPost_ret (results_cell_row rfl _ _ w.heap.size 52 _ (0, 0) _ rfl hN Try.underlying52 rfl (by rw [cellsN_size]; exact Try.size52)) rfl ⟨rfl, ?_⟩
  exact below_setRow ((Below.refl _ _).alloc (Nat.le_refl _) _) (Nat.le_refl _) _

theorem index256 (s : Nat → Nat) (k : Nat) (w : World) (h : k < 256) : (Instr.index 52 (.agg (cellsN .u8 256 s)) (.int .i64 (k : Nat))).run Try.prog w = .ok (.int .u8 (s k : Nat)) w := by
  have hg := cellsN_get .u8 256 s k h
  simp [Instr.index, run_underlying Try.underlying52, asIntOf, go_sem, hg]
  omega

theorem back_all (B : Nat → Nat) (h : ∀ i, i < 256 → B (SB i) = i) : cellsN .u8 256 B = cellsN .u8 256 IB :=
  cellsN_congr _ _ _ _ (fun j hj => by have := h (IB j) (IB_lt j hj); rwa [SB_IB j hj] at this)

set_option maxRecDepth 100000 in
theorem otherWay_any (w : World) :
    Calls Try.prog 26 #[.agg (cellsN .u8 256 SB)] w fun e w' => e = .returned (.agg (cellsN .u8 256 IB)) ∧ Below w.heap.size w w' := by
  have hz := (zero_of_info Try.zero52).1
  obtain ⟨Z, hZ⟩ : ∃ Z, Z = cellsN .u8 256 fun _ => 0 := ⟨_, rfl⟩
  rw [← hZ] at hz
  have HZ : Hid (Z = cellsN .u8 256 fun _ => 0) := hZ
  clear hZ
  have hK : Has (((w.alloc (.cells (cellsN .u8 256 SB) 52)).alloc (.cells Z 52)).alloc (.cells Z 52)) w.heap.size 52 (cellsN .u8 256 SB) := ((Has.new_at rfl).alloc _).alloc _
  go_enter Try.func26, Try.ntmps26
  go_wp2_with (refine wpList_load_row rfl 52 _ rfl w.heap.size rfl 52 _ (0, 0) _ hK Try.underlying52 rfl (by rw [cellsN_size]; exact Try.size52) ?_)
  go_loopw [7] (fun i wr => ∃ (k : Nat) (B : Nat → Nat), k ≤ 256 ∧ i = .int .i64 k ∧ (∀ i, i < k → B (SB i) = i) ∧ Has wr (w.heap.size + 1) 52 (cellsN .u8 256 fun _ => 0) ∧ Has wr (w.heap.size + 1 + 1) 52 (cellsN .u8 256 B) ∧ Below w.heap.size w wr)
    (fun i _ => 256 - (intOf i).toNat)
  case atStart =>
    rw [HZ.out]
    exact ⟨0, fun _ => 0, Nat.zero_le _, rfl, fun i h => absurd h (Nat.not_lt_zero i), (Has.new_at (by simp)).alloc _, Has.new_at (by simp), three_below _ _ _ _⟩
  case round =>
    clear hK hz HZ
    obtain ⟨k, B, hk, rfl, hB, hR, hD, hbel⟩ := hrel
    have HB : Hid (∀ i, i < k → B (SB i) = i) := hB
    clear hB
    by_cases hlt : k < 256
    · have hsk := SB_lt k hlt
      have hcc := hD.num (SB k) hsk
      have hfr := hD.free (SB k)
      have hix := index256 SB k wr hlt
      have i1 : (k : Int) < 256 := by omega
      have i0 : (0 : Int) ≤ (k : Int) := by omega
      go_wp2
      go_roundw
      case rel =>
        refine ⟨k + 1, upd B (SB k) k, by omega, by go_num, ?_, hR.other (by simp) _, hD.set (SB k) k, hbel.setCell (by simp; omega) _⟩
        intro i hi
        unfold upd
        by_cases e : i = k
        · subst e; simp
        · have hne : ¬ SB i = SB k := fun h => e (by have := congrArg IB h; rwa [IB_SB i (by omega), IB_SB k hlt] at this)
          rw [if_neg hne]
          exact HB.out i (by omega)
      case measure => simp [intOf]; omega
    · obtain rfl : k = 256 := by omega
      rw [back_all B HB.out] at hD
      have hN := hR.setRow (cellsN .u8 256 IB)
      go_wp2_with (first
        | (refine wpList_load_row rfl 52 _ rfl (w.heap.size + 1 + 1) rfl 52 _ (0, 0) _ hD Try.underlying52 rfl (by rw [cellsN_size]; exact Try.size52) ?_)
        | (refine wpList_store_row rfl 52 _ _ rfl (w.heap.size + 1) (cellsN .u8 256 IB) rfl rfl 52 _ hR (by rw [cellsN_size]; exact Try.size52) (by simp [cellsN_size]) (cellsN_one _ _ _) ?_))
      exact bodyPost_ret (results_cell_row rfl _ _ (w.heap.size + 1) 52 _ (0, 0) _ rfl hN Try.underlying52 rfl (by rw [cellsN_size]; exact Try.size52)) rfl ⟨rfl, below_setRow hbel (by omega) _⟩
end Go.Proofs.Ytcnlegnfecpdnaa
