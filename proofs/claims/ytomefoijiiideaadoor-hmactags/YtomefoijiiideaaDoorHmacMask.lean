/- hmac's masker: the function that makes both keys; and that function. -/
import Derived.Test.YtomefoijiiideaaDoorHmacFill
import Derived.Test.YtomefoijiiideaaDoorShaBl
namespace Go.Proofs.YtomefoijiiideaaDoor
open Go.ChangeShapes Go.WideShapes Go.ChangeAt Go.RowKit
set_option linter.unusedVariables false

def xorm (blk : Nat → Nat) (m : Nat) : Nat → Nat := fun j => blk j ^^^ m

theorem xor_lt8 {a b : Nat} (ha : a < 256) (hb : b < 256) : a ^^^ b < 256 := by
  rw [show (256 : Nat) = 2 ^ 8 from rfl] at *
  exact Nat.xor_lt_two_pow ha hb

theorem run_index_row {t n : Nat} {cs : Array Value} {k : Nat} {v : Value} (w : World) (hu : Tryd.prog.underlying t = some (.array n 5)) (hk : k < n) (hv : cs[k]? = some v) : (Instr.index t (.agg cs) (.int .i64 k)).run Tryd.prog w = .ok v w := by
  have i0 : (k : Int) < (n : Int) := by omega
  have i1 : (0 : Int) ≤ (k : Int) := by omega
  obtain ⟨i0', hi, hz0, hz1, hz2⟩ := info_parts Tryd.info5
  simp [Instr.index, asIntOf, run_underlying hu, hk, sizeOf, typeInfo, hi, hz1, Go.part, isAgg, run_underlying Tryd.underlying5, hv]

theorem bl_zeros (n : Nat) : (madeCells (Value.int .u8 0).cells (n * 1)).toList = bl (fun _ => 0) n := by
  unfold bl madeCells
  apply List.ext_getElem?
  intro i
  by_cases h : i < n
  · simp [h, Value.cells, Nat.mod_one]
  · simp [h, Value.cells]

set_option maxRecDepth 100000 in
set_option maxHeartbeats 1600000 in
theorem mask_any (blk : Nat → Nat) (m g : Nat) (w : World) (hm : m < 256) (hb : ∀ j, j < 64 → blk j < 256) (hg : Has w g 53 (cellsN .u8 64 blk)) :
    Calls Tryd.prog 44 #[.int .u8 m, .pointer (some ⟨g, 0, none⟩)] w fun e w' => e = .returned (.slice (some ⟨w.heap.size, 0, none⟩) 64 64) ∧ Bytes w' (some ⟨w.heap.size, 0, none⟩) 64 (xorm blk m) ∧ Below w.heap.size w w' := by
  have hlt := hg.lt
  obtain ⟨i0, hi, hz0, hz1, hz2⟩ := info_parts Tryd.info5
  go_enter Tryd.func44, Tryd.ntmps44
  go_wp2_with (first
    | ((at_make)
       (refine wpList_make_full w rfl _ _ 22 rfl w.heap.size 5 i0 (.int .u8 0) 1 Tryd.underlying22 hi hz0 hz1 .i64 .i64 64 64 64 rfl rfl rfl rfl (by rw [hz2]; decide) (by decide) (Nat.le_refl _) ?_)
       (intro w1 own1 gr1)
       (rw [bl_zeros] at own1)
       (have hb1 : Below w.heap.size w w1 := (Below.refl _ _).grown gr1 (Nat.le_refl _) (fun k h => by cases h))
       (have hg1 : Has w1 g 53 (cellsN .u8 64 blk) := hg.below hb1 hlt)
       (clear gr1))
    | (refine wpList_load_row rfl 53 _ rfl g rfl 53 _ (0, 0) _ hg1 Tryd.underlying53 rfl (by rw [cellsN_size]; exact Tryd.size53) ?_))
  go_loopw [9] (fun i wr => ∃ k : Nat, k ≤ 64 ∧ i = .int .i64 k ∧ wr.ownsRow w.heap.size 5 1 (.slice (some ⟨w.heap.size, 0, none⟩) 64 64) 64 (bl (part (xorm blk m) k) 64) ∧ Below w.heap.size w wr)
    (fun i _ => 64 - (intOf i).toNat)
  case atStart => exact ⟨0, Nat.zero_le _, rfl, own1, hb1⟩
  case round =>
    obtain ⟨k, hk, rfl, hD, hbel⟩ := hrel
    by_cases hlt' : k < 64
    · have hix := cellsN_get .u8 64 blk k hlt'
      have hv := hb k hlt'
      have hidx := fun w => run_index_row w Tryd.underlying53 hlt' hix
      have hc : wr.cell? ⟨w.heap.size, k, none⟩ = some (.int .u8 (part (xorm blk m) k k : Nat)) := by rw [hD.cellAt k (by omega)]; exact bl_get _ 64 k hlt'
      have hf := hD.frozenAt k
      have i0 : (k : Int) < 64 := by omega
      have i1 : (0 : Int) ≤ (k : Int) := by omega
      have hxo := u8_xor_nat (blk k) m hv hm
      go_wp2
      go_roundw
      case rel =>
        have R := (hD.stored k (.int .u8 ((xorm blk m k : Nat) : Int))).1
        rw [bl_set, part_next] at R
        exact ⟨k + 1, by omega, by go_num, R, hbel.setCell (Nat.le_refl _) _⟩
      case measure => simp [intOf]; omega
    · obtain rfl : k = 64 := by omega
      go_wp2
      go_ret
      obtain ⟨a', cap', e, _, _, hby, _⟩ := own_bytes hD
      simp only [Value.slice.injEq] at e
      obtain ⟨rfl, _, rfl⟩ := e
      exact ⟨rfl, hby.congr (fun j hj => by simp [part, hj]), hbel⟩

set_option maxRecDepth 100000 in
theorem masker_any {H0 K kf : Nat → Nat} {kl : Nat} {w : World} {a : Option Addr} (cap : Nat) (hG : Glob H0 K w) (hH0 : ∀ j, j < 8 → H0 j < 4294967296) (hk : ∀ j, kf j < 256)
    (hcap : kl ≤ cap) (hN : kl < 1152921504606846000) (hb : Bytes w a kl kf) :
    Calls Tryd.prog 34 #[.slice a kl cap] w fun e w' => ∃ g, e = .returned (.func (.func 44) #[] #[.pointer (some ⟨g, 0, none⟩)]) ∧ Has w' g 53 (cellsN .u8 64 (fillk H0 K kf kl)) ∧ w.heap.size ≤ g ∧ Below w.heap.size w w' := by
  have hfl := fill_any cap hG hH0 hk hcap hN hb
  go_enter Tryd.func34, Tryd.ntmps34
  go_wp2_with (first
    | ((go_at_call 43)
       (refine hfl.mono ?_)
       (rintro e w3 ⟨rfl, hb3⟩)
       (have hn3 : Has (w3.alloc (.cells (cellsN .u8 64 fun _ => 0) 53)) w3.heap.size 53 (cellsN .u8 64 fun _ => 0) := Has.new _ _ _)
       (clear hfl))
    | ((refine wpList_store_rowG rfl 53 _ _ rfl (w3.heap.size) (cellsN .u8 64 (fillk H0 K kf kl)) rfl rfl 53 _ hn3 (by rw [cellsN_size]; exact Tryd.size53) (by simp [cellsN_size]) (cellsN_one _ _ _) ?_)
       (intro w4 hw4)
       (have hA4 : Has w4 w3.heap.size 53 (cellsN .u8 64 (fillk H0 K kf kl)) := (by rw [hw4]; exact hn3.setRow _))
       (have hb4 : Below w.heap.size w w4 := (by rw [hw4]; exact below_setRow (hb3.alloc hb3.size _) hb3.size _))
       (clear hw4 hn3)))
  go_ret
  exact ⟨w3.heap.size, rfl, hA4, hb3.size, hb4⟩
end Go.Proofs.YtomefoijiiideaaDoor
