/- The xts reference's double and Right. -/
import Derived.Test.YtcnlegnfecpdnaaXtsKey
namespace Go.Proofs.Ytcnlegnfecpdnaa
open Go.ChangeShapes Go.WideShapes Go.ChangeAt Go.RowKit
set_option linter.unusedVariables false

set_option maxRecDepth 100000 in
theorem rdouble_any (f : Nat → Nat) (w : World) (hf : ∀ j, j < 16 → f j < 256) :
    Calls Try.prog 48 #[.agg (cellsN .u8 16 f)] w fun e w' => e = .returned (.agg (cellsN .u8 16 (dblT f))) ∧ Below w.heap.size w w' := by
  go_enter Try.func48, Try.ntmps48
  go_wp2
  go_loopw [4, 5] (fun c i wr => ∃ k : Nat, k ≤ 16 ∧ i = .int .i64 k ∧ c = .int .u8 (car f k : Nat) ∧ Has wr w.heap.size 23 (cellsN .u8 16 f) ∧ Has wr (w.heap.size + 1) 23 (cellsN .u8 16 fun _ => 0) ∧ Has wr (w.heap.size + 1 + 1) 23 (cellsN .u8 16 (upTo (fun _ => 0) (shl1 f) k)) ∧ Below w.heap.size w wr)
    (fun _ i _ => 16 - (intOf i).toNat)
  case atStart => exact ⟨0, Nat.zero_le _, rfl, rfl, ((Has.new w _ _).alloc _).alloc _, (Has.new_at (by simp)).alloc _, by rw [upTo_zero]; exact Has.new_at (by simp), three_below _ _ _ _⟩
  case round =>
    obtain ⟨k, hk, rfl, rfl, hF, hR, hS, hbel⟩ := hrel
    by_cases hlt : k < 16
    · have hc := hS.num k hlt
      rw [upTo_at] at hc
      have hfr := hS.free k
      have hcf := hF.num k hlt
      have hcf2 : (wr.setCell ⟨w.heap.size + 1 + 1, k, none⟩ (.int .u8 ((shl1 f k : Nat) : Int))).cell? ⟨w.heap.size, k, none⟩ = some (.int .u8 (f k : Nat)) := (hF.other (by show w.heap.size ≠ w.heap.size + 1 + 1; omega) _).num k hlt
      have hb := hf k hlt
      have hx : bits .or .u8 ((f k : Int) * 2 % 256) (car f k : Nat) = ((shl1 f k : Nat) : Int) := by
        have := u8_or_nat (f k * 2 % 256) (car f k) (Nat.mod_lt _ (by decide)) (by have := car_lt f hf k (by omega); omega)
        rw [← show ((f k * 2 % 256 : Nat) : Int) = (f k : Int) * 2 % 256 by omega]
        exact this
      have i1 : (k : Int) < 16 := by omega
      have i0 : (0 : Int) ≤ (k : Int) := by omega
      go_wp2
      go_roundw
      case rel =>
        refine ⟨k + 1, by omega, by go_num, ?_, hF.other (by simp; omega) _, hR.other (by simp) _, ?_, hbel.setCell (by simp; omega) _⟩
        · unfold car
          rw [if_neg (by omega), show k + 1 - 1 = k by omega]
          go_num
        · have := hS.set k (shl1 f k)
          rw [upTo_next] at this
          exact this
      case measure => simp [intOf]; omega
    · obtain rfl : k = 16 := by omega
      have hS16 : Has wr (w.heap.size + 1 + 1) 23 (cellsN .u8 16 (shl1 f)) := by rw [upTo_all] at hS; exact hS
      have e16 : car f 16 = f 15 / 128 := rfl
      have hb15 := hf 15 (by decide)
      by_cases hh : 128 ≤ f 15
      · have c1 : car f 16 = 1 := by omega
        rw [c1]
        have hc0 := hS16.num 0 (by decide)
        have hfr := hS16.free 0
        have hx : bits .xor .u8 ((shl1 f 0 : Nat) : Int) 135 = ((shl1 f 0 ^^^ 135 : Nat) : Int) := u8_xor_nat _ 135 (shl1_lt f hf 0 (by decide)) (by decide)
        have hS2 := hS16.set 0 (shl1 f 0 ^^^ 135)
        rw [← dblT_high f hh] at hS2
        have hR2 : Has (wr.setCell ⟨w.heap.size + 1 + 1, 0, none⟩ (.int .u8 ((shl1 f 0 ^^^ 135 : Nat) : Int))) (w.heap.size + 1) 23 (cellsN .u8 16 fun _ => 0) := hR.other (by simp) _
        have hN := hR2.setRow (cellsN .u8 16 (dblT f))
        go_wp2_with (first
          | (refine wpList_load_row rfl 23 _ rfl (w.heap.size + 1 + 1) rfl 23 _ (0, 0) _ hS2 Try.underlying23 rfl (by rw [cellsN_size]; exact Try.size23) ?_)
          | (refine wpList_store_row rfl 23 _ _ rfl (w.heap.size + 1) (cellsN .u8 16 (dblT f)) rfl rfl 23 _ hR2 (by rw [cellsN_size]; exact Try.size23) (by simp [cellsN_size]) (cellsN_one _ _ _) ?_))
        refine bodyPost_ret (results_cell_row rfl _ _ (w.heap.size + 1) 23 _ (0, 0) _ rfl hN Try.underlying23 rfl (by rw [cellsN_size]; exact Try.size23)) rfl ⟨rfl, ?_⟩
        exact below_setRow (hbel.setCell (by simp; omega) _) (by omega) _
      · have c0 : car f 16 = 0 := by omega
        rw [c0]
        rw [← dblT_low f hh] at hS16
        have hN := hR.setRow (cellsN .u8 16 (dblT f))
        go_wp2_with (first
          | (refine wpList_load_row rfl 23 _ rfl (w.heap.size + 1 + 1) rfl 23 _ (0, 0) _ hS16 Try.underlying23 rfl (by rw [cellsN_size]; exact Try.size23) ?_)
          | (refine wpList_store_row rfl 23 _ _ rfl (w.heap.size + 1) (cellsN .u8 16 (dblT f)) rfl rfl 23 _ hR (by rw [cellsN_size]; exact Try.size23) (by simp [cellsN_size]) (cellsN_one _ _ _) ?_))
        refine bodyPost_ret (results_cell_row rfl _ _ (w.heap.size + 1) 23 _ (0, 0) _ rfl hN Try.underlying23 rfl (by rw [cellsN_size]; exact Try.size23)) rfl ⟨rfl, ?_⟩
        exact below_setRow hbel (by omega) _
end Go.Proofs.Ytcnlegnfecpdnaa
