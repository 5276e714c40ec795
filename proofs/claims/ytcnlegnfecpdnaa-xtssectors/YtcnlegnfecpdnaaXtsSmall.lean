/- xts: a tweak doubled; a block with its tweak. -/
import Derived.Test.YtcnlegnfecpdnaaAesLoops
namespace Go.Proofs.Ytcnlegnfecpdnaa
open Go.ChangeShapes Go.WideShapes Go.ChangeAt Go.RowKit

/-- What is carried into byte k. -/
def car (f : Nat → Nat) (k : Nat) : Nat := if k = 0 then 0 else f (k - 1) / 128
def shl1 (f : Nat → Nat) (j : Nat) : Nat := (f j * 2 % 256) ||| car f j
/-- A tweak doubled. -/
def dblT (f : Nat → Nat) (j : Nat) : Nat := if j = 0 ∧ 128 ≤ f 15 then shl1 f 0 ^^^ 135 else shl1 f j

theorem car_lt (f : Nat → Nat) (hf : ∀ j, j < 16 → f j < 256) (k : Nat) (hk : k ≤ 16) : car f k < 2 := by
  unfold car
  split
  · omega
  · have := hf (k - 1) (by omega)
    omega

theorem shl1_lt (f : Nat → Nat) (hf : ∀ j, j < 16 → f j < 256) (k : Nat) (hk : k < 16) : shl1 f k < 256 := by
  unfold shl1
  have := car_lt f hf k (by omega)
  exact Nat.or_lt_two_pow (n := 8) (Nat.mod_lt _ (by decide)) (by omega)

theorem dblT_lt (f : Nat → Nat) (hf : ∀ j, j < 16 → f j < 256) (k : Nat) (hk : k < 16) : dblT f k < 256 := by
  unfold dblT
  split
  · exact xor8 (shl1_lt f hf 0 (by decide)) (by decide)
  · exact shl1_lt f hf k hk

theorem dblT_low (f : Nat → Nat) (h : ¬ 128 ≤ f 15) : dblT f = shl1 f := by
  funext j
  unfold dblT
  rw [if_neg (by omega)]

theorem dblT_high (f : Nat → Nat) (h : 128 ≤ f 15) : dblT f = upd (shl1 f) 0 (shl1 f 0 ^^^ 135) := by
  funext j
  unfold dblT upd
  by_cases e : j = 0
  · subst e; simp [h]
  · simp [e]

set_option maxRecDepth 100000 in
theorem xdouble_any (f : Nat → Nat) (w : World) (hf : ∀ j, j < 16 → f j < 256) :
    Calls Try.prog 47 #[.agg (cellsN .u8 16 f)] w fun e w' => e = .returned (.agg (cellsN .u8 16 (dblT f))) ∧ Below w.heap.size w w' := by
  have hK : Has ((w.alloc (.cells (cellsN .u8 16 f) 23)).alloc (.cells (cellsN .u8 16 fun _ => 0) 23)) w.heap.size 23 (cellsN .u8 16 f) := (Has.new_at rfl).alloc _
  go_enter Try.func47, Try.ntmps47
  go_wp2_with (refine wpList_load_row rfl 23 _ rfl w.heap.size rfl 23 _ (0, 0) _ hK Try.underlying23 rfl (by rw [cellsN_size]; exact Try.size23) ?_)
  go_loopw [3, 7] (fun c i wr => ∃ k : Nat, k ≤ 16 ∧ i = .int .i64 k ∧ c = .int .u8 (car f k : Nat) ∧ Has wr w.heap.size 23 (cellsN .u8 16 (upTo f (shl1 f) k)) ∧ Has wr (w.heap.size + 1) 23 (cellsN .u8 16 fun _ => 0) ∧ Below w.heap.size w wr)
    (fun _ i _ => 16 - (intOf i).toNat)
  case atStart => exact ⟨0, Nat.zero_le _, rfl, rfl, by rw [upTo_zero]; exact hK, Has.new_at (by simp), two_below _ _ _⟩
  case round =>
    clear hK
    obtain ⟨k, hk, rfl, rfl, hS, hR, hbel⟩ := hrel
    by_cases hlt : k < 16
    · have hc := hS.num k hlt
      rw [upTo_at] at hc
      have hfr := hS.free k
      have hix := index16 f k wr hlt
      have hb := hf k hlt
      have hx : bits .or .u8 ((f k : Int) * 2 % 256) (car f k : Nat) = ((shl1 f k : Nat) : Int) := by
        have := u8_or_nat (f k * 2 % 256) (car f k) (Nat.mod_lt _ (by decide)) (by have := car_lt f hf k (by omega); omega)
        rw [← show ((f k * 2 % 256 : Nat) : Int) = (f k : Int) * 2 % 256 by omega]
        exact this
      have i1 : (k : Int) < 16 := by omega
      have i0 : (0 : Int) ≤ (k : Int) := by omega
      go_wp2
      go_roundw
      case rel =>
        refine ⟨k + 1, by omega, by go_num, ?_, ?_, hR.other (by first | (simp; done) | (simp; omega)) _, hbel.setCell (by simp) _⟩
        · unfold car
          rw [if_neg (by omega), show k + 1 - 1 = k by omega]
          go_num
        · have := hS.set k (shl1 f k)
          rw [upTo_next] at this
          exact this
      case measure => simp [intOf]; omega
    · obtain rfl : k = 16 := by omega
      have hS16 : Has wr w.heap.size 23 (cellsN .u8 16 (shl1 f)) := by rw [upTo_all] at hS; exact hS
      have e16 : car f 16 = f 15 / 128 := rfl
      have hb15 := hf 15 (by decide)
      by_cases hh : 128 ≤ f 15
      · have c1 : car f 16 = 1 := by omega
        rw [c1]
        have hc0 := hS16.num 0 (by decide)
        have hfr := hS16.free 0
        have hx : bits .xor .u8 ((shl1 f 0 : Nat) : Int) 135 = ((shl1 f 0 ^^^ 135 : Nat) : Int) := u8_xor_nat _ 135 (shl1_lt f hf 0 (by decide)) (by decide)
        have hS2 := hS16.set 0 (shl1 f 0 ^^^ 135)
        rw [← dblT_high f hh] at hS2
        have hR2 : Has (wr.setCell ⟨w.heap.size, 0, none⟩ (.int .u8 ((shl1 f 0 ^^^ 135 : Nat) : Int))) (w.heap.size + 1) 23 (cellsN .u8 16 fun _ => 0) := hR.other (by simp) _
        have hN := hR2.setRow (cellsN .u8 16 (dblT f))
        go_wp2_with (first
          | (refine wpList_load_row rfl 23 _ rfl w.heap.size rfl 23 _ (0, 0) _ hS2 Try.underlying23 rfl (by rw [cellsN_size]; exact Try.size23) ?_)
          | (refine wpList_store_row rfl 23 _ _ rfl (w.heap.size + 1) (cellsN .u8 16 (dblT f)) rfl rfl 23 _ hR2 (by rw [cellsN_size]; exact Try.size23) (by simp [cellsN_size]) (cellsN_one _ _ _) ?_))
        refine bodyPost_ret (results_cell_row rfl _ _ (w.heap.size + 1) 23 _ (0, 0) _ rfl hN Try.underlying23 rfl (by rw [cellsN_size]; exact Try.size23)) rfl ⟨rfl, ?_⟩
        exact below_setRow (hbel.setCell (by simp) _) (by omega) _
      · have c0 : car f 16 = 0 := by omega
        rw [c0]
        rw [← dblT_low f hh] at hS16
        have hN := hR.setRow (cellsN .u8 16 (dblT f))
        go_wp2_with (first
          | (refine wpList_load_row rfl 23 _ rfl w.heap.size rfl 23 _ (0, 0) _ hS16 Try.underlying23 rfl (by rw [cellsN_size]; exact Try.size23) ?_)
          | (refine wpList_store_row rfl 23 _ _ rfl (w.heap.size + 1) (cellsN .u8 16 (dblT f)) rfl rfl 23 _ hR (by rw [cellsN_size]; exact Try.size23) (by simp [cellsN_size]) (cellsN_one _ _ _) ?_))
        refine bodyPost_ret (results_cell_row rfl _ _ (w.heap.size + 1) 23 _ (0, 0) _ rfl hN Try.underlying23 rfl (by rw [cellsN_size]; exact Try.size23)) rfl ⟨rfl, ?_⟩
        exact below_setRow hbel (by omega) _

set_option maxRecDepth 100000 in
/-- The closure: a block with the tweak that it keeps. -/
theorem xorT_any (f g : Nat → Nat) (t : Nat) (w : World) (hf : ∀ j, j < 16 → f j < 256) (hg : ∀ j, j < 16 → g j < 256) (hT : Has w t 23 (cellsN .u8 16 g)) :
    Calls Try.prog 46 #[.agg (cellsN .u8 16 f), .pointer (some ⟨t, 0, none⟩)] w fun e w' => e = .returned (.agg (cellsN .u8 16 (xorS f g))) ∧ Below w.heap.size w w' := by
  have hK : Has ((w.alloc (.cells (cellsN .u8 16 f) 23)).alloc (.cells (cellsN .u8 16 fun _ => 0) 23)) t 23 (cellsN .u8 16 g) := (hT.alloc _).alloc _
  go_enter Try.func46, Try.ntmps46
  go_wp2_with (refine wpList_load_row rfl 23 _ rfl t rfl 23 _ (0, 0) _ hK Try.underlying23 rfl (by rw [cellsN_size]; exact Try.size23) ?_)
  go_loopw [7] (fun i wr => ∃ k : Nat, k ≤ 16 ∧ i = .int .i64 k ∧ Has wr w.heap.size 23 (cellsN .u8 16 (upTo f (xorS f g) k)) ∧ Has wr (w.heap.size + 1) 23 (cellsN .u8 16 fun _ => 0) ∧ Below w.heap.size w wr)
    (fun i _ => 16 - (intOf i).toNat)
  case atStart => exact ⟨0, Nat.zero_le _, rfl, by rw [upTo_zero]; exact (Has.new w _ _).alloc _, Has.new_at (by simp), two_below _ _ _⟩
  case round =>
    clear hK
    obtain ⟨k, hk, rfl, hS, hR, hbel⟩ := hrel
    by_cases hlt : k < 16
    · have hc := hS.num k hlt
      rw [upTo_at] at hc
      have hfr := hS.free k
      have hix := index16 g k wr hlt
      have hx := x8 (hf k hlt) (hg k hlt)
      have i1 : (k : Int) < 16 := by omega
      have i0 : (0 : Int) ≤ (k : Int) := by omega
      go_wp2
      go_roundw
      case rel =>
        refine ⟨k + 1, by omega, by go_num, ?_, hR.other (by first | (simp; done) | (simp; omega)) _, hbel.setCell (by simp) _⟩
        have := hS.set k (xorS f g k)
        rw [upTo_next] at this
        exact this
      case measure => simp [intOf]; omega
    · obtain rfl : k = 16 := by omega
      have hN := hR.setRow (cellsN .u8 16 (upTo f (xorS f g) 16))
      go_wp2_with (first
        | (refine wpList_load_row rfl 23 _ rfl w.heap.size rfl 23 _ (0, 0) _ hS Try.underlying23 rfl (by rw [cellsN_size]; exact Try.size23) ?_)
        | (refine wpList_store_row rfl 23 _ _ rfl (w.heap.size + 1) (cellsN .u8 16 (upTo f (xorS f g) 16)) rfl rfl 23 _ hR (by rw [cellsN_size]; exact Try.size23) (by simp [cellsN_size]) (cellsN_one _ _ _) ?_))
      refine bodyPost_ret (results_cell_row rfl _ _ (w.heap.size + 1) 23 _ (0, 0) _ rfl hN Try.underlying23 rfl (by rw [cellsN_size]; exact Try.size23)) rfl ⟨?_, below_setRow hbel (by omega) _⟩
      rw [upTo_all]
end Go.Proofs.Ytcnlegnfecpdnaa
