/- aes: xor, through, turnRows. -/
import Derived.Test.YtcnlegnfecpdnaaAesSmall
namespace Go.Proofs.Ytcnlegnfecpdnaa
open Go.ChangeShapes Go.WideShapes Go.ChangeAt Go.RowKit

def xorS (f g : Nat → Nat) (j : Nat) : Nat := f j ^^^ g j
def subS (T f : Nat → Nat) (j : Nat) : Nat := T (f j)
def turnS (t : Nat) (f : Nat → Nat) (j : Nat) : Nat := f (j % 4 + 4 * ((j / 4 + j % 4 * t) % 4))

/-- The first k are done. -/
def upTo (f g : Nat → Nat) (k : Nat) : Nat → Nat := fun j => if j < k then g j else f j

theorem upTo_zero (f g : Nat → Nat) : upTo f g 0 = f := by funext j; simp [upTo]
theorem upTo_at (f g : Nat → Nat) (k : Nat) : upTo f g k k = f k := by simp [upTo]
theorem upTo_next (f g : Nat → Nat) (k : Nat) : upd (upTo f g k) k (g k) = upTo f g (k + 1) := by
  funext i
  unfold upd upTo
  by_cases e : i = k
  · subst e; simp
  · have : (i < k + 1) = (i < k) := by simp; omega
    simp [e, this]

theorem upTo_all (k : IntKind) (n : Nat) (f g : Nat → Nat) : cellsN k n (upTo f g n) = cellsN k n g := cellsN_congr _ _ _ _ (fun j hj => by simp [upTo, hj])

theorem index16 (s : Nat → Nat) (k : Nat) (w : World) (h : k < 16) : (Instr.index 23 (.agg (cellsN .u8 16 s)) (.int .i64 (k : Nat))).run Try.prog w = .ok (.int .u8 (s k : Nat)) w := by
  have hg := cellsN_get .u8 16 s k h
  simp [Instr.index, run_underlying Try.underlying23, asIntOf, go_sem, hg]
  omega

theorem three_below (w : World) (a b c : Obj) : Below w.heap.size w (((w.alloc a).alloc b).alloc c) := (((Below.refl _ _).alloc (Nat.le_refl _) _).alloc (by simp) _).alloc (by simp; omega) _
theorem two_below (w : World) (a b : Obj) : Below w.heap.size w ((w.alloc a).alloc b) := ((Below.refl _ _).alloc (Nat.le_refl _) _).alloc (by simp) _

set_option maxRecDepth 100000 in
theorem xor_any (f g : Nat → Nat) (w : World) (hf : ∀ j, j < 16 → f j < 256) (hg : ∀ j, j < 16 → g j < 256) :
    Calls Try.prog 30 #[.agg (cellsN .u8 16 f), .agg (cellsN .u8 16 g)] w fun e w' => e = .returned (.agg (cellsN .u8 16 (xorS f g))) ∧ Below w.heap.size w w' := by
  have hK : Has (((w.alloc (.cells (cellsN .u8 16 f) 23)).alloc (.cells (cellsN .u8 16 g) 23)).alloc (.cells (cellsN .u8 16 fun _ => 0) 23)) (w.heap.size + 1) 23 (cellsN .u8 16 g) := (Has.new_at (by simp)).alloc _
  go_enter Try.func30, Try.ntmps30
  go_wp2_with (refine wpList_load_row rfl 23 _ rfl (w.heap.size + 1) rfl 23 _ (0, 0) _ hK Try.underlying23 rfl (by rw [cellsN_size]; exact Try.size23) ?_)
  go_loopw [8] (fun i wr => ∃ k : Nat, k ≤ 16 ∧ i = .int .i64 k ∧ Has wr w.heap.size 23 (cellsN .u8 16 (upTo f (xorS f g) k)) ∧ Has wr (w.heap.size + 1 + 1) 23 (cellsN .u8 16 fun _ => 0) ∧ Below w.heap.size w wr)
    (fun i _ => 16 - (intOf i).toNat)
  case atStart => exact ⟨0, Nat.zero_le _, rfl, by rw [upTo_zero]; exact ((Has.new w _ _).alloc _).alloc _, Has.new_at (by simp), three_below _ _ _ _⟩
  case round =>
    clear hK
    obtain ⟨k, hk, rfl, hS, hR, hbel⟩ := hrel
    by_cases hlt : k < 16
    · have hc := hS.num k hlt
      rw [upTo_at] at hc
      have hfr := hS.free k
      have hix := index16 g k wr hlt
      have hx := x8 (hf k hlt) (hg k hlt)
      have i1 : (k : Int) < 16 := by omega
      have i0 : (0 : Int) ≤ (k : Int) := by omega
      go_wp2
      go_roundw
      case rel =>
        refine ⟨k + 1, by omega, by go_num, ?_, hR.other (by simp; omega) _, hbel.setCell (by simp) _⟩
        have := hS.set k (xorS f g k)
        rw [upTo_next] at this
        exact this
      case measure => simp [intOf]; omega
    · obtain rfl : k = 16 := by omega
      have hN := hR.setRow (cellsN .u8 16 (upTo f (xorS f g) 16))
      go_wp2_with (first
        | (refine wpList_load_row rfl 23 _ rfl w.heap.size rfl 23 _ (0, 0) _ hS Try.underlying23 rfl (by rw [cellsN_size]; exact Try.size23) ?_)
        | (refine wpList_store_row rfl 23 _ _ rfl (w.heap.size + 1 + 1) (cellsN .u8 16 (upTo f (xorS f g) 16)) rfl rfl 23 _ hR (by rw [cellsN_size]; exact Try.size23) (by simp [cellsN_size]) (cellsN_one _ _ _) ?_))
      refine bodyPost_ret (results_cell_row rfl _ _ (w.heap.size + 1 + 1) 23 _ (0, 0) _ rfl hN Try.underlying23 rfl (by rw [cellsN_size]; exact Try.size23)) rfl ⟨?_, below_setRow hbel (by omega) _⟩
      rw [upTo_all]

set_option maxRecDepth 100000 in
theorem through_any (T f : Nat → Nat) (b o : Nat) (w : World) (hf : ∀ j, j < 16 → f j < 256) (hb : b < w.heap.size)
    (hc : ∀ x, x < 256 → w.cell? ⟨b, o + x, none⟩ = some (.int .u8 (T x : Nat))) :
    Calls Try.prog 32 #[.pointer (some ⟨b, o, none⟩), .agg (cellsN .u8 16 f)] w fun e w' => e = .returned (.agg (cellsN .u8 16 (subS T f))) ∧ Below w.heap.size w w' := by
  have hK : Has ((w.alloc (.cells (cellsN .u8 16 f) 23)).alloc (.cells (cellsN .u8 16 fun _ => 0) 23)) w.heap.size 23 (cellsN .u8 16 f) := (Has.new_at rfl).alloc _
  go_enter Try.func32, Try.ntmps32
  go_wp2_with (refine wpList_load_row rfl 23 _ rfl w.heap.size rfl 23 _ (0, 0) _ hK Try.underlying23 rfl (by rw [cellsN_size]; exact Try.size23) ?_)
  go_loopw [8] (fun i wr => ∃ k : Nat, k ≤ 16 ∧ i = .int .i64 k ∧ Has wr w.heap.size 23 (cellsN .u8 16 (upTo f (subS T f) k)) ∧ Has wr (w.heap.size + 1) 23 (cellsN .u8 16 fun _ => 0) ∧ Below w.heap.size w wr)
    (fun i _ => 16 - (intOf i).toNat)
  case atStart => exact ⟨0, Nat.zero_le _, rfl, by rw [upTo_zero]; exact hK, Has.new_at (by simp), two_below _ _ _⟩
  case round =>
    clear hK
    obtain ⟨k, hk, rfl, hS, hR, hbel⟩ := hrel
    by_cases hlt : k < 16
    · have hcc := hS.num k hlt
      rw [upTo_at] at hcc
      have hfr := hS.free k
      have hix := index16 f k wr hlt
      have hfk := hf k hlt
      have ht := (hbel.cell (p := ⟨b, o + f k, none⟩) hb).trans (hc (f k) hfk)
      have i1 : (k : Int) < 16 := by omega
      have i0 : (0 : Int) ≤ (k : Int) := by omega
      go_wp2
      go_roundw
      case rel =>
        refine ⟨k + 1, by omega, by go_num, ?_, hR.other (by simp) _, hbel.setCell (by simp) _⟩
        have := hS.set k (subS T f k)
        rw [upTo_next] at this
        exact this
      case measure => simp [intOf]; omega
    · obtain rfl : k = 16 := by omega
      have hN := hR.setRow (cellsN .u8 16 (upTo f (subS T f) 16))
      go_wp2_with (first
        | (refine wpList_load_row rfl 23 _ rfl w.heap.size rfl 23 _ (0, 0) _ hS Try.underlying23 rfl (by rw [cellsN_size]; exact Try.size23) ?_)
        | (refine wpList_store_row rfl 23 _ _ rfl (w.heap.size + 1) (cellsN .u8 16 (upTo f (subS T f) 16)) rfl rfl 23 _ hR (by rw [cellsN_size]; exact Try.size23) (by simp [cellsN_size]) (cellsN_one _ _ _) ?_))
      refine bodyPost_ret (results_cell_row rfl _ _ (w.heap.size + 1) 23 _ (0, 0) _ rfl hN Try.underlying23 rfl (by rw [cellsN_size]; exact Try.size23)) rfl ⟨?_, below_setRow hbel (by omega) _⟩
      rw [upTo_all]

set_option maxRecDepth 100000 in
theorem turnRows_any (f : Nat → Nat) (t : Nat) (w : World) (h1 : t ≤ 3) :
    Calls Try.prog 31 #[.agg (cellsN .u8 16 f), .int .i64 t] w fun e w' => e = .returned (.agg (cellsN .u8 16 (turnS t f))) ∧ Below w.heap.size w w' := by
  go_enter Try.func31, Try.ntmps31
  go_wp2
  go_loopw [9] (fun i wr => ∃ k : Nat, k ≤ 16 ∧ i = .int .i64 k ∧ Has wr w.heap.size 23 (cellsN .u8 16 f) ∧ Has wr (w.heap.size + 1) 23 (cellsN .u8 16 fun _ => 0) ∧ Has wr (w.heap.size + 1 + 1) 23 (cellsN .u8 16 (upTo (fun _ => 0) (turnS t f) k)) ∧ Below w.heap.size w wr)
    (fun i _ => 16 - (intOf i).toNat)
  case atStart => exact ⟨0, Nat.zero_le _, rfl, ((Has.new w _ _).alloc _).alloc _, (Has.new_at (by simp)).alloc _, by rw [upTo_zero]; exact Has.new_at (by simp), three_below _ _ _ _⟩
  case round =>
    obtain ⟨k, hk, rfl, hS, hR, hD, hbel⟩ := hrel
    by_cases hlt : k < 16
    · have hcc := hD.num k hlt
      rw [upTo_at] at hcc
      have hfr := hD.free k
      have hlt2 : k % 4 + 4 * ((k / 4 + k % 4 * t) % 4) < 16 := by omega
      have hs := hS.num _ hlt2
      have i1 : (k : Int) < 16 := by omega
      have i0 : (0 : Int) ≤ (k : Int) := by omega
      have p1 : k % 4 * t ≤ 9 := Nat.mul_le_mul (show k % 4 ≤ 3 by omega) h1
      obtain ⟨m, hm⟩ : ∃ m : Nat, m = k % 4 * t := ⟨_, rfl⟩
      rw [← hm] at p1 hlt2 hs
      have HM : Hid (m = k % 4 * t) := hm
      have e1 : (k : Int) % 4 * (t : Int) = (m : Int) := by rw [hm, Int.natCast_mul]; rfl
      clear hm
      go_wp2
      go_roundw
      case rel =>
        refine ⟨k + 1, by omega, by go_num, hS.other (by simp; omega) _, hR.other (by simp) _, ?_, hbel.setCell (by simp; omega) _⟩
        have := hD.set k (turnS t f k)
        rw [upTo_next] at this
        rw [show f (k % 4 + 4 * ((k / 4 + m) % 4)) = turnS t f k by rw [HM.out]; rfl]
        exact this
      case measure => simp [intOf]; omega
    · obtain rfl : k = 16 := by omega
      have hN := hR.setRow (cellsN .u8 16 (upTo (fun _ => 0) (turnS t f) 16))
      go_wp2_with (first
        | (refine wpList_load_row rfl 23 _ rfl (w.heap.size + 1 + 1) rfl 23 _ (0, 0) _ hD Try.underlying23 rfl (by rw [cellsN_size]; exact Try.size23) ?_)
        | (refine wpList_store_row rfl 23 _ _ rfl (w.heap.size + 1) (cellsN .u8 16 (upTo (fun _ => 0) (turnS t f) 16)) rfl rfl 23 _ hR (by rw [cellsN_size]; exact Try.size23) (by simp [cellsN_size]) (cellsN_one _ _ _) ?_))
      refine bodyPost_ret (results_cell_row rfl _ _ (w.heap.size + 1) 23 _ (0, 0) _ rfl hN Try.underlying23 rfl (by rw [cellsN_size]; exact Try.size23)) rfl ⟨?_, below_setRow hbel (by omega) _⟩
      rw [upTo_all]
end Go.Proofs.Ytcnlegnfecpdnaa
