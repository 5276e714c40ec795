/- sha's next: the state behind one more block. -/
import Derived.Test.YtoeanaadlihkeabDoorShaSched
namespace Go.Proofs.YtoeanaadlihkeabDoor
open Go.ChangeShapes Go.WideShapes Go.ChangeAt Go.RowKit

def ch (e f g : Nat) : Nat := (e &&& f) ^^^ ((4294967295 - e) &&& g)
def maj (a b c : Nat) : Nat := (a &&& b) ^^^ (a &&& c) ^^^ (b &&& c)

def rnd1 (K W s : Nat → Nat) (t : Nat) : Nat := add32 (add32 (add32 (add32 (s 7) (turn3 6 11 25 (s 4))) (ch (s 4) (s 5) (s 6))) (K t)) (W t)
def rnd2 (s : Nat → Nat) : Nat := add32 (turn3 2 13 22 (s 0)) (maj (s 0) (s 1) (s 2))

def rnd (K W s : Nat → Nat) (t i : Nat) : Nat := if i = 0 then add32 (rnd1 K W s t) (rnd2 s) else if i = 4 then add32 (s 3) (rnd1 K W s t) else s (i - 1)

theorem rnd_0 (K W s : Nat → Nat) (t : Nat) : rnd K W s t 0 = add32 (rnd1 K W s t) (rnd2 s) := if_pos rfl
theorem rnd_4 (K W s : Nat → Nat) (t : Nat) : rnd K W s t 4 = add32 (s 3) (rnd1 K W s t) := by unfold rnd; rw [if_neg (by decide), if_pos rfl]
theorem rnd_i (K W s : Nat → Nat) (t i : Nat) (h0 : ¬ i = 0) (h4 : ¬ i = 4) : rnd K W s t i = s (i - 1) := by unfold rnd; rw [if_neg h0, if_neg h4]

def rnds (K W s : Nat → Nat) : Nat → Nat → Nat
  | 0 => s
  | t + 1 => rnd K W (rnds K W s t) t

def nextSt (K st blk : Nat → Nat) : Nat → Nat := fun i => add32 (st i) (rnds K (sched blk) st 64 i)

theorem rnd_lt (K W s : Nat → Nat) (t : Nat) (h : ∀ i, i < 8 → s i < 4294967296) (i : Nat) (hi : i < 8) : rnd K W s t i < 4294967296 := by
  by_cases h0 : i = 0
  · subst h0; rw [rnd_0]; exact add32_lt _ _
  · by_cases h4 : i = 4
    · subst h4; rw [rnd_4]; exact add32_lt _ _
    · rw [rnd_i _ _ _ _ _ h0 h4]; exact h (i - 1) (by omega)

theorem rnds_lt (K W s : Nat → Nat) (h : ∀ i, i < 8 → s i < 4294967296) : ∀ t i, i < 8 → rnds K W s t i < 4294967296 := by
  intro t
  induction t with
  | zero => exact h
  | succ t ih => intro i hi; exact rnd_lt K W _ t ih i hi

theorem and_lt {a b : Nat} (ha : a < 4294967296) : a &&& b < 4294967296 := Nat.lt_of_le_of_lt Nat.and_le_left ha

theorem sched_lt (blk : Nat → Nat) (h : ∀ j, j < 64 → blk j < 256) (j : Nat) : sched blk j < 4294967296 := ext_lt _ (ld_lt blk h 64 (Nat.le_refl _)) 48 j

theorem ch_eq (e f g : Nat) (he : e < 4294967296) (hf : f < 4294967296) (hg : g < 4294967296) :
    bits .xor .u32 (bits .and .u32 (e : Int) (f : Int)) (bits .and .u32 (bits .xor .u32 (if IntKind.u32.signed = true then -1 else IntKind.u32.max) (e : Int)) (g : Int)) = ((ch e f g : Nat) : Int) := by
  have h0 : (if IntKind.u32.signed = true then -1 else IntKind.u32.max) = ((4294967295 : Nat) : Int) := by simp [IntKind.signed, IntKind.max, IntKind.bits]
  have h1 : 4294967295 ^^^ e = 4294967295 - e := by
    rw [show (4294967295 : Nat) = 2 ^ 32 - 1 from rfl]
    apply Nat.eq_of_testBit_eq
    intro i
    rw [Nat.testBit_xor, Nat.testBit_two_pow_sub_one, show 2 ^ 32 - 1 - e = 2 ^ 32 - (e + 1) from by omega, Nat.testBit_two_pow_sub_succ (by omega)]
    by_cases hi : i < 32
    · simp [hi]
    · simp [hi]
      exact Nat.testBit_lt_two_pow (Nat.lt_of_lt_of_le (show e < 2 ^ 32 from he) (Nat.pow_le_pow_right (by decide) (by omega)))
  rw [h0, u32_xor_nat _ _ (by decide) he, h1, u32_and_nat _ _ he hf, u32_and_nat _ _ (by omega) hg, u32_xor_nat _ _ (and_lt he) (and_lt (by omega))]
  rfl

theorem maj_eq (a b c : Nat) (ha : a < 4294967296) (hb : b < 4294967296) (hc : c < 4294967296) :
    bits .xor .u32 (bits .xor .u32 (bits .and .u32 (a : Int) (b : Int)) (bits .and .u32 (a : Int) (c : Int))) (bits .and .u32 (b : Int) (c : Int)) = ((maj a b c : Nat) : Int) := by
  rw [u32_and_nat _ _ ha hb, u32_and_nat _ _ ha hc, u32_and_nat _ _ hb hc, u32_xor_nat _ _ (and_lt ha) (and_lt ha), u32_xor_nat _ _ (xor_lt (and_lt ha) (and_lt ha)) (and_lt hb)]
  rfl

theorem sum5 (a b c d e : Nat) : ((a : Int) + (b : Int) + (c : Int) + (d : Int) + (e : Int)) % 4294967296 = ((add32 (add32 (add32 (add32 a b) c) d) e : Nat) : Int) := by
  unfold add32; omega

theorem rnds_succ (K W s : Nat → Nat) (t : Nat) : rnds K W s (t + 1) = rnd K W (rnds K W s t) t := rfl

theorem index_cells (s : Nat → Nat) (k : Nat) (w : World) (h : k < 8) : (Instr.index 54 (.agg (cellsN .u32 8 s)) (.int .i64 (k : Nat))).run Tryd.prog w = .ok (.int .u32 (s k : Nat)) w := by
  have hg := cellsN_get .u32 8 s k h
  simp [Instr.index, run_underlying Tryd.underlying54, asIntOf, go_sem, hg]
  omega

def upto (f g : Nat → Nat) (k : Nat) : Nat → Nat := fun j => if j < k then add32 (f j) (g j) else f j

theorem upto_zero (f g : Nat → Nat) : upto f g 0 = f := by funext j; simp [upto]
theorem upto_at (f g : Nat → Nat) (k : Nat) : upto f g k k = f k := by simp [upto]
theorem upto_next (f g : Nat → Nat) (k : Nat) : upd (upto f g k) k (add32 (f k) (g k)) = upto f g (k + 1) := by
  funext i
  unfold upd upto
  by_cases e : i = k
  · subst e; simp
  · have : (i < k + 1) = (i < k) := by simp; omega
    simp [e, this]

/-- The world in which next calls schedule. -/
def nw (st : Nat → Nat) (w : World) : World :=
  (((((((w.alloc (.cells (cellsN .u32 8 st) 54)).alloc (.cells #[.int .u32 0, .int .u32 0, .int .u32 0, .int .u32 0, .int .u32 0, .int .u32 0, .int .u32 0, .int .u32 0] 54)).alloc (.cells #[.int .i64 2] 3)).alloc (.cells #[.int .i64 13] 3)).alloc (.cells #[.int .i64 22] 3)).alloc (.cells #[.int .i64 6] 3)).alloc (.cells #[.int .i64 11] 3)).alloc (.cells #[.int .i64 25] 3)

theorem nw_below (st : Nat → Nat) (w : World) : Below w.heap.size w (nw st w) := by
  unfold nw
  refine ((((((((Below.refl _ _).alloc (Nat.le_refl _) _).alloc ?_ _).alloc ?_ _).alloc ?_ _).alloc ?_ _).alloc ?_ _).alloc ?_ _).alloc ?_ _ <;> (simp; try omega)

theorem nw_size (st : Nat → Nat) (w : World) : (nw st w).heap.size = w.heap.size + 1 + 1 + 1 + 1 + 1 + 1 + 1 + 1 := by unfold nw; simp

/-- What next has laid, in every later world. -/
def Laid (st : Nat → Nat) (w w1 : World) : Prop :=
  Has w1 w.heap.size 54 (cellsN .u32 8 st) ∧ Has w1 (w.heap.size + 1) 54 (cellsN .u32 8 fun _ => 0) ∧ Three w1 (w.heap.size + 1 + 1) 2 13 22 ∧ Three w1 (w.heap.size + 1 + 1 + 1 + 1 + 1) 6 11 25 ∧ w.heap.size + 1 + 1 + 1 + 1 + 1 + 1 + 1 + 1 ≤ w1.heap.size ∧ Below w.heap.size w w1

theorem Three.below {w w' : World} {B g i j k : Nat} (h : Three w g i j k) (hb : Below B w w') (hg : g + 1 + 1 < B) : Three w' g i j k :=
  ⟨h.1.below hb (by omega), h.2.1.below hb (by omega), h.2.2.below hb hg⟩

theorem nw_laid (st : Nat → Nat) (w w1 : World) (hb : Below (nw st w).heap.size (nw st w) w1) : Laid st w w1 := by
  have h2 : Three (nw st w) (w.heap.size + 1 + 1 + 1 + 1 + 1) 6 11 25 := by unfold nw; exact Three.new _ _ 6 11 25 (by simp)
  have h1 : Three (nw st w) (w.heap.size + 1 + 1) 2 13 22 := by unfold nw; exact (((Three.new _ _ 2 13 22 (by simp)).alloc _).alloc _).alloc _
  have hs : Has (nw st w) w.heap.size 54 (cellsN .u32 8 st) := by unfold nw; exact (((((((Has.new_at rfl).alloc _).alloc _).alloc _).alloc _).alloc _).alloc _).alloc _
  have hr : Has (nw st w) (w.heap.size + 1) 54 (cellsN .u32 8 fun _ => 0) := by unfold nw; exact ((((((Has.new_at (by simp)).alloc _).alloc _).alloc _).alloc _).alloc _).alloc _
  have hz := nw_size st w
  have hw := hb.size
  exact ⟨hs.below hb (by omega), hr.below hb (by omega), h1.below hb (by omega), h2.below hb (by omega), by omega, (nw_below st w).trans (hb.mono (by omega))⟩

theorem Laid.drewN {st : Nat → Nat} {w w1 : World} (h : Laid st w w1) (m : Nat) : Laid st w (w1.drewN m) := ⟨h.1, h.2.1, h.2.2.1, h.2.2.2.1, h.2.2.2.2.1, below_drewN h.2.2.2.2.2 m⟩

theorem Laid.row {st : Nat → Nat} {w w1 : World} (h : Laid st w w1) (o : Obj) (cs : Array Value) : Laid st w ((w1.alloc o).setRow w1.heap.size cs) := by
  obtain ⟨a, b, c, d, e, f⟩ := h
  refine ⟨(a.alloc _).setRow_other (by omega) _, (b.alloc _).setRow_other (by omega) _, ⟨(c.1.alloc _).setRow_other (by omega) _, (c.2.1.alloc _).setRow_other (by omega) _, (c.2.2.alloc _).setRow_other (by omega) _⟩, ⟨(d.1.alloc _).setRow_other (by omega) _, (d.2.1.alloc _).setRow_other (by omega) _, (d.2.2.alloc _).setRow_other (by omega) _⟩, ?_, below_setRow (f.alloc (by omega) _) (by omega) _⟩
  simp [World.setRow]
  omega

set_option maxRecDepth 100000 in
set_option maxHeartbeats 1600000 in
theorem next_any (K st blk : Nat → Nat) (b o : Nat) (w : World) (hb : b < w.heap.size) (hblk : ∀ j, j < 64 → blk j < 256) (hst : ∀ j, j < 8 → st j < 4294967296)
    (h1 : 1 < w.heap.size) (hKc : ∀ j, j < 64 → w.cell? ⟨1, j, none⟩ = some (.int .u32 (K j : Nat)))
    (hc : ∀ j, j < 64 → w.cell? ⟨b, o + j, none⟩ = some (.int .u8 (blk j : Nat))) :
    Calls Tryd.prog 25 #[.agg (cellsN .u32 8 st), .pointer (some ⟨b, o, none⟩)] w fun e w' => e = .returned (.agg (cellsN .u32 8 (nextSt K st blk))) ∧ Below w.heap.size w w' := by
  have hsch : Calls Tryd.prog 29 #[.pointer (some ⟨b, o, none⟩)] (nw st w) fun e w' => e = .returned (.agg (cellsN .u32 64 (sched blk))) ∧ Laid st w w' :=
    (schedule_any blk b o (nw st w) (Nat.lt_of_lt_of_le hb (nw_below st w).size) hblk (fun j hj => ((nw_below st w).cell hb).trans (hc j hj))).mono fun e w' h => ⟨h.1, nw_laid st w w' h.2⟩
  have hW := fun j => sched_lt blk hblk j
  clear hblk hc
  go_enter Tryd.func25, Tryd.ntmps25
  go_wp2_with (first
    | (go_at_call 28; refine (mkTurns _ _ _ _).mono ?_; rintro e w' ⟨rfl, rfl⟩)
    | (go_at_call 29; refine hsch.mono ?_; rintro e w1 ⟨rfl, hb1⟩; have hs0 : Has (w1.alloc (.cells (cellsN .u32 64 fun _ => 0) 65)) w1.heap.size 65 (cellsN .u32 64 fun _ => 0) := Has.new _ _ _)
    | (refine wpList_store_rowG rfl 65 _ _ rfl _ (cellsN .u32 64 (sched blk)) rfl rfl 65 _ hs0 (by rw [cellsN_size]; exact Tryd.size65) (by simp [cellsN_size]) (cellsN_one _ _ _) ?_; intro w2 hw2; have hL : Laid st w w2 := (by rw [hw2]; exact hb1.row _ _); have hWd : Has w2 w1.heap.size 65 (cellsN .u32 64 (sched blk)) := (by rw [hw2]; exact hs0.setRow _); have hM : w.heap.size + 1 + 1 + 1 + 1 + 1 + 1 + 1 + 1 ≤ w1.heap.size := hb1.2.2.2.2.1; clear hw2 hs0))
  clear hsch hb1
  have c0 := hL.1.num 0 (by omega)
  have c1 := hL.1.num 1 (by omega)
  have c2 := hL.1.num 2 (by omega)
  have c3 := hL.1.num 3 (by omega)
  have c4 := hL.1.num 4 (by omega)
  have c5 := hL.1.num 5 (by omega)
  have c6 := hL.1.num 6 (by omega)
  have c7 := hL.1.num 7 (by omega)
  go_quiet (fail)
  go_wp2
  have hLd := hL.drewN nq
  have hWq := hWd.drewN nq
  clear c0 c1 c2 c3 c4 c5 c6 c7 hL hWd
  go_loopw [8, 9, 10, 11, 12, 13, 14, 15, 41] (fun a b c d e f g h i wr => ∃ k : Nat, k ≤ 64 ∧ i = .int .i64 k ∧ a = .int .u32 (rnds K (sched blk) st k 0 : Nat) ∧ b = .int .u32 (rnds K (sched blk) st k 1 : Nat) ∧ c = .int .u32 (rnds K (sched blk) st k 2 : Nat) ∧ d = .int .u32 (rnds K (sched blk) st k 3 : Nat) ∧
      e = .int .u32 (rnds K (sched blk) st k 4 : Nat) ∧ f = .int .u32 (rnds K (sched blk) st k 5 : Nat) ∧ g = .int .u32 (rnds K (sched blk) st k 6 : Nat) ∧ h = .int .u32 (rnds K (sched blk) st k 7 : Nat) ∧ Laid st w wr ∧ Has wr w1.heap.size 65 (cellsN .u32 64 (sched blk)))
    (fun _ _ _ _ _ _ _ _ i _ => 64 - (intOf i).toNat)
  case atStart => exact ⟨0, Nat.zero_le _, rfl, rfl, rfl, rfl, rfl, rfl, rfl, rfl, rfl, hLd, hWq⟩
  case round =>
    clear hLd hWq
    obtain ⟨k, hk, rfl, rfl, rfl, rfl, rfl, rfl, rfl, rfl, rfl, hLd, hWq⟩ := hrel
    have hsl := rnds_lt K (sched blk) st hst k
    by_cases hlt : k < 64
    · obtain ⟨s, hs⟩ : ∃ s, s = rnds K (sched blk) st k := ⟨_, rfl⟩
      rw [← hs] at hsl ⊢
      have HS : Hid (s = rnds K (sched blk) st k) := hs
      clear hs
      have x0 := hsl 0 (by omega)
      have x1 := hsl 1 (by omega)
      have x2 := hsl 2 (by omega)
      have x3 := hsl 3 (by omega)
      have x4 := hsl 4 (by omega)
      have x5 := hsl 5 (by omega)
      have x6 := hsl 6 (by omega)
      have x7 := hsl 7 (by omega)
      have i1 : (k : Int) < 64 := by omega
      have i0 : (0 : Int) ≤ (k : Int) := by omega
      have kc : wr.cell? ⟨1, k, none⟩ = some (.int .u32 (K k : Nat)) := (hLd.2.2.2.2.2.cell h1).trans (hKc k hlt)
      have wc := hWq.num k hlt
      have s1 := fun m => (hLd.drewN m).2.2.2.1.turn (s 4) x4 ⟨by omega, by omega⟩ ⟨by omega, by omega⟩ ⟨by omega, by omega⟩
      have s0 := fun m => (hLd.drewN m).2.2.1.turn (s 0) x0 ⟨by omega, by omega⟩ ⟨by omega, by omega⟩ ⟨by omega, by omega⟩
      clear hsl hst hKc hW
      go_wp2_with fail
      go_quiet ((go_at_call 30; exact Calls.quiet_of (s1 _)))
      go_wp2_with (go_at_call 30; refine (s0 _).mono ?_; rintro e w' ⟨rfl, m2, rfl⟩)
      have e1 := ch_eq (s 4) (s 5) (s 6) x4 x5 x6
      have e2 := maj_eq (s 0) (s 1) (s 2) x0 x1 x2
      rw [e1, e2, sum5, add_u32, add_u32, add_u32]
      clear e1 e2
      go_roundw
      case rel =>
        rw [HS.out] at *
        refine ⟨k + 1, by omega, by go_num, ?_, ?_, ?_, ?_, ?_, ?_, ?_, ?_, hLd.drewN _, hWq.drewN _⟩
        · rw [rnds_succ, rnd_0]; rfl
        · rw [rnds_succ, rnd_i _ _ _ _ 1 (by decide) (by decide)]
        · rw [rnds_succ, rnd_i _ _ _ _ 2 (by decide) (by decide)]
        · rw [rnds_succ, rnd_i _ _ _ _ 3 (by decide) (by decide)]
        · rw [rnds_succ, rnd_4]; rfl
        · rw [rnds_succ, rnd_i _ _ _ _ 5 (by decide) (by decide)]
        · rw [rnds_succ, rnd_i _ _ _ _ 6 (by decide) (by decide)]
        · rw [rnds_succ, rnd_i _ _ _ _ 7 (by decide) (by decide)]
      case measure => simp [intOf]; omega
    · obtain rfl : k = 64 := by omega
      obtain ⟨s, hs⟩ : ∃ s, s = rnds K (sched blk) st 64 := ⟨_, rfl⟩
      rw [← hs] at hsl ⊢
      have HS : Hid (s = rnds K (sched blk) st 64) := hs
      clear hs hKc hW
      rw [show ((64 : Nat) : Int) = 64 from rfl]
      go_wp2
      rw [show (#[Value.int .u32 ((s 0 : Nat) : Int), .int .u32 ((s 1 : Nat) : Int), .int .u32 ((s 2 : Nat) : Int), .int .u32 ((s 3 : Nat) : Int), .int .u32 ((s 4 : Nat) : Int), .int .u32 ((s 5 : Nat) : Int), .int .u32 ((s 6 : Nat) : Int), .int .u32 ((s 7 : Nat) : Int)] : Array Value) = cellsN .u32 8 s from rfl]
      obtain ⟨hS, hR, _, _, _, hbel⟩ := hLd
      go_loopw [103] (fun i wr => ∃ k : Nat, k ≤ 8 ∧ i = .int .i64 k ∧ Has wr w.heap.size 54 (cellsN .u32 8 (upto st s k)) ∧ Has wr (w.heap.size + 1) 54 (cellsN .u32 8 fun _ => 0) ∧ Below w.heap.size w wr)
        (fun i _ => 8 - (intOf i).toNat)
      case atStart => exact ⟨0, Nat.zero_le _, rfl, by rw [upto_zero]; exact hS, hR, hbel⟩
      case round =>
        clear hS hR hbel hWq
        obtain ⟨k, hk, rfl, hS, hR, hbel⟩ := hrel
        by_cases hlt : k < 8
        · have hc := hS.num k hlt
          have hf := hS.free k
          have hg := cellsN_get .u32 8 s k hlt
          have hz := cellsN_size .u32 8 s
          have hsk := hsl k hlt
          have i1 : (k : Int) < 8 := by omega
          have i0 : (0 : Int) ≤ (k : Int) := by omega
          rw [upto_at] at hc
          have hix := index_cells s k wr hlt
          go_wp2
          rw [add_u32]
          go_roundw
          case rel =>
            refine ⟨k + 1, by omega, by go_num, ?_, hR.other (by simp) _, hbel.setCell (by simp) _⟩
            have := hS.set k (add32 (st k) (s k))
            rw [upto_next] at this
            exact this
          case measure => simp [intOf]; omega
        · obtain rfl : k = 8 := by omega
          have hN := hR.setRow (cellsN .u32 8 (upto st s 8))
          go_wp2_with (first
            | (refine wpList_load_row rfl 54 _ rfl (w.heap.size) rfl 54 _ (0, 0) _ hS Tryd.underlying54 rfl (by rw [cellsN_size]; exact Tryd.size54) ?_)
            | (refine wpList_store_row rfl 54 _ _ rfl (w.heap.size + 1) (cellsN .u32 8 (upto st s 8)) rfl rfl 54 _ hR (by rw [cellsN_size]; exact Tryd.size54) (by simp [cellsN_size]) (cellsN_one _ _ _) ?_))
          refine bodyPost_ret (results_cell_row rfl _ _ (w.heap.size + 1) 54 _ (0, 0) _ rfl hN Tryd.underlying54 rfl (by rw [cellsN_size]; exact Tryd.size54)) rfl ⟨?_, below_setRow hbel (by omega) _⟩
          rw [cellsN_congr .u32 8 (upto st s 8) (nextSt K st blk) (fun j hj => by simp only [upto, if_pos hj, nextSt]; rw [HS.out])]
end Go.Proofs.YtoeanaadlihkeabDoor
