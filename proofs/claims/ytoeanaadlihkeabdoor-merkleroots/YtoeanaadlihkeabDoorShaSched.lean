/- sha's schedule: a block's words, and those that follow from them. -/
import Derived.Test.YtoeanaadlihkeabDoorShaMem
import Derived.Deep.RegionHeld3
namespace Go.Proofs.YtoeanaadlihkeabDoor
open Go.ChangeShapes Go.WideShapes Go.ChangeAt Go.RowKit

def add32 (a b : Nat) : Nat := (a + b) % 4294967296

def ld (blk : Nat → Nat) : Nat → Nat → Nat
  | 0 => fun _ => 0
  | i + 1 => upd (ld blk i) (i / 4) (ld blk i (i / 4) * 256 % 4294967296 ||| blk i)

def wnext (f : Nat → Nat) (t : Nat) : Nat := add32 (add32 (add32 (turn2 17 19 10 (f (t - 2))) (f (t - 7))) (turn2 7 18 3 (f (t - 15)))) (f (t - 16))

def ext (f0 : Nat → Nat) : Nat → Nat → Nat
  | 0 => f0
  | t + 1 => upd (ext f0 t) (16 + t) (wnext (ext f0 t) (16 + t))

theorem ext_step (f0 : Nat → Nat) (k : Nat) (h : 16 ≤ k) : ext f0 (k + 1 - 16) = upd (ext f0 (k - 16)) k (wnext (ext f0 (k - 16)) k) := by
  rw [show k + 1 - 16 = (k - 16) + 1 from by omega]
  show upd _ (16 + (k - 16)) (wnext _ (16 + (k - 16))) = _
  rw [show 16 + (k - 16) = k from by omega]

def sched (blk : Nat → Nat) : Nat → Nat := ext (ld blk 64) 48

theorem add32_lt (a b : Nat) : add32 a b < 4294967296 := Nat.mod_lt _ (by decide)

theorem or_lt {a b : Nat} (ha : a < 4294967296) (hb : b < 4294967296) : a ||| b < 4294967296 := by
  rw [show (4294967296 : Nat) = 2 ^ 32 from rfl] at *
  exact Nat.or_lt_two_pow ha hb

theorem ld_lt (blk : Nat → Nat) (h : ∀ j, j < 64 → blk j < 256) : ∀ i, i ≤ 64 → ∀ j, ld blk i j < 4294967296 := by
  intro i
  induction i with
  | zero => intro _ j; simp [ld]
  | succ i ih =>
    intro hi j
    unfold ld upd
    have hb := h i (by omega)
    by_cases e : j = i / 4
    · simp only [e, if_pos]; exact or_lt (Nat.mod_lt _ (by decide)) (by omega)
    · simp only [e, if_false]; exact ih (by omega) j

theorem ext_lt (f : Nat → Nat) (h : ∀ j, f j < 4294967296) : ∀ t j, ext f t j < 4294967296 := by
  intro t
  induction t with
  | zero => exact h
  | succ t ih =>
    intro j
    unfold ext upd
    by_cases e : j = 16 + t
    · simp only [e, if_pos]; exact add32_lt _ _
    · simp only [e, if_false]; exact ih j

theorem add_u32 (a b : Nat) : ((a : Int) + (b : Int)) % 4294967296 = ((add32 a b : Nat) : Int) := by unfold add32; omega

theorem wrapadd_u32 (a b : Nat) : IntKind.u32.wrap ((a : Int) + (b : Int)) = ((add32 a b : Nat) : Int) := by
  rw [← add_u32]
  simp only [IntKind.wrap, IntKind.bits, IntKind.signed]
  simp

/-- Three captured numbers, each in a block of its own. -/
def Three (w : World) (g : Nat) (i j k : Nat) : Prop := Has w g 3 #[.int .i64 (i : Nat)] ∧ Has w (g + 1) 3 #[.int .i64 (j : Nat)] ∧ Has w (g + 1 + 1) 3 #[.int .i64 (k : Nat)]

theorem Three.other {w : World} {g i j k : Nat} (h : Three w g i j k) {p : Addr} (hp : g + 1 + 1 < p.block) (u : Value) : Three (w.setCell p u) g i j k :=
  ⟨h.1.other (by omega) _, h.2.1.other (by omega) _, h.2.2.other (by omega) _⟩

theorem Three.drewN {w : World} {g i j k : Nat} (h : Three w g i j k) (m : Nat) : Three (w.drewN m) g i j k := h

theorem Three.heap {w w' : World} {g i j k : Nat} (h : Three w g i j k) (hw : w'.heap = w.heap) : Three w' g i j k := by unfold Three Has at *; rw [hw]; exact h

theorem Three.alloc {w : World} {g i j k : Nat} (h : Three w g i j k) (o : Obj) : Three (w.alloc o) g i j k := ⟨h.1.alloc _, h.2.1.alloc _, h.2.2.alloc _⟩

theorem Three.new (w : World) (g i j k : Nat) (hg : g = w.heap.size) : Three (((w.alloc (.cells #[.int .i64 (i : Nat)] 3)).alloc (.cells #[.int .i64 (j : Nat)] 3)).alloc (.cells #[.int .i64 (k : Nat)] 3)) g i j k := by
  subst hg
  exact ⟨((Has.new_at rfl).alloc _).alloc _, (Has.new_at (by simp)).alloc _, Has.new_at (by simp)⟩

theorem Three.shift {w : World} {g i j k : Nat} (h : Three w g i j k) (x : Nat) (hx : x < 4294967296) (hi : 1 ≤ i ∧ i ≤ 31) (hj : 1 ≤ j ∧ j ≤ 31) (hk : 1 ≤ k ∧ k ≤ 31) :
    Calls Tryd.prog 34 #[.int .u32 x, .pointer (some ⟨g, 0, none⟩), .pointer (some ⟨g + 1, 0, none⟩), .pointer (some ⟨g + 1 + 1, 0, none⟩)] w fun e w' => e = .returned (.int .u32 (turn2 i j k x : Nat)) ∧ ∃ m, w' = w.drewN m :=
  turnsShift_any x i j k _ _ _ w hx hi hj hk (by rw [h.1.cell]; rfl) (by rw [h.2.1.cell]; rfl) (by rw [h.2.2.cell]; rfl)

theorem Three.turn {w : World} {g i j k : Nat} (h : Three w g i j k) (x : Nat) (hx : x < 4294967296) (hi : 1 ≤ i ∧ i ≤ 31) (hj : 1 ≤ j ∧ j ≤ 31) (hk : 1 ≤ k ∧ k ≤ 31) :
    Calls Tryd.prog 30 #[.int .u32 x, .pointer (some ⟨g, 0, none⟩), .pointer (some ⟨g + 1, 0, none⟩), .pointer (some ⟨g + 1 + 1, 0, none⟩)] w fun e w' => e = .returned (.int .u32 (turn3 i j k x : Nat)) ∧ ∃ m, w' = w.drewN m :=
  turns_any x i j k _ _ _ w hx hi hj hk (by rw [h.1.cell]; rfl) (by rw [h.2.1.cell]; rfl) (by rw [h.2.2.cell]; rfl)

theorem mkShift (i j k : Int) (w : World) : Calls Tryd.prog 32 #[.int .i64 i, .int .i64 j, .int .i64 k] w fun e w' =>
    e = .returned (.func (.func 34) #[] #[.pointer (some ⟨w.heap.size, 0, none⟩), .pointer (some ⟨w.heap.size + 1, 0, none⟩), .pointer (some ⟨w.heap.size + 1 + 1, 0, none⟩)]) ∧
      w' = ((w.alloc (.cells #[.int .i64 i] 3)).alloc (.cells #[.int .i64 j] 3)).alloc (.cells #[.int .i64 k] 3) := by
  go_enter Tryd.func32, Tryd.ntmps32
  go_wp2
  go_ret
  exact ⟨rfl, rfl⟩

theorem mkTurns (i j k : Int) (w : World) : Calls Tryd.prog 28 #[.int .i64 i, .int .i64 j, .int .i64 k] w fun e w' =>
    e = .returned (.func (.func 30) #[] #[.pointer (some ⟨w.heap.size, 0, none⟩), .pointer (some ⟨w.heap.size + 1, 0, none⟩), .pointer (some ⟨w.heap.size + 1 + 1, 0, none⟩)]) ∧
      w' = ((w.alloc (.cells #[.int .i64 i] 3)).alloc (.cells #[.int .i64 j] 3)).alloc (.cells #[.int .i64 k] 3) := by
  go_enter Tryd.func28, Tryd.ntmps28
  go_wp2
  go_ret
  exact ⟨rfl, rfl⟩

set_option maxRecDepth 100000 in
set_option maxHeartbeats 1600000 in
theorem schedule_any (blk : Nat → Nat) (b o : Nat) (w : World) (hb : b < w.heap.size) (hblk : ∀ j, j < 64 → blk j < 256)
    (hc : ∀ j, j < 64 → w.cell? ⟨b, o + j, none⟩ = some (.int .u8 (blk j : Nat))) :
    Calls Tryd.prog 29 #[.pointer (some ⟨b, o, none⟩)] w fun e w' => e = .returned (.agg (cellsN .u32 64 (sched blk))) ∧ Below w.heap.size w w' := by
  have hldlt := ld_lt blk hblk
  go_enter Tryd.func29, Tryd.ntmps29
  go_wp2_with (go_at_call 32; refine (mkShift _ _ _ _).mono ?_; rintro e w' ⟨rfl, rfl⟩)
  go_loopw [12] (fun i wr => ∃ k : Nat, k ≤ 64 ∧ i = .int .i64 k ∧ (Three wr (w.heap.size + 1) 7 18 3 ∧ Three wr (w.heap.size + 1 + 1 + 1 + 1) 17 19 10) ∧ Has wr w.heap.size 65 (cellsN .u32 64 fun _ => 0) ∧ Has wr (w.heap.size + 1 + 1 + 1 + 1 + 1 + 1 + 1) 65 (cellsN .u32 64 (ld blk k)) ∧ Below w.heap.size w wr)
    (fun i _ => 64 - (intOf i).toNat)
  case atStart =>
    refine ⟨0, Nat.zero_le _, rfl, ⟨((((Three.new _ _ 7 18 3 (by simp)).alloc _).alloc _).alloc _).alloc _, (Three.new _ _ 17 19 10 (by simp)).alloc _⟩, ?_, ?_, ?_⟩
    · exact (((((((Has.new_at (by simp)).alloc _).alloc _).alloc _).alloc _).alloc _).alloc _).alloc _
    · exact Has.new_at (by simp)
    · refine ((((((((Below.refl _ _).alloc (Nat.le_refl _) _).alloc ?_ _).alloc ?_ _).alloc ?_ _).alloc ?_ _).alloc ?_ _).alloc ?_ _).alloc ?_ _ <;> (simp; try omega)
  case round =>
    obtain ⟨k, hk, rfl, ⟨t1, t2⟩, hR, hW, hbel⟩ := hrel
    by_cases hlt : k < 64
    · have hcell : wr.cell? ⟨b, o + k, none⟩ = some (.int .u8 (blk k : Nat)) := (hbel.cell hb).trans (hc k hlt)
      have hk0 : (0 : Int) ≤ (k : Int) := Int.natCast_nonneg _
      have hk1 : (k : Int) < 64 := by omega
      have hbk := hblk k hlt
      have hwc := hW.num (k / 4) (by omega)
      have hwf := hW.free (k / 4)
      have hwl := hldlt k hk (k / 4)
      clear hldlt hc hblk
      go_wp2_with fail
      go_quiet (fail)
      go_wp2
      have e1 := u32_or_nat (ld blk k (k / 4) * 256 % 4294967296) (blk k) (Nat.mod_lt _ (by decide)) (by omega)
      rw [Int.natCast_emod, Int.natCast_mul] at e1
      go_roundw
      case rel =>
        refine ⟨k + 1, by omega, by go_num, ⟨(t1.drewN nq).other (by simp; try omega) _, (t2.drewN nq).other (by simp; try omega) _⟩, (hR.drewN nq).other (by simp; try omega) _, ?_, (below_drewN hbel nq).setCell (by simp; try omega) _⟩
        have := (hW.drewN nq).set (k / 4) (ld blk k (k / 4) * 256 % 4294967296 ||| blk k)
        rw [← e1] at this
        exact this
      case measure => simp [intOf]; omega
    · obtain rfl : k = 64 := by omega
      have hel : ∀ t j, ext (ld blk 64) t j < 4294967296 := ext_lt _ (hldlt 64 (Nat.le_refl _))
      clear hldlt hc hblk
      rw [show ((64 : Nat) : Int) = 64 from rfl]
      go_wp2
      go_loopw [8] (fun i wr => ∃ k : Nat, 16 ≤ k ∧ k ≤ 64 ∧ i = .int .i64 k ∧ (Three wr (w.heap.size + 1) 7 18 3 ∧ Three wr (w.heap.size + 1 + 1 + 1 + 1) 17 19 10) ∧ Has wr w.heap.size 65 (cellsN .u32 64 fun _ => 0) ∧ Has wr (w.heap.size + 1 + 1 + 1 + 1 + 1 + 1 + 1) 65 (cellsN .u32 64 (ext (ld blk 64) (k - 16))) ∧ Below w.heap.size w wr)
        (fun i _ => 64 - (intOf i).toNat)
      case atStart => exact ⟨16, Nat.le_refl _, by omega, rfl, ⟨t1, t2⟩, hR, hW, hbel⟩
      case round =>
        clear t1 t2 hR hW hbel
        obtain ⟨k, hk1, hk2, rfl, ⟨t1, t2⟩, hR, hW, hbel⟩ := hrel
        by_cases hlt : k < 64
        · have hx := hel (k - 16)
          clear hel
          obtain ⟨f, hf⟩ : ∃ f, f = ext (ld blk 64) (k - 16) := ⟨_, rfl⟩
          rw [← hf] at hW hx
          have HF : Hid (f = ext (ld blk 64) (k - 16)) := hf
          clear hf
          obtain ⟨a2, ha2⟩ : ∃ a, a = k - 2 := ⟨_, rfl⟩
          have q2 := hW.num a2 (by omega)
          have w2 : IntKind.i64.wrap ((k : Int) - 2) = (a2 : Int) := by rw [IntWalk.i64_in _ ⟨by omega, by omega⟩]; omega
          have l2 : (0 : Int) ≤ (a2 : Int) := by omega
          have g2 : (a2 : Int) < 64 := by omega
          have n2 : ¬ a2 = k := by omega
          have A2 : Hid (a2 = k - 2) := ha2
          clear ha2
          obtain ⟨a7, ha7⟩ : ∃ a, a = k - 7 := ⟨_, rfl⟩
          have q7 := hW.num a7 (by omega)
          have w7 : IntKind.i64.wrap ((k : Int) - 7) = (a7 : Int) := by rw [IntWalk.i64_in _ ⟨by omega, by omega⟩]; omega
          have l7 : (0 : Int) ≤ (a7 : Int) := by omega
          have g7 : (a7 : Int) < 64 := by omega
          have n7 : ¬ a7 = k := by omega
          have A7 : Hid (a7 = k - 7) := ha7
          clear ha7
          obtain ⟨a15, ha15⟩ : ∃ a, a = k - 15 := ⟨_, rfl⟩
          have q15 := hW.num a15 (by omega)
          have w15 : IntKind.i64.wrap ((k : Int) - 15) = (a15 : Int) := by rw [IntWalk.i64_in _ ⟨by omega, by omega⟩]; omega
          have l15 : (0 : Int) ≤ (a15 : Int) := by omega
          have g15 : (a15 : Int) < 64 := by omega
          have n15 : ¬ a15 = k := by omega
          have A15 : Hid (a15 = k - 15) := ha15
          clear ha15
          obtain ⟨a16, ha16⟩ : ∃ a, a = k - 16 := ⟨_, rfl⟩
          have q16 := hW.num a16 (by omega)
          have w16 : IntKind.i64.wrap ((k : Int) - 16) = (a16 : Int) := by rw [IntWalk.i64_in _ ⟨by omega, by omega⟩]; omega
          have l16 : (0 : Int) ≤ (a16 : Int) := by omega
          have g16 : (a16 : Int) < 64 := by omega
          have n16 : ¬ a16 = k := by omega
          have A16 : Hid (a16 = k - 16) := ha16
          clear ha16
          have hwc := hW.num k (by omega)
          have hwf := hW.free k
          have i1 : (k : Int) < 64 := by omega
          have i2 : (16 : Int) ≤ (k : Int) := by omega
          have s1 := fun (w1 : World) (h1 : w1.heap = wr.heap) => (t2.heap h1).shift (f a2) (hx _) ⟨by omega, by omega⟩ ⟨by omega, by omega⟩ ⟨by omega, by omega⟩
          have s2 := fun (w1 : World) (h1 : w1.heap = wr.heap) => (t1.heap h1).shift (f a15) (hx _) ⟨by omega, by omega⟩ ⟨by omega, by omega⟩ ⟨by omega, by omega⟩
          go_wp2_with fail
          go_region_held3 (fun w' => w'.cell? ⟨w.heap.size + 1 + 1 + 1 + 1 + 1 + 1 + 1, a2, none⟩ = some (.int .u32 (f a2 : Nat)) ∧ w'.cell? ⟨w.heap.size + 1 + 1 + 1 + 1 + 1 + 1 + 1, a7, none⟩ = some (.int .u32 (f a7 : Nat)) ∧ w'.cell? ⟨w.heap.size + 1 + 1 + 1 + 1 + 1 + 1 + 1, a15, none⟩ = some (.int .u32 (f a15 : Nat)) ∧ w'.cell? ⟨w.heap.size + 1 + 1 + 1 + 1 + 1 + 1 + 1, a16, none⟩ = some (.int .u32 (f a16 : Nat)))
            (first | go_keep | ((try dsimp only); refine And.intro ?_ (And.intro ?_ (And.intro ?_ ?_)) <;> (refine (World.cell?_setCell_other _ _ _ _ ?_).trans ?_ <;> first | exact q2 | exact q7 | exact q15 | exact q16 | (intro h; simp at h <;> omega))))
            (first | (go_at_call_of 34 (Value.int .u32 ((f a2 : Nat) : Int)); refine (s1 _ ?_).mono ?_; exact rfl; rintro e w' ⟨rfl, m1, rfl⟩) | (go_at_call_of 34 (Value.int .u32 ((f a15 : Nat) : Int)); refine (s2 _ ?_).mono ?_; exact rfl; rintro e w' ⟨rfl, m2, rfl⟩))
          go_wp2
          go_roundw
          case rel =>
            simp only [add_u32]
            refine ⟨k + 1, by omega, by omega, by go_num, ⟨(t1.drewN _).other (by simp; try omega) _, (t2.drewN _).other (by simp; try omega) _⟩, (hR.drewN _).other (by simp; try omega) _, ?_, (below_drewN hbel _).setCell (by simp; try omega) _⟩
            have := (hW.drewN (1 + m1 + m2)).set k (add32 (add32 (add32 (turn2 17 19 10 (f a2)) (f a7)) (turn2 7 18 3 (f a15))) (f a16))
            rw [ext_step _ _ hk1]
            have e := HF.out
            rw [← e]
            unfold wnext
            rw [← A2.out, ← A7.out, ← A15.out, ← A16.out]
            exact this
          case measure => simp [intOf]; omega
        · obtain rfl : k = 64 := by omega
          have hN := hR.setRow (cellsN .u32 64 (ext (ld blk 64) (64 - 16)))
          clear hel
          go_wp2_with (first
            | (refine wpList_load_row rfl 65 _ rfl (w.heap.size + 1 + 1 + 1 + 1 + 1 + 1 + 1) rfl 65 _ (0, 0) _ hW Tryd.underlying65 rfl (by rw [cellsN_size]; exact Tryd.size65) ?_)
            | (refine wpList_store_row rfl 65 _ _ rfl (w.heap.size) (cellsN .u32 64 (ext (ld blk 64) (64 - 16))) rfl rfl 65 _ hR (by rw [cellsN_size]; exact Tryd.size65) (by simp [cellsN_size]) (cellsN_one _ _ _) ?_))
          exact bodyPost_ret (results_cell_row rfl _ _ (w.heap.size) 65 _ (0, 0) _ rfl hN Tryd.underlying65 rfl (by rw [cellsN_size]; exact Tryd.size65)) rfl ⟨rfl, below_setRow hbel (by omega) _⟩
end Go.Proofs.YtoeanaadlihkeabDoor
