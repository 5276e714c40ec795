/- The reference's words: the walk. -/
import Derived.Test.YtoeanaadlihkeaaDoorRefWords
namespace Go.Proofs.YtoeanaadlihkeaaDoor
open Go.ChangeShapes Go.WideShapes Go.ChangeAt Go.RowKit
set_option linter.unusedVariables false

theorem word_lt (blk : Nat → Nat) (j : Nat) (h : ∀ j, blk j < 256) : word blk j < 4294967296 := by
  unfold word
  exact or_lt (Nat.mod_lt _ (by decide)) (Nat.lt_trans (h _) (by decide))

theorem wrap_small (x : Nat) (h : x < 256) : IntKind.u32.wrap (x : Int) = (x : Int) := by
  rw [wrap_u32, Nat.mod_eq_of_lt (by omega)]

theorem wrap_shift (x k : Nat) : IntKind.u32.wrap ((x : Int) * (k : Int)) = ((x * k % 4294967296 : Nat) : Int) := by
  rw [← Int.natCast_mul, wrap_u32]

set_option maxRecDepth 100000 in
set_option maxHeartbeats 3200000 in
theorem words_low (blk : Nat → Nat) (b o c : Nat) (w : World) (hc : 64 ≤ c) (hblk : ∀ j, blk j < 256) (hb : b < w.heap.size) (hcell : ∀ j, j < 64 → w.cell? ⟨b, o + j, none⟩ = some (.int .u8 (blk j : Nat))) :
    Calls Tryd.prog 40 #[.slice (some ⟨b, o, none⟩) 64 c] w fun e w' => ∃ v, e = .returned v ∧ w'.ownsRow w.heap.size 57 1 v 64 (wl (sched blk) 64) ∧ Below w.heap.size w w' := by
  go_enter Tryd.func40, Tryd.ntmps40
  go_wp2
  go_loopw [3, 4] (fun v i wr => ∃ k : Nat, k ≤ 16 ∧ i = .int .i64 ((4 * k : Nat) : Int) ∧ wr.ownsRow w.heap.size 57 1 v k (wl (sched blk) k) ∧ Below w.heap.size w wr)
    (fun _ i _ => 64 - (intOf i).toNat)
  case atStart => exact ⟨0, Nat.zero_le _, rfl, World.ownsRow_nil _ _ _ _, Below.refl _ _⟩
  case round =>
    obtain ⟨k, hk, rfl, own, hbel⟩ := hrel
    obtain ⟨va, vc, rfl⟩ : ∃ va vc, u3 = .slice va k vc := by
      rcases own.2 with ⟨rfl, rfl⟩ | ⟨g, cap, cur, rfl, _⟩
      · exact ⟨none, 0, rfl⟩
      · exact ⟨_, _, rfl⟩
    by_cases hlt : k < 16
    · have c0 : wr.cell? ⟨b, o + 4 * k, none⟩ = some (.int .u8 (blk (4 * k) : Nat)) := (hbel.cell hb).trans (hcell (4 * k) (by omega))
      have c1 : wr.cell? ⟨b, o + (4 * k + 1), none⟩ = some (.int .u8 (blk (4 * k + 1) : Nat)) := (hbel.cell hb).trans (hcell (4 * k + 1) (by omega))
      have c2 : wr.cell? ⟨b, o + (4 * k + 2), none⟩ = some (.int .u8 (blk (4 * k + 2) : Nat)) := (hbel.cell hb).trans (hcell (4 * k + 2) (by omega))
      have c3 : wr.cell? ⟨b, o + (4 * k + 3), none⟩ = some (.int .u8 (blk (4 * k + 3) : Nat)) := (hbel.cell hb).trans (hcell (4 * k + 3) (by omega))
      have hsl := sched_low blk k hlt
      obtain ⟨i, hi⟩ : ∃ i, i = 4 * k := ⟨_, rfl⟩
      obtain ⟨b0, e0⟩ : ∃ x, x = blk (4 * k) := ⟨_, rfl⟩
      obtain ⟨b1, e1⟩ : ∃ x, x = blk (4 * k + 1) := ⟨_, rfl⟩
      obtain ⟨b2, e2⟩ : ∃ x, x = blk (4 * k + 2) := ⟨_, rfl⟩
      obtain ⟨b3, e3⟩ : ∃ x, x = blk (4 * k + 3) := ⟨_, rfl⟩
      have l0 : b0 < 256 := by rw [e0]; exact hblk _
      have l1 : b1 < 256 := by rw [e1]; exact hblk _
      have l2 : b2 < 256 := by rw [e2]; exact hblk _
      have l3 : b3 < 256 := by rw [e3]; exact hblk _
      have hw4 := word4 b0 b1 b2 b3 l0 l1 l2 l3
      have m0 := wrap_small b0 l0
      have m1 := wrap_small b1 l1
      have m2 := wrap_small b2 l2
      have m3 := wrap_small b3 l3
      have s0 : IntKind.u32.wrap ((b0 : Int) * 16777216) = ((b0 * 16777216 % 4294967296 : Nat) : Int) := wrap_shift b0 16777216
      have s1 : IntKind.u32.wrap ((b1 : Int) * 65536) = ((b1 * 65536 % 4294967296 : Nat) : Int) := wrap_shift b1 65536
      have s2 : IntKind.u32.wrap ((b2 : Int) * 256) = ((b2 * 256 % 4294967296 : Nat) : Int) := wrap_shift b2 256
      obtain ⟨x0, hx0⟩ : ∃ x, x = b0 * 16777216 % 4294967296 := ⟨_, rfl⟩
      obtain ⟨x1, hx1⟩ : ∃ x, x = b1 * 65536 % 4294967296 := ⟨_, rfl⟩
      obtain ⟨x2, hx2⟩ : ∃ x, x = b2 * 256 % 4294967296 := ⟨_, rfl⟩
      have k0 : x0 < 4294967296 := by rw [hx0]; exact Nat.mod_lt _ (by decide)
      have k1 : x1 < 4294967296 := by rw [hx1]; exact Nat.mod_lt _ (by decide)
      have k2 : x2 < 4294967296 := by rw [hx2]; exact Nat.mod_lt _ (by decide)
      have o1 := u32_or_nat x0 x1 k0 k1
      have o2 := u32_or_nat (x0 ||| x1) x2 (or_lt k0 k1) k2
      have o3 := u32_or_nat (x0 ||| x1 ||| x2) b3 (or_lt (or_lt k0 k1) k2) (by omega)
      rw [← hx0] at s0
      rw [← hx1] at s1
      rw [← hx2] at s2
      obtain ⟨y, hy⟩ : ∃ y, y = x0 ||| x1 ||| x2 ||| b3 := ⟨_, rfl⟩
      have hys : sched blk k = y := by
        rw [hsl, hy, hx0, hx1, hx2]
        unfold word
        rw [← e0, ← e1, ← e2, ← e3]
        exact hw4.symm
      rw [← hy] at o3
      rw [← e0] at c0
      rw [← e1] at c1
      rw [← e2] at c2
      rw [← e3] at c3
      rw [← hi] at c0 c1 c2 c3 ⊢
      have i64 : (i : Int) < 64 := by omega
      have j0 : (0 : Int) ≤ (i : Int) := by omega
      have j1 : (i : Int) + 1 < 64 := by omega
      have j2 : (i : Int) + 2 < 64 := by omega
      have j3 : (i : Int) + 3 < 64 := by omega
      have j1' : (i : Int) < 63 := by omega
      have j2' : (i : Int) < 62 := by omega
      have j3' : (i : Int) < 61 := by omega
      have z1' : (-1 : Int) ≤ (i : Int) := by omega
      have z2' : (-2 : Int) ≤ (i : Int) := by omega
      have z3' : (-3 : Int) ≤ (i : Int) := by omega
      have wr1 : IntKind.i64.wrap ((i : Int) + 1) = (i : Int) + 1 := by rw [IntKind.wrap_i64]; omega
      have wr2 : IntKind.i64.wrap ((i : Int) + 2) = (i : Int) + 2 := by rw [IntKind.wrap_i64]; omega
      have wr3 : IntKind.i64.wrap ((i : Int) + 3) = (i : Int) + 3 := by rw [IntKind.wrap_i64]; omega
      have z1 : (0 : Int) ≤ (i : Int) + 1 := by omega
      have z2 : (0 : Int) ≤ (i : Int) + 2 := by omega
      have z3 : (0 : Int) ≤ (i : Int) + 3 := by omega
      have t1 : ((i : Int) + 1).toNat = i + 1 := by omega
      have t2 : ((i : Int) + 2).toNat = i + 2 := by omega
      have t3 : ((i : Int) + 3).toNat = i + 3 := by omega
      have HY : Hid (sched blk k = y) := hys
      have HI : Hid (i = 4 * k) := hi
      have q0 : w.cell? ⟨b, o + i, none⟩ = some (.int .u8 (b0 : Nat)) := (hbel.cell hb).symm.trans c0
      have q1 : w.cell? ⟨b, o + (i + 1), none⟩ = some (.int .u8 (b1 : Nat)) := (hbel.cell hb).symm.trans c1
      have q2 : w.cell? ⟨b, o + (i + 2), none⟩ = some (.int .u8 (b2 : Nat)) := (hbel.cell hb).symm.trans c2
      have q3 : w.cell? ⟨b, o + (i + 3), none⟩ = some (.int .u8 (b3 : Nat)) := (hbel.cell hb).symm.trans c3
      clear hcell hys hi hy hw4 hsl e0 e1 e2 e3 hx0 hx1 hx2 k0 k1 k2
      go_wp2_with fail
      have c0d : wr.drew.cell? ⟨b, o + i, none⟩ = some (.int .u8 (b0 : Nat)) := c0
      have c1d : wr.drew.cell? ⟨b, o + (i + 1), none⟩ = some (.int .u8 (b1 : Nat)) := c1
      have c2d : wr.drew.cell? ⟨b, o + (i + 2), none⟩ = some (.int .u8 (b2 : Nat)) := c2
      have c3d : wr.drew.cell? ⟨b, o + (i + 3), none⟩ = some (.int .u8 (b3 : Nat)) := c3
      have ownd : wr.drew.ownsRow w.heap.size 57 1 (.slice va k vc) k (wl (sched blk) k) := own
      have hbs : w.heap.size ≤ (wr.drew.alloc (.cells #[.int .u32 (y : Nat)] 57)).heap.size := by simp; exact Nat.le_succ_of_le hbel.size
      have hbne : wr.drew.heap.size ≠ b := by have := hbel.size; show wr.heap.size ≠ b; omega
      go_region_held3 (fun w' => w'.cell? ⟨b, o + i, none⟩ = some (.int .u8 (b0 : Nat)) ∧ w'.cell? ⟨b, o + (i + 1), none⟩ = some (.int .u8 (b1 : Nat)) ∧ w'.cell? ⟨b, o + (i + 2), none⟩ = some (.int .u8 (b2 : Nat)) ∧ w'.cell? ⟨b, o + (i + 3), none⟩ = some (.int .u8 (b3 : Nat)))
        (first | exact ⟨c0d, c1d, c2d, c3d⟩ | exact ⟨c0e, c1e, c2e, c3e⟩ | go_keep)
        (first
          | ((go_loud (refine step_append_word rfl (.tmp 12) (.tmp 42) rfl w.heap.size _ k (sched blk) rfl (ownd.alloc _) wr.drew.heap.size 1 rfl y ((Has.new wr.drew 57 #[.int .u32 (y : Nat)]).cell 0) (by omega) hbs ?_))
             (intro v7 w7 own7 gr7 old7)
             (clear old7)
             (have hb7 : Below w.heap.size w w7 := (hbel.drew.alloc hbel.size _).grown gr7 hbs (fun k' h => (ownd.lt k' h).1))
             (have c0e := (hb7.cell hb).trans q0)
             (have c1e := (hb7.cell hb).trans q1)
             (have c2e := (hb7.cell hb).trans q2)
             (have c3e := (hb7.cell hb).trans q3)))
      go_wp2
      go_roundw
      case rel =>
        refine ⟨k + 1, by omega, ?_, ?_, hb7⟩
        · rw [HI.out]; go_num
        · rw [wl_congr (sched blk) (upd (sched blk) k y) (k + 1) (fun j hj => by
            unfold upd
            split
            · next h => rw [h, HY.out]
            · rfl)]
          exact own7
      case measure => simp [intOf]; have := HI.out; omega
    · obtain rfl : k = 16 := by omega
      obtain ⟨f, hf⟩ : ∃ f, f = sched blk := ⟨_, rfl⟩
      have hfl : ∀ j, f j < 4294967296 ∨ True := fun _ => .inr trivial
      clear hcell hfl
      rw [show ((4 * 16 : Nat) : Int) = 64 from rfl]
      go_wp2
      go_loopw [3, 5] (fun v i wr => ∃ k : Nat, 16 ≤ k ∧ k ≤ 64 ∧ i = .int .i64 ((k : Nat) : Int) ∧ wr.ownsRow w.heap.size 57 1 v k (wl (sched blk) k) ∧ Below w.heap.size w wr)
        (fun _ i _ => 64 - (intOf i).toNat)
      case atStart => exact ⟨16, Nat.le_refl _, by decide, rfl, own, hbel⟩
      case round =>
        clear own hbel
        obtain ⟨k, hk1, hk2, rfl, own, hbel⟩ := hrel
        obtain ⟨g, vc, rfl, hvc, hgb, hgl⟩ : ∃ g vc, u3 = .slice (some ⟨g, 0, none⟩) k vc ∧ k ≤ vc ∧ w.heap.size ≤ g ∧ g < wr.heap.size := by
          rcases own.2 with ⟨rfl, rfl⟩ | ⟨g, cap, cur, rfl, hbg, hgg, hn, _⟩
          · omega
          · exact ⟨g, cap, rfl, hn, hbg, (Array.getElem?_eq_some_iff.1 hgg).1⟩
        by_cases hlt : k < 64
        · have hrec := sched_rec blk k hk1 hlt
          rw [← hf] at own hrec
          have hcl : ∀ a, a < k → wr.cell? ⟨g, a, none⟩ = some (.int .u32 (f a : Nat)) := fun a ha => by rw [own.cellAt a (by omega)]; exact wl_get f k a ha
          have hfb : ∀ j, j < 64 → f j < 4294967296 := fun j hj => by
            rw [hf]
            by_cases h : j < 16
            · rw [sched_low blk j h]
              exact word_lt blk j hblk
            · rw [sched_rec blk j (by omega) hj]
              exact add32_lt _ _
          obtain ⟨a2, ha2⟩ : ∃ a, a = k - 2 := ⟨_, rfl⟩
          obtain ⟨a7, ha7⟩ : ∃ a, a = k - 7 := ⟨_, rfl⟩
          obtain ⟨a15, ha15⟩ : ∃ a, a = k - 15 := ⟨_, rfl⟩
          obtain ⟨a16, ha16⟩ : ∃ a, a = k - 16 := ⟨_, rfl⟩
          obtain ⟨y, hy⟩ : ∃ y, y = f a2 := ⟨_, rfl⟩
          obtain ⟨x, hx⟩ : ∃ y, y = f a15 := ⟨_, rfl⟩
          obtain ⟨p7, hp7⟩ : ∃ y, y = f a7 := ⟨_, rfl⟩
          obtain ⟨p16, hp16⟩ : ∃ y, y = f a16 := ⟨_, rfl⟩
          have q2 := hcl a2 (by omega)
          have q7 := hcl a7 (by omega)
          have q15 := hcl a15 (by omega)
          have q16 := hcl a16 (by omega)
          rw [← hy] at q2
          rw [← hx] at q15
          rw [← hp7] at q7
          rw [← hp16] at q16
          have by_ : y < 4294967296 := by rw [hy]; exact hfb _ (by omega)
          have bx : x < 4294967296 := by rw [hx]; exact hfb _ (by omega)
          have w2 : IntKind.i64.wrap ((k : Int) - 2) = (a2 : Int) := by rw [IntKind.wrap_i64]; omega
          have w7 : IntKind.i64.wrap ((k : Int) - 7) = (a7 : Int) := by rw [IntKind.wrap_i64]; omega
          have w15 : IntKind.i64.wrap ((k : Int) - 15) = (a15 : Int) := by rw [IntKind.wrap_i64]; omega
          have w16 : IntKind.i64.wrap ((k : Int) - 16) = (a16 : Int) := by rw [IntKind.wrap_i64]; omega
          have g2 : (a2 : Int) < (k : Int) := by omega
          have g7 : (a7 : Int) < (k : Int) := by omega
          have g15 : (a15 : Int) < (k : Int) := by omega
          have g16 : (a16 : Int) < (k : Int) := by omega
          have i1 : (k : Int) < 64 := by omega
          obtain ⟨r17, h17⟩ : ∃ r, r = rotr 17 y := ⟨_, rfl⟩
          obtain ⟨r19, h19⟩ : ∃ r, r = rotr 19 y := ⟨_, rfl⟩
          obtain ⟨r7, h7⟩ : ∃ r, r = rotr 7 x := ⟨_, rfl⟩
          obtain ⟨r18, h18⟩ : ∃ r, r = rotr 18 x := ⟨_, rfl⟩
          obtain ⟨d10, hd10⟩ : ∃ r, r = y / 2 ^ 10 := ⟨_, rfl⟩
          obtain ⟨d3, hd3⟩ : ∃ r, r = x / 2 ^ 3 := ⟨_, rfl⟩
          have b17 : r17 < 4294967296 := by rw [h17]; exact rotr_lt _ _ by_
          have b19 : r19 < 4294967296 := by rw [h19]; exact rotr_lt _ _ by_
          have b7 : r7 < 4294967296 := by rw [h7]; exact rotr_lt _ _ bx
          have b18 : r18 < 4294967296 := by rw [h18]; exact rotr_lt _ _ bx
          have bd10 : d10 < 4294967296 := by rw [hd10]; exact Nat.lt_of_le_of_lt (Nat.div_le_self _ _) by_
          have bd3 : d3 < 4294967296 := by rw [hd3]; exact Nat.lt_of_le_of_lt (Nat.div_le_self _ _) bx
          have e10 : (y : Int) / 1024 = (d10 : Int) := by rw [hd10]; rfl
          have e3 : (x : Int) / 8 = (d3 : Int) := by rw [hd3]; rfl
          have x1 := u32_xor_nat r17 r19 b17 b19
          have x2 := u32_xor_nat (r17 ^^^ r19) d10 (xor_lt b17 b19) bd10
          have x3 := u32_xor_nat r7 r18 b7 b18
          have x4 := u32_xor_nat (r7 ^^^ r18) d3 (xor_lt b7 b18) bd3
          obtain ⟨z1, hz1⟩ : ∃ r, r = r17 ^^^ r19 ^^^ d10 := ⟨_, rfl⟩
          obtain ⟨z2, hz2⟩ : ∃ r, r = r7 ^^^ r18 ^^^ d3 := ⟨_, rfl⟩
          rw [← hz1] at x2
          rw [← hz2] at x4
          have s1 : IntKind.u32.wrap ((z1 : Int) + (p7 : Int)) = ((add32 z1 p7 : Nat) : Int) := by rw [← Int.natCast_add, wrap_u32]; rfl
          obtain ⟨t1, ht1⟩ : ∃ r, r = add32 z1 p7 := ⟨_, rfl⟩
          rw [← ht1] at s1
          have s2 : IntKind.u32.wrap ((t1 : Int) + (z2 : Int)) = ((add32 t1 z2 : Nat) : Int) := by rw [← Int.natCast_add, wrap_u32]; rfl
          obtain ⟨t2, ht2⟩ : ∃ r, r = add32 t1 z2 := ⟨_, rfl⟩
          rw [← ht2] at s2
          have s3 : IntKind.u32.wrap ((t2 : Int) + (p16 : Int)) = ((add32 t2 p16 : Nat) : Int) := by rw [← Int.natCast_add, wrap_u32]; rfl
          obtain ⟨t3, ht3⟩ : ∃ r, r = add32 t2 p16 := ⟨_, rfl⟩
          rw [← ht3] at s3
          have hval : f k = t3 := by
            rw [hrec, ht3, ht2, ht1, hz1, hz2, h17, h19, h7, h18, hd10, hd3, hy, hx, hp7, hp16, ha2, ha7, ha15, ha16]
            rfl
          have T17 : ∀ W, Calls Tryd.prog 41 #[.int .u32 (y : Nat), .int .u32 17] W fun e w' => e = .returned (.int .u32 (r17 : Nat)) ∧ w' = W := fun W => by rw [h17]; exact rturn_any y 17 W by_ (by decide) (by decide)
          have T19 : ∀ W, Calls Tryd.prog 41 #[.int .u32 (y : Nat), .int .u32 19] W fun e w' => e = .returned (.int .u32 (r19 : Nat)) ∧ w' = W := fun W => by rw [h19]; exact rturn_any y 19 W by_ (by decide) (by decide)
          have T7 : ∀ W, Calls Tryd.prog 41 #[.int .u32 (x : Nat), .int .u32 7] W fun e w' => e = .returned (.int .u32 (r7 : Nat)) ∧ w' = W := fun W => by rw [h7]; exact rturn_any x 7 W bx (by decide) (by decide)
          have T18 : ∀ W, Calls Tryd.prog 41 #[.int .u32 (x : Nat), .int .u32 18] W fun e w' => e = .returned (.int .u32 (r18 : Nat)) ∧ w' = W := fun W => by rw [h18]; exact rturn_any x 18 W bx (by decide) (by decide)
          have HT : Hid ((∀ W, Calls Tryd.prog 41 #[.int .u32 (y : Nat), .int .u32 17] W fun e w' => e = .returned (.int .u32 (r17 : Nat)) ∧ w' = W) ∧ (∀ W, Calls Tryd.prog 41 #[.int .u32 (y : Nat), .int .u32 19] W fun e w' => e = .returned (.int .u32 (r19 : Nat)) ∧ w' = W) ∧
            (∀ W, Calls Tryd.prog 41 #[.int .u32 (x : Nat), .int .u32 7] W fun e w' => e = .returned (.int .u32 (r7 : Nat)) ∧ w' = W) ∧ (∀ W, Calls Tryd.prog 41 #[.int .u32 (x : Nat), .int .u32 18] W fun e w' => e = .returned (.int .u32 (r18 : Nat)) ∧ w' = W)) := ⟨T17, T19, T7, T18⟩
          have HV : Hid (f k = t3) := hval
          have HP : Hid (p7 = f a7 ∧ p16 = f a16) := ⟨hp7, hp16⟩
          have HA : Hid (a7 < k ∧ a16 < k) := ⟨by omega, by omega⟩
          have HF : Hid (f = sched blk) := hf
          have q7d : wr.drew.cell? ⟨g, a7, none⟩ = some (.int .u32 (p7 : Nat)) := q7
          have q16d : wr.drew.cell? ⟨g, a16, none⟩ = some (.int .u32 (p16 : Nat)) := q16
          have ownd : wr.drew.ownsRow w.heap.size 57 1 (.slice (some ⟨g, 0, none⟩) k vc) k (wl f k) := own
          have hbs : w.heap.size ≤ (wr.drew.alloc (.cells #[.int .u32 (t3 : Nat)] 57)).heap.size := by simp; exact Nat.le_succ_of_le hbel.size
          have hgne : wr.drew.heap.size ≠ g := by show wr.heap.size ≠ g; omega
          clear hrec hcl hfb hy hx hp7 hp16 ha2 ha7 ha15 ha16 h17 h19 h7 h18 hd10 hd3 hz1 hz2 ht1 ht2 ht3 hval T17 T19 T7 T18 hf hblk b17 b19 b7 b18 bd10 bd3 by_ bx
          go_wp2_with fail
          go_region_held3 (fun w' => w'.cell? ⟨g, a7, none⟩ = some (.int .u32 (p7 : Nat)) ∧ w'.cell? ⟨g, a16, none⟩ = some (.int .u32 (p16 : Nat)))
            (first | exact ⟨q7d, q16d⟩ | exact ⟨q7e, q16e⟩ | go_keep)
            (first
              | (go_at_call_of 41 (Value.int .u32 17); refine (HT.out.1 _).mono ?_; rintro e w' ⟨rfl, rfl⟩)
              | (go_at_call_of 41 (Value.int .u32 19); refine (HT.out.2.1 _).mono ?_; rintro e w' ⟨rfl, rfl⟩)
              | (go_at_call_of 41 (Value.int .u32 7); refine (HT.out.2.2.1 _).mono ?_; rintro e w' ⟨rfl, rfl⟩)
              | (go_at_call_of 41 (Value.int .u32 18); refine (HT.out.2.2.2 _).mono ?_; rintro e w' ⟨rfl, rfl⟩)
              | ((refine step_append_word rfl (.tmp 58) (.tmp 88) rfl w.heap.size _ k f rfl (ownd.alloc _) wr.drew.heap.size 1 rfl t3 ((Has.new wr.drew 57 #[.int .u32 (t3 : Nat)]).cell 0) (by omega) hbs ?_)
                 (intro v7 w7 own7 gr7 old7)
                 (have hb7 : Below w.heap.size w w7 := (hbel.drew.alloc hbel.size _).grown gr7 hbs (fun k' h => (ownd.lt k' h).1))
                 (have q7e : w7.cell? ⟨g, a7, none⟩ = some (.int .u32 (p7 : Nat)) := (by rw [HP.out.1]; exact old7 g a7 rfl HA.out.1))
                 (have q16e : w7.cell? ⟨g, a16, none⟩ = some (.int .u32 (p16 : Nat)) := (by rw [HP.out.2]; exact old7 g a16 rfl HA.out.2))
                 (clear old7)))
          go_wp2
          go_roundw
          case rel =>
            refine ⟨k + 1, by omega, by omega, by go_num, ?_, hb7⟩
            rw [← HF.out, wl_congr f (upd f k t3) (k + 1) (fun j hj => by
              unfold upd
              split
              · next h => rw [h, HV.out]
              · rfl)]
            exact own7
          case measure => simp [intOf]; omega
        · obtain rfl : k = 64 := by omega
          go_wp2
          go_ret
          exact ⟨_, rfl, own, hbel⟩
end Go.Proofs.YtoeanaadlihkeaaDoor
