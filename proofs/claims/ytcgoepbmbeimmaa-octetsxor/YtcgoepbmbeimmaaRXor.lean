/- The document's own Xor over byte slices of one length. -/
import Derived.Test.YtcgoepbmbeimmaaXorBase
namespace Go.Proofs.Ytcgoepbmbeimmaa
open Go.ChangeShapes Go.WideShapes Go.ChangeAt Go.RowKit

theorem fill_snoc (h : Nat → Int) (k : Nat) : fill h k k ++ [.int .u8 (h k)] = fill h (k + 1) (k + 1) := by
  unfold fill
  rw [List.range_succ, List.map_append]
  congr 1
  · apply List.map_congr_left
    intro j hj
    have : j < k := by simpa using hj
    simp [this, Nat.lt_succ_of_lt this]
  · simp

theorem xorB_nat (x y : Int) (hx : 0 ≤ x ∧ x ≤ 255) (hy : 0 ≤ y ∧ y ≤ 255) : xorB x y = ((x.toNat ^^^ y.toNat : Nat) : Int) :=
  u8_xor x y hx.1 (by omega) hy.1 (by omega)

theorem xorB_bd (x y : Int) : 0 ≤ xorB x y ∧ xorB x y ≤ 255 := by
  unfold xorB bits
  simp [IntKind.wrap, IntKind.bits, IntKind.signed]
  omega

theorem xorB_back (x y : Int) (hx : 0 ≤ x ∧ x ≤ 255) (hy : 0 ≤ y ∧ y ≤ 255) : xorB (xorB x y) y = x := by
  rw [xorB_nat _ _ (xorB_bd x y) hy, xorB_nat x y hx hy, Int.toNat_natCast, Nat.xor_assoc, Nat.xor_self, Nat.xor_zero]
  omega

set_option maxRecDepth 100000 in
set_option maxHeartbeats 1600000 in
theorem rxor_pos (b1 o1 b2 o2 len c1 c2 : Nat) (f g : Nat → Int) (w : World) (hm : len ≤ 140737488351232) (l1 : b1 < w.heap.size) (l2 : b2 < w.heap.size)
    (h1 : ∀ j, j < len → w.cell? ⟨b1, o1 + j, none⟩ = some (.int .u8 (f j))) (h2 : ∀ j, j < len → w.cell? ⟨b2, o2 + j, none⟩ = some (.int .u8 (g j))) :
    Calls Try.prog 16 #[.slice (some ⟨b1, o1, none⟩) len c1, .slice (some ⟨b2, o2, none⟩) len c2] w fun e w' => ∃ v, e = .returned (.tuple #[v, .int .i64 0]) ∧
      w'.ownsRow w.heap.size 5 1 v len (fill (fun j => xorB (f j) (g j)) len len) ∧ Below w.heap.size w w' := by
  obtain ⟨i0, hi, hz0, hz1, hz2⟩ := info_parts Try.info5
  go_enter Try.func16, Try.ntmps16
  go_wp2
  go_loopw [6, 7] (fun v i wr => ∃ k : Nat, k ≤ len ∧ i = .int .i64 k ∧ wr.ownsRow w.heap.size 5 1 v k (fill (fun j => xorB (f j) (g j)) k k) ∧ Below w.heap.size w wr)
    (fun _ i _ => len - (intOf i).toNat)
  case atStart => exact ⟨0, Nat.zero_le _, rfl, World.ownsRow_nil _ _ _ _, Below.refl _ _⟩
  case round =>
    obtain ⟨k, hk, rfl, hown, hbel⟩ := hrel
    by_cases hlt : k < len
    · have q1 : wr.cell? ⟨b1, o1 + k, none⟩ = some (.int .u8 (f k)) := (hbel.cell l1).trans (h1 k hlt)
      have q2 : wr.cell? ⟨b2, o2 + k, none⟩ = some (.int .u8 (g k)) := (hbel.cell l2).trans (h2 k hlt)
      have hk0 : (0 : Int) ≤ (k : Int) := Int.natCast_nonneg _
      have hk1 : (k : Int) < (len : Int) := by omega
      have hsz := hbel.size
      have n1 : some b1 ≠ u6.ownBlock := fun h => by have := (hown.lt b1 h.symm).1; omega
      have n2 : some b2 ≠ u6.ownBlock := fun h => by have := (hown.lt b2 h.symm).1; omega
      clear h1 h2
      go_wp2_with fail
      go_region_held3 (fun w' => w'.cell? ⟨b1, o1 + k, none⟩ = some (.int .u8 (f k)) ∧ w'.cell? ⟨b2, o2 + k, none⟩ = some (.int .u8 (g k)))
        (first
          | go_keep
          | (go_split_ands
             refine ⟨?_, ?_⟩
             · (rw [hgrow.cell_far _ (by simp; omega) n1]; simp; assumption)
             · (rw [hgrow.cell_far _ (by simp; omega) n2]; simp; assumption)))
        ((refine step_append_lies _ (by rfl) _ _ _ (by rfl) w.heap.size 5 i0 _ 1 1 Try.underlying22 hi hz0 hz1 hz2 rfl (by omega) _ k _ (by rfl) ((hown.alloc _).drew)
            ⟨wr.heap.size, 0, none⟩ 1 1 [.int .u8 (xorB (f k) (g k))] (by rfl) (by rfl) (World.news_of_block (cs := #[.int .u8 (xorB (f k) (g k))]) (t := 5) (fr := (0, 0)) (heap_alloc_new wr _)) (by simp [Value.oneCell'])
            (by omega) (by unfold maxLen; omega) (by omega) (by simp; omega) (wr.heap.size + 1) (by simp) ?_; intro gg cap w1 hown1 hgrow hat hlt1))
      have hb1 : Below w.heap.size w w1 := ((hbel.alloc hsz _).drew).grown hgrow (by simp; omega) (fun k' h => (hown.lt k' h).1)
      rw [fill_snoc (fun j => xorB (f j) (g j)) k] at hown1
      clear hgrow hown q1 q2 n1 n2
      go_wp2
      go_roundw
      case rel => exact ⟨k + 1, by omega, by go_num, hown1, hb1⟩
      case measure => simp [intOf]; omega
    · obtain rfl : k = len := by omega
      clear h1 h2
      go_wp2
      go_ret2
      exact ⟨_, rfl, hown, hbel⟩

theorem rxor_zero (a1 a2 : Option Addr) (c1 c2 : Nat) (w : World) :
    Calls Try.prog 16 #[.slice a1 0 c1, .slice a2 0 c2] w fun e w' => e = .returned (.tuple #[.slice none 0 0, .int .i64 0]) ∧ w' = w := by
  go_enter Try.func16, Try.ntmps16
  go_wp2
  refine wp_loop_rounds 1 ?_
  rw [rounds_succ]
  go_wp2
  go_ret2
  exact ⟨rfl, rfl⟩

theorem rxor_ok (a1 a2 : Option Addr) (len c1 c2 : Nat) (f g : Nat → Int) (w : World) (hm : len ≤ 140737488351232) (h1 : Row w a1 len f) (h2 : Row w a2 len g) :
    Calls Try.prog 16 #[.slice a1 len c1, .slice a2 len c2] w fun e w' => ∃ a c, e = .returned (.tuple #[.slice a len c, .int .i64 0]) ∧ Row w' a len (fun j => xorB (f j) (g j)) ∧ (a = none → len = 0) ∧ Below w.heap.size w w' := by
  by_cases h0 : len = 0
  · subst h0
    refine (rxor_zero a1 a2 c1 c2 w).mono ?_
    rintro e w' ⟨rfl, rfl⟩
    exact ⟨none, 0, rfl, fun j hj => by omega, fun _ => rfl, Below.refl _ _⟩
  · obtain ⟨_, b1, o1, rfl, l1, _⟩ := h1 0 (by omega)
    obtain ⟨_, b2, o2, rfl, l2, _⟩ := h2 0 (by omega)
    refine (rxor_pos b1 o1 b2 o2 len c1 c2 f g w hm l1 l2 ?_ ?_).mono ?_
    · intro j hj
      obtain ⟨_, b', o', e, _, hc⟩ := h1 j hj
      simp only [Option.some.injEq, Addr.mk.injEq, and_true] at e
      obtain ⟨rfl, rfl⟩ := e
      exact hc
    · intro j hj
      obtain ⟨_, b', o', e, _, hc⟩ := h2 j hj
      simp only [Option.some.injEq, Addr.mk.injEq, and_true] at e
      obtain ⟨rfl, rfl⟩ := e
      exact hc
    · rintro e w' ⟨v, rfl, hown, hb⟩
      obtain ⟨gg, c, rfl, _, _⟩ := hown.form (by omega)
      exact ⟨some ⟨gg, 0, none⟩, c, rfl, row_own hown (fun j _ => xorB_bd (f j) (g j)), by simp, hb⟩
end Go.Proofs.Ytcgoepbmbeimmaa
