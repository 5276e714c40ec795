/- Contracts of octets.Xor, its closure and the document's own Xor over byte slices. -/
import Derived.Test.YtcgoepbmbeimmaaSlices
import Derived.Deep.QuietTactic
import Derived.BigQuiet
import Derived.WalkSmall
import Derived.Deep.RegionHeld3
import Derived.Deep.AppendLies
namespace Go.Proofs.Ytcgoepbmbeimmaa
open Go.ChangeShapes Go.WideShapes Go.ChangeAt Go.RowKit

def xorB (x y : Int) : Int := bits .xor .u8 x y

theorem own_drewN {w : World} {B e size n : Nat} {v : Value} {xs : List Value} (h : w.ownsRow B e size v n xs) (q : Nat) : (w.drewN q).ownsRow B e size v n xs := h

theorem xcl_any (i len c1 c2 b1 o1 b2 o2 p q : Nat) (x y : Int) (w : World) (hi : i < len)
    (hp : w.cell? ⟨p, 0, none⟩ = some (.slice (some ⟨b1, o1, none⟩) len c1)) (hq : w.cell? ⟨q, 0, none⟩ = some (.slice (some ⟨b2, o2, none⟩) len c2))
    (hx : w.cell? ⟨b1, o1 + i, none⟩ = some (.int .u8 x)) (hy : w.cell? ⟨b2, o2 + i, none⟩ = some (.int .u8 y)) :
    Calls Try.prog 24 #[.int .i64 i, .pointer (some ⟨p, 0, none⟩), .pointer (some ⟨q, 0, none⟩)] w fun e w' => e = .returned (.int .u8 (xorB x y)) ∧ ∃ m, w' = w.drewN m := by
  unfold xorB
  have h1 : (i : Int) < (len : Int) := by omega
  have h0 : (0 : Int) ≤ (i : Int) := by omega
  go_enter Try.func24, Try.ntmps24
  go_wp2
  go_quiet (fail)
  go_wp2
  go_ret
  exact ⟨rfl, _, rfl⟩

theorem build_xor (f : Nat → Int) (s : Nat) (w : World) (p q : Value) (hs : s ≤ maxLen) (hm : s ≤ 140737488351232)
    (hclo : ∀ (k : Nat) (wr : World), k < s → Below w.heap.size w wr → Calls Try.prog 24 #[.int .i64 k, p, q] wr fun e w' => e = .returned (.int .u8 (f k)) ∧ ∃ m, w' = wr.drewN m) :
    Calls Try.prog 22 #[.int .i64 s, .func (.func 24) #[] #[p, q]] w fun e w' => e = .returned (.slice (some ⟨w.heap.size, 0, none⟩) s s) ∧
      w'.ownsRow w.heap.size 5 1 (.slice (some ⟨w.heap.size, 0, none⟩) s s) s (fill f s s) ∧ Below w.heap.size w w' := by
  obtain ⟨i0, hi, hz0, hz1, hz2⟩ := info_parts Try.info5
  unfold maxLen at hs
  go_enter Try.func22, Try.ntmps22
  go_wp2_with (at_make; refine wpList_make_full _ rfl _ _ 22 rfl w.heap.size 5 i0 (.int .u8 0) 1 Try.underlying22 hi hz0 hz1 .i64 .i64 _ _ s rfl rfl rfl rfl (by rw [hz2]; omega) (by unfold maxLen; omega) (Nat.le_refl _) ?_; intro w1 hown hgr)
  rw [fill_zero f] at hown
  have hb0 : Below w.heap.size w w1 := (Below.refl _ _).grown hgr (Nat.le_refl _) (by intro k h; cases h)
  clear hgr hi hz0 hz1 hz2
  go_loopw [11] (fun i wr => ∃ k : Nat, k ≤ s ∧ i = .int .i64 k ∧ wr.ownsRow w.heap.size 5 1 (.slice (some ⟨w.heap.size, 0, none⟩) s s) s (fill f s k) ∧ Below w.heap.size w wr)
    (fun i _ => s - (intOf i).toNat)
  case atStart => exact ⟨0, Nat.zero_le _, rfl, hown, hb0⟩
  case round =>
    clear hown hb0
    obtain ⟨k, hk, rfl, hown, hbel⟩ := hrel
    by_cases hlt : k < s
    · have hcl := hclo k wr hlt hbel
      have hfz := hown.frozenAt k
      have hce : wr.cell? ⟨w.heap.size, k, none⟩ = some (.int .u8 0) := by rw [hown.cellAt k (by omega)]; simp [fill, hlt]
      go_wp2_with (go_at_call 24; refine hcl.mono ?_; rintro e w' ⟨rfl, m, rfl⟩)
      go_roundw
      case rel =>
        have R := (own_drewN hown m).stored k (.int .u8 (f k))
        rw [fill_set] at R
        exact ⟨k + 1, by omega, by go_num, R.1, (below_drewN hbel m).setCell (Nat.le_refl _) _⟩
      case measure => simp [intOf]; omega
    · obtain rfl : k = s := by omega
      go_wp2
      go_ret
      exact ⟨rfl, hown, hbel⟩

theorem xor_ok (a1 a2 : Option Addr) (len c1 c2 : Nat) (f g : Nat → Int) (w : World) (hm : len ≤ 140737488351232) (h1 : Row w a1 len f) (h2 : Row w a2 len g) :
    Calls Try.prog 15 #[.slice a1 len c1, .slice a2 len c2] w fun e w' => e = .returned (.tuple #[.slice (some ⟨w.heap.size + 2, 0, none⟩) len len, .int .i64 0]) ∧
      w'.ownsRow (w.heap.size + 2) 5 1 (.slice (some ⟨w.heap.size + 2, 0, none⟩) len len) len (fill (fun j => xorB (f j) (g j)) len len) ∧ Below w.heap.size w w' := by
  have hcl : ∀ (k : Nat) (wr : World), k < len → Below ((w.alloc (.cells #[.slice a1 len c1] 22)).alloc (.cells #[.slice a2 len c2] 22)).heap.size ((w.alloc (.cells #[.slice a1 len c1] 22)).alloc (.cells #[.slice a2 len c2] 22)) wr →
      Calls Try.prog 24 #[.int .i64 k, .pointer (some ⟨w.heap.size, 0, none⟩), .pointer (some ⟨w.heap.size + 1, 0, none⟩)] wr fun e w' => e = .returned (.int .u8 ((fun j => xorB (f j) (g j)) k)) ∧ ∃ m, w' = wr.drewN m := by
    intro k wr hk hb
    obtain ⟨_, b1, o1, rfl, l1, k1⟩ := h1 k hk
    obtain ⟨_, b2, o2, rfl, l2, k2⟩ := h2 k hk
    refine xcl_any k len c1 c2 b1 o1 b2 o2 _ _ (f k) (g k) wr hk ?_ ?_ ?_ ?_
    · rw [hb.cell (by simp only [World.size_alloc]; omega)]; simp
    · rw [hb.cell (by simp only [World.size_alloc]; omega)]; simp
    · rw [hb.cell (by simp only [World.size_alloc]; omega), World.cell?_alloc_past _ _ _ (by simp only [World.size_alloc]; omega), World.cell?_alloc_past _ _ _ l1]; exact k1
    · rw [hb.cell (by simp only [World.size_alloc]; omega), World.cell?_alloc_past _ _ _ (by simp only [World.size_alloc]; omega), World.cell?_alloc_past _ _ _ l2]; exact k2
  have hbu := build_xor (fun j => xorB (f j) (g j)) len _ _ _ (by unfold maxLen; omega) hm hcl
  simp only [World.size_alloc] at hbu
  clear hcl h1 h2
  go_enter Try.func15, Try.ntmps15
  go_wp2_with (go_at_call 22; go_must (refine hbu.mono ?_; rintro e w' ⟨rfl, ho, hb⟩))
  go_ret2
  exact ⟨rfl, ho, (((Below.refl _ _).alloc (Nat.le_refl _) _).alloc (by simp) _).trans (hb.mono (by omega))⟩

theorem xor_err (a1 a2 : Option Addr) (l1 l2 c1 c2 : Nat) (w : World) (hne : l1 ≠ l2) :
    Calls Try.prog 15 #[.slice a1 l1 c1, .slice a2 l2 c2] w fun e w' => e = .returned (.tuple #[.slice none 0 0, .int .i64 1]) ∧ Below w.heap.size w w' := by
  have h : ((l1 : Int) != (l2 : Int)) = true := by simp; omega
  go_enter Try.func15, Try.ntmps15
  go_wp2
  go_ret2
  exact ⟨rfl, ((Below.refl _ _).alloc (Nat.le_refl _) _).alloc (by simp) _⟩

theorem rxor_err (a1 a2 : Option Addr) (l1 l2 c1 c2 : Nat) (w : World) (hne : l1 ≠ l2) :
    Calls Try.prog 16 #[.slice a1 l1 c1, .slice a2 l2 c2] w fun e w' => e = .returned (.tuple #[.slice none 0 0, .int .i64 1]) ∧ w' = w := by
  have h : ((l1 : Int) != (l2 : Int)) = true := by simp; omega
  go_enter Try.func16, Try.ntmps16
  go_wp2
  go_ret2
  exact ⟨rfl, rfl⟩
end Go.Proofs.Ytcgoepbmbeimmaa
