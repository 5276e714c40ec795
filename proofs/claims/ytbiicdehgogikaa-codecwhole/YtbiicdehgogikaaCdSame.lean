/- The reference's Same, of two lists of writes that are alike. -/
import Derived.Test.YtbiicdehgogikaaCdIn
namespace Go.Proofs.Ytbiicdehgogikaa
open Go.ChangeShapes Go.WideShapes Go.ChangeAt Go.RowKit
set_option linter.unusedVariables false

def AlikeW (v u : WV) : Prop := v.dev = u.dev ∧ v.sec = u.sec ∧ v.L = u.L ∧ ∀ j, j < v.L → v.b j = u.b j

theorem below_drewN {B : Nat} {a w : World} (h : Below B a w) (n : Nat) : Below B a (w.drewN n) := ⟨h.os, h.tape, h.output, h.size, h.block⟩

theorem Bytes.drewN {w : World} {a : Option Addr} {L : Nat} {f : Nat → Nat} (h : Bytes w a L f) (n : Nat) : Bytes (w.drewN n) a L f := h

set_option maxRecDepth 100000 in
set_option maxHeartbeats 2000000 in
theorem samew_yes {w : World} {a1 a2 : Option Addr} {n c1 c2 : Nat} {V1 V2 : Nat → WV} (h1 : Wl w a1 n V1) (h2 : Wl w a2 n V2) (hl : ∀ i, i < n → AlikeW (V1 i) (V2 i)) :
    Calls Try.prog 14 #[.slice a1 n c1, .slice a2 n c2] w fun e w' => e = .returned (.bool true) ∧ Below w.heap.size w w' := by
  have hmx := h1.1
  unfold maxLen at hmx
  go_enter Try.func14, Try.ntmps14
  go_wp2
  go_loopw [5] (fun iv wr => ∃ k : Nat, k ≤ n ∧ iv = .int .i64 (k : Nat) ∧ Below w.heap.size w wr)
    (fun iv _ => n - (intOf iv).toNat)
  case atStart => exact ⟨0, Nat.zero_le _, rfl, Below.refl _ _⟩
  case round =>
    obtain ⟨k, hk, rfl, hbel⟩ := hrel
    by_cases hlt : k < n
    · obtain ⟨x, o, rfl, hx, hi⟩ := (h1.below hbel (Nat.le_refl _)).2 k hlt
      obtain ⟨y, p, rfl, hy, hj⟩ := (h2.below hbel (Nat.le_refl _)).2 k hlt
      obtain ⟨e1, e2, e3, e4⟩ := hl k hlt
      have x0 := hi.c0
      have x1 := hi.c1
      have x2 := hi.c2
      have y0 := hj.c0
      have y1 := hj.c1
      have y2 := hj.c2
      rw [e1] at x0
      rw [e2] at x1
      rw [e3] at x2
      have k1 := fun m => conv_bytesN (V1 k).C (hi.by_.at_.drewN m) hi.by_.byt (fun e => (hi.by_.nil e).1)
      have k2 := fun m => conv_bytesN (V2 k).C (hj.by_.at_.drewN m) hj.by_.byt (fun e => (hj.by_.nil e).1)
      have es : strN (V1 k).b (V1 k).L = strN (V2 k).b (V1 k).L := strN_same e4
      rw [es, e3] at k1
      clear e1 e2 e3 e4 es hi hj h1 h2 hl
      generalize (V2 k).dev = D at x0 y0
      generalize (V2 k).sec = S at x1 y1
      generalize strN (V2 k).b (V2 k).L = T at k1 k2
      generalize (V2 k).L = L at x2 y2 k1 k2
      generalize (V1 k).a = A1 at x2 k1
      generalize (V1 k).C = C1 at x2 k1
      generalize (V2 k).a = A2 at y2 k2
      generalize (V2 k).C = C2 at y2 k2
      have i0 : (k : Int) < (n : Int) := by omega
      have i1 : (0 : Int) ≤ (k : Int) := by omega
      go_wp2
      go_quiet (fail)
      go_wp2
      go_roundw
      case rel => exact ⟨k + 1, by omega, by go_num, below_drewN hbel nq⟩
      case measure => simp [intOf]; omega
    · obtain rfl : k = n := by omega
      go_wp2
      go_ret
      exact ⟨rfl, hbel⟩
end Go.Proofs.Ytbiicdehgogikaa
