/- The walk of OctetsOrder: for every two uint64s it returns true and writes nothing that was there. -/
import Derived.Test.YtcgoepbmbeimmaaBytes
namespace Go.Proofs.Ytcgoepbmbeimmaa
open Go.ChangeShapes Go.WideShapes Go.ChangeAt Go.RowKit

theorem byteAt_bd (n : Int) (s j : Nat) : 0 ≤ byteAt n s j ∧ byteAt n s j ≤ 255 := by
  unfold byteAt
  omega

theorem hold8 (n : Int) (h1 : 0 ≤ n) (h2 : n ≤ 18446744073709551615) : hold n ((8 : Nat) : Int) = true := by
  unfold hold
  have : (8 * (((8 : Nat) : Int))).toNat = 64 := rfl
  rw [this, Int.ediv_eq_zero_of_lt h1 (by omega)]
  rfl

theorem below_cells {B : Nat} {w w' : World} (h : Below B w w') {g off n : Nat} {f : Nat → Int} (hg : g < B)
    (hc : ∀ j, j < n → w.cell? ⟨g, off + j, none⟩ = some (.int .u8 (f j))) : ∀ j, j < n → w'.cell? ⟨g, off + j, none⟩ = some (.int .u8 (f j)) := by
  intro j hj
  rw [h.cell hg]
  exact hc j hj

theorem own_lt {w : World} {base e g n cap : Nat} {xs : List Value} (h : w.ownsRow base e 1 (.slice (some ⟨g, 0, none⟩) n cap) n xs) : g < w.heap.size :=
  (h.lt g rfl).2

theorem order_walk (a b : Int) (wa : (Lit.int .u64 a).wf = true) (wb : (Lit.int .u64 b).wf = true) (w : World) :
    Calls Try.prog 8 #[.int .u64 a, .int .u64 b] w fun e w' => e = .returned (.bool true) ∧ Below w.heap.size w w' := by
  have ha := bounds_u64 wa
  have hb := bounds_u64 wb
  have ta := hold8 a ha.1 ha.2
  have tb := hold8 b hb.1 hb.2
  have p1 := put_ok 8 a w (by omega) (by omega) ta
  clear wa wb
  go_enter Try.func8, Try.ntmps8
  go_wp2_with (first
    | (go_at_call 11; have _t := p1; refine p1.mono ?_; rintro e w1 ⟨rfl, o1, b1⟩; have p2 := put_ok 8 b w1 (by omega) (by omega) tb; clear p1 _t)
    | (go_at_call 11; have _t := p2; refine p2.mono ?_; rintro e w2 ⟨rfl, o2, b2⟩; have hal := alive_any w2; clear p2 _t)
    | (go_at_call 14; refine hal.mono ?_; rintro e w3 ⟨rfl, b3⟩
       have k1 := below_cells b3 (Nat.lt_of_lt_of_le (own_lt o1) b2.size) (below_cells b2 (own_lt o1) (own_cells o1))
       have k2 := below_cells b3 (own_lt o2) (own_cells o2)
       have cv1 := conv_bytes (byteAt a 8) w3 _ 0 8 8 (fun j _ => byteAt_bd a 8 j) k1
       have cv2 := conv_bytes (byteAt b 8) w3 _ 0 8 8 (fun j _ => byteAt_bd b 8 j) k2
       have l8 := less8 a b ha hb
       have s8 := same8 a b ha hb
       clear k1 k2 o1 o2 hal ta tb))
  go_ret
  exact ⟨rfl, b1.trans ((b2.mono b1.size).trans (b3.mono (Nat.le_trans b1.size b2.size)))⟩
end Go.Proofs.Ytcgoepbmbeimmaa
