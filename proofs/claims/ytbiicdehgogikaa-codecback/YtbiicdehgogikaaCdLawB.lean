/- The walk of CodecBack. -/
import Derived.Test.YtbiicdehgogikaaCdBackM
namespace Go.Proofs.Ytbiicdehgogikaa
open Go.ChangeShapes Go.WideShapes Go.ChangeAt Go.RowKit
set_option linter.unusedVariables false

set_option maxRecDepth 100000 in
set_option maxHeartbeats 4000000 in
theorem back_yy (w : World) (a b : Option Addr) (n cap L C : Nat) (V : Nat → WV) (B : Nat → Nat) (ha : Wl w a n V) (hV : ∀ i j, (V i).b j < 256) (hb : ByIn w b L C B) (hg : okG n V) (hu : okU L B) :
    Calls Try.prog 5 #[.slice a n cap, .slice b L C] w fun e w' => e = .returned (.bool true) ∧ Below w.heap.size w w' := by
  have P1 := tells_own (group_ok n cap V a w ha hg)
  have hn1 : (n : Int) ≤ 9223372036854775807 := by have := ha.1; unfold maxLen at this; omega
  have hL1 : (L : Int) ≤ 9223372036854775807 := by have := hb.max; unfold maxLen at this; omega
  have HNL : Hid (L = 2 + 69 * uN B) := hu.2.2.1
  have HU : Hid (okU L B) := hu
  clear hu
  have HN : Hid (uN (gb n V) = n) := uN_gb n V hg.1
  have hn100 : n ≤ 100 := hg.1
  go_enter Try.func5, Try.ntmps5
  go_wp2_with (first
    | ((go_at_call 9)
       (refine Calls.mono P1 ?_)
       (rintro e w1 ⟨xa, xc, rfl, xb, xn, xl, hb1⟩)
       (clear P1)
       (have P2 := ungroup_yes (w := w1) ⟨xl, (by unfold maxLen; omega), xn, xb, gb_lt n V hV⟩ (okU_gb n V hg))
       (rw [HN.out] at P2)
       (have hl1 : ((2 + 69 * n : Nat) : Int) ≤ 9223372036854775807 := by omega))
    | ((go_at_call 11)
       (refine Calls.mono P2 ?_)
       (rintro e w2 ⟨A2, C2, ma, mc, rfl, hm2, hb2⟩)
       (clear P2)
       (have hbw2 := hb1.trans (hb2.mono hb1.size))
       (have P3 := ungroup_yes (hb.below hbw2 (Nat.le_refl _)) HU.out))
    | ((go_at_call 11)
       (refine Calls.mono P3 ?_)
       (rintro e w3 ⟨A3, C3, na, nc, rfl, hn3, hb3⟩)
       (clear P3)
       (have hbw3 := hbw2.trans (hb3.mono hbw2.size))
       (have P4 := tells_own (group_ok (uN B) nc (uV B A3 C3) na w3 hn3 ((uV_ok B A3 C3 _).2 ⟨HU.out.2.1, HU.out.2.2.2⟩)))
       (rw [← HNL.out] at P4))
    | ((go_at_call 9)
       (refine Calls.mono P4 ?_)
       (rintro e w4 ⟨ya, yc, rfl, yb, yn, yl, hb4⟩)
       (clear P4)
       (have hbw4 := hbw3.trans (hb4.mono hbw3.size))
       (have hb24 := hb3.trans (hb4.mono hb3.size))
       (have S1 := samew_yes (c1 := mc) (c2 := cap) (hm2.below hb24 (Nat.le_refl _)) (ha.below hbw4 (Nat.le_refl _)) (fun i hi => uV_gb n V A2 C2 i (hg.2 i hi))))
    | ((go_at_call 14)
       (refine S1.mono ?_)
       (rintro e w5 ⟨rfl, hb5⟩)
       (clear S1)
       (have hbw5 := hbw4.trans (hb5.mono hbw4.size))
       (have yb5 := yb.below hb5 (Nat.le_refl _))
       (have S2 := same_true yc C (yb5.congr (m' := B) (fun j hj => (gb_all B hb.byt A3 C3 j).symm)) (hb.at_.below hbw5 (Nat.le_refl _)) hb.byt (fun e => (yn e).1) (fun e => (hb.nil e).1))
       (have AL := alive_any w5))
    | ((go_at_call 13)
       (refine S2.mono ?_)
       (rintro e wz ⟨rfl, hz⟩)
       (obtain rfl : w5 = wz := hz.symm)
       (clear S2))
    | ((go_at_call 15)
       (refine AL.mono ?_)
       (rintro e w6 ⟨rfl, hb6⟩)
       (clear AL)))
  go_ret
  exact ⟨rfl, hbw5.trans (hb6.mono hbw5.size)⟩

set_option maxRecDepth 100000 in
set_option maxHeartbeats 4000000 in
theorem back_yn (w : World) (a b : Option Addr) (n cap L C : Nat) (V : Nat → WV) (B : Nat → Nat) (ha : Wl w a n V) (hV : ∀ i j, (V i).b j < 256) (hb : ByIn w b L C B) (hg : okG n V) (hu : ¬ okU L B) :
    Calls Try.prog 5 #[.slice a n cap, .slice b L C] w fun e w' => e = .returned (.bool true) ∧ Below w.heap.size w w' := by
  have P1 := tells_own (group_ok n cap V a w ha hg)
  have hn1 : (n : Int) ≤ 9223372036854775807 := by have := ha.1; unfold maxLen at this; omega
  have hL1 : (L : Int) ≤ 9223372036854775807 := by have := hb.max; unfold maxLen at this; omega
  have HN : Hid (uN (gb n V) = n) := uN_gb n V hg.1
  have hn100 : n ≤ 100 := hg.1
  go_enter Try.func5, Try.ntmps5
  go_wp2_with (first
    | ((go_at_call 9)
       (refine Calls.mono P1 ?_)
       (rintro e w1 ⟨xa, xc, rfl, xb, xn, xl, hb1⟩)
       (clear P1)
       (have P2 := ungroup_yes (w := w1) ⟨xl, (by unfold maxLen; omega), xn, xb, gb_lt n V hV⟩ (okU_gb n V hg))
       (rw [HN.out] at P2)
       (have hl1 : ((2 + 69 * n : Nat) : Int) ≤ 9223372036854775807 := by omega))
    | ((go_at_call 11)
       (refine Calls.mono P2 ?_)
       (rintro e w2 ⟨A2, C2, ma, mc, rfl, hm2, hb2⟩)
       (clear P2)
       (have hbw2 := hb1.trans (hb2.mono hb1.size))
       (have P3 := ungroup_no L C B b w2 (hb.below hbw2 (Nat.le_refl _)) hu))
    | ((go_at_call 11)
       (refine Calls.mono P3 ?_)
       (rintro e w3 ⟨hb3, rfl⟩)
       (clear P3)
       (have hbw3 := hbw2.trans (hb3.mono hbw2.size))
       (have P4 := tells_own (group_ok 0 0 (fun _ => ⟨0, 0, none, 0, 0, fun _ => 0⟩) none w3 (wl_zero _ _) (okG_zero _))))
    | ((go_at_call 9)
       (refine Calls.mono P4 ?_)
       (rintro e w4 ⟨ya, yc, rfl, yb, yn, yl, hb4⟩)
       (clear P4)
       (have hbw4 := hbw3.trans (hb4.mono hbw3.size))
       (have hb24 := hb3.trans (hb4.mono hb3.size))
       (have S1 := samew_yes (c1 := mc) (c2 := cap) (hm2.below hb24 (Nat.le_refl _)) (ha.below hbw4 (Nat.le_refl _)) (fun i hi => uV_gb n V A2 C2 i (hg.2 i hi))))
    | ((go_at_call 14)
       (refine S1.mono ?_)
       (rintro e w5 ⟨rfl, hb5⟩)
       (clear S1)
       (have hbw5 := hbw4.trans (hb5.mono hbw4.size))
       (have yb5 := yb.below hb5 (Nat.le_refl _))
       (have AL := alive_any w5))
    | ((go_at_call 15)
       (refine AL.mono ?_)
       (rintro e w6 ⟨rfl, hb6⟩)
       (clear AL)))
  go_ret
  exact ⟨rfl, hbw5.trans (hb6.mono hbw5.size)⟩

set_option maxRecDepth 100000 in
set_option maxHeartbeats 4000000 in
theorem back_ny (w : World) (a b : Option Addr) (n cap L C : Nat) (V : Nat → WV) (B : Nat → Nat) (ha : Wl w a n V) (hV : ∀ i j, (V i).b j < 256) (hb : ByIn w b L C B) (hg : ¬ okG n V) (hu : okU L B) :
    Calls Try.prog 5 #[.slice a n cap, .slice b L C] w fun e w' => e = .returned (.bool true) ∧ Below w.heap.size w w' := by
  have P1 := group_no n cap V a w ha hg
  have hn1 : (n : Int) ≤ 9223372036854775807 := by have := ha.1; unfold maxLen at this; omega
  have hL1 : (L : Int) ≤ 9223372036854775807 := by have := hb.max; unfold maxLen at this; omega
  have HNL : Hid (L = 2 + 69 * uN B) := hu.2.2.1
  have HU : Hid (okU L B) := hu
  clear hu
  go_enter Try.func5, Try.ntmps5
  go_wp2_with (first
    | ((go_at_call 9)
       (refine Calls.mono P1 ?_)
       (rintro e w1 ⟨hb1, rfl⟩)
       (clear P1)
       (have P2 := ungroup_no 0 0 _ none w1 (by_zero w1) (okU_zero _)))
    | ((go_at_call 11)
       (refine Calls.mono P2 ?_)
       (rintro e w2 ⟨hb2, rfl⟩)
       (clear P2)
       (have hbw2 := hb1.trans (hb2.mono hb1.size))
       (have P3 := ungroup_yes (hb.below hbw2 (Nat.le_refl _)) HU.out))
    | ((go_at_call 11)
       (refine Calls.mono P3 ?_)
       (rintro e w3 ⟨A3, C3, na, nc, rfl, hn3, hb3⟩)
       (clear P3)
       (have hbw3 := hbw2.trans (hb3.mono hbw2.size))
       (have P4 := tells_own (group_ok (uN B) nc (uV B A3 C3) na w3 hn3 ((uV_ok B A3 C3 _).2 ⟨HU.out.2.1, HU.out.2.2.2⟩)))
       (rw [← HNL.out] at P4))
    | ((go_at_call 9)
       (refine Calls.mono P4 ?_)
       (rintro e w4 ⟨ya, yc, rfl, yb, yn, yl, hb4⟩)
       (clear P4)
       (have hbw4 := hbw3.trans (hb4.mono hbw3.size))
       (obtain ⟨w5, hw5⟩ : ∃ w5, w5 = w4 := ⟨_, rfl⟩)
       (subst hw5)
       (have hbw5 := hbw4)
       (have yb5 := yb)
       (have S2 := same_true yc C (yb5.congr (m' := B) (fun j hj => (gb_all B hb.byt A3 C3 j).symm)) (hb.at_.below hbw5 (Nat.le_refl _)) hb.byt (fun e => (yn e).1) (fun e => (hb.nil e).1))
       (have AL := alive_any w5))
    | ((go_at_call 13)
       (refine S2.mono ?_)
       (rintro e wz ⟨rfl, hz⟩)
       (obtain rfl : w5 = wz := hz.symm)
       (clear S2))
    | ((go_at_call 15)
       (refine AL.mono ?_)
       (rintro e w6 ⟨rfl, hb6⟩)
       (clear AL)))
  go_ret
  exact ⟨rfl, hbw5.trans (hb6.mono hbw5.size)⟩

set_option maxRecDepth 100000 in
set_option maxHeartbeats 4000000 in
theorem back_nn (w : World) (a b : Option Addr) (n cap L C : Nat) (V : Nat → WV) (B : Nat → Nat) (ha : Wl w a n V) (hV : ∀ i j, (V i).b j < 256) (hb : ByIn w b L C B) (hg : ¬ okG n V) (hu : ¬ okU L B) :
    Calls Try.prog 5 #[.slice a n cap, .slice b L C] w fun e w' => e = .returned (.bool true) ∧ Below w.heap.size w w' := by
  have P1 := group_no n cap V a w ha hg
  have hn1 : (n : Int) ≤ 9223372036854775807 := by have := ha.1; unfold maxLen at this; omega
  have hL1 : (L : Int) ≤ 9223372036854775807 := by have := hb.max; unfold maxLen at this; omega
  go_enter Try.func5, Try.ntmps5
  go_wp2_with (first
    | ((go_at_call 9)
       (refine Calls.mono P1 ?_)
       (rintro e w1 ⟨hb1, rfl⟩)
       (clear P1)
       (have P2 := ungroup_no 0 0 _ none w1 (by_zero w1) (okU_zero _)))
    | ((go_at_call 11)
       (refine Calls.mono P2 ?_)
       (rintro e w2 ⟨hb2, rfl⟩)
       (clear P2)
       (have hbw2 := hb1.trans (hb2.mono hb1.size))
       (have P3 := ungroup_no L C B b w2 (hb.below hbw2 (Nat.le_refl _)) hu))
    | ((go_at_call 11)
       (refine Calls.mono P3 ?_)
       (rintro e w3 ⟨hb3, rfl⟩)
       (clear P3)
       (have hbw3 := hbw2.trans (hb3.mono hbw2.size))
       (have P4 := tells_own (group_ok 0 0 (fun _ => ⟨0, 0, none, 0, 0, fun _ => 0⟩) none w3 (wl_zero _ _) (okG_zero _))))
    | ((go_at_call 9)
       (refine Calls.mono P4 ?_)
       (rintro e w4 ⟨ya, yc, rfl, yb, yn, yl, hb4⟩)
       (clear P4)
       (have hbw4 := hbw3.trans (hb4.mono hbw3.size))
       (obtain ⟨w5, hw5⟩ : ∃ w5, w5 = w4 := ⟨_, rfl⟩)
       (subst hw5)
       (have hbw5 := hbw4)
       (have yb5 := yb)
       (have AL := alive_any w5))
    | ((go_at_call 15)
       (refine AL.mono ?_)
       (rintro e w6 ⟨rfl, hb6⟩)
       (clear AL)))
  go_ret
  exact ⟨rfl, hbw5.trans (hb6.mono hbw5.size)⟩

theorem back_walk (w : World) (a b : Option Addr) (n cap L C : Nat) (V0 : Nat → WV) (B : Nat → Nat) (ha0 : Wl w a n V0) (hb : ByIn w b L C B) :
    Calls Try.prog 5 #[.slice a n cap, .slice b L C] w fun e w' => e = .returned (.bool true) ∧ Below w.heap.size w w' := by
  obtain ⟨V, ha, hV⟩ := ha0.tame
  by_cases hg : okG n V
  · by_cases hu : okU L B
    · exact back_yy w a b n cap L C V B ha hV hb hg hu
    · exact back_yn w a b n cap L C V B ha hV hb hg hu
  · by_cases hu : okU L B
    · exact back_ny w a b n cap L C V B ha hV hb hg hu
    · exact back_nn w a b n cap L C V B ha hV hb hg hu
end Go.Proofs.Ytbiicdehgogikaa
