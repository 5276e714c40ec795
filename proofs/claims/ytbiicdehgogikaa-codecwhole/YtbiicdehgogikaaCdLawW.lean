/- The walk of CodecWhole. -/
import Derived.Test.YtbiicdehgogikaaCdBackM
import Derived.Test.YtbiicdehgogikaaCdLawM
namespace Go.Proofs.Ytbiicdehgogikaa
open Go.ChangeShapes Go.WideShapes Go.ChangeAt Go.RowKit
set_option linter.unusedVariables false

/-- No beginning of a group is one. -/
theorem okU_cut (n c : Nat) (V : Nat → WV) (h : n ≤ 100) (hc : c < 2 + 69 * n) : ¬ okU c (gb n V) := by
  rintro ⟨_, _, h3, _⟩
  rw [uN_gb n V h] at h3
  omega

/-- Nor are they with more behind. -/
theorem okU_more (n M : Nat) (V : Nat → WV) (g : Nat → Nat) (h : n ≤ 100) (hM : 1 ≤ M) : ¬ okU (2 + 69 * n + M) (cat (gb n V) (2 + 69 * n) g) := by
  rintro ⟨_, _, h3, _⟩
  have e : uN (cat (gb n V) (2 + 69 * n) g) = uN (gb n V) := vn_congr _ _ 2 (fun j hj => by unfold cat; rw [if_pos (by omega)])
  rw [e, uN_gb n V h] at h3
  omega

set_option maxRecDepth 100000 in
set_option maxHeartbeats 4000000 in
theorem whole_no (w : World) (a b : Option Addr) (n cap M C : Nat) (cut : Int) (V : Nat → WV) (ha : Wl w a n V) (hg : ¬ okG n V) :
    Calls Try.prog 7 #[.slice a n cap, .int .i64 cut, .slice b M C] w fun e w' => e = .returned (.bool true) ∧ Below w.heap.size w w' := by
  have P1 := group_no n cap V a w ha hg
  go_enter Try.func7, Try.ntmps7
  go_wp2_with (first
    | ((go_at_call 9)
       (refine Calls.mono P1 ?_)
       (rintro e w1 ⟨hb1, rfl⟩)
       (clear P1)
       (have AL := alive_any w1))
    | ((go_at_call 15)
       (refine AL.mono ?_)
       (rintro e w6 ⟨rfl, hb6⟩)
       (clear AL)))
  go_ret
  exact ⟨rfl, hb1.trans (hb6.mono hb1.size)⟩

set_option maxRecDepth 100000 in
set_option maxHeartbeats 4000000 in
theorem whole_long (w : World) (a b : Option Addr) (n cap M C : Nat) (cut : Int) (V : Nat → WV) (ha : Wl w a n V) (hg : okG n V) (hM : 1000 < M) (hm : M ≤ maxLen) :
    Calls Try.prog 7 #[.slice a n cap, .int .i64 cut, .slice b M C] w fun e w' => e = .returned (.bool true) ∧ Below w.heap.size w w' := by
  have P1 := tells_own (group_ok n cap V a w ha hg)
  have hMi : (1000 : Int) < (M : Int) := by omega
  have hmi : (M : Int) ≤ 9223372036854775807 := by unfold maxLen at hm; omega
  obtain ⟨Lb, hLb⟩ : ∃ Lb, Lb = 2 + 69 * n := ⟨_, rfl⟩
  have hn100 := hg.1
  rw [← hLb] at P1
  have l1 : ¬ (Lb : Int) = 0 := by omega
  have l2 : ((Lb : Int) == 0) = false := by simp; omega
  have l3 : (Lb : Int) ≤ 7000 := by omega
  clear hLb
  go_enter Try.func7, Try.ntmps7
  go_wp2_with (first
    | ((go_at_call 9)
       (refine Calls.mono P1 ?_)
       (rintro e w1 ⟨xa, xc, rfl, xb, xn, xl, hb1⟩)
       (clear P1)
       (have AL := alive_any w1))
    | ((go_at_call 15)
       (refine AL.mono ?_)
       (rintro e w6 ⟨rfl, hb6⟩)
       (clear AL)))
  go_ret
  exact ⟨rfl, hb1.trans (hb6.mono hb1.size)⟩

set_option maxRecDepth 100000 in
set_option maxHeartbeats 4000000 in
theorem whole_ns (w : World) (a b : Option Addr) (n cap M C : Nat) (cut : Int) (V : Nat → WV) (B : Nat → Nat) (ha : Wl w a n V) (hV : ∀ i j, (V i).b j < 256) (hb : ByIn w b M C B) (hg : okG n V) (hM : 1 ≤ M) (hM2 : M ≤ 1000) (hi1 : -9223372036854775808 ≤ cut) (hi2 : cut ≤ 9223372036854775807) (h0 : cut < 0) :
    Calls Try.prog 7 #[.slice a n cap, .int .i64 cut, .slice b M C] w fun e w' => e = .returned (.bool true) ∧ Below w.heap.size w w' := by
  have P1 := tells_own (group_ok n cap V a w ha hg)
  obtain ⟨Lb, hLb⟩ : ∃ Lb, Lb = 2 + 69 * n := ⟨_, rfl⟩
  have HLb : Hid (Lb = 2 + 69 * n) := hLb
  have hn100 := hg.1
  rw [← hLb] at P1
  have hn1 : (n : Int) ≤ 100 := by omega
  have l1 : ¬ (Lb : Int) = 0 := by omega
  have l2 : ((Lb : Int) == 0) = false := by simp; omega
  have l3 : (Lb : Int) ≤ 7000 := by omega
  have l4 : (0 : Int) < (Lb : Int) := by omega
  have l5 : 2 ≤ Lb ∧ Lb ≤ 7000 := by omega
  obtain ⟨c, hc, ec⟩ := rem_neg cut Lb (by omega) h0
  have m1 : (M : Int) ≤ 1000 := by omega
  have m2 : (0 : Int) < (M : Int) := by omega
  have m3 : ((M : Int) == 0) = false := by simp; omega
  clear hLb
  go_enter Try.func7, Try.ntmps7
  go_wp2_with (first
    | ((go_at_call 9)
       (refine Calls.mono P1 ?_)
       (rintro e w1 ⟨xa, xc, rfl, xb, xn, xl, hb1⟩)
       (clear P1)
       (obtain ⟨g1, o1, rfl, _⟩ := xb.resolve_left (by omega))
       (have P2 := ungroup_no c xc (gb n V) (some ⟨g1, o1, none⟩) w1 ⟨by omega, (by unfold maxLen; omega), (fun e => by cases e), (by have h5 := xb.part 0 c (by omega); simp only [Nat.add_zero, Nat.zero_add] at h5; exact h5), gb_lt n V hV⟩ (okU_cut n c V hn100 (by rw [← HLb.out]; exact hc))))
    | ((refine at_dst 40 rfl ?_)
       (refine wpList_is (some 40) (.slice (some ⟨g1, o1, none⟩) c xc) rfl rfl (run_slice_to _ _ rfl g1 o1 Lb xc c rfl rfl (by omega) _) ?_))
    | ((go_at_call 11)
       (refine Calls.mono P2 ?_)
       (rintro e w2 ⟨hb2, rfl⟩)
       (clear P2)
       (have hbw2 := hb1.trans (hb2.mono hb1.size))
       (have xb2 : Bytes (w2.alloc (.cells #[] 5)) (some ⟨g1, o1, none⟩) Lb (gb n V) := (xb.below hb2 (Nat.le_refl _)).below ((Below.refl _ _).alloc (Nat.le_refl _) _) (Nat.le_refl _)))
    | ((refine at_dst 47 rfl ?_)
       (refine wpList_append_bytes rfl _ _ rfl w2.heap.size _ 0 (gb n V) rfl (own_empty w2 _) (some ⟨g1, o1, none⟩) Lb xc (gb n V) rfl (fun e => by cases e) xb2 (by omega) (by simp) ?_)
       (intro v3 w3 ho3 hg3)
       (rw [Nat.zero_add, cat_zero] at ho3)
       (have hb3 : Below w2.heap.size w2 w3 := below_g ((Below.refl _ _).alloc (Nat.le_refl _) _) hg3 (fun k e => by cases e; exact Nat.le_refl _))
       (have hbw3 := hbw2.trans (hb3.mono hbw2.size))
       (have hby3 := hb.at_.below hbw3 (Nat.le_refl _))
       (clear xb2))
    | ((refine at_dst 49 rfl ?_)
       (refine wpList_append_bytes rfl _ _ rfl w2.heap.size _ Lb (gb n V) rfl ho3 b M C B rfl hb.nil hby3 (by omega) hb3.size ?_)
       (intro v4 w4 ho4 hg4)
       (have hb4 : Below w2.heap.size w2 w4 := below_g hb3 hg4 (fun k e => (ho3.lt k e).1))
       (have hbw4 := hbw2.trans (hb4.mono hbw2.size))
       (obtain ⟨a4, c4, rfl, hc4, hn4, hy4, _⟩ := own_bytes ho4)
       (have P3 := ungroup_no (Lb + M) c4 (cat (gb n V) Lb B) a4 w4 ⟨hc4, (by unfold maxLen; omega), hn4, hy4, cat_lt _ _ _ (gb_lt n V hV) hb.byt⟩ (by (rw [HLb.out]; exact okU_more n M V B hn100 hM)))
       (clear ho3 ho4))
    | ((go_at_call 11)
       (refine Calls.mono P3 ?_)
       (rintro e w5 ⟨hb5, rfl⟩)
       (clear P3)
       (have hbw5 := hbw4.trans (hb5.mono hbw4.size))
       (have AL := alive_any w5))
    | ((go_at_call 15)
       (refine AL.mono ?_)
       (rintro e w6 ⟨rfl, hb6⟩)
       (clear AL)))
  go_ret
  exact ⟨rfl, hbw5.trans (hb6.mono hbw5.size)⟩

set_option maxRecDepth 100000 in
set_option maxHeartbeats 4000000 in
theorem whole_n0 (w : World) (a b : Option Addr) (n cap C : Nat) (cut : Int) (V : Nat → WV) (B : Nat → Nat) (ha : Wl w a n V) (hV : ∀ i j, (V i).b j < 256) (hb : ByIn w b 0 C B) (hg : okG n V) (hi1 : -9223372036854775808 ≤ cut) (hi2 : cut ≤ 9223372036854775807) (h0 : cut < 0) :
    Calls Try.prog 7 #[.slice a n cap, .int .i64 cut, .slice b 0 C] w fun e w' => e = .returned (.bool true) ∧ Below w.heap.size w w' := by
  have P1 := tells_own (group_ok n cap V a w ha hg)
  obtain ⟨Lb, hLb⟩ : ∃ Lb, Lb = 2 + 69 * n := ⟨_, rfl⟩
  have HLb : Hid (Lb = 2 + 69 * n) := hLb
  have hn100 := hg.1
  rw [← hLb] at P1
  have hn1 : (n : Int) ≤ 100 := by omega
  have l1 : ¬ (Lb : Int) = 0 := by omega
  have l2 : ((Lb : Int) == 0) = false := by simp; omega
  have l3 : (Lb : Int) ≤ 7000 := by omega
  have l4 : (0 : Int) < (Lb : Int) := by omega
  have l5 : 2 ≤ Lb ∧ Lb ≤ 7000 := by omega
  obtain ⟨c, hc, ec⟩ := rem_neg cut Lb (by omega) h0
  clear hLb
  go_enter Try.func7, Try.ntmps7
  go_wp2_with (first
    | ((go_at_call 9)
       (refine Calls.mono P1 ?_)
       (rintro e w1 ⟨xa, xc, rfl, xb, xn, xl, hb1⟩)
       (clear P1)
       (obtain ⟨g1, o1, rfl, _⟩ := xb.resolve_left (by omega))
       (have P2 := ungroup_no c xc (gb n V) (some ⟨g1, o1, none⟩) w1 ⟨by omega, (by unfold maxLen; omega), (fun e => by cases e), (by have h5 := xb.part 0 c (by omega); simp only [Nat.add_zero, Nat.zero_add] at h5; exact h5), gb_lt n V hV⟩ (okU_cut n c V hn100 (by rw [← HLb.out]; exact hc))))
    | ((refine at_dst 40 rfl ?_)
       (refine wpList_is (some 40) (.slice (some ⟨g1, o1, none⟩) c xc) rfl rfl (run_slice_to _ _ rfl g1 o1 Lb xc c rfl rfl (by omega) _) ?_))
    | ((go_at_call 11)
       (refine Calls.mono P2 ?_)
       (rintro e w2 ⟨hb2, rfl⟩)
       (clear P2)
       (have hbw2 := hb1.trans (hb2.mono hb1.size))
       (have xb2 : Bytes (w2.alloc (.cells #[] 5)) (some ⟨g1, o1, none⟩) Lb (gb n V) := (xb.below hb2 (Nat.le_refl _)).below ((Below.refl _ _).alloc (Nat.le_refl _) _) (Nat.le_refl _)))
    | ((refine at_dst 47 rfl ?_)
       (refine wpList_append_bytes rfl _ _ rfl w2.heap.size _ 0 (gb n V) rfl (own_empty w2 _) (some ⟨g1, o1, none⟩) Lb xc (gb n V) rfl (fun e => by cases e) xb2 (by omega) (by simp) ?_)
       (intro v3 w3 ho3 hg3)
       (rw [Nat.zero_add, cat_zero] at ho3)
       (have hb3 : Below w2.heap.size w2 w3 := below_g ((Below.refl _ _).alloc (Nat.le_refl _) _) hg3 (fun k e => by cases e; exact Nat.le_refl _))
       (have hbw3 := hbw2.trans (hb3.mono hbw2.size))
       (have hby3 := hb.at_.below hbw3 (Nat.le_refl _))
       (clear xb2))
    | ((refine at_dst 49 rfl ?_)
       (refine wpList_append_bytes rfl _ _ rfl w2.heap.size _ Lb (gb n V) rfl ho3 b 0 C B rfl hb.nil hby3 (by omega) hb3.size ?_)
       (intro v4 w4 ho4 hg4)
       (have hb4 : Below w2.heap.size w2 w4 := below_g hb3 hg4 (fun k e => (ho3.lt k e).1))
       (have hbw4 := hbw2.trans (hb4.mono hbw2.size))
       (rw [bl_cat_zero, Nat.add_zero] at ho4)
       (obtain ⟨a4, c4, rfl, hc4, hn4, hy4, _⟩ := own_bytes ho4)
       (have P3 := ungroup_yes (w := w4) (L := Lb) (C := c4) (B := gb n V) ⟨hc4, (by unfold maxLen; omega), hn4, hy4, gb_lt n V hV⟩ (by (rw [HLb.out]; exact okU_gb n V hg)))
       (rw [uN_gb n V hn100] at P3)
       (clear ho3 ho4))
    | ((go_at_call 11)
       (refine Calls.mono P3 ?_)
       (rintro e w5 ⟨A5, C5, ma, mc, rfl, hm5, hb5⟩)
       (clear P3)
       (have hbw5 := hbw4.trans (hb5.mono hbw4.size))
       (have S1 := samew_yes (c1 := mc) (c2 := cap) hm5 (ha.below hbw5 (Nat.le_refl _)) (fun i hi => uV_gb n V A5 C5 i (hg.2 i hi))))
    | ((go_at_call 14)
       (refine S1.mono ?_)
       (rintro e w7 ⟨rfl, hb7⟩)
       (clear S1)
       (have hbw7 := hbw5.trans (hb7.mono hbw5.size))
       (have AL := alive_any w7))
    | ((go_at_call 15)
       (refine AL.mono ?_)
       (rintro e w6 ⟨rfl, hb6⟩)
       (clear AL)))
  go_ret
  exact ⟨rfl, hbw7.trans (hb6.mono hbw7.size)⟩

set_option maxRecDepth 100000 in
set_option maxHeartbeats 4000000 in
theorem whole_ps (w : World) (a b : Option Addr) (n cap M C : Nat) (cut : Int) (V : Nat → WV) (B : Nat → Nat) (ha : Wl w a n V) (hV : ∀ i j, (V i).b j < 256) (hb : ByIn w b M C B) (hg : okG n V) (hM : 1 ≤ M) (hM2 : M ≤ 1000) (hi1 : -9223372036854775808 ≤ cut) (hi2 : cut ≤ 9223372036854775807) (h0 : ¬ cut < 0) :
    Calls Try.prog 7 #[.slice a n cap, .int .i64 cut, .slice b M C] w fun e w' => e = .returned (.bool true) ∧ Below w.heap.size w w' := by
  have P1 := tells_own (group_ok n cap V a w ha hg)
  obtain ⟨Lb, hLb⟩ : ∃ Lb, Lb = 2 + 69 * n := ⟨_, rfl⟩
  have HLb : Hid (Lb = 2 + 69 * n) := hLb
  have hn100 := hg.1
  rw [← hLb] at P1
  have hn1 : (n : Int) ≤ 100 := by omega
  have l1 : ¬ (Lb : Int) = 0 := by omega
  have l2 : ((Lb : Int) == 0) = false := by simp; omega
  have l3 : (Lb : Int) ≤ 7000 := by omega
  have l4 : (0 : Int) < (Lb : Int) := by omega
  have l5 : 2 ≤ Lb ∧ Lb ≤ 7000 := by omega
  obtain ⟨c, hc, ec⟩ := rem_pos cut Lb (by omega) h0
  have ec2 : cut.tmod (Lb : Int) = (c : Int) := by rw [Int.tmod_eq_emod_of_nonneg (by omega)]; exact ec
  have m1 : (M : Int) ≤ 1000 := by omega
  have m2 : (0 : Int) < (M : Int) := by omega
  have m3 : ((M : Int) == 0) = false := by simp; omega
  clear hLb
  go_enter Try.func7, Try.ntmps7
  go_wp2_with (first
    | ((go_at_call 9)
       (refine Calls.mono P1 ?_)
       (rintro e w1 ⟨xa, xc, rfl, xb, xn, xl, hb1⟩)
       (clear P1)
       (obtain ⟨g1, o1, rfl, _⟩ := xb.resolve_left (by omega))
       (have P2 := ungroup_no c xc (gb n V) (some ⟨g1, o1, none⟩) w1 ⟨by omega, (by unfold maxLen; omega), (fun e => by cases e), (by have h5 := xb.part 0 c (by omega); simp only [Nat.add_zero, Nat.zero_add] at h5; exact h5), gb_lt n V hV⟩ (okU_cut n c V hn100 (by rw [← HLb.out]; exact hc))))
    | ((refine at_dst 40 rfl ?_)
       (refine wpList_is (some 40) (.slice (some ⟨g1, o1, none⟩) c xc) rfl rfl (run_slice_to _ _ rfl g1 o1 Lb xc c rfl rfl (by omega) _) ?_))
    | ((go_at_call 11)
       (refine Calls.mono P2 ?_)
       (rintro e w2 ⟨hb2, rfl⟩)
       (clear P2)
       (have hbw2 := hb1.trans (hb2.mono hb1.size))
       (have xb2 : Bytes (w2.alloc (.cells #[] 5)) (some ⟨g1, o1, none⟩) Lb (gb n V) := (xb.below hb2 (Nat.le_refl _)).below ((Below.refl _ _).alloc (Nat.le_refl _) _) (Nat.le_refl _)))
    | ((refine at_dst 47 rfl ?_)
       (refine wpList_append_bytes rfl _ _ rfl w2.heap.size _ 0 (gb n V) rfl (own_empty w2 _) (some ⟨g1, o1, none⟩) Lb xc (gb n V) rfl (fun e => by cases e) xb2 (by omega) (by simp) ?_)
       (intro v3 w3 ho3 hg3)
       (rw [Nat.zero_add, cat_zero] at ho3)
       (have hb3 : Below w2.heap.size w2 w3 := below_g ((Below.refl _ _).alloc (Nat.le_refl _) _) hg3 (fun k e => by cases e; exact Nat.le_refl _))
       (have hbw3 := hbw2.trans (hb3.mono hbw2.size))
       (have hby3 := hb.at_.below hbw3 (Nat.le_refl _))
       (clear xb2))
    | ((refine at_dst 49 rfl ?_)
       (refine wpList_append_bytes rfl _ _ rfl w2.heap.size _ Lb (gb n V) rfl ho3 b M C B rfl hb.nil hby3 (by omega) hb3.size ?_)
       (intro v4 w4 ho4 hg4)
       (have hb4 : Below w2.heap.size w2 w4 := below_g hb3 hg4 (fun k e => (ho3.lt k e).1))
       (have hbw4 := hbw2.trans (hb4.mono hbw2.size))
       (obtain ⟨a4, c4, rfl, hc4, hn4, hy4, _⟩ := own_bytes ho4)
       (have P3 := ungroup_no (Lb + M) c4 (cat (gb n V) Lb B) a4 w4 ⟨hc4, (by unfold maxLen; omega), hn4, hy4, cat_lt _ _ _ (gb_lt n V hV) hb.byt⟩ (by (rw [HLb.out]; exact okU_more n M V B hn100 hM)))
       (clear ho3 ho4))
    | ((go_at_call 11)
       (refine Calls.mono P3 ?_)
       (rintro e w5 ⟨hb5, rfl⟩)
       (clear P3)
       (have hbw5 := hbw4.trans (hb5.mono hbw4.size))
       (have AL := alive_any w5))
    | ((go_at_call 15)
       (refine AL.mono ?_)
       (rintro e w6 ⟨rfl, hb6⟩)
       (clear AL)))
  go_ret
  exact ⟨rfl, hbw5.trans (hb6.mono hbw5.size)⟩

set_option maxRecDepth 100000 in
set_option maxHeartbeats 4000000 in
theorem whole_p0 (w : World) (a b : Option Addr) (n cap C : Nat) (cut : Int) (V : Nat → WV) (B : Nat → Nat) (ha : Wl w a n V) (hV : ∀ i j, (V i).b j < 256) (hb : ByIn w b 0 C B) (hg : okG n V) (hi1 : -9223372036854775808 ≤ cut) (hi2 : cut ≤ 9223372036854775807) (h0 : ¬ cut < 0) :
    Calls Try.prog 7 #[.slice a n cap, .int .i64 cut, .slice b 0 C] w fun e w' => e = .returned (.bool true) ∧ Below w.heap.size w w' := by
  have P1 := tells_own (group_ok n cap V a w ha hg)
  obtain ⟨Lb, hLb⟩ : ∃ Lb, Lb = 2 + 69 * n := ⟨_, rfl⟩
  have HLb : Hid (Lb = 2 + 69 * n) := hLb
  have hn100 := hg.1
  rw [← hLb] at P1
  have hn1 : (n : Int) ≤ 100 := by omega
  have l1 : ¬ (Lb : Int) = 0 := by omega
  have l2 : ((Lb : Int) == 0) = false := by simp; omega
  have l3 : (Lb : Int) ≤ 7000 := by omega
  have l4 : (0 : Int) < (Lb : Int) := by omega
  have l5 : 2 ≤ Lb ∧ Lb ≤ 7000 := by omega
  obtain ⟨c, hc, ec⟩ := rem_pos cut Lb (by omega) h0
  have ec2 : cut.tmod (Lb : Int) = (c : Int) := by rw [Int.tmod_eq_emod_of_nonneg (by omega)]; exact ec
  clear hLb
  go_enter Try.func7, Try.ntmps7
  go_wp2_with (first
    | ((go_at_call 9)
       (refine Calls.mono P1 ?_)
       (rintro e w1 ⟨xa, xc, rfl, xb, xn, xl, hb1⟩)
       (clear P1)
       (obtain ⟨g1, o1, rfl, _⟩ := xb.resolve_left (by omega))
       (have P2 := ungroup_no c xc (gb n V) (some ⟨g1, o1, none⟩) w1 ⟨by omega, (by unfold maxLen; omega), (fun e => by cases e), (by have h5 := xb.part 0 c (by omega); simp only [Nat.add_zero, Nat.zero_add] at h5; exact h5), gb_lt n V hV⟩ (okU_cut n c V hn100 (by rw [← HLb.out]; exact hc))))
    | ((refine at_dst 40 rfl ?_)
       (refine wpList_is (some 40) (.slice (some ⟨g1, o1, none⟩) c xc) rfl rfl (run_slice_to _ _ rfl g1 o1 Lb xc c rfl rfl (by omega) _) ?_))
    | ((go_at_call 11)
       (refine Calls.mono P2 ?_)
       (rintro e w2 ⟨hb2, rfl⟩)
       (clear P2)
       (have hbw2 := hb1.trans (hb2.mono hb1.size))
       (have xb2 : Bytes (w2.alloc (.cells #[] 5)) (some ⟨g1, o1, none⟩) Lb (gb n V) := (xb.below hb2 (Nat.le_refl _)).below ((Below.refl _ _).alloc (Nat.le_refl _) _) (Nat.le_refl _)))
    | ((refine at_dst 47 rfl ?_)
       (refine wpList_append_bytes rfl _ _ rfl w2.heap.size _ 0 (gb n V) rfl (own_empty w2 _) (some ⟨g1, o1, none⟩) Lb xc (gb n V) rfl (fun e => by cases e) xb2 (by omega) (by simp) ?_)
       (intro v3 w3 ho3 hg3)
       (rw [Nat.zero_add, cat_zero] at ho3)
       (have hb3 : Below w2.heap.size w2 w3 := below_g ((Below.refl _ _).alloc (Nat.le_refl _) _) hg3 (fun k e => by cases e; exact Nat.le_refl _))
       (have hbw3 := hbw2.trans (hb3.mono hbw2.size))
       (have hby3 := hb.at_.below hbw3 (Nat.le_refl _))
       (clear xb2))
    | ((refine at_dst 49 rfl ?_)
       (refine wpList_append_bytes rfl _ _ rfl w2.heap.size _ Lb (gb n V) rfl ho3 b 0 C B rfl hb.nil hby3 (by omega) hb3.size ?_)
       (intro v4 w4 ho4 hg4)
       (have hb4 : Below w2.heap.size w2 w4 := below_g hb3 hg4 (fun k e => (ho3.lt k e).1))
       (have hbw4 := hbw2.trans (hb4.mono hbw2.size))
       (rw [bl_cat_zero, Nat.add_zero] at ho4)
       (obtain ⟨a4, c4, rfl, hc4, hn4, hy4, _⟩ := own_bytes ho4)
       (have P3 := ungroup_yes (w := w4) (L := Lb) (C := c4) (B := gb n V) ⟨hc4, (by unfold maxLen; omega), hn4, hy4, gb_lt n V hV⟩ (by (rw [HLb.out]; exact okU_gb n V hg)))
       (rw [uN_gb n V hn100] at P3)
       (clear ho3 ho4))
    | ((go_at_call 11)
       (refine Calls.mono P3 ?_)
       (rintro e w5 ⟨A5, C5, ma, mc, rfl, hm5, hb5⟩)
       (clear P3)
       (have hbw5 := hbw4.trans (hb5.mono hbw4.size))
       (have S1 := samew_yes (c1 := mc) (c2 := cap) hm5 (ha.below hbw5 (Nat.le_refl _)) (fun i hi => uV_gb n V A5 C5 i (hg.2 i hi))))
    | ((go_at_call 14)
       (refine S1.mono ?_)
       (rintro e w7 ⟨rfl, hb7⟩)
       (clear S1)
       (have hbw7 := hbw5.trans (hb7.mono hbw5.size))
       (have AL := alive_any w7))
    | ((go_at_call 15)
       (refine AL.mono ?_)
       (rintro e w6 ⟨rfl, hb6⟩)
       (clear AL)))
  go_ret
  exact ⟨rfl, hbw7.trans (hb6.mono hbw7.size)⟩

theorem whole_walk (w : World) (a b : Option Addr) (n cap M C : Nat) (cut : Int) (V0 : Nat → WV) (B : Nat → Nat) (ha0 : Wl w a n V0) (hb : ByIn w b M C B) (hi : i64ok cut) :
    Calls Try.prog 7 #[.slice a n cap, .int .i64 cut, .slice b M C] w fun e w' => e = .returned (.bool true) ∧ Below w.heap.size w w' := by
  obtain ⟨V, ha, hV⟩ := ha0.tame
  obtain ⟨hi1, hi2⟩ := hi
  by_cases hg : okG n V
  · by_cases hM : 1000 < M
    · exact whole_long w a b n cap M C cut V ha hg hM hb.max
    · by_cases hM0 : M = 0
      · subst hM0
        by_cases h0 : cut < 0
        · exact whole_n0 w a b n cap C cut V B ha hV hb hg hi1 hi2 h0
        · exact whole_p0 w a b n cap C cut V B ha hV hb hg hi1 hi2 h0
      · by_cases h0 : cut < 0
        · exact whole_ns w a b n cap M C cut V B ha hV hb hg (by omega) (by omega) hi1 hi2 h0
        · exact whole_ps w a b n cap M C cut V B ha hV hb hg (by omega) (by omega) hi1 hi2 h0
  · exact whole_no w a b n cap M C cut V ha hg
end Go.Proofs.Ytbiicdehgogikaa
