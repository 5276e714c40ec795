/- The walk of CodecGroups. -/
import Derived.Test.YtbiicdehgogikaaCdGBoth
namespace Go.Proofs.Ytbiicdehgogikaa
open Go.ChangeShapes Go.WideShapes Go.ChangeAt Go.RowKit
set_option linter.unusedVariables false

theorem cat_front (B g : Nat → Nat) (L : Nat) (j : Nat) (h : j < L) : cat B L g j = B j := by
  unfold cat
  rw [if_pos h]

set_option maxRecDepth 100000 in
set_option maxHeartbeats 4000000 in
theorem groups_walk (w : World) (a b : Option Addr) (n cap L C : Nat) (V0 : Nat → WV) (B : Nat → Nat) (ha0 : Wl w a n V0) (hb : ByIn w b L C B) (hL : L ≤ 140737488351232) :
    Calls Try.prog 3 #[.slice a n cap, .slice b L C] w fun e w' => e = .returned (.bool true) ∧ Below w.heap.size w w' := by
  obtain ⟨V, ha, hV⟩ := ha0.tame
  obtain ⟨l1, h1, E1, k1, p1, r1⟩ := group_both n V hV
  obtain ⟨n2, E2, p2, r2⟩ := ungroup_both L B
  have P1 := p1 w a cap ha
  have hLi : (L : Int) ≤ 140737488351232 := by omega
  clear ha0
  go_enter Try.func3, Try.ntmps3
  go_wp2_with (first
    | ((go_at_call 9)
       (refine Calls.mono P1 ?_)
       (rintro e w1 ⟨xa, xc, rfl, xb, xn, _, hb1⟩)
       (clear P1)
       (have R1 := r1 w1 a cap (ha.below hb1 (Nat.le_refl _))))
    | ((go_at_call 10)
       (refine Calls.mono R1 ?_)
       (rintro e w2 ⟨ya, yc, rfl, yb, yn, _, hb2⟩)
       (clear R1)
       (have hbw2 := hb1.trans (hb2.mono hb1.size))
       (have xb2 := xb.below hb2 (Nat.le_refl _))
       (have hby2 : Bytes (w2.alloc (.cells #[] 5)) b L B := (hb.at_.below hbw2 (Nat.le_refl _)).below ((Below.refl _ _).alloc (Nat.le_refl _) _) (Nat.le_refl _)))
    | ((refine at_dst 29 rfl ?_)
       (refine wpList_append_bytes rfl _ _ rfl w2.heap.size _ 0 B rfl (own_empty w2 B) b L C B rfl hb.nil hby2 (by omega) (by simp) ?_)
       (intro v3 w3 ho3 hg3)
       (rw [Nat.zero_add, cat_zero] at ho3)
       (have hb3 : Below w2.heap.size w2 w3 := below_g ((Below.refl _ _).alloc (Nat.le_refl _) _) hg3 (fun k e => by cases e; exact Nat.le_refl _))
       (have ho3a := own_alloc ho3 (.cells #[.int .u8 77] 5))
       (have hb3a : Below w2.heap.size w2 (w3.alloc (.cells #[.int .u8 77] 5)) := hb3.alloc hb3.size _)
       (have hon : Bytes (w3.alloc (.cells #[.int .u8 77] 5)) (some ⟨w3.heap.size, 0, none⟩) 1 (fun _ => 77) := one_own w3 77))
    | ((refine at_dst 31 rfl ?_)
       (refine wpList_append_bytes rfl _ _ rfl w2.heap.size _ L B rfl ho3a (some ⟨w3.heap.size, 0, none⟩) 1 1 (fun _ => 77) rfl (fun e => by cases e) hon (by omega) hb3a.size ?_)
       (intro v4 w4 ho4 hg4)
       (have hb4 : Below w2.heap.size w2 w4 := below_g hb3a hg4 (fun k e => (ho3a.lt k e).1))
       (have hbw4 := hbw2.trans (hb4.mono hbw2.size))
       (obtain ⟨g4, cap4, rfl, _⟩ := ho4.form (by omega))
       (obtain ⟨a4, c4, e4, hc4, _, hy4, _⟩ := own_bytes ho4)
       (simp only [Value.slice.injEq] at e4)
       (obtain ⟨rfl, _, rfl⟩ := e4)
       (have hlow : ByIn w4 (some ⟨g4, 0, none⟩) L cap4 B := ⟨by omega, hb.max, (fun e => by cases e), (by have h5 := hy4.part 0 L (by omega); simp only [Nat.add_zero, Nat.zero_add] at h5; exact h5.congr (fun j hj => (cat_front B _ L j hj).symm)), hb.byt⟩)
       (have hlast : w4.cell? ⟨g4, L, none⟩ = some (.int .u8 77) := by (obtain ⟨_, _, e5, _, hc5⟩ := hy4.resolve_left (by omega); simp only [Option.some.injEq, Addr.mk.injEq, and_true] at e5; obtain ⟨rfl, rfl⟩ := e5; have h6 := hc5 L (by omega); rw [Nat.zero_add] at h6; rw [h6]; unfold cat; rw [if_neg (by omega)]; rfl))
       (have hg4lt := (ho4.lt g4 rfl).2)
       (have P2 := p2 w4 (some ⟨g4, 0, none⟩) cap4 hlow)
       (have xb4 := xb2.below hb4 (Nat.le_refl _))
       (have yb4 := yb.below hb4 (Nat.le_refl _))
       (clear ho4 ho3 ho3a hon hy4 hby2))
    | ((refine at_dst 34 rfl ?_)
       (refine wpList_is (some 34) (.slice (some ⟨g4, 0, none⟩) L cap4) rfl rfl (run_slice_to _ _ rfl g4 0 (L + 1) cap4 L rfl rfl (by omega) _) ?_))
    | ((go_at_call 11)
       (refine Calls.mono P2 ?_)
       (rintro e w5 ⟨A5, C5, ma, mc, rfl, hm5, hb5⟩)
       (clear P2)
       (have hbw5 := hbw4.trans (hb5.mono hbw4.size))
       (have R2 := r2 w5 b C (hb.below hbw5 (Nat.le_refl _)))
       (have xb5 := xb4.below hb5 (Nat.le_refl _))
       (have yb5 := yb4.below hb5 (Nat.le_refl _)))
    | ((go_at_call 12)
       (refine Calls.mono R2 ?_)
       (rintro e w6 ⟨A6, C6, na, nc, rfl, hn6, hb6⟩)
       (clear R2)
       (have hbw6 := hbw5.trans (hb6.mono hbw5.size))
       (have xb6 := xb5.below hb6 (Nat.le_refl _))
       (have yb6 := yb5.below hb6 (Nat.le_refl _))
       (have hm6 := hm5.below hb6 (Nat.le_refl _))
       (have hb46 := hb5.trans (hb6.mono hb5.size))
       (have hlow6 := hlow.below hb46 (Nat.le_refl _))
       (have hby6 := hb.below hbw6 (Nat.le_refl _))
       (have S1 := same_true xc yc xb6 yb6 k1 (fun e => (xn e).1) (fun e => (yn e).1))
       (have S2 := samew_yes (c1 := mc) (c2 := nc) hm6 hn6 (fun i _ => uV_alike B A5 A6 C5 C6 i)))
    | ((go_at_call 14)
       (refine S2.mono ?_)
       (rintro e w7 ⟨rfl, hb7⟩)
       (clear S2)
       (have hbw7 := hbw6.trans (hb7.mono hbw6.size))
       (have hb47 := hb46.trans (hb7.mono hb46.size))
       (have hlow7 := hlow.below hb47 (Nat.le_refl _))
       (have hby7 := hb.below hbw7 (Nat.le_refl _))
       (have S3 := same_true cap4 C hlow7.at_ hby7.at_ hb.byt (fun e => by cases e) (fun e => (hb.nil e).1))
       (have AL := alive_any w7))
    | ((go_at_call 13)
       (refine S1.mono ?_)
       (rintro e wz ⟨rfl, hz⟩)
       (obtain rfl : w6 = wz := hz.symm)
       (clear S1))
    | ((go_at_call 13)
       (refine S3.mono ?_)
       (rintro e wz ⟨rfl, hz⟩)
       (obtain rfl : w7 = wz := hz.symm)
       (clear S3))
    | ((go_at_call 15)
       (refine AL.mono ?_)
       (rintro e w8 ⟨rfl, hb8⟩)
       (have hbw8 := hbw7.trans (hb8.mono hbw7.size))
       (have hb48 := hb47.trans (hb8.mono hb47.size))
       (have hla8 : w8.cell? ⟨g4, L, none⟩ = some (.int .u8 77) := (hb48.cell hg4lt).trans hlast)
       (have hLL : (L : Int) < (L : Int) + 1 := by omega)
       (clear AL))
    | ((refine at_dst 79 rfl ?_)
       (refine wpList_is (some 79) (.slice (some ⟨g4, 0, none⟩) (L + 1 : Nat) cap4) rfl rfl (run_slice_to _ _ rfl g4 0 L cap4 (L + 1) rfl rfl hc4 _) ?_))
    | ((refine at_dst 82 rfl ?_)
       (refine wpList_is (some 82) (.pointer (some ⟨g4, L, none⟩)) rfl rfl (by (have h9 := fun o a x i ho hx hi => run_at_b (o := o) (a := a) x i ho g4 0 L (L + 1) cap4 hx hi (by omega) w8; simp only [Nat.zero_add] at h9; exact h9 _ _ _ _ rfl rfl rfl)) ?_)))
  go_ret
  exact ⟨rfl, hbw8⟩
end Go.Proofs.Ytbiicdehgogikaa
