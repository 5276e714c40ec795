/- What is asked of device's other calls is so of the program. -/
import Derived.Test.YtalcalecmklcoaaDwProg
import Derived.Test.YtalcalecmklcoaaDwTog
import Derived.Test.YtalcalecmklcoaaDwSmallM
import Derived.Test.YtalcalecmklcoaaDvNil
namespace Go.Proofs.Ytalcalecmklcoaa
open Go.ChangeShapes Go.WideShapes Go.ChangeAt Go.RowKit
set_option linter.unusedVariables false

theorem theMore : DevMore theRep where
  size := by
    rintro w p s c m F ⟨⟨bb, bs, bc, vw, vs, h, hF⟩, hc, hcF, hp⟩
    refine (size_r h).mono ?_
    rintro e w' ⟨rfl, hw'⟩
    exact ⟨rfl, by rw [hw']; exact Below.refl _ _⟩
  isBad := by
    rintro w p s c m F i ⟨⟨bb, bs, bc, vw, vs, h, hF⟩, hc, hcF, hp⟩ hi
    exact bad_r h i
  moment := by
    rintro w p s c m F ⟨⟨bb, bs, bc, vw, vs, h, hF⟩, hc, hcF, hp⟩
    refine (moment_r h hc).mono ?_
    rintro e w' ⟨rfl, hw'⟩
    exact ⟨rfl, by rw [hw']; exact Below.refl _ _⟩
  cutAt := by
    rintro w p s c m F i a L cap k ⟨⟨bb, bs, bc, vw, vs, h, hF⟩, hc, hcF, hp⟩ hi hl hL hLc hk
    exact (cutAt_r h i a L cap k hk hl).mono fun e w' hpost => dev_of_left rfl hpost
  cutMo := by
    rintro w p s c m F i a L cap k ⟨⟨bb, bs, bc, vw, vs, h, hF⟩, hc, hcF, hp⟩ hi hm hl hL hLc hk
    exact (cutMo_r h hc i a L cap k hk hm hl).mono fun e w' hpost => dev_of_left rfl hpost

theorem theTog : DevTog theRep where
  one := by
    rintro w p s c m F g ⟨⟨bb, bs, bc, vw, vs, h, hF⟩, hc, hcF, hp⟩ hl g0 g1 ho2
    refine (tog1_r h g hl g0 g1).mono ?_
    rintro e w' ⟨rfl, ho, hc', hr⟩
    exact ⟨rfl, ho.mono (fun k hk => (hF k).2 hk), w.heap.size, F, fun k hk => .inl hk, Nat.le_refl _, ⟨bb, bs, bc, vw, vs, hr, hF⟩, hc', fun e => rep_grow h _ (Nat.le_refl _) ((hF _).1 e), past_anew s⟩
  two := by
    rintro w p1 p2 s1 s2 c1 m1 c2 m2 F1 F2 g ⟨⟨bb, bs, bc, vw, vs, h, hF⟩, hc, hcF, hp⟩ ⟨⟨bb', bs', bc', vw', vs', h', hF'⟩, hc', hcF', hp'⟩ hap hl1 hl2 g0 g1 ho1 ho2
    refine (tog2_r h h' (fun k h1 h2 => hap k ((hF k).2 h1) ((hF' k).2 h2)) g hl1 hl2 g0 g1 (fun q => ho1.1 ((hF g).2 q))).mono ?_
    rintro e w' ⟨rfl, ho, hcn, hr1, hr2⟩
    exact ⟨rfl, ho.mono (fun k hk => hk.imp (hF k).2 (hF' k).2), w.heap.size, F1, F2, fun k hk => .inl hk, fun k hk => .inl hk, hap, Nat.le_refl _,
      ⟨⟨bb, bs, bc, vw, vs, hr1, hF⟩, hcn, fun e => rep_grow h _ (Nat.le_refl _) ((hF _).1 e), past_anew s1⟩,
      ⟨⟨bb', bs', bc', vw', vs', hr2, hF'⟩, hcn, fun e => rep_grow h' _ (Nat.le_refl _) ((hF' _).1 e), past_anew s2⟩⟩

set_option maxRecDepth 100000 in
theorem refusal_nil (i : Int) (w : World) : Calls Try.prog 44 #[.pointer none, .int .i64 i] w fun e w' => e = .returned (.int .i64 1) ∧ w' = w := by
  go_enter Try.func44, Try.ntmps44
  go_wp2
  go_ret
  exact ⟨rfl, rfl⟩

set_option maxRecDepth 100000 in
theorem writeRefusal_nil (i : Int) (a : Option Addr) (L C : Nat) (w : World) : Calls Try.prog 40 #[.pointer none, .int .i64 i, .slice a L C] w fun e w' => e = .returned (.int .i64 1) ∧ w' = w := by
  have hr := refusal_nil i w
  go_enter Try.func40, Try.ntmps40
  go_wp2_with (first
    | ((go_at_call 44)
       (refine hr.mono ?_)
       (rintro e w' ⟨rfl, hw'⟩; obtain rfl : w = w' := hw'.symm)))
  go_ret
  exact ⟨rfl, rfl⟩

set_option maxRecDepth 100000 in
theorem theNil : DevNil where
  read := fun i w => by
    have hr := refusal_nil i w
    go_enter Try.func20, Try.ntmps20
    go_wp2_with (first
      | ((go_at_call 44)
         (refine hr.mono ?_)
         (rintro e w' ⟨rfl, hw'⟩; obtain rfl : w = w' := hw'.symm)))
    go_ret2
    exact ⟨⟨_, rfl, none, 0, rfl⟩, Below.refl _ _⟩
  spoil := fun i w => by
    have hr := refusal_nil i w
    go_enter Try.func15, Try.ntmps15
    go_wp2_with (first
      | ((go_at_call 44)
         (refine hr.mono ?_)
         (rintro e w' ⟨rfl, hw'⟩; obtain rfl : w = w' := hw'.symm)))
    go_end0
    exact ⟨rfl, Below.refl _ _⟩
  kill := fun w => by
    go_enter Try.func17, Try.ntmps17
    go_wp2
    go_end0
    exact ⟨rfl, Below.refl _ _⟩
  tamper := fun i a L c w => by
    have hr := writeRefusal_nil i a L c w
    go_enter Try.func18, Try.ntmps18
    go_wp2_with (first
      | ((go_at_call 40)
         (refine hr.mono ?_)
         (rintro e w' ⟨rfl, hw'⟩; obtain rfl : w = w' := hw'.symm)))
    go_end0
    exact ⟨rfl, Below.refl _ _⟩
  write := fun i a L c w => by
    have hr := writeRefusal_nil i a L c w
    go_enter Try.func11, Try.ntmps11
    go_wp2_with (first
      | ((go_at_call 40)
         (refine hr.mono ?_)
         (rintro e w' ⟨rfl, hw'⟩; obtain rfl : w = w' := hw'.symm)))
    go_ret
    exact ⟨rfl, Below.refl _ _⟩
  size := fun w => by
    go_enter Try.func35, Try.ntmps35
    go_wp2
    go_ret
    exact ⟨rfl, Below.refl _ _⟩
  sync := fun w => by
    go_enter Try.func13, Try.ntmps13
    go_wp2
    go_ret
    exact ⟨rfl, Below.refl _ _⟩
  isDead := fun w => by
    go_enter Try.func36, Try.ntmps36
    go_wp2
    go_ret
    exact ⟨rfl, Below.refl _ _⟩
  isBad := fun i w => by
    go_enter Try.func37, Try.ntmps37
    go_wp2
    go_ret
    exact ⟨rfl, Below.refl _ _⟩
  pending := fun w => by
    go_enter Try.func33, Try.ntmps33
    go_wp2
    go_ret
    exact ⟨rfl, Below.refl _ _⟩
  writes := fun w => by
    go_enter Try.func34, Try.ntmps34
    go_wp2
    go_ret
    exact ⟨rfl, Below.refl _ _⟩
  cut := fun w => by
    go_enter Try.func25, Try.ntmps25
    go_wp2
    go_ret
    exact ⟨rfl, Below.refl _ _⟩
  cutAt := fun i w => by
    go_enter Try.func27, Try.ntmps27
    go_wp2
    go_ret
    exact ⟨rfl, (Below.refl _ _).alloc (Nat.le_refl _) _⟩
  moment := fun w => by
    go_enter Try.func38, Try.ntmps38
    go_wp2
    go_ret
    exact ⟨rfl, Below.refl _ _⟩
  cutMo := fun i w => by
    go_enter Try.func29, Try.ntmps29
    go_wp2
    go_ret
    exact ⟨rfl, (Below.refl _ _).alloc (Nat.le_refl _) _⟩
end Go.Proofs.Ytalcalecmklcoaa
