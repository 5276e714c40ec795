/- DeviceNil, walked. -/
import Derived.Test.YtalcalecmklcoaaDvScript
namespace Go.Proofs.Ytalcalecmklcoaa
open Go.ChangeShapes Go.WideShapes Go.ChangeAt Go.RowKit
set_option linter.unusedVariables false

/-- What is asked of the calls on no device. -/
structure DevNil : Prop where
  read : ∀ (i : Int) (w : World), Calls Try.prog 20 #[.pointer none, .int .i64 i] w fun e w' => (∃ v, e = .returned (.tuple #[v, .int .i64 1]) ∧ NoSec v) ∧ Below w.heap.size w w'
  spoil : ∀ (i : Int) (w : World), Calls Try.prog 15 #[.pointer none, .int .i64 i] w fun e w' => e = .returned (.tuple #[]) ∧ Below w.heap.size w w'
  kill : ∀ (w : World), Calls Try.prog 17 #[.pointer none] w fun e w' => e = .returned (.tuple #[]) ∧ Below w.heap.size w w'
  tamper : ∀ (i : Int) (a : Option Addr) (L c : Nat) (w : World), Calls Try.prog 18 #[.pointer none, .int .i64 i, .slice a L c] w fun e w' => e = .returned (.tuple #[]) ∧ Below w.heap.size w w'
  write : ∀ (i : Int) (a : Option Addr) (L c : Nat) (w : World), Calls Try.prog 11 #[.pointer none, .int .i64 i, .slice a L c] w fun e w' => e = .returned (.int .i64 1) ∧ Below w.heap.size w w'
  size : ∀ (w : World), Calls Try.prog 35 #[.pointer none] w fun e w' => e = .returned (.int .i64 0) ∧ Below w.heap.size w w'
  sync : ∀ (w : World), Calls Try.prog 13 #[.pointer none] w fun e w' => e = .returned (.int .i64 1) ∧ Below w.heap.size w w'
  isDead : ∀ (w : World), Calls Try.prog 36 #[.pointer none] w fun e w' => e = .returned (.bool false) ∧ Below w.heap.size w w'
  isBad : ∀ (i : Int) (w : World), Calls Try.prog 37 #[.pointer none, .int .i64 i] w fun e w' => e = .returned (.bool false) ∧ Below w.heap.size w w'
  pending : ∀ (w : World), Calls Try.prog 33 #[.pointer none] w fun e w' => e = .returned (.int .i64 0) ∧ Below w.heap.size w w'
  writes : ∀ (w : World), Calls Try.prog 34 #[.pointer none] w fun e w' => e = .returned (.int .i64 0) ∧ Below w.heap.size w w'
  cut : ∀ (w : World), Calls Try.prog 25 #[.pointer none, .slice none 0 0] w fun e w' => e = .returned (.pointer none) ∧ Below w.heap.size w w'
  cutAt : ∀ (i : Int) (w : World), Calls Try.prog 27 #[.pointer none, .int .i64 i, .slice none 0 0] w fun e w' => e = .returned (.pointer none) ∧ Below w.heap.size w w'
  moment : ∀ (w : World), Calls Try.prog 38 #[.pointer none] w fun e w' => e = .returned (.int .i64 0) ∧ Below w.heap.size w w'
  cutMo : ∀ (i : Int) (w : World), Calls Try.prog 29 #[.pointer none, .int .i64 i, .slice none 0 0] w fun e w' => e = .returned (.pointer none) ∧ Below w.heap.size w w'

set_option maxRecDepth 100000 in
set_option maxHeartbeats 3200000 in
theorem nil_any {D : DevRep} (hD : DevOk D) (hN : DevNil) (w : World) (i : Int) (a : Option Addr) (L c : Nat) :
    Calls Try.prog 6 #[.int .i64 i, .slice a L c] w fun e w' => e = .returned (.bool true) ∧ Below w.heap.size w w' := by
  have HN : Hid DevNil := hN
  have h1 := hN.spoil i w
  clear hN
  go_enter Try.func6, Try.ntmps6
  go_wp2_with (first
    | ((go_at_call 15)
       (refine h1.mono ?_)
       (rintro e w1 ⟨rfl, hb1⟩)
       (have B1 : Below w.heap.size w w1 := hb1)
       (have h2 := HN.out.kill w1)
       (clear h1))
    | ((go_at_call 17)
       (refine h2.mono ?_)
       (rintro e w2 ⟨rfl, hb2⟩)
       (have B2 : Below w.heap.size w w2 := B1.trans (hb2.mono B1.size))
       (have h3 := HN.out.tamper i a L c w2)
       (clear h2))
    | ((go_at_call 18)
       (refine h3.mono ?_)
       (rintro e w3 ⟨rfl, hb3⟩)
       (have B3 : Below w.heap.size w w3 := B2.trans (hb3.mono B2.size))
       (have h4 := HN.out.read i w3)
       (clear h3))
    | ((go_at_call 20)
       (refine h4.mono ?_)
       (rintro e w4 ⟨⟨v4, rfl, a4, c4, rfl⟩, hb4⟩)
       (have B4 : Below w.heap.size w w4 := B3.trans (hb4.mono B3.size))
       (have h5 := dalive_any hD w4)
       (clear h4))
    | ((go_at_call 10)
       (refine h5.mono ?_)
       (rintro e w5 ⟨rfl, hb5⟩)
       (have B5 : Below w.heap.size w w5 := B4.trans (hb5.mono B4.size))
       (have h6 := HN.out.write i a L c w5)
       (clear h5))
    | ((go_at_call 11)
       (refine h6.mono ?_)
       (rintro e w6 ⟨rfl, hb6⟩)
       (have B6 : Below w.heap.size w w6 := B5.trans (hb6.mono B5.size))
       (have h7 := HN.out.size w6)
       (clear h6))
    | ((go_at_call 35)
       (refine h7.mono ?_)
       (rintro e w7 ⟨rfl, hb7⟩)
       (have B7 : Below w.heap.size w w7 := B6.trans (hb7.mono B6.size))
       (have h8 := HN.out.sync w7)
       (clear h7))
    | ((go_at_call 13)
       (refine h8.mono ?_)
       (rintro e w8 ⟨rfl, hb8⟩)
       (have B8 : Below w.heap.size w w8 := B7.trans (hb8.mono B7.size))
       (have h9 := HN.out.isDead w8)
       (clear h8))
    | ((go_at_call 36)
       (refine h9.mono ?_)
       (rintro e w9 ⟨rfl, hb9⟩)
       (have B9 : Below w.heap.size w w9 := B8.trans (hb9.mono B8.size))
       (have h10 := HN.out.isBad i w9)
       (clear h9))
    | ((go_at_call 37)
       (refine h10.mono ?_)
       (rintro e w10 ⟨rfl, hb10⟩)
       (have B10 : Below w.heap.size w w10 := B9.trans (hb10.mono B9.size))
       (have h11 := HN.out.pending w10)
       (clear h10))
    | ((go_at_call 33)
       (refine h11.mono ?_)
       (rintro e w11 ⟨rfl, hb11⟩)
       (have B11 : Below w.heap.size w w11 := B10.trans (hb11.mono B10.size))
       (have h12 := HN.out.writes w11)
       (clear h11))
    | ((go_at_call 34)
       (refine h12.mono ?_)
       (rintro e w12 ⟨rfl, hb12⟩)
       (have B12 : Below w.heap.size w w12 := B11.trans (hb12.mono B11.size))
       (have h13 := HN.out.cut w12)
       (clear h12))
    | ((go_at_call 25)
       (refine h13.mono ?_)
       (rintro e w13 ⟨rfl, hb13⟩)
       (have B13 : Below w.heap.size w w13 := B12.trans (hb13.mono B12.size))
       (have h14 := HN.out.cutAt i w13)
       (clear h13))
    | ((go_at_call 27)
       (refine h14.mono ?_)
       (rintro e w14 ⟨rfl, hb14⟩)
       (have B14 : Below w.heap.size w w14 := B13.trans (hb14.mono B13.size))
       (have h15 := HN.out.moment w14)
       (clear h14))
    | ((go_at_call 38)
       (refine h15.mono ?_)
       (rintro e w15 ⟨rfl, hb15⟩)
       (have B15 : Below w.heap.size w w15 := B14.trans (hb15.mono B14.size))
       (have h16 := HN.out.cutMo i w15)
       (clear h15))
    | ((go_at_call 29)
       (refine h16.mono ?_)
       (rintro e w16 ⟨rfl, hb16⟩)
       (have B16 : Below w.heap.size w w16 := B15.trans (hb16.mono B15.size))
       (clear h16)))
  exact bodyPost_ret (results_tmp rfl _ _ _) rfl ⟨rfl, B16⟩
end Go.Proofs.Ytalcalecmklcoaa
