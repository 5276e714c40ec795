/- The law's own 'alive': the live question's answer. -/
import Derived.Test.YtalcalecmklcoaaDvIn
import Derived.Lib.SlBytesConst
namespace Go.Proofs.Ytalcalecmklcoaa
open Go.ChangeShapes Go.WideShapes Go.ChangeAt Go.RowKit
set_option linter.unusedVariables false

def twoM (x y : Nat) : Nat → Nat := fun j => if j = 0 then x else y

theorem twoM_lt (x y : Nat) (hx : x < 256) (hy : y < 256) (j : Nat) : twoM x y j < 256 := by
  unfold twoM
  split <;> omega

theorem two_bytes (w : World) (x y : Nat) : Bytes (w.alloc (.cells #[.int .u8 (x : Nat), .int .u8 (y : Nat)] 5 (2, 3))) (some ⟨w.heap.size, 0, none⟩) 2 (twoM x y) := by
  refine .inr ⟨w.heap.size, 0, rfl, by simp, ?_⟩
  intro j hj
  rcases (show j = 0 ∨ j = 1 from by omega) with rfl | rfl <;> (rw [World.cell?_alloc_mark]; rfl)

theorem conv_two (w : World) (x y : Nat) : (convert 33 33 (.slice (some ⟨w.heap.size, 0, none⟩) 2 2)).run Try.prog (w.alloc (.cells #[.int .u8 (x : Nat), .int .u8 (y : Nat)] 5)) = .ok (.slice (some ⟨w.heap.size, 0, none⟩) 2 2) (w.alloc (.cells #[.int .u8 (x : Nat), .int .u8 (y : Nat)] 5 (2, 3))) :=
  Lib.run_convert_bytes_const w 33 5 #[.int .u8 (x : Nat), .int .u8 (y : Nat)] 2 2 Try.underlying33 Try.underlying5

theorem conv_ab (w : World) : (convert 33 33 (.slice (some ⟨w.heap.size, 0, none⟩) 2 2)).run Try.prog (w.alloc (.cells #[.int .u8 97, .int .u8 98] 5)) = .ok (.slice (some ⟨w.heap.size, 0, none⟩) 2 2) (w.alloc (.cells #[.int .u8 97, .int .u8 98] 5 (2, 3))) := conv_two w 97 98
theorem bytes_ab (w : World) : Bytes (w.alloc (.cells #[.int .u8 97, .int .u8 98] 5 (2, 3))) (some ⟨w.heap.size, 0, none⟩) 2 (twoM 97 98) := two_bytes w 97 98

theorem conv_cd (w : World) : (convert 33 33 (.slice (some ⟨w.heap.size, 0, none⟩) 2 2)).run Try.prog (w.alloc (.cells #[.int .u8 99, .int .u8 100] 5)) = .ok (.slice (some ⟨w.heap.size, 0, none⟩) 2 2) (w.alloc (.cells #[.int .u8 99, .int .u8 100] 5 (2, 3))) := conv_two w 99 100
theorem bytes_cd (w : World) : Bytes (w.alloc (.cells #[.int .u8 99, .int .u8 100] 5 (2, 3))) (some ⟨w.heap.size, 0, none⟩) 2 (twoM 99 100) := two_bytes w 99 100

/-- The first byte of a slice. -/
theorem first_cell {w : World} {b o n : Nat} {f : Nat → Nat} (h : Bytes w (some ⟨b, o, none⟩) (n + 1) f) : w.cell? ⟨b, o, none⟩ = some (.int .u8 (f 0 : Nat)) := by
  rcases h with h | ⟨b', o', e, _, hc⟩
  · cases h
  · cases e
    exact hc 0 (Nat.succ_pos _)

def sA : DS := wrS (fresh 4) 1 (twoM 97 98) 2 0
def sB : DS := syS sA 1
def sC : DS := wrS sB 1 (twoM 99 100) 2 1
theorem sC_err : wrErr (fresh 4) 1 2 = 0 ∧ wrErr sB 1 2 = 0 ∧ sA.dead = false ∧ wrM (fresh 4) 1 2 0 = 1 ∧ wrM sB 1 2 1 = 2 ∧ sA.log.length = 1 ∧ sB.log.length = 2 ∧ sC.log.length = 3 ∧ pend sC.log = 1 ∧ rdErr sC 1 = 0 ∧ rdErr (cutD sC (keepOf (fun _ => false) 0)) 1 = 0 ∧ holds sC 1 0 = 99 ∧ holds (cutD sC (keepOf (fun _ => false) 0)) 1 0 = 97 := by decide

theorem i64_one : i64ok 1 := ⟨by decide, by decide⟩

variable {D : DevRep}

set_option maxRecDepth 100000 in
set_option maxHeartbeats 1600000 in
theorem dalive_any (hD : DevOk D) (w : World) : Calls Try.prog 10 #[] w fun e w' => e = .returned (.bool true) ∧ Below w.heap.size w w' := by
  obtain ⟨e1, e2, e3, e4, e5, e6, e7, e8, e9, e10, e11, e12, e13⟩ := sC_err
  have hnew := in_new (B := w.heap.size) (w0 := w) hD 4 (by decide) (by decide) (Below.refl _ w) (Nat.le_refl _)
  have E : Hid (wrErr (fresh 4) 1 2 = 0 ∧ wrErr sB 1 2 = 0 ∧ sA.dead = false ∧ wrM (fresh 4) 1 2 0 = 1 ∧ wrM sB 1 2 1 = 2 ∧ sA.log.length = 1 ∧ sB.log.length = 2 ∧ sC.log.length = 3 ∧ pend sC.log = 1 ∧ rdErr sC 1 = 0 ∧ rdErr (cutD sC (keepOf (fun _ => false) 0)) 1 = 0 ∧ holds sC 1 0 = 99 ∧ holds (cutD sC (keepOf (fun _ => false) 0)) 1 0 = 97) := ⟨e1, e2, e3, e4, e5, e6, e7, e8, e9, e10, e11, e12, e13⟩
  clear e1 e2 e3 e4 e5 e6 e7 e8 e9 e10 e11 e12 e13
  go_enter Try.func10, Try.ntmps10
  go_wp2_with (first
    | ((go_at_call 9)
       (refine hnew.mono ?_)
       (rintro e w1 ⟨p, c, F, rfl, hI, hb1, hF1, hc1⟩)
       (have hconv := conv_ab w1)
       (have hI2 := hI.alloc hD (.cells #[.int .u8 97, .int .u8 98] 5 (2, 3)))
       (have hwr := in_write hD hI2 1 (some ⟨w1.heap.size, 0, none⟩) 2 2 (twoM 97 98) i64_one (by decide) (by decide) (Nat.le_refl _) (by decide) (fun e => by cases e) (bytes_ab w1) (twoM_lt _ _ (by decide) (by decide)) (.inr trivial))
       (rw [E.out.1, E.out.2.2.2.1] at hwr)
       (clear hnew hI hF1 hc1 hb1 hI2))
    | ((go_at_call 11)
       (have _t := hwr)
       (refine hwr.mono ?_)
       (rintro e w2 ⟨rfl, _, F2, _, hI2⟩)
       (have hsy := in_sync hD hI2 (by decide) (by show sA.log.length ≤ _; rw [E.out.2.2.2.2.2.1]; decide))
       (rw [show (wrS (fresh 4) 1 (twoM 97 98) 2 0).dead = false from E.out.2.2.1] at hsy)
       (clear hwr _t hconv))
    | ((go_at_call 13)
       (refine hsy.mono ?_)
       (rintro e w3 ⟨rfl, _, F3, _, hI3⟩)
       (have hconv3 := conv_cd w3)
       (have hI4 := hI3.alloc hD (.cells #[.int .u8 99, .int .u8 100] 5 (2, 3)))
       (have hwr2 := in_write hD hI4 1 (some ⟨w3.heap.size, 0, none⟩) 2 2 (twoM 99 100) i64_one (by decide) (by show sB.log.length ≤ _; rw [E.out.2.2.2.2.2.2.1]; decide) (Nat.le_refl _) (by decide) (fun e => by cases e) (bytes_cd w3) (twoM_lt _ _ (by decide) (by decide)) (.inr trivial))
       (rw [show wrErr (syS (wrS (fresh 4) 1 (twoM 97 98) 2 0) 1) 1 2 = 0 from E.out.2.1, show wrM (syS (wrS (fresh 4) 1 (twoM 97 98) 2 0) 1) 1 2 1 = 2 from E.out.2.2.2.2.1] at hwr2)
       (clear hsy hI2 hI3 hI4))
    | ((go_at_call 11)
       (have _t := hwr2)
       (refine hwr2.mono ?_)
       (rintro e w5 ⟨rfl, _, F5, _, hI5⟩)
       (have hI5 : In D w.heap.size w w5 p sC c 2 F5 := hI5)
       (have hcut := in_cut hD hI5 none 0 0 (fun _ => false) (by rw [E.out.2.2.2.2.2.2.2.1]; decide) (by decide) (Nat.le_refl _) (.inl rfl))
       (clear hwr2 _t hconv3))
    | ((go_at_call 25)
       (refine hcut.mono ?_)
       (rintro e w6 ⟨hb6, hI6, p', c', F', rfl, hJ6, _, _⟩)
       (obtain ⟨T, hT⟩ : ∃ T, T = cutD sC (keepOf (fun _ => false) 0) := ⟨_, rfl⟩)
       (have hr1 := in_read hD hJ6 1 i64_one)
       (rw [E.out.2.2.2.2.2.2.2.2.2.2.1] at hr1)
       (have E1 : Hid (holds (cutD sC (keepOf (fun _ => false) 0)) (1 : Int).toNat 0 = 97) := E.out.2.2.2.2.2.2.2.2.2.2.2.2)
       (clear hcut hT))
    | ((go_at_call 20)
       (have _t := hr1)
       (refine hr1.mono ?_)
       (rintro e w7 ⟨hb7, hJ7, v7, rfl, (⟨hv, _⟩ | ⟨_, hv7⟩)⟩)
       (case inl => exact absurd rfl hv)
       (obtain ⟨g7, o7, k7, rfl, hk7, hg7, hB7⟩ := hv7.bytes)
       (have hI7 := hI6.next hD hb7)
       (have hr2 := in_read hD hI7 1 i64_one)
       (rw [E.out.2.2.2.2.2.2.2.2.2.1] at hr2)
       (clear hr1 _t hv7))
    | ((go_at_call 20)
       (have _t := hr2)
       (refine hr2.mono ?_)
       (rintro e w8 ⟨hb8, hI8, v8, rfl, (⟨hv, _⟩ | ⟨_, hv8⟩)⟩)
       (case inl => exact absurd rfl hv)
       (obtain ⟨g8, o8, k8, rfl, hk8, hg8, hB8⟩ := hv8.bytes)
       (have hB78 := hB7.below hb8 (Nat.le_refl _))
       (have c7 := first_cell hB78)
       (have c8 := first_cell hB8)
       (rw [E1.out] at c7)
       (rw [show holds sC (1 : Int).toNat 0 = 99 from E.out.2.2.2.2.2.2.2.2.2.2.2.1] at c8)
       (have hpe := in_tells hD hI8 (hD.pending w8 p sC c 2 F5 hI8.dev (by rw [E.out.2.2.2.2.2.2.2.1]; decide)))
       (rw [E.out.2.2.2.2.2.2.2.2.1] at hpe)
       (clear hr2 _t hv8 hB7 hB78 hB8))
    | ((go_at_call 33)
       (refine hpe.mono ?_)
       (rintro e w9 ⟨rfl, hb9, hI9⟩)))
  exact bodyPost_ret (results_tmp rfl _ _ _) rfl ⟨rfl, hI9.below⟩
end Go.Proofs.Ytalcalecmklcoaa
