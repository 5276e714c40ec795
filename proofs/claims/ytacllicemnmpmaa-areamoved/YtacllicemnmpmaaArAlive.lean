/- The live question. -/
import Derived.Test.YtacllicemnmpmaaArOvr
namespace Go.Proofs.Ytacllicemnmpmaa
open Go.ChangeShapes Go.WideShapes Go.ChangeAt Go.RowKit Go.Shelf
set_option linter.unusedVariables false

theorem great_i10 : Great 8192 (fit tg 10) 8 := ⟨by omega, by decide, fun _ => by decide⟩
theorem great_v10 : Great 2048 (fit hs 10) 4 := ⟨by omega, by decide +kernel, fun _ => by decide +kernel⟩
theorem hs_4 : hs 4 = 3 := by decide +kernel
theorem great_s10 : Great 10 (sfit 1 4 10) 2 := ⟨by omega, by decide, fun _ => by decide⟩

def liveF (i : Nat) : R3 := if i = 0 then ⟨0, 0, 4⟩ else ⟨0, 3, 1⟩

theorem ov_live : Ov 2 (SS liveF) 0 1 := .inr ⟨0, 1, rfl, rfl, by omega, by omega, by decide, fun b hb a ha => by omega, fun a ha => by omega⟩

set_option maxRecDepth 100000 in
set_option maxHeartbeats 2000000 in
theorem alive_c (w : World) : Calls Try.prog 14 #[] w fun e w' => e = .returned (.bool true) ∧ Below w.heap.size w w' := by
  have HI : Hid (∀ W, Calls Try.prog 8 #[.int .i64 10] W fun e w' => e = .returned (.tuple #[.int .i64 8, .int .i64 2]) ∧ Below W.heap.size W w') := fun W => by
    refine (Integrity_c 10 W (by omega)).mono ?_
    rintro e w' ⟨r, rfl, h, hb⟩
    obtain rfl := h.eq great_i10
    exact ⟨rfl, hb⟩
  have HV : Hid (∀ W, Calls Try.prog 10 #[.int .i64 10] W fun e w' => e = .returned (.tuple #[.int .i64 4, .int .i64 3]) ∧ Below W.heap.size W w') := fun W => by
    refine (Verity_c 10 W (by omega)).mono ?_
    rintro e w' ⟨r, rfl, h, hb⟩
    obtain rfl := h.eq great_v10
    rw [hs_4]
    exact ⟨rfl, hb⟩
  have HS : Hid (∀ W, Calls Try.prog 12 #[.int .i64 10, .int .i64 40, .int .i64 4] W fun e w' => e = .returned (.tuple #[.int .i64 1, .int .i64 2]) ∧ Below W.heap.size W w') := fun W => by
    refine (Store_c 10 40 4 W (by omega) (by omega) (by omega)).mono ?_
    rintro e w' ⟨r, rfl, h, hb⟩
    obtain rfl := h.eq great_s10
    exact ⟨rfl, hb⟩
  have HO : Hid (∀ W : World, Calls Try.prog 15 #[.slice (some ⟨W.heap.size, 0, none⟩) 2 2] (W.alloc (.cells #[.int .i64 0, .int .i64 0, .int .i64 4, .int .i64 0, .int .i64 3, .int .i64 1] 33)) fun e w' => e = .returned (.tuple #[.int .i64 0, .int .i64 1]) ∧ Below W.heap.size W w') := fun W => by
    have hx : Has (W.alloc (.cells #[.int .i64 0, .int .i64 0, .int .i64 4, .int .i64 0, .int .i64 3, .int .i64 1] 33)) W.heap.size 33 #[.int .i64 0, .int .i64 0, .int .i64 4, .int .i64 0, .int .i64 3, .int .i64 1] := Has.new _ _ _
    have hr : Rng (W.alloc (.cells #[.int .i64 0, .int .i64 0, .int .i64 4, .int .i64 0, .int .i64 3, .int .i64 1] 33)) (some ⟨W.heap.size, 0, none⟩) 2 liveF := .inr ⟨W.heap.size, 0, rfl, hx.lt, fun i hi => by
      rcases (by omega : i = 0 ∨ i = 1) with rfl | rfl
      · exact ⟨hx.cell 0, hx.cell 1, hx.cell 2⟩
      · exact ⟨hx.cell 3, hx.cell 4, hx.cell 5⟩⟩
    refine (Overlap_c _ 2 2 liveF _ (by omega) (Nat.le_refl _) (by omega) hr).mono ?_
    rintro e w' ⟨i, j, rfl, h, hb⟩
    obtain ⟨rfl, rfl⟩ := h.eq ov_live (fun _ _ _ _ => rfl)
    exact ⟨rfl, ((Below.refl _ W).alloc (Nat.le_refl _) _).trans (hb.mono (by simp))⟩
  go_enter Try.func14, Try.ntmps14
  go_wp2_with (first
    | ((go_at_call 8)
       (refine (HI.out _).mono ?_)
       (rintro e w1 ⟨rfl, hb1⟩))
    | ((go_at_call 10)
       (refine (HV.out _).mono ?_)
       (rintro e w2 ⟨rfl, hb2⟩))
    | ((go_at_call 12)
       (refine (HS.out _).mono ?_)
       (rintro e w3 ⟨rfl, hb3⟩))
    | ((go_at_call 15)
       (refine (HO.out w3).mono ?_)
       (rintro e w4 ⟨rfl, hb4⟩)))
  go_ret
  exact ⟨rfl, ((hb1.trans (hb2.mono hb1.size)).trans (hb3.mono (by have := hb1.size; have := hb2.size; omega))).trans (hb4.mono (by have := hb1.size; have := hb2.size; have := hb3.size; omega))⟩
end Go.Proofs.Ytacllicemnmpmaa
