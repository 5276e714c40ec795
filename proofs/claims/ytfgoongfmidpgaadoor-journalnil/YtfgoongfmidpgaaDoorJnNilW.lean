/- No journal: JournalNil, walked. -/
import Derived.Test.YtfgoongfmidpgaaDoorJoint09
namespace Go.Proofs.YtfgoongfmidpgaaDoor
open Go.ChangeShapes Go.WideShapes Go.ChangeAt Go.RowKit
set_option linter.unusedVariables false

variable {D : DevRep}

theorem format_nil (w : World) : Calls Tryd.prog 10 #[.pointer none] w fun e w' => e = .returned (.tuple #[.pointer none, .int .i64 1]) ∧ w' = w := by
  go_enter Tryd.func10, Tryd.ntmps10
  go_wp2
  go_ret2
  exact ⟨rfl, rfl⟩
theorem open_nil (w : World) : Calls Tryd.prog 18 #[.pointer none] w fun e w' => e = .returned (.tuple #[.pointer none, .int .i64 1]) ∧ w' = w := by
  go_enter Tryd.func18, Tryd.ntmps18
  go_wp2
  go_ret2
  exact ⟨rfl, rfl⟩
theorem add_nil (v : Value) (w : World) : Calls Tryd.prog 13 #[.pointer none, v] w fun e w' => e = .returned (.int .i64 1) ∧ w' = w := by
  go_enter Tryd.func13, Tryd.ntmps13
  go_wp2
  go_ret
  exact ⟨rfl, rfl⟩
theorem flush_nil (w : World) : Calls Tryd.prog 14 #[.pointer none] w fun e w' => e = .returned (.int .i64 1) ∧ w' = w := by
  go_enter Tryd.func14, Tryd.ntmps14
  go_wp2
  go_ret
  exact ⟨rfl, rfl⟩
theorem clear_nil (w : World) : Calls Tryd.prog 16 #[.pointer none] w fun e w' => e = .returned (.int .i64 1) ∧ w' = w := by
  go_enter Tryd.func16, Tryd.ntmps16
  go_wp2
  go_ret
  exact ⟨rfl, rfl⟩
theorem records_nil (w : World) : Calls Tryd.prog 23 #[.pointer none] w fun e w' => e = .returned (.slice none 0 0) ∧ w' = w := by
  go_enter Tryd.func23, Tryd.ntmps23
  go_wp2
  go_ret
  exact ⟨rfl, rfl⟩
theorem flushed_nil (w : World) : Calls Tryd.prog 24 #[.pointer none] w fun e w' => e = .returned (.int .i64 0) ∧ w' = w := by
  go_enter Tryd.func24, Tryd.ntmps24
  go_wp2
  go_ret
  exact ⟨rfl, rfl⟩
theorem free_nil (w : World) : Calls Tryd.prog 25 #[.pointer none] w fun e w' => e = .returned (.int .i64 0) ∧ w' = w := by
  go_enter Tryd.func25, Tryd.ntmps25
  go_wp2
  go_ret
  exact ⟨rfl, rfl⟩

set_option maxRecDepth 100000 in
set_option maxHeartbeats 2000000 in
theorem nil_walk (hD : DevOk D) (hM : DevMore D) (w : World) (hG : Glob Hc Kc w) (v : Value) : Calls Tryd.prog 7 #[v] w fun e w' => e = .returned (.bool true) ∧ Below w.heap.size w w' := by
  have hal := alive_j hD hM w hG
  go_enter Tryd.func7, Tryd.ntmps7
  go_wp2_with (first
    | (go_at_call 10; refine (format_nil _).mono ?_; rintro e wz ⟨rfl, hz⟩; obtain rfl : w = wz := hz.symm)
    | (go_at_call 18; refine (open_nil _).mono ?_; rintro e wz ⟨rfl, hz⟩; obtain rfl : w = wz := hz.symm)
    | (go_at_call 11; refine hal.mono ?_; rintro e w1 ⟨rfl, hb1⟩; clear hal)
    | (go_at_call 13; refine (add_nil _ _).mono ?_; rintro e wz ⟨rfl, hz⟩; obtain rfl : w1 = wz := hz.symm)
    | (go_at_call 14; refine (flush_nil _).mono ?_; rintro e wz ⟨rfl, hz⟩; obtain rfl : w1 = wz := hz.symm)
    | (go_at_call 16; refine (clear_nil _).mono ?_; rintro e wz ⟨rfl, hz⟩; obtain rfl : w1 = wz := hz.symm)
    | (go_at_call 23; refine (records_nil _).mono ?_; rintro e wz ⟨rfl, hz⟩; obtain rfl : w1 = wz := hz.symm)
    | (go_at_call 24; refine (flushed_nil _).mono ?_; rintro e wz ⟨rfl, hz⟩; obtain rfl : w1 = wz := hz.symm)
    | (go_at_call 25; refine (free_nil _).mono ?_; rintro e wz ⟨rfl, hz⟩; obtain rfl : w1 = wz := hz.symm))
  go_ret
  exact ⟨rfl, hb1⟩
end Go.Proofs.YtfgoongfmidpgaaDoor
