/- The law's own 'alive' for hmac: the live question's answer. -/
import Derived.Test.YtomefoijiiideaaDoorHmacEval
import Derived.Lib.SlBytesConst
namespace Go.Proofs.YtomefoijiiideaaDoor
open Go.ChangeShapes Go.WideShapes Go.ChangeAt Go.RowKit
set_option linter.unusedVariables false

theorem Hc_lt : ∀ j, j < 8 → Hc j < 4294967296 := by
  intro j hj
  rcases (show j = 0 ∨ j = 1 ∨ j = 2 ∨ j = 3 ∨ j = 4 ∨ j = 5 ∨ j = 6 ∨ j = 7 from by omega) with rfl | rfl | rfl | rfl | rfl | rfl | rfl | rfl <;> decide

def jefC : Array Value := #[.int .u8 74, .int .u8 101, .int .u8 102, .int .u8 101]
def datC : Array Value := #[.int .u8 119, .int .u8 104, .int .u8 97, .int .u8 116, .int .u8 32, .int .u8 100, .int .u8 111, .int .u8 32, .int .u8 121, .int .u8 97, .int .u8 32, .int .u8 119, .int .u8 97, .int .u8 110, .int .u8 116, .int .u8 32, .int .u8 102, .int .u8 111, .int .u8 114, .int .u8 32, .int .u8 110, .int .u8 111, .int .u8 116, .int .u8 104, .int .u8 105, .int .u8 110, .int .u8 103, .int .u8 63]

theorem jef_bytes (w : World) : Bytes (w.alloc (.cells jefC 5 (4, 5))) (some ⟨w.heap.size, 0, none⟩) 4 jefM := by
  refine .inr ⟨w.heap.size, 0, rfl, by simp, ?_⟩
  intro j hj
  rcases (show j = 0 ∨ j = 1 ∨ j = 2 ∨ j = 3 from by omega) with rfl | rfl | rfl | rfl <;> (rw [World.cell?_alloc_mark]; rfl)

theorem dat_bytes (w : World) : Bytes (w.alloc (.cells datC 5 (28, 29))) (some ⟨w.heap.size, 0, none⟩) 28 datM := by
  refine .inr ⟨w.heap.size, 0, rfl, by simp, ?_⟩
  intro j hj
  rcases (show j = 0 ∨ j = 1 ∨ j = 2 ∨ j = 3 ∨ j = 4 ∨ j = 5 ∨ j = 6 ∨ j = 7 ∨ j = 8 ∨ j = 9 ∨ j = 10 ∨ j = 11 ∨ j = 12 ∨ j = 13 ∨ j = 14 ∨ j = 15 ∨ j = 16 ∨ j = 17 ∨ j = 18 ∨ j = 19 ∨ j = 20 ∨ j = 21 ∨ j = 22 ∨ j = 23 ∨ j = 24 ∨ j = 25 ∨ j = 26 ∨ j = 27 from by omega) with rfl | rfl | rfl | rfl | rfl | rfl | rfl | rfl | rfl | rfl | rfl | rfl | rfl | rfl | rfl | rfl | rfl | rfl | rfl | rfl | rfl | rfl | rfl | rfl | rfl | rfl | rfl | rfl <;> (rw [World.cell?_alloc_mark]; rfl)

theorem conv_jef (w : World) : (convert 22 22 (.slice (some ⟨w.heap.size, 0, none⟩) 4 4)).run Tryd.prog (w.alloc (.cells #[.int .u8 74, .int .u8 101, .int .u8 102, .int .u8 101] 5)) = .ok (.slice (some ⟨w.heap.size, 0, none⟩) 4 4) (w.alloc (.cells jefC 5 (4, 5))) :=
  Lib.run_convert_bytes_const w 22 5 jefC 4 4 Tryd.underlying22 Tryd.underlying5

theorem conv_dat (w : World) : (convert 22 22 (.slice (some ⟨w.heap.size, 0, none⟩) 28 28)).run Tryd.prog (w.alloc (.cells #[.int .u8 119, .int .u8 104, .int .u8 97, .int .u8 116, .int .u8 32, .int .u8 100, .int .u8 111, .int .u8 32, .int .u8 121, .int .u8 97, .int .u8 32, .int .u8 119, .int .u8 97, .int .u8 110, .int .u8 116, .int .u8 32, .int .u8 102, .int .u8 111, .int .u8 114, .int .u8 32, .int .u8 110, .int .u8 111, .int .u8 116, .int .u8 104, .int .u8 105, .int .u8 110, .int .u8 103, .int .u8 63] 5)) = .ok (.slice (some ⟨w.heap.size, 0, none⟩) 28 28) (w.alloc (.cells datC 5 (28, 29))) :=
  Lib.run_convert_bytes_const w 22 5 datC 28 28 Tryd.underlying22 Tryd.underlying5

theorem live_call : ∃ f : Nat → Nat, f 0 = 91 ∧ f 1 = 220 ∧ f 31 = 67 ∧ ∀ w, Glob Hc Kc w → Calls Tryd.prog 14 #[.slice (some ⟨w.heap.size, 0, none⟩) 4 4, .slice (some ⟨w.heap.size + 1, 0, none⟩) 28 28] ((w.alloc (.cells jefC 5 (4, 5))).alloc (.cells datC 5 (28, 29)))
    fun e w' => e = .returned (.agg (cellsN .u8 32 f)) ∧ Below w.heap.size w w' := by
  obtain ⟨f, hf, h0, h1, h31⟩ := live_some
  refine ⟨f, h0, h1, h31, fun w hG => ?_⟩
  have hb1 : Below w.heap.size w (w.alloc (.cells jefC 5 (4, 5))) := (Below.refl _ _).alloc (Nat.le_refl _) _
  have hb2 : Below w.heap.size w ((w.alloc (.cells jefC 5 (4, 5))).alloc (.cells datC 5 (28, 29))) := hb1.alloc (by simp) _
  have e1 : (w.alloc (.cells jefC 5 (4, 5))).heap.size = w.heap.size + 1 := by simp
  have hd := dat_bytes (w.alloc (.cells jefC 5 (4, 5)))
  rw [e1] at hd
  have hj := (jef_bytes w).below ((Below.refl (w.alloc (.cells jefC 5 (4, 5))).heap.size _).alloc (Nat.le_refl _) (.cells datC 5 (28, 29))) (Nat.le_refl _)
  have h := hsum_one 4 28 (hG.below hb2 hG.1) Hc_lt jefM_lt datM_lt (Nat.le_refl _) (by decide) hj (Nat.le_refl _) (by decide) hd
  rw [hf] at h
  refine h.mono ?_
  rintro e w' ⟨rfl, hb⟩
  exact ⟨rfl, hb2.trans (hb.mono hb2.size)⟩

set_option maxRecDepth 100000 in
set_option maxHeartbeats 1600000 in
theorem halive_any (w : World) (hG : Glob Hc Kc w) : Calls Tryd.prog 15 #[] w fun e w' => e = .returned (.bool true) ∧ Below w.heap.size w w' := by
  obtain ⟨f, f0, f1, f31, hcall⟩ := live_call
  have hs := hcall w hG
  have N0 : Hid (f 0 = 91 ∧ f 1 = 220 ∧ f 31 = 67) := ⟨f0, f1, f31⟩
  have hc1 := conv_jef w
  have hc2 := conv_dat (w.alloc (.cells jefC 5 (4, 5)))
  have e1 : (w.alloc (.cells jefC 5 (4, 5))).heap.size = w.heap.size + 1 := by simp
  rw [e1] at hc2
  clear f0 f1 f31 hcall e1
  go_enter Tryd.func15, Tryd.ntmps15
  go_wp2_with (first
    | ((go_at_call 14)
       (refine hs.mono ?_)
       (rintro e w1 ⟨rfl, hb1⟩)
       (have hn1 : Has (w1.alloc (.cells (cellsN .u8 32 fun _ => 0) 23)) w1.heap.size 23 (cellsN .u8 32 fun _ => 0) := Has.new _ _ _)
       (clear hs hc1 hc2))
    | ((refine wpList_store_rowG rfl 23 _ _ rfl (w1.heap.size) (cellsN .u8 32 f) rfl rfl 23 _ hn1 (by rw [cellsN_size]; exact Tryd.size23) (by simp [cellsN_size]) (cellsN_one _ _ _) ?_)
       (intro w4 hw4)
       (have hA4 : Has w4 w1.heap.size 23 (cellsN .u8 32 f) := (by rw [hw4]; exact hn1.setRow _))
       (have hB4 : Below w.heap.size w w4 := (by rw [hw4]; exact below_setRow (hb1.alloc hb1.size _) hb1.size _))
       (have c0 := hA4.num 0 (by omega))
       (have c1 := hA4.num 1 (by omega))
       (have c2 := hA4.num 31 (by omega))
       (rw [N0.out.1] at c0)
       (rw [N0.out.2.1] at c1)
       (rw [N0.out.2.2] at c2)
       (clear hw4 hn1)))
  go_ret
  exact ⟨rfl, hB4⟩
end Go.Proofs.YtomefoijiiideaaDoor
