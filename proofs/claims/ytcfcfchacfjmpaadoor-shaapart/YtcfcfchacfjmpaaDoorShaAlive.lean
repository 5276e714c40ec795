/- The law's own 'alive': the live question's answer. -/
import Derived.Test.YtcfcfchacfjmpaaDoorShaEval
import Derived.Lib.SlBytesConst
namespace Go.Proofs.YtcfcfchacfjmpaaDoor
open Go.ChangeShapes Go.WideShapes Go.ChangeAt Go.RowKit

theorem Hc_lt : ∀ j, j < 8 → Hc j < 4294967296 := by
  intro j hj
  rcases (show j = 0 ∨ j = 1 ∨ j = 2 ∨ j = 3 ∨ j = 4 ∨ j = 5 ∨ j = 6 ∨ j = 7 from by omega) with rfl | rfl | rfl | rfl | rfl | rfl | rfl | rfl <;> decide

theorem nulM_lt (j : Nat) : nulM j < 256 := by show 0 < 256; decide
theorem abcM_lt (j : Nat) : abcM j < 256 := by unfold abcM; split <;> (try split) <;> (try split) <;> omega

theorem nul_sum (w : World) (hG : Glob Hc Kc w) : Calls Tryd.prog 8 #[.slice none 0 0] w fun e w' => e = .returned (.agg (cellsN .u8 32 (SHA Hc Kc nulM 0))) ∧ Below w.heap.size w w' :=
  sum_any 0 hG Hc_lt nulM_lt (Nat.le_refl _) (by decide) (.inl rfl)

theorem abc_bytes (w : World) : Bytes (w.alloc (.cells #[.int .u8 97, .int .u8 98, .int .u8 99] 5 (3, 4))) (some ⟨w.heap.size, 0, none⟩) 3 abcM := by
  refine .inr ⟨w.heap.size, 0, rfl, by simp, ?_⟩
  intro j hj
  rcases (show j = 0 ∨ j = 1 ∨ j = 2 from by omega) with rfl | rfl | rfl <;> (rw [World.cell?_alloc_mark]; rfl)

theorem conv_abc (w : World) : (convert 26 26 (.slice (some ⟨w.heap.size, 0, none⟩) 3 3)).run Tryd.prog (w.alloc (.cells #[.int .u8 97, .int .u8 98, .int .u8 99] 5)) = .ok (.slice (some ⟨w.heap.size, 0, none⟩) 3 3) (w.alloc (.cells #[.int .u8 97, .int .u8 98, .int .u8 99] 5 (3, 4))) :=
  Lib.run_convert_bytes_const w 26 5 #[.int .u8 97, .int .u8 98, .int .u8 99] 3 3 Tryd.underlying26 Tryd.underlying5

theorem abc_sum (w : World) (hG : Glob Hc Kc w) : Calls Tryd.prog 8 #[.slice (some ⟨w.heap.size, 0, none⟩) 3 3] (w.alloc (.cells #[.int .u8 97, .int .u8 98, .int .u8 99] 5 (3, 4)))
    fun e w' => e = .returned (.agg (cellsN .u8 32 (SHA Hc Kc abcM 3))) ∧ Below w.heap.size w w' := by
  refine (sum_any 3 (hG.alloc _) Hc_lt abcM_lt (Nat.le_refl _) (by decide) (abc_bytes w)).mono ?_
  rintro e w' ⟨rfl, hb⟩
  exact ⟨rfl, ((Below.refl _ _).alloc (Nat.le_refl _) _).trans (hb.mono (by simp))⟩

theorem nul_some : ∃ f : Nat → Nat, f 0 = 227 ∧ f 1 = 176 ∧ ∀ w, Glob Hc Kc w → Calls Tryd.prog 8 #[.slice none 0 0] w fun e w' => e = .returned (.agg (cellsN .u8 32 f)) ∧ Below w.heap.size w w' :=
  ⟨SHA Hc Kc nulM 0, nul_0, nul_1, nul_sum⟩

theorem abc_some : ∃ f : Nat → Nat, f 0 = 186 ∧ f 31 = 173 ∧ ∀ w, Glob Hc Kc w → Calls Tryd.prog 8 #[.slice (some ⟨w.heap.size, 0, none⟩) 3 3] (w.alloc (.cells #[.int .u8 97, .int .u8 98, .int .u8 99] 5 (3, 4)))
    fun e w' => e = .returned (.agg (cellsN .u8 32 f)) ∧ Below w.heap.size w w' :=
  ⟨SHA Hc Kc abcM 3, abc_0, abc_31, abc_sum⟩

set_option maxRecDepth 100000 in
set_option maxHeartbeats 1600000 in
theorem alive_any (w : World) (hG : Glob Hc Kc w) : Calls Tryd.prog 5 #[] w fun e w' => e = .returned (.bool true) ∧ Below w.heap.size w w' := by
  obtain ⟨f1, n0, n1, hnul1⟩ := nul_some
  obtain ⟨f2, a0, a31, habc2⟩ := abc_some
  have hnul := hnul1 w hG
  have N0 : Hid (f1 0 = 227 ∧ f1 1 = 176 ∧ f2 0 = 186 ∧ f2 31 = 173) := ⟨n0, n1, a0, a31⟩
  have HA : Hid (∀ w, Glob Hc Kc w → Calls Tryd.prog 8 #[.slice (some ⟨w.heap.size, 0, none⟩) 3 3] (w.alloc (.cells #[.int .u8 97, .int .u8 98, .int .u8 99] 5 (3, 4)))
    fun e w' => e = .returned (.agg (cellsN .u8 32 f2)) ∧ Below w.heap.size w w') := habc2
  clear n0 n1 a0 a31 hnul1 habc2
  go_enter Tryd.func5, Tryd.ntmps5
  go_wp2_with (first
    | ((go_at_call 8)
       (have _tok := hnul)
       (refine hnul.mono ?_)
       (rintro e w1 ⟨rfl, hb1⟩)
       (have hn1 : Has (w1.alloc (.cells (cellsN .u8 32 fun _ => 0) 31)) w1.heap.size 31 (cellsN .u8 32 fun _ => 0) := Has.new _ _ _)
       (clear hnul _tok))
    | ((refine wpList_store_rowG rfl 31 _ _ rfl (w1.heap.size) (cellsN .u8 32 (f1)) rfl rfl 31 _ hn1 (by rw [cellsN_size]; exact Tryd.size31) (by simp [cellsN_size]) (cellsN_one _ _ _) ?_)
       (intro w2 hw2)
       (have hA2 : Has w2 w1.heap.size 31 (cellsN .u8 32 (f1)) := (by rw [hw2]; exact hn1.setRow _))
       (have hB2 : Below w.heap.size w w2 := (by rw [hw2]; exact below_setRow (hb1.alloc hb1.size _) hb1.size _))
       (have habc := HA.out w2 (hG.below hB2 hG.1))
       (have hconv := conv_abc w2)
       (clear hw2 hn1))
    | ((go_at_call 8)
       (refine habc.mono ?_)
       (rintro e w3 ⟨rfl, hb3⟩)
       (have hA3 := hA2.below hb3 hA2.lt)
       (have hB3 := hB2.trans (hb3.mono hB2.size))
       (have hn3 : Has (w3.alloc (.cells (cellsN .u8 32 fun _ => 0) 31)) w3.heap.size 31 (cellsN .u8 32 fun _ => 0) := Has.new _ _ _)
       (clear habc hb3))
    | ((refine wpList_store_rowG rfl 31 _ _ rfl (w3.heap.size) (cellsN .u8 32 (f2)) rfl rfl 31 _ hn3 (by rw [cellsN_size]; exact Tryd.size31) (by simp [cellsN_size]) (cellsN_one _ _ _) ?_)
       (intro w4 hw4)
       (have hA4 : Has w4 w3.heap.size 31 (cellsN .u8 32 (f2)) := (by rw [hw4]; exact hn3.setRow _))
       (have hC4 : Has w4 w1.heap.size 31 (cellsN .u8 32 (f1)) := (by rw [hw4]; exact (hA3.alloc _).setRow_other (by have := hA3.lt; omega) _))
       (have hB4 : Below w.heap.size w w4 := (by rw [hw4]; exact below_setRow (hB3.alloc hB3.size _) hB3.size _))
       (have c0 := hC4.num 0 (by omega))
       (have c1 := hC4.num 1 (by omega))
       (have c2 := hA4.num 0 (by omega))
       (have c3 := hA4.num 31 (by omega))
       (rw [N0.out.1] at c0)
       (rw [N0.out.2.1] at c1)
       (rw [N0.out.2.2.1] at c2)
       (rw [N0.out.2.2.2] at c3)
       (clear hw4 hn3)))
  go_ret
  exact ⟨rfl, hB4⟩
end Go.Proofs.YtcfcfchacfjmpaaDoor
