/- The live question. -/
import Derived.Test.YtbiicdehgogikaaCdGrp
import Derived.Test.YtbiicdehgogikaaCdNumb
namespace Go.Proofs.Ytbiicdehgogikaa
open Go.ChangeShapes Go.WideShapes Go.ChangeAt Go.RowKit
set_option linter.unusedVariables false

def aliveV (g : Nat) : Nat → WV := fun _ => ⟨1, 258, some ⟨g, 0, none⟩, 64, 64, fun _ => 0⟩

theorem aliveV_in {w : World} {g : Nat} (h : Has w g 5 (cellsN .u8 64 fun _ => 0)) : Wl (w.alloc (.cells #[.int .i64 1, .int .i64 258, .slice (some ⟨g, 0, none⟩) 64 64] 49)) (some ⟨w.heap.size, 0, none⟩) 1 (aliveV g) := by
  refine ⟨by unfold maxLen; omega, fun i hi => ?_⟩
  obtain rfl : i = 0 := by omega
  have hn : Has (w.alloc (.cells #[.int .i64 1, .int .i64 258, .slice (some ⟨g, 0, none⟩) 64 64] 49)) w.heap.size 49 #[.int .i64 1, .int .i64 258, .slice (some ⟨g, 0, none⟩) 64 64] := Has.new _ _ _
  exact ⟨w.heap.size, 0, rfl, by simp, hn.cell 0, hn.cell 1, hn.cell 2, by show i64ok 1; unfold i64ok; omega, by show i64ok 258; unfold i64ok; omega, Nat.le_refl 64, by show 64 ≤ maxLen; unfold maxLen; omega, (fun e => by cases e), (h.alloc _).bytes, fun _ => by show 0 < 256; omega⟩

theorem aliveV_ok (g : Nat) : okG 1 (aliveV g) := ⟨by omega, fun i _ => ⟨⟨by show (0 : Int) ≤ 1; omega, by show (1 : Int) < 8; omega⟩, ⟨by show (0 : Int) ≤ 258; omega, by show (258 : Int) < 2048; omega⟩, rfl⟩⟩

theorem aliveV_1 (g : Nat) : gb 1 (aliveV g) 1 = 1 := by rfl
theorem aliveV_2 (g : Nat) : gb 1 (aliveV g) 2 = 1 := by rfl
theorem aliveV_5 (g : Nat) : gb 1 (aliveV g) 5 = 1 := by rfl
theorem aliveV_6 (g : Nat) : gb 1 (aliveV g) 6 = 2 := by rfl
theorem alive_7 : sfld (fun _ => 0) 1 4 (nbs 5 4) 7 = 5 := by rfl

theorem inF_1 : inF 64 ((1 : Nat) : Int) ((4 : Nat) : Int) := ⟨rfl, by decide, by decide, by decide, by decide⟩

set_option maxRecDepth 100000 in
set_option maxHeartbeats 2000000 in
theorem alive_any (w : World) : Calls Try.prog 15 #[] w fun e w' => e = .returned (.bool true) ∧ Below w.heap.size w w' := by
  obtain ⟨w1, hH1, hb1, hrun1⟩ := make_has 64 (by decide) w
  have hgr := group_ok 1 1 (aliveV w.heap.size) _ _ (aliveV_in hH1) (aliveV_ok _)
  have hb1' : Below w.heap.size w (w1.alloc (.cells #[.int .i64 1, .int .i64 258, .slice (some ⟨w.heap.size, 0, none⟩) 64 64] 49)) := hb1.alloc hb1.size _
  go_enter Try.func15, Try.ntmps15
  go_wp2_with (first
    | ((go_at_call 9)
       (refine hgr.mono ?_)
       (rintro e w2 ⟨hb2, v, rfl, ho2⟩)
       (clear hgr)
       (obtain ⟨g2, cap2, rfl, hlt2, _⟩ := ho2.form (by decide))
       (have hB2 : Bytes w2 (some ⟨g2, 0, none⟩) 71 (gb 1 (aliveV w.heap.size)) := by
          (obtain ⟨_, _, e, _, _, h, _⟩ := own_bytes ho2)
          (simp only [Value.slice.injEq] at e)
          (obtain ⟨rfl, _, rfl⟩ := e)
          (exact h))
       (have hb02 := hb1'.trans (hb2.mono hb1'.size))
       (obtain ⟨w3, hH3, hb3, hrun3⟩ := make_has 64 (by decide) w2)
       (have hsn := setn_yes (w := w3) 1 5 hH3.bytes (Nat.le_refl _) inF_1 (by decide))
       (have hb03 := hb02.trans (hb3.mono hb02.size)))
    | ((refine at_dst 6 rfl ?_)
       (refine wpList_make6 rfl _ (hrun1 _ _ _ _ rfl rfl rfl) ?_))
    | ((refine at_dst 13 rfl ?_)
       (refine wpList_make6 rfl _ (hrun3 _ _ _ _ rfl rfl rfl) ?_))
    | ((go_at_call 22)
       (refine hsn.mono ?_)
       (rintro e w4 ⟨hb4, v, rfl, ho4⟩)
       (clear hsn)
       (obtain ⟨g4, cap4, rfl, hlt4, _⟩ := ho4.form (by decide))
       (have hB4 : Bytes w4 (some ⟨g4, 0, none⟩) 64 (sfld (fun _ => 0) 1 4 (nbs 5 4)) := by
          (obtain ⟨_, _, e, _, _, h, _⟩ := own_bytes ho4)
          (simp only [Value.slice.injEq] at e)
          (obtain ⟨rfl, _, rfl⟩ := e)
          (exact h))
       (have hb04 := hb03.trans (hb4.mono hb03.size))
       (have hC2 := (hB2.below hb3 (Nat.le_refl _)).below hb4 (Nat.le_refl _))
       (obtain ⟨_, _, eC, _, hC⟩ := hC2.resolve_left (by decide))
       (obtain ⟨rfl, rfl⟩ : _ ∧ _ := by (simp only [Option.some.injEq, Addr.mk.injEq, and_true] at eC; exact eC))
       (obtain ⟨_, _, eD, _, hD⟩ := hB4.resolve_left (by decide))
       (obtain ⟨rfl, rfl⟩ : _ ∧ _ := by (simp only [Option.some.injEq, Addr.mk.injEq, and_true] at eD; exact eD))
       (have c1 := hC 1 (by decide))
       (have c2 := hC 2 (by decide))
       (have c5 := hC 5 (by decide))
       (have c6 := hC 6 (by decide))
       (have c7 := hD 7 (by decide))
       (rw [aliveV_1] at c1)
       (rw [aliveV_2] at c2)
       (rw [aliveV_5] at c5)
       (rw [aliveV_6] at c6)
       (rw [alive_7] at c7)
       (simp only [Nat.zero_add] at c1 c2 c5 c6 c7)
       (clear hC hD hC2 hB2 hB4)))
  go_ret
  exact ⟨rfl, hb04⟩
end Go.Proofs.Ytbiicdehgogikaa
