/- The document's Full. -/
import Derived.Test.YtancebpjfbbcaaaCcLastM
import Derived.Test.YtancebpjfbbcaaaBasSame
namespace Go.Proofs.Ytancebpjfbbcaaa
open Go.ChangeShapes Go.WideShapes Go.ChangeAt Go.RowKit
set_option linter.unusedVariables false

theorem pick_fullC (b : Nat → Nat) (L : Nat) : pickF b L = full b L := rfl

set_option maxRecDepth 100000 in
theorem full_anyC (b : Nat → Nat) (L c : Nat) (a : Option Addr) (w : World) (hL : L ≤ maxLen) (hb : Bytes w a L b) :
    Calls Try.prog 42 #[.slice a L c] w fun e w' => e = .returned (.slice (some ⟨w.heap.size, 0, none⟩) 64 64) ∧ Has w' w.heap.size 5 (cellsN .u8 64 (full b L)) ∧ Below w.heap.size w w' := by
  unfold maxLen at hL
  obtain ⟨w1, cs, hH1, hb1, hmk, s1, s2, s3, s4, s5⟩ := pick_words b L 64 c a w hb (by omega)
  have S5 : Hid _ := s5
  clear s5
  go_enter Try.func42, Try.ntmps42
  go_wp2_with (first
    | ((at_make)
       (refine wpList_make6 rfl _ (hmk _ _ _ _ rfl rfl rfl) ?_))
    | ((refine wpList_copy_splice rfl (.tmp 5) (.tmp 6) 39 39 rfl 5 Try.underlying39 (by kernel_rfl) (some ⟨w.heap.size, 0, none⟩) a 64 64 L c rfl rfl w.heap.size 0 (cellsN .u8 64 fun _ => 0).toList 5 hH1 cs s1 s2 s3 s4 w.heap.size w hb1 (Nat.le_refl _) ?_)
       (intro w5 hg5 hb5)
       (have hH5 : Has w5 w.heap.size 5 (cellsN .u8 64 (full b L)) := (by
          have hh := hg5.out
          rw [S5.out] at hh
          exact hh))
       (clear hg5)))
  go_ret
  exact ⟨rfl, hH5, hb5⟩
end Go.Proofs.Ytancebpjfbbcaaa
