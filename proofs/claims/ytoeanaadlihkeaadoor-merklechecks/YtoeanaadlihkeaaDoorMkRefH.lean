/- The document's Hash of a sector. -/
import Derived.Test.YtoeanaadlihkeaaDoorMkLem
import Derived.Test.YtoeanaadlihkeaaDoorRefSum
namespace Go.Proofs.YtoeanaadlihkeaaDoor
open Go.ChangeShapes Go.WideShapes Go.ChangeAt Go.RowKit
set_option linter.unusedVariables false

theorem own_byte (w : World) (base kd : Nat) (hb : base ≤ w.heap.size) : (w.alloc (.cells #[.int .u8 (kd : Nat)] 5)).ownsRow base 5 1 (.slice (some ⟨w.heap.size, 0, none⟩) 1 1) 1 (bl (fun _ => kd) 1) := by
  have h := World.ownsRow_lit (base := base) (e := 5) (size := 1) w #[.int .u8 (kd : Nat)] 1 hb (by unfold maxLen; omega) rfl
  exact h

set_option maxRecDepth 100000 in
set_option maxHeartbeats 1600000 in
theorem rhash_any (kd : Nat) (f : Nat → Nat) (a : Option Addr) (c : Nat) (w : World) (hk : kd < 256) (hb : Bytes w a 64 f) (hf : ∀ j, f j < 256) (hc : 64 ≤ c) :
    Calls Tryd.prog 26 #[.int .u8 (kd : Nat), .slice a (64 : Nat) c] w fun e w' => e = .returned (.agg (cellsN .u8 32 (hsh kd f))) ∧ Below w.heap.size w w' := by
  have hN : Has (w.alloc (.cells (cellsN .u8 32 fun _ => 0) 28)) w.heap.size 28 (cellsN .u8 32 fun _ => 0) := Has.new _ _ _
  have hb0 : Below w.heap.size w (w.alloc (.cells (cellsN .u8 32 fun _ => 0) 28)) := (Below.refl _ _).alloc (Nat.le_refl _) _
  have hsz : (w.alloc (.cells (cellsN .u8 32 fun _ => 0) 28)).heap.size = w.heap.size + 1 := by simp
  have own1 := own_byte (w.alloc (.cells (cellsN .u8 32 fun _ => 0) 28)) (w.heap.size + 1) kd (by simp)
  rw [hsz] at own1
  have hb1 : Below (w.heap.size + 1) (w.alloc (.cells (cellsN .u8 32 fun _ => 0) 28)) ((w.alloc (.cells (cellsN .u8 32 fun _ => 0) 28)).alloc (.cells #[.int .u8 (kd : Nat)] 5)) := (Below.refl _ _).alloc (by simp) _
  have hB1 := (hb.below hb0 (Nat.le_refl _)).below hb1 (by simp)
  have hnil : a = none → (64 : Nat) = 0 ∧ c = 0 := by
    intro e
    rcases hb with h | ⟨b, off, e2, _⟩
    · omega
    · rw [e] at e2; cases e2
  go_enter Tryd.func26, Tryd.ntmps26
  go_wp2_with (first
    | ((at_builtin)
       (refine wpList_append_bytes rfl _ _ rfl (w.heap.size + 1) _ 1 (fun _ => kd) rfl own1 a 64 c f rfl hnil hB1 (by omega) (by simp) ?_)
       (intro v2 w2 own2 gr2)
       (have hb2 : Below (w.heap.size + 1) (w.alloc (.cells (cellsN .u8 32 fun _ => 0) 28)) w2 := hb1.grown gr2 (by simp) (fun k' h => (own1.lt k' h).1))
       (obtain ⟨va, vc, rfl, hvc, hvn, hvb, _⟩ := own_bytes own2)
       (have hs := rsum_any (cat (fun _ => kd) 1 f) 65 vc va w2 hvn hvb (cat_lt _ _ _ (fun _ => hk) hf) (by omega) hvc)
       (have hN2 := hN.below hb2 (by omega)))
    | ((go_at_call 34)
       (refine hs.mono ?_)
       (rintro e w3 ⟨rfl, hb3⟩)
       (have hN3 := hN2.below hb3 hN2.lt)
       (have hB3 : Below w.heap.size w w3 := hb0.trans ((hb2.mono (by omega)).trans (hb3.mono (by have := hb2.size; omega)))))
    | ((refine wpList_store_rowG rfl 28 _ _ rfl (w.heap.size) (cellsN .u8 32 (SHA Hc Kc (cat (fun _ => kd) 1 f) 65)) rfl rfl 28 _ hN3 (by rw [cellsN_size]; exact Tryd.size28) (by simp [cellsN_size]) (cellsN_one _ _ _) ?_)
       (intro w6 hw6)
       (have hR6 : Has w6 w.heap.size 28 (cellsN .u8 32 (SHA Hc Kc (cat (fun _ => kd) 1 f) 65)) := (by rw [hw6]; exact hN3.setRow _))
       (have hB6 : Below w.heap.size w w6 := (by rw [hw6]; exact below_setRow hB3 (Nat.le_refl _) _))
       (clear hw6)))
  exact bodyPost_ret (results_cell_row rfl _ _ (w.heap.size) 28 _ (0, 0) _ rfl hR6 Tryd.underlying28 rfl (by rw [cellsN_size]; exact Tryd.size28)) rfl ⟨rfl, hB6⟩
end Go.Proofs.YtoeanaadlihkeaaDoor
