/- AreaOverlaps: any ranges, at most 60 of them. -/
import Derived.Test.YtacllicemnmpmaaArLawS
namespace Go.Proofs.Ytacllicemnmpmaa
open Go.ChangeShapes Go.WideShapes Go.ChangeAt Go.RowKit Go.Shelf
set_option linter.unusedVariables false

theorem run_min60 {o : Oper} {a : Act} (x : Operand) (ho : o.op = .call { callee := .builtin .min, args := #[x, .const (.int .i64 60)], argTypes := #[3, 3] }) (n L : Nat) (hL : L = min n 60) (hx : a.eval x = .int .i64 (n : Nat)) (w : World) : (execOp a.eval o).run Try.prog w = .ok (.value (.int .i64 (L : Nat))) w := by
  unfold execOp
  simp only [ho, resolve, invoke, builtin, List.map_toArray, List.map_cons, List.map_nil, hx]
  by_cases h : n < 60
  · have e : L = n := by omega
    have h' : (n : Int) < 60 := by omega
    rw [e]
    go_simp
    omega
  · have e : L = 60 := by omega
    have h' : ¬ (n : Int) < 60 := by omega
    rw [e]
    go_simp
    omega

set_option maxRecDepth 100000 in
set_option maxHeartbeats 2000000 in
theorem overlaps_walk (a : Option Addr) (len cap : Nat) (F : Nat → R3) (w : World) (hl : Rng w a len F) (h1 : len ≤ cap) (h2 : cap ≤ maxLen) : Calls Try.prog 4 #[.slice a len cap] w fun e w' => e = .returned (.bool true) ∧ Below w.heap.size w w' := by
  unfold maxLen at h2
  obtain ⟨L, hL⟩ : ∃ L, L = min len 60 := ⟨_, rfl⟩
  have hLl : L ≤ len := by omega
  have hL6 : L ≤ 60 := by omega
  have HL : Hid (L = min len 60) := hL
  have hO := Overlap_c a L cap F w (by omega) (by omega) (by omega) (hl.to hLl)
  have HO : Hid (Calls Try.prog 15 #[.slice a L cap] w fun e w' => ∃ i j : Int, e = .returned (.tuple #[.int .i64 i, .int .i64 j]) ∧ Ov L (SS F) i j ∧ Below w.heap.size w w') := hO
  have HR : Hid (∀ W, Below w.heap.size w W → Calls Try.prog 16 #[.slice a L cap] W fun e w' => ∃ i j : Int, e = .returned (.tuple #[.int .i64 i, .int .i64 j]) ∧ Ov L (SS F) i j ∧ Below W.heap.size W w') := fun W hW => rOverlap_c a L cap F W (by omega) ((hl.to hLl).below hW (Nat.le_refl _))
  clear hL hO hl
  go_enter Try.func4, Try.ntmps4
  go_wp2_with (first
    | (refine wpList_is (some 11) (.int .i64 (L : Nat)) rfl (by rfl) (run_min60 _ rfl len L HL.out rfl _) ?_)
    | ((go_at_call 15)
       (refine HO.out.mono ?_)
       (rintro e w1 ⟨i, j, rfl, g1, b1⟩))
    | ((go_at_call 16)
       (refine (HR.out w1 b1).mono ?_)
       (rintro e w2 ⟨p, q, rfl, g2, b2'⟩)
       (obtain ⟨rfl, rfl⟩ := g1.eq g2 (fun _ _ _ _ => rfl)))
    | ((go_at_call 14)
       (refine (alive_c _).mono ?_)
       (rintro x w7 ⟨rfl, g7⟩)))
  go_ret
  exact ⟨rfl, b2 (b2 b1 b2') g7⟩
end Go.Proofs.Ytacllicemnmpmaa
