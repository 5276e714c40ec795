/- The reference of layer 10: the token at a place: cases. -/
import Derived.Test.YtpckmllmjdafpaaGreatDoorLyOneA
namespace Go.Proofs.YtpckmllmjdafpaaGreatDoor
open Go.ChangeShapes Go.WideShapes Go.ChangeAt Go.RowKit
set_option linter.unusedVariables false

set_option maxRecDepth 100000 in
set_option maxHeartbeats 2000000 in
theorem rone_word {w : World} {l : List UInt8} {i : Nat} (hi : i < l.length) (hl : l.length ≤ 2000) (k1 : isSml l[i] = true) (h : ¬ 16 < cnt isWdy (l.drop i)) :
    Calls Tryz.prog 60 #[.string (bs l), .int .i64 (i : Nat)] w (ROneR w i ⟨0, (l.drop i).take (cnt isWdy (l.drop i)), 0⟩ (i + cnt isWdy (l.drop i)) 0 (-1)) := by
  have hsz := bs_size l
  have h1 : i < (bs l).size := by omega
  have h2 : ((i : Nat) : Int) < ((bs l).size : Int) := by omega
  have hi2 : i ≤ 2000 := by omega
  have hz2 : (bs l).size ≤ 2000 := by omega
  have k2 := sml_fig k1
  have hc1 : isSml ((bs l)[i]'h1) = true := by rw [bs_get]; exact k1
  have hs1 := rletter_tells ((bs l)[i]'h1)
  rw [hc1] at hs1
  clear hc1 k1
  have hc2 : isFig ((bs l)[i]'h1) = false := by rw [bs_get]; exact k2
  have hs2 := rfigure_tells ((bs l)[i]'h1)
  rw [hc2] at hs2
  clear hc2 k2
  have hen := fun W => rend_word l i W hl (by omega)
  obtain ⟨J, hJ⟩ : ∃ J, J = (i + cnt isWdy (l.drop i)) := ⟨_, rfl⟩
  rw [← hJ] at hen ⊢
  have hJl : J ≤ l.length := by
    have := cnt_le isWdy (l.drop i)
    rw [List.length_drop] at this
    omega
  have hJ2 : J ≤ 2000 := by omega
  have g1 : ¬ (16 : Int) < ((J : Nat) : Int) - ((i : Nat) : Int) := by omega
  have g2 : ((i : Nat) : Int) ≤ ((J : Nat) : Int) := by omega
  have g3 : ((J : Nat) : Int) ≤ ((bs l).size : Int) := by omega
  have hx : (bs l).extract i J = bs ((l.drop i).take (cnt isWdy (l.drop i))) := by rw [bs_extract, hJ, Nat.add_sub_cancel_left]
  generalize (l.drop i).take (cnt isWdy (l.drop i)) = X at hx ⊢
  clear hJ
  have HS : Hid ((bs l).size = l.length) := hsz
  clear hsz
  go_enter Tryz.func60, Tryz.ntmps60
  go_wp2_with (first
    | (go_at_call 77; refine (hs1 _).mono ?_; rintro e w' ⟨rfl, rfl⟩)
    | (go_at_call 78; refine (hs2 _).mono ?_; rintro e w' ⟨rfl, rfl⟩)
    | (go_at_call 79; refine (hen _).mono ?_; rintro e w' ⟨rfl, rfl⟩))
  exact bodyPost_ret (v := .tuple #[.agg (rtkv ⟨0, X, 0⟩ i), .int .i64 ((J : Nat) : Int), .int .i64 0, .int .i64 (-1)]) (by simp [results, Tryz.results60, go_sem, rtkv]) rfl ⟨rfl, two_below _⟩

set_option maxRecDepth 100000 in
set_option maxHeartbeats 2000000 in
theorem rone_wordL {w : World} {l : List UInt8} {i : Nat} (hi : i < l.length) (hl : l.length ≤ 2000) (k1 : isSml l[i] = true) (h : 16 < cnt isWdy (l.drop i)) :
    Calls Tryz.prog 60 #[.string (bs l), .int .i64 (i : Nat)] w (ROneR w i ⟨0, [], 0⟩ (i + cnt isWdy (l.drop i)) 102 (i : Nat)) := by
  have hsz := bs_size l
  have h1 : i < (bs l).size := by omega
  have h2 : ((i : Nat) : Int) < ((bs l).size : Int) := by omega
  have hi2 : i ≤ 2000 := by omega
  have hz2 : (bs l).size ≤ 2000 := by omega
  have k2 := sml_fig k1
  have hc1 : isSml ((bs l)[i]'h1) = true := by rw [bs_get]; exact k1
  have hs1 := rletter_tells ((bs l)[i]'h1)
  rw [hc1] at hs1
  clear hc1 k1
  have hc2 : isFig ((bs l)[i]'h1) = false := by rw [bs_get]; exact k2
  have hs2 := rfigure_tells ((bs l)[i]'h1)
  rw [hc2] at hs2
  clear hc2 k2
  have hen := fun W => rend_word l i W hl (by omega)
  obtain ⟨J, hJ⟩ : ∃ J, J = (i + cnt isWdy (l.drop i)) := ⟨_, rfl⟩
  rw [← hJ] at hen ⊢
  have hJl : J ≤ l.length := by
    have := cnt_le isWdy (l.drop i)
    rw [List.length_drop] at this
    omega
  have hJ2 : J ≤ 2000 := by omega
  have g1 : (16 : Int) < ((J : Nat) : Int) - ((i : Nat) : Int) := by omega
  clear hJ
  have HS : Hid ((bs l).size = l.length) := hsz
  clear hsz
  go_enter Tryz.func60, Tryz.ntmps60
  go_wp2_with (first
    | (go_at_call 77; refine (hs1 _).mono ?_; rintro e w' ⟨rfl, rfl⟩)
    | (go_at_call 78; refine (hs2 _).mono ?_; rintro e w' ⟨rfl, rfl⟩)
    | (go_at_call 79; refine (hen _).mono ?_; rintro e w' ⟨rfl, rfl⟩))
  exact bodyPost_ret (v := .tuple #[.agg (rtkv ⟨0, [], 0⟩ i), .int .i64 ((J : Nat) : Int), .int .i64 102, .int .i64 (i : Nat)]) (by simp [results, Tryz.results60, go_sem, rtkv, rbs_nil]) rfl ⟨rfl, two_below _⟩
end Go.Proofs.YtpckmllmjdafpaaGreatDoor
