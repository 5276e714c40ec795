/- The reference of layer 10: the token at a place: cases. -/
import Derived.Test.YtpckmllmjdafpaaGreatDoorLyOneA
namespace Go.Proofs.YtpckmllmjdafpaaGreatDoor
open Go.ChangeShapes Go.WideShapes Go.ChangeAt Go.RowKit
set_option linter.unusedVariables false

set_option maxRecDepth 100000 in
set_option maxHeartbeats 2000000 in
theorem rone_numL {w : World} {l : List UInt8} {i : Nat} (hi : i < l.length) (hl : l.length ≤ 2000) (k1 : isSml l[i] = false) (k2 : isFig l[i] = true) (h : 9 < cnt isFig (l.drop i)) :
    Calls Tryz.prog 60 #[.string (bs l), .int .i64 (i : Nat)] w (ROneR w i ⟨0, [], 0⟩ (i + cnt isFig (l.drop i)) 102 (i : Nat)) := by
  have hsz := bs_size l
  have h1 : i < (bs l).size := by omega
  have h2 : ((i : Nat) : Int) < ((bs l).size : Int) := by omega
  have hi2 : i ≤ 2000 := by omega
  have hz2 : (bs l).size ≤ 2000 := by omega
  have hc1 : isSml ((bs l)[i]'h1) = false := by rw [bs_get]; exact k1
  have hs1 := rletter_tells ((bs l)[i]'h1)
  rw [hc1] at hs1
  clear hc1 k1
  have hc2 : isFig ((bs l)[i]'h1) = true := by rw [bs_get]; exact k2
  have hs2 := rfigure_tells ((bs l)[i]'h1)
  rw [hc2] at hs2
  clear hc2 k2
  have hen := fun W => rend_figure l i W hl (by omega)
  obtain ⟨J, hJ⟩ : ∃ J, J = (i + cnt isFig (l.drop i)) := ⟨_, rfl⟩
  rw [← hJ] at hen ⊢
  have hJl : J ≤ l.length := by
    have := cnt_le isFig (l.drop i)
    rw [List.length_drop] at this
    omega
  have hJ2 : J ≤ 2000 := by omega
  have hba := fun W => rbare_c l J W hl hJl
  have g1 : (9 : Int) < ((J : Nat) : Int) - ((i : Nat) : Int) := by omega
  generalize (!letAt (l.drop J)) = bb at hba
  clear hJ
  have HS : Hid ((bs l).size = l.length) := hsz
  clear hsz
  go_enter Tryz.func60, Tryz.ntmps60
  go_wp2_with (first
    | (go_at_call 77; refine (hs1 _).mono ?_; rintro e w' ⟨rfl, rfl⟩)
    | (go_at_call 78; refine (hs2 _).mono ?_; rintro e w' ⟨rfl, rfl⟩)
    | (go_at_call 79; refine (hen _).mono ?_; rintro e w' ⟨rfl, rfl⟩)
    | (go_at_call 80; refine (hba _).mono ?_; rintro e w' ⟨rfl, rfl⟩))
  exact bodyPost_ret (v := .tuple #[.agg (rtkv ⟨0, [], 0⟩ i), .int .i64 ((J : Nat) : Int), .int .i64 102, .int .i64 (i : Nat)]) (by simp [results, Tryz.results60, go_sem, rtkv, rbs_nil]) rfl ⟨rfl, two_below _⟩

set_option maxRecDepth 100000 in
set_option maxHeartbeats 2000000 in
theorem rone_numB {w : World} {l : List UInt8} {i : Nat} (hi : i < l.length) (hl : l.length ≤ 2000) (k1 : isSml l[i] = false) (k2 : isFig l[i] = true) (h : ¬ 9 < cnt isFig (l.drop i)) (k3 : letAt (l.drop (i + cnt isFig (l.drop i))) = true) :
    Calls Tryz.prog 60 #[.string (bs l), .int .i64 (i : Nat)] w (ROneR w i ⟨0, [], 0⟩ (i + cnt isFig (l.drop i)) 101 ((i + cnt isFig (l.drop i) : Nat) : Int)) := by
  have hsz := bs_size l
  have h1 : i < (bs l).size := by omega
  have h2 : ((i : Nat) : Int) < ((bs l).size : Int) := by omega
  have hi2 : i ≤ 2000 := by omega
  have hz2 : (bs l).size ≤ 2000 := by omega
  have hc1 : isSml ((bs l)[i]'h1) = false := by rw [bs_get]; exact k1
  have hs1 := rletter_tells ((bs l)[i]'h1)
  rw [hc1] at hs1
  clear hc1 k1
  have hc2 : isFig ((bs l)[i]'h1) = true := by rw [bs_get]; exact k2
  have hs2 := rfigure_tells ((bs l)[i]'h1)
  rw [hc2] at hs2
  clear hc2 k2
  have hen := fun W => rend_figure l i W hl (by omega)
  obtain ⟨J, hJ⟩ : ∃ J, J = (i + cnt isFig (l.drop i)) := ⟨_, rfl⟩
  rw [← hJ] at hen ⊢
  have hJl : J ≤ l.length := by
    have := cnt_le isFig (l.drop i)
    rw [List.length_drop] at this
    omega
  have hJ2 : J ≤ 2000 := by omega
  have hba := fun W => rbare_c l J W hl hJl
  rw [show letAt (l.drop J) = true by rw [hJ]; exact k3] at hba
  have g1 : ¬ (9 : Int) < ((J : Nat) : Int) - ((i : Nat) : Int) := by omega
  clear hJ k3
  have HS : Hid ((bs l).size = l.length) := hsz
  clear hsz
  go_enter Tryz.func60, Tryz.ntmps60
  go_wp2_with (first
    | (go_at_call 77; refine (hs1 _).mono ?_; rintro e w' ⟨rfl, rfl⟩)
    | (go_at_call 78; refine (hs2 _).mono ?_; rintro e w' ⟨rfl, rfl⟩)
    | (go_at_call 79; refine (hen _).mono ?_; rintro e w' ⟨rfl, rfl⟩)
    | (go_at_call 80; refine (hba _).mono ?_; rintro e w' ⟨rfl, rfl⟩))
  exact bodyPost_ret (v := .tuple #[.agg (rtkv ⟨0, [], 0⟩ i), .int .i64 ((J : Nat) : Int), .int .i64 101, .int .i64 ((J : Nat) : Int)]) (by simp [results, Tryz.results60, go_sem, rtkv, rbs_nil]) rfl ⟨rfl, two_below _⟩
end Go.Proofs.YtpckmllmjdafpaaGreatDoor
