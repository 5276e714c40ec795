/- The reference of layer 10: the token at a place: cases. -/
import Derived.Test.YtpckmllmjdafpaaGreatDoorLyOneA
namespace Go.Proofs.YtpckmllmjdafpaaGreatDoor
open Go.ChangeShapes Go.WideShapes Go.ChangeAt Go.RowKit
set_option linter.unusedVariables false

set_option maxRecDepth 100000 in
set_option maxHeartbeats 2000000 in
theorem rone_hexN {w : World} {l : List UInt8} {i : Nat} (hi : i < l.length) (hl : l.length ≤ 2000) (k4 : l[i] = 36) (h : cnt isHxy (l.drop (i + 1)) = 0) :
    Calls Tryz.prog 60 #[.string (bs l), .int .i64 (i : Nat)] w (ROneR w i ⟨0, [], 0⟩ (i + 1) 101 ((i + 1 : Nat) : Int)) := by
  have hsz := bs_size l
  have h1 : i < (bs l).size := by omega
  have h2 : ((i : Nat) : Int) < ((bs l).size : Int) := by omega
  have hi2 : i ≤ 2000 := by omega
  have hz2 : (bs l).size ≤ 2000 := by omega
  have k4' : (bs l)[i]'h1 = 36 := by rw [bs_get]; exact k4
  have k1 : isSml ((bs l)[i]'h1) = false := by rw [k4']; decide
  have k2 : isFig ((bs l)[i]'h1) = false := by rw [k4']; decide
  have hs1 := rletter_tells ((bs l)[i]'h1)
  rw [k1] at hs1
  have hs2 := rfigure_tells ((bs l)[i]'h1)
  rw [k2] at hs2
  have hv : ((((bs l)[i]'h1).toNat : Nat) : Int) = 36 := by rw [k4']; rfl
  rw [hv] at hs1 hs2
  clear k1 k2 k4 k4'
  have hen := fun W => rend_hex l (i + 1) W hl (by omega)
  rw [h, Nat.add_zero, show (((i + 1 : Nat) : Nat) : Int) = ((i : Nat) : Int) + 1 by omega] at hen
  have hba := fun W => rbare_c l (i + 1) W hl (by omega)
  rw [show (((i + 1 : Nat) : Nat) : Int) = ((i : Nat) : Int) + 1 by omega] at hba
  generalize (!letAt (l.drop (i + 1))) = bb at hba
  have HS : Hid ((bs l).size = l.length) := hsz
  clear hsz
  go_enter Tryz.func60, Tryz.ntmps60
  go_wp2_with (first
    | (go_at_call 77; refine (hs1 _).mono ?_; rintro e w' ⟨rfl, rfl⟩)
    | (go_at_call 78; refine (hs2 _).mono ?_; rintro e w' ⟨rfl, rfl⟩)
    | (go_at_call 79; refine (hen _).mono ?_; rintro e w' ⟨rfl, rfl⟩)
    | (go_at_call 80; refine (hba _).mono ?_; rintro e w' ⟨rfl, rfl⟩))
  exact bodyPost_ret (v := .tuple #[.agg (rtkv ⟨0, [], 0⟩ i), .int .i64 (((i + 1) : Nat) : Int), .int .i64 101, .int .i64 ((i + 1 : Nat) : Int)]) (by simp [results, Tryz.results60, go_sem, rtkv, rbs_nil]) rfl ⟨rfl, two_below _⟩

set_option maxRecDepth 100000 in
set_option maxHeartbeats 2000000 in
theorem rone_hexL {w : World} {l : List UInt8} {i : Nat} (hi : i < l.length) (hl : l.length ≤ 2000) (k4 : l[i] = 36) (h : 128 < cnt isHxy (l.drop (i + 1))) :
    Calls Tryz.prog 60 #[.string (bs l), .int .i64 (i : Nat)] w (ROneR w i ⟨0, [], 0⟩ (i + 1 + cnt isHxy (l.drop (i + 1))) 102 (i : Nat)) := by
  have hsz := bs_size l
  have h1 : i < (bs l).size := by omega
  have h2 : ((i : Nat) : Int) < ((bs l).size : Int) := by omega
  have hi2 : i ≤ 2000 := by omega
  have hz2 : (bs l).size ≤ 2000 := by omega
  have k4' : (bs l)[i]'h1 = 36 := by rw [bs_get]; exact k4
  have k1 : isSml ((bs l)[i]'h1) = false := by rw [k4']; decide
  have k2 : isFig ((bs l)[i]'h1) = false := by rw [k4']; decide
  have hs1 := rletter_tells ((bs l)[i]'h1)
  rw [k1] at hs1
  have hs2 := rfigure_tells ((bs l)[i]'h1)
  rw [k2] at hs2
  have hv : ((((bs l)[i]'h1).toNat : Nat) : Int) = 36 := by rw [k4']; rfl
  rw [hv] at hs1 hs2
  clear k1 k2 k4 k4'
  have hen := fun W => rend_hex l (i + 1) W hl (by omega)
  obtain ⟨J, hJ⟩ : ∃ J, J = (i + 1 + cnt isHxy (l.drop (i + 1))) := ⟨_, rfl⟩
  rw [← hJ] at hen ⊢
  have hJl : J ≤ l.length := by
    have := cnt_le isHxy (l.drop (i + 1))
    rw [List.length_drop] at this
    omega
  have hJ2 : J ≤ 2000 := by omega
  have ei : (((i + 1 : Nat) : Nat) : Int) = ((i : Nat) : Int) + 1 := by omega
  rw [ei] at hen
  have hba := fun W => rbare_c l J W hl hJl
  generalize (!letAt (l.drop J)) = bb at hba
  have g1 : ¬ ((J : Nat) : Int) = ((i : Nat) : Int) + 1 := by omega
  have g2 : (128 : Int) < ((J : Nat) : Int) - ((i : Nat) : Int) - 1 := by omega
  clear hJ
  have HS : Hid ((bs l).size = l.length) := hsz
  clear hsz
  go_enter Tryz.func60, Tryz.ntmps60
  go_wp2_with (first
    | (go_at_call 77; refine (hs1 _).mono ?_; rintro e w' ⟨rfl, rfl⟩)
    | (go_at_call 78; refine (hs2 _).mono ?_; rintro e w' ⟨rfl, rfl⟩)
    | (go_at_call 79; refine (hen _).mono ?_; rintro e w' ⟨rfl, rfl⟩)
    | (go_at_call 80; refine (hba _).mono ?_; rintro e w' ⟨rfl, rfl⟩))
  exact bodyPost_ret (v := .tuple #[.agg (rtkv ⟨0, [], 0⟩ i), .int .i64 ((J : Nat) : Int), .int .i64 102, .int .i64 (i : Nat)]) (by simp [results, Tryz.results60, go_sem, rtkv, rbs_nil]) rfl ⟨rfl, two_below _⟩

set_option maxRecDepth 100000 in
set_option maxHeartbeats 2000000 in
theorem rone_hexB {w : World} {l : List UInt8} {i : Nat} (hi : i < l.length) (hl : l.length ≤ 2000) (k4 : l[i] = 36) (h0 : cnt isHxy (l.drop (i + 1)) ≠ 0) (h : ¬ 128 < cnt isHxy (l.drop (i + 1))) (k3 : letAt (l.drop (i + 1 + cnt isHxy (l.drop (i + 1)))) = true) :
    Calls Tryz.prog 60 #[.string (bs l), .int .i64 (i : Nat)] w (ROneR w i ⟨0, [], 0⟩ (i + 1 + cnt isHxy (l.drop (i + 1))) 101 ((i + 1 + cnt isHxy (l.drop (i + 1)) : Nat) : Int)) := by
  have hsz := bs_size l
  have h1 : i < (bs l).size := by omega
  have h2 : ((i : Nat) : Int) < ((bs l).size : Int) := by omega
  have hi2 : i ≤ 2000 := by omega
  have hz2 : (bs l).size ≤ 2000 := by omega
  have k4' : (bs l)[i]'h1 = 36 := by rw [bs_get]; exact k4
  have k1 : isSml ((bs l)[i]'h1) = false := by rw [k4']; decide
  have k2 : isFig ((bs l)[i]'h1) = false := by rw [k4']; decide
  have hs1 := rletter_tells ((bs l)[i]'h1)
  rw [k1] at hs1
  have hs2 := rfigure_tells ((bs l)[i]'h1)
  rw [k2] at hs2
  have hv : ((((bs l)[i]'h1).toNat : Nat) : Int) = 36 := by rw [k4']; rfl
  rw [hv] at hs1 hs2
  clear k1 k2 k4 k4'
  have hen := fun W => rend_hex l (i + 1) W hl (by omega)
  obtain ⟨J, hJ⟩ : ∃ J, J = (i + 1 + cnt isHxy (l.drop (i + 1))) := ⟨_, rfl⟩
  rw [← hJ] at hen ⊢
  have hJl : J ≤ l.length := by
    have := cnt_le isHxy (l.drop (i + 1))
    rw [List.length_drop] at this
    omega
  have hJ2 : J ≤ 2000 := by omega
  have ei : (((i + 1 : Nat) : Nat) : Int) = ((i : Nat) : Int) + 1 := by omega
  rw [ei] at hen
  have hba := fun W => rbare_c l J W hl hJl
  rw [show letAt (l.drop J) = true by rw [hJ]; exact k3] at hba
  have g1 : ¬ ((J : Nat) : Int) = ((i : Nat) : Int) + 1 := by omega
  have g2 : ¬ (128 : Int) < ((J : Nat) : Int) - ((i : Nat) : Int) - 1 := by omega
  clear hJ k3
  have HS : Hid ((bs l).size = l.length) := hsz
  clear hsz
  go_enter Tryz.func60, Tryz.ntmps60
  go_wp2_with (first
    | (go_at_call 77; refine (hs1 _).mono ?_; rintro e w' ⟨rfl, rfl⟩)
    | (go_at_call 78; refine (hs2 _).mono ?_; rintro e w' ⟨rfl, rfl⟩)
    | (go_at_call 79; refine (hen _).mono ?_; rintro e w' ⟨rfl, rfl⟩)
    | (go_at_call 80; refine (hba _).mono ?_; rintro e w' ⟨rfl, rfl⟩))
  exact bodyPost_ret (v := .tuple #[.agg (rtkv ⟨0, [], 0⟩ i), .int .i64 ((J : Nat) : Int), .int .i64 101, .int .i64 ((J : Nat) : Int)]) (by simp [results, Tryz.results60, go_sem, rtkv, rbs_nil]) rfl ⟨rfl, two_below _⟩
end Go.Proofs.YtpckmllmjdafpaaGreatDoor
