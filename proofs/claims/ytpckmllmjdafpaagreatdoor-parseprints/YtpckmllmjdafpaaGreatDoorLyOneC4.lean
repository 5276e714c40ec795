/- The reference of layer 10: the token at a place: cases. -/
import Derived.Test.YtpckmllmjdafpaaGreatDoorLyOneA
namespace Go.Proofs.YtpckmllmjdafpaaGreatDoor
open Go.ChangeShapes Go.WideShapes Go.ChangeAt Go.RowKit
set_option linter.unusedVariables false

set_option maxRecDepth 100000 in
set_option maxHeartbeats 2000000 in
theorem rone_hex {w : World} {l : List UInt8} {i : Nat} (hi : i < l.length) (hl : l.length ≤ 2000) (k4 : l[i] = 36) (h0 : cnt isHxy (l.drop (i + 1)) ≠ 0) (h : ¬ 128 < cnt isHxy (l.drop (i + 1))) (k3 : letAt (l.drop (i + 1 + cnt isHxy (l.drop (i + 1)))) = false) :
    Calls Tryz.prog 60 #[.string (bs l), .int .i64 (i : Nat)] w (ROneR w i ⟨2, (l.drop (i + 1)).take (cnt isHxy (l.drop (i + 1))), 0⟩ (i + 1 + cnt isHxy (l.drop (i + 1))) 0 (-1)) := by
  have hsz := bs_size l
  have h1 : i < (bs l).size := by omega
  have h2 : ((i : Nat) : Int) < ((bs l).size : Int) := by omega
  have hi2 : i ≤ 2000 := by omega
  have hz2 : (bs l).size ≤ 2000 := by omega
  have k4' : (bs l)[i]'h1 = 36 := by rw [bs_get]; exact k4
  have k1 : isSml ((bs l)[i]'h1) = false := by rw [k4']; decide
  have k2 : isFig ((bs l)[i]'h1) = false := by rw [k4']; decide
  have hs1 := rletter_tells ((bs l)[i]'h1)
  rw [k1] at hs1
  have hs2 := rfigure_tells ((bs l)[i]'h1)
  rw [k2] at hs2
  have hv : ((((bs l)[i]'h1).toNat : Nat) : Int) = 36 := by rw [k4']; rfl
  rw [hv] at hs1 hs2
  clear k1 k2 k4 k4'
  have hen := fun W => rend_hex l (i + 1) W hl (by omega)
  obtain ⟨J, hJ⟩ : ∃ J, J = (i + 1 + cnt isHxy (l.drop (i + 1))) := ⟨_, rfl⟩
  rw [← hJ] at hen ⊢
  have hJl : J ≤ l.length := by
    have := cnt_le isHxy (l.drop (i + 1))
    rw [List.length_drop] at this
    omega
  have hJ2 : J ≤ 2000 := by omega
  have ei : (((i + 1 : Nat) : Nat) : Int) = ((i : Nat) : Int) + 1 := by omega
  rw [ei] at hen
  have hba := fun W => rbare_c l J W hl hJl
  rw [show letAt (l.drop J) = false by rw [hJ]; exact k3] at hba
  have g1 : ¬ ((J : Nat) : Int) = ((i : Nat) : Int) + 1 := by omega
  have g2 : ¬ (128 : Int) < ((J : Nat) : Int) - ((i : Nat) : Int) - 1 := by omega
  have g3 : ((i : Nat) : Int) + 1 ≤ ((J : Nat) : Int) := by omega
  have g4 : ((J : Nat) : Int) ≤ ((bs l).size : Int) := by omega
  have hx : (bs l).extract (i + 1) J = bs ((l.drop (i + 1)).take (cnt isHxy (l.drop (i + 1)))) := by rw [bs_extract, hJ, Nat.add_sub_cancel_left]
  generalize (l.drop (i + 1)).take (cnt isHxy (l.drop (i + 1))) = X at hx ⊢
  clear hJ k3
  have HS : Hid ((bs l).size = l.length) := hsz
  clear hsz
  go_enter Tryz.func60, Tryz.ntmps60
  go_wp2_with (first
    | (go_at_call 77; refine (hs1 _).mono ?_; rintro e w' ⟨rfl, rfl⟩)
    | (go_at_call 78; refine (hs2 _).mono ?_; rintro e w' ⟨rfl, rfl⟩)
    | (go_at_call 79; refine (hen _).mono ?_; rintro e w' ⟨rfl, rfl⟩)
    | (go_at_call 80; refine (hba _).mono ?_; rintro e w' ⟨rfl, rfl⟩))
  exact bodyPost_ret (v := .tuple #[.agg (rtkv ⟨2, X, 0⟩ i), .int .i64 ((J : Nat) : Int), .int .i64 0, .int .i64 (-1)]) (by simp [results, Tryz.results60, go_sem, rtkv]) rfl ⟨rfl, two_below _⟩

set_option maxRecDepth 100000 in
set_option maxHeartbeats 2000000 in
theorem rone_sign40 {w : World} {l : List UInt8} {i : Nat} (hi : i < l.length) (hl : l.length ≤ 2000) (k4 : l[i] = 40) :
    Calls Tryz.prog 60 #[.string (bs l), .int .i64 (i : Nat)] w (ROneR w i ⟨3, [40], 0⟩ (i + 1) 0 (-1)) := by
  have hsz := bs_size l
  have h1 : i < (bs l).size := by omega
  have h2 : ((i : Nat) : Int) < ((bs l).size : Int) := by omega
  have hi2 : i ≤ 2000 := by omega
  have hz2 : (bs l).size ≤ 2000 := by omega
  have k4' : (bs l)[i]'h1 = 40 := by rw [bs_get]; exact k4
  have k1 : isSml ((bs l)[i]'h1) = false := by rw [k4']; decide
  have k2 : isFig ((bs l)[i]'h1) = false := by rw [k4']; decide
  have hs1 := rletter_tells ((bs l)[i]'h1)
  rw [k1] at hs1
  have hs2 := rfigure_tells ((bs l)[i]'h1)
  rw [k2] at hs2
  have hv : ((((bs l)[i]'h1).toNat : Nat) : Int) = 40 := by rw [k4']; rfl
  rw [hv] at hs1 hs2
  have hx : (bs l).extract i (i + 1) = bs [40] := by
    rw [bs_extract, List.drop_eq_getElem_cons hi, k4, Nat.add_sub_cancel_left]; rfl
  have hb1 : ((i : Nat) : Int) + 1 ≤ ((bs l).size : Int) := by omega
  clear k1 k2 k4 k4'
  have HS : Hid ((bs l).size = l.length) := hsz
  clear hsz
  go_enter Tryz.func60, Tryz.ntmps60
  go_wp2_with (first
    | (go_at_call 77; refine (hs1 _).mono ?_; rintro e w' ⟨rfl, rfl⟩)
    | (go_at_call 78; refine (hs2 _).mono ?_; rintro e w' ⟨rfl, rfl⟩))
  exact bodyPost_ret (v := .tuple #[.agg (rtkv ⟨3, [40], 0⟩ i), .int .i64 (((i + 1) : Nat) : Int), .int .i64 0, .int .i64 (-1)]) (by simp [results, Tryz.results60, go_sem, rtkv]) rfl ⟨rfl, two_below _⟩

set_option maxRecDepth 100000 in
set_option maxHeartbeats 2000000 in
theorem rone_sign41 {w : World} {l : List UInt8} {i : Nat} (hi : i < l.length) (hl : l.length ≤ 2000) (k4 : l[i] = 41) :
    Calls Tryz.prog 60 #[.string (bs l), .int .i64 (i : Nat)] w (ROneR w i ⟨3, [41], 0⟩ (i + 1) 0 (-1)) := by
  have hsz := bs_size l
  have h1 : i < (bs l).size := by omega
  have h2 : ((i : Nat) : Int) < ((bs l).size : Int) := by omega
  have hi2 : i ≤ 2000 := by omega
  have hz2 : (bs l).size ≤ 2000 := by omega
  have k4' : (bs l)[i]'h1 = 41 := by rw [bs_get]; exact k4
  have k1 : isSml ((bs l)[i]'h1) = false := by rw [k4']; decide
  have k2 : isFig ((bs l)[i]'h1) = false := by rw [k4']; decide
  have hs1 := rletter_tells ((bs l)[i]'h1)
  rw [k1] at hs1
  have hs2 := rfigure_tells ((bs l)[i]'h1)
  rw [k2] at hs2
  have hv : ((((bs l)[i]'h1).toNat : Nat) : Int) = 41 := by rw [k4']; rfl
  rw [hv] at hs1 hs2
  have hx : (bs l).extract i (i + 1) = bs [41] := by
    rw [bs_extract, List.drop_eq_getElem_cons hi, k4, Nat.add_sub_cancel_left]; rfl
  have hb1 : ((i : Nat) : Int) + 1 ≤ ((bs l).size : Int) := by omega
  clear k1 k2 k4 k4'
  have HS : Hid ((bs l).size = l.length) := hsz
  clear hsz
  go_enter Tryz.func60, Tryz.ntmps60
  go_wp2_with (first
    | (go_at_call 77; refine (hs1 _).mono ?_; rintro e w' ⟨rfl, rfl⟩)
    | (go_at_call 78; refine (hs2 _).mono ?_; rintro e w' ⟨rfl, rfl⟩))
  exact bodyPost_ret (v := .tuple #[.agg (rtkv ⟨3, [41], 0⟩ i), .int .i64 (((i + 1) : Nat) : Int), .int .i64 0, .int .i64 (-1)]) (by simp [results, Tryz.results60, go_sem, rtkv]) rfl ⟨rfl, two_below _⟩
end Go.Proofs.YtpckmllmjdafpaaGreatDoor
