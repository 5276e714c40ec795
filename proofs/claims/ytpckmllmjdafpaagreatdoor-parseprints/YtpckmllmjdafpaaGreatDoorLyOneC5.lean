/- The reference of layer 10: the token at a place: cases. -/
import Derived.Test.YtpckmllmjdafpaaGreatDoorLyOneA
namespace Go.Proofs.YtpckmllmjdafpaaGreatDoor
open Go.ChangeShapes Go.WideShapes Go.ChangeAt Go.RowKit
set_option linter.unusedVariables false

set_option maxRecDepth 100000 in
set_option maxHeartbeats 2000000 in
theorem rone_sign44 {w : World} {l : List UInt8} {i : Nat} (hi : i < l.length) (hl : l.length ≤ 2000) (k4 : l[i] = 44) :
    Calls Tryz.prog 60 #[.string (bs l), .int .i64 (i : Nat)] w (ROneR w i ⟨3, [44], 0⟩ (i + 1) 0 (-1)) := by
  have hsz := bs_size l
  have h1 : i < (bs l).size := by omega
  have h2 : ((i : Nat) : Int) < ((bs l).size : Int) := by omega
  have hi2 : i ≤ 2000 := by omega
  have hz2 : (bs l).size ≤ 2000 := by omega
  have k4' : (bs l)[i]'h1 = 44 := by rw [bs_get]; exact k4
  have k1 : isSml ((bs l)[i]'h1) = false := by rw [k4']; decide
  have k2 : isFig ((bs l)[i]'h1) = false := by rw [k4']; decide
  have hs1 := rletter_tells ((bs l)[i]'h1)
  rw [k1] at hs1
  have hs2 := rfigure_tells ((bs l)[i]'h1)
  rw [k2] at hs2
  have hv : ((((bs l)[i]'h1).toNat : Nat) : Int) = 44 := by rw [k4']; rfl
  rw [hv] at hs1 hs2
  have hx : (bs l).extract i (i + 1) = bs [44] := by
    rw [bs_extract, List.drop_eq_getElem_cons hi, k4, Nat.add_sub_cancel_left]; rfl
  have hb1 : ((i : Nat) : Int) + 1 ≤ ((bs l).size : Int) := by omega
  clear k1 k2 k4 k4'
  have HS : Hid ((bs l).size = l.length) := hsz
  clear hsz
  go_enter Tryz.func60, Tryz.ntmps60
  go_wp2_with (first
    | (go_at_call 77; refine (hs1 _).mono ?_; rintro e w' ⟨rfl, rfl⟩)
    | (go_at_call 78; refine (hs2 _).mono ?_; rintro e w' ⟨rfl, rfl⟩))
  exact bodyPost_ret (v := .tuple #[.agg (rtkv ⟨3, [44], 0⟩ i), .int .i64 (((i + 1) : Nat) : Int), .int .i64 0, .int .i64 (-1)]) (by simp [results, Tryz.results60, go_sem, rtkv]) rfl ⟨rfl, two_below _⟩

set_option maxRecDepth 100000 in
set_option maxHeartbeats 2000000 in
theorem rone_sign61 {w : World} {l : List UInt8} {i : Nat} (hi : i < l.length) (hl : l.length ≤ 2000) (k4 : l[i] = 61) :
    Calls Tryz.prog 60 #[.string (bs l), .int .i64 (i : Nat)] w (ROneR w i ⟨3, [61], 0⟩ (i + 1) 0 (-1)) := by
  have hsz := bs_size l
  have h1 : i < (bs l).size := by omega
  have h2 : ((i : Nat) : Int) < ((bs l).size : Int) := by omega
  have hi2 : i ≤ 2000 := by omega
  have hz2 : (bs l).size ≤ 2000 := by omega
  have k4' : (bs l)[i]'h1 = 61 := by rw [bs_get]; exact k4
  have k1 : isSml ((bs l)[i]'h1) = false := by rw [k4']; decide
  have k2 : isFig ((bs l)[i]'h1) = false := by rw [k4']; decide
  have hs1 := rletter_tells ((bs l)[i]'h1)
  rw [k1] at hs1
  have hs2 := rfigure_tells ((bs l)[i]'h1)
  rw [k2] at hs2
  have hv : ((((bs l)[i]'h1).toNat : Nat) : Int) = 61 := by rw [k4']; rfl
  rw [hv] at hs1 hs2
  have hx : (bs l).extract i (i + 1) = bs [61] := by
    rw [bs_extract, List.drop_eq_getElem_cons hi, k4, Nat.add_sub_cancel_left]; rfl
  have hb1 : ((i : Nat) : Int) + 1 ≤ ((bs l).size : Int) := by omega
  clear k1 k2 k4 k4'
  have HS : Hid ((bs l).size = l.length) := hsz
  clear hsz
  go_enter Tryz.func60, Tryz.ntmps60
  go_wp2_with (first
    | (go_at_call 77; refine (hs1 _).mono ?_; rintro e w' ⟨rfl, rfl⟩)
    | (go_at_call 78; refine (hs2 _).mono ?_; rintro e w' ⟨rfl, rfl⟩))
  exact bodyPost_ret (v := .tuple #[.agg (rtkv ⟨3, [61], 0⟩ i), .int .i64 (((i + 1) : Nat) : Int), .int .i64 0, .int .i64 (-1)]) (by simp [results, Tryz.results60, go_sem, rtkv]) rfl ⟨rfl, two_below _⟩

set_option maxRecDepth 100000 in
set_option maxHeartbeats 2000000 in
theorem rone_sign59 {w : World} {l : List UInt8} {i : Nat} (hi : i < l.length) (hl : l.length ≤ 2000) (k4 : l[i] = 59) :
    Calls Tryz.prog 60 #[.string (bs l), .int .i64 (i : Nat)] w (ROneR w i ⟨3, [59], 0⟩ (i + 1) 0 (-1)) := by
  have hsz := bs_size l
  have h1 : i < (bs l).size := by omega
  have h2 : ((i : Nat) : Int) < ((bs l).size : Int) := by omega
  have hi2 : i ≤ 2000 := by omega
  have hz2 : (bs l).size ≤ 2000 := by omega
  have k4' : (bs l)[i]'h1 = 59 := by rw [bs_get]; exact k4
  have k1 : isSml ((bs l)[i]'h1) = false := by rw [k4']; decide
  have k2 : isFig ((bs l)[i]'h1) = false := by rw [k4']; decide
  have hs1 := rletter_tells ((bs l)[i]'h1)
  rw [k1] at hs1
  have hs2 := rfigure_tells ((bs l)[i]'h1)
  rw [k2] at hs2
  have hv : ((((bs l)[i]'h1).toNat : Nat) : Int) = 59 := by rw [k4']; rfl
  rw [hv] at hs1 hs2
  have hx : (bs l).extract i (i + 1) = bs [59] := by
    rw [bs_extract, List.drop_eq_getElem_cons hi, k4, Nat.add_sub_cancel_left]; rfl
  have hb1 : ((i : Nat) : Int) + 1 ≤ ((bs l).size : Int) := by omega
  clear k1 k2 k4 k4'
  have HS : Hid ((bs l).size = l.length) := hsz
  clear hsz
  go_enter Tryz.func60, Tryz.ntmps60
  go_wp2_with (first
    | (go_at_call 77; refine (hs1 _).mono ?_; rintro e w' ⟨rfl, rfl⟩)
    | (go_at_call 78; refine (hs2 _).mono ?_; rintro e w' ⟨rfl, rfl⟩))
  exact bodyPost_ret (v := .tuple #[.agg (rtkv ⟨3, [59], 0⟩ i), .int .i64 (((i + 1) : Nat) : Int), .int .i64 0, .int .i64 (-1)]) (by simp [results, Tryz.results60, go_sem, rtkv]) rfl ⟨rfl, two_below _⟩

set_option maxRecDepth 100000 in
set_option maxHeartbeats 2000000 in
theorem rone_none {w : World} {l : List UInt8} {i : Nat} (hi : i < l.length) (hl : l.length ≤ 2000) (k1 : isSml l[i] = false) (k2 : isFig l[i] = false) (d1 : l[i] ≠ 36) (d2 : l[i] ≠ 40) (d3 : l[i] ≠ 41) (d4 : l[i] ≠ 44) (d5 : l[i] ≠ 61) (d6 : l[i] ≠ 59) :
    Calls Tryz.prog 60 #[.string (bs l), .int .i64 (i : Nat)] w (ROneR w i ⟨0, [], 0⟩ i 101 (i : Nat)) := by
  have hsz := bs_size l
  have h1 : i < (bs l).size := by omega
  have h2 : ((i : Nat) : Int) < ((bs l).size : Int) := by omega
  have hi2 : i ≤ 2000 := by omega
  have hz2 : (bs l).size ≤ 2000 := by omega
  have hc1 : isSml ((bs l)[i]'h1) = false := by rw [bs_get]; exact k1
  have hs1 := rletter_tells ((bs l)[i]'h1)
  rw [hc1] at hs1
  clear hc1 k1
  have hc2 : isFig ((bs l)[i]'h1) = false := by rw [bs_get]; exact k2
  have hs2 := rfigure_tells ((bs l)[i]'h1)
  rw [hc2] at hs2
  clear hc2 k2
  have hv : ∀ k : Nat, k < 256 → l[i] ≠ UInt8.ofNat k → (((((bs l)[i]'h1).toNat : Nat) : Int) == (k : Int)) = false := by
    intro k hk hne
    rw [← Bool.not_eq_true]
    intro e
    apply hne
    have e := eq_of_beq e
    rw [bs_get] at e
    exact val_of (by omega)
  have v1 : (((((bs l)[i]'h1).toNat : Nat) : Int) == 36) = false := hv 36 (by decide) d1
  have v2 : (((((bs l)[i]'h1).toNat : Nat) : Int) == 40) = false := hv 40 (by decide) d2
  have v3 : (((((bs l)[i]'h1).toNat : Nat) : Int) == 41) = false := hv 41 (by decide) d3
  have v4 : (((((bs l)[i]'h1).toNat : Nat) : Int) == 44) = false := hv 44 (by decide) d4
  have v5 : (((((bs l)[i]'h1).toNat : Nat) : Int) == 61) = false := hv 61 (by decide) d5
  have v6 : (((((bs l)[i]'h1).toNat : Nat) : Int) == 59) = false := hv 59 (by decide) d6
  have u1 : ¬ ((((bs l)[i]'h1).toNat : Nat) : Int) = 36 := by simpa using v1
  have u2 : ¬ ((((bs l)[i]'h1).toNat : Nat) : Int) = 40 := by simpa using v2
  have u3 : ¬ ((((bs l)[i]'h1).toNat : Nat) : Int) = 41 := by simpa using v3
  have u4 : ¬ ((((bs l)[i]'h1).toNat : Nat) : Int) = 44 := by simpa using v4
  have u5 : ¬ ((((bs l)[i]'h1).toNat : Nat) : Int) = 61 := by simpa using v5
  have u6 : ¬ ((((bs l)[i]'h1).toNat : Nat) : Int) = 59 := by simpa using v6
  clear hv
  have HS : Hid ((bs l).size = l.length) := hsz
  clear hsz
  go_enter Tryz.func60, Tryz.ntmps60
  go_wp2_with (first
    | (go_at_call 77; refine (hs1 _).mono ?_; rintro e w' ⟨rfl, rfl⟩)
    | (go_at_call 78; refine (hs2 _).mono ?_; rintro e w' ⟨rfl, rfl⟩))
  exact bodyPost_ret (v := .tuple #[.agg (rtkv ⟨0, [], 0⟩ i), .int .i64 ((i : Nat) : Int), .int .i64 101, .int .i64 (i : Nat)]) (by simp [results, Tryz.results60, go_sem, rtkv, rbs_nil]) rfl ⟨rfl, two_below _⟩
end Go.Proofs.YtpckmllmjdafpaaGreatDoor
