/- The reference of layer 10: kinds of bytes, and where they end. -/
import Derived.Test.YtpckmllmjdafpaaGreatDoorJoint01
namespace Go.Proofs.YtpckmllmjdafpaaGreatDoor
open Go.ChangeShapes Go.WideShapes Go.ChangeAt Go.RowKit
set_option linter.unusedVariables false

theorem ret_intL {a b : Int} (h : a = b) : Ending.returned (.int .i64 a) = .returned (.int .i64 b) := by rw [h]

theorem rletter_tells : Tells 77 isSml := by
  intro c w
  go_enter Tryz.func77, Tryz.ntmps77
  go_wp2
  all_goals
    go_ret
    refine ⟨ret_bool ?_, rfl⟩
    rw [isSml_eq, Bool.eq_iff_iff]
    simp
    try omega

theorem rfigure_tells : Tells 78 isFig := by
  intro c w
  go_enter Tryz.func78, Tryz.ntmps78
  go_wp2
  all_goals
    go_ret
    refine ⟨ret_bool ?_, rfl⟩
    rw [isFig_eq, Bool.eq_iff_iff]
    simp
    try omega

theorem rwordy_tells : Tells 96 isWdy := by
  intro c w
  have e : isWdy c = ((isSml c || isFig c) || decide ((c.toNat : Int) = 95)) := by
    unfold isWdy
    rw [isLet_eq]
    cases isSml c <;> cases isFig c <;> simp
  rw [e]
  have hs := rletter_tells c
  have hf := rfigure_tells c
  cases e1 : isSml c <;> cases e2 : isFig c
  all_goals
    rw [e1] at hs
    rw [e2] at hf
    clear e1 e2 e
    go_enter Tryz.func96, Tryz.ntmps96
    go_wp2_with (first
      | (go_at_call 77; refine (hs _).mono ?_; rintro e w' ⟨rfl, rfl⟩)
      | (go_at_call 78; refine (hf _).mono ?_; rintro e w' ⟨rfl, rfl⟩))
    all_goals
      go_ret
      refine ⟨ret_bool ?_, rfl⟩
      rw [Bool.eq_iff_iff]
      simp
      try omega

theorem rhexy_tells : Tells 97 isHxy := by
  intro c w
  rw [isHxy_eq]
  have hf := rfigure_tells c
  cases e : isFig c
  all_goals
    rw [e] at hf
    clear e
    go_enter Tryz.func97, Tryz.ntmps97
    go_wp2_with (go_at_call 78; refine (hf _).mono ?_; rintro e w' ⟨rfl, rfl⟩)
    all_goals
      go_ret
      refine ⟨ret_bool ?_, rfl⟩
      rw [Bool.eq_iff_iff]
      simp
      try omega

theorem rbare_c (l : List UInt8) (i : Nat) (w : World) (hl : l.length ≤ 2000) (hi : i ≤ l.length) : Calls Tryz.prog 80 #[.string (bs l), .int .i64 (i : Nat)] w fun e w' => e = .returned (.bool (!letAt (l.drop i))) ∧ w' = w := by
  have hsz := bs_size l
  have hz2 : (bs l).size ≤ 2000 := by omega
  by_cases h : i < l.length
  · have e0 : letAt (l.drop i) = isLet l[i] := by rw [List.drop_eq_getElem_cons h]; rfl
    have h1 : i < (bs l).size := by omega
    have h2 : ((i : Nat) : Int) < ((bs l).size : Int) := by omega
    have hg := bs_get l i h1
    have hs := rletter_tells ((bs l)[i]'h1)
    have he : (!letAt (l.drop i)) = (!isSml ((bs l)[i]'h1) && !decide (((((bs l)[i]'h1).toNat : Nat) : Int) = 95)) := by rw [e0, ← hg, isLet_eq, Bool.not_or]
    rw [he]
    cases e1 : isSml ((bs l)[i]'h1)
    all_goals
      rw [e1] at hs
      have HS : Hid ((bs l).size = l.length) := hsz
      clear e1 he hg hsz e0
      go_enter Tryz.func80, Tryz.ntmps80
      go_wp2_with (go_at_call 77; refine (hs _).mono ?_; rintro e w' ⟨rfl, rfl⟩)
      all_goals
        go_ret
        refine ⟨ret_bool ?_, rfl⟩
        rw [Bool.eq_iff_iff]
        simp
        try omega
  · have e0 : letAt (l.drop i) = false := by rw [List.drop_eq_nil_of_le (by omega)]; rfl
    have h2 : ¬ ((i : Nat) : Int) < ((bs l).size : Int) := by omega
    rw [e0]
    have HS : Hid ((bs l).size = l.length) := hsz
    clear hsz e0
    go_enter Tryz.func80, Tryz.ntmps80
    go_wp2
    go_ret
    exact ⟨rfl, rfl⟩

set_option maxRecDepth 100000 in
set_option maxHeartbeats 1000000 in
theorem rend_word (l : List UInt8) (i : Nat) (w : World) (hl : l.length ≤ 2000) (hi : i ≤ l.length) : Calls Tryz.prog 79 #[.string (bs l), .int .i64 (i : Nat), .int .i64 0] w fun e w' => e = .returned (.int .i64 ((i + cnt isWdy (l.drop i) : Nat) : Int)) ∧ w' = w := by
  have hsz := bs_size l
  have hz2 : (bs l).size ≤ 2000 := by omega
  have HS : Hid ((bs l).size = l.length) := hsz
  clear hsz
  go_enter Tryz.func79, Tryz.ntmps79
  go_wp2
  go_loop [1, 7] (fun z m => ∃ (k : Nat) (b : Bool), k ≤ cnt isWdy (l.drop i) ∧ i + k ≤ l.length ∧ z = .int .i64 ((i + k : Nat) : Int) ∧ m = .bool b ∧ (b = false → k = cnt isWdy (l.drop i))) (fun z m => 2 * (2000 - (intOf z).toNat) + (match m with | .bool true => 1 | _ => 0))
  case atStart => exact ⟨0, true, Nat.zero_le _, by omega, rfl, rfl, fun h => by cases h⟩
  case round =>
    obtain ⟨k, b, hk, hkl, rfl, rfl, hb⟩ := hrel
    obtain ⟨J, hJ⟩ : ∃ J, J = i + k := ⟨_, rfl⟩
    rw [← hJ]
    have HJ : Hid (J = i + k) := hJ
    clear hJ
    have hJ2 : J ≤ 2000 := by have := HJ.out; omega
    by_cases hlt : i + k < l.length
    · have h1 : J < (bs l).size := by rw [HS.out, HJ.out]; exact hlt
      have h2 : ((J : Nat) : Int) < ((bs l).size : Int) := by omega
      have hget : (bs l)[J]'h1 = l[i + k] := by rw [bs_get]; simp only [HJ.out]
      cases b
      · have HE : Hid (k = cnt isWdy (l.drop i)) := hb rfl
        clear hb hget
        go_wp2
        go_ret
        exact ⟨ret_intL (by have h8 := HJ.out; have h9 := HE.out; omega), rfl⟩
      · have ht := fun W => rwordy_tells ((bs l)[J]'h1) W
        cases hc : isWdy (l[i + k])
        · have hb2 : isWdy ((bs l)[J]'h1) = false := by rw [hget]; exact hc
          rw [hb2] at ht
          have HN : Hid (k = cnt isWdy (l.drop i)) := cnt_stop hk hlt hc
          clear hb2 hget hc hb
          go_wp2_with (go_at_call 96; refine (ht _).mono ?_; rintro e w' ⟨rfl, rfl⟩)
          go_round
          case rel => exact ⟨k, false, hk, hkl, by rw [HJ.out], rfl, fun _ => HN.out⟩
          case measure => simp [intOf]
        · have hb2 : isWdy ((bs l)[J]'h1) = true := by rw [hget]; exact hc
          rw [hb2] at ht
          have hn := (cnt_at hk hlt).2 hc
          clear hb2 hget hc hb
          go_wp2_with (go_at_call 96; refine (ht _).mono ?_; rintro e w' ⟨rfl, rfl⟩)
          go_round
          case rel => exact ⟨k + 1, true, hn, by omega, by have := HJ.out; go_num, rfl, fun h => by cases h⟩
          case measure => simp [intOf]; omega
    · have h2 : ¬ ((J : Nat) : Int) < ((bs l).size : Int) := by rw [HS.out, HJ.out]; omega
      have HE : Hid (k = cnt isWdy (l.drop i)) := cnt_end hk hlt hi
      clear hb
      go_wp2
      go_ret
      exact ⟨ret_intL (by have h8 := HJ.out; have h9 := HE.out; omega), rfl⟩

set_option maxRecDepth 100000 in
set_option maxHeartbeats 1000000 in
theorem rend_figure (l : List UInt8) (i : Nat) (w : World) (hl : l.length ≤ 2000) (hi : i ≤ l.length) : Calls Tryz.prog 79 #[.string (bs l), .int .i64 (i : Nat), .int .i64 1] w fun e w' => e = .returned (.int .i64 ((i + cnt isFig (l.drop i) : Nat) : Int)) ∧ w' = w := by
  have hsz := bs_size l
  have hz2 : (bs l).size ≤ 2000 := by omega
  have HS : Hid ((bs l).size = l.length) := hsz
  clear hsz
  go_enter Tryz.func79, Tryz.ntmps79
  go_wp2
  go_loop [1, 7] (fun z m => ∃ (k : Nat) (b : Bool), k ≤ cnt isFig (l.drop i) ∧ i + k ≤ l.length ∧ z = .int .i64 ((i + k : Nat) : Int) ∧ m = .bool b ∧ (b = false → k = cnt isFig (l.drop i))) (fun z m => 2 * (2000 - (intOf z).toNat) + (match m with | .bool true => 1 | _ => 0))
  case atStart => exact ⟨0, true, Nat.zero_le _, by omega, rfl, rfl, fun h => by cases h⟩
  case round =>
    obtain ⟨k, b, hk, hkl, rfl, rfl, hb⟩ := hrel
    obtain ⟨J, hJ⟩ : ∃ J, J = i + k := ⟨_, rfl⟩
    rw [← hJ]
    have HJ : Hid (J = i + k) := hJ
    clear hJ
    have hJ2 : J ≤ 2000 := by have := HJ.out; omega
    by_cases hlt : i + k < l.length
    · have h1 : J < (bs l).size := by rw [HS.out, HJ.out]; exact hlt
      have h2 : ((J : Nat) : Int) < ((bs l).size : Int) := by omega
      have hget : (bs l)[J]'h1 = l[i + k] := by rw [bs_get]; simp only [HJ.out]
      cases b
      · have HE : Hid (k = cnt isFig (l.drop i)) := hb rfl
        clear hb hget
        go_wp2
        go_ret
        exact ⟨ret_intL (by have h8 := HJ.out; have h9 := HE.out; omega), rfl⟩
      · have ht := fun W => rfigure_tells ((bs l)[J]'h1) W
        cases hc : isFig (l[i + k])
        · have hb2 : isFig ((bs l)[J]'h1) = false := by rw [hget]; exact hc
          rw [hb2] at ht
          have HN : Hid (k = cnt isFig (l.drop i)) := cnt_stop hk hlt hc
          clear hb2 hget hc hb
          go_wp2_with (go_at_call 78; refine (ht _).mono ?_; rintro e w' ⟨rfl, rfl⟩)
          go_round
          case rel => exact ⟨k, false, hk, hkl, by rw [HJ.out], rfl, fun _ => HN.out⟩
          case measure => simp [intOf]
        · have hb2 : isFig ((bs l)[J]'h1) = true := by rw [hget]; exact hc
          rw [hb2] at ht
          have hn := (cnt_at hk hlt).2 hc
          clear hb2 hget hc hb
          go_wp2_with (go_at_call 78; refine (ht _).mono ?_; rintro e w' ⟨rfl, rfl⟩)
          go_round
          case rel => exact ⟨k + 1, true, hn, by omega, by have := HJ.out; go_num, rfl, fun h => by cases h⟩
          case measure => simp [intOf]; omega
    · have h2 : ¬ ((J : Nat) : Int) < ((bs l).size : Int) := by rw [HS.out, HJ.out]; omega
      have HE : Hid (k = cnt isFig (l.drop i)) := cnt_end hk hlt hi
      clear hb
      go_wp2
      go_ret
      exact ⟨ret_intL (by have h8 := HJ.out; have h9 := HE.out; omega), rfl⟩

set_option maxRecDepth 100000 in
set_option maxHeartbeats 1000000 in
theorem rend_hex (l : List UInt8) (i : Nat) (w : World) (hl : l.length ≤ 2000) (hi : i ≤ l.length) : Calls Tryz.prog 79 #[.string (bs l), .int .i64 (i : Nat), .int .i64 2] w fun e w' => e = .returned (.int .i64 ((i + cnt isHxy (l.drop i) : Nat) : Int)) ∧ w' = w := by
  have hsz := bs_size l
  have hz2 : (bs l).size ≤ 2000 := by omega
  have HS : Hid ((bs l).size = l.length) := hsz
  clear hsz
  go_enter Tryz.func79, Tryz.ntmps79
  go_wp2
  go_loop [1, 7] (fun z m => ∃ (k : Nat) (b : Bool), k ≤ cnt isHxy (l.drop i) ∧ i + k ≤ l.length ∧ z = .int .i64 ((i + k : Nat) : Int) ∧ m = .bool b ∧ (b = false → k = cnt isHxy (l.drop i))) (fun z m => 2 * (2000 - (intOf z).toNat) + (match m with | .bool true => 1 | _ => 0))
  case atStart => exact ⟨0, true, Nat.zero_le _, by omega, rfl, rfl, fun h => by cases h⟩
  case round =>
    obtain ⟨k, b, hk, hkl, rfl, rfl, hb⟩ := hrel
    obtain ⟨J, hJ⟩ : ∃ J, J = i + k := ⟨_, rfl⟩
    rw [← hJ]
    have HJ : Hid (J = i + k) := hJ
    clear hJ
    have hJ2 : J ≤ 2000 := by have := HJ.out; omega
    by_cases hlt : i + k < l.length
    · have h1 : J < (bs l).size := by rw [HS.out, HJ.out]; exact hlt
      have h2 : ((J : Nat) : Int) < ((bs l).size : Int) := by omega
      have hget : (bs l)[J]'h1 = l[i + k] := by rw [bs_get]; simp only [HJ.out]
      cases b
      · have HE : Hid (k = cnt isHxy (l.drop i)) := hb rfl
        clear hb hget
        go_wp2
        go_ret
        exact ⟨ret_intL (by have h8 := HJ.out; have h9 := HE.out; omega), rfl⟩
      · have ht := fun W => rhexy_tells ((bs l)[J]'h1) W
        cases hc : isHxy (l[i + k])
        · have hb2 : isHxy ((bs l)[J]'h1) = false := by rw [hget]; exact hc
          rw [hb2] at ht
          have HN : Hid (k = cnt isHxy (l.drop i)) := cnt_stop hk hlt hc
          clear hb2 hget hc hb
          go_wp2_with (go_at_call 97; refine (ht _).mono ?_; rintro e w' ⟨rfl, rfl⟩)
          go_round
          case rel => exact ⟨k, false, hk, hkl, by rw [HJ.out], rfl, fun _ => HN.out⟩
          case measure => simp [intOf]
        · have hb2 : isHxy ((bs l)[J]'h1) = true := by rw [hget]; exact hc
          rw [hb2] at ht
          have hn := (cnt_at hk hlt).2 hc
          clear hb2 hget hc hb
          go_wp2_with (go_at_call 97; refine (ht _).mono ?_; rintro e w' ⟨rfl, rfl⟩)
          go_round
          case rel => exact ⟨k + 1, true, hn, by omega, by have := HJ.out; go_num, rfl, fun h => by cases h⟩
          case measure => simp [intOf]; omega
    · have h2 : ¬ ((J : Nat) : Int) < ((bs l).size : Int) := by rw [HS.out, HJ.out]; omega
      have HE : Hid (k = cnt isHxy (l.drop i)) := cnt_end hk hlt hi
      clear hb
      go_wp2
      go_ret
      exact ⟨ret_intL (by have h8 := HJ.out; have h9 := HE.out; omega), rfl⟩
end Go.Proofs.YtpckmllmjdafpaaGreatDoor
