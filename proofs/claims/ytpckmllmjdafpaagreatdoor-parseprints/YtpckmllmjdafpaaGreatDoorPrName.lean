/- The reference's NAME and HEX. -/
import Derived.Test.YtpckmllmjdafpaaGreatDoorJoint07
import Derived.Test.YtpckmllmjdafpaaGreatDoorJoint08
import Derived.Test.YtpckmllmjdafpaaGreatDoorLyScan
import Derived.Test.YtpckmllmjdafpaaGreatDoorJoint04
namespace Go.Proofs.YtpckmllmjdafpaaGreatDoor
open Go.ChangeShapes Go.WideShapes Go.ChangeAt Go.RowKit
set_option linter.unusedVariables false

theorem scanR_err (f : Nat) : ∀ (x : List UInt8) (a k e o : Nat), scanR f x a k = .error (e, o) → e ≠ 0 := by
  induction f with
  | zero => intro x a k e o h; cases h
  | succ f ih =>
    intro x a k e o h
    rw [scanR] at h
    split at h
    · cases h
    · split at h
      · cases h; decide
      · cases hr : one (x.drop (skp false x)) with
        | error r =>
          obtain ⟨er, oo⟩ := r
          rw [hr] at h
          cases h
          rcases one_err hr with e | ⟨e, _⟩ <;> omega
        | ok r =>
          obtain ⟨t, n⟩ := r
          rw [hr] at h
          simp only at h
          cases hs : scanR f (x.drop (skp false x + n)) (a + skp false x + n) (k + 1) with
          | ok us => rw [hs] at h; cases h
          | error r =>
            obtain ⟨er, oo⟩ := r
            rw [hs] at h
            cases h
            exact ih _ _ _ _ _ hs

theorem ScanRef_err {l : List UInt8} {e o : Nat} (h : ScanRef l = .error (e, o)) : e ≠ 0 := by
  unfold ScanRef at h
  split at h
  · cases h; decide
  · exact scanR_err _ _ _ _ _ _ h

theorem rscan_any (x : List UInt8) (w : World) (hm : x.length ≤ maxLen) : Calls Tryz.prog 40 #[.string (bs x)] w (ScanR w (ScanRef x)) := by
  by_cases h : 2000 < x.length
  · exact rscan_long w x h hm
  · exact rscan_c w x h

theorem rscan_ok_c (x : List UInt8) (w : World) (hm : x.length ≤ maxLen) {ts : Toks} (h : Scan x = .ok ts) : Calls Tryz.prog 40 #[.string (bs x)] w fun e w' => ∃ A C, e = .returned (.tuple #[.slice A ts.length C, .int .i64 0, .int .i64 (-1)]) ∧ Below w.heap.size w w' ∧ TokRow w' w.heap.size (.slice A ts.length C) ts := by
  refine (rscan_any x w hm).mono ?_
  rw [(ScanRef_ok x ts).2 h]
  rintro e w' ⟨hb, v, rfl, hr⟩
  obtain ⟨A, C, rfl⟩ := row_slice hr
  exact ⟨A, C, rfl, hb, hr⟩

theorem rscan_no_c (x : List UInt8) (hm : x.length ≤ maxLen) (h : ∀ ts, Scan x ≠ .ok ts) : ∃ er o : Nat, er ≠ 0 ∧ ∀ w : World, Calls Tryz.prog 40 #[.string (bs x)] w fun e w' => e = .returned (.tuple #[.slice none 0 0, .int .i64 (er : Nat), .int .i64 (o : Nat)]) ∧ Below w.heap.size w w' := by
  cases hS : ScanRef x with
  | ok ts => exact absurd ((ScanRef_ok x ts).1 hS) (h ts)
  | error r =>
    obtain ⟨er, o⟩ := r
    refine ⟨er, o, ScanRef_err hS, fun w => (rscan_any x w hm).mono ?_⟩
    rw [hS]
    rintro e w' ⟨hb, he⟩
    exact ⟨he, hb⟩

/-- One token, where its cells lie. -/
theorem rscan_one_c (x : List UInt8) (w : World) (hm : x.length ≤ maxLen) {t : Tk × Nat} (h : Scan x = .ok [t]) : Calls Tryz.prog 40 #[.string (bs x)] w fun e w' => ∃ g C, e = .returned (.tuple #[.slice (some ⟨g, 0, none⟩) 1 C, .int .i64 0, .int .i64 (-1)]) ∧ Below w.heap.size w w' ∧ g < w'.heap.size ∧ w'.cell? ⟨g, 0, none⟩ = some (.int .i64 (t.1.kind : Nat)) ∧ w'.cell? ⟨g, 1, none⟩ = some (.string (bs t.1.s)) := by
  refine (rscan_ok_c x w hm h).mono ?_
  rintro e w' ⟨A, C, rfl, hb, htr⟩
  obtain ⟨g, C', e, q1, q2, q3, q4, _, hc⟩ := htr.lies (by simp)
  cases e
  exact ⟨g, C, rfl, hb, q2, hc 0 (by simp) 0 (by decide), hc 0 (by simp) 1 (by decide)⟩

theorem tok1_none {x : List UInt8} (h : ∀ ts, Scan x ≠ .ok ts) : tok1 x = none := by
  unfold tok1
  cases hS : Scan x with
  | error r => rfl
  | ok ts => exact absurd hS (h ts)

theorem tok1_many {x : List UInt8} {ts : Toks} (h : Scan x = .ok ts) (h1 : ts.length ≠ 1) : tok1 x = none := by
  unfold tok1
  rw [h]
  match ts, h1 with
  | [], _ => rfl
  | [t], h => exact absurd rfl h
  | _ :: _ :: _, _ => rfl

set_option maxRecDepth 100000 in
set_option maxHeartbeats 2000000 in
theorem rname_c (x : List UInt8) (w : World) (hm : x.length ≤ maxLen) : Calls Tryz.prog 27 #[.string (bs x)] w (Yes w (hasNm x)) := by
  have hrv := fun W => rreserved_c x W
  by_cases hS : ∃ ts, Scan x = .ok ts
  · obtain ⟨ts, hS⟩ := hS
    by_cases h1 : ts.length = 1
    · obtain ⟨t, rfl⟩ := List.length_eq_one_iff.1 h1
      have hsc := rscan_one_c x w hm hS
      have hT : tok1 x = some t := by unfold tok1; rw [hS]
      obtain ⟨⟨K, S, V⟩, q⟩ := t
      have hN : hasNm x = (K == 0 && !resv S && S == x) := by unfold hasNm; rw [hT]; rfl
      simp only at hsc
      have s1 := bs_toList x
      have s2 := bs_toList S
      clear hS hT h1 hm
      by_cases hK : K = 0
      · subst hK
        have hsc : Calls Tryz.prog 40 #[.string (bs x)] w fun e w' => ∃ g C, e = .returned (.tuple #[.slice (some ⟨g, 0, none⟩) 1 C, .int .i64 0, .int .i64 (-1)]) ∧ Below w.heap.size w w' ∧ g < w'.heap.size ∧ w'.cell? ⟨g, 0, none⟩ = some (.int .i64 0) ∧ w'.cell? ⟨g, 1, none⟩ = some (.string (bs S)) := hsc
        by_cases hSx : S = x
        · subst hSx
          rw [show hasNm S = !resv S by rw [hN]; simp]
          generalize resv S = R at hrv ⊢
          clear hN
          go_enter Tryz.func27, Tryz.ntmps27
          go_wp2_with (first
            | ((go_at_call 40)
               (refine hsc.mono ?_)
               (rintro e w1 ⟨g, C, rfl, hb1, hg, c0, c1⟩))
            | ((go_at_call 41)
               (refine (hrv _).mono ?_)
               (rintro e w2 ⟨rfl, hb2⟩)
               (have d0 := below_some hb2 c0)
               (have d1 := below_some hb2 c1)))
          go_ret
          exact ⟨rfl, hb1.trans (hb2.mono hb1.size)⟩
        · have hbx : (S == x) = false := by simpa using hSx
          rw [show hasNm x = false by rw [hN, hbx]; simp]
          clear hN
          go_enter Tryz.func27, Tryz.ntmps27
          go_wp2_with (first
            | ((go_at_call 40)
               (refine hsc.mono ?_)
               (rintro e w1 ⟨g, C, rfl, hb1, hg, c0, c1⟩))
            | ((go_at_call 41)
               (refine (hrv _).mono ?_)
               (rintro e w2 ⟨rfl, hb2⟩)
               (have d0 := below_some hb2 c0)
               (have d1 := below_some hb2 c1)))
          go_ret
          exact ⟨rfl, hb1.trans (hb2.mono hb1.size)⟩
      · have hK' : ¬ ((K : Nat) : Int) = 0 := by omega
        rw [show hasNm x = false by rw [hN]; simp [hK]]
        clear hN
        go_enter Tryz.func27, Tryz.ntmps27
        go_wp2_with (first
          | ((go_at_call 40)
             (refine hsc.mono ?_)
             (rintro e w1 ⟨g, C, rfl, hb1, hg, c0, c1⟩))
          | ((go_at_call 41)
             (refine (hrv _).mono ?_)
             (rintro e w2 ⟨rfl, hb2⟩)
             (have d0 := below_some hb2 c0)
             (have d1 := below_some hb2 c1)))
        go_ret
        exact ⟨rfl, hb1.trans (hb2.mono hb1.size)⟩
    · have hsc := rscan_ok_c x w hm hS
      have hlen := (Scan_len hS).1
      rw [show hasNm x = false by unfold hasNm; rw [tok1_many hS h1]]
      have hsc : Calls Tryz.prog 40 #[.string (bs x)] w fun e w' => ∃ A C, e = .returned (.tuple #[.slice A ts.length C, .int .i64 0, .int .i64 (-1)]) ∧ Below w.heap.size w w' := hsc.mono fun e w' ⟨A, C, h1, h2, _⟩ => ⟨A, C, h1, h2⟩
      clear hS
      generalize ts.length = L at *
      have hL' : ¬ ((L : Nat) : Int) = 1 := by omega
      go_enter Tryz.func27, Tryz.ntmps27
      go_wp2_with (first
        | ((go_at_call 40)
           (refine hsc.mono ?_)
           (rintro e w1 ⟨A, C, rfl, hb1⟩))
        | ((go_at_call 41)
           (refine (hrv _).mono ?_)
           (rintro e w2 ⟨rfl, hb2⟩)))
      go_ret
      exact ⟨rfl, hb1.trans (hb2.mono hb1.size)⟩
  · have hno : ∀ ts, Scan x ≠ .ok ts := fun ts h => hS ⟨ts, h⟩
    obtain ⟨er, o, he, hsc⟩ := rscan_no_c x hm hno
    have he' : ¬ ((er : Nat) : Int) = 0 := by omega
    rw [show hasNm x = false by unfold hasNm; rw [tok1_none hno]]
    clear hS hno he hm
    go_enter Tryz.func27, Tryz.ntmps27
    go_wp2_with (first
      | ((go_at_call 40)
         (refine (hsc _).mono ?_)
         (rintro e w1 ⟨rfl, hb1⟩))
      | ((go_at_call 41)
         (refine (hrv _).mono ?_)
         (rintro e w2 ⟨rfl, hb2⟩)))
    go_ret
    exact ⟨rfl, hb1.trans (hb2.mono hb1.size)⟩
set_option maxRecDepth 100000 in
set_option maxHeartbeats 2000000 in
theorem rhex_c (x : List UInt8) (w : World) (hm : x.length < maxLen) : Calls Tryz.prog 42 #[.string (bs x)] w (Yes w (hasHx x)) := by
  have hm2 : (36 :: x).length ≤ maxLen := by simp only [List.length_cons]; omega
  have e36 : (⟨#[36]⟩ : ByteArray) ++ bs x = bs (36 :: x) := by rw [show (⟨#[36]⟩ : ByteArray) = bs [36] from rfl, bs_cat]; rfl
  have hsz2 : ((bs x).size : Int) < 9223372036854775807 := by have := bs_size x; unfold maxLen at hm; omega
  have s1 := bs_toList x
  by_cases hS : ∃ ts, Scan (36 :: x) = .ok ts
  · obtain ⟨ts, hS⟩ := hS
    by_cases h1 : ts.length = 1
    · obtain ⟨t, rfl⟩ := List.length_eq_one_iff.1 h1
      have hsc := fun W => rscan_one_c (36 :: x) W hm2 hS
      rw [← e36] at hsc
      have hT : tok1 (36 :: x) = some t := by unfold tok1; rw [hS]
      obtain ⟨⟨K, S, V⟩, q⟩ := t
      have hN : hasHx x = (K == 2 && S == x) := by unfold hasHx; rw [hT]
      simp only at hsc
      have s2 := bs_toList S
      clear hS hT h1 hm hm2 e36
      by_cases hK : K = 2
      · subst hK
        have hsc : ∀ W, Calls Tryz.prog 40 #[.string (⟨#[36]⟩ ++ bs x)] W fun e w' => ∃ g C, e = .returned (.tuple #[.slice (some ⟨g, 0, none⟩) 1 C, .int .i64 0, .int .i64 (-1)]) ∧ Below W.heap.size W w' ∧ g < w'.heap.size ∧ w'.cell? ⟨g, 0, none⟩ = some (.int .i64 2) ∧ w'.cell? ⟨g, 1, none⟩ = some (.string (bs S)) := hsc
        by_cases hSx : S = x
        · subst hSx
          rw [show hasHx S = true by rw [hN]; simp]
          clear hN
          go_enter Tryz.func42, Tryz.ntmps42
          go_wp2_with (first
            | ((go_at_call 40)
               (refine (hsc _).mono ?_)
               (rintro e w1 ⟨g, C, rfl, hb1, hg, c0, c1⟩)))
          go_ret
          exact ⟨rfl, hb1⟩
        · have hbx : (S == x) = false := by simpa using hSx
          rw [show hasHx x = false by rw [hN, hbx]; simp]
          clear hN
          go_enter Tryz.func42, Tryz.ntmps42
          go_wp2_with (first
            | ((go_at_call 40)
               (refine (hsc _).mono ?_)
               (rintro e w1 ⟨g, C, rfl, hb1, hg, c0, c1⟩)))
          go_ret
          exact ⟨rfl, hb1⟩
      · have hK' : ¬ ((K : Nat) : Int) = 2 := by omega
        rw [show hasHx x = false by rw [hN]; simp [hK]]
        clear hN
        go_enter Tryz.func42, Tryz.ntmps42
        go_wp2_with (first
          | ((go_at_call 40)
             (refine (hsc _).mono ?_)
             (rintro e w1 ⟨g, C, rfl, hb1, hg, c0, c1⟩)))
        go_ret
        exact ⟨rfl, hb1⟩
    · have hsc := fun W => rscan_ok_c (36 :: x) W hm2 hS
      rw [← e36] at hsc
      have hlen := (Scan_len hS).1
      rw [show hasHx x = false by unfold hasHx; rw [tok1_many hS h1]]
      have hsc : ∀ W, Calls Tryz.prog 40 #[.string (⟨#[36]⟩ ++ bs x)] W fun e w' => ∃ A C, e = .returned (.tuple #[.slice A ts.length C, .int .i64 0, .int .i64 (-1)]) ∧ Below W.heap.size W w' := fun W => (hsc W).mono fun e w' ⟨A, C, h1, h2, _⟩ => ⟨A, C, h1, h2⟩
      clear hS e36
      generalize ts.length = L at *
      have hL' : ¬ ((L : Nat) : Int) = 1 := by omega
      go_enter Tryz.func42, Tryz.ntmps42
      go_wp2_with (first
        | ((go_at_call 40)
           (refine (hsc _).mono ?_)
           (rintro e w1 ⟨A, C, rfl, hb1⟩)))
      go_ret
      exact ⟨rfl, hb1⟩
  · have hno : ∀ ts, Scan (36 :: x) ≠ .ok ts := fun ts h => hS ⟨ts, h⟩
    obtain ⟨er, o, he, hsc⟩ := rscan_no_c (36 :: x) hm2 hno
    rw [← e36] at hsc
    have he' : ¬ ((er : Nat) : Int) = 0 := by omega
    rw [show hasHx x = false by unfold hasHx; rw [tok1_none hno]]
    clear hS hno he hm hm2 e36
    generalize ((er : Nat) : Int) = E at hsc he'
    generalize ((o : Nat) : Int) = O at hsc
    go_enter Tryz.func42, Tryz.ntmps42
    go_wp2_with (first
      | ((go_at_call 40)
         (refine (hsc _).mono ?_)
         (rintro e w1 ⟨rfl, hb1⟩)))
    go_ret
    exact ⟨rfl, hb1⟩
end Go.Proofs.YtpckmllmjdafpaaGreatDoor
