/- The reference's leaf. -/
import Derived.Test.YtpckmllmjdafpaaGreatDoorPrName
namespace Go.Proofs.YtpckmllmjdafpaaGreatDoor
open Go.ChangeShapes Go.WideShapes Go.ChangeAt Go.RowKit
set_option linter.unusedVariables false

theorem bel_pa0 {w w1 : World} {o : Obj} (h : Below (w.alloc o).heap.size (w.alloc o) w1) : Below w.heap.size w w1 := (b_one w o).trans (h.mono (by simp))

def useOk (n : Nd) : Bool := n.op == wUse && hasNm n.s && decide (n.n = 0) && decide (n.l.length = 0)

set_option maxRecDepth 100000 in
set_option maxHeartbeats 2000000 in
theorem leafNum_c (n : Nd) (A : Option Addr) (L C : Nat) (w : World) (hm : n.s.length < maxLen) (hlL : L = n.l.length) (hL : L ≤ 9223372036854775807) : Calls Tryz.prog 28 #[.agg (ndc n (.slice A L C)), .string ⟨#[110, 117, 109]⟩] w (Yes w (partOk (fun _ => false) .nu n)) := by
  have hsz := bs_size n.s
  have ho := bs_toList n.op
  have hs := bs_toList n.s
  obtain ⟨B, hB⟩ : ∃ B, B = partOk (fun _ => false) .nu n := ⟨_, rfl⟩
  rw [← hB]
  replace hB : B = (n.op == wNum && n.s == [] && numOk n.n && decide (n.l.length = 0)) := hB
  rw [← hlL] at hB
  unfold ndc
  clear hlL hsz hm
  generalize n.n = M at *
  generalize n.a = at_ at *
  cases e1 : (n.op == wNum)
  · have e1' : (n.op == [110, 117, 109]) = false := e1
    obtain rfl : B = false := by rw [hB, e1]; rfl
    clear e1 hB
    go_enter Tryz.func28, Tryz.ntmps28
    go_wp2
    go_ret
    exact ⟨rfl, b_one _ _⟩
  · have e1' : (n.op == [110, 117, 109]) = true := e1
    rw [e1] at hB
    clear e1
    by_cases hL0 : L = 0
    · subst hL0
      by_cases hS : n.s = []
      · have hS' : (n.s == []) = true := by simpa using hS
        rcases (by omega : M < 0 ∨ (0 ≤ M ∧ 999999999 < M) ∨ (0 ≤ M ∧ M ≤ 999999999)) with h1 | ⟨h1, h2⟩ | ⟨h1, h2⟩
        · obtain rfl : B = false := by rw [hB, show numOk M = false by unfold numOk; simp; omega]; simp
          clear hB hS
          go_enter Tryz.func28, Tryz.ntmps28
          go_wp2
          go_ret
          exact ⟨rfl, b_one _ _⟩
        · obtain rfl : B = false := by rw [hB, show numOk M = false by unfold numOk; simp; omega]; simp
          clear hB hS
          have h3 := decide_eq_false (show ¬ M ≤ 999999999 by omega)
          go_enter Tryz.func28, Tryz.ntmps28
          go_wp2
          go_ret
          exact ⟨rfl, b_one _ _⟩
        · obtain rfl : B = true := by rw [hB, show numOk M = true by unfold numOk; simp; omega, hS']; rfl
          clear hB hS
          go_enter Tryz.func28, Tryz.ntmps28
          go_wp2
          go_ret
          exact ⟨rfl, b_one _ _⟩
      · have hS' : (n.s == []) = false := by simpa using hS
        obtain rfl : B = false := by rw [hB, hS']; simp
        clear hB hS
        go_enter Tryz.func28, Tryz.ntmps28
        go_wp2
        go_ret
        exact ⟨rfl, b_one _ _⟩
    · have hL1 : (0 : Int) < (L : Int) := by omega
      obtain rfl : B = false := by rw [hB]; simp [hL0]
      clear hB
      go_enter Tryz.func28, Tryz.ntmps28
      go_wp2
      go_ret
      exact ⟨rfl, b_one _ _⟩

set_option maxRecDepth 100000 in
set_option maxHeartbeats 2000000 in
theorem leafHex_c (n : Nd) (A : Option Addr) (L C : Nat) (w : World) (hm : n.s.length < maxLen) (hlL : L = n.l.length) (hL : L ≤ 9223372036854775807) : Calls Tryz.prog 28 #[.agg (ndc n (.slice A L C)), .string ⟨#[104, 101, 120]⟩] w (Yes w (hexOk n)) := by
  have hsz := bs_size n.s
  have ho := bs_toList n.op
  have hs := bs_toList n.s
  have hnm := fun W => rhex_c n.s W hm
  obtain ⟨B, hB⟩ : ∃ B, B = hexOk n := ⟨_, rfl⟩
  rw [← hB]
  replace hB : B = (n.op == wHex && hasHx n.s && decide (n.n = 0) && decide (n.l.length = 0)) := hB
  rw [← hlL] at hB
  unfold ndc
  clear hlL hsz hm
  generalize hasHx n.s = H at *
  generalize n.n = M at *
  generalize n.a = at_ at *
  cases e1 : (n.op == wHex)
  · have e1' : (n.op == [104, 101, 120]) = false := e1
    obtain rfl : B = false := by rw [hB, e1]; rfl
    clear e1 hB
    go_enter Tryz.func28, Tryz.ntmps28
    go_wp2
    go_ret
    exact ⟨rfl, b_one _ _⟩
  · have e1' : (n.op == [104, 101, 120]) = true := e1
    rw [e1] at hB
    clear e1
    by_cases hL0 : L = 0
    · subst hL0
      by_cases hM : M = 0
      · subst hM
        obtain rfl : B = H := by rw [hB]; simp
        clear hB
        go_enter Tryz.func28, Tryz.ntmps28
        go_wp2_with (first
          | ((go_at_call 42)
             (refine (hnm _).mono ?_)
             (rintro e w1 ⟨rfl, hb1⟩)
             (have hN1 := (Has.new w _ _).below hb1 (by simp))
             (have n2 := hN1.cell 2)))
        go_ret
        exact ⟨rfl, bel_pa0 hb1⟩
      · have hMb : (M == 0) = false := by simpa using hM
        obtain rfl : B = false := by rw [hB]; simp [hM]
        clear hB
        go_enter Tryz.func28, Tryz.ntmps28
        go_wp2_with (first
          | ((go_at_call 42)
             (refine (hnm _).mono ?_)
             (rintro e w1 ⟨rfl, hb1⟩)
             (have hN1 := (Has.new w _ _).below hb1 (by simp))
             (have n2 := hN1.cell 2)))
        go_ret
        exact ⟨rfl, bel_pa0 hb1⟩
    · have hL1 : (0 : Int) < (L : Int) := by omega
      obtain rfl : B = false := by rw [hB]; simp [hL0]
      clear hB
      go_enter Tryz.func28, Tryz.ntmps28
      go_wp2
      go_ret
      exact ⟨rfl, b_one _ _⟩

set_option maxRecDepth 100000 in
set_option maxHeartbeats 2000000 in
theorem leafName_c (n : Nd) (A : Option Addr) (L C : Nat) (w : World) (hm : n.s.length < maxLen) (hlL : L = n.l.length) (hL : L ≤ 9223372036854775807) : Calls Tryz.prog 28 #[.agg (ndc n (.slice A L C)), .string ⟨#[110, 97, 109, 101]⟩] w (Yes w (partOk (fun _ => false) .na n)) := by
  have hsz := bs_size n.s
  have ho := bs_toList n.op
  have hs := bs_toList n.s
  have hnm := fun W => rname_c n.s W (by omega)
  obtain ⟨B, hB⟩ : ∃ B, B = partOk (fun _ => false) .na n := ⟨_, rfl⟩
  rw [← hB]
  replace hB : B = (n.op == wName && hasNm n.s && decide (n.n = 0) && decide (n.l.length = 0)) := hB
  rw [← hlL] at hB
  unfold ndc
  clear hlL hsz hm
  generalize hasNm n.s = H at *
  generalize n.n = M at *
  generalize n.a = at_ at *
  cases e1 : (n.op == wName)
  · have e1' : (n.op == [110, 97, 109, 101]) = false := e1
    obtain rfl : B = false := by rw [hB, e1]; rfl
    clear e1 hB
    go_enter Tryz.func28, Tryz.ntmps28
    go_wp2
    go_ret
    exact ⟨rfl, b_one _ _⟩
  · have e1' : (n.op == [110, 97, 109, 101]) = true := e1
    rw [e1] at hB
    clear e1
    by_cases hL0 : L = 0
    · subst hL0
      by_cases hM : M = 0
      · subst hM
        obtain rfl : B = H := by rw [hB]; simp
        clear hB
        go_enter Tryz.func28, Tryz.ntmps28
        go_wp2_with (first
          | ((go_at_call 27)
             (refine (hnm _).mono ?_)
             (rintro e w1 ⟨rfl, hb1⟩)
             (have hN1 := (Has.new w _ _).below hb1 (by simp))
             (have n2 := hN1.cell 2)))
        go_ret
        exact ⟨rfl, bel_pa0 hb1⟩
      · have hMb : (M == 0) = false := by simpa using hM
        obtain rfl : B = false := by rw [hB]; simp [hM]
        clear hB
        go_enter Tryz.func28, Tryz.ntmps28
        go_wp2_with (first
          | ((go_at_call 27)
             (refine (hnm _).mono ?_)
             (rintro e w1 ⟨rfl, hb1⟩)
             (have hN1 := (Has.new w _ _).below hb1 (by simp))
             (have n2 := hN1.cell 2)))
        go_ret
        exact ⟨rfl, bel_pa0 hb1⟩
    · have hL1 : (0 : Int) < (L : Int) := by omega
      obtain rfl : B = false := by rw [hB]; simp [hL0]
      clear hB
      go_enter Tryz.func28, Tryz.ntmps28
      go_wp2
      go_ret
      exact ⟨rfl, b_one _ _⟩

set_option maxRecDepth 100000 in
set_option maxHeartbeats 2000000 in
theorem leafUse_c (n : Nd) (A : Option Addr) (L C : Nat) (w : World) (hm : n.s.length < maxLen) (hlL : L = n.l.length) (hL : L ≤ 9223372036854775807) : Calls Tryz.prog 28 #[.agg (ndc n (.slice A L C)), .string ⟨#[117, 115, 101]⟩] w (Yes w (useOk n)) := by
  have hsz := bs_size n.s
  have ho := bs_toList n.op
  have hs := bs_toList n.s
  have hnm := fun W => rname_c n.s W (by omega)
  obtain ⟨B, hB⟩ : ∃ B, B = useOk n := ⟨_, rfl⟩
  rw [← hB]
  replace hB : B = (n.op == wUse && hasNm n.s && decide (n.n = 0) && decide (n.l.length = 0)) := hB
  rw [← hlL] at hB
  unfold ndc
  clear hlL hsz hm
  generalize hasNm n.s = H at *
  generalize n.n = M at *
  generalize n.a = at_ at *
  cases e1 : (n.op == wUse)
  · have e1' : (n.op == [117, 115, 101]) = false := e1
    obtain rfl : B = false := by rw [hB, e1]; rfl
    clear e1 hB
    go_enter Tryz.func28, Tryz.ntmps28
    go_wp2
    go_ret
    exact ⟨rfl, b_one _ _⟩
  · have e1' : (n.op == [117, 115, 101]) = true := e1
    rw [e1] at hB
    clear e1
    by_cases hL0 : L = 0
    · subst hL0
      by_cases hM : M = 0
      · subst hM
        obtain rfl : B = H := by rw [hB]; simp
        clear hB
        go_enter Tryz.func28, Tryz.ntmps28
        go_wp2_with (first
          | ((go_at_call 27)
             (refine (hnm _).mono ?_)
             (rintro e w1 ⟨rfl, hb1⟩)
             (have hN1 := (Has.new w _ _).below hb1 (by simp))
             (have n2 := hN1.cell 2)))
        go_ret
        exact ⟨rfl, bel_pa0 hb1⟩
      · have hMb : (M == 0) = false := by simpa using hM
        obtain rfl : B = false := by rw [hB]; simp [hM]
        clear hB
        go_enter Tryz.func28, Tryz.ntmps28
        go_wp2_with (first
          | ((go_at_call 27)
             (refine (hnm _).mono ?_)
             (rintro e w1 ⟨rfl, hb1⟩)
             (have hN1 := (Has.new w _ _).below hb1 (by simp))
             (have n2 := hN1.cell 2)))
        go_ret
        exact ⟨rfl, bel_pa0 hb1⟩
    · have hL1 : (0 : Int) < (L : Int) := by omega
      obtain rfl : B = false := by rw [hB]; simp [hL0]
      clear hB
      go_enter Tryz.func28, Tryz.ntmps28
      go_wp2
      go_ret
      exact ⟨rfl, b_one _ _⟩

end Go.Proofs.YtpckmllmjdafpaaGreatDoor
