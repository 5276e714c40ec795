/- The walk of CodecApart. -/
import Derived.Test.YtbiicdehgogikaaCdBoth
namespace Go.Proofs.Ytbiicdehgogikaa
open Go.ChangeShapes Go.WideShapes Go.ChangeAt Go.RowKit
set_option linter.unusedVariables false

theorem apart_has (i s : Nat) (h1 : 1 ≤ s) (h2 : s ≤ 64) (h : (i : Int) < Int.tdiv 64 (s : Int)) : inF 64 (i : Int) (s : Int) :=
  ⟨rfl, by omega, by omega, by omega, (inF_div i s (by omega) (by omega) (by omega)).2 h⟩

/-- A field that is set is read as it was set, all others as they were. -/
theorem fld_sfld (f g : Nat → Nat) (i k s : Nat) (h1 : 1 ≤ s) (j : Nat) (hj : j < s) : fld (sfld f k s g) i s j = if i = k then g j else fld f i s j := by
  unfold fld sfld over
  by_cases h : i = k
  · subst h
    rw [if_pos (by omega), if_pos rfl, show i * s + j - i * s = j by omega]
  · rw [if_neg h, if_neg]
    intro hh
    rcases Nat.lt_or_gt_of_ne h with hlt | hgt
    · have : (i + 1) * s ≤ k * s := Nat.mul_le_mul_right s hlt
      rw [Nat.succ_mul] at this
      omega
    · have : (k + 1) * s ≤ i * s := Nat.mul_le_mul_right s hgt
      rw [Nat.succ_mul] at this
      omega

set_option maxRecDepth 100000 in
set_option maxHeartbeats 1000000 in
theorem apart_walk (w : World) (a A : Option Addr) (L C s AC : Nat) (I S : Int) (f g : Nat → Nat) (ha : ByIn w a L C f) (hA : ByIn w A s AC g) (hI : i64ok I) (hS : i64ok S) :
    Calls Try.prog 6 #[.agg #[.slice a L C, .int .i64 I, .int .i64 S], .slice A s AC] w fun e w' => e = .returned (.bool true) ∧ Below w.heap.size w w' := by
  obtain ⟨wx, hwx⟩ : ∃ wx, wx = w.alloc (.cells #[.slice a L C, .int .i64 I, .int .i64 S] 34) := ⟨_, rfl⟩
  have hbx : Below w.heap.size w wx := by rw [hwx]; exact (Below.refl _ _).alloc (Nat.le_refl _) _
  have hx : Has wx w.heap.size 34 #[.slice a L C, .int .i64 I, .int .i64 S] := by rw [hwx]; exact Has.new _ _ _
  have c0 : wx.cell? ⟨w.heap.size, 0, none⟩ = some (.slice a L C) := hx.cell 0
  have c1 : wx.cell? ⟨w.heap.size, 1, none⟩ = some (.int .i64 I) := hx.cell 1
  by_cases hin : inF L I (s : Int)
  · obtain ⟨i', s', rfl, hs', rfl⟩ := inF_toNat hin
    clear hs'
    obtain ⟨h1, h2, h3, h4⟩ := inF_nat hin
    have hst := tells_own (setf_yes i' s (ha.at_.below hbx (Nat.le_refl _)) ha.le (hA.at_.below hbx (Nat.le_refl _)) hA.nil hin)
    have h7 : ¬ (s : Int) = 0 := by omega
    have h8 : ((s : Int) == 0) = false := by simp; omega
    have h6 := tdiv_bd (s : Int) (by omega) (by omega)
    subst hwx
    obtain ⟨Q, hQ⟩ : ∃ Q, Q = Int.tdiv 64 (s : Int) := ⟨_, rfl⟩
    have HQ : Hid (Q = Int.tdiv 64 (s : Int)) := hQ
    have hq : (64 : Int) / (s : Int) = Q := by rw [hQ, Int.tdiv_eq_ediv_of_nonneg (by decide)]
    rw [← hQ] at h6
    clear hQ
    go_enter Try.func6, Try.ntmps6
    go_wp2_with (first
      | ((go_at_call 18)
         (refine Calls.mono hst ?_)
         (rintro e w2 ⟨ua, uc, rfl, ub, un, ul, hb2⟩)
         (clear hst c0 c1)))
    have hbw2 := hbx.trans (hb2.mono hbx.size)
    have hx2 := hx.below hb2 hx.lt
    clear hbx hx hb2
    go_loopw [7] (fun iv wr => ∃ k : Nat, (k : Int) ≤ Q ∧ iv = .int .i64 (k : Nat) ∧ Below w2.heap.size w2 wr)
      (fun iv _ => (Q - intOf iv).toNat)
    case atStart => exact ⟨0, by omega, rfl, Below.refl _ _⟩
    case round =>
      obtain ⟨k, hk, rfl, hbr⟩ := hrel
      by_cases hlt : (k : Int) < Q
      · have hki := apart_has k s h1 h2 (by rw [← HQ.out]; exact hlt)
        have hxr := hx2.below hbr hx2.lt
        have r0 : wr.cell? ⟨w.heap.size, 0, none⟩ = some (.slice a 64 C) := hxr.cell 0
        have hbwr := hbw2.trans (hbr.mono hbw2.size)
        have F1 := tells_own (field_yes k s (ha.at_.below hbwr (Nat.le_refl _)) ha.le hki)
        by_cases hki' : k = i'
        · subst hki'
          go_wp2_with (first
            | ((go_at_call 16)
               (refine Calls.mono F1 ?_)
               (rintro e w3 ⟨xa, xc, rfl, xb, xn, _, hb3⟩)
               (clear F1 r0)
               (have hbr3 := hbr.trans (hb3.mono hbr.size))
               (have hxr3 := hx2.below hbr3 hx2.lt)
               (have r1 : w3.cell? ⟨w.heap.size, 1, none⟩ = some (.int .i64 (k : Nat)) := hxr3.cell 1)
               (have F2 := tells_own (field_yes k s (ub.below hbr3 (Nat.le_refl _)) ul hki)))
            | ((go_at_call 16)
               (refine Calls.mono F2 ?_)
               (rintro e w4 ⟨ya, yc, rfl, yb, yn, _, hb4⟩)
               (clear F2 r1)
               (have hbr4 := hbr3.trans (hb4.mono hbr3.size))
               (have hxr4 := hx2.below hbr4 hx2.lt)
               (have r1 : w4.cell? ⟨w.heap.size, 1, none⟩ = some (.int .i64 (k : Nat)) := hxr4.cell 1)
               (have xb4 := xb.below hb4 (Nat.le_refl _))
               (have hA4 := hA.at_.below (hbw2.trans (hbr4.mono hbw2.size)) (Nat.le_refl _))
               (have SS := same_true yc AC (yb.congr (m' := g) (fun j hj => by rw [fld_sfld f g k k s h1 j hj, if_pos rfl])) hA4 hA.byt (fun e => (yn e).1) (fun e => (hA.nil e).1)))
            | ((go_at_call 13)
               (refine SS.mono ?_)
               (rintro e w5 ⟨rfl, hw5⟩)
               (subst hw5)))
          go_roundw
          case rel => exact ⟨k + 1, by omega, by go_num, hbr4⟩
          case measure => simp [intOf]; omega
        · have hne : ¬ (k : Int) = (i' : Int) := by omega
          have HK : Hid (¬ k = i') := hki'
          clear hki'
          go_wp2_with (first
            | ((go_at_call 16)
               (refine Calls.mono F1 ?_)
               (rintro e w3 ⟨xa, xc, rfl, xb, xn, _, hb3⟩)
               (clear F1 r0)
               (have hbr3 := hbr.trans (hb3.mono hbr.size))
               (have hxr3 := hx2.below hbr3 hx2.lt)
               (have r1 : w3.cell? ⟨w.heap.size, 1, none⟩ = some (.int .i64 (i' : Nat)) := hxr3.cell 1)
               (have F2 := tells_own (field_yes k s (ub.below hbr3 (Nat.le_refl _)) ul hki)))
            | ((go_at_call 16)
               (refine Calls.mono F2 ?_)
               (rintro e w4 ⟨ya, yc, rfl, yb, yn, _, hb4⟩)
               (clear F2 r1)
               (have hbr4 := hbr3.trans (hb4.mono hbr3.size))
               (have hxr4 := hx2.below hbr4 hx2.lt)
               (have r1 : w4.cell? ⟨w.heap.size, 1, none⟩ = some (.int .i64 (i' : Nat)) := hxr4.cell 1)
               (have xb4 := xb.below hb4 (Nat.le_refl _))
               (have hA4 := hA.at_.below (hbw2.trans (hbr4.mono hbw2.size)) (Nat.le_refl _))
               (have SS := same_true yc xc (yb.congr (m' := fld f k s) (fun j hj => by rw [fld_sfld f g k i' s h1 j hj, if_neg HK.out])) xb4 (fld_lt ha.byt k s) (fun e => (yn e).1) (fun e => (xn e).1)))
            | ((go_at_call 13)
               (refine SS.mono ?_)
               (rintro e w5 ⟨rfl, hw5⟩)
               (subst hw5)))
          go_roundw
          case rel => exact ⟨k + 1, by omega, by go_num, hbr4⟩
          case measure => simp [intOf]; omega
      · have hno : ¬ (k : Int) < Q := hlt
        have AL := alive_any wr
        go_wp2_with (first
          | ((go_at_call 15)
             (refine AL.mono ?_)
             (rintro e w6 ⟨rfl, hb6⟩)))
        go_ret
        have hbr6 := hbr.trans (hb6.mono hbr.size)
        exact ⟨rfl, hbw2.trans (hbr6.mono hbw2.size)⟩
  · have hst := setf_no L s I a A C AC wx ha.max hI hA.max hin
    have AL := alive_any wx
    subst hwx
    go_enter Try.func6, Try.ntmps6
    go_wp2_with (first
      | ((go_at_call 18)
         (refine hst.mono ?_)
         (rintro e w2 ⟨rfl, hw2⟩)
         (subst hw2))
      | ((go_at_call 15)
         (refine AL.mono ?_)
         (rintro e w6 ⟨rfl, hb6⟩)))
    go_ret
    exact ⟨rfl, hbx.trans (hb6.mono hbx.size)⟩
end Go.Proofs.Ytbiicdehgogikaa
