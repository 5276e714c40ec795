/- Texts that the statements of this stage share, joined: LxTakeW, LxTakeF, LxTakeH, LxTok3, LxTokA, LxTokC1, LxTokC2, LxTokC3. -/
import Derived.Test.YtpckmllmjdafpaaGreatDoorJoint01
import Derived.RegionTactic

/- Bytes of one kind are taken. -/
namespace Go.Proofs.YtpckmllmjdafpaaGreatDoor
open Go.ChangeShapes Go.WideShapes Go.ChangeAt Go.RowKit
set_option linter.unusedVariables false

set_option maxRecDepth 100000 in
set_option maxHeartbeats 1000000 in
theorem take_word {w : World} {P Q S i : Nat} (l : List UInt8) (hP : Has w P 3 #[.int .i64 (i : Nat)]) (hQ : Has w Q 75 #[pt P]) (hS : Has w S 9 #[.string (bs l)]) (hQP : Q ≠ P) (hSP : S ≠ P) (hi : i ≤ l.length) (hl : l.length ≤ 2000) :
    Calls Tryz.prog 61 #[.func (.func 63) #[] #[], pt Q, pt S] w (TookK w P l i (cnt isWdy (l.drop i))) := by
  have hsz := bs_size l
  have p0 : w.cell? ⟨P, 0, none⟩ = some (.int .i64 (i : Nat)) := hP.cell 0
  have q0 : w.cell? ⟨Q, 0, none⟩ = some (pt P) := hQ.cell 0
  have hi2 : i ≤ 2000 := by omega
  have HS : Hid ((bs l).size = l.length) := hsz
  clear hsz
  go_enter Tryz.func61, Tryz.ntmps61
  go_wp2
  go_loopw [] (fun wr => ∃ k : Nat, k ≤ cnt isWdy (l.drop i) ∧ i + k ≤ l.length ∧ Moved w wr P (i + k)) (fun wr => 2000 - atP wr P)
  case atStart => exact ⟨0, Nat.zero_le _, by omega, Moved.refl hP⟩
  case round =>
    obtain ⟨k, hk, hkl, hm⟩ := hrel
    have p1 : wr.cell? ⟨P, 0, none⟩ = some (.int .i64 ((i + k : Nat) : Int)) := hm.has.cell 0
    have q1 : wr.cell? ⟨Q, 0, none⟩ = some (pt P) := (hm.other hQ hQP).cell 0
    have s1 : wr.cell? ⟨S, 0, none⟩ = some (.string (bs l)) := (hm.other hS hSP).cell 0
    have f1 : wr.frozen? ⟨P, 0, none⟩ = false := hm.has.free 0
    obtain ⟨J, hJ⟩ : ∃ J, J = i + k := ⟨_, rfl⟩
    rw [← hJ] at p1
    have HJ : Hid (J = i + k) := hJ
    clear hJ p0 q0
    have hJ2 : J ≤ 2000 := by have := HJ.out; omega
    by_cases hlt : i + k < l.length
    · have h1 : J < (bs l).size := by rw [HS.out, HJ.out]; exact hlt
      have h2 : ((J : Nat) : Int) < ((bs l).size : Int) := by omega
      have hget : (bs l)[J]'h1 = l[i + k] := by rw [bs_get]; simp only [HJ.out]
      have ht := fun W => word_tells ((bs l)[J]'h1) W
      cases hc : isWdy (l[i + k])
      · have hb : isWdy ((bs l)[J]'h1) = false := by rw [hget]; exact hc
        rw [hb] at ht
        have hn := cnt_stop hk hlt hc
        have HN : Hid (k = cnt isWdy (l.drop i)) := hn
        clear hn hb hget hc
        have b1 : ((i : Nat) : Int) ≤ ((J : Nat) : Int) := by have := HJ.out; omega
        have b2 : ((J : Nat) : Int) ≤ ((bs l).size : Int) := by omega
        go_wp2_with fail
        go_quiet ((go_at_call 63; exact Calls.quiet_of_same (ht _)))
        go_wp2
        go_quiet (fail)
        go_wp2
        go_ret
        exact took_end HJ.out HN.out ((hm.drewN _).drewN _)
      · have hb : isWdy ((bs l)[J]'h1) = true := by rw [hget]; exact hc
        rw [hb] at ht
        have hn := (cnt_at hk hlt).2 hc
        clear hb hget hc
        go_wp2_with fail
        go_quiet ((go_at_call 63; exact Calls.quiet_of_same (ht _)))
        go_wp2
        go_roundw
        case rel => exact ⟨k + 1, hn, by omega, took_step HJ.out (hm.drewN _)⟩
        case measure => exact took_less HJ.out (hm.drewN _) hJ2 hlt hl
    · have h1 : decide (J < (bs l).size) = false := by rw [decide_eq_false_iff_not, HS.out, HJ.out]; omega
      have h2 : decide (((J : Nat) : Int) < ((bs l).size : Int)) = false := by rw [decide_eq_false_iff_not, HS.out, HJ.out]; omega
      have hn := cnt_end hk hlt hi
      have HN : Hid (k = cnt isWdy (l.drop i)) := hn
      have b1 : ((i : Nat) : Int) ≤ ((J : Nat) : Int) := by have := HJ.out; omega
      have b2 : ((J : Nat) : Int) ≤ ((bs l).size : Int) := by rw [HS.out, HJ.out]; omega
      clear hn
      go_wp2_with fail
      go_quiet (fail)
      go_wp2
      go_quiet (fail)
      go_wp2
      go_ret
      exact took_end HJ.out HN.out ((hm.drewN _).drewN _)
end Go.Proofs.YtpckmllmjdafpaaGreatDoor

/- Bytes of one kind are taken. -/
namespace Go.Proofs.YtpckmllmjdafpaaGreatDoor
open Go.ChangeShapes Go.WideShapes Go.ChangeAt Go.RowKit
set_option linter.unusedVariables false

set_option maxRecDepth 100000 in
set_option maxHeartbeats 1000000 in
theorem take_figure {w : World} {P Q S i : Nat} (l : List UInt8) (hP : Has w P 3 #[.int .i64 (i : Nat)]) (hQ : Has w Q 75 #[pt P]) (hS : Has w S 9 #[.string (bs l)]) (hQP : Q ≠ P) (hSP : S ≠ P) (hi : i ≤ l.length) (hl : l.length ≤ 2000) :
    Calls Tryz.prog 61 #[.func (.func 49) #[] #[], pt Q, pt S] w (TookK w P l i (cnt isFig (l.drop i))) := by
  have hsz := bs_size l
  have p0 : w.cell? ⟨P, 0, none⟩ = some (.int .i64 (i : Nat)) := hP.cell 0
  have q0 : w.cell? ⟨Q, 0, none⟩ = some (pt P) := hQ.cell 0
  have hi2 : i ≤ 2000 := by omega
  have HS : Hid ((bs l).size = l.length) := hsz
  clear hsz
  go_enter Tryz.func61, Tryz.ntmps61
  go_wp2
  go_loopw [] (fun wr => ∃ k : Nat, k ≤ cnt isFig (l.drop i) ∧ i + k ≤ l.length ∧ Moved w wr P (i + k)) (fun wr => 2000 - atP wr P)
  case atStart => exact ⟨0, Nat.zero_le _, by omega, Moved.refl hP⟩
  case round =>
    obtain ⟨k, hk, hkl, hm⟩ := hrel
    have p1 : wr.cell? ⟨P, 0, none⟩ = some (.int .i64 ((i + k : Nat) : Int)) := hm.has.cell 0
    have q1 : wr.cell? ⟨Q, 0, none⟩ = some (pt P) := (hm.other hQ hQP).cell 0
    have s1 : wr.cell? ⟨S, 0, none⟩ = some (.string (bs l)) := (hm.other hS hSP).cell 0
    have f1 : wr.frozen? ⟨P, 0, none⟩ = false := hm.has.free 0
    obtain ⟨J, hJ⟩ : ∃ J, J = i + k := ⟨_, rfl⟩
    rw [← hJ] at p1
    have HJ : Hid (J = i + k) := hJ
    clear hJ p0 q0
    have hJ2 : J ≤ 2000 := by have := HJ.out; omega
    by_cases hlt : i + k < l.length
    · have h1 : J < (bs l).size := by rw [HS.out, HJ.out]; exact hlt
      have h2 : ((J : Nat) : Int) < ((bs l).size : Int) := by omega
      have hget : (bs l)[J]'h1 = l[i + k] := by rw [bs_get]; simp only [HJ.out]
      have ht := fun W => figure_tells ((bs l)[J]'h1) W
      cases hc : isFig (l[i + k])
      · have hb : isFig ((bs l)[J]'h1) = false := by rw [hget]; exact hc
        rw [hb] at ht
        have hn := cnt_stop hk hlt hc
        have HN : Hid (k = cnt isFig (l.drop i)) := hn
        clear hn hb hget hc
        have b1 : ((i : Nat) : Int) ≤ ((J : Nat) : Int) := by have := HJ.out; omega
        have b2 : ((J : Nat) : Int) ≤ ((bs l).size : Int) := by omega
        go_wp2_with fail
        go_quiet ((go_at_call 49; exact Calls.quiet_of_same (ht _)))
        go_wp2
        go_quiet (fail)
        go_wp2
        go_ret
        exact took_end HJ.out HN.out ((hm.drewN _).drewN _)
      · have hb : isFig ((bs l)[J]'h1) = true := by rw [hget]; exact hc
        rw [hb] at ht
        have hn := (cnt_at hk hlt).2 hc
        clear hb hget hc
        go_wp2_with fail
        go_quiet ((go_at_call 49; exact Calls.quiet_of_same (ht _)))
        go_wp2
        go_roundw
        case rel => exact ⟨k + 1, hn, by omega, took_step HJ.out (hm.drewN _)⟩
        case measure => exact took_less HJ.out (hm.drewN _) hJ2 hlt hl
    · have h1 : decide (J < (bs l).size) = false := by rw [decide_eq_false_iff_not, HS.out, HJ.out]; omega
      have h2 : decide (((J : Nat) : Int) < ((bs l).size : Int)) = false := by rw [decide_eq_false_iff_not, HS.out, HJ.out]; omega
      have hn := cnt_end hk hlt hi
      have HN : Hid (k = cnt isFig (l.drop i)) := hn
      have b1 : ((i : Nat) : Int) ≤ ((J : Nat) : Int) := by have := HJ.out; omega
      have b2 : ((J : Nat) : Int) ≤ ((bs l).size : Int) := by rw [HS.out, HJ.out]; omega
      clear hn
      go_wp2_with fail
      go_quiet (fail)
      go_wp2
      go_quiet (fail)
      go_wp2
      go_ret
      exact took_end HJ.out HN.out ((hm.drewN _).drewN _)
end Go.Proofs.YtpckmllmjdafpaaGreatDoor

/- Bytes of one kind are taken. -/
namespace Go.Proofs.YtpckmllmjdafpaaGreatDoor
open Go.ChangeShapes Go.WideShapes Go.ChangeAt Go.RowKit
set_option linter.unusedVariables false

set_option maxRecDepth 100000 in
set_option maxHeartbeats 1000000 in
theorem take_hex {w : World} {P Q S i : Nat} (l : List UInt8) (hP : Has w P 3 #[.int .i64 (i : Nat)]) (hQ : Has w Q 75 #[pt P]) (hS : Has w S 9 #[.string (bs l)]) (hQP : Q ≠ P) (hSP : S ≠ P) (hi : i ≤ l.length) (hl : l.length ≤ 2000) :
    Calls Tryz.prog 61 #[.func (.func 65) #[] #[], pt Q, pt S] w (TookK w P l i (cnt isHxy (l.drop i))) := by
  have hsz := bs_size l
  have p0 : w.cell? ⟨P, 0, none⟩ = some (.int .i64 (i : Nat)) := hP.cell 0
  have q0 : w.cell? ⟨Q, 0, none⟩ = some (pt P) := hQ.cell 0
  have hi2 : i ≤ 2000 := by omega
  have HS : Hid ((bs l).size = l.length) := hsz
  clear hsz
  go_enter Tryz.func61, Tryz.ntmps61
  go_wp2
  go_loopw [] (fun wr => ∃ k : Nat, k ≤ cnt isHxy (l.drop i) ∧ i + k ≤ l.length ∧ Moved w wr P (i + k)) (fun wr => 2000 - atP wr P)
  case atStart => exact ⟨0, Nat.zero_le _, by omega, Moved.refl hP⟩
  case round =>
    obtain ⟨k, hk, hkl, hm⟩ := hrel
    have p1 : wr.cell? ⟨P, 0, none⟩ = some (.int .i64 ((i + k : Nat) : Int)) := hm.has.cell 0
    have q1 : wr.cell? ⟨Q, 0, none⟩ = some (pt P) := (hm.other hQ hQP).cell 0
    have s1 : wr.cell? ⟨S, 0, none⟩ = some (.string (bs l)) := (hm.other hS hSP).cell 0
    have f1 : wr.frozen? ⟨P, 0, none⟩ = false := hm.has.free 0
    obtain ⟨J, hJ⟩ : ∃ J, J = i + k := ⟨_, rfl⟩
    rw [← hJ] at p1
    have HJ : Hid (J = i + k) := hJ
    clear hJ p0 q0
    have hJ2 : J ≤ 2000 := by have := HJ.out; omega
    by_cases hlt : i + k < l.length
    · have h1 : J < (bs l).size := by rw [HS.out, HJ.out]; exact hlt
      have h2 : ((J : Nat) : Int) < ((bs l).size : Int) := by omega
      have hget : (bs l)[J]'h1 = l[i + k] := by rw [bs_get]; simp only [HJ.out]
      have ht := fun W => hex_tells ((bs l)[J]'h1) W
      cases hc : isHxy (l[i + k])
      · have hb : isHxy ((bs l)[J]'h1) = false := by rw [hget]; exact hc
        rw [hb] at ht
        have hn := cnt_stop hk hlt hc
        have HN : Hid (k = cnt isHxy (l.drop i)) := hn
        clear hn hb hget hc
        have b1 : ((i : Nat) : Int) ≤ ((J : Nat) : Int) := by have := HJ.out; omega
        have b2 : ((J : Nat) : Int) ≤ ((bs l).size : Int) := by omega
        go_wp2_with fail
        go_quiet ((go_at_call 65; exact Calls.quiet_of_same (ht _)))
        go_wp2
        go_quiet (fail)
        go_wp2
        go_ret
        exact took_end HJ.out HN.out ((hm.drewN _).drewN _)
      · have hb : isHxy ((bs l)[J]'h1) = true := by rw [hget]; exact hc
        rw [hb] at ht
        have hn := (cnt_at hk hlt).2 hc
        clear hb hget hc
        go_wp2_with fail
        go_quiet ((go_at_call 65; exact Calls.quiet_of_same (ht _)))
        go_wp2
        go_roundw
        case rel => exact ⟨k + 1, hn, by omega, took_step HJ.out (hm.drewN _)⟩
        case measure => exact took_less HJ.out (hm.drewN _) hJ2 hlt hl
    · have h1 : decide (J < (bs l).size) = false := by rw [decide_eq_false_iff_not, HS.out, HJ.out]; omega
      have h2 : decide (((J : Nat) : Int) < ((bs l).size : Int)) = false := by rw [decide_eq_false_iff_not, HS.out, HJ.out]; omega
      have hn := cnt_end hk hlt hi
      have HN : Hid (k = cnt isHxy (l.drop i)) := hn
      have b1 : ((i : Nat) : Int) ≤ ((J : Nat) : Int) := by have := HJ.out; omega
      have b2 : ((J : Nat) : Int) ≤ ((bs l).size : Int) := by rw [HS.out, HJ.out]; omega
      clear hn
      go_wp2_with fail
      go_quiet (fail)
      go_wp2
      go_quiet (fail)
      go_wp2
      go_ret
      exact took_end HJ.out HN.out ((hm.drewN _).drewN _)
end Go.Proofs.YtpckmllmjdafpaaGreatDoor

/- A word, a number, hex: what is taken of each. -/
namespace Go.Proofs.YtpckmllmjdafpaaGreatDoor
open Go.ChangeShapes Go.WideShapes Go.ChangeAt Go.RowKit
set_option linter.unusedVariables false

/-- The world w' is w, but for the number j at P, and new memory. -/
def After (w w' : World) (P j : Nat) : Prop := ∃ w1, Moved w w1 P j ∧ Below w1.heap.size w1 w'

theorem Moved.after {w w' : World} {P j : Nat} (h : Moved w w' P j) : After w w' P j := ⟨w', h, Below.refl _ _⟩

theorem After.at_ {w w' : World} {P j : Nat} (h : After w w' P j) : Has w' P 3 #[.int .i64 (j : Nat)] := by
  obtain ⟨w1, hm, hb⟩ := h
  exact hm.has.below hb hm.has.lt

theorem After.other {w w' : World} {P j g t : Nat} {cs : Array Value} (h : After w w' P j) (hg : Has w g t cs) (hne : g ≠ P) : Has w' g t cs := by
  obtain ⟨w1, hm, hb⟩ := h
  have := hm.other hg hne
  exact this.below hb this.lt

theorem After.size {w w' : World} {P j : Nat} (h : After w w' P j) : w.heap.size ≤ w'.heap.size := by
  obtain ⟨w1, hm, hb⟩ := h
  rw [← hm.size]
  exact hb.size

theorem After.below {w w' : World} {P j B : Nat} (h : After w w' P j) (hB : B ≤ P) (hw : B ≤ w.heap.size) : Below B w w' := by
  obtain ⟨w1, hm, hb⟩ := h
  exact (hm.below hB hw).trans (hb.mono (by rw [hm.size]; exact hw))

abbrev clo (Q S : Nat) : Value := .func (.func 61) #[] #[pt Q, pt S]

/-- What is told of what was taken. -/
def TokR (w : World) (P j : Nat) (v : Value) (er : Int) (e : Ending) (w' : World) : Prop := e = .returned (.tuple #[v, .int .i64 er]) ∧ After w w' P j

theorem len_bs (l : List UInt8) (p : UInt8 → Bool) (j : Nat) : (bs ((l.drop j).take (cnt p (l.drop j)))).size = cnt p (l.drop j) := by
  rw [bs_size, List.length_take, Nat.min_eq_left (cnt_le _ _)]

set_option maxRecDepth 100000 in
set_option maxHeartbeats 1000000 in
theorem word_ok {w0 w : World} {P Q S j : Nat} {l : List UInt8} (hC : Clo w0 w P Q S j l) (hl : l.length ≤ 2000) (h : ¬ 16 < cnt isWdy (l.drop j)) :
    Calls Tryz.prog 48 #[clo Q S] w (TokR w P (j + cnt isWdy (l.drop j)) (.string (bs ((l.drop j).take (cnt isWdy (l.drop j))))) 0) := by
  have ht := take_word l hC.at_ hC.q hC.s hC.qp hC.sp hC.le hl
  unfold TookK at ht
  have hz := len_bs l isWdy j
  generalize (l.drop j).take (cnt isWdy (l.drop j)) = X at hz ht ⊢
  have h1 : ¬ (16 : Int) < ((bs X).size : Int) := by omega
  clear hz
  go_enter Tryz.func48, Tryz.ntmps48
  go_wp2_with (go_at_call 61; refine ht.mono ?_; rintro e w1 ⟨rfl, hm⟩)
  go_ret2
  exact ⟨rfl, hm.after⟩

set_option maxRecDepth 100000 in
set_option maxHeartbeats 1000000 in
theorem word_long {w0 w : World} {P Q S j : Nat} {l : List UInt8} (hC : Clo w0 w P Q S j l) (hl : l.length ≤ 2000) (h : 16 < cnt isWdy (l.drop j)) :
    Calls Tryz.prog 48 #[clo Q S] w (TokR w P (j + cnt isWdy (l.drop j)) (.string (bs [])) 102) := by
  have ht := take_word l hC.at_ hC.q hC.s hC.qp hC.sp hC.le hl
  unfold TookK at ht
  have hz := len_bs l isWdy j
  generalize (l.drop j).take (cnt isWdy (l.drop j)) = X at hz ht ⊢
  have h1 : (16 : Int) < ((bs X).size : Int) := by omega
  clear hz
  go_enter Tryz.func48, Tryz.ntmps48
  go_wp2_with (go_at_call 61; refine ht.mono ?_; rintro e w1 ⟨rfl, hm⟩)
  go_ret2
  exact ⟨rfl, hm.after⟩

set_option maxRecDepth 100000 in
set_option maxHeartbeats 1000000 in
theorem number_ok {w0 w : World} {P Q S j : Nat} {l : List UInt8} (hC : Clo w0 w P Q S j l) (hl : l.length ≤ 2000) (h : ¬ 9 < cnt isFig (l.drop j)) (h0 : cnt isFig (l.drop j) ≠ 0) :
    Calls Tryz.prog 50 #[clo Q S] w (TokR w P (j + cnt isFig (l.drop j)) (.int .i64 (val ((l.drop j).take (cnt isFig (l.drop j))) : Nat)) 0) := by
  have ht := take_figure l hC.at_ hC.q hC.s hC.qp hC.sp hC.le hl
  unfold TookK at ht
  have hz := len_bs l isFig j
  have hfig : ∀ c ∈ (l.drop j).take (cnt isFig (l.drop j)), isFig c = true := mem_cnt
  generalize (l.drop j).take (cnt isFig (l.drop j)) = X at hz ht hfig ⊢
  have h1 : ¬ (9 : Int) < ((bs X).size : Int) := by omega
  have h2 : X ≠ [] := by rintro rfl; rw [bs_size] at hz; exact h0 hz.symm
  have h3 : X.length ≤ 9 := by rw [bs_size] at hz; omega
  have ha := fun W => atoi_c X W h2 h3 hfig
  clear hz hfig h2 h3
  go_enter Tryz.func50, Tryz.ntmps50
  go_wp2_with (first
    | (go_at_call 61; refine ht.mono ?_; rintro e w1 ⟨rfl, hm⟩)
    | (go_at_call 64; refine (ha _).mono ?_; rintro e w2 ⟨rfl, hb⟩))
  go_ret2
  exact ⟨rfl, _, hm, hb⟩

set_option maxRecDepth 100000 in
set_option maxHeartbeats 1000000 in
theorem number_long {w0 w : World} {P Q S j : Nat} {l : List UInt8} (hC : Clo w0 w P Q S j l) (hl : l.length ≤ 2000) (h : 9 < cnt isFig (l.drop j)) :
    Calls Tryz.prog 50 #[clo Q S] w (TokR w P (j + cnt isFig (l.drop j)) (.int .i64 0) 102) := by
  have ht := take_figure l hC.at_ hC.q hC.s hC.qp hC.sp hC.le hl
  unfold TookK at ht
  have hz := len_bs l isFig j
  generalize (l.drop j).take (cnt isFig (l.drop j)) = X at hz ht ⊢
  have h1 : (9 : Int) < ((bs X).size : Int) := by omega
  clear hz
  go_enter Tryz.func50, Tryz.ntmps50
  go_wp2_with (go_at_call 61; refine ht.mono ?_; rintro e w1 ⟨rfl, hm⟩)
  go_ret2
  exact ⟨rfl, hm.after⟩

set_option maxRecDepth 100000 in
set_option maxHeartbeats 1000000 in
theorem hex_none {w0 w : World} {P Q S j : Nat} {l : List UInt8} (hC : Clo w0 w P Q S j l) (hl : l.length ≤ 2000) (h : cnt isHxy (l.drop j) = 0) :
    Calls Tryz.prog 51 #[clo Q S] w (TokR w P (j + cnt isHxy (l.drop j)) (.string (bs [])) 101) := by
  have ht := take_hex l hC.at_ hC.q hC.s hC.qp hC.sp hC.le hl
  unfold TookK at ht
  have hz : (l.drop j).take (cnt isHxy (l.drop j)) = [] := by rw [h]; rfl
  rw [hz] at ht
  have h1 : (bs []).toList = [] := bs_toList []
  clear hz
  generalize cnt isHxy (l.drop j) = n at ht h ⊢
  clear h
  go_enter Tryz.func51, Tryz.ntmps51
  go_wp2_with (go_at_call 61; refine ht.mono ?_; rintro e w1 ⟨rfl, hm⟩)
  go_ret2
  exact ⟨rfl, hm.after⟩

set_option maxRecDepth 100000 in
set_option maxHeartbeats 1000000 in
theorem hex_long {w0 w : World} {P Q S j : Nat} {l : List UInt8} (hC : Clo w0 w P Q S j l) (hl : l.length ≤ 2000) (h : 128 < cnt isHxy (l.drop j)) :
    Calls Tryz.prog 51 #[clo Q S] w (TokR w P (j + cnt isHxy (l.drop j)) (.string (bs [])) 102) := by
  have ht := take_hex l hC.at_ hC.q hC.s hC.qp hC.sp hC.le hl
  unfold TookK at ht
  have hz := len_bs l isHxy j
  generalize (l.drop j).take (cnt isHxy (l.drop j)) = X at hz ht ⊢
  have h1 : (128 : Int) < ((bs X).size : Int) := by omega
  have h2 : ((bs X).toList == []) = false := by rw [bs_toList]; cases X with
    | nil => rw [bs_size] at hz; simp at hz; omega
    | cons a b => rfl
  clear hz
  go_enter Tryz.func51, Tryz.ntmps51
  go_wp2_with (go_at_call 61; refine ht.mono ?_; rintro e w1 ⟨rfl, hm⟩)
  go_ret2
  exact ⟨rfl, hm.after⟩

set_option maxRecDepth 100000 in
set_option maxHeartbeats 1000000 in
theorem hex_ok {w0 w : World} {P Q S j : Nat} {l : List UInt8} (hC : Clo w0 w P Q S j l) (hl : l.length ≤ 2000) (h0 : cnt isHxy (l.drop j) ≠ 0) (h : ¬ 128 < cnt isHxy (l.drop j)) :
    Calls Tryz.prog 51 #[clo Q S] w (TokR w P (j + cnt isHxy (l.drop j)) (.string (bs ((l.drop j).take (cnt isHxy (l.drop j))))) 0) := by
  have ht := take_hex l hC.at_ hC.q hC.s hC.qp hC.sp hC.le hl
  unfold TookK at ht
  have hz := len_bs l isHxy j
  generalize (l.drop j).take (cnt isHxy (l.drop j)) = X at hz ht ⊢
  have h1 : ¬ (128 : Int) < ((bs X).size : Int) := by omega
  have h2 : ((bs X).toList == []) = false := by rw [bs_toList]; cases X with
    | nil => rw [bs_size] at hz; simp at hz; omega
    | cons a b => rfl
  clear hz
  go_enter Tryz.func51, Tryz.ntmps51
  go_wp2_with (go_at_call 61; refine ht.mono ?_; rintro e w1 ⟨rfl, hm⟩)
  go_ret2
  exact ⟨rfl, hm.after⟩
end Go.Proofs.YtpckmllmjdafpaaGreatDoor

/- The token at a place: what its walks share. -/
namespace Go.Proofs.YtpckmllmjdafpaaGreatDoor
open Go.ChangeShapes Go.WideShapes Go.ChangeAt Go.RowKit
set_option linter.unusedVariables false

/-- A token in memory. -/
def tkv (t : Tk) (p : Nat) : Array Value := #[.int .i64 (t.kind : Nat), .string (bs t.s), .int .i64 (t.n : Nat), .int .i64 (p : Nat)]

/-- What token answers. -/
def TokenR (w : World) (i : Nat) (t : Tk) (E : Nat) (er : Int) (e : Ending) (w' : World) : Prop := e = .returned (.tuple #[.agg (tkv t i), .int .i64 (E : Nat), .int .i64 er]) ∧ Below w.heap.size w w'

/-- The world in which token calls its closure. -/
abbrev tokW (w : World) (l : List UInt8) (i : Nat) (z k : Int) : World :=
  ((((w.alloc (.cells #[.int .i64 0, .string ⟨#[]⟩, .int .i64 0, .int .i64 0] 58)).alloc (.cells #[.int .i64 k, .string ⟨#[]⟩, .int .i64 0, .int .i64 (i : Nat)] 58)).alloc (.cells #[.int .i64 z] 3)).alloc (.cells #[.string (bs l)] 9)).alloc (.cells #[pt (w.heap.size + 1 + 1)] 75)

theorem tokW_clo (w : World) (l : List UInt8) (i j : Nat) (z k : Int) (hz : z = (j : Nat)) (hj : j ≤ l.length) : Clo w (tokW w l i z k) (w.heap.size + 1 + 1) (w.heap.size + 1 + 1 + 1 + 1) (w.heap.size + 1 + 1 + 1) j l := by
  subst hz
  exact ⟨((Has.new_at (by simp)).alloc _).alloc _, Has.new_at (by simp), (Has.new_at (by simp)).alloc _, by omega, by omega, hj, (((((Below.refl _ _).alloc (Nat.le_refl _) _).alloc (by simp) _).alloc (by simp; omega) _).alloc (by simp; omega) _).alloc (by simp; omega) _, by omega⟩

theorem tokW_tok (w : World) (l : List UInt8) (i : Nat) (z k : Int) : Has (tokW w l i z k) (w.heap.size + 1) 58 #[.int .i64 k, .string ⟨#[]⟩, .int .i64 0, .int .i64 (i : Nat)] := (((Has.new_at (by simp)).alloc _).alloc _).alloc _

theorem tokW_res (w : World) (l : List UInt8) (i : Nat) (z k : Int) : Has (tokW w l i z k) w.heap.size 58 #[.int .i64 0, .string ⟨#[]⟩, .int .i64 0, .int .i64 0] := ((((Has.new_at (by simp)).alloc _).alloc _).alloc _).alloc _

theorem bs_nil : bs [] = ⟨#[]⟩ := rfl

theorem below_drew' {B : Nat} {a w : World} (h : Below B a w) : Below B a w.drew := ⟨h.os, h.tape, h.output, h.size, h.block⟩

theorem lit_below {w : World} {o1 o2 o3 o4 : Obj} (o5 : Obj) : Below w.heap.size w (((((w.alloc o1).alloc o2).alloc o3).alloc o4).alloc o5).drew :=
  below_drew' ((((((Below.refl _ _).alloc (Nat.le_refl _) _).alloc (by simp) _).alloc (by simp; omega) _).alloc (by simp; omega) _).alloc (by simp; omega) _)

theorem tok_below {w w1 : World} {l : List UInt8} {i J : Nat} {z k : Int} (hA : After (tokW w l i z k) w1 (w.heap.size + 1 + 1) J) {a : Nat} {u v0 v1 v2 v3 : Value} :
    Below w.heap.size w ((((((w1.setCell ⟨w.heap.size + 1, a, none⟩ u).setCell ⟨w.heap.size, 0, none⟩ v0).setCell ⟨w.heap.size, 1, none⟩ v1).setCell ⟨w.heap.size, 2, none⟩ v2).setCell ⟨w.heap.size, 3, none⟩ v3).drew) := by
  have h1 : Below w.heap.size w (tokW w l i z k) := (((((Below.refl _ _).alloc (Nat.le_refl _) _).alloc (by simp) _).alloc (by simp; omega) _).alloc (by simp; omega) _).alloc (by simp; omega) _
  have h2 := h1.trans (hA.below (B := w.heap.size) (by omega) (by simp; omega))
  exact below_drew' (((((h2.setCell (p := ⟨w.heap.size + 1, a, none⟩) (by simp) u).setCell (p := ⟨w.heap.size, 0, none⟩) (by simp) v0).setCell (p := ⟨w.heap.size, 1, none⟩) (by simp) v1).setCell (p := ⟨w.heap.size, 2, none⟩) (by simp) v2).setCell (p := ⟨w.heap.size, 3, none⟩) (by simp) v3)
end Go.Proofs.YtpckmllmjdafpaaGreatDoor

/- The token at a place: one case of it. -/
namespace Go.Proofs.YtpckmllmjdafpaaGreatDoor
open Go.ChangeShapes Go.WideShapes Go.ChangeAt Go.RowKit
set_option linter.unusedVariables false

set_option maxRecDepth 100000 in
set_option maxHeartbeats 2000000 in
theorem token_word {w : World} {l : List UInt8} {i : Nat} (hi : i < l.length) (hl : l.length ≤ 2000) (k1 : isSml l[i] = true) (h : ¬ 16 < cnt isWdy (l.drop i)) :
    Calls Tryz.prog 31 #[.string (bs l), .int .i64 (i : Nat)] w (TokenR w i ⟨0, (l.drop i).take (cnt isWdy (l.drop i)), 0⟩ (i + cnt isWdy (l.drop i)) 0) := by
  have hsz := bs_size l
  have h1 : i < (bs l).size := by omega
  have h2 : ((i : Nat) : Int) < ((bs l).size : Int) := by omega
  have hi2 : i ≤ 2000 := by omega
  have hc1 : isSml ((bs l)[i]'h1) = true := by rw [bs_get]; exact k1
  have hs1 := small_tells ((bs l)[i]'h1)
  rw [hc1] at hs1
  clear hc1 k1
  have hw := word_ok (tokW_clo w l i i (i : Nat) 0 rfl (by omega)) hl h
  have hH := tokW_tok w l i (i : Nat) 0
  have hR := tokW_res w l i (i : Nat) 0
  have HS : Hid ((bs l).size = l.length) := hsz
  clear hsz
  go_enter Tryz.func31, Tryz.ntmps31
  go_wp2_with (first
    | (go_at_call 43; refine (taking_c _ _ _).mono ?_; rintro e w' ⟨rfl, rfl⟩)
    | (go_at_call 47; refine (hs1 _).mono ?_; rintro e w' ⟨rfl, rfl⟩)
    | (go_at_call 48
       refine hw.mono ?_
       rintro e w1 ⟨rfl, hA⟩
       have hH1 := hA.other hH (by omega)
       have hR1 := hA.other hR (by omega)
       have c0 := hH1.cell 0
       have c1 := hH1.cell 1
       have c2 := hH1.cell 2
       have c3 := hH1.cell 3
       have f1 := hH1.free 1
       have f2 := hH1.free 2
       have hP := hA.at_.cell 0
       have r0 : w1.cell? ⟨w.heap.size, 0, none⟩ = some (.int .i64 0) := hR1.cell 0
       have r1 : w1.cell? ⟨w.heap.size, 1, none⟩ = some (.string ⟨#[]⟩) := hR1.cell 1
       have r2 : w1.cell? ⟨w.heap.size, 2, none⟩ = some (.int .i64 0) := hR1.cell 2
       have r3 : w1.cell? ⟨w.heap.size, 3, none⟩ = some (.int .i64 0) := hR1.cell 3
       have g0 := hR1.free 0
       have g1 := hR1.free 1
       have g2 := hR1.free 2
       have g3 := hR1.free 3))
  go_region
  all_goals
    go_wp2
    exact bodyPost_ret (v := .tuple #[.agg (tkv ⟨0, (l.drop i).take (cnt isWdy (l.drop i)), 0⟩ i), .int .i64 (((i + cnt isWdy (l.drop i)) : Nat) : Int), .int .i64 0]) (by simp [results, Tryz.results31, go_sem, tkv, r0, r1, r2, r3]) rfl ⟨rfl, tok_below hA⟩

set_option maxRecDepth 100000 in
set_option maxHeartbeats 2000000 in
theorem token_wordL {w : World} {l : List UInt8} {i : Nat} (hi : i < l.length) (hl : l.length ≤ 2000) (k1 : isSml l[i] = true) (h : 16 < cnt isWdy (l.drop i)) :
    Calls Tryz.prog 31 #[.string (bs l), .int .i64 (i : Nat)] w (TokenR w i ⟨0, [], 0⟩ (i + cnt isWdy (l.drop i)) 102) := by
  have hsz := bs_size l
  have h1 : i < (bs l).size := by omega
  have h2 : ((i : Nat) : Int) < ((bs l).size : Int) := by omega
  have hi2 : i ≤ 2000 := by omega
  have hc1 : isSml ((bs l)[i]'h1) = true := by rw [bs_get]; exact k1
  have hs1 := small_tells ((bs l)[i]'h1)
  rw [hc1] at hs1
  clear hc1 k1
  have hw := word_long (tokW_clo w l i i (i : Nat) 0 rfl (by omega)) hl h
  have hH := tokW_tok w l i (i : Nat) 0
  have hR := tokW_res w l i (i : Nat) 0
  have HS : Hid ((bs l).size = l.length) := hsz
  clear hsz
  go_enter Tryz.func31, Tryz.ntmps31
  go_wp2_with (first
    | (go_at_call 43; refine (taking_c _ _ _).mono ?_; rintro e w' ⟨rfl, rfl⟩)
    | (go_at_call 47; refine (hs1 _).mono ?_; rintro e w' ⟨rfl, rfl⟩)
    | (go_at_call 48
       refine hw.mono ?_
       rintro e w1 ⟨rfl, hA⟩
       have hH1 := hA.other hH (by omega)
       have hR1 := hA.other hR (by omega)
       have c0 := hH1.cell 0
       have c1 := hH1.cell 1
       have c2 := hH1.cell 2
       have c3 := hH1.cell 3
       have f1 := hH1.free 1
       have f2 := hH1.free 2
       have hP := hA.at_.cell 0
       have r0 : w1.cell? ⟨w.heap.size, 0, none⟩ = some (.int .i64 0) := hR1.cell 0
       have r1 : w1.cell? ⟨w.heap.size, 1, none⟩ = some (.string ⟨#[]⟩) := hR1.cell 1
       have r2 : w1.cell? ⟨w.heap.size, 2, none⟩ = some (.int .i64 0) := hR1.cell 2
       have r3 : w1.cell? ⟨w.heap.size, 3, none⟩ = some (.int .i64 0) := hR1.cell 3
       have g0 := hR1.free 0
       have g1 := hR1.free 1
       have g2 := hR1.free 2
       have g3 := hR1.free 3))
  go_region
  all_goals
    go_wp2
    exact bodyPost_ret (v := .tuple #[.agg (tkv ⟨0, [], 0⟩ i), .int .i64 (((i + cnt isWdy (l.drop i)) : Nat) : Int), .int .i64 102]) (by simp [results, Tryz.results31, go_sem, tkv, r0, r1, r2, r3]) rfl ⟨rfl, tok_below hA⟩
end Go.Proofs.YtpckmllmjdafpaaGreatDoor

/- The token at a place: one case of it. -/
namespace Go.Proofs.YtpckmllmjdafpaaGreatDoor
open Go.ChangeShapes Go.WideShapes Go.ChangeAt Go.RowKit
set_option linter.unusedVariables false

set_option maxRecDepth 100000 in
set_option maxHeartbeats 2000000 in
theorem token_num {w : World} {l : List UInt8} {i : Nat} (hi : i < l.length) (hl : l.length ≤ 2000) (k1 : isSml l[i] = false) (k2 : isFig l[i] = true) (h : ¬ 9 < cnt isFig (l.drop i)) (h0 : cnt isFig (l.drop i) ≠ 0) (hE : i + cnt isFig (l.drop i) < l.length) (k3 : isLet (l[i + cnt isFig (l.drop i)]) = false) :
    Calls Tryz.prog 31 #[.string (bs l), .int .i64 (i : Nat)] w (TokenR w i ⟨1, [], val ((l.drop i).take (cnt isFig (l.drop i)))⟩ (i + cnt isFig (l.drop i)) 0) := by
  have hsz := bs_size l
  have h1 : i < (bs l).size := by omega
  have h2 : ((i : Nat) : Int) < ((bs l).size : Int) := by omega
  have hi2 : i ≤ 2000 := by omega
  have hc1 : isSml ((bs l)[i]'h1) = false := by rw [bs_get]; exact k1
  have hs1 := small_tells ((bs l)[i]'h1)
  rw [hc1] at hs1
  clear hc1 k1
  have hc2 : isFig ((bs l)[i]'h1) = true := by rw [bs_get]; exact k2
  have hs2 := figure_tells ((bs l)[i]'h1)
  rw [hc2] at hs2
  clear hc2 k2
  have hw := number_ok (tokW_clo w l i i (i : Nat) 1 rfl (by omega)) hl h h0
  have hH := tokW_tok w l i (i : Nat) 1
  have hR := tokW_res w l i (i : Nat) 1
  obtain ⟨J, hJ⟩ : ∃ J, J = (i + cnt isFig (l.drop i)) := ⟨_, rfl⟩
  rw [← hJ] at hw hE ⊢
  have HJ : Hid (J = (i + cnt isFig (l.drop i))) := hJ
  clear hJ
  have hJ2 : J ≤ 2000 := by omega
  have b1 : J < (bs l).size := by rw [hsz]; exact hE
  have b2 : ((J : Nat) : Int) < ((bs l).size : Int) := by omega
  have k3' : isLet ((bs l)[J]'b1) = false := by rw [bs_get]; have := HJ.out; subst this; exact k3
  have hs3 := letter_tells ((bs l)[J]'b1)
  rw [k3'] at hs3
  clear k3' k3 hE
  have HS : Hid ((bs l).size = l.length) := hsz
  clear hsz
  go_enter Tryz.func31, Tryz.ntmps31
  go_wp2_with (first
    | (go_at_call 43; refine (taking_c _ _ _).mono ?_; rintro e w' ⟨rfl, rfl⟩)
    | (go_at_call 47; refine (hs1 _).mono ?_; rintro e w' ⟨rfl, rfl⟩)
    | (go_at_call 49; refine (hs2 _).mono ?_; rintro e w' ⟨rfl, rfl⟩)
    | (go_at_call 52; refine (hs3 _).mono ?_; rintro e w' ⟨rfl, rfl⟩)
    | (go_at_call 50
       refine hw.mono ?_
       rintro e w1 ⟨rfl, hA⟩
       have hH1 := hA.other hH (by omega)
       have hR1 := hA.other hR (by omega)
       have c0 := hH1.cell 0
       have c1 := hH1.cell 1
       have c2 := hH1.cell 2
       have c3 := hH1.cell 3
       have f1 := hH1.free 1
       have f2 := hH1.free 2
       have hP := hA.at_.cell 0
       have r0 : w1.cell? ⟨w.heap.size, 0, none⟩ = some (.int .i64 0) := hR1.cell 0
       have r1 : w1.cell? ⟨w.heap.size, 1, none⟩ = some (.string ⟨#[]⟩) := hR1.cell 1
       have r2 : w1.cell? ⟨w.heap.size, 2, none⟩ = some (.int .i64 0) := hR1.cell 2
       have r3 : w1.cell? ⟨w.heap.size, 3, none⟩ = some (.int .i64 0) := hR1.cell 3
       have g0 := hR1.free 0
       have g1 := hR1.free 1
       have g2 := hR1.free 2
       have g3 := hR1.free 3))
  go_region
  all_goals
    go_wp2
    exact bodyPost_ret (v := .tuple #[.agg (tkv ⟨1, [], val ((l.drop i).take (cnt isFig (l.drop i)))⟩ i), .int .i64 ((J : Nat) : Int), .int .i64 0]) (by simp [results, Tryz.results31, go_sem, tkv, r0, r1, r2, r3, bs_nil]) rfl ⟨rfl, tok_below hA⟩

set_option maxRecDepth 100000 in
set_option maxHeartbeats 2000000 in
theorem token_numE {w : World} {l : List UInt8} {i : Nat} (hi : i < l.length) (hl : l.length ≤ 2000) (k1 : isSml l[i] = false) (k2 : isFig l[i] = true) (h : ¬ 9 < cnt isFig (l.drop i)) (h0 : cnt isFig (l.drop i) ≠ 0) (hE : i + cnt isFig (l.drop i) = l.length) :
    Calls Tryz.prog 31 #[.string (bs l), .int .i64 (i : Nat)] w (TokenR w i ⟨1, [], val ((l.drop i).take (cnt isFig (l.drop i)))⟩ (i + cnt isFig (l.drop i)) 0) := by
  have hsz := bs_size l
  have h1 : i < (bs l).size := by omega
  have h2 : ((i : Nat) : Int) < ((bs l).size : Int) := by omega
  have hi2 : i ≤ 2000 := by omega
  have hc1 : isSml ((bs l)[i]'h1) = false := by rw [bs_get]; exact k1
  have hs1 := small_tells ((bs l)[i]'h1)
  rw [hc1] at hs1
  clear hc1 k1
  have hc2 : isFig ((bs l)[i]'h1) = true := by rw [bs_get]; exact k2
  have hs2 := figure_tells ((bs l)[i]'h1)
  rw [hc2] at hs2
  clear hc2 k2
  have hw := number_ok (tokW_clo w l i i (i : Nat) 1 rfl (by omega)) hl h h0
  have hH := tokW_tok w l i (i : Nat) 1
  have hR := tokW_res w l i (i : Nat) 1
  obtain ⟨J, hJ⟩ : ∃ J, J = (i + cnt isFig (l.drop i)) := ⟨_, rfl⟩
  rw [← hJ] at hw hE ⊢
  have HJ : Hid (J = (i + cnt isFig (l.drop i))) := hJ
  clear hJ
  have hJ2 : J ≤ 2000 := by omega
  have b2 : ¬ ((J : Nat) : Int) < ((bs l).size : Int) := by omega
  clear hE
  have HS : Hid ((bs l).size = l.length) := hsz
  clear hsz
  go_enter Tryz.func31, Tryz.ntmps31
  go_wp2_with (first
    | (go_at_call 43; refine (taking_c _ _ _).mono ?_; rintro e w' ⟨rfl, rfl⟩)
    | (go_at_call 47; refine (hs1 _).mono ?_; rintro e w' ⟨rfl, rfl⟩)
    | (go_at_call 49; refine (hs2 _).mono ?_; rintro e w' ⟨rfl, rfl⟩)
    | (go_at_call 52; refine (hs3 _).mono ?_; rintro e w' ⟨rfl, rfl⟩)
    | (go_at_call 50
       refine hw.mono ?_
       rintro e w1 ⟨rfl, hA⟩
       have hH1 := hA.other hH (by omega)
       have hR1 := hA.other hR (by omega)
       have c0 := hH1.cell 0
       have c1 := hH1.cell 1
       have c2 := hH1.cell 2
       have c3 := hH1.cell 3
       have f1 := hH1.free 1
       have f2 := hH1.free 2
       have hP := hA.at_.cell 0
       have r0 : w1.cell? ⟨w.heap.size, 0, none⟩ = some (.int .i64 0) := hR1.cell 0
       have r1 : w1.cell? ⟨w.heap.size, 1, none⟩ = some (.string ⟨#[]⟩) := hR1.cell 1
       have r2 : w1.cell? ⟨w.heap.size, 2, none⟩ = some (.int .i64 0) := hR1.cell 2
       have r3 : w1.cell? ⟨w.heap.size, 3, none⟩ = some (.int .i64 0) := hR1.cell 3
       have g0 := hR1.free 0
       have g1 := hR1.free 1
       have g2 := hR1.free 2
       have g3 := hR1.free 3))
  go_region
  all_goals
    go_wp2
    exact bodyPost_ret (v := .tuple #[.agg (tkv ⟨1, [], val ((l.drop i).take (cnt isFig (l.drop i)))⟩ i), .int .i64 ((J : Nat) : Int), .int .i64 0]) (by simp [results, Tryz.results31, go_sem, tkv, r0, r1, r2, r3, bs_nil]) rfl ⟨rfl, tok_below hA⟩
end Go.Proofs.YtpckmllmjdafpaaGreatDoor

/- The token at a place: one case of it. -/
namespace Go.Proofs.YtpckmllmjdafpaaGreatDoor
open Go.ChangeShapes Go.WideShapes Go.ChangeAt Go.RowKit
set_option linter.unusedVariables false

set_option maxRecDepth 100000 in
set_option maxHeartbeats 2000000 in
theorem token_numB {w : World} {l : List UInt8} {i : Nat} (hi : i < l.length) (hl : l.length ≤ 2000) (k1 : isSml l[i] = false) (k2 : isFig l[i] = true) (h : ¬ 9 < cnt isFig (l.drop i)) (h0 : cnt isFig (l.drop i) ≠ 0) (hE : i + cnt isFig (l.drop i) < l.length) (k3 : isLet (l[i + cnt isFig (l.drop i)]) = true) :
    Calls Tryz.prog 31 #[.string (bs l), .int .i64 (i : Nat)] w (TokenR w i ⟨1, [], val ((l.drop i).take (cnt isFig (l.drop i)))⟩ (i + cnt isFig (l.drop i)) 101) := by
  have hsz := bs_size l
  have h1 : i < (bs l).size := by omega
  have h2 : ((i : Nat) : Int) < ((bs l).size : Int) := by omega
  have hi2 : i ≤ 2000 := by omega
  have hc1 : isSml ((bs l)[i]'h1) = false := by rw [bs_get]; exact k1
  have hs1 := small_tells ((bs l)[i]'h1)
  rw [hc1] at hs1
  clear hc1 k1
  have hc2 : isFig ((bs l)[i]'h1) = true := by rw [bs_get]; exact k2
  have hs2 := figure_tells ((bs l)[i]'h1)
  rw [hc2] at hs2
  clear hc2 k2
  have hw := number_ok (tokW_clo w l i i (i : Nat) 1 rfl (by omega)) hl h h0
  have hH := tokW_tok w l i (i : Nat) 1
  have hR := tokW_res w l i (i : Nat) 1
  obtain ⟨J, hJ⟩ : ∃ J, J = (i + cnt isFig (l.drop i)) := ⟨_, rfl⟩
  rw [← hJ] at hw hE ⊢
  have HJ : Hid (J = (i + cnt isFig (l.drop i))) := hJ
  clear hJ
  have hJ2 : J ≤ 2000 := by omega
  have b1 : J < (bs l).size := by rw [hsz]; exact hE
  have b2 : ((J : Nat) : Int) < ((bs l).size : Int) := by omega
  have k3' : isLet ((bs l)[J]'b1) = true := by rw [bs_get]; have := HJ.out; subst this; exact k3
  have hs3 := letter_tells ((bs l)[J]'b1)
  rw [k3'] at hs3
  clear k3' k3 hE
  have HS : Hid ((bs l).size = l.length) := hsz
  clear hsz
  go_enter Tryz.func31, Tryz.ntmps31
  go_wp2_with (first
    | (go_at_call 43; refine (taking_c _ _ _).mono ?_; rintro e w' ⟨rfl, rfl⟩)
    | (go_at_call 47; refine (hs1 _).mono ?_; rintro e w' ⟨rfl, rfl⟩)
    | (go_at_call 49; refine (hs2 _).mono ?_; rintro e w' ⟨rfl, rfl⟩)
    | (go_at_call 52; refine (hs3 _).mono ?_; rintro e w' ⟨rfl, rfl⟩)
    | (go_at_call 50
       refine hw.mono ?_
       rintro e w1 ⟨rfl, hA⟩
       have hH1 := hA.other hH (by omega)
       have hR1 := hA.other hR (by omega)
       have c0 := hH1.cell 0
       have c1 := hH1.cell 1
       have c2 := hH1.cell 2
       have c3 := hH1.cell 3
       have f1 := hH1.free 1
       have f2 := hH1.free 2
       have hP := hA.at_.cell 0
       have r0 : w1.cell? ⟨w.heap.size, 0, none⟩ = some (.int .i64 0) := hR1.cell 0
       have r1 : w1.cell? ⟨w.heap.size, 1, none⟩ = some (.string ⟨#[]⟩) := hR1.cell 1
       have r2 : w1.cell? ⟨w.heap.size, 2, none⟩ = some (.int .i64 0) := hR1.cell 2
       have r3 : w1.cell? ⟨w.heap.size, 3, none⟩ = some (.int .i64 0) := hR1.cell 3
       have g0 := hR1.free 0
       have g1 := hR1.free 1
       have g2 := hR1.free 2
       have g3 := hR1.free 3))
  go_region
  all_goals
    go_wp2
    exact bodyPost_ret (v := .tuple #[.agg (tkv ⟨1, [], val ((l.drop i).take (cnt isFig (l.drop i)))⟩ i), .int .i64 ((J : Nat) : Int), .int .i64 101]) (by simp [results, Tryz.results31, go_sem, tkv, r0, r1, r2, r3, bs_nil]) rfl ⟨rfl, tok_below hA⟩

set_option maxRecDepth 100000 in
set_option maxHeartbeats 2000000 in
theorem token_numL {w : World} {l : List UInt8} {i : Nat} (hi : i < l.length) (hl : l.length ≤ 2000) (k1 : isSml l[i] = false) (k2 : isFig l[i] = true) (h : 9 < cnt isFig (l.drop i)) :
    Calls Tryz.prog 31 #[.string (bs l), .int .i64 (i : Nat)] w (TokenR w i ⟨1, [], 0⟩ (i + cnt isFig (l.drop i)) 102) := by
  have hsz := bs_size l
  have h1 : i < (bs l).size := by omega
  have h2 : ((i : Nat) : Int) < ((bs l).size : Int) := by omega
  have hi2 : i ≤ 2000 := by omega
  have hc1 : isSml ((bs l)[i]'h1) = false := by rw [bs_get]; exact k1
  have hs1 := small_tells ((bs l)[i]'h1)
  rw [hc1] at hs1
  clear hc1 k1
  have hc2 : isFig ((bs l)[i]'h1) = true := by rw [bs_get]; exact k2
  have hs2 := figure_tells ((bs l)[i]'h1)
  rw [hc2] at hs2
  clear hc2 k2
  have hw := number_long (tokW_clo w l i i (i : Nat) 1 rfl (by omega)) hl h
  have hH := tokW_tok w l i (i : Nat) 1
  have hR := tokW_res w l i (i : Nat) 1
  have HS : Hid ((bs l).size = l.length) := hsz
  clear hsz
  go_enter Tryz.func31, Tryz.ntmps31
  go_wp2_with (first
    | (go_at_call 43; refine (taking_c _ _ _).mono ?_; rintro e w' ⟨rfl, rfl⟩)
    | (go_at_call 47; refine (hs1 _).mono ?_; rintro e w' ⟨rfl, rfl⟩)
    | (go_at_call 49; refine (hs2 _).mono ?_; rintro e w' ⟨rfl, rfl⟩)
    | (go_at_call 50
       refine hw.mono ?_
       rintro e w1 ⟨rfl, hA⟩
       have hH1 := hA.other hH (by omega)
       have hR1 := hA.other hR (by omega)
       have c0 := hH1.cell 0
       have c1 := hH1.cell 1
       have c2 := hH1.cell 2
       have c3 := hH1.cell 3
       have f1 := hH1.free 1
       have f2 := hH1.free 2
       have hP := hA.at_.cell 0
       have r0 : w1.cell? ⟨w.heap.size, 0, none⟩ = some (.int .i64 0) := hR1.cell 0
       have r1 : w1.cell? ⟨w.heap.size, 1, none⟩ = some (.string ⟨#[]⟩) := hR1.cell 1
       have r2 : w1.cell? ⟨w.heap.size, 2, none⟩ = some (.int .i64 0) := hR1.cell 2
       have r3 : w1.cell? ⟨w.heap.size, 3, none⟩ = some (.int .i64 0) := hR1.cell 3
       have g0 := hR1.free 0
       have g1 := hR1.free 1
       have g2 := hR1.free 2
       have g3 := hR1.free 3))
  go_region
  all_goals
    go_wp2
    exact bodyPost_ret (v := .tuple #[.agg (tkv ⟨1, [], 0⟩ i), .int .i64 (((i + cnt isFig (l.drop i)) : Nat) : Int), .int .i64 102]) (by simp [results, Tryz.results31, go_sem, tkv, r0, r1, r2, r3, bs_nil]) rfl ⟨rfl, tok_below hA⟩
end Go.Proofs.YtpckmllmjdafpaaGreatDoor
