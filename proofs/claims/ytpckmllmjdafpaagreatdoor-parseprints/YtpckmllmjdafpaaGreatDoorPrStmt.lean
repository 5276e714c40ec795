/- The reference's rightStatement and Right. -/
import Derived.Test.YtpckmllmjdafpaaGreatDoorPrExpr2
namespace Go.Proofs.YtpckmllmjdafpaaGreatDoor
open Go.ChangeShapes Go.WideShapes Go.ChangeAt Go.RowKit
set_option linter.unusedVariables false

theorem rs_dev {n : Nd} (hnm : hasNm n.s = true) (ho : n.op = wDevice ∨ n.op = wJournal) : rightS n = (numOk n.n && decide (n.l.length = 0)) := by
  unfold rightS; rw [hnm, if_pos ho]; rfl
theorem rs_key {n : Nd} (hnm : hasNm n.s = true) (ho : n.op = wKey ∨ n.op = wRoot) : rightS n = (decide (n.n = 0) && decide (n.l.length = 1) && hexOk (nth n.l 0)) := by
  unfold rightS
  rw [hnm, if_neg (by rcases ho with h | h <;> rw [h] <;> decide), if_pos ho]
  rfl
theorem rs_vol {n : Nd} (hnm : hasNm n.s = true) (ho : n.op = wVolume) : rightS n = (decide (n.n = 0) && decide (n.l.length = 1) && rightE 12 (nth n.l 0)) := by
  unfold rightS
  rw [hnm, if_neg (by rw [ho]; decide), if_neg (by rw [ho]; decide), if_pos ho]
  rfl
theorem rs_exp {n : Nd} (hnm : hasNm n.s = true) (ho : n.op = wExport) : rightS n = ((decide (n.n = 0) || decide (n.n = 1)) && decide (n.l.length = 0)) := by
  unfold rightS
  rw [hnm, if_neg (by rw [ho]; decide), if_neg (by rw [ho]; decide), if_neg (by rw [ho]; decide), if_pos ho]
  rfl
theorem rs_no {n : Nd} (ho : n.op ≠ wDevice ∧ n.op ≠ wJournal ∧ n.op ≠ wKey ∧ n.op ≠ wRoot ∧ n.op ≠ wVolume ∧ n.op ≠ wExport) : rightS n = false := by
  obtain ⟨h1, h2, h3, h4, h5, h6⟩ := ho
  unfold rightS
  rw [if_neg (by rintro (h | h); exact h1 h; exact h2 h), if_neg (by rintro (h | h); exact h3 h; exact h4 h), if_neg h5, if_neg h6]
  simp

set_option maxRecDepth 100000 in
set_option maxHeartbeats 2000000 in
theorem rstDevice_c (n : Nd) (A : Option Addr) (C : Nat) (w : World) (h : RdN w n A C) (hnm : hasNm n.s = true) (ho : n.op = wDevice) : Calls Tryz.prog 17 #[nval n A C] w (Yes w (rightS n)) := by
  have f0 : (n.op == [100, 101, 118, 105, 99, 101]) = true := by rw [ho]; decide
  have f1 : (n.op == [106, 111, 117, 114, 110, 97, 108]) = false := by rw [ho]; decide
  have f2 : (n.op == [107, 101, 121]) = false := by rw [ho]; decide
  have f3 : (n.op == [114, 111, 111, 116]) = false := by rw [ho]; decide
  have f4 : (n.op == [118, 111, 108, 117, 109, 101]) = false := by rw [ho]; decide
  have f5 : (n.op == [101, 120, 112, 111, 114, 116]) = false := by rw [ho]; decide
  have hlen := h.len
  have hNm := fun W => rname_c n.s W (by have := h.s; omega)
  have hot := bs_toList n.op
  unfold nval
  obtain ⟨L, hL⟩ : ∃ L, L = n.l.length := ⟨_, rfl⟩
  rw [← hL] at hlen ⊢
  have hLm : L ≤ 9223372036854775807 := by omega
  obtain ⟨M, hMe⟩ : ∃ M, M = n.n := ⟨_, rfl⟩
  have hB := rs_dev hnm (.inl ho)
  rw [← hL, ← hMe] at hB
  rw [← hMe, hB]
  rw [hnm] at hNm
  clear hB hL hMe h hlen ho hnm
  by_cases hL0 : L = 0
  · subst hL0
    rcases (by omega : M < 0 ∨ (0 ≤ M ∧ ¬ M ≤ 999999999) ∨ (0 ≤ M ∧ M ≤ 999999999)) with h1 | ⟨h1, h2⟩ | ⟨h1, h2⟩
    · rw [show numOk M = false by unfold numOk; simp; omega, Bool.false_and]
      go_enter Tryz.func17, Tryz.ntmps17
      go_wp2_with (first
        | ((go_at_call 27)
           (refine (hNm _).mono ?_)
           (rintro e w1 ⟨rfl, bk1⟩)
           (obtain ⟨p0, p1, p2, p3, p4⟩ := five ((Has.new w _ _).below bk1 (by simp))))
      )
      go_ret
      exact ⟨rfl, bel_pa0 bk1⟩
    · rw [show numOk M = false by unfold numOk; simp; omega, Bool.false_and]
      have h3 := decide_eq_false h2
      go_enter Tryz.func17, Tryz.ntmps17
      go_wp2_with (first
        | ((go_at_call 27)
           (refine (hNm _).mono ?_)
           (rintro e w1 ⟨rfl, bk1⟩)
           (obtain ⟨p0, p1, p2, p3, p4⟩ := five ((Has.new w _ _).below bk1 (by simp))))
      )
      go_ret
      exact ⟨rfl, bel_pa0 bk1⟩
    · rw [show numOk M = true by unfold numOk; simp; omega, show (true && decide ((0 : Nat) = 0)) = true from rfl]
      go_enter Tryz.func17, Tryz.ntmps17
      go_wp2_with (first
        | ((go_at_call 27)
           (refine (hNm _).mono ?_)
           (rintro e w1 ⟨rfl, bk1⟩)
           (obtain ⟨p0, p1, p2, p3, p4⟩ := five ((Has.new w _ _).below bk1 (by simp))))
      )
      go_ret
      exact ⟨rfl, bel_pa0 bk1⟩
  · have hLi : ¬ (L : Int) = 0 := by omega
    rw [decide_eq_false hL0, Bool.and_false]
    go_enter Tryz.func17, Tryz.ntmps17
    go_wp2_with (first
      | ((go_at_call 27)
         (refine (hNm _).mono ?_)
         (rintro e w1 ⟨rfl, bk1⟩)
         (obtain ⟨p0, p1, p2, p3, p4⟩ := five ((Has.new w _ _).below bk1 (by simp))))
    )
    go_ret
    exact ⟨rfl, bel_pa0 bk1⟩

set_option maxRecDepth 100000 in
set_option maxHeartbeats 2000000 in
theorem rstJournal_c (n : Nd) (A : Option Addr) (C : Nat) (w : World) (h : RdN w n A C) (hnm : hasNm n.s = true) (ho : n.op = wJournal) : Calls Tryz.prog 17 #[nval n A C] w (Yes w (rightS n)) := by
  have f0 : (n.op == [100, 101, 118, 105, 99, 101]) = false := by rw [ho]; decide
  have f1 : (n.op == [106, 111, 117, 114, 110, 97, 108]) = true := by rw [ho]; decide
  have f2 : (n.op == [107, 101, 121]) = false := by rw [ho]; decide
  have f3 : (n.op == [114, 111, 111, 116]) = false := by rw [ho]; decide
  have f4 : (n.op == [118, 111, 108, 117, 109, 101]) = false := by rw [ho]; decide
  have f5 : (n.op == [101, 120, 112, 111, 114, 116]) = false := by rw [ho]; decide
  have hlen := h.len
  have hNm := fun W => rname_c n.s W (by have := h.s; omega)
  have hot := bs_toList n.op
  unfold nval
  obtain ⟨L, hL⟩ : ∃ L, L = n.l.length := ⟨_, rfl⟩
  rw [← hL] at hlen ⊢
  have hLm : L ≤ 9223372036854775807 := by omega
  obtain ⟨M, hMe⟩ : ∃ M, M = n.n := ⟨_, rfl⟩
  have hB := rs_dev hnm (.inr ho)
  rw [← hL, ← hMe] at hB
  rw [← hMe, hB]
  rw [hnm] at hNm
  clear hB hL hMe h hlen ho hnm
  by_cases hL0 : L = 0
  · subst hL0
    rcases (by omega : M < 0 ∨ (0 ≤ M ∧ ¬ M ≤ 999999999) ∨ (0 ≤ M ∧ M ≤ 999999999)) with h1 | ⟨h1, h2⟩ | ⟨h1, h2⟩
    · rw [show numOk M = false by unfold numOk; simp; omega, Bool.false_and]
      go_enter Tryz.func17, Tryz.ntmps17
      go_wp2_with (first
        | ((go_at_call 27)
           (refine (hNm _).mono ?_)
           (rintro e w1 ⟨rfl, bk1⟩)
           (obtain ⟨p0, p1, p2, p3, p4⟩ := five ((Has.new w _ _).below bk1 (by simp))))
      )
      go_ret
      exact ⟨rfl, bel_pa0 bk1⟩
    · rw [show numOk M = false by unfold numOk; simp; omega, Bool.false_and]
      have h3 := decide_eq_false h2
      go_enter Tryz.func17, Tryz.ntmps17
      go_wp2_with (first
        | ((go_at_call 27)
           (refine (hNm _).mono ?_)
           (rintro e w1 ⟨rfl, bk1⟩)
           (obtain ⟨p0, p1, p2, p3, p4⟩ := five ((Has.new w _ _).below bk1 (by simp))))
      )
      go_ret
      exact ⟨rfl, bel_pa0 bk1⟩
    · rw [show numOk M = true by unfold numOk; simp; omega, show (true && decide ((0 : Nat) = 0)) = true from rfl]
      go_enter Tryz.func17, Tryz.ntmps17
      go_wp2_with (first
        | ((go_at_call 27)
           (refine (hNm _).mono ?_)
           (rintro e w1 ⟨rfl, bk1⟩)
           (obtain ⟨p0, p1, p2, p3, p4⟩ := five ((Has.new w _ _).below bk1 (by simp))))
      )
      go_ret
      exact ⟨rfl, bel_pa0 bk1⟩
  · have hLi : ¬ (L : Int) = 0 := by omega
    rw [decide_eq_false hL0, Bool.and_false]
    go_enter Tryz.func17, Tryz.ntmps17
    go_wp2_with (first
      | ((go_at_call 27)
         (refine (hNm _).mono ?_)
         (rintro e w1 ⟨rfl, bk1⟩)
         (obtain ⟨p0, p1, p2, p3, p4⟩ := five ((Has.new w _ _).below bk1 (by simp))))
    )
    go_ret
    exact ⟨rfl, bel_pa0 bk1⟩

set_option maxRecDepth 100000 in
set_option maxHeartbeats 2000000 in
theorem rstKey_c (n : Nd) (A : Option Addr) (C : Nat) (w : World) (h : RdN w n A C) (hnm : hasNm n.s = true) (ho : n.op = wKey) : Calls Tryz.prog 17 #[nval n A C] w (Yes w (rightS n)) := by
  have f0 : (n.op == [100, 101, 118, 105, 99, 101]) = false := by rw [ho]; decide
  have f1 : (n.op == [106, 111, 117, 114, 110, 97, 108]) = false := by rw [ho]; decide
  have f2 : (n.op == [107, 101, 121]) = true := by rw [ho]; decide
  have f3 : (n.op == [114, 111, 111, 116]) = false := by rw [ho]; decide
  have f4 : (n.op == [118, 111, 108, 117, 109, 101]) = false := by rw [ho]; decide
  have f5 : (n.op == [101, 120, 112, 111, 114, 116]) = false := by rw [ho]; decide
  have hlen := h.len
  have hNm := fun W => rname_c n.s W (by have := h.s; omega)
  have hot := bs_toList n.op
  unfold nval
  obtain ⟨L, hL⟩ : ∃ L, L = n.l.length := ⟨_, rfl⟩
  rw [← hL] at hlen ⊢
  have hLm : L ≤ 9223372036854775807 := by omega
  obtain ⟨M, hMe⟩ : ∃ M, M = n.n := ⟨_, rfl⟩
  have hB := rs_key hnm (.inl ho)
  rw [← hL, ← hMe] at hB
  rw [← hMe, hB]
  rw [hnm] at hNm
  by_cases hM : M = 0
  · subst hM
    by_cases hL1 : L = 1
    · obtain ⟨g, off, Au, Cu, rfl, hg, hat⟩ := parts_at h (by omega)
      obtain ⟨q1, q2⟩ := hat 0 (by omega)
      have hc : ∀ W, Below w.heap.size w W → Calls Tryz.prog 28 #[nval (nth n.l 0) (Au 0) (Cu 0), .string ⟨#[104, 101, 120]⟩] W (Yes W (hexOk (nth n.l 0))) := fun W hW => leafHex_c (nth n.l 0) (Au 0) (nth n.l 0).l.length (Cu 0) W (q2.grow hW).s rfl (by have := q2.len; omega)
      have hld : ∀ W, Below w.heap.size w W → NdAt W g (off + 0 * 5) (nth n.l 0) (Au 0) (Cu 0) := fun W hW => q1.grow hW hg
      have HLD : Hid (∀ W, Below w.heap.size w W → NdAt W g (off + 0 * 5) (nth n.l 0) (Au 0) (Cu 0)) := hld
      subst hL1
      generalize hexOk (nth n.l 0) = R at hc ⊢
      rw [show (decide ((0 : Int) = 0) && decide ((1 : Nat) = 1) && R) = R by cases R <;> rfl]
      have HC : Hid (∀ W, Below w.heap.size w W → Calls Tryz.prog 28 #[nval (nth n.l 0) (Au 0) (Cu 0), .string ⟨#[104, 101, 120]⟩] W (Yes W R)) := hc
      clear hB hL hMe h hlen ho hnm hc hld hat q1 q2
      go_enter Tryz.func17, Tryz.ntmps17
      go_wp2_with (first
        | ((go_at_call 27)
           (refine (hNm _).mono ?_)
           (rintro e w1 ⟨rfl, bk1⟩)
           (obtain ⟨p0, p1, p2, p3, p4⟩ := five ((Has.new w _ _).below bk1 (by simp))))
        | (refine at_dstL 43 rfl ?_; refine wpList_is (some 43) (.pointer (some ⟨g, off + 0 * 5, none⟩)) rfl (by rfl) (run_at_nd _ _ rfl g off 0 _ C rfl rfl (by omega) _) ?_)
        | (refine at_dstL 44 rfl ?_; refine wpList_is (some 44) (nval (nth n.l 0) (Au 0) (Cu 0)) rfl (by rfl) (run_load_nd _ rfl g _ rfl _ (HLD.out _ (bel_pa0 bk1))) ?_)
        | ((go_at_call 28)
           (refine (HC.out _ (bel_pa0 bk1)).mono ?_)
           (rintro e w2 ⟨rfl, bk2⟩)))
      go_ret
      exact ⟨rfl, (bel_pa0 bk1).trans (bk2.mono (bel_pa0 bk1).size)⟩
    · have hLi : ¬ (L : Int) = 1 := by omega
      rw [decide_eq_false hL1, Bool.and_false, Bool.false_and]
      clear hB hL hMe h hlen ho hnm
      go_enter Tryz.func17, Tryz.ntmps17
      go_wp2_with (first
        | ((go_at_call 27)
           (refine (hNm _).mono ?_)
           (rintro e w1 ⟨rfl, bk1⟩)
           (obtain ⟨p0, p1, p2, p3, p4⟩ := five ((Has.new w _ _).below bk1 (by simp))))
      )
      go_ret
      exact ⟨rfl, bel_pa0 bk1⟩
  · have hMb : (M == 0) = false := by simpa using hM
    rw [decide_eq_false hM, Bool.false_and, Bool.false_and]
    clear hB hL hMe h hlen ho hnm
    go_enter Tryz.func17, Tryz.ntmps17
    go_wp2_with (first
      | ((go_at_call 27)
         (refine (hNm _).mono ?_)
         (rintro e w1 ⟨rfl, bk1⟩)
         (obtain ⟨p0, p1, p2, p3, p4⟩ := five ((Has.new w _ _).below bk1 (by simp))))
    )
    go_ret
    exact ⟨rfl, bel_pa0 bk1⟩

set_option maxRecDepth 100000 in
set_option maxHeartbeats 2000000 in
theorem rstRoot_c (n : Nd) (A : Option Addr) (C : Nat) (w : World) (h : RdN w n A C) (hnm : hasNm n.s = true) (ho : n.op = wRoot) : Calls Tryz.prog 17 #[nval n A C] w (Yes w (rightS n)) := by
  have f0 : (n.op == [100, 101, 118, 105, 99, 101]) = false := by rw [ho]; decide
  have f1 : (n.op == [106, 111, 117, 114, 110, 97, 108]) = false := by rw [ho]; decide
  have f2 : (n.op == [107, 101, 121]) = false := by rw [ho]; decide
  have f3 : (n.op == [114, 111, 111, 116]) = true := by rw [ho]; decide
  have f4 : (n.op == [118, 111, 108, 117, 109, 101]) = false := by rw [ho]; decide
  have f5 : (n.op == [101, 120, 112, 111, 114, 116]) = false := by rw [ho]; decide
  have hlen := h.len
  have hNm := fun W => rname_c n.s W (by have := h.s; omega)
  have hot := bs_toList n.op
  unfold nval
  obtain ⟨L, hL⟩ : ∃ L, L = n.l.length := ⟨_, rfl⟩
  rw [← hL] at hlen ⊢
  have hLm : L ≤ 9223372036854775807 := by omega
  obtain ⟨M, hMe⟩ : ∃ M, M = n.n := ⟨_, rfl⟩
  have hB := rs_key hnm (.inr ho)
  rw [← hL, ← hMe] at hB
  rw [← hMe, hB]
  rw [hnm] at hNm
  by_cases hM : M = 0
  · subst hM
    by_cases hL1 : L = 1
    · obtain ⟨g, off, Au, Cu, rfl, hg, hat⟩ := parts_at h (by omega)
      obtain ⟨q1, q2⟩ := hat 0 (by omega)
      have hc : ∀ W, Below w.heap.size w W → Calls Tryz.prog 28 #[nval (nth n.l 0) (Au 0) (Cu 0), .string ⟨#[104, 101, 120]⟩] W (Yes W (hexOk (nth n.l 0))) := fun W hW => leafHex_c (nth n.l 0) (Au 0) (nth n.l 0).l.length (Cu 0) W (q2.grow hW).s rfl (by have := q2.len; omega)
      have hld : ∀ W, Below w.heap.size w W → NdAt W g (off + 0 * 5) (nth n.l 0) (Au 0) (Cu 0) := fun W hW => q1.grow hW hg
      have HLD : Hid (∀ W, Below w.heap.size w W → NdAt W g (off + 0 * 5) (nth n.l 0) (Au 0) (Cu 0)) := hld
      subst hL1
      generalize hexOk (nth n.l 0) = R at hc ⊢
      rw [show (decide ((0 : Int) = 0) && decide ((1 : Nat) = 1) && R) = R by cases R <;> rfl]
      have HC : Hid (∀ W, Below w.heap.size w W → Calls Tryz.prog 28 #[nval (nth n.l 0) (Au 0) (Cu 0), .string ⟨#[104, 101, 120]⟩] W (Yes W R)) := hc
      clear hB hL hMe h hlen ho hnm hc hld hat q1 q2
      go_enter Tryz.func17, Tryz.ntmps17
      go_wp2_with (first
        | ((go_at_call 27)
           (refine (hNm _).mono ?_)
           (rintro e w1 ⟨rfl, bk1⟩)
           (obtain ⟨p0, p1, p2, p3, p4⟩ := five ((Has.new w _ _).below bk1 (by simp))))
        | (refine at_dstL 43 rfl ?_; refine wpList_is (some 43) (.pointer (some ⟨g, off + 0 * 5, none⟩)) rfl (by rfl) (run_at_nd _ _ rfl g off 0 _ C rfl rfl (by omega) _) ?_)
        | (refine at_dstL 44 rfl ?_; refine wpList_is (some 44) (nval (nth n.l 0) (Au 0) (Cu 0)) rfl (by rfl) (run_load_nd _ rfl g _ rfl _ (HLD.out _ (bel_pa0 bk1))) ?_)
        | ((go_at_call 28)
           (refine (HC.out _ (bel_pa0 bk1)).mono ?_)
           (rintro e w2 ⟨rfl, bk2⟩)))
      go_ret
      exact ⟨rfl, (bel_pa0 bk1).trans (bk2.mono (bel_pa0 bk1).size)⟩
    · have hLi : ¬ (L : Int) = 1 := by omega
      rw [decide_eq_false hL1, Bool.and_false, Bool.false_and]
      clear hB hL hMe h hlen ho hnm
      go_enter Tryz.func17, Tryz.ntmps17
      go_wp2_with (first
        | ((go_at_call 27)
           (refine (hNm _).mono ?_)
           (rintro e w1 ⟨rfl, bk1⟩)
           (obtain ⟨p0, p1, p2, p3, p4⟩ := five ((Has.new w _ _).below bk1 (by simp))))
      )
      go_ret
      exact ⟨rfl, bel_pa0 bk1⟩
  · have hMb : (M == 0) = false := by simpa using hM
    rw [decide_eq_false hM, Bool.false_and, Bool.false_and]
    clear hB hL hMe h hlen ho hnm
    go_enter Tryz.func17, Tryz.ntmps17
    go_wp2_with (first
      | ((go_at_call 27)
         (refine (hNm _).mono ?_)
         (rintro e w1 ⟨rfl, bk1⟩)
         (obtain ⟨p0, p1, p2, p3, p4⟩ := five ((Has.new w _ _).below bk1 (by simp))))
    )
    go_ret
    exact ⟨rfl, bel_pa0 bk1⟩

set_option maxRecDepth 100000 in
set_option maxHeartbeats 2000000 in
theorem rstVolume_c (n : Nd) (A : Option Addr) (C : Nat) (w : World) (h : RdN w n A C) (hnm : hasNm n.s = true) (ho : n.op = wVolume) : Calls Tryz.prog 17 #[nval n A C] w (Yes w (rightS n)) := by
  have f0 : (n.op == [100, 101, 118, 105, 99, 101]) = false := by rw [ho]; decide
  have f1 : (n.op == [106, 111, 117, 114, 110, 97, 108]) = false := by rw [ho]; decide
  have f2 : (n.op == [107, 101, 121]) = false := by rw [ho]; decide
  have f3 : (n.op == [114, 111, 111, 116]) = false := by rw [ho]; decide
  have f4 : (n.op == [118, 111, 108, 117, 109, 101]) = true := by rw [ho]; decide
  have f5 : (n.op == [101, 120, 112, 111, 114, 116]) = false := by rw [ho]; decide
  have hlen := h.len
  have hNm := fun W => rname_c n.s W (by have := h.s; omega)
  have hot := bs_toList n.op
  unfold nval
  obtain ⟨L, hL⟩ : ∃ L, L = n.l.length := ⟨_, rfl⟩
  rw [← hL] at hlen ⊢
  have hLm : L ≤ 9223372036854775807 := by omega
  obtain ⟨M, hMe⟩ : ∃ M, M = n.n := ⟨_, rfl⟩
  have hB := rs_vol hnm ho
  rw [← hL, ← hMe] at hB
  rw [← hMe, hB]
  rw [hnm] at hNm
  by_cases hM : M = 0
  · subst hM
    by_cases hL1 : L = 1
    · obtain ⟨g, off, Au, Cu, rfl, hg, hat⟩ := parts_at h (by omega)
      obtain ⟨q1, q2⟩ := hat 0 (by omega)
      have hc : ∀ W, Below w.heap.size w W → Calls Tryz.prog 29 #[nval (nth n.l 0) (Au 0) (Cu 0), .int .i64 1] W (Yes W (rightE 12 (nth n.l 0))) := fun W hW => rex_c 12 1 (nth n.l 0) (Au 0) (Cu 0) W rfl (q2.grow hW)
      have hld : ∀ W, Below w.heap.size w W → NdAt W g (off + 0 * 5) (nth n.l 0) (Au 0) (Cu 0) := fun W hW => q1.grow hW hg
      have HLD : Hid (∀ W, Below w.heap.size w W → NdAt W g (off + 0 * 5) (nth n.l 0) (Au 0) (Cu 0)) := hld
      subst hL1
      generalize rightE 12 (nth n.l 0) = R at hc ⊢
      rw [show (decide ((0 : Int) = 0) && decide ((1 : Nat) = 1) && R) = R by cases R <;> rfl]
      have HC : Hid (∀ W, Below w.heap.size w W → Calls Tryz.prog 29 #[nval (nth n.l 0) (Au 0) (Cu 0), .int .i64 1] W (Yes W R)) := hc
      clear hB hL hMe h hlen ho hnm hc hld hat q1 q2
      go_enter Tryz.func17, Tryz.ntmps17
      go_wp2_with (first
        | ((go_at_call 27)
           (refine (hNm _).mono ?_)
           (rintro e w1 ⟨rfl, bk1⟩)
           (obtain ⟨p0, p1, p2, p3, p4⟩ := five ((Has.new w _ _).below bk1 (by simp))))
        | (refine at_dstL 61 rfl ?_; refine wpList_is (some 61) (.pointer (some ⟨g, off + 0 * 5, none⟩)) rfl (by rfl) (run_at_nd _ _ rfl g off 0 _ C rfl rfl (by omega) _) ?_)
        | (refine at_dstL 62 rfl ?_; refine wpList_is (some 62) (nval (nth n.l 0) (Au 0) (Cu 0)) rfl (by rfl) (run_load_nd _ rfl g _ rfl _ (HLD.out _ (bel_pa0 bk1))) ?_)
        | ((go_at_call 29)
           (refine (HC.out _ (bel_pa0 bk1)).mono ?_)
           (rintro e w2 ⟨rfl, bk2⟩)))
      go_ret
      exact ⟨rfl, (bel_pa0 bk1).trans (bk2.mono (bel_pa0 bk1).size)⟩
    · have hLi : ¬ (L : Int) = 1 := by omega
      rw [decide_eq_false hL1, Bool.and_false, Bool.false_and]
      clear hB hL hMe h hlen ho hnm
      go_enter Tryz.func17, Tryz.ntmps17
      go_wp2_with (first
        | ((go_at_call 27)
           (refine (hNm _).mono ?_)
           (rintro e w1 ⟨rfl, bk1⟩)
           (obtain ⟨p0, p1, p2, p3, p4⟩ := five ((Has.new w _ _).below bk1 (by simp))))
      )
      go_ret
      exact ⟨rfl, bel_pa0 bk1⟩
  · have hMb : (M == 0) = false := by simpa using hM
    rw [decide_eq_false hM, Bool.false_and, Bool.false_and]
    clear hB hL hMe h hlen ho hnm
    go_enter Tryz.func17, Tryz.ntmps17
    go_wp2_with (first
      | ((go_at_call 27)
         (refine (hNm _).mono ?_)
         (rintro e w1 ⟨rfl, bk1⟩)
         (obtain ⟨p0, p1, p2, p3, p4⟩ := five ((Has.new w _ _).below bk1 (by simp))))
    )
    go_ret
    exact ⟨rfl, bel_pa0 bk1⟩

set_option maxRecDepth 100000 in
set_option maxHeartbeats 2000000 in
theorem rstExport_c (n : Nd) (A : Option Addr) (C : Nat) (w : World) (h : RdN w n A C) (hnm : hasNm n.s = true) (ho : n.op = wExport) : Calls Tryz.prog 17 #[nval n A C] w (Yes w (rightS n)) := by
  have f0 : (n.op == [100, 101, 118, 105, 99, 101]) = false := by rw [ho]; decide
  have f1 : (n.op == [106, 111, 117, 114, 110, 97, 108]) = false := by rw [ho]; decide
  have f2 : (n.op == [107, 101, 121]) = false := by rw [ho]; decide
  have f3 : (n.op == [114, 111, 111, 116]) = false := by rw [ho]; decide
  have f4 : (n.op == [118, 111, 108, 117, 109, 101]) = false := by rw [ho]; decide
  have f5 : (n.op == [101, 120, 112, 111, 114, 116]) = true := by rw [ho]; decide
  have hlen := h.len
  have hNm := fun W => rname_c n.s W (by have := h.s; omega)
  have hot := bs_toList n.op
  unfold nval
  obtain ⟨L, hL⟩ : ∃ L, L = n.l.length := ⟨_, rfl⟩
  rw [← hL] at hlen ⊢
  have hLm : L ≤ 9223372036854775807 := by omega
  obtain ⟨M, hMe⟩ : ∃ M, M = n.n := ⟨_, rfl⟩
  have hB := rs_exp hnm ho
  rw [← hL, ← hMe] at hB
  rw [← hMe, hB]
  rw [hnm] at hNm
  clear hB hL hMe h hlen ho hnm
  by_cases hL0 : L = 0
  · subst hL0
    by_cases hM0 : M = 0
    · subst hM0
      rw [show ((decide ((0 : Int) = 0) || decide ((0 : Int) = 1)) && decide ((0 : Nat) = 0)) = true from rfl]
      go_enter Tryz.func17, Tryz.ntmps17
      go_wp2_with (first
        | ((go_at_call 27)
           (refine (hNm _).mono ?_)
           (rintro e w1 ⟨rfl, bk1⟩)
           (obtain ⟨p0, p1, p2, p3, p4⟩ := five ((Has.new w _ _).below bk1 (by simp))))
      )
      go_ret
      exact ⟨rfl, bel_pa0 bk1⟩
    · by_cases hM1 : M = 1
      · subst hM1
        rw [show ((decide ((1 : Int) = 0) || decide ((1 : Int) = 1)) && decide ((0 : Nat) = 0)) = true from rfl]
        go_enter Tryz.func17, Tryz.ntmps17
        go_wp2_with (first
          | ((go_at_call 27)
             (refine (hNm _).mono ?_)
             (rintro e w1 ⟨rfl, bk1⟩)
             (obtain ⟨p0, p1, p2, p3, p4⟩ := five ((Has.new w _ _).below bk1 (by simp))))
        )
        go_ret
        exact ⟨rfl, bel_pa0 bk1⟩
      · have hb0 : (M == 0) = false := by simpa using hM0
        have hb1 : (M == 1) = false := by simpa using hM1
        rw [decide_eq_false hM0, decide_eq_false hM1]
        rw [show ((false || false) && decide ((0 : Nat) = 0)) = false from rfl]
        go_enter Tryz.func17, Tryz.ntmps17
        go_wp2_with (first
          | ((go_at_call 27)
             (refine (hNm _).mono ?_)
             (rintro e w1 ⟨rfl, bk1⟩)
             (obtain ⟨p0, p1, p2, p3, p4⟩ := five ((Has.new w _ _).below bk1 (by simp))))
        )
        go_ret
        exact ⟨rfl, bel_pa0 bk1⟩
  · have hLi : ¬ (L : Int) = 0 := by omega
    rw [decide_eq_false hL0, Bool.and_false]
    go_enter Tryz.func17, Tryz.ntmps17
    go_wp2_with (first
      | ((go_at_call 27)
         (refine (hNm _).mono ?_)
         (rintro e w1 ⟨rfl, bk1⟩)
         (obtain ⟨p0, p1, p2, p3, p4⟩ := five ((Has.new w _ _).below bk1 (by simp))))
    )
    go_ret
    exact ⟨rfl, bel_pa0 bk1⟩

set_option maxRecDepth 100000 in
set_option maxHeartbeats 2000000 in
theorem rstNone_c (n : Nd) (A : Option Addr) (C : Nat) (w : World) (h : RdN w n A C) (hnm : hasNm n.s = true) (ho : n.op ≠ wDevice ∧ n.op ≠ wJournal ∧ n.op ≠ wKey ∧ n.op ≠ wRoot ∧ n.op ≠ wVolume ∧ n.op ≠ wExport) : Calls Tryz.prog 17 #[nval n A C] w (Yes w false) := by
  obtain ⟨o0, o1, o2, o3, o4, o5⟩ := ho
  have f0 : (n.op == [100, 101, 118, 105, 99, 101]) = false := by simpa [wDevice] using o0
  have f1 : (n.op == [106, 111, 117, 114, 110, 97, 108]) = false := by simpa [wJournal] using o1
  have f2 : (n.op == [107, 101, 121]) = false := by simpa [wKey] using o2
  have f3 : (n.op == [114, 111, 111, 116]) = false := by simpa [wRoot] using o3
  have f4 : (n.op == [118, 111, 108, 117, 109, 101]) = false := by simpa [wVolume] using o4
  have f5 : (n.op == [101, 120, 112, 111, 114, 116]) = false := by simpa [wExport] using o5
  have hlen := h.len
  have hNm := fun W => rname_c n.s W (by have := h.s; omega)
  have hot := bs_toList n.op
  unfold nval
  obtain ⟨L, hL⟩ : ∃ L, L = n.l.length := ⟨_, rfl⟩
  rw [← hL] at hlen ⊢
  have hLm : L ≤ 9223372036854775807 := by omega
  obtain ⟨M, hMe⟩ : ∃ M, M = n.n := ⟨_, rfl⟩
  rw [hnm] at hNm
  clear hL hMe h hlen hnm o0 o1 o2 o3 o4 o5
  go_enter Tryz.func17, Tryz.ntmps17
  go_wp2_with (first
    | ((go_at_call 27)
       (refine (hNm _).mono ?_)
       (rintro e w1 ⟨rfl, bk1⟩)
       (obtain ⟨p0, p1, p2, p3, p4⟩ := five ((Has.new w _ _).below bk1 (by simp))))
  )
  go_ret
  exact ⟨rfl, bel_pa0 bk1⟩

set_option maxRecDepth 100000 in
set_option maxHeartbeats 2000000 in
theorem rstName_c (n : Nd) (A : Option Addr) (C : Nat) (w : World) (h : RdN w n A C) (hnm : hasNm n.s = false) : Calls Tryz.prog 17 #[nval n A C] w (Yes w false) := by
  have hlen := h.len
  have hNm := fun W => rname_c n.s W (by have := h.s; omega)
  have hot := bs_toList n.op
  unfold nval
  obtain ⟨L, hL⟩ : ∃ L, L = n.l.length := ⟨_, rfl⟩
  rw [← hL] at hlen ⊢
  have hLm : L ≤ 9223372036854775807 := by omega
  obtain ⟨M, hMe⟩ : ∃ M, M = n.n := ⟨_, rfl⟩
  rw [hnm] at hNm
  clear hL hMe h hlen hnm
  go_enter Tryz.func17, Tryz.ntmps17
  go_wp2_with (first
    | ((go_at_call 27)
       (refine (hNm _).mono ?_)
       (rintro e w1 ⟨rfl, bk1⟩)
       (obtain ⟨p0, p1, p2, p3, p4⟩ := five ((Has.new w _ _).below bk1 (by simp))))
  )
  go_ret
  exact ⟨rfl, bel_pa0 bk1⟩

theorem rst_c (n : Nd) (A : Option Addr) (C : Nat) (w : World) (h : RdN w n A C) : Calls Tryz.prog 17 #[nval n A C] w (Yes w (rightS n)) := by
  cases hnm : hasNm n.s with
  | false =>
    rw [show rightS n = false by unfold rightS; rw [hnm]; rfl]
    exact rstName_c n A C w h hnm
  | true =>
    by_cases o0 : n.op = wDevice
    · exact rstDevice_c n A C w h hnm o0
    by_cases o1 : n.op = wJournal
    · exact rstJournal_c n A C w h hnm o1
    by_cases o2 : n.op = wKey
    · exact rstKey_c n A C w h hnm o2
    by_cases o3 : n.op = wRoot
    · exact rstRoot_c n A C w h hnm o3
    by_cases o4 : n.op = wVolume
    · exact rstVolume_c n A C w h hnm o4
    by_cases o5 : n.op = wExport
    · exact rstExport_c n A C w h hnm o5
    rw [rs_no ⟨o0, o1, o2, o3, o4, o5⟩]
    exact rstNone_c n A C w h hnm ⟨o0, o1, o2, o3, o4, o5⟩
end Go.Proofs.YtpckmllmjdafpaaGreatDoor
