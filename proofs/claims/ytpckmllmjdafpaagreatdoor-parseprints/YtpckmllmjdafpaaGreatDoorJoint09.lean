/- Texts that the statements of this stage share, joined: PsLine, PsPrint, PsAlive, PsLaid. -/
import Derived.Test.YtpckmllmjdafpaaGreatDoorJoint08
import Derived.Test.YtpckmllmjdafpaaGreatDoorRows
import Derived.LaidSub
import Derived.LaidMore
import Derived.Lib.LaidTab

/- The text of a statement. -/
namespace Go.Proofs.YtpckmllmjdafpaaGreatDoor
open Go.ChangeShapes Go.WideShapes Go.ChangeAt Go.RowKit
set_option linter.unusedVariables false

/-- What stands behind a statement's name. -/
def lineR (n : Nd) : List UInt8 :=
  if n.op = wDevice ∨ n.op = wJournal then 32 :: Lib.itoa n.n
  else if n.op = wKey ∨ n.op = wRoot then [32, 36] ++ (n.l.getD 0 (.mk [] [] 0 0 [])).s
  else if n.op = wVolume then [32, 61, 32] ++ textE 13 (n.l.getD 0 (.mk [] [] 0 0 []))
  else if n.op = wExport ∧ n.n = 1 then 32 :: wReadonly
  else []

def lineS (n : Nd) : List UInt8 := n.op ++ [32] ++ n.s ++ lineR n ++ [59, 10]

/-- The text of a right tree. -/
def printed (n : Nd) : List UInt8 := n.l.flatMap lineS

theorem add_lit {p q : ByteArray} {x y : List UInt8} (hp : p = bs x) (hq : q = bs y) : p ++ q = bs (x ++ y) := by rw [hp, hq, bs_cat]

theorem decDigits_len (k : Nat) : ∀ n, n < 10 ^ (k + 1) → (Lib.decDigits n).length ≤ k + 1 := by
  induction k with
  | zero => intro n h; rw [Lib.decDigits, dif_pos (by simpa using h)]; simp
  | succ k ih =>
    intro n h
    rw [Lib.decDigits]
    split
    · simp
    · have := ih (n / 10) (by rw [Nat.pow_succ] at h; omega)
      simp
      omega

theorem itoa_len {n : Int} (h : numOk n = true) : (Lib.itoa n).length ≤ 9 := by
  unfold numOk at h
  simp only [Bool.and_eq_true, decide_eq_true_eq] at h
  unfold Lib.itoa
  rw [if_neg (by omega)]
  exact decDigits_len 8 _ (by simp; omega)

/-- What a line may be of. -/
structure LnOk (n : Nd) : Prop where
  s : n.s.length ≤ 1000000000
  num : (n.op = wDevice ∨ n.op = wJournal) → numOk n.n = true
  hex : (n.op = wKey ∨ n.op = wRoot) → ∃ m, n.l = [m] ∧ m.s.length ≤ 1000000000
  vol : n.op = wVolume → ∃ m, n.l = [m] ∧ TxOk 13 m ∧ (textE 13 m).length ≤ 1000000000 ∧ Few 13 m

set_option maxRecDepth 100000 in
set_option maxHeartbeats 2000000 in
theorem lineDevice_c (s : List UInt8) (M at_ : Int) (l : List Nd) (A : Option Addr) (C : Nat) (w : World) (h : RdN w (.mk wDevice s M at_ l) A C) (ht : Tab w) (hk : LnOk (.mk wDevice s M at_ l)) :
    Calls Tryz.prog 12 #[.agg (ndc (.mk wDevice s M at_ l) (.slice A l.length C))] w fun e w' => e = .returned (.string (bs (lineS (.mk wDevice s M at_ l)))) ∧ Below w.heap.size w w' := by
  have hs : s.length ≤ 1000000000 := hk.s
  have hn : numOk M = true := hk.num (by first | exact .inl rfl | exact .inr rfl)
  have hE : lineS (.mk wDevice s M at_ l) = wDevice ++ [32] ++ s ++ ([32] ++ Lib.itoa M) ++ [59, 10] := by show _ ++ lineR _ ++ _ = _; rw [show lineR (.mk wDevice s M at_ l) = 32 :: Lib.itoa M from if_pos (by first | exact .inl rfl | exact .inr rfl)]; rfl
  have hit := fun W hW => itoa_c M W (ht.below hW) hn
  have hil := itoa_len hn
  rw [hE]
  generalize Lib.itoa M = X at *
  unfold ndc
  simp only [Nd.op, Nd.s, Nd.n, Nd.a, bsDevice]
  generalize l.length = L
  clear h hk ht hE hn
  have hwl : wDevice.length ≤ 20 := by decide
  have hwr : wReadonly.length = 8 := by decide
  obtain ⟨P6, q6⟩ : ∃ P, P = wDevice ++ [32] := ⟨_, rfl⟩
  have z6 : P6.length ≤ 100 := by have e := congrArg List.length q6; simp at e; omega
  have Q6 : Hid (P6 = wDevice ++ [32]) := q6
  obtain ⟨P9, q9⟩ : ∃ P, P = P6 ++ s := ⟨_, rfl⟩
  have z9 : P9.length ≤ 1100000000 := by have e := congrArg List.length q9; simp at e; omega
  have Q9 : Hid (P9 = P6 ++ s) := q9
  obtain ⟨P19, q19⟩ : ∃ P, P = [32] ++ X := ⟨_, rfl⟩
  have z19 : P19.length ≤ 100000000 := by have e := congrArg List.length q19; simp at e; omega
  have Q19 : Hid (P19 = [32] ++ X) := q19
  obtain ⟨P20, q20⟩ : ∃ P, P = P9 ++ P19 := ⟨_, rfl⟩
  have z20 : P20.length ≤ 1200000000 := by have e := congrArg List.length q20; simp at e; omega
  have Q20 : Hid (P20 = P9 ++ P19) := q20
  obtain ⟨P50, q50⟩ : ∃ P, P = P20 ++ [59, 10] := ⟨_, rfl⟩
  have z50 : P50.length ≤ 2400000000 := by have e := congrArg List.length q50; simp at e; omega
  have Q50 : Hid (P50 = P20 ++ [59, 10]) := q50
  have HF : Hid (P50 = wDevice ++ [32] ++ s ++ ([32] ++ X) ++ [59, 10]) := by show _ = _; rw [q50, q20, q19, q9, q6]
  rw [← HF.out]
  clear q6 q9 q19 q20 q50
  go_enter Tryz.func12, Tryz.ntmps12
  go_wp2_with (first
    | (refine at_dstL 6 rfl ?_; refine wpList_is (some 6) (.string (bs P6)) rfl rfl (by rw [Q6.out, ← bs_cat]; exact run_add_str _ _ rfl (bs (wDevice)) (bs ([32])) rfl rfl (by rw [bs_size, bs_size, ← List.length_append, ← Q6.out]; omega) _) ?_)
    | (refine at_dstL 9 rfl ?_; refine wpList_is (some 9) (.string (bs P9)) rfl rfl (by rw [Q9.out, ← bs_cat]; exact run_add_str _ _ rfl (bs (P6)) (bs (s)) rfl rfl (by rw [bs_size, bs_size, ← List.length_append, ← Q9.out]; omega) _) ?_)
    | (refine at_dstL 19 rfl ?_; refine wpList_is (some 19) (.string (bs P19)) rfl rfl (by rw [Q19.out, ← bs_cat]; exact run_add_str _ _ rfl (bs ([32])) (bs (X)) rfl rfl (by rw [bs_size, bs_size, ← List.length_append, ← Q19.out]; omega) _) ?_)
    | (refine at_dstL 20 rfl ?_; refine wpList_is (some 20) (.string (bs P20)) rfl rfl (by rw [Q20.out, ← bs_cat]; exact run_add_str _ _ rfl (bs (P9)) (bs (P19)) rfl rfl (by rw [bs_size, bs_size, ← List.length_append, ← Q20.out]; omega) _) ?_)
    | (refine at_dstL 50 rfl ?_; refine wpList_is (some 50) (.string (bs P50)) rfl rfl (by rw [Q50.out, ← bs_cat]; exact run_add_str _ _ rfl (bs (P20)) (bs ([59, 10])) rfl rfl (by rw [bs_size, bs_size, ← List.length_append, ← Q50.out]; omega) _) ?_)
    | (go_at_call 21; refine (hit _ (b_one _ _)).mono ?_; rintro e w1 ⟨rfl, hb1⟩))
  go_ret
  exact ⟨rfl, (b_one w _).trans (hb1.mono (by simp))⟩

set_option maxRecDepth 100000 in
set_option maxHeartbeats 2000000 in
theorem lineJournal_c (s : List UInt8) (M at_ : Int) (l : List Nd) (A : Option Addr) (C : Nat) (w : World) (h : RdN w (.mk wJournal s M at_ l) A C) (ht : Tab w) (hk : LnOk (.mk wJournal s M at_ l)) :
    Calls Tryz.prog 12 #[.agg (ndc (.mk wJournal s M at_ l) (.slice A l.length C))] w fun e w' => e = .returned (.string (bs (lineS (.mk wJournal s M at_ l)))) ∧ Below w.heap.size w w' := by
  have hs : s.length ≤ 1000000000 := hk.s
  have hn : numOk M = true := hk.num (by first | exact .inl rfl | exact .inr rfl)
  have hE : lineS (.mk wJournal s M at_ l) = wJournal ++ [32] ++ s ++ ([32] ++ Lib.itoa M) ++ [59, 10] := by show _ ++ lineR _ ++ _ = _; rw [show lineR (.mk wJournal s M at_ l) = 32 :: Lib.itoa M from if_pos (by first | exact .inl rfl | exact .inr rfl)]; rfl
  have hit := fun W hW => itoa_c M W (ht.below hW) hn
  have hil := itoa_len hn
  rw [hE]
  generalize Lib.itoa M = X at *
  unfold ndc
  simp only [Nd.op, Nd.s, Nd.n, Nd.a, bsJournal]
  generalize l.length = L
  clear h hk ht hE hn
  have hwl : wJournal.length ≤ 20 := by decide
  have hwr : wReadonly.length = 8 := by decide
  obtain ⟨P6, q6⟩ : ∃ P, P = wJournal ++ [32] := ⟨_, rfl⟩
  have z6 : P6.length ≤ 100 := by have e := congrArg List.length q6; simp at e; omega
  have Q6 : Hid (P6 = wJournal ++ [32]) := q6
  obtain ⟨P9, q9⟩ : ∃ P, P = P6 ++ s := ⟨_, rfl⟩
  have z9 : P9.length ≤ 1100000000 := by have e := congrArg List.length q9; simp at e; omega
  have Q9 : Hid (P9 = P6 ++ s) := q9
  obtain ⟨P19, q19⟩ : ∃ P, P = [32] ++ X := ⟨_, rfl⟩
  have z19 : P19.length ≤ 100000000 := by have e := congrArg List.length q19; simp at e; omega
  have Q19 : Hid (P19 = [32] ++ X) := q19
  obtain ⟨P20, q20⟩ : ∃ P, P = P9 ++ P19 := ⟨_, rfl⟩
  have z20 : P20.length ≤ 1200000000 := by have e := congrArg List.length q20; simp at e; omega
  have Q20 : Hid (P20 = P9 ++ P19) := q20
  obtain ⟨P50, q50⟩ : ∃ P, P = P20 ++ [59, 10] := ⟨_, rfl⟩
  have z50 : P50.length ≤ 2400000000 := by have e := congrArg List.length q50; simp at e; omega
  have Q50 : Hid (P50 = P20 ++ [59, 10]) := q50
  have HF : Hid (P50 = wJournal ++ [32] ++ s ++ ([32] ++ X) ++ [59, 10]) := by show _ = _; rw [q50, q20, q19, q9, q6]
  rw [← HF.out]
  clear q6 q9 q19 q20 q50
  go_enter Tryz.func12, Tryz.ntmps12
  go_wp2_with (first
    | (refine at_dstL 6 rfl ?_; refine wpList_is (some 6) (.string (bs P6)) rfl rfl (by rw [Q6.out, ← bs_cat]; exact run_add_str _ _ rfl (bs (wJournal)) (bs ([32])) rfl rfl (by rw [bs_size, bs_size, ← List.length_append, ← Q6.out]; omega) _) ?_)
    | (refine at_dstL 9 rfl ?_; refine wpList_is (some 9) (.string (bs P9)) rfl rfl (by rw [Q9.out, ← bs_cat]; exact run_add_str _ _ rfl (bs (P6)) (bs (s)) rfl rfl (by rw [bs_size, bs_size, ← List.length_append, ← Q9.out]; omega) _) ?_)
    | (refine at_dstL 19 rfl ?_; refine wpList_is (some 19) (.string (bs P19)) rfl rfl (by rw [Q19.out, ← bs_cat]; exact run_add_str _ _ rfl (bs ([32])) (bs (X)) rfl rfl (by rw [bs_size, bs_size, ← List.length_append, ← Q19.out]; omega) _) ?_)
    | (refine at_dstL 20 rfl ?_; refine wpList_is (some 20) (.string (bs P20)) rfl rfl (by rw [Q20.out, ← bs_cat]; exact run_add_str _ _ rfl (bs (P9)) (bs (P19)) rfl rfl (by rw [bs_size, bs_size, ← List.length_append, ← Q20.out]; omega) _) ?_)
    | (refine at_dstL 50 rfl ?_; refine wpList_is (some 50) (.string (bs P50)) rfl rfl (by rw [Q50.out, ← bs_cat]; exact run_add_str _ _ rfl (bs (P20)) (bs ([59, 10])) rfl rfl (by rw [bs_size, bs_size, ← List.length_append, ← Q50.out]; omega) _) ?_)
    | (go_at_call 21; refine (hit _ (b_one _ _)).mono ?_; rintro e w1 ⟨rfl, hb1⟩))
  go_ret
  exact ⟨rfl, (b_one w _).trans (hb1.mono (by simp))⟩

set_option maxRecDepth 100000 in
set_option maxHeartbeats 2000000 in
theorem lineKey_c (s : List UInt8) (M at_ : Int) (l : List Nd) (A : Option Addr) (C : Nat) (w : World) (h : RdN w (.mk wKey s M at_ l) A C) (ht : Tab w) (hk : LnOk (.mk wKey s M at_ l)) :
    Calls Tryz.prog 12 #[.agg (ndc (.mk wKey s M at_ l) (.slice A l.length C))] w fun e w' => e = .returned (.string (bs (lineS (.mk wKey s M at_ l)))) ∧ Below w.heap.size w w' := by
  have hs : s.length ≤ 1000000000 := hk.s
  obtain ⟨m, e1, hm⟩ : ∃ m, l = [m] ∧ m.s.length ≤ 1000000000 := hk.hex (by first | exact .inl rfl | exact .inr rfl)
  subst e1
  have hE : lineS (.mk wKey s M at_ [m]) = wKey ++ [32] ++ s ++ ([32, 36] ++ m.s) ++ [59, 10] := by show _ ++ lineR _ ++ _ = _; rw [show lineR (.mk wKey s M at_ [m]) = [32, 36] ++ m.s from (if_neg (by show ¬ (wKey = wDevice ∨ wKey = wJournal); decide)).trans (if_pos (by first | exact .inl rfl | exact .inr rfl))]; rfl
  rw [hE]
  obtain ⟨g, off, u, rfl, hg, hc, hru, hsu, hou⟩ := h.rd.get 0 (by simp [Nd.l])
  simp only [Nd.l, List.getElem_cons_zero] at hc
  have d1 := hc 1 (by decide)
  simp only [ndc, Nat.zero_mul, Nat.add_zero] at d1
  have hc1 := h.len.1
  simp only [Nd.l, List.length_singleton] at hc1
  clear h hk ht hE hc hru hsu hou
  generalize m.s = X at *
  unfold ndc
  simp only [Nd.op, Nd.s, Nd.n, Nd.a, bsKey]
  rw [show ([m] : List Nd).length = 1 from rfl]
  have hwl : wKey.length ≤ 20 := by decide
  have hwr : wReadonly.length = 8 := by decide
  obtain ⟨P6, q6⟩ : ∃ P, P = wKey ++ [32] := ⟨_, rfl⟩
  have z6 : P6.length ≤ 100 := by have e := congrArg List.length q6; simp at e; omega
  have Q6 : Hid (P6 = wKey ++ [32]) := q6
  obtain ⟨P9, q9⟩ : ∃ P, P = P6 ++ s := ⟨_, rfl⟩
  have z9 : P9.length ≤ 1100000000 := by have e := congrArg List.length q9; simp at e; omega
  have Q9 : Hid (P9 = P6 ++ s) := q9
  obtain ⟨P30, q30⟩ : ∃ P, P = [32, 36] ++ X := ⟨_, rfl⟩
  have z30 : P30.length ≤ 1100000000 := by have e := congrArg List.length q30; simp at e; omega
  have Q30 : Hid (P30 = [32, 36] ++ X) := q30
  obtain ⟨P31, q31⟩ : ∃ P, P = P9 ++ P30 := ⟨_, rfl⟩
  have z31 : P31.length ≤ 2200000000 := by have e := congrArg List.length q31; simp at e; omega
  have Q31 : Hid (P31 = P9 ++ P30) := q31
  obtain ⟨P50, q50⟩ : ∃ P, P = P31 ++ [59, 10] := ⟨_, rfl⟩
  have z50 : P50.length ≤ 2400000000 := by have e := congrArg List.length q50; simp at e; omega
  have Q50 : Hid (P50 = P31 ++ [59, 10]) := q50
  have HF : Hid (P50 = wKey ++ [32] ++ s ++ ([32, 36] ++ X) ++ [59, 10]) := by show _ = _; rw [q50, q31, q30, q9, q6]
  rw [← HF.out]
  clear q6 q9 q30 q31 q50
  go_enter Tryz.func12, Tryz.ntmps12
  go_wp2_with (first
    | (refine at_dstL 6 rfl ?_; refine wpList_is (some 6) (.string (bs P6)) rfl rfl (by rw [Q6.out, ← bs_cat]; exact run_add_str _ _ rfl (bs (wKey)) (bs ([32])) rfl rfl (by rw [bs_size, bs_size, ← List.length_append, ← Q6.out]; omega) _) ?_)
    | (refine at_dstL 9 rfl ?_; refine wpList_is (some 9) (.string (bs P9)) rfl rfl (by rw [Q9.out, ← bs_cat]; exact run_add_str _ _ rfl (bs (P6)) (bs (s)) rfl rfl (by rw [bs_size, bs_size, ← List.length_append, ← Q9.out]; omega) _) ?_)
    | (refine at_dstL 30 rfl ?_; refine wpList_is (some 30) (.string (bs P30)) rfl rfl (by rw [Q30.out, ← bs_cat]; exact run_add_str _ _ rfl (bs ([32, 36])) (bs (X)) rfl rfl (by rw [bs_size, bs_size, ← List.length_append, ← Q30.out]; omega) _) ?_)
    | (refine at_dstL 31 rfl ?_; refine wpList_is (some 31) (.string (bs P31)) rfl rfl (by rw [Q31.out, ← bs_cat]; exact run_add_str _ _ rfl (bs (P9)) (bs (P30)) rfl rfl (by rw [bs_size, bs_size, ← List.length_append, ← Q31.out]; omega) _) ?_)
    | (refine at_dstL 50 rfl ?_; refine wpList_is (some 50) (.string (bs P50)) rfl rfl (by rw [Q50.out, ← bs_cat]; exact run_add_str _ _ rfl (bs (P31)) (bs ([59, 10])) rfl rfl (by rw [bs_size, bs_size, ← List.length_append, ← Q50.out]; omega) _) ?_))
  go_ret
  exact ⟨rfl, b_one _ _⟩

set_option maxRecDepth 100000 in
set_option maxHeartbeats 2000000 in
theorem lineRoot_c (s : List UInt8) (M at_ : Int) (l : List Nd) (A : Option Addr) (C : Nat) (w : World) (h : RdN w (.mk wRoot s M at_ l) A C) (ht : Tab w) (hk : LnOk (.mk wRoot s M at_ l)) :
    Calls Tryz.prog 12 #[.agg (ndc (.mk wRoot s M at_ l) (.slice A l.length C))] w fun e w' => e = .returned (.string (bs (lineS (.mk wRoot s M at_ l)))) ∧ Below w.heap.size w w' := by
  have hs : s.length ≤ 1000000000 := hk.s
  obtain ⟨m, e1, hm⟩ : ∃ m, l = [m] ∧ m.s.length ≤ 1000000000 := hk.hex (by first | exact .inl rfl | exact .inr rfl)
  subst e1
  have hE : lineS (.mk wRoot s M at_ [m]) = wRoot ++ [32] ++ s ++ ([32, 36] ++ m.s) ++ [59, 10] := by show _ ++ lineR _ ++ _ = _; rw [show lineR (.mk wRoot s M at_ [m]) = [32, 36] ++ m.s from (if_neg (by show ¬ (wRoot = wDevice ∨ wRoot = wJournal); decide)).trans (if_pos (by first | exact .inl rfl | exact .inr rfl))]; rfl
  rw [hE]
  obtain ⟨g, off, u, rfl, hg, hc, hru, hsu, hou⟩ := h.rd.get 0 (by simp [Nd.l])
  simp only [Nd.l, List.getElem_cons_zero] at hc
  have d1 := hc 1 (by decide)
  simp only [ndc, Nat.zero_mul, Nat.add_zero] at d1
  have hc1 := h.len.1
  simp only [Nd.l, List.length_singleton] at hc1
  clear h hk ht hE hc hru hsu hou
  generalize m.s = X at *
  unfold ndc
  simp only [Nd.op, Nd.s, Nd.n, Nd.a, bsRoot]
  rw [show ([m] : List Nd).length = 1 from rfl]
  have hwl : wRoot.length ≤ 20 := by decide
  have hwr : wReadonly.length = 8 := by decide
  obtain ⟨P6, q6⟩ : ∃ P, P = wRoot ++ [32] := ⟨_, rfl⟩
  have z6 : P6.length ≤ 100 := by have e := congrArg List.length q6; simp at e; omega
  have Q6 : Hid (P6 = wRoot ++ [32]) := q6
  obtain ⟨P9, q9⟩ : ∃ P, P = P6 ++ s := ⟨_, rfl⟩
  have z9 : P9.length ≤ 1100000000 := by have e := congrArg List.length q9; simp at e; omega
  have Q9 : Hid (P9 = P6 ++ s) := q9
  obtain ⟨P30, q30⟩ : ∃ P, P = [32, 36] ++ X := ⟨_, rfl⟩
  have z30 : P30.length ≤ 1100000000 := by have e := congrArg List.length q30; simp at e; omega
  have Q30 : Hid (P30 = [32, 36] ++ X) := q30
  obtain ⟨P31, q31⟩ : ∃ P, P = P9 ++ P30 := ⟨_, rfl⟩
  have z31 : P31.length ≤ 2200000000 := by have e := congrArg List.length q31; simp at e; omega
  have Q31 : Hid (P31 = P9 ++ P30) := q31
  obtain ⟨P50, q50⟩ : ∃ P, P = P31 ++ [59, 10] := ⟨_, rfl⟩
  have z50 : P50.length ≤ 2400000000 := by have e := congrArg List.length q50; simp at e; omega
  have Q50 : Hid (P50 = P31 ++ [59, 10]) := q50
  have HF : Hid (P50 = wRoot ++ [32] ++ s ++ ([32, 36] ++ X) ++ [59, 10]) := by show _ = _; rw [q50, q31, q30, q9, q6]
  rw [← HF.out]
  clear q6 q9 q30 q31 q50
  go_enter Tryz.func12, Tryz.ntmps12
  go_wp2_with (first
    | (refine at_dstL 6 rfl ?_; refine wpList_is (some 6) (.string (bs P6)) rfl rfl (by rw [Q6.out, ← bs_cat]; exact run_add_str _ _ rfl (bs (wRoot)) (bs ([32])) rfl rfl (by rw [bs_size, bs_size, ← List.length_append, ← Q6.out]; omega) _) ?_)
    | (refine at_dstL 9 rfl ?_; refine wpList_is (some 9) (.string (bs P9)) rfl rfl (by rw [Q9.out, ← bs_cat]; exact run_add_str _ _ rfl (bs (P6)) (bs (s)) rfl rfl (by rw [bs_size, bs_size, ← List.length_append, ← Q9.out]; omega) _) ?_)
    | (refine at_dstL 30 rfl ?_; refine wpList_is (some 30) (.string (bs P30)) rfl rfl (by rw [Q30.out, ← bs_cat]; exact run_add_str _ _ rfl (bs ([32, 36])) (bs (X)) rfl rfl (by rw [bs_size, bs_size, ← List.length_append, ← Q30.out]; omega) _) ?_)
    | (refine at_dstL 31 rfl ?_; refine wpList_is (some 31) (.string (bs P31)) rfl rfl (by rw [Q31.out, ← bs_cat]; exact run_add_str _ _ rfl (bs (P9)) (bs (P30)) rfl rfl (by rw [bs_size, bs_size, ← List.length_append, ← Q31.out]; omega) _) ?_)
    | (refine at_dstL 50 rfl ?_; refine wpList_is (some 50) (.string (bs P50)) rfl rfl (by rw [Q50.out, ← bs_cat]; exact run_add_str _ _ rfl (bs (P31)) (bs ([59, 10])) rfl rfl (by rw [bs_size, bs_size, ← List.length_append, ← Q50.out]; omega) _) ?_))
  go_ret
  exact ⟨rfl, b_one _ _⟩

set_option maxRecDepth 100000 in
set_option maxHeartbeats 2000000 in
theorem lineVolume_c (s : List UInt8) (M at_ : Int) (l : List Nd) (A : Option Addr) (C : Nat) (w : World) (h : RdN w (.mk wVolume s M at_ l) A C) (ht : Tab w) (hk : LnOk (.mk wVolume s M at_ l)) :
    Calls Tryz.prog 12 #[.agg (ndc (.mk wVolume s M at_ l) (.slice A l.length C))] w fun e w' => e = .returned (.string (bs (lineS (.mk wVolume s M at_ l)))) ∧ Below w.heap.size w w' := by
  have hs : s.length ≤ 1000000000 := hk.s
  obtain ⟨m, e1, hm1, hm2, hm3⟩ : ∃ m, l = [m] ∧ TxOk 13 m ∧ (textE 13 m).length ≤ 1000000000 ∧ Few 13 m := hk.vol rfl
  subst e1
  have hE : lineS (.mk wVolume s M at_ [m]) = wVolume ++ [32] ++ s ++ ([32, 61, 32] ++ textE 13 m) ++ [59, 10] := by show _ ++ lineR _ ++ _ = _; rw [show lineR (.mk wVolume s M at_ [m]) = [32, 61, 32] ++ textE 13 m from (if_neg (by show ¬ (wVolume = wDevice ∨ wVolume = wJournal); decide)).trans ((if_neg (by show ¬ (wVolume = wKey ∨ wVolume = wRoot); decide)).trans (if_pos rfl))]; rfl
  rw [hE]
  obtain ⟨g, off, u, rfl, hg, hc, hru, hsu, hou⟩ := h.rd.get 0 (by simp [Nd.l])
  simp only [Nd.l, List.getElem_cons_zero] at hc hru hsu hou
  obtain ⟨Au, Cu, rfl, hu1, hu2⟩ := hru.slice
  have d0 := hc 0 (by decide)
  have d1 := hc 1 (by decide)
  have d2 := hc 2 (by decide)
  have d3 := hc 3 (by decide)
  have d4 := hc 4 (by decide)
  simp only [ndc, Nat.zero_mul, Nat.add_zero] at d0 d1 d2 d3 d4
  have hc1 := h.len.1
  simp only [Nd.l, List.length_singleton] at hc1
  have htx := fun W hW => text_c 13 m Au Cu W (RdN.grow (w := w) ⟨hru, hsu, hou⟩ hW) (ht.below hW) hm1 hm2 hm3
  unfold ndc at htx ⊢
  simp only [Nd.op, Nd.s, Nd.n, Nd.a, bsVolume]
  rw [show ([m] : List Nd).length = 1 from rfl]
  generalize textE 13 m = X at *
  clear h hk ht hE hc hru hsu hou hm1 hm3
  have hwl : wVolume.length ≤ 20 := by decide
  have hwr : wReadonly.length = 8 := by decide
  obtain ⟨P6, q6⟩ : ∃ P, P = wVolume ++ [32] := ⟨_, rfl⟩
  have z6 : P6.length ≤ 100 := by have e := congrArg List.length q6; simp at e; omega
  have Q6 : Hid (P6 = wVolume ++ [32]) := q6
  obtain ⟨P9, q9⟩ : ∃ P, P = P6 ++ s := ⟨_, rfl⟩
  have z9 : P9.length ≤ 1100000000 := by have e := congrArg List.length q9; simp at e; omega
  have Q9 : Hid (P9 = P6 ++ s) := q9
  obtain ⟨P40, q40⟩ : ∃ P, P = [32, 61, 32] ++ X := ⟨_, rfl⟩
  have z40 : P40.length ≤ 1100000000 := by have e := congrArg List.length q40; simp at e; omega
  have Q40 : Hid (P40 = [32, 61, 32] ++ X) := q40
  obtain ⟨P41, q41⟩ : ∃ P, P = P9 ++ P40 := ⟨_, rfl⟩
  have z41 : P41.length ≤ 2300000000 := by have e := congrArg List.length q41; simp at e; omega
  have Q41 : Hid (P41 = P9 ++ P40) := q41
  obtain ⟨P50, q50⟩ : ∃ P, P = P41 ++ [59, 10] := ⟨_, rfl⟩
  have z50 : P50.length ≤ 2400000000 := by have e := congrArg List.length q50; simp at e; omega
  have Q50 : Hid (P50 = P41 ++ [59, 10]) := q50
  have HF : Hid (P50 = wVolume ++ [32] ++ s ++ ([32, 61, 32] ++ X) ++ [59, 10]) := by show _ = _; rw [q50, q41, q40, q9, q6]
  rw [← HF.out]
  clear q6 q9 q40 q41 q50
  go_enter Tryz.func12, Tryz.ntmps12
  go_wp2_with (first
    | (refine at_dstL 6 rfl ?_; refine wpList_is (some 6) (.string (bs P6)) rfl rfl (by rw [Q6.out, ← bs_cat]; exact run_add_str _ _ rfl (bs (wVolume)) (bs ([32])) rfl rfl (by rw [bs_size, bs_size, ← List.length_append, ← Q6.out]; omega) _) ?_)
    | (refine at_dstL 9 rfl ?_; refine wpList_is (some 9) (.string (bs P9)) rfl rfl (by rw [Q9.out, ← bs_cat]; exact run_add_str _ _ rfl (bs (P6)) (bs (s)) rfl rfl (by rw [bs_size, bs_size, ← List.length_append, ← Q9.out]; omega) _) ?_)
    | (refine at_dstL 40 rfl ?_; refine wpList_is (some 40) (.string (bs P40)) rfl rfl (by rw [Q40.out, ← bs_cat]; exact run_add_str _ _ rfl (bs ([32, 61, 32])) (bs (X)) rfl rfl (by rw [bs_size, bs_size, ← List.length_append, ← Q40.out]; omega) _) ?_)
    | (refine at_dstL 41 rfl ?_; refine wpList_is (some 41) (.string (bs P41)) rfl rfl (by rw [Q41.out, ← bs_cat]; exact run_add_str _ _ rfl (bs (P9)) (bs (P40)) rfl rfl (by rw [bs_size, bs_size, ← List.length_append, ← Q41.out]; omega) _) ?_)
    | (refine at_dstL 50 rfl ?_; refine wpList_is (some 50) (.string (bs P50)) rfl rfl (by rw [Q50.out, ← bs_cat]; exact run_add_str _ _ rfl (bs (P41)) (bs ([59, 10])) rfl rfl (by rw [bs_size, bs_size, ← List.length_append, ← Q50.out]; omega) _) ?_)
    | (go_at_call 22; refine (htx _ (b_one _ _)).mono ?_; rintro e w1 ⟨rfl, hb1⟩))
  go_ret
  exact ⟨rfl, (b_one w _).trans (hb1.mono (by simp))⟩

set_option maxRecDepth 100000 in
set_option maxHeartbeats 2000000 in
theorem lineExport_c (s : List UInt8) (M at_ : Int) (l : List Nd) (A : Option Addr) (C : Nat) (w : World) (h : RdN w (.mk wExport s M at_ l) A C) (ht : Tab w) (hk : LnOk (.mk wExport s M at_ l)) :
    Calls Tryz.prog 12 #[.agg (ndc (.mk wExport s M at_ l) (.slice A l.length C))] w fun e w' => e = .returned (.string (bs (lineS (.mk wExport s M at_ l)))) ∧ Below w.heap.size w w' := by
  have hs : s.length ≤ 1000000000 := hk.s
  unfold ndc
  simp only [Nd.op, Nd.s, Nd.n, Nd.a, bsExport]
  generalize hL : l.length = L
  by_cases hM : M = 1
  · subst hM
    have hE : lineS (.mk wExport s 1 at_ l) = wExport ++ [32] ++ s ++ (32 :: wReadonly) ++ [59, 10] := by show _ ++ lineR _ ++ _ = _; rw [show lineR (.mk wExport s 1 at_ l) = 32 :: wReadonly from (if_neg (by show ¬ (wExport = wDevice ∨ wExport = wJournal); decide)).trans ((if_neg (by show ¬ (wExport = wKey ∨ wExport = wRoot); decide)).trans ((if_neg (by show ¬ wExport = wVolume; decide)).trans (if_pos ⟨rfl, rfl⟩)))]; rfl
    rw [hE]
    clear h hk ht hE hL
    have hwl : wExport.length ≤ 20 := by decide
    have hwr : wReadonly.length = 8 := by decide
    obtain ⟨P6, q6⟩ : ∃ P, P = wExport ++ [32] := ⟨_, rfl⟩
    have z6 : P6.length ≤ 100 := by have e := congrArg List.length q6; simp at e; omega
    have Q6 : Hid (P6 = wExport ++ [32]) := q6
    obtain ⟨P9, q9⟩ : ∃ P, P = P6 ++ s := ⟨_, rfl⟩
    have z9 : P9.length ≤ 1100000000 := by have e := congrArg List.length q9; simp at e; omega
    have Q9 : Hid (P9 = P6 ++ s) := q9
    obtain ⟨P48, q48⟩ : ∃ P, P = P9 ++ (32 :: wReadonly) := ⟨_, rfl⟩
    have z48 : P48.length ≤ 1200000000 := by have e := congrArg List.length q48; simp at e; omega
    have Q48 : Hid (P48 = P9 ++ (32 :: wReadonly)) := q48
    obtain ⟨P50, q50⟩ : ∃ P, P = P48 ++ [59, 10] := ⟨_, rfl⟩
    have z50 : P50.length ≤ 2400000000 := by have e := congrArg List.length q50; simp at e; omega
    have Q50 : Hid (P50 = P48 ++ [59, 10]) := q50
    have HF : Hid (P50 = wExport ++ [32] ++ s ++ (32 :: wReadonly) ++ [59, 10]) := by show _ = _; rw [q50, q48, q9, q6]
    rw [← HF.out]
    clear q6 q9 q48 q50
    go_enter Tryz.func12, Tryz.ntmps12
    go_wp2_with (first
      | (refine at_dstL 6 rfl ?_; refine wpList_is (some 6) (.string (bs P6)) rfl rfl (by rw [Q6.out, ← bs_cat]; exact run_add_str _ _ rfl (bs (wExport)) (bs ([32])) rfl rfl (by rw [bs_size, bs_size, ← List.length_append, ← Q6.out]; omega) _) ?_)
      | (refine at_dstL 9 rfl ?_; refine wpList_is (some 9) (.string (bs P9)) rfl rfl (by rw [Q9.out, ← bs_cat]; exact run_add_str _ _ rfl (bs (P6)) (bs (s)) rfl rfl (by rw [bs_size, bs_size, ← List.length_append, ← Q9.out]; omega) _) ?_)
      | (refine at_dstL 48 rfl ?_; refine wpList_is (some 48) (.string (bs P48)) rfl rfl (by rw [Q48.out, ← bs_cat]; exact run_add_str _ _ rfl (bs (P9)) (bs ((32 :: wReadonly))) rfl rfl (by rw [bs_size, bs_size, ← List.length_append, ← Q48.out]; omega) _) ?_)
      | (refine at_dstL 50 rfl ?_; refine wpList_is (some 50) (.string (bs P50)) rfl rfl (by rw [Q50.out, ← bs_cat]; exact run_add_str _ _ rfl (bs (P48)) (bs ([59, 10])) rfl rfl (by rw [bs_size, bs_size, ← List.length_append, ← Q50.out]; omega) _) ?_))
    go_ret
    exact ⟨rfl, b_one _ _⟩
  · have hE : lineS (.mk wExport s M at_ l) = wExport ++ [32] ++ s ++ [59, 10] := by show _ ++ lineR _ ++ _ = _; rw [show lineR (.mk wExport s M at_ l) = [] from (if_neg (by show ¬ (wExport = wDevice ∨ wExport = wJournal); decide)).trans ((if_neg (by show ¬ (wExport = wKey ∨ wExport = wRoot); decide)).trans ((if_neg (by show ¬ wExport = wVolume; decide)).trans (if_neg (by rintro ⟨_, h⟩; exact hM h))))]; simp [Nd.op, Nd.s]
    rw [hE]
    clear h hk ht hE hL
    have hwl : wExport.length ≤ 20 := by decide
    have hwr : wReadonly.length = 8 := by decide
    obtain ⟨P6, q6⟩ : ∃ P, P = wExport ++ [32] := ⟨_, rfl⟩
    have z6 : P6.length ≤ 100 := by have e := congrArg List.length q6; simp at e; omega
    have Q6 : Hid (P6 = wExport ++ [32]) := q6
    obtain ⟨P9, q9⟩ : ∃ P, P = P6 ++ s := ⟨_, rfl⟩
    have z9 : P9.length ≤ 1100000000 := by have e := congrArg List.length q9; simp at e; omega
    have Q9 : Hid (P9 = P6 ++ s) := q9
    obtain ⟨P50, q50⟩ : ∃ P, P = P9 ++ [59, 10] := ⟨_, rfl⟩
    have z50 : P50.length ≤ 2400000000 := by have e := congrArg List.length q50; simp at e; omega
    have Q50 : Hid (P50 = P9 ++ [59, 10]) := q50
    have HF : Hid (P50 = wExport ++ [32] ++ s ++ [59, 10]) := by show _ = _; rw [q50, q9, q6]
    rw [← HF.out]
    clear q6 q9 q50
    go_enter Tryz.func12, Tryz.ntmps12
    go_wp2_with (first
      | (refine at_dstL 6 rfl ?_; refine wpList_is (some 6) (.string (bs P6)) rfl rfl (by rw [Q6.out, ← bs_cat]; exact run_add_str _ _ rfl (bs (wExport)) (bs ([32])) rfl rfl (by rw [bs_size, bs_size, ← List.length_append, ← Q6.out]; omega) _) ?_)
      | (refine at_dstL 9 rfl ?_; refine wpList_is (some 9) (.string (bs P9)) rfl rfl (by rw [Q9.out, ← bs_cat]; exact run_add_str _ _ rfl (bs (P6)) (bs (s)) rfl rfl (by rw [bs_size, bs_size, ← List.length_append, ← Q9.out]; omega) _) ?_)
      | (refine at_dstL 50 rfl ?_; refine wpList_is (some 50) (.string (bs P50)) rfl rfl (by rw [Q50.out, ← bs_cat]; exact run_add_str _ _ rfl (bs (P9)) (bs ([59, 10])) rfl rfl (by rw [bs_size, bs_size, ← List.length_append, ← Q50.out]; omega) _) ?_))
    go_ret
    exact ⟨rfl, b_one _ _⟩
end Go.Proofs.YtpckmllmjdafpaaGreatDoor

/- Print. -/
namespace Go.Proofs.YtpckmllmjdafpaaGreatDoor
open Go.ChangeShapes Go.WideShapes Go.ChangeAt Go.RowKit
set_option linter.unusedVariables false

theorem stmt_word {n : Nd} (h : rightS n = true) : n.op = wDevice ∨ n.op = wJournal ∨ n.op = wKey ∨ n.op = wRoot ∨ n.op = wVolume ∨ n.op = wExport := by
  rw [rightS_eq, Bool.and_eq_true] at h
  have h2 := h.2
  unfold rightR at h2
  by_cases a1 : n.op = wDevice ∨ n.op = wJournal
  · rcases a1 with a | a <;> simp [a]
  · rw [if_neg a1] at h2
    by_cases a2 : n.op = wKey ∨ n.op = wRoot
    · rcases a2 with a | a <;> simp [a]
    · rw [if_neg a2] at h2
      by_cases a3 : n.op = wVolume
      · simp [a3]
      · rw [if_neg a3] at h2
        by_cases a4 : n.op = wExport
        · simp [a4]
        · rw [if_neg a4] at h2; cases h2

theorem line_c (n : Nd) (A : Option Addr) (C : Nat) (w : World) (h : RdN w n A C) (ht : Tab w) (hk : LnOk n) (hw : n.op = wDevice ∨ n.op = wJournal ∨ n.op = wKey ∨ n.op = wRoot ∨ n.op = wVolume ∨ n.op = wExport) : Calls Tryz.prog 12 #[.agg (ndc n (.slice A n.l.length C))] w fun e w' => e = .returned (.string (bs (lineS n))) ∧ Below w.heap.size w w' := by
  obtain ⟨op, s, M, at_, l⟩ := n
  simp only [Nd.op] at hw
  rcases hw with rfl | rfl | rfl | rfl | rfl | rfl
  · exact lineDevice_c s M at_ l A C w h ht hk
  · exact lineJournal_c s M at_ l A C w h ht hk
  · exact lineKey_c s M at_ l A C w h ht hk
  · exact lineRoot_c s M at_ l A C w h ht hk
  · exact lineVolume_c s M at_ l A C w h ht hk
  · exact lineExport_c s M at_ l A C w h ht hk

theorem write_c (B b : Nat) (x y : List UInt8) (w : World) (h : Lib.IsBuilder 36 5 B b (Lib.byteCells x) w) (hl : x.length + y.length ≤ 140737488355328) (hB : B ≤ w.heap.size) : Calls Tryz.prog 11 #[.pointer (some ⟨b, 0, none⟩), .string (bs y)] w fun e w' => ∃ k, e = .returned (.tuple #[.int .i64 k, .nilIface]) ∧ Lib.IsBuilder 36 5 B b (Lib.byteCells (x ++ y)) w' ∧ Below B w w' := by
  have := Go.Proofs.Any.Builder_WriteString Tryz.lays166 Tryz.Builder_Extra_156 B b (Lib.byteCells x) (bs y) w h (by rw [bs_size]; simp [Lib.byteCells]; omega) hB
  refine this.mono ?_
  rintro e w' ⟨rfl, h1, h2⟩
  refine ⟨_, rfl, .inr ?_, h2⟩
  have e : Lib.byteCells (x ++ y) = Lib.byteCells x ++ Lib.strCells (bs y) := by simp [Lib.byteCells, Lib.strCells, bs]
  rw [e]
  exact h1

theorem builder_at_grow {T e B b : Nat} {p : Value} {bs : List Value} {w w' : World} (h : Lib.BuilderAt T e B b p bs w) (hb : Below w.heap.size w w') : Lib.BuilderAt T e B b p bs w' := by
  obtain ⟨h1, v, h2, h3, h4⟩ := h
  exact ⟨h1, v, (hb.block b (Array.getElem?_eq_some_iff.1 h2).1).trans h2, row_grown h3 (fun g o e ho => (hb.block g (row_lt h3 e).1).trans ho), h4⟩

theorem builder_grow {T e B b : Nat} {bs : List Value} {w w' : World} (h : Lib.IsBuilder T e B b bs w) (hb : Below w.heap.size w w') : Lib.IsBuilder T e B b bs w' := by
  rcases h with h | h
  · exact .inl (builder_at_grow h hb)
  · exact .inr (builder_at_grow h hb)

theorem builder_new (w : World) (T B : Nat) (hB : B ≤ w.heap.size) : Lib.IsBuilder T 5 B w.heap.size [] (w.alloc (.cells #[.pointer none, .slice none 0 0] T)) :=
  .inl ⟨hB, .slice none 0 0, heap_alloc_new w _, ⟨rfl, .inl ⟨rfl, rfl⟩⟩, by intro e; cases e⟩

set_option maxRecDepth 100000 in
set_option maxHeartbeats 2000000 in
theorem print_no (n : Nd) (A : Option Addr) (C : Nat) (w : World) (h : RdN w n A C) (hR : Right n = false) : Calls Tryz.prog 6 #[.agg (ndc n (.slice A n.l.length C))] w fun e w' => e = .returned (.tuple #[.string ⟨#[]⟩, .int .i64 111]) ∧ Below w.heap.size w w' := by
  have hrt := fun W hW => right_c n A C W (h.grow hW)
  rw [hR] at hrt
  unfold ndc at *
  clear hR
  go_enter Tryz.func6, Tryz.ntmps6
  go_wp2_with (go_at_call 8; refine (hrt _ (b_one _ _)).mono ?_; rintro e w1 ⟨rfl, hb1⟩)
  go_ret2
  exact ⟨rfl, (b_one w _).trans (hb1.mono (by simp))⟩

set_option maxRecDepth 100000 in
set_option maxHeartbeats 2000000 in
theorem print_ok (n : Nd) (A : Option Addr) (C : Nat) (w : World) (h : RdN w n A C) (ht : Tab w) (hR : Right n = true) (hk : ∀ x ∈ n.l, LnOk x) (hz : (printed n).length ≤ 100000000000) : Calls Tryz.prog 6 #[.agg (ndc n (.slice A n.l.length C))] w fun e w' => e = .returned (.tuple #[.string (bs (printed n)), .int .i64 0]) ∧ Below w.heap.size w w' := by
  have hrt := fun W hW => right_c n A C W (h.grow hW)
  have hrs : ∀ x ∈ n.l, rightS x = true := by
    unfold Right at hR
    simp only [Bool.and_eq_true] at hR
    exact List.all_eq_true.1 hR.1.1.1
  rw [hR] at hrt
  have hln := fun m Au Cu W (hr : RdN W m Au Cu) ht hm => line_c m Au Cu W hr ht (hk m hm) (stmt_word (hrs m hm))
  obtain ⟨L, hL⟩ : ∃ L, L = n.l.length := ⟨_, rfl⟩
  have HL : Hid (L = n.l.length) := hL
  have hL2 : L ≤ 9223372036854775807 := by have := h.len; omega
  have hrd := h
  rw [← hL] at hrt ⊢
  rw [show (ndc n (.slice A L C)) = #[.string (bs n.op), .string (bs n.s), .int .i64 n.n, .int .i64 n.a, .slice A L C] from rfl] at hrt ⊢
  have hzi : ∀ i, ((n.l.take i).flatMap lineS).length ≤ (printed n).length := by
    intro i
    unfold printed
    conv => rhs; rw [← List.take_append_drop i n.l, List.flatMap_append, List.length_append]
    omega
  clear hR hL h hrs hk
  go_enter Tryz.func6, Tryz.ntmps6
  go_wp2_with (first
    | ((go_at_call 8)
       (refine (hrt _ (b_one _ _)).mono ?_)
       (rintro e w1 ⟨rfl, hb1⟩)
       (have hbw : Below w.heap.size w w1 := (b_one w _).trans (hb1.mono (by simp)))
       (have hN1 := (Has.new w _ _).below hb1 (by simp))
       (have hlN := hN1.lt)
       (have n4 := hN1.cell 4)))
  have hB0 := builder_new w1 36 w1.heap.size (Nat.le_refl _)
  obtain ⟨W2, hW2⟩ : ∃ W, W = w1.alloc (.cells #[.pointer none, .slice none 0 0] 36) := ⟨_, rfl⟩
  have hb2 : Below w1.heap.size w1 W2 := by rw [hW2]; exact b_one _ _
  rw [← hW2] at hB0 ⊢
  clear hW2 hrt n4 hN1
  go_loopw [13] (fun z wz => ∃ i : Nat, i ≤ L ∧ z = .int .i64 (i : Nat) ∧ Below w1.heap.size w1 wz ∧ Lib.IsBuilder 36 5 w1.heap.size w1.heap.size (Lib.byteCells ((n.l.take i).flatMap lineS)) wz) (fun z _ => L - (intOf z).toNat)
  case atStart => exact ⟨0, Nat.zero_le _, rfl, hb2, hB0⟩
  case round =>
    clear hB0
    obtain ⟨i, hi, rfl, hbz, hbd⟩ := hrel
    have hbwr : Below w.heap.size w wr := hbw.trans (hbz.mono hbw.size)
    have hszr := hbz.size
    by_cases hiL : i < L
    · have hiL2 : (i : Int) < (L : Int) := by omega
      have hiL' : i < n.l.length := by rw [← HL.out]; exact hiL
      have hR := (hrd.grow hbwr).rd
      rw [← HL.out] at hR
      obtain ⟨g, off, u, rfl, hg, hc, hru, hsu, hou⟩ := hR.get i hiL'
      obtain ⟨m, hm⟩ : ∃ m, m = n.l[i] := ⟨_, rfl⟩
      have hmem : m ∈ n.l := by rw [hm]; exact List.getElem_mem hiL'
      rw [← hm] at hc hru hsu hou
      obtain ⟨Au, Cu, rfl, hu1, hu2⟩ := hru.slice
      have d0 := hc 0 (by decide)
      have d1 := hc 1 (by decide)
      have d2 := hc 2 (by decide)
      have d3 := hc 3 (by decide)
      have d4 := hc 4 (by decide)
      simp only [Nat.add_zero] at d0
      simp only [ndc] at d0 d1 d2 d3 d4
      have htx := fun W hW => hln m Au Cu W (RdN.grow (w := wr) ⟨hru, hsu, hou⟩ hW) ((ht.below hbwr).below hW) hmem
      unfold ndc at htx
      have hnx : (n.l.take (i + 1)).flatMap lineS = (n.l.take i).flatMap lineS ++ lineS m := by rw [List.take_succ_eq_append_getElem hiL', List.flatMap_append, hm]; simp
      have HNX : Hid ((n.l.take (i + 1)).flatMap lineS = (n.l.take i).flatMap lineS ++ lineS m) := hnx
      have hsz : ((n.l.take i).flatMap lineS ++ lineS m).length ≤ 100000000000 := by rw [← hnx]; exact Nat.le_trans (hzi _) hz
      generalize lineS m = X at htx HNX hsz
      generalize (n.l.take i).flatMap lineS = P at hbd HNX hsz
      rw [List.length_append] at hsz
      have hwc := fun W hW hB => write_c w1.heap.size w1.heap.size P X W (builder_grow hbd hW) (by omega) hB
      clear hnx hm hc hR hln hmem
      go_wp2_with (first
        | ((go_at_call 12)
           (refine (htx _ (b_one _ _)).mono ?_)
           (rintro e w4 ⟨rfl, hb4⟩)
           (have hb4' : Below wr.heap.size wr w4 := (b_one wr _).trans (hb4.mono (by simp)))
           (have hB4 : w1.heap.size ≤ w4.heap.size := Nat.le_trans hszr hb4'.size))
        | ((go_at_call 11)
           (refine (hwc _ hb4' hB4).mono ?_)
           (rintro e w5 ⟨k5, rfl, hi5, hb5⟩)))
      go_roundw
      case rel => exact ⟨i + 1, by omega, by go_num, (hbz.trans (hb4'.mono hszr)).trans hb5, by rw [HNX.out]; exact hi5⟩
      case measure => simp [intOf]; omega
    · have hiL2 : i = L := by omega
      subst hiL2
      have hta : (n.l.take i).flatMap lineS = printed n := by rw [HL.out, List.take_length]; rfl
      rw [hta] at hbd
      have hst := Tryz.Builder_String_any w1.heap.size w1.heap.size (printed n) wr hbd hszr
      have hst : Calls Tryz.prog 13 #[.pointer (some ⟨w1.heap.size, 0, none⟩)] wr fun e w' => e = .returned (.string (bs (printed n))) ∧ Below w1.heap.size wr w' := hst
      obtain ⟨X, hX⟩ : ∃ X, X = printed n := ⟨_, rfl⟩
      rw [← hX] at hst
      have HX : Hid (X = printed n) := hX
      clear hta hln hX hbd
      go_wp2_with (go_at_call 13; refine hst.mono ?_; rintro e w4 ⟨rfl, hb4⟩)
      go_ret2
      exact ⟨by rw [← HX.out]; rfl, hbw.trans ((hbz.trans hb4).mono hbw.size)⟩
end Go.Proofs.YtpckmllmjdafpaaGreatDoor

/- The live question. -/
namespace Go.Proofs.YtpckmllmjdafpaaGreatDoor
open Go.ChangeShapes Go.WideShapes Go.ChangeAt Go.RowKit
set_option linter.unusedVariables false

def liveT : List UInt8 := [118, 111, 108, 117, 109, 101, 32, 118, 61, 109, 105, 114, 114, 111, 114, 40, 97, 44, 98, 41, 59]
def liveE : Nd := .mk wMirror [] 0 9 [.mk wUse [97] 0 16 [], .mk wUse [98] 0 18 []]
def liveS : Nd := .mk wVolume [118] 0 0 [liveE]
def liveN : Nd := .mk wFile [] 0 0 [liveS]
def liveP : List UInt8 := [118, 111, 108, 117, 109, 101, 32, 118, 32, 61, 32, 109, 105, 114, 114, 111, 114, 40, 97, 44, 32, 98, 41, 59, 10]

set_option maxRecDepth 100000 in
theorem live_parse : Parse liveT = .ok liveN := by rfl
set_option maxRecDepth 100000 in
theorem live_right : Right liveN = true := by rfl
set_option maxRecDepth 100000 in
theorem live_print : printed liveN = liveP := by rfl

theorem live_sml : Sml liveN := by
  refine .mk _ _ _ _ _ (by decide) (by decide) fun x hx => ?_
  rw [List.mem_singleton.1 hx]
  refine .mk _ _ _ _ _ (by decide) (by decide) fun x hx => ?_
  rw [List.mem_singleton.1 hx]
  refine .mk _ _ _ _ _ (by decide) (by decide) fun x hx => ?_
  simp only [List.mem_cons, List.not_mem_nil, or_false] at hx
  rcases hx with rfl | rfl
  · exact .mk _ _ _ _ _ (by decide) (by decide) fun x hx => by cases hx
  · exact .mk _ _ _ _ _ (by decide) (by decide) fun x hx => by cases hx

theorem live_tx : TxOk 13 liveE := by
  refine .inr (.inr ⟨by decide, by decide, fun x hx => ?_⟩)
  simp only [liveE, Nd.l, List.mem_cons, List.not_mem_nil, or_false] at hx
  rcases hx with rfl | rfl <;> exact .inl (.inl rfl)

theorem live_few : Few 13 liveE := by
  refine ⟨by decide, fun x hx => ?_⟩
  simp only [liveE, Nd.l, List.mem_cons, List.not_mem_nil, or_false] at hx
  rcases hx with rfl | rfl <;> exact ⟨by decide, fun x hx => by cases hx⟩

theorem live_ln : ∀ x ∈ liveN.l, LnOk x := by
  intro x hx
  have e : x = liveS := List.mem_singleton.1 hx
  subst e
  exact ⟨by decide, fun h => absurd h (by decide), fun h => absurd h (by decide), fun _ => ⟨liveE, rfl, live_tx, by decide, live_few⟩⟩

/-- A tree that was parsed is read. -/
theorem NdR.node {w : World} {P : Nat → Prop} {n : Nd} {A : Option Addr} {C : Nat} (h : NdR w P n.l (.slice A n.l.length C)) (hs : Sml n) : RdN w n A C :=
  ⟨h.rd hs.l, by have := hs.s; unfold maxLen; omega, by have := hs.op; unfold maxLen; omega⟩

set_option maxRecDepth 100000 in
set_option maxHeartbeats 2000000 in
theorem alive_c (w : World) (ht : Tab w) : Calls Tryz.prog 5 #[] w fun e w' => e = .returned (.bool true) ∧ Below w.heap.size w w' := by
  have hpa : Calls Tryz.prog 10 #[.string ⟨#[118, 111, 108, 117, 109, 101, 32, 118, 61, 109, 105, 114, 114, 111, 114, 40, 97, 44, 98, 41, 59]⟩] w fun e w' => ∃ A C, e = .returned (.tuple #[.agg #[.string ⟨#[102, 105, 108, 101]⟩, .string ⟨#[]⟩, .int .i64 0, .int .i64 0, .slice A 1 C], .int .i64 0, .int .i64 (-1)]) ∧ RdN w' liveN A C ∧ Below w.heap.size w w' := by
    have := parse_c liveT w (by decide)
    rw [live_parse] at this
    refine this.mono ?_
    rintro e w' ⟨hb, A, C, rfl, hn⟩
    exact ⟨A, C, rfl, hn.node live_sml, hb⟩
  have hpr : ∀ W A C, RdN W liveN A C → Tab W → Calls Tryz.prog 6 #[.agg #[.string ⟨#[102, 105, 108, 101]⟩, .string ⟨#[]⟩, .int .i64 0, .int .i64 0, .slice A 1 C]] W fun e w' => e = .returned (.tuple #[.string ⟨#[118, 111, 108, 117, 109, 101, 32, 118, 32, 61, 32, 109, 105, 114, 114, 111, 114, 40, 97, 44, 32, 98, 41, 59, 10]⟩, .int .i64 0]) ∧ Below W.heap.size W w' := by
    intro W A C h hT
    have := print_ok liveN A C W h hT live_right live_ln (by rw [live_print]; decide)
    rw [live_print] at this
    exact this
  go_enter Tryz.func5, Tryz.ntmps5
  go_wp2_with (first
    | (go_at_call 10; refine hpa.mono ?_; rintro e w1 ⟨A, C, rfl, hr1, hb1⟩)
    | (go_at_call 6; refine (hpr _ A C (hr1.grow (b_one _ _)) ((ht.below hb1).below (b_one _ _))).mono ?_; rintro e w2 ⟨rfl, hb2⟩))
  go_ret
  exact ⟨rfl, (hb1.alloc hb1.size _).trans (hb2.mono (by have := hb1.size; simp; omega))⟩
end Go.Proofs.YtpckmllmjdafpaaGreatDoor

/- The table that Itoa asks, as the program's text lays it. -/
namespace Go.Proofs.YtpckmllmjdafpaaGreatDoor
open Go.ChangeShapes Go.WideShapes Go.ChangeAt Go.RowKit
set_option linter.unusedVariables false

theorem tab_of {W : World} {l : List (String × DataW Unit)} (hf : l.filter (fun x => x.1 == "internal/strconv.uint64pow10") = [("internal/strconv.uint64pow10", Lib.tabData .u64 Lib.pow10Tab)]) (h : laidMetH Tryz.prog l W) : Tab W := by
  have h1 := h.filter (fun x => x.1 == "internal/strconv.uint64pow10")
  rw [hf, MakeChecks.laidMetH_plain _ _ _ (by kernel_rfl)] at h1
  exact Lib.tabIs_of_head (g := 0) (t := 109) (e := 96) (n := 20) (by kernel_rfl) (by kernel_rfl) (by kernel_rfl) (by kernel_rfl) (by kernel_rfl) (by kernel_rfl) h1
end Go.Proofs.YtpckmllmjdafpaaGreatDoor
