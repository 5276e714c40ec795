/- What is right of an expr, part by part. -/
import Derived.Test.YtpckmllmjdafpaaGreatDoorPrNode
namespace Go.Proofs.YtpckmllmjdafpaaGreatDoor
set_option linter.unusedVariables false

theorem re_eq (d : Nat) (n : Nd) : rightE (d + 1) n = (decide (n.n = 0) && (if n.op = wUse then hasNm n.s && decide (n.l.length = 0) else n.s == [] && partsOk (rightE d) n)) := rfl

theorem re_use {d : Nat} {n : Nd} (h : useOk n = true) : rightE (d + 1) n = true := by
  unfold useOk at h
  simp only [Bool.and_eq_true, beq_iff_eq, decide_eq_true_eq] at h
  rw [re_eq, if_pos h.1.1.1, h.1.1.2, decide_eq_true h.1.2, decide_eq_true h.2]
  rfl

theorem re_of_use {d : Nat} {n : Nd} (h : useOk n = false) (ho : n.op = wUse) : rightE (d + 1) n = false := by
  rw [re_eq, if_pos ho]
  unfold useOk at h
  rw [ho] at h
  cases a : decide (n.n = 0) <;> cases b : hasNm n.s <;> cases c : decide (n.l.length = 0) <;> simp_all

theorem re_s {d : Nat} {n : Nd} (h : useOk n = false) (hs : n.s ≠ []) : rightE (d + 1) n = false := by
  by_cases ho : n.op = wUse
  · exact re_of_use h ho
  · rw [re_eq, if_neg ho, show (n.s == []) = false by simpa using hs]
    simp

theorem re_n {d : Nat} {n : Nd} (hn : n.n ≠ 0) : rightE (d + 1) n = false := by
  rw [re_eq, decide_eq_false hn]
  rfl

theorem re_parts {d : Nat} {n : Nd} (h : useOk n = false) (hp : partsOk (rightE d) n = false) : rightE (d + 1) n = false := by
  by_cases ho : n.op = wUse
  · exact re_of_use h ho
  · rw [re_eq, if_neg ho, hp]
    simp

theorem re_is {d : Nat} {n : Nd} (ho : n.op ≠ wUse) (hs : n.s = []) (hn : n.n = 0) : rightE (d + 1) n = partsOk (rightE d) n := by
  rw [re_eq, if_neg ho, hs, hn]
  rfl

theorem pk_none {re : Nd → Bool} {n : Nd} (h : (inside n.op).1 = []) : partsOk re n = false := by
  unfold partsOk fits
  rw [h]
  rfl

theorem pk_short {re : Nd → Bool} {n : Nd} (h : n.l.length = 0) : partsOk re n = false := by
  unfold partsOk fits
  rw [h]
  by_cases hk : (inside n.op).1.length = 0
  · simp [hk]
  · rw [decide_eq_true (show 0 < (inside n.op).1.length by omega)]
    simp

theorem pk3 {re : Nd → Bool} {n : Nd} {a b c : Kd} (hi : inside n.op = ([a, b, c], false)) : partsOk re n = (decide (n.l.length = 3) && (partOk re a (nth n.l 0) && partOk re b (nth n.l 1) && partOk re c (nth n.l 2))) := by
  unfold partsOk
  rw [hi]
  by_cases h3 : n.l.length = 3
  · rw [h3]
    show (true && (partOk re a (nth n.l 0) && (partOk re b (nth n.l 1) && (partOk re c (nth n.l 2) && true)))) = _
    simp [Bool.and_assoc]
  · have : fits [a, b, c] false n.l.length = false := by
      unfold fits
      simp
      omega
    rw [this, decide_eq_false h3]
    rfl

theorem pk2 {re : Nd → Bool} {n : Nd} {a b : Kd} (hi : inside n.op = ([a, b], false)) : partsOk re n = (decide (n.l.length = 2) && (partOk re a (nth n.l 0) && partOk re b (nth n.l 1))) := by
  unfold partsOk
  rw [hi]
  by_cases h3 : n.l.length = 2
  · rw [h3]
    show (true && (partOk re a (nth n.l 0) && (partOk re b (nth n.l 1) && true))) = _
    simp
  · have : fits [a, b] false n.l.length = false := by
      unfold fits
      simp
      omega
    rw [this, decide_eq_false h3]
    rfl

theorem pkm {re : Nd → Bool} {n : Nd} (hi : inside n.op = ([.ex], true)) (hl : 1 ≤ n.l.length) : partsOk re n = (List.range n.l.length).all fun i => re (nth n.l i) := by
  unfold partsOk
  rw [hi]
  have : fits [Kd.ex] true n.l.length = true := by
    unfold fits
    rw [decide_eq_false (show ¬ n.l.length < [Kd.ex].length by simp only [List.length_cons, List.length_nil]; omega)]
    simp
  rw [this, Bool.true_and]
  congr 1
  funext i
  have : kdAt [Kd.ex] i = .ex := by unfold kdAt; simp
  show partOk re (kdAt [Kd.ex] i) (nth n.l i) = _
  rw [this]
  rfl

theorem nu_any (re re' : Nd → Bool) (n : Nd) : partOk re .nu n = partOk re' .nu n := rfl
theorem na_any (re re' : Nd → Bool) (n : Nd) : partOk re .na n = partOk re' .na n := rfl

theorem no_op {op : List UInt8} (h : op ≠ wLinear ∧ op ≠ wSnapshot ∧ op ≠ wCrypt ∧ op ≠ wIntegrity ∧ op ≠ wVerity ∧ op ≠ wConcat ∧ op ≠ wMirror) : (inside op).1 = [] := by
  obtain ⟨h1, h2, h3, h4, h5, h6, h7⟩ := h
  unfold inside
  rw [if_neg h1, if_neg (by rintro (h | h); exact h6 h; exact h7 h), if_neg h2, if_neg (by rintro (h | h | h); exact h3 h; exact h4 h; exact h5 h)]
end Go.Proofs.YtpckmllmjdafpaaGreatDoor
