/- SetField, the program's and the reference's. -/
import Derived.Test.YtbiicdehgogikaaCdFld
import Derived.Test.YtbiicdehgogikaaCdCopy
namespace Go.Proofs.Ytbiicdehgogikaa
open Go.ChangeShapes Go.WideShapes Go.ChangeAt Go.RowKit
set_option linter.unusedVariables false

theorem run_slice_tail {o : Oper} {a : Act} (x l : Operand) (ho : o.op = .slice 23 x (some l) none none) (b L cap q : Nat) (hx : a.eval x = .slice (some ⟨b, 0, none⟩) L cap) (hl : a.eval l = .int .i64 (q : Nat)) (h1 : q ≤ L) (h2 : q < cap) (w : World) :
    (execOp a.eval o).run Try.prog w = .ok (.value (.slice (some ⟨b, q, none⟩) (L - q) (cap - q))) w := by
  have := run_slice_from x l ho b 0 L cap q hx hl h1 w
  rwa [if_neg (by omega), Nat.zero_add] at this

theorem three_cat (f g : Nat → Nat) (P s : Nat) (h : P + s ≤ 64) : bl (cat (cat f P g) (P + s) (fun j => f (P + s + j))) 64 = bl (over f P s g) 64 := by
  apply bl_congr
  intro j hj
  unfold cat over
  by_cases h1 : j < P
  · rw [if_pos (by omega), if_pos h1, if_neg (by omega)]
  · by_cases h2 : j < P + s
    · rw [if_pos h2, if_neg h1, if_pos (by omega)]
    · rw [if_neg h2, if_neg (by omega)]
      show f (P + s + (j - (P + s))) = f j
      rw [show P + s + (j - (P + s)) = j by omega]

set_option maxRecDepth 100000 in
set_option maxHeartbeats 1000000 in
theorem setf_yes {w : World} {a A : Option Addr} {C AC : Nat} {f g : Nat → Nat} (i s : Nat) (hb : Bytes w a 64 f) (hC : 64 ≤ C) (hA : Bytes w A s g) (hAn : A = none → s = 0 ∧ AC = 0) (h : inF 64 (i : Int) (s : Int)) :
    Calls Try.prog 18 #[.slice a 64 C, .int .i64 (i : Nat), .slice A s AC] w fun e w' => Below w.heap.size w w' ∧ ∃ v, e = .returned (.tuple #[v, .int .i64 0]) ∧ w'.ownsRow w.heap.size 5 1 v 64 (bl (sfld f i s g) 64) := by
  obtain ⟨b, off, rfl⟩ : ∃ b off, a = some ⟨b, off, none⟩ := by
    rcases hb with h0 | ⟨b, off, e, _⟩
    · omega
    · exact ⟨b, off, e⟩
  have hyes := hasF_yes (i : Int) (s : Int) (some ⟨b, off, none⟩) C w h
  obtain ⟨h1, h2, h3, h4⟩ := inF_nat h
  obtain ⟨P, hP⟩ : ∃ P, P = i * s := ⟨_, rfl⟩
  have e1 : (i : Int) * (s : Int) = (P : Int) := by rw [hP]; simp
  have e2 : ((i : Int) + 1) * (s : Int) = ((P + s : Nat) : Int) := by rw [Int.add_mul, Int.one_mul, e1]; simp
  rw [← hP] at h4
  have hf : sfld f i s g = over f P s g := by unfold sfld; rw [hP]
  rw [hf]
  clear hf hP h
  have hcl := clone_any hb (C := C) (fun e => by cases e) (by decide)
  go_enter Try.func18, Try.ntmps18
  go_wp2_with (first
    | ((go_at_call 31)
       (refine hyes.mono ?_)
       (rintro e w1 ⟨rfl, hw1⟩)
       (subst hw1)
       (clear hyes))
    | ((go_at_call 32)
       (refine hcl.mono ?_)
       (rintro e w2 ⟨hb2, v, rfl, ho⟩)
       (clear hcl)
       (obtain ⟨ga, cap, rfl, hcap, _⟩ := own_bytes ho)
       (obtain ⟨gg, cap', e5, hgb, _⟩ := ho.form (by decide))
       (simp only [Value.slice.injEq] at e5)
       (obtain ⟨rfl, _, rfl⟩ := e5)
       (have hA2 := hA.below hb2 (Nat.le_refl _)))
    | ((refine at_dst 22 rfl ?_)
       (refine wpList_is (some 22) (.slice (some ⟨gg, P, none⟩) (64 - P) (cap - P)) rfl rfl (run_slice_tail _ _ rfl gg 64 cap P rfl rfl (by omega) (by omega) _) ?_))
    | ((refine at_dst 24 rfl ?_)
       (refine wpList_copy_row rfl _ _ rfl w1.heap.size gg 64 cap P s f g ho rfl A AC rfl hA2 h1 h4 ?_)
       (intro w3 ho3 hg3)))
  go_ret2
  exact ⟨below_g hb2 hg3 (fun k e => by cases e; exact hgb), _, rfl, ho3⟩

set_option maxHeartbeats 1000000 in
theorem setf_no (L s : Nat) (i : Int) (a A : Option Addr) (C AC : Nat) (w : World) (hm : L ≤ maxLen) (hi : i64ok i) (hs : s ≤ maxLen) (h : ¬ inF L i (s : Int)) :
    Calls Try.prog 18 #[.slice a L C, .int .i64 i, .slice A s AC] w fun e w' => e = .returned (.tuple #[.slice none 0 0, .int .i64 81]) ∧ w' = w := by
  have hno := hasF_no L i (s : Int) a C w hm hi (by unfold maxLen at hs; unfold i64ok; omega) h
  clear h hm hi hs
  go_enter Try.func18, Try.ntmps18
  go_wp2_with (first
    | ((go_at_call 31)
       (refine hno.mono ?_)
       (rintro e w1 ⟨rfl, rfl⟩)
       (clear hno)))
  go_ret2
  exact ⟨rfl, rfl⟩

set_option maxRecDepth 100000 in
set_option maxHeartbeats 1000000 in
theorem rsetf_yes {w : World} {a A : Option Addr} {C AC : Nat} {f g : Nat → Nat} (i s : Nat) (hb : Bytes w a 64 f) (hC : 64 ≤ C) (hA : Bytes w A s g) (hAn : A = none → s = 0 ∧ AC = 0) (h : inF 64 (i : Int) (s : Int)) :
    Calls Try.prog 19 #[.slice a 64 C, .int .i64 (i : Nat), .slice A s AC] w fun e w' => Below w.heap.size w w' ∧ ∃ v, e = .returned (.tuple #[v, .int .i64 0]) ∧ w'.ownsRow w.heap.size 5 1 v 64 (bl (sfld f i s g) 64) := by
  obtain ⟨b, off, rfl⟩ : ∃ b off, a = some ⟨b, off, none⟩ := by
    rcases hb with h0 | ⟨b, off, e, _⟩
    · omega
    · exact ⟨b, off, e⟩
  have hyes := within_yes (i : Int) (s : Int) (some ⟨b, off, none⟩) C w h
  obtain ⟨h1, h2, h3, h4⟩ := inF_nat h
  obtain ⟨P, hP⟩ : ∃ P, P = i * s := ⟨_, rfl⟩
  have e1 : (i : Int) * (s : Int) = (P : Int) := by rw [hP]; simp
  have e2 : ((i : Int) + 1) * (s : Int) = ((P + s : Nat) : Int) := by rw [Int.add_mul, Int.one_mul, e1]; simp
  rw [← hP] at h4
  have hf : sfld f i s g = over f P s g := by unfold sfld; rw [hP]
  rw [hf]
  clear hf hP h
  have hp1 : Bytes (w.alloc (.cells #[] 5)) (some ⟨b, off, none⟩) P f := by
    have h5 := (hb.part 0 P (by omega)).below ((Below.refl _ _).alloc (Nat.le_refl _) (.cells #[] 5)) (Nat.le_refl _)
    simpa using h5
  go_enter Try.func19, Try.ntmps19
  go_wp2_with (first
    | ((go_at_call 33)
       (refine hyes.mono ?_)
       (rintro e w1 ⟨rfl, hw1⟩)
       (subst hw1)
       (clear hyes))
    | ((refine at_dst 23 rfl ?_)
       (refine wpList_is (some 23) (.slice (some ⟨b, off, none⟩) P C) rfl rfl (run_slice_to _ _ rfl b off 64 C P rfl rfl (by omega) _) ?_))
    | ((refine at_dst 24 rfl ?_)
       (refine wpList_append_bytes rfl _ _ rfl w1.heap.size _ 0 f rfl (own_empty w1 _) _ P C f rfl (fun e => by cases e) hp1 (by omega) (by simp) ?_)
       (intro v2 w2 ho2 hg2)
       (rw [Nat.zero_add, cat_zero] at ho2)
       (have hb2 := below_g ((Below.refl w1.heap.size w1).alloc (Nat.le_refl _) _) hg2 (fun k e => by cases e; exact Nat.le_refl _))
       (have hA2 := hA.below hb2 (Nat.le_refl _)))
    | ((refine at_dst 27 rfl ?_)
       (refine wpList_append_bytes rfl _ _ rfl w1.heap.size _ P f rfl ho2 A s AC g rfl hAn hA2 (by omega) hb2.size ?_)
       (intro v3 w3 ho3 hg3)
       (have hb3 := below_g hb2 hg3 (fun k e => (ho2.lt k e).1))
       (have ht3 := (hb.cut (P + s) (64 - (P + s)) (by omega) hC).below hb3 (Nat.le_refl _)))
    | ((refine at_dst 35 rfl ?_)
       (refine wpList_is (some 35) (.slice (some (if C = P + s then ⟨b, off, none⟩ else ⟨b, off + (P + s), none⟩)) (64 - (P + s)) (C - (P + s))) rfl rfl (run_slice_from _ _ rfl b off 64 C (P + s) rfl rfl (by omega) _) ?_))
    | ((refine at_dst 36 rfl ?_)
       (refine wpList_append_bytes rfl _ _ rfl w1.heap.size _ (P + s) _ rfl ho3 _ (64 - (P + s)) (C - (P + s)) _ rfl (fun e => by cases e) ht3 (by omega) hb3.size ?_)
       (intro v4 w4 ho4 hg4)
       (have hb4 := below_g hb3 hg4 (fun k e => (ho3.lt k e).1))))
  all_goals
    go_ret2
    rw [show P + s + (64 - (P + s)) = 64 by omega, three_cat f g P s h4] at ho4
    exact ⟨hb4, _, rfl, ho4⟩

set_option maxHeartbeats 1000000 in
theorem rsetf_no (L s : Nat) (i : Int) (a A : Option Addr) (C AC : Nat) (w : World) (hm : L ≤ maxLen) (hi : i64ok i) (hs : s ≤ maxLen) (h : ¬ inF L i (s : Int)) :
    Calls Try.prog 19 #[.slice a L C, .int .i64 i, .slice A s AC] w fun e w' => e = .returned (.tuple #[.slice none 0 0, .int .i64 81]) ∧ w' = w := by
  have hno := within_no L i (s : Int) a C w hm hi (by unfold maxLen at hs; unfold i64ok; omega) h
  clear h hm hi hs
  go_enter Try.func19, Try.ntmps19
  go_wp2_with (first
    | ((go_at_call 33)
       (refine hno.mono ?_)
       (rintro e w1 ⟨rfl, rfl⟩)
       (clear hno)))
  go_ret2
  exact ⟨rfl, rfl⟩

end Go.Proofs.Ytbiicdehgogikaa
