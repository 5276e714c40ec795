/- Field and SetField, the program's and the reference's. -/
import Derived.Test.YtbiicdehgogikaaCdClone
namespace Go.Proofs.Ytbiicdehgogikaa
open Go.ChangeShapes Go.WideShapes Go.ChangeAt Go.RowKit
set_option linter.unusedVariables false

theorem inF_nat {i s : Nat} (h : inF 64 (i : Int) (s : Int)) : 1 ≤ s ∧ s ≤ 64 ∧ i ≤ 63 ∧ i * s + s ≤ 64 := by
  obtain ⟨_, h1, h2, h3, h4⟩ := h
  have h5 := mul_bd i s h1 h3 h4
  have h6 : ((i * s + s : Nat) : Int) ≤ 64 := by
    have e : ((i * s + s : Nat) : Int) = ((i : Int) + 1) * s := by rw [Int.add_mul, Int.one_mul]; simp
    rw [e]
    exact h4
  omega

/-- A sector's i-th field. -/
def fld (f : Nat → Nat) (i s : Nat) : Nat → Nat := fun j => f (i * s + j)

/-- A sector with another i-th field. -/
def sfld (f : Nat → Nat) (i s : Nat) (g : Nat → Nat) : Nat → Nat := over f (i * s) s g

set_option maxHeartbeats 1000000 in
theorem field_yes {w : World} {a : Option Addr} {C : Nat} {f : Nat → Nat} (i s : Nat) (hb : Bytes w a 64 f) (hC : 64 ≤ C) (h : inF 64 (i : Int) (s : Int)) :
    Calls Try.prog 16 #[.slice a 64 C, .int .i64 (i : Nat), .int .i64 (s : Nat)] w fun e w' => Below w.heap.size w w' ∧ ∃ v, e = .returned (.tuple #[v, .int .i64 0]) ∧ w'.ownsRow w.heap.size 5 1 v s (bl (fld f i s) s) := by
  obtain ⟨b, off, rfl⟩ : ∃ b off, a = some ⟨b, off, none⟩ := by
    rcases hb with h0 | ⟨b, off, e, _⟩
    · omega
    · exact ⟨b, off, e⟩
  have hyes := hasF_yes (i : Int) (s : Int) (some ⟨b, off, none⟩) C w h
  obtain ⟨h1, h2, h3, h4⟩ := inF_nat h
  obtain ⟨P, hP⟩ : ∃ P, P = i * s := ⟨_, rfl⟩
  have e1 : (i : Int) * (s : Int) = (P : Int) := by rw [hP]; simp
  have e2 : ((i : Int) + 1) * (s : Int) = ((P + s : Nat) : Int) := by rw [Int.add_mul, Int.one_mul, e1]; simp
  rw [← hP] at h4
  have hf : fld f i s = fun j => f (P + j) := by unfold fld; rw [hP]
  rw [hf]
  have hcut := hb.cut P s h4 hC
  clear hf hP h
  have hcl := clone_any hcut (C := C - P) (fun e => by cases e) (show s ≤ 140737488355328 by omega)
  go_enter Try.func16, Try.ntmps16
  go_wp2_with (first
    | ((go_at_call 31)
       (refine hyes.mono ?_)
       (rintro e w1 ⟨rfl, hw1⟩)
       (subst hw1))
    | ((refine at_dst 21 rfl ?_)
       (refine wpList_is (some 21) (.slice (some (if C = P then ⟨b, off, none⟩ else ⟨b, off + P, none⟩)) s (C - P)) rfl rfl (run_slice_len _ _ _ rfl b off 64 C P s rfl rfl rfl (by omega) _) ?_))
    | ((go_at_call 32)
       (refine hcl.mono ?_)
       (rintro e w2 ⟨hb2, v, rfl, ho⟩)))
  go_ret2
  exact ⟨hb2, v, rfl, ho⟩

set_option maxHeartbeats 1000000 in
theorem field_no (L : Nat) (i s : Int) (a : Option Addr) (C : Nat) (w : World) (hm : L ≤ maxLen) (hi : i64ok i) (hs : i64ok s) (h : ¬ inF L i s) :
    Calls Try.prog 16 #[.slice a L C, .int .i64 i, .int .i64 s] w fun e w' => e = .returned (.tuple #[.slice none 0 0, .int .i64 81]) ∧ w' = w := by
  have hno := hasF_no L i s a C w hm hi hs h
  clear h hm hi hs
  go_enter Try.func16, Try.ntmps16
  go_wp2_with (first
    | ((go_at_call 31)
       (refine hno.mono ?_)
       (rintro e w1 ⟨rfl, rfl⟩)
       (clear hno)))
  go_ret2
  exact ⟨rfl, rfl⟩

set_option maxHeartbeats 1000000 in
theorem rfield_yes {w : World} {a : Option Addr} {C : Nat} {f : Nat → Nat} (i s : Nat) (hb : Bytes w a 64 f) (hC : 64 ≤ C) (h : inF 64 (i : Int) (s : Int)) :
    Calls Try.prog 17 #[.slice a 64 C, .int .i64 (i : Nat), .int .i64 (s : Nat)] w fun e w' => Below w.heap.size w w' ∧ ∃ v, e = .returned (.tuple #[v, .int .i64 0]) ∧ w'.ownsRow w.heap.size 5 1 v s (bl (fld f i s) s) := by
  obtain ⟨b, off, rfl⟩ : ∃ b off, a = some ⟨b, off, none⟩ := by
    rcases hb with h0 | ⟨b, off, e, _⟩
    · omega
    · exact ⟨b, off, e⟩
  have hyes := within_yes (i : Int) (s : Int) (some ⟨b, off, none⟩) C w h
  obtain ⟨h1, h2, h3, h4⟩ := inF_nat h
  obtain ⟨P, hP⟩ : ∃ P, P = i * s := ⟨_, rfl⟩
  have e1 : (i : Int) * (s : Int) = (P : Int) := by rw [hP]; simp
  have e2 : ((i : Int) + 1) * (s : Int) = ((P + s : Nat) : Int) := by rw [Int.add_mul, Int.one_mul, e1]; simp
  rw [← hP] at h4
  have hf : fld f i s = fun j => f (P + j) := by unfold fld; rw [hP]
  rw [hf]
  have hcut := hb.cut P s h4 hC
  clear hf hP h
  have hcut2 : Bytes (w.alloc (.cells #[] 5)) _ s _ := hcut.below ((Below.refl _ _).alloc (Nat.le_refl _) _) (Nat.le_refl _)
  go_enter Try.func17, Try.ntmps17
  go_wp2_with (first
    | ((go_at_call 33)
       (refine hyes.mono ?_)
       (rintro e w1 ⟨rfl, hw1⟩)
       (subst hw1))
    | ((refine at_dst 24 rfl ?_)
       (refine wpList_is (some 24) (.slice (some (if C = P then ⟨b, off, none⟩ else ⟨b, off + P, none⟩)) s (C - P)) rfl rfl (run_slice_len _ _ _ rfl b off 64 C P s rfl rfl rfl (by omega) _) ?_))
    | ((refine at_dst 25 rfl ?_)
       (refine wpList_append_bytes rfl _ _ rfl w1.heap.size _ 0 (fun j => f (P + j)) rfl (own_empty w1 _) _ s (C - P) (fun j => f (P + j)) rfl (fun e => by cases e) hcut2 (by omega) (by simp) ?_)
       (intro v' w' ho hg)))
  go_ret2
  rw [Nat.zero_add, cat_zero] at ho
  exact ⟨below_g ((Below.refl _ _).alloc (Nat.le_refl _) _) hg (fun g e => by cases e; exact Nat.le_refl _), _, rfl, ho⟩

set_option maxHeartbeats 1000000 in
theorem rfield_no (L : Nat) (i s : Int) (a : Option Addr) (C : Nat) (w : World) (hm : L ≤ maxLen) (hi : i64ok i) (hs : i64ok s) (h : ¬ inF L i s) :
    Calls Try.prog 17 #[.slice a L C, .int .i64 i, .int .i64 s] w fun e w' => e = .returned (.tuple #[.slice none 0 0, .int .i64 81]) ∧ w' = w := by
  have hno := within_no L i s a C w hm hi hs h
  clear h hm hi hs
  go_enter Try.func17, Try.ntmps17
  go_wp2_with (first
    | ((go_at_call 33)
       (refine hno.mono ?_)
       (rintro e w1 ⟨rfl, rfl⟩)
       (clear hno)))
  go_ret2
  exact ⟨rfl, rfl⟩

end Go.Proofs.Ytbiicdehgogikaa
