/- The program and the reference answer alike: fields and numbers. -/
import Derived.Test.YtbiicdehgogikaaCdAlive
namespace Go.Proofs.Ytbiicdehgogikaa
open Go.ChangeShapes Go.WideShapes Go.ChangeAt Go.RowKit
set_option linter.unusedVariables false

/-- Bytes and an error, told. -/
def Tells (F : Nat) (args : Array Value) (w : World) (l : Nat) (h : Nat → Nat) (E : Int) : Prop :=
  Calls Try.prog F args w fun e w' => ∃ A c, e = .returned (.tuple #[.slice A l c, .int .i64 E]) ∧ Bytes w' A l h ∧ (A = none → l = 0 ∧ c = 0) ∧ l ≤ c ∧ Below w.heap.size w w'

/-- A number and an error, told. -/
def TellsN (F : Nat) (args : Array Value) (w : World) (X E : Int) : Prop :=
  Calls Try.prog F args w fun e w' => e = .returned (.tuple #[.int .i64 X, .int .i64 E]) ∧ Below w.heap.size w w'

theorem tells_own {F : Nat} {args : Array Value} {w : World} {l : Nat} {h : Nat → Nat} {E : Int} (hc : Calls Try.prog F args w fun e w' => Below w.heap.size w w' ∧ ∃ v, e = .returned (.tuple #[v, .int .i64 E]) ∧ w'.ownsRow w.heap.size 5 1 v l (bl h l)) : Tells F args w l h E := by
  refine hc.mono ?_
  rintro e w' ⟨hb, v, rfl, ho⟩
  obtain ⟨A, c, rfl, hl, hn, hy, _⟩ := own_bytes ho
  exact ⟨A, c, rfl, hy, hn, hl, hb⟩

theorem tells_none {F : Nat} {args : Array Value} {w : World} {h : Nat → Nat} {E : Int} (hc : Calls Try.prog F args w fun e w' => Below w.heap.size w w' ∧ e = .returned (.tuple #[.slice none 0 0, .int .i64 E])) : Tells F args w 0 h E := by
  refine hc.mono ?_
  rintro e w' ⟨hb, rfl⟩
  exact ⟨none, 0, rfl, .inl rfl, fun _ => ⟨rfl, rfl⟩, Nat.le_refl _, hb⟩

theorem tells_no {F : Nat} {args : Array Value} {w : World} {h : Nat → Nat} {E : Int} (hc : Calls Try.prog F args w fun e w' => e = .returned (.tuple #[.slice none 0 0, .int .i64 E]) ∧ w' = w) : Tells F args w 0 h E := by
  refine tells_none (hc.mono ?_)
  rintro e w' ⟨rfl, rfl⟩
  exact ⟨Below.refl _ _, rfl⟩

theorem tellsN_swap {F : Nat} {args : Array Value} {w : World} {X E : Int} (hc : Calls Try.prog F args w fun e w' => Below w.heap.size w w' ∧ e = .returned (.tuple #[.int .i64 X, .int .i64 E])) : TellsN F args w X E := by
  refine hc.mono ?_
  rintro e w' ⟨hb, rfl⟩
  exact ⟨rfl, hb⟩

theorem inF_toNat {L : Nat} {i s : Int} (h : inF L i s) : ∃ i' s' : Nat, i = (i' : Int) ∧ s = (s' : Int) ∧ L = 64 := by
  obtain ⟨h0, h1, h2, h3, h4⟩ := h
  exact ⟨i.toNat, s.toNat, by omega, by omega, h0⟩

theorem over_lt {f g : Nat → Nat} (hf : ∀ j, f j < 256) (hg : ∀ j, g j < 256) (o n j : Nat) : over f o n g j < 256 := by
  unfold over
  split
  · exact hg _
  · exact hf _

theorem field_both (L : Nat) (f : Nat → Nat) (i s : Int) (hf : ∀ j, f j < 256) (hm : L ≤ maxLen) (hi : i64ok i) (hs : i64ok s) : ∃ (l : Nat) (h : Nat → Nat) (E : Int), (∀ j, h j < 256) ∧
    (∀ (w : World) (a : Option Addr) (C : Nat), Bytes w a L f → L ≤ C → Tells 16 #[.slice a L C, .int .i64 i, .int .i64 s] w l h E) ∧
    (∀ (w : World) (a : Option Addr) (C : Nat), Bytes w a L f → L ≤ C → Tells 17 #[.slice a L C, .int .i64 i, .int .i64 s] w l h E) := by
  by_cases hin : inF L i s
  · obtain ⟨i', s', rfl, rfl, rfl⟩ := inF_toNat hin
    exact ⟨s', fld f i' s', 0, fun j => hf _, fun w a C hb hC => tells_own (field_yes i' s' hb hC hin), fun w a C hb hC => tells_own (rfield_yes i' s' hb hC hin)⟩
  · exact ⟨0, fun _ => 0, 81, fun _ => Nat.succ_pos 255, fun w a C hb hC => tells_no (field_no L i s a C w hm hi hs hin), fun w a C hb hC => tells_no (rfield_no L i s a C w hm hi hs hin)⟩

theorem setf_both (L s : Nat) (f g : Nat → Nat) (i : Int) (hf : ∀ j, f j < 256) (hg : ∀ j, g j < 256) (hm : L ≤ maxLen) (hi : i64ok i) (hs : s ≤ maxLen) : ∃ (l : Nat) (h : Nat → Nat) (E : Int), (∀ j, h j < 256) ∧
    (∀ (w : World) (a A : Option Addr) (C AC : Nat), Bytes w a L f → L ≤ C → Bytes w A s g → (A = none → s = 0 ∧ AC = 0) → Tells 18 #[.slice a L C, .int .i64 i, .slice A s AC] w l h E) ∧
    (∀ (w : World) (a A : Option Addr) (C AC : Nat), Bytes w a L f → L ≤ C → Bytes w A s g → (A = none → s = 0 ∧ AC = 0) → Tells 19 #[.slice a L C, .int .i64 i, .slice A s AC] w l h E) := by
  by_cases hin : inF L i (s : Int)
  · obtain ⟨i', s', rfl, hs', rfl⟩ := inF_toNat hin
    exact ⟨64, sfld f i' s g, 0, over_lt hf hg _ _, fun w a A C AC hb hC hA hAn => tells_own (setf_yes i' s hb hC hA hAn hin), fun w a A C AC hb hC hA hAn => tells_own (rsetf_yes i' s hb hC hA hAn hin)⟩
  · exact ⟨0, fun _ => 0, 81, fun _ => Nat.succ_pos 255, fun w a A C AC hb hC _ _ => tells_no (setf_no L s i a A C AC w hm hi hs hin), fun w a A C AC hb hC _ _ => tells_no (rsetf_no L s i a A C AC w hm hi hs hin)⟩

theorem num_both (L : Nat) (f : Nat → Nat) (i : Int) (hf : ∀ j, f j < 256) (hm : L ≤ maxLen) (hi : i64ok i) : ∃ (X E : Int),
    (∀ (w : World) (a : Option Addr) (C : Nat), Bytes w a L f → L ≤ C → TellsN 20 #[.slice a L C, .int .i64 i] w X E) ∧
    (∀ (w : World) (a : Option Addr) (C : Nat), Bytes w a L f → L ≤ C → TellsN 21 #[.slice a L C, .int .i64 i] w X E) := by
  by_cases hin : inF L i ((4 : Nat) : Int)
  · obtain ⟨i', s', rfl, _, rfl⟩ := inF_toNat hin
    by_cases hv : vn (fld f i' 4) 4 < 2147483648
    · exact ⟨_, 0, fun w a C hb hC => tellsN_swap (num_yes i' hb hC hf hin hv), fun w a C hb hC => tellsN_swap (rnum_yes i' hb hC hf hin hv)⟩
    · exact ⟨0, 81, fun w a C hb hC => tellsN_swap (num_big i' hb hC hf hin (Nat.le_of_not_lt hv)), fun w a C hb hC => tellsN_swap (rnum_big i' hb hC hf hin (Nat.le_of_not_lt hv))⟩
  · exact ⟨0, 81, fun w a C hb hC => tellsN_swap (num_no L i a C w hm hi hin), fun w a C hb hC => tellsN_swap (rnum_no L i a C w hm hi hin)⟩

theorem setn_both (L : Nat) (f : Nat → Nat) (i m : Int) (hf : ∀ j, f j < 256) (hm : L ≤ maxLen) (hi : i64ok i) : ∃ (l : Nat) (h : Nat → Nat) (E : Int), (∀ j, h j < 256) ∧
    (∀ (w : World) (a : Option Addr) (C : Nat), Bytes w a L f → L ≤ C → Tells 22 #[.slice a L C, .int .i64 i, .int .i64 m] w l h E) ∧
    (∀ (w : World) (a : Option Addr) (C : Nat), Bytes w a L f → L ≤ C → Tells 23 #[.slice a L C, .int .i64 i, .int .i64 m] w l h E) := by
  by_cases hr : m < 0 ∨ 2147483648 ≤ m
  · exact ⟨0, fun _ => 0, 81, fun _ => Nat.succ_pos 255, fun w a C hb hC => tells_none (setn_bad L i m a C w hr), fun w a C hb hC => tells_none (rsetn_bad L i m a C w hr)⟩
  · obtain ⟨m', rfl⟩ : ∃ m' : Nat, m = (m' : Int) := ⟨m.toNat, by omega⟩
    have hv : m' < 2147483648 := by omega
    by_cases hin : inF L i ((4 : Nat) : Int)
    · obtain ⟨i', s', rfl, _, rfl⟩ := inF_toNat hin
      exact ⟨64, sfld f i' 4 (nbs m' 4), 0, over_lt hf (nbs_lt _ _) _ _, fun w a C hb hC => tells_own (setn_yes i' m' hb hC hin hv), fun w a C hb hC => tells_own (rsetn_yes i' m' hb hC hin hv)⟩
    · exact ⟨0, fun _ => 0, 81, fun _ => Nat.succ_pos 255, fun w a C hb hC => tells_none (setn_no L i a C m' hm hi hin hv), fun w a C hb hC => tells_none (rsetn_no L i a C m' hm hi hin hv)⟩
end Go.Proofs.Ytbiicdehgogikaa
