/- Number and SetNumber, the program's and the reference's. -/
import Derived.Test.YtbiicdehgogikaaCdSet
namespace Go.Proofs.Ytbiicdehgogikaa
open Go.ChangeShapes Go.WideShapes Go.ChangeAt Go.RowKit
set_option linter.unusedVariables false

theorem fld_lt {f : Nat → Nat} (hf : ∀ j, f j < 256) (i s j : Nat) : fld f i s j < 256 := hf _

set_option maxRecDepth 100000 in
set_option maxHeartbeats 1000000 in
theorem num_yes {w : World} {a : Option Addr} {C : Nat} {f : Nat → Nat} (i : Nat) (hb : Bytes w a 64 f) (hC : 64 ≤ C) (hf : ∀ j, f j < 256) (h : inF 64 (i : Int) ((4 : Nat) : Int)) (hv : vn (fld f i 4) 4 < 2147483648) :
    Calls Try.prog 20 #[.slice a 64 C, .int .i64 (i : Nat)] w fun e w' => Below w.heap.size w w' ∧ e = .returned (.tuple #[.int .i64 (vn (fld f i 4) 4 : Nat), .int .i64 0]) := by
  have hfl := field_yes i 4 hb hC h
  have hg : ∀ w' v, w'.ownsRow w.heap.size 5 1 v 4 (bl (fld f i 4) 4) → ∃ A cap, v = .slice A 4 cap ∧ Calls Try.prog 34 #[.slice A 4 cap] w' fun e w2 => e = .returned (.tuple #[.int .u64 (vn (fld f i 4) 4 : Nat), .int .i64 0]) ∧ w2 = w' := by
    intro w' v ho
    obtain ⟨A, cap, rfl, _, _, hy, _⟩ := own_bytes ho
    exact ⟨A, cap, rfl, get_s 4 cap (by decide) (by decide) hy (fld_lt hf i 4)⟩
  clear hb h
  obtain ⟨V, hV⟩ : ∃ V, V = vn (fld f i 4) 4 := ⟨_, rfl⟩
  rw [← hV] at hg hv ⊢
  have k1 : (0 : Int) ≤ (V : Int) := by omega
  have k2 : (V : Int) < 2147483648 := by omega
  clear hV hv
  generalize ((V : Nat) : Int) = x at hg k1 k2 ⊢
  go_enter Try.func20, Try.ntmps20
  go_wp2_with (first
    | ((go_at_call 16)
       (refine hfl.mono ?_)
       (rintro e w1 ⟨hb1, v, rfl, ho⟩)
       (clear hfl)
       (obtain ⟨A, cap, rfl, hget⟩ := hg _ _ ho)
       (clear hg))
    | ((go_at_call 34)
       (refine hget.mono ?_)
       (rintro e w2 ⟨rfl, hw2⟩)
       (subst hw2)
       (clear hget)))
  go_ret2
  exact ⟨hb1, rfl⟩

set_option maxRecDepth 100000 in
set_option maxHeartbeats 1000000 in
theorem num_big {w : World} {a : Option Addr} {C : Nat} {f : Nat → Nat} (i : Nat) (hb : Bytes w a 64 f) (hC : 64 ≤ C) (hf : ∀ j, f j < 256) (h : inF 64 (i : Int) ((4 : Nat) : Int)) (hv : 2147483648 ≤ vn (fld f i 4) 4) :
    Calls Try.prog 20 #[.slice a 64 C, .int .i64 (i : Nat)] w fun e w' => Below w.heap.size w w' ∧ e = .returned (.tuple #[.int .i64 0, .int .i64 81]) := by
  have hfl := field_yes i 4 hb hC h
  have hg : ∀ w' v, w'.ownsRow w.heap.size 5 1 v 4 (bl (fld f i 4) 4) → ∃ A cap, v = .slice A 4 cap ∧ Calls Try.prog 34 #[.slice A 4 cap] w' fun e w2 => e = .returned (.tuple #[.int .u64 (vn (fld f i 4) 4 : Nat), .int .i64 0]) ∧ w2 = w' := by
    intro w' v ho
    obtain ⟨A, cap, rfl, _, _, hy, _⟩ := own_bytes ho
    exact ⟨A, cap, rfl, get_s 4 cap (by decide) (by decide) hy (fld_lt hf i 4)⟩
  clear hb h
  obtain ⟨V, hV⟩ : ∃ V, V = vn (fld f i 4) 4 := ⟨_, rfl⟩
  rw [← hV] at hg hv
  have k2 : (2147483648 : Int) ≤ (V : Int) := by omega
  clear hV hv
  go_enter Try.func20, Try.ntmps20
  go_wp2_with (first
    | ((go_at_call 16)
       (refine hfl.mono ?_)
       (rintro e w1 ⟨hb1, v, rfl, ho⟩)
       (clear hfl)
       (obtain ⟨A, cap, rfl, hget⟩ := hg _ _ ho)
       (clear hg))
    | ((go_at_call 34)
       (refine hget.mono ?_)
       (rintro e w2 ⟨rfl, hw2⟩)
       (subst hw2)
       (clear hget)))
  go_ret2
  exact ⟨hb1, rfl⟩

set_option maxRecDepth 100000 in
set_option maxHeartbeats 1000000 in
theorem num_no (L : Nat) (i : Int) (a : Option Addr) (C : Nat) (w : World) (hm : L ≤ maxLen) (hi : i64ok i) (h : ¬ inF L i 4) :
    Calls Try.prog 20 #[.slice a L C, .int .i64 i] w fun e w' => Below w.heap.size w w' ∧ e = .returned (.tuple #[.int .i64 0, .int .i64 81]) := by
  have hno := field_no L i 4 a C w hm hi (by unfold i64ok; omega) h
  clear h hm hi
  go_enter Try.func20, Try.ntmps20
  go_wp2_with (first
    | ((go_at_call 16)
       (refine hno.mono ?_)
       (rintro e w1 ⟨rfl, rfl⟩)
       (clear hno)))
  go_ret2
  exact ⟨Below.refl _ _, rfl⟩

set_option maxRecDepth 100000 in
set_option maxHeartbeats 1000000 in
theorem rnum_yes {w : World} {a : Option Addr} {C : Nat} {f : Nat → Nat} (i : Nat) (hb : Bytes w a 64 f) (hC : 64 ≤ C) (hf : ∀ j, f j < 256) (h : inF 64 (i : Int) ((4 : Nat) : Int)) (hv : vn (fld f i 4) 4 < 2147483648) :
    Calls Try.prog 21 #[.slice a 64 C, .int .i64 (i : Nat)] w fun e w' => Below w.heap.size w w' ∧ e = .returned (.tuple #[.int .i64 (vn (fld f i 4) 4 : Nat), .int .i64 0]) := by
  have hfl := rfield_yes i 4 hb hC h
  have hg : ∀ w' v, w'.ownsRow w.heap.size 5 1 v 4 (bl (fld f i 4) 4) → ∃ A cap, v = .slice A 4 cap ∧ Calls Try.prog 30 #[.slice A 4 cap] w' fun e w2 => e = .returned (.tuple #[.int .u64 (vn (fld f i 4) 4 : Nat), .int .i64 0]) ∧ w2 = w' := by
    intro w' v ho
    obtain ⟨A, cap, rfl, _, _, hy, _⟩ := own_bytes ho
    exact ⟨A, cap, rfl, rget_s 4 cap (by decide) (by decide) hy (fld_lt hf i 4)⟩
  clear hb h
  obtain ⟨V, hV⟩ : ∃ V, V = vn (fld f i 4) 4 := ⟨_, rfl⟩
  rw [← hV] at hg hv ⊢
  have k1 : (0 : Int) ≤ (V : Int) := by omega
  have k2 : (V : Int) < 2147483648 := by omega
  clear hV hv
  generalize ((V : Nat) : Int) = x at hg k1 k2 ⊢
  go_enter Try.func21, Try.ntmps21
  go_wp2_with (first
    | ((go_at_call 17)
       (refine hfl.mono ?_)
       (rintro e w1 ⟨hb1, v, rfl, ho⟩)
       (clear hfl)
       (obtain ⟨A, cap, rfl, hget⟩ := hg _ _ ho)
       (clear hg))
    | ((go_at_call 30)
       (refine hget.mono ?_)
       (rintro e w2 ⟨rfl, hw2⟩)
       (subst hw2)
       (clear hget)))
  go_ret2
  exact ⟨hb1, rfl⟩

set_option maxRecDepth 100000 in
set_option maxHeartbeats 1000000 in
theorem rnum_big {w : World} {a : Option Addr} {C : Nat} {f : Nat → Nat} (i : Nat) (hb : Bytes w a 64 f) (hC : 64 ≤ C) (hf : ∀ j, f j < 256) (h : inF 64 (i : Int) ((4 : Nat) : Int)) (hv : 2147483648 ≤ vn (fld f i 4) 4) :
    Calls Try.prog 21 #[.slice a 64 C, .int .i64 (i : Nat)] w fun e w' => Below w.heap.size w w' ∧ e = .returned (.tuple #[.int .i64 0, .int .i64 81]) := by
  have hfl := rfield_yes i 4 hb hC h
  have hg : ∀ w' v, w'.ownsRow w.heap.size 5 1 v 4 (bl (fld f i 4) 4) → ∃ A cap, v = .slice A 4 cap ∧ Calls Try.prog 30 #[.slice A 4 cap] w' fun e w2 => e = .returned (.tuple #[.int .u64 (vn (fld f i 4) 4 : Nat), .int .i64 0]) ∧ w2 = w' := by
    intro w' v ho
    obtain ⟨A, cap, rfl, _, _, hy, _⟩ := own_bytes ho
    exact ⟨A, cap, rfl, rget_s 4 cap (by decide) (by decide) hy (fld_lt hf i 4)⟩
  clear hb h
  obtain ⟨V, hV⟩ : ∃ V, V = vn (fld f i 4) 4 := ⟨_, rfl⟩
  rw [← hV] at hg hv
  have k2 : (2147483648 : Int) ≤ (V : Int) := by omega
  clear hV hv
  go_enter Try.func21, Try.ntmps21
  go_wp2_with (first
    | ((go_at_call 17)
       (refine hfl.mono ?_)
       (rintro e w1 ⟨hb1, v, rfl, ho⟩)
       (clear hfl)
       (obtain ⟨A, cap, rfl, hget⟩ := hg _ _ ho)
       (clear hg))
    | ((go_at_call 30)
       (refine hget.mono ?_)
       (rintro e w2 ⟨rfl, hw2⟩)
       (subst hw2)
       (clear hget)))
  go_ret2
  exact ⟨hb1, rfl⟩

set_option maxRecDepth 100000 in
set_option maxHeartbeats 1000000 in
theorem rnum_no (L : Nat) (i : Int) (a : Option Addr) (C : Nat) (w : World) (hm : L ≤ maxLen) (hi : i64ok i) (h : ¬ inF L i 4) :
    Calls Try.prog 21 #[.slice a L C, .int .i64 i] w fun e w' => Below w.heap.size w w' ∧ e = .returned (.tuple #[.int .i64 0, .int .i64 81]) := by
  have hno := rfield_no L i 4 a C w hm hi (by unfold i64ok; omega) h
  clear h hm hi
  go_enter Try.func21, Try.ntmps21
  go_wp2_with (first
    | ((go_at_call 17)
       (refine hno.mono ?_)
       (rintro e w1 ⟨rfl, rfl⟩)
       (clear hno)))
  go_ret2
  exact ⟨Below.refl _ _, rfl⟩

set_option maxRecDepth 100000 in
set_option maxHeartbeats 1000000 in
theorem setn_bad (L : Nat) (i m : Int) (a : Option Addr) (C : Nat) (w : World) (hm : m < 0 ∨ 2147483648 ≤ m) :
    Calls Try.prog 22 #[.slice a L C, .int .i64 i, .int .i64 m] w fun e w' => Below w.heap.size w w' ∧ e = .returned (.tuple #[.slice none 0 0, .int .i64 81]) := by
  by_cases h0 : m < 0
  · clear hm
    go_enter Try.func22, Try.ntmps22
    go_wp2
    go_ret2
    exact ⟨Below.refl _ _, rfl⟩
  · have h1 : 2147483648 ≤ m := by omega
    clear hm
    go_enter Try.func22, Try.ntmps22
    go_wp2
    go_ret2
    exact ⟨Below.refl _ _, rfl⟩

set_option maxRecDepth 100000 in
set_option maxHeartbeats 1000000 in
theorem setn_yes {w : World} {a : Option Addr} {C : Nat} {f : Nat → Nat} (i m : Nat) (hb : Bytes w a 64 f) (hC : 64 ≤ C) (h : inF 64 (i : Int) ((4 : Nat) : Int)) (hv : m < 2147483648) :
    Calls Try.prog 22 #[.slice a 64 C, .int .i64 (i : Nat), .int .i64 (m : Nat)] w fun e w' => Below w.heap.size w w' ∧ ∃ v, e = .returned (.tuple #[v, .int .i64 0]) ∧ w'.ownsRow w.heap.size 5 1 v 64 (bl (sfld f i 4 (nbs m 4)) 64) := by
  have hp := put_s 4 (m : Int) w (by decide) (by decide) (hold_4 m (by omega))
  have hcu := fun w => conv_u64 m (by omega) w
  have k1 : (0 : Int) ≤ (m : Int) := by omega
  have k2 : (m : Int) < 2147483648 := by omega
  have hst : ∀ A w', Below w.heap.size w w' → Bytes w' (some A) 4 (nbs m 4) → Calls Try.prog 18 #[.slice a 64 C, .int .i64 (i : Nat), .slice (some A) 4 4] w' fun e w2 => Below w.heap.size w w2 ∧ ∃ v, e = .returned (.tuple #[v, .int .i64 0]) ∧ w2.ownsRow w.heap.size 5 1 v 64 (bl (sfld f i 4 (nbs m 4)) 64) := by
    intro A w' hb' hA
    refine (setf_yes i 4 (hb.below hb' (Nat.le_refl _)) hC hA (fun e => by cases e) h).mono ?_
    rintro e w2 ⟨hb2, v, rfl, ho⟩
    exact ⟨hb'.trans (hb2.mono hb'.size), v, rfl, own_mono ho hb'.size⟩
  clear hb h hv
  generalize ((m : Nat) : Int) = x at hp hcu hst k1 k2 ⊢
  go_enter Try.func22, Try.ntmps22
  go_wp2_with (first
    | ((go_at_call 35)
       (refine hp.mono ?_)
       (rintro e w1 ⟨rfl, ho1, hb1⟩)
       (clear hp)
       (obtain ⟨A1, cap1, e1, _, _, hy1, _⟩ := own_bytes ho1)
       (simp only [Value.slice.injEq] at e1)
       (obtain ⟨rfl, _, rfl⟩ := e1)
       (have hset := hst _ _ hb1 hy1))
    | ((go_at_call 18)
       (refine hset.mono ?_)
       (rintro e w2 ⟨hb2, v, rfl, ho2⟩)))
  go_ret2
  exact ⟨hb2, v, rfl, ho2⟩

set_option maxRecDepth 100000 in
set_option maxHeartbeats 1000000 in
theorem setn_no {w : World} (L : Nat) (i : Int) (a : Option Addr) (C m : Nat) (hm : L ≤ maxLen) (hi : i64ok i) (h : ¬ inF L i ((4 : Nat) : Int)) (hv : m < 2147483648) :
    Calls Try.prog 22 #[.slice a L C, .int .i64 i, .int .i64 (m : Nat)] w fun e w' => Below w.heap.size w w' ∧ e = .returned (.tuple #[.slice none 0 0, .int .i64 81]) := by
  have hp := put_s 4 (m : Int) w (by decide) (by decide) (hold_4 m (by omega))
  have hcu := fun w => conv_u64 m (by omega) w
  have k1 : (0 : Int) ≤ (m : Int) := by omega
  have k2 : (m : Int) < 2147483648 := by omega
  have hst := fun A w' => setf_no L 4 i a (some A) C 4 w' hm hi (by unfold maxLen; omega) h
  clear h hm hi hv
  generalize ((m : Nat) : Int) = x at hp hcu k1 k2 ⊢
  go_enter Try.func22, Try.ntmps22
  go_wp2_with (first
    | ((go_at_call 35)
       (refine hp.mono ?_)
       (rintro e w1 ⟨rfl, ho1, hb1⟩)
       (clear hp)
       (have hset := hst ⟨w.heap.size + 2, 0, none⟩ w1)
       (clear hst))
    | ((go_at_call 18)
       (refine hset.mono ?_)
       (rintro e w2 ⟨rfl, rfl⟩)))
  go_ret2
  exact ⟨hb1, rfl⟩

set_option maxRecDepth 100000 in
set_option maxHeartbeats 1000000 in
theorem rsetn_bad (L : Nat) (i m : Int) (a : Option Addr) (C : Nat) (w : World) (hm : m < 0 ∨ 2147483648 ≤ m) :
    Calls Try.prog 23 #[.slice a L C, .int .i64 i, .int .i64 m] w fun e w' => Below w.heap.size w w' ∧ e = .returned (.tuple #[.slice none 0 0, .int .i64 81]) := by
  by_cases h0 : m < 0
  · clear hm
    go_enter Try.func23, Try.ntmps23
    go_wp2
    go_ret2
    exact ⟨Below.refl _ _, rfl⟩
  · have h1 : 2147483648 ≤ m := by omega
    clear hm
    go_enter Try.func23, Try.ntmps23
    go_wp2
    go_ret2
    exact ⟨Below.refl _ _, rfl⟩

set_option maxRecDepth 100000 in
set_option maxHeartbeats 1000000 in
theorem rsetn_yes {w : World} {a : Option Addr} {C : Nat} {f : Nat → Nat} (i m : Nat) (hb : Bytes w a 64 f) (hC : 64 ≤ C) (h : inF 64 (i : Int) ((4 : Nat) : Int)) (hv : m < 2147483648) :
    Calls Try.prog 23 #[.slice a 64 C, .int .i64 (i : Nat), .int .i64 (m : Nat)] w fun e w' => Below w.heap.size w w' ∧ ∃ v, e = .returned (.tuple #[v, .int .i64 0]) ∧ w'.ownsRow w.heap.size 5 1 v 64 (bl (sfld f i 4 (nbs m 4)) 64) := by
  have hp := rbytes_s 4 (m : Int) w (by decide) (by decide) (by omega) (hold_4 m (by omega))
  have hcu := fun w => conv_u64 m (by omega) w
  have k1 : (0 : Int) ≤ (m : Int) := by omega
  have k2 : (m : Int) < 2147483648 := by omega
  have hst : ∀ A w', Below w.heap.size w w' → Bytes w' (some A) 4 (nbs m 4) → Calls Try.prog 19 #[.slice a 64 C, .int .i64 (i : Nat), .slice (some A) 4 4] w' fun e w2 => Below w.heap.size w w2 ∧ ∃ v, e = .returned (.tuple #[v, .int .i64 0]) ∧ w2.ownsRow w.heap.size 5 1 v 64 (bl (sfld f i 4 (nbs m 4)) 64) := by
    intro A w' hb' hA
    refine (rsetf_yes i 4 (hb.below hb' (Nat.le_refl _)) hC hA (fun e => by cases e) h).mono ?_
    rintro e w2 ⟨hb2, v, rfl, ho⟩
    exact ⟨hb'.trans (hb2.mono hb'.size), v, rfl, own_mono ho hb'.size⟩
  clear hb h hv
  generalize ((m : Nat) : Int) = x at hp hcu hst k1 k2 ⊢
  go_enter Try.func23, Try.ntmps23
  go_wp2_with (first
    | ((go_at_call 27)
       (refine hp.mono ?_)
       (rintro e w1 ⟨rfl, ho1, hb1⟩)
       (clear hp)
       (obtain ⟨A1, cap1, e1, _, _, hy1, _⟩ := own_bytes ho1)
       (simp only [Value.slice.injEq] at e1)
       (obtain ⟨rfl, _, rfl⟩ := e1)
       (have hset := hst _ _ hb1 hy1))
    | ((go_at_call 19)
       (refine hset.mono ?_)
       (rintro e w2 ⟨hb2, v, rfl, ho2⟩)))
  go_ret2
  exact ⟨hb2, v, rfl, ho2⟩

set_option maxRecDepth 100000 in
set_option maxHeartbeats 1000000 in
theorem rsetn_no {w : World} (L : Nat) (i : Int) (a : Option Addr) (C m : Nat) (hm : L ≤ maxLen) (hi : i64ok i) (h : ¬ inF L i ((4 : Nat) : Int)) (hv : m < 2147483648) :
    Calls Try.prog 23 #[.slice a L C, .int .i64 i, .int .i64 (m : Nat)] w fun e w' => Below w.heap.size w w' ∧ e = .returned (.tuple #[.slice none 0 0, .int .i64 81]) := by
  have hp := rbytes_s 4 (m : Int) w (by decide) (by decide) (by omega) (hold_4 m (by omega))
  have hcu := fun w => conv_u64 m (by omega) w
  have k1 : (0 : Int) ≤ (m : Int) := by omega
  have k2 : (m : Int) < 2147483648 := by omega
  have hst := fun A w' => rsetf_no L 4 i a (some A) C 4 w' hm hi (by unfold maxLen; omega) h
  clear h hm hi hv
  generalize ((m : Nat) : Int) = x at hp hcu k1 k2 ⊢
  go_enter Try.func23, Try.ntmps23
  go_wp2_with (first
    | ((go_at_call 27)
       (refine hp.mono ?_)
       (rintro e w1 ⟨rfl, ho1, hb1⟩)
       (clear hp)
       (have hset := hst ⟨w.heap.size, 0, none⟩ w1)
       (clear hst))
    | ((go_at_call 19)
       (refine hset.mono ?_)
       (rintro e w2 ⟨rfl, rfl⟩)))
  go_ret2
  exact ⟨hb1, rfl⟩

end Go.Proofs.Ytbiicdehgogikaa
