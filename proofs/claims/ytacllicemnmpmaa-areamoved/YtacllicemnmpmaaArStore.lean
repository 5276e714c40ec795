/- A snapshot's store. -/
import Derived.Test.YtacllicemnmpmaaArShare
namespace Go.Proofs.Ytacllicemnmpmaa
open Go.ChangeShapes Go.WideShapes Go.ChangeAt Go.RowKit Go.Shelf
set_option linter.unusedVariables false

/-- Only where the call's i-th argument is v. -/
theorem at_arg {f : FuncId} {args : Array Value} {w : World} {R : Ending → World → Prop} (i : Nat) (v : Value) (h : args[i]? = some v) (k : Calls Try.prog f args w R) : Calls Try.prog f args w R := k

set_option maxHeartbeats 1000000 in
theorem store1_c (s table chunk n b1 b2 b3 : Nat) (W : World) (h1 : s ≤ 8192) (h2 : table ≤ 8192) (h3 : chunk ≤ 16) (c1 : W.cell? ⟨b1, 0, none⟩ = some (.int .i64 (table : Nat))) (c2 : W.cell? ⟨b2, 0, none⟩ = some (.int .i64 (chunk : Nat))) (c3 : W.cell? ⟨b3, 0, none⟩ = some (.int .i64 (n : Nat))) :
    Calls Try.prog 25 #[.int .i64 (s : Nat), .pointer (some ⟨b1, 0, none⟩), .pointer (some ⟨b2, 0, none⟩), .pointer (some ⟨b3, 0, none⟩)] W fun e W' => e = .returned (.bool (sfit table chunk n s)) ∧ Below W.heap.size W W' := by
  have hm : s * chunk ≤ 8192 * 16 := Nat.mul_le_mul h1 h3
  have HF : Hid (decide ((table : Int) + (s : Int) * (chunk : Int) ≤ (n : Int)) = sfit table chunk n s) := (by unfold sfit; exact decide_eq_decide.2 (by rw [← Int.natCast_mul]; omega) : decide ((table : Int) + (s : Int) * (chunk : Int) ≤ (n : Int)) = sfit table chunk n s)
  have hm2 : (s : Int) * (chunk : Int) ≤ 131072 := by rw [← Int.natCast_mul]; omega
  have hm3 : 0 ≤ (s : Int) * (chunk : Int) := by rw [← Int.natCast_mul]; omega
  generalize sfit table chunk n s = bo at HF ⊢
  have ht1 : 0 ≤ (table : Int) := by omega
  have ht2 : (table : Int) ≤ 8192 := by omega
  generalize (table : Int) = T at *
  generalize (s : Int) = S at *
  generalize (chunk : Int) = C at *
  generalize (n : Int) = N at *
  clear h1 h2 h3 hm
  go_enter Try.func25, Try.ntmps25
  go_wp2
  go_ret
  rw [HF.out]
  exact ⟨rfl, Below.refl _ _⟩

/-- Sectors of the table, where there is a slot. -/
def stA (table s : Nat) : Nat := if s = 0 then 0 else table

def chunksOf (origin chunk : Nat) : Nat := (origin + chunk - 1) / chunk
def tableOf (origin chunk : Nat) : Nat := (chunksOf origin chunk + 15) / 16

theorem chunks_le {origin chunk : Nat} (h1 : 1 ≤ origin) (h2 : origin ≤ 8192) (h3 : 1 ≤ chunk) : 1 ≤ chunksOf origin chunk ∧ chunksOf origin chunk ≤ 8192 := by
  unfold chunksOf
  constructor
  · exact (Nat.le_div_iff_mul_le (by omega)).2 (by omega)
  · refine Nat.div_le_of_le_mul ?_
    have := Nat.mul_le_mul_right (chunk - 1) h1
    have e : chunk * 8192 = 8192 * (chunk - 1) + 8192 := by
      obtain ⟨k, rfl⟩ : ∃ k, chunk = k + 1 := ⟨chunk - 1, by omega⟩
      simp only [Nat.add_sub_cancel]; omega
    omega

set_option maxHeartbeats 2000000 in
theorem Store_no (n o c : Int) (w : World) (h : ¬ ((1 ≤ n ∧ n ≤ 8192) ∧ (1 ≤ o ∧ o ≤ 8192) ∧ (1 ≤ c ∧ c ≤ 16))) :
    Calls Try.prog 12 #[.int .i64 n, .int .i64 o, .int .i64 c] w fun e w' => e = .returned (.tuple #[.int .i64 0, .int .i64 0]) ∧ Below w.heap.size w w' := by
  have hb : ∀ a b, Below w.heap.size w ((w.alloc a).alloc b) := fun a b => ((Below.refl _ w).alloc (Nat.le_refl _) _).alloc (by simp) _
  by_cases h1 : 1 ≤ n ∧ n ≤ 8192
  · by_cases h2 : 1 ≤ o ∧ o ≤ 8192
    · have h3 : ¬ (1 ≤ c ∧ c ≤ 16) := fun h3 => h ⟨h1, h2, h3⟩
      clear h
      have H1 : Hid (1 ≤ n ∧ n ≤ 8192) := h1
      have H2 : Hid (1 ≤ o ∧ o ≤ 8192) := h2
      have H3 : Hid (¬ (1 ≤ c ∧ c ≤ 16)) := h3
      clear h1 h2 h3
      go_enter Try.func12, Try.ntmps12
      go_wp2_with (first
        | ((go_at_call 23)
           (refine at_arg 0 (.int .i64 n) rfl ?_)
           (refine (within_yes _ _ _ _ H1.out).mono ?_)
           (rintro e w1 ⟨rfl, rfl⟩))
        | ((go_at_call 23)
           (refine at_arg 0 (.int .i64 o) rfl ?_)
           (refine (within_yes _ _ _ _ H2.out).mono ?_)
           (rintro e w1 ⟨rfl, rfl⟩))
        | ((go_at_call 23)
           (refine (within_no _ _ _ _ H3.out).mono ?_)
           (rintro e w1 ⟨rfl, rfl⟩)))
      go_ret2
      exact ⟨rfl, hb _ _⟩
    · clear h
      have H1 : Hid (1 ≤ n ∧ n ≤ 8192) := h1
      have H2 : Hid (¬ (1 ≤ o ∧ o ≤ 8192)) := h2
      clear h1 h2
      go_enter Try.func12, Try.ntmps12
      go_wp2_with (first
        | ((go_at_call 23)
           (refine at_arg 0 (.int .i64 n) rfl ?_)
           (refine (within_yes _ _ _ _ H1.out).mono ?_)
           (rintro e w1 ⟨rfl, rfl⟩))
        | ((go_at_call 23)
           (refine at_arg 0 (.int .i64 o) rfl ?_)
           (refine (within_no _ _ _ _ H2.out).mono ?_)
           (rintro e w1 ⟨rfl, rfl⟩)))
      go_ret2
      exact ⟨rfl, hb _ _⟩
  · clear h
    have H1 : Hid (¬ (1 ≤ n ∧ n ≤ 8192)) := h1
    clear h1
    go_enter Try.func12, Try.ntmps12
    go_wp2_with (first
      | ((go_at_call 23)
         (refine (within_no _ _ _ _ H1.out).mono ?_)
         (rintro e w1 ⟨rfl, rfl⟩)))
    go_ret2
    exact ⟨rfl, hb _ _⟩

set_option maxHeartbeats 2000000 in
theorem Store_c (n o c : Nat) (w : World) (h1 : 1 ≤ n ∧ n ≤ 8192) (h2 : 1 ≤ o ∧ o ≤ 8192) (h3 : 1 ≤ c ∧ c ≤ 16) :
    Calls Try.prog 12 #[.int .i64 (n : Nat), .int .i64 (o : Nat), .int .i64 (c : Nat)] w fun e w' => ∃ s : Nat, e = .returned (.tuple #[.int .i64 (stA (tableOf o c) s : Nat), .int .i64 (s : Nat)]) ∧ Great (chunksOf o c) (sfit (tableOf o c) c n) s ∧ Below w.heap.size w w' := by
  have hcl := chunks_le h2.1 h2.2 h3.1
  have H1 : Hid ((1 : Int) ≤ (n : Int) ∧ (n : Int) ≤ 8192) := (by omega : (1 : Int) ≤ (n : Int) ∧ (n : Int) ≤ 8192)
  have H2 : Hid ((1 : Int) ≤ (o : Int) ∧ (o : Int) ≤ 8192) := (by omega : (1 : Int) ≤ (o : Int) ∧ (o : Int) ≤ 8192)
  have H3 : Hid ((1 : Int) ≤ (c : Int) ∧ (c : Int) ≤ 16) := (by omega : (1 : Int) ≤ (c : Int) ∧ (c : Int) ≤ 16)
  have g1 := fun W => groups_c o c W (by omega) (by omega) (by omega)
  have g2 := fun W => groups_c (chunksOf o c) 16 W (by omega) (by omega) (by omega)
  rw [show (o + c - 1) / c = chunksOf o c from rfl] at g1
  rw [show (chunksOf o c + 16 - 1) / 16 = tableOf o c from rfl] at g2
  have ht : tableOf o c ≤ 8192 := by unfold tableOf; omega
  generalize tableOf o c = T at *
  generalize chunksOf o c = K at *
  obtain ⟨W0, hW0⟩ : ∃ W0, W0 = ((w.alloc (.cells #[.int .i64 (n : Nat)] 3)).alloc (.cells #[.int .i64 (c : Nat)] 3)).alloc (.cells #[.int .i64 (T : Nat)] 3) := ⟨_, rfl⟩
  have hs0 : W0.heap.size = w.heap.size + 3 := by rw [hW0]; simp
  have c1 : W0.cell? ⟨w.heap.size + 1 + 1, 0, none⟩ = some (.int .i64 (T : Nat)) := by rw [hW0]; simp [go_sem]
  have c2 : W0.cell? ⟨w.heap.size + 1, 0, none⟩ = some (.int .i64 (c : Nat)) := by rw [hW0]; simp [go_sem]
  have c3 : W0.cell? ⟨w.heap.size, 0, none⟩ = some (.int .i64 (n : Nat)) := by rw [hW0]; simp [go_sem]
  have hB0 : Below w.heap.size w W0 := by rw [hW0]; exact (((Below.refl _ w).alloc (Nat.le_refl _) _).alloc (by simp) _).alloc (by simp; omega) _
  have hG := greatest_c 25 #[.pointer (some ⟨w.heap.size + 1 + 1, 0, none⟩), .pointer (some ⟨w.heap.size + 1, 0, none⟩), .pointer (some ⟨w.heap.size, 0, none⟩)] K (sfit T c n) W0 (enters_of Try.func25 (by kernel_rfl) rfl) (by omega)
    (fun d W hd hb => store1_c d T c n _ _ _ W (by omega) ht h3.2 (by rw [← c1]; exact hb.cell (p := ⟨w.heap.size + 1 + 1, 0, none⟩) (by show w.heap.size + 1 + 1 < _; omega)) (by rw [← c2]; exact hb.cell (p := ⟨w.heap.size + 1, 0, none⟩) (by show w.heap.size + 1 < _; omega)) (by rw [← c3]; exact hb.cell (p := ⟨w.heap.size, 0, none⟩) (by show w.heap.size < _; omega)))
    (fun a b hab hb h => sfit_anti a b hab h)
  have HG : Hid (Calls Try.prog 24 #[.int .i64 (K : Nat), .func (.func 25) #[] #[.pointer (some ⟨w.heap.size + 1 + 1, 0, none⟩), .pointer (some ⟨w.heap.size + 1, 0, none⟩), .pointer (some ⟨w.heap.size, 0, none⟩)]] W0 fun e w' => ∃ r : Nat, e = .returned (.int .i64 (r : Nat)) ∧ Great K (sfit T c n) r ∧ Below W0.heap.size W0 w') := hG
  clear hG
  have C1 : Hid (W0.cell? ⟨w.heap.size + 1 + 1, 0, none⟩ = some (.int .i64 (T : Nat))) := c1
  have G1 : Hid (∀ W, Calls Try.prog 20 #[.int .i64 (o : Nat), .int .i64 (c : Nat)] W fun e w' => e = .returned (.int .i64 (K : Nat)) ∧ w' = W) := g1
  have G2 : Hid (∀ W, Calls Try.prog 20 #[.int .i64 (K : Nat), .int .i64 16] W fun e w' => e = .returned (.int .i64 (T : Nat)) ∧ w' = W) := g2
  clear c1 c2 c3 h1 h2 h3 hcl g1 g2
  go_enter Try.func12, Try.ntmps12
  go_wp2_with (first
    | ((go_at_call 23)
       (refine at_arg 0 (.int .i64 (n : Nat)) rfl ?_)
       (refine (within_yes _ _ _ _ H1.out).mono ?_)
       (rintro e w1 ⟨rfl, rfl⟩))
    | ((go_at_call 23)
       (refine at_arg 0 (.int .i64 (o : Nat)) rfl ?_)
       (refine (within_yes _ _ _ _ H2.out).mono ?_)
       (rintro e w1 ⟨rfl, rfl⟩))
    | ((go_at_call 23)
       (refine (within_yes _ _ _ _ H3.out).mono ?_)
       (rintro e w1 ⟨rfl, rfl⟩))
    | ((go_at_call 20)
       (refine at_arg 1 (.int .i64 16) rfl ?_)
       (refine (G2.out _).mono ?_)
       (rintro e w1 ⟨rfl, rfl⟩))
    | ((go_at_call 20)
       (refine (G1.out _).mono ?_)
       (rintro e w1 ⟨rfl, rfl⟩))
    | ((go_at_call 24)
       (rw [← hW0])
       (refine HG.out.mono ?_)
       (rintro e w1 ⟨r, rfl, h1, h4⟩)
       (have c1 : w1.cell? ⟨w.heap.size + 1 + 1, 0, none⟩ = some (.int .i64 (T : Nat)) := (h4.cell (p := ⟨w.heap.size + 1 + 1, 0, none⟩) (by show w.heap.size + 1 + 1 < _; omega)).trans C1.out)
       (clear HG hW0)))
  all_goals go_ret2
  · rename_i hz
    obtain rfl : r = 0 := by simpa using hz
    exact ⟨0, rfl, h1, hB0.trans (h4.mono (by omega))⟩
  · rename_i hz
    have hz' : ¬ r = 0 := by simpa using hz
    refine ⟨r, ?_, h1, hB0.trans (h4.mono (by omega))⟩
    unfold stA
    rw [if_neg hz']
    rfl
end Go.Proofs.Ytacllicemnmpmaa
