/- Ranges that share a sector. -/
import Derived.Test.YtacllicemnmpmaaArRef
import Derived.BigQuiet
import Derived.Deep.QuietTactic
namespace Go.Proofs.Ytacllicemnmpmaa
open Go.ChangeShapes Go.WideShapes Go.ChangeAt Go.RowKit Go.Shelf
set_option linter.unusedVariables false

/-- A range: its device, its first sector, how many. -/
structure R3 where
  d : Int
  f : Int
  c : Int

def R3.v (r : R3) : Value := .agg #[.int .i64 r.d, .int .i64 r.f, .int .i64 r.c]

def liesB (f c : Int) : Bool := decide (0 < c ∧ 0 ≤ f ∧ c ≤ 2147483647 ∧ f ≤ 2147483647 - c)

theorem lies_iff (f c : Int) : liesB f c = true ↔ (0 < c ∧ 0 ≤ f ∧ c ≤ 2147483647 ∧ f ≤ 2147483647 - c) := by unfold liesB; simp
theorem lies_not (f c : Int) : liesB f c = false ↔ ¬ (0 < c ∧ 0 ≤ f ∧ c ≤ 2147483647 ∧ f ≤ 2147483647 - c) := by unfold liesB; simp

def shareB (a b : R3) : Bool := decide (liesB a.f a.c = true ∧ liesB b.f b.c = true ∧ a.d = b.d ∧ a.f < b.f + b.c ∧ b.f < a.f + a.c)

theorem fits_yes (a n : Int) (w : World) (h : 0 ≤ a ∧ 0 ≤ n ∧ n ≤ 2147483647 ∧ a ≤ 2147483647 - n) : Calls Try.prog 38 #[.int .i64 a, .int .i64 n, .int .i64 2147483647] w fun e w' => e = .returned (.bool true) ∧ w' = w := by
  obtain ⟨h1, h2, h3, h4⟩ := h
  go_enter Try.func38, Try.ntmps38
  go_wp2
  go_ret
  exact ⟨rfl, rfl⟩

theorem fits_no (a n : Int) (w : World) (h : ¬ (0 ≤ a ∧ 0 ≤ n ∧ n ≤ 2147483647 ∧ a ≤ 2147483647 - n)) : Calls Try.prog 38 #[.int .i64 a, .int .i64 n, .int .i64 2147483647] w fun e w' => e = .returned (.bool false) ∧ w' = w := by
  rcases (by omega : a < 0 ∨ (0 ≤ a ∧ n < 0) ∨ (0 ≤ a ∧ 0 ≤ n ∧ 2147483647 < n) ∨ (0 ≤ a ∧ 0 ≤ n ∧ n ≤ 2147483647 ∧ ¬ a ≤ 2147483647 - n)) with h1 | ⟨h1, h2⟩ | ⟨h1, h2, h3⟩ | ⟨h1, h2, h3, h4⟩
  case inr.inr.inr => have h5 := decide_eq_false h4
                      clear h
                      go_enter Try.func38, Try.ntmps38
                      go_wp2
                      go_ret
                      exact ⟨rfl, rfl⟩
  all_goals
    clear h
    go_enter Try.func38, Try.ntmps38
    go_wp2
    go_ret
    exact ⟨rfl, rfl⟩

set_option maxHeartbeats 1000000 in
theorem lies_c (d f c : Int) (w : World) : Calls Try.prog 35 #[.agg #[.int .i64 d, .int .i64 f, .int .i64 c]] w fun e w' => e = .returned (.bool (liesB f c)) ∧ Below w.heap.size w w' := by
  have hb : ∀ a, Below w.heap.size w (w.alloc a) := fun a => (Below.refl _ w).alloc (Nat.le_refl _) _
  by_cases h0 : 0 < c
  · by_cases h : 0 ≤ f ∧ 0 ≤ c ∧ c ≤ 2147483647 ∧ f ≤ 2147483647 - c
    · have hl : liesB f c = true := (lies_iff f c).2 ⟨h0, h.1, h.2.2.1, h.2.2.2⟩
      have H : Hid (0 ≤ f ∧ 0 ≤ c ∧ c ≤ 2147483647 ∧ f ≤ 2147483647 - c) := h
      rw [hl]
      clear h hl
      go_enter Try.func35, Try.ntmps35
      go_wp2_with (first
        | ((go_at_call 38)
           (refine (fits_yes _ _ _ H.out).mono ?_)
           (rintro e w1 ⟨rfl, rfl⟩)))
      go_ret
      exact ⟨rfl, hb _⟩
    · have hl : liesB f c = false := (lies_not f c).2 (fun k => h ⟨k.2.1, by omega, k.2.2.1, k.2.2.2⟩)
      have H : Hid (¬ (0 ≤ f ∧ 0 ≤ c ∧ c ≤ 2147483647 ∧ f ≤ 2147483647 - c)) := h
      rw [hl]
      clear h hl
      go_enter Try.func35, Try.ntmps35
      go_wp2_with (first
        | ((go_at_call 38)
           (refine (fits_no _ _ _ H.out).mono ?_)
           (rintro e w1 ⟨rfl, rfl⟩)))
      go_ret
      exact ⟨rfl, hb _⟩
  · have hl : liesB f c = false := (lies_not f c).2 (fun k => h0 k.1)
    rw [hl]
    clear hl
    go_enter Try.func35, Try.ntmps35
    go_wp2
    go_ret
    exact ⟨rfl, hb _⟩

set_option maxHeartbeats 1000000 in
theorem real_c (d f c : Int) (w : World) : Calls Try.prog 29 #[.agg #[.int .i64 d, .int .i64 f, .int .i64 c]] w fun e w' => e = .returned (.bool (liesB f c)) ∧ Below w.heap.size w w' := by
  have hb : ∀ a, Below w.heap.size w (w.alloc a) := fun a => (Below.refl _ w).alloc (Nat.le_refl _) _
  by_cases h : 0 < c ∧ 0 ≤ f ∧ c ≤ 2147483647 ∧ f ≤ 2147483647 - c
  · rw [(lies_iff f c).2 h]
    have h1 : 1 ≤ c := by omega
    have h2 : 0 ≤ f := by omega
    have h3 : f ≤ 2147483647 := by omega
    have h4 : c ≤ 2147483647 - f := by omega
    clear h
    go_enter Try.func29, Try.ntmps29
    go_wp2
    go_ret
    exact ⟨rfl, hb _⟩
  · rw [(lies_not f c).2 h]
    rcases (by omega : f < 0 ∨ (0 ≤ f ∧ c < 1) ∨ (0 ≤ f ∧ 1 ≤ c ∧ 2147483647 < f) ∨ (0 ≤ f ∧ 1 ≤ c ∧ f ≤ 2147483647 ∧ ¬ c ≤ 2147483647 - f)) with h1 | ⟨h1, h2⟩ | ⟨h1, h2, h3⟩ | ⟨h1, h2, h3, h4⟩
    case inr.inr.inr => have h5 := decide_eq_false h4
                        clear h
                        go_enter Try.func29, Try.ntmps29
                        go_wp2
                        go_ret
                        exact ⟨rfl, hb _⟩
    all_goals
      clear h
      go_enter Try.func29, Try.ntmps29
      go_wp2
      go_ret
      exact ⟨rfl, hb _⟩

theorem share_not {a b : R3} (h : ¬ (liesB a.f a.c = true ∧ liesB b.f b.c = true ∧ a.d = b.d ∧ a.f < b.f + b.c ∧ b.f < a.f + a.c)) : shareB a b = false := by
  unfold shareB; exact decide_eq_false h

theorem share_is {a b : R3} (h : liesB a.f a.c = true ∧ liesB b.f b.c = true ∧ a.d = b.d ∧ a.f < b.f + b.c ∧ b.f < a.f + a.c) : shareB a b = true := by
  unfold shareB; exact decide_eq_true h

/-- A row of three ints, cell by cell. -/
theorem three {w : World} {g t : Nat} {x y z : Value} (h : Has w g t #[x, y, z]) : w.cell? ⟨g, 0, none⟩ = some x ∧ w.cell? ⟨g, 1, none⟩ = some y ∧ w.cell? ⟨g, 2, none⟩ = some z := ⟨h.cell 0, h.cell 1, h.cell 2⟩

set_option maxHeartbeats 4000000 in
theorem shares_c (a b : R3) (w : World) : Calls Try.prog 28 #[a.v, b.v] w fun e w' => e = .returned (.bool (shareB a b)) ∧ Below w.heap.size w w' := by
  obtain ⟨ad, af, ac⟩ := a
  obtain ⟨bd, bf, bc⟩ := b
  obtain ⟨W0, hW0⟩ : ∃ W0, W0 = (w.alloc (.cells #[.int .i64 ad, .int .i64 af, .int .i64 ac] 33)).alloc (.cells #[.int .i64 bd, .int .i64 bf, .int .i64 bc] 33) := ⟨_, rfl⟩
  have hB0 : Below w.heap.size w W0 := by rw [hW0]; exact ((Below.refl _ w).alloc (Nat.le_refl _) _).alloc (by simp) _
  have hs0 : W0.heap.size = w.heap.size + 2 := by rw [hW0]; simp
  have hA : Has W0 w.heap.size 33 #[.int .i64 ad, .int .i64 af, .int .i64 ac] := by rw [hW0]; exact (Has.new _ _ _).alloc _
  have hB : Has W0 (w.heap.size + 1) 33 #[.int .i64 bd, .int .i64 bf, .int .i64 bc] := by rw [hW0]; exact Has.new_at (by simp)
  have hla := lies_c ad af ac W0
  by_cases h1 : liesB af ac = true
  · rw [h1] at hla
    have HA : Hid (Calls Try.prog 35 #[.agg #[.int .i64 ad, .int .i64 af, .int .i64 ac]] W0 fun e w' => e = .returned (.bool true) ∧ Below W0.heap.size W0 w') := hla
    obtain ⟨l1, l2, l3, l4⟩ := (lies_iff af ac).1 h1
    clear hla
    by_cases h2 : liesB bf bc = true
    · have HB : Hid (∀ W, Calls Try.prog 35 #[.agg #[.int .i64 bd, .int .i64 bf, .int .i64 bc]] W fun e w' => e = .returned (.bool true) ∧ Below W.heap.size W w') := fun W => by rw [← h2]; exact lies_c bd bf bc W
      obtain ⟨m1, m2, m3, m4⟩ := (lies_iff bf bc).1 h2
      by_cases h3 : ad = bd
      · by_cases h4 : af < bf + bc
        · by_cases h5 : bf < af + ac
          · rw [share_is (a := ⟨ad, af, ac⟩) (b := ⟨bd, bf, bc⟩) ⟨h1, h2, h3, h4, h5⟩]
            simp only [R3.v]
            subst h3
            clear h1 h2
            go_enter Try.func28, Try.ntmps28
            go_wp2_with (first
              | ((go_at_call 35)
                 (refine at_arg 0 (.agg #[.int .i64 ad, .int .i64 af, .int .i64 ac]) rfl ?_)
                 (rw [← hW0])
                 (refine HA.out.mono ?_)
                 (rintro e w1 ⟨rfl, hb1⟩)
                 (obtain ⟨a0, a1, a2⟩ := three (hA.below hb1 hA.lt))
                 (obtain ⟨b0, b1, b2⟩ := three (hB.below hb1 hB.lt)))
              | ((go_at_call 35)
                 (refine (HB.out _).mono ?_)
                 (rintro e w2 ⟨rfl, hb2⟩)
                 (obtain ⟨x0, x1, x2⟩ := three ((hA.below hb1 hA.lt).below hb2 (hA.below hb1 hA.lt).lt))
                 (obtain ⟨y0, y1, y2⟩ := three ((hB.below hb1 hB.lt).below hb2 (hB.below hb1 hB.lt).lt))))
            go_ret
            exact ⟨rfl, (hB0.trans (hb1.mono (by omega))).trans (hb2.mono (by have := hb1.size; omega))⟩
          · rw [share_not (a := ⟨ad, af, ac⟩) (b := ⟨bd, bf, bc⟩) (fun k => h5 k.2.2.2.2)]
            have h6 := decide_eq_false h5
            simp only [R3.v]
            subst h3
            clear h1 h2
            go_enter Try.func28, Try.ntmps28
            go_wp2_with (first
              | ((go_at_call 35)
                 (refine at_arg 0 (.agg #[.int .i64 ad, .int .i64 af, .int .i64 ac]) rfl ?_)
                 (rw [← hW0])
                 (refine HA.out.mono ?_)
                 (rintro e w1 ⟨rfl, hb1⟩)
                 (obtain ⟨a0, a1, a2⟩ := three (hA.below hb1 hA.lt))
                 (obtain ⟨b0, b1, b2⟩ := three (hB.below hb1 hB.lt)))
              | ((go_at_call 35)
                 (refine (HB.out _).mono ?_)
                 (rintro e w2 ⟨rfl, hb2⟩)
                 (obtain ⟨x0, x1, x2⟩ := three ((hA.below hb1 hA.lt).below hb2 (hA.below hb1 hA.lt).lt))
                 (obtain ⟨y0, y1, y2⟩ := three ((hB.below hb1 hB.lt).below hb2 (hB.below hb1 hB.lt).lt))))
            go_ret
            exact ⟨rfl, (hB0.trans (hb1.mono (by omega))).trans (hb2.mono (by have := hb1.size; omega))⟩
        · rw [share_not (a := ⟨ad, af, ac⟩) (b := ⟨bd, bf, bc⟩) (fun k => h4 k.2.2.2.1)]
          simp only [R3.v]
          subst h3
          clear h1 h2
          go_enter Try.func28, Try.ntmps28
          go_wp2_with (first
            | ((go_at_call 35)
               (refine at_arg 0 (.agg #[.int .i64 ad, .int .i64 af, .int .i64 ac]) rfl ?_)
               (rw [← hW0])
               (refine HA.out.mono ?_)
               (rintro e w1 ⟨rfl, hb1⟩)
               (obtain ⟨a0, a1, a2⟩ := three (hA.below hb1 hA.lt))
               (obtain ⟨b0, b1, b2⟩ := three (hB.below hb1 hB.lt)))
            | ((go_at_call 35)
               (refine (HB.out _).mono ?_)
               (rintro e w2 ⟨rfl, hb2⟩)
               (obtain ⟨x0, x1, x2⟩ := three ((hA.below hb1 hA.lt).below hb2 (hA.below hb1 hA.lt).lt))
               (obtain ⟨y0, y1, y2⟩ := three ((hB.below hb1 hB.lt).below hb2 (hB.below hb1 hB.lt).lt))))
          go_ret
          exact ⟨rfl, (hB0.trans (hb1.mono (by omega))).trans (hb2.mono (by have := hb1.size; omega))⟩
      · rw [share_not (a := ⟨ad, af, ac⟩) (b := ⟨bd, bf, bc⟩) (fun k => h3 k.2.2.1)]
        simp only [R3.v]
        clear h1 h2
        go_enter Try.func28, Try.ntmps28
        go_wp2_with (first
          | ((go_at_call 35)
             (refine at_arg 0 (.agg #[.int .i64 ad, .int .i64 af, .int .i64 ac]) rfl ?_)
             (rw [← hW0])
             (refine HA.out.mono ?_)
             (rintro e w1 ⟨rfl, hb1⟩)
             (obtain ⟨a0, a1, a2⟩ := three (hA.below hb1 hA.lt))
             (obtain ⟨b0, b1, b2⟩ := three (hB.below hb1 hB.lt)))
          | ((go_at_call 35)
             (refine (HB.out _).mono ?_)
             (rintro e w2 ⟨rfl, hb2⟩)
             (obtain ⟨x0, x1, x2⟩ := three ((hA.below hb1 hA.lt).below hb2 (hA.below hb1 hA.lt).lt))
             (obtain ⟨y0, y1, y2⟩ := three ((hB.below hb1 hB.lt).below hb2 (hB.below hb1 hB.lt).lt))))
        go_ret
        exact ⟨rfl, (hB0.trans (hb1.mono (by omega))).trans (hb2.mono (by have := hb1.size; omega))⟩
    · have HB : Hid (∀ W, Calls Try.prog 35 #[.agg #[.int .i64 bd, .int .i64 bf, .int .i64 bc]] W fun e w' => e = .returned (.bool false) ∧ Below W.heap.size W w') := fun W => by rw [← (show liesB bf bc = false by simpa using h2)]; exact lies_c bd bf bc W
      rw [share_not (a := ⟨ad, af, ac⟩) (b := ⟨bd, bf, bc⟩) (fun k => h2 k.2.1)]
      simp only [R3.v]
      clear h1 h2
      go_enter Try.func28, Try.ntmps28
      go_wp2_with (first
        | ((go_at_call 35)
           (refine at_arg 0 (.agg #[.int .i64 ad, .int .i64 af, .int .i64 ac]) rfl ?_)
           (rw [← hW0])
           (refine HA.out.mono ?_)
           (rintro e w1 ⟨rfl, hb1⟩)
           (obtain ⟨a0, a1, a2⟩ := three (hA.below hb1 hA.lt))
           (obtain ⟨b0, b1, b2⟩ := three (hB.below hb1 hB.lt)))
        | ((go_at_call 35)
           (refine (HB.out _).mono ?_)
           (rintro e w2 ⟨rfl, hb2⟩)
           (obtain ⟨x0, x1, x2⟩ := three ((hA.below hb1 hA.lt).below hb2 (hA.below hb1 hA.lt).lt))
           (obtain ⟨y0, y1, y2⟩ := three ((hB.below hb1 hB.lt).below hb2 (hB.below hb1 hB.lt).lt))))
      go_ret
      exact ⟨rfl, (hB0.trans (hb1.mono (by omega))).trans (hb2.mono (by have := hb1.size; omega))⟩
  · rw [share_not (a := ⟨ad, af, ac⟩) (b := ⟨bd, bf, bc⟩) (fun k => h1 k.1)]
    rw [show liesB af ac = false by simpa using h1] at hla
    have HA : Hid (Calls Try.prog 35 #[.agg #[.int .i64 ad, .int .i64 af, .int .i64 ac]] W0 fun e w' => e = .returned (.bool false) ∧ Below W0.heap.size W0 w') := hla
    simp only [R3.v]
    clear h1 hla
    go_enter Try.func28, Try.ntmps28
    go_wp2_with (first
      | ((go_at_call 35)
         (rw [← hW0])
         (refine HA.out.mono ?_)
         (rintro e w1 ⟨rfl, hb1⟩)))
    go_ret
    exact ⟨rfl, hB0.trans (hb1.mono (by omega))⟩
end Go.Proofs.Ytacllicemnmpmaa
