/- AreaMoved: where ranges lie does not matter. -/
import Derived.Test.YtacllicemnmpmaaArRow
namespace Go.Proofs.Ytacllicemnmpmaa
open Go.ChangeShapes Go.WideShapes Go.ChangeAt Go.RowKit Go.Shelf
set_option linter.unusedVariables false

theorem grown_has {w w' : World} {b t : Nat} {cs : Array Value} {r : Option Nat} (h : Has w b t cs) (hg : w.grownBy w' r) (hne : ¬ r = some b) : Has w' b t cs := (hg.block b h.lt (fun e => hne e.symm)).trans h

set_option maxRecDepth 100000 in
set_option maxHeartbeats 4000000 in
theorem moved_walk (a : Option Addr) (len cap : Nat) (F : Nat → R3) (n : Int) (w : World) (hl : Rng w a len F) (h1 : len ≤ cap) (h2 : cap ≤ maxLen) (hn : i64ok n) : Calls Try.prog 7 #[.slice a len cap, .int .i64 n] w fun e w' => e = .returned (.bool true) ∧ Below w.heap.size w w' := by
  unfold maxLen at h2
  obtain ⟨hn1, hn2⟩ := hn
  by_cases h0 : n < 0
  · obtain ⟨B, hN', hN⟩ : ∃ N : Nat, -((n + 1).tmod 1000) = (N : Int) ∧ N < 1000 := by
      refine ⟨((-(n + 1)) % 1000).toNat, ?_, by omega⟩
      rw [← Int.neg_tmod, Int.tmod_eq_emod_of_nonneg (by omega)]
      omega
    have HM : Hid (-((n + 1).tmod 1000) = (B : Int)) := hN'
    have h4 := decide_eq_true h0
    clear hN'
    go_enter Try.func7, Try.ntmps7
    go_wp2
    rw [HM.out]
    go_loopw [5, 6, 7] (fun v5 v6 i wr => ∃ k : Nat, k ≤ 60 ∧ k ≤ len ∧ i = .int .i64 k ∧ wr.ownsRow w.heap.size 33 3 v6 k (rl F k) ∧ wr.ownsRow w.heap.size 33 3 v5 k (rl (mv F (B : Int)) k) ∧ Hid (∀ g, v5.ownBlock = some g → v6.ownBlock ≠ some g) ∧ Below w.heap.size w wr ∧ Hid (∀ i, i < k → Good (F i)))
      (fun _ _ i _ => 61 - (intOf i).toNat)
    case atStart =>
      refine ⟨0, by omega, by omega, rfl, World.ownsRow_nil _ _ _ _, World.ownsRow_nil _ _ _ _, ?_, Below.refl _ _, (fun i hi => absurd hi (Nat.not_lt_zero _) : ∀ i, i < 0 → Good (F i))⟩
      exact ((fun g (hg : none = some g) => nomatch hg) : ∀ g, Value.ownBlock (.slice none 0 0) = some g → Value.ownBlock (.slice none 0 0) ≠ some g)
    case round =>
      obtain ⟨k, hk6, hkl, rfl, own6, own5, HD, hb, HG⟩ := hrel
      by_cases hlt : k < len ∧ k < 60
      · obtain ⟨hlt1, hlt2⟩ := hlt
        obtain ⟨b, off, rfl, hbl, c0, c1, c2⟩ := (hl.below hb (Nat.le_refl _)).at k hlt1
        have HF : Hid (∀ r : R3, F k = r → (mv F (B : Int)) k = ⟨3 * r.d + 1, r.f + (B : Int), r.c⟩) := (fun r h => by subst h; rfl : ∀ r : R3, F k = r → (mv F (B : Int)) k = ⟨3 * r.d + 1, r.f + (B : Int), r.c⟩)
        generalize hFk : F k = q at c0 c1 c2
        have HK : Hid (F k = q) := hFk
        clear hFk
        obtain ⟨d, f, c⟩ := q
        simp only at c0 c1 c2
        rcases (by omega : f < 0 ∨ (0 ≤ f ∧ 1048576 < f) ∨ (0 ≤ f ∧ f ≤ 1048576 ∧ 1048576 < c) ∨ (0 ≤ f ∧ f ≤ 1048576 ∧ c ≤ 1048576 ∧ 1099511627776 < d) ∨ (0 ≤ f ∧ f ≤ 1048576 ∧ c ≤ 1048576 ∧ d ≤ 1099511627776 ∧ d < -1099511627776) ∨ (0 ≤ f ∧ f ≤ 1048576 ∧ c ≤ 1048576 ∧ d ≤ 1099511627776 ∧ -1099511627776 ≤ d)) with x1 | ⟨x1, x2⟩ | ⟨x1, x2, x3⟩ | ⟨x1, x2, x3, x4⟩ | ⟨x1, x2, x3, x4, x5⟩ | ⟨x1, x2, x3, x4, x5⟩
        case inr.inr.inr.inr.inr =>
          have HGk : Hid (Good (F k)) := (by rw [HK.out]; exact ⟨x1, x2, x3, x4, x5⟩ : Good (F k))
          obtain ⟨V, hV⟩ : ∃ V, V = wr.alloc (.cells #[.int .i64 d, .int .i64 f, .int .i64 c] 33) := ⟨_, rfl⟩
          have hbV : Below wr.heap.size wr V := by rw [hV]; exact (Below.refl _ wr).alloc (Nat.le_refl _) _
          have hVs : V.heap.size = wr.heap.size + 1 := by rw [hV]; simp
          have hVx : Has V wr.heap.size 33 #[.int .i64 d, .int .i64 f, .int .i64 c] := by rw [hV]; exact Has.new _ _ _
          have o6 := ownR_below own6 hbV (fun g hg => (own6.lt g hg).2)
          have o5 := ownR_below own5 hbV (fun g hg => (own5.lt g hg).2)
          have L6 : Hid _ := own6.lt
          have L5 : Hid _ := own5.lt
          have hbs := hb.size
          go_wp2_with (first
            | ((at_builtin)
               (refine at_dst 61 rfl ?_)
               (rw [← hV])
               (refine wpList_append_r3 rfl _ _ rfl w.heap.size _ k F rfl o6 d f c (by rw [hVs]; rfl) (by rw [HK.out]) (by rw [HK.out]) (by rw [HK.out]) (by omega) (by omega) ?_)
               (intro g6 cap6 w1 own6' gr6 hg6 hlt6)
               (have hx1 : Has w1 wr.heap.size 33 #[.int .i64 d, .int .i64 f, .int .i64 c] := grown_has (hVx.alloc _) gr6 (fun e => by have := (L6.out _ e).2; omega))
               (obtain ⟨e0, e1, e2⟩ := three hx1)
               (have p5 := ownR_grown (ownR_below o5 ((Below.refl _ V).alloc (Nat.le_refl _) (.cells #[.int .i64 d, .int .i64 f, .int .i64 c] 33)) (fun g hg => (o5.lt g hg).2)) gr6 (fun g hg => HD.out g hg))
               (have hws : V.heap.size + 1 ≤ w1.heap.size := by have := gr6.size; simpa using this))
            | ((at_builtin)
               (refine at_dst 75 rfl ?_)
               (refine wpList_append_r3 rfl _ _ rfl w.heap.size _ k (mv F (B : Int)) rfl p5 _ _ _ rfl (by rw [HF.out _ HK.out]) (by rw [HF.out _ HK.out]) (by rw [HF.out _ HK.out]) (by omega) (by omega) ?_)
               (intro g5 cap5 w2 own5' gr5 hg5 hlt5)))
          have hne : ∀ g, u5.ownBlock = some g → g ≠ g6 := fun g hg e => by
            subst e
            rcases hg6 with h | h
            · exact HD.out _ hg h
            · have := (L5.out _ hg).2; omega
          go_roundw
          case rel =>
            have q6 := ownR_grown (ownR_below own6' ((Below.refl _ w1).alloc (Nat.le_refl _) (.cells #[.int .i64 (3 * d + 1), .int .i64 (f + (B : Int)), .int .i64 c] 33)) (fun g hg => (own6'.lt g hg).2)) gr5 (fun g hg e => hne g e (by cases hg; rfl))
            have hB1 : Below w.heap.size w w1 := ((hb.trans (hbV.mono hb.size)).alloc (by omega) (.cells #[.int .i64 d, .int .i64 f, .int .i64 c] 33)).grown gr6 (by simp; omega) (fun k' h => (L6.out k' h).1)
            refine ⟨k + 1, by omega, by omega, by go_num, q6, own5', ?_, (hB1.alloc (by omega) (.cells #[.int .i64 (3 * d + 1), .int .i64 (f + (B : Int)), .int .i64 c] 33)).grown gr5 (by simp; omega) (fun k' h => (L5.out k' h).1), ?_⟩
            · exact (fun g hg h => by
                cases hg
                cases h
                rcases hg5 with h | h
                · exact hne _ h rfl
                · omega : ∀ g, Value.ownBlock (.slice (some ⟨g5, 0, none⟩) (k + 1) cap5) = some g → Value.ownBlock (.slice (some ⟨g6, 0, none⟩) (k + 1) cap6) ≠ some g)
            · exact (fun i hi => by
                by_cases e : i < k
                · exact HG.out i e
                · obtain rfl : i = k := by omega
                  exact HGk.out : ∀ i, i < k + 1 → Good (F i))
          case measure => simp [intOf]; omega
        all_goals
          go_wp2_with (first
            | ((go_at_call 14)
               (refine (alive_c _).mono ?_)
               (rintro x w7 ⟨rfl, g7⟩)))
          go_ret
          exact ⟨rfl, (hb.alloc hb.size _).trans (g7.mono (by simp; have := hb.size; omega))⟩
      · clear hl
        obtain ⟨a6, cap6, rfl, m6, n6, rng6⟩ := own_rng own6
        obtain ⟨a5, cap5, rfl, m5, n5, rng5⟩ := own_rng own5
        unfold maxLen at n6 n5
        have HO : Hid (Calls Try.prog 15 #[.slice a6 k cap6] wr fun e w' => ∃ i j : Int, e = .returned (.tuple #[.int .i64 i, .int .i64 j]) ∧ Ov k (SS F) i j ∧ Below wr.heap.size wr w') := Overlap_c a6 k cap6 F wr (by omega) m6 (by omega) rng6
        have HR : Hid (∀ W, Below wr.heap.size wr W → Calls Try.prog 15 #[.slice a5 k cap5] W fun e w' => ∃ i j : Int, e = .returned (.tuple #[.int .i64 i, .int .i64 j]) ∧ Ov k (SS (mv F (B : Int))) i j ∧ Below W.heap.size W w') := fun W hW => Overlap_c a5 k cap5 (mv F (B : Int)) W (by omega) m5 (by omega) (rng5.below hW (Nat.le_refl _))
        clear own6 own5 HD rng6 rng5 m6 m5 n6 n5
        by_cases hx : k < len
        all_goals
          go_wp2_with (first
            | ((go_at_call 15)
               (refine at_world wr ?_)
               (refine HO.out.mono ?_)
               (rintro e w1 ⟨i, j, rfl, g1, b1⟩))
            | ((go_at_call 15)
               (refine (HR.out w1 b1).mono ?_)
               (rintro e w2 ⟨p, q, rfl, g2, b2'⟩)
               (obtain ⟨rfl, rfl⟩ := g1.eq g2 (fun y hy x hx => share_mv F _ (by omega) (by omega) x y (HG.out x (by omega)) (HG.out y hy)))
               (have hij : i ≤ j := by have := g1.less; omega)
               (have hj1 : -1 ≤ j := g1.less.1)
               (have hj2 : j < 60 := by have := g1.less; omega))
            | ((go_at_call 14)
               (refine (alive_c _).mono ?_)
               (rintro x w7 ⟨rfl, g7⟩)))
          all_goals go_ret
          all_goals
            refine ⟨?_, hb.trans ((b2 (b2 b1 b2') g7).mono hb.size)⟩
            first
              | rfl
              | (show Ending.returned (.bool (decide _)) = _
                 rw [decide_eq_true (by omega)])
  · have h3 : 0 ≤ n := by omega
    have h4 := decide_eq_false h0
    clear h0
    obtain ⟨B, hN', hN⟩ : ∃ N : Nat, n % 1000 = (N : Int) ∧ N < 1000 := ⟨(n % 1000).toNat, by omega, by omega⟩
    have HM : Hid (n % 1000 = (B : Int)) := hN'
    clear hN'
    go_enter Try.func7, Try.ntmps7
    go_wp2
    rw [HM.out]
    go_loopw [5, 6, 7] (fun v5 v6 i wr => ∃ k : Nat, k ≤ 60 ∧ k ≤ len ∧ i = .int .i64 k ∧ wr.ownsRow w.heap.size 33 3 v6 k (rl F k) ∧ wr.ownsRow w.heap.size 33 3 v5 k (rl (mv F (B : Int)) k) ∧ Hid (∀ g, v5.ownBlock = some g → v6.ownBlock ≠ some g) ∧ Below w.heap.size w wr ∧ Hid (∀ i, i < k → Good (F i)))
      (fun _ _ i _ => 61 - (intOf i).toNat)
    case atStart =>
      refine ⟨0, by omega, by omega, rfl, World.ownsRow_nil _ _ _ _, World.ownsRow_nil _ _ _ _, ?_, Below.refl _ _, (fun i hi => absurd hi (Nat.not_lt_zero _) : ∀ i, i < 0 → Good (F i))⟩
      exact ((fun g (hg : none = some g) => nomatch hg) : ∀ g, Value.ownBlock (.slice none 0 0) = some g → Value.ownBlock (.slice none 0 0) ≠ some g)
    case round =>
      obtain ⟨k, hk6, hkl, rfl, own6, own5, HD, hb, HG⟩ := hrel
      by_cases hlt : k < len ∧ k < 60
      · obtain ⟨hlt1, hlt2⟩ := hlt
        obtain ⟨b, off, rfl, hbl, c0, c1, c2⟩ := (hl.below hb (Nat.le_refl _)).at k hlt1
        have HF : Hid (∀ r : R3, F k = r → (mv F (B : Int)) k = ⟨3 * r.d + 1, r.f + (B : Int), r.c⟩) := (fun r h => by subst h; rfl : ∀ r : R3, F k = r → (mv F (B : Int)) k = ⟨3 * r.d + 1, r.f + (B : Int), r.c⟩)
        generalize hFk : F k = q at c0 c1 c2
        have HK : Hid (F k = q) := hFk
        clear hFk
        obtain ⟨d, f, c⟩ := q
        simp only at c0 c1 c2
        rcases (by omega : f < 0 ∨ (0 ≤ f ∧ 1048576 < f) ∨ (0 ≤ f ∧ f ≤ 1048576 ∧ 1048576 < c) ∨ (0 ≤ f ∧ f ≤ 1048576 ∧ c ≤ 1048576 ∧ 1099511627776 < d) ∨ (0 ≤ f ∧ f ≤ 1048576 ∧ c ≤ 1048576 ∧ d ≤ 1099511627776 ∧ d < -1099511627776) ∨ (0 ≤ f ∧ f ≤ 1048576 ∧ c ≤ 1048576 ∧ d ≤ 1099511627776 ∧ -1099511627776 ≤ d)) with x1 | ⟨x1, x2⟩ | ⟨x1, x2, x3⟩ | ⟨x1, x2, x3, x4⟩ | ⟨x1, x2, x3, x4, x5⟩ | ⟨x1, x2, x3, x4, x5⟩
        case inr.inr.inr.inr.inr =>
          have HGk : Hid (Good (F k)) := (by rw [HK.out]; exact ⟨x1, x2, x3, x4, x5⟩ : Good (F k))
          obtain ⟨V, hV⟩ : ∃ V, V = wr.alloc (.cells #[.int .i64 d, .int .i64 f, .int .i64 c] 33) := ⟨_, rfl⟩
          have hbV : Below wr.heap.size wr V := by rw [hV]; exact (Below.refl _ wr).alloc (Nat.le_refl _) _
          have hVs : V.heap.size = wr.heap.size + 1 := by rw [hV]; simp
          have hVx : Has V wr.heap.size 33 #[.int .i64 d, .int .i64 f, .int .i64 c] := by rw [hV]; exact Has.new _ _ _
          have o6 := ownR_below own6 hbV (fun g hg => (own6.lt g hg).2)
          have o5 := ownR_below own5 hbV (fun g hg => (own5.lt g hg).2)
          have L6 : Hid _ := own6.lt
          have L5 : Hid _ := own5.lt
          have hbs := hb.size
          go_wp2_with (first
            | ((at_builtin)
               (refine at_dst 61 rfl ?_)
               (rw [← hV])
               (refine wpList_append_r3 rfl _ _ rfl w.heap.size _ k F rfl o6 d f c (by rw [hVs]; rfl) (by rw [HK.out]) (by rw [HK.out]) (by rw [HK.out]) (by omega) (by omega) ?_)
               (intro g6 cap6 w1 own6' gr6 hg6 hlt6)
               (have hx1 : Has w1 wr.heap.size 33 #[.int .i64 d, .int .i64 f, .int .i64 c] := grown_has (hVx.alloc _) gr6 (fun e => by have := (L6.out _ e).2; omega))
               (obtain ⟨e0, e1, e2⟩ := three hx1)
               (have p5 := ownR_grown (ownR_below o5 ((Below.refl _ V).alloc (Nat.le_refl _) (.cells #[.int .i64 d, .int .i64 f, .int .i64 c] 33)) (fun g hg => (o5.lt g hg).2)) gr6 (fun g hg => HD.out g hg))
               (have hws : V.heap.size + 1 ≤ w1.heap.size := by have := gr6.size; simpa using this))
            | ((at_builtin)
               (refine at_dst 75 rfl ?_)
               (refine wpList_append_r3 rfl _ _ rfl w.heap.size _ k (mv F (B : Int)) rfl p5 _ _ _ rfl (by rw [HF.out _ HK.out]) (by rw [HF.out _ HK.out]) (by rw [HF.out _ HK.out]) (by omega) (by omega) ?_)
               (intro g5 cap5 w2 own5' gr5 hg5 hlt5)))
          have hne : ∀ g, u5.ownBlock = some g → g ≠ g6 := fun g hg e => by
            subst e
            rcases hg6 with h | h
            · exact HD.out _ hg h
            · have := (L5.out _ hg).2; omega
          go_roundw
          case rel =>
            have q6 := ownR_grown (ownR_below own6' ((Below.refl _ w1).alloc (Nat.le_refl _) (.cells #[.int .i64 (3 * d + 1), .int .i64 (f + (B : Int)), .int .i64 c] 33)) (fun g hg => (own6'.lt g hg).2)) gr5 (fun g hg e => hne g e (by cases hg; rfl))
            have hB1 : Below w.heap.size w w1 := ((hb.trans (hbV.mono hb.size)).alloc (by omega) (.cells #[.int .i64 d, .int .i64 f, .int .i64 c] 33)).grown gr6 (by simp; omega) (fun k' h => (L6.out k' h).1)
            refine ⟨k + 1, by omega, by omega, by go_num, q6, own5', ?_, (hB1.alloc (by omega) (.cells #[.int .i64 (3 * d + 1), .int .i64 (f + (B : Int)), .int .i64 c] 33)).grown gr5 (by simp; omega) (fun k' h => (L5.out k' h).1), ?_⟩
            · exact (fun g hg h => by
                cases hg
                cases h
                rcases hg5 with h | h
                · exact hne _ h rfl
                · omega : ∀ g, Value.ownBlock (.slice (some ⟨g5, 0, none⟩) (k + 1) cap5) = some g → Value.ownBlock (.slice (some ⟨g6, 0, none⟩) (k + 1) cap6) ≠ some g)
            · exact (fun i hi => by
                by_cases e : i < k
                · exact HG.out i e
                · obtain rfl : i = k := by omega
                  exact HGk.out : ∀ i, i < k + 1 → Good (F i))
          case measure => simp [intOf]; omega
        all_goals
          go_wp2_with (first
            | ((go_at_call 14)
               (refine (alive_c _).mono ?_)
               (rintro x w7 ⟨rfl, g7⟩)))
          go_ret
          exact ⟨rfl, (hb.alloc hb.size _).trans (g7.mono (by simp; have := hb.size; omega))⟩
      · clear hl
        obtain ⟨a6, cap6, rfl, m6, n6, rng6⟩ := own_rng own6
        obtain ⟨a5, cap5, rfl, m5, n5, rng5⟩ := own_rng own5
        unfold maxLen at n6 n5
        have HO : Hid (Calls Try.prog 15 #[.slice a6 k cap6] wr fun e w' => ∃ i j : Int, e = .returned (.tuple #[.int .i64 i, .int .i64 j]) ∧ Ov k (SS F) i j ∧ Below wr.heap.size wr w') := Overlap_c a6 k cap6 F wr (by omega) m6 (by omega) rng6
        have HR : Hid (∀ W, Below wr.heap.size wr W → Calls Try.prog 15 #[.slice a5 k cap5] W fun e w' => ∃ i j : Int, e = .returned (.tuple #[.int .i64 i, .int .i64 j]) ∧ Ov k (SS (mv F (B : Int))) i j ∧ Below W.heap.size W w') := fun W hW => Overlap_c a5 k cap5 (mv F (B : Int)) W (by omega) m5 (by omega) (rng5.below hW (Nat.le_refl _))
        clear own6 own5 HD rng6 rng5 m6 m5 n6 n5
        by_cases hx : k < len
        all_goals
          go_wp2_with (first
            | ((go_at_call 15)
               (refine at_world wr ?_)
               (refine HO.out.mono ?_)
               (rintro e w1 ⟨i, j, rfl, g1, b1⟩))
            | ((go_at_call 15)
               (refine (HR.out w1 b1).mono ?_)
               (rintro e w2 ⟨p, q, rfl, g2, b2'⟩)
               (obtain ⟨rfl, rfl⟩ := g1.eq g2 (fun y hy x hx => share_mv F _ (by omega) (by omega) x y (HG.out x (by omega)) (HG.out y hy)))
               (have hij : i ≤ j := by have := g1.less; omega)
               (have hj1 : -1 ≤ j := g1.less.1)
               (have hj2 : j < 60 := by have := g1.less; omega))
            | ((go_at_call 14)
               (refine (alive_c _).mono ?_)
               (rintro x w7 ⟨rfl, g7⟩)))
          all_goals go_ret
          all_goals
            refine ⟨?_, hb.trans ((b2 (b2 b1 b2') g7).mono hb.size)⟩
            first
              | rfl
              | (show Ending.returned (.bool (decide _)) = _
                 rw [decide_eq_true (by omega)])
end Go.Proofs.Ytacllicemnmpmaa
