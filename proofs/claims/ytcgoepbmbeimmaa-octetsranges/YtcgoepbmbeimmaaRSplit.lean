/- The document's own Split and Fits for every three ints. -/
import Derived.Test.YtcgoepbmbeimmaaSplitAny
import Derived.Deep.RegionHeld3
import Derived.WalkSmall
namespace Go.Proofs.Ytcgoepbmbeimmaa
open Go.ChangeShapes Go.WideShapes Go.ChangeAt Go.RowKit

theorem rfits_any (a n s : Int) (w : World) (ha : I64 a) (hn : I64 n) (hs : I64 s) :
    Calls Try.prog 20 #[.int .i64 a, .int .i64 n, .int .i64 s] w fun e w' => e = .returned (.bool (fitsB a n s)) ∧ w' = w := by
  unfold I64 at ha hn hs
  by_cases h1 : 0 ≤ a
  · by_cases h2 : 0 ≤ n
    · by_cases h3 : a ≤ s
      · by_cases h4 : n ≤ s - a
        · have hf : fitsB a n s = true := by unfold fitsB; simp; omega
          rw [hf]
          go_enter Try.func20, Try.ntmps20
          go_wp2
          go_ret
          exact ⟨rfl, rfl⟩
        · have hf : fitsB a n s = false := by unfold fitsB; simp; omega
          rw [hf]
          go_enter Try.func20, Try.ntmps20
          go_wp2
          go_ret
          exact ⟨rfl, rfl⟩
      · have hf : fitsB a n s = false := by unfold fitsB; simp; omega
        rw [hf]
        go_enter Try.func20, Try.ntmps20
        go_wp2
        go_ret
        exact ⟨rfl, rfl⟩
    · have hf : fitsB a n s = false := by unfold fitsB; simp; omega
      rw [hf]
      go_enter Try.func20, Try.ntmps20
      go_wp2
      go_ret
      exact ⟨rfl, rfl⟩
  · have hf : fitsB a n s = false := by unfold fitsB; simp; omega
    rw [hf]
    go_enter Try.func20, Try.ntmps20
    go_wp2
    go_ret
    exact ⟨rfl, rfl⟩

theorem rsplit_err (a n t : Int) (w : World) (ha : I64 a) (hn : I64 n) (h : ¬ Dom a n t) :
    Calls Try.prog 18 #[.int .i64 a, .int .i64 n, .int .i64 t] w fun e w' => e = .returned (.slice none 0 0) ∧ w' = w := by
  unfold I64 at ha hn
  unfold Dom at h
  by_cases c1 : a < 0
  · clear h
    go_enter Try.func18, Try.ntmps18
    go_wp2
    go_ret
    exact ⟨rfl, rfl⟩
  · by_cases c2 : n < 0
    · clear h
      go_enter Try.func18, Try.ntmps18
      go_wp2
      go_ret
      exact ⟨rfl, rfl⟩
    · by_cases c3 : t < 1
      · clear h
        go_enter Try.func18, Try.ntmps18
        go_wp2
        go_ret
        exact ⟨rfl, rfl⟩
      · by_cases c4 : 65536 < n
        · clear h
          go_enter Try.func18, Try.ntmps18
          go_wp2
          go_ret
          exact ⟨rfl, rfl⟩
        · have c5 : 2147483647 - n < a := by omega
          clear h
          go_enter Try.func18, Try.ntmps18
          go_wp2
          go_ret
          exact ⟨rfl, rfl⟩

theorem last_cell {w : World} {base e g cp : Nat} {q : List (Nat × Nat)} {x c : Nat} (h : w.ownsRow base e 2 (.slice (some ⟨g, 0, none⟩) (q.length + 1) cp) (q.length + 1) (pairs (q ++ [(x, c)]))) :
    w.cell? ⟨g, q.length * 2 + 1, none⟩ = some (.int .i64 (c : Int)) := by
  rw [h.cellAt (q.length * 2 + 1) (by omega)]
  exact (pairs_at _ q.length (x, c) (by simp)).2

theorem last_set {w : World} {base e g cp : Nat} {q : List (Nat × Nat)} {x c : Nat} (h : w.ownsRow base e 2 (.slice (some ⟨g, 0, none⟩) (q.length + 1) cp) (q.length + 1) (pairs (q ++ [(x, c)]))) (d : Nat) :
    (w.setCell ⟨g, q.length * 2 + 1, none⟩ (.int .i64 (d : Int))).ownsRow base e 2 (.slice (some ⟨g, 0, none⟩) (q.length + 1) cp) (q.length + 1) (pairs (q ++ [(x, d)])) := by
  have := (h.stored (q.length * 2 + 1) (.int .i64 (d : Int))).1
  rw [pairs_append, List.set_append_right _ _ (by rw [pairs_len]; omega), pairs_len] at this
  rw [pairs_append]
  rw [show q.length * 2 + 1 - q.length * 2 = 1 from by omega] at this
  exact this

set_option maxRecDepth 100000 in
set_option maxHeartbeats 1600000 in
theorem rsplit_ok (a n t : Nat) (w : World) (ht : 1 ≤ t) (ht2 : t ≤ 9223372036854775807) (hn : n ≤ 65536) (han : a + n ≤ 2147483647) :
    Calls Try.prog 18 #[.int .i64 a, .int .i64 n, .int .i64 t] w fun e w' => ∃ v, e = .returned v ∧
      w'.ownsRow w.heap.size 35 2 v (parts t a n).length (pairs (parts t a n)) ∧ Below w.heap.size w w' := by
  obtain ⟨i0, hi, hz0, hz1, hz2⟩ := info_parts Try.infoPair
  go_enter Try.func18, Try.ntmps18
  go_wp2
  go_loopw [7, 8] (fun v i wr => ∃ (m : Nat) (ps : List (Nat × Nat)), m ≤ n ∧ i = .int .i64 ((a : Int) + (m : Int)) ∧ Hid (ps = parts t a m) ∧ ps.length ≤ m ∧ wr.ownsRow w.heap.size 35 2 v ps.length (pairs ps) ∧ Below w.heap.size w wr)
    (fun _ i _ => (a + n : Nat) - (intOf i).toNat)
  case atStart => exact ⟨0, [], Nat.zero_le _, by go_num, (parts_zero t a).symm, by simp, World.ownsRow_nil _ _ _ _, Below.refl _ _⟩
  case round =>
    obtain ⟨m, ps, hm, rfl, hps, hl, hown, hbel⟩ := hrel
    by_cases hlt : m < n
    · by_cases hc : m = 0 ∨ (a + m) % t = 0
      · have hnew := parts_new t ht m a hc
        rw [← hps.out] at hnew
        have HN : Hid (parts t a (m + 1) = ps ++ [(a + m, 1)]) := hnew
        clear hnew
        by_cases h0 : m = 0
        · subst h0
          go_wp2_with (at_builtin; refine wpList_append_lies _ rfl _ _ 33 rfl w.heap.size 35 i0 _ 2 16 Try.underlying33 hi hz0 hz1 hz2 rfl (by decide) _ ps.length _ rfl (hown.alloc _) ⟨wr.heap.size, 0, none⟩ 1 1 [.int .i64 a, .int .i64 0] rfl rfl (World.news_of_block (cs := #[.int .i64 a, .int .i64 0]) (t := 35) (fr := (0, 0)) (heap_alloc_new wr _)) (by simp [Value.oneCell']) (by decide) (by unfold maxLen; omega) (by omega) (by simp only [World.size_alloc]; exact Nat.le_succ_of_le hbel.size) _ rfl ?_; intro g cp w2 own2 gr2 _ hg2)
          have hb2 : Below w.heap.size w w2 := (hbel.alloc hbel.size _).grown gr2 (by simp only [World.size_alloc]; exact Nat.le_succ_of_le hbel.size) (fun k' h => (hown.lt k' h).1)
          have own3 : w2.ownsRow w.heap.size 35 2 (.slice (some ⟨g, 0, none⟩) (ps.length + 1) cp) (ps.length + 1) (pairs (ps ++ [(a, 0)])) := by rw [pairs_append]; exact own2
          have q1 := last_cell own3
          have q2 := own3.frozenAt (ps.length * 2 + 1)
          clear hown gr2 hbel hi hz0 hz1 hz2 own2
          go_region
          all_goals go_wp2
          go_roundw
          case rel => exact ⟨1, ps ++ [(a, 1)], by omega, by go_num, HN.out.symm, by rw [List.length_append]; simp only [List.length_cons, List.length_nil]; omega, by rw [List.length_append]; exact (last_set own3 1).drew, (hb2.setCell (by have := (own3.lt g rfl).1; exact this) _).drew⟩
          case measure => simp [intOf]; omega
        · have hc' : (a + m) % t = 0 := by omega
          have e1 : ((a : Int) + (m : Int) == (a : Int)) = false := by simp; omega
          have e2 : (((a : Int) + (m : Int)) % (t : Int) == 0) = true := by
            have : ((a : Int) + (m : Int)) % (t : Int) = (((a + m) % t : Nat) : Int) := by rw [Int.natCast_emod, Int.natCast_add]
            rw [this, hc']
            rfl
          clear hc hc'
          go_wp2_with (at_builtin; refine wpList_append_lies _ rfl _ _ 33 rfl w.heap.size 35 i0 _ 2 16 Try.underlying33 hi hz0 hz1 hz2 rfl (by decide) _ ps.length _ rfl (hown.alloc _) ⟨wr.heap.size, 0, none⟩ 1 1 [.int .i64 ((a : Int) + (m : Int)), .int .i64 0] rfl rfl (World.news_of_block (cs := #[.int .i64 ((a : Int) + (m : Int)), .int .i64 0]) (t := 35) (fr := (0, 0)) (heap_alloc_new wr _)) (by simp [Value.oneCell']) (by decide) (by unfold maxLen; omega) (by omega) (by simp only [World.size_alloc]; exact Nat.le_succ_of_le hbel.size) _ rfl ?_; intro g cp w2 own2 gr2 _ hg2)
          have hb2 : Below w.heap.size w w2 := (hbel.alloc hbel.size _).grown gr2 (by simp only [World.size_alloc]; exact Nat.le_succ_of_le hbel.size) (fun k' h => (hown.lt k' h).1)
          have own3 : w2.ownsRow w.heap.size 35 2 (.slice (some ⟨g, 0, none⟩) (ps.length + 1) cp) (ps.length + 1) (pairs (ps ++ [(a + m, 0)])) := by rw [pairs_append]; simpa [pairs] using own2
          have q1 := last_cell own3
          have q2 := own3.frozenAt (ps.length * 2 + 1)
          clear hown gr2 hbel hi hz0 hz1 hz2 own2
          go_region
          all_goals go_wp2
          go_roundw
          case rel => exact ⟨m + 1, ps ++ [(a + m, 1)], by omega, by go_num, HN.out.symm, by rw [List.length_append]; simp only [List.length_cons, List.length_nil]; omega, by rw [List.length_append]; exact (last_set own3 1).drew, (hb2.setCell (by have := (own3.lt g rfl).1; exact this) _).drew⟩
          case measure => simp [intOf]; omega
      · have hm1 : 1 ≤ m := by omega
        have hc' : (a + m) % t ≠ 0 := by omega
        obtain ⟨q, x, c, g1, g2⟩ := parts_more t ht m a hm1 hc'
        have g3 : ps = q ++ [(x, c)] := by rw [hps.out]; exact g1
        have hcm : c ≤ m := by
          have := (parts_once t ht m a (x, c) (by rw [g1]; simp)).2.2.1
          have := (parts_once t ht m a (x, c) (by rw [g1]; simp)).1
          simp only [] at *
          omega
        have HN : Hid (parts t a (m + 1) = q ++ [(x, c + 1)]) := g2
        clear g1 g2 hps
        subst g3
        rw [List.length_append] at hown
        obtain ⟨g, cp, hv, _, _⟩ := hown.form (by simp)
        subst hv
        have own3 : wr.ownsRow w.heap.size 35 2 (.slice (some ⟨g, 0, none⟩) (q.length + 1) cp) (q.length + 1) (pairs (q ++ [(x, c)])) := hown
        have q1 := last_cell own3
        have q2 := own3.frozenAt (q.length * 2 + 1)
        have hql : q.length + 1 ≤ m := by simpa using hl
        have e1 : ((a : Int) + (m : Int) == (a : Int)) = false := by simp; omega
        have e2 : (((a : Int) + (m : Int)) % (t : Int) == 0) = false := by
          have : ((a : Int) + (m : Int)) % (t : Int) = (((a + m) % t : Nat) : Int) := by rw [Int.natCast_emod, Int.natCast_add]
          rw [this]
          simp
          omega
        clear hc hc' hown hi hz0 hz1 hz2 hl
        go_wp2_with fail
        go_region
        all_goals go_wp2
        go_roundw
        case rel => exact ⟨m + 1, q ++ [(x, c + 1)], by omega, by go_num, HN.out.symm, by rw [List.length_append]; simp only [List.length_cons, List.length_nil]; omega, by rw [List.length_append]; exact (last_set own3 (c + 1)).drew, (hbel.setCell (by have := (own3.lt g rfl).1; exact this) _).drew⟩
        case measure => simp [intOf]; omega
    · obtain rfl : m = n := by omega
      have HP := hps
      clear hps hi hz0 hz1 hz2
      go_wp2
      go_ret
      refine ⟨_, rfl, ?_, hbel⟩
      rw [← HP.out]
      exact hown

theorem rsplit_any (a n t : Int) (w : World) (ha : I64 a) (hn : I64 n) (ht : I64 t) :
    Calls Try.prog 18 #[.int .i64 a, .int .i64 n, .int .i64 t] w fun e w' => ∃ ao c, e = .returned (.slice ao (cut a n t).length c) ∧ PairRow w' ao (cut a n t) ∧ Below w.heap.size w w' := by
  by_cases h : Dom a n t
  · have hc : cut a n t = parts t.toNat a.toNat n.toNat := by unfold cut; rw [if_pos h]
    rw [hc]
    unfold Dom at h
    unfold I64 at ht
    have := rsplit_ok a.toNat n.toNat t.toNat w (by omega) (by omega) (by omega) (by omega)
    rw [Int.toNat_of_nonneg h.1, Int.toNat_of_nonneg h.2.1, Int.toNat_of_nonneg (show 0 ≤ t by omega)] at this
    refine this.mono ?_
    rintro e w' ⟨v, rfl, ho, hb⟩
    obtain ⟨ao, c, rfl, hp⟩ := pairRow_of ho
    exact ⟨ao, c, rfl, hp, hb⟩
  · have hc : cut a n t = [] := by unfold cut; rw [if_neg h]
    rw [hc]
    refine (rsplit_err a n t w ha hn h).mono ?_
    rintro e w' ⟨rfl, rfl⟩
    exact ⟨none, 0, rfl, fun i p hp => by simp at hp, Below.refl _ _⟩

end Go.Proofs.Ytcgoepbmbeimmaa
