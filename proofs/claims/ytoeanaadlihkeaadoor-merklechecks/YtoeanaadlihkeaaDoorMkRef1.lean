/- The document's Levels. -/
import Derived.Test.YtoeanaadlihkeaaDoorMkApp
namespace Go.Proofs.YtoeanaadlihkeaaDoor
open Go.ChangeShapes Go.WideShapes Go.ChangeAt Go.RowKit
set_option linter.unusedVariables false

set_option maxRecDepth 100000 in
set_option maxHeartbeats 1600000 in
theorem rlevels_in (N : Nat) (w : World) (h1 : 1 ≤ N) (h2 : N ≤ 2048) : Calls Tryd.prog 10 #[.int .i64 (N : Nat)] w fun e w' =>
    ∃ v, e = .returned v ∧ w'.ownsRow w.heap.size 3 1 v (dep N) (il (fun k => lv N (k + 1)) (dep N)) ∧ Below w.heap.size w w' := by
  obtain ⟨f, hf⟩ : ∃ f : Nat → Nat, f = fun k => lv N (k + 1) := ⟨_, rfl⟩
  rw [← hf]
  have HF : Hid (f = fun k => lv N (k + 1)) := hf
  clear hf
  have hNd : Hid (dep N ≤ 11) := dep_11 N h2
  go_enter Tryd.func10, Tryd.ntmps10
  go_wp2
  go_loopw [0, 3] (fun x v wr => ∃ k : Nat, k ≤ dep N ∧ x = .int .i64 (lv N k : Nat) ∧ wr.ownsRow w.heap.size 3 1 v k (il f k) ∧ Below w.heap.size w wr)
    (fun _ v _ => dep N - lenOf v)
  case atStart => exact ⟨0, Nat.zero_le _, rfl, World.ownsRow_nil _ _ _ _, Below.refl _ _⟩
  case round =>
    obtain ⟨k, hk, rfl, own, hbel⟩ := hrel
    obtain ⟨va, vc, rfl, hvc, _, _⟩ := own_ints own
    have hk11 : k ≤ 11 := Nat.le_trans hk hNd.out
    have hy1 := lv_pos N k h1
    have hy2 := Nat.le_trans (lv_le N k h1) h2
    by_cases hlt : k < dep N
    · have hstep : f k = (lv N k + 1) / 2 := by rw [HF.out]; rfl
      have hc : k = 0 ∨ 2 ≤ lv N k := by
        by_cases h0 : k = 0
        · exact .inl h0
        · exact .inr (lv_two N k (by omega) hlt)
      have hnx : lv N (k + 1) = f k := by rw [HF.out]
      have HX : Hid (k < dep N ∧ lv N (k + 1) = f k) := ⟨hlt, hnx⟩
      generalize lv N k = y at *
      have hfk : f k ≤ 2048 := by omega
      have hz : Hid (((y : Int) + 1) / 2 = ((f k : Nat) : Int)) := (by omega : ((y : Int) + 1) / 2 = ((f k : Nat) : Int))
      have HK : Hid (f k = (y + 1) / 2) := hstep
      clear hstep hlt hnx hk
      by_cases hy : y = 1
      · obtain rfl : k = 0 := by omega
        subst hy
        clear hc hvc
        have hf0 : Hid ((1 : Int) = ((f 0 : Nat) : Int)) := (by have := HK.out; omega : (1 : Int) = ((f 0 : Nat) : Int))
        clear HK hz
        go_wp2_with (first
          | ((at_builtin)
             (refine wpList_append_int rfl _ _ rfl w.heap.size _ 0 f rfl own _ rfl hf0.out (by omega) hbel.size ?_)
             (intro g cap w2 own2 gr2 _ _)))
        go_roundw
        case rel => exact ⟨1, HX.out.1, by rw [HX.out.2]; exact congrArg _ hf0.out, own2, (hbel.alloc hbel.size _).grown gr2 (by simp; have := hbel.size; omega) (fun k' h => (own.lt k' h).1)⟩
        case measure => have := HX.out.1; simp [lenOf]; omega
      · have hyi : ¬ ((y : Int) = 1) := by omega
        clear hc HK
        go_wp2_with (first
          | ((at_builtin)
             (refine wpList_append_int rfl _ _ rfl w.heap.size _ k f rfl own _ rfl hz.out (by omega) hbel.size ?_)
             (intro g cap w2 own2 gr2 _ _)))
        go_roundw
        case rel => exact ⟨k + 1, HX.out.1, by rw [HX.out.2]; exact congrArg _ hz.out, own2, (hbel.alloc hbel.size _).grown gr2 (by simp; have := hbel.size; omega) (fun k' h => (own.lt k' h).1)⟩
        case measure => have := HX.out.1; simp [lenOf]; omega
    · obtain rfl : k = dep N := by omega
      have hd := lv_dep N h1
      have hp := dep_pos N
      have hp1 : ¬ ((dep N : Int) = 0) := by omega
      rw [hd]
      go_wp2
      go_ret
      exact ⟨_, rfl, own, hbel⟩

theorem rlevels_out (n : Int) (w : World) (h : ¬ (1 ≤ n ∧ n ≤ 2048)) : Calls Tryd.prog 10 #[.int .i64 n] w fun e w' => e = .returned (.slice none 0 0) ∧ w' = w := by
  go_enter Tryd.func10, Tryd.ntmps10
  by_cases h1 : n < 1
  · go_wp2
    exact bodyPost_ret (results_tmp rfl _ _ _) rfl ⟨rfl, rfl⟩
  · have h2 : 2048 < n := by omega
    go_wp2
    exact bodyPost_ret (results_tmp rfl _ _ _) rfl ⟨rfl, rfl⟩

theorem rlevels_any : LevelsOk 10 := by
  intro n w hn
  by_cases h : 1 ≤ n ∧ n ≤ 2048
  · obtain ⟨N, rfl⟩ : ∃ N : Nat, n = N := ⟨n.toNat, by omega⟩
    rw [levN_in h]
    refine (rlevels_in N w (by omega) (by omega)).mono ?_
    rintro e w' ⟨v, rfl, own, hb⟩
    obtain ⟨a, c, rfl, h1, h2, h3⟩ := own_ints own
    exact ⟨a, c, rfl, h1, h2, h3, hb⟩
  · rw [levN_out h]
    refine (rlevels_out n w h).mono ?_
    rintro e w' ⟨rfl, rfl⟩
    exact ⟨none, 0, rfl, Nat.le_refl _, fun _ => ⟨rfl, rfl⟩, .inl rfl, Below.refl _ _⟩
end Go.Proofs.YtoeanaadlihkeaaDoor
