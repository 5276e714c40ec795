/- The program's grouped. -/
import Derived.Test.YtbiicdehgogikaaCdMath
namespace Go.Proofs.Ytbiicdehgogikaa
open Go.ChangeShapes Go.WideShapes Go.ChangeAt Go.RowKit
set_option linter.unusedVariables false

set_option maxRecDepth 100000 in
set_option maxHeartbeats 2000000 in
theorem grouped_any (n cap : Nat) (V : Nat → WV) (a : Option Addr) (w : World) (h : Wl w a n V) :
    Calls Try.prog 26 #[.slice a n cap] w fun e w' => Below w.heap.size w w' ∧ ((okG n V ∧ ∃ v, e = .returned v ∧ w'.ownsRow w.heap.size 5 1 v (2 + 69 * n) (bl (gb n V) (2 + 69 * n))) ∨ (¬ okG n V ∧ e = .panicked ngp)) := by
  have hmax := h.1
  unfold maxLen at hmax
  by_cases hn : n ≤ 100
  · have hp := cput_ok n 2 101 w (by decide) (by decide) (by omega) (by omega) (hold_2 n (by omega))
    have HN : Hid (n ≤ 100) := hn
    go_enter Try.func26, Try.ntmps26
    go_wp2_with (first
      | ((go_at_call 37)
         (refine hp.mono ?_)
         (rintro e w1 ⟨rfl, ho, hb⟩)
         (clear hp)))
    rw [bl_congr _ _ _ (gb_cnt n V)] at ho
    have ho' := own_mono ho (show w.heap.size ≤ w.heap.size + 2 by omega)
    clear ho
    go_loopw [3, 11] (fun b i wr => ∃ k : Nat, k ≤ n ∧ i = .int .i64 (k : Nat) ∧ wr.ownsRow w.heap.size 5 1 b (2 + 69 * k) (bl (gb n V) (2 + 69 * k)) ∧ Below w.heap.size w wr ∧ ∀ j, j < k → okW (V j))
      (fun _ i _ => n - (intOf i).toNat)
    case atStart => exact ⟨0, Nat.zero_le _, rfl, ho', hb, fun j hj => by omega⟩
    case round =>
      clear ho' hb
      obtain ⟨k, hk, rfl, hown, hbel, hall⟩ := hrel
      by_cases hlt : k < n
      · obtain ⟨x, o, ha, hx, hin0⟩ := h.2 k hlt
        have hin := hin0.below hx hbel (Nat.le_refl _)
        subst ha
        have i0 : (k : Int) < (n : Int) := by omega
        clear h
        by_cases hL : (V k).L = 64
        · have hLi : ((V k).L : Int) = 64 := by omega
          by_cases hD : 0 ≤ (V k).dev ∧ (V k).dev < 8
          · obtain ⟨D, hDv⟩ : ∃ D : Nat, (V k).dev = (D : Int) := ⟨(V k).dev.toNat, by omega⟩
            have hDi : (D : Int) < 8 := by omega
            by_cases hS : 0 ≤ (V k).sec ∧ (V k).sec < 2048
            · obtain ⟨S, hSv⟩ : ∃ S : Nat, (V k).sec = (S : Int) := ⟨(V k).sec.toNat, by omega⟩
              have hSi : (S : Int) < 2048 := by omega
              go_wp2_with (first
                | ((go_at_call 37)
                   (refine at_arg 1 (.int .i64 8) rfl ?_)
                   (refine (cput_ok D 1 8 _ (by decide) (by decide) hDi (by omega) (hold_1 D (by omega))).mono ?_)
                   (rintro e w3 ⟨rfl, ho3, hb3⟩)
                   (clear c0 c2)
                   (have hbw3 := hbw2.trans (hb3.mono hbw2.size))
                   (have hown3 := own_below hown2 hb3 (fun g hg => (hown2.lt g hg).2))
                   (have hcp3 := hcp.below hb3 hcp.lt)
                   (clear hown2)
                   (obtain ⟨a3, cap3, e3, _, hn3, hy3, _⟩ := own_bytes ho3)
                   (simp only [Value.slice.injEq] at e3)
                   (obtain ⟨rfl, _, rfl⟩ := e3))
                | ((go_at_call 37)
                   (refine at_arg 1 (.int .i64 2048) rfl ?_)
                   (refine (cput_ok S 4 2048 _ (by decide) (by decide) hSi (by omega) (hold_4 S (by omega))).mono ?_)
                   (rintro e w5 ⟨rfl, ho5, hb5⟩)
                   (clear c1)
                   (have hbw5 := hbw4.trans (hb5.mono hbw4.size))
                   (have hown5 := own_below hown4 hb5 (fun g hg => (hown4.lt g hg).2))
                   (have hcp5 := hcp4.below hb5 hcp4.lt)
                   (clear hown4)
                   (obtain ⟨a5, cap5, e5, _, hn5, hy5, _⟩ := own_bytes ho5)
                   (simp only [Value.slice.injEq] at e5)
                   (obtain ⟨rfl, _, rfl⟩ := e5))
                | ((refine at_dst 25 rfl ?_)
                   (refine wpList_append_bytes rfl _ _ rfl w.heap.size _ (2 + 69 * k) (gb n V) rfl hown3 _ 1 1 (nbs D 1) rfl hn3 hy3 (by omega) hbw3.size ?_)
                   (intro v4 w4 hown4 hg4)
                   (rw [bl_ext _ _ _ _ (fun j hj => by rw [← gb_dev n V k j hj, hDv])] at hown4)
                   (have hcp4 := kept_g hcp3 hg4 (fun e => row_ne hown3 e hcp3 (by decide)))
                   (have hbw4 := below_g hbw3 hg4 (fun g e => (hown3.lt g e).1))
                   (have c1 : w4.cell? ⟨wr.heap.size, 1, none⟩ = some (.int .i64 (S : Nat)) := by rw [← hSv]; exact hcp4.cell 1)
                   (clear hown3 hcp3 ho3 hy3 hn3))
                | ((refine at_dst 30 rfl ?_)
                   (refine wpList_append_bytes rfl _ _ rfl w.heap.size _ (2 + 69 * k + 1) (gb n V) rfl hown5 _ 4 4 (nbs S 4) rfl hn5 hy5 (by omega) hbw5.size ?_)
                   (intro v6 w6 hown6 hg6)
                   (rw [bl_ext _ _ _ _ (fun j hj => by rw [← gb_sec n V k j hj, hSv])] at hown6)
                   (have hcp6 := kept_g hcp5 hg6 (fun e => row_ne hown5 e hcp5 (by decide)))
                   (have hbw6 := below_g hbw5 hg6 (fun g e => (hown5.lt g e).1))
                   (have c2 : w6.cell? ⟨wr.heap.size, 2, none⟩ = some (.slice (V k).a 64 (V k).C) := by rw [← hL]; exact hcp6.cell 2)
                   (have hin6 := hin0.below hx hbw6 (Nat.le_refl _))
                   (have hat6 : Bytes w6 (V k).a 64 (V k).b := by rw [← hL]; exact hin6.by_.at_)
                   (have hni6 : (V k).a = none → 64 = 0 ∧ (V k).C = 0 := by rw [← hL]; exact hin6.by_.nil)
                   (clear hown5 hcp5 ho5 hy5 hn5))
                | ((refine at_dst 34 rfl ?_)
                   (refine wpList_append_bytes rfl _ _ rfl w.heap.size _ (2 + 69 * k + 1 + 4) (gb n V) rfl hown6 _ 64 _ (V k).b rfl hni6 hat6 (by omega) hbw6.size ?_)
                   (intro v8 w8 hown8 hg8)
                   (rw [bl_ext _ _ _ _ (fun j hj => gb_dat n V k j hj)] at hown8)
                   (have hbw8 := below_g hbw6 hg8 (fun g e => (hown6.lt g e).1))
                   (clear hown6 hcp6 c2))
                | ((refine at_dst 13 rfl ?_)
                   (refine wpList_is (some 13) (.pointer (some ⟨x, o + k * 3, none⟩)) rfl rfl (run_at_wr _ _ rfl x o k n cap rfl rfl hlt _) ?_))
                | ((refine at_dst 14 rfl ?_)
                   (refine wpList_is (some 14) (.agg (wcell (V k)).toArray) rfl rfl (run_load_wr _ rfl x (o + k * 3) rfl (V k) _ hin) ?_))
                | ((refine wpList_copy_wr _ (V k) rfl _ _ rfl rfl rfl ?_)
                   (intro w2 hcp hb2)
                   (have c2 : w2.cell? ⟨wr.heap.size, 2, none⟩ = some (.slice (V k).a (V k).L (V k).C) := hcp.cell 2)
                   (have c0 : w2.cell? ⟨wr.heap.size, 0, none⟩ = some (.int .i64 (D : Nat)) := by rw [← hDv]; exact hcp.cell 0)
                   (have hbw2 := hbel.trans (hb2.mono hbel.size))
                   (have hown2 := own_below hown hb2 (fun g hg => (hown.lt g hg).2))
                   (clear hown)))
              go_roundw
              case rel =>
                refine ⟨k + 1, by omega, by go_num, ?_, hbw8, fun j hj => ?_⟩
                · rw [show 2 + 69 * (k + 1) = 2 + 69 * k + 1 + 4 + 64 by omega]
                  exact hown8
                · by_cases hjk : j = k
                  · subst hjk
                    exact ⟨hD, hS, hL⟩
                  · exact hall j (by omega)
              case measure => simp [intOf]; omega
            · have hSn : (V k).sec < 0 ∨ 2048 ≤ (V k).sec := by omega
              go_wp2_with (first
                | ((go_at_call 37)
                   (refine at_arg 1 (.int .i64 8) rfl ?_)
                   (refine (cput_ok D 1 8 _ (by decide) (by decide) hDi (by omega) (hold_1 D (by omega))).mono ?_)
                   (rintro e w3 ⟨rfl, ho3, hb3⟩)
                   (clear c0 c2)
                   (have hbw3 := hbw2.trans (hb3.mono hbw2.size))
                   (have hown3 := own_below hown2 hb3 (fun g hg => (hown2.lt g hg).2))
                   (have hcp3 := hcp.below hb3 hcp.lt)
                   (clear hown2)
                   (obtain ⟨a3, cap3, e3, _, hn3, hy3, _⟩ := own_bytes ho3)
                   (simp only [Value.slice.injEq] at e3)
                   (obtain ⟨rfl, _, rfl⟩ := e3))
                | ((go_at_call 37)
                   (refine at_arg 1 (.int .i64 2048) rfl ?_)
                   (refine (cput_no _ 2048 4 _ hSn).mono ?_)
                   (rintro e w5 ⟨rfl, rfl⟩))
                | ((refine at_dst 25 rfl ?_)
                   (refine wpList_append_bytes rfl _ _ rfl w.heap.size _ (2 + 69 * k) (gb n V) rfl hown3 _ 1 1 (nbs D 1) rfl hn3 hy3 (by omega) hbw3.size ?_)
                   (intro v4 w4 hown4 hg4)
                   (rw [bl_ext _ _ _ _ (fun j hj => by rw [← gb_dev n V k j hj, hDv])] at hown4)
                   (have hcp4 := kept_g hcp3 hg4 (fun e => row_ne hown3 e hcp3 (by decide)))
                   (have hbw4 := below_g hbw3 hg4 (fun g e => (hown3.lt g e).1))
                   (have c1 : w4.cell? ⟨wr.heap.size, 1, none⟩ = some (.int .i64 (V k).sec) := hcp4.cell 1)
                   (clear hown3 hcp3 ho3 hy3 hn3))
                | ((refine at_dst 13 rfl ?_)
                   (refine wpList_is (some 13) (.pointer (some ⟨x, o + k * 3, none⟩)) rfl rfl (run_at_wr _ _ rfl x o k n cap rfl rfl hlt _) ?_))
                | ((refine at_dst 14 rfl ?_)
                   (refine wpList_is (some 14) (.agg (wcell (V k)).toArray) rfl rfl (run_load_wr _ rfl x (o + k * 3) rfl (V k) _ hin) ?_))
                | ((refine wpList_copy_wr _ (V k) rfl _ _ rfl rfl rfl ?_)
                   (intro w2 hcp hb2)
                   (have c2 : w2.cell? ⟨wr.heap.size, 2, none⟩ = some (.slice (V k).a (V k).L (V k).C) := hcp.cell 2)
                   (have c0 : w2.cell? ⟨wr.heap.size, 0, none⟩ = some (.int .i64 (D : Nat)) := by rw [← hDv]; exact hcp.cell 0)
                   (have hbw2 := hbel.trans (hb2.mono hbel.size))
                   (have hown2 := own_below hown hb2 (fun g hg => (hown.lt g hg).2))
                   (clear hown)))
              exact ⟨rfl, hbw4, .inr ⟨fun hh => hS (hh.2 k hlt).2.1, rfl⟩⟩
          · have hDn : (V k).dev < 0 ∨ 8 ≤ (V k).dev := by omega
            go_wp2_with (first
              | ((go_at_call 37)
                 (refine (cput_no _ 8 1 _ hDn).mono ?_)
                 (rintro e w3 ⟨rfl, rfl⟩))
              | ((refine at_dst 13 rfl ?_)
                 (refine wpList_is (some 13) (.pointer (some ⟨x, o + k * 3, none⟩)) rfl rfl (run_at_wr _ _ rfl x o k n cap rfl rfl hlt _) ?_))
              | ((refine at_dst 14 rfl ?_)
                 (refine wpList_is (some 14) (.agg (wcell (V k)).toArray) rfl rfl (run_load_wr _ rfl x (o + k * 3) rfl (V k) _ hin) ?_))
              | ((refine wpList_copy_wr _ (V k) rfl _ _ rfl rfl rfl ?_)
                 (intro w2 hcp hb2)
                 (have c2 : w2.cell? ⟨wr.heap.size, 2, none⟩ = some (.slice (V k).a (V k).L (V k).C) := hcp.cell 2)
                 (have c0 : w2.cell? ⟨wr.heap.size, 0, none⟩ = some (.int .i64 (V k).dev) := hcp.cell 0)
                 (have hbw2 := hbel.trans (hb2.mono hbel.size))
                 (have hown2 := own_below hown hb2 (fun g hg => (hown.lt g hg).2))
                 (clear hown)))
            exact ⟨rfl, hbw2, .inr ⟨fun hh => hD (hh.2 k hlt).1, rfl⟩⟩
        · have hLi : ¬ ((V k).L : Int) = 64 := by omega
          have HL : Hid (¬ (V k).L = 64) := hL
          clear hL
          go_wp2_with (first
            | ((refine at_dst 13 rfl ?_)
               (refine wpList_is (some 13) (.pointer (some ⟨x, o + k * 3, none⟩)) rfl rfl (run_at_wr _ _ rfl x o k n cap rfl rfl hlt _) ?_))
            | ((refine at_dst 14 rfl ?_)
               (refine wpList_is (some 14) (.agg (wcell (V k)).toArray) rfl rfl (run_load_wr _ rfl x (o + k * 3) rfl (V k) _ hin) ?_))
            | ((refine wpList_copy_wr _ (V k) rfl _ _ rfl rfl rfl ?_)
               (intro w2 hcp hb2)
               (have c2 : w2.cell? ⟨wr.heap.size, 2, none⟩ = some (.slice (V k).a (V k).L (V k).C) := hcp.cell 2)
               (have c0 : w2.cell? ⟨wr.heap.size, 0, none⟩ = some (.int .i64 (V k).dev) := hcp.cell 0)
               (have hbw2 := hbel.trans (hb2.mono hbel.size))
               (have hown2 := own_below hown hb2 (fun g hg => (hown.lt g hg).2))
               (clear hown)))
          exact ⟨rfl, hbw2, .inr ⟨fun hh => HL.out (hh.2 k hlt).2.2, rfl⟩⟩
      · obtain rfl : k = n := by omega
        go_wp2
        go_ret
        exact ⟨hbel, .inl ⟨⟨HN.out, hall⟩, _, rfl, hown⟩⟩
  · have hp := cput_no n 101 2 w (.inr (by omega))
    go_enter Try.func26, Try.ntmps26
    go_wp2_with (first
      | ((go_at_call 37)
         (refine hp.mono ?_)
         (rintro e w1 ⟨rfl, rfl⟩)
         (clear hp)))
    exact ⟨rfl, Below.refl _ _, .inr ⟨fun hh => hn hh.1, rfl⟩⟩
end Go.Proofs.Ytbiicdehgogikaa
