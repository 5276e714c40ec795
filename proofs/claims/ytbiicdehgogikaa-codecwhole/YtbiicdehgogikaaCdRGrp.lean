/- The reference's Group. -/
import Derived.Test.YtbiicdehgogikaaCdClone
namespace Go.Proofs.Ytbiicdehgogikaa
open Go.ChangeShapes Go.WideShapes Go.ChangeAt Go.RowKit
set_option linter.unusedVariables false

theorem at_st {ops : Array Oper} {rest : List Oper} {o : Oper} {a : Act} {w : World} {Q : Exit → Act → World → Prop} (t : TypeId) (x y : Operand) (h : o.op = .store t x y) (k : wpList Try.prog ops Q (o :: rest) a w) : wpList Try.prog ops Q (o :: rest) a w := k

theorem nbs_one (D : Nat) (h : D < 256) : nbs (D : Int) 1 0 = D := by
  unfold nbs byteAt
  simp
  omega

theorem conv_u8 (n : Nat) (h : n < 256) (w : World) : (convert 3 5 (.int .i64 (n : Nat))).run Try.prog w = .ok (.int .u8 (n : Nat)) w := by
  have h1 : (0 : Int) ≤ (n : Int) := by omega
  have h2 : (n : Int) < 256 := by omega
  generalize (n : Int) = x at h1 h2 ⊢
  go_simp
  have := IntWalk.u8_in x ⟨h1, by omega⟩
  simp [this]

/-- One byte, just made. -/
theorem one_own (w : World) (D : Nat) : Bytes (w.alloc (.cells #[.int .u8 (D : Nat)] 5)) (some ⟨w.heap.size, 0, none⟩) 1 (fun _ => D) := by
  have h : Has (w.alloc (.cells #[.int .u8 (D : Nat)] 5)) w.heap.size 5 #[.int .u8 (D : Nat)] := Has.new _ _ _
  refine .inr ⟨w.heap.size, 0, rfl, h.lt, fun j hj => ?_⟩
  obtain rfl : j = 0 := by omega
  exact h.cell 0

set_option maxRecDepth 100000 in
set_option maxHeartbeats 4000000 in
theorem rgroup_any (n cap : Nat) (V : Nat → WV) (a : Option Addr) (w : World) (h : Wl w a n V) :
    Calls Try.prog 10 #[.slice a n cap] w fun e w' => Below w.heap.size w w' ∧ ((okG n V ∧ ∃ v, e = .returned (.tuple #[v, .int .i64 0]) ∧ w'.ownsRow w.heap.size 5 1 v (2 + 69 * n) (bl (gb n V) (2 + 69 * n))) ∨ (¬ okG n V ∧ e = .returned (.tuple #[.slice none 0 0, .int .i64 81]))) := by
  have hmax := h.1
  unfold maxLen at hmax
  by_cases hn : n ≤ 100
  · have hp := rbytes_s 2 (n : Int) w (by decide) (by decide) (by omega) (hold_2 n (by omega))
    have hcu := fun w => conv_u64 n (by omega) w
    have HN : Hid (n ≤ 100) := hn
    have hni : (n : Int) ≤ 100 := by omega
    have q0 : decide (100 < (n : Int)) = false := decide_eq_false (by omega)
    go_enter Try.func10, Try.ntmps10
    go_wp2_with (first
      | ((go_at_call 27)
         (refine hp.mono ?_)
         (rintro e w1 ⟨rfl, ho, hb⟩)
         (clear hp)))
    rw [bl_congr _ _ _ (gb_cnt n V)] at ho
    clear hcu
    go_loopw [4, 5] (fun b i wr => ∃ k : Nat, k ≤ n ∧ i = .int .i64 (k : Nat) ∧ wr.ownsRow w.heap.size 5 1 b (2 + 69 * k) (bl (gb n V) (2 + 69 * k)) ∧ Below w.heap.size w wr ∧ ∀ j, j < k → okW (V j))
      (fun _ i _ => n - (intOf i).toNat)
    case atStart => exact ⟨0, Nat.zero_le _, rfl, ho, hb, fun j hj => by omega⟩
    case round =>
      clear ho hb
      obtain ⟨k, hk, rfl, hown, hbel, hall⟩ := hrel
      by_cases hlt : k < n
      · obtain ⟨x, o, ha, hx, hin0⟩ := h.2 k hlt
        have hin := hin0.below hx hbel (Nat.le_refl _)
        subst ha
        have i0 : (k : Int) < (n : Int) := by omega
        have i1 : (0 : Int) ≤ (k : Int) := by omega
        clear h
        by_cases hD : 0 ≤ (V k).dev ∧ (V k).dev < 8
        · obtain ⟨D, hDv⟩ : ∃ D : Nat, (V k).dev = (D : Int) := ⟨(V k).dev.toNat, by omega⟩
          have hDi : (D : Int) < 8 := by omega
          have hD0 : (0 : Int) ≤ (D : Int) := by omega
          have q1 : decide ((D : Int) < 0) = false := decide_eq_false (by omega)
          have q2 : decide ((8 : Int) ≤ (D : Int)) = false := decide_eq_false (by omega)
          by_cases hS : 0 ≤ (V k).sec ∧ (V k).sec < 2048
          · obtain ⟨S, hSv⟩ : ∃ S : Nat, (V k).sec = (S : Int) := ⟨(V k).sec.toNat, by omega⟩
            have hSi : (S : Int) < 2048 := by omega
            have hS0 : (0 : Int) ≤ (S : Int) := by omega
            have q3 : decide ((S : Int) < 0) = false := decide_eq_false (by omega)
            have q4 : decide ((2048 : Int) ≤ (S : Int)) = false := decide_eq_false (by omega)
            have HD : Hid (0 ≤ (V k).dev ∧ (V k).dev < 8) := hD
            have HS : Hid (0 ≤ (V k).sec ∧ (V k).sec < 2048) := hS
            clear hD hS
            by_cases hL : (V k).L = 64
            · skip
              go_wp2_with (first
                | ((go_at_call 27)
                   (refine HB.mono ?_)
                   (rintro e w5 ⟨rfl, ho5, hb5⟩)
                   (clear c1 HB)
                   (have hbw5 := hbw4.trans (hb5.mono hbw4.size))
                   (have hown5 := own_below hown4 hb5 (fun g hg => (hown4.lt g hg).2))
                   (have hcp5 := hcp4.below hb5 hcp4.lt)
                   (clear hown4)
                   (obtain ⟨a5, cap5, e5, _, hn5, hy5, _⟩ := own_bytes ho5)
                   (simp only [Value.slice.injEq] at e5)
                   (obtain ⟨rfl, _, rfl⟩ := e5))
                | ((refine at_dst 53 rfl ?_)
                   (refine wpList_append_bytes rfl _ _ rfl w.heap.size _ (2 + 69 * k) (gb n V) rfl hown2a _ 1 1 (fun _ => D) rfl (fun e => by cases e) (one_own w2 D) (by omega) hsa ?_)
                   (intro v4 w4 hown4 hg4)
                   (rw [bl_ext _ _ _ _ (fun j hj => by (rw [← gb_dev n V k j hj, hDv, show j = 0 by omega, nbs_one D (by omega)]))] at hown4)
                   (have hcp4 := kept_g hcpa hg4 (fun e => row_ne hown2a e hcpa (by decide)))
                   (have hbw4 := below_g hbwa hg4 (fun g e => (hown2a.lt g e).1))
                   (have c1 : w4.cell? ⟨wr.heap.size, 1, none⟩ = some (.int .i64 (S : Nat)) := by (rw [← hSv]; exact hcp4.cell 1))
                   (have HB := rbytes_s 4 (S : Int) w4 (by decide) (by decide) (by omega) (hold_4 S (by omega)))
                   (clear hown2a hcpa))
                | ((refine at_dst 59 rfl ?_)
                   (refine wpList_append_bytes rfl _ _ rfl w.heap.size _ (2 + 69 * k + 1) (gb n V) rfl hown5 _ 4 4 (nbs S 4) rfl hn5 hy5 (by omega) hbw5.size ?_)
                   (intro v6 w6 hown6 hg6)
                   (rw [bl_ext _ _ _ _ (fun j hj => by rw [← gb_sec n V k j hj, hSv])] at hown6)
                   (have hcp6 := kept_g hcp5 hg6 (fun e => row_ne hown5 e hcp5 (by decide)))
                   (have hbw6 := below_g hbw5 hg6 (fun g e => (hown5.lt g e).1))
                   (have c2 : w6.cell? ⟨wr.heap.size, 2, none⟩ = some (.slice (V k).a 64 (V k).C) := by rw [← hL]; exact hcp6.cell 2)
                   (have hin6 := hin0.below hx hbw6 (Nat.le_refl _))
                   (have hat6 : Bytes w6 (V k).a 64 (V k).b := by rw [← hL]; exact hin6.by_.at_)
                   (have hni6 : (V k).a = none → 64 = 0 ∧ (V k).C = 0 := by rw [← hL]; exact hin6.by_.nil)
                   (clear hown5 hcp5 ho5 hy5 hn5))
                | ((refine at_dst 63 rfl ?_)
                   (refine wpList_append_bytes rfl _ _ rfl w.heap.size _ (2 + 69 * k + 1 + 4) (gb n V) rfl hown6 _ 64 _ (V k).b rfl hni6 hat6 (by omega) hbw6.size ?_)
                   (intro v8 w8 hown8 hg8)
                   (rw [bl_ext _ _ _ _ (fun j hj => gb_dat n V k j hj)] at hown8)
                   (have hbw8 := below_g hbw6 hg8 (fun g e => (hown6.lt g e).1))
                   (clear hown6 hcp6 c2))
                | ((refine at_dst 22 rfl ?_)
                   (refine wpList_is (some 22) (.pointer (some ⟨x, o + k * 3, none⟩)) rfl rfl (run_at_wr _ _ rfl x o k n cap rfl rfl hlt _) ?_))
                | ((refine at_dst 23 rfl ?_)
                   (refine wpList_is (some 23) (.agg (wcell (V k)).toArray) rfl rfl (run_load_wr _ rfl x (o + k * 3) rfl (V k) _ hin) ?_))
                | ((refine at_st 49 _ _ rfl ?_)
                   (refine wpList_copy_wr _ (V k) rfl _ _ rfl rfl rfl ?_)
                   (intro w2 hcp hb2)
                   (have c2 : w2.cell? ⟨wr.heap.size, 2, none⟩ = some (.slice (V k).a 64 (V k).C) := by (rw [← hL]; exact hcp.cell 2))
                   (have c0 : w2.cell? ⟨wr.heap.size, 0, none⟩ = some (.int .i64 (D : Nat)) := by (rw [← hDv]; exact hcp.cell 0))
                   (have c1 : w2.cell? ⟨wr.heap.size, 1, none⟩ = some (.int .i64 (S : Nat)) := by (rw [← hSv]; exact hcp.cell 1))
                   (have hbw2 := hbel.trans (hb2.mono hbel.size))
                   (have hown2 := own_below hown hb2 (fun g hg => (hown.lt g hg).2))
                   (clear hown)
                   (have hin2 := hin0.below hx hbw2 (Nat.le_refl _))
                   (have hcu := fun w => conv_u64 S (by omega) w)
                   (have hc8 := fun w => conv_u8 D (by omega) w)
                   (have hba : Below w2.heap.size w2 (w2.alloc (.cells #[.int .u8 (D : Nat)] 5)) := (Below.refl _ _).alloc (Nat.le_refl _) _)
                   (have hown2a := own_below hown2 hba (fun g hg => (hown2.lt g hg).2))
                   (have hcpa := hcp.alloc (.cells #[.int .u8 (D : Nat)] 5))
                   (have hbwa := hbw2.trans (hba.mono hbw2.size))
                   (have hsa := hbwa.size)
                   (clear hown2 hba hin2)))
              go_roundw
              case rel =>
                refine ⟨k + 1, by omega, by go_num, ?_, hbw8, fun j hj => ?_⟩
                · rw [show 2 + 69 * (k + 1) = 2 + 69 * k + 1 + 4 + 64 by omega]
                  exact hown8
                · by_cases hjk : j = k
                  · subst hjk
                    exact ⟨HD.out, HS.out, hL⟩
                  · exact hall j (by omega)
              case measure => simp [intOf]; omega
            · have hLi : ¬ ((V k).L : Int) = 64 := by omega
              have HL : Hid (¬ (V k).L = 64) := hL
              have q5 : (((V k).L : Int) != 64) = true := by simp; omega
              clear hL
              go_wp2_with (first
                | ((refine at_dst 22 rfl ?_)
                   (refine wpList_is (some 22) (.pointer (some ⟨x, o + k * 3, none⟩)) rfl rfl (run_at_wr _ _ rfl x o k n cap rfl rfl hlt _) ?_))
                | ((refine at_dst 23 rfl ?_)
                   (refine wpList_is (some 23) (.agg (wcell (V k)).toArray) rfl rfl (run_load_wr _ rfl x (o + k * 3) rfl (V k) _ hin) ?_))
                | ((refine at_st 49 _ _ rfl ?_)
                   (refine wpList_copy_wr _ (V k) rfl _ _ rfl rfl rfl ?_)
                   (intro w2 hcp hb2)
                   (have c2 : w2.cell? ⟨wr.heap.size, 2, none⟩ = some (.slice (V k).a (V k).L (V k).C) := hcp.cell 2)
                   (have c0 : w2.cell? ⟨wr.heap.size, 0, none⟩ = some (.int .i64 (D : Nat)) := by (rw [← hDv]; exact hcp.cell 0))
                   (have c1 : w2.cell? ⟨wr.heap.size, 1, none⟩ = some (.int .i64 (S : Nat)) := by (rw [← hSv]; exact hcp.cell 1))
                   (have hbw2 := hbel.trans (hb2.mono hbel.size))
                   (have hown2 := own_below hown hb2 (fun g hg => (hown.lt g hg).2))
                   (clear hown)
                   (have hin2 := hin0.below hx hbw2 (Nat.le_refl _))))
              go_ret2
              exact ⟨hbw2, .inr ⟨fun hh => HL.out (hh.2 k hlt).2.2, rfl⟩⟩
          · have HS : Hid (¬ (0 ≤ (V k).sec ∧ (V k).sec < 2048)) := hS
            by_cases hS0 : (V k).sec < 0
            · have q3 : decide ((V k).sec < 0) = true := decide_eq_true hS0
              clear hS
              go_wp2_with (first
                | ((refine at_dst 22 rfl ?_)
                   (refine wpList_is (some 22) (.pointer (some ⟨x, o + k * 3, none⟩)) rfl rfl (run_at_wr _ _ rfl x o k n cap rfl rfl hlt _) ?_))
                | ((refine at_dst 23 rfl ?_)
                   (refine wpList_is (some 23) (.agg (wcell (V k)).toArray) rfl rfl (run_load_wr _ rfl x (o + k * 3) rfl (V k) _ hin) ?_))
                | ((refine at_st 49 _ _ rfl ?_)
                   (refine wpList_copy_wr _ (V k) rfl _ _ rfl rfl rfl ?_)
                   (intro w2 hcp hb2)
                   (have c2 : w2.cell? ⟨wr.heap.size, 2, none⟩ = some (.slice (V k).a (V k).L (V k).C) := hcp.cell 2)
                   (have c0 : w2.cell? ⟨wr.heap.size, 0, none⟩ = some (.int .i64 (D : Nat)) := by (rw [← hDv]; exact hcp.cell 0))
                   (have c1 : w2.cell? ⟨wr.heap.size, 1, none⟩ = some (.int .i64 (V k).sec) := hcp.cell 1)
                   (have hbw2 := hbel.trans (hb2.mono hbel.size))
                   (have hown2 := own_below hown hb2 (fun g hg => (hown.lt g hg).2))
                   (clear hown)
                   (have hin2 := hin0.below hx hbw2 (Nat.le_refl _))))
              go_ret2
              exact ⟨hbw2, .inr ⟨fun hh => HS.out (hh.2 k hlt).2.1, rfl⟩⟩
            · have hS1 : 2048 ≤ (V k).sec := by omega
              have q3 : decide ((V k).sec < 0) = false := decide_eq_false hS0
              have q4 : decide (2048 ≤ (V k).sec) = true := decide_eq_true hS1
              clear hS
              go_wp2_with (first
                | ((refine at_dst 22 rfl ?_)
                   (refine wpList_is (some 22) (.pointer (some ⟨x, o + k * 3, none⟩)) rfl rfl (run_at_wr _ _ rfl x o k n cap rfl rfl hlt _) ?_))
                | ((refine at_dst 23 rfl ?_)
                   (refine wpList_is (some 23) (.agg (wcell (V k)).toArray) rfl rfl (run_load_wr _ rfl x (o + k * 3) rfl (V k) _ hin) ?_))
                | ((refine at_st 49 _ _ rfl ?_)
                   (refine wpList_copy_wr _ (V k) rfl _ _ rfl rfl rfl ?_)
                   (intro w2 hcp hb2)
                   (have c2 : w2.cell? ⟨wr.heap.size, 2, none⟩ = some (.slice (V k).a (V k).L (V k).C) := hcp.cell 2)
                   (have c0 : w2.cell? ⟨wr.heap.size, 0, none⟩ = some (.int .i64 (D : Nat)) := by (rw [← hDv]; exact hcp.cell 0))
                   (have c1 : w2.cell? ⟨wr.heap.size, 1, none⟩ = some (.int .i64 (V k).sec) := hcp.cell 1)
                   (have hbw2 := hbel.trans (hb2.mono hbel.size))
                   (have hown2 := own_below hown hb2 (fun g hg => (hown.lt g hg).2))
                   (clear hown)
                   (have hin2 := hin0.below hx hbw2 (Nat.le_refl _))))
              go_ret2
              exact ⟨hbw2, .inr ⟨fun hh => HS.out (hh.2 k hlt).2.1, rfl⟩⟩
        · have HD : Hid (¬ (0 ≤ (V k).dev ∧ (V k).dev < 8)) := hD
          by_cases hD0 : (V k).dev < 0
          · have q1 : decide ((V k).dev < 0) = true := decide_eq_true hD0
            clear hD
            go_wp2_with (first
              | ((refine at_dst 22 rfl ?_)
                 (refine wpList_is (some 22) (.pointer (some ⟨x, o + k * 3, none⟩)) rfl rfl (run_at_wr _ _ rfl x o k n cap rfl rfl hlt _) ?_))
              | ((refine at_dst 23 rfl ?_)
                 (refine wpList_is (some 23) (.agg (wcell (V k)).toArray) rfl rfl (run_load_wr _ rfl x (o + k * 3) rfl (V k) _ hin) ?_))
              | ((refine at_st 49 _ _ rfl ?_)
                 (refine wpList_copy_wr _ (V k) rfl _ _ rfl rfl rfl ?_)
                 (intro w2 hcp hb2)
                 (have c2 : w2.cell? ⟨wr.heap.size, 2, none⟩ = some (.slice (V k).a (V k).L (V k).C) := hcp.cell 2)
                 (have c0 : w2.cell? ⟨wr.heap.size, 0, none⟩ = some (.int .i64 (V k).dev) := hcp.cell 0)
                 (have c1 : w2.cell? ⟨wr.heap.size, 1, none⟩ = some (.int .i64 (V k).sec) := hcp.cell 1)
                 (have hbw2 := hbel.trans (hb2.mono hbel.size))
                 (have hown2 := own_below hown hb2 (fun g hg => (hown.lt g hg).2))
                 (clear hown)
                 (have hin2 := hin0.below hx hbw2 (Nat.le_refl _))))
            go_ret2
            exact ⟨hbw2, .inr ⟨fun hh => HD.out (hh.2 k hlt).1, rfl⟩⟩
          · have hD1 : 8 ≤ (V k).dev := by omega
            have q1 : decide ((V k).dev < 0) = false := decide_eq_false hD0
            have q2 : decide (8 ≤ (V k).dev) = true := decide_eq_true hD1
            clear hD
            go_wp2_with (first
              | ((refine at_dst 22 rfl ?_)
                 (refine wpList_is (some 22) (.pointer (some ⟨x, o + k * 3, none⟩)) rfl rfl (run_at_wr _ _ rfl x o k n cap rfl rfl hlt _) ?_))
              | ((refine at_dst 23 rfl ?_)
                 (refine wpList_is (some 23) (.agg (wcell (V k)).toArray) rfl rfl (run_load_wr _ rfl x (o + k * 3) rfl (V k) _ hin) ?_))
              | ((refine at_st 49 _ _ rfl ?_)
                 (refine wpList_copy_wr _ (V k) rfl _ _ rfl rfl rfl ?_)
                 (intro w2 hcp hb2)
                 (have c2 : w2.cell? ⟨wr.heap.size, 2, none⟩ = some (.slice (V k).a (V k).L (V k).C) := hcp.cell 2)
                 (have c0 : w2.cell? ⟨wr.heap.size, 0, none⟩ = some (.int .i64 (V k).dev) := hcp.cell 0)
                 (have c1 : w2.cell? ⟨wr.heap.size, 1, none⟩ = some (.int .i64 (V k).sec) := hcp.cell 1)
                 (have hbw2 := hbel.trans (hb2.mono hbel.size))
                 (have hown2 := own_below hown hb2 (fun g hg => (hown.lt g hg).2))
                 (clear hown)
                 (have hin2 := hin0.below hx hbw2 (Nat.le_refl _))))
            go_ret2
            exact ⟨hbw2, .inr ⟨fun hh => HD.out (hh.2 k hlt).1, rfl⟩⟩
      · obtain rfl : k = n := by omega
        go_wp2
        go_ret2
        exact ⟨hbel, .inl ⟨⟨HN.out, hall⟩, _, rfl, hown⟩⟩
  · have hni : ¬ (n : Int) ≤ 100 := by omega
    go_enter Try.func10, Try.ntmps10
    go_wp2
    go_ret2
    exact ⟨Below.refl _ _, .inr ⟨fun hh => hn hh.1, rfl⟩⟩
end Go.Proofs.Ytbiicdehgogikaa
