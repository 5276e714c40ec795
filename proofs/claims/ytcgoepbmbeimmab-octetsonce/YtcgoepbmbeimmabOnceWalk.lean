/- The walk of OctetsOnce: for every three ints it returns true and writes nothing that was there. -/
import Derived.Test.YtcgoepbmbeimmabSplitAny
import Derived.Test.YtcgoepbmbeimmabAlive
import Derived.Test.YtcgoepbmbeimmabPairEq
import Derived.Deep.QuietTactic
import Derived.Deep.RegionHeld3
import Derived.BigQuiet
import Derived.WalkSmall
namespace Go.Proofs.Ytcgoepbmbeimmab
open Go.ChangeShapes Go.WideShapes Go.ChangeAt Go.RowKit

theorem pairRow_drew {w : World} {ao : Option Addr} {ps : List (Nat × Nat)} (h : PairRow w ao ps) (q : Nat) : PairRow (w.drewN q) ao ps := h

theorem cut_once (a n t : Int) (p : Nat × Nat) (hp : p ∈ cut a n t) : cut (p.1 : Int) (p.2 : Int) t = [p] ∧ p.1 ≤ 2147483647 ∧ p.2 ≤ 65536 := by
  unfold cut at hp
  split at hp
  · rename_i h
    unfold Dom at h
    have g := parts_once t.toNat (by omega) n.toNat a.toNat p hp
    unfold cut
    rw [if_pos (by unfold Dom; omega)]
    exact ⟨g.2.2.2, by omega, by omega⟩
  · simp at hp

theorem cut_ones (a n : Int) (h : Dom a n 1) : ((cut a n 1).length : Int) = n := by
  unfold cut
  rw [if_pos h]
  have := parts_ones n.toNat a.toNat
  unfold Dom at h
  rw [show (1 : Int).toNat = 1 from rfl, this]
  omega

theorem cut_none (a n t : Int) (h : ¬ Dom a n t) : cut a n t = [] := by
  unfold cut
  rw [if_neg h]

theorem cut_len (a n t : Int) : (cut a n t).length ≤ 65536 := by
  unfold cut
  split
  · rename_i h
    unfold Dom at h
    have := parts_len t.toNat (by omega) n.toNat a.toNat
    omega
  · simp

theorem once_big (a n t : Int) (w : World) (h : 2000 < n) :
    Calls Try.prog 4 #[.int .i64 a, .int .i64 n, .int .i64 t] w fun e w' => e = .returned (.bool true) ∧ Below w.heap.size w w' := by
  have hal := alive_any w
  go_enter Try.func4, Try.ntmps4
  go_wp2_with (go_at_call 6; refine hal.mono ?_; rintro e w3 ⟨rfl, b3⟩; clear hal)
  go_ret
  exact ⟨rfl, b3⟩

set_option maxRecDepth 100000 in
set_option maxHeartbeats 3200000 in
theorem once_small (a n t : Int) (w : World) (ha : I64 a) (hn : I64 n) (ht : I64 t) (h : n ≤ 2000) :
    Calls Try.prog 4 #[.int .i64 a, .int .i64 n, .int .i64 t] w fun e w' => e = .returned (.bool true) ∧ Below w.heap.size w w' := by
  have s1 := split_any a n t w ha hn ht
  have hone := cut_once a n t
  have hlen := cut_len a n t
  obtain ⟨ps, hps⟩ : ∃ ps, ps = cut a n t := ⟨_, rfl⟩
  rw [← hps] at s1 hlen hone
  clear hps
  go_enter Try.func4, Try.ntmps4
  go_wp2_with (go_at_call 7; refine s1.mono ?_; rintro e w1 ⟨ao, cp, rfl, r1, b1⟩; clear s1)
  go_loopw [8] (fun i wr => ∃ k : Nat, k ≤ ps.length ∧ i = .int .i64 k ∧ PairRow wr ao ps ∧ Below w.heap.size w wr) (fun i _ => ps.length - (intOf i).toNat)
  case atStart => exact ⟨0, Nat.zero_le _, rfl, r1, b1⟩
  case round =>
    clear r1 b1
    obtain ⟨k, hk, rfl, r1, hbel⟩ := hrel
    by_cases hlt : k < ps.length
    · obtain ⟨p, hp⟩ : ∃ p, ps[k]? = some p := ⟨ps[k], by simp [hlt]⟩
      obtain ⟨o1, o2, o3⟩ := hone p (List.mem_of_getElem? hp)
      have s2 := fun W => split_any (p.1 : Int) (p.2 : Int) t W (by unfold I64; omega) (by unfold I64; omega) ht
      rw [o1] at s2
      obtain ⟨g, hao, hgl, q1, q2⟩ := r1 k p hp
      subst hao
      have hk1 : (k : Int) < (ps.length : Int) := by omega
      have hk0 : (0 : Int) ≤ (k : Int) := by omega
      clear hp hone o1
      go_wp2_with fail
      go_region_held3 (fun w' => w'.cell? ⟨g, k * 2, none⟩ = some (.int .i64 (p.1 : Int)) ∧ w'.cell? ⟨g, k * 2 + 1, none⟩ = some (.int .i64 (p.2 : Int)))
        (first
          | go_keep
          | (go_split_ands
             refine ⟨?_, ?_⟩
             · (rw [hb2.cell (by exact hgl)]; assumption)
             · (rw [hb2.cell (by exact hgl)]; assumption)))
        (first | (go_at_call 7; refine (s2 _).mono ?_; rintro e w2 ⟨ao2, cp2, rfl, r2, hb2⟩))
      have hb3 : Below wr.heap.size wr w2 := ((Below.refl _ _).drew).trans hb2
      have r1' := r1.below hb3 (Nat.le_refl _)
      obtain ⟨g2, hao2, _, q3, q4⟩ := r2 0 p rfl
      subst hao2
      simp only [Nat.zero_mul, Nat.zero_add] at q3 q4
      have heq := pair_eq p.1 p.2 p.1 p.2
      have hbn := hbel.trans (hb3.mono hbel.size)
      obtain ⟨q5, q6⟩ : w2.cell? ⟨g, k * 2, none⟩ = some (.int .i64 (p.1 : Int)) ∧ w2.cell? ⟨g, k * 2 + 1, none⟩ = some (.int .i64 (p.2 : Int)) := by assumption
      clear r1 r2 q1 q2 hb2 hb3 hbel s2
      go_wp2_with fail
      go_quiet (fail)
      go_wp2
      go_roundw
      case rel => exact ⟨k + 1, by omega, by go_num, pairRow_drew r1' nq, below_drewN hbn nq⟩
      case measure => simp [intOf]; omega
    · have hlt' : ¬ (k : Int) < (ps.length : Int) := by omega
      have s4 := split_any a n 1 wr ha hn (by unfold I64; omega)
      unfold I64 at ha hn ht
      clear r1 hlt hone
      by_cases hd : Dom a n 1
      · have e1 := cut_ones a n hd
        have hcl := cut_len a n 1
        obtain ⟨L, hL⟩ : ∃ L, L = (cut a n 1).length := ⟨_, rfl⟩
        rw [← hL] at s4 e1 hcl
        have e2 : ((L : Int) == n) = true := by simp [e1]
        unfold Dom at hd
        have d1 : 0 ≤ a := hd.1
        have d2 : 0 ≤ n := hd.2.1
        have d3 : a ≤ 2147483647 - n := by omega
        have HE : Hid ((L : Int) = n) := e1
        clear hd hL e1
        go_wp2_with (first
          | (go_at_call 7; refine s4.mono ?_; rintro e w2 ⟨ao2, cp2, rfl, _, b2⟩; have hal := alive_any w2; clear s4)
          | (go_at_call 6; refine hal.mono ?_; rintro e w3 ⟨rfl, b3⟩; clear hal))
        go_ret
        exact ⟨rfl, hbel.trans ((b2.mono hbel.size).trans (b3.mono (Nat.le_trans hbel.size b2.size)))⟩
      · have e1 := cut_none a n 1 hd
        rw [e1] at s4
        simp only [List.length_nil] at s4
        unfold Dom at hd
        clear e1
        by_cases d1 : a < 0
        · clear hd
          go_wp2_with (first
            | (go_at_call 7; refine s4.mono ?_; rintro e w2 ⟨ao2, cp2, rfl, _, b2⟩; have hal := alive_any w2; clear s4)
            | (go_at_call 6; refine hal.mono ?_; rintro e w3 ⟨rfl, b3⟩; clear hal))
          go_ret
          exact ⟨rfl, hbel.trans ((b2.mono hbel.size).trans (b3.mono (Nat.le_trans hbel.size b2.size)))⟩
        · by_cases d2 : n < 0
          · clear hd
            go_wp2_with (first
              | (go_at_call 7; refine s4.mono ?_; rintro e w2 ⟨ao2, cp2, rfl, _, b2⟩; have hal := alive_any w2; clear s4)
              | (go_at_call 6; refine hal.mono ?_; rintro e w3 ⟨rfl, b3⟩; clear hal))
            go_ret
            exact ⟨rfl, hbel.trans ((b2.mono hbel.size).trans (b3.mono (Nat.le_trans hbel.size b2.size)))⟩
          · have d3 : 2147483647 - n < a := by omega
            clear hd
            go_wp2_with (first
              | (go_at_call 7; refine s4.mono ?_; rintro e w2 ⟨ao2, cp2, rfl, _, b2⟩; have hal := alive_any w2; clear s4)
              | (go_at_call 6; refine hal.mono ?_; rintro e w3 ⟨rfl, b3⟩; clear hal))
            go_ret
            exact ⟨rfl, hbel.trans ((b2.mono hbel.size).trans (b3.mono (Nat.le_trans hbel.size b2.size)))⟩

theorem once_walk (a n t : Int) (wa : (Lit.int .i64 a).wf = true) (wn : (Lit.int .i64 n).wf = true) (wt : (Lit.int .i64 t).wf = true) (w : World) :
    Calls Try.prog 4 #[.int .i64 a, .int .i64 n, .int .i64 t] w fun e w' => e = .returned (.bool true) ∧ Below w.heap.size w w' := by
  by_cases h : 2000 < n
  · exact once_big a n t w h
  · exact once_small a n t w (bounds_i64 wa) (bounds_i64 wn) (bounds_i64 wt) (by omega)
end Go.Proofs.Ytcgoepbmbeimmab
