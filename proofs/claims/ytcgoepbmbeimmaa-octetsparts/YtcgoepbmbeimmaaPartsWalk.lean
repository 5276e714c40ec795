/- The walk of OctetsParts: for every three ints it returns true and writes nothing that was there. -/
import Derived.Test.YtcgoepbmbeimmaaSplitAny
import Derived.Test.YtcgoepbmbeimmaaAlive
import Derived.Deep.QuietTactic
import Derived.BigQuiet
import Derived.WalkSmall
namespace Go.Proofs.Ytcgoepbmbeimmaa
open Go.ChangeShapes Go.WideShapes Go.ChangeAt Go.RowKit

theorem div_same (x c t : Nat) (ht : 1 ≤ t) (hc : 1 ≤ c) (h : c ≤ t - x % t) : x / t = (x + c - 1) / t := by
  have h1 := Nat.mod_lt x (show t > 0 by omega)
  have h2 := Nat.mod_add_div x t
  have h3 : x + c - 1 = (x % t + c - 1) + t * (x / t) := by omega
  rw [h3, Nat.add_mul_div_left _ _ (show 0 < t by omega), Nat.div_eq_of_lt (show x % t + c - 1 < t by omega), Nat.zero_add]

theorem pairRow_drewN {w : World} {ao : Option Addr} {ps : List (Nat × Nat)} (h : PairRow w ao ps) (q : Nat) : PairRow (w.drewN q) ao ps := h

set_option maxRecDepth 100000 in
set_option maxHeartbeats 1600000 in
theorem parts_in (a n t : Nat) (w : World) (ht : 1 ≤ t) (ht2 : t ≤ 9223372036854775807) (hn : n ≤ 65536) (han : a + n ≤ 2147483647) :
    Calls Try.prog 7 #[.int .i64 a, .int .i64 n, .int .i64 t] w fun e w' => e = .returned (.bool true) ∧ Below w.heap.size w w' := by
  have hsp := split_any a n t w (by unfold I64; omega) (by unfold I64; omega) (by unfold I64; omega)
  have hc : cut a n t = parts t a n := by
    unfold cut
    rw [if_pos (by unfold Dom; omega)]
    rfl
  rw [hc] at hsp
  have hlen := parts_len t ht n a
  clear hc
  obtain ⟨ps, hps⟩ : ∃ ps, ps = parts t a n := ⟨_, rfl⟩
  rw [← hps] at hsp hlen
  have HPS : Hid (ps = parts t a n) := hps
  clear hps
  go_enter Try.func7, Try.ntmps7
  go_wp2_with (go_at_call 17; refine hsp.mono ?_; rintro e w1 ⟨ao, cp, rfl, hpr, hb1⟩; clear hsp)
  go_loopw [8, 9] (fun nx i wr => ∃ k x m : Nat, nx = .int .i64 x ∧ i = .int .i64 k ∧ k ≤ ps.length ∧ Hid (ps.drop k = parts t x m) ∧ Hid (x + m = a + n) ∧ x + m ≤ 2147483647 ∧ m ≤ n ∧ Hid (0 < k → 0 < m → x % t = 0) ∧ PairRow wr ao ps ∧ Below w.heap.size w wr)
    (fun _ i _ => ps.length - (intOf i).toNat)
  case atStart => exact ⟨0, a, n, rfl, rfl, Nat.zero_le _, by show _ = _; rw [List.drop_zero]; exact HPS.out, rfl, han, Nat.le_refl _, (fun h => by omega), hpr, hb1⟩
  case round =>
    clear hpr hb1
    obtain ⟨k, x, m, rfl, rfl, hk, hd, hs, hs2, hmn, hz, hpr, hbel⟩ := hrel
    by_cases hlt : k < ps.length
    · have hm : 1 ≤ m := by
        have := hd.out
        by_cases h0 : m = 0
        · subst h0
          rw [parts_zero] at this
          have := congrArg List.length this
          simp at this
          omega
        · omega
      obtain ⟨c, hcd⟩ : ∃ c, c = min m (t - x % t) := ⟨_, rfl⟩
      have hmod := Nat.mod_lt x (show t > 0 by omega)
      have hc1 : 1 ≤ c := by omega
      have hc2 : c ≤ m := by omega
      have hc3 : c ≤ t - x % t := by omega
      have hd' := hd.out
      rw [parts_pos t x m ht hm, ← hcd] at hd'
      have hpk : ps[k]? = some (x, c) := by
        have := congrArg (fun l => l[0]?) hd'
        simpa using this
      have hdn0 : ps.drop (k + 1) = parts t (x + c) (m - c) := by
        have := congrArg List.tail hd'
        simpa using this
      have hdn : Hid (ps.drop (k + 1) = parts t (x + c) (m - c)) := hdn0
      have hzn : Hid (0 < k + 1 → 0 < m - c → (x + c) % t = 0) := by
        intro _ h
        have : c = t - x % t := by omega
        rw [this]
        exact mod_end t x ht
      obtain ⟨g, hao, hgl, q1, q2⟩ := hpr k _ hpk
      subst hao
      have hdv := div_same x c t ht hc1 hc3
      have hdv' : (x : Int) / (t : Int) = ((x : Int) + (c : Int) - 1) / (t : Int) := by
        have e : (x : Int) + (c : Int) - 1 = ((x + c - 1 : Nat) : Int) := by omega
        rw [e, ← Int.natCast_ediv, ← Int.natCast_ediv, hdv]
      have HC : Hid (c = min m (t - x % t)) := hcd
      have e1 : decide ((c : Int) < 1) = false := by simp; omega
      have e2 : decide (n < c) = false := by simp; omega
      have e5 : ((x : Int) / (t : Int) != ((x : Int) + (c : Int) - 1) / (t : Int)) = false := by rw [← hdv']; simp
      have HW : Hid (wrap64 ((x : Int) / (t : Int)) = (x : Int) / (t : Int)) := IntWalk.wrap64_in _ (by
        have g1 : 0 ≤ (x : Int) / (t : Int) := Int.ediv_nonneg (by omega) (by omega)
        have g2 := Int.ediv_le_self (t : Int) (show 0 ≤ (x : Int) by omega)
        constructor <;> omega)
      have hk1 : (k : Int) < (ps.length : Int) := by omega
      have hc1' : (1 : Int) ≤ (c : Int) := by omega
      have hc2' : (c : Int) ≤ (n : Int) := by omega
      have hxc : (x : Int) + (c : Int) ≤ 2147483647 := by omega
      have hx0 : (0 : Int) ≤ (x : Int) := by omega
      have hx1 : (x : Int) ≤ 2147483647 := by omega
      have ht' : (1 : Int) ≤ (t : Int) := by omega
      clear hd hd' hpk hdv hdv' hcd hmod hc3 hdn0
      by_cases hk0 : k = 0
      · subst hk0
        clear hz
        go_wp2_with fail
        go_quiet (fail)
        go_wp2
        · exfalso
          have h : (wrap64 ((x : Int) / (t : Int)) != ((x : Int) + (c : Int) - 1) / (t : Int)) = true := by assumption
          rw [HW.out, e5] at h
          cases h
        go_roundw
        case rel => exact ⟨1, x + c, m - c, by go_num, rfl, by omega, hdn, by show _ = _; have := hs.out; omega, by omega, by omega, hzn, pairRow_drewN hpr nq, below_drewN hbel nq⟩
        case measure => simp [intOf]; omega
      · have hxz : x % t = 0 := hz.out (by omega) (by omega)
        have e3 : ((x : Int) % (t : Int) != 0) = false := by
          have : (x : Int) % (t : Int) = ((x % t : Nat) : Int) := by omega
          rw [this, hxz]
          rfl
        have e4 : decide ((0 : Int) < (k : Int)) = true := by simp; omega
        have e6 : decide (0 < k) = true := by simp; omega
        have hkp : 0 < k := by omega
        clear hz hxz hk0
        go_wp2_with fail
        go_quiet (fail)
        go_wp2
        · exfalso
          have h : (wrap64 ((x : Int) / (t : Int)) != ((x : Int) + (c : Int) - 1) / (t : Int)) = true := by assumption
          rw [HW.out, e5] at h
          cases h
        go_roundw
        case rel => exact ⟨k + 1, x + c, m - c, by go_num, by go_num, by omega, hdn, by show _ = _; have := hs.out; omega, by omega, by omega, hzn, pairRow_drewN hpr nq, below_drewN hbel nq⟩
        case measure => simp [intOf]; omega
    · have hke : k = ps.length := by omega
      have hm0 : m = 0 := by
        have h := hd.out
        rw [hke, List.drop_length] at h
        by_cases h0 : m = 0
        · exact h0
        · rw [parts_pos t x m ht (by omega)] at h
          cases h
      have hxe : (x : Int) = (a : Int) + (n : Int) := by have := hs.out; omega
      have HX : Hid ((x : Int) = (a : Int) + (n : Int)) := hxe
      have hxx : ((x : Int) == (a : Int) + (n : Int)) = true := by simp; omega
      have hal := alive_any wr
      have hlt' : ¬ (k : Int) < (ps.length : Int) := by omega
      clear hd hs hz hpr hke hm0 hxe HX hlt
      go_wp2_with (go_at_call 14; refine hal.mono ?_; rintro e w3 ⟨rfl, b3⟩; clear hal)
      go_ret
      exact ⟨rfl, hbel.trans (b3.mono hbel.size)⟩
theorem parts_out1 (a n t : Int) (w : World) (ha : I64 a) (hn : I64 n) (c1 : a < 0) :
    Calls Try.prog 7 #[.int .i64 a, .int .i64 n, .int .i64 t] w fun e w' => e = .returned (.bool true) ∧ Below w.heap.size w w' := by
  have hsp := split_err a n t w ha hn (by unfold Dom; omega)
  have hal := alive_any w
  unfold I64 at ha hn
  go_enter Try.func7, Try.ntmps7
  go_wp2_with (first
    | (go_at_call 17; refine hsp.mono ?_; rintro e w ⟨rfl, rfl⟩; clear hsp)
    | (go_at_call 14; refine hal.mono ?_; rintro e w3 ⟨rfl, b3⟩; clear hal))
  go_ret
  exact ⟨rfl, b3⟩

theorem parts_out2 (a n t : Int) (w : World) (ha : I64 a) (hn : I64 n) (c1 : 0 ≤ a) (c2 : n < 0) :
    Calls Try.prog 7 #[.int .i64 a, .int .i64 n, .int .i64 t] w fun e w' => e = .returned (.bool true) ∧ Below w.heap.size w w' := by
  have hsp := split_err a n t w ha hn (by unfold Dom; omega)
  have hal := alive_any w
  unfold I64 at ha hn
  go_enter Try.func7, Try.ntmps7
  go_wp2_with (first
    | (go_at_call 17; refine hsp.mono ?_; rintro e w ⟨rfl, rfl⟩; clear hsp)
    | (go_at_call 14; refine hal.mono ?_; rintro e w3 ⟨rfl, b3⟩; clear hal))
  go_ret
  exact ⟨rfl, b3⟩

theorem parts_out3 (a n t : Int) (w : World) (ha : I64 a) (hn : I64 n) (c1 : 0 ≤ a) (c2 : 0 ≤ n) (c3 : t < 1) :
    Calls Try.prog 7 #[.int .i64 a, .int .i64 n, .int .i64 t] w fun e w' => e = .returned (.bool true) ∧ Below w.heap.size w w' := by
  have hsp := split_err a n t w ha hn (by unfold Dom; omega)
  have hal := alive_any w
  unfold I64 at ha hn
  go_enter Try.func7, Try.ntmps7
  go_wp2_with (first
    | (go_at_call 17; refine hsp.mono ?_; rintro e w ⟨rfl, rfl⟩; clear hsp)
    | (go_at_call 14; refine hal.mono ?_; rintro e w3 ⟨rfl, b3⟩; clear hal))
  go_ret
  exact ⟨rfl, b3⟩

theorem parts_out4 (a n t : Int) (w : World) (ha : I64 a) (hn : I64 n) (c1 : 0 ≤ a) (c2 : 0 ≤ n) (c3 : 1 ≤ t) (c4 : 65536 < n) :
    Calls Try.prog 7 #[.int .i64 a, .int .i64 n, .int .i64 t] w fun e w' => e = .returned (.bool true) ∧ Below w.heap.size w w' := by
  have hsp := split_err a n t w ha hn (by unfold Dom; omega)
  have hal := alive_any w
  unfold I64 at ha hn
  go_enter Try.func7, Try.ntmps7
  go_wp2_with (first
    | (go_at_call 17; refine hsp.mono ?_; rintro e w ⟨rfl, rfl⟩; clear hsp)
    | (go_at_call 14; refine hal.mono ?_; rintro e w3 ⟨rfl, b3⟩; clear hal))
  go_ret
  exact ⟨rfl, b3⟩

theorem parts_out5 (a n t : Int) (w : World) (ha : I64 a) (hn : I64 n) (c1 : 0 ≤ a) (c2 : 0 ≤ n) (c3 : 1 ≤ t) (c4 : n ≤ 65536) (c5 : 2147483647 - n < a) :
    Calls Try.prog 7 #[.int .i64 a, .int .i64 n, .int .i64 t] w fun e w' => e = .returned (.bool true) ∧ Below w.heap.size w w' := by
  have hsp := split_err a n t w ha hn (by unfold Dom; omega)
  have hal := alive_any w
  unfold I64 at ha hn
  go_enter Try.func7, Try.ntmps7
  go_wp2_with (first
    | (go_at_call 17; refine hsp.mono ?_; rintro e w ⟨rfl, rfl⟩; clear hsp)
    | (go_at_call 14; refine hal.mono ?_; rintro e w3 ⟨rfl, b3⟩; clear hal))
  go_ret
  exact ⟨rfl, b3⟩

theorem parts_walk (a n t : Int) (wa : (Lit.int .i64 a).wf = true) (wn : (Lit.int .i64 n).wf = true) (wt : (Lit.int .i64 t).wf = true) (w : World) :
    Calls Try.prog 7 #[.int .i64 a, .int .i64 n, .int .i64 t] w fun e w' => e = .returned (.bool true) ∧ Below w.heap.size w w' := by
  have ha := bounds_i64 wa
  have hn := bounds_i64 wn
  have ht := bounds_i64 wt
  by_cases c1 : a < 0
  · exact parts_out1 a n t w ha hn c1
  · by_cases c2 : n < 0
    · exact parts_out2 a n t w ha hn (by omega) c2
    · by_cases c3 : t < 1
      · exact parts_out3 a n t w ha hn (by omega) (by omega) c3
      · by_cases c4 : 65536 < n
        · exact parts_out4 a n t w ha hn (by omega) (by omega) (by omega) c4
        · by_cases c5 : 2147483647 - n < a
          · exact parts_out5 a n t w ha hn (by omega) (by omega) (by omega) (by omega) c5
          · have h := parts_in a.toNat n.toNat t.toNat w (by omega) (by omega) (by omega) (by omega)
            rw [Int.toNat_of_nonneg (show 0 ≤ a by omega), Int.toNat_of_nonneg (show 0 ≤ n by omega), Int.toNat_of_nonneg (show 0 ≤ t by omega)] at h
            exact h
end Go.Proofs.Ytcgoepbmbeimmaa
