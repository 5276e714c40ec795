/- The walk of OctetsRanges: for every three ints it returns true and writes nothing that was there. -/
import Derived.Test.YtcgoepbmbeimmaaRSplit
import Derived.Test.YtcgoepbmbeimmaaAlive
import Derived.Test.YtcgoepbmbeimmaaPairEq
import Derived.Deep.QuietTactic
import Derived.BigQuiet
namespace Go.Proofs.Ytcgoepbmbeimmaa
open Go.ChangeShapes Go.WideShapes Go.ChangeAt Go.RowKit

theorem pairRow_drew {w : World} {ao : Option Addr} {ps : List (Nat × Nat)} (h : PairRow w ao ps) (q : Nat) : PairRow (w.drewN q) ao ps := h

theorem cut_len (a n t : Int) : (cut a n t).length ≤ 65536 := by
  unfold cut
  split
  · rename_i h
    unfold Dom at h
    have := parts_len t.toNat (by omega) n.toNat a.toNat
    omega
  · simp

set_option maxRecDepth 100000 in
set_option maxHeartbeats 1600000 in
theorem ranges_walk (a n t : Int) (wa : (Lit.int .i64 a).wf = true) (wn : (Lit.int .i64 n).wf = true) (wt : (Lit.int .i64 t).wf = true) (w : World) :
    Calls Try.prog 5 #[.int .i64 a, .int .i64 n, .int .i64 t] w fun e w' => e = .returned (.bool true) ∧ Below w.heap.size w w' := by
  have ha : I64 a := bounds_i64 wa
  have hn : I64 n := bounds_i64 wn
  have ht : I64 t := bounds_i64 wt
  have s1 := split_any a n t w ha hn ht
  have s2 := fun w => rsplit_any a n t w ha hn ht
  have f1 := fun w => fits_any a n t w ha hn ht
  have f2 := fun w => rfits_any a n t w ha hn ht
  have hlen := cut_len a n t
  obtain ⟨ps, hps⟩ : ∃ ps, ps = cut a n t := ⟨_, rfl⟩
  rw [← hps] at s1 s2 hlen
  clear hps wa wn wt ha hn ht
  go_enter Try.func5, Try.ntmps5
  go_wp2_with (first
    | (go_at_call 17; refine s1.mono ?_; rintro e w1 ⟨ao, cp, rfl, r1, b1⟩; have s3 := s2 w1; clear s1 s2)
    | (go_at_call 18; refine s3.mono ?_; rintro e w2 ⟨ao2, cp2, rfl, r2, b2⟩; have r1' := r1.below b2 (Nat.le_refl _); have b12 := b1.trans (b2.mono b1.size); clear s3 r1 b1 b2))
  go_loopw [9] (fun i wr => ∃ k : Nat, k ≤ ps.length ∧ i = .int .i64 k ∧ PairRow wr ao ps ∧ PairRow wr ao2 ps ∧ Below w.heap.size w wr) (fun i _ => ps.length - (intOf i).toNat)
  case atStart => exact ⟨0, Nat.zero_le _, rfl, r1', r2, b12⟩
  case round =>
    clear r1' r2 b12
    obtain ⟨k, hk, rfl, r1, r2, hbel⟩ := hrel
    by_cases hlt : k < ps.length
    · obtain ⟨p, hp⟩ : ∃ p, ps[k]? = some p := ⟨ps[k], by simp [hlt]⟩
      obtain ⟨g, hao, _, q1, q2⟩ := r1 k p hp
      obtain ⟨g2, hao2, _, q3, q4⟩ := r2 k p hp
      subst hao
      subst hao2
      have hk1 : (k : Int) < (ps.length : Int) := by omega
      have hk0 : (0 : Int) ≤ (k : Int) := by omega
      have heq := pair_eq p.1 p.2 p.1 p.2
      clear hp f1 f2
      go_wp2_with fail
      go_quiet (fail)
      go_wp2
      go_roundw
      case rel => exact ⟨k + 1, by omega, by go_num, pairRow_drew r1 nq, pairRow_drew r2 nq, below_drewN hbel nq⟩
      case measure => simp [intOf]; omega
    · have hlt' : ¬ (k : Int) < (ps.length : Int) := by omega
      have hal := alive_any wr
      clear r1 r2 hlt
      go_wp2_with (first
        | (go_at_call 14; refine hal.mono ?_; rintro e w3 ⟨rfl, b3⟩; have f3 := f1 w3; have f4 := f2 w3; clear hal f1 f2)
        | (go_at_call 19; refine f3.mono ?_; rintro e w4 ⟨rfl, h4⟩; subst h4; clear f3)
        | (go_at_call 20; refine f4.mono ?_; rintro e w5 ⟨rfl, h5⟩; subst h5; clear f4))
      go_ret
      exact ⟨rfl, hbel.trans (b3.mono hbel.size)⟩
end Go.Proofs.Ytcgoepbmbeimmaa
