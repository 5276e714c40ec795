/- The law's picked: whole sectors, from 1 to 40. -/
import Derived.Test.YtoeanaadlihkeabDoorMkAlive
import Derived.Laws.CopyOwn
namespace Go.Proofs.YtoeanaadlihkeabDoor
open Go.ChangeShapes Go.WideShapes Go.ChangeAt Go.RowKit
set_option linter.unusedVariables false

/-- Bytes laid over the beginning of a row of noughts. -/
theorem spliced6 (f : Nat → Nat) (n M : Nat) (hn : n ≤ M) : splice (cellsN .u8 M fun _ => 0).toList 0 ((List.range n).map fun j => Value.int .u8 (f j : Nat)) = (cellsN .u8 M fun j => if j < n then f j else 0).toList := by
  apply List.ext_getElem?
  intro i
  unfold splice
  rw [List.take_zero, List.nil_append]
  by_cases h1 : i < n
  · have e := cellsN_get .u8 M (fun j => if j < n then f j else 0) i (by omega)
    rw [← Array.getElem?_toList, if_pos h1] at e
    rw [List.getElem?_append_left (by simpa using h1), e]
    simp [h1]
  · rw [List.getElem?_append_right (by simp; omega), List.getElem?_drop]
    simp only [List.length_map, List.length_range]
    rw [show 0 + n + (i - n) = i from by omega]
    by_cases h2 : i < M
    · rw [Array.getElem?_toList, Array.getElem?_toList, cellsN_get _ _ _ _ h2, cellsN_get _ _ _ _ h2, if_neg h1]
    · rw [List.getElem?_eq_none (by simp [cellsN]; omega), List.getElem?_eq_none (by simp [cellsN]; omega)]

theorem ints_one (f : Nat → Nat) (n : Nat) : ∀ v ∈ (List.range n).map fun j => Value.int .u8 (f j : Nat), v.oneCell' = true := by
  intro v hv
  obtain ⟨j, _, rfl⟩ := List.mem_map.1 hv
  rfl

theorem Bytes.src {w : World} {a : Option Addr} {n : Nat} {f : Nat → Nat} (hb : Bytes w a n f) (c : Nat) (hc : c ≤ n) : 0 < ((List.range c).map fun j => Value.int .u8 (f j : Nat)).length → ∃ ad, a = some ad ∧ ∀ j v, ((List.range c).map fun j => Value.int .u8 (f j : Nat))[j]? = some v → w.cell? (ad.add j) = some v := by
  intro h0
  simp only [List.length_map, List.length_range] at h0
  rcases hb with h | ⟨b, off, rfl, h2, h3⟩
  · omega
  · refine ⟨_, rfl, fun j v hv => ?_⟩
    rw [Addr.add_mid]
    have hj : j < c := by have := (List.getElem?_eq_some_iff.1 hv).1; simpa using this
    rw [h3 j (by omega), ← hv]
    simp [hj]

def pickN (L : Nat) : Nat := min (max (L / 64) 1) 40
def pickF (d : Nat → Nat) (L : Nat) : Nat → Nat := fun j => if j < L then d j else 0

theorem pickN_in (L : Nat) : 1 ≤ pickN L ∧ pickN L ≤ 40 := by unfold pickN; omega
theorem pickF_lt (d : Nat → Nat) (L : Nat) (hd : ∀ j, d j < 256) (j : Nat) : pickF d L j < 256 := by
  unfold pickF
  split
  · exact hd j
  · decide

theorem own_has6 {w : World} {base n g : Nat} {f : Nat → Nat} (h : w.ownsRow base 5 1 (.slice (some ⟨g, 0, none⟩) n n) n (bl f n)) : Has w g 5 (cellsN .u8 n f) := by
  rcases h.2 with ⟨e, _⟩ | ⟨g', cap, cur, e, hb, hg, hn, hm, hs, ht⟩
  · cases e
  · injection e with e1 _ e3
    injection e1 with e1
    injection e1 with e1
    subst e1 e3
    have hc : cur = cellsN .u8 n f := by
      apply Array.toList_inj.1
      rw [← List.take_of_length_le (l := cur.toList) (i := n * 1) (by rw [Array.length_toList, hs]; exact Nat.le_refl _), ht]
      unfold bl cellsN
      rfl
    show w.heap[g]? = _
    rw [hg, hc]

theorem make_has (n : Nat) (hn : n ≤ 10000000) (w : World) : ∃ w', Has w' w.heap.size 5 (cellsN .u8 n fun _ => 0) ∧ Below w.heap.size w w' ∧
    ∀ (o : Oper) (a : Act) (l c : Operand), o.op = .makeSlice 22 l c → a.eval l = .int .i64 (n : Nat) → a.eval c = .int .i64 (n : Nat) → (execOp a.eval o).run Tryd.prog w = .ok (.value (.slice (some ⟨w.heap.size, 0, none⟩) n n)) w' := by
  obtain ⟨i0, hi, hz0, hz1, hz2⟩ := info_parts Tryd.info5
  obtain ⟨w', hrun, r1, r2⟩ := run_make_full (P := Tryd.prog) w w.heap.size 22 5 i0 (.int .u8 0) 1 Tryd.underlying22 hi hz0 hz1 .i64 .i64 n (by rw [hz2]; omega) (by unfold maxLen; omega) (Nat.le_refl _)
  rw [bl_zeros] at r1
  refine ⟨w', own_has6 r1, (Below.refl _ _).grown r2 (Nat.le_refl _) (by intro k h; cases h), ?_⟩
  intro o a l c ho hl hc
  unfold execOp
  simp [ho, hl, hc, hrun, Result.andThen]

/-- What picked lays, of M bytes. -/
theorem pick_words (d : Nat → Nat) (L M c : Nat) (a : Option Addr) (w : World) (hb : Bytes w a L d) (hM : M ≤ 100000) : ∃ (w1 : World) (cs : List Value), Has w1 w.heap.size 5 (cellsN .u8 M fun _ => 0) ∧ Below w.heap.size w w1 ∧
    (∀ (o : Oper) (a : Act) (l c : Operand), o.op = .makeSlice 22 l c → a.eval l = .int .i64 (M : Nat) → a.eval c = .int .i64 (M : Nat) → (execOp a.eval o).run Tryd.prog w = .ok (.value (.slice (some ⟨w.heap.size, 0, none⟩) M M)) w1) ∧
    cs.length = Nat.min L M ∧ (0 < cs.length → some (⟨w.heap.size, 0, none⟩ : Addr) = some ⟨w.heap.size, 0, none⟩ ∧ ∃ ad, a = some ad ∧ ∀ j v, cs[j]? = some v → w1.cell? (ad.add j) = some v) ∧ 0 + cs.length ≤ (cellsN .u8 M fun _ => 0).toList.length ∧
    (∀ v ∈ cs, v.oneCell' = true) ∧ (splice (cellsN .u8 M fun _ => 0).toList 0 cs).toArray = cellsN .u8 M (pickF d L) := by
  obtain ⟨w1, hH1, hb1, hmk⟩ := make_has M (by omega) w
  obtain ⟨cc, hcc⟩ : ∃ cc, cc = Nat.min L M := ⟨_, rfl⟩
  have hccb : cc ≤ L ∧ cc ≤ M := by rw [hcc]; exact ⟨Nat.min_le_left _ _, Nat.min_le_right _ _⟩
  have hby := hb.below hb1 (Nat.le_refl _)
  have HP : cellsN .u8 M (fun j => if j < cc then d j else 0) = cellsN .u8 M (pickF d L) := by
    apply cellsN_congr
    intro j hj
    unfold pickF
    by_cases h : j < L
    · rw [if_pos h, if_pos (by rw [hcc]; exact Nat.lt_min.2 ⟨h, hj⟩)]
    · rw [if_neg h, if_neg (by omega)]
  refine ⟨w1, (List.range cc).map fun j => Value.int .u8 (d j : Nat), hH1, hb1, hmk, by rw [hcc]; simp, fun h0 => ⟨rfl, hby.src cc hccb.1 h0⟩, by simp [cellsN]; omega, ints_one d cc, ?_⟩
  rw [spliced6 d cc M hccb.2, ← HP]

set_option maxRecDepth 100000 in
set_option maxHeartbeats 1600000 in
theorem picked_any (d : Nat → Nat) (L c : Nat) (a : Option Addr) (w : World) (hL : L ≤ maxLen) (hb : Bytes w a L d) :
    Calls Tryd.prog 5 #[.slice a L c] w fun e w' => e = .returned (.slice (some ⟨w.heap.size, 0, none⟩) (64 * pickN L : Nat) (64 * pickN L : Nat)) ∧ Has w' w.heap.size 5 (cellsN .u8 (64 * pickN L) (pickF d L)) ∧ Below w.heap.size w w' := by
  unfold maxLen at hL
  rcases (show (40 : Int) < (L : Int) / 64 ∨ (L : Int) / 64 < 1 ∨ (1 ≤ (L : Int) / 64 ∧ (L : Int) / 64 ≤ 40) from by omega) with h | h | ⟨h, h'⟩
  · rw [show 64 * pickN L = 2560 from by unfold pickN; omega]
    obtain ⟨w1, cs, hH1, hb1, hmk, s1, s2, s3, s4, s5⟩ := pick_words d L (2560) c a w hb (by omega)
    have S5 : Hid _ := s5
    clear s5
    go_enter Tryd.func5, Tryd.ntmps5
    go_wp2_with (first
      | ((at_make)
         (refine wpList_make6 rfl _ (hmk _ _ _ _ rfl rfl rfl) ?_))
      | ((refine wpList_copy_splice rfl (.tmp 13) (.tmp 14) 22 22 rfl 5 Tryd.underlying22 (by kernel_rfl) (some ⟨w.heap.size, 0, none⟩) a (2560) (2560) L c rfl rfl w.heap.size 0 (cellsN .u8 (2560) fun _ => 0).toList 5 hH1 cs s1 s2 s3 s4 w.heap.size w hb1 (Nat.le_refl _) ?_)
         (intro w5 hg5 hb5)
         (have hH5 : Has w5 w.heap.size 5 (cellsN .u8 (2560) (pickF d L)) := (by
            have hh := hg5.out
            rw [S5.out] at hh
            exact hh))
         (clear hg5)))
    go_ret
    exact ⟨rfl, hH5, hb5⟩
  · rw [show 64 * pickN L = 64 from by unfold pickN; omega]
    obtain ⟨w1, cs, hH1, hb1, hmk, s1, s2, s3, s4, s5⟩ := pick_words d L (64) c a w hb (by omega)
    have S5 : Hid _ := s5
    clear s5
    go_enter Tryd.func5, Tryd.ntmps5
    go_wp2_with (first
      | ((at_make)
         (refine wpList_make6 rfl _ (hmk _ _ _ _ rfl rfl rfl) ?_))
      | ((refine wpList_copy_splice rfl (.tmp 13) (.tmp 14) 22 22 rfl 5 Tryd.underlying22 (by kernel_rfl) (some ⟨w.heap.size, 0, none⟩) a (64) (64) L c rfl rfl w.heap.size 0 (cellsN .u8 (64) fun _ => 0).toList 5 hH1 cs s1 s2 s3 s4 w.heap.size w hb1 (Nat.le_refl _) ?_)
         (intro w5 hg5 hb5)
         (have hH5 : Has w5 w.heap.size 5 (cellsN .u8 (64) (pickF d L)) := (by
            have hh := hg5.out
            rw [S5.out] at hh
            exact hh))
         (clear hg5)))
    go_ret
    exact ⟨rfl, hH5, hb5⟩
  · obtain ⟨M, hM⟩ : ∃ M, M = 64 * pickN L := ⟨_, rfl⟩
    have hMi : Hid ((L : Int) / 64 * 64 = ((M : Nat) : Int)) := (by rw [hM]; unfold pickN; omega : (L : Int) / 64 * 64 = ((M : Nat) : Int))
    have hMb : M ≤ 2560 := by rw [hM]; unfold pickN; omega
    rw [← hM]
    clear hM
    obtain ⟨w1, cs, hH1, hb1, hmk, s1, s2, s3, s4, s5⟩ := pick_words d L (M) c a w hb (by omega)
    have S5 : Hid _ := s5
    clear s5
    go_enter Tryd.func5, Tryd.ntmps5
    go_wp2_with (first
      | ((at_make)
         (refine wpList_make6 rfl _ (hmk _ _ _ _ rfl (congrArg _ hMi.out) (congrArg _ hMi.out)) ?_))
      | ((refine wpList_copy_splice rfl (.tmp 13) (.tmp 14) 22 22 rfl 5 Tryd.underlying22 (by kernel_rfl) (some ⟨w.heap.size, 0, none⟩) a (M) (M) L c rfl rfl w.heap.size 0 (cellsN .u8 (M) fun _ => 0).toList 5 hH1 cs s1 s2 s3 s4 w.heap.size w hb1 (Nat.le_refl _) ?_)
         (intro w5 hg5 hb5)
         (have hH5 : Has w5 w.heap.size 5 (cellsN .u8 (M) (pickF d L)) := (by
            have hh := hg5.out
            rw [S5.out] at hh
            exact hh))
         (clear hg5)))
    go_ret
    exact ⟨rfl, hH5, hb5⟩
end Go.Proofs.YtoeanaadlihkeabDoor
