/- The contract of octets.Split. -/
import Derived.Test.YtcgoepbmbeimmabParts
import Derived.Deep.AppendLies
namespace Go.Proofs.Ytcgoepbmbeimmab
open Go.ChangeShapes Go.WideShapes Go.ChangeAt Go.RowKit

theorem Try.infoPair : (Try.prog.info? 26).map (fun i => (i.zero, i.size, i.bytes)) = some (some (.agg #[.int .i64 0, .int .i64 0]), 2, 16) := by kernel_rfl

theorem split_ok (a n t : Nat) (w : World) (ht : 1 ≤ t) (ht2 : t ≤ 9223372036854775807) (hn : n ≤ 65536) (han : a + n ≤ 2147483647) :
    Calls Try.prog 7 #[.int .i64 a, .int .i64 n, .int .i64 t] w fun e w' => ∃ v, e = .returned v ∧
      w'.ownsRow w.heap.size 26 2 v (parts t a n).length (pairs (parts t a n)) ∧ Below w.heap.size w w' := by
  obtain ⟨i0, hi, hz0, hz1, hz2⟩ := info_parts Try.infoPair
  have hf : fitsB a n 2147483647 = true := by unfold fitsB; simp; omega
  go_enter Try.func7, Try.ntmps7
  go_wp2_with (go_at_call 5; refine (fits_any _ _ _ _ (by unfold I64; omega) (by unfold I64; omega) (by unfold I64; omega)).mono ?_; rintro e w ⟨rfl, rfl⟩)
  clear hf
  go_loopw [0, 1, 7] (fun x y v wr => ∃ (a' n' : Nat) (d : List (Nat × Nat)), x = .int .i64 a' ∧ y = .int .i64 n' ∧ Hid (d ++ parts t a' n' = parts t a n) ∧ d.length + n' ≤ n ∧ Hid (a' + n' = a + n) ∧ a' + n' ≤ 2147483647 ∧ wr.ownsRow w.heap.size 26 2 v d.length (pairs d) ∧ Below w.heap.size w wr)
    (fun _ y _ _ => (intOf y).toNat)
  case atStart => exact ⟨a, n, [], rfl, rfl, rfl, by simp, rfl, han, World.ownsRow_nil _ _ _ _, Below.refl _ _⟩
  case round =>
    obtain ⟨a', n', d, rfl, rfl, hd, hl, hs, hs2, hown, hbel⟩ := hrel
    by_cases hlt : 1 ≤ n'
    · have hmod := Nat.mod_lt a' (show t > 0 by omega)
      have hm1 : (0 : Int) ≤ (a' : Int) % (t : Int) := by omega
      by_cases hc : t - a' % t < n'
      · have hc' : (t : Int) - (a' : Int) % (t : Int) < (n' : Int) := by omega
        go_wp2_with (at_builtin; refine wpList_append_lies _ rfl _ _ 24 rfl w.heap.size 26 i0 _ 2 16 Try.underlying24 hi hz0 hz1 hz2 rfl (by decide) _ d.length _ rfl (hown.alloc _) ⟨wr.heap.size, 0, none⟩ 1 1 [.int .i64 a', .int .i64 ((t : Int) - (a' : Int) % (t : Int))] rfl rfl (World.news_of_block (cs := #[.int .i64 a', .int .i64 ((t : Int) - (a' : Int) % (t : Int))]) (t := 26) (fr := (0, 0)) (heap_alloc_new wr _)) (by simp [Value.oneCell']) (by decide) (by unfold maxLen; omega) (by omega) (by simp only [World.size_alloc]; exact Nat.le_succ_of_le hbel.size) _ rfl ?_; intro g cp w2 own2 gr2 _ _)
        have hb2 : Below w.heap.size w w2 := (hbel.alloc hbel.size _).grown gr2 (by simp only [World.size_alloc]; exact Nat.le_succ_of_le hbel.size) (fun k' h => (hown.lt k' h).1)
        clear hown gr2 hbel hi hz0 hz1 hz2
        go_wp2
        go_roundw
        case rel =>
          have ec : ((t : Int) - (a' : Int) % (t : Int)) = ((t - a' % t : Nat) : Int) := by omega
          rw [ec] at own2 ⊢
          refine ⟨a' + (t - a' % t), n' - (t - a' % t), d ++ [(a', t - a' % t)], by go_num, by go_num, ?_, by simp; omega, ?_, by omega, ?_, hb2⟩
          · show _ = _
            rw [← hd.out, List.append_assoc]
            congr 1
            rw [parts_long t a' n' ht (by omega)]
            rfl
          · show _ = _
            have := hs.out
            omega
          · rw [pairs_append, List.length_append]
            exact own2
        case measure => simp [intOf]; omega
      · have hc' : (n' : Int) ≤ (t : Int) - (a' : Int) % (t : Int) := by omega
        go_wp2_with (at_builtin; refine wpList_append_lies _ rfl _ _ 24 rfl w.heap.size 26 i0 _ 2 16 Try.underlying24 hi hz0 hz1 hz2 rfl (by decide) _ d.length _ rfl (hown.alloc _) ⟨wr.heap.size, 0, none⟩ 1 1 [.int .i64 a', .int .i64 (n' : Int)] rfl rfl (World.news_of_block (cs := #[.int .i64 a', .int .i64 (n' : Int)]) (t := 26) (fr := (0, 0)) (heap_alloc_new wr _)) (by simp [Value.oneCell']) (by decide) (by unfold maxLen; omega) (by omega) (by simp only [World.size_alloc]; exact Nat.le_succ_of_le hbel.size) _ rfl ?_; intro g cp w2 own2 gr2 _ _)
        have hb2 : Below w.heap.size w w2 := (hbel.alloc hbel.size _).grown gr2 (by simp only [World.size_alloc]; exact Nat.le_succ_of_le hbel.size) (fun k' h => (hown.lt k' h).1)
        clear hown gr2 hbel hi hz0 hz1 hz2
        go_wp2
        go_roundw
        case rel =>
          refine ⟨a' + n', n' - n', d ++ [(a', n')], by go_num, by go_num, ?_, by simp; omega, ?_, by omega, ?_, hb2⟩
          · show _ = _
            rw [← hd.out, List.append_assoc]
            congr 1
            rw [parts_short t a' n' ht hlt (by omega), Nat.sub_self, parts_zero]
            rfl
          · show _ = _
            have := hs.out
            omega
          · rw [pairs_append, List.length_append]
            exact own2
        case measure => simp [intOf]; omega
    · obtain rfl : n' = 0 := by omega
      have hd' := hd.out
      rw [parts_zero, List.append_nil] at hd'
      have HD : Hid (d = parts t a n) := hd'
      clear hd' hd
      go_wp2
      go_ret
      refine ⟨_, rfl, ?_, hbel⟩
      rw [← HD.out]
      exact hown
end Go.Proofs.Ytcgoepbmbeimmab
