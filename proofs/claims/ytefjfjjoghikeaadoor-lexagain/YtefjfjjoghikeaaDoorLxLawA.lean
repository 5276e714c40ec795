/- LexAgain, walked. -/
import Derived.Test.YtefjfjjoghikeaaDoorLxText
namespace Go.Proofs.YtefjfjjoghikeaaDoor
open Go.ChangeShapes Go.WideShapes Go.ChangeAt Go.RowKit
set_option linter.unusedVariables false

set_option maxRecDepth 100000 in
set_option maxHeartbeats 2000000 in
theorem again_err (s : List UInt8) (w : World) (hs : s.length ≤ maxLen) {er o : Nat} (he : Scan s = .error (er, o)) : Calls Tryd.prog 4 #[.string (bs s)] w fun e w' => e = .returned (.bool true) ∧ Below w.heap.size w w' := by
  have hal := fun W => alive_c W
  have hA := fun W => scan_err_c W s hs he
  have her := (Scan_err he).1
  have her' : ¬ ((er : Nat) : Int) = 0 := by omega
  clear he her hs
  go_enter Tryd.func4, Tryd.ntmps4
  go_wp2_with (first
    | (go_at_call 8; refine (hal _).mono ?_; rintro e w4 ⟨rfl, hb4⟩)
    | (go_at_call 11; refine (hA _).mono ?_; rintro e w1 ⟨rfl, hb1⟩))
  go_ret
  exact ⟨rfl, below2 hb1 hb4⟩

theorem whereK_succ (ts : Toks) (k : Nat) (h : k < ts.length) : again ((ts.take (k + 1)).map (·.1)) = again ((ts.take k).map (·.1)) ++ txt ts[k].1 ++ [32] := by
  rw [List.take_succ_eq_append_getElem h, List.map_append, again_append]
  simp [again]

set_option maxRecDepth 100000 in
set_option maxHeartbeats 2000000 in
theorem again_ok (s : List UInt8) (w : World) (hs : s.length ≤ maxLen) {ts : Toks} (he : Scan s = .ok ts) : Calls Tryd.prog 4 #[.string (bs s)] w fun e w' => e = .returned (.bool true) ∧ Below w.heap.size w w' := by
  have hal := fun W => alive_c W
  have hA := fun W => scan_ok_c W s hs he
  obtain ⟨h500, hgood⟩ := Scan_len he
  obtain ⟨M, hM⟩ : ∃ M, M = ts.length := ⟨_, rfl⟩
  rw [← hM] at hA
  have hM5 : M ≤ 500 := by omega
  have HM : Hid (M = ts.length) := hM
  clear he hM hs h500
  go_enter Tryd.func4, Tryd.ntmps4
  go_wp2_with (go_at_call 11; refine (hA _).mono ?_; rintro e w1 ⟨A1, C1, rfl, hb1, hr1⟩)
  clear hA
  go_loopw [6, 7] (fun a z wr => ∃ k : Nat, k ≤ M ∧ z = .int .i64 (k : Nat) ∧ a = .string (bs (again ((ts.take k).map (·.1)))) ∧ TokRow wr w.heap.size (.slice A1 M C1) (turned (fun i _ => whereK ts i) k ts) ∧ Below w.heap.size w wr) (fun _ z _ => M - (intOf z).toNat)
  case atStart => exact ⟨0, Nat.zero_le _, rfl, rfl, by rw [turned_zero]; exact hr1, hb1⟩
  case round =>
    clear hr1 hb1
    obtain ⟨k, hk, rfl, rfl, hr, hbw⟩ := hrel
    have hal2 := again_len ((ts.take k).map (·.1)) (fun t ht => by
      obtain ⟨u, hu, rfl⟩ := List.mem_map.1 ht
      exact hgood u (List.mem_of_mem_take hu))
    rw [List.length_map, List.length_take] at hal2
    by_cases hlt : k < M
    · have hlt' : k < ts.length := by rw [← HM.out]; exact hlt
      have hlt2 : ((k : Nat) : Int) < ((M : Nat) : Int) := by omega
      have hkt : k < (turned (fun i _ => whereK ts i) k ts).length := by rw [turned_len]; exact hlt'
      obtain ⟨g, C, e, h1, h4, h5, h6, ⟨cur, hH, _⟩, hc⟩ := hr.lies (by intro e; rw [e] at hkt; simp at hkt)
      injection e with e1 e2 e3
      subst e1 e3
      clear e2
      have hcell : ∀ j, j < 4 → wr.cell? ⟨g, k * 4 + j, none⟩ = (tkv ts[k].1 ts[k].2)[j]? := by
        intro j hj
        have := hc k hkt j hj
        rw [turned_get _ _ _ _ hlt', if_neg (by omega)] at this
        exact this
      have c0 : wr.cell? ⟨g, k * 4, none⟩ = some (.int .i64 (ts[k].1.kind : Nat)) := hcell 0 (by decide)
      have c1 : wr.cell? ⟨g, k * 4 + 1, none⟩ = some (.string (bs ts[k].1.s)) := hcell 1 (by decide)
      have c2 : wr.cell? ⟨g, k * 4 + 2, none⟩ = some (.int .i64 (ts[k].1.n : Nat)) := hcell 2 (by decide)
      have c3 : wr.cell? ⟨g, k * 4 + 3, none⟩ = some (.int .i64 (ts[k].2 : Nat)) := hcell 3 (by decide)
      have f3 := hH.free (k * 4 + 3)
      have hw := whereK_succ ts k hlt'
      have hset := hr.set rfl k (whereK ts k) hkt
      have hts := turned_step (fun i _ => whereK ts i) k ts hlt'
      rw [hts] at hset
      have hgt := hgood ts[k] (List.getElem_mem hlt')
      have htx := fun W => text_c ts[k].1 hgt (whereK ts k) W
      have htl := txt_len hgt
      have hbs := hbw.setCell (p := ⟨g, k * 4 + 3, none⟩) h1 (.int .i64 (whereK ts k : Nat))
      unfold whereK at htx hset hbs
      generalize again ((ts.take k).map (·.1)) = A at hw htx hset hal2 hbs ⊢
      generalize ts[k].1 = t at c0 c1 c2 hw htx htl
      generalize ts[k].2 = p at c3
      have e1 : bs A ++ bs (txt t) = bs (A ++ txt t) := bs_cat _ _
      have e2 : bs (A ++ txt t) ++ ⟨#[32]⟩ = bs (A ++ txt t ++ [32]) := by rw [show (⟨#[32]⟩ : ByteArray) = bs [32] from rfl, bs_cat]
      have z1 : (bs A).size = A.length := bs_size _
      rw [← z1] at htx hset hbs
      have s1 : (bs A).size ≤ 100000 := by rw [bs_size]; omega
      have s2 : (bs (txt t)).size ≤ 129 := by rw [bs_size]; omega
      have s3 : (bs (A ++ txt t)).size ≤ 100129 := by rw [bs_size, List.length_append]; omega
      obtain ⟨A', hA'⟩ : ∃ A', A' = again ((ts.take (k + 1)).map (·.1)) := ⟨_, rfl⟩
      rw [← hw, ← hA'] at e2
      have HA' : Hid (A' = again ((ts.take (k + 1)).map (·.1))) := hA'
      clear hA'
      clear hts hr hc hcell hH hw hal2 z1
      go_wp2_with (go_at_call 12; refine (htx _).mono ?_; rintro e w5 ⟨rfl, hb5⟩)
      go_roundw
      case rel => exact ⟨k + 1, by omega, by go_num, by rw [HA'.out], hset.below hb5, hbs.trans (hb5.mono (by have := hbw.size; simp; omega))⟩
      case measure => simp [intOf]; omega
    · have hk2 : k = M := by omega
      subst hk2
      have hlt2 : ¬ ((k : Nat) : Int) < ((k : Nat) : Int) := by omega
      have hfull : ts.take k = ts := List.take_of_length_le (by rw [← HM.out]; exact Nat.le_refl _)
      rw [hfull] at hal2 ⊢
      rw [HM.out, turned_placed, ← HM.out] at hr
      have hsc := Scan_again (ts := ts.map (·.1)) (fun t ht => by
        obtain ⟨u, hu, rfl⟩ := List.mem_map.1 ht
        exact hgood u hu) (by rw [List.length_map, ← HM.out]; exact hM5)
      have hlen : (placed 0 (ts.map (·.1))).length = k := by rw [placed_eq, HM.out]; simp
      obtain ⟨A, hAe⟩ : ∃ A, A = again (ts.map (·.1)) := ⟨_, rfl⟩
      rw [← hAe] at hal2 hsc ⊢
      generalize placed 0 (ts.map (·.1)) = ps at hr hsc hlen
      have HL : Hid (ps.length = k) := hlen
      have H4 : Hid ((bs A).size = A.length) := bs_size A
      have hA2 : A.length ≤ 100000 := by omega
      have hsA : (bs A).size ≤ 100000 := by rw [bs_size]; exact hA2
      clear hlen hfull hAe hal2
      by_cases hlong : 2000 < A.length
      · have g1 : (2000 : Int) < ((bs A).size : Int) := by rw [H4.out]; omega
        have hN := fun W => scan_err_c W A (by unfold maxLen; omega) (er := 103) (o := 0) (by unfold Scan; rw [if_pos hlong])
        clear hsc
        go_wp2_with (first
          | (go_at_call 8; refine (hal _).mono ?_; rintro e w4 ⟨rfl, hb4⟩)
          | (go_at_call 11; refine (hN _).mono ?_; rintro e w2 ⟨rfl, hb2⟩))
        go_ret
        exact ⟨rfl, below3 hbw hb2 hb4⟩
      · have g1 : ¬ (2000 : Int) < ((bs A).size : Int) := by rw [H4.out]; omega
        have hsc := hsc hlong
        have hN := fun W => scan_ok_c W A (by unfold maxLen; omega) hsc
        rw [HL.out] at hN
        clear hsc
        go_wp2_with (first
          | (go_at_call 8; refine (hal _).mono ?_; rintro e w4 ⟨rfl, hb4⟩)
          | (go_at_call 11; refine (hN _).mono ?_; rintro e w2 ⟨A2, C2, rfl, hb2, hr2⟩)
          | (go_at_call 13; refine (same_c _ _ _ ps (hr.below hb2).at_ hr2.at_ (by rw [HL.out]; omega)).mono ?_; rintro e w3 ⟨rfl, hb3⟩))
        go_ret
        exact ⟨rfl, below2 (below3 hbw hb2 hb3) hb4⟩

theorem again_walk (s : List UInt8) (w : World) (hs : s.length ≤ maxLen) : Calls Tryd.prog 4 #[.string (bs s)] w fun e w' => e = .returned (.bool true) ∧ Below w.heap.size w w' := by
  cases e : Scan s with
  | error r => obtain ⟨er, o⟩ := r; exact again_err s w hs e
  | ok ts => exact again_ok s w hs e
end Go.Proofs.YtefjfjjoghikeaaDoor
