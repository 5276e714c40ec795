/- The reference's CutMoment. -/
import Derived.Test.YtalcalecmklcoaaRfPb
namespace Go.Proofs.Ytalcalecmklcoaa
open Go.ChangeShapes Go.WideShapes Go.ChangeAt Go.RowKit
set_option linter.unusedVariables false

variable {w w' : World} {q m : Nat} {s : DS} {Fl Ll : List RW} {sp : List Nat} {vF vL vS : Value}

theorem mom_kp (m : Int) (l : List AE) : momL m l = l.filter (kp m) := rfl

theorem filter_map_e (m : Int) (l : List RW) : (l.filter (fun r => kp m r.e)).map (·.e) = momL m (l.map (·.e)) := by
  rw [mom_kp, List.filter_map]
  rfl

set_option maxRecDepth 100000 in
set_option maxHeartbeats 16000000 in
theorem cutMoR (h : RefAt w q s m Fl Ll sp vF vL vS) (i : Int) (a : Option Addr) (L C : Nat) (kf : Nat → Bool) (hk : Bools w a L kf) (hn : Ll.length ≤ 10000) (hF : Fl.length ≤ 10000) (hsp : sp.length ≤ 10000) :
    Calls Try.prog 30 #[ptr q, .int .i64 i, .slice a L C] w fun e w' => LeftR w w' e (cutMoD s m i (keepOf kf L)) Fl Ll sp := by
  have h2 : w.cell? ⟨q, 2, none⟩ = some vL := h.cell 2
  have h5 : w.cell? ⟨q, 5, none⟩ = some (.int .i64 (m : Nat)) := h.cell 5
  have hqlt := h.has.lt
  obtain ⟨aL, cL, rfl, hcL, _, hsL, hrL⟩ := row_is h.lr
  obtain ⟨N, hN⟩ : ∃ N : Nat, ((N : Nat) : Int) = max (min i (m : Int)) 0 := ⟨(max (min i (m : Int)) 0).toNat, by omega⟩
  have HR : Hid (RefAt w q s m Fl Ll sp vF (.slice aL Ll.length cL) vS) := h
  have hm1 : ∀ wz (o : Oper) (ac : Act), o.op = .call { callee := .builtin .min, args := #[.tmp 10, .tmp 14], argTypes := #[3, 3] } → ac.eval (.tmp 10) = .int .i64 i → ac.eval (.tmp 14) = .int .i64 (m : Nat) → (execOp ac.eval o).run Try.prog wz = .ok (.value (.int .i64 (min i (m : Nat)))) wz := by
    intro wz o ac ho e1 e2
    unfold execOp
    simp only [ho, resolve, invoke, builtin, List.map_toArray, List.map_cons, List.map_nil, e1, e2]
    by_cases hc : ((m : Nat) : Int) < i
    · have e3 : min i ((m : Nat) : Int) = ((m : Nat) : Int) := by omega
      rw [e3]
      go_simp
      try omega
    · by_cases hc2 : i = ((m : Nat) : Int)
      · rw [hc2]
        go_simp
        try omega
      · have e3 : min i ((m : Nat) : Int) = i := by omega
        have e4 : i < ((m : Nat) : Int) := by omega
        rw [e3]
        go_simp
        try omega
  have HN : Hid (((N : Nat) : Int) = max (min i (m : Int)) 0) := hN
  obtain ⟨M, hM⟩ : ∃ M, M = min i ((m : Nat) : Int) := ⟨_, rfl⟩
  rw [← hM] at hm1
  have hmxN : ((M.toNat : Nat) : Int) = (N : Int) := by rw [hN, hM]; omega
  obtain ⟨n, hnL⟩ : ∃ n, n = Ll.length := ⟨_, rfl⟩
  rw [← hnL] at h2 hn hrL
  have Hn : Hid (n = Ll.length) := hnL
  clear h hN hM hnL hcL hsL
  go_enter Try.func30, Try.ntmps30
  go_wp2_with (first
    | (refine wpList_is (some 15) (.int .i64 M) rfl (by rfl) (hm1 _ _ _ rfl rfl rfl) ?_)
    | (refine wpList_is (some 16) (.int .i64 (M.toNat : Nat)) rfl (by rfl) (run_max0 _ rfl M rfl _) ?_; rw [hmxN]))
  clear hm1 hmxN
  go_loopw [7, 8] (fun lv iv wr => ∃ (k : Nat) (lst : List RW) (al : Option Addr) (cl : Nat), k ≤ n ∧ iv = .int .i64 (k : Nat) ∧ lv = .slice al lst.length cl ∧ lst.length ≤ k ∧ wr.ownsRow w.heap.size 78 5 (.slice al lst.length cl) lst.length (lst.flatMap rcell) ∧ Below w.heap.size w wr ∧ Hid (lst = (Ll.take k).filter (fun r => kp (N : Int) r.e)))
    (fun _ iv _ => n - (intOf iv).toNat)
  case atStart => exact ⟨0, [], none, 0, Nat.zero_le _, rfl, rfl, Nat.le_refl _, World.ownsRow_nil _ _ _ _, Below.refl _ _, (show _ = _ from rfl)⟩
  case round =>
    obtain ⟨k, lst, al, cl, hk', rfl, rfl, hlk, hown, hbel, hlst⟩ := hrel
    have i1 : (0 : Int) ≤ (k : Int) := by omega
    have k2 : wr.cell? ⟨q, 2, none⟩ = some (.slice aL n cL) := (hbel.cell (p := ⟨q, 2, none⟩) hqlt).trans h2
    by_cases hlt : k < n
    · obtain ⟨x, r, rfl, hxlt, hrk, hc⟩ := hrL.2 k hlt
      have hcr : ∀ j u, (rcell r)[j]? = some u → wr.cell? ⟨x, k * 5 + j, none⟩ = some u := fun j u hu => (hbel.cell (p := ⟨x, k * 5 + j, none⟩) hxlt).trans (hc j u hu)
      have i0 : (k : Int) < (n : Int) := by omega
      clear hc
      cases hsy : r.e.sync
      · by_cases hmo : r.e.mo ≤ (N : Int)
        · have hkp : kp (N : Int) r.e = true := by unfold kp; rw [hsy]; simpa using hmo
          go_wp2_with (first
            | (refine at_dst 32 rfl ?_; refine wpList_is (some 32) (.agg (rcell r).toArray) rfl (by rfl) (run_load_rw (.tmp 31) rfl x (k * 5) rfl r wr hcr) ?_)
            | (refine at_dst 9 rfl ?_; refine wpList_is_w (some 9) (.pointer (some ⟨wr.heap.size, 0, none⟩)) (wr.alloc (.cells #[.int .i64 0, .slice none 0 0, .bool false, .bool false, .int .i64 0] 78)) rfl (by rfl) (by kernel_rfl) ?_)
            | ((refine at_st 78 (.tmp 9) (.tmp 32) rfl ?_)
               (refine wpList_copy_rw wr r rfl (.tmp 9) (.tmp 32) rfl rfl rfl ?_)
               (intro w2 hH hB2)
               (have hBw : Below w.heap.size w w2 := hbel.trans (hB2.mono hbel.size))
               (have q2 : w2.cell? ⟨wr.heap.size, 2, none⟩ = some (.bool false) := (hH.cell 2).trans (by rw [← hsy]; rfl))
               (have q4 : w2.cell? ⟨wr.heap.size, 4, none⟩ = some (.int .i64 r.e.mo) := hH.cell 4)
               (have hown2 : w2.ownsRow w.heap.size 78 5 (.slice al lst.length cl) lst.length (lst.flatMap rcell) := own_keptB hown (fun g hg => hB2.block g (hown.lt g hg).2))
               (obtain ⟨g7, cap7, w7, hr7, hown7, hgr7, hl7⟩ := app_r r hown2 hBw.size (by omega) 29)
               (have hb7 : Below w.heap.size w w7 := hBw.trans ((only_app hgr7).below (fun g hg => (hown2.lt g hg).1) hBw.size))
               (clear hgr7))
            | (refine at_dst 53 rfl ?_; refine wpList_is (some 53) (.agg (rcell r).toArray) rfl (by rfl) (run_load_rw (.tmp 9) rfl wr.heap.size 0 rfl r w2 (fun j u hu => by rw [Nat.zero_add, hH.cell, List.getElem?_toArray]; exact hu)) ?_)
            | (refine at_dst 54 rfl ?_; refine wpList_is_w (some 54) (.slice (some ⟨w2.heap.size, 0, none⟩) 1 1) (w2.alloc (.cells (rcell r).toArray 78)) rfl (by rfl) (run_bs_r (.tmp 53) rfl r rfl w2) ?_)
            | (refine at_dst 55 rfl ?_; refine wpList_is_w (some 55) (.slice (some ⟨g7, 0, none⟩) (lst.length + 1) cap7) w7 rfl (by rfl) (run_app 29 (.tmp 52) (.tmp 54) rfl (.slice al lst.length cl) (.slice (some ⟨w2.heap.size, 0, none⟩) 1 1) rfl rfl _ 29 rfl hr7) ?_))
          go_roundw
          case rel =>
            refine ⟨k + 1, lst ++ [r], some ⟨g7, 0, none⟩, cap7, by omega, by go_num, by rw [List.length_append]; rfl, by rw [List.length_append]; simp; omega, ?_, hb7, ?_⟩
            · rw [List.length_append, List.flatMap_append]
              simpa using hown7
            · show _ = _
              rw [List.take_add_one, hrk, List.filter_append, ← hlst.out]
              simp [hkp]
          case measure => simp [intOf]; omega
        · have hkp : kp (N : Int) r.e = false := by unfold kp; rw [hsy]; simpa using hmo
          go_wp2_with (first
            | (refine at_dst 32 rfl ?_; refine wpList_is (some 32) (.agg (rcell r).toArray) rfl (by rfl) (run_load_rw (.tmp 31) rfl x (k * 5) rfl r wr hcr) ?_)
            | (refine at_dst 9 rfl ?_; refine wpList_is_w (some 9) (.pointer (some ⟨wr.heap.size, 0, none⟩)) (wr.alloc (.cells #[.int .i64 0, .slice none 0 0, .bool false, .bool false, .int .i64 0] 78)) rfl (by rfl) (by kernel_rfl) ?_)
            | ((refine at_st 78 (.tmp 9) (.tmp 32) rfl ?_)
               (refine wpList_copy_rw wr r rfl (.tmp 9) (.tmp 32) rfl rfl rfl ?_)
               (intro w2 hH hB2)
               (have hBw : Below w.heap.size w w2 := hbel.trans (hB2.mono hbel.size))
               (have q2 : w2.cell? ⟨wr.heap.size, 2, none⟩ = some (.bool false) := (hH.cell 2).trans (by rw [← hsy]; rfl))
               (have q4 : w2.cell? ⟨wr.heap.size, 4, none⟩ = some (.int .i64 r.e.mo) := hH.cell 4)
               (have hown2 : w2.ownsRow w.heap.size 78 5 (.slice al lst.length cl) lst.length (lst.flatMap rcell) := own_keptB hown (fun g hg => hB2.block g (hown.lt g hg).2))
               (obtain ⟨g7, cap7, w7, hr7, hown7, hgr7, hl7⟩ := app_r r hown2 hBw.size (by omega) 29)
               (have hb7 : Below w.heap.size w w7 := hBw.trans ((only_app hgr7).below (fun g hg => (hown2.lt g hg).1) hBw.size))
               (clear hgr7)))
          go_roundw
          case rel =>
            refine ⟨k + 1, lst, al, cl, by omega, by go_num, rfl, by omega, hown2, hBw, ?_⟩
            show _ = _
            rw [List.take_add_one, hrk, List.filter_append, ← hlst.out]
            simp [hkp]
          case measure => simp [intOf]; omega
      · by_cases hmo : r.e.mo < (N : Int)
        · have hkp : kp (N : Int) r.e = true := by unfold kp; rw [hsy]; simpa using hmo
          obtain ⟨bb, HB, HD⟩ : ∃ bb : Bool, Hid (bb = true) ∧ Hid (decide (r.e.mo < (N : Int)) = bb) := ⟨true, (show _ = _ from rfl), (show _ = _ from decide_eq_true hmo)⟩
          go_wp2_with (first
            | (refine at_dst 42 rfl ?_; refine wpList_unw (some 42) rfl (by obtain rfl := HB.out; rfl) ?_; simp only [Act.put, List.setIfInBounds_toArray, List.set_cons_zero, List.set_cons_succ]; refine wpList_unw (some 43) rfl (by obtain rfl := HB.out; rfl) ?_; simp only [Act.put, List.setIfInBounds_toArray, List.set_cons_zero, List.set_cons_succ]; refine wpList_unw (some 44) rfl (by obtain rfl := HB.out; rfl) ?_; simp only [Act.put, List.setIfInBounds_toArray, List.set_cons_zero, List.set_cons_succ]; refine wpList_unw (some 45) rfl (by obtain rfl := HB.out; rfl) ?_; simp only [Act.put, List.setIfInBounds_toArray, List.set_cons_zero, List.set_cons_succ]; refine wpList_unw (some 46) rfl (by obtain rfl := HB.out; rfl) ?_; simp only [Act.put, List.setIfInBounds_toArray, List.set_cons_zero, List.set_cons_succ]; refine wpList_unw (some 47) rfl (by obtain rfl := HB.out; rfl) ?_; simp only [Act.put, List.setIfInBounds_toArray, List.set_cons_zero, List.set_cons_succ]; refine wpList_unw (some 48) rfl (by obtain rfl := HB.out; rfl) ?_; simp only [Act.put, List.setIfInBounds_toArray, List.set_cons_zero, List.set_cons_succ]; refine wpList_unw (some 49) rfl (by obtain rfl := HB.out; rfl) ?_; simp only [Act.put, List.setIfInBounds_toArray, List.set_cons_zero, List.set_cons_succ]; refine wpList_unw (some 50) rfl (by obtain rfl := HB.out; rfl) ?_; simp only [Act.put, List.setIfInBounds_toArray, List.set_cons_zero, List.set_cons_succ])
            | (refine at_dst 51 rfl ?_; refine wpList_is (some 51) (.bool true) rfl (by rfl) (by obtain rfl := HB.out; rfl) ?_)
            | (refine at_dst 32 rfl ?_; refine wpList_is (some 32) (.agg (rcell r).toArray) rfl (by rfl) (run_load_rw (.tmp 31) rfl x (k * 5) rfl r wr hcr) ?_)
            | (refine at_dst 9 rfl ?_; refine wpList_is_w (some 9) (.pointer (some ⟨wr.heap.size, 0, none⟩)) (wr.alloc (.cells #[.int .i64 0, .slice none 0 0, .bool false, .bool false, .int .i64 0] 78)) rfl (by rfl) (by kernel_rfl) ?_)
            | ((refine at_st 78 (.tmp 9) (.tmp 32) rfl ?_)
               (refine wpList_copy_rw wr r rfl (.tmp 9) (.tmp 32) rfl rfl rfl ?_)
               (intro w2 hH hB2)
               (have hBw : Below w.heap.size w w2 := hbel.trans (hB2.mono hbel.size))
               (have q2 : w2.cell? ⟨wr.heap.size, 2, none⟩ = some (.bool true) := (hH.cell 2).trans (by rw [← hsy]; rfl))
               (have q4 : w2.cell? ⟨wr.heap.size, 4, none⟩ = some (.int .i64 r.e.mo) := hH.cell 4)
               (have hown2 : w2.ownsRow w.heap.size 78 5 (.slice al lst.length cl) lst.length (lst.flatMap rcell) := own_keptB hown (fun g hg => hB2.block g (hown.lt g hg).2))
               (obtain ⟨g7, cap7, w7, hr7, hown7, hgr7, hl7⟩ := app_r r hown2 hBw.size (by omega) 29)
               (have hb7 : Below w.heap.size w w7 := hBw.trans ((only_app hgr7).below (fun g hg => (hown2.lt g hg).1) hBw.size))
               (clear hgr7))
            | (refine at_dst 39 rfl ?_; refine wpList_is (some 39) (.bool bb) rfl (by rfl) (run_lti (.tmp 37) (.tmp 38) rfl r.e.mo (N : Int) rfl rfl bb HD.out w2) ?_)
            | (refine at_dst 53 rfl ?_; refine wpList_is (some 53) (.agg (rcell r).toArray) rfl (by rfl) (run_load_rw (.tmp 9) rfl wr.heap.size 0 rfl r w2 (fun j u hu => by rw [Nat.zero_add, hH.cell, List.getElem?_toArray]; exact hu)) ?_)
            | (refine at_dst 54 rfl ?_; refine wpList_is_w (some 54) (.slice (some ⟨w2.heap.size, 0, none⟩) 1 1) (w2.alloc (.cells (rcell r).toArray 78)) rfl (by rfl) (run_bs_r (.tmp 53) rfl r rfl w2) ?_)
            | (refine at_dst 55 rfl ?_; refine wpList_is_w (some 55) (.slice (some ⟨g7, 0, none⟩) (lst.length + 1) cap7) w7 rfl (by rfl) (run_app 29 (.tmp 52) (.tmp 54) rfl (.slice al lst.length cl) (.slice (some ⟨w2.heap.size, 0, none⟩) 1 1) rfl rfl _ 29 rfl hr7) ?_))
          go_roundw
          case rel =>
            refine ⟨k + 1, lst ++ [r], some ⟨g7, 0, none⟩, cap7, by omega, by go_num, by rw [List.length_append]; rfl, by rw [List.length_append]; simp; omega, ?_, hb7, ?_⟩
            · rw [List.length_append, List.flatMap_append]
              simpa using hown7
            · show _ = _
              rw [List.take_add_one, hrk, List.filter_append, ← hlst.out]
              simp [hkp]
          case measure => simp [intOf]; omega
        · have hkp : kp (N : Int) r.e = false := by unfold kp; rw [hsy]; simpa using hmo
          go_wp2_with (first
            | (refine at_dst 32 rfl ?_; refine wpList_is (some 32) (.agg (rcell r).toArray) rfl (by rfl) (run_load_rw (.tmp 31) rfl x (k * 5) rfl r wr hcr) ?_)
            | (refine at_dst 9 rfl ?_; refine wpList_is_w (some 9) (.pointer (some ⟨wr.heap.size, 0, none⟩)) (wr.alloc (.cells #[.int .i64 0, .slice none 0 0, .bool false, .bool false, .int .i64 0] 78)) rfl (by rfl) (by kernel_rfl) ?_)
            | ((refine at_st 78 (.tmp 9) (.tmp 32) rfl ?_)
               (refine wpList_copy_rw wr r rfl (.tmp 9) (.tmp 32) rfl rfl rfl ?_)
               (intro w2 hH hB2)
               (have hBw : Below w.heap.size w w2 := hbel.trans (hB2.mono hbel.size))
               (have q2 : w2.cell? ⟨wr.heap.size, 2, none⟩ = some (.bool true) := (hH.cell 2).trans (by rw [← hsy]; rfl))
               (have q4 : w2.cell? ⟨wr.heap.size, 4, none⟩ = some (.int .i64 r.e.mo) := hH.cell 4)
               (have hown2 : w2.ownsRow w.heap.size 78 5 (.slice al lst.length cl) lst.length (lst.flatMap rcell) := own_keptB hown (fun g hg => hB2.block g (hown.lt g hg).2))
               (obtain ⟨g7, cap7, w7, hr7, hown7, hgr7, hl7⟩ := app_r r hown2 hBw.size (by omega) 29)
               (have hb7 : Below w.heap.size w w7 := hBw.trans ((only_app hgr7).below (fun g hg => (hown2.lt g hg).1) hBw.size))
               (clear hgr7)))
          go_roundw
          case rel =>
            refine ⟨k + 1, lst, al, cl, by omega, by go_num, rfl, by omega, hown2, hBw, ?_⟩
            show _ = _
            rw [List.take_add_one, hrk, List.filter_append, ← hlst.out]
            simp [hkp]
          case measure => simp [intOf]; omega
    · obtain rfl : k = n := by omega
      have h := HR.out
      have hR := h.below hbel
      have hrow : RowIs wr al lst.length lst := by
        obtain ⟨a', c', e, _, _, _, hr⟩ := row_is (own_zero hown)
        injection e with e1 _ _
        rw [e1]
        exact hr
      have hsub : ∀ r ∈ lst, r ∈ Ll := fun r hr => by
        rw [hlst.out] at hr
        exact List.mem_of_mem_take (List.mem_filter.1 hr).1
      have hlf := leftR hR lst al lst.length cl hrow (fun r hr => hR.lb r (hsub r hr)) (fun r hr => hR.byt r (List.mem_append_right _ (hsub r hr))) a L C kf (hk.down hbel) (by omega) hF hsp
      have hfin : (⟨s.n, left (keepOf kf L) 0 (lst.map (·.e)) s.fst, [], s.bad, s.dead⟩ : DS) = cutMoD s m i (keepOf kf L) := by
        unfold cutMoD cutL
        rw [← HN.out, hlst.out, Hn.out, List.take_length, filter_map_e, h.log]
      have hll : lst.length ≤ Ll.length := by rw [← Hn.out]; exact hlk
      clear hR hrow
      go_wp2_with (first
        | ((go_at_call 51)
           (refine hlf.mono ?_)
           (intro e w2 hpost)
           (obtain ⟨q', Fl', vF', vS', rfl, r2⟩ := hpost)))
      go_ret
      exact LeftR.more (LeftR.down (w1 := wr) ⟨q', Fl', vF', vS', rfl, r2⟩ hbel) hfin hll hsub
end Go.Proofs.Ytalcalecmklcoaa
