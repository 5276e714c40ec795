/- The reference's rightExpr. -/
import Derived.Test.YtpckmllmjdafpaaGreatDoorPrExprM
namespace Go.Proofs.YtpckmllmjdafpaaGreatDoor
open Go.ChangeShapes Go.WideShapes Go.ChangeAt Go.RowKit
set_option linter.unusedVariables false

theorem not_useop {n : Nd} (h : n.op ≠ wUse) : useOk n = false := by
  unfold useOk
  rw [show (n.op == wUse) = false by simpa using h]
  rfl

theorem all_upto {p : Nat → Bool} {E : Nat} (h : ∀ j, j < E → p j = true) : (List.range E).all p = true := by
  rw [List.all_eq_true]
  intro j hj
  exact h j (List.mem_range.1 hj)

theorem all_not {p : Nat → Bool} {E k : Nat} (hk : k < E) (h : p k = false) : (List.range E).all p = false := by
  cases e : (List.range E).all p with
  | false => rfl
  | true =>
    rw [List.all_eq_true] at e
    have := e k (List.mem_range.2 hk)
    rw [h] at this
    cases this

theorem five {w : World} {g t : Nat} {a b c d e : Value} (h : Has w g t #[a, b, c, d, e]) : w.cell? ⟨g, 0, none⟩ = some a ∧ w.cell? ⟨g, 1, none⟩ = some b ∧ w.cell? ⟨g, 2, none⟩ = some c ∧ w.cell? ⟨g, 3, none⟩ = some d ∧ w.cell? ⟨g, 4, none⟩ = some e := ⟨h.cell 0, h.cell 1, h.cell 2, h.cell 3, h.cell 4⟩

set_option maxRecDepth 100000 in
set_option maxHeartbeats 4000000 in
theorem rexLinear_c (d N : Nat) (n : Nd) (A : Option Addr) (C : Nat) (w : World) (h : RdN w n A C) (hN : N ≤ 12) (hIH : ∀ m A' C' W, RdN W m A' C' → Calls Tryz.prog 29 #[nval m A' C', .int .i64 ((N : Int) + 1)] W (Yes W (rightE d m))) (hs : n.s = []) (hn : n.n = 0) (hl : 1 ≤ n.l.length) (ho : n.op = wLinear) :
    Calls Tryz.prog 29 #[nval n A C, .int .i64 (N : Nat)] w (Yes w (rightE (d + 1) n)) := by
  have f0 : (n.op == [108, 105, 110, 101, 97, 114]) = true := by rw [ho]; decide
  have f1 : (n.op == [115, 110, 97, 112, 115, 104, 111, 116]) = false := by rw [ho]; decide
  have f2 : (n.op == [99, 114, 121, 112, 116]) = false := by rw [ho]; decide
  have f3 : (n.op == [105, 110, 116, 101, 103, 114, 105, 116, 121]) = false := by rw [ho]; decide
  have f4 : (n.op == [118, 101, 114, 105, 116, 121]) = false := by rw [ho]; decide
  have f5 : (n.op == [99, 111, 110, 99, 97, 116]) = false := by rw [ho]; decide
  have f6 : (n.op == [109, 105, 114, 114, 111, 114]) = false := by rw [ho]; decide
  have hlen := h.len
  obtain ⟨g, off, Au, Cu, rfl, hg, hat⟩ := parts_at h (by omega)
  have hU : ∀ W, Calls Tryz.prog 28 #[.agg #[.string (bs n.op), .string (bs n.s), .int .i64 n.n, .int .i64 n.a, .slice (some ⟨g, off, none⟩) n.l.length C], .string ⟨#[117, 115, 101]⟩] W (Yes W false) := fun W => by
    have := leafUse_c n (some ⟨g, off, none⟩) n.l.length C W h.s rfl (by omega)
    rw [not_useop (by rw [ho]; decide)] at this
    exact this
  have hR := re_is (d := d) (n := n) (by rw [ho]; decide) hs hn
  have hot := bs_toList n.op
  unfold nval
  rw [hs, hn, show bs [] = (⟨#[]⟩ : ByteArray) from rfl] at hU ⊢
  obtain ⟨L, hL⟩ : ∃ L, L = n.l.length := ⟨_, rfl⟩
  rw [← hL] at hU hlen hl ⊢
  obtain ⟨V0, hV0⟩ : ∃ V, V = w.alloc (.cells #[.string (bs n.op), .string ⟨#[]⟩, .int .i64 0, .int .i64 n.a, .slice (some ⟨g, off, none⟩) L C] 24) := ⟨_, rfl⟩
  have hbV : Below w.heap.size w V0 := by rw [hV0]; exact b_one _ _
  have hVs : V0.heap.size = w.heap.size + 1 := by rw [hV0]; simp
  have HB : Hid (∀ W, Below V0.heap.size V0 W → Has W w.heap.size 24 #[.string (bs n.op), .string ⟨#[]⟩, .int .i64 0, .int .i64 n.a, .slice (some ⟨g, off, none⟩) L C]) := fun W hW => Has.below (by rw [hV0]; exact Has.new _ _ _) hW (by omega)
  have HA : Hid (∀ k W, k < L → Below V0.heap.size V0 W → NdAt W g (off + k * 5) (nth n.l k) (Au k) (Cu k) ∧ RdN W (nth n.l k) (Au k) (Cu k)) := fun k W hk hW => by
    obtain ⟨q1, q2⟩ := hat k (by omega)
    exact ⟨(q1.grow hbV hg).grow hW (by omega), (q2.grow hbV).grow hW⟩
  have HU : Hid (∀ W, Calls Tryz.prog 28 #[.agg #[.string (bs n.op), .string ⟨#[]⟩, .int .i64 0, .int .i64 n.a, .slice (some ⟨g, off, none⟩) L C], .string ⟨#[117, 115, 101]⟩] W (Yes W false)) := hU
  have HN : Hid (∀ k W, k < L → Below V0.heap.size V0 W → Calls Tryz.prog 28 #[nval (nth n.l k) (Au k) (Cu k), .string ⟨#[110, 117, 109]⟩] W (Yes W (partOk (fun _ => false) .nu (nth n.l k)))) := fun k W hk hW => by
    have hr := (HA.out k W hk hW).2
    exact leafNum_c (nth n.l k) (Au k) (nth n.l k).l.length (Cu k) W hr.s rfl (by have := hr.len; omega)
  have HM : Hid (∀ k W, k < L → Below V0.heap.size V0 W → Calls Tryz.prog 28 #[nval (nth n.l k) (Au k) (Cu k), .string ⟨#[110, 97, 109, 101]⟩] W (Yes W (partOk (fun _ => false) .na (nth n.l k)))) := fun k W hk hW => by
    have hr := (HA.out k W hk hW).2
    exact leafName_c (nth n.l k) (Au k) (nth n.l k).l.length (Cu k) W hr.s rfl (by have := hr.len; omega)
  have HX : Hid (∀ k W, k < L → Below V0.heap.size V0 W → Calls Tryz.prog 29 #[nval (nth n.l k) (Au k) (Cu k), .int .i64 ((N : Int) + 1)] W (Yes W (rightE d (nth n.l k)))) := fun k W hk hW => hIH _ _ _ W (HA.out k W hk hW).2
  have hNi : ¬ (12 : Int) < (N : Int) := by omega
  have hLi : ¬ (L : Int) < 1 := by omega
  have HL : Hid (L = n.l.length) := hL
  have hLm : L ≤ 9223372036854775807 := by omega
  have hp := pk3 (re := rightE d) (n := n) (a := .ex) (b := .nu) (c := .nu) (by rw [ho]; rfl)
  rw [← hL] at hp
  rw [hR, hp]
  clear hU hat hIH h hlen hL hs hn ho
  by_cases h3 : L = 3
  · subst h3
    rw [show partOk (rightE d) .nu (nth n.l 1) = partOk (fun _ => false) .nu (nth n.l 1) from rfl, show partOk (rightE d) .nu (nth n.l 2) = partOk (fun _ => false) .nu (nth n.l 2) from rfl, show partOk (rightE d) .ex (nth n.l 0) = rightE d (nth n.l 0) from rfl]
    cases b1 : partOk (fun _ => false) .nu (nth n.l 1)
    · rw [show (_ : Bool) = false from (show (decide (3 = 3) && (rightE d (nth n.l 0) && false && partOk (fun _ => false) .nu (nth n.l 2))) = false by simp)]
      clear hp hR
      go_enter Tryz.func29, Tryz.ntmps29
      go_wp2_with (first
        | ((go_at_call 28)
           (refine at_argP 1 (.string ⟨#[117, 115, 101]⟩) rfl ?_)
           (rw [← hV0])
           (refine (HU.out _).mono ?_)
           (rintro e w1 ⟨rfl, bk1⟩)
           (obtain ⟨p0, p1, p2, p3, p4⟩ := five (HB.out _ bk1)))
        | (refine at_dstL 44 rfl ?_; refine wpList_is (some 44) (.pointer (some ⟨g, off + 1 * 5, none⟩)) rfl (by rfl) (run_at_nd _ _ rfl g off 1 _ C rfl rfl (by omega) _) ?_)
        | (refine at_dstL 45 rfl ?_; refine wpList_is (some 45) (nval (nth n.l 1) (Au 1) (Cu 1)) rfl (by rfl) (run_load_nd _ rfl g _ rfl _ (HA.out 1 _ (by omega) bk1).1) ?_)
        | ((go_at_call 28)
           (refine at_argP 0 (nval (nth n.l 1) (Au 1) (Cu 1)) rfl ?_)
           (have hc := HN.out 1 _ (by omega) bk1)
           (rw [b1] at hc)
           (refine hc.mono ?_)
           (rintro e w2 ⟨rfl, hbw2⟩)
           (have bw2 := bk1.trans (hbw2.mono bk1.size))
           (obtain ⟨p0, p1, p2, p3, p4⟩ := five (HB.out _ bw2))))
      go_ret
      exact ⟨rfl, hbV.trans (bw2.mono (by omega))⟩
    · cases b2 : partOk (fun _ => false) .nu (nth n.l 2)
      · rw [show (_ : Bool) = false from (show (decide (3 = 3) && (rightE d (nth n.l 0) && true && false)) = false by simp)]
        clear hp hR
        go_enter Tryz.func29, Tryz.ntmps29
        go_wp2_with (first
          | ((go_at_call 28)
             (refine at_argP 1 (.string ⟨#[117, 115, 101]⟩) rfl ?_)
             (rw [← hV0])
             (refine (HU.out _).mono ?_)
             (rintro e w1 ⟨rfl, bk1⟩)
             (obtain ⟨p0, p1, p2, p3, p4⟩ := five (HB.out _ bk1)))
          | (refine at_dstL 44 rfl ?_; refine wpList_is (some 44) (.pointer (some ⟨g, off + 1 * 5, none⟩)) rfl (by rfl) (run_at_nd _ _ rfl g off 1 _ C rfl rfl (by omega) _) ?_)
          | (refine at_dstL 45 rfl ?_; refine wpList_is (some 45) (nval (nth n.l 1) (Au 1) (Cu 1)) rfl (by rfl) (run_load_nd _ rfl g _ rfl _ (HA.out 1 _ (by omega) bk1).1) ?_)
          | (refine at_dstL 53 rfl ?_; refine wpList_is (some 53) (.pointer (some ⟨g, off + 2 * 5, none⟩)) rfl (by rfl) (run_at_nd _ _ rfl g off 2 _ C rfl rfl (by omega) _) ?_)
          | (refine at_dstL 54 rfl ?_; refine wpList_is (some 54) (nval (nth n.l 2) (Au 2) (Cu 2)) rfl (by rfl) (run_load_nd _ rfl g _ rfl _ (HA.out 2 _ (by omega) bw2).1) ?_)
          | ((go_at_call 28)
             (refine at_argP 0 (nval (nth n.l 1) (Au 1) (Cu 1)) rfl ?_)
             (have hc := HN.out 1 _ (by omega) bk1)
             (rw [b1] at hc)
             (refine hc.mono ?_)
             (rintro e w2 ⟨rfl, hbw2⟩)
             (have bw2 := bk1.trans (hbw2.mono bk1.size))
             (obtain ⟨p0, p1, p2, p3, p4⟩ := five (HB.out _ bw2)))
          | ((go_at_call 28)
             (refine at_argP 0 (nval (nth n.l 2) (Au 2) (Cu 2)) rfl ?_)
             (have hc := HN.out 2 _ (by omega) bw2)
             (rw [b2] at hc)
             (refine hc.mono ?_)
             (rintro e w3 ⟨rfl, hbw3⟩)
             (have bw3 := bw2.trans (hbw3.mono bw2.size))
             (obtain ⟨p0, p1, p2, p3, p4⟩ := five (HB.out _ bw3))))
        go_ret
        exact ⟨rfl, hbV.trans (bw3.mono (by omega))⟩
      · have HF : Hid ((decide (3 = 3) && (rightE d (nth n.l 0) && true && true)) = (List.range 1).all (fun j => rightE d (nth n.l j))) := (by simp : (decide (3 = 3) && (rightE d (nth n.l 0) && true && true)) = (List.range 1).all (fun j => rightE d (nth n.l j)))
        generalize (decide (3 = 3) && (rightE d (nth n.l 0) && true && true)) = RES at HF ⊢
        clear hp hR
        go_enter Tryz.func29, Tryz.ntmps29
        go_wp2_with (first
          | ((go_at_call 28)
             (refine at_argP 1 (.string ⟨#[117, 115, 101]⟩) rfl ?_)
             (rw [← hV0])
             (refine (HU.out _).mono ?_)
             (rintro e w1 ⟨rfl, bk1⟩)
             (obtain ⟨p0, p1, p2, p3, p4⟩ := five (HB.out _ bk1)))
          | (refine at_dstL 44 rfl ?_; refine wpList_is (some 44) (.pointer (some ⟨g, off + 1 * 5, none⟩)) rfl (by rfl) (run_at_nd _ _ rfl g off 1 _ C rfl rfl (by omega) _) ?_)
          | (refine at_dstL 45 rfl ?_; refine wpList_is (some 45) (nval (nth n.l 1) (Au 1) (Cu 1)) rfl (by rfl) (run_load_nd _ rfl g _ rfl _ (HA.out 1 _ (by omega) bk1).1) ?_)
          | (refine at_dstL 53 rfl ?_; refine wpList_is (some 53) (.pointer (some ⟨g, off + 2 * 5, none⟩)) rfl (by rfl) (run_at_nd _ _ rfl g off 2 _ C rfl rfl (by omega) _) ?_)
          | (refine at_dstL 54 rfl ?_; refine wpList_is (some 54) (nval (nth n.l 2) (Au 2) (Cu 2)) rfl (by rfl) (run_load_nd _ rfl g _ rfl _ (HA.out 2 _ (by omega) bw2).1) ?_)
          | ((go_at_call 28)
             (refine at_argP 0 (nval (nth n.l 1) (Au 1) (Cu 1)) rfl ?_)
             (have hc := HN.out 1 _ (by omega) bk1)
             (rw [b1] at hc)
             (refine hc.mono ?_)
             (rintro e w2 ⟨rfl, hbw2⟩)
             (have bw2 := bk1.trans (hbw2.mono bk1.size))
             (obtain ⟨p0, p1, p2, p3, p4⟩ := five (HB.out _ bw2)))
          | ((go_at_call 28)
             (refine at_argP 0 (nval (nth n.l 2) (Au 2) (Cu 2)) rfl ?_)
             (have hc := HN.out 2 _ (by omega) bw2)
             (rw [b2] at hc)
             (refine hc.mono ?_)
             (rintro e w3 ⟨rfl, hbw3⟩)
             (have bw3 := bw2.trans (hbw3.mono bw2.size))
             (obtain ⟨p0, p1, p2, p3, p4⟩ := five (HB.out _ bw3))))
        go_loopw [8] (fun i wr => ∃ k : Nat, k ≤ 1 ∧ i = .int .i64 k ∧ Below V0.heap.size V0 wr ∧ Hid (∀ j, j < k → rightE d (nth n.l j) = true)) (fun i _ => 1 - (intOf i).toNat)
        case atStart => exact ⟨0, Nat.zero_le _, rfl, bw3, (fun j hj => absurd hj (Nat.not_lt_zero _) : ∀ j, j < 0 → rightE d (nth n.l j) = true)⟩
        case round =>
          obtain ⟨k, hk, rfl, bz, HA2⟩ := hrel
          obtain ⟨p0, p1, p2, p3, p4⟩ := five (HB.out _ bz)
          by_cases hlt : k < 1
          · have hc := HX.out k _ (by omega) bz
            cases hr : rightE d (nth n.l k) <;> rw [hr] at hc
            · have HR2 : Hid (rightE d (nth n.l k) = false) := hr
              clear hr
              go_wp2_with (first
                | (refine at_dstL 102 rfl ?_; refine wpList_is (some 102) (.pointer (some ⟨g, off + k * 5, none⟩)) rfl (by rfl) (run_at_nd _ _ rfl g off k _ C rfl rfl (by omega) _) ?_)
                | (refine at_dstL 103 rfl ?_; refine wpList_is (some 103) (nval (nth n.l k) (Au k) (Cu k)) rfl (by rfl) (run_load_nd _ rfl g _ rfl _ (HA.out k _ (by omega) bz).1) ?_)
                | ((go_at_call 29)
                   (refine hc.mono ?_)
                   (rintro e w9 ⟨rfl, hb9⟩)))
              go_ret
              refine ⟨?_, hbV.trans ((bz.trans (hb9.mono bz.size)).mono (by omega))⟩
              rw [HF.out, all_not hlt HR2.out]
              rfl
            · have HR2 : Hid (rightE d (nth n.l k) = true) := hr
              clear hr
              go_wp2_with (first
                | (refine at_dstL 102 rfl ?_; refine wpList_is (some 102) (.pointer (some ⟨g, off + k * 5, none⟩)) rfl (by rfl) (run_at_nd _ _ rfl g off k _ C rfl rfl (by omega) _) ?_)
                | (refine at_dstL 103 rfl ?_; refine wpList_is (some 103) (nval (nth n.l k) (Au k) (Cu k)) rfl (by rfl) (run_load_nd _ rfl g _ rfl _ (HA.out k _ (by omega) bz).1) ?_)
                | ((go_at_call 29)
                   (refine hc.mono ?_)
                   (rintro e w9 ⟨rfl, hb9⟩)))
              go_roundw
              case rel => exact ⟨k + 1, hlt, by go_num, bz.trans (hb9.mono bz.size), (fun j hj => by
                by_cases e : j < k
                · exact HA2.out j e
                · obtain rfl : j = k := by omega
                  exact HR2.out : ∀ j, j < k + 1 → rightE d (nth n.l j) = true)⟩
              case measure => simp [intOf]; omega
          · obtain rfl : k = 1 := by omega
            go_wp2
            go_ret
            refine ⟨?_, hbV.trans (bz.mono (by omega))⟩
            rw [HF.out, all_upto HA2.out]
            rfl
  · have h3i : ¬ (L : Int) = 3 := by omega
    rw [decide_eq_false h3, Bool.false_and]
    clear hp hR
    go_enter Tryz.func29, Tryz.ntmps29
    go_wp2_with (first
      | ((go_at_call 28)
         (refine at_argP 1 (.string ⟨#[117, 115, 101]⟩) rfl ?_)
         (rw [← hV0])
         (refine (HU.out _).mono ?_)
         (rintro e w1 ⟨rfl, bk1⟩)
         (obtain ⟨p0, p1, p2, p3, p4⟩ := five (HB.out _ bk1))))
    go_ret
    exact ⟨rfl, hbV.trans (bk1.mono (by omega))⟩

set_option maxRecDepth 100000 in
set_option maxHeartbeats 4000000 in
theorem rexSnapshot_c (d N : Nat) (n : Nd) (A : Option Addr) (C : Nat) (w : World) (h : RdN w n A C) (hN : N ≤ 12) (hIH : ∀ m A' C' W, RdN W m A' C' → Calls Tryz.prog 29 #[nval m A' C', .int .i64 ((N : Int) + 1)] W (Yes W (rightE d m))) (hs : n.s = []) (hn : n.n = 0) (hl : 1 ≤ n.l.length) (ho : n.op = wSnapshot) :
    Calls Tryz.prog 29 #[nval n A C, .int .i64 (N : Nat)] w (Yes w (rightE (d + 1) n)) := by
  have f0 : (n.op == [108, 105, 110, 101, 97, 114]) = false := by rw [ho]; decide
  have f1 : (n.op == [115, 110, 97, 112, 115, 104, 111, 116]) = true := by rw [ho]; decide
  have f2 : (n.op == [99, 114, 121, 112, 116]) = false := by rw [ho]; decide
  have f3 : (n.op == [105, 110, 116, 101, 103, 114, 105, 116, 121]) = false := by rw [ho]; decide
  have f4 : (n.op == [118, 101, 114, 105, 116, 121]) = false := by rw [ho]; decide
  have f5 : (n.op == [99, 111, 110, 99, 97, 116]) = false := by rw [ho]; decide
  have f6 : (n.op == [109, 105, 114, 114, 111, 114]) = false := by rw [ho]; decide
  have hlen := h.len
  obtain ⟨g, off, Au, Cu, rfl, hg, hat⟩ := parts_at h (by omega)
  have hU : ∀ W, Calls Tryz.prog 28 #[.agg #[.string (bs n.op), .string (bs n.s), .int .i64 n.n, .int .i64 n.a, .slice (some ⟨g, off, none⟩) n.l.length C], .string ⟨#[117, 115, 101]⟩] W (Yes W false) := fun W => by
    have := leafUse_c n (some ⟨g, off, none⟩) n.l.length C W h.s rfl (by omega)
    rw [not_useop (by rw [ho]; decide)] at this
    exact this
  have hR := re_is (d := d) (n := n) (by rw [ho]; decide) hs hn
  have hot := bs_toList n.op
  unfold nval
  rw [hs, hn, show bs [] = (⟨#[]⟩ : ByteArray) from rfl] at hU ⊢
  obtain ⟨L, hL⟩ : ∃ L, L = n.l.length := ⟨_, rfl⟩
  rw [← hL] at hU hlen hl ⊢
  obtain ⟨V0, hV0⟩ : ∃ V, V = w.alloc (.cells #[.string (bs n.op), .string ⟨#[]⟩, .int .i64 0, .int .i64 n.a, .slice (some ⟨g, off, none⟩) L C] 24) := ⟨_, rfl⟩
  have hbV : Below w.heap.size w V0 := by rw [hV0]; exact b_one _ _
  have hVs : V0.heap.size = w.heap.size + 1 := by rw [hV0]; simp
  have HB : Hid (∀ W, Below V0.heap.size V0 W → Has W w.heap.size 24 #[.string (bs n.op), .string ⟨#[]⟩, .int .i64 0, .int .i64 n.a, .slice (some ⟨g, off, none⟩) L C]) := fun W hW => Has.below (by rw [hV0]; exact Has.new _ _ _) hW (by omega)
  have HA : Hid (∀ k W, k < L → Below V0.heap.size V0 W → NdAt W g (off + k * 5) (nth n.l k) (Au k) (Cu k) ∧ RdN W (nth n.l k) (Au k) (Cu k)) := fun k W hk hW => by
    obtain ⟨q1, q2⟩ := hat k (by omega)
    exact ⟨(q1.grow hbV hg).grow hW (by omega), (q2.grow hbV).grow hW⟩
  have HU : Hid (∀ W, Calls Tryz.prog 28 #[.agg #[.string (bs n.op), .string ⟨#[]⟩, .int .i64 0, .int .i64 n.a, .slice (some ⟨g, off, none⟩) L C], .string ⟨#[117, 115, 101]⟩] W (Yes W false)) := hU
  have HN : Hid (∀ k W, k < L → Below V0.heap.size V0 W → Calls Tryz.prog 28 #[nval (nth n.l k) (Au k) (Cu k), .string ⟨#[110, 117, 109]⟩] W (Yes W (partOk (fun _ => false) .nu (nth n.l k)))) := fun k W hk hW => by
    have hr := (HA.out k W hk hW).2
    exact leafNum_c (nth n.l k) (Au k) (nth n.l k).l.length (Cu k) W hr.s rfl (by have := hr.len; omega)
  have HM : Hid (∀ k W, k < L → Below V0.heap.size V0 W → Calls Tryz.prog 28 #[nval (nth n.l k) (Au k) (Cu k), .string ⟨#[110, 97, 109, 101]⟩] W (Yes W (partOk (fun _ => false) .na (nth n.l k)))) := fun k W hk hW => by
    have hr := (HA.out k W hk hW).2
    exact leafName_c (nth n.l k) (Au k) (nth n.l k).l.length (Cu k) W hr.s rfl (by have := hr.len; omega)
  have HX : Hid (∀ k W, k < L → Below V0.heap.size V0 W → Calls Tryz.prog 29 #[nval (nth n.l k) (Au k) (Cu k), .int .i64 ((N : Int) + 1)] W (Yes W (rightE d (nth n.l k)))) := fun k W hk hW => hIH _ _ _ W (HA.out k W hk hW).2
  have hNi : ¬ (12 : Int) < (N : Int) := by omega
  have hLi : ¬ (L : Int) < 1 := by omega
  have HL : Hid (L = n.l.length) := hL
  have hLm : L ≤ 9223372036854775807 := by omega
  have hp := pk3 (re := rightE d) (n := n) (a := .ex) (b := .ex) (c := .nu) (by rw [ho]; rfl)
  rw [← hL] at hp
  rw [hR, hp]
  clear hU hat hIH h hlen hL hs hn ho
  by_cases h3 : L = 3
  · subst h3
    rw [show partOk (rightE d) .nu (nth n.l 2) = partOk (fun _ => false) .nu (nth n.l 2) from rfl, show partOk (rightE d) .ex (nth n.l 0) = rightE d (nth n.l 0) from rfl, show partOk (rightE d) .ex (nth n.l 1) = rightE d (nth n.l 1) from rfl]
    cases b1 : partOk (fun _ => false) .nu (nth n.l 2)
    · rw [show (_ : Bool) = false from (show (decide (3 = 3) && (rightE d (nth n.l 0) && rightE d (nth n.l 1) && false)) = false by simp)]
      clear hp hR
      go_enter Tryz.func29, Tryz.ntmps29
      go_wp2_with (first
        | ((go_at_call 28)
           (refine at_argP 1 (.string ⟨#[117, 115, 101]⟩) rfl ?_)
           (rw [← hV0])
           (refine (HU.out _).mono ?_)
           (rintro e w1 ⟨rfl, bk1⟩)
           (obtain ⟨p0, p1, p2, p3, p4⟩ := five (HB.out _ bk1)))
        | (refine at_dstL 67 rfl ?_; refine wpList_is (some 67) (.pointer (some ⟨g, off + 2 * 5, none⟩)) rfl (by rfl) (run_at_nd _ _ rfl g off 2 _ C rfl rfl (by omega) _) ?_)
        | (refine at_dstL 68 rfl ?_; refine wpList_is (some 68) (nval (nth n.l 2) (Au 2) (Cu 2)) rfl (by rfl) (run_load_nd _ rfl g _ rfl _ (HA.out 2 _ (by omega) bk1).1) ?_)
        | ((go_at_call 28)
           (refine at_argP 0 (nval (nth n.l 2) (Au 2) (Cu 2)) rfl ?_)
           (have hc := HN.out 2 _ (by omega) bk1)
           (rw [b1] at hc)
           (refine hc.mono ?_)
           (rintro e w2 ⟨rfl, hbw2⟩)
           (have bw2 := bk1.trans (hbw2.mono bk1.size))
           (obtain ⟨p0, p1, p2, p3, p4⟩ := five (HB.out _ bw2))))
      go_ret
      exact ⟨rfl, hbV.trans (bw2.mono (by omega))⟩
    · have HF : Hid ((decide (3 = 3) && (rightE d (nth n.l 0) && rightE d (nth n.l 1) && true)) = (List.range 2).all (fun j => rightE d (nth n.l j))) := (by simp [List.range_succ] : (decide (3 = 3) && (rightE d (nth n.l 0) && rightE d (nth n.l 1) && true)) = (List.range 2).all (fun j => rightE d (nth n.l j)))
      generalize (decide (3 = 3) && (rightE d (nth n.l 0) && rightE d (nth n.l 1) && true)) = RES at HF ⊢
      clear hp hR
      go_enter Tryz.func29, Tryz.ntmps29
      go_wp2_with (first
        | ((go_at_call 28)
           (refine at_argP 1 (.string ⟨#[117, 115, 101]⟩) rfl ?_)
           (rw [← hV0])
           (refine (HU.out _).mono ?_)
           (rintro e w1 ⟨rfl, bk1⟩)
           (obtain ⟨p0, p1, p2, p3, p4⟩ := five (HB.out _ bk1)))
        | (refine at_dstL 67 rfl ?_; refine wpList_is (some 67) (.pointer (some ⟨g, off + 2 * 5, none⟩)) rfl (by rfl) (run_at_nd _ _ rfl g off 2 _ C rfl rfl (by omega) _) ?_)
        | (refine at_dstL 68 rfl ?_; refine wpList_is (some 68) (nval (nth n.l 2) (Au 2) (Cu 2)) rfl (by rfl) (run_load_nd _ rfl g _ rfl _ (HA.out 2 _ (by omega) bk1).1) ?_)
        | ((go_at_call 28)
           (refine at_argP 0 (nval (nth n.l 2) (Au 2) (Cu 2)) rfl ?_)
           (have hc := HN.out 2 _ (by omega) bk1)
           (rw [b1] at hc)
           (refine hc.mono ?_)
           (rintro e w2 ⟨rfl, hbw2⟩)
           (have bw2 := bk1.trans (hbw2.mono bk1.size))
           (obtain ⟨p0, p1, p2, p3, p4⟩ := five (HB.out _ bw2))))
      go_loopw [8] (fun i wr => ∃ k : Nat, k ≤ 2 ∧ i = .int .i64 k ∧ Below V0.heap.size V0 wr ∧ Hid (∀ j, j < k → rightE d (nth n.l j) = true)) (fun i _ => 2 - (intOf i).toNat)
      case atStart => exact ⟨0, Nat.zero_le _, rfl, bw2, (fun j hj => absurd hj (Nat.not_lt_zero _) : ∀ j, j < 0 → rightE d (nth n.l j) = true)⟩
      case round =>
        obtain ⟨k, hk, rfl, bz, HA2⟩ := hrel
        obtain ⟨p0, p1, p2, p3, p4⟩ := five (HB.out _ bz)
        by_cases hlt : k < 2
        · have hc := HX.out k _ (by omega) bz
          cases hr : rightE d (nth n.l k) <;> rw [hr] at hc
          · have HR2 : Hid (rightE d (nth n.l k) = false) := hr
            clear hr
            go_wp2_with (first
              | (refine at_dstL 102 rfl ?_; refine wpList_is (some 102) (.pointer (some ⟨g, off + k * 5, none⟩)) rfl (by rfl) (run_at_nd _ _ rfl g off k _ C rfl rfl (by omega) _) ?_)
              | (refine at_dstL 103 rfl ?_; refine wpList_is (some 103) (nval (nth n.l k) (Au k) (Cu k)) rfl (by rfl) (run_load_nd _ rfl g _ rfl _ (HA.out k _ (by omega) bz).1) ?_)
              | ((go_at_call 29)
                 (refine hc.mono ?_)
                 (rintro e w9 ⟨rfl, hb9⟩)))
            go_ret
            refine ⟨?_, hbV.trans ((bz.trans (hb9.mono bz.size)).mono (by omega))⟩
            rw [HF.out, all_not hlt HR2.out]
            rfl
          · have HR2 : Hid (rightE d (nth n.l k) = true) := hr
            clear hr
            go_wp2_with (first
              | (refine at_dstL 102 rfl ?_; refine wpList_is (some 102) (.pointer (some ⟨g, off + k * 5, none⟩)) rfl (by rfl) (run_at_nd _ _ rfl g off k _ C rfl rfl (by omega) _) ?_)
              | (refine at_dstL 103 rfl ?_; refine wpList_is (some 103) (nval (nth n.l k) (Au k) (Cu k)) rfl (by rfl) (run_load_nd _ rfl g _ rfl _ (HA.out k _ (by omega) bz).1) ?_)
              | ((go_at_call 29)
                 (refine hc.mono ?_)
                 (rintro e w9 ⟨rfl, hb9⟩)))
            go_roundw
            case rel => exact ⟨k + 1, hlt, by go_num, bz.trans (hb9.mono bz.size), (fun j hj => by
              by_cases e : j < k
              · exact HA2.out j e
              · obtain rfl : j = k := by omega
                exact HR2.out : ∀ j, j < k + 1 → rightE d (nth n.l j) = true)⟩
            case measure => simp [intOf]; omega
        · obtain rfl : k = 2 := by omega
          go_wp2
          go_ret
          refine ⟨?_, hbV.trans (bz.mono (by omega))⟩
          rw [HF.out, all_upto HA2.out]
          rfl
  · have h3i : ¬ (L : Int) = 3 := by omega
    rw [decide_eq_false h3, Bool.false_and]
    clear hp hR
    go_enter Tryz.func29, Tryz.ntmps29
    go_wp2_with (first
      | ((go_at_call 28)
         (refine at_argP 1 (.string ⟨#[117, 115, 101]⟩) rfl ?_)
         (rw [← hV0])
         (refine (HU.out _).mono ?_)
         (rintro e w1 ⟨rfl, bk1⟩)
         (obtain ⟨p0, p1, p2, p3, p4⟩ := five (HB.out _ bk1))))
    go_ret
    exact ⟨rfl, hbV.trans (bk1.mono (by omega))⟩

set_option maxRecDepth 100000 in
set_option maxHeartbeats 4000000 in
theorem rexCrypt_c (d N : Nat) (n : Nd) (A : Option Addr) (C : Nat) (w : World) (h : RdN w n A C) (hN : N ≤ 12) (hIH : ∀ m A' C' W, RdN W m A' C' → Calls Tryz.prog 29 #[nval m A' C', .int .i64 ((N : Int) + 1)] W (Yes W (rightE d m))) (hs : n.s = []) (hn : n.n = 0) (hl : 1 ≤ n.l.length) (ho : n.op = wCrypt) :
    Calls Tryz.prog 29 #[nval n A C, .int .i64 (N : Nat)] w (Yes w (rightE (d + 1) n)) := by
  have f0 : (n.op == [108, 105, 110, 101, 97, 114]) = false := by rw [ho]; decide
  have f1 : (n.op == [115, 110, 97, 112, 115, 104, 111, 116]) = false := by rw [ho]; decide
  have f2 : (n.op == [99, 114, 121, 112, 116]) = true := by rw [ho]; decide
  have f3 : (n.op == [105, 110, 116, 101, 103, 114, 105, 116, 121]) = false := by rw [ho]; decide
  have f4 : (n.op == [118, 101, 114, 105, 116, 121]) = false := by rw [ho]; decide
  have f5 : (n.op == [99, 111, 110, 99, 97, 116]) = false := by rw [ho]; decide
  have f6 : (n.op == [109, 105, 114, 114, 111, 114]) = false := by rw [ho]; decide
  have hlen := h.len
  obtain ⟨g, off, Au, Cu, rfl, hg, hat⟩ := parts_at h (by omega)
  have hU : ∀ W, Calls Tryz.prog 28 #[.agg #[.string (bs n.op), .string (bs n.s), .int .i64 n.n, .int .i64 n.a, .slice (some ⟨g, off, none⟩) n.l.length C], .string ⟨#[117, 115, 101]⟩] W (Yes W false) := fun W => by
    have := leafUse_c n (some ⟨g, off, none⟩) n.l.length C W h.s rfl (by omega)
    rw [not_useop (by rw [ho]; decide)] at this
    exact this
  have hR := re_is (d := d) (n := n) (by rw [ho]; decide) hs hn
  have hot := bs_toList n.op
  unfold nval
  rw [hs, hn, show bs [] = (⟨#[]⟩ : ByteArray) from rfl] at hU ⊢
  obtain ⟨L, hL⟩ : ∃ L, L = n.l.length := ⟨_, rfl⟩
  rw [← hL] at hU hlen hl ⊢
  obtain ⟨V0, hV0⟩ : ∃ V, V = w.alloc (.cells #[.string (bs n.op), .string ⟨#[]⟩, .int .i64 0, .int .i64 n.a, .slice (some ⟨g, off, none⟩) L C] 24) := ⟨_, rfl⟩
  have hbV : Below w.heap.size w V0 := by rw [hV0]; exact b_one _ _
  have hVs : V0.heap.size = w.heap.size + 1 := by rw [hV0]; simp
  have HB : Hid (∀ W, Below V0.heap.size V0 W → Has W w.heap.size 24 #[.string (bs n.op), .string ⟨#[]⟩, .int .i64 0, .int .i64 n.a, .slice (some ⟨g, off, none⟩) L C]) := fun W hW => Has.below (by rw [hV0]; exact Has.new _ _ _) hW (by omega)
  have HA : Hid (∀ k W, k < L → Below V0.heap.size V0 W → NdAt W g (off + k * 5) (nth n.l k) (Au k) (Cu k) ∧ RdN W (nth n.l k) (Au k) (Cu k)) := fun k W hk hW => by
    obtain ⟨q1, q2⟩ := hat k (by omega)
    exact ⟨(q1.grow hbV hg).grow hW (by omega), (q2.grow hbV).grow hW⟩
  have HU : Hid (∀ W, Calls Tryz.prog 28 #[.agg #[.string (bs n.op), .string ⟨#[]⟩, .int .i64 0, .int .i64 n.a, .slice (some ⟨g, off, none⟩) L C], .string ⟨#[117, 115, 101]⟩] W (Yes W false)) := hU
  have HN : Hid (∀ k W, k < L → Below V0.heap.size V0 W → Calls Tryz.prog 28 #[nval (nth n.l k) (Au k) (Cu k), .string ⟨#[110, 117, 109]⟩] W (Yes W (partOk (fun _ => false) .nu (nth n.l k)))) := fun k W hk hW => by
    have hr := (HA.out k W hk hW).2
    exact leafNum_c (nth n.l k) (Au k) (nth n.l k).l.length (Cu k) W hr.s rfl (by have := hr.len; omega)
  have HM : Hid (∀ k W, k < L → Below V0.heap.size V0 W → Calls Tryz.prog 28 #[nval (nth n.l k) (Au k) (Cu k), .string ⟨#[110, 97, 109, 101]⟩] W (Yes W (partOk (fun _ => false) .na (nth n.l k)))) := fun k W hk hW => by
    have hr := (HA.out k W hk hW).2
    exact leafName_c (nth n.l k) (Au k) (nth n.l k).l.length (Cu k) W hr.s rfl (by have := hr.len; omega)
  have HX : Hid (∀ k W, k < L → Below V0.heap.size V0 W → Calls Tryz.prog 29 #[nval (nth n.l k) (Au k) (Cu k), .int .i64 ((N : Int) + 1)] W (Yes W (rightE d (nth n.l k)))) := fun k W hk hW => hIH _ _ _ W (HA.out k W hk hW).2
  have hNi : ¬ (12 : Int) < (N : Int) := by omega
  have hLi : ¬ (L : Int) < 1 := by omega
  have HL : Hid (L = n.l.length) := hL
  have hLm : L ≤ 9223372036854775807 := by omega
  have hp := pk2 (re := rightE d) (n := n) (a := .ex) (b := .na) (by rw [ho]; rfl)
  rw [← hL] at hp
  rw [hR, hp]
  clear hU hat hIH h hlen hL hs hn ho
  by_cases h3 : L = 2
  · subst h3
    rw [show partOk (rightE d) .na (nth n.l 1) = partOk (fun _ => false) .na (nth n.l 1) from rfl, show partOk (rightE d) .ex (nth n.l 0) = rightE d (nth n.l 0) from rfl]
    cases b1 : partOk (fun _ => false) .na (nth n.l 1)
    · rw [show (_ : Bool) = false from (show (decide (2 = 2) && (rightE d (nth n.l 0) && false)) = false by simp)]
      clear hp hR
      go_enter Tryz.func29, Tryz.ntmps29
      go_wp2_with (first
        | ((go_at_call 28)
           (refine at_argP 1 (.string ⟨#[117, 115, 101]⟩) rfl ?_)
           (rw [← hV0])
           (refine (HU.out _).mono ?_)
           (rintro e w1 ⟨rfl, bk1⟩)
           (obtain ⟨p0, p1, p2, p3, p4⟩ := five (HB.out _ bk1)))
        | (refine at_dstL 83 rfl ?_; refine wpList_is (some 83) (.pointer (some ⟨g, off + 1 * 5, none⟩)) rfl (by rfl) (run_at_nd _ _ rfl g off 1 _ C rfl rfl (by omega) _) ?_)
        | (refine at_dstL 84 rfl ?_; refine wpList_is (some 84) (nval (nth n.l 1) (Au 1) (Cu 1)) rfl (by rfl) (run_load_nd _ rfl g _ rfl _ (HA.out 1 _ (by omega) bk1).1) ?_)
        | ((go_at_call 28)
           (refine at_argP 0 (nval (nth n.l 1) (Au 1) (Cu 1)) rfl ?_)
           (have hc := HM.out 1 _ (by omega) bk1)
           (rw [b1] at hc)
           (refine hc.mono ?_)
           (rintro e w2 ⟨rfl, hbw2⟩)
           (have bw2 := bk1.trans (hbw2.mono bk1.size))
           (obtain ⟨p0, p1, p2, p3, p4⟩ := five (HB.out _ bw2))))
      go_ret
      exact ⟨rfl, hbV.trans (bw2.mono (by omega))⟩
    · have HF : Hid ((decide (2 = 2) && (rightE d (nth n.l 0) && true)) = (List.range 1).all (fun j => rightE d (nth n.l j))) := (by simp [List.range_succ] : (decide (2 = 2) && (rightE d (nth n.l 0) && true)) = (List.range 1).all (fun j => rightE d (nth n.l j)))
      generalize (decide (2 = 2) && (rightE d (nth n.l 0) && true)) = RES at HF ⊢
      clear hp hR
      go_enter Tryz.func29, Tryz.ntmps29
      go_wp2_with (first
        | ((go_at_call 28)
           (refine at_argP 1 (.string ⟨#[117, 115, 101]⟩) rfl ?_)
           (rw [← hV0])
           (refine (HU.out _).mono ?_)
           (rintro e w1 ⟨rfl, bk1⟩)
           (obtain ⟨p0, p1, p2, p3, p4⟩ := five (HB.out _ bk1)))
        | (refine at_dstL 83 rfl ?_; refine wpList_is (some 83) (.pointer (some ⟨g, off + 1 * 5, none⟩)) rfl (by rfl) (run_at_nd _ _ rfl g off 1 _ C rfl rfl (by omega) _) ?_)
        | (refine at_dstL 84 rfl ?_; refine wpList_is (some 84) (nval (nth n.l 1) (Au 1) (Cu 1)) rfl (by rfl) (run_load_nd _ rfl g _ rfl _ (HA.out 1 _ (by omega) bk1).1) ?_)
        | ((go_at_call 28)
           (refine at_argP 0 (nval (nth n.l 1) (Au 1) (Cu 1)) rfl ?_)
           (have hc := HM.out 1 _ (by omega) bk1)
           (rw [b1] at hc)
           (refine hc.mono ?_)
           (rintro e w2 ⟨rfl, hbw2⟩)
           (have bw2 := bk1.trans (hbw2.mono bk1.size))
           (obtain ⟨p0, p1, p2, p3, p4⟩ := five (HB.out _ bw2))))
      go_loopw [8] (fun i wr => ∃ k : Nat, k ≤ 1 ∧ i = .int .i64 k ∧ Below V0.heap.size V0 wr ∧ Hid (∀ j, j < k → rightE d (nth n.l j) = true)) (fun i _ => 1 - (intOf i).toNat)
      case atStart => exact ⟨0, Nat.zero_le _, rfl, bw2, (fun j hj => absurd hj (Nat.not_lt_zero _) : ∀ j, j < 0 → rightE d (nth n.l j) = true)⟩
      case round =>
        obtain ⟨k, hk, rfl, bz, HA2⟩ := hrel
        obtain ⟨p0, p1, p2, p3, p4⟩ := five (HB.out _ bz)
        by_cases hlt : k < 1
        · have hc := HX.out k _ (by omega) bz
          cases hr : rightE d (nth n.l k) <;> rw [hr] at hc
          · have HR2 : Hid (rightE d (nth n.l k) = false) := hr
            clear hr
            go_wp2_with (first
              | (refine at_dstL 102 rfl ?_; refine wpList_is (some 102) (.pointer (some ⟨g, off + k * 5, none⟩)) rfl (by rfl) (run_at_nd _ _ rfl g off k _ C rfl rfl (by omega) _) ?_)
              | (refine at_dstL 103 rfl ?_; refine wpList_is (some 103) (nval (nth n.l k) (Au k) (Cu k)) rfl (by rfl) (run_load_nd _ rfl g _ rfl _ (HA.out k _ (by omega) bz).1) ?_)
              | ((go_at_call 29)
                 (refine hc.mono ?_)
                 (rintro e w9 ⟨rfl, hb9⟩)))
            go_ret
            refine ⟨?_, hbV.trans ((bz.trans (hb9.mono bz.size)).mono (by omega))⟩
            rw [HF.out, all_not hlt HR2.out]
            rfl
          · have HR2 : Hid (rightE d (nth n.l k) = true) := hr
            clear hr
            go_wp2_with (first
              | (refine at_dstL 102 rfl ?_; refine wpList_is (some 102) (.pointer (some ⟨g, off + k * 5, none⟩)) rfl (by rfl) (run_at_nd _ _ rfl g off k _ C rfl rfl (by omega) _) ?_)
              | (refine at_dstL 103 rfl ?_; refine wpList_is (some 103) (nval (nth n.l k) (Au k) (Cu k)) rfl (by rfl) (run_load_nd _ rfl g _ rfl _ (HA.out k _ (by omega) bz).1) ?_)
              | ((go_at_call 29)
                 (refine hc.mono ?_)
                 (rintro e w9 ⟨rfl, hb9⟩)))
            go_roundw
            case rel => exact ⟨k + 1, hlt, by go_num, bz.trans (hb9.mono bz.size), (fun j hj => by
              by_cases e : j < k
              · exact HA2.out j e
              · obtain rfl : j = k := by omega
                exact HR2.out : ∀ j, j < k + 1 → rightE d (nth n.l j) = true)⟩
            case measure => simp [intOf]; omega
        · obtain rfl : k = 1 := by omega
          go_wp2
          go_ret
          refine ⟨?_, hbV.trans (bz.mono (by omega))⟩
          rw [HF.out, all_upto HA2.out]
          rfl
  · have h3i : ¬ (L : Int) = 2 := by omega
    rw [decide_eq_false h3, Bool.false_and]
    clear hp hR
    go_enter Tryz.func29, Tryz.ntmps29
    go_wp2_with (first
      | ((go_at_call 28)
         (refine at_argP 1 (.string ⟨#[117, 115, 101]⟩) rfl ?_)
         (rw [← hV0])
         (refine (HU.out _).mono ?_)
         (rintro e w1 ⟨rfl, bk1⟩)
         (obtain ⟨p0, p1, p2, p3, p4⟩ := five (HB.out _ bk1))))
    go_ret
    exact ⟨rfl, hbV.trans (bk1.mono (by omega))⟩

set_option maxRecDepth 100000 in
set_option maxHeartbeats 4000000 in
theorem rexIntegrity_c (d N : Nat) (n : Nd) (A : Option Addr) (C : Nat) (w : World) (h : RdN w n A C) (hN : N ≤ 12) (hIH : ∀ m A' C' W, RdN W m A' C' → Calls Tryz.prog 29 #[nval m A' C', .int .i64 ((N : Int) + 1)] W (Yes W (rightE d m))) (hs : n.s = []) (hn : n.n = 0) (hl : 1 ≤ n.l.length) (ho : n.op = wIntegrity) :
    Calls Tryz.prog 29 #[nval n A C, .int .i64 (N : Nat)] w (Yes w (rightE (d + 1) n)) := by
  have f0 : (n.op == [108, 105, 110, 101, 97, 114]) = false := by rw [ho]; decide
  have f1 : (n.op == [115, 110, 97, 112, 115, 104, 111, 116]) = false := by rw [ho]; decide
  have f2 : (n.op == [99, 114, 121, 112, 116]) = false := by rw [ho]; decide
  have f3 : (n.op == [105, 110, 116, 101, 103, 114, 105, 116, 121]) = true := by rw [ho]; decide
  have f4 : (n.op == [118, 101, 114, 105, 116, 121]) = false := by rw [ho]; decide
  have f5 : (n.op == [99, 111, 110, 99, 97, 116]) = false := by rw [ho]; decide
  have f6 : (n.op == [109, 105, 114, 114, 111, 114]) = false := by rw [ho]; decide
  have hlen := h.len
  obtain ⟨g, off, Au, Cu, rfl, hg, hat⟩ := parts_at h (by omega)
  have hU : ∀ W, Calls Tryz.prog 28 #[.agg #[.string (bs n.op), .string (bs n.s), .int .i64 n.n, .int .i64 n.a, .slice (some ⟨g, off, none⟩) n.l.length C], .string ⟨#[117, 115, 101]⟩] W (Yes W false) := fun W => by
    have := leafUse_c n (some ⟨g, off, none⟩) n.l.length C W h.s rfl (by omega)
    rw [not_useop (by rw [ho]; decide)] at this
    exact this
  have hR := re_is (d := d) (n := n) (by rw [ho]; decide) hs hn
  have hot := bs_toList n.op
  unfold nval
  rw [hs, hn, show bs [] = (⟨#[]⟩ : ByteArray) from rfl] at hU ⊢
  obtain ⟨L, hL⟩ : ∃ L, L = n.l.length := ⟨_, rfl⟩
  rw [← hL] at hU hlen hl ⊢
  obtain ⟨V0, hV0⟩ : ∃ V, V = w.alloc (.cells #[.string (bs n.op), .string ⟨#[]⟩, .int .i64 0, .int .i64 n.a, .slice (some ⟨g, off, none⟩) L C] 24) := ⟨_, rfl⟩
  have hbV : Below w.heap.size w V0 := by rw [hV0]; exact b_one _ _
  have hVs : V0.heap.size = w.heap.size + 1 := by rw [hV0]; simp
  have HB : Hid (∀ W, Below V0.heap.size V0 W → Has W w.heap.size 24 #[.string (bs n.op), .string ⟨#[]⟩, .int .i64 0, .int .i64 n.a, .slice (some ⟨g, off, none⟩) L C]) := fun W hW => Has.below (by rw [hV0]; exact Has.new _ _ _) hW (by omega)
  have HA : Hid (∀ k W, k < L → Below V0.heap.size V0 W → NdAt W g (off + k * 5) (nth n.l k) (Au k) (Cu k) ∧ RdN W (nth n.l k) (Au k) (Cu k)) := fun k W hk hW => by
    obtain ⟨q1, q2⟩ := hat k (by omega)
    exact ⟨(q1.grow hbV hg).grow hW (by omega), (q2.grow hbV).grow hW⟩
  have HU : Hid (∀ W, Calls Tryz.prog 28 #[.agg #[.string (bs n.op), .string ⟨#[]⟩, .int .i64 0, .int .i64 n.a, .slice (some ⟨g, off, none⟩) L C], .string ⟨#[117, 115, 101]⟩] W (Yes W false)) := hU
  have HN : Hid (∀ k W, k < L → Below V0.heap.size V0 W → Calls Tryz.prog 28 #[nval (nth n.l k) (Au k) (Cu k), .string ⟨#[110, 117, 109]⟩] W (Yes W (partOk (fun _ => false) .nu (nth n.l k)))) := fun k W hk hW => by
    have hr := (HA.out k W hk hW).2
    exact leafNum_c (nth n.l k) (Au k) (nth n.l k).l.length (Cu k) W hr.s rfl (by have := hr.len; omega)
  have HM : Hid (∀ k W, k < L → Below V0.heap.size V0 W → Calls Tryz.prog 28 #[nval (nth n.l k) (Au k) (Cu k), .string ⟨#[110, 97, 109, 101]⟩] W (Yes W (partOk (fun _ => false) .na (nth n.l k)))) := fun k W hk hW => by
    have hr := (HA.out k W hk hW).2
    exact leafName_c (nth n.l k) (Au k) (nth n.l k).l.length (Cu k) W hr.s rfl (by have := hr.len; omega)
  have HX : Hid (∀ k W, k < L → Below V0.heap.size V0 W → Calls Tryz.prog 29 #[nval (nth n.l k) (Au k) (Cu k), .int .i64 ((N : Int) + 1)] W (Yes W (rightE d (nth n.l k)))) := fun k W hk hW => hIH _ _ _ W (HA.out k W hk hW).2
  have hNi : ¬ (12 : Int) < (N : Int) := by omega
  have hLi : ¬ (L : Int) < 1 := by omega
  have HL : Hid (L = n.l.length) := hL
  have hLm : L ≤ 9223372036854775807 := by omega
  have hp := pk2 (re := rightE d) (n := n) (a := .ex) (b := .na) (by rw [ho]; rfl)
  rw [← hL] at hp
  rw [hR, hp]
  clear hU hat hIH h hlen hL hs hn ho
  by_cases h3 : L = 2
  · subst h3
    rw [show partOk (rightE d) .na (nth n.l 1) = partOk (fun _ => false) .na (nth n.l 1) from rfl, show partOk (rightE d) .ex (nth n.l 0) = rightE d (nth n.l 0) from rfl]
    cases b1 : partOk (fun _ => false) .na (nth n.l 1)
    · rw [show (_ : Bool) = false from (show (decide (2 = 2) && (rightE d (nth n.l 0) && false)) = false by simp)]
      clear hp hR
      go_enter Tryz.func29, Tryz.ntmps29
      go_wp2_with (first
        | ((go_at_call 28)
           (refine at_argP 1 (.string ⟨#[117, 115, 101]⟩) rfl ?_)
           (rw [← hV0])
           (refine (HU.out _).mono ?_)
           (rintro e w1 ⟨rfl, bk1⟩)
           (obtain ⟨p0, p1, p2, p3, p4⟩ := five (HB.out _ bk1)))
        | (refine at_dstL 83 rfl ?_; refine wpList_is (some 83) (.pointer (some ⟨g, off + 1 * 5, none⟩)) rfl (by rfl) (run_at_nd _ _ rfl g off 1 _ C rfl rfl (by omega) _) ?_)
        | (refine at_dstL 84 rfl ?_; refine wpList_is (some 84) (nval (nth n.l 1) (Au 1) (Cu 1)) rfl (by rfl) (run_load_nd _ rfl g _ rfl _ (HA.out 1 _ (by omega) bk1).1) ?_)
        | ((go_at_call 28)
           (refine at_argP 0 (nval (nth n.l 1) (Au 1) (Cu 1)) rfl ?_)
           (have hc := HM.out 1 _ (by omega) bk1)
           (rw [b1] at hc)
           (refine hc.mono ?_)
           (rintro e w2 ⟨rfl, hbw2⟩)
           (have bw2 := bk1.trans (hbw2.mono bk1.size))
           (obtain ⟨p0, p1, p2, p3, p4⟩ := five (HB.out _ bw2))))
      go_ret
      exact ⟨rfl, hbV.trans (bw2.mono (by omega))⟩
    · have HF : Hid ((decide (2 = 2) && (rightE d (nth n.l 0) && true)) = (List.range 1).all (fun j => rightE d (nth n.l j))) := (by simp [List.range_succ] : (decide (2 = 2) && (rightE d (nth n.l 0) && true)) = (List.range 1).all (fun j => rightE d (nth n.l j)))
      generalize (decide (2 = 2) && (rightE d (nth n.l 0) && true)) = RES at HF ⊢
      clear hp hR
      go_enter Tryz.func29, Tryz.ntmps29
      go_wp2_with (first
        | ((go_at_call 28)
           (refine at_argP 1 (.string ⟨#[117, 115, 101]⟩) rfl ?_)
           (rw [← hV0])
           (refine (HU.out _).mono ?_)
           (rintro e w1 ⟨rfl, bk1⟩)
           (obtain ⟨p0, p1, p2, p3, p4⟩ := five (HB.out _ bk1)))
        | (refine at_dstL 83 rfl ?_; refine wpList_is (some 83) (.pointer (some ⟨g, off + 1 * 5, none⟩)) rfl (by rfl) (run_at_nd _ _ rfl g off 1 _ C rfl rfl (by omega) _) ?_)
        | (refine at_dstL 84 rfl ?_; refine wpList_is (some 84) (nval (nth n.l 1) (Au 1) (Cu 1)) rfl (by rfl) (run_load_nd _ rfl g _ rfl _ (HA.out 1 _ (by omega) bk1).1) ?_)
        | ((go_at_call 28)
           (refine at_argP 0 (nval (nth n.l 1) (Au 1) (Cu 1)) rfl ?_)
           (have hc := HM.out 1 _ (by omega) bk1)
           (rw [b1] at hc)
           (refine hc.mono ?_)
           (rintro e w2 ⟨rfl, hbw2⟩)
           (have bw2 := bk1.trans (hbw2.mono bk1.size))
           (obtain ⟨p0, p1, p2, p3, p4⟩ := five (HB.out _ bw2))))
      go_loopw [8] (fun i wr => ∃ k : Nat, k ≤ 1 ∧ i = .int .i64 k ∧ Below V0.heap.size V0 wr ∧ Hid (∀ j, j < k → rightE d (nth n.l j) = true)) (fun i _ => 1 - (intOf i).toNat)
      case atStart => exact ⟨0, Nat.zero_le _, rfl, bw2, (fun j hj => absurd hj (Nat.not_lt_zero _) : ∀ j, j < 0 → rightE d (nth n.l j) = true)⟩
      case round =>
        obtain ⟨k, hk, rfl, bz, HA2⟩ := hrel
        obtain ⟨p0, p1, p2, p3, p4⟩ := five (HB.out _ bz)
        by_cases hlt : k < 1
        · have hc := HX.out k _ (by omega) bz
          cases hr : rightE d (nth n.l k) <;> rw [hr] at hc
          · have HR2 : Hid (rightE d (nth n.l k) = false) := hr
            clear hr
            go_wp2_with (first
              | (refine at_dstL 102 rfl ?_; refine wpList_is (some 102) (.pointer (some ⟨g, off + k * 5, none⟩)) rfl (by rfl) (run_at_nd _ _ rfl g off k _ C rfl rfl (by omega) _) ?_)
              | (refine at_dstL 103 rfl ?_; refine wpList_is (some 103) (nval (nth n.l k) (Au k) (Cu k)) rfl (by rfl) (run_load_nd _ rfl g _ rfl _ (HA.out k _ (by omega) bz).1) ?_)
              | ((go_at_call 29)
                 (refine hc.mono ?_)
                 (rintro e w9 ⟨rfl, hb9⟩)))
            go_ret
            refine ⟨?_, hbV.trans ((bz.trans (hb9.mono bz.size)).mono (by omega))⟩
            rw [HF.out, all_not hlt HR2.out]
            rfl
          · have HR2 : Hid (rightE d (nth n.l k) = true) := hr
            clear hr
            go_wp2_with (first
              | (refine at_dstL 102 rfl ?_; refine wpList_is (some 102) (.pointer (some ⟨g, off + k * 5, none⟩)) rfl (by rfl) (run_at_nd _ _ rfl g off k _ C rfl rfl (by omega) _) ?_)
              | (refine at_dstL 103 rfl ?_; refine wpList_is (some 103) (nval (nth n.l k) (Au k) (Cu k)) rfl (by rfl) (run_load_nd _ rfl g _ rfl _ (HA.out k _ (by omega) bz).1) ?_)
              | ((go_at_call 29)
                 (refine hc.mono ?_)
                 (rintro e w9 ⟨rfl, hb9⟩)))
            go_roundw
            case rel => exact ⟨k + 1, hlt, by go_num, bz.trans (hb9.mono bz.size), (fun j hj => by
              by_cases e : j < k
              · exact HA2.out j e
              · obtain rfl : j = k := by omega
                exact HR2.out : ∀ j, j < k + 1 → rightE d (nth n.l j) = true)⟩
            case measure => simp [intOf]; omega
        · obtain rfl : k = 1 := by omega
          go_wp2
          go_ret
          refine ⟨?_, hbV.trans (bz.mono (by omega))⟩
          rw [HF.out, all_upto HA2.out]
          rfl
  · have h3i : ¬ (L : Int) = 2 := by omega
    rw [decide_eq_false h3, Bool.false_and]
    clear hp hR
    go_enter Tryz.func29, Tryz.ntmps29
    go_wp2_with (first
      | ((go_at_call 28)
         (refine at_argP 1 (.string ⟨#[117, 115, 101]⟩) rfl ?_)
         (rw [← hV0])
         (refine (HU.out _).mono ?_)
         (rintro e w1 ⟨rfl, bk1⟩)
         (obtain ⟨p0, p1, p2, p3, p4⟩ := five (HB.out _ bk1))))
    go_ret
    exact ⟨rfl, hbV.trans (bk1.mono (by omega))⟩

set_option maxRecDepth 100000 in
set_option maxHeartbeats 4000000 in
theorem rexVerity_c (d N : Nat) (n : Nd) (A : Option Addr) (C : Nat) (w : World) (h : RdN w n A C) (hN : N ≤ 12) (hIH : ∀ m A' C' W, RdN W m A' C' → Calls Tryz.prog 29 #[nval m A' C', .int .i64 ((N : Int) + 1)] W (Yes W (rightE d m))) (hs : n.s = []) (hn : n.n = 0) (hl : 1 ≤ n.l.length) (ho : n.op = wVerity) :
    Calls Tryz.prog 29 #[nval n A C, .int .i64 (N : Nat)] w (Yes w (rightE (d + 1) n)) := by
  have f0 : (n.op == [108, 105, 110, 101, 97, 114]) = false := by rw [ho]; decide
  have f1 : (n.op == [115, 110, 97, 112, 115, 104, 111, 116]) = false := by rw [ho]; decide
  have f2 : (n.op == [99, 114, 121, 112, 116]) = false := by rw [ho]; decide
  have f3 : (n.op == [105, 110, 116, 101, 103, 114, 105, 116, 121]) = false := by rw [ho]; decide
  have f4 : (n.op == [118, 101, 114, 105, 116, 121]) = true := by rw [ho]; decide
  have f5 : (n.op == [99, 111, 110, 99, 97, 116]) = false := by rw [ho]; decide
  have f6 : (n.op == [109, 105, 114, 114, 111, 114]) = false := by rw [ho]; decide
  have hlen := h.len
  obtain ⟨g, off, Au, Cu, rfl, hg, hat⟩ := parts_at h (by omega)
  have hU : ∀ W, Calls Tryz.prog 28 #[.agg #[.string (bs n.op), .string (bs n.s), .int .i64 n.n, .int .i64 n.a, .slice (some ⟨g, off, none⟩) n.l.length C], .string ⟨#[117, 115, 101]⟩] W (Yes W false) := fun W => by
    have := leafUse_c n (some ⟨g, off, none⟩) n.l.length C W h.s rfl (by omega)
    rw [not_useop (by rw [ho]; decide)] at this
    exact this
  have hR := re_is (d := d) (n := n) (by rw [ho]; decide) hs hn
  have hot := bs_toList n.op
  unfold nval
  rw [hs, hn, show bs [] = (⟨#[]⟩ : ByteArray) from rfl] at hU ⊢
  obtain ⟨L, hL⟩ : ∃ L, L = n.l.length := ⟨_, rfl⟩
  rw [← hL] at hU hlen hl ⊢
  obtain ⟨V0, hV0⟩ : ∃ V, V = w.alloc (.cells #[.string (bs n.op), .string ⟨#[]⟩, .int .i64 0, .int .i64 n.a, .slice (some ⟨g, off, none⟩) L C] 24) := ⟨_, rfl⟩
  have hbV : Below w.heap.size w V0 := by rw [hV0]; exact b_one _ _
  have hVs : V0.heap.size = w.heap.size + 1 := by rw [hV0]; simp
  have HB : Hid (∀ W, Below V0.heap.size V0 W → Has W w.heap.size 24 #[.string (bs n.op), .string ⟨#[]⟩, .int .i64 0, .int .i64 n.a, .slice (some ⟨g, off, none⟩) L C]) := fun W hW => Has.below (by rw [hV0]; exact Has.new _ _ _) hW (by omega)
  have HA : Hid (∀ k W, k < L → Below V0.heap.size V0 W → NdAt W g (off + k * 5) (nth n.l k) (Au k) (Cu k) ∧ RdN W (nth n.l k) (Au k) (Cu k)) := fun k W hk hW => by
    obtain ⟨q1, q2⟩ := hat k (by omega)
    exact ⟨(q1.grow hbV hg).grow hW (by omega), (q2.grow hbV).grow hW⟩
  have HU : Hid (∀ W, Calls Tryz.prog 28 #[.agg #[.string (bs n.op), .string ⟨#[]⟩, .int .i64 0, .int .i64 n.a, .slice (some ⟨g, off, none⟩) L C], .string ⟨#[117, 115, 101]⟩] W (Yes W false)) := hU
  have HN : Hid (∀ k W, k < L → Below V0.heap.size V0 W → Calls Tryz.prog 28 #[nval (nth n.l k) (Au k) (Cu k), .string ⟨#[110, 117, 109]⟩] W (Yes W (partOk (fun _ => false) .nu (nth n.l k)))) := fun k W hk hW => by
    have hr := (HA.out k W hk hW).2
    exact leafNum_c (nth n.l k) (Au k) (nth n.l k).l.length (Cu k) W hr.s rfl (by have := hr.len; omega)
  have HM : Hid (∀ k W, k < L → Below V0.heap.size V0 W → Calls Tryz.prog 28 #[nval (nth n.l k) (Au k) (Cu k), .string ⟨#[110, 97, 109, 101]⟩] W (Yes W (partOk (fun _ => false) .na (nth n.l k)))) := fun k W hk hW => by
    have hr := (HA.out k W hk hW).2
    exact leafName_c (nth n.l k) (Au k) (nth n.l k).l.length (Cu k) W hr.s rfl (by have := hr.len; omega)
  have HX : Hid (∀ k W, k < L → Below V0.heap.size V0 W → Calls Tryz.prog 29 #[nval (nth n.l k) (Au k) (Cu k), .int .i64 ((N : Int) + 1)] W (Yes W (rightE d (nth n.l k)))) := fun k W hk hW => hIH _ _ _ W (HA.out k W hk hW).2
  have hNi : ¬ (12 : Int) < (N : Int) := by omega
  have hLi : ¬ (L : Int) < 1 := by omega
  have HL : Hid (L = n.l.length) := hL
  have hLm : L ≤ 9223372036854775807 := by omega
  have hp := pk2 (re := rightE d) (n := n) (a := .ex) (b := .na) (by rw [ho]; rfl)
  rw [← hL] at hp
  rw [hR, hp]
  clear hU hat hIH h hlen hL hs hn ho
  by_cases h3 : L = 2
  · subst h3
    rw [show partOk (rightE d) .na (nth n.l 1) = partOk (fun _ => false) .na (nth n.l 1) from rfl, show partOk (rightE d) .ex (nth n.l 0) = rightE d (nth n.l 0) from rfl]
    cases b1 : partOk (fun _ => false) .na (nth n.l 1)
    · rw [show (_ : Bool) = false from (show (decide (2 = 2) && (rightE d (nth n.l 0) && false)) = false by simp)]
      clear hp hR
      go_enter Tryz.func29, Tryz.ntmps29
      go_wp2_with (first
        | ((go_at_call 28)
           (refine at_argP 1 (.string ⟨#[117, 115, 101]⟩) rfl ?_)
           (rw [← hV0])
           (refine (HU.out _).mono ?_)
           (rintro e w1 ⟨rfl, bk1⟩)
           (obtain ⟨p0, p1, p2, p3, p4⟩ := five (HB.out _ bk1)))
        | (refine at_dstL 83 rfl ?_; refine wpList_is (some 83) (.pointer (some ⟨g, off + 1 * 5, none⟩)) rfl (by rfl) (run_at_nd _ _ rfl g off 1 _ C rfl rfl (by omega) _) ?_)
        | (refine at_dstL 84 rfl ?_; refine wpList_is (some 84) (nval (nth n.l 1) (Au 1) (Cu 1)) rfl (by rfl) (run_load_nd _ rfl g _ rfl _ (HA.out 1 _ (by omega) bk1).1) ?_)
        | ((go_at_call 28)
           (refine at_argP 0 (nval (nth n.l 1) (Au 1) (Cu 1)) rfl ?_)
           (have hc := HM.out 1 _ (by omega) bk1)
           (rw [b1] at hc)
           (refine hc.mono ?_)
           (rintro e w2 ⟨rfl, hbw2⟩)
           (have bw2 := bk1.trans (hbw2.mono bk1.size))
           (obtain ⟨p0, p1, p2, p3, p4⟩ := five (HB.out _ bw2))))
      go_ret
      exact ⟨rfl, hbV.trans (bw2.mono (by omega))⟩
    · have HF : Hid ((decide (2 = 2) && (rightE d (nth n.l 0) && true)) = (List.range 1).all (fun j => rightE d (nth n.l j))) := (by simp [List.range_succ] : (decide (2 = 2) && (rightE d (nth n.l 0) && true)) = (List.range 1).all (fun j => rightE d (nth n.l j)))
      generalize (decide (2 = 2) && (rightE d (nth n.l 0) && true)) = RES at HF ⊢
      clear hp hR
      go_enter Tryz.func29, Tryz.ntmps29
      go_wp2_with (first
        | ((go_at_call 28)
           (refine at_argP 1 (.string ⟨#[117, 115, 101]⟩) rfl ?_)
           (rw [← hV0])
           (refine (HU.out _).mono ?_)
           (rintro e w1 ⟨rfl, bk1⟩)
           (obtain ⟨p0, p1, p2, p3, p4⟩ := five (HB.out _ bk1)))
        | (refine at_dstL 83 rfl ?_; refine wpList_is (some 83) (.pointer (some ⟨g, off + 1 * 5, none⟩)) rfl (by rfl) (run_at_nd _ _ rfl g off 1 _ C rfl rfl (by omega) _) ?_)
        | (refine at_dstL 84 rfl ?_; refine wpList_is (some 84) (nval (nth n.l 1) (Au 1) (Cu 1)) rfl (by rfl) (run_load_nd _ rfl g _ rfl _ (HA.out 1 _ (by omega) bk1).1) ?_)
        | ((go_at_call 28)
           (refine at_argP 0 (nval (nth n.l 1) (Au 1) (Cu 1)) rfl ?_)
           (have hc := HM.out 1 _ (by omega) bk1)
           (rw [b1] at hc)
           (refine hc.mono ?_)
           (rintro e w2 ⟨rfl, hbw2⟩)
           (have bw2 := bk1.trans (hbw2.mono bk1.size))
           (obtain ⟨p0, p1, p2, p3, p4⟩ := five (HB.out _ bw2))))
      go_loopw [8] (fun i wr => ∃ k : Nat, k ≤ 1 ∧ i = .int .i64 k ∧ Below V0.heap.size V0 wr ∧ Hid (∀ j, j < k → rightE d (nth n.l j) = true)) (fun i _ => 1 - (intOf i).toNat)
      case atStart => exact ⟨0, Nat.zero_le _, rfl, bw2, (fun j hj => absurd hj (Nat.not_lt_zero _) : ∀ j, j < 0 → rightE d (nth n.l j) = true)⟩
      case round =>
        obtain ⟨k, hk, rfl, bz, HA2⟩ := hrel
        obtain ⟨p0, p1, p2, p3, p4⟩ := five (HB.out _ bz)
        by_cases hlt : k < 1
        · have hc := HX.out k _ (by omega) bz
          cases hr : rightE d (nth n.l k) <;> rw [hr] at hc
          · have HR2 : Hid (rightE d (nth n.l k) = false) := hr
            clear hr
            go_wp2_with (first
              | (refine at_dstL 102 rfl ?_; refine wpList_is (some 102) (.pointer (some ⟨g, off + k * 5, none⟩)) rfl (by rfl) (run_at_nd _ _ rfl g off k _ C rfl rfl (by omega) _) ?_)
              | (refine at_dstL 103 rfl ?_; refine wpList_is (some 103) (nval (nth n.l k) (Au k) (Cu k)) rfl (by rfl) (run_load_nd _ rfl g _ rfl _ (HA.out k _ (by omega) bz).1) ?_)
              | ((go_at_call 29)
                 (refine hc.mono ?_)
                 (rintro e w9 ⟨rfl, hb9⟩)))
            go_ret
            refine ⟨?_, hbV.trans ((bz.trans (hb9.mono bz.size)).mono (by omega))⟩
            rw [HF.out, all_not hlt HR2.out]
            rfl
          · have HR2 : Hid (rightE d (nth n.l k) = true) := hr
            clear hr
            go_wp2_with (first
              | (refine at_dstL 102 rfl ?_; refine wpList_is (some 102) (.pointer (some ⟨g, off + k * 5, none⟩)) rfl (by rfl) (run_at_nd _ _ rfl g off k _ C rfl rfl (by omega) _) ?_)
              | (refine at_dstL 103 rfl ?_; refine wpList_is (some 103) (nval (nth n.l k) (Au k) (Cu k)) rfl (by rfl) (run_load_nd _ rfl g _ rfl _ (HA.out k _ (by omega) bz).1) ?_)
              | ((go_at_call 29)
                 (refine hc.mono ?_)
                 (rintro e w9 ⟨rfl, hb9⟩)))
            go_roundw
            case rel => exact ⟨k + 1, hlt, by go_num, bz.trans (hb9.mono bz.size), (fun j hj => by
              by_cases e : j < k
              · exact HA2.out j e
              · obtain rfl : j = k := by omega
                exact HR2.out : ∀ j, j < k + 1 → rightE d (nth n.l j) = true)⟩
            case measure => simp [intOf]; omega
        · obtain rfl : k = 1 := by omega
          go_wp2
          go_ret
          refine ⟨?_, hbV.trans (bz.mono (by omega))⟩
          rw [HF.out, all_upto HA2.out]
          rfl
  · have h3i : ¬ (L : Int) = 2 := by omega
    rw [decide_eq_false h3, Bool.false_and]
    clear hp hR
    go_enter Tryz.func29, Tryz.ntmps29
    go_wp2_with (first
      | ((go_at_call 28)
         (refine at_argP 1 (.string ⟨#[117, 115, 101]⟩) rfl ?_)
         (rw [← hV0])
         (refine (HU.out _).mono ?_)
         (rintro e w1 ⟨rfl, bk1⟩)
         (obtain ⟨p0, p1, p2, p3, p4⟩ := five (HB.out _ bk1))))
    go_ret
    exact ⟨rfl, hbV.trans (bk1.mono (by omega))⟩

set_option maxRecDepth 100000 in
set_option maxHeartbeats 4000000 in
theorem rexConcat_c (d N : Nat) (n : Nd) (A : Option Addr) (C : Nat) (w : World) (h : RdN w n A C) (hN : N ≤ 12) (hIH : ∀ m A' C' W, RdN W m A' C' → Calls Tryz.prog 29 #[nval m A' C', .int .i64 ((N : Int) + 1)] W (Yes W (rightE d m))) (hs : n.s = []) (hn : n.n = 0) (hl : 1 ≤ n.l.length) (ho : n.op = wConcat) :
    Calls Tryz.prog 29 #[nval n A C, .int .i64 (N : Nat)] w (Yes w (rightE (d + 1) n)) := by
  have f0 : (n.op == [108, 105, 110, 101, 97, 114]) = false := by rw [ho]; decide
  have f1 : (n.op == [115, 110, 97, 112, 115, 104, 111, 116]) = false := by rw [ho]; decide
  have f2 : (n.op == [99, 114, 121, 112, 116]) = false := by rw [ho]; decide
  have f3 : (n.op == [105, 110, 116, 101, 103, 114, 105, 116, 121]) = false := by rw [ho]; decide
  have f4 : (n.op == [118, 101, 114, 105, 116, 121]) = false := by rw [ho]; decide
  have f5 : (n.op == [99, 111, 110, 99, 97, 116]) = true := by rw [ho]; decide
  have f6 : (n.op == [109, 105, 114, 114, 111, 114]) = false := by rw [ho]; decide
  have hlen := h.len
  obtain ⟨g, off, Au, Cu, rfl, hg, hat⟩ := parts_at h (by omega)
  have hU : ∀ W, Calls Tryz.prog 28 #[.agg #[.string (bs n.op), .string (bs n.s), .int .i64 n.n, .int .i64 n.a, .slice (some ⟨g, off, none⟩) n.l.length C], .string ⟨#[117, 115, 101]⟩] W (Yes W false) := fun W => by
    have := leafUse_c n (some ⟨g, off, none⟩) n.l.length C W h.s rfl (by omega)
    rw [not_useop (by rw [ho]; decide)] at this
    exact this
  have hR := re_is (d := d) (n := n) (by rw [ho]; decide) hs hn
  have hot := bs_toList n.op
  unfold nval
  rw [hs, hn, show bs [] = (⟨#[]⟩ : ByteArray) from rfl] at hU ⊢
  obtain ⟨L, hL⟩ : ∃ L, L = n.l.length := ⟨_, rfl⟩
  rw [← hL] at hU hlen hl ⊢
  obtain ⟨V0, hV0⟩ : ∃ V, V = w.alloc (.cells #[.string (bs n.op), .string ⟨#[]⟩, .int .i64 0, .int .i64 n.a, .slice (some ⟨g, off, none⟩) L C] 24) := ⟨_, rfl⟩
  have hbV : Below w.heap.size w V0 := by rw [hV0]; exact b_one _ _
  have hVs : V0.heap.size = w.heap.size + 1 := by rw [hV0]; simp
  have HB : Hid (∀ W, Below V0.heap.size V0 W → Has W w.heap.size 24 #[.string (bs n.op), .string ⟨#[]⟩, .int .i64 0, .int .i64 n.a, .slice (some ⟨g, off, none⟩) L C]) := fun W hW => Has.below (by rw [hV0]; exact Has.new _ _ _) hW (by omega)
  have HA : Hid (∀ k W, k < L → Below V0.heap.size V0 W → NdAt W g (off + k * 5) (nth n.l k) (Au k) (Cu k) ∧ RdN W (nth n.l k) (Au k) (Cu k)) := fun k W hk hW => by
    obtain ⟨q1, q2⟩ := hat k (by omega)
    exact ⟨(q1.grow hbV hg).grow hW (by omega), (q2.grow hbV).grow hW⟩
  have HU : Hid (∀ W, Calls Tryz.prog 28 #[.agg #[.string (bs n.op), .string ⟨#[]⟩, .int .i64 0, .int .i64 n.a, .slice (some ⟨g, off, none⟩) L C], .string ⟨#[117, 115, 101]⟩] W (Yes W false)) := hU
  have HN : Hid (∀ k W, k < L → Below V0.heap.size V0 W → Calls Tryz.prog 28 #[nval (nth n.l k) (Au k) (Cu k), .string ⟨#[110, 117, 109]⟩] W (Yes W (partOk (fun _ => false) .nu (nth n.l k)))) := fun k W hk hW => by
    have hr := (HA.out k W hk hW).2
    exact leafNum_c (nth n.l k) (Au k) (nth n.l k).l.length (Cu k) W hr.s rfl (by have := hr.len; omega)
  have HM : Hid (∀ k W, k < L → Below V0.heap.size V0 W → Calls Tryz.prog 28 #[nval (nth n.l k) (Au k) (Cu k), .string ⟨#[110, 97, 109, 101]⟩] W (Yes W (partOk (fun _ => false) .na (nth n.l k)))) := fun k W hk hW => by
    have hr := (HA.out k W hk hW).2
    exact leafName_c (nth n.l k) (Au k) (nth n.l k).l.length (Cu k) W hr.s rfl (by have := hr.len; omega)
  have HX : Hid (∀ k W, k < L → Below V0.heap.size V0 W → Calls Tryz.prog 29 #[nval (nth n.l k) (Au k) (Cu k), .int .i64 ((N : Int) + 1)] W (Yes W (rightE d (nth n.l k)))) := fun k W hk hW => hIH _ _ _ W (HA.out k W hk hW).2
  have hNi : ¬ (12 : Int) < (N : Int) := by omega
  have hLi : ¬ (L : Int) < 1 := by omega
  have HL : Hid (L = n.l.length) := hL
  have hLm : L ≤ 9223372036854775807 := by omega
  have hp := pkm (re := rightE d) (n := n) (by rw [ho]; rfl) (by omega)
  rw [← hL] at hp
  rw [hR, hp]
  have HF : Hid (((List.range L).all fun i => rightE d (nth n.l i)) = (List.range L).all (fun j => rightE d (nth n.l j))) := (rfl : ((List.range L).all fun i => rightE d (nth n.l i)) = (List.range L).all (fun j => rightE d (nth n.l j)))
  generalize hRES : ((List.range L).all fun i => rightE d (nth n.l i)) = RES
  replace HF : Hid (RES = (List.range L).all (fun j => rightE d (nth n.l j))) := (hRES.symm : RES = (List.range L).all (fun j => rightE d (nth n.l j)))
  clear hRES hp hR
  clear hU hat hIH h hlen hL hs hn ho
  go_enter Tryz.func29, Tryz.ntmps29
  go_wp2_with (first
    | ((go_at_call 28)
       (refine at_argP 1 (.string ⟨#[117, 115, 101]⟩) rfl ?_)
       (rw [← hV0])
       (refine (HU.out _).mono ?_)
       (rintro e w1 ⟨rfl, bk1⟩)
       (obtain ⟨p0, p1, p2, p3, p4⟩ := five (HB.out _ bk1))))
  go_loopw [8] (fun i wr => ∃ k : Nat, k ≤ L ∧ i = .int .i64 k ∧ Below V0.heap.size V0 wr ∧ Hid (∀ j, j < k → rightE d (nth n.l j) = true)) (fun i _ => L - (intOf i).toNat)
  case atStart => exact ⟨0, Nat.zero_le _, rfl, bk1, (fun j hj => absurd hj (Nat.not_lt_zero _) : ∀ j, j < 0 → rightE d (nth n.l j) = true)⟩
  case round =>
    obtain ⟨k, hk, rfl, bz, HA2⟩ := hrel
    obtain ⟨p0, p1, p2, p3, p4⟩ := five (HB.out _ bz)
    by_cases hlt : k < L
    · have hc := HX.out k _ (by omega) bz
      cases hr : rightE d (nth n.l k) <;> rw [hr] at hc
      · have HR2 : Hid (rightE d (nth n.l k) = false) := hr
        clear hr
        go_wp2_with (first
          | (refine at_dstL 102 rfl ?_; refine wpList_is (some 102) (.pointer (some ⟨g, off + k * 5, none⟩)) rfl (by rfl) (run_at_nd _ _ rfl g off k _ C rfl rfl (by omega) _) ?_)
          | (refine at_dstL 103 rfl ?_; refine wpList_is (some 103) (nval (nth n.l k) (Au k) (Cu k)) rfl (by rfl) (run_load_nd _ rfl g _ rfl _ (HA.out k _ (by omega) bz).1) ?_)
          | ((go_at_call 29)
             (refine hc.mono ?_)
             (rintro e w9 ⟨rfl, hb9⟩)))
        go_ret
        refine ⟨?_, hbV.trans ((bz.trans (hb9.mono bz.size)).mono (by omega))⟩
        rw [HF.out, all_not hlt HR2.out]
        rfl
      · have HR2 : Hid (rightE d (nth n.l k) = true) := hr
        clear hr
        go_wp2_with (first
          | (refine at_dstL 102 rfl ?_; refine wpList_is (some 102) (.pointer (some ⟨g, off + k * 5, none⟩)) rfl (by rfl) (run_at_nd _ _ rfl g off k _ C rfl rfl (by omega) _) ?_)
          | (refine at_dstL 103 rfl ?_; refine wpList_is (some 103) (nval (nth n.l k) (Au k) (Cu k)) rfl (by rfl) (run_load_nd _ rfl g _ rfl _ (HA.out k _ (by omega) bz).1) ?_)
          | ((go_at_call 29)
             (refine hc.mono ?_)
             (rintro e w9 ⟨rfl, hb9⟩)))
        go_roundw
        case rel => exact ⟨k + 1, hlt, by go_num, bz.trans (hb9.mono bz.size), (fun j hj => by
          by_cases e : j < k
          · exact HA2.out j e
          · obtain rfl : j = k := by omega
            exact HR2.out : ∀ j, j < k + 1 → rightE d (nth n.l j) = true)⟩
        case measure => simp [intOf]; omega
    · obtain rfl : k = L := by omega
      go_wp2
      go_ret
      refine ⟨?_, hbV.trans (bz.mono (by omega))⟩
      rw [HF.out, all_upto HA2.out]
      rfl

set_option maxRecDepth 100000 in
set_option maxHeartbeats 4000000 in
theorem rexMirror_c (d N : Nat) (n : Nd) (A : Option Addr) (C : Nat) (w : World) (h : RdN w n A C) (hN : N ≤ 12) (hIH : ∀ m A' C' W, RdN W m A' C' → Calls Tryz.prog 29 #[nval m A' C', .int .i64 ((N : Int) + 1)] W (Yes W (rightE d m))) (hs : n.s = []) (hn : n.n = 0) (hl : 1 ≤ n.l.length) (ho : n.op = wMirror) :
    Calls Tryz.prog 29 #[nval n A C, .int .i64 (N : Nat)] w (Yes w (rightE (d + 1) n)) := by
  have f0 : (n.op == [108, 105, 110, 101, 97, 114]) = false := by rw [ho]; decide
  have f1 : (n.op == [115, 110, 97, 112, 115, 104, 111, 116]) = false := by rw [ho]; decide
  have f2 : (n.op == [99, 114, 121, 112, 116]) = false := by rw [ho]; decide
  have f3 : (n.op == [105, 110, 116, 101, 103, 114, 105, 116, 121]) = false := by rw [ho]; decide
  have f4 : (n.op == [118, 101, 114, 105, 116, 121]) = false := by rw [ho]; decide
  have f5 : (n.op == [99, 111, 110, 99, 97, 116]) = false := by rw [ho]; decide
  have f6 : (n.op == [109, 105, 114, 114, 111, 114]) = true := by rw [ho]; decide
  have hlen := h.len
  obtain ⟨g, off, Au, Cu, rfl, hg, hat⟩ := parts_at h (by omega)
  have hU : ∀ W, Calls Tryz.prog 28 #[.agg #[.string (bs n.op), .string (bs n.s), .int .i64 n.n, .int .i64 n.a, .slice (some ⟨g, off, none⟩) n.l.length C], .string ⟨#[117, 115, 101]⟩] W (Yes W false) := fun W => by
    have := leafUse_c n (some ⟨g, off, none⟩) n.l.length C W h.s rfl (by omega)
    rw [not_useop (by rw [ho]; decide)] at this
    exact this
  have hR := re_is (d := d) (n := n) (by rw [ho]; decide) hs hn
  have hot := bs_toList n.op
  unfold nval
  rw [hs, hn, show bs [] = (⟨#[]⟩ : ByteArray) from rfl] at hU ⊢
  obtain ⟨L, hL⟩ : ∃ L, L = n.l.length := ⟨_, rfl⟩
  rw [← hL] at hU hlen hl ⊢
  obtain ⟨V0, hV0⟩ : ∃ V, V = w.alloc (.cells #[.string (bs n.op), .string ⟨#[]⟩, .int .i64 0, .int .i64 n.a, .slice (some ⟨g, off, none⟩) L C] 24) := ⟨_, rfl⟩
  have hbV : Below w.heap.size w V0 := by rw [hV0]; exact b_one _ _
  have hVs : V0.heap.size = w.heap.size + 1 := by rw [hV0]; simp
  have HB : Hid (∀ W, Below V0.heap.size V0 W → Has W w.heap.size 24 #[.string (bs n.op), .string ⟨#[]⟩, .int .i64 0, .int .i64 n.a, .slice (some ⟨g, off, none⟩) L C]) := fun W hW => Has.below (by rw [hV0]; exact Has.new _ _ _) hW (by omega)
  have HA : Hid (∀ k W, k < L → Below V0.heap.size V0 W → NdAt W g (off + k * 5) (nth n.l k) (Au k) (Cu k) ∧ RdN W (nth n.l k) (Au k) (Cu k)) := fun k W hk hW => by
    obtain ⟨q1, q2⟩ := hat k (by omega)
    exact ⟨(q1.grow hbV hg).grow hW (by omega), (q2.grow hbV).grow hW⟩
  have HU : Hid (∀ W, Calls Tryz.prog 28 #[.agg #[.string (bs n.op), .string ⟨#[]⟩, .int .i64 0, .int .i64 n.a, .slice (some ⟨g, off, none⟩) L C], .string ⟨#[117, 115, 101]⟩] W (Yes W false)) := hU
  have HN : Hid (∀ k W, k < L → Below V0.heap.size V0 W → Calls Tryz.prog 28 #[nval (nth n.l k) (Au k) (Cu k), .string ⟨#[110, 117, 109]⟩] W (Yes W (partOk (fun _ => false) .nu (nth n.l k)))) := fun k W hk hW => by
    have hr := (HA.out k W hk hW).2
    exact leafNum_c (nth n.l k) (Au k) (nth n.l k).l.length (Cu k) W hr.s rfl (by have := hr.len; omega)
  have HM : Hid (∀ k W, k < L → Below V0.heap.size V0 W → Calls Tryz.prog 28 #[nval (nth n.l k) (Au k) (Cu k), .string ⟨#[110, 97, 109, 101]⟩] W (Yes W (partOk (fun _ => false) .na (nth n.l k)))) := fun k W hk hW => by
    have hr := (HA.out k W hk hW).2
    exact leafName_c (nth n.l k) (Au k) (nth n.l k).l.length (Cu k) W hr.s rfl (by have := hr.len; omega)
  have HX : Hid (∀ k W, k < L → Below V0.heap.size V0 W → Calls Tryz.prog 29 #[nval (nth n.l k) (Au k) (Cu k), .int .i64 ((N : Int) + 1)] W (Yes W (rightE d (nth n.l k)))) := fun k W hk hW => hIH _ _ _ W (HA.out k W hk hW).2
  have hNi : ¬ (12 : Int) < (N : Int) := by omega
  have hLi : ¬ (L : Int) < 1 := by omega
  have HL : Hid (L = n.l.length) := hL
  have hLm : L ≤ 9223372036854775807 := by omega
  have hp := pkm (re := rightE d) (n := n) (by rw [ho]; rfl) (by omega)
  rw [← hL] at hp
  rw [hR, hp]
  have HF : Hid (((List.range L).all fun i => rightE d (nth n.l i)) = (List.range L).all (fun j => rightE d (nth n.l j))) := (rfl : ((List.range L).all fun i => rightE d (nth n.l i)) = (List.range L).all (fun j => rightE d (nth n.l j)))
  generalize hRES : ((List.range L).all fun i => rightE d (nth n.l i)) = RES
  replace HF : Hid (RES = (List.range L).all (fun j => rightE d (nth n.l j))) := (hRES.symm : RES = (List.range L).all (fun j => rightE d (nth n.l j)))
  clear hRES hp hR
  clear hU hat hIH h hlen hL hs hn ho
  go_enter Tryz.func29, Tryz.ntmps29
  go_wp2_with (first
    | ((go_at_call 28)
       (refine at_argP 1 (.string ⟨#[117, 115, 101]⟩) rfl ?_)
       (rw [← hV0])
       (refine (HU.out _).mono ?_)
       (rintro e w1 ⟨rfl, bk1⟩)
       (obtain ⟨p0, p1, p2, p3, p4⟩ := five (HB.out _ bk1))))
  go_loopw [8] (fun i wr => ∃ k : Nat, k ≤ L ∧ i = .int .i64 k ∧ Below V0.heap.size V0 wr ∧ Hid (∀ j, j < k → rightE d (nth n.l j) = true)) (fun i _ => L - (intOf i).toNat)
  case atStart => exact ⟨0, Nat.zero_le _, rfl, bk1, (fun j hj => absurd hj (Nat.not_lt_zero _) : ∀ j, j < 0 → rightE d (nth n.l j) = true)⟩
  case round =>
    obtain ⟨k, hk, rfl, bz, HA2⟩ := hrel
    obtain ⟨p0, p1, p2, p3, p4⟩ := five (HB.out _ bz)
    by_cases hlt : k < L
    · have hc := HX.out k _ (by omega) bz
      cases hr : rightE d (nth n.l k) <;> rw [hr] at hc
      · have HR2 : Hid (rightE d (nth n.l k) = false) := hr
        clear hr
        go_wp2_with (first
          | (refine at_dstL 102 rfl ?_; refine wpList_is (some 102) (.pointer (some ⟨g, off + k * 5, none⟩)) rfl (by rfl) (run_at_nd _ _ rfl g off k _ C rfl rfl (by omega) _) ?_)
          | (refine at_dstL 103 rfl ?_; refine wpList_is (some 103) (nval (nth n.l k) (Au k) (Cu k)) rfl (by rfl) (run_load_nd _ rfl g _ rfl _ (HA.out k _ (by omega) bz).1) ?_)
          | ((go_at_call 29)
             (refine hc.mono ?_)
             (rintro e w9 ⟨rfl, hb9⟩)))
        go_ret
        refine ⟨?_, hbV.trans ((bz.trans (hb9.mono bz.size)).mono (by omega))⟩
        rw [HF.out, all_not hlt HR2.out]
        rfl
      · have HR2 : Hid (rightE d (nth n.l k) = true) := hr
        clear hr
        go_wp2_with (first
          | (refine at_dstL 102 rfl ?_; refine wpList_is (some 102) (.pointer (some ⟨g, off + k * 5, none⟩)) rfl (by rfl) (run_at_nd _ _ rfl g off k _ C rfl rfl (by omega) _) ?_)
          | (refine at_dstL 103 rfl ?_; refine wpList_is (some 103) (nval (nth n.l k) (Au k) (Cu k)) rfl (by rfl) (run_load_nd _ rfl g _ rfl _ (HA.out k _ (by omega) bz).1) ?_)
          | ((go_at_call 29)
             (refine hc.mono ?_)
             (rintro e w9 ⟨rfl, hb9⟩)))
        go_roundw
        case rel => exact ⟨k + 1, hlt, by go_num, bz.trans (hb9.mono bz.size), (fun j hj => by
          by_cases e : j < k
          · exact HA2.out j e
          · obtain rfl : j = k := by omega
            exact HR2.out : ∀ j, j < k + 1 → rightE d (nth n.l j) = true)⟩
        case measure => simp [intOf]; omega
    · obtain rfl : k = L := by omega
      go_wp2
      go_ret
      refine ⟨?_, hbV.trans (bz.mono (by omega))⟩
      rw [HF.out, all_upto HA2.out]
      rfl

end Go.Proofs.YtpckmllmjdafpaaGreatDoor
