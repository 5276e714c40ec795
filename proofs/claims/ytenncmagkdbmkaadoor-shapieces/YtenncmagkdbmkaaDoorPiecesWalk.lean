/- The walk of ShaPieces: however bytes are taken in, the digest is that of all of them at once. -/
import Derived.Test.YtenncmagkdbmkaaDoorShaRows
import Derived.Test.YtenncmagkdbmkaaDoorRegTo
namespace Go.Proofs.YtenncmagkdbmkaaDoor
open Go.ChangeShapes Go.WideShapes Go.ChangeAt Go.RowKit
set_option linter.unusedVariables false

theorem eq_fun (f : Nat → Nat) (hf : ∀ j, j < 32 → f j < 256) : ∀ w, (Op.equalIn 10000 23 (.agg (cellsN .u8 32 f)) (.agg (cellsN .u8 32 f))).run Tryd.prog w = .ok true w := fun w => eq_digest f w hf

theorem PInv.drew {w wr : World} {B : Nat} {mm : Nat → Nat} {Nh N : Nat} {v : Value} (h : PInv w wr B mm Nh N v) : PInv w wr.drew B mm Nh N v := by
  obtain ⟨a, b, c, d, e, f, g, i⟩ := h
  exact ⟨a, b, c, d, e.drew, f, g, i⟩

theorem both_sums (m : Nat → Nat) (N g : Nat) (hg : 1 < g) (hm : ∀ j, m j < 256) (hN : N < 1152921504606846000) : ∃ X : Array Value, X.size = 32 ∧ X.all (·.oneCell') = true ∧
    (∀ w, (Op.equalIn 10000 23 (.agg X) (.agg X)).run Tryd.prog w = .ok true w) ∧
    (∀ w, Glob Hc Kc w → Hash Hc Kc w g m N → Calls Tryd.prog 15 #[.pointer (some ⟨g, 0, none⟩)] w fun e w' => e = .returned (.agg X) ∧ Below w.heap.size w w') ∧
    ∀ w a cap, Glob Hc Kc w → N ≤ cap → Bytes w a N m → Calls Tryd.prog 9 #[.slice a N cap] w fun e w' => e = .returned (.agg X) ∧ Below w.heap.size w w' :=
  ⟨cellsN .u8 32 (SHA Hc Kc m N), cellsN_size _ _ _, cellsN_one _ _ _, eq_fun _ (fun j _ => SHA_lt _ _ _ _ _), fun w hG hh => hsum_any Hc Kc m g N w hG Hc_lt hm hg hN hh, fun w a cap hG hc hb => sum_any cap hG Hc_lt hm hc hN hb⟩

set_option maxRecDepth 100000 in
set_option maxHeartbeats 3200000 in
theorem pieces_walk (a : Option Addr) (len cap : Nat) (A : Nat → Option Addr) (L C : Nat → Nat) (M : Nat → Nat → Nat) (w : World) (hG : Glob Hc Kc w) (hlen : len ≤ maxLen) (hP : Pieces w a len A L C M) :
    Calls Tryd.prog 4 #[.slice a len cap] w fun e w' => e = .returned (.bool true) ∧ Below w.heap.size w w' := by
  unfold maxLen at hlen
  have hn1 := new_any Hc Kc w hG
  have h1 := hG.1
  go_enter Tryd.func4, Tryd.ntmps4
  go_wp2_with (first
    | ((go_at_call 13)
       (have _t := hn1)
       (refine hn1.mono ?_)
       (rintro e w1 ⟨rfl, rfl⟩)
       (have hn2 := new_any Hc Kc _ (hG.alloc (.cells (hcells Hc (fun _ => 0) 0) 57)))
       (clear hn1 _t))
    | ((go_at_call 13)
       (have _t := hn2)
       (refine hn2.mono ?_)
       (rintro e w2 ⟨rfl, hw2⟩)
       (have hI2 : PInv w w2 (w.heap.size + 2) (fun _ => 0) 0 0 (.slice none 0 0) := (by rw [hw2]; exact PInv.start hG _))
       (have hal := alive_any w2 hI2.2.2.1)
       (clear hn2 _t hw2))
    | ((go_at_call 11)
       (refine hal.mono ?_)
       (rintro e w3 ⟨rfl, hb3⟩)
       (have hI3 := (hI2.up.below hb3).up)
       (clear hal hb3 hI2)))
  go_loopw [5, 6] (fun v i wr => ∃ (k N : Nat) (mm : Nat → Nat), k ≤ len ∧ k ≤ 40 ∧ i = .int .i64 k ∧ N ≤ 20000 ∧ (∀ j, mm j < 256) ∧ PInv w wr wr.heap.size mm N N v)
    (fun _ i _ => 40 - (intOf i).toNat)
  case atStart => exact ⟨0, 0, fun _ => 0, Nat.zero_le _, Nat.zero_le _, rfl, Nat.zero_le _, fun _ => by show 0 < 256; decide, hI3⟩
  case round =>
    clear hI3
    obtain ⟨k, N, mm, hkl, hk40, rfl, hN, hmm, hI⟩ := hrel
    obtain ⟨va, vcap, rfl, hvc, hvn, hvb, hvs⟩ := own_bytes hI.2.2.2.1
    by_cases hk : k < len
    · by_cases hk4 : k < 40
      · obtain ⟨⟨lb, lo, rfl, hlb, hlc⟩, hLC, hnil, hBy, hM⟩ := hP k hk
        have i0 : (k : Int) < (len : Int) := by omega
        have i1 : (k : Int) < 40 := by omega
        have i2 : (0 : Int) ≤ (k : Int) := by omega
        have hbel := hI.2.2.2.2.1
        have c1 : wr.cell? ⟨lb, lo + k, none⟩ = some (.slice (A k) (L k) (C k)) := (hbel.cell hlb).trans hlc
        by_cases hbig : 20000 < N + L k
        · have hb1 : (20000 : Int) - (N : Int) < (L k : Int) := by omega
          go_wp2
          go_ret
          exact ⟨rfl, hbel⟩
        · have hb1 : (L k : Int) ≤ (20000 : Int) - (N : Int) := by omega
          have c2 : (wr.alloc (.cells #[] 5)).cell? ⟨lb, lo + k, none⟩ = some (.slice (A k) (L k) (C k)) := (((Below.refl wr.heap.size wr).alloc (Nat.le_refl _) _).cell (Nat.lt_of_lt_of_le hlb hbel.size)).trans c1
          have own0 := World.ownsRow_lit (base := wr.heap.size) (e := 5) (size := 1) wr #[] 0 (Nat.le_refl _) (by unfold maxLen; omega) rfl
          have hBw := hBy.below hbel (Nat.le_refl _)
          have hBa : Bytes (wr.alloc (.cells #[] 5)) (A k) (L k) (M k) := hBw.below ((Below.refl wr.heap.size wr).alloc (Nat.le_refl _) _) (Nat.le_refl _)
          have hIc : PInv w wr wr.heap.size (cat mm N (M k)) N N (.slice va N vcap) := hI.congr (fun j hj => by simp [cat, hj])
          have hcl := cat_lt mm (M k) N hmm hM
          have HP : Hid (Pieces w (some ⟨lb, lo, none⟩) len A L C M) := hP
          clear hI hvb hvs hP
          go_wp2_with (first
            | ((at_builtin)
               (have _t := own0)
               (refine wpList_append_bytes rfl _ _ rfl wr.heap.size _ 0 (fun _ => 0) rfl own0 (A k) (L k) (C k) (M k) rfl hnil hBa (by omega) (by simp) ?_)
               (intro v7 w7 own7 gr7)
               (have hb7 : Below wr.heap.size wr w7 := ((Below.refl _ _).alloc (Nat.le_refl _) _).grown gr7 (by simp) (fun k' h => (own0.lt k' h).1))
               (have hI7 := hIc.below hb7)
               (rw [Nat.zero_add, cat_zero] at own7)
               (obtain ⟨oa, ocap, rfl, hoc, hon, hob, hos⟩ := own_bytes own7)
               (clear own0 _t gr7 hIc))
            | ((go_at_call 14)
               (refine (write_any ocap hI7.2.2.1 Hc_lt hcl h1 hoc (by omega) hI7.1 (hob.congr (fun j _ => by unfold cat; rw [if_neg (by omega), show N + j - N = j from by omega])) (.inr fun b off e => by have := hos b off e; have := hbel.size; have := hI7.2.2.2.2.2.1; omega)).mono ?_)
               (rintro e w8 ⟨rfl, hh8, hb8⟩)
               (have hI8 := hI7.wrote hb8 hh8 h1)
               (have own8 := own_but own7 hb8 (by have := hI7.2.2.2.2.2.1; omega))
               (clear hh8 hb8 hI7 own7 hob hos)))
          obtain ⟨B, hB⟩ : ∃ B, B = wr.heap.size := ⟨_, rfl⟩
          rw [← hB] at hI8 own8
          clear hB hb1 c1 c2 hBa hBw hbel
          go_loopw [8] (fun i wi => ∃ (q : Nat) (f : Nat → Nat), q ≤ L k ∧ i = .int .i64 q ∧ PInv w wi B (cat mm N (M k)) (N + L k) N (.slice va N vcap) ∧ wi.ownsRow B 5 1 (.slice oa (L k) ocap) (L k) (bl f (L k)))
            (fun i _ => L k - (intOf i).toNat)
          case atStart => exact ⟨0, M k, Nat.zero_le _, rfl, hI8, own8⟩
          case round =>
            clear hI8 own8
            obtain ⟨q, f, hq, rfl, hI8, own8⟩ := hrel
            by_cases hql : q < L k
            · obtain ⟨g, rfl, hg1, hg2⟩ : ∃ g, oa = some ⟨g, 0, none⟩ ∧ B ≤ g ∧ g < wr.heap.size := by
                rcases own8.2 with ⟨h0, h00⟩ | ⟨g, cp, cur, hv, hb, hgg, _⟩
                · omega
                · simp only [Value.slice.injEq] at hv
                  exact ⟨g, hv.1, hb, (Array.getElem?_eq_some_iff.1 hgg).1⟩
              have q0 : (q : Int) < (L k : Int) := by omega
              have q1 : (0 : Int) ≤ (q : Int) := by omega
              have hce : wr.cell? ⟨g, q, none⟩ = some (.int .u8 (f q : Nat)) := by rw [own8.cellAt q (by omega)]; exact bl_get f (L k) q hql
              have hfz := own8.frozenAt q
              go_wp2
              go_roundw
              case rel =>
                have R := own8.stored q (.int .u8 ((99 : Nat) : Int))
                exact ⟨q + 1, upd f q 99, by omega, by go_num, hI8.below ((Below.refl _ _).setCell hg1 _), by rw [← bl_set]; exact R.1⟩
              case measure => simp [intOf]; omega
            · obtain rfl : q = L k := by omega
              clear own8
              have hbel := hI8.2.2.2.2.1
              have c3 : wr.cell? ⟨lb, lo + k, none⟩ = some (.slice (A k) (L k) (C k)) := (hbel.cell hlb).trans hlc
              have hBw := hBy.below hbel (Nat.le_refl _)
              have own8 := hI8.2.2.2.1
              have hb8 : w.heap.size + 2 ≤ wr.heap.size := Nat.le_trans hI8.2.2.2.2.2.1 hI8.2.2.2.2.2.2.1
              obtain ⟨X, hX1, hX2, heq, hS, hT⟩ := both_sums (cat mm N (M k)) (N + L k) (w.heap.size) h1 hcl (by omega)
              have hX3 : X.toList.length = 32 := by simp [hX1]
              have hX4 : ∀ v ∈ X.toList, v.oneCell' = true := fun v hv => (Array.all_eq_true_iff_forall_mem.1 hX2) v (by simpa using hv)
              have hu23 := Tryd.underlying23
              have hi23 : (Tryd.prog.info? 23).map (·.size) = some X.toList.length := by rw [hX3]; exact Tryd.size23
              have HS : Hid _ := hS
              have HT : Hid _ := hT
              clear hS hT
              go_wp2_with (first
                | ((at_builtin)
                   (have _t := own8)
                   (refine wpList_append_bytes rfl _ _ rfl (w.heap.size + 2) _ N (cat mm N (M k)) rfl own8 (A k) (L k) (C k) (M k) rfl hnil hBw (by omega) hb8 ?_)
                   (intro v9 w9 own9 gr9)
                   (rw [cat_cat] at own9)
                   (have hI9 := hI8.appended gr9 own9)
                   (obtain ⟨na, ncap, rfl, hnc, hnn, hnb, hns⟩ := own_bytes own9)
                   (have hsum9 := HS.out w9 hI9.2.2.1 hI9.1)
                   (clear own8 _t gr9 hI8 c3 hBw))
                | ((go_at_call 15)
                   (have _t := hsum9)
                   (refine hsum9.mono ?_)
                   (rintro e w10 ⟨rfl, hb10⟩)
                   (have hn10 : Has (w10.alloc (.cells (cellsN .u8 32 fun _ => 0) 23)) w10.heap.size 23 (cellsN .u8 32 fun _ => 0) := Has.new _ _ _)
                   (clear hsum9 _t))
                | ((refine wpList_store_rowG rfl 23 _ _ rfl (w10.heap.size) X rfl rfl 23 _ hn10 (by rw [hX1]; exact Tryd.size23) (by rw [hX1, cellsN_size]) hX2 ?_)
                   (intro w11 hw11)
                   (have hA11 : Has w11 w10.heap.size 23 X := (by rw [hw11]; exact hn10.setRow _))
                   (have hb11 : Below w9.heap.size w9 w11 := (by rw [hw11]; exact below_setRow (hb10.alloc hb10.size _) hb10.size _))
                   (have hI11 := (hI9.below hb11).up)
                   (have hB11 := hnb.below hb11 (Nat.le_refl _))
                   (clear hw11 hn10 hb10 hb11 hnb hI9)))
              have hAd : Has w11.drew w10.heap.size 23 X := hA11
              have hId : PInv w w11.drew w11.drew.heap.size (cat mm N (M k)) (N + L k) (N + L k) (.slice na (N + L k) ncap) := hI11.drew
              have hsumT := HT.out w11.drew na ncap hId.2.2.1 hnc hB11
              clear hI11 hA11 hX3 hX4 hi23 hu23
              have hi23' : (Tryd.prog.info? 23).map (·.size) = some X.size := by rw [hX1]; exact Tryd.size23
              refine wp_region_held_drew (S := fun w' => Has w' w10.heap.size 23 X) (by kernel_rfl) hAd (fun hHeld => ?_)
              refine takeTo 0 (some 67) (.agg X) rfl rfl (by kernel_rfl) (by kernel_rfl) (by kernel_rfl) (fun _ _ _ h => h) (by rfl) (fun wz hz => run_load_row 23 (.tmp 9) rfl w10.heap.size rfl X 23 Tryd.underlying23 hi23' wz hz) hHeld ?_
              simp only [Act.put, List.setIfInBounds_toArray, List.set_cons_zero, List.set_cons_succ]
              refine takeTo 1 (some 68) (.slice na (N + L k) ncap) rfl rfl (by kernel_rfl) (by kernel_rfl) (by kernel_rfl) (fun _ _ _ h => h) (by rfl) (fun _ _ => rfl) hHeld ?_
              simp only [Act.put, List.setIfInBounds_toArray, List.set_cons_zero, List.set_cons_succ]
              refine callTo 2 (some 69) 9 #[.slice na (N + L k) ncap] (by kernel_rfl) rfl rfl (by rfl) (by kernel_rfl) hsumT ?_
              rintro e w12 ⟨rfl, hb12⟩
              have hA12 := hAd.below hb12 hAd.lt
              have hI12 := (hId.below hb12).up
              have hsumS := HS.out w12 hI12.2.2.1 hI12.1
              refine ⟨_, rfl, hA12, ?_⟩
              clear hHeld hsumT hb12
              have hHeld := hA12
              simp only [Act.put, List.setIfInBounds_toArray, List.set_cons_zero, List.set_cons_succ]
              refine takeTo 3 (some 70) (.bool false) rfl rfl (by kernel_rfl) (by kernel_rfl) (by kernel_rfl) (fun _ _ _ h => h) (by rfl) (fun wz _ => run_neq_same (.tmp 67) (.tmp 69) rfl X rfl rfl heq wz) hHeld ?_
              simp only [Act.put, List.setIfInBounds_toArray, List.set_cons_zero, List.set_cons_succ]
              refine takeTo 4 (some 71) (.bool false) rfl rfl (by kernel_rfl) (by kernel_rfl) (by kernel_rfl) (fun _ _ _ h => h) (by rfl) (fun _ _ => rfl) hHeld ?_
              simp only [Act.put, List.setIfInBounds_toArray, List.set_cons_zero, List.set_cons_succ]
              refine takeTo 5 (some 72) (.pointer (some ⟨w.heap.size, 0, none⟩)) rfl rfl (by kernel_rfl) (by kernel_rfl) (by kernel_rfl) (fun _ _ _ h => h) (by rfl) (fun _ _ => rfl) hHeld ?_
              simp only [Act.put, List.setIfInBounds_toArray, List.set_cons_zero, List.set_cons_succ]
              refine takeTo 7 (some 74) (.agg X) rfl rfl (by kernel_rfl) (by kernel_rfl) (by kernel_rfl) (fun _ _ _ h => h) (by rfl) (fun wz hz => run_load_row 23 (.tmp 9) rfl w10.heap.size rfl X 23 Tryd.underlying23 hi23' wz hz) hHeld ?_
              simp only [Act.put, List.setIfInBounds_toArray, List.set_cons_zero, List.set_cons_succ]
              refine callTo 6 (some 73) 15 #[.pointer (some ⟨w.heap.size, 0, none⟩)] (by kernel_rfl) rfl rfl (by rfl) (by kernel_rfl) hsumS ?_
              rintro e w13 ⟨rfl, hb13⟩
              have hA13 := hA12.below hb13 hA12.lt
              have hI13 := (hI12.below hb13).up
              refine ⟨_, rfl, hA13, ?_⟩
              clear hHeld hsumS hb13
              have hHeld := hA13
              simp only [Act.put, List.setIfInBounds_toArray, List.set_cons_zero, List.set_cons_succ]
              refine takeTo 8 (some 75) (.bool false) rfl rfl (by kernel_rfl) (by kernel_rfl) (by kernel_rfl) (fun _ _ _ h => h) (by rfl) (fun wz _ => run_neq_same (.tmp 73) (.tmp 74) rfl X rfl rfl heq wz) hHeld ?_
              simp only [Act.put, List.setIfInBounds_toArray, List.set_cons_zero, List.set_cons_succ]
              refine takeTo 9 (some 76) (.bool false) rfl rfl (by kernel_rfl) (by kernel_rfl) (by kernel_rfl) (fun _ _ _ h => h) (by rfl) (fun _ _ => rfl) hHeld ?_
              simp only [Act.put, List.setIfInBounds_toArray, List.set_cons_zero, List.set_cons_succ]
              refine wpAnyH_done (by kernel_rfl) ?_ _
              clear hHeld
              go_wp2
              go_roundw
              case rel => exact ⟨k + 1, N + L k, cat mm N (M k), by omega, by omega, by go_num, by omega, hcl, hI13⟩
              case measure => simp [intOf]; omega
      · have i1 : (40 : Int) ≤ (k : Int) := by omega
        have i0 : (k : Int) < (len : Int) := by omega
        obtain ⟨X, hX1, hX2, heq, hS, hT⟩ := both_sums mm 0 (w.heap.size + 1) (by omega) hmm (by decide)
        clear hX1 hX2
        have hs1 := hS wr hI.2.2.1 hI.2.1
        have HT : Hid _ := hT
        clear hS hT
        have hbel := hI.2.2.2.2.1
        have hGr := hI.2.2.1
        go_wp2_with (first
          | ((go_at_call 15)
             (refine hs1.mono ?_)
             (rintro e w5 ⟨rfl, hb5⟩)
             (have hs2 := HT.out w5 none 0 (hGr.below hb5 hGr.1) (Nat.le_refl _) (.inl rfl))
             (clear hs1))
          | ((go_at_call 9)
             (refine hs2.mono ?_)
             (rintro e w6 ⟨rfl, hb6⟩)
             (clear hs2)))
        go_ret
        exact ⟨rfl, (hbel.trans (hb5.mono hbel.size)).trans (hb6.mono (Nat.le_trans hbel.size hb5.size))⟩
    · have i1 : (len : Int) ≤ (k : Int) := by omega
      obtain ⟨X, hX1, hX2, heq, hS, hT⟩ := both_sums mm 0 (w.heap.size + 1) (by omega) hmm (by decide)
      clear hX1 hX2
      have hs1 := hS wr hI.2.2.1 hI.2.1
      have HT : Hid _ := hT
      clear hS hT
      have hbel := hI.2.2.2.2.1
      have hGr := hI.2.2.1
      go_wp2_with (first
        | ((go_at_call 15)
           (refine hs1.mono ?_)
           (rintro e w5 ⟨rfl, hb5⟩)
           (have hs2 := HT.out w5 none 0 (hGr.below hb5 hGr.1) (Nat.le_refl _) (.inl rfl))
           (clear hs1))
        | ((go_at_call 9)
           (refine hs2.mono ?_)
           (rintro e w6 ⟨rfl, hb6⟩)
           (clear hs2)))
      go_ret
      exact ⟨rfl, (hbel.trans (hb5.mono hbel.size)).trans (hb6.mono (Nat.le_trans hbel.size hb5.size))⟩
end Go.Proofs.YtenncmagkdbmkaaDoor
