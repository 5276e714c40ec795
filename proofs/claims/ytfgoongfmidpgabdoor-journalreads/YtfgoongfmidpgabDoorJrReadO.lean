/- The reference's Read, with where its lists lie: in blocks of its own. -/
import Derived.Test.YtfgoongfmidpgabDoorJoint07
import Derived.Test.YtfgoongfmidpgabDoorJnOwnR
namespace Go.Proofs.YtfgoongfmidpgabDoor
open Go.ChangeShapes Go.WideShapes Go.ChangeAt Go.RowKit
set_option linter.unusedVariables false

/-- Records in memory, all in blocks from B on. -/
def RlO (B : Nat) (w : World) (a : Option Addr) (rs : List RC) : Prop := rs.length ≤ maxLen ∧ ∀ (i : Nat) (r : RC), rs[i]? = some r → ∃ x o ad C, a = some ⟨x, o, none⟩ ∧ (B ≤ x ∧ x < w.heap.size) ∧ w.cell? ⟨x, o + i, none⟩ = some (.slice ad r.L C) ∧ ByIn w ad r.L C r.f ∧ ∀ b off, ad = some ⟨b, off, none⟩ → B ≤ b ∧ b < w.heap.size

theorem RlO.rl {B : Nat} {w : World} {a : Option Addr} {rs : List RC} (h : RlO B w a rs) : Rl w a rs := ⟨h.1, fun i r hi => by
  obtain ⟨x, o, ad, C, h1, h2, h3, h4, _⟩ := h.2 i r hi
  exact ⟨x, o, ad, C, h1, h2.2, h3, h4⟩⟩

theorem RlO.only {B : Nat} {w w' : World} {a : Option Addr} {rs : List RC} {H : Nat → Prop} (h : RlO B w a rs) (ho : Only H w w') (hH : ∀ k, H k → k < B) : Rl w' a rs := ⟨h.1, fun i r hi => by
  obtain ⟨x, o, ad, C, h1, h2, h3, h4, h5⟩ := h.2 i r hi
  refine ⟨x, o, ad, C, h1, Nat.lt_of_lt_of_le h2.2 ho.size, (ho.cell (p := ⟨x, o + i, none⟩) h2.2 (fun k => by have := hH x k; omega)).trans h3, h4.only ho (fun b off e k => ?_)⟩
  have := (h5 b off e).1
  have := hH b k
  omega⟩

def RdRo (w : World) (B : Nat → Nat) (N : Nat) (e : Ending) (w' : World) : Prop := Below w.heap.size w w' ∧ ∃ a c, e = .returned (.tuple #[.slice a (reads dgS B N 0).1.length c, .int .i64 ((reads dgS B N 0).2 : Nat)]) ∧ RlO w.heap.size w' a (recsOf B (reads dgS B N 0).1)

theorem RdInv.doneO {w wr : World} {B : Nat → Nat} {N T : Nat} {v : Value} (h : RdInv w B N T v wr) (hB : ∀ j, B j < 256) (hno : okAt dgS B N T = false) (hN : N ≤ 1000000) : (reads dgS B N 0).2 = T ∧ ∃ a c, v = .slice a (reads dgS B N 0).1.length c ∧ RlO w.heap.size wr a (recsOf B (reads dgS B N 0).1) := by
  obtain ⟨q, A, Cc, hr, ho, hd, _, hq, hT⟩ := h
  rw [reads_no hno, List.append_nil] at hr
  rw [hr]
  refine ⟨rfl, ?_⟩
  show ∃ a c, v = .slice a q.length c ∧ RlO w.heap.size wr a (recsOf B q)
  rcases ho.2 with ⟨rfl, h0⟩ | ⟨g, cap, cur, rfl, hb, hg, hn, hm, hsz, htk⟩
  · have : q = [] := List.eq_nil_of_length_eq_zero h0
    subst this
    exact ⟨none, 0, rfl, by simp [recsOf, maxLen], fun i r hi => by simp [recsOf] at hi⟩
  · refine ⟨some ⟨g, 0, none⟩, cap, rfl, by unfold recsOf maxLen; rw [List.length_map]; omega, fun i r hi => ?_⟩
    unfold recsOf at hi
    rw [List.getElem?_map] at hi
    cases hx : q[i]? with
    | none => rw [hx] at hi; cases hi
    | some x =>
      rw [hx] at hi
      obtain rfl : (⟨x.2, fun j => B (x.1 + 8 + j)⟩ : RC) = r := by simpa using hi
      have hil : i < q.length := (List.getElem?_eq_some_iff.1 hx).1
      obtain ⟨a', cap', e, hl, hnil, hy, hbk⟩ := own_bytes (hd i x hx)
      simp only [Value.slice.injEq] at e
      obtain ⟨rfl, _, rfl⟩ := e
      refine ⟨g, 0, A i, Cc i, rfl, ⟨hb, (Array.getElem?_eq_some_iff.1 hg).1⟩, ?_, ⟨hl, ?_, hnil, hy, fun j => hB _⟩, hbk⟩
      · rw [cell_of_row wr g (0 + i) cur 33 (0, 0) hg, Nat.zero_add]
        have h3 : (rcells q A Cc)[i]? = some (.slice (A i) x.2 (Cc i)) := by
          unfold rcells
          rw [List.getElem?_map, List.getElem?_range hil]
          simp [List.getD, hx]
        rw [← htk, List.getElem?_take_of_lt (by omega), Array.getElem?_toList] at h3
        exact h3
      · have := (hd i x hx).1
        show x.2 ≤ maxLen
        rcases (hd i x hx).2 with ⟨h5, h6⟩ | ⟨g2, cap2, cur2, _, _, _, h6, h7, _⟩
        · rw [h6]
          exact Nat.zero_le _
        · exact Nat.le_trans h6 h7

set_option maxRecDepth 100000 in
set_option maxHeartbeats 4000000 in
theorem read_own {w : World} {a : Option Addr} {N C : Nat} {B : Nat → Nat} (h : ByIn w a N C B) (hN : N ≤ 8000) : Calls Tryd.prog 19 #[.slice a N C] w (RdRo w B N) := by
  go_enter Tryd.func19, Tryd.ntmps19
  go_wp2
  go_loopw [4, 5] (fun v iv wr => ∃ T : Nat, iv = .int .i64 (T : Nat) ∧ RdInv w B N T v wr)
    (fun _ iv _ => N + 1 - (intOf iv).toNat)
  case atStart => exact ⟨0, rfl, [], fun _ => none, fun _ => 0, rfl, ⟨rfl, .inl ⟨rfl, rfl⟩⟩, fun i x hx => by simp at hx, Below.refl _ _, Nat.le_refl _, Nat.zero_le _⟩
  case round =>
    obtain ⟨T, rfl, hinv⟩ := hrel
    have hTN : T ≤ N := by obtain ⟨_, _, _, _, _, _, _, _, h5⟩ := hinv; exact h5
    have hbel : Below w.heap.size w wr := by obtain ⟨_, _, _, _, _, _, h5, _⟩ := hinv; exact h5
    have j3 : (T : Int) ≤ 8000 := by omega
    have jN : (N : Int) ≤ 8000 := by omega
    have HI : Hid (RdInv w B N T u4 wr) := hinv
    clear hinv
    obtain ⟨v, hv⟩ : ∃ v, v = u4 := ⟨_, rfl⟩
    rw [← hv] at HI ⊢
    clear hv
    by_cases h8 : T + 8 ≤ N
    · have i0 : (T : Int) + 8 ≤ (N : Int) := by omega
      obtain ⟨bb, off, rfl, hbb, hcl⟩ := h.at_.resolve_left (by omega)
      have hby := h.at_.below hbel (Nat.le_refl _)
      have hle := h.le
      obtain ⟨Mc, hMc⟩ : ∃ Mc, Mc = cntAt B T := ⟨_, rfl⟩
      have HM : Hid (Mc = cntAt B T) := hMc
      have HG : Calls Tryd.prog 37 #[.slice (some ⟨bb, off + T, none⟩) 4 (C - T)] wr fun e w' => e = .returned (.tuple #[.int .u64 (Mc : Nat), .int .i64 0]) ∧ w' = wr := by
        have h5 := rget_s 4 (C - T) (by decide) (by decide) (hby.part T 4 (by omega)) (fun j => h.byt _)
        rw [cnt_vn, ← hMc] at h5
        exact h5
      clear hMc
      have m0 : (0 : Int) ≤ (Mc : Int) := by omega
      by_cases h1 : Mc < 1
      · have q1 : decide ((Mc : Int) < 1) = true := decide_eq_true (by omega)
        have H1 : Hid (Mc < 1) := h1
        have m1 : (Mc : Int) < 1 := by omega
        clear h1
        go_wp2_with (first
          | ((go_at_call 37)
             (refine HG.mono ?_)
             (rintro e wz ⟨rfl, hz⟩)
             (obtain rfl : wr = wz := hz.symm)
             (clear HG))
          | ((refine at_dst 23 rfl ?_)
             (refine wpList_is (some 23) (.slice (some ⟨bb, off + T, none⟩) 4 (C - T)) rfl rfl (run_slice_j _ _ _ rfl bb off N C T 4 rfl rfl rfl (by omega) (by omega) _) ?_)))
        go_ret2
        obtain ⟨e1, a9, c9, rfl, hrl⟩ := HI.out.doneO h.byt (okAt_no1 (by rw [← HM.out]; exact H1.out)) (by omega)
        exact ⟨hbel, a9, c9, by rw [e1]; rfl, hrl⟩
      · have q1 : decide ((Mc : Int) < 1) = false := decide_eq_false (by omega)
        have m1 : ¬ (Mc : Int) < 1 := by omega
        by_cases h2 : 8192 < Mc
        · have q2 : decide ((8192 : Int) < (Mc : Int)) = true := decide_eq_true (by omega)
          have m2 : (8192 : Int) < (Mc : Int) := by omega
          have H2 : Hid (8192 < Mc) := h2
          clear h1 h2
          go_wp2_with (first
            | ((go_at_call 37)
               (refine HG.mono ?_)
               (rintro e wz ⟨rfl, hz⟩)
               (obtain rfl : wr = wz := hz.symm)
               (clear HG))
            | ((refine at_dst 23 rfl ?_)
               (refine wpList_is (some 23) (.slice (some ⟨bb, off + T, none⟩) 4 (C - T)) rfl rfl (run_slice_j _ _ _ rfl bb off N C T 4 rfl rfl rfl (by omega) (by omega) _) ?_)))
          go_ret2
          obtain ⟨e1, a9, c9, rfl, hrl⟩ := HI.out.doneO h.byt (okAt_no2 (by rw [← HM.out]; exact H2.out)) (by omega)
          exact ⟨hbel, a9, c9, by rw [e1]; rfl, hrl⟩
        · have q2 : decide ((8192 : Int) < (Mc : Int)) = false := decide_eq_false (by omega)
          have m2 : ¬ (8192 : Int) < (Mc : Int) := by omega
          have m3 : (Mc : Int) ≤ 8192 := by omega
          have hrn := fun w => round_any Mc w (by omega)
          have hrd : Mc ≤ jrnd Mc ∧ jrnd Mc < Mc + 8 := ⟨jrnd_ge _, jrnd_lt _⟩
          obtain ⟨Y, hY⟩ : ∃ Y, Y = jrnd Mc := ⟨_, rfl⟩
          have HY : Hid (Y = jrnd Mc) := hY
          rw [← hY] at hrn hrd
          clear hY
          have y1 : (Y : Int) ≤ 8200 := by omega
          have y2 : (0 : Int) ≤ (Y : Int) := by omega
          by_cases h3 : N < T + 8 + Y
          · have q3 : decide ((N : Int) < (T : Int) + 8 + (Y : Int)) = true := decide_eq_true (by omega)
            have m4 : (N : Int) < (T : Int) + 8 + (Y : Int) := by omega
            have H3 : Hid (N < T + 8 + Y) := h3
            clear h3
            go_wp2_with (first
              | ((go_at_call 37)
                 (refine HG.mono ?_)
                 (rintro e wz ⟨rfl, hz⟩)
                 (obtain rfl : wr = wz := hz.symm)
                 (clear HG))
              | ((go_at_call 38)
                 (refine (hrn _).mono ?_)
                 (rintro e wz ⟨rfl, hz⟩)
                 (obtain rfl : wr = wz := hz.symm))
              | ((refine at_dst 23 rfl ?_)
                 (refine wpList_is (some 23) (.slice (some ⟨bb, off + T, none⟩) 4 (C - T)) rfl rfl (run_slice_j _ _ _ rfl bb off N C T 4 rfl rfl rfl (by omega) (by omega) _) ?_)))
            go_ret2
            obtain ⟨e1, a9, c9, rfl, hrl⟩ := HI.out.doneO h.byt (okAt_no3 (by rw [← HM.out, ← HY.out]; exact H3.out)) (by omega)
            exact ⟨hbel, a9, c9, by rw [e1]; rfl, hrl⟩
          · have q3 : decide ((N : Int) < (T : Int) + 8 + (Y : Int)) = false := decide_eq_false (by omega)
            have m4 : ¬ (N : Int) < (T : Int) + 8 + (Y : Int) := by omega
            obtain ⟨R0, hR0⟩ : ∃ R0, R0 = T + 8 + Mc := ⟨_, rfl⟩
            have HR0 : Hid (R0 = T + 8 + Mc) := hR0
            have hsl : Bytes wr (some ⟨bb, off + (T + 8), none⟩) Mc (fun j => B (T + 8 + j)) := hby.part (T + 8) Mc (by omega)
            have hclr : ∀ j, j < N → wr.cell? ⟨bb, off + j, none⟩ = some (.int .u8 (B j : Nat)) := fun j hj => (hbel.cell hbb).trans (hcl j hj)
            clear hR0
            go_wp2_with (first
              | ((go_at_call 37)
                 (refine HG.mono ?_)
                 (rintro e wz ⟨rfl, hz⟩)
                 (obtain rfl : wr = wz := hz.symm)
                 (clear HG))
              | ((go_at_call 38)
                 (refine (hrn _).mono ?_)
                 (rintro e wz ⟨rfl, hz⟩)
                 (obtain rfl : wr = wz := hz.symm))
              | ((refine at_dst 23 rfl ?_)
                 (refine wpList_is (some 23) (.slice (some ⟨bb, off + T, none⟩) 4 (C - T)) rfl rfl (run_slice_j _ _ _ rfl bb off N C T 4 rfl rfl rfl (by omega) (by omega) _) ?_))
              | ((refine at_dst 53 rfl ?_)
                 (refine wpList_is (some 53) (.slice (some ⟨bb, off + (T + 8), none⟩) Mc (C - (T + 8))) rfl rfl (run_slice_j _ _ _ rfl bb off N C (T + 8) Mc rfl rfl rfl (by omega) (by omega) _) ?_)))
            go_loopw [10, 11] (fun bv iv wk => ∃ K : Nat, R0 ≤ K ∧ K ≤ T + 8 + Y ∧ iv = .int .i64 (K : Nat) ∧ bv = .bool (zto B R0 K) ∧ wk = wr)
              (fun _ iv _ => T + 8 + Y - (intOf iv).toNat)
            case atStart => exact ⟨R0, Nat.le_refl _, by have := HR0.out; omega, by rw [HR0.out]; simp, by rw [zto_refl], rfl⟩
            case round =>
              obtain ⟨K, hK0, hK1, rfl, rfl, hwk⟩ := hrel
              subst hwk
              have k1 : (0 : Int) ≤ (K : Int) := by omega
              have k2 : (K : Int) ≤ 20000 := by omega
              by_cases hlt : K < T + 8 + Y
              · have k3 : (K : Int) < (T : Int) + 8 + (Y : Int) := by omega
                have k4 : (K : Int) < (N : Int) := by omega
                have cK := hclr K (by omega)
                have hbK := h.byt K
                have hnx := zto_next B R0 K hK0
                have HX : Hid (zto B R0 (K + 1) = (zto B R0 K && (B K == 0))) := hnx
                clear hnx
                generalize hZ : zto B R0 K = Z at HX ⊢
                cases Z
                · have HX2 : Hid (zto B R0 (K + 1) = false) := by show _ = _; rw [HX.out]; rfl
                  clear hZ HX
                  go_wp2_with (first
                    | ((go_at_call 38)
                       (refine (hrn _).mono ?_)
                       (rintro e wz ⟨rfl, hz⟩)
                       (obtain rfl : wr = wz := hz.symm)))
                  go_roundw
                  case rel => exact ⟨K + 1, by omega, by omega, by go_num, by rw [HX2.out], trivial⟩
                  case measure => simp [intOf]; omega
                · by_cases hz : B K = 0
                  · have HX2 : Hid (zto B R0 (K + 1) = true) := by show _ = _; rw [HX.out, hz]; rfl
                    rw [hz] at cK
                    clear hZ HX hz
                    go_wp2_with (first
                      | ((go_at_call 38)
                         (refine (hrn _).mono ?_)
                         (rintro e wz ⟨rfl, hz⟩)
                         (obtain rfl : wr = wz := hz.symm)))
                    go_roundw
                    case rel => exact ⟨K + 1, by omega, by omega, by go_num, by rw [HX2.out], trivial⟩
                    case measure => simp [intOf]; omega
                  · have HX2 : Hid (zto B R0 (K + 1) = false) := by show _ = _; rw [HX.out]; simp [hz]
                    have hzi : ¬ ((B K : Nat) : Int) = 0 := by omega
                    have hzb : (((B K : Nat) : Int) == 0) = false := by simp; omega
                    clear hZ HX hz
                    generalize ((B K : Nat) : Int) = V at cK hzi hzb
                    go_wp2_with (first
                      | ((go_at_call 38)
                         (refine (hrn _).mono ?_)
                         (rintro e wz ⟨rfl, hz⟩)
                         (obtain rfl : wr = wz := hz.symm)))
                    go_roundw
                    case rel => exact ⟨K + 1, by omega, by omega, by go_num, by rw [HX2.out], trivial⟩
                    case measure => simp [intOf]; omega
              · have k3 : ¬ (K : Int) < (T : Int) + 8 + (Y : Int) := by omega
                have HK : Hid (K = T + 8 + Y) := by show _ = _; omega
                have hS := rsum_any (fun j => B (T + 8 + j)) Mc (C - (T + 8)) (some ⟨bb, off + (T + 8), none⟩) wr (fun e => by cases e) hsl (fun j => h.byt _) (by omega) (by omega)
                generalize hZ : zto B R0 K = Z
                have HZ : Hid (zto B R0 K = Z) := hZ
                obtain ⟨dd, hdd⟩ : ∃ dd, dd = dgS Mc (fun j => B (T + 8 + j)) := ⟨_, rfl⟩
                have HD : Hid (dd = dgS Mc (fun j => B (T + 8 + j))) := hdd
                rw [show SHA Hc Kc (fun j => B (T + 8 + j)) Mc = dd from hdd.symm] at hS
                have hdl : ∀ j, dd j < 256 := fun j => by rw [hdd]; exact dgS_lt _ _ _
                clear hZ hdd
                go_wp2_with (first
                  | ((go_at_call 38)
                     (refine (hrn _).mono ?_)
                     (rintro e wz ⟨rfl, hz⟩)
                     (obtain rfl : wr = wz := hz.symm))
                  | ((go_at_call 39)
                     (refine hS.mono ?_)
                     (rintro e w3 ⟨rfl, hb3⟩)
                     (clear hS))
                  | ((refine at_stJ 74 _ _ rfl ?_)
                     (refine wpList_copyJ w3 74 _ (cellsN .u8 32 dd) rfl _ _ rfl rfl rfl (by rw [cellsN_size]; exact Tryd.size74) (by simp [cellsN_size]) (cellsN_one _ _ _) ?_)
                     (intro w4 hH4 hb4)
                     (have hb34 := hb3.trans (hb4.mono hb3.size))
                     (have hbw4 := hbel.trans (hb34.mono hbel.size))))
                have hB1 := by_lessJ hH4.bytes (show 4 ≤ 32 by decide)
                have hB2 := (hby.part (T + 4) 4 (by omega)).below hb34 (Nat.le_refl _)
                have g1 := fun wz (hz : Bytes wz (some ⟨w3.heap.size, 0, none⟩) 4 dd) => conv_bytesN 32 hz hdl (fun e => by cases e)
                have g2 := fun wz (hz : Bytes wz (some ⟨bb, off + (T + 4), none⟩) 4 (fun j => B (T + 4 + j))) => conv_bytesN (C - (T + 4)) hz (fun j => h.byt _) (fun e => by cases e)
                have f1 := g1 w4.drew (hB1.drewN 1)
                have f2 := g2 w4.drew (hB2.drewN 1)
                by_cases heq : strN dd 4 = strN (fun j => B (T + 4 + j)) 4
                · have HEQ : Hid (strN dd 4 = strN (fun j => B (T + 4 + j)) 4) := heq
                  obtain ⟨S1, hS1⟩ : ∃ S1, S1 = strN dd 4 := ⟨_, rfl⟩
                  obtain ⟨S2, hS2⟩ : ∃ S2, S2 = strN (fun j => B (T + 4 + j)) 4 := ⟨_, rfl⟩
                  rw [← hS1] at f1 heq
                  rw [← hS2] at f2 heq
                  have q6 : (S1 != S2) = false := by rw [heq]; simp
                  refine wp_region_held_drew (S := fun wz => (convert 33 9 (.slice (some ⟨w3.heap.size, 0, none⟩) 4 32)).run Tryd.prog wz = .ok (.string ⟨S1.toArray⟩) wz ∧ (convert 33 9 (.slice (some ⟨bb, off + (T + 4), none⟩) 4 (C - (T + 4)))).run Tryd.prog wz = .ok (.string ⟨S2.toArray⟩) wz) (by kernel_rfl) ⟨f1, f2⟩ (fun hHeld => ?_)
                  refine takeTo 0 (some 77) (.slice (some ⟨w3.heap.size, 0, none⟩) 4 32) rfl rfl (by kernel_rfl) (by kernel_rfl) (by kernel_rfl) (fun _ _ _ h => h) (by rfl) (fun _ _ => by kernel_rfl) hHeld ?_
                  simp only [Act.put, List.setIfInBounds_toArray, List.set_cons_zero, List.set_cons_succ]
                  refine takeTo 1 (some 78) (.string ⟨S1.toArray⟩) rfl rfl (by kernel_rfl) (by kernel_rfl) (by kernel_rfl) (fun _ _ _ h => h) (by rfl) (fun wz hz => run_convJ _ rfl (.slice (some ⟨w3.heap.size, 0, none⟩) 4 32) rfl wz _ hz.1) hHeld ?_
                  simp only [Act.put, List.setIfInBounds_toArray, List.set_cons_zero, List.set_cons_succ]
                  refine takeTo 2 (some 79) (.slice (some ⟨bb, off, none⟩) N C) rfl rfl (by kernel_rfl) (by kernel_rfl) (by kernel_rfl) (fun _ _ _ h => h) (by rfl) (fun _ _ => rfl) hHeld ?_
                  simp only [Act.put, List.setIfInBounds_toArray, List.set_cons_zero, List.set_cons_succ]
                  refine takeTo 3 (some 80) (.int .i64 (T : Nat)) rfl rfl (by kernel_rfl) (by kernel_rfl) (by kernel_rfl) (fun _ _ _ h => h) (by rfl) (fun _ _ => rfl) hHeld ?_
                  simp only [Act.put, List.setIfInBounds_toArray, List.set_cons_zero, List.set_cons_succ]
                  refine takeTo 4 (some 81) (.int .i64 ((T + 4 : Nat) : Int)) rfl rfl (by kernel_rfl) (by kernel_rfl) (by kernel_rfl) (fun _ _ _ h => h) (by rfl) (fun wz _ => run_addJ _ rfl T 4 rfl ⟨rfl, by omega⟩ wz) hHeld ?_
                  simp only [Act.put, List.setIfInBounds_toArray, List.set_cons_zero, List.set_cons_succ]
                  refine takeTo 5 (some 82) (.int .i64 (T : Nat)) rfl rfl (by kernel_rfl) (by kernel_rfl) (by kernel_rfl) (fun _ _ _ h => h) (by rfl) (fun _ _ => rfl) hHeld ?_
                  simp only [Act.put, List.setIfInBounds_toArray, List.set_cons_zero, List.set_cons_succ]
                  refine takeTo 6 (some 83) (.int .i64 ((T + 4 + 4 : Nat) : Int)) rfl rfl (by kernel_rfl) (by kernel_rfl) (by kernel_rfl) (fun _ _ _ h => h) (by rfl) (fun wz _ => run_addJ _ rfl T 8 rfl ⟨rfl, by omega⟩ wz) hHeld ?_
                  simp only [Act.put, List.setIfInBounds_toArray, List.set_cons_zero, List.set_cons_succ]
                  refine takeTo 7 (some 84) (.slice (some ⟨bb, off + (T + 4), none⟩) 4 (C - (T + 4))) rfl rfl (by kernel_rfl) (by kernel_rfl) (by kernel_rfl) (fun _ _ _ h => h) (by rfl) (fun wz _ => run_slice_j _ _ _ rfl bb off N C (T + 4) 4 rfl rfl rfl (by omega) (by omega) wz) hHeld ?_
                  simp only [Act.put, List.setIfInBounds_toArray, List.set_cons_zero, List.set_cons_succ]
                  refine takeTo 8 (some 85) (.string ⟨S2.toArray⟩) rfl rfl (by kernel_rfl) (by kernel_rfl) (by kernel_rfl) (fun _ _ _ h => h) (by rfl) (fun wz hz => run_convJ _ rfl (.slice (some ⟨bb, off + (T + 4), none⟩) 4 (C - (T + 4))) rfl wz _ hz.2) hHeld ?_
                  simp only [Act.put, List.setIfInBounds_toArray, List.set_cons_zero, List.set_cons_succ]
                  refine takeTo 9 (some 86) (.bool false) rfl rfl (by kernel_rfl) (by kernel_rfl) (by kernel_rfl) (fun _ _ _ h => h) (by rfl) (fun wz _ => run_neqJ _ _ rfl S1 S2 rfl rfl _ q6 wz) hHeld ?_
                  simp only [Act.put, List.setIfInBounds_toArray, List.set_cons_zero, List.set_cons_succ]
                  refine takeTo 10 (some 87) (.bool false) rfl rfl (by kernel_rfl) (by kernel_rfl) (by kernel_rfl) (fun _ _ _ h => h) (by rfl) (fun _ _ => rfl) hHeld ?_
                  simp only [Act.put, List.setIfInBounds_toArray, List.set_cons_zero, List.set_cons_succ]
                  refine takeTo 11 (some 88) (.bool Z) rfl rfl (by kernel_rfl) (by kernel_rfl) (by kernel_rfl) (fun _ _ _ h => h) (by rfl) (fun _ _ => rfl) hHeld ?_
                  simp only [Act.put, List.setIfInBounds_toArray, List.set_cons_zero, List.set_cons_succ]
                  refine takeTo 12 (some 89) (.bool (!Z)) rfl rfl (by kernel_rfl) (by kernel_rfl) (by kernel_rfl) (fun _ _ _ h => h) (by rfl) (fun _ _ => by cases Z <;> kernel_rfl) hHeld ?_
                  simp only [Act.put, List.setIfInBounds_toArray, List.set_cons_zero, List.set_cons_succ]
                  refine takeTo 13 (some 90) (.bool (!Z)) rfl rfl (by kernel_rfl) (by kernel_rfl) (by kernel_rfl) (fun _ _ _ h => h) (by rfl) (fun _ _ => by cases Z <;> kernel_rfl) hHeld ?_
                  simp only [Act.put, List.setIfInBounds_toArray, List.set_cons_zero, List.set_cons_succ]
                  refine wpAnyH_done (by kernel_rfl) ?_ _
                  have hi4 : RdInv w B N T v w4.drew := HI.out.next (hb34.trans ((Below.refl _ w4).drew.mono hb34.size))
                  clear hHeld f1 f2 q6 hS1 hS2 g1 g2
                  cases Z
                  · go_wp2
                    go_ret2
                    obtain ⟨e1, a9, c9, rfl, hrl⟩ := hi4.doneO h.byt (okAt_no5 (by rw [← HM.out, ← HY.out, ← HK.out, ← HR0.out]; exact HZ.out)) (by omega)
                    exact ⟨hbw4.drew, a9, c9, by rw [e1]; rfl, hrl⟩
                  · obtain ⟨q, A, Cc, hr, hown, hdat, hbelq, hq, _⟩ := hi4
                    have hsl5 : Bytes (w4.drew.alloc (.cells #[] 5)) (some ⟨bb, off + (T + 8), none⟩) Mc (fun j => B (T + 8 + j)) := (hsl.below (hb34.trans ((Below.refl _ w4).drew.mono hb34.size)) (Nat.le_refl _)).below ((Below.refl _ _).alloc (Nat.le_refl _) _) (Nat.le_refl _)
                    have hok : okAt dgS B N T = true := okAt_yes HM.out HY.out h8 h1 (by omega) (by omega) (fun j hj => by rw [← HD.out]; exact ((strN_eq hdl (fun j => h.byt _)).1 HEQ.out).2 j hj) (by rw [← HR0.out, ← HK.out]; exact HZ.out)
                    have HOK : Hid (okAt dgS B N T = true) := hok
                    clear hok
                    go_wp2_with (first
                      | ((go_at_call 38)
                         (refine (hrn _).mono ?_)
                         (rintro e wz ⟨rfl, hz⟩)
                         (obtain rfl : w6 = wz := hz.symm))
                      | ((refine at_dst 94 rfl ?_)
                         (refine wpList_append_bytes rfl _ _ rfl w4.drew.heap.size _ 0 (fun j => B (T + 8 + j)) rfl (own_emptyJ w4.drew _) (some ⟨bb, off + (T + 8), none⟩) Mc (C - (T + 8)) (fun j => B (T + 8 + j)) rfl (fun e => by cases e) hsl5 (by omega) (by simp) ?_)
                         (intro v5 w5 ho5 hg5)
                         (rw [Nat.zero_add, cat_zero] at ho5)
                         (obtain ⟨A5, C5, rfl, _⟩ := own_bytes ho5)
                         (have hb5 : Below w4.drew.heap.size w4.drew w5 := below_gJ ((Below.refl _ _).alloc (Nat.le_refl _) _) hg5 (fun k e => by cases e; exact Nat.le_refl _))
                         (have hown5 := own_belowJ hown hb5)
                         (have hown5a := own_allocJ hown5 (.cells #[.slice A5 Mc C5] 33))
                         (have hbw5 := hbelq.trans (hb5.mono hbelq.size))
                         (have hbw5a : Below w.heap.size w (w5.alloc (.cells #[.slice A5 Mc C5] 33)) := hbw5.alloc hbw5.size _)
                         (have hnc : Has (w5.alloc (.cells #[.slice A5 Mc C5] 33)) w5.heap.size 33 #[.slice A5 Mc C5] := Has.new _ _ _))
                      | ((refine at_dst 96 rfl ?_)
                         (refine wpList_append_rec rfl _ _ rfl w.heap.size v q.length _ rfl hown5a w5.heap.size (.slice A5 Mc C5) rfl (hnc.cell 0) rfl (by omega) hbw5a.size ?_)
                         (intro v6 w6 ho6 hg6)
                         (have hbw6 := below_gJ hbw5a hg6 (fun g e => (hown5a.lt g e).1))))
                    have hfin : RdInv w B N (T + 8 + Y) v6 w6 := by
                      have hnx : nextAt B T = T + 8 + Y := by unfold nextAt; rw [← HM.out, ← HY.out]
                      refine ⟨q ++ [(T, Mc)], fun i => if i = q.length then A5 else A i, fun i => if i = q.length then C5 else Cc i, ?_, ?_, ?_, hbw6, by rw [List.length_append, List.length_singleton]; omega, by omega⟩
                      · rw [hr, reads_yes HOK.out, hnx, ← HM.out]
                        simp
                      · rw [rcells_snoc q (T, Mc) A _ Cc _ A5 C5 (fun i hi => by rw [if_neg (by omega), if_neg (by omega)]; exact ⟨rfl, rfl⟩) (by simp) (by simp), List.length_append, List.length_singleton]
                        exact ho6
                      · intro i x hx
                        have hnew := own_keptG (own_allocJ (own_monoJ ho5 hbelq.size) (.cells #[.slice A5 Mc C5] 33)) hown5a (by decide) hg6
                        by_cases hi : i < q.length
                        · rw [List.getElem?_append_left hi] at hx
                          simp only [if_neg (show ¬ i = q.length by omega)]
                          exact own_keptG (own_allocJ (own_belowJ (hdat i x hx) hb5) _) hown5a (by decide) hg6
                        · have hil : i < (q ++ [(T, Mc)]).length := (List.getElem?_eq_some_iff.1 hx).1
                          rw [List.length_append, List.length_singleton] at hil
                          obtain rfl : i = q.length := by omega
                          rw [List.getElem?_append_right (Nat.le_refl _)] at hx
                          obtain rfl : (T, Mc) = x := by simpa using hx
                          simp only [if_pos]
                          exact hnew
                    have HF : Hid (RdInv w B N (T + 8 + Y) v6 w6) := hfin
                    clear hfin ho5 ho6 hg5 hg6 hown hown5 hown5a hdat hr
                    go_roundw
                    case rel => exact ⟨T + 8 + Y, by simp, HF.out⟩
                    case measure => simp [intOf]; omega
                · have HNE : Hid (¬ strN dd 4 = strN (fun j => B (T + 4 + j)) 4) := heq
                  obtain ⟨S1, hS1⟩ : ∃ S1, S1 = strN dd 4 := ⟨_, rfl⟩
                  obtain ⟨S2, hS2⟩ : ∃ S2, S2 = strN (fun j => B (T + 4 + j)) 4 := ⟨_, rfl⟩
                  rw [← hS1] at f1 heq
                  rw [← hS2] at f2 heq
                  have q6 : (S1 != S2) = true := by simp; exact heq
                  refine wp_region_held_drew (S := fun wz => (convert 33 9 (.slice (some ⟨w3.heap.size, 0, none⟩) 4 32)).run Tryd.prog wz = .ok (.string ⟨S1.toArray⟩) wz ∧ (convert 33 9 (.slice (some ⟨bb, off + (T + 4), none⟩) 4 (C - (T + 4)))).run Tryd.prog wz = .ok (.string ⟨S2.toArray⟩) wz) (by kernel_rfl) ⟨f1, f2⟩ (fun hHeld => ?_)
                  refine takeTo 0 (some 77) (.slice (some ⟨w3.heap.size, 0, none⟩) 4 32) rfl rfl (by kernel_rfl) (by kernel_rfl) (by kernel_rfl) (fun _ _ _ h => h) (by rfl) (fun _ _ => by kernel_rfl) hHeld ?_
                  simp only [Act.put, List.setIfInBounds_toArray, List.set_cons_zero, List.set_cons_succ]
                  refine takeTo 1 (some 78) (.string ⟨S1.toArray⟩) rfl rfl (by kernel_rfl) (by kernel_rfl) (by kernel_rfl) (fun _ _ _ h => h) (by rfl) (fun wz hz => run_convJ _ rfl (.slice (some ⟨w3.heap.size, 0, none⟩) 4 32) rfl wz _ hz.1) hHeld ?_
                  simp only [Act.put, List.setIfInBounds_toArray, List.set_cons_zero, List.set_cons_succ]
                  refine takeTo 2 (some 79) (.slice (some ⟨bb, off, none⟩) N C) rfl rfl (by kernel_rfl) (by kernel_rfl) (by kernel_rfl) (fun _ _ _ h => h) (by rfl) (fun _ _ => rfl) hHeld ?_
                  simp only [Act.put, List.setIfInBounds_toArray, List.set_cons_zero, List.set_cons_succ]
                  refine takeTo 3 (some 80) (.int .i64 (T : Nat)) rfl rfl (by kernel_rfl) (by kernel_rfl) (by kernel_rfl) (fun _ _ _ h => h) (by rfl) (fun _ _ => rfl) hHeld ?_
                  simp only [Act.put, List.setIfInBounds_toArray, List.set_cons_zero, List.set_cons_succ]
                  refine takeTo 4 (some 81) (.int .i64 ((T + 4 : Nat) : Int)) rfl rfl (by kernel_rfl) (by kernel_rfl) (by kernel_rfl) (fun _ _ _ h => h) (by rfl) (fun wz _ => run_addJ _ rfl T 4 rfl ⟨rfl, by omega⟩ wz) hHeld ?_
                  simp only [Act.put, List.setIfInBounds_toArray, List.set_cons_zero, List.set_cons_succ]
                  refine takeTo 5 (some 82) (.int .i64 (T : Nat)) rfl rfl (by kernel_rfl) (by kernel_rfl) (by kernel_rfl) (fun _ _ _ h => h) (by rfl) (fun _ _ => rfl) hHeld ?_
                  simp only [Act.put, List.setIfInBounds_toArray, List.set_cons_zero, List.set_cons_succ]
                  refine takeTo 6 (some 83) (.int .i64 ((T + 4 + 4 : Nat) : Int)) rfl rfl (by kernel_rfl) (by kernel_rfl) (by kernel_rfl) (fun _ _ _ h => h) (by rfl) (fun wz _ => run_addJ _ rfl T 8 rfl ⟨rfl, by omega⟩ wz) hHeld ?_
                  simp only [Act.put, List.setIfInBounds_toArray, List.set_cons_zero, List.set_cons_succ]
                  refine takeTo 7 (some 84) (.slice (some ⟨bb, off + (T + 4), none⟩) 4 (C - (T + 4))) rfl rfl (by kernel_rfl) (by kernel_rfl) (by kernel_rfl) (fun _ _ _ h => h) (by rfl) (fun wz _ => run_slice_j _ _ _ rfl bb off N C (T + 4) 4 rfl rfl rfl (by omega) (by omega) wz) hHeld ?_
                  simp only [Act.put, List.setIfInBounds_toArray, List.set_cons_zero, List.set_cons_succ]
                  refine takeTo 8 (some 85) (.string ⟨S2.toArray⟩) rfl rfl (by kernel_rfl) (by kernel_rfl) (by kernel_rfl) (fun _ _ _ h => h) (by rfl) (fun wz hz => run_convJ _ rfl (.slice (some ⟨bb, off + (T + 4), none⟩) 4 (C - (T + 4))) rfl wz _ hz.2) hHeld ?_
                  simp only [Act.put, List.setIfInBounds_toArray, List.set_cons_zero, List.set_cons_succ]
                  refine takeTo 9 (some 86) (.bool true) rfl rfl (by kernel_rfl) (by kernel_rfl) (by kernel_rfl) (fun _ _ _ h => h) (by rfl) (fun wz _ => run_neqJ _ _ rfl S1 S2 rfl rfl _ q6 wz) hHeld ?_
                  simp only [Act.put, List.setIfInBounds_toArray, List.set_cons_zero, List.set_cons_succ]
                  refine takeTo 10 (some 87) (.bool true) rfl rfl (by kernel_rfl) (by kernel_rfl) (by kernel_rfl) (fun _ _ _ h => h) (by rfl) (fun _ _ => rfl) hHeld ?_
                  simp only [Act.put, List.setIfInBounds_toArray, List.set_cons_zero, List.set_cons_succ]
                  refine skipTo 11 (some 88) rfl rfl (by kernel_rfl) (by kernel_rfl) (by kernel_rfl) (fun _ _ _ h => h) (by rfl) hHeld ?_
                  simp only [Act.put, List.setIfInBounds_toArray, List.set_cons_zero, List.set_cons_succ]
                  refine skipTo 12 (some 89) rfl rfl (by kernel_rfl) (by kernel_rfl) (by kernel_rfl) (fun _ _ _ h => h) (by rfl) hHeld ?_
                  simp only [Act.put, List.setIfInBounds_toArray, List.set_cons_zero, List.set_cons_succ]
                  refine takeTo 13 (some 90) (.bool true) rfl rfl (by kernel_rfl) (by kernel_rfl) (by kernel_rfl) (fun _ _ _ h => h) (by rfl) (fun _ _ => by kernel_rfl) hHeld ?_
                  simp only [Act.put, List.setIfInBounds_toArray, List.set_cons_zero, List.set_cons_succ]
                  refine wpAnyH_done (by kernel_rfl) ?_ _
                  have hi4 : RdInv w B N T v w4.drew := HI.out.next (hb34.trans ((Below.refl _ w4).drew.mono hb34.size))
                  clear hHeld f1 f2 q6 hS1 hS2 g1 g2
                  go_wp2
                  go_ret2
                  obtain ⟨e1, a9, c9, rfl, hrl⟩ := hi4.doneO h.byt (okAt_no4 (fun hh => HNE.out (by rw [HD.out, HM.out]; exact strN_same hh))) (by omega)
                  exact ⟨hbw4.drew, a9, c9, by rw [e1]; rfl, hrl⟩
    · have i0 : ¬ (T : Int) + 8 ≤ (N : Int) := by omega
      go_wp2
      go_ret2
      obtain ⟨e1, a9, c9, rfl, hrl⟩ := HI.out.doneO h.byt (okAt_end (by omega)) (by omega)
      exact ⟨hbel, a9, c9, by rw [e1]; rfl, hrl⟩
end Go.Proofs.YtfgoongfmidpgabDoor
