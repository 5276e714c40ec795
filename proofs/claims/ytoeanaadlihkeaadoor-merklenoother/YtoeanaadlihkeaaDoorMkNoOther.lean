/- MerkleNoOther, walked. -/
import Derived.Test.YtoeanaadlihkeaaDoorMkText
namespace Go.Proofs.YtoeanaadlihkeaaDoor
open Go.ChangeShapes Go.WideShapes Go.ChangeAt Go.RowKit
set_option linter.unusedVariables false

theorem run_load_rows6 {o : Oper} {a : Act} (x : Operand) (ho : o.op = .load 34 x) (p : Addr) (hx : a.eval x = .pointer (some p)) (v : Value) (w : World) (h : w.cell? p = some v) : (execOp a.eval o).run Tryd.prog w = .ok (.value v) w := by
  unfold execOp
  simp only [ho, hx]
  go_simp

set_option maxRecDepth 100000 in
set_option maxHeartbeats 3200000 in
theorem noother_walk (hM : MerkleOk) (d : Nat → Nat) (dL dc : Nat) (da : Option Addr) (wh : Int) (sn si : Int) (L C : Nat) (xa : Option Addr) (x : Nat → Nat) (len cap : Nat) (pa : Option Addr) (A : Nat → Option Addr) (Lp Cp : Nat → Nat) (P : Nat → Nat → Nat) (Lr Cr : Nat) (ra : Option Addr) (w : World)
    (hG : Glob Hc Kc w) (hdL : dL ≤ maxLen) (hdb : Bytes w da dL d) (hd : ∀ j, d j < 256) (hwh : i64ok wh) (hLC : L ≤ C) (hLm : L ≤ maxLen) (han : xa = none → L = 0 ∧ C = 0) (hx : Bytes w xa L x) (hxl : ∀ j, x j < 256) (hlm : len ≤ maxLen) (hP : Pieces w pa len A Lp Cp P) :
    Calls Tryd.prog 7 #[.slice da dL dc, .int .i64 wh, .agg #[.int .i64 sn, .int .i64 si, .slice xa L C, .slice pa len cap, .slice ra Lr Cr]] w fun e w' => e = .returned (.bool true) ∧ Below w.heap.size w w' := by
  have hN : Has (w.alloc (.cells #[.int .i64 sn, .int .i64 si, .slice xa L C, .slice pa len cap, .slice ra Lr Cr] 36)) w.heap.size 36 #[.int .i64 sn, .int .i64 si, .slice xa L C, .slice pa len cap, .slice ra Lr Cr] := Has.new _ _ _
  have hB0 : Below w.heap.size w (w.alloc (.cells #[.int .i64 sn, .int .i64 si, .slice xa L C, .slice pa len cap, .slice ra Lr Cr] 36)) := (Below.refl _ _).alloc (Nat.le_refl _) _
  have K1 : Hid _ := fun wz (hb : Below w.heap.size w wz) => picked_any d dL dc da wz hdL (hdb.below hb (Nat.le_refl _))
  have hn := pickN_in dL
  have hF := pickF_lt d dL hd
  generalize pickF d dL = F at *
  generalize pickN dL = n at *
  obtain ⟨M, hMe⟩ : ∃ M, M = 64 * n := ⟨_, rfl⟩
  have hB := fun (g : Nat) w hG (hb : Bytes w (some ⟨g, 0, none⟩) (64 * n) F) => hM.2.2.1 n F (some ⟨g, 0, none⟩) (64 * n) w hG (by omega) (by omega) (Nat.le_refl _) hb hF
  have hD1 := dep_pos n
  have hD11 := dep_11 n (by omega)
  have hoff := off_max n (dep n) (by omega) (by omega) hD11
  have KA : Hid _ := fun w hG => live_any hM w hG
  obtain ⟨TL, hTL⟩ : ∃ TL, TL = 64 * off n (dep n) := ⟨_, rfl⟩
  have hTLp : 64 ≤ TL := by
    have a1 := off_mono n 1 (dep n) hD1
    have a2 := lv_pos n 1 (by omega)
    have a3 : off n 1 = 0 + lv n 1 := rfl
    omega
  have HP : Hid _ := fun I (hI : I < n) tb to_ tc w hT htc => path_any hM n I hI (by omega) tb to_ tc (tree F n (dep n)) w hT htc (tree_lt F n hF (dep n))
  rw [← hTL] at hB HP
  rw [← hMe] at hB K1
  have HB : Hid _ := hB
  have hMq : (M : Int) / 64 = (n : Int) := by omega
  have hMb : M ≤ 2560 := by omega
  have HM : Hid (M = 64 * n) := hMe
  have HX : Hid (Bytes w xa L x) := hx
  have HPi : Hid (Pieces w pa len A Lp Cp P) := hP
  clear hB hMe hTL hx hP hdb
  go_enter Tryd.func7, Tryd.ntmps7
  go_wp2
  generalize (w.alloc (.cells #[.int .i64 sn, .int .i64 si, .slice xa L C, .slice pa len cap, .slice ra Lr Cr] 36)) = w0 at *
  have hNd : Has w0.drew w.heap.size 36 #[.int .i64 sn, .int .i64 si, .slice xa L C, .slice pa len cap, .slice ra Lr Cr] := hN
  have hBd : Below w.heap.size w w0.drew := hB0.drew
  refine wp_region_held_drew (S := fun w' => Has w' w.heap.size 36 #[.int .i64 sn, .int .i64 si, .slice xa L C, .slice pa len cap, .slice ra Lr Cr]) (by kernel_rfl) hNd (fun hHeld => ?_)
  refine takeTo 0 (some 21) (.pointer (some ⟨w.heap.size, 2, none⟩)) rfl rfl (by kernel_rfl) (by kernel_rfl) (by kernel_rfl) (fun _ _ _ h => h) (by rfl) (fun _ _ => by kernel_rfl) hHeld ?_
  simp only [Act.put, List.setIfInBounds_toArray, List.set_cons_zero, List.set_cons_succ]
  refine takeTo 1 (some 22) (.slice xa L C) rfl rfl (by kernel_rfl) (by kernel_rfl) (by kernel_rfl) (fun _ _ _ h => h) (by rfl) (fun wz hz => run_load_row1 _ rfl _ rfl _ wz (hz.cell 2)) hHeld ?_
  simp only [Act.put, List.setIfInBounds_toArray, List.set_cons_zero, List.set_cons_succ]
  refine takeTo 2 (some 23) (.pointer (some ⟨w.heap.size, 3, none⟩)) rfl rfl (by kernel_rfl) (by kernel_rfl) (by kernel_rfl) (fun _ _ _ h => h) (by rfl) (fun _ _ => by kernel_rfl) hHeld ?_
  simp only [Act.put, List.setIfInBounds_toArray, List.set_cons_zero, List.set_cons_succ]
  refine takeTo 3 (some 24) (.slice pa len cap) rfl rfl (by kernel_rfl) (by kernel_rfl) (by kernel_rfl) (fun _ _ _ h => h) (by rfl) (fun wz hz => run_load_rows6 _ rfl _ rfl _ wz (hz.cell 3)) hHeld ?_
  simp only [Act.put, List.setIfInBounds_toArray, List.set_cons_zero, List.set_cons_succ]
  refine takeTo 4 (some 7) (.slice xa L C) rfl rfl (by kernel_rfl) (by kernel_rfl) (by kernel_rfl) (fun _ _ _ h => h) (by rfl) (fun _ _ => rfl) hHeld ?_
  simp only [Act.put, List.setIfInBounds_toArray, List.set_cons_zero, List.set_cons_succ]
  refine takeTo 5 (some 8) (.slice pa len cap) rfl rfl (by kernel_rfl) (by kernel_rfl) (by kernel_rfl) (fun _ _ _ h => h) (by rfl) (fun _ _ => rfl) hHeld ?_
  simp only [Act.put, List.setIfInBounds_toArray, List.set_cons_zero, List.set_cons_succ]
  refine wpAnyH_done (by kernel_rfl) ?_ _
  have k1 := K1.out w0.drew hBd
  clear hHeld hNd hN hB0
  generalize w0.drew = wd at *
  have HI : ∃ I : Nat, I < n ∧ (wh < 0 → (wh + 1).tmod (n : Int) = -(I : Int)) ∧ (¬ wh < 0 → wh.tmod (n : Int) = I ∧ wh % (n : Int) = I) := by
    by_cases h : wh < 0
    · have a1 := Int.emod_lt_of_pos (-(wh + 1)) (show (0 : Int) < n by omega)
      have a2 := Int.emod_nonneg (-(wh + 1)) (show (n : Int) ≠ 0 by omega)
      refine ⟨((-(wh + 1)) % (n : Int)).toNat, by omega, fun _ => ?_, fun h' => absurd h h'⟩
      rw [Int.toNat_of_nonneg a2, ← Int.tmod_eq_emod_of_nonneg (by omega), Int.neg_tmod, Int.neg_neg]
    · have a1 := Int.emod_lt_of_pos wh (show (0 : Int) < n by omega)
      have a2 := Int.emod_nonneg wh (show (n : Int) ≠ 0 by omega)
      refine ⟨(wh % (n : Int)).toNat, by omega, fun h' => absurd h' h, fun _ => ?_⟩
      rw [Int.toNat_of_nonneg a2, Int.tmod_eq_emod_of_nonneg (by omega)]
      exact ⟨rfl, rfl⟩
  obtain ⟨I, hI, hI1, hI2⟩ := HI
  unfold i64ok at hwh
  have hI64 : I * 64 + 64 ≤ M := by have := HM.out; omega
  have hI3 : (I : Int) * 64 + 64 ≤ M := by omega
  have hI4 : ((I : Int) + 1) * 64 ≤ M := by omega
  have hIb : I ≤ 40 := by omega
  by_cases hneg : wh < 0
  · have hIe := hI1 hneg
    clear hI1 hI2
    go_wp2_with (first
      | ((go_at_call 19)
         (refine k1.mono ?_)
         (rintro e w1 ⟨rfl, hH1, hb1⟩)
         (have hB1 := hBd.trans (hb1.mono hBd.size))
         (have k2 := HB.out wd.heap.size w1 (hG.below hB1 hG.1) hH1.bytes)
         (clear k1 hb1))
      | ((go_at_call 14)
         (refine k2.mono ?_)
         (rintro e w2 ⟨ta, tc, rfl, htc, htn, hT2, hb2⟩)
         (obtain ⟨tb, to_, rfl, _, _⟩ := id (hT2.resolve_left (by omega)))
         (have hN2 : Has (w2.alloc (.cells (cellsN .u8 32 fun _ => 0) 28)) w2.heap.size 28 (cellsN .u8 32 fun _ => 0) := Has.new _ _ _)
         (have hb2' : Below w2.heap.size w2 (w2.alloc (.cells (cellsN .u8 32 fun _ => 0) 28)) := (Below.refl _ _).alloc (Nat.le_refl _) _)
         (clear k2))
      | ((refine wpList_store_rowG rfl 28 _ _ rfl (w2.heap.size) (cellsN .u8 32 (root F n)) rfl rfl 28 _ hN2 (by rw [cellsN_size]; exact Tryd.size28) (by simp [cellsN_size]) (cellsN_one _ _ _) ?_)
         (intro w3 hw3)
         (have hR3 : Has w3 w2.heap.size 28 (cellsN .u8 32 (root F n)) := (by rw [hw3]; exact hN2.setRow _))
         (have hb3 : Below w2.heap.size w2 w3 := (by rw [hw3]; exact below_setRow hb2' (Nat.le_refl _) _))
         (have hB3 : Below w.heap.size w w3 := hB1.trans ((hb2.mono hB1.size).trans (hb3.mono (Nat.le_trans hB1.size hb2.size))))
         (have hH3 := (hH1.below hb2 hH1.lt).below hb3 (hH1.below hb2 hH1.lt).lt)
         (have hT3 := hT2.below hb3 (Nat.le_refl _))
         (have ka := KA.out w3 (hG.below hB3 hG.1))
         (clear hw3 hN2 hb2' hH1 hT2 hB1 hb2 hb3))
      | ((go_at_call 13)
         (refine ka.mono ?_)
         (rintro e w4 ⟨rfl, hb4⟩)
         (have hR4 := hR3.below hb4 hR3.lt)
         (have hH4 := hH3.below hb4 hH3.lt)
         (have hT4 := hT3.below hb4 (Nat.le_refl _))
         (have hB4 := hB3.trans (hb4.mono hB3.size))
         (clear ka hR3 hH3 hT3 hb4 hB3)))
    rw [show (I + 1) * 64 - I * 64 = 64 from by omega]
    have hs4 : Bytes w4 (some ⟨wd.heap.size, I * 64, none⟩) 64 (fun j => F (I * 64 + j)) := by
      have h := hH4.bytes.part (I * 64) 64 (by omega)
      rw [Nat.zero_add] at h
      exact h
    have hx4 := Bytes.below HX.out hB4 (Nat.le_refl _)
    have hX0 : ∀ j, (fun j => F (I * 64 + j)) j < 256 := fun j => hF _
    have s1 := same_any (M - I * 64) C hs4 hx4 hX0 hxl (fun e => by cases e) (fun e => (han e).1)
    have kc := hM.2.2.2 n I L C xa x len cap pa A Lp Cp P 32 32 (some ⟨w2.heap.size, 0, none⟩) (root F n) w4 (hG.below hB4 hG.1) ⟨by omega, by omega⟩ ⟨by omega, by omega⟩ hLC hLm han hx4 hxl hlm (Pieces.below HPi.out hB4) (Nat.le_refl _) (by unfold maxLen; omega) (fun e => by cases e) hR4.bytes (root_lt _ _)
    by_cases hsame : strN (fun j => F (I * 64 + j)) 64 = strN x L
    · rw [hsame, beq_self_eq_true] at s1
      clear kc
      refine s1.mono ?_
      rintro e w5 ⟨rfl, rfl⟩
      go_wp2
      go_ret
      exact ⟨rfl, hB4⟩
    have hsf : (strN (fun j => F (I * 64 + j)) 64 == strN x L) = false := by simpa using hsame
    rw [hsf] at s1
    by_cases hSh : Shows n I L x len Lp P 32 (root F n)
    case neg =>
      have kc' : Calls Tryd.prog 17 #[.int .i64 (n : Nat), .int .i64 (I : Nat), .slice xa L C, .slice pa len cap, .slice (some ⟨w2.heap.size, 0, none⟩) 32 32] w4 fun e w' => e = .returned (.bool false) ∧ Below w4.heap.size w4 w' := by
        refine kc.mono ?_
        rintro e w' ⟨⟨b, rfl, hb⟩, hbw⟩
        cases b with
        | false => exact ⟨rfl, hbw⟩
        | true => exact absurd (hb.1 rfl) hSh
      clear kc
      refine s1.mono ?_
      rintro e w5 ⟨rfl, rfl⟩
      go_wp2_with (first
        | ((go_at_call 17)
           (refine kc'.mono ?_)
           (rintro e w6 ⟨rfl, hb6⟩)))
      go_ret
      exact ⟨rfl, hB4.trans (hb6.mono hB4.size)⟩
    have kc' : Calls Tryd.prog 17 #[.int .i64 (n : Nat), .int .i64 (I : Nat), .slice xa L C, .slice pa len cap, .slice (some ⟨w2.heap.size, 0, none⟩) 32 32] w4 fun e w' => e = .returned (.bool true) ∧ Below w4.heap.size w4 w' := by
      refine kc.mono ?_
      rintro e w' ⟨⟨b, rfl, hb⟩, hbw⟩
      obtain rfl : b = true := hb.2 hSh
      exact ⟨rfl, hbw⟩
    clear kc
    unfold Shows at hSh
    simp only [Int.toNat_natCast] at hSh
    obtain ⟨_, _, _, hL64, hlen, hLp, hSt, _, hrt⟩ := hSh
    subst hL64 hlen
    have HST : Hid (Stands I x P (dep n)) := hSt
    have HRT : Hid (∀ j, j < 32 → root F n j = up x P (dep n) j) := hrt
    have HLp : Hid (∀ k, k < dep n → Lp k = 64) := hLp
    have HNE : Hid (∃ j, j < 64 ∧ F (I * 64 + j) ≠ x j) := by
      refine Classical.byContradiction fun hcon => hsame ?_
      exact strN_same (fun j hj => Classical.byContradiction fun h => hcon ⟨j, hj, h⟩)
    clear hsame hsf hSt hrt hLp
    obtain ⟨pb, po, rfl, hpb⟩ : ∃ pb po, pa = some ⟨pb, po, none⟩ ∧ pb < w.heap.size := by
      obtain ⟨⟨b, o, e, hlt, _⟩, _⟩ := HPi.out 0 (by omega)
      exact ⟨b, o, e, hlt⟩
    refine s1.mono ?_
    rintro e w5 ⟨rfl, rfl⟩
    clear s1
    go_wp2_with (first
      | ((go_at_call 17)
         (refine kc'.mono ?_)
         (rintro e w6 ⟨rfl, hb6⟩)
         (have hB6 := hB4.trans (hb6.mono hB4.size))
         (have hs6 := hs4.below hb6 (Nat.le_refl _))
         (have hT6 := hT4.below hb6 (Nat.le_refl _))
         (have k6 := HP.out I hI tb to_ tc w6 hT6 htc)
         (clear kc' hs4 hx4 hT4 hR4 hH4 hB4 hb6))
      | ((go_at_call 20)
         (refine k6.mono ?_)
         (rintro e w7 ⟨oa, oc, rfl, hoc, hoa, hPq, hb7⟩)
         (have hB7 := hB6.trans (hb7.mono hB6.size))
         (have hs7 := hs6.below hb7 (Nat.le_refl _))
         (obtain ⟨ga, ca, w8, hra, hca, hta, hb8⟩ := text_own w7 0 (fun j => F (I * 64 + j)) _ (M - I * 64) hs7)
         (have hB8 := hB7.trans (hb8.mono hB7.size))
         (have hx8 := Bytes.below HX.out hB8 (Nat.le_refl _))
         (obtain ⟨gb, cb, w9, hrb, hcb, htb, hb9⟩ := text_own w8 0 x xa C hx8)
         (have hB9 := hB8.trans (hb9.mono hB8.size))
         (have hta9 := hta.below hb9 (Nat.le_refl _))
         (have hPq9 := Pieces.below hPq (hb8.trans (hb9.mono hb8.size)))
         (clear k6 hs6 hT6 hB6 hb7 hs7 hb8 hB8 hx8 hb9 hta hPq))
      | ((at_builtin)
         (refine wpList_append_at rfl _ _ _ _ rfl _ _ rfl rfl _ hra ?_)
         (clear hra))
      | ((at_builtin)
         (refine wpList_append_at rfl _ _ _ _ rfl _ _ rfl rfl _ hrb ?_)
         (clear hrb)))
    obtain ⟨Q, hQ⟩ : ∃ Q : Nat → Nat → Nat, Q = fun k => sec (tree F n (dep n)) (off n k + pl I (k + 1)) := ⟨_, rfl⟩
    rw [← hQ] at hPq9
    have HSQ : Hid (Stands I (fun j => F (I * 64 + j)) Q (dep n) ∧ up (fun j => F (I * 64 + j)) Q (dep n) = root F n) := by
      have hx0 : ∀ j, j < 64 → (fun j => F (I * 64 + j)) j = sec F I j := fun j _ => by show F (I * 64 + j) = F (64 * I + j); rw [Nat.mul_comm]
      have hP' : ∀ k, k < dep n → ∀ j, j < 64 → Q k j = sec (lvl F n (k + 1)) (pl I (k + 1)) j := fun k hk j hj => by rw [hQ]; exact tree_sec F n (dep n) k I j hk hI hj
      exact ⟨own_stands F n I Q (dep n) hI hP' _ hx0, own_root F n I Q hI hP' _ hx0⟩
    have HQ : Hid (∀ k j, Q k j < 256) := fun k j => by rw [hQ]; exact tree_lt F n hF (dep n) _
    have HXl : Hid (∀ j, (fun j => F (I * 64 + j)) j < 256) := hX0
    have HNE2 : Hid (∃ j, j < 64 ∧ (fun j => F (I * 64 + j)) j ≠ x j) := HNE.out
    clear hQ
    generalize (fun j => F (I * 64 + j)) = X0 at *
    obtain ⟨ob, oo, rfl⟩ : ∃ ob oo, oa = some ⟨ob, oo, none⟩ := by
      obtain ⟨⟨b, o, e, _⟩, _⟩ := hPq9 0 (by omega)
      exact ⟨b, o, e⟩
    have HPQ : Hid _ := hPq9
    obtain ⟨D, hD⟩ : ∃ D, D = dep n := ⟨_, rfl⟩
    have HD : Hid (D = dep n) := hD
    rw [← hD] at HPQ HSQ HST HRT HLp HPi hD1 hD11 ⊢
    clear hD hPq9 hX0 HNE
    go_loopw [18, 19, 20] (fun av bv kv wr => ∃ (k g1 c1 g2 c2 : Nat), k ≤ D ∧ kv = .int .i64 (k : Nat) ∧ av = .slice (some ⟨g1, 0, none⟩) 65 c1 ∧ bv = .slice (some ⟨g2, 0, none⟩) 65 c2 ∧ 65 ≤ c1 ∧ 65 ≤ c2 ∧
        Bytes wr (some ⟨g1, 0, none⟩) 65 (cat (fun _ => kd k) 1 (txt X0 Q k)) ∧ Bytes wr (some ⟨g2, 0, none⟩) 65 (cat (fun _ => kd k) 1 (txt x P k)) ∧ (∃ j, j < 64 ∧ txt X0 Q k j ≠ txt x P k j) ∧ Below w9.heap.size w9 wr)
      (fun _ _ kv _ => D + 1 - (intOf kv).toNat)
    case atStart => exact ⟨0, ga, ca, gb, cb, Nat.zero_le _, rfl, rfl, rfl, hca, hcb, hta9, htb, HNE2.out, Below.refl _ _⟩
    case round =>
      clear hta9 htb HNE2
      obtain ⟨k, g1, c1, g2, c2, hk, rfl, rfl, rfl, hc1, hc2, hA, hBb, hne, hbel⟩ := hrel
      have hBr := hB9.trans (hbel.mono hB9.size)
      have hGr := hG.below hBr hG.1
      have hXk : ∀ j, txt X0 Q k j < 256 := by
        cases k with
        | zero => exact HXl.out
        | succ k => exact HQ.out k
      have hYk : ∀ j, txt x P k j < 256 := by
        cases k with
        | zero => exact hxl
        | succ k => exact (HPi.out k (by omega)).2.2.2.2
      have v1 := conv_bytesN c1 hA (cat_lt _ _ _ (fun _ => kd_lt k) hXk) (fun e => by cases e)
      have v2 := conv_bytesN c2 hBb (cat_lt _ _ _ (fun _ => kd_lt k) hYk) (fun e => by cases e)
      have hstr : strN (cat (fun _ => kd k) 1 (txt X0 Q k)) 65 ≠ strN (cat (fun _ => kd k) 1 (txt x P k)) 65 := by
        intro h
        obtain ⟨j, hj, hj2⟩ := hne
        have := ((strN_eq (cat_lt _ _ _ (fun _ => kd_lt k) hXk) (cat_lt _ _ _ (fun _ => kd_lt k) hYk)).1 h).2 (1 + j) (by omega)
        unfold cat at this
        rw [if_neg (by omega), if_neg (by omega), show 1 + j - 1 = j from by omega] at this
        exact hj2 this
      generalize strN (cat (fun _ => kd k) 1 (txt X0 Q k)) 65 = sa at v1 hstr
      generalize strN (cat (fun _ => kd k) 1 (txt x P k)) 65 = sb at v2 hstr
      have hsb : (sa == sb) = false := by simpa using hstr
      have h1 := sum_text (kd k) (txt X0 Q k) _ c1 wr hGr (kd_lt k) hXk hA hc1
      have H2 : Hid (∀ wz, Below wr.heap.size wr wz → Calls Tryd.prog 21 #[.slice (some ⟨g2, 0, none⟩) (65 : Nat) c2] wz fun e w' => e = .returned (.agg (cellsN .u8 32 (hsh (kd k) (txt x P k)))) ∧ Below wz.heap.size wz w') := fun wz hb => sum_text (kd k) (txt x P k) _ c2 wz (hGr.below hb hGr.1) (kd_lt k) hYk (hBb.below hb (Nat.le_refl _)) hc2
      rw [← up_txt] at h1 H2
      have hU : ∀ j, up X0 Q k j < 256 := fun j => up_lt _ _ _ _
      have hV : ∀ j, up x P k j < 256 := fun j => up_lt _ _ _ _
      have hXe : ∀ w, (Op.equalIn 10000 28 (.agg (cellsN .u8 32 (up X0 Q k))) (.agg (cellsN .u8 32 (up x P k)))).run Tryd.prog w = .ok (eqB (up X0 Q k) (up x P k)) w := fun w => eq_digests _ _ w (fun j _ => hU j) (fun j _ => hV j)
      have hki : (k : Int) ≤ D := by omega
      by_cases heq : eqB (up X0 Q k) (up x P k) = true
      · rw [heq] at hXe
        generalize up X0 Q k = U at *
        generalize up x P k = V at *
        clear hne hstr hA hBb heq
        go_wp2_with (first
          | ((go_at_call 21)
             (refine h1.mono ?_)
             (clear h1)
             (rintro e wa ⟨rfl, hba⟩)
             (have h2 := H2.out wa hba))
          | ((go_at_call 21)
             (refine h2.mono ?_)
             (clear h2)
             (rintro e wb ⟨rfl, hbb⟩)
             (have hBb2 := hBr.trans ((hba.trans (hbb.mono hba.size)).mono hBr.size))))
        go_ret
        exact ⟨rfl, hBb2⟩
      · have hef : eqB (up X0 Q k) (up x P k) = false := by simpa using heq
        have hud : ∃ j, j < 32 ∧ up X0 Q k j ≠ up x P k j := Classical.byContradiction fun hcon => heq ((eqB_iff _ _).2 fun j hj => Classical.byContradiction fun h => hcon ⟨j, hj, h⟩)
        have hlt : k < D := by
          refine Nat.lt_of_le_of_ne hk fun e => ?_
          subst e
          obtain ⟨j, hj, hj2⟩ := hud
          rw [HSQ.out.2, HRT.out j hj] at hj2
          exact hj2 rfl
        have HN2 : Hid (∃ j, j < 64 ∧ Q k j ≠ P k j) := parts_up I k X0 x Q P (stands_less HSQ.out.1 hlt) (stands_less HST.out hlt) hud
        obtain ⟨⟨b1, o1, e1, hb1l, hcell1⟩, _, _, hq1, _⟩ := HPQ.out k hlt
        cases e1
        obtain ⟨⟨b2, o2, e2, hb2l, hcell2⟩, hp2, hp3, hp4, _⟩ := Pieces.below HPi.out hB9 k hlt
        cases e2
        rw [HLp.out k hlt] at hcell2 hp2 hp4
        obtain ⟨Ak, hAk⟩ : ∃ Ak, Ak = A k := ⟨_, rfl⟩
        obtain ⟨Ck, hCk⟩ : ∃ Ck, Ck = Cp k := ⟨_, rfl⟩
        rw [← hAk, ← hCk] at hcell2
        rw [← hCk] at hp2
        rw [← hAk] at hp4
        have hlti : (k : Int) < D := by omega
        rw [hef] at hXe
        have HK : Hid (k < D) := hlt
        generalize up X0 Q k = U at *
        generalize up x P k = V at *
        clear hne hstr hA hBb heq hud hef hAk hCk hp3 hlt
        go_wp2_with (first
          | ((go_at_call 21)
             (refine h1.mono ?_)
             (clear h1)
             (rintro e wa ⟨rfl, hba⟩)
             (have h2 := H2.out wa hba))
          | ((go_at_call 21)
             (refine h2.mono ?_)
             (clear h2)
             (rintro e wb ⟨rfl, hbb⟩)
             (have hbel2 : Below w9.heap.size w9 wb := hbel.trans ((hba.trans (hbb.mono hba.size)).mono hbel.size))
             (have cl1 := ((hbel2.alloc hbel2.size (.cells #[.int .u8 1] 5)).cell (p := ⟨ob, oo + k, none⟩) hb1l).trans hcell1)
             (obtain ⟨ga2, ca2, wc, hra, hca2, hta2, hbc⟩ := text_own wb 1 (Q k) _ (tc - (off n k + pl I (k + 1)) * 64) (hq1.below hbel2 (Nat.le_refl _)))
             (have hbel3 := hbel2.trans (hbc.mono hbel2.size))
             (have cl2 := ((hbel3.alloc hbel3.size (.cells #[.int .u8 1] 5)).cell (p := ⟨pb, po + k, none⟩) hb2l).trans hcell2)
             (obtain ⟨gb2, cb2, wd2, hrb, hcb2, htb2, hbd2⟩ := text_own wc 1 (P k) Ak Ck (hp4.below hbel3 (Nat.le_refl _)))
             (have hbel4 := hbel3.trans (hbd2.mono hbel3.size))
             (have hta3 := hta2.below hbd2 (Nat.le_refl _))
             (clear hcell1 hcell2 hbel hba hbb H2 hq1 hp4))
          | ((at_builtin)
             (refine wpList_append_at rfl _ _ _ _ rfl _ _ rfl rfl _ hra ?_)
             (clear hra))
          | ((at_builtin)
             (refine wpList_append_at rfl _ _ _ _ rfl _ _ rfl rfl _ hrb ?_)
             (clear hrb)))
        go_roundw
        case rel => exact ⟨k + 1, ga2, ca2, gb2, cb2, HK.out, rfl, rfl, rfl, hca2, hcb2, hta3, htb2, HN2.out, hbel4⟩
        case measure => have := HK.out; simp [intOf]; omega
  · have hIe := (hI2 hneg).1
    have hIe2 := (hI2 hneg).2
    clear hI1 hI2
    go_wp2_with (first
      | ((go_at_call 19)
         (refine k1.mono ?_)
         (rintro e w1 ⟨rfl, hH1, hb1⟩)
         (have hB1 := hBd.trans (hb1.mono hBd.size))
         (have k2 := HB.out wd.heap.size w1 (hG.below hB1 hG.1) hH1.bytes)
         (clear k1 hb1))
      | ((go_at_call 14)
         (refine k2.mono ?_)
         (rintro e w2 ⟨ta, tc, rfl, htc, htn, hT2, hb2⟩)
         (obtain ⟨tb, to_, rfl, _, _⟩ := id (hT2.resolve_left (by omega)))
         (have hN2 : Has (w2.alloc (.cells (cellsN .u8 32 fun _ => 0) 28)) w2.heap.size 28 (cellsN .u8 32 fun _ => 0) := Has.new _ _ _)
         (have hb2' : Below w2.heap.size w2 (w2.alloc (.cells (cellsN .u8 32 fun _ => 0) 28)) := (Below.refl _ _).alloc (Nat.le_refl _) _)
         (clear k2))
      | ((refine wpList_store_rowG rfl 28 _ _ rfl (w2.heap.size) (cellsN .u8 32 (root F n)) rfl rfl 28 _ hN2 (by rw [cellsN_size]; exact Tryd.size28) (by simp [cellsN_size]) (cellsN_one _ _ _) ?_)
         (intro w3 hw3)
         (have hR3 : Has w3 w2.heap.size 28 (cellsN .u8 32 (root F n)) := (by rw [hw3]; exact hN2.setRow _))
         (have hb3 : Below w2.heap.size w2 w3 := (by rw [hw3]; exact below_setRow hb2' (Nat.le_refl _) _))
         (have hB3 : Below w.heap.size w w3 := hB1.trans ((hb2.mono hB1.size).trans (hb3.mono (Nat.le_trans hB1.size hb2.size))))
         (have hH3 := (hH1.below hb2 hH1.lt).below hb3 (hH1.below hb2 hH1.lt).lt)
         (have hT3 := hT2.below hb3 (Nat.le_refl _))
         (have ka := KA.out w3 (hG.below hB3 hG.1))
         (clear hw3 hN2 hb2' hH1 hT2 hB1 hb2 hb3))
      | ((go_at_call 13)
         (refine ka.mono ?_)
         (rintro e w4 ⟨rfl, hb4⟩)
         (have hR4 := hR3.below hb4 hR3.lt)
         (have hH4 := hH3.below hb4 hH3.lt)
         (have hT4 := hT3.below hb4 (Nat.le_refl _))
         (have hB4 := hB3.trans (hb4.mono hB3.size))
         (clear ka hR3 hH3 hT3 hb4 hB3)))
    rw [show (I + 1) * 64 - I * 64 = 64 from by omega]
    have hs4 : Bytes w4 (some ⟨wd.heap.size, I * 64, none⟩) 64 (fun j => F (I * 64 + j)) := by
      have h := hH4.bytes.part (I * 64) 64 (by omega)
      rw [Nat.zero_add] at h
      exact h
    have hx4 := Bytes.below HX.out hB4 (Nat.le_refl _)
    have hX0 : ∀ j, (fun j => F (I * 64 + j)) j < 256 := fun j => hF _
    have s1 := same_any (M - I * 64) C hs4 hx4 hX0 hxl (fun e => by cases e) (fun e => (han e).1)
    have kc := hM.2.2.2 n I L C xa x len cap pa A Lp Cp P 32 32 (some ⟨w2.heap.size, 0, none⟩) (root F n) w4 (hG.below hB4 hG.1) ⟨by omega, by omega⟩ ⟨by omega, by omega⟩ hLC hLm han hx4 hxl hlm (Pieces.below HPi.out hB4) (Nat.le_refl _) (by unfold maxLen; omega) (fun e => by cases e) hR4.bytes (root_lt _ _)
    by_cases hsame : strN (fun j => F (I * 64 + j)) 64 = strN x L
    · rw [hsame, beq_self_eq_true] at s1
      clear kc
      refine s1.mono ?_
      rintro e w5 ⟨rfl, rfl⟩
      go_wp2
      go_ret
      exact ⟨rfl, hB4⟩
    have hsf : (strN (fun j => F (I * 64 + j)) 64 == strN x L) = false := by simpa using hsame
    rw [hsf] at s1
    by_cases hSh : Shows n I L x len Lp P 32 (root F n)
    case neg =>
      have kc' : Calls Tryd.prog 17 #[.int .i64 (n : Nat), .int .i64 (I : Nat), .slice xa L C, .slice pa len cap, .slice (some ⟨w2.heap.size, 0, none⟩) 32 32] w4 fun e w' => e = .returned (.bool false) ∧ Below w4.heap.size w4 w' := by
        refine kc.mono ?_
        rintro e w' ⟨⟨b, rfl, hb⟩, hbw⟩
        cases b with
        | false => exact ⟨rfl, hbw⟩
        | true => exact absurd (hb.1 rfl) hSh
      clear kc
      refine s1.mono ?_
      rintro e w5 ⟨rfl, rfl⟩
      go_wp2_with (first
        | ((go_at_call 17)
           (refine kc'.mono ?_)
           (rintro e w6 ⟨rfl, hb6⟩)))
      go_ret
      exact ⟨rfl, hB4.trans (hb6.mono hB4.size)⟩
    have kc' : Calls Tryd.prog 17 #[.int .i64 (n : Nat), .int .i64 (I : Nat), .slice xa L C, .slice pa len cap, .slice (some ⟨w2.heap.size, 0, none⟩) 32 32] w4 fun e w' => e = .returned (.bool true) ∧ Below w4.heap.size w4 w' := by
      refine kc.mono ?_
      rintro e w' ⟨⟨b, rfl, hb⟩, hbw⟩
      obtain rfl : b = true := hb.2 hSh
      exact ⟨rfl, hbw⟩
    clear kc
    unfold Shows at hSh
    simp only [Int.toNat_natCast] at hSh
    obtain ⟨_, _, _, hL64, hlen, hLp, hSt, _, hrt⟩ := hSh
    subst hL64 hlen
    have HST : Hid (Stands I x P (dep n)) := hSt
    have HRT : Hid (∀ j, j < 32 → root F n j = up x P (dep n) j) := hrt
    have HLp : Hid (∀ k, k < dep n → Lp k = 64) := hLp
    have HNE : Hid (∃ j, j < 64 ∧ F (I * 64 + j) ≠ x j) := by
      refine Classical.byContradiction fun hcon => hsame ?_
      exact strN_same (fun j hj => Classical.byContradiction fun h => hcon ⟨j, hj, h⟩)
    clear hsame hsf hSt hrt hLp
    obtain ⟨pb, po, rfl, hpb⟩ : ∃ pb po, pa = some ⟨pb, po, none⟩ ∧ pb < w.heap.size := by
      obtain ⟨⟨b, o, e, hlt, _⟩, _⟩ := HPi.out 0 (by omega)
      exact ⟨b, o, e, hlt⟩
    refine s1.mono ?_
    rintro e w5 ⟨rfl, rfl⟩
    clear s1
    go_wp2_with (first
      | ((go_at_call 17)
         (refine kc'.mono ?_)
         (rintro e w6 ⟨rfl, hb6⟩)
         (have hB6 := hB4.trans (hb6.mono hB4.size))
         (have hs6 := hs4.below hb6 (Nat.le_refl _))
         (have hT6 := hT4.below hb6 (Nat.le_refl _))
         (have k6 := HP.out I hI tb to_ tc w6 hT6 htc)
         (clear kc' hs4 hx4 hT4 hR4 hH4 hB4 hb6))
      | ((go_at_call 20)
         (refine k6.mono ?_)
         (rintro e w7 ⟨oa, oc, rfl, hoc, hoa, hPq, hb7⟩)
         (have hB7 := hB6.trans (hb7.mono hB6.size))
         (have hs7 := hs6.below hb7 (Nat.le_refl _))
         (obtain ⟨ga, ca, w8, hra, hca, hta, hb8⟩ := text_own w7 0 (fun j => F (I * 64 + j)) _ (M - I * 64) hs7)
         (have hB8 := hB7.trans (hb8.mono hB7.size))
         (have hx8 := Bytes.below HX.out hB8 (Nat.le_refl _))
         (obtain ⟨gb, cb, w9, hrb, hcb, htb, hb9⟩ := text_own w8 0 x xa C hx8)
         (have hB9 := hB8.trans (hb9.mono hB8.size))
         (have hta9 := hta.below hb9 (Nat.le_refl _))
         (have hPq9 := Pieces.below hPq (hb8.trans (hb9.mono hb8.size)))
         (clear k6 hs6 hT6 hB6 hb7 hs7 hb8 hB8 hx8 hb9 hta hPq))
      | ((at_builtin)
         (refine wpList_append_at rfl _ _ _ _ rfl _ _ rfl rfl _ hra ?_)
         (clear hra))
      | ((at_builtin)
         (refine wpList_append_at rfl _ _ _ _ rfl _ _ rfl rfl _ hrb ?_)
         (clear hrb)))
    obtain ⟨Q, hQ⟩ : ∃ Q : Nat → Nat → Nat, Q = fun k => sec (tree F n (dep n)) (off n k + pl I (k + 1)) := ⟨_, rfl⟩
    rw [← hQ] at hPq9
    have HSQ : Hid (Stands I (fun j => F (I * 64 + j)) Q (dep n) ∧ up (fun j => F (I * 64 + j)) Q (dep n) = root F n) := by
      have hx0 : ∀ j, j < 64 → (fun j => F (I * 64 + j)) j = sec F I j := fun j _ => by show F (I * 64 + j) = F (64 * I + j); rw [Nat.mul_comm]
      have hP' : ∀ k, k < dep n → ∀ j, j < 64 → Q k j = sec (lvl F n (k + 1)) (pl I (k + 1)) j := fun k hk j hj => by rw [hQ]; exact tree_sec F n (dep n) k I j hk hI hj
      exact ⟨own_stands F n I Q (dep n) hI hP' _ hx0, own_root F n I Q hI hP' _ hx0⟩
    have HQ : Hid (∀ k j, Q k j < 256) := fun k j => by rw [hQ]; exact tree_lt F n hF (dep n) _
    have HXl : Hid (∀ j, (fun j => F (I * 64 + j)) j < 256) := hX0
    have HNE2 : Hid (∃ j, j < 64 ∧ (fun j => F (I * 64 + j)) j ≠ x j) := HNE.out
    clear hQ
    generalize (fun j => F (I * 64 + j)) = X0 at *
    obtain ⟨ob, oo, rfl⟩ : ∃ ob oo, oa = some ⟨ob, oo, none⟩ := by
      obtain ⟨⟨b, o, e, _⟩, _⟩ := hPq9 0 (by omega)
      exact ⟨b, o, e⟩
    have HPQ : Hid _ := hPq9
    obtain ⟨D, hD⟩ : ∃ D, D = dep n := ⟨_, rfl⟩
    have HD : Hid (D = dep n) := hD
    rw [← hD] at HPQ HSQ HST HRT HLp HPi hD1 hD11 ⊢
    clear hD hPq9 hX0 HNE
    go_loopw [18, 19, 20] (fun av bv kv wr => ∃ (k g1 c1 g2 c2 : Nat), k ≤ D ∧ kv = .int .i64 (k : Nat) ∧ av = .slice (some ⟨g1, 0, none⟩) 65 c1 ∧ bv = .slice (some ⟨g2, 0, none⟩) 65 c2 ∧ 65 ≤ c1 ∧ 65 ≤ c2 ∧
        Bytes wr (some ⟨g1, 0, none⟩) 65 (cat (fun _ => kd k) 1 (txt X0 Q k)) ∧ Bytes wr (some ⟨g2, 0, none⟩) 65 (cat (fun _ => kd k) 1 (txt x P k)) ∧ (∃ j, j < 64 ∧ txt X0 Q k j ≠ txt x P k j) ∧ Below w9.heap.size w9 wr)
      (fun _ _ kv _ => D + 1 - (intOf kv).toNat)
    case atStart => exact ⟨0, ga, ca, gb, cb, Nat.zero_le _, rfl, rfl, rfl, hca, hcb, hta9, htb, HNE2.out, Below.refl _ _⟩
    case round =>
      clear hta9 htb HNE2
      obtain ⟨k, g1, c1, g2, c2, hk, rfl, rfl, rfl, hc1, hc2, hA, hBb, hne, hbel⟩ := hrel
      have hBr := hB9.trans (hbel.mono hB9.size)
      have hGr := hG.below hBr hG.1
      have hXk : ∀ j, txt X0 Q k j < 256 := by
        cases k with
        | zero => exact HXl.out
        | succ k => exact HQ.out k
      have hYk : ∀ j, txt x P k j < 256 := by
        cases k with
        | zero => exact hxl
        | succ k => exact (HPi.out k (by omega)).2.2.2.2
      have v1 := conv_bytesN c1 hA (cat_lt _ _ _ (fun _ => kd_lt k) hXk) (fun e => by cases e)
      have v2 := conv_bytesN c2 hBb (cat_lt _ _ _ (fun _ => kd_lt k) hYk) (fun e => by cases e)
      have hstr : strN (cat (fun _ => kd k) 1 (txt X0 Q k)) 65 ≠ strN (cat (fun _ => kd k) 1 (txt x P k)) 65 := by
        intro h
        obtain ⟨j, hj, hj2⟩ := hne
        have := ((strN_eq (cat_lt _ _ _ (fun _ => kd_lt k) hXk) (cat_lt _ _ _ (fun _ => kd_lt k) hYk)).1 h).2 (1 + j) (by omega)
        unfold cat at this
        rw [if_neg (by omega), if_neg (by omega), show 1 + j - 1 = j from by omega] at this
        exact hj2 this
      generalize strN (cat (fun _ => kd k) 1 (txt X0 Q k)) 65 = sa at v1 hstr
      generalize strN (cat (fun _ => kd k) 1 (txt x P k)) 65 = sb at v2 hstr
      have hsb : (sa == sb) = false := by simpa using hstr
      have h1 := sum_text (kd k) (txt X0 Q k) _ c1 wr hGr (kd_lt k) hXk hA hc1
      have H2 : Hid (∀ wz, Below wr.heap.size wr wz → Calls Tryd.prog 21 #[.slice (some ⟨g2, 0, none⟩) (65 : Nat) c2] wz fun e w' => e = .returned (.agg (cellsN .u8 32 (hsh (kd k) (txt x P k)))) ∧ Below wz.heap.size wz w') := fun wz hb => sum_text (kd k) (txt x P k) _ c2 wz (hGr.below hb hGr.1) (kd_lt k) hYk (hBb.below hb (Nat.le_refl _)) hc2
      rw [← up_txt] at h1 H2
      have hU : ∀ j, up X0 Q k j < 256 := fun j => up_lt _ _ _ _
      have hV : ∀ j, up x P k j < 256 := fun j => up_lt _ _ _ _
      have hXe : ∀ w, (Op.equalIn 10000 28 (.agg (cellsN .u8 32 (up X0 Q k))) (.agg (cellsN .u8 32 (up x P k)))).run Tryd.prog w = .ok (eqB (up X0 Q k) (up x P k)) w := fun w => eq_digests _ _ w (fun j _ => hU j) (fun j _ => hV j)
      have hki : (k : Int) ≤ D := by omega
      by_cases heq : eqB (up X0 Q k) (up x P k) = true
      · rw [heq] at hXe
        generalize up X0 Q k = U at *
        generalize up x P k = V at *
        clear hne hstr hA hBb heq
        go_wp2_with (first
          | ((go_at_call 21)
             (refine h1.mono ?_)
             (clear h1)
             (rintro e wa ⟨rfl, hba⟩)
             (have h2 := H2.out wa hba))
          | ((go_at_call 21)
             (refine h2.mono ?_)
             (clear h2)
             (rintro e wb ⟨rfl, hbb⟩)
             (have hBb2 := hBr.trans ((hba.trans (hbb.mono hba.size)).mono hBr.size))))
        go_ret
        exact ⟨rfl, hBb2⟩
      · have hef : eqB (up X0 Q k) (up x P k) = false := by simpa using heq
        have hud : ∃ j, j < 32 ∧ up X0 Q k j ≠ up x P k j := Classical.byContradiction fun hcon => heq ((eqB_iff _ _).2 fun j hj => Classical.byContradiction fun h => hcon ⟨j, hj, h⟩)
        have hlt : k < D := by
          refine Nat.lt_of_le_of_ne hk fun e => ?_
          subst e
          obtain ⟨j, hj, hj2⟩ := hud
          rw [HSQ.out.2, HRT.out j hj] at hj2
          exact hj2 rfl
        have HN2 : Hid (∃ j, j < 64 ∧ Q k j ≠ P k j) := parts_up I k X0 x Q P (stands_less HSQ.out.1 hlt) (stands_less HST.out hlt) hud
        obtain ⟨⟨b1, o1, e1, hb1l, hcell1⟩, _, _, hq1, _⟩ := HPQ.out k hlt
        cases e1
        obtain ⟨⟨b2, o2, e2, hb2l, hcell2⟩, hp2, hp3, hp4, _⟩ := Pieces.below HPi.out hB9 k hlt
        cases e2
        rw [HLp.out k hlt] at hcell2 hp2 hp4
        obtain ⟨Ak, hAk⟩ : ∃ Ak, Ak = A k := ⟨_, rfl⟩
        obtain ⟨Ck, hCk⟩ : ∃ Ck, Ck = Cp k := ⟨_, rfl⟩
        rw [← hAk, ← hCk] at hcell2
        rw [← hCk] at hp2
        rw [← hAk] at hp4
        have hlti : (k : Int) < D := by omega
        rw [hef] at hXe
        have HK : Hid (k < D) := hlt
        generalize up X0 Q k = U at *
        generalize up x P k = V at *
        clear hne hstr hA hBb heq hud hef hAk hCk hp3 hlt
        go_wp2_with (first
          | ((go_at_call 21)
             (refine h1.mono ?_)
             (clear h1)
             (rintro e wa ⟨rfl, hba⟩)
             (have h2 := H2.out wa hba))
          | ((go_at_call 21)
             (refine h2.mono ?_)
             (clear h2)
             (rintro e wb ⟨rfl, hbb⟩)
             (have hbel2 : Below w9.heap.size w9 wb := hbel.trans ((hba.trans (hbb.mono hba.size)).mono hbel.size))
             (have cl1 := ((hbel2.alloc hbel2.size (.cells #[.int .u8 1] 5)).cell (p := ⟨ob, oo + k, none⟩) hb1l).trans hcell1)
             (obtain ⟨ga2, ca2, wc, hra, hca2, hta2, hbc⟩ := text_own wb 1 (Q k) _ (tc - (off n k + pl I (k + 1)) * 64) (hq1.below hbel2 (Nat.le_refl _)))
             (have hbel3 := hbel2.trans (hbc.mono hbel2.size))
             (have cl2 := ((hbel3.alloc hbel3.size (.cells #[.int .u8 1] 5)).cell (p := ⟨pb, po + k, none⟩) hb2l).trans hcell2)
             (obtain ⟨gb2, cb2, wd2, hrb, hcb2, htb2, hbd2⟩ := text_own wc 1 (P k) Ak Ck (hp4.below hbel3 (Nat.le_refl _)))
             (have hbel4 := hbel3.trans (hbd2.mono hbel3.size))
             (have hta3 := hta2.below hbd2 (Nat.le_refl _))
             (clear hcell1 hcell2 hbel hba hbb H2 hq1 hp4))
          | ((at_builtin)
             (refine wpList_append_at rfl _ _ _ _ rfl _ _ rfl rfl _ hra ?_)
             (clear hra))
          | ((at_builtin)
             (refine wpList_append_at rfl _ _ _ _ rfl _ _ rfl rfl _ hrb ?_)
             (clear hrb)))
        go_roundw
        case rel => exact ⟨k + 1, ga2, ca2, gb2, cb2, HK.out, rfl, rfl, rfl, hca2, hcb2, hta3, htb2, HN2.out, hbel4⟩
        case measure => have := HK.out; simp [intOf]; omega
end Go.Proofs.YtoeanaadlihkeaaDoor
