/- MerkleOwn, walked. -/
import Derived.Test.YtoeanaadlihkeaaDoorMkPath
import Derived.Test.YtoeanaadlihkeaaDoorMkPick
namespace Go.Proofs.YtoeanaadlihkeaaDoor
open Go.ChangeShapes Go.WideShapes Go.ChangeAt Go.RowKit
set_option linter.unusedVariables false

theorem Pieces.take {w : World} {a : Option Addr} {len m : Nat} {A : Nat → Option Addr} {L C : Nat → Nat} {M : Nat → Nat → Nat} (h : Pieces w a len A L C M) (hm : m ≤ len) : Pieces w a m A L C M := fun i hi => h i (by omega)

theorem slice_hi_rows (b o cap L q : Nat) (w : World) (h1 : q ≤ cap) (h2 : 0 < cap) : (Instr.sliceAt 34 (.slice (some ⟨b, o, none⟩) L cap) none (some (.int .i64 (q : Int))) none).run Tryd.prog w = .ok (.slice (some ⟨b, o, none⟩) q cap) w := by
  simp [Instr.sliceAt, Instr.slice, Instr.sliceBounds, run_underlying Tryd.underlying34, go_sem]
  intro h
  omega

theorem run_slice_hi_rows {o : Oper} {a : Act} (x h : Operand) (ho : o.op = .slice 34 x none (some h) none) (b off L cap q : Nat) (hx : a.eval x = .slice (some ⟨b, off, none⟩) L cap) (hl : a.eval h = .int .i64 (q : Nat)) (h1 : q ≤ cap) (h2 : 0 < cap) (w : World) :
    (execOp a.eval o).run Tryd.prog w = .ok (.value (.slice (some ⟨b, off, none⟩) q cap)) w := by
  unfold execOp
  simp only [ho, hx, hl, Option.map_some, Option.map_none, Sem.run_bind, slice_hi_rows b off cap L q w h1 h2, Result.andThen_ok, Sem.run_pure]

theorem run_neq_ints {o : Oper} {a : Act} (x y : Operand) (ho : o.op = .binOp .neq 3 x y 3) (n : Int) (hx : a.eval x = .int .i64 n) (hy : a.eval y = .int .i64 n) (w : World) : (execOp a.eval o).run Tryd.prog w = .ok (.value (.bool false)) w := by
  unfold execOp
  simp only [ho, hx, hy]
  go_simp

theorem run_sub1 {o : Oper} {a : Act} (x : Operand) (ho : o.op = .binOp .sub 3 x (.const (.int .i64 1)) 3) (n : Nat) (hx : a.eval x = .int .i64 (n : Nat)) (h1 : 1 ≤ n) (h : n ≤ 1000000) (w : World) :
    (execOp a.eval o).run Tryd.prog w = .ok (.value (.int .i64 ((n - 1 : Nat) : Int))) w := by
  have hw : IntKind.i64.wrap ((n : Int) - 1) = ((n - 1 : Nat) : Int) := by rw [IntKind.wrap_i64]; omega
  unfold execOp
  simp only [ho, hx]
  go_simp

/-- The four questions of a round, in any world beyond. -/
theorem own_asks (hM : MerkleOk) (F : Nat → Nat) (hF : ∀ j, F j < 256) (N I : Nat) (hI : I < N) (h2 : N ≤ 2048) (g1 sc tb to_ tc g : Nat) (oa : Option Addr) (oc : Nat) (hoa : oa ≠ none) (w : World) (hG : Glob Hc Kc w)
    (hs : Bytes w (some ⟨g1, I * 64, none⟩) 64 (fun j => F (I * 64 + j))) (hsc : 64 ≤ sc) (hR : Has w g 28 (cellsN .u8 32 (root F N))) (A : Nat → Option Addr) (Cp : Nat → Nat)
    (hP : Pieces w oa (dep N) A (fun _ => 64) Cp (fun k => sec (tree F N (dep N)) (off N k + pl I (k + 1)))) :
    (∀ wz, Below w.heap.size w wz → Calls Tryd.prog 17 #[.int .i64 (N : Nat), .int .i64 (I : Nat), .slice (some ⟨g1, I * 64, none⟩) 64 sc, .slice oa (dep N) oc, .slice (some ⟨g, 0, none⟩) 32 32] wz fun e w' => e = .returned (.bool true) ∧ Below wz.heap.size wz w') ∧
    (∀ wz, Below w.heap.size w wz → Calls Tryd.prog 17 #[.int .i64 (N : Nat), .int .i64 (N : Nat), .slice (some ⟨g1, I * 64, none⟩) 64 sc, .slice oa (dep N) oc, .slice (some ⟨g, 0, none⟩) 32 32] wz fun e w' => e = .returned (.bool false) ∧ Below wz.heap.size wz w') ∧
    (∀ wz, Below w.heap.size w wz → Calls Tryd.prog 17 #[.int .i64 (N : Nat), .int .i64 (-1), .slice (some ⟨g1, I * 64, none⟩) 64 sc, .slice oa (dep N) oc, .slice (some ⟨g, 0, none⟩) 32 32] wz fun e w' => e = .returned (.bool false) ∧ Below wz.heap.size wz w') ∧
    (∀ wz, Below w.heap.size w wz → Calls Tryd.prog 17 #[.int .i64 (N : Nat), .int .i64 (I : Nat), .slice (some ⟨g1, I * 64, none⟩) 64 sc, .slice oa (dep N - 1 : Nat) oc, .slice (some ⟨g, 0, none⟩) 32 32] wz fun e w' => e = .returned (.bool false) ∧ Below wz.heap.size wz w') := by
  have hD1 := dep_pos N
  have hD11 := dep_11 N h2
  have hmid : ∀ j, (fun j => F (I * 64 + j)) j < 256 := fun j => hF _
  have ask : ∀ (i : Int) (len : Nat), i64ok i → len ≤ dep N → ∀ wz, Below w.heap.size w wz → Calls Tryd.prog 17 #[.int .i64 (N : Nat), .int .i64 i, .slice (some ⟨g1, I * 64, none⟩) 64 sc, .slice oa len oc, .slice (some ⟨g, 0, none⟩) 32 32] wz fun e w' =>
      (∃ b : Bool, e = .returned (.bool b) ∧ (b = true ↔ Shows N i 64 (fun j => F (I * 64 + j)) len (fun _ => 64) (fun k => sec (tree F N (dep N)) (off N k + pl I (k + 1))) 32 (root F N))) ∧ Below wz.heap.size wz w' := by
    intro i len hi hlen wz hb
    exact hM.2.2.2 N i 64 sc (some ⟨g1, I * 64, none⟩) (fun j => F (I * 64 + j)) len oc oa A (fun _ => 64) Cp (fun k => sec (tree F N (dep N)) (off N k + pl I (k + 1))) 32 32 (some ⟨g, 0, none⟩) (root F N) wz (hG.below hb hG.1) ⟨by omega, by omega⟩ hi hsc (by unfold maxLen; omega) (fun e => by cases e) (hs.below hb (Nat.le_refl _)) hmid (by unfold maxLen; omega) ((Pieces.below hP hb).take hlen) (Nat.le_refl _) (by unfold maxLen; omega) (fun e => by cases e) (hR.below hb hR.lt).bytes (root_lt _ _)
  refine ⟨fun wz hb => ?_, fun wz hb => ?_, fun wz hb => ?_, fun wz hb => ?_⟩
  · refine (ask I (dep N) ⟨by omega, by omega⟩ (Nat.le_refl _) wz hb).mono ?_
    rintro e w' ⟨⟨b, rfl, hbb⟩, hbw⟩
    obtain rfl : b = true := hbb.2 (shows_own F N I hI h2 _ (fun j _ => by show F (I * 64 + j) = F (64 * I + j); rw [Nat.mul_comm]) _ _ (fun _ _ => rfl) (fun _ _ _ _ => rfl))
    exact ⟨rfl, hbw⟩
  · refine (ask N (dep N) ⟨by omega, by omega⟩ (Nat.le_refl _) wz hb).mono ?_
    rintro e w' ⟨⟨b, rfl, hbb⟩, hbw⟩
    cases b with
    | false => exact ⟨rfl, hbw⟩
    | true => have h := hbb.1 rfl; exact absurd h.2.1 (by omega)
  · refine (ask (-1) (dep N) ⟨by decide, by decide⟩ (Nat.le_refl _) wz hb).mono ?_
    rintro e w' ⟨⟨b, rfl, hbb⟩, hbw⟩
    cases b with
    | false => exact ⟨rfl, hbw⟩
    | true => have h := hbb.1 rfl; exact absurd h.1 (by omega)
  · refine (ask I (dep N - 1) ⟨by omega, by omega⟩ (by omega) wz hb).mono ?_
    rintro e w' ⟨⟨b, rfl, hbb⟩, hbw⟩
    cases b with
    | false => exact ⟨rfl, hbw⟩
    | true =>
      have h := (hbb.1 rfl).2.2.2.2.1
      rw [Int.toNat_natCast] at h
      omega

set_option maxRecDepth 100000 in
set_option maxHeartbeats 3200000 in
theorem own_walk (hM : MerkleOk) (d : Nat → Nat) (L c : Nat) (a : Option Addr) (w : World) (hG : Glob Hc Kc w) (hL : L ≤ maxLen) (hb : Bytes w a L d) (hd : ∀ j, d j < 256) :
    Calls Tryd.prog 6 #[.slice a L c] w fun e w' => e = .returned (.bool true) ∧ Below w.heap.size w w' := by
  have k1 := picked_any d L c a w hL hb
  have hn := pickN_in L
  have hF := pickF_lt d L hd
  generalize pickF d L = F at *
  generalize pickN L = n at *
  obtain ⟨M, hMe⟩ : ∃ M, M = 64 * n := ⟨_, rfl⟩
  have hB := fun (g : Nat) w hG (hb : Bytes w (some ⟨g, 0, none⟩) (64 * n) F) => hM.2.2.1 n F (some ⟨g, 0, none⟩) (64 * n) w hG (by omega) (by omega) (Nat.le_refl _) hb hF
  have hD1 := dep_pos n
  have hD11 := dep_11 n (by omega)
  have hoff := off_max n (dep n) (by omega) (by omega) hD11
  have hLv := fun w => hM.1 n w ⟨by omega, by omega⟩
  rw [levN_in ⟨by omega, by omega⟩, Int.toNat_natCast] at hLv
  obtain ⟨TL, hTL⟩ : ∃ TL, TL = 64 * off n (dep n) := ⟨_, rfl⟩
  have HTL : Hid (TL = 64 * off n (dep n)) := hTL
  have hTLi : (off n (dep n) : Int) * 64 = TL := by omega
  have hTLp : 64 ≤ TL := by
    have a1 := off_mono n 1 (dep n) hD1
    have a2 := lv_pos n 1 (by omega)
    have a3 : off n 1 = 0 + lv n 1 := rfl
    omega
  have HP : Hid _ := fun I (hI : I < n) tb to_ tc w hT htc => path_any hM n I hI (by omega) tb to_ tc (tree F n (dep n)) w hT htc (tree_lt F n hF (dep n))
  have HA : Hid _ := fun I (hI : I < n) g1 sc tb to_ tc g oa oc hoa w hG hs hsc hR A Cp hP => own_asks hM F hF n I hI (by omega) g1 sc tb to_ tc g oa oc hoa w hG hs hsc hR A Cp hP
  rw [← hTL] at hB HP
  rw [← hMe] at hB k1
  obtain ⟨D, hD⟩ : ∃ D, D = dep n := ⟨_, rfl⟩
  have HD : Hid (D = dep n) := hD
  rw [← hD] at hLv hD1 hD11 HTL HP HA hTLi hoff hB
  generalize root F n = R at *
  have HLv : Hid _ := hLv
  have HB : Hid _ := hB
  have HK : Hid _ := fun w hG => live_any hM w hG
  have hMq : (M : Int) / 64 = (n : Int) := by omega
  have hMb : M ≤ 2560 := by omega
  have HM : Hid (M = 64 * n) := hMe
  clear hLv hB hMe hTL hD
  go_enter Tryd.func6, Tryd.ntmps6
  go_wp2_with (first
    | ((go_at_call 19)
       (refine k1.mono ?_)
       (rintro e w1 ⟨rfl, hH1, hb1⟩)
       (have hG1 := hG.below hb1 hG.1)
       (have k2 := HB.out w.heap.size w1 hG1 hH1.bytes)
       (clear k1))
    | ((go_at_call 14)
       (refine k2.mono ?_)
       (rintro e w2 ⟨ta, tc, rfl, htc, htn, hT2, hb2⟩)
       (obtain ⟨tb, to_, rfl, _, _⟩ := id (hT2.resolve_left (by omega)))
       (have hN2 : Has (w2.alloc (.cells (cellsN .u8 32 fun _ => 0) 28)) w2.heap.size 28 (cellsN .u8 32 fun _ => 0) := Has.new _ _ _)
       (have hb2' : Below w2.heap.size w2 (w2.alloc (.cells (cellsN .u8 32 fun _ => 0) 28)) := (Below.refl _ _).alloc (Nat.le_refl _) _)
       (clear k2))
    | ((refine wpList_store_rowG rfl 28 _ _ rfl (w2.heap.size) (cellsN .u8 32 R) rfl rfl 28 _ hN2 (by rw [cellsN_size]; exact Tryd.size28) (by simp [cellsN_size]) (cellsN_one _ _ _) ?_)
       (intro w3 hw3)
       (have hR3 : Has w3 w2.heap.size 28 (cellsN .u8 32 R) := (by rw [hw3]; exact hN2.setRow _))
       (have hb3 : Below w2.heap.size w2 w3 := (by rw [hw3]; exact below_setRow hb2' (Nat.le_refl _) _))
       (have hB3 : Below w.heap.size w w3 := hb1.trans ((hb2.mono hb1.size).trans (hb3.mono (Nat.le_trans hb1.size hb2.size))))
       (have hH3 := (hH1.below hb2 hH1.lt).below hb3 (hH1.below hb2 hH1.lt).lt)
       (have hT3 := hT2.below hb3 (Nat.le_refl _))
       (have k3 := HLv.out w3)
       (clear hw3 hN2 hb2' hH1 hT2 hb1 hb2 hb3))
    | ((go_at_call 9)
       (refine k3.mono ?_)
       (rintro e w4 ⟨la, lc, rfl, hlc, _, hl4, hb4⟩)
       (obtain ⟨lb, lo, rfl, hlb, hlcell⟩ := hl4.resolve_left (by omega))
       (have hR4 := hR3.below hb4 hR3.lt)
       (have hH4 := hH3.below hb4 hH3.lt)
       (have hT4 := hT3.below hb4 (Nat.le_refl _))
       (have hB4 := hB3.trans (hb4.mono hB3.size))
       (clear k3 hR3 hH3 hT3 hb4 hB3)))
  go_loopw [8, 10] (fun sv kv wr => ∃ k : Nat, k ≤ D ∧ kv = .int .i64 (k : Nat) ∧ sv = .int .i64 (off n k : Nat) ∧ wr = w4) (fun _ kv _ => D - (intOf kv).toNat)
  case atStart => exact ⟨0, Nat.zero_le _, rfl, rfl, rfl⟩
  case round =>
    obtain ⟨k, hk, rfl, rfl, rfl⟩ := hrel
    by_cases hlt : k < D
    · have c1 := hlcell k hlt
      change wr.cell? ⟨lb, lo + k, none⟩ = some (.int .i64 ((lv n (k + 1) : Nat) : Int)) at c1
      have hk1 : (k : Int) < (D : Int) := by omega
      have hz := lv_le n (k + 1) (by omega)
      have ho := off_max n k (by omega) (by omega) (by omega)
      have HS : Hid (off n (k + 1) = off n k + lv n (k + 1)) := (rfl : _ = _)
      obtain ⟨y, hy⟩ : ∃ y, y = lv n (k + 1) := ⟨_, rfl⟩
      obtain ⟨o1, ho1⟩ : ∃ o1, o1 = off n k := ⟨_, rfl⟩
      have HE : Hid (y = lv n (k + 1) ∧ o1 = off n k) := ⟨hy, ho1⟩
      rw [← hy] at c1 hz
      rw [← ho1] at ho ⊢
      clear hy ho1 hlcell
      go_wp2
      go_roundw
      case rel =>
        obtain ⟨e1, e2⟩ := HE.out
        exact ⟨k + 1, by omega, rfl, by rw [HS.out, ← e1, ← e2]; rfl, trivial⟩
      case measure => simp [intOf]; omega
    · obtain rfl : k = D := by omega
      have k4 := HK.out wr (hG.below hB4 hG.1)
      clear hlcell
      go_wp2_with (first
        | ((go_at_call 13)
           (refine k4.mono ?_)
           (rintro e w5 ⟨rfl, hb5⟩)
           (have hR5 := hR4.below hb5 hR4.lt)
           (have hH5 := hH4.below hb5 hH4.lt)
           (have hT5 := hT4.below hb5 (Nat.le_refl _))
           (have hB5 := hB4.trans (hb5.mono hB4.size))
           (clear k4 hR4 hH4 hT4 hb5 hB4)))
      go_loopw [11] (fun iv wr => ∃ I : Nat, I ≤ n ∧ iv = .int .i64 (I : Nat) ∧ Below w5.heap.size w5 wr) (fun iv _ => n - (intOf iv).toNat)
      case atStart => exact ⟨0, Nat.zero_le _, rfl, Below.refl _ _⟩
      case round =>
        obtain ⟨I, hI0, rfl, hbel⟩ := hrel
        have hBr := hB5.trans (hbel.mono hB5.size)
        by_cases hI : I < n
        · have hRr := hR5.below hbel hR5.lt
          have hHr := hH5.below hbel hH5.lt
          have hTr := hT5.below hbel (Nat.le_refl _)
          have hMm := HM.out
          have k6 := HP.out I hI tb to_ tc wr hTr htc
          have hIi : (I : Int) < n := by omega
          have hI1 : (I : Int) * 64 + 64 ≤ M := by omega
          have hI2 : I * 64 + 64 ≤ M := by omega
          have hsl : ((((I : Int) + 1) * 64).toNat - I * 64) = 64 := by omega
          have hI3 : ((I : Int) + 1) * 64 ≤ M := by omega
          have hs : Bytes wr (some ⟨w.heap.size, I * 64, none⟩) 64 (fun j => F (I * 64 + j)) := by
            have h := hHr.bytes.part (I * 64) 64 (by omega)
            rw [Nat.zero_add] at h
            exact h
          clear hMm
          go_wp2_with (first
            | ((go_at_call 20)
               (refine k6.mono ?_)
               (rintro e w7 ⟨oa, oc, rfl, hoc, hoa, hPi, hb7⟩)
               (have hB7 := hBr.trans (hb7.mono hBr.size))
               (have hbel7 := hbel.trans (hb7.mono hbel.size))
               (have hR7 := hRr.below hb7 hRr.lt)
               (have hs7 := hs.below hb7 (Nat.le_refl _))
               (clear k6)))
          rw [show (I + 1) * 64 - I * 64 = 64 from by omega]
          obtain ⟨ob, oo, rfl⟩ : ∃ ob oo, oa = some ⟨ob, oo, none⟩ := by
            obtain ⟨⟨b, o, e, _⟩, _⟩ := hPi 0 (by omega)
            exact ⟨b, o, e⟩
          have hBd : Below w.heap.size w w7.drew := hB7.drew
          obtain ⟨q1, q2, q3, q4⟩ := HA.out I hI w.heap.size (M - I * 64) tb to_ tc w2.heap.size (some ⟨ob, oo, none⟩) oc (by simp) w7.drew (hG.below hBd hG.1) (hs7.below (Below.refl _ _).drew (Nat.le_refl _)) (by omega) hR7 _ _ (Pieces.below hPi (Below.refl _ _).drew)
          have hb0r : Below w7.drew.heap.size w7.drew w7.drew := Below.refl _ _
          refine wp_region_held_drew (S := fun _ => True) (by kernel_rfl) trivial (fun hHeld => ?_)
          refine takeTo 0 (some 68) (.slice (some ⟨ob, oo, none⟩) k oc) rfl rfl (by kernel_rfl) (by kernel_rfl) (by kernel_rfl) (fun _ _ _ h => h) (by rfl) (fun _ _ => rfl) hHeld ?_
          simp only [Act.put, List.setIfInBounds_toArray, List.set_cons_zero, List.set_cons_succ]
          refine takeTo 1 (some 69) (.int .i64 (k : Nat)) rfl rfl (by kernel_rfl) (by kernel_rfl) (by kernel_rfl) (fun _ _ _ h => h) (by rfl) (fun wz _ => run_len_of _ _ Tryd.underlying34 _ rfl _ k _ rfl wz) hHeld ?_
          simp only [Act.put, List.setIfInBounds_toArray, List.set_cons_zero, List.set_cons_succ]
          refine takeTo 2 (some 70) (.slice (some ⟨lb, lo, none⟩) k lc) rfl rfl (by kernel_rfl) (by kernel_rfl) (by kernel_rfl) (fun _ _ _ h => h) (by rfl) (fun _ _ => rfl) hHeld ?_
          simp only [Act.put, List.setIfInBounds_toArray, List.set_cons_zero, List.set_cons_succ]
          refine takeTo 3 (some 71) (.int .i64 (k : Nat)) rfl rfl (by kernel_rfl) (by kernel_rfl) (by kernel_rfl) (fun _ _ _ h => h) (by rfl) (fun wz _ => run_len_of _ _ Tryd.underlying22 _ rfl _ k _ rfl wz) hHeld ?_
          simp only [Act.put, List.setIfInBounds_toArray, List.set_cons_zero, List.set_cons_succ]
          refine takeTo 4 (some 72) (.bool false) rfl rfl (by kernel_rfl) (by kernel_rfl) (by kernel_rfl) (fun _ _ _ h => h) (by rfl) (fun wz _ => run_neq_ints _ _ rfl (k : Nat) rfl rfl wz) hHeld ?_
          simp only [Act.put, List.setIfInBounds_toArray, List.set_cons_zero, List.set_cons_succ]
          refine takeTo 5 (some 73) (.bool false) rfl rfl (by kernel_rfl) (by kernel_rfl) (by kernel_rfl) (fun _ _ _ h => h) (by rfl) (fun _ _ => rfl) hHeld ?_
          simp only [Act.put, List.setIfInBounds_toArray, List.set_cons_zero, List.set_cons_succ]
          refine takeTo 6 (some 74) (.int .i64 (n : Nat)) rfl rfl (by kernel_rfl) (by kernel_rfl) (by kernel_rfl) (fun _ _ _ h => h) (by rfl) (fun _ _ => rfl) hHeld ?_
          simp only [Act.put, List.setIfInBounds_toArray, List.set_cons_zero, List.set_cons_succ]
          refine takeTo 7 (some 75) (.int .i64 (I : Nat)) rfl rfl (by kernel_rfl) (by kernel_rfl) (by kernel_rfl) (fun _ _ _ h => h) (by rfl) (fun _ _ => rfl) hHeld ?_
          simp only [Act.put, List.setIfInBounds_toArray, List.set_cons_zero, List.set_cons_succ]
          refine takeTo 8 (some 76) (.slice (some ⟨w.heap.size, I * 64, none⟩) 64 (M - I * 64)) rfl rfl (by kernel_rfl) (by kernel_rfl) (by kernel_rfl) (fun _ _ _ h => h) (by rfl) (fun _ _ => rfl) hHeld ?_
          simp only [Act.put, List.setIfInBounds_toArray, List.set_cons_zero, List.set_cons_succ]
          refine takeTo 9 (some 77) (.slice (some ⟨ob, oo, none⟩) k oc) rfl rfl (by kernel_rfl) (by kernel_rfl) (by kernel_rfl) (fun _ _ _ h => h) (by rfl) (fun _ _ => rfl) hHeld ?_
          simp only [Act.put, List.setIfInBounds_toArray, List.set_cons_zero, List.set_cons_succ]
          refine takeTo 10 (some 78) (.slice (some ⟨w2.heap.size, 0, none⟩) 32 32) rfl rfl (by kernel_rfl) (by kernel_rfl) (by kernel_rfl) (fun _ _ _ h => h) (by rfl) (fun _ _ => by kernel_rfl) hHeld ?_
          simp only [Act.put, List.setIfInBounds_toArray, List.set_cons_zero, List.set_cons_succ]
          refine ready1 11 (by kernel_rfl) (stepCall (some 79) 17 #[.int .i64 (n : Nat), .int .i64 (I : Nat), .slice (some ⟨w.heap.size, I * 64, none⟩) 64 (M - I * 64), .slice (some ⟨ob, oo, none⟩) k oc, .slice (some ⟨w2.heap.size, 0, none⟩) 32 32] rfl rfl (by rfl) (by kernel_rfl) (q1 w7.drew (hb0r)) ?_)
          rintro e wa ⟨rfl, hxwa⟩
          have hba : Below w7.drew.heap.size w7.drew wa := (hb0r).trans (hxwa.mono (hb0r).size)
          refine ⟨_, rfl, trivial, ?_⟩
          simp only [Act.put, List.setIfInBounds_toArray, List.set_cons_zero, List.set_cons_succ]
          refine takeTo 12 (some 80) (.bool false) rfl rfl (by kernel_rfl) (by kernel_rfl) (by kernel_rfl) (fun _ _ _ h => h) (by rfl) (fun _ _ => by kernel_rfl) hHeld ?_
          simp only [Act.put, List.setIfInBounds_toArray, List.set_cons_zero, List.set_cons_succ]
          refine takeTo 13 (some 81) (.bool false) rfl rfl (by kernel_rfl) (by kernel_rfl) (by kernel_rfl) (fun _ _ _ h => h) (by rfl) (fun _ _ => by kernel_rfl) hHeld ?_
          simp only [Act.put, List.setIfInBounds_toArray, List.set_cons_zero, List.set_cons_succ]
          refine takeTo 14 (some 82) (.bool false) rfl rfl (by kernel_rfl) (by kernel_rfl) (by kernel_rfl) (fun _ _ _ h => h) (by rfl) (fun _ _ => rfl) hHeld ?_
          simp only [Act.put, List.setIfInBounds_toArray, List.set_cons_zero, List.set_cons_succ]
          refine takeTo 15 (some 83) (.int .i64 (n : Nat)) rfl rfl (by kernel_rfl) (by kernel_rfl) (by kernel_rfl) (fun _ _ _ h => h) (by rfl) (fun _ _ => rfl) hHeld ?_
          simp only [Act.put, List.setIfInBounds_toArray, List.set_cons_zero, List.set_cons_succ]
          refine takeTo 16 (some 84) (.int .i64 (n : Nat)) rfl rfl (by kernel_rfl) (by kernel_rfl) (by kernel_rfl) (fun _ _ _ h => h) (by rfl) (fun _ _ => rfl) hHeld ?_
          simp only [Act.put, List.setIfInBounds_toArray, List.set_cons_zero, List.set_cons_succ]
          refine takeTo 17 (some 85) (.slice (some ⟨w.heap.size, I * 64, none⟩) 64 (M - I * 64)) rfl rfl (by kernel_rfl) (by kernel_rfl) (by kernel_rfl) (fun _ _ _ h => h) (by rfl) (fun _ _ => rfl) hHeld ?_
          simp only [Act.put, List.setIfInBounds_toArray, List.set_cons_zero, List.set_cons_succ]
          refine takeTo 18 (some 86) (.slice (some ⟨ob, oo, none⟩) k oc) rfl rfl (by kernel_rfl) (by kernel_rfl) (by kernel_rfl) (fun _ _ _ h => h) (by rfl) (fun _ _ => rfl) hHeld ?_
          simp only [Act.put, List.setIfInBounds_toArray, List.set_cons_zero, List.set_cons_succ]
          refine takeTo 19 (some 87) (.slice (some ⟨w2.heap.size, 0, none⟩) 32 32) rfl rfl (by kernel_rfl) (by kernel_rfl) (by kernel_rfl) (fun _ _ _ h => h) (by rfl) (fun _ _ => by kernel_rfl) hHeld ?_
          simp only [Act.put, List.setIfInBounds_toArray, List.set_cons_zero, List.set_cons_succ]
          refine ready1 20 (by kernel_rfl) (stepCall (some 88) 17 #[.int .i64 (n : Nat), .int .i64 (n : Nat), .slice (some ⟨w.heap.size, I * 64, none⟩) 64 (M - I * 64), .slice (some ⟨ob, oo, none⟩) k oc, .slice (some ⟨w2.heap.size, 0, none⟩) 32 32] rfl rfl (by rfl) (by kernel_rfl) (q2 wa (hba)) ?_)
          rintro e wb ⟨rfl, hxwb⟩
          have hbb : Below w7.drew.heap.size w7.drew wb := (hba).trans (hxwb.mono (hba).size)
          refine ⟨_, rfl, trivial, ?_⟩
          simp only [Act.put, List.setIfInBounds_toArray, List.set_cons_zero, List.set_cons_succ]
          refine takeTo 21 (some 89) (.bool false) rfl rfl (by kernel_rfl) (by kernel_rfl) (by kernel_rfl) (fun _ _ _ h => h) (by rfl) (fun _ _ => by kernel_rfl) hHeld ?_
          simp only [Act.put, List.setIfInBounds_toArray, List.set_cons_zero, List.set_cons_succ]
          refine takeTo 22 (some 90) (.bool false) rfl rfl (by kernel_rfl) (by kernel_rfl) (by kernel_rfl) (fun _ _ _ h => h) (by rfl) (fun _ _ => rfl) hHeld ?_
          simp only [Act.put, List.setIfInBounds_toArray, List.set_cons_zero, List.set_cons_succ]
          refine takeTo 23 (some 91) (.int .i64 (n : Nat)) rfl rfl (by kernel_rfl) (by kernel_rfl) (by kernel_rfl) (fun _ _ _ h => h) (by rfl) (fun _ _ => rfl) hHeld ?_
          simp only [Act.put, List.setIfInBounds_toArray, List.set_cons_zero, List.set_cons_succ]
          refine takeTo 24 (some 92) (.slice (some ⟨w.heap.size, I * 64, none⟩) 64 (M - I * 64)) rfl rfl (by kernel_rfl) (by kernel_rfl) (by kernel_rfl) (fun _ _ _ h => h) (by rfl) (fun _ _ => rfl) hHeld ?_
          simp only [Act.put, List.setIfInBounds_toArray, List.set_cons_zero, List.set_cons_succ]
          refine takeTo 25 (some 93) (.slice (some ⟨ob, oo, none⟩) k oc) rfl rfl (by kernel_rfl) (by kernel_rfl) (by kernel_rfl) (fun _ _ _ h => h) (by rfl) (fun _ _ => rfl) hHeld ?_
          simp only [Act.put, List.setIfInBounds_toArray, List.set_cons_zero, List.set_cons_succ]
          refine takeTo 26 (some 94) (.slice (some ⟨w2.heap.size, 0, none⟩) 32 32) rfl rfl (by kernel_rfl) (by kernel_rfl) (by kernel_rfl) (fun _ _ _ h => h) (by rfl) (fun _ _ => by kernel_rfl) hHeld ?_
          simp only [Act.put, List.setIfInBounds_toArray, List.set_cons_zero, List.set_cons_succ]
          refine ready1 27 (by kernel_rfl) (stepCall (some 95) 17 #[.int .i64 (n : Nat), .int .i64 (-1), .slice (some ⟨w.heap.size, I * 64, none⟩) 64 (M - I * 64), .slice (some ⟨ob, oo, none⟩) k oc, .slice (some ⟨w2.heap.size, 0, none⟩) 32 32] rfl rfl (by rfl) (by kernel_rfl) (q3 wb (hbb)) ?_)
          rintro e wc ⟨rfl, hxwc⟩
          have hbc : Below w7.drew.heap.size w7.drew wc := (hbb).trans (hxwc.mono (hbb).size)
          refine ⟨_, rfl, trivial, ?_⟩
          simp only [Act.put, List.setIfInBounds_toArray, List.set_cons_zero, List.set_cons_succ]
          refine takeTo 28 (some 96) (.bool false) rfl rfl (by kernel_rfl) (by kernel_rfl) (by kernel_rfl) (fun _ _ _ h => h) (by rfl) (fun _ _ => by kernel_rfl) hHeld ?_
          simp only [Act.put, List.setIfInBounds_toArray, List.set_cons_zero, List.set_cons_succ]
          refine takeTo 29 (some 97) (.bool false) rfl rfl (by kernel_rfl) (by kernel_rfl) (by kernel_rfl) (fun _ _ _ h => h) (by rfl) (fun _ _ => rfl) hHeld ?_
          simp only [Act.put, List.setIfInBounds_toArray, List.set_cons_zero, List.set_cons_succ]
          refine takeTo 30 (some 98) (.int .i64 (n : Nat)) rfl rfl (by kernel_rfl) (by kernel_rfl) (by kernel_rfl) (fun _ _ _ h => h) (by rfl) (fun _ _ => rfl) hHeld ?_
          simp only [Act.put, List.setIfInBounds_toArray, List.set_cons_zero, List.set_cons_succ]
          refine takeTo 31 (some 99) (.int .i64 (I : Nat)) rfl rfl (by kernel_rfl) (by kernel_rfl) (by kernel_rfl) (fun _ _ _ h => h) (by rfl) (fun _ _ => rfl) hHeld ?_
          simp only [Act.put, List.setIfInBounds_toArray, List.set_cons_zero, List.set_cons_succ]
          refine takeTo 32 (some 100) (.slice (some ⟨w.heap.size, I * 64, none⟩) 64 (M - I * 64)) rfl rfl (by kernel_rfl) (by kernel_rfl) (by kernel_rfl) (fun _ _ _ h => h) (by rfl) (fun _ _ => rfl) hHeld ?_
          simp only [Act.put, List.setIfInBounds_toArray, List.set_cons_zero, List.set_cons_succ]
          refine takeTo 33 (some 101) (.slice (some ⟨ob, oo, none⟩) k oc) rfl rfl (by kernel_rfl) (by kernel_rfl) (by kernel_rfl) (fun _ _ _ h => h) (by rfl) (fun _ _ => rfl) hHeld ?_
          simp only [Act.put, List.setIfInBounds_toArray, List.set_cons_zero, List.set_cons_succ]
          refine takeTo 34 (some 102) (.slice (some ⟨ob, oo, none⟩) k oc) rfl rfl (by kernel_rfl) (by kernel_rfl) (by kernel_rfl) (fun _ _ _ h => h) (by rfl) (fun _ _ => rfl) hHeld ?_
          simp only [Act.put, List.setIfInBounds_toArray, List.set_cons_zero, List.set_cons_succ]
          refine takeTo 35 (some 103) (.int .i64 (k : Nat)) rfl rfl (by kernel_rfl) (by kernel_rfl) (by kernel_rfl) (fun _ _ _ h => h) (by rfl) (fun wz _ => run_len_of _ _ Tryd.underlying34 _ rfl _ k _ rfl wz) hHeld ?_
          simp only [Act.put, List.setIfInBounds_toArray, List.set_cons_zero, List.set_cons_succ]
          refine takeTo 36 (some 104) (.int .i64 ((k - 1 : Nat) : Int)) rfl rfl (by kernel_rfl) (by kernel_rfl) (by kernel_rfl) (fun _ _ _ h => h) (by rfl) (fun wz _ => run_sub1 _ rfl k rfl (by omega) (by omega) wz) hHeld ?_
          simp only [Act.put, List.setIfInBounds_toArray, List.set_cons_zero, List.set_cons_succ]
          refine takeTo 37 (some 105) (.slice (some ⟨ob, oo, none⟩) (k - 1) oc) rfl rfl (by kernel_rfl) (by kernel_rfl) (by kernel_rfl) (fun _ _ _ h => h) (by rfl) (fun wz _ => run_slice_hi_rows _ _ rfl ob oo k oc (k - 1) rfl rfl (by omega) (by omega) wz) hHeld ?_
          simp only [Act.put, List.setIfInBounds_toArray, List.set_cons_zero, List.set_cons_succ]
          refine takeTo 38 (some 106) (.slice (some ⟨w2.heap.size, 0, none⟩) 32 32) rfl rfl (by kernel_rfl) (by kernel_rfl) (by kernel_rfl) (fun _ _ _ h => h) (by rfl) (fun _ _ => by kernel_rfl) hHeld ?_
          simp only [Act.put, List.setIfInBounds_toArray, List.set_cons_zero, List.set_cons_succ]
          refine ready1 39 (by kernel_rfl) (stepCall (some 107) 17 #[.int .i64 (n : Nat), .int .i64 (I : Nat), .slice (some ⟨w.heap.size, I * 64, none⟩) 64 (M - I * 64), .slice (some ⟨ob, oo, none⟩) (k - 1 : Nat) oc, .slice (some ⟨w2.heap.size, 0, none⟩) 32 32] rfl rfl (by rfl) (by kernel_rfl) (q4 wc (hbc)) ?_)
          rintro e wd ⟨rfl, hxwd⟩
          have hbd : Below w7.drew.heap.size w7.drew wd := (hbc).trans (hxwd.mono (hbc).size)
          refine ⟨_, rfl, trivial, ?_⟩
          simp only [Act.put, List.setIfInBounds_toArray, List.set_cons_zero, List.set_cons_succ]
          refine takeTo 40 (some 108) (.bool false) rfl rfl (by kernel_rfl) (by kernel_rfl) (by kernel_rfl) (fun _ _ _ h => h) (by rfl) (fun _ _ => by kernel_rfl) hHeld ?_
          simp only [Act.put, List.setIfInBounds_toArray, List.set_cons_zero, List.set_cons_succ]
          refine wpAnyH_done (by kernel_rfl) ?_ _
          have hbel8 : Below w5.heap.size w5 wd := (hbel7.drew).trans (hbd.mono (hbel7.drew).size)
          clear hHeld q1 q2 q3 q4 hPi hxwa hxwb hxwc hxwd
          go_wp2
          go_roundw
          case rel => exact ⟨I + 1, by omega, rfl, hbel8⟩
          case measure => simp [intOf]; omega
        · obtain rfl : I = n := by omega
          go_wp2
          go_ret
          exact ⟨rfl, hBr⟩
end Go.Proofs.YtoeanaadlihkeaaDoor
