/- The document's Check. -/
import Derived.Test.YtoeanaadlihkeaaDoorMkOps
import Derived.Test.YtoeanaadlihkeaaDoorMkRef3W
namespace Go.Proofs.YtoeanaadlihkeaaDoor
open Go.ChangeShapes Go.WideShapes Go.ChangeAt Go.RowKit
set_option linter.unusedVariables false

/-- What is left to be asked where the numbers fit. -/
def Fits (D I : Nat) (x : Nat → Nat) (Lp : Nat → Nat) (P : Nat → Nat → Nat) (Lr : Nat) (r : Nat → Nat) : Prop :=
  (∀ k, k < D → Lp k = 64) ∧ Stands I x P D ∧ Lr = 32 ∧ ∀ j, j < 32 → r j = up x P D j

set_option maxRecDepth 100000 in
set_option maxHeartbeats 3200000 in
theorem rcheck_in (N I : Nat) (hI : I < N) (h2 : N ≤ 2048) (C : Nat) (a : Option Addr) (x : Nat → Nat) (cap : Nat) (pa : Option Addr) (A : Nat → Option Addr) (Lp Cp : Nat → Nat) (P : Nat → Nat → Nat) (Lr Cr : Nat) (ra : Option Addr) (r : Nat → Nat) (w : World)
    (hC : 64 ≤ C) (hx : Bytes w a 64 x) (hxl : ∀ j, x j < 256) (hP : Pieces w pa (dep N) A Lp Cp P) (hrc : Lr ≤ Cr) (hrm : Lr ≤ maxLen) (hrn : ra = none → Lr = 0 ∧ Cr = 0) (hr : Bytes w ra Lr r) (hrl : ∀ j, r j < 256) :
    Calls Tryd.prog 18 #[.int .i64 (N : Nat), .int .i64 (I : Nat), .slice a (64 : Nat) C, .slice pa (dep N) cap, .slice ra Lr Cr] w fun e w' => (∃ b : Bool, e = .returned (.bool b) ∧ (b = true ↔ Fits (dep N) I x Lp P Lr r)) ∧ Below w.heap.size w w' := by
  unfold maxLen at hrm
  have h1 : 1 ≤ N := by omega
  have hl := rlevels_in N w h1 h2
  have hD1 := dep_pos N
  have hD11 := dep_11 N h2
  obtain ⟨D, hD⟩ : ∃ D, D = dep N := ⟨_, rfl⟩
  rw [← hD] at hl hD1 hD11 hP ⊢
  clear hD
  obtain ⟨pb, po, rfl, hpb⟩ : ∃ pb po, pa = some ⟨pb, po, none⟩ ∧ pb < w.heap.size := by
    obtain ⟨⟨b, o, e, hlt, _⟩, _⟩ := hP 0 (by omega)
    exact ⟨b, o, e, hlt⟩
  have hNI : ¬ (N ≤ I) := by omega
  have hIi : (I : Int) < N := by omega
  have hD0 : ((D : Int) == 0) = false := by simp; omega
  have hI0 : decide ((I : Int) < 0) = false := by simp
  have HP : Hid (Pieces w (some ⟨pb, po, none⟩) D A Lp Cp P) := hP
  have HR : Hid (Bytes w ra Lr r) := hr
  clear hP hr
  go_enter Tryd.func18, Tryd.ntmps18
  go_wp2_with (first
    | ((go_at_call 10)
       (refine hl.mono ?_)
       (rintro e w1 ⟨v, rfl, ownL, hb1⟩)
       (obtain ⟨la, lc, rfl, hlc, hln, hli⟩ := own_ints ownL)
       (have hh := rhash_any 0 x a C w1 (by decide) (hx.below hb1 (Nat.le_refl _)) hxl hC)
       (clear hl ownL hli))
    | ((go_at_call 26)
       (refine hh.mono ?_)
       (rintro e w3 ⟨rfl, hb3⟩)
       (have hN3 : Has (w3.alloc (.cells (cellsN .u8 32 fun _ => 0) 28)) w3.heap.size 28 (cellsN .u8 32 fun _ => 0) := Has.new _ _ _)
       (have hw3 : w.heap.size ≤ w3.heap.size := Nat.le_trans hb1.size hb3.size)
       (have hb4 : Below w.heap.size w (w3.alloc (.cells (cellsN .u8 32 fun _ => 0) 28)) := (hb1.trans (hb3.mono hb1.size)).alloc hw3 _)
       (clear hh))
    | ((refine wpList_store_rowG rfl 28 _ _ rfl (w3.heap.size) (cellsN .u8 32 (hsh 0 x)) rfl rfl 28 _ hN3 (by rw [cellsN_size]; exact Tryd.size28) (by simp [cellsN_size]) (cellsN_one _ _ _) ?_)
       (intro w6 hw6)
       (have hR6 : Has w6 w3.heap.size 28 (cellsN .u8 32 (hsh 0 x)) := (by rw [hw6]; exact hN3.setRow _))
       (have hB6 : Below w.heap.size w w6 := (by rw [hw6]; exact below_setRow hb4 hw3 _))
       (clear hw6 hb4 hN3)))
  obtain ⟨g, hg⟩ : ∃ g, g = w3.heap.size := ⟨_, rfl⟩
  rw [← hg] at hR6 hw3 ⊢
  clear hg hb3 hb1
  go_loopw [1, 13] (fun iv kv wr => ∃ k : Nat, k ≤ D ∧ kv = .int .i64 (k : Nat) ∧ iv = .int .i64 (pl I k : Nat) ∧ Has wr g 28 (cellsN .u8 32 (up x P k)) ∧ Below w.heap.size w wr ∧ (∀ q, q < k → Lp q = 64) ∧ Stands I x P k)
    (fun _ kv _ => D - (intOf kv).toNat)
  case atStart => exact ⟨0, Nat.zero_le _, rfl, rfl, hR6, hB6, fun _ h => by omega, fun _ h => by omega⟩
  case round =>
    clear hR6 hB6
    obtain ⟨k, hk, rfl, rfl, hH, hbel, hL64, hSt⟩ := hrel
    have HL : Hid _ := hL64
    have HS : Hid _ := hSt
    clear hL64 hSt
    have hpl := pl_le I k
    by_cases hlt : k < D
    · obtain ⟨⟨b, o, e, _, hcell⟩, hLC, hAn, hB, hPl⟩ := Pieces.below HP.out hbel k hlt
      obtain ⟨rfl, rfl⟩ : pb = b ∧ po = o := by cases e; exact ⟨rfl, rfl⟩
      clear e
      have hlti : (k : Int) < D := by omega
      have HK : Hid (k < D) := hlt
      by_cases h64 : Lp k = 64
      · rw [h64] at hcell hLC hB
        obtain ⟨ab, ao, hA, hab⟩ : ∃ ab ao, A k = some ⟨ab, ao, none⟩ ∧ ab < wr.heap.size := by
          rcases hB with h | ⟨b, o, e, hlt, _⟩
          · omega
          · exact ⟨b, o, e, hlt⟩
        rw [hA] at hcell hB
        obtain ⟨Ck, hCk⟩ : ∃ Ck, Ck = Cp k := ⟨_, rfl⟩
        rw [← hCk] at hcell hLC
        have H64 : Hid (Lp k = 64) := h64
        clear hA hCk hAn h64
        obtain ⟨y, hy⟩ : ∃ y, y = pl I k := ⟨_, rfl⟩
        have HY : Hid (y = pl I k) := hy
        rw [← hy] at hpl ⊢
        have hmod : (32 * ((y : Int) % 2)) = (((32 * (y % 2) : Nat)) : Int) := by omega
        obtain ⟨t, ht⟩ : ∃ t, t = 32 * (y % 2) := ⟨_, rfl⟩
        rw [← ht] at hmod
        have ht32 : t ≤ 32 := by omega
        have HT : Hid (t = 32 * (pl I k % 2)) := by rw [← hy]; exact ht
        have HM : Hid (32 * ((y : Int) % 2) = ((t : Nat) : Int)) := hmod
        obtain ⟨F, hF⟩ : ∃ F, F = up x P k := ⟨_, rfl⟩
        have HF : Hid (F = up x P k) := hF
        have hFl : ∀ j, F j < 256 := fun j => by rw [hF]; exact up_lt _ _ _ _
        rw [← hF] at hH
        clear hy ht hmod hF
        have hh := fun wz (hz : Bytes wz (some ⟨ab, ao, none⟩) 64 (P k)) => rhash_any 1 (P k) (some ⟨ab, ao, none⟩) Ck wz (by decide) hz hPl hLC
        have HH : Hid _ := hh
        clear hh
        go_wp2
        rw [HM.out]
        refine wp_region_held_drew (S := fun w' => w'.cell? ⟨pb, po + k, none⟩ = some (.slice (some ⟨ab, ao, none⟩) 64 Ck) ∧ Bytes w' (some ⟨ab, ao, none⟩) 64 (P k) ∧ Has w' g 28 (cellsN .u8 32 F)) (by kernel_rfl) ⟨hcell, hB.below (Below.refl _ _).drew (Nat.le_refl _), hH⟩ (fun hHeld => ?_)
        by_cases hm : ∀ j, j < 32 → P k (t + j) = F j
        · have hc : (strN (fun j => P k (t + j)) 32 == strN F 32) = !false := by rw [strN_same hm]; simp
          have HMt : Hid (∀ j, j < 32 → P k (t + j) = F j) := hm
          clear hm
          refine takeTo 0 (some 58) (.slice (some ⟨pb, po, none⟩) D cap) rfl rfl (by kernel_rfl) (by kernel_rfl) (by kernel_rfl) (fun _ _ _ h => h) (by rfl) (fun _ _ => rfl) hHeld ?_
          simp only [Act.put, List.setIfInBounds_toArray, List.set_cons_zero, List.set_cons_succ]
          refine takeTo 1 (some 59) (.int .i64 (k : Nat)) rfl rfl (by kernel_rfl) (by kernel_rfl) (by kernel_rfl) (fun _ _ _ h => h) (by rfl) (fun _ _ => rfl) hHeld ?_
          simp only [Act.put, List.setIfInBounds_toArray, List.set_cons_zero, List.set_cons_succ]
          refine takeTo 2 (some 60) (.pointer (some ⟨pb, po + k, none⟩)) rfl rfl (by kernel_rfl) (by kernel_rfl) (by kernel_rfl) (fun _ _ _ h => h) (by rfl) (fun wz _ => run_at_slice _ _ _ rfl pb po k D cap _ rfl rfl Tryd.underlying34 (by kernel_rfl) (by omega) wz) hHeld ?_
          simp only [Act.put, List.setIfInBounds_toArray, List.set_cons_zero, List.set_cons_succ]
          refine takeTo 3 (some 61) (.slice (some ⟨ab, ao, none⟩) 64 Ck) rfl rfl (by kernel_rfl) (by kernel_rfl) (by kernel_rfl) (fun _ _ _ h => h) (by rfl) (fun wz hz => run_load_row1 _ rfl _ rfl _ wz hz.1) hHeld ?_
          simp only [Act.put, List.setIfInBounds_toArray, List.set_cons_zero, List.set_cons_succ]
          refine takeTo 4 (some 62) (.int .i64 (t : Nat)) rfl rfl (by kernel_rfl) (by kernel_rfl) (by kernel_rfl) (fun _ _ _ h => h) (by rfl) (fun _ _ => rfl) hHeld ?_
          simp only [Act.put, List.setIfInBounds_toArray, List.set_cons_zero, List.set_cons_succ]
          refine takeTo 5 (some 63) (.int .i64 (t : Nat)) rfl rfl (by kernel_rfl) (by kernel_rfl) (by kernel_rfl) (fun _ _ _ h => h) (by rfl) (fun _ _ => rfl) hHeld ?_
          simp only [Act.put, List.setIfInBounds_toArray, List.set_cons_zero, List.set_cons_succ]
          refine takeTo 6 (some 64) (.int .i64 ((t + 32 : Nat) : Int)) rfl rfl (by kernel_rfl) (by kernel_rfl) (by kernel_rfl) (fun _ _ _ h => h) (by rfl) (fun wz _ => run_addX _ _ rfl t 32 rfl rfl (by omega) (by omega) wz) hHeld ?_
          simp only [Act.put, List.setIfInBounds_toArray, List.set_cons_zero, List.set_cons_succ]
          refine takeTo 7 (some 65) (.slice (some ⟨ab, ao + t, none⟩) 32 (Ck - t)) rfl rfl (by kernel_rfl) (by kernel_rfl) (by kernel_rfl) (fun _ _ _ h => h) (by rfl) (fun wz _ => run_slice_midX _ _ _ rfl ab ao 64 Ck t 32 rfl rfl rfl (by omega) (by omega) wz) hHeld ?_
          simp only [Act.put, List.setIfInBounds_toArray, List.set_cons_zero, List.set_cons_succ]
          refine takeTo 8 (some 66) (.string ⟨(strN (fun j => P k (t + j)) 32).toArray⟩) rfl rfl (by kernel_rfl) (by kernel_rfl) (by kernel_rfl) (fun _ _ _ h => h) (by rfl) (fun wz hz => run_conv_str _ rfl (.slice (some ⟨ab, ao + t, none⟩) 32 (Ck - t)) rfl _ wz (conv_bytesN (Ck - t) (hz.2.1.part t 32 (by omega)) (fun j => hPl _) (fun e => by cases e))) hHeld ?_
          simp only [Act.put, List.setIfInBounds_toArray, List.set_cons_zero, List.set_cons_succ]
          refine takeTo 9 (some 67) (.slice (some ⟨g, 0, none⟩) 32 32) rfl rfl (by kernel_rfl) (by kernel_rfl) (by kernel_rfl) (fun _ _ _ h => h) (by rfl) (fun _ _ => by kernel_rfl) hHeld ?_
          simp only [Act.put, List.setIfInBounds_toArray, List.set_cons_zero, List.set_cons_succ]
          refine takeTo 10 (some 68) (.string ⟨(strN F 32).toArray⟩) rfl rfl (by kernel_rfl) (by kernel_rfl) (by kernel_rfl) (fun _ _ _ h => h) (by rfl) (fun wz hz => run_conv_str _ rfl (.slice (some ⟨g, 0, none⟩) 32 32) rfl _ wz (conv_bytesN 32 hz.2.2.bytes hFl (fun e => by cases e))) hHeld ?_
          simp only [Act.put, List.setIfInBounds_toArray, List.set_cons_zero, List.set_cons_succ]
          refine takeTo 11 (some 69) (.bool false) rfl rfl (by kernel_rfl) (by kernel_rfl) (by kernel_rfl) (fun _ _ _ h => h) (by rfl) (fun wz _ => run_neq_strs _ _ rfl _ _ rfl rfl _ hc wz) hHeld ?_
          simp only [Act.put, List.setIfInBounds_toArray, List.set_cons_zero, List.set_cons_succ]
          refine wpAnyH_done (by kernel_rfl) ?_ _
          have hcd : wr.drew.cell? ⟨pb, po + k, none⟩ = some (.slice (some ⟨ab, ao, none⟩) 64 Ck) := hcell
          have hHd : Has wr.drew g 28 (cellsN .u8 32 F) := hH
          have hbd : Below w.heap.size w wr.drew := hbel.drew
          have hgl := hHd.lt
          have hh := HH.out wr.drew (hB.below (Below.refl _ _).drew (Nat.le_refl _))
          clear hHeld hcell hH hbel
          go_wp2_with (first
            | ((go_at_call 26)
               (refine hh.mono ?_)
               (rintro e w4 ⟨rfl, hb4⟩)
               (have hH4 := hHd.below hb4 hgl)
               (have hbel4 := hbd.trans (hb4.mono hbd.size)))
            | ((refine wpList_store_rowG rfl 28 _ _ rfl g (cellsN .u8 32 (hsh 1 (P k))) rfl rfl 28 _ hH4 (by rw [cellsN_size]; exact Tryd.size28) (by simp [cellsN_size]) (cellsN_one _ _ _) ?_)
               (intro w6 hw6)
               (have hR6 : Has w6 g 28 (cellsN .u8 32 (hsh 1 (P k))) := (by rw [hw6]; exact hH4.setRow _))
               (have hB6 : Below w.heap.size w w6 := (by rw [hw6]; exact below_setRow hbel4 hw3 _))
               (clear hw6)))
          go_roundw
          case rel =>
            refine ⟨k + 1, HK.out, rfl, ?_, hR6, hB6, ?_, ?_⟩
            · rw [pl_step, ← HY.out]; rfl
            · intro q hq
              by_cases h0 : q = k
              · rw [h0]; exact H64.out
              · exact HL.out q (by omega)
            · refine stands_more HS.out (fun j hj => ?_)
              rw [← HT.out, ← HF.out]
              exact HMt.out j hj
          case measure => have := HK.out; simp [intOf]; omega
        · have hc : (strN (fun j => P k (t + j)) 32 == strN F 32) = !true := by
            rw [Bool.not_true, beq_eq_false_iff_ne]
            intro h
            exact hm ((strN_eq (fun j => hPl _) hFl).1 h).2
          have hno : ¬ Fits D I x Lp P Lr r := by
            intro hf
            apply hm
            intro j hj
            rw [HF.out, HT.out]
            exact hf.2.1 k HK.out j hj
          have HNo : Hid _ := hno
          clear hno hm
          refine takeTo 0 (some 58) (.slice (some ⟨pb, po, none⟩) D cap) rfl rfl (by kernel_rfl) (by kernel_rfl) (by kernel_rfl) (fun _ _ _ h => h) (by rfl) (fun _ _ => rfl) hHeld ?_
          simp only [Act.put, List.setIfInBounds_toArray, List.set_cons_zero, List.set_cons_succ]
          refine takeTo 1 (some 59) (.int .i64 (k : Nat)) rfl rfl (by kernel_rfl) (by kernel_rfl) (by kernel_rfl) (fun _ _ _ h => h) (by rfl) (fun _ _ => rfl) hHeld ?_
          simp only [Act.put, List.setIfInBounds_toArray, List.set_cons_zero, List.set_cons_succ]
          refine takeTo 2 (some 60) (.pointer (some ⟨pb, po + k, none⟩)) rfl rfl (by kernel_rfl) (by kernel_rfl) (by kernel_rfl) (fun _ _ _ h => h) (by rfl) (fun wz _ => run_at_slice _ _ _ rfl pb po k D cap _ rfl rfl Tryd.underlying34 (by kernel_rfl) (by omega) wz) hHeld ?_
          simp only [Act.put, List.setIfInBounds_toArray, List.set_cons_zero, List.set_cons_succ]
          refine takeTo 3 (some 61) (.slice (some ⟨ab, ao, none⟩) 64 Ck) rfl rfl (by kernel_rfl) (by kernel_rfl) (by kernel_rfl) (fun _ _ _ h => h) (by rfl) (fun wz hz => run_load_row1 _ rfl _ rfl _ wz hz.1) hHeld ?_
          simp only [Act.put, List.setIfInBounds_toArray, List.set_cons_zero, List.set_cons_succ]
          refine takeTo 4 (some 62) (.int .i64 (t : Nat)) rfl rfl (by kernel_rfl) (by kernel_rfl) (by kernel_rfl) (fun _ _ _ h => h) (by rfl) (fun _ _ => rfl) hHeld ?_
          simp only [Act.put, List.setIfInBounds_toArray, List.set_cons_zero, List.set_cons_succ]
          refine takeTo 5 (some 63) (.int .i64 (t : Nat)) rfl rfl (by kernel_rfl) (by kernel_rfl) (by kernel_rfl) (fun _ _ _ h => h) (by rfl) (fun _ _ => rfl) hHeld ?_
          simp only [Act.put, List.setIfInBounds_toArray, List.set_cons_zero, List.set_cons_succ]
          refine takeTo 6 (some 64) (.int .i64 ((t + 32 : Nat) : Int)) rfl rfl (by kernel_rfl) (by kernel_rfl) (by kernel_rfl) (fun _ _ _ h => h) (by rfl) (fun wz _ => run_addX _ _ rfl t 32 rfl rfl (by omega) (by omega) wz) hHeld ?_
          simp only [Act.put, List.setIfInBounds_toArray, List.set_cons_zero, List.set_cons_succ]
          refine takeTo 7 (some 65) (.slice (some ⟨ab, ao + t, none⟩) 32 (Ck - t)) rfl rfl (by kernel_rfl) (by kernel_rfl) (by kernel_rfl) (fun _ _ _ h => h) (by rfl) (fun wz _ => run_slice_midX _ _ _ rfl ab ao 64 Ck t 32 rfl rfl rfl (by omega) (by omega) wz) hHeld ?_
          simp only [Act.put, List.setIfInBounds_toArray, List.set_cons_zero, List.set_cons_succ]
          refine takeTo 8 (some 66) (.string ⟨(strN (fun j => P k (t + j)) 32).toArray⟩) rfl rfl (by kernel_rfl) (by kernel_rfl) (by kernel_rfl) (fun _ _ _ h => h) (by rfl) (fun wz hz => run_conv_str _ rfl (.slice (some ⟨ab, ao + t, none⟩) 32 (Ck - t)) rfl _ wz (conv_bytesN (Ck - t) (hz.2.1.part t 32 (by omega)) (fun j => hPl _) (fun e => by cases e))) hHeld ?_
          simp only [Act.put, List.setIfInBounds_toArray, List.set_cons_zero, List.set_cons_succ]
          refine takeTo 9 (some 67) (.slice (some ⟨g, 0, none⟩) 32 32) rfl rfl (by kernel_rfl) (by kernel_rfl) (by kernel_rfl) (fun _ _ _ h => h) (by rfl) (fun _ _ => by kernel_rfl) hHeld ?_
          simp only [Act.put, List.setIfInBounds_toArray, List.set_cons_zero, List.set_cons_succ]
          refine takeTo 10 (some 68) (.string ⟨(strN F 32).toArray⟩) rfl rfl (by kernel_rfl) (by kernel_rfl) (by kernel_rfl) (fun _ _ _ h => h) (by rfl) (fun wz hz => run_conv_str _ rfl (.slice (some ⟨g, 0, none⟩) 32 32) rfl _ wz (conv_bytesN 32 hz.2.2.bytes hFl (fun e => by cases e))) hHeld ?_
          simp only [Act.put, List.setIfInBounds_toArray, List.set_cons_zero, List.set_cons_succ]
          refine takeTo 11 (some 69) (.bool true) rfl rfl (by kernel_rfl) (by kernel_rfl) (by kernel_rfl) (fun _ _ _ h => h) (by rfl) (fun wz _ => run_neq_strs _ _ rfl _ _ rfl rfl _ hc wz) hHeld ?_
          simp only [Act.put, List.setIfInBounds_toArray, List.set_cons_zero, List.set_cons_succ]
          refine wpAnyH_done (by kernel_rfl) ?_ _
          have hbd : Below w.heap.size w wr.drew := hbel.drew
          clear hHeld hcell hH hbel
          go_wp2
          exact bodyPost_ret (results_tmp rfl _ _ _) rfl ⟨⟨false, rfl, ⟨(fun h => absurd h (by decide)), fun h => (HNo.out h).elim⟩⟩, hbd⟩
      · have h64i : ¬ ((Lp k : Int) = 64) := by omega
        have hno : ¬ Fits D I x Lp P Lr r := fun hf => h64 (hf.1 k HK.out)
        have HNo : Hid _ := hno
        clear hno
        go_wp2
        exact bodyPost_ret (results_tmp rfl _ _ _) rfl ⟨⟨false, rfl, ⟨(fun h => absurd h (by decide)), fun h => (HNo.out h).elim⟩⟩, hbel⟩
    · obtain rfl : k = D := by omega
      have hrb := Bytes.below HR.out hbel (Nat.le_refl _)
      have hbd : Below w.heap.size w wr.drew := hbel.drew
      go_wp2
      refine wp_region_held_drew (S := fun w' => Bytes w' ra Lr r ∧ Has w' g 28 (cellsN .u8 32 (up x P k))) (by kernel_rfl) ⟨hrb.below (Below.refl _ _).drew (Nat.le_refl _), hH⟩ (fun hHeld => ?_)
      refine takeTo 0 (some 77) (.slice (some ⟨g, 0, none⟩) 32 32) rfl rfl (by kernel_rfl) (by kernel_rfl) (by kernel_rfl) (fun _ _ _ h => h) (by rfl) (fun _ _ => by kernel_rfl) hHeld ?_
      simp only [Act.put, List.setIfInBounds_toArray, List.set_cons_zero, List.set_cons_succ]
      refine takeTo 1 (some 78) (.string ⟨(strN (up x P k) 32).toArray⟩) rfl rfl (by kernel_rfl) (by kernel_rfl) (by kernel_rfl) (fun _ _ _ h => h) (by rfl) (fun wz hz => run_conv_str _ rfl (.slice (some ⟨g, 0, none⟩) 32 32) rfl _ wz (conv_bytesN 32 hz.2.bytes (fun j => up_lt _ _ _ j) (fun e => by cases e))) hHeld ?_
      simp only [Act.put, List.setIfInBounds_toArray, List.set_cons_zero, List.set_cons_succ]
      refine takeTo 2 (some 79) (.slice ra Lr Cr) rfl rfl (by kernel_rfl) (by kernel_rfl) (by kernel_rfl) (fun _ _ _ h => h) (by rfl) (fun _ _ => rfl) hHeld ?_
      simp only [Act.put, List.setIfInBounds_toArray, List.set_cons_zero, List.set_cons_succ]
      refine takeTo 3 (some 80) (.string ⟨(strN r Lr).toArray⟩) rfl rfl (by kernel_rfl) (by kernel_rfl) (by kernel_rfl) (fun _ _ _ h => h) (by rfl) (fun wz hz => run_conv_str _ rfl (.slice ra Lr Cr) rfl _ wz (conv_bytesN Cr hz.1 hrl (fun e => (hrn e).1))) hHeld ?_
      simp only [Act.put, List.setIfInBounds_toArray, List.set_cons_zero, List.set_cons_succ]
      refine takeTo 4 (some 81) (.bool (strN (up x P k) 32 == strN r Lr)) rfl rfl (by kernel_rfl) (by kernel_rfl) (by kernel_rfl) (fun _ _ _ h => h) (by rfl) (fun wz _ => run_eql_strs _ _ rfl _ _ rfl rfl _ rfl wz) hHeld ?_
      simp only [Act.put, List.setIfInBounds_toArray, List.set_cons_zero, List.set_cons_succ]
      refine takeTo 5 (some 10) (.bool (strN (up x P k) 32 == strN r Lr)) rfl rfl (by kernel_rfl) (by kernel_rfl) (by kernel_rfl) (fun _ _ _ h => h) (by rfl) (fun _ _ => rfl) hHeld ?_
      simp only [Act.put, List.setIfInBounds_toArray, List.set_cons_zero, List.set_cons_succ]
      refine wpAnyH_done (by kernel_rfl) ?_ _
      go_wp2
      refine bodyPost_ret (results_tmp rfl _ _ _) rfl ⟨⟨_, rfl, ?_⟩, hbd⟩
      rw [beq_iff_eq, strN_eq (fun j => up_lt _ _ _ j) hrl]
      constructor
      · rintro ⟨e, h⟩
        exact ⟨HL.out, HS.out, e.symm, fun j hj => (h j hj).symm⟩
      · rintro ⟨_, _, e, h⟩
        exact ⟨e.symm, fun j hj => (h j hj).symm⟩
end Go.Proofs.YtoeanaadlihkeaaDoor
