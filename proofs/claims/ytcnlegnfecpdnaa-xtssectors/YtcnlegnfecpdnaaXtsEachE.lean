/- xts: eachBlock, whose blocks are encrypted. -/
import Derived.Test.YtcnlegnfecpdnaaXtsTweak
import Derived.Test.YtcnlegnfecpdnaaXtsMem
namespace Go.Proofs.Ytcnlegnfecpdnaa
open Go.ChangeShapes Go.WideShapes Go.ChangeAt Go.RowKit
set_option linter.unusedVariables false

theorem eachE_bad (a : Option Addr) (len cap s : Nat) (v u : Value) (w : World) (hl : len ≤ maxLen) (h : len = 0 ∨ len % 16 ≠ 0) :
    Calls Try.prog 40 #[v, .int .u64 (s : Nat), .slice a len cap, u] w fun e w' => e = .returned (.tuple #[.slice none 0 0, .int .i64 52]) ∧ w' = w := by
  unfold maxLen at hl
  by_cases h0 : len = 0
  · subst h0
    go_enter Try.func40, Try.ntmps40
    go_wp2
    go_ret2
    exact ⟨rfl, rfl⟩
  · have i1 : ((len : Int) == 0) = false := by simp; omega
    have i2 : ((len : Int) % 16 != 0) = true := by simp; omega
    clear h
    go_enter Try.func40, Try.ntmps40
    go_wp2
    go_ret2
    exact ⟨rfl, rfl⟩

set_option maxRecDepth 100000 in
set_option maxHeartbeats 1600000 in
theorem eachE_ok (n : Nat) (hn : n = 16 ∨ n = 32) (k l : Nat → Nat) (g gk gl s b o cap M : Nat) (D : Nat → Nat) (w : World) (hk : ∀ j, k j < 256) (hl : ∀ j, l j < 256) (hs : s < 18446744073709551616) (hD : ∀ j, D j < 256)
    (hM : 0 < M) (hM2 : 16 * M ≤ 1000) (hcap : 16 * M ≤ cap) (hC : XC w g gk gl n k l) (hb : b < w.heap.size) (hc : ∀ j, j < 16 * M → w.cell? ⟨b, o + j, none⟩ = some (.int .u8 (D j : Nat))) :
    Calls Try.prog 40 #[.pointer (some ⟨g, 0, none⟩), .int .u64 (s : Nat), .slice (some ⟨b, o, none⟩) (16 * M : Nat) cap, .func (.func 13) #[.pointer (some ⟨gk, 0, none⟩)] #[]] w fun e w' =>
      ∃ q, e = .returned (.tuple #[.slice (some ⟨q, 0, none⟩) (16 * M : Nat) (16 * M : Nat), .int .i64 0]) ∧ w.heap.size ≤ q ∧ Has w' q 5 (cellsN .u8 (16 * M) (sealB (encX n k) (tw0 n l s) D)) ∧ Below w.heap.size w w' := by
  have hfirst := first_any n hn k l g gk gl s w hl hs hC
  obtain ⟨t, ht⟩ : ∃ t, t = tw0 n l s := ⟨_, rfl⟩
  have htl : Byt t := by rw [ht]; exact tw0_lt n hn l hl s
  rw [← ht] at hfirst ⊢
  clear ht
  obtain ⟨N, hN⟩ : ∃ N, N = 16 * M := ⟨_, rfl⟩
  have i1 : ((N : Int) == 0) = false := by simp; omega
  have i2 : ((N : Int) % 16 != 0) = false := by simp; omega
  have hN2 : N ≤ 1000 := by omega
  rw [← hN]
  have HNM : Hid (N = 16 * M) := hN
  rw [← hN] at hcap hc
  clear hN hM2
  have hE : ∀ wz f, Has wz gk 57 (ccells (KS n k) (RN n) IB) → Byt f → Calls Try.prog 13 #[.pointer (some ⟨gk, 0, none⟩), .agg (cellsN .u8 16 f)] wz fun e w' => e = .returned (.agg (cellsN .u8 16 (encX n k f))) ∧ Below wz.heap.size wz w' :=
    fun wz f h hf => encX_any n hn k gk wz f hk h hf
  obtain ⟨i0, hi, hz0, hz1, hz2⟩ := info_parts Try.info5
  go_enter Try.func40, Try.ntmps40
  go_wp2_with (first
    | (go_at_call 45; refine hfirst.mono ?_; rintro e w1 ⟨rfl, hb1⟩; have hn1 : Has (w1.alloc (.cells (cellsN .u8 16 fun _ => 0) 23)) w1.heap.size 23 (cellsN .u8 16 fun _ => 0) := Has.new _ _ _)
    | (refine wpList_store_rowG rfl 23 _ _ rfl w1.heap.size (cellsN .u8 16 t) rfl rfl 23 _ hn1 (by rw [cellsN_size]; exact Try.size23) (by simp [cellsN_size]) (cellsN_one _ _ _) ?_
       intro w2 hw2
       have hT2 : Has w2 w1.heap.size 23 (cellsN .u8 16 t) := (by rw [hw2]; exact hn1.setRow _)
       have hB2 : Below w.heap.size w w2 := (by rw [hw2]; exact below_setRow (hb1.alloc hb1.size _) hb1.size _)
       have hs2 : w2.heap.size = w1.heap.size + 1 := (by rw [hw2]; simp [World.setRow])
       have hs1 : w.heap.size ≤ w1.heap.size := hb1.size
       clear hw2 hn1 hb1 hfirst)
    | (at_make; refine wpList_make_full _ rfl _ _ 22 rfl w2.heap.size 5 i0 (.int .u8 0) 1 Try.underlying22 hi hz0 hz1 .i64 .i64 _ _ N rfl rfl rfl rfl (by rw [hz2]; omega) (by unfold maxLen; omega) (Nat.le_refl _) ?_; intro w3 hown hgr))
  rw [zero_bl] at hown
  have hD3 := own_has hown
  have hB3' : Below w2.heap.size w2 w3 := (Below.refl _ _).grown hgr (Nat.le_refl _) (by intro k h; cases h)
  have hT3 : Has w3 w1.heap.size 23 (cellsN .u8 16 t) := hT2.below hB3' (by omega)
  have hB3 : Below w.heap.size w w3 := hB2.trans (hB3'.mono (by omega))
  clear hown hgr hi hz0 hz1 hz2 hB3' hT2 hB2
  obtain ⟨tb, htb⟩ : ∃ tb, tb = w1.heap.size := ⟨_, rfl⟩
  obtain ⟨db, hdb⟩ : ∃ db, db = tb + 1 := ⟨_, rfl⟩
  rw [hs2] at hD3
  rw [← htb] at hT3 hD3 hs1 ⊢
  rw [← hdb] at hD3 ⊢
  have HDB : Hid (db = tb + 1) := hdb
  clear hs2 htb hdb
  go_loopw [13] (fun i wr => ∃ m : Nat, m ≤ M ∧ i = .int .i64 ((16 * m : Nat) : Int) ∧ Has wr tb 23 (cellsN .u8 16 (twk t m)) ∧ Has wr db 5 (cellsN .u8 N (upTo (fun _ => 0) (sealB (encX n k) t D) (16 * m))) ∧ Below w.heap.size w wr)
    (fun i _ => N - (intOf i).toNat)
  case atStart => exact ⟨0, Nat.zero_le _, rfl, hT3, by rw [show 16 * 0 = 0 from rfl, upTo_zero]; exact hD3, hB3⟩
  case round =>
    clear hT3 hD3 hB3
    obtain ⟨m, hm, rfl, hT, hO, hbel⟩ := hrel
    have hNM := HNM.out
    by_cases hlt : m < M
    · have hCr : XC wr g gk gl n k l := hC.below hbel (Nat.le_refl _)
      have hTl := twk_lt t htl m
      obtain ⟨T, hTe⟩ : ∃ T, T = twk t m := ⟨_, rfl⟩
      rw [← hTe] at hT hTl
      obtain ⟨dd, hdd⟩ : ∃ dd : Nat → Nat, dd = fun r => D (16 * m + r) := ⟨_, rfl⟩
      have hdl : Byt dd := by rw [hdd]; exact fun j _ => hD _
      have hcol : wr.rangeAt b (o + 16 * m) (cellsN .u8 16 dd).toList := by
        rw [hdd]
        exact range_cells (fun j hj => by rw [hbel.cell (show b < w.heap.size from hb), Nat.add_assoc]; exact hc (16 * m + j) (by omega))
      have hx1 := hdl.xor hTl
      have hE1 : Byt (encX n k (xorS dd T)) := encX_lt n hn k hk hx1
      have hx2 := hE1.xor hTl
      obtain ⟨X1, hX1⟩ : ∃ X1, X1 = xorS dd T := ⟨_, rfl⟩
      obtain ⟨X2, hX2⟩ : ∃ X2, X2 = encX n k X1 := ⟨_, rfl⟩
      obtain ⟨X3, hX3⟩ : ∃ X3, X3 = xorS X2 T := ⟨_, rfl⟩
      have c1 : ∀ wz, Has wz tb 23 (cellsN .u8 16 T) → Calls Try.prog 46 #[.agg (cellsN .u8 16 dd), .pointer (some ⟨tb, 0, none⟩)] wz fun e w' => e = .returned (.agg (cellsN .u8 16 X1)) ∧ Below wz.heap.size wz w' := fun wz h => by rw [hX1]; exact xorT_any dd T tb wz hdl hTl h
      have c2 : ∀ wz, Has wz gk 57 (ccells (KS n k) (RN n) IB) → Calls Try.prog 13 #[.pointer (some ⟨gk, 0, none⟩), .agg (cellsN .u8 16 X1)] wz fun e w' => e = .returned (.agg (cellsN .u8 16 X2)) ∧ Below wz.heap.size wz w' := fun wz h => by rw [hX2]; exact hE wz X1 h (by rw [hX1]; exact hx1)
      have c3 : ∀ wz, Has wz tb 23 (cellsN .u8 16 T) → Calls Try.prog 46 #[.agg (cellsN .u8 16 X2), .pointer (some ⟨tb, 0, none⟩)] wz fun e w' => e = .returned (.agg (cellsN .u8 16 X3)) ∧ Below wz.heap.size wz w' := fun wz h => by rw [hX3]; exact xorT_any X2 T tb wz (by rw [hX2, hX1]; exact hE1) hTl h
      have HN : Hid (cellsN .u8 N (fun j => if j < 16 * m then upTo (fun _ => 0) (sealB (encX n k) t D) (16 * m) j else if j < 16 * m + 16 then X3 (j - 16 * m) else upTo (fun _ => 0) (sealB (encX n k) t D) (16 * m) j) = cellsN .u8 N (upTo (fun _ => 0) (sealB (encX n k) t D) (16 * (m + 1)))) := by
        rw [hX3, hX2, hX1, hdd, hTe]
        exact seal_next _ t D N m
      have HT : Hid (dblT T = twk t (m + 1)) := (by rw [hTe]; rfl : dblT T = twk t (m + 1))
      obtain ⟨F1, hF1⟩ : ∃ F1, F1 = upTo (fun _ => 0) (sealB (encX n k) t D) (16 * m) := ⟨_, rfl⟩
      rw [← hF1] at hO HN
      clear hX1 hX2 hX3 hTe hdd hF1 hx1 hE1 hx2 hE
      obtain ⟨i, hi⟩ : ∃ i, i = 16 * m := ⟨_, rfl⟩
      rw [← hi] at hcol HN
      rw [show ((16 * m : Nat) : Int) = (i : Int) by rw [hi]]
      have hi16 : i + 16 ≤ N := by omega
      have HI : Hid (i = 16 * m) := hi
      clear hi hNM
      have j0 : (0 : Int) ≤ (i : Int) := by omega
      have j1 : (i : Int) < (N : Int) := by omega
      have j2 : (i : Int) ≤ (i : Int) + 16 := by omega
      have j3 : (i : Int) + 16 ≤ (cap : Int) := by omega
      have j4 : ¬ cap = i := by omega
      have j5 : (i : Int) ≤ 1000 := by omega
      have hat : (Instr.arrayAt 23 (.slice (some ⟨b, o + i, none⟩) 16 (cap - i))).run Try.prog wr = .ok (.pointer (some ⟨b, o + i, none⟩)) wr := by simp [Instr.arrayAt, run_underlying Try.underlying23]
      have hsl : (Instr.sliceAt 22 (.slice (some ⟨b, o, none⟩) N cap) (some (.int .i64 (i : Int))) (some (.int .i64 ((i : Int) + 16))) none).run Try.prog wr = .ok (.slice (some ⟨b, o + i, none⟩) 16 (cap - i)) wr := slice_mid b o cap N i 16 wr (by omega) (by omega)
      go_wp2_with (first
        | (refine wpList_load_mid rfl 23 _ rfl b (o + i) rfl (cellsN .u8 16 dd).toList _ hcol Try.underlying23 rfl (by rw [Array.length_toList, cellsN_size]; exact Try.size23) ?_; rw [Array.toArray_toList])
        | (go_at_call 46; refine (c1 _ hT).mono ?_; rintro e v1 ⟨rfl, b1⟩; have hT1 := hT.below b1 hT.lt; have hK1 := hCr.2.1.below b1 hCr.2.1.lt; clear c1)
        | (go_at_call 13; refine (c2 _ hK1).mono ?_; rintro e v2 ⟨rfl, b2⟩; have hT2 := hT1.below b2 hT1.lt; clear c2)
        | (go_at_call 46; refine (c3 _ hT2).mono ?_; rintro e v3 ⟨rfl, b3⟩; have hn3 : Has (v3.alloc (.cells (cellsN .u8 16 fun _ => 0) 23)) v3.heap.size 23 (cellsN .u8 16 fun _ => 0) := Has.new _ _ _)
        | (refine wpList_store_rowG rfl 23 _ _ rfl v3.heap.size (cellsN .u8 16 X3) rfl rfl 23 _ hn3 (by rw [cellsN_size]; exact Try.size23) (by simp [cellsN_size]) (cellsN_one _ _ _) ?_
           intro v4 hv4))
      have hdb := HDB.out
      obtain ⟨bb, hbb⟩ : ∃ bb, bb = v3.heap.size := ⟨_, rfl⟩
      rw [← hbb] at hv4 hn3 ⊢
      have hbt : tb < bb := by rw [hbb]; exact Nat.lt_of_lt_of_le hT2.lt b3.size
      have hbo : db < bb := by rw [hbb]; exact Nat.lt_of_lt_of_le (Nat.lt_of_lt_of_le (Nat.lt_of_lt_of_le hO.lt b1.size) b2.size) b3.size
      have hX4 : Has v4 bb 23 (cellsN .u8 16 X3) := by rw [hv4]; exact hn3.setRow _
      have hT4 : Has v4 tb 23 (cellsN .u8 16 T) := by rw [hv4]; exact ((hT2.below b3 hT2.lt).alloc _).setRow_other (by omega) _
      have hO4 : Has v4 db 5 (cellsN .u8 N F1) := by
        rw [hv4]
        have o1 := hO.below b1 hO.lt
        have o2 := o1.below b2 o1.lt
        have o3 := o2.below b3 o2.lt
        exact (o3.alloc _).setRow_other (by omega) _
      have hB4 : Below w.heap.size w v4 := by
        rw [hv4]
        have p1 := hbel.trans (b1.mono hbel.size)
        have p2 := p1.trans (b2.mono p1.size)
        have p3 := p2.trans (b3.mono p2.size)
        exact below_setRow (p3.alloc p3.size _) (by rw [hbb]; exact p3.size) _
      clear hv4 hn3 b1 b2 b3 hT1 hT2 hK1 hT hO hbel hCr hcol hat hsl hbb
      have hO4d : Has v4.drew db 5 (cellsN .u8 N F1) := hO4
      have hX4d : Has v4.drew bb 23 (cellsN .u8 16 X3) := hX4
      have hsrc : ∀ j v, (cellsN .u8 16 X3).toList[j]? = some v → v4.drew.cell? ((⟨bb, 0, none⟩ : Addr).add j) = some v := by
        intro j v hv
        rw [Addr.add_mid, hX4d.cell]
        simpa using hv
      have hlen : (cellsN .u8 16 X3).toList.length = Nat.min 16 (N - i) := by rw [Array.length_toList, cellsN_size]; exact (Nat.min_eq_left (show 16 ≤ N - i by omega)).symm
      refine wp_region_held_drew (S := fun _ => True) (by kernel_rfl) trivial (fun hHeld => ?_)
      refine takeTo 0 (some 50) (.slice (some ⟨db, 0, none⟩) N N) rfl rfl (by kernel_rfl) (by kernel_rfl) (by kernel_rfl) (fun _ _ _ h => h) (by rfl) (fun _ _ => rfl) hHeld ?_
      simp only [Act.put, List.setIfInBounds_toArray, List.set_cons_zero, List.set_cons_succ]
      refine takeTo 1 (some 51) (.int .i64 (i : Nat)) rfl rfl (by kernel_rfl) (by kernel_rfl) (by kernel_rfl) (fun _ _ _ h => h) (by rfl) (fun _ _ => rfl) hHeld ?_
      simp only [Act.put, List.setIfInBounds_toArray, List.set_cons_zero, List.set_cons_succ]
      refine takeTo 2 (some 52) (.slice (some ⟨db, 0 + i, none⟩) (N - i) (N - i)) rfl rfl (by kernel_rfl) (by kernel_rfl) (by kernel_rfl) (fun _ _ _ h => h) (by rfl) (fun wz _ => run_slice_low _ _ rfl db 0 N N i rfl rfl (by omega) (by omega) wz) hHeld ?_
      simp only [Act.put, List.setIfInBounds_toArray, List.set_cons_zero, List.set_cons_succ]
      refine takeTo 3 (some 53) (.slice (some ⟨bb, 0, none⟩) 16 16) rfl rfl (by kernel_rfl) (by kernel_rfl) (by kernel_rfl) (fun _ _ _ h => h) (by rfl) (fun wz _ => run_slice_block _ rfl bb 0 rfl wz) hHeld ?_
      simp only [Act.put, List.setIfInBounds_toArray, List.set_cons_zero, List.set_cons_succ]
      have hcp := cellsN_splice .u8 N 16 (0 + i) F1 X3 (by omega)
      rw [Nat.zero_add] at hcp
      refine ready1 4 (by kernel_rfl) (stepVal (some 54) (goInt (cellsN .u8 16 X3).toList.length) (v4.drew.setRow db ((cellsN .u8 N F1).toList.take (0 + i) ++ ((cellsN .u8 16 X3).toList ++ (cellsN .u8 N F1).toList.drop (0 + i + (cellsN .u8 16 X3).toList.length))).toArray) rfl rfl (by rfl) (run_copy_op _ _ 22 22 rfl 5 Try.underlying22 one_u8 db (0 + i) (N - i) (N - i) ⟨bb, 0, none⟩ 16 16 rfl rfl (cellsN .u8 N F1) 5 hO4d (cellsN .u8 16 X3).toList hlen hsrc (by rw [Array.length_toList, cellsN_size, cellsN_size]; omega) (oneCells _ _ _)) ⟨trivial, ?_⟩)
      rw [Nat.zero_add, hcp, HN.out]
      have hO5 : Has (v4.drew.setRow db (cellsN .u8 N (upTo (fun _ => 0) (sealB (encX n k) t D) (16 * (m + 1))))) db 5 (cellsN .u8 N (upTo (fun _ => 0) (sealB (encX n k) t D) (16 * (m + 1)))) := hO4d.setRow _
      have hT5 : Has (v4.drew.setRow db (cellsN .u8 N (upTo (fun _ => 0) (sealB (encX n k) t D) (16 * (m + 1))))) tb 23 (cellsN .u8 16 T) := Has.setRow_other (w := v4.drew) hT4 (by omega) _
      have hB5 : Below w.heap.size w (v4.drew.setRow db (cellsN .u8 N (upTo (fun _ => 0) (sealB (encX n k) t D) (16 * (m + 1))))) := below_setRow hB4.drew (by omega) _
      obtain ⟨v5, hv5⟩ : ∃ v5, v5 = v4.drew.setRow db (cellsN .u8 N (upTo (fun _ => 0) (sealB (encX n k) t D) (16 * (m + 1)))) := ⟨_, rfl⟩
      rw [← hv5] at hO5 hT5 hB5 ⊢
      clear hv5 hcp hlen hsrc hX4d hO4d hX4 hO4 hT4 hB4 hHeld HN
      simp only [Act.put, List.setIfInBounds_toArray, List.set_cons_zero, List.set_cons_succ]
      refine wpAnyH_done (by kernel_rfl) ?_ _
      clear hdb
      go_wp2_with (first
        | (refine wpList_load_row rfl 23 _ rfl tb rfl 23 (cellsN .u8 16 T) (0, 0) _ hT5 Try.underlying23 rfl (by rw [cellsN_size]; exact Try.size23) ?_)
        | (go_at_call 47; refine (xdouble_any T _ hTl).mono ?_; rintro e v6 ⟨rfl, b6⟩; have hT6 := hT5.below b6 hT5.lt; have hO6 := hO5.below b6 hO5.lt; have hB6 := hB5.trans (b6.mono hB5.size))
        | (refine wpList_store_rowG rfl 23 _ _ rfl tb (cellsN .u8 16 (dblT T)) rfl rfl 23 _ hT6 (by rw [cellsN_size]; exact Try.size23) (by simp [cellsN_size]) (cellsN_one _ _ _) ?_
           intro v7 hv7))
      go_roundw
      case rel =>
        have := HI.out
        have hdb := HDB.out
        refine ⟨m + 1, by omega, by rw [this]; go_num, ?_, ?_, ?_⟩
        · rw [← HT.out]; exact hT6.setRow _
        · exact hO6.setRow_other (by omega) _
        · exact below_setRow hB6 hs1 _
      case measure => simp [intOf]; omega
    · obtain rfl : m = M := by omega
      have i3 : ¬ ((16 * m : Nat) : Int) < (N : Int) := by omega
      have hdb := HDB.out
      rw [← hNM, upTo_all] at hO
      clear hdb
      rw [← hNM]
      have i4 : ¬ (N : Int) < (N : Int) := by omega
      go_wp2
      go_ret2
      exact ⟨db, rfl, by have := HDB.out; omega, by first | exact hO | (rw [← hNM]; exact hO), hbel⟩
end Go.Proofs.Ytcnlegnfecpdnaa
