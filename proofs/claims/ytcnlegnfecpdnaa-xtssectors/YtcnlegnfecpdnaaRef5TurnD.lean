/- The xts reference's turn: opened. -/
import Derived.Test.YtcnlegnfecpdnaaRef5Base
namespace Go.Proofs.Ytcnlegnfecpdnaa
open Go.ChangeShapes Go.WideShapes Go.ChangeAt Go.RowKit
set_option linter.unusedVariables false

set_option maxRecDepth 100000 in
set_option maxHeartbeats 3200000 in
theorem rturnD_ok (n : Nat) (hn : n = 16 ∨ n = 32) (key : Nat → Nat) (b o cap s bd od cd M : Nat) (D : Nat → Nat) (w : World) (hk : ∀ j, key j < 256) (hs : s < 18446744073709551616) (hD : ∀ j, D j < 256) (hM : 0 < M) (hM2 : 16 * M ≤ 256) (hcap : 2 * n ≤ cap) (hcd : 16 * M ≤ cd)
    (hb : b < w.heap.size) (hc : ∀ j, j < 2 * n → w.cell? ⟨b, o + j, none⟩ = some (.int .u8 (key j : Nat))) (hbd : bd < w.heap.size) (hdc : ∀ j, j < 16 * M → w.cell? ⟨bd, od + j, none⟩ = some (.int .u8 (D j : Nat))) :
    Calls Try.prog 41 #[.slice (some ⟨b, o, none⟩) (2 * n : Nat) cap, .int .u64 (s : Nat), .slice (some ⟨bd, od, none⟩) (16 * M : Nat) cd, .bool true] w fun e w' =>
      ∃ q c, e = .returned (.tuple #[.slice (some ⟨q, 0, none⟩) (16 * M : Nat) c, .int .i64 0]) ∧ Bytes w' (some ⟨q, 0, none⟩) (16 * M) (sealB (decX n key) (tw0 n (fun j => key (n + j)) s) D) ∧ Below w.heap.size w w' := by
  obtain ⟨L2, hL2⟩ : ∃ L2, L2 = 2 * n := ⟨_, rfl⟩
  obtain ⟨N, hN⟩ : ∃ N, N = 16 * M := ⟨_, rfl⟩
  have HK1 : Hid (∀ wz, Below w.heap.size w wz → Calls Try.prog 10 #[.slice (some ⟨b, o, none⟩) n cap] wz fun e w' => ∃ g c, e = .returned (.slice (some ⟨g, 0, none⟩) (KN n) c) ∧ wz.heap.size ≤ g ∧ RK w' g n key ∧ Below wz.heap.size wz w') := by
    unfold Hid
    intro wz h
    exact rkeys_both n hn key b o cap wz hk (Nat.lt_of_lt_of_le hb h.size) (fun j hj => by rw [h.cell (show b < w.heap.size from hb)]; exact hc j (by omega))
  have HK2 : Hid (∀ wz, Below w.heap.size w wz → Calls Try.prog 10 #[.slice (some ⟨b, o + n, none⟩) (L2 - n) (cap - n)] wz fun e w' => ∃ g c, e = .returned (.slice (some ⟨g, 0, none⟩) (KN n) c) ∧ wz.heap.size ≤ g ∧ RK w' g n (fun j => key (n + j)) ∧ Below wz.heap.size wz w') := by
    unfold Hid
    intro wz h
    rw [show L2 - n = n by omega]
    exact rkeys_both n hn (fun j => key (n + j)) b (o + n) (cap - n) wz (fun j => hk _) (Nat.lt_of_lt_of_le hb h.size) (fun j hj => by rw [h.cell (show b < w.heap.size from hb), Nat.add_assoc]; exact hc (n + j) (by omega))
  have hnb : Byt (numB s) := fun j _ => numT_lt s 8 j
  have HE1 : Hid (∀ wz g c, RK wz g n (fun j => key (n + j)) → Calls Try.prog 14 #[.slice (some ⟨g, 0, none⟩) (KN n) c, .agg (cellsN .u8 16 (numB s))] wz fun e w' => e = .returned (.agg (cellsN .u8 16 (tw0 n (fun j => key (n + j)) s))) ∧ Below wz.heap.size wz w') := fun wz g c h => renc_both n hn _ g c wz (numB s) (fun j => hk _) h hnb
  have HE2 : Hid (∀ wz g c f, RK wz g n key → Byt f → Calls Try.prog 16 #[.slice (some ⟨g, 0, none⟩) (KN n) c, .agg (cellsN .u8 16 f)] wz fun e w' => e = .returned (.agg (cellsN .u8 16 (decX n key f))) ∧ Below wz.heap.size wz w') := fun wz g c f h hf => rdec_both n hn _ g c wz f hk h hf
  have hEl : ∀ f, Byt f → Byt (decX n key f) := fun f hf => decX_lt n hn key hk hf
  have htw := tw0_lt n hn (fun j => key (n + j)) (fun j => hk _) s
  generalize tw0 n (fun j => key (n + j)) s = t at htw HE1 ⊢
  have i1 : ((N : Int) == 0) = false := by simp; omega
  have i2 : ((N : Int) % 16 != 0) = false := by simp; omega
  have i3 : (L2 : Int) / 2 = (n : Int) := by omega
  have hn2 : n ≤ 32 ∧ 16 ≤ n := by omega
  have hL3 : n < L2 := by omega
  have hL4 : L2 ≤ 64 := by omega
  have hN2 : N ≤ 256 := by omega
  rw [← hL2, ← hN]
  have HNM : Hid (N = 16 * M) := hN
  rw [← hL2] at hcap hc
  rw [← hN] at hcd hdc
  clear hL2 hN hM2
  have g3 : (n : Int) ≤ 32 := by omega
  have g4 : (16 : Int) ≤ (n : Int) := by omega
  have g5 : (L2 : Int) ≤ 64 := by omega
  go_enter Try.func41, Try.ntmps41
  go_wp2_with (first
    | (refine wpList_val (some 34) (.slice (some ⟨b, o, none⟩) n cap) rfl (by rfl) (run_slice_hiX _ _ rfl b o L2 cap n rfl rfl (by omega) (by omega) _) ?_)
    | (go_at_call 10; refine (HK1.out _ (Below.refl _ _)).mono ?_; rintro e w1 ⟨gk, ck, rfl, hgk, hK1, hb1⟩; clear HK1)
    | (refine wpList_val (some 38) (.slice (some ⟨b, o + n, none⟩) (L2 - n) (cap - n)) rfl (by rfl) (run_slice_low _ _ rfl b o L2 cap n rfl rfl hL3 (by omega) _) ?_)
    | (go_at_call 10; refine (HK2.out _ hb1).mono ?_; rintro e w2 ⟨gl, cl, rfl, hgl, hK2, hb2⟩; have hB2 := hb1.trans (hb2.mono hb1.size); have hKk := hK1.below hb2 (Nat.le_refl _); clear HK2))
  go_loopw [14] (fun i wr => ∃ k : Nat, k ≤ 8 ∧ i = .int .i64 k ∧ Has wr w2.heap.size 23 (cellsN .u8 16 (upTo (fun _ => 0) (fun j => s / 2 ^ (8 * j) % 256) k)) ∧ Below w2.heap.size w2 wr)
    (fun i _ => 8 - (intOf i).toNat)
  case atStart => exact ⟨0, Nat.zero_le _, rfl, by rw [upTo_zero]; exact Has.new _ _ _, (Below.refl _ _).alloc (Nat.le_refl _) _⟩
  case round =>
    obtain ⟨q, hq, rfl, hS, hbel⟩ := hrel
    by_cases hlt : q < 8
    · have hcq := hS.num q (by omega)
      rw [upTo_at] at hcq
      have hfr := hS.free q
      have j1 : (q : Int) < 8 := by omega
      have j0 : (0 : Int) ≤ (q : Int) := by omega
      go_wp2
      go_roundw
      case rel =>
        refine ⟨q + 1, by omega, by go_num, ?_, hbel.setCell (Nat.le_refl _) _⟩
        have := hS.set q (s / 2 ^ (8 * q) % 256)
        rw [upTo_next] at this
        exact this
      case measure => simp [intOf]; omega
    · obtain rfl : q = 8 := by omega
      have hSn : Has wr w2.heap.size 23 (cellsN .u8 16 (numB s)) := hS
      clear hS
      have hKl := hK2.below hbel (Nat.le_refl _)
      have j1 : ¬ ((8 : Nat) : Int) < 8 := by omega
      go_wp2_with (first
        | (refine wpList_load_row rfl 23 _ rfl w2.heap.size rfl 23 (cellsN .u8 16 (numB s)) (0, 0) _ hSn Try.underlying23 rfl (by rw [cellsN_size]; exact Try.size23) ?_)
        | (go_at_call 14; refine (HE1.out _ gl cl hKl).mono ?_; rintro e w3 ⟨rfl, hb3⟩; have hS3 := hSn.below hb3 hSn.lt)
        | (refine wpList_store_rowG rfl 23 _ _ rfl w2.heap.size (cellsN .u8 16 t) rfl rfl 23 _ hS3 (by rw [cellsN_size]; exact Try.size23) (by simp [cellsN_size]) (cellsN_one _ _ _) ?_
           intro w4 hw4
           have hT4 : Has w4 w2.heap.size 23 (cellsN .u8 16 t) := (by rw [hw4]; exact hS3.setRow _)
           have hB4 : Below w2.heap.size w2 w4 := (by rw [hw4]; exact below_setRow (hbel.trans (hb3.mono hbel.size)) (Nat.le_refl _) _)
           clear hw4))
      have hKw := hKk.below hB4 (Nat.le_refl _)
      have hBw4 := hB2.trans (hB4.mono hB2.size)
      have hts : w2.heap.size < w4.heap.size := hT4.lt
      obtain ⟨tb, htb⟩ : ∃ tb, tb = w2.heap.size := ⟨_, rfl⟩
      rw [← htb] at hT4 hB4 hts ⊢
      have hwt : w.heap.size ≤ tb := by rw [htb]; exact hB2.size
      have hgt : gk < tb := by rw [htb]; exact hKk.1
      clear htb hS3 hb3 hbel hKl hSn HE1 hB2 hb1 hb2 hK1 hK2 hgk hgl i1 i2 i3 hc
      go_loopw [15, 16] (fun v i wr => ∃ m : Nat, m ≤ M ∧ i = .int .i64 ((16 * m : Nat) : Int) ∧ Has wr tb 23 (cellsN .u8 16 (twk t m)) ∧ wr.ownsRow w4.heap.size 5 1 v (16 * m) (bl (sealB (decX n key) t D) (16 * m)) ∧ w4.heap.size ≤ wr.heap.size ∧ RK wr gk n key ∧ Below w.heap.size w wr)
        (fun _ i _ => N - (intOf i).toNat)
      case atStart => exact ⟨0, Nat.zero_le _, rfl, hT4, World.ownsRow_nil _ _ _ _, Nat.le_refl _, hKw, hBw4⟩
      case round =>
        clear hT4 hKw hBw4 hKk
        obtain ⟨m, hm, rfl, hT, hown, hsz, hKr, hbel⟩ := hrel
        have hNM := HNM.out
        by_cases hlt : m < M
        · have hTl := twk_lt t htw m
          obtain ⟨T, hTe⟩ : ∃ T, T = twk t m := ⟨_, rfl⟩
          rw [← hTe] at hT hTl
          obtain ⟨dd, hdd⟩ : ∃ dd : Nat → Nat, dd = fun r => D (16 * m + r) := ⟨_, rfl⟩
          have hdl : Byt dd := by rw [hdd]; exact fun j _ => hD _
          have hx1 := hdl.xor hTl
          have hX2l := hEl _ hx1
          obtain ⟨X1, hX1⟩ : ∃ X1, X1 = xorS dd T := ⟨_, rfl⟩
          obtain ⟨X2, hX2⟩ : ∃ X2, X2 = decX n key X1 := ⟨_, rfl⟩
          rw [← hX1] at hx1 hX2l
          have HC : Hid (∀ wz, RK wz gk n key → Calls Try.prog 16 #[.slice (some ⟨gk, 0, none⟩) (KN n) ck, .agg (cellsN .u8 16 X1)] wz fun e w' => e = .returned (.agg (cellsN .u8 16 X2)) ∧ Below wz.heap.size wz w') := fun wz h => by rw [hX2]; exact HE2.out wz gk ck X1 h hx1
          rw [← hX2] at hX2l
          have HX : Hid (X1 = xorS dd T) := hX1
          have HZ : Hid (∀ k, k < 16 → sealB (decX n key) t D (16 * m + k) = X2 k ^^^ T k) := fun k hk16 => by rw [sealB_at _ _ _ _ _ hk16, hX2, hX1, hdd, hTe]; rfl
          have HT : Hid (dblT T = twk t (m + 1)) := (by rw [hTe]; rfl : dblT T = twk t (m + 1))
          have HD : Hid (∀ k, k < 16 → ∀ wz, Below w.heap.size w wz → wz.cell? ⟨bd, od + (16 * m + k) * 1, none⟩ = some (.int .u8 (dd k : Nat))) := fun k hk16 wz h => by
            rw [hdd, Nat.mul_one, h.cell (show bd < w.heap.size from hbd)]
            exact hdc (16 * m + k) (by omega)
          clear hTe hdd hX1 hX2
          obtain ⟨Z, hZe⟩ : ∃ Z, Z = sealB (decX n key) t D := ⟨_, rfl⟩
          rw [← hZe] at hown HZ ⊢
          have HZE : Hid (Z = sealB (decX n key) t D) := hZe
          clear hZe
          obtain ⟨i, hi⟩ : ∃ i, i = 16 * m := ⟨_, rfl⟩
          rw [← hi] at hown HZ HD
          rw [show ((16 * m : Nat) : Int) = (i : Int) by rw [hi]]
          have hi16 : i + 16 ≤ N := by omega
          have HI : Hid (i = 16 * m) := hi
          clear hi hNM
          have j0 : (0 : Int) ≤ (i : Int) := by omega
          have j1 : (i : Int) < (N : Int) := by omega
          have j5 : (i : Int) ≤ 256 := by omega
          obtain ⟨bb, hbb⟩ : ∃ bb, bb = wr.heap.size := ⟨_, rfl⟩
          have htb : tb < bb := by rw [hbb]; exact hT.lt
          have hgb : gk < bb := by rw [hbb]; exact hKr.1
          have hwb : w.heap.size ≤ bb := by rw [hbb]; exact hbel.size
          have hob : ∀ g, u15.ownBlock = some g → g < bb := fun g hg => by rw [hbb]; exact (hown.lt g hg).2
          have hsb : w4.heap.size ≤ bb := by rw [hbb]; exact hsz
          have hKb : ∀ wz, Below bb wr wz → RK wz gk n key := fun wz h => hKr.below h (by omega)
          have HBB : Hid (bb = wr.heap.size) := hbb
          have hnew : Has (wr.alloc (.cells (cellsN .u8 16 fun _ => 0) 23)) wr.heap.size 23 (cellsN .u8 16 fun _ => 0) := Has.new _ _ _
          rw [← hbb] at hnew
          have hbn : Below bb wr (wr.alloc (.cells (cellsN .u8 16 fun _ => 0) 23)) := (Below.refl _ _).alloc (by omega) _
          clear hbb
          rename World => wo
          go_wp2
          rw [← HBB.out]
          go_loopw [18] (fun x wz => ∃ k : Nat, k ≤ 16 ∧ x = .int .i64 k ∧ Has wz bb 23 (cellsN .u8 16 (upTo (fun _ => 0) X1 k)) ∧ Below bb wo wz)
            (fun x _ => 16 - (intOf x).toNat)
          case atStart => exact ⟨0, Nat.zero_le _, rfl, by rw [upTo_zero]; exact hnew, hbn⟩
          case round =>
            clear hnew hbn
            obtain ⟨k, hk16, rfl, hS, hbw⟩ := hrel
            by_cases hlt : k < 16
            · have dd1 : wr.drew.cell? ⟨bd, od + (i + k) * 1, none⟩ = some (.int .u8 (dd k : Nat)) := HD.out k hlt _ (hbel.trans (hbw.mono hwb)).drew
              have dd2 : wr.drew.cell? ⟨tb, 0 + k, none⟩ = some (.int .u8 (T k : Nat)) := by rw [Nat.zero_add]; exact (hT.below hbw htb).num k hlt
              have dd3 : wr.drew.cell? ⟨bb, 0 + k, none⟩ = some (.int .u8 ((upTo (fun _ => 0) X1 k k : Nat) : Int)) := by rw [Nat.zero_add]; exact hS.num k hlt
              have dd4 : wr.drew.frozen? ⟨bb, 0 + k, none⟩ = false := by rw [Nat.zero_add]; exact hS.free k
              have k1 : (k : Int) < 16 := by omega
              go_wp2_with fail
              refine lastTo (S := fun w' => w'.cell? ⟨bd, od + (i + k) * 1, none⟩ = some (.int .u8 (dd k : Nat)) ∧ w'.cell? ⟨tb, 0 + k, none⟩ = some (.int .u8 (T k : Nat))) 12 (by kernel_rfl) ⟨dd1, dd2⟩ (fun hHeld => ?_)
              refine takeL 0 (some 65) (.int .i64 (k : Nat)) rfl rfl (by decide) (by kernel_rfl) (by kernel_rfl) (by kernel_rfl) (by kernel_rfl) (fun _ _ _ h => h) (by rfl) (fun _ _ => rfl) hHeld ?_
              simp only [Act.put, List.setIfInBounds_toArray, List.set_cons_zero, List.set_cons_succ]
              refine takeL 1 (some 66) (.slice (some ⟨bd, od, none⟩) N cd) rfl rfl (by decide) (by kernel_rfl) (by kernel_rfl) (by kernel_rfl) (by kernel_rfl) (fun _ _ _ h => h) (by rfl) (fun _ _ => rfl) hHeld ?_
              simp only [Act.put, List.setIfInBounds_toArray, List.set_cons_zero, List.set_cons_succ]
              refine takeL 2 (some 67) (.int .i64 (i : Nat)) rfl rfl (by decide) (by kernel_rfl) (by kernel_rfl) (by kernel_rfl) (by kernel_rfl) (fun _ _ _ h => h) (by rfl) (fun _ _ => rfl) hHeld ?_
              simp only [Act.put, List.setIfInBounds_toArray, List.set_cons_zero, List.set_cons_succ]
              refine takeL 3 (some 68) (.int .i64 (k : Nat)) rfl rfl (by decide) (by kernel_rfl) (by kernel_rfl) (by kernel_rfl) (by kernel_rfl) (fun _ _ _ h => h) (by rfl) (fun _ _ => rfl) hHeld ?_
              simp only [Act.put, List.setIfInBounds_toArray, List.set_cons_zero, List.set_cons_succ]
              refine takeL 4 (some 69) (.int .i64 ((i + k : Nat) : Int)) rfl rfl (by decide) (by kernel_rfl) (by kernel_rfl) (by kernel_rfl) (by kernel_rfl) (fun _ _ _ h => h) (by rfl) (fun wz _ => run_addX _ _ rfl i k rfl rfl (by omega) (by omega) wz) hHeld ?_
              simp only [Act.put, List.setIfInBounds_toArray, List.set_cons_zero, List.set_cons_succ]
              refine takeL 5 (some 70) (.pointer (some ⟨bd, od + (i + k) * 1, none⟩)) rfl rfl (by decide) (by kernel_rfl) (by kernel_rfl) (by kernel_rfl) (by kernel_rfl) (fun _ _ _ h => h) (by rfl) (fun wz _ => run_indexAddrS 22 _ _ rfl bd od (i + k) N cd 1 5 rfl rfl Try.underlying22 one_u8 (by omega) wz) hHeld ?_
              simp only [Act.put, List.setIfInBounds_toArray, List.set_cons_zero, List.set_cons_succ]
              refine takeL 6 (some 71) (.int .u8 (dd k : Nat)) rfl rfl (by decide) (by kernel_rfl) (by kernel_rfl) (by kernel_rfl) (by kernel_rfl) (fun _ _ _ h => h) (by rfl) (fun wz hz => run_load_u8 _ rfl bd (od + (i + k) * 1) rfl _ wz hz.1) hHeld ?_
              simp only [Act.put, List.setIfInBounds_toArray, List.set_cons_zero, List.set_cons_succ]
              refine takeL 7 (some 72) (.int .i64 (k : Nat)) rfl rfl (by decide) (by kernel_rfl) (by kernel_rfl) (by kernel_rfl) (by kernel_rfl) (fun _ _ _ h => h) (by rfl) (fun _ _ => rfl) hHeld ?_
              simp only [Act.put, List.setIfInBounds_toArray, List.set_cons_zero, List.set_cons_succ]
              refine takeL 8 (some 73) (.pointer (some ⟨tb, 0 + k, none⟩)) rfl rfl (by decide) (by kernel_rfl) (by kernel_rfl) (by kernel_rfl) (by kernel_rfl) (fun _ _ _ h => h) (by rfl) (fun wz _ => run_indexK .i64 23 _ _ rfl tb 0 k 16 5 rfl rfl Try.underlying23 one_u8 (by omega) wz) hHeld ?_
              simp only [Act.put, List.setIfInBounds_toArray, List.set_cons_zero, List.set_cons_succ]
              refine takeL 9 (some 74) (.int .u8 (T k : Nat)) rfl rfl (by decide) (by kernel_rfl) (by kernel_rfl) (by kernel_rfl) (by kernel_rfl) (fun _ _ _ h => h) (by rfl) (fun wz hz => run_load_u8 _ rfl tb (0 + k) rfl _ wz hz.2) hHeld ?_
              simp only [Act.put, List.setIfInBounds_toArray, List.set_cons_zero, List.set_cons_succ]
              refine takeL 10 (some 75) (.int .u8 ((dd k ^^^ T k : Nat) : Int)) rfl rfl (by decide) (by kernel_rfl) (by kernel_rfl) (by kernel_rfl) (by kernel_rfl) (fun _ _ _ h => h) (by rfl) (fun wz _ => run_xor8 _ _ rfl _ _ rfl rfl (hdl k hlt) (hTl k hlt) wz) hHeld ?_
              simp only [Act.put, List.setIfInBounds_toArray, List.set_cons_zero, List.set_cons_succ]
              refine takeL 11 (some 76) (.pointer (some ⟨bb, 0 + k, none⟩)) rfl rfl (by decide) (by kernel_rfl) (by kernel_rfl) (by kernel_rfl) (by kernel_rfl) (fun _ _ _ h => h) (by rfl) (fun wz _ => run_indexK .i64 23 _ _ rfl bb 0 k 16 5 rfl rfl Try.underlying23 one_u8 (by omega) wz) hHeld ?_
              simp only [Act.put, List.setIfInBounds_toArray, List.set_cons_zero, List.set_cons_succ]
              refine lastSkip 12 none (wr.drew.setCell ⟨bb, 0 + k, none⟩ (.int .u8 ((dd k ^^^ T k : Nat) : Int))) (by kernel_rfl) rfl rfl (by rfl) (run_store_u8X _ _ rfl bb (0 + k) rfl _ rfl _ dd3 dd4) (by kernel_rfl) ?_
              clear hHeld dd1 dd2 dd3 dd4
              simp only [Act.put]
              go_wp2
              go_roundw
              case rel =>
                have R := hS.set k (X1 k)
                rw [upTo_next] at R
                have hxk : dd k ^^^ T k = X1 k := by rw [HX.out]; rfl
                refine ⟨k + 1, by omega, by go_num, ?_, ?_⟩
                · rw [hxk]; exact R
                · exact (hbw.setCell (Nat.le_refl _) _).drew
              case measure => simp [intOf]; omega
            · obtain rfl : k = 16 := by omega
              have hSX : Has wr bb 23 (cellsN .u8 16 X1) := by rw [upTo_all] at hS; exact hS
              clear hS
              have hKw := hKb wr hbw
              go_wp2_with (first
                | (refine wpList_load_row rfl 23 _ rfl bb rfl 23 (cellsN .u8 16 X1) (0, 0) _ hSX Try.underlying23 rfl (by rw [cellsN_size]; exact Try.size23) ?_)
                | (go_at_call 16; refine (HC.out _ hKw).mono ?_; rintro e z1 ⟨rfl, bz1⟩; have hSz := hSX.below bz1 hSX.lt)
                | (refine wpList_store_rowG rfl 23 _ _ rfl bb (cellsN .u8 16 X2) rfl rfl 23 _ hSz (by rw [cellsN_size]; exact Try.size23) (by simp [cellsN_size]) (cellsN_one _ _ _) ?_
                   intro z2 hz2
                   have hX2z : Has z2 bb 23 (cellsN .u8 16 X2) := (by rw [hz2]; exact hSz.setRow _)
                   have hbz2 : Below bb wo z2 := (by rw [hz2]; exact below_setRow (hbw.trans (bz1.mono (by have := HBB.out; have := hbw.size; omega))) (Nat.le_refl _) _)
                   clear hz2))
              have hown2 := own_below hown hbz2 hob
              have hT2 := hT.below hbz2 htb
              have hK2' := hKb z2 hbz2
              have hB2' := hbel.trans (hbz2.mono hwb)
              have hsz2 : w4.heap.size ≤ z2.heap.size := Nat.le_trans hsz hbz2.size
              clear hSX hSz bz1 hbw hbz2 hKw
              go_loopw [15, 19] (fun v x wz => ∃ k : Nat, k ≤ 16 ∧ x = .int .i64 k ∧ wz.ownsRow w4.heap.size 5 1 v (i + k) (bl Z (i + k)) ∧ Has wz bb 23 (cellsN .u8 16 X2) ∧ Has wz tb 23 (cellsN .u8 16 T) ∧ RK wz gk n key ∧ w4.heap.size ≤ wz.heap.size ∧ Below w.heap.size w wz)
                (fun _ x _ => 16 - (intOf x).toNat)
              case atStart => exact ⟨0, Nat.zero_le _, rfl, hown2, hX2z, hT2, hK2', hsz2, hB2'⟩
              case round =>
                clear hown2 hX2z hT2 hK2' hsz2 hB2'
                obtain ⟨k, hk16, rfl, hown3, hX3, hT3, hK3, hsz3, hB3⟩ := hrel
                by_cases hlt : k < 16
                · have dd1 : wr.drew.cell? ⟨bb, 0 + k, none⟩ = some (.int .u8 (X2 k : Nat)) := by rw [Nat.zero_add]; exact hX3.num k hlt
                  have dd2 : wr.drew.cell? ⟨tb, 0 + k, none⟩ = some (.int .u8 (T k : Nat)) := by rw [Nat.zero_add]; exact hT3.num k hlt
                  have k1 : (k : Int) < 16 := by omega
                  obtain ⟨wa, hwa⟩ : ∃ wa, wa = wr.drew.alloc (.cells #[.int .u8 ((X2 k ^^^ T k : Nat) : Int)] 5) := ⟨_, rfl⟩
                  have hba : Below wr.heap.size wr wa := by rw [hwa]; exact ((Below.refl wr.heap.size wr).drew).alloc (Nat.le_refl _) _
                  have hca : wa.cell? ⟨wr.drew.heap.size, 0, none⟩ = some (.int .u8 ((X2 k ^^^ T k : Nat) : Int)) := by
                    rw [hwa]
                    have h1 : Has (wr.drew.alloc (.cells #[.int .u8 ((X2 k ^^^ T k : Nat) : Int)] 5)) wr.drew.heap.size 5 #[.int .u8 ((X2 k ^^^ T k : Nat) : Int)] := Has.new _ _ _
                    rw [h1.cell]
                    rfl
                  obtain ⟨v', w', hr', hown', hgr'⟩ := append_one wa w4.heap.size u15 (i + k) Z (own_below hown3 hba (fun g hg => (hown3.lt g hg).2)) wr.drew.heap.size (X2 k ^^^ T k) hca (HZ.out k hlt) (by omega) (Nat.le_trans hsz3 hba.size)
                  have hXa := hX3.below hba hX3.lt
                  have hTa := hT3.below hba hT3.lt
                  have hX' := hXa.grown hgr' (own_ne (own_below hown3 hba (fun g hg => (hown3.lt g hg).2)) hXa (by decide))
                  have hT' := hTa.grown hgr' (own_ne (own_below hown3 hba (fun g hg => (hown3.lt g hg).2)) hTa (by decide))
                  have hba' : Below w4.heap.size wa w' := (Below.refl _ _).grown hgr' (Nat.le_trans hsz3 hba.size) (fun g hg => (hown3.lt g hg).1)
                  have hK' : RK w' gk n key := (hK3.below hba (Nat.le_refl _)).below' hba' (by omega)
                  have hB' : Below w.heap.size w w' := (hB3.trans (hba.mono hB3.size)).trans (hba'.mono (by omega))
                  have hs' : w4.heap.size ≤ w'.heap.size := Nat.le_trans (Nat.le_trans hsz3 hba.size) hba'.size
                  go_wp2_with fail
                  refine wp_region_held_drew (S := fun wz => wz.cell? ⟨bb, 0 + k, none⟩ = some (.int .u8 (X2 k : Nat)) ∧ wz.cell? ⟨tb, 0 + k, none⟩ = some (.int .u8 (T k : Nat))) (by kernel_rfl) ⟨dd1, dd2⟩ (fun hHeld => ?_)
                  refine takeTo 0 (some 88) (u15) rfl rfl (by kernel_rfl) (by kernel_rfl) (by kernel_rfl) (fun _ _ _ h => h) (by rfl) (fun _ _ => rfl) hHeld ?_
                  simp only [Act.put, List.setIfInBounds_toArray, List.set_cons_zero, List.set_cons_succ]
                  refine takeTo 1 (some 89) (.int .i64 (k : Nat)) rfl rfl (by kernel_rfl) (by kernel_rfl) (by kernel_rfl) (fun _ _ _ h => h) (by rfl) (fun _ _ => rfl) hHeld ?_
                  simp only [Act.put, List.setIfInBounds_toArray, List.set_cons_zero, List.set_cons_succ]
                  refine takeTo 2 (some 90) (.pointer (some ⟨bb, 0 + k, none⟩)) rfl rfl (by kernel_rfl) (by kernel_rfl) (by kernel_rfl) (fun _ _ _ h => h) (by rfl) (fun wz _ => run_indexK .i64 23 _ _ rfl bb 0 k 16 5 rfl rfl Try.underlying23 one_u8 (by omega) wz) hHeld ?_
                  simp only [Act.put, List.setIfInBounds_toArray, List.set_cons_zero, List.set_cons_succ]
                  refine takeTo 3 (some 91) (.int .u8 (X2 k : Nat)) rfl rfl (by kernel_rfl) (by kernel_rfl) (by kernel_rfl) (fun _ _ _ h => h) (by rfl) (fun wz hz => run_load_u8 _ rfl bb (0 + k) rfl _ wz hz.1) hHeld ?_
                  simp only [Act.put, List.setIfInBounds_toArray, List.set_cons_zero, List.set_cons_succ]
                  refine takeTo 4 (some 92) (.int .i64 (k : Nat)) rfl rfl (by kernel_rfl) (by kernel_rfl) (by kernel_rfl) (fun _ _ _ h => h) (by rfl) (fun _ _ => rfl) hHeld ?_
                  simp only [Act.put, List.setIfInBounds_toArray, List.set_cons_zero, List.set_cons_succ]
                  refine takeTo 5 (some 93) (.pointer (some ⟨tb, 0 + k, none⟩)) rfl rfl (by kernel_rfl) (by kernel_rfl) (by kernel_rfl) (fun _ _ _ h => h) (by rfl) (fun wz _ => run_indexK .i64 23 _ _ rfl tb 0 k 16 5 rfl rfl Try.underlying23 one_u8 (by omega) wz) hHeld ?_
                  simp only [Act.put, List.setIfInBounds_toArray, List.set_cons_zero, List.set_cons_succ]
                  refine takeTo 6 (some 94) (.int .u8 (T k : Nat)) rfl rfl (by kernel_rfl) (by kernel_rfl) (by kernel_rfl) (fun _ _ _ h => h) (by rfl) (fun wz hz => run_load_u8 _ rfl tb (0 + k) rfl _ wz hz.2) hHeld ?_
                  simp only [Act.put, List.setIfInBounds_toArray, List.set_cons_zero, List.set_cons_succ]
                  refine takeTo 7 (some 95) (.int .u8 ((X2 k ^^^ T k : Nat) : Int)) rfl rfl (by kernel_rfl) (by kernel_rfl) (by kernel_rfl) (fun _ _ _ h => h) (by rfl) (fun wz _ => run_xor8 _ _ rfl _ _ rfl rfl (hX2l k hlt) (hTl k hlt) wz) hHeld ?_
                  simp only [Act.put, List.setIfInBounds_toArray, List.set_cons_zero, List.set_cons_succ]
                  refine ready1 8 (by kernel_rfl) (stepVal (some 96) (.slice (some ⟨wr.drew.heap.size, 0, none⟩) 1 1) wa rfl rfl (by rfl) (by rw [hwa]; exact run_slice1 _ rfl _ rfl _) ⟨⟨by rw [Nat.zero_add]; exact hXa.num k hlt, by rw [Nat.zero_add]; exact hTa.num k hlt⟩, ?_⟩)
                  simp only [Act.put, List.setIfInBounds_toArray, List.set_cons_zero, List.set_cons_succ]
                  refine ready1 9 (by kernel_rfl) (stepVal (some 97) v' w' rfl rfl (by rfl) (hr' _ _ _ _ rfl rfl rfl) ⟨⟨by rw [Nat.zero_add]; exact hX'.num k hlt, by rw [Nat.zero_add]; exact hT'.num k hlt⟩, ?_⟩)
                  simp only [Act.put, List.setIfInBounds_toArray, List.set_cons_zero, List.set_cons_succ]
                  refine takeTo 10 (some 15) v' rfl rfl (by kernel_rfl) (by kernel_rfl) (by kernel_rfl) (fun _ _ _ h => h) (by rfl) (fun _ _ => rfl) ⟨by rw [Nat.zero_add]; exact hX'.num k hlt, by rw [Nat.zero_add]; exact hT'.num k hlt⟩ ?_
                  simp only [Act.put, List.setIfInBounds_toArray, List.set_cons_zero, List.set_cons_succ]
                  refine wpAnyH_done (by kernel_rfl) ?_ _
                  clear hHeld dd1 dd2 hwa hca hr' hgr'
                  go_wp2
                  go_roundw
                  case rel => exact ⟨k + 1, by omega, by go_num, hown', hX', hT', hK', hs', hB'⟩
                  case measure => simp [intOf]; omega
                · obtain rfl : k = 16 := by omega
                  go_wp2_with (first
                    | (refine wpList_load_row rfl 23 _ rfl tb rfl 23 (cellsN .u8 16 T) (0, 0) _ hT3 Try.underlying23 rfl (by rw [cellsN_size]; exact Try.size23) ?_)
                    | (go_at_call 48; refine (rdouble_any T _ hTl).mono ?_; rintro e z6 ⟨rfl, b6⟩; have hT6 := hT3.below b6 hT3.lt; have hown6 := own_below hown3 b6 (fun g hg => (hown3.lt g hg).2); have hK6 := hK3.below b6 (Nat.le_refl _); have hB6 := hB3.trans (b6.mono hB3.size); have hs6 := Nat.le_trans hsz3 b6.size)
                    | (refine wpList_store_rowG rfl 23 _ _ rfl tb (cellsN .u8 16 (dblT T)) rfl rfl 23 _ hT6 (by rw [cellsN_size]; exact Try.size23) (by simp [cellsN_size]) (cellsN_one _ _ _) ?_
                       intro z7 hz7))
                  go_roundw
                  case rel =>
                    have e16 := HI.out
                    have hb7 : Below tb z6 (z6.setRow tb (cellsN .u8 16 (dblT T))) := below_setRow (Below.refl _ _) (Nat.le_refl _) _
                    refine ⟨m + 1, by omega, by rw [e16]; go_num, ?_, ?_, Nat.le_trans hs6 hb7.size, hK6.below' hb7 hgt, below_setRow hB6 hwt _⟩
                    · rw [← HT.out]; exact hT6.setRow _
                    · have R := own_setRow hown6 tb (cellsN .u8 16 (dblT T)) (own_ne hown6 hT6 (by decide))
                      rw [e16] at R
                      exact R
                  case measure => simp [intOf]; omega
        · obtain rfl : m = M := by omega
          have j1 : ¬ ((16 * m : Nat) : Int) < (N : Int) := by omega
          obtain ⟨g, c, rfl, hc1, hg1, hcell1, _, _⟩ := own_rowX hown (by omega)
          clear hNM
          go_wp2
          go_ret2
          refine ⟨g, ⟨c, ?_⟩, .inr ⟨g, 0, rfl, hg1, fun j hj => by rw [Nat.zero_add]; exact hcell1 j (by have := HNM.out; omega)⟩, hbel⟩
          rw [HNM.out]
          rfl
end Go.Proofs.Ytcnlegnfecpdnaa
