/- XtsPrefix, walked. -/
import Derived.Test.YtcnlegnfecpdnaaXtsLaw
import Derived.Test.YtcnlegnfecpdnaaXtsOpen
namespace Go.Proofs.Ytcnlegnfecpdnaa
open Go.ChangeShapes Go.WideShapes Go.ChangeAt Go.RowKit
set_option linter.unusedVariables false

theorem i64_boundsX {n : Int} (h : (Lit.int .i64 n).wf = true) : -9223372036854775808 ≤ n ∧ n ≤ 9223372036854775807 := by
  simp [Lit.wf, IntKind.min, IntKind.max, IntKind.signed, IntKind.bits] at h
  omega

theorem sfield0 (g : Nat) (w : World) : (Instr.fieldAt 47 (.pointer (some ⟨g, 0, none⟩)) 0).run Try.prog w = .ok (.pointer (some ⟨g, 0, none⟩)) w := by
  simp [Instr.fieldAt, Instr.sureAddr, run_underlying Try.underlying47, go_sem]
theorem sfield2 (g : Nat) (w : World) : (Instr.fieldAt 47 (.pointer (some ⟨g, 0, none⟩)) 2).run Try.prog w = .ok (.pointer (some ⟨g, 2, none⟩)) w := by
  simp [Instr.fieldAt, Instr.sureAddr, run_underlying Try.underlying47, go_sem]

theorem run_load_u64 {o : Oper} {a : Act} (x : Operand) (ho : o.op = .load 34 x) (p : Addr) (hx : a.eval x = .pointer (some p)) (v : Value) (w : World) (h : w.cell? p = some v) : (execOp a.eval o).run Try.prog w = .ok (.value v) w := by
  unfold execOp
  simp only [ho, hx]
  go_simp

theorem run_16mul {o : Oper} {a : Act} (x : Operand) (ho : o.op = .binOp .mul 3 (.const (.int .i64 16)) x 3) (k : Nat) (hx : a.eval x = .int .i64 (k : Nat)) (h : k ≤ 1000) (w : World) :
    (execOp a.eval o).run Try.prog w = .ok (.value (.int .i64 ((16 * k : Nat) : Int))) w := by
  have h1 : (k : Int) ≤ 1000 := by omega
  have h0 : (0 : Int) ≤ (k : Int) := by omega
  have hw : IntKind.i64.wrap (16 * (k : Int)) = 16 * (k : Int) := by rw [IntKind.wrap_i64]; omega
  unfold execOp
  simp only [ho, hx]
  go_simp

theorem run_eq_nat {o : Oper} {a : Act} (x y : Operand) (ho : o.op = .binOp .eql 3 x y 3) (p q : Nat) (hx : a.eval x = .int .i64 (p : Nat)) (hy : a.eval y = .int .i64 (q : Nat)) (h : p = q) (w : World) : (execOp a.eval o).run Try.prog w = .ok (.value (.bool true)) w := by
  subst h
  unfold execOp
  simp only [ho, hx, hy]
  go_simp

theorem Bytes.take {w : World} {a : Option Addr} {len m : Nat} {D : Nat → Nat} (h : Bytes w a len D) (hm : m ≤ len) : Bytes w a m D := by
  rcases h with h | ⟨b, off, h1, h2, h3⟩
  · exact .inl (by omega)
  · exact .inr ⟨b, off, h1, h2, fun j hj => h3 j (by omega)⟩

/-- What At comes to. -/
def atN (x : Int) : Nat := if x < 0 then (-(x + 1)).toNat else x.toNat

set_option maxRecDepth 100000 in
theorem xpre_long (f h : Nat → Nat) (s x : Int) (a : Option Addr) (len cap : Nat) (w : World) (hl : 256 < len ∨ len < 16) (hl2 : len ≤ 140737488351232) :
    Calls Try.prog 8 #[.agg (cellsN .u8 32 f), .slice a len cap, .agg (spotCells s x h)] w fun e w' => e = .returned (.bool true) ∧ Below w.heap.size w w' := by
  have hB0 : Below w.heap.size w ((w.alloc (.cells (cellsN .u8 32 f) 43)).alloc (.cells (spotCells s x h) 47)) := two_below _ _ _
  rcases hl with h1 | h1
  · have i1 : (256 : Int) < (len : Int) := by omega
    go_enter Try.func8, Try.ntmps8
    go_wp2_with (go_at_call 17; refine (xalive_any _).mono ?_; rintro e w2 ⟨rfl, hb2⟩; have hB2 := hB0.trans (hb2.mono hB0.size))
    go_ret
    exact ⟨rfl, hB2⟩
  · have i1 : ¬ (256 : Int) < (len : Int) := by omega
    have i2 : (len : Int) / 16 = 0 := by omega
    go_enter Try.func8, Try.ntmps8
    go_wp2_with (go_at_call 17; refine (xalive_any _).mono ?_; rintro e w2 ⟨rfl, hb2⟩; have hB2 := hB0.trans (hb2.mono hB0.size))
    go_ret
    exact ⟨rfl, hB2⟩

set_option maxRecDepth 100000 in
set_option maxHeartbeats 3200000 in
theorem xpre_neg (f h : Nat → Nat) (s : Nat) (x : Int) (b o len n r cap : Nat) (D : Nat → Nat) (w : World) (hf : ∀ j, f j < 256) (hs : s < 18446744073709551616) (hx : -9223372036854775808 ≤ x ∧ x ≤ 9223372036854775807) (hD : ∀ j, D j < 256) (hlen : len ≤ 256) (hn : n = len / 16) (hn1 : 1 ≤ n) (hr : r = atN x % n) (hcap : len ≤ cap) (hcap2 : cap ≤ 140737488351232) (hb : Bytes w (some ⟨b, o, none⟩) len D) (hneg : x < 0) :
    Calls Try.prog 8 #[.agg (cellsN .u8 32 f), .slice (some ⟨b, o, none⟩) len cap, .agg (spotCells (s : Nat) x h)] w fun e w' => e = .returned (.bool true) ∧ Below w.heap.size w w' := by
  have hr1 : r < n := by rw [hr]; exact Nat.mod_lt _ (by omega)
  have i1 : ¬ (256 : Int) < (len : Int) := by omega
  have i2 : (len : Int) / 16 = (n : Int) := by omega
  have i3 : ¬ (n : Int) = 0 := by omega
  have i4 : ((n : Int) == 0) = false := by simp; omega
  have i5 : (n : Int) ≤ 16 := by omega
  have i6 : (1 : Int) ≤ (n : Int) := by omega
  have i7 : -((x + 1).tmod (n : Int)) = (r : Int) := by
    have e : (-(x + 1)) = (atN x : Int) := by unfold atN; rw [if_pos hneg]; omega
    rw [← Int.neg_tmod]
    rw [e, hr, Int.tmod_eq_emod_of_nonneg (by omega)]
    omega
  have i8 : (r : Int) < (n : Int) := by omega
  have i9 : (0 : Int) ≤ (r : Int) := by omega
  have HNL : Hid (n = len / 16) := hn
  clear hn hr
  obtain ⟨w0, hw0⟩ : ∃ x', x' = (w.alloc (.cells (cellsN .u8 32 f) 43)).alloc (.cells (spotCells (s : Nat) x h) 47) := ⟨_, rfl⟩
  have hB0 : Below w.heap.size w w0 := by rw [hw0]; exact two_below _ _ _
  have hF0 : Has w0 w.heap.size 43 (cellsN .u8 32 f) := by rw [hw0]; exact (Has.new _ _ _).alloc _
  have hS0 : Has w0 (w.heap.size + 1) 47 (spotCells (s : Nat) x h) := by rw [hw0]; exact Has.new_at (by simp)
  go_enter Try.func8, Try.ntmps8
  rw [hw0] at hF0 hS0 hB0
  go_wp2_with (first
    | (refine wpList_load_row rfl 43 _ rfl w.heap.size rfl 43 (cellsN .u8 32 f) (0, 0) _ hF0 Try.underlying43 rfl (by rw [cellsN_size]; exact Try.size32) ?_)
    | (go_at_call 24; refine (key_any f _ hf).mono ?_; rintro e w1 ⟨q1, c1, rfl, hc1, hq1, hk1, hb1⟩; have hB1 := hB0.trans (hb1.mono hB0.size); have hS1 := hS0.below hb1 hS0.lt)
    | (go_at_call 18; refine (new_law f hf _ _ _ hc1 hk1).mono ?_; rintro e w2 ⟨g, gk, gl, rfl, hC2, hb2⟩; have hB2 := hB1.trans (hb2.mono hB1.size); have hS2 := hS1.below hb2 hS1.lt; have hx1 : w2.cell? ⟨w.heap.size + 1, 1, none⟩ = some (.int .i64 x) := (by rw [hS2.cell, spot_1])))
  obtain ⟨k, hk⟩ : ∃ k, k = 16 * (1 + r) := ⟨_, rfl⟩
  obtain ⟨N, hN⟩ : ∃ N, N = 16 * n := ⟨_, rfl⟩
  rw [show (16 * (1 + (r : Int)) : Int) = ((k : Nat) : Int) by rw [hk]; omega]
  have HN16 : Hid (N = 16 * n) := hN
  have hNL := HNL.out
  have g1 : N ≤ len := by omega
  have g2 : k ≤ N := by omega
  have g3 : 0 < k := by omega
  have g4 : k % 16 = 0 := by omega
  have g5 : N % 16 = 0 := by omega
  have g6 : n ≤ 16 := by omega
  have hDP := sealF_lt f hf s D hD
  have hDR := openF_lt f hf s D hD
  have HSN : Hid (∀ wz, Below w.heap.size w wz → XK wz g gk gl f → Calls Try.prog 20 #[.pointer (some ⟨g, 0, none⟩), .int .u64 (s : Nat), .slice (some ⟨b, o, none⟩) N cap] wz fun e w' => ∃ q, e = .returned (.tuple #[.slice (some ⟨q, 0, none⟩) N N, .int .i64 0]) ∧ wz.heap.size ≤ q ∧ Has w' q 5 (cellsN .u8 N (sealF f s D)) ∧ Below wz.heap.size wz w') :=
    fun wz h hC => seal_law f hf g gk gl s b o cap N D wz hs hD (by omega) g5 (by omega) (by omega) hcap2 hC ((hb.take (by omega)).below h (Nat.le_refl _))
  have HSK : Hid (∀ wz, Below w.heap.size w wz → XK wz g gk gl f → Calls Try.prog 20 #[.pointer (some ⟨g, 0, none⟩), .int .u64 (s : Nat), .slice (some ⟨b, o, none⟩) k cap] wz fun e w' => ∃ q, e = .returned (.tuple #[.slice (some ⟨q, 0, none⟩) k k, .int .i64 0]) ∧ wz.heap.size ≤ q ∧ Has w' q 5 (cellsN .u8 k (sealF f s D)) ∧ Below wz.heap.size wz w') :=
    fun wz h hC => seal_law f hf g gk gl s b o cap k D wz hs hD (by omega) g4 (by omega) (by omega) hcap2 hC ((hb.take (by omega)).below h (Nat.le_refl _))
  have HON : Hid (∀ wz, Below w.heap.size w wz → XK wz g gk gl f → Calls Try.prog 22 #[.pointer (some ⟨g, 0, none⟩), .int .u64 (s : Nat), .slice (some ⟨b, o, none⟩) N cap] wz fun e w' => ∃ q, e = .returned (.tuple #[.slice (some ⟨q, 0, none⟩) N N, .int .i64 0]) ∧ wz.heap.size ≤ q ∧ Has w' q 5 (cellsN .u8 N (openF f s D)) ∧ Below wz.heap.size wz w') :=
    fun wz h hC => open_law f hf g gk gl s b o cap N D wz hs hD (by omega) g5 (by omega) (by omega) hcap2 hC ((hb.take (by omega)).below h (Nat.le_refl _))
  have HOK : Hid (∀ wz, Below w.heap.size w wz → XK wz g gk gl f → Calls Try.prog 22 #[.pointer (some ⟨g, 0, none⟩), .int .u64 (s : Nat), .slice (some ⟨b, o, none⟩) k cap] wz fun e w' => ∃ q, e = .returned (.tuple #[.slice (some ⟨q, 0, none⟩) k k, .int .i64 0]) ∧ wz.heap.size ≤ q ∧ Has w' q 5 (cellsN .u8 k (openF f s D)) ∧ Below wz.heap.size wz w') :=
    fun wz h hC => open_law f hf g gk gl s b o cap k D wz hs hD (by omega) g4 (by omega) (by omega) hcap2 hC ((hb.take (by omega)).below h (Nat.le_refl _))
  obtain ⟨P, hPe⟩ : ∃ P, P = sealF f s D := ⟨_, rfl⟩
  obtain ⟨R, hRe⟩ : ∃ R, R = openF f s D := ⟨_, rfl⟩
  rw [← hPe] at HSN HSK hDP
  rw [← hRe] at HON HOK hDR
  clear hPe hRe hk hN hNL HNL i1 i2 i3 i4 i5 i6 i7 i8 i9 hx1 hb hD
  have hc3 : w2.drew.cell? ⟨w.heap.size + 1, 0, none⟩ = some (.int .u64 (s : Nat)) := by show w2.cell? ⟨w.heap.size + 1, 0, none⟩ = _; rw [hS2.cell, spot_0]
  have hBd3 : Below w.heap.size w w2.drew := hB2.drew
  have hCd3 : XK w2.drew g gk gl f := hC2
  refine wp_region_held_drew (S := fun wz => wz.cell? ⟨w.heap.size + 1, 0, none⟩ = some (.int .u64 (s : Nat))) (by kernel_rfl) hc3 (fun hHeld => ?_)
  refine takeTo 0 (some 56) (.pointer (some ⟨g, 0, none⟩)) rfl rfl (by kernel_rfl) (by kernel_rfl) (by kernel_rfl) (fun _ _ _ h => h) (by rfl) (fun _ _ => rfl) hHeld ?_
  simp only [Act.put, List.setIfInBounds_toArray, List.set_cons_zero, List.set_cons_succ]
  refine takeTo 1 (some 57) (.pointer (some ⟨w.heap.size + 1, 0, none⟩)) rfl rfl (by kernel_rfl) (by kernel_rfl) (by kernel_rfl) (fun _ _ _ h => h) (by rfl) (fun wz _ => run_fieldAddr 47 _ 0 rfl (.pointer (some ⟨w.heap.size + 1, 0, none⟩)) (.pointer (some ⟨w.heap.size + 1, 0, none⟩)) rfl (sfield0 _) wz) hHeld ?_
  simp only [Act.put, List.setIfInBounds_toArray, List.set_cons_zero, List.set_cons_succ]
  refine takeTo 2 (some 58) (.int .u64 (s : Nat)) rfl rfl (by kernel_rfl) (by kernel_rfl) (by kernel_rfl) (fun _ _ _ h => h) (by rfl) (fun wz hz => run_load_u64 _ rfl ⟨w.heap.size + 1, 0, none⟩ rfl _ wz hz) hHeld ?_
  simp only [Act.put, List.setIfInBounds_toArray, List.set_cons_zero, List.set_cons_succ]
  refine takeTo 3 (some 59) (.slice (some ⟨b, o, none⟩) len cap) rfl rfl (by kernel_rfl) (by kernel_rfl) (by kernel_rfl) (fun _ _ _ h => h) (by rfl) (fun _ _ => rfl) hHeld ?_
  simp only [Act.put, List.setIfInBounds_toArray, List.set_cons_zero, List.set_cons_succ]
  refine takeTo 4 (some 60) (.int .i64 (n : Nat)) rfl rfl (by kernel_rfl) (by kernel_rfl) (by kernel_rfl) (fun _ _ _ h => h) (by rfl) (fun _ _ => rfl) hHeld ?_
  simp only [Act.put, List.setIfInBounds_toArray, List.set_cons_zero, List.set_cons_succ]
  refine takeTo 5 (some 61) (.int .i64 (N : Nat)) rfl rfl (by kernel_rfl) (by kernel_rfl) (by kernel_rfl) (fun _ _ _ h => h) (by rfl) (fun wz _ => by rw [HN16.out]; exact run_16mul _ rfl n rfl (by omega) wz) hHeld ?_
  simp only [Act.put, List.setIfInBounds_toArray, List.set_cons_zero, List.set_cons_succ]
  refine takeTo 6 (some 62) (.slice (some ⟨b, o, none⟩) N cap) rfl rfl (by kernel_rfl) (by kernel_rfl) (by kernel_rfl) (fun _ _ _ h => h) (by rfl) (fun wz _ => run_slice_hiX _ _ rfl b o len cap N rfl rfl (by omega) (by omega) wz) hHeld ?_
  simp only [Act.put, List.setIfInBounds_toArray, List.set_cons_zero, List.set_cons_succ]
  refine callTo 7 (some 63) 20 #[.pointer (some ⟨g, 0, none⟩), .int .u64 (s : Nat), .slice (some ⟨b, o, none⟩) N cap] (by kernel_rfl) rfl rfl (by rfl) (by kernel_rfl) (HSN.out _ hBd3 hCd3) ?_
  rintro e w3 ⟨q3, rfl, hq3, hD3, hb3⟩
  have hB3 := hBd3.trans (hb3.mono hBd3.size)
  have hC3 := hCd3.below hb3 (Nat.le_refl _)
  have hS3 : Has w3 (w.heap.size + 1) 47 (spotCells (s : Nat) x h) := Has.below (w := w2.drew) hS2 hb3 (Has.lt (w := w2.drew) hS2)
  have hHeld : w3.cell? ⟨w.heap.size + 1, 0, none⟩ = some (.int .u64 (s : Nat)) := by rw [hS3.cell, spot_0]
  refine ⟨_, rfl, hHeld, ?_⟩
  simp only [Act.put, List.setIfInBounds_toArray, List.set_cons_zero, List.set_cons_succ]
  refine takeTo 8 (some 55) (.tuple #[.slice (some ⟨q3, 0, none⟩) N N, .int .i64 0]) rfl rfl (by kernel_rfl) (by kernel_rfl) (by kernel_rfl) (fun _ _ _ h => h) (by rfl) (fun _ _ => rfl) hHeld ?_
  simp only [Act.put, List.setIfInBounds_toArray, List.set_cons_zero, List.set_cons_succ]
  refine takeTo 9 (some 64) (.slice (some ⟨q3, 0, none⟩) N N) rfl rfl (by kernel_rfl) (by kernel_rfl) (by kernel_rfl) (fun _ _ _ h => h) (by rfl) (fun _ _ => rfl) hHeld ?_
  simp only [Act.put, List.setIfInBounds_toArray, List.set_cons_zero, List.set_cons_succ]
  refine takeTo 10 (some 65) (.int .i64 0) rfl rfl (by kernel_rfl) (by kernel_rfl) (by kernel_rfl) (fun _ _ _ h => h) (by rfl) (fun _ _ => rfl) hHeld ?_
  simp only [Act.put, List.setIfInBounds_toArray, List.set_cons_zero, List.set_cons_succ]
  refine takeTo 11 (some 12) (.slice (some ⟨q3, 0, none⟩) N N) rfl rfl (by kernel_rfl) (by kernel_rfl) (by kernel_rfl) (fun _ _ _ h => h) (by rfl) (fun _ _ => rfl) hHeld ?_
  simp only [Act.put, List.setIfInBounds_toArray, List.set_cons_zero, List.set_cons_succ]
  refine takeTo 12 (some 13) (.int .i64 0) rfl rfl (by kernel_rfl) (by kernel_rfl) (by kernel_rfl) (fun _ _ _ h => h) (by rfl) (fun _ _ => rfl) hHeld ?_
  simp only [Act.put, List.setIfInBounds_toArray, List.set_cons_zero, List.set_cons_succ]
  refine wpAnyH_done (by kernel_rfl) ?_ _
  clear hHeld
  go_wp2
  have hc4 : w3.drew.cell? ⟨w.heap.size + 1, 0, none⟩ = some (.int .u64 (s : Nat)) := by show w3.cell? ⟨w.heap.size + 1, 0, none⟩ = _; rw [hS3.cell, spot_0]
  have hBd4 : Below w.heap.size w w3.drew := hB3.drew
  have hCd4 : XK w3.drew g gk gl f := hC3
  refine wp_region_held_drew (S := fun wz => wz.cell? ⟨w.heap.size + 1, 0, none⟩ = some (.int .u64 (s : Nat))) (by kernel_rfl) hc4 (fun hHeld => ?_)
  refine takeTo 0 (some 67) (.pointer (some ⟨g, 0, none⟩)) rfl rfl (by kernel_rfl) (by kernel_rfl) (by kernel_rfl) (fun _ _ _ h => h) (by rfl) (fun _ _ => rfl) hHeld ?_
  simp only [Act.put, List.setIfInBounds_toArray, List.set_cons_zero, List.set_cons_succ]
  refine takeTo 1 (some 68) (.pointer (some ⟨w.heap.size + 1, 0, none⟩)) rfl rfl (by kernel_rfl) (by kernel_rfl) (by kernel_rfl) (fun _ _ _ h => h) (by rfl) (fun wz _ => run_fieldAddr 47 _ 0 rfl (.pointer (some ⟨w.heap.size + 1, 0, none⟩)) (.pointer (some ⟨w.heap.size + 1, 0, none⟩)) rfl (sfield0 _) wz) hHeld ?_
  simp only [Act.put, List.setIfInBounds_toArray, List.set_cons_zero, List.set_cons_succ]
  refine takeTo 2 (some 69) (.int .u64 (s : Nat)) rfl rfl (by kernel_rfl) (by kernel_rfl) (by kernel_rfl) (fun _ _ _ h => h) (by rfl) (fun wz hz => run_load_u64 _ rfl ⟨w.heap.size + 1, 0, none⟩ rfl _ wz hz) hHeld ?_
  simp only [Act.put, List.setIfInBounds_toArray, List.set_cons_zero, List.set_cons_succ]
  refine takeTo 3 (some 70) (.slice (some ⟨b, o, none⟩) len cap) rfl rfl (by kernel_rfl) (by kernel_rfl) (by kernel_rfl) (fun _ _ _ h => h) (by rfl) (fun _ _ => rfl) hHeld ?_
  simp only [Act.put, List.setIfInBounds_toArray, List.set_cons_zero, List.set_cons_succ]
  refine takeTo 4 (some 71) (.int .i64 (k : Nat)) rfl rfl (by kernel_rfl) (by kernel_rfl) (by kernel_rfl) (fun _ _ _ h => h) (by rfl) (fun _ _ => rfl) hHeld ?_
  simp only [Act.put, List.setIfInBounds_toArray, List.set_cons_zero, List.set_cons_succ]
  refine takeTo 5 (some 72) (.slice (some ⟨b, o, none⟩) k cap) rfl rfl (by kernel_rfl) (by kernel_rfl) (by kernel_rfl) (fun _ _ _ h => h) (by rfl) (fun wz _ => run_slice_hiX _ _ rfl b o len cap k rfl rfl (by omega) (by omega) wz) hHeld ?_
  simp only [Act.put, List.setIfInBounds_toArray, List.set_cons_zero, List.set_cons_succ]
  refine callTo 6 (some 73) 20 #[.pointer (some ⟨g, 0, none⟩), .int .u64 (s : Nat), .slice (some ⟨b, o, none⟩) k cap] (by kernel_rfl) rfl rfl (by rfl) (by kernel_rfl) (HSK.out _ hBd4 hCd4) ?_
  rintro e w4 ⟨q4, rfl, hq4, hD4, hb4⟩
  have hB4 := hBd4.trans (hb4.mono hBd4.size)
  have hC4 := hCd4.below hb4 (Nat.le_refl _)
  have hS4 : Has w4 (w.heap.size + 1) 47 (spotCells (s : Nat) x h) := Has.below (w := w3.drew) hS3 hb4 (Has.lt (w := w3.drew) hS3)
  have hHeld : w4.cell? ⟨w.heap.size + 1, 0, none⟩ = some (.int .u64 (s : Nat)) := by rw [hS4.cell, spot_0]
  have hD3x := Has.below (w := w3.drew) hD3 hb4 (Has.lt (w := w3.drew) hD3)
  clear hD3
  have hD3 := hD3x
  clear hD3x
  refine ⟨_, rfl, hHeld, ?_⟩
  simp only [Act.put, List.setIfInBounds_toArray, List.set_cons_zero, List.set_cons_succ]
  refine takeTo 7 (some 66) (.tuple #[.slice (some ⟨q4, 0, none⟩) k k, .int .i64 0]) rfl rfl (by kernel_rfl) (by kernel_rfl) (by kernel_rfl) (fun _ _ _ h => h) (by rfl) (fun _ _ => rfl) hHeld ?_
  simp only [Act.put, List.setIfInBounds_toArray, List.set_cons_zero, List.set_cons_succ]
  refine takeTo 8 (some 74) (.slice (some ⟨q4, 0, none⟩) k k) rfl rfl (by kernel_rfl) (by kernel_rfl) (by kernel_rfl) (fun _ _ _ h => h) (by rfl) (fun _ _ => rfl) hHeld ?_
  simp only [Act.put, List.setIfInBounds_toArray, List.set_cons_zero, List.set_cons_succ]
  refine takeTo 9 (some 75) (.int .i64 0) rfl rfl (by kernel_rfl) (by kernel_rfl) (by kernel_rfl) (fun _ _ _ h => h) (by rfl) (fun _ _ => rfl) hHeld ?_
  simp only [Act.put, List.setIfInBounds_toArray, List.set_cons_zero, List.set_cons_succ]
  refine takeTo 10 (some 14) (.slice (some ⟨q4, 0, none⟩) k k) rfl rfl (by kernel_rfl) (by kernel_rfl) (by kernel_rfl) (fun _ _ _ h => h) (by rfl) (fun _ _ => rfl) hHeld ?_
  simp only [Act.put, List.setIfInBounds_toArray, List.set_cons_zero, List.set_cons_succ]
  refine takeTo 11 (some 15) (.int .i64 0) rfl rfl (by kernel_rfl) (by kernel_rfl) (by kernel_rfl) (fun _ _ _ h => h) (by rfl) (fun _ _ => rfl) hHeld ?_
  simp only [Act.put, List.setIfInBounds_toArray, List.set_cons_zero, List.set_cons_succ]
  refine wpAnyH_done (by kernel_rfl) ?_ _
  clear hHeld
  go_wp2
  have hc5 : w4.drew.cell? ⟨w.heap.size + 1, 0, none⟩ = some (.int .u64 (s : Nat)) := by show w4.cell? ⟨w.heap.size + 1, 0, none⟩ = _; rw [hS4.cell, spot_0]
  have hBd5 : Below w.heap.size w w4.drew := hB4.drew
  have hCd5 : XK w4.drew g gk gl f := hC4
  refine wp_region_held_drew (S := fun wz => wz.cell? ⟨w.heap.size + 1, 0, none⟩ = some (.int .u64 (s : Nat))) (by kernel_rfl) hc5 (fun hHeld => ?_)
  refine takeTo 0 (some 77) (.pointer (some ⟨g, 0, none⟩)) rfl rfl (by kernel_rfl) (by kernel_rfl) (by kernel_rfl) (fun _ _ _ h => h) (by rfl) (fun _ _ => rfl) hHeld ?_
  simp only [Act.put, List.setIfInBounds_toArray, List.set_cons_zero, List.set_cons_succ]
  refine takeTo 1 (some 78) (.pointer (some ⟨w.heap.size + 1, 0, none⟩)) rfl rfl (by kernel_rfl) (by kernel_rfl) (by kernel_rfl) (fun _ _ _ h => h) (by rfl) (fun wz _ => run_fieldAddr 47 _ 0 rfl (.pointer (some ⟨w.heap.size + 1, 0, none⟩)) (.pointer (some ⟨w.heap.size + 1, 0, none⟩)) rfl (sfield0 _) wz) hHeld ?_
  simp only [Act.put, List.setIfInBounds_toArray, List.set_cons_zero, List.set_cons_succ]
  refine takeTo 2 (some 79) (.int .u64 (s : Nat)) rfl rfl (by kernel_rfl) (by kernel_rfl) (by kernel_rfl) (fun _ _ _ h => h) (by rfl) (fun wz hz => run_load_u64 _ rfl ⟨w.heap.size + 1, 0, none⟩ rfl _ wz hz) hHeld ?_
  simp only [Act.put, List.setIfInBounds_toArray, List.set_cons_zero, List.set_cons_succ]
  refine takeTo 3 (some 80) (.slice (some ⟨b, o, none⟩) len cap) rfl rfl (by kernel_rfl) (by kernel_rfl) (by kernel_rfl) (fun _ _ _ h => h) (by rfl) (fun _ _ => rfl) hHeld ?_
  simp only [Act.put, List.setIfInBounds_toArray, List.set_cons_zero, List.set_cons_succ]
  refine takeTo 4 (some 81) (.int .i64 (n : Nat)) rfl rfl (by kernel_rfl) (by kernel_rfl) (by kernel_rfl) (fun _ _ _ h => h) (by rfl) (fun _ _ => rfl) hHeld ?_
  simp only [Act.put, List.setIfInBounds_toArray, List.set_cons_zero, List.set_cons_succ]
  refine takeTo 5 (some 82) (.int .i64 (N : Nat)) rfl rfl (by kernel_rfl) (by kernel_rfl) (by kernel_rfl) (fun _ _ _ h => h) (by rfl) (fun wz _ => by rw [HN16.out]; exact run_16mul _ rfl n rfl (by omega) wz) hHeld ?_
  simp only [Act.put, List.setIfInBounds_toArray, List.set_cons_zero, List.set_cons_succ]
  refine takeTo 6 (some 83) (.slice (some ⟨b, o, none⟩) N cap) rfl rfl (by kernel_rfl) (by kernel_rfl) (by kernel_rfl) (fun _ _ _ h => h) (by rfl) (fun wz _ => run_slice_hiX _ _ rfl b o len cap N rfl rfl (by omega) (by omega) wz) hHeld ?_
  simp only [Act.put, List.setIfInBounds_toArray, List.set_cons_zero, List.set_cons_succ]
  refine callTo 7 (some 84) 22 #[.pointer (some ⟨g, 0, none⟩), .int .u64 (s : Nat), .slice (some ⟨b, o, none⟩) N cap] (by kernel_rfl) rfl rfl (by rfl) (by kernel_rfl) (HON.out _ hBd5 hCd5) ?_
  rintro e w5 ⟨q5, rfl, hq5, hD5, hb5⟩
  have hB5 := hBd5.trans (hb5.mono hBd5.size)
  have hC5 := hCd5.below hb5 (Nat.le_refl _)
  have hS5 : Has w5 (w.heap.size + 1) 47 (spotCells (s : Nat) x h) := Has.below (w := w4.drew) hS4 hb5 (Has.lt (w := w4.drew) hS4)
  have hHeld : w5.cell? ⟨w.heap.size + 1, 0, none⟩ = some (.int .u64 (s : Nat)) := by rw [hS5.cell, spot_0]
  have hD3x := Has.below (w := w4.drew) hD3 hb5 (Has.lt (w := w4.drew) hD3)
  clear hD3
  have hD3 := hD3x
  clear hD3x
  have hD4x := Has.below (w := w4.drew) hD4 hb5 (Has.lt (w := w4.drew) hD4)
  clear hD4
  have hD4 := hD4x
  clear hD4x
  refine ⟨_, rfl, hHeld, ?_⟩
  simp only [Act.put, List.setIfInBounds_toArray, List.set_cons_zero, List.set_cons_succ]
  refine takeTo 8 (some 76) (.tuple #[.slice (some ⟨q5, 0, none⟩) N N, .int .i64 0]) rfl rfl (by kernel_rfl) (by kernel_rfl) (by kernel_rfl) (fun _ _ _ h => h) (by rfl) (fun _ _ => rfl) hHeld ?_
  simp only [Act.put, List.setIfInBounds_toArray, List.set_cons_zero, List.set_cons_succ]
  refine takeTo 9 (some 85) (.slice (some ⟨q5, 0, none⟩) N N) rfl rfl (by kernel_rfl) (by kernel_rfl) (by kernel_rfl) (fun _ _ _ h => h) (by rfl) (fun _ _ => rfl) hHeld ?_
  simp only [Act.put, List.setIfInBounds_toArray, List.set_cons_zero, List.set_cons_succ]
  refine takeTo 10 (some 86) (.int .i64 0) rfl rfl (by kernel_rfl) (by kernel_rfl) (by kernel_rfl) (fun _ _ _ h => h) (by rfl) (fun _ _ => rfl) hHeld ?_
  simp only [Act.put, List.setIfInBounds_toArray, List.set_cons_zero, List.set_cons_succ]
  refine takeTo 11 (some 16) (.slice (some ⟨q5, 0, none⟩) N N) rfl rfl (by kernel_rfl) (by kernel_rfl) (by kernel_rfl) (fun _ _ _ h => h) (by rfl) (fun _ _ => rfl) hHeld ?_
  simp only [Act.put, List.setIfInBounds_toArray, List.set_cons_zero, List.set_cons_succ]
  refine takeTo 12 (some 17) (.int .i64 0) rfl rfl (by kernel_rfl) (by kernel_rfl) (by kernel_rfl) (fun _ _ _ h => h) (by rfl) (fun _ _ => rfl) hHeld ?_
  simp only [Act.put, List.setIfInBounds_toArray, List.set_cons_zero, List.set_cons_succ]
  refine wpAnyH_done (by kernel_rfl) ?_ _
  clear hHeld
  go_wp2
  have hc6 : w5.drew.cell? ⟨w.heap.size + 1, 0, none⟩ = some (.int .u64 (s : Nat)) := by show w5.cell? ⟨w.heap.size + 1, 0, none⟩ = _; rw [hS5.cell, spot_0]
  have hBd6 : Below w.heap.size w w5.drew := hB5.drew
  have hCd6 : XK w5.drew g gk gl f := hC5
  refine wp_region_held_drew (S := fun wz => wz.cell? ⟨w.heap.size + 1, 0, none⟩ = some (.int .u64 (s : Nat))) (by kernel_rfl) hc6 (fun hHeld => ?_)
  refine takeTo 0 (some 88) (.pointer (some ⟨g, 0, none⟩)) rfl rfl (by kernel_rfl) (by kernel_rfl) (by kernel_rfl) (fun _ _ _ h => h) (by rfl) (fun _ _ => rfl) hHeld ?_
  simp only [Act.put, List.setIfInBounds_toArray, List.set_cons_zero, List.set_cons_succ]
  refine takeTo 1 (some 89) (.pointer (some ⟨w.heap.size + 1, 0, none⟩)) rfl rfl (by kernel_rfl) (by kernel_rfl) (by kernel_rfl) (fun _ _ _ h => h) (by rfl) (fun wz _ => run_fieldAddr 47 _ 0 rfl (.pointer (some ⟨w.heap.size + 1, 0, none⟩)) (.pointer (some ⟨w.heap.size + 1, 0, none⟩)) rfl (sfield0 _) wz) hHeld ?_
  simp only [Act.put, List.setIfInBounds_toArray, List.set_cons_zero, List.set_cons_succ]
  refine takeTo 2 (some 90) (.int .u64 (s : Nat)) rfl rfl (by kernel_rfl) (by kernel_rfl) (by kernel_rfl) (fun _ _ _ h => h) (by rfl) (fun wz hz => run_load_u64 _ rfl ⟨w.heap.size + 1, 0, none⟩ rfl _ wz hz) hHeld ?_
  simp only [Act.put, List.setIfInBounds_toArray, List.set_cons_zero, List.set_cons_succ]
  refine takeTo 3 (some 91) (.slice (some ⟨b, o, none⟩) len cap) rfl rfl (by kernel_rfl) (by kernel_rfl) (by kernel_rfl) (fun _ _ _ h => h) (by rfl) (fun _ _ => rfl) hHeld ?_
  simp only [Act.put, List.setIfInBounds_toArray, List.set_cons_zero, List.set_cons_succ]
  refine takeTo 4 (some 92) (.int .i64 (k : Nat)) rfl rfl (by kernel_rfl) (by kernel_rfl) (by kernel_rfl) (fun _ _ _ h => h) (by rfl) (fun _ _ => rfl) hHeld ?_
  simp only [Act.put, List.setIfInBounds_toArray, List.set_cons_zero, List.set_cons_succ]
  refine takeTo 5 (some 93) (.slice (some ⟨b, o, none⟩) k cap) rfl rfl (by kernel_rfl) (by kernel_rfl) (by kernel_rfl) (fun _ _ _ h => h) (by rfl) (fun wz _ => run_slice_hiX _ _ rfl b o len cap k rfl rfl (by omega) (by omega) wz) hHeld ?_
  simp only [Act.put, List.setIfInBounds_toArray, List.set_cons_zero, List.set_cons_succ]
  refine callTo 6 (some 94) 22 #[.pointer (some ⟨g, 0, none⟩), .int .u64 (s : Nat), .slice (some ⟨b, o, none⟩) k cap] (by kernel_rfl) rfl rfl (by rfl) (by kernel_rfl) (HOK.out _ hBd6 hCd6) ?_
  rintro e w6 ⟨q6, rfl, hq6, hD6, hb6⟩
  have hB6 := hBd6.trans (hb6.mono hBd6.size)
  have hC6 := hCd6.below hb6 (Nat.le_refl _)
  have hS6 : Has w6 (w.heap.size + 1) 47 (spotCells (s : Nat) x h) := Has.below (w := w5.drew) hS5 hb6 (Has.lt (w := w5.drew) hS5)
  have hHeld : w6.cell? ⟨w.heap.size + 1, 0, none⟩ = some (.int .u64 (s : Nat)) := by rw [hS6.cell, spot_0]
  have hD3x := Has.below (w := w5.drew) hD3 hb6 (Has.lt (w := w5.drew) hD3)
  clear hD3
  have hD3 := hD3x
  clear hD3x
  have hD4x := Has.below (w := w5.drew) hD4 hb6 (Has.lt (w := w5.drew) hD4)
  clear hD4
  have hD4 := hD4x
  clear hD4x
  have hD5x := Has.below (w := w5.drew) hD5 hb6 (Has.lt (w := w5.drew) hD5)
  clear hD5
  have hD5 := hD5x
  clear hD5x
  refine ⟨_, rfl, hHeld, ?_⟩
  simp only [Act.put, List.setIfInBounds_toArray, List.set_cons_zero, List.set_cons_succ]
  refine takeTo 7 (some 87) (.tuple #[.slice (some ⟨q6, 0, none⟩) k k, .int .i64 0]) rfl rfl (by kernel_rfl) (by kernel_rfl) (by kernel_rfl) (fun _ _ _ h => h) (by rfl) (fun _ _ => rfl) hHeld ?_
  simp only [Act.put, List.setIfInBounds_toArray, List.set_cons_zero, List.set_cons_succ]
  refine takeTo 8 (some 95) (.slice (some ⟨q6, 0, none⟩) k k) rfl rfl (by kernel_rfl) (by kernel_rfl) (by kernel_rfl) (fun _ _ _ h => h) (by rfl) (fun _ _ => rfl) hHeld ?_
  simp only [Act.put, List.setIfInBounds_toArray, List.set_cons_zero, List.set_cons_succ]
  refine takeTo 9 (some 96) (.int .i64 0) rfl rfl (by kernel_rfl) (by kernel_rfl) (by kernel_rfl) (fun _ _ _ h => h) (by rfl) (fun _ _ => rfl) hHeld ?_
  simp only [Act.put, List.setIfInBounds_toArray, List.set_cons_zero, List.set_cons_succ]
  refine takeTo 10 (some 18) (.slice (some ⟨q6, 0, none⟩) k k) rfl rfl (by kernel_rfl) (by kernel_rfl) (by kernel_rfl) (fun _ _ _ h => h) (by rfl) (fun _ _ => rfl) hHeld ?_
  simp only [Act.put, List.setIfInBounds_toArray, List.set_cons_zero, List.set_cons_succ]
  refine takeTo 11 (some 19) (.int .i64 0) rfl rfl (by kernel_rfl) (by kernel_rfl) (by kernel_rfl) (fun _ _ _ h => h) (by rfl) (fun _ _ => rfl) hHeld ?_
  simp only [Act.put, List.setIfInBounds_toArray, List.set_cons_zero, List.set_cons_succ]
  refine wpAnyH_done (by kernel_rfl) ?_ _
  clear hHeld
  go_wp2
  have hAll : Has w6.drew q3 5 (cellsN .u8 N P) ∧ Has w6.drew q4 5 (cellsN .u8 k P) ∧ Has w6.drew q5 5 (cellsN .u8 N R) ∧ Has w6.drew q6 5 (cellsN .u8 k R) := ⟨hD3, hD4, hD5, hD6⟩
  refine wp_region_held_drew (S := fun wz => Has wz q3 5 (cellsN .u8 N P) ∧ Has wz q4 5 (cellsN .u8 k P) ∧ Has wz q5 5 (cellsN .u8 N R) ∧ Has wz q6 5 (cellsN .u8 k R)) (by kernel_rfl) hAll (fun hHeld => ?_)
  refine callTo 0 (some 97) 17 #[] (by kernel_rfl) rfl rfl (by rfl) (by kernel_rfl) (xalive_any _) ?_
  rintro e w7 ⟨rfl, hb7⟩
  have hHeld : Has w7 q3 5 (cellsN .u8 N P) ∧ Has w7 q4 5 (cellsN .u8 k P) ∧ Has w7 q5 5 (cellsN .u8 N R) ∧ Has w7 q6 5 (cellsN .u8 k R) := ⟨hHeld.1.below hb7 hHeld.1.lt, hHeld.2.1.below hb7 hHeld.2.1.lt, hHeld.2.2.1.below hb7 hHeld.2.2.1.lt, hHeld.2.2.2.below hb7 hHeld.2.2.2.lt⟩
  have hB7 : Below w.heap.size w w7 := hB6.drew.trans (hb7.mono hB6.size)
  refine ⟨_, rfl, hHeld, ?_⟩
  simp only [Act.put, List.setIfInBounds_toArray, List.set_cons_zero, List.set_cons_succ]
  refine takeTo 1 (some 98) (.bool true) rfl rfl (by kernel_rfl) (by kernel_rfl) (by kernel_rfl) (fun _ _ _ h => h) (by rfl) (fun _ _ => rfl) hHeld ?_
  simp only [Act.put, List.setIfInBounds_toArray, List.set_cons_zero, List.set_cons_succ]
  refine takeTo 2 (some 99) (.slice (some ⟨q3, 0, none⟩) N N) rfl rfl (by kernel_rfl) (by kernel_rfl) (by kernel_rfl) (fun _ _ _ h => h) (by rfl) (fun _ _ => rfl) hHeld ?_
  simp only [Act.put, List.setIfInBounds_toArray, List.set_cons_zero, List.set_cons_succ]
  refine takeTo 3 (some 100) (.int .i64 (N : Nat)) rfl rfl (by kernel_rfl) (by kernel_rfl) (by kernel_rfl) (fun _ _ _ h => h) (by rfl) (fun wz _ => run_len _ rfl _ N N rfl (by omega) wz) hHeld ?_
  simp only [Act.put, List.setIfInBounds_toArray, List.set_cons_zero, List.set_cons_succ]
  refine takeTo 4 (some 101) (.int .i64 (n : Nat)) rfl rfl (by kernel_rfl) (by kernel_rfl) (by kernel_rfl) (fun _ _ _ h => h) (by rfl) (fun _ _ => rfl) hHeld ?_
  simp only [Act.put, List.setIfInBounds_toArray, List.set_cons_zero, List.set_cons_succ]
  refine takeTo 5 (some 102) (.int .i64 (N : Nat)) rfl rfl (by kernel_rfl) (by kernel_rfl) (by kernel_rfl) (fun _ _ _ h => h) (by rfl) (fun wz _ => by rw [HN16.out]; exact run_16mul _ rfl n rfl (by omega) wz) hHeld ?_
  simp only [Act.put, List.setIfInBounds_toArray, List.set_cons_zero, List.set_cons_succ]
  refine takeTo 6 (some 103) (.bool true) rfl rfl (by kernel_rfl) (by kernel_rfl) (by kernel_rfl) (fun _ _ _ h => h) (by rfl) (fun wz _ => run_eq_nat _ _ rfl N N rfl rfl rfl wz) hHeld ?_
  simp only [Act.put, List.setIfInBounds_toArray, List.set_cons_zero, List.set_cons_succ]
  refine takeTo 7 (some 104) (.bool true) rfl rfl (by kernel_rfl) (by kernel_rfl) (by kernel_rfl) (fun _ _ _ h => h) (by rfl) (fun _ _ => rfl) hHeld ?_
  simp only [Act.put, List.setIfInBounds_toArray, List.set_cons_zero, List.set_cons_succ]
  refine takeTo 8 (some 105) (.bool true) rfl rfl (by kernel_rfl) (by kernel_rfl) (by kernel_rfl) (fun _ _ _ h => h) (by rfl) (fun _ _ => rfl) hHeld ?_
  simp only [Act.put, List.setIfInBounds_toArray, List.set_cons_zero, List.set_cons_succ]
  refine takeTo 9 (some 106) (.slice (some ⟨q5, 0, none⟩) N N) rfl rfl (by kernel_rfl) (by kernel_rfl) (by kernel_rfl) (fun _ _ _ h => h) (by rfl) (fun _ _ => rfl) hHeld ?_
  simp only [Act.put, List.setIfInBounds_toArray, List.set_cons_zero, List.set_cons_succ]
  refine takeTo 10 (some 107) (.int .i64 (N : Nat)) rfl rfl (by kernel_rfl) (by kernel_rfl) (by kernel_rfl) (fun _ _ _ h => h) (by rfl) (fun wz _ => run_len _ rfl _ N N rfl (by omega) wz) hHeld ?_
  simp only [Act.put, List.setIfInBounds_toArray, List.set_cons_zero, List.set_cons_succ]
  refine takeTo 11 (some 108) (.int .i64 (n : Nat)) rfl rfl (by kernel_rfl) (by kernel_rfl) (by kernel_rfl) (fun _ _ _ h => h) (by rfl) (fun _ _ => rfl) hHeld ?_
  simp only [Act.put, List.setIfInBounds_toArray, List.set_cons_zero, List.set_cons_succ]
  refine takeTo 12 (some 109) (.int .i64 (N : Nat)) rfl rfl (by kernel_rfl) (by kernel_rfl) (by kernel_rfl) (fun _ _ _ h => h) (by rfl) (fun wz _ => by rw [HN16.out]; exact run_16mul _ rfl n rfl (by omega) wz) hHeld ?_
  simp only [Act.put, List.setIfInBounds_toArray, List.set_cons_zero, List.set_cons_succ]
  refine takeTo 13 (some 110) (.bool true) rfl rfl (by kernel_rfl) (by kernel_rfl) (by kernel_rfl) (fun _ _ _ h => h) (by rfl) (fun wz _ => run_eq_nat _ _ rfl N N rfl rfl rfl wz) hHeld ?_
  simp only [Act.put, List.setIfInBounds_toArray, List.set_cons_zero, List.set_cons_succ]
  refine takeTo 14 (some 111) (.bool true) rfl rfl (by kernel_rfl) (by kernel_rfl) (by kernel_rfl) (fun _ _ _ h => h) (by rfl) (fun _ _ => rfl) hHeld ?_
  simp only [Act.put, List.setIfInBounds_toArray, List.set_cons_zero, List.set_cons_succ]
  refine takeTo 15 (some 112) (.bool true) rfl rfl (by kernel_rfl) (by kernel_rfl) (by kernel_rfl) (fun _ _ _ h => h) (by rfl) (fun _ _ => rfl) hHeld ?_
  simp only [Act.put, List.setIfInBounds_toArray, List.set_cons_zero, List.set_cons_succ]
  refine takeTo 16 (some 113) (.slice (some ⟨q3, 0, none⟩) N N) rfl rfl (by kernel_rfl) (by kernel_rfl) (by kernel_rfl) (fun _ _ _ h => h) (by rfl) (fun _ _ => rfl) hHeld ?_
  simp only [Act.put, List.setIfInBounds_toArray, List.set_cons_zero, List.set_cons_succ]
  refine takeTo 17 (some 114) (.int .i64 (k : Nat)) rfl rfl (by kernel_rfl) (by kernel_rfl) (by kernel_rfl) (fun _ _ _ h => h) (by rfl) (fun _ _ => rfl) hHeld ?_
  simp only [Act.put, List.setIfInBounds_toArray, List.set_cons_zero, List.set_cons_succ]
  refine takeTo 18 (some 115) (.slice (some ⟨q3, 0, none⟩) k N) rfl rfl (by kernel_rfl) (by kernel_rfl) (by kernel_rfl) (fun _ _ _ h => h) (by rfl) (fun wz _ => run_slice_hiX _ _ rfl q3 0 N N k rfl rfl (by omega) (by omega) wz) hHeld ?_
  simp only [Act.put, List.setIfInBounds_toArray, List.set_cons_zero, List.set_cons_succ]
  refine takeTo 19 (some 116) (.string ⟨(strN P k).toArray⟩) rfl rfl (by kernel_rfl) (by kernel_rfl) (by kernel_rfl) (fun _ _ _ h => h) (by rfl) (fun wz hz => run_conv_str _ rfl (.slice (some ⟨q3, 0, none⟩) k N) rfl _ wz (conv_bytesN N (has_bytes hz.1 k g2) hDP (fun e => by cases e))) hHeld ?_
  simp only [Act.put, List.setIfInBounds_toArray, List.set_cons_zero, List.set_cons_succ]
  refine takeTo 20 (some 117) (.slice (some ⟨q4, 0, none⟩) k k) rfl rfl (by kernel_rfl) (by kernel_rfl) (by kernel_rfl) (fun _ _ _ h => h) (by rfl) (fun _ _ => rfl) hHeld ?_
  simp only [Act.put, List.setIfInBounds_toArray, List.set_cons_zero, List.set_cons_succ]
  refine takeTo 21 (some 118) (.string ⟨(strN P k).toArray⟩) rfl rfl (by kernel_rfl) (by kernel_rfl) (by kernel_rfl) (fun _ _ _ h => h) (by rfl) (fun wz hz => run_conv_str _ rfl (.slice (some ⟨q4, 0, none⟩) k k) rfl _ wz (conv_bytesN k (has_bytes hz.2.1 k (Nat.le_refl _)) hDP (fun e => by cases e))) hHeld ?_
  simp only [Act.put, List.setIfInBounds_toArray, List.set_cons_zero, List.set_cons_succ]
  refine takeTo 22 (some 119) (.bool true) rfl rfl (by kernel_rfl) (by kernel_rfl) (by kernel_rfl) (fun _ _ _ h => h) (by rfl) (fun wz _ => run_eql_strs _ _ rfl _ _ rfl rfl _ (beq_self_eq_true _) wz) hHeld ?_
  simp only [Act.put, List.setIfInBounds_toArray, List.set_cons_zero, List.set_cons_succ]
  refine takeTo 23 (some 120) (.bool true) rfl rfl (by kernel_rfl) (by kernel_rfl) (by kernel_rfl) (fun _ _ _ h => h) (by rfl) (fun _ _ => rfl) hHeld ?_
  simp only [Act.put, List.setIfInBounds_toArray, List.set_cons_zero, List.set_cons_succ]
  refine takeTo 24 (some 121) (.bool true) rfl rfl (by kernel_rfl) (by kernel_rfl) (by kernel_rfl) (fun _ _ _ h => h) (by rfl) (fun _ _ => rfl) hHeld ?_
  simp only [Act.put, List.setIfInBounds_toArray, List.set_cons_zero, List.set_cons_succ]
  refine takeTo 25 (some 122) (.slice (some ⟨q5, 0, none⟩) N N) rfl rfl (by kernel_rfl) (by kernel_rfl) (by kernel_rfl) (fun _ _ _ h => h) (by rfl) (fun _ _ => rfl) hHeld ?_
  simp only [Act.put, List.setIfInBounds_toArray, List.set_cons_zero, List.set_cons_succ]
  refine takeTo 26 (some 123) (.int .i64 (k : Nat)) rfl rfl (by kernel_rfl) (by kernel_rfl) (by kernel_rfl) (fun _ _ _ h => h) (by rfl) (fun _ _ => rfl) hHeld ?_
  simp only [Act.put, List.setIfInBounds_toArray, List.set_cons_zero, List.set_cons_succ]
  refine takeTo 27 (some 124) (.slice (some ⟨q5, 0, none⟩) k N) rfl rfl (by kernel_rfl) (by kernel_rfl) (by kernel_rfl) (fun _ _ _ h => h) (by rfl) (fun wz _ => run_slice_hiX _ _ rfl q5 0 N N k rfl rfl (by omega) (by omega) wz) hHeld ?_
  simp only [Act.put, List.setIfInBounds_toArray, List.set_cons_zero, List.set_cons_succ]
  refine takeTo 28 (some 125) (.string ⟨(strN R k).toArray⟩) rfl rfl (by kernel_rfl) (by kernel_rfl) (by kernel_rfl) (fun _ _ _ h => h) (by rfl) (fun wz hz => run_conv_str _ rfl (.slice (some ⟨q5, 0, none⟩) k N) rfl _ wz (conv_bytesN N (has_bytes hz.2.2.1 k g2) hDR (fun e => by cases e))) hHeld ?_
  simp only [Act.put, List.setIfInBounds_toArray, List.set_cons_zero, List.set_cons_succ]
  refine takeTo 29 (some 126) (.slice (some ⟨q6, 0, none⟩) k k) rfl rfl (by kernel_rfl) (by kernel_rfl) (by kernel_rfl) (fun _ _ _ h => h) (by rfl) (fun _ _ => rfl) hHeld ?_
  simp only [Act.put, List.setIfInBounds_toArray, List.set_cons_zero, List.set_cons_succ]
  refine takeTo 30 (some 127) (.string ⟨(strN R k).toArray⟩) rfl rfl (by kernel_rfl) (by kernel_rfl) (by kernel_rfl) (fun _ _ _ h => h) (by rfl) (fun wz hz => run_conv_str _ rfl (.slice (some ⟨q6, 0, none⟩) k k) rfl _ wz (conv_bytesN k (has_bytes hz.2.2.2 k (Nat.le_refl _)) hDR (fun e => by cases e))) hHeld ?_
  simp only [Act.put, List.setIfInBounds_toArray, List.set_cons_zero, List.set_cons_succ]
  refine takeTo 31 (some 128) (.bool true) rfl rfl (by kernel_rfl) (by kernel_rfl) (by kernel_rfl) (fun _ _ _ h => h) (by rfl) (fun wz _ => run_eql_strs _ _ rfl _ _ rfl rfl _ (beq_self_eq_true _) wz) hHeld ?_
  simp only [Act.put, List.setIfInBounds_toArray, List.set_cons_zero, List.set_cons_succ]
  refine takeTo 32 (some 129) (.bool true) rfl rfl (by kernel_rfl) (by kernel_rfl) (by kernel_rfl) (fun _ _ _ h => h) (by rfl) (fun _ _ => rfl) hHeld ?_
  simp only [Act.put, List.setIfInBounds_toArray, List.set_cons_zero, List.set_cons_succ]
  refine takeTo 33 (some 6) (.bool true) rfl rfl (by kernel_rfl) (by kernel_rfl) (by kernel_rfl) (fun _ _ _ h => h) (by rfl) (fun _ _ => rfl) hHeld ?_
  simp only [Act.put, List.setIfInBounds_toArray, List.set_cons_zero, List.set_cons_succ]
  refine wpAnyH_done (by kernel_rfl) ?_ _
  go_wp2
  go_ret
  exact ⟨rfl, hB7⟩

set_option maxRecDepth 100000 in
set_option maxHeartbeats 3200000 in
theorem xpre_pos (f h : Nat → Nat) (s : Nat) (x : Int) (b o len n r cap : Nat) (D : Nat → Nat) (w : World) (hf : ∀ j, f j < 256) (hs : s < 18446744073709551616) (hx : -9223372036854775808 ≤ x ∧ x ≤ 9223372036854775807) (hD : ∀ j, D j < 256) (hlen : len ≤ 256) (hn : n = len / 16) (hn1 : 1 ≤ n) (hr : r = atN x % n) (hcap : len ≤ cap) (hcap2 : cap ≤ 140737488351232) (hb : Bytes w (some ⟨b, o, none⟩) len D) (hneg : ¬ x < 0) :
    Calls Try.prog 8 #[.agg (cellsN .u8 32 f), .slice (some ⟨b, o, none⟩) len cap, .agg (spotCells (s : Nat) x h)] w fun e w' => e = .returned (.bool true) ∧ Below w.heap.size w w' := by
  have hr1 : r < n := by rw [hr]; exact Nat.mod_lt _ (by omega)
  have i1 : ¬ (256 : Int) < (len : Int) := by omega
  have i2 : (len : Int) / 16 = (n : Int) := by omega
  have i3 : ¬ (n : Int) = 0 := by omega
  have i4 : ((n : Int) == 0) = false := by simp; omega
  have i5 : (n : Int) ≤ 16 := by omega
  have i6 : (1 : Int) ≤ (n : Int) := by omega
  have i7 : x.tmod (n : Int) = (r : Int) := by
    have e : x = (atN x : Int) := by unfold atN; rw [if_neg hneg]; omega
    rw [e, hr, Int.tmod_eq_emod_of_nonneg (by omega)]
    omega
  have i8 : (r : Int) < (n : Int) := by omega
  have i9 : (0 : Int) ≤ (r : Int) := by omega
  have HNL : Hid (n = len / 16) := hn
  clear hn hr
  obtain ⟨w0, hw0⟩ : ∃ x', x' = (w.alloc (.cells (cellsN .u8 32 f) 43)).alloc (.cells (spotCells (s : Nat) x h) 47) := ⟨_, rfl⟩
  have hB0 : Below w.heap.size w w0 := by rw [hw0]; exact two_below _ _ _
  have hF0 : Has w0 w.heap.size 43 (cellsN .u8 32 f) := by rw [hw0]; exact (Has.new _ _ _).alloc _
  have hS0 : Has w0 (w.heap.size + 1) 47 (spotCells (s : Nat) x h) := by rw [hw0]; exact Has.new_at (by simp)
  go_enter Try.func8, Try.ntmps8
  rw [hw0] at hF0 hS0 hB0
  go_wp2_with (first
    | (refine wpList_load_row rfl 43 _ rfl w.heap.size rfl 43 (cellsN .u8 32 f) (0, 0) _ hF0 Try.underlying43 rfl (by rw [cellsN_size]; exact Try.size32) ?_)
    | (go_at_call 24; refine (key_any f _ hf).mono ?_; rintro e w1 ⟨q1, c1, rfl, hc1, hq1, hk1, hb1⟩; have hB1 := hB0.trans (hb1.mono hB0.size); have hS1 := hS0.below hb1 hS0.lt)
    | (go_at_call 18; refine (new_law f hf _ _ _ hc1 hk1).mono ?_; rintro e w2 ⟨g, gk, gl, rfl, hC2, hb2⟩; have hB2 := hB1.trans (hb2.mono hB1.size); have hS2 := hS1.below hb2 hS1.lt; have hx1 : w2.cell? ⟨w.heap.size + 1, 1, none⟩ = some (.int .i64 x) := (by rw [hS2.cell, spot_1])))
  obtain ⟨k, hk⟩ : ∃ k, k = 16 * (1 + r) := ⟨_, rfl⟩
  obtain ⟨N, hN⟩ : ∃ N, N = 16 * n := ⟨_, rfl⟩
  rw [show (16 * (1 + (r : Int)) : Int) = ((k : Nat) : Int) by rw [hk]; omega]
  have HN16 : Hid (N = 16 * n) := hN
  have hNL := HNL.out
  have g1 : N ≤ len := by omega
  have g2 : k ≤ N := by omega
  have g3 : 0 < k := by omega
  have g4 : k % 16 = 0 := by omega
  have g5 : N % 16 = 0 := by omega
  have g6 : n ≤ 16 := by omega
  have hDP := sealF_lt f hf s D hD
  have hDR := openF_lt f hf s D hD
  have HSN : Hid (∀ wz, Below w.heap.size w wz → XK wz g gk gl f → Calls Try.prog 20 #[.pointer (some ⟨g, 0, none⟩), .int .u64 (s : Nat), .slice (some ⟨b, o, none⟩) N cap] wz fun e w' => ∃ q, e = .returned (.tuple #[.slice (some ⟨q, 0, none⟩) N N, .int .i64 0]) ∧ wz.heap.size ≤ q ∧ Has w' q 5 (cellsN .u8 N (sealF f s D)) ∧ Below wz.heap.size wz w') :=
    fun wz h hC => seal_law f hf g gk gl s b o cap N D wz hs hD (by omega) g5 (by omega) (by omega) hcap2 hC ((hb.take (by omega)).below h (Nat.le_refl _))
  have HSK : Hid (∀ wz, Below w.heap.size w wz → XK wz g gk gl f → Calls Try.prog 20 #[.pointer (some ⟨g, 0, none⟩), .int .u64 (s : Nat), .slice (some ⟨b, o, none⟩) k cap] wz fun e w' => ∃ q, e = .returned (.tuple #[.slice (some ⟨q, 0, none⟩) k k, .int .i64 0]) ∧ wz.heap.size ≤ q ∧ Has w' q 5 (cellsN .u8 k (sealF f s D)) ∧ Below wz.heap.size wz w') :=
    fun wz h hC => seal_law f hf g gk gl s b o cap k D wz hs hD (by omega) g4 (by omega) (by omega) hcap2 hC ((hb.take (by omega)).below h (Nat.le_refl _))
  have HON : Hid (∀ wz, Below w.heap.size w wz → XK wz g gk gl f → Calls Try.prog 22 #[.pointer (some ⟨g, 0, none⟩), .int .u64 (s : Nat), .slice (some ⟨b, o, none⟩) N cap] wz fun e w' => ∃ q, e = .returned (.tuple #[.slice (some ⟨q, 0, none⟩) N N, .int .i64 0]) ∧ wz.heap.size ≤ q ∧ Has w' q 5 (cellsN .u8 N (openF f s D)) ∧ Below wz.heap.size wz w') :=
    fun wz h hC => open_law f hf g gk gl s b o cap N D wz hs hD (by omega) g5 (by omega) (by omega) hcap2 hC ((hb.take (by omega)).below h (Nat.le_refl _))
  have HOK : Hid (∀ wz, Below w.heap.size w wz → XK wz g gk gl f → Calls Try.prog 22 #[.pointer (some ⟨g, 0, none⟩), .int .u64 (s : Nat), .slice (some ⟨b, o, none⟩) k cap] wz fun e w' => ∃ q, e = .returned (.tuple #[.slice (some ⟨q, 0, none⟩) k k, .int .i64 0]) ∧ wz.heap.size ≤ q ∧ Has w' q 5 (cellsN .u8 k (openF f s D)) ∧ Below wz.heap.size wz w') :=
    fun wz h hC => open_law f hf g gk gl s b o cap k D wz hs hD (by omega) g4 (by omega) (by omega) hcap2 hC ((hb.take (by omega)).below h (Nat.le_refl _))
  obtain ⟨P, hPe⟩ : ∃ P, P = sealF f s D := ⟨_, rfl⟩
  obtain ⟨R, hRe⟩ : ∃ R, R = openF f s D := ⟨_, rfl⟩
  rw [← hPe] at HSN HSK hDP
  rw [← hRe] at HON HOK hDR
  clear hPe hRe hk hN hNL HNL i1 i2 i3 i4 i5 i6 i7 i8 i9 hx1 hb hD
  have hc3 : w2.drew.cell? ⟨w.heap.size + 1, 0, none⟩ = some (.int .u64 (s : Nat)) := by show w2.cell? ⟨w.heap.size + 1, 0, none⟩ = _; rw [hS2.cell, spot_0]
  have hBd3 : Below w.heap.size w w2.drew := hB2.drew
  have hCd3 : XK w2.drew g gk gl f := hC2
  refine wp_region_held_drew (S := fun wz => wz.cell? ⟨w.heap.size + 1, 0, none⟩ = some (.int .u64 (s : Nat))) (by kernel_rfl) hc3 (fun hHeld => ?_)
  refine takeTo 0 (some 56) (.pointer (some ⟨g, 0, none⟩)) rfl rfl (by kernel_rfl) (by kernel_rfl) (by kernel_rfl) (fun _ _ _ h => h) (by rfl) (fun _ _ => rfl) hHeld ?_
  simp only [Act.put, List.setIfInBounds_toArray, List.set_cons_zero, List.set_cons_succ]
  refine takeTo 1 (some 57) (.pointer (some ⟨w.heap.size + 1, 0, none⟩)) rfl rfl (by kernel_rfl) (by kernel_rfl) (by kernel_rfl) (fun _ _ _ h => h) (by rfl) (fun wz _ => run_fieldAddr 47 _ 0 rfl (.pointer (some ⟨w.heap.size + 1, 0, none⟩)) (.pointer (some ⟨w.heap.size + 1, 0, none⟩)) rfl (sfield0 _) wz) hHeld ?_
  simp only [Act.put, List.setIfInBounds_toArray, List.set_cons_zero, List.set_cons_succ]
  refine takeTo 2 (some 58) (.int .u64 (s : Nat)) rfl rfl (by kernel_rfl) (by kernel_rfl) (by kernel_rfl) (fun _ _ _ h => h) (by rfl) (fun wz hz => run_load_u64 _ rfl ⟨w.heap.size + 1, 0, none⟩ rfl _ wz hz) hHeld ?_
  simp only [Act.put, List.setIfInBounds_toArray, List.set_cons_zero, List.set_cons_succ]
  refine takeTo 3 (some 59) (.slice (some ⟨b, o, none⟩) len cap) rfl rfl (by kernel_rfl) (by kernel_rfl) (by kernel_rfl) (fun _ _ _ h => h) (by rfl) (fun _ _ => rfl) hHeld ?_
  simp only [Act.put, List.setIfInBounds_toArray, List.set_cons_zero, List.set_cons_succ]
  refine takeTo 4 (some 60) (.int .i64 (n : Nat)) rfl rfl (by kernel_rfl) (by kernel_rfl) (by kernel_rfl) (fun _ _ _ h => h) (by rfl) (fun _ _ => rfl) hHeld ?_
  simp only [Act.put, List.setIfInBounds_toArray, List.set_cons_zero, List.set_cons_succ]
  refine takeTo 5 (some 61) (.int .i64 (N : Nat)) rfl rfl (by kernel_rfl) (by kernel_rfl) (by kernel_rfl) (fun _ _ _ h => h) (by rfl) (fun wz _ => by rw [HN16.out]; exact run_16mul _ rfl n rfl (by omega) wz) hHeld ?_
  simp only [Act.put, List.setIfInBounds_toArray, List.set_cons_zero, List.set_cons_succ]
  refine takeTo 6 (some 62) (.slice (some ⟨b, o, none⟩) N cap) rfl rfl (by kernel_rfl) (by kernel_rfl) (by kernel_rfl) (fun _ _ _ h => h) (by rfl) (fun wz _ => run_slice_hiX _ _ rfl b o len cap N rfl rfl (by omega) (by omega) wz) hHeld ?_
  simp only [Act.put, List.setIfInBounds_toArray, List.set_cons_zero, List.set_cons_succ]
  refine callTo 7 (some 63) 20 #[.pointer (some ⟨g, 0, none⟩), .int .u64 (s : Nat), .slice (some ⟨b, o, none⟩) N cap] (by kernel_rfl) rfl rfl (by rfl) (by kernel_rfl) (HSN.out _ hBd3 hCd3) ?_
  rintro e w3 ⟨q3, rfl, hq3, hD3, hb3⟩
  have hB3 := hBd3.trans (hb3.mono hBd3.size)
  have hC3 := hCd3.below hb3 (Nat.le_refl _)
  have hS3 : Has w3 (w.heap.size + 1) 47 (spotCells (s : Nat) x h) := Has.below (w := w2.drew) hS2 hb3 (Has.lt (w := w2.drew) hS2)
  have hHeld : w3.cell? ⟨w.heap.size + 1, 0, none⟩ = some (.int .u64 (s : Nat)) := by rw [hS3.cell, spot_0]
  refine ⟨_, rfl, hHeld, ?_⟩
  simp only [Act.put, List.setIfInBounds_toArray, List.set_cons_zero, List.set_cons_succ]
  refine takeTo 8 (some 55) (.tuple #[.slice (some ⟨q3, 0, none⟩) N N, .int .i64 0]) rfl rfl (by kernel_rfl) (by kernel_rfl) (by kernel_rfl) (fun _ _ _ h => h) (by rfl) (fun _ _ => rfl) hHeld ?_
  simp only [Act.put, List.setIfInBounds_toArray, List.set_cons_zero, List.set_cons_succ]
  refine takeTo 9 (some 64) (.slice (some ⟨q3, 0, none⟩) N N) rfl rfl (by kernel_rfl) (by kernel_rfl) (by kernel_rfl) (fun _ _ _ h => h) (by rfl) (fun _ _ => rfl) hHeld ?_
  simp only [Act.put, List.setIfInBounds_toArray, List.set_cons_zero, List.set_cons_succ]
  refine takeTo 10 (some 65) (.int .i64 0) rfl rfl (by kernel_rfl) (by kernel_rfl) (by kernel_rfl) (fun _ _ _ h => h) (by rfl) (fun _ _ => rfl) hHeld ?_
  simp only [Act.put, List.setIfInBounds_toArray, List.set_cons_zero, List.set_cons_succ]
  refine takeTo 11 (some 12) (.slice (some ⟨q3, 0, none⟩) N N) rfl rfl (by kernel_rfl) (by kernel_rfl) (by kernel_rfl) (fun _ _ _ h => h) (by rfl) (fun _ _ => rfl) hHeld ?_
  simp only [Act.put, List.setIfInBounds_toArray, List.set_cons_zero, List.set_cons_succ]
  refine takeTo 12 (some 13) (.int .i64 0) rfl rfl (by kernel_rfl) (by kernel_rfl) (by kernel_rfl) (fun _ _ _ h => h) (by rfl) (fun _ _ => rfl) hHeld ?_
  simp only [Act.put, List.setIfInBounds_toArray, List.set_cons_zero, List.set_cons_succ]
  refine wpAnyH_done (by kernel_rfl) ?_ _
  clear hHeld
  go_wp2
  have hc4 : w3.drew.cell? ⟨w.heap.size + 1, 0, none⟩ = some (.int .u64 (s : Nat)) := by show w3.cell? ⟨w.heap.size + 1, 0, none⟩ = _; rw [hS3.cell, spot_0]
  have hBd4 : Below w.heap.size w w3.drew := hB3.drew
  have hCd4 : XK w3.drew g gk gl f := hC3
  refine wp_region_held_drew (S := fun wz => wz.cell? ⟨w.heap.size + 1, 0, none⟩ = some (.int .u64 (s : Nat))) (by kernel_rfl) hc4 (fun hHeld => ?_)
  refine takeTo 0 (some 67) (.pointer (some ⟨g, 0, none⟩)) rfl rfl (by kernel_rfl) (by kernel_rfl) (by kernel_rfl) (fun _ _ _ h => h) (by rfl) (fun _ _ => rfl) hHeld ?_
  simp only [Act.put, List.setIfInBounds_toArray, List.set_cons_zero, List.set_cons_succ]
  refine takeTo 1 (some 68) (.pointer (some ⟨w.heap.size + 1, 0, none⟩)) rfl rfl (by kernel_rfl) (by kernel_rfl) (by kernel_rfl) (fun _ _ _ h => h) (by rfl) (fun wz _ => run_fieldAddr 47 _ 0 rfl (.pointer (some ⟨w.heap.size + 1, 0, none⟩)) (.pointer (some ⟨w.heap.size + 1, 0, none⟩)) rfl (sfield0 _) wz) hHeld ?_
  simp only [Act.put, List.setIfInBounds_toArray, List.set_cons_zero, List.set_cons_succ]
  refine takeTo 2 (some 69) (.int .u64 (s : Nat)) rfl rfl (by kernel_rfl) (by kernel_rfl) (by kernel_rfl) (fun _ _ _ h => h) (by rfl) (fun wz hz => run_load_u64 _ rfl ⟨w.heap.size + 1, 0, none⟩ rfl _ wz hz) hHeld ?_
  simp only [Act.put, List.setIfInBounds_toArray, List.set_cons_zero, List.set_cons_succ]
  refine takeTo 3 (some 70) (.slice (some ⟨b, o, none⟩) len cap) rfl rfl (by kernel_rfl) (by kernel_rfl) (by kernel_rfl) (fun _ _ _ h => h) (by rfl) (fun _ _ => rfl) hHeld ?_
  simp only [Act.put, List.setIfInBounds_toArray, List.set_cons_zero, List.set_cons_succ]
  refine takeTo 4 (some 71) (.int .i64 (k : Nat)) rfl rfl (by kernel_rfl) (by kernel_rfl) (by kernel_rfl) (fun _ _ _ h => h) (by rfl) (fun _ _ => rfl) hHeld ?_
  simp only [Act.put, List.setIfInBounds_toArray, List.set_cons_zero, List.set_cons_succ]
  refine takeTo 5 (some 72) (.slice (some ⟨b, o, none⟩) k cap) rfl rfl (by kernel_rfl) (by kernel_rfl) (by kernel_rfl) (fun _ _ _ h => h) (by rfl) (fun wz _ => run_slice_hiX _ _ rfl b o len cap k rfl rfl (by omega) (by omega) wz) hHeld ?_
  simp only [Act.put, List.setIfInBounds_toArray, List.set_cons_zero, List.set_cons_succ]
  refine callTo 6 (some 73) 20 #[.pointer (some ⟨g, 0, none⟩), .int .u64 (s : Nat), .slice (some ⟨b, o, none⟩) k cap] (by kernel_rfl) rfl rfl (by rfl) (by kernel_rfl) (HSK.out _ hBd4 hCd4) ?_
  rintro e w4 ⟨q4, rfl, hq4, hD4, hb4⟩
  have hB4 := hBd4.trans (hb4.mono hBd4.size)
  have hC4 := hCd4.below hb4 (Nat.le_refl _)
  have hS4 : Has w4 (w.heap.size + 1) 47 (spotCells (s : Nat) x h) := Has.below (w := w3.drew) hS3 hb4 (Has.lt (w := w3.drew) hS3)
  have hHeld : w4.cell? ⟨w.heap.size + 1, 0, none⟩ = some (.int .u64 (s : Nat)) := by rw [hS4.cell, spot_0]
  have hD3x := Has.below (w := w3.drew) hD3 hb4 (Has.lt (w := w3.drew) hD3)
  clear hD3
  have hD3 := hD3x
  clear hD3x
  refine ⟨_, rfl, hHeld, ?_⟩
  simp only [Act.put, List.setIfInBounds_toArray, List.set_cons_zero, List.set_cons_succ]
  refine takeTo 7 (some 66) (.tuple #[.slice (some ⟨q4, 0, none⟩) k k, .int .i64 0]) rfl rfl (by kernel_rfl) (by kernel_rfl) (by kernel_rfl) (fun _ _ _ h => h) (by rfl) (fun _ _ => rfl) hHeld ?_
  simp only [Act.put, List.setIfInBounds_toArray, List.set_cons_zero, List.set_cons_succ]
  refine takeTo 8 (some 74) (.slice (some ⟨q4, 0, none⟩) k k) rfl rfl (by kernel_rfl) (by kernel_rfl) (by kernel_rfl) (fun _ _ _ h => h) (by rfl) (fun _ _ => rfl) hHeld ?_
  simp only [Act.put, List.setIfInBounds_toArray, List.set_cons_zero, List.set_cons_succ]
  refine takeTo 9 (some 75) (.int .i64 0) rfl rfl (by kernel_rfl) (by kernel_rfl) (by kernel_rfl) (fun _ _ _ h => h) (by rfl) (fun _ _ => rfl) hHeld ?_
  simp only [Act.put, List.setIfInBounds_toArray, List.set_cons_zero, List.set_cons_succ]
  refine takeTo 10 (some 14) (.slice (some ⟨q4, 0, none⟩) k k) rfl rfl (by kernel_rfl) (by kernel_rfl) (by kernel_rfl) (fun _ _ _ h => h) (by rfl) (fun _ _ => rfl) hHeld ?_
  simp only [Act.put, List.setIfInBounds_toArray, List.set_cons_zero, List.set_cons_succ]
  refine takeTo 11 (some 15) (.int .i64 0) rfl rfl (by kernel_rfl) (by kernel_rfl) (by kernel_rfl) (fun _ _ _ h => h) (by rfl) (fun _ _ => rfl) hHeld ?_
  simp only [Act.put, List.setIfInBounds_toArray, List.set_cons_zero, List.set_cons_succ]
  refine wpAnyH_done (by kernel_rfl) ?_ _
  clear hHeld
  go_wp2
  have hc5 : w4.drew.cell? ⟨w.heap.size + 1, 0, none⟩ = some (.int .u64 (s : Nat)) := by show w4.cell? ⟨w.heap.size + 1, 0, none⟩ = _; rw [hS4.cell, spot_0]
  have hBd5 : Below w.heap.size w w4.drew := hB4.drew
  have hCd5 : XK w4.drew g gk gl f := hC4
  refine wp_region_held_drew (S := fun wz => wz.cell? ⟨w.heap.size + 1, 0, none⟩ = some (.int .u64 (s : Nat))) (by kernel_rfl) hc5 (fun hHeld => ?_)
  refine takeTo 0 (some 77) (.pointer (some ⟨g, 0, none⟩)) rfl rfl (by kernel_rfl) (by kernel_rfl) (by kernel_rfl) (fun _ _ _ h => h) (by rfl) (fun _ _ => rfl) hHeld ?_
  simp only [Act.put, List.setIfInBounds_toArray, List.set_cons_zero, List.set_cons_succ]
  refine takeTo 1 (some 78) (.pointer (some ⟨w.heap.size + 1, 0, none⟩)) rfl rfl (by kernel_rfl) (by kernel_rfl) (by kernel_rfl) (fun _ _ _ h => h) (by rfl) (fun wz _ => run_fieldAddr 47 _ 0 rfl (.pointer (some ⟨w.heap.size + 1, 0, none⟩)) (.pointer (some ⟨w.heap.size + 1, 0, none⟩)) rfl (sfield0 _) wz) hHeld ?_
  simp only [Act.put, List.setIfInBounds_toArray, List.set_cons_zero, List.set_cons_succ]
  refine takeTo 2 (some 79) (.int .u64 (s : Nat)) rfl rfl (by kernel_rfl) (by kernel_rfl) (by kernel_rfl) (fun _ _ _ h => h) (by rfl) (fun wz hz => run_load_u64 _ rfl ⟨w.heap.size + 1, 0, none⟩ rfl _ wz hz) hHeld ?_
  simp only [Act.put, List.setIfInBounds_toArray, List.set_cons_zero, List.set_cons_succ]
  refine takeTo 3 (some 80) (.slice (some ⟨b, o, none⟩) len cap) rfl rfl (by kernel_rfl) (by kernel_rfl) (by kernel_rfl) (fun _ _ _ h => h) (by rfl) (fun _ _ => rfl) hHeld ?_
  simp only [Act.put, List.setIfInBounds_toArray, List.set_cons_zero, List.set_cons_succ]
  refine takeTo 4 (some 81) (.int .i64 (n : Nat)) rfl rfl (by kernel_rfl) (by kernel_rfl) (by kernel_rfl) (fun _ _ _ h => h) (by rfl) (fun _ _ => rfl) hHeld ?_
  simp only [Act.put, List.setIfInBounds_toArray, List.set_cons_zero, List.set_cons_succ]
  refine takeTo 5 (some 82) (.int .i64 (N : Nat)) rfl rfl (by kernel_rfl) (by kernel_rfl) (by kernel_rfl) (fun _ _ _ h => h) (by rfl) (fun wz _ => by rw [HN16.out]; exact run_16mul _ rfl n rfl (by omega) wz) hHeld ?_
  simp only [Act.put, List.setIfInBounds_toArray, List.set_cons_zero, List.set_cons_succ]
  refine takeTo 6 (some 83) (.slice (some ⟨b, o, none⟩) N cap) rfl rfl (by kernel_rfl) (by kernel_rfl) (by kernel_rfl) (fun _ _ _ h => h) (by rfl) (fun wz _ => run_slice_hiX _ _ rfl b o len cap N rfl rfl (by omega) (by omega) wz) hHeld ?_
  simp only [Act.put, List.setIfInBounds_toArray, List.set_cons_zero, List.set_cons_succ]
  refine callTo 7 (some 84) 22 #[.pointer (some ⟨g, 0, none⟩), .int .u64 (s : Nat), .slice (some ⟨b, o, none⟩) N cap] (by kernel_rfl) rfl rfl (by rfl) (by kernel_rfl) (HON.out _ hBd5 hCd5) ?_
  rintro e w5 ⟨q5, rfl, hq5, hD5, hb5⟩
  have hB5 := hBd5.trans (hb5.mono hBd5.size)
  have hC5 := hCd5.below hb5 (Nat.le_refl _)
  have hS5 : Has w5 (w.heap.size + 1) 47 (spotCells (s : Nat) x h) := Has.below (w := w4.drew) hS4 hb5 (Has.lt (w := w4.drew) hS4)
  have hHeld : w5.cell? ⟨w.heap.size + 1, 0, none⟩ = some (.int .u64 (s : Nat)) := by rw [hS5.cell, spot_0]
  have hD3x := Has.below (w := w4.drew) hD3 hb5 (Has.lt (w := w4.drew) hD3)
  clear hD3
  have hD3 := hD3x
  clear hD3x
  have hD4x := Has.below (w := w4.drew) hD4 hb5 (Has.lt (w := w4.drew) hD4)
  clear hD4
  have hD4 := hD4x
  clear hD4x
  refine ⟨_, rfl, hHeld, ?_⟩
  simp only [Act.put, List.setIfInBounds_toArray, List.set_cons_zero, List.set_cons_succ]
  refine takeTo 8 (some 76) (.tuple #[.slice (some ⟨q5, 0, none⟩) N N, .int .i64 0]) rfl rfl (by kernel_rfl) (by kernel_rfl) (by kernel_rfl) (fun _ _ _ h => h) (by rfl) (fun _ _ => rfl) hHeld ?_
  simp only [Act.put, List.setIfInBounds_toArray, List.set_cons_zero, List.set_cons_succ]
  refine takeTo 9 (some 85) (.slice (some ⟨q5, 0, none⟩) N N) rfl rfl (by kernel_rfl) (by kernel_rfl) (by kernel_rfl) (fun _ _ _ h => h) (by rfl) (fun _ _ => rfl) hHeld ?_
  simp only [Act.put, List.setIfInBounds_toArray, List.set_cons_zero, List.set_cons_succ]
  refine takeTo 10 (some 86) (.int .i64 0) rfl rfl (by kernel_rfl) (by kernel_rfl) (by kernel_rfl) (fun _ _ _ h => h) (by rfl) (fun _ _ => rfl) hHeld ?_
  simp only [Act.put, List.setIfInBounds_toArray, List.set_cons_zero, List.set_cons_succ]
  refine takeTo 11 (some 16) (.slice (some ⟨q5, 0, none⟩) N N) rfl rfl (by kernel_rfl) (by kernel_rfl) (by kernel_rfl) (fun _ _ _ h => h) (by rfl) (fun _ _ => rfl) hHeld ?_
  simp only [Act.put, List.setIfInBounds_toArray, List.set_cons_zero, List.set_cons_succ]
  refine takeTo 12 (some 17) (.int .i64 0) rfl rfl (by kernel_rfl) (by kernel_rfl) (by kernel_rfl) (fun _ _ _ h => h) (by rfl) (fun _ _ => rfl) hHeld ?_
  simp only [Act.put, List.setIfInBounds_toArray, List.set_cons_zero, List.set_cons_succ]
  refine wpAnyH_done (by kernel_rfl) ?_ _
  clear hHeld
  go_wp2
  have hc6 : w5.drew.cell? ⟨w.heap.size + 1, 0, none⟩ = some (.int .u64 (s : Nat)) := by show w5.cell? ⟨w.heap.size + 1, 0, none⟩ = _; rw [hS5.cell, spot_0]
  have hBd6 : Below w.heap.size w w5.drew := hB5.drew
  have hCd6 : XK w5.drew g gk gl f := hC5
  refine wp_region_held_drew (S := fun wz => wz.cell? ⟨w.heap.size + 1, 0, none⟩ = some (.int .u64 (s : Nat))) (by kernel_rfl) hc6 (fun hHeld => ?_)
  refine takeTo 0 (some 88) (.pointer (some ⟨g, 0, none⟩)) rfl rfl (by kernel_rfl) (by kernel_rfl) (by kernel_rfl) (fun _ _ _ h => h) (by rfl) (fun _ _ => rfl) hHeld ?_
  simp only [Act.put, List.setIfInBounds_toArray, List.set_cons_zero, List.set_cons_succ]
  refine takeTo 1 (some 89) (.pointer (some ⟨w.heap.size + 1, 0, none⟩)) rfl rfl (by kernel_rfl) (by kernel_rfl) (by kernel_rfl) (fun _ _ _ h => h) (by rfl) (fun wz _ => run_fieldAddr 47 _ 0 rfl (.pointer (some ⟨w.heap.size + 1, 0, none⟩)) (.pointer (some ⟨w.heap.size + 1, 0, none⟩)) rfl (sfield0 _) wz) hHeld ?_
  simp only [Act.put, List.setIfInBounds_toArray, List.set_cons_zero, List.set_cons_succ]
  refine takeTo 2 (some 90) (.int .u64 (s : Nat)) rfl rfl (by kernel_rfl) (by kernel_rfl) (by kernel_rfl) (fun _ _ _ h => h) (by rfl) (fun wz hz => run_load_u64 _ rfl ⟨w.heap.size + 1, 0, none⟩ rfl _ wz hz) hHeld ?_
  simp only [Act.put, List.setIfInBounds_toArray, List.set_cons_zero, List.set_cons_succ]
  refine takeTo 3 (some 91) (.slice (some ⟨b, o, none⟩) len cap) rfl rfl (by kernel_rfl) (by kernel_rfl) (by kernel_rfl) (fun _ _ _ h => h) (by rfl) (fun _ _ => rfl) hHeld ?_
  simp only [Act.put, List.setIfInBounds_toArray, List.set_cons_zero, List.set_cons_succ]
  refine takeTo 4 (some 92) (.int .i64 (k : Nat)) rfl rfl (by kernel_rfl) (by kernel_rfl) (by kernel_rfl) (fun _ _ _ h => h) (by rfl) (fun _ _ => rfl) hHeld ?_
  simp only [Act.put, List.setIfInBounds_toArray, List.set_cons_zero, List.set_cons_succ]
  refine takeTo 5 (some 93) (.slice (some ⟨b, o, none⟩) k cap) rfl rfl (by kernel_rfl) (by kernel_rfl) (by kernel_rfl) (fun _ _ _ h => h) (by rfl) (fun wz _ => run_slice_hiX _ _ rfl b o len cap k rfl rfl (by omega) (by omega) wz) hHeld ?_
  simp only [Act.put, List.setIfInBounds_toArray, List.set_cons_zero, List.set_cons_succ]
  refine callTo 6 (some 94) 22 #[.pointer (some ⟨g, 0, none⟩), .int .u64 (s : Nat), .slice (some ⟨b, o, none⟩) k cap] (by kernel_rfl) rfl rfl (by rfl) (by kernel_rfl) (HOK.out _ hBd6 hCd6) ?_
  rintro e w6 ⟨q6, rfl, hq6, hD6, hb6⟩
  have hB6 := hBd6.trans (hb6.mono hBd6.size)
  have hC6 := hCd6.below hb6 (Nat.le_refl _)
  have hS6 : Has w6 (w.heap.size + 1) 47 (spotCells (s : Nat) x h) := Has.below (w := w5.drew) hS5 hb6 (Has.lt (w := w5.drew) hS5)
  have hHeld : w6.cell? ⟨w.heap.size + 1, 0, none⟩ = some (.int .u64 (s : Nat)) := by rw [hS6.cell, spot_0]
  have hD3x := Has.below (w := w5.drew) hD3 hb6 (Has.lt (w := w5.drew) hD3)
  clear hD3
  have hD3 := hD3x
  clear hD3x
  have hD4x := Has.below (w := w5.drew) hD4 hb6 (Has.lt (w := w5.drew) hD4)
  clear hD4
  have hD4 := hD4x
  clear hD4x
  have hD5x := Has.below (w := w5.drew) hD5 hb6 (Has.lt (w := w5.drew) hD5)
  clear hD5
  have hD5 := hD5x
  clear hD5x
  refine ⟨_, rfl, hHeld, ?_⟩
  simp only [Act.put, List.setIfInBounds_toArray, List.set_cons_zero, List.set_cons_succ]
  refine takeTo 7 (some 87) (.tuple #[.slice (some ⟨q6, 0, none⟩) k k, .int .i64 0]) rfl rfl (by kernel_rfl) (by kernel_rfl) (by kernel_rfl) (fun _ _ _ h => h) (by rfl) (fun _ _ => rfl) hHeld ?_
  simp only [Act.put, List.setIfInBounds_toArray, List.set_cons_zero, List.set_cons_succ]
  refine takeTo 8 (some 95) (.slice (some ⟨q6, 0, none⟩) k k) rfl rfl (by kernel_rfl) (by kernel_rfl) (by kernel_rfl) (fun _ _ _ h => h) (by rfl) (fun _ _ => rfl) hHeld ?_
  simp only [Act.put, List.setIfInBounds_toArray, List.set_cons_zero, List.set_cons_succ]
  refine takeTo 9 (some 96) (.int .i64 0) rfl rfl (by kernel_rfl) (by kernel_rfl) (by kernel_rfl) (fun _ _ _ h => h) (by rfl) (fun _ _ => rfl) hHeld ?_
  simp only [Act.put, List.setIfInBounds_toArray, List.set_cons_zero, List.set_cons_succ]
  refine takeTo 10 (some 18) (.slice (some ⟨q6, 0, none⟩) k k) rfl rfl (by kernel_rfl) (by kernel_rfl) (by kernel_rfl) (fun _ _ _ h => h) (by rfl) (fun _ _ => rfl) hHeld ?_
  simp only [Act.put, List.setIfInBounds_toArray, List.set_cons_zero, List.set_cons_succ]
  refine takeTo 11 (some 19) (.int .i64 0) rfl rfl (by kernel_rfl) (by kernel_rfl) (by kernel_rfl) (fun _ _ _ h => h) (by rfl) (fun _ _ => rfl) hHeld ?_
  simp only [Act.put, List.setIfInBounds_toArray, List.set_cons_zero, List.set_cons_succ]
  refine wpAnyH_done (by kernel_rfl) ?_ _
  clear hHeld
  go_wp2
  have hAll : Has w6.drew q3 5 (cellsN .u8 N P) ∧ Has w6.drew q4 5 (cellsN .u8 k P) ∧ Has w6.drew q5 5 (cellsN .u8 N R) ∧ Has w6.drew q6 5 (cellsN .u8 k R) := ⟨hD3, hD4, hD5, hD6⟩
  refine wp_region_held_drew (S := fun wz => Has wz q3 5 (cellsN .u8 N P) ∧ Has wz q4 5 (cellsN .u8 k P) ∧ Has wz q5 5 (cellsN .u8 N R) ∧ Has wz q6 5 (cellsN .u8 k R)) (by kernel_rfl) hAll (fun hHeld => ?_)
  refine callTo 0 (some 97) 17 #[] (by kernel_rfl) rfl rfl (by rfl) (by kernel_rfl) (xalive_any _) ?_
  rintro e w7 ⟨rfl, hb7⟩
  have hHeld : Has w7 q3 5 (cellsN .u8 N P) ∧ Has w7 q4 5 (cellsN .u8 k P) ∧ Has w7 q5 5 (cellsN .u8 N R) ∧ Has w7 q6 5 (cellsN .u8 k R) := ⟨hHeld.1.below hb7 hHeld.1.lt, hHeld.2.1.below hb7 hHeld.2.1.lt, hHeld.2.2.1.below hb7 hHeld.2.2.1.lt, hHeld.2.2.2.below hb7 hHeld.2.2.2.lt⟩
  have hB7 : Below w.heap.size w w7 := hB6.drew.trans (hb7.mono hB6.size)
  refine ⟨_, rfl, hHeld, ?_⟩
  simp only [Act.put, List.setIfInBounds_toArray, List.set_cons_zero, List.set_cons_succ]
  refine takeTo 1 (some 98) (.bool true) rfl rfl (by kernel_rfl) (by kernel_rfl) (by kernel_rfl) (fun _ _ _ h => h) (by rfl) (fun _ _ => rfl) hHeld ?_
  simp only [Act.put, List.setIfInBounds_toArray, List.set_cons_zero, List.set_cons_succ]
  refine takeTo 2 (some 99) (.slice (some ⟨q3, 0, none⟩) N N) rfl rfl (by kernel_rfl) (by kernel_rfl) (by kernel_rfl) (fun _ _ _ h => h) (by rfl) (fun _ _ => rfl) hHeld ?_
  simp only [Act.put, List.setIfInBounds_toArray, List.set_cons_zero, List.set_cons_succ]
  refine takeTo 3 (some 100) (.int .i64 (N : Nat)) rfl rfl (by kernel_rfl) (by kernel_rfl) (by kernel_rfl) (fun _ _ _ h => h) (by rfl) (fun wz _ => run_len _ rfl _ N N rfl (by omega) wz) hHeld ?_
  simp only [Act.put, List.setIfInBounds_toArray, List.set_cons_zero, List.set_cons_succ]
  refine takeTo 4 (some 101) (.int .i64 (n : Nat)) rfl rfl (by kernel_rfl) (by kernel_rfl) (by kernel_rfl) (fun _ _ _ h => h) (by rfl) (fun _ _ => rfl) hHeld ?_
  simp only [Act.put, List.setIfInBounds_toArray, List.set_cons_zero, List.set_cons_succ]
  refine takeTo 5 (some 102) (.int .i64 (N : Nat)) rfl rfl (by kernel_rfl) (by kernel_rfl) (by kernel_rfl) (fun _ _ _ h => h) (by rfl) (fun wz _ => by rw [HN16.out]; exact run_16mul _ rfl n rfl (by omega) wz) hHeld ?_
  simp only [Act.put, List.setIfInBounds_toArray, List.set_cons_zero, List.set_cons_succ]
  refine takeTo 6 (some 103) (.bool true) rfl rfl (by kernel_rfl) (by kernel_rfl) (by kernel_rfl) (fun _ _ _ h => h) (by rfl) (fun wz _ => run_eq_nat _ _ rfl N N rfl rfl rfl wz) hHeld ?_
  simp only [Act.put, List.setIfInBounds_toArray, List.set_cons_zero, List.set_cons_succ]
  refine takeTo 7 (some 104) (.bool true) rfl rfl (by kernel_rfl) (by kernel_rfl) (by kernel_rfl) (fun _ _ _ h => h) (by rfl) (fun _ _ => rfl) hHeld ?_
  simp only [Act.put, List.setIfInBounds_toArray, List.set_cons_zero, List.set_cons_succ]
  refine takeTo 8 (some 105) (.bool true) rfl rfl (by kernel_rfl) (by kernel_rfl) (by kernel_rfl) (fun _ _ _ h => h) (by rfl) (fun _ _ => rfl) hHeld ?_
  simp only [Act.put, List.setIfInBounds_toArray, List.set_cons_zero, List.set_cons_succ]
  refine takeTo 9 (some 106) (.slice (some ⟨q5, 0, none⟩) N N) rfl rfl (by kernel_rfl) (by kernel_rfl) (by kernel_rfl) (fun _ _ _ h => h) (by rfl) (fun _ _ => rfl) hHeld ?_
  simp only [Act.put, List.setIfInBounds_toArray, List.set_cons_zero, List.set_cons_succ]
  refine takeTo 10 (some 107) (.int .i64 (N : Nat)) rfl rfl (by kernel_rfl) (by kernel_rfl) (by kernel_rfl) (fun _ _ _ h => h) (by rfl) (fun wz _ => run_len _ rfl _ N N rfl (by omega) wz) hHeld ?_
  simp only [Act.put, List.setIfInBounds_toArray, List.set_cons_zero, List.set_cons_succ]
  refine takeTo 11 (some 108) (.int .i64 (n : Nat)) rfl rfl (by kernel_rfl) (by kernel_rfl) (by kernel_rfl) (fun _ _ _ h => h) (by rfl) (fun _ _ => rfl) hHeld ?_
  simp only [Act.put, List.setIfInBounds_toArray, List.set_cons_zero, List.set_cons_succ]
  refine takeTo 12 (some 109) (.int .i64 (N : Nat)) rfl rfl (by kernel_rfl) (by kernel_rfl) (by kernel_rfl) (fun _ _ _ h => h) (by rfl) (fun wz _ => by rw [HN16.out]; exact run_16mul _ rfl n rfl (by omega) wz) hHeld ?_
  simp only [Act.put, List.setIfInBounds_toArray, List.set_cons_zero, List.set_cons_succ]
  refine takeTo 13 (some 110) (.bool true) rfl rfl (by kernel_rfl) (by kernel_rfl) (by kernel_rfl) (fun _ _ _ h => h) (by rfl) (fun wz _ => run_eq_nat _ _ rfl N N rfl rfl rfl wz) hHeld ?_
  simp only [Act.put, List.setIfInBounds_toArray, List.set_cons_zero, List.set_cons_succ]
  refine takeTo 14 (some 111) (.bool true) rfl rfl (by kernel_rfl) (by kernel_rfl) (by kernel_rfl) (fun _ _ _ h => h) (by rfl) (fun _ _ => rfl) hHeld ?_
  simp only [Act.put, List.setIfInBounds_toArray, List.set_cons_zero, List.set_cons_succ]
  refine takeTo 15 (some 112) (.bool true) rfl rfl (by kernel_rfl) (by kernel_rfl) (by kernel_rfl) (fun _ _ _ h => h) (by rfl) (fun _ _ => rfl) hHeld ?_
  simp only [Act.put, List.setIfInBounds_toArray, List.set_cons_zero, List.set_cons_succ]
  refine takeTo 16 (some 113) (.slice (some ⟨q3, 0, none⟩) N N) rfl rfl (by kernel_rfl) (by kernel_rfl) (by kernel_rfl) (fun _ _ _ h => h) (by rfl) (fun _ _ => rfl) hHeld ?_
  simp only [Act.put, List.setIfInBounds_toArray, List.set_cons_zero, List.set_cons_succ]
  refine takeTo 17 (some 114) (.int .i64 (k : Nat)) rfl rfl (by kernel_rfl) (by kernel_rfl) (by kernel_rfl) (fun _ _ _ h => h) (by rfl) (fun _ _ => rfl) hHeld ?_
  simp only [Act.put, List.setIfInBounds_toArray, List.set_cons_zero, List.set_cons_succ]
  refine takeTo 18 (some 115) (.slice (some ⟨q3, 0, none⟩) k N) rfl rfl (by kernel_rfl) (by kernel_rfl) (by kernel_rfl) (fun _ _ _ h => h) (by rfl) (fun wz _ => run_slice_hiX _ _ rfl q3 0 N N k rfl rfl (by omega) (by omega) wz) hHeld ?_
  simp only [Act.put, List.setIfInBounds_toArray, List.set_cons_zero, List.set_cons_succ]
  refine takeTo 19 (some 116) (.string ⟨(strN P k).toArray⟩) rfl rfl (by kernel_rfl) (by kernel_rfl) (by kernel_rfl) (fun _ _ _ h => h) (by rfl) (fun wz hz => run_conv_str _ rfl (.slice (some ⟨q3, 0, none⟩) k N) rfl _ wz (conv_bytesN N (has_bytes hz.1 k g2) hDP (fun e => by cases e))) hHeld ?_
  simp only [Act.put, List.setIfInBounds_toArray, List.set_cons_zero, List.set_cons_succ]
  refine takeTo 20 (some 117) (.slice (some ⟨q4, 0, none⟩) k k) rfl rfl (by kernel_rfl) (by kernel_rfl) (by kernel_rfl) (fun _ _ _ h => h) (by rfl) (fun _ _ => rfl) hHeld ?_
  simp only [Act.put, List.setIfInBounds_toArray, List.set_cons_zero, List.set_cons_succ]
  refine takeTo 21 (some 118) (.string ⟨(strN P k).toArray⟩) rfl rfl (by kernel_rfl) (by kernel_rfl) (by kernel_rfl) (fun _ _ _ h => h) (by rfl) (fun wz hz => run_conv_str _ rfl (.slice (some ⟨q4, 0, none⟩) k k) rfl _ wz (conv_bytesN k (has_bytes hz.2.1 k (Nat.le_refl _)) hDP (fun e => by cases e))) hHeld ?_
  simp only [Act.put, List.setIfInBounds_toArray, List.set_cons_zero, List.set_cons_succ]
  refine takeTo 22 (some 119) (.bool true) rfl rfl (by kernel_rfl) (by kernel_rfl) (by kernel_rfl) (fun _ _ _ h => h) (by rfl) (fun wz _ => run_eql_strs _ _ rfl _ _ rfl rfl _ (beq_self_eq_true _) wz) hHeld ?_
  simp only [Act.put, List.setIfInBounds_toArray, List.set_cons_zero, List.set_cons_succ]
  refine takeTo 23 (some 120) (.bool true) rfl rfl (by kernel_rfl) (by kernel_rfl) (by kernel_rfl) (fun _ _ _ h => h) (by rfl) (fun _ _ => rfl) hHeld ?_
  simp only [Act.put, List.setIfInBounds_toArray, List.set_cons_zero, List.set_cons_succ]
  refine takeTo 24 (some 121) (.bool true) rfl rfl (by kernel_rfl) (by kernel_rfl) (by kernel_rfl) (fun _ _ _ h => h) (by rfl) (fun _ _ => rfl) hHeld ?_
  simp only [Act.put, List.setIfInBounds_toArray, List.set_cons_zero, List.set_cons_succ]
  refine takeTo 25 (some 122) (.slice (some ⟨q5, 0, none⟩) N N) rfl rfl (by kernel_rfl) (by kernel_rfl) (by kernel_rfl) (fun _ _ _ h => h) (by rfl) (fun _ _ => rfl) hHeld ?_
  simp only [Act.put, List.setIfInBounds_toArray, List.set_cons_zero, List.set_cons_succ]
  refine takeTo 26 (some 123) (.int .i64 (k : Nat)) rfl rfl (by kernel_rfl) (by kernel_rfl) (by kernel_rfl) (fun _ _ _ h => h) (by rfl) (fun _ _ => rfl) hHeld ?_
  simp only [Act.put, List.setIfInBounds_toArray, List.set_cons_zero, List.set_cons_succ]
  refine takeTo 27 (some 124) (.slice (some ⟨q5, 0, none⟩) k N) rfl rfl (by kernel_rfl) (by kernel_rfl) (by kernel_rfl) (fun _ _ _ h => h) (by rfl) (fun wz _ => run_slice_hiX _ _ rfl q5 0 N N k rfl rfl (by omega) (by omega) wz) hHeld ?_
  simp only [Act.put, List.setIfInBounds_toArray, List.set_cons_zero, List.set_cons_succ]
  refine takeTo 28 (some 125) (.string ⟨(strN R k).toArray⟩) rfl rfl (by kernel_rfl) (by kernel_rfl) (by kernel_rfl) (fun _ _ _ h => h) (by rfl) (fun wz hz => run_conv_str _ rfl (.slice (some ⟨q5, 0, none⟩) k N) rfl _ wz (conv_bytesN N (has_bytes hz.2.2.1 k g2) hDR (fun e => by cases e))) hHeld ?_
  simp only [Act.put, List.setIfInBounds_toArray, List.set_cons_zero, List.set_cons_succ]
  refine takeTo 29 (some 126) (.slice (some ⟨q6, 0, none⟩) k k) rfl rfl (by kernel_rfl) (by kernel_rfl) (by kernel_rfl) (fun _ _ _ h => h) (by rfl) (fun _ _ => rfl) hHeld ?_
  simp only [Act.put, List.setIfInBounds_toArray, List.set_cons_zero, List.set_cons_succ]
  refine takeTo 30 (some 127) (.string ⟨(strN R k).toArray⟩) rfl rfl (by kernel_rfl) (by kernel_rfl) (by kernel_rfl) (fun _ _ _ h => h) (by rfl) (fun wz hz => run_conv_str _ rfl (.slice (some ⟨q6, 0, none⟩) k k) rfl _ wz (conv_bytesN k (has_bytes hz.2.2.2 k (Nat.le_refl _)) hDR (fun e => by cases e))) hHeld ?_
  simp only [Act.put, List.setIfInBounds_toArray, List.set_cons_zero, List.set_cons_succ]
  refine takeTo 31 (some 128) (.bool true) rfl rfl (by kernel_rfl) (by kernel_rfl) (by kernel_rfl) (fun _ _ _ h => h) (by rfl) (fun wz _ => run_eql_strs _ _ rfl _ _ rfl rfl _ (beq_self_eq_true _) wz) hHeld ?_
  simp only [Act.put, List.setIfInBounds_toArray, List.set_cons_zero, List.set_cons_succ]
  refine takeTo 32 (some 129) (.bool true) rfl rfl (by kernel_rfl) (by kernel_rfl) (by kernel_rfl) (fun _ _ _ h => h) (by rfl) (fun _ _ => rfl) hHeld ?_
  simp only [Act.put, List.setIfInBounds_toArray, List.set_cons_zero, List.set_cons_succ]
  refine takeTo 33 (some 6) (.bool true) rfl rfl (by kernel_rfl) (by kernel_rfl) (by kernel_rfl) (fun _ _ _ h => h) (by rfl) (fun _ _ => rfl) hHeld ?_
  simp only [Act.put, List.setIfInBounds_toArray, List.set_cons_zero, List.set_cons_succ]
  refine wpAnyH_done (by kernel_rfl) ?_ _
  go_wp2
  go_ret
  exact ⟨rfl, hB7⟩

theorem xpre_walk (f h : Nat → Nat) (s0 x : Int) (a : Option Addr) (len cap : Nat) (zs : List Int) (w : World) (hf : ∀ j, j < 32 → f j < 256) (hs0 : (Lit.int .u64 s0).wf = true) (hx : (Lit.int .i64 x).wf = true) (ht : IsRow .u8 w a len cap zs) (hc : cap ≤ 140737488351232) :
    Calls Try.prog 8 #[.agg (cellsN .u8 32 f), .slice a len cap, .agg (spotCells s0 x h)] w fun e w' => e = .returned (.bool true) ∧ Below w.heap.size w w' := by
  obtain ⟨g, hg, e⟩ := all32 f hf
  obtain ⟨s, rfl, hs⟩ := u64_nat hs0
  rw [e]
  obtain ⟨hl, _, hnil⟩ := isRow_facts ht
  have hb := bytes_of_isRow ht
  by_cases h1 : 256 < len ∨ len < 16
  · exact xpre_long g h s x a len cap w h1 (by omega)
  · rcases id hb with h2 | ⟨b, o, rfl, _, _⟩
    · omega
    · by_cases hneg : x < 0
      · exact xpre_neg g h s x b o len (len / 16) (atN x % (len / 16)) cap (bn zs) w hg hs (i64_boundsX hx) (bn_lt zs) (by omega) rfl (by omega) rfl hl hc hb hneg
      · exact xpre_pos g h s x b o len (len / 16) (atN x % (len / 16)) cap (bn zs) w hg hs (i64_boundsX hx) (bn_lt zs) (by omega) rfl (by omega) rfl hl hc hb hneg
end Go.Proofs.Ytcnlegnfecpdnaa
