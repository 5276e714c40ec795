/- aes: Decrypt. -/
import Derived.Test.YtcnlegnfecpdnaaAesEnc
namespace Go.Proofs.Ytcnlegnfecpdnaa
open Go.ChangeShapes Go.WideShapes Go.ChangeAt Go.RowKit
set_option linter.unusedVariables false

def decR (K : Nat → Nat) (R k : Nat) (s : Nat → Nat) : Nat → Nat := subS IB (turnS 3 (if k < R then colS unmixN (xorS s (rk K k)) else xorS s (rk K k)))

def decAt (K : Nat → Nat) (R : Nat) (f : Nat → Nat) : Nat → Nat → Nat
  | 0 => f
  | n + 1 => decR K R (R - n) (decAt K R f n)

def decS (K : Nat → Nat) (R : Nat) (f : Nat → Nat) : Nat → Nat := xorS (decAt K R f R) (rk K 0)

theorem decR_lt {K : Nat → Nat} (hK : ∀ j, j < 240 → K j < 256) (R k : Nat) (hk : k ≤ 14) {s : Nat → Nat} (hs : Byt s) : Byt (decR K R k s) := by
  unfold decR
  have hx := hs.xor (Byt.rk hK k hk)
  refine (Byt.turn 3 ?_).sub IB_lt
  by_cases h : k < R
  · rw [if_pos h]; exact hx.unmix
  · rw [if_neg h]; exact hx

theorem decAt_lt {K : Nat → Nat} (hK : ∀ j, j < 240 → K j < 256) (R : Nat) (hR : R ≤ 14) {f : Nat → Nat} (hf : Byt f) : ∀ n, Byt (decAt K R f n)
  | 0 => hf
  | n + 1 => decR_lt hK R (R - n) (by omega) (decAt_lt hK R hR hf n)

set_option maxRecDepth 100000 in
theorem decrypt_nil (f : Nat → Nat) (w : World) :
    Calls Try.prog 15 #[.pointer none, .agg (cellsN .u8 16 f)] w fun e w' => e = .returned (.agg (cellsN .u8 16 fun _ => 0)) ∧ Below w.heap.size w w' := by
  have hb := nilBlock
  have hR : Has ((w.alloc (.cells (cellsN .u8 16 f) 23)).alloc (.cells (cellsN .u8 16 fun _ => 0) 23)) (w.heap.size + 1) 23 (cellsN .u8 16 fun _ => 0) := Has.new_at (by simp)
  go_enter Try.func15, Try.ntmps15
  go_wp2_with (refine wpList_store_row rfl 23 _ _ rfl (w.heap.size + 1) (cellsN .u8 16 fun _ => 0) rfl rfl 23 _ hR (by rw [cellsN_size]; exact Try.size23) (by simp [cellsN_size]) (cellsN_one _ _ _) ?_)
  exact bodyPost_ret (results_cell_row rfl _ _ (w.heap.size + 1) 23 _ (0, 0) _ rfl (hR.setRow _) Try.underlying23 rfl (by rw [cellsN_size]; exact Try.size23)) rfl ⟨rfl, below_setRow (two_below _ _ _) (by omega) _⟩

def DIn (w : World) (s : Nat → Nat) (wr : World) : Prop :=
  Has wr w.heap.size 23 (cellsN .u8 16 s) ∧ Has wr (w.heap.size + 1) 23 (cellsN .u8 16 fun _ => 0) ∧ Below w.heap.size w wr

theorem DIn.bel {w : World} {s : Nat → Nat} {wr : World} (h : DIn w s wr) : Below w.heap.size w wr := h.2.2

theorem DIn.below {w : World} {s : Nat → Nat} {wr wr' : World} (h : DIn w s wr) (hb : Below wr.heap.size wr wr') : DIn w s wr' :=
  ⟨h.1.below hb h.1.lt, h.2.1.below hb h.2.1.lt, h.bel.trans (hb.mono h.bel.size)⟩

theorem DIn.set {w : World} {s : Nat → Nat} {wr : World} (h : DIn w s wr) (s' : Nat → Nat) : DIn w s' (wr.setRow w.heap.size (cellsN .u8 16 s')) :=
  ⟨h.1.setRow _, h.2.1.setRow_other (by omega) _, below_setRow h.bel (Nat.le_refl _) _⟩

theorem DIn.drew {w : World} {s : Nat → Nat} {wr : World} (h : DIn w s wr) : DIn w s wr.drew := ⟨h.1, h.2.1, h.2.2.drew⟩

set_option maxRecDepth 100000 in
set_option maxHeartbeats 1600000 in
theorem decrypt_any (K : Nat → Nat) (R : Nat) (f : Nat → Nat) (g : Nat) (w : World) (hK : ∀ j, j < 240 → K j < 256) (hR : R ≤ 14) (hf : Byt f) (hC : Has w g 57 (ccells K R IB)) :
    Calls Try.prog 15 #[.pointer (some ⟨g, 0, none⟩), .agg (cellsN .u8 16 f)] w fun e w' => e = .returned (.agg (cellsN .u8 16 (decS K R f))) ∧ Below w.heap.size w w' := by
  have hcr0 : ∀ o1 o2, ((w.alloc o1).alloc o2).cell? ⟨g, 240, none⟩ = some (.int .i64 (R : Nat)) := fun o1 o2 => cr ((hC.alloc o1).alloc o2)
  go_enter Try.func15, Try.ntmps15
  go_wp2
  go_loopw [5] (fun i wr => ∃ n : Nat, n ≤ R ∧ i = .int .i64 ((R - n : Nat) : Int) ∧ DIn w (decAt K R f n) wr)
    (fun i _ => (intOf i).toNat)
  case atStart => exact ⟨0, Nat.zero_le _, rfl, (Has.new_at rfl).alloc _, Has.new_at (by simp), two_below _ _ _⟩
  case round =>
    clear hcr0
    obtain ⟨n, hn, rfl, hI⟩ := hrel
    have hs := decAt_lt hK R hR hf n
    by_cases hlt : n < R
    · obtain ⟨s, hse⟩ : ∃ s, s = decAt K R f n := ⟨_, rfl⟩
      rw [← hse] at hI hs
      have HS : Hid (s = decAt K R f n) := hse
      clear hse
      obtain ⟨k, hk⟩ : ∃ k, k = R - n := ⟨_, rfl⟩
      rw [← hk]
      have HK : Hid (k = R - n) := hk
      have k1 : 1 ≤ k := by omega
      have k2 : k ≤ R := by omega
      clear hk
      have i1 : (1 : Int) ≤ (k : Int) := by omega
      go_wp2_with fail
      have hI0 := hI.drew
      have hCd : Has wr.drew g 57 (ccells K R IB) := hC.below hI0.bel hC.lt
      refine wp_region_held_drew (S := fun w' => Has w' g 57 (ccells K R IB)) (by kernel_rfl) hCd (fun hHeld => ?_)
      refine takeTo 1 (some 18) (.pointer (some ⟨g, 0, none⟩)) rfl rfl (by kernel_rfl) (by kernel_rfl) (by kernel_rfl) (fun _ _ _ h => h) (by rfl) (fun _ _ => rfl) hHeld ?_
      simp only [Act.put, List.setIfInBounds_toArray, List.set_cons_zero, List.set_cons_succ]
      refine takeTo 2 (some 19) (.int .i64 (k : Int)) rfl rfl (by kernel_rfl) (by kernel_rfl) (by kernel_rfl) (fun _ _ _ h => h) (by rfl) (fun _ _ => rfl) hHeld ?_
      simp only [Act.put, List.setIfInBounds_toArray, List.set_cons_zero, List.set_cons_succ]
      refine takeTo 3 (some 20) (.pointer (some ⟨g, 0, none⟩)) rfl rfl (by kernel_rfl) (by kernel_rfl) (by kernel_rfl) (fun _ _ _ h => h) (by rfl) (fun _ _ => rfl) hHeld ?_
      simp only [Act.put, List.setIfInBounds_toArray, List.set_cons_zero, List.set_cons_succ]
      refine takeTo 4 (some 21) (.pointer (some ⟨g, 0, none⟩)) rfl rfl (by kernel_rfl) (by kernel_rfl) (by kernel_rfl) (fun _ _ _ h => h) (by rfl) (fun wz _ => run_fieldAddr 57 _ 0 rfl (.pointer (some ⟨g, 0, none⟩)) (.pointer (some ⟨g, 0, none⟩)) rfl (field0 g) wz) hHeld ?_
      simp only [Act.put, List.setIfInBounds_toArray, List.set_cons_zero, List.set_cons_succ]
      refine takeTo 5 (some 22) (.pointer (some ⟨g, 0 + k * 16, none⟩)) rfl rfl (by kernel_rfl) (by kernel_rfl) (by kernel_rfl) (fun _ _ _ h => h) (by rfl) (fun wz _ => run_indexAddr 55 _ _ rfl g 0 k 15 16 23 rfl rfl Try.underlying55 Try.size23 (by omega) wz) hHeld ?_
      simp only [Act.put, List.setIfInBounds_toArray, List.set_cons_zero, List.set_cons_succ]
      refine takeTo 6 (some 23) (.agg (cellsN .u8 16 (rk K k))) rfl rfl (by kernel_rfl) (by kernel_rfl) (by kernel_rfl) (fun _ _ _ h => h) (by rfl) (fun wz hz => run_load_mid 23 _ rfl g (0 + k * 16) rfl _ Try.underlying23 rfl (by rw [cellsN_size]; exact Try.size23) wz (by rw [Nat.zero_add]; exact ckey hz k (by omega))) hHeld ?_
      simp only [Act.put, List.setIfInBounds_toArray, List.set_cons_zero, List.set_cons_succ]
      refine ready1 0 (by kernel_rfl) (stepVal (some 17) (.agg (cellsN .u8 16 s)) _ rfl rfl (by rfl) (run_load_row 23 _ rfl w.heap.size rfl _ 23 Try.underlying23 (by rw [cellsN_size]; exact Try.size23) _ hI0.1) ⟨hHeld, ?_⟩)
      simp only [Act.put, List.setIfInBounds_toArray, List.set_cons_zero, List.set_cons_succ]
      refine callTo 7 (some 24) 30 #[.agg (cellsN .u8 16 s), .agg (cellsN .u8 16 (rk K k))] (by kernel_rfl) rfl rfl (by rfl) (by kernel_rfl) (xor_any s (rk K k) _ hs (Byt.rk hK k (by omega))) ?_
      rintro e w3a ⟨rfl, hba⟩
      have hIa := hI0.below hba
      have hCa : Has w3a g 57 (ccells K R IB) := hC.below hIa.bel hC.lt
      refine ⟨_, rfl, hCa, ?_⟩
      simp only [Act.put, List.setIfInBounds_toArray, List.set_cons_zero, List.set_cons_succ]
      have hIb := hIa.set (xorS s (rk K k))
      refine ready1 8 (by kernel_rfl) (stepSkip none (w3a.setRow w.heap.size (cellsN .u8 16 (xorS s (rk K k)))) rfl rfl (by rfl) (run_store_row 23 _ _ rfl w.heap.size rfl _ rfl 23 (by rw [cellsN_size]; exact Try.size23) _ hIa.1 (by simp [cellsN_size]) (cellsN_one _ _ _)) ⟨hC.below hIb.bel hC.lt, ?_⟩)
      obtain ⟨w3, hw3⟩ : ∃ v, v = w3a.setRow w.heap.size (cellsN .u8 16 (xorS s (rk K k))) := ⟨_, rfl⟩
      rw [← hw3] at hIb ⊢
      clear hw3 hIa hCa hba hHeld hCd hI0 hI
      simp only [Act.put]
      refine wpAnyH_done (by kernel_rfl) ?_ _
      have hx : Byt (xorS s (rk K k)) := hs.xor (Byt.rk hK k (by omega))
      obtain ⟨s1, hs1⟩ : ∃ s1, s1 = xorS s (rk K k) := ⟨_, rfl⟩
      rw [← hs1] at hIb hx ⊢
      have HS1 : Hid (s1 = xorS s (rk K k)) := hs1
      clear hs hs1
      have hcr3 := cr (hC.below hIb.bel hC.lt)
      by_cases hm : k < R
      · have i2 : (k : Int) < (R : Int) := by omega
        go_wp2_with (first
          | (refine wpList_load_row rfl 23 _ rfl w.heap.size rfl 23 (cellsN .u8 16 s1) (0, 0) _ hIb.1 Try.underlying23 rfl (by rw [cellsN_size]; exact Try.size23) ?_)
          | (go_at_call 33; refine (each_unmix _ _ hx).mono ?_; rintro e w7 ⟨rfl, hb7⟩; have hI7 := hIb.below hb7)
          | (refine wpList_store_rowG rfl 23 _ _ rfl w.heap.size (cellsN .u8 16 (colS unmixN s1)) rfl rfl 23 _ hI7.1 (by rw [cellsN_size]; exact Try.size23) (by simp [cellsN_size]) (cellsN_one _ _ _) ?_
             intro w8 hw8
             have hI8 := hI7.set (colS unmixN s1)
             rw [← hw8] at hI8
             clear hw8 hI7 hIb hcr3))
        have hs := hx.unmix
        obtain ⟨s2, hs2⟩ : ∃ s2, s2 = colS unmixN s1 := ⟨_, rfl⟩
        rw [← hs2] at hs hI8 ⊢
        have HS2 : Hid (s2 = colS unmixN s1) := hs2
        clear hs2
        have hI0 := hI8.drew
        have hCd : Has w8.drew g 57 (ccells K R IB) := hC.below hI0.bel hC.lt
        refine wp_region_held_drew (S := fun w' => Has w' g 57 (ccells K R IB)) (by kernel_rfl) hCd (fun hHeld => ?_)
        refine takeTo 0 (some 33) (.pointer (some ⟨g, 0, none⟩)) rfl rfl (by kernel_rfl) (by kernel_rfl) (by kernel_rfl) (fun _ _ _ h => h) (by rfl) (fun _ _ => rfl) hHeld ?_
        simp only [Act.put, List.setIfInBounds_toArray, List.set_cons_zero, List.set_cons_succ]
        refine takeTo 1 (some 34) (.pointer (some ⟨g, 0, none⟩)) rfl rfl (by kernel_rfl) (by kernel_rfl) (by kernel_rfl) (fun _ _ _ h => h) (by rfl) (fun _ _ => rfl) hHeld ?_
        simp only [Act.put, List.setIfInBounds_toArray, List.set_cons_zero, List.set_cons_succ]
        refine takeTo 2 (some 35) (.pointer (some ⟨g, 241, none⟩)) rfl rfl (by kernel_rfl) (by kernel_rfl) (by kernel_rfl) (fun _ _ _ h => h) (by rfl) (fun wz _ => run_fieldAddr 57 _ 2 rfl (.pointer (some ⟨g, 0, none⟩)) (.pointer (some ⟨g, 241, none⟩)) rfl (field2 g) wz) hHeld ?_
        simp only [Act.put, List.setIfInBounds_toArray, List.set_cons_zero, List.set_cons_succ]
        refine ready1 3 (by kernel_rfl) (stepVal (some 36) (.agg (cellsN .u8 16 s2)) _ rfl rfl (by rfl) (run_load_row 23 _ rfl w.heap.size rfl _ 23 Try.underlying23 (by rw [cellsN_size]; exact Try.size23) _ hI0.1) ⟨hHeld, ?_⟩)
        simp only [Act.put, List.setIfInBounds_toArray, List.set_cons_zero, List.set_cons_succ]
        refine callTo 4 (some 37) 31 #[.agg (cellsN .u8 16 s2), .int .i64 3] (by kernel_rfl) rfl rfl (by rfl) (by kernel_rfl) (turnRows_any s2 3 _ (by omega)) ?_
        rintro e wa ⟨rfl, hba⟩
        have hIa := hI0.below hba
        have hCa : Has wa g 57 (ccells K R IB) := hC.below hIa.bel hC.lt
        refine ⟨_, rfl, hCa, ?_⟩
        simp only [Act.put, List.setIfInBounds_toArray, List.set_cons_zero, List.set_cons_succ]
        refine callTo 5 (some 38) 32 #[.pointer (some ⟨g, 241, none⟩), .agg (cellsN .u8 16 (turnS 3 s2))] (by kernel_rfl) rfl rfl (by rfl) (by kernel_rfl) (through_any IB (turnS 3 s2) g 241 wa (hs.turn 3) hCa.lt (fun x hx => cb hCa x hx)) ?_
        rintro e wb ⟨rfl, hbb⟩
        have hIb := hIa.below hbb
        have hCb : Has wb g 57 (ccells K R IB) := hC.below hIb.bel hC.lt
        refine ⟨_, rfl, hCb, ?_⟩
        simp only [Act.put, List.setIfInBounds_toArray, List.set_cons_zero, List.set_cons_succ]
        have hIc := hIb.set (subS IB (turnS 3 s2))
        refine ready1 6 (by kernel_rfl) (stepSkip none (wb.setRow w.heap.size (cellsN .u8 16 (subS IB (turnS 3 s2)))) rfl rfl (by rfl) (run_store_row 23 _ _ rfl w.heap.size rfl _ rfl 23 (by rw [cellsN_size]; exact Try.size23) _ hIb.1 (by simp [cellsN_size]) (cellsN_one _ _ _)) ⟨hC.below hIc.bel hC.lt, ?_⟩)
        obtain ⟨wc, hwc⟩ : ∃ v, v = wb.setRow w.heap.size (cellsN .u8 16 (subS IB (turnS 3 s2))) := ⟨_, rfl⟩
        rw [← hwc] at hIc ⊢
        clear hwc hIb hIa hCa hCb hba hbb hHeld hCd hI0 hI8
        simp only [Act.put]
        refine wpAnyH_done (by kernel_rfl) ?_ _
        go_wp2
        go_roundw
        case rel =>
          have hk := HK.out
          refine ⟨n + 1, by omega, by rw [hk]; congr 1; omega, ?_⟩
          show DIn w (decR K R (R - n) (decAt K R f n)) _
          unfold decR
          rw [← hk, if_pos hm, ← HS.out, ← HS1.out, ← HS2.out]
          exact hIc
        case measure => simp [intOf]; omega
      · have i2 : ¬ (k : Int) < (R : Int) := by omega
        go_wp2_with fail
        have hs := hx
        have hI9 := hIb
        clear hIb
        have hI0 := hI9.drew
        have hCd : Has w3.drew g 57 (ccells K R IB) := hC.below hI0.bel hC.lt
        refine wp_region_held_drew (S := fun w' => Has w' g 57 (ccells K R IB)) (by kernel_rfl) hCd (fun hHeld => ?_)
        refine takeTo 0 (some 33) (.pointer (some ⟨g, 0, none⟩)) rfl rfl (by kernel_rfl) (by kernel_rfl) (by kernel_rfl) (fun _ _ _ h => h) (by rfl) (fun _ _ => rfl) hHeld ?_
        simp only [Act.put, List.setIfInBounds_toArray, List.set_cons_zero, List.set_cons_succ]
        refine takeTo 1 (some 34) (.pointer (some ⟨g, 0, none⟩)) rfl rfl (by kernel_rfl) (by kernel_rfl) (by kernel_rfl) (fun _ _ _ h => h) (by rfl) (fun _ _ => rfl) hHeld ?_
        simp only [Act.put, List.setIfInBounds_toArray, List.set_cons_zero, List.set_cons_succ]
        refine takeTo 2 (some 35) (.pointer (some ⟨g, 241, none⟩)) rfl rfl (by kernel_rfl) (by kernel_rfl) (by kernel_rfl) (fun _ _ _ h => h) (by rfl) (fun wz _ => run_fieldAddr 57 _ 2 rfl (.pointer (some ⟨g, 0, none⟩)) (.pointer (some ⟨g, 241, none⟩)) rfl (field2 g) wz) hHeld ?_
        simp only [Act.put, List.setIfInBounds_toArray, List.set_cons_zero, List.set_cons_succ]
        refine ready1 3 (by kernel_rfl) (stepVal (some 36) (.agg (cellsN .u8 16 s1)) _ rfl rfl (by rfl) (run_load_row 23 _ rfl w.heap.size rfl _ 23 Try.underlying23 (by rw [cellsN_size]; exact Try.size23) _ hI0.1) ⟨hHeld, ?_⟩)
        simp only [Act.put, List.setIfInBounds_toArray, List.set_cons_zero, List.set_cons_succ]
        refine callTo 4 (some 37) 31 #[.agg (cellsN .u8 16 s1), .int .i64 3] (by kernel_rfl) rfl rfl (by rfl) (by kernel_rfl) (turnRows_any s1 3 _ (by omega)) ?_
        rintro e wa ⟨rfl, hba⟩
        have hIa := hI0.below hba
        have hCa : Has wa g 57 (ccells K R IB) := hC.below hIa.bel hC.lt
        refine ⟨_, rfl, hCa, ?_⟩
        simp only [Act.put, List.setIfInBounds_toArray, List.set_cons_zero, List.set_cons_succ]
        refine callTo 5 (some 38) 32 #[.pointer (some ⟨g, 241, none⟩), .agg (cellsN .u8 16 (turnS 3 s1))] (by kernel_rfl) rfl rfl (by rfl) (by kernel_rfl) (through_any IB (turnS 3 s1) g 241 wa (hs.turn 3) hCa.lt (fun x hx => cb hCa x hx)) ?_
        rintro e wb ⟨rfl, hbb⟩
        have hIb := hIa.below hbb
        have hCb : Has wb g 57 (ccells K R IB) := hC.below hIb.bel hC.lt
        refine ⟨_, rfl, hCb, ?_⟩
        simp only [Act.put, List.setIfInBounds_toArray, List.set_cons_zero, List.set_cons_succ]
        have hIc := hIb.set (subS IB (turnS 3 s1))
        refine ready1 6 (by kernel_rfl) (stepSkip none (wb.setRow w.heap.size (cellsN .u8 16 (subS IB (turnS 3 s1)))) rfl rfl (by rfl) (run_store_row 23 _ _ rfl w.heap.size rfl _ rfl 23 (by rw [cellsN_size]; exact Try.size23) _ hIb.1 (by simp [cellsN_size]) (cellsN_one _ _ _)) ⟨hC.below hIc.bel hC.lt, ?_⟩)
        obtain ⟨wc, hwc⟩ : ∃ v, v = wb.setRow w.heap.size (cellsN .u8 16 (subS IB (turnS 3 s1))) := ⟨_, rfl⟩
        rw [← hwc] at hIc ⊢
        clear hwc hIb hIa hCa hCb hba hbb hHeld hCd hI0 hI9
        simp only [Act.put]
        refine wpAnyH_done (by kernel_rfl) ?_ _
        go_wp2
        go_roundw
        case rel =>
          have hk := HK.out
          refine ⟨n + 1, by omega, by rw [hk]; congr 1; omega, ?_⟩
          show DIn w (decR K R (R - n) (decAt K R f n)) _
          unfold decR
          rw [← hk, if_neg hm, ← HS.out, ← HS1.out]
          exact hIc
        case measure => simp [intOf]; omega
    · obtain rfl : n = R := by omega
      rw [Nat.sub_self]
      obtain ⟨s, hse⟩ : ∃ s, s = decAt K n f n := ⟨_, rfl⟩
      rw [← hse] at hI hs
      have HS : Hid (s = decAt K n f n) := hse
      clear hse
      go_wp2_with fail
      have hI0 := hI.drew
      have hCd : Has wr.drew g 57 (ccells K n IB) := hC.below hI0.bel hC.lt
      refine wp_region_held_drew (S := fun w' => Has w' g 57 (ccells K n IB)) (by kernel_rfl) hCd (fun hHeld => ?_)
      refine takeTo 1 (some 40) (.pointer (some ⟨g, 0, none⟩)) rfl rfl (by kernel_rfl) (by kernel_rfl) (by kernel_rfl) (fun _ _ _ h => h) (by rfl) (fun _ _ => rfl) hHeld ?_
      simp only [Act.put, List.setIfInBounds_toArray, List.set_cons_zero, List.set_cons_succ]
      refine takeTo 2 (some 41) (.pointer (some ⟨g, 0, none⟩)) rfl rfl (by kernel_rfl) (by kernel_rfl) (by kernel_rfl) (fun _ _ _ h => h) (by rfl) (fun _ _ => rfl) hHeld ?_
      simp only [Act.put, List.setIfInBounds_toArray, List.set_cons_zero, List.set_cons_succ]
      refine takeTo 3 (some 42) (.pointer (some ⟨g, 0, none⟩)) rfl rfl (by kernel_rfl) (by kernel_rfl) (by kernel_rfl) (fun _ _ _ h => h) (by rfl) (fun wz _ => run_fieldAddr 57 _ 0 rfl (.pointer (some ⟨g, 0, none⟩)) (.pointer (some ⟨g, 0, none⟩)) rfl (field0 g) wz) hHeld ?_
      simp only [Act.put, List.setIfInBounds_toArray, List.set_cons_zero, List.set_cons_succ]
      refine takeTo 4 (some 43) (.pointer (some ⟨g, 0, none⟩)) rfl rfl (by kernel_rfl) (by kernel_rfl) (by kernel_rfl) (fun _ _ _ h => h) (by rfl) (fun wz _ => run_indexAddr 55 _ _ rfl g 0 0 15 16 23 rfl rfl Try.underlying55 Try.size23 (by omega) wz) hHeld ?_
      simp only [Act.put, List.setIfInBounds_toArray, List.set_cons_zero, List.set_cons_succ]
      refine takeTo 5 (some 44) (.agg (cellsN .u8 16 (rk K 0))) rfl rfl (by kernel_rfl) (by kernel_rfl) (by kernel_rfl) (fun _ _ _ h => h) (by rfl) (fun wz hz => run_load_mid 23 _ rfl g (0) rfl _ Try.underlying23 rfl (by rw [cellsN_size]; exact Try.size23) wz (ckey hz 0 (by omega))) hHeld ?_
      simp only [Act.put, List.setIfInBounds_toArray, List.set_cons_zero, List.set_cons_succ]
      refine ready1 0 (by kernel_rfl) (stepVal (some 39) (.agg (cellsN .u8 16 s)) _ rfl rfl (by rfl) (run_load_row 23 _ rfl w.heap.size rfl _ 23 Try.underlying23 (by rw [cellsN_size]; exact Try.size23) _ hI0.1) ⟨hHeld, ?_⟩)
      simp only [Act.put, List.setIfInBounds_toArray, List.set_cons_zero, List.set_cons_succ]
      refine callTo 6 (some 45) 30 #[.agg (cellsN .u8 16 s), .agg (cellsN .u8 16 (rk K 0))] (by kernel_rfl) rfl rfl (by rfl) (by kernel_rfl) (xor_any s (rk K 0) _ hs (Byt.rk hK 0 (by omega))) ?_
      rintro e w9a ⟨rfl, hba⟩
      have hIa := hI0.below hba
      have hCa : Has w9a g 57 (ccells K n IB) := hC.below hIa.bel hC.lt
      refine ⟨_, rfl, hCa, ?_⟩
      simp only [Act.put, List.setIfInBounds_toArray, List.set_cons_zero, List.set_cons_succ]
      have hN := hIa.2.1.setRow (cellsN .u8 16 (xorS s (rk K 0)))
      have hbz := below_setRow hIa.bel (show w.heap.size ≤ w.heap.size + 1 by omega) (cellsN .u8 16 (xorS s (rk K 0)))
      refine ready1 7 (by kernel_rfl) (stepSkip none (w9a.setRow (w.heap.size + 1) (cellsN .u8 16 (xorS s (rk K 0)))) rfl rfl (by rfl) (run_store_row 23 _ _ rfl (w.heap.size + 1) rfl _ rfl 23 (by rw [cellsN_size]; exact Try.size23) _ hIa.2.1 (by simp [cellsN_size]) (cellsN_one _ _ _)) ⟨hC.below hbz hC.lt, ?_⟩)
      simp only [Act.put]
      refine wpAnyH_done (by kernel_rfl) ?_ _
      go_wp2
      refine bodyPost_ret (results_cell_row rfl _ _ (w.heap.size + 1) 23 _ (0, 0) _ rfl hN Try.underlying23 rfl (by rw [cellsN_size]; exact Try.size23)) rfl ⟨?_, hbz⟩
      unfold decS
      rw [HS.out]
end Go.Proofs.Ytcnlegnfecpdnaa
