/- aes: Encrypt. -/
import Derived.Test.YtcnlegnfecpdnaaAesReg
namespace Go.Proofs.Ytcnlegnfecpdnaa
open Go.ChangeShapes Go.WideShapes Go.ChangeAt Go.RowKit
set_option linter.unusedVariables false

def encR (K : Nat → Nat) (R k : Nat) (s : Nat → Nat) : Nat → Nat := xorS (if k < R then colS mixN (turnS 1 (subS SB s)) else turnS 1 (subS SB s)) (rk K k)

def encAt (K : Nat → Nat) (R : Nat) (f : Nat → Nat) : Nat → Nat → Nat
  | 0 => xorS f (rk K 0)
  | k + 1 => encR K R (k + 1) (encAt K R f k)

def Byt (f : Nat → Nat) : Prop := ∀ j, j < 16 → f j < 256

theorem Byt.xor {f g : Nat → Nat} (hf : Byt f) (hg : Byt g) : Byt (xorS f g) := fun j hj => xor8 (hf j hj) (hg j hj)
theorem Byt.sub {f T : Nat → Nat} (hT : ∀ x, x < 256 → T x < 256) (hf : Byt f) : Byt (subS T f) := fun j hj => hT _ (hf j hj)
theorem Byt.turn {f : Nat → Nat} (t : Nat) (hf : Byt f) : Byt (turnS t f) := fun j hj => hf _ (by omega)
theorem Byt.mix {f : Nat → Nat} (hf : Byt f) : Byt (colS mixN f) := fun j hj => mixN_lt _ (fun r hr => hf _ (by omega)) _ (Nat.mod_lt _ (by decide))
theorem Byt.unmix {f : Nat → Nat} (hf : Byt f) : Byt (colS unmixN f) := fun j hj => unmixN_lt _ (fun r hr => hf _ (by omega)) _ (Nat.mod_lt _ (by decide))
theorem Byt.rk {K : Nat → Nat} (hK : ∀ j, j < 240 → K j < 256) (k : Nat) (hk : k ≤ 14) : Byt (rk K k) := fun j hj => hK _ (by omega)

theorem encR_lt {K : Nat → Nat} (hK : ∀ j, j < 240 → K j < 256) (R k : Nat) (hk : k ≤ 14) {s : Nat → Nat} (hs : Byt s) : Byt (encR K R k s) := by
  unfold encR
  refine Byt.xor ?_ (Byt.rk hK k hk)
  by_cases h : k < R
  · rw [if_pos h]; exact (((hs.sub SB_lt).turn 1)).mix
  · rw [if_neg h]; exact ((hs.sub SB_lt).turn 1)

theorem encAt_lt {K : Nat → Nat} (hK : ∀ j, j < 240 → K j < 256) (R : Nat) {f : Nat → Nat} (hf : Byt f) : ∀ k, k ≤ 14 → Byt (encAt K R f k)
  | 0, _ => hf.xor (Byt.rk hK 0 (by omega))
  | k + 1, h => encR_lt hK R (k + 1) h (encAt_lt hK R hf k (by omega))

theorem nilBlock (w : World) : (Instr.build 23 #[]).run Try.prog w = .ok (.agg (cellsN .u8 16 fun _ => 0)) w := run_build w 23 #[] (cellsN .u8 16 fun _ => 0) (by kernel_rfl)

set_option maxRecDepth 100000 in
theorem encrypt_nil (f : Nat → Nat) (w : World) :
    Calls Try.prog 13 #[.pointer none, .agg (cellsN .u8 16 f)] w fun e w' => e = .returned (.agg (cellsN .u8 16 fun _ => 0)) ∧ Below w.heap.size w w' := by
  have hb := nilBlock
  have hR : Has ((w.alloc (.cells (cellsN .u8 16 f) 23)).alloc (.cells (cellsN .u8 16 fun _ => 0) 23)) (w.heap.size + 1) 23 (cellsN .u8 16 fun _ => 0) := Has.new_at (by simp)
  go_enter Try.func13, Try.ntmps13
  go_wp2_with (refine wpList_store_row rfl 23 _ _ rfl (w.heap.size + 1) (cellsN .u8 16 fun _ => 0) rfl rfl 23 _ hR (by rw [cellsN_size]; exact Try.size23) (by simp [cellsN_size]) (cellsN_one _ _ _) ?_)
  exact bodyPost_ret (results_cell_row rfl _ _ (w.heap.size + 1) 23 _ (0, 0) _ rfl (hR.setRow _) Try.underlying23 rfl (by rw [cellsN_size]; exact Try.size23)) rfl ⟨rfl, below_setRow (two_below _ _ _) (by omega) _⟩

/-- The world of Encrypt, behind its set-up. -/
def EIn (w : World) (tb : Nat) (s : Nat → Nat) (wr : World) : Prop :=
  Has wr w.heap.size 23 (cellsN .u8 16 s) ∧ Has wr (w.heap.size + 1) 23 (cellsN .u8 16 fun _ => 0) ∧ Has wr tb 52 (cellsN .u8 256 SB) ∧ w.heap.size + 1 < tb ∧ Below w.heap.size w wr

theorem EIn.bel {w : World} {tb : Nat} {s : Nat → Nat} {wr : World} (h : EIn w tb s wr) : Below w.heap.size w wr := h.2.2.2.2

theorem EIn.below {w : World} {tb : Nat} {s : Nat → Nat} {wr wr' : World} (h : EIn w tb s wr) (hb : Below wr.heap.size wr wr') : EIn w tb s wr' :=
  ⟨h.1.below hb h.1.lt, h.2.1.below hb h.2.1.lt, h.2.2.1.below hb h.2.2.1.lt, h.2.2.2.1, h.2.2.2.2.trans (hb.mono h.2.2.2.2.size)⟩

theorem EIn.set {w : World} {tb : Nat} {s : Nat → Nat} {wr : World} (h : EIn w tb s wr) (s' : Nat → Nat) : EIn w tb s' (wr.setRow w.heap.size (cellsN .u8 16 s')) :=
  ⟨h.1.setRow _, h.2.1.setRow_other (by omega) _, h.2.2.1.setRow_other (by have := h.2.2.2.1; omega) _, h.2.2.2.1, below_setRow h.2.2.2.2 (Nat.le_refl _) _⟩

theorem EIn.drew {w : World} {tb : Nat} {s : Nat → Nat} {wr : World} (h : EIn w tb s wr) : EIn w tb s wr.drew := ⟨h.1, h.2.1, h.2.2.1, h.2.2.2.1, h.2.2.2.2.drew⟩

set_option maxRecDepth 100000 in
set_option maxHeartbeats 1600000 in
theorem encrypt_any (K : Nat → Nat) (R : Nat) (B f : Nat → Nat) (g : Nat) (w : World) (hK : ∀ j, j < 240 → K j < 256) (hR : R ≤ 14) (hf : Byt f) (hC : Has w g 57 (ccells K R B)) :
    Calls Try.prog 13 #[.pointer (some ⟨g, 0, none⟩), .agg (cellsN .u8 16 f)] w fun e w' => e = .returned (.agg (cellsN .u8 16 (encAt K R f R))) ∧ Below w.heap.size w w' := by
  have hsb := substitutes_any ((w.alloc (.cells (cellsN .u8 16 f) 23)).alloc (.cells (cellsN .u8 16 fun _ => 0) 23))
  have hz := (zero_of_info Try.zero52).1
  obtain ⟨Z, hZ⟩ : ∃ Z, Z = cellsN .u8 256 fun _ => 0 := ⟨_, rfl⟩
  rw [← hZ] at hz
  have HZ : Hid (Z.size = 256) := (by rw [hZ, cellsN_size] : Z.size = 256)
  clear hZ
  go_enter Try.func13, Try.ntmps13
  go_wp2_with (first
    | (go_at_call 27; refine hsb.mono ?_; rintro e w1 ⟨rfl, hb1⟩; have hn1 : Has (w1.alloc (.cells Z 52)) w1.heap.size 52 Z := Has.new _ _ _)
    | (refine wpList_store_rowG rfl 52 _ _ rfl w1.heap.size (cellsN .u8 256 SB) rfl rfl 52 _ hn1 (by rw [cellsN_size]; exact Try.size52) (by rw [cellsN_size]; exact HZ.out) (cellsN_one _ _ _) ?_
       intro w2 hw2
       have hs1 : w.heap.size + 1 < w1.heap.size := by have := hb1.size; simp at this; omega
       have hI : EIn w w1.heap.size f w2 := by
         rw [hw2]
         refine ⟨((((Has.new_at rfl).alloc _).below hb1 (by simp; omega)).alloc _).setRow_other (by omega) _, (((Has.new_at (by simp)).below hb1 (by simp)).alloc _).setRow_other (by omega) _, hn1.setRow _, hs1, below_setRow (((two_below _ _ _).trans (hb1.mono (by simp; omega))).alloc (by omega) _) (by omega) _⟩
       clear hw2 hn1 hb1 hsb hz))
              -- walk
  obtain ⟨tb, htb⟩ : ∃ tb, tb = w1.heap.size := ⟨_, rfl⟩
  rw [← htb] at hI hs1 ⊢
  clear htb
  have hs : Byt f := hf
  have hI0 := hI.drew
  have hCd : Has w2.drew g 57 (ccells K R B) := hC.below hI0.bel hC.lt
  refine wp_region_held_drew (S := fun w' => Has w' g 57 (ccells K R B)) (by kernel_rfl) hCd (fun hHeld => ?_)
  refine takeTo 1 (some 12) (.pointer (some ⟨g, 0, none⟩)) rfl rfl (by kernel_rfl) (by kernel_rfl) (by kernel_rfl) (fun _ _ _ h => h) (by rfl) (fun _ _ => rfl) hHeld ?_
  simp only [Act.put, List.setIfInBounds_toArray, List.set_cons_zero, List.set_cons_succ]
  refine takeTo 2 (some 13) (.pointer (some ⟨g, 0, none⟩)) rfl rfl (by kernel_rfl) (by kernel_rfl) (by kernel_rfl) (fun _ _ _ h => h) (by rfl) (fun _ _ => rfl) hHeld ?_
  simp only [Act.put, List.setIfInBounds_toArray, List.set_cons_zero, List.set_cons_succ]
  refine takeTo 3 (some 14) (.pointer (some ⟨g, 0, none⟩)) rfl rfl (by kernel_rfl) (by kernel_rfl) (by kernel_rfl) (fun _ _ _ h => h) (by rfl) (fun wz _ => run_fieldAddr 57 _ 0 rfl (.pointer (some ⟨g, 0, none⟩)) (.pointer (some ⟨g, 0, none⟩)) rfl (field0 g) wz) hHeld ?_
  simp only [Act.put, List.setIfInBounds_toArray, List.set_cons_zero, List.set_cons_succ]
  refine takeTo 4 (some 15) (.pointer (some ⟨g, 0, none⟩)) rfl rfl (by kernel_rfl) (by kernel_rfl) (by kernel_rfl) (fun _ _ _ h => h) (by rfl) (fun wz _ => run_indexAddr 55 _ _ rfl g 0 0 15 16 23 rfl rfl Try.underlying55 Try.size23 (by omega) wz) hHeld ?_
  simp only [Act.put, List.setIfInBounds_toArray, List.set_cons_zero, List.set_cons_succ]
  refine takeTo 5 (some 16) (.agg (cellsN .u8 16 (rk K 0))) rfl rfl (by kernel_rfl) (by kernel_rfl) (by kernel_rfl) (fun _ _ _ h => h) (by rfl) (fun wz hz => run_load_mid 23 _ rfl g (0) rfl _ Try.underlying23 rfl (by rw [cellsN_size]; exact Try.size23) wz (ckey hz 0 (by omega))) hHeld ?_
  simp only [Act.put, List.setIfInBounds_toArray, List.set_cons_zero, List.set_cons_succ]
  refine ready1 0 (by kernel_rfl) (stepVal (some 11) (.agg (cellsN .u8 16 f)) _ rfl rfl (by rfl) (run_load_row 23 _ rfl w.heap.size rfl _ 23 Try.underlying23 (by rw [cellsN_size]; exact Try.size23) _ hI0.1) ⟨hHeld, ?_⟩)
  simp only [Act.put, List.setIfInBounds_toArray, List.set_cons_zero, List.set_cons_succ]
  refine callTo 6 (some 17) 30 #[.agg (cellsN .u8 16 f), .agg (cellsN .u8 16 (rk K 0))] (by kernel_rfl) rfl rfl (by rfl) (by kernel_rfl) (xor_any f (rk K 0) _ hs (Byt.rk hK 0 (by omega))) ?_
  rintro e w3a ⟨rfl, hba⟩
  have hIa := hI0.below hba
  have hCa : Has w3a g 57 (ccells K R B) := hC.below hIa.bel hC.lt
  refine ⟨_, rfl, hCa, ?_⟩
  simp only [Act.put, List.setIfInBounds_toArray, List.set_cons_zero, List.set_cons_succ]
  have hIb := hIa.set (xorS f (rk K 0))
  refine ready1 7 (by kernel_rfl) (stepSkip none (w3a.setRow w.heap.size (cellsN .u8 16 (xorS f (rk K 0)))) rfl rfl (by rfl) (run_store_row 23 _ _ rfl w.heap.size rfl _ rfl 23 (by rw [cellsN_size]; exact Try.size23) _ hIa.1 (by simp [cellsN_size]) (cellsN_one _ _ _)) ⟨hC.below hIb.bel hC.lt, ?_⟩)
  obtain ⟨w3, hw3⟩ : ∃ v, v = w3a.setRow w.heap.size (cellsN .u8 16 (xorS f (rk K 0))) := ⟨_, rfl⟩
  rw [← hw3] at hIb ⊢
  clear hw3 hIa hCa hba hHeld hCd hI0 hI
  simp only [Act.put]
  refine wpAnyH_done (by kernel_rfl) ?_ _
  clear hs
  go_wp2
  go_loopw [6] (fun i wr => ∃ k : Nat, k ≤ R ∧ i = .int .i64 ((k + 1 : Nat) : Int) ∧ EIn w tb (encAt K R f k) wr)
    (fun i _ => 15 - (intOf i).toNat)
  case atStart => exact ⟨0, Nat.zero_le _, rfl, hIb⟩
  case round =>
    clear hIb
    obtain ⟨k, hk, rfl, hI⟩ := hrel
    have hs := encAt_lt hK R hf k (by omega)
    have hcr := cr (hC.below hI.bel hC.lt)
    by_cases hlt : k < R
    · obtain ⟨s, hse⟩ : ∃ s, s = encAt K R f k := ⟨_, rfl⟩
      rw [← hse] at hI hs
      have HS : Hid (s = encAt K R f k) := hse
      clear hse
      have i1 : (k : Int) + 1 ≤ (R : Int) := by omega
      have hsub := hs.sub SB_lt
      have htn := hsub.turn 1
      have hthr : ∀ wz, EIn w tb s wz → Calls Try.prog 32 #[.pointer (some ⟨tb, 0, none⟩), .agg (cellsN .u8 16 s)] wz fun e w' => e = .returned (.agg (cellsN .u8 16 (subS SB s))) ∧ EIn w tb s w' := fun wz h =>
        (through_any SB s tb 0 wz hs h.2.2.1.lt (fun x hx => by rw [Nat.zero_add]; exact h.2.2.1.num x hx)).mono fun e w' h' => ⟨h'.1, h.below h'.2⟩
      by_cases hm : k + 1 < R
      · have i2 : (k : Int) + 1 < (R : Int) := by omega
        have HT : Hid (Byt (turnS 1 (subS SB s))) := htn
        have hmixed : Byt (colS mixN (turnS 1 (subS SB s))) := htn.mix
        clear hs hsub htn
        go_wp2_with (first
          | (refine wpList_load_row rfl 23 _ rfl w.heap.size rfl 23 (cellsN .u8 16 s) (0, 0) _ hI.1 Try.underlying23 rfl (by rw [cellsN_size]; exact Try.size23) ?_)
          | (go_at_call 32; refine (hthr _ hI).mono ?_; rintro e w4 ⟨rfl, hI4⟩)
          | (go_at_call 31; refine (turnRows_any _ 1 _ (by omega)).mono ?_; rintro e w5 ⟨rfl, hb5⟩; have hI5 := hI4.below hb5)
          | (refine wpList_store_rowG rfl 23 _ _ rfl w.heap.size (cellsN .u8 16 (turnS 1 (subS SB s))) rfl rfl 23 _ hI5.1 (by rw [cellsN_size]; exact Try.size23) (by simp [cellsN_size]) (cellsN_one _ _ _) ?_
             intro w6 hw6
             have hI6 := hI5.set (turnS 1 (subS SB s))
             rw [← hw6] at hI6
             have hcr6 := cr (hC.below hI6.bel hC.lt)
             clear hw6 hI5 hI4 hI hthr hcr)
          | (refine wpList_load_row rfl 23 _ rfl w.heap.size rfl 23 (cellsN .u8 16 (turnS 1 (subS SB s))) (0, 0) _ hI6.1 Try.underlying23 rfl (by rw [cellsN_size]; exact Try.size23) ?_)
          | (go_at_call 33; refine (each_mix _ _ HT.out).mono ?_; rintro e w7 ⟨rfl, hb7⟩; have hI7 := hI6.below hb7)
          | (refine wpList_store_rowG rfl 23 _ _ rfl w.heap.size (cellsN .u8 16 (colS mixN (turnS 1 (subS SB s)))) rfl rfl 23 _ hI7.1 (by rw [cellsN_size]; exact Try.size23) (by simp [cellsN_size]) (cellsN_one _ _ _) ?_
             intro w8 hw8
             have hI8 := hI7.set (colS mixN (turnS 1 (subS SB s)))
             rw [← hw8] at hI8
             clear hw8 hI7 hI6 hcr6))
        have hs := hmixed
        obtain ⟨s2, hs2⟩ : ∃ s2, s2 = colS mixN (turnS 1 (subS SB s)) := ⟨_, rfl⟩
        rw [← hs2] at hs hI8 ⊢
        have hI0 := hI8.drew
        have hCd : Has w8.drew g 57 (ccells K R B) := hC.below hI0.bel hC.lt
        refine wp_region_held_drew (S := fun w' => Has w' g 57 (ccells K R B)) (by kernel_rfl) hCd (fun hHeld => ?_)
        refine takeTo 1 (some 38) (.pointer (some ⟨g, 0, none⟩)) rfl rfl (by kernel_rfl) (by kernel_rfl) (by kernel_rfl) (fun _ _ _ h => h) (by rfl) (fun _ _ => rfl) hHeld ?_
        simp only [Act.put, List.setIfInBounds_toArray, List.set_cons_zero, List.set_cons_succ]
        refine takeTo 2 (some 39) (.int .i64 ((k : Int) + 1)) rfl rfl (by kernel_rfl) (by kernel_rfl) (by kernel_rfl) (fun _ _ _ h => h) (by rfl) (fun _ _ => rfl) hHeld ?_
        simp only [Act.put, List.setIfInBounds_toArray, List.set_cons_zero, List.set_cons_succ]
        refine takeTo 3 (some 40) (.pointer (some ⟨g, 0, none⟩)) rfl rfl (by kernel_rfl) (by kernel_rfl) (by kernel_rfl) (fun _ _ _ h => h) (by rfl) (fun _ _ => rfl) hHeld ?_
        simp only [Act.put, List.setIfInBounds_toArray, List.set_cons_zero, List.set_cons_succ]
        refine takeTo 4 (some 41) (.pointer (some ⟨g, 0, none⟩)) rfl rfl (by kernel_rfl) (by kernel_rfl) (by kernel_rfl) (fun _ _ _ h => h) (by rfl) (fun wz _ => run_fieldAddr 57 _ 0 rfl (.pointer (some ⟨g, 0, none⟩)) (.pointer (some ⟨g, 0, none⟩)) rfl (field0 g) wz) hHeld ?_
        simp only [Act.put, List.setIfInBounds_toArray, List.set_cons_zero, List.set_cons_succ]
        refine takeTo 5 (some 42) (.pointer (some ⟨g, 0 + (k + 1) * 16, none⟩)) rfl rfl (by kernel_rfl) (by kernel_rfl) (by kernel_rfl) (fun _ _ _ h => h) (by rfl) (fun wz _ => run_indexAddr 55 _ _ rfl g 0 (k + 1) 15 16 23 rfl rfl Try.underlying55 Try.size23 (by omega) wz) hHeld ?_
        simp only [Act.put, List.setIfInBounds_toArray, List.set_cons_zero, List.set_cons_succ]
        refine takeTo 6 (some 43) (.agg (cellsN .u8 16 (rk K (k + 1)))) rfl rfl (by kernel_rfl) (by kernel_rfl) (by kernel_rfl) (fun _ _ _ h => h) (by rfl) (fun wz hz => run_load_mid 23 _ rfl g (0 + (k + 1) * 16) rfl _ Try.underlying23 rfl (by rw [cellsN_size]; exact Try.size23) wz (by rw [Nat.zero_add]; exact ckey hz (k + 1) (by omega))) hHeld ?_
        simp only [Act.put, List.setIfInBounds_toArray, List.set_cons_zero, List.set_cons_succ]
        refine ready1 0 (by kernel_rfl) (stepVal (some 37) (.agg (cellsN .u8 16 s2)) _ rfl rfl (by rfl) (run_load_row 23 _ rfl w.heap.size rfl _ 23 Try.underlying23 (by rw [cellsN_size]; exact Try.size23) _ hI0.1) ⟨hHeld, ?_⟩)
        simp only [Act.put, List.setIfInBounds_toArray, List.set_cons_zero, List.set_cons_succ]
        refine callTo 7 (some 44) 30 #[.agg (cellsN .u8 16 s2), .agg (cellsN .u8 16 (rk K (k + 1)))] (by kernel_rfl) rfl rfl (by rfl) (by kernel_rfl) (xor_any s2 (rk K (k + 1)) _ hs (Byt.rk hK (k + 1) (by omega))) ?_
        rintro e w9a ⟨rfl, hba⟩
        have hIa := hI0.below hba
        have hCa : Has w9a g 57 (ccells K R B) := hC.below hIa.bel hC.lt
        refine ⟨_, rfl, hCa, ?_⟩
        simp only [Act.put, List.setIfInBounds_toArray, List.set_cons_zero, List.set_cons_succ]
        have hIb := hIa.set (xorS s2 (rk K (k + 1)))
        refine ready1 8 (by kernel_rfl) (stepSkip none (w9a.setRow w.heap.size (cellsN .u8 16 (xorS s2 (rk K (k + 1))))) rfl rfl (by rfl) (run_store_row 23 _ _ rfl w.heap.size rfl _ rfl 23 (by rw [cellsN_size]; exact Try.size23) _ hIa.1 (by simp [cellsN_size]) (cellsN_one _ _ _)) ⟨hC.below hIb.bel hC.lt, ?_⟩)
        obtain ⟨w9, hw9⟩ : ∃ v, v = w9a.setRow w.heap.size (cellsN .u8 16 (xorS s2 (rk K (k + 1)))) := ⟨_, rfl⟩
        rw [← hw9] at hIb ⊢
        clear hw9 hIa hCa hba hHeld hCd hI0 hI8
        simp only [Act.put]
        refine wpAnyH_done (by kernel_rfl) ?_ _
        go_wp2
        go_roundw
        case rel =>
          refine ⟨k + 1, by omega, by go_num, ?_⟩
          show EIn w tb (encR K R (k + 1) (encAt K R f k)) _
          unfold encR
          rw [if_pos hm, ← HS.out, ← hs2]
          exact hIb
        case measure => simp [intOf]; omega
      · have i2 : ¬ (k : Int) + 1 < (R : Int) := by omega
        clear hs hsub
        go_wp2_with (first
          | (refine wpList_load_row rfl 23 _ rfl w.heap.size rfl 23 (cellsN .u8 16 s) (0, 0) _ hI.1 Try.underlying23 rfl (by rw [cellsN_size]; exact Try.size23) ?_)
          | (go_at_call 32; refine (hthr _ hI).mono ?_; rintro e w4 ⟨rfl, hI4⟩)
          | (go_at_call 31; refine (turnRows_any _ 1 _ (by omega)).mono ?_; rintro e w5 ⟨rfl, hb5⟩; have hI5 := hI4.below hb5)
          | (refine wpList_store_rowG rfl 23 _ _ rfl w.heap.size (cellsN .u8 16 (turnS 1 (subS SB s))) rfl rfl 23 _ hI5.1 (by rw [cellsN_size]; exact Try.size23) (by simp [cellsN_size]) (cellsN_one _ _ _) ?_
             intro w6 hw6
             have hI6 := hI5.set (turnS 1 (subS SB s))
             rw [← hw6] at hI6
             have hcr6 := cr (hC.below hI6.bel hC.lt)
             clear hw6 hI5 hI4 hI hthr hcr))
        have hs := htn
        obtain ⟨s2, hs2⟩ : ∃ s2, s2 = turnS 1 (subS SB s) := ⟨_, rfl⟩
        rw [← hs2] at hs hI6 ⊢
        have hI0 := hI6.drew
        have hCd : Has w6.drew g 57 (ccells K R B) := hC.below hI0.bel hC.lt
        refine wp_region_held_drew (S := fun w' => Has w' g 57 (ccells K R B)) (by kernel_rfl) hCd (fun hHeld => ?_)
        refine takeTo 1 (some 38) (.pointer (some ⟨g, 0, none⟩)) rfl rfl (by kernel_rfl) (by kernel_rfl) (by kernel_rfl) (fun _ _ _ h => h) (by rfl) (fun _ _ => rfl) hHeld ?_
        simp only [Act.put, List.setIfInBounds_toArray, List.set_cons_zero, List.set_cons_succ]
        refine takeTo 2 (some 39) (.int .i64 ((k : Int) + 1)) rfl rfl (by kernel_rfl) (by kernel_rfl) (by kernel_rfl) (fun _ _ _ h => h) (by rfl) (fun _ _ => rfl) hHeld ?_
        simp only [Act.put, List.setIfInBounds_toArray, List.set_cons_zero, List.set_cons_succ]
        refine takeTo 3 (some 40) (.pointer (some ⟨g, 0, none⟩)) rfl rfl (by kernel_rfl) (by kernel_rfl) (by kernel_rfl) (fun _ _ _ h => h) (by rfl) (fun _ _ => rfl) hHeld ?_
        simp only [Act.put, List.setIfInBounds_toArray, List.set_cons_zero, List.set_cons_succ]
        refine takeTo 4 (some 41) (.pointer (some ⟨g, 0, none⟩)) rfl rfl (by kernel_rfl) (by kernel_rfl) (by kernel_rfl) (fun _ _ _ h => h) (by rfl) (fun wz _ => run_fieldAddr 57 _ 0 rfl (.pointer (some ⟨g, 0, none⟩)) (.pointer (some ⟨g, 0, none⟩)) rfl (field0 g) wz) hHeld ?_
        simp only [Act.put, List.setIfInBounds_toArray, List.set_cons_zero, List.set_cons_succ]
        refine takeTo 5 (some 42) (.pointer (some ⟨g, 0 + (k + 1) * 16, none⟩)) rfl rfl (by kernel_rfl) (by kernel_rfl) (by kernel_rfl) (fun _ _ _ h => h) (by rfl) (fun wz _ => run_indexAddr 55 _ _ rfl g 0 (k + 1) 15 16 23 rfl rfl Try.underlying55 Try.size23 (by omega) wz) hHeld ?_
        simp only [Act.put, List.setIfInBounds_toArray, List.set_cons_zero, List.set_cons_succ]
        refine takeTo 6 (some 43) (.agg (cellsN .u8 16 (rk K (k + 1)))) rfl rfl (by kernel_rfl) (by kernel_rfl) (by kernel_rfl) (fun _ _ _ h => h) (by rfl) (fun wz hz => run_load_mid 23 _ rfl g (0 + (k + 1) * 16) rfl _ Try.underlying23 rfl (by rw [cellsN_size]; exact Try.size23) wz (by rw [Nat.zero_add]; exact ckey hz (k + 1) (by omega))) hHeld ?_
        simp only [Act.put, List.setIfInBounds_toArray, List.set_cons_zero, List.set_cons_succ]
        refine ready1 0 (by kernel_rfl) (stepVal (some 37) (.agg (cellsN .u8 16 s2)) _ rfl rfl (by rfl) (run_load_row 23 _ rfl w.heap.size rfl _ 23 Try.underlying23 (by rw [cellsN_size]; exact Try.size23) _ hI0.1) ⟨hHeld, ?_⟩)
        simp only [Act.put, List.setIfInBounds_toArray, List.set_cons_zero, List.set_cons_succ]
        refine callTo 7 (some 44) 30 #[.agg (cellsN .u8 16 s2), .agg (cellsN .u8 16 (rk K (k + 1)))] (by kernel_rfl) rfl rfl (by rfl) (by kernel_rfl) (xor_any s2 (rk K (k + 1)) _ hs (Byt.rk hK (k + 1) (by omega))) ?_
        rintro e w9a ⟨rfl, hba⟩
        have hIa := hI0.below hba
        have hCa : Has w9a g 57 (ccells K R B) := hC.below hIa.bel hC.lt
        refine ⟨_, rfl, hCa, ?_⟩
        simp only [Act.put, List.setIfInBounds_toArray, List.set_cons_zero, List.set_cons_succ]
        have hIb := hIa.set (xorS s2 (rk K (k + 1)))
        refine ready1 8 (by kernel_rfl) (stepSkip none (w9a.setRow w.heap.size (cellsN .u8 16 (xorS s2 (rk K (k + 1))))) rfl rfl (by rfl) (run_store_row 23 _ _ rfl w.heap.size rfl _ rfl 23 (by rw [cellsN_size]; exact Try.size23) _ hIa.1 (by simp [cellsN_size]) (cellsN_one _ _ _)) ⟨hC.below hIb.bel hC.lt, ?_⟩)
        obtain ⟨w9, hw9⟩ : ∃ v, v = w9a.setRow w.heap.size (cellsN .u8 16 (xorS s2 (rk K (k + 1)))) := ⟨_, rfl⟩
        rw [← hw9] at hIb ⊢
        clear hw9 hIa hCa hba hHeld hCd hI0 hI6
        simp only [Act.put]
        refine wpAnyH_done (by kernel_rfl) ?_ _
        go_wp2
        go_roundw
        case rel =>
          refine ⟨k + 1, by omega, by go_num, ?_⟩
          show EIn w tb (encR K R (k + 1) (encAt K R f k)) _
          unfold encR
          rw [if_neg hm, ← HS.out, ← hs2]
          exact hIb
        case measure => simp [intOf]; omega
    · obtain rfl : k = R := by omega
      have i1 : ¬ (k : Int) + 1 ≤ (k : Int) := by omega
      have hN := hI.2.1.setRow (cellsN .u8 16 (encAt K k f k))
      go_wp2_with (first
        | (refine wpList_load_row rfl 23 _ rfl w.heap.size rfl 23 _ (0, 0) _ hI.1 Try.underlying23 rfl (by rw [cellsN_size]; exact Try.size23) ?_)
        | (refine wpList_store_row rfl 23 _ _ rfl (w.heap.size + 1) (cellsN .u8 16 (encAt K k f k)) rfl rfl 23 _ hI.2.1 (by rw [cellsN_size]; exact Try.size23) (by simp [cellsN_size]) (cellsN_one _ _ _) ?_))
      exact bodyPost_ret (results_cell_row rfl _ _ (w.heap.size + 1) 23 _ (0, 0) _ rfl hN Try.underlying23 rfl (by rw [cellsN_size]; exact Try.size23)) rfl ⟨rfl, below_setRow hI.bel (by omega) _⟩
end Go.Proofs.Ytcnlegnfecpdnaa
