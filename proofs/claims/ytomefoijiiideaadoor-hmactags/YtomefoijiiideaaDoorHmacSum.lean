/- hmac's sum over pieces, and Sum. -/
import Derived.Test.YtomefoijiiideaaDoorHmacDig
import Derived.Test.YtomefoijiiideaaDoorRegTo
namespace Go.Proofs.YtomefoijiiideaaDoor
open Go.ChangeShapes Go.WideShapes Go.ChangeAt Go.RowKit
set_option linter.unusedVariables false

/-- The inner message: the key's 64 bytes under 54, and the data. -/
def imsg (H0 K kf : Nat → Nat) (kl : Nat) (M : Nat → Nat) : Nat → Nat := cat (xorm (fillk H0 K kf kl) 54) 64 M
/-- The outer message. -/
def omsg (H0 K kf : Nat → Nat) (kl : Nat) (D : Nat → Nat) : Nat → Nat := cat (xorm (fillk H0 K kf kl) 92) 64 D
/-- The HMAC of the first N bytes of M under the key kf. -/
def HM (H0 K kf : Nat → Nat) (kl : Nat) (M : Nat → Nat) (N : Nat) : Nat → Nat := SHA H0 K (omsg H0 K kf kl (SHA H0 K (imsg H0 K kf kl M) (64 + N))) 96

theorem xorm_lt (H0 K kf : Nat → Nat) (kl m : Nat) (hk : ∀ j, kf j < 256) (hm : m < 256) (j : Nat) : xorm (fillk H0 K kf kl) m j < 256 := xor_lt8 (fillk_lt H0 K kf kl hk j) hm

theorem imsg_lt (H0 K kf : Nat → Nat) (kl : Nat) (M : Nat → Nat) (hk : ∀ j, kf j < 256) (hM : ∀ j, M j < 256) (j : Nat) : imsg H0 K kf kl M j < 256 := cat_lt _ _ _ (xorm_lt H0 K kf kl 54 hk (by decide)) hM j
theorem omsg_lt (H0 K kf : Nat → Nat) (kl : Nat) (D : Nat → Nat) (hk : ∀ j, kf j < 256) (hD : ∀ j, D j < 256) (j : Nat) : omsg H0 K kf kl D j < 256 := cat_lt _ _ _ (xorm_lt H0 K kf kl 92 hk (by decide)) hD j

theorem cat_at (f g : Nat → Nat) (n j : Nat) (h : j < n) : cat f n g j = f j := by unfold cat; rw [if_pos h]
theorem cat_behind (f g : Nat → Nat) (n j : Nat) : cat f n g (n + j) = g j := by unfold cat; rw [if_neg (by omega), Nat.add_sub_cancel_left]

/-- Pieces behind a key. -/
theorem Parts.behind {w w' : World} {pa : Option Addr} {n : Nat} {A : Nat → Option Addr} {L C off M : Nat → Nat} (h : Parts w pa n A L C off M) (hb : Below w.heap.size w w') (ik : Nat → Nat) : Parts w' pa n A L C (fun i => 64 + off i) (cat ik 64 M) := by
  intro i hi
  obtain ⟨⟨b, o, e, hb1, hc⟩, h2, h3, h4⟩ := h i hi
  refine ⟨⟨b, o, e, Nat.lt_of_lt_of_le hb1 hb.size, (hb.cell hb1).trans hc⟩, h2, by show 64 + off (i + 1) = 64 + off i + L i; omega, ?_⟩
  exact (h4.below hb (Nat.le_refl _)).congr (fun j _ => by show cat ik 64 M (64 + off i + j) = M (off i + j); rw [Nat.add_assoc, cat_behind])

/-- One piece that lies in a block of its own. -/
theorem parts_one {w : World} {g : Nat} {a : Option Addr} {l c s : Nat} {m : Nat → Nat} (hc : w.cell? ⟨g, 0, none⟩ = some (.slice a l c)) (hl : l ≤ c) (hb : Bytes w a l fun j => m (s + j)) :
    Parts w (some ⟨g, 0, none⟩) 1 (fun _ => a) (fun _ => l) (fun _ => c) (fun i => s + i * l) m := by
  intro i hi
  obtain rfl : i = 0 := by omega
  refine ⟨⟨g, 0, rfl, ?_, hc⟩, hl, by show s + (0 + 1) * l = s + 0 * l + l; omega, by simpa using hb⟩
  by_cases h : g < w.heap.size
  · exact h
  · have : w.heap[g]? = none := by simp; omega
    simp [World.cell?, this] at hc

/-- What holds behind the inner digest. -/
def SInv (H0 K kf : Nat → Nat) (kl : Nat) (w wr : World) (g g6 : Nat) (f : Nat → Nat) : Prop :=
  Has wr w.heap.size 23 (cellsN .u8 32 fun _ => 0) ∧ Has wr g 53 (cellsN .u8 64 (fillk H0 K kf kl)) ∧ Has wr g6 23 (cellsN .u8 32 f) ∧ w.heap.size < g ∧ w.heap.size < g6 ∧ Below w.heap.size w wr ∧ Glob H0 K wr

theorem SInv.below {H0 K kf f : Nat → Nat} {kl g g6 : Nat} {w wr w' : World} (h : SInv H0 K kf kl w wr g g6 f) (hb : Below wr.heap.size wr w') : SInv H0 K kf kl w w' g g6 f := by
  obtain ⟨a, b, c, d, e, f, k⟩ := h
  exact ⟨a.below hb a.lt, b.below hb b.lt, c.below hb c.lt, d, e, f.trans (hb.mono f.size), k.below hb k.1⟩

theorem SInv.bytes {H0 K kf f : Nat → Nat} {kl g g6 : Nat} {w wr : World} (h : SInv H0 K kf kl w wr g g6 f) : Bytes wr (some ⟨g6, 0, none⟩) 32 f :=
  .inr ⟨g6, 0, rfl, h.2.2.1.lt, fun j hj => by rw [Nat.zero_add]; exact h.2.2.1.num j hj⟩

theorem inner_dig {H0 K kf M off : Nat → Nat} {w : World} {pa : Option Addr} {A : Nat → Option Addr} {L C : Nat → Nat} {n kl : Nat} (pc : Nat) (hH0 : ∀ j, j < 8 → H0 j < 4294967296) (hk : ∀ j, kf j < 256) (hM : ∀ j, M j < 256)
    (hn : n ≤ 1000) (h0 : off 0 = 0) (hP : Parts w pa n A L C off M) (hoff : ∀ i, i ≤ n → off i < 1152921504606845000) (w' : World) (g : Nat) (hb' : Below w.heap.size w w') (hG' : Glob H0 K w') (hB' : Bytes w' (some ⟨g, 0, none⟩) 64 (xorm (fillk H0 K kf kl) 54)) :
    Calls Tryd.prog 35 #[.slice (some ⟨g, 0, none⟩) 64 64, .slice pa n pc] w' fun e w'' => e = .returned (.agg (cellsN .u8 32 (SHA H0 K (imsg H0 K kf kl M) (64 + off n)))) ∧ Below w'.heap.size w' w'' :=
  hdig_any (m := imsg H0 K kf kl M) (off := fun i => 64 + off i) (A := A) (L := L) (C := C) 64 pc hG' hH0 (imsg_lt H0 K kf kl M hk hM) (Nat.le_refl _) (hB'.congr (fun j hj => cat_at _ _ _ _ hj)) hn (by show 64 + off 0 = 64; omega) (hP.behind hb' _) (fun i hi => by have := hoff i hi; show 64 + off i < _; omega)

theorem outer_dig {H0 K kf f : Nat → Nat} {kl : Nat} (hH0 : ∀ j, j < 8 → H0 j < 4294967296) (hk : ∀ j, kf j < 256) (hf : ∀ j, f j < 256) (w' : World) (g q c : Nat) (hG' : Glob H0 K w') (hB' : Bytes w' (some ⟨g, 0, none⟩) 64 (xorm (fillk H0 K kf kl) 92))
    (hc' : w'.cell? ⟨q, 0, none⟩ = some (.slice (some ⟨c, 0, none⟩) 32 32)) (hD' : Bytes w' (some ⟨c, 0, none⟩) 32 f) :
    Calls Tryd.prog 35 #[.slice (some ⟨g, 0, none⟩) 64 64, .slice (some ⟨q, 0, none⟩) 1 1] w' fun e w'' => e = .returned (.agg (cellsN .u8 32 (SHA H0 K (omsg H0 K kf kl f) 96))) ∧ Below w'.heap.size w' w'' := by
  have hp := parts_one (s := 64) (m := omsg H0 K kf kl f) hc' (Nat.le_refl _) (hD'.congr (fun j _ => cat_behind _ _ _ _))
  obtain ⟨off, hoff⟩ : ∃ off : Nat → Nat, off = fun i => 64 + i * 32 := ⟨_, rfl⟩
  rw [← hoff] at hp
  have e1 : off 1 = 96 := by rw [hoff]
  have h := hdig_any 64 1 hG' hH0 (omsg_lt H0 K kf kl f hk hf) (Nat.le_refl _) (hB'.congr (fun j hj => cat_at _ _ _ _ hj)) (by decide) (by rw [hoff]) hp (fun i hi => by rw [hoff]; show 64 + i * 32 < _; omega)
  rw [e1] at h
  exact h

theorem HM_eq (H0 K kf : Nat → Nat) (kl : Nat) (M : Nat → Nat) (N : Nat) : HM H0 K kf kl M N = SHA H0 K (omsg H0 K kf kl (SHA H0 K (imsg H0 K kf kl M) (64 + N))) 96 := by unfold HM; exact Eq.refl _

theorem sinv5 {H0 K kf f : Nat → Nat} {kl g : Nat} {w w4 w5 : World} (hG : Glob H0 K w) (hR4 : Has w4 w.heap.size 23 (cellsN .u8 32 fun _ => 0)) (hg4 : Has w4 g 53 (cellsN .u8 64 (fillk H0 K kf kl))) (hB4 : Below w.heap.size w w4) (hle2 : w.heap.size + 1 ≤ g)
    (hn4 : Has (w4.alloc (.cells (cellsN .u8 32 fun _ => 0) 23)) w4.heap.size 23 (cellsN .u8 32 fun _ => 0))
    (hw5 : w5 = (w4.alloc (.cells (cellsN .u8 32 fun _ => 0) 23)).setRow w4.heap.size (cellsN .u8 32 f)) : SInv H0 K kf kl w w5.drew g w4.heap.size f := by
  have hR := hR4.lt
  have hgl := hg4.lt
  have hB5 : Below w.heap.size w w5 := by rw [hw5]; exact below_setRow (hB4.alloc hB4.size _) hB4.size _
  refine ⟨?_, ?_, ?_, by omega, by omega, hB5.drew, hG.below hB5.drew hG.1⟩
  · show Has w5 _ _ _
    rw [hw5]; exact (hR4.alloc _).setRow_other (by omega) _
  · show Has w5 _ _ _
    rw [hw5]; exact (hg4.alloc _).setRow_other (by omega) _
  · show Has w5 _ _ _
    rw [hw5]; exact hn4.setRow _

set_option maxRecDepth 100000 in
set_option maxHeartbeats 1600000 in
theorem hsums_any {H0 K kf M off : Nat → Nat} {w : World} {ka pa : Option Addr} {A : Nat → Option Addr} {L C : Nat → Nat} {n kl : Nat} (kc pc : Nat) (hG : Glob H0 K w) (hH0 : ∀ j, j < 8 → H0 j < 4294967296) (hk : ∀ j, kf j < 256) (hM : ∀ j, M j < 256)
    (hkc : kl ≤ kc) (hkl : kl < 1152921504606846000) (hkb : Bytes w ka kl kf) (hn : n ≤ 1000) (h0 : off 0 = 0) (hP : Parts w pa n A L C off M) (hoff : ∀ i, i ≤ n → off i < 1152921504606845000) :
    Calls Tryd.prog 28 #[.slice ka kl kc, .slice pa n pc] w fun e w' => e = .returned (.agg (cellsN .u8 32 (HM H0 K kf kl M (off n)))) ∧ Below w.heap.size w w' := by
  have hR1 : Has (w.alloc (.cells (cellsN .u8 32 fun _ => 0) 23)) w.heap.size 23 (cellsN .u8 32 fun _ => 0) := Has.new _ _ _
  have hb1 : Below w.heap.size w (w.alloc (.cells (cellsN .u8 32 fun _ => 0) 23)) := (Below.refl _ _).alloc (Nat.le_refl _) _
  have hmk := masker_any kc (hG.below hb1 hG.1) hH0 hk hkc hkl (hkb.below hb1 (Nat.le_refl _))
  obtain ⟨f, hf⟩ : ∃ f, f = SHA H0 K (imsg H0 K kf kl M) (64 + off n) := ⟨_, rfl⟩
  have hfl : ∀ j, f j < 256 := fun j => by rw [hf]; exact SHA_lt' _ _ _ _ _
  obtain ⟨f2, hf2⟩ : ∃ f2, f2 = SHA H0 K (omsg H0 K kf kl f) 96 := ⟨_, rfl⟩
  have HF : Hid (HM H0 K kf kl M (off n) = f2) := (by rw [hf2, hf]; exact HM_eq _ _ _ _ _ _)
  have hin1 := inner_dig (K := K) (kl := kl) pc hH0 hk hM hn h0 hP hoff
  rw [← hf] at hin1
  have HI : Hid _ := hin1
  have hou1 := outer_dig (K := K) (kl := kl) hH0 hk hfl
  rw [← hf2] at hou1
  have HO : Hid _ := hou1
  have hxl := xorm_lt H0 K kf kl
  have hfk := fillk_lt H0 K kf kl hk
  have hin : ∀ W g, Has W g 53 (cellsN .u8 64 (fillk H0 K kf kl)) → Calls Tryd.prog 44 #[.int .u8 54, .pointer (some ⟨g, 0, none⟩)] W fun e w' => e = .returned (.slice (some ⟨W.heap.size, 0, none⟩) 64 64) ∧ Bytes w' (some ⟨W.heap.size, 0, none⟩) 64 (xorm (fillk H0 K kf kl) 54) ∧ Below W.heap.size W w' := fun W g h => mask_any _ 54 g W (by decide) (fun j _ => hfk j) h
  have hout : ∀ W g, Has W g 53 (cellsN .u8 64 (fillk H0 K kf kl)) → Calls Tryd.prog 44 #[.int .u8 92, .pointer (some ⟨g, 0, none⟩)] W fun e w' => e = .returned (.slice (some ⟨W.heap.size, 0, none⟩) 64 64) ∧ Bytes w' (some ⟨W.heap.size, 0, none⟩) 64 (xorm (fillk H0 K kf kl) 92) ∧ Below W.heap.size W w' := fun W g h => mask_any _ 92 g W (by decide) (fun j _ => hfk j) h
  have HIN : Hid _ := hin
  have HOUT : Hid _ := hout
  have hsz : (w.alloc (.cells (cellsN .u8 32 fun _ => 0) 23)).heap.size = w.heap.size + 1 := by simp
  clear hf hf2 hin1 hou1 hin hout hxl hfk hP hoff h0 hkb hM hk hH0 hfl
  go_enter Tryd.func28, Tryd.ntmps28
  go_wp2_with (first
    | ((go_at_call 34)
       (refine hmk.mono ?_)
       (rintro e w2 ⟨g, rfl, hg2, hle2, hb2⟩)
       (have hR2 := hR1.below hb2 hR1.lt)
       (have hB2 : Below w.heap.size w w2 := hb1.trans (hb2.mono (by rw [hsz]; omega)))
       (rw [hsz] at hle2)
       (have hc1 := HIN.out w2 g hg2)
       (clear hmk hb2))
    | ((go_at_call 44)
       (refine hc1.mono ?_)
       (rintro e w3 ⟨rfl, hy3, hb3⟩)
       (have hR3 := hR2.below hb3 hR2.lt)
       (have hg3 := hg2.below hb3 hg2.lt)
       (have hB3 : Below w.heap.size w w3 := hB2.trans (hb3.mono hB2.size))
       (have hd1 := HI.out w3 w2.heap.size hB3 (hG.below hB3 hG.1) hy3)
       (clear hc1 hb3))
    | ((go_at_call 35)
       (refine hd1.mono ?_)
       (rintro e w4 ⟨rfl, hb4⟩)
       (have hR4 := hR3.below hb4 hR3.lt)
       (have hg4 := hg3.below hb4 hg3.lt)
       (have hB4 : Below w.heap.size w w4 := hB3.trans (hb4.mono hB3.size))
       (have hn4 : Has (w4.alloc (.cells (cellsN .u8 32 fun _ => 0) 23)) w4.heap.size 23 (cellsN .u8 32 fun _ => 0) := Has.new _ _ _)
       (clear hd1 hb4 hy3))
    | ((refine wpList_store_rowG rfl 23 _ _ rfl (w4.heap.size) (cellsN .u8 32 f) rfl rfl 23 _ hn4 (by rw [cellsN_size]; exact Tryd.size23) (by simp [cellsN_size]) (cellsN_one _ _ _) ?_)
       (intro w5 hw5)
       (have hI5 := sinv5 hG hR4 hg4 hB4 hle2 hn4 hw5)
       (clear hw5 hn4 hR4 hg4 hR3 hg3 hR2 hg2 hR1 hb1)))
  refine wp_region_held_drew (S := fun _ => True) (by kernel_rfl) trivial (fun hHeld => ?_)
  refine takeTo 0 (some 13) (.func (.func 44) #[] #[.pointer (some ⟨g, 0, none⟩)]) rfl rfl (by kernel_rfl) (by kernel_rfl) (by kernel_rfl) (fun _ _ _ h => h) (by rfl) (fun _ _ => rfl) hHeld ?_
  simp only [Act.put, List.setIfInBounds_toArray, List.set_cons_zero, List.set_cons_succ]
  refine takeTo 2 (some 15) (.slice (some ⟨w4.heap.size, 0, none⟩) 32 32) rfl rfl (by kernel_rfl) (by kernel_rfl) (by kernel_rfl) (fun _ _ _ h => h) (by rfl) (fun _ _ => by kernel_rfl) hHeld ?_
  simp only [Act.put, List.setIfInBounds_toArray, List.set_cons_zero, List.set_cons_succ]
  refine ready2 1 3 (by kernel_rfl) ?_ ?_
  · refine stepCall (some 14) 44 #[.int .u8 92, .pointer (some ⟨g, 0, none⟩)] rfl rfl (by rfl) (by kernel_rfl) (HOUT.out _ g hI5.2.1) ?_
    rintro e w6 ⟨rfl, hy6, hb6⟩
    have hI6 := hI5.below hb6
    refine ⟨_, rfl, trivial, ?_⟩
    simp only [Act.put, List.setIfInBounds_toArray, List.set_cons_zero, List.set_cons_succ]
    have hb7 : Below w6.heap.size w6 (w6.alloc (.cells #[.slice (some ⟨w4.heap.size, 0, none⟩) 32 32] 22)) := (Below.refl _ _).alloc (Nat.le_refl _) _
    refine ready1 3 (by kernel_rfl) (stepVal (some 16) (.slice (some ⟨w6.heap.size, 0, none⟩) 1 1) (w6.alloc (.cells #[.slice (some ⟨w4.heap.size, 0, none⟩) 32 32] 22)) rfl rfl (by rfl) (by kernel_rfl) ⟨trivial, ?_⟩)
    simp only [Act.put, List.setIfInBounds_toArray, List.set_cons_zero, List.set_cons_succ]
    have hI7 := hI6.below hb7
    have hy7 := hy6.below hb7 (Nat.le_refl _)
    have hc7 : (w6.alloc (.cells #[.slice (some ⟨w4.heap.size, 0, none⟩) 32 32] 22)).cell? ⟨w6.heap.size, 0, none⟩ = some (.slice (some ⟨w4.heap.size, 0, none⟩) 32 32) := (Has.new w6 22 #[.slice (some ⟨w4.heap.size, 0, none⟩) 32 32]).cell 0
    refine ready1 4 (by kernel_rfl) (stepCall (some 17) 35 #[.slice (some ⟨w5.drew.heap.size, 0, none⟩) 64 64, .slice (some ⟨w6.heap.size, 0, none⟩) 1 1] rfl rfl (by rfl) (by kernel_rfl) (HO.out _ _ _ _ hI7.2.2.2.2.2.2 hy7 hc7 hI7.bytes) ?_)
    rintro e w9 ⟨rfl, hb9⟩
    have hI9 := hI7.below hb9
    refine ⟨_, rfl, trivial, ?_⟩
    simp only [Act.put, List.setIfInBounds_toArray, List.set_cons_zero, List.set_cons_succ]
    refine ready1 5 (by kernel_rfl) (stepSkip none (w9.setRow w.heap.size (cellsN .u8 32 f2)) rfl rfl (by rfl) (run_store_row 23 (.tmp 4) (.tmp 17) rfl w.heap.size rfl (cellsN .u8 32 f2) rfl 23 (by rw [cellsN_size]; exact Tryd.size23) w9 hI9.1 (by simp [cellsN_size]) (cellsN_one _ _ _)) ⟨trivial, ?_⟩)
    simp only [Act.put]
    refine wpAnyH_done (by kernel_rfl) ?_ _
    have hR9 := hI9.1.setRow (cellsN .u8 32 f2)
    have hB9 := below_setRow hI9.2.2.2.2.2.1 (Nat.le_refl _) (cellsN .u8 32 f2)
    go_wp2
    exact bodyPost_ret (results_cell_row rfl _ _ (w.heap.size) 23 _ (0, 0) _ rfl hR9 Tryd.underlying23 rfl (by rw [cellsN_size]; exact Tryd.size23)) rfl ⟨by rw [HF.out], hB9⟩
  · have hb6 : Below w5.drew.heap.size w5.drew (w5.drew.alloc (.cells #[.slice (some ⟨w4.heap.size, 0, none⟩) 32 32] 22)) := (Below.refl _ _).alloc (Nat.le_refl _) _
    refine stepVal (some 16) (.slice (some ⟨w5.drew.heap.size, 0, none⟩) 1 1) (w5.drew.alloc (.cells #[.slice (some ⟨w4.heap.size, 0, none⟩) 32 32] 22)) rfl rfl (by rfl) (by kernel_rfl) ⟨trivial, ?_⟩
    simp only [Act.put, List.setIfInBounds_toArray, List.set_cons_zero, List.set_cons_succ]
    have hI6 := hI5.below hb6
    have hH6 := Has.new w5.drew 22 #[.slice (some ⟨w4.heap.size, 0, none⟩) 32 32]
    obtain ⟨W6, hW6⟩ : ∃ W6, W6 = w5.drew.alloc (.cells #[.slice (some ⟨w4.heap.size, 0, none⟩) 32 32] 22) := ⟨_, rfl⟩
    rw [← hW6] at hI6 hH6 ⊢
    clear hW6
    refine ready1 1 (by kernel_rfl) (stepCall (some 14) 44 #[.int .u8 92, .pointer (some ⟨g, 0, none⟩)] rfl rfl (by rfl) (by kernel_rfl) (HOUT.out _ g hI6.2.1) ?_)
    rintro e w7 ⟨rfl, hy7, hb7⟩
    have hI7 := hI6.below hb7
    refine ⟨_, rfl, trivial, ?_⟩
    simp only [Act.put, List.setIfInBounds_toArray, List.set_cons_zero, List.set_cons_succ]
    have hc7 : w7.cell? ⟨w5.drew.heap.size, 0, none⟩ = some (.slice (some ⟨w4.heap.size, 0, none⟩) 32 32) := (hH6.below hb7 hH6.lt).cell 0
    refine ready1 4 (by kernel_rfl) (stepCall (some 17) 35 #[.slice (some ⟨W6.heap.size, 0, none⟩) 64 64, .slice (some ⟨w5.drew.heap.size, 0, none⟩) 1 1] rfl rfl (by rfl) (by kernel_rfl) (HO.out _ _ _ _ hI7.2.2.2.2.2.2 hy7 hc7 hI7.bytes) ?_)
    rintro e w9 ⟨rfl, hb9⟩
    have hI9 := hI7.below hb9
    refine ⟨_, rfl, trivial, ?_⟩
    simp only [Act.put, List.setIfInBounds_toArray, List.set_cons_zero, List.set_cons_succ]
    refine ready1 5 (by kernel_rfl) (stepSkip none (w9.setRow w.heap.size (cellsN .u8 32 f2)) rfl rfl (by rfl) (run_store_row 23 (.tmp 4) (.tmp 17) rfl w.heap.size rfl (cellsN .u8 32 f2) rfl 23 (by rw [cellsN_size]; exact Tryd.size23) w9 hI9.1 (by simp [cellsN_size]) (cellsN_one _ _ _)) ⟨trivial, ?_⟩)
    simp only [Act.put]
    refine wpAnyH_done (by kernel_rfl) ?_ _
    have hR9 := hI9.1.setRow (cellsN .u8 32 f2)
    have hB9 := below_setRow hI9.2.2.2.2.2.1 (Nat.le_refl _) (cellsN .u8 32 f2)
    go_wp2
    exact bodyPost_ret (results_cell_row rfl _ _ (w.heap.size) 23 _ (0, 0) _ rfl hR9 Tryd.underlying23 rfl (by rw [cellsN_size]; exact Tryd.size23)) rfl ⟨by rw [HF.out], hB9⟩

set_option maxRecDepth 100000 in
theorem hsum_one {H0 K kf M : Nat → Nat} {w : World} {ka ba : Option Addr} {n kl : Nat} (kc bc : Nat) (hG : Glob H0 K w) (hH0 : ∀ j, j < 8 → H0 j < 4294967296) (hk : ∀ j, kf j < 256) (hM : ∀ j, M j < 256)
    (hkc : kl ≤ kc) (hkl : kl < 1152921504606846000) (hkb : Bytes w ka kl kf) (hbc : n ≤ bc) (hn : n < 1152921504606845000) (hbb : Bytes w ba n M) :
    Calls Tryd.prog 14 #[.slice ka kl kc, .slice ba n bc] w fun e w' => e = .returned (.agg (cellsN .u8 32 (HM H0 K kf kl M n))) ∧ Below w.heap.size w w' := by
  have hR1 : Has (w.alloc (.cells (cellsN .u8 32 fun _ => 0) 23)) w.heap.size 23 (cellsN .u8 32 fun _ => 0) := Has.new _ _ _
  have hR2 := hR1.alloc (.cells #[.slice ba n bc] 22)
  have hb2 : Below w.heap.size w ((w.alloc (.cells (cellsN .u8 32 fun _ => 0) 23)).alloc (.cells #[.slice ba n bc] 22)) := ((Below.refl _ _).alloc (Nat.le_refl _) _).alloc (by simp) _
  have hc2 : ((w.alloc (.cells (cellsN .u8 32 fun _ => 0) 23)).alloc (.cells #[.slice ba n bc] 22)).cell? ⟨w.heap.size + 1, 0, none⟩ = some (.slice ba n bc) := (Has.new_at (t := 22) (cs := #[.slice ba n bc]) (by simp)).cell 0
  have hs := hsums_any (off := fun i => 0 + i * n) (n := 1) kc 1 (hG.below hb2 hG.1) hH0 hk hM hkc hkl (hkb.below hb2 (Nat.le_refl _)) (by decide) (by simp) (parts_one hc2 hbc ((hbb.below hb2 (Nat.le_refl _)).congr (fun j _ => by rw [Nat.zero_add]))) (fun i hi => by rcases (show i = 0 ∨ i = 1 by omega) with rfl | rfl <;> simp <;> omega)
  rw [show (0 + 1 * n) = n from by omega] at hs
  obtain ⟨f, hf⟩ : ∃ f, f = HM H0 K kf kl M n := ⟨_, rfl⟩
  have HF : Hid (f = HM H0 K kf kl M n) := hf
  rw [← hf] at hs
  clear hf hR1 hc2 hkb hbb hk hM hH0
  go_enter Tryd.func14, Tryd.ntmps14
  go_wp2_with (first
    | ((go_at_call 28)
       (refine hs.mono ?_)
       (rintro e w3 ⟨rfl, hb3⟩)
       (have hR3 := hR2.below hb3 hR2.lt)
       (have hB3 : Below w.heap.size w w3 := hb2.trans (hb3.mono hb2.size))
       (clear hs hb3))
    | ((refine wpList_store_rowG rfl 23 _ _ rfl (w.heap.size) (cellsN .u8 32 f) rfl rfl 23 _ hR3 (by rw [cellsN_size]; exact Tryd.size23) (by simp [cellsN_size]) (cellsN_one _ _ _) ?_)
       (intro w6 hw6)
       (have hR6 : Has w6 w.heap.size 23 (cellsN .u8 32 f) := (by rw [hw6]; exact hR3.setRow _))
       (have hB6 : Below w.heap.size w w6 := (by rw [hw6]; exact below_setRow hB3 (Nat.le_refl _) _))
       (clear hw6)))
  exact bodyPost_ret (results_cell_row rfl _ _ (w.heap.size) 23 _ (0, 0) _ rfl hR6 Tryd.underlying23 rfl (by rw [cellsN_size]; exact Tryd.size23)) rfl ⟨by rw [HF.out], hB6⟩
end Go.Proofs.YtomefoijiiideaaDoor
