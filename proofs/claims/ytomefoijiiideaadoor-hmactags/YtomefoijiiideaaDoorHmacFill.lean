/- hmac's fill: a key, or its digest where it is too long, with noughts behind it. -/
import Derived.Test.YtomefoijiiideaaDoorShaSum
import Derived.Laws.CopyOwn
namespace Go.Proofs.YtomefoijiiideaaDoor
open Go.ChangeShapes Go.WideShapes Go.ChangeAt Go.RowKit
set_option linter.unusedVariables false

theorem Tryd.size53 : (Tryd.prog.info? 53).map (·.size) = some 64 := by kernel_rfl

/-- A key's 64 bytes. -/
def fillk (H0 K kf : Nat → Nat) (kl : Nat) : Nat → Nat := fun j => if 64 < kl then (if j < 32 then SHA H0 K kf kl j else 0) else if j < kl then kf j else 0

theorem SHA_lt' (H0 K m : Nat → Nat) (N j : Nat) : SHA H0 K m N j < 256 := Nat.mod_lt _ (by decide)

theorem fillk_lt (H0 K kf : Nat → Nat) (kl : Nat) (h : ∀ j, kf j < 256) (j : Nat) : fillk H0 K kf kl j < 256 := by
  unfold fillk
  split
  · split
    · exact SHA_lt' _ _ _ _ _
    · decide
  · split
    · exact h _
    · decide

/-- Bytes laid over the beginning of a row of noughts. -/
theorem spliced (f : Nat → Nat) (n : Nat) (hn : n ≤ 64) : splice (cellsN .u8 64 fun _ => 0).toList 0 ((List.range n).map fun j => Value.int .u8 (f j : Nat)) = (cellsN .u8 64 fun j => if j < n then f j else 0).toList := by
  apply List.ext_getElem?
  intro i
  unfold splice
  rw [List.take_zero, List.nil_append]
  by_cases h1 : i < n
  · have e := cellsN_get .u8 64 (fun j => if j < n then f j else 0) i (by omega)
    rw [← Array.getElem?_toList, if_pos h1] at e
    rw [List.getElem?_append_left (by simpa using h1), e]
    simp [h1]
  · rw [List.getElem?_append_right (by simp; omega), List.getElem?_drop]
    simp only [List.length_map, List.length_range]
    rw [show 0 + n + (i - n) = i from by omega]
    by_cases h2 : i < 64
    · rw [Array.getElem?_toList, Array.getElem?_toList, cellsN_get _ _ _ _ h2, cellsN_get _ _ _ _ h2, if_neg h1]
    · rw [List.getElem?_eq_none (by simp [cellsN]; omega), List.getElem?_eq_none (by simp [cellsN]; omega)]

theorem Bytes.src {w : World} {a : Option Addr} {n : Nat} {f : Nat → Nat} (hb : Bytes w a n f) (c : Nat) (hc : c ≤ n) : 0 < ((List.range c).map fun j => Value.int .u8 (f j : Nat)).length → ∃ ad, a = some ad ∧ ∀ j v, ((List.range c).map fun j => Value.int .u8 (f j : Nat))[j]? = some v → w.cell? (ad.add j) = some v := by
  intro h0
  simp only [List.length_map, List.length_range] at h0
  rcases hb with h | ⟨b, off, rfl, h2, h3⟩
  · omega
  · refine ⟨_, rfl, fun j v hv => ?_⟩
    rw [Addr.add_mid]
    have hj : j < c := by have := (List.getElem?_eq_some_iff.1 hv).1; simpa using this
    rw [h3 j (by omega), ← hv]
    simp [hj]

theorem ints_one (f : Nat → Nat) (n : Nat) : ∀ v ∈ (List.range n).map fun j => Value.int .u8 (f j : Nat), v.oneCell' = true := by
  intro v hv
  obtain ⟨j, _, rfl⟩ := List.mem_map.1 hv
  rfl

set_option maxRecDepth 100000 in
set_option maxHeartbeats 1600000 in
theorem fill_any {H0 K kf : Nat → Nat} {kl : Nat} {w : World} {a : Option Addr} (cap : Nat) (hG : Glob H0 K w) (hH0 : ∀ j, j < 8 → H0 j < 4294967296) (hk : ∀ j, kf j < 256)
    (hcap : kl ≤ cap) (hN : kl < 1152921504606846000) (hb : Bytes w a kl kf) :
    Calls Tryd.prog 43 #[.slice a kl cap] w fun e w' => e = .returned (.agg (cellsN .u8 64 (fillk H0 K kf kl))) ∧ Below w.heap.size w w' := by
  have hR2 : Has ((w.alloc (.cells (cellsN .u8 64 fun _ => 0) 53)).alloc (.cells (cellsN .u8 64 fun _ => 0) 53)) w.heap.size 53 (cellsN .u8 64 fun _ => 0) := (Has.new _ _ _).alloc _
  have hB2 : Has ((w.alloc (.cells (cellsN .u8 64 fun _ => 0) 53)).alloc (.cells (cellsN .u8 64 fun _ => 0) 53)) (w.heap.size + 1) 53 (cellsN .u8 64 fun _ => 0) := Has.new_at (by simp)
  have hw2 : Below w.heap.size w ((w.alloc (.cells (cellsN .u8 64 fun _ => 0) 53)).alloc (.cells (cellsN .u8 64 fun _ => 0) 53)) := ((Below.refl _ _).alloc (Nat.le_refl _) _).alloc (by simp) _
  obtain ⟨W, hW⟩ : ∃ W, W = (w.alloc (.cells (cellsN .u8 64 fun _ => 0) 53)).alloc (.cells (cellsN .u8 64 fun _ => 0) 53) := ⟨_, rfl⟩
  by_cases hlong : 64 < kl
  · have i0 : (64 : Int) < (kl : Int) := by omega
    have hs := sum_any cap (hG.below hw2 hG.1) hH0 hk hcap hN (hb.below hw2 (Nat.le_refl _))
    obtain ⟨f, hf⟩ : ∃ f, f = SHA H0 K kf kl := ⟨_, rfl⟩
    rw [← hf] at hs
    obtain ⟨cs, hcs⟩ : ∃ cs, cs = (List.range 32).map fun j => Value.int .u8 (f j : Nat) := ⟨_, rfl⟩
    have hcl : cs.length = 32 := by rw [hcs]; simp
    have HC : Hid (cs = (List.range 32).map fun j => Value.int .u8 (f j : Nat)) := hcs
    have HF : Hid (f = SHA H0 K kf kl) := hf
    clear hcs hf
    go_enter Tryd.func43, Tryd.ntmps43
    go_wp2_with (first
      | ((go_at_call 7)
         (refine hs.mono ?_)
         (rintro e w3 ⟨rfl, hb3⟩)
         (have hR3 := hR2.below hb3 hR2.lt)
         (have hB3 := hB2.below hb3 hB2.lt)
         (have hw3 : Below w.heap.size w w3 := hw2.trans (hb3.mono hw2.size))
         (have hn3 : Has (w3.alloc (.cells (cellsN .u8 32 fun _ => 0) 23)) w3.heap.size 23 (cellsN .u8 32 fun _ => 0) := Has.new _ _ _)
         (clear hs hb3))
      | ((refine wpList_store_rowG rfl 23 _ _ rfl (w3.heap.size) (cellsN .u8 32 f) rfl rfl 23 _ hn3 (by rw [cellsN_size]; exact Tryd.size23) (by simp [cellsN_size]) (cellsN_one _ _ _) ?_)
         (intro w4 hw4)
         (have hA4 : Has w4 w3.heap.size 23 (cellsN .u8 32 f) := (by rw [hw4]; exact hn3.setRow _))
         (have hR4 : Has w4 w.heap.size 53 (cellsN .u8 64 fun _ => 0) := (by rw [hw4]; exact (hR3.alloc _).setRow_other (by have := hR3.lt; omega) _))
         (have hB4 : Has w4 (w.heap.size + 1) 53 (cellsN .u8 64 fun _ => 0) := (by rw [hw4]; exact (hB3.alloc _).setRow_other (by have := hB3.lt; omega) _))
         (have hw4' : Below (w.heap.size + 1) w4 w4 := Below.refl _ _)
         (have hb4 : Below w.heap.size w w4 := (by rw [hw4]; exact below_setRow (hw3.alloc hw3.size _) hw3.size _))
         (have hby4 : Bytes w4 (some ⟨w3.heap.size, 0, none⟩) 32 f := .inr ⟨_, _, rfl, hA4.lt, fun j hj => by rw [Nat.zero_add]; exact hA4.num j hj⟩)
         (clear hw4 hn3))
      | ((refine wpList_copy_splice rfl (.tmp 11) (.tmp 12) 22 22 rfl 5 Tryd.underlying22 (by kernel_rfl) (some ⟨w.heap.size + 1, 0, none⟩) (some ⟨w3.heap.size, 0, none⟩) 64 64 32 32 rfl rfl (w.heap.size + 1) 0 (cellsN .u8 64 fun _ => 0).toList 53 hB4 cs (by rw [hcl]; rfl) (fun h0 => ⟨rfl, by rw [HC.out] at h0 ⊢; exact hby4.src 32 (Nat.le_refl _) h0⟩) (by rw [hcl]; simp [cellsN_size]) (by rw [HC.out]; exact ints_one f 32) (w.heap.size + 1) w4 hw4' (Nat.le_refl _) ?_)
         (intro w5 hg5 hb5)
         (have hR5 := hR4.below hb5 (Nat.lt_succ_self _))
         (have hB5 : Has w5 (w.heap.size + 1) 53 (cellsN .u8 64 (fillk H0 K kf kl)) := (by
            have hh := hg5.out
            rw [HC.out, spliced f 32 (by omega)] at hh
            rw [cellsN_congr .u8 64 (fillk H0 K kf kl) (fun j => if j < 32 then f j else 0) (fun j _ => by unfold fillk; rw [if_pos hlong, HF.out])]
            exact hh))
         (have hw5 : Below w.heap.size w w5 := hb4.trans (hb5.mono (by omega)))
         (have hN5 := hR5.setRow (cellsN .u8 64 (fillk H0 K kf kl)))
         (clear hg5 hb5))
      | (refine wpList_load_row rfl 53 _ rfl (w.heap.size + 1) rfl 53 _ (0, 0) _ hB5 Tryd.underlying53 rfl (by rw [cellsN_size]; exact Tryd.size53) ?_)
      | (refine wpList_store_row rfl 53 _ _ rfl (w.heap.size) (cellsN .u8 64 (fillk H0 K kf kl)) rfl rfl 53 _ hR5 (by rw [cellsN_size]; exact Tryd.size53) (by simp [cellsN_size]) (cellsN_one _ _ _) ?_))
    exact bodyPost_ret (results_cell_row rfl _ _ (w.heap.size) 53 _ (0, 0) _ rfl hN5 Tryd.underlying53 rfl (by rw [cellsN_size]; exact Tryd.size53)) rfl ⟨rfl, below_setRow hw5 (Nat.le_refl _) _⟩
  · have i0 : (kl : Int) ≤ (64 : Int) := by omega
    obtain ⟨cs, hcs⟩ : ∃ cs, cs = (List.range kl).map fun j => Value.int .u8 (kf j : Nat) := ⟨_, rfl⟩
    have hcl : cs.length = kl := by rw [hcs]; simp
    have HC : Hid (cs = (List.range kl).map fun j => Value.int .u8 (kf j : Nat)) := hcs
    have hby := hb.below hw2 (Nat.le_refl _)
    have hmin : Nat.min kl 64 = kl := Nat.min_eq_left (by omega)
    clear hcs
    go_enter Tryd.func43, Tryd.ntmps43
    go_wp2_with (first
      | ((refine wpList_copy_splice rfl (.tmp 11) (.tmp 12) 22 22 rfl 5 Tryd.underlying22 (by kernel_rfl) (some ⟨w.heap.size + 1, 0, none⟩) a 64 64 kl cap rfl rfl (w.heap.size + 1) 0 (cellsN .u8 64 fun _ => 0).toList 53 hB2 cs (by rw [hcl]; exact hmin.symm) (fun h0 => ⟨rfl, by rw [HC.out] at h0 ⊢; exact hby.src kl (Nat.le_refl _) h0⟩) (by rw [hcl]; simp [cellsN_size]; omega) (by rw [HC.out]; exact ints_one kf kl) (w.heap.size + 1) _ (Below.refl _ _) (Nat.le_refl _) ?_)
         (intro w5 hg5 hb5)
         (have hR5 := hR2.below hb5 (Nat.lt_succ_self _))
         (have hB5 : Has w5 (w.heap.size + 1) 53 (cellsN .u8 64 (fillk H0 K kf kl)) := (by
            have hh := hg5.out
            rw [HC.out, spliced kf kl (by omega)] at hh
            rw [cellsN_congr .u8 64 (fillk H0 K kf kl) (fun j => if j < kl then kf j else 0) (fun j _ => by unfold fillk; rw [if_neg hlong])]
            exact hh))
         (have hw5 : Below w.heap.size w w5 := hw2.trans (hb5.mono (by omega)))
         (have hN5 := hR5.setRow (cellsN .u8 64 (fillk H0 K kf kl)))
         (clear hg5 hb5))
      | (refine wpList_load_row rfl 53 _ rfl (w.heap.size + 1) rfl 53 _ (0, 0) _ hB5 Tryd.underlying53 rfl (by rw [cellsN_size]; exact Tryd.size53) ?_)
      | (refine wpList_store_row rfl 53 _ _ rfl (w.heap.size) (cellsN .u8 64 (fillk H0 K kf kl)) rfl rfl 53 _ hR5 (by rw [cellsN_size]; exact Tryd.size53) (by simp [cellsN_size]) (cellsN_one _ _ _) ?_))
    exact bodyPost_ret (results_cell_row rfl _ _ (w.heap.size) 53 _ (0, 0) _ rfl hN5 Tryd.underlying53 rfl (by rw [cellsN_size]; exact Tryd.size53)) rfl ⟨rfl, below_setRow hw5 (Nat.le_refl _) _⟩
end Go.Proofs.YtomefoijiiideaaDoor
