/- MerkleOne, walked. -/
import Derived.Test.YtoeanaadlihkeabDoorMkText
namespace Go.Proofs.YtoeanaadlihkeabDoor
open Go.ChangeShapes Go.WideShapes Go.ChangeAt Go.RowKit
set_option linter.unusedVariables false

theorem tree_one (F : Nat → Nat) : ∀ j, j < 64 → tree F 1 1 j = cat (hsh 0 F) 32 (fun _ => 0) j := by
  intro j hj
  have e : tree F 1 1 j = lvl F 1 1 j := by
    have h := tree_at F 1 1 0 j (by decide) (by show j < 64 * 1; omega)
    rw [show 64 * off 1 0 + j = j from by show 64 * 0 + j = j; omega] at h
    exact h
  rw [e]
  unfold cat
  by_cases h : j < 32
  · rw [if_pos h]
    have h2 := lvl_hash F 1 0 0 j (by decide) h
    rw [show 32 * 0 + j = j from by omega] at h2
    rw [h2]
    exact congrFun (hsh_congr 0 _ _ (fun t _ => by show F (64 * 0 + t) = F t; rw [show 64 * 0 + t = t from by omega])) j
  · rw [if_neg h]
    exact lvl_rest F 1 0 j (by show 32 * 1 ≤ j; omega)

theorem root_one (F : Nat → Nat) : root F 1 = hsh 1 (cat (hsh 0 F) 32 fun _ => 0) := by
  unfold root
  rw [dep1]
  apply hsh_congr
  intro j hj
  rw [← tree_one F j hj]
  have h := tree_at F 1 1 0 j (by decide) (by show j < 64 * 1; omega)
  rw [show 64 * off 1 0 + j = j from by show 64 * 0 + j = j; omega] at h
  exact h.symm

set_option maxRecDepth 100000 in
set_option maxHeartbeats 3200000 in
theorem one_walk (hM : MerkleOk) (d : Nat → Nat) (L c : Nat) (a : Option Addr) (w : World) (hG : Glob Hc Kc w) (hL : L ≤ maxLen) (hb : Bytes w a L d) (hd : ∀ j, d j < 256) :
    Calls Tryd.prog 4 #[.slice a L c] w fun e w' => e = .returned (.bool true) ∧ Below w.heap.size w w' := by
  unfold maxLen at hL
  obtain ⟨w1, cs, hH1, hb1, hmk, s1, s2, s3, s4, s5⟩ := pick_words d L 64 c a w hb (by decide)
  have S5 : Hid _ := s5
  have hF := pickF_lt d L hd
  generalize pickF d L = F at *
  have KB : Hid (∀ g w, Glob Hc Kc w → Bytes w (some ⟨g, 0, none⟩) 64 F → Calls Tryd.prog 6 #[.slice (some ⟨g, 0, none⟩) 64 64] w fun e w' => ∃ b o c, e = .returned (.tuple #[.slice (some ⟨b, o, none⟩) 64 c, .agg (cellsN .u8 32 (root F 1)), .int .i64 0]) ∧ 64 ≤ c ∧ Bytes w' (some ⟨b, o, none⟩) 64 (tree F 1 1) ∧ Below w.heap.size w w') := by
    intro g w hG hb
    have h := hM.2.2.1 1 F (some ⟨g, 0, none⟩) 64 w hG (by decide) (by decide) (by decide) hb hF
    rw [dep1, show off 1 1 = 1 from rfl] at h
    refine h.mono ?_
    rintro e w' ⟨a', c', rfl, h1, h2, h3, h4⟩
    rcases id h3 with h0 | ⟨b, o, rfl, _⟩
    · omega
    · exact ⟨b, o, c', rfl, h1, h3, h4⟩
  have KA : Hid _ := fun w hG => live_any hM w hG
  have KS : Hid (∀ a c w, Glob Hc Kc w → Bytes w a 65 (cat (fun _ => 0) 1 F) → 65 ≤ c → Calls Tryd.prog 9 #[.slice a (65 : Nat) c] w fun e w' => e = .returned (.agg (cellsN .u8 32 (hsh 0 F))) ∧ Below w.heap.size w w') := fun a c w hG hb hc => sum_text 0 F a c w hG (by decide) hF hb hc
  have KS2 : Hid (∀ a c w, Glob Hc Kc w → Bytes w a 65 (cat (fun _ => 1) 1 (cat (hsh 0 F) 32 fun _ => 0)) → 65 ≤ c → Calls Tryd.prog 9 #[.slice a (65 : Nat) c] w fun e w' => e = .returned (.agg (cellsN .u8 32 (root F 1))) ∧ Below w.heap.size w w') := fun a c w hG hb hc => by
    rw [root_one]
    exact sum_text 1 _ a c w hG (by decide) (cat_lt _ _ _ (hsh_lt 0 F) (fun _ => by decide)) hb hc
  have hRl : ∀ j, root F 1 j < 256 := root_lt F 1
  have hHl : ∀ j, hsh 0 F j < 256 := hsh_lt 0 F
  have HT : Hid (∀ j, j < 64 → tree F 1 1 j = cat (hsh 0 F) 32 (fun _ => 0) j) := tree_one F
  generalize root F 1 = R at *
  generalize hsh 0 F = H at *
  generalize tree F 1 1 = T at *
  have hXe : ∀ w, (Op.equalIn 10000 24 (.agg (cellsN .u8 32 R)) (.agg (cellsN .u8 32 R))).run Tryd.prog w = .ok true w := fun w => eq_digest R w (fun j _ => hRl j)
  clear s5
  go_enter Tryd.func4, Tryd.ntmps4
  go_wp2_with (first
    | ((at_make)
       (refine wpList_make6 rfl _ (hmk _ _ _ _ rfl rfl rfl) ?_))
    | ((refine wpList_copy_splice rfl (.tmp 11) (.tmp 12) 22 22 rfl 5 Tryd.underlying22 (by kernel_rfl) (some ⟨w.heap.size, 0, none⟩) a 64 64 L c rfl rfl w.heap.size 0 (cellsN .u8 64 fun _ => 0).toList 5 hH1 cs s1 s2 s3 s4 w.heap.size w hb1 (Nat.le_refl _) ?_)
       (intro w2 hg2 hb2)
       (have hH2 : Has w2 w.heap.size 5 (cellsN .u8 64 F) := (by
          have hh := hg2.out
          rw [S5.out] at hh
          exact hh))
       (have kb := KB.out w.heap.size w2 (hG.below hb2 hG.1) hH2.bytes)
       (clear hg2 hH1 hb1 s1 s2 s3 s4))
    | ((go_at_call 6)
       (refine kb.mono ?_)
       (rintro e w3 ⟨tb, to_, tc, rfl, htc, ht3, hb3⟩)
       (have hB3 := hb2.trans (hb3.mono hb2.size))
       (have hH3 := hH2.below hb3 hH2.lt)
       (have hN3 : Has (w3.alloc (.cells (cellsN .u8 32 fun _ => 0) 24)) w3.heap.size 24 (cellsN .u8 32 fun _ => 0) := Has.new _ _ _)
       (clear kb hb3 hH2 hb2))
    | ((refine wpList_store_rowG rfl 24 _ _ rfl (w3.heap.size) (cellsN .u8 32 R) rfl rfl 24 _ hN3 (by rw [cellsN_size]; exact Tryd.size24) (by simp [cellsN_size]) (cellsN_one _ _ _) ?_)
       (intro w4 hw4)
       (have hR4 : Has w4 w3.heap.size 24 (cellsN .u8 32 R) := (by rw [hw4]; exact hN3.setRow _))
       (have hb4 : Below w3.heap.size w3 w4 := (by rw [hw4]; exact below_setRow ((Below.refl _ _).alloc (Nat.le_refl _) _) (Nat.le_refl _) _))
       (have hB4 := hB3.trans (hb4.mono hB3.size))
       (have hH4 := hH3.below hb4 hH3.lt)
       (have ht4 := ht3.below hb4 (Nat.le_refl _))
       (obtain ⟨ga, ca, w5, hra, hca, hta, hb5⟩ := text_own w4 0 F _ 64 hH4.bytes)
       (have hB5 := hB4.trans (hb5.mono hB4.size))
       (have ht5 := ht4.below hb5 (Nat.le_refl _))
       (have hR5 := hR4.below hb5 hR4.lt)
       (have ks := KS.out _ ca w5 (hG.below hB5 hG.1) hta hca)
       (clear hw4 hN3 hb4 hB3 hH3 ht3 hB4 hH4 ht4 hR4 hb5))
    | ((at_builtin)
       (refine wpList_append_at rfl _ _ _ _ rfl _ _ rfl rfl _ hra ?_)
       (clear hra))
    | ((go_at_call 9)
       (refine ks.mono ?_)
       (rintro e w6 ⟨rfl, hb6⟩)
       (have hB6 := hB5.trans (hb6.mono hB5.size))
       (have ht6 := ht5.below hb6 (Nat.le_refl _))
       (have hR6 := hR5.below hb6 hR5.lt)
       (have hN6 : Has (w6.alloc (.cells (cellsN .u8 32 fun _ => 0) 24)) w6.heap.size 24 (cellsN .u8 32 fun _ => 0) := Has.new _ _ _)
       (clear ks hb6 hB5 ht5 hR5 hta))
    | ((refine wpList_store_rowG rfl 24 _ _ rfl (w6.heap.size) (cellsN .u8 32 H) rfl rfl 24 _ hN6 (by rw [cellsN_size]; exact Tryd.size24) (by simp [cellsN_size]) (cellsN_one _ _ _) ?_)
       (intro w7 hw7)
       (have hH7 : Has w7 w6.heap.size 24 (cellsN .u8 32 H) := (by rw [hw7]; exact hN6.setRow _))
       (have hb7 : Below w6.heap.size w6 w7 := (by rw [hw7]; exact below_setRow ((Below.refl _ _).alloc (Nat.le_refl _) _) (Nat.le_refl _) _))
       (have hB7 := hB6.trans (hb7.mono hB6.size))
       (have ht7 := ht6.below hb7 (Nat.le_refl _))
       (have hR7 := hR6.below hb7 hR6.lt)
       (have own0 := World.ownsRow_lit (base := w7.heap.size) (e := 5) (size := 1) w7 #[] 0 (Nat.le_refl _) (by unfold maxLen; omega) rfl)
       (have hbE : Below w7.heap.size w7 (w7.alloc (.cells #[] 5)) := (Below.refl _ _).alloc (Nat.le_refl _) _)
       (have hB0 := hH7.bytes.below hbE (Nat.le_refl _))
       (clear hw7 hN6 hB6 ht6 hR6 hb7))
    | ((at_builtin)
       (have _t := own0)
       (refine wpList_append_bytes rfl _ _ rfl w7.heap.size _ 0 (fun _ => 0) rfl own0 (some ⟨w6.heap.size, 0, none⟩) 32 32 H rfl (fun e => by cases e) hB0 (by omega) (by simp) ?_)
       (intro v1 w8 own8 gr8)
       (have hb8 : Below w7.heap.size w7 w8 := hbE.grown gr8 (by simp) (fun k' h => (own0.lt k' h).1))
       (rw [Nat.zero_add, cat_zero] at own8)
       (obtain ⟨v2, w9, hr9, own9, gr9⟩ := run_append_noughts w8 w7.heap.size v1 32 H own8 32 (by decide) hb8.size)
       (have hb9 : Below w7.heap.size w7 w9 := hb8.grown gr9 hb8.size (fun k' h => (own8.lt k' h).1))
       (have hB9 := hB7.trans (hb9.mono hB7.size))
       (have ht9 := ht7.below hb9 (Nat.le_refl _))
       (have hR9 := hR7.below hb9 hR7.lt)
       (obtain ⟨wa, wc, rfl, hwc, hwn, hwb, _⟩ := own_bytes own9)
       (have hsm := same_true tc wc (ht9.congr (fun j hj => (HT.out j hj).symm)) hwb (cat_lt _ _ _ hHl (fun _ => by decide)) (fun e => by cases e) (fun e => (hwn e).1))
       (clear own0 _t gr8 hB0 hbE own8 gr9 own9 hb8 hb9 hB7 ht7 hR7 ht9))
    | ((at_builtin)
       (refine wpList_append_at rfl _ _ _ _ rfl _ _ rfl rfl _ hr9 ?_)
       (clear hr9))
    | ((go_at_call 10)
       (refine hsm.mono ?_)
       (rintro e wx ⟨rfl, rfl⟩)))
  have hBd : Below w.heap.size w wx.drew := hB9.drew
  have hRd : Has wx.drew w3.heap.size 24 (cellsN .u8 32 R) := hR9
  have hwd := hwb.below (Below.refl _ _).drew (Nat.le_refl _)
  have hal := KA.out wx.drew (hG.below hBd hG.1)
  refine wp_region_held_drew (S := fun w' => Has w' w3.heap.size 24 (cellsN .u8 32 R)) (by kernel_rfl) hRd (fun hHeld => ?_)
  refine callTo 0 (some 31) 7 #[] (by kernel_rfl) rfl rfl (by rfl) (by kernel_rfl) hal ?_
  rintro e wa2 ⟨rfl, hba⟩
  have hRa := hRd.below hba hRd.lt
  have hBa : Below w.heap.size w wa2 := hBd.trans (hba.mono hBd.size)
  have hwa := hwd.below hba (Nat.le_refl _)
  refine ⟨_, rfl, hRa, ?_⟩
  clear hHeld hRd hal hba hBd hwd hwb hR9 hsm
  have hHeld := hRa
  simp only [Act.put, List.setIfInBounds_toArray, List.set_cons_zero, List.set_cons_succ]
  refine takeTo 1 (some 32) (.bool true) rfl rfl (by kernel_rfl) (by kernel_rfl) (by kernel_rfl) (fun _ _ _ h => h) (by rfl) (fun _ _ => rfl) hHeld ?_
  simp only [Act.put, List.setIfInBounds_toArray, List.set_cons_zero, List.set_cons_succ]
  refine takeTo 2 (some 33) (.int .i64 0) rfl rfl (by kernel_rfl) (by kernel_rfl) (by kernel_rfl) (fun _ _ _ h => h) (by rfl) (fun _ _ => rfl) hHeld ?_
  simp only [Act.put, List.setIfInBounds_toArray, List.set_cons_zero, List.set_cons_succ]
  refine takeTo 3 (some 34) (.bool true) rfl rfl (by kernel_rfl) (by kernel_rfl) (by kernel_rfl) (fun _ _ _ h => h) (by rfl) (fun _ _ => by kernel_rfl) hHeld ?_
  simp only [Act.put, List.setIfInBounds_toArray, List.set_cons_zero, List.set_cons_succ]
  refine takeTo 4 (some 35) (.bool true) rfl rfl (by kernel_rfl) (by kernel_rfl) (by kernel_rfl) (fun _ _ _ h => h) (by rfl) (fun _ _ => by kernel_rfl) hHeld ?_
  simp only [Act.put, List.setIfInBounds_toArray, List.set_cons_zero, List.set_cons_succ]
  refine takeTo 5 (some 36) (.bool true) rfl rfl (by kernel_rfl) (by kernel_rfl) (by kernel_rfl) (fun _ _ _ h => h) (by rfl) (fun _ _ => rfl) hHeld ?_
  simp only [Act.put, List.setIfInBounds_toArray, List.set_cons_zero, List.set_cons_succ]
  refine takeTo 6 (some 37) (.bool true) rfl rfl (by kernel_rfl) (by kernel_rfl) (by kernel_rfl) (fun _ _ _ h => h) (by rfl) (fun _ _ => rfl) hHeld ?_
  simp only [Act.put, List.setIfInBounds_toArray, List.set_cons_zero, List.set_cons_succ]
  refine takeTo 7 (some 38) (.bool true) rfl rfl (by kernel_rfl) (by kernel_rfl) (by kernel_rfl) (fun _ _ _ h => h) (by rfl) (fun _ _ => by kernel_rfl) hHeld ?_
  simp only [Act.put, List.setIfInBounds_toArray, List.set_cons_zero, List.set_cons_succ]
  refine takeTo 8 (some 39) (.bool true) rfl rfl (by kernel_rfl) (by kernel_rfl) (by kernel_rfl) (fun _ _ _ h => h) (by rfl) (fun _ _ => rfl) hHeld ?_
  simp only [Act.put, List.setIfInBounds_toArray, List.set_cons_zero, List.set_cons_succ]
  refine takeTo 9 (some 40) (.agg (cellsN .u8 32 R)) rfl rfl (by kernel_rfl) (by kernel_rfl) (by kernel_rfl) (fun _ _ _ h => h) (by rfl) (fun wz hz => run_load_row 24 _ rfl _ rfl _ 24 Tryd.underlying24 (by rw [cellsN_size]; exact Tryd.size24) wz hz) hHeld ?_
  simp only [Act.put, List.setIfInBounds_toArray, List.set_cons_zero, List.set_cons_succ]
  refine takeTo 11 (some 42) (.slice wa 64 wc) rfl rfl (by kernel_rfl) (by kernel_rfl) (by kernel_rfl) (fun _ _ _ h => h) (by rfl) (fun _ _ => rfl) hHeld ?_
  simp only [Act.put, List.setIfInBounds_toArray, List.set_cons_zero, List.set_cons_succ]
  obtain ⟨g2, c2, wb, hrb, hcb, htb, hbb⟩ := text_own wa2 1 (cat H 32 fun _ => 0) wa wc hwa
  have hBb := hBa.trans (hbb.mono hBa.size)
  have ks := KS2.out _ c2 wb (hG.below hBb hG.1) htb hcb
  refine ready1 10 (by kernel_rfl) (stepVal (some 41) (.slice (some ⟨wa2.heap.size, 0, none⟩) 1 1) (wa2.alloc (.cells #[.int .u8 ((1 : Nat) : Int)] 5)) rfl rfl (by rfl) (by kernel_rfl) ⟨hRa.alloc _, ?_⟩)
  simp only [Act.put, List.setIfInBounds_toArray, List.set_cons_zero, List.set_cons_succ]
  refine ready1 12 (by kernel_rfl) (stepVal (some 43) (.slice (some ⟨g2, 0, none⟩) 65 c2) wb rfl rfl (by rfl) (run_append_op _ _ _ _ rfl _ _ rfl rfl _ hrb) ⟨hRa.below hbb hRa.lt, ?_⟩)
  simp only [Act.put, List.setIfInBounds_toArray, List.set_cons_zero, List.set_cons_succ]
  refine ready1 13 (by kernel_rfl) (stepCall (some 44) 9 #[.slice (some ⟨g2, 0, none⟩) 65 c2] rfl rfl (by rfl) (by kernel_rfl) ks ?_)
  rintro e wf ⟨rfl, hbf⟩
  have hBf := hBb.trans (hbf.mono hBb.size)
  have hRf := (hRa.below hbb hRa.lt).below hbf (hRa.below hbb hRa.lt).lt
  refine ⟨_, rfl, hRf, ?_⟩
  clear hHeld
  have hHeld := hRf
  simp only [Act.put, List.setIfInBounds_toArray, List.set_cons_zero, List.set_cons_succ]
  refine takeTo 14 (some 45) (.bool true) rfl rfl (by kernel_rfl) (by kernel_rfl) (by kernel_rfl) (fun _ _ _ h => h) (by rfl) (fun wz _ => run_eql_same _ _ rfl _ rfl rfl hXe wz) hHeld ?_
  simp only [Act.put, List.setIfInBounds_toArray, List.set_cons_zero, List.set_cons_succ]
  refine takeTo 15 (some 46) (.bool true) rfl rfl (by kernel_rfl) (by kernel_rfl) (by kernel_rfl) (fun _ _ _ h => h) (by rfl) (fun _ _ => by kernel_rfl) hHeld ?_
  simp only [Act.put, List.setIfInBounds_toArray, List.set_cons_zero, List.set_cons_succ]
  refine takeTo 16 (some 2) (.bool true) rfl rfl (by kernel_rfl) (by kernel_rfl) (by kernel_rfl) (fun _ _ _ h => h) (by rfl) (fun _ _ => rfl) hHeld ?_
  simp only [Act.put, List.setIfInBounds_toArray, List.set_cons_zero, List.set_cons_succ]
  refine wpAnyH_done (by kernel_rfl) ?_ _
  go_wp2
  go_ret
  exact ⟨rfl, hBf⟩
end Go.Proofs.YtoeanaadlihkeabDoor
