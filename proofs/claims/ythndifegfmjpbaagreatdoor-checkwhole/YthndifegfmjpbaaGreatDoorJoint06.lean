/- Texts that the statements of this stage share, joined. -/
import Derived.Test.YthndifegfmjpbaaGreatDoorJoint05
namespace Go.Proofs.YthndifegfmjpbaaGreatDoor
set_option linter.unusedVariables false
set_option maxRecDepth 100000
set_option maxHeartbeats 40000000
section
open Go.ChangeShapes Go.WideShapes Go.ChangeAt Go.RowKit
theorem token_numB {w : World} {l : List UInt8} {i : Nat} (hi : i < l.length) (hl : l.length ≤ 2000) (k1 : isSml l[i] = false) (k2 : isFig l[i] = true) (h : ¬ 9 < cnt isFig (l.drop i)) (h0 : cnt isFig (l.drop i) ≠ 0) (hE : i + cnt isFig (l.drop i) < l.length) (k3 : isLet (l[i + cnt isFig (l.drop i)]) = true) :
  Calls Tryz.prog 66 #[.string (bs l), .int .i64 (i : Nat)] w (TokenR w i ⟨1, [], val ((l.drop i).take (cnt isFig (l.drop i)))⟩ (i + cnt isFig (l.drop i)) 101) := by
 have hsz := bs_size l
 have h1 : i < (bs l).size := by omega
 have h2 : ((i : Nat) : Int) < ((bs l).size : Int) := by omega
 have hi2 : i ≤ 2000 := by omega
 have hc1 : isSml ((bs l)[i]'h1) = false := by rw [bs_get]; exact k1
 have hs1 := small_tells ((bs l)[i]'h1)
 rw [hc1] at hs1
 clear hc1 k1
 have hc2 : isFig ((bs l)[i]'h1) = true := by rw [bs_get]; exact k2
 have hs2 := figure_tells ((bs l)[i]'h1)
 rw [hc2] at hs2
 clear hc2 k2
 have hw := number_ok (tokW_clo w l i i (i : Nat) 1 rfl (by omega)) hl h h0
 have hH := tokW_tok w l i (i : Nat) 1
 have hR := tokW_res w l i (i : Nat) 1
 obtain ⟨J, hJ⟩ : ∃ J, J = (i + cnt isFig (l.drop i)) := ⟨_, rfl⟩
 rw [← hJ] at hw hE ⊢
 have HJ : Hid (J = (i + cnt isFig (l.drop i))) := hJ
 clear hJ
 have hJ2 : J ≤ 2000 := by omega
 have b1 : J < (bs l).size := by rw [hsz]; exact hE
 have b2 : ((J : Nat) : Int) < ((bs l).size : Int) := by omega
 have k3' : isLet ((bs l)[J]'b1) = true := by rw [bs_get]; have := HJ.out; subst this; exact k3
 have hs3 := letter_tells ((bs l)[J]'b1)
 rw [k3'] at hs3
 clear k3' k3 hE
 have HS : Hid ((bs l).size = l.length) := hsz
 clear hsz
 go_enter Tryz.func66, Tryz.ntmps66
 go_wp2_with (first
  | (go_at_call 96; refine (taking_c _ _ _).mono ?_; rintro e w' ⟨rfl, rfl⟩)
  | (go_at_call 100; refine (hs1 _).mono ?_; rintro e w' ⟨rfl, rfl⟩)
  | (go_at_call 102; refine (hs2 _).mono ?_; rintro e w' ⟨rfl, rfl⟩)
  | (go_at_call 105; refine (hs3 _).mono ?_; rintro e w' ⟨rfl, rfl⟩)
  | (go_at_call 103
     refine hw.mono ?_
     rintro e w1 ⟨rfl, hA⟩
     have hH1 := hA.other hH (by omega)
     have hR1 := hA.other hR (by omega)
     have c0 := hH1.cell 0
     have c1 := hH1.cell 1
     have c2 := hH1.cell 2
     have c3 := hH1.cell 3
     have f1 := hH1.free 1
     have f2 := hH1.free 2
     have hP := hA.at_.cell 0
     have r0 : w1.cell? ⟨w.heap.size, 0, none⟩ = some (.int .i64 0) := hR1.cell 0
     have r1 : w1.cell? ⟨w.heap.size, 1, none⟩ = some (.string ⟨#[]⟩) := hR1.cell 1
     have r2 : w1.cell? ⟨w.heap.size, 2, none⟩ = some (.int .i64 0) := hR1.cell 2
     have r3 : w1.cell? ⟨w.heap.size, 3, none⟩ = some (.int .i64 0) := hR1.cell 3
     have g0 := hR1.free 0
     have g1 := hR1.free 1
     have g2 := hR1.free 2
     have g3 := hR1.free 3))
 go_region
 all_goals
  go_wp2
  exact bodyPost_ret (v := .tuple #[.agg (tkv ⟨1, [], val ((l.drop i).take (cnt isFig (l.drop i)))⟩ i), .int .i64 ((J : Nat) : Int), .int .i64 101]) (by simp [results, Tryz.results66, go_sem, tkv, r0, r1, r2, r3, bs_nil]) rfl ⟨rfl, tok_below hA⟩
theorem token_numL {w : World} {l : List UInt8} {i : Nat} (hi : i < l.length) (hl : l.length ≤ 2000) (k1 : isSml l[i] = false) (k2 : isFig l[i] = true) (h : 9 < cnt isFig (l.drop i)) :
  Calls Tryz.prog 66 #[.string (bs l), .int .i64 (i : Nat)] w (TokenR w i ⟨1, [], 0⟩ (i + cnt isFig (l.drop i)) 102) := by
 have hsz := bs_size l
 have h1 : i < (bs l).size := by omega
 have h2 : ((i : Nat) : Int) < ((bs l).size : Int) := by omega
 have hi2 : i ≤ 2000 := by omega
 have hc1 : isSml ((bs l)[i]'h1) = false := by rw [bs_get]; exact k1
 have hs1 := small_tells ((bs l)[i]'h1)
 rw [hc1] at hs1
 clear hc1 k1
 have hc2 : isFig ((bs l)[i]'h1) = true := by rw [bs_get]; exact k2
 have hs2 := figure_tells ((bs l)[i]'h1)
 rw [hc2] at hs2
 clear hc2 k2
 have hw := number_long (tokW_clo w l i i (i : Nat) 1 rfl (by omega)) hl h
 have hH := tokW_tok w l i (i : Nat) 1
 have hR := tokW_res w l i (i : Nat) 1
 have HS : Hid ((bs l).size = l.length) := hsz
 clear hsz
 go_enter Tryz.func66, Tryz.ntmps66
 go_wp2_with (first
  | (go_at_call 96; refine (taking_c _ _ _).mono ?_; rintro e w' ⟨rfl, rfl⟩)
  | (go_at_call 100; refine (hs1 _).mono ?_; rintro e w' ⟨rfl, rfl⟩)
  | (go_at_call 102; refine (hs2 _).mono ?_; rintro e w' ⟨rfl, rfl⟩)
  | (go_at_call 103
     refine hw.mono ?_
     rintro e w1 ⟨rfl, hA⟩
     have hH1 := hA.other hH (by omega)
     have hR1 := hA.other hR (by omega)
     have c0 := hH1.cell 0
     have c1 := hH1.cell 1
     have c2 := hH1.cell 2
     have c3 := hH1.cell 3
     have f1 := hH1.free 1
     have f2 := hH1.free 2
     have hP := hA.at_.cell 0
     have r0 : w1.cell? ⟨w.heap.size, 0, none⟩ = some (.int .i64 0) := hR1.cell 0
     have r1 : w1.cell? ⟨w.heap.size, 1, none⟩ = some (.string ⟨#[]⟩) := hR1.cell 1
     have r2 : w1.cell? ⟨w.heap.size, 2, none⟩ = some (.int .i64 0) := hR1.cell 2
     have r3 : w1.cell? ⟨w.heap.size, 3, none⟩ = some (.int .i64 0) := hR1.cell 3
     have g0 := hR1.free 0
     have g1 := hR1.free 1
     have g2 := hR1.free 2
     have g3 := hR1.free 3))
 go_region
 all_goals
  go_wp2
  exact bodyPost_ret (v := .tuple #[.agg (tkv ⟨1, [], 0⟩ i), .int .i64 (((i + cnt isFig (l.drop i)) : Nat) : Int), .int .i64 102]) (by simp [results, Tryz.results66, go_sem, tkv, r0, r1, r2, r3, bs_nil]) rfl ⟨rfl, tok_below hA⟩
end
section
open Go.ChangeShapes Go.WideShapes Go.ChangeAt Go.RowKit
theorem token_hex {w : World} {l : List UInt8} {i : Nat} (hi : i < l.length) (hl : l.length ≤ 2000) (k4 : l[i] = 36) (h0 : cnt isHxy (l.drop (i + 1)) ≠ 0) (h : ¬ 128 < cnt isHxy (l.drop (i + 1))) (hE : i + 1 + cnt isHxy (l.drop (i + 1)) < l.length) (k3 : isLet (l[i + 1 + cnt isHxy (l.drop (i + 1))]) = false) :
  Calls Tryz.prog 66 #[.string (bs l), .int .i64 (i : Nat)] w (TokenR w i ⟨2, (l.drop (i + 1)).take (cnt isHxy (l.drop (i + 1))), 0⟩ (i + 1 + cnt isHxy (l.drop (i + 1))) 0) := by
 have hsz := bs_size l
 have h1 : i < (bs l).size := by omega
 have h2 : ((i : Nat) : Int) < ((bs l).size : Int) := by omega
 have hi2 : i ≤ 2000 := by omega
 have k4' : (bs l)[i]'h1 = 36 := by rw [bs_get]; exact k4
 have k1 : isSml ((bs l)[i]'h1) = false := by rw [k4']; decide
 have k2 : isFig ((bs l)[i]'h1) = false := by rw [k4']; decide
 have hs1 := small_tells ((bs l)[i]'h1)
 rw [k1] at hs1
 have hs2 := figure_tells ((bs l)[i]'h1)
 rw [k2] at hs2
 have hv : ((((bs l)[i]'h1).toNat : Nat) : Int) = 36 := by rw [k4']; rfl
 rw [hv] at hs1 hs2
 clear k1 k2 k4 k4'
 have hw := hex_ok (tokW_clo w l i (i + 1) ((i : Nat) + 1) 2 (by simp) (by omega)) hl h0 h
 have hH := tokW_tok w l i ((i : Nat) + 1) 2
 have hR := tokW_res w l i ((i : Nat) + 1) 2
 obtain ⟨J, hJ⟩ : ∃ J, J = (i + 1 + cnt isHxy (l.drop (i + 1))) := ⟨_, rfl⟩
 rw [← hJ] at hw hE ⊢
 have HJ : Hid (J = (i + 1 + cnt isHxy (l.drop (i + 1)))) := hJ
 clear hJ
 have hJ2 : J ≤ 2000 := by omega
 have b1 : J < (bs l).size := by rw [hsz]; exact hE
 have b2 : ((J : Nat) : Int) < ((bs l).size : Int) := by omega
 have k3' : isLet ((bs l)[J]'b1) = false := by rw [bs_get]; have := HJ.out; subst this; exact k3
 have hs3 := letter_tells ((bs l)[J]'b1)
 rw [k3'] at hs3
 clear k3' k3 hE
 have HS : Hid ((bs l).size = l.length) := hsz
 clear hsz
 go_enter Tryz.func66, Tryz.ntmps66
 go_wp2_with (first
  | (go_at_call 96; refine (taking_c _ _ _).mono ?_; rintro e w' ⟨rfl, rfl⟩)
  | (go_at_call 100; refine (hs1 _).mono ?_; rintro e w' ⟨rfl, rfl⟩)
  | (go_at_call 102; refine (hs2 _).mono ?_; rintro e w' ⟨rfl, rfl⟩)
  | (go_at_call 105; refine (hs3 _).mono ?_; rintro e w' ⟨rfl, rfl⟩)
  | (go_at_call 104
     refine hw.mono ?_
     rintro e w1 ⟨rfl, hA⟩
     have hH1 := hA.other hH (by omega)
     have hR1 := hA.other hR (by omega)
     have c0 := hH1.cell 0
     have c1 := hH1.cell 1
     have c2 := hH1.cell 2
     have c3 := hH1.cell 3
     have f1 := hH1.free 1
     have f2 := hH1.free 2
     have hP := hA.at_.cell 0
     have r0 : w1.cell? ⟨w.heap.size, 0, none⟩ = some (.int .i64 0) := hR1.cell 0
     have r1 : w1.cell? ⟨w.heap.size, 1, none⟩ = some (.string ⟨#[]⟩) := hR1.cell 1
     have r2 : w1.cell? ⟨w.heap.size, 2, none⟩ = some (.int .i64 0) := hR1.cell 2
     have r3 : w1.cell? ⟨w.heap.size, 3, none⟩ = some (.int .i64 0) := hR1.cell 3
     have g0 := hR1.free 0
     have g1 := hR1.free 1
     have g2 := hR1.free 2
     have g3 := hR1.free 3))
 go_region
 all_goals
  go_wp2
  exact bodyPost_ret (v := .tuple #[.agg (tkv ⟨2, (l.drop (i + 1)).take (cnt isHxy (l.drop (i + 1))), 0⟩ i), .int .i64 ((J : Nat) : Int), .int .i64 0]) (by simp [results, Tryz.results66, go_sem, tkv, r0, r1, r2, r3]) rfl ⟨rfl, tok_below hA⟩
theorem token_hexE {w : World} {l : List UInt8} {i : Nat} (hi : i < l.length) (hl : l.length ≤ 2000) (k4 : l[i] = 36) (h0 : cnt isHxy (l.drop (i + 1)) ≠ 0) (h : ¬ 128 < cnt isHxy (l.drop (i + 1))) (hE : i + 1 + cnt isHxy (l.drop (i + 1)) = l.length) :
  Calls Tryz.prog 66 #[.string (bs l), .int .i64 (i : Nat)] w (TokenR w i ⟨2, (l.drop (i + 1)).take (cnt isHxy (l.drop (i + 1))), 0⟩ (i + 1 + cnt isHxy (l.drop (i + 1))) 0) := by
 have hsz := bs_size l
 have h1 : i < (bs l).size := by omega
 have h2 : ((i : Nat) : Int) < ((bs l).size : Int) := by omega
 have hi2 : i ≤ 2000 := by omega
 have k4' : (bs l)[i]'h1 = 36 := by rw [bs_get]; exact k4
 have k1 : isSml ((bs l)[i]'h1) = false := by rw [k4']; decide
 have k2 : isFig ((bs l)[i]'h1) = false := by rw [k4']; decide
 have hs1 := small_tells ((bs l)[i]'h1)
 rw [k1] at hs1
 have hs2 := figure_tells ((bs l)[i]'h1)
 rw [k2] at hs2
 have hv : ((((bs l)[i]'h1).toNat : Nat) : Int) = 36 := by rw [k4']; rfl
 rw [hv] at hs1 hs2
 clear k1 k2 k4 k4'
 have hw := hex_ok (tokW_clo w l i (i + 1) ((i : Nat) + 1) 2 (by simp) (by omega)) hl h0 h
 have hH := tokW_tok w l i ((i : Nat) + 1) 2
 have hR := tokW_res w l i ((i : Nat) + 1) 2
 obtain ⟨J, hJ⟩ : ∃ J, J = (i + 1 + cnt isHxy (l.drop (i + 1))) := ⟨_, rfl⟩
 rw [← hJ] at hw hE ⊢
 have HJ : Hid (J = (i + 1 + cnt isHxy (l.drop (i + 1)))) := hJ
 clear hJ
 have hJ2 : J ≤ 2000 := by omega
 have b2 : ¬ ((J : Nat) : Int) < ((bs l).size : Int) := by omega
 clear hE
 have HS : Hid ((bs l).size = l.length) := hsz
 clear hsz
 go_enter Tryz.func66, Tryz.ntmps66
 go_wp2_with (first
  | (go_at_call 96; refine (taking_c _ _ _).mono ?_; rintro e w' ⟨rfl, rfl⟩)
  | (go_at_call 100; refine (hs1 _).mono ?_; rintro e w' ⟨rfl, rfl⟩)
  | (go_at_call 102; refine (hs2 _).mono ?_; rintro e w' ⟨rfl, rfl⟩)
  | (go_at_call 105; refine (hs3 _).mono ?_; rintro e w' ⟨rfl, rfl⟩)
  | (go_at_call 104
     refine hw.mono ?_
     rintro e w1 ⟨rfl, hA⟩
     have hH1 := hA.other hH (by omega)
     have hR1 := hA.other hR (by omega)
     have c0 := hH1.cell 0
     have c1 := hH1.cell 1
     have c2 := hH1.cell 2
     have c3 := hH1.cell 3
     have f1 := hH1.free 1
     have f2 := hH1.free 2
     have hP := hA.at_.cell 0
     have r0 : w1.cell? ⟨w.heap.size, 0, none⟩ = some (.int .i64 0) := hR1.cell 0
     have r1 : w1.cell? ⟨w.heap.size, 1, none⟩ = some (.string ⟨#[]⟩) := hR1.cell 1
     have r2 : w1.cell? ⟨w.heap.size, 2, none⟩ = some (.int .i64 0) := hR1.cell 2
     have r3 : w1.cell? ⟨w.heap.size, 3, none⟩ = some (.int .i64 0) := hR1.cell 3
     have g0 := hR1.free 0
     have g1 := hR1.free 1
     have g2 := hR1.free 2
     have g3 := hR1.free 3))
 go_region
 all_goals
  go_wp2
  exact bodyPost_ret (v := .tuple #[.agg (tkv ⟨2, (l.drop (i + 1)).take (cnt isHxy (l.drop (i + 1))), 0⟩ i), .int .i64 ((J : Nat) : Int), .int .i64 0]) (by simp [results, Tryz.results66, go_sem, tkv, r0, r1, r2, r3]) rfl ⟨rfl, tok_below hA⟩
end
section
open Go.ChangeShapes Go.WideShapes Go.ChangeAt Go.RowKit
theorem token_hexB {w : World} {l : List UInt8} {i : Nat} (hi : i < l.length) (hl : l.length ≤ 2000) (k4 : l[i] = 36) (h0 : cnt isHxy (l.drop (i + 1)) ≠ 0) (h : ¬ 128 < cnt isHxy (l.drop (i + 1))) (hE : i + 1 + cnt isHxy (l.drop (i + 1)) < l.length) (k3 : isLet (l[i + 1 + cnt isHxy (l.drop (i + 1))]) = true) :
  Calls Tryz.prog 66 #[.string (bs l), .int .i64 (i : Nat)] w (TokenR w i ⟨2, (l.drop (i + 1)).take (cnt isHxy (l.drop (i + 1))), 0⟩ (i + 1 + cnt isHxy (l.drop (i + 1))) 101) := by
 have hsz := bs_size l
 have h1 : i < (bs l).size := by omega
 have h2 : ((i : Nat) : Int) < ((bs l).size : Int) := by omega
 have hi2 : i ≤ 2000 := by omega
 have k4' : (bs l)[i]'h1 = 36 := by rw [bs_get]; exact k4
 have k1 : isSml ((bs l)[i]'h1) = false := by rw [k4']; decide
 have k2 : isFig ((bs l)[i]'h1) = false := by rw [k4']; decide
 have hs1 := small_tells ((bs l)[i]'h1)
 rw [k1] at hs1
 have hs2 := figure_tells ((bs l)[i]'h1)
 rw [k2] at hs2
 have hv : ((((bs l)[i]'h1).toNat : Nat) : Int) = 36 := by rw [k4']; rfl
 rw [hv] at hs1 hs2
 clear k1 k2 k4 k4'
 have hw := hex_ok (tokW_clo w l i (i + 1) ((i : Nat) + 1) 2 (by simp) (by omega)) hl h0 h
 have hH := tokW_tok w l i ((i : Nat) + 1) 2
 have hR := tokW_res w l i ((i : Nat) + 1) 2
 obtain ⟨J, hJ⟩ : ∃ J, J = (i + 1 + cnt isHxy (l.drop (i + 1))) := ⟨_, rfl⟩
 rw [← hJ] at hw hE ⊢
 have HJ : Hid (J = (i + 1 + cnt isHxy (l.drop (i + 1)))) := hJ
 clear hJ
 have hJ2 : J ≤ 2000 := by omega
 have b1 : J < (bs l).size := by rw [hsz]; exact hE
 have b2 : ((J : Nat) : Int) < ((bs l).size : Int) := by omega
 have k3' : isLet ((bs l)[J]'b1) = true := by rw [bs_get]; have := HJ.out; subst this; exact k3
 have hs3 := letter_tells ((bs l)[J]'b1)
 rw [k3'] at hs3
 clear k3' k3 hE
 have HS : Hid ((bs l).size = l.length) := hsz
 clear hsz
 go_enter Tryz.func66, Tryz.ntmps66
 go_wp2_with (first
  | (go_at_call 96; refine (taking_c _ _ _).mono ?_; rintro e w' ⟨rfl, rfl⟩)
  | (go_at_call 100; refine (hs1 _).mono ?_; rintro e w' ⟨rfl, rfl⟩)
  | (go_at_call 102; refine (hs2 _).mono ?_; rintro e w' ⟨rfl, rfl⟩)
  | (go_at_call 105; refine (hs3 _).mono ?_; rintro e w' ⟨rfl, rfl⟩)
  | (go_at_call 104
     refine hw.mono ?_
     rintro e w1 ⟨rfl, hA⟩
     have hH1 := hA.other hH (by omega)
     have hR1 := hA.other hR (by omega)
     have c0 := hH1.cell 0
     have c1 := hH1.cell 1
     have c2 := hH1.cell 2
     have c3 := hH1.cell 3
     have f1 := hH1.free 1
     have f2 := hH1.free 2
     have hP := hA.at_.cell 0
     have r0 : w1.cell? ⟨w.heap.size, 0, none⟩ = some (.int .i64 0) := hR1.cell 0
     have r1 : w1.cell? ⟨w.heap.size, 1, none⟩ = some (.string ⟨#[]⟩) := hR1.cell 1
     have r2 : w1.cell? ⟨w.heap.size, 2, none⟩ = some (.int .i64 0) := hR1.cell 2
     have r3 : w1.cell? ⟨w.heap.size, 3, none⟩ = some (.int .i64 0) := hR1.cell 3
     have g0 := hR1.free 0
     have g1 := hR1.free 1
     have g2 := hR1.free 2
     have g3 := hR1.free 3))
 go_region
 all_goals
  go_wp2
  exact bodyPost_ret (v := .tuple #[.agg (tkv ⟨2, (l.drop (i + 1)).take (cnt isHxy (l.drop (i + 1))), 0⟩ i), .int .i64 ((J : Nat) : Int), .int .i64 101]) (by simp [results, Tryz.results66, go_sem, tkv, r0, r1, r2, r3]) rfl ⟨rfl, tok_below hA⟩
theorem token_hexL {w : World} {l : List UInt8} {i : Nat} (hi : i < l.length) (hl : l.length ≤ 2000) (k4 : l[i] = 36) (h : 128 < cnt isHxy (l.drop (i + 1))) :
  Calls Tryz.prog 66 #[.string (bs l), .int .i64 (i : Nat)] w (TokenR w i ⟨2, [], 0⟩ (i + 1 + cnt isHxy (l.drop (i + 1))) 102) := by
 have hsz := bs_size l
 have h1 : i < (bs l).size := by omega
 have h2 : ((i : Nat) : Int) < ((bs l).size : Int) := by omega
 have hi2 : i ≤ 2000 := by omega
 have k4' : (bs l)[i]'h1 = 36 := by rw [bs_get]; exact k4
 have k1 : isSml ((bs l)[i]'h1) = false := by rw [k4']; decide
 have k2 : isFig ((bs l)[i]'h1) = false := by rw [k4']; decide
 have hs1 := small_tells ((bs l)[i]'h1)
 rw [k1] at hs1
 have hs2 := figure_tells ((bs l)[i]'h1)
 rw [k2] at hs2
 have hv : ((((bs l)[i]'h1).toNat : Nat) : Int) = 36 := by rw [k4']; rfl
 rw [hv] at hs1 hs2
 clear k1 k2 k4 k4'
 have hw := hex_long (tokW_clo w l i (i + 1) ((i : Nat) + 1) 2 (by simp) (by omega)) hl h
 have hH := tokW_tok w l i ((i : Nat) + 1) 2
 have hR := tokW_res w l i ((i : Nat) + 1) 2
 have HS : Hid ((bs l).size = l.length) := hsz
 clear hsz
 go_enter Tryz.func66, Tryz.ntmps66
 go_wp2_with (first
  | (go_at_call 96; refine (taking_c _ _ _).mono ?_; rintro e w' ⟨rfl, rfl⟩)
  | (go_at_call 100; refine (hs1 _).mono ?_; rintro e w' ⟨rfl, rfl⟩)
  | (go_at_call 102; refine (hs2 _).mono ?_; rintro e w' ⟨rfl, rfl⟩)
  | (go_at_call 104
     refine hw.mono ?_
     rintro e w1 ⟨rfl, hA⟩
     have hH1 := hA.other hH (by omega)
     have hR1 := hA.other hR (by omega)
     have c0 := hH1.cell 0
     have c1 := hH1.cell 1
     have c2 := hH1.cell 2
     have c3 := hH1.cell 3
     have f1 := hH1.free 1
     have f2 := hH1.free 2
     have hP := hA.at_.cell 0
     have r0 : w1.cell? ⟨w.heap.size, 0, none⟩ = some (.int .i64 0) := hR1.cell 0
     have r1 : w1.cell? ⟨w.heap.size, 1, none⟩ = some (.string ⟨#[]⟩) := hR1.cell 1
     have r2 : w1.cell? ⟨w.heap.size, 2, none⟩ = some (.int .i64 0) := hR1.cell 2
     have r3 : w1.cell? ⟨w.heap.size, 3, none⟩ = some (.int .i64 0) := hR1.cell 3
     have g0 := hR1.free 0
     have g1 := hR1.free 1
     have g2 := hR1.free 2
     have g3 := hR1.free 3))
 go_region
 all_goals
  go_wp2
  exact bodyPost_ret (v := .tuple #[.agg (tkv ⟨2, [], 0⟩ i), .int .i64 (((i + 1 + cnt isHxy (l.drop (i + 1))) : Nat) : Int), .int .i64 102]) (by simp [results, Tryz.results66, go_sem, tkv, r0, r1, r2, r3]) rfl ⟨rfl, tok_below hA⟩
theorem token_hexN {w : World} {l : List UInt8} {i : Nat} (hi : i < l.length) (hl : l.length ≤ 2000) (k4 : l[i] = 36) (h : cnt isHxy (l.drop (i + 1)) = 0) :
  Calls Tryz.prog 66 #[.string (bs l), .int .i64 (i : Nat)] w (TokenR w i ⟨2, [], 0⟩ (i + 1) 101) := by
 have hsz := bs_size l
 have h1 : i < (bs l).size := by omega
 have h2 : ((i : Nat) : Int) < ((bs l).size : Int) := by omega
 have hi2 : i ≤ 2000 := by omega
 have k4' : (bs l)[i]'h1 = 36 := by rw [bs_get]; exact k4
 have k1 : isSml ((bs l)[i]'h1) = false := by rw [k4']; decide
 have k2 : isFig ((bs l)[i]'h1) = false := by rw [k4']; decide
 have hs1 := small_tells ((bs l)[i]'h1)
 rw [k1] at hs1
 have hs2 := figure_tells ((bs l)[i]'h1)
 rw [k2] at hs2
 have hv : ((((bs l)[i]'h1).toNat : Nat) : Int) = 36 := by rw [k4']; rfl
 rw [hv] at hs1 hs2
 clear k1 k2 k4 k4'
 have hw := hex_none (tokW_clo w l i (i + 1) ((i : Nat) + 1) 2 (by simp) (by omega)) hl h
 have hH := tokW_tok w l i ((i : Nat) + 1) 2
 have hR := tokW_res w l i ((i : Nat) + 1) 2
 rw [h, Nat.add_zero] at hw
 have HS : Hid ((bs l).size = l.length) := hsz
 clear hsz
 go_enter Tryz.func66, Tryz.ntmps66
 go_wp2_with (first
  | (go_at_call 96; refine (taking_c _ _ _).mono ?_; rintro e w' ⟨rfl, rfl⟩)
  | (go_at_call 100; refine (hs1 _).mono ?_; rintro e w' ⟨rfl, rfl⟩)
  | (go_at_call 102; refine (hs2 _).mono ?_; rintro e w' ⟨rfl, rfl⟩)
  | (go_at_call 104
     refine hw.mono ?_
     rintro e w1 ⟨rfl, hA⟩
     have hH1 := hA.other hH (by omega)
     have hR1 := hA.other hR (by omega)
     have c0 := hH1.cell 0
     have c1 := hH1.cell 1
     have c2 := hH1.cell 2
     have c3 := hH1.cell 3
     have f1 := hH1.free 1
     have f2 := hH1.free 2
     have hP := hA.at_.cell 0
     have r0 : w1.cell? ⟨w.heap.size, 0, none⟩ = some (.int .i64 0) := hR1.cell 0
     have r1 : w1.cell? ⟨w.heap.size, 1, none⟩ = some (.string ⟨#[]⟩) := hR1.cell 1
     have r2 : w1.cell? ⟨w.heap.size, 2, none⟩ = some (.int .i64 0) := hR1.cell 2
     have r3 : w1.cell? ⟨w.heap.size, 3, none⟩ = some (.int .i64 0) := hR1.cell 3
     have g0 := hR1.free 0
     have g1 := hR1.free 1
     have g2 := hR1.free 2
     have g3 := hR1.free 3))
 go_region
 all_goals
  go_wp2
  exact bodyPost_ret (v := .tuple #[.agg (tkv ⟨2, [], 0⟩ i), .int .i64 (((i + 1) : Nat) : Int), .int .i64 101]) (by simp [results, Tryz.results66, go_sem, tkv, r0, r1, r2, r3]) rfl ⟨rfl, tok_below hA⟩
end
section
open Go.ChangeShapes Go.WideShapes Go.ChangeAt Go.RowKit
theorem token_sign40 {w : World} {l : List UInt8} {i : Nat} (hi : i < l.length) (hl : l.length ≤ 2000) (k4 : l[i] = 40) :
  Calls Tryz.prog 66 #[.string (bs l), .int .i64 (i : Nat)] w (TokenR w i ⟨3, [40], 0⟩ (i + 1) 0) := by
 have hsz := bs_size l
 have h1 : i < (bs l).size := by omega
 have h2 : ((i : Nat) : Int) < ((bs l).size : Int) := by omega
 have hi2 : i ≤ 2000 := by omega
 have k4' : (bs l)[i]'h1 = 40 := by rw [bs_get]; exact k4
 have k1 : isSml ((bs l)[i]'h1) = false := by rw [k4']; decide
 have k2 : isFig ((bs l)[i]'h1) = false := by rw [k4']; decide
 have hs1 := small_tells ((bs l)[i]'h1)
 rw [k1] at hs1
 have hs2 := figure_tells ((bs l)[i]'h1)
 rw [k2] at hs2
 have hv : ((((bs l)[i]'h1).toNat : Nat) : Int) = 40 := by rw [k4']; rfl
 rw [hv] at hs1 hs2
 have hx : (bs l).extract i (i + 1) = bs [40] := by
  rw [bs_extract, List.drop_eq_getElem_cons hi, k4, Nat.add_sub_cancel_left]; rfl
 have hb1 : ((i : Nat) : Int) + 1 ≤ ((bs l).size : Int) := by omega
 clear k1 k2 k4 k4'
 have HS : Hid ((bs l).size = l.length) := hsz
 clear hsz
 go_enter Tryz.func66, Tryz.ntmps66
 go_wp2_with (first
  | (go_at_call 96; refine (taking_c _ _ _).mono ?_; rintro e w' ⟨rfl, rfl⟩)
  | (go_at_call 100; refine (hs1 _).mono ?_; rintro e w' ⟨rfl, rfl⟩)
  | (go_at_call 102; refine (hs2 _).mono ?_; rintro e w' ⟨rfl, rfl⟩))
 go_region
 all_goals
  go_wp2
  exact bodyPost_ret (v := .tuple #[.agg (tkv ⟨3, [40], 0⟩ i), .int .i64 (((i + 1) : Nat) : Int), .int .i64 0]) (by simp [results, Tryz.results66, go_sem, tkv]) rfl ⟨rfl, lit_below _⟩
theorem token_sign41 {w : World} {l : List UInt8} {i : Nat} (hi : i < l.length) (hl : l.length ≤ 2000) (k4 : l[i] = 41) :
  Calls Tryz.prog 66 #[.string (bs l), .int .i64 (i : Nat)] w (TokenR w i ⟨3, [41], 0⟩ (i + 1) 0) := by
 have hsz := bs_size l
 have h1 : i < (bs l).size := by omega
 have h2 : ((i : Nat) : Int) < ((bs l).size : Int) := by omega
 have hi2 : i ≤ 2000 := by omega
 have k4' : (bs l)[i]'h1 = 41 := by rw [bs_get]; exact k4
 have k1 : isSml ((bs l)[i]'h1) = false := by rw [k4']; decide
 have k2 : isFig ((bs l)[i]'h1) = false := by rw [k4']; decide
 have hs1 := small_tells ((bs l)[i]'h1)
 rw [k1] at hs1
 have hs2 := figure_tells ((bs l)[i]'h1)
 rw [k2] at hs2
 have hv : ((((bs l)[i]'h1).toNat : Nat) : Int) = 41 := by rw [k4']; rfl
 rw [hv] at hs1 hs2
 have hx : (bs l).extract i (i + 1) = bs [41] := by
  rw [bs_extract, List.drop_eq_getElem_cons hi, k4, Nat.add_sub_cancel_left]; rfl
 have hb1 : ((i : Nat) : Int) + 1 ≤ ((bs l).size : Int) := by omega
 clear k1 k2 k4 k4'
 have HS : Hid ((bs l).size = l.length) := hsz
 clear hsz
 go_enter Tryz.func66, Tryz.ntmps66
 go_wp2_with (first
  | (go_at_call 96; refine (taking_c _ _ _).mono ?_; rintro e w' ⟨rfl, rfl⟩)
  | (go_at_call 100; refine (hs1 _).mono ?_; rintro e w' ⟨rfl, rfl⟩)
  | (go_at_call 102; refine (hs2 _).mono ?_; rintro e w' ⟨rfl, rfl⟩))
 go_region
 all_goals
  go_wp2
  exact bodyPost_ret (v := .tuple #[.agg (tkv ⟨3, [41], 0⟩ i), .int .i64 (((i + 1) : Nat) : Int), .int .i64 0]) (by simp [results, Tryz.results66, go_sem, tkv]) rfl ⟨rfl, lit_below _⟩
end
section
open Go.ChangeShapes Go.WideShapes Go.ChangeAt Go.RowKit
theorem token_sign44 {w : World} {l : List UInt8} {i : Nat} (hi : i < l.length) (hl : l.length ≤ 2000) (k4 : l[i] = 44) :
  Calls Tryz.prog 66 #[.string (bs l), .int .i64 (i : Nat)] w (TokenR w i ⟨3, [44], 0⟩ (i + 1) 0) := by
 have hsz := bs_size l
 have h1 : i < (bs l).size := by omega
 have h2 : ((i : Nat) : Int) < ((bs l).size : Int) := by omega
 have hi2 : i ≤ 2000 := by omega
 have k4' : (bs l)[i]'h1 = 44 := by rw [bs_get]; exact k4
 have k1 : isSml ((bs l)[i]'h1) = false := by rw [k4']; decide
 have k2 : isFig ((bs l)[i]'h1) = false := by rw [k4']; decide
 have hs1 := small_tells ((bs l)[i]'h1)
 rw [k1] at hs1
 have hs2 := figure_tells ((bs l)[i]'h1)
 rw [k2] at hs2
 have hv : ((((bs l)[i]'h1).toNat : Nat) : Int) = 44 := by rw [k4']; rfl
 rw [hv] at hs1 hs2
 have hx : (bs l).extract i (i + 1) = bs [44] := by
  rw [bs_extract, List.drop_eq_getElem_cons hi, k4, Nat.add_sub_cancel_left]; rfl
 have hb1 : ((i : Nat) : Int) + 1 ≤ ((bs l).size : Int) := by omega
 clear k1 k2 k4 k4'
 have HS : Hid ((bs l).size = l.length) := hsz
 clear hsz
 go_enter Tryz.func66, Tryz.ntmps66
 go_wp2_with (first
  | (go_at_call 96; refine (taking_c _ _ _).mono ?_; rintro e w' ⟨rfl, rfl⟩)
  | (go_at_call 100; refine (hs1 _).mono ?_; rintro e w' ⟨rfl, rfl⟩)
  | (go_at_call 102; refine (hs2 _).mono ?_; rintro e w' ⟨rfl, rfl⟩))
 go_region
 all_goals
  go_wp2
  exact bodyPost_ret (v := .tuple #[.agg (tkv ⟨3, [44], 0⟩ i), .int .i64 (((i + 1) : Nat) : Int), .int .i64 0]) (by simp [results, Tryz.results66, go_sem, tkv]) rfl ⟨rfl, lit_below _⟩
theorem token_sign61 {w : World} {l : List UInt8} {i : Nat} (hi : i < l.length) (hl : l.length ≤ 2000) (k4 : l[i] = 61) :
  Calls Tryz.prog 66 #[.string (bs l), .int .i64 (i : Nat)] w (TokenR w i ⟨3, [61], 0⟩ (i + 1) 0) := by
 have hsz := bs_size l
 have h1 : i < (bs l).size := by omega
 have h2 : ((i : Nat) : Int) < ((bs l).size : Int) := by omega
 have hi2 : i ≤ 2000 := by omega
 have k4' : (bs l)[i]'h1 = 61 := by rw [bs_get]; exact k4
 have k1 : isSml ((bs l)[i]'h1) = false := by rw [k4']; decide
 have k2 : isFig ((bs l)[i]'h1) = false := by rw [k4']; decide
 have hs1 := small_tells ((bs l)[i]'h1)
 rw [k1] at hs1
 have hs2 := figure_tells ((bs l)[i]'h1)
 rw [k2] at hs2
 have hv : ((((bs l)[i]'h1).toNat : Nat) : Int) = 61 := by rw [k4']; rfl
 rw [hv] at hs1 hs2
 have hx : (bs l).extract i (i + 1) = bs [61] := by
  rw [bs_extract, List.drop_eq_getElem_cons hi, k4, Nat.add_sub_cancel_left]; rfl
 have hb1 : ((i : Nat) : Int) + 1 ≤ ((bs l).size : Int) := by omega
 clear k1 k2 k4 k4'
 have HS : Hid ((bs l).size = l.length) := hsz
 clear hsz
 go_enter Tryz.func66, Tryz.ntmps66
 go_wp2_with (first
  | (go_at_call 96; refine (taking_c _ _ _).mono ?_; rintro e w' ⟨rfl, rfl⟩)
  | (go_at_call 100; refine (hs1 _).mono ?_; rintro e w' ⟨rfl, rfl⟩)
  | (go_at_call 102; refine (hs2 _).mono ?_; rintro e w' ⟨rfl, rfl⟩))
 go_region
 all_goals
  go_wp2
  exact bodyPost_ret (v := .tuple #[.agg (tkv ⟨3, [61], 0⟩ i), .int .i64 (((i + 1) : Nat) : Int), .int .i64 0]) (by simp [results, Tryz.results66, go_sem, tkv]) rfl ⟨rfl, lit_below _⟩
end
section
open Go.ChangeShapes Go.WideShapes Go.ChangeAt Go.RowKit
theorem token_sign59 {w : World} {l : List UInt8} {i : Nat} (hi : i < l.length) (hl : l.length ≤ 2000) (k4 : l[i] = 59) :
  Calls Tryz.prog 66 #[.string (bs l), .int .i64 (i : Nat)] w (TokenR w i ⟨3, [59], 0⟩ (i + 1) 0) := by
 have hsz := bs_size l
 have h1 : i < (bs l).size := by omega
 have h2 : ((i : Nat) : Int) < ((bs l).size : Int) := by omega
 have hi2 : i ≤ 2000 := by omega
 have k4' : (bs l)[i]'h1 = 59 := by rw [bs_get]; exact k4
 have k1 : isSml ((bs l)[i]'h1) = false := by rw [k4']; decide
 have k2 : isFig ((bs l)[i]'h1) = false := by rw [k4']; decide
 have hs1 := small_tells ((bs l)[i]'h1)
 rw [k1] at hs1
 have hs2 := figure_tells ((bs l)[i]'h1)
 rw [k2] at hs2
 have hv : ((((bs l)[i]'h1).toNat : Nat) : Int) = 59 := by rw [k4']; rfl
 rw [hv] at hs1 hs2
 have hx : (bs l).extract i (i + 1) = bs [59] := by
  rw [bs_extract, List.drop_eq_getElem_cons hi, k4, Nat.add_sub_cancel_left]; rfl
 have hb1 : ((i : Nat) : Int) + 1 ≤ ((bs l).size : Int) := by omega
 clear k1 k2 k4 k4'
 have HS : Hid ((bs l).size = l.length) := hsz
 clear hsz
 go_enter Tryz.func66, Tryz.ntmps66
 go_wp2_with (first
  | (go_at_call 96; refine (taking_c _ _ _).mono ?_; rintro e w' ⟨rfl, rfl⟩)
  | (go_at_call 100; refine (hs1 _).mono ?_; rintro e w' ⟨rfl, rfl⟩)
  | (go_at_call 102; refine (hs2 _).mono ?_; rintro e w' ⟨rfl, rfl⟩))
 go_region
 all_goals
  go_wp2
  exact bodyPost_ret (v := .tuple #[.agg (tkv ⟨3, [59], 0⟩ i), .int .i64 (((i + 1) : Nat) : Int), .int .i64 0]) (by simp [results, Tryz.results66, go_sem, tkv]) rfl ⟨rfl, lit_below _⟩
theorem token_none {w : World} {l : List UInt8} {i : Nat} (hi : i < l.length) (hl : l.length ≤ 2000) (k1 : isSml l[i] = false) (k2 : isFig l[i] = false) (d1 : l[i] ≠ 36) (d2 : l[i] ≠ 40) (d3 : l[i] ≠ 41) (d4 : l[i] ≠ 44) (d5 : l[i] ≠ 61) (d6 : l[i] ≠ 59) :
  Calls Tryz.prog 66 #[.string (bs l), .int .i64 (i : Nat)] w (TokenR w i ⟨0, [], 0⟩ i 101) := by
 have hsz := bs_size l
 have h1 : i < (bs l).size := by omega
 have h2 : ((i : Nat) : Int) < ((bs l).size : Int) := by omega
 have hi2 : i ≤ 2000 := by omega
 have hc1 : isSml ((bs l)[i]'h1) = false := by rw [bs_get]; exact k1
 have hs1 := small_tells ((bs l)[i]'h1)
 rw [hc1] at hs1
 clear hc1 k1
 have hc2 : isFig ((bs l)[i]'h1) = false := by rw [bs_get]; exact k2
 have hs2 := figure_tells ((bs l)[i]'h1)
 rw [hc2] at hs2
 clear hc2 k2
 have hv : ∀ k : Nat, k < 256 → l[i] ≠ UInt8.ofNat k → ¬ ((((bs l)[i]'h1).toNat : Nat) : Int) = (k : Int) := by
  intro k hk hne e
  apply hne
  rw [bs_get] at e
  apply UInt8.toNat_inj.1
  simp
  omega
 have v1 := hv 36 (by decide) d1
 have v2 := hv 40 (by decide) d2
 have v3 := hv 41 (by decide) d3
 have v4 := hv 44 (by decide) d4
 have v5 := hv 61 (by decide) d5
 have v6 := hv 59 (by decide) d6
 clear hv
 have HS : Hid ((bs l).size = l.length) := hsz
 clear hsz
 go_enter Tryz.func66, Tryz.ntmps66
 go_wp2_with (first
  | (go_at_call 96; refine (taking_c _ _ _).mono ?_; rintro e w' ⟨rfl, rfl⟩)
  | (go_at_call 100; refine (hs1 _).mono ?_; rintro e w' ⟨rfl, rfl⟩)
  | (go_at_call 102; refine (hs2 _).mono ?_; rintro e w' ⟨rfl, rfl⟩))
 go_region
 all_goals
  go_wp2
  exact bodyPost_ret (v := .tuple #[.agg (tkv ⟨0, [], 0⟩ i), .int .i64 ((i : Nat) : Int), .int .i64 101]) (by simp [results, Tryz.results66, go_sem, tkv, bs_nil]) rfl ⟨rfl, lit_below _⟩
end
section
open Go.ChangeShapes Go.WideShapes Go.ChangeAt Go.RowKit
theorem letAt_in {l : List UInt8} {j : Nat} (h : j < l.length) : letAt (l.drop j) = isLet l[j] := by
 rw [List.drop_eq_getElem_cons h]; rfl
theorem letAt_end {l : List UInt8} {j : Nat} (h : ¬ j < l.length) : letAt (l.drop j) = false := by
 rw [List.drop_eq_nil_of_le (by omega)]; rfl
theorem one_at {l : List UInt8} {i : Nat} (hi : i < l.length) : one (l.drop i) =
  if isSml l[i] then (if 16 < cnt isWdy (l.drop i) then .error (102, 0) else .ok (⟨0, (l.drop i).take (cnt isWdy (l.drop i)), 0⟩, cnt isWdy (l.drop i)))
  else if isFig l[i] then (if 9 < cnt isFig (l.drop i) then .error (102, 0) else if letAt (l.drop (i + cnt isFig (l.drop i))) then .error (101, cnt isFig (l.drop i)) else .ok (⟨1, [], val ((l.drop i).take (cnt isFig (l.drop i)))⟩, cnt isFig (l.drop i)))
  else if l[i] == 36 then (if cnt isHxy (l.drop (i + 1)) = 0 then .error (101, 1) else if 128 < cnt isHxy (l.drop (i + 1)) then .error (102, 0) else if letAt (l.drop (i + 1 + cnt isHxy (l.drop (i + 1)))) then .error (101, cnt isHxy (l.drop (i + 1)) + 1) else .ok (⟨2, (l.drop (i + 1)).take (cnt isHxy (l.drop (i + 1))), 0⟩, cnt isHxy (l.drop (i + 1)) + 1))
  else if isSgn l[i] then .ok (⟨3, [l[i]], 0⟩, 1)
  else .error (101, 0) := by
 have hd := List.drop_eq_getElem_cons hi
 conv => lhs; rw [hd]
 simp only [one]
 rw [← hd, List.drop_drop, List.drop_drop]
theorem sgn_cases {c : UInt8} (h : isSgn c = true) : c = 40 ∨ c = 41 ∨ c = 44 ∨ c = 61 ∨ c = 59 := by
 simp [isSgn] at h
 rcases h with (((h | h) | h) | h) | h <;> simp [h]
theorem token_ok {w : World} {l : List UInt8} {i n : Nat} {t : Tk} (hi : i < l.length) (hl : l.length ≤ 2000) (h : one (l.drop i) = .ok (t, n)) :
  Calls Tryz.prog 66 #[.string (bs l), .int .i64 (i : Nat)] w (TokenR w i t (i + n) 0) := by
 rw [one_at hi] at h
 split at h
 · rename_i k1
   split at h
   · cases h
   · rename_i hn
     cases h
     exact token_word hi hl k1 hn
 · rename_i k1
   have k1 : isSml l[i] = false := by simpa using k1
   split at h
   · rename_i k2
     have h0 : cnt isFig (l.drop i) ≠ 0 := by rw [List.drop_eq_getElem_cons hi, cnt_cons, if_pos k2]; omega
     split at h
     · cases h
     · rename_i hn
       split at h
       · cases h
       · rename_i hla
         cases h
         by_cases hE : i + cnt isFig (l.drop i) < l.length
         · rw [letAt_in hE] at hla
           exact token_num hi hl k1 k2 hn h0 hE (by simpa using hla)
         · exact token_numE hi hl k1 k2 hn h0 (by have := drop_le (p := isFig) (Nat.le_of_lt hi); omega)
   · rename_i k2
     split at h
     · rename_i k4
       have k4 := eq_of_beq k4
       split at h
       · cases h
       · rename_i h0
         split at h
         · cases h
         · rename_i hn
           split at h
           · cases h
           · rename_i hla
             cases h
             rw [show i + (cnt isHxy (l.drop (i + 1)) + 1) = i + 1 + cnt isHxy (l.drop (i + 1)) by omega]
             by_cases hE : i + 1 + cnt isHxy (l.drop (i + 1)) < l.length
             · rw [letAt_in hE] at hla
               exact token_hex hi hl k4 h0 hn hE (by simpa using hla)
             · exact token_hexE hi hl k4 h0 hn (by have := drop_le (p := isHxy) (j := i + 1) hi; omega)
     · split at h
       · rename_i k5
         cases h
         rcases sgn_cases k5 with e | e | e | e | e
         · rw [e]; exact token_sign40 hi hl e
         · rw [e]; exact token_sign41 hi hl e
         · rw [e]; exact token_sign44 hi hl e
         · rw [e]; exact token_sign61 hi hl e
         · rw [e]; exact token_sign59 hi hl e
       · cases h
def TokenF (w : World) (i er o : Nat) (e : Ending) (w' : World) : Prop := ∃ t E, TokenR w i t E (er : Nat) e w' ∧ (er = 101 → E = i + o) ∧ (er ≠ 101 → er = 102 ∧ o = 0)
theorem token_bad {w : World} {l : List UInt8} {i er o : Nat} (hi : i < l.length) (hl : l.length ≤ 2000) (h : one (l.drop i) = .error (er, o)) :
  Calls Tryz.prog 66 #[.string (bs l), .int .i64 (i : Nat)] w (TokenF w i er o) := by
 rw [one_at hi] at h
 split at h
 · rename_i k1
   split at h
   · rename_i hn
     cases h
     exact (token_wordL hi hl k1 hn).mono fun e w' hr => ⟨_, _, hr, fun e => (by cases e), fun _ => ⟨rfl, rfl⟩⟩
   · cases h
 · rename_i k1
   have k1 : isSml l[i] = false := by simpa using k1
   split at h
   · rename_i k2
     have h0 : cnt isFig (l.drop i) ≠ 0 := by rw [List.drop_eq_getElem_cons hi, cnt_cons, if_pos k2]; omega
     split at h
     · rename_i hn
       cases h
       exact (token_numL hi hl k1 k2 hn).mono fun e w' hr => ⟨_, _, hr, fun e => (by cases e), fun _ => ⟨rfl, rfl⟩⟩
     · rename_i hn
       split at h
       · rename_i hla
         cases h
         by_cases hE : i + cnt isFig (l.drop i) < l.length
         · rw [letAt_in hE] at hla
           exact (token_numB hi hl k1 k2 hn h0 hE hla).mono fun e w' hr => ⟨_, _, hr, fun _ => rfl, fun e => absurd rfl e⟩
         · rw [letAt_end hE] at hla; cases hla
       · cases h
   · rename_i k2
     have k2 : isFig l[i] = false := by simpa using k2
     split at h
     · rename_i k4
       have k4 := eq_of_beq k4
       split at h
       · rename_i h0
         cases h
         exact (token_hexN hi hl k4 h0).mono fun e w' hr => ⟨_, _, hr, fun _ => rfl, fun e => absurd rfl e⟩
       · rename_i h0
         split at h
         · rename_i hn
           cases h
           exact (token_hexL hi hl k4 hn).mono fun e w' hr => ⟨_, _, hr, fun e => (by cases e), fun _ => ⟨rfl, rfl⟩⟩
         · rename_i hn
           split at h
           · rename_i hla
             cases h
             by_cases hE : i + 1 + cnt isHxy (l.drop (i + 1)) < l.length
             · rw [letAt_in hE] at hla
               exact (token_hexB hi hl k4 h0 hn hE hla).mono fun e w' hr => ⟨_, _, hr, fun _ => by omega, fun e => absurd rfl e⟩
             · rw [letAt_end hE] at hla; cases hla
           · cases h
     · rename_i d1
       split at h
       · cases h
       · rename_i d2
         cases h
         simp [isSgn] at d2
         exact (token_none hi hl k1 k2 (by simpa using d1) d2.1.1.1.1 d2.1.1.1.2 d2.1.1.2 d2.1.2 d2.2).mono fun e w' hr => ⟨_, _, hr, fun _ => rfl, fun e => absurd rfl e⟩
end
section
open Go.ChangeShapes Go.WideShapes Go.ChangeAt Go.RowKit
theorem at_dstL {ops : Array Oper} {rest : List Oper} {o : Oper} {a : Act} {w : World} {Q : Exit → Act → World → Prop} (n : Nat) (hd : o.dst = some n) (h : wpList Tryz.prog ops Q (o :: rest) a w) : wpList Tryz.prog ops Q (o :: rest) a w := h
def tkl (ts : Toks) : List Value := ts.flatMap fun t => (tkv t.1 t.2).toList
theorem tkl_append (a b : Toks) : tkl (a ++ b) = tkl a ++ tkl b := by simp [tkl]
theorem tkl_one (t : Tk × Nat) : tkl [t] = (tkv t.1 t.2).toList := by simp [tkl]
theorem tkl_cells (ts : Toks) : ∀ u ∈ tkl ts, u.oneCell' = true := by
 intro u hu
 obtain ⟨t, _, h⟩ := List.mem_flatMap.1 hu
 simp [tkv] at h
 rcases h with rfl | rfl | rfl | rfl <;> rfl
theorem tkl_get (ts : Toks) (i : Nat) (h : i < ts.length) (j : Nat) (hj : j < 4) : (tkl ts)[i * 4 + j]? = (tkv ts[i].1 ts[i].2)[j]? := by
 induction ts generalizing i with
 | nil => simp at h
 | cons t r ih =>
   have e : tkl (t :: r) = (tkv t.1 t.2).toList ++ tkl r := by simp [tkl]
   have e4 : (tkv t.1 t.2).toList.length = 4 := rfl
   rw [e]
   cases i with
   | zero =>
     rw [List.getElem?_append_left (by rw [e4]; omega)]
     simp
   | succ i =>
     rw [List.getElem?_append_right (by rw [e4]; omega), e4]
     simp only [List.length_cons] at h
     rw [show (i + 1) * 4 + j - 4 = i * 4 + j by omega, ih i (by omega)]
     simp
def TokRow (w : World) (base : Nat) (v : Value) (ts : Toks) : Prop := w.ownsRow base 100 4 v ts.length (tkl ts)
theorem row_grown {w w' : World} {base e size n : Nat} {v : Value} {xs : List Value} (h : w.ownsRow base e size v n xs) (hb : ∀ g o, v.ownBlock = some g → w.heap[g]? = some o → w'.heap[g]? = some o) : w'.ownsRow base e size v n xs := by
 refine ⟨h.1, ?_⟩
 rcases h.2 with h0 | ⟨g, cap, cur, hv, h1, hg, r⟩
 · exact .inl h0
 · exact .inr ⟨g, cap, cur, hv, h1, hb g _ (by rw [hv]; rfl) hg, r⟩
theorem row_lt {w : World} {base e size n : Nat} {v : Value} {xs : List Value} (h : w.ownsRow base e size v n xs) {g : Nat} (hg : v.ownBlock = some g) : g < w.heap.size ∧ base ≤ g := by
 rcases h.2 with ⟨rfl, _⟩ | ⟨g', cap, cur, rfl, h1, hg', r⟩
 · cases hg
 · cases hg; exact ⟨(Array.getElem?_eq_some_iff.1 hg').1, h1⟩
theorem TokRow.below {w w' : World} {base : Nat} {v : Value} {ts : Toks} (h : TokRow w base v ts) (hb : Below w.heap.size w w') : TokRow w' base v ts :=
 row_grown h (fun g o e ho => (hb.block g (row_lt h e).1).trans ho)
theorem TokRow.empty (w : World) (base : Nat) : TokRow w base (.slice none 0 0) [] := ⟨rfl, .inl ⟨rfl, rfl⟩⟩
theorem TokRow.mono {w : World} {base base' : Nat} {v : Value} {ts : Toks} (h : TokRow w base v ts) (hb : base' ≤ base) : TokRow w base' v ts := by
 refine ⟨h.1, ?_⟩
 rcases h.2 with h0 | ⟨g, cap, cur, hv, h1, r⟩
 · exact .inl h0
 · exact .inr ⟨g, cap, cur, hv, by omega, r⟩
theorem Tryz.infoTok : (Tryz.prog.info? 100).map (fun i => (i.zero, i.size, i.bytes)) = some (some (.agg #[.int .i64 0, .string ⟨#[]⟩, .int .i64 0, .int .i64 0]), 4, 40) := by kernel_rfl
theorem grown_own {w w' : World} {base e size n : Nat} {v : Value} {xs : List Value} (h : w.ownsRow base e size v n xs) (hg : w.grownBy w' v.ownBlock) (hb : base ≤ w.heap.size) : Below base w w' :=
 ⟨hg.os, hg.tape, hg.output, hg.size, fun k hk => hg.block k (by omega) (fun e => by have := (row_lt h e.symm).2; omega)⟩
theorem wpList_append_tok {ops : Array Oper} {rest : List Oper} {o : Oper} {a : Act} {w : World} {Q : Exit → Act → World → Prop} (hgd : o.guard = none) (s x : Operand)
  (ho : o.op = .call { callee := .builtin .append, args := #[s, x], argTypes := #[56, 56] }) (base : Nat) (v : Value) (ts : Toks) (hs : a.eval s = v) (hown : TokRow w base v ts)
  (G : Nat) (t : Tk) (p : Nat) (hx : a.eval x = .slice (some ⟨G, 0, none⟩) 1 1) (hG : Has w G 100 (tkv t p)) (hn : ts.length ≤ 500) (hbase : base ≤ w.heap.size)
  (h : ∀ v' w', TokRow w' base v' (ts ++ [(t, p)]) → Below base w w' → wpList Tryz.prog ops Q rest (a.put o.dst v') w') : wpList Tryz.prog ops Q (o :: rest) a w := by
 obtain ⟨i0, hi, hz0, hz1, hz2⟩ := info_parts Tryz.infoTok
 refine wpList_append_own w hgd s x 56 ho base 100 i0 (.agg #[.int .i64 0, .string ⟨#[]⟩, .int .i64 0, .int .i64 0]) 4 40 Tryz.underlying56 hi hz0 hz1 hz2 rfl (by decide) v ts.length (tkl ts) hs hown ⟨G, 0, none⟩ 1 1 (tkv t p).toList hx rfl ?_ ?_ (by unfold maxLen; omega) (by omega) hbase ?_
 · intro j u hj
   have := hG.cell j
   rw [show (⟨G, 0, none⟩ : Addr).add j = ⟨G, j, none⟩ by simp [Addr.add]; omega]
   rw [this]
   simpa using hj
 · intro u hu
   exact tkl_cells [(t, p)] u (by rw [tkl_one]; exact hu)
 · intro v' w' h1 h2 _
   refine h v' w' ?_ (grown_own hown h2 hbase)
   show w'.ownsRow base 100 4 v' (ts ++ [(t, p)]).length (tkl (ts ++ [(t, p)]))
   rw [tkl_append, tkl_one, List.length_append]
   exact h1
theorem one_err {x : List UInt8} {er o : Nat} (h : one x = .error (er, o)) : er = 101 ∨ er = 102 ∧ o = 0 := by
 cases x with
 | nil => cases h; exact .inl rfl
 | cons c r =>
   simp only [one] at h
   repeat' split at h
   all_goals first | (cases h; exact .inl rfl) | (cases h; exact .inr ⟨rfl, rfl⟩) | cases h
end
end Go.Proofs.YthndifegfmjpbaaGreatDoor
