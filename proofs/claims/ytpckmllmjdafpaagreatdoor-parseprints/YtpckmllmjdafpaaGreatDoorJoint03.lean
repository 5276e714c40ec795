/- Texts that the statements of this stage share, joined: LxTokC4, LxTokC5, LxTokC6, LxTokC7, LxTokC8, LxToken, LxRow, LxScan. -/
import Derived.Test.YtpckmllmjdafpaaGreatDoorJoint02

/- The token at a place: one case of it. -/
namespace Go.Proofs.YtpckmllmjdafpaaGreatDoor
open Go.ChangeShapes Go.WideShapes Go.ChangeAt Go.RowKit
set_option linter.unusedVariables false

set_option maxRecDepth 100000 in
set_option maxHeartbeats 2000000 in
theorem token_hex {w : World} {l : List UInt8} {i : Nat} (hi : i < l.length) (hl : l.length ≤ 2000) (k4 : l[i] = 36) (h0 : cnt isHxy (l.drop (i + 1)) ≠ 0) (h : ¬ 128 < cnt isHxy (l.drop (i + 1))) (hE : i + 1 + cnt isHxy (l.drop (i + 1)) < l.length) (k3 : isLet (l[i + 1 + cnt isHxy (l.drop (i + 1))]) = false) :
    Calls Tryz.prog 31 #[.string (bs l), .int .i64 (i : Nat)] w (TokenR w i ⟨2, (l.drop (i + 1)).take (cnt isHxy (l.drop (i + 1))), 0⟩ (i + 1 + cnt isHxy (l.drop (i + 1))) 0) := by
  have hsz := bs_size l
  have h1 : i < (bs l).size := by omega
  have h2 : ((i : Nat) : Int) < ((bs l).size : Int) := by omega
  have hi2 : i ≤ 2000 := by omega
  have k4' : (bs l)[i]'h1 = 36 := by rw [bs_get]; exact k4
  have k1 : isSml ((bs l)[i]'h1) = false := by rw [k4']; decide
  have k2 : isFig ((bs l)[i]'h1) = false := by rw [k4']; decide
  have hs1 := small_tells ((bs l)[i]'h1)
  rw [k1] at hs1
  have hs2 := figure_tells ((bs l)[i]'h1)
  rw [k2] at hs2
  have hv : ((((bs l)[i]'h1).toNat : Nat) : Int) = 36 := by rw [k4']; rfl
  rw [hv] at hs1 hs2
  clear k1 k2 k4 k4'
  have hw := hex_ok (tokW_clo w l i (i + 1) ((i : Nat) + 1) 2 (by simp) (by omega)) hl h0 h
  have hH := tokW_tok w l i ((i : Nat) + 1) 2
  have hR := tokW_res w l i ((i : Nat) + 1) 2
  obtain ⟨J, hJ⟩ : ∃ J, J = (i + 1 + cnt isHxy (l.drop (i + 1))) := ⟨_, rfl⟩
  rw [← hJ] at hw hE ⊢
  have HJ : Hid (J = (i + 1 + cnt isHxy (l.drop (i + 1)))) := hJ
  clear hJ
  have hJ2 : J ≤ 2000 := by omega
  have b1 : J < (bs l).size := by rw [hsz]; exact hE
  have b2 : ((J : Nat) : Int) < ((bs l).size : Int) := by omega
  have k3' : isLet ((bs l)[J]'b1) = false := by rw [bs_get]; have := HJ.out; subst this; exact k3
  have hs3 := letter_tells ((bs l)[J]'b1)
  rw [k3'] at hs3
  clear k3' k3 hE
  have HS : Hid ((bs l).size = l.length) := hsz
  clear hsz
  go_enter Tryz.func31, Tryz.ntmps31
  go_wp2_with (first
    | (go_at_call 43; refine (taking_c _ _ _).mono ?_; rintro e w' ⟨rfl, rfl⟩)
    | (go_at_call 47; refine (hs1 _).mono ?_; rintro e w' ⟨rfl, rfl⟩)
    | (go_at_call 49; refine (hs2 _).mono ?_; rintro e w' ⟨rfl, rfl⟩)
    | (go_at_call 52; refine (hs3 _).mono ?_; rintro e w' ⟨rfl, rfl⟩)
    | (go_at_call 51
       refine hw.mono ?_
       rintro e w1 ⟨rfl, hA⟩
       have hH1 := hA.other hH (by omega)
       have hR1 := hA.other hR (by omega)
       have c0 := hH1.cell 0
       have c1 := hH1.cell 1
       have c2 := hH1.cell 2
       have c3 := hH1.cell 3
       have f1 := hH1.free 1
       have f2 := hH1.free 2
       have hP := hA.at_.cell 0
       have r0 : w1.cell? ⟨w.heap.size, 0, none⟩ = some (.int .i64 0) := hR1.cell 0
       have r1 : w1.cell? ⟨w.heap.size, 1, none⟩ = some (.string ⟨#[]⟩) := hR1.cell 1
       have r2 : w1.cell? ⟨w.heap.size, 2, none⟩ = some (.int .i64 0) := hR1.cell 2
       have r3 : w1.cell? ⟨w.heap.size, 3, none⟩ = some (.int .i64 0) := hR1.cell 3
       have g0 := hR1.free 0
       have g1 := hR1.free 1
       have g2 := hR1.free 2
       have g3 := hR1.free 3))
  go_region
  all_goals
    go_wp2
    exact bodyPost_ret (v := .tuple #[.agg (tkv ⟨2, (l.drop (i + 1)).take (cnt isHxy (l.drop (i + 1))), 0⟩ i), .int .i64 ((J : Nat) : Int), .int .i64 0]) (by simp [results, Tryz.results31, go_sem, tkv, r0, r1, r2, r3]) rfl ⟨rfl, tok_below hA⟩

set_option maxRecDepth 100000 in
set_option maxHeartbeats 2000000 in
theorem token_hexE {w : World} {l : List UInt8} {i : Nat} (hi : i < l.length) (hl : l.length ≤ 2000) (k4 : l[i] = 36) (h0 : cnt isHxy (l.drop (i + 1)) ≠ 0) (h : ¬ 128 < cnt isHxy (l.drop (i + 1))) (hE : i + 1 + cnt isHxy (l.drop (i + 1)) = l.length) :
    Calls Tryz.prog 31 #[.string (bs l), .int .i64 (i : Nat)] w (TokenR w i ⟨2, (l.drop (i + 1)).take (cnt isHxy (l.drop (i + 1))), 0⟩ (i + 1 + cnt isHxy (l.drop (i + 1))) 0) := by
  have hsz := bs_size l
  have h1 : i < (bs l).size := by omega
  have h2 : ((i : Nat) : Int) < ((bs l).size : Int) := by omega
  have hi2 : i ≤ 2000 := by omega
  have k4' : (bs l)[i]'h1 = 36 := by rw [bs_get]; exact k4
  have k1 : isSml ((bs l)[i]'h1) = false := by rw [k4']; decide
  have k2 : isFig ((bs l)[i]'h1) = false := by rw [k4']; decide
  have hs1 := small_tells ((bs l)[i]'h1)
  rw [k1] at hs1
  have hs2 := figure_tells ((bs l)[i]'h1)
  rw [k2] at hs2
  have hv : ((((bs l)[i]'h1).toNat : Nat) : Int) = 36 := by rw [k4']; rfl
  rw [hv] at hs1 hs2
  clear k1 k2 k4 k4'
  have hw := hex_ok (tokW_clo w l i (i + 1) ((i : Nat) + 1) 2 (by simp) (by omega)) hl h0 h
  have hH := tokW_tok w l i ((i : Nat) + 1) 2
  have hR := tokW_res w l i ((i : Nat) + 1) 2
  obtain ⟨J, hJ⟩ : ∃ J, J = (i + 1 + cnt isHxy (l.drop (i + 1))) := ⟨_, rfl⟩
  rw [← hJ] at hw hE ⊢
  have HJ : Hid (J = (i + 1 + cnt isHxy (l.drop (i + 1)))) := hJ
  clear hJ
  have hJ2 : J ≤ 2000 := by omega
  have b2 : ¬ ((J : Nat) : Int) < ((bs l).size : Int) := by omega
  clear hE
  have HS : Hid ((bs l).size = l.length) := hsz
  clear hsz
  go_enter Tryz.func31, Tryz.ntmps31
  go_wp2_with (first
    | (go_at_call 43; refine (taking_c _ _ _).mono ?_; rintro e w' ⟨rfl, rfl⟩)
    | (go_at_call 47; refine (hs1 _).mono ?_; rintro e w' ⟨rfl, rfl⟩)
    | (go_at_call 49; refine (hs2 _).mono ?_; rintro e w' ⟨rfl, rfl⟩)
    | (go_at_call 52; refine (hs3 _).mono ?_; rintro e w' ⟨rfl, rfl⟩)
    | (go_at_call 51
       refine hw.mono ?_
       rintro e w1 ⟨rfl, hA⟩
       have hH1 := hA.other hH (by omega)
       have hR1 := hA.other hR (by omega)
       have c0 := hH1.cell 0
       have c1 := hH1.cell 1
       have c2 := hH1.cell 2
       have c3 := hH1.cell 3
       have f1 := hH1.free 1
       have f2 := hH1.free 2
       have hP := hA.at_.cell 0
       have r0 : w1.cell? ⟨w.heap.size, 0, none⟩ = some (.int .i64 0) := hR1.cell 0
       have r1 : w1.cell? ⟨w.heap.size, 1, none⟩ = some (.string ⟨#[]⟩) := hR1.cell 1
       have r2 : w1.cell? ⟨w.heap.size, 2, none⟩ = some (.int .i64 0) := hR1.cell 2
       have r3 : w1.cell? ⟨w.heap.size, 3, none⟩ = some (.int .i64 0) := hR1.cell 3
       have g0 := hR1.free 0
       have g1 := hR1.free 1
       have g2 := hR1.free 2
       have g3 := hR1.free 3))
  go_region
  all_goals
    go_wp2
    exact bodyPost_ret (v := .tuple #[.agg (tkv ⟨2, (l.drop (i + 1)).take (cnt isHxy (l.drop (i + 1))), 0⟩ i), .int .i64 ((J : Nat) : Int), .int .i64 0]) (by simp [results, Tryz.results31, go_sem, tkv, r0, r1, r2, r3]) rfl ⟨rfl, tok_below hA⟩
end Go.Proofs.YtpckmllmjdafpaaGreatDoor

/- The token at a place: one case of it. -/
namespace Go.Proofs.YtpckmllmjdafpaaGreatDoor
open Go.ChangeShapes Go.WideShapes Go.ChangeAt Go.RowKit
set_option linter.unusedVariables false

set_option maxRecDepth 100000 in
set_option maxHeartbeats 2000000 in
theorem token_hexB {w : World} {l : List UInt8} {i : Nat} (hi : i < l.length) (hl : l.length ≤ 2000) (k4 : l[i] = 36) (h0 : cnt isHxy (l.drop (i + 1)) ≠ 0) (h : ¬ 128 < cnt isHxy (l.drop (i + 1))) (hE : i + 1 + cnt isHxy (l.drop (i + 1)) < l.length) (k3 : isLet (l[i + 1 + cnt isHxy (l.drop (i + 1))]) = true) :
    Calls Tryz.prog 31 #[.string (bs l), .int .i64 (i : Nat)] w (TokenR w i ⟨2, (l.drop (i + 1)).take (cnt isHxy (l.drop (i + 1))), 0⟩ (i + 1 + cnt isHxy (l.drop (i + 1))) 101) := by
  have hsz := bs_size l
  have h1 : i < (bs l).size := by omega
  have h2 : ((i : Nat) : Int) < ((bs l).size : Int) := by omega
  have hi2 : i ≤ 2000 := by omega
  have k4' : (bs l)[i]'h1 = 36 := by rw [bs_get]; exact k4
  have k1 : isSml ((bs l)[i]'h1) = false := by rw [k4']; decide
  have k2 : isFig ((bs l)[i]'h1) = false := by rw [k4']; decide
  have hs1 := small_tells ((bs l)[i]'h1)
  rw [k1] at hs1
  have hs2 := figure_tells ((bs l)[i]'h1)
  rw [k2] at hs2
  have hv : ((((bs l)[i]'h1).toNat : Nat) : Int) = 36 := by rw [k4']; rfl
  rw [hv] at hs1 hs2
  clear k1 k2 k4 k4'
  have hw := hex_ok (tokW_clo w l i (i + 1) ((i : Nat) + 1) 2 (by simp) (by omega)) hl h0 h
  have hH := tokW_tok w l i ((i : Nat) + 1) 2
  have hR := tokW_res w l i ((i : Nat) + 1) 2
  obtain ⟨J, hJ⟩ : ∃ J, J = (i + 1 + cnt isHxy (l.drop (i + 1))) := ⟨_, rfl⟩
  rw [← hJ] at hw hE ⊢
  have HJ : Hid (J = (i + 1 + cnt isHxy (l.drop (i + 1)))) := hJ
  clear hJ
  have hJ2 : J ≤ 2000 := by omega
  have b1 : J < (bs l).size := by rw [hsz]; exact hE
  have b2 : ((J : Nat) : Int) < ((bs l).size : Int) := by omega
  have k3' : isLet ((bs l)[J]'b1) = true := by rw [bs_get]; have := HJ.out; subst this; exact k3
  have hs3 := letter_tells ((bs l)[J]'b1)
  rw [k3'] at hs3
  clear k3' k3 hE
  have HS : Hid ((bs l).size = l.length) := hsz
  clear hsz
  go_enter Tryz.func31, Tryz.ntmps31
  go_wp2_with (first
    | (go_at_call 43; refine (taking_c _ _ _).mono ?_; rintro e w' ⟨rfl, rfl⟩)
    | (go_at_call 47; refine (hs1 _).mono ?_; rintro e w' ⟨rfl, rfl⟩)
    | (go_at_call 49; refine (hs2 _).mono ?_; rintro e w' ⟨rfl, rfl⟩)
    | (go_at_call 52; refine (hs3 _).mono ?_; rintro e w' ⟨rfl, rfl⟩)
    | (go_at_call 51
       refine hw.mono ?_
       rintro e w1 ⟨rfl, hA⟩
       have hH1 := hA.other hH (by omega)
       have hR1 := hA.other hR (by omega)
       have c0 := hH1.cell 0
       have c1 := hH1.cell 1
       have c2 := hH1.cell 2
       have c3 := hH1.cell 3
       have f1 := hH1.free 1
       have f2 := hH1.free 2
       have hP := hA.at_.cell 0
       have r0 : w1.cell? ⟨w.heap.size, 0, none⟩ = some (.int .i64 0) := hR1.cell 0
       have r1 : w1.cell? ⟨w.heap.size, 1, none⟩ = some (.string ⟨#[]⟩) := hR1.cell 1
       have r2 : w1.cell? ⟨w.heap.size, 2, none⟩ = some (.int .i64 0) := hR1.cell 2
       have r3 : w1.cell? ⟨w.heap.size, 3, none⟩ = some (.int .i64 0) := hR1.cell 3
       have g0 := hR1.free 0
       have g1 := hR1.free 1
       have g2 := hR1.free 2
       have g3 := hR1.free 3))
  go_region
  all_goals
    go_wp2
    exact bodyPost_ret (v := .tuple #[.agg (tkv ⟨2, (l.drop (i + 1)).take (cnt isHxy (l.drop (i + 1))), 0⟩ i), .int .i64 ((J : Nat) : Int), .int .i64 101]) (by simp [results, Tryz.results31, go_sem, tkv, r0, r1, r2, r3]) rfl ⟨rfl, tok_below hA⟩

set_option maxRecDepth 100000 in
set_option maxHeartbeats 2000000 in
theorem token_hexL {w : World} {l : List UInt8} {i : Nat} (hi : i < l.length) (hl : l.length ≤ 2000) (k4 : l[i] = 36) (h : 128 < cnt isHxy (l.drop (i + 1))) :
    Calls Tryz.prog 31 #[.string (bs l), .int .i64 (i : Nat)] w (TokenR w i ⟨2, [], 0⟩ (i + 1 + cnt isHxy (l.drop (i + 1))) 102) := by
  have hsz := bs_size l
  have h1 : i < (bs l).size := by omega
  have h2 : ((i : Nat) : Int) < ((bs l).size : Int) := by omega
  have hi2 : i ≤ 2000 := by omega
  have k4' : (bs l)[i]'h1 = 36 := by rw [bs_get]; exact k4
  have k1 : isSml ((bs l)[i]'h1) = false := by rw [k4']; decide
  have k2 : isFig ((bs l)[i]'h1) = false := by rw [k4']; decide
  have hs1 := small_tells ((bs l)[i]'h1)
  rw [k1] at hs1
  have hs2 := figure_tells ((bs l)[i]'h1)
  rw [k2] at hs2
  have hv : ((((bs l)[i]'h1).toNat : Nat) : Int) = 36 := by rw [k4']; rfl
  rw [hv] at hs1 hs2
  clear k1 k2 k4 k4'
  have hw := hex_long (tokW_clo w l i (i + 1) ((i : Nat) + 1) 2 (by simp) (by omega)) hl h
  have hH := tokW_tok w l i ((i : Nat) + 1) 2
  have hR := tokW_res w l i ((i : Nat) + 1) 2
  have HS : Hid ((bs l).size = l.length) := hsz
  clear hsz
  go_enter Tryz.func31, Tryz.ntmps31
  go_wp2_with (first
    | (go_at_call 43; refine (taking_c _ _ _).mono ?_; rintro e w' ⟨rfl, rfl⟩)
    | (go_at_call 47; refine (hs1 _).mono ?_; rintro e w' ⟨rfl, rfl⟩)
    | (go_at_call 49; refine (hs2 _).mono ?_; rintro e w' ⟨rfl, rfl⟩)
    | (go_at_call 51
       refine hw.mono ?_
       rintro e w1 ⟨rfl, hA⟩
       have hH1 := hA.other hH (by omega)
       have hR1 := hA.other hR (by omega)
       have c0 := hH1.cell 0
       have c1 := hH1.cell 1
       have c2 := hH1.cell 2
       have c3 := hH1.cell 3
       have f1 := hH1.free 1
       have f2 := hH1.free 2
       have hP := hA.at_.cell 0
       have r0 : w1.cell? ⟨w.heap.size, 0, none⟩ = some (.int .i64 0) := hR1.cell 0
       have r1 : w1.cell? ⟨w.heap.size, 1, none⟩ = some (.string ⟨#[]⟩) := hR1.cell 1
       have r2 : w1.cell? ⟨w.heap.size, 2, none⟩ = some (.int .i64 0) := hR1.cell 2
       have r3 : w1.cell? ⟨w.heap.size, 3, none⟩ = some (.int .i64 0) := hR1.cell 3
       have g0 := hR1.free 0
       have g1 := hR1.free 1
       have g2 := hR1.free 2
       have g3 := hR1.free 3))
  go_region
  all_goals
    go_wp2
    exact bodyPost_ret (v := .tuple #[.agg (tkv ⟨2, [], 0⟩ i), .int .i64 (((i + 1 + cnt isHxy (l.drop (i + 1))) : Nat) : Int), .int .i64 102]) (by simp [results, Tryz.results31, go_sem, tkv, r0, r1, r2, r3]) rfl ⟨rfl, tok_below hA⟩

set_option maxRecDepth 100000 in
set_option maxHeartbeats 2000000 in
theorem token_hexN {w : World} {l : List UInt8} {i : Nat} (hi : i < l.length) (hl : l.length ≤ 2000) (k4 : l[i] = 36) (h : cnt isHxy (l.drop (i + 1)) = 0) :
    Calls Tryz.prog 31 #[.string (bs l), .int .i64 (i : Nat)] w (TokenR w i ⟨2, [], 0⟩ (i + 1) 101) := by
  have hsz := bs_size l
  have h1 : i < (bs l).size := by omega
  have h2 : ((i : Nat) : Int) < ((bs l).size : Int) := by omega
  have hi2 : i ≤ 2000 := by omega
  have k4' : (bs l)[i]'h1 = 36 := by rw [bs_get]; exact k4
  have k1 : isSml ((bs l)[i]'h1) = false := by rw [k4']; decide
  have k2 : isFig ((bs l)[i]'h1) = false := by rw [k4']; decide
  have hs1 := small_tells ((bs l)[i]'h1)
  rw [k1] at hs1
  have hs2 := figure_tells ((bs l)[i]'h1)
  rw [k2] at hs2
  have hv : ((((bs l)[i]'h1).toNat : Nat) : Int) = 36 := by rw [k4']; rfl
  rw [hv] at hs1 hs2
  clear k1 k2 k4 k4'
  have hw := hex_none (tokW_clo w l i (i + 1) ((i : Nat) + 1) 2 (by simp) (by omega)) hl h
  have hH := tokW_tok w l i ((i : Nat) + 1) 2
  have hR := tokW_res w l i ((i : Nat) + 1) 2
  rw [h, Nat.add_zero] at hw
  have HS : Hid ((bs l).size = l.length) := hsz
  clear hsz
  go_enter Tryz.func31, Tryz.ntmps31
  go_wp2_with (first
    | (go_at_call 43; refine (taking_c _ _ _).mono ?_; rintro e w' ⟨rfl, rfl⟩)
    | (go_at_call 47; refine (hs1 _).mono ?_; rintro e w' ⟨rfl, rfl⟩)
    | (go_at_call 49; refine (hs2 _).mono ?_; rintro e w' ⟨rfl, rfl⟩)
    | (go_at_call 51
       refine hw.mono ?_
       rintro e w1 ⟨rfl, hA⟩
       have hH1 := hA.other hH (by omega)
       have hR1 := hA.other hR (by omega)
       have c0 := hH1.cell 0
       have c1 := hH1.cell 1
       have c2 := hH1.cell 2
       have c3 := hH1.cell 3
       have f1 := hH1.free 1
       have f2 := hH1.free 2
       have hP := hA.at_.cell 0
       have r0 : w1.cell? ⟨w.heap.size, 0, none⟩ = some (.int .i64 0) := hR1.cell 0
       have r1 : w1.cell? ⟨w.heap.size, 1, none⟩ = some (.string ⟨#[]⟩) := hR1.cell 1
       have r2 : w1.cell? ⟨w.heap.size, 2, none⟩ = some (.int .i64 0) := hR1.cell 2
       have r3 : w1.cell? ⟨w.heap.size, 3, none⟩ = some (.int .i64 0) := hR1.cell 3
       have g0 := hR1.free 0
       have g1 := hR1.free 1
       have g2 := hR1.free 2
       have g3 := hR1.free 3))
  go_region
  all_goals
    go_wp2
    exact bodyPost_ret (v := .tuple #[.agg (tkv ⟨2, [], 0⟩ i), .int .i64 (((i + 1) : Nat) : Int), .int .i64 101]) (by simp [results, Tryz.results31, go_sem, tkv, r0, r1, r2, r3]) rfl ⟨rfl, tok_below hA⟩
end Go.Proofs.YtpckmllmjdafpaaGreatDoor

/- The token at a place: one case of it. -/
namespace Go.Proofs.YtpckmllmjdafpaaGreatDoor
open Go.ChangeShapes Go.WideShapes Go.ChangeAt Go.RowKit
set_option linter.unusedVariables false

set_option maxRecDepth 100000 in
set_option maxHeartbeats 2000000 in
theorem token_sign40 {w : World} {l : List UInt8} {i : Nat} (hi : i < l.length) (hl : l.length ≤ 2000) (k4 : l[i] = 40) :
    Calls Tryz.prog 31 #[.string (bs l), .int .i64 (i : Nat)] w (TokenR w i ⟨3, [40], 0⟩ (i + 1) 0) := by
  have hsz := bs_size l
  have h1 : i < (bs l).size := by omega
  have h2 : ((i : Nat) : Int) < ((bs l).size : Int) := by omega
  have hi2 : i ≤ 2000 := by omega
  have k4' : (bs l)[i]'h1 = 40 := by rw [bs_get]; exact k4
  have k1 : isSml ((bs l)[i]'h1) = false := by rw [k4']; decide
  have k2 : isFig ((bs l)[i]'h1) = false := by rw [k4']; decide
  have hs1 := small_tells ((bs l)[i]'h1)
  rw [k1] at hs1
  have hs2 := figure_tells ((bs l)[i]'h1)
  rw [k2] at hs2
  have hv : ((((bs l)[i]'h1).toNat : Nat) : Int) = 40 := by rw [k4']; rfl
  rw [hv] at hs1 hs2
  have hx : (bs l).extract i (i + 1) = bs [40] := by
    rw [bs_extract, List.drop_eq_getElem_cons hi, k4, Nat.add_sub_cancel_left]; rfl
  have hb1 : ((i : Nat) : Int) + 1 ≤ ((bs l).size : Int) := by omega
  clear k1 k2 k4 k4'
  have HS : Hid ((bs l).size = l.length) := hsz
  clear hsz
  go_enter Tryz.func31, Tryz.ntmps31
  go_wp2_with (first
    | (go_at_call 43; refine (taking_c _ _ _).mono ?_; rintro e w' ⟨rfl, rfl⟩)
    | (go_at_call 47; refine (hs1 _).mono ?_; rintro e w' ⟨rfl, rfl⟩)
    | (go_at_call 49; refine (hs2 _).mono ?_; rintro e w' ⟨rfl, rfl⟩))
  go_region
  all_goals
    go_wp2
    exact bodyPost_ret (v := .tuple #[.agg (tkv ⟨3, [40], 0⟩ i), .int .i64 (((i + 1) : Nat) : Int), .int .i64 0]) (by simp [results, Tryz.results31, go_sem, tkv]) rfl ⟨rfl, lit_below _⟩

set_option maxRecDepth 100000 in
set_option maxHeartbeats 2000000 in
theorem token_sign41 {w : World} {l : List UInt8} {i : Nat} (hi : i < l.length) (hl : l.length ≤ 2000) (k4 : l[i] = 41) :
    Calls Tryz.prog 31 #[.string (bs l), .int .i64 (i : Nat)] w (TokenR w i ⟨3, [41], 0⟩ (i + 1) 0) := by
  have hsz := bs_size l
  have h1 : i < (bs l).size := by omega
  have h2 : ((i : Nat) : Int) < ((bs l).size : Int) := by omega
  have hi2 : i ≤ 2000 := by omega
  have k4' : (bs l)[i]'h1 = 41 := by rw [bs_get]; exact k4
  have k1 : isSml ((bs l)[i]'h1) = false := by rw [k4']; decide
  have k2 : isFig ((bs l)[i]'h1) = false := by rw [k4']; decide
  have hs1 := small_tells ((bs l)[i]'h1)
  rw [k1] at hs1
  have hs2 := figure_tells ((bs l)[i]'h1)
  rw [k2] at hs2
  have hv : ((((bs l)[i]'h1).toNat : Nat) : Int) = 41 := by rw [k4']; rfl
  rw [hv] at hs1 hs2
  have hx : (bs l).extract i (i + 1) = bs [41] := by
    rw [bs_extract, List.drop_eq_getElem_cons hi, k4, Nat.add_sub_cancel_left]; rfl
  have hb1 : ((i : Nat) : Int) + 1 ≤ ((bs l).size : Int) := by omega
  clear k1 k2 k4 k4'
  have HS : Hid ((bs l).size = l.length) := hsz
  clear hsz
  go_enter Tryz.func31, Tryz.ntmps31
  go_wp2_with (first
    | (go_at_call 43; refine (taking_c _ _ _).mono ?_; rintro e w' ⟨rfl, rfl⟩)
    | (go_at_call 47; refine (hs1 _).mono ?_; rintro e w' ⟨rfl, rfl⟩)
    | (go_at_call 49; refine (hs2 _).mono ?_; rintro e w' ⟨rfl, rfl⟩))
  go_region
  all_goals
    go_wp2
    exact bodyPost_ret (v := .tuple #[.agg (tkv ⟨3, [41], 0⟩ i), .int .i64 (((i + 1) : Nat) : Int), .int .i64 0]) (by simp [results, Tryz.results31, go_sem, tkv]) rfl ⟨rfl, lit_below _⟩
end Go.Proofs.YtpckmllmjdafpaaGreatDoor

/- The token at a place: one case of it. -/
namespace Go.Proofs.YtpckmllmjdafpaaGreatDoor
open Go.ChangeShapes Go.WideShapes Go.ChangeAt Go.RowKit
set_option linter.unusedVariables false

set_option maxRecDepth 100000 in
set_option maxHeartbeats 2000000 in
theorem token_sign44 {w : World} {l : List UInt8} {i : Nat} (hi : i < l.length) (hl : l.length ≤ 2000) (k4 : l[i] = 44) :
    Calls Tryz.prog 31 #[.string (bs l), .int .i64 (i : Nat)] w (TokenR w i ⟨3, [44], 0⟩ (i + 1) 0) := by
  have hsz := bs_size l
  have h1 : i < (bs l).size := by omega
  have h2 : ((i : Nat) : Int) < ((bs l).size : Int) := by omega
  have hi2 : i ≤ 2000 := by omega
  have k4' : (bs l)[i]'h1 = 44 := by rw [bs_get]; exact k4
  have k1 : isSml ((bs l)[i]'h1) = false := by rw [k4']; decide
  have k2 : isFig ((bs l)[i]'h1) = false := by rw [k4']; decide
  have hs1 := small_tells ((bs l)[i]'h1)
  rw [k1] at hs1
  have hs2 := figure_tells ((bs l)[i]'h1)
  rw [k2] at hs2
  have hv : ((((bs l)[i]'h1).toNat : Nat) : Int) = 44 := by rw [k4']; rfl
  rw [hv] at hs1 hs2
  have hx : (bs l).extract i (i + 1) = bs [44] := by
    rw [bs_extract, List.drop_eq_getElem_cons hi, k4, Nat.add_sub_cancel_left]; rfl
  have hb1 : ((i : Nat) : Int) + 1 ≤ ((bs l).size : Int) := by omega
  clear k1 k2 k4 k4'
  have HS : Hid ((bs l).size = l.length) := hsz
  clear hsz
  go_enter Tryz.func31, Tryz.ntmps31
  go_wp2_with (first
    | (go_at_call 43; refine (taking_c _ _ _).mono ?_; rintro e w' ⟨rfl, rfl⟩)
    | (go_at_call 47; refine (hs1 _).mono ?_; rintro e w' ⟨rfl, rfl⟩)
    | (go_at_call 49; refine (hs2 _).mono ?_; rintro e w' ⟨rfl, rfl⟩))
  go_region
  all_goals
    go_wp2
    exact bodyPost_ret (v := .tuple #[.agg (tkv ⟨3, [44], 0⟩ i), .int .i64 (((i + 1) : Nat) : Int), .int .i64 0]) (by simp [results, Tryz.results31, go_sem, tkv]) rfl ⟨rfl, lit_below _⟩

set_option maxRecDepth 100000 in
set_option maxHeartbeats 2000000 in
theorem token_sign61 {w : World} {l : List UInt8} {i : Nat} (hi : i < l.length) (hl : l.length ≤ 2000) (k4 : l[i] = 61) :
    Calls Tryz.prog 31 #[.string (bs l), .int .i64 (i : Nat)] w (TokenR w i ⟨3, [61], 0⟩ (i + 1) 0) := by
  have hsz := bs_size l
  have h1 : i < (bs l).size := by omega
  have h2 : ((i : Nat) : Int) < ((bs l).size : Int) := by omega
  have hi2 : i ≤ 2000 := by omega
  have k4' : (bs l)[i]'h1 = 61 := by rw [bs_get]; exact k4
  have k1 : isSml ((bs l)[i]'h1) = false := by rw [k4']; decide
  have k2 : isFig ((bs l)[i]'h1) = false := by rw [k4']; decide
  have hs1 := small_tells ((bs l)[i]'h1)
  rw [k1] at hs1
  have hs2 := figure_tells ((bs l)[i]'h1)
  rw [k2] at hs2
  have hv : ((((bs l)[i]'h1).toNat : Nat) : Int) = 61 := by rw [k4']; rfl
  rw [hv] at hs1 hs2
  have hx : (bs l).extract i (i + 1) = bs [61] := by
    rw [bs_extract, List.drop_eq_getElem_cons hi, k4, Nat.add_sub_cancel_left]; rfl
  have hb1 : ((i : Nat) : Int) + 1 ≤ ((bs l).size : Int) := by omega
  clear k1 k2 k4 k4'
  have HS : Hid ((bs l).size = l.length) := hsz
  clear hsz
  go_enter Tryz.func31, Tryz.ntmps31
  go_wp2_with (first
    | (go_at_call 43; refine (taking_c _ _ _).mono ?_; rintro e w' ⟨rfl, rfl⟩)
    | (go_at_call 47; refine (hs1 _).mono ?_; rintro e w' ⟨rfl, rfl⟩)
    | (go_at_call 49; refine (hs2 _).mono ?_; rintro e w' ⟨rfl, rfl⟩))
  go_region
  all_goals
    go_wp2
    exact bodyPost_ret (v := .tuple #[.agg (tkv ⟨3, [61], 0⟩ i), .int .i64 (((i + 1) : Nat) : Int), .int .i64 0]) (by simp [results, Tryz.results31, go_sem, tkv]) rfl ⟨rfl, lit_below _⟩
end Go.Proofs.YtpckmllmjdafpaaGreatDoor

/- The token at a place: one case of it. -/
namespace Go.Proofs.YtpckmllmjdafpaaGreatDoor
open Go.ChangeShapes Go.WideShapes Go.ChangeAt Go.RowKit
set_option linter.unusedVariables false

set_option maxRecDepth 100000 in
set_option maxHeartbeats 2000000 in
theorem token_sign59 {w : World} {l : List UInt8} {i : Nat} (hi : i < l.length) (hl : l.length ≤ 2000) (k4 : l[i] = 59) :
    Calls Tryz.prog 31 #[.string (bs l), .int .i64 (i : Nat)] w (TokenR w i ⟨3, [59], 0⟩ (i + 1) 0) := by
  have hsz := bs_size l
  have h1 : i < (bs l).size := by omega
  have h2 : ((i : Nat) : Int) < ((bs l).size : Int) := by omega
  have hi2 : i ≤ 2000 := by omega
  have k4' : (bs l)[i]'h1 = 59 := by rw [bs_get]; exact k4
  have k1 : isSml ((bs l)[i]'h1) = false := by rw [k4']; decide
  have k2 : isFig ((bs l)[i]'h1) = false := by rw [k4']; decide
  have hs1 := small_tells ((bs l)[i]'h1)
  rw [k1] at hs1
  have hs2 := figure_tells ((bs l)[i]'h1)
  rw [k2] at hs2
  have hv : ((((bs l)[i]'h1).toNat : Nat) : Int) = 59 := by rw [k4']; rfl
  rw [hv] at hs1 hs2
  have hx : (bs l).extract i (i + 1) = bs [59] := by
    rw [bs_extract, List.drop_eq_getElem_cons hi, k4, Nat.add_sub_cancel_left]; rfl
  have hb1 : ((i : Nat) : Int) + 1 ≤ ((bs l).size : Int) := by omega
  clear k1 k2 k4 k4'
  have HS : Hid ((bs l).size = l.length) := hsz
  clear hsz
  go_enter Tryz.func31, Tryz.ntmps31
  go_wp2_with (first
    | (go_at_call 43; refine (taking_c _ _ _).mono ?_; rintro e w' ⟨rfl, rfl⟩)
    | (go_at_call 47; refine (hs1 _).mono ?_; rintro e w' ⟨rfl, rfl⟩)
    | (go_at_call 49; refine (hs2 _).mono ?_; rintro e w' ⟨rfl, rfl⟩))
  go_region
  all_goals
    go_wp2
    exact bodyPost_ret (v := .tuple #[.agg (tkv ⟨3, [59], 0⟩ i), .int .i64 (((i + 1) : Nat) : Int), .int .i64 0]) (by simp [results, Tryz.results31, go_sem, tkv]) rfl ⟨rfl, lit_below _⟩

set_option maxRecDepth 100000 in
set_option maxHeartbeats 2000000 in
theorem token_none {w : World} {l : List UInt8} {i : Nat} (hi : i < l.length) (hl : l.length ≤ 2000) (k1 : isSml l[i] = false) (k2 : isFig l[i] = false) (d1 : l[i] ≠ 36) (d2 : l[i] ≠ 40) (d3 : l[i] ≠ 41) (d4 : l[i] ≠ 44) (d5 : l[i] ≠ 61) (d6 : l[i] ≠ 59) :
    Calls Tryz.prog 31 #[.string (bs l), .int .i64 (i : Nat)] w (TokenR w i ⟨0, [], 0⟩ i 101) := by
  have hsz := bs_size l
  have h1 : i < (bs l).size := by omega
  have h2 : ((i : Nat) : Int) < ((bs l).size : Int) := by omega
  have hi2 : i ≤ 2000 := by omega
  have hc1 : isSml ((bs l)[i]'h1) = false := by rw [bs_get]; exact k1
  have hs1 := small_tells ((bs l)[i]'h1)
  rw [hc1] at hs1
  clear hc1 k1
  have hc2 : isFig ((bs l)[i]'h1) = false := by rw [bs_get]; exact k2
  have hs2 := figure_tells ((bs l)[i]'h1)
  rw [hc2] at hs2
  clear hc2 k2
  have hv : ∀ k : Nat, k < 256 → l[i] ≠ UInt8.ofNat k → ¬ ((((bs l)[i]'h1).toNat : Nat) : Int) = (k : Int) := by
    intro k hk hne e
    apply hne
    rw [bs_get] at e
    apply UInt8.toNat_inj.1
    simp
    omega
  have v1 := hv 36 (by decide) d1
  have v2 := hv 40 (by decide) d2
  have v3 := hv 41 (by decide) d3
  have v4 := hv 44 (by decide) d4
  have v5 := hv 61 (by decide) d5
  have v6 := hv 59 (by decide) d6
  clear hv
  have HS : Hid ((bs l).size = l.length) := hsz
  clear hsz
  go_enter Tryz.func31, Tryz.ntmps31
  go_wp2_with (first
    | (go_at_call 43; refine (taking_c _ _ _).mono ?_; rintro e w' ⟨rfl, rfl⟩)
    | (go_at_call 47; refine (hs1 _).mono ?_; rintro e w' ⟨rfl, rfl⟩)
    | (go_at_call 49; refine (hs2 _).mono ?_; rintro e w' ⟨rfl, rfl⟩))
  go_region
  all_goals
    go_wp2
    exact bodyPost_ret (v := .tuple #[.agg (tkv ⟨0, [], 0⟩ i), .int .i64 ((i : Nat) : Int), .int .i64 101]) (by simp [results, Tryz.results31, go_sem, tkv, bs_nil]) rfl ⟨rfl, lit_below _⟩
end Go.Proofs.YtpckmllmjdafpaaGreatDoor

/- The token at a place. -/
namespace Go.Proofs.YtpckmllmjdafpaaGreatDoor
open Go.ChangeShapes Go.WideShapes Go.ChangeAt Go.RowKit
set_option linter.unusedVariables false

theorem letAt_in {l : List UInt8} {j : Nat} (h : j < l.length) : letAt (l.drop j) = isLet l[j] := by
  rw [List.drop_eq_getElem_cons h]; rfl

theorem letAt_end {l : List UInt8} {j : Nat} (h : ¬ j < l.length) : letAt (l.drop j) = false := by
  rw [List.drop_eq_nil_of_le (by omega)]; rfl

theorem one_at {l : List UInt8} {i : Nat} (hi : i < l.length) : one (l.drop i) =
    if isSml l[i] then (if 16 < cnt isWdy (l.drop i) then .error (102, 0) else .ok (⟨0, (l.drop i).take (cnt isWdy (l.drop i)), 0⟩, cnt isWdy (l.drop i)))
    else if isFig l[i] then (if 9 < cnt isFig (l.drop i) then .error (102, 0) else if letAt (l.drop (i + cnt isFig (l.drop i))) then .error (101, cnt isFig (l.drop i)) else .ok (⟨1, [], val ((l.drop i).take (cnt isFig (l.drop i)))⟩, cnt isFig (l.drop i)))
    else if l[i] == 36 then (if cnt isHxy (l.drop (i + 1)) = 0 then .error (101, 1) else if 128 < cnt isHxy (l.drop (i + 1)) then .error (102, 0) else if letAt (l.drop (i + 1 + cnt isHxy (l.drop (i + 1)))) then .error (101, cnt isHxy (l.drop (i + 1)) + 1) else .ok (⟨2, (l.drop (i + 1)).take (cnt isHxy (l.drop (i + 1))), 0⟩, cnt isHxy (l.drop (i + 1)) + 1))
    else if isSgn l[i] then .ok (⟨3, [l[i]], 0⟩, 1)
    else .error (101, 0) := by
  have hd := List.drop_eq_getElem_cons hi
  conv => lhs; rw [hd]
  simp only [one]
  rw [← hd, List.drop_drop, List.drop_drop]

theorem sgn_cases {c : UInt8} (h : isSgn c = true) : c = 40 ∨ c = 41 ∨ c = 44 ∨ c = 61 ∨ c = 59 := by
  simp [isSgn] at h
  rcases h with (((h | h) | h) | h) | h <;> simp [h]

theorem token_ok {w : World} {l : List UInt8} {i n : Nat} {t : Tk} (hi : i < l.length) (hl : l.length ≤ 2000) (h : one (l.drop i) = .ok (t, n)) :
    Calls Tryz.prog 31 #[.string (bs l), .int .i64 (i : Nat)] w (TokenR w i t (i + n) 0) := by
  rw [one_at hi] at h
  split at h
  · rename_i k1
    split at h
    · cases h
    · rename_i hn
      cases h
      exact token_word hi hl k1 hn
  · rename_i k1
    have k1 : isSml l[i] = false := by simpa using k1
    split at h
    · rename_i k2
      have h0 : cnt isFig (l.drop i) ≠ 0 := by rw [List.drop_eq_getElem_cons hi, cnt_cons, if_pos k2]; omega
      split at h
      · cases h
      · rename_i hn
        split at h
        · cases h
        · rename_i hla
          cases h
          by_cases hE : i + cnt isFig (l.drop i) < l.length
          · rw [letAt_in hE] at hla
            exact token_num hi hl k1 k2 hn h0 hE (by simpa using hla)
          · exact token_numE hi hl k1 k2 hn h0 (by have := drop_le (p := isFig) (Nat.le_of_lt hi); omega)
    · rename_i k2
      split at h
      · rename_i k4
        have k4 := eq_of_beq k4
        split at h
        · cases h
        · rename_i h0
          split at h
          · cases h
          · rename_i hn
            split at h
            · cases h
            · rename_i hla
              cases h
              rw [show i + (cnt isHxy (l.drop (i + 1)) + 1) = i + 1 + cnt isHxy (l.drop (i + 1)) by omega]
              by_cases hE : i + 1 + cnt isHxy (l.drop (i + 1)) < l.length
              · rw [letAt_in hE] at hla
                exact token_hex hi hl k4 h0 hn hE (by simpa using hla)
              · exact token_hexE hi hl k4 h0 hn (by have := drop_le (p := isHxy) (j := i + 1) hi; omega)
      · split at h
        · rename_i k5
          cases h
          rcases sgn_cases k5 with e | e | e | e | e
          · rw [e]; exact token_sign40 hi hl e
          · rw [e]; exact token_sign41 hi hl e
          · rw [e]; exact token_sign44 hi hl e
          · rw [e]; exact token_sign61 hi hl e
          · rw [e]; exact token_sign59 hi hl e
        · cases h

/-- What token answers where there is a fault. -/
def TokenF (w : World) (i er o : Nat) (e : Ending) (w' : World) : Prop := ∃ t E, TokenR w i t E (er : Nat) e w' ∧ (er = 101 → E = i + o) ∧ (er ≠ 101 → er = 102 ∧ o = 0)

theorem token_bad {w : World} {l : List UInt8} {i er o : Nat} (hi : i < l.length) (hl : l.length ≤ 2000) (h : one (l.drop i) = .error (er, o)) :
    Calls Tryz.prog 31 #[.string (bs l), .int .i64 (i : Nat)] w (TokenF w i er o) := by
  rw [one_at hi] at h
  split at h
  · rename_i k1
    split at h
    · rename_i hn
      cases h
      exact (token_wordL hi hl k1 hn).mono fun e w' hr => ⟨_, _, hr, fun e => (by cases e), fun _ => ⟨rfl, rfl⟩⟩
    · cases h
  · rename_i k1
    have k1 : isSml l[i] = false := by simpa using k1
    split at h
    · rename_i k2
      have h0 : cnt isFig (l.drop i) ≠ 0 := by rw [List.drop_eq_getElem_cons hi, cnt_cons, if_pos k2]; omega
      split at h
      · rename_i hn
        cases h
        exact (token_numL hi hl k1 k2 hn).mono fun e w' hr => ⟨_, _, hr, fun e => (by cases e), fun _ => ⟨rfl, rfl⟩⟩
      · rename_i hn
        split at h
        · rename_i hla
          cases h
          by_cases hE : i + cnt isFig (l.drop i) < l.length
          · rw [letAt_in hE] at hla
            exact (token_numB hi hl k1 k2 hn h0 hE hla).mono fun e w' hr => ⟨_, _, hr, fun _ => rfl, fun e => absurd rfl e⟩
          · rw [letAt_end hE] at hla; cases hla
        · cases h
    · rename_i k2
      have k2 : isFig l[i] = false := by simpa using k2
      split at h
      · rename_i k4
        have k4 := eq_of_beq k4
        split at h
        · rename_i h0
          cases h
          exact (token_hexN hi hl k4 h0).mono fun e w' hr => ⟨_, _, hr, fun _ => rfl, fun e => absurd rfl e⟩
        · rename_i h0
          split at h
          · rename_i hn
            cases h
            exact (token_hexL hi hl k4 hn).mono fun e w' hr => ⟨_, _, hr, fun e => (by cases e), fun _ => ⟨rfl, rfl⟩⟩
          · rename_i hn
            split at h
            · rename_i hla
              cases h
              by_cases hE : i + 1 + cnt isHxy (l.drop (i + 1)) < l.length
              · rw [letAt_in hE] at hla
                exact (token_hexB hi hl k4 h0 hn hE hla).mono fun e w' hr => ⟨_, _, hr, fun _ => by omega, fun e => absurd rfl e⟩
              · rw [letAt_end hE] at hla; cases hla
            · cases h
      · rename_i d1
        split at h
        · cases h
        · rename_i d2
          cases h
          simp [isSgn] at d2
          exact (token_none hi hl k1 k2 (by simpa using d1) d2.1.1.1.1 d2.1.1.1.2 d2.1.1.2 d2.1.2 d2.2).mono fun e w' hr => ⟨_, _, hr, fun _ => rfl, fun e => absurd rfl e⟩
end Go.Proofs.YtpckmllmjdafpaaGreatDoor

/- Tokens in memory. -/
namespace Go.Proofs.YtpckmllmjdafpaaGreatDoor
open Go.ChangeShapes Go.WideShapes Go.ChangeAt Go.RowKit
set_option linter.unusedVariables false

theorem at_dstL {ops : Array Oper} {rest : List Oper} {o : Oper} {a : Act} {w : World} {Q : Exit → Act → World → Prop} (n : Nat) (hd : o.dst = some n) (h : wpList Tryz.prog ops Q (o :: rest) a w) : wpList Tryz.prog ops Q (o :: rest) a w := h

/-- Tokens, cell by cell. -/
def tkl (ts : Toks) : List Value := ts.flatMap fun t => (tkv t.1 t.2).toList

theorem tkl_len (ts : Toks) : (tkl ts).length = ts.length * 4 := by
  induction ts with
  | nil => rfl
  | cons t r ih =>
    have : tkl (t :: r) = (tkv t.1 t.2).toList ++ tkl r := by simp [tkl]
    rw [this, List.length_append, ih]
    simp [tkv]
    omega

theorem tkl_append (a b : Toks) : tkl (a ++ b) = tkl a ++ tkl b := by simp [tkl]

theorem tkl_one (t : Tk × Nat) : tkl [t] = (tkv t.1 t.2).toList := by simp [tkl]

theorem tkl_cells (ts : Toks) : ∀ u ∈ tkl ts, u.oneCell' = true := by
  intro u hu
  obtain ⟨t, _, h⟩ := List.mem_flatMap.1 hu
  simp [tkv] at h
  rcases h with rfl | rfl | rfl | rfl <;> rfl

theorem tkl_get (ts : Toks) (i : Nat) (h : i < ts.length) (j : Nat) (hj : j < 4) : (tkl ts)[i * 4 + j]? = (tkv ts[i].1 ts[i].2)[j]? := by
  induction ts generalizing i with
  | nil => simp at h
  | cons t r ih =>
    have e : tkl (t :: r) = (tkv t.1 t.2).toList ++ tkl r := by simp [tkl]
    have e4 : (tkv t.1 t.2).toList.length = 4 := rfl
    rw [e]
    cases i with
    | zero =>
      rw [List.getElem?_append_left (by rw [e4]; omega)]
      simp
    | succ i =>
      rw [List.getElem?_append_right (by rw [e4]; omega), e4]
      simp only [List.length_cons] at h
      rw [show (i + 1) * 4 + j - 4 = i * 4 + j by omega, ih i (by omega)]
      simp

/-- Tokens lie in a row of the call's own. -/
def TokRow (w : World) (base : Nat) (v : Value) (ts : Toks) : Prop := w.ownsRow base 58 4 v ts.length (tkl ts)

theorem row_grown {w w' : World} {base e size n : Nat} {v : Value} {xs : List Value} (h : w.ownsRow base e size v n xs) (hb : ∀ g o, v.ownBlock = some g → w.heap[g]? = some o → w'.heap[g]? = some o) : w'.ownsRow base e size v n xs := by
  refine ⟨h.1, ?_⟩
  rcases h.2 with h0 | ⟨g, cap, cur, hv, h1, hg, r⟩
  · exact .inl h0
  · exact .inr ⟨g, cap, cur, hv, h1, hb g _ (by rw [hv]; rfl) hg, r⟩

theorem row_lt {w : World} {base e size n : Nat} {v : Value} {xs : List Value} (h : w.ownsRow base e size v n xs) {g : Nat} (hg : v.ownBlock = some g) : g < w.heap.size ∧ base ≤ g := by
  rcases h.2 with ⟨rfl, _⟩ | ⟨g', cap, cur, rfl, h1, hg', r⟩
  · cases hg
  · cases hg; exact ⟨(Array.getElem?_eq_some_iff.1 hg').1, h1⟩

theorem TokRow.below {w w' : World} {base : Nat} {v : Value} {ts : Toks} (h : TokRow w base v ts) (hb : Below w.heap.size w w') : TokRow w' base v ts :=
  row_grown h (fun g o e ho => (hb.block g (row_lt h e).1).trans ho)

theorem TokRow.empty (w : World) (base : Nat) : TokRow w base (.slice none 0 0) [] := ⟨rfl, .inl ⟨rfl, rfl⟩⟩

theorem TokRow.mono {w : World} {base base' : Nat} {v : Value} {ts : Toks} (h : TokRow w base v ts) (hb : base' ≤ base) : TokRow w base' v ts := by
  refine ⟨h.1, ?_⟩
  rcases h.2 with h0 | ⟨g, cap, cur, hv, h1, r⟩
  · exact .inl h0
  · exact .inr ⟨g, cap, cur, hv, by omega, r⟩

theorem Tryz.infoTok : (Tryz.prog.info? 58).map (fun i => (i.zero, i.size, i.bytes)) = some (some (.agg #[.int .i64 0, .string ⟨#[]⟩, .int .i64 0, .int .i64 0]), 4, 40) := by kernel_rfl

/-- What grew of a row of its own is new from the base on. -/
theorem grown_own {w w' : World} {base e size n : Nat} {v : Value} {xs : List Value} (h : w.ownsRow base e size v n xs) (hg : w.grownBy w' v.ownBlock) (hb : base ≤ w.heap.size) : Below base w w' :=
  ⟨hg.os, hg.tape, hg.output, hg.size, fun k hk => hg.block k (by omega) (fun e => by have := (row_lt h e.symm).2; omega)⟩

/-- One token is appended. -/
theorem wpList_append_tok {ops : Array Oper} {rest : List Oper} {o : Oper} {a : Act} {w : World} {Q : Exit → Act → World → Prop} (hgd : o.guard = none) (s x : Operand)
    (ho : o.op = .call { callee := .builtin .append, args := #[s, x], argTypes := #[44, 44] }) (base : Nat) (v : Value) (ts : Toks) (hs : a.eval s = v) (hown : TokRow w base v ts)
    (G : Nat) (t : Tk) (p : Nat) (hx : a.eval x = .slice (some ⟨G, 0, none⟩) 1 1) (hG : Has w G 58 (tkv t p)) (hn : ts.length ≤ 500) (hbase : base ≤ w.heap.size)
    (h : ∀ v' w', TokRow w' base v' (ts ++ [(t, p)]) → Below base w w' → wpList Tryz.prog ops Q rest (a.put o.dst v') w') : wpList Tryz.prog ops Q (o :: rest) a w := by
  obtain ⟨i0, hi, hz0, hz1, hz2⟩ := info_parts Tryz.infoTok
  refine wpList_append_own w hgd s x 44 ho base 58 i0 (.agg #[.int .i64 0, .string ⟨#[]⟩, .int .i64 0, .int .i64 0]) 4 40 Tryz.underlying44 hi hz0 hz1 hz2 rfl (by decide) v ts.length (tkl ts) hs hown ⟨G, 0, none⟩ 1 1 (tkv t p).toList hx rfl ?_ ?_ (by unfold maxLen; omega) (by omega) hbase ?_
  · intro j u hj
    have := hG.cell j
    rw [show (⟨G, 0, none⟩ : Addr).add j = ⟨G, j, none⟩ by simp [Addr.add]; omega]
    rw [this]
    simpa using hj
  · intro u hu
    exact tkl_cells [(t, p)] u (by rw [tkl_one]; exact hu)
  · intro v' w' h1 h2 _
    refine h v' w' ?_ (grown_own hown h2 hbase)
    show w'.ownsRow base 58 4 v' (ts ++ [(t, p)]).length (tkl (ts ++ [(t, p)]))
    rw [tkl_append, tkl_one, List.length_append]
    exact h1

theorem one_err {x : List UInt8} {er o : Nat} (h : one x = .error (er, o)) : er = 101 ∨ er = 102 ∧ o = 0 := by
  cases x with
  | nil => cases h; exact .inl rfl
  | cons c r =>
    simp only [one] at h
    repeat' split at h
    all_goals first | (cases h; exact .inl rfl) | (cases h; exact .inr ⟨rfl, rfl⟩) | cases h
end Go.Proofs.YtpckmllmjdafpaaGreatDoor

/- A text as tokens. -/
namespace Go.Proofs.YtpckmllmjdafpaaGreatDoor
open Go.ChangeShapes Go.WideShapes Go.ChangeAt Go.RowKit
set_option linter.unusedVariables false

/-- What Scan answers of a text whose scan is R. -/
def ScanR (w : World) (R : Except (Nat × Nat) Toks) (e : Ending) (w' : World) : Prop := Below w.heap.size w w' ∧ match R with
  | .error (er, o) => e = .returned (.tuple #[.slice none 0 0, .int .i64 (er : Nat), .int .i64 (o : Nat)])
  | .ok ts => ∃ v, e = .returned (.tuple #[v, .int .i64 0, .int .i64 (-1)]) ∧ TokRow w' w.heap.size v ts

set_option maxRecDepth 100000 in
theorem scan_long (w : World) (l : List UInt8) (h : 2000 < l.length) (hm : l.length ≤ maxLen) : Calls Tryz.prog 18 #[.string (bs l)] w (ScanR w (Scan l)) := by
  unfold maxLen at hm
  have hsz := bs_size l
  have h1 : (2000 : Int) < ((bs l).size : Int) := by omega
  have HR : Hid (Scan l = .error (103, 0)) := by show Scan l = _; unfold Scan; rw [if_pos h]
  clear hsz
  go_enter Tryz.func18, Tryz.ntmps18
  go_wp2
  go_ret3
  exact ⟨Below.refl _ _, by rw [HR.out]; rfl⟩

/-- Where Scan stands: behind tokens ts, at i. -/
def ScanAt (w wr : World) (l : List UInt8) (v : Value) (i : Nat) (ts : Toks) : Prop := i ≤ l.length ∧ Below w.heap.size w wr ∧ TokRow wr w.heap.size v ts ∧ ts.length ≤ 500 ∧ ∃ f, l.length - i < f ∧ Scan l = ahead ts (scan f (l.drop i) i ts.length)

theorem ScanAt.step {w wr : World} {l : List UInt8} {v : Value} {i : Nat} {ts : Toks} (h : ScanAt w wr l v i ts) : ∃ f, l.length - i ≤ f ∧ Scan l = ahead ts (scan (f + 1) (l.drop i) i ts.length) := by
  obtain ⟨h1, h2, h3, h4, f, h5, h6⟩ := h
  cases f with
  | zero => omega
  | succ f => exact ⟨f, by omega, h6⟩

theorem ScanAt.done {w wr : World} {l : List UInt8} {v : Value} {i : Nat} {ts : Toks} (h : ScanAt w wr l v i ts) (hd : ¬ i + skp false (l.drop i) < l.length) : Scan l = .ok ts := by
  obtain ⟨f, hf, e⟩ := h.step
  rw [e, scan_end (by rw [List.drop_drop]; exact List.drop_eq_nil_of_le (by omega))]
  simp [ahead]

theorem ScanAt.ne {l : List UInt8} {i : Nat} (hd : i + skp false (l.drop i) < l.length) : (l.drop i).drop (skp false (l.drop i)) ≠ [] := by
  rw [List.drop_drop]
  intro e
  have := congrArg List.length e
  simp at this
  omega

theorem ScanAt.bad {w wr : World} {l : List UInt8} {v : Value} {i er o : Nat} {ts : Toks} (h : ScanAt w wr l v i ts) (hd : i + skp false (l.drop i) < l.length) (ho : one (l.drop (i + skp false (l.drop i))) = .error (er, o)) : Scan l = .error (er, i + skp false (l.drop i) + o) := by
  obtain ⟨f, hf, e⟩ := h.step
  rw [e, scan_bad (ScanAt.ne hd) (by rw [List.drop_drop]; exact ho)]
  rfl

theorem ScanAt.many {w wr : World} {l : List UInt8} {v : Value} {i n : Nat} {t : Tk} {ts : Toks} (h : ScanAt w wr l v i ts) (hd : i + skp false (l.drop i) < l.length) (ho : one (l.drop (i + skp false (l.drop i))) = .ok (t, n)) (h5 : ts.length = 500) : Scan l = .error (103, i + skp false (l.drop i)) := by
  obtain ⟨f, hf, e⟩ := h.step
  rw [h5] at e
  rw [e, scan_many (ScanAt.ne hd) (by rw [List.drop_drop]; exact ho)]
  rfl

theorem ScanAt.next {w wr w' : World} {l : List UInt8} {v v' : Value} {i n : Nat} {t : Tk} {ts : Toks} (h : ScanAt w wr l v i ts) (hd : i + skp false (l.drop i) < l.length) (ho : one (l.drop (i + skp false (l.drop i))) = .ok (t, n)) (h5 : ts.length ≠ 500)
    (hb : Below w.heap.size w w') (hr : TokRow w' w.heap.size v' (ts ++ [(t, i + skp false (l.drop i))])) : ScanAt w w' l v' (i + skp false (l.drop i) + n) (ts ++ [(t, i + skp false (l.drop i))]) := by
  obtain ⟨f, hf, e⟩ := h.step
  have hn := one_len ho
  rw [List.length_drop] at hn
  have h4 := h.2.2.2.1
  refine ⟨by omega, hb, hr, by rw [List.length_append]; simp; omega, f, by omega, ?_⟩
  rw [e, scan_next (ScanAt.ne hd) (by rw [List.drop_drop]; exact ho) h5, ahead_ahead, List.drop_drop, List.length_append]
  rw [show i + (skp false (l.drop i) + n) = i + skp false (l.drop i) + n by omega]
  rfl

theorem row_slice {w : World} {base : Nat} {v : Value} {ts : Toks} (h : TokRow w base v ts) : ∃ A C, v = .slice A ts.length C := by
  rcases h.2 with ⟨rfl, h0⟩ | ⟨g, cap, cur, rfl, _⟩
  · exact ⟨none, 0, by rw [h0]⟩
  · exact ⟨_, _, rfl⟩

theorem scan_b1 {w wr w2 : World} (h : Below w.heap.size w wr) (h2 : Below wr.heap.size wr w2) (o : Obj) : Below w.heap.size w (w2.alloc o) :=
  (h.trans (h2.mono h.size)).alloc (by have := h.size; have := h2.size; omega) o

theorem scan_b2 {w wr w2 w3 w4 : World} {o1 o2 : Obj} (h : Below w.heap.size w wr) (h2 : Below wr.heap.size wr w2) (h3 : Below w.heap.size ((w2.alloc o1).alloc o2) w3) (h4 : Below w3.heap.size w3 w4) : Below w.heap.size w w4 := by
  have s1 := h.size
  have s2 := h2.size
  have s3 := h3.size
  simp at s3
  exact ((((h.trans (h2.mono s1)).alloc (by omega) o1).alloc (by simp; omega) o2).trans h3).trans (h4.mono (by omega))

set_option maxRecDepth 100000 in
set_option maxHeartbeats 2000000 in
theorem scan_c (w : World) (l : List UInt8) (h : ¬ 2000 < l.length) : Calls Tryz.prog 18 #[.string (bs l)] w (ScanR w (Scan l)) := by
  have hl : l.length ≤ 2000 := by omega
  have hsz := bs_size l
  have h1 : ¬ (2000 : Int) < ((bs l).size : Int) := by omega
  have HS : Hid ((bs l).size = l.length) := hsz
  have hp := fun W => passed_c W l 0 (Nat.zero_le _) hl
  clear hsz
  simp only [Nat.zero_add] at hp
  go_enter Tryz.func18, Tryz.ntmps18
  go_wp2_with (go_at_call 30; refine (hp _).mono ?_; rintro e w1 ⟨rfl, hb1⟩)
  go_loopw [5, 6] (fun v z wr => ∃ (i : Nat) (ts : Toks), ScanAt w wr l v i ts ∧ z = .int .i64 ((i + skp false (l.drop i) : Nat) : Int)) (fun _ z _ => 2000 - (intOf z).toNat)
  case atStart => exact ⟨0, [], ⟨Nat.zero_le _, hb1, TokRow.empty _ _, by simp, l.length + 1, by omega, by rw [ahead_nil]; unfold Scan; rw [if_neg h]; rfl⟩, by simp⟩
  case round =>
    clear hb1 hp
    obtain ⟨i, ts, hA, rfl⟩ := hrel
    have hle := skp_le false (l.drop i)
    rw [List.length_drop] at hle
    obtain ⟨hi, hbw, hrow, h500, -⟩ := id hA
    obtain ⟨A, C, rfl⟩ := row_slice hrow
    obtain ⟨J, hJ⟩ : ∃ J, J = i + skp false (l.drop i) := ⟨_, rfl⟩
    have hJ2 : J ≤ 2000 := by omega
    have HJ : Hid (J = i + skp false (l.drop i)) := hJ
    rw [← hJ]
    obtain ⟨M, hM⟩ : ∃ M, M = ts.length := ⟨_, rfl⟩
    have HM : Hid (M = ts.length) := hM
    rw [← hM] at h500 hrow hA ⊢
    have hM2 : M ≤ 500 := h500
    clear hM h500 hle
    by_cases hlt : J < l.length
    · have h2 : ((J : Nat) : Int) < ((bs l).size : Int) := by rw [HS.out]; omega
      cases ho : one (l.drop J) with
      | error r =>
        obtain ⟨er, o⟩ := r
        have hbad := hA.bad (by rw [← hJ]; exact hlt) (by rw [← hJ]; exact ho)
        rw [← hJ] at hbad
        have ht := fun W => token_bad (w := W) hlt hl ho
        have HB : Hid (Scan l = .error (er, J + o)) := hbad
        rcases one_err ho with e | ⟨e, e'⟩
        · subst e
          clear hbad ho hJ hA
          go_wp2_with (go_at_call 31; refine (ht _).mono ?_; rintro e w2 ⟨t, E, ⟨rfl, hb2⟩, hE, -⟩; have HE : Hid (E = J + o) := hE rfl; clear hE; simp only [tkv])
          go_ret3
          exact ⟨scan_b1 hbw hb2 _, by rw [HB.out, ← HE.out]; rfl⟩
        · subst e e'
          clear hbad ho hJ hA
          go_wp2_with (go_at_call 31; refine (ht _).mono ?_; rintro e w2 ⟨t, E, ⟨rfl, hb2⟩, hE, -⟩; simp only [tkv])
          go_ret3
          exact ⟨scan_b1 hbw hb2 _, by rw [HB.out]; rfl⟩
      | ok r =>
        obtain ⟨t, n⟩ := r
        have ht := fun W => token_ok (w := W) hlt hl ho
        have hn := one_len ho
        rw [List.length_drop] at hn
        have hlt' : i + skp false (l.drop i) < l.length := by rw [← hJ]; exact hlt
        have ho' : one (l.drop (i + skp false (l.drop i))) = .ok (t, n) := by rw [← hJ]; exact ho
        by_cases h5 : M = 500
        · have hmany := hA.many hlt' ho' (HM.out ▸ h5)
          rw [← hJ] at hmany
          have HB : Hid (Scan l = .error (103, J)) := hmany
          clear hmany ho ho' hlt' hJ hA
          subst h5
          go_wp2_with (go_at_call 31; refine (ht _).mono ?_; rintro e w2 ⟨rfl, hb2⟩; simp only [tkv])
          go_ret3
          exact ⟨scan_b1 hbw hb2 _, by rw [HB.out]; rfl⟩
        · have h5' : ¬ ((M : Nat) : Int) = 500 := by omega
          have hnext := fun w' v' hb hr => hA.next (w' := w') (v' := v') hlt' ho' (by rw [← HM.out]; exact h5) hb hr
          rw [← hJ] at hnext
          have hp := fun W => passed_c W l (J + n) (by omega) hl
          obtain ⟨E, hE⟩ : ∃ E, E = J + n := ⟨_, rfl⟩
          rw [← hE] at hp ht hnext
          have hE1 : J < E := by omega
          have hE2 : E ≤ 2000 := by omega
          clear ho ho' hlt' hJ hA hE
          go_wp2_with (first
            | (go_at_call 31; refine (ht _).mono ?_; rintro e w2 ⟨rfl, hb2⟩; simp only [tkv])
            | (go_at_call 30; refine (hp _).mono ?_; rintro e w4 ⟨rfl, hb4⟩)
            | (refine at_dstL 44 rfl ?_
               refine wpList_append_tok rfl _ _ rfl w.heap.size _ ts rfl (((hrow.below hb2).below ((Below.refl _ _).alloc (Nat.le_refl _) _)).below ((Below.refl _ _).alloc (Nat.le_refl _) _)) (w2.heap.size + 1) t J rfl (Has.new_at (by simp)) (by rw [← HM.out]; exact hM2) (by have := hbw.size; have := hb2.size; simp; omega) ?_
               intro v' w3 hr3 hb3))
          go_roundw
          case rel =>
            have hbA : Below w.heap.size w w4 := scan_b2 hbw hb2 hb3 hb4
            exact ⟨E, _, hnext w4 _ hbA (hr3.below hb4), rfl⟩
          case measure => simp [intOf]; omega
    · have h2 : ¬ ((J : Nat) : Int) < ((bs l).size : Int) := by rw [HS.out]; omega
      have hdone := hA.done (by rw [← hJ]; exact hlt)
      have HB : Hid (Scan l = .ok ts) := hdone
      clear hdone hA hJ
      go_wp2
      go_ret3
      exact ⟨hbw, by rw [HB.out]; exact ⟨_, rfl, hrow⟩⟩
end Go.Proofs.YtpckmllmjdafpaaGreatDoor
