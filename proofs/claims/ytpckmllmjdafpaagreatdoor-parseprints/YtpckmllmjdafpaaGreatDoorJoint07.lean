/- Texts that the statements of this stage share, joined: PsStExport, PsFile, PsParse, PsParse2, PsRead, PsRight, PsRight2. -/
import Derived.Test.YtpckmllmjdafpaaGreatDoorJoint05
import Derived.Test.YtpckmllmjdafpaaGreatDoorJoint06

/- A statement: Export. -/
namespace Go.Proofs.YtpckmllmjdafpaaGreatDoor
open Go.ChangeShapes Go.WideShapes Go.ChangeAt Go.RowKit
set_option linter.unusedVariables false

set_option maxRecDepth 100000 in
set_option maxHeartbeats 4000000 in
theorem stmtExport_c (pb en : Nat) (w : World) (ts r1 : Toks) (K M a : Nat) (h : PAt w pb ts en) (hT1 : ptake (isWd stmts) en ts = .ok ((⟨K, wExport, M⟩, a), r1)) :
    Calls Tryz.prog 53 #[.pointer (some ⟨pb, 0, none⟩)] w (PRes w pb en (pstmt en ts)) := by
  have hlt := h.lt
  have htk1 := fun o => first_take w o h
  have htk2 := fun W (h : PAt W pb r1 en) => take_c h Ask.nm
  have hs59 : ∀ W, Calls Tryz.prog 69 #[.string ⟨#[59]⟩] W fun e w' => e = .returned (.func (.func 87) #[] #[.pointer (some ⟨W.heap.size, 0, none⟩)]) ∧ w' = W.alloc (.cells #[.string ⟨#[59]⟩] 9) := fun W => isSign_c [59] W
  have htk9 : ∀ {r : Toks} W q, PAt W pb r en → W.heap.size = q → Calls Tryz.prog 66 #[.pointer (some ⟨pb, 0, none⟩), .func (.func 87) #[] #[.pointer (some ⟨q, 0, none⟩)]] (W.alloc (.cells #[.string ⟨#[59]⟩] 9)) (TRes W pb en (ptake (isSg [59]) en r)) := fun W q h e => e ▸ sgn_take [59] h
  rw [hT1] at htk1
  cases hT2 : ptake isNm en r1 with
  | error er =>
    obtain ⟨c, q⟩ := er
    rw [hT2] at htk2
    rw [stmt_two hT1 hT2]
    clear hT1 hT2 h htk9 hs59
    go_enter Tryz.func53, Tryz.ntmps53
    go_wp2_with (first
      | (go_at_call 67; refine at_argP 0 (.slice _ 6 6) rfl ?_; refine (isWord_c _ _ _ _).mono ?_; rintro e w1 ⟨rfl, rfl⟩)
      | ((go_at_call 66)
         (refine at_argP 1 (.func (.func 84) #[] _) rfl ?_)
         (refine (htk1 _).mono ?_)
         (rintro e w2 ⟨hk2, rfl, hp2⟩)
         (clear htk1)
         (have hR2 : Has w2 w.heap.size 24 #[.string ⟨#[]⟩, .string ⟨#[]⟩, .int .i64 0, .int .i64 0, .slice none 0 0] := (Has.new w _ _).kp hk2 (by omega))
         (have hlR2 := hR2.lt)
         (simp only [tkv, bsExport]))
      | (go_at_call 66; refine at_argP 1 (.func (.func 38) #[] #[]) rfl ?_; refine (htk2 _ ((hp2.new _).new _)).mono ?_; rintro e w3 ⟨hk3, rfl⟩))
    exact ⟨rfl, (kp_new (b_one _ _) hk2).trans (kp_new (b_two _ _ _) hk3), rfl⟩
  | ok ur =>
    obtain ⟨u, r2⟩ := ur
    rw [hT2] at htk2
    rw [stmt_three hT1 hT2]
    have hrest : prest (⟨K, wExport, M⟩ : Tk).s = pexp := restExport
    clear hT1 hT2 h
    have hro : ∀ W q, PAt W pb r2 en → W.heap.size = q → Ask ((W.alloc (.cells #[.string ⟨#[114, 101, 97, 100, 111, 110, 108, 121]⟩] 9)).alloc (.cells #[.slice (some ⟨q, 0, none⟩) 1 1] 67)) pb (.func (.func 84) #[] #[.pointer (some ⟨q + 1, 0, none⟩)]) (isWd [wReadonly]) := by
      rintro W q h rfl
      have hz : (W.alloc (.cells #[.string ⟨#[114, 101, 97, 100, 111, 110, 108, 121]⟩] 9)).heap.size = W.heap.size + 1 := by simp
      rw [← hz]
      have := h.lt
      exact wrd_take W.heap.size [wReadonly] _ (h.new _) (Has.new _ _ _) (by omega) (by decide)
    have hcm := fun W q h e => comes_c ((PAt.new (PAt.new h _) _)) (hro W q h e)
    cases hC : pcomes (isWd [wReadonly]) r2 with
    | false =>
      rw [hC] at hcm
      cases hT9 : ptake (isSg [59]) en r2 with
      | error er =>
        obtain ⟨c9, q9⟩ := er
        have htk9 := fun W q h e => htk9 (r := r2) W q h e
        rw [hT9] at htk9
        have HR : Hid _ := after_two (t := (⟨K, wExport, M⟩, a)) (u := u) (by rw [hrest]; exact pexp_no hC) hT9
        clear hT9 hC hrest hro
        go_enter Tryz.func53, Tryz.ntmps53
        go_wp2_with (first
            | (go_at_call 67; refine at_argP 0 (.slice _ 6 6) rfl ?_; refine (isWord_c _ _ _ _).mono ?_; rintro e w1 ⟨rfl, rfl⟩)
            | ((go_at_call 66)
               (refine at_argP 1 (.func (.func 84) #[] _) rfl ?_)
               (refine (htk1 _).mono ?_)
               (rintro e w2 ⟨hk2, rfl, hp2⟩)
               (clear htk1)
               (have hR2 : Has w2 w.heap.size 24 #[.string ⟨#[]⟩, .string ⟨#[]⟩, .int .i64 0, .int .i64 0, .slice none 0 0] := (Has.new w _ _).kp hk2 (by omega))
               (have hlR2 := hR2.lt)
               (simp only [tkv, bsExport]))
            | ((go_at_call 66)
               (refine at_argP 1 (.func (.func 38) #[] #[]) rfl ?_)
               (refine (htk2 _ ((hp2.new _).new _)).mono ?_)
               (rintro e w3 ⟨hk3, rfl, hp3⟩)
               (have hN3 : Has w3 (w2.heap.size + 1) 24 #[.string ⟨#[101, 120, 112, 111, 114, 116]⟩, .string ⟨#[]⟩, .int .i64 0, .int .i64 (a : Nat), .slice none 0 0] := (Has.kp (by (have := Has.new (w2.alloc (.cells #[.int .i64 (K : Nat), .string ⟨#[101, 120, 112, 111, 114, 116]⟩, .int .i64 (M : Nat), .int .i64 (a : Nat)] 58)) 24 #[.string ⟨#[101, 120, 112, 111, 114, 116]⟩, .string ⟨#[]⟩, .int .i64 0, .int .i64 (a : Nat), .slice none 0 0]; simpa using this)) hk3 (by omega)))
               (have n0 := hN3.cell 0)
               (have m0 := hN3.free 0)
               (have n1 := hN3.cell 1)
               (have m1 := hN3.free 1)
               (have n2 := hN3.cell 2)
               (have m2 := hN3.free 2)
               (have n3 := hN3.cell 3)
               (have m3 := hN3.free 3)
               (have n4 := hN3.cell 4)
               (have m4 := hN3.free 4)
               (have hlN := hN3.lt)
               (have hR3 := ((hR2.alloc _).alloc _).kp hk3 (by omega))
               (have hK3 : Kp pb w w3 := (kp_new (b_one _ _) hk2).trans (kp_new (b_two _ _ _) hk3))
               (have hpN : pb < w2.heap.size + 1 := by omega)
               (have hwN : w.heap.size ≤ w2.heap.size + 1 := by omega)
               (have hneR : w.heap.size ≠ w2.heap.size + 1 := by omega)
               (simp only [tkv]))
            | ((refine at_dstL 18 rfl ?_)
               (refine wpList_is (some 18) (.string (bs u.1.s)) rfl rfl (by kernel_rfl) ?_))
            | (go_at_call 67; refine at_argP 0 (.slice _ 1 1) rfl ?_; refine (isWord_c _ _ _ _).mono ?_; rintro e w1 ⟨rfl, rfl⟩)
            | ((go_at_call 71)
               (refine (hcm _ _ (hp3.set (q := ⟨w2.heap.size + 1, 1, none⟩) hpN _) (by simp)).mono ?_)
               (rintro e w4 ⟨rfl, hb4⟩)
               (have hB4 := Kp.of (p := pb) hb4)
               (have hN4 := ((((hN3.putP 1 _).alloc _).alloc _).kp hB4 (by omega)))
               (have hR4 := ((((hR3.other (p := ⟨w2.heap.size + 1, 1, none⟩) hneR _).alloc _).alloc _).kp hB4 (by omega)))
               (have hK4 := (((hK3.setNew (q := ⟨w2.heap.size + 1, 1, none⟩) hwN _).alloc _).alloc _).trans hB4)
               (have hp4 := (((hp3.set (q := ⟨w2.heap.size + 1, 1, none⟩) hpN _).new _).new _).below hb4)
               (have y0 := hN4.cell 0)
               (have z0 := hN4.free 0)
               (have y1 := hN4.cell 1)
               (have z1 := hN4.free 1)
               (have y2 := hN4.cell 2)
               (have z2 := hN4.free 2)
               (have y3 := hN4.cell 3)
               (have z3 := hN4.free 3)
               (have y4 := hN4.cell 4)
               (have z4 := hN4.free 4)
               (have hlN4 := hN4.lt)
               (have hlR4 := hR4.lt))
            | (go_at_call 69; refine at_argP 0 (.string ⟨#[59]⟩) rfl ?_; refine (hs59 _).mono ?_; rintro e w1 ⟨rfl, rfl⟩)
            | (go_at_call 66; refine at_argP 1 (.func (.func 87) #[] _) rfl ?_; refine (htk9 _ _ (hp4) (by simp)).mono ?_; rintro e w9 ⟨hk9, rfl⟩))
        exact ⟨rfl, (hK4).trans hk9, by rw [HR.out]⟩
      | ok yr =>
        obtain ⟨y9, r9⟩ := yr
        have htk9 := fun W q h e => htk9 (r := r2) W q h e
        rw [hT9] at htk9
        have HR : Hid _ := after_ok (t := (⟨K, wExport, M⟩, a)) (u := u) (by rw [hrest]; exact pexp_no hC) hT9
        clear hT9 hC hrest hro
        go_enter Tryz.func53, Tryz.ntmps53
        go_wp2_with (first
            | (go_at_call 67; refine at_argP 0 (.slice _ 6 6) rfl ?_; refine (isWord_c _ _ _ _).mono ?_; rintro e w1 ⟨rfl, rfl⟩)
            | ((go_at_call 66)
               (refine at_argP 1 (.func (.func 84) #[] _) rfl ?_)
               (refine (htk1 _).mono ?_)
               (rintro e w2 ⟨hk2, rfl, hp2⟩)
               (clear htk1)
               (have hR2 : Has w2 w.heap.size 24 #[.string ⟨#[]⟩, .string ⟨#[]⟩, .int .i64 0, .int .i64 0, .slice none 0 0] := (Has.new w _ _).kp hk2 (by omega))
               (have hlR2 := hR2.lt)
               (simp only [tkv, bsExport]))
            | ((go_at_call 66)
               (refine at_argP 1 (.func (.func 38) #[] #[]) rfl ?_)
               (refine (htk2 _ ((hp2.new _).new _)).mono ?_)
               (rintro e w3 ⟨hk3, rfl, hp3⟩)
               (have hN3 : Has w3 (w2.heap.size + 1) 24 #[.string ⟨#[101, 120, 112, 111, 114, 116]⟩, .string ⟨#[]⟩, .int .i64 0, .int .i64 (a : Nat), .slice none 0 0] := (Has.kp (by (have := Has.new (w2.alloc (.cells #[.int .i64 (K : Nat), .string ⟨#[101, 120, 112, 111, 114, 116]⟩, .int .i64 (M : Nat), .int .i64 (a : Nat)] 58)) 24 #[.string ⟨#[101, 120, 112, 111, 114, 116]⟩, .string ⟨#[]⟩, .int .i64 0, .int .i64 (a : Nat), .slice none 0 0]; simpa using this)) hk3 (by omega)))
               (have n0 := hN3.cell 0)
               (have m0 := hN3.free 0)
               (have n1 := hN3.cell 1)
               (have m1 := hN3.free 1)
               (have n2 := hN3.cell 2)
               (have m2 := hN3.free 2)
               (have n3 := hN3.cell 3)
               (have m3 := hN3.free 3)
               (have n4 := hN3.cell 4)
               (have m4 := hN3.free 4)
               (have hlN := hN3.lt)
               (have hR3 := ((hR2.alloc _).alloc _).kp hk3 (by omega))
               (have hK3 : Kp pb w w3 := (kp_new (b_one _ _) hk2).trans (kp_new (b_two _ _ _) hk3))
               (have hpN : pb < w2.heap.size + 1 := by omega)
               (have hwN : w.heap.size ≤ w2.heap.size + 1 := by omega)
               (have hneR : w.heap.size ≠ w2.heap.size + 1 := by omega)
               (simp only [tkv]))
            | ((refine at_dstL 18 rfl ?_)
               (refine wpList_is (some 18) (.string (bs u.1.s)) rfl rfl (by kernel_rfl) ?_))
            | (go_at_call 67; refine at_argP 0 (.slice _ 1 1) rfl ?_; refine (isWord_c _ _ _ _).mono ?_; rintro e w1 ⟨rfl, rfl⟩)
            | ((go_at_call 71)
               (refine (hcm _ _ (hp3.set (q := ⟨w2.heap.size + 1, 1, none⟩) hpN _) (by simp)).mono ?_)
               (rintro e w4 ⟨rfl, hb4⟩)
               (have hB4 := Kp.of (p := pb) hb4)
               (have hN4 := ((((hN3.putP 1 _).alloc _).alloc _).kp hB4 (by omega)))
               (have hR4 := ((((hR3.other (p := ⟨w2.heap.size + 1, 1, none⟩) hneR _).alloc _).alloc _).kp hB4 (by omega)))
               (have hK4 := (((hK3.setNew (q := ⟨w2.heap.size + 1, 1, none⟩) hwN _).alloc _).alloc _).trans hB4)
               (have hp4 := (((hp3.set (q := ⟨w2.heap.size + 1, 1, none⟩) hpN _).new _).new _).below hb4)
               (have y0 := hN4.cell 0)
               (have z0 := hN4.free 0)
               (have y1 := hN4.cell 1)
               (have z1 := hN4.free 1)
               (have y2 := hN4.cell 2)
               (have z2 := hN4.free 2)
               (have y3 := hN4.cell 3)
               (have z3 := hN4.free 3)
               (have y4 := hN4.cell 4)
               (have z4 := hN4.free 4)
               (have hlN4 := hN4.lt)
               (have hlR4 := hR4.lt))
            | (go_at_call 69; refine at_argP 0 (.string ⟨#[59]⟩) rfl ?_; refine (hs59 _).mono ?_; rintro e w1 ⟨rfl, rfl⟩)
            | ((go_at_call 66)
               (refine at_argP 1 (.func (.func 87) #[] _) rfl ?_)
               (refine (htk9 _ _ (hp4) (by simp)).mono ?_)
               (rintro e w9 ⟨hk9, rfl, hp9⟩)
               (have hN9 := (hN4).kp hk9 (by omega))
               (have hR9 := (hR4).kp hk9 (by omega))
               (have hK9 : Kp pb w w9 := (hK4).trans hk9)
               (have x0 := hN9.cell 0)
               (have r0 := hR9.cell 0)
               (have f0 := hR9.free 0)
               (have x1 := hN9.cell 1)
               (have r1 := hR9.cell 1)
               (have f1 := hR9.free 1)
               (have x2 := hN9.cell 2)
               (have r2 := hR9.cell 2)
               (have f2 := hR9.free 2)
               (have x3 := hN9.cell 3)
               (have r3 := hR9.cell 3)
               (have f3 := hR9.free 3)
               (have x4 := hN9.cell 4)
               (have r4 := hR9.cell 4)
               (have f4 := hR9.free 4)
               (have hlN9 := hN9.lt)
               (have hlR9 := hR9.lt)))
        refine ret_node rfl rfl (hR9.set5 _ _ _ _ _) rfl ⟨hK9.set5 (Nat.le_refl _) _ _ _ _ _, ?_⟩
        rw [HR.out]
        exact ⟨none, 0, rfl, NdR.nil _ _, hp9.set5 hlt _ _ _ _ _⟩
    | true =>
      rw [hC] at hcm
      obtain ⟨x, r3, hT3⟩ := comes_take (en := en) hC
      have htk3 := fun W v h ha => take_c (w := W) (pb := pb) (en := en) (ts := r2) h (v := v) (p := isWd [wReadonly]) ha
      rw [hT3] at htk3
      cases hT9 : ptake (isSg [59]) en r3 with
      | error er =>
        obtain ⟨c9, q9⟩ := er
        have htk9 := fun W q h e => htk9 (r := r3) W q h e
        rw [hT9] at htk9
        have HR : Hid _ := after_two (t := (⟨K, wExport, M⟩, a)) (u := u) (by rw [hrest]; exact pexp_ok hC hT3) hT9
        clear hT9 hC hT3 hrest
        go_enter Tryz.func53, Tryz.ntmps53
        go_wp2_with (first
            | (go_at_call 67; refine at_argP 0 (.slice _ 6 6) rfl ?_; refine (isWord_c _ _ _ _).mono ?_; rintro e w1 ⟨rfl, rfl⟩)
            | ((go_at_call 66)
               (refine at_argP 1 (.func (.func 84) #[] _) rfl ?_)
               (refine (htk1 _).mono ?_)
               (rintro e w2 ⟨hk2, rfl, hp2⟩)
               (clear htk1)
               (have hR2 : Has w2 w.heap.size 24 #[.string ⟨#[]⟩, .string ⟨#[]⟩, .int .i64 0, .int .i64 0, .slice none 0 0] := (Has.new w _ _).kp hk2 (by omega))
               (have hlR2 := hR2.lt)
               (simp only [tkv, bsExport]))
            | ((go_at_call 66)
               (refine at_argP 1 (.func (.func 38) #[] #[]) rfl ?_)
               (refine (htk2 _ ((hp2.new _).new _)).mono ?_)
               (rintro e w3 ⟨hk3, rfl, hp3⟩)
               (have hN3 : Has w3 (w2.heap.size + 1) 24 #[.string ⟨#[101, 120, 112, 111, 114, 116]⟩, .string ⟨#[]⟩, .int .i64 0, .int .i64 (a : Nat), .slice none 0 0] := (Has.kp (by (have := Has.new (w2.alloc (.cells #[.int .i64 (K : Nat), .string ⟨#[101, 120, 112, 111, 114, 116]⟩, .int .i64 (M : Nat), .int .i64 (a : Nat)] 58)) 24 #[.string ⟨#[101, 120, 112, 111, 114, 116]⟩, .string ⟨#[]⟩, .int .i64 0, .int .i64 (a : Nat), .slice none 0 0]; simpa using this)) hk3 (by omega)))
               (have n0 := hN3.cell 0)
               (have m0 := hN3.free 0)
               (have n1 := hN3.cell 1)
               (have m1 := hN3.free 1)
               (have n2 := hN3.cell 2)
               (have m2 := hN3.free 2)
               (have n3 := hN3.cell 3)
               (have m3 := hN3.free 3)
               (have n4 := hN3.cell 4)
               (have m4 := hN3.free 4)
               (have hlN := hN3.lt)
               (have hR3 := ((hR2.alloc _).alloc _).kp hk3 (by omega))
               (have hK3 : Kp pb w w3 := (kp_new (b_one _ _) hk2).trans (kp_new (b_two _ _ _) hk3))
               (have hpN : pb < w2.heap.size + 1 := by omega)
               (have hwN : w.heap.size ≤ w2.heap.size + 1 := by omega)
               (have hneR : w.heap.size ≠ w2.heap.size + 1 := by omega)
               (simp only [tkv]))
            | ((refine at_dstL 18 rfl ?_)
               (refine wpList_is (some 18) (.string (bs u.1.s)) rfl rfl (by kernel_rfl) ?_))
            | (go_at_call 67; refine at_argP 0 (.slice _ 1 1) rfl ?_; refine (isWord_c _ _ _ _).mono ?_; rintro e w1 ⟨rfl, rfl⟩)
            | ((go_at_call 71)
               (refine (hcm _ _ (hp3.set (q := ⟨w2.heap.size + 1, 1, none⟩) hpN _) (by simp)).mono ?_)
               (rintro e w4 ⟨rfl, hb4⟩)
               (have hB4 := Kp.of (p := pb) hb4)
               (have hN4 := ((((hN3.putP 1 _).alloc _).alloc _).kp hB4 (by omega)))
               (have hR4 := ((((hR3.other (p := ⟨w2.heap.size + 1, 1, none⟩) hneR _).alloc _).alloc _).kp hB4 (by omega)))
               (have hK4 := (((hK3.setNew (q := ⟨w2.heap.size + 1, 1, none⟩) hwN _).alloc _).alloc _).trans hB4)
               (have hp4 := (((hp3.set (q := ⟨w2.heap.size + 1, 1, none⟩) hpN _).new _).new _).below hb4)
               (have y0 := hN4.cell 0)
               (have z0 := hN4.free 0)
               (have y1 := hN4.cell 1)
               (have z1 := hN4.free 1)
               (have y2 := hN4.cell 2)
               (have z2 := hN4.free 2)
               (have y3 := hN4.cell 3)
               (have z3 := hN4.free 3)
               (have y4 := hN4.cell 4)
               (have z4 := hN4.free 4)
               (have hlN4 := hN4.lt)
               (have hlR4 := hR4.lt))
            | ((go_at_call 66)
               (refine at_argP 1 (.func (.func 84) #[] _) rfl ?_)
               (refine (htk3 _ _ hp4 ((hro _ _ (hp3.set (q := ⟨w2.heap.size + 1, 1, none⟩) hpN _) (by simp)).kp hB4)).mono ?_)
               (rintro e w5 ⟨hk5, rfl, hp5⟩)
               (clear htk3)
               (have hN5 := hN4.kp hk5 (by omega))
               (have hR5 := hR4.kp hk5 (by omega))
               (have hK5 := hK4.trans hk5)
               (have v0 := hN5.cell 0)
               (have u0 := hN5.free 0)
               (have v1 := hN5.cell 1)
               (have u1 := hN5.free 1)
               (have v2 := hN5.cell 2)
               (have u2 := hN5.free 2)
               (have v3 := hN5.cell 3)
               (have u3 := hN5.free 3)
               (have v4 := hN5.cell 4)
               (have u4 := hN5.free 4)
               (have hlN5 := hN5.lt)
               (have hlR5 := hR5.lt))
            | (go_at_call 69; refine at_argP 0 (.string ⟨#[59]⟩) rfl ?_; refine (hs59 _).mono ?_; rintro e w1 ⟨rfl, rfl⟩)
            | (go_at_call 66; refine at_argP 1 (.func (.func 87) #[] _) rfl ?_; refine (htk9 _ _ (hp5.set (q := ⟨w2.heap.size + 1, 2, none⟩) hpN _) (by simp)).mono ?_; rintro e w9 ⟨hk9, rfl⟩))
        exact ⟨rfl, (hK5.setNew (q := ⟨w2.heap.size + 1, 2, none⟩) hwN _).trans hk9, by rw [HR.out]⟩
      | ok yr =>
        obtain ⟨y9, r9⟩ := yr
        have htk9 := fun W q h e => htk9 (r := r3) W q h e
        rw [hT9] at htk9
        have HR : Hid _ := after_ok (t := (⟨K, wExport, M⟩, a)) (u := u) (by rw [hrest]; exact pexp_ok hC hT3) hT9
        clear hT9 hC hT3 hrest
        go_enter Tryz.func53, Tryz.ntmps53
        go_wp2_with (first
            | (go_at_call 67; refine at_argP 0 (.slice _ 6 6) rfl ?_; refine (isWord_c _ _ _ _).mono ?_; rintro e w1 ⟨rfl, rfl⟩)
            | ((go_at_call 66)
               (refine at_argP 1 (.func (.func 84) #[] _) rfl ?_)
               (refine (htk1 _).mono ?_)
               (rintro e w2 ⟨hk2, rfl, hp2⟩)
               (clear htk1)
               (have hR2 : Has w2 w.heap.size 24 #[.string ⟨#[]⟩, .string ⟨#[]⟩, .int .i64 0, .int .i64 0, .slice none 0 0] := (Has.new w _ _).kp hk2 (by omega))
               (have hlR2 := hR2.lt)
               (simp only [tkv, bsExport]))
            | ((go_at_call 66)
               (refine at_argP 1 (.func (.func 38) #[] #[]) rfl ?_)
               (refine (htk2 _ ((hp2.new _).new _)).mono ?_)
               (rintro e w3 ⟨hk3, rfl, hp3⟩)
               (have hN3 : Has w3 (w2.heap.size + 1) 24 #[.string ⟨#[101, 120, 112, 111, 114, 116]⟩, .string ⟨#[]⟩, .int .i64 0, .int .i64 (a : Nat), .slice none 0 0] := (Has.kp (by (have := Has.new (w2.alloc (.cells #[.int .i64 (K : Nat), .string ⟨#[101, 120, 112, 111, 114, 116]⟩, .int .i64 (M : Nat), .int .i64 (a : Nat)] 58)) 24 #[.string ⟨#[101, 120, 112, 111, 114, 116]⟩, .string ⟨#[]⟩, .int .i64 0, .int .i64 (a : Nat), .slice none 0 0]; simpa using this)) hk3 (by omega)))
               (have n0 := hN3.cell 0)
               (have m0 := hN3.free 0)
               (have n1 := hN3.cell 1)
               (have m1 := hN3.free 1)
               (have n2 := hN3.cell 2)
               (have m2 := hN3.free 2)
               (have n3 := hN3.cell 3)
               (have m3 := hN3.free 3)
               (have n4 := hN3.cell 4)
               (have m4 := hN3.free 4)
               (have hlN := hN3.lt)
               (have hR3 := ((hR2.alloc _).alloc _).kp hk3 (by omega))
               (have hK3 : Kp pb w w3 := (kp_new (b_one _ _) hk2).trans (kp_new (b_two _ _ _) hk3))
               (have hpN : pb < w2.heap.size + 1 := by omega)
               (have hwN : w.heap.size ≤ w2.heap.size + 1 := by omega)
               (have hneR : w.heap.size ≠ w2.heap.size + 1 := by omega)
               (simp only [tkv]))
            | ((refine at_dstL 18 rfl ?_)
               (refine wpList_is (some 18) (.string (bs u.1.s)) rfl rfl (by kernel_rfl) ?_))
            | (go_at_call 67; refine at_argP 0 (.slice _ 1 1) rfl ?_; refine (isWord_c _ _ _ _).mono ?_; rintro e w1 ⟨rfl, rfl⟩)
            | ((go_at_call 71)
               (refine (hcm _ _ (hp3.set (q := ⟨w2.heap.size + 1, 1, none⟩) hpN _) (by simp)).mono ?_)
               (rintro e w4 ⟨rfl, hb4⟩)
               (have hB4 := Kp.of (p := pb) hb4)
               (have hN4 := ((((hN3.putP 1 _).alloc _).alloc _).kp hB4 (by omega)))
               (have hR4 := ((((hR3.other (p := ⟨w2.heap.size + 1, 1, none⟩) hneR _).alloc _).alloc _).kp hB4 (by omega)))
               (have hK4 := (((hK3.setNew (q := ⟨w2.heap.size + 1, 1, none⟩) hwN _).alloc _).alloc _).trans hB4)
               (have hp4 := (((hp3.set (q := ⟨w2.heap.size + 1, 1, none⟩) hpN _).new _).new _).below hb4)
               (have y0 := hN4.cell 0)
               (have z0 := hN4.free 0)
               (have y1 := hN4.cell 1)
               (have z1 := hN4.free 1)
               (have y2 := hN4.cell 2)
               (have z2 := hN4.free 2)
               (have y3 := hN4.cell 3)
               (have z3 := hN4.free 3)
               (have y4 := hN4.cell 4)
               (have z4 := hN4.free 4)
               (have hlN4 := hN4.lt)
               (have hlR4 := hR4.lt))
            | ((go_at_call 66)
               (refine at_argP 1 (.func (.func 84) #[] _) rfl ?_)
               (refine (htk3 _ _ hp4 ((hro _ _ (hp3.set (q := ⟨w2.heap.size + 1, 1, none⟩) hpN _) (by simp)).kp hB4)).mono ?_)
               (rintro e w5 ⟨hk5, rfl, hp5⟩)
               (clear htk3)
               (have hN5 := hN4.kp hk5 (by omega))
               (have hR5 := hR4.kp hk5 (by omega))
               (have hK5 := hK4.trans hk5)
               (have v0 := hN5.cell 0)
               (have u0 := hN5.free 0)
               (have v1 := hN5.cell 1)
               (have u1 := hN5.free 1)
               (have v2 := hN5.cell 2)
               (have u2 := hN5.free 2)
               (have v3 := hN5.cell 3)
               (have u3 := hN5.free 3)
               (have v4 := hN5.cell 4)
               (have u4 := hN5.free 4)
               (have hlN5 := hN5.lt)
               (have hlR5 := hR5.lt))
            | (go_at_call 69; refine at_argP 0 (.string ⟨#[59]⟩) rfl ?_; refine (hs59 _).mono ?_; rintro e w1 ⟨rfl, rfl⟩)
            | ((go_at_call 66)
               (refine at_argP 1 (.func (.func 87) #[] _) rfl ?_)
               (refine (htk9 _ _ (hp5.set (q := ⟨w2.heap.size + 1, 2, none⟩) hpN _) (by simp)).mono ?_)
               (rintro e w9 ⟨hk9, rfl, hp9⟩)
               (have hN9 := (hN5.putP 2 _).kp hk9 (by omega))
               (have hR9 := (hR5.other (p := ⟨w2.heap.size + 1, 2, none⟩) hneR _).kp hk9 (by omega))
               (have hK9 : Kp pb w w9 := (hK5.setNew (q := ⟨w2.heap.size + 1, 2, none⟩) hwN _).trans hk9)
               (have x0 := hN9.cell 0)
               (have r0 := hR9.cell 0)
               (have f0 := hR9.free 0)
               (have x1 := hN9.cell 1)
               (have r1 := hR9.cell 1)
               (have f1 := hR9.free 1)
               (have x2 := hN9.cell 2)
               (have r2 := hR9.cell 2)
               (have f2 := hR9.free 2)
               (have x3 := hN9.cell 3)
               (have r3 := hR9.cell 3)
               (have f3 := hR9.free 3)
               (have x4 := hN9.cell 4)
               (have r4 := hR9.cell 4)
               (have f4 := hR9.free 4)
               (have hlN9 := hN9.lt)
               (have hlR9 := hR9.lt)))
        refine ret_node rfl rfl (hR9.set5 _ _ _ _ _) rfl ⟨hK9.set5 (Nat.le_refl _) _ _ _ _ _, ?_⟩
        rw [HR.out]
        exact ⟨none, 0, rfl, NdR.nil _ _, hp9.set5 hlt _ _ _ _ _⟩
end Go.Proofs.YtpckmllmjdafpaaGreatDoor

/- A statement; a file. -/
namespace Go.Proofs.YtpckmllmjdafpaaGreatDoor
open Go.ChangeShapes Go.WideShapes Go.ChangeAt Go.RowKit
set_option linter.unusedVariables false

set_option maxRecDepth 100000 in
set_option maxHeartbeats 4000000 in
theorem stmt_c (pb en : Nat) (w : World) (ts : Toks) (h : PAt w pb ts en) :
    Calls Tryz.prog 53 #[.pointer (some ⟨pb, 0, none⟩)] w (PRes w pb en (pstmt en ts)) := by
  cases hT1 : ptake (isWd stmts) en ts with
  | ok x =>
    obtain ⟨⟨⟨K, S, M⟩, a⟩, r1⟩ := x
    rcases stmts_cases (ptake_is hT1) with e | e | e | e | e | e
    all_goals
      simp only at e
      subst e
    · exact stmtDevice_c pb en w ts r1 K M a h hT1
    · exact stmtJournal_c pb en w ts r1 K M a h hT1
    · exact stmtKey_c pb en w ts r1 K M a h hT1
    · exact stmtRoot_c pb en w ts r1 K M a h hT1
    · exact stmtVolume_c pb en w ts r1 K M a h hT1
    · exact stmtExport_c pb en w ts r1 K M a h hT1
  | error er =>
    obtain ⟨c, q⟩ := er
    have hlt := h.lt
    have htk1 := fun o => first_take w o h
    rw [hT1] at htk1
    rw [stmt_one hT1]
    clear hT1 h
    go_enter Tryz.func53, Tryz.ntmps53
    go_wp2_with (first
      | (go_at_call 67; refine at_argP 0 (.slice _ 6 6) rfl ?_; refine (isWord_c _ _ _ _).mono ?_; rintro e w1 ⟨rfl, rfl⟩)
      | (go_at_call 66; refine (htk1 _).mono ?_; rintro e w2 ⟨hk2, rfl⟩))
    exact ⟨rfl, kp_new (b_one _ _) hk2, rfl⟩

theorem file_end (f en : Nat) : pfile (f + 1) en [] = .ok ([], []) := rfl

theorem file_step (f en : Nat) (t : Tk × Nat) (r : Toks) : pfile (f + 1) en (t :: r) = match pstmt en (t :: r) with | .error e => .error e | .ok (n, r') => pre [n] (pfile f en r') := by
  show pbind pstmt _ en (t :: r) = _
  unfold pbind
  cases pstmt en (t :: r) with
  | error e => rfl
  | ok x =>
    obtain ⟨n, r'⟩ := x
    simp only
    cases pfile f en r' with
    | error e => rfl
    | ok y => obtain ⟨m, r''⟩ := y; rfl

theorem stmt_shorter {en : Nat} {ts r : Toks} {n : Nd} (h : pstmt en ts = .ok (n, r)) : r.length + 1 ≤ ts.length := by
  cases hT1 : ptake (isWd stmts) en ts with
  | error e => rw [stmt_one hT1] at h; cases h
  | ok x =>
    obtain ⟨t, r1⟩ := x
    have := ptake_shorter hT1
    cases hT2 : ptake isNm en r1 with
    | error e => rw [stmt_two hT1 hT2] at h; cases h
    | ok y =>
      obtain ⟨u, r2⟩ := y
      have h2 := ptake_shorter hT2
      rw [stmt_three hT1 hT2] at h
      have hs : Stable (pafter t u) := (rest_stable _).bind fun _ => (Stable.take _).bind fun _ => Stable.ret _
      have := shorter hs h
      omega

def FRes (w : World) (pb : Nat) (R : PR (List Nd)) (e : Ending) (w' : World) : Prop := Kp pb w w' ∧ match R with
  | .error (c, k) => e = .panicked (flt c k)
  | .ok (l, r) => ∃ A C, e = .returned (.agg (ndc (.mk wFile [] 0 0 l) (.slice A l.length C))) ∧ NdR w' (fun g => w.heap.size ≤ g) l (.slice A l.length C)

/-- Where file stands. -/
structure FAt (w wr : World) (pb en : Nat) (ts0 : Toks) (l : List Nd) (A : Option Addr) (C : Nat) (ts : Toks) (f : Nat) : Prop where
  n3 : Has wr (w.heap.size + 1) 24 #[.string ⟨#[102, 105, 108, 101]⟩, .string ⟨#[]⟩, .int .i64 0, .int .i64 0, .slice A l.length C]
  res : Has wr w.heap.size 24 #[.string ⟨#[]⟩, .string ⟨#[]⟩, .int .i64 0, .int .i64 0, .slice none 0 0]
  row : NRow wr (w.heap.size + 2) l (.slice A l.length C)
  at_ : PAt wr pb ts en
  kp : Kp pb w wr
  size : w.heap.size + 2 ≤ wr.heap.size
  fuel : ts.length < f
  len : l.length + ts.length ≤ 500
  eq : pfile 501 en ts0 = pre l (pfile f en ts)

theorem run_nodeField {o : Oper} {a : Act} (x : Operand) (ho : o.op = .fieldAddr 24 x 4) (g : Nat) (hx : a.eval x = .pointer (some ⟨g, 0, none⟩)) (w : World) : (execOp a.eval o).run Tryz.prog w = .ok (.value (.pointer (some ⟨g, 4, none⟩))) w := by
  unfold execOp
  simp only [ho, hx]
  go_simp

theorem run_load_nodes {o : Oper} {a : Act} (x : Operand) (ho : o.op = .load 22 x) (p : Addr) (hx : a.eval x = .pointer (some p)) (v : Value) (w : World) (h : w.cell? p = some v) : (execOp a.eval o).run Tryz.prog w = .ok (.value v) w := by
  unfold execOp
  simp only [ho, hx]
  go_simp

theorem run_store_nodes {o : Oper} {a : Act} (x y : Operand) (ho : o.op = .store 22 x y) (p : Addr) (hx : a.eval x = .pointer (some p)) (A : Option Addr) (n c : Nat) (hy : a.eval y = .slice A n c) (w : World) (u : Value) (h : w.cell? p = some u) (hf : w.frozen? p = false) : (execOp a.eval o).run Tryz.prog w = .ok .skip (w.setCell p (.slice A n c)) := by
  unfold execOp
  simp only [ho, hx, hy]
  go_simp

theorem run_append_of {o : Oper} {a : Act} (s x : Operand) (ho : o.op = .call { callee := .builtin .append, args := #[s, x], argTypes := #[22, 22] }) (v u : Value) (hs : a.eval s = v) (hx : a.eval x = u) (w : World) {v' : Value} {w' : World} (ty : TypeId) (hty : o.type = ty) (hr : (Builtin.append_ #[22, 22] ty #[v, u]).run Tryz.prog w = .ok v' w') : (execOp a.eval o).run Tryz.prog w = .ok (.value v') w' := by
  subst hty
  unfold execOp
  simp only [ho, resolve, invoke, builtin, Sem.run_bind, Sem.run_pure, Result.andThen_ok, List.map_toArray, List.map_cons, List.map_nil, hs, hx, hr]

set_option maxRecDepth 100000 in
set_option maxHeartbeats 4000000 in
theorem file_c (pb en : Nat) (w : World) (ts : Toks) (h : PAt w pb ts en) : Calls Tryz.prog 33 #[.pointer (some ⟨pb, 0, none⟩)] w (FRes w pb (pfile 501 en ts)) := by
  have hlt := h.lt
  have h500 := h.len
  have hst := fun W ts (h : PAt W pb ts en) => stmt_c pb en W ts h
  go_enter Tryz.func33, Tryz.ntmps33
  go_wp2
  obtain ⟨W, hW⟩ : ∃ W, W = (w.alloc (.cells #[.string ⟨#[]⟩, .string ⟨#[]⟩, .int .i64 0, .int .i64 0, .slice none 0 0] 24)).alloc (.cells #[.string ⟨#[102, 105, 108, 101]⟩, .string ⟨#[]⟩, .int .i64 0, .int .i64 0, .slice none 0 0] 24) := ⟨_, rfl⟩
  rw [← hW]
  have hF0 : FAt w W pb en ts [] none 0 ts 501 := by
    subst hW
    refine ⟨?_, (Has.new _ _ _).alloc _, NRow.nil _ _, (h.new _).new _, Kp.of (b_two _ _ _), by simp, by omega, by simp; omega, (pre_nil _).symm⟩
    have := Has.new (w.alloc (.cells #[.string ⟨#[]⟩, .string ⟨#[]⟩, .int .i64 0, .int .i64 0, .slice none 0 0] 24)) 24 #[.string ⟨#[102, 105, 108, 101]⟩, .string ⟨#[]⟩, .int .i64 0, .int .i64 0, .slice none 0 0]
    simpa using this
  clear hW h
  go_loopw [5] (fun _ wz => ∃ (l : List Nd) (A : Option Addr) (C : Nat) (ts' : Toks) (f : Nat), FAt w wz pb en ts l A C ts' f) (fun _ wz => pleft pb wz)
  case atStart => exact ⟨[], none, 0, ts, 501, hF0⟩
  case round =>
    clear hF0
    obtain ⟨l, A, C, ts', f, hn3, hres, hrow, hat, hkp, hsz, hfuel, hlen, heq⟩ := hrel
    obtain ⟨f, rfl⟩ : ∃ f', f = f' + 1 := ⟨f - 1, by omega⟩
    obtain ⟨AP, CP, hHP, hP1, hP2, hP3, -⟩ := id hat
    have c0 := hHP.cell 0
    have hstt := hst
    cases ts' with
    | nil =>
      rw [file_end] at heq
      have heq : pfile 501 en ts = .ok (l, []) := by rw [heq]; simp [pre]
      have HR : Hid _ := heq
      have x0 := hn3.cell 0
      have x1 := hn3.cell 1
      have x2 := hn3.cell 2
      have x3 := hn3.cell 3
      have x4 := hn3.cell 4
      have r0 := hres.cell 0
      have r1 := hres.cell 1
      have r2 := hres.cell 2
      have r3 := hres.cell 3
      have r4 := hres.cell 4
      have f0 := hres.free 0
      have f1 := hres.free 1
      have f2 := hres.free 2
      have f3 := hres.free 3
      have f4 := hres.free 4
      clear heq hst hstt
      go_wp2
      refine ret_node rfl rfl (hres.set5 _ _ _ _ _) rfl ⟨hkp.set5 (Nat.le_refl _) _ _ _ _ _, ?_⟩
      rw [HR.out]
      exact ⟨A, C, rfl, (hrow.done.set5 (fun k hk => by omega) _ _ _ _ _).mono (fun g hg => by omega)⟩
    | cons t r =>
      rw [file_step] at heq
      have hsc := hst wr (t :: r) hat
      have hleft := hat.left
      have hLL : 0 < (t :: r).length := by simp
      have hn3d : Has wr.drew (w.heap.size + 1) 24 #[.string ⟨#[102, 105, 108, 101]⟩, .string ⟨#[]⟩, .int .i64 0, .int .i64 0, .slice A l.length C] := hn3
      have hsd := hst wr.drew (t :: r) hat
      have hkd : Kp pb w wr.drew := ⟨hkp.os, hkp.tape, hkp.output, hkp.size, hkp.block⟩
      have hrd : NRow wr.drew (w.heap.size + 2) l (.slice A l.length C) := hrow.kp (p := pb) ⟨rfl, rfl, rfl, Nat.le_refl _, fun _ _ _ => rfl⟩ (by omega)
      have hresd : Has wr.drew w.heap.size 24 #[.string ⟨#[]⟩, .string ⟨#[]⟩, .int .i64 0, .int .i64 0, .slice none 0 0] := hres
      have hszd : w.heap.size + 2 ≤ wr.drew.heap.size := hsz
      have hsh := fun n r' => stmt_shorter (en := en) (ts := t :: r) (r := r') (n := n)
      generalize hL : (t :: r).length = LL at hHP hP1 hP2 hP3 hLL hfuel hlen hleft hsh c0
      generalize pstmt en (t :: r) = R at hsd heq hsh
      clear hsc hstt hst hL
      go_wp2
      refine lastTo (S := fun W => Has W (w.heap.size + 1) 24 #[.string ⟨#[102, 105, 108, 101]⟩, .string ⟨#[]⟩, .int .i64 0, .int .i64 0, .slice A l.length C]) 7 (by kernel_rfl) hn3d (fun hHeld => ?_)
      refine takeL 0 (some 11) (.pointer (some ⟨w.heap.size + 1, 4, none⟩)) rfl rfl (by decide) (by kernel_rfl) (by kernel_rfl) (by kernel_rfl) (by kernel_rfl) (fun _ _ _ h => h) (by rfl) (fun _ _ => run_nodeField _ rfl _ rfl _) hHeld ?_
      simp only [Act.put, List.setIfInBounds_toArray, List.set_cons_zero, List.set_cons_succ]
      refine takeL 1 (some 12) (.slice A l.length C) rfl rfl (by decide) (by kernel_rfl) (by kernel_rfl) (by kernel_rfl) (by kernel_rfl) (fun _ _ _ h => h) (by rfl) (fun wz hz => run_load_nodes _ rfl _ rfl _ _ (hz.cell 4)) hHeld ?_
      simp only [Act.put, List.setIfInBounds_toArray, List.set_cons_zero, List.set_cons_succ]
      refine takeL 2 (some 13) (.pointer (some ⟨pb, 0, none⟩)) rfl rfl (by decide) (by kernel_rfl) (by kernel_rfl) (by kernel_rfl) (by kernel_rfl) (fun _ _ _ h => h) (by rfl) (fun _ _ => rfl) hHeld ?_
      simp only [Act.put, List.setIfInBounds_toArray, List.set_cons_zero, List.set_cons_succ]
      refine callLP 3 (some 14) 53 #[.pointer (some ⟨pb, 0, none⟩)] (by kernel_rfl) rfl rfl (by rfl) (by kernel_rfl) hsd ?_
      rintro e w4 ⟨hk4, hR4⟩
      cases R with
      | error er =>
        obtain ⟨c, q⟩ := er
        refine .inr ⟨_, hR4, ⟨rfl, hkd.trans hk4, ?_⟩⟩
        rw [heq]
        rfl
      | ok x =>
        obtain ⟨n, r'⟩ := x
        obtain ⟨A4, C4, rfl, hn4, hp4⟩ := hR4
        have hz4 := hk4.size
        have hsh := hsh n r' rfl
        simp only at heq
        rw [pre_pre] at heq
        have h34 : Has w4 (w.heap.size + 1) 24 #[.string ⟨#[102, 105, 108, 101]⟩, .string ⟨#[]⟩, .int .i64 0, .int .i64 0, .slice A l.length C] := hn3d.kp hk4 (by omega)
        have hr4 : Has w4 w.heap.size 24 #[.string ⟨#[]⟩, .string ⟨#[]⟩, .int .i64 0, .int .i64 0, .slice none 0 0] := hresd.kp hk4 (by omega)
        refine .inl ⟨_, rfl, h34, ?_⟩
        simp only [Act.put, List.setIfInBounds_toArray, List.set_cons_zero, List.set_cons_succ]
        refine valL 4 (some 15) (.slice (some ⟨w4.heap.size, 0, none⟩) 1 1) (w4.alloc (.cells (ndc n (.slice A4 n.l.length C4)) 24)) (by kernel_rfl) rfl rfl (by rfl) (by kernel_rfl) (h34.alloc _) ?_
        simp only [Act.put, List.setIfInBounds_toArray, List.set_cons_zero, List.set_cons_succ]
        obtain ⟨hrw, hnw, hbw⟩ := row_then hrd hk4 (by omega) hszd hn4 (.cells (ndc n (.slice A4 n.l.length C4)) 24)
        obtain ⟨v5, w5, hrun, hrow5, hb5, hg5⟩ := run_append_node (ty := 22) _ _ l _ hrw hbw (by omega) n A4 _ C4 hnw w4.heap.size (Has.new _ _ _)
        have h35 : Has w5 (w.heap.size + 1) 24 #[.string ⟨#[102, 105, 108, 101]⟩, .string ⟨#[]⟩, .int .i64 0, .int .i64 0, .slice A l.length C] := (h34.alloc _).below hb5 (by omega)
        have hr5 : Has w5 w.heap.size 24 #[.string ⟨#[]⟩, .string ⟨#[]⟩, .int .i64 0, .int .i64 0, .slice none 0 0] := (hr4.alloc _).below hb5 (by omega)
        obtain ⟨A5, C5, rfl⟩ := hrow5.slice
        refine valL 5 (some 16) (.slice A5 (l ++ [n]).length C5) w5 (by kernel_rfl) rfl rfl (by rfl) (run_append_of _ _ rfl (.slice A l.length C) (.slice (some ⟨w4.heap.size, 0, none⟩) 1 1) rfl rfl _ 22 (by rfl) hrun) h35 ?_
        simp only [Act.put, List.setIfInBounds_toArray, List.set_cons_zero, List.set_cons_succ]
        refine takeL 6 (some 17) (.pointer (some ⟨w.heap.size + 1, 4, none⟩)) rfl rfl (by decide) (by kernel_rfl) (by kernel_rfl) (by kernel_rfl) (by kernel_rfl) (fun _ _ _ h => h) (by rfl) (fun _ _ => run_nodeField _ rfl _ rfl _) h35 ?_
        simp only [Act.put, List.setIfInBounds_toArray, List.set_cons_zero, List.set_cons_succ]
        refine lastSkip 7 none (w5.setCell ⟨w.heap.size + 1, 4, none⟩ (.slice A5 (l ++ [n]).length C5)) (by kernel_rfl) rfl rfl (by rfl) (run_store_nodes _ _ rfl _ rfl _ _ _ rfl _ _ (h35.cell 4) (h35.free 4)) (by kernel_rfl) ?_
        have hz5 : (w4.alloc (.cells (ndc n (.slice A4 n.l.length C4)) 24)).heap.size ≤ w5.heap.size := hb5.size
        have hz5' : w4.heap.size + 1 ≤ w5.heap.size := by simpa using hz5
        have hFn : FAt w (w5.setCell ⟨w.heap.size + 1, 4, none⟩ (.slice A5 (l ++ [n]).length C5)) pb en ts (l ++ [n]) A5 C5 r' f := by
          refine ⟨h35.putP 4 _, hr5.other (by show w.heap.size ≠ w.heap.size + 1; omega) _, ?_, (((hp4.new _).low hb5 (by omega)).set (by show pb < w.heap.size + 1; omega) _), ?_, ?_, by omega, ?_, heq⟩
          · obtain ⟨vs, e1, e2, e3⟩ := hrow5
            exact ⟨vs, e1, row_grown e2 (fun g o e ho => (Below.heap_setCell w5 _ _ g (by have := (row_lt e2 e).2; show g ≠ w.heap.size + 1; omega)).trans ho), fun i h h' => (e3 i h h').keep (fun g o hg ho => (Below.heap_setCell w5 _ _ g (by have := hg.1; show g ≠ w.heap.size + 1; omega)).trans ho)⟩
          · exact (kp_below (hkd.trans hk4 |>.alloc _) (hb5.mono (by omega))).setNew (by show w.heap.size ≤ w.heap.size + 1; omega) _
          · simp; omega
          · simp only [List.length_append, List.length_cons, List.length_nil]; omega
        generalize w5.setCell ⟨w.heap.size + 1, 4, none⟩ (.slice A5 (l ++ [n]).length C5) = w6 at hFn ⊢
        go_roundw
        case rel => exact ⟨_, _, _, _, _, _, _, _, _, _, _, _, _, ⟨l ++ [n], A5, C5, r', f, hFn⟩, rfl⟩
        case measure =>
          rw [hFn.at_.left]
          omega
end Go.Proofs.YtpckmllmjdafpaaGreatDoor

/- parsed: what gives up is caught. Parse. -/
namespace Go.Proofs.YtpckmllmjdafpaaGreatDoor
open Go.ChangeShapes Go.WideShapes Go.ChangeAt Go.RowKit
set_option linter.unusedVariables false

theorem catch_idle (p q r : Addr) (w : World) :
    CallsD Tryz.prog 32 #[.pointer (some p), .pointer (some q), .pointer (some r)] .returning w fun e u' w' => e = .returned (.tuple #[]) ∧ u' = .returning ∧ w' = w := by
  refine callsD_of_wpS Tryz.func32 rfl fun c₀ cs hu => ?_
  apply wpS_seq
  apply wpS_region
  simp [wpOpsS, go_sem, recoverD, hu, Tryz.ntmps32, Exit.thenS]
  apply wpS_seq
  apply wpS_seq
  apply wpS_region
  simp [wpOpsS, go_sem, Exit.thenS]
  refine wpS_cond (t := true) (by simp [Act.eval, Array.replicate]) ?_
  simp only [if_true]
  refine wpS_of_wp (wp_ret ?_)
  cases c₀
  simp_all [bodyPostS, results, Tryz.results32, Exit.thenS]

theorem assert_flt (c k : Nat) (w : World) : (Instr.typeAssert (.iface 62 (.agg #[.int .i64 (c : Nat), .int .i64 (k : Nat)])) 20 62 true).run Tryz.prog w = .ok (.tuple #[.agg #[.int .i64 (c : Nat), .int .i64 (k : Nat)], .bool true]) w := by kernel_rfl

theorem has_drew {w : World} {g t : Nat} {cs : Array Value} (h : Has w g t cs) : Has w.drew g t cs := h

theorem below_drew {B : Nat} {a w : World} (h : Below B a w) : Below B a w.drew := ⟨h.os, h.tape, h.output, h.size, h.block⟩

theorem Has.oth5 {w : World} {g g' t : Nat} {cs : Array Value} (h : Has w g t cs) (hne : g ≠ g') (x0 x1 x2 x3 x4 : Value) : Has (put5 w g' x0 x1 x2 x3 x4) g t cs :=
  ((((h.other (p := ⟨g', 0, none⟩) hne x0).other (p := ⟨g', 1, none⟩) hne x1).other (p := ⟨g', 2, none⟩) hne x2).other (p := ⟨g', 3, none⟩) hne x3).other (p := ⟨g', 4, none⟩) hne x4

theorem b5 {w : World} {p : Nat} (x0 x1 x2 x3 x4 y z : Value) (o : Obj) (hp : p ≤ w.heap.size) : Below p w ((((put5 w p x0 x1 x2 x3 x4).setCell ⟨p + 1, 0, none⟩ y).setCell ⟨p + 2, 0, none⟩ z).alloc o).drew := by
  have h0 : Below p w (((put5 w p x0 x1 x2 x3 x4).setCell ⟨p + 1, 0, none⟩ y).setCell ⟨p + 2, 0, none⟩ z) := (((((((Below.refl p w).setCell (p := ⟨p, 0, none⟩) (Nat.le_refl p) x0).setCell (p := ⟨p, 1, none⟩) (Nat.le_refl p) x1).setCell (p := ⟨p, 2, none⟩) (Nat.le_refl p) x2).setCell (p := ⟨p, 3, none⟩) (Nat.le_refl p) x3).setCell (p := ⟨p, 4, none⟩) (Nat.le_refl p) x4).setCell (p := ⟨p + 1, 0, none⟩) (by show p ≤ p + 1; omega) y).setCell (p := ⟨p + 2, 0, none⟩) (by show p ≤ p + 2; omega) z
  exact below_drew (h0.alloc (by have := h0.size; omega) o)

theorem run_faultField {o : Oper} {a : Act} (x : Operand) (k : Nat) (ho : o.op = .fieldAddr 62 x k) (hk : k < 2) (g : Nat) (hx : a.eval x = .pointer (some ⟨g, 0, none⟩)) (w : World) : (execOp a.eval o).run Tryz.prog w = .ok (.value (.pointer (some ⟨g, k, none⟩))) w := by
  unfold execOp
  simp only [ho, hx]
  rcases k with _ | _ | k
  · go_simp
  · go_simp
  · omega

theorem run_load_fl {o : Oper} {a : Act} (ty : TypeId) (x : Operand) (ho : o.op = .load ty x) (hty : ty = 3 ∨ ty = 27) (p : Addr) (hx : a.eval x = .pointer (some p)) (v : Value) (w : World) (h : w.cell? p = some v) : (execOp a.eval o).run Tryz.prog w = .ok (.value v) w := by
  unfold execOp
  simp only [ho, hx]
  rcases hty with rfl | rfl
  · go_simp
  · go_simp

theorem run_store_fl {o : Oper} {a : Act} (ty : TypeId) (x y : Operand) (ho : o.op = .store ty x y) (hty : ty = 3 ∨ ty = 27) (p : Addr) (hx : a.eval x = .pointer (some p)) (n : Int) (hy : a.eval y = .int .i64 n) (w : World) (u : Value) (h : w.cell? p = some u) (hf : w.frozen? p = false) : (execOp a.eval o).run Tryz.prog w = .ok .skip (w.setCell p (.int .i64 n)) := by
  unfold execOp
  simp only [ho, hx, hy]
  rcases hty with rfl | rfl
  · go_simp
  · go_simp

set_option maxRecDepth 100000 in
set_option maxHeartbeats 1000000 in
theorem catch_panicking (c k p : Nat) (x0 x1 x2 x3 x4 y z : Value) (w : World) (hp : Has w p 24 #[x0, x1, x2, x3, x4]) (hq : Has w (p + 1) 27 #[y]) (hr : Has w (p + 2) 3 #[z]) :
    CallsD Tryz.prog 32 #[.pointer (some ⟨p, 0, none⟩), .pointer (some ⟨p + 1, 0, none⟩), .pointer (some ⟨p + 2, 0, none⟩)] (.panicking (flt c k)) w fun e u' w' =>
      e = .returned (.tuple #[]) ∧ u' = .panicking [{ v := .iface 62 (.agg #[.int .i64 (c : Nat), .int .i64 (k : Nat)]), recovered := true }] ∧
      Has w' p 24 #[.string ⟨#[]⟩, .string ⟨#[]⟩, .int .i64 0, .int .i64 0, .slice none 0 0] ∧ Has w' (p + 1) 27 #[.int .i64 (c : Nat)] ∧ Has w' (p + 2) 3 #[.int .i64 (k : Nat)] ∧ Below p w w' := by
  have hl := hr.lt
  refine callsD_of_wpS Tryz.func32 rfl fun c₀ cs hu => ?_
  have hu' : c₀.mode = .panicking [{ v := .iface 62 (.agg #[.int .i64 (c : Nat), .int .i64 (k : Nat)]), recovered := false }] := hu
  apply wpS_seq
  apply wpS_region
  simp [wpOpsS, go_sem, recoverD, hu', Tryz.ntmps32, Exit.thenS]
  apply wpS_seq
  apply wpS_seq
  apply wpS_region
  simp [wpOpsS, go_sem, Exit.thenS]
  refine wpS_cond (t := false) (by simp [Act.eval, Array.replicate]) ?_
  simp only [Bool.false_eq_true, if_false]
  refine wpS_of_wp (wp_skip ?_)
  simp only [Exit.thenS]
  apply wpS_seq
  apply wpS_region
  simp [wpOpsS, go_sem, Exit.thenS, assert_flt]
  apply wpS_seq
  apply wpS_seq
  apply wpS_region
  simp [wpOpsS, go_sem, Exit.thenS]
  refine wpS_cond (t := false) (by simp [Act.eval, Array.replicate]) ?_
  simp only [Bool.false_eq_true, if_false]
  refine wpS_of_wp (wp_skip ?_)
  simp only [Exit.thenS]
  have a0 := hp.cell 0
  have a1 := hp.cell 1
  have a2 := hp.cell 2
  have a3 := hp.cell 3
  have a4 := hp.cell 4
  have b0 := hp.free 0
  have b1 := hp.free 1
  have b2 := hp.free 2
  have b3 := hp.free 3
  have b4 := hp.free 4
  have c0 := hq.cell 0
  have c1 := hq.free 0
  have d0 := hr.cell 0
  have d1 := hr.free 0
  have l0 := hp.lt
  have l1 := hq.lt
  refine wpS_of_wp ?_
  go_region
  all_goals
    refine ⟨rfl, _, rfl, _, results_none rfl _ _ _, rfl, rfl, ?_⟩
    exact ⟨has_drew ((((hp.set5 _ _ _ _ _).other (p := ⟨p + 1, 0, none⟩) (by show p ≠ p + 1; omega) _).other (p := ⟨p + 2, 0, none⟩) (by show p ≠ p + 2; omega) _).alloc _),
      has_drew ((((hq.oth5 (g' := p) (by omega) _ _ _ _ _).putP 0 _).other (p := ⟨p + 2, 0, none⟩) (by show p + 1 ≠ p + 2; omega) _).alloc _),
      has_drew ((((hr.oth5 (g' := p) (by omega) _ _ _ _ _).other (p := ⟨p + 1, 0, none⟩) (by show p + 2 ≠ p + 1; omega) _).putP 0 _).alloc _),
      b5 _ _ _ _ _ _ _ _ (by omega)⟩
end Go.Proofs.YtpckmllmjdafpaaGreatDoor

/- Parse. -/
namespace Go.Proofs.YtpckmllmjdafpaaGreatDoor
open Go.ChangeShapes Go.WideShapes Go.ChangeAt Go.RowKit
set_option linter.unusedVariables false

/-- What parsed answers. -/
def DRes (w : World) (pb : Nat) (R : PR (List Nd)) (e : Ending) (w' : World) : Prop := Kp pb w w' ∧ match R with
  | .error (c, k) => e = .returned (.tuple #[.agg #[.string ⟨#[]⟩, .string ⟨#[]⟩, .int .i64 0, .int .i64 0, .slice none 0 0], .int .i64 (c : Nat), .int .i64 (k : Nat)])
  | .ok (l, r) => ∃ A C, e = .returned (.tuple #[.agg (ndc (.mk wFile [] 0 0 l) (.slice A l.length C)), .int .i64 0, .int .i64 (-1)]) ∧ NdR w' (fun g => w.heap.size ≤ g) l (.slice A l.length C)

def three (w : World) : World := ((w.alloc (.cells #[.string ⟨#[]⟩, .string ⟨#[]⟩, .int .i64 0, .int .i64 0, .slice none 0 0] 24)).alloc (.cells #[.int .i64 0] 27)).alloc (.cells #[.int .i64 0] 3)

theorem three_a (w : World) : Has (three w) w.heap.size 24 #[.string ⟨#[]⟩, .string ⟨#[]⟩, .int .i64 0, .int .i64 0, .slice none 0 0] := ((Has.new w _ _).alloc _).alloc _
theorem three_b (w : World) : Has (three w) (w.heap.size + 1) 27 #[.int .i64 0] := by
  have := (Has.new (w.alloc (.cells #[.string ⟨#[]⟩, .string ⟨#[]⟩, .int .i64 0, .int .i64 0, .slice none 0 0] 24)) 27 #[.int .i64 0]).alloc (.cells #[.int .i64 0] 3)
  rw [show (w.alloc (.cells #[.string ⟨#[]⟩, .string ⟨#[]⟩, .int .i64 0, .int .i64 0, .slice none 0 0] 24)).heap.size = w.heap.size + 1 by simp] at this
  exact this
theorem three_c (w : World) : Has (three w) (w.heap.size + 2) 3 #[.int .i64 0] := by
  have := Has.new ((w.alloc (.cells #[.string ⟨#[]⟩, .string ⟨#[]⟩, .int .i64 0, .int .i64 0, .slice none 0 0] 24)).alloc (.cells #[.int .i64 0] 27)) 3 #[.int .i64 0]
  rw [show ((w.alloc (.cells #[.string ⟨#[]⟩, .string ⟨#[]⟩, .int .i64 0, .int .i64 0, .slice none 0 0] 24)).alloc (.cells #[.int .i64 0] 27)).heap.size = w.heap.size + 2 by simp] at this
  exact this
theorem three_b3 (w : World) : Below w.heap.size w (three w) := (((Below.refl _ _).alloc (Nat.le_refl _) _).alloc (by simp) _).alloc (by simp; omega) _
theorem three_size (w : World) : (three w).heap.size = w.heap.size + 3 := by simp [three]

theorem res_three {tmps : Array Value} {W : World} {p q r : Nat} {x0 x1 x2 x3 x4 y z : Value} (h2 : tmps[2]?.getD undef = .pointer (some ⟨p, 0, none⟩)) (h3 : tmps[3]?.getD undef = .pointer (some ⟨q, 0, none⟩)) (h4 : tmps[4]?.getD undef = .pointer (some ⟨r, 0, none⟩))
    (ha : Has W p 24 #[x0, x1, x2, x3, x4]) (hb : Has W q 27 #[y]) (hc : Has W r 3 #[z]) : (results Tryz.f19 tmps).run Tryz.prog W = .ok (.tuple #[.agg #[x0, x1, x2, x3, x4], y, z]) W := by
  have q0 := ha.cell 0
  have q1 := ha.cell 1
  have q2 := ha.cell 2
  have q3 := ha.cell 3
  have q4 := ha.cell 4
  have r0 := hb.cell 0
  have s0 := hc.cell 0
  simp only [results, Tryz.results19]
  simp [h2, h3, h4, go_sem, q0, q1, q2, q3, q4, r0, s0]

set_option maxRecDepth 100000 in
set_option maxHeartbeats 2000000 in
theorem parsed_c (pb en : Nat) (w : World) (ts : Toks) (h : PAt w pb ts en) : Calls Tryz.prog 19 #[.pointer (some ⟨pb, 0, none⟩)] w (DRes w pb (pfile 501 en ts)) := by
  have hlt := h.lt
  have hf := file_c pb en (three w) ts (h.below (three_b3 w))
  have ha := three_a w
  have hb := three_b w
  have hc := three_c w
  have hz3 := three_size w
  have hB3 := three_b3 w
  cases hR : pfile 501 en ts with
  | ok x =>
    obtain ⟨l, r⟩ := x
    rw [hR] at hf
    clear hR h
    unfold three at hf ha hb hc hB3 hz3
    go_enter_defers Tryz.func19, Tryz.ntmps19
    go_wp2_with (first
      | ((go_at_call 33)
         (refine hf.mono ?_)
         (rintro e w1 ⟨hk1, A, C, rfl, hn1⟩)
         (have ha1 := ha.kp hk1 (by omega))
         (have hb1 := hb.kp hk1 (by omega))
         (have hc1 := hc.kp hk1 (by omega))
         (have a0 := ha1.cell 0)
         (have a1 := ha1.cell 1)
         (have a2 := ha1.cell 2)
         (have a3 := ha1.cell 3)
         (have a4 := ha1.cell 4)
         (have f0 := ha1.free 0)
         (have f1 := ha1.free 1)
         (have f2 := ha1.free 2)
         (have f3 := ha1.free 3)
         (have f4 := ha1.free 4)
         (have b0 := hb1.cell 0)
         (have g0 := hb1.free 0)
         (have c0 := hc1.cell 0)
         (have i0 := hc1.free 0)
         (have la := ha1.lt)
         (have lb := hb1.lt)
         (have lc := hc1.lt)
         (unfold ndc)))
    refine leaves_cons (f := 32) (args := #[.pointer (some ⟨w.heap.size, 0, none⟩), .pointer (some ⟨w.heap.size + 1, 0, none⟩), .pointer (some ⟨w.heap.size + 1 + 1, 0, none⟩)]) (by simp) (by simp [go_sem]) ?_
    refine (catch_idle ⟨w.heap.size, 0, none⟩ ⟨w.heap.size + 1, 0, none⟩ ⟨w.heap.size + 1 + 1, 0, none⟩ _).mono ?_
    rintro e u' w'' ⟨rfl, rfl, rfl⟩
    have n1 : w.heap.size ≠ w.heap.size + 1 := by omega
    have n2 : w.heap.size ≠ w.heap.size + 1 + 1 := by omega
    have n3 : w.heap.size + 1 ≠ w.heap.size + 1 + 1 := by omega
    have F1 := ((ha1.set5 (.string (bs (Nd.mk wFile [] 0 0 l).op)) (.string (bs (Nd.mk wFile [] 0 0 l).s)) (.int .i64 (Nd.mk wFile [] 0 0 l).n) (.int .i64 (Nd.mk wFile [] 0 0 l).a) (.slice A l.length C)).other (p := ⟨w.heap.size + 1, 0, none⟩) n1 (.int .i64 0)).other (p := ⟨w.heap.size + 1 + 1, 0, none⟩) n2 (.int .i64 (-1))
    have F2 := ((hb1.oth5 (g' := w.heap.size) (Ne.symm n1) (.string (bs (Nd.mk wFile [] 0 0 l).op)) (.string (bs (Nd.mk wFile [] 0 0 l).s)) (.int .i64 (Nd.mk wFile [] 0 0 l).n) (.int .i64 (Nd.mk wFile [] 0 0 l).a) (.slice A l.length C)).putP 0 (.int .i64 0)).other (p := ⟨w.heap.size + 1 + 1, 0, none⟩) n3 (.int .i64 (-1))
    have F3 := ((hc1.oth5 (g' := w.heap.size) (Ne.symm n2) (.string (bs (Nd.mk wFile [] 0 0 l).op)) (.string (bs (Nd.mk wFile [] 0 0 l).s)) (.int .i64 (Nd.mk wFile [] 0 0 l).n) (.int .i64 (Nd.mk wFile [] 0 0 l).a) (.slice A l.length C)).other (p := ⟨w.heap.size + 1, 0, none⟩) (Ne.symm n3) (.int .i64 0)).putP 0 (.int .i64 (-1))
    have hK : Kp pb w w1 := kp_new hB3 hk1
    have F4 := ((hK.set5 (Nat.le_refl _) (.string (bs (Nd.mk wFile [] 0 0 l).op)) (.string (bs (Nd.mk wFile [] 0 0 l).s)) (.int .i64 (Nd.mk wFile [] 0 0 l).n) (.int .i64 (Nd.mk wFile [] 0 0 l).a) (.slice A l.length C)).setNew (q := ⟨w.heap.size + 1, 0, none⟩) (by show w.heap.size ≤ w.heap.size + 1; omega) (.int .i64 0)).setNew (q := ⟨w.heap.size + 1 + 1, 0, none⟩) (by show w.heap.size ≤ w.heap.size + 1 + 1; omega) (.int .i64 (-1))
    have hn2 : NdR w1 (fun g => w.heap.size + 3 ≤ g) l (.slice A l.length C) := hn1.mono (fun g hg => by rw [← hz3]; exact hg)
    have F5 := (((hn2.set5 (g := w.heap.size) (fun k hk => by have h3 : w.heap.size + 3 ≤ k := hk; omega) (.string (bs (Nd.mk wFile [] 0 0 l).op)) (.string (bs (Nd.mk wFile [] 0 0 l).s)) (.int .i64 (Nd.mk wFile [] 0 0 l).n) (.int .i64 (Nd.mk wFile [] 0 0 l).a) (.slice A l.length C)).keep (fun g o hg ho => (Below.heap_setCell _ ⟨w.heap.size + 1, 0, none⟩ (.int .i64 0) g (by have h3 : w.heap.size + 3 ≤ g := hg; show g ≠ w.heap.size + 1; omega)).trans ho)).keep (fun g o hg ho => (Below.heap_setCell _ ⟨w.heap.size + 1 + 1, 0, none⟩ (.int .i64 (-1)) g (by have h3 : w.heap.size + 3 ≤ g := hg; show g ≠ w.heap.size + 1 + 1; omega)).trans ho)).mono (Q := fun g => w.heap.size ≤ g) (fun g hg => by have h3 : w.heap.size + 3 ≤ g := hg; omega)
    refine ⟨_, res_three rfl rfl rfl F1 F2 F3, F4, A, C, rfl, F5⟩
  | error x =>
    obtain ⟨c, k⟩ := x
    rw [hR] at hf
    clear hR h
    unfold three at hf ha hb hc hB3 hz3
    go_enter_defers Tryz.func19, Tryz.ntmps19
    go_wp2_with (first
      | ((go_at_call 33)
         (refine hf.mono ?_)
         (rintro e w1 ⟨hk1, rfl⟩)
         (have ha1 := ha.kp hk1 (by omega))
         (have hb1 := hb.kp hk1 (by omega))
         (have hc1 := hc.kp hk1 (by omega))))
    refine leaves_cons (f := 32) (args := #[.pointer (some ⟨w.heap.size, 0, none⟩), .pointer (some ⟨w.heap.size + 1, 0, none⟩), .pointer (some ⟨w.heap.size + 1 + 1, 0, none⟩)]) (by simp) (by simp [go_sem]) ?_
    refine (catch_panicking c k w.heap.size _ _ _ _ _ _ _ _ ha1 hb1 hc1).mono ?_
    rintro e u' w'' ⟨rfl, rfl, F1, F2, F3, hbl⟩
    have hK : Kp pb w w'' := ⟨hbl.os.trans (hk1.os.trans hB3.os), hbl.tape.trans (hk1.tape.trans hB3.tape), hbl.output.trans (hk1.output.trans hB3.output), Nat.le_trans (kp_new hB3 hk1).size hbl.size, fun i hi hn => (hbl.block i hi).trans ((kp_new hB3 hk1).block i hi hn)⟩
    have hres := res_three (tmps := #[.pointer (some ⟨pb, 0, none⟩), undef, .pointer (some ⟨w.heap.size, 0, none⟩), .pointer (some ⟨w.heap.size + 1, 0, none⟩), .pointer (some ⟨w.heap.size + 1 + 1, 0, none⟩), Value.func (Fn.func 32) #[] #[.pointer (some ⟨w.heap.size, 0, none⟩), .pointer (some ⟨w.heap.size + 1, 0, none⟩), .pointer (some ⟨w.heap.size + 1 + 1, 0, none⟩)], .pointer (some ⟨pb, 0, none⟩), undef]) rfl rfl rfl F1 F2 F3
    exact ⟨_, hres, hK, rfl⟩

/-- What Parse answers of a text whose tree is R. -/
def ParseR (w : World) (R : Except (Nat × Nat) Nd) (e : Ending) (w' : World) : Prop := Below w.heap.size w w' ∧ match R with
  | .error (c, k) => e = .returned (.tuple #[.agg #[.string ⟨#[]⟩, .string ⟨#[]⟩, .int .i64 0, .int .i64 0, .slice none 0 0], .int .i64 (c : Nat), .int .i64 (k : Nat)])
  | .ok n => ∃ A C, e = .returned (.tuple #[.agg (ndc n (.slice A n.l.length C)), .int .i64 0, .int .i64 (-1)]) ∧ NdR w' (fun g => w.heap.size ≤ g) n.l (.slice A n.l.length C)

theorem bel5 {w W : World} (h : Below w.heap.size w W) (x0 x1 x2 x3 x4 : Value) : Below w.heap.size w (put5 W w.heap.size x0 x1 x2 x3 x4) :=
  ((((h.setCell (p := ⟨w.heap.size, 0, none⟩) (Nat.le_refl _) x0).setCell (p := ⟨w.heap.size, 1, none⟩) (Nat.le_refl _) x1).setCell (p := ⟨w.heap.size, 2, none⟩) (Nat.le_refl _) x2).setCell (p := ⟨w.heap.size, 3, none⟩) (Nat.le_refl _) x3).setCell (p := ⟨w.heap.size, 4, none⟩) (Nat.le_refl _) x4

theorem below_kp {w w1 w2 : World} {o : Obj} (h : Below w.heap.size w w1) (hk : Kp w1.heap.size (w1.alloc o) w2) : Below w.heap.size w w2 := by
  have h1 : Below w.heap.size w (w1.alloc o) := h.alloc h.size o
  have hz := h.size
  exact ⟨hk.os.trans h1.os, hk.tape.trans h1.tape, hk.output.trans h1.output, Nat.le_trans h1.size hk.size, fun k hk' => (hk.block k (by have := h1.size; omega) (fun e => by cases e; omega)).trans (h1.block k hk')⟩

theorem PAt.start {w1 : World} {base en : Nat} {A : Option Addr} {C : Nat} {ts : Toks} (h : TokRow w1 base (.slice A ts.length C) ts) (hl : ts.length ≤ 500) : PAt (w1.alloc (.cells #[.slice A ts.length C, .int .i64 (en : Nat)] 50)) w1.heap.size ts en := by
  have hb := b_one w1 (.cells #[.slice A ts.length C, .int .i64 (en : Nat)] 50)
  by_cases hne : ts = []
  · subst hne
    rcases h.2 with ⟨e, _⟩ | ⟨g, cap, cur, e, _, _, hn, hm, _⟩
    · cases e
      exact ⟨none, 0, Has.new _ _ _, Nat.le_refl _, by omega, hl, fun h => absurd rfl h⟩
    · cases e
      exact ⟨_, C, Has.new _ _ _, hn, hm, hl, fun h => absurd rfl h⟩
  · obtain ⟨g, C', e, h1, h2, h3, h4, _, hc⟩ := h.lies hne
    cases e
    refine ⟨_, C, Has.new _ _ _, h3, h4, hl, fun _ => ⟨g, 0, rfl, h2, fun i hi j hj => ?_⟩⟩
    rw [Nat.zero_add]
    exact (hb.cell (p := ⟨g, i * 4 + j, none⟩) h2).trans (hc i hi j hj)

theorem ret_three {fn : Func} {R : Ending → World → Prop} {a : Act} {W : World} {s t u g : Nat} {x0 x1 x2 x3 x4 y z : Value} (hr : fn.results = #[.cell s 24, .tmp t, .tmp u]) (hs : a.tmps[s]?.getD undef = .pointer (some ⟨g, 0, none⟩)) (ht : a.tmps[t]?.getD undef = y) (hu : a.tmps[u]?.getD undef = z) (hH : Has W g 24 #[x0, x1, x2, x3, x4]) (hd : a.defers = []) (h : R (.returned (.tuple #[.agg #[x0, x1, x2, x3, x4], y, z])) W) : bodyPost Tryz.prog fn R .ret a W := by
  have q0 := hH.cell 0
  have q1 := hH.cell 1
  have q2 := hH.cell 2
  have q3 := hH.cell 3
  have q4 := hH.cell 4
  exact bodyPost_ret (by simp only [results, hr]; simp [hs, ht, hu, go_sem, q0, q1, q2, q3, q4]) hd h

set_option maxRecDepth 100000 in
set_option maxHeartbeats 2000000 in
theorem parse_c (x : List UInt8) (w : World) (hm : x.length ≤ maxLen) : Calls Tryz.prog 10 #[.string (bs x)] w (ParseR w (Parse x)) := by
  have hz := bs_size x
  have hm' := hm
  unfold maxLen at hm'
  cases hS : Scan x with
  | error r =>
    obtain ⟨er, o⟩ := r
    have hsc := fun W => scan_err_c W x hm hS
    have her := (Scan_err hS).1
    have her' : ¬ ((er : Nat) : Int) = 0 := by omega
    have hP : Parse x = .error (er, o) := by unfold Parse; rw [hS]
    rw [hP]
    clear hP hS her
    go_enter Tryz.func10, Tryz.ntmps10
    go_wp2_with (first
      | ((go_at_call 18)
         (refine (hsc _).mono ?_)
         (rintro e w1 ⟨rfl, hb1⟩)
         (have ha1 := (Has.new w 24 #[.string ⟨#[]⟩, .string ⟨#[]⟩, .int .i64 0, .int .i64 0, .slice none 0 0]).below hb1 (by simp))
         (have a0 := ha1.cell 0)
         (have a1 := ha1.cell 1)
         (have a2 := ha1.cell 2)
         (have a3 := ha1.cell 3)
         (have a4 := ha1.cell 4)
         (have f0 := ha1.free 0)
         (have f1 := ha1.free 1)
         (have f2 := ha1.free 2)
         (have f3 := ha1.free 3)
         (have f4 := ha1.free 4)
         (have la := ha1.lt)))
    refine ret_three rfl rfl rfl rfl (ha1.set5 _ _ _ _ _) rfl ⟨?_, rfl⟩
    have hb : Below w.heap.size w w1 := (b_one w _).trans (hb1.mono (by simp))
    exact bel5 hb _ _ _ _ _
  | ok ts =>
    have hsc := fun W => scan_ok_c W x hm hS
    have hlen := (Scan_len hS).1
    have hP : Parse x = match pfile 501 x.length ts with | .error e => .error e | .ok (l, _) => .ok (.mk wFile [] 0 0 l) := by
      unfold Parse
      rw [hS]
      simp only
      cases pfile 501 x.length ts with
      | error e => rfl
      | ok y => rfl
    rw [hP]
    have hpd := fun pb W h => parsed_c pb x.length W ts h
    generalize pfile 501 x.length ts = R at hpd ⊢
    clear hP hS
    obtain ⟨M, hM⟩ : ∃ M, M = ts.length := ⟨_, rfl⟩
    have HM : Hid (M = ts.length) := hM
    rw [← hM] at hsc
    clear hM
    cases R with
    | error r =>
      obtain ⟨c, k⟩ := r
      go_enter Tryz.func10, Tryz.ntmps10
      go_wp2_with (first
        | ((go_at_call 18)
           (refine (hsc _).mono ?_)
           (rintro e w1 ⟨A, C, rfl, hb1, htr⟩)
           (have ha1 := (Has.new w 24 #[.string ⟨#[]⟩, .string ⟨#[]⟩, .int .i64 0, .int .i64 0, .slice none 0 0]).below hb1 (by simp))
           (have la := ha1.lt)
           (have hb : Below w.heap.size w w1 := (b_one w _).trans (hb1.mono (by simp)))
           (have hPA : PAt (w1.alloc (.cells #[.slice A M C, .int .i64 (x.length : Nat)] 50)) w1.heap.size ts x.length := by (rw [HM.out] at htr ⊢; exact PAt.start htr hlen)))
        | ((go_at_call 19)
           (refine (hpd _ _ hPA).mono ?_)
           (rintro e w2 ⟨hk2, rfl⟩)
           (have ha2 := (ha1.alloc (.cells #[.slice A M C, .int .i64 (x.length : Nat)] 50)).kp hk2 (by omega))
           (have a0 := ha2.cell 0)
           (have a1 := ha2.cell 1)
           (have a2 := ha2.cell 2)
           (have a3 := ha2.cell 3)
           (have a4 := ha2.cell 4)
           (have f0 := ha2.free 0)
           (have f1 := ha2.free 1)
           (have f2 := ha2.free 2)
           (have f3 := ha2.free 3)
           (have f4 := ha2.free 4)
           (have lb := ha2.lt)
           (have hbb : Below w.heap.size w w2 := below_kp hb hk2)))
      exact ret_three rfl rfl rfl rfl (ha2.set5 _ _ _ _ _) rfl ⟨bel5 hbb _ _ _ _ _, rfl⟩
    | ok r =>
      obtain ⟨l, r⟩ := r
      go_enter Tryz.func10, Tryz.ntmps10
      go_wp2_with (first
        | ((go_at_call 18)
           (refine (hsc _).mono ?_)
           (rintro e w1 ⟨A, C, rfl, hb1, htr⟩)
           (have ha1 := (Has.new w 24 #[.string ⟨#[]⟩, .string ⟨#[]⟩, .int .i64 0, .int .i64 0, .slice none 0 0]).below hb1 (by simp))
           (have la := ha1.lt)
           (have hb : Below w.heap.size w w1 := (b_one w _).trans (hb1.mono (by simp)))
           (have hPA : PAt (w1.alloc (.cells #[.slice A M C, .int .i64 (x.length : Nat)] 50)) w1.heap.size ts x.length := by (rw [HM.out] at htr ⊢; exact PAt.start htr hlen)))
        | ((go_at_call 19)
           (refine (hpd _ _ hPA).mono ?_)
           (rintro e w2 ⟨hk2, A2, C2, rfl, hn2⟩)
           (have ha2 := (ha1.alloc (.cells #[.slice A M C, .int .i64 (x.length : Nat)] 50)).kp hk2 (by omega))
           (have a0 := ha2.cell 0)
           (have a1 := ha2.cell 1)
           (have a2 := ha2.cell 2)
           (have a3 := ha2.cell 3)
           (have a4 := ha2.cell 4)
           (have f0 := ha2.free 0)
           (have f1 := ha2.free 1)
           (have f2 := ha2.free 2)
           (have f3 := ha2.free 3)
           (have f4 := ha2.free 4)
           (have lb := ha2.lt)
           (have hbb : Below w.heap.size w w2 := below_kp hb hk2)
           (simp only [ndc])))
      refine ret_three rfl rfl rfl rfl (ha2.set5 _ _ _ _ _) rfl ⟨bel5 hbb _ _ _ _ _, A2, C2, rfl, ?_⟩
      have hz1 : (w1.alloc (.cells #[.slice A M C, .int .i64 (x.length : Nat)] 50)).heap.size = w1.heap.size + 1 := by simp
      have hn3 : NdR w2 (fun g => w1.heap.size + 1 ≤ g) l (.slice A2 l.length C2) := hn2.mono (fun g hg => by rw [← hz1]; exact hg)
      exact (hn3.set5 (g := w.heap.size) (fun k hk => by have h3 : w1.heap.size + 1 ≤ k := hk; omega) _ _ _ _ _).mono (fun g hg => by have h3 : w1.heap.size + 1 ≤ g := hg; omega)
end Go.Proofs.YtpckmllmjdafpaaGreatDoor

/- Trees that are read. -/
namespace Go.Proofs.YtpckmllmjdafpaaGreatDoor
open Go.ChangeShapes Go.WideShapes Go.ChangeAt Go.RowKit
set_option linter.unusedVariables false

/-- Nodes that lie somewhere, and may be read. -/
inductive Rd (w : World) : List Nd → Value → Prop where
  | mk (l : List Nd) (vs : List Value) (A : Option Addr) (C : Nat) : vs.length = l.length → l.length ≤ C → C ≤ 9223372036854775807 →
      (∀ i (h : i < l.length) (h' : i < vs.length), ∃ g off, A = some ⟨g, off, none⟩ ∧ g < w.heap.size ∧ ∀ j, j < 5 → w.cell? ⟨g, off + i * 5 + j, none⟩ = (ndc l[i] vs[i])[j]?) →
      (∀ i (h : i < l.length) (h' : i < vs.length), Rd w l[i].l vs[i]) → (∀ x ∈ l, x.s.length < maxLen ∧ x.op.length < maxLen) → Rd w l (.slice A l.length C)

theorem Rd.grow {w w' : World} {l : List Nd} {v : Value} (h : Rd w l v) (hb : Below w.heap.size w w') : Rd w' l v := by
  induction h with
  | mk l vs A C h1 h2 h3 h4 h5 h6 ih =>
    refine .mk l vs A C h1 h2 h3 (fun i h h' => ?_) ih h6
    obtain ⟨g, off, e, hg, hc⟩ := h4 i h h'
    exact ⟨g, off, e, Nat.lt_of_lt_of_le hg hb.size, fun j hj => (hb.cell (p := ⟨g, off + i * 5 + j, none⟩) hg).trans (hc j hj)⟩

theorem Rd.slice {w : World} {l : List Nd} {v : Value} (h : Rd w l v) : ∃ A C, v = .slice A l.length C ∧ l.length ≤ C ∧ C ≤ 9223372036854775807 := by
  cases h with
  | mk l vs A C h1 h2 h3 => exact ⟨A, C, rfl, h2, h3⟩

/-- One of them. -/
theorem Rd.get {w : World} {l : List Nd} {A : Option Addr} {L C : Nat} (h : Rd w l (.slice A L C)) (i : Nat) (hi : i < l.length) : ∃ g off u, A = some ⟨g, off, none⟩ ∧ g < w.heap.size ∧ (∀ j, j < 5 → w.cell? ⟨g, off + i * 5 + j, none⟩ = (ndc l[i] u)[j]?) ∧ Rd w l[i].l u ∧ l[i].s.length < maxLen ∧ l[i].op.length < maxLen := by
  cases h with
  | mk l vs A C h1 h2 h3 h4 h5 h6 =>
    obtain ⟨g, off, e, hg, hc⟩ := h4 i hi (by omega)
    obtain ⟨h7, h8⟩ := h6 _ (List.getElem_mem hi)
    exact ⟨g, off, vs[i], e, hg, hc, h5 i hi (by omega), h7, h8⟩

/-- A tree of short texts. -/
inductive Sml : Nd → Prop where
  | mk (op s : List UInt8) (n a : Int) (l : List Nd) : op.length ≤ 1000 → s.length ≤ 1000 → (∀ x ∈ l, Sml x) → Sml (.mk op s n a l)

theorem Sml.s {n : Nd} (h : Sml n) : n.s.length ≤ 1000 := by cases h; assumption
theorem Sml.op {n : Nd} (h : Sml n) : n.op.length ≤ 1000 := by cases h; assumption
theorem Sml.l {n : Nd} (h : Sml n) : ∀ x ∈ n.l, Sml x := by cases h; assumption

theorem NdR.rd {w : World} {P : Nat → Prop} {l : List Nd} {v : Value} (h : NdR w P l v) (hs : ∀ x ∈ l, Sml x) : Rd w l v := by
  induction h with
  | mk l vs v h1 h2 h3 h4 ih =>
    have hk := fun i (h : i < l.length) (h' : i < vs.length) => ih i h h' (hs _ (List.getElem_mem h)).l
    have hm : ∀ x ∈ l, x.s.length < maxLen ∧ x.op.length < maxLen := fun x hx => ⟨by have := (hs x hx).s; unfold maxLen; omega, by have := (hs x hx).op; unfold maxLen; omega⟩
    rcases h2.2 with ⟨rfl, h0⟩ | ⟨g, cap, cur, rfl, _, hg, hn, hm2, hsz, ht⟩
    · have : l = [] := List.length_eq_zero_iff.1 h0
      subst this
      exact .mk [] vs none 0 h1 (Nat.le_refl _) (by omega) (fun i h => by simp at h) hk hm
    · refine .mk l vs (some ⟨g, 0, none⟩) cap h1 hn hm2 (fun i h h' => ⟨g, 0, rfl, (Array.getElem?_eq_some_iff.1 hg).1, fun j hj => ?_⟩) hk hm
      rw [Nat.zero_add, ← ndl_get l vs i h h' j hj, ← ht, List.getElem?_take_of_lt (by omega), Array.getElem?_toList]
      exact cell_of_row w g (i * 5 + j) cur _ _ hg

/-- The token of a text that has one, and no more. -/
def tok1 (x : List UInt8) : Option (Tk × Nat) := match Scan x with
  | .ok [t] => some t
  | _ => none

def TokenOne (o : Option (Tk × Nat)) : Value := match o with
  | some t => .tuple #[.agg (tkv t.1 t.2), .bool true]
  | none => .tuple #[.agg #[.int .i64 0, .string ⟨#[]⟩, .int .i64 0, .int .i64 0], .bool false]

def hasNm (x : List UInt8) : Bool := match tok1 x with
  | some t => isNm t.1 && t.1.s == x
  | none => false

def hasHx (x : List UInt8) : Bool := match tok1 (36 :: x) with
  | some t => t.1.kind == 2 && t.1.s == x
  | none => false

theorem ret_tokb {fn : Func} {R : Ending → World → Prop} {a : Act} {W : World} {s t g : Nat} {x0 x1 x2 x3 y : Value} (hr : fn.results = #[.cell s 58, .tmp t]) (hs : a.tmps[s]?.getD undef = .pointer (some ⟨g, 0, none⟩)) (ht : a.tmps[t]?.getD undef = y) (hH : Has W g 58 #[x0, x1, x2, x3]) (hd : a.defers = []) (h : R (.returned (.tuple #[.agg #[x0, x1, x2, x3], y])) W) : bodyPost Tryz.prog fn R .ret a W := by
  have q0 := hH.cell 0
  have q1 := hH.cell 1
  have q2 := hH.cell 2
  have q3 := hH.cell 3
  exact bodyPost_ret (by simp only [results, hr]; simp [hs, ht, go_sem, q0, q1, q2, q3]) hd h

theorem bel4 {w W : World} (h : Below w.heap.size w W) (x0 x1 x2 x3 : Value) : Below w.heap.size w ((((W.setCell ⟨w.heap.size, 0, none⟩ x0).setCell ⟨w.heap.size, 1, none⟩ x1).setCell ⟨w.heap.size, 2, none⟩ x2).setCell ⟨w.heap.size, 3, none⟩ x3) :=
  (((h.setCell (p := ⟨w.heap.size, 0, none⟩) (Nat.le_refl _) x0).setCell (p := ⟨w.heap.size, 1, none⟩) (Nat.le_refl _) x1).setCell (p := ⟨w.heap.size, 2, none⟩) (Nat.le_refl _) x2).setCell (p := ⟨w.heap.size, 3, none⟩) (Nat.le_refl _) x3

set_option maxRecDepth 100000 in
set_option maxHeartbeats 2000000 in
theorem token_c (x : List UInt8) (w : World) (hm : x.length ≤ maxLen) : Calls Tryz.prog 37 #[.string (bs x)] w fun e w' => e = .returned (TokenOne (tok1 x)) ∧ Below w.heap.size w w' := by
  have other : ∀ (A : Option Addr) (L C : Nat) (er o : Int), ¬ (L : Int) = 1 → (L : Int) ≤ 9223372036854775807 → (∀ W, Calls Tryz.prog 18 #[.string (bs x)] W fun e w' => ∃ A C, e = .returned (.tuple #[.slice A L C, .int .i64 er, .int .i64 o]) ∧ Below W.heap.size W w') → tok1 x = none →
      Calls Tryz.prog 37 #[.string (bs x)] w fun e w' => e = .returned (TokenOne (tok1 x)) ∧ Below w.heap.size w w' := by
    intro A L C er o hL hL2 hsc hn
    rw [hn]
    clear hn hm
    go_enter Tryz.func37, Tryz.ntmps37
    go_wp2_with (first
      | ((go_at_call 18)
         (refine (hsc _).mono ?_)
         (rintro e w1 ⟨A, C, rfl, hb1⟩)
         (have ha1 := (Has.new w 58 #[.int .i64 0, .string ⟨#[]⟩, .int .i64 0, .int .i64 0]).below hb1 (by simp))
         (have a0 := ha1.cell 0)
         (have a1 := ha1.cell 1)
         (have a2 := ha1.cell 2)
         (have a3 := ha1.cell 3)
         (have f0 := ha1.free 0)
         (have f1 := ha1.free 1)
         (have f2 := ha1.free 2)
         (have f3 := ha1.free 3)
         (have la := ha1.lt)))
    have hb : Below w.heap.size w w1 := (b_one w _).trans (hb1.mono (by simp))
    exact ret_tokb rfl rfl rfl (ha1.set4 _ _ _ _) rfl ⟨rfl, bel4 hb _ _ _ _⟩
  cases hS : Scan x with
  | error r =>
    obtain ⟨er, o⟩ := r
    exact other none 0 0 er o (by decide) (by decide) (fun W => (scan_err_c W x hm hS).mono fun e w' h => ⟨none, 0, h.1, h.2⟩) (by unfold tok1; rw [hS])
  | ok ts =>
    have hlen := (Scan_len hS).1
    have hsc := fun W => scan_ok_c W x hm hS
    by_cases h1 : ts.length = 1
    · obtain ⟨t, rfl⟩ := List.length_eq_one_iff.1 h1
      have hT : tok1 x = some t := by unfold tok1; rw [hS]
      rw [hT]
      have hsc' : ∀ W, Calls Tryz.prog 18 #[.string (bs x)] W fun e w' => ∃ g C, e = .returned (.tuple #[.slice (some ⟨g, 0, none⟩) 1 C, .int .i64 0, .int .i64 (-1)]) ∧ Below W.heap.size W w' ∧ g < w'.heap.size ∧ 1 ≤ C ∧ C ≤ 9223372036854775807 ∧ w'.cell? ⟨g, 0, none⟩ = some (.int .i64 (t.1.kind : Nat)) ∧ w'.cell? ⟨g, 1, none⟩ = some (.string (bs t.1.s)) ∧ w'.cell? ⟨g, 2, none⟩ = some (.int .i64 (t.1.n : Nat)) ∧ w'.cell? ⟨g, 3, none⟩ = some (.int .i64 (t.2 : Nat)) := by
        intro W
        refine (hsc W).mono ?_
        rintro e w' ⟨A, C, rfl, hb, htr⟩
        obtain ⟨g, C', e, q1, q2, q3, q4, _, hc⟩ := htr.lies (by simp)
        cases e
        exact ⟨g, C, rfl, hb, q2, q3, q4, hc 0 (by simp) 0 (by decide), hc 0 (by simp) 1 (by decide), hc 0 (by simp) 2 (by decide), hc 0 (by simp) 3 (by decide)⟩
      clear hsc hT hS h1 other hm hlen
      go_enter Tryz.func37, Tryz.ntmps37
      go_wp2_with (first
        | ((go_at_call 18)
           (refine (hsc' _).mono ?_)
           (rintro e w1 ⟨g, C, rfl, hb1, hgl, hC1, hC2, d0, d1, d2, d3⟩)
           (have ha1 := (Has.new w 58 #[.int .i64 0, .string ⟨#[]⟩, .int .i64 0, .int .i64 0]).below hb1 (by simp))
           (have a0 := ha1.cell 0)
           (have a1 := ha1.cell 1)
           (have a2 := ha1.cell 2)
           (have a3 := ha1.cell 3)
           (have f0 := ha1.free 0)
           (have f1 := ha1.free 1)
           (have f2 := ha1.free 2)
           (have f3 := ha1.free 3)
           (have la := ha1.lt)))
      have hb : Below w.heap.size w w1 := (b_one w _).trans (hb1.mono (by simp))
      exact ret_tokb rfl rfl rfl (ha1.set4 _ _ _ _) rfl ⟨rfl, bel4 hb _ _ _ _⟩
    · refine other none ts.length 0 0 (-1) (by omega) (by omega) (fun W => (hsc W).mono fun e w' ⟨A, C, h, hb, _⟩ => ⟨A, C, h, hb⟩) ?_
      unfold tok1
      rw [hS]
      match ts, h1 with
      | [], _ => rfl
      | [t], h => exact absurd rfl h
      | _ :: _ :: _, _ => rfl
end Go.Proofs.YtpckmllmjdafpaaGreatDoor

/- Which trees may be. -/
namespace Go.Proofs.YtpckmllmjdafpaaGreatDoor
open Go.ChangeShapes Go.WideShapes Go.ChangeAt Go.RowKit
set_option linter.unusedVariables false

def numOk (n : Int) : Bool := decide (0 ≤ n) && decide (n ≤ 999999999)

def partOk (re : Nd → Bool) : Kd → Nd → Bool
  | .nu, n => n.op == wNum && n.s == [] && numOk n.n && decide (n.l.length = 0)
  | .na, n => n.op == wName && hasNm n.s && decide (n.n = 0) && decide (n.l.length = 0)
  | .ex, n => re n

def kdAt (ks : List Kd) (i : Nat) : Kd := ks.getD (min i (ks.length - 1)) .ex

def fits (ks : List Kd) (more : Bool) (L : Nat) : Bool := !(decide (ks.length = 0)) && !(decide (L < ks.length)) && !(decide (ks.length < L) && !more)

def partsOk (re : Nd → Bool) (n : Nd) : Bool := fits (inside n.op).1 (inside n.op).2 n.l.length && (List.range n.l.length).all fun i => partOk re (kdAt (inside n.op).1 i) (n.l.getD i (.mk [] [] 0 0 []))

def rightE : Nat → Nd → Bool
  | 0, _ => false
  | d + 1, n => decide (n.n = 0) && (if n.op = wUse then hasNm n.s && decide (n.l.length = 0) else n.s == [] && partsOk (rightE d) n)

def hexOk (n : Nd) : Bool := n.op == wHex && hasHx n.s && decide (n.n = 0) && decide (n.l.length = 0)

def rightS (n : Nd) : Bool := hasNm n.s &&
  (if n.op = wDevice ∨ n.op = wJournal then numOk n.n && decide (n.l.length = 0)
   else if n.op = wKey ∨ n.op = wRoot then decide (n.n = 0) && decide (n.l.length = 1) && hexOk (n.l.getD 0 (.mk [] [] 0 0 []))
   else if n.op = wVolume then decide (n.n = 0) && decide (n.l.length = 1) && rightE 12 (n.l.getD 0 (.mk [] [] 0 0 []))
   else if n.op = wExport then (decide (n.n = 0) || decide (n.n = 1)) && decide (n.l.length = 0)
   else false)

def Right (n : Nd) : Bool := n.l.all rightS && n.op == wFile && n.s == [] && decide (n.n = 0)

set_option maxRecDepth 100000 in
set_option maxHeartbeats 2000000 in
theorem hasNumber_c (n : Nd) (A : Option Addr) (L C : Nat) (w : World) : Calls Tryz.prog 24 #[.agg (ndc n (.slice A L C))] w fun e w' => e = .returned (.bool (numOk n.n)) ∧ Below w.heap.size w w' := by
  unfold numOk ndc
  generalize n.n = N
  by_cases h1 : 0 ≤ N
  · by_cases h2 : N ≤ 999999999
    all_goals
      go_enter Tryz.func24, Tryz.ntmps24
      go_wp2
      go_ret
      exact ⟨ret_bool (by simp [h1, h2]), b_one _ _⟩
  · go_enter Tryz.func24, Tryz.ntmps24
    go_wp2
    go_ret
    refine ⟨ret_bool ?_, b_one _ _⟩
    rw [Bool.eq_iff_iff]
    simp
    omega

theorem bel_two {w w1 w2 : World} {o o' : Obj} (h : Below (w.alloc o).heap.size (w.alloc o) w1) (h2 : Below (w1.alloc o').heap.size (w1.alloc o') w2) : Below w.heap.size w w2 := by
  have s1 := h.size
  have s2 := h2.size
  simp at s1 s2
  exact (((b_one w o).trans (h.mono (by simp))).alloc (by omega) o').trans (h2.mono (by simp; omega))

theorem bel_one {w w1 : World} {o o' : Obj} (h : Below (w.alloc o).heap.size (w.alloc o) w1) : Below w.heap.size w (w1.alloc o') := by
  have s1 := h.size
  simp at s1
  exact ((b_one w o).trans (h.mono (by simp))).alloc (by omega) o'

set_option maxRecDepth 100000 in
set_option maxHeartbeats 2000000 in
theorem hasName_c (n : Nd) (A : Option Addr) (L C : Nat) (w : World) (hm : n.s.length ≤ maxLen) : Calls Tryz.prog 23 #[.agg (ndc n (.slice A L C))] w fun e w' => e = .returned (.bool (hasNm n.s)) ∧ Below w.heap.size w w' := by
  have htk := fun W => token_c n.s W hm
  unfold hasNm ndc
  have hs := bs_toList n.s
  cases hT : tok1 n.s with
  | none =>
    rw [hT] at htk
    simp only [TokenOne] at htk
    clear hT
    go_enter Tryz.func23, Tryz.ntmps23
    go_wp2_with (go_at_call 37; refine (htk _).mono ?_; rintro e w1 ⟨rfl, hb1⟩)
    go_ret
    exact ⟨rfl, bel_one hb1⟩
  | some t =>
    rw [hT] at htk
    simp only [TokenOne, tkv] at htk
    have hnm := nm_c t.1 t.2
    have hs2 := bs_toList t.1.s
    simp only
    generalize isNm t.1 = B at hnm ⊢
    unfold tkv at hnm
    clear hT
    cases B
    all_goals
      go_enter Tryz.func23, Tryz.ntmps23
      go_wp2_with (first
        | ((go_at_call 37)
           (refine (htk _).mono ?_)
           (rintro e w1 ⟨rfl, hb1⟩)
           (have hN1 := (Has.new w _ _).below hb1 (by simp))
           (have hlN := hN1.lt))
        | ((go_at_call 38)
           (refine (hnm _).mono ?_)
           (rintro e w2 ⟨rfl, hb2⟩)
           (have hN2 := (hN1.alloc _).below hb2 (by simp; omega))
           (have n1 := hN2.cell 1)
           (have hT2 := (Has.new w1 _ _).below hb2 (by simp))
           (have t1 := hT2.cell 1)))
      go_ret
      exact ⟨ret_bool (by simp), bel_two hb1 hb2⟩
end Go.Proofs.YtpckmllmjdafpaaGreatDoor

/- An expr, or what else stands in parentheses. -/
namespace Go.Proofs.YtpckmllmjdafpaaGreatDoor
open Go.ChangeShapes Go.WideShapes Go.ChangeAt Go.RowKit
set_option linter.unusedVariables false

/-- A node that is read: its parts, its texts. -/
structure RdN (w : World) (n : Nd) (A : Option Addr) (C : Nat) : Prop where
  rd : Rd w n.l (.slice A n.l.length C)
  s : n.s.length < maxLen
  op : n.op.length < maxLen

theorem RdN.grow {w w' : World} {n : Nd} {A : Option Addr} {C : Nat} (h : RdN w n A C) (hb : Below w.heap.size w w') : RdN w' n A C := ⟨h.rd.grow hb, h.s, h.op⟩

theorem RdN.len {w : World} {n : Nd} {A : Option Addr} {C : Nat} (h : RdN w n A C) : n.l.length ≤ C ∧ C ≤ 9223372036854775807 := by
  obtain ⟨A', C', e, h1, h2⟩ := h.rd.slice
  cases e
  exact ⟨h1, h2⟩

/-- What a function of a node answers: a bool. -/
abbrev Yes (w : World) (b : Bool) (e : Ending) (w' : World) : Prop := e = .returned (.bool b) ∧ Below w.heap.size w w'

set_option maxRecDepth 100000 in
set_option maxHeartbeats 2000000 in
theorem isPart_c (d N : Nat) (k : Kd) (n : Nd) (A : Option Addr) (C : Nat) (w : World) (h : RdN w n A C) (hN : N ≤ 13)
    (hx : ∀ W, RdN W n A C → Calls Tryz.prog 26 #[.agg (ndc n (.slice A n.l.length C)), .int .i64 (N : Nat)] W (Yes W (rightE d n))) :
    Calls Tryz.prog 58 #[.agg (ndc n (.slice A n.l.length C)), .string (bs k.w), .int .i64 (N : Nat)] w (Yes w (partOk (rightE d) k n)) := by
  have hlen := h.len
  have hnum := fun W => hasNumber_c n A n.l.length C W
  have hnam := fun W => hasName_c n A n.l.length C W (by have := h.s; omega)
  have hs := bs_toList n.s
  have ho := bs_toList n.op
  have hx' := fun W hW => hx W (h.grow hW)
  cases k with
  | nu =>
    show Calls Tryz.prog 58 #[.agg (ndc n (.slice A n.l.length C)), .string ⟨#[110, 117, 109]⟩, .int .i64 (N : Nat)] w _
    simp only [partOk]
    have hL : ((n.l.length : Nat) : Int) ≤ 9223372036854775807 := by omega
    generalize n.l.length = L at *
    unfold ndc at *
    generalize numOk n.n = B at *
    clear hx hx' h hnam
    cases e1 : (n.op == wNum)
    · have e1' : (n.op == [110, 117, 109]) = false := e1
      go_enter Tryz.func58, Tryz.ntmps58
      go_wp2
      go_ret
      exact ⟨rfl, b_one _ _⟩
    · have e1' : (n.op == [110, 117, 109]) = true := e1
      cases e2 : (n.s == [])
      · go_enter Tryz.func58, Tryz.ntmps58
        go_wp2
        go_ret
        exact ⟨rfl, b_one _ _⟩
      · by_cases hL0 : L = 0
        · subst hL0
          cases B
          all_goals
            go_enter Tryz.func58, Tryz.ntmps58
            go_wp2_with (go_at_call 24; refine (hnum _).mono ?_; rintro e w1 ⟨rfl, hb1⟩; have hN1 := (Has.new w _ _).below hb1 (by simp); have n4 := hN1.cell 4)
            go_ret
            exact ⟨rfl, (b_one w _).trans (hb1.mono (by simp))⟩
        · have hL0' : ¬ (L : Int) = 0 := by omega
          cases B
          all_goals
            go_enter Tryz.func58, Tryz.ntmps58
            go_wp2_with (go_at_call 24; refine (hnum _).mono ?_; rintro e w1 ⟨rfl, hb1⟩; have hN1 := (Has.new w _ _).below hb1 (by simp); have n4 := hN1.cell 4)
            go_ret
            exact ⟨by simp [hL0], (b_one w _).trans (hb1.mono (by simp))⟩
  | na =>
    show Calls Tryz.prog 58 #[.agg (ndc n (.slice A n.l.length C)), .string ⟨#[110, 97, 109, 101]⟩, .int .i64 (N : Nat)] w _
    simp only [partOk]
    have hL : ((n.l.length : Nat) : Int) ≤ 9223372036854775807 := by omega
    generalize n.l.length = L at *
    unfold ndc at *
    generalize hasNm n.s = B at *
    clear hx hx' h hnum
    cases e1 : (n.op == wName)
    · have e1' : (n.op == [110, 97, 109, 101]) = false := e1
      go_enter Tryz.func58, Tryz.ntmps58
      go_wp2
      go_ret
      exact ⟨rfl, b_one _ _⟩
    · have e1' : (n.op == [110, 97, 109, 101]) = true := e1
      cases B
      · go_enter Tryz.func58, Tryz.ntmps58
        go_wp2_with (go_at_call 23; refine (hnam _).mono ?_; rintro e w1 ⟨rfl, hb1⟩)
        go_ret
        exact ⟨rfl, (b_one w _).trans (hb1.mono (by simp))⟩
      · generalize n.n = M at *
        by_cases hM : M = 0
        · subst hM
          by_cases hL0 : L = 0
          · subst hL0
            go_enter Tryz.func58, Tryz.ntmps58
            go_wp2_with (go_at_call 23; refine (hnam _).mono ?_; rintro e w1 ⟨rfl, hb1⟩; have hN1 := (Has.new w _ _).below hb1 (by simp); have n2 := hN1.cell 2; have n4 := hN1.cell 4)
            go_ret
            exact ⟨rfl, (b_one w _).trans (hb1.mono (by simp))⟩
          · have hL0' : ¬ (L : Int) = 0 := by omega
            go_enter Tryz.func58, Tryz.ntmps58
            go_wp2_with (go_at_call 23; refine (hnam _).mono ?_; rintro e w1 ⟨rfl, hb1⟩; have hN1 := (Has.new w _ _).below hb1 (by simp); have n2 := hN1.cell 2; have n4 := hN1.cell 4)
            go_ret
            exact ⟨by simp [hL0], (b_one w _).trans (hb1.mono (by simp))⟩
        · go_enter Tryz.func58, Tryz.ntmps58
          go_wp2_with (go_at_call 23; refine (hnam _).mono ?_; rintro e w1 ⟨rfl, hb1⟩; have hN1 := (Has.new w _ _).below hb1 (by simp); have n2 := hN1.cell 2)
          go_ret
          exact ⟨by simp [hM], (b_one w _).trans (hb1.mono (by simp))⟩
  | ex =>
    show Calls Tryz.prog 58 #[.agg (ndc n (.slice A n.l.length C)), .string ⟨#[101, 120, 112, 114]⟩, .int .i64 (N : Nat)] w _
    simp only [partOk]
    generalize rightE d n = B at *
    unfold ndc at *
    clear hnum hnam hx
    go_enter Tryz.func58, Tryz.ntmps58
    go_wp2_with (go_at_call 26; refine (hx' _ (b_one _ _)).mono ?_; rintro e w1 ⟨rfl, hb1⟩)
    go_ret
    exact ⟨rfl, (b_one w _).trans (hb1.mono (by simp))⟩

set_option maxRecDepth 100000 in
set_option maxHeartbeats 2000000 in
theorem isExpr_one (d N : Nat) (n : Nd) (A : Option Addr) (C : Nat) (w : World) (h : RdN w n A C) (hN : N ≤ 12)
    (hx : ∀ W, RdN W n A C → Calls Tryz.prog 39 #[.agg (ndc n (.slice A n.l.length C)), .int .i64 (N : Nat)] W (Yes W (partsOk (rightE d) n))) :
    Calls Tryz.prog 26 #[.agg (ndc n (.slice A n.l.length C)), .int .i64 (N : Nat)] w (Yes w (rightE (d + 1) n)) := by
  have hlen := h.len
  have hnam := fun W => hasName_c n A n.l.length C W (by have := h.s; omega)
  have hs := bs_toList n.s
  have ho := bs_toList n.op
  have hx' := fun W hW => hx W (h.grow hW)
  have hN' : ¬ (12 : Int) < (N : Int) := by omega
  simp only [rightE]
  have hL : ((n.l.length : Nat) : Int) ≤ 9223372036854775807 := by omega
  generalize partsOk (rightE d) n = B at *
  generalize n.l.length = L at *
  unfold ndc at *
  generalize n.n = M at *
  clear hx h
  by_cases hM : M = 0
  · subst hM
    by_cases hu : n.op = wUse
    · have e1' : (n.op == [117, 115, 101]) = true := by rw [hu]; rfl
      rw [if_pos hu]
      generalize hasNm n.s = D at *
      clear hx' hu
      cases D
      · go_enter Tryz.func26, Tryz.ntmps26
        go_wp2_with (go_at_call 23; refine (hnam _).mono ?_; rintro e w1 ⟨rfl, hb1⟩)
        go_ret
        exact ⟨rfl, (b_one w _).trans (hb1.mono (by simp))⟩
      · by_cases hL0 : L = 0
        · subst hL0
          go_enter Tryz.func26, Tryz.ntmps26
          go_wp2_with (go_at_call 23; refine (hnam _).mono ?_; rintro e w1 ⟨rfl, hb1⟩; have hN1 := (Has.new w _ _).below hb1 (by simp); have n4 := hN1.cell 4)
          go_ret
          exact ⟨rfl, (b_one w _).trans (hb1.mono (by simp))⟩
        · have hL0' : ¬ (L : Int) = 0 := by omega
          go_enter Tryz.func26, Tryz.ntmps26
          go_wp2_with (go_at_call 23; refine (hnam _).mono ?_; rintro e w1 ⟨rfl, hb1⟩; have hN1 := (Has.new w _ _).below hb1 (by simp); have n4 := hN1.cell 4)
          go_ret
          exact ⟨by simp [hL0], (b_one w _).trans (hb1.mono (by simp))⟩
    · have e1' : (n.op == [117, 115, 101]) = false := by rw [beq_eq_false_iff_ne]; exact hu
      rw [if_neg hu]
      clear hnam hu
      cases e2 : (n.s == [])
      · go_enter Tryz.func26, Tryz.ntmps26
        go_wp2
        go_ret
        exact ⟨rfl, b_one _ _⟩
      · go_enter Tryz.func26, Tryz.ntmps26
        go_wp2_with (go_at_call 39; refine (hx' _ (b_one _ _)).mono ?_; rintro e w1 ⟨rfl, hb1⟩)
        go_ret
        exact ⟨rfl, (b_one w _).trans (hb1.mono (by simp))⟩
  · clear hnam hx'
    go_enter Tryz.func26, Tryz.ntmps26
    go_wp2
    go_ret
    exact ⟨by simp, b_one _ _⟩

set_option maxRecDepth 100000 in
set_option maxHeartbeats 2000000 in
theorem isExpr_zero (n : Nd) (A : Option Addr) (C : Nat) (w : World) :
    Calls Tryz.prog 26 #[.agg (ndc n (.slice A n.l.length C)), .int .i64 13] w (Yes w (rightE 0 n)) := by
  simp only [rightE]
  unfold ndc
  go_enter Tryz.func26, Tryz.ntmps26
  go_wp2
  go_ret
  exact ⟨rfl, b_one _ _⟩

/-- The last one, that yields. -/
theorem lastVal {P : Program} {ops : Array Oper} {Q : Exit → Act → World → Prop} {md : Region.Mode} {S : World → Prop} {oi : Oper} (m : Nat) (d : Option Tmp) (v : Value) {n : Nat} {listed : Array Bool} {a : Act} {w : World} (hr : Region.ready md ops listed = [m])
    (hi : ops[m]? = some oi) (hd : oi.dst = d) (hw : Region.wanted oi (yielded ops a.tmps) = true)
    (hrun : (execOp a.eval oi).run P w = .ok (.value v) w) (he : Region.ready md ops (listed.setIfInBounds m true) = [])
    (h : Q .normal (a.put d v) w) : AnyL P md ops Q S m (n + 1) listed a w := by
  subst hd
  refine ⟨fun h0 => absurd (hr ▸ h0) (by simp), fun j hj => ?_⟩
  obtain rfl : j = m := by rw [hr] at hj; simpa using hj
  refine wpOp_step hi (fun K hK => ?_)
  rw [if_pos hw]
  unfold Oper.wp
  rw [hrun]
  refine hK _ _ ⟨fun h => absurd rfl h, ?_⟩
  cases n with
  | zero => exact ⟨he, h⟩
  | succ n => exact ⟨fun _ => h, by rw [he]; simp⟩
end Go.Proofs.YtpckmllmjdafpaaGreatDoor
