/- Texts that the statements of this stage share, joined: PsStJournal, PsStKey, PsStRoot, PsStVolume. -/
import Derived.Test.YtpckmllmjdafpaaGreatDoorJoint05

/- A statement: Journal. -/
namespace Go.Proofs.YtpckmllmjdafpaaGreatDoor
open Go.ChangeShapes Go.WideShapes Go.ChangeAt Go.RowKit
set_option linter.unusedVariables false

set_option maxRecDepth 100000 in
set_option maxHeartbeats 4000000 in
theorem stmtJournal_c (pb en : Nat) (w : World) (ts r1 : Toks) (K M a : Nat) (h : PAt w pb ts en) (hT1 : ptake (isWd stmts) en ts = .ok ((⟨K, wJournal, M⟩, a), r1)) :
    Calls Tryz.prog 53 #[.pointer (some ⟨pb, 0, none⟩)] w (PRes w pb en (pstmt en ts)) := by
  have hlt := h.lt
  have htk1 := fun o => first_take w o h
  have htk2 := fun W (h : PAt W pb r1 en) => take_c h Ask.nm
  have hs59 : ∀ W, Calls Tryz.prog 69 #[.string ⟨#[59]⟩] W fun e w' => e = .returned (.func (.func 87) #[] #[.pointer (some ⟨W.heap.size, 0, none⟩)]) ∧ w' = W.alloc (.cells #[.string ⟨#[59]⟩] 9) := fun W => isSign_c [59] W
  have htk9 : ∀ {r : Toks} W q, PAt W pb r en → W.heap.size = q → Calls Tryz.prog 66 #[.pointer (some ⟨pb, 0, none⟩), .func (.func 87) #[] #[.pointer (some ⟨q, 0, none⟩)]] (W.alloc (.cells #[.string ⟨#[59]⟩] 9)) (TRes W pb en (ptake (isSg [59]) en r)) := fun W q h e => e ▸ sgn_take [59] h
  rw [hT1] at htk1
  cases hT2 : ptake isNm en r1 with
  | error er =>
    obtain ⟨c, q⟩ := er
    rw [hT2] at htk2
    rw [stmt_two hT1 hT2]
    clear hT1 hT2 h htk9 hs59
    go_enter Tryz.func53, Tryz.ntmps53
    go_wp2_with (first
      | (go_at_call 67; refine at_argP 0 (.slice _ 6 6) rfl ?_; refine (isWord_c _ _ _ _).mono ?_; rintro e w1 ⟨rfl, rfl⟩)
      | ((go_at_call 66)
         (refine at_argP 1 (.func (.func 84) #[] _) rfl ?_)
         (refine (htk1 _).mono ?_)
         (rintro e w2 ⟨hk2, rfl, hp2⟩)
         (clear htk1)
         (have hR2 : Has w2 w.heap.size 24 #[.string ⟨#[]⟩, .string ⟨#[]⟩, .int .i64 0, .int .i64 0, .slice none 0 0] := (Has.new w _ _).kp hk2 (by omega))
         (have hlR2 := hR2.lt)
         (simp only [tkv, bsJournal]))
      | (go_at_call 66; refine at_argP 1 (.func (.func 38) #[] #[]) rfl ?_; refine (htk2 _ ((hp2.new _).new _)).mono ?_; rintro e w3 ⟨hk3, rfl⟩))
    exact ⟨rfl, (kp_new (b_one _ _) hk2).trans (kp_new (b_two _ _ _) hk3), rfl⟩
  | ok ur =>
    obtain ⟨u, r2⟩ := ur
    rw [hT2] at htk2
    rw [stmt_three hT1 hT2]
    have hrest : prest (⟨K, wJournal, M⟩ : Tk).s = pnum := restJournal
    clear hT1 hT2 h
    have hki : ∀ W, Calls Tryz.prog 68 #[.int .i64 1] W fun e w' => e = .returned (.func (.func 86) #[] #[.pointer (some ⟨W.heap.size, 0, none⟩)]) ∧ w' = W.alloc (.cells #[.int .i64 1] 56) := fun W => isKind_c 1 W
    have htk3 : ∀ W q, PAt W pb r2 en → W.heap.size = q → Calls Tryz.prog 66 #[.pointer (some ⟨pb, 0, none⟩), .func (.func 86) #[] #[.pointer (some ⟨q, 0, none⟩)]] (W.alloc (.cells #[.int .i64 1] 56)) (TRes W pb en (ptake (isKi 1) en r2)) := fun W q h e => e ▸ knd_take 1 h
    cases hT3 : ptake (isKi 1) en r2 with
    | error er =>
      obtain ⟨c, q⟩ := er
      rw [hT3] at htk3
      have HR : Hid _ := after_one (t := (⟨K, wJournal, M⟩, a)) (u := u) (by rw [hrest]; exact pnum_no hT3)
      clear hT3 hrest htk9 hs59
      go_enter Tryz.func53, Tryz.ntmps53
      go_wp2_with (first
        | (go_at_call 67; refine at_argP 0 (.slice _ 6 6) rfl ?_; refine (isWord_c _ _ _ _).mono ?_; rintro e w1 ⟨rfl, rfl⟩)
        | ((go_at_call 66)
           (refine at_argP 1 (.func (.func 84) #[] _) rfl ?_)
           (refine (htk1 _).mono ?_)
           (rintro e w2 ⟨hk2, rfl, hp2⟩)
           (clear htk1)
           (have hR2 : Has w2 w.heap.size 24 #[.string ⟨#[]⟩, .string ⟨#[]⟩, .int .i64 0, .int .i64 0, .slice none 0 0] := (Has.new w _ _).kp hk2 (by omega))
           (have hlR2 := hR2.lt)
           (simp only [tkv, bsJournal]))
        | ((go_at_call 66)
           (refine at_argP 1 (.func (.func 38) #[] #[]) rfl ?_)
           (refine (htk2 _ ((hp2.new _).new _)).mono ?_)
           (rintro e w3 ⟨hk3, rfl, hp3⟩)
           (have hN3 : Has w3 (w2.heap.size + 1) 24 #[.string ⟨#[106, 111, 117, 114, 110, 97, 108]⟩, .string ⟨#[]⟩, .int .i64 0, .int .i64 (a : Nat), .slice none 0 0] := (Has.kp (by (have := Has.new (w2.alloc (.cells #[.int .i64 (K : Nat), .string ⟨#[106, 111, 117, 114, 110, 97, 108]⟩, .int .i64 (M : Nat), .int .i64 (a : Nat)] 58)) 24 #[.string ⟨#[106, 111, 117, 114, 110, 97, 108]⟩, .string ⟨#[]⟩, .int .i64 0, .int .i64 (a : Nat), .slice none 0 0]; simpa using this)) hk3 (by omega)))
           (have n0 := hN3.cell 0)
           (have m0 := hN3.free 0)
           (have n1 := hN3.cell 1)
           (have m1 := hN3.free 1)
           (have n2 := hN3.cell 2)
           (have m2 := hN3.free 2)
           (have n3 := hN3.cell 3)
           (have m3 := hN3.free 3)
           (have n4 := hN3.cell 4)
           (have m4 := hN3.free 4)
           (have hlN := hN3.lt)
           (have hR3 := ((hR2.alloc _).alloc _).kp hk3 (by omega))
           (have hK3 : Kp pb w w3 := (kp_new (b_one _ _) hk2).trans (kp_new (b_two _ _ _) hk3))
           (have hpN : pb < w2.heap.size + 1 := by omega)
           (have hwN : w.heap.size ≤ w2.heap.size + 1 := by omega)
           (have hneR : w.heap.size ≠ w2.heap.size + 1 := by omega)
           (simp only [tkv]))
        | ((refine at_dstL 18 rfl ?_)
           (refine wpList_is (some 18) (.string (bs u.1.s)) rfl rfl (by kernel_rfl) ?_))
        | (go_at_call 68; refine (hki _).mono ?_; rintro e w1 ⟨rfl, rfl⟩)
        | (go_at_call 66; refine at_argP 1 (.func (.func 86) #[] _) rfl ?_; refine (htk3 _ _ (hp3.set (q := ⟨w2.heap.size + 1, 1, none⟩) hpN _) (by simp)).mono ?_; rintro e w4 ⟨hk4, rfl⟩))
      exact ⟨rfl, (hK3.setNew (q := ⟨w2.heap.size + 1, 1, none⟩) hwN _).trans hk4, by rw [HR.out]⟩
    | ok xr =>
      obtain ⟨x, r3⟩ := xr
      rw [hT3] at htk3
      cases hT9 : ptake (isSg [59]) en r3 with
      | error er =>
        obtain ⟨c9, q9⟩ := er
        have htk9 := fun W q h e => htk9 (r := r3) W q h e
        rw [hT9] at htk9
        have HR : Hid _ := after_two (t := (⟨K, wJournal, M⟩, a)) (u := u) (by rw [hrest]; exact pnum_ok hT3) hT9
        clear hT9 hT3 hrest
        go_enter Tryz.func53, Tryz.ntmps53
        go_wp2_with (first
            | (go_at_call 67; refine at_argP 0 (.slice _ 6 6) rfl ?_; refine (isWord_c _ _ _ _).mono ?_; rintro e w1 ⟨rfl, rfl⟩)
            | ((go_at_call 66)
               (refine at_argP 1 (.func (.func 84) #[] _) rfl ?_)
               (refine (htk1 _).mono ?_)
               (rintro e w2 ⟨hk2, rfl, hp2⟩)
               (clear htk1)
               (have hR2 : Has w2 w.heap.size 24 #[.string ⟨#[]⟩, .string ⟨#[]⟩, .int .i64 0, .int .i64 0, .slice none 0 0] := (Has.new w _ _).kp hk2 (by omega))
               (have hlR2 := hR2.lt)
               (simp only [tkv, bsJournal]))
            | ((go_at_call 66)
               (refine at_argP 1 (.func (.func 38) #[] #[]) rfl ?_)
               (refine (htk2 _ ((hp2.new _).new _)).mono ?_)
               (rintro e w3 ⟨hk3, rfl, hp3⟩)
               (have hN3 : Has w3 (w2.heap.size + 1) 24 #[.string ⟨#[106, 111, 117, 114, 110, 97, 108]⟩, .string ⟨#[]⟩, .int .i64 0, .int .i64 (a : Nat), .slice none 0 0] := (Has.kp (by (have := Has.new (w2.alloc (.cells #[.int .i64 (K : Nat), .string ⟨#[106, 111, 117, 114, 110, 97, 108]⟩, .int .i64 (M : Nat), .int .i64 (a : Nat)] 58)) 24 #[.string ⟨#[106, 111, 117, 114, 110, 97, 108]⟩, .string ⟨#[]⟩, .int .i64 0, .int .i64 (a : Nat), .slice none 0 0]; simpa using this)) hk3 (by omega)))
               (have n0 := hN3.cell 0)
               (have m0 := hN3.free 0)
               (have n1 := hN3.cell 1)
               (have m1 := hN3.free 1)
               (have n2 := hN3.cell 2)
               (have m2 := hN3.free 2)
               (have n3 := hN3.cell 3)
               (have m3 := hN3.free 3)
               (have n4 := hN3.cell 4)
               (have m4 := hN3.free 4)
               (have hlN := hN3.lt)
               (have hR3 := ((hR2.alloc _).alloc _).kp hk3 (by omega))
               (have hK3 : Kp pb w w3 := (kp_new (b_one _ _) hk2).trans (kp_new (b_two _ _ _) hk3))
               (have hpN : pb < w2.heap.size + 1 := by omega)
               (have hwN : w.heap.size ≤ w2.heap.size + 1 := by omega)
               (have hneR : w.heap.size ≠ w2.heap.size + 1 := by omega)
               (simp only [tkv]))
            | ((refine at_dstL 18 rfl ?_)
               (refine wpList_is (some 18) (.string (bs u.1.s)) rfl rfl (by kernel_rfl) ?_))
            | (go_at_call 68; refine (hki _).mono ?_; rintro e w1 ⟨rfl, rfl⟩)
            | ((go_at_call 66)
               (refine at_argP 1 (.func (.func 86) #[] _) rfl ?_)
               (refine (htk3 _ _ (hp3.set (q := ⟨w2.heap.size + 1, 1, none⟩) hpN _) (by simp)).mono ?_)
               (rintro e w4 ⟨hk4, rfl, hp4⟩)
               (have hN4 := (hN3.putP 1 _).kp hk4 (by omega))
               (have hR4 := (hR3.other (p := ⟨w2.heap.size + 1, 1, none⟩) hneR _).kp hk4 (by omega))
               (have hK4 := (hK3.setNew (q := ⟨w2.heap.size + 1, 1, none⟩) hwN _).trans hk4)
               (have y0 := hN4.cell 0)
               (have z0 := hN4.free 0)
               (have y1 := hN4.cell 1)
               (have z1 := hN4.free 1)
               (have y2 := hN4.cell 2)
               (have z2 := hN4.free 2)
               (have y3 := hN4.cell 3)
               (have z3 := hN4.free 3)
               (have y4 := hN4.cell 4)
               (have z4 := hN4.free 4)
               (have hlN4 := hN4.lt)
               (have hlR4 := hR4.lt)
               (simp only [tkv]))
            | ((refine at_dstL 28 rfl ?_)
               (refine wpList_is (some 28) (.int .i64 (x.1.n : Nat)) rfl rfl (by kernel_rfl) ?_))
            | (go_at_call 69; refine at_argP 0 (.string ⟨#[59]⟩) rfl ?_; refine (hs59 _).mono ?_; rintro e w1 ⟨rfl, rfl⟩)
            | (go_at_call 66; refine at_argP 1 (.func (.func 87) #[] _) rfl ?_; refine (htk9 _ _ (hp4.set (q := ⟨w2.heap.size + 1, 2, none⟩) hpN _) (by simp)).mono ?_; rintro e w9 ⟨hk9, rfl⟩))
        exact ⟨rfl, (hK4.setNew (q := ⟨w2.heap.size + 1, 2, none⟩) hwN _).trans hk9, by rw [HR.out]⟩
      | ok yr =>
        obtain ⟨y9, r9⟩ := yr
        have htk9 := fun W q h e => htk9 (r := r3) W q h e
        rw [hT9] at htk9
        have HR : Hid _ := after_ok (t := (⟨K, wJournal, M⟩, a)) (u := u) (by rw [hrest]; exact pnum_ok hT3) hT9
        clear hT9 hT3 hrest
        go_enter Tryz.func53, Tryz.ntmps53
        go_wp2_with (first
            | (go_at_call 67; refine at_argP 0 (.slice _ 6 6) rfl ?_; refine (isWord_c _ _ _ _).mono ?_; rintro e w1 ⟨rfl, rfl⟩)
            | ((go_at_call 66)
               (refine at_argP 1 (.func (.func 84) #[] _) rfl ?_)
               (refine (htk1 _).mono ?_)
               (rintro e w2 ⟨hk2, rfl, hp2⟩)
               (clear htk1)
               (have hR2 : Has w2 w.heap.size 24 #[.string ⟨#[]⟩, .string ⟨#[]⟩, .int .i64 0, .int .i64 0, .slice none 0 0] := (Has.new w _ _).kp hk2 (by omega))
               (have hlR2 := hR2.lt)
               (simp only [tkv, bsJournal]))
            | ((go_at_call 66)
               (refine at_argP 1 (.func (.func 38) #[] #[]) rfl ?_)
               (refine (htk2 _ ((hp2.new _).new _)).mono ?_)
               (rintro e w3 ⟨hk3, rfl, hp3⟩)
               (have hN3 : Has w3 (w2.heap.size + 1) 24 #[.string ⟨#[106, 111, 117, 114, 110, 97, 108]⟩, .string ⟨#[]⟩, .int .i64 0, .int .i64 (a : Nat), .slice none 0 0] := (Has.kp (by (have := Has.new (w2.alloc (.cells #[.int .i64 (K : Nat), .string ⟨#[106, 111, 117, 114, 110, 97, 108]⟩, .int .i64 (M : Nat), .int .i64 (a : Nat)] 58)) 24 #[.string ⟨#[106, 111, 117, 114, 110, 97, 108]⟩, .string ⟨#[]⟩, .int .i64 0, .int .i64 (a : Nat), .slice none 0 0]; simpa using this)) hk3 (by omega)))
               (have n0 := hN3.cell 0)
               (have m0 := hN3.free 0)
               (have n1 := hN3.cell 1)
               (have m1 := hN3.free 1)
               (have n2 := hN3.cell 2)
               (have m2 := hN3.free 2)
               (have n3 := hN3.cell 3)
               (have m3 := hN3.free 3)
               (have n4 := hN3.cell 4)
               (have m4 := hN3.free 4)
               (have hlN := hN3.lt)
               (have hR3 := ((hR2.alloc _).alloc _).kp hk3 (by omega))
               (have hK3 : Kp pb w w3 := (kp_new (b_one _ _) hk2).trans (kp_new (b_two _ _ _) hk3))
               (have hpN : pb < w2.heap.size + 1 := by omega)
               (have hwN : w.heap.size ≤ w2.heap.size + 1 := by omega)
               (have hneR : w.heap.size ≠ w2.heap.size + 1 := by omega)
               (simp only [tkv]))
            | ((refine at_dstL 18 rfl ?_)
               (refine wpList_is (some 18) (.string (bs u.1.s)) rfl rfl (by kernel_rfl) ?_))
            | (go_at_call 68; refine (hki _).mono ?_; rintro e w1 ⟨rfl, rfl⟩)
            | ((go_at_call 66)
               (refine at_argP 1 (.func (.func 86) #[] _) rfl ?_)
               (refine (htk3 _ _ (hp3.set (q := ⟨w2.heap.size + 1, 1, none⟩) hpN _) (by simp)).mono ?_)
               (rintro e w4 ⟨hk4, rfl, hp4⟩)
               (have hN4 := (hN3.putP 1 _).kp hk4 (by omega))
               (have hR4 := (hR3.other (p := ⟨w2.heap.size + 1, 1, none⟩) hneR _).kp hk4 (by omega))
               (have hK4 := (hK3.setNew (q := ⟨w2.heap.size + 1, 1, none⟩) hwN _).trans hk4)
               (have y0 := hN4.cell 0)
               (have z0 := hN4.free 0)
               (have y1 := hN4.cell 1)
               (have z1 := hN4.free 1)
               (have y2 := hN4.cell 2)
               (have z2 := hN4.free 2)
               (have y3 := hN4.cell 3)
               (have z3 := hN4.free 3)
               (have y4 := hN4.cell 4)
               (have z4 := hN4.free 4)
               (have hlN4 := hN4.lt)
               (have hlR4 := hR4.lt)
               (simp only [tkv]))
            | ((refine at_dstL 28 rfl ?_)
               (refine wpList_is (some 28) (.int .i64 (x.1.n : Nat)) rfl rfl (by kernel_rfl) ?_))
            | (go_at_call 69; refine at_argP 0 (.string ⟨#[59]⟩) rfl ?_; refine (hs59 _).mono ?_; rintro e w1 ⟨rfl, rfl⟩)
            | ((go_at_call 66)
               (refine at_argP 1 (.func (.func 87) #[] _) rfl ?_)
               (refine (htk9 _ _ (hp4.set (q := ⟨w2.heap.size + 1, 2, none⟩) hpN _) (by simp)).mono ?_)
               (rintro e w9 ⟨hk9, rfl, hp9⟩)
               (have hN9 := (hN4.putP 2 _).kp hk9 (by omega))
               (have hR9 := (hR4.other (p := ⟨w2.heap.size + 1, 2, none⟩) hneR _).kp hk9 (by omega))
               (have hK9 : Kp pb w w9 := (hK4.setNew (q := ⟨w2.heap.size + 1, 2, none⟩) hwN _).trans hk9)
               (have x0 := hN9.cell 0)
               (have r0 := hR9.cell 0)
               (have f0 := hR9.free 0)
               (have x1 := hN9.cell 1)
               (have r1 := hR9.cell 1)
               (have f1 := hR9.free 1)
               (have x2 := hN9.cell 2)
               (have r2 := hR9.cell 2)
               (have f2 := hR9.free 2)
               (have x3 := hN9.cell 3)
               (have r3 := hR9.cell 3)
               (have f3 := hR9.free 3)
               (have x4 := hN9.cell 4)
               (have r4 := hR9.cell 4)
               (have f4 := hR9.free 4)
               (have hlN9 := hN9.lt)
               (have hlR9 := hR9.lt)))
        refine ret_node rfl rfl (hR9.set5 _ _ _ _ _) rfl ⟨hK9.set5 (Nat.le_refl _) _ _ _ _ _, ?_⟩
        rw [HR.out]
        exact ⟨none, 0, rfl, NdR.nil _ _, hp9.set5 hlt _ _ _ _ _⟩
end Go.Proofs.YtpckmllmjdafpaaGreatDoor

/- A statement: Key. -/
namespace Go.Proofs.YtpckmllmjdafpaaGreatDoor
open Go.ChangeShapes Go.WideShapes Go.ChangeAt Go.RowKit
set_option linter.unusedVariables false

set_option maxRecDepth 100000 in
set_option maxHeartbeats 4000000 in
theorem stmtKey_c (pb en : Nat) (w : World) (ts r1 : Toks) (K M a : Nat) (h : PAt w pb ts en) (hT1 : ptake (isWd stmts) en ts = .ok ((⟨K, wKey, M⟩, a), r1)) :
    Calls Tryz.prog 53 #[.pointer (some ⟨pb, 0, none⟩)] w (PRes w pb en (pstmt en ts)) := by
  have hlt := h.lt
  have htk1 := fun o => first_take w o h
  have htk2 := fun W (h : PAt W pb r1 en) => take_c h Ask.nm
  have hs59 : ∀ W, Calls Tryz.prog 69 #[.string ⟨#[59]⟩] W fun e w' => e = .returned (.func (.func 87) #[] #[.pointer (some ⟨W.heap.size, 0, none⟩)]) ∧ w' = W.alloc (.cells #[.string ⟨#[59]⟩] 9) := fun W => isSign_c [59] W
  have htk9 : ∀ {r : Toks} W q, PAt W pb r en → W.heap.size = q → Calls Tryz.prog 66 #[.pointer (some ⟨pb, 0, none⟩), .func (.func 87) #[] #[.pointer (some ⟨q, 0, none⟩)]] (W.alloc (.cells #[.string ⟨#[59]⟩] 9)) (TRes W pb en (ptake (isSg [59]) en r)) := fun W q h e => e ▸ sgn_take [59] h
  rw [hT1] at htk1
  cases hT2 : ptake isNm en r1 with
  | error er =>
    obtain ⟨c, q⟩ := er
    rw [hT2] at htk2
    rw [stmt_two hT1 hT2]
    clear hT1 hT2 h htk9 hs59
    go_enter Tryz.func53, Tryz.ntmps53
    go_wp2_with (first
      | (go_at_call 67; refine at_argP 0 (.slice _ 6 6) rfl ?_; refine (isWord_c _ _ _ _).mono ?_; rintro e w1 ⟨rfl, rfl⟩)
      | ((go_at_call 66)
         (refine at_argP 1 (.func (.func 84) #[] _) rfl ?_)
         (refine (htk1 _).mono ?_)
         (rintro e w2 ⟨hk2, rfl, hp2⟩)
         (clear htk1)
         (have hR2 : Has w2 w.heap.size 24 #[.string ⟨#[]⟩, .string ⟨#[]⟩, .int .i64 0, .int .i64 0, .slice none 0 0] := (Has.new w _ _).kp hk2 (by omega))
         (have hlR2 := hR2.lt)
         (simp only [tkv, bsKey]))
      | (go_at_call 66; refine at_argP 1 (.func (.func 38) #[] #[]) rfl ?_; refine (htk2 _ ((hp2.new _).new _)).mono ?_; rintro e w3 ⟨hk3, rfl⟩))
    exact ⟨rfl, (kp_new (b_one _ _) hk2).trans (kp_new (b_two _ _ _) hk3), rfl⟩
  | ok ur =>
    obtain ⟨u, r2⟩ := ur
    rw [hT2] at htk2
    rw [stmt_three hT1 hT2]
    have hrest : prest (⟨K, wKey, M⟩ : Tk).s = phex := restKey
    clear hT1 hT2 h
    have hki : ∀ W, Calls Tryz.prog 68 #[.int .i64 2] W fun e w' => e = .returned (.func (.func 86) #[] #[.pointer (some ⟨W.heap.size, 0, none⟩)]) ∧ w' = W.alloc (.cells #[.int .i64 2] 56) := fun W => isKind_c 2 W
    have htk3 : ∀ W q, PAt W pb r2 en → W.heap.size = q → Calls Tryz.prog 66 #[.pointer (some ⟨pb, 0, none⟩), .func (.func 86) #[] #[.pointer (some ⟨q, 0, none⟩)]] (W.alloc (.cells #[.int .i64 2] 56)) (TRes W pb en (ptake (isKi 2) en r2)) := fun W q h e => e ▸ knd_take 2 h
    cases hT3 : ptake (isKi 2) en r2 with
    | error er =>
      obtain ⟨c, q⟩ := er
      rw [hT3] at htk3
      have HR : Hid _ := after_one (t := (⟨K, wKey, M⟩, a)) (u := u) (by rw [hrest]; exact phex_no hT3)
      clear hT3 hrest htk9 hs59
      go_enter Tryz.func53, Tryz.ntmps53
      go_wp2_with (first
        | (go_at_call 67; refine at_argP 0 (.slice _ 6 6) rfl ?_; refine (isWord_c _ _ _ _).mono ?_; rintro e w1 ⟨rfl, rfl⟩)
        | ((go_at_call 66)
           (refine at_argP 1 (.func (.func 84) #[] _) rfl ?_)
           (refine (htk1 _).mono ?_)
           (rintro e w2 ⟨hk2, rfl, hp2⟩)
           (clear htk1)
           (have hR2 : Has w2 w.heap.size 24 #[.string ⟨#[]⟩, .string ⟨#[]⟩, .int .i64 0, .int .i64 0, .slice none 0 0] := (Has.new w _ _).kp hk2 (by omega))
           (have hlR2 := hR2.lt)
           (simp only [tkv, bsKey]))
        | ((go_at_call 66)
           (refine at_argP 1 (.func (.func 38) #[] #[]) rfl ?_)
           (refine (htk2 _ ((hp2.new _).new _)).mono ?_)
           (rintro e w3 ⟨hk3, rfl, hp3⟩)
           (have hN3 : Has w3 (w2.heap.size + 1) 24 #[.string ⟨#[107, 101, 121]⟩, .string ⟨#[]⟩, .int .i64 0, .int .i64 (a : Nat), .slice none 0 0] := (Has.kp (by (have := Has.new (w2.alloc (.cells #[.int .i64 (K : Nat), .string ⟨#[107, 101, 121]⟩, .int .i64 (M : Nat), .int .i64 (a : Nat)] 58)) 24 #[.string ⟨#[107, 101, 121]⟩, .string ⟨#[]⟩, .int .i64 0, .int .i64 (a : Nat), .slice none 0 0]; simpa using this)) hk3 (by omega)))
           (have n0 := hN3.cell 0)
           (have m0 := hN3.free 0)
           (have n1 := hN3.cell 1)
           (have m1 := hN3.free 1)
           (have n2 := hN3.cell 2)
           (have m2 := hN3.free 2)
           (have n3 := hN3.cell 3)
           (have m3 := hN3.free 3)
           (have n4 := hN3.cell 4)
           (have m4 := hN3.free 4)
           (have hlN := hN3.lt)
           (have hR3 := ((hR2.alloc _).alloc _).kp hk3 (by omega))
           (have hK3 : Kp pb w w3 := (kp_new (b_one _ _) hk2).trans (kp_new (b_two _ _ _) hk3))
           (have hpN : pb < w2.heap.size + 1 := by omega)
           (have hwN : w.heap.size ≤ w2.heap.size + 1 := by omega)
           (have hneR : w.heap.size ≠ w2.heap.size + 1 := by omega)
           (simp only [tkv]))
        | ((refine at_dstL 18 rfl ?_)
           (refine wpList_is (some 18) (.string (bs u.1.s)) rfl rfl (by kernel_rfl) ?_))
        | (go_at_call 68; refine (hki _).mono ?_; rintro e w1 ⟨rfl, rfl⟩)
        | (go_at_call 66; refine at_argP 1 (.func (.func 86) #[] _) rfl ?_; refine (htk3 _ _ (hp3.set (q := ⟨w2.heap.size + 1, 1, none⟩) hpN _) (by simp)).mono ?_; rintro e w4 ⟨hk4, rfl⟩))
      exact ⟨rfl, (hK3.setNew (q := ⟨w2.heap.size + 1, 1, none⟩) hwN _).trans hk4, by rw [HR.out]⟩
    | ok xr =>
      obtain ⟨x, r3⟩ := xr
      rw [hT3] at htk3
      cases hT9 : ptake (isSg [59]) en r3 with
      | error er =>
        obtain ⟨c9, q9⟩ := er
        have htk9 := fun W q h e => htk9 (r := r3) W q h e
        rw [hT9] at htk9
        have HR : Hid _ := after_two (t := (⟨K, wKey, M⟩, a)) (u := u) (by rw [hrest]; exact phex_ok hT3) hT9
        clear hT9 hT3 hrest
        go_enter Tryz.func53, Tryz.ntmps53
        go_wp2_with (first
            | (go_at_call 67; refine at_argP 0 (.slice _ 6 6) rfl ?_; refine (isWord_c _ _ _ _).mono ?_; rintro e w1 ⟨rfl, rfl⟩)
            | ((go_at_call 66)
               (refine at_argP 1 (.func (.func 84) #[] _) rfl ?_)
               (refine (htk1 _).mono ?_)
               (rintro e w2 ⟨hk2, rfl, hp2⟩)
               (clear htk1)
               (have hR2 : Has w2 w.heap.size 24 #[.string ⟨#[]⟩, .string ⟨#[]⟩, .int .i64 0, .int .i64 0, .slice none 0 0] := (Has.new w _ _).kp hk2 (by omega))
               (have hlR2 := hR2.lt)
               (simp only [tkv, bsKey]))
            | ((go_at_call 66)
               (refine at_argP 1 (.func (.func 38) #[] #[]) rfl ?_)
               (refine (htk2 _ ((hp2.new _).new _)).mono ?_)
               (rintro e w3 ⟨hk3, rfl, hp3⟩)
               (have hN3 : Has w3 (w2.heap.size + 1) 24 #[.string ⟨#[107, 101, 121]⟩, .string ⟨#[]⟩, .int .i64 0, .int .i64 (a : Nat), .slice none 0 0] := (Has.kp (by (have := Has.new (w2.alloc (.cells #[.int .i64 (K : Nat), .string ⟨#[107, 101, 121]⟩, .int .i64 (M : Nat), .int .i64 (a : Nat)] 58)) 24 #[.string ⟨#[107, 101, 121]⟩, .string ⟨#[]⟩, .int .i64 0, .int .i64 (a : Nat), .slice none 0 0]; simpa using this)) hk3 (by omega)))
               (have n0 := hN3.cell 0)
               (have m0 := hN3.free 0)
               (have n1 := hN3.cell 1)
               (have m1 := hN3.free 1)
               (have n2 := hN3.cell 2)
               (have m2 := hN3.free 2)
               (have n3 := hN3.cell 3)
               (have m3 := hN3.free 3)
               (have n4 := hN3.cell 4)
               (have m4 := hN3.free 4)
               (have hlN := hN3.lt)
               (have hR3 := ((hR2.alloc _).alloc _).kp hk3 (by omega))
               (have hK3 : Kp pb w w3 := (kp_new (b_one _ _) hk2).trans (kp_new (b_two _ _ _) hk3))
               (have hpN : pb < w2.heap.size + 1 := by omega)
               (have hwN : w.heap.size ≤ w2.heap.size + 1 := by omega)
               (have hneR : w.heap.size ≠ w2.heap.size + 1 := by omega)
               (simp only [tkv]))
            | ((refine at_dstL 18 rfl ?_)
               (refine wpList_is (some 18) (.string (bs u.1.s)) rfl rfl (by kernel_rfl) ?_))
            | (go_at_call 68; refine (hki _).mono ?_; rintro e w1 ⟨rfl, rfl⟩)
            | ((go_at_call 66)
               (refine at_argP 1 (.func (.func 86) #[] _) rfl ?_)
               (refine (htk3 _ _ (hp3.set (q := ⟨w2.heap.size + 1, 1, none⟩) hpN _) (by simp)).mono ?_)
               (rintro e w4 ⟨hk4, rfl, hp4⟩)
               (have hN4 := (hN3.putP 1 _).kp hk4 (by omega))
               (have hR4 := (hR3.other (p := ⟨w2.heap.size + 1, 1, none⟩) hneR _).kp hk4 (by omega))
               (have hK4 := (hK3.setNew (q := ⟨w2.heap.size + 1, 1, none⟩) hwN _).trans hk4)
               (have y0 := hN4.cell 0)
               (have z0 := hN4.free 0)
               (have y1 := hN4.cell 1)
               (have z1 := hN4.free 1)
               (have y2 := hN4.cell 2)
               (have z2 := hN4.free 2)
               (have y3 := hN4.cell 3)
               (have z3 := hN4.free 3)
               (have y4 := hN4.cell 4)
               (have z4 := hN4.free 4)
               (have hlN4 := hN4.lt)
               (have hlR4 := hR4.lt)
               (have hz24 : w2.heap.size ≠ w4.heap.size := by omega)
               (have hz25 : w2.heap.size < w4.heap.size := by omega)
               (simp only [tkv]))
            | (go_at_call 69; refine at_argP 0 (.string ⟨#[59]⟩) rfl ?_; refine (hs59 _).mono ?_; rintro e w1 ⟨rfl, rfl⟩)
            | (go_at_call 66; refine at_argP 1 (.func (.func 87) #[] _) rfl ?_; refine (htk9 _ _ (((hp4.set (q := ⟨w2.heap.size + 1, 4, none⟩) hpN _).new _).new _) (by simp)).mono ?_; rintro e w9 ⟨hk9, rfl⟩))
        exact ⟨rfl, (((hK4.setNew (q := ⟨w2.heap.size + 1, 4, none⟩) hwN _).alloc _).alloc _).trans hk9, by rw [HR.out]⟩
      | ok yr =>
        obtain ⟨y9, r9⟩ := yr
        have htk9 := fun W q h e => htk9 (r := r3) W q h e
        rw [hT9] at htk9
        have HR : Hid _ := after_ok (t := (⟨K, wKey, M⟩, a)) (u := u) (by rw [hrest]; exact phex_ok hT3) hT9
        clear hT9 hT3 hrest
        go_enter Tryz.func53, Tryz.ntmps53
        go_wp2_with (first
            | (go_at_call 67; refine at_argP 0 (.slice _ 6 6) rfl ?_; refine (isWord_c _ _ _ _).mono ?_; rintro e w1 ⟨rfl, rfl⟩)
            | ((go_at_call 66)
               (refine at_argP 1 (.func (.func 84) #[] _) rfl ?_)
               (refine (htk1 _).mono ?_)
               (rintro e w2 ⟨hk2, rfl, hp2⟩)
               (clear htk1)
               (have hR2 : Has w2 w.heap.size 24 #[.string ⟨#[]⟩, .string ⟨#[]⟩, .int .i64 0, .int .i64 0, .slice none 0 0] := (Has.new w _ _).kp hk2 (by omega))
               (have hlR2 := hR2.lt)
               (simp only [tkv, bsKey]))
            | ((go_at_call 66)
               (refine at_argP 1 (.func (.func 38) #[] #[]) rfl ?_)
               (refine (htk2 _ ((hp2.new _).new _)).mono ?_)
               (rintro e w3 ⟨hk3, rfl, hp3⟩)
               (have hN3 : Has w3 (w2.heap.size + 1) 24 #[.string ⟨#[107, 101, 121]⟩, .string ⟨#[]⟩, .int .i64 0, .int .i64 (a : Nat), .slice none 0 0] := (Has.kp (by (have := Has.new (w2.alloc (.cells #[.int .i64 (K : Nat), .string ⟨#[107, 101, 121]⟩, .int .i64 (M : Nat), .int .i64 (a : Nat)] 58)) 24 #[.string ⟨#[107, 101, 121]⟩, .string ⟨#[]⟩, .int .i64 0, .int .i64 (a : Nat), .slice none 0 0]; simpa using this)) hk3 (by omega)))
               (have n0 := hN3.cell 0)
               (have m0 := hN3.free 0)
               (have n1 := hN3.cell 1)
               (have m1 := hN3.free 1)
               (have n2 := hN3.cell 2)
               (have m2 := hN3.free 2)
               (have n3 := hN3.cell 3)
               (have m3 := hN3.free 3)
               (have n4 := hN3.cell 4)
               (have m4 := hN3.free 4)
               (have hlN := hN3.lt)
               (have hR3 := ((hR2.alloc _).alloc _).kp hk3 (by omega))
               (have hK3 : Kp pb w w3 := (kp_new (b_one _ _) hk2).trans (kp_new (b_two _ _ _) hk3))
               (have hpN : pb < w2.heap.size + 1 := by omega)
               (have hwN : w.heap.size ≤ w2.heap.size + 1 := by omega)
               (have hneR : w.heap.size ≠ w2.heap.size + 1 := by omega)
               (simp only [tkv]))
            | ((refine at_dstL 18 rfl ?_)
               (refine wpList_is (some 18) (.string (bs u.1.s)) rfl rfl (by kernel_rfl) ?_))
            | (go_at_call 68; refine (hki _).mono ?_; rintro e w1 ⟨rfl, rfl⟩)
            | ((go_at_call 66)
               (refine at_argP 1 (.func (.func 86) #[] _) rfl ?_)
               (refine (htk3 _ _ (hp3.set (q := ⟨w2.heap.size + 1, 1, none⟩) hpN _) (by simp)).mono ?_)
               (rintro e w4 ⟨hk4, rfl, hp4⟩)
               (have hN4 := (hN3.putP 1 _).kp hk4 (by omega))
               (have hR4 := (hR3.other (p := ⟨w2.heap.size + 1, 1, none⟩) hneR _).kp hk4 (by omega))
               (have hK4 := (hK3.setNew (q := ⟨w2.heap.size + 1, 1, none⟩) hwN _).trans hk4)
               (have y0 := hN4.cell 0)
               (have z0 := hN4.free 0)
               (have y1 := hN4.cell 1)
               (have z1 := hN4.free 1)
               (have y2 := hN4.cell 2)
               (have z2 := hN4.free 2)
               (have y3 := hN4.cell 3)
               (have z3 := hN4.free 3)
               (have y4 := hN4.cell 4)
               (have z4 := hN4.free 4)
               (have hlN4 := hN4.lt)
               (have hlR4 := hR4.lt)
               (have hz24 : w2.heap.size ≠ w4.heap.size := by omega)
               (have hz25 : w2.heap.size < w4.heap.size := by omega)
               (simp only [tkv]))
            | (go_at_call 69; refine at_argP 0 (.string ⟨#[59]⟩) rfl ?_; refine (hs59 _).mono ?_; rintro e w1 ⟨rfl, rfl⟩)
            | ((go_at_call 66)
               (refine at_argP 1 (.func (.func 87) #[] _) rfl ?_)
               (refine (htk9 _ _ (((hp4.set (q := ⟨w2.heap.size + 1, 4, none⟩) hpN _).new _).new _) (by simp)).mono ?_)
               (rintro e w9 ⟨hk9, rfl, hp9⟩)
               (have hN9 := (((hN4.putP 4 _).alloc _).alloc _).kp hk9 (by omega))
               (have hR9 := (((hR4.other (p := ⟨w2.heap.size + 1, 4, none⟩) hneR _).alloc _).alloc _).kp hk9 (by omega))
               (have hK9 : Kp pb w w9 := (((hK4.setNew (q := ⟨w2.heap.size + 1, 4, none⟩) hwN _).alloc _).alloc _).trans hk9)
               (have x0 := hN9.cell 0)
               (have r0 := hR9.cell 0)
               (have f0 := hR9.free 0)
               (have x1 := hN9.cell 1)
               (have r1 := hR9.cell 1)
               (have f1 := hR9.free 1)
               (have x2 := hN9.cell 2)
               (have r2 := hR9.cell 2)
               (have f2 := hR9.free 2)
               (have x3 := hN9.cell 3)
               (have r3 := hR9.cell 3)
               (have f3 := hR9.free 3)
               (have x4 := hN9.cell 4)
               (have r4 := hR9.cell 4)
               (have f4 := hR9.free 4)
               (have hlN9 := hN9.lt)
               (have hlR9 := hR9.lt)))
        refine ret_node rfl rfl (hR9.set5 _ _ _ _ _) rfl ⟨hK9.set5 (Nat.le_refl _) _ _ _ _ _, ?_⟩
        rw [HR.out]
        exact ⟨some ⟨w4.heap.size + 1, 0, none⟩, 1, rfl, ((NdR.single (P := fun g => w4.heap.size ≤ g) (n := (.mk wHex x.1.s 0 x.2 [])) (v := .slice none 0 0) (G := w4.heap.size + 1) (Has.kp (by have := Has.new ((w4.setCell ⟨w2.heap.size + 1, 4, none⟩ (.slice (some ⟨w4.heap.size + 1, 0, none⟩) 1 1)).alloc (.cells (tkv x.1 x.2) 58)) 24 (ndc (.mk wHex x.1.s 0 x.2 []) (.slice none 0 0)); rw [show ((w4.setCell ⟨w2.heap.size + 1, 4, none⟩ (.slice (some ⟨w4.heap.size + 1, 0, none⟩) 1 1)).alloc (.cells (tkv x.1 x.2) 58)).heap.size = w4.heap.size + 1 by simp] at this; exact this) hk9 (by omega)) (by omega) (NdR.nil _ _)).set5 (fun k hk => by omega) _ _ _ _ _).mono (fun g hg => by omega), hp9.set5 hlt _ _ _ _ _⟩
end Go.Proofs.YtpckmllmjdafpaaGreatDoor

/- A statement: Root. -/
namespace Go.Proofs.YtpckmllmjdafpaaGreatDoor
open Go.ChangeShapes Go.WideShapes Go.ChangeAt Go.RowKit
set_option linter.unusedVariables false

set_option maxRecDepth 100000 in
set_option maxHeartbeats 4000000 in
theorem stmtRoot_c (pb en : Nat) (w : World) (ts r1 : Toks) (K M a : Nat) (h : PAt w pb ts en) (hT1 : ptake (isWd stmts) en ts = .ok ((⟨K, wRoot, M⟩, a), r1)) :
    Calls Tryz.prog 53 #[.pointer (some ⟨pb, 0, none⟩)] w (PRes w pb en (pstmt en ts)) := by
  have hlt := h.lt
  have htk1 := fun o => first_take w o h
  have htk2 := fun W (h : PAt W pb r1 en) => take_c h Ask.nm
  have hs59 : ∀ W, Calls Tryz.prog 69 #[.string ⟨#[59]⟩] W fun e w' => e = .returned (.func (.func 87) #[] #[.pointer (some ⟨W.heap.size, 0, none⟩)]) ∧ w' = W.alloc (.cells #[.string ⟨#[59]⟩] 9) := fun W => isSign_c [59] W
  have htk9 : ∀ {r : Toks} W q, PAt W pb r en → W.heap.size = q → Calls Tryz.prog 66 #[.pointer (some ⟨pb, 0, none⟩), .func (.func 87) #[] #[.pointer (some ⟨q, 0, none⟩)]] (W.alloc (.cells #[.string ⟨#[59]⟩] 9)) (TRes W pb en (ptake (isSg [59]) en r)) := fun W q h e => e ▸ sgn_take [59] h
  rw [hT1] at htk1
  cases hT2 : ptake isNm en r1 with
  | error er =>
    obtain ⟨c, q⟩ := er
    rw [hT2] at htk2
    rw [stmt_two hT1 hT2]
    clear hT1 hT2 h htk9 hs59
    go_enter Tryz.func53, Tryz.ntmps53
    go_wp2_with (first
      | (go_at_call 67; refine at_argP 0 (.slice _ 6 6) rfl ?_; refine (isWord_c _ _ _ _).mono ?_; rintro e w1 ⟨rfl, rfl⟩)
      | ((go_at_call 66)
         (refine at_argP 1 (.func (.func 84) #[] _) rfl ?_)
         (refine (htk1 _).mono ?_)
         (rintro e w2 ⟨hk2, rfl, hp2⟩)
         (clear htk1)
         (have hR2 : Has w2 w.heap.size 24 #[.string ⟨#[]⟩, .string ⟨#[]⟩, .int .i64 0, .int .i64 0, .slice none 0 0] := (Has.new w _ _).kp hk2 (by omega))
         (have hlR2 := hR2.lt)
         (simp only [tkv, bsRoot]))
      | (go_at_call 66; refine at_argP 1 (.func (.func 38) #[] #[]) rfl ?_; refine (htk2 _ ((hp2.new _).new _)).mono ?_; rintro e w3 ⟨hk3, rfl⟩))
    exact ⟨rfl, (kp_new (b_one _ _) hk2).trans (kp_new (b_two _ _ _) hk3), rfl⟩
  | ok ur =>
    obtain ⟨u, r2⟩ := ur
    rw [hT2] at htk2
    rw [stmt_three hT1 hT2]
    have hrest : prest (⟨K, wRoot, M⟩ : Tk).s = phex := restRoot
    clear hT1 hT2 h
    have hki : ∀ W, Calls Tryz.prog 68 #[.int .i64 2] W fun e w' => e = .returned (.func (.func 86) #[] #[.pointer (some ⟨W.heap.size, 0, none⟩)]) ∧ w' = W.alloc (.cells #[.int .i64 2] 56) := fun W => isKind_c 2 W
    have htk3 : ∀ W q, PAt W pb r2 en → W.heap.size = q → Calls Tryz.prog 66 #[.pointer (some ⟨pb, 0, none⟩), .func (.func 86) #[] #[.pointer (some ⟨q, 0, none⟩)]] (W.alloc (.cells #[.int .i64 2] 56)) (TRes W pb en (ptake (isKi 2) en r2)) := fun W q h e => e ▸ knd_take 2 h
    cases hT3 : ptake (isKi 2) en r2 with
    | error er =>
      obtain ⟨c, q⟩ := er
      rw [hT3] at htk3
      have HR : Hid _ := after_one (t := (⟨K, wRoot, M⟩, a)) (u := u) (by rw [hrest]; exact phex_no hT3)
      clear hT3 hrest htk9 hs59
      go_enter Tryz.func53, Tryz.ntmps53
      go_wp2_with (first
        | (go_at_call 67; refine at_argP 0 (.slice _ 6 6) rfl ?_; refine (isWord_c _ _ _ _).mono ?_; rintro e w1 ⟨rfl, rfl⟩)
        | ((go_at_call 66)
           (refine at_argP 1 (.func (.func 84) #[] _) rfl ?_)
           (refine (htk1 _).mono ?_)
           (rintro e w2 ⟨hk2, rfl, hp2⟩)
           (clear htk1)
           (have hR2 : Has w2 w.heap.size 24 #[.string ⟨#[]⟩, .string ⟨#[]⟩, .int .i64 0, .int .i64 0, .slice none 0 0] := (Has.new w _ _).kp hk2 (by omega))
           (have hlR2 := hR2.lt)
           (simp only [tkv, bsRoot]))
        | ((go_at_call 66)
           (refine at_argP 1 (.func (.func 38) #[] #[]) rfl ?_)
           (refine (htk2 _ ((hp2.new _).new _)).mono ?_)
           (rintro e w3 ⟨hk3, rfl, hp3⟩)
           (have hN3 : Has w3 (w2.heap.size + 1) 24 #[.string ⟨#[114, 111, 111, 116]⟩, .string ⟨#[]⟩, .int .i64 0, .int .i64 (a : Nat), .slice none 0 0] := (Has.kp (by (have := Has.new (w2.alloc (.cells #[.int .i64 (K : Nat), .string ⟨#[114, 111, 111, 116]⟩, .int .i64 (M : Nat), .int .i64 (a : Nat)] 58)) 24 #[.string ⟨#[114, 111, 111, 116]⟩, .string ⟨#[]⟩, .int .i64 0, .int .i64 (a : Nat), .slice none 0 0]; simpa using this)) hk3 (by omega)))
           (have n0 := hN3.cell 0)
           (have m0 := hN3.free 0)
           (have n1 := hN3.cell 1)
           (have m1 := hN3.free 1)
           (have n2 := hN3.cell 2)
           (have m2 := hN3.free 2)
           (have n3 := hN3.cell 3)
           (have m3 := hN3.free 3)
           (have n4 := hN3.cell 4)
           (have m4 := hN3.free 4)
           (have hlN := hN3.lt)
           (have hR3 := ((hR2.alloc _).alloc _).kp hk3 (by omega))
           (have hK3 : Kp pb w w3 := (kp_new (b_one _ _) hk2).trans (kp_new (b_two _ _ _) hk3))
           (have hpN : pb < w2.heap.size + 1 := by omega)
           (have hwN : w.heap.size ≤ w2.heap.size + 1 := by omega)
           (have hneR : w.heap.size ≠ w2.heap.size + 1 := by omega)
           (simp only [tkv]))
        | ((refine at_dstL 18 rfl ?_)
           (refine wpList_is (some 18) (.string (bs u.1.s)) rfl rfl (by kernel_rfl) ?_))
        | (go_at_call 68; refine (hki _).mono ?_; rintro e w1 ⟨rfl, rfl⟩)
        | (go_at_call 66; refine at_argP 1 (.func (.func 86) #[] _) rfl ?_; refine (htk3 _ _ (hp3.set (q := ⟨w2.heap.size + 1, 1, none⟩) hpN _) (by simp)).mono ?_; rintro e w4 ⟨hk4, rfl⟩))
      exact ⟨rfl, (hK3.setNew (q := ⟨w2.heap.size + 1, 1, none⟩) hwN _).trans hk4, by rw [HR.out]⟩
    | ok xr =>
      obtain ⟨x, r3⟩ := xr
      rw [hT3] at htk3
      cases hT9 : ptake (isSg [59]) en r3 with
      | error er =>
        obtain ⟨c9, q9⟩ := er
        have htk9 := fun W q h e => htk9 (r := r3) W q h e
        rw [hT9] at htk9
        have HR : Hid _ := after_two (t := (⟨K, wRoot, M⟩, a)) (u := u) (by rw [hrest]; exact phex_ok hT3) hT9
        clear hT9 hT3 hrest
        go_enter Tryz.func53, Tryz.ntmps53
        go_wp2_with (first
            | (go_at_call 67; refine at_argP 0 (.slice _ 6 6) rfl ?_; refine (isWord_c _ _ _ _).mono ?_; rintro e w1 ⟨rfl, rfl⟩)
            | ((go_at_call 66)
               (refine at_argP 1 (.func (.func 84) #[] _) rfl ?_)
               (refine (htk1 _).mono ?_)
               (rintro e w2 ⟨hk2, rfl, hp2⟩)
               (clear htk1)
               (have hR2 : Has w2 w.heap.size 24 #[.string ⟨#[]⟩, .string ⟨#[]⟩, .int .i64 0, .int .i64 0, .slice none 0 0] := (Has.new w _ _).kp hk2 (by omega))
               (have hlR2 := hR2.lt)
               (simp only [tkv, bsRoot]))
            | ((go_at_call 66)
               (refine at_argP 1 (.func (.func 38) #[] #[]) rfl ?_)
               (refine (htk2 _ ((hp2.new _).new _)).mono ?_)
               (rintro e w3 ⟨hk3, rfl, hp3⟩)
               (have hN3 : Has w3 (w2.heap.size + 1) 24 #[.string ⟨#[114, 111, 111, 116]⟩, .string ⟨#[]⟩, .int .i64 0, .int .i64 (a : Nat), .slice none 0 0] := (Has.kp (by (have := Has.new (w2.alloc (.cells #[.int .i64 (K : Nat), .string ⟨#[114, 111, 111, 116]⟩, .int .i64 (M : Nat), .int .i64 (a : Nat)] 58)) 24 #[.string ⟨#[114, 111, 111, 116]⟩, .string ⟨#[]⟩, .int .i64 0, .int .i64 (a : Nat), .slice none 0 0]; simpa using this)) hk3 (by omega)))
               (have n0 := hN3.cell 0)
               (have m0 := hN3.free 0)
               (have n1 := hN3.cell 1)
               (have m1 := hN3.free 1)
               (have n2 := hN3.cell 2)
               (have m2 := hN3.free 2)
               (have n3 := hN3.cell 3)
               (have m3 := hN3.free 3)
               (have n4 := hN3.cell 4)
               (have m4 := hN3.free 4)
               (have hlN := hN3.lt)
               (have hR3 := ((hR2.alloc _).alloc _).kp hk3 (by omega))
               (have hK3 : Kp pb w w3 := (kp_new (b_one _ _) hk2).trans (kp_new (b_two _ _ _) hk3))
               (have hpN : pb < w2.heap.size + 1 := by omega)
               (have hwN : w.heap.size ≤ w2.heap.size + 1 := by omega)
               (have hneR : w.heap.size ≠ w2.heap.size + 1 := by omega)
               (simp only [tkv]))
            | ((refine at_dstL 18 rfl ?_)
               (refine wpList_is (some 18) (.string (bs u.1.s)) rfl rfl (by kernel_rfl) ?_))
            | (go_at_call 68; refine (hki _).mono ?_; rintro e w1 ⟨rfl, rfl⟩)
            | ((go_at_call 66)
               (refine at_argP 1 (.func (.func 86) #[] _) rfl ?_)
               (refine (htk3 _ _ (hp3.set (q := ⟨w2.heap.size + 1, 1, none⟩) hpN _) (by simp)).mono ?_)
               (rintro e w4 ⟨hk4, rfl, hp4⟩)
               (have hN4 := (hN3.putP 1 _).kp hk4 (by omega))
               (have hR4 := (hR3.other (p := ⟨w2.heap.size + 1, 1, none⟩) hneR _).kp hk4 (by omega))
               (have hK4 := (hK3.setNew (q := ⟨w2.heap.size + 1, 1, none⟩) hwN _).trans hk4)
               (have y0 := hN4.cell 0)
               (have z0 := hN4.free 0)
               (have y1 := hN4.cell 1)
               (have z1 := hN4.free 1)
               (have y2 := hN4.cell 2)
               (have z2 := hN4.free 2)
               (have y3 := hN4.cell 3)
               (have z3 := hN4.free 3)
               (have y4 := hN4.cell 4)
               (have z4 := hN4.free 4)
               (have hlN4 := hN4.lt)
               (have hlR4 := hR4.lt)
               (have hz24 : w2.heap.size ≠ w4.heap.size := by omega)
               (have hz25 : w2.heap.size < w4.heap.size := by omega)
               (simp only [tkv]))
            | (go_at_call 69; refine at_argP 0 (.string ⟨#[59]⟩) rfl ?_; refine (hs59 _).mono ?_; rintro e w1 ⟨rfl, rfl⟩)
            | (go_at_call 66; refine at_argP 1 (.func (.func 87) #[] _) rfl ?_; refine (htk9 _ _ (((hp4.set (q := ⟨w2.heap.size + 1, 4, none⟩) hpN _).new _).new _) (by simp)).mono ?_; rintro e w9 ⟨hk9, rfl⟩))
        exact ⟨rfl, (((hK4.setNew (q := ⟨w2.heap.size + 1, 4, none⟩) hwN _).alloc _).alloc _).trans hk9, by rw [HR.out]⟩
      | ok yr =>
        obtain ⟨y9, r9⟩ := yr
        have htk9 := fun W q h e => htk9 (r := r3) W q h e
        rw [hT9] at htk9
        have HR : Hid _ := after_ok (t := (⟨K, wRoot, M⟩, a)) (u := u) (by rw [hrest]; exact phex_ok hT3) hT9
        clear hT9 hT3 hrest
        go_enter Tryz.func53, Tryz.ntmps53
        go_wp2_with (first
            | (go_at_call 67; refine at_argP 0 (.slice _ 6 6) rfl ?_; refine (isWord_c _ _ _ _).mono ?_; rintro e w1 ⟨rfl, rfl⟩)
            | ((go_at_call 66)
               (refine at_argP 1 (.func (.func 84) #[] _) rfl ?_)
               (refine (htk1 _).mono ?_)
               (rintro e w2 ⟨hk2, rfl, hp2⟩)
               (clear htk1)
               (have hR2 : Has w2 w.heap.size 24 #[.string ⟨#[]⟩, .string ⟨#[]⟩, .int .i64 0, .int .i64 0, .slice none 0 0] := (Has.new w _ _).kp hk2 (by omega))
               (have hlR2 := hR2.lt)
               (simp only [tkv, bsRoot]))
            | ((go_at_call 66)
               (refine at_argP 1 (.func (.func 38) #[] #[]) rfl ?_)
               (refine (htk2 _ ((hp2.new _).new _)).mono ?_)
               (rintro e w3 ⟨hk3, rfl, hp3⟩)
               (have hN3 : Has w3 (w2.heap.size + 1) 24 #[.string ⟨#[114, 111, 111, 116]⟩, .string ⟨#[]⟩, .int .i64 0, .int .i64 (a : Nat), .slice none 0 0] := (Has.kp (by (have := Has.new (w2.alloc (.cells #[.int .i64 (K : Nat), .string ⟨#[114, 111, 111, 116]⟩, .int .i64 (M : Nat), .int .i64 (a : Nat)] 58)) 24 #[.string ⟨#[114, 111, 111, 116]⟩, .string ⟨#[]⟩, .int .i64 0, .int .i64 (a : Nat), .slice none 0 0]; simpa using this)) hk3 (by omega)))
               (have n0 := hN3.cell 0)
               (have m0 := hN3.free 0)
               (have n1 := hN3.cell 1)
               (have m1 := hN3.free 1)
               (have n2 := hN3.cell 2)
               (have m2 := hN3.free 2)
               (have n3 := hN3.cell 3)
               (have m3 := hN3.free 3)
               (have n4 := hN3.cell 4)
               (have m4 := hN3.free 4)
               (have hlN := hN3.lt)
               (have hR3 := ((hR2.alloc _).alloc _).kp hk3 (by omega))
               (have hK3 : Kp pb w w3 := (kp_new (b_one _ _) hk2).trans (kp_new (b_two _ _ _) hk3))
               (have hpN : pb < w2.heap.size + 1 := by omega)
               (have hwN : w.heap.size ≤ w2.heap.size + 1 := by omega)
               (have hneR : w.heap.size ≠ w2.heap.size + 1 := by omega)
               (simp only [tkv]))
            | ((refine at_dstL 18 rfl ?_)
               (refine wpList_is (some 18) (.string (bs u.1.s)) rfl rfl (by kernel_rfl) ?_))
            | (go_at_call 68; refine (hki _).mono ?_; rintro e w1 ⟨rfl, rfl⟩)
            | ((go_at_call 66)
               (refine at_argP 1 (.func (.func 86) #[] _) rfl ?_)
               (refine (htk3 _ _ (hp3.set (q := ⟨w2.heap.size + 1, 1, none⟩) hpN _) (by simp)).mono ?_)
               (rintro e w4 ⟨hk4, rfl, hp4⟩)
               (have hN4 := (hN3.putP 1 _).kp hk4 (by omega))
               (have hR4 := (hR3.other (p := ⟨w2.heap.size + 1, 1, none⟩) hneR _).kp hk4 (by omega))
               (have hK4 := (hK3.setNew (q := ⟨w2.heap.size + 1, 1, none⟩) hwN _).trans hk4)
               (have y0 := hN4.cell 0)
               (have z0 := hN4.free 0)
               (have y1 := hN4.cell 1)
               (have z1 := hN4.free 1)
               (have y2 := hN4.cell 2)
               (have z2 := hN4.free 2)
               (have y3 := hN4.cell 3)
               (have z3 := hN4.free 3)
               (have y4 := hN4.cell 4)
               (have z4 := hN4.free 4)
               (have hlN4 := hN4.lt)
               (have hlR4 := hR4.lt)
               (have hz24 : w2.heap.size ≠ w4.heap.size := by omega)
               (have hz25 : w2.heap.size < w4.heap.size := by omega)
               (simp only [tkv]))
            | (go_at_call 69; refine at_argP 0 (.string ⟨#[59]⟩) rfl ?_; refine (hs59 _).mono ?_; rintro e w1 ⟨rfl, rfl⟩)
            | ((go_at_call 66)
               (refine at_argP 1 (.func (.func 87) #[] _) rfl ?_)
               (refine (htk9 _ _ (((hp4.set (q := ⟨w2.heap.size + 1, 4, none⟩) hpN _).new _).new _) (by simp)).mono ?_)
               (rintro e w9 ⟨hk9, rfl, hp9⟩)
               (have hN9 := (((hN4.putP 4 _).alloc _).alloc _).kp hk9 (by omega))
               (have hR9 := (((hR4.other (p := ⟨w2.heap.size + 1, 4, none⟩) hneR _).alloc _).alloc _).kp hk9 (by omega))
               (have hK9 : Kp pb w w9 := (((hK4.setNew (q := ⟨w2.heap.size + 1, 4, none⟩) hwN _).alloc _).alloc _).trans hk9)
               (have x0 := hN9.cell 0)
               (have r0 := hR9.cell 0)
               (have f0 := hR9.free 0)
               (have x1 := hN9.cell 1)
               (have r1 := hR9.cell 1)
               (have f1 := hR9.free 1)
               (have x2 := hN9.cell 2)
               (have r2 := hR9.cell 2)
               (have f2 := hR9.free 2)
               (have x3 := hN9.cell 3)
               (have r3 := hR9.cell 3)
               (have f3 := hR9.free 3)
               (have x4 := hN9.cell 4)
               (have r4 := hR9.cell 4)
               (have f4 := hR9.free 4)
               (have hlN9 := hN9.lt)
               (have hlR9 := hR9.lt)))
        refine ret_node rfl rfl (hR9.set5 _ _ _ _ _) rfl ⟨hK9.set5 (Nat.le_refl _) _ _ _ _ _, ?_⟩
        rw [HR.out]
        exact ⟨some ⟨w4.heap.size + 1, 0, none⟩, 1, rfl, ((NdR.single (P := fun g => w4.heap.size ≤ g) (n := (.mk wHex x.1.s 0 x.2 [])) (v := .slice none 0 0) (G := w4.heap.size + 1) (Has.kp (by have := Has.new ((w4.setCell ⟨w2.heap.size + 1, 4, none⟩ (.slice (some ⟨w4.heap.size + 1, 0, none⟩) 1 1)).alloc (.cells (tkv x.1 x.2) 58)) 24 (ndc (.mk wHex x.1.s 0 x.2 []) (.slice none 0 0)); rw [show ((w4.setCell ⟨w2.heap.size + 1, 4, none⟩ (.slice (some ⟨w4.heap.size + 1, 0, none⟩) 1 1)).alloc (.cells (tkv x.1 x.2) 58)).heap.size = w4.heap.size + 1 by simp] at this; exact this) hk9 (by omega)) (by omega) (NdR.nil _ _)).set5 (fun k hk => by omega) _ _ _ _ _).mono (fun g hg => by omega), hp9.set5 hlt _ _ _ _ _⟩
end Go.Proofs.YtpckmllmjdafpaaGreatDoor

/- A statement: Volume. -/
namespace Go.Proofs.YtpckmllmjdafpaaGreatDoor
open Go.ChangeShapes Go.WideShapes Go.ChangeAt Go.RowKit
set_option linter.unusedVariables false

set_option maxRecDepth 100000 in
set_option maxHeartbeats 4000000 in
theorem stmtVolume_c (pb en : Nat) (w : World) (ts r1 : Toks) (K M a : Nat) (h : PAt w pb ts en) (hT1 : ptake (isWd stmts) en ts = .ok ((⟨K, wVolume, M⟩, a), r1)) :
    Calls Tryz.prog 53 #[.pointer (some ⟨pb, 0, none⟩)] w (PRes w pb en (pstmt en ts)) := by
  have hlt := h.lt
  have htk1 := fun o => first_take w o h
  have htk2 := fun W (h : PAt W pb r1 en) => take_c h Ask.nm
  have hs59 : ∀ W, Calls Tryz.prog 69 #[.string ⟨#[59]⟩] W fun e w' => e = .returned (.func (.func 87) #[] #[.pointer (some ⟨W.heap.size, 0, none⟩)]) ∧ w' = W.alloc (.cells #[.string ⟨#[59]⟩] 9) := fun W => isSign_c [59] W
  have htk9 : ∀ {r : Toks} W q, PAt W pb r en → W.heap.size = q → Calls Tryz.prog 66 #[.pointer (some ⟨pb, 0, none⟩), .func (.func 87) #[] #[.pointer (some ⟨q, 0, none⟩)]] (W.alloc (.cells #[.string ⟨#[59]⟩] 9)) (TRes W pb en (ptake (isSg [59]) en r)) := fun W q h e => e ▸ sgn_take [59] h
  rw [hT1] at htk1
  cases hT2 : ptake isNm en r1 with
  | error er =>
    obtain ⟨c, q⟩ := er
    rw [hT2] at htk2
    rw [stmt_two hT1 hT2]
    clear hT1 hT2 h htk9 hs59
    go_enter Tryz.func53, Tryz.ntmps53
    go_wp2_with (first
      | (go_at_call 67; refine at_argP 0 (.slice _ 6 6) rfl ?_; refine (isWord_c _ _ _ _).mono ?_; rintro e w1 ⟨rfl, rfl⟩)
      | ((go_at_call 66)
         (refine at_argP 1 (.func (.func 84) #[] _) rfl ?_)
         (refine (htk1 _).mono ?_)
         (rintro e w2 ⟨hk2, rfl, hp2⟩)
         (clear htk1)
         (have hR2 : Has w2 w.heap.size 24 #[.string ⟨#[]⟩, .string ⟨#[]⟩, .int .i64 0, .int .i64 0, .slice none 0 0] := (Has.new w _ _).kp hk2 (by omega))
         (have hlR2 := hR2.lt)
         (simp only [tkv, bsVolume]))
      | (go_at_call 66; refine at_argP 1 (.func (.func 38) #[] #[]) rfl ?_; refine (htk2 _ ((hp2.new _).new _)).mono ?_; rintro e w3 ⟨hk3, rfl⟩))
    exact ⟨rfl, (kp_new (b_one _ _) hk2).trans (kp_new (b_two _ _ _) hk3), rfl⟩
  | ok ur =>
    obtain ⟨u, r2⟩ := ur
    rw [hT2] at htk2
    rw [stmt_three hT1 hT2]
    have hrest : prest (⟨K, wVolume, M⟩ : Tk).s = pvol := restVolume
    clear hT1 hT2 h
    have hs61 : ∀ W, Calls Tryz.prog 69 #[.string ⟨#[61]⟩] W fun e w' => e = .returned (.func (.func 87) #[] #[.pointer (some ⟨W.heap.size, 0, none⟩)]) ∧ w' = W.alloc (.cells #[.string ⟨#[61]⟩] 9) := fun W => isSign_c [61] W
    have htk3 : ∀ W q, PAt W pb r2 en → W.heap.size = q → Calls Tryz.prog 66 #[.pointer (some ⟨pb, 0, none⟩), .func (.func 87) #[] #[.pointer (some ⟨q, 0, none⟩)]] (W.alloc (.cells #[.string ⟨#[61]⟩] 9)) (TRes W pb en (ptake (isSg [61]) en r2)) := fun W q h e => e ▸ sgn_take [61] h
    have hex1 : ∀ W r, PAt W pb r en → Calls Tryz.prog 70 #[.pointer (some ⟨pb, 0, none⟩), .int .i64 1] W (PRes W pb en (pexpr 12 en r)) := fun W r h => expr_c pb en 12 1 W r rfl h
    cases hT3 : ptake (isSg [61]) en r2 with
    | error er =>
      obtain ⟨c, q⟩ := er
      rw [hT3] at htk3
      have HR : Hid _ := after_one (t := (⟨K, wVolume, M⟩, a)) (u := u) (by rw [hrest]; exact pvol_no hT3)
      clear hT3 hrest htk9 hs59
      go_enter Tryz.func53, Tryz.ntmps53
      go_wp2_with (first
        | (go_at_call 67; refine at_argP 0 (.slice _ 6 6) rfl ?_; refine (isWord_c _ _ _ _).mono ?_; rintro e w1 ⟨rfl, rfl⟩)
        | ((go_at_call 66)
           (refine at_argP 1 (.func (.func 84) #[] _) rfl ?_)
           (refine (htk1 _).mono ?_)
           (rintro e w2 ⟨hk2, rfl, hp2⟩)
           (clear htk1)
           (have hR2 : Has w2 w.heap.size 24 #[.string ⟨#[]⟩, .string ⟨#[]⟩, .int .i64 0, .int .i64 0, .slice none 0 0] := (Has.new w _ _).kp hk2 (by omega))
           (have hlR2 := hR2.lt)
           (simp only [tkv, bsVolume]))
        | ((go_at_call 66)
           (refine at_argP 1 (.func (.func 38) #[] #[]) rfl ?_)
           (refine (htk2 _ ((hp2.new _).new _)).mono ?_)
           (rintro e w3 ⟨hk3, rfl, hp3⟩)
           (have hN3 : Has w3 (w2.heap.size + 1) 24 #[.string ⟨#[118, 111, 108, 117, 109, 101]⟩, .string ⟨#[]⟩, .int .i64 0, .int .i64 (a : Nat), .slice none 0 0] := (Has.kp (by (have := Has.new (w2.alloc (.cells #[.int .i64 (K : Nat), .string ⟨#[118, 111, 108, 117, 109, 101]⟩, .int .i64 (M : Nat), .int .i64 (a : Nat)] 58)) 24 #[.string ⟨#[118, 111, 108, 117, 109, 101]⟩, .string ⟨#[]⟩, .int .i64 0, .int .i64 (a : Nat), .slice none 0 0]; simpa using this)) hk3 (by omega)))
           (have n0 := hN3.cell 0)
           (have m0 := hN3.free 0)
           (have n1 := hN3.cell 1)
           (have m1 := hN3.free 1)
           (have n2 := hN3.cell 2)
           (have m2 := hN3.free 2)
           (have n3 := hN3.cell 3)
           (have m3 := hN3.free 3)
           (have n4 := hN3.cell 4)
           (have m4 := hN3.free 4)
           (have hlN := hN3.lt)
           (have hR3 := ((hR2.alloc _).alloc _).kp hk3 (by omega))
           (have hK3 : Kp pb w w3 := (kp_new (b_one _ _) hk2).trans (kp_new (b_two _ _ _) hk3))
           (have hpN : pb < w2.heap.size + 1 := by omega)
           (have hwN : w.heap.size ≤ w2.heap.size + 1 := by omega)
           (have hneR : w.heap.size ≠ w2.heap.size + 1 := by omega)
           (simp only [tkv]))
        | ((refine at_dstL 18 rfl ?_)
           (refine wpList_is (some 18) (.string (bs u.1.s)) rfl rfl (by kernel_rfl) ?_))
        | (go_at_call 69; refine at_argP 0 (.string ⟨#[61]⟩) rfl ?_; refine (hs61 _).mono ?_; rintro e w1 ⟨rfl, rfl⟩)
        | (go_at_call 66; refine at_argP 1 (.func (.func 87) #[] _) rfl ?_; refine (htk3 _ _ (hp3.set (q := ⟨w2.heap.size + 1, 1, none⟩) hpN _) (by simp)).mono ?_; rintro e w4 ⟨hk4, rfl⟩))
      exact ⟨rfl, (hK3.setNew (q := ⟨w2.heap.size + 1, 1, none⟩) hwN _).trans hk4, by rw [HR.out]⟩
    | ok xr =>
      obtain ⟨x, r3⟩ := xr
      rw [hT3] at htk3
      have hex1 := fun W => hex1 W r3
      cases hE : pexpr 12 en r3 with
      | error er =>
        obtain ⟨c, q⟩ := er
        rw [hE] at hex1
        have HR : Hid _ := after_one (t := (⟨K, wVolume, M⟩, a)) (u := u) (by rw [hrest]; exact pvol_no2 hT3 hE)
        clear hT3 hE hrest htk9 hs59
        go_enter Tryz.func53, Tryz.ntmps53
        go_wp2_with (first
          | (go_at_call 67; refine at_argP 0 (.slice _ 6 6) rfl ?_; refine (isWord_c _ _ _ _).mono ?_; rintro e w1 ⟨rfl, rfl⟩)
          | ((go_at_call 66)
             (refine at_argP 1 (.func (.func 84) #[] _) rfl ?_)
             (refine (htk1 _).mono ?_)
             (rintro e w2 ⟨hk2, rfl, hp2⟩)
             (clear htk1)
             (have hR2 : Has w2 w.heap.size 24 #[.string ⟨#[]⟩, .string ⟨#[]⟩, .int .i64 0, .int .i64 0, .slice none 0 0] := (Has.new w _ _).kp hk2 (by omega))
             (have hlR2 := hR2.lt)
             (simp only [tkv, bsVolume]))
          | ((go_at_call 66)
             (refine at_argP 1 (.func (.func 38) #[] #[]) rfl ?_)
             (refine (htk2 _ ((hp2.new _).new _)).mono ?_)
             (rintro e w3 ⟨hk3, rfl, hp3⟩)
             (have hN3 : Has w3 (w2.heap.size + 1) 24 #[.string ⟨#[118, 111, 108, 117, 109, 101]⟩, .string ⟨#[]⟩, .int .i64 0, .int .i64 (a : Nat), .slice none 0 0] := (Has.kp (by (have := Has.new (w2.alloc (.cells #[.int .i64 (K : Nat), .string ⟨#[118, 111, 108, 117, 109, 101]⟩, .int .i64 (M : Nat), .int .i64 (a : Nat)] 58)) 24 #[.string ⟨#[118, 111, 108, 117, 109, 101]⟩, .string ⟨#[]⟩, .int .i64 0, .int .i64 (a : Nat), .slice none 0 0]; simpa using this)) hk3 (by omega)))
             (have n0 := hN3.cell 0)
             (have m0 := hN3.free 0)
             (have n1 := hN3.cell 1)
             (have m1 := hN3.free 1)
             (have n2 := hN3.cell 2)
             (have m2 := hN3.free 2)
             (have n3 := hN3.cell 3)
             (have m3 := hN3.free 3)
             (have n4 := hN3.cell 4)
             (have m4 := hN3.free 4)
             (have hlN := hN3.lt)
             (have hR3 := ((hR2.alloc _).alloc _).kp hk3 (by omega))
             (have hK3 : Kp pb w w3 := (kp_new (b_one _ _) hk2).trans (kp_new (b_two _ _ _) hk3))
             (have hpN : pb < w2.heap.size + 1 := by omega)
             (have hwN : w.heap.size ≤ w2.heap.size + 1 := by omega)
             (have hneR : w.heap.size ≠ w2.heap.size + 1 := by omega)
             (simp only [tkv]))
          | ((refine at_dstL 18 rfl ?_)
             (refine wpList_is (some 18) (.string (bs u.1.s)) rfl rfl (by kernel_rfl) ?_))
          | (go_at_call 69; refine at_argP 0 (.string ⟨#[61]⟩) rfl ?_; refine (hs61 _).mono ?_; rintro e w1 ⟨rfl, rfl⟩)
          | ((go_at_call 66)
             (refine at_argP 1 (.func (.func 87) #[] _) rfl ?_)
             (refine (htk3 _ _ (hp3.set (q := ⟨w2.heap.size + 1, 1, none⟩) hpN _) (by simp)).mono ?_)
             (rintro e w4 ⟨hk4, rfl, hp4⟩)
             (clear htk3)
             (have hN4 := (hN3.putP 1 _).kp hk4 (by omega))
             (have hR4 := (hR3.other (p := ⟨w2.heap.size + 1, 1, none⟩) hneR _).kp hk4 (by omega))
             (have hK4 := (hK3.setNew (q := ⟨w2.heap.size + 1, 1, none⟩) hwN _).trans hk4)
             (have hlN4 := hN4.lt)
             (have hlR4 := hR4.lt))
          | (go_at_call 70; refine (hex1 _ hp4).mono ?_; rintro e w5 ⟨hk5, rfl⟩))
        exact ⟨rfl, hK4.trans hk5, by rw [HR.out]⟩
      | ok er =>
        obtain ⟨n, r4⟩ := er
        rw [hE] at hex1
        cases hT9 : ptake (isSg [59]) en r4 with
        | error er =>
          obtain ⟨c9, q9⟩ := er
          have htk9 := fun W q h e => htk9 (r := r4) W q h e
          rw [hT9] at htk9
          have HR : Hid _ := after_two (t := (⟨K, wVolume, M⟩, a)) (u := u) (by rw [hrest]; exact pvol_ok hT3 hE) hT9
          clear hT9 hT3 hE hrest
          go_enter Tryz.func53, Tryz.ntmps53
          go_wp2_with (first
              | (go_at_call 67; refine at_argP 0 (.slice _ 6 6) rfl ?_; refine (isWord_c _ _ _ _).mono ?_; rintro e w1 ⟨rfl, rfl⟩)
              | ((go_at_call 66)
                 (refine at_argP 1 (.func (.func 84) #[] _) rfl ?_)
                 (refine (htk1 _).mono ?_)
                 (rintro e w2 ⟨hk2, rfl, hp2⟩)
                 (clear htk1)
                 (have hR2 : Has w2 w.heap.size 24 #[.string ⟨#[]⟩, .string ⟨#[]⟩, .int .i64 0, .int .i64 0, .slice none 0 0] := (Has.new w _ _).kp hk2 (by omega))
                 (have hlR2 := hR2.lt)
                 (simp only [tkv, bsVolume]))
              | ((go_at_call 66)
                 (refine at_argP 1 (.func (.func 38) #[] #[]) rfl ?_)
                 (refine (htk2 _ ((hp2.new _).new _)).mono ?_)
                 (rintro e w3 ⟨hk3, rfl, hp3⟩)
                 (have hN3 : Has w3 (w2.heap.size + 1) 24 #[.string ⟨#[118, 111, 108, 117, 109, 101]⟩, .string ⟨#[]⟩, .int .i64 0, .int .i64 (a : Nat), .slice none 0 0] := (Has.kp (by (have := Has.new (w2.alloc (.cells #[.int .i64 (K : Nat), .string ⟨#[118, 111, 108, 117, 109, 101]⟩, .int .i64 (M : Nat), .int .i64 (a : Nat)] 58)) 24 #[.string ⟨#[118, 111, 108, 117, 109, 101]⟩, .string ⟨#[]⟩, .int .i64 0, .int .i64 (a : Nat), .slice none 0 0]; simpa using this)) hk3 (by omega)))
                 (have n0 := hN3.cell 0)
                 (have m0 := hN3.free 0)
                 (have n1 := hN3.cell 1)
                 (have m1 := hN3.free 1)
                 (have n2 := hN3.cell 2)
                 (have m2 := hN3.free 2)
                 (have n3 := hN3.cell 3)
                 (have m3 := hN3.free 3)
                 (have n4 := hN3.cell 4)
                 (have m4 := hN3.free 4)
                 (have hlN := hN3.lt)
                 (have hR3 := ((hR2.alloc _).alloc _).kp hk3 (by omega))
                 (have hK3 : Kp pb w w3 := (kp_new (b_one _ _) hk2).trans (kp_new (b_two _ _ _) hk3))
                 (have hpN : pb < w2.heap.size + 1 := by omega)
                 (have hwN : w.heap.size ≤ w2.heap.size + 1 := by omega)
                 (have hneR : w.heap.size ≠ w2.heap.size + 1 := by omega)
                 (simp only [tkv]))
              | ((refine at_dstL 18 rfl ?_)
                 (refine wpList_is (some 18) (.string (bs u.1.s)) rfl rfl (by kernel_rfl) ?_))
              | (go_at_call 69; refine at_argP 0 (.string ⟨#[61]⟩) rfl ?_; refine (hs61 _).mono ?_; rintro e w1 ⟨rfl, rfl⟩)
              | ((go_at_call 66)
                 (refine at_argP 1 (.func (.func 87) #[] _) rfl ?_)
                 (refine (htk3 _ _ (hp3.set (q := ⟨w2.heap.size + 1, 1, none⟩) hpN _) (by simp)).mono ?_)
                 (rintro e w4 ⟨hk4, rfl, hp4⟩)
                 (clear htk3)
                 (have hN4 := (hN3.putP 1 _).kp hk4 (by omega))
                 (have hR4 := (hR3.other (p := ⟨w2.heap.size + 1, 1, none⟩) hneR _).kp hk4 (by omega))
                 (have hK4 := (hK3.setNew (q := ⟨w2.heap.size + 1, 1, none⟩) hwN _).trans hk4)
                 (have hlN4 := hN4.lt)
                 (have hlR4 := hR4.lt))
              | ((go_at_call 70)
                 (refine (hex1 _ hp4).mono ?_)
                 (rintro e w5 ⟨hk5, A5, C5, rfl, hn5, hp5⟩)
                 (have hz5 := hk5.size)
                 (have hN5 := hN4.kp hk5 (by omega))
                 (have hR5 := hR4.kp hk5 (by omega))
                 (have hK5 := hK4.trans hk5)
                 (have y0 := hN5.cell 0)
                 (have z0 := hN5.free 0)
                 (have y1 := hN5.cell 1)
                 (have z1 := hN5.free 1)
                 (have y2 := hN5.cell 2)
                 (have z2 := hN5.free 2)
                 (have y3 := hN5.cell 3)
                 (have z3 := hN5.free 3)
                 (have y4 := hN5.cell 4)
                 (have z4 := hN5.free 4)
                 (have hlN5 := hN5.lt)
                 (have hlR5 := hR5.lt)
                 (unfold ndc))
              | (go_at_call 69; refine at_argP 0 (.string ⟨#[59]⟩) rfl ?_; refine (hs59 _).mono ?_; rintro e w1 ⟨rfl, rfl⟩)
              | (go_at_call 66; refine at_argP 1 (.func (.func 87) #[] _) rfl ?_; refine (htk9 _ _ ((hp5.set (q := ⟨w2.heap.size + 1, 4, none⟩) hpN _).new _) (by simp)).mono ?_; rintro e w9 ⟨hk9, rfl⟩))
          exact ⟨rfl, ((hK5.setNew (q := ⟨w2.heap.size + 1, 4, none⟩) hwN _).alloc _).trans hk9, by rw [HR.out]⟩
        | ok yr =>
          obtain ⟨y9, r9⟩ := yr
          have htk9 := fun W q h e => htk9 (r := r4) W q h e
          rw [hT9] at htk9
          have HR : Hid _ := after_ok (t := (⟨K, wVolume, M⟩, a)) (u := u) (by rw [hrest]; exact pvol_ok hT3 hE) hT9
          clear hT9 hT3 hE hrest
          go_enter Tryz.func53, Tryz.ntmps53
          go_wp2_with (first
              | (go_at_call 67; refine at_argP 0 (.slice _ 6 6) rfl ?_; refine (isWord_c _ _ _ _).mono ?_; rintro e w1 ⟨rfl, rfl⟩)
              | ((go_at_call 66)
                 (refine at_argP 1 (.func (.func 84) #[] _) rfl ?_)
                 (refine (htk1 _).mono ?_)
                 (rintro e w2 ⟨hk2, rfl, hp2⟩)
                 (clear htk1)
                 (have hR2 : Has w2 w.heap.size 24 #[.string ⟨#[]⟩, .string ⟨#[]⟩, .int .i64 0, .int .i64 0, .slice none 0 0] := (Has.new w _ _).kp hk2 (by omega))
                 (have hlR2 := hR2.lt)
                 (simp only [tkv, bsVolume]))
              | ((go_at_call 66)
                 (refine at_argP 1 (.func (.func 38) #[] #[]) rfl ?_)
                 (refine (htk2 _ ((hp2.new _).new _)).mono ?_)
                 (rintro e w3 ⟨hk3, rfl, hp3⟩)
                 (have hN3 : Has w3 (w2.heap.size + 1) 24 #[.string ⟨#[118, 111, 108, 117, 109, 101]⟩, .string ⟨#[]⟩, .int .i64 0, .int .i64 (a : Nat), .slice none 0 0] := (Has.kp (by (have := Has.new (w2.alloc (.cells #[.int .i64 (K : Nat), .string ⟨#[118, 111, 108, 117, 109, 101]⟩, .int .i64 (M : Nat), .int .i64 (a : Nat)] 58)) 24 #[.string ⟨#[118, 111, 108, 117, 109, 101]⟩, .string ⟨#[]⟩, .int .i64 0, .int .i64 (a : Nat), .slice none 0 0]; simpa using this)) hk3 (by omega)))
                 (have n0 := hN3.cell 0)
                 (have m0 := hN3.free 0)
                 (have n1 := hN3.cell 1)
                 (have m1 := hN3.free 1)
                 (have n2 := hN3.cell 2)
                 (have m2 := hN3.free 2)
                 (have n3 := hN3.cell 3)
                 (have m3 := hN3.free 3)
                 (have n4 := hN3.cell 4)
                 (have m4 := hN3.free 4)
                 (have hlN := hN3.lt)
                 (have hR3 := ((hR2.alloc _).alloc _).kp hk3 (by omega))
                 (have hK3 : Kp pb w w3 := (kp_new (b_one _ _) hk2).trans (kp_new (b_two _ _ _) hk3))
                 (have hpN : pb < w2.heap.size + 1 := by omega)
                 (have hwN : w.heap.size ≤ w2.heap.size + 1 := by omega)
                 (have hneR : w.heap.size ≠ w2.heap.size + 1 := by omega)
                 (simp only [tkv]))
              | ((refine at_dstL 18 rfl ?_)
                 (refine wpList_is (some 18) (.string (bs u.1.s)) rfl rfl (by kernel_rfl) ?_))
              | (go_at_call 69; refine at_argP 0 (.string ⟨#[61]⟩) rfl ?_; refine (hs61 _).mono ?_; rintro e w1 ⟨rfl, rfl⟩)
              | ((go_at_call 66)
                 (refine at_argP 1 (.func (.func 87) #[] _) rfl ?_)
                 (refine (htk3 _ _ (hp3.set (q := ⟨w2.heap.size + 1, 1, none⟩) hpN _) (by simp)).mono ?_)
                 (rintro e w4 ⟨hk4, rfl, hp4⟩)
                 (clear htk3)
                 (have hN4 := (hN3.putP 1 _).kp hk4 (by omega))
                 (have hR4 := (hR3.other (p := ⟨w2.heap.size + 1, 1, none⟩) hneR _).kp hk4 (by omega))
                 (have hK4 := (hK3.setNew (q := ⟨w2.heap.size + 1, 1, none⟩) hwN _).trans hk4)
                 (have hlN4 := hN4.lt)
                 (have hlR4 := hR4.lt))
              | ((go_at_call 70)
                 (refine (hex1 _ hp4).mono ?_)
                 (rintro e w5 ⟨hk5, A5, C5, rfl, hn5, hp5⟩)
                 (have hz5 := hk5.size)
                 (have hN5 := hN4.kp hk5 (by omega))
                 (have hR5 := hR4.kp hk5 (by omega))
                 (have hK5 := hK4.trans hk5)
                 (have y0 := hN5.cell 0)
                 (have z0 := hN5.free 0)
                 (have y1 := hN5.cell 1)
                 (have z1 := hN5.free 1)
                 (have y2 := hN5.cell 2)
                 (have z2 := hN5.free 2)
                 (have y3 := hN5.cell 3)
                 (have z3 := hN5.free 3)
                 (have y4 := hN5.cell 4)
                 (have z4 := hN5.free 4)
                 (have hlN5 := hN5.lt)
                 (have hlR5 := hR5.lt)
                 (unfold ndc))
              | (go_at_call 69; refine at_argP 0 (.string ⟨#[59]⟩) rfl ?_; refine (hs59 _).mono ?_; rintro e w1 ⟨rfl, rfl⟩)
              | ((go_at_call 66)
                 (refine at_argP 1 (.func (.func 87) #[] _) rfl ?_)
                 (refine (htk9 _ _ ((hp5.set (q := ⟨w2.heap.size + 1, 4, none⟩) hpN _).new _) (by simp)).mono ?_)
                 (rintro e w9 ⟨hk9, rfl, hp9⟩)
                 (have hN9 := ((hN5.putP 4 _).alloc _).kp hk9 (by omega))
                 (have hR9 := ((hR5.other (p := ⟨w2.heap.size + 1, 4, none⟩) hneR _).alloc _).kp hk9 (by omega))
                 (have hK9 : Kp pb w w9 := ((hK5.setNew (q := ⟨w2.heap.size + 1, 4, none⟩) hwN _).alloc _).trans hk9)
                 (have x0 := hN9.cell 0)
                 (have r0 := hR9.cell 0)
                 (have f0 := hR9.free 0)
                 (have x1 := hN9.cell 1)
                 (have r1 := hR9.cell 1)
                 (have f1 := hR9.free 1)
                 (have x2 := hN9.cell 2)
                 (have r2 := hR9.cell 2)
                 (have f2 := hR9.free 2)
                 (have x3 := hN9.cell 3)
                 (have r3 := hR9.cell 3)
                 (have f3 := hR9.free 3)
                 (have x4 := hN9.cell 4)
                 (have r4 := hR9.cell 4)
                 (have f4 := hR9.free 4)
                 (have hlN9 := hN9.lt)
                 (have hlR9 := hR9.lt)))
          refine ret_node rfl rfl (hR9.set5 _ _ _ _ _) rfl ⟨hK9.set5 (Nat.le_refl _) _ _ _ _ _, ?_⟩
          rw [HR.out]
          exact ⟨some ⟨w5.heap.size, 0, none⟩, 1, rfl, (((NdR.single (W := (w5.setCell ⟨w2.heap.size + 1, 4, none⟩ (.slice (some ⟨w5.heap.size, 0, none⟩) 1 1)).alloc (.cells (ndc n (.slice A5 n.l.length C5)) 24)) (P := fun g => w4.heap.size ≤ g) (n := n) (v := .slice A5 n.l.length C5) (G := w5.heap.size) (by have := Has.new (w5.setCell ⟨w2.heap.size + 1, 4, none⟩ (.slice (some ⟨w5.heap.size, 0, none⟩) 1 1)) 24 (ndc n (.slice A5 n.l.length C5)); simpa using this) hz5 ((hn5.keep (fun g o hg ho => (Below.heap_setCell w5 ⟨w2.heap.size + 1, 4, none⟩ _ g (by show g ≠ w2.heap.size + 1; omega)).trans ho)).grow (b_one _ _))).kp hk9 (fun g hg => by omega)).set5 (fun k hk => by omega) _ _ _ _ _).mono (fun g hg => by omega), hp9.set5 hlt _ _ _ _ _⟩
end Go.Proofs.YtpckmllmjdafpaaGreatDoor
