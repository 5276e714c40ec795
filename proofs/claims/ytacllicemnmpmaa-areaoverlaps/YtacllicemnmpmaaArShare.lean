/- How sectors are shared out. -/
import Derived.Test.YtacllicemnmpmaaArSearch
namespace Go.Proofs.Ytacllicemnmpmaa
open Go.ChangeShapes Go.WideShapes Go.ChangeAt Go.RowKit Go.Shelf
set_option linter.unusedVariables false

theorem run_load_f {o : Oper} {a : Act} (x : Operand) (ho : o.op = .load 37 x) (p : Addr) (hx : a.eval x = .pointer (some p)) (v : Value) (w : World) (h : w.cell? p = some v) : (execOp a.eval o).run Try.prog w = .ok (.value v) w := by
  unfold execOp
  simp only [ho, hx]
  simp [go_sem, h]

theorem run_leqN {o : Oper} {a : Act} (x y : Operand) (ho : o.op = .binOp .leq 3 x y 3) (p q : Int) (hx : a.eval x = .int .i64 p) (hy : a.eval y = .int .i64 q) (c : Bool) (hc : decide (p ≤ q) = c) (w : World) :
    (execOp a.eval o).run Try.prog w = .ok (.value (.bool c)) w := by
  unfold execOp
  simp only [ho, hx, hy]
  subst hc
  go_simp

set_option maxHeartbeats 1000000 in
theorem share1_c (g bf bn : Nat) (rest : Nat → Nat) (d n : Nat) (W : World) (hn : n ≤ 8192) (hd : d ≤ 8192) (hr : rest d ≤ 100000)
    (eg : ∀ args w, (callFunc g args).run Try.prog w = .ok (.enter g args) w)
    (hx : Has W bf 37 #[.func (.func g) #[] #[]]) (hy : Has W bn 3 #[.int .i64 (n : Nat)])
    (hf : ∀ W : World, Calls Try.prog g #[.int .i64 (d : Nat)] W fun e W' => e = .returned (.int .i64 (rest d : Nat)) ∧ Below W.heap.size W W') :
    Calls Try.prog 31 #[.int .i64 (d : Nat), .pointer (some ⟨bf, 0, none⟩), .pointer (some ⟨bn, 0, none⟩)] W fun e W' => e = .returned (.bool (fit rest n d)) ∧ Below W.heap.size W W' := by
  have HF : decide (((d + rest d : Nat) : Int) ≤ (n : Int)) = fit rest n d := by unfold fit; exact decide_eq_decide.2 (by omega)
  generalize rest d = q at hf hr HF
  generalize fit rest n d = bo at HF ⊢
  have HH : Hid (decide (((d + q : Nat) : Int) ≤ (n : Int)) = bo) := HF
  clear HF
  go_enter Try.func31, Try.ntmps31
  go_wp2
  refine wp_region_held_drew (S := fun w' => Has w' bf 37 #[.func (.func g) #[] #[]] ∧ Has w' bn 3 #[.int .i64 (n : Nat)] ∧ Below W.heap.size W w') (by kernel_rfl) ⟨hx, hy, (Below.refl _ W).drew⟩ (fun hHeld => ?_)
  refine takeTo 0 (some 5) (.int .i64 (d : Nat)) rfl rfl (by kernel_rfl) (by kernel_rfl) (by kernel_rfl) (fun _ _ _ h => h) (by rfl) (fun _ _ => rfl) hHeld ?_
  simp only [Act.put, List.setIfInBounds_toArray, List.set_cons_zero, List.set_cons_succ]
  refine takeTo 1 (some 6) (.func (.func g) #[] #[]) rfl rfl (by kernel_rfl) (by kernel_rfl) (by kernel_rfl) (fun _ _ _ h => h) (by rfl) (fun wz hz => run_load_f _ rfl ⟨bf, 0, none⟩ rfl _ wz (by rw [hz.1.cell 0]; rfl)) hHeld ?_
  simp only [Act.put, List.setIfInBounds_toArray, List.set_cons_zero, List.set_cons_succ]
  refine takeTo 2 (some 7) (.int .i64 (d : Nat)) rfl rfl (by kernel_rfl) (by kernel_rfl) (by kernel_rfl) (fun _ _ _ h => h) (by rfl) (fun _ _ => rfl) hHeld ?_
  simp only [Act.put, List.setIfInBounds_toArray, List.set_cons_zero, List.set_cons_succ]
  refine takeTo 5 (some 10) (.int .i64 (n : Nat)) rfl rfl (by kernel_rfl) (by kernel_rfl) (by kernel_rfl) (fun _ _ _ h => h) (by rfl) (fun wz hz => run_load_3 _ rfl ⟨bn, 0, none⟩ rfl _ wz (by rw [hz.2.1.cell 0]; rfl)) hHeld ?_
  simp only [Act.put, List.setIfInBounds_toArray, List.set_cons_zero, List.set_cons_succ]
  refine callTo 3 (some 8) g #[.int .i64 (d : Nat)] (by kernel_rfl) rfl rfl (by rfl) (by unfold execOp; simp [Act.eval, go_sem, eg]) (hf _) ?_
  rintro e w1 ⟨rfl, hb1⟩
  have hb1' : Below W.heap.size W w1 := hHeld.2.2.trans hb1
  have hH1 : Has w1 bf 37 #[.func (.func g) #[] #[]] ∧ Has w1 bn 3 #[.int .i64 (n : Nat)] ∧ Below W.heap.size W w1 := ⟨hx.below hb1' hx.lt, hy.below hb1' hy.lt, hb1'⟩
  refine ⟨_, rfl, hH1, ?_⟩
  simp only [Act.put, List.setIfInBounds_toArray, List.set_cons_zero, List.set_cons_succ]
  refine takeTo 4 (some 9) (.int .i64 ((d + q : Nat) : Int)) rfl rfl (by kernel_rfl) (by kernel_rfl) (by kernel_rfl) (fun _ _ _ h => h) (by rfl) (fun wz hz => run_addN _ _ rfl d q rfl rfl (by omega) (by omega) wz) hH1 ?_
  simp only [Act.put, List.setIfInBounds_toArray, List.set_cons_zero, List.set_cons_succ]
  refine takeTo 6 (some 11) (.bool bo) rfl rfl (by kernel_rfl) (by kernel_rfl) (by kernel_rfl) (fun _ _ _ h => h) (by rfl) (fun wz hz => run_leqN _ _ rfl _ _ rfl rfl bo HH.out wz) hH1 ?_
  simp only [Act.put, List.setIfInBounds_toArray, List.set_cons_zero, List.set_cons_succ]
  refine takeTo 7 (some 4) (.bool bo) rfl rfl (by kernel_rfl) (by kernel_rfl) (by kernel_rfl) (fun _ _ _ h => h) (by rfl) (fun _ _ => rfl) hH1 ?_
  simp only [Act.put, List.setIfInBounds_toArray, List.set_cons_zero, List.set_cons_succ]
  refine wpAnyH_done (by kernel_rfl) ?_ _
  go_wp2
  go_ret
  exact ⟨rfl, hb1'⟩

set_option maxHeartbeats 1000000 in
theorem share_no (g : Nat) (n : Int) (L : Int) (w : World) (h : ¬ (0 ≤ n ∧ n ≤ 8192)) :
    Calls Try.prog 18 #[.int .i64 n, .int .i64 L, .func (.func g) #[] #[]] w fun e w' => e = .returned (.tuple #[.int .i64 0, .int .i64 0]) ∧ Below w.heap.size w w' := by
  have hb : ∀ a b, Below w.heap.size w ((w.alloc a).alloc b) := fun a b => ((Below.refl _ w).alloc (Nat.le_refl _) _).alloc (by simp) _
  go_enter Try.func18, Try.ntmps18
  go_wp2_with (first
    | ((go_at_call 23)
       (refine (within_no _ _ _ _ h).mono ?_)
       (rintro e w1 ⟨rfl, rfl⟩)))
  go_ret2
  exact ⟨rfl, hb _ _⟩

set_option maxHeartbeats 1000000 in
theorem share_c (g : Nat) (rest : Nat → Nat) (n L : Nat) (w : World) (hn : n ≤ 8192) (hL : L ≤ 8192) (hr : ∀ d, d ≤ L → rest d ≤ 100000) (hm : ∀ a b, a ≤ b → b ≤ L → rest a ≤ rest b)
    (eg : ∀ args w, (callFunc g args).run Try.prog w = .ok (.enter g args) w)
    (hf : ∀ (d : Nat) (W : World), d ≤ L → Calls Try.prog g #[.int .i64 (d : Nat)] W fun e W' => e = .returned (.int .i64 (rest d : Nat)) ∧ Below W.heap.size W W') :
    Calls Try.prog 18 #[.int .i64 (n : Nat), .int .i64 (L : Nat), .func (.func g) #[] #[]] w fun e w' => ∃ r : Nat, e = .returned (.tuple #[.int .i64 (r : Nat), .int .i64 (rest r : Nat)]) ∧ Great L (fit rest n) r ∧ Below w.heap.size w w' := by
  obtain ⟨W0, hW0⟩ : ∃ W0, W0 = (w.alloc (.cells #[.int .i64 (n : Nat)] 3)).alloc (.cells #[.func (.func g) #[] #[]] 37) := ⟨_, rfl⟩
  have hs0 : W0.heap.size = w.heap.size + 2 := by rw [hW0]; simp
  have hy0 : Has W0 w.heap.size 3 #[.int .i64 (n : Nat)] := by rw [hW0]; exact (Has.new _ _ _).alloc _
  have hx0 : Has W0 (w.heap.size + 1) 37 #[.func (.func g) #[] #[]] := by rw [hW0]; exact Has.new_at (by simp)
  have hB0 : Below w.heap.size w W0 := by rw [hW0]; exact ((Below.refl _ w).alloc (Nat.le_refl _) _).alloc (by simp) _
  have hG := greatest_c 31 #[.pointer (some ⟨w.heap.size + 1, 0, none⟩), .pointer (some ⟨w.heap.size, 0, none⟩)] L (fit rest n) W0 (enters_of Try.func31 (by kernel_rfl) rfl) (by omega)
    (fun d W hd hb => share1_c g (w.heap.size + 1) w.heap.size rest d n W hn (by omega) (hr d hd) eg (hx0.below hb (by omega)) (hy0.below hb (by omega)) (fun W => hf d W hd))
    (fun a b hab hb h => fit_anti hm a b hab hb h)
  have HG : Hid (Calls Try.prog 24 #[.int .i64 (L : Nat), .func (.func 31) #[] #[.pointer (some ⟨w.heap.size + 1, 0, none⟩), .pointer (some ⟨w.heap.size, 0, none⟩)]] W0 fun e w' => ∃ r : Nat, e = .returned (.int .i64 (r : Nat)) ∧ Great L (fit rest n) r ∧ Below W0.heap.size W0 w') := hG
  have hy0c := hy0.cell 0
  simp only [List.getElem?_toArray, List.getElem?_cons_zero] at hy0c
  have HF : Hid (∀ (d : Nat) (W : World), d ≤ L → Calls Try.prog g #[.int .i64 (d : Nat)] W fun e W' => e = .returned (.int .i64 (rest d : Nat)) ∧ Below W.heap.size W W') := hf
  clear hG hf hr hm
  go_enter Try.func18, Try.ntmps18
  go_wp2_with (first
    | ((go_at_call 23)
       (refine (within_yes _ _ _ _ ⟨by omega, by omega⟩).mono ?_)
       (rintro e w1 ⟨rfl, rfl⟩))
    | ((go_at_call 24)
       (rw [← hW0])
       (refine HG.out.mono ?_)
       (rintro e w1 ⟨r, rfl, h1, h4⟩)
       (have hxc := (hx0.below h4 hx0.lt).cell 0))
    | ((go_at_fn g)
       (refine (HF.out r _ h1.1).mono ?_)
       (rintro e w2 ⟨rfl, h5⟩)))
  go_ret2
  exact ⟨r, rfl, h1, (hB0.trans (h4.mono (by omega))).trans (h5.mono (by have := h4.size; omega))⟩

theorem Integrity_no (n : Int) (w : World) (h : ¬ (0 ≤ n ∧ n ≤ 8192)) : Calls Try.prog 8 #[.int .i64 n] w fun e w' => e = .returned (.tuple #[.int .i64 0, .int .i64 0]) ∧ Below w.heap.size w w' := by
  have hs := share_no 19 n 8192 w h
  clear h
  go_enter Try.func8, Try.ntmps8
  go_wp2_with (first
    | ((go_at_call 18)
       (refine hs.mono ?_)
       (rintro e w1 ⟨rfl, hb⟩)))
  go_ret2
  exact ⟨rfl, hb⟩

theorem Integrity_c (n : Nat) (w : World) (h : n ≤ 8192) : Calls Try.prog 8 #[.int .i64 (n : Nat)] w fun e w' => ∃ r : Nat, e = .returned (.tuple #[.int .i64 (r : Nat), .int .i64 (tg r : Nat)]) ∧ Great 8192 (fit tg n) r ∧ Below w.heap.size w w' := by
  have hs := share_c 19 tg n 8192 w h (by omega) (fun d hd => by unfold tg; omega) (fun a b hab _ => tg_mono a b hab) (enters_of Try.func19 (by kernel_rfl) rfl)
    (fun d W hd => (tags_c d W hd).mono (by rintro e W' ⟨rfl, rfl⟩; exact ⟨rfl, Below.refl _ _⟩))
  generalize ((n : Nat) : Int) = N at hs ⊢
  clear h
  go_enter Try.func8, Try.ntmps8
  go_wp2_with (first
    | ((go_at_call 18)
       (refine hs.mono ?_)
       (rintro e w1 ⟨r, rfl, h1, hb⟩)))
  go_ret2
  exact ⟨r, rfl, h1, hb⟩

theorem Verity_no (n : Int) (w : World) (h : ¬ (0 ≤ n ∧ n ≤ 8192)) : Calls Try.prog 10 #[.int .i64 n] w fun e w' => e = .returned (.tuple #[.int .i64 0, .int .i64 0]) ∧ Below w.heap.size w w' := by
  have hs := share_no 21 n 2048 w h
  clear h
  go_enter Try.func10, Try.ntmps10
  go_wp2_with (first
    | ((go_at_call 18)
       (refine hs.mono ?_)
       (rintro e w1 ⟨rfl, hb⟩)))
  go_ret2
  exact ⟨rfl, hb⟩

theorem Verity_c (n : Nat) (w : World) (h : n ≤ 8192) : Calls Try.prog 10 #[.int .i64 (n : Nat)] w fun e w' => ∃ r : Nat, e = .returned (.tuple #[.int .i64 (r : Nat), .int .i64 (hs r : Nat)]) ∧ Great 2048 (fit hs n) r ∧ Below w.heap.size w w' := by
  have hs := share_c 21 hs n 2048 w h (by omega) (fun d hd => by have := hs_le d; omega) (fun a b hab hb => hs_mono hab hb) (enters_of Try.func21 (by kernel_rfl) rfl)
    (fun d W hd => hashes_c d W (by omega))
  generalize ((n : Nat) : Int) = N at hs ⊢
  clear h
  go_enter Try.func10, Try.ntmps10
  go_wp2_with (first
    | ((go_at_call 18)
       (refine hs.mono ?_)
       (rintro e w1 ⟨r, rfl, h1, hb⟩)))
  go_ret2
  exact ⟨r, rfl, h1, hb⟩
end Go.Proofs.Ytacllicemnmpmaa
