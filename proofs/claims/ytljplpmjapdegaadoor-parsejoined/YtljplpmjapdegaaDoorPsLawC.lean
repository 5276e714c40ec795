/- ParseCut, walked. -/
import Derived.Test.YtljplpmjapdegaaDoorJoint09
import Derived.Test.YtljplpmjapdegaaDoorPsCutM
import Derived.LaidSub
import Derived.Lib.LaidTab
namespace Go.Proofs.YtljplpmjapdegaaDoor
open Go.ChangeShapes Go.WideShapes Go.ChangeAt Go.RowKit
set_option linter.unusedVariables false

theorem parse_ok_c (x : List UInt8) (w : World) (hm : x.length ≤ maxLen) {n : Nd} (h : Parse x = .ok n) : Calls Tryd.prog 6 #[.string (bs x)] w fun e w' => ∃ A C, e = .returned (.tuple #[.agg #[.string (bs n.op), .string (bs n.s), .int .i64 n.n, .int .i64 n.a, .slice A n.l.length C], .int .i64 0, .int .i64 (-1)]) ∧ NdR w' (fun g => w.heap.size ≤ g) n.l (.slice A n.l.length C) ∧ Below w.heap.size w w' := by
  have := parse_c x w hm
  rw [h] at this
  exact this.mono fun e w' ⟨hb, A, C, he, hn⟩ => ⟨A, C, he, hn, hb⟩

theorem parse_err_c (x : List UInt8) (w : World) (hm : x.length ≤ maxLen) {c k : Nat} (h : Parse x = .error (c, k)) : Calls Tryd.prog 6 #[.string (bs x)] w fun e w' => e = .returned (.tuple #[.agg #[.string ⟨#[]⟩, .string ⟨#[]⟩, .int .i64 0, .int .i64 0, .slice none 0 0], .int .i64 (c : Nat), .int .i64 (k : Nat)]) ∧ Below w.heap.size w w' := by
  have := parse_c x w hm
  rw [h] at this
  exact this.mono fun e w' ⟨hb, he⟩ => ⟨he, hb⟩

theorem bel_pa {w w1 w2 : World} {o : Obj} (h1 : Below w.heap.size w w1) (h2 : Below (w1.alloc o).heap.size (w1.alloc o) w2) : Below w.heap.size w w2 :=
  (h1.alloc h1.size o).trans (h2.mono (by have := h1.size; simp; omega))

theorem run_str_to {o : Oper} {a : Act} (x h : Operand) (ho : o.op = .slice 9 x none (some h) none) (p : ByteArray) (k : Nat) (hx : a.eval x = .string p) (hh : a.eval h = .int .i64 (k : Nat)) (hk : k ≤ p.size) (w : World) : (execOp a.eval o).run Tryd.prog w = .ok (.value (.string (p.extract 0 k))) w := by
  have h1 : (k : Int) ≤ (p.size : Int) := by omega
  unfold execOp
  simp only [ho, hx, hh, Option.map_some, Option.map_none]
  go_simp

theorem below_al {w : World} (o : Obj) : Below w.heap.size w (w.alloc o) := b_one w o

set_option maxRecDepth 100000 in
set_option maxHeartbeats 2000000 in
theorem cut_walk (x y : List UInt8) (w : World) (hx : x.length ≤ maxLen) (hy : y.length ≤ maxLen) (ht : Tab w) : Calls Tryd.prog 4 #[.string (bs x), .string (bs y)] w fun e w' => e = .returned (.bool true) ∧ Below w.heap.size w w' := by
  have hal := fun W (hb : Below w.heap.size w W) => alive_c W (ht.below hb)
  have sx := bs_size x
  have sy := bs_size y
  have hx' := hx
  have hy' := hy
  unfold maxLen at hx' hy'
  have hsx : ((bs x).size : Int) ≤ 9223372036854775807 := by omega
  have hsy : ((bs y).size : Int) ≤ 9223372036854775807 := by omega
  cases hP : Parse x with
  | ok n =>
    have hpa := parse_ok_c x w hx hP
    generalize n.op = o at hpa
    generalize n.s = s at hpa
    generalize n.n = i at hpa
    generalize n.a = j at hpa
    generalize hnl : n.l.length = L at hpa
    have hpa : Calls Tryd.prog 6 #[.string (bs x)] w fun e w' => ∃ A C, e = .returned (.tuple #[.agg #[.string (bs o), .string (bs s), .int .i64 i, .int .i64 j, .slice A L C], .int .i64 0, .int .i64 (-1)]) ∧ Below w.heap.size w w' := hpa.mono fun e w' ⟨A, C, h1, _, h3⟩ => ⟨A, C, h1, h3⟩
    clear hP hnl sx sy
    go_enter Tryd.func4, Tryd.ntmps4
    go_wp2_with (first
      | (go_at_call 6; refine hpa.mono ?_; rintro e w1 ⟨A, C, rfl, hb1⟩)
      | (go_at_call 7; refine (hal _ (hb1.alloc hb1.size _)).mono ?_; rintro e w2 ⟨rfl, hb2⟩))
    go_ret
    exact ⟨rfl, bel_pa hb1 hb2⟩
  | error r =>
    obtain ⟨c, k⟩ := r
    have hpa := parse_err_c x w hx hP
    obtain ⟨hk, hc0⟩ := Parse_place hP
    have hc0' : ¬ ((c : Nat) : Int) = 0 := by omega
    have hk1 : ¬ ((k : Nat) : Int) < 0 := by omega
    have hk2 : ¬ ((bs x).size : Int) < ((k : Nat) : Int) := by omega
    by_cases h1 : c = 111
    · subst h1
      have hpa : Calls Tryd.prog 6 #[.string (bs x)] w fun e w' => e = .returned (.tuple #[.agg #[.string ⟨#[]⟩, .string ⟨#[]⟩, .int .i64 0, .int .i64 0, .slice none 0 0], .int .i64 111, .int .i64 (k : Nat)]) ∧ Below w.heap.size w w' := hpa
      by_cases h2 : y.length ≤ 100
      · have h2' : ¬ (100 : Int) < ((bs y).size : Int) := by omega
        have hkx : (k : Int) ≤ ((bs x).size : Int) := by omega
        obtain ⟨P, hPe⟩ : ∃ P, P = x.take k ++ [32] := ⟨_, rfl⟩
        obtain ⟨Z, hZe⟩ : ∃ Z, Z = P ++ y := ⟨_, rfl⟩
        have hZ : Z = x.take k ++ 32 :: y := by rw [hZe, hPe]; simp
        have hext : (bs x).extract 0 k = bs (x.take k) := by rw [bs_extract]; simp
        have hZl : Z.length ≤ maxLen ∧ Z.length ≤ 9223372036854775807 ∨ ¬ x.length ≤ 2000 := by
          by_cases hh : x.length ≤ 2000
          · left
            rw [hZ]
            unfold maxLen
            simp only [List.length_append, List.length_take, List.length_cons]
            omega
          · exact .inr hh
        have hx2 : x.length ≤ 2000 := by
          rcases Nat.lt_or_ge 2000 x.length with hh | hh
          · exfalso
            unfold Parse Scan at hP
            rw [if_pos hh] at hP
            cases hP
          · exact hh
        have hZm : Z.length ≤ maxLen := by
          rcases hZl with h | h
          · exact h.1
          · exact absurd hx2 h
        have hcut := fun k2 h => Parse_cut hP y (k := k2) h
        rw [← hZ] at hcut
        have hPl : P.length ≤ 2001 := by rw [hPe]; simp; omega
        have e44 : bs (x.take k) ++ (⟨#[32]⟩ : ByteArray) = bs P := by rw [show (⟨#[32]⟩ : ByteArray) = bs [32] from rfl, bs_cat, ← hPe]
        have e46 : bs P ++ bs y = bs Z := by rw [bs_cat, ← hZe]
        have E44 : Hid (bs (x.take k) ++ (⟨#[32]⟩ : ByteArray) = bs P) := e44
        have E46 : Hid (bs P ++ bs y = bs Z) := e46
        have EX : Hid ((bs x).extract 0 k = bs (x.take k)) := hext
        have hTl : (bs (x.take k)).size ≤ 2000 := by rw [bs_size, List.length_take]; omega
        have hyl : (bs y).size ≤ 100 := by omega
        have hPs : (bs P).size ≤ 2001 := by rw [bs_size]; exact hPl
        generalize x.take k = T at E44 EX hTl
        have hQ := fun W => parse_c Z W hZm
        have hcode : ∀ f k2, Parse Z = .error (f, k2) → f ≠ 0 := fun f k2 h => (Parse_place h).2
        clear e44 e46 hext hZl hZe hPe hZ hP hPl hc0 hc0'
        cases hR : Parse Z with
        | ok m =>
          have hq := fun W => parse_ok_c Z W hZm hR
          generalize m.op = o at hq
          generalize m.s = s at hq
          generalize m.n = i at hq
          generalize m.a = j at hq
          generalize m.l.length = L at hq
          have hq : ∀ W, Calls Tryd.prog 6 #[.string (bs Z)] W fun e w' => ∃ A C, e = .returned (.tuple #[.agg #[.string (bs o), .string (bs s), .int .i64 i, .int .i64 j, .slice A L C], .int .i64 0, .int .i64 (-1)]) ∧ Below W.heap.size W w' := fun W => (hq W).mono fun e w' ⟨A, C, h1, _, h3⟩ => ⟨A, C, h1, h3⟩
          clear hR hQ hcut hcode
          go_enter Tryd.func4, Tryd.ntmps4
          go_wp2_with (first
            | (go_at_call 6; refine at_argP 0 (.string (bs x)) rfl ?_; refine hpa.mono ?_; rintro e w1 ⟨rfl, hb1⟩; clear hpa)
            | (go_at_call 6; refine (hq _).mono ?_; rintro e w2 ⟨A, C, rfl, hb2⟩; have hbb := bel_pa hb1 hb2)
            | (refine at_dstL 43 rfl ?_; refine wpList_is (some 43) (.string (bs T)) rfl rfl (by rw [← EX.out]; exact run_str_to _ _ rfl (bs x) k rfl rfl (by omega) _) ?_)
            | (refine at_dstL 44 rfl ?_; refine wpList_is (some 44) (.string (bs P)) rfl rfl (by rw [← E44.out]; exact run_add_str _ _ rfl _ _ rfl rfl (by show _ + 1 ≤ _; omega) _) ?_)
            | (refine at_dstL 46 rfl ?_; refine wpList_is (some 46) (.string (bs Z)) rfl rfl (by rw [← E46.out]; exact run_add_str _ _ rfl _ _ rfl rfl (by omega) _) ?_)
            | (go_at_call 7; refine (hal _ (hbb.alloc hbb.size _)).mono ?_; rintro e w3 ⟨rfl, hb3⟩))
          go_ret
          exact ⟨rfl, bel_pa hbb hb3⟩
        | error r =>
          obtain ⟨f, k2⟩ := r
          have hq := fun W => parse_err_c Z W hZm hR
          have hf0 := hcode f k2 hR
          have hf0' : ¬ ((f : Nat) : Int) = 0 := by omega
          by_cases hf : f = 111
          · subst hf
            have hkk := hcut k2 hR
            have hkk' : (k : Int) ≤ (k2 : Int) := by omega
            have hq : ∀ W, Calls Tryd.prog 6 #[.string (bs Z)] W fun e w' => e = .returned (.tuple #[.agg #[.string ⟨#[]⟩, .string ⟨#[]⟩, .int .i64 0, .int .i64 0, .slice none 0 0], .int .i64 111, .int .i64 (k2 : Nat)]) ∧ Below W.heap.size W w' := hq
            clear hR hQ hcut hcode hf0 hf0'
            go_enter Tryd.func4, Tryd.ntmps4
            go_wp2_with (first
              | (go_at_call 6; refine at_argP 0 (.string (bs x)) rfl ?_; refine hpa.mono ?_; rintro e w1 ⟨rfl, hb1⟩; clear hpa)
              | (go_at_call 6; refine (hq _).mono ?_; rintro e w2 ⟨rfl, hb2⟩; have hbb := bel_pa hb1 hb2)
              | (refine at_dstL 43 rfl ?_; refine wpList_is (some 43) (.string (bs T)) rfl rfl (by rw [← EX.out]; exact run_str_to _ _ rfl (bs x) k rfl rfl (by omega) _) ?_)
              | (refine at_dstL 44 rfl ?_; refine wpList_is (some 44) (.string (bs P)) rfl rfl (by rw [← E44.out]; exact run_add_str _ _ rfl _ _ rfl rfl (by show _ + 1 ≤ _; omega) _) ?_)
              | (refine at_dstL 46 rfl ?_; refine wpList_is (some 46) (.string (bs Z)) rfl rfl (by rw [← E46.out]; exact run_add_str _ _ rfl _ _ rfl rfl (by omega) _) ?_)
              | (go_at_call 7; refine (hal _ (hbb.alloc hbb.size _)).mono ?_; rintro e w3 ⟨rfl, hb3⟩))
            go_ret
            exact ⟨rfl, bel_pa hbb hb3⟩
          · have hf' : ¬ ((f : Nat) : Int) = 111 := by omega
            clear hR hQ hcut hcode hf0
            go_enter Tryd.func4, Tryd.ntmps4
            go_wp2_with (first
              | (go_at_call 6; refine at_argP 0 (.string (bs x)) rfl ?_; refine hpa.mono ?_; rintro e w1 ⟨rfl, hb1⟩; clear hpa)
              | (go_at_call 6; refine (hq _).mono ?_; rintro e w2 ⟨rfl, hb2⟩; have hbb := bel_pa hb1 hb2)
              | (refine at_dstL 43 rfl ?_; refine wpList_is (some 43) (.string (bs T)) rfl rfl (by rw [← EX.out]; exact run_str_to _ _ rfl (bs x) k rfl rfl (by omega) _) ?_)
              | (refine at_dstL 44 rfl ?_; refine wpList_is (some 44) (.string (bs P)) rfl rfl (by rw [← E44.out]; exact run_add_str _ _ rfl _ _ rfl rfl (by show _ + 1 ≤ _; omega) _) ?_)
              | (refine at_dstL 46 rfl ?_; refine wpList_is (some 46) (.string (bs Z)) rfl rfl (by rw [← E46.out]; exact run_add_str _ _ rfl _ _ rfl rfl (by omega) _) ?_)
              | (go_at_call 7; refine (hal _ (hbb.alloc hbb.size _)).mono ?_; rintro e w3 ⟨rfl, hb3⟩))
            all_goals
              go_ret
              first
                | exact ⟨rfl, bel_pa hbb hb3⟩
                | exact ⟨ret_bool (by simp [hf']), bel_pa hbb hb3⟩
      · have h2' : (100 : Int) < ((bs y).size : Int) := by omega
        clear hP hc0 hc0' sx sy
        go_enter Tryd.func4, Tryd.ntmps4
        go_wp2_with (first
          | (go_at_call 6; refine hpa.mono ?_; rintro e w1 ⟨rfl, hb1⟩)
          | (go_at_call 7; refine (hal _ (hb1.alloc hb1.size _)).mono ?_; rintro e w2 ⟨rfl, hb2⟩))
        go_ret
        exact ⟨rfl, bel_pa hb1 hb2⟩
    · have h1' : ¬ ((c : Nat) : Int) = 111 := by omega
      clear hP hc0 sx sy
      go_enter Tryd.func4, Tryd.ntmps4
      go_wp2_with (first
        | (go_at_call 6; refine hpa.mono ?_; rintro e w1 ⟨rfl, hb1⟩)
        | (go_at_call 7; refine (hal _ (hb1.alloc hb1.size _)).mono ?_; rintro e w2 ⟨rfl, hb2⟩))
      go_ret
      exact ⟨rfl, bel_pa hb1 hb2⟩
end Go.Proofs.YtljplpmjapdegaaDoor
