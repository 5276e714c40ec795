/- Texts that the statements of this stage share, joined: PsRight3, PsRight4, PsRight5, PsShelf, PsText, PsTextW. -/
import Derived.Test.YtpckmllmjdafpaaGreatDoorJoint07
import Derived.Test.YtpckmllmjdafpaaGreatDoorJoint05
import Derived.Shelf.Strings.Builder1
import Derived.Shelf.Strings.Builder2
import Derived.Shelf.Strings.OnBuilder
import Derived.Shelf.Strings.BuilderF
import Derived.Shelf.Strings.BuilderK
import Derived.Shelf.Strconv.Itoa0
import Derived.Shelf.Strconv.Itoa1
import Derived.Shelf.LaysM
import Derived.Shelf.Strconv.Itoa2
import Derived.Shelf.Strconv.Itoa3
import Derived.Test.YtpckmllmjdafpaaGreatDoorProg

/- Whether what stands in parentheses is what should. -/
namespace Go.Proofs.YtpckmllmjdafpaaGreatDoor
open Go.ChangeShapes Go.WideShapes Go.ChangeAt Go.RowKit
set_option linter.unusedVariables false

theorem run_load_node {o : Oper} {a : Act} (x : Operand) (ho : o.op = .load 24 x) (g : Nat) (hx : a.eval x = .pointer (some ⟨g, 0, none⟩)) {x0 x1 x2 x3 x4 : Value} (w : World) (h : Has w g 24 #[x0, x1, x2, x3, x4]) : (execOp a.eval o).run Tryz.prog w = .ok (.value (.agg #[x0, x1, x2, x3, x4])) w := by
  have q0 := h.cell 0
  have q1 := h.cell 1
  have q2 := h.cell 2
  have q3 := h.cell 3
  have q4 := h.cell 4
  unfold execOp
  simp only [ho, hx]
  go_simp

theorem wrap_same {x : Int} (h0 : -9223372036854775808 ≤ x) (h1 : x ≤ 9223372036854775807) : IntKind.i64.wrap x = x := by
  simp [IntKind.wrap, IntKind.signed, IntKind.bits]
  omega

theorem run_sub_one {o : Oper} {a : Act} (x : Operand) (ho : o.op = .binOp .sub 3 x (.const (.int .i64 1)) 3) (K : Nat) (hK : 1 ≤ K) (hK3 : K ≤ 3) (hx : a.eval x = .int .i64 (K : Nat)) (w : World) : (execOp a.eval o).run Tryz.prog w = .ok (.value (.int .i64 ((K - 1 : Nat) : Int))) w := by
  have e : ((K - 1 : Nat) : Int) = (K : Int) - 1 := by omega
  have h1 : (1 : Int) ≤ (K : Int) := by omega
  have h3 : (K : Int) ≤ 3 := by omega
  rw [e]
  unfold execOp
  simp only [ho, hx]
  go_simp
  exact wrap_same (by omega) (by omega)

theorem run_add_one {o : Oper} {a : Act} (x : Operand) (ho : o.op = .binOp .add 3 x (.const (.int .i64 1)) 3) (N : Nat) (hN : N ≤ 12) (hx : a.eval x = .int .i64 (N : Nat)) (w : World) : (execOp a.eval o).run Tryz.prog w = .ok (.value (.int .i64 ((N + 1 : Nat) : Int))) w := by
  have e : ((N + 1 : Nat) : Int) = (N : Int) + 1 := by omega
  have h3 : (N : Int) ≤ 12 := by omega
  have h0 : (0 : Int) ≤ (N : Int) := by omega
  rw [e]
  unfold execOp
  simp only [ho, hx]
  go_simp
  exact wrap_same (by omega) (by omega)

theorem run_min2 {o : Oper} {a : Act} (x y : Operand) (ho : o.op = .call { callee := .builtin .min, args := #[x, y], argTypes := #[3, 3] }) (n m : Nat) (hx : a.eval x = .int .i64 (n : Nat)) (hy : a.eval y = .int .i64 (m : Nat)) (w : World) : (execOp a.eval o).run Tryz.prog w = .ok (.value (.int .i64 ((min n m : Nat) : Int))) w := by
  unfold execOp
  simp only [ho, resolve, invoke, builtin, List.map_toArray, List.map_cons, List.map_nil, hx, hy]
  by_cases h : n < m
  · have e : min n m = n := by omega
    have h' : (n : Int) < (m : Int) := by omega
    rw [e]
    go_simp
    omega
  · have e : min n m = m := by omega
    have h' : ¬ (n : Int) < (m : Int) := by omega
    rw [e]
    go_simp
    omega

theorem parts_short {re : Nd → Bool} {n : Nd} (h : fits (inside n.op).1 (inside n.op).2 n.l.length = false) : partsOk re n = false := by
  unfold partsOk
  rw [h]
  rfl

theorem below_some {w w' : World} {p : Addr} {v : Value} (h : Below w.heap.size w w') (hc : w.cell? p = some v) : w'.cell? p = some v := (h.cell (World.block_lt_of_cell? w p hc)).trans hc

theorem kdAt_get {ks : List Kd} {i : Nat} (h : 0 < ks.length) : ∃ hk : min i (ks.length - 1) < ks.length, ks[min i (ks.length - 1)] = kdAt ks i := by
  have hk : min i (ks.length - 1) < ks.length := by omega
  exact ⟨hk, by unfold kdAt; rw [List.getD_eq_getElem?_getD, List.getElem?_eq_getElem hk]; rfl⟩

theorem allTo_succ (p : Nat → Bool) (i : Nat) : (List.range (i + 1)).all p = ((List.range i).all p && p i) := by
  rw [List.range_succ, List.all_append]
  simp

set_option maxRecDepth 100000 in
set_option maxHeartbeats 4000000 in
theorem hasParts_c (d N : Nat) (n : Nd) (A : Option Addr) (C : Nat) (w : World) (h : RdN w n A C) (hN : N ≤ 12)
    (hx : ∀ m A' C' W, RdN W m A' C' → Calls Tryz.prog 26 #[.agg (ndc m (.slice A' m.l.length C')), .int .i64 ((N + 1 : Nat) : Int)] W (Yes W (rightE d m))) :
    Calls Tryz.prog 39 #[.agg (ndc n (.slice A n.l.length C)), .int .i64 (N : Nat)] w (Yes w (partsOk (rightE d) n)) := by
  have hlen := h.len
  have ho := bs_toList n.op
  have hin := inside_c n.op
  have hpt := fun k m A' C' W (hr : RdN W m A' C') => isPart_c d (N + 1) k m A' C' W hr (by omega) (fun W hW => hx m A' C' W hW)
  have hpsh := parts_short (re := rightE d) (n := n)
  obtain ⟨K, hK⟩ : ∃ K, K = (inside n.op).1.length := ⟨_, rfl⟩
  have hK3 : K ≤ 3 := by rw [hK]; exact inside_len n.op
  have HK : Hid (K = (inside n.op).1.length) := hK
  generalize hB : (inside n.op).2 = B at hin hpsh
  have HB : Hid ((inside n.op).2 = B) := hB
  obtain ⟨L, hL⟩ : ∃ L, L = n.l.length := ⟨_, rfl⟩
  have HL : Hid (L = n.l.length) := hL
  have hL2 : L ≤ 9223372036854775807 := by omega
  have HF : Hid (fits (inside n.op).1 B L = (!(decide (K = 0)) && !(decide (L < K)) && !(decide (K < L) && !B))) := by show _ = _; unfold fits; rw [← hK]
  have hfe : fits (inside n.op).1 B L = false → partsOk (rightE d) n = false := by rw [hL]; exact hpsh
  rw [← hL]
  clear hpsh hx hK hB hL
  cases hft : fits (inside n.op).1 B L with
  | false =>
    rw [hfe hft]
    have hcs : K = 0 ∨ (K ≠ 0 ∧ L < K) ∨ (K ≠ 0 ∧ K < L ∧ B = false) := by
      rw [HF.out] at hft
      by_cases a1 : K = 0
      · exact .inl a1
      · by_cases a2 : L < K
        · exact .inr (.inl ⟨a1, a2⟩)
        · refine .inr (.inr ⟨a1, ?_⟩)
          simp [a1] at hft
          have a3 := hft (by omega)
          exact ⟨a3.1, a3.2⟩
    clear hfe hft HF hpt h
    unfold ndc
    rcases hcs with a1 | ⟨a1, a2⟩ | ⟨a1, a2, rfl⟩
    · have b1 : ((K : Nat) : Int) = 0 := by omega
      go_enter Tryz.func39, Tryz.ntmps39
      go_wp2_with (first
        | ((go_at_call 57)
           (refine (hin _).mono ?_)
           (rintro e w1 ⟨v, rfl, hb1, hs1⟩)
           (obtain ⟨A8, L8, C8, rfl⟩ : ∃ A L C, v = .slice A L C := by (rcases hs1 with ⟨_, rfl⟩ | ⟨g, rfl, _⟩ <;> exact ⟨_, _, _, rfl⟩))
           (obtain ⟨e8, l8, c8, g8⟩ := hs1.get)
           (rw [← HK.out] at e8)
           (have e8' := e8.symm)
           (subst e8')
           (have hN1 := (Has.new w _ _).below hb1 (by simp))
           (have n4 := hN1.cell 4)))
      go_ret
      exact ⟨rfl, (b_one w _).trans (hb1.mono (by simp))⟩
    · have b1 : ¬ ((K : Nat) : Int) = 0 := by omega
      have b2 : ((L : Nat) : Int) < ((K : Nat) : Int) := by omega
      go_enter Tryz.func39, Tryz.ntmps39
      go_wp2_with (first
        | ((go_at_call 57)
           (refine (hin _).mono ?_)
           (rintro e w1 ⟨v, rfl, hb1, hs1⟩)
           (obtain ⟨A8, L8, C8, rfl⟩ : ∃ A L C, v = .slice A L C := by (rcases hs1 with ⟨_, rfl⟩ | ⟨g, rfl, _⟩ <;> exact ⟨_, _, _, rfl⟩))
           (obtain ⟨e8, l8, c8, g8⟩ := hs1.get)
           (rw [← HK.out] at e8)
           (have e8' := e8.symm)
           (subst e8')
           (have hN1 := (Has.new w _ _).below hb1 (by simp))
           (have n4 := hN1.cell 4)))
      go_ret
      exact ⟨rfl, (b_one w _).trans (hb1.mono (by simp))⟩
    · have b1 : ¬ ((K : Nat) : Int) = 0 := by omega
      have b2 : ¬ ((L : Nat) : Int) < ((K : Nat) : Int) := by omega
      have b3 : ((K : Nat) : Int) < ((L : Nat) : Int) := by omega
      go_enter Tryz.func39, Tryz.ntmps39
      go_wp2_with (first
        | ((go_at_call 57)
           (refine (hin _).mono ?_)
           (rintro e w1 ⟨v, rfl, hb1, hs1⟩)
           (obtain ⟨A8, L8, C8, rfl⟩ : ∃ A L C, v = .slice A L C := by (rcases hs1 with ⟨_, rfl⟩ | ⟨g, rfl, _⟩ <;> exact ⟨_, _, _, rfl⟩))
           (obtain ⟨e8, l8, c8, g8⟩ := hs1.get)
           (rw [← HK.out] at e8)
           (have e8' := e8.symm)
           (subst e8')
           (have hN1 := (Has.new w _ _).below hb1 (by simp))
           (have n4 := hN1.cell 4)))
      go_ret
      exact ⟨rfl, (b_one w _).trans (hb1.mono (by simp))⟩
  | true =>
    have hcs : K ≠ 0 ∧ ¬ L < K ∧ (K < L → B = true) := by
      rw [HF.out] at hft
      simp only [Bool.and_eq_true, Bool.not_eq_true', decide_eq_false_iff_not, Bool.and_eq_false_iff, Bool.not_eq_false'] at hft
      refine ⟨hft.1.1, hft.1.2, fun hlt => ?_⟩
      rcases hft.2 with h | h
      · exact absurd hlt h
      · exact h
    have hP : partsOk (rightE d) n = (List.range L).all fun i => partOk (rightE d) (kdAt (inside n.op).1 i) (n.l.getD i (.mk [] [] 0 0 [])) := by
      unfold partsOk
      rw [HB.out, ← HL.out, hft, Bool.true_and]
    rw [hP]
    obtain ⟨b1, b2, b3⟩ := hcs
    have b1' : ¬ ((K : Nat) : Int) = 0 := by omega
    have b2' : ¬ ((L : Nat) : Int) < ((K : Nat) : Int) := by omega
    have hb3 : (((K : Nat) : Int) < ((L : Nat) : Int) ∧ B = true) ∨ ¬ ((K : Nat) : Int) < ((L : Nat) : Int) := by
      by_cases hlt : K < L
      · exact .inl ⟨by omega, b3 hlt⟩
      · exact .inr (by omega)
    clear hfe hft HF hP b3
    generalize hp : (fun i => partOk (rightE d) (kdAt (inside n.op).1 i) (n.l.getD i (.mk [] [] 0 0 []))) = p
    have HP : Hid (∀ i, p i = partOk (rightE d) (kdAt (inside n.op).1 i) (n.l.getD i (.mk [] [] 0 0 []))) := fun i => by rw [← hp]
    clear hp
    have hrd := h
    rw [show (ndc n (.slice A L C)) = #[.string (bs n.op), .string (bs n.s), .int .i64 n.n, .int .i64 n.a, .slice A L C] from rfl]
    rcases hb3 with ⟨b3, rfl⟩ | b3
    all_goals
      go_enter Tryz.func39, Tryz.ntmps39
      go_wp2_with (first
        | ((go_at_call 57)
           (refine (hin _).mono ?_)
           (rintro e w1 ⟨v, rfl, hb1, hs1⟩)
           (obtain ⟨A8, L8, C8, rfl⟩ : ∃ A L C, v = .slice A L C := by (rcases hs1 with ⟨_, rfl⟩ | ⟨g, rfl, _⟩ <;> exact ⟨_, _, _, rfl⟩))
           (obtain ⟨e8, l8, c8, g8⟩ := hs1.get)
           (rw [← HK.out] at e8)
           (have e8' := e8.symm)
           (subst e8')
           (have hN1 := (Has.new w _ _).below hb1 (by simp))
           (have n4 := hN1.cell 4)
           (have hbw : Below w.heap.size w w1 := (b_one w _).trans (hb1.mono (by simp)))))
      have hA0 : (List.range 0).all p = true := rfl
      obtain ⟨gk, rfl, -⟩ := g8 0 (by rw [← HK.out]; omega)
      clear g8 n4 hN1
      go_loopw [41] (fun z wz => ∃ i : Nat, i ≤ L ∧ z = .int .i64 (i : Nat) ∧ Below w1.heap.size w1 wz ∧ (List.range i).all p = true) (fun z _ => L - (intOf z).toNat)
      case atStart => exact ⟨0, Nat.zero_le _, rfl, Below.refl _ _, hA0⟩
      case round =>
        clear hA0
        obtain ⟨i, hi, rfl, hbz, hall⟩ := hrel
        have HA : Hid ((List.range i).all p = true) := hall
        clear hall
        by_cases hiL : i < L
        · have hiL2 : (i : Int) < (L : Int) := by omega
          have hiL' : i < n.l.length := by rw [← HL.out]; exact hiL
          have hbwr : Below w.heap.size w wr := hbw.trans (hbz.mono hbw.size)
          have hR := (hrd.grow hbwr).rd
          rw [← HL.out] at hR
          obtain ⟨g, off, u, rfl, hg, hc, hru, hsu, hou⟩ := hR.get i hiL'
          obtain ⟨m, hm⟩ : ∃ m, m = n.l[i] := ⟨_, rfl⟩
          rw [← hm] at hc hru hsu hou
          obtain ⟨Au, Cu, rfl, -, -⟩ := hru.slice
          have d0 := hc 0 (by decide)
          have d1 := hc 1 (by decide)
          have d2 := hc 2 (by decide)
          have d3 := hc 3 (by decide)
          have d4 := hc 4 (by decide)
          simp only [Nat.add_zero] at d0
          simp only [ndc] at d0 d1 d2 d3 d4
          obtain ⟨hk, hkg⟩ := kdAt_get (ks := (inside n.op).1) (i := i) (by rw [← HK.out]; omega)
          obtain ⟨k, hkk⟩ : ∃ k, k = kdAt (inside n.op).1 i := ⟨_, rfl⟩
          have hsw := hs1.below hbz
          obtain ⟨gk', ek, hck⟩ := hsw.get.2.2.2 _ hk
          cases ek
          rw [hkg, ← hkk, ← HK.out] at hck
          have hp1 : p i = partOk (rightE d) k m := by rw [HP.out i, ← hkk, hm, List.getD_eq_getElem?_getD, List.getElem?_eq_getElem hiL']; rfl
          have HP1 : Hid (p i = partOk (rightE d) k m) := hp1
          have hpm := fun W hW => hpt k m Au Cu W (RdN.grow (w := wr) ⟨hru, hsu, hou⟩ hW)
          generalize partOk (rightE d) k m = V at hpm HP1
          clear hp1 hkg hkk hm hc hR hpt hin hsw hk
          go_wp2
          obtain ⟨W0, hW0⟩ : ∃ W, W = wr.alloc (.cells #[.string (bs m.op), .string (bs m.s), .int .i64 m.n, .int .i64 m.a, .slice Au m.l.length Cu] 24) := ⟨_, rfl⟩
          have hbW0 : Below wr.heap.size wr W0 := by rw [hW0]; exact b_one _ _
          have hH0 : Has W0 wr.heap.size 24 #[.string (bs m.op), .string (bs m.s), .int .i64 m.n, .int .i64 m.a, .slice Au m.l.length Cu] := by rw [hW0]; exact Has.new _ _ _
          have hck0 : W0.cell? ⟨gk, min i (K - 1), none⟩ = some (.string (bs k.w)) := below_some hbW0 hck
          rw [← hW0]
          clear hW0
          refine lastTo (S := fun W => Has W wr.heap.size 24 #[.string (bs m.op), .string (bs m.s), .int .i64 m.n, .int .i64 m.a, .slice Au m.l.length Cu] ∧ W.cell? ⟨gk, min i (K - 1), none⟩ = some (.string (bs k.w))) 12 (by kernel_rfl) ⟨hH0, hck0⟩ (fun hHeld => ?_)
          refine takeC 0 [11] (some 46) (.agg #[.string (bs m.op), .string (bs m.s), .int .i64 m.n, .int .i64 m.a, .slice Au m.l.length Cu]) rfl rfl (by decide) (by kernel_rfl) (by kernel_rfl) (by kernel_rfl) (by kernel_rfl) (by kernel_rfl) (fun _ _ _ h => h) (by rfl) (fun wz hz => run_load_node _ rfl _ rfl _ hz.1) hHeld ?_
          simp only [Act.put, List.setIfInBounds_toArray, List.set_cons_zero, List.set_cons_succ]
          refine takeC 1 [7, 8, 11] (some 47) (.slice (some ⟨gk, 0, none⟩) K C8) rfl rfl (by decide) (by kernel_rfl) (by kernel_rfl) (by kernel_rfl) (by kernel_rfl) (by kernel_rfl) (fun _ _ _ h => h) (by rfl) (fun _ _ => rfl) hHeld ?_
          simp only [Act.put, List.setIfInBounds_toArray, List.set_cons_zero, List.set_cons_succ]
          refine takeC 2 [6, 7, 8, 11] (some 48) (.int .i64 (i : Nat)) rfl rfl (by decide) (by kernel_rfl) (by kernel_rfl) (by kernel_rfl) (by kernel_rfl) (by kernel_rfl) (fun _ _ _ h => h) (by rfl) (fun _ _ => rfl) hHeld ?_
          simp only [Act.put, List.setIfInBounds_toArray, List.set_cons_zero, List.set_cons_succ]
          refine takeC 3 [4, 5, 6, 7, 8, 11] (some 49) (.slice (some ⟨gk, 0, none⟩) K C8) rfl rfl (by decide) (by kernel_rfl) (by kernel_rfl) (by kernel_rfl) (by kernel_rfl) (by kernel_rfl) (fun _ _ _ h => h) (by rfl) (fun _ _ => rfl) hHeld ?_
          simp only [Act.put, List.setIfInBounds_toArray, List.set_cons_zero, List.set_cons_succ]
          refine takeC 4 [5, 6, 7, 8, 11] (some 50) (.int .i64 (K : Nat)) rfl rfl (by decide) (by kernel_rfl) (by kernel_rfl) (by kernel_rfl) (by kernel_rfl) (by kernel_rfl) (fun _ _ _ h => h) (by rfl) (fun wz _ => run_len_of 67 9 Tryz.underlying67 _ rfl _ _ _ rfl wz) hHeld ?_
          simp only [Act.put, List.setIfInBounds_toArray, List.set_cons_zero, List.set_cons_succ]
          refine takeC 5 [6, 7, 8, 11] (some 51) (.int .i64 ((K - 1 : Nat) : Int)) rfl rfl (by decide) (by kernel_rfl) (by kernel_rfl) (by kernel_rfl) (by kernel_rfl) (by kernel_rfl) (fun _ _ _ h => h) (by rfl) (fun wz _ => run_sub_one _ rfl K (by omega) hK3 rfl wz) hHeld ?_
          simp only [Act.put, List.setIfInBounds_toArray, List.set_cons_zero, List.set_cons_succ]
          refine takeC 6 [7, 8, 11] (some 52) (.int .i64 ((min i (K - 1) : Nat) : Int)) rfl rfl (by decide) (by kernel_rfl) (by kernel_rfl) (by kernel_rfl) (by kernel_rfl) (by kernel_rfl) (fun _ _ _ h => h) (by rfl) (fun wz _ => run_min2 _ _ rfl i (K - 1) rfl rfl wz) hHeld ?_
          simp only [Act.put, List.setIfInBounds_toArray, List.set_cons_zero, List.set_cons_succ]
          refine takeC 7 [8, 11] (some 53) (.pointer (some ⟨gk, 0 + min i (K - 1), none⟩)) rfl rfl (by decide) (by kernel_rfl) (by kernel_rfl) (by kernel_rfl) (by kernel_rfl) (by kernel_rfl) (fun _ _ _ h => h) (by rfl) (fun wz _ => run_at_slice 67 _ _ rfl gk 0 (min i (K - 1)) K C8 9 rfl rfl Tryz.underlying67 (by kernel_rfl) (by omega) wz) hHeld ?_
          simp only [Act.put, List.setIfInBounds_toArray, List.set_cons_zero, List.set_cons_succ]
          refine takeC 8 [11] (some 54) (.string (bs k.w)) rfl rfl (by decide) (by kernel_rfl) (by kernel_rfl) (by kernel_rfl) (by kernel_rfl) (by kernel_rfl) (fun _ _ _ h => h) (by rfl) (fun wz hz => run_load_one _ _ rfl (.inl rfl) _ rfl _ _ (by rw [Nat.zero_add]; exact hz.2)) hHeld ?_
          simp only [Act.put, List.setIfInBounds_toArray, List.set_cons_zero, List.set_cons_succ]
          refine takeC 9 [10, 11] (some 55) (.int .i64 (N : Nat)) rfl rfl (by decide) (by kernel_rfl) (by kernel_rfl) (by kernel_rfl) (by kernel_rfl) (by kernel_rfl) (fun _ _ _ h => h) (by rfl) (fun _ _ => rfl) hHeld ?_
          simp only [Act.put, List.setIfInBounds_toArray, List.set_cons_zero, List.set_cons_succ]
          refine takeC 10 [11] (some 56) (.int .i64 ((N + 1 : Nat) : Int)) rfl rfl (by decide) (by kernel_rfl) (by kernel_rfl) (by kernel_rfl) (by kernel_rfl) (by kernel_rfl) (fun _ _ _ h => h) (by rfl) (fun wz _ => run_add_one _ rfl N hN rfl wz) hHeld ?_
          simp only [Act.put, List.setIfInBounds_toArray, List.set_cons_zero, List.set_cons_succ]
          refine callL 11 (some 57) 58 #[.agg #[.string (bs m.op), .string (bs m.s), .int .i64 m.n, .int .i64 m.a, .slice Au m.l.length Cu], .string (bs k.w), .int .i64 ((N + 1 : Nat) : Int)] (by kernel_rfl) rfl rfl (by rfl) (by kernel_rfl) (hpm W0.drew (below_drew hbW0)) ?_
          rintro e w4 ⟨rfl, hb4⟩
          have hb4' : Below W0.heap.size W0 w4 := ⟨hb4.os, hb4.tape, hb4.output, hb4.size, hb4.block⟩
          refine ⟨_, rfl, ⟨hH0.below hb4' hH0.lt, below_some hb4' hck0⟩, ?_⟩
          simp only [Act.put, List.setIfInBounds_toArray, List.set_cons_zero, List.set_cons_succ]
          have hbN : Below w1.heap.size w1 w4 := (hbz.trans (hbW0.mono hbz.size)).trans (hb4'.mono (by have := hbz.size; have := hbW0.size; omega))
          clear hck0 hck hH0
          cases V with
          | true =>
            refine lastVal 12 (some 58) (.bool false) (by kernel_rfl) rfl rfl (by rfl) (by kernel_rfl) (by kernel_rfl) ?_
            simp only [Act.put, List.setIfInBounds_toArray, List.set_cons_zero, List.set_cons_succ]
            go_wp2
            go_roundw
            case rel => exact ⟨i + 1, by omega, by go_num, hbN, by rw [allTo_succ, HA.out, HP1.out]; rfl⟩
            case measure => simp [intOf]; omega
          | false =>
            refine lastVal 12 (some 58) (.bool true) (by kernel_rfl) rfl rfl (by rfl) (by kernel_rfl) (by kernel_rfl) ?_
            simp only [Act.put, List.setIfInBounds_toArray, List.set_cons_zero, List.set_cons_succ]
            go_wp2
            go_ret
            refine ⟨ret_bool ?_, hbw.trans (hbN.mono hbw.size)⟩
            symm
            rw [List.all_eq_false]
            exact ⟨i, List.mem_range.2 hiL, by rw [HP1.out]; decide⟩
        · have hiL2 : i = L := by omega
          subst hiL2
          go_wp2
          go_ret
          exact ⟨ret_bool HA.out.symm, hbw.trans (hbz.mono hbw.size)⟩

theorem isExpr_c (d : Nat) : ∀ (N : Nat) (n : Nd) (A : Option Addr) (C : Nat) (w : World), N + d = 13 → RdN w n A C → Calls Tryz.prog 26 #[.agg (ndc n (.slice A n.l.length C)), .int .i64 (N : Nat)] w (Yes w (rightE d n)) := by
  induction d with
  | zero =>
    intro N n A C w hN h
    have : N = 13 := by omega
    subst this
    exact isExpr_zero n A C w
  | succ d ih =>
    intro N n A C w hN h
    exact isExpr_one d N n A C w h (by omega) (fun W hW => hasParts_c d N n A C W hW (by omega) (fun m A' C' W' h' => ih (N + 1) m A' C' W' (by omega) h'))
end Go.Proofs.YtpckmllmjdafpaaGreatDoor

/- Statements, files: whether they may be. -/
namespace Go.Proofs.YtpckmllmjdafpaaGreatDoor
open Go.ChangeShapes Go.WideShapes Go.ChangeAt Go.RowKit
set_option linter.unusedVariables false

set_option maxRecDepth 100000 in
set_option maxHeartbeats 2000000 in
theorem isHex_c (n : Nd) (A : Option Addr) (L C : Nat) (w : World) (hm : n.s.length < maxLen) (hlL : L = n.l.length) (hL : L ≤ 9223372036854775807) : Calls Tryz.prog 25 #[.agg (ndc n (.slice A L C))] w (Yes w (hexOk n)) := by
  have htk : ∀ W, Calls Tryz.prog 37 #[.string (⟨#[36]⟩ ++ bs n.s)] W fun e w' => e = .returned (TokenOne (tok1 (36 :: n.s))) ∧ Below W.heap.size W w' := by
    intro W
    have e : (⟨#[36]⟩ : ByteArray) ++ bs n.s = bs (36 :: n.s) := by rw [show (⟨#[36]⟩ : ByteArray) = bs [36] from rfl, bs_cat]; rfl
    rw [e]
    exact token_c (36 :: n.s) W (by simp only [List.length_cons]; omega)
  have hsz := bs_size n.s
  have hsz2 : ((bs n.s).size : Int) < 9223372036854775807 := by unfold maxLen at hm; omega
  unfold hexOk hasHx
  rw [← hlL]
  unfold ndc
  have hs := bs_toList n.s
  have ho := bs_toList n.op
  generalize n.n = M at *
  clear hlL
  cases e1 : (n.op == wHex)
  · have e1' : (n.op == [104, 101, 120]) = false := e1
    generalize tok1 (36 :: n.s) = O at *
    cases O with
    | none =>
      simp only [TokenOne] at htk
      go_enter Tryz.func25, Tryz.ntmps25
      go_wp2_with (go_at_call 37; refine (htk _).mono ?_; rintro e w1 ⟨rfl, hb1⟩; have hN1 := (Has.new w _ _).below hb1 (by simp); have n0 := hN1.cell 0; have hlN := hN1.lt)
      go_ret
      exact ⟨rfl, bel_one hb1⟩
    | some t =>
      simp only [TokenOne, tkv] at htk
      go_enter Tryz.func25, Tryz.ntmps25
      go_wp2_with (go_at_call 37; refine (htk _).mono ?_; rintro e w1 ⟨rfl, hb1⟩; have hN1 := (Has.new w _ _).below hb1 (by simp); have n0 := hN1.cell 0; have hlN := hN1.lt)
      go_ret
      exact ⟨rfl, bel_one hb1⟩
  · have e1' : (n.op == [104, 101, 120]) = true := e1
    cases hO : tok1 (36 :: n.s) with
    | none =>
      rw [hO] at htk
      simp only [TokenOne] at htk
      clear hO
      go_enter Tryz.func25, Tryz.ntmps25
      go_wp2_with (go_at_call 37; refine (htk _).mono ?_; rintro e w1 ⟨rfl, hb1⟩; have hN1 := (Has.new w _ _).below hb1 (by simp); have n0 := hN1.cell 0; have hlN := hN1.lt)
      go_ret
      exact ⟨rfl, bel_one hb1⟩
    | some t =>
      rw [hO] at htk
      simp only [TokenOne, tkv] at htk
      obtain ⟨⟨K, S, V⟩, q⟩ := t
      simp only at htk ⊢
      have hs2 := bs_toList S
      clear hO
      by_cases h2 : K = 2
      · subst h2
        have htk' : ∀ W, Calls Tryz.prog 37 #[.string (⟨#[36]⟩ ++ bs n.s)] W fun e w' => e = .returned (.tuple #[.agg #[.int .i64 2, .string (bs S), .int .i64 (V : Nat), .int .i64 (q : Nat)], .bool true]) ∧ Below W.heap.size W w' := htk
        clear htk
        cases e3 : (S == n.s)
        · go_enter Tryz.func25, Tryz.ntmps25
          go_wp2_with (go_at_call 37; refine (htk' _).mono ?_; rintro e w1 ⟨rfl, hb1⟩; have hN1 := (Has.new w _ _).below hb1 (by simp); have n0 := hN1.cell 0; have n1 := hN1.cell 1; have hlN := hN1.lt)
          go_ret
          exact ⟨rfl, bel_one hb1⟩
        · by_cases hM : M = 0
          · subst hM
            by_cases hL0 : L = 0
            · subst hL0
              go_enter Tryz.func25, Tryz.ntmps25
              go_wp2_with (go_at_call 37; refine (htk' _).mono ?_; rintro e w1 ⟨rfl, hb1⟩; have hN1 := (Has.new w _ _).below hb1 (by simp); have n0 := hN1.cell 0; have n1 := hN1.cell 1; have n2 := hN1.cell 2; have n4 := hN1.cell 4; have hlN := hN1.lt)
              go_ret
              exact ⟨rfl, bel_one hb1⟩
            · have hL0' : ¬ (L : Int) = 0 := by omega
              go_enter Tryz.func25, Tryz.ntmps25
              go_wp2_with (go_at_call 37; refine (htk' _).mono ?_; rintro e w1 ⟨rfl, hb1⟩; have hN1 := (Has.new w _ _).below hb1 (by simp); have n0 := hN1.cell 0; have n1 := hN1.cell 1; have n2 := hN1.cell 2; have n4 := hN1.cell 4; have hlN := hN1.lt)
              go_ret
              exact ⟨by simp [hL0], bel_one hb1⟩
          · go_enter Tryz.func25, Tryz.ntmps25
            go_wp2_with (go_at_call 37; refine (htk' _).mono ?_; rintro e w1 ⟨rfl, hb1⟩; have hN1 := (Has.new w _ _).below hb1 (by simp); have n0 := hN1.cell 0; have n1 := hN1.cell 1; have n2 := hN1.cell 2; have hlN := hN1.lt)
            go_ret
            exact ⟨by simp [hM], bel_one hb1⟩
      · have h2' : ¬ ((K : Nat) : Int) = 2 := by omega
        go_enter Tryz.func25, Tryz.ntmps25
        go_wp2_with (go_at_call 37; refine (htk _).mono ?_; rintro e w1 ⟨rfl, hb1⟩; have hN1 := (Has.new w _ _).below hb1 (by simp); have n0 := hN1.cell 0; have hlN := hN1.lt)
        go_ret
        exact ⟨by simp [h2], bel_one hb1⟩
end Go.Proofs.YtpckmllmjdafpaaGreatDoor

/- Statements: whether they may be. -/
namespace Go.Proofs.YtpckmllmjdafpaaGreatDoor
open Go.ChangeShapes Go.WideShapes Go.ChangeAt Go.RowKit
set_option linter.unusedVariables false

/-- What is asked of a statement but for its name. -/
def rightR (n : Nd) : Bool :=
  (if n.op = wDevice ∨ n.op = wJournal then numOk n.n && decide (n.l.length = 0)
   else if n.op = wKey ∨ n.op = wRoot then decide (n.n = 0) && decide (n.l.length = 1) && hexOk (n.l.getD 0 (.mk [] [] 0 0 []))
   else if n.op = wVolume then decide (n.n = 0) && decide (n.l.length = 1) && rightE 12 (n.l.getD 0 (.mk [] [] 0 0 []))
   else if n.op = wExport then (decide (n.n = 0) || decide (n.n = 1)) && decide (n.l.length = 0)
   else false)

theorem rightS_eq (n : Nd) : rightS n = (hasNm n.s && rightR n) := rfl

set_option maxRecDepth 100000 in
set_option maxHeartbeats 2000000 in
theorem isStDevice_c (s : List UInt8) (M at_ : Int) (l : List Nd) (A : Option Addr) (C : Nat) (w : World) (h : RdN w (.mk wDevice s M at_ l) A C) (hname : hasNm s = true) :
    Calls Tryz.prog 16 #[.agg (ndc (.mk wDevice s M at_ l) (.slice A l.length C))] w (Yes w (rightR (.mk wDevice s M at_ l))) := by
  have hlen := h.len
  have hnam := fun W => hasName_c (.mk wDevice s M at_ l) A l.length C W (by have := h.s; omega)
  have hl2 : ((l.length : Nat) : Int) ≤ 9223372036854775807 := by have h1 := hlen.1; have h2 := hlen.2; simp only [Nd.l] at h1; omega
  simp only [Nd.s, hname] at hnam
  have hnum := fun W => hasNumber_c (.mk wDevice s M at_ l) A l.length C W
  have hR : rightR (.mk wDevice s M at_ l) = (numOk M && decide (l.length = 0)) := if_pos (by first | exact .inl rfl | exact .inr rfl)
  rw [hR]
  unfold ndc at hnum
  simp only [Nd.op, Nd.s, Nd.n, Nd.a, bsDevice] at hnum
  unfold ndc at hnam ⊢
  simp only [Nd.op, Nd.s, Nd.n, Nd.a, bsDevice] at hnam ⊢
  clear h hlen hR
  generalize numOk M = B at *
  generalize l.length = L at *
  cases B
  · go_enter Tryz.func16, Tryz.ntmps16
    go_wp2_with (first
      | (go_at_call 23; refine (hnam _).mono ?_; rintro e w1 ⟨rfl, hb1⟩; have hN1 := (Has.new w _ _).below hb1 (by simp); have n0 := hN1.cell 0; have n2 := hN1.cell 2; have n4 := hN1.cell 4; have q0 := hN1.cell 1; have q3 := hN1.cell 3; have hlN := hN1.lt)
      | (go_at_call 24; refine (hnum _).mono ?_; rintro e w2 ⟨rfl, hb2⟩))
    go_ret
    exact ⟨rfl, ((b_one w _).trans (hb1.mono (by simp))).trans (hb2.mono (by have := hb1.size; simp at this; omega))⟩
  · by_cases hL0 : L = 0
    · subst hL0
      go_enter Tryz.func16, Tryz.ntmps16
      go_wp2_with (first
        | (go_at_call 23; refine (hnam _).mono ?_; rintro e w1 ⟨rfl, hb1⟩; have hN1 := (Has.new w _ _).below hb1 (by simp); have n0 := hN1.cell 0; have n2 := hN1.cell 2; have n4 := hN1.cell 4; have q0 := hN1.cell 1; have q3 := hN1.cell 3; have hlN := hN1.lt)
        | (go_at_call 24; refine (hnum _).mono ?_; rintro e w2 ⟨rfl, hb2⟩; have m4 := (hN1.below hb2 hlN).cell 4))
      go_ret
      exact ⟨rfl, ((b_one w _).trans (hb1.mono (by simp))).trans (hb2.mono (by have := hb1.size; simp at this; omega))⟩
    · have hL0' : ¬ (L : Int) = 0 := by omega
      go_enter Tryz.func16, Tryz.ntmps16
      go_wp2_with (first
        | (go_at_call 23; refine (hnam _).mono ?_; rintro e w1 ⟨rfl, hb1⟩; have hN1 := (Has.new w _ _).below hb1 (by simp); have n0 := hN1.cell 0; have n2 := hN1.cell 2; have n4 := hN1.cell 4; have q0 := hN1.cell 1; have q3 := hN1.cell 3; have hlN := hN1.lt)
        | (go_at_call 24; refine (hnum _).mono ?_; rintro e w2 ⟨rfl, hb2⟩; have m4 := (hN1.below hb2 hlN).cell 4))
      go_ret
      exact ⟨by simp [hL0], ((b_one w _).trans (hb1.mono (by simp))).trans (hb2.mono (by have := hb1.size; simp at this; omega))⟩

set_option maxRecDepth 100000 in
set_option maxHeartbeats 2000000 in
theorem isStJournal_c (s : List UInt8) (M at_ : Int) (l : List Nd) (A : Option Addr) (C : Nat) (w : World) (h : RdN w (.mk wJournal s M at_ l) A C) (hname : hasNm s = true) :
    Calls Tryz.prog 16 #[.agg (ndc (.mk wJournal s M at_ l) (.slice A l.length C))] w (Yes w (rightR (.mk wJournal s M at_ l))) := by
  have hlen := h.len
  have hnam := fun W => hasName_c (.mk wJournal s M at_ l) A l.length C W (by have := h.s; omega)
  have hl2 : ((l.length : Nat) : Int) ≤ 9223372036854775807 := by have h1 := hlen.1; have h2 := hlen.2; simp only [Nd.l] at h1; omega
  simp only [Nd.s, hname] at hnam
  have hnum := fun W => hasNumber_c (.mk wJournal s M at_ l) A l.length C W
  have hR : rightR (.mk wJournal s M at_ l) = (numOk M && decide (l.length = 0)) := if_pos (by first | exact .inl rfl | exact .inr rfl)
  rw [hR]
  unfold ndc at hnum
  simp only [Nd.op, Nd.s, Nd.n, Nd.a, bsJournal] at hnum
  unfold ndc at hnam ⊢
  simp only [Nd.op, Nd.s, Nd.n, Nd.a, bsJournal] at hnam ⊢
  clear h hlen hR
  generalize numOk M = B at *
  generalize l.length = L at *
  cases B
  · go_enter Tryz.func16, Tryz.ntmps16
    go_wp2_with (first
      | (go_at_call 23; refine (hnam _).mono ?_; rintro e w1 ⟨rfl, hb1⟩; have hN1 := (Has.new w _ _).below hb1 (by simp); have n0 := hN1.cell 0; have n2 := hN1.cell 2; have n4 := hN1.cell 4; have q0 := hN1.cell 1; have q3 := hN1.cell 3; have hlN := hN1.lt)
      | (go_at_call 24; refine (hnum _).mono ?_; rintro e w2 ⟨rfl, hb2⟩))
    go_ret
    exact ⟨rfl, ((b_one w _).trans (hb1.mono (by simp))).trans (hb2.mono (by have := hb1.size; simp at this; omega))⟩
  · by_cases hL0 : L = 0
    · subst hL0
      go_enter Tryz.func16, Tryz.ntmps16
      go_wp2_with (first
        | (go_at_call 23; refine (hnam _).mono ?_; rintro e w1 ⟨rfl, hb1⟩; have hN1 := (Has.new w _ _).below hb1 (by simp); have n0 := hN1.cell 0; have n2 := hN1.cell 2; have n4 := hN1.cell 4; have q0 := hN1.cell 1; have q3 := hN1.cell 3; have hlN := hN1.lt)
        | (go_at_call 24; refine (hnum _).mono ?_; rintro e w2 ⟨rfl, hb2⟩; have m4 := (hN1.below hb2 hlN).cell 4))
      go_ret
      exact ⟨rfl, ((b_one w _).trans (hb1.mono (by simp))).trans (hb2.mono (by have := hb1.size; simp at this; omega))⟩
    · have hL0' : ¬ (L : Int) = 0 := by omega
      go_enter Tryz.func16, Tryz.ntmps16
      go_wp2_with (first
        | (go_at_call 23; refine (hnam _).mono ?_; rintro e w1 ⟨rfl, hb1⟩; have hN1 := (Has.new w _ _).below hb1 (by simp); have n0 := hN1.cell 0; have n2 := hN1.cell 2; have n4 := hN1.cell 4; have q0 := hN1.cell 1; have q3 := hN1.cell 3; have hlN := hN1.lt)
        | (go_at_call 24; refine (hnum _).mono ?_; rintro e w2 ⟨rfl, hb2⟩; have m4 := (hN1.below hb2 hlN).cell 4))
      go_ret
      exact ⟨by simp [hL0], ((b_one w _).trans (hb1.mono (by simp))).trans (hb2.mono (by have := hb1.size; simp at this; omega))⟩

set_option maxRecDepth 100000 in
set_option maxHeartbeats 2000000 in
theorem isStKey_c (s : List UInt8) (M at_ : Int) (l : List Nd) (A : Option Addr) (C : Nat) (w : World) (h : RdN w (.mk wKey s M at_ l) A C) (hname : hasNm s = true) :
    Calls Tryz.prog 16 #[.agg (ndc (.mk wKey s M at_ l) (.slice A l.length C))] w (Yes w (rightR (.mk wKey s M at_ l))) := by
  have hlen := h.len
  have hnam := fun W => hasName_c (.mk wKey s M at_ l) A l.length C W (by have := h.s; omega)
  have hl2 : ((l.length : Nat) : Int) ≤ 9223372036854775807 := by have h1 := hlen.1; have h2 := hlen.2; simp only [Nd.l] at h1; omega
  simp only [Nd.s, hname] at hnam
  have hR : rightR (.mk wKey s M at_ l) = (decide (M = 0) && decide (l.length = 1) && hexOk (l.getD 0 (.mk [] [] 0 0 []))) := (if_neg (by show ¬ (wKey = wDevice ∨ wKey = wJournal); decide)).trans (if_pos (by first | exact .inl rfl | exact .inr rfl))
  rw [hR]
  unfold ndc at hnam ⊢
  simp only [Nd.op, Nd.s, Nd.n, Nd.a, bsKey] at hnam ⊢
  by_cases hM : M = 0
  · subst hM
    by_cases hL1 : l.length = 1
    · obtain ⟨m, rfl⟩ := List.length_eq_one_iff.1 hL1
      obtain ⟨g, off, u, rfl, hg, hc, hru, hsu, hou⟩ := h.rd.get 0 (by simp [Nd.l])
      simp only [Nd.l, List.getElem_cons_zero] at hc hru hsu hou
      obtain ⟨Au, Cu, rfl, hu1, hu2⟩ := hru.slice
      have d0 := hc 0 (by decide)
      have d1 := hc 1 (by decide)
      have d2 := hc 2 (by decide)
      have d3 := hc 3 (by decide)
      have d4 := hc 4 (by decide)
      simp only [ndc, Nat.zero_mul, Nat.add_zero] at d0 d1 d2 d3 d4
      have hgu : ∀ W, Below w.heap.size w W → RdN W m Au Cu := fun W hW => RdN.grow (w := w) ⟨hru, hsu, hou⟩ hW
      have hsub : ∀ W, Below w.heap.size w W → Calls Tryz.prog 25 #[.agg #[.string (bs m.op), .string (bs m.s), .int .i64 m.n, .int .i64 m.a, .slice Au m.l.length Cu]] W (Yes W (hexOk m)) := fun W hW => isHex_c m Au m.l.length Cu W hsu rfl (Nat.le_trans hu1 hu2)
      obtain ⟨B, hB⟩ : ∃ B, B = hexOk m := ⟨_, rfl⟩
      have hV : (decide ((0 : Int) = 0) && decide (([m] : List Nd).length = 1) && hexOk (([m] : List Nd).getD 0 (.mk [] [] 0 0 []))) = B := by rw [hB]; simp
      rw [← hB] at hsub
      rw [hV]
      clear hV hB
      show Calls _ _ _ _ (Yes w B)
      rw [show ([m] : List Nd).length = 1 from rfl] at hnam ⊢
      clear h hlen hR hc hL1 hl2
      go_enter Tryz.func16, Tryz.ntmps16
      go_wp2_with (first
        | ((go_at_call 23)
           (refine (hnam _).mono ?_)
           (rintro e w1 ⟨rfl, hb1⟩)
           (have hN1 := (Has.new w _ _).below hb1 (by simp))
           (have n0 := hN1.cell 0)
           (have n2 := hN1.cell 2)
           (have n4 := hN1.cell 4)
           (have hlN := hN1.lt)
           (have hbw : Below w.heap.size w w1 := (b_one w _).trans (hb1.mono (by simp)))
           (have e0 := below_some hbw d0)
           (have e1 := below_some hbw d1)
           (have e2 := below_some hbw d2)
           (have e3 := below_some hbw d3)
           (have e4 := below_some hbw d4))
        | (go_at_call 25; refine (hsub _ hbw).mono ?_; rintro e w2 ⟨rfl, hb2⟩))
      go_ret
      exact ⟨rfl, hbw.trans (hb2.mono hbw.size)⟩
    · have hL1' : ¬ ((l.length : Nat) : Int) = 1 := by omega
      have hD : decide (l.length = 1) = false := by simp [hL1]
      rw [hD, Bool.and_false, Bool.false_and]
      clear h hlen hR hD
      generalize l.length = L at *
      go_enter Tryz.func16, Tryz.ntmps16
      go_wp2_with (go_at_call 23; refine (hnam _).mono ?_; rintro e w1 ⟨rfl, hb1⟩; have hN1 := (Has.new w _ _).below hb1 (by simp); have n0 := hN1.cell 0; have n2 := hN1.cell 2; have n4 := hN1.cell 4; have q0 := hN1.cell 1; have q3 := hN1.cell 3; have hlN := hN1.lt)
      go_ret
      exact ⟨rfl, (b_one w _).trans (hb1.mono (by simp))⟩
  · have hD : decide (M = 0) = false := by simp [hM]
    rw [hD, Bool.false_and, Bool.false_and]
    clear h hlen hR hD
    generalize l.length = L at *
    go_enter Tryz.func16, Tryz.ntmps16
    go_wp2_with (go_at_call 23; refine (hnam _).mono ?_; rintro e w1 ⟨rfl, hb1⟩; have hN1 := (Has.new w _ _).below hb1 (by simp); have n0 := hN1.cell 0; have n2 := hN1.cell 2; have n4 := hN1.cell 4; have q0 := hN1.cell 1; have q3 := hN1.cell 3; have hlN := hN1.lt)
    go_ret
    exact ⟨rfl, (b_one w _).trans (hb1.mono (by simp))⟩

set_option maxRecDepth 100000 in
set_option maxHeartbeats 2000000 in
theorem isStRoot_c (s : List UInt8) (M at_ : Int) (l : List Nd) (A : Option Addr) (C : Nat) (w : World) (h : RdN w (.mk wRoot s M at_ l) A C) (hname : hasNm s = true) :
    Calls Tryz.prog 16 #[.agg (ndc (.mk wRoot s M at_ l) (.slice A l.length C))] w (Yes w (rightR (.mk wRoot s M at_ l))) := by
  have hlen := h.len
  have hnam := fun W => hasName_c (.mk wRoot s M at_ l) A l.length C W (by have := h.s; omega)
  have hl2 : ((l.length : Nat) : Int) ≤ 9223372036854775807 := by have h1 := hlen.1; have h2 := hlen.2; simp only [Nd.l] at h1; omega
  simp only [Nd.s, hname] at hnam
  have hR : rightR (.mk wRoot s M at_ l) = (decide (M = 0) && decide (l.length = 1) && hexOk (l.getD 0 (.mk [] [] 0 0 []))) := (if_neg (by show ¬ (wRoot = wDevice ∨ wRoot = wJournal); decide)).trans (if_pos (by first | exact .inl rfl | exact .inr rfl))
  rw [hR]
  unfold ndc at hnam ⊢
  simp only [Nd.op, Nd.s, Nd.n, Nd.a, bsRoot] at hnam ⊢
  by_cases hM : M = 0
  · subst hM
    by_cases hL1 : l.length = 1
    · obtain ⟨m, rfl⟩ := List.length_eq_one_iff.1 hL1
      obtain ⟨g, off, u, rfl, hg, hc, hru, hsu, hou⟩ := h.rd.get 0 (by simp [Nd.l])
      simp only [Nd.l, List.getElem_cons_zero] at hc hru hsu hou
      obtain ⟨Au, Cu, rfl, hu1, hu2⟩ := hru.slice
      have d0 := hc 0 (by decide)
      have d1 := hc 1 (by decide)
      have d2 := hc 2 (by decide)
      have d3 := hc 3 (by decide)
      have d4 := hc 4 (by decide)
      simp only [ndc, Nat.zero_mul, Nat.add_zero] at d0 d1 d2 d3 d4
      have hgu : ∀ W, Below w.heap.size w W → RdN W m Au Cu := fun W hW => RdN.grow (w := w) ⟨hru, hsu, hou⟩ hW
      have hsub : ∀ W, Below w.heap.size w W → Calls Tryz.prog 25 #[.agg #[.string (bs m.op), .string (bs m.s), .int .i64 m.n, .int .i64 m.a, .slice Au m.l.length Cu]] W (Yes W (hexOk m)) := fun W hW => isHex_c m Au m.l.length Cu W hsu rfl (Nat.le_trans hu1 hu2)
      obtain ⟨B, hB⟩ : ∃ B, B = hexOk m := ⟨_, rfl⟩
      have hV : (decide ((0 : Int) = 0) && decide (([m] : List Nd).length = 1) && hexOk (([m] : List Nd).getD 0 (.mk [] [] 0 0 []))) = B := by rw [hB]; simp
      rw [← hB] at hsub
      rw [hV]
      clear hV hB
      show Calls _ _ _ _ (Yes w B)
      rw [show ([m] : List Nd).length = 1 from rfl] at hnam ⊢
      clear h hlen hR hc hL1 hl2
      go_enter Tryz.func16, Tryz.ntmps16
      go_wp2_with (first
        | ((go_at_call 23)
           (refine (hnam _).mono ?_)
           (rintro e w1 ⟨rfl, hb1⟩)
           (have hN1 := (Has.new w _ _).below hb1 (by simp))
           (have n0 := hN1.cell 0)
           (have n2 := hN1.cell 2)
           (have n4 := hN1.cell 4)
           (have hlN := hN1.lt)
           (have hbw : Below w.heap.size w w1 := (b_one w _).trans (hb1.mono (by simp)))
           (have e0 := below_some hbw d0)
           (have e1 := below_some hbw d1)
           (have e2 := below_some hbw d2)
           (have e3 := below_some hbw d3)
           (have e4 := below_some hbw d4))
        | (go_at_call 25; refine (hsub _ hbw).mono ?_; rintro e w2 ⟨rfl, hb2⟩))
      go_ret
      exact ⟨rfl, hbw.trans (hb2.mono hbw.size)⟩
    · have hL1' : ¬ ((l.length : Nat) : Int) = 1 := by omega
      have hD : decide (l.length = 1) = false := by simp [hL1]
      rw [hD, Bool.and_false, Bool.false_and]
      clear h hlen hR hD
      generalize l.length = L at *
      go_enter Tryz.func16, Tryz.ntmps16
      go_wp2_with (go_at_call 23; refine (hnam _).mono ?_; rintro e w1 ⟨rfl, hb1⟩; have hN1 := (Has.new w _ _).below hb1 (by simp); have n0 := hN1.cell 0; have n2 := hN1.cell 2; have n4 := hN1.cell 4; have q0 := hN1.cell 1; have q3 := hN1.cell 3; have hlN := hN1.lt)
      go_ret
      exact ⟨rfl, (b_one w _).trans (hb1.mono (by simp))⟩
  · have hD : decide (M = 0) = false := by simp [hM]
    rw [hD, Bool.false_and, Bool.false_and]
    clear h hlen hR hD
    generalize l.length = L at *
    go_enter Tryz.func16, Tryz.ntmps16
    go_wp2_with (go_at_call 23; refine (hnam _).mono ?_; rintro e w1 ⟨rfl, hb1⟩; have hN1 := (Has.new w _ _).below hb1 (by simp); have n0 := hN1.cell 0; have n2 := hN1.cell 2; have n4 := hN1.cell 4; have q0 := hN1.cell 1; have q3 := hN1.cell 3; have hlN := hN1.lt)
    go_ret
    exact ⟨rfl, (b_one w _).trans (hb1.mono (by simp))⟩

set_option maxRecDepth 100000 in
set_option maxHeartbeats 2000000 in
theorem isStVolume_c (s : List UInt8) (M at_ : Int) (l : List Nd) (A : Option Addr) (C : Nat) (w : World) (h : RdN w (.mk wVolume s M at_ l) A C) (hname : hasNm s = true) :
    Calls Tryz.prog 16 #[.agg (ndc (.mk wVolume s M at_ l) (.slice A l.length C))] w (Yes w (rightR (.mk wVolume s M at_ l))) := by
  have hlen := h.len
  have hnam := fun W => hasName_c (.mk wVolume s M at_ l) A l.length C W (by have := h.s; omega)
  have hl2 : ((l.length : Nat) : Int) ≤ 9223372036854775807 := by have h1 := hlen.1; have h2 := hlen.2; simp only [Nd.l] at h1; omega
  simp only [Nd.s, hname] at hnam
  have hR : rightR (.mk wVolume s M at_ l) = (decide (M = 0) && decide (l.length = 1) && rightE 12 (l.getD 0 (.mk [] [] 0 0 []))) := (if_neg (by show ¬ (wVolume = wDevice ∨ wVolume = wJournal); decide)).trans ((if_neg (by show ¬ (wVolume = wKey ∨ wVolume = wRoot); decide)).trans (if_pos rfl))
  rw [hR]
  unfold ndc at hnam ⊢
  simp only [Nd.op, Nd.s, Nd.n, Nd.a, bsVolume] at hnam ⊢
  by_cases hM : M = 0
  · subst hM
    by_cases hL1 : l.length = 1
    · obtain ⟨m, rfl⟩ := List.length_eq_one_iff.1 hL1
      obtain ⟨g, off, u, rfl, hg, hc, hru, hsu, hou⟩ := h.rd.get 0 (by simp [Nd.l])
      simp only [Nd.l, List.getElem_cons_zero] at hc hru hsu hou
      obtain ⟨Au, Cu, rfl, hu1, hu2⟩ := hru.slice
      have d0 := hc 0 (by decide)
      have d1 := hc 1 (by decide)
      have d2 := hc 2 (by decide)
      have d3 := hc 3 (by decide)
      have d4 := hc 4 (by decide)
      simp only [ndc, Nat.zero_mul, Nat.add_zero] at d0 d1 d2 d3 d4
      have hgu : ∀ W, Below w.heap.size w W → RdN W m Au Cu := fun W hW => RdN.grow (w := w) ⟨hru, hsu, hou⟩ hW
      have hsub : ∀ W, Below w.heap.size w W → Calls Tryz.prog 26 #[.agg #[.string (bs m.op), .string (bs m.s), .int .i64 m.n, .int .i64 m.a, .slice Au m.l.length Cu], .int .i64 1] W (Yes W (rightE 12 m)) := fun W hW => isExpr_c 12 1 m Au Cu W rfl (hgu W hW)
      obtain ⟨B, hB⟩ : ∃ B, B = rightE 12 m := ⟨_, rfl⟩
      have hV : (decide ((0 : Int) = 0) && decide (([m] : List Nd).length = 1) && rightE 12 (([m] : List Nd).getD 0 (.mk [] [] 0 0 []))) = B := by rw [hB]; simp
      rw [← hB] at hsub
      rw [hV]
      clear hV hB
      show Calls _ _ _ _ (Yes w B)
      rw [show ([m] : List Nd).length = 1 from rfl] at hnam ⊢
      clear h hlen hR hc hL1 hl2
      go_enter Tryz.func16, Tryz.ntmps16
      go_wp2_with (first
        | ((go_at_call 23)
           (refine (hnam _).mono ?_)
           (rintro e w1 ⟨rfl, hb1⟩)
           (have hN1 := (Has.new w _ _).below hb1 (by simp))
           (have n0 := hN1.cell 0)
           (have n2 := hN1.cell 2)
           (have n4 := hN1.cell 4)
           (have hlN := hN1.lt)
           (have hbw : Below w.heap.size w w1 := (b_one w _).trans (hb1.mono (by simp)))
           (have e0 := below_some hbw d0)
           (have e1 := below_some hbw d1)
           (have e2 := below_some hbw d2)
           (have e3 := below_some hbw d3)
           (have e4 := below_some hbw d4))
        | (go_at_call 26; refine (hsub _ hbw).mono ?_; rintro e w2 ⟨rfl, hb2⟩))
      go_ret
      exact ⟨rfl, hbw.trans (hb2.mono hbw.size)⟩
    · have hL1' : ¬ ((l.length : Nat) : Int) = 1 := by omega
      have hD : decide (l.length = 1) = false := by simp [hL1]
      rw [hD, Bool.and_false, Bool.false_and]
      clear h hlen hR hD
      generalize l.length = L at *
      go_enter Tryz.func16, Tryz.ntmps16
      go_wp2_with (go_at_call 23; refine (hnam _).mono ?_; rintro e w1 ⟨rfl, hb1⟩; have hN1 := (Has.new w _ _).below hb1 (by simp); have n0 := hN1.cell 0; have n2 := hN1.cell 2; have n4 := hN1.cell 4; have q0 := hN1.cell 1; have q3 := hN1.cell 3; have hlN := hN1.lt)
      go_ret
      exact ⟨rfl, (b_one w _).trans (hb1.mono (by simp))⟩
  · have hD : decide (M = 0) = false := by simp [hM]
    rw [hD, Bool.false_and, Bool.false_and]
    clear h hlen hR hD
    generalize l.length = L at *
    go_enter Tryz.func16, Tryz.ntmps16
    go_wp2_with (go_at_call 23; refine (hnam _).mono ?_; rintro e w1 ⟨rfl, hb1⟩; have hN1 := (Has.new w _ _).below hb1 (by simp); have n0 := hN1.cell 0; have n2 := hN1.cell 2; have n4 := hN1.cell 4; have q0 := hN1.cell 1; have q3 := hN1.cell 3; have hlN := hN1.lt)
    go_ret
    exact ⟨rfl, (b_one w _).trans (hb1.mono (by simp))⟩

set_option maxRecDepth 100000 in
set_option maxHeartbeats 2000000 in
theorem isStExport_c (s : List UInt8) (M at_ : Int) (l : List Nd) (A : Option Addr) (C : Nat) (w : World) (h : RdN w (.mk wExport s M at_ l) A C) (hname : hasNm s = true) :
    Calls Tryz.prog 16 #[.agg (ndc (.mk wExport s M at_ l) (.slice A l.length C))] w (Yes w (rightR (.mk wExport s M at_ l))) := by
  have hlen := h.len
  have hnam := fun W => hasName_c (.mk wExport s M at_ l) A l.length C W (by have := h.s; omega)
  have hl2 : ((l.length : Nat) : Int) ≤ 9223372036854775807 := by have h1 := hlen.1; have h2 := hlen.2; simp only [Nd.l] at h1; omega
  simp only [Nd.s, hname] at hnam
  have hR : rightR (.mk wExport s M at_ l) = ((decide (M = 0) || decide (M = 1)) && decide (l.length = 0)) := (if_neg (by show ¬ (wExport = wDevice ∨ wExport = wJournal); decide)).trans ((if_neg (by show ¬ (wExport = wKey ∨ wExport = wRoot); decide)).trans ((if_neg (by show ¬ wExport = wVolume; decide)).trans (if_pos rfl)))
  rw [hR]
  unfold ndc at hnam ⊢
  simp only [Nd.op, Nd.s, Nd.n, Nd.a, bsExport] at hnam ⊢
  clear h hlen hR
  generalize l.length = L at *
  by_cases hM : M = 0
  · subst hM
    by_cases hL0 : L = 0
    · subst hL0
      go_enter Tryz.func16, Tryz.ntmps16
      go_wp2_with (go_at_call 23; refine (hnam _).mono ?_; rintro e w1 ⟨rfl, hb1⟩; have hN1 := (Has.new w _ _).below hb1 (by simp); have n0 := hN1.cell 0; have n2 := hN1.cell 2; have n4 := hN1.cell 4; have q0 := hN1.cell 1; have q3 := hN1.cell 3; have hlN := hN1.lt)
      go_ret
      exact ⟨rfl, (b_one w _).trans (hb1.mono (by simp))⟩
    · have hL0' : ¬ (L : Int) = 0 := by omega
      go_enter Tryz.func16, Tryz.ntmps16
      go_wp2_with (go_at_call 23; refine (hnam _).mono ?_; rintro e w1 ⟨rfl, hb1⟩; have hN1 := (Has.new w _ _).below hb1 (by simp); have n0 := hN1.cell 0; have n2 := hN1.cell 2; have n4 := hN1.cell 4; have q0 := hN1.cell 1; have q3 := hN1.cell 3; have hlN := hN1.lt)
      go_ret
      exact ⟨by simp [hL0], (b_one w _).trans (hb1.mono (by simp))⟩
  · by_cases hM1 : M = 1
    · subst hM1
      by_cases hL0 : L = 0
      · subst hL0
        go_enter Tryz.func16, Tryz.ntmps16
        go_wp2_with (go_at_call 23; refine (hnam _).mono ?_; rintro e w1 ⟨rfl, hb1⟩; have hN1 := (Has.new w _ _).below hb1 (by simp); have n0 := hN1.cell 0; have n2 := hN1.cell 2; have n4 := hN1.cell 4; have q0 := hN1.cell 1; have q3 := hN1.cell 3; have hlN := hN1.lt)
        go_ret
        exact ⟨rfl, (b_one w _).trans (hb1.mono (by simp))⟩
      · have hL0' : ¬ (L : Int) = 0 := by omega
        go_enter Tryz.func16, Tryz.ntmps16
        go_wp2_with (go_at_call 23; refine (hnam _).mono ?_; rintro e w1 ⟨rfl, hb1⟩; have hN1 := (Has.new w _ _).below hb1 (by simp); have n0 := hN1.cell 0; have n2 := hN1.cell 2; have n4 := hN1.cell 4; have q0 := hN1.cell 1; have q3 := hN1.cell 3; have hlN := hN1.lt)
        go_ret
        exact ⟨by simp [hL0], (b_one w _).trans (hb1.mono (by simp))⟩
    · go_enter Tryz.func16, Tryz.ntmps16
      go_wp2_with (go_at_call 23; refine (hnam _).mono ?_; rintro e w1 ⟨rfl, hb1⟩; have hN1 := (Has.new w _ _).below hb1 (by simp); have n0 := hN1.cell 0; have n2 := hN1.cell 2; have n4 := hN1.cell 4; have q0 := hN1.cell 1; have q3 := hN1.cell 3; have hlN := hN1.lt)
      go_ret
      exact ⟨by simp [hM, hM1], (b_one w _).trans (hb1.mono (by simp))⟩

set_option maxRecDepth 100000 in
set_option maxHeartbeats 2000000 in
theorem isStatement_c (n : Nd) (A : Option Addr) (C : Nat) (w : World) (h : RdN w n A C) : Calls Tryz.prog 16 #[.agg (ndc n (.slice A n.l.length C))] w (Yes w (rightS n)) := by
  rw [rightS_eq]
  cases hname : hasNm n.s with
  | false =>
    have hnam := fun W => hasName_c n A n.l.length C W (by have := h.s; omega)
    rw [hname] at hnam
    unfold ndc at *
    clear hname
    go_enter Tryz.func16, Tryz.ntmps16
    go_wp2_with (go_at_call 23; refine (hnam _).mono ?_; rintro e w1 ⟨rfl, hb1⟩)
    go_ret
    exact ⟨rfl, (b_one w _).trans (hb1.mono (by simp))⟩
  | true =>
    rw [Bool.true_and]
    obtain ⟨op, s, M, at_, l⟩ := n
    simp only [Nd.s] at hname
    by_cases h1 : op = wDevice
    · subst h1; exact isStDevice_c s M at_ l A C w h hname
    by_cases h2 : op = wJournal
    · subst h2; exact isStJournal_c s M at_ l A C w h hname
    by_cases h3 : op = wKey
    · subst h3; exact isStKey_c s M at_ l A C w h hname
    by_cases h4 : op = wRoot
    · subst h4; exact isStRoot_c s M at_ l A C w h hname
    by_cases h5 : op = wVolume
    · subst h5; exact isStVolume_c s M at_ l A C w h hname
    by_cases h6 : op = wExport
    · subst h6; exact isStExport_c s M at_ l A C w h hname
    have hR : rightR (.mk op s M at_ l) = false := (if_neg (by show ¬ (op = wDevice ∨ op = wJournal); simp [h1, h2])).trans ((if_neg (by show ¬ (op = wKey ∨ op = wRoot); simp [h3, h4])).trans ((if_neg h5).trans (if_neg h6)))
    rw [hR]
    have hnam := fun W => hasName_c (.mk op s M at_ l) A l.length C W (by have := h.s; omega)
    simp only [Nd.s, hname] at hnam
    have ho := bs_toList op
    have t1 : (op == [100, 101, 118, 105, 99, 101]) = false := by rw [beq_eq_false_iff_ne]; exact h1
    have t2 : (op == [106, 111, 117, 114, 110, 97, 108]) = false := by rw [beq_eq_false_iff_ne]; exact h2
    have t3 : (op == [107, 101, 121]) = false := by rw [beq_eq_false_iff_ne]; exact h3
    have t4 : (op == [114, 111, 111, 116]) = false := by rw [beq_eq_false_iff_ne]; exact h4
    have t5 : (op == [118, 111, 108, 117, 109, 101]) = false := by rw [beq_eq_false_iff_ne]; exact h5
    have t6 : (op == [101, 120, 112, 111, 114, 116]) = false := by rw [beq_eq_false_iff_ne]; exact h6
    unfold ndc at *
    simp only [Nd.op, Nd.s, Nd.n, Nd.a, Nd.l] at *
    generalize l.length = L at *
    clear hR hname h1 h2 h3 h4 h5 h6
    go_enter Tryz.func16, Tryz.ntmps16
    go_wp2_with (go_at_call 23; refine (hnam _).mono ?_; rintro e w1 ⟨rfl, hb1⟩; have hN1 := (Has.new w _ _).below hb1 (by simp); have n0 := hN1.cell 0)
    go_ret
    exact ⟨rfl, (b_one w _).trans (hb1.mono (by simp))⟩

set_option maxRecDepth 100000 in
set_option maxHeartbeats 2000000 in
theorem right_c (n : Nd) (A : Option Addr) (C : Nat) (w : World) (h : RdN w n A C) : Calls Tryz.prog 8 #[.agg (ndc n (.slice A n.l.length C))] w (Yes w (Right n)) := by
  have hlen := h.len
  have ho := bs_toList n.op
  have hs := bs_toList n.s
  have hst := fun m Au Cu W (hr : RdN W m Au Cu) => isStatement_c m Au Cu W hr
  obtain ⟨L, hL⟩ : ∃ L, L = n.l.length := ⟨_, rfl⟩
  have HL : Hid (L = n.l.length) := hL
  have hL2 : L ≤ 9223372036854775807 := by omega
  have hE : Right n = ((List.range L).all (fun i => rightS (n.l.getD i (.mk [] [] 0 0 []))) && (n.op == wFile && (n.s == [] && decide (n.n = 0)))) := by
    unfold Right
    rw [hL, Bool.and_assoc, Bool.and_assoc]
    congr 1
    rw [Bool.eq_iff_iff, List.all_eq_true, List.all_eq_true]
    constructor
    · intro hh i hi
      have hi' := List.mem_range.1 hi
      rw [List.getD_eq_getElem?_getD, List.getElem?_eq_getElem hi']
      exact hh _ (List.getElem_mem hi')
    · intro hh x hx
      obtain ⟨i, hi, rfl⟩ := List.getElem_of_mem hx
      have := hh i (List.mem_range.2 hi)
      rw [List.getD_eq_getElem?_getD, List.getElem?_eq_getElem hi] at this
      exact this
  rw [hE, ← hL]
  generalize hp : (fun i => rightS (n.l.getD i (.mk [] [] 0 0 []))) = p
  have HP : Hid (∀ i, p i = rightS (n.l.getD i (.mk [] [] 0 0 []))) := fun i => by rw [← hp]
  have hrd := h
  clear hp hE hL hlen
  rw [show (ndc n (.slice A L C)) = #[.string (bs n.op), .string (bs n.s), .int .i64 n.n, .int .i64 n.a, .slice A L C] from rfl]
  go_enter Tryz.func8, Tryz.ntmps8
  go_wp2
  obtain ⟨W1, hW1⟩ : ∃ W, W = w.alloc (.cells #[.string (bs n.op), .string (bs n.s), .int .i64 n.n, .int .i64 n.a, .slice A L C] 24) := ⟨_, rfl⟩
  have hb1 : Below w.heap.size w W1 := by rw [hW1]; exact b_one _ _
  have hN1 : Has W1 w.heap.size 24 #[.string (bs n.op), .string (bs n.s), .int .i64 n.n, .int .i64 n.a, .slice A L C] := by rw [hW1]; exact Has.new _ _ _
  rw [← hW1]
  clear hW1
  have hA0 : (List.range 0).all p = true := rfl
  go_loopw [8] (fun z wz => ∃ i : Nat, i ≤ L ∧ z = .int .i64 (i : Nat) ∧ Below W1.heap.size W1 wz ∧ (List.range i).all p = true) (fun z _ => L - (intOf z).toNat)
  case atStart => exact ⟨0, Nat.zero_le _, rfl, Below.refl _ _, hA0⟩
  case round =>
    clear hA0
    obtain ⟨i, hi, rfl, hbz, hall⟩ := hrel
    have HA : Hid ((List.range i).all p = true) := hall
    clear hall
    have hbwr : Below w.heap.size w wr := hb1.trans (hbz.mono hb1.size)
    by_cases hiL : i < L
    · have hiL2 : (i : Int) < (L : Int) := by omega
      have hiL' : i < n.l.length := by rw [← HL.out]; exact hiL
      have hR := (hrd.grow hbwr).rd
      rw [← HL.out] at hR
      obtain ⟨g, off, u, rfl, hg, hc, hru, hsu, hou⟩ := hR.get i hiL'
      obtain ⟨m, hm⟩ : ∃ m, m = n.l[i] := ⟨_, rfl⟩
      rw [← hm] at hc hru hsu hou
      obtain ⟨Au, Cu, rfl, -, -⟩ := hru.slice
      have d0 := hc 0 (by decide)
      have d1 := hc 1 (by decide)
      have d2 := hc 2 (by decide)
      have d3 := hc 3 (by decide)
      have d4 := hc 4 (by decide)
      simp only [Nat.add_zero] at d0
      simp only [ndc] at d0 d1 d2 d3 d4
      have hp1 : p i = rightS m := by rw [HP.out i, hm, List.getD_eq_getElem?_getD, List.getElem?_eq_getElem hiL']; rfl
      have HP1 : Hid (p i = rightS m) := hp1
      have hpm := fun W hW => hst m Au Cu W (RdN.grow (w := wr) ⟨hru, hsu, hou⟩ hW)
      unfold ndc at hpm
      generalize rightS m = V at hpm HP1
      clear hp1 hm hc hR hst
      cases V with
      | true =>
        go_wp2_with (go_at_call 16; refine (hpm _ (b_one _ _)).mono ?_; rintro e w4 ⟨rfl, hb4⟩)
        go_roundw
        case rel => exact ⟨i + 1, by omega, by go_num, hbz.trans (((b_one wr _).trans (hb4.mono (by simp))).mono hbz.size), by rw [allTo_succ, HA.out, HP1.out]; rfl⟩
        case measure => simp [intOf]; omega
      | false =>
        go_wp2_with (go_at_call 16; refine (hpm _ (b_one _ _)).mono ?_; rintro e w4 ⟨rfl, hb4⟩)
        go_ret
        refine ⟨ret_bool ?_, hbwr.trans (((b_one wr _).trans (hb4.mono (by simp))).mono hbwr.size)⟩
        symm
        have : (List.range L).all p = false := by
          rw [List.all_eq_false]
          exact ⟨i, List.mem_range.2 hiL, by rw [HP1.out]; decide⟩
        rw [this, Bool.false_and]
    · have hiL2 : i = L := by omega
      subst hiL2
      have hN2 := hN1.below hbz hN1.lt
      have x0 := hN2.cell 0
      have x1 := hN2.cell 1
      have x2 := hN2.cell 2
      clear hst
      generalize n.n = M at *
      cases e1 : (n.op == wFile)
      · have e1' : (n.op == [102, 105, 108, 101]) = false := e1
        go_wp2
        go_ret
        exact ⟨ret_bool (by rw [HA.out, e1]; rfl), hbwr⟩
      · have e1' : (n.op == [102, 105, 108, 101]) = true := e1
        cases e2 : (n.s == [])
        · go_wp2
          go_ret
          exact ⟨ret_bool (by rw [HA.out, e1, e2]; rfl), hbwr⟩
        · by_cases hM : M = 0
          · subst hM
            go_wp2
            go_ret
            exact ⟨ret_bool (by rw [HA.out]), hbwr⟩
          · go_wp2
            go_ret
            exact ⟨ret_bool (by rw [HA.out, e1, e2]; simp [hM]), hbwr⟩
end Go.Proofs.YtpckmllmjdafpaaGreatDoor

/- Contracts of the library, laid at this seat by the kit's own tools. -/
namespace Go.Proofs.YtpckmllmjdafpaaGreatDoor
open Go.Shelf
set_option linter.unusedVariables false
def Tryz.lays169_ren : Go.Shelf.Ren := ⟨fun | 169 => 13 | n => n, fun | 70 => 33 | 9 => 9 | 0 => 0 | 72 => 36 | 37 => 34 | 127 => 51 | 3 => 3 | 5 => 5 | n => n, fun | n => n⟩
theorem Tryz.lays169 : Go.Proofs.Lays.n169 Tryz.prog Tryz.lays169_ren := {
  mixed := by kernel_rfl
  f169 := Tryz.func13.trans (congrArg some (by kernel_rfl))
  t0 := Tryz.underlying0
  a0 := Tryz.isAgg0
  z0 := Tryz.sizeOf0
  v0 := Tryz.zeroValue0
  t3 := Tryz.underlying3
  a3 := Tryz.isAgg3
  z3 := Tryz.sizeOf3
  v3 := Tryz.zeroValue3
  t9 := Tryz.underlying9
  a9 := Tryz.isAgg9
  z9 := Tryz.sizeOf9
  v9 := Tryz.zeroValue9
  t37 := Tryz.underlying34
  a37 := Tryz.isAgg34
  z37 := Tryz.sizeOf34
  v37 := Tryz.zeroValue34
  t70 := Tryz.underlying33
  a70 := Tryz.isAgg33
  z70 := Tryz.sizeOf33
  v70 := Tryz.zeroValue33
  t72 := Tryz.underlying36
  a72 := Tryz.isAgg36
  z72 := Tryz.sizeOf36
  v72 := Tryz.zeroValue36
  t127 := Tryz.underlying51
  a127 := Tryz.isAgg51
  z127 := Tryz.sizeOf51
  v127 := Tryz.zeroValue51 }
theorem Tryz.Builder_Extra_169 : Builder.Extra Tryz.prog Tryz.lays169_ren := {
  sizeBuilder := by kernel_rfl
  liesBuilder := by kernel_rfl
  t5 := Tryz.underlying5
  a5 := Tryz.isAgg5
  z5 := Tryz.sizeOf5
  v5 := Tryz.zeroValue5
  infoByte := by kernel_rfl
  cellsByte := by kernel_rfl
  sizeByte := by kernel_rfl
  neB5 := by decide }
open Go.RowKit in
theorem Tryz.Builder_String_any (B b : Nat) (l : List UInt8) (w : World) (h : Lib.IsBuilder 36 5 B b (Lib.byteCells l) w) (hBw : B ≤ w.heap.size) :
    Calls Tryz.prog 13 #[.pointer (some ⟨b, 0, none⟩)] w fun e w' => e = .returned (.string ⟨l.toArray⟩) ∧ Below B w w' := Any.Builder_String_any Tryz.lays169 Tryz.Builder_Extra_169 B b l w h hBw
def Tryz.lays156_ren : Go.Shelf.Ren := ⟨fun | 156 => 36 | 165 => 55 | 166 => 11 | 169 => 13 | 240 => 20 | 241 => 76 | 276 => 34 | 277 => 95 | n => n, fun | 31 => 67 | 9 => 9 | 3 => 3 | 4 => 4 | 0 => 0 | 20 => 20 | 72 => 36 | 76 => 39 | 70 => 33 | 37 => 34 | 75 => 38 | 127 => 51 | 164 => 65 | 5 => 5 | 80 => 42 | n => n, fun | n => n⟩
theorem Tryz.lays156 : Go.Proofs.Lays.n156 Tryz.prog Tryz.lays156_ren := {
  mixed := by kernel_rfl
  f156 := Tryz.func36.trans (congrArg some (by kernel_rfl))
  f165 := Tryz.func55.trans (congrArg some (by kernel_rfl))
  f166 := Tryz.func11.trans (congrArg some (by kernel_rfl))
  f169 := Tryz.func13.trans (congrArg some (by kernel_rfl))
  f240 := Tryz.func20.trans (congrArg some (by kernel_rfl))
  f241 := Tryz.func76.trans (congrArg some (by kernel_rfl))
  f276 := Tryz.func34.trans (congrArg some (by kernel_rfl))
  f277 := Tryz.func95.trans (congrArg some (by kernel_rfl))
  t0 := Tryz.underlying0
  a0 := Tryz.isAgg0
  z0 := Tryz.sizeOf0
  v0 := Tryz.zeroValue0
  t3 := Tryz.underlying3
  a3 := Tryz.isAgg3
  z3 := Tryz.sizeOf3
  v3 := Tryz.zeroValue3
  t4 := Tryz.underlying4
  a4 := Tryz.isAgg4
  z4 := Tryz.sizeOf4
  v4 := Tryz.zeroValue4
  t9 := Tryz.underlying9
  a9 := Tryz.isAgg9
  z9 := Tryz.sizeOf9
  v9 := Tryz.zeroValue9
  t20 := Tryz.underlying20
  a20 := Tryz.isAgg20
  z20 := Tryz.sizeOf20
  v20 := Tryz.zeroValue20
  t31 := Tryz.underlying67
  a31 := Tryz.isAgg67
  z31 := Tryz.sizeOf67
  v31 := Tryz.zeroValue67
  t37 := Tryz.underlying34
  a37 := Tryz.isAgg34
  z37 := Tryz.sizeOf34
  v37 := Tryz.zeroValue34
  t70 := Tryz.underlying33
  a70 := Tryz.isAgg33
  z70 := Tryz.sizeOf33
  v70 := Tryz.zeroValue33
  t72 := Tryz.underlying36
  a72 := Tryz.isAgg36
  z72 := Tryz.sizeOf36
  v72 := Tryz.zeroValue36
  t75 := Tryz.underlying38
  a75 := Tryz.isAgg38
  z75 := Tryz.sizeOf38
  v75 := Tryz.zeroValue38
  t76 := Tryz.underlying39
  a76 := Tryz.isAgg39
  z76 := Tryz.sizeOf39
  v76 := Tryz.zeroValue39
  t127 := Tryz.underlying51
  a127 := Tryz.isAgg51
  z127 := Tryz.sizeOf51
  v127 := Tryz.zeroValue51
  t164 := Tryz.underlying65
  a164 := Tryz.isAgg65
  z164 := Tryz.sizeOf65
  v164 := Tryz.zeroValue65 }
theorem Tryz.Builder_Extra_156 : Builder.Extra Tryz.prog Tryz.lays156_ren := {
  sizeBuilder := by kernel_rfl
  liesBuilder := by kernel_rfl
  t5 := Tryz.underlying5
  a5 := Tryz.isAgg5
  z5 := Tryz.sizeOf5
  v5 := Tryz.zeroValue5
  infoByte := by kernel_rfl
  cellsByte := by kernel_rfl
  sizeByte := by kernel_rfl
  neB5 := by decide }
open Go.RowKit in
theorem Tryz.strings_Join_none (a : Option Addr) (c : Nat) (sep : ByteArray) (w : World) :
    Calls Tryz.prog 36 #[.slice a 0 c, .string sep] w fun e w' => e = .returned (.string ⟨#[]⟩) ∧ w' = w := Any.strings_Join_none Tryz.lays156 Tryz.Builder_Extra_156 a c sep w
open Go.RowKit in
theorem Tryz.strings_Join (bk o c : Nat) (xs : List ByteArray) (sep : ByteArray) (w : World) (hcells : ∀ (j : Nat) x, xs[j]? = some x → w.cell? ⟨bk, o + j, none⟩ = some (.string x)) (hbk : bk < w.heap.size) (hN : xs.length ≤ 140737488355328) (hcap : xs.length ≤ c) (hlen : (Lib.join (xs.map (·.data.toList)) sep.data.toList).length ≤ 140737488355328) :
    Calls Tryz.prog 36 #[.slice (some ⟨bk, o, none⟩) xs.length c, .string sep] w fun e w' => e = .returned (.string ⟨(Lib.join (xs.map (·.data.toList)) sep.data.toList).toArray⟩) ∧ Below w.heap.size w w' := Any.strings_Join Tryz.lays156 Tryz.Builder_Extra_156 bk o c xs sep w hcells hbk hN hcap hlen
def Tryz.laysM171_ren : Go.Shelf.Ren := ⟨fun | 171 => 21 | 243 => 35 | 246 => 54 | 283 => 72 | 284 => 73 | 285 => 74 | 286 => 75 | 129 => 91 | 317 => 90 | 318 => 92 | 319 => 93 | 320 => 94 | 337 => 105 | 338 => 106 | n => n, fun | 3 => 3 | 9 => 9 | 2 => 2 | 4 => 4 | 171 => 95 | 0 => 0 | 53 => 96 | 37 => 34 | 5 => 5 | 173 => 99 | 212 => 109 | 51 => 110 | 20 => 20 | 213 => 111 | 46 => 113 | 232 => 131 | 233 => 132 | n => n, fun | 17 => 0 | 18 => 4 | 19 => 5 | n => n⟩
theorem Tryz.laysM171 : Go.Proofs.LaysM.n171 Tryz.prog Tryz.laysM171_ren := {
  mixed := by kernel_rfl
  f129 := Tryz.func91.trans (congrArg some (by kernel_rfl))
  f171 := Tryz.func21.trans (congrArg some (by kernel_rfl))
  f243 := Tryz.func35.trans (congrArg some (by kernel_rfl))
  f246 := Tryz.func54.trans (congrArg some (by kernel_rfl))
  f283 := Tryz.func72.trans (congrArg some (by kernel_rfl))
  f284 := Tryz.func73.trans (congrArg some (by kernel_rfl))
  f285 := Tryz.func74.trans (congrArg some (by kernel_rfl))
  f286 := Tryz.func75.trans (congrArg some (by kernel_rfl))
  f317 := Tryz.func90.trans (congrArg some (by kernel_rfl))
  f318 := Tryz.func92.trans (congrArg some (by kernel_rfl))
  f319 := Tryz.func93.trans (congrArg some (by kernel_rfl))
  f320 := Tryz.func94.trans (congrArg some (by kernel_rfl))
  f337 := Tryz.func105.trans (congrArg some (by kernel_rfl))
  f338 := Tryz.func106.trans (congrArg some (by kernel_rfl))
  t0 := Tryz.underlying0
  a0 := Tryz.isAgg0
  z0 := Tryz.sizeOf0
  v0 := Tryz.zeroValue0
  t2 := Tryz.underlying2
  a2 := Tryz.isAgg2
  z2 := Tryz.sizeOf2
  v2 := Tryz.zeroValue2
  t3 := Tryz.underlying3
  a3 := Tryz.isAgg3
  z3 := Tryz.sizeOf3
  v3 := Tryz.zeroValue3
  t4 := Tryz.underlying4
  a4 := Tryz.isAgg4
  z4 := Tryz.sizeOf4
  v4 := Tryz.zeroValue4
  t5 := Tryz.underlying5
  a5 := Tryz.isAgg5
  z5 := Tryz.sizeOf5
  v5 := Tryz.zeroValue5
  t9 := Tryz.underlying9
  a9 := Tryz.isAgg9
  z9 := Tryz.sizeOf9
  v9 := Tryz.zeroValue9
  t20 := Tryz.underlying20
  a20 := Tryz.isAgg20
  z20 := Tryz.sizeOf20
  v20 := Tryz.zeroValue20
  t37 := Tryz.underlying34
  a37 := Tryz.isAgg34
  z37 := Tryz.sizeOf34
  v37 := Tryz.zeroValue34
  t46 := Tryz.underlying113
  a46 := Tryz.isAgg113
  z46 := Tryz.sizeOf113
  v46 := Tryz.zeroValue113
  t51 := Tryz.underlying110
  a51 := Tryz.isAgg110
  z51 := Tryz.sizeOf110
  v51 := Tryz.zeroValue110
  t53 := Tryz.underlying96
  a53 := Tryz.isAgg96
  z53 := Tryz.sizeOf96
  v53 := Tryz.zeroValue96
  t171 := Tryz.underlying95
  a171 := Tryz.isAgg95
  z171 := Tryz.sizeOf95
  v171 := Tryz.zeroValue95
  t173 := Tryz.underlying99
  a173 := Tryz.isAgg99
  z173 := Tryz.sizeOf99
  v173 := Tryz.zeroValue99
  t212 := Tryz.underlying109
  a212 := Tryz.isAgg109
  z212 := Tryz.sizeOf109
  v212 := Tryz.zeroValue109
  t213 := Tryz.underlying111
  a213 := Tryz.isAgg111
  z213 := Tryz.sizeOf111
  t232 := Tryz.underlying131
  a232 := Tryz.isAgg131
  z232 := Tryz.sizeOf131
  v232 := Tryz.zeroValue131
  t233 := Tryz.underlying132
  a233 := Tryz.isAgg132
  z233 := Tryz.sizeOf132
  v233 := Tryz.zeroValue132
  g17 := by kernel_rfl
  g18 := by kernel_rfl
  g19 := by kernel_rfl
  i0 := by kernel_rfl
  i2 := by kernel_rfl
  i3 := by kernel_rfl
  i4 := by kernel_rfl
  i5 := by kernel_rfl
  i9 := by kernel_rfl
  i20 := by kernel_rfl
  i37 := by kernel_rfl
  i46 := by kernel_rfl
  i51 := by kernel_rfl
  i53 := by kernel_rfl
  i171 := by kernel_rfl
  i173 := by kernel_rfl
  i212 := by kernel_rfl
  i232 := by kernel_rfl
  i233 := by kernel_rfl
  m17 := by kernel_rfl
  m18 := by kernel_rfl
  m19 := by kernel_rfl }
open Go.RowKit Go.Sort Go.Lib in
theorem Tryz.strconv_Itoa (n : Int) (h0 : -9223372036854775808 ≤ n) (h1 : n ≤ 9223372036854775807) (w : World) (htab : Lib.TabIs Tryz.prog w "internal/strconv.uint64pow10" .u64 Lib.pow10Tab) :
    Calls Tryz.prog 21 #[.int .i64 n] w fun e w' => e = .returned (.string ⟨(Lib.itoa n).toArray⟩) ∧ ∃ k os, w' = grow (w.drewN k) os := Any.strconv_Itoa Tryz.laysM171 n h0 h1 w htab
def Tryz.lays171_ren : Go.Shelf.Ren := ⟨fun | 171 => 21 | 243 => 35 | 246 => 54 | 283 => 72 | 284 => 73 | 285 => 74 | 286 => 75 | 129 => 91 | 317 => 90 | 318 => 92 | 319 => 93 | 320 => 94 | 337 => 105 | 338 => 106 | n => n, fun | 3 => 3 | 9 => 9 | 2 => 2 | 4 => 4 | 171 => 95 | 0 => 0 | 53 => 96 | 37 => 34 | 5 => 5 | 173 => 99 | 212 => 109 | 51 => 110 | 20 => 20 | 213 => 111 | 46 => 113 | 232 => 131 | 233 => 132 | n => n, fun | 17 => 0 | 18 => 4 | 19 => 5 | n => n⟩
theorem Tryz.lays171 : Go.Proofs.Lays.n171 Tryz.prog Tryz.lays171_ren := {
  mixed := by kernel_rfl
  f129 := Tryz.func91.trans (congrArg some (by kernel_rfl))
  f171 := Tryz.func21.trans (congrArg some (by kernel_rfl))
  f243 := Tryz.func35.trans (congrArg some (by kernel_rfl))
  f246 := Tryz.func54.trans (congrArg some (by kernel_rfl))
  f283 := Tryz.func72.trans (congrArg some (by kernel_rfl))
  f284 := Tryz.func73.trans (congrArg some (by kernel_rfl))
  f285 := Tryz.func74.trans (congrArg some (by kernel_rfl))
  f286 := Tryz.func75.trans (congrArg some (by kernel_rfl))
  f317 := Tryz.func90.trans (congrArg some (by kernel_rfl))
  f318 := Tryz.func92.trans (congrArg some (by kernel_rfl))
  f319 := Tryz.func93.trans (congrArg some (by kernel_rfl))
  f320 := Tryz.func94.trans (congrArg some (by kernel_rfl))
  f337 := Tryz.func105.trans (congrArg some (by kernel_rfl))
  f338 := Tryz.func106.trans (congrArg some (by kernel_rfl))
  t0 := Tryz.underlying0
  a0 := Tryz.isAgg0
  z0 := Tryz.sizeOf0
  v0 := Tryz.zeroValue0
  t2 := Tryz.underlying2
  a2 := Tryz.isAgg2
  z2 := Tryz.sizeOf2
  v2 := Tryz.zeroValue2
  t3 := Tryz.underlying3
  a3 := Tryz.isAgg3
  z3 := Tryz.sizeOf3
  v3 := Tryz.zeroValue3
  t4 := Tryz.underlying4
  a4 := Tryz.isAgg4
  z4 := Tryz.sizeOf4
  v4 := Tryz.zeroValue4
  t5 := Tryz.underlying5
  a5 := Tryz.isAgg5
  z5 := Tryz.sizeOf5
  v5 := Tryz.zeroValue5
  t9 := Tryz.underlying9
  a9 := Tryz.isAgg9
  z9 := Tryz.sizeOf9
  v9 := Tryz.zeroValue9
  t20 := Tryz.underlying20
  a20 := Tryz.isAgg20
  z20 := Tryz.sizeOf20
  v20 := Tryz.zeroValue20
  t37 := Tryz.underlying34
  a37 := Tryz.isAgg34
  z37 := Tryz.sizeOf34
  v37 := Tryz.zeroValue34
  t46 := Tryz.underlying113
  a46 := Tryz.isAgg113
  z46 := Tryz.sizeOf113
  v46 := Tryz.zeroValue113
  t51 := Tryz.underlying110
  a51 := Tryz.isAgg110
  z51 := Tryz.sizeOf110
  v51 := Tryz.zeroValue110
  t53 := Tryz.underlying96
  a53 := Tryz.isAgg96
  z53 := Tryz.sizeOf96
  v53 := Tryz.zeroValue96
  t171 := Tryz.underlying95
  a171 := Tryz.isAgg95
  z171 := Tryz.sizeOf95
  v171 := Tryz.zeroValue95
  t173 := Tryz.underlying99
  a173 := Tryz.isAgg99
  z173 := Tryz.sizeOf99
  v173 := Tryz.zeroValue99
  t212 := Tryz.underlying109
  a212 := Tryz.isAgg109
  z212 := Tryz.sizeOf109
  v212 := Tryz.zeroValue109
  t213 := Tryz.underlying111
  a213 := Tryz.isAgg111
  z213 := Tryz.sizeOf111
  t232 := Tryz.underlying131
  a232 := Tryz.isAgg131
  z232 := Tryz.sizeOf131
  v232 := Tryz.zeroValue131
  t233 := Tryz.underlying132
  a233 := Tryz.isAgg132
  z233 := Tryz.sizeOf132
  v233 := Tryz.zeroValue132
  g17 := by kernel_rfl
  g18 := by kernel_rfl
  g19 := by kernel_rfl }
open Go.RowKit Go.Sort Go.Lib in
theorem Tryz.strconv_Itoa_small (i : Nat) (hi : i < 100) (w : World) :
    Calls Tryz.prog 21 #[.int .i64 i] w fun e w' => e = .returned (.string ⟨(Lib.decDigits i).toArray⟩) ∧ w' = w := Any.strconv_Itoa_small Tryz.lays171 i hi w
theorem Tryz.lays166 : Go.Proofs.Lays.n166 Tryz.prog Tryz.lays156_ren := {
  mixed := Tryz.lays156.mixed
  f166 := Tryz.lays156.f166
  f240 := Tryz.lays156.f240
  f276 := Tryz.lays156.f276
  t0 := Tryz.lays156.t0
  a0 := Tryz.lays156.a0
  z0 := Tryz.lays156.z0
  v0 := Tryz.lays156.v0
  t3 := Tryz.lays156.t3
  a3 := Tryz.lays156.a3
  z3 := Tryz.lays156.z3
  v3 := Tryz.lays156.v3
  t4 := Tryz.lays156.t4
  a4 := Tryz.lays156.a4
  z4 := Tryz.lays156.z4
  v4 := Tryz.lays156.v4
  t9 := Tryz.lays156.t9
  a9 := Tryz.lays156.a9
  z9 := Tryz.lays156.z9
  v9 := Tryz.lays156.v9
  t20 := Tryz.lays156.t20
  a20 := Tryz.lays156.a20
  z20 := Tryz.lays156.z20
  v20 := Tryz.lays156.v20
  t37 := Tryz.lays156.t37
  a37 := Tryz.lays156.a37
  z37 := Tryz.lays156.z37
  v37 := Tryz.lays156.v37
  t70 := Tryz.lays156.t70
  a70 := Tryz.lays156.a70
  z70 := Tryz.lays156.z70
  v70 := Tryz.lays156.v70
  t72 := Tryz.lays156.t72
  a72 := Tryz.lays156.a72
  z72 := Tryz.lays156.z72
  v72 := Tryz.lays156.v72
  t75 := Tryz.lays156.t75
  a75 := Tryz.lays156.a75
  z75 := Tryz.lays156.z75
  v75 := Tryz.lays156.v75
  t164 := Tryz.lays156.t164
  a164 := Tryz.lays156.a164
  z164 := Tryz.lays156.z164
  v164 := Tryz.lays156.v164 }
end Go.Proofs.YtpckmllmjdafpaaGreatDoor

/- The text of an expr: which it is, and of what it is made. -/
namespace Go.Proofs.YtpckmllmjdafpaaGreatDoor
open Go.ChangeShapes Go.WideShapes Go.ChangeAt Go.RowKit
set_option linter.unusedVariables false

def textE : Nat → Nd → List UInt8
  | 0, _ => []
  | f + 1, n => if n.op = wUse ∨ n.op = wName then n.s else if n.op = wNum then Lib.itoa n.n else n.op ++ [40] ++ Lib.join (n.l.map (textE f)) [44, 32] ++ [41]

/-- A text may be told of. -/
def TxOk : Nat → Nd → Prop
  | 0, _ => False
  | f + 1, n => (n.op = wUse ∨ n.op = wName) ∨ (¬ (n.op = wUse ∨ n.op = wName) ∧ n.op = wNum ∧ numOk n.n = true) ∨ (¬ (n.op = wUse ∨ n.op = wName) ∧ n.op ≠ wNum ∧ ∀ x ∈ n.l, TxOk f x)

/-- The table that Itoa asks. -/
def Tab (w : World) : Prop := Lib.TabIs Tryz.prog w "internal/strconv.uint64pow10" .u64 Lib.pow10Tab

theorem Tab.below {w w' : World} (h : Tab w) (hb : Below w.heap.size w w') : Tab w' := by
  unfold Tab Lib.TabIs World.var? at h ⊢
  generalize Tryz.prog.globalNamed "internal/strconv.uint64pow10" = G at h ⊢
  cases G with
  | none => simp at h
  | some g =>
    simp only [Option.bind_some] at h ⊢
    have hlt : g < w.heap.size := by
      rcases Nat.lt_or_ge g w.heap.size with h' | h'
      · exact h'
      · rw [Array.getElem?_eq_none h'] at h; cases h
    rw [hb.block g hlt]
    exact h

theorem join_mem {xs : List (List UInt8)} {x sep : List UInt8} (h : x ∈ xs) : x.length ≤ (Lib.join xs sep).length := by
  induction xs with
  | nil => cases h
  | cons y r ih =>
    rw [Lib.join_cons]
    rcases List.mem_cons.1 h with rfl | h'
    · simp
    · have h2 : x.length ≤ (Lib.joinTail sep r).length := by
        clear ih h
        unfold Lib.joinTail
        induction r with
        | nil => cases h'
        | cons z r ih =>
          simp only [List.map_cons, List.flatten_cons, List.length_append]
          rcases List.mem_cons.1 h' with rfl | h3
          · omega
          · have := ih h3; omega
      simp only [List.length_append]
      omega

theorem grow_below (w : World) (k : Nat) (os : Array Obj) : Below w.heap.size w (Go.Sort.grow (w.drewN k) os) :=
  ⟨rfl, rfl, rfl, by simp [Go.Sort.grow], fun i hi => by simp [Go.Sort.grow, Array.getElem?_append_left hi]⟩

theorem itoa_c (n : Int) (w : World) (h : Tab w) (hn : numOk n = true) : Calls Tryz.prog 21 #[.int .i64 n] w fun e w' => e = .returned (.string (bs (Lib.itoa n))) ∧ Below w.heap.size w w' := by
  unfold numOk at hn
  simp only [Bool.and_eq_true, decide_eq_true_eq] at hn
  refine (Tryz.strconv_Itoa n (by omega) (by omega) w h).mono ?_
  rintro e w' ⟨rfl, k, os, rfl⟩
  exact ⟨rfl, grow_below _ _ _⟩
end Go.Proofs.YtpckmllmjdafpaaGreatDoor

/- The text of an expr. -/
namespace Go.Proofs.YtpckmllmjdafpaaGreatDoor
open Go.ChangeShapes Go.WideShapes Go.ChangeAt Go.RowKit
set_option linter.unusedVariables false

/-- Texts in a row of their own. -/
def SRow (w : World) (base : Nat) (v : Value) (l : List (List UInt8)) : Prop := w.ownsRow base 9 1 v l.length (l.map fun x => Value.string (bs x))

theorem SRow.nil (w : World) (base : Nat) : SRow w base (.slice none 0 0) [] := ⟨rfl, .inl ⟨rfl, rfl⟩⟩

theorem SRow.below {w w' : World} {base : Nat} {v : Value} {l : List (List UInt8)} (h : SRow w base v l) (hb : Below w.heap.size w w') : SRow w' base v l :=
  row_grown h (fun g o e ho => (hb.block g (row_lt h e).1).trans ho)

theorem SRow.slice {w : World} {base : Nat} {v : Value} {l : List (List UInt8)} (h : SRow w base v l) : ∃ A C, v = .slice A l.length C := by
  rcases h.2 with ⟨rfl, h0⟩ | ⟨g, cap, cur, rfl, _⟩
  · exact ⟨none, 0, by rw [h0]⟩
  · exact ⟨_, _, rfl⟩

theorem Tryz.infoStr : (Tryz.prog.info? 9).map (fun i => (i.zero, i.size, i.bytes)) = some (some (.string ⟨#[]⟩), 1, 16) := by kernel_rfl

theorem wpList_append_str {ops : Array Oper} {rest : List Oper} {o : Oper} {a : Act} {w : World} {Q : Exit → Act → World → Prop} (hgd : o.guard = none) (s x : Operand)
    (ho : o.op = .call { callee := .builtin .append, args := #[s, x], argTypes := #[67, 67] }) (base : Nat) (v : Value) (l : List (List UInt8)) (hs : a.eval s = v) (hown : SRow w base v l)
    (G : Nat) (t : List UInt8) (hx : a.eval x = .slice (some ⟨G, 0, none⟩) 1 1) (hG : Has w G 9 #[.string (bs t)]) (hn : l.length ≤ 1000000000) (hbase : base ≤ w.heap.size)
    (h : ∀ v' w', SRow w' base v' (l ++ [t]) → Below base w w' → wpList Tryz.prog ops Q rest (a.put o.dst v') w') : wpList Tryz.prog ops Q (o :: rest) a w := by
  obtain ⟨i0, hi, hz0, hz1, hz2⟩ := info_parts Tryz.infoStr
  refine wpList_append_own w hgd s x 67 ho base 9 i0 (.string ⟨#[]⟩) 1 16 Tryz.underlying67 hi hz0 hz1 hz2 rfl (by decide) v l.length (l.map fun x => Value.string (bs x)) hs hown ⟨G, 0, none⟩ 1 1 [.string (bs t)] hx rfl ?_ ?_ (by unfold maxLen; omega) (by omega) hbase ?_
  · intro j u hj
    have := hG.cell j
    rw [show (⟨G, 0, none⟩ : Addr).add j = ⟨G, j, none⟩ by simp [Addr.add]; omega]
    rw [this]
    simpa using hj
  · intro u hu
    rw [List.mem_singleton.1 hu]
    rfl
  · intro v' w' h1 h2 _
    refine h v' w' ?_ (grown_own hown h2 hbase)
    show w'.ownsRow base 9 1 v' (l ++ [t]).length _
    rw [List.length_append, List.map_append]
    exact h1

theorem join_c (w : World) (base : Nat) (A : Option Addr) (C : Nat) (l : List (List UInt8)) (h : SRow w base (.slice A l.length C) l) (hl : (Lib.join l [44, 32]).length ≤ 1000000000) (hn : l.length ≤ 1000000000) : Calls Tryz.prog 36 #[.slice A l.length C, .string ⟨#[44, 32]⟩] w fun e w' => e = .returned (.string (bs (Lib.join l [44, 32]))) ∧ Below w.heap.size w w' := by
  have hnil : ∀ A, l = [] → Calls Tryz.prog 36 #[.slice A l.length C, .string ⟨#[44, 32]⟩] w fun e w' => e = .returned (.string (bs (Lib.join l [44, 32]))) ∧ Below w.heap.size w w' := by
    rintro A rfl
    exact (Tryz.strings_Join_none A C ⟨#[44, 32]⟩ w).mono fun e w' ⟨h1, h2⟩ => ⟨h1, by rw [h2]; exact Below.refl _ _⟩
  rcases h.2 with ⟨e, h0⟩ | ⟨g, cap, cur, e, _, hg, hn1, hm, hsz, ht⟩
  · exact hnil A (List.length_eq_zero_iff.1 h0)
  · cases e
    have hd : (l.map bs).map (·.data.toList) = l := by rw [List.map_map]; conv => rhs; rw [← List.map_id l]
                                                       apply List.map_congr_left; intro x _; simp [bs]
    have hj := Tryz.strings_Join g 0 C (l.map bs) ⟨#[44, 32]⟩ w ?_ (Array.getElem?_eq_some_iff.1 hg).1 (by rw [List.length_map]; omega) (by rw [List.length_map]; exact hn1) (by rw [hd]; exact Nat.le_trans hl (by decide))
    · rw [hd, List.length_map] at hj
      exact hj
    · intro j x hx
      have hlt : j < l.length := by
        rcases Nat.lt_or_ge j l.length with h' | h'
        · exact h'
        · rw [List.getElem?_map, List.getElem?_eq_none h'] at hx; cases hx
      rw [Nat.zero_add, cell_of_row w g j cur 9 _ hg]
      have h2 : (l.map fun x => Value.string (bs x))[j]? = some (.string x) := by
        rw [List.getElem?_map] at hx ⊢
        rw [List.getElem?_eq_getElem hlt] at hx ⊢
        simp only [Option.map_some, Option.some.injEq] at hx ⊢
        rw [hx]
      rw [← ht, List.getElem?_take_of_lt (by omega), Array.getElem?_toList] at h2
      exact h2

theorem run_add_str {o : Oper} {a : Act} (x y : Operand) (ho : o.op = .binOp .add 9 x y 9) (p q : ByteArray) (hx : a.eval x = .string p) (hy : a.eval y = .string q) (hz : p.size + q.size ≤ 4000000000) (w : World) : (execOp a.eval o).run Tryz.prog w = .ok (.value (.string (p ++ q))) w := by
  have h1 : (p.size : Int) + (q.size : Int) ≤ 4000000000 := by omega
  unfold execOp
  simp only [ho, hx, hy]
  go_simp
  omega

theorem run_nodeField0 {o : Oper} {a : Act} (x : Operand) (ho : o.op = .fieldAddr 24 x 0) (g : Nat) (hx : a.eval x = .pointer (some ⟨g, 0, none⟩)) (w : World) : (execOp a.eval o).run Tryz.prog w = .ok (.value (.pointer (some ⟨g, 0, none⟩))) w := by
  unfold execOp
  simp only [ho, hx]
  go_simp

/-- No part has too many parts. -/
def Few : Nat → Nd → Prop
  | 0, _ => True
  | f + 1, n => n.l.length ≤ 1000000000 ∧ ∀ x ∈ n.l, Few f x

set_option maxRecDepth 100000 in
set_option maxHeartbeats 4000000 in
theorem text_c (f : Nat) : ∀ (n : Nd) (A : Option Addr) (C : Nat) (w : World), RdN w n A C → Tab w → TxOk f n → (textE f n).length ≤ 1000000000 → Few f n → Calls Tryz.prog 22 #[.agg (ndc n (.slice A n.l.length C))] w fun e w' => e = .returned (.string (bs (textE f n))) ∧ Below w.heap.size w w' := by
  induction f with
  | zero => intro n A C w h ht hx; exact absurd hx (by simp [TxOk])
  | succ f ih =>
    intro n A C w h ht hx hz hfw
    have hnl : n.l.length ≤ 1000000000 := hfw.1
    have HKL : Hid (∀ x ∈ n.l, Few f x) := hfw.2
    clear hfw
    have hlen := h.len
    have ho := bs_toList n.op
    obtain ⟨L, hL⟩ : ∃ L, L = n.l.length := ⟨_, rfl⟩
    have HL : Hid (L = n.l.length) := hL
    have hL2 : L ≤ 1000000000 := by omega
    rcases hx with h1 | ⟨h1, h2, h3⟩ | ⟨h1, h2, h3⟩
    · have e1 : textE (f + 1) n = n.s := if_pos h1
      rw [e1, ← hL]
      unfold ndc
      clear h ih hz hlen hnl hL ht e1
      rcases h1 with h1 | h1
      · have t1 : (n.op == [117, 115, 101]) = true := by rw [h1]; rfl
        clear h1
        go_enter Tryz.func22, Tryz.ntmps22
        go_wp2
        go_ret
        exact ⟨rfl, b_one _ _⟩
      · have t1 : (n.op == [117, 115, 101]) = false := by rw [h1]; rfl
        have t2 : (n.op == [110, 97, 109, 101]) = true := by rw [h1]; rfl
        clear h1
        go_enter Tryz.func22, Tryz.ntmps22
        go_wp2
        go_ret
        exact ⟨rfl, b_one _ _⟩
    · have e1 : textE (f + 1) n = Lib.itoa n.n := (if_neg h1).trans (if_pos h2)
      have hit := fun W hW => itoa_c n.n W (ht.below hW) h3
      rw [e1, ← hL]
      generalize Lib.itoa n.n = X at hit ⊢
      unfold ndc
      have t1 : (n.op == [117, 115, 101]) = false := by rw [h2]; rfl
      have t2 : (n.op == [110, 97, 109, 101]) = false := by rw [h2]; rfl
      have t3 : (n.op == [110, 117, 109]) = true := by rw [h2]; rfl
      clear h ih hz hlen hnl hL ht e1 h1 h2 h3
      generalize n.n = M at *
      go_enter Tryz.func22, Tryz.ntmps22
      go_wp2_with (go_at_call 21; refine (hit _ (b_one _ _)).mono ?_; rintro e w1 ⟨rfl, hb1⟩)
      go_ret
      exact ⟨rfl, (b_one w _).trans (hb1.mono (by simp))⟩
    · have e1 : textE (f + 1) n = n.op ++ [40] ++ Lib.join (n.l.map (textE f)) [44, 32] ++ [41] := (if_neg h1).trans (if_neg h2)
      rw [e1] at hz
      rw [e1, ← hL]
      have hjz : (Lib.join (n.l.map (textE f)) [44, 32]).length ≤ 1000000000 := by simp only [List.length_append] at hz; omega
      have hoz : n.op.length ≤ 1000000000 := by simp only [List.length_append] at hz; omega
      have hkz : ∀ x ∈ n.l, (textE f x).length ≤ 1000000000 := fun x hx => Nat.le_trans (join_mem (List.mem_map.2 ⟨x, hx, rfl⟩)) hjz
      have t1 : (n.op == [117, 115, 101]) = false := by rw [beq_eq_false_iff_ne]; exact fun e => h1 (.inl e)
      have t2 : (n.op == [110, 97, 109, 101]) = false := by rw [beq_eq_false_iff_ne]; exact fun e => h1 (.inr e)
      have t3 : (n.op == [110, 117, 109]) = false := by rw [beq_eq_false_iff_ne]; exact h2
      have hrd := h
      rw [show (ndc n (.slice A L C)) = #[.string (bs n.op), .string (bs n.s), .int .i64 n.n, .int .i64 n.a, .slice A L C] from rfl]
      clear e1 h1 h2 hnl hL hz
      go_enter Tryz.func22, Tryz.ntmps22
      go_wp2
      obtain ⟨W1, hW1⟩ : ∃ W, W = w.alloc (.cells #[.string (bs n.op), .string (bs n.s), .int .i64 n.n, .int .i64 n.a, .slice A L C] 24) := ⟨_, rfl⟩
      have hb1 : Below w.heap.size w W1 := by rw [hW1]; exact b_one _ _
      have hN1 : Has W1 w.heap.size 24 #[.string (bs n.op), .string (bs n.s), .int .i64 n.n, .int .i64 n.a, .slice A L C] := by rw [hW1]; exact Has.new _ _ _
      rw [← hW1]
      clear hW1
      go_loopw [3, 21] (fun v z wz => ∃ i : Nat, i ≤ L ∧ z = .int .i64 (i : Nat) ∧ Below W1.heap.size W1 wz ∧ SRow wz W1.heap.size v ((n.l.take i).map (textE f))) (fun _ z _ => L - (intOf z).toNat)
      case atStart => exact ⟨0, Nat.zero_le _, rfl, Below.refl _ _, SRow.nil _ _⟩
      case round =>
        obtain ⟨i, hi, rfl, hbz, hrow⟩ := hrel
        have hbwr : Below w.heap.size w wr := hb1.trans (hbz.mono hb1.size)
        obtain ⟨A3, C3, rfl⟩ := hrow.slice
        by_cases hiL : i < L
        · have hiL2 : (i : Int) < (L : Int) := by omega
          have hiL' : i < n.l.length := by rw [← HL.out]; exact hiL
          have hR := (hrd.grow hbwr).rd
          rw [← HL.out] at hR
          obtain ⟨g, off, u, rfl, hg, hc, hru, hsu, hou⟩ := hR.get i hiL'
          obtain ⟨m, hm⟩ : ∃ m, m = n.l[i] := ⟨_, rfl⟩
          have hmem : m ∈ n.l := by rw [hm]; exact List.getElem_mem hiL'
          rw [← hm] at hc hru hsu hou
          obtain ⟨Au, Cu, rfl, hu1, hu2⟩ := hru.slice
          have d0 := hc 0 (by decide)
          have d1 := hc 1 (by decide)
          have d2 := hc 2 (by decide)
          have d3 := hc 3 (by decide)
          have d4 := hc 4 (by decide)
          simp only [Nat.add_zero] at d0
          simp only [ndc] at d0 d1 d2 d3 d4
          have hml := HKL.out m hmem
          have htx := fun W hW => ih m Au Cu W (RdN.grow (w := wr) ⟨hru, hsu, hou⟩ hW) ((ht.below hbwr).below hW) (h3 m hmem) (hkz m hmem) hml
          unfold ndc at htx
          have hnx : (n.l.take (i + 1)).map (textE f) = (n.l.take i).map (textE f) ++ [textE f m] := by rw [List.take_succ_eq_append_getElem hiL', List.map_append, hm]; rfl
          have HNX : Hid ((n.l.take (i + 1)).map (textE f) = (n.l.take i).map (textE f) ++ [textE f m]) := hnx
          generalize textE f m = X at htx HNX
          have hll : ((n.l.take i).map (textE f)).length ≤ 1000000000 := by simp; omega
          generalize (n.l.take i).map (textE f) = ls at hrow HNX hll
          clear hnx hm hc hR ih h3 hkz hmem
          go_wp2_with (first
            | ((go_at_call 22)
               (refine (htx _ (b_one _ _)).mono ?_)
               (rintro e w4 ⟨rfl, hb4⟩)
               (have hb4' : Below wr.heap.size wr w4 := (b_one wr _).trans (hb4.mono (by simp)))
               (have hrw : SRow (w4.alloc (.cells #[.string (bs X)] 9)) W1.heap.size (.slice A3 ls.length C3) ls := (hrow.below hb4').below (b_one _ _)))
            | ((refine at_dstL 29 rfl ?_)
               (refine wpList_append_str rfl _ _ rfl W1.heap.size _ ls rfl hrw w4.heap.size X rfl (Has.new _ _ _) hll (by have := hbz.size; have := hb4'.size; simp; omega) ?_)
               (intro v6 w6 hr6 hb6)))
          go_roundw
          case rel => exact ⟨i + 1, by omega, by go_num, ((hbz.trans (hb4'.mono hbz.size)).alloc (by have := hbz.size; have := hb4'.size; omega) _).trans hb6, by rw [HNX.out]; exact hr6⟩
          case measure => simp [intOf]; omega
        · have hiL2 : i = L := by omega
          subst hiL2
          have hta : (n.l.take i).map (textE f) = n.l.map (textE f) := by rw [HL.out, List.take_length]
          rw [hta] at hrow ⊢
          have hll : (n.l.map (textE f)).length = i := by rw [List.length_map, ← HL.out]
          have HLL : Hid ((n.l.map (textE f)).length = i) := hll
          generalize hJ : n.l.map (textE f) = ls at hrow hjz HLL ⊢
          have hN2 := hN1.below hbz hN1.lt
          have hjc := fun W hW => join_c W W1.heap.size A3 C3 ls (hrow.below hW) hjz (by rw [HLL.out]; omega)
          obtain ⟨X, hX⟩ : ∃ X, X = Lib.join ls [44, 32] := ⟨_, rfl⟩
          rw [← hX] at hjc hjz
          have HX : Hid (X = Lib.join (n.l.map (textE f)) [44, 32]) := by rw [hJ]; exact hX
          have hXs := bs_size X
          have hOs := bs_size n.op
          clear ih h3 hkz hta hll hX hJ
          obtain ⟨LL, hLL⟩ : ∃ LL, LL = ls.length := ⟨_, rfl⟩
          rw [← hLL] at hjc ⊢
          clear hLL hrow
          go_wp2
          refine lastTo (S := fun W => Has W w.heap.size 24 #[.string (bs n.op), .string (bs n.s), .int .i64 n.n, .int .i64 n.a, .slice A i C]) 7 (by kernel_rfl) hN2 (fun hHeld => ?_)
          refine takeC 0 [1, 2, 5, 6] (some 31) (.pointer (some ⟨w.heap.size, 0, none⟩)) rfl rfl (by decide) (by kernel_rfl) (by kernel_rfl) (by kernel_rfl) (by kernel_rfl) (by kernel_rfl) (fun _ _ _ h => h) (by rfl) (fun wz _ => run_nodeField0 _ rfl _ rfl wz) hHeld ?_
          simp only [Act.put, List.setIfInBounds_toArray, List.set_cons_zero, List.set_cons_succ]
          refine takeC 1 [2, 5, 6] (some 32) (.string (bs n.op)) rfl rfl (by decide) (by kernel_rfl) (by kernel_rfl) (by kernel_rfl) (by kernel_rfl) (by kernel_rfl) (fun _ _ _ h => h) (by rfl) (fun wz hz => run_load_one _ _ rfl (.inl rfl) _ rfl _ _ (hz.cell 0)) hHeld ?_
          simp only [Act.put, List.setIfInBounds_toArray, List.set_cons_zero, List.set_cons_succ]
          refine takeC 2 [5, 6] (some 33) (.string (bs n.op ++ ⟨#[40]⟩)) rfl rfl (by decide) (by kernel_rfl) (by kernel_rfl) (by kernel_rfl) (by kernel_rfl) (by kernel_rfl) (fun _ _ _ h => h) (by rfl) (fun wz _ => run_add_str _ _ rfl _ _ rfl rfl (by show (bs n.op).size + 1 ≤ _; omega) wz) hHeld ?_
          simp only [Act.put, List.setIfInBounds_toArray, List.set_cons_zero, List.set_cons_succ]
          refine takeC 3 [4, 5, 6] (some 34) (.slice A3 LL C3) rfl rfl (by decide) (by kernel_rfl) (by kernel_rfl) (by kernel_rfl) (by kernel_rfl) (by kernel_rfl) (fun _ _ _ h => h) (by rfl) (fun _ _ => rfl) hHeld ?_
          simp only [Act.put, List.setIfInBounds_toArray, List.set_cons_zero, List.set_cons_succ]
          refine callL 4 (some 35) 36 #[.slice A3 LL C3, .string ⟨#[44, 32]⟩] (by kernel_rfl) rfl rfl (by rfl) (by kernel_rfl) (hjc wr.drew (below_drew (Below.refl _ _))) ?_
          rintro e w4 ⟨rfl, hb4⟩
          have hb4' : Below wr.heap.size wr w4 := ⟨hb4.os, hb4.tape, hb4.output, hb4.size, hb4.block⟩
          refine ⟨_, rfl, hN2.below hb4' hN2.lt, ?_⟩
          have hHeld := hN2.below hb4' hN2.lt
          simp only [Act.put, List.setIfInBounds_toArray, List.set_cons_zero, List.set_cons_succ]
          refine takeC 5 [6] (some 36) (.string (bs n.op ++ ⟨#[40]⟩ ++ bs X)) rfl rfl (by decide) (by kernel_rfl) (by kernel_rfl) (by kernel_rfl) (by kernel_rfl) (by kernel_rfl) (fun _ _ _ h => h) (by rfl) (fun wz _ => run_add_str _ _ rfl _ _ rfl rfl (by rw [ByteArray.size_append]; show (bs n.op).size + 1 + _ ≤ _; omega) wz) hHeld ?_
          simp only [Act.put, List.setIfInBounds_toArray, List.set_cons_zero, List.set_cons_succ]
          refine takeL 6 (some 37) (.string (bs n.op ++ ⟨#[40]⟩ ++ bs X ++ ⟨#[41]⟩)) rfl rfl (by decide) (by kernel_rfl) (by kernel_rfl) (by kernel_rfl) (by kernel_rfl) (fun _ _ _ h => h) (by rfl) (fun wz _ => run_add_str _ _ rfl _ _ rfl rfl (by rw [ByteArray.size_append, ByteArray.size_append]; show (bs n.op).size + 1 + _ + 1 ≤ _; omega) wz) hHeld ?_
          simp only [Act.put, List.setIfInBounds_toArray, List.set_cons_zero, List.set_cons_succ]
          refine lastVal 7 (some 2) (.string (bs n.op ++ ⟨#[40]⟩ ++ bs X ++ ⟨#[41]⟩)) (by kernel_rfl) rfl rfl (by rfl) (by rfl) (by kernel_rfl) ?_
          simp only [Act.put, List.setIfInBounds_toArray, List.set_cons_zero, List.set_cons_succ]
          go_wp2
          go_ret
          refine ⟨?_, hbwr.trans (hb4'.mono hbwr.size)⟩
          rw [← HX.out, show (⟨#[40]⟩ : ByteArray) = bs [40] from rfl, show (⟨#[41]⟩ : ByteArray) = bs [41] from rfl, bs_cat, bs_cat, bs_cat]
          rfl
end Go.Proofs.YtpckmllmjdafpaaGreatDoor
