/- The reference's Cut, CutAt, CutMoment. -/
import Derived.Test.YtalcalecmklcoaaRfLeft
import Derived.Test.YtalcalecmklcoaaDwCutM
namespace Go.Proofs.Ytalcalecmklcoaa
open Go.ChangeShapes Go.WideShapes Go.ChangeAt Go.RowKit
set_option linter.unusedVariables false

variable {w w' : World} {q m : Nat} {s : DS} {Fl Ll : List RW} {sp : List Nat} {vF vL vS : Value}

theorem LeftR.more {w w' : World} {e : Ending} {s' s'' : DS} {Fl l l' : List RW} {sp : List Nat} (h : LeftR w w' e s' Fl l sp) (hs : s' = s'') (hl : l.length ≤ l'.length) (hm : ∀ r ∈ l, r ∈ l') : LeftR w w' e s'' Fl l' sp := by
  subst hs
  obtain ⟨q', Fl', vF', vS', h1, h2, h3, h4, h5, h6, h7, h8⟩ := h
  exact ⟨q', Fl', vF', vS', h1, h2, h3, h4, h5, h6, by omega, fun r hr => (h8 r hr).imp id (fun ⟨x, y⟩ => ⟨hm r x, y⟩)⟩

theorem LeftR.down {w w1 w' : World} {e : Ending} {s' : DS} {Fl l : List RW} {sp : List Nat} (h : LeftR w1 w' e s' Fl l sp) (hb : Below w.heap.size w w1) : LeftR w w' e s' Fl l sp := by
  obtain ⟨q', Fl', vF', vS', h1, h2, h3, h4, h5, h6, h7, h8⟩ := h
  have := hb.size
  exact ⟨q', Fl', vF', vS', h1, hb.trans (h2.mono hb.size), h3, by omega, fun k hk => by have := h5 k hk; omega, fun k hk => by have := h6 k hk; omega, h7, h8⟩

set_option maxRecDepth 100000 in
set_option maxHeartbeats 1000000 in
theorem cutR (h : RefAt w q s m Fl Ll sp vF vL vS) (a : Option Addr) (L C : Nat) (kf : Nat → Bool) (hk : Bools w a L kf) (hn : Ll.length ≤ 10000) (hF : Fl.length ≤ 10000) (hsp : sp.length ≤ 10000) :
    Calls Try.prog 26 #[ptr q, .slice a L C] w fun e w' => LeftR w w' e (cutD s (keepOf kf L)) Fl Ll sp := by
  have h2 : w.cell? ⟨q, 2, none⟩ = some vL := h.cell 2
  obtain ⟨aL, cL, rfl, _, _, _, hrL⟩ := row_is h.lr
  have hl := leftR h Ll aL Ll.length cL hrL h.lb (fun r hr => h.byt r (List.mem_append_right _ hr)) a L C kf hk hn hF hsp
  rw [h.log] at hl
  clear h hrL hk
  go_enter Try.func26, Try.ntmps26
  go_wp2_with (first
    | ((go_at_call 51)
       (refine hl.mono ?_)
       (intro e w2 hpost)
       (obtain ⟨q', Fl', vF', vS', rfl, r2⟩ := hpost)))
  go_ret
  exact ⟨q', Fl', vF', vS', rfl, r2⟩

theorem run_slice_rw {o : Oper} {a : Act} (x l : Operand) (ho : o.op = .slice 29 x none (some l) none) (A : Option Addr) (L cap q : Nat) (hx : a.eval x = .slice A L cap) (hl : a.eval l = .int .i64 (q : Nat)) (h1 : q ≤ cap) (hA : ∀ ad, A = some ad → ∃ b, ad = ⟨b, 0, none⟩) (w : World) :
    (execOp a.eval o).run Try.prog w = .ok (.value (.slice A q cap)) w := by
  unfold execOp
  simp only [ho, hx, hl, Option.map_some, Option.map_none]
  cases A with
  | none => simp [Instr.sliceAt, Instr.slice, Instr.sliceBounds, Instr.sliceBound, run_underlying Try.underlying29, go_sem, asIntOf, h1]
  | some ad =>
    obtain ⟨b, rfl⟩ := hA ad rfl
    simp [Instr.sliceAt, Instr.slice, Instr.sliceBounds, Instr.sliceBound, run_underlying Try.underlying29, go_sem, asIntOf, h1]

theorem upTo_step (N t : Nat) (l : List AE) (e : AE) (h : l[t]? = some e) (hN : wrs (l.take t) < N) : l.take t ++ upTo (N - wrs (l.take t)) (l.drop t) = l.take (t + 1) ++ upTo (N - wrs (l.take (t + 1))) (l.drop (t + 1)) := by
  have hk := (List.getElem?_eq_some_iff.1 h).1
  have e1 : l.take (t + 1) = l.take t ++ [e] := by rw [List.take_add_one, h]; rfl
  obtain ⟨n', hn'⟩ : ∃ n', N - wrs (l.take t) = n' + 1 := ⟨N - wrs (l.take t) - 1, by omega⟩
  rw [List.drop_eq_getElem_cons hk, (List.getElem?_eq_some_iff.1 h).2, hn', e1, wrs_snoc, List.append_assoc]
  show l.take t ++ (e :: upTo (if e.sync then n' + 1 else n') (l.drop (t + 1))) = l.take t ++ ([e] ++ upTo (N - (wrs (l.take t) + if e.sync then 0 else 1)) (l.drop (t + 1)))
  congr 2
  cases e.sync
  · simp only [Bool.false_eq_true, if_false]
    rw [show N - (wrs (l.take t) + 1) = n' by omega]
    rfl
  · simp only [if_true, Nat.add_zero]
    rw [hn']
    rfl

set_option maxRecDepth 100000 in
set_option maxHeartbeats 2000000 in
theorem cutAtR (h : RefAt w q s m Fl Ll sp vF vL vS) (i : Int) (a : Option Addr) (L C : Nat) (kf : Nat → Bool) (hk : Bools w a L kf) (hn : Ll.length ≤ 10000) (hF : Fl.length ≤ 10000) (hsp : sp.length ≤ 10000) :
    Calls Try.prog 28 #[ptr q, .int .i64 i, .slice a L C] w fun e w' => LeftR w w' e (cutAtD s i (keepOf kf L)) Fl Ll sp := by
  have h2 : w.cell? ⟨q, 2, none⟩ = some vL := h.cell 2
  have hwr := writesR h (by omega)
  have hwl : wrs s.log ≤ Ll.length := by rw [← h.log]; refine Nat.le_trans (List.length_filter_le _ _) ?_; rw [List.length_map]; exact Nat.le_refl _
  obtain ⟨aL, cL, rfl, hcL, _, hsL, hrL⟩ := row_is h.lr
  obtain ⟨N, hN⟩ : ∃ N, N = min i.toNat (wrs s.log) := ⟨_, rfl⟩
  have hlog := h.log
  have hlb := h.lb
  have hbyt := h.byt
  obtain ⟨n, hnL⟩ : ∃ n, n = Ll.length := ⟨_, rfl⟩
  rw [← hnL] at h2 hcL hrL hn hwl
  have hwF := fun t (ht : t ≤ n) => writesF aL t cL (Ll.take t) (hrL.take t ht) (by omega)
  have hlf := fun t (ht : t ≤ n) => leftR h (Ll.take t) aL t cL (hrL.take t ht) (fun r hr => hlb r (List.mem_of_mem_take hr)) (fun r hr => hbyt r (List.mem_append_right _ (List.mem_of_mem_take hr))) a L C kf hk (by omega) hF hsp
  have Hlog : Hid (Ll.map (·.e) = s.log) := hlog
  have HN : Hid (N = min i.toNat (wrs s.log)) := hN
  have Hn : Hid (n = Ll.length) := hnL
  have hNle : N ≤ n := by omega
  have hm1 : ∀ wz (o : Oper) (ac : Act), o.op = .call { callee := .builtin .min, args := #[.tmp 8, .tmp 10], argTypes := #[3, 3] } → ac.eval (.tmp 8) = .int .i64 i → ac.eval (.tmp 10) = .int .i64 (wrs s.log : Nat) → (execOp ac.eval o).run Try.prog wz = .ok (.value (.int .i64 (min i (wrs s.log : Nat)))) wz := by
    intro wz o ac ho e1 e2
    unfold execOp
    simp only [ho, resolve, invoke, builtin, List.map_toArray, List.map_cons, List.map_nil, e1, e2]
    by_cases hc : ((wrs s.log : Nat) : Int) < i
    · have e3 : min i ((wrs s.log : Nat) : Int) = ((wrs s.log : Nat) : Int) := by omega
      rw [e3]
      go_simp
      try omega
    · by_cases hc2 : i = ((wrs s.log : Nat) : Int)
      · rw [hc2]
        go_simp
        try omega
      · have e3 : min i ((wrs s.log : Nat) : Int) = i := by omega
        have e4 : i < ((wrs s.log : Nat) : Int) := by omega
        rw [e3]
        go_simp
        try omega
  have hmx : ((min i ((wrs s.log : Nat) : Int)).toNat : Nat) = N := by omega
  obtain ⟨M, hM⟩ : ∃ M, M = min i ((wrs s.log : Nat) : Int) := ⟨_, rfl⟩
  rw [← hM] at hm1 hmx
  have hmxN : ((M.toNat : Nat) : Int) = (N : Int) := by rw [hmx]
  clear h hrL hk hN hlog hlb hbyt hM hnL
  go_enter Try.func28, Try.ntmps28
  go_wp2_with (first
    | ((go_at_call 53)
       (refine hwr.mono ?_)
       (rintro e w' ⟨rfl, hw'⟩; obtain rfl : w = w' := hw'.symm))
    | (refine wpList_is (some 11) (.int .i64 M) rfl (by rfl) (hm1 _ _ _ rfl rfl rfl) ?_)
    | (refine wpList_is (some 12) (.int .i64 (M.toNat : Nat)) rfl (by rfl) (run_max0 _ rfl M rfl _) ?_; rw [hmxN]))
  clear hm1 hmx hmxN hwr
  go_loopw [7] (fun tv wr => wr = w ∧ ∃ t : Nat, t ≤ n ∧ tv = .int .i64 (t : Nat) ∧ Hid (upTo N s.log = s.log.take t ++ upTo (N - wrs (s.log.take t)) (s.log.drop t)))
    (fun tv _ => n - (intOf tv).toNat)
  case atStart => exact ⟨rfl, 0, Nat.zero_le _, rfl, (show upTo N s.log = _ by simp [wrs])⟩
  case round =>
    obtain ⟨hwr, t, ht, rfl, hst⟩ := hrel
    obtain rfl : w = wr := hwr.symm
    have i1 : (0 : Int) ≤ (t : Int) := by omega
    have htc : t ≤ cL := by omega
    have hwt := hwF t ht
    rw [List.map_take, Hlog.out] at hwt
    have hlt' := hlf t ht
    rw [List.map_take, Hlog.out] at hlt'
    have fin : upTo N s.log = s.log.take t → (⟨s.n, left (keepOf kf L) 0 (s.log.take t) s.fst, [], s.bad, s.dead⟩ : DS) = cutAtD s i (keepOf kf L) := fun e => by
      unfold cutAtD cutL
      rw [← HN.out, e]
    have hlen2 : (Ll.take t).length ≤ Ll.length := by rw [List.length_take]; omega
    obtain ⟨W, hW⟩ : ∃ W, W = wrs (s.log.take t) := ⟨_, rfl⟩
    rw [← hW] at hwt
    have HW : Hid (W = wrs (s.log.take t)) := hW
    clear hwF hlf hW
    by_cases hlt : t < n
    · have i0 : (t : Int) < (n : Int) := by omega
      by_cases hWN : W < N
      · have hWN1 : (W : Int) < (N : Int) := by omega
        clear hlt' fin
        go_wp2_with (first
          | (refine wpList_is (some 26) (.slice aL t cL) rfl (by rfl) (run_slice_rw _ _ rfl aL n cL t rfl rfl htc hsL _) ?_)
          | ((go_at_call 54)
             (refine hwt.mono ?_)
             (rintro e w' ⟨rfl, hw'⟩; obtain rfl : w = w' := hw'.symm)))
        go_roundw
        case rel =>
          refine ⟨by trivial, t + 1, by omega, by go_num, ?_⟩
          show _ = _
          obtain ⟨e, he⟩ : ∃ e, s.log[t]? = some e := ⟨_, List.getElem?_eq_getElem (by rw [← Hlog.out, List.length_map, ← Hn.out]; exact hlt)⟩
          rw [hst.out, upTo_step N t s.log e he (by rw [← HW.out]; exact hWN)]
        case measure => simp [intOf]; omega
      · have hWN1 : ¬ (W : Int) < (N : Int) := by omega
        have hfin := fin (by rw [hst.out, ← HW.out, show N - W = 0 by omega]; simp [upTo])
        clear fin
        go_wp2_with (first
          | (refine wpList_is (some 26) (.slice aL t cL) rfl (by rfl) (run_slice_rw _ _ rfl aL n cL t rfl rfl htc hsL _) ?_)
          | ((go_at_call 54)
             (refine hwt.mono ?_)
             (rintro e w' ⟨rfl, hw'⟩; obtain rfl : w = w' := hw'.symm))
          | (refine wpList_is (some 39) (.slice aL t cL) rfl (by rfl) (run_slice_rw _ _ rfl aL n cL t rfl rfl htc hsL _) ?_)
          | ((go_at_call 51)
             (refine hlt'.mono ?_)
             (intro e w2 hpost)
             (obtain ⟨q', Fl', vF', vS', rfl, r2⟩ := hpost)))
        go_ret
        exact LeftR.more ⟨q', Fl', vF', vS', rfl, r2⟩ hfin hlen2 (fun r hr => List.mem_of_mem_take hr)
    · obtain rfl : t = n := by omega
      have hfin := fin (by rw [hst.out, List.drop_of_length_le (by rw [← Hlog.out, List.length_map, ← Hn.out]; exact Nat.le_refl _), upTo_nil]; simp)
      clear fin hwt
      go_wp2_with (first
        | (refine wpList_is (some 39) (.slice aL t cL) rfl (by rfl) (run_slice_rw _ _ rfl aL t cL t rfl rfl htc hsL _) ?_)
        | ((go_at_call 51)
           (refine hlt'.mono ?_)
           (intro e w2 hpost)
           (obtain ⟨q', Fl', vF', vS', rfl, r2⟩ := hpost)))
      go_ret
      exact LeftR.more ⟨q', Fl', vF', vS', rfl, r2⟩ hfin hlen2 (fun r hr => List.mem_of_mem_take hr)
end Go.Proofs.Ytalcalecmklcoaa
