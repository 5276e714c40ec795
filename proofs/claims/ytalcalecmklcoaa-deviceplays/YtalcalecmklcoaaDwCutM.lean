/- device: CutAt, CutMoment. -/
import Derived.Test.YtalcalecmklcoaaDwCut
import Derived.Test.YtalcalecmklcoaaDwSyncedM
import Derived.Test.YtalcalecmklcoaaDwUpTo
namespace Go.Proofs.Ytalcalecmklcoaa
open Go.ChangeShapes Go.WideShapes Go.ChangeAt Go.RowKit
set_option linter.unusedVariables false

theorem run_max0 {o : Oper} {a : Act} (x : Operand) (ho : o.op = .call { callee := .builtin .max, args := #[x, .const (.int .i64 0)], argTypes := #[3, 3] }) (i : Int) (hx : a.eval x = .int .i64 i) (w : World) : (execOp a.eval o).run Try.prog w = .ok (.value (.int .i64 (i.toNat : Nat))) w := by
  unfold execOp
  simp only [ho, resolve, invoke, builtin, List.map_toArray, List.map_cons, List.map_nil, hx]
  by_cases h : i < 0
  · have e : ((i.toNat : Nat) : Int) = 0 := by omega
    have h2 : ¬ (0 : Int) < i := by omega
    rw [e]
    go_simp
    try omega
  · by_cases h0 : i = 0
    · subst h0
      go_simp
      try omega
    · have e : ((i.toNat : Nat) : Int) = i := by omega
      have h2 : (0 : Int) < i := by omega
      rw [e]
      go_simp
      try omega

theorem run_minN {o : Oper} {a : Act} (x y : Operand) (ho : o.op = .call { callee := .builtin .min, args := #[x, y], argTypes := #[3, 3] }) (p q : Nat) (hx : a.eval x = .int .i64 (p : Nat)) (hy : a.eval y = .int .i64 (q : Nat)) (N : Nat) (hN : N = min p q) (w : World) : (execOp a.eval o).run Try.prog w = .ok (.value (.int .i64 (N : Nat))) w := by
  unfold execOp
  simp only [ho, resolve, invoke, builtin, List.map_toArray, List.map_cons, List.map_nil, hx, hy]
  by_cases h : q < p
  · have e : N = q := by omega
    have h' : (q : Int) < (p : Int) := by omega
    have h2 : ¬ (p : Int) < (q : Int) := by omega
    rw [e]
    go_simp
    try omega
  · by_cases h0 : p = q
    · have e : N = q := by omega
      subst h0
      rw [e]
      go_simp
      try omega
    · have e : N = p := by omega
      have h' : ¬ (q : Int) < (p : Int) := by omega
      have h2 : (p : Int) < (q : Int) := by omega
      rw [e]
      go_simp
      try omega

theorem run_store_n {o : Oper} {a : Act} (x y : Operand) (ho : o.op = .store 3 x y) (p : Addr) (hx : a.eval x = .pointer (some p)) (n : Nat) (hy : a.eval y = .int .i64 (n : Nat)) (w : World) (u : Value) (h : w.cell? p = some u) (hf : w.frozen? p = false) : (execOp a.eval o).run Try.prog w = .ok .skip (w.setCell p (.int .i64 (n : Nat))) := by
  unfold execOp
  simp only [ho, hx, hy]
  go_simp

variable {w w' : World} {p c bb bs bc : Nat} {s : DS} {vw vs : Value}

set_option maxRecDepth 100000 in
set_option maxHeartbeats 2000000 in
theorem cutAt_r (h : RepAt w p s c bb bs bc vw vs) (i : Int) (a : Option Addr) (L C : Nat) (kf : Nat → Bool) (hk : Bools w a L kf) (hlen : s.log.length ≤ 100000) :
    Calls Try.prog 27 #[ptr p, .int .i64 i, .slice a L C] w fun e w' => LeftPost w w' e (cutAtD s i (keepOf kf L)) := by
  have hwl : wrs s.log ≤ s.log.length := List.length_filter_le _ _
  obtain ⟨N, hN⟩ : ∃ N, N = min i.toNat (wrs s.log) := ⟨_, rfl⟩
  have hNw : N ≤ wrs s.log := by omega
  have hle : lastS ((syOf s.log).filter fun x => decide (x.1 < N)) ≤ 100000 := by
    have := last_le s.log (fun x => decide (x.1 < N)) (syOf s.log).length
    rw [List.take_length] at this
    omega
  have hfin : (⟨s.n, clo (keepOf kf L) (lastS ((syOf s.log).filter fun x => decide (x.1 < N))) 0 0 ((ws s.log).take N) s.fst, [], s.bad, s.dead⟩ : DS) = cutAtD s i (keepOf kf L) := by
    unfold cutAtD cutL
    rw [← hN, at_prog _ _ _ hNw]
  have h5 : w.cell? ⟨p, 5, none⟩ = some vw := h.cell 5
  have hplt := h.has.lt
  have hb0 : Below w.heap.size w (w.alloc (.cells #[.int .i64 i] 3)) := (Below.refl _ _).alloc (Nat.le_refl _) _
  have hH0 : Has (w.alloc (.cells #[.int .i64 i] 3)) w.heap.size 3 #[.int .i64 i] := Has.new_at rfl
  have HR : Hid (RepAt w p s c bb bs bc vw vs) := h
  obtain ⟨aw, capw, rfl, _⟩ := own_slice h.wr
  clear h
  go_enter Try.func27, Try.ntmps27
  go_wp2
  obtain ⟨w1, hw1⟩ : ∃ w1, w1 = w.alloc (.cells #[.int .i64 i] 3) := ⟨_, rfl⟩
  rw [← hw1] at hb0 hH0 ⊢
  clear hw1
  obtain ⟨gn, hgn⟩ : ∃ gn, gn = w.heap.size := ⟨_, rfl⟩
  rw [← hgn] at hH0 ⊢
  have hgp : p ≠ gn := by omega
  have hgle : w.heap.size ≤ gn := by omega
  clear hgn
  have k5 : w1.cell? ⟨p, 5, none⟩ = some (.slice aw (wrs s.log) capw) := (hb0.cell (p := ⟨p, 5, none⟩) hplt).trans h5
  refine lastTo (S := fun wz => wz.cell? ⟨gn, 0, none⟩ = some (.int .i64 i) ∧ wz.cell? ⟨p, 5, none⟩ = some (.slice aw (wrs s.log) capw)) 8 (by kernel_rfl) ⟨hH0.cell 0, k5⟩ (fun hHeld => ?_)
  refine takeL 0 (some 10) (.int .i64 i) rfl rfl (by decide) (by kernel_rfl) (by kernel_rfl) (by kernel_rfl) (by kernel_rfl) (fun _ _ _ h => h) (by rfl) (fun wz hz => run_load_n _ rfl _ rfl _ wz hz.1) hHeld ?_
  simp only [Act.put, List.setIfInBounds_toArray, List.set_cons_zero, List.set_cons_succ]
  refine takeL 1 (some 11) (.int .i64 (i.toNat : Nat)) rfl rfl (by decide) (by kernel_rfl) (by kernel_rfl) (by kernel_rfl) (by kernel_rfl) (fun _ _ _ h => h) (by rfl) (fun wz _ => run_max0 _ rfl i rfl wz) hHeld ?_
  simp only [Act.put, List.setIfInBounds_toArray, List.set_cons_zero, List.set_cons_succ]
  refine takeL 2 (some 12) (ptr p) rfl rfl (by decide) (by kernel_rfl) (by kernel_rfl) (by kernel_rfl) (by kernel_rfl) (fun _ _ _ h => h) (by rfl) (fun _ _ => rfl) hHeld ?_
  simp only [Act.put, List.setIfInBounds_toArray, List.set_cons_zero, List.set_cons_succ]
  refine takeL 3 (some 13) (.pointer (some ⟨p, 0, none⟩)) rfl rfl (by decide) (by kernel_rfl) (by kernel_rfl) (by kernel_rfl) (by kernel_rfl) (fun _ _ _ h => h) (by rfl) (fun _ _ => rfl) hHeld ?_
  simp only [Act.put, List.setIfInBounds_toArray, List.set_cons_zero, List.set_cons_succ]
  refine takeL 4 (some 14) (.pointer (some ⟨p, 5, none⟩)) rfl rfl (by decide) (by kernel_rfl) (by kernel_rfl) (by kernel_rfl) (by kernel_rfl) (fun _ _ _ h => h) (by rfl) (fun _ _ => rfl) hHeld ?_
  simp only [Act.put, List.setIfInBounds_toArray, List.set_cons_zero, List.set_cons_succ]
  refine takeL 5 (some 15) (.slice aw (wrs s.log) capw) rfl rfl (by decide) (by kernel_rfl) (by kernel_rfl) (by kernel_rfl) (by kernel_rfl) (fun _ _ _ h => h) (by rfl) (fun wz hz => run_load_ws _ rfl _ rfl _ wz hz.2) hHeld ?_
  simp only [Act.put, List.setIfInBounds_toArray, List.set_cons_zero, List.set_cons_succ]
  refine takeL 6 (some 16) (.int .i64 (wrs s.log : Nat)) rfl rfl (by decide) (by kernel_rfl) (by kernel_rfl) (by kernel_rfl) (by kernel_rfl) (fun _ _ _ h => h) (by rfl) (fun wz _ => run_len_of 72 98 Try.underlying72 _ rfl aw (wrs s.log) capw rfl wz) hHeld ?_
  simp only [Act.put, List.setIfInBounds_toArray, List.set_cons_zero, List.set_cons_succ]
  refine takeL 7 (some 17) (.int .i64 (N : Nat)) rfl rfl (by decide) (by kernel_rfl) (by kernel_rfl) (by kernel_rfl) (by kernel_rfl) (fun _ _ _ h => h) (by rfl) (fun wz _ => run_minN _ _ rfl _ _ rfl rfl N hN wz) hHeld ?_
  simp only [Act.put, List.setIfInBounds_toArray, List.set_cons_zero, List.set_cons_succ]
  have hH0d : Has w1.drew gn 3 #[.int .i64 i] := hH0
  refine lastSkip 8 none (w1.drew.setCell ⟨gn, 0, none⟩ (.int .i64 (N : Nat))) (by kernel_rfl) rfl rfl (by rfl) (run_store_n _ _ rfl ⟨gn, 0, none⟩ rfl N rfl w1.drew _ hHeld.1 (hH0d.free 0)) (by kernel_rfl) ?_
  simp only [Act.put]
  have hO2 := only_setCell w1.drew gn 0 (.int .i64 (N : Nat))
  have hH2 : Has (w1.drew.setCell ⟨gn, 0, none⟩ (.int .i64 (N : Nat))) gn 3 #[.int .i64 (N : Nat)] := hH0d.setV 0 _
  obtain ⟨w2, hw2⟩ : ∃ w2, w2 = w1.drew.setCell ⟨gn, 0, none⟩ (.int .i64 (N : Nat)) := ⟨_, rfl⟩
  rw [← hw2] at hO2 hH2 ⊢
  clear hw2
  have hb1d : Below w.heap.size w w1.drew := hb0.drew
  have hb2 : Below w.heap.size w w2 := hb1d.trans (hO2.below (fun k hk => by rw [hk]; exact hgle) hb1d.size)
  have c2 := hH2.cell 0
  have h2 := HR.out.below hb2
  have hsy := synced_at h2 gn N c2 hH2.lt hlen
  have hlf := fun w3 (hb : Below w2.heap.size w2 w3) => left_r (h2.below hb) N (lastS ((syOf s.log).filter fun x => decide (x.1 < N))) hNw hle a L C kf ((hk.down hb2).down hb) hlen
  have hgl := hH2.lt
  clear h2 hk hN
  go_wp2_with (first
    | ((go_at_call 48)
       (refine hsy.mono ?_)
       (rintro e w3 ⟨rfl, hb3⟩)
       (have k0 : w3.cell? ⟨gn, 0, none⟩ = some (.int .i64 (N : Nat)) := (hb3.cell (p := ⟨gn, 0, none⟩) hgl).trans c2)
       (have hl1 := hlf w3 hb3)
       (clear hlf))
    | ((go_at_call 50)
       (refine hl1.mono ?_)
       (intro e w4 hpost)
       (obtain ⟨q, c', b1, b2, b3, rfl, r2⟩ := hpost)))
  go_ret
  exact LeftPost.up (w1 := w3) ⟨q, c', b1, b2, b3, rfl, r2⟩ (hb2.trans (hb3.mono hb2.size)) hfin

set_option maxRecDepth 100000 in
set_option maxHeartbeats 2000000 in
theorem cutMo_r (h : RepAt w p s c bb bs bc vw vs) {m : Nat} (hc : Has w c 80 #[.int .i64 (m : Nat)]) (i : Int) (a : Option Addr) (L C : Nat) (kf : Nat → Bool) (hk : Bools w a L kf) (hm : m ≤ 100000) (hlen : s.log.length ≤ 100000) :
    Calls Try.prog 29 #[ptr p, .int .i64 i, .slice a L C] w fun e w' => LeftPost w w' e (cutMoD s m i (keepOf kf L)) := by
  have hwl : wrs s.log ≤ s.log.length := List.length_filter_le _ _
  obtain ⟨N, hN⟩ : ∃ N, N = min i.toNat m := ⟨_, rfl⟩
  have hNm : max (min i (m : Int)) 0 = ((N : Nat) : Int) := by omega
  have hle : lastS ((syOf s.log).filter fun x => decide (x.2 < ((N : Nat) : Int))) ≤ 100000 := by
    have := last_le s.log (fun x => decide (x.2 < ((N : Nat) : Int))) (syOf s.log).length
    rw [List.take_length] at this
    omega
  have hfin : (⟨s.n, clo (keepOf kf L) (lastS ((syOf s.log).filter fun x => decide (x.2 < ((N : Nat) : Int)))) 0 0 ((ws s.log).take (wrs (momL ((N : Nat) : Int) s.log))) s.fst, [], s.bad, s.dead⟩ : DS) = cutMoD s m i (keepOf kf L) := by
    unfold cutMoD cutL
    rw [hNm, mo_prog _ _ _ (by omega) h.rise]
  have hml : wrs (momL ((N : Nat) : Int) s.log) ≤ wrs s.log := by
    obtain ⟨r, hr, _⟩ := rise_split ((N : Nat) : Int) (by omega) s.log h.rise
    rw [hr, wrs_append, ← hr]
    omega
  have h8 : w.cell? ⟨p, 8, none⟩ = some (.pointer (some ⟨c, 0, none⟩)) := h.cell 8
  have hc0 : w.cell? ⟨c, 0, none⟩ = some (.int .i64 (m : Nat)) := hc.cell 0
  have hplt := h.has.lt
  have hclt := hc.lt
  have hb0 : Below w.heap.size w (w.alloc (.cells #[.int .i64 i] 3)) := (Below.refl _ _).alloc (Nat.le_refl _) _
  have hH0 : Has (w.alloc (.cells #[.int .i64 i] 3)) w.heap.size 3 #[.int .i64 i] := Has.new_at rfl
  have HR : Hid (RepAt w p s c bb bs bc vw vs) := h
  clear h hc hNm
  go_enter Try.func29, Try.ntmps29
  go_wp2
  obtain ⟨w1, hw1⟩ : ∃ w1, w1 = w.alloc (.cells #[.int .i64 i] 3) := ⟨_, rfl⟩
  rw [← hw1] at hb0 hH0 ⊢
  clear hw1
  obtain ⟨gn, hgn⟩ : ∃ gn, gn = w.heap.size := ⟨_, rfl⟩
  rw [← hgn] at hH0 ⊢
  have hgle : w.heap.size ≤ gn := by omega
  clear hgn
  have k8 : w1.cell? ⟨p, 8, none⟩ = some (.pointer (some ⟨c, 0, none⟩)) := (hb0.cell (p := ⟨p, 8, none⟩) hplt).trans h8
  have kc : w1.cell? ⟨c, 0, none⟩ = some (.int .i64 (m : Nat)) := (hb0.cell (p := ⟨c, 0, none⟩) hclt).trans hc0
  refine lastTo (S := fun wz => wz.cell? ⟨gn, 0, none⟩ = some (.int .i64 i) ∧ wz.cell? ⟨p, 8, none⟩ = some (.pointer (some ⟨c, 0, none⟩)) ∧ wz.cell? ⟨c, 0, none⟩ = some (.int .i64 (m : Nat))) 10 (by kernel_rfl) ⟨hH0.cell 0, k8, kc⟩ (fun hHeld => ?_)
  refine takeL 0 (some 10) (.int .i64 i) rfl rfl (by decide) (by kernel_rfl) (by kernel_rfl) (by kernel_rfl) (by kernel_rfl) (fun _ _ _ h => h) (by rfl) (fun wz hz => run_load_n _ rfl _ rfl _ wz hz.1) hHeld ?_
  simp only [Act.put, List.setIfInBounds_toArray, List.set_cons_zero, List.set_cons_succ]
  refine takeL 1 (some 11) (.int .i64 (i.toNat : Nat)) rfl rfl (by decide) (by kernel_rfl) (by kernel_rfl) (by kernel_rfl) (by kernel_rfl) (fun _ _ _ h => h) (by rfl) (fun wz _ => run_max0 _ rfl i rfl wz) hHeld ?_
  simp only [Act.put, List.setIfInBounds_toArray, List.set_cons_zero, List.set_cons_succ]
  refine takeL 2 (some 12) (ptr p) rfl rfl (by decide) (by kernel_rfl) (by kernel_rfl) (by kernel_rfl) (by kernel_rfl) (fun _ _ _ h => h) (by rfl) (fun _ _ => rfl) hHeld ?_
  simp only [Act.put, List.setIfInBounds_toArray, List.set_cons_zero, List.set_cons_succ]
  refine takeL 3 (some 13) (.pointer (some ⟨p, 0, none⟩)) rfl rfl (by decide) (by kernel_rfl) (by kernel_rfl) (by kernel_rfl) (by kernel_rfl) (fun _ _ _ h => h) (by rfl) (fun _ _ => rfl) hHeld ?_
  simp only [Act.put, List.setIfInBounds_toArray, List.set_cons_zero, List.set_cons_succ]
  refine takeL 4 (some 14) (.pointer (some ⟨p, 8, none⟩)) rfl rfl (by decide) (by kernel_rfl) (by kernel_rfl) (by kernel_rfl) (by kernel_rfl) (fun _ _ _ h => h) (by rfl) (fun _ _ => rfl) hHeld ?_
  simp only [Act.put, List.setIfInBounds_toArray, List.set_cons_zero, List.set_cons_succ]
  refine takeL 5 (some 15) (.pointer (some ⟨c, 0, none⟩)) rfl rfl (by decide) (by kernel_rfl) (by kernel_rfl) (by kernel_rfl) (by kernel_rfl) (fun _ _ _ h => h) (by rfl) (fun wz hz => run_load_pc _ rfl _ rfl _ wz hz.2.1) hHeld ?_
  simp only [Act.put, List.setIfInBounds_toArray, List.set_cons_zero, List.set_cons_succ]
  refine takeL 6 (some 16) (.pointer (some ⟨c, 0, none⟩)) rfl rfl (by decide) (by kernel_rfl) (by kernel_rfl) (by kernel_rfl) (by kernel_rfl) (fun _ _ _ h => h) (by rfl) (fun _ _ => rfl) hHeld ?_
  simp only [Act.put, List.setIfInBounds_toArray, List.set_cons_zero, List.set_cons_succ]
  refine takeL 7 (some 17) (.pointer (some ⟨c, 0, none⟩)) rfl rfl (by decide) (by kernel_rfl) (by kernel_rfl) (by kernel_rfl) (by kernel_rfl) (fun _ _ _ h => h) (by rfl) (fun _ _ => rfl) hHeld ?_
  simp only [Act.put, List.setIfInBounds_toArray, List.set_cons_zero, List.set_cons_succ]
  refine takeL 8 (some 18) (.int .i64 (m : Nat)) rfl rfl (by decide) (by kernel_rfl) (by kernel_rfl) (by kernel_rfl) (by kernel_rfl) (fun _ _ _ h => h) (by rfl) (fun wz hz => run_load_n _ rfl _ rfl _ wz hz.2.2) hHeld ?_
  simp only [Act.put, List.setIfInBounds_toArray, List.set_cons_zero, List.set_cons_succ]
  refine takeL 9 (some 19) (.int .i64 (N : Nat)) rfl rfl (by decide) (by kernel_rfl) (by kernel_rfl) (by kernel_rfl) (by kernel_rfl) (fun _ _ _ h => h) (by rfl) (fun wz _ => run_minN _ _ rfl _ _ rfl rfl N hN wz) hHeld ?_
  simp only [Act.put, List.setIfInBounds_toArray, List.set_cons_zero, List.set_cons_succ]
  have hH0d : Has w1.drew gn 3 #[.int .i64 i] := hH0
  refine lastSkip 10 none (w1.drew.setCell ⟨gn, 0, none⟩ (.int .i64 (N : Nat))) (by kernel_rfl) rfl rfl (by rfl) (run_store_n _ _ rfl ⟨gn, 0, none⟩ rfl N rfl w1.drew _ hHeld.1 (hH0d.free 0)) (by kernel_rfl) ?_
  simp only [Act.put]
  have hO2 := only_setCell w1.drew gn 0 (.int .i64 (N : Nat))
  have hH2 : Has (w1.drew.setCell ⟨gn, 0, none⟩ (.int .i64 (N : Nat))) gn 3 #[.int .i64 (N : Nat)] := hH0d.setV 0 _
  obtain ⟨w2, hw2⟩ : ∃ w2, w2 = w1.drew.setCell ⟨gn, 0, none⟩ (.int .i64 (N : Nat)) := ⟨_, rfl⟩
  rw [← hw2] at hO2 hH2 ⊢
  clear hw2
  have hb1d : Below w.heap.size w w1.drew := hb0.drew
  have hb2 : Below w.heap.size w w2 := hb1d.trans (hO2.below (fun k hk => by rw [hk]; exact hgle) hb1d.size)
  have c2 := hH2.cell 0
  have h2 := HR.out.below hb2
  have hsy := synced_mo h2 gn N c2 hH2.lt hlen
  have hup := fun w3 (hb : Below w2.heap.size w2 w3) => upTo_r (h2.below hb) N hlen
  have hlf := fun w3 (hb : Below w2.heap.size w2 w3) => left_r (h2.below hb) (wrs (momL ((N : Nat) : Int) s.log)) (lastS ((syOf s.log).filter fun x => decide (x.2 < ((N : Nat) : Int)))) hml hle a L C kf ((hk.down hb2).down hb) hlen
  have hgl := hH2.lt
  clear h2 hk hN
  generalize wrs (momL ((N : Nat) : Int) s.log) = M at hup hlf hfin hml
  go_wp2_with (first
    | ((go_at_call 48)
       (refine hsy.mono ?_)
       (rintro e w3 ⟨rfl, hb3⟩)
       (have k0 : w3.cell? ⟨gn, 0, none⟩ = some (.int .i64 (N : Nat)) := (hb3.cell (p := ⟨gn, 0, none⟩) hgl).trans c2)
       (have hu1 := hup w3 hb3)
       (have hl1 := hlf w3 hb3)
       (clear hlf hup))
    | ((go_at_call 56)
       (refine hu1.mono ?_)
       (rintro e w' ⟨rfl, hw'⟩; obtain rfl : w3 = w' := hw'.symm))
    | ((go_at_call 50)
       (refine hl1.mono ?_)
       (intro e w4 hpost)
       (obtain ⟨q, c', b1, b2, b3, rfl, r2⟩ := hpost)))
  go_ret
  exact LeftPost.up (w1 := w3) ⟨q, c', b1, b2, b3, rfl, r2⟩ (hb2.trans (hb3.mono hb2.size)) hfin
end Go.Proofs.Ytalcalecmklcoaa
