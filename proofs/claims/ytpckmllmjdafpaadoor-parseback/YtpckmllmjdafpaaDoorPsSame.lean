/- Two trees that are one, but for their places. -/
import Derived.Test.YtpckmllmjdafpaaDoorJoint09
namespace Go.Proofs.YtpckmllmjdafpaaDoor
open Go.ChangeShapes Go.WideShapes Go.ChangeAt Go.RowKit
set_option linter.unusedVariables false

/-- Trees that are one, but for their places. -/
inductive Alike : Nd → Nd → Prop where
  | mk (o s : List UInt8) (n a b : Int) (l l' : List Nd) : l.length = l'.length → (∀ i (h : i < l.length) (h' : i < l'.length), Alike l[i] l'[i]) → Alike (.mk o s n a l) (.mk o s n b l')

theorem run_at_node {o : Oper} {a : Act} (x i : Operand) (ho : o.op = .indexAddr 22 x i) (g off k n cap : Nat) (hx : a.eval x = .slice (some ⟨g, off, none⟩) n cap) (hi : a.eval i = .int .i64 (k : Nat)) (hk : k < n) (w : World) : (execOp a.eval o).run Tryd.prog w = .ok (.value (.pointer (some ⟨g, off + k * 5, none⟩))) w := by
  unfold execOp
  obtain ⟨i0, hq, hz0, hz, hz2⟩ := info_parts Tryd.infoNode
  simp only [ho, hx, hi]
  simp [Instr.indexAt, Instr.sureAddr, run_underlying Tryd.underlying22, asIntOf, sizeOf, typeInfo, hq, hz, Addr.add_mid, go_sem]
  intro h
  omega

/-- A node at a place of a row. -/
def NodeAt (w : World) (g p : Nat) (n : Nd) (A : Option Addr) (C : Nat) : Prop := ∀ j, j < 5 → w.cell? ⟨g, p + j, none⟩ = (ndc n (.slice A n.l.length C))[j]?

theorem run_load_at {o : Oper} {a : Act} (x : Operand) (ho : o.op = .load 24 x) (g p : Nat) (hx : a.eval x = .pointer (some ⟨g, p, none⟩)) {n : Nd} {A : Option Addr} {C : Nat} (w : World) (h : NodeAt w g p n A C) : (execOp a.eval o).run Tryd.prog w = .ok (.value (.agg #[.string (bs n.op), .string (bs n.s), .int .i64 n.n, .int .i64 n.a, .slice A n.l.length C])) w := by
  have q0 := h 0 (by decide)
  have q1 := h 1 (by decide)
  have q2 := h 2 (by decide)
  have q3 := h 3 (by decide)
  have q4 := h 4 (by decide)
  simp only [Nat.add_zero] at q0
  simp only [ndc] at q0 q1 q2 q3 q4
  unfold execOp
  simp only [ho, hx]
  go_simp

theorem NodeAt.grow {w w' : World} {g p : Nat} {n : Nd} {A : Option Addr} {C : Nat} (h : NodeAt w g p n A C) (hb : Below w.heap.size w w') (hg : g < w.heap.size) : NodeAt w' g p n A C := fun j hj => (hb.cell (p := ⟨g, p + j, none⟩) hg).trans (h j hj)

set_option maxRecDepth 100000 in
set_option maxHeartbeats 4000000 in
theorem same_c {x y : Nd} (hxy : Alike x y) : ∀ (w : World) (A A' : Option Addr) (C C' : Nat), RdN w x A C → RdN w y A' C' → Calls Tryd.prog 8 #[.agg (ndc x (.slice A x.l.length C)), .agg (ndc y (.slice A' y.l.length C')), .bool false] w (Yes w true) := by
  induction hxy with
  | mk o s n a b l l' hl hk ih =>
    intro w A A' C C' h h'
    have hlen := h.len
    have hlen' := h'.len
    simp only [Nd.l] at hlen hlen'
    have hto := bs_toList o
    have hts := bs_toList s
    obtain ⟨L, hL⟩ : ∃ L, L = l.length := ⟨_, rfl⟩
    have HL : Hid (L = l.length) := hL
    have HL' : Hid (L = l'.length) := hL.trans hl
    have hL2 : (L : Int) ≤ 9223372036854775807 := by omega
    unfold ndc
    simp only [Nd.op, Nd.s, Nd.n, Nd.a, Nd.l]
    rw [← hl, ← hL]
    clear hL hl hlen hlen'
    go_enter Tryd.func8, Tryd.ntmps8
    go_wp2
    obtain ⟨W1, hW1⟩ : ∃ W, W = (w.alloc (.cells #[.string (bs o), .string (bs s), .int .i64 n, .int .i64 a, .slice A L C] 24)).alloc (.cells #[.string (bs o), .string (bs s), .int .i64 n, .int .i64 b, .slice A' L C'] 24) := ⟨_, rfl⟩
    have hb1 : Below w.heap.size w W1 := by rw [hW1]; exact b_two _ _ _
    have hA1 : Has W1 w.heap.size 24 #[.string (bs o), .string (bs s), .int .i64 n, .int .i64 a, .slice A L C] := by rw [hW1]; exact (Has.new _ _ _).alloc _
    have hB1 : Has W1 (w.heap.size + 1) 24 #[.string (bs o), .string (bs s), .int .i64 n, .int .i64 b, .slice A' L C'] := by
      rw [hW1]
      have := Has.new (w.alloc (.cells #[.string (bs o), .string (bs s), .int .i64 n, .int .i64 a, .slice A L C] 24)) 24 #[.string (bs o), .string (bs s), .int .i64 n, .int .i64 b, .slice A' L C']
      simpa using this
    rw [← hW1]
    clear hW1
    go_loopw [7] (fun z wz => ∃ i : Nat, i ≤ L ∧ z = .int .i64 (i : Nat) ∧ Below W1.heap.size W1 wz) (fun z _ => L - (intOf z).toNat)
    case atStart => exact ⟨0, Nat.zero_le _, rfl, Below.refl _ _⟩
    case round =>
      obtain ⟨i, hi, rfl, hbz⟩ := hrel
      have hbwr : Below w.heap.size w wr := hb1.trans (hbz.mono hb1.size)
      have hA2 := hA1.below hbz hA1.lt
      have hB2 := hB1.below hbz hB1.lt
      have a4 := hA2.cell 4
      by_cases hiL : i < L
      · have hiL2 : (i : Int) < (L : Int) := by omega
        have hi1 : i < l.length := by rw [← HL.out]; exact hiL
        have hi2 : i < l'.length := by rw [← HL'.out]; exact hiL
        obtain ⟨g, off, u, e1, hg, hc, hru, hsu, hou⟩ := (h.grow hbwr).rd.get i hi1
        obtain ⟨g', off', v, e2, hg', hc', hrv, hsv, hov⟩ := (h'.grow hbwr).rd.get i hi2
        subst e1 e2
        obtain ⟨x, hx⟩ : ∃ x, x = l[i] := ⟨_, rfl⟩
        obtain ⟨y, hy⟩ : ∃ y, y = l'[i] := ⟨_, rfl⟩
        have ihx := ih i hi1 hi2
        simp only [Nd.l] at hc hc' hru hrv hsu hsv hou hov
        rw [← hx] at hc hru hsu hou ihx
        rw [← hy] at hc' hrv hsv hov ihx
        obtain ⟨Au, Cu, rfl, -, -⟩ := hru.slice
        obtain ⟨Av, Cv, rfl, -, -⟩ := hrv.slice
        have hnx : NodeAt wr g (off + i * 5) x Au Cu := hc
        have hny : NodeAt wr g' (off' + i * 5) y Av Cv := hc'
        have hcall := fun W hW => ihx W Au Av Cu Cv (RdN.grow (w := wr) ⟨hru, hsu, hou⟩ hW) (RdN.grow (w := wr) ⟨hrv, hsv, hov⟩ hW)
        clear ih hk ihx hx hy hc hc'
        go_wp2
        refine lastTo (S := fun W => (Has W w.heap.size 24 #[.string (bs o), .string (bs s), .int .i64 n, .int .i64 a, .slice (some ⟨g, off, none⟩) L C] ∧ Has W (w.heap.size + 1) 24 #[.string (bs o), .string (bs s), .int .i64 n, .int .i64 b, .slice (some ⟨g', off', none⟩) L C']) ∧ NodeAt W g (off + i * 5) x Au Cu ∧ NodeAt W g' (off' + i * 5) y Av Cv) 12 (by kernel_rfl) ⟨⟨hA2, hB2⟩, hnx, hny⟩ (fun hHeld => ?_)
        refine takeC 0 [1, 3, 4, 11] (some 54) (.pointer (some ⟨w.heap.size, 4, none⟩)) rfl rfl (by decide) (by kernel_rfl) (by kernel_rfl) (by kernel_rfl) (by kernel_rfl) (by kernel_rfl) (fun _ _ _ h => h) (by rfl) (fun wz _ => run_nodeField _ rfl _ rfl wz) hHeld ?_
        simp only [Act.put, List.setIfInBounds_toArray, List.set_cons_zero, List.set_cons_succ]
        refine takeC 1 [3, 4, 11] (some 55) (.slice (some ⟨g, off, none⟩) L C) rfl rfl (by decide) (by kernel_rfl) (by kernel_rfl) (by kernel_rfl) (by kernel_rfl) (by kernel_rfl) (fun _ _ _ h => h) (by rfl) (fun wz hz => run_load_nodes _ rfl _ rfl _ _ (hz.1.1.cell 4)) hHeld ?_
        simp only [Act.put, List.setIfInBounds_toArray, List.set_cons_zero, List.set_cons_succ]
        refine takeC 2 [3, 4, 11] (some 56) (.int .i64 (i : Nat)) rfl rfl (by decide) (by kernel_rfl) (by kernel_rfl) (by kernel_rfl) (by kernel_rfl) (by kernel_rfl) (fun _ _ _ h => h) (by rfl) (fun _ _ => rfl) hHeld ?_
        simp only [Act.put, List.setIfInBounds_toArray, List.set_cons_zero, List.set_cons_succ]
        refine takeC 3 [4, 11] (some 57) (.pointer (some ⟨g, off + i * 5, none⟩)) rfl rfl (by decide) (by kernel_rfl) (by kernel_rfl) (by kernel_rfl) (by kernel_rfl) (by kernel_rfl) (fun _ _ _ h => h) (by rfl) (fun wz _ => run_at_node _ _ rfl g off i L C rfl rfl hiL wz) hHeld ?_
        simp only [Act.put, List.setIfInBounds_toArray, List.set_cons_zero, List.set_cons_succ]
        refine takeC 4 [11] (some 58) (.agg #[.string (bs x.op), .string (bs x.s), .int .i64 x.n, .int .i64 x.a, .slice Au x.l.length Cu]) rfl rfl (by decide) (by kernel_rfl) (by kernel_rfl) (by kernel_rfl) (by kernel_rfl) (by kernel_rfl) (fun _ _ _ h => h) (by rfl) (fun wz hz => run_load_at _ rfl _ _ rfl wz hz.2.1) hHeld ?_
        simp only [Act.put, List.setIfInBounds_toArray, List.set_cons_zero, List.set_cons_succ]
        refine takeC 5 [6, 8, 9, 11] (some 59) (.pointer (some ⟨w.heap.size + 1, 4, none⟩)) rfl rfl (by decide) (by kernel_rfl) (by kernel_rfl) (by kernel_rfl) (by kernel_rfl) (by kernel_rfl) (fun _ _ _ h => h) (by rfl) (fun wz _ => run_nodeField _ rfl _ rfl wz) hHeld ?_
        simp only [Act.put, List.setIfInBounds_toArray, List.set_cons_zero, List.set_cons_succ]
        refine takeC 6 [8, 9, 11] (some 60) (.slice (some ⟨g', off', none⟩) L C') rfl rfl (by decide) (by kernel_rfl) (by kernel_rfl) (by kernel_rfl) (by kernel_rfl) (by kernel_rfl) (fun _ _ _ h => h) (by rfl) (fun wz hz => run_load_nodes _ rfl _ rfl _ _ (hz.1.2.cell 4)) hHeld ?_
        simp only [Act.put, List.setIfInBounds_toArray, List.set_cons_zero, List.set_cons_succ]
        refine takeC 7 [8, 9, 11] (some 61) (.int .i64 (i : Nat)) rfl rfl (by decide) (by kernel_rfl) (by kernel_rfl) (by kernel_rfl) (by kernel_rfl) (by kernel_rfl) (fun _ _ _ h => h) (by rfl) (fun _ _ => rfl) hHeld ?_
        simp only [Act.put, List.setIfInBounds_toArray, List.set_cons_zero, List.set_cons_succ]
        refine takeC 8 [9, 11] (some 62) (.pointer (some ⟨g', off' + i * 5, none⟩)) rfl rfl (by decide) (by kernel_rfl) (by kernel_rfl) (by kernel_rfl) (by kernel_rfl) (by kernel_rfl) (fun _ _ _ h => h) (by rfl) (fun wz _ => run_at_node _ _ rfl g' off' i L C' rfl rfl hiL wz) hHeld ?_
        simp only [Act.put, List.setIfInBounds_toArray, List.set_cons_zero, List.set_cons_succ]
        refine takeC 9 [11] (some 63) (.agg #[.string (bs y.op), .string (bs y.s), .int .i64 y.n, .int .i64 y.a, .slice Av y.l.length Cv]) rfl rfl (by decide) (by kernel_rfl) (by kernel_rfl) (by kernel_rfl) (by kernel_rfl) (by kernel_rfl) (fun _ _ _ h => h) (by rfl) (fun wz hz => run_load_at _ rfl _ _ rfl wz hz.2.2) hHeld ?_
        simp only [Act.put, List.setIfInBounds_toArray, List.set_cons_zero, List.set_cons_succ]
        refine takeC 10 [11] (some 64) (.bool false) rfl rfl (by decide) (by kernel_rfl) (by kernel_rfl) (by kernel_rfl) (by kernel_rfl) (by kernel_rfl) (fun _ _ _ h => h) (by rfl) (fun _ _ => rfl) hHeld ?_
        simp only [Act.put, List.setIfInBounds_toArray, List.set_cons_zero, List.set_cons_succ]
        refine callL 11 (some 65) 8 #[.agg #[.string (bs x.op), .string (bs x.s), .int .i64 x.n, .int .i64 x.a, .slice Au x.l.length Cu], .agg #[.string (bs y.op), .string (bs y.s), .int .i64 y.n, .int .i64 y.a, .slice Av y.l.length Cv], .bool false] (by kernel_rfl) rfl rfl (by rfl) (by kernel_rfl) (hcall wr.drew (below_drew (Below.refl _ _))) ?_
        rintro e w4 ⟨rfl, hb4⟩
        have hb4' : Below wr.heap.size wr w4 := ⟨hb4.os, hb4.tape, hb4.output, hb4.size, hb4.block⟩
        refine ⟨_, rfl, ⟨⟨hA2.below hb4' hA2.lt, hB2.below hb4' hB2.lt⟩, hnx.grow hb4' hg, hny.grow hb4' hg'⟩, ?_⟩
        simp only [Act.put, List.setIfInBounds_toArray, List.set_cons_zero, List.set_cons_succ]
        refine lastVal 12 (some 8) (.bool true) (by kernel_rfl) rfl rfl (by rfl) (by rfl) (by kernel_rfl) ?_
        simp only [Act.put, List.setIfInBounds_toArray, List.set_cons_zero, List.set_cons_succ]
        go_wp2
        go_roundw
        case rel => exact ⟨i + 1, by omega, by go_num, hbz.trans (hb4'.mono hbz.size)⟩
        case measure => simp [intOf]; omega
      · have hiL2 : i = L := by omega
        subst hiL2
        clear ih hk
        go_wp2
        go_ret
        exact ⟨rfl, hbwr⟩
end Go.Proofs.YtpckmllmjdafpaaDoor
