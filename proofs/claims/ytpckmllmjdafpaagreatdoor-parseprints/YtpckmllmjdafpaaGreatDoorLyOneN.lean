/- The reference of layer 10: a number at a place. -/
import Derived.Test.YtpckmllmjdafpaaGreatDoorLyOneA
namespace Go.Proofs.YtpckmllmjdafpaaGreatDoor
open Go.ChangeShapes Go.WideShapes Go.ChangeAt Go.RowKit
set_option linter.unusedVariables false

theorem rfig_get {l : List UInt8} {p j : Nat} (hj : j < cnt isFig (l.drop p)) : ∃ h : p + j < l.length, isFig (l[p + j]) = true := by
  have hl := cnt_le isFig (l.drop p)
  rw [List.length_drop] at hl
  have h : p + j < l.length := by omega
  exact ⟨h, (cnt_at (by omega) h).1 hj⟩

theorem rval_next {l : List UInt8} {p j : Nat} (h : p + j < l.length) : val ((l.drop p).take (j + 1)) = 10 * val ((l.drop p).take j) + (l[p + j].toNat - 48) := by
  have h2 : j < (l.drop p).length := by rw [List.length_drop]; omega
  rw [List.take_succ_eq_append_getElem h2, val_snoc]
  simp

theorem rval_lt {l : List UInt8} {p j : Nat} (hj : j ≤ cnt isFig (l.drop p)) (h9 : ¬ 9 < cnt isFig (l.drop p)) : val ((l.drop p).take j) < 1000000000 := by
  have h1 := val_bound ((l.drop p).take j) (fun c hc => mem_cnt (p := isFig) (x := l.drop p) c (by
    have : (l.drop p).take j = ((l.drop p).take (cnt isFig (l.drop p))).take j := by rw [List.take_take, Nat.min_eq_left hj]
    rw [this] at hc
    exact List.mem_of_mem_take hc))
  have h2 : 10 ^ ((l.drop p).take j).length ≤ 10 ^ 9 := Nat.pow_le_pow_right (by decide) (by rw [List.length_take]; omega)
  exact Nat.lt_of_lt_of_le h1 h2

/-- The number as it grows. -/
structure RNum (w wr : World) (V i : Nat) : Prop where
  tok : Has wr (w.heap.size + 1) 58 #[.int .i64 1, .string ⟨#[]⟩, .int .i64 (V : Nat), .int .i64 (i : Nat)]
  res : Has wr w.heap.size 58 #[.int .i64 0, .string ⟨#[]⟩, .int .i64 0, .int .i64 0]
  below : Below w.heap.size w wr

theorem RNum.step {w wr : World} {V i : Nat} (h : RNum w wr V i) {V' : Nat} {z : Int} (hz : z = (V' : Nat)) : RNum w (wr.setCell ⟨w.heap.size + 1, 2, none⟩ (.int .i64 z)) V' i := by
  subst hz
  have h' : wr.heap[w.heap.size + 1]? = some (.cells #[.int .i64 1, .string ⟨#[]⟩, .int .i64 (V : Nat), .int .i64 (i : Nat)] 58 (0, 0)) := h.tok
  refine ⟨?_, h.res.other (show w.heap.size ≠ w.heap.size + 1 by omega) _, h.below.setCell (p := ⟨w.heap.size + 1, 2, none⟩) (by simp) _⟩
  show (wr.setCell ⟨w.heap.size + 1, 2, none⟩ (.int .i64 (V' : Nat))).heap[w.heap.size + 1]? = _
  simp [World.setCell, Array.getElem?_modify, h']

theorem RNum.drew {w wr : World} {V i : Nat} (h : RNum w wr V i) : RNum w wr.drew V i := ⟨h.tok, h.res, ⟨h.below.os, h.below.tape, h.below.output, h.below.size, h.below.block⟩⟩

theorem RNum.last {w wr : World} {V i : Nat} (h : RNum w wr V i) {v0 v1 v2 v3 : Value} : Below w.heap.size w ((((wr.setCell ⟨w.heap.size, 0, none⟩ v0).setCell ⟨w.heap.size, 1, none⟩ v1).setCell ⟨w.heap.size, 2, none⟩ v2).setCell ⟨w.heap.size, 3, none⟩ v3) :=
  (((h.below.setCell (p := ⟨w.heap.size, 0, none⟩) (Nat.le_refl _) v0).setCell (p := ⟨w.heap.size, 1, none⟩) (Nat.le_refl _) v1).setCell (p := ⟨w.heap.size, 2, none⟩) (Nat.le_refl _) v2).setCell (p := ⟨w.heap.size, 3, none⟩) (Nat.le_refl _) v3

set_option maxRecDepth 100000 in
set_option maxHeartbeats 4000000 in
theorem rone_num {w : World} {l : List UInt8} {i : Nat} (hi : i < l.length) (hl : l.length ≤ 2000) (k1 : isSml l[i] = false) (k2 : isFig l[i] = true) (h : ¬ 9 < cnt isFig (l.drop i)) (k3 : letAt (l.drop (i + cnt isFig (l.drop i))) = false) :
    Calls Tryz.prog 60 #[.string (bs l), .int .i64 (i : Nat)] w (ROneR w i ⟨1, [], val ((l.drop i).take (cnt isFig (l.drop i)))⟩ (i + cnt isFig (l.drop i)) 0 (-1)) := by
  have hsz := bs_size l
  have h1 : i < (bs l).size := by omega
  have h2 : ((i : Nat) : Int) < ((bs l).size : Int) := by omega
  have hi2 : i ≤ 2000 := by omega
  have hz2 : (bs l).size ≤ 2000 := by omega
  have hc1 : isSml ((bs l)[i]'h1) = false := by rw [bs_get]; exact k1
  have hs1 := rletter_tells ((bs l)[i]'h1)
  rw [hc1] at hs1
  have hc2 : isFig ((bs l)[i]'h1) = true := by rw [bs_get]; exact k2
  have hs2 := rfigure_tells ((bs l)[i]'h1)
  rw [hc2] at hs2
  have hen := fun W => rend_figure l i W hl (by omega)
  have hfg : ∀ j, j < cnt isFig (l.drop i) → ∃ h : i + j < l.length, isFig (l[i + j]) = true := fun j hj => rfig_get hj
  have hvl : ∀ j, j ≤ cnt isFig (l.drop i) → val ((l.drop i).take j) < 1000000000 := fun j hj => rval_lt hj h
  obtain ⟨n, hn⟩ : ∃ n, n = cnt isFig (l.drop i) := ⟨_, rfl⟩
  rw [← hn] at hen hfg hvl h k3 ⊢
  obtain ⟨J, hJ⟩ : ∃ J, J = i + n := ⟨_, rfl⟩
  have hJl : J ≤ l.length := by
    have := cnt_le isFig (l.drop i)
    rw [List.length_drop] at this
    omega
  rw [← hJ] at hen ⊢
  have hJ2 : J ≤ 2000 := by omega
  have hba := fun W => rbare_c l J W hl hJl
  rw [show letAt (l.drop J) = false by rw [hJ]; exact k3] at hba
  have g1 : ¬ (9 : Int) < ((J : Nat) : Int) - ((i : Nat) : Int) := by omega
  have HS : Hid ((bs l).size = l.length) := hsz
  have HJ : Hid (J = i + n) := hJ
  clear hsz hc1 hc2 k1 k2 k3 hn hJ
  go_enter Tryz.func60, Tryz.ntmps60
  go_wp2_with (first
    | (go_at_call 77; refine (hs1 _).mono ?_; rintro e w' ⟨rfl, rfl⟩)
    | (go_at_call 78; refine (hs2 _).mono ?_; rintro e w' ⟨rfl, rfl⟩)
    | (go_at_call 79; refine (hen _).mono ?_; rintro e w' ⟨rfl, rfl⟩)
    | (go_at_call 80; refine (hba _).mono ?_; rintro e w' ⟨rfl, rfl⟩))
  go_loopw [15] (fun z wr => ∃ k : Nat, k ≤ n ∧ z = .int .i64 ((i + k : Nat) : Int) ∧ RNum w wr (val ((l.drop i).take k)) i) (fun z _ => 2000 - (intOf z).toNat)
  case atStart => exact ⟨0, Nat.zero_le _, rfl, Has.new_at (by simp), (Has.new_at rfl).alloc _, two_below _⟩
  case round =>
    obtain ⟨k, hk, rfl, hN⟩ := hrel
    have hv9 := hvl k hk
    obtain ⟨P, hP⟩ : ∃ P, P = i + k := ⟨_, rfl⟩
    rw [← hP]
    have HP : Hid (P = i + k) := hP
    have hP2 : P ≤ 2000 := by have := HJ.out; omega
    clear hP
    by_cases hlt : k < n
    · obtain ⟨x1, x2⟩ := hfg k hlt
      have a1 : P < (bs l).size := by rw [HS.out, HP.out]; exact x1
      have a2 : ((P : Nat) : Int) < ((bs l).size : Int) := by omega
      have a3 : ((P : Nat) : Int) < ((J : Nat) : Int) := by have h8 := HP.out; have h9 := HJ.out; omega
      have y3 : (bs l)[P]'a1 = l[i + k] := by rw [bs_get]; simp only [HP.out]
      rw [isFig_eq, Bool.and_eq_true, decide_eq_true_eq, decide_eq_true_eq] at x2
      have x3 : 48 ≤ ((((bs l)[P]'a1).toNat : Nat) : Int) ∧ ((((bs l)[P]'a1).toNat : Nat) : Int) ≤ 57 := by rw [y3]; exact x2
      have hvn := rval_next x1
      have HVN : Hid (((val ((l.drop i).take (k + 1)) : Nat) : Int) = 10 * ((val ((l.drop i).take k) : Nat) : Int) + (((((bs l)[P]'a1).toNat : Nat) : Int) - 48)) := by
        show _ = _
        rw [hvn, y3]
        omega
      have hstep := fun z hz => hN.step (V' := val ((l.drop i).take (k + 1))) (z := z) hz
      generalize val ((l.drop i).take k) = V at hv9 HVN hN hstep
      have c2 : wr.cell? ⟨w.heap.size + 1, 2, none⟩ = some (.int .i64 (V : Nat)) := hN.tok.cell 2
      have f2 := hN.tok.free 2
      obtain ⟨x4, x5⟩ := x3
      clear hvn y3 x2 hfg hvl
      go_wp2
      go_region
      all_goals
        go_wp2
        go_roundw
        case rel => exact ⟨k + 1, by omega, by have := HP.out; go_num, (hstep _ HVN.out.symm).drew⟩
        case measure => simp [intOf]; omega
    · have hkn : k = n := by omega
      subst hkn
      have a3 : ¬ ((P : Nat) : Int) < ((J : Nat) : Int) := by have h8 := HP.out; have h9 := HJ.out; omega
      obtain ⟨V, hV⟩ : ∃ V, V = val ((l.drop i).take k) := ⟨_, rfl⟩
      rw [← hV] at hv9 hN
      have HV : Hid (V = val ((l.drop i).take k)) := hV
      clear hV
      have c0 : wr.cell? ⟨w.heap.size + 1, 0, none⟩ = some (.int .i64 1) := hN.tok.cell 0
      have c1 : wr.cell? ⟨w.heap.size + 1, 1, none⟩ = some (.string ⟨#[]⟩) := hN.tok.cell 1
      have c2 : wr.cell? ⟨w.heap.size + 1, 2, none⟩ = some (.int .i64 (V : Nat)) := hN.tok.cell 2
      have c3 : wr.cell? ⟨w.heap.size + 1, 3, none⟩ = some (.int .i64 (i : Nat)) := hN.tok.cell 3
      have r0 : wr.cell? ⟨w.heap.size, 0, none⟩ = some (.int .i64 0) := hN.res.cell 0
      have r1 : wr.cell? ⟨w.heap.size, 1, none⟩ = some (.string ⟨#[]⟩) := hN.res.cell 1
      have r2 : wr.cell? ⟨w.heap.size, 2, none⟩ = some (.int .i64 0) := hN.res.cell 2
      have r3 : wr.cell? ⟨w.heap.size, 3, none⟩ = some (.int .i64 0) := hN.res.cell 3
      have f0 := hN.res.free 0
      have f1 := hN.res.free 1
      have f2 := hN.res.free 2
      have f3 := hN.res.free 3
      clear hfg hvl
      go_wp2
      exact bodyPost_ret (v := .tuple #[.agg (rtkv ⟨1, [], V⟩ i), .int .i64 ((J : Nat) : Int), .int .i64 0, .int .i64 (-1)]) (by simp [results, Tryz.results60, go_sem, rtkv, rbs_nil, r0, r1, r2, r3]) rfl ⟨by rw [HV.out], hN.last⟩
end Go.Proofs.YtpckmllmjdafpaaGreatDoor
