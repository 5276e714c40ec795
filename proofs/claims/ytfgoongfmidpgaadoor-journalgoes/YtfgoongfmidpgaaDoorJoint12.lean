/- Texts that the statements of this stage share, joined: DwMoreJ, JrStand, ObShaLaid, JnOpenA. -/
import Derived.Test.YtfgoongfmidpgaaDoorJoint11
import Derived.Test.YtfgoongfmidpgaaDoorJoint02
import Derived.Test.YtfgoongfmidpgaaDoorJoint07
import Derived.Test.YtfgoongfmidpgaaDoorJoint04
import Derived.LaidMore
import Derived.Stop.Joined
import Derived.Lib.LaidU8
import Derived.MakeChecks
import Derived.Deep.Slices
import Derived.Deep.Grids
import Derived.Lib.SmallJoins
import Derived.ChangeSame

/- What is asked of device's other calls is so of the program, as far as this seat has them. -/
namespace Go.Proofs.YtfgoongfmidpgaaDoor
open Go.ChangeShapes Go.WideShapes Go.ChangeAt Go.RowKit
set_option linter.unusedVariables false

theorem theMore : DevMore theRep where
  size := by
    rintro w p s c m F ⟨⟨bb, bs, bc, vw, vs, h, hF⟩, hc, hcF, hp⟩
    refine (size_r h).mono ?_
    rintro e w' ⟨rfl, hw'⟩
    exact ⟨rfl, by rw [hw']; exact Below.refl _ _⟩
  isBad := by
    rintro w p s c m F i ⟨⟨bb, bs, bc, vw, vs, h, hF⟩, hc, hcF, hp⟩ hi
    exact bad_r h i
  cutAt := by
    rintro w p s c m F i a L cap k ⟨⟨bb, bs, bc, vw, vs, h, hF⟩, hc, hcF, hp⟩ hi hl hL hLc hk
    exact (cutAt_r h i a L cap k hk hl).mono fun e w' hpost => dev_of_left rfl hpost
end Go.Proofs.YtfgoongfmidpgaaDoor

/- The law's stands: just these records on a device, noughts behind them, all safe. -/
namespace Go.Proofs.YtfgoongfmidpgaaDoor
open Go.ChangeShapes Go.WideShapes Go.ChangeAt Go.RowKit
set_option linter.unusedVariables false

def standsB (s : DS) (ls : List RC) : Bool := rlikes (recsOf (byOf (holds s)) (reads dgS (byOf (holds s)) (64 * s.n) 0).1) ls && (blankB (byOf (holds s)) (64 * s.n) (reads dgS (byOf (holds s)) (64 * s.n) 0).2 && decide (pend s.log = 0))

theorem reads_end_le (B : Nat → Nat) (N : Nat) : (reads dgS B N 0).2 ≤ N := (readF_laid (dg := dgS) (B := B) (N := N) (N + 1) 0).2.2.2 (Nat.zero_le _)

theorem recsOf_len (B : Nat → Nat) (l : List (Nat × Nat)) : (recsOf B l).length = l.length := by simp [recsOf]

set_option maxRecDepth 100000 in
set_option maxHeartbeats 4000000 in
theorem stands_any {D : DevRep} (hD : DevOk D) (hM : DevMore D) {w : World} {p c m : Nat} {s : DS} {F : Nat → Prop} (h : Dev D w p s c m F) (hs : Sound s) (hn : s.n ≤ 125) (hl : s.log.length ≤ 100000) {a : Option Addr} {n cap : Nat} {ls : List RC} (hr : Rl w a ls) (e : n = ls.length) :
    Calls Tryd.prog 27 #[ptr p, .slice a n cap] w fun e w' => e = .returned (.bool (standsB s ls)) ∧ Below w.heap.size w w' := by
  have C1 := content_any hD hM h hs
  have E : Hid (n = ls.length) := e
  clear e
  unfold standsB
  obtain ⟨N, hN⟩ : ∃ N, N = 64 * s.n := ⟨_, rfl⟩
  obtain ⟨B, hB⟩ : ∃ B, B = byOf (holds s) := ⟨_, rfl⟩
  rw [← hN, ← hB] at C1 ⊢
  have hN8 : N ≤ 8000 := by omega
  clear hN hB
  have hle := reads_end_le B N
  generalize hX : rlikes (recsOf B (reads dgS B N 0).1) ls = X
  generalize hY : blankB B N (reads dgS B N 0).2 = Y
  generalize hZ : decide (pend s.log = 0) = Z
  have HX : Hid (rlikes (recsOf B (reads dgS B N 0).1) ls = X) := hX
  have HY : Hid (blankB B N (reads dgS B N 0).2 = Y) := hY
  have HZ : Hid (decide (pend s.log = 0) = Z) := hZ
  clear hX hY hZ
  cases X
  · have z1 : (((pend s.log : Nat) : Int) == 0) = decide (pend s.log = 0) := by
      rw [Bool.eq_iff_iff]
      simp
    rw [HZ.out] at z1
    go_enter Tryd.func27, Tryd.ntmps27
    go_wp2_with (first
      | ((go_at_call 49)
         (refine C1.mono ?_)
         (rintro e w1 ⟨a1, c1, rfl, h1, hb1⟩)
         (clear C1)
         (have R1 := read_any h1 hN8))
      | ((go_at_call 50)
         (refine Calls.mono R1 ?_)
         (rintro e w2 ⟨hb2, a2, c2, rfl, h2⟩)
         (clear R1)
         (have hb12 := hb1.trans (hb2.mono hb1.size))
         (have S1 := samer_any (c1 := c2) (c2 := cap) h2 (hr.below hb12 (Nat.le_refl _)) (recsOf_len _ _).symm E.out)
         (rw [HX.out] at S1))
      | ((go_at_call 22)
         (refine S1.mono ?_)
         (rintro e w3 ⟨rfl, hb3⟩)
         (clear S1)
         (have hb13 := hb12.trans (hb3.mono hb12.size))
         (have hb23 := hb2.trans (hb3.mono hb2.size))
         (have B1 := blank_any (h1.below hb23 (Nat.le_refl _)) (by omega) (show (reads dgS B N 0).2 ≤ 1000000 by omega))
         (rw [HY.out] at B1))
      | ((go_at_call 51)
         (refine B1.mono ?_)
         (rintro e wz ⟨rfl, hz⟩)
         (obtain rfl : w3 = wz := hz.symm)
         (clear B1)
         (have P1 := hD.pending w3 p s c m F (h.below hD hb13 (Nat.le_refl _)) hl))
      | ((go_at_call 52)
         (refine P1.mono ?_)
         (rintro e w4 ⟨rfl, hb4⟩)
         (clear P1)
         (have hb14 := hb13.trans (hb4.mono hb13.size))))
    go_ret
    first
      | exact ⟨rfl, hb14⟩
      | exact ⟨rfl, hb13⟩
  · cases Y
    · have z1 : (((pend s.log : Nat) : Int) == 0) = decide (pend s.log = 0) := by
        rw [Bool.eq_iff_iff]
        simp
      rw [HZ.out] at z1
      go_enter Tryd.func27, Tryd.ntmps27
      go_wp2_with (first
        | ((go_at_call 49)
           (refine C1.mono ?_)
           (rintro e w1 ⟨a1, c1, rfl, h1, hb1⟩)
           (clear C1)
           (have R1 := read_any h1 hN8))
        | ((go_at_call 50)
           (refine Calls.mono R1 ?_)
           (rintro e w2 ⟨hb2, a2, c2, rfl, h2⟩)
           (clear R1)
           (have hb12 := hb1.trans (hb2.mono hb1.size))
           (have S1 := samer_any (c1 := c2) (c2 := cap) h2 (hr.below hb12 (Nat.le_refl _)) (recsOf_len _ _).symm E.out)
           (rw [HX.out] at S1))
        | ((go_at_call 22)
           (refine S1.mono ?_)
           (rintro e w3 ⟨rfl, hb3⟩)
           (clear S1)
           (have hb13 := hb12.trans (hb3.mono hb12.size))
           (have hb23 := hb2.trans (hb3.mono hb2.size))
           (have B1 := blank_any (h1.below hb23 (Nat.le_refl _)) (by omega) (show (reads dgS B N 0).2 ≤ 1000000 by omega))
           (rw [HY.out] at B1))
        | ((go_at_call 51)
           (refine B1.mono ?_)
           (rintro e wz ⟨rfl, hz⟩)
           (obtain rfl : w3 = wz := hz.symm)
           (clear B1)
           (have P1 := hD.pending w3 p s c m F (h.below hD hb13 (Nat.le_refl _)) hl))
        | ((go_at_call 52)
           (refine P1.mono ?_)
           (rintro e w4 ⟨rfl, hb4⟩)
           (clear P1)
           (have hb14 := hb13.trans (hb4.mono hb13.size))))
      go_ret
      first
        | exact ⟨rfl, hb14⟩
        | exact ⟨rfl, hb13⟩
    · have z1 : (((pend s.log : Nat) : Int) == 0) = decide (pend s.log = 0) := by
        rw [Bool.eq_iff_iff]
        simp
      rw [HZ.out] at z1
      go_enter Tryd.func27, Tryd.ntmps27
      go_wp2_with (first
        | ((go_at_call 49)
           (refine C1.mono ?_)
           (rintro e w1 ⟨a1, c1, rfl, h1, hb1⟩)
           (clear C1)
           (have R1 := read_any h1 hN8))
        | ((go_at_call 50)
           (refine Calls.mono R1 ?_)
           (rintro e w2 ⟨hb2, a2, c2, rfl, h2⟩)
           (clear R1)
           (have hb12 := hb1.trans (hb2.mono hb1.size))
           (have S1 := samer_any (c1 := c2) (c2 := cap) h2 (hr.below hb12 (Nat.le_refl _)) (recsOf_len _ _).symm E.out)
           (rw [HX.out] at S1))
        | ((go_at_call 22)
           (refine S1.mono ?_)
           (rintro e w3 ⟨rfl, hb3⟩)
           (clear S1)
           (have hb13 := hb12.trans (hb3.mono hb12.size))
           (have hb23 := hb2.trans (hb3.mono hb2.size))
           (have B1 := blank_any (h1.below hb23 (Nat.le_refl _)) (by omega) (show (reads dgS B N 0).2 ≤ 1000000 by omega))
           (rw [HY.out] at B1))
        | ((go_at_call 51)
           (refine B1.mono ?_)
           (rintro e wz ⟨rfl, hz⟩)
           (obtain rfl : w3 = wz := hz.symm)
           (clear B1)
           (have P1 := hD.pending w3 p s c m F (h.below hD hb13 (Nat.le_refl _)) hl))
        | ((go_at_call 52)
           (refine P1.mono ?_)
           (rintro e w4 ⟨rfl, hb4⟩)
           (clear P1)
           (have hb14 := hb13.trans (hb4.mono hb13.size))))
      go_ret
      first
        | exact ⟨rfl, hb14⟩
        | exact ⟨rfl, hb13⟩
end Go.Proofs.YtfgoongfmidpgaaDoor

/- What the listed variables hold, out of the row's hypothesis; the witness's own world. -/
namespace Go.Proofs.YtfgoongfmidpgaaDoor
open Go.ChangeShapes Go.WideShapes Go.ChangeAt Go.WideMaps Go.WideElems Go.RowKit

theorem gConstants : Tryd.prog.globalNamed (Rows.journalPlaysRow.named.getD 1 Rows.journalPlaysRow.program) = some 1 := by kernel_rfl
theorem gFirst : Tryd.prog.globalNamed (Rows.journalPlaysRow.named.getD 0 Rows.journalPlaysRow.program) = some 0 := by kernel_rfl
theorem tConstants : (Tryd.prog.globals[1]?).map (·.type) = some 128 := by kernel_rfl
theorem tFirst : (Tryd.prog.globals[0]?).map (·.type) = some 126 := by kernel_rfl
theorem dConstants {H : Type} : (Rows.laid_cofferdam_sha_constants : DataW H) = .agg (kList.map fun x => .lit (.int .u32 ((x : Nat) : Int))) := rfl
theorem dFirst {H : Type} : (Rows.laid_cofferdam_sha_firstState : DataW H) = .agg (hList.map fun x => .lit (.int .u32 ((x : Nat) : Int))) := rfl
theorem Tryd.cells125 : Tryd.prog.cellsOf 125 = 1 := by kernel_rfl

theorem var_nums {H : Type} {enc : TypeId × Value → H} {W : World} {base : Nat} {sp : Nat → Bool} {held : Bool} {fuel : Nat} {name : String} {g t n : Nat} {l : List Nat} {cs : Array Value} {p : List MemPlace}
    (hg : Tryd.prog.globalNamed name = some g) (ht : Tryd.prog.underlying t = some (.array n 125)) (hn : l.length = n) (hv : W.var? Tryd.prog name = some cs)
    (hd : DataW.trod enc Tryd.prog W base sp held fuel t cs.toList = some (.agg (l.map fun x => .lit (.int .u32 ((x : Nat) : Int))), p)) (i : Nat) (hi : i < n) :
    W.cell? ⟨g, i, none⟩ = some (.int .u32 ((l.getD i 0 : Nat) : Int)) := by
  obtain ⟨fuel', d, q, h1, h2⟩ := Lib.array_elem ht hd i hi
  rw [Tryd.cells125] at h2
  obtain ⟨k, e1, e2, _⟩ := DataW.trod_int Tryd.underlying125 h2
  rw [World.var?_cell hg hv i]
  have hl : i < l.length := by omega
  rw [List.getElem?_map, List.getElem?_eq_getElem hl] at h1
  simp only [Prod.mk.injEq] at e2
  rw [e2.1] at h1
  simp only [Option.map_some, Option.some.injEq, DataW.lit.injEq, Lit.int.injEq, true_and] at h1
  rw [List.getD_eq_getElem?_getD, List.getElem?_eq_getElem hl, Option.getD_some, h1, ← Array.getElem?_toList]
  rw [Nat.mul_one] at e1
  have := congrArg (fun x : List Value => x[0]?) e1
  simpa using this

theorem of_laid {W : World} (h : laidMetH Tryd.prog Rows.journalPlaysRow.laid W) : Glob Hc Kc W := by
  rw [MakeChecks.laidMetH_plain _ _ _ (by kernel_rfl)] at h
  obtain ⟨ps, ⟨g0, t0, cs0, f0, p0, q0, hg0, ht0, hv0, hd0, ⟨g1, t1, cs1, f1, p1, q1, hg1, ht1, hv1, hd1, _, _⟩, _⟩, _, _⟩ := h
  obtain rfl := Option.some.inj (gConstants.symm.trans hg0)
  obtain rfl := Option.some.inj (gFirst.symm.trans hg1)
  obtain rfl := Option.some.inj (tConstants.symm.trans ht0)
  obtain rfl := Option.some.inj (tFirst.symm.trans ht1)
  rw [dConstants] at hd0
  rw [dFirst] at hd1
  have c0 := var_nums hg0 Tryd.underlying128 rfl hv0 hd0 0 (by decide)
  exact ⟨World.block_lt_of_cell? W ⟨1, 0, none⟩ c0, fun j hj => var_nums hg1 Tryd.underlying126 rfl hv1 hd1 j hj, fun j hj => var_nums hg0 Tryd.underlying128 rfl hv0 hd0 j hj⟩

/-- A slice of integers that came in: nil, or a row of cells. -/
def IsRow (k : IntKind) (w : World) (a : Option Addr) (len cap : Nat) (zs : List Int) : Prop :=
  (a = none ∧ len = 0 ∧ cap = 0 ∧ zs = []) ∨
  ∃ x, a = some x ∧ len ≤ cap ∧ cap ≤ maxLen ∧ zs.length = cap ∧ (∀ i, i < zs.length → w.cell? (x.add i) = some (.int k (zs.getD i 0))) ∧ ∀ n ∈ zs, (Lit.int k n).wf = true
end Go.Proofs.YtfgoongfmidpgaaDoor

/- Bytes, bools, numbers, lists of records, as they came in. -/
namespace Go.Proofs.YtfgoongfmidpgaaDoor
open Go.ChangeShapes Go.WideShapes Go.ChangeAt Go.RowKit
set_option linter.unusedVariables false

def bnD (zs : List Int) (j : Nat) : Nat := (zs.getD j 0).toNat % 256

theorem bnD_eq {zs : List Int} (hw : ∀ n ∈ zs, (Lit.int .u8 n).wf = true) (j : Nat) (hj : j < zs.length) : zs.getD j 0 = ((bnD zs j : Nat) : Int) := by
  have hmem : zs.getD j 0 ∈ zs := by rw [List.getD_eq_getElem?_getD, List.getElem?_eq_getElem hj]; exact List.getElem_mem hj
  have h := hw _ hmem
  simp [Lit.wf, IntKind.min, IntKind.max, IntKind.signed, IntKind.bits] at h
  unfold bnD
  rw [Int.natCast_emod, Int.toNat_of_nonneg (by simpa using h.1)]
  have := h.2
  simp at this ⊢
  omega

theorem i64_of_wf {n : Int} (h : (Lit.int .i64 n).wf = true) : i64ok n := by
  simp [Lit.wf, IntKind.min, IntKind.max, IntKind.signed, IntKind.bits] at h
  unfold i64ok
  omega

theorem cells5D : Tryd.prog.cellsOf 5 = 1 := by kernel_rfl
theorem cells4D : Tryd.prog.cellsOf 4 = 1 := by kernel_rfl
theorem cells3D : Tryd.prog.cellsOf 3 = 1 := by kernel_rfl
theorem cellsByD : Tryd.prog.cellsOf 33 = 1 := by kernel_rfl
theorem cellsRcD : Tryd.prog.cellsOf 32 = 1 := by kernel_rfl

variable {H : Type} {enc : TypeId × Value → H} {W : World} {fuel : Nat}

theorem open_by {v : Value} {y : DataW H × List MemPlace} (hf : DataW.trod enc Tryd.prog W 0 (fun _ => true) true fuel 33 [v] = some y) : ∃ a L C b, v = .slice a L C ∧ ByIn W a L C b := by
  rcases open_ints Tryd.underlying33 Tryd.underlying5 cells5D hf with ⟨hcs, _⟩ | ⟨x, l, c, zs, hcs, _, hl, hm, hzl, hx, hcell, hwz⟩
  · simp only [List.cons.injEq, and_true] at hcs
    exact ⟨none, 0, 0, fun _ => 0, hcs, Nat.le_refl _, Nat.zero_le _, fun _ => ⟨rfl, rfl⟩, .inl rfl, fun _ => by decide⟩
  · simp only [List.cons.injEq, and_true] at hcs
    have hzl' : zs.length = c := by simpa using hzl
    refine ⟨some x, l, c, bnD zs, hcs, hl, Nat.le_trans hl hm, (fun e => by cases e), ?_, fun j => Nat.mod_lt _ (by decide)⟩
    by_cases h0 : l = 0
    · exact .inl h0
    · obtain ⟨b, off, spot⟩ := x
      have hs : spot = none := by simpa [Addr.add] using World.cell?_spot (hcell 0 (by omega))
      subst hs
      have e1 : ∀ j, (⟨b, off, none⟩ : Addr).add j = ⟨b, off + j, none⟩ := fun j => by simp [Addr.add]
      refine .inr ⟨b, off, rfl, World.block_lt_of_cell? W _ (hcell 0 (by omega)), fun j hj => ?_⟩
      have h := hcell j (by omega)
      rw [e1, bnD_eq hwz j (by omega)] at h
      exact h

theorem open_bo {v : Value} {y : DataW H × List MemPlace} (hf : DataW.trod enc Tryd.prog W 0 (fun _ => true) true fuel 34 [v] = some y) : ∃ a L C b, v = .slice a L C ∧ BoIn W a L C b := by
  rcases Go.Deep.open_bools Tryd.underlying34 Tryd.underlying4 cells4D hf with ⟨hcs, _⟩ | ⟨x, l, c, B, hcs, _, hl, hm, _, hcell⟩
  · simp only [List.cons.injEq, and_true] at hcs
    exact ⟨none, 0, 0, fun _ => false, hcs, Nat.le_refl _, Nat.zero_le _, .inl rfl⟩
  · simp only [List.cons.injEq, and_true] at hcs
    refine ⟨some x, l, c, B, hcs, hl, Nat.le_trans hl hm, ?_⟩
    by_cases h0 : l = 0
    · exact .inl h0
    · obtain ⟨b, off, spot⟩ := x
      have hs : spot = none := by simpa [Addr.add] using World.cell?_spot (hcell 0 (by omega))
      subst hs
      have e1 : ∀ j, (⟨b, off, none⟩ : Addr).add j = ⟨b, off + j, none⟩ := fun j => by simp [Addr.add]
      refine .inr ⟨b, off, rfl, World.block_lt_of_cell? W _ (hcell 0 (by omega)), fun j hj => ?_⟩
      have h := hcell j (by omega)
      rw [e1] at h
      exact h

structure CutV where
  i : Int
  a : Option Addr
  L : Nat
  C : Nat
  k : Nat → Bool

/-- When power goes, and what it keeps, as it came in. -/
def CutIn (W : World) (cs : Array Value) (O : CutV) : Prop := cs = #[.int .i64 O.i, .slice O.a O.L O.C] ∧ i64ok O.i ∧ BoIn W O.a O.L O.C O.k

theorem open_i64 {v : Value} {y : DataW H × List MemPlace} (hf : DataW.trod enc Tryd.prog W 0 (fun _ => true) true fuel 3 [v] = some y) : ∃ n, v = .int .i64 n ∧ i64ok n := by
  obtain ⟨s, hs1, _, hs2⟩ := DataW.trod_int Tryd.underlying3 hf
  simp only [List.cons.injEq, and_true] at hs1
  exact ⟨s, hs1, i64_of_wf hs2⟩

/-- A slice whose elements have one cell each: what each of them is. -/
theorem open_ones {t e : TypeId} (ht : Tryd.prog.underlying t = some (.slice e)) (he : Tryd.prog.cellsOf e = 1) {v : Value} {y : DataW H × List MemPlace} (hf : DataW.trod enc Tryd.prog W 0 (fun _ => true) true fuel t [v] = some y) :
    ∃ a len cap, v = .slice a len cap ∧ len ≤ cap ∧ len ≤ maxLen ∧ ∀ i, i < len → ∃ x o u n' z, a = some ⟨x, o, none⟩ ∧ x < W.heap.size ∧ W.cell? ⟨x, o + i, none⟩ = some u ∧ DataW.trod enc Tryd.prog W 0 (fun _ => true) true n' e [u] = some z := by
  rcases Go.Deep.open_slice ht hf with ⟨hcs, _⟩ | ⟨ad, l, c, m, n, D, Pl, hcs, _, hl, hm, hmm, _, hx⟩
  · simp only [List.cons.injEq, and_true] at hcs
    exact ⟨none, 0, 0, hcs, Nat.le_refl _, Nat.zero_le _, fun i hi => by omega⟩
  · simp only [List.cons.injEq, and_true] at hcs
    simp only [if_true] at hmm
    refine ⟨some ad, l, c, hcs, hl, Nat.le_trans hl hm, fun i hi => ?_⟩
    obtain ⟨cs', h1, h2⟩ := hx i (by omega)
    rw [he] at h1
    obtain ⟨_, hlen, hcell⟩ := World.cells?_some h1
    match cs', hlen with
    | [u], _ =>
      have c0 := hcell 0 (by omega)
      rw [Go.Deep.add_add] at c0
      obtain ⟨b, off, spot⟩ := ad
      have hs : spot = none := by
        by_cases hz : i * 1 = 0
        · rw [hz] at c0
          simpa [Addr.add] using World.cell?_spot c0
        · have hi0 : 0 < m := by omega
          obtain ⟨cs0, g1, _⟩ := hx 0 hi0
          rw [he] at g1
          obtain ⟨_, hlen0, hcell0⟩ := World.cells?_some g1
          have := hcell0 0 (by omega)
          rw [Go.Deep.add_add] at this
          cases hv : cs0[0]? with
          | none => rw [List.getElem?_eq_none_iff] at hv; omega
          | some u => simpa [Addr.add] using World.cell?_spot (this.trans hv)
      subst hs
      have ea : ∀ j, (⟨b, off, none⟩ : Addr).add j = ⟨b, off + j, none⟩ := fun j => by simp [Addr.add]
      rw [ea] at c0
      have c0' : W.cell? ⟨b, off + i, none⟩ = some u := by simpa using c0
      exact ⟨b, off, u, _, _, rfl, World.block_lt_of_cell? W _ c0', c0', h2⟩

set_option maxRecDepth 100000 in
theorem open_cut {cs : Array Value} {y : DataW H × List MemPlace} (hcs : cs.size = 2) (hf : DataW.trod enc Tryd.prog W 0 (fun _ => true) true fuel 50 (Value.agg cs).cells.toList = some y) : ∃ O, CutIn W cs O := by
  have hf' : DataW.trod enc Tryd.prog W 0 (fun _ => true) true fuel 50 cs.toList = some y := hf
  obtain ⟨y0, y1, n', _, _, e0, e1⟩ := trod_struct2 Tryd.underlying50 hf'
  obtain ⟨l⟩ := cs
  match l, hcs with
  | [v0, v1], _ =>
    have f0 : DataW.trod enc Tryd.prog W 0 (fun _ => true) true n' 3 [v0] = some y0 := e0
    have f1 : DataW.trod enc Tryd.prog W 0 (fun _ => true) true n' 34 [v1] = some y1 := e1
    obtain ⟨I, rfl, hI⟩ := open_i64 f0
    obtain ⟨a, L, C, b, rfl, h⟩ := open_bo f1
    exact ⟨⟨I, a, L, C, b⟩, rfl, hI, h⟩

theorem rl_of {a : Option Addr} {len : Nat} (hm : len ≤ maxLen) (h : ∀ i, i < len → ∃ r : RC, ∃ x o ad C, a = some ⟨x, o, none⟩ ∧ x < W.heap.size ∧ W.cell? ⟨x, o + i, none⟩ = some (.slice ad r.L C) ∧ ByIn W ad r.L C r.f) : ∃ rs, Rl W a rs ∧ rs.length = len := by
  refine ⟨(List.range len).map fun i => if h' : i < len then (h i h').choose else ⟨0, fun _ => 0⟩, ⟨by simpa using hm, fun i r hr => ?_⟩, by simp⟩
  have hi : i < len := by
    have := (List.getElem?_eq_some_iff.1 hr).1
    simpa using this
  rw [List.getElem?_map, List.getElem?_range hi] at hr
  simp only [Option.map_some, Option.some.injEq, dif_pos hi] at hr
  subst hr
  exact (h i hi).choose_spec

theorem open_rl {v : Value} {y : DataW H × List MemPlace} (hf : DataW.trod enc Tryd.prog W 0 (fun _ => true) true fuel 32 [v] = some y) : ∃ a len cap rs, v = .slice a len cap ∧ len ≤ cap ∧ Rl W a rs ∧ rs.length = len := by
  obtain ⟨a, len, cap, rfl, hl, hm, hx⟩ := open_ones Tryd.underlying32 cellsByD hf
  obtain ⟨rs, h1, h2⟩ := rl_of hm (fun i hi => by
    obtain ⟨x, o, u, n', z, e, hxl, hc, ht⟩ := hx i hi
    obtain ⟨ad, L, C, b, rfl, hb⟩ := open_by ht
    exact ⟨⟨L, b⟩, x, o, ad, C, e, hxl, hc, hb⟩)
  exact ⟨a, len, cap, rs, rfl, hl, h1, h2⟩

/-- Records, more of them, and power that goes twice, as they came in. -/
structure TornV where
  a : Option Addr
  L : Nat
  C : Nat
  rs : List RC
  b : Option Addr
  M : Nat
  E : Nat
  qs : List RC
  c : CutV
  d : CutV

def TornIn (W : World) (cs : Array Value) (O : TornV) : Prop := cs = #[.slice O.a O.L O.C, .slice O.b O.M O.E, .int .i64 O.c.i, .slice O.c.a O.c.L O.c.C, .int .i64 O.d.i, .slice O.d.a O.d.L O.d.C] ∧ (Rl W O.a O.rs ∧ O.L = O.rs.length) ∧ (Rl W O.b O.qs ∧ O.M = O.qs.length) ∧ (i64ok O.c.i ∧ BoIn W O.c.a O.c.L O.c.C O.c.k) ∧ i64ok O.d.i ∧ BoIn W O.d.a O.d.L O.d.C O.d.k

set_option maxRecDepth 100000 in
theorem open_torn {cs : Array Value} {y : DataW H × List MemPlace} (hcs : cs.size = 6) (hf : DataW.trod enc Tryd.prog W 0 (fun _ => true) true fuel 55 (Value.agg cs).cells.toList = some y) : ∃ O, TornIn W cs O := by
  have hf' : DataW.trod enc Tryd.prog W 0 (fun _ => true) true fuel 55 cs.toList = some y := hf
  obtain ⟨y0, y1, y2, y3, n', _, _, e0, e1, e2, e3⟩ := Go.Joins.trod_struct4 Tryd.underlying55 hf'
  obtain ⟨l⟩ := cs
  match l, hcs with
  | [v0, v1, v2, v3, v4, v5], _ =>
    have f0 : DataW.trod enc Tryd.prog W 0 (fun _ => true) true n' 32 [v0] = some y0 := e0
    have f1 : DataW.trod enc Tryd.prog W 0 (fun _ => true) true n' 32 [v1] = some y1 := e1
    have f2 : DataW.trod enc Tryd.prog W 0 (fun _ => true) true n' 50 (Value.agg #[v2, v3]).cells.toList = some y2 := e2
    have f3 : DataW.trod enc Tryd.prog W 0 (fun _ => true) true n' 50 (Value.agg #[v4, v5]).cells.toList = some y3 := e3
    obtain ⟨a, L, C, rs, rfl, _, ha, hL⟩ := open_rl f0
    obtain ⟨b, M, E, qs, rfl, _, hb, hM⟩ := open_rl f1
    obtain ⟨O1, h1, h2, h3⟩ := open_cut rfl f2
    obtain ⟨O2, k1, k2, k3⟩ := open_cut rfl f3
    simp only [Array.mk.injEq, List.cons.injEq, and_true] at h1 k1
    obtain ⟨rfl, rfl⟩ := h1
    obtain ⟨rfl, rfl⟩ := k1
    exact ⟨⟨a, L, C, rs, b, M, E, qs, O1, O2⟩, rfl, ⟨ha, hL.symm⟩, ⟨hb, hM.symm⟩, ⟨h2, h3⟩, k2, k3⟩
end Go.Proofs.YtfgoongfmidpgaaDoor
