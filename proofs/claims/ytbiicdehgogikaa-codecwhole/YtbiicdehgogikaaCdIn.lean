/- A list of writes in memory: a slice of structs. -/
import Derived.Test.YtbiicdehgogikaaCdTry
import Derived.Deep.Slices
import Derived.Deep.Grids
import Derived.Deep.Strs
import Derived.Lib.SmallJoins
namespace Go.Proofs.Ytbiicdehgogikaa
open Go.ChangeShapes Go.WideShapes Go.ChangeAt Go.RowKit
set_option linter.unusedVariables false

def i64ok (n : Int) : Prop := -9223372036854775808 ≤ n ∧ n ≤ 9223372036854775807

/-- One write: its device, its sector, its bytes. -/
structure WV where
  dev : Int
  sec : Int
  a : Option Addr
  L : Nat
  C : Nat
  b : Nat → Nat

/-- Bytes that came in. -/
structure ByIn (w : World) (a : Option Addr) (L C : Nat) (b : Nat → Nat) : Prop where
  le : L ≤ C
  max : L ≤ maxLen
  nil : a = none → L = 0 ∧ C = 0
  at_ : Bytes w a L b
  byt : ∀ j, b j < 256

structure WIn (w : World) (x o : Nat) (v : WV) : Prop where
  c0 : w.cell? ⟨x, o, none⟩ = some (.int .i64 v.dev)
  c1 : w.cell? ⟨x, o + 1, none⟩ = some (.int .i64 v.sec)
  c2 : w.cell? ⟨x, o + 2, none⟩ = some (.slice v.a v.L v.C)
  od : i64ok v.dev
  os : i64ok v.sec
  by_ : ByIn w v.a v.L v.C v.b

def Wl (w : World) (a : Option Addr) (len : Nat) (V : Nat → WV) : Prop := len ≤ maxLen ∧ ∀ i, i < len → ∃ x o, a = some ⟨x, o, none⟩ ∧ x < w.heap.size ∧ WIn w x (o + i * 3) (V i)

theorem ByIn.below {w w' : World} {a : Option Addr} {L C B : Nat} {b : Nat → Nat} (h : ByIn w a L C b) (hb : Below B w w') (hB : w.heap.size ≤ B) : ByIn w' a L C b :=
  ⟨h.le, h.max, h.nil, h.at_.below hb hB, h.byt⟩

theorem WIn.below {w w' : World} {x o B : Nat} {v : WV} (h : WIn w x o v) (hx : x < w.heap.size) (hb : Below B w w') (hB : w.heap.size ≤ B) : WIn w' x o v :=
  ⟨(hb.cell (show x < B by omega)).trans h.c0, (hb.cell (show x < B by omega)).trans h.c1, (hb.cell (show x < B by omega)).trans h.c2, h.od, h.os, h.by_.below hb hB⟩

theorem Wl.below {w w' : World} {a : Option Addr} {n B : Nat} {V : Nat → WV} (h : Wl w a n V) (hb : Below B w w') (hB : w.heap.size ≤ B) : Wl w' a n V := by
  refine ⟨h.1, fun i hi => ?_⟩
  obtain ⟨x, o, e, hx, hw⟩ := h.2 i hi
  exact ⟨x, o, e, Nat.lt_of_lt_of_le hx hb.size, hw.below hx hb hB⟩

def wcell (v : WV) : List Value := [.int .i64 v.dev, .int .i64 v.sec, .slice v.a v.L v.C]

theorem wcell_len (v : WV) : (wcell v).length = 3 := rfl

theorem wcell_one (v : WV) : ∀ u ∈ wcell v, u.oneCell' = true := by
  intro u hu
  simp only [wcell, List.mem_cons, List.not_mem_nil, or_false] at hu
  rcases hu with rfl | rfl | rfl <;> rfl

theorem Try.sizeWr : (Try.prog.info? 49).map (·.size) = some 3 := by kernel_rfl

theorem all_one {l : List Value} (h : ∀ u ∈ l, u.oneCell' = true) : l.toArray.all (·.oneCell') = true := by
  rw [List.all_toArray]
  exact List.all_eq_true.2 h

theorem run_load_wr {o : Oper} {a : Act} (x : Operand) (ho : o.op = .load 49 x) (b off : Nat) (hx : a.eval x = .pointer (some ⟨b, off, none⟩)) (v : WV) (w : World) (h : WIn w b off v) : (execOp a.eval o).run Try.prog w = .ok (.value (.agg (wcell v).toArray)) w := by
  have hr := run_loadAt_mid (P := Try.prog) w b off 49 (wcell v) _ (fun j u hu => by
    rcases (show j = 0 ∨ j = 1 ∨ j = 2 ∨ 3 ≤ j by omega) with rfl | rfl | rfl | hj
    · rw [← hu]; exact h.c0
    · rw [← hu]; exact h.c1
    · rw [← hu]; exact h.c2
    · rw [List.getElem?_eq_none (by simpa [wcell] using hj)] at hu
      cases hu) Try.underlying49 rfl Try.sizeWr
  unfold execOp
  simp only [ho, hx, Sem.run_bind, hr]
  rfl

theorem wpList_copy {ops : Array Oper} {rest : List Oper} {o : Oper} {a : Act} {Q : Exit → Act → World → Prop} (wr : World) (t : TypeId) (Z X : Array Value) (hgd : o.guard = none) (x y : Operand) (ho : o.op = .store t x y)
    (hx : a.eval x = .pointer (some ⟨wr.heap.size, 0, none⟩)) (hy : a.eval y = .agg X) (hi : (Try.prog.info? t).map (·.size) = some X.size) (hs : Z.size = X.size) (h1 : X.all (·.oneCell') = true)
    (h : ∀ w2, Has w2 wr.heap.size t X → Below wr.heap.size wr w2 → wpList Try.prog ops Q rest (a.put o.dst undef) w2) : wpList Try.prog ops Q (o :: rest) a (wr.alloc (.cells Z t)) := by
  have hZ : Has (wr.alloc (.cells Z t)) wr.heap.size t Z := Has.new_at rfl
  refine wpList_store_rowG hgd t x y ho wr.heap.size X hx hy t Z hZ hi hs h1 ?_
  intro w2 hw2
  refine h w2 ?_ ?_
  · rw [hw2]
    exact hZ.setRow _
  · rw [hw2]
    exact below_setRow ((Below.refl _ _).alloc (Nat.le_refl _) _) (Nat.le_refl _) _

theorem wpList_copy_wr {ops : Array Oper} {rest : List Oper} {o : Oper} {a : Act} {Q : Exit → Act → World → Prop} (wr : World) (v : WV) (hgd : o.guard = none) (x y : Operand) (ho : o.op = .store 49 x y)
    (hx : a.eval x = .pointer (some ⟨wr.heap.size, 0, none⟩)) (hy : a.eval y = .agg (wcell v).toArray)
    (h : ∀ w2, Has w2 wr.heap.size 49 (wcell v).toArray → Below wr.heap.size wr w2 → wpList Try.prog ops Q rest (a.put o.dst undef) w2) : wpList Try.prog ops Q (o :: rest) a (wr.alloc (.cells #[.int .i64 0, .int .i64 0, .slice none 0 0] 49)) :=
  wpList_copy wr _ _ _ hgd x y ho hx hy Try.sizeWr rfl (all_one (wcell_one v)) h

theorem run_at_wr {o : Oper} {a : Act} (x i : Operand) (ho : o.op = .indexAddr 22 x i) (g off k n cap : Nat) (hx : a.eval x = .slice (some ⟨g, off, none⟩) n cap) (hi : a.eval i = .int .i64 (k : Nat)) (hk : k < n) (w : World) : (execOp a.eval o).run Try.prog w = .ok (.value (.pointer (some ⟨g, off + k * 3, none⟩))) w := by
  unfold execOp
  cases hq : Try.prog.info? 49 with
  | none => exact absurd hq (by have h : (Try.prog.info? 49).isSome = true := (by kernel_rfl); intro e; rw [e] at h; cases h)
  | some inf =>
    have hz : inf.size = 3 := by
      have h : (Try.prog.info? 49).map (·.size) = some 3 := by kernel_rfl
      simpa [hq] using h
    simp only [ho, hx, hi]
    simp [Instr.indexAt, Instr.sureAddr, run_underlying Try.underlying22, asIntOf, sizeOf, typeInfo, hq, hz, Addr.add_mid, go_sem]
    intro h
    omega

/-! How it came in. -/
def bnD (zs : List Int) (j : Nat) : Nat := (zs.getD j 0).toNat % 256

theorem bnD_eq {zs : List Int} (hw : ∀ n ∈ zs, (Lit.int .u8 n).wf = true) (j : Nat) (hj : j < zs.length) : zs.getD j 0 = ((bnD zs j : Nat) : Int) := by
  have hmem : zs.getD j 0 ∈ zs := by rw [List.getD_eq_getElem?_getD, List.getElem?_eq_getElem hj]; exact List.getElem_mem hj
  have h := hw _ hmem
  simp [Lit.wf, IntKind.min, IntKind.max, IntKind.signed, IntKind.bits] at h
  unfold bnD
  rw [Int.natCast_emod, Int.toNat_of_nonneg (by simpa using h.1)]
  have := h.2
  simp at this ⊢
  omega

theorem i64_of_wf {n : Int} (h : (Lit.int .i64 n).wf = true) : i64ok n := by
  simp [Lit.wf, IntKind.min, IntKind.max, IntKind.signed, IntKind.bits] at h
  unfold i64ok
  omega

theorem cells5D : Try.prog.cellsOf 5 = 1 := by kernel_rfl
theorem cellsWrD : Try.prog.cellsOf 49 = 3 := by kernel_rfl

variable {H : Type} {enc : TypeId × Value → H} {W : World} {fuel : Nat}

theorem open_by {v : Value} {y : DataW H × List MemPlace} (hf : DataW.trod enc Try.prog W 0 (fun _ => true) true fuel 23 [v] = some y) : ∃ a L C b, v = .slice a L C ∧ ByIn W a L C b := by
  rcases open_ints Try.underlying23 Try.underlying5 cells5D hf with ⟨hcs, _⟩ | ⟨x, l, c, zs, hcs, _, hl, hm, hzl, hx, hcell, hwz⟩
  · simp only [List.cons.injEq, and_true] at hcs
    exact ⟨none, 0, 0, fun _ => 0, hcs, Nat.le_refl _, Nat.zero_le _, fun _ => ⟨rfl, rfl⟩, .inl rfl, fun _ => by decide⟩
  · simp only [List.cons.injEq, and_true] at hcs
    have hzl' : zs.length = c := by simpa using hzl
    refine ⟨some x, l, c, bnD zs, hcs, hl, Nat.le_trans hl hm, (fun e => by cases e), ?_, fun j => Nat.mod_lt _ (by decide)⟩
    by_cases h0 : l = 0
    · exact .inl h0
    · obtain ⟨b, off, spot⟩ := x
      have hs : spot = none := by simpa [Addr.add] using World.cell?_spot (hcell 0 (by omega))
      subst hs
      have e1 : ∀ j, (⟨b, off, none⟩ : Addr).add j = ⟨b, off + j, none⟩ := fun j => by simp [Addr.add]
      refine .inr ⟨b, off, rfl, World.block_lt_of_cell? W _ (hcell 0 (by omega)), fun j hj => ?_⟩
      have h := hcell j (by omega)
      rw [e1, bnD_eq hwz j (by omega)] at h
      exact h

theorem open_i64 {v : Value} {y : DataW H × List MemPlace} (hf : DataW.trod enc Try.prog W 0 (fun _ => true) true fuel 3 [v] = some y) : ∃ n, v = .int .i64 n ∧ i64ok n := by
  obtain ⟨s, hs1, _, hs2⟩ := DataW.trod_int Try.underlying3 hf
  simp only [List.cons.injEq, and_true] at hs1
  exact ⟨s, hs1, i64_of_wf hs2⟩

set_option maxRecDepth 100000 in
theorem open_writes {a : Option Addr} {len cap : Nat} {x : DataW H × List MemPlace} (hf : DataW.trod enc Try.prog W 0 (fun _ => true) true fuel 22 [.slice a len cap] = some x) : ∃ V, Wl W a len V := by
  rcases Go.Deep.open_slice Try.underlying22 hf with ⟨hcs, _⟩ | ⟨ad, l, c, m, n, D, Pl, hcs, _, hl, hm, hmm, _, hx⟩
  · simp only [List.cons.injEq, Value.slice.injEq, and_true] at hcs
    obtain ⟨rfl, rfl, rfl⟩ := hcs
    exact ⟨fun _ => ⟨0, 0, none, 0, 0, fun _ => 0⟩, Nat.zero_le _, fun i hi => by omega⟩
  · simp only [List.cons.injEq, Value.slice.injEq, and_true] at hcs
    obtain ⟨rfl, rfl, rfl⟩ := hcs
    simp only [if_true] at hmm
    have each : ∀ i, i < len → ∃ v : WV, ∃ x o, ad = ⟨x, o, none⟩ ∧ x < W.heap.size ∧ WIn W x (o + i * 3) v := by
      intro i hi
      obtain ⟨cs', h1, h2⟩ := hx i (by omega)
      rw [cellsWrD] at h1
      obtain ⟨_, hlen, hcell⟩ := World.cells?_some h1
      obtain ⟨y0, y1, y2, n', _, _, e0, e1, e2⟩ := Go.Deep.trod_struct3 Try.underlying49 h2
      match cs', hlen with
      | [v0, v1, v2], _ =>
        have f0 : DataW.trod enc Try.prog W 0 (fun _ => true) true n' 3 [v0] = some y0 := e0
        have f1 : DataW.trod enc Try.prog W 0 (fun _ => true) true n' 3 [v1] = some y1 := e1
        have f2 : DataW.trod enc Try.prog W 0 (fun _ => true) true n' 23 [v2] = some y2 := e2
        obtain ⟨k, rfl, hk⟩ := open_i64 f0
        obtain ⟨j, rfl, hj⟩ := open_i64 f1
        obtain ⟨a2, L2, C2, b2, rfl, h2'⟩ := open_by f2
        have c0 := hcell 0 (by omega)
        have c1 := hcell 1 (by omega)
        have c2 := hcell 2 (by omega)
        rw [Go.Deep.add_add] at c0 c1 c2
        obtain ⟨b, off, spot⟩ := ad
        have hs : spot = none := by
          have hi0 : 0 < m := by omega
          obtain ⟨cs0, g1, _⟩ := hx 0 hi0
          rw [cellsWrD] at g1
          obtain ⟨_, hlen0, hcell0⟩ := World.cells?_some g1
          have := hcell0 0 (by omega)
          rw [Go.Deep.add_add] at this
          cases hv : cs0[0]? with
          | none => rw [List.getElem?_eq_none_iff] at hv; omega
          | some u => simpa [Addr.add] using World.cell?_spot (this.trans hv)
        subst hs
        have ea : ∀ j, (⟨b, off, none⟩ : Addr).add j = ⟨b, off + j, none⟩ := fun j => by simp [Addr.add]
        rw [ea] at c0 c1 c2
        refine ⟨⟨k, j, a2, L2, C2, b2⟩, b, off, rfl, World.block_lt_of_cell? W _ c0, ?_⟩
        exact ⟨by simpa using c0, by rw [Nat.add_assoc]; simpa using c1, by rw [Nat.add_assoc]; simpa using c2, hk, hj, h2'⟩
    refine ⟨fun i => if h : i < len then (each i h).choose else ⟨0, 0, none, 0, 0, fun _ => 0⟩, Nat.le_trans hl hm, fun i hi => ?_⟩
    simp only [dif_pos hi]
    obtain ⟨x, o, e, h1, h2⟩ := (each i hi).choose_spec
    exact ⟨x, o, by rw [e], h1, h2⟩
end Go.Proofs.Ytbiicdehgogikaa
