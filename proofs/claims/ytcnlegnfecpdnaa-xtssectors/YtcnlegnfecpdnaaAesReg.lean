/- Moves through a region that draws its order, what is laid said outright; a cipher's block. -/
import Derived.Test.YtcnlegnfecpdnaaAesCols
namespace Go.Proofs.Ytcnlegnfecpdnaa
open Go.ChangeShapes Go.WideShapes Go.ChangeAt Go.RowKit
set_option linter.unusedVariables false

section
variable {P : Program} {ops : Array Oper} {Q : Exit → Act → World → Prop} {md : Region.Mode} {S : World → Prop}

/-- One that yields in every world that meets S is taken first. -/
theorem takeTo {oi : Oper} (i : Nat) (d : Option Tmp) (v : Value) {fuel : Nat} {listed : Array Bool} {a : Act} {w : World} (hi : ops[i]? = some oi) (hd : oi.dst = d)
    (hs : Region.noSelect ops = true) (hf : Region.free md ops listed i = true) (hr : (Region.ready md ops listed).contains i = true)
    (hQ : ∀ c a w, Q (.panic c) (a.put d v) w → Q (.panic c) a w) (hw : Region.wanted oi (yielded ops a.tmps) = true) (hy : ∀ w, S w → (execOp a.eval oi).run P w = .ok (.value v) w) (hS : S w)
    (h : wpAnyH P md ops Q S fuel (listed.setIfInBounds i true) (a.put d v) w) : wpAnyH P md ops Q S (fuel + 1) listed a w := by
  subst hd
  exact wpAnyH_take hi hs hf hr hQ (.inl ⟨hw, hy⟩) hS h

/-- A call by its contract, where nothing else may come up. -/
theorem callTo {oi : Oper} (i : Nat) (d : Option Tmp) (f : FuncId) (args : Array Value) {fuel : Nat} {listed : Array Bool} {a : Act} {w : World} {Post : Ending → World → Prop}
    (hr : Region.ready md ops listed = [i]) (hi : ops[i]? = some oi) (hd : oi.dst = d) (hw : Region.wanted oi (yielded ops a.tmps) = true)
    (hrun : (execOp a.eval oi).run P w = .ok (.enter f args) w) (hc : Calls P f args w Post)
    (h : ∀ e w', Post e w' → ∃ v, e = .returned v ∧ S w' ∧ wpAnyH P md ops Q S fuel (listed.setIfInBounds i true) (a.put d v) w') : wpAnyH P md ops Q S (fuel + 1) listed a w := by
  subst hd
  refine wpAnyH_ready hr (by simp) (AllReadyH.cons hi (fun K hK => ?_) AllReadyH.nil)
  rw [if_pos hw]
  unfold Oper.wp
  rw [hrun, Oper.upon_enter]
  refine hc.mono fun e w' hh => ?_
  obtain ⟨v, rfl, hS, hrest⟩ := h e w' hh
  exact hK.out _ _ hS (fun _ => hrest)

/-- Number i comes up now. -/
def StepH (P : Program) (md : Region.Mode) (ops : Array Oper) (Q : Exit → Act → World → Prop) (S : World → Prop) (fuel : Nat) (listed : Array Bool) (a : Act) (w : World) (i : Nat) : Prop :=
  wpOp P ops Q i (fun a' w' => S w' ∧ wpAnyH P md ops Q S fuel (listed.setIfInBounds i true) a' w') a w

theorem ready1 {fuel : Nat} {listed : Array Bool} {a : Act} {w : World} (i : Nat) (hr : Region.ready md ops listed = [i]) (h : StepH P md ops Q S fuel listed a w i) : wpAnyH P md ops Q S (fuel + 1) listed a w :=
  wpAnyH_all hr (by simp) (fun k hk => by obtain rfl : k = i := (by simpa using hk); exact h)

theorem ready2 {fuel : Nat} {listed : Array Bool} {a : Act} {w : World} (i j : Nat) (hr : Region.ready md ops listed = [i, j]) (h1 : StepH P md ops Q S fuel listed a w i) (h2 : StepH P md ops Q S fuel listed a w j) : wpAnyH P md ops Q S (fuel + 1) listed a w :=
  wpAnyH_all hr (by simp) (fun k hk => by
    rcases (show k = i ∨ k = j by simpa using hk) with rfl | rfl
    · exact h1
    · exact h2)

theorem stepCall {oi : Oper} {i : Nat} (d : Option Tmp) (f : FuncId) (args : Array Value) {fuel : Nat} {listed : Array Bool} {a : Act} {w : World} {Post : Ending → World → Prop}
    (hi : ops[i]? = some oi) (hd : oi.dst = d) (hw : Region.wanted oi (yielded ops a.tmps) = true)
    (hrun : (execOp a.eval oi).run P w = .ok (.enter f args) w) (hc : Calls P f args w Post)
    (h : ∀ e w', Post e w' → ∃ v, e = .returned v ∧ S w' ∧ wpAnyH P md ops Q S fuel (listed.setIfInBounds i true) (a.put d v) w') : StepH P md ops Q S fuel listed a w i := by
  subst hd
  refine wpOp_step hi (fun K hK => ?_)
  rw [if_pos hw]
  unfold Oper.wp
  rw [hrun, Oper.upon_enter]
  refine hc.mono fun e w' hh => ?_
  obtain ⟨v, rfl, hS⟩ := h e w' hh
  exact hK _ _ hS

theorem stepVal {oi : Oper} {i : Nat} (d : Option Tmp) (v : Value) (w' : World) {fuel : Nat} {listed : Array Bool} {a : Act} {w : World}
    (hi : ops[i]? = some oi) (hd : oi.dst = d) (hw : Region.wanted oi (yielded ops a.tmps) = true)
    (hrun : (execOp a.eval oi).run P w = .ok (.value v) w')
    (h : S w' ∧ wpAnyH P md ops Q S fuel (listed.setIfInBounds i true) (a.put d v) w') : StepH P md ops Q S fuel listed a w i := by
  subst hd
  refine wpOp_step hi (fun K hK => ?_)
  rw [if_pos hw]
  unfold Oper.wp
  rw [hrun]
  exact hK _ _ h

theorem stepSkip {oi : Oper} {i : Nat} (d : Option Tmp) (w' : World) {fuel : Nat} {listed : Array Bool} {a : Act} {w : World}
    (hi : ops[i]? = some oi) (hd : oi.dst = d) (hw : Region.wanted oi (yielded ops a.tmps) = true)
    (hrun : (execOp a.eval oi).run P w = .ok .skip w')
    (h : S w' ∧ wpAnyH P md ops Q S fuel (listed.setIfInBounds i true) (a.put d undef) w') : StepH P md ops Q S fuel listed a w i := by
  subst hd
  refine wpOp_step hi (fun K hK => ?_)
  rw [if_pos hw]
  unfold Oper.wp
  rw [hrun]
  exact hK _ _ h
end

theorem run_store_row {o : Oper} {a : Act} (ty : TypeId) (x y : Operand) (ho : o.op = .store ty x y) (g : Nat) (hx : a.eval x = .pointer (some ⟨g, 0, none⟩)) (X : Array Value) (hy : a.eval y = .agg X) (t : TypeId) {cs : Array Value}
    (hi : (Try.prog.info? ty).map (·.size) = some X.size) (w : World) (h : Has w g t cs) (hs : cs.size = X.size) (h1 : X.all (·.oneCell') = true) : (execOp a.eval o).run Try.prog w = .ok .skip (w.setRow g X) := by
  unfold execOp
  simp only [ho, hx, hy, Sem.run_bind, h.store ty hi hs h1]
  rfl

theorem run_load_row {o : Oper} {a : Act} (ty : TypeId) (x : Operand) (ho : o.op = .load ty x) (g : Nat) (hx : a.eval x = .pointer (some ⟨g, 0, none⟩)) (X : Array Value) (t : TypeId) {n e : Nat}
    (hu : Try.prog.underlying ty = some (.array n e)) (hi : (Try.prog.info? ty).map (·.size) = some X.size) (w : World) (h : Has w g t X) : (execOp a.eval o).run Try.prog w = .ok (.value (.agg X)) w := by
  unfold execOp
  simp only [ho, hx, Sem.run_bind, Sem.run_pure, Result.andThen_ok, h.load ty hu hi]

theorem run_load_mid {o : Oper} {a : Act} (ty : TypeId) (x : Operand) (ho : o.op = .load ty x) (b off : Nat) (hx : a.eval x = .pointer (some ⟨b, off, none⟩)) (X : Array Value) {d : TypeDesc}
    (hu : Try.prog.underlying ty = some d) (hd : d.isRow = true) (hi : (Try.prog.info? ty).map (·.size) = some X.size) (w : World) (h : w.rangeAt b off X.toList) : (execOp a.eval o).run Try.prog w = .ok (.value (.agg X)) w := by
  unfold execOp
  simp only [ho, hx, Instr.loadAt, Instr.sureAddr, Sem.run_bind, Sem.run_pure, Result.andThen_ok, run_loadVar_mid w b off ty X.toList d h hu hd (by simpa using hi), Array.toArray_toList]

theorem run_indexAddr {o : Oper} {a : Act} (ty : TypeId) (x i : Operand) (ho : o.op = .indexAddr ty x i) (g off k n sz : Nat) (e : TypeId) (hx : a.eval x = .pointer (some ⟨g, off, none⟩)) (hi : a.eval i = .int .i64 (k : Nat))
    (hu : Try.prog.underlying ty = some (.array n e)) (hs : (Try.prog.info? e).map (·.size) = some sz) (hk : k < n) (w : World) : (execOp a.eval o).run Try.prog w = .ok (.value (.pointer (some ⟨g, off + k * sz, none⟩))) w := by
  unfold execOp
  cases hq : Try.prog.info? e with
  | none => simp [hq] at hs
  | some inf =>
    have hz : inf.size = sz := by simpa [hq] using hs
    simp only [ho, hx, hi]
    simp [Instr.indexAt, Instr.sureAddr, run_underlying hu, asIntOf, sizeOf, typeInfo, hq, hz, Addr.add_mid, go_sem]
    intro h
    omega

theorem run_fieldAddr {o : Oper} {a : Act} (s : TypeId) (x : Operand) (f : Nat) (ho : o.op = .fieldAddr s x f) (v v' : Value) (hx : a.eval x = v) (h : ∀ w, (Instr.fieldAt s v f).run Try.prog w = .ok v' w) (w : World) : (execOp a.eval o).run Try.prog w = .ok (.value v') w := by
  unfold execOp
  simp only [ho, hx, Sem.run_bind, h, Result.andThen_ok, Sem.run_pure]

def ccell (K : Nat → Nat) (R : Nat) (B : Nat → Nat) (j : Nat) : Value := if j < 240 then .int .u8 (K j : Nat) else if j = 240 then .int .i64 (R : Nat) else .int .u8 (B (j - 241) : Nat)
def ccells (K : Nat → Nat) (R : Nat) (B : Nat → Nat) : Array Value := ((List.range 497).map (ccell K R B)).toArray

theorem ccells_size (K : Nat → Nat) (R : Nat) (B : Nat → Nat) : (ccells K R B).size = 497 := by simp [ccells]
theorem ccells_get (K : Nat → Nat) (R : Nat) (B : Nat → Nat) (j : Nat) (h : j < 497) : (ccells K R B)[j]? = some (ccell K R B j) := by simp [ccells, h]

theorem field0 (g : Nat) (w : World) : (Instr.fieldAt 57 (.pointer (some ⟨g, 0, none⟩)) 0).run Try.prog w = .ok (.pointer (some ⟨g, 0, none⟩)) w := by
  simp [Instr.fieldAt, Instr.sureAddr, run_underlying Try.underlying57, go_sem]
theorem field1 (g : Nat) (w : World) : (Instr.fieldAt 57 (.pointer (some ⟨g, 0, none⟩)) 1).run Try.prog w = .ok (.pointer (some ⟨g, 240, none⟩)) w := by
  simp [Instr.fieldAt, Instr.sureAddr, run_underlying Try.underlying57, go_sem]
theorem field2 (g : Nat) (w : World) : (Instr.fieldAt 57 (.pointer (some ⟨g, 0, none⟩)) 2).run Try.prog w = .ok (.pointer (some ⟨g, 241, none⟩)) w := by
  simp [Instr.fieldAt, Instr.sureAddr, run_underlying Try.underlying57, go_sem]

theorem Try.size57 : (Try.prog.info? 57).map (·.size) = some 497 := by kernel_rfl

section
variable {w : World} {g t R : Nat} {K B : Nat → Nat}

theorem ck (h : Has w g t (ccells K R B)) (j : Nat) (hj : j < 240) : w.cell? ⟨g, j, none⟩ = some (.int .u8 (K j : Nat)) := by
  rw [h.cell, ccells_get _ _ _ _ (by omega)]; simp [ccell, hj]
theorem cr (h : Has w g t (ccells K R B)) : w.cell? ⟨g, 240, none⟩ = some (.int .i64 (R : Nat)) := by
  rw [h.cell, ccells_get _ _ _ _ (by omega)]; rfl
theorem cb (h : Has w g t (ccells K R B)) (j : Nat) (hj : j < 256) : w.cell? ⟨g, 241 + j, none⟩ = some (.int .u8 (B j : Nat)) := by
  rw [h.cell, ccells_get _ _ _ _ (by omega)]
  simp only [ccell, if_neg (show ¬ 241 + j < 240 by omega), if_neg (show ¬ 241 + j = 240 by omega)]
  rw [show 241 + j - 241 = j by omega]

def rk (K : Nat → Nat) (k j : Nat) : Nat := K (16 * k + j)

theorem ckey (h : Has w g t (ccells K R B)) (k : Nat) (hk : k ≤ 14) : w.rangeAt g (k * 16) (cellsN .u8 16 (rk K k)).toList := by
  intro j v hv
  rw [Array.getElem?_toList] at hv
  by_cases hj : j < 16
  · rw [cellsN_get _ _ _ _ hj] at hv
    rw [ck h (k * 16 + j) (by omega), Nat.mul_comm]
    exact hv
  · rw [show (cellsN .u8 16 (rk K k))[j]? = none by simp [cellsN]; omega] at hv
    cases hv
end
end Go.Proofs.Ytcnlegnfecpdnaa
