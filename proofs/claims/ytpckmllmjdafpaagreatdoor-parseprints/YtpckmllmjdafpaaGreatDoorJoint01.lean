/- Texts that the statements of this stage share, joined: BasReg, LxIs, LxTake, LxTakeB, LxTakeL, LxPassM, LxPass, LxAtoi. -/
import Derived.Test.YtpckmllmjdafpaaGreatDoorJoint00
import Derived.Deep.RegionHeld3
import Derived.Lib.Strings
import Derived.Laws.IdiomStrings

/- Moves through a region that draws its order, what is laid said outright. -/
namespace Go.Proofs.YtpckmllmjdafpaaGreatDoor
open Go.ChangeShapes Go.WideShapes Go.ChangeAt Go.RowKit
set_option linter.unusedVariables false

section
variable {P : Program} {ops : Array Oper} {Q : Exit → Act → World → Prop} {md : Region.Mode} {S : World → Prop} {m : Nat}

/-- One that yields in every world that meets S is taken first. -/
theorem takeTo {oi : Oper} (i : Nat) (d : Option Tmp) (v : Value) {fuel : Nat} {listed : Array Bool} {a : Act} {w : World} (hi : ops[i]? = some oi) (hd : oi.dst = d)
    (hs : Region.noSelect ops = true) (hf : Region.free md ops listed i = true) (hr : (Region.ready md ops listed).contains i = true)
    (hQ : ∀ c a w, Q (.panic c) (a.put d v) w → Q (.panic c) a w) (hw : Region.wanted oi (yielded ops a.tmps) = true) (hy : ∀ w, S w → (execOp a.eval oi).run P w = .ok (.value v) w) (hS : S w)
    (h : wpAnyH P md ops Q S fuel (listed.setIfInBounds i true) (a.put d v) w) : wpAnyH P md ops Q S (fuel + 1) listed a w := by
  subst hd
  exact wpAnyH_take hi hs hf hr hQ (.inl ⟨hw, hy⟩) hS h

/-- A call by its contract, where nothing else may come up. -/
theorem callTo {oi : Oper} (i : Nat) (d : Option Tmp) (f : FuncId) (args : Array Value) {fuel : Nat} {listed : Array Bool} {a : Act} {w : World} {Post : Ending → World → Prop}
    (hr : Region.ready md ops listed = [i]) (hi : ops[i]? = some oi) (hd : oi.dst = d) (hw : Region.wanted oi (yielded ops a.tmps) = true)
    (hrun : (execOp a.eval oi).run P w = .ok (.enter f args) w) (hc : Calls P f args w Post)
    (h : ∀ e w', Post e w' → ∃ v, e = .returned v ∧ S w' ∧ wpAnyH P md ops Q S fuel (listed.setIfInBounds i true) (a.put d v) w') : wpAnyH P md ops Q S (fuel + 1) listed a w := by
  subst hd
  refine wpAnyH_ready hr (by simp) (AllReadyH.cons hi (fun K hK => ?_) AllReadyH.nil)
  rw [if_pos hw]
  unfold Oper.wp
  rw [hrun, Oper.upon_enter]
  refine hc.mono fun e w' hh => ?_
  obtain ⟨v, rfl, hS, hrest⟩ := h e w' hh
  exact hK.out _ _ hS (fun _ => hrest)

/-- Number i comes up now. -/
def StepH (P : Program) (md : Region.Mode) (ops : Array Oper) (Q : Exit → Act → World → Prop) (S : World → Prop) (fuel : Nat) (listed : Array Bool) (a : Act) (w : World) (i : Nat) : Prop :=
  wpOp P ops Q i (fun a' w' => S w' ∧ wpAnyH P md ops Q S fuel (listed.setIfInBounds i true) a' w') a w

theorem ready1 {fuel : Nat} {listed : Array Bool} {a : Act} {w : World} (i : Nat) (hr : Region.ready md ops listed = [i]) (h : StepH P md ops Q S fuel listed a w i) : wpAnyH P md ops Q S (fuel + 1) listed a w :=
  wpAnyH_all hr (by simp) (fun k hk => by obtain rfl : k = i := (by simpa using hk); exact h)

theorem ready2 {fuel : Nat} {listed : Array Bool} {a : Act} {w : World} (i j : Nat) (hr : Region.ready md ops listed = [i, j]) (h1 : StepH P md ops Q S fuel listed a w i) (h2 : StepH P md ops Q S fuel listed a w j) : wpAnyH P md ops Q S (fuel + 1) listed a w :=
  wpAnyH_all hr (by simp) (fun k hk => by
    rcases (show k = i ∨ k = j by simpa using hk) with rfl | rfl
    · exact h1
    · exact h2)

theorem stepCall {oi : Oper} {i : Nat} (d : Option Tmp) (f : FuncId) (args : Array Value) {fuel : Nat} {listed : Array Bool} {a : Act} {w : World} {Post : Ending → World → Prop}
    (hi : ops[i]? = some oi) (hd : oi.dst = d) (hw : Region.wanted oi (yielded ops a.tmps) = true)
    (hrun : (execOp a.eval oi).run P w = .ok (.enter f args) w) (hc : Calls P f args w Post)
    (h : ∀ e w', Post e w' → ∃ v, e = .returned v ∧ S w' ∧ wpAnyH P md ops Q S fuel (listed.setIfInBounds i true) (a.put d v) w') : StepH P md ops Q S fuel listed a w i := by
  subst hd
  refine wpOp_step hi (fun K hK => ?_)
  rw [if_pos hw]
  unfold Oper.wp
  rw [hrun, Oper.upon_enter]
  refine hc.mono fun e w' hh => ?_
  obtain ⟨v, rfl, hS⟩ := h e w' hh
  exact hK _ _ hS

theorem stepVal {oi : Oper} {i : Nat} (d : Option Tmp) (v : Value) (w' : World) {fuel : Nat} {listed : Array Bool} {a : Act} {w : World}
    (hi : ops[i]? = some oi) (hd : oi.dst = d) (hw : Region.wanted oi (yielded ops a.tmps) = true)
    (hrun : (execOp a.eval oi).run P w = .ok (.value v) w')
    (h : S w' ∧ wpAnyH P md ops Q S fuel (listed.setIfInBounds i true) (a.put d v) w') : StepH P md ops Q S fuel listed a w i := by
  subst hd
  refine wpOp_step hi (fun K hK => ?_)
  rw [if_pos hw]
  unfold Oper.wp
  rw [hrun]
  exact hK _ _ h

theorem stepSkip {oi : Oper} {i : Nat} (d : Option Tmp) (w' : World) {fuel : Nat} {listed : Array Bool} {a : Act} {w : World}
    (hi : ops[i]? = some oi) (hd : oi.dst = d) (hw : Region.wanted oi (yielded ops a.tmps) = true)
    (hrun : (execOp a.eval oi).run P w = .ok .skip w')
    (h : S w' ∧ wpAnyH P md ops Q S fuel (listed.setIfInBounds i true) (a.put d undef) w') : StepH P md ops Q S fuel listed a w i := by
  subst hd
  refine wpOp_step hi (fun K hK => ?_)
  rw [if_pos hw]
  unfold Oper.wp
  rw [hrun]
  exact hK _ _ h

/-- In every order; S behind each operation but number m. -/
def AnyL (P : Program) (md : Region.Mode) (ops : Array Oper) (Q : Exit → Act → World → Prop) (S : World → Prop) (m : Nat) : Nat → Array Bool → Act → World → Prop
  | 0, listed, a, w => Region.ready md ops listed = [] ∧ Q .normal a w
  | n + 1, listed, a, w => (Region.ready md ops listed = [] → Q .normal a w) ∧ ∀ j ∈ Region.ready md ops listed, wpOp P ops Q j (fun a' w' => (j ≠ m → S w') ∧ AnyL P md ops Q S m n (listed.setIfInBounds j true) a' w') a w

theorem AnyL.any : ∀ (n : Nat) (listed : Array Bool) (a : Act) (w : World), AnyL P md ops Q S m n listed a w → wpAny P md ops Q n listed a w
  | 0, _, _, _, h => h
  | n + 1, _, _, _, h => ⟨h.1, fun j hj => wpOp_mono (fun a' w' h' => AnyL.any n _ a' w' h'.2) (h.2 j hj)⟩

theorem lastTo {id : Nat} {a : Act} {w : World} (m : Nat) (hm : P.follows .mixedOrders = true) (hS : S w.drew)
    (h : S w.drew → AnyL P .any ops Q S m ops.size (Array.replicate ops.size false) a w.drew) : (Code.region id ops true).wp P Q a w :=
  wp_region_any hm (AnyL.any _ _ _ _ (h hS))

/-- Number m waits for number i. -/
def waitsFor (md : Region.Mode) (ops : Array Oper) (m i : Nat) : Bool := (ops[m]?).any fun o => o.after.any fun e => Region.binds md e && e.on == i

theorem not_yet {i : Nat} {listed : Array Bool} (hw : waitsFor md ops m i = true) (hr : i ∈ Region.ready md ops listed) : m ∉ Region.ready md ops listed := by
  intro hm
  obtain ⟨_, o, ho, hall⟩ := mem_ready.1 hm
  obtain ⟨hi0, _⟩ := mem_ready.1 hr
  simp only [waitsFor, ho, Option.any_some, Array.any_eq_true', Bool.and_eq_true, beq_iff_eq] at hw
  obtain ⟨e, he, hb, rfl⟩ := hw
  have h1 := hall e he hb
  by_cases hlt : e.on < listed.size
  · simp [hlt] at hi0 h1
    rw [hi0] at h1
    cases h1
  · simp [Array.getElem?_eq_none (Nat.not_lt.1 hlt)] at h1

theorem AnyL.front {i : Nat} {oi : Oper} {v : Value} (hi : ops[i]? = some oi) (him : i ≠ m) (hw : waitsFor md ops m i = true) (hsel : ∀ (j : Nat) (o : Oper) cs b, ops[j]? = some o → o.op ≠ .select cs b)
    (hQ : ∀ c a w, Q (.panic c) (a.put oi.dst v) w → Q (.panic c) a w) : ∀ (n : Nat) (listed : Array Bool) (a : Act) (w : World),
      (∀ j oj, ops[j]? = some oj → j ≠ i → listed.getD j true = false → (∀ e ∈ oj.after, Region.binds md e = true → e.on ≠ i) → oi.apart ops oj = true) →
      i ∈ Region.ready md ops listed → YieldsIf P ops S oi v a → S w → AnyL P md ops Q S m n (listed.setIfInBounds i true) (a.put oi.dst v) w → AnyL P md ops Q S m (n + 1) listed a w
  | n, listed, a, w, hfree, hr, hy, hS, H => by
    refine ⟨fun h => absurd (h ▸ hr) (by simp), fun j hj => ?_⟩
    by_cases hji : j = i
    · subst hji
      exact hy.wpOp hi hS ⟨fun _ => hS, H⟩
    have hjm : j ≠ m := fun e => not_yet hw hr (e ▸ hj)
    have hj' := ready_mono hj hji
    cases n with
    | zero => exact absurd (H.1 ▸ hj') (by simp)
    | succ n =>
      obtain ⟨hjun, oj, hoj, hall⟩ := mem_ready.1 hj
      have hno : ∀ e ∈ oj.after, Region.binds md e = true → e.on ≠ i := by
        intro e he hb heq
        have h1 := hall e he hb
        have h0 := (mem_ready.1 hr).1
        subst heq
        by_cases hlt : e.on < listed.size
        · simp [hlt] at h0 h1
          rw [h0] at h1
          cases h1
        · simp [Array.getElem?_eq_none (Nat.not_lt.1 hlt)] at h1
      refine wpOp_mono ?_ (wpOp_putIf hoj (hfree j oj hoj hji hjun hno) (fun cs b => hsel i oi cs b hi) (fun cs b => hsel j oj cs b hoj) hQ hy (H.2 j hj'))
      rintro a' w' ⟨hy', hS', H'⟩
      refine ⟨hS', AnyL.front hi him hw hsel hQ n (listed.setIfInBounds j true) a' w' (fun k ok hk hki hun hn => hfree k ok hk hki ?_ hn) (ready_mono hr (Ne.symm hji)) hy' (hS' hjm) ?_⟩
      · by_cases hjk : j = k
        · subst hjk; exact hjun
        · rwa [getD_set_ne true hjk] at hun
      · rw [Array.setIfInBounds_comm _ _ hji]
        exact H'

/-- One that yields in every world that meets S is taken first. -/
theorem takeL {oi : Oper} (i : Nat) (d : Option Tmp) (v : Value) {n : Nat} {listed : Array Bool} {a : Act} {w : World} (hi : ops[i]? = some oi) (hd : oi.dst = d) (him : i ≠ m) (hwf : waitsFor md ops m i = true)
    (hs : Region.noSelect ops = true) (hf : Region.free md ops listed i = true) (hr : (Region.ready md ops listed).contains i = true)
    (hQ : ∀ c a w, Q (.panic c) (a.put d v) w → Q (.panic c) a w) (hw : Region.wanted oi (yielded ops a.tmps) = true) (hy : ∀ w, S w → (execOp a.eval oi).run P w = .ok (.value v) w) (hS : S w)
    (h : AnyL P md ops Q S m n (listed.setIfInBounds i true) (a.put d v) w) : AnyL P md ops Q S m (n + 1) listed a w := by
  subst hd
  exact AnyL.front hi him hwf (Region.noSelect_spec hs) hQ n listed a w (Region.free_spec hi hf) (by simpa using hr) (.inl ⟨hw, hy⟩) hS h

/-- The last one. -/
theorem lastSkip {oi : Oper} (m : Nat) (d : Option Tmp) (w' : World) {n : Nat} {listed : Array Bool} {a : Act} {w : World} (hr : Region.ready md ops listed = [m])
    (hi : ops[m]? = some oi) (hd : oi.dst = d) (hw : Region.wanted oi (yielded ops a.tmps) = true)
    (hrun : (execOp a.eval oi).run P w = .ok .skip w') (he : Region.ready md ops (listed.setIfInBounds m true) = [])
    (h : Q .normal (a.put d undef) w') : AnyL P md ops Q S m (n + 1) listed a w := by
  subst hd
  refine ⟨fun h0 => absurd (hr ▸ h0) (by simp), fun j hj => ?_⟩
  obtain rfl : j = m := by rw [hr] at hj; simpa using hj
  refine wpOp_step hi (fun K hK => ?_)
  rw [if_pos hw]
  unfold Oper.wp
  rw [hrun]
  refine hK _ _ ⟨fun h => absurd rfl h, ?_⟩
  cases n with
  | zero => exact ⟨he, h⟩
  | succ n => exact ⟨fun _ => h, by rw [he]; simp⟩

/-- A call by its contract, where nothing else may come up. -/
theorem callL {oi : Oper} (i : Nat) (d : Option Tmp) (f : FuncId) (args : Array Value) {n : Nat} {listed : Array Bool} {a : Act} {w : World} {Post : Ending → World → Prop}
    (hr : Region.ready md ops listed = [i]) (hi : ops[i]? = some oi) (hd : oi.dst = d) (hw : Region.wanted oi (yielded ops a.tmps) = true)
    (hrun : (execOp a.eval oi).run P w = .ok (.enter f args) w) (hc : Calls P f args w Post)
    (h : ∀ e w', Post e w' → ∃ v, e = .returned v ∧ S w' ∧ AnyL P md ops Q S m n (listed.setIfInBounds i true) (a.put d v) w') : AnyL P md ops Q S m (n + 1) listed a w := by
  subst hd
  refine ⟨fun h0 => absurd (hr ▸ h0) (by simp), fun j hj => ?_⟩
  obtain rfl : j = i := by rw [hr] at hj; simpa using hj
  refine wpOp_step hi (fun K hK => ?_)
  rw [if_pos hw]
  unfold Oper.wp
  rw [hrun, Oper.upon_enter]
  refine hc.mono fun e w' hh => ?_
  obtain ⟨v, rfl, hS, hrest⟩ := h e w' hh
  exact hK _ _ ⟨fun _ => hS, hrest⟩

/-- One that only skips, where nothing else may come up. -/
theorem skipL {oi : Oper} (i : Nat) (d : Option Tmp) (w' : World) {n : Nat} {listed : Array Bool} {a : Act} {w : World}
    (hr : Region.ready md ops listed = [i]) (hi : ops[i]? = some oi) (hd : oi.dst = d) (hw : Region.wanted oi (yielded ops a.tmps) = true)
    (hrun : (execOp a.eval oi).run P w = .ok .skip w') (hS : S w')
    (h : AnyL P md ops Q S m n (listed.setIfInBounds i true) (a.put d undef) w') : AnyL P md ops Q S m (n + 1) listed a w := by
  subst hd
  refine ⟨fun h0 => absurd (hr ▸ h0) (by simp), fun j hj => ?_⟩
  obtain rfl : j = i := by rw [hr] at hj; simpa using hj
  refine wpOp_step hi (fun K hK => ?_)
  rw [if_pos hw]
  unfold Oper.wp
  rw [hrun]
  exact hK _ _ ⟨fun _ => hS, h⟩

/-- One that yields and may make memory, where nothing else may come up. -/
theorem valL {oi : Oper} (i : Nat) (d : Option Tmp) (v : Value) (w' : World) {n : Nat} {listed : Array Bool} {a : Act} {w : World}
    (hr : Region.ready md ops listed = [i]) (hi : ops[i]? = some oi) (hd : oi.dst = d) (hw : Region.wanted oi (yielded ops a.tmps) = true)
    (hrun : (execOp a.eval oi).run P w = .ok (.value v) w') (hS : S w')
    (h : AnyL P md ops Q S m n (listed.setIfInBounds i true) (a.put d v) w') : AnyL P md ops Q S m (n + 1) listed a w := by
  subst hd
  refine ⟨fun h0 => absurd (hr ▸ h0) (by simp), fun j hj => ?_⟩
  obtain rfl : j = i := by rw [hr] at hj; simpa using hj
  refine wpOp_step hi (fun K hK => ?_)
  rw [if_pos hw]
  unfold Oper.wp
  rw [hrun]
  exact hK _ _ ⟨fun _ => hS, h⟩

end

theorem run_store_row {o : Oper} {a : Act} (ty : TypeId) (x y : Operand) (ho : o.op = .store ty x y) (g : Nat) (hx : a.eval x = .pointer (some ⟨g, 0, none⟩)) (X : Array Value) (hy : a.eval y = .agg X) (t : TypeId) {cs : Array Value}
    (hi : (Tryz.prog.info? ty).map (·.size) = some X.size) (w : World) (h : Has w g t cs) (hs : cs.size = X.size) (h1 : X.all (·.oneCell') = true) : (execOp a.eval o).run Tryz.prog w = .ok .skip (w.setRow g X) := by
  unfold execOp
  simp only [ho, hx, hy, Sem.run_bind, h.store ty hi hs h1]
  rfl

theorem run_load_row {o : Oper} {a : Act} (ty : TypeId) (x : Operand) (ho : o.op = .load ty x) (g : Nat) (hx : a.eval x = .pointer (some ⟨g, 0, none⟩)) (X : Array Value) (t : TypeId) {n e : Nat}
    (hu : Tryz.prog.underlying ty = some (.array n e)) (hi : (Tryz.prog.info? ty).map (·.size) = some X.size) (w : World) (h : Has w g t X) : (execOp a.eval o).run Tryz.prog w = .ok (.value (.agg X)) w := by
  unfold execOp
  simp only [ho, hx, Sem.run_bind, Sem.run_pure, Result.andThen_ok, h.load ty hu hi]

/-- One that is guarded and not wanted. -/
theorem skipTo {P : Program} {ops : Array Oper} {Q : Exit → Act → World → Prop} {md : Region.Mode} {S : World → Prop} {oi : Oper} (i : Nat) (d : Option Tmp) {fuel : Nat} {listed : Array Bool} {a : Act} {w : World} (hi : ops[i]? = some oi) (hd : oi.dst = d)
    (hs : Region.noSelect ops = true) (hf : Region.free md ops listed i = true) (hr : (Region.ready md ops listed).contains i = true)
    (hQ : ∀ c a w, Q (.panic c) (a.put d undef) w → Q (.panic c) a w) (hw : Region.wanted oi (yielded ops a.tmps) = false) (hS : S w)
    (h : wpAnyH P md ops Q S fuel (listed.setIfInBounds i true) (a.put d undef) w) : wpAnyH P md ops Q S (fuel + 1) listed a w := by
  subst hd
  exact wpAnyH_take hi hs hf hr hQ (.inr ⟨hw, rfl⟩) hS h

theorem run_at_slice {o : Oper} {a : Act} (ty : TypeId) (x i : Operand) (ho : o.op = .indexAddr ty x i) (g off k n cap : Nat) (e : TypeId) (hx : a.eval x = .slice (some ⟨g, off, none⟩) n cap) (hi : a.eval i = .int .i64 (k : Nat))
    (hu : Tryz.prog.underlying ty = some (.slice e)) (hs : (Tryz.prog.info? e).map (·.size) = some 1) (hk : k < n) (w : World) : (execOp a.eval o).run Tryz.prog w = .ok (.value (.pointer (some ⟨g, off + k, none⟩))) w := by
  unfold execOp
  cases hq : Tryz.prog.info? e with
  | none => simp [hq] at hs
  | some inf =>
    have hz : inf.size = 1 := by simpa [hq] using hs
    simp only [ho, hx, hi]
    simp [Instr.indexAt, Instr.sureAddr, run_underlying hu, asIntOf, sizeOf, typeInfo, hq, hz, Addr.add_mid, go_sem]
    intro h
    omega

theorem run_len_of {o : Oper} {a : Act} (ty e : TypeId) (hu : Tryz.prog.underlying ty = some (.slice e)) (x : Operand) (ho : o.op = .call { callee := .builtin .len, args := #[x], argTypes := #[ty] }) (A : Option Addr) (L C : Nat) (hx : a.eval x = .slice A L C) (w : World) :
    (execOp a.eval o).run Tryz.prog w = .ok (.value (.int .i64 (L : Nat))) w := by
  have hr : (Builtin.len_ #[ty] o.type #[.slice A L C]).run Tryz.prog w = .ok (.int .i64 (L : Nat)) w := by
    simp [Builtin.len_, run_underlying hu, go_sem, goInt]
  unfold execOp
  simp [ho, resolve, invoke, builtin, hx, hr]

theorem run_less {o : Oper} {a : Act} (x y : Operand) (ho : o.op = .binOp .lss 3 x y 3) (p q : Nat) (hx : a.eval x = .int .i64 (p : Nat)) (hy : a.eval y = .int .i64 (q : Nat)) (c : Bool) (h : decide (p < q) = c) (w : World) : (execOp a.eval o).run Tryz.prog w = .ok (.value (.bool c)) w := by
  subst h
  have e : decide ((p : Int) < (q : Int)) = decide (p < q) := by simp
  unfold execOp
  simp only [ho, hx, hy]
  go_simp

theorem run_load_row1 {o : Oper} {a : Act} (x : Operand) (ho : o.op = .load 34 x) (p : Addr) (hx : a.eval x = .pointer (some p)) (v : Value) (w : World) (h : w.cell? p = some v) : (execOp a.eval o).run Tryz.prog w = .ok (.value v) w := by
  unfold execOp
  simp only [ho, hx]
  go_simp

end Go.Proofs.YtpckmllmjdafpaaGreatDoor

/- What kinds a byte is of. -/
namespace Go.Proofs.YtpckmllmjdafpaaGreatDoor
open Go.ChangeShapes Go.WideShapes Go.ChangeAt Go.RowKit
set_option linter.unusedVariables false

theorem ret_bool {a b : Bool} (h : a = b) : Ending.returned (.bool a) = .returned (.bool b) := by rw [h]

theorem u8_eq (c : UInt8) (k : Nat) (hk : k < 256) : (c == UInt8.ofNat k) = decide ((c.toNat : Int) = (k : Int)) := by
  rw [Bool.eq_iff_iff]
  simp only [beq_iff_eq, decide_eq_true_eq]
  constructor
  · rintro rfl; simp; omega
  · intro h
    apply UInt8.toNat_inj.1
    simp
    omega

theorem isBlk_eq (c : UInt8) : isBlk c = (decide ((c.toNat : Int) = 9) || decide ((c.toNat : Int) = 10) || decide ((c.toNat : Int) = 13) || decide ((c.toNat : Int) = 32)) := by
  have h1 := u8_eq c 9 (by decide)
  have h2 := u8_eq c 10 (by decide)
  have h3 := u8_eq c 13 (by decide)
  have h4 := u8_eq c 32 (by decide)
  unfold isBlk
  exact congr (congrArg or (congr (congrArg or (congr (congrArg or h1) h2)) h3)) h4

theorem isLin_eq (c : UInt8) : isLin c = !decide ((c.toNat : Int) = 10) := congrArg not (u8_eq c 10 (by decide))

theorem isFig_eq (c : UInt8) : isFig c = (decide (48 ≤ (c.toNat : Int)) && decide ((c.toNat : Int) ≤ 57)) := by
  unfold isFig; congr 1 <;> exact decide_eq_decide.2 (by omega)

theorem isSml_eq (c : UInt8) : isSml c = (decide (97 ≤ (c.toNat : Int)) && decide ((c.toNat : Int) ≤ 122)) := by
  unfold isSml; congr 1 <;> exact decide_eq_decide.2 (by omega)

theorem isLet_eq (c : UInt8) : isLet c = (isSml c || decide ((c.toNat : Int) = 95)) := by
  unfold isLet; exact congrArg (or (isSml c)) (u8_eq c 95 (by decide))

theorem isHxy_eq (c : UInt8) : isHxy c = (isFig c || (decide (97 ≤ (c.toNat : Int)) && decide ((c.toNat : Int) ≤ 102))) := by
  unfold isHxy; congr 2 <;> exact decide_eq_decide.2 (by omega)

/-- What a function of a byte answers. -/
def Tells (f : Nat) (p : UInt8 → Bool) : Prop := ∀ (c : UInt8) (w : World), Calls Tryz.prog f #[.int .u8 (c.toNat : Int)] w fun e w' => e = .returned (.bool (p c)) ∧ w' = w

theorem blank_tells : Tells 44 isBlk := by
  intro c w
  go_enter Tryz.func44, Tryz.ntmps44
  go_wp2
  all_goals
    go_ret
    refine ⟨ret_bool ?_, rfl⟩
    rw [isBlk_eq, Bool.eq_iff_iff]
    simp
    try omega

theorem line_tells : Tells 46 isLin := by
  intro c w
  go_enter Tryz.func46, Tryz.ntmps46
  go_wp2
  all_goals
    go_ret
    refine ⟨ret_bool ?_, rfl⟩
    rw [isLin_eq, Bool.eq_iff_iff]
    simp
    try omega

theorem figure_tells : Tells 49 isFig := by
  intro c w
  go_enter Tryz.func49, Tryz.ntmps49
  go_wp2
  all_goals
    go_ret
    refine ⟨ret_bool ?_, rfl⟩
    rw [isFig_eq, Bool.eq_iff_iff]
    simp
    try omega

theorem small_tells : Tells 47 isSml := by
  intro c w
  go_enter Tryz.func47, Tryz.ntmps47
  go_wp2
  all_goals
    go_ret
    refine ⟨ret_bool ?_, rfl⟩
    rw [isSml_eq, Bool.eq_iff_iff]
    simp
    try omega

theorem letter_tells : Tells 52 isLet := by
  intro c w
  rw [isLet_eq]
  have hs := small_tells c
  cases e : isSml c
  all_goals
    rw [e] at hs
    clear e
    go_enter Tryz.func52, Tryz.ntmps52
    go_wp2_with (go_at_call 47; refine (hs _).mono ?_; rintro e w' ⟨rfl, rfl⟩)
    all_goals
      go_ret
      refine ⟨ret_bool ?_, rfl⟩
      rw [Bool.eq_iff_iff]
      simp
      try omega

theorem word_tells : Tells 63 isWdy := by
  intro c w
  unfold isWdy
  have hs := letter_tells c
  have hf := figure_tells c
  generalize isFig c = b at hf ⊢
  cases e : isLet c
  all_goals
    rw [e] at hs
    clear e
    go_enter Tryz.func63, Tryz.ntmps63
    go_wp2_with (first
      | (go_at_call 52; refine (hs _).mono ?_; rintro e w' ⟨rfl, rfl⟩)
      | (go_at_call 49; refine (hf _).mono ?_; rintro e w' ⟨rfl, rfl⟩))
    all_goals
      go_ret
      exact ⟨ret_bool (by simp), rfl⟩

theorem hex_tells : Tells 65 isHxy := by
  intro c w
  rw [isHxy_eq]
  have hf := figure_tells c
  cases e : isFig c
  all_goals
    rw [e] at hf
    clear e
    go_enter Tryz.func65, Tryz.ntmps65
    go_wp2_with (go_at_call 49; refine (hf _).mono ?_; rintro e w' ⟨rfl, rfl⟩)
    all_goals
      go_ret
      refine ⟨ret_bool ?_, rfl⟩
      rw [Bool.eq_iff_iff]
      simp
      try omega
end Go.Proofs.YtpckmllmjdafpaaGreatDoor

/- Bytes of a kind are taken by a closure, that moves a place on. -/
namespace Go.Proofs.YtpckmllmjdafpaaGreatDoor
open Go.ChangeShapes Go.WideShapes Go.ChangeAt Go.RowKit
set_option linter.unusedVariables false

abbrev pt (p : Nat) : Value := .pointer (some ⟨p, 0, none⟩)

/-- A text as a string. -/
def bs (l : List UInt8) : ByteArray := ⟨l.toArray⟩

theorem bs_size (l : List UInt8) : (bs l).size = l.length := by simp [bs, ByteArray.size]

theorem bs_get (l : List UInt8) (k : Nat) (h : k < (bs l).size) : (bs l)[k]'h = l[k]'(by rw [bs_size] at h; exact h) := by simp [bs, ByteArray.getElem_eq_getElem_data]

theorem bs_extract (l : List UInt8) (a b : Nat) : (bs l).extract a b = bs ((l.drop a).take (b - a)) := ByteArray.extract_mk l a b

theorem bs_of (s : ByteArray) : bs s.data.toList = s := rfl

/-- The world w' is w, but for the number j at P. -/
structure Moved (w w' : World) (P j : Nat) : Prop where
  has : Has w' P 3 #[.int .i64 (j : Nat)]
  size : w'.heap.size = w.heap.size
  grown : w.grownBy w' (some P)

theorem Moved.other {w w' : World} {P j g t : Nat} {cs : Array Value} (h : Moved w w' P j) (hg : Has w g t cs) (hne : g ≠ P) : Has w' g t cs :=
  (h.grown.block g hg.lt (fun e => hne (by injection e))).trans hg

theorem Moved.below {w w' : World} {P j B : Nat} (h : Moved w w' P j) (hB : B ≤ P) (hw : B ≤ w.heap.size) : Below B w w' :=
  ⟨h.grown.os, h.grown.tape, h.grown.output, h.grown.size, fun k hk => h.grown.block k (by omega) (fun e => by injection e; omega)⟩

theorem Moved.refl {w : World} {P j : Nat} (h : Has w P 3 #[.int .i64 (j : Nat)]) : Moved w w P j := ⟨h, rfl, grownBy_refl _ _⟩

theorem Moved.drewN {w w' : World} {P j : Nat} (h : Moved w w' P j) (m : Nat) : Moved w (w'.drewN m) P j := ⟨h.has.drewN m, h.size, ⟨h.grown.os, h.grown.tape, h.grown.output, h.grown.size, h.grown.block⟩⟩

theorem Moved.set {w w' : World} {P j : Nat} (h : Moved w w' P j) (k : Nat) : Moved w (w'.setCell ⟨P, 0, none⟩ (.int .i64 (k : Nat))) P k := by
  have hh : w'.heap[P]? = some (.cells #[.int .i64 (j : Nat)] 3 (0, 0)) := h.has
  refine ⟨?_, ?_, ?_⟩
  · show (w'.setCell ⟨P, 0, none⟩ _).heap[P]? = _
    simp [World.setCell, Array.getElem?_modify, hh]
  · simp [World.setCell, h.size]
  · refine ⟨h.grown.os, h.grown.tape, h.grown.output, by simp [World.setCell, h.grown.size], fun g hg hne => ?_⟩
    rw [← h.grown.block g hg hne]
    exact Below.heap_setCell w' ⟨P, 0, none⟩ _ g (fun e => hne (by rw [e]))

theorem Moved.trans {w w' w'' : World} {P j k : Nat} (h : Moved w w' P j) (h' : Moved w' w'' P k) : Moved w w'' P k :=
  ⟨h'.has, h'.size.trans h.size, ⟨h'.grown.os.trans h.grown.os, h'.grown.tape.trans h.grown.tape, h'.grown.output.trans h.grown.output, by rw [h'.size, h.size]; exact Nat.le_refl _, fun g hg hne => (h'.grown.block g (by rw [h.size]; exact hg) hne).trans (h.grown.block g hg hne)⟩⟩

/-- What bytes of a kind that are taken leave. -/
def TookK (w : World) (P : Nat) (l : List UInt8) (i n : Nat) (e : Ending) (w' : World) : Prop := e = .returned (.string (bs ((l.drop i).take n))) ∧ Moved w w' P (i + n)

theorem cnt_at {p : UInt8 → Bool} {l : List UInt8} {i k : Nat} (hk : k ≤ cnt p (l.drop i)) (h : i + k < l.length) : k < cnt p (l.drop i) ↔ p (l[i + k]) = true := by
  induction k generalizing i with
  | zero =>
    rw [List.drop_eq_getElem_cons (by omega), cnt_cons]
    simp only [Nat.add_zero]
    split <;> simp_all
  | succ k ih =>
    rw [List.drop_eq_getElem_cons (by omega), cnt_cons] at hk ⊢
    split at hk
    · rename_i hp
      rw [if_pos hp]
      have := ih (i := i + 1) (by omega) (by omega)
      have e : l[i + (k + 1)] = l[i + 1 + k] := by congr 1; omega
      rw [e]
      constructor
      · intro hh; exact this.1 (by omega)
      · intro hh; have := this.2 hh; omega
    · omega

theorem cnt_end {p : UInt8 → Bool} {l : List UInt8} {i k : Nat} (hk : k ≤ cnt p (l.drop i)) (h : ¬ i + k < l.length) (hi : i ≤ l.length) : k = cnt p (l.drop i) := by
  have := cnt_le p (l.drop i)
  rw [List.length_drop] at this
  omega

theorem cnt_stop {p : UInt8 → Bool} {l : List UInt8} {i k : Nat} (hk : k ≤ cnt p (l.drop i)) (h : i + k < l.length) (hp : p (l[i + k]) = false) : k = cnt p (l.drop i) := by
  have := (cnt_at hk h)
  rw [hp] at this
  simp at this
  omega

theorem took_end {w wr : World} {P i k J n : Nat} {l : List UInt8} (hJ : J = i + k) (hn : k = n) (hm : Moved w wr P (i + k)) : TookK w P l i n (.returned (.string ((bs l).extract i J))) wr := by
  subst hJ hn
  refine ⟨?_, hm⟩
  rw [bs_extract, Nat.add_sub_cancel_left]

theorem took_step {w wr : World} {P i k J : Nat} (hJ : J = i + k) (hm : Moved w wr P (i + k)) : Moved w (wr.setCell ⟨P, 0, none⟩ (.int .i64 ((J : Int) + 1))) P (i + (k + 1)) := by
  have := hm.set (i + (k + 1))
  rw [show ((i + (k + 1) : Nat) : Int) = (J : Int) + 1 by omega] at this
  exact this

def atP (wr : World) (P : Nat) : Nat := match wr.cell? ⟨P, 0, none⟩ with | some (.int _ z) => z.toNat | _ => 0

theorem atP_eq {w wr : World} {P j : Nat} (hm : Moved w wr P j) : atP wr P = j := by
  have : wr.cell? ⟨P, 0, none⟩ = some (.int .i64 (j : Nat)) := hm.has.cell 0
  simp [atP, this]

theorem took_less {w wr : World} {P i k J : Nat} {l : List UInt8} (hJ : J = i + k) (hm : Moved w wr P (i + k)) (h : J ≤ 2000) (hlt : i + k < l.length) (hl : l.length ≤ 2000) : 2000 - atP (wr.setCell ⟨P, 0, none⟩ (.int .i64 ((J : Int) + 1))) P < 2000 - atP wr P := by
  rw [atP_eq hm, atP_eq (took_step hJ hm)]
  omega
end Go.Proofs.YtpckmllmjdafpaaGreatDoor

/- Bytes of one kind are taken. -/
namespace Go.Proofs.YtpckmllmjdafpaaGreatDoor
open Go.ChangeShapes Go.WideShapes Go.ChangeAt Go.RowKit
set_option linter.unusedVariables false

set_option maxRecDepth 100000 in
set_option maxHeartbeats 1000000 in
theorem take_blank {w : World} {P Q S i : Nat} (l : List UInt8) (hP : Has w P 3 #[.int .i64 (i : Nat)]) (hQ : Has w Q 75 #[pt P]) (hS : Has w S 9 #[.string (bs l)]) (hQP : Q ≠ P) (hSP : S ≠ P) (hi : i ≤ l.length) (hl : l.length ≤ 2000) :
    Calls Tryz.prog 61 #[.func (.func 44) #[] #[], pt Q, pt S] w (TookK w P l i (cnt isBlk (l.drop i))) := by
  have hsz := bs_size l
  have p0 : w.cell? ⟨P, 0, none⟩ = some (.int .i64 (i : Nat)) := hP.cell 0
  have q0 : w.cell? ⟨Q, 0, none⟩ = some (pt P) := hQ.cell 0
  have hi2 : i ≤ 2000 := by omega
  have HS : Hid ((bs l).size = l.length) := hsz
  clear hsz
  go_enter Tryz.func61, Tryz.ntmps61
  go_wp2
  go_loopw [] (fun wr => ∃ k : Nat, k ≤ cnt isBlk (l.drop i) ∧ i + k ≤ l.length ∧ Moved w wr P (i + k)) (fun wr => 2000 - atP wr P)
  case atStart => exact ⟨0, Nat.zero_le _, by omega, Moved.refl hP⟩
  case round =>
    obtain ⟨k, hk, hkl, hm⟩ := hrel
    have p1 : wr.cell? ⟨P, 0, none⟩ = some (.int .i64 ((i + k : Nat) : Int)) := hm.has.cell 0
    have q1 : wr.cell? ⟨Q, 0, none⟩ = some (pt P) := (hm.other hQ hQP).cell 0
    have s1 : wr.cell? ⟨S, 0, none⟩ = some (.string (bs l)) := (hm.other hS hSP).cell 0
    have f1 : wr.frozen? ⟨P, 0, none⟩ = false := hm.has.free 0
    obtain ⟨J, hJ⟩ : ∃ J, J = i + k := ⟨_, rfl⟩
    rw [← hJ] at p1
    have HJ : Hid (J = i + k) := hJ
    clear hJ p0 q0
    have hJ2 : J ≤ 2000 := by have := HJ.out; omega
    by_cases hlt : i + k < l.length
    · have h1 : J < (bs l).size := by rw [HS.out, HJ.out]; exact hlt
      have h2 : ((J : Nat) : Int) < ((bs l).size : Int) := by omega
      have hget : (bs l)[J]'h1 = l[i + k] := by rw [bs_get]; simp only [HJ.out]
      have ht := fun W => blank_tells ((bs l)[J]'h1) W
      cases hc : isBlk (l[i + k])
      · have hb : isBlk ((bs l)[J]'h1) = false := by rw [hget]; exact hc
        rw [hb] at ht
        have hn := cnt_stop hk hlt hc
        have HN : Hid (k = cnt isBlk (l.drop i)) := hn
        clear hn hb hget hc
        have b1 : ((i : Nat) : Int) ≤ ((J : Nat) : Int) := by have := HJ.out; omega
        have b2 : ((J : Nat) : Int) ≤ ((bs l).size : Int) := by omega
        go_wp2_with fail
        go_quiet ((go_at_call 44; exact Calls.quiet_of_same (ht _)))
        go_wp2
        go_quiet (fail)
        go_wp2
        go_ret
        exact took_end HJ.out HN.out ((hm.drewN _).drewN _)
      · have hb : isBlk ((bs l)[J]'h1) = true := by rw [hget]; exact hc
        rw [hb] at ht
        have hn := (cnt_at hk hlt).2 hc
        clear hb hget hc
        go_wp2_with fail
        go_quiet ((go_at_call 44; exact Calls.quiet_of_same (ht _)))
        go_wp2
        go_roundw
        case rel => exact ⟨k + 1, hn, by omega, took_step HJ.out (hm.drewN _)⟩
        case measure => exact took_less HJ.out (hm.drewN _) hJ2 hlt hl
    · have h1 : decide (J < (bs l).size) = false := by rw [decide_eq_false_iff_not, HS.out, HJ.out]; omega
      have h2 : decide (((J : Nat) : Int) < ((bs l).size : Int)) = false := by rw [decide_eq_false_iff_not, HS.out, HJ.out]; omega
      have hn := cnt_end hk hlt hi
      have HN : Hid (k = cnt isBlk (l.drop i)) := hn
      have b1 : ((i : Nat) : Int) ≤ ((J : Nat) : Int) := by have := HJ.out; omega
      have b2 : ((J : Nat) : Int) ≤ ((bs l).size : Int) := by rw [HS.out, HJ.out]; omega
      clear hn
      go_wp2_with fail
      go_quiet (fail)
      go_wp2
      go_quiet (fail)
      go_wp2
      go_ret
      exact took_end HJ.out HN.out ((hm.drewN _).drewN _)
end Go.Proofs.YtpckmllmjdafpaaGreatDoor

/- Bytes of one kind are taken. -/
namespace Go.Proofs.YtpckmllmjdafpaaGreatDoor
open Go.ChangeShapes Go.WideShapes Go.ChangeAt Go.RowKit
set_option linter.unusedVariables false

set_option maxRecDepth 100000 in
set_option maxHeartbeats 1000000 in
theorem take_line {w : World} {P Q S i : Nat} (l : List UInt8) (hP : Has w P 3 #[.int .i64 (i : Nat)]) (hQ : Has w Q 75 #[pt P]) (hS : Has w S 9 #[.string (bs l)]) (hQP : Q ≠ P) (hSP : S ≠ P) (hi : i ≤ l.length) (hl : l.length ≤ 2000) :
    Calls Tryz.prog 61 #[.func (.func 46) #[] #[], pt Q, pt S] w (TookK w P l i (cnt isLin (l.drop i))) := by
  have hsz := bs_size l
  have p0 : w.cell? ⟨P, 0, none⟩ = some (.int .i64 (i : Nat)) := hP.cell 0
  have q0 : w.cell? ⟨Q, 0, none⟩ = some (pt P) := hQ.cell 0
  have hi2 : i ≤ 2000 := by omega
  have HS : Hid ((bs l).size = l.length) := hsz
  clear hsz
  go_enter Tryz.func61, Tryz.ntmps61
  go_wp2
  go_loopw [] (fun wr => ∃ k : Nat, k ≤ cnt isLin (l.drop i) ∧ i + k ≤ l.length ∧ Moved w wr P (i + k)) (fun wr => 2000 - atP wr P)
  case atStart => exact ⟨0, Nat.zero_le _, by omega, Moved.refl hP⟩
  case round =>
    obtain ⟨k, hk, hkl, hm⟩ := hrel
    have p1 : wr.cell? ⟨P, 0, none⟩ = some (.int .i64 ((i + k : Nat) : Int)) := hm.has.cell 0
    have q1 : wr.cell? ⟨Q, 0, none⟩ = some (pt P) := (hm.other hQ hQP).cell 0
    have s1 : wr.cell? ⟨S, 0, none⟩ = some (.string (bs l)) := (hm.other hS hSP).cell 0
    have f1 : wr.frozen? ⟨P, 0, none⟩ = false := hm.has.free 0
    obtain ⟨J, hJ⟩ : ∃ J, J = i + k := ⟨_, rfl⟩
    rw [← hJ] at p1
    have HJ : Hid (J = i + k) := hJ
    clear hJ p0 q0
    have hJ2 : J ≤ 2000 := by have := HJ.out; omega
    by_cases hlt : i + k < l.length
    · have h1 : J < (bs l).size := by rw [HS.out, HJ.out]; exact hlt
      have h2 : ((J : Nat) : Int) < ((bs l).size : Int) := by omega
      have hget : (bs l)[J]'h1 = l[i + k] := by rw [bs_get]; simp only [HJ.out]
      have ht := fun W => line_tells ((bs l)[J]'h1) W
      cases hc : isLin (l[i + k])
      · have hb : isLin ((bs l)[J]'h1) = false := by rw [hget]; exact hc
        rw [hb] at ht
        have hn := cnt_stop hk hlt hc
        have HN : Hid (k = cnt isLin (l.drop i)) := hn
        clear hn hb hget hc
        have b1 : ((i : Nat) : Int) ≤ ((J : Nat) : Int) := by have := HJ.out; omega
        have b2 : ((J : Nat) : Int) ≤ ((bs l).size : Int) := by omega
        go_wp2_with fail
        go_quiet ((go_at_call 46; exact Calls.quiet_of_same (ht _)))
        go_wp2
        go_quiet (fail)
        go_wp2
        go_ret
        exact took_end HJ.out HN.out ((hm.drewN _).drewN _)
      · have hb : isLin ((bs l)[J]'h1) = true := by rw [hget]; exact hc
        rw [hb] at ht
        have hn := (cnt_at hk hlt).2 hc
        clear hb hget hc
        go_wp2_with fail
        go_quiet ((go_at_call 46; exact Calls.quiet_of_same (ht _)))
        go_wp2
        go_roundw
        case rel => exact ⟨k + 1, hn, by omega, took_step HJ.out (hm.drewN _)⟩
        case measure => exact took_less HJ.out (hm.drewN _) hJ2 hlt hl
    · have h1 : decide (J < (bs l).size) = false := by rw [decide_eq_false_iff_not, HS.out, HJ.out]; omega
      have h2 : decide (((J : Nat) : Int) < ((bs l).size : Int)) = false := by rw [decide_eq_false_iff_not, HS.out, HJ.out]; omega
      have hn := cnt_end hk hlt hi
      have HN : Hid (k = cnt isLin (l.drop i)) := hn
      have b1 : ((i : Nat) : Int) ≤ ((J : Nat) : Int) := by have := HJ.out; omega
      have b2 : ((J : Nat) : Int) ≤ ((bs l).size : Int) := by rw [HS.out, HJ.out]; omega
      clear hn
      go_wp2_with fail
      go_quiet (fail)
      go_wp2
      go_quiet (fail)
      go_wp2
      go_ret
      exact took_end HJ.out HN.out ((hm.drewN _).drewN _)
end Go.Proofs.YtpckmllmjdafpaaGreatDoor

/- Blanks and notes, kind by kind. -/
namespace Go.Proofs.YtpckmllmjdafpaaGreatDoor
set_option linter.unusedVariables false

def isNote (x : List UInt8) : Bool := x.take 2 == [47, 47]

theorem skp_blank (x : List UInt8) : skp false x = cnt isBlk x + skp false (x.drop (cnt isBlk x)) := by
  induction x with
  | nil => rfl
  | cons c t ih =>
    rw [cnt_cons]
    by_cases h : isBlk c = true
    · rw [if_pos h, List.drop_succ_cons]
      simp only [skp, if_pos h]
      omega
    · rw [if_neg h]
      simp

theorem skp_line (x : List UInt8) : skp true x = cnt isLin x + skp false (x.drop (cnt isLin x)) := by
  induction x with
  | nil => rfl
  | cons c t ih =>
    rw [cnt_cons]
    by_cases h : isLin c = true
    · have hc : (c == 10) = false := by simpa [isLin] using h
      rw [if_pos h, List.drop_succ_cons]
      simp only [skp, hc]
      simp
      omega
    · have hc : (c == 10) = true := by simpa [isLin] using h
      have hc' := eq_of_beq hc
      subst hc'
      simp [skp, isLin, isBlk]

theorem cnt_drop (p : UInt8 → Bool) (x : List UInt8) : cnt p (x.drop (cnt p x)) = 0 := by
  induction x with
  | nil => rfl
  | cons c t ih =>
    rw [cnt_cons]
    by_cases h : p c = true
    · rw [if_pos h, List.drop_succ_cons]; exact ih
    · rw [if_neg h, List.drop_zero, cnt_cons, if_neg h]

theorem note_of {x : List UInt8} (h : isNote x = true) : ∃ t, x = 47 :: 47 :: t := by
  match x, h with
  | [], h => cases h
  | [a], h => simp [isNote] at h
  | a :: b :: t, h => simp [isNote] at h; exact ⟨t, by rw [h.1, h.2]⟩

theorem skp_isNote {x : List UInt8} (h : isNote x = true) : skp false x = cnt isLin x + skp false (x.drop (cnt isLin x)) ∧ 2 ≤ cnt isLin x := by
  obtain ⟨t, rfl⟩ := note_of h
  constructor
  · rw [← skp_line]
    simp [skp, isBlk]
  · rw [cnt_cons, cnt_cons]
    simp [isLin]

theorem skp_zero {x : List UInt8} (h : cnt isBlk x = 0) (hn : isNote x = false) : skp false x = 0 := by
  match x, h, hn with
  | [], _, _ => rfl
  | c :: t, h, hn =>
    have hb : isBlk c = false := by
      rw [cnt_cons] at h
      cases e : isBlk c
      · rfl
      · rw [e] at h; simp at h
    simp only [skp, hb]
    have : (c == 47 && t.head? == some 47) = false := by
      cases t with
      | nil => simp
      | cons d u =>
        simp [isNote] at hn
        simp
        exact hn
    simp [this]
end Go.Proofs.YtpckmllmjdafpaaGreatDoor

/- Blanks and notes are passed over. -/
namespace Go.Proofs.YtpckmllmjdafpaaGreatDoor
open Go.ChangeShapes Go.WideShapes Go.ChangeAt Go.RowKit
set_option linter.unusedVariables false

/-- Only where the call's i-th argument is v. -/
theorem at_argL {f : FuncId} {args : Array Value} {w : World} {R : Ending → World → Prop} (i : Nat) (v : Value) (h : args[i]? = some v) (k : Calls Tryz.prog f args w R) : Calls Tryz.prog f args w R := k

theorem hmf (fn : Fn) (first cap : Array Value) (w : World) : (Instr.makeFunc fn first cap).run Tryz.prog w = .ok (.func fn first cap) w := rfl

theorem taking_c (w : World) (s : ByteArray) (P : Nat) : Calls Tryz.prog 43 #[.string s, pt P] w fun e w' => e = .returned (.func (.func 61) #[] #[pt (w.heap.size + 1), pt w.heap.size]) ∧ w' = (w.alloc (.cells #[.string s] 9)).alloc (.cells #[pt P] 75) := by
  have h0 := hmf
  go_enter Tryz.func43, Tryz.ntmps43
  go_wp2
  go_ret
  exact ⟨rfl, rfl⟩

theorem bs_toList (x : List UInt8) : (bs x).toList = x := ByteArray.toList_mk x

theorem hasPrefix_lite (x : List UInt8) (w : World) (hx : x.length ≤ 2000) : Calls Tryz.prog 62 #[.string (bs x), .string ⟨#[47, 47]⟩] w fun e w' => e = .returned (.bool (isNote x)) ∧ w' = w := by
  have hs := bs_size x
  by_cases h2 : 2 ≤ x.length
  · have h3 : (2 : Int) ≤ ((bs x).size : Int) := by omega
    have HS : Hid ((bs x).size = x.length) := hs
    clear hs
    go_enter Tryz.func62, Tryz.ntmps62
    go_wp2
    go_ret
    refine ⟨ret_bool ?_, rfl⟩
    rw [bs_extract, bs_toList]
    rfl
  · have h3 : ¬ (2 : Int) ≤ ((bs x).size : Int) := by omega
    have HS : Hid ((bs x).size = x.length) := hs
    clear hs
    go_enter Tryz.func62, Tryz.ntmps62
    go_wp2
    go_ret
    refine ⟨ret_bool ?_, rfl⟩
    unfold isNote
    rw [List.take_of_length_le (by omega)]
    cases e : (x == [47, 47])
    · rfl
    · rw [eq_of_beq e] at h2; simp at h2

theorem hasPrefix_c (x : List UInt8) (w : World) (hx : x.length ≤ 2000) : Calls Tryz.prog 45 #[.string (bs x), .string ⟨#[47, 47]⟩] w fun e w' => e = .returned (.bool (isNote x)) ∧ w' = w := by
  go_enter Tryz.func45, Tryz.ntmps45
  go_wp2_with (go_at_call 62; refine (hasPrefix_lite _ _ hx).mono ?_; rintro e w' ⟨rfl, rfl⟩)
  go_ret
  exact ⟨rfl, rfl⟩

/-- What passed knows of its closure: the place at P, the text at S, P's address at Q. -/
structure Clo (w0 w : World) (P Q S j : Nat) (l : List UInt8) : Prop where
  at_ : Has w P 3 #[.int .i64 (j : Nat)]
  q : Has w Q 75 #[pt P]
  s : Has w S 9 #[.string (bs l)]
  qp : Q ≠ P
  sp : S ≠ P
  le : j ≤ l.length
  below : Below w0.heap.size w0 w
  old : w0.heap.size ≤ P

theorem Clo.moved {w0 w w' : World} {P Q S j k : Nat} {l : List UInt8} (h : Clo w0 w P Q S j l) (hm : Moved w w' P k) (hk : k ≤ l.length) : Clo w0 w' P Q S k l :=
  ⟨hm.has, hm.other h.q h.qp, hm.other h.s h.sp, h.qp, h.sp, hk, h.below.trans (hm.below h.old (by have := h.below.size; omega)), h.old⟩

theorem Clo.atP {w0 w : World} {P Q S j : Nat} {l : List UInt8} (h : Clo w0 w P Q S j l) : atP w P = j := atP_eq (Moved.refl h.at_)

theorem drop_le {l : List UInt8} {p : UInt8 → Bool} {j : Nat} (h : j ≤ l.length) : j + cnt p (l.drop j) ≤ l.length := by
  have := cnt_le p (l.drop j)
  rw [List.length_drop] at this
  omega

theorem bs_tail (l : List UInt8) (j : Nat) : (bs l).extract j (bs l).size = bs (l.drop j) := by
  rw [bs_extract, bs_size, List.take_of_length_le (by rw [List.length_drop]; omega)]

/-- Where passed stands: j, behind which no blank comes. -/
def PassAt (w wr : World) (P Q S i j : Nat) (l : List UInt8) : Prop := Clo w wr P Q S j l ∧ i ≤ j ∧ i + skp false (l.drop i) = j + skp false (l.drop j) ∧ cnt isBlk (l.drop j) = 0

theorem PassAt.first {w W0 wr : World} {P Q S i : Nat} {l : List UInt8} (h : Clo w W0 P Q S i l) (hm : Moved W0 wr P (i + cnt isBlk (l.drop i))) : PassAt w wr P Q S i (i + cnt isBlk (l.drop i)) l := by
  refine ⟨h.moved hm (drop_le h.le), by omega, ?_, ?_⟩
  · have := skp_blank (l.drop i)
    rw [List.drop_drop] at this
    omega
  · rw [← List.drop_drop]
    exact cnt_drop _ _

theorem PassAt.next {w wr w1 w2 : World} {P Q S i j : Nat} {l : List UInt8} (h : PassAt w wr P Q S i j l) (hn : isNote (l.drop j) = true) (hm : Moved wr w1 P (j + cnt isLin (l.drop j)))
    (hm2 : Moved w1 w2 P (j + cnt isLin (l.drop j) + cnt isBlk (l.drop (j + cnt isLin (l.drop j))))) : PassAt w w2 P Q S i (j + cnt isLin (l.drop j) + cnt isBlk (l.drop (j + cnt isLin (l.drop j)))) l := by
  obtain ⟨hC, h1, h2, h3⟩ := h
  have hle := drop_le (p := isLin) hC.le
  refine ⟨(hC.moved hm hle).moved hm2 (drop_le hle), by omega, ?_, ?_⟩
  · have e1 := (skp_isNote hn).1
    have e2 := skp_blank (l.drop (j + cnt isLin (l.drop j)))
    rw [List.drop_drop] at e1 e2
    omega
  · rw [← List.drop_drop]
    exact cnt_drop _ _

set_option maxRecDepth 100000 in
set_option maxHeartbeats 1000000 in
theorem passed_c (w : World) (l : List UInt8) (i : Nat) (hi : i ≤ l.length) (hl : l.length ≤ 2000) : Calls Tryz.prog 30 #[.string (bs l), .int .i64 (i : Nat)] w fun e w' => e = .returned (.int .i64 ((i + skp false (l.drop i) : Nat) : Int)) ∧ Below w.heap.size w w' := by
  have hsz := bs_size l
  have HS : Hid ((bs l).size = l.length) := hsz
  clear hsz
  have hC : Clo w (((w.alloc (.cells #[.int .i64 (i : Nat)] 3)).alloc (.cells #[.string (bs l)] 9)).alloc (.cells #[pt w.heap.size] 75)) w.heap.size (w.heap.size + 1 + 1) (w.heap.size + 1) i l :=
    ⟨((Has.new _ _ _).alloc _).alloc _, Has.new_at (by simp), (Has.new_at (by simp)).alloc _, by omega, by omega, hi, (((Below.refl _ _).alloc (Nat.le_refl _) _).alloc (by simp) _).alloc (by simp; omega) _, Nat.le_refl _⟩
  have ht := take_blank l hC.at_ hC.q hC.s hC.qp hC.sp hC.le hl
  go_enter Tryz.func30, Tryz.ntmps30
  go_wp2_with (first
    | (go_at_call 43; refine (taking_c _ _ _).mono ?_; rintro e w' ⟨rfl, rfl⟩)
    | (go_at_call 61; refine ht.mono ?_; rintro e w1 ⟨rfl, hm⟩))
  have hA := PassAt.first hC hm
  clear hm hC ht
  go_loopw [] (fun wr => ∃ j, PassAt w wr w.heap.size (w.heap.size + 1 + 1) (w.heap.size + 1) i j l) (fun wr => 2000 - atP wr w.heap.size)
  case atStart => exact ⟨_, hA⟩
  case round =>
    clear hA
    obtain ⟨j, hA⟩ := hrel
    have hC := hA.1
    have p1 : wr.cell? ⟨w.heap.size, 0, none⟩ = some (.int .i64 (j : Nat)) := hC.at_.cell 0
    have hj2 : j ≤ 2000 := by have := hC.le; omega
    have b2 : ((j : Nat) : Int) ≤ ((bs l).size : Int) := by rw [HS.out]; have := hC.le; omega
    have hp := fun W => hasPrefix_c (l.drop j) W (by rw [List.length_drop]; omega)
    rw [← bs_tail] at hp
    cases hn : isNote (l.drop j)
    · rw [hn] at hp
      have hz := skp_zero hA.2.2.2 hn
      have HE : Hid (i + skp false (l.drop i) = j) := by have := hA.2.2.1; rw [hz] at this; exact this
      have hB := hC.below
      clear hz hn hA hC
      go_wp2_with (go_at_call 45; refine (hp _).mono ?_; rintro e w' ⟨rfl, rfl⟩)
      go_ret
      exact ⟨by rw [HE.out]; rfl, hB⟩
    · rw [hn] at hp
      have hn2 := (skp_isNote hn).2
      have ht1 := take_line l hC.at_ hC.q hC.s hC.qp hC.sp hC.le hl
      obtain ⟨J, hJ⟩ : ∃ J, J = j + cnt isLin (l.drop j) := ⟨_, rfl⟩
      have HJ : Hid (J = j + cnt isLin (l.drop j)) := hJ
      clear hJ
      have HN : Hid (isNote (l.drop j) = true) := hn
      clear hn
      go_wp2_with (first
        | (go_at_call 45; refine (hp _).mono ?_; rintro e w' ⟨rfl, rfl⟩)
        | (go_at_call 61
           refine at_argL 0 (.func (.func 46) #[] #[]) rfl ?_
           refine ht1.mono ?_
           rintro e w1 ⟨rfl, hm1⟩)
        | (go_at_call 61
           refine at_argL 0 (.func (.func 44) #[] #[]) rfl ?_
           have hle := drop_le (p := isLin) hC.le
           have hC1 := hC.moved hm1 hle
           refine (take_blank l hC1.at_ hC1.q hC1.s hC1.qp hC1.sp hC1.le hl).mono ?_
           rintro e w2 ⟨rfl, hm2⟩))
      go_roundw
      case rel => exact ⟨_, hA.next HN.out hm1 hm2⟩
      case measure =>
        rw [hC.atP, atP_eq hm2]
        have := drop_le (p := isBlk) (drop_le (p := isLin) hC.le)
        omega
end Go.Proofs.YtpckmllmjdafpaaGreatDoor

/- Figures as a number. -/
namespace Go.Proofs.YtpckmllmjdafpaaGreatDoor
open Go.ChangeShapes Go.WideShapes Go.ChangeAt Go.RowKit
set_option linter.unusedVariables false

theorem bytes_of (w : World) (x : List UInt8) : ∃ W1 cap, (convert 9 34 (.string (bs x))).run Tryz.prog w = .ok (.slice (some ⟨w.heap.size, 0, none⟩) (bs x).size cap) W1 ∧ (∀ j (hj : j < x.length), W1.cell? ⟨w.heap.size, j, none⟩ = some (.int .u8 (x[j].toNat : Int))) ∧ Below w.heap.size w W1 := by
  refine ⟨_, _, run_bytes_of_string w 9 34 5 (bs x) Tryz.underlying9 Tryz.underlying34 Tryz.underlying5, ?_, ?_⟩
  · intro j hj
    have hh := heap_alloc_new w.drew (.cells (bytesRow (bs x) (grownCap w (bs x).size 0 5)) 5 ((bytesRow (bs x) (grownCap w (bs x).size 0 5)).size, (bytesRow (bs x) (grownCap w (bs x).size 0 5)).size + 1))
    refine (cell_of_row _ _ _ _ _ _ hh).trans ?_
    unfold bytesRow
    rw [Array.getElem?_append_left (by simp [bs]; exact hj)]
    simp [bs, hj]
  · exact ((⟨rfl, rfl, rfl, Nat.le_refl _, fun _ _ => rfl⟩ : Below w.heap.size w w.drew)).alloc (Nat.le_refl _) _

theorem val_take (x : List UInt8) (k : Nat) (h : k < x.length) : val (x.take (k + 1)) = 10 * val (x.take k) + (x[k].toNat - 48) := by
  rw [List.take_succ_eq_append_getElem h, val_snoc]

set_option maxRecDepth 100000 in
set_option maxHeartbeats 1000000 in
theorem atoi_in (x : List UInt8) (w : World) (h0 : x ≠ []) (h9 : x.length ≤ 9) (hf : ∀ c ∈ x, isFig c = true) :
    Calls Tryz.prog 81 #[.string (bs x)] w fun e w' => e = .returned (.tuple #[.int .i64 (val x : Nat), .nilIface]) ∧ Below w.heap.size w w' := by
  have hsz := bs_size x
  have hpos : 0 < x.length := List.length_pos_iff.2 h0
  obtain ⟨W1, cap, hconv, hcell, hbel⟩ := bytes_of w x
  have hfig : ∀ j (hj : j < x.length), 48 ≤ ((x[j].toNat : Nat) : Int) ∧ ((x[j].toNat : Nat) : Int) ≤ 57 := by
    intro j hj
    have := hf x[j] (List.getElem_mem hj)
    simp [isFig] at this
    omega
  have hx0 : (0 : Nat) < (bs x).size := by omega
  have hg0 : (bs x)[0]'hx0 = x[0] := bs_get x 0 hx0
  have hf0 : 48 ≤ ((((bs x)[0]'hx0).toNat : Nat) : Int) ∧ ((((bs x)[0]'hx0).toNat : Nat) : Int) ≤ 57 := by rw [hg0]; exact hfig 0 hpos
  have z1 : (((((bs x)[0]'hx0).toNat : Nat) : Int) == 45) = false := by simp; omega
  have z2 : (((((bs x)[0]'hx0).toNat : Nat) : Int) == 43) = false := by simp; omega
  have z5 : ¬ ((((bs x)[0]'hx0).toNat : Nat) : Int) = 45 := by omega
  have z3 : (0 : Int) < ((bs x).size : Int) := by omega
  have z4 : ((bs x).size : Int) < 19 := by omega
  have HS : Hid ((bs x).size = x.length) := hsz
  clear hsz hg0 hf0
  go_enter Tryz.func81, Tryz.ntmps81
  go_wp2
  go_loop [6, 49] (fun n i => ∃ k : Nat, k ≤ x.length ∧ i = .int .i64 (k : Nat) ∧ n = .int .i64 (val (x.take k) : Nat)) (fun _ i => x.length - (intOf i).toNat)
  case atStart => exact ⟨0, Nat.zero_le _, rfl, rfl⟩
  case round =>
    obtain ⟨k, hk, rfl, rfl⟩ := hrel
    have hvb : val (x.take k) < 1000000000 := by
      have h1 := val_bound (x.take k) (fun c hc => hf c (List.mem_of_mem_take hc))
      have h2 : 10 ^ (x.take k).length ≤ 10 ^ 9 := Nat.pow_le_pow_right (by decide) (by rw [List.length_take]; omega)
      exact Nat.lt_of_lt_of_le h1 h2
    obtain ⟨V, hV⟩ : ∃ V, V = val (x.take k) := ⟨_, rfl⟩
    rw [← hV] at hvb ⊢
    by_cases hlt : k < x.length
    · have hc := hcell k hlt
      have hfk := hfig k hlt
      have hvt := val_take x k hlt
      rw [← hV] at hvt
      have e1 : ((x[k].toNat - 48 : Nat) : Int) = (x[k].toNat : Int) - 48 := by omega
      have HV : Hid (((val (x.take (k + 1)) : Nat) : Int) = 10 * (V : Int) + ((x[k].toNat : Int) - 48)) := by show ((val (x.take (k + 1)) : Nat) : Int) = _; rw [hvt]; omega
      have hlt2 : ((k : Nat) : Int) < ((bs x).size : Int) := by rw [HS.out]; omega
      clear hvt e1 hV
      generalize ((x[k].toNat : Nat) : Int) = z at hc hfk HV
      obtain ⟨g1, g2⟩ := hfk
      clear hcell hfig hconv
      go_wp2
      go_round
      case rel => exact ⟨k + 1, by omega, by go_num, by rw [HV.out]; go_num⟩
      case measure => simp [intOf]; omega
    · have hlt2 : ¬ ((k : Nat) : Int) < ((bs x).size : Int) := by rw [HS.out]; omega
      have hfull : x.take k = x := List.take_of_length_le (by omega)
      rw [hfull] at hV
      have HV : Hid (V = val x) := hV
      clear hfull hV hcell hfig hconv
      go_wp2
      go_ret2
      exact ⟨by rw [HV.out]; rfl, hbel⟩

set_option maxRecDepth 100000 in
theorem atoi_c (x : List UInt8) (w : World) (h0 : x ≠ []) (h9 : x.length ≤ 9) (hf : ∀ c ∈ x, isFig c = true) :
    Calls Tryz.prog 64 #[.string (bs x)] w fun e w' => e = .returned (.tuple #[.int .i64 (val x : Nat), .nilIface]) ∧ Below w.heap.size w w' := by
  have ha := atoi_in x w h0 h9 hf
  go_enter Tryz.func64, Tryz.ntmps64
  go_wp2_with (go_at_call 81; refine ha.mono ?_; rintro e w' ⟨rfl, hb⟩)
  go_ret2
  exact ⟨rfl, hb⟩
end Go.Proofs.YtpckmllmjdafpaaGreatDoor
