/- Texts that the statements of this stage share, joined: JrRead, JnFirst, BasChain, JnNext, JnStd, JnHeld, JnRow. -/
import Derived.Test.YtoiaclmfljoomaaDoorJoint06
import Derived.Test.YtoiaclmfljoomaaDoorJoint00

/- The reference's Read. -/
namespace Go.Proofs.YtoiaclmfljoomaaDoor
open Go.ChangeShapes Go.WideShapes Go.ChangeAt Go.RowKit
set_option linter.unusedVariables false

theorem run_sl_both {o : Oper} {a : Act} (x l h : Operand) (ho : o.op = .slice 33 x (some l) (some h) none) (b off L cap p q : Nat) (hx : a.eval x = .slice (some ⟨b, off, none⟩) L cap) (hl : a.eval l = .int .i64 (p : Nat)) (hh : a.eval h = .int .i64 (q : Nat)) (h1 : p ≤ q) (h2 : q ≤ cap) (w : World) :
    (execOp a.eval o).run Tryd.prog w = .ok (.value (.slice (some (if cap = p then ⟨b, off, none⟩ else ⟨b, off + p, none⟩)) (q - p) (cap - p))) w := by
  unfold execOp
  simp only [ho, hx, hl, hh, Option.map_some, Option.map_none]
  simp [Instr.sliceAt, Instr.slice, Instr.sliceBounds, Instr.sliceBound, run_underlying Tryd.underlying33, go_sem, asIntOf, h1, h2]
  split <;> rfl

theorem run_slice_j {o : Oper} {a : Act} (x l h : Operand) (ho : o.op = .slice 33 x (some l) (some h) none) (b off L cap p s : Nat) (hx : a.eval x = .slice (some ⟨b, off, none⟩) L cap) (hl : a.eval l = .int .i64 (p : Nat)) (hh : a.eval h = .int .i64 ((p + s : Nat) : Int)) (h1 : p < cap) (h2 : p + s ≤ cap) (w : World) :
    (execOp a.eval o).run Tryd.prog w = .ok (.value (.slice (some ⟨b, off + p, none⟩) s (cap - p))) w := by
  have h5 := run_sl_both x l h ho b off L cap p (p + s) hx hl hh (by omega) h2 w
  rwa [show p + s - p = s by omega, if_neg (by omega)] at h5

theorem wpList_copyJ {ops : Array Oper} {rest : List Oper} {o : Oper} {a : Act} {Q : Exit → Act → World → Prop} (wr : World) (t : TypeId) (Z X : Array Value) (hgd : o.guard = none) (x y : Operand) (ho : o.op = .store t x y)
    (hx : a.eval x = .pointer (some ⟨wr.heap.size, 0, none⟩)) (hy : a.eval y = .agg X) (hi : (Tryd.prog.info? t).map (·.size) = some X.size) (hs : Z.size = X.size) (h1 : X.all (·.oneCell') = true)
    (h : ∀ w2, Has w2 wr.heap.size t X → Below wr.heap.size wr w2 → wpList Tryd.prog ops Q rest (a.put o.dst undef) w2) : wpList Tryd.prog ops Q (o :: rest) a (wr.alloc (.cells Z t)) := by
  have hZ : Has (wr.alloc (.cells Z t)) wr.heap.size t Z := Has.new_at rfl
  refine wpList_store_rowG hgd t x y ho wr.heap.size X hx hy t Z hZ hi hs h1 ?_
  intro w2 hw2
  refine h w2 ?_ ?_
  · rw [hw2]
    exact hZ.setRow _
  · rw [hw2]
    exact below_setRow ((Below.refl _ _).alloc (Nat.le_refl _) _) (Nat.le_refl _) _

theorem at_stJ {ops : Array Oper} {rest : List Oper} {o : Oper} {a : Act} {w : World} {Q : Exit → Act → World → Prop} (t : TypeId) (x y : Operand) (h : o.op = .store t x y) (k : wpList Tryd.prog ops Q (o :: rest) a w) : wpList Tryd.prog ops Q (o :: rest) a w := k

theorem by_lessJ {w : World} {a : Option Addr} {L L' : Nat} {b : Nat → Nat} (h : Bytes w a L b) (hL : L' ≤ L) : Bytes w a L' b := by
  rcases h with h0 | ⟨x, o, e, hx, hc⟩
  · exact .inl (by omega)
  · exact .inr ⟨x, o, e, hx, fun j hj => hc j (by omega)⟩

/-- One that is guarded and not wanted is taken first. -/
theorem takeU {P : Program} {ops : Array Oper} {Q : Exit → Act → World → Prop} {md : Region.Mode} {S : World → Prop} {m : Nat} {oi : Oper} (i : Nat) (d : Option Tmp) {n : Nat} {listed : Array Bool} {a : Act} {w : World} (hi : ops[i]? = some oi) (hd : oi.dst = d) (him : i ≠ m) (hwf : waitsFor md ops m i = true)
    (hs : Region.noSelect ops = true) (hf : Region.free md ops listed i = true) (hr : (Region.ready md ops listed).contains i = true)
    (hQ : ∀ c a w, Q (.panic c) (a.put d undef) w → Q (.panic c) a w) (hw : Region.wanted oi (yielded ops a.tmps) = false) (hS : S w)
    (h : AnyL P md ops Q S m n (listed.setIfInBounds i true) (a.put d undef) w) : AnyL P md ops Q S m (n + 1) listed a w := by
  subst hd
  exact AnyL.front hi him hwf (Region.noSelect_spec hs) hQ n listed a w (Region.free_spec hi hf) (by simpa using hr) (.inr ⟨hw, rfl⟩) hS h

/-- The last one of a region, where it yields. -/
theorem lastValJ {P : Program} {ops : Array Oper} {Q : Exit → Act → World → Prop} {md : Region.Mode} {S : World → Prop} {oi : Oper} (m : Nat) (d : Option Tmp) (v : Value) {n : Nat} {listed : Array Bool} {a : Act} {w : World} (hr : Region.ready md ops listed = [m])
    (hi : ops[m]? = some oi) (hd : oi.dst = d) (hw : Region.wanted oi (yielded ops a.tmps) = true)
    (hrun : (execOp a.eval oi).run P w = .ok (.value v) w) (he : Region.ready md ops (listed.setIfInBounds m true) = [])
    (h : Q .normal (a.put d v) w) : AnyL P md ops Q S m (n + 1) listed a w := by
  subst hd
  refine ⟨fun h0 => absurd (hr ▸ h0) (by simp), fun j hj => ?_⟩
  obtain rfl : j = m := by rw [hr] at hj; simpa using hj
  refine wpOp_step hi (fun K hK => ?_)
  rw [if_pos hw]
  unfold Oper.wp
  rw [hrun]
  refine hK _ _ ⟨fun h => absurd rfl h, ?_⟩
  cases n with
  | zero => exact ⟨he, h⟩
  | succ n => exact ⟨fun _ => h, by rw [he]; simp⟩

theorem run_convJ {o : Oper} {a : Act} (x : Operand) (ho : o.op = .convert 33 9 x) (v : Value) (hx : a.eval x = v) (w : World) (u : Value) (hr : (convert 33 9 v).run Tryd.prog w = .ok u w) : (execOp a.eval o).run Tryd.prog w = .ok (.value u) w := by
  unfold execOp
  simp [ho, hx, hr]

theorem run_addJ {o : Oper} {a : Act} (x : Operand) {m : Int} (ho : o.op = .binOp .add 3 x (.const (.int .i64 m)) 3) (p q : Nat) (hx : a.eval x = .int .i64 (p : Nat)) (h : m = (q : Int) ∧ p + q ≤ 9223372036854775807) (w : World) : (execOp a.eval o).run Tryd.prog w = .ok (.value (.int .i64 ((p + q : Nat) : Int))) w := by
  obtain ⟨rfl, h⟩ := h
  have h1 : (0 : Int) ≤ (p : Int) := by omega
  have h2 : (0 : Int) ≤ (q : Int) := by omega
  have h3 : (p : Int) + (q : Int) ≤ 9223372036854775807 := by omega
  rw [Int.natCast_add]
  generalize (p : Int) = y at hx h1 h3 ⊢
  generalize (q : Int) = z at ho h2 h3 ⊢
  unfold execOp
  simp only [ho, hx]
  go_simp
  exact IntWalk.i64_in _ ⟨by omega, by omega⟩

theorem run_neqJ {o : Oper} {a : Act} (x y : Operand) (ho : o.op = .binOp .neq 9 x y 9) (S1 S2 : List UInt8) (hx : a.eval x = .string ⟨S1.toArray⟩) (hy : a.eval y = .string ⟨S2.toArray⟩) (b : Bool) (hb : (S1 != S2) = b) (w : World) : (execOp a.eval o).run Tryd.prog w = .ok (.value (.bool b)) w := by
  subst hb
  unfold execOp
  simp only [ho, hx, hy]
  go_simp
  simp [bne]

theorem okAt_no1 {B : Nat → Nat} {N T : Nat} (h : cntAt B T < 1) : okAt dgS B N T = false := by
  cases hk : okAt dgS B N T with
  | false => rfl
  | true => have := ((okAt_iff dgS B N T).1 hk).2.1; omega
theorem okAt_no2 {B : Nat → Nat} {N T : Nat} (h : 8192 < cntAt B T) : okAt dgS B N T = false := by
  cases hk : okAt dgS B N T with
  | false => rfl
  | true => have := ((okAt_iff dgS B N T).1 hk).2.2.1; omega
theorem okAt_no3 {B : Nat → Nat} {N T : Nat} (h : N < T + 8 + jrnd (cntAt B T)) : okAt dgS B N T = false := by
  cases hk : okAt dgS B N T with
  | false => rfl
  | true => have := ((okAt_iff dgS B N T).1 hk).2.2.2.1; unfold nextAt at this; omega

/-- Are the bytes from p up to k noughts? -/
def zto (B : Nat → Nat) (p k : Nat) : Bool := (List.range (k - p)).all fun i => B (p + i) == 0

theorem okAt_no4 {B : Nat → Nat} {N T : Nat} (h : ¬ ∀ j, j < 4 → dgS (cntAt B T) (fun i => B (T + 8 + i)) j = B (T + 4 + j)) : okAt dgS B N T = false := by
  cases hk : okAt dgS B N T with
  | false => rfl
  | true => exact absurd ((okAt_iff dgS B N T).1 hk).2.2.2.2.1 h

theorem okAt_no5 {B : Nat → Nat} {N T : Nat} (h : zto B (T + 8 + cntAt B T) (T + 8 + jrnd (cntAt B T)) = false) : okAt dgS B N T = false := by
  cases hk : okAt dgS B N T with
  | false => rfl
  | true =>
    have h5 := ((okAt_iff dgS B N T).1 hk).2.2.2.2.2
    have : zto B (T + 8 + cntAt B T) (T + 8 + jrnd (cntAt B T)) = true := by
      unfold zto
      simp only [List.all_eq_true, List.mem_range, beq_iff_eq]
      intro i hi
      exact h5 i (by omega)
    rw [this] at h
    cases h

theorem own_belowJ {w w' : World} {b e sz n : Nat} {v : Value} {xs : List Value} (h : w.ownsRow b e sz v n xs) (hb : Below w.heap.size w w') : w'.ownsRow b e sz v n xs := by
  refine ⟨h.1, ?_⟩
  rcases h.2 with h0 | ⟨g, cap, cur, hv, h1, hg, r⟩
  · exact .inl h0
  · exact .inr ⟨g, cap, cur, hv, h1, (hb.block g (Array.getElem?_eq_some_iff.1 hg).1).trans hg, r⟩

theorem own_emptyJ (w : World) (f : Nat → Nat) : (w.alloc (.cells #[] 5)).ownsRow w.heap.size 5 1 (.slice (some ⟨w.heap.size, 0, none⟩) 0 0) 0 (bl f 0) :=
  ⟨rfl, .inr ⟨w.heap.size, 0, #[], rfl, Nat.le_refl _, heap_alloc_new w _, Nat.le_refl _, Nat.zero_le _, rfl, rfl⟩⟩

theorem own_allocJ {w : World} {b e s n : Nat} {v : Value} {xs : List Value} (h : w.ownsRow b e s v n xs) (o : Obj) : (w.alloc o).ownsRow b e s v n xs := own_belowJ h ((Below.refl _ _).alloc (Nat.le_refl _) o)

theorem own_monoJ {w : World} {b b' e s n : Nat} {v : Value} {xs : List Value} (h : w.ownsRow b e s v n xs) (hb : b' ≤ b) : w.ownsRow b' e s v n xs := by
  refine ⟨h.1, ?_⟩
  rcases h.2 with h0 | ⟨g, cap, cur, hv, h1, r⟩
  · exact .inl h0
  · exact .inr ⟨g, cap, cur, hv, Nat.le_trans hb h1, r⟩

theorem own_keptG {w w' : World} {b1 b2 e1 e2 s1 s2 n1 n2 : Nat} {v1 v2 : Value} {x1 x2 : List Value} (h1 : w.ownsRow b1 e1 s1 v1 n1 x1) (h2 : w.ownsRow b2 e2 s2 v2 n2 x2) (hne : e1 ≠ e2) (hg : w.grownBy w' v2.ownBlock) : w'.ownsRow b1 e1 s1 v1 n1 x1 := by
  refine ⟨h1.1, ?_⟩
  rcases h1.2 with h0 | ⟨g, cap, cur, rfl, hb, hc, r⟩
  · exact .inl h0
  · refine .inr ⟨g, cap, cur, rfl, hb, (hg.block g (Array.getElem?_eq_some_iff.1 hc).1 (fun e => ?_)).trans hc, r⟩
    rcases h2.2 with ⟨rfl, _⟩ | ⟨g2, c2, cur2, rfl, _, hb2, _⟩
    · cases e
    · have e2' : g = g2 := by simpa [Value.ownBlock] using e
      subst e2'
      rw [hc] at hb2
      injection hb2 with h3
      injection h3 with _ h4 _
      exact hne h4

theorem Tryd.infoBy : (Tryd.prog.info? 33).map (fun i => (i.zero, i.size, i.bytes)) = some (some (.slice none 0 0), 1, 24) := by kernel_rfl

/-- One more slice behind a row of slices of the call's own. -/
theorem wpList_append_rec {ops : Array Oper} {rest : List Oper} {o : Oper} {a : Act} {w : World} {Q : Exit → Act → World → Prop} (hgd : o.guard = none) (s x : Operand)
    (ho : o.op = .call { callee := .builtin .append, args := #[s, x], argTypes := #[32, 32] }) (base : Nat) (v : Value) (n : Nat) (xs : List Value) (hs : a.eval s = v) (hown : w.ownsRow base 33 1 v n xs)
    (g : Nat) (u : Value) (hx : a.eval x = .slice (some ⟨g, 0, none⟩) 1 1) (hc : w.cell? ⟨g, 0, none⟩ = some u) (hu : u.oneCell' = true) (hn : n ≤ 100000) (hbase : base ≤ w.heap.size)
    (h : ∀ v' w', w'.ownsRow base 33 1 v' (n + 1) (xs ++ [u]) → w.grownBy w' v.ownBlock → wpList Tryd.prog ops Q rest (a.put o.dst v') w') : wpList Tryd.prog ops Q (o :: rest) a w := by
  obtain ⟨i0, hi, hz0, hz1, hz2⟩ := info_parts Tryd.infoBy
  refine wpList_append_own w hgd s x 32 ho base 33 i0 (.slice none 0 0) 1 24 Tryd.underlying32 hi hz0 hz1 hz2 rfl (by decide) v n xs hs hown ⟨g, 0, none⟩ 1 1 [u] hx rfl ?_ ?_ (by unfold maxLen; omega) (by omega) hbase ?_
  · intro j y hj
    cases j with
    | zero =>
      rw [Addr.add_mid, Nat.zero_add]
      rw [hc]
      simpa using hj
    | succ j => simp at hj
  · intro y hy
    obtain rfl : y = u := by simpa using hy
    exact hu
  · intro v' w' h1 h2 _
    exact h v' w' h1 h2

theorem okAt_yes {B : Nat → Nat} {N T Mc Y : Nat} (hM : Mc = cntAt B T) (hY : Y = jrnd Mc) (h1 : T + 8 ≤ N) (h2 : ¬ Mc < 1) (h3 : Mc ≤ 8192) (h4 : T + 8 + Y ≤ N) (h5 : ∀ j, j < 4 → dgS Mc (fun i => B (T + 8 + i)) j = B (T + 4 + j)) (h6 : zto B (T + 8 + Mc) (T + 8 + Y) = true) : okAt dgS B N T = true := by
  rw [okAt_iff]
  unfold nextAt
  rw [← hM, ← hY]
  refine ⟨h1, by omega, h3, h4, h5, fun k hk => ?_⟩
  unfold zto at h6
  simp only [List.all_eq_true, List.mem_range, beq_iff_eq] at h6
  exact h6 k (by omega)

theorem RdInv.next {w wr w' : World} {B : Nat → Nat} {N T : Nat} {v : Value} (h : RdInv w B N T v wr) (hb : Below wr.heap.size wr w') : RdInv w B N T v w' := by
  obtain ⟨q, A, Cc, h1, h2, h3, h4, h5⟩ := h
  exact ⟨q, A, Cc, h1, own_belowJ h2 hb, fun i x hx => own_belowJ (h3 i x hx) hb, h4.trans (hb.mono h4.size), h5⟩

theorem zto_next (B : Nat → Nat) (p k : Nat) (h : p ≤ k) : zto B p (k + 1) = (zto B p k && (B k == 0)) := by
  unfold zto
  rw [show k + 1 - p = (k - p) + 1 by omega, List.range_succ, List.all_append]
  simp only [List.all_cons, List.all_nil, Bool.and_true]
  rw [show p + (k - p) = k by omega]

theorem zto_refl (B : Nat → Nat) (p : Nat) : zto B p p = true := by simp [zto]

set_option maxRecDepth 100000 in
set_option maxHeartbeats 4000000 in
theorem read_any {w : World} {a : Option Addr} {N C : Nat} {B : Nat → Nat} (h : ByIn w a N C B) (hN : N ≤ 8000) : Calls Tryd.prog 54 #[.slice a N C] w (RdR w B N) := by
  go_enter Tryd.func54, Tryd.ntmps54
  go_wp2
  go_loopw [4, 5] (fun v iv wr => ∃ T : Nat, iv = .int .i64 (T : Nat) ∧ RdInv w B N T v wr)
    (fun _ iv _ => N + 1 - (intOf iv).toNat)
  case atStart => exact ⟨0, rfl, [], fun _ => none, fun _ => 0, rfl, ⟨rfl, .inl ⟨rfl, rfl⟩⟩, fun i x hx => by simp at hx, Below.refl _ _, Nat.le_refl _, Nat.zero_le _⟩
  case round =>
    obtain ⟨T, rfl, hinv⟩ := hrel
    have hTN : T ≤ N := by obtain ⟨_, _, _, _, _, _, _, _, h5⟩ := hinv; exact h5
    have hbel : Below w.heap.size w wr := by obtain ⟨_, _, _, _, _, _, h5, _⟩ := hinv; exact h5
    have j3 : (T : Int) ≤ 8000 := by omega
    have jN : (N : Int) ≤ 8000 := by omega
    have HI : Hid (RdInv w B N T u4 wr) := hinv
    clear hinv
    obtain ⟨v, hv⟩ : ∃ v, v = u4 := ⟨_, rfl⟩
    rw [← hv] at HI ⊢
    clear hv
    by_cases h8 : T + 8 ≤ N
    · have i0 : (T : Int) + 8 ≤ (N : Int) := by omega
      obtain ⟨bb, off, rfl, hbb, hcl⟩ := h.at_.resolve_left (by omega)
      have hby := h.at_.below hbel (Nat.le_refl _)
      have hle := h.le
      obtain ⟨Mc, hMc⟩ : ∃ Mc, Mc = cntAt B T := ⟨_, rfl⟩
      have HM : Hid (Mc = cntAt B T) := hMc
      have HG : Calls Tryd.prog 74 #[.slice (some ⟨bb, off + T, none⟩) 4 (C - T)] wr fun e w' => e = .returned (.tuple #[.int .u64 (Mc : Nat), .int .i64 0]) ∧ w' = wr := by
        have h5 := rget_s 4 (C - T) (by decide) (by decide) (hby.part T 4 (by omega)) (fun j => h.byt _)
        rw [cnt_vn, ← hMc] at h5
        exact h5
      clear hMc
      have m0 : (0 : Int) ≤ (Mc : Int) := by omega
      by_cases h1 : Mc < 1
      · have q1 : decide ((Mc : Int) < 1) = true := decide_eq_true (by omega)
        have H1 : Hid (Mc < 1) := h1
        have m1 : (Mc : Int) < 1 := by omega
        clear h1
        go_wp2_with (first
          | ((go_at_call 74)
             (refine HG.mono ?_)
             (rintro e wz ⟨rfl, hz⟩)
             (obtain rfl : wr = wz := hz.symm)
             (clear HG))
          | ((refine at_dst 23 rfl ?_)
             (refine wpList_is (some 23) (.slice (some ⟨bb, off + T, none⟩) 4 (C - T)) rfl rfl (run_slice_j _ _ _ rfl bb off N C T 4 rfl rfl rfl (by omega) (by omega) _) ?_)))
        go_ret2
        obtain ⟨e1, a9, c9, rfl, hrl⟩ := HI.out.done h.byt (okAt_no1 (by rw [← HM.out]; exact H1.out)) (by omega)
        exact ⟨hbel, a9, c9, by rw [e1]; rfl, hrl⟩
      · have q1 : decide ((Mc : Int) < 1) = false := decide_eq_false (by omega)
        have m1 : ¬ (Mc : Int) < 1 := by omega
        by_cases h2 : 8192 < Mc
        · have q2 : decide ((8192 : Int) < (Mc : Int)) = true := decide_eq_true (by omega)
          have m2 : (8192 : Int) < (Mc : Int) := by omega
          have H2 : Hid (8192 < Mc) := h2
          clear h1 h2
          go_wp2_with (first
            | ((go_at_call 74)
               (refine HG.mono ?_)
               (rintro e wz ⟨rfl, hz⟩)
               (obtain rfl : wr = wz := hz.symm)
               (clear HG))
            | ((refine at_dst 23 rfl ?_)
               (refine wpList_is (some 23) (.slice (some ⟨bb, off + T, none⟩) 4 (C - T)) rfl rfl (run_slice_j _ _ _ rfl bb off N C T 4 rfl rfl rfl (by omega) (by omega) _) ?_)))
          go_ret2
          obtain ⟨e1, a9, c9, rfl, hrl⟩ := HI.out.done h.byt (okAt_no2 (by rw [← HM.out]; exact H2.out)) (by omega)
          exact ⟨hbel, a9, c9, by rw [e1]; rfl, hrl⟩
        · have q2 : decide ((8192 : Int) < (Mc : Int)) = false := decide_eq_false (by omega)
          have m2 : ¬ (8192 : Int) < (Mc : Int) := by omega
          have m3 : (Mc : Int) ≤ 8192 := by omega
          have hrn := fun w => round_any Mc w (by omega)
          have hrd : Mc ≤ jrnd Mc ∧ jrnd Mc < Mc + 8 := ⟨jrnd_ge _, jrnd_lt _⟩
          obtain ⟨Y, hY⟩ : ∃ Y, Y = jrnd Mc := ⟨_, rfl⟩
          have HY : Hid (Y = jrnd Mc) := hY
          rw [← hY] at hrn hrd
          clear hY
          have y1 : (Y : Int) ≤ 8200 := by omega
          have y2 : (0 : Int) ≤ (Y : Int) := by omega
          by_cases h3 : N < T + 8 + Y
          · have q3 : decide ((N : Int) < (T : Int) + 8 + (Y : Int)) = true := decide_eq_true (by omega)
            have m4 : (N : Int) < (T : Int) + 8 + (Y : Int) := by omega
            have H3 : Hid (N < T + 8 + Y) := h3
            clear h3
            go_wp2_with (first
              | ((go_at_call 74)
                 (refine HG.mono ?_)
                 (rintro e wz ⟨rfl, hz⟩)
                 (obtain rfl : wr = wz := hz.symm)
                 (clear HG))
              | ((go_at_call 40)
                 (refine (hrn _).mono ?_)
                 (rintro e wz ⟨rfl, hz⟩)
                 (obtain rfl : wr = wz := hz.symm))
              | ((refine at_dst 23 rfl ?_)
                 (refine wpList_is (some 23) (.slice (some ⟨bb, off + T, none⟩) 4 (C - T)) rfl rfl (run_slice_j _ _ _ rfl bb off N C T 4 rfl rfl rfl (by omega) (by omega) _) ?_)))
            go_ret2
            obtain ⟨e1, a9, c9, rfl, hrl⟩ := HI.out.done h.byt (okAt_no3 (by rw [← HM.out, ← HY.out]; exact H3.out)) (by omega)
            exact ⟨hbel, a9, c9, by rw [e1]; rfl, hrl⟩
          · have q3 : decide ((N : Int) < (T : Int) + 8 + (Y : Int)) = false := decide_eq_false (by omega)
            have m4 : ¬ (N : Int) < (T : Int) + 8 + (Y : Int) := by omega
            obtain ⟨R0, hR0⟩ : ∃ R0, R0 = T + 8 + Mc := ⟨_, rfl⟩
            have HR0 : Hid (R0 = T + 8 + Mc) := hR0
            have hsl : Bytes wr (some ⟨bb, off + (T + 8), none⟩) Mc (fun j => B (T + 8 + j)) := hby.part (T + 8) Mc (by omega)
            have hclr : ∀ j, j < N → wr.cell? ⟨bb, off + j, none⟩ = some (.int .u8 (B j : Nat)) := fun j hj => (hbel.cell hbb).trans (hcl j hj)
            clear hR0
            go_wp2_with (first
              | ((go_at_call 74)
                 (refine HG.mono ?_)
                 (rintro e wz ⟨rfl, hz⟩)
                 (obtain rfl : wr = wz := hz.symm)
                 (clear HG))
              | ((go_at_call 40)
                 (refine (hrn _).mono ?_)
                 (rintro e wz ⟨rfl, hz⟩)
                 (obtain rfl : wr = wz := hz.symm))
              | ((refine at_dst 23 rfl ?_)
                 (refine wpList_is (some 23) (.slice (some ⟨bb, off + T, none⟩) 4 (C - T)) rfl rfl (run_slice_j _ _ _ rfl bb off N C T 4 rfl rfl rfl (by omega) (by omega) _) ?_))
              | ((refine at_dst 53 rfl ?_)
                 (refine wpList_is (some 53) (.slice (some ⟨bb, off + (T + 8), none⟩) Mc (C - (T + 8))) rfl rfl (run_slice_j _ _ _ rfl bb off N C (T + 8) Mc rfl rfl rfl (by omega) (by omega) _) ?_)))
            go_loopw [10, 11] (fun bv iv wk => ∃ K : Nat, R0 ≤ K ∧ K ≤ T + 8 + Y ∧ iv = .int .i64 (K : Nat) ∧ bv = .bool (zto B R0 K) ∧ wk = wr)
              (fun _ iv _ => T + 8 + Y - (intOf iv).toNat)
            case atStart => exact ⟨R0, Nat.le_refl _, by have := HR0.out; omega, by rw [HR0.out]; simp, by rw [zto_refl], rfl⟩
            case round =>
              obtain ⟨K, hK0, hK1, rfl, rfl, hwk⟩ := hrel
              subst hwk
              have k1 : (0 : Int) ≤ (K : Int) := by omega
              have k2 : (K : Int) ≤ 20000 := by omega
              by_cases hlt : K < T + 8 + Y
              · have k3 : (K : Int) < (T : Int) + 8 + (Y : Int) := by omega
                have k4 : (K : Int) < (N : Int) := by omega
                have cK := hclr K (by omega)
                have hbK := h.byt K
                have hnx := zto_next B R0 K hK0
                have HX : Hid (zto B R0 (K + 1) = (zto B R0 K && (B K == 0))) := hnx
                clear hnx
                generalize hZ : zto B R0 K = Z at HX ⊢
                cases Z
                · have HX2 : Hid (zto B R0 (K + 1) = false) := by show _ = _; rw [HX.out]; rfl
                  clear hZ HX
                  go_wp2_with (first
                    | ((go_at_call 40)
                       (refine (hrn _).mono ?_)
                       (rintro e wz ⟨rfl, hz⟩)
                       (obtain rfl : wr = wz := hz.symm)))
                  go_roundw
                  case rel => exact ⟨K + 1, by omega, by omega, by go_num, by rw [HX2.out], trivial⟩
                  case measure => simp [intOf]; omega
                · by_cases hz : B K = 0
                  · have HX2 : Hid (zto B R0 (K + 1) = true) := by show _ = _; rw [HX.out, hz]; rfl
                    rw [hz] at cK
                    clear hZ HX hz
                    go_wp2_with (first
                      | ((go_at_call 40)
                         (refine (hrn _).mono ?_)
                         (rintro e wz ⟨rfl, hz⟩)
                         (obtain rfl : wr = wz := hz.symm)))
                    go_roundw
                    case rel => exact ⟨K + 1, by omega, by omega, by go_num, by rw [HX2.out], trivial⟩
                    case measure => simp [intOf]; omega
                  · have HX2 : Hid (zto B R0 (K + 1) = false) := by show _ = _; rw [HX.out]; simp [hz]
                    have hzi : ¬ ((B K : Nat) : Int) = 0 := by omega
                    have hzb : (((B K : Nat) : Int) == 0) = false := by simp; omega
                    clear hZ HX hz
                    generalize ((B K : Nat) : Int) = V at cK hzi hzb
                    go_wp2_with (first
                      | ((go_at_call 40)
                         (refine (hrn _).mono ?_)
                         (rintro e wz ⟨rfl, hz⟩)
                         (obtain rfl : wr = wz := hz.symm)))
                    go_roundw
                    case rel => exact ⟨K + 1, by omega, by omega, by go_num, by rw [HX2.out], trivial⟩
                    case measure => simp [intOf]; omega
              · have k3 : ¬ (K : Int) < (T : Int) + 8 + (Y : Int) := by omega
                have HK : Hid (K = T + 8 + Y) := by show _ = _; omega
                have hS := rsum_any (fun j => B (T + 8 + j)) Mc (C - (T + 8)) (some ⟨bb, off + (T + 8), none⟩) wr (fun e => by cases e) hsl (fun j => h.byt _) (by omega) (by omega)
                generalize hZ : zto B R0 K = Z
                have HZ : Hid (zto B R0 K = Z) := hZ
                obtain ⟨dd, hdd⟩ : ∃ dd, dd = dgS Mc (fun j => B (T + 8 + j)) := ⟨_, rfl⟩
                have HD : Hid (dd = dgS Mc (fun j => B (T + 8 + j))) := hdd
                rw [show SHA Hc Kc (fun j => B (T + 8 + j)) Mc = dd from hdd.symm] at hS
                have hdl : ∀ j, dd j < 256 := fun j => by rw [hdd]; exact dgS_lt _ _ _
                clear hZ hdd
                go_wp2_with (first
                  | ((go_at_call 40)
                     (refine (hrn _).mono ?_)
                     (rintro e wz ⟨rfl, hz⟩)
                     (obtain rfl : wr = wz := hz.symm))
                  | ((go_at_call 75)
                     (refine hS.mono ?_)
                     (rintro e w3 ⟨rfl, hb3⟩)
                     (clear hS))
                  | ((refine at_stJ 108 _ _ rfl ?_)
                     (refine wpList_copyJ w3 108 _ (cellsN .u8 32 dd) rfl _ _ rfl rfl rfl (by rw [cellsN_size]; exact Tryd.size108) (by simp [cellsN_size]) (cellsN_one _ _ _) ?_)
                     (intro w4 hH4 hb4)
                     (have hb34 := hb3.trans (hb4.mono hb3.size))
                     (have hbw4 := hbel.trans (hb34.mono hbel.size))))
                have hB1 := by_lessJ hH4.bytes (show 4 ≤ 32 by decide)
                have hB2 := (hby.part (T + 4) 4 (by omega)).below hb34 (Nat.le_refl _)
                have g1 := fun wz (hz : Bytes wz (some ⟨w3.heap.size, 0, none⟩) 4 dd) => conv_bytesN 32 hz hdl (fun e => by cases e)
                have g2 := fun wz (hz : Bytes wz (some ⟨bb, off + (T + 4), none⟩) 4 (fun j => B (T + 4 + j))) => conv_bytesN (C - (T + 4)) hz (fun j => h.byt _) (fun e => by cases e)
                have f1 := g1 w4.drew (hB1.drewN 1)
                have f2 := g2 w4.drew (hB2.drewN 1)
                by_cases heq : strN dd 4 = strN (fun j => B (T + 4 + j)) 4
                · have HEQ : Hid (strN dd 4 = strN (fun j => B (T + 4 + j)) 4) := heq
                  obtain ⟨S1, hS1⟩ : ∃ S1, S1 = strN dd 4 := ⟨_, rfl⟩
                  obtain ⟨S2, hS2⟩ : ∃ S2, S2 = strN (fun j => B (T + 4 + j)) 4 := ⟨_, rfl⟩
                  rw [← hS1] at f1 heq
                  rw [← hS2] at f2 heq
                  have q6 : (S1 != S2) = false := by rw [heq]; simp
                  refine wp_region_held_drew (S := fun wz => (convert 33 9 (.slice (some ⟨w3.heap.size, 0, none⟩) 4 32)).run Tryd.prog wz = .ok (.string ⟨S1.toArray⟩) wz ∧ (convert 33 9 (.slice (some ⟨bb, off + (T + 4), none⟩) 4 (C - (T + 4)))).run Tryd.prog wz = .ok (.string ⟨S2.toArray⟩) wz) (by kernel_rfl) ⟨f1, f2⟩ (fun hHeld => ?_)
                  refine takeTo 0 (some 77) (.slice (some ⟨w3.heap.size, 0, none⟩) 4 32) rfl rfl (by kernel_rfl) (by kernel_rfl) (by kernel_rfl) (fun _ _ _ h => h) (by rfl) (fun _ _ => by kernel_rfl) hHeld ?_
                  simp only [Act.put, List.setIfInBounds_toArray, List.set_cons_zero, List.set_cons_succ]
                  refine takeTo 1 (some 78) (.string ⟨S1.toArray⟩) rfl rfl (by kernel_rfl) (by kernel_rfl) (by kernel_rfl) (fun _ _ _ h => h) (by rfl) (fun wz hz => run_convJ _ rfl (.slice (some ⟨w3.heap.size, 0, none⟩) 4 32) rfl wz _ hz.1) hHeld ?_
                  simp only [Act.put, List.setIfInBounds_toArray, List.set_cons_zero, List.set_cons_succ]
                  refine takeTo 2 (some 79) (.slice (some ⟨bb, off, none⟩) N C) rfl rfl (by kernel_rfl) (by kernel_rfl) (by kernel_rfl) (fun _ _ _ h => h) (by rfl) (fun _ _ => rfl) hHeld ?_
                  simp only [Act.put, List.setIfInBounds_toArray, List.set_cons_zero, List.set_cons_succ]
                  refine takeTo 3 (some 80) (.int .i64 (T : Nat)) rfl rfl (by kernel_rfl) (by kernel_rfl) (by kernel_rfl) (fun _ _ _ h => h) (by rfl) (fun _ _ => rfl) hHeld ?_
                  simp only [Act.put, List.setIfInBounds_toArray, List.set_cons_zero, List.set_cons_succ]
                  refine takeTo 4 (some 81) (.int .i64 ((T + 4 : Nat) : Int)) rfl rfl (by kernel_rfl) (by kernel_rfl) (by kernel_rfl) (fun _ _ _ h => h) (by rfl) (fun wz _ => run_addJ _ rfl T 4 rfl ⟨rfl, by omega⟩ wz) hHeld ?_
                  simp only [Act.put, List.setIfInBounds_toArray, List.set_cons_zero, List.set_cons_succ]
                  refine takeTo 5 (some 82) (.int .i64 (T : Nat)) rfl rfl (by kernel_rfl) (by kernel_rfl) (by kernel_rfl) (fun _ _ _ h => h) (by rfl) (fun _ _ => rfl) hHeld ?_
                  simp only [Act.put, List.setIfInBounds_toArray, List.set_cons_zero, List.set_cons_succ]
                  refine takeTo 6 (some 83) (.int .i64 ((T + 4 + 4 : Nat) : Int)) rfl rfl (by kernel_rfl) (by kernel_rfl) (by kernel_rfl) (fun _ _ _ h => h) (by rfl) (fun wz _ => run_addJ _ rfl T 8 rfl ⟨rfl, by omega⟩ wz) hHeld ?_
                  simp only [Act.put, List.setIfInBounds_toArray, List.set_cons_zero, List.set_cons_succ]
                  refine takeTo 7 (some 84) (.slice (some ⟨bb, off + (T + 4), none⟩) 4 (C - (T + 4))) rfl rfl (by kernel_rfl) (by kernel_rfl) (by kernel_rfl) (fun _ _ _ h => h) (by rfl) (fun wz _ => run_slice_j _ _ _ rfl bb off N C (T + 4) 4 rfl rfl rfl (by omega) (by omega) wz) hHeld ?_
                  simp only [Act.put, List.setIfInBounds_toArray, List.set_cons_zero, List.set_cons_succ]
                  refine takeTo 8 (some 85) (.string ⟨S2.toArray⟩) rfl rfl (by kernel_rfl) (by kernel_rfl) (by kernel_rfl) (fun _ _ _ h => h) (by rfl) (fun wz hz => run_convJ _ rfl (.slice (some ⟨bb, off + (T + 4), none⟩) 4 (C - (T + 4))) rfl wz _ hz.2) hHeld ?_
                  simp only [Act.put, List.setIfInBounds_toArray, List.set_cons_zero, List.set_cons_succ]
                  refine takeTo 9 (some 86) (.bool false) rfl rfl (by kernel_rfl) (by kernel_rfl) (by kernel_rfl) (fun _ _ _ h => h) (by rfl) (fun wz _ => run_neqJ _ _ rfl S1 S2 rfl rfl _ q6 wz) hHeld ?_
                  simp only [Act.put, List.setIfInBounds_toArray, List.set_cons_zero, List.set_cons_succ]
                  refine takeTo 10 (some 87) (.bool false) rfl rfl (by kernel_rfl) (by kernel_rfl) (by kernel_rfl) (fun _ _ _ h => h) (by rfl) (fun _ _ => rfl) hHeld ?_
                  simp only [Act.put, List.setIfInBounds_toArray, List.set_cons_zero, List.set_cons_succ]
                  refine takeTo 11 (some 88) (.bool Z) rfl rfl (by kernel_rfl) (by kernel_rfl) (by kernel_rfl) (fun _ _ _ h => h) (by rfl) (fun _ _ => rfl) hHeld ?_
                  simp only [Act.put, List.setIfInBounds_toArray, List.set_cons_zero, List.set_cons_succ]
                  refine takeTo 12 (some 89) (.bool (!Z)) rfl rfl (by kernel_rfl) (by kernel_rfl) (by kernel_rfl) (fun _ _ _ h => h) (by rfl) (fun _ _ => by cases Z <;> kernel_rfl) hHeld ?_
                  simp only [Act.put, List.setIfInBounds_toArray, List.set_cons_zero, List.set_cons_succ]
                  refine takeTo 13 (some 90) (.bool (!Z)) rfl rfl (by kernel_rfl) (by kernel_rfl) (by kernel_rfl) (fun _ _ _ h => h) (by rfl) (fun _ _ => by cases Z <;> kernel_rfl) hHeld ?_
                  simp only [Act.put, List.setIfInBounds_toArray, List.set_cons_zero, List.set_cons_succ]
                  refine wpAnyH_done (by kernel_rfl) ?_ _
                  have hi4 : RdInv w B N T v w4.drew := HI.out.next (hb34.trans ((Below.refl _ w4).drew.mono hb34.size))
                  clear hHeld f1 f2 q6 hS1 hS2 g1 g2
                  cases Z
                  · go_wp2
                    go_ret2
                    obtain ⟨e1, a9, c9, rfl, hrl⟩ := hi4.done h.byt (okAt_no5 (by rw [← HM.out, ← HY.out, ← HK.out, ← HR0.out]; exact HZ.out)) (by omega)
                    exact ⟨hbw4.drew, a9, c9, by rw [e1]; rfl, hrl⟩
                  · obtain ⟨q, A, Cc, hr, hown, hdat, hbelq, hq, _⟩ := hi4
                    have hsl5 : Bytes (w4.drew.alloc (.cells #[] 5)) (some ⟨bb, off + (T + 8), none⟩) Mc (fun j => B (T + 8 + j)) := (hsl.below (hb34.trans ((Below.refl _ w4).drew.mono hb34.size)) (Nat.le_refl _)).below ((Below.refl _ _).alloc (Nat.le_refl _) _) (Nat.le_refl _)
                    have hok : okAt dgS B N T = true := okAt_yes HM.out HY.out h8 h1 (by omega) (by omega) (fun j hj => by rw [← HD.out]; exact ((strN_eq hdl (fun j => h.byt _)).1 HEQ.out).2 j hj) (by rw [← HR0.out, ← HK.out]; exact HZ.out)
                    have HOK : Hid (okAt dgS B N T = true) := hok
                    clear hok
                    go_wp2_with (first
                      | ((go_at_call 40)
                         (refine (hrn _).mono ?_)
                         (rintro e wz ⟨rfl, hz⟩)
                         (obtain rfl : w6 = wz := hz.symm))
                      | ((refine at_dst 94 rfl ?_)
                         (refine wpList_append_bytes rfl _ _ rfl w4.drew.heap.size _ 0 (fun j => B (T + 8 + j)) rfl (own_emptyJ w4.drew _) (some ⟨bb, off + (T + 8), none⟩) Mc (C - (T + 8)) (fun j => B (T + 8 + j)) rfl (fun e => by cases e) hsl5 (by omega) (by simp) ?_)
                         (intro v5 w5 ho5 hg5)
                         (rw [Nat.zero_add, cat_zero] at ho5)
                         (obtain ⟨A5, C5, rfl, _⟩ := own_bytes ho5)
                         (have hb5 : Below w4.drew.heap.size w4.drew w5 := below_gJ ((Below.refl _ _).alloc (Nat.le_refl _) _) hg5 (fun k e => by cases e; exact Nat.le_refl _))
                         (have hown5 := own_belowJ hown hb5)
                         (have hown5a := own_allocJ hown5 (.cells #[.slice A5 Mc C5] 33))
                         (have hbw5 := hbelq.trans (hb5.mono hbelq.size))
                         (have hbw5a : Below w.heap.size w (w5.alloc (.cells #[.slice A5 Mc C5] 33)) := hbw5.alloc hbw5.size _)
                         (have hnc : Has (w5.alloc (.cells #[.slice A5 Mc C5] 33)) w5.heap.size 33 #[.slice A5 Mc C5] := Has.new _ _ _))
                      | ((refine at_dst 96 rfl ?_)
                         (refine wpList_append_rec rfl _ _ rfl w.heap.size v q.length _ rfl hown5a w5.heap.size (.slice A5 Mc C5) rfl (hnc.cell 0) rfl (by omega) hbw5a.size ?_)
                         (intro v6 w6 ho6 hg6)
                         (have hbw6 := below_gJ hbw5a hg6 (fun g e => (hown5a.lt g e).1))))
                    have hfin : RdInv w B N (T + 8 + Y) v6 w6 := by
                      have hnx : nextAt B T = T + 8 + Y := by unfold nextAt; rw [← HM.out, ← HY.out]
                      refine ⟨q ++ [(T, Mc)], fun i => if i = q.length then A5 else A i, fun i => if i = q.length then C5 else Cc i, ?_, ?_, ?_, hbw6, by rw [List.length_append, List.length_singleton]; omega, by omega⟩
                      · rw [hr, reads_yes HOK.out, hnx, ← HM.out]
                        simp
                      · rw [rcells_snoc q (T, Mc) A _ Cc _ A5 C5 (fun i hi => by rw [if_neg (by omega), if_neg (by omega)]; exact ⟨rfl, rfl⟩) (by simp) (by simp), List.length_append, List.length_singleton]
                        exact ho6
                      · intro i x hx
                        have hnew := own_keptG (own_allocJ (own_monoJ ho5 hbelq.size) (.cells #[.slice A5 Mc C5] 33)) hown5a (by decide) hg6
                        by_cases hi : i < q.length
                        · rw [List.getElem?_append_left hi] at hx
                          simp only [if_neg (show ¬ i = q.length by omega)]
                          exact own_keptG (own_allocJ (own_belowJ (hdat i x hx) hb5) _) hown5a (by decide) hg6
                        · have hil : i < (q ++ [(T, Mc)]).length := (List.getElem?_eq_some_iff.1 hx).1
                          rw [List.length_append, List.length_singleton] at hil
                          obtain rfl : i = q.length := by omega
                          rw [List.getElem?_append_right (Nat.le_refl _)] at hx
                          obtain rfl : (T, Mc) = x := by simpa using hx
                          simp only [if_pos]
                          exact hnew
                    have HF : Hid (RdInv w B N (T + 8 + Y) v6 w6) := hfin
                    clear hfin ho5 ho6 hg5 hg6 hown hown5 hown5a hdat hr
                    go_roundw
                    case rel => exact ⟨T + 8 + Y, by simp, HF.out⟩
                    case measure => simp [intOf]; omega
                · have HNE : Hid (¬ strN dd 4 = strN (fun j => B (T + 4 + j)) 4) := heq
                  obtain ⟨S1, hS1⟩ : ∃ S1, S1 = strN dd 4 := ⟨_, rfl⟩
                  obtain ⟨S2, hS2⟩ : ∃ S2, S2 = strN (fun j => B (T + 4 + j)) 4 := ⟨_, rfl⟩
                  rw [← hS1] at f1 heq
                  rw [← hS2] at f2 heq
                  have q6 : (S1 != S2) = true := by simp; exact heq
                  refine wp_region_held_drew (S := fun wz => (convert 33 9 (.slice (some ⟨w3.heap.size, 0, none⟩) 4 32)).run Tryd.prog wz = .ok (.string ⟨S1.toArray⟩) wz ∧ (convert 33 9 (.slice (some ⟨bb, off + (T + 4), none⟩) 4 (C - (T + 4)))).run Tryd.prog wz = .ok (.string ⟨S2.toArray⟩) wz) (by kernel_rfl) ⟨f1, f2⟩ (fun hHeld => ?_)
                  refine takeTo 0 (some 77) (.slice (some ⟨w3.heap.size, 0, none⟩) 4 32) rfl rfl (by kernel_rfl) (by kernel_rfl) (by kernel_rfl) (fun _ _ _ h => h) (by rfl) (fun _ _ => by kernel_rfl) hHeld ?_
                  simp only [Act.put, List.setIfInBounds_toArray, List.set_cons_zero, List.set_cons_succ]
                  refine takeTo 1 (some 78) (.string ⟨S1.toArray⟩) rfl rfl (by kernel_rfl) (by kernel_rfl) (by kernel_rfl) (fun _ _ _ h => h) (by rfl) (fun wz hz => run_convJ _ rfl (.slice (some ⟨w3.heap.size, 0, none⟩) 4 32) rfl wz _ hz.1) hHeld ?_
                  simp only [Act.put, List.setIfInBounds_toArray, List.set_cons_zero, List.set_cons_succ]
                  refine takeTo 2 (some 79) (.slice (some ⟨bb, off, none⟩) N C) rfl rfl (by kernel_rfl) (by kernel_rfl) (by kernel_rfl) (fun _ _ _ h => h) (by rfl) (fun _ _ => rfl) hHeld ?_
                  simp only [Act.put, List.setIfInBounds_toArray, List.set_cons_zero, List.set_cons_succ]
                  refine takeTo 3 (some 80) (.int .i64 (T : Nat)) rfl rfl (by kernel_rfl) (by kernel_rfl) (by kernel_rfl) (fun _ _ _ h => h) (by rfl) (fun _ _ => rfl) hHeld ?_
                  simp only [Act.put, List.setIfInBounds_toArray, List.set_cons_zero, List.set_cons_succ]
                  refine takeTo 4 (some 81) (.int .i64 ((T + 4 : Nat) : Int)) rfl rfl (by kernel_rfl) (by kernel_rfl) (by kernel_rfl) (fun _ _ _ h => h) (by rfl) (fun wz _ => run_addJ _ rfl T 4 rfl ⟨rfl, by omega⟩ wz) hHeld ?_
                  simp only [Act.put, List.setIfInBounds_toArray, List.set_cons_zero, List.set_cons_succ]
                  refine takeTo 5 (some 82) (.int .i64 (T : Nat)) rfl rfl (by kernel_rfl) (by kernel_rfl) (by kernel_rfl) (fun _ _ _ h => h) (by rfl) (fun _ _ => rfl) hHeld ?_
                  simp only [Act.put, List.setIfInBounds_toArray, List.set_cons_zero, List.set_cons_succ]
                  refine takeTo 6 (some 83) (.int .i64 ((T + 4 + 4 : Nat) : Int)) rfl rfl (by kernel_rfl) (by kernel_rfl) (by kernel_rfl) (fun _ _ _ h => h) (by rfl) (fun wz _ => run_addJ _ rfl T 8 rfl ⟨rfl, by omega⟩ wz) hHeld ?_
                  simp only [Act.put, List.setIfInBounds_toArray, List.set_cons_zero, List.set_cons_succ]
                  refine takeTo 7 (some 84) (.slice (some ⟨bb, off + (T + 4), none⟩) 4 (C - (T + 4))) rfl rfl (by kernel_rfl) (by kernel_rfl) (by kernel_rfl) (fun _ _ _ h => h) (by rfl) (fun wz _ => run_slice_j _ _ _ rfl bb off N C (T + 4) 4 rfl rfl rfl (by omega) (by omega) wz) hHeld ?_
                  simp only [Act.put, List.setIfInBounds_toArray, List.set_cons_zero, List.set_cons_succ]
                  refine takeTo 8 (some 85) (.string ⟨S2.toArray⟩) rfl rfl (by kernel_rfl) (by kernel_rfl) (by kernel_rfl) (fun _ _ _ h => h) (by rfl) (fun wz hz => run_convJ _ rfl (.slice (some ⟨bb, off + (T + 4), none⟩) 4 (C - (T + 4))) rfl wz _ hz.2) hHeld ?_
                  simp only [Act.put, List.setIfInBounds_toArray, List.set_cons_zero, List.set_cons_succ]
                  refine takeTo 9 (some 86) (.bool true) rfl rfl (by kernel_rfl) (by kernel_rfl) (by kernel_rfl) (fun _ _ _ h => h) (by rfl) (fun wz _ => run_neqJ _ _ rfl S1 S2 rfl rfl _ q6 wz) hHeld ?_
                  simp only [Act.put, List.setIfInBounds_toArray, List.set_cons_zero, List.set_cons_succ]
                  refine takeTo 10 (some 87) (.bool true) rfl rfl (by kernel_rfl) (by kernel_rfl) (by kernel_rfl) (fun _ _ _ h => h) (by rfl) (fun _ _ => rfl) hHeld ?_
                  simp only [Act.put, List.setIfInBounds_toArray, List.set_cons_zero, List.set_cons_succ]
                  refine skipTo 11 (some 88) rfl rfl (by kernel_rfl) (by kernel_rfl) (by kernel_rfl) (fun _ _ _ h => h) (by rfl) hHeld ?_
                  simp only [Act.put, List.setIfInBounds_toArray, List.set_cons_zero, List.set_cons_succ]
                  refine skipTo 12 (some 89) rfl rfl (by kernel_rfl) (by kernel_rfl) (by kernel_rfl) (fun _ _ _ h => h) (by rfl) hHeld ?_
                  simp only [Act.put, List.setIfInBounds_toArray, List.set_cons_zero, List.set_cons_succ]
                  refine takeTo 13 (some 90) (.bool true) rfl rfl (by kernel_rfl) (by kernel_rfl) (by kernel_rfl) (fun _ _ _ h => h) (by rfl) (fun _ _ => by kernel_rfl) hHeld ?_
                  simp only [Act.put, List.setIfInBounds_toArray, List.set_cons_zero, List.set_cons_succ]
                  refine wpAnyH_done (by kernel_rfl) ?_ _
                  have hi4 : RdInv w B N T v w4.drew := HI.out.next (hb34.trans ((Below.refl _ w4).drew.mono hb34.size))
                  clear hHeld f1 f2 q6 hS1 hS2 g1 g2
                  go_wp2
                  go_ret2
                  obtain ⟨e1, a9, c9, rfl, hrl⟩ := hi4.done h.byt (okAt_no4 (fun hh => HNE.out (by rw [HD.out, HM.out]; exact strN_same hh))) (by omega)
                  exact ⟨hbw4.drew, a9, c9, by rw [e1]; rfl, hrl⟩
    · have i0 : ¬ (T : Int) + 8 ≤ (N : Int) := by omega
      go_wp2
      go_ret2
      obtain ⟨e1, a9, c9, rfl, hrl⟩ := HI.out.done h.byt (okAt_end (by omega)) (by omega)
      exact ⟨hbel, a9, c9, by rw [e1]; rfl, hrl⟩
end Go.Proofs.YtoiaclmfljoomaaDoor

/- journal: first, reader, standing. -/
namespace Go.Proofs.YtoiaclmfljoomaaDoor
open Go.ChangeShapes Go.WideShapes Go.ChangeAt Go.RowKit
set_option linter.unusedVariables false

/-- What the program asks of a record is what the chapter asks. -/
theorem okAt_pref {B : Nat → Nat} {N T : Nat} (hB : ∀ k, B k < 256) (h8 : T + 8 ≤ N) (h1 : 1 ≤ cntAt B T) (h2 : cntAt B T ≤ 8192) :
    okAt dgS B N T = prefB (fun j => B (T + j)) (N - T) (formF dgS ⟨cntAt B T, fun j => B (T + 8 + j)⟩) (8 + jrnd (cntAt B T)) := by
  obtain ⟨L, hL⟩ : ∃ L, L = cntAt B T := ⟨_, rfl⟩
  have hjr := jrnd_ge L
  have hfl : ∀ j, formF dgS ⟨L, fun j => B (T + 8 + j)⟩ j < 256 := by
    intro j
    unfold formF
    split
    · exact Nat.mod_lt _ (by decide)
    · split
      · exact dgS_lt _ _ _
      · split
        · exact hB _
        · exact Nat.zero_lt_succ _
  rw [Bool.eq_iff_iff, okAt_iff, ← hL]
  unfold prefB
  rw [Bool.and_eq_true, decide_eq_true_eq, beq_iff_eq, strN_eq (fun j => hB _) hfl]
  have hn : nextAt B T = T + 8 + jrnd L := by unfold nextAt; rw [← hL]
  rw [hn]
  have hcnt : ∀ j, j < 4 → B (T + j) = L / 256 ^ (3 - j) % 256 := by
    intro j hj
    have b0 := hB T
    have b1 := hB (T + 1)
    have b2 := hB (T + 2)
    have b3 := hB (T + 3)
    unfold cntAt at hL
    rcases (show j = 0 ∨ j = 1 ∨ j = 2 ∨ j = 3 by omega) with rfl | rfl | rfl | rfl <;> simp only [Nat.reduceSub, Nat.reducePow, Nat.add_zero, Nat.div_one] <;> omega
  constructor
  · rintro ⟨_, _, _, a4, a5, a6⟩
    refine ⟨by omega, rfl, fun j hj => ?_⟩
    unfold formF
    by_cases c1 : j < 4
    · rw [if_pos c1]
      exact hcnt j c1
    · rw [if_neg c1]
      by_cases c2 : j < 8
      · rw [if_pos c2]
        show B (T + j) = dgS L (fun j => B (T + 8 + j)) (j - 4)
        rw [a5 (j - 4) (by omega), show T + 4 + (j - 4) = T + j by omega]
      · rw [if_neg c2]
        by_cases c3 : j < 8 + L
        · rw [if_pos c3]
          show B (T + j) = B (T + 8 + (j - 8))
          rw [show T + 8 + (j - 8) = T + j by omega]
        · rw [if_neg c3]
          have := a6 (j - 8 - L) (by omega)
          rwa [show T + 8 + L + (j - 8 - L) = T + j by omega] at this
  · rintro ⟨b1, _, b3⟩
    refine ⟨h8, by omega, by omega, by omega, fun j hj => ?_, fun k hk => ?_⟩
    · have := b3 (4 + j) (by omega)
      unfold formF at this
      rw [if_neg (by omega), if_pos (by omega), show 4 + j - 4 = j by omega, show T + (4 + j) = T + 4 + j by omega] at this
      exact this.symm
    · have := b3 (8 + L + k) (by omega)
      unfold formF at this
      rw [if_neg (by omega), if_neg (by omega), if_neg (show ¬ (8 + L + k < 8 + L) by omega), show T + (8 + L + k) = T + 8 + L + k by omega] at this
      exact this

theorem formF_lt (r : RC) (hf : ∀ j, r.f j < 256) (j : Nat) : formF dgS r j < 256 := by
  unfold formF
  split
  · exact Nat.mod_lt _ (by decide)
  · split
    · exact dgS_lt _ _ _
    · split
      · exact hf _
      · exact Nat.zero_lt_succ _

/-- What first answers: the record that begins there, or nothing. -/
def FirstR (w : World) (b o : Nat) (B : Nat → Nat) (N T C : Nat) (e : Ending) (w' : World) : Prop :=
  Below w.heap.size w w' ∧ ((okAt dgS B N T = true ∧ e = .returned (.slice (some ⟨b, o + 8, none⟩) (cntAt B T) (C - 8))) ∨ (okAt dgS B N T = false ∧ e = .returned (.slice none 0 0)))

theorem okAt_no0 {B : Nat → Nat} {N T : Nat} (h : N < T + 8) : okAt dgS B N T = false := okAt_end h

theorem run_sl_rec {o : Oper} {a : Act} (x h : Operand) (ho : o.op = .slice 33 x (some (.const (.int .i64 8))) (some h) none) (b off L cap s : Nat) (hx : a.eval x = .slice (some ⟨b, off, none⟩) L cap) (hh : a.eval h = .int .i64 (8 + (s : Int))) (h1 : 8 < cap) (h2 : 8 + s ≤ cap) (w : World) :
    (execOp a.eval o).run Tryd.prog w = .ok (.value (.slice (some ⟨b, off + 8, none⟩) s (cap - 8))) w := by
  have hh' : a.eval h = .int .i64 ((8 + s : Nat) : Int) := by rw [hh]; congr 1
  have h3 : ¬ cap = 8 := by omega
  have h4 : 8 + s - 8 = s := by omega
  have h5 : 8 ≤ 8 + s := by omega
  generalize 8 + s = q at hh' h2 h4 h5
  unfold execOp
  simp only [ho, hx, hh', Option.map_some, Option.map_none]
  simp [Instr.sliceAt, Instr.slice, Instr.sliceBounds, Instr.sliceBound, run_underlying Tryd.underlying33, go_sem, asIntOf, Act.eval, h2, h3, h4]
  intro h9
  omega

set_option maxRecDepth 100000 in
set_option maxHeartbeats 2000000 in
theorem first_c {w : World} {b o : Nat} {C N T : Nat} {B : Nat → Nat} (hG : Glob Hc Kc w) (hT : T ≤ N) (hN : N ≤ 64000) (hC : N - T ≤ C) (hb : Bytes w (some ⟨b, o, none⟩) (N - T) (fun j => B (T + j))) (hB : ∀ k, B k < 256) :
    Calls Tryd.prog 99 #[.slice (some ⟨b, o, none⟩) (N - T) C] w (FirstR w b o B N T C) := by
  obtain ⟨M, hM⟩ : ∃ M, M = N - T := ⟨_, rfl⟩
  have HM : Hid (M = N - T) := hM
  rw [← hM] at hC hb ⊢
  have hM2 : (M : Int) ≤ 64000 := by omega
  by_cases h8 : M < 8
  · have i0 : (M : Int) < 8 := by omega
    have hno : okAt dgS B N T = false := okAt_no0 (by omega)
    have HO : Hid (okAt dgS B N T = false) := hno
    clear hno hM
    go_enter Tryd.func99, Tryd.ntmps99
    go_wp2
    go_ret
    exact ⟨Below.refl _ _, .inr ⟨HO.out, rfl⟩⟩
  have i0 : ¬ (M : Int) < 8 := by omega
  have hg := get_s 4 C (by decide) (by decide) (by_less9 hb (show 4 ≤ M by omega)) (fun j => hB _)
  rw [cnt_vn] at hg
  obtain ⟨L, hL⟩ : ∃ L, L = cntAt B T := ⟨_, rfl⟩
  rw [← hL] at hg
  have hLb : L < 4294967296 := by
    rw [hL, ← cnt_vn]
    exact vn_lt _ (fun j => hB _) 4
  by_cases h1 : L < 1
  · have i1 : (L : Int) < 1 := by omega
    have HO : Hid (okAt dgS B N T = false) := okAt_no1 (by omega)
    clear hM hL
    go_enter Tryd.func99, Tryd.ntmps99
    go_wp2_with (first
      | ((go_at_call 114)
         (refine hg.mono ?_)
         (rintro e wz ⟨rfl, hz⟩)
         (obtain rfl : w = wz := hz.symm)))
    go_ret
    exact ⟨Below.refl _ _, .inr ⟨HO.out, rfl⟩⟩
  have i1 : ¬ (L : Int) < 1 := by omega
  by_cases h2 : 8192 < L
  · have i2 : (8192 : Int) < (L : Int) := by omega
    have HO : Hid (okAt dgS B N T = false) := okAt_no2 (by omega)
    clear hM hL
    go_enter Tryd.func99, Tryd.ntmps99
    go_wp2_with (first
      | ((go_at_call 114)
         (refine hg.mono ?_)
         (rintro e wz ⟨rfl, hz⟩)
         (obtain rfl : w = wz := hz.symm)))
    go_ret
    exact ⟨Below.refl _ _, .inr ⟨HO.out, rfl⟩⟩
  have i2 : ¬ (8192 : Int) < (L : Int) := by omega
  have i2' : (L : Int) ≤ 8192 := by omega
  have i2'' : (0 : Int) ≤ (L : Int) := by omega
  by_cases h3 : M < 8 + L
  · have i3 : (M : Int) < 8 + (L : Int) := by omega
    have HO : Hid (okAt dgS B N T = false) := okAt_no3 (by have := jrnd_ge (cntAt B T); omega)
    clear hM hL
    go_enter Tryd.func99, Tryd.ntmps99
    go_wp2_with (first
      | ((go_at_call 114)
         (refine hg.mono ?_)
         (rintro e wz ⟨rfl, hz⟩)
         (obtain rfl : w = wz := hz.symm)))
    go_ret
    exact ⟨Below.refl _ _, .inr ⟨HO.out, rfl⟩⟩
  have i3 : ¬ (M : Int) < 8 + (L : Int) := by omega
  have hrec : Bytes w (some ⟨b, o + 8, none⟩) L (fun j => B (T + 8 + j)) := by
    have := hb.part 8 L (by omega)
    exact this.congr (fun j _ => by rw [Nat.add_assoc])
  have hfm := formed_c hG (by omega) (by omega) (show L ≤ C - 8 by omega) hrec (fun j => hB _)
  have hok := okAt_pref (N := N) hB (show T + 8 ≤ N by omega) (by omega) (show cntAt B T ≤ 8192 by omega)
  rw [← hM, ← hL] at hok
  have HL : Hid (L = cntAt B T) := hL
  have hC1 : 8 < C := by omega
  have hC2 : 8 + L ≤ C := by omega
  obtain ⟨R, hR⟩ : ∃ R, R = okAt dgS B N T := ⟨_, rfl⟩
  have HR : Hid (R = okAt dgS B N T) := hR
  rw [← hR] at hok
  have HK : Hid (R = prefB (fun j => B (T + j)) M (formF dgS ⟨L, fun j => B (T + 8 + j)⟩) (8 + jrnd L)) := hok
  clear hM hL hR hok
  cases R
  · go_enter Tryd.func99, Tryd.ntmps99
    go_wp2_with (first
      | ((go_at_call 114)
         (refine hg.mono ?_)
         (rintro e wz ⟨rfl, hz⟩)
         (obtain rfl : w = wz := hz.symm))
      | (refine at_dst 33 rfl ?_; refine wpList_is (some 33) (.slice (some ⟨b, o + 8, none⟩) L (C - 8)) rfl (by rfl) (run_sl_rec _ _ rfl b o M C L rfl rfl hC1 hC2 _) ?_)
      | ((go_at_call 43)
         (refine hfm.mono ?_)
         (rintro e w1 ⟨hb1, v1, rfl, ho1⟩)
         (obtain ⟨a1, c1, rfl, hc1, hn1, hB1, _⟩ := own_bytes ho1)
         (have hpx := prefix_j (c2 := c1) (hb.below hb1 (Nat.le_refl _)) hC hB1 (fun j => hB _) (formF_lt _ (fun j => hB _)) (fun e => (hn1 e).1) (by omega))
         (rw [← HK.out] at hpx)
         (clear hfm))
      | ((go_at_call 115)
         (refine hpx.mono ?_)
         (rintro e wz ⟨rfl, hz⟩)
         (obtain rfl : w1 = wz := hz.symm)
         (clear hpx)))
    go_ret
    exact ⟨hb1, .inr ⟨HR.out.symm, rfl⟩⟩
  · go_enter Tryd.func99, Tryd.ntmps99
    go_wp2_with (first
      | ((go_at_call 114)
         (refine hg.mono ?_)
         (rintro e wz ⟨rfl, hz⟩)
         (obtain rfl : w = wz := hz.symm))
      | (refine at_dst 33 rfl ?_; refine wpList_is (some 33) (.slice (some ⟨b, o + 8, none⟩) L (C - 8)) rfl (by rfl) (run_sl_rec _ _ rfl b o M C L rfl rfl hC1 hC2 _) ?_)
      | ((go_at_call 43)
         (refine hfm.mono ?_)
         (rintro e w1 ⟨hb1, v1, rfl, ho1⟩)
         (obtain ⟨a1, c1, rfl, hc1, hn1, hB1, _⟩ := own_bytes ho1)
         (have hpx := prefix_j (c2 := c1) (hb.below hb1 (Nat.le_refl _)) hC hB1 (fun j => hB _) (formF_lt _ (fun j => hB _)) (fun e => (hn1 e).1) (by omega))
         (rw [← HK.out] at hpx)
         (clear hfm))
      | ((go_at_call 115)
         (refine hpx.mono ?_)
         (rintro e wz ⟨rfl, hz⟩)
         (obtain rfl : w1 = wz := hz.symm)
         (clear hpx)))
    go_ret
    exact ⟨hb1, .inl ⟨HR.out.symm, by rw [← HL.out]; rfl⟩⟩
end Go.Proofs.YtoiaclmfljoomaaDoor

/- In a region that draws its order: one is taken first for which the last one waits by way of others. -/
namespace Go.Proofs.YtoiaclmfljoomaaDoor
open Go.ChangeShapes Go.WideShapes Go.ChangeAt Go.RowKit
set_option linter.unusedVariables false

section
variable {P : Program} {ops : Array Oper} {Q : Exit → Act → World → Prop} {md : Region.Mode} {S : World → Prop} {m : Nat}

theorem not_ready {k i : Nat} {listed : Array Bool} (hw : waitsFor md ops k i = true) (hi : listed.getD i true = false) : k ∉ Region.ready md ops listed := by
  intro hm
  obtain ⟨_, o, ho, hall⟩ := mem_ready.1 hm
  simp only [waitsFor, ho, Option.any_some, Array.any_eq_true', Bool.and_eq_true, beq_iff_eq] at hw
  obtain ⟨e, he, hb, rfl⟩ := hw
  have h1 := hall e he hb
  by_cases hlt : e.on < listed.size
  · simp [hlt] at hi h1
    rw [hi] at h1
    cases h1
  · simp [Array.getElem?_eq_none (Nat.not_lt.1 hlt)] at h1

/-- Each waits for the one ahead of it. -/
def chainB (md : Region.Mode) (ops : Array Oper) : Nat → List Nat → Bool
  | _, [] => true
  | i, k :: ks => waitsFor md ops k i && chainB md ops k ks

theorem chain_none {listed : Array Bool} : ∀ {ks : List Nat} {i m : Nat}, chainB md ops i (ks ++ [m]) = true → listed.getD i true = false → (∀ k ∈ ks, listed.getD k true = false) → m ∉ Region.ready md ops listed ∧ ∀ k ∈ ks, k ∉ Region.ready md ops listed
  | [], i, m, hc, hi, hk => by
    have hc' : (waitsFor md ops m i && true) = true := hc
    rw [Bool.and_true] at hc'
    exact ⟨not_ready hc' hi, fun k hk => by cases hk⟩
  | k :: ks, i, m, hc, hi, hk => by
    have hc' : (waitsFor md ops k i && chainB md ops k (ks ++ [m])) = true := hc
    rw [Bool.and_eq_true] at hc'
    obtain ⟨h1, h2⟩ := chain_none hc'.2 (hk k (List.mem_cons_self ..)) (fun q hq => hk q (List.mem_cons_of_mem _ hq))
    refine ⟨h1, fun q hq => ?_⟩
    rcases List.mem_cons.1 hq with rfl | h3
    · exact not_ready hc'.1 hi
    · exact h2 q h3

theorem AnyL.frontC {i : Nat} {oi : Oper} {v : Value} (ks : List Nat) (hi : ops[i]? = some oi) (him : i ≠ m) (hch : chainB md ops i (ks ++ [m]) = true) (hsel : ∀ (j : Nat) (o : Oper) cs b, ops[j]? = some o → o.op ≠ .select cs b)
    (hQ : ∀ c a w, Q (.panic c) (a.put oi.dst v) w → Q (.panic c) a w) : ∀ (n : Nat) (listed : Array Bool) (a : Act) (w : World), (∀ k ∈ ks, listed.getD k true = false) →
      (∀ j oj, ops[j]? = some oj → j ≠ i → listed.getD j true = false → (∀ e ∈ oj.after, Region.binds md e = true → e.on ≠ i) → oi.apart ops oj = true) →
      i ∈ Region.ready md ops listed → YieldsIf P ops S oi v a → S w → AnyL P md ops Q S m n (listed.setIfInBounds i true) (a.put oi.dst v) w → AnyL P md ops Q S m (n + 1) listed a w
  | n, listed, a, w, hun, hfree, hr, hy, hS, H => by
    refine ⟨fun h => absurd (h ▸ hr) (by simp), fun j hj => ?_⟩
    by_cases hji : j = i
    · subst hji
      exact hy.wpOp hi hS ⟨fun _ => hS, H⟩
    obtain ⟨hm0, hk0⟩ := chain_none hch (mem_ready.1 hr).1 hun
    have hjm : j ≠ m := fun e => hm0 (e ▸ hj)
    have hj' := ready_mono hj hji
    cases n with
    | zero => exact absurd (H.1 ▸ hj') (by simp)
    | succ n =>
      obtain ⟨hjun, oj, hoj, hall⟩ := mem_ready.1 hj
      have hno : ∀ e ∈ oj.after, Region.binds md e = true → e.on ≠ i := by
        intro e he hb heq
        have h1 := hall e he hb
        have h0 := (mem_ready.1 hr).1
        subst heq
        by_cases hlt : e.on < listed.size
        · simp [hlt] at h0 h1
          rw [h0] at h1
          cases h1
        · simp [Array.getElem?_eq_none (Nat.not_lt.1 hlt)] at h1
      refine wpOp_mono ?_ (wpOp_putIf hoj (hfree j oj hoj hji hjun hno) (fun cs b => hsel i oi cs b hi) (fun cs b => hsel j oj cs b hoj) hQ hy (H.2 j hj'))
      rintro a' w' ⟨hy', hS', H'⟩
      refine ⟨hS', AnyL.frontC ks hi him hch hsel hQ n (listed.setIfInBounds j true) a' w' (fun k hk => ?_) (fun k ok hk hki hun hn => hfree k ok hk hki ?_ hn) (ready_mono hr (Ne.symm hji)) hy' (hS' hjm) ?_⟩
      · have hjk : j ≠ k := fun e => hk0 k hk (e ▸ hj)
        rw [getD_set_ne true hjk]
        exact hun k hk
      · by_cases hjk : j = k
        · subst hjk; exact hjun
        · rwa [getD_set_ne true hjk] at hun
      · rw [Array.setIfInBounds_comm _ _ hji]
        exact H'

/-- One that yields in every world that meets S is taken first; the last one waits for it by way of ks. -/
theorem takeC {oi : Oper} (i : Nat) (ks : List Nat) (d : Option Tmp) (v : Value) {n : Nat} {listed : Array Bool} {a : Act} {w : World} (hi : ops[i]? = some oi) (hd : oi.dst = d) (him : i ≠ m) (hch : chainB md ops i (ks ++ [m]) = true) (hun : ks.all (fun k => listed.getD k true == false) = true)
    (hs : Region.noSelect ops = true) (hf : Region.free md ops listed i = true) (hr : (Region.ready md ops listed).contains i = true)
    (hQ : ∀ c a w, Q (.panic c) (a.put d v) w → Q (.panic c) a w) (hw : Region.wanted oi (yielded ops a.tmps) = true) (hy : ∀ w, S w → (execOp a.eval oi).run P w = .ok (.value v) w) (hS : S w)
    (h : AnyL P md ops Q S m n (listed.setIfInBounds i true) (a.put d v) w) : AnyL P md ops Q S m (n + 1) listed a w := by
  subst hd
  refine AnyL.frontC ks hi him hch (Region.noSelect_spec hs) hQ n listed a w (fun k hk => ?_) (Region.free_spec hi hf) (by simpa using hr) (.inl ⟨hw, hy⟩) hS h
  have := List.all_eq_true.1 hun k hk
  simpa using this

end
end Go.Proofs.YtoiaclmfljoomaaDoor

/- journal: reader, what it makes. -/
namespace Go.Proofs.YtoiaclmfljoomaaDoor
open Go.ChangeShapes Go.WideShapes Go.ChangeAt Go.RowKit
set_option linter.unusedVariables false

/-- A reader's variable r: what is left of the image in block b, from T on. -/
def RdAt (w : World) (r b N T C : Nat) : Prop := ∃ o, (o = T ∨ N = T) ∧ T ≤ N ∧ N ≤ C ∧ Has w r 33 #[.slice (some ⟨b, o, none⟩) (N - T) (C - T)]

theorem reader_c (w : World) (a : Option Addr) (L C : Nat) : Calls Tryd.prog 73 #[.slice a L C] w fun e w' => e = .returned (.func (.func 98) #[] #[ptr w.heap.size]) ∧ w' = w.alloc (.cells #[.slice a L C] 33) := by
  have hmf : ∀ (fn : Fn) (first cap : Array Value) (w : World), (Instr.makeFunc fn first cap).run Tryd.prog w = .ok (.func fn first cap) w := fun _ _ _ _ => rfl
  go_enter Tryd.func73, Tryd.ntmps73
  go_wp2
  go_ret
  exact ⟨rfl, rfl⟩

theorem run_slice_fromJ {o : Oper} {a : Act} (x l : Operand) (ho : o.op = .slice 33 x (some l) none none) (b off L cap q : Nat) (hx : a.eval x = .slice (some ⟨b, off, none⟩) L cap) (hl : a.eval l = .int .i64 (q : Nat)) (h1 : q ≤ L) (w : World) :
    (execOp a.eval o).run Tryd.prog w = .ok (.value (.slice (some (if cap = q then ⟨b, off, none⟩ else ⟨b, off + q, none⟩)) (L - q) (cap - q))) w := run_slice_from x l ho b off L cap q hx hl h1 w

theorem run_store_sl {o : Oper} {a : Act} (x y : Operand) (ho : o.op = .store 33 x y) (p : Addr) (hx : a.eval x = .pointer (some p)) (A : Option Addr) (n c : Nat) (hy : a.eval y = .slice A n c) (w : World) (u : Value) (h : w.cell? p = some u) (hf : w.frozen? p = false) : (execOp a.eval o).run Tryd.prog w = .ok .skip (w.setCell p (.slice A n c)) := by
  unfold execOp
  simp only [ho, hx, hy]
  go_simp

theorem has_set1 {w : World} {g t : Nat} {u : Value} (h : Has w g t #[u]) (v : Value) : Has (w.setCell ⟨g, 0, none⟩ v) g t #[v] := by
  have h' : w.heap[g]? = some (.cells #[u] t (0, 0)) := h
  show (w.setCell ⟨g, 0, none⟩ _).heap[g]? = _
  simp only [World.setCell, Array.getElem?_modify, h', if_pos, Option.map_some]
  rfl

theorem only_set1 (w : World) (g : Nat) (v : Value) : Only (fun k => k = g) w (w.drew.setCell ⟨g, 0, none⟩ v) :=
  ⟨rfl, rfl, rfl, by simp [World.setCell], fun k hk hn => by
    simp only [World.setCell, Array.getElem?_modify]
    rw [if_neg (fun e => hn e.symm)]
    rfl⟩

/-- What the reader's function leaves. -/
def NextR (w : World) (r b N T C : Nat) (B : Nat → Nat) (e : Ending) (w' : World) : Prop :=
  (okAt dgS B N T = true ∧ e = .returned (.slice (some ⟨b, T + 8, none⟩) (cntAt B T) (C - T - 8)) ∧ Only (fun k => k = r) w w' ∧ RdAt w' r b N (nextAt B T) C) ∨ (okAt dgS B N T = false ∧ e = .returned (.slice none 0 0) ∧ Below w.heap.size w w')

set_option maxRecDepth 100000 in
set_option maxHeartbeats 2000000 in
theorem next_c {w : World} {r b N T C : Nat} {B : Nat → Nat} (hG : Glob Hc Kc w) (h : RdAt w r b N T C) (hN : N ≤ 64000) (hb : Bytes w (some ⟨b, 0, none⟩) N B) (hB : ∀ k, B k < 256) :
    Calls Tryd.prog 98 #[ptr r] w (NextR w r b N T C B) := by
  obtain ⟨o, ho, hT, hC, hr⟩ := h
  have hbT : Bytes w (some ⟨b, o, none⟩) (N - T) (fun j => B (T + j)) := by
    rcases ho with rfl | rfl
    · have := hb.part o (N - o) (by omega)
      rwa [Nat.zero_add] at this
    · exact .inl (by omega)
  have hf := first_c hG hT hN (show N - T ≤ C - T by omega) hbT hB
  have c0 := hr.cell 0
  by_cases hok : okAt dgS B N T = true
  · have HO : Hid (okAt dgS B N T = true) := hok
    obtain ⟨a1, a2, a3, a4, _, _⟩ := (okAt_iff dgS B N T).1 hok
    have hoT : o = T := by omega
    subst hoT
    have a4' : o + 8 + jrnd (cntAt B o) ≤ N := a4
    obtain ⟨L, hL⟩ : ∃ L, L = cntAt B o := ⟨_, rfl⟩
    have HL : Hid (L = cntAt B o) := hL
    rw [← hL] at a2 a3 a4'
    obtain ⟨Z, hZ⟩ : ∃ Z, Z = 8 + jrnd L := ⟨_, rfl⟩
    have hZn : nextAt B o = o + Z := by unfold nextAt; rw [← hL]; omega
    have hZ2 : Z ≤ N - o := by omega
    have HZ : Hid (Z = 8 + jrnd L) := hZ
    have HZn : Hid (nextAt B o = o + Z) := hZn
    clear hok hL hZ a4 a4' hZn
    have fz := hr.free 0
    obtain ⟨X, hX⟩ : ∃ X : Addr, X = (if C - o = Z then ⟨b, o, none⟩ else ⟨b, o + Z, none⟩) := ⟨_, rfl⟩
    have HX : Hid (X = (if C - o = Z then ⟨b, o, none⟩ else ⟨b, o + Z, none⟩)) := hX
    clear hX
    go_enter Tryd.func98, Tryd.ntmps98
    go_wp2_with (first
      | ((go_at_call 99)
         (refine Calls.mono hf ?_)
         (rintro e w1 ⟨hb1, (⟨_, rfl⟩ | ⟨hx, _⟩)⟩)
         (case inr => exact absurd (HO.out.symm.trans hx) (by decide))
         (rw [← HL.out])
         (have hr1 := hr.below hb1 hr.lt)
         (have c1 := hr1.cell 0)
         (have f1 := hr1.free 0)
         (have hnil : ∀ w : World, (binOp BinOp.neq 33 (.slice (some ⟨b, o + 8, none⟩) L (C - o - 8)) (.slice none 0 0)).run Tryd.prog w = .ok (.bool true) w := fun _ => by kernel_rfl)
         (have hsz := fun w => size_j (some ⟨b, o + 8, none⟩) L (C - o - 8) w (by omega))
         (clear hf)))
    refine lastTo (S := fun wz => wz = w1.drew) 4 (by kernel_rfl) rfl (fun hHeld => ?_)
    refine takeC 0 [3] (some 7) (.slice (some ⟨b, o, none⟩) (N - o) (C - o)) rfl rfl (by decide) (by kernel_rfl) (by kernel_rfl) (by kernel_rfl) (by kernel_rfl) (by kernel_rfl) (fun _ _ _ h => h) (by rfl) (fun wz hz => by rw [hz]; exact run_load_row1 _ rfl _ rfl _ _ c1) hHeld ?_
    simp only [Act.put, List.setIfInBounds_toArray, List.set_cons_zero, List.set_cons_succ]
    refine takeC 1 [2, 3] (some 8) (.slice (some ⟨b, o + 8, none⟩) L (C - o - 8)) rfl rfl (by decide) (by kernel_rfl) (by kernel_rfl) (by kernel_rfl) (by kernel_rfl) (by kernel_rfl) (fun _ _ _ h => h) (by rfl) (fun _ _ => rfl) hHeld ?_
    simp only [Act.put, List.setIfInBounds_toArray, List.set_cons_zero, List.set_cons_succ]
    refine callL 2 (some 9) 41 #[.slice (some ⟨b, o + 8, none⟩) L (C - o - 8)] (by kernel_rfl) rfl rfl (by rfl) (by kernel_rfl) (hsz _) ?_
    rintro e wz ⟨rfl, hz⟩
    refine ⟨_, rfl, hz, ?_⟩
    rw [hz, ← HZ.out]
    simp only [Act.put, List.setIfInBounds_toArray, List.set_cons_zero, List.set_cons_succ]
    refine takeL 3 (some 10) (.slice (some X) (N - o - Z) (C - o - Z)) rfl rfl (by decide) (by kernel_rfl) (by kernel_rfl) (by kernel_rfl) (by kernel_rfl) (fun _ _ _ h => h) (by rfl) (fun wz _ => by rw [HX.out]; exact run_slice_fromJ _ _ rfl b o (N - o) (C - o) Z rfl rfl hZ2 wz) rfl ?_
    simp only [Act.put, List.setIfInBounds_toArray, List.set_cons_zero, List.set_cons_succ]
    refine lastSkip 4 none (w1.drew.setCell ⟨r, 0, none⟩ (.slice (some X) (N - o - Z) (C - o - Z))) (by kernel_rfl) rfl rfl (by rfl) (run_store_sl _ _ rfl _ rfl _ _ _ rfl _ _ c1 f1) (by kernel_rfl) ?_
    have hH2 : Has (w1.drew.setCell ⟨r, 0, none⟩ (.slice (some X) (N - o - Z) (C - o - Z))) r 33 #[.slice (some X) (N - o - Z) (C - o - Z)] := has_set1 (hr1.drewN 1) _
    have ho2 : Only (fun k => k = r) w (w1.drew.setCell ⟨r, 0, none⟩ (.slice (some X) (N - o - Z) (C - o - Z))) := (Only.of_below hb1 (Nat.le_refl _)).trans (only_set1 w1 r _) (fun _ _ h => h)
    generalize w1.drew.setCell ⟨r, 0, none⟩ (.slice (some X) (N - o - Z) (C - o - Z)) = w2 at hH2 ho2 ⊢
    go_wp2
    go_ret
    refine .inl ⟨HO.out, by rw [← HL.out]; rfl, ho2, ?_⟩
    rw [HZn.out]
    have hX2 := HX.out
    by_cases hCZ : C - o = Z
    · rw [if_pos hCZ] at hX2
      subst hX2
      exact ⟨o, .inr (by omega), by omega, hC, by rw [show N - (o + Z) = N - o - Z by omega, show C - (o + Z) = C - o - Z by omega]; exact hH2⟩
    · rw [if_neg hCZ] at hX2
      subst hX2
      exact ⟨o + Z, .inl rfl, by omega, hC, by rw [show N - (o + Z) = N - o - Z by omega, show C - (o + Z) = C - o - Z by omega]; exact hH2⟩
  · have HO : Hid (okAt dgS B N T = false) := by show okAt dgS B N T = false; simpa using hok
    clear hok
    go_enter Tryd.func98, Tryd.ntmps98
    go_wp2_with (first
      | ((go_at_call 99)
         (refine Calls.mono hf ?_)
         (rintro e w1 ⟨hb1, (⟨hx, _⟩ | ⟨_, rfl⟩)⟩)
         (case inl => exact absurd (HO.out.symm.trans hx) (by decide))
         (have hnil : ∀ w : World, (binOp BinOp.neq 33 (.slice none 0 0) (.slice none 0 0)).run Tryd.prog w = .ok (.bool false) w := fun _ => by kernel_rfl)
         (clear hf)))
    go_ret
    exact .inr ⟨HO.out, rfl, hb1⟩
end Go.Proofs.YtoiaclmfljoomaaDoor

/- journal: standing. -/
namespace Go.Proofs.YtoiaclmfljoomaaDoor
open Go.ChangeShapes Go.WideShapes Go.ChangeAt Go.RowKit
set_option linter.unusedVariables false

/-- Where the records of a list lie in block b. -/
def Ab (b : Nat) (q : List (Nat × Nat)) : Nat → Option Addr := fun i => some ⟨b, (q.getD i (0, 0)).1 + 8, none⟩

def capOk (q : List (Nat × Nat)) (Cc : Nat → Nat) : Prop := ∀ i x, q[i]? = some x → x.2 ≤ Cc i

theorem Ab_snoc (b : Nat) (q : List (Nat × Nat)) (x : Nat × Nat) (i : Nat) (hi : i < q.length) : Ab b (q ++ [x]) i = Ab b q i := by
  unfold Ab
  rw [List.getD_eq_getElem?_getD, List.getD_eq_getElem?_getD, List.getElem?_append_left hi]

theorem Ab_last (b : Nat) (q : List (Nat × Nat)) (x : Nat × Nat) : Ab b (q ++ [x]) q.length = some ⟨b, x.1 + 8, none⟩ := by
  unfold Ab
  simp [List.getD]

theorem own_only {w w' : World} {G : Nat → Prop} {b e sz n : Nat} {v : Value} {xs : List Value} (h : w.ownsRow b e sz v n xs) (ho : Only G w w') (hn : ∀ g, v.ownBlock = some g → ¬ G g) : w'.ownsRow b e sz v n xs := by
  refine ⟨h.1, ?_⟩
  rcases h.2 with h0 | ⟨g, cap, cur, rfl, h1, hg, r⟩
  · exact .inl h0
  · exact .inr ⟨g, cap, cur, rfl, h1, (ho.block g (Array.getElem?_eq_some_iff.1 hg).1 (hn g rfl)).trans hg, r⟩

/-- What standing holds: the records q are told, up to T; rv is the next one. -/
def StI (w : World) (r b N C : Nat) (B : Nat → Nat) (v rv : Value) (wr : World) : Prop :=
  ∃ T q Cc, reads dgS B N 0 = (q ++ (reads dgS B N T).1, (reads dgS B N T).2) ∧ wr.ownsRow (w.heap.size + 1) 33 1 v q.length (rcells q (Ab b q) Cc) ∧ capOk q Cc ∧ Below w.heap.size w wr ∧ w.heap.size + 1 ≤ wr.heap.size ∧ q.length ≤ T ∧ T ≤ N ∧
    ((okAt dgS B N T = true ∧ rv = .slice (some ⟨b, T + 8, none⟩) (cntAt B T) (C - T - 8) ∧ RdAt wr r b N (nextAt B T) C) ∨ (okAt dgS B N T = false ∧ rv = .slice none 0 0))

theorem RdAt.next {w w' : World} {r b N T C : Nat} (h : RdAt w r b N T C) (hb : Below w.heap.size w w') : RdAt w' r b N T C := by
  obtain ⟨o, h1, h2, h3, h4⟩ := h
  exact ⟨o, h1, h2, h3, h4.below hb h4.lt⟩

theorem RdAt.kept {w w' : World} {r b N T C g : Nat} (h : RdAt w r b N T C) (hg : w.grownBy w' (some g)) (hne : r ≠ g) : RdAt w' r b N T C := by
  obtain ⟨o, h1, h2, h3, h4⟩ := h
  exact ⟨o, h1, h2, h3, h4.grown hg hne⟩

def StR (w : World) (b N : Nat) (B : Nat → Nat) (e : Ending) (w' : World) : Prop :=
  Below w.heap.size w w' ∧ ∃ v Cc, e = .returned v ∧ w'.ownsRow w.heap.size 33 1 v (reads dgS B N 0).1.length (rcells (reads dgS B N 0).1 (Ab b (reads dgS B N 0).1) Cc) ∧ capOk (reads dgS B N 0).1 Cc

theorem nil_ne (b o L C : Nat) (w : World) : (binOp BinOp.neq 33 (.slice (some ⟨b, o, none⟩) L C) (.slice none 0 0)).run Tryd.prog w = .ok (.bool true) w := by kernel_rfl
theorem nil_nn (w : World) : (binOp BinOp.neq 33 (.slice none 0 0) (.slice none 0 0)).run Tryd.prog w = .ok (.bool false) w := by kernel_rfl

def lenS : Value → Nat
  | .slice _ n _ => n
  | _ => 0

theorem own_len {w : World} {b e s n : Nat} {v : Value} {xs : List Value} (h : w.ownsRow b e s v n xs) : lenS v = n := by
  rcases h.2 with ⟨rfl, h0⟩ | ⟨g, cap, cur, rfl, _⟩
  · rw [h0]; rfl
  · rfl

theorem st_next {w wr w' : World} {b N C : Nat} {B : Nat → Nat} {T : Nat} {q : List (Nat × Nat)} {Cc : Nat → Nat} {v : Value} {e : Ending}
    (hr : reads dgS B N 0 = (q ++ (reads dgS B N T).1, (reads dgS B N T).2)) (ho : wr.ownsRow (w.heap.size + 1) 33 1 v q.length (rcells q (Ab b q) Cc)) (hc : capOk q Cc) (hb : Below w.heap.size w wr) (hs : w.heap.size + 1 ≤ wr.heap.size) (hq : q.length ≤ T) (hT : T ≤ N)
    (hn : NextR wr w.heap.size b N T C B e w') : ∃ rv, e = .returned rv ∧ StI w w.heap.size b N C B v rv w' := by
  rcases hn with ⟨h1, rfl, h2, h3⟩ | ⟨h1, rfl, h2⟩
  · refine ⟨_, rfl, T, q, Cc, hr, own_only ho h2 (fun g hg e => ?_), hc, hb.trans (h2.below (fun k hk => by omega) (by omega)), Nat.le_trans hs h2.size, hq, hT, .inl ⟨h1, rfl, h3⟩⟩
    have := (ho.lt g hg).1
    omega
  · exact ⟨_, rfl, T, q, Cc, hr, own_belowJ ho h2, hc, hb.trans (h2.mono (by omega)), Nat.le_trans hs h2.size, hq, hT, .inr ⟨h1, rfl⟩⟩

theorem st_app {w wr w3 : World} {b N C T T2 L : Nat} {B : Nat → Nat} {q : List (Nat × Nat)} {Cc : Nat → Nat} {v v4 : Value}
    (hown : wr.ownsRow (w.heap.size + 1) 33 1 v q.length (rcells q (Ab b q) Cc)) (hownA : (wr.alloc (.cells #[.slice (some ⟨b, T + 8, none⟩) L (C - T - 8)] 33)).ownsRow (w.heap.size + 1) 33 1 v q.length (rcells q (Ab b q) Cc)) (hcap : capOk q Cc) (hbel : Below w.heap.size w wr) (hsz : w.heap.size + 1 ≤ wr.heap.size) (hRd : RdAt wr w.heap.size b N T2 C)
    (ho3 : w3.ownsRow (w.heap.size + 1) 33 1 v4 (q.length + 1) (rcells q (Ab b q) Cc ++ [.slice (some ⟨b, T + 8, none⟩) L (C - T - 8)])) (hg3 : (wr.alloc (.cells #[.slice (some ⟨b, T + 8, none⟩) L (C - T - 8)] 33)).grownBy w3 v.ownBlock) (hC : N ≤ C) (hL : L = cntAt B T) (hLe : T + 8 + L ≤ N) (hnT : T < T2) (hqT : q.length ≤ T) :
    w3.ownsRow (w.heap.size + 1) 33 1 v4 (q ++ [(T, L)]).length (rcells (q ++ [(T, L)]) (Ab b (q ++ [(T, L)])) (fun i => if i = q.length then C - T - 8 else Cc i)) ∧ capOk (q ++ [(T, L)]) (fun i => if i = q.length then C - T - 8 else Cc i) ∧ Below w.heap.size w w3 ∧ w.heap.size + 1 ≤ w3.heap.size ∧ RdAt w3 w.heap.size b N T2 C ∧ (q ++ [(T, L)]).length ≤ T2 ∧ Below (w.heap.size + 1) wr w3 := by
  have hbA : Below wr.heap.size wr (wr.alloc (.cells #[.slice (some ⟨b, T + 8, none⟩) L (C - T - 8)] 33)) := (Below.refl _ _).alloc (Nat.le_refl _) _
  have hb3 : Below (w.heap.size + 1) wr w3 := (hbA.mono hsz).grown hg3 (Nat.le_trans hsz hbA.size) (fun g e => (hownA.lt g e).1)
  refine ⟨?_, ?_, hbel.trans (hb3.mono (Nat.le_succ _)), Nat.le_trans hsz hb3.size, ?_, by rw [List.length_append, List.length_singleton]; omega, hb3⟩
  · rw [rcells_snoc q (T, L) (Ab b q) _ Cc _ (some ⟨b, T + 8, none⟩) (C - T - 8) (fun i hi => ⟨Ab_snoc b q _ i hi, by rw [if_neg (by omega)]⟩) (Ab_last b q _) (by rw [if_pos rfl]), List.length_append, List.length_singleton]
    exact ho3
  · intro i x hx
    by_cases hi : i < q.length
    · rw [List.getElem?_append_left hi] at hx
      show x.2 ≤ if i = q.length then C - T - 8 else Cc i
      rw [if_neg (by omega)]
      exact hcap i x hx
    · have hil : i < (q ++ [(T, L)]).length := (List.getElem?_eq_some_iff.1 hx).1
      rw [List.length_append, List.length_singleton] at hil
      obtain rfl : i = q.length := by omega
      rw [List.getElem?_append_right (Nat.le_refl _)] at hx
      obtain rfl : (T, L) = x := by simpa using hx
      show L ≤ if q.length = q.length then C - T - 8 else Cc q.length
      rw [if_pos rfl]
      omega
  · obtain ⟨o, h1, h2, h3, h4⟩ := hRd
    exact ⟨o, h1, h2, h3, (hb3.block _ (Nat.lt_succ_self _)).trans h4⟩

set_option maxRecDepth 100000 in
set_option maxHeartbeats 2000000 in
theorem standing_c {w : World} {b N C : Nat} {B : Nat → Nat} (hG : Glob Hc Kc w) (hN : N ≤ 64000) (hC : N ≤ C) (hb : Bytes w (some ⟨b, 0, none⟩) N B) (hB : ∀ k, B k < 256) :
    Calls Tryd.prog 51 #[.slice (some ⟨b, 0, none⟩) N C] w (StR w b N B) := by
  have hrd := reader_c w (some ⟨b, 0, none⟩) N C
  obtain ⟨wB, hwB⟩ : ∃ wB, wB = w.alloc (.cells #[.slice (some ⟨b, 0, none⟩) N C] 33) := ⟨_, rfl⟩
  have hbB : Below w.heap.size w wB := by rw [hwB]; exact (Below.refl _ _).alloc (Nat.le_refl _) _
  have hsB : w.heap.size + 1 ≤ wB.heap.size := by rw [hwB]; simp
  have hR0 : RdAt wB w.heap.size b N 0 C := ⟨0, .inl rfl, Nat.zero_le _, hC, by rw [hwB]; exact Has.new _ _ _⟩
  rw [← hwB] at hrd
  have hn0 := next_c (hG.below hbB hG.1) hR0 hN (hb.below hbB (Nat.le_refl _)) hB
  have own0 : wB.ownsRow (w.heap.size + 1) 33 1 (.slice none 0 0) ([] : List (Nat × Nat)).length (rcells [] (Ab b []) (fun _ => 0)) := ⟨rfl, .inl ⟨rfl, rfl⟩⟩
  clear hwB
  go_enter Tryd.func51, Tryd.ntmps51
  go_wp2_with (first
    | ((go_at_call 73)
       (refine hrd.mono ?_)
       (rintro e w1 ⟨rfl, hz⟩)
       (obtain rfl : wB = w1 := hz.symm)
       (clear hrd))
    | ((go_at_call 98)
       (refine Calls.mono hn0 ?_)
       (intro e w2 hn2)
       (obtain ⟨rv, rfl, hSt⟩ := st_next (q := []) (T := 0) rfl own0 (fun i x h => by simp at h) hbB hsB (Nat.le_refl _) (Nat.zero_le _) hn2)
       (clear hn0 hn2)))
  go_loopw [3, 5] (fun v rv wr => ∃ x y, v = x ∧ rv = y ∧ StI w w.heap.size b N C B x y wr) (fun v _ _ => N - lenS v)
  case atStart => exact ⟨_, _, rfl, rfl, hSt⟩
  case round =>
    clear hSt hR0 own0
    obtain ⟨v3, v5, e3, e5, hrel⟩ := hrel
    obtain rfl := e3.symm
    obtain rfl := e5.symm
    obtain ⟨T, q, Cc, hr, hown, hcap, hbel, hsz, hqT, hTN, hnx⟩ := hrel
    rcases hnx with ⟨hok, rfl, hRd⟩ | ⟨hno, rfl⟩
    · obtain ⟨a1, a2, a3, a4, _, _⟩ := (okAt_iff dgS B N T).1 hok
      have hnn := nil_ne b (T + 8) (cntAt B T) (C - T - 8)
      have HR : Hid (reads dgS B N 0 = ((q ++ [(T, cntAt B T)]) ++ (reads dgS B N (nextAt B T)).1, (reads dgS B N (nextAt B T)).2)) := by
        show reads dgS B N 0 = ((q ++ [(T, cntAt B T)]) ++ (reads dgS B N (nextAt B T)).1, (reads dgS B N (nextAt B T)).2)
        rw [hr, reads_yes hok]
        simp
      have hnT := nextAt_lt B T
      have HL : Hid (lenS v3 = q.length) := own_len hown
      have hqs : q.length ≤ 100000 := by omega
      obtain ⟨T2, hT2⟩ : ∃ T2, T2 = nextAt B T := ⟨_, rfl⟩
      obtain ⟨L, hL⟩ : ∃ L, L = cntAt B T := ⟨_, rfl⟩
      rw [← hT2] at hRd hnT a4 HR
      rw [← hL] at a3 hnn HR ⊢
      have HLL : Hid (L = cntAt B T) := hL
      have a5 : T + 8 + L ≤ N := by have := jrnd_ge (cntAt B T); have a4' : T + 8 + jrnd (cntAt B T) ≤ N := by rw [hT2] at a4; exact a4
                                    omega
      have hbwr := hb.below hbel (Nat.le_refl _)
      have hGwr := hG.below hbel hG.1
      clear hr hok a2 hT2 hL hbwr hGwr
      have hbA : Below wr.heap.size wr (wr.alloc (.cells #[.slice (some ⟨b, T + 8, none⟩) L (C - T - 8)] 33)) := (Below.refl _ _).alloc (Nat.le_refl _) _
      have hownA := own_belowJ hown hbA
      have hnc : Has (wr.alloc (.cells #[.slice (some ⟨b, T + 8, none⟩) L (C - T - 8)] 33)) wr.heap.size 33 #[.slice (some ⟨b, T + 8, none⟩) L (C - T - 8)] := Has.new _ _ _
      go_wp2_with (first
        | ((go_at_call 98)
           (refine Calls.mono hn4 ?_)
           (intro e w4 hn5)
           (obtain ⟨rv, rfl, hSt⟩ := st_next HR.out ho4 hcap4 hbw4 hsz4 hlen4 a4 hn5)
           (clear hn4 hn5))
        | ((refine at_dst 17 rfl ?_)
           (refine wpList_append_rec rfl _ _ rfl (w.heap.size + 1) v3 q.length _ rfl hownA wr.heap.size _ rfl (hnc.cell 0) rfl hqs (by simp; omega) ?_)
           (intro v4 w3 ho3 hg3)
           (obtain ⟨ho4, hcap4, hbw4, hsz4, hRd4, hlen4, hb4⟩ := st_app hown hownA hcap hbel hsz hRd ho3 hg3 hC HLL.out a5 hnT hqT)
           (have hn4 := next_c (hG.below hbw4 hG.1) hRd4 hN (hb.below hbw4 (Nat.le_refl _)) hB)))
      go_roundw
      case rel => exact ⟨_, _, rfl, rfl, hSt⟩
      case measure =>
        have h7 := own_len ho4
        have h8 := HL.out
        rw [List.length_append, List.length_singleton] at h7
        show N - lenS v4 < N - lenS v3
        omega
    · have HN : Hid (okAt dgS B N T = false) := hno
      have hnn := nil_nn
      clear hno
      go_wp2
      go_ret
      rw [reads_no HN.out, List.append_nil] at hr
      refine ⟨hbel, v3, Cc, rfl, ?_, ?_⟩
      · rw [hr]
        exact own_monoJ hown (by omega)
      · rw [hr]
        exact hcap
end Go.Proofs.YtoiaclmfljoomaaDoor

/- journal: held. -/
namespace Go.Proofs.YtoiaclmfljoomaaDoor
open Go.ChangeShapes Go.WideShapes Go.ChangeAt Go.RowKit
set_option linter.unusedVariables false

/-- The first error that reading all sectors meets. -/
def HeldR (s : DS) (w : World) (e : Ending) (w' : World) : Prop :=
  Below w.heap.size w w' ∧ ((s.dead = true ∧ e = .returned (.tuple #[.slice none 0 0, .int .i64 73])) ∨ (s.dead = false ∧ (∃ i, i < s.n ∧ s.bad i = true) ∧ e = .returned (.tuple #[.slice none 0 0, .int .i64 72])) ∨
    (s.dead = false ∧ (∀ i, i < s.n → s.bad i = false) ∧ ∃ v, e = .returned (.tuple #[v, .int .i64 0]) ∧ w'.ownsRow w.heap.size 5 1 v (64 * s.n) (bl (byOf (holds s)) (64 * s.n))))

set_option maxRecDepth 100000 in
set_option maxHeartbeats 1000000 in
theorem held_c {D : DevRep} (hD : DevOk D) (hM : DevMore D) {w : World} {p c m : Nat} {s : DS} {F : Nat → Prop} (h : Dev D w p s c m F) (hn : 1 ≤ s.n) (hn2 : s.n ≤ 1000) :
    Calls Tryd.prog 50 #[ptr p] w (HeldR s w) := by
  have S1 := hM.size w p s c m F h
  cases hd : s.dead with
  | true =>
    have HD : Hid (s.dead = true) := hd
    have he : rdErr s 0 = 73 := by
      unfold rdErr
      rw [hd, if_pos rfl]
    have i0 : (0 : Int) < (s.n : Int) := by omega
    clear hd
    go_enter Tryd.func50, Tryd.ntmps50
    go_wp2_with (first
      | ((go_at_call 37)
         (refine S1.mono ?_)
         (rintro e w1 ⟨rfl, hb1⟩)
         (clear S1)
         (have R1 := hD.read w1 p s c m F 0 (h.below hD hb1 (Nat.le_refl _)) (by unfold i64ok; omega))
         (rw [he] at R1)))
    go_loopw [4, 10] (fun v iv wr => v = .slice none 0 0 ∧ iv = .int .i64 0 ∧ wr = w1) (fun _ _ _ => 0)
    case atStart => exact ⟨rfl, rfl, rfl⟩
    case round =>
      obtain ⟨rfl, rfl, hw⟩ := hrel
      obtain rfl : w1 = wr := hw.symm
      go_wp2_with (first
        | ((go_at_call 69)
           (refine R1.mono ?_)
           (rintro e w2 ⟨hb2, v2, rfl, (⟨_, hv2⟩ | ⟨hx, _⟩)⟩)
           (case inr => exact absurd hx (by decide))
           (clear R1)))
      go_ret2
      exact ⟨hb1.trans (hb2.mono hb1.size), .inl ⟨HD.out, rfl⟩⟩
  | false =>
    have HD : Hid (s.dead = false) := hd
    have he : ∀ k : Nat, k < s.n → rdErr s (k : Int) = if s.bad k then 72 else 0 := by
      intro k hk
      unfold rdErr
      rw [hd, if_neg (by simp), if_neg (by omega), Int.toNat_natCast]
    clear hd
    go_enter Tryd.func50, Tryd.ntmps50
    go_wp2_with (first
      | ((go_at_call 37)
         (refine S1.mono ?_)
         (rintro e w1 ⟨rfl, hb1⟩)
         (clear S1)))
    go_loopw [4, 10] (fun v iv wr => ∃ k : Nat, k ≤ s.n ∧ iv = .int .i64 (k : Nat) ∧ wr.ownsRow w.heap.size 5 1 v (64 * k) (bl (byOf (holds s)) (64 * k)) ∧ Below w.heap.size w wr ∧ ∀ i, i < k → s.bad i = false)
      (fun _ iv _ => s.n - (intOf iv).toNat)
    case atStart => exact ⟨0, Nat.zero_le _, rfl, ⟨rfl, .inl ⟨rfl, rfl⟩⟩, hb1, fun i hi => by omega⟩
    case round =>
      obtain ⟨k, hk, rfl, hown, hbel, hgood⟩ := hrel
      clear hb1
      have hdr := h.below hD hbel (Nat.le_refl _)
      have ki : (0 : Int) ≤ (k : Int) ∧ (k : Int) ≤ 2048 := by omega
      by_cases hlt : k < s.n
      · have i0 : (k : Int) < (s.n : Int) := by omega
        have R1 := hD.read wr p s c m F (k : Int) hdr (by unfold i64ok; omega)
        rw [he k hlt] at R1
        cases hbk : s.bad k with
        | true =>
          rw [hbk, if_pos rfl] at R1
          have HB : Hid (s.bad k = true) := hbk
          clear hbk
          go_wp2_with (first
            | ((go_at_call 69)
               (refine R1.mono ?_)
               (rintro e w2 ⟨hb2, v2, rfl, (⟨_, hv2⟩ | ⟨hx, _⟩)⟩)
               (case inr => exact absurd hx (by decide))
               (clear R1)))
          go_ret2
          exact ⟨hbel.trans (hb2.mono hbel.size), .inr (.inl ⟨HD.out, ⟨k, hlt, HB.out⟩, rfl⟩)⟩
        | false =>
          rw [hbk, if_neg (by simp)] at R1
          have HB : Hid (s.bad k = false) := hbk
          clear hbk
          go_wp2_with (first
            | ((go_at_call 69)
               (refine R1.mono ?_)
               (rintro e w2 ⟨hb2, v2, rfl, (⟨hv, _⟩ | ⟨_, hv2⟩)⟩)
               (case inl => exact absurd rfl hv)
               (clear R1)
               (obtain ⟨g2, o2, c2, rfl, hc2, hg2, hB2⟩ := hv2.bytes)
               (have hown2 := own_below hown hb2 (fun g hg => (hown.lt g hg).2))
               (have hbw2 := hbel.trans (hb2.mono hbel.size)))
            | ((refine at_dst 24 rfl ?_)
               (refine wpList_append_bytes rfl _ _ rfl w.heap.size _ (64 * k) (byOf (holds s)) rfl hown2 (some ⟨g2, o2, none⟩) 64 c2 _ rfl (fun e => by cases e) hB2 (by omega) hbw2.size ?_)
               (intro v3 w3 ho3 hg3)
               (rw [bl_extJ _ _ _ _ (fun j hj => by (rw [Int.toNat_natCast]; exact byOf_next (holds s) k j hj))] at ho3)
               (have hbw3 := below_gJ hbw2 hg3 (fun g e => (hown2.lt g e).1))))
          go_roundw
          case rel => exact ⟨k + 1, by omega, by go_num, by rw [show 64 * (k + 1) = 64 * k + 64 by omega]; exact ho3, hbw3, fun i hi => by
            by_cases hik : i = k
            · rw [hik]; exact HB.out
            · exact hgood i (by omega)⟩
          case measure => simp [intOf]; omega
      · obtain rfl : k = s.n := by omega
        go_wp2
        go_ret2
        exact ⟨hbel, .inr (.inr ⟨HD.out, hgood, _, rfl, hown⟩)⟩
end Go.Proofs.YtoiaclmfljoomaaDoor

/- Rows of bytes of the call's own: cleared from a place on, written over. -/
namespace Go.Proofs.YtoiaclmfljoomaaDoor
open Go.ChangeShapes Go.WideShapes Go.ChangeAt Go.RowKit
set_option linter.unusedVariables false

theorem bl_take (f : Nat → Nat) (n k : Nat) (h : k ≤ n) : (bl f n).take k = bl f k := by
  unfold bl
  rw [← List.map_take, List.take_range, Nat.min_eq_left h]

/-- f laid over F from o on. -/
theorem bl_over (F f : Nat → Nat) (N o n : Nat) (h : o + n ≤ N) : bl F o ++ bl f n ++ (bl F N).drop (o + n) = bl (over F o n f) N := by
  apply List.ext_getElem?
  intro i
  have hl : (bl F o ++ bl f n).length = o + n := by simp [bl]
  by_cases h1 : i < o
  · rw [List.append_assoc, List.getElem?_append_left (by simp [bl]; exact h1), bl_get _ _ _ h1, bl_get _ _ _ (by omega)]
    unfold over
    rw [if_neg (by omega)]
  · by_cases h2 : i < o + n
    · rw [List.getElem?_append_left (by rw [hl]; exact h2), List.getElem?_append_right (by simp [bl]; omega)]
      have e : (bl F o).length = o := by simp [bl]
      rw [e, bl_get _ _ _ (by omega), bl_get _ _ _ (by omega)]
      unfold over
      rw [if_pos (by omega)]
    · rw [List.getElem?_append_right (by rw [hl]; omega), hl, List.getElem?_drop, show o + n + (i - (o + n)) = i by omega]
      by_cases h3 : i < N
      · rw [bl_get _ _ _ h3, bl_get _ _ _ h3]
        unfold over
        rw [if_neg (by omega)]
      · rw [List.getElem?_eq_none (by simp [bl]; omega), List.getElem?_eq_none (by simp [bl]; omega)]

/-- A row of the call's own, some of its cells written over. -/
theorem own_over {w : World} {b g N C o n : Nat} {F f : Nat → Nat} (h : w.ownsRow b 5 1 (.slice (some ⟨g, 0, none⟩) N C) N (bl F N)) (hn : o + n ≤ N) : ∃ cur, w.heap[g]? = some (.cells cur 5 (0, 0)) ∧ cur.size = C ∧ N ≤ C ∧
    (w.setRow g (cur.toList.take o ++ bl f n ++ cur.toList.drop (o + (bl f n).length)).toArray).ownsRow b 5 1 (.slice (some ⟨g, 0, none⟩) N C) N (bl (over F o n f) N) := by
  rcases h.2 with ⟨e, _⟩ | ⟨g', cap, cur, e, hb, hg, hnc, hm, hs, ht⟩
  · cases e
  · cases e
    rw [Nat.mul_one] at hs ht
    have hl : (bl f n).length = n := by simp [bl]
    refine ⟨cur, hg, hs, hnc, ⟨bl_len _ _, .inr ⟨g, C, _, rfl, hb, setRow_heap w g cur _ 5 _ hg, hnc, hm, ?_, ?_⟩⟩⟩
    · simp only [List.size_toArray, List.length_append, List.length_take, List.length_drop, Array.length_toList, hl, hs]
      omega
    · rw [Nat.mul_one, ← bl_over F f N o n hn]
      have e1 : cur.toList.take o = bl F o := by
        rw [← bl_take F N o (by omega), ← ht, List.take_take, Nat.min_eq_left (by omega)]
      rw [e1, hl]
      rw [List.take_append, List.take_of_length_le (by simp [bl]; omega)]
      congr 1
      rw [show (bl F o ++ bl f n).length = o + n by simp [bl], ← List.drop_take, ht]

theorem clr_over (I : Nat → Nat) (N E : Nat) (h : E ≤ N) : bl (over I E (N - E) fun _ => 0) N = bl (clr E I) N := by
  apply bl_ext
  intro j hj
  unfold over clr
  by_cases h1 : j < E
  · rw [if_neg (by omega), if_pos h1]
  · rw [if_pos (by omega), if_neg h1]

theorem zero5 (w : World) : (zeroValue 5).run Tryd.prog w = .ok (.int .u8 0) w := by kernel_rfl

/-- clear of a row from E on. -/
theorem run_clear_own {w : World} {b g N C E : Nat} {I : Nat → Nat} (h : w.ownsRow b 5 1 (.slice (some ⟨g, 0, none⟩) N C) N (bl I N)) (hE : E ≤ N) : ∃ w', (∀ (o : Oper) (a : Act) (x : Operand), o.op = .call { callee := .builtin .clear, args := #[x], argTypes := #[33] } → a.eval x = .slice (some (if C = E then ⟨g, 0, none⟩ else ⟨g, 0 + E, none⟩)) (N - E) (C - E) → (execOp a.eval o).run Tryd.prog w = .ok (.value (.tuple #[])) w') ∧
    w'.ownsRow b 5 1 (.slice (some ⟨g, 0, none⟩) N C) N (bl (clr E I) N) ∧ w.grownBy w' (some g) := by
  by_cases h0 : N = E
  · subst h0
    refine ⟨w, fun o a x ho hx => ?_, ?_, grownBy_refl _ _⟩
    · rw [Nat.sub_self] at hx
      unfold execOp
      simp [ho, resolve, invoke, builtin, hx, Builtin.clear_, run_underlying Tryd.underlying33]
    · rw [← clr_over I N N hE]
      have : bl (over I N (N - N) fun _ => 0) N = bl I N := by
        apply bl_ext
        intro j hj
        unfold over
        rw [if_neg (by omega)]
      rw [this]
      exact h
  · obtain ⟨cur, hg, hs, hnc, hr⟩ := own_over (f := fun _ => 0) h (show E + (N - E) ≤ N by omega)
    rw [clr_over I N E hE] at hr
    refine ⟨_, fun o a x ho hx => ?_, hr, grown_row w g _⟩
    rw [if_neg (by omega), Nat.zero_add] at hx
    have hst := run_storeCells_at Tryd.prog g E 5 (bl (fun _ => 0) (N - E)) 0 cur w hg (by rw [bl_len, hs]; omega) (bl_one _ _)
    rw [Nat.add_zero] at hst
    obtain ⟨k, hk⟩ : ∃ k, N - E = k + 1 := ⟨N - E - 1, by omega⟩
    rw [hk] at hx hst ⊢
    unfold execOp
    simp [ho, resolve, invoke, builtin, hx, Builtin.clear_, run_underlying Tryd.underlying33, zero_bl, hst]

/-- Bytes copied into a row at E. -/
theorem run_copy_own {w : World} {b g N C E n : Nat} {I f : Nat → Nat} (h : w.ownsRow b 5 1 (.slice (some ⟨g, 0, none⟩) N C) N (bl I N)) (hn : 0 < n) (hE : E + n ≤ N) {A : Option Addr} (hA : Bytes w A n f) (c : Nat) : ∃ w', (∀ (o : Oper) (a : Act) (x y : Operand), o.op = .call { callee := .builtin .copy, args := #[x, y], argTypes := #[33, 33] } → a.eval x = .slice (some ⟨g, E, none⟩) (N - E) (C - E) → a.eval y = .slice A n c → (execOp a.eval o).run Tryd.prog w = .ok (.value (.int .i64 (n : Nat))) w') ∧
    w'.ownsRow b 5 1 (.slice (some ⟨g, 0, none⟩) N C) N (bl (over I E n f) N) ∧ w.grownBy w' (some g) := by
  obtain ⟨cur, hg, hs, hnc, hr⟩ := own_over (f := f) h hE
  refine ⟨_, fun o a x y ho hx hy => ?_, hr, grown_row w g _⟩
  rcases hA with h0 | ⟨b', off, rfl, hlt, hc⟩
  · omega
  · have hcp := fun ty => run_copy_row (P := Tryd.prog) w 33 33 ty 5 g E (N - E) (C - E) ⟨b', off, none⟩ n c cur 5 (bl f n) Tryd.underlying33 (by kernel_rfl) hg (by rw [bl_len, Nat.mul_one]; exact (Nat.min_eq_left (by omega)).symm)
      (bytes_news (.inr ⟨b', off, rfl, hlt, hc⟩)) (by rw [bl_len, hs]; omega) (bl_one _ _)
    unfold execOp
    simp [ho, resolve, invoke, builtin, hx, hy, hcp, goInt, bl_len]
end Go.Proofs.YtoiaclmfljoomaaDoor
