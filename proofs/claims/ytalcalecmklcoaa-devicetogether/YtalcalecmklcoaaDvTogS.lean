/- DeviceTogether: its script, what it holds round by round. -/
import Derived.Test.YtalcalecmklcoaaDvTogR
import Derived.Test.YtalcalecmklcoaaDvSettled
namespace Go.Proofs.Ytalcalecmklcoaa
open Go.ChangeShapes Go.WideShapes Go.ChangeAt Go.RowKit
set_option linter.unusedVariables false

variable {D : DevRep}

/-- One of a script for two. -/
structure TwoV where
  B : Bool
  S : Bool
  i : Int
  a : Option Addr
  L : Nat
  C : Nat
  b : Nat → Nat

structure TwoIn (w : World) (x o : Nat) (v : TwoV) : Prop where
  c0 : w.cell? ⟨x, o, none⟩ = some (.bool v.B)
  c1 : w.cell? ⟨x, o + 1, none⟩ = some (.bool v.S)
  c2 : w.cell? ⟨x, o + 2, none⟩ = some (.int .i64 v.i)
  c3 : w.cell? ⟨x, o + 3, none⟩ = some (.slice v.a v.L v.C)
  oi : i64ok v.i
  by_ : ByIn w v.a v.L v.C v.b

def Scr2 (w : World) (a : Option Addr) (len : Nat) (O : Nat → TwoV) : Prop := len ≤ maxLen ∧ ∀ i, i < len → ∃ x o, a = some ⟨x, o, none⟩ ∧ x < w.heap.size ∧ TwoIn w x (o + i * 4) (O i)

theorem TwoIn.below {w w' : World} {x o B : Nat} {v : TwoV} (h : TwoIn w x o v) (hx : x < w.heap.size) (hb : Below B w w') (hB : w.heap.size ≤ B) : TwoIn w' x o v :=
  ⟨(hb.cell (show x < B by omega)).trans h.c0, (hb.cell (show x < B by omega)).trans h.c1, (hb.cell (show x < B by omega)).trans h.c2, (hb.cell (show x < B by omega)).trans h.c3, h.oi, h.by_.below hb hB⟩

theorem run_at_two {o : Oper} {a : Act} (x i : Operand) (ho : o.op = .indexAddr 61 x i) (g off k n cap : Nat) (hx : a.eval x = .slice (some ⟨g, off, none⟩) n cap) (hi : a.eval i = .int .i64 (k : Nat)) (hk : k < n) (w : World) : (execOp a.eval o).run Try.prog w = .ok (.value (.pointer (some ⟨g, off + k * 4, none⟩))) w := by
  unfold execOp
  cases hq : Try.prog.info? 65 with
  | none => exact absurd hq (by have h : (Try.prog.info? 65).isSome = true := (by kernel_rfl); intro e; rw [e] at h; cases h)
  | some inf =>
    have hz : inf.size = 4 := by
      have h : (Try.prog.info? 65).map (·.size) = some 4 := by kernel_rfl
      simpa [hq] using h
    simp only [ho, hx, hi]
    simp [Instr.indexAt, Instr.sureAddr, run_underlying Try.underlying61, asIntOf, sizeOf, typeInfo, hq, hz, Addr.add_mid, go_sem]
    intro h
    omega

theorem run_index_now {o : Oper} {a : Act} (x i : Operand) (ho : o.op = .indexAddr 63 x i) (g : Nat) (q : Bool) (hx : a.eval x = .pointer (some ⟨g, 0, none⟩)) (hi : a.eval i = .int .i64 (cond q 1 0)) (w : World) : (execOp a.eval o).run Try.prog w = .ok (.value (.pointer (some ⟨g, cond q 4 0, none⟩))) w := by
  unfold execOp
  cases q <;> (simp only [ho, hx, hi, cond_true, cond_false]; go_simp)

theorem run_index_four {o : Oper} {a : Act} (x i : Operand) (ho : o.op = .indexAddr 62 x i) (g d k : Nat) (hx : a.eval x = .pointer (some ⟨g, d, none⟩)) (hi : a.eval i = .int .i64 (k : Nat)) (hk : k < 4) (w : World) : (execOp a.eval o).run Try.prog w = .ok (.value (.pointer (some ⟨g, d + k, none⟩))) w := by
  have i0 : (k : Int) < 4 := by omega
  have i1 : (0 : Int) ≤ (k : Int) := by omega
  unfold execOp
  simp only [ho, hx, hi]
  go_simp

theorem run_store_B {o : Oper} {a : Act} (x y : Operand) (ho : o.op = .store 33 x y) (p : Addr) (hx : a.eval x = .pointer (some p)) (A : Option Addr) (n c : Nat) (hy : a.eval y = .slice A n c) (w : World) (u : Value) (h : w.cell? p = some u) (hf : w.frozen? p = false) : (execOp a.eval o).run Try.prog w = .ok .skip (w.setCell p (.slice A n c)) := by
  unfold execOp
  simp only [ho, hx, hy]
  go_simp

/-- What DeviceTogether holds. -/
structure Tog (D : DevRep) (w wr : World) (P : Bool → Nat) (c gn gs k : Nat) (S : Bool → DS) (m : Nat) (F : Bool → Nat → Prop) (W U : Nat → Value) (fN fU : Nat → Nat → Nat) : Prop where
  tw : Tw D w.heap.size w wr P S c m F
  n : ∀ q, (S q).n = 4
  live : ∀ q, (S q).dead = false
  len : ∀ q, (S q).log.length ≤ k
  m_ : m ≤ k
  nb : ∀ q, NoBad (S q)
  by_ : ∀ q, BytS (S q)
  now : Row8 wr (Al F c) gn W fN
  sure : Row8 wr (Al F c) gs U fU
  ne : gn ≠ gs
  bn : w.heap.size ≤ gn
  bs : w.heap.size ≤ gs

variable {w wr wr' : World} {P : Bool → Nat} {c gn gs k : Nat} {S : Bool → DS} {m : Nat} {F : Bool → Nat → Prop} {W U : Nat → Value} {fN fU : Nat → Nat → Nat}

theorem Tog.next (h : Tog D w wr P c gn gs k S m F W U fN fU) (hD : DevOk D) (hb : Below wr.heap.size wr wr') : Tog D w wr' P c gn gs k S m F W U fN fU :=
  ⟨h.tw.next hD hb, h.n, h.live, h.len, h.m_, h.nb, h.by_, h.now.below hb, h.sure.below hb, h.ne, h.bn, h.bs⟩

theorem Tog.congr (h : Tog D w wr P c gn gs k S m F W U fN fU) {gN gU : Nat → Nat → Nat} (h1 : ∀ j, j < 8 → fN j = gN j) (h2 : ∀ j, j < 8 → fU j = gU j) : Tog D w wr P c gn gs k S m F W U gN gU :=
  ⟨h.tw, h.n, h.live, h.len, h.m_, h.nb, h.by_, h.now.congr h1, h.sure.congr h2, h.ne, h.bn, h.bs⟩

theorem Tog.more (h : Tog D w wr P c gn gs k S m F W U fN fU) : Tog D w wr P c gn gs (k + 1) S m F W U fN fU :=
  ⟨h.tw, h.n, h.live, fun q => Nat.le_succ_of_le (h.len q), Nat.le_succ_of_le h.m_, h.nb, h.by_, h.now, h.sure, h.ne, h.bn, h.bs⟩

theorem sw_at {α : Type} {f : Bool → α} {q : Bool} {x : α} {Q : α → Prop} (h : ∀ r, Q (f r)) (hx : Q x) : ∀ r, Q (sw f q x r) := by
  intro r
  unfold sw
  split
  · exact hx
  · exact h r

theorem Tog.turn (h : Tog D w wr P c gn gs k S m F W U fN fU) (hD : DevOk D) (q : Bool) {s' : DS} {m' : Nat} {F' : Nat → Prop} (ho : Only (fun k => F q k ∨ k = c) wr wr') (hg : Grew wr (F q) F') (hi : In D w.heap.size w wr' (P q) s' c m' F') (hn : s'.n = 4) (hd : s'.dead = false) (hl : s'.log.length ≤ k + 1) (hm : m' ≤ k + 1) (hnb : NoBad s') (hby : BytS s') (hmm : m ≤ m' := by first | exact Nat.le_refl _ | exact le_wrM _ _ _ _) : Tog D w wr' P c gn gs (k + 1) (sw S q s') m' (sw F q F') W U fN fU :=
  ⟨h.tw.turn hD q ho hg hi hmm, sw_at (Q := fun s : DS => s.n = 4) h.n hn, sw_at (Q := fun s : DS => s.dead = false) h.live hd, sw_at (Q := fun s : DS => s.log.length ≤ k + 1) (fun q => Nat.le_succ_of_le (h.len q)) hl, hm, sw_at (Q := NoBad) h.nb hnb, sw_at (Q := BytS) h.by_ hby, h.now.only (ho.mono (Al.of q)) (Al.grew q hg), h.sure.only (ho.mono (Al.of q)) (Al.grew q hg), h.ne, h.bn, h.bs⟩

theorem Tog.putN (h : Tog D w wr P c gn gs k S m F W U fN fU) (hD : DevOk D) (i : Nat) {v : Value} {b : Nat → Nat} (hv : SecV wr (Al F c) v b) : Tog D w (wr.setCell ⟨gn, i, none⟩ v) P c gn gs k S m F (updV W i v) U (upd8 fN i b) fU :=
  ⟨Duo.tw (h.tw.duo.only hD (only_set wr gn i v) (fun k e => e ▸ h.now.out) (fun k e => e ▸ h.bn)), h.n, h.live, h.len, h.m_, h.nb, h.by_, h.now.put i hv, h.sure.rows h.now.has (fun e => h.ne e.symm) (only_set wr gn i v), h.ne, h.bn, h.bs⟩

theorem Tog.putU (h : Tog D w wr P c gn gs k S m F W U fN fU) (hD : DevOk D) (i : Nat) {v : Value} {b : Nat → Nat} (hv : SecV wr (Al F c) v b) : Tog D w (wr.setCell ⟨gs, i, none⟩ v) P c gn gs k S m F W (updV U i v) fN (upd8 fU i b) :=
  ⟨Duo.tw (h.tw.duo.only hD (only_set wr gs i v) (fun k e => e ▸ h.sure.out) (fun k e => e ▸ h.bs)), h.n, h.live, h.len, h.m_, h.nb, h.by_, h.now.rows h.sure.has h.ne (only_set wr gs i v), h.sure.put i hv, h.ne, h.bn, h.bs⟩

/-- Four are copied from the one to the other. -/
theorem Tog.copy4 (h : Tog D w wr P c gn gs k S m F W U fN fU) (hD : DevOk D) (d : Nat) (hd : d + 3 < 8) :
    Tog D w ((((wr.setCell ⟨gs, d, none⟩ (W d)).setCell ⟨gs, d + 1, none⟩ (W (d + 1))).setCell ⟨gs, d + 2, none⟩ (W (d + 2))).setCell ⟨gs, d + 3, none⟩ (W (d + 3))) P c gn gs k S m F W (updV (updV (updV (updV U d (W d)) (d + 1) (W (d + 1))) (d + 2) (W (d + 2))) (d + 3) (W (d + 3))) fN (upd8 (upd8 (upd8 (upd8 fU d (fN d)) (d + 1) (fN (d + 1))) (d + 2) (fN (d + 2))) (d + 3) (fN (d + 3))) := by
  have h1 := h.putU hD d (h.now.at_ d (by omega))
  have h2 := h1.putU hD (d + 1) (h1.now.at_ (d + 1) (by omega))
  have h3 := h2.putU hD (d + 2) (h2.now.at_ (d + 2) (by omega))
  exact h3.putU hD (d + 3) (h3.now.at_ (d + 3) (by omega))

def nowS (S : Bool → DS) (cut : Nat) : Nat → Nat → Nat := rowF fun q => nowAt (S q) (cut : Int)
def sureS (S : Bool → DS) (cut : Nat) : Nat → Nat → Nat := rowF fun q => sureAt (S q) (cut : Int)

theorem rowF_sw (N N' : Bool → Nat → Nat → Nat) (h : ∀ q, N q = N' q) : ∀ j, j < 8 → rowF N j = rowF N' j := fun j _ => by unfold rowF; rw [h]

/-- A Sync: what is laid by stays, where the moment is no longer within; else the one is copied. -/
theorem tog_sync_now (S : Bool → DS) (cut m : Nat) (q : Bool) : ∀ j, j < 8 → nowS S cut j = nowS (sw S q (syncD (S q) m)) cut j := rowF_sw _ _ fun r => by
  unfold sw
  split
  · next e => rw [now_sync, e]
  · rfl

theorem tog_sync_no (S : Bool → DS) (cut m : Nat) (q : Bool) (hm : ¬ m < cut) : ∀ j, j < 8 → sureS S cut j = sureS (sw S q (syncD (S q) m)) cut j := rowF_sw _ _ fun r => by
  unfold sw
  split
  · next e => rw [sure_sync, if_neg (by omega), e]
  · rfl

theorem tog_sync_yes (S : Bool → DS) (cut m : Nat) (q : Bool) (hm : m < cut) (fN : Nat → Nat → Nat) (hN : ∀ j, j < 8 → fN j = nowS S cut j) (fU : Nat → Nat → Nat) (hU : ∀ j, j < 8 → fU j = sureS S cut j) (d : Nat) (hd : d = cond q 4 0) :
    ∀ j, j < 8 → upd8 (upd8 (upd8 (upd8 fU d (fN d)) (d + 1) (fN (d + 1))) (d + 2) (fN (d + 2))) (d + 3) (fN (d + 3)) j = sureS (sw S q (syncD (S q) m)) cut j := by
  intro j hj
  have key : upd8 (upd8 (upd8 (upd8 fU d (fN d)) (d + 1) (fN (d + 1))) (d + 2) (fN (d + 2))) (d + 3) (fN (d + 3)) j = if d ≤ j ∧ j < d + 4 then fN j else fU j := by
    unfold upd8
    by_cases e3 : j = d + 3
    · rw [if_pos e3, if_pos (by omega), e3]
    · rw [if_neg e3]
      by_cases e2 : j = d + 2
      · rw [if_pos e2, if_pos (by omega), e2]
      · rw [if_neg e2]
        by_cases e1 : j = d + 1
        · rw [if_pos e1, if_pos (by omega), e1]
        · rw [if_neg e1]
          by_cases e0 : j = d
          · rw [if_pos e0, if_pos (by omega), e0]
          · rw [if_neg e0, if_neg (by omega)]
  rw [key, hN j hj, hU j hj]
  have hm' : (m : Int) < (cut : Int) := by omega
  unfold nowS sureS rowF sw
  cases q
  · by_cases e : 4 ≤ j
    · rw [if_neg (by simp at hd; omega), decide_eq_true e]
      show _ = sureAt (S true) (cut : Int) (j % 4)
      rfl
    · rw [if_pos (by simp at hd; omega), decide_eq_false e]
      show _ = sureAt (syncD (S false) m) (cut : Int) (j % 4)
      rw [sure_sync, if_pos hm']
  · by_cases e : 4 ≤ j
    · rw [if_pos (by simp at hd; omega), decide_eq_true e]
      show _ = sureAt (syncD (S true) m) (cut : Int) (j % 4)
      rw [sure_sync, if_pos hm']
    · rw [if_neg (by simp at hd; omega), decide_eq_false e]
      show _ = sureAt (S false) (cut : Int) (j % 4)
      rfl

theorem tog_wrote_sure (S : Bool → DS) (cut : Nat) (q : Bool) (i : Nat) (b : Nat → Nat) (mo : Int) : ∀ j, j < 8 → sureS S cut j = sureS (sw S q (wroteD (S q) i b mo)) cut j := rowF_sw _ _ fun r => by
  unfold sw
  split
  · next e => rw [sure_wrote, e]
  · rfl

theorem tog_wrote_no (S : Bool → DS) (cut : Nat) (q : Bool) (i : Nat) (b : Nat → Nat) (mo : Int) (hm : ¬ mo ≤ (cut : Int)) : ∀ j, j < 8 → nowS S cut j = nowS (sw S q (wroteD (S q) i b mo)) cut j := rowF_sw _ _ fun r => by
  unfold sw
  split
  · next e => rw [now_write, if_neg hm, e]
  · rfl

theorem tog_wrote_yes (S : Bool → DS) (cut : Nat) (q : Bool) (i : Nat) (hi : i < 4) (b : Nat → Nat) (mo : Int) (hm : mo ≤ (cut : Int)) (fN : Nat → Nat → Nat) (hN : ∀ j, j < 8 → fN j = nowS S cut j) : ∀ j, j < 8 → upd8 fN (plc q i) b j = nowS (sw S q (wroteD (S q) i b mo)) cut j := by
  refine rowF_ext _ _ fun r t ht => ?_
  have hj : plc r t < 8 := by unfold plc; cases r <;> simp <;> omega
  have e1 : fN (plc r t) = nowAt (S r) (cut : Int) t := by
    rw [hN _ hj]
    exact rowF_at _ r t ht
  unfold upd8 sw
  by_cases e : r = q
  · rw [if_pos e, now_write, if_pos hm]
    by_cases ei : t = i
    · rw [if_pos (by rw [e, ei])]
      subst ei
      simp [upF]
    · rw [if_neg (by rw [e]; unfold plc; cases q <;> simp <;> omega), e1, e]
      simp [upF, ei]
  · rw [if_neg e, if_neg (by unfold plc; cases r <;> cases q <;> simp at e ⊢ <;> omega), e1]
end Go.Proofs.Ytalcalecmklcoaa
