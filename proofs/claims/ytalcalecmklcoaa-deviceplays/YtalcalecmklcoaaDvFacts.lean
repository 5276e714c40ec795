/- What the laws of devices ask of states. -/
import Derived.Test.YtalcalecmklcoaaDvFull
namespace Go.Proofs.Ytalcalecmklcoaa
open Go.ChangeShapes Go.WideShapes Go.ChangeAt Go.RowKit
set_option linter.unusedVariables false

theorem wrErr_ok (s : DS) (r L : Nat) (hd : s.dead = false) (hr : r < s.n) (hL : L ≤ 64) : wrErr s (r : Int) L = 0 := by
  unfold wrErr
  rw [hd, if_neg (by simp), if_neg (by omega), if_neg (by omega)]

theorem rdErr_bad (s : DS) (r : Nat) (hd : s.dead = false) (hr : r < s.n) (hb : s.bad r = true) : rdErr s (r : Int) = 72 := by
  unfold rdErr
  rw [hd, if_neg (by simp), if_neg (by omega), if_pos (by simpa using hb)]

theorem rdErr_ok (s : DS) (r : Nat) (hd : s.dead = false) (hr : r < s.n) (hb : s.bad r = false) : rdErr s (r : Int) = 0 := by
  unfold rdErr
  rw [hd, if_neg (by simp), if_neg (by omega), if_neg (by simpa using hb)]

theorem rdErr_dead (s : DS) (i : Int) (hd : s.dead = true) : rdErr s i = 73 := by
  unfold rdErr
  rw [hd, if_pos rfl]

theorem wrErr_dead (s : DS) (i : Int) (L : Nat) (hd : s.dead = true) : wrErr s i L = 73 := by
  unfold wrErr
  rw [hd, if_pos rfl]

theorem spS_in (s : DS) (r : Nat) (hd : s.dead = false) (hr : r < s.n) : spS s (r : Int) = spoilD s r := by
  unfold spS
  rw [if_pos ⟨hd, by omega, by omega⟩, Int.toNat_natCast]

theorem tpS_bad (s : DS) (i : Int) (b : Nat → Nat) (L m : Nat) : (tpS s i b L m).bad = s.bad := by unfold tpS; split <;> rfl
theorem syS_bad (s : DS) (m : Nat) : (syS s m).bad = s.bad := by unfold syS; split <;> rfl

theorem spS_len (s : DS) (i : Int) : (spS s i).log.length = s.log.length := by unfold spS; split <;> rfl

theorem by_less {w : World} {a : Option Addr} {L L' : Nat} {b : Nat → Nat} (h : Bytes w a L b) (hL : L' ≤ L) : Bytes w a L' b := by
  rcases h with h | ⟨x, o, e, h1, h2⟩
  · exact .inl (by omega)
  · exact .inr ⟨x, o, e, h1, fun j hj => h2 j (by omega)⟩

/-- The states of a sector that went bad, was tampered with, and is written. -/
theorem heal_facts (s : DS) (r m m2 : Nat) (b b' : Nat → Nat) (bL L : Nat) (k : Nat → Bool) (hd : s.dead = false) (hr : r < s.n) (hL : L ≤ 64) :
    rdErr (spS s (r : Int)) (r : Int) = 72 ∧ rdErr (syS (tpS (spS s (r : Int)) (r : Int) b bL m) m2) (r : Int) = 72 ∧ rdErr (cutD (syS (tpS (spS s (r : Int)) (r : Int) b bL m) m2) k) (r : Int) = 72 ∧
    wrErr (syS (tpS (spS s (r : Int)) (r : Int) b bL m) m2) (r : Int) L = 0 ∧ rdErr (wrS (syS (tpS (spS s (r : Int)) (r : Int) b bL m) m2) (r : Int) b' L m2) (r : Int) = 0 ∧
    holds (wrS (syS (tpS (spS s (r : Int)) (r : Int) b bL m) m2) (r : Int) b' L m2) r = full b' L ∧ (wrS (syS (tpS (spS s (r : Int)) (r : Int) b bL m) m2) (r : Int) b' L m2).bad r = false := by
  rw [spS_in s r hd hr]
  obtain ⟨t, ht⟩ : ∃ t, t = spoilD s r := ⟨_, rfl⟩
  have t1 : t.dead = false := by rw [ht]; exact hd
  have t2 : r < t.n := by rw [ht]; exact hr
  have t3 : t.bad r = true := by rw [ht]; show (if r = r then true else s.bad r) = true; rw [if_pos rfl]
  rw [← ht]
  obtain ⟨u, hu⟩ : ∃ u, u = syS (tpS t (r : Int) b bL m) m2 := ⟨_, rfl⟩
  have u1 : u.dead = false := by
    rw [hu]
    unfold syS tpS
    split <;> split <;> exact t1
  have u2 : r < u.n := by
    rw [hu]
    unfold syS tpS
    split <;> split <;> exact t2
  have u3 : u.bad r = true := by rw [hu, syS_bad, tpS_bad]; exact t3
  rw [← hu]
  have hw := wrErr_ok u r L u1 u2 hL
  have e : wrS u (r : Int) b' L m2 = wroteD u r (full b' L) (m2 + 1) := by
    unfold wrS
    rw [if_pos hw, Int.toNat_natCast]
  have hbad : (wroteD u r (full b' L) (m2 + 1)).bad r = false := by
    show (if r = r then false else u.bad r) = false
    rw [if_pos rfl]
  refine ⟨rdErr_bad t r t1 t2 t3, rdErr_bad u r u1 u2 u3, rdErr_bad (cutD u k) r u1 u2 u3, hw, ?_, ?_, ?_⟩
  · rw [e]; exact rdErr_ok _ r u1 u2 hbad
  · rw [e]
    have h := congrFun (holds_add u ⟨r, full b' L, false, false, m2 + 1⟩) r
    have h2 : holds (wroteD u r (full b' L) (m2 + 1)) = holds (addD u ⟨r, full b' L, false, false, m2 + 1⟩) := rfl
    rw [h2, h]
    unfold upF
    rw [if_pos ⟨rfl, rfl⟩]
  · rw [e]; exact hbad

theorem run_slice_top {o : Oper} {a : Act} (x l : Operand) (ho : o.op = .slice 33 x none (some l) none) (A : Option Addr) (L cap q : Nat) (hx : a.eval x = .slice A L cap) (hl : a.eval l = .int .i64 (q : Nat)) (h1 : q ≤ cap) (w : World) :
    (execOp a.eval o).run Try.prog w = .ok (.value (.slice A q cap)) w := by
  unfold execOp
  simp only [ho, hx, hl, Option.map_some, Option.map_none]
  cases A with
  | none => simp [Instr.sliceAt, Instr.slice, Instr.sliceBounds, Instr.sliceBound, run_underlying Try.underlying33, go_sem, asIntOf, h1]
  | some ad => simp [Instr.sliceAt, Instr.slice, Instr.sliceBounds, Instr.sliceBound, run_underlying Try.underlying33, go_sem, asIntOf, h1, Addr.add]

theorem dead_wrS (s : DS) (i : Int) (b : Nat → Nat) (L m : Nat) (h : s.dead = true) : wrS s i b L m = s := by unfold wrS; rw [wrErr_dead s i L h, if_neg (by decide)]
theorem dead_tpS (s : DS) (i : Int) (b : Nat → Nat) (L m : Nat) (h : s.dead = true) : tpS s i b L m = s := by unfold tpS; rw [wrErr_dead s i L h, if_neg (by decide)]
theorem dead_wrM (s : DS) (i : Int) (L m : Nat) (h : s.dead = true) : wrM s i L m = m := by unfold wrM; rw [wrErr_dead s i L h, if_neg (by decide)]
theorem dead_spS (s : DS) (i : Int) (h : s.dead = true) : spS s i = s := by unfold spS; rw [if_neg (fun hh => by rw [h] at hh; cases hh.1)]

theorem in_sync_dead {D : DevRep} {B : Nat} {w0 w : World} {p c m : Nat} {s : DS} {F : Nat → Prop} (hD : DevOk D) (h : In D B w0 w p s c m F) (hm : m ≤ 100000) (hl : s.log.length ≤ 100000) (hd : s.dead = true) :
    Calls Try.prog 13 #[ptr p] w fun e w' => e = .returned (.int .i64 73) ∧ Below w.heap.size w w' := by
  refine (hD.sync w p s c m F h.dev hm hl).mono ?_
  rintro e w' ⟨rfl, (⟨_, hb⟩ | ⟨he, _⟩)⟩
  · rw [if_pos hd]
    exact ⟨rfl, hb⟩
  · rw [hd] at he
    cases he
end Go.Proofs.Ytalcalecmklcoaa
