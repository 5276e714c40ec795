/- Texts that the statements of this stage share, joined. -/
import Derived.Test.YthndifegfmjpbaaGreatDoorJoint08
namespace Go.Proofs.YthndifegfmjpbaaGreatDoor
set_option linter.unusedVariables false
set_option maxRecDepth 100000
set_option maxHeartbeats 40000000
section
open Go.ChangeShapes Go.WideShapes Go.ChangeAt Go.RowKit
def numOk (n : Int) : Bool := decide (0 ≤ n) && decide (n ≤ 999999999)
def partOk (re : Nd → Bool) : Kd → Nd → Bool
 | .nu, n => n.op == wNum && n.s == [] && numOk n.n && decide (n.l.length = 0)
 | .na, n => n.op == wName && hasNm n.s && decide (n.n = 0) && decide (n.l.length = 0)
 | .ex, n => re n
def kdAt (ks : List Kd) (i : Nat) : Kd := ks.getD (min i (ks.length - 1)) .ex
def fits (ks : List Kd) (more : Bool) (L : Nat) : Bool := !(decide (ks.length = 0)) && !(decide (L < ks.length)) && !(decide (ks.length < L) && !more)
def partsOk (re : Nd → Bool) (n : Nd) : Bool := fits (inside n.op).1 (inside n.op).2 n.l.length && (List.range n.l.length).all fun i => partOk re (kdAt (inside n.op).1 i) (n.l.getD i (.mk [] [] 0 0 []))
def rightE : Nat → Nd → Bool
 | 0, _ => false
 | d + 1, n => decide (n.n = 0) && (if n.op = wUse then hasNm n.s && decide (n.l.length = 0) else n.s == [] && partsOk (rightE d) n)
def hexOk (n : Nd) : Bool := n.op == wHex && hasHx n.s && decide (n.n = 0) && decide (n.l.length = 0)
def rightS (n : Nd) : Bool := hasNm n.s &&
 (if n.op = wDevice ∨ n.op = wJournal then numOk n.n && decide (n.l.length = 0)
  else if n.op = wKey ∨ n.op = wRoot then decide (n.n = 0) && decide (n.l.length = 1) && hexOk (n.l.getD 0 (.mk [] [] 0 0 []))
  else if n.op = wVolume then decide (n.n = 0) && decide (n.l.length = 1) && rightE 12 (n.l.getD 0 (.mk [] [] 0 0 []))
  else if n.op = wExport then (decide (n.n = 0) || decide (n.n = 1)) && decide (n.l.length = 0)
  else false)
def Right (n : Nd) : Bool := n.l.all rightS && n.op == wFile && n.s == [] && decide (n.n = 0)
theorem hasNumber_c (n : Nd) (A : Option Addr) (L C : Nat) (w : World) : Calls Tryz.prog 81 #[.agg (ndc n (.slice A L C))] w fun e w' => e = .returned (.bool (numOk n.n)) ∧ Below w.heap.size w w' := by
 unfold numOk ndc
 generalize n.n = N
 by_cases h1 : 0 ≤ N
 · by_cases h2 : N ≤ 999999999
   all_goals
    go_enter Tryz.func81, Tryz.ntmps81
    go_wp2
    go_ret
    exact ⟨ret_bool (by simp [h1, h2]), b_one _ _⟩
 · go_enter Tryz.func81, Tryz.ntmps81
   go_wp2
   go_ret
   refine ⟨ret_bool ?_, b_one _ _⟩
   rw [Bool.eq_iff_iff]
   simp
   omega
theorem bel_two {w w1 w2 : World} {o o' : Obj} (h : Below (w.alloc o).heap.size (w.alloc o) w1) (h2 : Below (w1.alloc o').heap.size (w1.alloc o') w2) : Below w.heap.size w w2 := by
 have s1 := h.size
 have s2 := h2.size
 simp at s1 s2
 exact (((b_one w o).trans (h.mono (by simp))).alloc (by omega) o').trans (h2.mono (by simp; omega))
theorem bel_one {w w1 : World} {o o' : Obj} (h : Below (w.alloc o).heap.size (w.alloc o) w1) : Below w.heap.size w (w1.alloc o') := by
 have s1 := h.size
 simp at s1
 exact ((b_one w o).trans (h.mono (by simp))).alloc (by omega) o'
theorem hasName_c (n : Nd) (A : Option Addr) (L C : Nat) (w : World) (hm : n.s.length ≤ maxLen) : Calls Tryz.prog 80 #[.agg (ndc n (.slice A L C))] w fun e w' => e = .returned (.bool (hasNm n.s)) ∧ Below w.heap.size w w' := by
 have htk := fun W => token_c n.s W hm
 unfold hasNm ndc
 have hs := bs_toList n.s
 cases hT : tok1 n.s with
 | none =>
   rw [hT] at htk
   simp only [TokenOne] at htk
   clear hT
   go_enter Tryz.func80, Tryz.ntmps80
   go_wp2_with (go_at_call 112; refine (htk _).mono ?_; rintro e w1 ⟨rfl, hb1⟩)
   go_ret
   exact ⟨rfl, bel_one hb1⟩
 | some t =>
   rw [hT] at htk
   simp only [TokenOne, tkv] at htk
   have hnm := nm_c t.1 t.2
   have hs2 := bs_toList t.1.s
   simp only
   generalize isNm t.1 = B at hnm ⊢
   unfold tkv at hnm
   clear hT
   cases B
   all_goals
    go_enter Tryz.func80, Tryz.ntmps80
    go_wp2_with (first
     | ((go_at_call 112)
        (refine (htk _).mono ?_)
        (rintro e w1 ⟨rfl, hb1⟩)
        (have hN1 := (Has.new w _ _).below hb1 (by simp))
        (have hlN := hN1.lt))
     | ((go_at_call 113)
        (refine (hnm _).mono ?_)
        (rintro e w2 ⟨rfl, hb2⟩)
        (have hN2 := (hN1.alloc _).below hb2 (by simp; omega))
        (have n1 := hN2.cell 1)
        (have hT2 := (Has.new w1 _ _).below hb2 (by simp))
        (have t1 := hT2.cell 1)))
    go_ret
    exact ⟨ret_bool (by simp), bel_two hb1 hb2⟩
end
section
open Go.ChangeShapes Go.WideShapes Go.ChangeAt Go.RowKit
structure RdN (w : World) (n : Nd) (A : Option Addr) (C : Nat) : Prop where
 rd : Rd w n.l (.slice A n.l.length C)
 s : n.s.length < maxLen
 op : n.op.length < maxLen
theorem RdN.grow {w w' : World} {n : Nd} {A : Option Addr} {C : Nat} (h : RdN w n A C) (hb : Below w.heap.size w w') : RdN w' n A C := ⟨h.rd.grow hb, h.s, h.op⟩
theorem RdN.len {w : World} {n : Nd} {A : Option Addr} {C : Nat} (h : RdN w n A C) : n.l.length ≤ C ∧ C ≤ 9223372036854775807 := by
 obtain ⟨A', C', e, h1, h2⟩ := h.rd.slice
 cases e
 exact ⟨h1, h2⟩
abbrev Yes (w : World) (b : Bool) (e : Ending) (w' : World) : Prop := e = .returned (.bool b) ∧ Below w.heap.size w w'
theorem isPart_c (d N : Nat) (k : Kd) (n : Nd) (A : Option Addr) (C : Nat) (w : World) (h : RdN w n A C) (hN : N ≤ 13)
  (hx : ∀ W, RdN W n A C → Calls Tryz.prog 83 #[.agg (ndc n (.slice A n.l.length C)), .int .i64 (N : Nat)] W (Yes W (rightE d n))) :
  Calls Tryz.prog 140 #[.agg (ndc n (.slice A n.l.length C)), .string (bs k.w), .int .i64 (N : Nat)] w (Yes w (partOk (rightE d) k n)) := by
 have hlen := h.len
 have hnum := fun W => hasNumber_c n A n.l.length C W
 have hnam := fun W => hasName_c n A n.l.length C W (by have := h.s; omega)
 have hs := bs_toList n.s
 have ho := bs_toList n.op
 have hx' := fun W hW => hx W (h.grow hW)
 cases k with
 | nu =>
   show Calls Tryz.prog 140 #[.agg (ndc n (.slice A n.l.length C)), .string ⟨#[110, 117, 109]⟩, .int .i64 (N : Nat)] w _
   simp only [partOk]
   have hL : ((n.l.length : Nat) : Int) ≤ 9223372036854775807 := by omega
   generalize n.l.length = L at *
   unfold ndc at *
   generalize numOk n.n = B at *
   clear hx hx' h hnam
   cases e1 : (n.op == wNum)
   · have e1' : (n.op == [110, 117, 109]) = false := e1
     go_enter Tryz.func140, Tryz.ntmps140
     go_wp2
     go_ret
     exact ⟨rfl, b_one _ _⟩
   · have e1' : (n.op == [110, 117, 109]) = true := e1
     cases e2 : (n.s == [])
     · go_enter Tryz.func140, Tryz.ntmps140
       go_wp2
       go_ret
       exact ⟨rfl, b_one _ _⟩
     · by_cases hL0 : L = 0
       · subst hL0
         cases B
         all_goals
          go_enter Tryz.func140, Tryz.ntmps140
          go_wp2_with (go_at_call 81; refine (hnum _).mono ?_; rintro e w1 ⟨rfl, hb1⟩; have hN1 := (Has.new w _ _).below hb1 (by simp); have n4 := hN1.cell 4)
          go_ret
          exact ⟨rfl, (b_one w _).trans (hb1.mono (by simp))⟩
       · have hL0' : ¬ (L : Int) = 0 := by omega
         cases B
         all_goals
          go_enter Tryz.func140, Tryz.ntmps140
          go_wp2_with (go_at_call 81; refine (hnum _).mono ?_; rintro e w1 ⟨rfl, hb1⟩; have hN1 := (Has.new w _ _).below hb1 (by simp); have n4 := hN1.cell 4)
          go_ret
          exact ⟨by simp [hL0], (b_one w _).trans (hb1.mono (by simp))⟩
 | na =>
   show Calls Tryz.prog 140 #[.agg (ndc n (.slice A n.l.length C)), .string ⟨#[110, 97, 109, 101]⟩, .int .i64 (N : Nat)] w _
   simp only [partOk]
   have hL : ((n.l.length : Nat) : Int) ≤ 9223372036854775807 := by omega
   generalize n.l.length = L at *
   unfold ndc at *
   generalize hasNm n.s = B at *
   clear hx hx' h hnum
   cases e1 : (n.op == wName)
   · have e1' : (n.op == [110, 97, 109, 101]) = false := e1
     go_enter Tryz.func140, Tryz.ntmps140
     go_wp2
     go_ret
     exact ⟨rfl, b_one _ _⟩
   · have e1' : (n.op == [110, 97, 109, 101]) = true := e1
     cases B
     · go_enter Tryz.func140, Tryz.ntmps140
       go_wp2_with (go_at_call 80; refine (hnam _).mono ?_; rintro e w1 ⟨rfl, hb1⟩)
       go_ret
       exact ⟨rfl, (b_one w _).trans (hb1.mono (by simp))⟩
     · generalize n.n = M at *
       by_cases hM : M = 0
       · subst hM
         by_cases hL0 : L = 0
         · subst hL0
           go_enter Tryz.func140, Tryz.ntmps140
           go_wp2_with (go_at_call 80; refine (hnam _).mono ?_; rintro e w1 ⟨rfl, hb1⟩; have hN1 := (Has.new w _ _).below hb1 (by simp); have n2 := hN1.cell 2; have n4 := hN1.cell 4)
           go_ret
           exact ⟨rfl, (b_one w _).trans (hb1.mono (by simp))⟩
         · have hL0' : ¬ (L : Int) = 0 := by omega
           go_enter Tryz.func140, Tryz.ntmps140
           go_wp2_with (go_at_call 80; refine (hnam _).mono ?_; rintro e w1 ⟨rfl, hb1⟩; have hN1 := (Has.new w _ _).below hb1 (by simp); have n2 := hN1.cell 2; have n4 := hN1.cell 4)
           go_ret
           exact ⟨by simp [hL0], (b_one w _).trans (hb1.mono (by simp))⟩
       · go_enter Tryz.func140, Tryz.ntmps140
         go_wp2_with (go_at_call 80; refine (hnam _).mono ?_; rintro e w1 ⟨rfl, hb1⟩; have hN1 := (Has.new w _ _).below hb1 (by simp); have n2 := hN1.cell 2)
         go_ret
         exact ⟨by simp [hM], (b_one w _).trans (hb1.mono (by simp))⟩
 | ex =>
   show Calls Tryz.prog 140 #[.agg (ndc n (.slice A n.l.length C)), .string ⟨#[101, 120, 112, 114]⟩, .int .i64 (N : Nat)] w _
   simp only [partOk]
   generalize rightE d n = B at *
   unfold ndc at *
   clear hnum hnam hx
   go_enter Tryz.func140, Tryz.ntmps140
   go_wp2_with (go_at_call 83; refine (hx' _ (b_one _ _)).mono ?_; rintro e w1 ⟨rfl, hb1⟩)
   go_ret
   exact ⟨rfl, (b_one w _).trans (hb1.mono (by simp))⟩
theorem isExpr_one (d N : Nat) (n : Nd) (A : Option Addr) (C : Nat) (w : World) (h : RdN w n A C) (hN : N ≤ 12)
  (hx : ∀ W, RdN W n A C → Calls Tryz.prog 114 #[.agg (ndc n (.slice A n.l.length C)), .int .i64 (N : Nat)] W (Yes W (partsOk (rightE d) n))) :
  Calls Tryz.prog 83 #[.agg (ndc n (.slice A n.l.length C)), .int .i64 (N : Nat)] w (Yes w (rightE (d + 1) n)) := by
 have hlen := h.len
 have hnam := fun W => hasName_c n A n.l.length C W (by have := h.s; omega)
 have hs := bs_toList n.s
 have ho := bs_toList n.op
 have hx' := fun W hW => hx W (h.grow hW)
 have hN' : ¬ (12 : Int) < (N : Int) := by omega
 simp only [rightE]
 have hL : ((n.l.length : Nat) : Int) ≤ 9223372036854775807 := by omega
 generalize partsOk (rightE d) n = B at *
 generalize n.l.length = L at *
 unfold ndc at *
 generalize n.n = M at *
 clear hx h
 by_cases hM : M = 0
 · subst hM
   by_cases hu : n.op = wUse
   · have e1' : (n.op == [117, 115, 101]) = true := by rw [hu]; rfl
     rw [if_pos hu]
     generalize hasNm n.s = D at *
     clear hx' hu
     cases D
     · go_enter Tryz.func83, Tryz.ntmps83
       go_wp2_with (go_at_call 80; refine (hnam _).mono ?_; rintro e w1 ⟨rfl, hb1⟩)
       go_ret
       exact ⟨rfl, (b_one w _).trans (hb1.mono (by simp))⟩
     · by_cases hL0 : L = 0
       · subst hL0
         go_enter Tryz.func83, Tryz.ntmps83
         go_wp2_with (go_at_call 80; refine (hnam _).mono ?_; rintro e w1 ⟨rfl, hb1⟩; have hN1 := (Has.new w _ _).below hb1 (by simp); have n4 := hN1.cell 4)
         go_ret
         exact ⟨rfl, (b_one w _).trans (hb1.mono (by simp))⟩
       · have hL0' : ¬ (L : Int) = 0 := by omega
         go_enter Tryz.func83, Tryz.ntmps83
         go_wp2_with (go_at_call 80; refine (hnam _).mono ?_; rintro e w1 ⟨rfl, hb1⟩; have hN1 := (Has.new w _ _).below hb1 (by simp); have n4 := hN1.cell 4)
         go_ret
         exact ⟨by simp [hL0], (b_one w _).trans (hb1.mono (by simp))⟩
   · have e1' : (n.op == [117, 115, 101]) = false := by rw [beq_eq_false_iff_ne]; exact hu
     rw [if_neg hu]
     clear hnam hu
     cases e2 : (n.s == [])
     · go_enter Tryz.func83, Tryz.ntmps83
       go_wp2
       go_ret
       exact ⟨rfl, b_one _ _⟩
     · go_enter Tryz.func83, Tryz.ntmps83
       go_wp2_with (go_at_call 114; refine (hx' _ (b_one _ _)).mono ?_; rintro e w1 ⟨rfl, hb1⟩)
       go_ret
       exact ⟨rfl, (b_one w _).trans (hb1.mono (by simp))⟩
 · clear hnam hx'
   go_enter Tryz.func83, Tryz.ntmps83
   go_wp2
   go_ret
   exact ⟨by simp, b_one _ _⟩
theorem isExpr_zero (n : Nd) (A : Option Addr) (C : Nat) (w : World) :
  Calls Tryz.prog 83 #[.agg (ndc n (.slice A n.l.length C)), .int .i64 13] w (Yes w (rightE 0 n)) := by
 simp only [rightE]
 unfold ndc
 go_enter Tryz.func83, Tryz.ntmps83
 go_wp2
 go_ret
 exact ⟨rfl, b_one _ _⟩
theorem lastVal {P : Program} {ops : Array Oper} {Q : Exit → Act → World → Prop} {md : Region.Mode} {S : World → Prop} {oi : Oper} (m : Nat) (d : Option Tmp) (v : Value) {n : Nat} {listed : Array Bool} {a : Act} {w : World} (hr : Region.ready md ops listed = [m])
  (hi : ops[m]? = some oi) (hd : oi.dst = d) (hw : Region.wanted oi (yielded ops a.tmps) = true)
  (hrun : (execOp a.eval oi).run P w = .ok (.value v) w) (he : Region.ready md ops (listed.setIfInBounds m true) = [])
  (h : Q .normal (a.put d v) w) : AnyL P md ops Q S m (n + 1) listed a w := by
 subst hd
 refine ⟨fun h0 => absurd (hr ▸ h0) (by simp), fun j hj => ?_⟩
 obtain rfl : j = m := by rw [hr] at hj; simpa using hj
 refine wpOp_step hi (fun K hK => ?_)
 rw [if_pos hw]
 unfold Oper.wp
 rw [hrun]
 refine hK _ _ ⟨fun h => absurd rfl h, ?_⟩
 cases n with
 | zero => exact ⟨he, h⟩
 | succ n => exact ⟨fun _ => h, by rw [he]; simp⟩
end
section
open Go.ChangeShapes Go.WideShapes Go.ChangeAt Go.RowKit
theorem run_load_node {o : Oper} {a : Act} (x : Operand) (ho : o.op = .load 24 x) (g : Nat) (hx : a.eval x = .pointer (some ⟨g, 0, none⟩)) {x0 x1 x2 x3 x4 : Value} (w : World) (h : Has w g 24 #[x0, x1, x2, x3, x4]) : (execOp a.eval o).run Tryz.prog w = .ok (.value (.agg #[x0, x1, x2, x3, x4])) w := by
 have q0 := h.cell 0
 have q1 := h.cell 1
 have q2 := h.cell 2
 have q3 := h.cell 3
 have q4 := h.cell 4
 unfold execOp
 simp only [ho, hx]
 go_simp
theorem wrap_same {x : Int} (h0 : -9223372036854775808 ≤ x) (h1 : x ≤ 9223372036854775807) : IntKind.i64.wrap x = x := by
 simp [IntKind.wrap, IntKind.signed, IntKind.bits]
 omega
theorem run_sub_one {o : Oper} {a : Act} (x : Operand) (ho : o.op = .binOp .sub 3 x (.const (.int .i64 1)) 3) (K : Nat) (hK : 1 ≤ K) (hK3 : K ≤ 3) (hx : a.eval x = .int .i64 (K : Nat)) (w : World) : (execOp a.eval o).run Tryz.prog w = .ok (.value (.int .i64 ((K - 1 : Nat) : Int))) w := by
 have e : ((K - 1 : Nat) : Int) = (K : Int) - 1 := by omega
 have h1 : (1 : Int) ≤ (K : Int) := by omega
 have h3 : (K : Int) ≤ 3 := by omega
 rw [e]
 unfold execOp
 simp only [ho, hx]
 go_simp
 exact wrap_same (by omega) (by omega)
theorem run_add_one {o : Oper} {a : Act} (x : Operand) (ho : o.op = .binOp .add 3 x (.const (.int .i64 1)) 3) (N : Nat) (hN : N ≤ 12) (hx : a.eval x = .int .i64 (N : Nat)) (w : World) : (execOp a.eval o).run Tryz.prog w = .ok (.value (.int .i64 ((N + 1 : Nat) : Int))) w := by
 have e : ((N + 1 : Nat) : Int) = (N : Int) + 1 := by omega
 have h3 : (N : Int) ≤ 12 := by omega
 have h0 : (0 : Int) ≤ (N : Int) := by omega
 rw [e]
 unfold execOp
 simp only [ho, hx]
 go_simp
 exact wrap_same (by omega) (by omega)
theorem run_min2 {o : Oper} {a : Act} (x y : Operand) (ho : o.op = .call { callee := .builtin .min, args := #[x, y], argTypes := #[3, 3] }) (n m : Nat) (hx : a.eval x = .int .i64 (n : Nat)) (hy : a.eval y = .int .i64 (m : Nat)) (w : World) : (execOp a.eval o).run Tryz.prog w = .ok (.value (.int .i64 ((min n m : Nat) : Int))) w := by
 unfold execOp
 simp only [ho, resolve, invoke, builtin, List.map_toArray, List.map_cons, List.map_nil, hx, hy]
 by_cases h : n < m
 · have e : min n m = n := by omega
   have h' : (n : Int) < (m : Int) := by omega
   rw [e]
   go_simp
   omega
 · have e : min n m = m := by omega
   have h' : ¬ (n : Int) < (m : Int) := by omega
   rw [e]
   go_simp
   omega
theorem parts_short {re : Nd → Bool} {n : Nd} (h : fits (inside n.op).1 (inside n.op).2 n.l.length = false) : partsOk re n = false := by
 unfold partsOk
 rw [h]
 rfl
theorem below_some {w w' : World} {p : Addr} {v : Value} (h : Below w.heap.size w w') (hc : w.cell? p = some v) : w'.cell? p = some v := (h.cell (World.block_lt_of_cell? w p hc)).trans hc
theorem kdAt_get {ks : List Kd} {i : Nat} (h : 0 < ks.length) : ∃ hk : min i (ks.length - 1) < ks.length, ks[min i (ks.length - 1)] = kdAt ks i := by
 have hk : min i (ks.length - 1) < ks.length := by omega
 exact ⟨hk, by unfold kdAt; rw [List.getD_eq_getElem?_getD, List.getElem?_eq_getElem hk]; rfl⟩
theorem allTo_succ (p : Nat → Bool) (i : Nat) : (List.range (i + 1)).all p = ((List.range i).all p && p i) := by
 rw [List.range_succ, List.all_append]
 simp
theorem hasParts_c (d N : Nat) (n : Nd) (A : Option Addr) (C : Nat) (w : World) (h : RdN w n A C) (hN : N ≤ 12)
  (hx : ∀ m A' C' W, RdN W m A' C' → Calls Tryz.prog 83 #[.agg (ndc m (.slice A' m.l.length C')), .int .i64 ((N + 1 : Nat) : Int)] W (Yes W (rightE d m))) :
  Calls Tryz.prog 114 #[.agg (ndc n (.slice A n.l.length C)), .int .i64 (N : Nat)] w (Yes w (partsOk (rightE d) n)) := by
 have hlen := h.len
 have ho := bs_toList n.op
 have hin := inside_c n.op
 have hpt := fun k m A' C' W (hr : RdN W m A' C') => isPart_c d (N + 1) k m A' C' W hr (by omega) (fun W hW => hx m A' C' W hW)
 have hpsh := parts_short (re := rightE d) (n := n)
 obtain ⟨K, hK⟩ : ∃ K, K = (inside n.op).1.length := ⟨_, rfl⟩
 have hK3 : K ≤ 3 := by rw [hK]; exact inside_len n.op
 have HK : Hid (K = (inside n.op).1.length) := hK
 generalize hB : (inside n.op).2 = B at hin hpsh
 have HB : Hid ((inside n.op).2 = B) := hB
 obtain ⟨L, hL⟩ : ∃ L, L = n.l.length := ⟨_, rfl⟩
 have HL : Hid (L = n.l.length) := hL
 have hL2 : L ≤ 9223372036854775807 := by omega
 have HF : Hid (fits (inside n.op).1 B L = (!(decide (K = 0)) && !(decide (L < K)) && !(decide (K < L) && !B))) := by show _ = _; unfold fits; rw [← hK]
 have hfe : fits (inside n.op).1 B L = false → partsOk (rightE d) n = false := by rw [hL]; exact hpsh
 rw [← hL]
 clear hpsh hx hK hB hL
 cases hft : fits (inside n.op).1 B L with
 | false =>
   rw [hfe hft]
   have hcs : K = 0 ∨ (K ≠ 0 ∧ L < K) ∨ (K ≠ 0 ∧ K < L ∧ B = false) := by
    rw [HF.out] at hft
    by_cases a1 : K = 0
    · exact .inl a1
    · by_cases a2 : L < K
      · exact .inr (.inl ⟨a1, a2⟩)
      · refine .inr (.inr ⟨a1, ?_⟩)
        simp [a1] at hft
        have a3 := hft (by omega)
        exact ⟨a3.1, a3.2⟩
   clear hfe hft HF hpt h
   unfold ndc
   rcases hcs with a1 | ⟨a1, a2⟩ | ⟨a1, a2, rfl⟩
   · have b1 : ((K : Nat) : Int) = 0 := by omega
     go_enter Tryz.func114, Tryz.ntmps114
     go_wp2_with (first
      | ((go_at_call 139)
         (refine (hin _).mono ?_)
         (rintro e w1 ⟨v, rfl, hb1, hs1⟩)
         (obtain ⟨A8, L8, C8, rfl⟩ : ∃ A L C, v = .slice A L C := by (rcases hs1 with ⟨_, rfl⟩ | ⟨g, rfl, _⟩ <;> exact ⟨_, _, _, rfl⟩))
         (obtain ⟨e8, l8, c8, g8⟩ := hs1.get)
         (rw [← HK.out] at e8)
         (have e8' := e8.symm)
         (subst e8')
         (have hN1 := (Has.new w _ _).below hb1 (by simp))
         (have n4 := hN1.cell 4)))
     go_ret
     exact ⟨rfl, (b_one w _).trans (hb1.mono (by simp))⟩
   · have b1 : ¬ ((K : Nat) : Int) = 0 := by omega
     have b2 : ((L : Nat) : Int) < ((K : Nat) : Int) := by omega
     go_enter Tryz.func114, Tryz.ntmps114
     go_wp2_with (first
      | ((go_at_call 139)
         (refine (hin _).mono ?_)
         (rintro e w1 ⟨v, rfl, hb1, hs1⟩)
         (obtain ⟨A8, L8, C8, rfl⟩ : ∃ A L C, v = .slice A L C := by (rcases hs1 with ⟨_, rfl⟩ | ⟨g, rfl, _⟩ <;> exact ⟨_, _, _, rfl⟩))
         (obtain ⟨e8, l8, c8, g8⟩ := hs1.get)
         (rw [← HK.out] at e8)
         (have e8' := e8.symm)
         (subst e8')
         (have hN1 := (Has.new w _ _).below hb1 (by simp))
         (have n4 := hN1.cell 4)))
     go_ret
     exact ⟨rfl, (b_one w _).trans (hb1.mono (by simp))⟩
   · have b1 : ¬ ((K : Nat) : Int) = 0 := by omega
     have b2 : ¬ ((L : Nat) : Int) < ((K : Nat) : Int) := by omega
     have b3 : ((K : Nat) : Int) < ((L : Nat) : Int) := by omega
     go_enter Tryz.func114, Tryz.ntmps114
     go_wp2_with (first
      | ((go_at_call 139)
         (refine (hin _).mono ?_)
         (rintro e w1 ⟨v, rfl, hb1, hs1⟩)
         (obtain ⟨A8, L8, C8, rfl⟩ : ∃ A L C, v = .slice A L C := by (rcases hs1 with ⟨_, rfl⟩ | ⟨g, rfl, _⟩ <;> exact ⟨_, _, _, rfl⟩))
         (obtain ⟨e8, l8, c8, g8⟩ := hs1.get)
         (rw [← HK.out] at e8)
         (have e8' := e8.symm)
         (subst e8')
         (have hN1 := (Has.new w _ _).below hb1 (by simp))
         (have n4 := hN1.cell 4)))
     go_ret
     exact ⟨rfl, (b_one w _).trans (hb1.mono (by simp))⟩
 | true =>
   have hcs : K ≠ 0 ∧ ¬ L < K ∧ (K < L → B = true) := by
    rw [HF.out] at hft
    simp only [Bool.and_eq_true, Bool.not_eq_true', decide_eq_false_iff_not, Bool.and_eq_false_iff, Bool.not_eq_false'] at hft
    refine ⟨hft.1.1, hft.1.2, fun hlt => ?_⟩
    rcases hft.2 with h | h
    · exact absurd hlt h
    · exact h
   have hP : partsOk (rightE d) n = (List.range L).all fun i => partOk (rightE d) (kdAt (inside n.op).1 i) (n.l.getD i (.mk [] [] 0 0 [])) := by
    unfold partsOk
    rw [HB.out, ← HL.out, hft, Bool.true_and]
   rw [hP]
   obtain ⟨b1, b2, b3⟩ := hcs
   have b1' : ¬ ((K : Nat) : Int) = 0 := by omega
   have b2' : ¬ ((L : Nat) : Int) < ((K : Nat) : Int) := by omega
   have hb3 : (((K : Nat) : Int) < ((L : Nat) : Int) ∧ B = true) ∨ ¬ ((K : Nat) : Int) < ((L : Nat) : Int) := by
    by_cases hlt : K < L
    · exact .inl ⟨by omega, b3 hlt⟩
    · exact .inr (by omega)
   clear hfe hft HF hP b3
   generalize hp : (fun i => partOk (rightE d) (kdAt (inside n.op).1 i) (n.l.getD i (.mk [] [] 0 0 []))) = p
   have HP : Hid (∀ i, p i = partOk (rightE d) (kdAt (inside n.op).1 i) (n.l.getD i (.mk [] [] 0 0 []))) := fun i => by rw [← hp]
   clear hp
   have hrd := h
   rw [show (ndc n (.slice A L C)) = #[.string (bs n.op), .string (bs n.s), .int .i64 n.n, .int .i64 n.a, .slice A L C] from rfl]
   rcases hb3 with ⟨b3, rfl⟩ | b3
   all_goals
    go_enter Tryz.func114, Tryz.ntmps114
    go_wp2_with (first
     | ((go_at_call 139)
        (refine (hin _).mono ?_)
        (rintro e w1 ⟨v, rfl, hb1, hs1⟩)
        (obtain ⟨A8, L8, C8, rfl⟩ : ∃ A L C, v = .slice A L C := by (rcases hs1 with ⟨_, rfl⟩ | ⟨g, rfl, _⟩ <;> exact ⟨_, _, _, rfl⟩))
        (obtain ⟨e8, l8, c8, g8⟩ := hs1.get)
        (rw [← HK.out] at e8)
        (have e8' := e8.symm)
        (subst e8')
        (have hN1 := (Has.new w _ _).below hb1 (by simp))
        (have n4 := hN1.cell 4)
        (have hbw : Below w.heap.size w w1 := (b_one w _).trans (hb1.mono (by simp)))))
    have hA0 : (List.range 0).all p = true := rfl
    obtain ⟨gk, rfl, -⟩ := g8 0 (by rw [← HK.out]; omega)
    clear g8 n4 hN1
    go_loopw [41] (fun z wz => ∃ i : Nat, i ≤ L ∧ z = .int .i64 (i : Nat) ∧ Below w1.heap.size w1 wz ∧ (List.range i).all p = true) (fun z _ => L - (intOf z).toNat)
    case atStart => exact ⟨0, Nat.zero_le _, rfl, Below.refl _ _, hA0⟩
    case round =>
     clear hA0
     obtain ⟨i, hi, rfl, hbz, hall⟩ := hrel
     have HA : Hid ((List.range i).all p = true) := hall
     clear hall
     by_cases hiL : i < L
     · have hiL2 : (i : Int) < (L : Int) := by omega
       have hiL' : i < n.l.length := by rw [← HL.out]; exact hiL
       have hbwr : Below w.heap.size w wr := hbw.trans (hbz.mono hbw.size)
       have hR := (hrd.grow hbwr).rd
       rw [← HL.out] at hR
       obtain ⟨g, off, u, rfl, hg, hc, hru, hsu, hou⟩ := hR.get i hiL'
       obtain ⟨m, hm⟩ : ∃ m, m = n.l[i] := ⟨_, rfl⟩
       rw [← hm] at hc hru hsu hou
       obtain ⟨Au, Cu, rfl, -, -⟩ := hru.slice
       have d0 := hc 0 (by decide)
       have d1 := hc 1 (by decide)
       have d2 := hc 2 (by decide)
       have d3 := hc 3 (by decide)
       have d4 := hc 4 (by decide)
       simp only [Nat.add_zero] at d0
       simp only [ndc] at d0 d1 d2 d3 d4
       obtain ⟨hk, hkg⟩ := kdAt_get (ks := (inside n.op).1) (i := i) (by rw [← HK.out]; omega)
       obtain ⟨k, hkk⟩ : ∃ k, k = kdAt (inside n.op).1 i := ⟨_, rfl⟩
       have hsw := hs1.below hbz
       obtain ⟨gk', ek, hck⟩ := hsw.get.2.2.2 _ hk
       cases ek
       rw [hkg, ← hkk, ← HK.out] at hck
       have hp1 : p i = partOk (rightE d) k m := by rw [HP.out i, ← hkk, hm, List.getD_eq_getElem?_getD, List.getElem?_eq_getElem hiL']; rfl
       have HP1 : Hid (p i = partOk (rightE d) k m) := hp1
       have hpm := fun W hW => hpt k m Au Cu W (RdN.grow (w := wr) ⟨hru, hsu, hou⟩ hW)
       generalize partOk (rightE d) k m = V at hpm HP1
       clear hp1 hkg hkk hm hc hR hpt hin hsw hk
       go_wp2
       obtain ⟨W0, hW0⟩ : ∃ W, W = wr.alloc (.cells #[.string (bs m.op), .string (bs m.s), .int .i64 m.n, .int .i64 m.a, .slice Au m.l.length Cu] 24) := ⟨_, rfl⟩
       have hbW0 : Below wr.heap.size wr W0 := by rw [hW0]; exact b_one _ _
       have hH0 : Has W0 wr.heap.size 24 #[.string (bs m.op), .string (bs m.s), .int .i64 m.n, .int .i64 m.a, .slice Au m.l.length Cu] := by rw [hW0]; exact Has.new _ _ _
       have hck0 : W0.cell? ⟨gk, min i (K - 1), none⟩ = some (.string (bs k.w)) := below_some hbW0 hck
       rw [← hW0]
       clear hW0
       refine lastTo (S := fun W => Has W wr.heap.size 24 #[.string (bs m.op), .string (bs m.s), .int .i64 m.n, .int .i64 m.a, .slice Au m.l.length Cu] ∧ W.cell? ⟨gk, min i (K - 1), none⟩ = some (.string (bs k.w))) 12 (by kernel_rfl) ⟨hH0, hck0⟩ (fun hHeld => ?_)
       refine takeC 0 [11] (some 46) (.agg #[.string (bs m.op), .string (bs m.s), .int .i64 m.n, .int .i64 m.a, .slice Au m.l.length Cu]) rfl rfl (by decide) (by kernel_rfl) (by kernel_rfl) (by kernel_rfl) (by kernel_rfl) (by kernel_rfl) (fun _ _ _ h => h) (by rfl) (fun wz hz => run_load_node _ rfl _ rfl _ hz.1) hHeld ?_
       simp only [Act.put, sb1, sz1, ss1]
       refine takeC 1 [7, 8, 11] (some 47) (.slice (some ⟨gk, 0, none⟩) K C8) rfl rfl (by decide) (by kernel_rfl) (by kernel_rfl) (by kernel_rfl) (by kernel_rfl) (by kernel_rfl) (fun _ _ _ h => h) (by rfl) (fun _ _ => rfl) hHeld ?_
       simp only [Act.put, sb1, sz1, ss1]
       refine takeC 2 [6, 7, 8, 11] (some 48) (.int .i64 (i : Nat)) rfl rfl (by decide) (by kernel_rfl) (by kernel_rfl) (by kernel_rfl) (by kernel_rfl) (by kernel_rfl) (fun _ _ _ h => h) (by rfl) (fun _ _ => rfl) hHeld ?_
       simp only [Act.put, sb1, sz1, ss1]
       refine takeC 3 [4, 5, 6, 7, 8, 11] (some 49) (.slice (some ⟨gk, 0, none⟩) K C8) rfl rfl (by decide) (by kernel_rfl) (by kernel_rfl) (by kernel_rfl) (by kernel_rfl) (by kernel_rfl) (fun _ _ _ h => h) (by rfl) (fun _ _ => rfl) hHeld ?_
       simp only [Act.put, sb1, sz1, ss1]
       refine takeC 4 [5, 6, 7, 8, 11] (some 50) (.int .i64 (K : Nat)) rfl rfl (by decide) (by kernel_rfl) (by kernel_rfl) (by kernel_rfl) (by kernel_rfl) (by kernel_rfl) (fun _ _ _ h => h) (by rfl) (fun wz _ => run_len_of 104 9 Tryz.underlying104 _ rfl _ _ _ rfl wz) hHeld ?_
       simp only [Act.put, sb1, sz1, ss1]
       refine takeC 5 [6, 7, 8, 11] (some 51) (.int .i64 ((K - 1 : Nat) : Int)) rfl rfl (by decide) (by kernel_rfl) (by kernel_rfl) (by kernel_rfl) (by kernel_rfl) (by kernel_rfl) (fun _ _ _ h => h) (by rfl) (fun wz _ => run_sub_one _ rfl K (by omega) hK3 rfl wz) hHeld ?_
       simp only [Act.put, sb1, sz1, ss1]
       refine takeC 6 [7, 8, 11] (some 52) (.int .i64 ((min i (K - 1) : Nat) : Int)) rfl rfl (by decide) (by kernel_rfl) (by kernel_rfl) (by kernel_rfl) (by kernel_rfl) (by kernel_rfl) (fun _ _ _ h => h) (by rfl) (fun wz _ => run_min2 _ _ rfl i (K - 1) rfl rfl wz) hHeld ?_
       simp only [Act.put, sb1, sz1, ss1]
       refine takeC 7 [8, 11] (some 53) (.pointer (some ⟨gk, 0 + min i (K - 1), none⟩)) rfl rfl (by decide) (by kernel_rfl) (by kernel_rfl) (by kernel_rfl) (by kernel_rfl) (by kernel_rfl) (fun _ _ _ h => h) (by rfl) (fun wz _ => run_at_slice 104 _ _ rfl gk 0 (min i (K - 1)) K C8 9 rfl rfl Tryz.underlying104 (by kernel_rfl) (by omega) wz) hHeld ?_
       simp only [Act.put, sb1, sz1, ss1]
       refine takeC 8 [11] (some 54) (.string (bs k.w)) rfl rfl (by decide) (by kernel_rfl) (by kernel_rfl) (by kernel_rfl) (by kernel_rfl) (by kernel_rfl) (fun _ _ _ h => h) (by rfl) (fun wz hz => run_load_one _ _ rfl (.inl rfl) _ rfl _ _ (by rw [Nat.zero_add]; exact hz.2)) hHeld ?_
       simp only [Act.put, sb1, sz1, ss1]
       refine takeC 9 [10, 11] (some 55) (.int .i64 (N : Nat)) rfl rfl (by decide) (by kernel_rfl) (by kernel_rfl) (by kernel_rfl) (by kernel_rfl) (by kernel_rfl) (fun _ _ _ h => h) (by rfl) (fun _ _ => rfl) hHeld ?_
       simp only [Act.put, sb1, sz1, ss1]
       refine takeC 10 [11] (some 56) (.int .i64 ((N + 1 : Nat) : Int)) rfl rfl (by decide) (by kernel_rfl) (by kernel_rfl) (by kernel_rfl) (by kernel_rfl) (by kernel_rfl) (fun _ _ _ h => h) (by rfl) (fun wz _ => run_add_one _ rfl N hN rfl wz) hHeld ?_
       simp only [Act.put, sb1, sz1, ss1]
       refine callL 11 (some 57) 140 #[.agg #[.string (bs m.op), .string (bs m.s), .int .i64 m.n, .int .i64 m.a, .slice Au m.l.length Cu], .string (bs k.w), .int .i64 ((N + 1 : Nat) : Int)] (by kernel_rfl) rfl rfl (by rfl) (by kernel_rfl) (hpm W0.drew (below_drew hbW0)) ?_
       rintro e w4 ⟨rfl, hb4⟩
       have hb4' : Below W0.heap.size W0 w4 := ⟨hb4.os, hb4.tape, hb4.output, hb4.size, hb4.block⟩
       refine ⟨_, rfl, ⟨hH0.below hb4' hH0.lt, below_some hb4' hck0⟩, ?_⟩
       simp only [Act.put, sb1, sz1, ss1]
       have hbN : Below w1.heap.size w1 w4 := (hbz.trans (hbW0.mono hbz.size)).trans (hb4'.mono (by have := hbz.size; have := hbW0.size; omega))
       clear hck0 hck hH0
       cases V with
       | true =>
         refine lastVal 12 (some 58) (.bool false) (by kernel_rfl) rfl rfl (by rfl) (by kernel_rfl) (by kernel_rfl) ?_
         simp only [Act.put, sb1, sz1, ss1]
         go_wp2
         go_roundw
         case rel => exact ⟨i + 1, by omega, by go_num, hbN, by rw [allTo_succ, HA.out, HP1.out]; rfl⟩
         case measure => simp [intOf]; omega
       | false =>
         refine lastVal 12 (some 58) (.bool true) (by kernel_rfl) rfl rfl (by rfl) (by kernel_rfl) (by kernel_rfl) ?_
         simp only [Act.put, sb1, sz1, ss1]
         go_wp2
         go_ret
         refine ⟨ret_bool ?_, hbw.trans (hbN.mono hbw.size)⟩
         symm
         rw [List.all_eq_false]
         exact ⟨i, List.mem_range.2 hiL, by rw [HP1.out]; decide⟩
     · have hiL2 : i = L := by omega
       subst hiL2
       go_wp2
       go_ret
       exact ⟨ret_bool HA.out.symm, hbw.trans (hbz.mono hbw.size)⟩
theorem isExpr_c (d : Nat) : ∀ (N : Nat) (n : Nd) (A : Option Addr) (C : Nat) (w : World), N + d = 13 → RdN w n A C → Calls Tryz.prog 83 #[.agg (ndc n (.slice A n.l.length C)), .int .i64 (N : Nat)] w (Yes w (rightE d n)) := by
 induction d with
 | zero =>
   intro N n A C w hN h
   have : N = 13 := by omega
   subst this
   exact isExpr_zero n A C w
 | succ d ih =>
   intro N n A C w hN h
   exact isExpr_one d N n A C w h (by omega) (fun W hW => hasParts_c d N n A C W hW (by omega) (fun m A' C' W' h' => ih (N + 1) m A' C' W' (by omega) h'))
end
section
open Go.ChangeShapes Go.WideShapes Go.ChangeAt Go.RowKit
theorem isHex_c (n : Nd) (A : Option Addr) (L C : Nat) (w : World) (hm : n.s.length < maxLen) (hlL : L = n.l.length) (hL : L ≤ 9223372036854775807) : Calls Tryz.prog 82 #[.agg (ndc n (.slice A L C))] w (Yes w (hexOk n)) := by
 have htk : ∀ W, Calls Tryz.prog 112 #[.string (⟨#[36]⟩ ++ bs n.s)] W fun e w' => e = .returned (TokenOne (tok1 (36 :: n.s))) ∧ Below W.heap.size W w' := by
  intro W
  have e : (⟨#[36]⟩ : ByteArray) ++ bs n.s = bs (36 :: n.s) := by rw [show (⟨#[36]⟩ : ByteArray) = bs [36] from rfl, bs_cat]; rfl
  rw [e]
  exact token_c (36 :: n.s) W (by simp only [List.length_cons]; omega)
 have hsz := bs_size n.s
 have hsz2 : ((bs n.s).size : Int) < 9223372036854775807 := by unfold maxLen at hm; omega
 unfold hexOk hasHx
 rw [← hlL]
 unfold ndc
 have hs := bs_toList n.s
 have ho := bs_toList n.op
 generalize n.n = M at *
 clear hlL
 cases e1 : (n.op == wHex)
 · have e1' : (n.op == [104, 101, 120]) = false := e1
   generalize tok1 (36 :: n.s) = O at *
   cases O with
   | none =>
     simp only [TokenOne] at htk
     go_enter Tryz.func82, Tryz.ntmps82
     go_wp2_with (go_at_call 112; refine (htk _).mono ?_; rintro e w1 ⟨rfl, hb1⟩; have hN1 := (Has.new w _ _).below hb1 (by simp); have n0 := hN1.cell 0; have hlN := hN1.lt)
     go_ret
     exact ⟨rfl, bel_one hb1⟩
   | some t =>
     simp only [TokenOne, tkv] at htk
     go_enter Tryz.func82, Tryz.ntmps82
     go_wp2_with (go_at_call 112; refine (htk _).mono ?_; rintro e w1 ⟨rfl, hb1⟩; have hN1 := (Has.new w _ _).below hb1 (by simp); have n0 := hN1.cell 0; have hlN := hN1.lt)
     go_ret
     exact ⟨rfl, bel_one hb1⟩
 · have e1' : (n.op == [104, 101, 120]) = true := e1
   cases hO : tok1 (36 :: n.s) with
   | none =>
     rw [hO] at htk
     simp only [TokenOne] at htk
     clear hO
     go_enter Tryz.func82, Tryz.ntmps82
     go_wp2_with (go_at_call 112; refine (htk _).mono ?_; rintro e w1 ⟨rfl, hb1⟩; have hN1 := (Has.new w _ _).below hb1 (by simp); have n0 := hN1.cell 0; have hlN := hN1.lt)
     go_ret
     exact ⟨rfl, bel_one hb1⟩
   | some t =>
     rw [hO] at htk
     simp only [TokenOne, tkv] at htk
     obtain ⟨⟨K, S, V⟩, q⟩ := t
     simp only at htk ⊢
     have hs2 := bs_toList S
     clear hO
     by_cases h2 : K = 2
     · subst h2
       have htk' : ∀ W, Calls Tryz.prog 112 #[.string (⟨#[36]⟩ ++ bs n.s)] W fun e w' => e = .returned (.tuple #[.agg #[.int .i64 2, .string (bs S), .int .i64 (V : Nat), .int .i64 (q : Nat)], .bool true]) ∧ Below W.heap.size W w' := htk
       clear htk
       cases e3 : (S == n.s)
       · go_enter Tryz.func82, Tryz.ntmps82
         go_wp2_with (go_at_call 112; refine (htk' _).mono ?_; rintro e w1 ⟨rfl, hb1⟩; have hN1 := (Has.new w _ _).below hb1 (by simp); have n0 := hN1.cell 0; have n1 := hN1.cell 1; have hlN := hN1.lt)
         go_ret
         exact ⟨rfl, bel_one hb1⟩
       · by_cases hM : M = 0
         · subst hM
           by_cases hL0 : L = 0
           · subst hL0
             go_enter Tryz.func82, Tryz.ntmps82
             go_wp2_with (go_at_call 112; refine (htk' _).mono ?_; rintro e w1 ⟨rfl, hb1⟩; have hN1 := (Has.new w _ _).below hb1 (by simp); have n0 := hN1.cell 0; have n1 := hN1.cell 1; have n2 := hN1.cell 2; have n4 := hN1.cell 4; have hlN := hN1.lt)
             go_ret
             exact ⟨rfl, bel_one hb1⟩
           · have hL0' : ¬ (L : Int) = 0 := by omega
             go_enter Tryz.func82, Tryz.ntmps82
             go_wp2_with (go_at_call 112; refine (htk' _).mono ?_; rintro e w1 ⟨rfl, hb1⟩; have hN1 := (Has.new w _ _).below hb1 (by simp); have n0 := hN1.cell 0; have n1 := hN1.cell 1; have n2 := hN1.cell 2; have n4 := hN1.cell 4; have hlN := hN1.lt)
             go_ret
             exact ⟨by simp [hL0], bel_one hb1⟩
         · go_enter Tryz.func82, Tryz.ntmps82
           go_wp2_with (go_at_call 112; refine (htk' _).mono ?_; rintro e w1 ⟨rfl, hb1⟩; have hN1 := (Has.new w _ _).below hb1 (by simp); have n0 := hN1.cell 0; have n1 := hN1.cell 1; have n2 := hN1.cell 2; have hlN := hN1.lt)
           go_ret
           exact ⟨by simp [hM], bel_one hb1⟩
     · have h2' : ¬ ((K : Nat) : Int) = 2 := by omega
       go_enter Tryz.func82, Tryz.ntmps82
       go_wp2_with (go_at_call 112; refine (htk _).mono ?_; rintro e w1 ⟨rfl, hb1⟩; have hN1 := (Has.new w _ _).below hb1 (by simp); have n0 := hN1.cell 0; have hlN := hN1.lt)
       go_ret
       exact ⟨by simp [h2], bel_one hb1⟩
end
end Go.Proofs.YthndifegfmjpbaaGreatDoor
