/- Texts that the statements of this stage share, joined. -/
import Derived.Test.YthndifegfmjpbaaGreatDoorJoint19
namespace Go.Proofs.YthndifegfmjpbaaGreatDoor
set_option linter.unusedVariables false
set_option maxRecDepth 100000
set_option maxHeartbeats 40000000
section
open Go.ChangeShapes Go.WideShapes Go.ChangeAt Go.RowKit Go.MapKept
structure Kind1 (t e size bytes : Nat) : Prop where
 ut : Tryz.prog.underlying t = some (.slice e)
 info : ∃ z : Value, (Tryz.prog.info? e).map (fun i => (i.zero, i.size, i.bytes)) = some (some z, size, bytes) ∧ z.cells.size = size
 pos : 0 < size
 small : bytes ≤ 1000
theorem append_one {t e size bytes : Nat} (K : Kind1 t e size bytes) {ty : TypeId} (w : World) (base n : Nat) (v : Value) (xs : List Value) (hrow : w.ownsRow base e size v n xs) (hbase : base ≤ w.heap.size) (hlen : n ≤ 1000000) (news : List Value) (hl : news.length = size) (h1 : ∀ u ∈ news, u.oneCell' = true) (G : Nat) (hG : Has w G e news.toArray) :
  ∃ A' C' w', (Builtin.append_ #[t, t] ty #[v, .slice (some ⟨G, 0, none⟩) 1 1]).run Tryz.prog w = .ok (.slice A' (n + 1) C') w' ∧ w'.ownsRow base e size (.slice A' (n + 1) C') (n + 1) (xs ++ news) ∧ w.grownBy w' v.ownBlock ∧ ((Value.slice A' (n + 1) C').ownBlock = v.ownBlock ∨ (Value.slice A' (n + 1) C').ownBlock = some w.heap.size) := by
 obtain ⟨z, hz, hzs⟩ := K.info
 obtain ⟨i0, hi, hz0, hz1, hz2⟩ := info_parts hz
 have hp := K.pos
 have hnews : ∀ j u, news[j]? = some u → w.cell? ((⟨G, 0, none⟩ : Addr).add j) = some u := by
  intro j u hj
  have := hG.cell j
  rw [show (⟨G, 0, none⟩ : Addr).add j = ⟨G, j, none⟩ by simp [Addr.add]; omega]
  rw [this]
  simpa using hj
 have hsm : (n + 1) * bytes ≤ 140737488355328 := by
  have : (n + 1) * bytes ≤ 1000001 * 1000 := Nat.mul_le_mul (by omega) K.small
  omega
 obtain ⟨v', w', hr, h2, h3, h4⟩ := run_append_own (P := Tryz.prog) w base t ty e i0 z size bytes K.ut hi hz0 hz1 hz2 hzs hp v n xs hrow ⟨G, 0, none⟩ 1 1 news (by omega) hnews h1 (by unfold maxLen; omega) hsm hbase
 have hwh := append_where (P := Tryz.prog) K.ut hi hz0 hz1 hp hrow (ad := ⟨G, 0, none⟩) (m := 1) (c := 1) (news := news) (by omega) hnews h1 (by unfold maxLen; omega) (by rw [hz2]; exact hsm) (by decide) hr
 obtain ⟨A', C', e'⟩ : ∃ A' C', v' = .slice A' (n + 1) C' := by
  rcases h2.2 with ⟨_, h0⟩ | ⟨g, cap, cur, rfl, _⟩
  · omega
  · exact ⟨_, _, rfl⟩
 subst e'
 exact ⟨A', C', w', hr, h2, h3, hwh⟩
theorem run_app_is {t : TypeId} {o : Oper} {a : Act} (s x : Operand) (ho : o.op = .call { callee := .builtin .append, args := #[s, x], argTypes := #[t, t] }) {w w' : World} {v y v' : Value} (hs : a.eval s = v) (hx : a.eval x = y) (hr : (Builtin.append_ #[t, t] o.type #[v, y]).run Tryz.prog w = .ok v' w') : (execOp a.eval o).run Tryz.prog w = .ok (.value v') w' := by
 unfold execOp
 simp only [ho, resolve, invoke, builtin, Sem.run_bind, Sem.run_pure, Result.andThen_ok, List.map_toArray, List.map_cons, List.map_nil, hs, hx, hr]
theorem kRange : Kind1 40 42 3 24 := ⟨Tryz.underlying40, ⟨.agg #[.int .i64 0, .int .i64 0, .int .i64 0], by kernel_rfl, rfl⟩, by decide, by decide⟩
theorem kInts : Kind1 29 3 1 8 := ⟨Tryz.underlying29, ⟨.int .i64 0, by kernel_rfl, rfl⟩, by decide, by decide⟩
theorem kBools : Kind1 66 4 1 1 := ⟨Tryz.underlying66, ⟨.bool false, by kernel_rfl, rfl⟩, by decide, by decide⟩
theorem kParts : Kind1 30 47 8 112 := ⟨Tryz.underlying30, ⟨.agg #[.int .i64 0, .int .i64 0, .slice none 0 0, .int .i64 0, .int .i64 0, .int .i64 0, .slice none 0 0, .slice none 0 0], by kernel_rfl, rfl⟩, by decide, by decide⟩
theorem grown_has {w w' : World} {v : Value} {g t : Nat} {cs : Array Value} (h : Has w g t cs) (hg : w.grownBy w' v.ownBlock) (hn : v.ownBlock ≠ some g) : Has w' g t cs := (hg.block g h.lt (fun e => hn e.symm)).trans h
end
section
open Go.ChangeShapes Go.WideShapes Go.ChangeAt Go.RowKit Go.MapKept
def PtsAt (w : World) (B : Nat) (A : Option Addr) (ps : List Pt) : Prop := ∀ i (h : i < ps.length), ∃ g off u, A = some ⟨g, off, none⟩ ∧ g < B ∧ g < w.heap.size ∧ (∀ j, j < 8 → w.cell? ⟨g, off + i * 8 + j, none⟩ = (ptc ps[i] u)[j]?) ∧ PtIn w (fun g => g < B) ps[i] u
theorem PtsAt.keep {w w' : World} {B : Nat} {A : Option Addr} {ps : List Pt} (h : PtsAt w B A ps) (hb : Below B w w') : PtsAt w' B A ps := by
 intro i hi
 obtain ⟨g, off, u, e, h1, h2, h3, h4⟩ := h i hi
 exact ⟨g, off, u, e, h1, Nat.lt_of_lt_of_le h2 hb.size, fun j hj => (hb.cell (p := ⟨g, off + i * 8 + j, none⟩) h1).trans (h3 j hj), h4.keep hb.size fun k hk hB => ⟨hb.block k hB, hB⟩⟩
def r3l (l : List R3) : List Value := l.flatMap fun r => [.int .i64 r.d, .int .i64 r.f, .int .i64 r.c]
structure FdAt (w : World) (fb : Nat) (A : Option Addr) (C : Nat) (ps : List Pt) (v : Value) (out : List R3) : Prop where
 has : Has w fb 78 #[.slice A ps.length C, v]
 row : w.ownsRow (fb + 1) 42 3 v out.length (r3l out)
 pts : PtsAt w fb A ps
 cap : ps.length ≤ C ∧ C ≤ maxLen
 few : out.length ≤ 257
structure FdSt (fb : Nat) (v : Value) (w : World) (v' : Value) (w' : World) : Prop where
 only : Onl (fun k => k = fb ∨ v.ownBlock = some k) w w'
 new : ∀ k, v'.ownBlock = some k → v.ownBlock = some k ∨ w.heap.size ≤ k
theorem FdSt.refl (fb : Nat) (v : Value) (w : World) : FdSt fb v w v w := ⟨.refl _ _, fun _ h => .inl h⟩
theorem FdSt.trans {fb : Nat} {v v1 v2 : Value} {w w1 w2 : World} (h : FdSt fb v w v1 w1) (k : FdSt fb v1 w1 v2 w2) : FdSt fb v w v2 w2 := by
 refine ⟨⟨k.only.os.trans h.only.os, k.only.tape.trans h.only.tape, k.only.output.trans h.only.output, Nat.le_trans h.only.size k.only.size, fun i hi hn => ?_⟩, fun i hi => ?_⟩
 · refine (k.only.block i (Nat.lt_of_lt_of_le hi h.only.size) (fun e => ?_)).trans (h.only.block i hi hn)
   rcases e with e | e
   · exact hn (.inl e)
   · rcases h.new i e with e' | e'
     · exact hn (.inr e')
     · omega
 · rcases k.new i hi with e | e
   · exact h.new i e
   · exact .inr (Nat.le_trans h.only.size e)
theorem FdAt.low {w : World} {fb : Nat} {A : Option Addr} {C : Nat} {ps : List Pt} {v : Value} {out : List R3} (h : FdAt w fb A C ps v out) {k : Nat} (hk : k = fb ∨ v.ownBlock = some k) : fb ≤ k ∧ k < w.heap.size := by
 rcases hk with rfl | e
 · exact ⟨Nat.le_refl _, h.has.lt⟩
 · have := row_lt h.row e
   omega
theorem FdAt.keep {w w' : World} {fb : Nat} {A : Option Addr} {C : Nat} {ps : List Pt} {v : Value} {out : List R3} (h : FdAt w fb A C ps v out) (hb : Below w.heap.size w w') : FdAt w' fb A C ps v out :=
 ⟨h.has.below hb h.has.lt, row_grown h.row (fun g o e ho => (hb.block g (Array.getElem?_eq_some_iff.1 ho).1).trans ho), h.pts.keep (hb.mono (Nat.le_of_lt h.has.lt)), h.cap, h.few⟩
theorem FdSt.below {fb : Nat} {v v' : Value} {w w' : World} (h : FdSt fb v w v' w') (hl : ∀ k, v.ownBlock = some k → fb ≤ k) (hfb : fb ≤ w.heap.size) : Below fb w w' := h.only.below hfb fun k hk => by
 rcases hk with rfl | e
 · exact Nat.le_refl _
 · exact hl k e
theorem FdSt.of {fb : Nat} {v : Value} {w w' : World} (h : Below w.heap.size w w') : FdSt fb v w v w' := ⟨.of h, fun _ e => .inl e⟩
theorem r3l_app (l : List R3) (r : R3) : r3l (l ++ [r]) = r3l l ++ [.int .i64 r.d, .int .i64 r.f, .int .i64 r.c] := by simp [r3l]
theorem FdAt.put {W1 w6 : World} {fb : Nat} {A : Option Addr} {C : Nat} {ps : List Pt} {v : Value} {out : List R3} (h : FdAt W1 fb A C ps v out) {r : R3} {A6 : Option Addr} {C6 : Nat} (ho : ¬ 256 < out.length) (hF6 : Has w6 fb 78 #[.slice A ps.length C, v]) (hrow : w6.ownsRow (fb + 1) 42 3 (.slice A6 (out.length + 1) C6) (out.length + 1) (r3l out ++ [.int .i64 r.d, .int .i64 r.f, .int .i64 r.c])) (hO : Onl (fun k => k = fb ∨ v.ownBlock = some k) W1 w6) : FdAt (w6.setCell ⟨fb, 1, none⟩ (.slice A6 (out.length + 1) C6)) fb A C ps (.slice A6 (out.length + 1) C6) (out ++ [r]) := by
 have hb : Below fb W1 w6 := hO.below (Nat.le_of_lt h.has.lt) fun k hk => (h.low hk).1
 refine ⟨hF6.putP 1 _, ?_, (h.pts.keep hb).keep ((Below.refl fb w6).setCell (p := ⟨fb, 1, none⟩) (Nat.le_refl _) _), h.cap, by simp; omega⟩
 rw [r3l_app, List.length_append, List.length_singleton]
 exact row_grown hrow (fun g o e ho => (Below.heap_setCell w6 ⟨fb, 1, none⟩ _ g (by have := (row_lt hrow e).2; show g ≠ fb; omega)).trans ho)
structure WfR (ps : List Pt) : Prop where
 kids : ∀ i, i < ps.length → ∀ k ∈ (ptAt ps i).kids, k < i
 size : ∀ i, i < ps.length → sz ps i ≤ 8192
 first : ∀ i, i < ps.length → (ptAt ps i).first ≤ 1000000000
 snap : ∀ i, i < ps.length → (ptAt ps i).kind = 5 → (ptAt ps i).kids.length = 2
 one : ∀ i, i < ps.length → ((ptAt ps i).kind = 7 ∨ (ptAt ps i).kind = 8) → 1 ≤ (ptAt ps i).kids.length
 few : ∀ i, i < ps.length → (ptAt ps i).kids.length ≤ 1000
 kind : ∀ i, i < ps.length → 1 ≤ (ptAt ps i).kind ∧ (ptAt ps i).kind ≤ 8
theorem ptAt_get {ps : List Pt} {i : Nat} (h : i < ps.length) : ptAt ps i = ps[i] := by
 unfold ptAt
 rw [List.getD_eq_getElem?_getD, List.getElem?_eq_getElem h]
 rfl
theorem run_at_pt {o : Oper} {a : Act} (x i : Operand) (ho : o.op = .indexAddr 30 x i) (g off k n cap : Nat) (hx : a.eval x = .slice (some ⟨g, off, none⟩) n cap) (hi : a.eval i = .int .i64 (k : Nat)) (hk : k < n) (w : World) : (execOp a.eval o).run Tryz.prog w = .ok (.value (.pointer (some ⟨g, off + k * 8, none⟩))) w := by
 unfold execOp
 obtain ⟨i0, hq, hz0, hz, hz2⟩ := info_parts (show (Tryz.prog.info? 47).map (fun i => (i.zero, i.size, i.bytes)) = some (some (.agg #[.int .i64 0, .int .i64 0, .slice none 0 0, .int .i64 0, .int .i64 0, .int .i64 0, .slice none 0 0, .slice none 0 0]), 8, 112) by kernel_rfl)
 simp only [ho, hx, hi]
 simp [Instr.indexAt, Instr.sureAddr, run_underlying Tryz.underlying30, asIntOf, sizeOf, typeInfo, hq, hz, Addr.add_mid, go_sem]
 intro h
 omega
theorem has_c {w : World} {fb : Nat} {A : Option Addr} {C : Nat} {ps : List Pt} {v : Value} {out : List R3} (h : FdAt w fb A C ps v out) (hwf : WfR ps) (p f c : Int) (hp : i64ok p) (hf : i64ok f) (hc : i64ok c) : Calls Tryz.prog 61 #[.pointer (some ⟨fb, 0, none⟩), .int .i64 p, .int .i64 f, .int .i64 c] w fun e w' => e = .returned (.bool (hasB ps p f c)) ∧ Below w.heap.size w w' := by
 have c0 := h.has.cell 0
 have lc := h.has.lt
 simp only [List.getElem?_toArray, List.getElem?_cons_zero] at c0
 have hcap : ps.length ≤ C ∧ C ≤ 9223372036854775807 := h.cap
 by_cases h1 : p < 0
 · have e : hasB ps p f c = false := by unfold hasB; rw [decide_eq_false_iff_not]; omega
   rw [e]
   have hd : decide (p < 0) = true := decide_eq_true h1
   clear h e
   go_enter Tryz.func61, Tryz.ntmps61
   go_wp2
   go_ret
   exact ⟨rfl, Below.refl _ _⟩
 · obtain ⟨k, rfl⟩ : ∃ k : Nat, p = (k : Nat) := ⟨p.toNat, by omega⟩
   by_cases h2 : k < ps.length
   · obtain ⟨g, off, u, rfl, hg0, hg, hcell, hpi⟩ := h.pts k h2
     have hsz := hwf.size k h2
     have hs1 := hcell 1 (by decide)
     have hpt := ptAt_get h2
     have hse : sz ps k = ps[k].size := by unfold sz; rw [hpt]
     simp only [ptc, List.getElem?_toArray, List.getElem?_cons_zero, List.getElem?_cons_succ] at hs1
     rw [← hse] at hs1
     have e : hasB ps (k : Nat) f c = (decide (0 ≤ f) && decide (0 < c) && decide (f ≤ (sz ps k : Int) - c)) := by
      unfold hasB
      rw [Bool.eq_iff_iff]
      simp only [decide_eq_true_eq, Bool.and_eq_true, Int.toNat_natCast]
      omega
     rw [e]
     generalize sz ps k = S at *
     clear h hcell hpt hse e hwf hpi
     generalize ps.length = L at *
     have hk1 : ¬ ((k : Nat) : Int) < 0 := by omega
     have hk2 : (k : Int) < (L : Int) := by omega
     obtain ⟨hc1, hc2⟩ := hc
     obtain ⟨hf1, hf2⟩ := hf
     by_cases h3 : 0 ≤ f
     · by_cases h4 : 0 < c
       · have hx1 : -9223372036854775808 ≤ (S : Int) - c := by omega
         have hx2 : (S : Int) - c ≤ 9223372036854775807 := by omega
         have hd1 : decide (0 ≤ f) = true := decide_eq_true h3
         have hd2 : decide (0 < c) = true := decide_eq_true h4
         rw [hd1, hd2]
         go_enter Tryz.func61, Tryz.ntmps61
         go_wp2
         go_ret
         exact ⟨rfl, Below.refl _ _⟩
       · have hd1 : decide (0 ≤ f) = true := decide_eq_true h3
         have hd2 : decide (0 < c) = false := decide_eq_false h4
         rw [hd1, hd2]
         go_enter Tryz.func61, Tryz.ntmps61
         go_wp2
         go_ret
         exact ⟨rfl, Below.refl _ _⟩
     · have hd1 : decide (0 ≤ f) = false := decide_eq_false h3
       rw [hd1]
       go_enter Tryz.func61, Tryz.ntmps61
       go_wp2
       go_ret
       exact ⟨rfl, Below.refl _ _⟩
   · have e : hasB ps (k : Nat) f c = false := by unfold hasB; rw [decide_eq_false_iff_not]; omega
     rw [e]
     clear h e hwf
     generalize ps.length = L at *
     have hk1 : ¬ ((k : Nat) : Int) < 0 := by omega
     have hk2 : ¬ (k : Int) < (L : Int) := by omega
     go_enter Tryz.func61, Tryz.ntmps61
     go_wp2
     go_ret
     exact ⟨rfl, Below.refl _ _⟩
end
section
open Go.ChangeShapes Go.WideShapes Go.ChangeAt Go.RowKit Go.MapKept
def FdRes (w : World) (fb : Nat) (A : Option Addr) (C : Nat) (ps : List Pt) (v : Value) (out' : List R3) (e : Ending) (w' : World) : Prop := ∃ v', e = .returned (.tuple #[]) ∧ FdAt w' fb A C ps v' out' ∧ FdSt fb v w v' w'
theorem part_at {w : World} {fb : Nat} {A : Option Addr} {ps : List Pt} (h : PtsAt w fb A ps) {k : Nat} (hk : k < ps.length) : ∃ g off Ak Ck A2 n2 C2 A3 n3 C3, A = some ⟨g, off, none⟩ ∧ g < fb ∧ g < w.heap.size ∧ IntsP w (fun g => g < fb) Ak (ptAt ps k).kids ∧ (ptAt ps k).kids.length ≤ Ck ∧ Ck ≤ maxLen ∧ ∀ j, j < 8 → w.cell? ⟨g, off + k * 8 + j, none⟩ = (#[.int .i64 ((ptAt ps k).kind : Nat), .int .i64 ((ptAt ps k).size : Nat), .slice Ak (ptAt ps k).kids.length Ck, .int .i64 ((ptAt ps k).dev : Nat), .int .i64 ((ptAt ps k).first : Nat), .int .i64 ((ptAt ps k).chunk : Nat), .slice A2 n2 C2, .slice A3 n3 C3] : Array Value)[j]? := by
 obtain ⟨g, off, ⟨u1, u2, u3⟩, e, h1, h2, h3, ⟨⟨A1, C1, e1, a1, b1, i1⟩, ⟨A2, C2, e2, _⟩, ⟨A3, C3, e3, _⟩⟩⟩ := h k hk
 rw [ptAt_get hk]
 simp only at e1 e2 e3
 subst e1 e2 e3
 exact ⟨g, off, A1, C1, A2, _, C2, A3, _, C3, e, h1, h2, i1, a1, b1, h3⟩
theorem run_load_pt {o : Oper} {a : Act} (x : Operand) (ho : o.op = .load 47 x) (g p : Nat) (hx : a.eval x = .pointer (some ⟨g, p, none⟩)) {x0 x1 x2 x3 x4 x5 x6 x7 : Value} (w : World) (h : ∀ j, j < 8 → w.cell? ⟨g, p + j, none⟩ = (#[x0, x1, x2, x3, x4, x5, x6, x7] : Array Value)[j]?) : (execOp a.eval o).run Tryz.prog w = .ok (.value (.agg #[x0, x1, x2, x3, x4, x5, x6, x7])) w := by
 have q0 := h 0 (by decide)
 have q1 := h 1 (by decide)
 have q2 := h 2 (by decide)
 have q3 := h 3 (by decide)
 have q4 := h 4 (by decide)
 have q5 := h 5 (by decide)
 have q6 := h 6 (by decide)
 have q7 := h 7 (by decide)
 simp only [Nat.add_zero] at q0
 simp only [ga1, gz1, gs1] at q0 q1 q2 q3 q4 q5 q6 q7
 unfold execOp
 simp only [ho, hx]
 go_simp
theorem fnd_no {ps : List Pt} {d : Nat} {out : List R3} {k : Nat} {f c : Int} (h : 256 < out.length ∨ hasB ps k f c = false) : fnd ps d out k f c = out := by
 cases d with
 | zero => rfl
 | succ d => show (if _ then _ else _) = _; rw [if_pos h]
theorem fnd_is {ps : List Pt} {d : Nat} {out : List R3} {k : Nat} {f c : Int} (h1 : ¬ 256 < out.length) (h2 : hasB ps k f c = true) : fnd ps (d + 1) out k f c = fndK ps (fnd ps d) out (ptAt ps k) f c := by
 show (if _ then _ else _) = _
 rw [if_neg (by rw [h2]; simp; omega)]
theorem has_in {ps : List Pt} {k : Nat} {f c : Int} (h : hasB ps k f c = true) : k < ps.length ∧ 0 ≤ f ∧ 0 < c ∧ f + c ≤ (sz ps k : Int) := by
 unfold hasB at h
 simp only [decide_eq_true_eq, Int.toNat_natCast] at h
 omega
theorem find_out {w : World} {fb : Nat} {A : Option Addr} {C : Nat} {ps : List Pt} {v : Value} {out : List R3} (h : FdAt w fb A C ps v out) (hwf : WfR ps) (k f c : Int) (hk : i64ok k) (hf : i64ok f) (hc : i64ok c) (hno : 256 < out.length ∨ hasB ps k f c = false) : Calls Tryz.prog 30 #[.pointer (some ⟨fb, 0, none⟩), .int .i64 k, .int .i64 f, .int .i64 c] w (FdRes w fb A C ps v out) := by
 have hh := has_c h hwf k f c hk hf hc
 have hR := h
 obtain ⟨Av, Cv, rfl⟩ : ∃ Av Cv, v = .slice Av out.length Cv := by
  rcases h.row.2 with ⟨rfl, h0⟩ | ⟨g, cap, cur, rfl, _⟩
  · exact ⟨none, 0, by rw [h0]⟩
  · exact ⟨_, _, rfl⟩
 have c1 := h.has.cell 1
 have lc := h.has.lt
 simp only [ga1, gz1, gs1] at c1
 have hfew := h.few
 by_cases ho : 256 < out.length
 · have hoo : (256 : Int) < (out.length : Int) := by omega
   have hd : decide ((256 : Int) < (out.length : Int)) = true := decide_eq_true hoo
   clear h
   go_enter Tryz.func30, Tryz.ntmps30
   go_wp2
   refine bodyPost_ret (results_none rfl _ _ _) rfl ?_
   exact ⟨_, rfl, hR, FdSt.refl _ _ _⟩
 · have hn : hasB ps k f c = false := hno.resolve_left ho
   rw [hn] at hh
   have hoo : ¬ (256 : Int) < (out.length : Int) := by omega
   clear h
   go_enter Tryz.func30, Tryz.ntmps30
   go_wp2_with (first
    | ((go_at_call 61)
       (refine hh.mono ?_)
       (rintro e w1 ⟨rfl, hb1⟩)))
   refine bodyPost_ret (results_none rfl _ _ _) rfl ?_
   exact ⟨_, rfl, hR.keep hb1, FdSt.of hb1⟩
end
section
open Go.ChangeShapes Go.WideShapes Go.ChangeAt Go.RowKit Go.MapKept
theorem find_disk {w : World} {fb : Nat} {A : Option Addr} {C : Nat} {ps : List Pt} {v : Value} {out : List R3} (h : FdAt w fb A C ps v out) (hwf : WfR ps) (d k : Nat) (f c : Int) (ho : ¬ 256 < out.length) (hh : hasB ps k f c = true) (hkind : (ptAt ps k).kind = 1)
  (hx : ∀ (W : World) (v : Value) (out : List R3) (j : Nat) (f c : Int), FdAt W fb A C ps v out → j < k → i64ok f → i64ok c → Calls Tryz.prog 30 #[.pointer (some ⟨fb, 0, none⟩), .int .i64 (j : Nat), .int .i64 f, .int .i64 c] W (FdRes W fb A C ps v (fnd ps d out j f c))) :
  Calls Tryz.prog 30 #[.pointer (some ⟨fb, 0, none⟩), .int .i64 (k : Nat), .int .i64 f, .int .i64 c] w (FdRes w fb A C ps v (fndK ps (fnd ps d) out (ptAt ps k) f c)) := by
 have hR := h
 obtain ⟨hkl, hf0, hc0, hfc⟩ := has_in hh
 have hsz := hwf.size k hkl
 have hfi := hwf.first k hkl
 have hkl2 := hwf.few k hkl
 have hkids := hwf.kids k hkl
 have hcap : ps.length ≤ C ∧ C ≤ 9223372036854775807 := h.cap
 have hkk : i64ok (k : Nat) := ⟨by omega, by omega⟩
 have hf : i64ok f := ⟨by omega, by omega⟩
 have hc : i64ok c := ⟨by omega, by omega⟩
 have hhas := has_c h hwf (k : Nat) f c hkk hf hc
 rw [hh] at hhas
 obtain ⟨Av, Cv, rfl⟩ : ∃ Av Cv, v = .slice Av out.length Cv := by
  rcases h.row.2 with ⟨rfl, h0⟩ | ⟨g, cap, cur, rfl, _⟩
  · exact ⟨none, 0, by rw [h0]⟩
  · exact ⟨_, _, rfl⟩
 obtain ⟨g, off, Ak, Ck, A2, n2, C2, A3, n3, C3, rfl, hg0, hg, hki, hkc, hkm, hcell⟩ := part_at h.pts hkl
 have EQ : fndK ps (fnd ps d) out (ptAt ps k) f c = out ++ [⟨((ptAt ps k).dev : Nat), f, c⟩] := by
  unfold fndK
  rw [hkind]
  rfl
 rw [EQ]
 rw [hkind] at hcell
 have hkm2 : Ck ≤ 9223372036854775807 := hkm
 generalize hps : (ptAt ps k).size = psz at *
 generalize hpd : (ptAt ps k).dev = pdv at *
 generalize hpf : (ptAt ps k).first = pfi at *
 generalize hpc : (ptAt ps k).chunk = pch at *
 generalize hpk : (ptAt ps k).kids = pk at *
 obtain ⟨Kn, hKn⟩ : ∃ Kn, Kn = pk.length := ⟨_, rfl⟩
 rw [← hKn] at hcell hkc hkl2
 have HKn : Hid (Kn = pk.length) := hKn
 clear hps hpd hpf hpc hpk hKn
 have c0 := h.has.cell 0
 have c1 := h.has.cell 1
 have lc := h.has.lt
 simp only [ga1, gz1, gs1] at c0 c1
 have hooi : ¬ (256 : Int) < (out.length : Int) := by omega
 have hkli : (k : Int) < (ps.length : Int) := by omega
 clear EQ hh hkind h
 go_enter Tryz.func30, Tryz.ntmps30
 go_wp2_with (first
  | ((go_at_call 61)
     (refine hhas.mono ?_)
     (rintro e w1 ⟨rfl, hb1⟩)
     (have c0b := below_some hb1 c0)
     (have c1b := below_some hb1 c1)
     (have lcb := Nat.lt_of_lt_of_le lc hb1.size)
     (have hcellb := fun j (hj : j < 8) => (hb1.cell (p := ⟨g, off + k * 8 + j, none⟩) hg).trans (hcell j hj)))
  | ((refine at_dstL 30 rfl ?_)
     (refine wpList_is (some 30) _ rfl (by rfl) (run_at_pt _ _ rfl g off k ps.length C rfl rfl hkl w1) ?_))
  | ((refine at_dstL 31 rfl ?_)
     (refine wpList_is (some 31) _ rfl (by rfl) (run_load_pt _ rfl g (off + k * 8) rfl w1 hcellb) ?_)
     (have H1 := (hR.keep hb1).keep (b_one w1 (.cells #[.int .i64 1, .int .i64 (psz : Nat), .slice Ak Kn Ck, .int .i64 (pdv : Nat), .int .i64 (pfi : Nat), .int .i64 (pch : Nat), .slice A2 n2 C2, .slice A3 n3 C3] 47)))
     (have P1 := Has.new w1 47 #[.int .i64 1, .int .i64 (psz : Nat), .slice Ak Kn Ck, .int .i64 (pdv : Nat), .int .i64 (pfi : Nat), .int .i64 (pch : Nat), .slice A2 n2 C2, .slice A3 n3 C3])
     (have B1 : Below w.heap.size w (w1.alloc (.cells #[.int .i64 1, .int .i64 (psz : Nat), .slice Ak Kn Ck, .int .i64 (pdv : Nat), .int .i64 (pfi : Nat), .int .i64 (pch : Nat), .slice A2 n2 C2, .slice A3 n3 C3] 47)) := hb1.alloc hb1.size _)))
 have c1c := below_some (b_one w1 (.cells #[.int .i64 1, .int .i64 (psz : Nat), .slice Ak Kn Ck, .int .i64 (pdv : Nat), .int .i64 (pfi : Nat), .int .i64 (pch : Nat), .slice A2 n2 C2, .slice A3 n3 C3] 47)) c1b
 have P1c := P1.cell 3
 have lW1 : (w1.alloc (.cells #[.int .i64 1, .int .i64 (psz : Nat), .slice Ak Kn Ck, .int .i64 (pdv : Nat), .int .i64 (pfi : Nat), .int .i64 (pch : Nat), .slice A2 n2 C2, .slice A3 n3 C3] 47)).heap.size = w1.heap.size + 1 := by simp
 have hne3 : (Value.slice Av out.length Cv).ownBlock ≠ some w1.heap.size := fun e => by have := (row_lt (hR.keep hb1).row e).1; omega
 generalize (w1.alloc (.cells #[.int .i64 1, .int .i64 (psz : Nat), .slice Ak Kn Ck, .int .i64 (pdv : Nat), .int .i64 (pfi : Nat), .int .i64 (pch : Nat), .slice A2 n2 C2, .slice A3 n3 C3] 47)) = W1 at *
 refine lastTo (S := fun wz => wz.cell? ⟨fb, 1, none⟩ = some (.slice Av out.length Cv) ∧ wz.cell? ⟨w1.heap.size, 3, none⟩ = some (.int .i64 (pdv : Nat)) ∧ Onl (fun k => k = fb ∨ (Value.slice Av out.length Cv).ownBlock = some k) W1 wz) 14 (by kernel_rfl) (⟨c1c, P1c, (Onl.refl _ _).drew⟩) (fun hHeld => ?_)
 refine tkL 0 (some 48) (.pointer (some ⟨fb, 0, none⟩)) rfl rfl (fun _ _ => rfl) hHeld ?_
 simp only [Act.put, sb1, sz1, ss1]
 refine tkL 1 (some 49) (.pointer (some ⟨fb, 0, none⟩)) rfl rfl (fun _ _ => rfl) hHeld ?_
 simp only [Act.put, sb1, sz1, ss1]
 refine tkL 2 (some 50) (.pointer (some ⟨fb, 0, none⟩)) rfl rfl (fun _ _ => rfl) hHeld ?_
 simp only [Act.put, sb1, sz1, ss1]
 refine tkL 3 (some 51) (.pointer (some ⟨fb, 1, none⟩)) rfl rfl (fun _ _ => rfl) hHeld ?_
 simp only [Act.put, sb1, sz1, ss1]
 refine tkL 4 (some 52) (.slice Av out.length Cv) rfl rfl (fun wz hz => by obtain ⟨z0, z1, z2⟩ := hz; unfold execOp; go_simp) hHeld ?_
 simp only [Act.put, sb1, sz1, ss1]
 refine tkL 5 (some 53) (.pointer (some ⟨w1.heap.size, 3, none⟩)) rfl rfl (fun _ _ => rfl) hHeld ?_
 simp only [Act.put, sb1, sz1, ss1]
 refine tkL 6 (some 54) (.int .i64 (pdv : Nat)) rfl rfl (fun wz hz => by obtain ⟨z0, z1, z2⟩ := hz; unfold execOp; go_simp) hHeld ?_
 simp only [Act.put, sb1, sz1, ss1]
 refine tkL 7 (some 55) (.int .i64 f) rfl rfl (fun _ _ => rfl) hHeld ?_
 simp only [Act.put, sb1, sz1, ss1]
 refine tkL 8 (some 56) (.int .i64 c) rfl rfl (fun _ _ => rfl) hHeld ?_
 simp only [Act.put, sb1, sz1, ss1]
 refine tkL 9 (some 57) (.agg #[.int .i64 (pdv : Nat), .int .i64 f, .int .i64 c]) rfl rfl (fun _ _ => by kernel_rfl) hHeld ?_
 simp only [Act.put, sb1, sz1, ss1]
 have hS2 : (W1.drew.alloc (.cells #[.int .i64 (pdv : Nat), .int .i64 f, .int .i64 c] 42)).cell? ⟨fb, 1, none⟩ = some (.slice Av out.length Cv) ∧ (W1.drew.alloc (.cells #[.int .i64 (pdv : Nat), .int .i64 f, .int .i64 c] 42)).cell? ⟨w1.heap.size, 3, none⟩ = some (.int .i64 (pdv : Nat)) ∧ Onl (fun k => k = fb ∨ (Value.slice Av out.length Cv).ownBlock = some k) W1 (W1.drew.alloc (.cells #[.int .i64 (pdv : Nat), .int .i64 f, .int .i64 c] 42)) := ⟨below_some (b_one W1.drew _) hHeld.1, below_some (b_one W1.drew _) hHeld.2.1, hHeld.2.2.alloc _⟩
 refine valL 10 (some 58) (.slice (some ⟨W1.heap.size, 0, none⟩) 1 1) (W1.drew.alloc (.cells #[.int .i64 (pdv : Nat), .int .i64 f, .int .i64 c] 42)) (by kernel_rfl) rfl rfl (by rfl) (by kernel_rfl) hS2 ?_
 simp only [Act.put, sb1, sz1, ss1]
 have row1 := ((H1.keep (below_drew (Below.refl _ W1))).keep (b_one W1.drew (.cells #[.int .i64 (pdv : Nat), .int .i64 f, .int .i64 c] 42))).row
 obtain ⟨A6, C6, w6, hr6, hrow6, hg6, hw6⟩ := append_one kRange (ty := 40) (W1.drew.alloc (.cells #[.int .i64 (pdv : Nat), .int .i64 f, .int .i64 c] 42)) (fb + 1) out.length _ _ row1 (by simp; omega) (by omega) [.int .i64 (pdv : Nat), .int .i64 f, .int .i64 c] rfl (by intro u hu; simp at hu; rcases hu with rfl | rfl | rfl <;> rfl) W1.heap.size (Has.new_at rfl)
 have hne : (Value.slice Av out.length Cv).ownBlock ≠ some fb := fun e => by have := (row_lt row1 e).2; omega
 have hne2 : (Value.slice Av out.length Cv).ownBlock ≠ some w1.heap.size := fun e => hne3 e
 have hF6 : Has w6 fb 78 #[.slice (some ⟨g, off, none⟩) ps.length C, .slice Av out.length Cv] := grown_has ((has_drew H1.has).alloc _) hg6 hne
 have hP6 : Has w6 w1.heap.size 47 #[.int .i64 1, .int .i64 (psz : Nat), .slice Ak Kn Ck, .int .i64 (pdv : Nat), .int .i64 (pfi : Nat), .int .i64 (pch : Nat), .slice A2 n2 C2, .slice A3 n3 C3] := grown_has ((has_drew P1).alloc _) hg6 hne2
 have hO6 : Onl (fun k => k = fb ∨ (Value.slice Av out.length Cv).ownBlock = some k) W1 w6 := hS2.2.2.trans ⟨hg6.os, hg6.tape, hg6.output, hg6.size, fun k hk hn => hg6.block k hk (fun e => hn (.inr e.symm))⟩
 refine valL 11 (some 59) (.slice A6 (out.length + 1) C6) w6 (by kernel_rfl) rfl rfl (by rfl) (run_app_is _ _ rfl rfl rfl hr6) ⟨hF6.cell 1, hP6.cell 3, hO6⟩ ?_
 simp only [Act.put, sb1, sz1, ss1]
 have hS6 : w6.cell? ⟨fb, 1, none⟩ = some (.slice Av out.length Cv) ∧ w6.cell? ⟨w1.heap.size, 3, none⟩ = some (.int .i64 (pdv : Nat)) ∧ Onl (fun k => k = fb ∨ (Value.slice Av out.length Cv).ownBlock = some k) W1 w6 := ⟨hF6.cell 1, hP6.cell 3, hO6⟩
 refine valL 12 (some 60) (.pointer (some ⟨fb, 0, none⟩)) w6 (by kernel_rfl) rfl rfl (by rfl) rfl hS6 ?_
 simp only [Act.put, sb1, sz1, ss1]
 refine valL 13 (some 61) (.pointer (some ⟨fb, 1, none⟩)) w6 (by kernel_rfl) rfl rfl (by rfl) rfl hS6 ?_
 simp only [Act.put, sb1, sz1, ss1]
 have q6 := hF6.cell 1
 have f6 := hF6.free 1
 refine lastSkip 14 none (w6.setCell ⟨fb, 1, none⟩ (.slice A6 (out.length + 1) C6)) (by kernel_rfl) rfl rfl (by rfl) (by unfold execOp; go_simp) (by kernel_rfl) ?_
 simp only [Act.put]
 go_wp2
 go_end0
 have hfin := H1.put (r := ⟨(pdv : Nat), f, c⟩) ho hF6 hrow6 hO6
 refine ⟨_, rfl, hfin, ?_⟩
 have hb2 : FdSt fb (.slice Av out.length Cv) W1 (.slice A6 (out.length + 1) C6) (w6.setCell ⟨fb, 1, none⟩ (.slice A6 (out.length + 1) C6)) := ⟨hO6.set (.inl (.inl rfl)) _, fun j hj => by
  rcases hw6 with e | e
  · exact .inl (e ▸ hj)
  · rw [e] at hj
    cases hj
    exact .inr (by simp)⟩
 exact (FdSt.of B1).trans hb2
end
section
open Go.ChangeShapes Go.WideShapes Go.ChangeAt Go.RowKit Go.MapKept
theorem find_linear {w : World} {fb : Nat} {A : Option Addr} {C : Nat} {ps : List Pt} {v : Value} {out : List R3} (h : FdAt w fb A C ps v out) (hwf : WfR ps) (d k : Nat) (f c : Int) (ho : ¬ 256 < out.length) (hh : hasB ps k f c = true) (hkind : (ptAt ps k).kind = 2)
  (hx : ∀ (W : World) (v : Value) (out : List R3) (j : Nat) (f c : Int), FdAt W fb A C ps v out → j < k → i64ok f → i64ok c → Calls Tryz.prog 30 #[.pointer (some ⟨fb, 0, none⟩), .int .i64 (j : Nat), .int .i64 f, .int .i64 c] W (FdRes W fb A C ps v (fnd ps d out j f c))) :
  Calls Tryz.prog 30 #[.pointer (some ⟨fb, 0, none⟩), .int .i64 (k : Nat), .int .i64 f, .int .i64 c] w (FdRes w fb A C ps v (fndK ps (fnd ps d) out (ptAt ps k) f c)) := by
 have hR := h
 obtain ⟨hkl, hf0, hc0, hfc⟩ := has_in hh
 have hsz := hwf.size k hkl
 have hfi := hwf.first k hkl
 have hkl2 := hwf.few k hkl
 have hkids := hwf.kids k hkl
 have hcap : ps.length ≤ C ∧ C ≤ 9223372036854775807 := h.cap
 have hkk : i64ok (k : Nat) := ⟨by omega, by omega⟩
 have hf : i64ok f := ⟨by omega, by omega⟩
 have hc : i64ok c := ⟨by omega, by omega⟩
 have hhas := has_c h hwf (k : Nat) f c hkk hf hc
 rw [hh] at hhas
 obtain ⟨Av, Cv, rfl⟩ : ∃ Av Cv, v = .slice Av out.length Cv := by
  rcases h.row.2 with ⟨rfl, h0⟩ | ⟨g, cap, cur, rfl, _⟩
  · exact ⟨none, 0, by rw [h0]⟩
  · exact ⟨_, _, rfl⟩
 obtain ⟨g, off, Ak, Ck, A2, n2, C2, A3, n3, C3, rfl, hg0, hg, hki, hkc, hkm, hcell⟩ := part_at h.pts hkl
 have EQ : fndK ps (fnd ps d) out (ptAt ps k) f c = (ptAt ps k).kids.foldl (fun o j => fnd ps d o j (f + ((ptAt ps k).first : Int)) c) out := by
  unfold fndK
  rw [hkind]
  rfl
 rw [EQ]
 rw [hkind] at hcell
 have hkm2 : Ck ≤ 9223372036854775807 := hkm
 generalize hps : (ptAt ps k).size = psz at *
 generalize hpd : (ptAt ps k).dev = pdv at *
 generalize hpf : (ptAt ps k).first = pfi at *
 generalize hpc : (ptAt ps k).chunk = pch at *
 generalize hpk : (ptAt ps k).kids = pk at *
 obtain ⟨Kn, hKn⟩ : ∃ Kn, Kn = pk.length := ⟨_, rfl⟩
 rw [← hKn] at hcell hkc hkl2
 have HKn : Hid (Kn = pk.length) := hKn
 clear hps hpd hpf hpc hpk hKn
 have c0 := h.has.cell 0
 have c1 := h.has.cell 1
 have lc := h.has.lt
 simp only [ga1, gz1, gs1] at c0 c1
 have hooi : ¬ (256 : Int) < (out.length : Int) := by omega
 have hkli : (k : Int) < (ps.length : Int) := by omega
 clear EQ hh hkind h
 go_enter Tryz.func30, Tryz.ntmps30
 go_wp2_with (first
  | ((go_at_call 61)
     (refine hhas.mono ?_)
     (rintro e w1 ⟨rfl, hb1⟩)
     (have c0b := below_some hb1 c0)
     (have c1b := below_some hb1 c1)
     (have lcb := Nat.lt_of_lt_of_le lc hb1.size)
     (have hcellb := fun j (hj : j < 8) => (hb1.cell (p := ⟨g, off + k * 8 + j, none⟩) hg).trans (hcell j hj)))
  | ((refine at_dstL 30 rfl ?_)
     (refine wpList_is (some 30) _ rfl (by rfl) (run_at_pt _ _ rfl g off k ps.length C rfl rfl hkl w1) ?_))
  | ((refine at_dstL 31 rfl ?_)
     (refine wpList_is (some 31) _ rfl (by rfl) (run_load_pt _ rfl g (off + k * 8) rfl w1 hcellb) ?_)
     (have H1 := (hR.keep hb1).keep (b_one w1 (.cells #[.int .i64 2, .int .i64 (psz : Nat), .slice Ak Kn Ck, .int .i64 (pdv : Nat), .int .i64 (pfi : Nat), .int .i64 (pch : Nat), .slice A2 n2 C2, .slice A3 n3 C3] 47)))
     (have P1 := Has.new w1 47 #[.int .i64 2, .int .i64 (psz : Nat), .slice Ak Kn Ck, .int .i64 (pdv : Nat), .int .i64 (pfi : Nat), .int .i64 (pch : Nat), .slice A2 n2 C2, .slice A3 n3 C3])
     (have B1 : Below w.heap.size w (w1.alloc (.cells #[.int .i64 2, .int .i64 (psz : Nat), .slice Ak Kn Ck, .int .i64 (pdv : Nat), .int .i64 (pfi : Nat), .int .i64 (pch : Nat), .slice A2 n2 C2, .slice A3 n3 C3] 47)) := hb1.alloc hb1.size _)))
 have lW1 : (w1.alloc (.cells #[.int .i64 2, .int .i64 (psz : Nat), .slice Ak Kn Ck, .int .i64 (pdv : Nat), .int .i64 (pfi : Nat), .int .i64 (pch : Nat), .slice A2 n2 C2, .slice A3 n3 C3] 47)).heap.size = w1.heap.size + 1 := by simp
 have BW1 : Below fb w (w1.alloc (.cells #[.int .i64 2, .int .i64 (psz : Nat), .slice Ak Kn Ck, .int .i64 (pdv : Nat), .int .i64 (pfi : Nat), .int .i64 (pch : Nat), .slice A2 n2 C2, .slice A3 n3 C3] 47)) := B1.mono (Nat.le_of_lt lc)
 have ff : i64ok (f + (pfi : Int)) := ⟨by omega, by omega⟩
 go_loopw [69] (fun z wr => ∃ (i : Nat) (v' : Value) (out' : List R3), z = .int .i64 (i : Nat) ∧ i ≤ Kn ∧ FdAt wr fb (some ⟨g, off, none⟩) C ps v' out' ∧ FdSt fb (.slice Av out.length Cv) (w1.alloc (.cells #[.int .i64 2, .int .i64 (psz : Nat), .slice Ak Kn Ck, .int .i64 (pdv : Nat), .int .i64 (pfi : Nat), .int .i64 (pch : Nat), .slice A2 n2 C2, .slice A3 n3 C3] 47)) v' wr ∧ Hid (out' = (pk.take i).foldl (fun o j => fnd ps d o j (f + (pfi : Int)) c) out)) (fun z _ => Kn - (intOf z).toNat)
 case atStart => exact ⟨0, _, out, rfl, Nat.zero_le _, H1, FdSt.refl _ _ _, rfl⟩
 case round =>
  obtain ⟨i, v', out', rfl, hi, H2, S2, HO⟩ := hrel
  by_cases hlt : i < Kn
  · have hlp : i < pk.length := by rw [← HKn.out]; exact hlt
    have B2 : Below fb (w1.alloc (.cells #[.int .i64 2, .int .i64 (psz : Nat), .slice Ak Kn Ck, .int .i64 (pdv : Nat), .int .i64 (pfi : Nat), .int .i64 (pch : Nat), .slice A2 n2 C2, .slice A3 n3 C3] 47)) wr := S2.below (fun j hj => by have := (row_lt H1.row hj).2; omega) (by have := H1.has.lt; omega)
    obtain ⟨b, o, eA, hbl, hbf, hcl⟩ := hki.resolve_left (by intro e; rw [e] at hlp; simp at hlp)
    have hck := (B2.cell (p := ⟨b, o + i, none⟩) hbf).trans ((BW1.cell (p := ⟨b, o + i, none⟩) hbf).trans (hcl i hlp))
    have hkd : pk[i] < k := hkids _ (List.getElem_mem hlp)
    have HG : Hid ((pk.take (i + 1)).foldl (fun o j => fnd ps d o j (f + (pfi : Int)) c) out = fnd ps d out' pk[i] (f + (pfi : Int)) c) := by
     rw [List.take_succ_eq_append_getElem hlp, List.foldl_append, ← HO.out]
     rfl
    have hcx := hx wr v' out' pk[i] (f + (pfi : Int)) c H2 hkd ff hc
    have hint : (i : Int) < (Kn : Int) := by omega
    clear hcl
    generalize pk[i] = kid at hck hkd HG hcx
    subst eA
    go_wp2_with (first
     | ((go_at_call 30)
        (refine hcx.mono ?_)
        (rintro e w5 ⟨v5, rfl, H5, S5⟩)))
    go_roundw
    case rel => exact ⟨i + 1, v5, _, by go_num, by omega, H5, S2.trans S5, HG.out.symm⟩
    case measure => simp [intOf]; omega
  · obtain rfl : i = Kn := by omega
    have HF : Hid (out' = pk.foldl (fun o j => fnd ps d o j (f + (pfi : Int)) c) out) := by
     rw [HO.out, HKn.out, List.take_length]
     exact rfl
    clear HO
    go_wp2
    go_end0
    refine ⟨v', rfl, ?_, (FdSt.of B1).trans S2⟩
    rw [← HF.out]
    exact H2
end
section
open Go.ChangeShapes Go.WideShapes Go.ChangeAt Go.RowKit Go.MapKept
theorem findAll_c {w : World} {fb : Nat} {A : Option Addr} {C : Nat} {ps : List Pt} {v : Value} {out : List R3} (h : FdAt w fb A C ps v out) (d j : Nat) (hj : j < ps.length) (R : List R3)
  (hx : Calls Tryz.prog 30 #[.pointer (some ⟨fb, 0, none⟩), .int .i64 (j : Nat), .int .i64 0, .int .i64 (sz ps j : Nat)] w (FdRes w fb A C ps v R)) :
  Calls Tryz.prog 63 #[.pointer (some ⟨fb, 0, none⟩), .int .i64 (j : Nat)] w (FdRes w fb A C ps v R) := by
 obtain ⟨g, off, Ak, Ck, A2, n2, C2, A3, n3, C3, rfl, hg0, hg, hki, hkc, hkm, hcell⟩ := part_at h.pts hj
 have c0 := h.has.cell 0
 have lc := h.has.lt
 have q1 := hcell 1 (by decide)
 simp only [ga1, gz1, gs1] at c0 q1
 have hcap : ps.length ≤ C ∧ C ≤ 9223372036854775807 := h.cap
 have hjj : (j : Int) < (ps.length : Int) := by omega
 rw [show (ptAt ps j).size = sz ps j from rfl] at q1
 generalize sz ps j = S at hx q1
 clear hcell h
 go_enter Tryz.func63, Tryz.ntmps63
 go_wp2_with (first
  | ((go_at_call 30)
     (refine hx.mono ?_)
     (rintro e w1 ⟨v1, rfl, H1, S1⟩)))
 go_end0
 exact ⟨v1, rfl, H1, S1⟩
end
section
open Go.ChangeShapes Go.WideShapes Go.ChangeAt Go.RowKit Go.MapKept
theorem run_maxI {o : Oper} {a : Act} (x y : Operand) (ho : o.op = .call { callee := .builtin .max, args := #[x, y], argTypes := #[3, 3] }) (n m : Int) (hx : a.eval x = .int .i64 n) (hy : a.eval y = .int .i64 m) (w : World) : (execOp a.eval o).run Tryz.prog w = .ok (.value (.int .i64 (max n m))) w := by
 unfold execOp
 simp only [ho, resolve, invoke, builtin, List.map_toArray, List.map_cons, List.map_nil, hx, hy]
 by_cases h : n < m
 · have e : max n m = m := by omega
   rw [e]
   go_simp
 · have e : max n m = n := by omega
   rw [e]
   go_simp
theorem run_minI {o : Oper} {a : Act} (x y : Operand) (ho : o.op = .call { callee := .builtin .min, args := #[x, y], argTypes := #[3, 3] }) (n m : Int) (hx : a.eval x = .int .i64 n) (hy : a.eval y = .int .i64 m) (w : World) : (execOp a.eval o).run Tryz.prog w = .ok (.value (.int .i64 (min n m))) w := by
 unfold execOp
 simp only [ho, resolve, invoke, builtin, List.map_toArray, List.map_cons, List.map_nil, hx, hy]
 by_cases h : n < m
 · have e : min n m = n := by omega
   rw [e]
   go_simp
   omega
 · have e : min n m = m := by omega
   rw [e]
   go_simp
   omega
def acr (ps : List Pt) (G : List R3 → Nat → Int → Int → List R3) (f c : Int) (x : List R3 × Int) (k : Nat) : List R3 × Int := (G x.1 k (max (f - x.2) 0) (min (f + c - x.2) (sz ps k) - max (f - x.2) 0), x.2 + sz ps k)
theorem acr_le {ps : List Pt} {G : List R3 → Nat → Int → Int → List R3} {f c : Int} (hs : ∀ k, sz ps k ≤ 8192 ∨ ps.length ≤ k) (l : List Nat) : ∀ (x : List R3 × Int), (∀ k ∈ l, k < ps.length) → x.2 ≤ (l.foldl (acr ps G f c) x).2 ∧ (l.foldl (acr ps G f c) x).2 ≤ x.2 + 8192 * l.length := by
 induction l with
 | nil => intro x _; simp
 | cons k l ih =>
   intro x hk
   have h1 := ih (acr ps G f c x k) (fun j hj => hk j (by simp [hj]))
   have h2 : (acr ps G f c x k).2 = x.2 + sz ps k := rfl
   have h3 := hs k
   have h4 := hk k (by simp)
   simp only [List.foldl_cons, List.length_cons]
   omega
theorem across_c {w : World} {fb : Nat} {A : Option Addr} {C : Nat} {ps : List Pt} {v : Value} {out : List R3} (h : FdAt w fb A C ps v out) (hwf : WfR ps) (d k : Nat) (hkl : k < ps.length) (f c : Int) (hf : 0 ≤ f ∧ f ≤ 8192) (hc : 0 ≤ c ∧ c ≤ 8192) (Ak : Option Addr) (Kn Ck : Nat) (pk : List Nat) (hKn : Kn = pk.length) (hki : IntsP w (fun g => g < fb) Ak pk) (hkids : ∀ j ∈ pk, j < k) (hlen : Kn ≤ 1000) (hkc : Kn ≤ Ck) (hkm : Ck ≤ 9223372036854775807)
  (hx : ∀ (W : World) (v : Value) (out : List R3) (j : Nat) (f c : Int), FdAt W fb A C ps v out → j < k → i64ok f → i64ok c → Calls Tryz.prog 30 #[.pointer (some ⟨fb, 0, none⟩), .int .i64 (j : Nat), .int .i64 f, .int .i64 c] W (FdRes W fb A C ps v (fnd ps d out j f c))) :
  Calls Tryz.prog 62 #[.pointer (some ⟨fb, 0, none⟩), .slice Ak Kn Ck, .int .i64 f, .int .i64 (f + c)] w (FdRes w fb A C ps v (pk.foldl (acr ps (fnd ps d) f c) (out, 0)).1) := by
 have hcap : ps.length ≤ C ∧ C ≤ 9223372036854775807 := h.cap
 have HKn : Hid (Kn = pk.length) := hKn
 have hlow : ∀ j, v.ownBlock = some j → fb ≤ j := fun j hj => by have := (row_lt h.row hj).2; omega
 have lc := h.has.lt
 have HL : Hid (∀ i, i ≤ pk.length → 0 ≤ ((pk.take i).foldl (acr ps (fnd ps d) f c) (out, 0)).2 ∧ ((pk.take i).foldl (acr ps (fnd ps d) f c) (out, 0)).2 ≤ 8192000) := by
  intro i hi
  have := acr_le (ps := ps) (G := fnd ps d) (f := f) (c := c) (fun j => by
   by_cases hj : j < ps.length
   · exact .inl (hwf.size j hj)
   · exact .inr (by omega)) (pk.take i) (out, 0) (fun j hj => by have := hkids j (List.mem_of_mem_take hj); omega)
  simp only [List.length_take] at this
  have hp : pk.length ≤ 1000 := by omega
  constructor
  · exact this.1
  · omega
 clear hKn
 go_enter Tryz.func62, Tryz.ntmps62
 go_wp2
 go_loopw [2, 3, 15] (fun z2 z3 z wr => ∃ (i : Nat) (s : Int) (v' : Value) (out' : List R3), z2 = .int .i64 (f - s) ∧ z3 = .int .i64 (f + c - s) ∧ z = .int .i64 (i : Nat) ∧ i ≤ Kn ∧ 0 ≤ s ∧ s ≤ 8192000 ∧ FdAt wr fb A C ps v' out' ∧ FdSt fb v w v' wr ∧ Hid ((pk.take i).foldl (acr ps (fnd ps d) f c) (out, 0) = (out', s))) (fun _ _ z _ => Kn - (intOf z).toNat)
 case atStart => exact ⟨0, 0, v, out, by simp, by simp, rfl, Nat.zero_le _, by decide, by decide, h, FdSt.refl _ _ _, rfl⟩
 case round =>
  obtain ⟨i, s, v', out', rfl, rfl, rfl, hi, hs0, hs1, H2, S2, HO⟩ := hrel
  by_cases hlt : i < Kn
  · have hlp : i < pk.length := by rw [← HKn.out]; exact hlt
    have B2 : Below fb w wr := S2.below hlow (Nat.le_of_lt lc)
    obtain ⟨b, o, eA, hbl, hbf, hcl⟩ := hki.resolve_left (by intro e; rw [e] at hlp; simp at hlp)
    have hck := (B2.cell (p := ⟨b, o + i, none⟩) hbf).trans (hcl i hlp)
    have hkd : pk[i] < k := hkids _ (List.getElem_mem hlp)
    have hsk := hwf.size pk[i] (by omega)
    obtain ⟨g, off, Aj, Cj, A2, n2, C2, A3, n3, C3, eP, hg0, hg, _, _, _, hcell⟩ := part_at H2.pts (k := pk[i]) (by omega)
    have q1 := hcell 1 (by decide)
    have c0 := H2.has.cell 0
    have lr := H2.has.lt
    simp only [ga1, gz1, gs1] at q1 c0
    rw [show (ptAt ps pk[i]).size = sz ps pk[i] from rfl] at q1
    have HG : Hid ((pk.take (i + 1)).foldl (acr ps (fnd ps d) f c) (out, 0) = (fnd ps d out' pk[i] (max (f - s) 0) (min (f + c - s) (sz ps pk[i]) - max (f - s) 0), s + sz ps pk[i])) := by
     rw [List.take_succ_eq_append_getElem hlp, List.foldl_append, HO.out]
     exact rfl
    have HS : Hid (s + (sz ps pk[i] : Int) ≤ 8192000) := by
     have := (HL.out (i + 1) (by omega)).2
     rw [HG.out] at this
     exact this
    have hk1 : pk[i] < ps.length := by omega
    have hcx := hx wr v' out' pk[i] (max (f - s) 0) (min (f + c - s) (sz ps pk[i]) - max (f - s) 0) H2 hkd ⟨by omega, by omega⟩ ⟨by omega, by omega⟩
    clear hcl hcell HO
    generalize pk[i] = kid at *
    generalize sz ps kid = S at *
    have hS2 : s + (S : Int) ≤ 8192000 := HS.out
    obtain ⟨M, hM⟩ : ∃ M, M = max (f - s) 0 := ⟨_, rfl⟩
    obtain ⟨m, hm⟩ : ∃ m, m = min (f + c - s) (S : Int) := ⟨_, rfl⟩
    have hM1 : 0 ≤ M ∧ M ≤ 8192 := by omega
    have hm1 : -8192000 ≤ m ∧ m ≤ 8192 := by omega
    rw [← hM, ← hm] at hcx HG
    have HMX : Hid (M = max (f - s) 0) := hM
    have HMN : Hid (m = min (f + c - s) (S : Int)) := hm
    clear hM hm HS
    have hint : (i : Int) < (Kn : Int) := by omega
    have hkint : (kid : Int) < (ps.length : Int) := by omega
    obtain ⟨hM1a, hM1b⟩ := hM1
    obtain ⟨hm1a, hm1b⟩ := hm1
    subst eA
    subst eP
    go_wp2_with (first
     | ((refine at_dstL 24 rfl ?_)
        (refine wpList_is (some 24) _ rfl (by rfl) (run_at_pt _ _ rfl g off kid ps.length C rfl rfl hk1 wr) ?_))
     | ((refine at_dstL 28 rfl ?_)
        (refine wpList_is (some 28) (.int .i64 M) rfl (by rfl) (by rw [HMX.out]; exact run_maxI _ _ rfl _ _ rfl rfl wr) ?_))
     | ((refine at_dstL 31 rfl ?_)
        (refine wpList_is (some 31) (.int .i64 m) rfl (by rfl) (by rw [HMN.out]; exact run_minI _ _ rfl _ _ rfl rfl wr) ?_))
     | ((go_at_call 30)
        (refine hcx.mono ?_)
        (rintro e w5 ⟨v5, rfl, H5, S5⟩)))
    go_roundw
    case rel => exact ⟨i + 1, s + S, v5, _, congrArg (Value.int .i64) (by omega), congrArg (Value.int .i64) (by omega), by go_num, by omega, by omega, by omega, H5, S2.trans S5, HG.out⟩
    case measure => simp [intOf]; omega
  · obtain rfl : i = Kn := by omega
    have HF : Hid ((pk.foldl (acr ps (fnd ps d) f c) (out, 0)).1 = out') := by
     have := HO.out
     rw [HKn.out, List.take_length] at this
     rw [this]
     exact rfl
    clear HO
    go_wp2
    go_end0
    exact ⟨v', rfl, by rw [HF.out]; exact H2, S2⟩
end
end Go.Proofs.YthndifegfmjpbaaGreatDoor
