/- cache: small laws: rows that grow, values of several cells. -/
import Derived.Test.YtancebpjfbbcaaaCcMap
import Derived.Test.YtancebpjfbbcaaaDwRep
import Derived.Deep.MidRow
namespace Go.Proofs.Ytancebpjfbbcaaa
open Go.ChangeShapes Go.WideShapes Go.ChangeAt Go.RowKit Go.MapKept
set_option linter.unusedVariables false

theorem at_dstC {ops : Array Oper} {rest : List Oper} {o : Oper} {a : Act} {w : World} {Q : Exit → Act → World → Prop} (n : Nat) (hd : o.dst = some n) (h : wpList Try.prog ops Q (o :: rest) a w) : wpList Try.prog ops Q (o :: rest) a w := h

theorem hidC {p : Prop} (h : p) : Hid p := h

/-- A kind of rows: the slice's type, the element's, its size. -/
structure KindC (t e size bytes : Nat) : Prop where
  ut : Try.prog.underlying t = some (.slice e)
  info : ∃ z : Value, (Try.prog.info? e).map (fun i => (i.zero, i.size, i.bytes)) = some (some z, size, bytes) ∧ z.cells.size = size
  pos : 0 < size
  small : bytes ≤ 1000

theorem append_whereC {P : Program} {w : World} {base : Nat} {t ty e : TypeId} {i : TypeInfo} {z : Value} {size : Nat} (ht : P.underlying t = some (.slice e)) (hi : P.info? e = some i) (hz : i.zero = some z) (hsize : i.size = size) (hsz : 0 < size)
    {v : Value} {n : Nat} {xs : List Value} (hown : w.ownsRow base e size v n xs) {ad : Addr} {m c : Nat} {news : List Value} (hl : news.length = m * size) (hnews : ∀ j u, news[j]? = some u → w.cell? (ad.add j) = some u) (h1 : ∀ u ∈ news, u.oneCell' = true)
    (h63 : n + m ≤ maxLen) (hbytes : (n + m) * i.bytes ≤ 140737488355328) (hm : 0 < m) {v' : Value} {w' : World} (hr : (Builtin.append_ #[t, t] ty #[v, .slice (some ad) m c]).run P w = .ok v' w') : v'.ownBlock = v.ownBlock ∨ v'.ownBlock = some w.heap.size := by
  subst hsize
  have hsmall : n + m ≤ 9223372036854775807 := by simp only [maxLen] at h63; omega
  rcases hown.2 with ⟨rfl, rfl⟩ | ⟨g, cap, cur, rfl, hbg, hg, hnc, hcm, hcs, htake⟩
  · have hr2 := run_append_nil (P := P) w t ty e i z ht hi hz ad m c news hl hnews (by omega) (by omega) (by have hb := hbytes; simp only [Nat.zero_add] at hb; omega)
    rw [hr2] at hr
    cases hr
    exact .inr rfl
  · by_cases hroom : n + m ≤ cap
    · have hfit : n * i.size + news.length ≤ cur.size := by rw [hl, hcs, ← Nat.add_mul]; exact Nat.mul_le_mul_right _ hroom
      have hr2 := run_append_room (P := P) w t ty e i ht hi g n cap cur hg ad m c news hl hnews h1 hroom hfit
      rw [hr2] at hr
      cases hr
      exact .inl rfl
    · have holds : ∀ j u, xs[j]? = some u → w.cell? ((⟨g, 0, none⟩ : Addr).add j) = some u := hown.cells (g := g) rfl
      have hr2 := run_append_grow (P := P) w t ty e i z ht hi hz ⟨g, 0, none⟩ n cap xs hown.1 holds ad m c news hl hnews (by omega) (by omega) (growslice_fits (by omega) hbytes)
      rw [hr2] at hr
      cases hr
      exact .inr rfl

/-- A row grows by one. -/
theorem append_oneC {t e size bytes : Nat} (K : KindC t e size bytes) {ty : TypeId} (w : World) (base n : Nat) (v : Value) (xs : List Value) (hrow : w.ownsRow base e size v n xs) (hbase : base ≤ w.heap.size) (hlen : n ≤ 1000000) (news : List Value) (hl : news.length = size) (h1 : ∀ u ∈ news, u.oneCell' = true) (G : Nat) (hG : Has w G e news.toArray) :
    ∃ A' C' w', (Builtin.append_ #[t, t] ty #[v, .slice (some ⟨G, 0, none⟩) 1 1]).run Try.prog w = .ok (.slice A' (n + 1) C') w' ∧ w'.ownsRow base e size (.slice A' (n + 1) C') (n + 1) (xs ++ news) ∧ w.grownBy w' v.ownBlock ∧ ((Value.slice A' (n + 1) C').ownBlock = v.ownBlock ∨ (Value.slice A' (n + 1) C').ownBlock = some w.heap.size) := by
  obtain ⟨z, hz, hzs⟩ := K.info
  obtain ⟨i0, hi, hz0, hz1, hz2⟩ := info_parts hz
  have hp := K.pos
  have hnews : ∀ j u, news[j]? = some u → w.cell? ((⟨G, 0, none⟩ : Addr).add j) = some u := by
    intro j u hj
    have := hG.cell j
    rw [Addr.add_mid, Nat.zero_add, this]
    simpa using hj
  have hsm : (n + 1) * bytes ≤ 140737488355328 := by
    have : (n + 1) * bytes ≤ 1000001 * 1000 := Nat.mul_le_mul (by omega) K.small
    omega
  obtain ⟨v', w', hr, h2, h3, h4⟩ := run_append_own (P := Try.prog) w base t ty e i0 z size bytes K.ut hi hz0 hz1 hz2 hzs hp v n xs hrow ⟨G, 0, none⟩ 1 1 news (by omega) hnews h1 (by unfold maxLen; omega) hsm hbase
  have hwh := append_whereC (P := Try.prog) K.ut hi hz0 hz1 hp hrow (ad := ⟨G, 0, none⟩) (m := 1) (c := 1) (news := news) (by omega) hnews h1 (by unfold maxLen; omega) (by rw [hz2]; exact hsm) (by decide) hr
  obtain ⟨A', C', e'⟩ : ∃ A' C', v' = .slice A' (n + 1) C' := by
    rcases h2.2 with ⟨_, h0⟩ | ⟨g, cap, cur, rfl, _⟩
    · omega
    · exact ⟨_, _, rfl⟩
  subst e'
  exact ⟨A', C', w', hr, h2, h3, hwh⟩

theorem run_app_isC {t : TypeId} {o : Oper} {a : Act} (s x : Operand) (ho : o.op = .call { callee := .builtin .append, args := #[s, x], argTypes := #[t, t] }) {w w' : World} {v y v' : Value} (hs : a.eval s = v) (hx : a.eval x = y) (hr : (Builtin.append_ #[t, t] o.type #[v, y]).run Try.prog w = .ok v' w') : (execOp a.eval o).run Try.prog w = .ok (.value v') w' := by
  unfold execOp
  simp only [ho, resolve, invoke, builtin, Sem.run_bind, Sem.run_pure, Result.andThen_ok, List.map_toArray, List.map_cons, List.map_nil, hs, hx, hr]

theorem kWrC : KindC 30 78 3 40 := ⟨Try.underlying30, ⟨.agg #[.int .i64 0, .int .i64 0, .slice none 0 0], by kernel_rfl, rfl⟩, by decide, by decide⟩
theorem kGrC : KindC 71 70 2 32 := ⟨Try.underlying71, ⟨.agg #[.map none, .slice none 0 0], by kernel_rfl, rfl⟩, by decide, by decide⟩
theorem kPdC : KindC 23 42 1 8 := ⟨Try.underlying23, ⟨.pointer none, by kernel_rfl, rfl⟩, by decide, by decide⟩

/-! Values of several cells. -/
theorem Try.size76 : (Try.prog.info? 76).map (·.size) = some 2 := by kernel_rfl
theorem Try.size78 : (Try.prog.info? 78).map (·.size) = some 3 := by kernel_rfl
theorem Try.size70 : (Try.prog.info? 70).map (·.size) = some 2 := by kernel_rfl

theorem run_load_many {o : Oper} {a : Act} {ty : TypeId} (x : Operand) (ho : o.op = .load ty x) (b off : Nat) (hx : a.eval x = .pointer (some ⟨b, off, none⟩)) (vs : List Value) (d : TypeDesc) (hu : Try.prog.underlying ty = some d) (hd : d.isRow = true) (hi : (Try.prog.info? ty).map (·.size) = some vs.length) (w : World) (h : w.rangeAt b off vs) : (execOp a.eval o).run Try.prog w = .ok (.value (.agg vs.toArray)) w := by
  have hr := run_loadAt_mid (P := Try.prog) w b off ty vs d h hu hd hi
  unfold execOp
  simp only [ho, hx, Sem.run_bind, hr]
  rfl

theorem range2 {w : World} {b off : Nat} {v0 v1 : Value} (h0 : w.cell? ⟨b, off, none⟩ = some v0) (h1 : w.cell? ⟨b, off + 1, none⟩ = some v1) : w.rangeAt b off [v0, v1] := by
  intro j u hu
  rcases (show j = 0 ∨ j = 1 ∨ 2 ≤ j by omega) with rfl | rfl | hj
  · rw [← hu]; exact h0
  · rw [← hu]; exact h1
  · rw [List.getElem?_eq_none (by simpa using hj)] at hu
    cases hu

theorem range3 {w : World} {b off : Nat} {v0 v1 v2 : Value} (h0 : w.cell? ⟨b, off, none⟩ = some v0) (h1 : w.cell? ⟨b, off + 1, none⟩ = some v1) (h2 : w.cell? ⟨b, off + 2, none⟩ = some v2) : w.rangeAt b off [v0, v1, v2] := by
  intro j u hu
  rcases (show j = 0 ∨ j = 1 ∨ j = 2 ∨ 3 ≤ j by omega) with rfl | rfl | rfl | hj
  · rw [← hu]; exact h0
  · rw [← hu]; exact h1
  · rw [← hu]; exact h2
  · rw [List.getElem?_eq_none (by simpa using hj)] at hu
    cases hu

theorem run_load_pl {o : Oper} {a : Act} (x : Operand) (ho : o.op = .load 76 x) (b off : Nat) (hx : a.eval x = .pointer (some ⟨b, off, none⟩)) (d s : Nat) (w : World) (h0 : w.cell? ⟨b, off, none⟩ = some (.int .i64 (d : Nat))) (h1 : w.cell? ⟨b, off + 1, none⟩ = some (.int .i64 (s : Nat))) : (execOp a.eval o).run Try.prog w = .ok (.value (plv d s)) w :=
  run_load_many x ho b off hx [.int .i64 (d : Nat), .int .i64 (s : Nat)] _ Try.underlying76 rfl Try.size76 w (range2 h0 h1)

theorem run_load_gr {o : Oper} {a : Act} (x : Operand) (ho : o.op = .load 70 x) (b off : Nat) (hx : a.eval x = .pointer (some ⟨b, off, none⟩)) (mv lv : Value) (w : World) (h0 : w.cell? ⟨b, off, none⟩ = some mv) (h1 : w.cell? ⟨b, off + 1, none⟩ = some lv) : (execOp a.eval o).run Try.prog w = .ok (.value (.agg #[mv, lv])) w :=
  run_load_many x ho b off hx [mv, lv] _ Try.underlying70 rfl Try.size70 w (range2 h0 h1)

theorem run_load_wr {o : Oper} {a : Act} (x : Operand) (ho : o.op = .load 78 x) (b off : Nat) (hx : a.eval x = .pointer (some ⟨b, off, none⟩)) (v0 v1 v2 : Value) (w : World) (h0 : w.cell? ⟨b, off, none⟩ = some v0) (h1 : w.cell? ⟨b, off + 1, none⟩ = some v1) (h2 : w.cell? ⟨b, off + 2, none⟩ = some v2) : (execOp a.eval o).run Try.prog w = .ok (.value (.agg #[v0, v1, v2])) w :=
  run_load_many x ho b off hx [v0, v1, v2] _ Try.underlying78 rfl Try.size78 w (range3 h0 h1 h2)

theorem run_look_op {o : Oper} {a : Act} (x y : Operand) (ho : o.op = .lookup 68 x y true) {w : World} {mv : Value} {d s : Nat} {R : Value} (hx : a.eval x = mv) (hy : a.eval y = plv d s) (h : (Instr.lookup 68 mv (plv d s) true).run Try.prog w = .ok R w) : (execOp a.eval o).run Try.prog w = .ok (.value R) w := by
  unfold execOp
  simp only [ho, hx, hy, Sem.run_bind, h]
  rfl

theorem run_upd_op {o : Oper} {a : Act} (x y z : Operand) (ho : o.op = .mapUpdate 68 x y z) {w w' : World} {mv k v : Value} (hx : a.eval x = mv) (hy : a.eval y = k) (hz : a.eval z = v) (h : (Instr.mapUpdate 68 mv k v).run Try.prog w = .ok () w') : (execOp a.eval o).run Try.prog w = .ok .skip w' := by
  unfold execOp
  simp only [ho, hx, hy, hz, Sem.run_bind, h]
  rfl

/-! A row's cells, one of them set. -/
theorem own_setC {w : World} {B e size n g cap j : Nat} {xs : List Value} (h : w.ownsRow B e size (.slice (some ⟨g, 0, none⟩) n cap) n xs) (hj : j < n * size) (u : Value) : (w.setCell ⟨g, j, none⟩ u).ownsRow B e size (.slice (some ⟨g, 0, none⟩) n cap) n (xs.set j u) := by
  refine ⟨by rw [List.length_set]; exact h.1, ?_⟩
  rcases h.2 with ⟨e0, _⟩ | ⟨g', cap', cur, e0, hb, hg, hn, hm, hs, ht⟩
  · cases e0
  · injection e0 with e1 _ e3
    injection e1 with e1
    injection e1 with e1
    subst e1 e3
    refine .inr ⟨g, cap, cur.setIfInBounds j u, rfl, hb, ?_, hn, hm, by simpa using hs, ?_⟩
    · have hg' : Has w g e cur := hg
      exact hg'.setV j u
    · rw [Array.toList_setIfInBounds, ← ht]
      apply List.ext_getElem?
      intro i
      rw [List.getElem?_take, List.getElem?_set, List.getElem?_set, List.getElem?_take]
      by_cases hi : i < n * size
      · rw [if_pos hi]
        by_cases hji : j = i
        · subst hji
          have hl : (cur.toList.take (n * size)).length = n * size := by rw [ht]; exact h.1
          rw [List.length_take] at hl ⊢
          rw [if_pos rfl, if_pos rfl]
          have : j < cur.toList.length := by omega
          rw [if_pos this, if_pos (by omega)]
        · rw [if_neg hji, if_neg hji, if_pos hi]
      · rw [if_neg hi, if_neg hi, if_neg (by omega)]

theorem own_freeC {w : World} {B e size n g cap j : Nat} {xs : List Value} (h : w.ownsRow B e size (.slice (some ⟨g, 0, none⟩) n cap) n xs) : w.frozen? ⟨g, j, none⟩ = false := by
  rcases h.2 with ⟨e0, _⟩ | ⟨g', cap', cur, e0, hb, hg, hn, hm, hs, ht⟩
  · cases e0
  · injection e0 with e1 _ e3
    injection e1 with e1
    injection e1 with e1
    subst e1 e3
    exact Has.free (show Has w g e cur from hg) j

/-! bytes.Clone. -/
theorem below_gC {a w w' : World} {r : Option Nat} (h : Below a.heap.size a w) (hg : w.grownBy w' r) (hr : ∀ g, r = some g → a.heap.size ≤ g) : Below a.heap.size a w' :=
  h.trans ⟨hg.os, hg.tape, hg.output, hg.size, fun k hk => hg.block k (Nat.lt_of_lt_of_le hk h.size) (fun e => by have := hr k e.symm; omega)⟩

theorem own_emptyC (w : World) (f : Nat → Nat) : (w.alloc (.cells #[] 5)).ownsRow w.heap.size 5 1 (.slice (some ⟨w.heap.size, 0, none⟩) 0 0) 0 (bl f 0) :=
  ⟨rfl, .inr ⟨w.heap.size, 0, #[], rfl, Nat.le_refl _, heap_alloc_new w _, Nat.le_refl _, Nat.zero_le _, rfl, rfl⟩⟩

set_option maxHeartbeats 1000000 in
theorem clone_anyC {w : World} {a : Option Addr} {L C : Nat} {f : Nat → Nat} (h : Bytes w a L f) (hn : a = none → L = 0 ∧ C = 0) (hL : L ≤ 140737488355328) :
    Calls Try.prog 47 #[.slice a L C] w fun e w' => Below w.heap.size w w' ∧ ∃ v, e = .returned v ∧ w'.ownsRow w.heap.size 5 1 v L (bl f L) := by
  cases a with
  | none =>
    obtain ⟨rfl, rfl⟩ := hn rfl
    have hnil : ∀ w : World, (binOp BinOp.eql 39 (.slice none 0 0) (.slice none 0 0)).run Try.prog w = .ok (.bool true) w := fun _ => by kernel_rfl
    go_enter Try.func47, Try.ntmps47
    go_wp2
    go_ret
    exact ⟨Below.refl _ _, _, rfl, rfl, .inl ⟨rfl, rfl⟩⟩
  | some ad =>
    have hnil : ∀ w : World, (binOp BinOp.eql 39 (.slice (some ad) L C) (.slice none 0 0)).run Try.prog w = .ok (.bool false) w := fun _ => by kernel_rfl
    have h2 : Bytes (w.alloc (.cells #[] 5)) (some ad) L f := h.below ((Below.refl _ _).alloc (Nat.le_refl _) _) (Nat.le_refl _)
    go_enter Try.func47, Try.ntmps47
    go_wp2_with (first
      | ((with_reducible refine at_dstC 7 rfl ?_)
         (refine wpList_append_bytes rfl _ _ rfl w.heap.size _ 0 f rfl (own_emptyC w f) (some ad) L C f rfl (fun e => by cases e) h2 (by omega) (by simp) ?_)
         (intro v' w' ho hg)))
    go_ret
    rw [Nat.zero_add, cat_zero] at ho
    exact ⟨below_gC ((Below.refl _ _).alloc (Nat.le_refl _) _) hg (fun g e => by cases e; exact Nat.le_refl _), _, rfl, ho⟩
end Go.Proofs.Ytancebpjfbbcaaa
