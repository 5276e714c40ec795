/- Byte slices that a call makes; appending bytes to them; blocks that are equal. -/
import Derived.Test.YtcnlegnfecpdnaaAesReg
import Derived.Laws.AppendOwnNone
import Derived.OwnWalk
import Derived.DeepKeys
namespace Go.Proofs.Ytcnlegnfecpdnaa
open Go.ChangeShapes Go.WideShapes Go.ChangeAt Go.RowKit
set_option linter.unusedVariables false

theorem Try.info5 : (Try.prog.info? 5).map (fun i => (i.zero, i.size, i.bytes)) = some (some (.int .u8 0), 1, 1) := by kernel_rfl

def Bytes (w : World) (a : Option Addr) (len : Nat) (m : Nat → Nat) : Prop := len = 0 ∨ ∃ b off, a = some ⟨b, off, none⟩ ∧ b < w.heap.size ∧ ∀ j, j < len → w.cell? ⟨b, off + j, none⟩ = some (.int .u8 (m j : Nat))

theorem Bytes.below {w w' : World} {a : Option Addr} {len B : Nat} {m : Nat → Nat} (h : Bytes w a len m) (hb : Below B w w') (hB : w.heap.size ≤ B) : Bytes w' a len m := by
  rcases h with h | ⟨b, off, h1, h2, h3⟩
  · exact .inl h
  · exact .inr ⟨b, off, h1, Nat.lt_of_lt_of_le h2 hb.size, fun j hj => (hb.cell (show b < B by omega)).trans (h3 j hj)⟩

def bl (f : Nat → Nat) (n : Nat) : List Value := (List.range n).map fun j => Value.int .u8 (f j : Nat)

/-- f's first n, and g behind them. -/
def cat (f : Nat → Nat) (n : Nat) (g : Nat → Nat) : Nat → Nat := fun j => if j < n then f j else g (j - n)

theorem bl_len (f : Nat → Nat) (n : Nat) : (bl f n).length = n * 1 := by simp [bl]

theorem bl_get (f : Nat → Nat) (n j : Nat) (h : j < n) : (bl f n)[j]? = some (.int .u8 (f j : Nat)) := by simp [bl, h]

theorem bl_one (f : Nat → Nat) (n : Nat) : ∀ u ∈ bl f n, u.oneCell' = true := by
  intro u hu
  obtain ⟨j, _, rfl⟩ := List.mem_map.1 hu
  rfl

theorem bl_cat (f g : Nat → Nat) (n l : Nat) : bl f n ++ bl g l = bl (cat f n g) (n + l) := by
  unfold bl
  rw [List.range_add, List.map_append, List.map_map]
  congr 1
  · apply List.map_congr_left
    intro j hj
    have : j < n := by simpa using hj
    simp only [cat, if_pos this]
  · apply List.map_congr_left
    intro j hj
    simp only [Function.comp, cat]
    rw [if_neg (by omega), show n + j - n = j from by omega]

theorem bl_cat_zero (f g : Nat → Nat) (n : Nat) : bl (cat f n g) (n + 0) = bl f n := by
  rw [← bl_cat f g n 0]
  simp [bl]

theorem cat_lt (f g : Nat → Nat) (n : Nat) (hf : ∀ j, f j < 256) (hg : ∀ j, g j < 256) (j : Nat) : cat f n g j < 256 := by
  unfold cat
  split
  · exact hf _
  · exact hg _

theorem grownBy_refl (w : World) (r : Option Nat) : w.grownBy w r := ⟨rfl, rfl, rfl, Nat.le_refl _, fun _ _ _ => rfl⟩

/-- One append of bytes, nil or not, to a row of the call's own. -/
theorem wpList_append_bytes {ops : Array Oper} {rest : List Oper} {o : Oper} {a : Act} {w : World} {Q : Exit → Act → World → Prop} (hgd : o.guard = none) (s x : Operand)
    (ho : o.op = .call { callee := .builtin .append, args := #[s, x], argTypes := #[22, 22] }) (base : Nat) (v : Value) (n : Nat) (f : Nat → Nat) (hs : a.eval s = v) (hown : w.ownsRow base 5 1 v n (bl f n))
    (A : Option Addr) (L C : Nat) (g : Nat → Nat) (hx : a.eval x = .slice A L C) (hnil : A = none → L = 0 ∧ C = 0) (hb : Bytes w A L g) (h63 : n + L ≤ 140737488355328) (hbase : base ≤ w.heap.size)
    (h : ∀ v' w', w'.ownsRow base 5 1 v' (n + L) (bl (cat f n g) (n + L)) → w.grownBy w' v.ownBlock → wpList Try.prog ops Q rest (a.put o.dst v') w') : wpList Try.prog ops Q (o :: rest) a w := by
  obtain ⟨i0, hi, hz0, hz1, hz2⟩ := info_parts Try.info5
  cases A with
  | none =>
    obtain ⟨rfl, rfl⟩ := hnil rfl
    refine wpList_append_own_none hgd s x 22 ho base 5 i0 1 Try.underlying22 hi v n _ hs hown hx ?_
    exact h v w (by rw [bl_cat_zero]; exact hown) (grownBy_refl _ _)
  | some ad =>
    refine wpList_append_own w hgd s x 22 ho base 5 i0 (.int .u8 0) 1 1 Try.underlying22 hi hz0 hz1 hz2 rfl (by decide) v n _ hs hown ad L C (bl g L) hx (bl_len g L) ?_ (bl_one g L) (by unfold maxLen; omega) (by omega) hbase ?_
    · intro j u hj
      by_cases hjl : j < L
      · rw [bl_get g L j hjl] at hj
        rcases hb with h0 | ⟨b, off, e, _, hc⟩
        · omega
        · obtain rfl : ad = ⟨b, off, none⟩ := Option.some.inj e
          have e1 : (⟨b, off, none⟩ : Addr).add j = ⟨b, off + j, none⟩ := by unfold Addr.add; split <;> simp_all
          rw [e1, hc j hjl]
          exact hj
      · rw [List.getElem?_eq_none (by rw [bl_len]; omega)] at hj
        simp at hj
    · intro v' w' h1 h2 _
      rw [bl_cat] at h1
      exact h v' w' h1 h2

/-- What is owned, as bytes of a slice. -/
theorem own_bytes {w : World} {base n : Nat} {v : Value} {f : Nat → Nat} (h : w.ownsRow base 5 1 v n (bl f n)) : ∃ a cap, v = .slice a n cap ∧ n ≤ cap ∧ (a = none → n = 0 ∧ cap = 0) ∧ Bytes w a n f ∧ ∀ b off, a = some ⟨b, off, none⟩ → base ≤ b ∧ b < w.heap.size := by
  rcases h.2 with ⟨rfl, rfl⟩ | ⟨g, cap, cur, rfl, hb, hg, hn, hm, hs, ht⟩
  · exact ⟨none, 0, rfl, Nat.le_refl _, fun _ => ⟨rfl, rfl⟩, .inl rfl, fun b off e => by cases e⟩
  · have hlt : g < w.heap.size := (Array.getElem?_eq_some_iff.1 hg).1
    refine ⟨some ⟨g, 0, none⟩, cap, rfl, hn, (fun e => by cases e), .inr ⟨g, 0, rfl, hlt, ?_⟩, ?_⟩
    · intro j hj
      rw [cell_of_row w g (0 + j) cur 5 (0, 0) hg, Nat.zero_add]
      have := bl_get f n j hj
      rw [← ht, List.getElem?_take_of_lt (by omega), Array.getElem?_toList] at this
      exact this
    · intro b off e
      simp only [Option.some.injEq, Addr.mk.injEq, and_true] at e
      omega

theorem own_below {w w' : World} {base B n : Nat} {v : Value} {xs : List Value} (h : w.ownsRow base 5 1 v n xs) (hb : Below B w w') (hB : ∀ g, v.ownBlock = some g → g < B) : w'.ownsRow base 5 1 v n xs := by
  refine ⟨h.1, ?_⟩
  rcases h.2 with h0 | ⟨g, cap, cur, hv, h1, hg, r⟩
  · exact .inl h0
  · exact .inr ⟨g, cap, cur, hv, h1, (hb.block g (hB g (by rw [hv]; rfl))).trans hg, r⟩

theorem cat_zero (f g : Nat → Nat) : cat f 0 g = g := by funext j; simp [cat]

theorem bl_set (f : Nat → Nat) (n q v : Nat) : (bl f n).set q (.int .u8 (v : Nat)) = bl (upd f q v) n := by
  apply List.ext_getElem?
  intro i
  rw [List.getElem?_set]
  by_cases hi : i < n
  · rw [bl_get _ _ _ hi, bl_get _ _ _ hi, show (bl f n).length = n from by simp [bl]]
    by_cases e : q = i
    · subst e; simp [upd, hi]
    · have : ¬ i = q := fun h => e h.symm
      simp [upd, e, this]
  · rw [List.getElem?_eq_none (by simp [bl]; omega), List.getElem?_eq_none (by simp [bl]; omega), show (bl f n).length = n from by simp [bl]]
    split
    · subst_vars; simp [hi]
    · rfl

theorem Bytes.congr {w : World} {a : Option Addr} {len : Nat} {m m' : Nat → Nat} (h : Bytes w a len m) (hm : ∀ j, j < len → m' j = m j) : Bytes w a len m' := by
  rcases h with h | ⟨b, off, h1, h2, h3⟩
  · exact .inl h
  · exact .inr ⟨b, off, h1, h2, fun j hj => by rw [hm j hj]; exact h3 j hj⟩

theorem cat_cat (f g : Nat → Nat) (n : Nat) : cat (cat f n g) n g = cat f n g := by
  funext j
  unfold cat
  by_cases h : j < n
  · rw [if_pos h, if_pos h]
  · rw [if_neg h, if_neg h]


theorem mapM_some {α β : Type} (F : α → Option β) (G : α → β) : ∀ l : List α, (∀ x ∈ l, F x = some (G x)) → l.mapM F = some (l.map G) := by
  intro l
  induction l with
  | nil => intro _; simp
  | cons x l ih =>
    intro h
    rw [List.mapM_cons, h x (by simp), ih (fun y hy => h y (by simp [hy]))]
    rfl

theorem Try.cells23 : Try.prog.cellsOf 23 = 16 := by kernel_rfl
theorem Try.cells5 : Try.prog.cellsOf 5 = 1 := by kernel_rfl

theorem one_at (f : Nat → Nat) (i : Nat) (h : i < 16) : ((cellsN .u8 16 f).toList.drop (i * 1)).take 1 = [Value.int .u8 (f i : Nat)] := by
  have hl : i < (cellsN .u8 16 f).toList.length := by simp [cellsN_size, h]
  rw [Nat.mul_one, List.drop_eq_getElem_cons hl, List.take_succ_cons, List.take_zero]
  have := cellsN_get .u8 16 f i h
  rw [← Array.getElem?_toList, List.getElem?_eq_getElem hl] at this
  rw [Option.some.inj this]

theorem key_block (f : Nat → Nat) (hf : ∀ j, j < 16 → f j < 256) : Try.prog.keyLits 2 23 (cellsN .u8 16 f).toList = some ((List.range 16).map fun i => [Lit.int .u8 (f i : Nat)]).flatten := by
  unfold Program.keyLits
  rw [Try.underlying23]
  simp only [Try.cells23, Try.cells5]
  rw [if_pos (by simp [cellsN_size]), mapM_some _ (fun i => [Lit.int .u8 (f i : Nat)]) (List.range 16) ?_]
  · rfl
  · intro i hi
    have hi' : i < 16 := by simpa using hi
    have hb := hf i hi'
    rw [one_at f i hi']
    unfold Program.keyLits
    rw [Try.underlying5]
    simp [Lit.wf, IntKind.min, IntKind.max, IntKind.signed, IntKind.bits]
    omega

theorem formed_block (f : Nat → Nat) : (Value.agg (cellsN .u8 16 f)).formed Try.prog 23 = true := by
  unfold Value.formed
  simp only [Try.underlying23, Try.cells23, cellsN_size]
  rfl

/-- Whether two blocks are one. -/
def eqB (f g : Nat → Nat) : Bool := (List.range 16).all fun j => f j == g j

theorem eqB_iff (f g : Nat → Nat) : eqB f g = true ↔ ∀ j, j < 16 → f j = g j := by simp [eqB]

theorem eqB_same (f : Nat → Nat) : eqB f f = true := (eqB_iff f f).2 fun _ _ => rfl

theorem lits_iff (f g : Nat → Nat) : ((List.range 16).map fun i => [Lit.int .u8 (f i : Nat)]).flatten = ((List.range 16).map fun i => [Lit.int .u8 (g i : Nat)]).flatten ↔ ∀ j, j < 16 → f j = g j := by
  constructor
  · intro h j hj
    have e : ∀ f : Nat → Nat, ((List.range 16).map fun i => [Lit.int .u8 (f i : Nat)]).flatten = (List.range 16).map fun i => Lit.int .u8 (f i : Nat) := fun f => rfl
    rw [e, e] at h
    have := congrArg (fun l => l[j]?) h
    simp [hj] at this
    omega
  · intro h
    congr 1
    apply List.map_congr_left
    intro j hj
    rw [h j (by simpa using hj)]

theorem eq_block (f g : Nat → Nat) (w : World) (hf : ∀ j, j < 16 → f j < 256) (hg : ∀ j, j < 16 → g j < 256) : (Op.equalIn 10000 23 (.agg (cellsN .u8 16 f)) (.agg (cellsN .u8 16 g))).run Try.prog w = .ok (eqB f g) w := by
  obtain ⟨r, hr, hiff⟩ := run_equalIn_deep (P := Try.prog) 9998 2 23 (by kernel_rfl) w 2 2 (.agg (cellsN .u8 16 f)) (.agg (cellsN .u8 16 g)) _ _ (formed_block f) (formed_block g) (key_block f hf) (key_block g hg)
  rw [hr]
  congr 1
  rw [Bool.eq_iff_iff, hiff, eqB_iff, lits_iff]

theorem run_eql_block {o : Oper} {a : Act} (x y : Operand) (ho : o.op = .binOp .eql 23 x y 23) (f g : Nat → Nat) (hx : a.eval x = .agg (cellsN .u8 16 f)) (hy : a.eval y = .agg (cellsN .u8 16 g)) (hf : ∀ j, j < 16 → f j < 256) (hg : ∀ j, j < 16 → g j < 256) (w : World) :
    (execOp a.eval o).run Try.prog w = .ok (.value (.bool (eqB f g))) w := by
  have heq := eq_block f g w hf hg
  unfold execOp
  simp only [ho, hx, hy]
  go_simp

/-- One that yields, guarded or not. -/
theorem wpList_val {ops : Array Oper} {rest : List Oper} {o : Oper} {a : Act} {w : World} {Q : Exit → Act → World → Prop} (d : Option Tmp) (v : Value) (hd : o.dst = d) (hw : Region.wanted o (yielded ops a.tmps) = true)
    (hrun : (execOp a.eval o).run Try.prog w = .ok (.value v) w) (h : wpList Try.prog ops Q rest (a.put d v) w) : wpList Try.prog ops Q (o :: rest) a w :=
  wpList_step fun K hK => by
    subst hd
    rw [if_pos hw]
    unfold Oper.wp
    rw [hrun]
    exact hK _ _ h
end Go.Proofs.Ytcnlegnfecpdnaa
