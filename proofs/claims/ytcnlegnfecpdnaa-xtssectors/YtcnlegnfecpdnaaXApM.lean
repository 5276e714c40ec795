/- XtsApart: one block changed; the words of its regions. -/
import Derived.Test.YtcnlegnfecpdnaaXtsLaw
import Derived.Test.YtcnlegnfecpdnaaXtsOpen
import Derived.Test.YtcnlegnfecpdnaaRegLast
namespace Go.Proofs.Ytcnlegnfecpdnaa
open Go.ChangeShapes Go.WideShapes Go.ChangeAt Go.RowKit
set_option linter.unusedVariables false

/-- The first k bytes of block r are xored. -/
def byAt (D B : Nat → Nat) (r k : Nat) : Nat → Nat := fun j => if 16 * r ≤ j ∧ j < 16 * r + k then D j ^^^ B (j - 16 * r) else D j

theorem byAt_0 (D B : Nat → Nat) (r : Nat) : byAt D B r 0 = D := by
  funext j
  unfold byAt
  rw [if_neg (by omega)]

theorem byAt_at (D B : Nat → Nat) (r k : Nat) : byAt D B r k (16 * r + k) = D (16 * r + k) := by
  unfold byAt
  rw [if_neg (by omega)]

theorem byAt_next (D B : Nat → Nat) (r k : Nat) : upd (byAt D B r k) (16 * r + k) (D (16 * r + k) ^^^ B k) = byAt D B r (k + 1) := by
  funext j
  show (if j = 16 * r + k then D (16 * r + k) ^^^ B k else byAt D B r k j) = byAt D B r (k + 1) j
  unfold byAt
  by_cases e : j = 16 * r + k
  · rw [if_pos e, if_pos (by omega), e, show 16 * r + k - 16 * r = k by omega]
  · rw [if_neg e]
    by_cases h : 16 * r ≤ j ∧ j < 16 * r + k
    · rw [if_pos h, if_pos (by omega)]
    · rw [if_neg h, if_neg (by omega)]

theorem byAt_lt (D B : Nat → Nat) (r k : Nat) (hk : k ≤ 16) (hD : ∀ j, D j < 256) (hB : ∀ j, j < 16 → B j < 256) (j : Nat) : byAt D B r k j < 256 := by
  unfold byAt
  split
  · exact xor8 (hD _) (hB _ (by omega))
  · exact hD _

/-- Whether block i is changed. -/
def chgB (B : Nat → Nat) (i r : Nat) : Bool := decide (i = r) && !eqB B (fun _ => 0)

theorem seal_same {E : (Nat → Nat) → Nat → Nat} (hE : ∀ a b, Eq16 a b → Eq16 (E a) (E b)) (t : Nat → Nat) {D D2 : Nat → Nat} (i : Nat) (h : ∀ x, x < 16 → D (16 * i + x) = D2 (16 * i + x)) (x : Nat) (hx : x < 16) : sealB E t D (16 * i + x) = sealB E t D2 (16 * i + x) := by
  rw [sealB_at _ _ _ _ _ hx, sealB_at _ _ _ _ _ hx]
  have e : Eq16 (xorS (fun r => D (16 * i + r)) (twk t i)) (xorS (fun r => D2 (16 * i + r)) (twk t i)) := fun r hr => by
    show D (16 * i + r) ^^^ _ = D2 (16 * i + r) ^^^ _
    rw [h r hr]
  show E _ x ^^^ _ = E _ x ^^^ _
  rw [hE _ _ e x hx]

theorem chg_block {E F : (Nat → Nat) → Nat → Nat} {t D B : Nat → Nat} (hFE : ∀ f, Byt f → Eq16 (F (E f)) f) (hE : ∀ a b, Eq16 a b → Eq16 (E a) (E b)) (hF : ∀ a b, Eq16 a b → Eq16 (F a) (F b)) (hEl : ∀ f, Byt f → Byt (E f)) (ht : Byt t) (hD : ∀ j, D j < 256) (hB : ∀ j, j < 16 → B j < 256) (r i : Nat) :
    (strN (fun j => sealB E t D (16 * i + j)) 16 == strN (fun j => sealB E t (byAt D B r 16) (16 * i + j)) 16) = !chgB B i r := by
  have hD2 := byAt_lt D B r 16 (Nat.le_refl _) hD hB
  have l1 := sealB_lt hEl ht hD
  have l2 := sealB_lt hEl ht hD2
  have key : (strN (fun j => sealB E t D (16 * i + j)) 16 == strN (fun j => sealB E t (byAt D B r 16) (16 * i + j)) 16) = true ↔ ∀ x, x < 16 → D (16 * i + x) = byAt D B r 16 (16 * i + x) := by
    rw [strN_iff _ _ 16 (fun j => l1 _) (fun j => l2 _)]
    constructor
    · intro h x hx
      have := seal_same hF t i h x hx
      rwa [seal_back hFE hF ht hD, seal_back hFE hF ht hD2] at this
    · intro h x hx
      exact seal_same hE t i h x hx
  rw [Bool.eq_iff_iff, key]
  unfold chgB
  by_cases hi : i = r
  · subst hi
    simp only [decide_true, Bool.true_and, Bool.not_not]
    rw [eqB_iff]
    constructor
    · intro h x hx
      have := h x hx
      unfold byAt at this
      rw [if_pos (by omega), show 16 * i + x - 16 * i = x by omega] at this
      have h2 : D (16 * i + x) ^^^ D (16 * i + x) = D (16 * i + x) ^^^ (D (16 * i + x) ^^^ B x) := by rw [← this]
      rw [Nat.xor_self, ← Nat.xor_assoc, Nat.xor_self, Nat.zero_xor] at h2
      exact h2.symm
    · intro h x hx
      unfold byAt
      rw [if_pos (by omega), show 16 * i + x - 16 * i = x by omega, h x hx, Nat.xor_zero]
  · simp only [hi, decide_false, Bool.false_and, Bool.not_false]
    refine ⟨fun _ => trivial, fun _ x hx => ?_⟩
    unfold byAt
    rw [if_neg (by omega)]

theorem chg_seal (f : Nat → Nat) (hf : ∀ j, f j < 256) (s : Nat) (D B : Nat → Nat) (hD : ∀ j, D j < 256) (hB : ∀ j, j < 16 → B j < 256) (r i : Nat) :
    (strN (fun j => sealF f s D (16 * i + j)) 16 == strN (fun j => sealF f s (byAt D B r 16) (16 * i + j)) 16) = !chgB B i r :=
  chg_block (fun g hg => dec_encX 16 (.inl rfl) _ (fixK_lt f hf) g hg) (fun a b h => encX_congr 16 _ h) (fun a b h => decX_congr 16 _ h) (fun g hg => encX_lt 16 (.inl rfl) _ (fixK_lt f hf) hg) (tweak_lt f hf s) hD hB r i

theorem chg_open (f : Nat → Nat) (hf : ∀ j, f j < 256) (s : Nat) (D B : Nat → Nat) (hD : ∀ j, D j < 256) (hB : ∀ j, j < 16 → B j < 256) (r i : Nat) :
    (strN (fun j => openF f s D (16 * i + j)) 16 == strN (fun j => openF f s (byAt D B r 16) (16 * i + j)) 16) = !chgB B i r :=
  chg_block (fun g hg => enc_decX 16 (.inl rfl) _ (fixK_lt f hf) g hg) (fun a b h => decX_congr 16 _ h) (fun a b h => encX_congr 16 _ h) (fun g hg => decX_lt 16 (.inl rfl) _ (fixK_lt f hf) hg) (tweak_lt f hf s) hD hB r i

/-! Words of the regions -/
theorem run_addX {o : Oper} {a : Act} (x y : Operand) (ho : o.op = .binOp .add 3 x y 3) (p q : Nat) (hx : a.eval x = .int .i64 (p : Nat)) (hy : a.eval y = .int .i64 (q : Nat)) (hp : p ≤ 10000) (hq : q ≤ 10000) (w : World) :
    (execOp a.eval o).run Try.prog w = .ok (.value (.int .i64 ((p + q : Nat) : Int))) w := by
  have hw : IntKind.i64.wrap ((p : Int) + (q : Int)) = (p : Int) + (q : Int) := by rw [IntKind.wrap_i64]; omega
  unfold execOp
  simp only [ho, hx, hy]
  go_simp

theorem run_store_u8X {o : Oper} {a : Act} (x y : Operand) (ho : o.op = .store 5 x y) (g off : Nat) (hx : a.eval x = .pointer (some ⟨g, off, none⟩)) (p : Nat) (hy : a.eval y = .int .u8 (p : Nat)) {v : Value} (w : World) (h : w.cell? ⟨g, off, none⟩ = some v) (hfz : w.frozen? ⟨g, off, none⟩ = false) : (execOp a.eval o).run Try.prog w = .ok .skip (w.setCell ⟨g, off, none⟩ (.int .u8 (p : Nat))) := by
  unfold execOp
  simp only [ho, hx, hy]
  go_simp

theorem run_16mulX {o : Oper} {a : Act} (x : Operand) (ho : o.op = .binOp .mul 3 (.const (.int .i64 16)) x 3) (k : Nat) (hx : a.eval x = .int .i64 (k : Nat)) (h : k ≤ 1000) (w : World) :
    (execOp a.eval o).run Try.prog w = .ok (.value (.int .i64 ((16 * k : Nat) : Int))) w := by
  have h1 : (k : Int) ≤ 1000 := by omega
  have h0 : (0 : Int) ≤ (k : Int) := by omega
  have hw : IntKind.i64.wrap (16 * (k : Int)) = 16 * (k : Int) := by rw [IntKind.wrap_i64]; omega
  unfold execOp
  simp only [ho, hx]
  go_simp

theorem sfield0X (g : Nat) (w : World) : (Instr.fieldAt 47 (.pointer (some ⟨g, 0, none⟩)) 0).run Try.prog w = .ok (.pointer (some ⟨g, 0, none⟩)) w := by
  simp [Instr.fieldAt, Instr.sureAddr, run_underlying Try.underlying47, go_sem]
theorem sfield2X (g : Nat) (w : World) : (Instr.fieldAt 47 (.pointer (some ⟨g, 0, none⟩)) 2).run Try.prog w = .ok (.pointer (some ⟨g, 2, none⟩)) w := by
  simp [Instr.fieldAt, Instr.sureAddr, run_underlying Try.underlying47, go_sem]

theorem run_slice_midX {o : Oper} {a : Act} (x l h : Operand) (ho : o.op = .slice 22 x (some l) (some h) none) (b off L cap q m : Nat) (hx : a.eval x = .slice (some ⟨b, off, none⟩) L cap) (hl : a.eval l = .int .i64 (q : Nat)) (hh : a.eval h = .int .i64 ((q + m : Nat) : Int)) (h1 : q + m ≤ cap) (h2 : 0 < m) (w : World) :
    (execOp a.eval o).run Try.prog w = .ok (.value (.slice (some ⟨b, off + q, none⟩) m (cap - q))) w := by
  have e := slice_mid b off cap L q m w h1 h2
  rw [show ((q : Int) + (m : Int)) = ((q + m : Nat) : Int) by omega] at e
  unfold execOp
  simp only [ho, hx, hl, hh, Option.map_some, Option.map_none, Sem.run_bind, e, Result.andThen_ok, Sem.run_pure]

theorem run_neq_strs {o : Oper} {a : Act} (x y : Operand) (ho : o.op = .binOp .neq 9 x y 9) (s t : List UInt8) (hx : a.eval x = .string ⟨s.toArray⟩) (hy : a.eval y = .string ⟨t.toArray⟩) (c : Bool) (hc : (s == t) = !c) (w : World) : (execOp a.eval o).run Try.prog w = .ok (.value (.bool c)) w := by
  have hc' : (s != t) = c := by rw [bne, hc, Bool.not_not]
  clear hc
  subst hc'
  unfold execOp
  simp only [ho, hx, hy]
  go_simp
  simp [bne]

theorem run_neq_bools {o : Oper} {a : Act} (x y : Operand) (ho : o.op = .binOp .neq 4 x y 4) (c : Bool) (hx : a.eval x = .bool c) (hy : a.eval y = .bool c) (w : World) : (execOp a.eval o).run Try.prog w = .ok (.value (.bool false)) w := by
  unfold execOp
  simp only [ho, hx, hy]
  cases c <;> go_simp

theorem run_neq_block {o : Oper} {a : Act} (x y : Operand) (ho : o.op = .binOp .neq 23 x y 23) (f g : Nat → Nat) (hx : a.eval x = .agg (cellsN .u8 16 f)) (hy : a.eval y = .agg (cellsN .u8 16 g)) (hf : ∀ j, j < 16 → f j < 256) (hg : ∀ j, j < 16 → g j < 256) (w : World) :
    (execOp a.eval o).run Try.prog w = .ok (.value (.bool (!eqB f g))) w := by
  have heq := eq_block f g w hf hg
  unfold execOp
  simp only [ho, hx, hy]
  go_simp

theorem has_mid {w : World} {g t n : Nat} {f : Nat → Nat} (h : Has w g t (cellsN .u8 n f)) (q m : Nat) (hm : q + m ≤ n) : Bytes w (some ⟨g, 0 + q, none⟩) m (fun j => f (q + j)) :=
  .inr ⟨g, 0 + q, rfl, h.lt, fun j hj => by rw [Nat.zero_add]; exact h.num (q + j) (by omega)⟩
end Go.Proofs.Ytcnlegnfecpdnaa
