/- What bytes stand for; the program's list of writes as it grows. -/
import Derived.Test.YtbiicdehgogikaaCdTake
namespace Go.Proofs.Ytbiicdehgogikaa
open Go.ChangeShapes Go.WideShapes Go.ChangeAt Go.RowKit
set_option linter.unusedVariables false

def uN (B : Nat → Nat) : Nat := vn (fun j => B (0 + j)) 2
def uD (B : Nat → Nat) (i : Nat) : Nat := vn (fun j => B (2 + 69 * i + j)) 1
def uS (B : Nat → Nat) (i : Nat) : Nat := vn (fun j => B (2 + 69 * i + 1 + j)) 4
def uB (B : Nat → Nat) (i : Nat) : Nat → Nat := fun j => B (2 + 69 * i + 1 + 4 + j)
def uV (B : Nat → Nat) (A : Nat → Option Addr) (Cc : Nat → Nat) (i : Nat) : WV := ⟨(uD B i : Nat), (uS B i : Nat), A i, 64, Cc i, uB B i⟩

def okU (L : Nat) (B : Nat → Nat) : Prop := 2 ≤ L ∧ uN B ≤ 100 ∧ L = 2 + 69 * uN B ∧ ∀ i, i < uN B → uD B i < 8 ∧ uS B i < 2048

/-- What ungrouped leaves. -/
def UngR (w : World) (L : Nat) (B : Nat → Nat) (e : Ending) (w' : World) : Prop := Below w.heap.size w w' ∧ ((okU L B ∧ ∃ A Cc g, e = .returned (.slice (some ⟨g, 0, none⟩) (uN B) (uN B)) ∧ w.heap.size ≤ g ∧ Wl w' (some ⟨g, 0, none⟩) (uN B) (uV B A Cc) ∧ ∀ i, i < uN B → ∀ b off, A i = some ⟨b, off, none⟩ → w.heap.size ≤ b) ∨ (¬ okU L B ∧ e = .panicked ngp))

structure UCells (cs : Array Value) (n k : Nat) (B : Nat → Nat) (A : Nat → Option Addr) (Cc : Nat → Nat) : Prop where
  size : cs.size = n * 3
  c0 : ∀ i, i < k → cs[i * 3]? = some (.int .i64 (uD B i : Nat))
  c1 : ∀ i, i < k → cs[i * 3 + 1]? = some (.int .i64 (uS B i : Nat))
  c2 : ∀ i, i < k → cs[i * 3 + 2]? = some (.slice (A i) 64 (Cc i))

theorem UCells.step {cs : Array Value} {n k : Nat} {B : Nat → Nat} {A : Nat → Option Addr} {Cc : Nat → Nat} (h : UCells cs n k B A Cc) (hk : k < n) (a : Option Addr) (c : Nat) :
    UCells (((cs.setIfInBounds (k * 3) (.int .i64 (uD B k : Nat))).setIfInBounds (k * 3 + 1) (.int .i64 (uS B k : Nat))).setIfInBounds (k * 3 + 2) (.slice a 64 c)) n (k + 1) B (fun j => if j = k then a else A j) (fun j => if j = k then c else Cc j) := by
  have hs := h.size
  refine ⟨by simp [hs], fun i hi => ?_, fun i hi => ?_, fun i hi => ?_⟩
  · rw [Array.getElem?_setIfInBounds, if_neg (by omega), Array.getElem?_setIfInBounds, if_neg (by omega), Array.getElem?_setIfInBounds]
    by_cases hik : i = k
    · subst hik
      rw [if_pos rfl, if_pos (by omega)]
    · rw [if_neg (by omega)]
      exact h.c0 i (by omega)
  · rw [Array.getElem?_setIfInBounds, if_neg (by omega), Array.getElem?_setIfInBounds]
    by_cases hik : i = k
    · subst hik
      rw [if_pos rfl, if_pos (by simp; omega)]
    · rw [if_neg (by omega), Array.getElem?_setIfInBounds, if_neg (by omega)]
      exact h.c1 i (by omega)
  · rw [Array.getElem?_setIfInBounds]
    by_cases hik : i = k
    · subst hik
      rw [if_pos rfl, if_pos (by simp; omega), if_pos rfl, if_pos rfl]
    · rw [if_neg (by omega), Array.getElem?_setIfInBounds, if_neg (by omega), Array.getElem?_setIfInBounds, if_neg (by omega), if_neg hik, if_neg hik]
      exact h.c2 i (by omega)

/-- What holds when k writes are read. -/
def UInv (w : World) (g p n : Nat) (a : Option Addr) (L : Nat) (B : Nat → Nat) (k : Nat) (wr : World) : Prop := ∃ cs A Cc, Has wr g 49 cs ∧ UCells cs n k B A Cc ∧ (∀ i, i < k → wr.ownsRow (g + 1) 5 1 (.slice (A i) 64 (Cc i)) 64 (bl (uB B i) 64)) ∧ Rest wr p a L (2 + 69 * k) ∧ Below w.heap.size w wr ∧ (∀ i, i < k → uD B i < 8 ∧ uS B i < 2048) ∧ 2 + 69 * k ≤ L

theorem UInv.wl {w wr : World} {g p n L k : Nat} {a : Option Addr} {B : Nat → Nat} (h : UInv w g p n a L B n wr) (hB : ∀ j, B j < 256) (hn : n ≤ 100) : ∃ A Cc, Wl wr (some ⟨g, 0, none⟩) n (uV B A Cc) ∧ ∀ i, i < n → ∀ b off, A i = some ⟨b, off, none⟩ → g + 1 ≤ b := by
  obtain ⟨cs, A, Cc, hH, hC, ho, _, _, hok, _⟩ := h
  refine ⟨A, Cc, ⟨by unfold maxLen; omega, fun i hi => ⟨g, 0, rfl, hH.lt, ?_⟩⟩, fun i hi b off e => ?_⟩
  rotate_left
  · obtain ⟨a', cap', e', _, _, _, hbb⟩ := own_bytes (ho i hi)
    simp only [Value.slice.injEq] at e'
    obtain ⟨rfl, _, rfl⟩ := e'
    exact (hbb b off e).1
  obtain ⟨a', cap', e, hl, hnil, hy, _⟩ := own_bytes (ho i hi)
  simp only [Value.slice.injEq] at e
  obtain ⟨rfl, _, rfl⟩ := e
  have hd := (hok i hi)
  refine ⟨?_, ?_, ?_, ?_, ?_, hl, ?_, hnil, hy, fun j => hB _⟩
  · rw [Nat.zero_add]
    exact (hH.cell _).trans (hC.c0 i hi)
  · rw [Nat.zero_add]
    exact (hH.cell _).trans (hC.c1 i hi)
  · rw [Nat.zero_add]
    exact (hH.cell _).trans (hC.c2 i hi)
  · show i64ok ((uD B i : Nat) : Int)
    unfold i64ok
    omega
  · show i64ok ((uS B i : Nat) : Int)
    unfold i64ok
    omega
  · show 64 ≤ maxLen
    unfold maxLen
    omega

theorem Try.infoWr : (Try.prog.info? 49).map (fun i => (i.zero, i.size, i.bytes)) = some (some (.agg #[.int .i64 0, .int .i64 0, .slice none 0 0]), 3, 40) := by kernel_rfl

theorem make_wr (n : Nat) (hn : n ≤ 1000) (w : World) : ∃ w' cs, Has w' w.heap.size 49 cs ∧ cs.size = n * 3 ∧ Below w.heap.size w w' ∧
    ∀ (o : Oper) (a : Act) (l c : Operand), o.op = .makeSlice 22 l c → a.eval l = .int .i64 (n : Nat) → a.eval c = .int .i64 (n : Nat) → (execOp a.eval o).run Try.prog w = .ok (.value (.slice (some ⟨w.heap.size, 0, none⟩) n n)) w' := by
  obtain ⟨i0, hi, hz0, hz1, hz2⟩ := info_parts Try.infoWr
  obtain ⟨w', hrun, r1, r2⟩ := run_make_full (P := Try.prog) w w.heap.size 22 49 i0 _ 3 Try.underlying22 hi hz0 hz1 .i64 .i64 n (by rw [hz2]; omega) (by unfold maxLen; omega) (Nat.le_refl _)
  rcases r1.2 with ⟨h0, _⟩ | ⟨g', cap', cur, hv, _, hg, _, _, hsz, _⟩
  · cases h0
  · simp only [Value.slice.injEq, Option.some.injEq, Addr.mk.injEq, and_true, true_and] at hv
    obtain ⟨rfl, rfl⟩ := hv
    refine ⟨w', cur, hg, hsz, (Below.refl _ _).grown r2 (Nat.le_refl _) (by intro k h; cases h), ?_⟩
    intro o a l c ho hl hc
    unfold execOp
    simp [ho, hl, hc, hrun, Result.andThen]

theorem run_at_wr0 {o : Oper} {a : Act} (x i : Operand) (ho : o.op = .indexAddr 22 x i) (g k n cap : Nat) (hx : a.eval x = .slice (some ⟨g, 0, none⟩) n cap) (hi : a.eval i = .int .i64 (k : Nat)) (hk : k < n) (w : World) : (execOp a.eval o).run Try.prog w = .ok (.value (.pointer (some ⟨g, k * 3, none⟩))) w := by
  have := run_at_wr x i ho g 0 k n cap hx hi hk w
  rwa [Nat.zero_add] at this
end Go.Proofs.Ytbiicdehgogikaa
