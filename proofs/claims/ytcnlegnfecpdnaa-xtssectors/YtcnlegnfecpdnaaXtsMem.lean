/- xts: what a sector becomes; rows that were made. -/
import Derived.Test.YtcnlegnfecpdnaaXtsTweak
import Derived.Test.YtcnlegnfecpdnaaAesBl
namespace Go.Proofs.Ytcnlegnfecpdnaa
open Go.ChangeShapes Go.WideShapes Go.ChangeAt Go.RowKit
set_option linter.unusedVariables false

/-- The tweak of block m. -/
def twk (t : Nat → Nat) : Nat → Nat → Nat
  | 0 => t
  | m + 1 => dblT (twk t m)

theorem twk_lt (t : Nat → Nat) (h : Byt t) : ∀ m, Byt (twk t m)
  | 0 => h
  | m + 1 => fun j hj => dblT_lt _ (twk_lt t h m) j hj

/-- All blocks, each between its tweak and its tweak. -/
def sealB (E : (Nat → Nat) → Nat → Nat) (t D : Nat → Nat) (j : Nat) : Nat := xorS (E (xorS (fun r => D (16 * (j / 16) + r)) (twk t (j / 16)))) (twk t (j / 16)) (j % 16)

theorem seal_next (E : (Nat → Nat) → Nat → Nat) (t D : Nat → Nat) (N m : Nat) :
    cellsN .u8 N (fun j => if j < 16 * m then upTo (fun _ => 0) (sealB E t D) (16 * m) j else if j < 16 * m + 16 then xorS (E (xorS (fun r => D (16 * m + r)) (twk t m))) (twk t m) (j - 16 * m) else upTo (fun _ => 0) (sealB E t D) (16 * m) j) = cellsN .u8 N (upTo (fun _ => 0) (sealB E t D) (16 * (m + 1))) := by
  apply cellsN_congr
  intro j _
  simp only [upTo]
  by_cases h1 : j < 16 * m
  · rw [if_pos h1, if_pos h1, if_pos (by omega)]
  · rw [if_neg h1]
    by_cases h2 : j < 16 * m + 16
    · rw [if_pos h2, if_pos (by omega)]
      simp only [sealB]
      rw [show j / 16 = m by omega, show j % 16 = j - 16 * m by omega]
    · rw [if_neg h2, if_neg h1, if_neg (by omega)]

/-- K's two ways. -/
def encX (n : Nat) (k f : Nat → Nat) : Nat → Nat := encAt (KS n k) (RN n) f (RN n)
def decX (n : Nat) (k f : Nat → Nat) : Nat → Nat := decS (KS n k) (RN n) f

theorem encX_lt (n : Nat) (hn : n = 16 ∨ n = 32) (k : Nat → Nat) (hk : ∀ j, k j < 256) {f : Nat → Nat} (hf : Byt f) : Byt (encX n k f) := encAt_lt (fun j _ => KS_lt n hn k hk j) _ hf _ (RN_le n)
theorem decX_lt (n : Nat) (hn : n = 16 ∨ n = 32) (k : Nat → Nat) (hk : ∀ j, k j < 256) {f : Nat → Nat} (hf : Byt f) : Byt (decX n k f) := decS_lt (fun j _ => KS_lt n hn k hk j) _ (RN_le n) hf

theorem encX_any (n : Nat) (hn : n = 16 ∨ n = 32) (k : Nat → Nat) (gk : Nat) (w : World) (f : Nat → Nat) (hk : ∀ j, k j < 256) (hC : Has w gk 57 (ccells (KS n k) (RN n) IB)) (hf : Byt f) :
    Calls Try.prog 13 #[.pointer (some ⟨gk, 0, none⟩), .agg (cellsN .u8 16 f)] w fun e w' => e = .returned (.agg (cellsN .u8 16 (encX n k f))) ∧ Below w.heap.size w w' :=
  encrypt_any (KS n k) (RN n) IB f gk w (fun j _ => KS_lt n hn k hk j) (RN_le n) hf hC

theorem decX_any (n : Nat) (hn : n = 16 ∨ n = 32) (k : Nat → Nat) (gk : Nat) (w : World) (f : Nat → Nat) (hk : ∀ j, k j < 256) (hC : Has w gk 57 (ccells (KS n k) (RN n) IB)) (hf : Byt f) :
    Calls Try.prog 15 #[.pointer (some ⟨gk, 0, none⟩), .agg (cellsN .u8 16 f)] w fun e w' => e = .returned (.agg (cellsN .u8 16 (decX n k f))) ∧ Below w.heap.size w w' :=
  decrypt_any (KS n k) (RN n) f gk w (fun j _ => KS_lt n hn k hk j) (RN_le n) hf hC

/-! There and back -/
theorem dec_encX (n : Nat) (hn : n = 16 ∨ n = 32) (k : Nat → Nat) (hk : ∀ j, k j < 256) (f : Nat → Nat) (hf : Byt f) : Eq16 (decX n k (encX n k f)) f := dec_enc (KS n k) (fun j _ => KS_lt n hn k hk j) (RN n) (RN_le n) f hf
theorem enc_decX (n : Nat) (hn : n = 16 ∨ n = 32) (k : Nat → Nat) (hk : ∀ j, k j < 256) (f : Nat → Nat) (hf : Byt f) : Eq16 (encX n k (decX n k f)) f := enc_dec (KS n k) (fun j _ => KS_lt n hn k hk j) (RN n) (RN_le n) f hf

theorem encX_congr (n : Nat) (k : Nat → Nat) {a b : Nat → Nat} (h : Eq16 a b) : Eq16 (encX n k a) (encX n k b) := encAt_congr _ _ h _
theorem decX_congr (n : Nat) (k : Nat → Nat) {a b : Nat → Nat} (h : Eq16 a b) : Eq16 (decX n k a) (decX n k b) := decS_congr _ _ h

theorem zero_bl (s : Nat) : (madeCells (Value.int .u8 0).cells (s * 1)).toList = bl (fun _ => 0) s := by
  apply List.ext_getElem?
  intro i
  simp only [bl, madeCells, Value.cells, Array.toList_map, Array.toList_range, List.getElem?_map, Nat.mul_one]
  cases (List.range s)[i]? with
  | none => rfl
  | some x => simp [Nat.mod_one]

/-- A row that was made, whole. -/
theorem own_has {w : World} {base g N : Nat} {f : Nat → Nat} (h : w.ownsRow base 5 1 (.slice (some ⟨g, 0, none⟩) N N) N (bl f N)) : Has w g 5 (cellsN .u8 N f) := by
  rcases h.2 with ⟨e, _⟩ | ⟨g', cap, cur, e, hb, hg, hn, hm, hs, ht⟩
  · cases e
  · simp only [Value.slice.injEq, Option.some.injEq, Addr.mk.injEq, true_and, and_true] at e
    obtain ⟨rfl, rfl⟩ := e
    have hcur : cur = cellsN .u8 N f := by
      have h1 : cur.toList = bl f N := by rw [← ht, List.take_of_length_le (by rw [Array.length_toList]; omega)]
      apply Array.ext'
      rw [h1]
      rfl
    rw [← hcur]
    exact hg

theorem range_cells {w : World} {b off m : Nat} {f : Nat → Nat} (h : ∀ j, j < m → w.cell? ⟨b, off + j, none⟩ = some (.int .u8 (f j : Nat))) : w.rangeAt b off (cellsN .u8 m f).toList := by
  intro j v hv
  by_cases hj : j < m
  · rw [Array.getElem?_toList, cellsN_get _ _ _ _ hj] at hv
    rw [h j hj]
    exact hv
  · rw [Array.getElem?_toList, show (cellsN .u8 m f)[j]? = none by simp [cellsN]; omega] at hv
    cases hv

theorem slice_mid (b o cap L q m : Nat) (w : World) (h1 : q + m ≤ cap) (h2 : 0 < m) : (Instr.sliceAt 22 (.slice (some ⟨b, o, none⟩) L cap) (some (.int .i64 (q : Int))) (some (.int .i64 ((q : Int) + (m : Int)))) none).run Try.prog w = .ok (.slice (some ⟨b, o + q, none⟩) m (cap - q)) w := by
  have i5 : ¬ cap = q := by omega
  simp [Instr.sliceAt, Instr.slice, Instr.sliceBounds, run_underlying Try.underlying22, go_sem, i5]
  rw [if_pos (by omega), if_pos (by omega), show ((q : Int) + (m : Int)).toNat - q = m by omega]

theorem slice_block (b o : Nat) (w : World) : (Instr.sliceAt 23 (.pointer (some ⟨b, o, none⟩)) none none none).run Try.prog w = .ok (.slice (some ⟨b, o, none⟩) 16 16) w := by
  simp [Instr.sliceAt, Instr.sureAddr, Instr.sliceBounds, run_underlying Try.underlying23, go_sem]

theorem run_slice_block {o : Oper} {a : Act} (x : Operand) (ho : o.op = .slice 23 x none none none) (b off : Nat) (hx : a.eval x = .pointer (some ⟨b, off, none⟩)) (w : World) :
    (execOp a.eval o).run Try.prog w = .ok (.value (.slice (some ⟨b, off, none⟩) 16 16)) w := by
  unfold execOp
  simp only [ho, hx, Option.map_none, Sem.run_bind, slice_block b off w, Result.andThen_ok, Sem.run_pure]
end Go.Proofs.Ytcnlegnfecpdnaa
