/- Byte slices that came in, or that the call made, as rows of numbers; contracts of Same, Get and Put over them; numbers there and back. -/
import Derived.Test.YtcgoepbmbeimmaaBytes
namespace Go.Proofs.Ytcgoepbmbeimmaa
open Go.ChangeShapes Go.WideShapes Go.ChangeAt Go.RowKit

def IsRow (k : IntKind) (w : World) (a : Option Addr) (len cap : Nat) (zs : List Int) : Prop :=
  (a = none ∧ len = 0 ∧ cap = 0 ∧ zs = []) ∨
  ∃ x, a = some x ∧ len ≤ cap ∧ cap ≤ maxLen ∧ zs.length = cap ∧ (∀ i, i < zs.length → w.cell? (x.add i) = some (.int k (zs.getD i 0))) ∧ ∀ n ∈ zs, (Lit.int k n).wf = true

/-- The slice's first 'len' cells hold the bytes f 0, f 1, .. -/
def Row (w : World) (a : Option Addr) (len : Nat) (f : Nat → Int) : Prop :=
  ∀ j, j < len → (0 ≤ f j ∧ f j ≤ 255) ∧ ∃ b off, a = some ⟨b, off, none⟩ ∧ b < w.heap.size ∧ w.cell? ⟨b, off + j, none⟩ = some (.int .u8 (f j))

theorem cell_lt {w : World} {p : Addr} {v : Value} (h : w.cell? p = some v) : p.block < w.heap.size := by
  by_cases c : p.block < w.heap.size
  · exact c
  · have : w.heap[p.block]? = none := by simp; omega
    simp [World.cell?, this] at h

theorem row_of_isRow {w : World} {a : Option Addr} {len cap : Nat} {zs : List Int} (h : IsRow .u8 w a len cap zs) : Row w a len (fun j => zs.getD j 0) := by
  intro j hj
  rcases h with ⟨_, rfl, _, _⟩ | ⟨x, rfl, hl, hm, hz, hc, hw⟩
  · omega
  · have hjz : j < zs.length := by omega
    have hcj := hc j hjz
    have hmem : zs.getD j 0 ∈ zs := by rw [List.getD_eq_getElem?_getD, List.getElem?_eq_getElem hjz]; exact List.getElem_mem hjz
    obtain ⟨b, off, spot⟩ := x
    have hs : spot = none := by simpa [Addr.add] using World.cell?_spot (hc 0 (by omega))
    subst hs
    have e1 : (⟨b, off, none⟩ : Addr).add j = ⟨b, off + j, none⟩ := by simp [Addr.add]
    rw [e1] at hcj
    exact ⟨bounds_u8 (hw _ hmem), b, off, rfl, cell_lt hcj, hcj⟩

theorem Row.below {w w' : World} {a : Option Addr} {len B : Nat} {f : Nat → Int} (h : Row w a len f) (hb : Below B w w') (hB : w.heap.size ≤ B) : Row w' a len f := by
  intro j hj
  obtain ⟨h1, b, off, h2, h3, h4⟩ := h j hj
  exact ⟨h1, b, off, h2, Nat.lt_of_lt_of_le h3 hb.size, by rw [hb.cell (Nat.lt_of_lt_of_le h3 hB)]; exact h4⟩

theorem row_own {w : World} {base e g n cap : Nat} {f : Nat → Int} (h : w.ownsRow base e 1 (.slice (some ⟨g, 0, none⟩) n cap) n (fill f n n)) (hf : ∀ j, j < n → 0 ≤ f j ∧ f j ≤ 255) :
    Row w (some ⟨g, 0, none⟩) n f := by
  intro j hj
  exact ⟨hf j hj, g, 0, rfl, (h.lt g rfl).2, own_cells h j hj⟩

theorem conv_row {w : World} {a : Option Addr} {len : Nat} {f : Nat → Int} (cap : Nat) (h : Row w a len f) (hn : a = none → len = 0) :
    (convert 22 9 (.slice a len cap)).run Try.prog w = .ok (.string ⟨(byteList f len).toArray⟩) w := by
  by_cases h0 : len = 0
  · subst h0
    cases a with
    | none =>
      rw [run_convert_bytes_string w 22 9 5 none 0 cap Try.underlying22 Try.underlying5 Try.underlying9]
      rfl
    | some x =>
      exact run_convert_bytes_back (P := Try.prog) w 22 9 5 x cap [] Try.underlying22 Try.underlying5 Try.underlying9 (by intro j hj; simp at hj)
  · obtain ⟨_, b, off, rfl, _, _⟩ := h 0 (by omega)
    refine conv_bytes f w b off len cap (fun j hj => (h j hj).1) ?_
    intro j hj
    obtain ⟨_, b', off', e, _, hc⟩ := h j hj
    simp only [Option.some.injEq, Addr.mk.injEq, and_true] at e
    obtain ⟨rfl, rfl⟩ := e
    exact hc

theorem same_any {w : World} {a1 a2 : Option Addr} {l1 l2 : Nat} {f g : Nat → Int} (c1 c2 : Nat) (h1 : Row w a1 l1 f) (h2 : Row w a2 l2 g) (n1 : a1 = none → l1 = 0) (n2 : a2 = none → l2 = 0) :
    Calls Try.prog 13 #[.slice a1 l1 c1, .slice a2 l2 c2] w fun e w' => e = .returned (.bool (byteList f l1 == byteList g l2)) ∧ w' = w := by
  have k1 := conv_row c1 h1 n1
  have k2 := conv_row c2 h2 n2
  clear h1 h2 n1 n2
  go_enter Try.func13, Try.ntmps13
  go_wp2
  go_ret
  exact ⟨rfl, rfl⟩

theorem get_row {w : World} {a : Option Addr} {len : Nat} {f : Nat → Int} (cap : Nat) (h1 : 1 ≤ len) (h2 : len ≤ 8) (h : Row w a len f) :
    Calls Try.prog 9 #[.slice a len cap] w fun e w' => e = .returned (.tuple #[.int .u64 (val f len), .int .i64 0]) ∧ w' = w := by
  obtain ⟨_, b, off, rfl, _, _⟩ := h 0 (by omega)
  refine get_ok len cap b off f w h1 h2 (fun j hj => (h j hj).1) ?_
  intro j hj
  obtain ⟨_, b', off', e, _, hc⟩ := h j hj
  simp only [Option.some.injEq, Addr.mk.injEq, and_true] at e
  obtain ⟨rfl, rfl⟩ := e
  exact hc

theorem byteAt_bd (n : Int) (s j : Nat) : 0 ≤ byteAt n s j ∧ byteAt n s j ≤ 255 := by
  unfold byteAt
  omega

theorem byteList_eq (f g : Nat → Int) (n : Nat) (h : ∀ j, j < n → f j = g j) : byteList f n = byteList g n := by
  unfold byteList
  apply List.map_congr_left
  intro j hj
  rw [h j (by simpa using hj)]

theorem hold_iff (n : Int) (s : Nat) (h : 0 ≤ n) : hold n s = true ↔ n < 2 ^ (8 * s) := by
  have e : (8 * (s : Int)).toNat = 8 * s := by omega
  have hP : (0 : Int) < 2 ^ (8 * s) := Int.pow_pos (by decide)
  unfold hold
  rw [e]
  generalize (2 : Int) ^ (8 * s) = P at *
  rw [beq_iff_eq]
  constructor
  · intro g
    have := Int.emod_add_mul_ediv n P
    have := Int.emod_lt_of_pos n hP
    rw [g] at *
    omega
  · intro g
    exact Int.ediv_eq_zero_of_lt h g

theorem val_byteAt (n : Int) (s : Nat) (h0 : 0 ≤ n) (h : n < 2 ^ (8 * s)) : ∀ k, k ≤ s → val (byteAt n s) k = n / 2 ^ (8 * (s - k)) := by
  intro k
  induction k with
  | zero => intro _; simp only [val, Nat.sub_zero]; rw [Int.ediv_eq_zero_of_lt h0 h]
  | succ k ih =>
    intro hk
    simp only [val]
    rw [ih (by omega)]
    unfold byteAt
    have e : 8 * (s - k) = 8 * (s - 1 - k) + 8 := by omega
    rw [e, Int.pow_add, show s - (k + 1) = s - 1 - k from by omega]
    have hP : (0 : Int) < 2 ^ (8 * (s - 1 - k)) := Int.pow_pos (by decide)
    generalize (2 : Int) ^ (8 * (s - 1 - k)) = P at *
    rw [← Int.ediv_ediv_of_nonneg (Int.le_of_lt hP)]
    omega

theorem val_back (n : Int) (s : Nat) (h0 : 0 ≤ n) (h : n < 2 ^ (8 * s)) : val (byteAt n s) s = n := by
  rw [val_byteAt n s h0 h s (Nat.le_refl _)]
  simp

theorem byteAt_val (f : Nat → Int) : ∀ s, (∀ j, j < s → 0 ≤ f j ∧ f j ≤ 255) → ∀ j, j < s → byteAt (val f s) s j = f j := by
  intro s
  induction s with
  | zero => intro _ j hj; omega
  | succ s ih =>
    intro hf j hj
    have hs := hf s (by omega)
    unfold byteAt
    simp only [val]
    by_cases e : j = s
    · subst e
      rw [show j + 1 - 1 - j = 0 from by omega]
      simp
      omega
    · have g := ih (fun i hi => hf i (by omega)) j (by omega)
      unfold byteAt at g
      rw [show 8 * (s + 1 - 1 - j) = 8 + 8 * (s - 1 - j) from by omega, Int.pow_add, ← Int.ediv_ediv_of_nonneg (by decide)]
      have : (val f s * 256 + f s) / 2 ^ 8 = val f s := by
        rw [show (2 : Int) ^ 8 = 256 from rfl]
        omega
      rw [this]
      exact g

end Go.Proofs.Ytcgoepbmbeimmaa
