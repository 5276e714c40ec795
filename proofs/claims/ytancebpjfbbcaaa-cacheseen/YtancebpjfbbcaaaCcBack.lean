/- cache: slices.Backward of groups. -/
import Derived.Test.YtancebpjfbbcaaaCcRange
namespace Go.Proofs.Ytancebpjfbbcaaa
open Go.RowKit Go.Shelf
set_option linter.unusedVariables false

attribute [local go_sem] Oper.semAt_some

/-- What the iterator hands over in step k: a number, a group. -/
def benc (n : Nat) (mv lv : Nat → Value) (k : Nat) : Array Value := #[.int .i64 ((n - 1 - k : Nat) : Nat), .agg #[mv (n - 1 - k), lv (n - 1 - k)]]

theorem range_preC {k m : Nat} (h : k ≤ m) : List.range k <+: List.range m := by
  obtain ⟨d, rfl⟩ := Nat.exists_eq_add_of_le h
  rw [List.range_add]
  exact List.prefix_append _ _

set_option maxRecDepth 100000 in
set_option maxHeartbeats 1000000 in
theorem bwd_in (m l D Bn n gk ck : Nat) (mv lv : Nat → Value) (aK : Option Addr) (hn : n ≤ 1000) (J Jx : List Nat → World → Prop) (hJ : Firm D J)
    (hC : ∀ pre V, J pre V → ∀ i, i < n → aK = some ⟨gk, 0, none⟩ ∧ V.cell? ⟨gk, i * 2, none⟩ = some (mv i) ∧ V.cell? ⟨gk, i * 2 + 1, none⟩ = some (lv i))
    (W : World) (hBn : Has W Bn 71 #[.slice aK n ck]) (hD : D ≤ W.heap.size)
    (hY : ∀ pre x V, pre ++ [x] <+: List.range n → J pre V → YieldAt Fence.wide (m - 1) Try.prog l (benc n mv lv x) V fun e V' => (e = .returned (.bool true) ∧ J (pre ++ [x]) V' ∧ ∀ g cs, Has V g 71 cs → Has V' g 71 cs) ∨ (e = .returned (.bool false) ∧ Jx (pre ++ [x]) V')) (h0 : J [] W) :
    CallsIn Fence.wide m Try.prog 71 #[.func (.yield l) #[] #[], .pointer (some ⟨Bn, 0, none⟩)] W fun e W' => (∃ v, e = .returned v) ∧ (J (List.range n) W' ∨ ∃ pre, pre <+: List.range n ∧ Jx pre W') := by
  refine callsIn_of_wp Try.func71 rfl trivial ?_ rfl
  simp only [Try.ntmps71, List.size_toArray, List.length_cons, List.length_nil, Nat.reduceAdd, Nat.reduceSub, Array.replicate_succ, Array.replicate_zero, List.push_toArray, List.append_toArray, List.nil_append, List.cons_append]
  have hb0 := hBn.cell 0
  simp only [List.getElem?_toArray, List.getElem?_cons_zero] at hb0
  have hnn : (0 : Int) ≤ (n : Int) := by omega
  have HB := hidC hBn
  have HC := hidC hC
  have HY := hidC hY
  clear hC hY hBn
  gi_wp2
  gi_loopw [3] (fun s wr => ∃ k : Nat, k ≤ n ∧ s = .int .i64 ((n : Int) - 1 - k) ∧ Has wr Bn 71 #[.slice aK n ck] ∧ J (List.range k) wr) (fun s _ => (intOf s + 1).toNat)
  case atStart => exact ⟨0, Nat.zero_le _, by simp, HB.out, h0⟩
  case round =>
    obtain ⟨k, hk, rfl, hl, hJk⟩ := hrel
    by_cases hlt : k < n
    · have hpre : List.range k ++ [k] <+: List.range n := by rw [← List.range_succ]; exact range_preC hlt
      obtain ⟨fn, tmps, assign, body, hy, hR⟩ := HY.out (List.range k) k wr hpre hJk
      obtain ⟨rfl, m0, m1⟩ := HC.out _ _ hJk (n - 1 - k) (by omega)
      unfold benc at hy
      obtain ⟨i, hi⟩ : ∃ i, i = n - 1 - k := ⟨_, rfl⟩
      have hiz : (n : Int) - 1 - k = (i : Int) := by omega
      rw [hiz]
      rw [← hi] at hy m0 m1
      have HI := hidC hi
      have HIZ := hidC hiz
      have HP := hidC hpre
      have HLT := hidC hlt
      clear hi hiz
      generalize mv i = mm at *
      generalize lv i = ll at *
      have i0 : (0 : Int) ≤ (i : Int) := by omega
      have i1 : (i : Int) < (n : Int) := by have := HI.out; omega
      have t0 := hl.cell 0
      simp only [List.getElem?_toArray, List.getElem?_cons_zero] at t0
      have HL := hidC hl
      clear hl
      gi_wp2
      refine ⟨fun h => (by cases h), hR.mono ?_⟩
      clear hR hy m0 m1 t0
      rintro e W3 (⟨rfl, hJ3, hkeep⟩ | ⟨rfl, hJx3⟩)
      · have hl3 := hkeep _ _ HL.out
        clear hkeep hJk
        gi_wp2
        go_roundw
        case rel => exact ⟨k + 1, HLT.out, by have := HIZ.out; rw [show (n : Int) - 1 - ((k + 1 : Nat) : Int) = (i : Int) - 1 by omega]; try go_num, hl3, by rw [List.range_succ]; exact hJ3⟩
        case measure => first | (simp [intOf]; omega) | (simp [intOf])
      · gi_wp2
        refine bodyPost_ret (results_none rfl _ _ _) rfl ?_
        exact ⟨⟨_, rfl⟩, .inr ⟨List.range k ++ [k], HP.out, hJx3⟩⟩
    · obtain rfl : k = n := by omega
      have HJ := hidC hJk
      have i0 : ¬ (0 : Int) ≤ (k : Int) - 1 - (k : Int) := by omega
      clear hJk
      gi_wp2
      refine bodyPost_end (results_none rfl _ _ _) rfl ?_
      exact ⟨⟨_, rfl⟩, .inl HJ.out⟩

/-- The groups' cells. -/
def KCells (aK : Option Addr) (gk n : Nat) (mv lv : Nat → Value) (V : World) : Prop := ∀ i, i < n → aK = some ⟨gk, 0, none⟩ ∧ V.cell? ⟨gk, i * 2, none⟩ = some (mv i) ∧ V.cell? ⟨gk, i * 2 + 1, none⟩ = some (lv i)

theorem bwd_seq (m Bn n gk ck : Nat) (mv lv : Nat → Value) (aK : Option Addr) (hn : n ≤ 1000) (w : World) (hBn : Has w Bn 71 #[.slice aK n ck]) :
    SeqN (KCells aK gk n mv lv) m 71 #[.pointer (some ⟨Bn, 0, none⟩)] (benc n mv lv) (List.range n) w :=
  fun l D J Jx W hW hD hJ hJx hK hY h0 => bwd_in m l D Bn n gk ck mv lv aK hn J Jx hJ hK W (hBn.below hW hBn.lt) hD hY h0

/-- The maker. -/
theorem backward_any (a : Option Addr) (n c : Nat) (w : World) : Calls Try.prog 69 #[.slice a n c] w fun e w' => e = .returned (.func (.func 71) #[] #[.pointer (some ⟨w.heap.size, 0, none⟩)]) ∧ w' = w.alloc (.cells #[.slice a n c] 71) := by
  · go_enter Try.func69, Try.ntmps69
    go_wp2
    go_ret
    exact ⟨rfl, rfl⟩
end Go.Proofs.Ytancebpjfbbcaaa
