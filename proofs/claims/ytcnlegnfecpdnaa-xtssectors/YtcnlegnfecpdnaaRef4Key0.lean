/- The reference's Keys: what its walk needs. -/
import Derived.Test.YtcnlegnfecpdnaaRef4Add
import Derived.Test.YtcnlegnfecpdnaaAesBl
import Derived.Test.YtcnlegnfecpdnaaAesWords
import Derived.Deep.AppendLies
import Derived.Deep.RegionHeld3
namespace Go.Proofs.Ytcnlegnfecpdnaa
open Go.ChangeShapes Go.WideShapes Go.ChangeAt Go.RowKit
set_option linter.unusedVariables false

theorem flat_stay (n : Nat) (key : Nat → Nat) (k : Nat) : ∀ T, k ≤ T → ∀ i, i < 4 * k → flat n key T i = flat n key k i
  | 0, h, i, hi => by omega
  | T + 1, h, i, hi => by
    by_cases e : k = T + 1
    · rw [e]
    · rw [flat_succ]
      show (if i < 4 * T then flat n key T i else _) = _
      rw [if_pos (by omega)]
      exact flat_stay n key k T (by omega) i hi

theorem tw_congr (n : Nat) (W V : Nat → Nat) (k r : Nat) (hk : 1 ≤ k) (hr : r < 4) (h : ∀ i, i < 4 * k → W i = V i) : tw n W k r = tw n V k r := by
  unfold tw
  rw [h (4 * (k - 1) + (r + 1) % 4) (by omega), h (4 * (k - 1) + r) (by omega)]

/-- The row that is grown: the words of the key, and each later one out of the row. -/
theorem flat_key (n : Nat) (key : Nat → Nat) (T k j : Nat) (hk : k < T) (hj : j < 4) (hn : k < n) : flat n key T (4 * k + j) = key (4 * k + j) := by
  rw [flat_stay n key (k + 1) T (by omega) _ (by omega), flat_succ]
  show (if 4 * k + j < 4 * k then _ else if 4 * k + j < 4 * k + 4 then nw n key (flat n key k) k (4 * k + j - 4 * k) else _) = _
  rw [if_neg (by omega), if_pos (by omega), show 4 * k + j - 4 * k = j by omega]
  unfold nw
  rw [if_pos hn]

theorem flat_rec (n : Nat) (key : Nat → Nat) (T k j : Nat) (hk : k < T) (hj : j < 4) (hn : n ≤ k) (h1 : 1 ≤ n) : flat n key T (4 * k + j) = flat n key T (4 * (k - n) + j) ^^^ tw n (flat n key T) k j := by
  rw [flat_stay n key (k + 1) T (by omega) _ (by omega), flat_succ]
  show (if 4 * k + j < 4 * k then _ else if 4 * k + j < 4 * k + 4 then nw n key (flat n key k) k (4 * k + j - 4 * k) else _) = _
  rw [if_neg (by omega), if_pos (by omega), show 4 * k + j - 4 * k = j by omega]
  unfold nw
  rw [if_neg (by omega), flat_stay n key k T (by omega) (4 * (k - n) + j) (by omega), tw_congr n (flat n key T) (flat n key k) k j (by omega) hj (fun i hi => flat_stay n key k T (by omega) i hi)]

theorem bl_snocF (f : Nat → Nat) (n y : Nat) (h : f n = y) : bl f n ++ [.int .u8 (y : Nat)] = bl f (n + 1) := by
  unfold bl
  rw [List.range_succ, List.map_append]
  simp [h]

/-- One byte appended: the row grows by it, what it held stays, and where it lies then. -/
theorem run_append_byte (w : World) (base g0 cap n : Nat) (f : Nat → Nat) (hn : 0 < n) (hown : w.ownsRow base 5 1 (.slice (some ⟨g0, 0, none⟩) n cap) n (bl f n)) (gx c y : Nat) (hy : w.cell? ⟨gx, 0, none⟩ = some (.int .u8 (y : Nat))) (hf : f n = y) (h63 : n + 1 ≤ 1000) (hbase : base ≤ w.heap.size) :
    ∃ g' cap' w', (∀ ty, (Builtin.append_ #[22, 22] ty #[.slice (some ⟨g0, 0, none⟩) n cap, .slice (some ⟨gx, 0, none⟩) 1 c]).run Try.prog w = .ok (.slice (some ⟨g', 0, none⟩) (n + 1) cap') w') ∧ w'.ownsRow base 5 1 (.slice (some ⟨g', 0, none⟩) (n + 1) cap') (n + 1) (bl f (n + 1)) ∧ w.grownBy w' (some g0) ∧
      (∀ a, a < n → w'.cell? ⟨g0, a, none⟩ = some (.int .u8 (f a : Nat))) ∧ (g' = g0 ∨ g' = w.heap.size) := by
  obtain ⟨i, hi, hz, hsize, hby⟩ := info_parts Try.info5
  have hl : [Value.int .u8 (y : Nat)].length = 1 * 1 := rfl
  have hnews : ∀ j u, [Value.int .u8 (y : Nat)][j]? = some u → w.cell? ((⟨gx, 0, none⟩ : Addr).add j) = some u := by
    intro j u hj
    cases j with
    | zero =>
      simp at hj
      subst hj
      simpa [Addr.add] using hy
    | succ j => simp at hj
  have h1 : ∀ u ∈ [Value.int .u8 (y : Nat)], u.oneCell' = true := by
    intro u hu
    simp at hu
    subst hu
    rfl
  obtain ⟨v', w', hr, h2, h3, _⟩ := run_append_own (P := Try.prog) w base 22 0 5 i (.int .u8 0) 1 1 Try.underlying22 hi hz hsize hby rfl (by decide) _ n _ hown ⟨gx, 0, none⟩ 1 c [.int .u8 (y : Nat)] hl hnews h1 (by unfold maxLen; omega) (by omega) hbase
  rw [bl_snocF f n y hf] at h2
  rcases hown.2 with ⟨e, _⟩ | ⟨g1, cap1, cur, e, hbg, hgg, hnc, hcm, hcs, htake⟩
  · cases e
  · obtain ⟨rfl, rfl⟩ : g1 = g0 ∧ cap1 = cap := by
      have := e
      simp at this
      omega
    have hold : ∀ a, a < n → w.cell? ⟨g1, a, none⟩ = some (.int .u8 (f a : Nat)) := fun a ha => by rw [hown.cellAt a (by omega)]; exact bl_get f n a ha
    by_cases hroom : n + 1 ≤ cap1
    · have hfit : n * i.size + [Value.int .u8 (y : Nat)].length ≤ cur.size := by rw [hsize, hcs]; simp; omega
      have hr2 := run_append_room (P := Try.prog) w 22 0 5 i Try.underlying22 hi g1 n cap1 cur hgg ⟨gx, 0, none⟩ 1 c [.int .u8 (y : Nat)] (by rw [hsize]; rfl) hnews h1 hroom hfit
      rw [hr2] at hr
      injection hr with e1 e2
      subst e1
      subst e2
      refine ⟨g1, cap1, _, fun ty => hr2, h2, h3, fun a ha => ?_, .inl rfl⟩
      rw [h2.cellAt a (by omega)]
      exact bl_get _ _ _ (by omega)
    · have holds : ∀ j u, (bl f n)[j]? = some u → w.cell? ((⟨g1, 0, none⟩ : Addr).add j) = some u := hown.cells (g := g1) rfl
      have hr2 := run_append_grow (P := Try.prog) w 22 0 5 i (.int .u8 0) Try.underlying22 hi hz ⟨g1, 0, none⟩ n cap1 (bl f n) (by rw [hsize]; exact hown.1) holds ⟨gx, 0, none⟩ 1 c [.int .u8 (y : Nat)] (by rw [hsize]; rfl) hnews (by omega) (by omega) (growslice_fits (by omega) (by rw [hby]; omega))
      rw [hr2] at hr
      injection hr with e1 e2
      subst e1
      subst e2
      have hlt : g1 < w.heap.size := (Array.getElem?_eq_some_iff.1 hgg).1
      exact ⟨_, _, _, fun ty => hr2, h2, h3, fun a ha => (((Below.refl w.heap.size w).drew.alloc (Nat.le_refl _) _).cell (show (⟨g1, a, none⟩ : Addr).block < w.heap.size from hlt)).trans (hold a ha), .inr rfl⟩

/-- The same, as an operation. -/
theorem run_append_opB {o : Oper} {a : Act} (s x : Operand) (ho : o.op = .call { callee := .builtin .append, args := #[s, x], argTypes := #[22, 22] }) (w : World) (base g0 cap n : Nat) (f : Nat → Nat) (hn : 0 < n) (hown : w.ownsRow base 5 1 (.slice (some ⟨g0, 0, none⟩) n cap) n (bl f n)) (gx c y : Nat)
    (hs : a.eval s = .slice (some ⟨g0, 0, none⟩) n cap) (hx : a.eval x = .slice (some ⟨gx, 0, none⟩) 1 c) (hy : w.cell? ⟨gx, 0, none⟩ = some (.int .u8 (y : Nat))) (hf : f n = y) (h63 : n + 1 ≤ 1000) (hbase : base ≤ w.heap.size) :
    ∃ g' cap' w', (execOp a.eval o).run Try.prog w = .ok (.value (.slice (some ⟨g', 0, none⟩) (n + 1) cap')) w' ∧ w'.ownsRow base 5 1 (.slice (some ⟨g', 0, none⟩) (n + 1) cap') (n + 1) (bl f (n + 1)) ∧ w.grownBy w' (some g0) ∧
      (∀ a, a < n → w'.cell? ⟨g0, a, none⟩ = some (.int .u8 (f a : Nat))) ∧ (g' = g0 ∨ g' = w.heap.size) := by
  obtain ⟨g', cap', w', hr, h1, h2, h3, h4⟩ := run_append_byte w base g0 cap n f hn hown gx c y hy hf h63 hbase
  refine ⟨g', cap', w', ?_, h1, h2, h3, h4⟩
  unfold execOp
  simp only [ho, resolve, invoke, builtin, Sem.run_bind, Sem.run_pure, Result.andThen_ok, List.map_toArray, List.map_cons, List.map_nil, hs, hx, hr]

theorem run_slice4 {o : Oper} {a : Act} (x0 x1 x2 x3 : Operand) (ho : o.op = .buildSlice 22 4 #[(0, x0), (1, x1), (2, x2), (3, x3)]) (p q r s : Nat) (h0 : a.eval x0 = .int .u8 (p : Nat)) (h1 : a.eval x1 = .int .u8 (q : Nat)) (h2 : a.eval x2 = .int .u8 (r : Nat)) (h3 : a.eval x3 = .int .u8 (s : Nat)) (w : World) :
    (execOp a.eval o).run Try.prog w = .ok (.value (.slice (some ⟨w.heap.size, 0, none⟩) 4 4)) (w.alloc (.cells (cellsN .u8 4 (four p q r s)) 5)) := by
  rw [show cellsN .u8 4 (four p q r s) = #[.int .u8 (p : Nat), .int .u8 (q : Nat), .int .u8 (r : Nat), .int .u8 (s : Nat)] from rfl]
  unfold execOp
  simp only [ho, h0, h1, h2, h3, List.map_toArray, List.map_cons, List.map_nil]
  go_simp

theorem run_slice1 {o : Oper} {a : Act} (x0 : Operand) (ho : o.op = .buildSlice 22 1 #[(0, x0)]) (p : Nat) (h0 : a.eval x0 = .int .u8 (p : Nat)) (w : World) :
    (execOp a.eval o).run Try.prog w = .ok (.value (.slice (some ⟨w.heap.size, 0, none⟩) 1 1)) (w.alloc (.cells #[.int .u8 (p : Nat)] 5)) := by
  unfold execOp
  simp only [ho, h0, List.map_toArray, List.map_cons, List.map_nil]
  go_simp
end Go.Proofs.Ytcnlegnfecpdnaa
