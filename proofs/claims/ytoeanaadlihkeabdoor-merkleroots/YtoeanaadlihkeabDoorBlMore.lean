/- Appends of bytes, and of noughts, to a row of the call's own, in a region that draws its order. -/
import Derived.Test.YtoeanaadlihkeabDoorShaBl
import Derived.Test.YtoeanaadlihkeabDoorRegTo
import Derived.Lib.AppendZerosOnto
namespace Go.Proofs.YtoeanaadlihkeabDoor
open Go.ChangeShapes Go.WideShapes Go.ChangeAt Go.RowKit
set_option linter.unusedVariables false

theorem run_append_op {o : Oper} {a : Act} {w w' : World} (s x : Operand) (t tn : TypeId) (ho : o.op = .call { callee := .builtin .append, args := #[s, x], argTypes := #[t, tn] }) (vs vx : Value) (hs : a.eval s = vs) (hx : a.eval x = vx)
    (v' : Value) (hr : ∀ ty, (Builtin.append_ #[t, tn] ty #[vs, vx]).run Tryd.prog w = .ok v' w') : (execOp a.eval o).run Tryd.prog w = .ok (.value v') w' := by
  unfold execOp
  simp only [ho, resolve, invoke, builtin, Sem.run_bind, Sem.run_pure, Result.andThen_ok, List.map_toArray, List.map_cons, List.map_nil, hs, hx, hr]

theorem bytes_news {w : World} {ad : Addr} {L : Nat} {g : Nat → Nat} (hb : Bytes w (some ad) L g) : ∀ j u, (bl g L)[j]? = some u → w.cell? (ad.add j) = some u := by
  intro j u hj
  by_cases hjl : j < L
  · rw [bl_get g L j hjl] at hj
    rcases hb with h0 | ⟨b, off, e, _, hc⟩
    · omega
    · obtain rfl : ad = ⟨b, off, none⟩ := Option.some.inj e
      have e1 : (⟨b, off, none⟩ : Addr).add j = ⟨b, off + j, none⟩ := by unfold Addr.add; split <;> simp_all
      rw [e1, hc j hjl]
      exact hj
  · rw [List.getElem?_eq_none (by rw [bl_len]; omega)] at hj
    simp at hj

/-- Bytes appended, the run alone. -/
theorem run_append_bytes (w : World) (base : Nat) (v : Value) (n : Nat) (f : Nat → Nat) (hown : w.ownsRow base 5 1 v n (bl f n))
    (A : Option Addr) (L C : Nat) (g : Nat → Nat) (hnil : A = none → L = 0 ∧ C = 0) (hb : Bytes w A L g) (h63 : n + L ≤ 140737488355328) (hbase : base ≤ w.heap.size) :
    ∃ v' w', (∀ ty, (Builtin.append_ #[22, 22] ty #[v, .slice A L C]).run Tryd.prog w = .ok v' w') ∧ w'.ownsRow base 5 1 v' (n + L) (bl (cat f n g) (n + L)) ∧ w.grownBy w' v.ownBlock := by
  obtain ⟨i0, hi, hz0, hz1, hz2⟩ := info_parts Tryd.info5
  cases A with
  | none =>
    obtain ⟨rfl, rfl⟩ := hnil rfl
    refine ⟨v, w, fun ty => ?_, by rw [bl_cat_zero]; exact hown, grownBy_refl _ _⟩
    rcases hown.2 with ⟨rfl, rfl⟩ | ⟨g', cap, cur, rfl, hbg, hg, hnc, hcm, hcs, htake⟩
    · simp [Builtin.append_, run_underlying Tryd.underlying22, sizeOf, typeInfo, hi, Builtin.lenOf, Builtin.firstCells]
    · simp [Builtin.append_, run_underlying Tryd.underlying22, sizeOf, typeInfo, hi, Builtin.lenOf, Builtin.firstCells, hnc, storeCells]
  | some ad =>
    obtain ⟨v', w', hr, h2, h3, _⟩ := run_append_own (P := Tryd.prog) w base 22 0 5 i0 (.int .u8 0) 1 1 Tryd.underlying22 hi hz0 hz1 hz2 rfl (by decide) v n _ hown ad L C (bl g L) (bl_len g L) (bytes_news hb) (bl_one g L) (by unfold maxLen; omega) (by omega) hbase
    rw [bl_cat] at h2
    exact ⟨v', w', fun ty => hr, h2, h3⟩

theorem zero_bl (k : Nat) : (Builtin.zeroCells (Value.int .u8 0).cells k).toList = bl (fun _ => 0) k := by
  unfold bl Builtin.zeroCells
  apply List.ext_getElem?
  intro i
  by_cases h : i < k
  · simp [h, Value.cells, Nat.mod_one]
  · simp [h, Value.cells]

/-- Noughts appended, by their number, the run alone. -/
theorem run_append_noughts (w : World) (base : Nat) (v : Value) (n : Nat) (f : Nat → Nat) (hown : w.ownsRow base 5 1 v n (bl f n)) (k : Nat) (h63 : n + k ≤ 100000000) (hbase : base ≤ w.heap.size) :
    ∃ v' w', (∀ ty, (Builtin.append_ #[22, 3] ty #[v, .int .i64 k]).run Tryd.prog w = .ok v' w') ∧ w'.ownsRow base 5 1 v' (n + k) (bl (cat f n fun _ => 0) (n + k)) ∧ w.grownBy w' v.ownBlock := by
  obtain ⟨i0, hi, hz0, hz1, hz2⟩ := info_parts Tryd.info5
  have hwr : IntKind.i64.wrap (k : Int) = k := by rw [IntKind.wrap_i64]; omega
  have hneg : ¬ ((k : Int) < 0) := by omega
  have h48 : ¬ (281474976710656 < (k : Int) * (i0.bytes : Int)) := by rw [hz2]; omega
  by_cases hk : k = 0
  · subst hk
    refine ⟨v, w, fun ty => ?_, by rw [bl_cat_zero]; exact hown, grownBy_refl _ _⟩
    rcases hown.2 with ⟨rfl, rfl⟩ | ⟨g', cap, cur, rfl, hbg, hg, hnc, hcm, hcs, htake⟩
    · simp [Builtin.append_, run_underlying Tryd.underlying22, run_underlying Tryd.underlying3, sizeOf, typeInfo, hi, asInt, asIntOf, IntKind.wrap_i64]
    · simp [Builtin.append_, run_underlying Tryd.underlying22, run_underlying Tryd.underlying3, sizeOf, typeInfo, hi, asInt, asIntOf, hnc, storeCells, IntKind.wrap_i64]
  have grown : ∀ old, w.ownsRow base 5 1 v n (bl f n) → (w.drew.alloc (.cells ((bl f n).toArray ++ Builtin.zeroCells (Value.int .u8 0).cells k ++ Builtin.zeroCells (Value.int .u8 0).cells (grownCap w (n + k) old 5 - (n + k))) 5)).ownsRow base 5 1 (.slice (some ⟨w.heap.size, 0, none⟩) (n + k) (grownCap w (n + k) old 5)) (n + k) (bl (cat f n fun _ => 0) (n + k)) := by
    intro old _
    have hge := grownCap_ge w (n + k) old 5
    have hcm : grownCap w (n + k) old 5 ≤ maxLen := grownCap_le_maxLen w (n + k) old 5 (by unfold maxLen; omega)
    refine ⟨bl_len _ _, .inr ⟨w.heap.size, _, _, rfl, hbase, heap_alloc_new w.drew _, hge, hcm, ?_, ?_⟩⟩
    · simp only [Array.size_append, List.size_toArray, size_zeroCells, Value.cells]
      simp [bl]
      omega
    · rw [Array.toList_append, Array.toList_append, zero_bl, ← bl_cat, show (n + k) * 1 = (bl f n ++ bl (fun _ => 0) k).length from by simp [bl]]
      exact List.take_left
  rcases hown.2 with ⟨rfl, rfl⟩ | ⟨g, cap, cur, rfl, hbg, hg, hnc, hcm, hcs, htake⟩
  · have hr := fun ty => Lib.run_append_nil_zeros (P := Tryd.prog) w 22 3 ty 5 i0 (.int .u8 0) .i64 .i64 Tryd.underlying22 Tryd.underlying3 hi hz0 k (by omega) (by omega) (by omega) (by rw [hz2]; omega)
    have hgr := grown 0 hown
    simp only [Nat.zero_add] at hgr ⊢
    refine ⟨_, _, hr, ?_, ⟨rfl, rfl, rfl, by simp, fun k' hk' _ => heap_alloc_old w.drew _ hk'⟩⟩
    simpa [bl] using hgr
  · by_cases hroom : n + k ≤ cap
    · have hst := run_storeCells_at Tryd.prog g (n * 1) 5 (bl (fun _ => 0) k) 0 cur w hg (by rw [bl_len, hcs]; omega) (bl_one _ _)
      simp only [Nat.add_zero, Nat.mul_one] at hst
      obtain ⟨R, hR⟩ : ∃ R : Array Value, R = (cur.toList.take n ++ bl (fun _ => 0) k ++ cur.toList.drop (n + (bl (fun _ => 0) k).length)).toArray := ⟨_, rfl⟩
      rw [← hR] at hst
      refine ⟨.slice (some ⟨g, 0, none⟩) (n + k) cap, w.setRow g R, fun ty => ?_, ⟨bl_len _ _, .inr ⟨g, cap, R, rfl, hbg, setRow_heap w g cur R 5 _ hg, hroom, hcm, ?_, ?_⟩⟩, ⟨rfl, rfl, rfl, by simp, fun k' _ hk' => setRow_other w g k' _ (fun e => hk' (by simp [Value.ownBlock, e]))⟩⟩
      · simp only [Builtin.append_]
        simp [run_underlying Tryd.underlying22, run_underlying Tryd.underlying3, sizeOf, typeInfo, zeroValue, hi, hz0, hz1, asInt, asIntOf, hwr, hneg, h48, hroom, hk, Addr.add_lit, zero_bl, hst]
      · rw [hR]
        simp only [List.size_toArray, List.length_append, List.length_take, List.length_drop, Array.length_toList]
        simp [bl]
        omega
      · rw [Nat.mul_one] at htake
        rw [hR, htake, ← bl_cat, show (n + k) * 1 = (bl f n ++ bl (fun _ => 0) k).length from by simp [bl]]
        exact List.take_left
    · have holds : ∀ j u, (bl f n)[j]? = some u → w.cell? ((⟨g, 0, none⟩ : Addr).add j) = some u := hown.cells (g := g) rfl
      have hold := run_firstCells_some (P := Tryd.prog) w.drew i0.size n ⟨g, 0, none⟩ n cap (bl f n) (by rw [hz1]; exact bl_len f n) holds
      have hr := fun ty => Lib.run_append_grow_zeros (P := Tryd.prog) w 22 3 ty 5 i0 (.int .u8 0) .i64 .i64 Tryd.underlying22 Tryd.underlying3 hi hz0 (some ⟨g, 0, none⟩) n cap (bl f n) hold k (by omega) (by omega) (by omega) (by omega) (by rw [hz2]; omega) (growslice_fits (by omega) (by rw [hz2]; omega))
      exact ⟨_, _, hr, grown cap hown, ⟨rfl, rfl, rfl, by simp, fun k' hk' _ => heap_alloc_old w.drew _ hk'⟩⟩
end Go.Proofs.YtoeanaadlihkeabDoor
