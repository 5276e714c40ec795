/- cache: a write is put behind the others: all steps. -/
import Derived.Test.YtancebpjfbbcaaaCcTurn
namespace Go.Proofs.Ytancebpjfbbcaaa
open Go.ChangeShapes Go.WideShapes Go.ChangeAt Go.RowKit Go.MapKept
set_option linter.unusedVariables false

variable {w w' X : World} {v : Value} {f : Nat → Nat} {cb : Nat} {P : Nat → Nat} {dv kv : Value} {o : GV} {ks : List GV} {GO GO1 GK GN : Nat → Prop} {l : List Rw}

theorem PutR.of2 {w0 : World} (ho : Only (fun k => GO k ∨ k = cb) w0 w) (hg : ∀ k, GO1 k → GO k ∨ w0.heap.size ≤ k) (h : PutR w cb P dv l kv ks GO1 GK GN w') : PutR w0 cb P dv l kv ks GO GK GN w' := by
  obtain ⟨o', GO', h1, h2, h3, h4⟩ := h
  refine ⟨o', GO', h1, h2, ho.trans h3 (fun k hk h => h.elim (fun h => (hg k h).elim .inl (fun h => absurd hk (Nat.not_lt.2 h))) .inr), fun k hk => ?_⟩
  rcases h4 k hk with h5 | h5 | h5
  · exact (hg k h5).imp id .inr
  · exact .inr (.inl h5)
  · exact .inr (.inr (Nat.le_trans ho.size h5))

theorem put_tail (h : CAt X cb P dv o kv ks GO GK) {d s mb : Nat} (hd : d < 3) (hs : s < 6) (hf : fnd o.rows d s = none) (hm : o.mv = .map (some mb)) (hv : DataAt X GN v f) (hN : ∀ k, GN k → k < X.heap.size ∧ ¬ GK k) (hlen : o.rows.length ≤ 1000) {B5 : Nat} (hB5 : Has X B5 78 #[.int .i64 (d : Nat), .int .i64 (s : Nat), v]) (hB5n : ¬ GO B5 ∧ ¬ GK B5) :
    ∃ W6, (Instr.mapUpdate 68 (.map (some mb)) (plv d s) (.int .i64 (o.rows.length : Nat))).run Try.prog X = .ok () W6 ∧ Has W6 B5 78 #[.int .i64 (d : Nat), .int .i64 (s : Nat), v] ∧ W6.cell? ⟨cb, 2, none⟩ = some o.lv ∧ (W6.drew.alloc (.cells #[.int .i64 (d : Nat), .int .i64 (s : Nat), v] 78)).cell? ⟨cb, 2, none⟩ = some o.lv ∧ Has (W6.drew.alloc (.cells #[.int .i64 (d : Nat), .int .i64 (s : Nat), v] 78)) B5 78 #[.int .i64 (d : Nat), .int .i64 (s : Nat), v] ∧
      ∃ A' C' w8, (Builtin.append_ #[30, 30] 30 #[o.lv, .slice (some ⟨W6.heap.size, 0, none⟩) 1 1]).run Try.prog (W6.drew.alloc (.cells #[.int .i64 (d : Nat), .int .i64 (s : Nat), v] 78)) = .ok (.slice A' (o.rows.length + 1) C') w8 ∧ w8.cell? ⟨cb, 2, none⟩ = some o.lv ∧ w8.frozen? ⟨cb, 2, none⟩ = false ∧ Has w8 B5 78 #[.int .i64 (d : Nat), .int .i64 (s : Nat), v] ∧ PutR X cb P dv (putW o.rows d s f v) kv ks GO GK GN (w8.setCell ⟨cb, 2, none⟩ (.slice A' (o.rows.length + 1) C')) := by
  obtain ⟨gmb, hmb⟩ : GO mb ∧ X.heap[mb]? = some (.map (cent 0 o.rows).toArray o.rows.length) := by
    rcases h.opn.mp with ⟨_, e⟩ | ⟨mb', e, h1, h2⟩
    · rw [hm] at e
      cases e
    · rw [hm] at e
      cases e
      exact ⟨h1, h2⟩
  have hmlt := h.lt mb (.inl gmb)
  have hcb := h.lt cb (.inr h.gcb)
  obtain ⟨W6, hW6⟩ : ∃ W6 : World, W6 = { X with heap := X.heap.setIfInBounds mb (.map (cent 0 (o.rows ++ [((⟨d, s, f⟩ : Wr), v)])).toArray (o.rows ++ [((⟨d, s, f⟩ : Wr), v)]).length) } := ⟨_, rfl⟩
  have ho6 : Only (fun k => k = mb) X W6 := by rw [hW6]; exact only_block X mb _
  have hba : Below W6.heap.size W6 (W6.drew.alloc (.cells #[.int .i64 (d : Nat), .int .i64 (s : Nat), v] 78)) := (show Below W6.heap.size W6 W6.drew from ⟨rfl, rfl, rfl, Nat.le_refl _, fun _ _ => rfl⟩).trans ((Below.refl W6.heap.size W6.drew).alloc (show W6.heap.size ≤ W6.drew.heap.size from Nat.le_refl _) _)
  have hcbm : cb ≠ mb := fun e => h.sep mb gmb (e ▸ h.gcb)
  have hs6 : Has W6 cb 73 #[dv, o.mv, o.lv, kv] := (ho6.block cb hcb hcbm).trans h.str
  have hB6 : Has W6 B5 78 #[.int .i64 (d : Nat), .int .i64 (s : Nat), v] := (ho6.block B5 hB5.lt (fun e => hB5n.1 (e ▸ gmb))).trans hB5
  have hlvmb : ∀ k, o.lv.ownBlock = some k → k ≠ mb := fun k e e2 => by
    obtain ⟨cur, hcur⟩ := own_block h.opn.row (e2 ▸ e)
    exact map_has_neC hmb (show Has X mb 78 cur from hcur) rfl
  have hs7 := hs6.below hba hs6.lt
  have hB7 := hB6.below hba hB6.lt
  have hr7 : (W6.drew.alloc (.cells #[.int .i64 (d : Nat), .int .i64 (s : Nat), v] 78)).ownsRow 0 78 3 o.lv o.rows.length (o.rows.flatMap wcl) := own_keptC h.opn.row (fun k e => by
    have hk := (h.opn.row.lt k e).2
    rw [hba.block k (Nat.lt_of_lt_of_le hk ho6.size)]
    exact ho6.block k hk (hlvmb k e))
  have hG : Has (W6.drew.alloc (.cells #[.int .i64 (d : Nat), .int .i64 (s : Nat), v] 78)) W6.heap.size 78 (wcl (⟨d, s, f⟩, v)).toArray := Has.new W6.drew _ _
  obtain ⟨A', C', w8, hr8, hrow8, hg8, hw8⟩ := append_oneC kWrC (ty := 30) (W6.drew.alloc (.cells #[.int .i64 (d : Nat), .int .i64 (s : Nat), v] 78)) 0 o.rows.length o.lv _ hr7 (Nat.zero_le _) (by omega) (wcl (⟨d, s, f⟩, v)) rfl (wcl_one _ hv.one) _ hG
  have hs8 : Has w8 cb 73 #[dv, o.mv, o.lv, kv] := (hg8.block cb hs7.lt (fun e => own_has_neC h.opn.row h.str (by decide) e.symm)).trans hs7
  have hB8 : Has w8 B5 78 #[.int .i64 (d : Nat), .int .i64 (s : Nat), v] := (hg8.block B5 hB7.lt (fun e => hB5n.1 (h.opn.gr B5 e.symm))).trans hB7
  refine ⟨W6, ?_, hB6, hs6.cell 2, hs7.cell 2, hB7, A', C', w8, hr8, hs8.cell 2, hs8.free 2, hB8, put_app h hd hs hf hm hv hN hW6 hba hg8 hrow8 hw8⟩
  rw [hW6]
  exact run_put_place hmb d s hf (⟨d, s, f⟩, v) rfl rfl
end Go.Proofs.Ytancebpjfbbcaaa
