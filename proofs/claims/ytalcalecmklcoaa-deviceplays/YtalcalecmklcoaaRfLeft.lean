/- The reference's left. -/
import Derived.Test.YtalcalecmklcoaaRfLeftM
namespace Go.Proofs.Ytalcalecmklcoaa
open Go.ChangeShapes Go.WideShapes Go.ChangeAt Go.RowKit
set_option linter.unusedVariables false

theorem run_load_is {o : Oper} {a : Act} (x : Operand) (ho : o.op = .load 30 x) (p : Addr) (hx : a.eval x = .pointer (some p)) (v : Value) (w : World) (h : w.cell? p = some v) : (execOp a.eval o).run Try.prog w = .ok (.value v) w := by
  unfold execOp
  simp only [ho, hx]
  go_simp

theorem run_store_is {o : Oper} {a : Act} (x y : Operand) (ho : o.op = .store 30 x y) (p : Addr) (hx : a.eval x = .pointer (some p)) (A : Option Addr) (n c : Nat) (hy : a.eval y = .slice A n c) (w : World) (u : Value) (h : w.cell? p = some u) (hf : w.frozen? p = false) : (execOp a.eval o).run Try.prog w = .ok .skip (w.setCell p (.slice A n c)) := by
  unfold execOp
  simp only [ho, hx, hy]
  go_simp

theorem Try.sizeRw : (Try.prog.info? 78).map (·.size) = some 5 := by kernel_rfl

theorem run_at_rw {o : Oper} {a : Act} (x i : Operand) (ho : o.op = .indexAddr 29 x i) (g off k n cap : Nat) (hx : a.eval x = .slice (some ⟨g, off, none⟩) n cap) (hi : a.eval i = .int .i64 (k : Nat)) (hk : k < n) (w : World) : (execOp a.eval o).run Try.prog w = .ok (.value (.pointer (some ⟨g, off + k * 5, none⟩))) w := by
  unfold execOp
  cases hq : Try.prog.info? 78 with
  | none => exact absurd hq (by have h : (Try.prog.info? 78).isSome = true := (by kernel_rfl); intro e; rw [e] at h; cases h)
  | some inf =>
    have hz : inf.size = 5 := by
      have h := Try.sizeRw
      simpa [hq] using h
    simp only [ho, hx, hi]
    simp [Instr.indexAt, Instr.sureAddr, run_underlying Try.underlying29, asIntOf, sizeOf, typeInfo, hq, hz, Addr.add_mid, go_sem]
    intro h
    omega

theorem run_load_rw {o : Oper} {a : Act} (x : Operand) (ho : o.op = .load 78 x) (b off : Nat) (hx : a.eval x = .pointer (some ⟨b, off, none⟩)) (r : RW) (w : World) (h : ∀ j u, (rcell r)[j]? = some u → w.cell? ⟨b, off + j, none⟩ = some u) : (execOp a.eval o).run Try.prog w = .ok (.value (.agg (rcell r).toArray)) w := by
  have hr := run_loadAt_mid (P := Try.prog) w b off 78 (rcell r) _ h Try.underlying78 rfl Try.sizeRw
  unfold execOp
  simp only [ho, hx, Sem.run_bind, hr]
  rfl

/-- The device that is being made. -/
structure OutAt (w wr : World) (q' : Nat) (sn : Nat) (sd : Bool) (Fk : List RW) (sp : List Nat) (vFk vS' : Value) : Prop where
  has : Has wr q' 32 (rdcells sn vFk nilS vS' sd 0)
  fr : wr.ownsRow w.heap.size 78 5 vFk Fk.length (Fk.flatMap rcell)
  sr : wr.ownsRow w.heap.size 3 1 vS' sp.length (sp.flatMap icell)
  bel : Below w.heap.size w wr
  q1 : w.heap.size ≤ q'

theorem OutAt.fr_q {w wr : World} {q' sn : Nat} {sd : Bool} {Fk : List RW} {sp : List Nat} {vFk vS' : Value} (h : OutAt w wr q' sn sd Fk sp vFk vS') : vFk.ownBlock ≠ some q' := fun hg => by obtain ⟨cur, hc⟩ := own_block (own_zero h.fr) hg; exact cells_ne hc h.has (by decide) rfl
theorem OutAt.sr_q {w wr : World} {q' sn : Nat} {sd : Bool} {Fk : List RW} {sp : List Nat} {vFk vS' : Value} (h : OutAt w wr q' sn sd Fk sp vFk vS') : vS'.ownBlock ≠ some q' := fun hg => by obtain ⟨cur, hc⟩ := own_block (own_zero h.sr) hg; exact cells_ne hc h.has (by decide) rfl
theorem OutAt.sr_fr {w wr : World} {q' sn : Nat} {sd : Bool} {Fk : List RW} {sp : List Nat} {vFk vS' : Value} (h : OutAt w wr q' sn sd Fk sp vFk vS') {g : Nat} (h1 : vS'.ownBlock = some g) : vFk.ownBlock ≠ some g := fun hg => by
  obtain ⟨cur, hc⟩ := own_block (own_zero h.sr) h1
  obtain ⟨cur', hc'⟩ := own_block (own_zero h.fr) hg
  exact cells_ne hc hc' (by decide) rfl

theorem own_keptB {w w' : World} {B e size n : Nat} {v : Value} {xs : List Value} (h : w.ownsRow B e size v n xs) (hb : ∀ g, v.ownBlock = some g → w'.heap[g]? = w.heap[g]?) : w'.ownsRow B e size v n xs := by
  refine ⟨h.1, ?_⟩
  rcases h.2 with h0 | ⟨g, cap, cur, hv, h1, hg, r⟩
  · exact .inl h0
  · exact .inr ⟨g, cap, cur, hv, h1, (hb g (by rw [hv]; rfl)).trans hg, r⟩

/-- One more is taken over. -/
theorem OutAt.add {w wr : World} {q' sn : Nat} {sd : Bool} {Fk : List RW} {sp : List Nat} {vFk vS' : Value} (h : OutAt w wr q' sn sd Fk sp vFk vS') (r : RW) (hn : Fk.length ≤ 100000) :
    ∃ g7 cap7 w7, (Builtin.append_ #[29, 29] 29 #[vFk, .slice (some ⟨wr.drew.heap.size, 0, none⟩) 1 1]).run Try.prog (wr.drew.alloc (.cells (rcell r).toArray 78)) = .ok (.slice (some ⟨g7, 0, none⟩) (Fk.length + 1) cap7) w7 ∧
      Only (fun k => vFk.ownBlock = some k) wr w7 ∧ Has w7 q' 32 (rdcells sn vFk nilS vS' sd 0) ∧ OutAt w (w7.setCell ⟨q', 1, none⟩ (.slice (some ⟨g7, 0, none⟩) (Fk.length + 1) cap7)) q' sn sd (Fk ++ [r]) sp (.slice (some ⟨g7, 0, none⟩) (Fk.length + 1) cap7) vS' := by
  have hDr : Below wr.heap.size wr wr.drew := (Below.refl _ wr).drew
  have hfrd : wr.drew.ownsRow w.heap.size 78 5 vFk Fk.length (Fk.flatMap rcell) := own_keptB h.fr (fun _ _ => rfl)
  obtain ⟨g7, cap7, w7, hr7, hown7, hgr7, hl7⟩ := app_r r hfrd h.bel.size hn 29
  have hA : Below wr.heap.size wr (wr.drew.alloc (.cells (rcell r).toArray 78)) := hDr.alloc (Nat.le_refl _) _
  have hO7 : Only (fun k => vFk.ownBlock = some k) wr w7 := ⟨hgr7.os.trans hA.os, hgr7.tape.trans hA.tape, hgr7.output.trans hA.output, Nat.le_trans hA.size hgr7.size, fun k hk hn => (hgr7.block k (Nat.lt_of_lt_of_le hk hA.size) (fun e => hn e.symm)).trans (hA.block k hk)⟩
  have hH7 : Has w7 q' 32 (rdcells sn vFk nilS vS' sd 0) := (hO7.block q' h.has.lt h.fr_q).trans h.has
  have hO8 := only_setCell w7 q' 1 (.slice (some ⟨g7, 0, none⟩) (Fk.length + 1) cap7)
  have hb7 : Below w.heap.size w w7 := h.bel.trans (hO7.below (fun k hk => (h.fr.lt k hk).1) h.bel.size)
  have hsr7 : w7.ownsRow w.heap.size 3 1 vS' sp.length (sp.flatMap icell) := own_keptB h.sr (fun g hg => hO7.block g (h.sr.lt g hg).2 (fun e => h.sr_fr hg e))
  refine ⟨g7, cap7, w7, hr7, hO7, hH7, ⟨hH7.setV 1 _, ?_, own_keptB hsr7 (fun g hg => hO8.block g (hsr7.lt g hg).2 (fun e => h.sr_q (e ▸ hg))), hb7.trans (hO8.below (fun k hk => by rw [hk]; exact h.q1) hb7.size), h.q1⟩⟩
  rw [List.length_append, List.flatMap_append]
  have := own_keptB hown7 (fun g hg => hO8.block g (hown7.lt g hg).2 (fun e => by obtain ⟨cur, hcur⟩ := own_block (own_zero hown7) hg; exact cells_ne hcur hH7 (by decide) e))
  simpa using this

variable {w w' : World} {q m : Nat} {s : DS} {Fl Ll : List RW} {sp : List Nat} {vF vL vS : Value}

def LeftR (w w' : World) (e : Ending) (s' : DS) (Fl l : List RW) (sp : List Nat) : Prop :=
  ∃ q' Fl' vF' vS', e = .returned (ptr q') ∧ Below w.heap.size w w' ∧ RefAt w' q' s' 0 Fl' [] sp vF' nilS vS' ∧ w.heap.size ≤ q' ∧ (∀ k, vF'.ownBlock = some k → w.heap.size ≤ k) ∧ (∀ k, vS'.ownBlock = some k → w.heap.size ≤ k) ∧ Fl'.length ≤ Fl.length + l.length ∧ ∀ r ∈ Fl', r ∈ Fl ∨ (r ∈ l ∧ r.e.sync = false)

set_option maxRecDepth 100000 in
set_option maxHeartbeats 8000000 in
theorem leftR (h : RefAt w q s m Fl Ll sp vF vL vS) (l : List RW) (al : Option Addr) (n cl : Nat) (hl : RowIs w al n l) (hlb : ∀ r ∈ l, r.e.sync = false → Has w r.g 5 (cellsN .u8 64 r.e.b)) (hby : ∀ r ∈ l, ∀ j, r.e.b j < 256) (a : Option Addr) (L C : Nat) (kf : Nat → Bool) (hk : Bools w a L kf) (hn : n ≤ 10000) (hF : Fl.length ≤ 10000) (hsp : sp.length ≤ 10000) :
    Calls Try.prog 51 #[ptr q, .slice al n cl, .slice a L C] w fun e w' => LeftR w w' e ⟨s.n, left (keepOf kf L) 0 (l.map (·.e)) s.fst, [], s.bad, s.dead⟩ Fl l sp := by
  have h0 : w.cell? ⟨q, 0, none⟩ = some (.int .i64 (s.n : Nat)) := h.cell 0
  have h4 : w.cell? ⟨q, 4, none⟩ = some (.bool s.dead) := h.cell 4
  have hkb : ∀ j, j < L → ∃ xb xo, a = some ⟨xb, xo, none⟩ ∧ xb < w.heap.size ∧ ∀ j, j < L → w.cell? ⟨xb, xo + j, none⟩ = some (.bool (kf j)) := fun j hj => by
    rcases hk with hk | ⟨xb, xo, h1, h2, h3⟩
    · omega
    · exact ⟨xb, xo, h1, h2, h3⟩
  obtain ⟨FIN, hFIN⟩ : ∃ FIN, FIN = left (keepOf kf L) 0 (l.map (·.e)) s.fst := ⟨_, rfl⟩
  rw [← hFIN]
  have HFIN : Hid (FIN = (rl (keepOf kf L) (lastSy (l.map (·.e))) 0 0 (l.map (·.e))).foldl upF ((Fl.map (·.e)).foldl upF (fun _ _ => 0))) := by show _ = _; rw [hFIN, ← left_ref, h.fst]
  have HR : Hid (RefAt w q s m Fl Ll sp vF vL vS) := h
  have Hfin : Hid (l.take n = l) := by show _ = _; rw [← hl.1, List.take_length]
  have HRow : Hid (RowIs w al n l) := hl
  have HLb : Hid (∀ r ∈ l, r.e.sync = false → Has w r.g 5 (cellsN .u8 64 r.e.b)) := hlb
  clear h hk hFIN hlb
  go_enter Try.func51, Try.ntmps51
  go_wp2
  go_loopw [7, 8] (fun av iv wr => wr = w ∧ ∃ k A : Nat, k ≤ n ∧ iv = .int .i64 (k : Nat) ∧ av = .int .i64 (A : Nat) ∧ Hid (A = lastSy ((l.take k).map (·.e))) ∧ A ≤ k)
    (fun _ iv _ => n - (intOf iv).toNat)
  case atStart => exact ⟨rfl, 0, 0, Nat.zero_le _, rfl, rfl, (show (0 : Nat) = lastSy ((l.take 0).map (·.e)) from rfl), Nat.le_refl _⟩
  case round =>
    obtain ⟨hwr, k, A, hk, rfl, rfl, hA, hAk⟩ := hrel
    obtain rfl : w = wr := hwr.symm
    have i1 : (0 : Int) ≤ (k : Int) := by omega
    by_cases hlt : k < n
    · obtain ⟨x, r, rfl, hxlt, hrk, hc⟩ := hl.2 k hlt
      have c2 : w.cell? ⟨x, k * 5 + 2, none⟩ = some (.bool r.e.sync) := hc 2 _ rfl
      have i0 : (k : Int) < (n : Int) := by omega
      have hst : Hid (lastSy ((l.take (k + 1)).map (·.e)) = if r.e.sync then k else lastSy ((l.take k).map (·.e))) := by
        show _ = _
        rw [take_snoc hrk, lastSy_snoc, List.length_map, List.length_take, Nat.min_eq_left (by rw [hl.1]; omega)]
      clear hc hl hkb
      cases hsy : r.e.sync
      · rw [hsy] at c2
        go_wp2
        go_roundw
        case rel => exact ⟨by trivial, k + 1, A, by omega, by go_num, rfl, (show A = _ by rw [hst.out, hsy, if_neg (by simp)]; exact hA.out), by omega⟩
        case measure => simp [intOf]; omega
      · rw [hsy] at c2
        go_wp2
        go_roundw
        case rel => exact ⟨by trivial, k + 1, k, by omega, by go_num, rfl, (show k = _ by rw [hst.out, hsy, if_pos rfl]), by omega⟩
        case measure => simp [intOf]; omega
    · obtain rfl : k = n := by omega
      have HA : Hid (A = lastSy (l.map (·.e))) := by show _ = _; rw [hA.out, Hfin.out]
      clear hA hl
      go_wp2
      refine wp_region_held_drew (S := fun wz => wz.cell? ⟨q, 0, none⟩ = some (.int .i64 (s.n : Nat)) ∧ wz.cell? ⟨q, 4, none⟩ = some (.bool s.dead)) (by kernel_rfl) ⟨h0, h4⟩ (fun hHeld => ?_)
      refine takeTo 0 (some 25) (ptr q) rfl rfl (by kernel_rfl) (by kernel_rfl) (by kernel_rfl) (fun _ _ _ h => h) (by rfl) (fun _ _ => rfl) hHeld ?_
      simp only [Act.put, List.setIfInBounds_toArray, List.set_cons_zero, List.set_cons_succ]
      refine takeTo 1 (some 26) (.pointer (some ⟨q, 0, none⟩)) rfl rfl (by kernel_rfl) (by kernel_rfl) (by kernel_rfl) (fun _ _ _ h => h) (by rfl) (fun _ _ => rfl) hHeld ?_
      simp only [Act.put, List.setIfInBounds_toArray, List.set_cons_zero, List.set_cons_succ]
      refine takeTo 2 (some 27) (.pointer (some ⟨q, 0, none⟩)) rfl rfl (by kernel_rfl) (by kernel_rfl) (by kernel_rfl) (fun _ _ _ h => h) (by rfl) (fun _ _ => rfl) hHeld ?_
      simp only [Act.put, List.setIfInBounds_toArray, List.set_cons_zero, List.set_cons_succ]
      refine takeTo 3 (some 28) (.int .i64 (s.n : Nat)) rfl rfl (by kernel_rfl) (by kernel_rfl) (by kernel_rfl) (fun _ _ _ h => h) (by rfl) (fun wz hz => run_load_n _ rfl _ rfl _ wz hz.1) hHeld ?_
      simp only [Act.put, List.setIfInBounds_toArray, List.set_cons_zero, List.set_cons_succ]
      refine takeTo 4 (some 29) (ptr q) rfl rfl (by kernel_rfl) (by kernel_rfl) (by kernel_rfl) (fun _ _ _ h => h) (by rfl) (fun _ _ => rfl) hHeld ?_
      simp only [Act.put, List.setIfInBounds_toArray, List.set_cons_zero, List.set_cons_succ]
      refine takeTo 5 (some 30) (.pointer (some ⟨q, 0, none⟩)) rfl rfl (by kernel_rfl) (by kernel_rfl) (by kernel_rfl) (fun _ _ _ h => h) (by rfl) (fun _ _ => rfl) hHeld ?_
      simp only [Act.put, List.setIfInBounds_toArray, List.set_cons_zero, List.set_cons_succ]
      refine takeTo 6 (some 31) (.pointer (some ⟨q, 4, none⟩)) rfl rfl (by kernel_rfl) (by kernel_rfl) (by kernel_rfl) (fun _ _ _ h => h) (by rfl) (fun _ _ => rfl) hHeld ?_
      simp only [Act.put, List.setIfInBounds_toArray, List.set_cons_zero, List.set_cons_succ]
      refine takeTo 7 (some 32) (.bool s.dead) rfl rfl (by kernel_rfl) (by kernel_rfl) (by kernel_rfl) (fun _ _ _ h => h) (by rfl) (fun wz hz => run_load_bo _ rfl _ rfl _ wz hz.2) hHeld ?_
      simp only [Act.put, List.setIfInBounds_toArray, List.set_cons_zero, List.set_cons_succ]
      refine takeTo 8 (some 33) (.agg (rdcells s.n nilS nilS nilS s.dead 0)) rfl rfl (by kernel_rfl) (by kernel_rfl) (by kernel_rfl) (fun _ _ _ h => h) (by rfl) (fun _ _ => by kernel_rfl) hHeld ?_
      simp only [Act.put, List.setIfInBounds_toArray, List.set_cons_zero, List.set_cons_succ]
      have h := HR.out
      have hqlt := h.has.lt
      have hb1 : Below w.heap.size w (w.drew.alloc (.cells (rdcells s.n nilS nilS nilS s.dead 0) 32)) := ((Below.refl _ w).drew).alloc (Nat.le_refl _) _
      have hHeld1 : (w.drew.alloc (.cells (rdcells s.n nilS nilS nilS s.dead 0) 32)).cell? ⟨q, 0, none⟩ = some (.int .i64 (s.n : Nat)) ∧ (w.drew.alloc (.cells (rdcells s.n nilS nilS nilS s.dead 0) 32)).cell? ⟨q, 4, none⟩ = some (.bool s.dead) := ⟨(hb1.cell (p := ⟨q, 0, none⟩) hqlt).trans h0, (hb1.cell (p := ⟨q, 4, none⟩) hqlt).trans h4⟩
      refine ready1 9 (by kernel_rfl) (stepVal (some 34) (.pointer (some ⟨w.drew.heap.size, 0, none⟩)) (w.drew.alloc (.cells (rdcells s.n nilS nilS nilS s.dead 0) 32)) rfl rfl (by rfl) (by kernel_rfl) ⟨hHeld1, ?_⟩)
      simp only [Act.put, List.setIfInBounds_toArray, List.set_cons_zero, List.set_cons_succ]
      obtain ⟨q', hq'⟩ : ∃ q', q' = w.heap.size := ⟨_, rfl⟩
      have hH1 : Has (w.drew.alloc (.cells (rdcells s.n nilS nilS nilS s.dead 0) 32)) q' 32 (rdcells s.n nilS nilS nilS s.dead 0) := Has.new_at hq'
      obtain ⟨w1, hw1⟩ : ∃ w1, w1 = w.drew.alloc (.cells (rdcells s.n nilS nilS nilS s.dead 0) 32) := ⟨_, rfl⟩
      rw [← hw1] at hb1 hHeld1 hH1 ⊢
      rw [show w.drew.heap.size = q' from hq'.symm]
      clear hw1
      have hHeld := hHeld1
      refine takeTo 10 (some 9) (ptr q') rfl rfl (by kernel_rfl) (by kernel_rfl) (by kernel_rfl) (fun _ _ _ h => h) (by rfl) (fun _ _ => rfl) hHeld ?_
      simp only [Act.put, List.setIfInBounds_toArray, List.set_cons_zero, List.set_cons_succ]
      refine wpAnyH_done (by kernel_rfl) ?_ _
      have hq1 : w.heap.size ≤ q' := by omega
      have hqq : q ≠ q' := by omega
      clear hq'
      have hR1 := h.below hb1
      have hR1d : RefAt w1.drew q s m Fl Ll sp vF vL vS := hR1.kept (fun _ _ => rfl)
      obtain ⟨v8, w8, hr8, hown8, hb8⟩ := app_all Try.underlying29 info_r rfl (by decide) (by decide) hR1d.fr (fun u hu => by obtain ⟨r, _, hr⟩ := List.mem_flatMap.1 hu; exact rcell_one r u hr) (by omega) 29 (app_nil_r _ _)
      obtain ⟨a8, c8, rfl, _⟩ := own_slice (own_zero hown8)
      have hb18 : Below w1.heap.size w1 w8 := (Below.refl _ w1).drew.trans hb8
      have e1 : w1.cell? ⟨q', 1, none⟩ = some nilS := hH1.cell 1
      have e2 : w1.cell? ⟨q, 1, none⟩ = some vF := hR1.cell 1
      go_wp2
      refine lastTo (S := fun wz => wz.cell? ⟨q', 1, none⟩ = some nilS ∧ wz.cell? ⟨q, 1, none⟩ = some vF) 12 (by kernel_rfl) ⟨e1, e2⟩ (fun hHeld => ?_)
      refine takeL 0 (some 35) (ptr q') rfl rfl (by decide) (by kernel_rfl) (by kernel_rfl) (by kernel_rfl) (by kernel_rfl) (fun _ _ _ h => h) (by rfl) (fun _ _ => rfl) hHeld ?_
      simp only [Act.put, List.setIfInBounds_toArray, List.set_cons_zero, List.set_cons_succ]
      refine takeL 1 (some 36) (ptr q') rfl rfl (by decide) (by kernel_rfl) (by kernel_rfl) (by kernel_rfl) (by kernel_rfl) (fun _ _ _ h => h) (by rfl) (fun _ _ => rfl) hHeld ?_
      simp only [Act.put, List.setIfInBounds_toArray, List.set_cons_zero, List.set_cons_succ]
      refine takeL 2 (some 37) (.pointer (some ⟨q', 0, none⟩)) rfl rfl (by decide) (by kernel_rfl) (by kernel_rfl) (by kernel_rfl) (by kernel_rfl) (fun _ _ _ h => h) (by rfl) (fun _ _ => rfl) hHeld ?_
      simp only [Act.put, List.setIfInBounds_toArray, List.set_cons_zero, List.set_cons_succ]
      refine takeL 3 (some 38) (.pointer (some ⟨q', 1, none⟩)) rfl rfl (by decide) (by kernel_rfl) (by kernel_rfl) (by kernel_rfl) (by kernel_rfl) (fun _ _ _ h => h) (by rfl) (fun _ _ => rfl) hHeld ?_
      simp only [Act.put, List.setIfInBounds_toArray, List.set_cons_zero, List.set_cons_succ]
      refine takeL 4 (some 39) (nilS) rfl rfl (by decide) (by kernel_rfl) (by kernel_rfl) (by kernel_rfl) (by kernel_rfl) (fun _ _ _ h => h) (by rfl) (fun wz hz => run_load_rs _ rfl _ rfl _ wz hz.1) hHeld ?_
      simp only [Act.put, List.setIfInBounds_toArray, List.set_cons_zero, List.set_cons_succ]
      refine takeL 5 (some 40) (ptr q) rfl rfl (by decide) (by kernel_rfl) (by kernel_rfl) (by kernel_rfl) (by kernel_rfl) (fun _ _ _ h => h) (by rfl) (fun _ _ => rfl) hHeld ?_
      simp only [Act.put, List.setIfInBounds_toArray, List.set_cons_zero, List.set_cons_succ]
      refine takeL 6 (some 41) (.pointer (some ⟨q, 0, none⟩)) rfl rfl (by decide) (by kernel_rfl) (by kernel_rfl) (by kernel_rfl) (by kernel_rfl) (fun _ _ _ h => h) (by rfl) (fun _ _ => rfl) hHeld ?_
      simp only [Act.put, List.setIfInBounds_toArray, List.set_cons_zero, List.set_cons_succ]
      refine takeL 7 (some 42) (.pointer (some ⟨q, 1, none⟩)) rfl rfl (by decide) (by kernel_rfl) (by kernel_rfl) (by kernel_rfl) (by kernel_rfl) (fun _ _ _ h => h) (by rfl) (fun _ _ => rfl) hHeld ?_
      simp only [Act.put, List.setIfInBounds_toArray, List.set_cons_zero, List.set_cons_succ]
      refine takeL 8 (some 43) (vF) rfl rfl (by decide) (by kernel_rfl) (by kernel_rfl) (by kernel_rfl) (by kernel_rfl) (fun _ _ _ h => h) (by rfl) (fun wz hz => run_load_rs _ rfl _ rfl _ wz hz.2) hHeld ?_
      simp only [Act.put, List.setIfInBounds_toArray, List.set_cons_zero, List.set_cons_succ]
      have hHeld8 : w8.cell? ⟨q', 1, none⟩ = some nilS ∧ w8.cell? ⟨q, 1, none⟩ = some vF := ⟨(hb18.cell (p := ⟨q', 1, none⟩) hH1.lt).trans e1, (hb18.cell (p := ⟨q, 1, none⟩) hR1.has.lt).trans e2⟩
      refine valL 9 (some 44) (.slice a8 Fl.length c8) w8 (by kernel_rfl) rfl rfl (by rfl) (run_app 29 _ _ rfl nilS vF rfl rfl _ 29 rfl hr8) hHeld8 ?_
      simp only [Act.put, List.setIfInBounds_toArray, List.set_cons_zero, List.set_cons_succ]
      refine valL 10 (some 45) (.pointer (some ⟨q', 0, none⟩)) w8 (by kernel_rfl) rfl rfl (by rfl) (by kernel_rfl) hHeld8 ?_
      simp only [Act.put, List.setIfInBounds_toArray, List.set_cons_zero, List.set_cons_succ]
      refine valL 11 (some 46) (.pointer (some ⟨q', 1, none⟩)) w8 (by kernel_rfl) rfl rfl (by rfl) (by kernel_rfl) hHeld8 ?_
      simp only [Act.put, List.setIfInBounds_toArray, List.set_cons_zero, List.set_cons_succ]
      have hH8 : Has w8 q' 32 (rdcells s.n nilS nilS nilS s.dead 0) := hH1.below hb18 hH1.lt
      refine lastSkip 12 none (w8.setCell ⟨q', 1, none⟩ (.slice a8 Fl.length c8)) (by kernel_rfl) rfl rfl (by rfl) (run_store_rs _ _ rfl ⟨q', 1, none⟩ rfl _ _ _ rfl w8 _ hHeld8.1 (hH8.free 1)) (by kernel_rfl) ?_
      simp only [Act.put]
      have hO9 := only_setCell w8 q' 1 (.slice a8 Fl.length c8)
      have hH9 := hH8.setV 1 (.slice a8 Fl.length c8)
      have hown9 : (w8.setCell ⟨q', 1, none⟩ (.slice a8 Fl.length c8)).ownsRow w1.heap.size 78 5 (.slice a8 Fl.length c8) Fl.length (Fl.flatMap rcell) := own_keptB hown8 (fun g hg => hO9.block g (hown8.lt g hg).2 (fun e => by obtain ⟨cur, hcur⟩ := own_block (own_zero hown8) hg; exact cells_ne hcur hH8 (by decide) e))
      obtain ⟨w9, hw9⟩ : ∃ w9, w9 = w8.setCell ⟨q', 1, none⟩ (.slice a8 Fl.length c8) := ⟨_, rfl⟩
      rw [← hw9] at hO9 hH9 hown9 ⊢
      clear hw9
      have hbw8 : Below w.heap.size w w8 := hb1.trans (hb18.mono hb1.size)
      have hbw9 : Below w.heap.size w w9 := hbw8.trans (hO9.below (fun k hk => by rw [hk]; exact hq1) hbw8.size)
      have hR9 := h.below hbw9
      have hR9d : RefAt w9.drew q s m Fl Ll sp vF vL vS := hR9.kept (fun _ _ => rfl)
      obtain ⟨v10, w10, hr10, hown10, hb10⟩ := app_all Try.underlying30 info_i rfl (by decide) (by decide) hR9d.sr (fun u hu => by obtain ⟨r, _, hr⟩ := List.mem_flatMap.1 hu; simp [icell] at hr; rw [hr]; rfl) (by omega) 30 (app_nil_i _ _)
      obtain ⟨a10, c10, rfl, _⟩ := own_slice (own_zero hown10)
      have hb910 : Below w9.heap.size w9 w10 := (Below.refl _ w9).drew.trans hb10
      have e3 : w9.cell? ⟨q', 3, none⟩ = some nilS := hH9.cell 3
      have e4 : w9.cell? ⟨q, 3, none⟩ = some vS := hR9.cell 3
      clear hr8 e1 e2
      go_wp2
      refine lastTo (S := fun wz => wz.cell? ⟨q', 3, none⟩ = some nilS ∧ wz.cell? ⟨q, 3, none⟩ = some vS) 12 (by kernel_rfl) ⟨e3, e4⟩ (fun hHeld => ?_)
      refine takeL 0 (some 47) (ptr q') rfl rfl (by decide) (by kernel_rfl) (by kernel_rfl) (by kernel_rfl) (by kernel_rfl) (fun _ _ _ h => h) (by rfl) (fun _ _ => rfl) hHeld ?_
      simp only [Act.put, List.setIfInBounds_toArray, List.set_cons_zero, List.set_cons_succ]
      refine takeL 1 (some 48) (ptr q') rfl rfl (by decide) (by kernel_rfl) (by kernel_rfl) (by kernel_rfl) (by kernel_rfl) (fun _ _ _ h => h) (by rfl) (fun _ _ => rfl) hHeld ?_
      simp only [Act.put, List.setIfInBounds_toArray, List.set_cons_zero, List.set_cons_succ]
      refine takeL 2 (some 49) (.pointer (some ⟨q', 0, none⟩)) rfl rfl (by decide) (by kernel_rfl) (by kernel_rfl) (by kernel_rfl) (by kernel_rfl) (fun _ _ _ h => h) (by rfl) (fun _ _ => rfl) hHeld ?_
      simp only [Act.put, List.setIfInBounds_toArray, List.set_cons_zero, List.set_cons_succ]
      refine takeL 3 (some 50) (.pointer (some ⟨q', 3, none⟩)) rfl rfl (by decide) (by kernel_rfl) (by kernel_rfl) (by kernel_rfl) (by kernel_rfl) (fun _ _ _ h => h) (by rfl) (fun _ _ => rfl) hHeld ?_
      simp only [Act.put, List.setIfInBounds_toArray, List.set_cons_zero, List.set_cons_succ]
      refine takeL 4 (some 51) (nilS) rfl rfl (by decide) (by kernel_rfl) (by kernel_rfl) (by kernel_rfl) (by kernel_rfl) (fun _ _ _ h => h) (by rfl) (fun wz hz => run_load_is _ rfl _ rfl _ wz hz.1) hHeld ?_
      simp only [Act.put, List.setIfInBounds_toArray, List.set_cons_zero, List.set_cons_succ]
      refine takeL 5 (some 52) (ptr q) rfl rfl (by decide) (by kernel_rfl) (by kernel_rfl) (by kernel_rfl) (by kernel_rfl) (fun _ _ _ h => h) (by rfl) (fun _ _ => rfl) hHeld ?_
      simp only [Act.put, List.setIfInBounds_toArray, List.set_cons_zero, List.set_cons_succ]
      refine takeL 6 (some 53) (.pointer (some ⟨q, 0, none⟩)) rfl rfl (by decide) (by kernel_rfl) (by kernel_rfl) (by kernel_rfl) (by kernel_rfl) (fun _ _ _ h => h) (by rfl) (fun _ _ => rfl) hHeld ?_
      simp only [Act.put, List.setIfInBounds_toArray, List.set_cons_zero, List.set_cons_succ]
      refine takeL 7 (some 54) (.pointer (some ⟨q, 3, none⟩)) rfl rfl (by decide) (by kernel_rfl) (by kernel_rfl) (by kernel_rfl) (by kernel_rfl) (fun _ _ _ h => h) (by rfl) (fun _ _ => rfl) hHeld ?_
      simp only [Act.put, List.setIfInBounds_toArray, List.set_cons_zero, List.set_cons_succ]
      refine takeL 8 (some 55) (vS) rfl rfl (by decide) (by kernel_rfl) (by kernel_rfl) (by kernel_rfl) (by kernel_rfl) (fun _ _ _ h => h) (by rfl) (fun wz hz => run_load_is _ rfl _ rfl _ wz hz.2) hHeld ?_
      simp only [Act.put, List.setIfInBounds_toArray, List.set_cons_zero, List.set_cons_succ]
      have hHeld10 : w10.cell? ⟨q', 3, none⟩ = some nilS ∧ w10.cell? ⟨q, 3, none⟩ = some vS := ⟨(hb910.cell (p := ⟨q', 3, none⟩) hH9.lt).trans e3, (hb910.cell (p := ⟨q, 3, none⟩) hR9.has.lt).trans e4⟩
      refine valL 9 (some 56) (.slice a10 sp.length c10) w10 (by kernel_rfl) rfl rfl (by rfl) (run_app 30 _ _ rfl nilS vS rfl rfl _ 30 rfl hr10) hHeld10 ?_
      simp only [Act.put, List.setIfInBounds_toArray, List.set_cons_zero, List.set_cons_succ]
      refine valL 10 (some 57) (.pointer (some ⟨q', 0, none⟩)) w10 (by kernel_rfl) rfl rfl (by rfl) (by kernel_rfl) hHeld10 ?_
      simp only [Act.put, List.setIfInBounds_toArray, List.set_cons_zero, List.set_cons_succ]
      refine valL 11 (some 58) (.pointer (some ⟨q', 3, none⟩)) w10 (by kernel_rfl) rfl rfl (by rfl) (by kernel_rfl) hHeld10 ?_
      simp only [Act.put, List.setIfInBounds_toArray, List.set_cons_zero, List.set_cons_succ]
      have hH10 : Has w10 q' 32 (rdcells s.n (.slice a8 Fl.length c8) nilS nilS s.dead 0) := hH9.below hb910 hH9.lt
      refine lastSkip 12 none (w10.setCell ⟨q', 3, none⟩ (.slice a10 sp.length c10)) (by kernel_rfl) rfl rfl (by rfl) (run_store_is _ _ rfl ⟨q', 3, none⟩ rfl _ _ _ rfl w10 _ hHeld10.1 (hH10.free 3)) (by kernel_rfl) ?_
      simp only [Act.put]
      have hO11 := only_setCell w10 q' 3 (.slice a10 sp.length c10)
      have hown10F : w10.ownsRow w1.heap.size 78 5 (.slice a8 Fl.length c8) Fl.length (Fl.flatMap rcell) := own_keptB hown9 (fun g hg => hb910.block g (hown9.lt g hg).2)
      have hOut : OutAt w (w10.setCell ⟨q', 3, none⟩ (.slice a10 sp.length c10)) q' s.n s.dead Fl sp (.slice a8 Fl.length c8) (.slice a10 sp.length c10) := by
        have lift : ∀ {B B' e size n : Nat} {v : Value} {xs : List Value} {W : World}, W.ownsRow B e size v n xs → B' ≤ B → W.ownsRow B' e size v n xs := fun h hB => ⟨h.1, h.2.imp id (fun ⟨g, cap, cur, hv, h1, r⟩ => ⟨g, cap, cur, hv, Nat.le_trans hB h1, r⟩)⟩
        have hbw10 : Below w.heap.size w w10 := hbw9.trans (hb910.mono hbw9.size)
        refine ⟨hH10.setV 3 _, ?_, ?_, hbw10.trans (hO11.below (fun k hk => by rw [hk]; exact hq1) hbw10.size), hq1⟩
        · exact lift (own_keptB hown10F (fun g hg => hO11.block g (hown10F.lt g hg).2 (fun e => by obtain ⟨cur, hcur⟩ := own_block (own_zero hown10F) hg; exact cells_ne hcur hH10 (by decide) e))) hb1.size
        · exact lift (own_keptB hown10 (fun g hg => hO11.block g (hown10.lt g hg).2 (fun e => by obtain ⟨cur, hcur⟩ := own_block (own_zero hown10) hg; exact cells_ne hcur hH10 (by decide) e))) hbw9.size
      obtain ⟨w11, hw11⟩ : ∃ w11, w11 = w10.setCell ⟨q', 3, none⟩ (.slice a10 sp.length c10) := ⟨_, rfl⟩
      rw [← hw11] at hOut ⊢
      clear hw11 hO11 hH10 hown10F hown10 hr10 hb910 e3 e4 hO9 hH9 hown9 hR9 hR9d hbw8 hbw9 hb18 hH8 hown8 hb8 hR1d hR1 hH1 hHeld1 hb1 hb10
      obtain ⟨vS', hvS'⟩ : ∃ vS' : Value, vS' = .slice a10 sp.length c10 := ⟨_, rfl⟩
      rw [← hvS'] at hOut
      clear hvS'
      go_wp2
      go_loopw [10, 11] (fun kv iv wr => ∃ (i k2 : Nat) (Fk : List RW) (af : Option Addr) (cf : Nat), i ≤ k ∧ k2 ≤ i ∧ iv = .int .i64 (i : Nat) ∧ kv = .int .i64 (k2 : Nat) ∧ OutAt w wr q' s.n s.dead Fk sp (.slice af Fk.length cf) vS' ∧ Fk.length ≤ Fl.length + i ∧ (∀ r ∈ Fk, r ∈ Fl ∨ (r ∈ l ∧ r.e.sync = false)) ∧ Hid ((rl (keepOf kf L) A i k2 ((l.map (·.e)).drop i)).foldl upF ((Fk.map (·.e)).foldl upF (fun _ _ => 0)) = FIN))
        (fun _ iv _ => k - (intOf iv).toNat)
      case atStart =>
        refine ⟨0, 0, Fl, a8, c8, Nat.zero_le _, Nat.le_refl _, rfl, rfl, hOut, Nat.le_refl _, fun r hr => .inl hr, ?_⟩
        show _ = _
        rw [HA.out, List.drop_zero, ← HFIN.out]
      case round =>
        obtain ⟨i, k2, Fk, af, cf, hi, hk2, rfl, rfl, hO, hFl, hmem, hst⟩ := hrel
        have i1 : (0 : Int) ≤ (i : Int) := by omega
        by_cases hlt : i < k
        · obtain ⟨x, r, rfl, hxlt, hrk, hc⟩ := HRow.out.2 i hlt
          have hcr : ∀ wz, Below w.heap.size w wz → ∀ j u, (rcell r)[j]? = some u → wz.cell? ⟨x, i * 5 + j, none⟩ = some u := fun wz hz j u hu => (hz.cell (p := ⟨x, i * 5 + j, none⟩) hxlt).trans (hc j u hu)
          have c2 : wr.cell? ⟨x, i * 5 + 2, none⟩ = some (.bool r.e.sync) := hcr wr hO.bel 2 _ rfl
          have c3 : wr.cell? ⟨x, i * 5 + 3, none⟩ = some (.bool r.e.sure) := hcr wr hO.bel 3 _ rfl
          have i0 : (i : Int) < (k : Int) := by omega
          have hrl := rl_step (keepOf kf L) A i k2 (l.map (·.e)) r.e (by rw [List.getElem?_map, hrk]; rfl)
          have hrm : r ∈ l := List.mem_of_getElem? hrk
          have HRL : Hid (rl (keepOf kf L) A i k2 ((l.map (·.e)).drop i) = if r.e.sync then rl (keepOf kf L) A (i + 1) k2 ((l.map (·.e)).drop (i + 1)) else if r.e.sure || decide (i < A) then r.e :: rl (keepOf kf L) A (i + 1) k2 ((l.map (·.e)).drop (i + 1)) else (if keepOf kf L k2 then [r.e] else []) ++ rl (keepOf kf L) A (i + 1) (k2 + 1) ((l.map (·.e)).drop (i + 1))) := hrl
          clear hrl hc
          cases hsy : r.e.sync
          · rw [hsy] at c2
            by_cases hiA : i < A
            · have hiA1 : ¬ (A : Int) ≤ (i : Int) := by omega
              have hiA2 : ¬ A ≤ i := by omega
              obtain ⟨g7, cap7, w7, hr7, hO7, hH7, hOut7⟩ := hO.add r (by omega)
              have e1 : wr.cell? ⟨q', 1, none⟩ = some (.slice af Fk.length cf) := hO.has.cell 1
              have held : ∀ wz, Only (fun k => (Value.slice af Fk.length cf).ownBlock = some k) wr wz → wz.cell? ⟨q', 1, none⟩ = some (.slice af Fk.length cf) ∧ Below w.heap.size w wz := fun wz hz => ⟨(hz.cell hO.has.lt hO.fr_q).trans e1, hO.bel.trans (hz.below (fun k hk => (hO.fr.lt k hk).1) hO.bel.size)⟩
              go_wp2
              refine lastTo (S := fun wz => wz.cell? ⟨q', 1, none⟩ = some (.slice af Fk.length cf) ∧ Below w.heap.size w wz) 13 (by kernel_rfl) ⟨e1, hO.bel.drew⟩ (fun hHeld => ?_)
              refine takeL 0 (some 95) (ptr q') rfl rfl (by decide) (by kernel_rfl) (by kernel_rfl) (by kernel_rfl) (by kernel_rfl) (fun _ _ _ h => h) (by rfl) (fun _ _ => rfl) hHeld ?_
              simp only [Act.put, List.setIfInBounds_toArray, List.set_cons_zero, List.set_cons_succ]
              refine takeL 1 (some 96) (ptr q') rfl rfl (by decide) (by kernel_rfl) (by kernel_rfl) (by kernel_rfl) (by kernel_rfl) (fun _ _ _ h => h) (by rfl) (fun _ _ => rfl) hHeld ?_
              simp only [Act.put, List.setIfInBounds_toArray, List.set_cons_zero, List.set_cons_succ]
              refine takeL 2 (some 97) (.pointer (some ⟨q', 0, none⟩)) rfl rfl (by decide) (by kernel_rfl) (by kernel_rfl) (by kernel_rfl) (by kernel_rfl) (fun _ _ _ h => h) (by rfl) (fun _ _ => rfl) hHeld ?_
              simp only [Act.put, List.setIfInBounds_toArray, List.set_cons_zero, List.set_cons_succ]
              refine takeL 3 (some 98) (.pointer (some ⟨q', 1, none⟩)) rfl rfl (by decide) (by kernel_rfl) (by kernel_rfl) (by kernel_rfl) (by kernel_rfl) (fun _ _ _ h => h) (by rfl) (fun _ _ => rfl) hHeld ?_
              simp only [Act.put, List.setIfInBounds_toArray, List.set_cons_zero, List.set_cons_succ]
              refine takeL 4 (some 99) (.slice af Fk.length cf) rfl rfl (by decide) (by kernel_rfl) (by kernel_rfl) (by kernel_rfl) (by kernel_rfl) (fun _ _ _ h => h) (by rfl) (fun wz hz => run_load_rs _ rfl _ rfl _ wz hz.1) hHeld ?_
              simp only [Act.put, List.setIfInBounds_toArray, List.set_cons_zero, List.set_cons_succ]
              refine takeL 5 (some 100) (.slice (some ⟨x, 0, none⟩) k cl) rfl rfl (by decide) (by kernel_rfl) (by kernel_rfl) (by kernel_rfl) (by kernel_rfl) (fun _ _ _ h => h) (by rfl) (fun _ _ => rfl) hHeld ?_
              simp only [Act.put, List.setIfInBounds_toArray, List.set_cons_zero, List.set_cons_succ]
              refine takeL 6 (some 101) (.int .i64 (i : Nat)) rfl rfl (by decide) (by kernel_rfl) (by kernel_rfl) (by kernel_rfl) (by kernel_rfl) (fun _ _ _ h => h) (by rfl) (fun _ _ => rfl) hHeld ?_
              simp only [Act.put, List.setIfInBounds_toArray, List.set_cons_zero, List.set_cons_succ]
              refine takeL 7 (some 102) (.pointer (some ⟨x, 0 + i * 5, none⟩)) rfl rfl (by decide) (by kernel_rfl) (by kernel_rfl) (by kernel_rfl) (by kernel_rfl) (fun _ _ _ h => h) (by rfl) (fun wz _ => run_at_rw _ _ rfl x 0 i k cl rfl rfl hlt wz) hHeld ?_
              simp only [Act.put, List.setIfInBounds_toArray, List.set_cons_zero, List.set_cons_succ]
              refine takeL 8 (some 103) (.agg (rcell r).toArray) rfl rfl (by decide) (by kernel_rfl) (by kernel_rfl) (by kernel_rfl) (by kernel_rfl) (fun _ _ _ h => h) (by rfl) (fun wz hz => run_load_rw _ rfl x (0 + i * 5) rfl r wz (fun j u hu => by rw [Nat.zero_add]; exact hcr wz hz.2 j u hu)) hHeld ?_
              simp only [Act.put, List.setIfInBounds_toArray, List.set_cons_zero, List.set_cons_succ]
              have hHeld8 := held (wr.drew.alloc (.cells (rcell r).toArray 78)) (Only.of_below (((Below.refl _ wr).drew).alloc (Nat.le_refl _) _) (Nat.le_refl _))
              refine valL 9 (some 104) (.slice (some ⟨wr.drew.heap.size, 0, none⟩) 1 1) (wr.drew.alloc (.cells (rcell r).toArray 78)) (by kernel_rfl) rfl rfl (by rfl) (run_bs_r _ rfl r rfl wr.drew) hHeld8 ?_
              simp only [Act.put, List.setIfInBounds_toArray, List.set_cons_zero, List.set_cons_succ]
              have hHeld9 := held w7 hO7
              refine valL 10 (some 105) (.slice (some ⟨g7, 0, none⟩) (Fk.length + 1) cap7) w7 (by kernel_rfl) rfl rfl (by rfl) (run_app 29 _ _ rfl (.slice af Fk.length cf) (.slice (some ⟨wr.drew.heap.size, 0, none⟩) 1 1) rfl rfl _ 29 rfl hr7) hHeld9 ?_
              simp only [Act.put, List.setIfInBounds_toArray, List.set_cons_zero, List.set_cons_succ]
              refine valL 11 (some 106) (.pointer (some ⟨q', 0, none⟩)) w7 (by kernel_rfl) rfl rfl (by rfl) (by kernel_rfl) hHeld9 ?_
              simp only [Act.put, List.setIfInBounds_toArray, List.set_cons_zero, List.set_cons_succ]
              refine valL 12 (some 107) (.pointer (some ⟨q', 1, none⟩)) w7 (by kernel_rfl) rfl rfl (by rfl) (by kernel_rfl) hHeld9 ?_
              simp only [Act.put, List.setIfInBounds_toArray, List.set_cons_zero, List.set_cons_succ]
              refine lastSkip 13 none (w7.setCell ⟨q', 1, none⟩ (.slice (some ⟨g7, 0, none⟩) (Fk.length + 1) cap7)) (by kernel_rfl) rfl rfl (by rfl) (run_store_rs _ _ rfl ⟨q', 1, none⟩ rfl _ _ _ rfl w7 _ hHeld9.1 (hH7.free 1)) (by kernel_rfl) ?_
              simp only [Act.put]
              obtain ⟨w8, hw8⟩ : ∃ w8, w8 = w7.setCell ⟨q', 1, none⟩ (.slice (some ⟨g7, 0, none⟩) (Fk.length + 1) cap7) := ⟨_, rfl⟩
              rw [← hw8] at hOut7 ⊢
              clear hw8 hr7
              go_wp2
              go_roundw
              case rel =>
                refine ⟨i + 1, k2, Fk ++ [r], some ⟨g7, 0, none⟩, cap7, by omega, by omega, by go_num, by rfl, by rw [List.length_append]; exact hOut7, by rw [List.length_append]; simp; omega, fun r' hr' => ?_, ?_⟩
                · rcases List.mem_append.1 hr' with h1 | h1
                  · exact hmem r' h1
                  · rw [List.mem_singleton] at h1
                    rw [h1]
                    exact .inr ⟨hrm, hsy⟩
                · show _ = _
                  rw [← hst.out, HRL.out, hsy, decide_eq_true hiA, Bool.or_true, if_neg (by simp), if_pos rfl]
                  simp [List.foldl_append]
              case measure => simp [intOf]; omega
            · have hiA1 : (A : Int) ≤ (i : Int) := by omega
              have hiA2 : A ≤ i := by omega
              cases hsu : r.e.sure
              · rw [hsu] at c3
                by_cases hkL : k2 < L
                · have hkL1 : (k2 : Int) < (L : Int) := by omega
                  have hk0 : (0 : Int) ≤ (k2 : Int) := by omega
                  obtain ⟨xb, xo, rfl, hxbl, hxc⟩ := hkb k2 hkL
                  have ck : wr.cell? ⟨xb, xo + k2, none⟩ = some (.bool (kf k2)) := (hO.bel.cell (p := ⟨xb, xo + k2, none⟩) hxbl).trans (hxc k2 hkL)
                  clear hxc
                  cases hkf : kf k2
                  · rw [hkf] at ck
                    have hkeep : keepOf kf L k2 = false := by unfold keepOf; rw [hkf]; simp
                    go_wp2
                    go_roundw
                    case rel =>
                      refine ⟨i + 1, k2 + 1, Fk, af, cf, by omega, by omega, by go_num, by go_num, hO, by omega, hmem, ?_⟩
                      show _ = _
                      rw [← hst.out, HRL.out, hsy, hsu, decide_eq_false hiA, hkeep, if_neg (by simp), if_neg (by simp), if_neg (by simp)]
                      try simp
                    case measure => simp [intOf]; omega
                  · rw [hkf] at ck
                    have hkeep : keepOf kf L k2 = true := by unfold keepOf; rw [hkf, decide_eq_true hkL]; rfl
                    obtain ⟨g7, cap7, w7, hr7, hO7, hH7, hOut7⟩ := hO.add r (by omega)
                    have e1 : wr.cell? ⟨q', 1, none⟩ = some (.slice af Fk.length cf) := hO.has.cell 1
                    have held : ∀ wz, Only (fun k => (Value.slice af Fk.length cf).ownBlock = some k) wr wz → wz.cell? ⟨q', 1, none⟩ = some (.slice af Fk.length cf) ∧ Below w.heap.size w wz := fun wz hz => ⟨(hz.cell hO.has.lt hO.fr_q).trans e1, hO.bel.trans (hz.below (fun k hk => (hO.fr.lt k hk).1) hO.bel.size)⟩
                    go_wp2
                    refine lastTo (S := fun wz => wz.cell? ⟨q', 1, none⟩ = some (.slice af Fk.length cf) ∧ Below w.heap.size w wz) 13 (by kernel_rfl) ⟨e1, hO.bel.drew⟩ (fun hHeld => ?_)
                    refine takeL 0 (some 95) (ptr q') rfl rfl (by decide) (by kernel_rfl) (by kernel_rfl) (by kernel_rfl) (by kernel_rfl) (fun _ _ _ h => h) (by rfl) (fun _ _ => rfl) hHeld ?_
                    simp only [Act.put, List.setIfInBounds_toArray, List.set_cons_zero, List.set_cons_succ]
                    refine takeL 1 (some 96) (ptr q') rfl rfl (by decide) (by kernel_rfl) (by kernel_rfl) (by kernel_rfl) (by kernel_rfl) (fun _ _ _ h => h) (by rfl) (fun _ _ => rfl) hHeld ?_
                    simp only [Act.put, List.setIfInBounds_toArray, List.set_cons_zero, List.set_cons_succ]
                    refine takeL 2 (some 97) (.pointer (some ⟨q', 0, none⟩)) rfl rfl (by decide) (by kernel_rfl) (by kernel_rfl) (by kernel_rfl) (by kernel_rfl) (fun _ _ _ h => h) (by rfl) (fun _ _ => rfl) hHeld ?_
                    simp only [Act.put, List.setIfInBounds_toArray, List.set_cons_zero, List.set_cons_succ]
                    refine takeL 3 (some 98) (.pointer (some ⟨q', 1, none⟩)) rfl rfl (by decide) (by kernel_rfl) (by kernel_rfl) (by kernel_rfl) (by kernel_rfl) (fun _ _ _ h => h) (by rfl) (fun _ _ => rfl) hHeld ?_
                    simp only [Act.put, List.setIfInBounds_toArray, List.set_cons_zero, List.set_cons_succ]
                    refine takeL 4 (some 99) (.slice af Fk.length cf) rfl rfl (by decide) (by kernel_rfl) (by kernel_rfl) (by kernel_rfl) (by kernel_rfl) (fun _ _ _ h => h) (by rfl) (fun wz hz => run_load_rs _ rfl _ rfl _ wz hz.1) hHeld ?_
                    simp only [Act.put, List.setIfInBounds_toArray, List.set_cons_zero, List.set_cons_succ]
                    refine takeL 5 (some 100) (.slice (some ⟨x, 0, none⟩) k cl) rfl rfl (by decide) (by kernel_rfl) (by kernel_rfl) (by kernel_rfl) (by kernel_rfl) (fun _ _ _ h => h) (by rfl) (fun _ _ => rfl) hHeld ?_
                    simp only [Act.put, List.setIfInBounds_toArray, List.set_cons_zero, List.set_cons_succ]
                    refine takeL 6 (some 101) (.int .i64 (i : Nat)) rfl rfl (by decide) (by kernel_rfl) (by kernel_rfl) (by kernel_rfl) (by kernel_rfl) (fun _ _ _ h => h) (by rfl) (fun _ _ => rfl) hHeld ?_
                    simp only [Act.put, List.setIfInBounds_toArray, List.set_cons_zero, List.set_cons_succ]
                    refine takeL 7 (some 102) (.pointer (some ⟨x, 0 + i * 5, none⟩)) rfl rfl (by decide) (by kernel_rfl) (by kernel_rfl) (by kernel_rfl) (by kernel_rfl) (fun _ _ _ h => h) (by rfl) (fun wz _ => run_at_rw _ _ rfl x 0 i k cl rfl rfl hlt wz) hHeld ?_
                    simp only [Act.put, List.setIfInBounds_toArray, List.set_cons_zero, List.set_cons_succ]
                    refine takeL 8 (some 103) (.agg (rcell r).toArray) rfl rfl (by decide) (by kernel_rfl) (by kernel_rfl) (by kernel_rfl) (by kernel_rfl) (fun _ _ _ h => h) (by rfl) (fun wz hz => run_load_rw _ rfl x (0 + i * 5) rfl r wz (fun j u hu => by rw [Nat.zero_add]; exact hcr wz hz.2 j u hu)) hHeld ?_
                    simp only [Act.put, List.setIfInBounds_toArray, List.set_cons_zero, List.set_cons_succ]
                    have hHeld8 := held (wr.drew.alloc (.cells (rcell r).toArray 78)) (Only.of_below (((Below.refl _ wr).drew).alloc (Nat.le_refl _) _) (Nat.le_refl _))
                    refine valL 9 (some 104) (.slice (some ⟨wr.drew.heap.size, 0, none⟩) 1 1) (wr.drew.alloc (.cells (rcell r).toArray 78)) (by kernel_rfl) rfl rfl (by rfl) (run_bs_r _ rfl r rfl wr.drew) hHeld8 ?_
                    simp only [Act.put, List.setIfInBounds_toArray, List.set_cons_zero, List.set_cons_succ]
                    have hHeld9 := held w7 hO7
                    refine valL 10 (some 105) (.slice (some ⟨g7, 0, none⟩) (Fk.length + 1) cap7) w7 (by kernel_rfl) rfl rfl (by rfl) (run_app 29 _ _ rfl (.slice af Fk.length cf) (.slice (some ⟨wr.drew.heap.size, 0, none⟩) 1 1) rfl rfl _ 29 rfl hr7) hHeld9 ?_
                    simp only [Act.put, List.setIfInBounds_toArray, List.set_cons_zero, List.set_cons_succ]
                    refine valL 11 (some 106) (.pointer (some ⟨q', 0, none⟩)) w7 (by kernel_rfl) rfl rfl (by rfl) (by kernel_rfl) hHeld9 ?_
                    simp only [Act.put, List.setIfInBounds_toArray, List.set_cons_zero, List.set_cons_succ]
                    refine valL 12 (some 107) (.pointer (some ⟨q', 1, none⟩)) w7 (by kernel_rfl) rfl rfl (by rfl) (by kernel_rfl) hHeld9 ?_
                    simp only [Act.put, List.setIfInBounds_toArray, List.set_cons_zero, List.set_cons_succ]
                    refine lastSkip 13 none (w7.setCell ⟨q', 1, none⟩ (.slice (some ⟨g7, 0, none⟩) (Fk.length + 1) cap7)) (by kernel_rfl) rfl rfl (by rfl) (run_store_rs _ _ rfl ⟨q', 1, none⟩ rfl _ _ _ rfl w7 _ hHeld9.1 (hH7.free 1)) (by kernel_rfl) ?_
                    simp only [Act.put]
                    obtain ⟨w8, hw8⟩ : ∃ w8, w8 = w7.setCell ⟨q', 1, none⟩ (.slice (some ⟨g7, 0, none⟩) (Fk.length + 1) cap7) := ⟨_, rfl⟩
                    rw [← hw8] at hOut7 ⊢
                    clear hw8 hr7
                    go_wp2
                    go_roundw
                    case rel =>
                      refine ⟨i + 1, k2 + 1, Fk ++ [r], some ⟨g7, 0, none⟩, cap7, by omega, by omega, by go_num, by go_num, by rw [List.length_append]; exact hOut7, by rw [List.length_append]; simp; omega, fun r' hr' => ?_, ?_⟩
                      · rcases List.mem_append.1 hr' with h1 | h1
                        · exact hmem r' h1
                        · rw [List.mem_singleton] at h1
                          rw [h1]
                          exact .inr ⟨hrm, hsy⟩
                      · show _ = _
                        rw [← hst.out, HRL.out, hsy, hsu, decide_eq_false hiA, hkeep, if_neg (by simp), if_neg (by simp), if_pos rfl]
                        simp [List.foldl_append]
                    case measure => simp [intOf]; omega
                · have hkL1 : ¬ (k2 : Int) < (L : Int) := by omega
                  have hkeep : keepOf kf L k2 = false := by unfold keepOf; rw [decide_eq_false hkL]; rfl
                  go_wp2
                  go_roundw
                  case rel =>
                    refine ⟨i + 1, k2 + 1, Fk, af, cf, by omega, by omega, by go_num, by go_num, hO, by omega, hmem, ?_⟩
                    show _ = _
                    rw [← hst.out, HRL.out, hsy, hsu, decide_eq_false hiA, hkeep, if_neg (by simp), if_neg (by simp), if_neg (by simp)]
                    try simp
                  case measure => simp [intOf]; omega
              · rw [hsu] at c3
                obtain ⟨g7, cap7, w7, hr7, hO7, hH7, hOut7⟩ := hO.add r (by omega)
                have e1 : wr.cell? ⟨q', 1, none⟩ = some (.slice af Fk.length cf) := hO.has.cell 1
                have held : ∀ wz, Only (fun k => (Value.slice af Fk.length cf).ownBlock = some k) wr wz → wz.cell? ⟨q', 1, none⟩ = some (.slice af Fk.length cf) ∧ Below w.heap.size w wz := fun wz hz => ⟨(hz.cell hO.has.lt hO.fr_q).trans e1, hO.bel.trans (hz.below (fun k hk => (hO.fr.lt k hk).1) hO.bel.size)⟩
                go_wp2
                refine lastTo (S := fun wz => wz.cell? ⟨q', 1, none⟩ = some (.slice af Fk.length cf) ∧ Below w.heap.size w wz) 13 (by kernel_rfl) ⟨e1, hO.bel.drew⟩ (fun hHeld => ?_)
                refine takeL 0 (some 95) (ptr q') rfl rfl (by decide) (by kernel_rfl) (by kernel_rfl) (by kernel_rfl) (by kernel_rfl) (fun _ _ _ h => h) (by rfl) (fun _ _ => rfl) hHeld ?_
                simp only [Act.put, List.setIfInBounds_toArray, List.set_cons_zero, List.set_cons_succ]
                refine takeL 1 (some 96) (ptr q') rfl rfl (by decide) (by kernel_rfl) (by kernel_rfl) (by kernel_rfl) (by kernel_rfl) (fun _ _ _ h => h) (by rfl) (fun _ _ => rfl) hHeld ?_
                simp only [Act.put, List.setIfInBounds_toArray, List.set_cons_zero, List.set_cons_succ]
                refine takeL 2 (some 97) (.pointer (some ⟨q', 0, none⟩)) rfl rfl (by decide) (by kernel_rfl) (by kernel_rfl) (by kernel_rfl) (by kernel_rfl) (fun _ _ _ h => h) (by rfl) (fun _ _ => rfl) hHeld ?_
                simp only [Act.put, List.setIfInBounds_toArray, List.set_cons_zero, List.set_cons_succ]
                refine takeL 3 (some 98) (.pointer (some ⟨q', 1, none⟩)) rfl rfl (by decide) (by kernel_rfl) (by kernel_rfl) (by kernel_rfl) (by kernel_rfl) (fun _ _ _ h => h) (by rfl) (fun _ _ => rfl) hHeld ?_
                simp only [Act.put, List.setIfInBounds_toArray, List.set_cons_zero, List.set_cons_succ]
                refine takeL 4 (some 99) (.slice af Fk.length cf) rfl rfl (by decide) (by kernel_rfl) (by kernel_rfl) (by kernel_rfl) (by kernel_rfl) (fun _ _ _ h => h) (by rfl) (fun wz hz => run_load_rs _ rfl _ rfl _ wz hz.1) hHeld ?_
                simp only [Act.put, List.setIfInBounds_toArray, List.set_cons_zero, List.set_cons_succ]
                refine takeL 5 (some 100) (.slice (some ⟨x, 0, none⟩) k cl) rfl rfl (by decide) (by kernel_rfl) (by kernel_rfl) (by kernel_rfl) (by kernel_rfl) (fun _ _ _ h => h) (by rfl) (fun _ _ => rfl) hHeld ?_
                simp only [Act.put, List.setIfInBounds_toArray, List.set_cons_zero, List.set_cons_succ]
                refine takeL 6 (some 101) (.int .i64 (i : Nat)) rfl rfl (by decide) (by kernel_rfl) (by kernel_rfl) (by kernel_rfl) (by kernel_rfl) (fun _ _ _ h => h) (by rfl) (fun _ _ => rfl) hHeld ?_
                simp only [Act.put, List.setIfInBounds_toArray, List.set_cons_zero, List.set_cons_succ]
                refine takeL 7 (some 102) (.pointer (some ⟨x, 0 + i * 5, none⟩)) rfl rfl (by decide) (by kernel_rfl) (by kernel_rfl) (by kernel_rfl) (by kernel_rfl) (fun _ _ _ h => h) (by rfl) (fun wz _ => run_at_rw _ _ rfl x 0 i k cl rfl rfl hlt wz) hHeld ?_
                simp only [Act.put, List.setIfInBounds_toArray, List.set_cons_zero, List.set_cons_succ]
                refine takeL 8 (some 103) (.agg (rcell r).toArray) rfl rfl (by decide) (by kernel_rfl) (by kernel_rfl) (by kernel_rfl) (by kernel_rfl) (fun _ _ _ h => h) (by rfl) (fun wz hz => run_load_rw _ rfl x (0 + i * 5) rfl r wz (fun j u hu => by rw [Nat.zero_add]; exact hcr wz hz.2 j u hu)) hHeld ?_
                simp only [Act.put, List.setIfInBounds_toArray, List.set_cons_zero, List.set_cons_succ]
                have hHeld8 := held (wr.drew.alloc (.cells (rcell r).toArray 78)) (Only.of_below (((Below.refl _ wr).drew).alloc (Nat.le_refl _) _) (Nat.le_refl _))
                refine valL 9 (some 104) (.slice (some ⟨wr.drew.heap.size, 0, none⟩) 1 1) (wr.drew.alloc (.cells (rcell r).toArray 78)) (by kernel_rfl) rfl rfl (by rfl) (run_bs_r _ rfl r rfl wr.drew) hHeld8 ?_
                simp only [Act.put, List.setIfInBounds_toArray, List.set_cons_zero, List.set_cons_succ]
                have hHeld9 := held w7 hO7
                refine valL 10 (some 105) (.slice (some ⟨g7, 0, none⟩) (Fk.length + 1) cap7) w7 (by kernel_rfl) rfl rfl (by rfl) (run_app 29 _ _ rfl (.slice af Fk.length cf) (.slice (some ⟨wr.drew.heap.size, 0, none⟩) 1 1) rfl rfl _ 29 rfl hr7) hHeld9 ?_
                simp only [Act.put, List.setIfInBounds_toArray, List.set_cons_zero, List.set_cons_succ]
                refine valL 11 (some 106) (.pointer (some ⟨q', 0, none⟩)) w7 (by kernel_rfl) rfl rfl (by rfl) (by kernel_rfl) hHeld9 ?_
                simp only [Act.put, List.setIfInBounds_toArray, List.set_cons_zero, List.set_cons_succ]
                refine valL 12 (some 107) (.pointer (some ⟨q', 1, none⟩)) w7 (by kernel_rfl) rfl rfl (by rfl) (by kernel_rfl) hHeld9 ?_
                simp only [Act.put, List.setIfInBounds_toArray, List.set_cons_zero, List.set_cons_succ]
                refine lastSkip 13 none (w7.setCell ⟨q', 1, none⟩ (.slice (some ⟨g7, 0, none⟩) (Fk.length + 1) cap7)) (by kernel_rfl) rfl rfl (by rfl) (run_store_rs _ _ rfl ⟨q', 1, none⟩ rfl _ _ _ rfl w7 _ hHeld9.1 (hH7.free 1)) (by kernel_rfl) ?_
                simp only [Act.put]
                obtain ⟨w8, hw8⟩ : ∃ w8, w8 = w7.setCell ⟨q', 1, none⟩ (.slice (some ⟨g7, 0, none⟩) (Fk.length + 1) cap7) := ⟨_, rfl⟩
                rw [← hw8] at hOut7 ⊢
                clear hw8 hr7
                go_wp2
                go_roundw
                case rel =>
                  refine ⟨i + 1, k2, Fk ++ [r], some ⟨g7, 0, none⟩, cap7, by omega, by omega, by go_num, by rfl, by rw [List.length_append]; exact hOut7, by rw [List.length_append]; simp; omega, fun r' hr' => ?_, ?_⟩
                  · rcases List.mem_append.1 hr' with h1 | h1
                    · exact hmem r' h1
                    · rw [List.mem_singleton] at h1
                      rw [h1]
                      exact .inr ⟨hrm, hsy⟩
                  · show _ = _
                    rw [← hst.out, HRL.out, hsy, hsu, Bool.true_or, if_neg (by simp), if_pos rfl]
                    simp [List.foldl_append]
                case measure => simp [intOf]; omega
          · rw [hsy] at c2
            go_wp2
            go_roundw
            case rel =>
              refine ⟨i + 1, k2, Fk, af, cf, by omega, by omega, by go_num, by rfl, hO, by omega, hmem, ?_⟩
              show _ = _
              rw [← hst.out, HRL.out, hsy, if_pos rfl]
              try simp
            case measure => simp [intOf]; omega
        · obtain rfl : i = k := by omega
          have hfinal : (Fk.map (·.e)).foldl upF (fun _ _ => 0) = FIN := by
            have := hst.out
            rw [List.drop_of_length_le (by rw [List.length_map, ← HRow.out.1]; exact Nat.le_refl _)] at this
            exact this
          go_wp2
          go_ret
          refine ⟨q', Fk, _, vS', rfl, hO.bel, ⟨hO.has, h.n1, own_zero hO.fr, World.ownsRow_nil _ _ _ _, own_zero hO.sr, fun r hr => ?_, (fun r hr => by cases hr), rfl, hfinal.symm, h.bad, (fun g _ e => by cases e), fun r hr => ?_⟩, hO.q1, fun k hk => (hO.fr.lt k hk).1, fun k hk => (hO.sr.lt k hk).1, by rw [HRow.out.1]; exact hFl, hmem⟩
          · rcases hmem r hr with h1 | ⟨h1, h2⟩
            · exact ⟨(h.fb r h1).1, (h.fb r h1).2.below hO.bel (h.fb r h1).2.lt⟩
            · exact ⟨h2, (HLb.out r h1 h2).below hO.bel (HLb.out r h1 h2).lt⟩
          · rw [List.append_nil] at hr
            rcases hmem r hr with h1 | ⟨h1, h2⟩
            · exact h.byt r (List.mem_append_left _ h1)
            · exact hby r h1
end Go.Proofs.Ytalcalecmklcoaa
