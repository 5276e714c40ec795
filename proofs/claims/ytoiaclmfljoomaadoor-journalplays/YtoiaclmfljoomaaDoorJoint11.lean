/- Texts that the statements of this stage share, joined: DwSync, DwSynced, DwLeft, DwCut, DwProg, DwSmallM, DwMoreJ, JrStand. -/
import Derived.Test.YtoiaclmfljoomaaDoorJoint10
import Derived.Test.YtoiaclmfljoomaaDoorJoint02
import Derived.Test.YtoiaclmfljoomaaDoorJoint07

/- device: Sync. -/
namespace Go.Proofs.YtoiaclmfljoomaaDoor
open Go.ChangeShapes Go.WideShapes Go.ChangeAt Go.RowKit
set_option linter.unusedVariables false

variable {w w' : World} {p c bb bs bc : Nat} {s : DS} {vw vs : Value}

theorem run_load_ss {o : Oper} {a : Act} (x : Operand) (ho : o.op = .load 74 x) (p : Addr) (hx : a.eval x = .pointer (some p)) (v : Value) (w : World) (h : w.cell? p = some v) : (execOp a.eval o).run Tryd.prog w = .ok (.value v) w := by
  unfold execOp
  simp only [ho, hx]
  go_simp

theorem run_store_ss {o : Oper} {a : Act} (x y : Operand) (ho : o.op = .store 74 x y) (p : Addr) (hx : a.eval x = .pointer (some p)) (A : Option Addr) (n c : Nat) (hy : a.eval y = .slice A n c) (w : World) (u : Value) (h : w.cell? p = some u) (hf : w.frozen? p = false) : (execOp a.eval o).run Tryd.prog w = .ok .skip (w.setCell p (.slice A n c)) := by
  unfold execOp
  simp only [ho, hx, hy]
  go_simp

theorem run_build_s {o : Oper} {a : Act} (x1 x2 : Operand) (ho : o.op = .build 80 #[(0, x1), (1, x2)]) (n m : Nat) (h1 : a.eval x1 = .int .i64 (n : Nat)) (h2 : a.eval x2 = .int .i64 (m : Nat)) (w : World) :
    (execOp a.eval o).run Tryd.prog w = .ok (.value (.agg (scells (n, (m : Nat))).toArray)) w := by
  unfold execOp
  simp only [ho, List.map_toArray, List.map_cons, List.map_nil, h1, h2]
  kernel_rfl

theorem run_bs_s {o : Oper} {a : Act} (x : Operand) (ho : o.op = .buildSlice 74 1 #[(0, x)]) (e : Nat × Int) (hx : a.eval x = .agg (scells e).toArray) (w : World) :
    (execOp a.eval o).run Tryd.prog w = .ok (.value (.slice (some ⟨w.heap.size, 0, none⟩) 1 1)) (w.alloc (.cells (scells e).toArray 80)) := by
  unfold execOp
  simp only [ho, List.map_toArray, List.map_cons, List.map_nil, hx]
  kernel_rfl

/-- A Sync is added to a row of Syncs. -/
theorem app_s {w : World} {v : Value} {n : Nat} {xs : List Value} (e : Nat × Int) (hown : w.ownsRow 0 80 2 v n xs) (hn : n ≤ 100000) (ty : TypeId) :
    ∃ g cap w', (Builtin.append_ #[74, 74] ty #[v, .slice (some ⟨w.heap.size, 0, none⟩) 1 1]).run Tryd.prog (w.alloc (.cells (scells e).toArray 80)) = .ok (.slice (some ⟨g, 0, none⟩) (n + 1) cap) w' ∧
      w'.ownsRow 0 80 2 (.slice (some ⟨g, 0, none⟩) (n + 1) cap) (n + 1) (xs ++ scells e) ∧ (w.alloc (.cells (scells e).toArray 80)).grownBy w' v.ownBlock ∧ (v.ownBlock = some g ∨ g = w.heap.size + 1) := by
  obtain ⟨i0, hi0, hz0, hz1, hz2⟩ := info_parts info_s
  obtain ⟨g, cap, w', h1, h2, h3, h4, _⟩ := run_append_lies (P := Tryd.prog) (w.alloc (.cells (scells e).toArray 80)) 74 ty 0 80 i0 _ 2 16 Tryd.underlying74 hi0 hz0 hz1 hz2 rfl (by decide) v n xs (hown.alloc _) ⟨w.heap.size, 0, none⟩ 1 1 (scells e) rfl (World.news_of_block (cs := (scells e).toArray) (Has.new w 80 _)) (by intro u hu; simp [scells] at hu; rcases hu with rfl | rfl <;> rfl) (by decide) (by unfold maxLen; omega) (by omega) (Nat.zero_le _) (w.heap.size + 1) (by simp)
  exact ⟨g, cap, w', h1, h2, h3, h4⟩

theorem syG_len (l : List AE) : ∀ nw pd, (syG nw pd l).length ≤ l.length := by
  induction l with
  | nil => intro nw pd; exact Nat.le_refl _
  | cons e l ih =>
    intro nw pd
    unfold syG
    rw [List.length_cons]
    split
    · split
      · rw [List.length_cons]
        have := ih nw 0
        omega
      · have := ih nw 0
        omega
    · have := ih (nw + 1) (if e.sure then pd else pd + 1)
      omega

theorem sy_len_le (l : List AE) : (syOf l).length ≤ l.length := syG_len l 0 0

set_option maxRecDepth 100000 in
set_option maxHeartbeats 1000000 in
theorem syncDead_c (h : RepAt w p s c bb bs bc vw vs) (hd : s.dead = true) : Calls Tryd.prog 71 #[ptr p] w fun e w' => e = .returned (.int .i64 73) ∧ w' = w := by
  have h1 : w.cell? ⟨p, 1, none⟩ = some (.bool s.dead) := h.cell 1
  rw [hd] at h1
  clear h
  go_enter Tryd.func71, Tryd.ntmps71
  go_wp2
  go_ret
  exact ⟨rfl, rfl⟩

theorem sync_holds (s : DS) (mo : Int) : holds (syncD s mo) = holds s := by
  show holds (addD s _) = _
  rw [holds_add, upF_sync _ _ rfl]

set_option maxRecDepth 100000 in
set_option maxHeartbeats 1000000 in
theorem sync0_c (h : RepAt w p s c bb bs bc vw vs) {m : Nat} (hp : Past s m) (hd : s.dead = false) (h0 : pend s.log = 0) : Calls Tryd.prog 71 #[ptr p] w fun e w' => e = .returned (.int .i64 0) ∧ w' = w ∧ RepAt w p (syncD s (m : Nat)) c bb bs bc vw vs := by
  have h1 : w.cell? ⟨p, 1, none⟩ = some (.bool s.dead) := h.cell 1
  have h7 : w.cell? ⟨p, 7, none⟩ = some (.int .i64 (pend s.log : Nat)) := h.cell 7
  rw [hd] at h1
  rw [h0] at h7
  have hlog : (syncD s (m : Nat)).log = s.log ++ [⟨0, fun _ => 0, true, false, (m : Nat)⟩] := rfl
  have hR : RepAt w p (syncD s (m : Nat)) c bb bs bc vw vs := by
    have e1 : pend (syncD s (m : Nat)).log = pend s.log := by rw [hlog, pend_snoc, h0]; rfl
    have e2 : wrs (syncD s (m : Nat)).log = wrs s.log := by rw [hlog, wrs_snoc]; rfl
    have e3 : Wc (syncD s (m : Nat)).log = Wc s.log := by rw [hlog]; unfold Wc; rw [ws_append]; simp [ws]
    have e4 : syOf (syncD s (m : Nat)).log = syOf s.log := by rw [hlog, syOf_snoc, h0]; simp
    refine ⟨by rw [e1]; exact h.has, h.n1, h.n2, h.bad, h.fst, by rw [sync_holds]; exact h.now, by rw [e2, e3]; exact h.wr, by unfold Sc; rw [e4]; exact h.sy, h.d1, h.d2, h.d3, rise_snoc _ h.rise _ (m : Nat) hp (by simp)⟩
  clear h
  go_enter Tryd.func71, Tryd.ntmps71
  go_wp2
  go_ret
  exact ⟨rfl, rfl, hR⟩

set_option maxRecDepth 100000 in
set_option maxHeartbeats 4000000 in
theorem sync1_c (h : RepAt w p s c bb bs bc vw vs) {m : Nat} (hc : Has w c 104 #[.int .i64 (m : Nat)]) (hcF : ¬ Foot p bb bs bc vw vs c) (hp : Past s m) (hd : s.dead = false) (h0 : 0 < pend s.log) (hm : m ≤ 100000) (hlen : s.log.length ≤ 100000) :
    Calls Tryd.prog 71 #[ptr p] w fun e w' => e = .returned (.int .i64 0) ∧ ∃ vs', Only (fun k => k = p ∨ vs.ownBlock = some k) w w' ∧ (∀ k, vs'.ownBlock = some k → vs.ownBlock = some k ∨ w.heap.size ≤ k) ∧ RepAt w' p (syncD s (m : Nat)) c bb bs bc vw vs' := by
  have h1 : w.cell? ⟨p, 1, none⟩ = some (.bool s.dead) := h.cell 1
  rw [hd] at h1
  have h5 : w.cell? ⟨p, 5, none⟩ = some vw := h.cell 5
  have h6 : w.cell? ⟨p, 6, none⟩ = some vs := h.cell 6
  have h7 : w.cell? ⟨p, 7, none⟩ = some (.int .i64 (pend s.log : Nat)) := h.cell 7
  have h8 : w.cell? ⟨p, 8, none⟩ = some (.pointer (some ⟨c, 0, none⟩)) := h.cell 8
  have hc0 : w.cell? ⟨c, 0, none⟩ = some (.int .i64 (m : Nat)) := hc.cell 0
  have i0 : (0 : Int) < ((pend s.log : Nat) : Int) := by omega
  have hnil := hcF
  obtain ⟨aw, capw, rfl, _⟩ := own_slice h.wr
  have hcs : vs.ownBlock ≠ some c := fun e => hcF (.inr (.inr (.inr (.inr (.inr e)))))
  have hDr : Below w.heap.size w w.drew := (Below.refl _ w).drew
  have hRd : RepAt w.drew p s c bb bs bc (.slice aw (wrs s.log) capw) vs := h.kept (fun _ _ => rfl)
  obtain ⟨x0, hx0⟩ : ∃ x0 : Nat × Int, x0 = (wrs s.log, ((m : Nat) : Int)) := ⟨_, rfl⟩
  obtain ⟨g7, cap7, w7, hr7, hown7, hgr7, hl7⟩ := app_s x0 hRd.sy (Nat.le_trans (sy_len_le _) hlen) 74
  have hA : Below w.heap.size w (w.drew.alloc (.cells (scells x0).toArray 80)) := hDr.alloc (Nat.le_refl _) _
  have hO7 : Only (fun k => vs.ownBlock = some k) w w7 := ⟨hgr7.os.trans hA.os, hgr7.tape.trans hA.tape, hgr7.output.trans hA.output, Nat.le_trans hA.size hgr7.size, fun k hk hn => (hgr7.block k (Nat.lt_of_lt_of_le hk hA.size) (fun e => hn e.symm)).trans (hA.block k hk)⟩
  have held : ∀ wz, Only (fun k => vs.ownBlock = some k) w wz → wz.cell? ⟨p, 6, none⟩ = some vs ∧ wz.cell? ⟨p, 5, none⟩ = some (.slice aw (wrs s.log) capw) ∧ wz.cell? ⟨p, 8, none⟩ = some (.pointer (some ⟨c, 0, none⟩)) ∧ wz.cell? ⟨c, 0, none⟩ = some (.int .i64 (m : Nat)) := fun wz hz =>
    ⟨(hz.cell h.has.lt h.sy_p).trans h6, (hz.cell h.has.lt h.sy_p).trans h5, (hz.cell h.has.lt h.sy_p).trans h8, (hz.cell hc.lt hcs).trans hc0⟩
  have HR : Hid (RepAt w p s c bb bs bc (.slice aw (wrs s.log) capw) vs) := h
  clear h hc
  go_enter Tryd.func71, Tryd.ntmps71
  go_wp2
  have h := HR.out
  refine lastTo (S := fun wz => wz.cell? ⟨p, 6, none⟩ = some vs ∧ wz.cell? ⟨p, 5, none⟩ = some (.slice aw (wrs s.log) capw) ∧ wz.cell? ⟨p, 8, none⟩ = some (.pointer (some ⟨c, 0, none⟩)) ∧ wz.cell? ⟨c, 0, none⟩ = some (.int .i64 (m : Nat))) 22 (by kernel_rfl) ⟨h6, h5, h8, hc0⟩ (fun hHeld => ?_)
  refine takeL 0 (some 16) (ptr p) rfl rfl (by decide) (by kernel_rfl) (by kernel_rfl) (by kernel_rfl) (by kernel_rfl) (fun _ _ _ h => h) (by rfl) (fun _ _ => rfl) hHeld ?_
  simp only [Act.put, List.setIfInBounds_toArray, List.set_cons_zero, List.set_cons_succ]
  refine takeL 1 (some 17) (ptr p) rfl rfl (by decide) (by kernel_rfl) (by kernel_rfl) (by kernel_rfl) (by kernel_rfl) (fun _ _ _ h => h) (by rfl) (fun _ _ => rfl) hHeld ?_
  simp only [Act.put, List.setIfInBounds_toArray, List.set_cons_zero, List.set_cons_succ]
  refine takeL 2 (some 18) (.pointer (some ⟨p, 0, none⟩)) rfl rfl (by decide) (by kernel_rfl) (by kernel_rfl) (by kernel_rfl) (by kernel_rfl) (fun _ _ _ h => h) (by rfl) (fun _ _ => rfl) hHeld ?_
  simp only [Act.put, List.setIfInBounds_toArray, List.set_cons_zero, List.set_cons_succ]
  refine takeL 3 (some 19) (.pointer (some ⟨p, 6, none⟩)) rfl rfl (by decide) (by kernel_rfl) (by kernel_rfl) (by kernel_rfl) (by kernel_rfl) (fun _ _ _ h => h) (by rfl) (fun _ _ => rfl) hHeld ?_
  simp only [Act.put, List.setIfInBounds_toArray, List.set_cons_zero, List.set_cons_succ]
  refine takeL 4 (some 20) (vs) rfl rfl (by decide) (by kernel_rfl) (by kernel_rfl) (by kernel_rfl) (by kernel_rfl) (fun _ _ _ h => h) (by rfl) (fun wz hz => run_load_ss _ rfl _ rfl _ wz hz.1) hHeld ?_
  simp only [Act.put, List.setIfInBounds_toArray, List.set_cons_zero, List.set_cons_succ]
  refine takeL 5 (some 21) (ptr p) rfl rfl (by decide) (by kernel_rfl) (by kernel_rfl) (by kernel_rfl) (by kernel_rfl) (fun _ _ _ h => h) (by rfl) (fun _ _ => rfl) hHeld ?_
  simp only [Act.put, List.setIfInBounds_toArray, List.set_cons_zero, List.set_cons_succ]
  refine takeL 6 (some 22) (.pointer (some ⟨p, 0, none⟩)) rfl rfl (by decide) (by kernel_rfl) (by kernel_rfl) (by kernel_rfl) (by kernel_rfl) (fun _ _ _ h => h) (by rfl) (fun _ _ => rfl) hHeld ?_
  simp only [Act.put, List.setIfInBounds_toArray, List.set_cons_zero, List.set_cons_succ]
  refine takeL 7 (some 23) (.pointer (some ⟨p, 5, none⟩)) rfl rfl (by decide) (by kernel_rfl) (by kernel_rfl) (by kernel_rfl) (by kernel_rfl) (fun _ _ _ h => h) (by rfl) (fun _ _ => rfl) hHeld ?_
  simp only [Act.put, List.setIfInBounds_toArray, List.set_cons_zero, List.set_cons_succ]
  refine takeL 8 (some 24) (.slice aw (wrs s.log) capw) rfl rfl (by decide) (by kernel_rfl) (by kernel_rfl) (by kernel_rfl) (by kernel_rfl) (fun _ _ _ h => h) (by rfl) (fun wz hz => run_load_ws _ rfl _ rfl _ wz hz.2.1) hHeld ?_
  simp only [Act.put, List.setIfInBounds_toArray, List.set_cons_zero, List.set_cons_succ]
  refine takeL 9 (some 25) (.int .i64 (wrs s.log : Nat)) rfl rfl (by decide) (by kernel_rfl) (by kernel_rfl) (by kernel_rfl) (by kernel_rfl) (fun _ _ _ h => h) (by rfl) (fun wz _ => run_len_of 73 115 Tryd.underlying73 _ rfl aw (wrs s.log) capw rfl wz) hHeld ?_
  simp only [Act.put, List.setIfInBounds_toArray, List.set_cons_zero, List.set_cons_succ]
  refine takeL 10 (some 26) (ptr p) rfl rfl (by decide) (by kernel_rfl) (by kernel_rfl) (by kernel_rfl) (by kernel_rfl) (fun _ _ _ h => h) (by rfl) (fun _ _ => rfl) hHeld ?_
  simp only [Act.put, List.setIfInBounds_toArray, List.set_cons_zero, List.set_cons_succ]
  refine takeL 11 (some 27) (.pointer (some ⟨p, 0, none⟩)) rfl rfl (by decide) (by kernel_rfl) (by kernel_rfl) (by kernel_rfl) (by kernel_rfl) (fun _ _ _ h => h) (by rfl) (fun _ _ => rfl) hHeld ?_
  simp only [Act.put, List.setIfInBounds_toArray, List.set_cons_zero, List.set_cons_succ]
  refine takeL 12 (some 28) (.pointer (some ⟨p, 8, none⟩)) rfl rfl (by decide) (by kernel_rfl) (by kernel_rfl) (by kernel_rfl) (by kernel_rfl) (fun _ _ _ h => h) (by rfl) (fun _ _ => rfl) hHeld ?_
  simp only [Act.put, List.setIfInBounds_toArray, List.set_cons_zero, List.set_cons_succ]
  refine takeL 13 (some 29) (.pointer (some ⟨c, 0, none⟩)) rfl rfl (by decide) (by kernel_rfl) (by kernel_rfl) (by kernel_rfl) (by kernel_rfl) (fun _ _ _ h => h) (by rfl) (fun wz hz => run_load_pc _ rfl _ rfl _ wz hz.2.2.1) hHeld ?_
  simp only [Act.put, List.setIfInBounds_toArray, List.set_cons_zero, List.set_cons_succ]
  refine takeL 14 (some 30) (.pointer (some ⟨c, 0, none⟩)) rfl rfl (by decide) (by kernel_rfl) (by kernel_rfl) (by kernel_rfl) (by kernel_rfl) (fun _ _ _ h => h) (by rfl) (fun _ _ => rfl) hHeld ?_
  simp only [Act.put, List.setIfInBounds_toArray, List.set_cons_zero, List.set_cons_succ]
  refine takeL 15 (some 31) (.pointer (some ⟨c, 0, none⟩)) rfl rfl (by decide) (by kernel_rfl) (by kernel_rfl) (by kernel_rfl) (by kernel_rfl) (fun _ _ _ h => h) (by rfl) (fun _ _ => rfl) hHeld ?_
  simp only [Act.put, List.setIfInBounds_toArray, List.set_cons_zero, List.set_cons_succ]
  refine takeL 16 (some 32) (.int .i64 (m : Nat)) rfl rfl (by decide) (by kernel_rfl) (by kernel_rfl) (by kernel_rfl) (by kernel_rfl) (fun _ _ _ h => h) (by rfl) (fun wz hz => run_load_n _ rfl _ rfl _ wz hz.2.2.2) hHeld ?_
  simp only [Act.put, List.setIfInBounds_toArray, List.set_cons_zero, List.set_cons_succ]
  refine takeL 17 (some 33) (.agg (scells (wrs s.log, ((m : Nat) : Int))).toArray) rfl rfl (by decide) (by kernel_rfl) (by kernel_rfl) (by kernel_rfl) (by kernel_rfl) (fun _ _ _ h => h) (by rfl) (fun _ _ => run_build_s _ _ rfl _ _ rfl rfl _) hHeld ?_
  simp only [Act.put, List.setIfInBounds_toArray, List.set_cons_zero, List.set_cons_succ]
  rw [← hx0]
  have hHeld8 := held (w.drew.alloc (.cells (scells x0).toArray 80)) (Only.of_below hA (Nat.le_refl _))
  refine valL 18 (some 34) (.slice (some ⟨w.drew.heap.size, 0, none⟩) 1 1) (w.drew.alloc (.cells (scells x0).toArray 80)) (by kernel_rfl) rfl rfl (by rfl) (run_bs_s _ rfl x0 rfl w.drew) hHeld8 ?_
  simp only [Act.put, List.setIfInBounds_toArray, List.set_cons_zero, List.set_cons_succ]
  have hHeld9 := held w7 hO7
  refine valL 19 (some 35) (.slice (some ⟨g7, 0, none⟩) ((syOf s.log).length + 1) cap7) w7 (by kernel_rfl) rfl rfl (by rfl) (run_app 74 _ _ rfl vs (.slice (some ⟨w.drew.heap.size, 0, none⟩) 1 1) rfl rfl _ 74 rfl hr7) hHeld9 ?_
  simp only [Act.put, List.setIfInBounds_toArray, List.set_cons_zero, List.set_cons_succ]
  refine valL 20 (some 36) (.pointer (some ⟨p, 0, none⟩)) w7 (by kernel_rfl) rfl rfl (by rfl) (by kernel_rfl) hHeld9 ?_
  simp only [Act.put, List.setIfInBounds_toArray, List.set_cons_zero, List.set_cons_succ]
  refine valL 21 (some 37) (.pointer (some ⟨p, 6, none⟩)) w7 (by kernel_rfl) rfl rfl (by rfl) (by kernel_rfl) hHeld9 ?_
  simp only [Act.put, List.setIfInBounds_toArray, List.set_cons_zero, List.set_cons_succ]
  have hR7 : Has w7 p 77 (dcells s.n s.dead bb bs bc (.slice aw (wrs s.log) capw) vs (pend s.log) c) := (hO7.block p h.has.lt h.sy_p).trans h.has
  have f7 := hR7.free 6
  refine lastSkip 22 none (w7.setCell ⟨p, 6, none⟩ (.slice (some ⟨g7, 0, none⟩) ((syOf s.log).length + 1) cap7)) (by kernel_rfl) rfl rfl (by rfl) (run_store_ss _ _ rfl ⟨p, 6, none⟩ rfl _ _ _ rfl w7 _ hHeld9.1 f7) (by kernel_rfl) ?_
  simp only [Act.put]
  obtain ⟨v7, hv7⟩ : ∃ v7 : Value, v7 = .slice (some ⟨g7, 0, none⟩) ((syOf s.log).length + 1) cap7 := ⟨_, rfl⟩
  rw [← hv7]
  rw [← hv7] at hown7
  have hl7' : ∀ k, v7.ownBlock = some k → vs.ownBlock = some k ∨ w.heap.size ≤ k := by
    intro k hk
    rw [hv7] at hk
    have hk' : g7 = k := by simpa [Value.ownBlock] using hk
    subst hk'
    rcases hl7 with h1 | h1
    · exact .inl h1
    · have h2 : g7 = w.heap.size + 1 := h1
      exact .inr (by omega)
  obtain ⟨w8, hw8⟩ : ∃ w8, w8 = w7.setCell ⟨p, 6, none⟩ v7 := ⟨_, rfl⟩
  rw [← hw8]
  have hO8 : Only (fun k => k = p) w7 w8 := by rw [hw8]; exact only_setCell _ _ _ _
  have hR8 : Has w8 p 77 (dcells s.n s.dead bb bs bc (.slice aw (wrs s.log) capw) v7 (pend s.log) c) := by rw [hw8]; exact hR7.setV 6 v7
  have q7 : w8.cell? ⟨p, 7, none⟩ = some (.int .i64 (pend s.log : Nat)) := hR8.cell 7
  have q7f := hR8.free 7
  have hR9 := hR8.setV 7 (.int .i64 ((0 : Nat) : Int))
  clear hw8
  go_wp2
  go_ret
  have hO9 := only_setCell w8 p 7 (.int .i64 ((0 : Nat) : Int))
  have hO89 : Only (fun k => k = p) w7 (w8.setCell ⟨p, 7, none⟩ (.int .i64 ((0 : Nat) : Int))) := hO8.trans hO9 (fun _ _ h => h)
  have hAll : Only (fun k => k = p ∨ vs.ownBlock = some k) w (w8.setCell ⟨p, 7, none⟩ (.int .i64 ((0 : Nat) : Int))) := (hO7.mono (G := fun k => k = p ∨ vs.ownBlock = some k) (fun k hk => .inr hk)).trans hO89 (fun x _ hx => .inl hx)
  have hlog : (syncD s (m : Nat)).log = s.log ++ [⟨0, fun _ => 0, true, false, (m : Nat)⟩] := rfl
  have e1 : pend (syncD s (m : Nat)).log = 0 := by rw [hlog, pend_snoc]; rfl
  have e2 : wrs (syncD s (m : Nat)).log = wrs s.log := by rw [hlog, wrs_snoc]; rfl
  have e3 : Wc (syncD s (m : Nat)).log = Wc s.log := by rw [hlog]; unfold Wc; rw [ws_append]; simp [ws]
  have e4 : syOf (syncD s (m : Nat)).log = syOf s.log ++ [x0] := by rw [hlog, syOf_snoc, if_pos ⟨rfl, h0⟩, hx0]
  refine ⟨rfl, v7, hAll, hl7', ?_⟩
  refine ⟨by rw [e1]; exact hR9, h.n1, h.n2, h.bad.kept (hAll.block _ h.bad.lt (fun q => q.elim h.bb_p h.sy_bb)), h.fst.kept (hAll.block _ h.fst.lt (fun q => q.elim h.bs_p h.sy_bs)), by rw [sync_holds]; exact h.now.kept (hAll.block _ h.now.lt (fun q => q.elim h.bc_p h.sy_bc)), ?_, ?_, h.d1, h.d2, h.d3, rise_snoc _ h.rise _ (m : Nat) hp (by simp)⟩
  · rw [e2, e3]
    exact own_kept h.wr (fun g hg => hAll.block g (h.wr.lt g hg).2 (fun q => q.elim (fun e => h.wr_p (e ▸ hg)) (fun e => h.wr_sy hg e)))
  · have hSc : Sc (syncD s (m : Nat)).log = Sc s.log ++ scells x0 := by unfold Sc; rw [e4, List.flatMap_append]; simp
    rw [hSc, e4, List.length_append]
    exact own_kept hown7 (fun g hg => hO89.block g (hown7.lt g hg).2 (fun e => by obtain ⟨cur, hcur⟩ := own_block hown7 hg; exact cells_ne hcur hR7 (by decide) e))
end Go.Proofs.YtoiaclmfljoomaaDoor

/- device: synced, of each of the questions that it is asked; writesUpTo. -/
namespace Go.Proofs.YtoiaclmfljoomaaDoor
open Go.ChangeShapes Go.WideShapes Go.ChangeAt Go.RowKit
set_option linter.unusedVariables false

variable {w w' : World} {p c bb bs bc : Nat} {s : DS} {vw vs : Value}

abbrev sagg (x : Nat × Int) : Value := .agg #[.int .i64 (x.1 : Nat), .int .i64 x.2]

set_option maxRecDepth 100000 in
theorem cut1_c (x : Nat × Int) (w : World) : Calls Tryd.prog 48 #[sagg x] w fun e w' => e = .returned (.bool true) ∧ Below w.heap.size w w' := by
  go_enter Tryd.func48, Tryd.ntmps48
  go_wp2
  go_ret
  exact ⟨rfl, (Below.refl _ _).alloc (Nat.le_refl _) _⟩

theorem last_take (pr : Nat × Int → Bool) (l : List (Nat × Int)) (k : Nat) (x : Nat × Int) (h : l[k]? = some x) : lastS ((l.take (k + 1)).filter pr) = if pr x then x.1 else lastS ((l.take k).filter pr) := by
  have e : l.take (k + 1) = l.take k ++ [x] := by
    rw [List.take_add_one, h]
    rfl
  rw [e, List.filter_append]
  cases hp : pr x
  · rw [List.filter_cons_of_neg (by rw [hp]; simp)]
    simp
  · rw [List.filter_cons_of_pos hp]
    simp [lastS]

theorem last_le (l : List AE) (pr : Nat × Int → Bool) (k : Nat) : lastS (((syOf l).take k).filter pr) ≤ wrs l := by
  unfold lastS
  cases h : (((syOf l).take k).filter pr).getLast? with
  | none => simp
  | some x =>
    have h1 : x ∈ ((syOf l).take k).filter pr := List.mem_of_getLast? h
    have h2 : x ∈ syOf l := List.mem_of_mem_take (List.mem_filter.1 h1).1
    have := (sy_from l 0 0 x h2).2.2
    simp
    omega

set_option maxRecDepth 100000 in
set_option maxHeartbeats 2000000 in
theorem synced_all (h : RepAt w p s c bb bs bc vw vs) (hlen : s.log.length ≤ 100000) : Calls Tryd.prog 47 #[ptr p, .func (.func 48) #[] #[]] w fun e w' => e = .returned (.int .i64 (lastS ((syOf s.log).filter (fun _ => true)) : Nat)) ∧ Below w.heap.size w w' := by
  have h6 : w.cell? ⟨p, 6, none⟩ = some vs := h.cell 6
  have hlen' := Nat.le_trans (sy_len_le s.log) hlen
  have hSc := fun i j x hx hj => Sc_at s.log i j x hx hj
  obtain ⟨asx, caps, rfl, hcap, hnil, hsome, hcell⟩ := own_slice h.sy
  have hslt : ∀ g, asx = some ⟨g, 0, none⟩ → g < w.heap.size := fun g hg => (h.sy.lt g (by rw [hg]; rfl)).2
  obtain ⟨len, hl⟩ : ∃ len, len = (syOf s.log).length := ⟨_, rfl⟩
  have hle := last_le s.log (fun _ => true)
  have hwl : wrs s.log ≤ s.log.length := List.length_filter_le _ _
  have hfin : (syOf s.log).take len = syOf s.log := by rw [hl, List.take_length]
  have hstep := fun k x => last_take (fun _ => true) (syOf s.log) k x
  have hget : ∀ k, k < len → ∃ x, (syOf s.log)[k]? = some x := fun k hk => by rw [hl] at hk; exact ⟨_, List.getElem?_eq_getElem hk⟩
  rw [← hl] at h6 hlen' hnil
  clear h hl hcap
  obtain ⟨L, hL⟩ : ∃ L, L = syOf s.log := ⟨_, rfl⟩
  obtain ⟨SC, hSCe⟩ : ∃ SC, SC = Sc s.log := ⟨_, rfl⟩
  rw [← hL] at hSc hle hfin hstep hget ⊢
  rw [← hSCe] at hSc hcell
  clear hL hSCe
  go_enter Tryd.func47, Tryd.ntmps47
  go_wp2
  go_loopw [5, 13] (fun nv iv wr => ∃ k : Nat, k ≤ len ∧ iv = .int .i64 (k : Nat) ∧ nv = .int .i64 (lastS ((L.take k).filter (fun _ => true)) : Nat) ∧ Below w.heap.size w wr)
    (fun _ iv _ => len - (intOf iv).toNat)
  case atStart => exact ⟨0, Nat.zero_le _, rfl, rfl, Below.refl _ _⟩
  case round =>
    obtain ⟨k, hk, rfl, rfl, hbel⟩ := hrel
    by_cases hlt : k < len
    · obtain ⟨x, hx⟩ := hget k hlt
      have hnn : ∃ g, asx = some ⟨g, 0, none⟩ := by
        cases asx with
        | none => have := (hnil rfl).1; omega
        | some ad => obtain ⟨g, rfl⟩ := hsome ad rfl; exact ⟨g, rfl⟩
      obtain ⟨g, rfl⟩ := hnn
      have hglt := hslt g rfl
      have c0 : wr.cell? ⟨g, k * 2, none⟩ = some (.int .i64 (x.1 : Nat)) := (hbel.cell (p := ⟨g, k * 2, none⟩) hglt).trans (hcell g rfl (k * 2) _ (by rw [show k * 2 = k * 2 + 0 from rfl, hSc k 0 x hx (by decide)]; rfl))
      have c1 : wr.cell? ⟨g, k * 2 + 1, none⟩ = some (.int .i64 x.2) := (hbel.cell (p := ⟨g, k * 2 + 1, none⟩) hglt).trans (hcell g rfl (k * 2 + 1) _ (by rw [hSc k 1 x hx (by decide)]; rfl))
      have hrange : wr.rangeAt g (k * 2) [.int .i64 (x.1 : Nat), .int .i64 x.2] := fun j v hv => by
        match j, hv with
        | 0, hv => simp at hv; rw [← hv]; exact c0
        | 1, hv => simp at hv; rw [← hv]; exact c1
        | j + 2, hv => simp at hv
      have hst := hstep k x hx
      have hl1 := hle k
      have hl2 := hle (k + 1)
      have i0 : (k : Int) < (len : Int) := by omega
      have i1 : (0 : Int) ≤ (k : Int) := by omega
      have hcall := fun w2 (_ : Below wr.heap.size wr w2) => cut1_c x w2
      clear hcell hSc hget hstep hnil hsome hslt hle hfin
      have hB2 : Below wr.heap.size wr (wr.alloc (.cells #[.int .i64 (x.1 : Nat), .int .i64 x.2] 80)) := (Below.refl _ _).alloc (Nat.le_refl _) _
      have hH : Has (wr.alloc (.cells #[.int .i64 (x.1 : Nat), .int .i64 x.2] 80)) wr.heap.size 80 #[.int .i64 (x.1 : Nat), .int .i64 x.2] := Has.new_at rfl
      have hc2 := hcall _ hB2
      clear hcall
      rw [if_pos trivial] at hst
      go_wp2_with (first
        | (refine wpList_load_mid rfl 80 (.tmp 15) rfl g (k * 2) rfl [.int .i64 (x.1 : Nat), .int .i64 x.2] _ hrange Tryd.underlying80 rfl Tryd.size80 ?_)
        | ((go_at_call 48)
           (refine hc2.mono ?_)
           (rintro e w3 ⟨rfl, hb3⟩)
           (have hB3 : Below w.heap.size w w3 := hbel.trans ((hB2.mono hbel.size).trans (hb3.mono (Nat.le_trans hbel.size hB2.size))))
           (have q0 : w3.cell? ⟨wr.heap.size, 0, none⟩ = some (.int .i64 (x.1 : Nat)) := (hb3.cell (p := ⟨wr.heap.size, 0, none⟩) hH.lt).trans (hH.cell 0))
           (clear hc2)))
      go_roundw
      case rel => exact ⟨k + 1, by omega, by go_num, by rw [hst], hB3⟩
      case measure => simp [intOf]; omega
    · obtain rfl : k = len := by omega
      rw [hfin]
      go_wp2
      go_ret
      exact ⟨rfl, hbel⟩

end Go.Proofs.YtoiaclmfljoomaaDoor

/- device: left. -/
namespace Go.Proofs.YtoiaclmfljoomaaDoor
open Go.ChangeShapes Go.WideShapes Go.ChangeAt Go.RowKit
set_option linter.unusedVariables false

def ze : AE := ⟨0, fun _ => 0, false, false, 0⟩

theorem wcells_all (e : AE) : (wcells e).toArray.all (·.oneCell') = true := all_oneCell_toArray (wcells_one e)

theorem wcells_data {w : World} {g : Nat} {e : AE} (h : Has w g 115 (wcells e).toArray) : w.rangeAt g 1 (cellsN .u8 64 e.b).toList := by
  intro j v hv
  have hj : j < 64 := by have := (List.getElem?_eq_some_iff.1 hv).1; simpa [cellsN] using this
  rw [h.cell, List.getElem?_toArray]
  rw [Array.getElem?_toList, cellsN_get _ _ _ _ hj] at hv
  unfold wcells
  rw [Nat.add_comm, List.getElem?_cons_succ, List.getElem?_append_left (by simp [bl]; omega), bl_get _ _ _ hj]
  exact hv

theorem clo_step (keep : Nat → Bool) (safe k num : Nat) (l : List AE) (e : AE) (f : Nat → Nat → Nat) (h : l[k]? = some e) :
    clo keep safe k num (l.drop k) f = if e.sure || decide (k < safe) then clo keep safe (k + 1) num (l.drop (k + 1)) (upF f e) else clo keep safe (k + 1) (num + 1) (l.drop (k + 1)) (if keep num then upF f e else f) := by
  have hk := (List.getElem?_eq_some_iff.1 h).1
  rw [List.drop_eq_getElem_cons hk, (List.getElem?_eq_some_iff.1 h).2]
  rfl

theorem run_load_bo {o : Oper} {a : Act} (x : Operand) (ho : o.op = .load 4 x) (p : Addr) (hx : a.eval x = .pointer (some p)) (v : Value) (w : World) (h : w.cell? p = some v) : (execOp a.eval o).run Tryd.prog w = .ok (.value v) w := by
  unfold execOp
  simp only [ho, hx]
  go_simp

theorem run_load_bm {o : Oper} {a : Act} (x : Operand) (ho : o.op = .load 72 x) (p : Addr) (hx : a.eval x = .pointer (some p)) (v : Value) (w : World) (h : w.cell? p = some v) : (execOp a.eval o).run Tryd.prog w = .ok (.value v) w := by
  unfold execOp
  simp only [ho, hx]
  go_simp

theorem run_store_bo {o : Oper} {a : Act} (x y : Operand) (ho : o.op = .store 4 x y) (p : Addr) (hx : a.eval x = .pointer (some p)) (b : Bool) (hy : a.eval y = .bool b) (w : World) (u : Value) (h : w.cell? p = some u) (hf : w.frozen? p = false) : (execOp a.eval o).run Tryd.prog w = .ok .skip (w.setCell p (.bool b)) := by
  unfold execOp
  simp only [ho, hx, hy]
  go_simp

theorem run_store_bm {o : Oper} {a : Act} (x y : Operand) (ho : o.op = .store 72 x y) (p : Addr) (hx : a.eval x = .pointer (some p)) (b : Option Nat) (hy : a.eval y = .map b) (w : World) (u : Value) (h : w.cell? p = some u) (hf : w.frozen? p = false) : (execOp a.eval o).run Tryd.prog w = .ok .skip (w.setCell p (.map b)) := by
  unfold execOp
  simp only [ho, hx, hy]
  go_simp

theorem run_slice_ws {o : Oper} {a : Act} (x l : Operand) (ho : o.op = .slice 73 x none (some l) none) (A : Option Addr) (L cap q : Nat) (hx : a.eval x = .slice A L cap) (hl : a.eval l = .int .i64 (q : Nat)) (h1 : q ≤ cap) (hA : ∀ ad, A = some ad → ∃ b, ad = ⟨b, 0, none⟩) (w : World) :
    (execOp a.eval o).run Tryd.prog w = .ok (.value (.slice A q cap)) w := by
  unfold execOp
  simp only [ho, hx, hl, Option.map_some, Option.map_none]
  cases A with
  | none => simp [Instr.sliceAt, Instr.slice, Instr.sliceBounds, Instr.sliceBound, run_underlying Tryd.underlying73, go_sem, asIntOf, h1]
  | some ad =>
    obtain ⟨b, rfl⟩ := hA ad rfl
    simp [Instr.sliceAt, Instr.slice, Instr.sliceBounds, Instr.sliceBound, run_underlying Tryd.underlying73, go_sem, asIntOf, h1]

variable {w w' : World} {p c bb bs bc : Nat} {s : DS} {vw vs : Value}

/-- What left tells: a device of its own. -/
def LeftPost (w w' : World) (e : Ending) (s' : DS) : Prop :=
  ∃ q c' bb' bs' bc', e = .returned (ptr q) ∧ RepAt w' q s' c' bb' bs' bc' nilS nilS ∧ Has w' c' 104 #[.int .i64 ((0 : Nat) : Int)] ∧ (∀ k, Foot q bb' bs' bc' nilS nilS k → w.heap.size ≤ k) ∧ w.heap.size ≤ c' ∧ ¬ Foot q bb' bs' bc' nilS nilS c' ∧ Below w.heap.size w w'

set_option maxRecDepth 100000 in
set_option maxHeartbeats 8000000 in
theorem left_r (h : RepAt w p s c bb bs bc vw vs) (n safe : Nat) (hn : n ≤ wrs s.log) (hsafe : safe ≤ 100000) (a : Option Addr) (L C : Nat) (kf : Nat → Bool) (hk : Bools w a L kf) (hlen : s.log.length ≤ 100000) :
    Calls Tryd.prog 49 #[ptr p, .int .i64 (n : Nat), .int .i64 (safe : Nat), .slice a L C] w fun e w' => LeftPost w w' e ⟨s.n, clo (keepOf kf L) safe 0 0 ((ws s.log).take n) s.fst, [], s.bad, s.dead⟩ := by
  have h0 : w.cell? ⟨p, 0, none⟩ = some (.int .i64 (s.n : Nat)) := h.cell 0
  have h1 : w.cell? ⟨p, 1, none⟩ = some (.bool s.dead) := h.cell 1
  have h2 : w.cell? ⟨p, 2, none⟩ = some (.map (some bb)) := h.cell 2
  have h3 : w.cell? ⟨p, 3, none⟩ = some (.map (some bs)) := h.cell 3
  have h5 : w.cell? ⟨p, 5, none⟩ = some vw := h.cell 5
  have hplt := h.has.lt
  have hwl : wrs s.log ≤ s.log.length := List.length_filter_le _ _
  obtain ⟨f0, hm0, hf0⟩ := h.fst
  have hcl := clone_sec bs f0 w hm0
  have hWc := fun i j e he hj => Wc_at s.log i j e he hj
  obtain ⟨aw, capw, rfl, hcap, hnil, hsome, hcell⟩ := own_slice h.wr
  have hslt : ∀ g, aw = some ⟨g, 0, none⟩ → g < w.heap.size := fun g hg => (h.wr.lt g (by rw [hg]; rfl)).2
  have hget : ∀ k, k < n → ∃ e, (ws s.log)[k]? = some e := fun k hk => ⟨_, List.getElem?_eq_getElem (Nat.lt_of_lt_of_le hk hn)⟩
  have hnosync : ∀ (k : Nat) (e : AE), (ws s.log)[k]? = some e → e.sync = false := fun k e he => by
    have := (List.mem_filter.1 (List.mem_of_getElem? he)).2
    simpa using this
  have hkb : ∀ j, j < L → ∃ xb xo, a = some ⟨xb, xo, none⟩ ∧ xb < w.heap.size ∧ ∀ j, j < L → w.cell? ⟨xb, xo + j, none⟩ = some (.bool (kf j)) := fun j hj => by
    rcases hk with hk | ⟨xb, xo, h1, h2, h3⟩
    · omega
    · exact ⟨xb, xo, h1, h2, h3⟩
  obtain ⟨FIN, hFIN⟩ : ∃ FIN, FIN = clo (keepOf kf L) safe 0 0 ((ws s.log).take n) s.fst := ⟨_, rfl⟩
  have HR : Hid (RepAt w p s c bb bs bc (.slice aw (wrs s.log) capw) vs) := h
  rw [← hFIN]
  have hcapn : n ≤ capw := Nat.le_trans hn hcap
  have hnilN : aw = none → n = 0 := fun e => by have := (hnil e).1; omega
  clear hk h hcap hnil
  go_enter Tryd.func49, Tryd.ntmps49
  go_wp2_with (first
    | ((go_at_call 62)
       (refine hcl.mono ?_)
       (rintro e w1 ⟨rfl, hm1, hb1⟩)
       (have k5 : w1.cell? ⟨p, 5, none⟩ = some (.slice aw (wrs s.log) capw) := (hb1.cell (p := ⟨p, 5, none⟩) hplt).trans h5))
    | (refine wpList_is (some 25) (.slice aw n capw) rfl (by rfl) (run_slice_ws _ _ rfl aw (wrs s.log) capw n rfl rfl hcapn hsome _) ?_))
  obtain ⟨b9, hb9e⟩ : ∃ b9, b9 = w.heap.size := ⟨_, rfl⟩
  rw [← hb9e]
  rw [← hb9e] at hm1
  have hb9 : w.heap.size ≤ b9 := by omega
  clear hb9e
  go_loopw [10, 27] (fun nv iv wr => ∃ (k num : Nat) (f : Nat → Nat → Nat), k ≤ n ∧ iv = .int .i64 (k : Nat) ∧ nv = .int .i64 (num : Nat) ∧ num ≤ k ∧ SecMap wr b9 s.n f ∧ clo (keepOf kf L) safe k num (((ws s.log).take n).drop k) f = FIN ∧ Below w.heap.size w wr)
    (fun _ iv _ => n - (intOf iv).toNat)
  case atStart => exact ⟨0, 0, s.fst, Nat.zero_le _, rfl, rfl, Nat.le_refl _, ⟨f0, hm1, hf0⟩, hFIN.symm, hb1⟩
  case round =>
    obtain ⟨k, num, f, hk, rfl, rfl, hnk, hmap, hst, hbel⟩ := hrel
    have i1 : (0 : Int) ≤ (k : Int) := by omega
    by_cases hlt : k < n
    · obtain ⟨e, he⟩ := hget k hlt
      have hns := hnosync k e he
      have hnn : ∃ g, aw = some ⟨g, 0, none⟩ := by
        cases aw with
        | none => have := hnilN rfl; omega
        | some ad => obtain ⟨g, rfl⟩ := hsome ad rfl; exact ⟨g, rfl⟩
      obtain ⟨g, rfl⟩ := hnn
      have hglt := hslt g rfl
      have hrange : wr.rangeAt g (k * 67) (wcells e) := fun j v hv => by
        have hj : j < 67 := by have := (List.getElem?_eq_some_iff.1 hv).1; rw [wcells_len] at this; exact this
        rw [hbel.cell (p := ⟨g, k * 67 + j, none⟩) hglt]
        exact hcell g rfl _ _ (by rw [hWc k j e he hj]; exact hv)
      have heT : ((ws s.log).take n)[k]? = some e := by rw [List.getElem?_take_of_lt hlt]; exact he
      rw [clo_step _ _ _ _ _ e f heT] at hst
      have hup : (fun i => if i = e.i then e.b else f i) = upF f e := by
        funext i
        unfold upF
        simp [hns]
      have i0 : (k : Int) < (n : Int) := by omega
      clear hcell hWc hget hnosync hsome hslt hcl hm0 hf0 hm1 hb1 hFIN hnilN
      cases hsu : e.sure
      · by_cases hks : k < safe
        · rw [hsu, decide_eq_true hks, if_pos (by decide)] at hst
          have hks' : (k : Int) < (safe : Int) := by omega
          have hkeep := fun (w2 : World) (_ : Below w.heap.size w w2) => True.intro
          go_wp2_with (first
            | (refine wpList_load_mid rfl 115 (.tmp 30) rfl g (k * 67) rfl (wcells e) _ hrange Tryd.underlying115 rfl (by rw [wcells_len]; exact Tryd.size115) ?_)
            | (refine wpList_is_w (some 12) (.pointer (some ⟨wr.heap.size, 0, none⟩)) (wr.alloc (.cells (wcells ze).toArray 115)) rfl (by rfl) (by kernel_rfl) ?_)
            | ((refine wpList_store_rowG rfl 115 (.tmp 12) (.tmp 31) rfl wr.heap.size (wcells e).toArray rfl rfl 115 (wcells ze).toArray (Has.new_at rfl) (by rw [List.size_toArray, wcells_len]; exact Tryd.size115) (by simp [wcells_len]) (wcells_all e) ?_)
               (intro w2 hw2)
               (have hH : Has w2 wr.heap.size 115 (wcells e).toArray := by rw [hw2]; exact (Has.new_at (t := 115) (cs := (wcells ze).toArray) rfl).setRow _)
               (have hB2 : Below wr.heap.size wr w2 := by rw [hw2]; exact below_setRow ((Below.refl _ _).alloc (Nat.le_refl _) _) (Nat.le_refl _) _)
               (have hBw : Below w.heap.size w w2 := hbel.trans (hB2.mono hbel.size))
               (have q66 : w2.cell? ⟨wr.heap.size, 66, none⟩ = some (.bool false) := (hH.cell 66).trans (by rw [List.getElem?_toArray, wcells_su, hsu]))
               (have q0 : w2.cell? ⟨wr.heap.size, 0, none⟩ = some (.int .i64 (e.i : Nat)) := hH.cell 0)
               (have hr1 : w2.rangeAt wr.heap.size 1 (cellsN .u8 64 e.b).toList := wcells_data hH)
               (have hm2 : SecMap w2 b9 s.n f := hmap.below hB2 hmap.lt)
               (obtain ⟨w4, hr4, hs4, ho4, _⟩ := hm2.put e.i e.b)
               (have hKK := hkeep w2 hBw)
               (clear hw2 hkeep))
            | (refine wpList_load_mid rfl 102 (.tmp 57) rfl wr.heap.size 1 rfl (cellsN .u8 64 e.b).toList _ hr1 Tryd.underlying102 rfl (by rw [Array.length_toList, cellsN_size]; exact Tryd.size102) ?_; rw [Array.toArray_toList]))
          go_roundw
          case rel =>
            have hBB : Below w.heap.size w w4 := hBw.trans (ho4.below (fun q hq => by rw [hq]; exact hb9) hBw.size)
            exact ⟨k + 1, num, upF f e, by omega, by go_num, by rfl, by omega, (hup ▸ hs4), hst, hBB⟩
          case measure => simp [intOf]; omega
        · rw [hsu, decide_eq_false hks, if_neg (by simp)] at hst
          have hks' : ¬ (k : Int) < (safe : Int) := by omega
          by_cases hnl : num < L
          · have hnl' : (num : Int) < (L : Int) := by omega
            have hn0 : (0 : Int) ≤ (num : Int) := by omega
            obtain ⟨xb, xo, rfl, hxlt, hxc⟩ := hkb num hnl
            cases hkn : kf num
            · rw [show keepOf kf L num = false by unfold keepOf; rw [decide_eq_true hnl, hkn]; rfl] at hst
              rw [if_neg (by simp)] at hst
              have hkeep := fun (w2 : World) (hb : Below w.heap.size w w2) => (show w2.cell? ⟨xb, xo + num, none⟩ = some (.bool false) from by rw [hb.cell (p := ⟨xb, xo + num, none⟩) hxlt, hxc num hnl, hkn])
              go_wp2_with (first
                | (refine wpList_load_mid rfl 115 (.tmp 30) rfl g (k * 67) rfl (wcells e) _ hrange Tryd.underlying115 rfl (by rw [wcells_len]; exact Tryd.size115) ?_)
                | (refine wpList_is_w (some 12) (.pointer (some ⟨wr.heap.size, 0, none⟩)) (wr.alloc (.cells (wcells ze).toArray 115)) rfl (by rfl) (by kernel_rfl) ?_)
                | ((refine wpList_store_rowG rfl 115 (.tmp 12) (.tmp 31) rfl wr.heap.size (wcells e).toArray rfl rfl 115 (wcells ze).toArray (Has.new_at rfl) (by rw [List.size_toArray, wcells_len]; exact Tryd.size115) (by simp [wcells_len]) (wcells_all e) ?_)
                   (intro w2 hw2)
                   (have hH : Has w2 wr.heap.size 115 (wcells e).toArray := by rw [hw2]; exact (Has.new_at (t := 115) (cs := (wcells ze).toArray) rfl).setRow _)
                   (have hB2 : Below wr.heap.size wr w2 := by rw [hw2]; exact below_setRow ((Below.refl _ _).alloc (Nat.le_refl _) _) (Nat.le_refl _) _)
                   (have hBw : Below w.heap.size w w2 := hbel.trans (hB2.mono hbel.size))
                   (have q66 : w2.cell? ⟨wr.heap.size, 66, none⟩ = some (.bool false) := (hH.cell 66).trans (by rw [List.getElem?_toArray, wcells_su, hsu]))
                   (have q0 : w2.cell? ⟨wr.heap.size, 0, none⟩ = some (.int .i64 (e.i : Nat)) := hH.cell 0)
                   (have hr1 : w2.rangeAt wr.heap.size 1 (cellsN .u8 64 e.b).toList := wcells_data hH)
                   (have hm2 : SecMap w2 b9 s.n f := hmap.below hB2 hmap.lt)
                   (obtain ⟨w4, hr4, hs4, ho4, _⟩ := hm2.put e.i e.b)
                   (have hKK := hkeep w2 hBw)
                   (clear hw2 hkeep))
                | (refine wpList_load_mid rfl 102 (.tmp 57) rfl wr.heap.size 1 rfl (cellsN .u8 64 e.b).toList _ hr1 Tryd.underlying102 rfl (by rw [Array.length_toList, cellsN_size]; exact Tryd.size102) ?_; rw [Array.toArray_toList]))
              go_roundw
              case rel =>
                exact ⟨k + 1, num + 1, f, by omega, by go_num, by go_num, by omega, hm2, hst, hBw⟩
              case measure => simp [intOf]; omega
            · rw [show keepOf kf L num = true by unfold keepOf; rw [decide_eq_true hnl, hkn]; rfl] at hst
              rw [if_pos rfl] at hst
              have hkeep := fun (w2 : World) (hb : Below w.heap.size w w2) => (show w2.cell? ⟨xb, xo + num, none⟩ = some (.bool true) from by rw [hb.cell (p := ⟨xb, xo + num, none⟩) hxlt, hxc num hnl, hkn])
              go_wp2_with (first
                | (refine wpList_load_mid rfl 115 (.tmp 30) rfl g (k * 67) rfl (wcells e) _ hrange Tryd.underlying115 rfl (by rw [wcells_len]; exact Tryd.size115) ?_)
                | (refine wpList_is_w (some 12) (.pointer (some ⟨wr.heap.size, 0, none⟩)) (wr.alloc (.cells (wcells ze).toArray 115)) rfl (by rfl) (by kernel_rfl) ?_)
                | ((refine wpList_store_rowG rfl 115 (.tmp 12) (.tmp 31) rfl wr.heap.size (wcells e).toArray rfl rfl 115 (wcells ze).toArray (Has.new_at rfl) (by rw [List.size_toArray, wcells_len]; exact Tryd.size115) (by simp [wcells_len]) (wcells_all e) ?_)
                   (intro w2 hw2)
                   (have hH : Has w2 wr.heap.size 115 (wcells e).toArray := by rw [hw2]; exact (Has.new_at (t := 115) (cs := (wcells ze).toArray) rfl).setRow _)
                   (have hB2 : Below wr.heap.size wr w2 := by rw [hw2]; exact below_setRow ((Below.refl _ _).alloc (Nat.le_refl _) _) (Nat.le_refl _) _)
                   (have hBw : Below w.heap.size w w2 := hbel.trans (hB2.mono hbel.size))
                   (have q66 : w2.cell? ⟨wr.heap.size, 66, none⟩ = some (.bool false) := (hH.cell 66).trans (by rw [List.getElem?_toArray, wcells_su, hsu]))
                   (have q0 : w2.cell? ⟨wr.heap.size, 0, none⟩ = some (.int .i64 (e.i : Nat)) := hH.cell 0)
                   (have hr1 : w2.rangeAt wr.heap.size 1 (cellsN .u8 64 e.b).toList := wcells_data hH)
                   (have hm2 : SecMap w2 b9 s.n f := hmap.below hB2 hmap.lt)
                   (obtain ⟨w4, hr4, hs4, ho4, _⟩ := hm2.put e.i e.b)
                   (have hKK := hkeep w2 hBw)
                   (clear hw2 hkeep))
                | (refine wpList_load_mid rfl 102 (.tmp 57) rfl wr.heap.size 1 rfl (cellsN .u8 64 e.b).toList _ hr1 Tryd.underlying102 rfl (by rw [Array.length_toList, cellsN_size]; exact Tryd.size102) ?_; rw [Array.toArray_toList]))
              go_roundw
              case rel =>
                have hBB : Below w.heap.size w w4 := hBw.trans (ho4.below (fun q hq => by rw [hq]; exact hb9) hBw.size)
                exact ⟨k + 1, num + 1, upF f e, by omega, by go_num, by go_num, by omega, (hup ▸ hs4), hst, hBB⟩
              case measure => simp [intOf]; omega
          · have hnl' : ¬ (num : Int) < (L : Int) := by omega
            rw [show keepOf kf L num = false by unfold keepOf; rw [decide_eq_false hnl]; rfl, if_neg (by simp)] at hst
            have hkeep := fun (w2 : World) (_ : Below w.heap.size w w2) => True.intro
            go_wp2_with (first
              | (refine wpList_load_mid rfl 115 (.tmp 30) rfl g (k * 67) rfl (wcells e) _ hrange Tryd.underlying115 rfl (by rw [wcells_len]; exact Tryd.size115) ?_)
              | (refine wpList_is_w (some 12) (.pointer (some ⟨wr.heap.size, 0, none⟩)) (wr.alloc (.cells (wcells ze).toArray 115)) rfl (by rfl) (by kernel_rfl) ?_)
              | ((refine wpList_store_rowG rfl 115 (.tmp 12) (.tmp 31) rfl wr.heap.size (wcells e).toArray rfl rfl 115 (wcells ze).toArray (Has.new_at rfl) (by rw [List.size_toArray, wcells_len]; exact Tryd.size115) (by simp [wcells_len]) (wcells_all e) ?_)
                 (intro w2 hw2)
                 (have hH : Has w2 wr.heap.size 115 (wcells e).toArray := by rw [hw2]; exact (Has.new_at (t := 115) (cs := (wcells ze).toArray) rfl).setRow _)
                 (have hB2 : Below wr.heap.size wr w2 := by rw [hw2]; exact below_setRow ((Below.refl _ _).alloc (Nat.le_refl _) _) (Nat.le_refl _) _)
                 (have hBw : Below w.heap.size w w2 := hbel.trans (hB2.mono hbel.size))
                 (have q66 : w2.cell? ⟨wr.heap.size, 66, none⟩ = some (.bool false) := (hH.cell 66).trans (by rw [List.getElem?_toArray, wcells_su, hsu]))
                 (have q0 : w2.cell? ⟨wr.heap.size, 0, none⟩ = some (.int .i64 (e.i : Nat)) := hH.cell 0)
                 (have hr1 : w2.rangeAt wr.heap.size 1 (cellsN .u8 64 e.b).toList := wcells_data hH)
                 (have hm2 : SecMap w2 b9 s.n f := hmap.below hB2 hmap.lt)
                 (obtain ⟨w4, hr4, hs4, ho4, _⟩ := hm2.put e.i e.b)
                 (have hKK := hkeep w2 hBw)
                 (clear hw2 hkeep))
              | (refine wpList_load_mid rfl 102 (.tmp 57) rfl wr.heap.size 1 rfl (cellsN .u8 64 e.b).toList _ hr1 Tryd.underlying102 rfl (by rw [Array.length_toList, cellsN_size]; exact Tryd.size102) ?_; rw [Array.toArray_toList]))
            go_roundw
            case rel =>
              exact ⟨k + 1, num + 1, f, by omega, by go_num, by go_num, by omega, hm2, hst, hBw⟩
            case measure => simp [intOf]; omega
      · rw [hsu, Bool.true_or, if_pos rfl] at hst
        have hkeep := fun (w2 : World) (_ : Below w.heap.size w w2) => True.intro
        go_wp2_with (first
          | (refine wpList_load_mid rfl 115 (.tmp 30) rfl g (k * 67) rfl (wcells e) _ hrange Tryd.underlying115 rfl (by rw [wcells_len]; exact Tryd.size115) ?_)
          | (refine wpList_is_w (some 12) (.pointer (some ⟨wr.heap.size, 0, none⟩)) (wr.alloc (.cells (wcells ze).toArray 115)) rfl (by rfl) (by kernel_rfl) ?_)
          | ((refine wpList_store_rowG rfl 115 (.tmp 12) (.tmp 31) rfl wr.heap.size (wcells e).toArray rfl rfl 115 (wcells ze).toArray (Has.new_at rfl) (by rw [List.size_toArray, wcells_len]; exact Tryd.size115) (by simp [wcells_len]) (wcells_all e) ?_)
             (intro w2 hw2)
             (have hH : Has w2 wr.heap.size 115 (wcells e).toArray := by rw [hw2]; exact (Has.new_at (t := 115) (cs := (wcells ze).toArray) rfl).setRow _)
             (have hB2 : Below wr.heap.size wr w2 := by rw [hw2]; exact below_setRow ((Below.refl _ _).alloc (Nat.le_refl _) _) (Nat.le_refl _) _)
             (have hBw : Below w.heap.size w w2 := hbel.trans (hB2.mono hbel.size))
             (have q66 : w2.cell? ⟨wr.heap.size, 66, none⟩ = some (.bool true) := (hH.cell 66).trans (by rw [List.getElem?_toArray, wcells_su, hsu]))
             (have q0 : w2.cell? ⟨wr.heap.size, 0, none⟩ = some (.int .i64 (e.i : Nat)) := hH.cell 0)
             (have hr1 : w2.rangeAt wr.heap.size 1 (cellsN .u8 64 e.b).toList := wcells_data hH)
             (have hm2 : SecMap w2 b9 s.n f := hmap.below hB2 hmap.lt)
             (obtain ⟨w4, hr4, hs4, ho4, _⟩ := hm2.put e.i e.b)
             (have hKK := hkeep w2 hBw)
             (clear hw2 hkeep))
          | (refine wpList_load_mid rfl 102 (.tmp 57) rfl wr.heap.size 1 rfl (cellsN .u8 64 e.b).toList _ hr1 Tryd.underlying102 rfl (by rw [Array.length_toList, cellsN_size]; exact Tryd.size102) ?_; rw [Array.toArray_toList]))
        go_roundw
        case rel =>
          have hBB : Below w.heap.size w w4 := hBw.trans (ho4.below (fun q hq => by rw [hq]; exact hb9) hBw.size)
          exact ⟨k + 1, num, upF f e, by omega, by go_num, by rfl, by omega, (hup ▸ hs4), hst, hBB⟩
        case measure => simp [intOf]; omega
    · obtain rfl : k = n := by omega
      rw [List.drop_of_length_le (by rw [List.length_take]; exact Nat.min_le_left _ _)] at hst
      have hfF : f = FIN := hst
      subst hfF
      have h := HR.out
      obtain ⟨f9, hm9, hf9⟩ := hmap
      have hfr := fresh_r wr s.n b9 f9 hm9
      have k0 : wr.cell? ⟨p, 0, none⟩ = some (.int .i64 (s.n : Nat)) := (hbel.cell (p := ⟨p, 0, none⟩) hplt).trans h0
      clear hcell hWc hget hnosync hsome hslt hcl hm0 hf0 hm1 hb1 hnilN hkb
      go_wp2_with (first
        | ((go_at_call 36)
           (refine hfr.mono ?_)
           (rintro e w2 ⟨q, bbn, bcn, cn, rfl, g1, g2, g3, g4, g5, q1, q2, q3, q4, q5, hb2⟩)))
      have hbw2 : Below w.heap.size w w2 := hbel.trans (hb2.mono hbel.size)
      have hsz := hbel.size
      obtain ⟨fb, hmb, hfb⟩ := h.bad
      have hmb2 : MapIs w2.drew bb fb := (hmb.below hbw2 hmb.lt).kept rfl
      have hclb := clone_bad bb fb w2.drew hmb2
      have k1 : w2.cell? ⟨p, 1, none⟩ = some (.bool s.dead) := (hbw2.cell (p := ⟨p, 1, none⟩) hplt).trans h1
      have k2 : w2.cell? ⟨p, 2, none⟩ = some (.map (some bb)) := (hbw2.cell (p := ⟨p, 2, none⟩) hplt).trans h2
      have hqp : q ≠ p := by omega
      refine wp_region_held_drew (S := fun wz => wz.cell? ⟨p, 1, none⟩ = some (.bool s.dead) ∧ wz.cell? ⟨p, 2, none⟩ = some (.map (some bb))) (by kernel_rfl) ⟨k1, k2⟩ (fun hHeld => ?_)
      refine takeTo 0 (some 66) (ptr q) rfl rfl (by kernel_rfl) (by kernel_rfl) (by kernel_rfl) (fun _ _ _ h => h) (by rfl) (fun _ _ => rfl) hHeld ?_
      simp only [Act.put, List.setIfInBounds_toArray, List.set_cons_zero, List.set_cons_succ]
      refine takeTo 1 (some 67) (ptr q) rfl rfl (by kernel_rfl) (by kernel_rfl) (by kernel_rfl) (fun _ _ _ h => h) (by rfl) (fun _ _ => rfl) hHeld ?_
      simp only [Act.put, List.setIfInBounds_toArray, List.set_cons_zero, List.set_cons_succ]
      refine takeTo 2 (some 68) (ptr p) rfl rfl (by kernel_rfl) (by kernel_rfl) (by kernel_rfl) (fun _ _ _ h => h) (by rfl) (fun _ _ => rfl) hHeld ?_
      simp only [Act.put, List.setIfInBounds_toArray, List.set_cons_zero, List.set_cons_succ]
      refine takeTo 3 (some 69) (.pointer (some ⟨p, 0, none⟩)) rfl rfl (by kernel_rfl) (by kernel_rfl) (by kernel_rfl) (fun _ _ _ h => h) (by rfl) (fun _ _ => rfl) hHeld ?_
      simp only [Act.put, List.setIfInBounds_toArray, List.set_cons_zero, List.set_cons_succ]
      refine takeTo 4 (some 70) (.pointer (some ⟨p, 1, none⟩)) rfl rfl (by kernel_rfl) (by kernel_rfl) (by kernel_rfl) (fun _ _ _ h => h) (by rfl) (fun _ _ => rfl) hHeld ?_
      simp only [Act.put, List.setIfInBounds_toArray, List.set_cons_zero, List.set_cons_succ]
      refine takeTo 5 (some 71) (.bool s.dead) rfl rfl (by kernel_rfl) (by kernel_rfl) (by kernel_rfl) (fun _ _ _ h => h) (by rfl) (fun wz hz => run_load_bo _ rfl _ rfl _ wz hz.1) hHeld ?_
      simp only [Act.put, List.setIfInBounds_toArray, List.set_cons_zero, List.set_cons_succ]
      refine takeTo 6 (some 72) (ptr p) rfl rfl (by kernel_rfl) (by kernel_rfl) (by kernel_rfl) (fun _ _ _ h => h) (by rfl) (fun _ _ => rfl) hHeld ?_
      simp only [Act.put, List.setIfInBounds_toArray, List.set_cons_zero, List.set_cons_succ]
      refine takeTo 7 (some 73) (.pointer (some ⟨p, 0, none⟩)) rfl rfl (by kernel_rfl) (by kernel_rfl) (by kernel_rfl) (fun _ _ _ h => h) (by rfl) (fun _ _ => rfl) hHeld ?_
      simp only [Act.put, List.setIfInBounds_toArray, List.set_cons_zero, List.set_cons_succ]
      refine takeTo 8 (some 74) (.pointer (some ⟨p, 2, none⟩)) rfl rfl (by kernel_rfl) (by kernel_rfl) (by kernel_rfl) (fun _ _ _ h => h) (by rfl) (fun _ _ => rfl) hHeld ?_
      simp only [Act.put, List.setIfInBounds_toArray, List.set_cons_zero, List.set_cons_succ]
      refine takeTo 9 (some 75) (.map (some bb)) rfl rfl (by kernel_rfl) (by kernel_rfl) (by kernel_rfl) (fun _ _ _ h => h) (by rfl) (fun wz hz => run_load_bm _ rfl _ rfl _ wz hz.2) hHeld ?_
      simp only [Act.put, List.setIfInBounds_toArray, List.set_cons_zero, List.set_cons_succ]
      refine callTo 10 (some 76) 72 #[.map (some bb)] (by kernel_rfl) rfl rfl (by rfl) (by kernel_rfl) hclb ?_
      rintro e w3 ⟨rfl, hm3, hb3⟩
      have hb23 : Below w2.heap.size w2 w3 := (Below.refl _ w2).drew.trans hb3
      have hbw3 : Below w.heap.size w w3 := hbw2.trans (hb23.mono hbw2.size)
      have hHeld : w3.cell? ⟨p, 1, none⟩ = some (.bool s.dead) ∧ w3.cell? ⟨p, 2, none⟩ = some (.map (some bb)) := ⟨(hbw3.cell (p := ⟨p, 1, none⟩) hplt).trans h1, (hbw3.cell (p := ⟨p, 2, none⟩) hplt).trans h2⟩
      refine ⟨_, rfl, hHeld, ?_⟩
      simp only [Act.put, List.setIfInBounds_toArray, List.set_cons_zero, List.set_cons_succ]
      obtain ⟨bn, hbn⟩ : ∃ bn, bn = w2.heap.size := ⟨_, rfl⟩
      rw [show w2.drew.heap.size = bn from hbn.symm] at hm3 ⊢
      refine takeTo 11 (some 77) (.pointer (some ⟨q, 0, none⟩)) rfl rfl (by kernel_rfl) (by kernel_rfl) (by kernel_rfl) (fun _ _ _ h => h) (by rfl) (fun _ _ => rfl) hHeld ?_
      simp only [Act.put, List.setIfInBounds_toArray, List.set_cons_zero, List.set_cons_succ]
      refine takeTo 12 (some 78) (.pointer (some ⟨q, 1, none⟩)) rfl rfl (by kernel_rfl) (by kernel_rfl) (by kernel_rfl) (fun _ _ _ h => h) (by rfl) (fun _ _ => rfl) hHeld ?_
      simp only [Act.put, List.setIfInBounds_toArray, List.set_cons_zero, List.set_cons_succ]
      have g13 : Has w3 q 77 (dcells s.n false bbn b9 bcn nilS nilS 0 cn) := g1.below hb23 g1.lt
      have hO4 := only_setCell w3 q 1 (.bool s.dead)
      have g14 : Has (w3.setCell ⟨q, 1, none⟩ (.bool s.dead)) q 77 (dcells s.n s.dead bbn b9 bcn nilS nilS 0 cn) := g13.setV 1 (.bool s.dead)
      have hHeld4 : (w3.setCell ⟨q, 1, none⟩ (.bool s.dead)).cell? ⟨p, 1, none⟩ = some (.bool s.dead) ∧ (w3.setCell ⟨q, 1, none⟩ (.bool s.dead)).cell? ⟨p, 2, none⟩ = some (.map (some bb)) := ⟨(hO4.cell (p := ⟨p, 1, none⟩) (Nat.lt_of_lt_of_le hplt hbw3.size) hqp.symm).trans hHeld.1, (hO4.cell (p := ⟨p, 2, none⟩) (Nat.lt_of_lt_of_le hplt hbw3.size) hqp.symm).trans hHeld.2⟩
      refine ready1 13 (by kernel_rfl) (stepSkip none (w3.setCell ⟨q, 1, none⟩ (.bool s.dead)) rfl rfl (by rfl) (run_store_bo _ _ rfl ⟨q, 1, none⟩ rfl s.dead rfl w3 _ (g13.cell 1) (g13.free 1)) ⟨hHeld4, ?_⟩)
      simp only [Act.put]
      obtain ⟨w4, hw4⟩ : ∃ w4, w4 = w3.setCell ⟨q, 1, none⟩ (.bool s.dead) := ⟨_, rfl⟩
      rw [← hw4] at hO4 g14 hHeld4 ⊢
      refine takeTo 14 (some 79) (.pointer (some ⟨q, 0, none⟩)) rfl rfl (by kernel_rfl) (by kernel_rfl) (by kernel_rfl) (fun _ _ _ h => h) (by rfl) (fun _ _ => rfl) hHeld4 ?_
      simp only [Act.put, List.setIfInBounds_toArray, List.set_cons_zero, List.set_cons_succ]
      refine takeTo 15 (some 80) (.pointer (some ⟨q, 2, none⟩)) rfl rfl (by kernel_rfl) (by kernel_rfl) (by kernel_rfl) (fun _ _ _ h => h) (by rfl) (fun _ _ => rfl) hHeld4 ?_
      simp only [Act.put, List.setIfInBounds_toArray, List.set_cons_zero, List.set_cons_succ]
      have hO5 := only_setCell w4 q 2 (.map (some bn))
      have g15 : Has (w4.setCell ⟨q, 2, none⟩ (.map (some bn))) q 77 (dcells s.n s.dead bn b9 bcn nilS nilS 0 cn) := g14.setV 2 (.map (some bn))
      have hHeld5 : (w4.setCell ⟨q, 2, none⟩ (.map (some bn))).cell? ⟨p, 1, none⟩ = some (.bool s.dead) ∧ (w4.setCell ⟨q, 2, none⟩ (.map (some bn))).cell? ⟨p, 2, none⟩ = some (.map (some bb)) := ⟨(hO5.cell (p := ⟨p, 1, none⟩) (Nat.lt_of_lt_of_le hplt (Nat.le_trans hbw3.size hO4.size)) hqp.symm).trans hHeld4.1, (hO5.cell (p := ⟨p, 2, none⟩) (Nat.lt_of_lt_of_le hplt (Nat.le_trans hbw3.size hO4.size)) hqp.symm).trans hHeld4.2⟩
      refine ready1 16 (by kernel_rfl) (stepSkip none (w4.setCell ⟨q, 2, none⟩ (.map (some bn))) rfl rfl (by rfl) (run_store_bm _ _ rfl ⟨q, 2, none⟩ rfl (some bn) rfl w4 _ (g14.cell 2) (g14.free 2)) ⟨hHeld5, ?_⟩)
      simp only [Act.put]
      obtain ⟨w5, hw5⟩ : ∃ w5, w5 = w4.setCell ⟨q, 2, none⟩ (.map (some bn)) := ⟨_, rfl⟩
      rw [← hw5] at hO5 g15 ⊢
      clear hw4 hw5
      refine wpAnyH_done (by kernel_rfl) ?_ _
      go_wp2
      go_ret
      have hO35 : Only (fun k => k = q) w3 w5 := hO4.trans hO5 (fun _ _ h => h)
      have hbw5 : Below w.heap.size w w5 := hbw3.trans (hO35.below (fun k hk => by rw [hk]; omega) hbw3.size)
      have n3 : MapIs w3 b9 f9 := g3.below hb23 g3.lt
      have n4 : MapIs w3 bcn f9 := g4.below hb23 g4.lt
      have n5 : Has w3 cn 104 #[.int .i64 ((0 : Nat) : Int)] := g5.below hb23 g5.lt
      have m3 : MapIs w5 b9 f9 := n3.only hO35 (n3.ne g13)
      have m4 : MapIs w5 bcn f9 := n4.only hO35 (n4.ne g13)
      have m2 : MapIs w5 bn fb := hm3.only hO35 (hm3.ne g13)
      have m5 : Has w5 cn 104 #[.int .i64 ((0 : Nat) : Int)] := (hO35.block cn n5.lt (cells_ne n5 g13 (by decide))).trans n5
      have l3 := g3.lt
      have l4 := g4.lt
      have l5 := g5.lt
      have l9 := hm9.lt
      have lb := hb2.size
      refine ⟨q, cn, bn, b9, bcn, rfl, ⟨g15, h.n1, h.n2, ⟨fb, m2, hfb⟩, ⟨f9, m3, hf9⟩, ⟨f9, m4, hf9⟩, World.ownsRow_nil _ _ _ _, World.ownsRow_nil _ _ _ _, by omega, by omega, by omega, List.Pairwise.nil⟩, m5, ?_, by omega, ?_, hbw5⟩
      · exact foot_new (by omega) (by omega) hb9 (by omega)
      · rintro (e | e | e | e | e | e)
        · exact cells_ne m5 g15 (by decide) e
        · omega
        · exact m3.ne m5 e.symm
        · exact m4.ne m5 e.symm
        · cases e
        · cases e
end Go.Proofs.YtoiaclmfljoomaaDoor

/- device: Cut. -/
namespace Go.Proofs.YtoiaclmfljoomaaDoor
open Go.ChangeShapes Go.WideShapes Go.ChangeAt Go.RowKit
set_option linter.unusedVariables false

variable {w w' : World} {p c bb bs bc : Nat} {s : DS} {vw vs : Value}

theorem RepAt.below (h : RepAt w p s c bb bs bc vw vs) (hb : Below w.heap.size w w') : RepAt w' p s c bb bs bc vw vs := h.kept (fun k hk => hb.block k (h.lt k hk))

theorem Bools.down {a : Option Addr} {L : Nat} {kf : Nat → Bool} (h : Bools w a L kf) (hb : Below w.heap.size w w') : Bools w' a L kf := by
  rcases h with h | ⟨b, o, h1, h2, h3⟩
  · exact .inl h
  · exact .inr ⟨b, o, h1, Nat.lt_of_lt_of_le h2 hb.size, fun j hj => (hb.cell (p := ⟨b, o + j, none⟩) h2).trans (h3 j hj)⟩

theorem LeftPost.up {w1 : World} {e : Ending} {s' s'' : DS} (h : LeftPost w1 w' e s') (hb : Below w.heap.size w w1) (hs : s' = s'') : LeftPost w w' e s'' := by
  subst hs
  obtain ⟨q, c', b1, b2, b3, h1, h2, h3, h4, h5, h6, h7⟩ := h
  exact ⟨q, c', b1, b2, b3, h1, h2, h3, fun k hk => Nat.le_trans hb.size (h4 k hk), Nat.le_trans hb.size h5, h6, hb.trans (h7.mono hb.size)⟩

theorem filter_all (l : List (Nat × Int)) : l.filter (fun _ => true) = l := by simp

set_option maxRecDepth 100000 in
set_option maxHeartbeats 2000000 in
theorem cut_r (h : RepAt w p s c bb bs bc vw vs) (a : Option Addr) (L C : Nat) (kf : Nat → Bool) (hk : Bools w a L kf) (hlen : s.log.length ≤ 100000) :
    Calls Tryd.prog 18 #[ptr p, .slice a L C] w fun e w' => LeftPost w w' e (cutD s (keepOf kf L)) := by
  have hwl : wrs s.log ≤ s.log.length := List.length_filter_le _ _
  have hsy := synced_all h hlen
  rw [filter_all] at hsy
  have hle : lastS (syOf s.log) ≤ 100000 := by
    have := last_le s.log (fun _ => true) (syOf s.log).length
    rw [filter_all, List.take_length] at this
    omega
  have hfin : (⟨s.n, clo (keepOf kf L) (lastS (syOf s.log)) 0 0 ((ws s.log).take (wrs s.log)) s.fst, [], s.bad, s.dead⟩ : DS) = cutD s (keepOf kf L) := by
    unfold cutD cutL
    rw [left_prog, ← ws_len, List.take_length]
  have h5 : w.cell? ⟨p, 5, none⟩ = some vw := h.cell 5
  have hplt := h.has.lt
  have hlf := fun w1 (hb : Below w.heap.size w w1) => left_r (h.below hb) (wrs s.log) (lastS (syOf s.log)) (Nat.le_refl _) hle a L C kf (hk.down hb) hlen
  obtain ⟨aw, capw, rfl, _⟩ := own_slice h.wr
  clear h hk
  go_enter Tryd.func18, Tryd.ntmps18
  go_wp2_with (first
    | ((go_at_call 47)
       (refine hsy.mono ?_)
       (rintro e w1 ⟨rfl, hb1⟩)
       (have k5 : w1.cell? ⟨p, 5, none⟩ = some (.slice aw (wrs s.log) capw) := (hb1.cell (p := ⟨p, 5, none⟩) hplt).trans h5)
       (have hl1 := hlf w1 hb1)
       (clear hlf))
    | ((go_at_call 49)
       (refine hl1.mono ?_)
       (intro e w2 hpost)
       (obtain ⟨q, c', b1, b2, b3, rfl, r2⟩ := hpost)))
  go_ret
  exact LeftPost.up (w1 := w1) ⟨q, c', b1, b2, b3, rfl, r2⟩ hb1 hfin

end Go.Proofs.YtoiaclmfljoomaaDoor

/- What is asked of device's calls is so of the program. -/
namespace Go.Proofs.YtoiaclmfljoomaaDoor
open Go.ChangeShapes Go.WideShapes Go.ChangeAt Go.RowKit
set_option linter.unusedVariables false

theorem dev_of_left {w w' : World} {e : Ending} {s' : DS} {F : Nat → Prop} (hs : s'.log = []) (h : LeftPost w w' e s') : Below w.heap.size w w' ∧ ∃ p' c' F', e = .returned (ptr p') ∧ Grew w F F' ∧ w.heap.size ≤ c' ∧ Dev theRep w' p' s' c' 0 F' := by
  obtain ⟨q, c', b1, b2, b3, h1, h2, h3, h4, h5, h6, h7⟩ := h
  refine ⟨h7, q, c', Foot q b1 b2 b3 nilS nilS, h1, fun k hk => .inr (h4 k hk), h5, ⟨b1, b2, b3, nilS, nilS, h2, fun _ => Iff.rfl⟩, h3, h6, fun e he => ?_⟩
  rw [hs] at he
  cases he

theorem foot_iff {F G : Nat → Prop} (h : ∀ k, F k ↔ G k) (k : Nat) (hk : F k) : G k := (h k).1 hk

theorem theDev : DevOk theRep where
  lt := by
    rintro w p s c F ⟨bb, bs, bc, vw, vs, h, hF⟩ k hk
    exact h.lt k ((hF k).1 hk)
  clt := by
    intro w c m h
    exact Has.lt h
  kept := by
    rintro w w' p s c F ⟨bb, bs, bc, vw, vs, h, hF⟩ _ hb
    exact ⟨bb, bs, bc, vw, vs, h.kept (fun k hk => hb k ((hF k).2 hk)), hF⟩
  ckept := by
    intro w w' c m h hb
    exact hb.trans h
  new := fun n w h1 h2 => new_r n w h1 h2
  newNo := fun n w hn h => newNo_r n w hn h
  write := by
    rintro w p s c m F i a L cap b ⟨⟨bb, bs, bc, vw, vs, h, hF⟩, hc, hcF, hp⟩ hi hm hl hLc hLm hnil hb hbyt hap
    by_cases h0 : wrErr s i L = 0
    · obtain ⟨_, hi0, hi1, _⟩ := wr_inside s i L h0
      have hI : i = ((i.toNat : Nat) : Int) := by omega
      have hw := write_c h hc (fun e => hcF ((hF c).2 e)) hp i.toNat a L cap b hb hm hl (by rw [← hI]; exact h0)
      rw [← hI] at hw
      refine hw.mono ?_
      rintro e w' ⟨rfl, vw', ho, hg, hc', hr⟩
      refine ⟨by rw [h0], .inr ⟨h0, ho.mono (fun k hk => hk.imp (hF k).2 id), Foot p bb bs bc vw' vs, fun k hk => (foot_grew hg k hk).imp (hF k).2 id, ⟨bb, bs, bc, vw', vs, hr, fun _ => Iff.rfl⟩, hc', fun e => ?_, past_add s m hp _ _ _ _⟩⟩
      rcases foot_grew hg c e with h1 | h1
      · exact hcF ((hF c).2 h1)
      · have := hc.lt
        omega
    · refine (writeNo_c h i a L cap h0).mono ?_
      rintro e w' ⟨rfl, hw'⟩
      exact ⟨rfl, .inl ⟨h0, by rw [hw']; exact Below.refl _ _⟩⟩
  sync := by
    rintro w p s c m F ⟨⟨bb, bs, bc, vw, vs, h, hF⟩, hc, hcF, hp⟩ hm hl
    have hpast : Past (syncD s (m : Nat)) m := by
      intro e he
      have he' : e ∈ s.log ++ [_] := he
      rcases List.mem_append.1 he' with h1 | h1
      · exact hp e h1
      · rw [List.mem_singleton] at h1
        rw [h1]
        exact Int.le_refl _
    cases hd : s.dead
    · by_cases h0 : pend s.log = 0
      · refine (sync0_c h hp hd h0).mono ?_
        rintro e w' ⟨rfl, hw', hr⟩
        obtain rfl : w = w' := hw'.symm
        exact ⟨rfl, .inr ⟨rfl, Only.refl _ _, F, fun k hk => .inl hk, ⟨bb, bs, bc, vw, vs, hr, hF⟩, hc, hcF, hpast⟩⟩
      · refine (sync1_c h hc (fun e => hcF ((hF c).2 e)) hp hd (by omega) hm hl).mono ?_
        rintro e w' ⟨rfl, vs', ho, hg, hr⟩
        have hgr : ∀ k, Foot p bb bs bc vw vs' k → Foot p bb bs bc vw vs k ∨ w.heap.size ≤ k := fun k hk => by
          rcases hk with q | q | q | q | q | q
          · exact .inl (.inl q)
          · exact .inl (.inr (.inl q))
          · exact .inl (.inr (.inr (.inl q)))
          · exact .inl (.inr (.inr (.inr (.inl q))))
          · exact .inl (.inr (.inr (.inr (.inr (.inl q)))))
          · rcases hg k q with q | q
            · exact .inl (.inr (.inr (.inr (.inr (.inr q)))))
            · exact .inr q
        refine ⟨rfl, .inr ⟨rfl, ho.mono (fun k hk => (hF k).2 (hk.elim .inl (fun q => .inr (.inr (.inr (.inr (.inr q))))))), Foot p bb bs bc vw vs', fun k hk => (hgr k hk).imp (hF k).2 id, ⟨bb, bs, bc, vw, vs', hr, fun _ => Iff.rfl⟩, ?_, fun e => ?_, hpast⟩⟩
        · refine (ho.block c (Has.lt hc) ?_).trans hc
          rintro (q | q)
          · exact hcF ((hF c).2 (.inl q))
          · exact hcF ((hF c).2 (.inr (.inr (.inr (.inr (.inr q))))))
        · rcases hgr c e with h1 | h1
          · exact hcF ((hF c).2 h1)
          · have := Has.lt hc
            omega
    · refine (syncDead_c h hd).mono ?_
      rintro e w' ⟨rfl, hw'⟩
      exact ⟨rfl, .inl ⟨rfl, by rw [hw']; exact Below.refl _ _⟩⟩
  read := by
    rintro w p s c m F i ⟨⟨bb, bs, bc, vw, vs, h, hF⟩, hc, hcF, hp⟩ hi
    exact read_r h i
  spoil := by
    rintro w p s c m F i ⟨⟨bb, bs, bc, vw, vs, h, hF⟩, hc, hcF, hp⟩ hi
    have hrf : rfErr s i = 0 ↔ (s.dead = false ∧ 0 ≤ i ∧ i < s.n) := by
      unfold rfErr
      cases s.dead
      · by_cases h2 : i < 0 ∨ (s.n : Int) ≤ i
        · rw [if_neg (by simp), if_pos h2]
          constructor
          · intro h; cases h
          · rintro ⟨_, h3, h4⟩; omega
        · rw [if_neg (by simp), if_neg h2]
          exact ⟨fun _ => ⟨rfl, by omega, by omega⟩, fun _ => rfl⟩
      · rw [if_pos rfl]
        constructor
        · intro h; cases h
        · rintro ⟨h, _⟩; cases h
    by_cases h0 : rfErr s i = 0
    · refine (spoil_r h i h0).mono ?_
      rintro e w' ⟨rfl, ho, hr⟩
      refine ⟨rfl, .inr ⟨hrf.1 h0, ho.mono (fun k hk => (hF k).2 (.inr (.inl hk))), F, fun k hk => .inl hk, ⟨bb, bs, bc, vw, vs, hr, hF⟩, ?_, hcF, hp⟩⟩
      exact (ho.block c (Has.lt hc) (fun q => hcF ((hF c).2 (.inr (.inl q))))).trans hc
    · refine (spoilNo_r h i h0).mono ?_
      rintro e w' ⟨rfl, hw'⟩
      exact ⟨rfl, .inl ⟨fun q => h0 (hrf.2 q), by rw [hw']; exact Below.refl _ _⟩⟩
  kill := by
    rintro w p s c m F ⟨⟨bb, bs, bc, vw, vs, h, hF⟩, hc, hcF, hp⟩
    refine (kill_r h).mono ?_
    rintro e w' ⟨rfl, ho, hr⟩
    refine ⟨rfl, ho.mono (fun k hk => (hF k).2 (.inl hk)), F, fun k hk => .inl hk, ⟨bb, bs, bc, vw, vs, hr, hF⟩, ?_, hcF, hp⟩
    exact (ho.block c (Has.lt hc) (fun q => hcF ((hF c).2 (.inl q)))).trans hc
  isDead := by
    rintro w p s c m F ⟨⟨bb, bs, bc, vw, vs, h, hF⟩, hc, hcF, hp⟩
    refine (dead_r h).mono ?_
    rintro e w' ⟨rfl, hw'⟩
    exact ⟨rfl, by rw [hw']; exact Below.refl _ _⟩
  pending := by
    rintro w p s c m F ⟨⟨bb, bs, bc, vw, vs, h, hF⟩, hc, hcF, hp⟩ hl
    refine (pending_r h).mono ?_
    rintro e w' ⟨rfl, hw'⟩
    exact ⟨rfl, by rw [hw']; exact Below.refl _ _⟩
  cut := by
    rintro w p s c m F a L cap k ⟨⟨bb, bs, bc, vw, vs, h, hF⟩, hc, hcF, hp⟩ hl hL hLc hk
    exact (cut_r h a L cap k hk hl).mono fun e w' hpost => dev_of_left rfl hpost
end Go.Proofs.YtoiaclmfljoomaaDoor

/- device: Size, Moment. -/
namespace Go.Proofs.YtoiaclmfljoomaaDoor
open Go.ChangeShapes Go.WideShapes Go.ChangeAt Go.RowKit
set_option linter.unusedVariables false

variable {w w' : World} {p c bb bs bc : Nat} {s : DS} {vw vs : Value}

theorem size_r (h : RepAt w p s c bb bs bc vw vs) : Calls Tryd.prog 37 #[ptr p] w fun e w' => e = .returned (.int .i64 (s.n : Nat)) ∧ w' = w := by
  have h0 : w.cell? ⟨p, 0, none⟩ = some (.int .i64 (s.n : Nat)) := h.cell 0
  clear h
  go_enter Tryd.func37, Tryd.ntmps37
  go_wp2
  go_ret
  exact ⟨rfl, rfl⟩

end Go.Proofs.YtoiaclmfljoomaaDoor

/- What is asked of device's other calls is so of the program, as far as this seat has them. -/
namespace Go.Proofs.YtoiaclmfljoomaaDoor
open Go.ChangeShapes Go.WideShapes Go.ChangeAt Go.RowKit
set_option linter.unusedVariables false

theorem theMore : DevMore theRep where
  size := by
    rintro w p s c m F ⟨⟨bb, bs, bc, vw, vs, h, hF⟩, hc, hcF, hp⟩
    refine (size_r h).mono ?_
    rintro e w' ⟨rfl, hw'⟩
    exact ⟨rfl, by rw [hw']; exact Below.refl _ _⟩
  isBad := by
    rintro w p s c m F i ⟨⟨bb, bs, bc, vw, vs, h, hF⟩, hc, hcF, hp⟩ hi
    exact bad_r h i
end Go.Proofs.YtoiaclmfljoomaaDoor

/- The law's stands: just these records on a device, noughts behind them, all safe. -/
namespace Go.Proofs.YtoiaclmfljoomaaDoor
open Go.ChangeShapes Go.WideShapes Go.ChangeAt Go.RowKit
set_option linter.unusedVariables false

def standsB (s : DS) (ls : List RC) : Bool := rlikes (recsOf (byOf (holds s)) (reads dgS (byOf (holds s)) (64 * s.n) 0).1) ls && (blankB (byOf (holds s)) (64 * s.n) (reads dgS (byOf (holds s)) (64 * s.n) 0).2 && decide (pend s.log = 0))

theorem reads_end_le (B : Nat → Nat) (N : Nat) : (reads dgS B N 0).2 ≤ N := (readF_laid (dg := dgS) (B := B) (N := N) (N + 1) 0).2.2.2 (Nat.zero_le _)

theorem recsOf_len (B : Nat → Nat) (l : List (Nat × Nat)) : (recsOf B l).length = l.length := by simp [recsOf]

set_option maxRecDepth 100000 in
set_option maxHeartbeats 4000000 in
theorem stands_any {D : DevRep} (hD : DevOk D) (hM : DevMore D) {w : World} {p c m : Nat} {s : DS} {F : Nat → Prop} (h : Dev D w p s c m F) (hs : Sound s) (hn : s.n ≤ 125) (hl : s.log.length ≤ 100000) {a : Option Addr} {n cap : Nat} {ls : List RC} (hr : Rl w a ls) (e : n = ls.length) :
    Calls Tryd.prog 28 #[ptr p, .slice a n cap] w fun e w' => e = .returned (.bool (standsB s ls)) ∧ Below w.heap.size w w' := by
  have C1 := content_any hD hM h hs
  have E : Hid (n = ls.length) := e
  clear e
  unfold standsB
  obtain ⟨N, hN⟩ : ∃ N, N = 64 * s.n := ⟨_, rfl⟩
  obtain ⟨B, hB⟩ : ∃ B, B = byOf (holds s) := ⟨_, rfl⟩
  rw [← hN, ← hB] at C1 ⊢
  have hN8 : N ≤ 8000 := by omega
  clear hN hB
  have hle := reads_end_le B N
  generalize hX : rlikes (recsOf B (reads dgS B N 0).1) ls = X
  generalize hY : blankB B N (reads dgS B N 0).2 = Y
  generalize hZ : decide (pend s.log = 0) = Z
  have HX : Hid (rlikes (recsOf B (reads dgS B N 0).1) ls = X) := hX
  have HY : Hid (blankB B N (reads dgS B N 0).2 = Y) := hY
  have HZ : Hid (decide (pend s.log = 0) = Z) := hZ
  clear hX hY hZ
  cases X
  · have z1 : (((pend s.log : Nat) : Int) == 0) = decide (pend s.log = 0) := by
      rw [Bool.eq_iff_iff]
      simp
    rw [HZ.out] at z1
    go_enter Tryd.func28, Tryd.ntmps28
    go_wp2_with (first
      | ((go_at_call 53)
         (refine C1.mono ?_)
         (rintro e w1 ⟨a1, c1, rfl, h1, hb1⟩)
         (clear C1)
         (have R1 := read_any h1 hN8))
      | ((go_at_call 54)
         (refine Calls.mono R1 ?_)
         (rintro e w2 ⟨hb2, a2, c2, rfl, h2⟩)
         (clear R1)
         (have hb12 := hb1.trans (hb2.mono hb1.size))
         (have S1 := samer_any (c1 := c2) (c2 := cap) h2 (hr.below hb12 (Nat.le_refl _)) (recsOf_len _ _).symm E.out)
         (rw [HX.out] at S1))
      | ((go_at_call 23)
         (refine S1.mono ?_)
         (rintro e w3 ⟨rfl, hb3⟩)
         (clear S1)
         (have hb13 := hb12.trans (hb3.mono hb12.size))
         (have hb23 := hb2.trans (hb3.mono hb2.size))
         (have B1 := blank_any (h1.below hb23 (Nat.le_refl _)) (by omega) (show (reads dgS B N 0).2 ≤ 1000000 by omega))
         (rw [HY.out] at B1))
      | ((go_at_call 55)
         (refine B1.mono ?_)
         (rintro e wz ⟨rfl, hz⟩)
         (obtain rfl : w3 = wz := hz.symm)
         (clear B1)
         (have P1 := hD.pending w3 p s c m F (h.below hD hb13 (Nat.le_refl _)) hl))
      | ((go_at_call 56)
         (refine P1.mono ?_)
         (rintro e w4 ⟨rfl, hb4⟩)
         (clear P1)
         (have hb14 := hb13.trans (hb4.mono hb13.size))))
    go_ret
    first
      | exact ⟨rfl, hb14⟩
      | exact ⟨rfl, hb13⟩
  · cases Y
    · have z1 : (((pend s.log : Nat) : Int) == 0) = decide (pend s.log = 0) := by
        rw [Bool.eq_iff_iff]
        simp
      rw [HZ.out] at z1
      go_enter Tryd.func28, Tryd.ntmps28
      go_wp2_with (first
        | ((go_at_call 53)
           (refine C1.mono ?_)
           (rintro e w1 ⟨a1, c1, rfl, h1, hb1⟩)
           (clear C1)
           (have R1 := read_any h1 hN8))
        | ((go_at_call 54)
           (refine Calls.mono R1 ?_)
           (rintro e w2 ⟨hb2, a2, c2, rfl, h2⟩)
           (clear R1)
           (have hb12 := hb1.trans (hb2.mono hb1.size))
           (have S1 := samer_any (c1 := c2) (c2 := cap) h2 (hr.below hb12 (Nat.le_refl _)) (recsOf_len _ _).symm E.out)
           (rw [HX.out] at S1))
        | ((go_at_call 23)
           (refine S1.mono ?_)
           (rintro e w3 ⟨rfl, hb3⟩)
           (clear S1)
           (have hb13 := hb12.trans (hb3.mono hb12.size))
           (have hb23 := hb2.trans (hb3.mono hb2.size))
           (have B1 := blank_any (h1.below hb23 (Nat.le_refl _)) (by omega) (show (reads dgS B N 0).2 ≤ 1000000 by omega))
           (rw [HY.out] at B1))
        | ((go_at_call 55)
           (refine B1.mono ?_)
           (rintro e wz ⟨rfl, hz⟩)
           (obtain rfl : w3 = wz := hz.symm)
           (clear B1)
           (have P1 := hD.pending w3 p s c m F (h.below hD hb13 (Nat.le_refl _)) hl))
        | ((go_at_call 56)
           (refine P1.mono ?_)
           (rintro e w4 ⟨rfl, hb4⟩)
           (clear P1)
           (have hb14 := hb13.trans (hb4.mono hb13.size))))
      go_ret
      first
        | exact ⟨rfl, hb14⟩
        | exact ⟨rfl, hb13⟩
    · have z1 : (((pend s.log : Nat) : Int) == 0) = decide (pend s.log = 0) := by
        rw [Bool.eq_iff_iff]
        simp
      rw [HZ.out] at z1
      go_enter Tryd.func28, Tryd.ntmps28
      go_wp2_with (first
        | ((go_at_call 53)
           (refine C1.mono ?_)
           (rintro e w1 ⟨a1, c1, rfl, h1, hb1⟩)
           (clear C1)
           (have R1 := read_any h1 hN8))
        | ((go_at_call 54)
           (refine Calls.mono R1 ?_)
           (rintro e w2 ⟨hb2, a2, c2, rfl, h2⟩)
           (clear R1)
           (have hb12 := hb1.trans (hb2.mono hb1.size))
           (have S1 := samer_any (c1 := c2) (c2 := cap) h2 (hr.below hb12 (Nat.le_refl _)) (recsOf_len _ _).symm E.out)
           (rw [HX.out] at S1))
        | ((go_at_call 23)
           (refine S1.mono ?_)
           (rintro e w3 ⟨rfl, hb3⟩)
           (clear S1)
           (have hb13 := hb12.trans (hb3.mono hb12.size))
           (have hb23 := hb2.trans (hb3.mono hb2.size))
           (have B1 := blank_any (h1.below hb23 (Nat.le_refl _)) (by omega) (show (reads dgS B N 0).2 ≤ 1000000 by omega))
           (rw [HY.out] at B1))
        | ((go_at_call 55)
           (refine B1.mono ?_)
           (rintro e wz ⟨rfl, hz⟩)
           (obtain rfl : w3 = wz := hz.symm)
           (clear B1)
           (have P1 := hD.pending w3 p s c m F (h.below hD hb13 (Nat.le_refl _)) hl))
        | ((go_at_call 56)
           (refine P1.mono ?_)
           (rintro e w4 ⟨rfl, hb4⟩)
           (clear P1)
           (have hb14 := hb13.trans (hb4.mono hb13.size))))
      go_ret
      first
        | exact ⟨rfl, hb14⟩
        | exact ⟨rfl, hb13⟩
end Go.Proofs.YtoiaclmfljoomaaDoor
