/- device: Sync. -/
import Derived.Test.YtancebpjfbbcaaaDwWrite
namespace Go.Proofs.Ytancebpjfbbcaaa
open Go.ChangeShapes Go.WideShapes Go.ChangeAt Go.RowKit
set_option linter.unusedVariables false

variable {w w' : World} {p c bb bs bc : Nat} {s : DS} {vw vs : Value}

theorem run_load_ss {o : Oper} {a : Act} (x : Operand) (ho : o.op = .load 89 x) (p : Addr) (hx : a.eval x = .pointer (some p)) (v : Value) (w : World) (h : w.cell? p = some v) : (execOp a.eval o).run Try.prog w = .ok (.value v) w := by
  unfold execOp
  simp only [ho, hx]
  go_simp

theorem run_store_ss {o : Oper} {a : Act} (x y : Operand) (ho : o.op = .store 89 x y) (p : Addr) (hx : a.eval x = .pointer (some p)) (A : Option Addr) (n c : Nat) (hy : a.eval y = .slice A n c) (w : World) (u : Value) (h : w.cell? p = some u) (hf : w.frozen? p = false) : (execOp a.eval o).run Try.prog w = .ok .skip (w.setCell p (.slice A n c)) := by
  unfold execOp
  simp only [ho, hx, hy]
  go_simp

theorem run_build_s {o : Oper} {a : Act} (x1 x2 : Operand) (ho : o.op = .build 114 #[(0, x1), (1, x2)]) (n m : Nat) (h1 : a.eval x1 = .int .i64 (n : Nat)) (h2 : a.eval x2 = .int .i64 (m : Nat)) (w : World) :
    (execOp a.eval o).run Try.prog w = .ok (.value (.agg (scells (n, (m : Nat))).toArray)) w := by
  unfold execOp
  simp only [ho, List.map_toArray, List.map_cons, List.map_nil, h1, h2]
  kernel_rfl

theorem run_bs_s {o : Oper} {a : Act} (x : Operand) (ho : o.op = .buildSlice 89 1 #[(0, x)]) (e : Nat × Int) (hx : a.eval x = .agg (scells e).toArray) (w : World) :
    (execOp a.eval o).run Try.prog w = .ok (.value (.slice (some ⟨w.heap.size, 0, none⟩) 1 1)) (w.alloc (.cells (scells e).toArray 114)) := by
  unfold execOp
  simp only [ho, List.map_toArray, List.map_cons, List.map_nil, hx]
  kernel_rfl

/-- A Sync is added to a row of Syncs. -/
theorem app_s {w : World} {v : Value} {n : Nat} {xs : List Value} (e : Nat × Int) (hown : w.ownsRow 0 114 2 v n xs) (hn : n ≤ 100000) (ty : TypeId) :
    ∃ g cap w', (Builtin.append_ #[89, 89] ty #[v, .slice (some ⟨w.heap.size, 0, none⟩) 1 1]).run Try.prog (w.alloc (.cells (scells e).toArray 114)) = .ok (.slice (some ⟨g, 0, none⟩) (n + 1) cap) w' ∧
      w'.ownsRow 0 114 2 (.slice (some ⟨g, 0, none⟩) (n + 1) cap) (n + 1) (xs ++ scells e) ∧ (w.alloc (.cells (scells e).toArray 114)).grownBy w' v.ownBlock ∧ (v.ownBlock = some g ∨ g = w.heap.size + 1) := by
  obtain ⟨i0, hi0, hz0, hz1, hz2⟩ := info_parts info_s
  obtain ⟨g, cap, w', h1, h2, h3, h4, _⟩ := run_append_lies (P := Try.prog) (w.alloc (.cells (scells e).toArray 114)) 89 ty 0 114 i0 _ 2 16 Try.underlying89 hi0 hz0 hz1 hz2 rfl (by decide) v n xs (hown.alloc _) ⟨w.heap.size, 0, none⟩ 1 1 (scells e) rfl (World.news_of_block (cs := (scells e).toArray) (Has.new w 114 _)) (by intro u hu; simp [scells] at hu; rcases hu with rfl | rfl <;> rfl) (by decide) (by unfold maxLen; omega) (by omega) (Nat.zero_le _) (w.heap.size + 1) (by simp)
  exact ⟨g, cap, w', h1, h2, h3, h4⟩

theorem syG_len (l : List AE) : ∀ nw pd, (syG nw pd l).length ≤ l.length := by
  induction l with
  | nil => intro nw pd; exact Nat.le_refl _
  | cons e l ih =>
    intro nw pd
    unfold syG
    rw [List.length_cons]
    split
    · split
      · rw [List.length_cons]
        have := ih nw 0
        omega
      · have := ih nw 0
        omega
    · have := ih (nw + 1) (if e.sure then pd else pd + 1)
      omega

theorem sy_len_le (l : List AE) : (syOf l).length ≤ l.length := syG_len l 0 0

set_option maxRecDepth 100000 in
set_option maxHeartbeats 1000000 in
theorem syncDead_c (h : RepAt w p s c bb bs bc vw vs) (hd : s.dead = true) : Calls Try.prog 51 #[ptr p] w fun e w' => e = .returned (.int .i64 73) ∧ w' = w := by
  have h1 : w.cell? ⟨p, 1, none⟩ = some (.bool s.dead) := h.cell 1
  rw [hd] at h1
  clear h
  go_enter Try.func51, Try.ntmps51
  go_wp2
  go_ret
  exact ⟨rfl, rfl⟩

theorem sync_holds (s : DS) (mo : Int) : holds (syncD s mo) = holds s := by
  show holds (addD s _) = _
  rw [holds_add, upF_sync _ _ rfl]

set_option maxRecDepth 100000 in
set_option maxHeartbeats 1000000 in
theorem sync0_c (h : RepAt w p s c bb bs bc vw vs) {m : Nat} (hp : Past s m) (hd : s.dead = false) (h0 : pend s.log = 0) : Calls Try.prog 51 #[ptr p] w fun e w' => e = .returned (.int .i64 0) ∧ w' = w ∧ RepAt w p (syncD s (m : Nat)) c bb bs bc vw vs := by
  have h1 : w.cell? ⟨p, 1, none⟩ = some (.bool s.dead) := h.cell 1
  have h7 : w.cell? ⟨p, 7, none⟩ = some (.int .i64 (pend s.log : Nat)) := h.cell 7
  rw [hd] at h1
  rw [h0] at h7
  have hlog : (syncD s (m : Nat)).log = s.log ++ [⟨0, fun _ => 0, true, false, (m : Nat)⟩] := rfl
  have hR : RepAt w p (syncD s (m : Nat)) c bb bs bc vw vs := by
    have e1 : pend (syncD s (m : Nat)).log = pend s.log := by rw [hlog, pend_snoc, h0]; rfl
    have e2 : wrs (syncD s (m : Nat)).log = wrs s.log := by rw [hlog, wrs_snoc]; rfl
    have e3 : Wc (syncD s (m : Nat)).log = Wc s.log := by rw [hlog]; unfold Wc; rw [ws_append]; simp [ws]
    have e4 : syOf (syncD s (m : Nat)).log = syOf s.log := by rw [hlog, syOf_snoc, h0]; simp
    refine ⟨by rw [e1]; exact h.has, h.n1, h.n2, h.bad, h.fst, by rw [sync_holds]; exact h.now, by rw [e2, e3]; exact h.wr, by unfold Sc; rw [e4]; exact h.sy, h.d1, h.d2, h.d3, rise_snoc _ h.rise _ (m : Nat) hp (by simp)⟩
  clear h
  go_enter Try.func51, Try.ntmps51
  go_wp2
  go_ret
  exact ⟨rfl, rfl, hR⟩

set_option maxRecDepth 100000 in
set_option maxHeartbeats 4000000 in
theorem sync1_c (h : RepAt w p s c bb bs bc vw vs) {m : Nat} (hc : Has w c 112 #[.int .i64 (m : Nat)]) (hcF : ¬ Foot p bb bs bc vw vs c) (hp : Past s m) (hd : s.dead = false) (h0 : 0 < pend s.log) (hm : m ≤ 100000) (hlen : s.log.length ≤ 100000) :
    Calls Try.prog 51 #[ptr p] w fun e w' => e = .returned (.int .i64 0) ∧ ∃ vs', Only (fun k => k = p ∨ vs.ownBlock = some k) w w' ∧ (∀ k, vs'.ownBlock = some k → vs.ownBlock = some k ∨ w.heap.size ≤ k) ∧ RepAt w' p (syncD s (m : Nat)) c bb bs bc vw vs' := by
  have h1 : w.cell? ⟨p, 1, none⟩ = some (.bool s.dead) := h.cell 1
  rw [hd] at h1
  have h5 : w.cell? ⟨p, 5, none⟩ = some vw := h.cell 5
  have h6 : w.cell? ⟨p, 6, none⟩ = some vs := h.cell 6
  have h7 : w.cell? ⟨p, 7, none⟩ = some (.int .i64 (pend s.log : Nat)) := h.cell 7
  have h8 : w.cell? ⟨p, 8, none⟩ = some (.pointer (some ⟨c, 0, none⟩)) := h.cell 8
  have hc0 : w.cell? ⟨c, 0, none⟩ = some (.int .i64 (m : Nat)) := hc.cell 0
  have i0 : (0 : Int) < ((pend s.log : Nat) : Int) := by omega
  have hnil := hcF
  obtain ⟨aw, capw, rfl, _⟩ := own_slice h.wr
  have hcs : vs.ownBlock ≠ some c := fun e => hcF (.inr (.inr (.inr (.inr (.inr e)))))
  have hDr : Below w.heap.size w w.drew := (Below.refl _ w).drew
  have hRd : RepAt w.drew p s c bb bs bc (.slice aw (wrs s.log) capw) vs := h.kept (fun _ _ => rfl)
  obtain ⟨x0, hx0⟩ : ∃ x0 : Nat × Int, x0 = (wrs s.log, ((m : Nat) : Int)) := ⟨_, rfl⟩
  obtain ⟨g7, cap7, w7, hr7, hown7, hgr7, hl7⟩ := app_s x0 hRd.sy (Nat.le_trans (sy_len_le _) hlen) 89
  have hA : Below w.heap.size w (w.drew.alloc (.cells (scells x0).toArray 114)) := hDr.alloc (Nat.le_refl _) _
  have hO7 : Only (fun k => vs.ownBlock = some k) w w7 := ⟨hgr7.os.trans hA.os, hgr7.tape.trans hA.tape, hgr7.output.trans hA.output, Nat.le_trans hA.size hgr7.size, fun k hk hn => (hgr7.block k (Nat.lt_of_lt_of_le hk hA.size) (fun e => hn e.symm)).trans (hA.block k hk)⟩
  have held : ∀ wz, Only (fun k => vs.ownBlock = some k) w wz → wz.cell? ⟨p, 6, none⟩ = some vs ∧ wz.cell? ⟨p, 5, none⟩ = some (.slice aw (wrs s.log) capw) ∧ wz.cell? ⟨p, 8, none⟩ = some (.pointer (some ⟨c, 0, none⟩)) ∧ wz.cell? ⟨c, 0, none⟩ = some (.int .i64 (m : Nat)) := fun wz hz =>
    ⟨(hz.cell h.has.lt h.sy_p).trans h6, (hz.cell h.has.lt h.sy_p).trans h5, (hz.cell h.has.lt h.sy_p).trans h8, (hz.cell hc.lt hcs).trans hc0⟩
  have HR : Hid (RepAt w p s c bb bs bc (.slice aw (wrs s.log) capw) vs) := h
  clear h hc
  go_enter Try.func51, Try.ntmps51
  go_wp2
  have h := HR.out
  refine lastTo (S := fun wz => wz.cell? ⟨p, 6, none⟩ = some vs ∧ wz.cell? ⟨p, 5, none⟩ = some (.slice aw (wrs s.log) capw) ∧ wz.cell? ⟨p, 8, none⟩ = some (.pointer (some ⟨c, 0, none⟩)) ∧ wz.cell? ⟨c, 0, none⟩ = some (.int .i64 (m : Nat))) 22 (by kernel_rfl) ⟨h6, h5, h8, hc0⟩ (fun hHeld => ?_)
  refine takeL 0 (some 16) (ptr p) rfl rfl (by decide) (by kernel_rfl) (by kernel_rfl) (by kernel_rfl) (by kernel_rfl) (fun _ _ _ h => h) (by rfl) (fun _ _ => rfl) hHeld ?_
  simp only [Act.put, List.setIfInBounds_toArray, List.set_cons_zero, List.set_cons_succ]
  refine takeL 1 (some 17) (ptr p) rfl rfl (by decide) (by kernel_rfl) (by kernel_rfl) (by kernel_rfl) (by kernel_rfl) (fun _ _ _ h => h) (by rfl) (fun _ _ => rfl) hHeld ?_
  simp only [Act.put, List.setIfInBounds_toArray, List.set_cons_zero, List.set_cons_succ]
  refine takeL 2 (some 18) (.pointer (some ⟨p, 0, none⟩)) rfl rfl (by decide) (by kernel_rfl) (by kernel_rfl) (by kernel_rfl) (by kernel_rfl) (fun _ _ _ h => h) (by rfl) (fun _ _ => rfl) hHeld ?_
  simp only [Act.put, List.setIfInBounds_toArray, List.set_cons_zero, List.set_cons_succ]
  refine takeL 3 (some 19) (.pointer (some ⟨p, 6, none⟩)) rfl rfl (by decide) (by kernel_rfl) (by kernel_rfl) (by kernel_rfl) (by kernel_rfl) (fun _ _ _ h => h) (by rfl) (fun _ _ => rfl) hHeld ?_
  simp only [Act.put, List.setIfInBounds_toArray, List.set_cons_zero, List.set_cons_succ]
  refine takeL 4 (some 20) (vs) rfl rfl (by decide) (by kernel_rfl) (by kernel_rfl) (by kernel_rfl) (by kernel_rfl) (fun _ _ _ h => h) (by rfl) (fun wz hz => run_load_ss _ rfl _ rfl _ wz hz.1) hHeld ?_
  simp only [Act.put, List.setIfInBounds_toArray, List.set_cons_zero, List.set_cons_succ]
  refine takeL 5 (some 21) (ptr p) rfl rfl (by decide) (by kernel_rfl) (by kernel_rfl) (by kernel_rfl) (by kernel_rfl) (fun _ _ _ h => h) (by rfl) (fun _ _ => rfl) hHeld ?_
  simp only [Act.put, List.setIfInBounds_toArray, List.set_cons_zero, List.set_cons_succ]
  refine takeL 6 (some 22) (.pointer (some ⟨p, 0, none⟩)) rfl rfl (by decide) (by kernel_rfl) (by kernel_rfl) (by kernel_rfl) (by kernel_rfl) (fun _ _ _ h => h) (by rfl) (fun _ _ => rfl) hHeld ?_
  simp only [Act.put, List.setIfInBounds_toArray, List.set_cons_zero, List.set_cons_succ]
  refine takeL 7 (some 23) (.pointer (some ⟨p, 5, none⟩)) rfl rfl (by decide) (by kernel_rfl) (by kernel_rfl) (by kernel_rfl) (by kernel_rfl) (fun _ _ _ h => h) (by rfl) (fun _ _ => rfl) hHeld ?_
  simp only [Act.put, List.setIfInBounds_toArray, List.set_cons_zero, List.set_cons_succ]
  refine takeL 8 (some 24) (.slice aw (wrs s.log) capw) rfl rfl (by decide) (by kernel_rfl) (by kernel_rfl) (by kernel_rfl) (by kernel_rfl) (fun _ _ _ h => h) (by rfl) (fun wz hz => run_load_ws _ rfl _ rfl _ wz hz.2.1) hHeld ?_
  simp only [Act.put, List.setIfInBounds_toArray, List.set_cons_zero, List.set_cons_succ]
  refine takeL 9 (some 25) (.int .i64 (wrs s.log : Nat)) rfl rfl (by decide) (by kernel_rfl) (by kernel_rfl) (by kernel_rfl) (by kernel_rfl) (fun _ _ _ h => h) (by rfl) (fun wz _ => run_len_of 88 116 Try.underlying88 _ rfl aw (wrs s.log) capw rfl wz) hHeld ?_
  simp only [Act.put, List.setIfInBounds_toArray, List.set_cons_zero, List.set_cons_succ]
  refine takeL 10 (some 26) (ptr p) rfl rfl (by decide) (by kernel_rfl) (by kernel_rfl) (by kernel_rfl) (by kernel_rfl) (fun _ _ _ h => h) (by rfl) (fun _ _ => rfl) hHeld ?_
  simp only [Act.put, List.setIfInBounds_toArray, List.set_cons_zero, List.set_cons_succ]
  refine takeL 11 (some 27) (.pointer (some ⟨p, 0, none⟩)) rfl rfl (by decide) (by kernel_rfl) (by kernel_rfl) (by kernel_rfl) (by kernel_rfl) (fun _ _ _ h => h) (by rfl) (fun _ _ => rfl) hHeld ?_
  simp only [Act.put, List.setIfInBounds_toArray, List.set_cons_zero, List.set_cons_succ]
  refine takeL 12 (some 28) (.pointer (some ⟨p, 8, none⟩)) rfl rfl (by decide) (by kernel_rfl) (by kernel_rfl) (by kernel_rfl) (by kernel_rfl) (fun _ _ _ h => h) (by rfl) (fun _ _ => rfl) hHeld ?_
  simp only [Act.put, List.setIfInBounds_toArray, List.set_cons_zero, List.set_cons_succ]
  refine takeL 13 (some 29) (.pointer (some ⟨c, 0, none⟩)) rfl rfl (by decide) (by kernel_rfl) (by kernel_rfl) (by kernel_rfl) (by kernel_rfl) (fun _ _ _ h => h) (by rfl) (fun wz hz => run_load_pc _ rfl _ rfl _ wz hz.2.2.1) hHeld ?_
  simp only [Act.put, List.setIfInBounds_toArray, List.set_cons_zero, List.set_cons_succ]
  refine takeL 14 (some 30) (.pointer (some ⟨c, 0, none⟩)) rfl rfl (by decide) (by kernel_rfl) (by kernel_rfl) (by kernel_rfl) (by kernel_rfl) (fun _ _ _ h => h) (by rfl) (fun _ _ => rfl) hHeld ?_
  simp only [Act.put, List.setIfInBounds_toArray, List.set_cons_zero, List.set_cons_succ]
  refine takeL 15 (some 31) (.pointer (some ⟨c, 0, none⟩)) rfl rfl (by decide) (by kernel_rfl) (by kernel_rfl) (by kernel_rfl) (by kernel_rfl) (fun _ _ _ h => h) (by rfl) (fun _ _ => rfl) hHeld ?_
  simp only [Act.put, List.setIfInBounds_toArray, List.set_cons_zero, List.set_cons_succ]
  refine takeL 16 (some 32) (.int .i64 (m : Nat)) rfl rfl (by decide) (by kernel_rfl) (by kernel_rfl) (by kernel_rfl) (by kernel_rfl) (fun _ _ _ h => h) (by rfl) (fun wz hz => run_load_n _ rfl _ rfl _ wz hz.2.2.2) hHeld ?_
  simp only [Act.put, List.setIfInBounds_toArray, List.set_cons_zero, List.set_cons_succ]
  refine takeL 17 (some 33) (.agg (scells (wrs s.log, ((m : Nat) : Int))).toArray) rfl rfl (by decide) (by kernel_rfl) (by kernel_rfl) (by kernel_rfl) (by kernel_rfl) (fun _ _ _ h => h) (by rfl) (fun _ _ => run_build_s _ _ rfl _ _ rfl rfl _) hHeld ?_
  simp only [Act.put, List.setIfInBounds_toArray, List.set_cons_zero, List.set_cons_succ]
  rw [← hx0]
  have hHeld8 := held (w.drew.alloc (.cells (scells x0).toArray 114)) (Only.of_below hA (Nat.le_refl _))
  refine valL 18 (some 34) (.slice (some ⟨w.drew.heap.size, 0, none⟩) 1 1) (w.drew.alloc (.cells (scells x0).toArray 114)) (by kernel_rfl) rfl rfl (by rfl) (run_bs_s _ rfl x0 rfl w.drew) hHeld8 ?_
  simp only [Act.put, List.setIfInBounds_toArray, List.set_cons_zero, List.set_cons_succ]
  have hHeld9 := held w7 hO7
  refine valL 19 (some 35) (.slice (some ⟨g7, 0, none⟩) ((syOf s.log).length + 1) cap7) w7 (by kernel_rfl) rfl rfl (by rfl) (run_app 89 _ _ rfl vs (.slice (some ⟨w.drew.heap.size, 0, none⟩) 1 1) rfl rfl _ 89 rfl hr7) hHeld9 ?_
  simp only [Act.put, List.setIfInBounds_toArray, List.set_cons_zero, List.set_cons_succ]
  refine valL 20 (some 36) (.pointer (some ⟨p, 0, none⟩)) w7 (by kernel_rfl) rfl rfl (by rfl) (by kernel_rfl) hHeld9 ?_
  simp only [Act.put, List.setIfInBounds_toArray, List.set_cons_zero, List.set_cons_succ]
  refine valL 21 (some 37) (.pointer (some ⟨p, 6, none⟩)) w7 (by kernel_rfl) rfl rfl (by rfl) (by kernel_rfl) hHeld9 ?_
  simp only [Act.put, List.setIfInBounds_toArray, List.set_cons_zero, List.set_cons_succ]
  have hR7 : Has w7 p 92 (dcells s.n s.dead bb bs bc (.slice aw (wrs s.log) capw) vs (pend s.log) c) := (hO7.block p h.has.lt h.sy_p).trans h.has
  have f7 := hR7.free 6
  refine lastSkip 22 none (w7.setCell ⟨p, 6, none⟩ (.slice (some ⟨g7, 0, none⟩) ((syOf s.log).length + 1) cap7)) (by kernel_rfl) rfl rfl (by rfl) (run_store_ss _ _ rfl ⟨p, 6, none⟩ rfl _ _ _ rfl w7 _ hHeld9.1 f7) (by kernel_rfl) ?_
  simp only [Act.put]
  obtain ⟨v7, hv7⟩ : ∃ v7 : Value, v7 = .slice (some ⟨g7, 0, none⟩) ((syOf s.log).length + 1) cap7 := ⟨_, rfl⟩
  rw [← hv7]
  rw [← hv7] at hown7
  have hl7' : ∀ k, v7.ownBlock = some k → vs.ownBlock = some k ∨ w.heap.size ≤ k := by
    intro k hk
    rw [hv7] at hk
    have hk' : g7 = k := by simpa [Value.ownBlock] using hk
    subst hk'
    rcases hl7 with h1 | h1
    · exact .inl h1
    · have h2 : g7 = w.heap.size + 1 := h1
      exact .inr (by omega)
  obtain ⟨w8, hw8⟩ : ∃ w8, w8 = w7.setCell ⟨p, 6, none⟩ v7 := ⟨_, rfl⟩
  rw [← hw8]
  have hO8 : Only (fun k => k = p) w7 w8 := by rw [hw8]; exact only_setCell _ _ _ _
  have hR8 : Has w8 p 92 (dcells s.n s.dead bb bs bc (.slice aw (wrs s.log) capw) v7 (pend s.log) c) := by rw [hw8]; exact hR7.setV 6 v7
  have q7 : w8.cell? ⟨p, 7, none⟩ = some (.int .i64 (pend s.log : Nat)) := hR8.cell 7
  have q7f := hR8.free 7
  have hR9 := hR8.setV 7 (.int .i64 ((0 : Nat) : Int))
  clear hw8
  go_wp2
  go_ret
  have hO9 := only_setCell w8 p 7 (.int .i64 ((0 : Nat) : Int))
  have hO89 : Only (fun k => k = p) w7 (w8.setCell ⟨p, 7, none⟩ (.int .i64 ((0 : Nat) : Int))) := hO8.trans hO9 (fun _ _ h => h)
  have hAll : Only (fun k => k = p ∨ vs.ownBlock = some k) w (w8.setCell ⟨p, 7, none⟩ (.int .i64 ((0 : Nat) : Int))) := (hO7.mono (G := fun k => k = p ∨ vs.ownBlock = some k) (fun k hk => .inr hk)).trans hO89 (fun x _ hx => .inl hx)
  have hlog : (syncD s (m : Nat)).log = s.log ++ [⟨0, fun _ => 0, true, false, (m : Nat)⟩] := rfl
  have e1 : pend (syncD s (m : Nat)).log = 0 := by rw [hlog, pend_snoc]; rfl
  have e2 : wrs (syncD s (m : Nat)).log = wrs s.log := by rw [hlog, wrs_snoc]; rfl
  have e3 : Wc (syncD s (m : Nat)).log = Wc s.log := by rw [hlog]; unfold Wc; rw [ws_append]; simp [ws]
  have e4 : syOf (syncD s (m : Nat)).log = syOf s.log ++ [x0] := by rw [hlog, syOf_snoc, if_pos ⟨rfl, h0⟩, hx0]
  refine ⟨rfl, v7, hAll, hl7', ?_⟩
  refine ⟨by rw [e1]; exact hR9, h.n1, h.n2, h.bad.kept (hAll.block _ h.bad.lt (fun q => q.elim h.bb_p h.sy_bb)), h.fst.kept (hAll.block _ h.fst.lt (fun q => q.elim h.bs_p h.sy_bs)), by rw [sync_holds]; exact h.now.kept (hAll.block _ h.now.lt (fun q => q.elim h.bc_p h.sy_bc)), ?_, ?_, h.d1, h.d2, h.d3, rise_snoc _ h.rise _ (m : Nat) hp (by simp)⟩
  · rw [e2, e3]
    exact own_kept h.wr (fun g hg => hAll.block g (h.wr.lt g hg).2 (fun q => q.elim (fun e => h.wr_p (e ▸ hg)) (fun e => h.wr_sy hg e)))
  · have hSc : Sc (syncD s (m : Nat)).log = Sc s.log ++ scells x0 := by unfold Sc; rw [e4, List.flatMap_append]; simp
    rw [hSc, e4, List.length_append]
    exact own_kept hown7 (fun g hg => hO89.block g (hown7.lt g hg).2 (fun e => by obtain ⟨cur, hcur⟩ := own_block hown7 hg; exact cells_ne hcur hR7 (by decide) e))
end Go.Proofs.Ytancebpjfbbcaaa
