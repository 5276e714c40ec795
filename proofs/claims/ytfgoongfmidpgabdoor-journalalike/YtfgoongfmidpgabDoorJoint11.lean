/- Texts that the statements of this stage share, joined: DwSync, DwProg, DwSmallM, DwMoreJ, JrStand, ObShaLaid, JnOpenA. -/
import Derived.Test.YtfgoongfmidpgabDoorJoint10
import Derived.Test.YtfgoongfmidpgabDoorJoint02
import Derived.Test.YtfgoongfmidpgabDoorJoint07
import Derived.Test.YtfgoongfmidpgabDoorJoint04
import Derived.LaidMore
import Derived.Stop.Joined
import Derived.Lib.LaidU8
import Derived.MakeChecks
import Derived.Deep.Slices
import Derived.Deep.Grids
import Derived.Lib.SmallJoins

/- device: Sync. -/
namespace Go.Proofs.YtfgoongfmidpgabDoor
open Go.ChangeShapes Go.WideShapes Go.ChangeAt Go.RowKit
set_option linter.unusedVariables false

variable {w w' : World} {p c bb bs bc : Nat} {s : DS} {vw vs : Value}

theorem run_load_ss {o : Oper} {a : Act} (x : Operand) (ho : o.op = .load 66 x) (p : Addr) (hx : a.eval x = .pointer (some p)) (v : Value) (w : World) (h : w.cell? p = some v) : (execOp a.eval o).run Tryd.prog w = .ok (.value v) w := by
  unfold execOp
  simp only [ho, hx]
  go_simp

theorem run_store_ss {o : Oper} {a : Act} (x y : Operand) (ho : o.op = .store 66 x y) (p : Addr) (hx : a.eval x = .pointer (some p)) (A : Option Addr) (n c : Nat) (hy : a.eval y = .slice A n c) (w : World) (u : Value) (h : w.cell? p = some u) (hf : w.frozen? p = false) : (execOp a.eval o).run Tryd.prog w = .ok .skip (w.setCell p (.slice A n c)) := by
  unfold execOp
  simp only [ho, hx, hy]
  go_simp

theorem run_build_s {o : Oper} {a : Act} (x1 x2 : Operand) (ho : o.op = .build 110 #[(0, x1), (1, x2)]) (n m : Nat) (h1 : a.eval x1 = .int .i64 (n : Nat)) (h2 : a.eval x2 = .int .i64 (m : Nat)) (w : World) :
    (execOp a.eval o).run Tryd.prog w = .ok (.value (.agg (scells (n, (m : Nat))).toArray)) w := by
  unfold execOp
  simp only [ho, List.map_toArray, List.map_cons, List.map_nil, h1, h2]
  kernel_rfl

theorem run_bs_s {o : Oper} {a : Act} (x : Operand) (ho : o.op = .buildSlice 66 1 #[(0, x)]) (e : Nat × Int) (hx : a.eval x = .agg (scells e).toArray) (w : World) :
    (execOp a.eval o).run Tryd.prog w = .ok (.value (.slice (some ⟨w.heap.size, 0, none⟩) 1 1)) (w.alloc (.cells (scells e).toArray 110)) := by
  unfold execOp
  simp only [ho, List.map_toArray, List.map_cons, List.map_nil, hx]
  kernel_rfl

/-- A Sync is added to a row of Syncs. -/
theorem app_s {w : World} {v : Value} {n : Nat} {xs : List Value} (e : Nat × Int) (hown : w.ownsRow 0 110 2 v n xs) (hn : n ≤ 100000) (ty : TypeId) :
    ∃ g cap w', (Builtin.append_ #[66, 66] ty #[v, .slice (some ⟨w.heap.size, 0, none⟩) 1 1]).run Tryd.prog (w.alloc (.cells (scells e).toArray 110)) = .ok (.slice (some ⟨g, 0, none⟩) (n + 1) cap) w' ∧
      w'.ownsRow 0 110 2 (.slice (some ⟨g, 0, none⟩) (n + 1) cap) (n + 1) (xs ++ scells e) ∧ (w.alloc (.cells (scells e).toArray 110)).grownBy w' v.ownBlock ∧ (v.ownBlock = some g ∨ g = w.heap.size + 1) := by
  obtain ⟨i0, hi0, hz0, hz1, hz2⟩ := info_parts info_s
  obtain ⟨g, cap, w', h1, h2, h3, h4, _⟩ := run_append_lies (P := Tryd.prog) (w.alloc (.cells (scells e).toArray 110)) 66 ty 0 110 i0 _ 2 16 Tryd.underlying66 hi0 hz0 hz1 hz2 rfl (by decide) v n xs (hown.alloc _) ⟨w.heap.size, 0, none⟩ 1 1 (scells e) rfl (World.news_of_block (cs := (scells e).toArray) (Has.new w 110 _)) (by intro u hu; simp [scells] at hu; rcases hu with rfl | rfl <;> rfl) (by decide) (by unfold maxLen; omega) (by omega) (Nat.zero_le _) (w.heap.size + 1) (by simp)
  exact ⟨g, cap, w', h1, h2, h3, h4⟩

theorem syG_len (l : List AE) : ∀ nw pd, (syG nw pd l).length ≤ l.length := by
  induction l with
  | nil => intro nw pd; exact Nat.le_refl _
  | cons e l ih =>
    intro nw pd
    unfold syG
    rw [List.length_cons]
    split
    · split
      · rw [List.length_cons]
        have := ih nw 0
        omega
      · have := ih nw 0
        omega
    · have := ih (nw + 1) (if e.sure then pd else pd + 1)
      omega

theorem sy_len_le (l : List AE) : (syOf l).length ≤ l.length := syG_len l 0 0

set_option maxRecDepth 100000 in
set_option maxHeartbeats 1000000 in
theorem syncDead_c (h : RepAt w p s c bb bs bc vw vs) (hd : s.dead = true) : Calls Tryd.prog 48 #[ptr p] w fun e w' => e = .returned (.int .i64 73) ∧ w' = w := by
  have h1 : w.cell? ⟨p, 1, none⟩ = some (.bool s.dead) := h.cell 1
  rw [hd] at h1
  clear h
  go_enter Tryd.func48, Tryd.ntmps48
  go_wp2
  go_ret
  exact ⟨rfl, rfl⟩

theorem sync_holds (s : DS) (mo : Int) : holds (syncD s mo) = holds s := by
  show holds (addD s _) = _
  rw [holds_add, upF_sync _ _ rfl]

set_option maxRecDepth 100000 in
set_option maxHeartbeats 1000000 in
theorem sync0_c (h : RepAt w p s c bb bs bc vw vs) {m : Nat} (hp : Past s m) (hd : s.dead = false) (h0 : pend s.log = 0) : Calls Tryd.prog 48 #[ptr p] w fun e w' => e = .returned (.int .i64 0) ∧ w' = w ∧ RepAt w p (syncD s (m : Nat)) c bb bs bc vw vs := by
  have h1 : w.cell? ⟨p, 1, none⟩ = some (.bool s.dead) := h.cell 1
  have h7 : w.cell? ⟨p, 7, none⟩ = some (.int .i64 (pend s.log : Nat)) := h.cell 7
  rw [hd] at h1
  rw [h0] at h7
  have hlog : (syncD s (m : Nat)).log = s.log ++ [⟨0, fun _ => 0, true, false, (m : Nat)⟩] := rfl
  have hR : RepAt w p (syncD s (m : Nat)) c bb bs bc vw vs := by
    have e1 : pend (syncD s (m : Nat)).log = pend s.log := by rw [hlog, pend_snoc, h0]; rfl
    have e2 : wrs (syncD s (m : Nat)).log = wrs s.log := by rw [hlog, wrs_snoc]; rfl
    have e3 : Wc (syncD s (m : Nat)).log = Wc s.log := by rw [hlog]; unfold Wc; rw [ws_append]; simp [ws]
    have e4 : syOf (syncD s (m : Nat)).log = syOf s.log := by rw [hlog, syOf_snoc, h0]; simp
    refine ⟨by rw [e1]; exact h.has, h.n1, h.n2, h.bad, h.fst, by rw [sync_holds]; exact h.now, by rw [e2, e3]; exact h.wr, by unfold Sc; rw [e4]; exact h.sy, h.d1, h.d2, h.d3, rise_snoc _ h.rise _ (m : Nat) hp (by simp)⟩
  clear h
  go_enter Tryd.func48, Tryd.ntmps48
  go_wp2
  go_ret
  exact ⟨rfl, rfl, hR⟩

set_option maxRecDepth 100000 in
set_option maxHeartbeats 4000000 in
theorem sync1_c (h : RepAt w p s c bb bs bc vw vs) {m : Nat} (hc : Has w c 81 #[.int .i64 (m : Nat)]) (hcF : ¬ Foot p bb bs bc vw vs c) (hp : Past s m) (hd : s.dead = false) (h0 : 0 < pend s.log) (hm : m ≤ 100000) (hlen : s.log.length ≤ 100000) :
    Calls Tryd.prog 48 #[ptr p] w fun e w' => e = .returned (.int .i64 0) ∧ ∃ vs', Only (fun k => k = p ∨ vs.ownBlock = some k) w w' ∧ (∀ k, vs'.ownBlock = some k → vs.ownBlock = some k ∨ w.heap.size ≤ k) ∧ RepAt w' p (syncD s (m : Nat)) c bb bs bc vw vs' := by
  have h1 : w.cell? ⟨p, 1, none⟩ = some (.bool s.dead) := h.cell 1
  rw [hd] at h1
  have h5 : w.cell? ⟨p, 5, none⟩ = some vw := h.cell 5
  have h6 : w.cell? ⟨p, 6, none⟩ = some vs := h.cell 6
  have h7 : w.cell? ⟨p, 7, none⟩ = some (.int .i64 (pend s.log : Nat)) := h.cell 7
  have h8 : w.cell? ⟨p, 8, none⟩ = some (.pointer (some ⟨c, 0, none⟩)) := h.cell 8
  have hc0 : w.cell? ⟨c, 0, none⟩ = some (.int .i64 (m : Nat)) := hc.cell 0
  have i0 : (0 : Int) < ((pend s.log : Nat) : Int) := by omega
  have hnil := hcF
  obtain ⟨aw, capw, rfl, _⟩ := own_slice h.wr
  have hcs : vs.ownBlock ≠ some c := fun e => hcF (.inr (.inr (.inr (.inr (.inr e)))))
  have hDr : Below w.heap.size w w.drew := (Below.refl _ w).drew
  have hRd : RepAt w.drew p s c bb bs bc (.slice aw (wrs s.log) capw) vs := h.kept (fun _ _ => rfl)
  obtain ⟨x0, hx0⟩ : ∃ x0 : Nat × Int, x0 = (wrs s.log, ((m : Nat) : Int)) := ⟨_, rfl⟩
  obtain ⟨g7, cap7, w7, hr7, hown7, hgr7, hl7⟩ := app_s x0 hRd.sy (Nat.le_trans (sy_len_le _) hlen) 66
  have hA : Below w.heap.size w (w.drew.alloc (.cells (scells x0).toArray 110)) := hDr.alloc (Nat.le_refl _) _
  have hO7 : Only (fun k => vs.ownBlock = some k) w w7 := ⟨hgr7.os.trans hA.os, hgr7.tape.trans hA.tape, hgr7.output.trans hA.output, Nat.le_trans hA.size hgr7.size, fun k hk hn => (hgr7.block k (Nat.lt_of_lt_of_le hk hA.size) (fun e => hn e.symm)).trans (hA.block k hk)⟩
  have held : ∀ wz, Only (fun k => vs.ownBlock = some k) w wz → wz.cell? ⟨p, 6, none⟩ = some vs ∧ wz.cell? ⟨p, 5, none⟩ = some (.slice aw (wrs s.log) capw) ∧ wz.cell? ⟨p, 8, none⟩ = some (.pointer (some ⟨c, 0, none⟩)) ∧ wz.cell? ⟨c, 0, none⟩ = some (.int .i64 (m : Nat)) := fun wz hz =>
    ⟨(hz.cell h.has.lt h.sy_p).trans h6, (hz.cell h.has.lt h.sy_p).trans h5, (hz.cell h.has.lt h.sy_p).trans h8, (hz.cell hc.lt hcs).trans hc0⟩
  have HR : Hid (RepAt w p s c bb bs bc (.slice aw (wrs s.log) capw) vs) := h
  clear h hc
  go_enter Tryd.func48, Tryd.ntmps48
  go_wp2
  have h := HR.out
  refine lastTo (S := fun wz => wz.cell? ⟨p, 6, none⟩ = some vs ∧ wz.cell? ⟨p, 5, none⟩ = some (.slice aw (wrs s.log) capw) ∧ wz.cell? ⟨p, 8, none⟩ = some (.pointer (some ⟨c, 0, none⟩)) ∧ wz.cell? ⟨c, 0, none⟩ = some (.int .i64 (m : Nat))) 22 (by kernel_rfl) ⟨h6, h5, h8, hc0⟩ (fun hHeld => ?_)
  refine takeL 0 (some 16) (ptr p) rfl rfl (by decide) (by kernel_rfl) (by kernel_rfl) (by kernel_rfl) (by kernel_rfl) (fun _ _ _ h => h) (by rfl) (fun _ _ => rfl) hHeld ?_
  simp only [Act.put, List.setIfInBounds_toArray, List.set_cons_zero, List.set_cons_succ]
  refine takeL 1 (some 17) (ptr p) rfl rfl (by decide) (by kernel_rfl) (by kernel_rfl) (by kernel_rfl) (by kernel_rfl) (fun _ _ _ h => h) (by rfl) (fun _ _ => rfl) hHeld ?_
  simp only [Act.put, List.setIfInBounds_toArray, List.set_cons_zero, List.set_cons_succ]
  refine takeL 2 (some 18) (.pointer (some ⟨p, 0, none⟩)) rfl rfl (by decide) (by kernel_rfl) (by kernel_rfl) (by kernel_rfl) (by kernel_rfl) (fun _ _ _ h => h) (by rfl) (fun _ _ => rfl) hHeld ?_
  simp only [Act.put, List.setIfInBounds_toArray, List.set_cons_zero, List.set_cons_succ]
  refine takeL 3 (some 19) (.pointer (some ⟨p, 6, none⟩)) rfl rfl (by decide) (by kernel_rfl) (by kernel_rfl) (by kernel_rfl) (by kernel_rfl) (fun _ _ _ h => h) (by rfl) (fun _ _ => rfl) hHeld ?_
  simp only [Act.put, List.setIfInBounds_toArray, List.set_cons_zero, List.set_cons_succ]
  refine takeL 4 (some 20) (vs) rfl rfl (by decide) (by kernel_rfl) (by kernel_rfl) (by kernel_rfl) (by kernel_rfl) (fun _ _ _ h => h) (by rfl) (fun wz hz => run_load_ss _ rfl _ rfl _ wz hz.1) hHeld ?_
  simp only [Act.put, List.setIfInBounds_toArray, List.set_cons_zero, List.set_cons_succ]
  refine takeL 5 (some 21) (ptr p) rfl rfl (by decide) (by kernel_rfl) (by kernel_rfl) (by kernel_rfl) (by kernel_rfl) (fun _ _ _ h => h) (by rfl) (fun _ _ => rfl) hHeld ?_
  simp only [Act.put, List.setIfInBounds_toArray, List.set_cons_zero, List.set_cons_succ]
  refine takeL 6 (some 22) (.pointer (some ⟨p, 0, none⟩)) rfl rfl (by decide) (by kernel_rfl) (by kernel_rfl) (by kernel_rfl) (by kernel_rfl) (fun _ _ _ h => h) (by rfl) (fun _ _ => rfl) hHeld ?_
  simp only [Act.put, List.setIfInBounds_toArray, List.set_cons_zero, List.set_cons_succ]
  refine takeL 7 (some 23) (.pointer (some ⟨p, 5, none⟩)) rfl rfl (by decide) (by kernel_rfl) (by kernel_rfl) (by kernel_rfl) (by kernel_rfl) (fun _ _ _ h => h) (by rfl) (fun _ _ => rfl) hHeld ?_
  simp only [Act.put, List.setIfInBounds_toArray, List.set_cons_zero, List.set_cons_succ]
  refine takeL 8 (some 24) (.slice aw (wrs s.log) capw) rfl rfl (by decide) (by kernel_rfl) (by kernel_rfl) (by kernel_rfl) (by kernel_rfl) (fun _ _ _ h => h) (by rfl) (fun wz hz => run_load_ws _ rfl _ rfl _ wz hz.2.1) hHeld ?_
  simp only [Act.put, List.setIfInBounds_toArray, List.set_cons_zero, List.set_cons_succ]
  refine takeL 9 (some 25) (.int .i64 (wrs s.log : Nat)) rfl rfl (by decide) (by kernel_rfl) (by kernel_rfl) (by kernel_rfl) (by kernel_rfl) (fun _ _ _ h => h) (by rfl) (fun wz _ => run_len_of 65 91 Tryd.underlying65 _ rfl aw (wrs s.log) capw rfl wz) hHeld ?_
  simp only [Act.put, List.setIfInBounds_toArray, List.set_cons_zero, List.set_cons_succ]
  refine takeL 10 (some 26) (ptr p) rfl rfl (by decide) (by kernel_rfl) (by kernel_rfl) (by kernel_rfl) (by kernel_rfl) (fun _ _ _ h => h) (by rfl) (fun _ _ => rfl) hHeld ?_
  simp only [Act.put, List.setIfInBounds_toArray, List.set_cons_zero, List.set_cons_succ]
  refine takeL 11 (some 27) (.pointer (some ⟨p, 0, none⟩)) rfl rfl (by decide) (by kernel_rfl) (by kernel_rfl) (by kernel_rfl) (by kernel_rfl) (fun _ _ _ h => h) (by rfl) (fun _ _ => rfl) hHeld ?_
  simp only [Act.put, List.setIfInBounds_toArray, List.set_cons_zero, List.set_cons_succ]
  refine takeL 12 (some 28) (.pointer (some ⟨p, 8, none⟩)) rfl rfl (by decide) (by kernel_rfl) (by kernel_rfl) (by kernel_rfl) (by kernel_rfl) (fun _ _ _ h => h) (by rfl) (fun _ _ => rfl) hHeld ?_
  simp only [Act.put, List.setIfInBounds_toArray, List.set_cons_zero, List.set_cons_succ]
  refine takeL 13 (some 29) (.pointer (some ⟨c, 0, none⟩)) rfl rfl (by decide) (by kernel_rfl) (by kernel_rfl) (by kernel_rfl) (by kernel_rfl) (fun _ _ _ h => h) (by rfl) (fun wz hz => run_load_pc _ rfl _ rfl _ wz hz.2.2.1) hHeld ?_
  simp only [Act.put, List.setIfInBounds_toArray, List.set_cons_zero, List.set_cons_succ]
  refine takeL 14 (some 30) (.pointer (some ⟨c, 0, none⟩)) rfl rfl (by decide) (by kernel_rfl) (by kernel_rfl) (by kernel_rfl) (by kernel_rfl) (fun _ _ _ h => h) (by rfl) (fun _ _ => rfl) hHeld ?_
  simp only [Act.put, List.setIfInBounds_toArray, List.set_cons_zero, List.set_cons_succ]
  refine takeL 15 (some 31) (.pointer (some ⟨c, 0, none⟩)) rfl rfl (by decide) (by kernel_rfl) (by kernel_rfl) (by kernel_rfl) (by kernel_rfl) (fun _ _ _ h => h) (by rfl) (fun _ _ => rfl) hHeld ?_
  simp only [Act.put, List.setIfInBounds_toArray, List.set_cons_zero, List.set_cons_succ]
  refine takeL 16 (some 32) (.int .i64 (m : Nat)) rfl rfl (by decide) (by kernel_rfl) (by kernel_rfl) (by kernel_rfl) (by kernel_rfl) (fun _ _ _ h => h) (by rfl) (fun wz hz => run_load_n _ rfl _ rfl _ wz hz.2.2.2) hHeld ?_
  simp only [Act.put, List.setIfInBounds_toArray, List.set_cons_zero, List.set_cons_succ]
  refine takeL 17 (some 33) (.agg (scells (wrs s.log, ((m : Nat) : Int))).toArray) rfl rfl (by decide) (by kernel_rfl) (by kernel_rfl) (by kernel_rfl) (by kernel_rfl) (fun _ _ _ h => h) (by rfl) (fun _ _ => run_build_s _ _ rfl _ _ rfl rfl _) hHeld ?_
  simp only [Act.put, List.setIfInBounds_toArray, List.set_cons_zero, List.set_cons_succ]
  rw [← hx0]
  have hHeld8 := held (w.drew.alloc (.cells (scells x0).toArray 110)) (Only.of_below hA (Nat.le_refl _))
  refine valL 18 (some 34) (.slice (some ⟨w.drew.heap.size, 0, none⟩) 1 1) (w.drew.alloc (.cells (scells x0).toArray 110)) (by kernel_rfl) rfl rfl (by rfl) (run_bs_s _ rfl x0 rfl w.drew) hHeld8 ?_
  simp only [Act.put, List.setIfInBounds_toArray, List.set_cons_zero, List.set_cons_succ]
  have hHeld9 := held w7 hO7
  refine valL 19 (some 35) (.slice (some ⟨g7, 0, none⟩) ((syOf s.log).length + 1) cap7) w7 (by kernel_rfl) rfl rfl (by rfl) (run_app 66 _ _ rfl vs (.slice (some ⟨w.drew.heap.size, 0, none⟩) 1 1) rfl rfl _ 66 rfl hr7) hHeld9 ?_
  simp only [Act.put, List.setIfInBounds_toArray, List.set_cons_zero, List.set_cons_succ]
  refine valL 20 (some 36) (.pointer (some ⟨p, 0, none⟩)) w7 (by kernel_rfl) rfl rfl (by rfl) (by kernel_rfl) hHeld9 ?_
  simp only [Act.put, List.setIfInBounds_toArray, List.set_cons_zero, List.set_cons_succ]
  refine valL 21 (some 37) (.pointer (some ⟨p, 6, none⟩)) w7 (by kernel_rfl) rfl rfl (by rfl) (by kernel_rfl) hHeld9 ?_
  simp only [Act.put, List.setIfInBounds_toArray, List.set_cons_zero, List.set_cons_succ]
  have hR7 : Has w7 p 69 (dcells s.n s.dead bb bs bc (.slice aw (wrs s.log) capw) vs (pend s.log) c) := (hO7.block p h.has.lt h.sy_p).trans h.has
  have f7 := hR7.free 6
  refine lastSkip 22 none (w7.setCell ⟨p, 6, none⟩ (.slice (some ⟨g7, 0, none⟩) ((syOf s.log).length + 1) cap7)) (by kernel_rfl) rfl rfl (by rfl) (run_store_ss _ _ rfl ⟨p, 6, none⟩ rfl _ _ _ rfl w7 _ hHeld9.1 f7) (by kernel_rfl) ?_
  simp only [Act.put]
  obtain ⟨v7, hv7⟩ : ∃ v7 : Value, v7 = .slice (some ⟨g7, 0, none⟩) ((syOf s.log).length + 1) cap7 := ⟨_, rfl⟩
  rw [← hv7]
  rw [← hv7] at hown7
  have hl7' : ∀ k, v7.ownBlock = some k → vs.ownBlock = some k ∨ w.heap.size ≤ k := by
    intro k hk
    rw [hv7] at hk
    have hk' : g7 = k := by simpa [Value.ownBlock] using hk
    subst hk'
    rcases hl7 with h1 | h1
    · exact .inl h1
    · have h2 : g7 = w.heap.size + 1 := h1
      exact .inr (by omega)
  obtain ⟨w8, hw8⟩ : ∃ w8, w8 = w7.setCell ⟨p, 6, none⟩ v7 := ⟨_, rfl⟩
  rw [← hw8]
  have hO8 : Only (fun k => k = p) w7 w8 := by rw [hw8]; exact only_setCell _ _ _ _
  have hR8 : Has w8 p 69 (dcells s.n s.dead bb bs bc (.slice aw (wrs s.log) capw) v7 (pend s.log) c) := by rw [hw8]; exact hR7.setV 6 v7
  have q7 : w8.cell? ⟨p, 7, none⟩ = some (.int .i64 (pend s.log : Nat)) := hR8.cell 7
  have q7f := hR8.free 7
  have hR9 := hR8.setV 7 (.int .i64 ((0 : Nat) : Int))
  clear hw8
  go_wp2
  go_ret
  have hO9 := only_setCell w8 p 7 (.int .i64 ((0 : Nat) : Int))
  have hO89 : Only (fun k => k = p) w7 (w8.setCell ⟨p, 7, none⟩ (.int .i64 ((0 : Nat) : Int))) := hO8.trans hO9 (fun _ _ h => h)
  have hAll : Only (fun k => k = p ∨ vs.ownBlock = some k) w (w8.setCell ⟨p, 7, none⟩ (.int .i64 ((0 : Nat) : Int))) := (hO7.mono (G := fun k => k = p ∨ vs.ownBlock = some k) (fun k hk => .inr hk)).trans hO89 (fun x _ hx => .inl hx)
  have hlog : (syncD s (m : Nat)).log = s.log ++ [⟨0, fun _ => 0, true, false, (m : Nat)⟩] := rfl
  have e1 : pend (syncD s (m : Nat)).log = 0 := by rw [hlog, pend_snoc]; rfl
  have e2 : wrs (syncD s (m : Nat)).log = wrs s.log := by rw [hlog, wrs_snoc]; rfl
  have e3 : Wc (syncD s (m : Nat)).log = Wc s.log := by rw [hlog]; unfold Wc; rw [ws_append]; simp [ws]
  have e4 : syOf (syncD s (m : Nat)).log = syOf s.log ++ [x0] := by rw [hlog, syOf_snoc, if_pos ⟨rfl, h0⟩, hx0]
  refine ⟨rfl, v7, hAll, hl7', ?_⟩
  refine ⟨by rw [e1]; exact hR9, h.n1, h.n2, h.bad.kept (hAll.block _ h.bad.lt (fun q => q.elim h.bb_p h.sy_bb)), h.fst.kept (hAll.block _ h.fst.lt (fun q => q.elim h.bs_p h.sy_bs)), by rw [sync_holds]; exact h.now.kept (hAll.block _ h.now.lt (fun q => q.elim h.bc_p h.sy_bc)), ?_, ?_, h.d1, h.d2, h.d3, rise_snoc _ h.rise _ (m : Nat) hp (by simp)⟩
  · rw [e2, e3]
    exact own_kept h.wr (fun g hg => hAll.block g (h.wr.lt g hg).2 (fun q => q.elim (fun e => h.wr_p (e ▸ hg)) (fun e => h.wr_sy hg e)))
  · have hSc : Sc (syncD s (m : Nat)).log = Sc s.log ++ scells x0 := by unfold Sc; rw [e4, List.flatMap_append]; simp
    rw [hSc, e4, List.length_append]
    exact own_kept hown7 (fun g hg => hO89.block g (hown7.lt g hg).2 (fun e => by obtain ⟨cur, hcur⟩ := own_block hown7 hg; exact cells_ne hcur hR7 (by decide) e))
end Go.Proofs.YtfgoongfmidpgabDoor

/- What is asked of device's calls is so of the program. -/
namespace Go.Proofs.YtfgoongfmidpgabDoor
open Go.ChangeShapes Go.WideShapes Go.ChangeAt Go.RowKit
set_option linter.unusedVariables false


theorem foot_iff {F G : Nat → Prop} (h : ∀ k, F k ↔ G k) (k : Nat) (hk : F k) : G k := (h k).1 hk

theorem theDev : DevOk theRep where
  lt := by
    rintro w p s c F ⟨bb, bs, bc, vw, vs, h, hF⟩ k hk
    exact h.lt k ((hF k).1 hk)
  clt := by
    intro w c m h
    exact Has.lt h
  kept := by
    rintro w w' p s c F ⟨bb, bs, bc, vw, vs, h, hF⟩ _ hb
    exact ⟨bb, bs, bc, vw, vs, h.kept (fun k hk => hb k ((hF k).2 hk)), hF⟩
  ckept := by
    intro w w' c m h hb
    exact hb.trans h
  new := fun n w h1 h2 => new_r n w h1 h2
  newNo := fun n w hn h => newNo_r n w hn h
  write := by
    rintro w p s c m F i a L cap b ⟨⟨bb, bs, bc, vw, vs, h, hF⟩, hc, hcF, hp⟩ hi hm hl hLc hLm hnil hb hbyt hap
    by_cases h0 : wrErr s i L = 0
    · obtain ⟨_, hi0, hi1, _⟩ := wr_inside s i L h0
      have hI : i = ((i.toNat : Nat) : Int) := by omega
      have hw := write_c h hc (fun e => hcF ((hF c).2 e)) hp i.toNat a L cap b hb hm hl (by rw [← hI]; exact h0)
      rw [← hI] at hw
      refine hw.mono ?_
      rintro e w' ⟨rfl, vw', ho, hg, hc', hr⟩
      refine ⟨by rw [h0], .inr ⟨h0, ho.mono (fun k hk => hk.imp (hF k).2 id), Foot p bb bs bc vw' vs, fun k hk => (foot_grew hg k hk).imp (hF k).2 id, ⟨bb, bs, bc, vw', vs, hr, fun _ => Iff.rfl⟩, hc', fun e => ?_, past_add s m hp _ _ _ _⟩⟩
      rcases foot_grew hg c e with h1 | h1
      · exact hcF ((hF c).2 h1)
      · have := hc.lt
        omega
    · refine (writeNo_c h i a L cap h0).mono ?_
      rintro e w' ⟨rfl, hw'⟩
      exact ⟨rfl, .inl ⟨h0, by rw [hw']; exact Below.refl _ _⟩⟩
  sync := by
    rintro w p s c m F ⟨⟨bb, bs, bc, vw, vs, h, hF⟩, hc, hcF, hp⟩ hm hl
    have hpast : Past (syncD s (m : Nat)) m := by
      intro e he
      have he' : e ∈ s.log ++ [_] := he
      rcases List.mem_append.1 he' with h1 | h1
      · exact hp e h1
      · rw [List.mem_singleton] at h1
        rw [h1]
        exact Int.le_refl _
    cases hd : s.dead
    · by_cases h0 : pend s.log = 0
      · refine (sync0_c h hp hd h0).mono ?_
        rintro e w' ⟨rfl, hw', hr⟩
        obtain rfl : w = w' := hw'.symm
        exact ⟨rfl, .inr ⟨rfl, Only.refl _ _, F, fun k hk => .inl hk, ⟨bb, bs, bc, vw, vs, hr, hF⟩, hc, hcF, hpast⟩⟩
      · refine (sync1_c h hc (fun e => hcF ((hF c).2 e)) hp hd (by omega) hm hl).mono ?_
        rintro e w' ⟨rfl, vs', ho, hg, hr⟩
        have hgr : ∀ k, Foot p bb bs bc vw vs' k → Foot p bb bs bc vw vs k ∨ w.heap.size ≤ k := fun k hk => by
          rcases hk with q | q | q | q | q | q
          · exact .inl (.inl q)
          · exact .inl (.inr (.inl q))
          · exact .inl (.inr (.inr (.inl q)))
          · exact .inl (.inr (.inr (.inr (.inl q))))
          · exact .inl (.inr (.inr (.inr (.inr (.inl q)))))
          · rcases hg k q with q | q
            · exact .inl (.inr (.inr (.inr (.inr (.inr q)))))
            · exact .inr q
        refine ⟨rfl, .inr ⟨rfl, ho.mono (fun k hk => (hF k).2 (hk.elim .inl (fun q => .inr (.inr (.inr (.inr (.inr q))))))), Foot p bb bs bc vw vs', fun k hk => (hgr k hk).imp (hF k).2 id, ⟨bb, bs, bc, vw, vs', hr, fun _ => Iff.rfl⟩, ?_, fun e => ?_, hpast⟩⟩
        · refine (ho.block c (Has.lt hc) ?_).trans hc
          rintro (q | q)
          · exact hcF ((hF c).2 (.inl q))
          · exact hcF ((hF c).2 (.inr (.inr (.inr (.inr (.inr q))))))
        · rcases hgr c e with h1 | h1
          · exact hcF ((hF c).2 h1)
          · have := Has.lt hc
            omega
    · refine (syncDead_c h hd).mono ?_
      rintro e w' ⟨rfl, hw'⟩
      exact ⟨rfl, .inl ⟨rfl, by rw [hw']; exact Below.refl _ _⟩⟩
  read := by
    rintro w p s c m F i ⟨⟨bb, bs, bc, vw, vs, h, hF⟩, hc, hcF, hp⟩ hi
    exact read_r h i
  pending := by
    rintro w p s c m F ⟨⟨bb, bs, bc, vw, vs, h, hF⟩, hc, hcF, hp⟩ hl
    refine (pending_r h).mono ?_
    rintro e w' ⟨rfl, hw'⟩
    exact ⟨rfl, by rw [hw']; exact Below.refl _ _⟩
end Go.Proofs.YtfgoongfmidpgabDoor

/- device: Size, Moment. -/
namespace Go.Proofs.YtfgoongfmidpgabDoor
open Go.ChangeShapes Go.WideShapes Go.ChangeAt Go.RowKit
set_option linter.unusedVariables false

variable {w w' : World} {p c bb bs bc : Nat} {s : DS} {vw vs : Value}

theorem size_r (h : RepAt w p s c bb bs bc vw vs) : Calls Tryd.prog 24 #[ptr p] w fun e w' => e = .returned (.int .i64 (s.n : Nat)) ∧ w' = w := by
  have h0 : w.cell? ⟨p, 0, none⟩ = some (.int .i64 (s.n : Nat)) := h.cell 0
  clear h
  go_enter Tryd.func24, Tryd.ntmps24
  go_wp2
  go_ret
  exact ⟨rfl, rfl⟩

end Go.Proofs.YtfgoongfmidpgabDoor

/- What is asked of device's other calls is so of the program, as far as this seat has them. -/
namespace Go.Proofs.YtfgoongfmidpgabDoor
open Go.ChangeShapes Go.WideShapes Go.ChangeAt Go.RowKit
set_option linter.unusedVariables false

theorem theMore : DevMore theRep where
  size := by
    rintro w p s c m F ⟨⟨bb, bs, bc, vw, vs, h, hF⟩, hc, hcF, hp⟩
    refine (size_r h).mono ?_
    rintro e w' ⟨rfl, hw'⟩
    exact ⟨rfl, by rw [hw']; exact Below.refl _ _⟩
  isBad := by
    rintro w p s c m F i ⟨⟨bb, bs, bc, vw, vs, h, hF⟩, hc, hcF, hp⟩ hi
    exact bad_r h i
end Go.Proofs.YtfgoongfmidpgabDoor

/- The law's stands: just these records on a device, noughts behind them, all safe. -/
namespace Go.Proofs.YtfgoongfmidpgabDoor
open Go.ChangeShapes Go.WideShapes Go.ChangeAt Go.RowKit
set_option linter.unusedVariables false

def standsB (s : DS) (ls : List RC) : Bool := rlikes (recsOf (byOf (holds s)) (reads dgS (byOf (holds s)) (64 * s.n) 0).1) ls && (blankB (byOf (holds s)) (64 * s.n) (reads dgS (byOf (holds s)) (64 * s.n) 0).2 && decide (pend s.log = 0))

theorem reads_end_le (B : Nat → Nat) (N : Nat) : (reads dgS B N 0).2 ≤ N := (readF_laid (dg := dgS) (B := B) (N := N) (N + 1) 0).2.2.2 (Nat.zero_le _)

theorem recsOf_len (B : Nat → Nat) (l : List (Nat × Nat)) : (recsOf B l).length = l.length := by simp [recsOf]

set_option maxRecDepth 100000 in
set_option maxHeartbeats 4000000 in
theorem stands_any {D : DevRep} (hD : DevOk D) (hM : DevMore D) {w : World} {p c m : Nat} {s : DS} {F : Nat → Prop} (h : Dev D w p s c m F) (hs : Sound s) (hn : s.n ≤ 125) (hl : s.log.length ≤ 100000) {a : Option Addr} {n cap : Nat} {ls : List RC} (hr : Rl w a ls) (e : n = ls.length) :
    Calls Tryd.prog 21 #[ptr p, .slice a n cap] w fun e w' => e = .returned (.bool (standsB s ls)) ∧ Below w.heap.size w w' := by
  have C1 := content_any hD hM h hs
  have E : Hid (n = ls.length) := e
  clear e
  unfold standsB
  obtain ⟨N, hN⟩ : ∃ N, N = 64 * s.n := ⟨_, rfl⟩
  obtain ⟨B, hB⟩ : ∃ B, B = byOf (holds s) := ⟨_, rfl⟩
  rw [← hN, ← hB] at C1 ⊢
  have hN8 : N ≤ 8000 := by omega
  clear hN hB
  have hle := reads_end_le B N
  generalize hX : rlikes (recsOf B (reads dgS B N 0).1) ls = X
  generalize hY : blankB B N (reads dgS B N 0).2 = Y
  generalize hZ : decide (pend s.log = 0) = Z
  have HX : Hid (rlikes (recsOf B (reads dgS B N 0).1) ls = X) := hX
  have HY : Hid (blankB B N (reads dgS B N 0).2 = Y) := hY
  have HZ : Hid (decide (pend s.log = 0) = Z) := hZ
  clear hX hY hZ
  cases X
  · have z1 : (((pend s.log : Nat) : Int) == 0) = decide (pend s.log = 0) := by
      rw [Bool.eq_iff_iff]
      simp
    rw [HZ.out] at z1
    go_enter Tryd.func21, Tryd.ntmps21
    go_wp2_with (first
      | ((go_at_call 12)
         (refine C1.mono ?_)
         (rintro e w1 ⟨a1, c1, rfl, h1, hb1⟩)
         (clear C1)
         (have R1 := read_any h1 hN8))
      | ((go_at_call 19)
         (refine Calls.mono R1 ?_)
         (rintro e w2 ⟨hb2, a2, c2, rfl, h2⟩)
         (clear R1)
         (have hb12 := hb1.trans (hb2.mono hb1.size))
         (have S1 := samer_any (c1 := c2) (c2 := cap) h2 (hr.below hb12 (Nat.le_refl _)) (recsOf_len _ _).symm E.out)
         (rw [HX.out] at S1))
      | ((go_at_call 20)
         (refine S1.mono ?_)
         (rintro e w3 ⟨rfl, hb3⟩)
         (clear S1)
         (have hb13 := hb12.trans (hb3.mono hb12.size))
         (have hb23 := hb2.trans (hb3.mono hb2.size))
         (have B1 := blank_any (h1.below hb23 (Nat.le_refl _)) (by omega) (show (reads dgS B N 0).2 ≤ 1000000 by omega))
         (rw [HY.out] at B1))
      | ((go_at_call 40)
         (refine B1.mono ?_)
         (rintro e wz ⟨rfl, hz⟩)
         (obtain rfl : w3 = wz := hz.symm)
         (clear B1)
         (have P1 := hD.pending w3 p s c m F (h.below hD hb13 (Nat.le_refl _)) hl))
      | ((go_at_call 41)
         (refine P1.mono ?_)
         (rintro e w4 ⟨rfl, hb4⟩)
         (clear P1)
         (have hb14 := hb13.trans (hb4.mono hb13.size))))
    go_ret
    first
      | exact ⟨rfl, hb14⟩
      | exact ⟨rfl, hb13⟩
  · cases Y
    · have z1 : (((pend s.log : Nat) : Int) == 0) = decide (pend s.log = 0) := by
        rw [Bool.eq_iff_iff]
        simp
      rw [HZ.out] at z1
      go_enter Tryd.func21, Tryd.ntmps21
      go_wp2_with (first
        | ((go_at_call 12)
           (refine C1.mono ?_)
           (rintro e w1 ⟨a1, c1, rfl, h1, hb1⟩)
           (clear C1)
           (have R1 := read_any h1 hN8))
        | ((go_at_call 19)
           (refine Calls.mono R1 ?_)
           (rintro e w2 ⟨hb2, a2, c2, rfl, h2⟩)
           (clear R1)
           (have hb12 := hb1.trans (hb2.mono hb1.size))
           (have S1 := samer_any (c1 := c2) (c2 := cap) h2 (hr.below hb12 (Nat.le_refl _)) (recsOf_len _ _).symm E.out)
           (rw [HX.out] at S1))
        | ((go_at_call 20)
           (refine S1.mono ?_)
           (rintro e w3 ⟨rfl, hb3⟩)
           (clear S1)
           (have hb13 := hb12.trans (hb3.mono hb12.size))
           (have hb23 := hb2.trans (hb3.mono hb2.size))
           (have B1 := blank_any (h1.below hb23 (Nat.le_refl _)) (by omega) (show (reads dgS B N 0).2 ≤ 1000000 by omega))
           (rw [HY.out] at B1))
        | ((go_at_call 40)
           (refine B1.mono ?_)
           (rintro e wz ⟨rfl, hz⟩)
           (obtain rfl : w3 = wz := hz.symm)
           (clear B1)
           (have P1 := hD.pending w3 p s c m F (h.below hD hb13 (Nat.le_refl _)) hl))
        | ((go_at_call 41)
           (refine P1.mono ?_)
           (rintro e w4 ⟨rfl, hb4⟩)
           (clear P1)
           (have hb14 := hb13.trans (hb4.mono hb13.size))))
      go_ret
      first
        | exact ⟨rfl, hb14⟩
        | exact ⟨rfl, hb13⟩
    · have z1 : (((pend s.log : Nat) : Int) == 0) = decide (pend s.log = 0) := by
        rw [Bool.eq_iff_iff]
        simp
      rw [HZ.out] at z1
      go_enter Tryd.func21, Tryd.ntmps21
      go_wp2_with (first
        | ((go_at_call 12)
           (refine C1.mono ?_)
           (rintro e w1 ⟨a1, c1, rfl, h1, hb1⟩)
           (clear C1)
           (have R1 := read_any h1 hN8))
        | ((go_at_call 19)
           (refine Calls.mono R1 ?_)
           (rintro e w2 ⟨hb2, a2, c2, rfl, h2⟩)
           (clear R1)
           (have hb12 := hb1.trans (hb2.mono hb1.size))
           (have S1 := samer_any (c1 := c2) (c2 := cap) h2 (hr.below hb12 (Nat.le_refl _)) (recsOf_len _ _).symm E.out)
           (rw [HX.out] at S1))
        | ((go_at_call 20)
           (refine S1.mono ?_)
           (rintro e w3 ⟨rfl, hb3⟩)
           (clear S1)
           (have hb13 := hb12.trans (hb3.mono hb12.size))
           (have hb23 := hb2.trans (hb3.mono hb2.size))
           (have B1 := blank_any (h1.below hb23 (Nat.le_refl _)) (by omega) (show (reads dgS B N 0).2 ≤ 1000000 by omega))
           (rw [HY.out] at B1))
        | ((go_at_call 40)
           (refine B1.mono ?_)
           (rintro e wz ⟨rfl, hz⟩)
           (obtain rfl : w3 = wz := hz.symm)
           (clear B1)
           (have P1 := hD.pending w3 p s c m F (h.below hD hb13 (Nat.le_refl _)) hl))
        | ((go_at_call 41)
           (refine P1.mono ?_)
           (rintro e w4 ⟨rfl, hb4⟩)
           (clear P1)
           (have hb14 := hb13.trans (hb4.mono hb13.size))))
      go_ret
      first
        | exact ⟨rfl, hb14⟩
        | exact ⟨rfl, hb13⟩
end Go.Proofs.YtfgoongfmidpgabDoor

/- What the listed variables hold, out of the row's hypothesis; the witness's own world. -/
namespace Go.Proofs.YtfgoongfmidpgabDoor
open Go.ChangeShapes Go.WideShapes Go.ChangeAt Go.WideMaps Go.WideElems Go.RowKit

theorem gConstants : Tryd.prog.globalNamed (Rows.journalAlikeRow.named.getD 1 Rows.journalAlikeRow.program) = some 1 := by kernel_rfl
theorem gFirst : Tryd.prog.globalNamed (Rows.journalAlikeRow.named.getD 0 Rows.journalAlikeRow.program) = some 0 := by kernel_rfl
theorem tConstants : (Tryd.prog.globals[1]?).map (·.type) = some 95 := by kernel_rfl
theorem tFirst : (Tryd.prog.globals[0]?).map (·.type) = some 93 := by kernel_rfl
theorem dConstants {H : Type} : (Rows.laid_cofferdam_sha_constants : DataW H) = .agg (kList.map fun x => .lit (.int .u32 ((x : Nat) : Int))) := rfl
theorem dFirst {H : Type} : (Rows.laid_cofferdam_sha_firstState : DataW H) = .agg (hList.map fun x => .lit (.int .u32 ((x : Nat) : Int))) := rfl
theorem Tryd.cells92 : Tryd.prog.cellsOf 92 = 1 := by kernel_rfl

theorem var_nums {H : Type} {enc : TypeId × Value → H} {W : World} {base : Nat} {sp : Nat → Bool} {held : Bool} {fuel : Nat} {name : String} {g t n : Nat} {l : List Nat} {cs : Array Value} {p : List MemPlace}
    (hg : Tryd.prog.globalNamed name = some g) (ht : Tryd.prog.underlying t = some (.array n 92)) (hn : l.length = n) (hv : W.var? Tryd.prog name = some cs)
    (hd : DataW.trod enc Tryd.prog W base sp held fuel t cs.toList = some (.agg (l.map fun x => .lit (.int .u32 ((x : Nat) : Int))), p)) (i : Nat) (hi : i < n) :
    W.cell? ⟨g, i, none⟩ = some (.int .u32 ((l.getD i 0 : Nat) : Int)) := by
  obtain ⟨fuel', d, q, h1, h2⟩ := Lib.array_elem ht hd i hi
  rw [Tryd.cells92] at h2
  obtain ⟨k, e1, e2, _⟩ := DataW.trod_int Tryd.underlying92 h2
  rw [World.var?_cell hg hv i]
  have hl : i < l.length := by omega
  rw [List.getElem?_map, List.getElem?_eq_getElem hl] at h1
  simp only [Prod.mk.injEq] at e2
  rw [e2.1] at h1
  simp only [Option.map_some, Option.some.injEq, DataW.lit.injEq, Lit.int.injEq, true_and] at h1
  rw [List.getD_eq_getElem?_getD, List.getElem?_eq_getElem hl, Option.getD_some, h1, ← Array.getElem?_toList]
  rw [Nat.mul_one] at e1
  have := congrArg (fun x : List Value => x[0]?) e1
  simpa using this

theorem of_laid {W : World} (h : laidMetH Tryd.prog Rows.journalAlikeRow.laid W) : Glob Hc Kc W := by
  rw [MakeChecks.laidMetH_plain _ _ _ (by kernel_rfl)] at h
  obtain ⟨ps, ⟨g0, t0, cs0, f0, p0, q0, hg0, ht0, hv0, hd0, ⟨g1, t1, cs1, f1, p1, q1, hg1, ht1, hv1, hd1, _, _⟩, _⟩, _, _⟩ := h
  obtain rfl := Option.some.inj (gConstants.symm.trans hg0)
  obtain rfl := Option.some.inj (gFirst.symm.trans hg1)
  obtain rfl := Option.some.inj (tConstants.symm.trans ht0)
  obtain rfl := Option.some.inj (tFirst.symm.trans ht1)
  rw [dConstants] at hd0
  rw [dFirst] at hd1
  have c0 := var_nums hg0 Tryd.underlying95 rfl hv0 hd0 0 (by decide)
  exact ⟨World.block_lt_of_cell? W ⟨1, 0, none⟩ c0, fun j hj => var_nums hg1 Tryd.underlying93 rfl hv1 hd1 j hj, fun j hj => var_nums hg0 Tryd.underlying95 rfl hv0 hd0 j hj⟩

/-- A slice of integers that came in: nil, or a row of cells. -/
def IsRow (k : IntKind) (w : World) (a : Option Addr) (len cap : Nat) (zs : List Int) : Prop :=
  (a = none ∧ len = 0 ∧ cap = 0 ∧ zs = []) ∨
  ∃ x, a = some x ∧ len ≤ cap ∧ cap ≤ maxLen ∧ zs.length = cap ∧ (∀ i, i < zs.length → w.cell? (x.add i) = some (.int k (zs.getD i 0))) ∧ ∀ n ∈ zs, (Lit.int k n).wf = true
end Go.Proofs.YtfgoongfmidpgabDoor

/- Bytes, bools, numbers, lists of records, as they came in. -/
namespace Go.Proofs.YtfgoongfmidpgabDoor
open Go.ChangeShapes Go.WideShapes Go.ChangeAt Go.RowKit
set_option linter.unusedVariables false

def bnD (zs : List Int) (j : Nat) : Nat := (zs.getD j 0).toNat % 256

theorem bnD_eq {zs : List Int} (hw : ∀ n ∈ zs, (Lit.int .u8 n).wf = true) (j : Nat) (hj : j < zs.length) : zs.getD j 0 = ((bnD zs j : Nat) : Int) := by
  have hmem : zs.getD j 0 ∈ zs := by rw [List.getD_eq_getElem?_getD, List.getElem?_eq_getElem hj]; exact List.getElem_mem hj
  have h := hw _ hmem
  simp [Lit.wf, IntKind.min, IntKind.max, IntKind.signed, IntKind.bits] at h
  unfold bnD
  rw [Int.natCast_emod, Int.toNat_of_nonneg (by simpa using h.1)]
  have := h.2
  simp at this ⊢
  omega

theorem i64_of_wf {n : Int} (h : (Lit.int .i64 n).wf = true) : i64ok n := by
  simp [Lit.wf, IntKind.min, IntKind.max, IntKind.signed, IntKind.bits] at h
  unfold i64ok
  omega

theorem cells5D : Tryd.prog.cellsOf 5 = 1 := by kernel_rfl
theorem cells4D : Tryd.prog.cellsOf 4 = 1 := by kernel_rfl
theorem cells3D : Tryd.prog.cellsOf 3 = 1 := by kernel_rfl
theorem cellsByD : Tryd.prog.cellsOf 33 = 1 := by kernel_rfl
theorem cellsRcD : Tryd.prog.cellsOf 22 = 1 := by kernel_rfl

variable {H : Type} {enc : TypeId × Value → H} {W : World} {fuel : Nat}

theorem open_by {v : Value} {y : DataW H × List MemPlace} (hf : DataW.trod enc Tryd.prog W 0 (fun _ => true) true fuel 33 [v] = some y) : ∃ a L C b, v = .slice a L C ∧ ByIn W a L C b := by
  rcases open_ints Tryd.underlying33 Tryd.underlying5 cells5D hf with ⟨hcs, _⟩ | ⟨x, l, c, zs, hcs, _, hl, hm, hzl, hx, hcell, hwz⟩
  · simp only [List.cons.injEq, and_true] at hcs
    exact ⟨none, 0, 0, fun _ => 0, hcs, Nat.le_refl _, Nat.zero_le _, fun _ => ⟨rfl, rfl⟩, .inl rfl, fun _ => by decide⟩
  · simp only [List.cons.injEq, and_true] at hcs
    have hzl' : zs.length = c := by simpa using hzl
    refine ⟨some x, l, c, bnD zs, hcs, hl, Nat.le_trans hl hm, (fun e => by cases e), ?_, fun j => Nat.mod_lt _ (by decide)⟩
    by_cases h0 : l = 0
    · exact .inl h0
    · obtain ⟨b, off, spot⟩ := x
      have hs : spot = none := by simpa [Addr.add] using World.cell?_spot (hcell 0 (by omega))
      subst hs
      have e1 : ∀ j, (⟨b, off, none⟩ : Addr).add j = ⟨b, off + j, none⟩ := fun j => by simp [Addr.add]
      refine .inr ⟨b, off, rfl, World.block_lt_of_cell? W _ (hcell 0 (by omega)), fun j hj => ?_⟩
      have h := hcell j (by omega)
      rw [e1, bnD_eq hwz j (by omega)] at h
      exact h


theorem open_i64 {v : Value} {y : DataW H × List MemPlace} (hf : DataW.trod enc Tryd.prog W 0 (fun _ => true) true fuel 3 [v] = some y) : ∃ n, v = .int .i64 n ∧ i64ok n := by
  obtain ⟨s, hs1, _, hs2⟩ := DataW.trod_int Tryd.underlying3 hf
  simp only [List.cons.injEq, and_true] at hs1
  exact ⟨s, hs1, i64_of_wf hs2⟩

/-- A slice whose elements have one cell each: what each of them is. -/
theorem open_ones {t e : TypeId} (ht : Tryd.prog.underlying t = some (.slice e)) (he : Tryd.prog.cellsOf e = 1) {v : Value} {y : DataW H × List MemPlace} (hf : DataW.trod enc Tryd.prog W 0 (fun _ => true) true fuel t [v] = some y) :
    ∃ a len cap, v = .slice a len cap ∧ len ≤ cap ∧ len ≤ maxLen ∧ ∀ i, i < len → ∃ x o u n' z, a = some ⟨x, o, none⟩ ∧ x < W.heap.size ∧ W.cell? ⟨x, o + i, none⟩ = some u ∧ DataW.trod enc Tryd.prog W 0 (fun _ => true) true n' e [u] = some z := by
  rcases Go.Deep.open_slice ht hf with ⟨hcs, _⟩ | ⟨ad, l, c, m, n, D, Pl, hcs, _, hl, hm, hmm, _, hx⟩
  · simp only [List.cons.injEq, and_true] at hcs
    exact ⟨none, 0, 0, hcs, Nat.le_refl _, Nat.zero_le _, fun i hi => by omega⟩
  · simp only [List.cons.injEq, and_true] at hcs
    simp only [if_true] at hmm
    refine ⟨some ad, l, c, hcs, hl, Nat.le_trans hl hm, fun i hi => ?_⟩
    obtain ⟨cs', h1, h2⟩ := hx i (by omega)
    rw [he] at h1
    obtain ⟨_, hlen, hcell⟩ := World.cells?_some h1
    match cs', hlen with
    | [u], _ =>
      have c0 := hcell 0 (by omega)
      rw [Go.Deep.add_add] at c0
      obtain ⟨b, off, spot⟩ := ad
      have hs : spot = none := by
        by_cases hz : i * 1 = 0
        · rw [hz] at c0
          simpa [Addr.add] using World.cell?_spot c0
        · have hi0 : 0 < m := by omega
          obtain ⟨cs0, g1, _⟩ := hx 0 hi0
          rw [he] at g1
          obtain ⟨_, hlen0, hcell0⟩ := World.cells?_some g1
          have := hcell0 0 (by omega)
          rw [Go.Deep.add_add] at this
          cases hv : cs0[0]? with
          | none => rw [List.getElem?_eq_none_iff] at hv; omega
          | some u => simpa [Addr.add] using World.cell?_spot (this.trans hv)
      subst hs
      have ea : ∀ j, (⟨b, off, none⟩ : Addr).add j = ⟨b, off + j, none⟩ := fun j => by simp [Addr.add]
      rw [ea] at c0
      have c0' : W.cell? ⟨b, off + i, none⟩ = some u := by simpa using c0
      exact ⟨b, off, u, _, _, rfl, World.block_lt_of_cell? W _ c0', c0', h2⟩

theorem rl_of {a : Option Addr} {len : Nat} (hm : len ≤ maxLen) (h : ∀ i, i < len → ∃ r : RC, ∃ x o ad C, a = some ⟨x, o, none⟩ ∧ x < W.heap.size ∧ W.cell? ⟨x, o + i, none⟩ = some (.slice ad r.L C) ∧ ByIn W ad r.L C r.f) : ∃ rs, Rl W a rs ∧ rs.length = len := by
  refine ⟨(List.range len).map fun i => if h' : i < len then (h i h').choose else ⟨0, fun _ => 0⟩, ⟨by simpa using hm, fun i r hr => ?_⟩, by simp⟩
  have hi : i < len := by
    have := (List.getElem?_eq_some_iff.1 hr).1
    simpa using this
  rw [List.getElem?_map, List.getElem?_range hi] at hr
  simp only [Option.map_some, Option.some.injEq, dif_pos hi] at hr
  subst hr
  exact (h i hi).choose_spec

theorem open_rl {v : Value} {y : DataW H × List MemPlace} (hf : DataW.trod enc Tryd.prog W 0 (fun _ => true) true fuel 22 [v] = some y) : ∃ a len cap rs, v = .slice a len cap ∧ len ≤ cap ∧ Rl W a rs ∧ rs.length = len := by
  obtain ⟨a, len, cap, rfl, hl, hm, hx⟩ := open_ones Tryd.underlying22 cellsByD hf
  obtain ⟨rs, h1, h2⟩ := rl_of hm (fun i hi => by
    obtain ⟨x, o, u, n', z, e, hxl, hc, ht⟩ := hx i hi
    obtain ⟨ad, L, C, b, rfl, hb⟩ := open_by ht
    exact ⟨⟨L, b⟩, x, o, ad, C, e, hxl, hc, hb⟩)
  exact ⟨a, len, cap, rs, rfl, hl, h1, h2⟩
end Go.Proofs.YtfgoongfmidpgabDoor
