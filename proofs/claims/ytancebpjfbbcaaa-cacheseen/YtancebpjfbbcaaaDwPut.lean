/- device: put. -/
import Derived.Test.YtancebpjfbbcaaaDwRead
import Derived.Test.YtancebpjfbbcaaaBasReg
namespace Go.Proofs.Ytancebpjfbbcaaa
open Go.ChangeShapes Go.WideShapes Go.ChangeAt Go.RowKit
set_option linter.unusedVariables false

theorem run_load_ws {o : Oper} {a : Act} (x : Operand) (ho : o.op = .load 88 x) (p : Addr) (hx : a.eval x = .pointer (some p)) (v : Value) (w : World) (h : w.cell? p = some v) : (execOp a.eval o).run Try.prog w = .ok (.value v) w := by
  unfold execOp
  simp only [ho, hx]
  go_simp

theorem run_load_pc {o : Oper} {a : Act} (x : Operand) (ho : o.op = .load 90 x) (p : Addr) (hx : a.eval x = .pointer (some p)) (v : Value) (w : World) (h : w.cell? p = some v) : (execOp a.eval o).run Try.prog w = .ok (.value v) w := by
  unfold execOp
  simp only [ho, hx]
  go_simp

theorem run_load_n {o : Oper} {a : Act} (x : Operand) (ho : o.op = .load 3 x) (p : Addr) (hx : a.eval x = .pointer (some p)) (v : Value) (w : World) (h : w.cell? p = some v) : (execOp a.eval o).run Try.prog w = .ok (.value v) w := by
  unfold execOp
  simp only [ho, hx]
  go_simp

theorem run_load_sm {o : Oper} {a : Act} (x : Operand) (ho : o.op = .load 87 x) (p : Addr) (hx : a.eval x = .pointer (some p)) (v : Value) (w : World) (h : w.cell? p = some v) : (execOp a.eval o).run Try.prog w = .ok (.value v) w := by
  unfold execOp
  simp only [ho, hx]
  go_simp

theorem run_store_ws {o : Oper} {a : Act} (x y : Operand) (ho : o.op = .store 88 x y) (p : Addr) (hx : a.eval x = .pointer (some p)) (A : Option Addr) (n c : Nat) (hy : a.eval y = .slice A n c) (w : World) (u : Value) (h : w.cell? p = some u) (hf : w.frozen? p = false) : (execOp a.eval o).run Try.prog w = .ok .skip (w.setCell p (.slice A n c)) := by
  unfold execOp
  simp only [ho, hx, hy]
  go_simp

theorem run_app {o : Oper} {a : Act} {w w' : World} (t : TypeId) (s x : Operand) (ho : o.op = .call { callee := .builtin .append, args := #[s, x], argTypes := #[t, t] }) (vs vx : Value) (hs : a.eval s = vs) (hx : a.eval x = vx) (v' : Value) (ty : TypeId) (hty : o.type = ty)
    (hr : (Builtin.append_ #[t, t] ty #[vs, vx]).run Try.prog w = .ok v' w') : (execOp a.eval o).run Try.prog w = .ok (.value v') w' := by
  subst hty
  unfold execOp
  simp [ho, resolve, invoke, builtin, hs, hx, hr]

theorem run_mapUpd {o : Oper} {a : Act} {w w' : World} (t : TypeId) (x y z : Operand) (ho : o.op = .mapUpdate t x y z) (vm vk vv : Value) (hx : a.eval x = vm) (hy : a.eval y = vk) (hz : a.eval z = vv)
    (hr : (Instr.mapUpdate t vm vk vv).run Try.prog w = .ok () w') : (execOp a.eval o).run Try.prog w = .ok .skip w' := by
  unfold execOp
  simp [ho, hx, hy, hz, hr]

theorem run_build_w {o : Oper} {a : Act} (x1 x2 x3 x4 : Operand) (ho : o.op = .build 116 #[(0, x1), (1, x2), (2, x3), (3, x4)]) (I : Nat) (B : Nat → Nat) (mo : Nat) (tp : Bool) (h1 : a.eval x1 = .int .i64 (I : Nat)) (h2 : a.eval x2 = .agg (cellsN .u8 64 B)) (h3 : a.eval x3 = .int .i64 (mo : Nat)) (h4 : a.eval x4 = .bool tp) (w : World) :
    (execOp a.eval o).run Try.prog w = .ok (.value (.agg (wcells ⟨I, B, false, tp, (mo : Nat)⟩).toArray)) w := by
  unfold execOp
  simp only [ho, List.map_toArray, List.map_cons, List.map_nil, h1, h2, h3, h4]
  kernel_rfl

theorem run_bs_w {o : Oper} {a : Act} (x : Operand) (ho : o.op = .buildSlice 88 1 #[(0, x)]) (e : AE) (hx : a.eval x = .agg (wcells e).toArray) (w : World) :
    (execOp a.eval o).run Try.prog w = .ok (.value (.slice (some ⟨w.heap.size, 0, none⟩) 1 1)) (w.alloc (.cells (wcells e).toArray 116)) := by
  unfold execOp
  simp only [ho, List.map_toArray, List.map_cons, List.map_nil, hx]
  kernel_rfl

theorem info_w : (Try.prog.info? 116).map (fun i => (i.zero, i.size, i.bytes)) = some (some (.agg (wcells ⟨0, fun _ => 0, false, false, 0⟩).toArray), 67, 88) := by kernel_rfl
theorem info_s : (Try.prog.info? 114).map (fun i => (i.zero, i.size, i.bytes)) = some (some (.agg #[.int .i64 0, .int .i64 0]), 2, 16) := by kernel_rfl

theorem wcells_one (e : AE) : ∀ u ∈ wcells e, u.oneCell' = true := by
  intro u hu
  unfold wcells at hu
  rcases List.mem_cons.1 hu with rfl | hu
  · rfl
  · rcases List.mem_append.1 hu with hu | hu
    · exact bl_one _ _ u hu
    · rcases List.mem_cons.1 hu with rfl | hu
      · rfl
      · rw [List.mem_singleton] at hu
        subst hu
        rfl

/-- A write is added to a row of writes. -/
theorem app_w {w : World} {v : Value} {n : Nat} {xs : List Value} (e : AE) (hown : w.ownsRow 0 116 67 v n xs) (hn : n ≤ 100000) (ty : TypeId) :
    ∃ g cap w', (Builtin.append_ #[88, 88] ty #[v, .slice (some ⟨w.heap.size, 0, none⟩) 1 1]).run Try.prog (w.alloc (.cells (wcells e).toArray 116)) = .ok (.slice (some ⟨g, 0, none⟩) (n + 1) cap) w' ∧
      w'.ownsRow 0 116 67 (.slice (some ⟨g, 0, none⟩) (n + 1) cap) (n + 1) (xs ++ wcells e) ∧ (w.alloc (.cells (wcells e).toArray 116)).grownBy w' v.ownBlock ∧ (v.ownBlock = some g ∨ g = w.heap.size + 1) := by
  obtain ⟨i0, hi0, hz0, hz1, hz2⟩ := info_parts info_w
  obtain ⟨g, cap, w', h1, h2, h3, h4, _⟩ := run_append_lies (P := Try.prog) (w.alloc (.cells (wcells e).toArray 116)) 88 ty 0 116 i0 _ 67 88 Try.underlying88 hi0 hz0 hz1 hz2 (by simp [Value.cells, wcells_len]) (by decide) v n xs (hown.alloc _) ⟨w.heap.size, 0, none⟩ 1 1 (wcells e) (by rw [wcells_len]) (World.news_of_block (cs := (wcells e).toArray) (Has.new w 116 _)) (wcells_one e) (by decide) (by unfold maxLen; omega) (by omega) (Nat.zero_le _) (w.heap.size + 1) (by simp)
  exact ⟨g, cap, w', h1, h2, h3, h4⟩

theorem SecMap.put {w : World} {b n : Nat} {g : Nat → Nat → Nat} (h : SecMap w b n g) (I : Nat) (B : Nat → Nat) :
    ∃ w', (Instr.mapUpdate 87 (.map (some b)) (.int .i64 (I : Nat)) (.agg (cellsN .u8 64 B))).run Try.prog w = .ok () w' ∧ SecMap w' b n (fun i => if i = I then B else g i) ∧ Only (fun k => k = b) w w' ∧ w'.heap.size = w.heap.size := by
  obtain ⟨f, hm, hf⟩ := h
  obtain ⟨w', h1, h2, h3, h4⟩ := hm.put Try.underlying87 (I : Nat) (.agg (cellsN .u8 64 B))
  refine ⟨w', h1, ⟨_, h2, fun i hi => ?_⟩, h3, h4⟩
  show (if (i : Int) = (I : Int) then some (Value.agg (cellsN .u8 64 B)) else f i).getD zsec = .agg (cellsN .u8 64 (if i = I then B else g i))
  by_cases e : i = I
  · subst e
    rw [if_pos rfl, if_pos rfl]
    rfl
  · rw [if_neg (by omega), if_neg e]
    exact hf i hi

variable {w w' : World} {p c bb bs bc : Nat} {s : DS} {vw vs : Value}

/-- What put leaves: all but the number of those that are pending. -/
structure PutPost (w w' : World) (p : Nat) (s : DS) (c bb bs bc : Nat) (vw vs vw' : Value) (e : AE) (m1 : Nat) : Prop where
  only : Only (fun k => k = p ∨ k = c ∨ k = bc ∨ vw.ownBlock = some k) w w'
  grew : ∀ k, vw'.ownBlock = some k → vw.ownBlock = some k ∨ w.heap.size ≤ k
  has : Has w' p 92 (dcells s.n s.dead bb bs bc vw' vs (pend s.log) c)
  clock : Has w' c 112 #[.int .i64 (m1 : Nat)]
  rep : ∀ w3, Only (fun k => k = p) w' w3 → Has w3 p 92 (dcells s.n s.dead bb bs bc vw' vs (pend (addD s e).log) c) → RepAt w3 p (addD s e) c bb bs bc vw' vs

set_option maxRecDepth 100000 in
set_option maxHeartbeats 4000000 in
theorem put_r (h : RepAt w p s c bb bs bc vw vs) {m : Nat} (hc : Has w c 112 #[.int .i64 (m : Nat)]) (hcF : ¬ Foot p bb bs bc vw vs c) (hp : Past s m) (I : Nat) (a : Option Addr) (L C : Nat) (b : Nat → Nat) (hL : L ≤ 64) (hb : Bytes w a L b) (tp : Bool) (hm : m ≤ 100000) (hlen : s.log.length ≤ 100000) :
    Calls Try.prog 57 #[ptr p, .int .i64 (I : Nat), .slice a L C, .bool tp] w fun e w' => e = .returned (.tuple #[]) ∧ ∃ vw', PutPost w w' p s c bb bs bc vw vs vw' ⟨I, full b L, false, tp, ((m + 1 : Nat) : Int)⟩ (m + 1) := by
  have hplt := h.has.lt
  have hclt := hc.lt
  have hcp : c ≠ p := fun e => hcF (.inl e)
  have hcbc : c ≠ bc := fun e => hcF (.inr (.inr (.inr (.inl e))))
  have hH1 : Has (w.alloc (.cells (cellsN .u8 64 fun _ => 0) 99)) w.heap.size 99 (cellsN .u8 64 fun _ => 0) := Has.new w _ _
  have hb1 : Below w.heap.size w (w.alloc (.cells (cellsN .u8 64 fun _ => 0) 99)) := (Below.refl _ _).alloc (Nat.le_refl _) _
  have hby := hb.below hb1 (Nat.le_refl _)
  obtain ⟨cs, hcs⟩ : ∃ cs, cs = (List.range L).map fun j => Value.int .u8 (b j : Nat) := ⟨_, rfl⟩
  have s1 : cs.length = Nat.min L 64 := by rw [hcs, List.length_map, List.length_range]; exact (Nat.min_eq_left hL).symm
  have s2 : 0 < cs.length → some (⟨w.heap.size, 0, none⟩ : Addr) = some ⟨w.heap.size, 0, none⟩ ∧ ∃ ad, a = some ad ∧ ∀ j v, cs[j]? = some v → (w.alloc (.cells (cellsN .u8 64 fun _ => 0) 99)).cell? (ad.add j) = some v := by
    rw [hcs]
    exact fun h0 => ⟨rfl, hby.src L (Nat.le_refl _) h0⟩
  have s3 : 0 + cs.length ≤ (cellsN .u8 64 fun _ => 0).toList.length := by rw [hcs]; simp [cellsN]; omega
  have s4 : ∀ v ∈ cs, v.oneCell' = true := by rw [hcs]; exact ints_one b L
  have S5 : Hid ((splice (cellsN .u8 64 fun _ => 0).toList 0 cs).toArray = cellsN .u8 64 (full b L)) := by
    show _ = _
    rw [hcs, spliced6 b L 64 hL]
    rfl
  have HR : Hid (RepAt w p s c bb bs bc vw vs) := h
  have HC : Hid (Has w c 112 #[.int .i64 (m : Nat)]) := hc
  have hc8 : w.cell? ⟨p, 8, none⟩ = some (.pointer (some ⟨c, 0, none⟩)) := h.cell 8
  have hc0 : w.cell? ⟨c, 0, none⟩ = some (.int .i64 (m : Nat)) := hc.cell 0
  clear hcs hby h hc
  go_enter Try.func57, Try.ntmps57
  go_wp2_with (first
    | (refine wpList_is_w (some 8) (.pointer (some ⟨w.heap.size, 0, none⟩)) (w.alloc (.cells (cellsN .u8 64 fun _ => 0) 99)) rfl (by rfl) (by kernel_rfl) ?_)
    | ((refine wpList_copy_splice rfl (.tmp 9) (.tmp 10) 39 39 rfl 5 Try.underlying39 (by kernel_rfl) (some ⟨w.heap.size, 0, none⟩) a 64 64 L C rfl rfl w.heap.size 0 (cellsN .u8 64 fun _ => 0).toList 99 hH1 cs s1 s2 s3 s4 w.heap.size w hb1 (Nat.le_refl _) ?_)
       (intro w5 hg5 hb5)
       (have hH5 : Has w5 w.heap.size 99 (cellsN .u8 64 (full b L)) := (by
          have hh := hg5.out
          rw [S5.out] at hh
          exact hh))
       (have k8 : w5.cell? ⟨p, 8, none⟩ = some (.pointer (some ⟨c, 0, none⟩)) := (hb5.cell hplt).trans hc8)
       (have k0 : w5.cell? ⟨c, 0, none⟩ = some (.int .i64 (m : Nat)) := (hb5.cell hclt).trans hc0)
       (have kf : w5.frozen? ⟨c, 0, none⟩ = false := (HC.out.below hb5 hclt).free 0)
       (clear hg5 hH1 hb1 s1 s2 s3 s4 S5)))
  have h := HR.out
  have hc := HC.out
  obtain ⟨g, hg⟩ : ∃ g, g = w.heap.size := ⟨_, rfl⟩
  obtain ⟨m1, hm1⟩ : ∃ m1, m1 = m + 1 := ⟨_, rfl⟩
  obtain ⟨B, hB⟩ : ∃ B, B = full b L := ⟨_, rfl⟩
  obtain ⟨w6, hw6⟩ : ∃ w6, w6 = w5.setCell ⟨c, 0, none⟩ (.int .i64 (m1 : Nat)) := ⟨_, rfl⟩
  rw [show w5.setCell ⟨c, 0, none⟩ (.int .i64 ((m : Int) + 1)) = w6 by rw [hw6, hm1]; simp]
  rw [← hg, ← hB] at hH5
  rw [← hg]
  have hO6 : Only (fun k => k = c) w5 w6 := by rw [hw6]; exact only_setCell _ _ _ _
  have hcg : c ≠ g := by omega
  have hcl6 : Has w6 c 112 #[.int .i64 (m1 : Nat)] := by rw [hw6]; exact (hc.below hb5 hclt).setV 0 _
  have hO06 : Only (fun k => k = c) w w6 := ⟨hO6.os.trans hb5.os, hO6.tape.trans hb5.tape, hO6.output.trans hb5.output, Nat.le_trans hb5.size hO6.size, fun k hk hn => (hO6.block k (Nat.lt_of_lt_of_le hk hb5.size) hn).trans (hb5.block k hk)⟩
  have hR6 : RepAt w6 p s c bb bs bc vw vs := h.kept (fun k hk => hO06.block k (h.lt k hk) (fun e => hcF (e ▸ hk)))
  have hH6 : Has w6 g 99 (cellsN .u8 64 B) := (hO6.block g hH5.lt (Ne.symm hcg)).trans hH5
  have hgF : ∀ k, Foot p bb bs bc vw vs k → k ≠ g := fun k hk e => by have := h.lt k hk; omega
  obtain ⟨e0, he0⟩ : ∃ e0 : AE, e0 = ⟨I, B, false, tp, (m1 : Nat)⟩ := ⟨_, rfl⟩
  have hDr : Below w6.heap.size w6 w6.drew := (Below.refl _ w6).drew
  have hR6d : RepAt w6.drew p s c bb bs bc vw vs := hR6.kept (fun _ _ => rfl)
  obtain ⟨g7, cap7, w7, hr7, hown7, hgr7, hl7⟩ := app_w e0 hR6d.wr (by
    have : wrs s.log ≤ s.log.length := List.length_filter_le _ _
    omega) 88
  have hA : Below w6.heap.size w6 (w6.drew.alloc (.cells (wcells e0).toArray 116)) := hDr.alloc (Nat.le_refl _) _
  have hO7 : Only (fun k => vw.ownBlock = some k) w6 w7 := ⟨hgr7.os.trans hA.os, hgr7.tape.trans hA.tape, hgr7.output.trans hA.output, Nat.le_trans hA.size hgr7.size, fun k hk hn => (hgr7.block k (Nat.lt_of_lt_of_le hk hA.size) (fun e => hn e.symm)).trans (hA.block k hk)⟩
  have hgw : vw.ownBlock ≠ some g := fun e => hgF g (.inr (.inr (.inr (.inr (.inl e))))) rfl
  have hcw : vw.ownBlock ≠ some c := fun e => hcF (.inr (.inr (.inr (.inr (.inl e)))))
  have p5 : w6.cell? ⟨p, 5, none⟩ = some vw := hR6.cell 5
  have p8 : w6.cell? ⟨p, 8, none⟩ = some (.pointer (some ⟨c, 0, none⟩)) := hR6.cell 8
  have c0 : w6.cell? ⟨c, 0, none⟩ = some (.int .i64 (m1 : Nat)) := hcl6.cell 0
  have held : ∀ wz, Only (fun k => vw.ownBlock = some k) w6 wz → wz.cell? ⟨p, 5, none⟩ = some vw ∧ wz.cell? ⟨p, 8, none⟩ = some (.pointer (some ⟨c, 0, none⟩)) ∧ wz.cell? ⟨c, 0, none⟩ = some (.int .i64 (m1 : Nat)) ∧ Has wz g 99 (cellsN .u8 64 B) := fun wz hz =>
    ⟨(hz.cell hR6.has.lt hR6.wr_p).trans p5, (hz.cell hR6.has.lt hR6.wr_p).trans p8, (hz.cell hcl6.lt hcw).trans c0, (hz.block g hH6.lt hgw).trans hH6⟩
  refine lastTo (S := fun wz => wz.cell? ⟨p, 5, none⟩ = some vw ∧ wz.cell? ⟨p, 8, none⟩ = some (.pointer (some ⟨c, 0, none⟩)) ∧ wz.cell? ⟨c, 0, none⟩ = some (.int .i64 (m1 : Nat)) ∧ Has wz g 99 (cellsN .u8 64 B)) 20 (by kernel_rfl) ⟨p5, p8, c0, hH6⟩ (fun hHeld => ?_)
  refine takeL 0 (some 22) (ptr p) rfl rfl (by decide) (by kernel_rfl) (by kernel_rfl) (by kernel_rfl) (by kernel_rfl) (fun _ _ _ h => h) (by rfl) (fun _ _ => rfl) hHeld ?_
  simp only [Act.put, List.setIfInBounds_toArray, List.set_cons_zero, List.set_cons_succ]
  refine takeL 1 (some 23) (ptr p) rfl rfl (by decide) (by kernel_rfl) (by kernel_rfl) (by kernel_rfl) (by kernel_rfl) (fun _ _ _ h => h) (by rfl) (fun _ _ => rfl) hHeld ?_
  simp only [Act.put, List.setIfInBounds_toArray, List.set_cons_zero, List.set_cons_succ]
  refine takeL 2 (some 24) (.pointer (some ⟨p, 0, none⟩)) rfl rfl (by decide) (by kernel_rfl) (by kernel_rfl) (by kernel_rfl) (by kernel_rfl) (fun _ _ _ h => h) (by rfl) (fun _ _ => rfl) hHeld ?_
  simp only [Act.put, List.setIfInBounds_toArray, List.set_cons_zero, List.set_cons_succ]
  refine takeL 3 (some 25) (.pointer (some ⟨p, 5, none⟩)) rfl rfl (by decide) (by kernel_rfl) (by kernel_rfl) (by kernel_rfl) (by kernel_rfl) (fun _ _ _ h => h) (by rfl) (fun _ _ => rfl) hHeld ?_
  simp only [Act.put, List.setIfInBounds_toArray, List.set_cons_zero, List.set_cons_succ]
  refine takeL 4 (some 26) (vw) rfl rfl (by decide) (by kernel_rfl) (by kernel_rfl) (by kernel_rfl) (by kernel_rfl) (fun _ _ _ h => h) (by rfl) (fun wz hz => run_load_ws _ rfl _ rfl _ wz hz.1) hHeld ?_
  simp only [Act.put, List.setIfInBounds_toArray, List.set_cons_zero, List.set_cons_succ]
  refine takeL 5 (some 27) (.int .i64 (I : Nat)) rfl rfl (by decide) (by kernel_rfl) (by kernel_rfl) (by kernel_rfl) (by kernel_rfl) (fun _ _ _ h => h) (by rfl) (fun _ _ => rfl) hHeld ?_
  simp only [Act.put, List.setIfInBounds_toArray, List.set_cons_zero, List.set_cons_succ]
  refine takeL 6 (some 28) (.agg (cellsN .u8 64 B)) rfl rfl (by decide) (by kernel_rfl) (by kernel_rfl) (by kernel_rfl) (by kernel_rfl) (fun _ _ _ h => h) (by rfl) (fun wz hz => run_load_row 99 _ rfl g rfl _ 99 Try.underlying99 (by rw [cellsN_size]; exact Try.size99) wz hz.2.2.2) hHeld ?_
  simp only [Act.put, List.setIfInBounds_toArray, List.set_cons_zero, List.set_cons_succ]
  refine takeL 7 (some 29) (ptr p) rfl rfl (by decide) (by kernel_rfl) (by kernel_rfl) (by kernel_rfl) (by kernel_rfl) (fun _ _ _ h => h) (by rfl) (fun _ _ => rfl) hHeld ?_
  simp only [Act.put, List.setIfInBounds_toArray, List.set_cons_zero, List.set_cons_succ]
  refine takeL 8 (some 30) (.pointer (some ⟨p, 0, none⟩)) rfl rfl (by decide) (by kernel_rfl) (by kernel_rfl) (by kernel_rfl) (by kernel_rfl) (fun _ _ _ h => h) (by rfl) (fun _ _ => rfl) hHeld ?_
  simp only [Act.put, List.setIfInBounds_toArray, List.set_cons_zero, List.set_cons_succ]
  refine takeL 9 (some 31) (.pointer (some ⟨p, 8, none⟩)) rfl rfl (by decide) (by kernel_rfl) (by kernel_rfl) (by kernel_rfl) (by kernel_rfl) (fun _ _ _ h => h) (by rfl) (fun _ _ => rfl) hHeld ?_
  simp only [Act.put, List.setIfInBounds_toArray, List.set_cons_zero, List.set_cons_succ]
  refine takeL 10 (some 32) (.pointer (some ⟨c, 0, none⟩)) rfl rfl (by decide) (by kernel_rfl) (by kernel_rfl) (by kernel_rfl) (by kernel_rfl) (fun _ _ _ h => h) (by rfl) (fun wz hz => run_load_pc _ rfl _ rfl _ wz hz.2.1) hHeld ?_
  simp only [Act.put, List.setIfInBounds_toArray, List.set_cons_zero, List.set_cons_succ]
  refine takeL 11 (some 33) (.pointer (some ⟨c, 0, none⟩)) rfl rfl (by decide) (by kernel_rfl) (by kernel_rfl) (by kernel_rfl) (by kernel_rfl) (fun _ _ _ h => h) (by rfl) (fun _ _ => rfl) hHeld ?_
  simp only [Act.put, List.setIfInBounds_toArray, List.set_cons_zero, List.set_cons_succ]
  refine takeL 12 (some 34) (.pointer (some ⟨c, 0, none⟩)) rfl rfl (by decide) (by kernel_rfl) (by kernel_rfl) (by kernel_rfl) (by kernel_rfl) (fun _ _ _ h => h) (by rfl) (fun _ _ => rfl) hHeld ?_
  simp only [Act.put, List.setIfInBounds_toArray, List.set_cons_zero, List.set_cons_succ]
  refine takeL 13 (some 35) (.int .i64 (m1 : Nat)) rfl rfl (by decide) (by kernel_rfl) (by kernel_rfl) (by kernel_rfl) (by kernel_rfl) (fun _ _ _ h => h) (by rfl) (fun wz hz => run_load_n _ rfl _ rfl _ wz hz.2.2.1) hHeld ?_
  simp only [Act.put, List.setIfInBounds_toArray, List.set_cons_zero, List.set_cons_succ]
  refine takeL 14 (some 36) (.bool tp) rfl rfl (by decide) (by kernel_rfl) (by kernel_rfl) (by kernel_rfl) (by kernel_rfl) (fun _ _ _ h => h) (by rfl) (fun _ _ => rfl) hHeld ?_
  simp only [Act.put, List.setIfInBounds_toArray, List.set_cons_zero, List.set_cons_succ]
  refine takeL 15 (some 37) (.agg (wcells ⟨I, B, false, tp, (m1 : Nat)⟩).toArray) rfl rfl (by decide) (by kernel_rfl) (by kernel_rfl) (by kernel_rfl) (by kernel_rfl) (fun _ _ _ h => h) (by rfl) (fun _ _ => run_build_w _ _ _ _ rfl _ _ _ _ rfl rfl rfl rfl _) hHeld ?_
  simp only [Act.put, List.setIfInBounds_toArray, List.set_cons_zero, List.set_cons_succ]
  rw [← he0]
  have hHeld8 := held (w6.drew.alloc (.cells (wcells e0).toArray 116)) (Only.of_below hA (Nat.le_refl _))
  refine valL 16 (some 38) (.slice (some ⟨w6.drew.heap.size, 0, none⟩) 1 1) (w6.drew.alloc (.cells (wcells e0).toArray 116)) (by kernel_rfl) rfl rfl (by rfl) (run_bs_w _ rfl e0 rfl w6.drew) hHeld8 ?_
  simp only [Act.put, List.setIfInBounds_toArray, List.set_cons_zero, List.set_cons_succ]
  have hHeld9 := held w7 hO7
  refine valL 17 (some 39) (.slice (some ⟨g7, 0, none⟩) (wrs s.log + 1) cap7) w7 (by kernel_rfl) rfl rfl (by rfl) (run_app 88 _ _ rfl vw (.slice (some ⟨w6.drew.heap.size, 0, none⟩) 1 1) rfl rfl _ 88 rfl hr7) hHeld9 ?_
  simp only [Act.put, List.setIfInBounds_toArray, List.set_cons_zero, List.set_cons_succ]
  refine valL 18 (some 40) (.pointer (some ⟨p, 0, none⟩)) w7 (by kernel_rfl) rfl rfl (by rfl) (by kernel_rfl) hHeld9 ?_
  simp only [Act.put, List.setIfInBounds_toArray, List.set_cons_zero, List.set_cons_succ]
  refine valL 19 (some 41) (.pointer (some ⟨p, 5, none⟩)) w7 (by kernel_rfl) rfl rfl (by rfl) (by kernel_rfl) hHeld9 ?_
  simp only [Act.put, List.setIfInBounds_toArray, List.set_cons_zero, List.set_cons_succ]
  have hR7 : Has w7 p 92 (dcells s.n s.dead bb bs bc vw vs (pend s.log) c) := (hO7.block p hR6.has.lt hR6.wr_p).trans hR6.has
  have f7 := hR7.free 5
  refine lastSkip 20 none (w7.setCell ⟨p, 5, none⟩ (.slice (some ⟨g7, 0, none⟩) (wrs s.log + 1) cap7)) (by kernel_rfl) rfl rfl (by rfl) (run_store_ws _ _ rfl ⟨p, 5, none⟩ rfl _ _ _ rfl w7 _ hHeld9.1 f7) (by kernel_rfl) ?_
  simp only [Act.put]
  obtain ⟨v7, hv7⟩ : ∃ v7 : Value, v7 = .slice (some ⟨g7, 0, none⟩) (wrs s.log + 1) cap7 := ⟨_, rfl⟩
  rw [← hv7]
  rw [← hv7] at hown7
  have hl7' : ∀ k, v7.ownBlock = some k → vw.ownBlock = some k ∨ w6.heap.size ≤ k := by
    intro k hk
    rw [hv7] at hk
    have hk' : g7 = k := by simpa [Value.ownBlock] using hk
    subst hk'
    rcases hl7 with h1 | h1
    · exact .inl h1
    · have h2 : g7 = w6.heap.size + 1 := h1
      exact .inr (by omega)
  obtain ⟨w8, hw8⟩ : ∃ w8, w8 = w7.setCell ⟨p, 5, none⟩ v7 := ⟨_, rfl⟩
  rw [← hw8]
  have hO8 : Only (fun k => k = p) w7 w8 := by rw [hw8]; exact only_setCell _ _ _ _
  have hR8 : Has w8 p 92 (dcells s.n s.dead bb bs bc v7 vs (pend s.log) c) := by rw [hw8]; exact hR7.setV 5 v7
  have hnow7 : SecMap w7 bc s.n (holds s) := hR6.now.kept (hO7.block _ hR6.now.lt hR6.wr_bc)
  have hnow8 : SecMap w8 bc s.n (holds s) := hnow7.kept (hO8.block _ hnow7.lt (hnow7.ne hR7))
  have hH8 : Has w8 g 99 (cellsN .u8 64 B) := (hO8.block g hHeld9.2.2.2.lt (fun e => hgF p (.inl rfl) e.symm)).trans hHeld9.2.2.2
  have q4 : w8.cell? ⟨p, 4, none⟩ = some (.map (some bc)) := hR8.cell 4
  have hnow8d : SecMap w8.drew bc s.n (holds s) := hnow8.kept rfl
  obtain ⟨w9, hr9, hs9, ho9, hz9⟩ := hnow8d.put I B
  have hDr8 : Below w8.heap.size w8 w8.drew := (Below.refl _ w8).drew
  have ho89 : Only (fun k => k = bc) w8 w9 := ⟨ho9.os.trans hDr8.os, ho9.tape.trans hDr8.tape, ho9.output.trans hDr8.output, Nat.le_trans hDr8.size ho9.size, fun k hk hn => (ho9.block k hk hn).trans (hDr8.block k hk)⟩
  clear hw8 hw6
  go_wp2
  refine lastTo (S := fun wz => wz.cell? ⟨p, 4, none⟩ = some (.map (some bc)) ∧ Has wz g 99 (cellsN .u8 64 B)) 6 (by kernel_rfl) ⟨q4, hH8⟩ (fun hHeld => ?_)
  refine takeL 0 (some 42) (ptr p) rfl rfl (by decide) (by kernel_rfl) (by kernel_rfl) (by kernel_rfl) (by kernel_rfl) (fun _ _ _ h => h) (by rfl) (fun _ _ => rfl) hHeld ?_
  simp only [Act.put, List.setIfInBounds_toArray, List.set_cons_zero, List.set_cons_succ]
  refine takeL 1 (some 43) (.pointer (some ⟨p, 0, none⟩)) rfl rfl (by decide) (by kernel_rfl) (by kernel_rfl) (by kernel_rfl) (by kernel_rfl) (fun _ _ _ h => h) (by rfl) (fun _ _ => rfl) hHeld ?_
  simp only [Act.put, List.setIfInBounds_toArray, List.set_cons_zero, List.set_cons_succ]
  refine takeL 2 (some 44) (.pointer (some ⟨p, 4, none⟩)) rfl rfl (by decide) (by kernel_rfl) (by kernel_rfl) (by kernel_rfl) (by kernel_rfl) (fun _ _ _ h => h) (by rfl) (fun _ _ => rfl) hHeld ?_
  simp only [Act.put, List.setIfInBounds_toArray, List.set_cons_zero, List.set_cons_succ]
  refine takeL 3 (some 45) (.map (some bc)) rfl rfl (by decide) (by kernel_rfl) (by kernel_rfl) (by kernel_rfl) (by kernel_rfl) (fun _ _ _ h => h) (by rfl) (fun wz hz => run_load_sm _ rfl _ rfl _ wz hz.1) hHeld ?_
  simp only [Act.put, List.setIfInBounds_toArray, List.set_cons_zero, List.set_cons_succ]
  refine takeL 4 (some 46) (.int .i64 (I : Nat)) rfl rfl (by decide) (by kernel_rfl) (by kernel_rfl) (by kernel_rfl) (by kernel_rfl) (fun _ _ _ h => h) (by rfl) (fun _ _ => rfl) hHeld ?_
  simp only [Act.put, List.setIfInBounds_toArray, List.set_cons_zero, List.set_cons_succ]
  refine takeL 5 (some 47) (.agg (cellsN .u8 64 B)) rfl rfl (by decide) (by kernel_rfl) (by kernel_rfl) (by kernel_rfl) (by kernel_rfl) (fun _ _ _ h => h) (by rfl) (fun wz hz => run_load_row 99 _ rfl g rfl _ 99 Try.underlying99 (by rw [cellsN_size]; exact Try.size99) wz hz.2) hHeld ?_
  simp only [Act.put, List.setIfInBounds_toArray, List.set_cons_zero, List.set_cons_succ]
  refine lastSkip 6 none w9 (by kernel_rfl) rfl rfl (by rfl) (run_mapUpd 87 _ _ _ rfl (.map (some bc)) (.int .i64 (I : Nat)) (.agg (cellsN .u8 64 B)) rfl rfl rfl hr9) (by kernel_rfl) ?_
  simp only [Act.put]
  go_end0
  have hAll : Only (fun k => k = p ∨ k = c ∨ k = bc ∨ vw.ownBlock = some k) w w9 :=
    (((hO06.mono (G := fun k => k = p ∨ k = c ∨ k = bc ∨ vw.ownBlock = some k) (fun k hk => .inr (.inl hk))).trans hO7 (fun x _ hx => .inr (.inr (.inr hx)))).trans hO8 (fun x _ hx => .inl hx)).trans ho89 (fun x _ hx => .inr (.inr (.inl hx)))
  have hsz6 : w.heap.size ≤ w6.heap.size := hO06.size
  have hR9 : Has w9 p 92 (dcells s.n s.dead bb bs bc v7 vs (pend s.log) c) := (ho89.block p hR8.lt h.bc_p.symm).trans hR8
  have hcl7 : Has w7 c 112 #[.int .i64 (m1 : Nat)] := (hO7.block c hcl6.lt hcw).trans hcl6
  have hcl8 : Has w8 c 112 #[.int .i64 (m1 : Nat)] := (hO8.block c hcl7.lt hcp).trans hcl7
  have hcl9 : Has w9 c 112 #[.int .i64 (m1 : Nat)] := (ho89.block c hcl8.lt hcbc).trans hcl8
  have hown8 : w8.ownsRow 0 116 67 v7 (wrs s.log + 1) (Wc s.log ++ wcells e0) := own_kept hown7 (fun q hq => hO8.block q (hown7.lt q hq).2 (fun e => by obtain ⟨cur, hcur⟩ := own_block hown7 hq; exact cells_ne hcur hR7 (by decide) e))
  have hown9 : w9.ownsRow 0 116 67 v7 (wrs s.log + 1) (Wc s.log ++ wcells e0) := own_kept hown8 (fun q hq => ho89.block q (hown8.lt q hq).2 (fun e => by obtain ⟨cur, hcur⟩ := own_block hown8 hq; exact hnow8.ne hcur e.symm))
  have he1 : (⟨I, full b L, false, tp, ((m + 1 : Nat) : Int)⟩ : AE) = e0 := by rw [he0, hB, hm1]
  refine ⟨rfl, v7, ?_⟩
  rw [he1, ← hm1]
  refine ⟨hAll, fun k hk => (hl7' k hk).imp id (fun h1 => Nat.le_trans hsz6 h1), hR9, hcl9, fun w3 ho3 hh3 => ?_⟩
  have hns : e0.sync = false := by rw [he0]
  have hlog : (addD s e0).log = s.log ++ [e0] := rfl
  have hws0 : ws [e0] = [e0] := by simp [ws, hns]
  refine ⟨hh3, h.n1, h.n2, h.bad.kept ((ho3.block _ (Nat.lt_of_lt_of_le h.bad.lt hAll.size) h.bb_p).trans (hAll.block _ h.bad.lt ?_)), h.fst.kept ((ho3.block _ (Nat.lt_of_lt_of_le h.fst.lt hAll.size) h.bs_p).trans (hAll.block _ h.fst.lt ?_)), ?_, ?_, ?_, h.d1, h.d2, h.d3, ?_⟩
  · rintro (q | q | q | q)
    · exact h.bb_p q
    · exact hcF (.inr (.inl q.symm))
    · exact h.d2 q
    · exact h.wr_bb q
  · rintro (q | q | q | q)
    · exact h.bs_p q
    · exact hcF (.inr (.inr (.inl q.symm)))
    · exact h.d3 q
    · exact h.wr_bs q
  · refine (hs9.kept (ho3.block _ hs9.lt h.bc_p)).congr (fun i hi j hj => ?_)
    rw [holds_add]
    unfold upF
    rw [he0]
    simp
  · have hw1 : wrs (addD s e0).log = wrs s.log + 1 := by rw [hlog, wrs_snoc, hns]; rfl
    have hw2 : Wc (addD s e0).log = Wc s.log ++ wcells e0 := by rw [hlog]; unfold Wc; rw [ws_append, hws0, List.flatMap_append]; simp
    rw [hw1, hw2]
    exact own_kept hown9 (fun q hq => ho3.block q (hown9.lt q hq).2 (fun e => by obtain ⟨cur, hcur⟩ := own_block hown9 hq; exact cells_ne hcur hR9 (by decide) e))
  · have hsy : syOf (addD s e0).log = syOf s.log := by rw [hlog, syOf_snoc, hns]; simp
    unfold Sc
    rw [hsy]
    exact own_kept h.sy (fun q hq => (ho3.block q (Nat.lt_of_lt_of_le (h.sy.lt q hq).2 hAll.size) (fun e => h.sy_p (e ▸ hq))).trans (hAll.block q (h.sy.lt q hq).2 (by
      rintro (r | r | r | r)
      · exact h.sy_p (r ▸ hq)
      · exact hcF (.inr (.inr (.inr (.inr (.inr (r ▸ hq))))))
      · exact h.sy_bc (r ▸ hq)
      · exact h.wr_sy r hq)))
  · exact rise_snoc s.log h.rise e0 (m : Nat) hp (by rw [he0, hm1]; simp)
end Go.Proofs.Ytancebpjfbbcaaa
