/- device: Kill, Spoil, Read. -/
import Derived.Test.YtancebpjfbbcaaaDwNew
namespace Go.Proofs.Ytancebpjfbbcaaa
open Go.ChangeShapes Go.WideShapes Go.ChangeAt Go.RowKit
set_option linter.unusedVariables false

variable {w w' : World} {p c bb bs bc : Nat} {s : DS} {vw vs : Value}

/-- All but the device's own block is as it was. -/
theorem RepAt.turnP (h : RepAt w p s c bb bs bc vw vs) (ho : Only (fun k => k = p) w w') {s' : DS} {c' : Nat} (hh : Has w' p 92 (dcells s'.n s'.dead bb bs bc vw vs (pend s'.log) c')) (e1 : s'.n = s.n) (e2 : s'.fst = s.fst) (e3 : s'.log = s.log) (e4 : s'.bad = s.bad) : RepAt w' p s' c' bb bs bc vw vs := by
  obtain ⟨n', f', l', b', d'⟩ := s'
  simp only at e1 e2 e3 e4
  subst e1 e2 e3 e4
  exact ⟨hh, h.n1, h.n2, h.bad.kept (ho.block _ h.bad.lt h.bb_p), h.fst.kept (ho.block _ h.fst.lt h.bs_p), h.now.kept (ho.block _ h.now.lt h.bc_p),
    own_kept h.wr (fun g hg => ho.block g (h.wr.lt g hg).2 (fun e => h.wr_p (e ▸ hg))), own_kept h.sy (fun g hg => ho.block g (h.sy.lt g hg).2 (fun e => h.sy_p (e ▸ hg))), h.d1, h.d2, h.d3, h.rise⟩

set_option maxRecDepth 100000 in
theorem kill_r (h : RepAt w p s c bb bs bc vw vs) : Calls Try.prog 23 #[ptr p] w fun e w' => e = .returned (.tuple #[]) ∧ Only (fun k => k = p) w w' ∧ RepAt w' p (killD s) c bb bs bc vw vs := by
  have h0 : w.cell? ⟨p, 1, none⟩ = some (.bool s.dead) := h.cell 1
  have h1 := h.has.free 1
  have hH := h.has.setV 1 (.bool true)
  have hR := fun hh => h.turnP (only_setCell w p 1 (.bool true)) (s' := killD s) (c' := c) hh rfl rfl rfl rfl
  clear h
  go_enter Try.func23, Try.ntmps23
  go_wp2
  go_end0
  exact ⟨rfl, only_setCell w p 1 _, hR hH⟩

set_option maxRecDepth 100000 in
set_option maxHeartbeats 1000000 in
theorem spoil_r (h : RepAt w p s c bb bs bc vw vs) (i : Int) (hi : rfErr s i = 0) : Calls Try.prog 21 #[ptr p, .int .i64 i] w fun e w' => e = .returned (.tuple #[]) ∧ Only (fun k => k = bb) w w' ∧ RepAt w' p (spoilD s i.toNat) c bb bs bc vw vs := by
  have h0 : w.cell? ⟨p, 2, none⟩ = some (.map (some bb)) := h.cell 2
  have hr := refusal_r h i
  rw [hi] at hr
  obtain ⟨f, hm, hf⟩ := h.bad
  obtain ⟨w1, hrun, hm1, ho, hs1⟩ := hm.put Try.underlying86 i (.agg #[])
  have hin : 0 ≤ i ∧ i < s.n := by
    unfold rfErr at hi
    split at hi
    · cases hi
    · split at hi
      · cases hi
      · omega
  have hR : RepAt w1 p (spoilD s i.toNat) c bb bs bc vw vs := by
    refine ⟨(ho.block p h.has.lt h.bb_p.symm).trans h.has, h.n1, h.n2, ⟨_, hm1, fun a => ?_⟩, h.fst.kept (ho.block _ h.fst.lt h.d1.symm), h.now.kept (ho.block _ h.now.lt h.d2.symm),
      own_kept h.wr (fun g hg => ho.block g (h.wr.lt g hg).2 (fun e => h.wr_bb (e ▸ hg))), own_kept h.sy (fun g hg => ho.block g (h.sy.lt g hg).2 (fun e => h.sy_bb (e ▸ hg))), h.d1, h.d2, h.d3, h.rise⟩
    show (if a = i then some (Value.agg #[]) else f a).isSome = (decide (0 ≤ a ∧ a < s.n) && (if a.toNat = i.toNat then true else s.bad a.toNat)) ∧ (if a = i then some (Value.agg #[]) else f a).getD (.agg #[]) = .agg #[]
    by_cases ha : a = i
    · subst ha
      rw [if_pos rfl, if_pos rfl, decide_eq_true hin]
      exact ⟨rfl, rfl⟩
    · rw [if_neg ha, (hf a).1]
      refine ⟨?_, (hf a).2⟩
      by_cases hb : 0 ≤ a ∧ a < s.n
      · rw [if_neg (fun e => ha (by omega))]
      · rw [decide_eq_false hb]
        rfl
  clear h hm hf hm1 hi hin hs1
  go_enter Try.func21, Try.ntmps21
  go_wp2_with (first
    | ((go_at_call 53)
       (refine hr.mono ?_)
       (rintro e w' ⟨rfl, hw'⟩; obtain rfl : w = w' := hw'.symm)))
  go_end0
  exact ⟨rfl, ho, hR⟩

set_option maxRecDepth 100000 in
theorem spoilNo_r (h : RepAt w p s c bb bs bc vw vs) (i : Int) (hi : rfErr s i ≠ 0) : Calls Try.prog 21 #[ptr p, .int .i64 i] w fun e w' => e = .returned (.tuple #[]) ∧ w' = w := by
  have hr := refusal_r h i
  clear h
  generalize rfErr s i = q at hr hi
  go_enter Try.func21, Try.ntmps21
  go_wp2_with (first
    | ((go_at_call 53)
       (refine hr.mono ?_)
       (rintro e w' ⟨rfl, hw'⟩; obtain rfl : w = w' := hw'.symm)))
  go_end0
  exact ⟨rfl, rfl⟩

theorem rd_rf (s : DS) (i : Int) : rdErr s i = if rfErr s i = 0 then (if (decide (0 ≤ i ∧ i < s.n) && s.bad i.toNat) then 72 else 0) else rfErr s i := by
  unfold rdErr rfErr
  by_cases h1 : s.dead = true
  · rw [if_pos h1, if_pos h1, if_neg (by decide)]
  · rw [if_neg h1, if_neg h1]
    by_cases h2 : i < 0 ∨ (s.n : Int) ≤ i
    · rw [if_pos h2, if_pos h2, if_neg (by decide)]
    · rw [if_neg h2, if_neg h2, if_pos rfl, decide_eq_true (show 0 ≤ i ∧ i < (s.n : Int) by omega)]
      rfl

set_option maxRecDepth 100000 in
set_option maxHeartbeats 1000000 in
theorem read_r (h : RepAt w p s c bb bs bc vw vs) (i : Int) : Calls Try.prog 34 #[ptr p, .int .i64 i] w fun e w' => Below w.heap.size w w' ∧ ∃ v, e = .returned (.tuple #[v, .int .i64 (rdErr s i)]) ∧ ((rdErr s i ≠ 0 ∧ NoSec v) ∨ (rdErr s i = 0 ∧ NewSec w w' v (holds s i.toNat))) := by
  have hr := refusal_r h i
  rw [rd_rf]
  by_cases h0 : rfErr s i = 0
  · rw [if_pos h0]
    rw [h0] at hr
    have hin : 0 ≤ i ∧ i < s.n := by
      unfold rfErr at h0
      split at h0
      · cases h0
      · split at h0
        · cases h0
        · omega
    have hbd := bad_r h i
    cases hq : (decide (0 ≤ i ∧ i < s.n) && s.bad i.toNat)
    · rw [hq] at hbd
      rw [if_neg (by simp)]
      obtain ⟨f, hm, hf⟩ := h.now
      have hfi := hf i.toNat (by omega)
      rw [show ((i.toNat : Nat) : Int) = i by omega] at hfi
      have hc4 : w.cell? ⟨p, 4, none⟩ = some (.map (some bc)) := h.cell 4
      have hplt := h.has.lt
      have hmlt := hm.lt
      have hlk := fun w1 (hb : Below w.heap.size w w1) => (hm.below hb hmlt).look Try.underlying87 zsec (zero_sec w1) i false
      clear h hf
      simp only [Bool.false_eq_true, if_false, hfi] at hlk
      generalize holds s i.toNat = F at hlk ⊢
      go_enter Try.func34, Try.ntmps34
      go_wp2_with (first
        | ((go_at_call 53)
           (refine hr.mono ?_)
           (rintro e w' ⟨rfl, hw'⟩; obtain rfl : w = w' := hw'.symm))
        | ((go_at_call 60)
           (refine hbd.mono ?_)
           (rintro e w1 ⟨rfl, hb1⟩)
           (have hl1 := hlk w1 hb1)
           (have hc1 : w1.cell? ⟨p, 4, none⟩ = some (.map (some bc)) := (hb1.cell hplt).trans hc4)
           (clear hlk))
        | (refine wpList_is_w (some 7) (.pointer (some ⟨w1.heap.size, 0, none⟩)) (w1.alloc (.cells (cellsN .u8 64 fun _ => 0) 99)) rfl (by rfl) (by kernel_rfl) ?_)
        | ((refine wpList_store_rowG rfl 99 _ _ rfl w1.heap.size (cellsN .u8 64 F) rfl rfl 99 (cellsN .u8 64 fun _ => 0) (Has.new_at rfl) (by rw [cellsN_size]; exact Try.size99) (by simp [cellsN_size]) (cellsN_one _ _ _) ?_)
           (intro w2 hw2)
           (have hH : Has w2 w1.heap.size 99 (cellsN .u8 64 F) := by rw [hw2]; exact (Has.new_at (t := 99) (cs := cellsN .u8 64 fun _ => 0) rfl).setRow _)
           (have hB2 : Below w.heap.size w w2 := by rw [hw2]; exact below_setRow (hb1.alloc hb1.size _) hb1.size _)
           (clear hw2)))
      go_ret2
      refine ⟨hB2, _, rfl, .inr ⟨by trivial, w1.heap.size, 0, 64, 99, cellsN .u8 64 F, rfl, Nat.le_refl _, hb1.size, hH, fun j hj => by rw [Nat.zero_add]; exact cellsN_get _ _ _ _ hj⟩⟩
    · rw [hq] at hbd
      rw [if_pos rfl]
      clear h
      go_enter Try.func34, Try.ntmps34
      go_wp2_with (first
        | ((go_at_call 53)
           (refine hr.mono ?_)
           (rintro e w' ⟨rfl, hw'⟩; obtain rfl : w = w' := hw'.symm))
        | ((go_at_call 60)
           (refine hbd.mono ?_)
           (rintro e w1 ⟨rfl, hb1⟩)))
      go_ret2
      exact ⟨hb1, _, rfl, .inl ⟨by decide, none, 0, rfl⟩⟩
  · rw [if_neg h0]
    clear h
    generalize rfErr s i = q at hr h0 ⊢
    go_enter Try.func34, Try.ntmps34
    go_wp2_with (first
      | ((go_at_call 53)
         (refine hr.mono ?_)
         (rintro e w' ⟨rfl, hw'⟩; obtain rfl : w = w' := hw'.symm)))
    go_ret2
    exact ⟨Below.refl _ _, _, rfl, .inl ⟨h0, none, 0, rfl⟩⟩
end Go.Proofs.Ytancebpjfbbcaaa
