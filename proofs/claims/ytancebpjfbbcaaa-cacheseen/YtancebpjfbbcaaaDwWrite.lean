/- device: Write, Tamper. -/
import Derived.Test.YtancebpjfbbcaaaDwPut
namespace Go.Proofs.Ytancebpjfbbcaaa
open Go.ChangeShapes Go.WideShapes Go.ChangeAt Go.RowKit
set_option linter.unusedVariables false

variable {w w' : World} {p c bb bs bc : Nat} {s : DS} {vw vs : Value}

theorem pend_le (l : List AE) : pend l ≤ l.length := by
  induction l with
  | nil => exact Nat.le_refl _
  | cons e l ih =>
    show (if l.any (·.sync) then pend l else (if e.sync || e.sure then 0 else 1) + pend l) ≤ l.length + 1
    split
    · omega
    · split <;> omega

/-- delete, in a walk. -/
theorem wpList_del {ops : Array Oper} {rest : List Oper} {o : Oper} {a : Act} {w : World} {Q : Exit → Act → World → Prop} (hgd : o.guard = none) (x y : Operand) (t e : TypeId) (ho : o.op = .call { callee := .builtin .delete, args := #[x, y], argTypes := #[t, 3] }) (ht : Try.prog.underlying t = some (.map 3 e))
    (b : Nat) (f : Int → Option Value) (hm : MapIs w b f) (k : Int) (hx : a.eval x = .map (some b)) (hy : a.eval y = .int .i64 k)
    (h : ∀ w', MapIs w' b (fun x => if x = k then none else f x) → Only (fun q => q = b) w w' → wpList Try.prog ops Q rest (a.put o.dst (.tuple #[])) w') : wpList Try.prog ops Q (o :: rest) a w := by
  obtain ⟨w', hr, h1, h2, _⟩ := hm.del ht k o.type
  refine wpList_plain hgd fun K hK => ?_
  unfold Oper.wp
  have hrun : (execOp a.eval o).run Try.prog w = .ok (.value (.tuple #[])) w' := by
    unfold execOp
    simp [ho, resolve, invoke, builtin, hx, hy, hr]
  rw [hrun]
  exact hK _ _ (h w' h1 h2)

theorem wr_inside (s : DS) (i : Int) (L : Nat) (h : wrErr s i L = 0) : s.dead = false ∧ 0 ≤ i ∧ i < s.n ∧ L ≤ 64 := by
  unfold wrErr at h
  split at h
  · cases h
  · rename_i hd
    split at h
    · cases h
    · split at h
      · cases h
      · exact ⟨by simpa using hd, by omega, by omega, by omega⟩

theorem past_add (s : DS) (m : Nat) (hp : Past s m) (i : Nat) (b : Nat → Nat) (sy su : Bool) : ∀ e ∈ (addD s ⟨i, b, sy, su, ((m + 1 : Nat) : Int)⟩).log, e.mo ≤ ((m + 1 : Nat) : Int) := by
  intro e he
  have he' : e ∈ s.log ++ [_] := he
  rcases List.mem_append.1 he' with h | h
  · have := hp e h
    omega
  · rw [List.mem_singleton] at h
    rw [h]
    exact Int.le_refl _

/-- Grown by what was added. -/
theorem foot_grew {w : World} {p bb bs bc : Nat} {vw vw' vs : Value} (hg : ∀ k, vw'.ownBlock = some k → vw.ownBlock = some k ∨ w.heap.size ≤ k) (k : Nat) (hk : Foot p bb bs bc vw' vs k) : Foot p bb bs bc vw vs k ∨ w.heap.size ≤ k := by
  rcases hk with h | h | h | h | h | h
  · exact .inl (.inl h)
  · exact .inl (.inr (.inl h))
  · exact .inl (.inr (.inr (.inl h)))
  · exact .inl (.inr (.inr (.inr (.inl h))))
  · rcases hg k h with h | h
    · exact .inl (.inr (.inr (.inr (.inr (.inl h)))))
    · exact .inr h
  · exact .inl (.inr (.inr (.inr (.inr (.inr h)))))

set_option maxRecDepth 100000 in
set_option maxHeartbeats 4000000 in
theorem tamper_c (h : RepAt w p s c bb bs bc vw vs) {m : Nat} (hc : Has w c 112 #[.int .i64 (m : Nat)]) (hcF : ¬ Foot p bb bs bc vw vs c) (hp : Past s m) (I : Nat) (a : Option Addr) (L C : Nat) (b : Nat → Nat) (hb : Bytes w a L b) (hm : m ≤ 100000) (hlen : s.log.length ≤ 100000) (h0 : wrErr s (I : Nat) L = 0) :
    Calls Try.prog 24 #[ptr p, .int .i64 (I : Nat), .slice a L C] w fun e w' => e = .returned (.tuple #[]) ∧ ∃ vw', Only (fun k => k = p ∨ k = c ∨ k = bc ∨ vw.ownBlock = some k) w w' ∧ (∀ k, vw'.ownBlock = some k → vw.ownBlock = some k ∨ w.heap.size ≤ k) ∧ Has w' c 112 #[.int .i64 ((m + 1 : Nat) : Int)] ∧ RepAt w' p (tampD s I (full b L) ((m + 1 : Nat) : Int)) c bb bs bc vw' vs := by
  have hr := writeRefusal_r h (I : Nat) a L C
  rw [h0] at hr
  obtain ⟨_, _, _, hL⟩ := wr_inside s (I : Nat) L h0
  have hpt := put_r h hc hcF hp I a L C b hL hb true hm hlen
  have hpd : pend (addD s ⟨I, full b L, false, true, ((m + 1 : Nat) : Int)⟩).log = pend s.log := by
    show pend (s.log ++ [_]) = _
    rw [pend_snoc]
    simp
  clear h hc hb
  go_enter Try.func24, Try.ntmps24
  go_wp2_with (first
    | ((go_at_call 56)
       (refine hr.mono ?_)
       (rintro e w' ⟨rfl, hw'⟩; obtain rfl : w = w' := hw'.symm))
    | ((go_at_call 57)
       (refine hpt.mono ?_)
       (rintro e w1 ⟨rfl, vw', hpost⟩)))
  go_end0
  refine ⟨rfl, vw', hpost.only, hpost.grew, hpost.clock, hpost.rep w1 (Only.refl _ _) ?_⟩
  rw [hpd]
  exact hpost.has

set_option maxRecDepth 100000 in
set_option maxHeartbeats 1000000 in
theorem tamperNo_c (h : RepAt w p s c bb bs bc vw vs) (i : Int) (a : Option Addr) (L C : Nat) (h0 : wrErr s i L ≠ 0) :
    Calls Try.prog 24 #[ptr p, .int .i64 i, .slice a L C] w fun e w' => e = .returned (.tuple #[]) ∧ w' = w := by
  have hr := writeRefusal_r h i a L C
  clear h
  generalize wrErr s i L = q at hr h0
  go_enter Try.func24, Try.ntmps24
  go_wp2_with (first
    | ((go_at_call 56)
       (refine hr.mono ?_)
       (rintro e w' ⟨rfl, hw'⟩; obtain rfl : w = w' := hw'.symm)))
  go_end0
  exact ⟨rfl, rfl⟩

set_option maxRecDepth 100000 in
set_option maxHeartbeats 4000000 in
theorem write_c (h : RepAt w p s c bb bs bc vw vs) {m : Nat} (hc : Has w c 112 #[.int .i64 (m : Nat)]) (hcF : ¬ Foot p bb bs bc vw vs c) (hp : Past s m) (I : Nat) (a : Option Addr) (L C : Nat) (b : Nat → Nat) (hb : Bytes w a L b) (hm : m ≤ 100000) (hlen : s.log.length ≤ 100000) (h0 : wrErr s (I : Nat) L = 0) :
    Calls Try.prog 26 #[ptr p, .int .i64 (I : Nat), .slice a L C] w fun e w' => e = .returned (.int .i64 0) ∧ ∃ vw', Only (fun k => Foot p bb bs bc vw vs k ∨ k = c) w w' ∧ (∀ k, vw'.ownBlock = some k → vw.ownBlock = some k ∨ w.heap.size ≤ k) ∧ Has w' c 112 #[.int .i64 ((m + 1 : Nat) : Int)] ∧ RepAt w' p (wroteD s I (full b L) ((m + 1 : Nat) : Int)) c bb bs bc vw' vs := by
  have hr := writeRefusal_r h (I : Nat) a L C
  rw [h0] at hr
  obtain ⟨_, _, hI, hL⟩ := wr_inside s (I : Nat) L h0
  have hpt := put_r h hc hcF hp I a L C b hL hb false hm hlen
  obtain ⟨e0, he0⟩ : ∃ e0 : AE, e0 = ⟨I, full b L, false, false, ((m + 1 : Nat) : Int)⟩ := ⟨_, rfl⟩
  rw [← he0] at hpt
  have hpd : pend (addD s e0).log = pend s.log + 1 := by
    show pend (s.log ++ [e0]) = _
    rw [pend_snoc, he0]
    simp
  have hple : pend s.log ≤ 100000 := Nat.le_trans (pend_le _) hlen
  have hst : wroteD s I (full b L) ((m + 1 : Nat) : Int) = { addD s e0 with bad := fun k => if k = I then false else s.bad k } := by rw [he0]; rfl
  have hlt := h.has.lt
  have hclt := hc.lt
  have hbp := h.bb_p
  have hcp : c ≠ p := fun e => hcF (.inl e)
  have hcb : bb ≠ c := fun e => hcF (.inr (.inl e.symm))
  have hblt := h.bad.lt
  clear h hc hb
  go_enter Try.func26, Try.ntmps26
  go_wp2_with (first
    | ((go_at_call 56)
       (refine hr.mono ?_)
       (rintro e w' ⟨rfl, hw'⟩; obtain rfl : w = w' := hw'.symm))
    | ((go_at_call 57)
       (refine hpt.mono ?_)
       (rintro e w1 ⟨rfl, vw', hpost⟩)
       (have k7 : w1.cell? ⟨p, 7, none⟩ = some (.int .i64 (pend s.log : Nat)) := hpost.has.cell 7)
       (have k2 : w1.cell? ⟨p, 2, none⟩ = some (.map (some bb)) := hpost.has.cell 2)
       (have kf := hpost.has.free 7)
       (have hH2 := hpost.has.setV 7 (.int .i64 ((pend s.log + 1 : Nat) : Int)))
       (have hR2 := hpost.rep (w1.setCell ⟨p, 7, none⟩ (.int .i64 ((pend s.log + 1 : Nat) : Int))) (only_setCell _ _ _ _) (by rw [hpd]; exact hH2))
       (obtain ⟨f, hf, hff⟩ := hR2.bad)
       (rw [show (((pend s.log + 1 : Nat) : Int)) = ((pend s.log : Nat) : Int) + 1 from by simp] at hf hR2))
    | ((refine wpList_del rfl (.tmp 29) (.tmp 30) 86 85 rfl Try.underlying86 bb f hf (I : Nat) rfl rfl ?_)
       (intro w3 hm3 ho3)))
  go_ret
  have hsz : w1.heap.size = (w1.setCell ⟨p, 7, none⟩ (.int .i64 (((pend s.log : Nat) : Int) + 1))).heap.size := by simp [World.setCell]
  have hO12 := only_setCell w1 p 7 (.int .i64 (((pend s.log : Nat) : Int) + 1))
  refine ⟨rfl, vw', ?_, hpost.grew, ?_, ?_⟩
  · refine ((hpost.only.mono (G := fun k => Foot p bb bs bc vw vs k ∨ k = c) ?_).trans hO12 (fun x _ hx => .inl (.inl hx))).trans ho3 (fun x _ hx => .inl (.inr (.inl hx)))
    rintro k (q | q | q | q)
    · exact .inl (.inl q)
    · exact .inr q
    · exact .inl (.inr (.inr (.inr (.inl q))))
    · exact .inl (.inr (.inr (.inr (.inr (.inl q)))))
  · have h2 : Has (w1.setCell ⟨p, 7, none⟩ (.int .i64 (((pend s.log : Nat) : Int) + 1))) c 112 #[.int .i64 ((m + 1 : Nat) : Int)] := (hO12.block c hpost.clock.lt hcp).trans hpost.clock
    exact (ho3.block c h2.lt (Ne.symm hcb)).trans h2
  · rw [hst]
    refine ⟨(ho3.block p hR2.has.lt (Ne.symm hbp)).trans hR2.has, hR2.n1, hR2.n2, ⟨_, hm3, fun x => ?_⟩, hR2.fst.kept (ho3.block _ hR2.fst.lt hR2.d1.symm), hR2.now.kept (ho3.block _ hR2.now.lt hR2.d2.symm),
      own_kept hR2.wr (fun g hg => ho3.block g (hR2.wr.lt g hg).2 (fun e => hR2.wr_bb (e ▸ hg))), own_kept hR2.sy (fun g hg => ho3.block g (hR2.sy.lt g hg).2 (fun e => hR2.sy_bb (e ▸ hg))), hR2.d1, hR2.d2, hR2.d3, hR2.rise⟩
    show (if x = (I : Int) then none else f x).isSome = (decide (0 ≤ x ∧ x < s.n) && (if x.toNat = I then false else s.bad x.toNat)) ∧ (if x = (I : Int) then none else f x).getD (Value.agg #[]) = .agg #[]
    by_cases hx : x = (I : Int)
    · subst hx
      rw [if_pos rfl, if_pos (by omega)]
      exact ⟨by simp, rfl⟩
    · rw [if_neg hx, (hff x).1]
      refine ⟨?_, (hff x).2⟩
      show (decide (0 ≤ x ∧ x < s.n) && s.bad x.toNat) = _
      by_cases hin : 0 ≤ x ∧ x < s.n
      · rw [if_neg (fun e => hx (by omega))]
      · rw [decide_eq_false hin]
        rfl

set_option maxRecDepth 100000 in
set_option maxHeartbeats 1000000 in
theorem writeNo_c (h : RepAt w p s c bb bs bc vw vs) (i : Int) (a : Option Addr) (L C : Nat) (h0 : wrErr s i L ≠ 0) :
    Calls Try.prog 26 #[ptr p, .int .i64 i, .slice a L C] w fun e w' => e = .returned (.int .i64 (wrErr s i L)) ∧ w' = w := by
  have hr := writeRefusal_r h i a L C
  clear h
  generalize wrErr s i L = q at hr h0 ⊢
  go_enter Try.func26, Try.ntmps26
  go_wp2_with (first
    | ((go_at_call 56)
       (refine hr.mono ?_)
       (rintro e w' ⟨rfl, hw'⟩; obtain rfl : w = w' := hw'.symm)))
  go_ret
  exact ⟨rfl, rfl⟩
end Go.Proofs.Ytancebpjfbbcaaa
