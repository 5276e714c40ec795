/- HmacTags, walked. -/
import Derived.Test.YtomefoijiiideaaDoorRef3Tag
import Derived.Test.YtomefoijiiideaaDoorHmacAlive
import Derived.Test.YtomefoijiiideaaDoorShaEq
namespace Go.Proofs.YtomefoijiiideaaDoor
open Go.ChangeShapes Go.WideShapes Go.ChangeAt Go.RowKit
set_option linter.unusedVariables false

theorem Tryd.cells40 : Tryd.prog.cellsOf 40 = 16 := by kernel_rfl

theorem one_at16 (f : Nat → Nat) (i : Nat) (h : i < 16) : ((cellsN .u8 16 f).toList.drop (i * 1)).take 1 = [Value.int .u8 (f i : Nat)] := by
  have hl : i < (cellsN .u8 16 f).toList.length := by simp [cellsN_size, h]
  rw [Nat.mul_one, List.drop_eq_getElem_cons hl, List.take_succ_cons, List.take_zero]
  have := cellsN_get .u8 16 f i h
  rw [← Array.getElem?_toList, List.getElem?_eq_getElem hl] at this
  rw [Option.some.inj this]

theorem key_tag (f : Nat → Nat) (hf : ∀ j, j < 16 → f j < 256) : Tryd.prog.keyLits 2 40 (cellsN .u8 16 f).toList = some ((List.range 16).map fun i => [Lit.int .u8 (f i : Nat)]).flatten := by
  unfold Program.keyLits
  rw [Tryd.underlying40]
  simp only [Tryd.cells40, Tryd.cells5]
  rw [if_pos (by simp [cellsN_size]), mapM_some _ (fun i => [Lit.int .u8 (f i : Nat)]) (List.range 16) ?_]
  · rfl
  · intro i hi
    have hi' : i < 16 := by simpa using hi
    have hb := hf i hi'
    rw [one_at16 f i hi']
    unfold Program.keyLits
    rw [Tryd.underlying5]
    simp [Lit.wf, IntKind.min, IntKind.max, IntKind.signed, IntKind.bits]
    omega

theorem formed_tag (f : Nat → Nat) : (Value.agg (cellsN .u8 16 f)).formed Tryd.prog 40 = true := by
  unfold Value.formed
  simp only [Tryd.underlying40, Tryd.cells40, cellsN_size]
  rfl

theorem eq_tag (f : Nat → Nat) (w : World) (hf : ∀ j, j < 16 → f j < 256) : (Op.equalIn 10000 40 (.agg (cellsN .u8 16 f)) (.agg (cellsN .u8 16 f))).run Tryd.prog w = .ok true w := by
  obtain ⟨r, hr, hiff⟩ := run_equalIn_deep (P := Tryd.prog) 9998 2 40 (by kernel_rfl) w 2 2 (.agg (cellsN .u8 16 f)) (.agg (cellsN .u8 16 f)) _ _ (formed_tag f) (formed_tag f) (key_tag f hf) (key_tag f hf)
  rw [hiff.2 rfl] at hr
  exact hr

theorem run_eql_tag {o : Oper} {a : Act} (x y : Operand) (ho : o.op = .binOp .eql 40 x y 40) (X : Array Value) (hx : a.eval x = .agg X) (hy : a.eval y = .agg X) (heq : ∀ w, (Op.equalIn 10000 40 (.agg X) (.agg X)).run Tryd.prog w = .ok true w) (w : World) :
    (execOp a.eval o).run Tryd.prog w = .ok (.value (.bool true)) w := by
  unfold execOp
  simp only [ho, hx, hy]
  go_simp

theorem eql_bool {o : Oper} {a : Act} (x y : Operand) (ho : o.op = .binOp .eql 4 x y 4) (r : Bool) (hx : a.eval x = .bool r) (hy : a.eval y = .bool r) (w : World) : (execOp a.eval o).run Tryd.prog w = .ok (.value (.bool true)) w := by
  unfold execOp
  simp only [ho, hx, hy]
  cases r <;> go_simp

set_option maxRecDepth 100000 in
set_option maxHeartbeats 1600000 in
theorem tags_walk (a0 : Option Addr) (l0 c0 : Nat) (kf : Nat → Nat) (s : Int) (a1 : Option Addr) (l1 c1 : Nat) (D : Nat → Nat) (a2 : Option Addr) (l2 c2 : Nat) (G : Nat → Nat) (w : World) (hG : Glob Hc Kc w) (hk : ∀ j, kf j < 256) (hD : ∀ j, D j < 256) (hT : ∀ j, G j < 256)
    (hl0 : l0 ≤ c0) (hc0 : c0 ≤ 140737488351232) (n0 : a0 = none → l0 = 0 ∧ c0 = 0) (b0 : Bytes w a0 l0 kf) (hl1 : l1 ≤ c1) (hc1 : c1 ≤ 140737488351232) (n1 : a1 = none → l1 = 0 ∧ c1 = 0) (b1 : Bytes w a1 l1 D) (n2 : a2 = none → l2 = 0 ∧ c2 = 0) (b2 : Bytes w a2 l2 G) (hs : -9223372036854775808 ≤ s ∧ s ≤ 9223372036854775807) :
    Calls Tryd.prog 6 #[.agg #[.slice a0 l0 c0, .int .i64 s, .slice a1 l1 c1, .slice a2 l2 c2]] w fun e w' => e = .returned (.bool true) ∧ Below w.heap.size w w' := by
  obtain ⟨f, hf⟩ : ∃ f, f = TG Hc Kc kf l0 s D l1 := ⟨_, rfl⟩
  have hfl : ∀ j, f j < 256 := fun j => by rw [hf]; exact TG_lt _ _ _ _ _ _ _ _
  obtain ⟨XT, hXT⟩ : ∃ XT, XT = cellsN .u8 16 f := ⟨_, rfl⟩
  have hXs : XT.size = 16 := by rw [hXT, cellsN_size]
  have hX1 : XT.all (·.oneCell') = true := by rw [hXT]; exact cellsN_one _ _ _
  have hXe : ∀ w, (Op.equalIn 10000 40 (.agg XT) (.agg XT)).run Tryd.prog w = .ok true w := fun w => by rw [hXT]; exact eq_tag f w (fun j _ => hfl j)
  obtain ⟨r, hr⟩ : ∃ r, r = (strN G l2 == strN f 16) := ⟨_, rfl⟩
  have H1 : Hid (∀ w', Below w.heap.size w w' → Calls Tryd.prog 17 #[.slice a0 l0 c0, .int .i64 s, .slice a1 l1 c1] w' fun e w'' => e = .returned (.agg XT) ∧ Below w'.heap.size w' w'') := (by
    intro w' hb'
    rw [hXT, hf]
    exact tag_any c0 c1 s hs (hG.below hb' hG.1) Hc_lt hk hD hl0 (by omega) (b0.below hb' (Nat.le_refl _)) hl1 (by omega) (b1.below hb' (Nat.le_refl _)))
  have H2 : Hid (∀ w', Below w.heap.size w w' → Calls Tryd.prog 18 #[.slice a0 l0 c0, .int .i64 s, .slice a1 l1 c1] w' fun e w'' => e = .returned (.agg XT) ∧ Below w'.heap.size w' w'') := (by
    intro w' hb'
    rw [hXT, hf]
    exact rtag_any a0 a1 l0 c0 l1 c1 kf D s w' hs hk hD hl0 (by omega) n0 (b0.below hb' (Nat.le_refl _)) hl1 (by omega) n1 (b1.below hb' (Nat.le_refl _)))
  have H3 : Hid (∀ w', Below w.heap.size w w' → Calls Tryd.prog 19 #[.slice a0 l0 c0, .int .i64 s, .slice a1 l1 c1, .slice a2 l2 c2] w' fun e w'' => e = .returned (.bool r) ∧ Below w'.heap.size w' w'') := (by
    intro w' hb'
    rw [hr, hf]
    exact right_tag c0 c1 c2 s hs (hG.below hb' hG.1) Hc_lt hk hD hT hl0 (by omega) (b0.below hb' (Nat.le_refl _)) hl1 (by omega) (b1.below hb' (Nat.le_refl _)) (b2.below hb' (Nat.le_refl _)) (fun e => (n2 e).1))
  have H4 : Hid (∀ w', Below w.heap.size w w' → Calls Tryd.prog 20 #[.slice a0 l0 c0, .int .i64 s, .slice a1 l1 c1, .slice a2 l2 c2] w' fun e w'' => e = .returned (.bool r) ∧ Below w'.heap.size w' w'') := (by
    intro w' hb'
    rw [hr, hf]
    exact rright_any a0 a1 a2 l0 c0 l1 c1 l2 c2 kf D G s w' hs hk hD hT hl0 (by omega) n0 (b0.below hb' (Nat.le_refl _)) hl1 (by omega) n1 (b1.below hb' (Nat.le_refl _)) (b2.below hb' (Nat.le_refl _)) (fun e => (n2 e).1))
  obtain ⟨TX, hTX⟩ : ∃ TX : Array Value, TX = #[.slice a0 l0 c0, .int .i64 s, .slice a1 l1 c1, .slice a2 l2 c2] := ⟨_, rfl⟩
  have HC : Hid (∀ w', Has w' w.heap.size 39 TX → w'.cell? ⟨w.heap.size, 0, none⟩ = some (.slice a0 l0 c0) ∧ w'.cell? ⟨w.heap.size, 1, none⟩ = some (.int .i64 s) ∧ w'.cell? ⟨w.heap.size, 2, none⟩ = some (.slice a1 l1 c1) ∧ w'.cell? ⟨w.heap.size, 3, none⟩ = some (.slice a2 l2 c2)) := (by
    intro w' h
    rw [h.cell, h.cell, h.cell, h.cell, hTX]
    exact ⟨rfl, rfl, rfl, rfl⟩)
  have hS0 : Has (w.alloc (.cells #[.slice a0 l0 c0, .int .i64 s, .slice a1 l1 c1, .slice a2 l2 c2] 39)) w.heap.size 39 TX := by rw [hTX]; exact Has.new _ _ _
  have hB0 : Below w.heap.size w (w.alloc (.cells #[.slice a0 l0 c0, .int .i64 s, .slice a1 l1 c1, .slice a2 l2 c2] 39)) := (Below.refl _ _).alloc (Nat.le_refl _) _
  have q1 := H1.out _ hB0
  clear hf hXT hr hTX hk hD hT b0 b1 b2 hfl
  go_enter Tryd.func6, Tryd.ntmps6
  go_wp2_with (first
    | (go_at_call 17
       refine q1.mono ?_
       rintro e w1 ⟨rfl, hb1⟩
       have hS1 := hS0.below hb1 hS0.lt
       have hB1 := hB0.trans (hb1.mono hB0.size)
       have m1 : Has (w1.alloc (.cells (cellsN .u8 16 fun _ => 0) 40)) w1.heap.size 40 (cellsN .u8 16 fun _ => 0) := Has.new _ _ _
       clear q1 hS0 hB0 hb1)
    | (refine wpList_store_rowG rfl 40 _ _ rfl w1.heap.size XT rfl rfl 40 _ m1 (by rw [hXs]; exact Tryd.size40) (by rw [hXs, cellsN_size]) hX1 ?_
       intro w2 hw2
       have hb12 : Below w1.heap.size w1 w2 := by rw [hw2]; exact below_setRow ((Below.refl _ _).alloc (Nat.le_refl _) _) (Nat.le_refl _) _
       have hT2 : Has w2 w1.heap.size 40 XT := by rw [hw2]; exact m1.setRow _
       have hS2 := hS1.below hb12 hS1.lt
       have hB2 := hB1.trans (hb12.mono hB1.size)
       obtain ⟨d0, d1, d2, d3⟩ := HC.out w2 hS2
       have q2 := H2.out _ hB2
       clear hw2 m1 hb12)
    | (go_at_call 18
       refine q2.mono ?_
       rintro e w3 ⟨rfl, hb3⟩
       have hS3 := hS2.below hb3 hS2.lt
       have hB3 := hB2.trans (hb3.mono hB2.size)
       have hT3 := hT2.below hb3 hT2.lt
       have m3 : Has (w3.alloc (.cells (cellsN .u8 16 fun _ => 0) 40)) w3.heap.size 40 (cellsN .u8 16 fun _ => 0) := Has.new _ _ _
       clear q2 d0 d1 d2 d3)
    | (refine wpList_store_rowG rfl 40 _ _ rfl w3.heap.size XT rfl rfl 40 _ m3 (by rw [hXs]; exact Tryd.size40) (by rw [hXs, cellsN_size]) hX1 ?_
       intro w4 hw4
       have hb34 : Below w3.heap.size w3 w4 := by rw [hw4]; exact below_setRow ((Below.refl _ _).alloc (Nat.le_refl _) _) (Nat.le_refl _) _
       have hU4 : Has w4 w3.heap.size 40 XT := by rw [hw4]; exact m3.setRow _
       have hS4 := hS3.below hb34 hS3.lt
       have hT4 := hT3.below hb34 hT3.lt
       have hB4 := hB3.trans (hb34.mono hB3.size)
       obtain ⟨d0, d1, d2, d3⟩ := HC.out w4 hS4
       have q3 := H3.out _ hB4
       clear hw4 m3 hb34)
    | (go_at_call 19
       refine q3.mono ?_
       rintro e w5 ⟨rfl, hb5⟩
       have hS5 := hS4.below hb5 hS4.lt
       have hB5 := hB4.trans (hb5.mono hB4.size)
       have hT5 := hT4.below hb5 hT4.lt
       have hU5 := hU4.below hb5 hU4.lt
       clear q3 d0 d1 d2 d3
       obtain ⟨d0, d1, d2, d3⟩ := HC.out w5 hS5
       have q4 := H4.out _ hB5)
    | (go_at_call 20
       refine q4.mono ?_
       rintro e w6 ⟨rfl, hb6⟩
       have hB6 := hB5.trans (hb6.mono hB5.size)
       have hT6 := hT5.below hb6 hT5.lt
       have hU6 := hU5.below hb6 hU5.lt
       have hal := halive_any w6 (hG.below hB6 hG.1)
       clear q4 d0 d1 d2 d3)
    | (go_at_call 15
       refine hal.mono ?_
       rintro e w7 ⟨rfl, hb7⟩
       have hB7 := hB6.trans (hb7.mono hB6.size)
       have hT7 := hT6.below hb7 hT6.lt
       have hU7 := hU6.below hb7 hU6.lt
       clear hal)
    | (refine wpList_val _ (.agg XT) rfl (by rfl) (run_load_row 40 _ rfl w1.heap.size rfl XT 40 Tryd.underlying40 (by rw [hXs]; exact Tryd.size40) _ hT7) ?_)
    | (refine wpList_val _ (.agg XT) rfl (by rfl) (run_load_row 40 _ rfl w3.heap.size rfl XT 40 Tryd.underlying40 (by rw [hXs]; exact Tryd.size40) _ hU7) ?_)
    | (refine wpList_val _ (.bool true) rfl (by rfl) (run_eql_tag _ _ rfl XT rfl rfl hXe _) ?_)
    | (refine wpList_val _ (.bool true) rfl (by rfl) (eql_bool _ _ rfl r rfl rfl _) ?_))
  go_ret
  exact ⟨rfl, hB7⟩
end Go.Proofs.YtomefoijiiideaaDoor
