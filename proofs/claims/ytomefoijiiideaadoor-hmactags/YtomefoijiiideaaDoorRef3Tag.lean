/- The reference's Tag and Right. -/
import Derived.Test.YtomefoijiiideaaDoorRef3Sum
import Derived.Test.YtomefoijiiideaaDoorHmacTag2
namespace Go.Proofs.YtomefoijiiideaaDoor
open Go.ChangeShapes Go.WideShapes Go.ChangeAt Go.RowKit
set_option linter.unusedVariables false

set_option maxRecDepth 100000 in
set_option maxHeartbeats 1600000 in
theorem rtag_any (ka da : Option Addr) (kl kc dl dc : Nat) (kf D : Nat → Nat) (s : Int) (w : World) (hs : -9223372036854775808 ≤ s ∧ s ≤ 9223372036854775807) (hk : ∀ j, kf j < 256) (hD : ∀ j, D j < 256)
    (hkc : kl ≤ kc) (hkl : kl ≤ 140737488351232) (hknil : ka = none → kl = 0 ∧ kc = 0) (hkb : Bytes w ka kl kf) (hdc : dl ≤ dc) (hdl : dl ≤ 140737488351232) (hdnil : da = none → dl = 0 ∧ dc = 0) (hdb : Bytes w da dl D) :
    Calls Tryd.prog 18 #[.slice ka kl kc, .int .i64 s, .slice da dl dc] w fun e w' => e = .returned (.agg (cellsN .u8 16 (TG Hc Kc kf kl s D dl))) ∧ Below w.heap.size w w' := by
  obtain ⟨W1, hW1⟩ : ∃ W1, W1 = w.alloc (.cells #[.int .u8 0, .int .u8 0, .int .u8 0, .int .u8 0, .int .u8 0, .int .u8 0, .int .u8 0, .int .u8 0, .int .u8 0, .int .u8 0, .int .u8 0, .int .u8 0, .int .u8 0, .int .u8 0, .int .u8 0, .int .u8 0] 40) := ⟨_, rfl⟩
  have hR1 : Has W1 w.heap.size 40 (cellsN .u8 16 fun _ => 0) := by rw [hW1]; exact Has.new _ _ _
  have hb1 : Below w.heap.size w W1 := by rw [hW1]; exact (Below.refl _ _).alloc (Nat.le_refl _) _
  have hsz1 : W1.heap.size = w.heap.size + 1 := by rw [hW1]; simp
  have hby := rbytes8 (un s) W1 (un_bd s)
  obtain ⟨u, hu⟩ : ∃ u, u = un s := ⟨_, rfl⟩
  have hwu : IntKind.u64.wrap s = u := hu.symm
  rw [← hu, hsz1] at hby
  obtain ⟨F, hF⟩ : ∃ F, F = TG Hc Kc kf kl s D dl := ⟨_, rfl⟩
  have HS : Hid (∀ wz g c, Below w.heap.size w wz → g < wz.heap.size → 8 + dl ≤ c → (∀ j, j < 8 + dl → wz.cell? ⟨g, j, none⟩ = some (.int .u8 (cat (nb u) 8 D j : Nat))) → Calls Tryd.prog 16 #[.slice ka kl kc, .slice (some ⟨g, 0, none⟩) (8 + dl) c] wz fun e w' => e = .returned (.agg (cellsN .u8 32 F)) ∧ Below wz.heap.size wz w') := (by
    intro wz g c hb' hg hc hcell
    rw [hF]
    unfold TG
    rw [← hu]
    exact r3_any ka (some ⟨g, 0, none⟩) kl kc (8 + dl) c kf _ wz hk (cat_lt _ _ _ (nb_lt u) hD) hkc hkl hknil (hkb.below hb' (Nat.le_refl _)) hc (by omega) (fun e => by cases e) (.inr ⟨g, 0, rfl, hg, fun j hj => by rw [Nat.zero_add]; exact hcell j hj⟩))
  have HF : Hid (F = TG Hc Kc kf kl s D dl) := hF
  rw [hW1] at hby
  clear hF hu hk hD hkb
  go_enter Tryd.func18, Tryd.ntmps18
  go_wp2_with (first
    | (go_at_call 30
       refine hby.mono ?_
       rintro e w2 ⟨rfl, own2, hb2⟩
       rw [← hW1] at hb2
       have hR2 := hR1.below hb2 (Nat.lt_succ_self _)
       have hB2 : Below w.heap.size w w2 := hb1.trans (hb2.mono (by omega))
       have hdb2 := hdb.below hB2 (Nat.le_refl _)
       have hs2 : w.heap.size + 1 ≤ w2.heap.size := by have := hb2.size; omega
       clear hby)
    | ((at_builtin)
       (refine wpList_append_bytes rfl _ _ rfl (w.heap.size + 1) _ 8 (nb u) rfl own2 da dl dc D rfl hdnil hdb2 (by omega) hs2 ?_)
       (intro v3 w3 own3 gr3)
       (have hb3 : Below (w.heap.size + 1) w2 w3 := (Below.refl _ _).grown gr3 hs2 (fun k' h => (own2.lt k' h).1))
       (have hR3 := hR2.below hb3 (Nat.lt_succ_self _))
       (have hB3 : Below w.heap.size w w3 := hB2.trans (hb3.mono (by omega)))
       (obtain ⟨g3, c3, rfl, hc3, hg3, hcell3⟩ := own_some own3 (by omega))
       (have hsum := HS.out w3 g3 c3 hB3 hg3 hc3 hcell3)
       (clear gr3 own2 own3 hdb2 hcell3))
    | (go_at_call 16
       refine hsum.mono ?_
       rintro e w4 ⟨rfl, hb4⟩
       have hR4 := hR3.below hb4 hR3.lt
       have hB4 : Below w.heap.size w w4 := hB3.trans (hb4.mono hB3.size)
       have hn4 : Has (w4.alloc (.cells (cellsN .u8 32 fun _ => 0) 23)) w4.heap.size 23 (cellsN .u8 32 fun _ => 0) := Has.new _ _ _
       clear hsum)
    | (refine wpList_store_rowG rfl 23 _ _ rfl w4.heap.size (cellsN .u8 32 F) rfl rfl 23 _ hn4 (by rw [cellsN_size]; exact Tryd.size23) (by simp [cellsN_size]) (cellsN_one _ _ _) ?_
       intro w5 hw5
       have hb45 : Below w4.heap.size w4 w5 := by rw [hw5]; exact below_setRow ((Below.refl _ _).alloc (Nat.le_refl _) _) (Nat.le_refl _) _
       have hD5 : Has w5 w4.heap.size 23 (cellsN .u8 32 F) := by rw [hw5]; exact hn4.setRow _
       have hR5 := hR4.below hb45 hR4.lt
       have hB5 : Below w.heap.size w w5 := hB4.trans (hb45.mono hB4.size)
       clear hw5 hn4 hb45))
  obtain ⟨gs, hgs⟩ : ∃ g, g = w4.heap.size := ⟨_, rfl⟩
  obtain ⟨gt, hgt⟩ : ∃ g, g = w5.heap.size := ⟨_, rfl⟩
  rw [← hgs] at hD5 ⊢
  have hst : gs < gt := by rw [hgt]; exact hD5.lt
  have hwt : w.heap.size < gs := by rw [hgs]; exact hR4.lt
  have hT := Has.new_at (cs := cellsN .u8 16 fun _ => 0) (t := 40) hgt
  rw [← hgt]
  go_loopw [10] (fun i wr => ∃ k : Nat, k ≤ 16 ∧ i = .int .i64 k ∧ Has wr gs 23 (cellsN .u8 32 F) ∧ Has wr gt 40 (cellsN .u8 16 (part F k)) ∧ Has wr w.heap.size 40 (cellsN .u8 16 fun _ => 0) ∧ Below w.heap.size w wr)
    (fun i _ => 16 - (intOf i).toNat)
  case atStart => exact ⟨0, Nat.zero_le _, rfl, hD5.alloc _, hT, hR5.alloc _, hB5.alloc hB5.size _⟩
  case round =>
    clear hD5 hT hR5 hB5 hgs hgt hR4 hB4 hR3 hB3 hR2 hB2
    obtain ⟨k, hk16, rfl, hD, hT, hR, hbel⟩ := hrel
    by_cases hlt : k < 16
    · have c1 := hD.num k (by omega)
      have c2 := hT.num k hlt
      have f2 := hT.free k
      have i1 : (k : Int) < 16 := by omega
      have i0 : (0 : Int) ≤ (k : Int) := by omega
      have i2 : (k : Int) < 32 := by omega
      go_wp2
      go_roundw
      case rel =>
        refine ⟨k + 1, by omega, by go_num, hD.other (by show gs ≠ gt; omega) _, ?_, hR.other (by show w.heap.size ≠ gt; omega) _, hbel.setCell (by show w.heap.size ≤ gt; omega) _⟩
        have := hT.set k (F k)
        rw [part_next] at this
        exact this
      case measure => simp [intOf]; omega
    · obtain rfl : k = 16 := by omega
      rw [part_all] at hT
      have hN := hR.setRow (cellsN .u8 16 F)
      go_wp2_with (first
        | (refine wpList_load_row rfl 40 _ rfl gt rfl 40 _ (0, 0) _ hT Tryd.underlying40 rfl (by rw [cellsN_size]; exact Tryd.size40) ?_)
        | (refine wpList_store_row rfl 40 _ _ rfl w.heap.size (cellsN .u8 16 F) rfl rfl 40 _ hR (by rw [cellsN_size]; exact Tryd.size40) (by simp [cellsN_size]) (cellsN_one _ _ _) ?_))
      exact bodyPost_ret (results_cell_row rfl _ _ w.heap.size 40 _ (0, 0) _ rfl hN Tryd.underlying40 rfl (by rw [cellsN_size]; exact Tryd.size40)) rfl ⟨by rw [HF.out], below_setRow hbel (Nat.le_refl _) _⟩

theorem slice_tag (b : Nat) (w : World) : (Instr.sliceAt 40 (.pointer (some ⟨b, 0, none⟩)) none none none).run Tryd.prog w = .ok (.slice (some ⟨b, 0, none⟩) 16 16) w := by
  simp [Instr.sliceAt, Instr.sureAddr, Instr.sliceBounds, run_underlying Tryd.underlying40, go_sem]

theorem run_slice_tag {o : Oper} {a : Act} (x : Operand) (ho : o.op = .slice 40 x none none none) (b : Nat) (hx : a.eval x = .pointer (some ⟨b, 0, none⟩)) (w : World) :
    (execOp a.eval o).run Tryd.prog w = .ok (.value (.slice (some ⟨b, 0, none⟩) 16 16)) w := by
  unfold execOp
  simp only [ho, hx, Option.map_none, Sem.run_bind, slice_tag b w, Result.andThen_ok, Sem.run_pure]

theorem run_conv {o : Oper} {a : Act} (x : Operand) (ho : o.op = .convert 22 9 x) (v u : Value) (hx : a.eval x = v) (w : World) (h : (convert 22 9 v).run Tryd.prog w = .ok u w) : (execOp a.eval o).run Tryd.prog w = .ok (.value u) w := by
  unfold execOp
  simp only [ho, hx, Sem.run_bind, h, Result.andThen_ok, Sem.run_pure]

theorem run_eql_str {o : Oper} {a : Act} (x y : Operand) (ho : o.op = .binOp .eql 9 x y 9) (l m : List UInt8) (hx : a.eval x = .string ⟨l.toArray⟩) (hy : a.eval y = .string ⟨m.toArray⟩) (w : World) : (execOp a.eval o).run Tryd.prog w = .ok (.value (.bool (l == m))) w := by
  unfold execOp
  simp only [ho, hx, hy]
  go_simp

set_option maxRecDepth 100000 in
theorem rright_any (ka da ta : Option Addr) (kl kc dl dc tl tc : Nat) (kf D G : Nat → Nat) (s : Int) (w : World) (hs : -9223372036854775808 ≤ s ∧ s ≤ 9223372036854775807) (hk : ∀ j, kf j < 256) (hD : ∀ j, D j < 256) (hG : ∀ j, G j < 256)
    (hkc : kl ≤ kc) (hkl : kl ≤ 140737488351232) (hknil : ka = none → kl = 0 ∧ kc = 0) (hkb : Bytes w ka kl kf) (hdc : dl ≤ dc) (hdl : dl ≤ 140737488351232) (hdnil : da = none → dl = 0 ∧ dc = 0) (hdb : Bytes w da dl D) (htb : Bytes w ta tl G) (htn : ta = none → tl = 0) :
    Calls Tryd.prog 20 #[.slice ka kl kc, .int .i64 s, .slice da dl dc, .slice ta tl tc] w fun e w' => e = .returned (.bool (strN G tl == strN (TG Hc Kc kf kl s D dl) 16)) ∧ Below w.heap.size w w' := by
  have htg := rtag_any ka da kl kc dl dc kf D s w hs hk hD hkc hkl hknil hkb hdc hdl hdnil hdb
  obtain ⟨f, hf⟩ : ∃ f, f = TG Hc Kc kf kl s D dl := ⟨_, rfl⟩
  have hfl : ∀ j, f j < 256 := fun j => by rw [hf]; exact TG_lt _ _ _ _ _ _ _ _
  have HF : Hid (f = TG Hc Kc kf kl s D dl) := hf
  rw [← hf] at htg
  clear hf hk hD hkb hdb
  go_enter Tryd.func20, Tryd.ntmps20
  go_wp2_with (first
    | (go_at_call 18
       refine htg.mono ?_
       rintro e w4 ⟨rfl, hB4⟩
       have hn4 : Has (w4.alloc (.cells (cellsN .u8 16 fun _ => 0) 40)) w4.heap.size 40 (cellsN .u8 16 fun _ => 0) := Has.new _ _ _
       clear htg)
    | (refine wpList_store_rowG rfl 40 _ _ rfl (w4.heap.size) (cellsN .u8 16 f) rfl rfl 40 _ hn4 (by rw [cellsN_size]; exact Tryd.size40) (by simp [cellsN_size]) (cellsN_one _ _ _) ?_
       intro w5 hw5
       have hA5 : Has w5 w4.heap.size 40 (cellsN .u8 16 f) := by rw [hw5]; exact hn4.setRow _
       have hB5 : Below w.heap.size w w5 := by rw [hw5]; exact below_setRow (hB4.alloc hB4.size _) hB4.size _
       clear hw5 hn4))
  obtain ⟨gt, hgt⟩ : ∃ g, g = w4.heap.size := ⟨_, rfl⟩
  rw [← hgt] at hA5 ⊢
  clear hgt
  have hA5d : Has w5.drew gt 40 (cellsN .u8 16 f) := hA5
  have k1 := conv_bytesN (w := w5.drew) (a := some ⟨gt, 0, none⟩) (len := 16) 16 (.inr ⟨gt, 0, rfl, hA5d.lt, fun j hj => by rw [Nat.zero_add]; exact hA5d.num j hj⟩) hfl (fun e => by cases e)
  have k2 := conv_bytesN (w := w5.drew) tc (htb.below hB5.drew (Nat.le_refl _)) hG htn
  refine wp_region_held_drew (S := fun w' => w' = w5.drew) (by kernel_rfl) rfl (fun hHeld => ?_)
  refine takeTo 0 (some 14) (.slice (some ⟨gt, 0, none⟩) 16 16) rfl rfl (by kernel_rfl) (by kernel_rfl) (by kernel_rfl) (fun _ _ _ h => h) (by rfl) (fun wz _ => run_slice_tag _ rfl gt rfl wz) hHeld ?_
  simp only [Act.put, List.setIfInBounds_toArray, List.set_cons_zero, List.set_cons_succ]
  refine takeTo 1 (some 15) (.string ⟨(strN f 16).toArray⟩) rfl rfl (by kernel_rfl) (by kernel_rfl) (by kernel_rfl) (fun _ _ _ h => h) (by rfl) (fun wz hz => run_conv _ rfl _ _ rfl wz (by rw [hz]; exact k1)) hHeld ?_
  simp only [Act.put, List.setIfInBounds_toArray, List.set_cons_zero, List.set_cons_succ]
  refine takeTo 2 (some 16) (.slice ta tl tc) rfl rfl (by kernel_rfl) (by kernel_rfl) (by kernel_rfl) (fun _ _ _ h => h) (by rfl) (fun _ _ => rfl) hHeld ?_
  simp only [Act.put, List.setIfInBounds_toArray, List.set_cons_zero, List.set_cons_succ]
  refine takeTo 3 (some 17) (.string ⟨(strN G tl).toArray⟩) rfl rfl (by kernel_rfl) (by kernel_rfl) (by kernel_rfl) (fun _ _ _ h => h) (by rfl) (fun wz hz => run_conv _ rfl _ _ rfl wz (by rw [hz]; exact k2)) hHeld ?_
  simp only [Act.put, List.setIfInBounds_toArray, List.set_cons_zero, List.set_cons_succ]
  refine takeTo 4 (some 18) (.bool (strN f 16 == strN G tl)) rfl rfl (by kernel_rfl) (by kernel_rfl) (by kernel_rfl) (fun _ _ _ h => h) (by rfl) (fun wz _ => run_eql_str _ _ rfl _ _ rfl rfl wz) hHeld ?_
  simp only [Act.put, List.setIfInBounds_toArray, List.set_cons_zero, List.set_cons_succ]
  refine takeTo 5 (some 8) (.bool (strN f 16 == strN G tl)) rfl rfl (by kernel_rfl) (by kernel_rfl) (by kernel_rfl) (fun _ _ _ h => h) (by rfl) (fun _ _ => rfl) hHeld ?_
  simp only [Act.put, List.setIfInBounds_toArray, List.set_cons_zero, List.set_cons_succ]
  refine wpAnyH_done (by kernel_rfl) ?_ _
  go_wp2
  go_ret
  refine ⟨?_, hB5.drew⟩
  rw [← HF.out, show (strN G tl == strN f 16) = (strN f 16 == strN G tl) from BEq.comm]
  rfl
end Go.Proofs.YtomefoijiiideaaDoor
