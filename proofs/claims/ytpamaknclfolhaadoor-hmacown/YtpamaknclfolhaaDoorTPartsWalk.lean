/- The walk of HmacParts: a sector's tag is the beginning of the sum of its number's bytes and its data. -/
import Derived.Test.YtpamaknclfolhaaDoorHmacAlive
import Derived.Test.YtpamaknclfolhaaDoorHmacTag
import Derived.Test.YtpamaknclfolhaaDoorBlMore
namespace Go.Proofs.YtpamaknclfolhaaDoor
open Go.ChangeShapes Go.WideShapes Go.ChangeAt Go.RowKit
set_option linter.unusedVariables false

theorem run_load_int {o : Oper} {a : Act} (x : Operand) (ho : o.op = .load 3 x) (p : Addr) (hx : a.eval x = .pointer (some p)) (v : Value) (w : World) (h : w.cell? p = some v) : (execOp a.eval o).run Tryd.prog w = .ok (.value v) w := by
  unfold execOp
  simp only [ho, hx]
  go_simp

theorem run_load_slice {o : Oper} {a : Act} (x : Operand) (ho : o.op = .load 22 x) (p : Addr) (hx : a.eval x = .pointer (some p)) (v : Value) (w : World) (h : w.cell? p = some v) : (execOp a.eval o).run Tryd.prog w = .ok (.value v) w := by
  unfold execOp
  simp only [ho, hx]
  go_simp

theorem run_conv_str {o : Oper} {a : Act} (x : Operand) (ho : o.op = .convert 22 9 x) (v : Value) (hx : a.eval x = v) (s : ByteArray) (w : World) (h : (convert 22 9 v).run Tryd.prog w = .ok (.string s) w) : (execOp a.eval o).run Tryd.prog w = .ok (.value (.string s)) w := by
  unfold execOp
  simp only [ho, hx, Sem.run_bind, h]
  rfl

theorem run_eql_str {o : Oper} {a : Act} (x y : Operand) (ho : o.op = .binOp .eql 9 x y 9) (s : ByteArray) (hx : a.eval x = .string s) (hy : a.eval y = .string s) (w : World) : (execOp a.eval o).run Tryd.prog w = .ok (.value (.bool true)) w := by
  unfold execOp
  simp only [ho, hx, hy]
  go_simp

theorem has_bytes {w : World} {g t n : Nat} {f : Nat → Nat} (h : Has w g t (cellsN .u8 n f)) (m : Nat) (hm : m ≤ n) : Bytes w (some ⟨g, 0, none⟩) m f :=
  .inr ⟨g, 0, rfl, h.lt, fun j hj => by rw [Nat.zero_add]; exact h.num j (by omega)⟩

set_option maxRecDepth 100000 in
set_option maxHeartbeats 3200000 in
theorem tparts_walk (a0 : Option Addr) (l0 c0 : Nat) (kf : Nat → Nat) (s : Int) (a1 : Option Addr) (l1 c1 : Nat) (D : Nat → Nat) (v2 : Value) (w : World) (hG : Glob Hc Kc w) (hk : ∀ j, kf j < 256) (hD : ∀ j, D j < 256)
    (hl0 : l0 ≤ c0) (hc0 : c0 ≤ 140737488351232) (b0 : Bytes w a0 l0 kf) (hl1 : l1 ≤ c1) (hc1 : c1 ≤ 140737488351232) (n1 : a1 = none → l1 = 0 ∧ c1 = 0) (b1 : Bytes w a1 l1 D) (hs : -9223372036854775808 ≤ s ∧ s ≤ 9223372036854775807) :
    Calls Tryd.prog 7 #[.agg #[.slice a0 l0 c0, .int .i64 s, .slice a1 l1 c1, v2]] w fun e w' => e = .returned (.bool true) ∧ Below w.heap.size w w' := by
  obtain ⟨f, hf⟩ : ∃ f, f = TG Hc Kc kf l0 s D l1 := ⟨_, rfl⟩
  have hfl : ∀ j, f j < 256 := fun j => by rw [hf]; exact TG_lt _ _ _ _ _ _ _ _
  have HTAG : Hid (∀ w', Below w.heap.size w w' → Calls Tryd.prog 12 #[.slice a0 l0 c0, .int .i64 s, .slice a1 l1 c1] w' fun e w'' => e = .returned (.agg (cellsN .u8 16 f)) ∧ Below w'.heap.size w' w'') := (by
    intro w' hb'
    rw [hf]
    exact tag_any c0 c1 s hs (hG.below hb' hG.1) Hc_lt hk hD hl0 (by omega) (b0.below hb' (Nat.le_refl _)) hl1 (by omega) (b1.below hb' (Nat.le_refl _)))
  have HSUM : Hid (∀ w' (a : Option Addr) (cap : Nat), Below w.heap.size w w' → 8 + l1 ≤ cap → Bytes w' a (8 + l1) (cat (nb (un s)) 8 D) → Calls Tryd.prog 8 #[.slice a0 l0 c0, .slice a (8 + l1) cap] w' fun e w'' => e = .returned (.agg (cellsN .u8 32 f)) ∧ Below w'.heap.size w' w'') := (by
    intro w' a cap hb' hcap hb
    rw [hf]
    exact hsum_one c0 cap (hG.below hb' hG.1) Hc_lt hk (cat_lt _ _ _ (nb_lt _) hD) hl0 (by omega) (b0.below hb' (Nat.le_refl _)) hcap (by omega) hb)
  obtain ⟨TX, hTX⟩ : ∃ TX : Array Value, TX = #[.slice a0 l0 c0, .int .i64 s, .slice a1 l1 c1, v2] := ⟨_, rfl⟩
  have HX : Hid (TX[0]? = some (.slice a0 l0 c0) ∧ TX[1]? = some (.int .i64 s) ∧ TX[2]? = some (.slice a1 l1 c1)) := (by rw [hTX]; exact ⟨rfl, rfl, rfl⟩)
  have h1 : Has (w.alloc (.cells #[.slice a0 l0 c0, .int .i64 s, .slice a1 l1 c1, v2] 28)) w.heap.size 28 TX := by rw [hTX]; exact Has.new _ _ _
  have hb1 : Below w.heap.size w (w.alloc (.cells #[.slice a0 l0 c0, .int .i64 s, .slice a1 l1 c1, v2] 28)) := (Below.refl _ _).alloc (Nat.le_refl _) _
  obtain ⟨W1, hW1⟩ : ∃ W1, W1 = w.alloc (.cells #[.slice a0 l0 c0, .int .i64 s, .slice a1 l1 c1, v2] 28) := ⟨_, rfl⟩
  have hby := rbytes8 (un s) W1.drew (un_bd s)
  obtain ⟨u, hu⟩ : ∃ u, u = un s := ⟨_, rfl⟩
  rw [← hu] at hby HSUM
  have hwu : IntKind.u64.wrap s = u := hu.symm
  clear hf hk hD
  go_enter Tryd.func7, Tryd.ntmps7
  go_wp2_with fail
  rw [← hW1] at h1 hb1
  try rw [← hW1]
  have h1d : Has W1.drew w.heap.size 28 TX := h1
  have hb1d : Below w.heap.size w W1.drew := hb1.drew
  have hsz : W1.drew.heap.size = w.heap.size + 1 := by show W1.heap.size = _; rw [hW1]; simp
  refine wp_region_held_drew (S := fun w' => Has w' w.heap.size 28 TX) (by kernel_rfl) h1d (fun hHeld => ?_)
  refine takeTo 0 (some 6) (.pointer (some ⟨w.heap.size, 1, none⟩)) rfl rfl (by kernel_rfl) (by kernel_rfl) (by kernel_rfl) (fun _ _ _ h => h) (by rfl) (fun _ _ => by kernel_rfl) hHeld ?_
  simp only [Act.put, List.setIfInBounds_toArray, List.set_cons_zero, List.set_cons_succ]
  refine takeTo 1 (some 7) (.int .i64 s) rfl rfl (by kernel_rfl) (by kernel_rfl) (by kernel_rfl) (fun _ _ _ h => h) (by rfl) (fun wz hz => run_load_int (.tmp 6) rfl ⟨w.heap.size, 1, none⟩ rfl _ wz (by rw [hz.cell]; exact HX.out.2.1)) hHeld ?_
  simp only [Act.put, List.setIfInBounds_toArray, List.set_cons_zero, List.set_cons_succ]
  refine takeTo 2 (some 8) (.int .u64 u) rfl rfl (by kernel_rfl) (by kernel_rfl) (by kernel_rfl) (fun _ _ _ h => h) (by rfl) (fun wz _ => by rw [← hwu]; kernel_rfl) hHeld ?_
  simp only [Act.put, List.setIfInBounds_toArray, List.set_cons_zero, List.set_cons_succ]
  refine takeTo 4 (some 10) (.pointer (some ⟨w.heap.size, 2, none⟩)) rfl rfl (by kernel_rfl) (by kernel_rfl) (by kernel_rfl) (fun _ _ _ h => h) (by rfl) (fun _ _ => by kernel_rfl) hHeld ?_
  simp only [Act.put, List.setIfInBounds_toArray, List.set_cons_zero, List.set_cons_succ]
  refine takeTo 5 (some 11) (.slice a1 l1 c1) rfl rfl (by kernel_rfl) (by kernel_rfl) (by kernel_rfl) (fun _ _ _ h => h) (by rfl) (fun wz hz => run_load_slice (.tmp 10) rfl ⟨w.heap.size, 2, none⟩ rfl _ wz (by rw [hz.cell]; exact HX.out.2.2)) hHeld ?_
  simp only [Act.put, List.setIfInBounds_toArray, List.set_cons_zero, List.set_cons_succ]
  refine callTo 3 (some 9) 17 #[.int .u64 u, .int .i64 8] (by kernel_rfl) rfl rfl (by rfl) (by kernel_rfl) hby ?_
  rintro e w2 ⟨rfl, own2, hb2⟩
  have h2 := h1d.below hb2 h1d.lt
  refine ⟨_, rfl, h2, ?_⟩
  simp only [Act.put, List.setIfInBounds_toArray, List.set_cons_zero, List.set_cons_succ]
  have hB2 : Below w.heap.size w w2 := hb1d.trans (hb2.mono hb1d.size)
  obtain ⟨v3, w3, hr3, own3, gr3⟩ := run_append_bytes w2 W1.drew.heap.size _ 8 (nb u) own2 a1 l1 c1 D n1 (b1.below hB2 (Nat.le_refl _)) (by omega) hb2.size
  have hb3 : Below W1.drew.heap.size W1.drew w3 := hb2.grown gr3 hb2.size (fun k' h => (own2.lt k' h).1)
  have h3 := h1d.below hb3 h1d.lt
  refine ready1 6 (by kernel_rfl) (stepVal (some 12) v3 w3 rfl rfl (by rfl) (run_append_op (.tmp 9) (.tmp 11) 22 22 rfl _ _ rfl rfl v3 hr3) ⟨h3, ?_⟩)
  simp only [Act.put, List.setIfInBounds_toArray, List.set_cons_zero, List.set_cons_succ]
  refine takeTo 7 (some 3) (v3) rfl rfl (by kernel_rfl) (by kernel_rfl) (by kernel_rfl) (fun _ _ _ h => h) (by rfl) (fun _ _ => rfl) h3 ?_
  simp only [Act.put, List.setIfInBounds_toArray, List.set_cons_zero, List.set_cons_succ]
  refine wpAnyH_done (by kernel_rfl) ?_ _
  obtain ⟨a3, c3, rfl, hc3, _, by3, _⟩ := own_bytes own3
  have hB3 : Below w.heap.size w w3 := hb1d.trans (hb3.mono hb1d.size)
  have hs3 := HSUM.out w3 a3 c3 hB3 hc3 by3
  have q0 : w3.cell? ⟨w.heap.size, 0, none⟩ = some (.slice a0 l0 c0) := by rw [h3.cell]; exact HX.out.1
  have h3l := h3.lt
  clear own2 own3 hr3 gr3 hby hHeld hb2 hb3 h2 hB2 h1 hb1 h1d hb1d by3 hTX b0 b1 n1
  go_wp2_with (first
    | ((go_at_call 8)
       (refine hs3.mono ?_)
       (rintro e w4 ⟨rfl, hb4⟩)
       (have h4 := h3.below hb4 h3.lt)
       (have hB4 : Below w.heap.size w w4 := hB3.trans (hb4.mono hB3.size))
       (have hn4 : Has (w4.alloc (.cells (cellsN .u8 32 fun _ => 0) 23)) w4.heap.size 23 (cellsN .u8 32 fun _ => 0) := Has.new _ _ _)
       (clear hs3 hb4 q0 h3))
    | ((refine wpList_store_rowG rfl 23 _ _ rfl (w4.heap.size) (cellsN .u8 32 f) rfl rfl 23 _ hn4 (by rw [cellsN_size]; exact Tryd.size23) (by simp [cellsN_size]) (cellsN_one _ _ _) ?_)
       (intro w5 hw5)
       (have hA5 : Has w5 w4.heap.size 23 (cellsN .u8 32 f) := (by rw [hw5]; exact hn4.setRow _))
       (have h5 : Has w5 w.heap.size 28 TX := (by rw [hw5]; exact (h4.alloc _).setRow_other (by have := h4.lt; omega) _))
       (have hB5 : Below w.heap.size w w5 := (by rw [hw5]; exact below_setRow (hB4.alloc hB4.size _) hB4.size _))
       (have r0 : w5.cell? ⟨w.heap.size, 0, none⟩ = some (.slice a0 l0 c0) := (by rw [h5.cell]; exact HX.out.1))
       (have r1 : w5.cell? ⟨w.heap.size, 1, none⟩ = some (.int .i64 s) := (by rw [h5.cell]; exact HX.out.2.1))
       (have r2 : w5.cell? ⟨w.heap.size, 2, none⟩ = some (.slice a1 l1 c1) := (by rw [h5.cell]; exact HX.out.2.2))
       (have ht5 := HTAG.out w5 hB5)
       (clear hw5 hn4 h4 hB4))
    | ((go_at_call 12)
       (refine ht5.mono ?_)
       (rintro e w6 ⟨rfl, hb6⟩)
       (have hA6 := hA5.below hb6 hA5.lt)
       (have hB6 : Below w.heap.size w w6 := hB5.trans (hb6.mono hB5.size))
       (have hn6 : Has (w6.alloc (.cells (cellsN .u8 16 fun _ => 0) 29)) w6.heap.size 29 (cellsN .u8 16 fun _ => 0) := Has.new _ _ _)
       (clear ht5 hb6 r0 r1 r2 h5 hA5 hB5))
    | ((refine wpList_store_rowG rfl 29 _ _ rfl (w6.heap.size) (cellsN .u8 16 f) rfl rfl 29 _ hn6 (by rw [cellsN_size]; exact Tryd.size29) (by simp [cellsN_size]) (cellsN_one _ _ _) ?_)
       (intro w7 hw7)
       (have hT7 : Has w7 w6.heap.size 29 (cellsN .u8 16 f) := (by rw [hw7]; exact hn6.setRow _))
       (have hA7 : Has w7 w4.heap.size 23 (cellsN .u8 32 f) := (by rw [hw7]; exact (hA6.alloc _).setRow_other (by have := hA6.lt; omega) _))
       (have hB7 : Below w.heap.size w w7 := (by rw [hw7]; exact below_setRow (hB6.alloc hB6.size _) hB6.size _))
       (clear hw7 hn6 hA6 hB6)))
  have hTd : Has w7.drew w6.heap.size 29 (cellsN .u8 16 f) := hT7
  have hAd : Has w7.drew w4.heap.size 23 (cellsN .u8 32 f) := hA7
  have hBd : Below w.heap.size w w7.drew := hB7.drew
  have hal := halive_any w7.drew (hG.below hBd hG.1)
  refine wp_region_held_drew (S := fun w' => Has w' w6.heap.size 29 (cellsN .u8 16 f) ∧ Has w' w4.heap.size 23 (cellsN .u8 32 f)) (by kernel_rfl) ⟨hTd, hAd⟩ (fun hHeld => ?_)
  refine callTo 0 (some 24) 10 #[] (by kernel_rfl) rfl rfl (by rfl) (by kernel_rfl) hal ?_
  rintro e wa ⟨rfl, hba⟩
  have hHa : Has wa w6.heap.size 29 (cellsN .u8 16 f) ∧ Has wa w4.heap.size 23 (cellsN .u8 32 f) := ⟨hTd.below hba hTd.lt, hAd.below hba hAd.lt⟩
  have hBa : Below w.heap.size w wa := hBd.trans (hba.mono hBd.size)
  refine ⟨_, rfl, hHa, ?_⟩
  clear hHeld
  have hHeld := hHa
  simp only [Act.put, List.setIfInBounds_toArray, List.set_cons_zero, List.set_cons_succ]
  refine takeTo 1 (some 25) (.bool true) rfl rfl (by kernel_rfl) (by kernel_rfl) (by kernel_rfl) (fun _ _ _ h => h) (by rfl) (fun _ _ => rfl) hHeld ?_
  simp only [Act.put, List.setIfInBounds_toArray, List.set_cons_zero, List.set_cons_succ]
  refine takeTo 2 (some 26) (.slice (some ⟨w6.heap.size, 0, none⟩) 16 16) rfl rfl (by kernel_rfl) (by kernel_rfl) (by kernel_rfl) (fun _ _ _ h => h) (by rfl) (fun _ _ => by kernel_rfl) hHeld ?_
  simp only [Act.put, List.setIfInBounds_toArray, List.set_cons_zero, List.set_cons_succ]
  refine takeTo 3 (some 27) (.string ⟨(strN f 16).toArray⟩) rfl rfl (by kernel_rfl) (by kernel_rfl) (by kernel_rfl) (fun _ _ _ h => h) (by rfl) (fun wz hz => run_conv_str (.tmp 26) rfl _ rfl _ wz (conv_bytesN 16 (has_bytes hz.1 16 (by decide)) hfl (fun e => by cases e))) hHeld ?_
  simp only [Act.put, List.setIfInBounds_toArray, List.set_cons_zero, List.set_cons_succ]
  refine takeTo 4 (some 28) (.slice (some ⟨w4.heap.size, 0, none⟩) 16 32) rfl rfl (by kernel_rfl) (by kernel_rfl) (by kernel_rfl) (fun _ _ _ h => h) (by rfl) (fun _ _ => by kernel_rfl) hHeld ?_
  simp only [Act.put, List.setIfInBounds_toArray, List.set_cons_zero, List.set_cons_succ]
  refine takeTo 5 (some 29) (.string ⟨(strN f 16).toArray⟩) rfl rfl (by kernel_rfl) (by kernel_rfl) (by kernel_rfl) (fun _ _ _ h => h) (by rfl) (fun wz hz => run_conv_str (.tmp 28) rfl _ rfl _ wz (conv_bytesN 32 (has_bytes hz.2 16 (by decide)) hfl (fun e => by cases e))) hHeld ?_
  simp only [Act.put, List.setIfInBounds_toArray, List.set_cons_zero, List.set_cons_succ]
  refine takeTo 6 (some 30) (.bool true) rfl rfl (by kernel_rfl) (by kernel_rfl) (by kernel_rfl) (fun _ _ _ h => h) (by rfl) (fun wz _ => run_eql_str (.tmp 27) (.tmp 29) rfl _ rfl rfl wz) hHeld ?_
  simp only [Act.put, List.setIfInBounds_toArray, List.set_cons_zero, List.set_cons_succ]
  refine takeTo 7 (some 31) (.bool true) rfl rfl (by kernel_rfl) (by kernel_rfl) (by kernel_rfl) (fun _ _ _ h => h) (by rfl) (fun _ _ => rfl) hHeld ?_
  simp only [Act.put, List.setIfInBounds_toArray, List.set_cons_zero, List.set_cons_succ]
  refine takeTo 8 (some 2) (.bool true) rfl rfl (by kernel_rfl) (by kernel_rfl) (by kernel_rfl) (fun _ _ _ h => h) (by rfl) (fun _ _ => rfl) hHeld ?_
  simp only [Act.put, List.setIfInBounds_toArray, List.set_cons_zero, List.set_cons_succ]
  refine wpAnyH_done (by kernel_rfl) ?_ _
  go_wp2
  go_ret
  exact ⟨rfl, hBa⟩
end Go.Proofs.YtpamaknclfolhaaDoor
