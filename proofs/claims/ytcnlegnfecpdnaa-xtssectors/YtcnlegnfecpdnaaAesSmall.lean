/- aes: double, mix, unmix. -/
import Derived.Test.YtcnlegnfecpdnaaAesMem
namespace Go.Proofs.Ytcnlegnfecpdnaa
open Go.ChangeShapes Go.WideShapes Go.ChangeAt Go.RowKit

theorem and128 (x : Nat) (h : x < 256) : x &&& 128 = if x < 128 then 0 else 128 := by
  have : ∀ x : Fin 256, x.val &&& 128 = if x.val < 128 then 0 else 128 := by decide +kernel
  exact this ⟨x, h⟩

theorem dbl_low (x : Nat) (h : x < 256) (h1 : x < 128) : x * 2 ^ 1 % 256 = dbl x := by
  unfold dbl; rw [if_pos h1]; omega

theorem dbl_high (x : Nat) (h : x < 256) (h1 : ¬ x < 128) : (x * 2 ^ 1 % 256) ^^^ 27 = dbl x := by
  have : ∀ x : Fin 256, ¬ x.val < 128 → (x.val * 2 ^ 1 % 256) ^^^ 27 = dbl x.val := by decide +kernel
  exact this ⟨x, h⟩ h1

theorem ret_int {k : IntKind} {a b : Int} (h : a = b) : Ending.returned (.int k a) = .returned (.int k b) := by rw [h]

theorem double_any (x : Nat) (w : World) (hx : x < 256) :
    Calls Try.prog 42 #[.int .u8 x] w fun e w' => e = .returned (.int .u8 (dbl x : Nat)) ∧ w' = w := by
  have hq := u8_and_nat x 128 hx (by decide)
  rw [and128 x hx] at hq
  by_cases h : x < 128
  · have ha : bits .and .u8 (x : Int) 128 = 0 := by rw [if_pos h] at hq; exact hq
    clear hq
    have hd : Hid (x * 2 ^ 1 % 256 = dbl x) := dbl_low x hx h
    go_enter Try.func42, Try.ntmps42
    go_wp2
    go_ret
    refine ⟨?_, rfl⟩
    rw [← hd.out]
    exact ret_int (by omega)
  · have ha : bits .and .u8 (x : Int) 128 = 128 := by rw [if_neg h] at hq; exact hq
    clear hq
    have hd : Hid ((x * 2 ^ 1 % 256) ^^^ 27 = dbl x) := dbl_high x hx h
    have hb : Hid (bits .xor .u8 ((x * 2 ^ 1 % 256 : Nat) : Int) ((27 : Nat) : Int) = (((x * 2 ^ 1 % 256) ^^^ 27 : Nat) : Int)) := u8_xor_nat _ 27 (Nat.mod_lt _ (by decide)) (by decide)
    go_enter Try.func42, Try.ntmps42
    go_wp2
    go_ret
    refine ⟨?_, rfl⟩
    rw [← hd.out, ← hb.out]
    exact ret_int (by rw [show ((x * 2 ^ 1 % 256 : Nat) : Int) = (x : Int) * 2 % 256 by omega]; rfl)

theorem x8 {a b : Nat} (ha : a < 256) (hb : b < 256) : bits .xor .u8 (a : Int) (b : Int) = ((a ^^^ b : Nat) : Int) := u8_xor_nat a b ha hb

set_option maxRecDepth 100000 in
theorem mix_any (v : Nat → Nat) (w : World) (hv : ∀ r, r < 4 → v r < 256) :
    Calls Try.prog 34 #[.agg (cellsN .u8 4 v)] w fun e w' => e = .returned (.agg (cellsN .u8 4 (mixN v))) ∧ Below w.heap.size w w' := by
  obtain ⟨a, b, c, d, ea, eb, ec, ed, ha, hb, hc, hd⟩ := letters v hv
  rw [show cellsN .u8 4 v = #[.int .u8 (a : Nat), .int .u8 (b : Nat), .int .u8 (c : Nat), .int .u8 (d : Nat)] by rw [← ea, ← eb, ← ec, ← ed]; rfl]
  have x1 := x8 ha hb
  have x2 := x8 (xor8 ha hb) hc
  have x3 := x8 (xor8 (xor8 ha hb) hc) hd
  have hall := xor8 (xor8 (xor8 ha hb) hc) hd
  have x4 := x8 hb hc
  have x5 := x8 hc hd
  have x6 := x8 hd ha
  have d1 := dbl_lt _ (xor8 ha hb)
  have d2 := dbl_lt _ (xor8 hb hc)
  have d3 := dbl_lt _ (xor8 hc hd)
  have d4 := dbl_lt _ (xor8 hd ha)
  have y1 := x8 d1 hall
  have y2 := x8 d2 hall
  have y3 := x8 d3 hall
  have y4 := x8 d4 hall
  have z1 := x8 (xor8 d1 hall) ha
  have z2 := x8 (xor8 d2 hall) hb
  have z3 := x8 (xor8 d3 hall) hc
  have z4 := x8 (xor8 d4 hall) hd
  have q1 := xor8 ha hb
  have q2 := xor8 hb hc
  have q3 := xor8 hc hd
  have q4 := xor8 hd ha
  go_enter Try.func34, Try.ntmps34
  go_wp2
  go_quiet (fail)
  go_wp2_with (go_at_call 42; refine (double_any _ _ (by assumption)).mono ?_; rintro e w' ⟨rfl, rfl⟩)
  have e : cellsN .u8 4 (mixN v) = #[.int .u8 ((dbl (a ^^^ b) ^^^ (a ^^^ b ^^^ c ^^^ d) ^^^ a : Nat) : Int), .int .u8 ((dbl (b ^^^ c) ^^^ (a ^^^ b ^^^ c ^^^ d) ^^^ b : Nat) : Int), .int .u8 ((dbl (c ^^^ d) ^^^ (a ^^^ b ^^^ c ^^^ d) ^^^ c : Nat) : Int), .int .u8 ((dbl (d ^^^ a) ^^^ (a ^^^ b ^^^ c ^^^ d) ^^^ d : Nat) : Int)] := by
    rw [← ea, ← eb, ← ec, ← ed]; rfl
  rw [e]
  refine bodyPost_ret (v := .agg #[_, _, _, _]) (by simp [results, Try.results34, go_sem]) rfl ⟨rfl, ?_⟩
  have hb0 : Below w.heap.size w ((w.alloc (.cells #[.int .u8 (a : Nat), .int .u8 (b : Nat), .int .u8 (c : Nat), .int .u8 (d : Nat)] 58)).alloc (.cells #[.int .u8 0, .int .u8 0, .int .u8 0, .int .u8 0] 58)) := ((Below.refl _ _).alloc (Nat.le_refl _) _).alloc (by simp) _
  exact ((((below_drewN hb0 _).setCell (by simp) _).setCell (by simp) _).setCell (by simp) _).setCell (by simp) _

set_option maxRecDepth 100000 in
theorem unmix_any (v : Nat → Nat) (w : World) (hv : ∀ r, r < 4 → v r < 256) :
    Calls Try.prog 37 #[.agg (cellsN .u8 4 v)] w fun e w' => e = .returned (.agg (cellsN .u8 4 (unmixN v))) ∧ Below w.heap.size w w' := by
  have hm := fun w => mix_any _ w (pre_lt v hv)
  obtain ⟨a, b, c, d, ea, eb, ec, ed, ha, hb, hc, hd⟩ := letters v hv
  rw [show cellsN .u8 4 (fun r => v r ^^^ dbl (dbl (v (r % 2) ^^^ v (r % 2 + 2)))) = #[.int .u8 ((a ^^^ dbl (dbl (a ^^^ c)) : Nat) : Int), .int .u8 ((b ^^^ dbl (dbl (b ^^^ d)) : Nat) : Int), .int .u8 ((c ^^^ dbl (dbl (a ^^^ c)) : Nat) : Int), .int .u8 ((d ^^^ dbl (dbl (b ^^^ d)) : Nat) : Int)] by rw [← ea, ← eb, ← ec, ← ed]; rfl] at hm
  rw [show cellsN .u8 4 v = #[.int .u8 (a : Nat), .int .u8 (b : Nat), .int .u8 (c : Nat), .int .u8 (d : Nat)] by rw [← ea, ← eb, ← ec, ← ed]; rfl]
  have x1 := x8 ha hc
  have x2 := x8 hb hd
  have q1 := xor8 ha hc
  have q2 := xor8 hb hd
  have q3 := dbl_lt _ q1
  have q4 := dbl_lt _ q2
  have q5 := dbl_lt _ q3
  have q6 := dbl_lt _ q4
  have y1 := x8 ha q5
  have y2 := x8 hb q6
  have y3 := x8 hc q5
  have y4 := x8 hd q6
  have hbase : ∀ nq, Below w.heap.size w (((w.alloc (.cells #[.int .u8 (a : Nat), .int .u8 (b : Nat), .int .u8 (c : Nat), .int .u8 (d : Nat)] 58)).alloc (.cells #[.int .u8 0, .int .u8 0, .int .u8 0, .int .u8 0] 58)).drewN nq) := fun nq => below_drewN (((Below.refl _ _).alloc (Nat.le_refl _) _).alloc (by simp) _) nq
  have hnew : ∀ nq, Has (((w.alloc (.cells #[.int .u8 (a : Nat), .int .u8 (b : Nat), .int .u8 (c : Nat), .int .u8 (d : Nat)] 58)).alloc (.cells #[.int .u8 0, .int .u8 0, .int .u8 0, .int .u8 0] 58)).drewN nq) (w.heap.size + 1) 58 (cellsN .u8 4 fun _ => 0) := fun nq => (Has.new_at (by simp)).drewN nq
  go_enter Try.func37, Try.ntmps37
  go_wp2
  go_quiet (fail)
  go_wp2_with (first
    | (go_at_call 42; refine (double_any _ _ (by assumption)).mono ?_; rintro e w' ⟨rfl, rfl⟩)
    | (go_at_call 34; refine (hm _).mono ?_; rintro e w' ⟨rfl, hb'⟩; have hN := (hnew nq).below hb' (by simp); have hB := (hbase nq).trans (hb'.mono (by simp; omega)))
    | (refine wpList_store_rowG rfl 58 _ _ rfl (w.heap.size + 1) (cellsN .u8 4 (unmixN v)) rfl rfl 58 _ hN (by rw [cellsN_size]; exact Try.size58) (by simp [cellsN_size]) (cellsN_one _ _ _) ?_; intro w2 hw2))
  have hR : Has w2 (w.heap.size + 1) 58 (cellsN .u8 4 (unmixN v)) := by rw [hw2]; exact hN.setRow _
  refine bodyPost_ret (results_cell_row rfl _ _ (w.heap.size + 1) 58 _ (0, 0) _ rfl hR Try.underlying58 rfl (by rw [cellsN_size]; exact Try.size58)) rfl ⟨rfl, ?_⟩
  rw [hw2]
  exact below_setRow hB (by omega) _
end Go.Proofs.Ytcnlegnfecpdnaa
