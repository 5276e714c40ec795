/- AesUnlike, walked. -/
import Derived.Test.YtjpolcobplpdeaaAesAlive
import Derived.Test.YtjpolcobplpdeaaAesNew32
namespace Go.Proofs.Ytjpolcobplpdeaa
open Go.ChangeShapes Go.WideShapes Go.ChangeAt Go.RowKit
set_option linter.unusedVariables false

theorem eql_as {o : Oper} {a : Act} (x y : Operand) (ho : o.op = .binOp .eql 23 x y 23) (f g : Nat → Nat) (r : Bool) (hx : a.eval x = .agg (cellsN .u8 16 f)) (hy : a.eval y = .agg (cellsN .u8 16 g)) (hf : Byt f) (hg : Byt g) (hr : eqB f g = r) (w : World) :
    (execOp a.eval o).run Try.prog w = .ok (.value (.bool r)) w := by
  have := run_eql_block x y ho f g hx hy hf hg w
  rwa [hr] at this

theorem eql_bool {o : Oper} {a : Act} (x y : Operand) (ho : o.op = .binOp .eql 4 x y 4) (r : Bool) (hx : a.eval x = .bool r) (hy : a.eval y = .bool r) (w : World) : (execOp a.eval o).run Try.prog w = .ok (.value (.bool true)) w := by
  unfold execOp
  simp only [ho, hx, hy]
  cases r <;> go_simp

/-- Two blocks are encrypted to one just if they are one. -/
theorem enc_unlike (K : Nat → Nat) (R : Nat) (hR : R ≤ 14) (hK : ∀ j, K j < 256) (a b : Nat → Nat) (ha : Byt a) (hb : Byt b) (g : Nat) : ∃ X Y : Nat → Nat,
    (∀ w, Has w g 45 (ccells K R IB) → Calls Try.prog 11 #[.pointer (some ⟨g, 0, none⟩), .agg (cellsN .u8 16 a)] w fun e w' => e = .returned (.agg (cellsN .u8 16 X)) ∧ Below w.heap.size w w') ∧
    (∀ w, Has w g 45 (ccells K R IB) → Calls Try.prog 11 #[.pointer (some ⟨g, 0, none⟩), .agg (cellsN .u8 16 b)] w fun e w' => e = .returned (.agg (cellsN .u8 16 Y)) ∧ Below w.heap.size w w') ∧ Byt X ∧ Byt Y ∧ eqB X Y = eqB a b := by
  refine ⟨encAt K R a R, encAt K R b R, fun w h => encrypt_any K R IB a g w (fun j _ => hK j) hR ha h, fun w h => encrypt_any K R IB b g w (fun j _ => hK j) hR hb h, encAt_lt (fun j _ => hK j) R ha R hR, encAt_lt (fun j _ => hK j) R hb R hR, ?_⟩
  rw [Bool.eq_iff_iff, eqB_iff, eqB_iff]
  constructor
  · intro h
    exact ((dec_enc K (fun j _ => hK j) R hR a ha).symm.trans (decS_congr K R h)).trans (dec_enc K (fun j _ => hK j) R hR b hb)
  · intro h
    exact encAt_congr K R h R

/-- And so they are decrypted. -/
theorem dec_unlike (K : Nat → Nat) (R : Nat) (hR : R ≤ 14) (hK : ∀ j, K j < 256) (a b : Nat → Nat) (ha : Byt a) (hb : Byt b) (g : Nat) : ∃ X Y : Nat → Nat,
    (∀ w, Has w g 45 (ccells K R IB) → Calls Try.prog 13 #[.pointer (some ⟨g, 0, none⟩), .agg (cellsN .u8 16 a)] w fun e w' => e = .returned (.agg (cellsN .u8 16 X)) ∧ Below w.heap.size w w') ∧
    (∀ w, Has w g 45 (ccells K R IB) → Calls Try.prog 13 #[.pointer (some ⟨g, 0, none⟩), .agg (cellsN .u8 16 b)] w fun e w' => e = .returned (.agg (cellsN .u8 16 Y)) ∧ Below w.heap.size w w') ∧ Byt X ∧ Byt Y ∧ eqB X Y = eqB a b := by
  refine ⟨decS K R a, decS K R b, fun w h => decrypt_any K R a g w (fun j _ => hK j) hR ha h, fun w h => decrypt_any K R b g w (fun j _ => hK j) hR hb h, decS_lt (fun j _ => hK j) R hR ha, decS_lt (fun j _ => hK j) R hR hb, ?_⟩
  rw [Bool.eq_iff_iff, eqB_iff, eqB_iff]
  constructor
  · intro h
    exact ((enc_dec K (fun j _ => hK j) R hR a ha).symm.trans (encAt_congr K R h R)).trans (enc_dec K (fun j _ => hK j) R hR b hb)
  · intro h
    exact decS_congr K R h

set_option maxRecDepth 100000 in
set_option maxHeartbeats 1600000 in
theorem unlike_walk (key a b : Nat → Nat) (w : World) (hk : ∀ j, j < 32 → key j < 256) (ha : ∀ j, j < 16 → a j < 256) (hb : ∀ j, j < 16 → b j < 256) : Calls Try.prog 6 #[.agg (cellsN .u8 32 key), .agg (cellsN .u8 16 a), .agg (cellsN .u8 16 b)] w fun e w' => e = .returned (.bool true) ∧ Below w.heap.size w w' := by
  obtain ⟨w0, hw0⟩ : ∃ w0, w0 = ((w.alloc (.cells (cellsN .u8 32 key) 34)).alloc (.cells (cellsN .u8 16 a) 23)).alloc (.cells (cellsN .u8 16 b) 23) := ⟨_, rfl⟩
  have hK0 : Has w0 w.heap.size 34 (cellsN .u8 32 key) := by rw [hw0]; exact ((Has.new w _ _).alloc _).alloc _
  have hA0 : Has w0 (w.heap.size + 1) 23 (cellsN .u8 16 a) := by rw [hw0]; exact (Has.new_at (by simp)).alloc _
  have hE0 : Has w0 (w.heap.size + 2) 23 (cellsN .u8 16 b) := by rw [hw0]; exact Has.new_at (by simp)
  have hb0 : Below w.heap.size w w0 := by rw [hw0]; exact three_below _ _ _ _
  have hnew := new_32 key w.heap.size 0 32 w0 hk hK0.lt (by omega) (fun j hj => by rw [Nat.zero_add]; exact hK0.num j hj)
  have hnew2 := fun w1 (h : Below w0.heap.size w0 w1) => new_16 key w.heap.size 0 32 w1 (fun j hj => hk j (by omega)) (Nat.lt_of_lt_of_le hK0.lt h.size) (by omega) (fun j hj => by rw [Nat.zero_add]; exact (hK0.below h hK0.lt).num j (by omega))
  have HC := fun g => enc_unlike (flat 8 key 60) 14 (by omega) (flat_lt 8 key (fun j hj => hk j (by omega)) 60) a b ha hb g
  have HE := fun g => dec_unlike (flat 8 key 60) 14 (by omega) (flat_lt 8 key (fun j hj => hk j (by omega)) 60) a b ha hb g
  have HD := fun g => enc_unlike (flat 4 key 44) 10 (by omega) (flat_lt 4 key (fun j hj => hk j (by omega)) 44) a b ha hb g
  obtain ⟨CC, hCC⟩ : ∃ CC, CC = ccells (flat 8 key 60) 14 IB := ⟨_, rfl⟩
  obtain ⟨DD, hDD⟩ : ∃ DD, DD = ccells (flat 4 key 44) 10 IB := ⟨_, rfl⟩
  obtain ⟨r, hr⟩ : ∃ r, r = eqB a b := ⟨_, rfl⟩
  rw [← hCC] at hnew
  simp only [← hDD] at hnew2 HD
  simp only [← hCC] at HC HE
  simp only [← hr] at HC HD HE
  have HR : Hid (eqB a b = r) := hr.symm
  clear hCC hDD hk hr hK0
  go_enter Try.func6, Try.ntmps6
  go_wp2_with (first
    | (go_at_call 7
       rw [← hw0]
       refine hnew.mono ?_
       rintro e w1 ⟨gc, rfl, hgc, hC1, hb1⟩
       have hA1 := hA0.below hb1 hA0.lt
       have hE1 := hE0.below hb1 hE0.lt
       have hn2 := hnew2 w1 hb1
       have hB1 := hb0.trans (hb1.mono hb0.size)
       clear hnew hnew2 hw0)
    | (go_at_call 7
       refine hn2.mono ?_
       rintro e w2 ⟨gd, rfl, hgd, hD2, hb2⟩
       have hA2 := hA1.below hb2 hA1.lt
       have hE2 := hE1.below hb2 hE1.lt
       have hC2 := hC1.below hb2 hC1.lt
       have hB2 := hB1.trans (hb2.mono hB1.size)
       clear hn2))
  obtain ⟨XA, XB, h1, h2, h3, h4, h5⟩ := HC gc
  have H1 : Hid ((∀ w, Has w gc 45 CC → Calls Try.prog 11 #[.pointer (some ⟨gc, 0, none⟩), .agg (cellsN .u8 16 a)] w fun e w' => e = .returned (.agg (cellsN .u8 16 XA)) ∧ Below w.heap.size w w') ∧ (∀ w, Has w gc 45 CC → Calls Try.prog 11 #[.pointer (some ⟨gc, 0, none⟩), .agg (cellsN .u8 16 b)] w fun e w' => e = .returned (.agg (cellsN .u8 16 XB)) ∧ Below w.heap.size w w') ∧ Byt XA ∧ Byt XB ∧ eqB XA XB = r) := ⟨h1, h2, h3, h4, h5⟩
  clear h1 h2 h3 h4 h5
  obtain ⟨YA, YB, h1, h2, h3, h4, h5⟩ := HD gd
  have H2 : Hid ((∀ w, Has w gd 45 DD → Calls Try.prog 11 #[.pointer (some ⟨gd, 0, none⟩), .agg (cellsN .u8 16 a)] w fun e w' => e = .returned (.agg (cellsN .u8 16 YA)) ∧ Below w.heap.size w w') ∧ (∀ w, Has w gd 45 DD → Calls Try.prog 11 #[.pointer (some ⟨gd, 0, none⟩), .agg (cellsN .u8 16 b)] w fun e w' => e = .returned (.agg (cellsN .u8 16 YB)) ∧ Below w.heap.size w w') ∧ Byt YA ∧ Byt YB ∧ eqB YA YB = r) := ⟨h1, h2, h3, h4, h5⟩
  clear h1 h2 h3 h4 h5
  obtain ⟨ZA, ZB, h1, h2, h3, h4, h5⟩ := HE gc
  have H3 : Hid ((∀ w, Has w gc 45 CC → Calls Try.prog 13 #[.pointer (some ⟨gc, 0, none⟩), .agg (cellsN .u8 16 a)] w fun e w' => e = .returned (.agg (cellsN .u8 16 ZA)) ∧ Below w.heap.size w w') ∧ (∀ w, Has w gc 45 CC → Calls Try.prog 13 #[.pointer (some ⟨gc, 0, none⟩), .agg (cellsN .u8 16 b)] w fun e w' => e = .returned (.agg (cellsN .u8 16 ZB)) ∧ Below w.heap.size w w') ∧ Byt ZA ∧ Byt ZB ∧ eqB ZA ZB = r) := ⟨h1, h2, h3, h4, h5⟩
  clear h1 h2 h3 h4 h5
  clear HC HD HE hA0 hE0 hb0 hb1 hb2 hA1 hE1 hC1 hB1
  have hS0 : Has w2.drew (w.heap.size + 1) 23 (cellsN .u8 16 a) ∧ Has w2.drew (w.heap.size + 2) 23 (cellsN .u8 16 b) := ⟨hA2, hE2⟩
  have hCw2 : Has w2.drew gc 45 CC := hC2
  have hDw2 : Has w2.drew gd 45 DD := hD2
  have hBw2 : Below w.heap.size w w2.drew := hB2.drew
  refine wp_region_held_drew (S := fun w' => Has w' (w.heap.size + 1) 23 (cellsN .u8 16 a) ∧ Has w' (w.heap.size + 2) 23 (cellsN .u8 16 b)) (by kernel_rfl) hS0 (fun hHeld => ?_)
  refine callTo 0 (some 35) 10 #[] (by kernel_rfl) rfl rfl (by rfl) (by kernel_rfl) (alive_any _) ?_
  rintro e w3 ⟨rfl, hbw3⟩
  have hSw3 : Has w3 (w.heap.size + 1) 23 (cellsN .u8 16 a) ∧ Has w3 (w.heap.size + 2) 23 (cellsN .u8 16 b) := ⟨Has.below hHeld.1 hbw3 (Has.lt hHeld.1), Has.below hHeld.2 hbw3 (Has.lt hHeld.2)⟩
  have hCw3 := hCw2.below hbw3 hCw2.lt
  have hDw3 := hDw2.below hbw3 hDw2.lt
  have hBw3 := hBw2.trans (hbw3.mono hBw2.size)
  refine ⟨_, rfl, hSw3, ?_⟩
  clear hHeld
  have hHeld := hSw3
  simp only [Act.put, List.setIfInBounds_toArray, List.set_cons_zero, List.set_cons_succ]
  refine takeTo 1 (some 36) (.bool true) rfl rfl (by kernel_rfl) (by kernel_rfl) (by kernel_rfl) (fun _ _ _ h => h) (by rfl) (fun _ _ => rfl) hHeld ?_
  simp only [Act.put, List.setIfInBounds_toArray, List.set_cons_zero, List.set_cons_succ]
  refine takeTo 2 (some 37) (.pointer (some ⟨gc, 0, none⟩)) rfl rfl (by kernel_rfl) (by kernel_rfl) (by kernel_rfl) (fun _ _ _ h => h) (by rfl) (fun _ _ => rfl) hHeld ?_
  simp only [Act.put, List.setIfInBounds_toArray, List.set_cons_zero, List.set_cons_succ]
  refine takeTo 3 (some 38) (.agg (cellsN .u8 16 a)) rfl rfl (by kernel_rfl) (by kernel_rfl) (by kernel_rfl) (fun _ _ _ h => h) (by rfl) (fun wz hz => run_load_row 23 _ rfl (w.heap.size + 1) rfl _ 23 Try.underlying23 (by rw [cellsN_size]; exact Try.size23) wz hz.1) hHeld ?_
  simp only [Act.put, List.setIfInBounds_toArray, List.set_cons_zero, List.set_cons_succ]
  refine takeTo 5 (some 40) (.pointer (some ⟨gc, 0, none⟩)) rfl rfl (by kernel_rfl) (by kernel_rfl) (by kernel_rfl) (fun _ _ _ h => h) (by rfl) (fun _ _ => rfl) hHeld ?_
  simp only [Act.put, List.setIfInBounds_toArray, List.set_cons_zero, List.set_cons_succ]
  refine takeTo 6 (some 41) (.agg (cellsN .u8 16 b)) rfl rfl (by kernel_rfl) (by kernel_rfl) (by kernel_rfl) (fun _ _ _ h => h) (by rfl) (fun wz hz => run_load_row 23 _ rfl (w.heap.size + 2) rfl _ 23 Try.underlying23 (by rw [cellsN_size]; exact Try.size23) wz hz.2) hHeld ?_
  simp only [Act.put, List.setIfInBounds_toArray, List.set_cons_zero, List.set_cons_succ]
  refine takeTo 9 (some 44) (.agg (cellsN .u8 16 a)) rfl rfl (by kernel_rfl) (by kernel_rfl) (by kernel_rfl) (fun _ _ _ h => h) (by rfl) (fun wz hz => run_load_row 23 _ rfl (w.heap.size + 1) rfl _ 23 Try.underlying23 (by rw [cellsN_size]; exact Try.size23) wz hz.1) hHeld ?_
  simp only [Act.put, List.setIfInBounds_toArray, List.set_cons_zero, List.set_cons_succ]
  refine takeTo 10 (some 45) (.agg (cellsN .u8 16 b)) rfl rfl (by kernel_rfl) (by kernel_rfl) (by kernel_rfl) (fun _ _ _ h => h) (by rfl) (fun wz hz => run_load_row 23 _ rfl (w.heap.size + 2) rfl _ 23 Try.underlying23 (by rw [cellsN_size]; exact Try.size23) wz hz.2) hHeld ?_
  simp only [Act.put, List.setIfInBounds_toArray, List.set_cons_zero, List.set_cons_succ]
  refine takeTo 11 (some 46) (.bool r) rfl rfl (by kernel_rfl) (by kernel_rfl) (by kernel_rfl) (fun _ _ _ h => h) (by rfl) (fun wz _ => eql_as _ _ rfl a b r rfl rfl ha hb HR.out wz) hHeld ?_
  simp only [Act.put, List.setIfInBounds_toArray, List.set_cons_zero, List.set_cons_succ]
  refine callTo 4 (some 39) 11 #[.pointer (some ⟨gc, 0, none⟩), .agg (cellsN .u8 16 a)] (by kernel_rfl) rfl rfl (by rfl) (by kernel_rfl) (H1.out.1 _ hCw3) ?_
  rintro e w4 ⟨rfl, hbw4⟩
  have hSw4 : Has w4 (w.heap.size + 1) 23 (cellsN .u8 16 a) ∧ Has w4 (w.heap.size + 2) 23 (cellsN .u8 16 b) := ⟨Has.below hHeld.1 hbw4 (Has.lt hHeld.1), Has.below hHeld.2 hbw4 (Has.lt hHeld.2)⟩
  have hCw4 := hCw3.below hbw4 hCw3.lt
  have hDw4 := hDw3.below hbw4 hDw3.lt
  have hBw4 := hBw3.trans (hbw4.mono hBw3.size)
  refine ⟨_, rfl, hSw4, ?_⟩
  clear hHeld
  have hHeld := hSw4
  simp only [Act.put, List.setIfInBounds_toArray, List.set_cons_zero, List.set_cons_succ]
  refine callTo 7 (some 42) 11 #[.pointer (some ⟨gc, 0, none⟩), .agg (cellsN .u8 16 b)] (by kernel_rfl) rfl rfl (by rfl) (by kernel_rfl) (H1.out.2.1 _ hCw4) ?_
  rintro e w5 ⟨rfl, hbw5⟩
  have hSw5 : Has w5 (w.heap.size + 1) 23 (cellsN .u8 16 a) ∧ Has w5 (w.heap.size + 2) 23 (cellsN .u8 16 b) := ⟨Has.below hHeld.1 hbw5 (Has.lt hHeld.1), Has.below hHeld.2 hbw5 (Has.lt hHeld.2)⟩
  have hCw5 := hCw4.below hbw5 hCw4.lt
  have hDw5 := hDw4.below hbw5 hDw4.lt
  have hBw5 := hBw4.trans (hbw5.mono hBw4.size)
  refine ⟨_, rfl, hSw5, ?_⟩
  clear hHeld
  have hHeld := hSw5
  simp only [Act.put, List.setIfInBounds_toArray, List.set_cons_zero, List.set_cons_succ]
  refine takeTo 8 (some 43) (.bool r) rfl rfl (by kernel_rfl) (by kernel_rfl) (by kernel_rfl) (fun _ _ _ h => h) (by rfl) (fun wz _ => eql_as _ _ rfl XA XB r rfl rfl H1.out.2.2.1 H1.out.2.2.2.1 H1.out.2.2.2.2 wz) hHeld ?_
  simp only [Act.put, List.setIfInBounds_toArray, List.set_cons_zero, List.set_cons_succ]
  refine takeTo 12 (some 47) (.bool true) rfl rfl (by kernel_rfl) (by kernel_rfl) (by kernel_rfl) (fun _ _ _ h => h) (by rfl) (fun wz _ => eql_bool _ _ rfl r rfl rfl wz) hHeld ?_
  simp only [Act.put, List.setIfInBounds_toArray, List.set_cons_zero, List.set_cons_succ]
  refine takeTo 13 (some 48) (.bool true) rfl rfl (by kernel_rfl) (by kernel_rfl) (by kernel_rfl) (fun _ _ _ h => h) (by rfl) (fun _ _ => rfl) hHeld ?_
  simp only [Act.put, List.setIfInBounds_toArray, List.set_cons_zero, List.set_cons_succ]
  refine takeTo 14 (some 49) (.bool true) rfl rfl (by kernel_rfl) (by kernel_rfl) (by kernel_rfl) (fun _ _ _ h => h) (by rfl) (fun _ _ => rfl) hHeld ?_
  simp only [Act.put, List.setIfInBounds_toArray, List.set_cons_zero, List.set_cons_succ]
  refine takeTo 15 (some 50) (.pointer (some ⟨gd, 0, none⟩)) rfl rfl (by kernel_rfl) (by kernel_rfl) (by kernel_rfl) (fun _ _ _ h => h) (by rfl) (fun _ _ => rfl) hHeld ?_
  simp only [Act.put, List.setIfInBounds_toArray, List.set_cons_zero, List.set_cons_succ]
  refine takeTo 16 (some 51) (.agg (cellsN .u8 16 a)) rfl rfl (by kernel_rfl) (by kernel_rfl) (by kernel_rfl) (fun _ _ _ h => h) (by rfl) (fun wz hz => run_load_row 23 _ rfl (w.heap.size + 1) rfl _ 23 Try.underlying23 (by rw [cellsN_size]; exact Try.size23) wz hz.1) hHeld ?_
  simp only [Act.put, List.setIfInBounds_toArray, List.set_cons_zero, List.set_cons_succ]
  refine takeTo 18 (some 53) (.pointer (some ⟨gd, 0, none⟩)) rfl rfl (by kernel_rfl) (by kernel_rfl) (by kernel_rfl) (fun _ _ _ h => h) (by rfl) (fun _ _ => rfl) hHeld ?_
  simp only [Act.put, List.setIfInBounds_toArray, List.set_cons_zero, List.set_cons_succ]
  refine takeTo 19 (some 54) (.agg (cellsN .u8 16 b)) rfl rfl (by kernel_rfl) (by kernel_rfl) (by kernel_rfl) (fun _ _ _ h => h) (by rfl) (fun wz hz => run_load_row 23 _ rfl (w.heap.size + 2) rfl _ 23 Try.underlying23 (by rw [cellsN_size]; exact Try.size23) wz hz.2) hHeld ?_
  simp only [Act.put, List.setIfInBounds_toArray, List.set_cons_zero, List.set_cons_succ]
  refine takeTo 22 (some 57) (.agg (cellsN .u8 16 a)) rfl rfl (by kernel_rfl) (by kernel_rfl) (by kernel_rfl) (fun _ _ _ h => h) (by rfl) (fun wz hz => run_load_row 23 _ rfl (w.heap.size + 1) rfl _ 23 Try.underlying23 (by rw [cellsN_size]; exact Try.size23) wz hz.1) hHeld ?_
  simp only [Act.put, List.setIfInBounds_toArray, List.set_cons_zero, List.set_cons_succ]
  refine takeTo 23 (some 58) (.agg (cellsN .u8 16 b)) rfl rfl (by kernel_rfl) (by kernel_rfl) (by kernel_rfl) (fun _ _ _ h => h) (by rfl) (fun wz hz => run_load_row 23 _ rfl (w.heap.size + 2) rfl _ 23 Try.underlying23 (by rw [cellsN_size]; exact Try.size23) wz hz.2) hHeld ?_
  simp only [Act.put, List.setIfInBounds_toArray, List.set_cons_zero, List.set_cons_succ]
  refine takeTo 24 (some 59) (.bool r) rfl rfl (by kernel_rfl) (by kernel_rfl) (by kernel_rfl) (fun _ _ _ h => h) (by rfl) (fun wz _ => eql_as _ _ rfl a b r rfl rfl ha hb HR.out wz) hHeld ?_
  simp only [Act.put, List.setIfInBounds_toArray, List.set_cons_zero, List.set_cons_succ]
  refine callTo 17 (some 52) 11 #[.pointer (some ⟨gd, 0, none⟩), .agg (cellsN .u8 16 a)] (by kernel_rfl) rfl rfl (by rfl) (by kernel_rfl) (H2.out.1 _ hDw5) ?_
  rintro e w6 ⟨rfl, hbw6⟩
  have hSw6 : Has w6 (w.heap.size + 1) 23 (cellsN .u8 16 a) ∧ Has w6 (w.heap.size + 2) 23 (cellsN .u8 16 b) := ⟨Has.below hHeld.1 hbw6 (Has.lt hHeld.1), Has.below hHeld.2 hbw6 (Has.lt hHeld.2)⟩
  have hCw6 := hCw5.below hbw6 hCw5.lt
  have hDw6 := hDw5.below hbw6 hDw5.lt
  have hBw6 := hBw5.trans (hbw6.mono hBw5.size)
  refine ⟨_, rfl, hSw6, ?_⟩
  clear hHeld
  have hHeld := hSw6
  simp only [Act.put, List.setIfInBounds_toArray, List.set_cons_zero, List.set_cons_succ]
  refine callTo 20 (some 55) 11 #[.pointer (some ⟨gd, 0, none⟩), .agg (cellsN .u8 16 b)] (by kernel_rfl) rfl rfl (by rfl) (by kernel_rfl) (H2.out.2.1 _ hDw6) ?_
  rintro e w7 ⟨rfl, hbw7⟩
  have hSw7 : Has w7 (w.heap.size + 1) 23 (cellsN .u8 16 a) ∧ Has w7 (w.heap.size + 2) 23 (cellsN .u8 16 b) := ⟨Has.below hHeld.1 hbw7 (Has.lt hHeld.1), Has.below hHeld.2 hbw7 (Has.lt hHeld.2)⟩
  have hCw7 := hCw6.below hbw7 hCw6.lt
  have hDw7 := hDw6.below hbw7 hDw6.lt
  have hBw7 := hBw6.trans (hbw7.mono hBw6.size)
  refine ⟨_, rfl, hSw7, ?_⟩
  clear hHeld
  have hHeld := hSw7
  simp only [Act.put, List.setIfInBounds_toArray, List.set_cons_zero, List.set_cons_succ]
  refine takeTo 21 (some 56) (.bool r) rfl rfl (by kernel_rfl) (by kernel_rfl) (by kernel_rfl) (fun _ _ _ h => h) (by rfl) (fun wz _ => eql_as _ _ rfl YA YB r rfl rfl H2.out.2.2.1 H2.out.2.2.2.1 H2.out.2.2.2.2 wz) hHeld ?_
  simp only [Act.put, List.setIfInBounds_toArray, List.set_cons_zero, List.set_cons_succ]
  refine takeTo 25 (some 60) (.bool true) rfl rfl (by kernel_rfl) (by kernel_rfl) (by kernel_rfl) (fun _ _ _ h => h) (by rfl) (fun wz _ => eql_bool _ _ rfl r rfl rfl wz) hHeld ?_
  simp only [Act.put, List.setIfInBounds_toArray, List.set_cons_zero, List.set_cons_succ]
  refine takeTo 26 (some 61) (.bool true) rfl rfl (by kernel_rfl) (by kernel_rfl) (by kernel_rfl) (fun _ _ _ h => h) (by rfl) (fun _ _ => rfl) hHeld ?_
  simp only [Act.put, List.setIfInBounds_toArray, List.set_cons_zero, List.set_cons_succ]
  refine takeTo 27 (some 62) (.bool true) rfl rfl (by kernel_rfl) (by kernel_rfl) (by kernel_rfl) (fun _ _ _ h => h) (by rfl) (fun _ _ => rfl) hHeld ?_
  simp only [Act.put, List.setIfInBounds_toArray, List.set_cons_zero, List.set_cons_succ]
  refine takeTo 28 (some 63) (.pointer (some ⟨gc, 0, none⟩)) rfl rfl (by kernel_rfl) (by kernel_rfl) (by kernel_rfl) (fun _ _ _ h => h) (by rfl) (fun _ _ => rfl) hHeld ?_
  simp only [Act.put, List.setIfInBounds_toArray, List.set_cons_zero, List.set_cons_succ]
  refine takeTo 29 (some 64) (.agg (cellsN .u8 16 a)) rfl rfl (by kernel_rfl) (by kernel_rfl) (by kernel_rfl) (fun _ _ _ h => h) (by rfl) (fun wz hz => run_load_row 23 _ rfl (w.heap.size + 1) rfl _ 23 Try.underlying23 (by rw [cellsN_size]; exact Try.size23) wz hz.1) hHeld ?_
  simp only [Act.put, List.setIfInBounds_toArray, List.set_cons_zero, List.set_cons_succ]
  refine takeTo 31 (some 66) (.pointer (some ⟨gc, 0, none⟩)) rfl rfl (by kernel_rfl) (by kernel_rfl) (by kernel_rfl) (fun _ _ _ h => h) (by rfl) (fun _ _ => rfl) hHeld ?_
  simp only [Act.put, List.setIfInBounds_toArray, List.set_cons_zero, List.set_cons_succ]
  refine takeTo 32 (some 67) (.agg (cellsN .u8 16 b)) rfl rfl (by kernel_rfl) (by kernel_rfl) (by kernel_rfl) (fun _ _ _ h => h) (by rfl) (fun wz hz => run_load_row 23 _ rfl (w.heap.size + 2) rfl _ 23 Try.underlying23 (by rw [cellsN_size]; exact Try.size23) wz hz.2) hHeld ?_
  simp only [Act.put, List.setIfInBounds_toArray, List.set_cons_zero, List.set_cons_succ]
  refine takeTo 35 (some 70) (.agg (cellsN .u8 16 a)) rfl rfl (by kernel_rfl) (by kernel_rfl) (by kernel_rfl) (fun _ _ _ h => h) (by rfl) (fun wz hz => run_load_row 23 _ rfl (w.heap.size + 1) rfl _ 23 Try.underlying23 (by rw [cellsN_size]; exact Try.size23) wz hz.1) hHeld ?_
  simp only [Act.put, List.setIfInBounds_toArray, List.set_cons_zero, List.set_cons_succ]
  refine takeTo 36 (some 71) (.agg (cellsN .u8 16 b)) rfl rfl (by kernel_rfl) (by kernel_rfl) (by kernel_rfl) (fun _ _ _ h => h) (by rfl) (fun wz hz => run_load_row 23 _ rfl (w.heap.size + 2) rfl _ 23 Try.underlying23 (by rw [cellsN_size]; exact Try.size23) wz hz.2) hHeld ?_
  simp only [Act.put, List.setIfInBounds_toArray, List.set_cons_zero, List.set_cons_succ]
  refine takeTo 37 (some 72) (.bool r) rfl rfl (by kernel_rfl) (by kernel_rfl) (by kernel_rfl) (fun _ _ _ h => h) (by rfl) (fun wz _ => eql_as _ _ rfl a b r rfl rfl ha hb HR.out wz) hHeld ?_
  simp only [Act.put, List.setIfInBounds_toArray, List.set_cons_zero, List.set_cons_succ]
  refine callTo 30 (some 65) 13 #[.pointer (some ⟨gc, 0, none⟩), .agg (cellsN .u8 16 a)] (by kernel_rfl) rfl rfl (by rfl) (by kernel_rfl) (H3.out.1 _ hCw7) ?_
  rintro e w8 ⟨rfl, hbw8⟩
  have hSw8 : Has w8 (w.heap.size + 1) 23 (cellsN .u8 16 a) ∧ Has w8 (w.heap.size + 2) 23 (cellsN .u8 16 b) := ⟨Has.below hHeld.1 hbw8 (Has.lt hHeld.1), Has.below hHeld.2 hbw8 (Has.lt hHeld.2)⟩
  have hCw8 := hCw7.below hbw8 hCw7.lt
  have hDw8 := hDw7.below hbw8 hDw7.lt
  have hBw8 := hBw7.trans (hbw8.mono hBw7.size)
  refine ⟨_, rfl, hSw8, ?_⟩
  clear hHeld
  have hHeld := hSw8
  simp only [Act.put, List.setIfInBounds_toArray, List.set_cons_zero, List.set_cons_succ]
  refine callTo 33 (some 68) 13 #[.pointer (some ⟨gc, 0, none⟩), .agg (cellsN .u8 16 b)] (by kernel_rfl) rfl rfl (by rfl) (by kernel_rfl) (H3.out.2.1 _ hCw8) ?_
  rintro e w9 ⟨rfl, hbw9⟩
  have hSw9 : Has w9 (w.heap.size + 1) 23 (cellsN .u8 16 a) ∧ Has w9 (w.heap.size + 2) 23 (cellsN .u8 16 b) := ⟨Has.below hHeld.1 hbw9 (Has.lt hHeld.1), Has.below hHeld.2 hbw9 (Has.lt hHeld.2)⟩
  have hCw9 := hCw8.below hbw9 hCw8.lt
  have hDw9 := hDw8.below hbw9 hDw8.lt
  have hBw9 := hBw8.trans (hbw9.mono hBw8.size)
  refine ⟨_, rfl, hSw9, ?_⟩
  clear hHeld
  have hHeld := hSw9
  simp only [Act.put, List.setIfInBounds_toArray, List.set_cons_zero, List.set_cons_succ]
  refine takeTo 34 (some 69) (.bool r) rfl rfl (by kernel_rfl) (by kernel_rfl) (by kernel_rfl) (fun _ _ _ h => h) (by rfl) (fun wz _ => eql_as _ _ rfl ZA ZB r rfl rfl H3.out.2.2.1 H3.out.2.2.2.1 H3.out.2.2.2.2 wz) hHeld ?_
  simp only [Act.put, List.setIfInBounds_toArray, List.set_cons_zero, List.set_cons_succ]
  refine takeTo 38 (some 73) (.bool true) rfl rfl (by kernel_rfl) (by kernel_rfl) (by kernel_rfl) (fun _ _ _ h => h) (by rfl) (fun wz _ => eql_bool _ _ rfl r rfl rfl wz) hHeld ?_
  simp only [Act.put, List.setIfInBounds_toArray, List.set_cons_zero, List.set_cons_succ]
  refine takeTo 39 (some 74) (.bool true) rfl rfl (by kernel_rfl) (by kernel_rfl) (by kernel_rfl) (fun _ _ _ h => h) (by rfl) (fun _ _ => rfl) hHeld ?_
  simp only [Act.put, List.setIfInBounds_toArray, List.set_cons_zero, List.set_cons_succ]
  refine takeTo 40 (some 6) (.bool true) rfl rfl (by kernel_rfl) (by kernel_rfl) (by kernel_rfl) (fun _ _ _ h => h) (by rfl) (fun _ _ => rfl) hHeld ?_
  simp only [Act.put, List.setIfInBounds_toArray, List.set_cons_zero, List.set_cons_succ]
  refine wpAnyH_done (by kernel_rfl) ?_ _
  go_wp2
  go_ret
  exact ⟨rfl, hBw9⟩
end Go.Proofs.Ytjpolcobplpdeaa
