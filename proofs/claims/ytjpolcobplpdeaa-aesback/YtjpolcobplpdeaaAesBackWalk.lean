/- AesBack, walked. -/
import Derived.Test.YtjpolcobplpdeaaAesAlive
import Derived.Test.YtjpolcobplpdeaaAesNew32
namespace Go.Proofs.Ytjpolcobplpdeaa
open Go.ChangeShapes Go.WideShapes Go.ChangeAt Go.RowKit
set_option linter.unusedVariables false

/-- What a cipher tells of a block, there and back. -/
theorem cipher_back (K : Nat → Nat) (R : Nat) (hR : R ≤ 14) (hK : ∀ j, K j < 256) (f : Nat → Nat) (hf : Byt f) (g : Nat) : ∃ X Y : Nat → Nat,
    (∀ w, Has w g 45 (ccells K R IB) → Calls Try.prog 11 #[.pointer (some ⟨g, 0, none⟩), .agg (cellsN .u8 16 f)] w fun e w' => e = .returned (.agg (cellsN .u8 16 X)) ∧ Below w.heap.size w w') ∧
    (∀ w, Has w g 45 (ccells K R IB) → Calls Try.prog 13 #[.pointer (some ⟨g, 0, none⟩), .agg (cellsN .u8 16 X)] w fun e w' => e = .returned (.agg (cellsN .u8 16 f)) ∧ Below w.heap.size w w') ∧
    (∀ w, Has w g 45 (ccells K R IB) → Calls Try.prog 13 #[.pointer (some ⟨g, 0, none⟩), .agg (cellsN .u8 16 f)] w fun e w' => e = .returned (.agg (cellsN .u8 16 Y)) ∧ Below w.heap.size w w') ∧
    (∀ w, Has w g 45 (ccells K R IB) → Calls Try.prog 11 #[.pointer (some ⟨g, 0, none⟩), .agg (cellsN .u8 16 Y)] w fun e w' => e = .returned (.agg (cellsN .u8 16 f)) ∧ Below w.heap.size w w') := by
  refine ⟨encAt K R f R, decS K R f, fun w h => encrypt_any K R IB f g w (fun j _ => hK j) hR hf h, fun w h => ?_, fun w h => decrypt_any K R f g w (fun j _ => hK j) hR hf h, fun w h => ?_⟩
  · have := decrypt_any K R (encAt K R f R) g w (fun j _ => hK j) hR (encAt_lt (fun j _ => hK j) R hf R hR) h
    rwa [(dec_enc K (fun j _ => hK j) R hR f hf).cells] at this
  · have := encrypt_any K R IB (decS K R f) g w (fun j _ => hK j) hR (decS_lt (fun j _ => hK j) R hR hf) h
    rwa [(enc_dec K (fun j _ => hK j) R hR f hf).cells] at this

set_option maxRecDepth 100000 in
set_option maxHeartbeats 1600000 in
theorem back_16 (key f : Nat → Nat) (w : World) (hk : ∀ j, j < 32 → key j < 256) (hf : Byt f) : Calls Try.prog 4 #[.agg (cellsN .u8 32 key), .bool false, .agg (cellsN .u8 16 f)] w fun e w' => e = .returned (.bool true) ∧ Below w.heap.size w w' := by
  have hK0 : Has ((w.alloc (.cells (cellsN .u8 32 key) 34)).alloc (.cells (cellsN .u8 16 f) 23)) w.heap.size 34 (cellsN .u8 32 key) := (Has.new w _ _).alloc _
  have hS0 : Has ((w.alloc (.cells (cellsN .u8 32 key) 34)).alloc (.cells (cellsN .u8 16 f) 23)) (w.heap.size + 1) 23 (cellsN .u8 16 f) := Has.new_at (by simp)
  have hnew := new_16 key w.heap.size 0 32 ((w.alloc (.cells (cellsN .u8 32 key) 34)).alloc (.cells (cellsN .u8 16 f) 23)) (fun j hj => hk j (by omega)) hK0.lt (by omega) (fun j hj => by rw [Nat.zero_add]; exact hK0.num j (by omega))
  have hb0 := two_below w (.cells (cellsN .u8 32 key) 34) (.cells (cellsN .u8 16 f) 23)
  have HC := fun g => cipher_back (flat 4 key 44) 10 (by omega) (flat_lt 4 key (fun j hj => hk j (by omega)) 44) f hf g
  obtain ⟨CC, hCC⟩ : ∃ CC, CC = ccells (flat 4 key 44) 10 IB := ⟨_, rfl⟩
  rw [← hCC] at hnew
  simp only [← hCC] at HC
  clear hCC hK0 hk
  go_enter Try.func4, Try.ntmps4
  go_wp2_with (first
    | (go_at_call 7; refine hnew.mono ?_; rintro e w1 ⟨g, rfl, hg, hC1, hb1⟩; have hS1 := hS0.below hb1 hS0.lt; have hB1 := hb0.trans (hb1.mono hb0.size)))
  obtain ⟨X, Y, he1, hd1, hd2, he2⟩ := HC g
  have HE1 : Hid (∀ w, Has w g 45 CC → Calls Try.prog 11 #[.pointer (some ⟨g, 0, none⟩), .agg (cellsN .u8 16 f)] w fun e w' => e = .returned (.agg (cellsN .u8 16 X)) ∧ Below w.heap.size w w') := he1
  have HD1 : Hid (∀ w, Has w g 45 CC → Calls Try.prog 13 #[.pointer (some ⟨g, 0, none⟩), .agg (cellsN .u8 16 X)] w fun e w' => e = .returned (.agg (cellsN .u8 16 f)) ∧ Below w.heap.size w w') := hd1
  have HD2 : Hid (∀ w, Has w g 45 CC → Calls Try.prog 13 #[.pointer (some ⟨g, 0, none⟩), .agg (cellsN .u8 16 f)] w fun e w' => e = .returned (.agg (cellsN .u8 16 Y)) ∧ Below w.heap.size w w') := hd2
  have HE2 : Hid (∀ w, Has w g 45 CC → Calls Try.prog 11 #[.pointer (some ⟨g, 0, none⟩), .agg (cellsN .u8 16 Y)] w fun e w' => e = .returned (.agg (cellsN .u8 16 f)) ∧ Below w.heap.size w w') := he2
  clear he1 hd1 hd2 he2 HC hnew hS0 hb0 hb1
  have hS0 : Has w1.drew (w.heap.size + 1) 23 (cellsN .u8 16 f) := hS1
  have hCw1 : Has w1.drew g 45 CC := hC1
  have hBw1 : Below w.heap.size w w1.drew := hB1.drew
  refine wp_region_held_drew (S := fun w' => Has w' (w.heap.size + 1) 23 (cellsN .u8 16 f)) (by kernel_rfl) hS0 (fun hHeld => ?_)
  refine callTo 0 (some 17) 10 #[] (by kernel_rfl) rfl rfl (by rfl) (by kernel_rfl) (alive_any _) ?_
  rintro e w2 ⟨rfl, hbw2⟩
  have hSw2 : Has w2 (w.heap.size + 1) 23 (cellsN .u8 16 f) := Has.below hHeld hbw2 (Has.lt hHeld)
  have hCw2 := hCw1.below hbw2 hCw1.lt
  have hBw2 := hBw1.trans (hbw2.mono hBw1.size)
  refine ⟨_, rfl, hSw2, ?_⟩
  clear hHeld
  have hHeld := hSw2
  simp only [Act.put, List.setIfInBounds_toArray, List.set_cons_zero, List.set_cons_succ]
  refine takeTo 1 (some 18) (.bool true) rfl rfl (by kernel_rfl) (by kernel_rfl) (by kernel_rfl) (fun _ _ _ h => h) (by rfl) (fun _ _ => rfl) hHeld ?_
  simp only [Act.put, List.setIfInBounds_toArray, List.set_cons_zero, List.set_cons_succ]
  refine takeTo 2 (some 19) (.pointer (some ⟨g, 0, none⟩)) rfl rfl (by kernel_rfl) (by kernel_rfl) (by kernel_rfl) (fun _ _ _ h => h) (by rfl) (fun _ _ => rfl) hHeld ?_
  simp only [Act.put, List.setIfInBounds_toArray, List.set_cons_zero, List.set_cons_succ]
  refine takeTo 3 (some 20) (.bool true) rfl rfl (by kernel_rfl) (by kernel_rfl) (by kernel_rfl) (fun _ _ _ h => h) (by rfl) (fun _ _ => rfl) hHeld ?_
  simp only [Act.put, List.setIfInBounds_toArray, List.set_cons_zero, List.set_cons_succ]
  refine takeTo 4 (some 21) (.bool true) rfl rfl (by kernel_rfl) (by kernel_rfl) (by kernel_rfl) (fun _ _ _ h => h) (by rfl) (fun _ _ => rfl) hHeld ?_
  simp only [Act.put, List.setIfInBounds_toArray, List.set_cons_zero, List.set_cons_succ]
  refine takeTo 5 (some 22) (.bool true) rfl rfl (by kernel_rfl) (by kernel_rfl) (by kernel_rfl) (fun _ _ _ h => h) (by rfl) (fun _ _ => rfl) hHeld ?_
  simp only [Act.put, List.setIfInBounds_toArray, List.set_cons_zero, List.set_cons_succ]
  refine takeTo 6 (some 23) (.int .i64 0) rfl rfl (by kernel_rfl) (by kernel_rfl) (by kernel_rfl) (fun _ _ _ h => h) (by rfl) (fun _ _ => rfl) hHeld ?_
  simp only [Act.put, List.setIfInBounds_toArray, List.set_cons_zero, List.set_cons_succ]
  refine takeTo 7 (some 24) (.bool true) rfl rfl (by kernel_rfl) (by kernel_rfl) (by kernel_rfl) (fun _ _ _ h => h) (by rfl) (fun _ _ => rfl) hHeld ?_
  simp only [Act.put, List.setIfInBounds_toArray, List.set_cons_zero, List.set_cons_succ]
  refine takeTo 8 (some 25) (.bool true) rfl rfl (by kernel_rfl) (by kernel_rfl) (by kernel_rfl) (fun _ _ _ h => h) (by rfl) (fun _ _ => rfl) hHeld ?_
  simp only [Act.put, List.setIfInBounds_toArray, List.set_cons_zero, List.set_cons_succ]
  refine takeTo 9 (some 26) (.bool true) rfl rfl (by kernel_rfl) (by kernel_rfl) (by kernel_rfl) (fun _ _ _ h => h) (by rfl) (fun _ _ => rfl) hHeld ?_
  simp only [Act.put, List.setIfInBounds_toArray, List.set_cons_zero, List.set_cons_succ]
  refine takeTo 10 (some 27) (.pointer (some ⟨g, 0, none⟩)) rfl rfl (by kernel_rfl) (by kernel_rfl) (by kernel_rfl) (fun _ _ _ h => h) (by rfl) (fun _ _ => rfl) hHeld ?_
  simp only [Act.put, List.setIfInBounds_toArray, List.set_cons_zero, List.set_cons_succ]
  refine takeTo 11 (some 28) (.pointer (some ⟨g, 0, none⟩)) rfl rfl (by kernel_rfl) (by kernel_rfl) (by kernel_rfl) (fun _ _ _ h => h) (by rfl) (fun _ _ => rfl) hHeld ?_
  simp only [Act.put, List.setIfInBounds_toArray, List.set_cons_zero, List.set_cons_succ]
  refine takeTo 12 (some 29) (.agg (cellsN .u8 16 f)) rfl rfl (by kernel_rfl) (by kernel_rfl) (by kernel_rfl) (fun _ _ _ h => h) (by rfl) (fun wz hz => run_load_row 23 _ rfl (w.heap.size + 1) rfl _ 23 Try.underlying23 (by rw [cellsN_size]; exact Try.size23) wz hz) hHeld ?_
  simp only [Act.put, List.setIfInBounds_toArray, List.set_cons_zero, List.set_cons_succ]
  refine takeTo 15 (some 32) (.agg (cellsN .u8 16 f)) rfl rfl (by kernel_rfl) (by kernel_rfl) (by kernel_rfl) (fun _ _ _ h => h) (by rfl) (fun wz hz => run_load_row 23 _ rfl (w.heap.size + 1) rfl _ 23 Try.underlying23 (by rw [cellsN_size]; exact Try.size23) wz hz) hHeld ?_
  simp only [Act.put, List.setIfInBounds_toArray, List.set_cons_zero, List.set_cons_succ]
  refine callTo 13 (some 30) 11 #[.pointer (some ⟨g, 0, none⟩), .agg (cellsN .u8 16 f)] (by kernel_rfl) rfl rfl (by rfl) (by kernel_rfl) (HE1.out _ hCw2) ?_
  rintro e w3 ⟨rfl, hbw3⟩
  have hSw3 : Has w3 (w.heap.size + 1) 23 (cellsN .u8 16 f) := Has.below hHeld hbw3 (Has.lt hHeld)
  have hCw3 := hCw2.below hbw3 hCw2.lt
  have hBw3 := hBw2.trans (hbw3.mono hBw2.size)
  refine ⟨_, rfl, hSw3, ?_⟩
  clear hHeld
  have hHeld := hSw3
  simp only [Act.put, List.setIfInBounds_toArray, List.set_cons_zero, List.set_cons_succ]
  refine callTo 14 (some 31) 13 #[.pointer (some ⟨g, 0, none⟩), .agg (cellsN .u8 16 X)] (by kernel_rfl) rfl rfl (by rfl) (by kernel_rfl) (HD1.out _ hCw3) ?_
  rintro e w4 ⟨rfl, hbw4⟩
  have hSw4 : Has w4 (w.heap.size + 1) 23 (cellsN .u8 16 f) := Has.below hHeld hbw4 (Has.lt hHeld)
  have hCw4 := hCw3.below hbw4 hCw3.lt
  have hBw4 := hBw3.trans (hbw4.mono hBw3.size)
  refine ⟨_, rfl, hSw4, ?_⟩
  clear hHeld
  have hHeld := hSw4
  simp only [Act.put, List.setIfInBounds_toArray, List.set_cons_zero, List.set_cons_succ]
  refine takeTo 16 (some 33) (.bool true) rfl rfl (by kernel_rfl) (by kernel_rfl) (by kernel_rfl) (fun _ _ _ h => h) (by rfl) (fun wz _ => run_eql_true _ _ rfl f rfl rfl hf wz) hHeld ?_
  simp only [Act.put, List.setIfInBounds_toArray, List.set_cons_zero, List.set_cons_succ]
  refine takeTo 17 (some 34) (.bool true) rfl rfl (by kernel_rfl) (by kernel_rfl) (by kernel_rfl) (fun _ _ _ h => h) (by rfl) (fun _ _ => rfl) hHeld ?_
  simp only [Act.put, List.setIfInBounds_toArray, List.set_cons_zero, List.set_cons_succ]
  refine takeTo 18 (some 35) (.bool true) rfl rfl (by kernel_rfl) (by kernel_rfl) (by kernel_rfl) (fun _ _ _ h => h) (by rfl) (fun _ _ => rfl) hHeld ?_
  simp only [Act.put, List.setIfInBounds_toArray, List.set_cons_zero, List.set_cons_succ]
  refine takeTo 19 (some 36) (.pointer (some ⟨g, 0, none⟩)) rfl rfl (by kernel_rfl) (by kernel_rfl) (by kernel_rfl) (fun _ _ _ h => h) (by rfl) (fun _ _ => rfl) hHeld ?_
  simp only [Act.put, List.setIfInBounds_toArray, List.set_cons_zero, List.set_cons_succ]
  refine takeTo 20 (some 37) (.pointer (some ⟨g, 0, none⟩)) rfl rfl (by kernel_rfl) (by kernel_rfl) (by kernel_rfl) (fun _ _ _ h => h) (by rfl) (fun _ _ => rfl) hHeld ?_
  simp only [Act.put, List.setIfInBounds_toArray, List.set_cons_zero, List.set_cons_succ]
  refine takeTo 21 (some 38) (.agg (cellsN .u8 16 f)) rfl rfl (by kernel_rfl) (by kernel_rfl) (by kernel_rfl) (fun _ _ _ h => h) (by rfl) (fun wz hz => run_load_row 23 _ rfl (w.heap.size + 1) rfl _ 23 Try.underlying23 (by rw [cellsN_size]; exact Try.size23) wz hz) hHeld ?_
  simp only [Act.put, List.setIfInBounds_toArray, List.set_cons_zero, List.set_cons_succ]
  refine takeTo 24 (some 41) (.agg (cellsN .u8 16 f)) rfl rfl (by kernel_rfl) (by kernel_rfl) (by kernel_rfl) (fun _ _ _ h => h) (by rfl) (fun wz hz => run_load_row 23 _ rfl (w.heap.size + 1) rfl _ 23 Try.underlying23 (by rw [cellsN_size]; exact Try.size23) wz hz) hHeld ?_
  simp only [Act.put, List.setIfInBounds_toArray, List.set_cons_zero, List.set_cons_succ]
  refine callTo 22 (some 39) 13 #[.pointer (some ⟨g, 0, none⟩), .agg (cellsN .u8 16 f)] (by kernel_rfl) rfl rfl (by rfl) (by kernel_rfl) (HD2.out _ hCw4) ?_
  rintro e w5 ⟨rfl, hbw5⟩
  have hSw5 : Has w5 (w.heap.size + 1) 23 (cellsN .u8 16 f) := Has.below hHeld hbw5 (Has.lt hHeld)
  have hCw5 := hCw4.below hbw5 hCw4.lt
  have hBw5 := hBw4.trans (hbw5.mono hBw4.size)
  refine ⟨_, rfl, hSw5, ?_⟩
  clear hHeld
  have hHeld := hSw5
  simp only [Act.put, List.setIfInBounds_toArray, List.set_cons_zero, List.set_cons_succ]
  refine callTo 23 (some 40) 11 #[.pointer (some ⟨g, 0, none⟩), .agg (cellsN .u8 16 Y)] (by kernel_rfl) rfl rfl (by rfl) (by kernel_rfl) (HE2.out _ hCw5) ?_
  rintro e w6 ⟨rfl, hbw6⟩
  have hSw6 : Has w6 (w.heap.size + 1) 23 (cellsN .u8 16 f) := Has.below hHeld hbw6 (Has.lt hHeld)
  have hCw6 := hCw5.below hbw6 hCw5.lt
  have hBw6 := hBw5.trans (hbw6.mono hBw5.size)
  refine ⟨_, rfl, hSw6, ?_⟩
  clear hHeld
  have hHeld := hSw6
  simp only [Act.put, List.setIfInBounds_toArray, List.set_cons_zero, List.set_cons_succ]
  refine takeTo 25 (some 42) (.bool true) rfl rfl (by kernel_rfl) (by kernel_rfl) (by kernel_rfl) (fun _ _ _ h => h) (by rfl) (fun wz _ => run_eql_true _ _ rfl f rfl rfl hf wz) hHeld ?_
  simp only [Act.put, List.setIfInBounds_toArray, List.set_cons_zero, List.set_cons_succ]
  refine takeTo 26 (some 43) (.bool true) rfl rfl (by kernel_rfl) (by kernel_rfl) (by kernel_rfl) (fun _ _ _ h => h) (by rfl) (fun _ _ => rfl) hHeld ?_
  simp only [Act.put, List.setIfInBounds_toArray, List.set_cons_zero, List.set_cons_succ]
  refine takeTo 27 (some 6) (.bool true) rfl rfl (by kernel_rfl) (by kernel_rfl) (by kernel_rfl) (fun _ _ _ h => h) (by rfl) (fun _ _ => rfl) hHeld ?_
  simp only [Act.put, List.setIfInBounds_toArray, List.set_cons_zero, List.set_cons_succ]
  refine wpAnyH_done (by kernel_rfl) ?_ _
  go_wp2
  go_ret
  exact ⟨rfl, hBw6⟩

set_option maxRecDepth 100000 in
set_option maxHeartbeats 1600000 in
theorem back_32 (key f : Nat → Nat) (w : World) (hk : ∀ j, j < 32 → key j < 256) (hf : Byt f) : Calls Try.prog 4 #[.agg (cellsN .u8 32 key), .bool true, .agg (cellsN .u8 16 f)] w fun e w' => e = .returned (.bool true) ∧ Below w.heap.size w w' := by
  have hK0 : Has ((w.alloc (.cells (cellsN .u8 32 key) 34)).alloc (.cells (cellsN .u8 16 f) 23)) w.heap.size 34 (cellsN .u8 32 key) := (Has.new w _ _).alloc _
  have hS0 : Has ((w.alloc (.cells (cellsN .u8 32 key) 34)).alloc (.cells (cellsN .u8 16 f) 23)) (w.heap.size + 1) 23 (cellsN .u8 16 f) := Has.new_at (by simp)
  have hnew := new_32 key w.heap.size 0 32 ((w.alloc (.cells (cellsN .u8 32 key) 34)).alloc (.cells (cellsN .u8 16 f) 23)) (fun j hj => hk j (by omega)) hK0.lt (by omega) (fun j hj => by rw [Nat.zero_add]; exact hK0.num j (by omega))
  have hb0 := two_below w (.cells (cellsN .u8 32 key) 34) (.cells (cellsN .u8 16 f) 23)
  have HC := fun g => cipher_back (flat 8 key 60) 14 (by omega) (flat_lt 8 key (fun j hj => hk j (by omega)) 60) f hf g
  obtain ⟨CC, hCC⟩ : ∃ CC, CC = ccells (flat 8 key 60) 14 IB := ⟨_, rfl⟩
  rw [← hCC] at hnew
  simp only [← hCC] at HC
  clear hCC hK0 hk
  go_enter Try.func4, Try.ntmps4
  go_wp2_with (first
    | (go_at_call 7; refine hnew.mono ?_; rintro e w1 ⟨g, rfl, hg, hC1, hb1⟩; have hS1 := hS0.below hb1 hS0.lt; have hB1 := hb0.trans (hb1.mono hb0.size)))
  obtain ⟨X, Y, he1, hd1, hd2, he2⟩ := HC g
  have HE1 : Hid (∀ w, Has w g 45 CC → Calls Try.prog 11 #[.pointer (some ⟨g, 0, none⟩), .agg (cellsN .u8 16 f)] w fun e w' => e = .returned (.agg (cellsN .u8 16 X)) ∧ Below w.heap.size w w') := he1
  have HD1 : Hid (∀ w, Has w g 45 CC → Calls Try.prog 13 #[.pointer (some ⟨g, 0, none⟩), .agg (cellsN .u8 16 X)] w fun e w' => e = .returned (.agg (cellsN .u8 16 f)) ∧ Below w.heap.size w w') := hd1
  have HD2 : Hid (∀ w, Has w g 45 CC → Calls Try.prog 13 #[.pointer (some ⟨g, 0, none⟩), .agg (cellsN .u8 16 f)] w fun e w' => e = .returned (.agg (cellsN .u8 16 Y)) ∧ Below w.heap.size w w') := hd2
  have HE2 : Hid (∀ w, Has w g 45 CC → Calls Try.prog 11 #[.pointer (some ⟨g, 0, none⟩), .agg (cellsN .u8 16 Y)] w fun e w' => e = .returned (.agg (cellsN .u8 16 f)) ∧ Below w.heap.size w w') := he2
  clear he1 hd1 hd2 he2 HC hnew hS0 hb0 hb1
  have hS0 : Has w1.drew (w.heap.size + 1) 23 (cellsN .u8 16 f) := hS1
  have hCw1 : Has w1.drew g 45 CC := hC1
  have hBw1 : Below w.heap.size w w1.drew := hB1.drew
  refine wp_region_held_drew (S := fun w' => Has w' (w.heap.size + 1) 23 (cellsN .u8 16 f)) (by kernel_rfl) hS0 (fun hHeld => ?_)
  refine callTo 0 (some 17) 10 #[] (by kernel_rfl) rfl rfl (by rfl) (by kernel_rfl) (alive_any _) ?_
  rintro e w2 ⟨rfl, hbw2⟩
  have hSw2 : Has w2 (w.heap.size + 1) 23 (cellsN .u8 16 f) := Has.below hHeld hbw2 (Has.lt hHeld)
  have hCw2 := hCw1.below hbw2 hCw1.lt
  have hBw2 := hBw1.trans (hbw2.mono hBw1.size)
  refine ⟨_, rfl, hSw2, ?_⟩
  clear hHeld
  have hHeld := hSw2
  simp only [Act.put, List.setIfInBounds_toArray, List.set_cons_zero, List.set_cons_succ]
  refine takeTo 1 (some 18) (.bool true) rfl rfl (by kernel_rfl) (by kernel_rfl) (by kernel_rfl) (fun _ _ _ h => h) (by rfl) (fun _ _ => rfl) hHeld ?_
  simp only [Act.put, List.setIfInBounds_toArray, List.set_cons_zero, List.set_cons_succ]
  refine takeTo 2 (some 19) (.pointer (some ⟨g, 0, none⟩)) rfl rfl (by kernel_rfl) (by kernel_rfl) (by kernel_rfl) (fun _ _ _ h => h) (by rfl) (fun _ _ => rfl) hHeld ?_
  simp only [Act.put, List.setIfInBounds_toArray, List.set_cons_zero, List.set_cons_succ]
  refine takeTo 3 (some 20) (.bool true) rfl rfl (by kernel_rfl) (by kernel_rfl) (by kernel_rfl) (fun _ _ _ h => h) (by rfl) (fun _ _ => rfl) hHeld ?_
  simp only [Act.put, List.setIfInBounds_toArray, List.set_cons_zero, List.set_cons_succ]
  refine takeTo 4 (some 21) (.bool true) rfl rfl (by kernel_rfl) (by kernel_rfl) (by kernel_rfl) (fun _ _ _ h => h) (by rfl) (fun _ _ => rfl) hHeld ?_
  simp only [Act.put, List.setIfInBounds_toArray, List.set_cons_zero, List.set_cons_succ]
  refine takeTo 5 (some 22) (.bool true) rfl rfl (by kernel_rfl) (by kernel_rfl) (by kernel_rfl) (fun _ _ _ h => h) (by rfl) (fun _ _ => rfl) hHeld ?_
  simp only [Act.put, List.setIfInBounds_toArray, List.set_cons_zero, List.set_cons_succ]
  refine takeTo 6 (some 23) (.int .i64 0) rfl rfl (by kernel_rfl) (by kernel_rfl) (by kernel_rfl) (fun _ _ _ h => h) (by rfl) (fun _ _ => rfl) hHeld ?_
  simp only [Act.put, List.setIfInBounds_toArray, List.set_cons_zero, List.set_cons_succ]
  refine takeTo 7 (some 24) (.bool true) rfl rfl (by kernel_rfl) (by kernel_rfl) (by kernel_rfl) (fun _ _ _ h => h) (by rfl) (fun _ _ => rfl) hHeld ?_
  simp only [Act.put, List.setIfInBounds_toArray, List.set_cons_zero, List.set_cons_succ]
  refine takeTo 8 (some 25) (.bool true) rfl rfl (by kernel_rfl) (by kernel_rfl) (by kernel_rfl) (fun _ _ _ h => h) (by rfl) (fun _ _ => rfl) hHeld ?_
  simp only [Act.put, List.setIfInBounds_toArray, List.set_cons_zero, List.set_cons_succ]
  refine takeTo 9 (some 26) (.bool true) rfl rfl (by kernel_rfl) (by kernel_rfl) (by kernel_rfl) (fun _ _ _ h => h) (by rfl) (fun _ _ => rfl) hHeld ?_
  simp only [Act.put, List.setIfInBounds_toArray, List.set_cons_zero, List.set_cons_succ]
  refine takeTo 10 (some 27) (.pointer (some ⟨g, 0, none⟩)) rfl rfl (by kernel_rfl) (by kernel_rfl) (by kernel_rfl) (fun _ _ _ h => h) (by rfl) (fun _ _ => rfl) hHeld ?_
  simp only [Act.put, List.setIfInBounds_toArray, List.set_cons_zero, List.set_cons_succ]
  refine takeTo 11 (some 28) (.pointer (some ⟨g, 0, none⟩)) rfl rfl (by kernel_rfl) (by kernel_rfl) (by kernel_rfl) (fun _ _ _ h => h) (by rfl) (fun _ _ => rfl) hHeld ?_
  simp only [Act.put, List.setIfInBounds_toArray, List.set_cons_zero, List.set_cons_succ]
  refine takeTo 12 (some 29) (.agg (cellsN .u8 16 f)) rfl rfl (by kernel_rfl) (by kernel_rfl) (by kernel_rfl) (fun _ _ _ h => h) (by rfl) (fun wz hz => run_load_row 23 _ rfl (w.heap.size + 1) rfl _ 23 Try.underlying23 (by rw [cellsN_size]; exact Try.size23) wz hz) hHeld ?_
  simp only [Act.put, List.setIfInBounds_toArray, List.set_cons_zero, List.set_cons_succ]
  refine takeTo 15 (some 32) (.agg (cellsN .u8 16 f)) rfl rfl (by kernel_rfl) (by kernel_rfl) (by kernel_rfl) (fun _ _ _ h => h) (by rfl) (fun wz hz => run_load_row 23 _ rfl (w.heap.size + 1) rfl _ 23 Try.underlying23 (by rw [cellsN_size]; exact Try.size23) wz hz) hHeld ?_
  simp only [Act.put, List.setIfInBounds_toArray, List.set_cons_zero, List.set_cons_succ]
  refine callTo 13 (some 30) 11 #[.pointer (some ⟨g, 0, none⟩), .agg (cellsN .u8 16 f)] (by kernel_rfl) rfl rfl (by rfl) (by kernel_rfl) (HE1.out _ hCw2) ?_
  rintro e w3 ⟨rfl, hbw3⟩
  have hSw3 : Has w3 (w.heap.size + 1) 23 (cellsN .u8 16 f) := Has.below hHeld hbw3 (Has.lt hHeld)
  have hCw3 := hCw2.below hbw3 hCw2.lt
  have hBw3 := hBw2.trans (hbw3.mono hBw2.size)
  refine ⟨_, rfl, hSw3, ?_⟩
  clear hHeld
  have hHeld := hSw3
  simp only [Act.put, List.setIfInBounds_toArray, List.set_cons_zero, List.set_cons_succ]
  refine callTo 14 (some 31) 13 #[.pointer (some ⟨g, 0, none⟩), .agg (cellsN .u8 16 X)] (by kernel_rfl) rfl rfl (by rfl) (by kernel_rfl) (HD1.out _ hCw3) ?_
  rintro e w4 ⟨rfl, hbw4⟩
  have hSw4 : Has w4 (w.heap.size + 1) 23 (cellsN .u8 16 f) := Has.below hHeld hbw4 (Has.lt hHeld)
  have hCw4 := hCw3.below hbw4 hCw3.lt
  have hBw4 := hBw3.trans (hbw4.mono hBw3.size)
  refine ⟨_, rfl, hSw4, ?_⟩
  clear hHeld
  have hHeld := hSw4
  simp only [Act.put, List.setIfInBounds_toArray, List.set_cons_zero, List.set_cons_succ]
  refine takeTo 16 (some 33) (.bool true) rfl rfl (by kernel_rfl) (by kernel_rfl) (by kernel_rfl) (fun _ _ _ h => h) (by rfl) (fun wz _ => run_eql_true _ _ rfl f rfl rfl hf wz) hHeld ?_
  simp only [Act.put, List.setIfInBounds_toArray, List.set_cons_zero, List.set_cons_succ]
  refine takeTo 17 (some 34) (.bool true) rfl rfl (by kernel_rfl) (by kernel_rfl) (by kernel_rfl) (fun _ _ _ h => h) (by rfl) (fun _ _ => rfl) hHeld ?_
  simp only [Act.put, List.setIfInBounds_toArray, List.set_cons_zero, List.set_cons_succ]
  refine takeTo 18 (some 35) (.bool true) rfl rfl (by kernel_rfl) (by kernel_rfl) (by kernel_rfl) (fun _ _ _ h => h) (by rfl) (fun _ _ => rfl) hHeld ?_
  simp only [Act.put, List.setIfInBounds_toArray, List.set_cons_zero, List.set_cons_succ]
  refine takeTo 19 (some 36) (.pointer (some ⟨g, 0, none⟩)) rfl rfl (by kernel_rfl) (by kernel_rfl) (by kernel_rfl) (fun _ _ _ h => h) (by rfl) (fun _ _ => rfl) hHeld ?_
  simp only [Act.put, List.setIfInBounds_toArray, List.set_cons_zero, List.set_cons_succ]
  refine takeTo 20 (some 37) (.pointer (some ⟨g, 0, none⟩)) rfl rfl (by kernel_rfl) (by kernel_rfl) (by kernel_rfl) (fun _ _ _ h => h) (by rfl) (fun _ _ => rfl) hHeld ?_
  simp only [Act.put, List.setIfInBounds_toArray, List.set_cons_zero, List.set_cons_succ]
  refine takeTo 21 (some 38) (.agg (cellsN .u8 16 f)) rfl rfl (by kernel_rfl) (by kernel_rfl) (by kernel_rfl) (fun _ _ _ h => h) (by rfl) (fun wz hz => run_load_row 23 _ rfl (w.heap.size + 1) rfl _ 23 Try.underlying23 (by rw [cellsN_size]; exact Try.size23) wz hz) hHeld ?_
  simp only [Act.put, List.setIfInBounds_toArray, List.set_cons_zero, List.set_cons_succ]
  refine takeTo 24 (some 41) (.agg (cellsN .u8 16 f)) rfl rfl (by kernel_rfl) (by kernel_rfl) (by kernel_rfl) (fun _ _ _ h => h) (by rfl) (fun wz hz => run_load_row 23 _ rfl (w.heap.size + 1) rfl _ 23 Try.underlying23 (by rw [cellsN_size]; exact Try.size23) wz hz) hHeld ?_
  simp only [Act.put, List.setIfInBounds_toArray, List.set_cons_zero, List.set_cons_succ]
  refine callTo 22 (some 39) 13 #[.pointer (some ⟨g, 0, none⟩), .agg (cellsN .u8 16 f)] (by kernel_rfl) rfl rfl (by rfl) (by kernel_rfl) (HD2.out _ hCw4) ?_
  rintro e w5 ⟨rfl, hbw5⟩
  have hSw5 : Has w5 (w.heap.size + 1) 23 (cellsN .u8 16 f) := Has.below hHeld hbw5 (Has.lt hHeld)
  have hCw5 := hCw4.below hbw5 hCw4.lt
  have hBw5 := hBw4.trans (hbw5.mono hBw4.size)
  refine ⟨_, rfl, hSw5, ?_⟩
  clear hHeld
  have hHeld := hSw5
  simp only [Act.put, List.setIfInBounds_toArray, List.set_cons_zero, List.set_cons_succ]
  refine callTo 23 (some 40) 11 #[.pointer (some ⟨g, 0, none⟩), .agg (cellsN .u8 16 Y)] (by kernel_rfl) rfl rfl (by rfl) (by kernel_rfl) (HE2.out _ hCw5) ?_
  rintro e w6 ⟨rfl, hbw6⟩
  have hSw6 : Has w6 (w.heap.size + 1) 23 (cellsN .u8 16 f) := Has.below hHeld hbw6 (Has.lt hHeld)
  have hCw6 := hCw5.below hbw6 hCw5.lt
  have hBw6 := hBw5.trans (hbw6.mono hBw5.size)
  refine ⟨_, rfl, hSw6, ?_⟩
  clear hHeld
  have hHeld := hSw6
  simp only [Act.put, List.setIfInBounds_toArray, List.set_cons_zero, List.set_cons_succ]
  refine takeTo 25 (some 42) (.bool true) rfl rfl (by kernel_rfl) (by kernel_rfl) (by kernel_rfl) (fun _ _ _ h => h) (by rfl) (fun wz _ => run_eql_true _ _ rfl f rfl rfl hf wz) hHeld ?_
  simp only [Act.put, List.setIfInBounds_toArray, List.set_cons_zero, List.set_cons_succ]
  refine takeTo 26 (some 43) (.bool true) rfl rfl (by kernel_rfl) (by kernel_rfl) (by kernel_rfl) (fun _ _ _ h => h) (by rfl) (fun _ _ => rfl) hHeld ?_
  simp only [Act.put, List.setIfInBounds_toArray, List.set_cons_zero, List.set_cons_succ]
  refine takeTo 27 (some 6) (.bool true) rfl rfl (by kernel_rfl) (by kernel_rfl) (by kernel_rfl) (fun _ _ _ h => h) (by rfl) (fun _ _ => rfl) hHeld ?_
  simp only [Act.put, List.setIfInBounds_toArray, List.set_cons_zero, List.set_cons_succ]
  refine wpAnyH_done (by kernel_rfl) ?_ _
  go_wp2
  go_ret
  exact ⟨rfl, hBw6⟩

theorem back_walk (key : Nat → Nat) (long : Bool) (f : Nat → Nat) (w : World) (hk : ∀ j, j < 32 → key j < 256) (hf : ∀ j, j < 16 → f j < 256) : Calls Try.prog 4 #[.agg (cellsN .u8 32 key), .bool long, .agg (cellsN .u8 16 f)] w fun e w' => e = .returned (.bool true) ∧ Below w.heap.size w w' := by
  cases long
  · exact back_16 key f w hk hf
  · exact back_32 key f w hk hf
end Go.Proofs.Ytjpolcobplpdeaa
