/- The reference's Ungroup. -/
import Derived.Test.YtbiicdehgogikaaCdRUngM
namespace Go.Proofs.Ytbiicdehgogikaa
open Go.ChangeShapes Go.WideShapes Go.ChangeAt Go.RowKit
set_option linter.unusedVariables false

/-- The last one of a region, where it yields. -/
theorem lastVal {P : Program} {ops : Array Oper} {Q : Exit → Act → World → Prop} {md : Region.Mode} {S : World → Prop} {oi : Oper} (m : Nat) (d : Option Tmp) (v : Value) {n : Nat} {listed : Array Bool} {a : Act} {w : World} (hr : Region.ready md ops listed = [m])
    (hi : ops[m]? = some oi) (hd : oi.dst = d) (hw : Region.wanted oi (yielded ops a.tmps) = true)
    (hrun : (execOp a.eval oi).run P w = .ok (.value v) w) (he : Region.ready md ops (listed.setIfInBounds m true) = [])
    (h : Q .normal (a.put d v) w) : AnyL P md ops Q S m (n + 1) listed a w := by
  subst hd
  refine ⟨fun h0 => absurd (hr ▸ h0) (by simp), fun j hj => ?_⟩
  obtain rfl : j = m := by rw [hr] at hj; simpa using hj
  refine wpOp_step hi (fun K hK => ?_)
  rw [if_pos hw]
  unfold Oper.wp
  rw [hrun]
  refine hK _ _ ⟨fun h => absurd rfl h, ?_⟩
  cases n with
  | zero => exact ⟨he, h⟩
  | succ n => exact ⟨fun _ => h, by rw [he]; simp⟩

theorem run_at_b {o : Oper} {a : Act} (x i : Operand) (ho : o.op = .indexAddr 23 x i) (g off k n cap : Nat) (hx : a.eval x = .slice (some ⟨g, off, none⟩) n cap) (hi : a.eval i = .int .i64 (k : Nat)) (hk : k < n) (w : World) : (execOp a.eval o).run Try.prog w = .ok (.value (.pointer (some ⟨g, off + k, none⟩))) w :=
  run_at_slice 23 x i ho g off k n cap 5 hx hi Try.underlying23 (by kernel_rfl) hk w

theorem run_load_u8 {o : Oper} {a : Act} (x : Operand) (ho : o.op = .load 5 x) (p : Addr) (hx : a.eval x = .pointer (some p)) (v : Value) (w : World) (h : w.cell? p = some v) : (execOp a.eval o).run Try.prog w = .ok (.value v) w := by
  unfold execOp
  simp only [ho, hx]
  go_simp

theorem run_conv53 {o : Oper} {a : Act} (x : Operand) (ho : o.op = .convert 5 3 x) (n : Nat) (hx : a.eval x = .int .u8 (n : Nat)) (h : n < 256) (w : World) : (execOp a.eval o).run Try.prog w = .ok (.value (.int .i64 (n : Nat))) w := by
  have h1 : (0 : Int) ≤ (n : Int) := by omega
  have h2 : (n : Int) < 256 := by omega
  generalize (n : Int) = y at hx h1 h2 ⊢
  unfold execOp
  simp only [ho, hx]
  go_simp
  exact IntWalk.i64_in _ ⟨by omega, by omega⟩

theorem run_conv473 {o : Oper} {a : Act} (x : Operand) (ho : o.op = .convert 47 3 x) (n : Nat) (hx : a.eval x = .int .u64 (n : Nat)) (h : n < 2048) (w : World) : (execOp a.eval o).run Try.prog w = .ok (.value (.int .i64 (n : Nat))) w := by
  have h1 : (0 : Int) ≤ (n : Int) := by omega
  have h2 : (n : Int) < 2048 := by omega
  generalize (n : Int) = y at hx h1 h2 ⊢
  unfold execOp
  simp only [ho, hx]
  go_simp
  exact IntWalk.i64_in _ ⟨by omega, by omega⟩

theorem run_addn {o : Oper} {a : Act} (x : Operand) {m : Int} (ho : o.op = .binOp .add 3 x (.const (.int .i64 m)) 3) (p q : Nat) (hx : a.eval x = .int .i64 (p : Nat)) (h : m = (q : Int) ∧ p + q ≤ 9223372036854775807) (w : World) : (execOp a.eval o).run Try.prog w = .ok (.value (.int .i64 ((p + q : Nat) : Int))) w := by
  obtain ⟨rfl, h⟩ := h
  have h1 : (0 : Int) ≤ (p : Int) := by omega
  have h2 : (0 : Int) ≤ (q : Int) := by omega
  have h3 : (p : Int) + (q : Int) ≤ 9223372036854775807 := by omega
  rw [Int.natCast_add]
  generalize (p : Int) = y at hx h1 h3 ⊢
  generalize (q : Int) = z at ho h2 h3 ⊢
  unfold execOp
  simp only [ho, hx]
  go_simp
  exact IntWalk.i64_in _ ⟨by omega, by omega⟩

theorem own_belowG {w w' : World} {b e sz n : Nat} {v : Value} {xs : List Value} (h : w.ownsRow b e sz v n xs) (hb : Below w.heap.size w w') : w'.ownsRow b e sz v n xs := by
  refine ⟨h.1, ?_⟩
  rcases h.2 with h0 | ⟨g, cap, cur, hv, h1, hg, r⟩
  · exact .inl h0
  · exact .inr ⟨g, cap, cur, hv, h1, (hb.block g (Array.getElem?_eq_some_iff.1 hg).1).trans hg, r⟩

/-- What the reference's Ungroup leaves. -/
def RungR (w : World) (L : Nat) (B : Nat → Nat) (e : Ending) (w' : World) : Prop := Below w.heap.size w w' ∧ ((okU L B ∧ ∃ A Cc a cap, e = .returned (.tuple #[.slice a (uN B) cap, .int .i64 0]) ∧ Wl w' a (uN B) (uV B A Cc)) ∨ (¬ okU L B ∧ e = .returned (.tuple #[.slice none 0 0, .int .i64 81])))

theorem ok_count {L k : Nat} {B : Nat → Nat} (h : okU L B) (h1 : k = 0 ∨ 2 + 69 * k ≤ L) (h2 : k ≤ 101) (h3 : L < 2 + 69 * k + 69 ∨ k = 101) : k = uN B := by
  obtain ⟨_, h4, h5, _⟩ := h
  omega

set_option maxRecDepth 100000 in
set_option maxHeartbeats 4000000 in
theorem rungroup_any (L C : Nat) (B : Nat → Nat) (a : Option Addr) (w : World) (h : ByIn w a L C B) :
    Calls Try.prog 12 #[.slice a L C] w (RungR w L B) := by
  go_enter Try.func12, Try.ntmps12
  go_wp2
  go_loopw [4, 5] (fun v iv wr => ∃ k T : Nat, T = 2 + 69 * k ∧ iv = .int .i64 (T : Nat) ∧ RInv w L B k v wr)
    (fun _ iv _ => L + 200 - (intOf iv).toNat)
  case atStart => exact ⟨0, 2, rfl, rfl, fun _ => none, fun _ => 0, ⟨rfl, .inl ⟨rfl, rfl⟩⟩, fun i hi => by omega, Below.refl _ _, fun i hi => by omega, .inl rfl, by omega⟩
  case round =>
    obtain ⟨k, T, hT, rfl, hinv⟩ := hrel
    have HT : Hid (T = 2 + 69 * k) := hT
    have hT0 : 2 ≤ T := by omega
    obtain ⟨A, Cc, hown, hdat, hbel, hsec, hle, hk⟩ := hinv
    have hinv' : RInv w L B k _ wr := ⟨A, Cc, hown, hdat, hbel, hsec, hle, hk⟩
    obtain ⟨va, vc, rfl, hvc⟩ : ∃ va vc, u4 = .slice va k vc ∧ k ≤ vc := by
      rcases hown.2 with ⟨e1, e2⟩ | ⟨g, cap, cur, e1, _, _, e3, _⟩
      · exact ⟨none, 0, by rw [e1, e2], by omega⟩
      · exact ⟨_, cap, e1, e3⟩
    by_cases hgo : T + 69 ≤ L ∧ k < 101
    · obtain ⟨hg1, hg2⟩ := hgo
      have j1 : (T : Int) + 69 ≤ (L : Int) := by omega
      have j2 : (k : Int) < 101 := by omega
      have j3 : (T : Int) ≤ 6971 := by omega
      obtain ⟨bb, off, rfl, hbb0, hcl0⟩ := h.at_.resolve_left (by omega)
      obtain ⟨v, hv⟩ : ∃ v, v = Value.slice va k vc := ⟨_, rfl⟩
      have hbblt := Nat.lt_of_lt_of_le hbb0 hbel.size
      have hcel0 : w.cell? ⟨bb, off + T, none⟩ = some (.int .u8 (uD B k : Nat)) := by rw [hcl0 T (by omega), uD_eq, hT]
      have hHeld0 : wr.cell? ⟨bb, off + T, none⟩ = some (.int .u8 (uD B k : Nat)) := (hbel.cell hbb0).trans hcel0
      have hcl1 := h.le
      have hbr := h.at_.below hbel (Nat.le_refl _)
      have hs4 : Bytes wr (some (if C = T + 1 then (⟨bb, off, none⟩ : Addr) else ⟨bb, off + (T + 1), none⟩)) 4 (fun j => B (2 + 69 * k + 1 + j)) := by
        have := hbr.cut (T + 1) 4 (by omega) h.le
        rw [hT] at this
        rw [hT]
        exact this
      have HG : Calls Try.prog 30 #[.slice (some (if C = T + 1 then (⟨bb, off, none⟩ : Addr) else ⟨bb, off + (T + 1), none⟩)) 4 (C - (T + 1))] wr fun e w' => e = .returned (.tuple #[.int .u64 (uS B k : Nat), .int .i64 0]) ∧ w' = wr := rget_s 4 _ (by decide) (by decide) hs4 (fun j => h.byt _)
      obtain ⟨X28, hX28⟩ : ∃ X : Addr, X = if C = T + 1 then (⟨bb, off, none⟩ : Addr) else ⟨bb, off + (T + 1), none⟩ := ⟨_, rfl⟩
      have HX28 : Hid (X28 = if C = T + 1 then (⟨bb, off, none⟩ : Addr) else ⟨bb, off + (T + 1), none⟩) := hX28
      rw [← hX28] at HG
      clear hs4 hX28 hT
      by_cases hS : uS B k < 2048
      · have hSi : ((uS B k : Nat) : Int) < 2048 := by omega
        have hS0 : (0 : Int) ≤ ((uS B k : Nat) : Int) := by omega
        go_wp2_with (first
          | ((go_at_call 30)
             (refine HG.mono ?_)
             (rintro e wz ⟨rfl, hz⟩)
             (obtain rfl : wr = wz := hz.symm)
             (clear HG))
          | ((refine at_dst 28 rfl ?_)
             (refine wpList_is (some 28) (.slice (some X28) 4 (C - (T + 1))) rfl rfl (by (rw [HX28.out]; exact run_slice_len _ _ _ rfl bb off L C (T + 1) 4 rfl rfl rfl (by omega) _)) ?_)))
        have hDr : Below wr.heap.size wr wr.drew := (Below.refl _ wr).drew
        have hT2 := HT.out
        obtain ⟨X48, hX48⟩ : ∃ X : Addr, X = if C = T + 5 then (⟨bb, off, none⟩ : Addr) else ⟨bb, off + (T + 5), none⟩ := ⟨_, rfl⟩
        have hcut : Bytes wr.drew (some X48) 64 (fun j => B (T + 5 + j)) := by
          rw [hX48]
          exact (hbr.cut (T + 5) 64 (by omega) h.le).below hDr (Nat.le_refl _)
        have HX : Hid (X48 = if C = T + 5 then (⟨bb, off, none⟩ : Addr) else ⟨bb, off + (T + 5), none⟩) := hX48
        have hD256 : uD B k < 256 := by rw [uD_eq]; exact h.byt _
        rw [← hv] at hown ⊢
        clear hX48 hinv'
        refine lastTo (S := fun wz => wz.cell? ⟨bb, off + T, none⟩ = some (.int .u8 (uD B k : Nat))) 19 (by kernel_rfl) hHeld0 (fun hHeld => ?_)
        refine takeL 0 (some 34) (v) rfl rfl (by decide) (by kernel_rfl) (by kernel_rfl) (by kernel_rfl) (by kernel_rfl) (fun _ _ _ h => h) (by rfl) (fun _ _ => rfl) hHeld ?_
        simp only [Act.put, List.setIfInBounds_toArray, List.set_cons_zero, List.set_cons_succ]
        refine takeL 1 (some 35) (.slice (some ⟨bb, off, none⟩) L C) rfl rfl (by decide) (by kernel_rfl) (by kernel_rfl) (by kernel_rfl) (by kernel_rfl) (fun _ _ _ h => h) (by rfl) (fun _ _ => rfl) hHeld ?_
        simp only [Act.put, List.setIfInBounds_toArray, List.set_cons_zero, List.set_cons_succ]
        refine takeL 2 (some 36) (.int .i64 (T : Nat)) rfl rfl (by decide) (by kernel_rfl) (by kernel_rfl) (by kernel_rfl) (by kernel_rfl) (fun _ _ _ h => h) (by rfl) (fun _ _ => rfl) hHeld ?_
        simp only [Act.put, List.setIfInBounds_toArray, List.set_cons_zero, List.set_cons_succ]
        refine takeL 3 (some 37) (.pointer (some ⟨bb, off + T, none⟩)) rfl rfl (by decide) (by kernel_rfl) (by kernel_rfl) (by kernel_rfl) (by kernel_rfl) (fun _ _ _ h => h) (by rfl) (fun wz _ => run_at_b _ _ rfl bb off T L C rfl rfl (by omega) wz) hHeld ?_
        simp only [Act.put, List.setIfInBounds_toArray, List.set_cons_zero, List.set_cons_succ]
        refine takeL 4 (some 38) (.int .u8 (uD B k : Nat)) rfl rfl (by decide) (by kernel_rfl) (by kernel_rfl) (by kernel_rfl) (by kernel_rfl) (fun _ _ _ h => h) (by rfl) (fun wz hz => run_load_u8 _ rfl _ rfl _ wz hz) hHeld ?_
        simp only [Act.put, List.setIfInBounds_toArray, List.set_cons_zero, List.set_cons_succ]
        refine takeL 5 (some 39) (.int .i64 (uD B k : Nat)) rfl rfl (by decide) (by kernel_rfl) (by kernel_rfl) (by kernel_rfl) (by kernel_rfl) (fun _ _ _ h => h) (by rfl) (fun wz _ => run_conv53 _ rfl _ rfl (by omega) wz) hHeld ?_
        simp only [Act.put, List.setIfInBounds_toArray, List.set_cons_zero, List.set_cons_succ]
        refine takeL 6 (some 40) (.int .u64 (uS B k : Nat)) rfl rfl (by decide) (by kernel_rfl) (by kernel_rfl) (by kernel_rfl) (by kernel_rfl) (fun _ _ _ h => h) (by rfl) (fun _ _ => rfl) hHeld ?_
        simp only [Act.put, List.setIfInBounds_toArray, List.set_cons_zero, List.set_cons_succ]
        refine takeL 7 (some 41) (.int .i64 (uS B k : Nat)) rfl rfl (by decide) (by kernel_rfl) (by kernel_rfl) (by kernel_rfl) (by kernel_rfl) (fun _ _ _ h => h) (by rfl) (fun wz _ => run_conv473 _ rfl _ rfl (by omega) wz) hHeld ?_
        simp only [Act.put, List.setIfInBounds_toArray, List.set_cons_zero, List.set_cons_succ]
        refine takeL 9 (some 43) (.slice (some ⟨bb, off, none⟩) L C) rfl rfl (by decide) (by kernel_rfl) (by kernel_rfl) (by kernel_rfl) (by kernel_rfl) (fun _ _ _ h => h) (by rfl) (fun _ _ => rfl) hHeld ?_
        simp only [Act.put, List.setIfInBounds_toArray, List.set_cons_zero, List.set_cons_succ]
        refine takeL 10 (some 44) (.int .i64 (T : Nat)) rfl rfl (by decide) (by kernel_rfl) (by kernel_rfl) (by kernel_rfl) (by kernel_rfl) (fun _ _ _ h => h) (by rfl) (fun _ _ => rfl) hHeld ?_
        simp only [Act.put, List.setIfInBounds_toArray, List.set_cons_zero, List.set_cons_succ]
        refine takeL 11 (some 45) (.int .i64 ((T + 5 : Nat) : Int)) rfl rfl (by decide) (by kernel_rfl) (by kernel_rfl) (by kernel_rfl) (by kernel_rfl) (fun _ _ _ h => h) (by rfl) (fun wz _ => run_addn _ rfl T 5 rfl ⟨rfl, by omega⟩ wz) hHeld ?_
        simp only [Act.put, List.setIfInBounds_toArray, List.set_cons_zero, List.set_cons_succ]
        refine takeL 12 (some 46) (.int .i64 (T : Nat)) rfl rfl (by decide) (by kernel_rfl) (by kernel_rfl) (by kernel_rfl) (by kernel_rfl) (fun _ _ _ h => h) (by rfl) (fun _ _ => rfl) hHeld ?_
        simp only [Act.put, List.setIfInBounds_toArray, List.set_cons_zero, List.set_cons_succ]
        refine takeL 13 (some 47) (.int .i64 ((T + 5 + 64 : Nat) : Int)) rfl rfl (by decide) (by kernel_rfl) (by kernel_rfl) (by kernel_rfl) (by kernel_rfl) (fun _ _ _ h => h) (by rfl) (fun wz _ => run_addn _ rfl T 69 rfl ⟨rfl, by omega⟩ wz) hHeld ?_
        simp only [Act.put, List.setIfInBounds_toArray, List.set_cons_zero, List.set_cons_succ]
        refine takeL 14 (some 48) (.slice (some X48) 64 (C - (T + 5))) rfl rfl (by decide) (by kernel_rfl) (by kernel_rfl) (by kernel_rfl) (by kernel_rfl) (fun _ _ _ h => h) (by rfl) (fun wz _ => by rw [HX.out]; exact run_slice_len _ _ _ rfl bb off L C (T + 5) 64 rfl rfl rfl (by omega) wz) hHeld ?_
        simp only [Act.put, List.setIfInBounds_toArray, List.set_cons_zero, List.set_cons_succ]
        obtain ⟨v9, w9, hr9, ho9, hb9⟩ := app_b (w := wr.drew) (fun j => B (T + 5 + j)) X48 64 (C - (T + 5)) hcut (by decide) 23
        obtain ⟨A9, C9, rfl, hl9, hn9, hy9, hd9⟩ := own_bytes ho9
        have hbr9 : Below wr.heap.size wr w9 := hDr.trans hb9
        have h8 : (wr.drew.alloc (.cells #[] 5)).cell? ⟨bb, off + T, none⟩ = some (.int .u8 (uD B k : Nat)) := (((Below.refl _ wr.drew).alloc (Nat.le_refl _) _).cell hbblt).trans hHeld
        refine valL 8 (some 42) (.slice (some ⟨wr.drew.heap.size, 0, none⟩) 0 0) (wr.drew.alloc (.cells #[] 5)) (by kernel_rfl) rfl rfl (by rfl) (by kernel_rfl) (h8) ?_
        simp only [Act.put, List.setIfInBounds_toArray, List.set_cons_zero, List.set_cons_succ]
        have h9 : w9.cell? ⟨bb, off + T, none⟩ = some (.int .u8 (uD B k : Nat)) := (hbr9.cell hbblt).trans hHeld
        refine valL 15 (some 49) (.slice A9 64 C9) (w9) (by kernel_rfl) rfl rfl (by rfl) (run_app 23 _ _ rfl (.slice (some ⟨wr.drew.heap.size, 0, none⟩) 0 0) (.slice (some X48) 64 (C - (T + 5))) rfl rfl _ 23 rfl hr9) (h9) ?_
        simp only [Act.put, List.setIfInBounds_toArray, List.set_cons_zero, List.set_cons_succ]
        refine valL 16 (some 50) (.agg (wcell (uV B (fun _ => A9) (fun _ => C9) k)).toArray) (w9) (by kernel_rfl) rfl rfl (by rfl) (by kernel_rfl) (h9) ?_
        simp only [Act.put, List.setIfInBounds_toArray, List.set_cons_zero, List.set_cons_succ]
        have hown9 := own_belowG hown hbr9
        obtain ⟨v7, w7, hr7, hown7, hg7⟩ := app_w (uV B (fun _ => A9) (fun _ => C9) k) hown9 (Nat.le_trans hbel.size hbr9.size) (by omega) 22
        have h10 : (w9.alloc (.cells (wcell (uV B (fun _ => A9) (fun _ => C9) k)).toArray 49)).cell? ⟨bb, off + T, none⟩ = some (.int .u8 (uD B k : Nat)) := (((Below.refl _ w9).alloc (Nat.le_refl _) _).cell (Nat.lt_of_lt_of_le hbblt hbr9.size)).trans h9
        refine valL 17 (some 51) (.slice (some ⟨w9.heap.size, 0, none⟩) 1 1) (w9.alloc (.cells (wcell (uV B (fun _ => A9) (fun _ => C9) k)).toArray 49)) (by kernel_rfl) rfl rfl (by rfl) (run_bs_w _ rfl _ rfl w9) (h10) ?_
        simp only [Act.put, List.setIfInBounds_toArray, List.set_cons_zero, List.set_cons_succ]
        have hbw9 := hbel.trans (hbr9.mono hbel.size)
        have hbwa : Below w.heap.size w (w9.alloc (.cells (wcell (uV B (fun _ => A9) (fun _ => C9) k)).toArray 49)) := hbw9.alloc hbw9.size _
        have hbw7 := below_g hbwa hg7 (fun g e => (hown9.lt g e).1)
        have h7 : w7.cell? ⟨bb, off + T, none⟩ = some (.int .u8 (uD B k : Nat)) := (hbw7.cell hbb0).trans hcel0
        refine valL 18 (some 52) (v7) (w7) (by kernel_rfl) rfl rfl (by rfl) (run_app 22 _ _ rfl v (.slice (some ⟨w9.heap.size, 0, none⟩) 1 1) rfl rfl _ 22 rfl hr7) (h7) ?_
        simp only [Act.put, List.setIfInBounds_toArray, List.set_cons_zero, List.set_cons_succ]
        refine lastVal 19 (some 4) v7 (by kernel_rfl) rfl rfl (by rfl) (by rfl) (by kernel_rfl) ?_
        simp only [Act.put, List.setIfInBounds_toArray, List.set_cons_zero, List.set_cons_succ]
        have hold : ∀ i, i < k → w7.ownsRow w.heap.size 5 1 (.slice (A i) 64 (Cc i)) 64 (bl (uB B i) 64) := by
          intro i hi
          have b1 := own_alloc (own_belowG (hdat i hi) hbr9) (.cells (wcell (uV B (fun _ => A9) (fun _ => C9) k)).toArray 49)
          exact own_grown b1 hg7 (fun g hg => own_ne b1 (own_alloc hown9 _) (by decide) hg)
        have hnew : w7.ownsRow w.heap.size 5 1 (.slice A9 64 C9) 64 (bl (uB B k) 64) := by
          have e1 : bl (fun j => B (T + 5 + j)) 64 = bl (uB B k) 64 := bl_congr _ _ _ (fun j _ => by unfold uB; rw [hT2])
          rw [e1] at ho9
          have b1 := own_alloc (own_mono ho9 hbel.size) (.cells (wcell (uV B (fun _ => A9) (fun _ => C9) k)).toArray 49)
          exact own_grown b1 hg7 (fun g hg => own_ne b1 (own_alloc hown9 _) (by decide) hg)
        have hfin : RInv w L B (k + 1) v7 w7 := by
          refine ⟨fun j => if j = k then A9 else A j, fun j => if j = k then C9 else Cc j, ?_, ?_, hbw7, ?_, .inr (by omega), by omega⟩
          · rw [ulist_succ, ulist_congr B _ A _ Cc k (fun i hi => by rw [if_neg (by omega), if_neg (by omega)]; exact ⟨rfl, rfl⟩)]
            have e2 : wcell (uV B (fun j => if j = k then A9 else A j) (fun j => if j = k then C9 else Cc j) k) = wcell (uV B (fun _ => A9) (fun _ => C9) k) := by unfold uV; simp
            rw [e2]
            exact hown7
          · intro i hi
            by_cases hik : i = k
            · subst hik
              simp only [if_pos]
              exact hnew
            · simp only [if_neg hik]
              exact hold i (by omega)
          · intro i hi
            by_cases hik : i = k
            · subst hik
              exact hS
            · exact hsec i (by omega)
        have HF : Hid (RInv w L B (k + 1) v7 w7) := hfin
        clear hfin hnew hold hown7 hr7 hg7 hown9 hr9 ho9 hy9 hdat hown h7 h8 h9 h10 hv
        go_wp2
        go_roundw
        case rel => exact ⟨k + 1, T + 69, by omega, by go_num, HF.out⟩
        case measure => simp [intOf]; omega
      · have hSi : ¬ ((uS B k : Nat) : Int) < 2048 := by omega
        have HS : Hid (¬ uS B k < 2048) := hS
        clear hS
        go_wp2_with (first
          | ((go_at_call 30)
             (refine HG.mono ?_)
             (rintro e wz ⟨rfl, hz⟩)
             (obtain rfl : wr = wz := hz.symm)
             (clear HG))
          | ((refine at_dst 28 rfl ?_)
             (refine wpList_is (some 28) (.slice (some X28) 4 (C - (T + 1))) rfl rfl (by (rw [HX28.out]; exact run_slice_len _ _ _ rfl bb off L C (T + 1) 4 rfl rfl rfl (by omega) _)) ?_)))
        go_ret2
        exact ⟨hbel, .inr ⟨fun hh => HS.out (hh.2.2.2 k (by have := HT.out; have := hh.2.2.1; have := hh.2.1; omega)).2, rfl⟩⟩
    · obtain ⟨A5, C5, a5', c5', hv5, hwl⟩ := hinv'.wl h.byt
      simp only [Value.slice.injEq] at hv5
      obtain ⟨rfl, _, rfl⟩ := hv5
      have hgr := rgroup_any k vc (uV B A5 C5) va wr hwl
      have hcnt : okU L B → k = uN B := fun hh => ok_count hh hle hk (by omega)
      have hblt : ∀ i j, (uV B A5 C5 i).b j < 256 := fun i j => h.byt _
      have hwl5 : ∀ w5, Below wr.heap.size wr w5 → Wl w5 va k (uV B A5 C5) := fun w5 hb => hwl.below hb (Nat.le_refl _)
      have hkb := fun w5 (hb : Below wr.heap.size wr w5) => conv_bytesN C ((h.at_.below hbel (Nat.le_refl _)).below hb (Nat.le_refl _)) h.byt (fun e => (h.nil e).1)
      have hj3 : (T : Int) ≤ 6971 := by omega
      have HK : Hid (okU L B → k = uN B) := hcnt
      have hkk : (k : Int) ≤ 101 := by omega
      clear hinv' hown hdat hwl hcnt hT
      by_cases hgu : okG k (uV B A5 C5)
      · have hgr' : Calls Try.prog 10 #[.slice va k vc] wr fun e w' => Below wr.heap.size wr w' ∧ ∃ v, e = .returned (.tuple #[v, .int .i64 0]) ∧ w'.ownsRow wr.heap.size 5 1 v (2 + 69 * k) (bl (gb k (uV B A5 C5)) (2 + 69 * k)) :=
          hgr.mono (by
            rintro e w' ⟨hb, ⟨_, v, rfl, ho⟩ | ⟨hn, _⟩⟩
            · exact ⟨hb, v, rfl, ho⟩
            · exact absurd hgu hn)
        clear hgr
        by_cases heq : strN (gb k (uV B A5 C5)) (2 + 69 * k) = strN B L
        · obtain ⟨he1, he2⟩ := (strN_eq (gb_lt k _ hblt) h.byt).1 heq
          have hkN : uN B = k := cnt_of B A5 C5 k hgu.1 (fun j hj => he2 j (by omega))
          have hokU : okU L B := ⟨by omega, by rw [hkN]; exact hgu.1, by rw [hkN]; exact he1.symm, fun i hi => ((uV_ok B A5 C5 k).1 hgu).2 i (by omega)⟩
          have HU : Hid (okU L B) := hokU
          have HN : Hid (uN B = k) := hkN
          clear he1 he2 hkN hokU
          generalize strN B L = S5 at heq hkb
          by_cases hx1 : T + 69 ≤ L
          · have y1 : (T : Int) + 69 ≤ (L : Int) := by omega
            have y2 : ¬ (k : Int) < 101 := by omega
            go_wp2_with (first
              | ((go_at_call 10)
                 (refine hgr'.mono ?_)
                 (rintro e w5 ⟨hb5, v5, rfl, ho5⟩)
                 (clear hgr')
                 (obtain ⟨a5, c5, rfl, _, hn5, hy5, _⟩ := own_bytes ho5)
                 (have hk5 := conv_bytesN c5 hy5 (gb_lt k _ hblt) (fun e => (hn5 e).1))
                 (rw [heq] at hk5)
                 (have hk6 := hkb w5 hb5)
                 (clear hkb heq ho5 hy5)))
            go_ret2
            refine ⟨hbel.trans (hb5.mono hbel.size), .inl ⟨HU.out, A5, C5, va, vc, ?_, ?_⟩⟩
            · rw [HN.out]
              rfl
            · rw [HN.out]
              exact hwl5 w5 hb5
          · have y1 : ¬ (T : Int) + 69 ≤ (L : Int) := by omega
            go_wp2_with (first
              | ((go_at_call 10)
                 (refine hgr'.mono ?_)
                 (rintro e w5 ⟨hb5, v5, rfl, ho5⟩)
                 (clear hgr')
                 (obtain ⟨a5, c5, rfl, _, hn5, hy5, _⟩ := own_bytes ho5)
                 (have hk5 := conv_bytesN c5 hy5 (gb_lt k _ hblt) (fun e => (hn5 e).1))
                 (rw [heq] at hk5)
                 (have hk6 := hkb w5 hb5)
                 (clear hkb heq ho5 hy5)))
            go_ret2
            refine ⟨hbel.trans (hb5.mono hbel.size), .inl ⟨HU.out, A5, C5, va, vc, ?_, ?_⟩⟩
            · rw [HN.out]
              rfl
            · rw [HN.out]
              exact hwl5 w5 hb5
        · have hnoU : ¬ okU L B := by
            intro hh
            have hkN := HK.out hh
            have hL2 := hh.2.2.1
            refine heq ((strN_eq (gb_lt k _ hblt) h.byt).2 ⟨by omega, fun j hj => ?_⟩)
            rw [hkN]
            exact gb_all B h.byt A5 C5 j
          have HU : Hid (¬ okU L B) := hnoU
          clear hnoU
          generalize strN B L = S5 at heq hkb
          have hg0 : ∀ w5 : World, ∀ a5 c5, Bytes w5 a5 (2 + 69 * k) (gb k (uV B A5 C5)) → (a5 = none → 2 + 69 * k = 0) → (convert 23 9 (.slice a5 (2 + 69 * k : Nat) c5)).run Try.prog w5 = .ok (.string ⟨(strN (gb k (uV B A5 C5)) (2 + 69 * k)).toArray⟩) w5 := fun w5 a5 c5 h1 h2 => conv_bytesN c5 h1 (gb_lt k _ hblt) h2
          generalize strN (gb k (uV B A5 C5)) (2 + 69 * k) = S6 at heq hg0
          have hne2 : (S6 == S5) = false := by simp; exact heq
          have hne3 : (S6 != S5) = true := by simp; exact heq
          by_cases hx1 : T + 69 ≤ L
          · have y1 : (T : Int) + 69 ≤ (L : Int) := by omega
            have y2 : ¬ (k : Int) < 101 := by omega
            go_wp2_with (first
              | ((go_at_call 10)
                 (refine hgr'.mono ?_)
                 (rintro e w5 ⟨hb5, v5, rfl, ho5⟩)
                 (clear hgr')
                 (obtain ⟨a5, c5, rfl, _, hn5, hy5, _⟩ := own_bytes ho5)
                 (have hk5 := hg0 w5 a5 c5 hy5 (fun e => (hn5 e).1))
                 (have hk6 := hkb w5 hb5)
                 (clear hkb hg0 ho5 hy5)))
            go_ret2
            exact ⟨hbel.trans (hb5.mono hbel.size), .inr ⟨HU.out, rfl⟩⟩
          · have y1 : ¬ (T : Int) + 69 ≤ (L : Int) := by omega
            go_wp2_with (first
              | ((go_at_call 10)
                 (refine hgr'.mono ?_)
                 (rintro e w5 ⟨hb5, v5, rfl, ho5⟩)
                 (clear hgr')
                 (obtain ⟨a5, c5, rfl, _, hn5, hy5, _⟩ := own_bytes ho5)
                 (have hk5 := hg0 w5 a5 c5 hy5 (fun e => (hn5 e).1))
                 (have hk6 := hkb w5 hb5)
                 (clear hkb hg0 ho5 hy5)))
            go_ret2
            exact ⟨hbel.trans (hb5.mono hbel.size), .inr ⟨HU.out, rfl⟩⟩
      · have hgr' : Calls Try.prog 10 #[.slice va k vc] wr fun e w' => Below wr.heap.size wr w' ∧ e = .returned (.tuple #[.slice none 0 0, .int .i64 81]) :=
          hgr.mono (by
            rintro e w' ⟨hb, ⟨ho, _⟩ | ⟨hn, rfl⟩⟩
            · exact absurd ho hgu
            · exact ⟨hb, rfl⟩)
        have hnoU : ¬ okU L B := by
          intro hh
          have hkN := HK.out hh
          exact hgu ((uV_ok B A5 C5 k).2 ⟨by rw [hkN]; exact hh.2.1, fun i hi => hh.2.2.2 i (by omega)⟩)
        have HU : Hid (¬ okU L B) := hnoU
        clear hgr hnoU
        by_cases hx1 : T + 69 ≤ L
        · have y1 : (T : Int) + 69 ≤ (L : Int) := by omega
          have y2 : ¬ (k : Int) < 101 := by omega
          go_wp2_with (first
            | ((go_at_call 10)
               (refine hgr'.mono ?_)
               (rintro e w5 ⟨hb5, rfl⟩)
               (clear hgr')))
          go_ret2
          exact ⟨hbel.trans (hb5.mono hbel.size), .inr ⟨HU.out, rfl⟩⟩
        · have y1 : ¬ (T : Int) + 69 ≤ (L : Int) := by omega
          go_wp2_with (first
            | ((go_at_call 10)
               (refine hgr'.mono ?_)
               (rintro e w5 ⟨hb5, rfl⟩)
               (clear hgr')))
          go_ret2
          exact ⟨hbel.trans (hb5.mono hbel.size), .inr ⟨HU.out, rfl⟩⟩
end Go.Proofs.Ytbiicdehgogikaa
