/- xts: New. -/
import Derived.Test.YtcnlegnfecpdnaaXtsMem
import Derived.Test.YtcnlegnfecpdnaaRef4Same
namespace Go.Proofs.Ytcnlegnfecpdnaa
open Go.ChangeShapes Go.WideShapes Go.ChangeAt Go.RowKit
set_option linter.unusedVariables false

theorem equal_any {w : World} {a1 a2 : Option Addr} {l1 l2 : Nat} {f g : Nat → Nat} (c1 c2 : Nat) (h1 : Bytes w a1 l1 f) (h2 : Bytes w a2 l2 g) (hf : ∀ j, f j < 256) (hg : ∀ j, g j < 256) (n1 : a1 = none → l1 = 0) (n2 : a2 = none → l2 = 0) :
    Calls Try.prog 39 #[.slice a1 l1 c1, .slice a2 l2 c2] w fun e w' => e = .returned (.bool (strN f l1 == strN g l2)) ∧ w' = w := by
  have k1 := conv_bytesN c1 h1 hf n1
  have k2 := conv_bytesN c2 h2 hg n2
  clear h1 h2 n1 n2 hf hg
  go_enter Try.func39, Try.ntmps39
  go_wp2
  go_ret
  exact ⟨rfl, rfl⟩

theorem xnew_bad (a : Option Addr) (len cap : Nat) (w : World) (h1 : len ≠ 32) (h2 : len ≠ 64) (hl : len ≤ maxLen) :
    Calls Try.prog 18 #[.slice a len cap] w fun e w' => e = .returned (.tuple #[.pointer none, .int .i64 51]) ∧ w' = w := by
  unfold maxLen at hl
  have i1 : ((len : Int) != 32) = true := by simp; omega
  have i2 : ((len : Int) != 64) = true := by simp; omega
  clear h1 h2
  go_enter Try.func18, Try.ntmps18
  go_wp2
  go_ret2
  exact ⟨rfl, rfl⟩

theorem run_half {o : Oper} {a : Act} (x : Operand) (ho : o.op = .binOp .quo 3 x (.const (.int .i64 2)) 3) (N n : Nat) (hx : a.eval x = .int .i64 (N : Nat)) (h : N = 2 * n) (hn : n ≤ 100) (w : World) :
    (execOp a.eval o).run Try.prog w = .ok (.value (.int .i64 (n : Nat))) w := by
  have h1 : Int.tdiv (N : Int) 2 = (n : Int) := by rw [Int.tdiv_eq_ediv_of_nonneg (by omega)]; omega
  have hw : IntKind.i64.wrap (n : Int) = (n : Int) := by rw [IntKind.wrap_i64]; omega
  unfold execOp
  simp only [ho, hx]
  go_simp

theorem run_len {o : Oper} {a : Act} (x : Operand) (ho : o.op = .call { callee := .builtin .len, args := #[x], argTypes := #[22] }) (A : Option Addr) (L C : Nat) (hx : a.eval x = .slice A L C) (hL : L ≤ 140737488351232) (w : World) :
    (execOp a.eval o).run Try.prog w = .ok (.value (.int .i64 (L : Nat))) w := by
  have hr : (Builtin.len_ #[22] o.type #[.slice A L C]).run Try.prog w = .ok (.int .i64 (L : Nat)) w := by
    simp [Builtin.len_, run_underlying Try.underlying22, go_sem, goInt]
  unfold execOp
  simp [ho, resolve, invoke, builtin, hx, hr]

theorem slice_hiX (b o cap L q : Nat) (w : World) (h1 : q ≤ cap) (h2 : 0 < cap) : (Instr.sliceAt 22 (.slice (some ⟨b, o, none⟩) L cap) none (some (.int .i64 (q : Int))) none).run Try.prog w = .ok (.slice (some ⟨b, o, none⟩) q cap) w := by
  simp [Instr.sliceAt, Instr.slice, Instr.sliceBounds, run_underlying Try.underlying22, go_sem]
  intro h
  omega

theorem run_slice_hiX {o : Oper} {a : Act} (x h : Operand) (ho : o.op = .slice 22 x none (some h) none) (b off L cap q : Nat) (hx : a.eval x = .slice (some ⟨b, off, none⟩) L cap) (hl : a.eval h = .int .i64 (q : Nat)) (h1 : q ≤ cap) (h2 : 0 < cap) (w : World) :
    (execOp a.eval o).run Try.prog w = .ok (.value (.slice (some ⟨b, off, none⟩) q cap)) w := by
  unfold execOp
  simp only [ho, hx, hl, Option.map_some, Option.map_none, Sem.run_bind, slice_hiX b off cap L q w h1 h2, Result.andThen_ok, Sem.run_pure]

set_option maxRecDepth 100000 in
theorem xnew_same (n : Nat) (hn : n = 16 ∨ n = 32) (key : Nat → Nat) (b o cap : Nat) (w : World) (hk : ∀ j, key j < 256) (hb : b < w.heap.size) (hcap : 2 * n ≤ cap) (hc : ∀ j, j < 2 * n → w.cell? ⟨b, o + j, none⟩ = some (.int .u8 (key j : Nat)))
    (heq : (strN key n == strN (fun j => key (n + j)) n) = true) :
    Calls Try.prog 18 #[.slice (some ⟨b, o, none⟩) (2 * n : Nat) cap] w fun e w' => e = .returned (.tuple #[.pointer none, .int .i64 51]) ∧ Below w.heap.size w w' := by
  obtain ⟨N, hN⟩ : ∃ N, N = 2 * n := ⟨_, rfl⟩
  have h1 : ∀ wz, Below w.heap.size w wz → Bytes wz (some ⟨b, o, none⟩) n key := fun wz h => .inr ⟨b, o, rfl, Nat.lt_of_lt_of_le hb h.size, fun j hj => by rw [h.cell (show b < w.heap.size from hb)]; exact hc j (by omega)⟩
  have h2 : ∀ wz, Below w.heap.size w wz → Bytes wz (some ⟨b, o + n, none⟩) n (fun j => key (n + j)) := fun wz h => .inr ⟨b, o + n, rfl, Nat.lt_of_lt_of_le hb h.size, fun j hj => by rw [h.cell (show b < w.heap.size from hb), Nat.add_assoc]; exact hc (n + j) (by omega)⟩
  have HEQ : Hid (∀ wz, Below w.heap.size w wz → Calls Try.prog 39 #[.slice (some ⟨b, o, none⟩) n cap, .slice (some ⟨b, o + n, none⟩) (N - n) (cap - n)] wz fun e w' => e = .returned (.bool true) ∧ w' = wz) := by
    unfold Hid
    intro wz h
    rw [show N - n = n by omega]
    have := equal_any cap (cap - n) (h1 wz h) (h2 wz h) hk (fun j => hk _) (fun h => by cases h) (fun h => by cases h)
    rwa [heq] at this
  have hn2 : n ≤ 32 ∧ 16 ≤ n := by omega
  have i1 : (((N : Int) != 32) && ((N : Int) != 64)) = false := by rcases hn with rfl | rfl <;> simp [hN]
  rw [← hN] at hcap ⊢
  have HN : Hid (N = 2 * n) := hN
  have hN1 : N ≤ 64 := by omega
  have hN0 : 32 ≤ N := by omega
  clear hN h1 h2 hc heq
  have hB0 : Below w.heap.size w w.drew := (Below.refl _ _).drew
  rcases (show ((N : Int) != 32) = false ∨ (((N : Int) != 32) = true ∧ ((N : Int) != 64) = false) by rcases h : ((N : Int) != 32) with _ | _ <;> simp_all) with e1 | ⟨e1, e2⟩
  · clear i1
    go_enter Try.func18, Try.ntmps18
    go_wp2
    refine wp_region_held_drew (S := fun _ => True) (by kernel_rfl) trivial (fun hHeld => ?_)
    refine takeTo 0 (some 18) (.slice (some ⟨b, o, none⟩) N cap) rfl rfl (by kernel_rfl) (by kernel_rfl) (by kernel_rfl) (fun _ _ _ h => h) (by rfl) (fun _ _ => rfl) hHeld ?_
    simp only [Act.put, List.setIfInBounds_toArray, List.set_cons_zero, List.set_cons_succ]
    refine takeTo 1 (some 19) (.slice (some ⟨b, o, none⟩) N cap) rfl rfl (by kernel_rfl) (by kernel_rfl) (by kernel_rfl) (fun _ _ _ h => h) (by rfl) (fun _ _ => rfl) hHeld ?_
    simp only [Act.put, List.setIfInBounds_toArray, List.set_cons_zero, List.set_cons_succ]
    refine takeTo 2 (some 20) (.int .i64 (N : Nat)) rfl rfl (by kernel_rfl) (by kernel_rfl) (by kernel_rfl) (fun _ _ _ h => h) (by rfl) (fun wz _ => run_len _ rfl _ N cap rfl (by omega) wz) hHeld ?_
    simp only [Act.put, List.setIfInBounds_toArray, List.set_cons_zero, List.set_cons_succ]
    refine takeTo 3 (some 21) (.int .i64 (n : Nat)) rfl rfl (by kernel_rfl) (by kernel_rfl) (by kernel_rfl) (fun _ _ _ h => h) (by rfl) (fun wz _ => run_half _ rfl N n rfl HN.out (by omega) wz) hHeld ?_
    simp only [Act.put, List.setIfInBounds_toArray, List.set_cons_zero, List.set_cons_succ]
    refine takeTo 4 (some 22) (.slice (some ⟨b, o, none⟩) n cap) rfl rfl (by kernel_rfl) (by kernel_rfl) (by kernel_rfl) (fun _ _ _ h => h) (by rfl) (fun wz _ => run_slice_hiX _ _ rfl b o N cap n rfl rfl (by omega) (by omega) wz) hHeld ?_
    simp only [Act.put, List.setIfInBounds_toArray, List.set_cons_zero, List.set_cons_succ]
    refine takeTo 5 (some 23) (.slice (some ⟨b, o, none⟩) N cap) rfl rfl (by kernel_rfl) (by kernel_rfl) (by kernel_rfl) (fun _ _ _ h => h) (by rfl) (fun _ _ => rfl) hHeld ?_
    simp only [Act.put, List.setIfInBounds_toArray, List.set_cons_zero, List.set_cons_succ]
    refine takeTo 6 (some 24) (.slice (some ⟨b, o, none⟩) N cap) rfl rfl (by kernel_rfl) (by kernel_rfl) (by kernel_rfl) (fun _ _ _ h => h) (by rfl) (fun _ _ => rfl) hHeld ?_
    simp only [Act.put, List.setIfInBounds_toArray, List.set_cons_zero, List.set_cons_succ]
    refine takeTo 7 (some 25) (.int .i64 (N : Nat)) rfl rfl (by kernel_rfl) (by kernel_rfl) (by kernel_rfl) (fun _ _ _ h => h) (by rfl) (fun wz _ => run_len _ rfl _ N cap rfl (by omega) wz) hHeld ?_
    simp only [Act.put, List.setIfInBounds_toArray, List.set_cons_zero, List.set_cons_succ]
    refine takeTo 8 (some 26) (.int .i64 (n : Nat)) rfl rfl (by kernel_rfl) (by kernel_rfl) (by kernel_rfl) (fun _ _ _ h => h) (by rfl) (fun wz _ => run_half _ rfl N n rfl HN.out (by omega) wz) hHeld ?_
    simp only [Act.put, List.setIfInBounds_toArray, List.set_cons_zero, List.set_cons_succ]
    refine takeTo 9 (some 27) (.slice (some ⟨b, o + n, none⟩) (N - n) (cap - n)) rfl rfl (by kernel_rfl) (by kernel_rfl) (by kernel_rfl) (fun _ _ _ h => h) (by rfl) (fun wz _ => run_slice_low _ _ rfl b o N cap n rfl rfl (by have := HN.out; omega) (by omega) wz) hHeld ?_
    simp only [Act.put, List.setIfInBounds_toArray, List.set_cons_zero, List.set_cons_succ]
    refine takeTo 10 (some 4) (.slice (some ⟨b, o, none⟩) n cap) rfl rfl (by kernel_rfl) (by kernel_rfl) (by kernel_rfl) (fun _ _ _ h => h) (by rfl) (fun _ _ => rfl) hHeld ?_
    simp only [Act.put, List.setIfInBounds_toArray, List.set_cons_zero, List.set_cons_succ]
    refine takeTo 11 (some 5) (.slice (some ⟨b, o + n, none⟩) (N - n) (cap - n)) rfl rfl (by kernel_rfl) (by kernel_rfl) (by kernel_rfl) (fun _ _ _ h => h) (by rfl) (fun _ _ => rfl) hHeld ?_
    simp only [Act.put, List.setIfInBounds_toArray, List.set_cons_zero, List.set_cons_succ]
    refine wpAnyH_done (by kernel_rfl) ?_ _
    clear hHeld
    go_wp2_with (go_at_call 39; refine (HEQ.out _ hB0).mono ?_; rintro e w' ⟨rfl, rfl⟩)
    go_ret2
    exact ⟨rfl, hB0⟩
  · clear i1
    go_enter Try.func18, Try.ntmps18
    go_wp2
    refine wp_region_held_drew (S := fun _ => True) (by kernel_rfl) trivial (fun hHeld => ?_)
    refine takeTo 0 (some 18) (.slice (some ⟨b, o, none⟩) N cap) rfl rfl (by kernel_rfl) (by kernel_rfl) (by kernel_rfl) (fun _ _ _ h => h) (by rfl) (fun _ _ => rfl) hHeld ?_
    simp only [Act.put, List.setIfInBounds_toArray, List.set_cons_zero, List.set_cons_succ]
    refine takeTo 1 (some 19) (.slice (some ⟨b, o, none⟩) N cap) rfl rfl (by kernel_rfl) (by kernel_rfl) (by kernel_rfl) (fun _ _ _ h => h) (by rfl) (fun _ _ => rfl) hHeld ?_
    simp only [Act.put, List.setIfInBounds_toArray, List.set_cons_zero, List.set_cons_succ]
    refine takeTo 2 (some 20) (.int .i64 (N : Nat)) rfl rfl (by kernel_rfl) (by kernel_rfl) (by kernel_rfl) (fun _ _ _ h => h) (by rfl) (fun wz _ => run_len _ rfl _ N cap rfl (by omega) wz) hHeld ?_
    simp only [Act.put, List.setIfInBounds_toArray, List.set_cons_zero, List.set_cons_succ]
    refine takeTo 3 (some 21) (.int .i64 (n : Nat)) rfl rfl (by kernel_rfl) (by kernel_rfl) (by kernel_rfl) (fun _ _ _ h => h) (by rfl) (fun wz _ => run_half _ rfl N n rfl HN.out (by omega) wz) hHeld ?_
    simp only [Act.put, List.setIfInBounds_toArray, List.set_cons_zero, List.set_cons_succ]
    refine takeTo 4 (some 22) (.slice (some ⟨b, o, none⟩) n cap) rfl rfl (by kernel_rfl) (by kernel_rfl) (by kernel_rfl) (fun _ _ _ h => h) (by rfl) (fun wz _ => run_slice_hiX _ _ rfl b o N cap n rfl rfl (by omega) (by omega) wz) hHeld ?_
    simp only [Act.put, List.setIfInBounds_toArray, List.set_cons_zero, List.set_cons_succ]
    refine takeTo 5 (some 23) (.slice (some ⟨b, o, none⟩) N cap) rfl rfl (by kernel_rfl) (by kernel_rfl) (by kernel_rfl) (fun _ _ _ h => h) (by rfl) (fun _ _ => rfl) hHeld ?_
    simp only [Act.put, List.setIfInBounds_toArray, List.set_cons_zero, List.set_cons_succ]
    refine takeTo 6 (some 24) (.slice (some ⟨b, o, none⟩) N cap) rfl rfl (by kernel_rfl) (by kernel_rfl) (by kernel_rfl) (fun _ _ _ h => h) (by rfl) (fun _ _ => rfl) hHeld ?_
    simp only [Act.put, List.setIfInBounds_toArray, List.set_cons_zero, List.set_cons_succ]
    refine takeTo 7 (some 25) (.int .i64 (N : Nat)) rfl rfl (by kernel_rfl) (by kernel_rfl) (by kernel_rfl) (fun _ _ _ h => h) (by rfl) (fun wz _ => run_len _ rfl _ N cap rfl (by omega) wz) hHeld ?_
    simp only [Act.put, List.setIfInBounds_toArray, List.set_cons_zero, List.set_cons_succ]
    refine takeTo 8 (some 26) (.int .i64 (n : Nat)) rfl rfl (by kernel_rfl) (by kernel_rfl) (by kernel_rfl) (fun _ _ _ h => h) (by rfl) (fun wz _ => run_half _ rfl N n rfl HN.out (by omega) wz) hHeld ?_
    simp only [Act.put, List.setIfInBounds_toArray, List.set_cons_zero, List.set_cons_succ]
    refine takeTo 9 (some 27) (.slice (some ⟨b, o + n, none⟩) (N - n) (cap - n)) rfl rfl (by kernel_rfl) (by kernel_rfl) (by kernel_rfl) (fun _ _ _ h => h) (by rfl) (fun wz _ => run_slice_low _ _ rfl b o N cap n rfl rfl (by have := HN.out; omega) (by omega) wz) hHeld ?_
    simp only [Act.put, List.setIfInBounds_toArray, List.set_cons_zero, List.set_cons_succ]
    refine takeTo 10 (some 4) (.slice (some ⟨b, o, none⟩) n cap) rfl rfl (by kernel_rfl) (by kernel_rfl) (by kernel_rfl) (fun _ _ _ h => h) (by rfl) (fun _ _ => rfl) hHeld ?_
    simp only [Act.put, List.setIfInBounds_toArray, List.set_cons_zero, List.set_cons_succ]
    refine takeTo 11 (some 5) (.slice (some ⟨b, o + n, none⟩) (N - n) (cap - n)) rfl rfl (by kernel_rfl) (by kernel_rfl) (by kernel_rfl) (fun _ _ _ h => h) (by rfl) (fun _ _ => rfl) hHeld ?_
    simp only [Act.put, List.setIfInBounds_toArray, List.set_cons_zero, List.set_cons_succ]
    refine wpAnyH_done (by kernel_rfl) ?_ _
    clear hHeld
    go_wp2_with (go_at_call 39; refine (HEQ.out _ hB0).mono ?_; rintro e w' ⟨rfl, rfl⟩)
    go_ret2
    exact ⟨rfl, hB0⟩

set_option maxRecDepth 100000 in
theorem xnew_ok (n : Nat) (hn : n = 16 ∨ n = 32) (key : Nat → Nat) (b o cap : Nat) (w : World) (hk : ∀ j, key j < 256) (hb : b < w.heap.size) (hcap : 2 * n ≤ cap) (hc : ∀ j, j < 2 * n → w.cell? ⟨b, o + j, none⟩ = some (.int .u8 (key j : Nat)))
    (heq : (strN key n == strN (fun j => key (n + j)) n) = false) :
    Calls Try.prog 18 #[.slice (some ⟨b, o, none⟩) (2 * n : Nat) cap] w fun e w' => ∃ g gk gl, e = .returned (.tuple #[.pointer (some ⟨g, 0, none⟩), .int .i64 0]) ∧ XC w' g gk gl n key (fun j => key (n + j)) ∧ Below w.heap.size w w' := by
  obtain ⟨N, hN⟩ : ∃ N, N = 2 * n := ⟨_, rfl⟩
  have h1 : ∀ wz, Below w.heap.size w wz → Bytes wz (some ⟨b, o, none⟩) n key := fun wz h => .inr ⟨b, o, rfl, Nat.lt_of_lt_of_le hb h.size, fun j hj => by rw [h.cell (show b < w.heap.size from hb)]; exact hc j (by omega)⟩
  have h2 : ∀ wz, Below w.heap.size w wz → Bytes wz (some ⟨b, o + n, none⟩) n (fun j => key (n + j)) := fun wz h => .inr ⟨b, o + n, rfl, Nat.lt_of_lt_of_le hb h.size, fun j hj => by rw [h.cell (show b < w.heap.size from hb), Nat.add_assoc]; exact hc (n + j) (by omega)⟩
  have HEQ : Hid (∀ wz, Below w.heap.size w wz → Calls Try.prog 39 #[.slice (some ⟨b, o, none⟩) n cap, .slice (some ⟨b, o + n, none⟩) (N - n) (cap - n)] wz fun e w' => e = .returned (.bool false) ∧ w' = wz) := by
    unfold Hid
    intro wz h
    rw [show N - n = n by omega]
    have := equal_any cap (cap - n) (h1 wz h) (h2 wz h) hk (fun j => hk _) (fun h => by cases h) (fun h => by cases h)
    rwa [heq] at this
  have HK : Hid (∀ wz, Below w.heap.size w wz → Calls Try.prog 9 #[.slice (some ⟨b, o, none⟩) n cap] wz fun e w' => ∃ g, e = .returned (.tuple #[.pointer (some ⟨g, 0, none⟩), .int .i64 0]) ∧ wz.heap.size ≤ g ∧ Has w' g 57 (ccells (KS n key) (RN n) IB) ∧ Below wz.heap.size wz w') := by
    unfold Hid
    intro wz h
    exact new_both n hn key b o cap wz hk (Nat.lt_of_lt_of_le hb h.size) (by omega) (fun j hj => by rw [h.cell (show b < w.heap.size from hb)]; exact hc j (by omega))
  have HL : Hid (∀ wz, Below w.heap.size w wz → Calls Try.prog 9 #[.slice (some ⟨b, o + n, none⟩) (N - n) (cap - n)] wz fun e w' => ∃ g, e = .returned (.tuple #[.pointer (some ⟨g, 0, none⟩), .int .i64 0]) ∧ wz.heap.size ≤ g ∧ Has w' g 57 (ccells (KS n fun j => key (n + j)) (RN n) IB) ∧ Below wz.heap.size wz w') := by
    unfold Hid
    intro wz h
    rw [show N - n = n by omega]
    exact new_both n hn (fun j => key (n + j)) b (o + n) (cap - n) wz (fun j => hk _) (Nat.lt_of_lt_of_le hb h.size) (by omega) (fun j hj => by rw [h.cell (show b < w.heap.size from hb), Nat.add_assoc]; exact hc (n + j) (by omega))
  have hn2 : n ≤ 32 ∧ 16 ≤ n := by omega
  have i1 : (((N : Int) != 32) && ((N : Int) != 64)) = false := by rcases hn with rfl | rfl <;> simp [hN]
  rw [← hN] at hcap ⊢
  have HN : Hid (N = 2 * n) := hN
  have hN1 : N ≤ 64 := by omega
  have hN0 : 32 ≤ N := by omega
  clear hN h1 h2 hc heq
  have hB0 : Below w.heap.size w w.drew := (Below.refl _ _).drew
  rcases (show ((N : Int) != 32) = false ∨ (((N : Int) != 32) = true ∧ ((N : Int) != 64) = false) by rcases h : ((N : Int) != 32) with _ | _ <;> simp_all) with e1 | ⟨e1, e2⟩
  · clear i1
    go_enter Try.func18, Try.ntmps18
    go_wp2
    refine wp_region_held_drew (S := fun _ => True) (by kernel_rfl) trivial (fun hHeld => ?_)
    refine takeTo 0 (some 18) (.slice (some ⟨b, o, none⟩) N cap) rfl rfl (by kernel_rfl) (by kernel_rfl) (by kernel_rfl) (fun _ _ _ h => h) (by rfl) (fun _ _ => rfl) hHeld ?_
    simp only [Act.put, List.setIfInBounds_toArray, List.set_cons_zero, List.set_cons_succ]
    refine takeTo 1 (some 19) (.slice (some ⟨b, o, none⟩) N cap) rfl rfl (by kernel_rfl) (by kernel_rfl) (by kernel_rfl) (fun _ _ _ h => h) (by rfl) (fun _ _ => rfl) hHeld ?_
    simp only [Act.put, List.setIfInBounds_toArray, List.set_cons_zero, List.set_cons_succ]
    refine takeTo 2 (some 20) (.int .i64 (N : Nat)) rfl rfl (by kernel_rfl) (by kernel_rfl) (by kernel_rfl) (fun _ _ _ h => h) (by rfl) (fun wz _ => run_len _ rfl _ N cap rfl (by omega) wz) hHeld ?_
    simp only [Act.put, List.setIfInBounds_toArray, List.set_cons_zero, List.set_cons_succ]
    refine takeTo 3 (some 21) (.int .i64 (n : Nat)) rfl rfl (by kernel_rfl) (by kernel_rfl) (by kernel_rfl) (fun _ _ _ h => h) (by rfl) (fun wz _ => run_half _ rfl N n rfl HN.out (by omega) wz) hHeld ?_
    simp only [Act.put, List.setIfInBounds_toArray, List.set_cons_zero, List.set_cons_succ]
    refine takeTo 4 (some 22) (.slice (some ⟨b, o, none⟩) n cap) rfl rfl (by kernel_rfl) (by kernel_rfl) (by kernel_rfl) (fun _ _ _ h => h) (by rfl) (fun wz _ => run_slice_hiX _ _ rfl b o N cap n rfl rfl (by omega) (by omega) wz) hHeld ?_
    simp only [Act.put, List.setIfInBounds_toArray, List.set_cons_zero, List.set_cons_succ]
    refine takeTo 5 (some 23) (.slice (some ⟨b, o, none⟩) N cap) rfl rfl (by kernel_rfl) (by kernel_rfl) (by kernel_rfl) (fun _ _ _ h => h) (by rfl) (fun _ _ => rfl) hHeld ?_
    simp only [Act.put, List.setIfInBounds_toArray, List.set_cons_zero, List.set_cons_succ]
    refine takeTo 6 (some 24) (.slice (some ⟨b, o, none⟩) N cap) rfl rfl (by kernel_rfl) (by kernel_rfl) (by kernel_rfl) (fun _ _ _ h => h) (by rfl) (fun _ _ => rfl) hHeld ?_
    simp only [Act.put, List.setIfInBounds_toArray, List.set_cons_zero, List.set_cons_succ]
    refine takeTo 7 (some 25) (.int .i64 (N : Nat)) rfl rfl (by kernel_rfl) (by kernel_rfl) (by kernel_rfl) (fun _ _ _ h => h) (by rfl) (fun wz _ => run_len _ rfl _ N cap rfl (by omega) wz) hHeld ?_
    simp only [Act.put, List.setIfInBounds_toArray, List.set_cons_zero, List.set_cons_succ]
    refine takeTo 8 (some 26) (.int .i64 (n : Nat)) rfl rfl (by kernel_rfl) (by kernel_rfl) (by kernel_rfl) (fun _ _ _ h => h) (by rfl) (fun wz _ => run_half _ rfl N n rfl HN.out (by omega) wz) hHeld ?_
    simp only [Act.put, List.setIfInBounds_toArray, List.set_cons_zero, List.set_cons_succ]
    refine takeTo 9 (some 27) (.slice (some ⟨b, o + n, none⟩) (N - n) (cap - n)) rfl rfl (by kernel_rfl) (by kernel_rfl) (by kernel_rfl) (fun _ _ _ h => h) (by rfl) (fun wz _ => run_slice_low _ _ rfl b o N cap n rfl rfl (by have := HN.out; omega) (by omega) wz) hHeld ?_
    simp only [Act.put, List.setIfInBounds_toArray, List.set_cons_zero, List.set_cons_succ]
    refine takeTo 10 (some 4) (.slice (some ⟨b, o, none⟩) n cap) rfl rfl (by kernel_rfl) (by kernel_rfl) (by kernel_rfl) (fun _ _ _ h => h) (by rfl) (fun _ _ => rfl) hHeld ?_
    simp only [Act.put, List.setIfInBounds_toArray, List.set_cons_zero, List.set_cons_succ]
    refine takeTo 11 (some 5) (.slice (some ⟨b, o + n, none⟩) (N - n) (cap - n)) rfl rfl (by kernel_rfl) (by kernel_rfl) (by kernel_rfl) (fun _ _ _ h => h) (by rfl) (fun _ _ => rfl) hHeld ?_
    simp only [Act.put, List.setIfInBounds_toArray, List.set_cons_zero, List.set_cons_succ]
    refine wpAnyH_done (by kernel_rfl) ?_ _
    clear hHeld
    go_wp2_with (first
      | (go_at_call 39; refine (HEQ.out _ hB0).mono ?_; rintro e w' ⟨rfl, rfl⟩)
      | (go_at_call 9; refine (HK.out _ hB0).mono ?_; rintro e w1 ⟨gk, rfl, hgk, hK1, hb1⟩; have hB1 := hB0.trans (hb1.mono hB0.size); clear HK)
      | (go_at_call 9; refine (HL.out _ hB1).mono ?_; rintro e w2 ⟨gl, rfl, hgl, hL2, hb2⟩; have hB2 := hB1.trans (hb2.mono hB1.size); have hK2 := hK1.below hb2 hK1.lt))
    go_ret2
    exact ⟨_, gk, gl, rfl, ⟨Has.new _ _ _, hK2.alloc _, hL2.alloc _⟩, hB2.alloc hB2.size _⟩
  · clear i1
    go_enter Try.func18, Try.ntmps18
    go_wp2
    refine wp_region_held_drew (S := fun _ => True) (by kernel_rfl) trivial (fun hHeld => ?_)
    refine takeTo 0 (some 18) (.slice (some ⟨b, o, none⟩) N cap) rfl rfl (by kernel_rfl) (by kernel_rfl) (by kernel_rfl) (fun _ _ _ h => h) (by rfl) (fun _ _ => rfl) hHeld ?_
    simp only [Act.put, List.setIfInBounds_toArray, List.set_cons_zero, List.set_cons_succ]
    refine takeTo 1 (some 19) (.slice (some ⟨b, o, none⟩) N cap) rfl rfl (by kernel_rfl) (by kernel_rfl) (by kernel_rfl) (fun _ _ _ h => h) (by rfl) (fun _ _ => rfl) hHeld ?_
    simp only [Act.put, List.setIfInBounds_toArray, List.set_cons_zero, List.set_cons_succ]
    refine takeTo 2 (some 20) (.int .i64 (N : Nat)) rfl rfl (by kernel_rfl) (by kernel_rfl) (by kernel_rfl) (fun _ _ _ h => h) (by rfl) (fun wz _ => run_len _ rfl _ N cap rfl (by omega) wz) hHeld ?_
    simp only [Act.put, List.setIfInBounds_toArray, List.set_cons_zero, List.set_cons_succ]
    refine takeTo 3 (some 21) (.int .i64 (n : Nat)) rfl rfl (by kernel_rfl) (by kernel_rfl) (by kernel_rfl) (fun _ _ _ h => h) (by rfl) (fun wz _ => run_half _ rfl N n rfl HN.out (by omega) wz) hHeld ?_
    simp only [Act.put, List.setIfInBounds_toArray, List.set_cons_zero, List.set_cons_succ]
    refine takeTo 4 (some 22) (.slice (some ⟨b, o, none⟩) n cap) rfl rfl (by kernel_rfl) (by kernel_rfl) (by kernel_rfl) (fun _ _ _ h => h) (by rfl) (fun wz _ => run_slice_hiX _ _ rfl b o N cap n rfl rfl (by omega) (by omega) wz) hHeld ?_
    simp only [Act.put, List.setIfInBounds_toArray, List.set_cons_zero, List.set_cons_succ]
    refine takeTo 5 (some 23) (.slice (some ⟨b, o, none⟩) N cap) rfl rfl (by kernel_rfl) (by kernel_rfl) (by kernel_rfl) (fun _ _ _ h => h) (by rfl) (fun _ _ => rfl) hHeld ?_
    simp only [Act.put, List.setIfInBounds_toArray, List.set_cons_zero, List.set_cons_succ]
    refine takeTo 6 (some 24) (.slice (some ⟨b, o, none⟩) N cap) rfl rfl (by kernel_rfl) (by kernel_rfl) (by kernel_rfl) (fun _ _ _ h => h) (by rfl) (fun _ _ => rfl) hHeld ?_
    simp only [Act.put, List.setIfInBounds_toArray, List.set_cons_zero, List.set_cons_succ]
    refine takeTo 7 (some 25) (.int .i64 (N : Nat)) rfl rfl (by kernel_rfl) (by kernel_rfl) (by kernel_rfl) (fun _ _ _ h => h) (by rfl) (fun wz _ => run_len _ rfl _ N cap rfl (by omega) wz) hHeld ?_
    simp only [Act.put, List.setIfInBounds_toArray, List.set_cons_zero, List.set_cons_succ]
    refine takeTo 8 (some 26) (.int .i64 (n : Nat)) rfl rfl (by kernel_rfl) (by kernel_rfl) (by kernel_rfl) (fun _ _ _ h => h) (by rfl) (fun wz _ => run_half _ rfl N n rfl HN.out (by omega) wz) hHeld ?_
    simp only [Act.put, List.setIfInBounds_toArray, List.set_cons_zero, List.set_cons_succ]
    refine takeTo 9 (some 27) (.slice (some ⟨b, o + n, none⟩) (N - n) (cap - n)) rfl rfl (by kernel_rfl) (by kernel_rfl) (by kernel_rfl) (fun _ _ _ h => h) (by rfl) (fun wz _ => run_slice_low _ _ rfl b o N cap n rfl rfl (by have := HN.out; omega) (by omega) wz) hHeld ?_
    simp only [Act.put, List.setIfInBounds_toArray, List.set_cons_zero, List.set_cons_succ]
    refine takeTo 10 (some 4) (.slice (some ⟨b, o, none⟩) n cap) rfl rfl (by kernel_rfl) (by kernel_rfl) (by kernel_rfl) (fun _ _ _ h => h) (by rfl) (fun _ _ => rfl) hHeld ?_
    simp only [Act.put, List.setIfInBounds_toArray, List.set_cons_zero, List.set_cons_succ]
    refine takeTo 11 (some 5) (.slice (some ⟨b, o + n, none⟩) (N - n) (cap - n)) rfl rfl (by kernel_rfl) (by kernel_rfl) (by kernel_rfl) (fun _ _ _ h => h) (by rfl) (fun _ _ => rfl) hHeld ?_
    simp only [Act.put, List.setIfInBounds_toArray, List.set_cons_zero, List.set_cons_succ]
    refine wpAnyH_done (by kernel_rfl) ?_ _
    clear hHeld
    go_wp2_with (first
      | (go_at_call 39; refine (HEQ.out _ hB0).mono ?_; rintro e w' ⟨rfl, rfl⟩)
      | (go_at_call 9; refine (HK.out _ hB0).mono ?_; rintro e w1 ⟨gk, rfl, hgk, hK1, hb1⟩; have hB1 := hB0.trans (hb1.mono hB0.size); clear HK)
      | (go_at_call 9; refine (HL.out _ hB1).mono ?_; rintro e w2 ⟨gl, rfl, hgl, hL2, hb2⟩; have hB2 := hB1.trans (hb2.mono hB1.size); have hK2 := hK1.below hb2 hK1.lt))
    go_ret2
    exact ⟨_, gk, gl, rfl, ⟨Has.new _ _ _, hK2.alloc _, hL2.alloc _⟩, hB2.alloc hB2.size _⟩

end Go.Proofs.Ytcnlegnfecpdnaa
