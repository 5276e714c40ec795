/- The program's Build: the outer walk. -/
import Derived.Test.YtoeanaadlihkeabDoorMkPa
import Derived.Test.YtoeanaadlihkeabDoorMkPick
import Derived.Test.YtoeanaadlihkeabDoorMkPb
namespace Go.Proofs.YtoeanaadlihkeabDoor
open Go.RowKit Go.Shelf
set_option linter.unusedVariables false

attribute [local go_sem] Oper.semAt_some

/-- As asked, and no panic. -/
def calm (Q : Exit → Act → World → Prop) : Exit → Act → World → Prop
  | .panic _, _, _ => False
  | e, a, w => Q e a w

theorem calm_le {Q : Exit → Act → World → Prop} (e : Exit) (a : Act) (w : World) (h : calm Q e a w) : Q e a w := by
  cases e <;> first | exact h | exact h.elim

theorem run_load_b5 {o : Oper} {a : Act} (x : Operand) (ho : o.op = .load 5 x) (p : Addr) (hx : a.eval x = .pointer (some p)) (v : Value) (w : World) (h : w.cell? p = some v) : (execOp a.eval o).run Tryd.prog w = .ok (.value v) w := by
  unfold execOp
  simp only [ho, hx]
  go_simp

/-- Between two rounds: the boxes of the tree, of the level below and of the kind; the tree so far. -/
def BuI (w : World) (gt T M : Nat) (a : Option Addr) (d : Nat → Nat) (n : Nat) (pre : List Nat) (W : World) : Prop := ∃ (A : Option Addr) (C : Nat),
  Has W T 22 #[.slice (some ⟨gt, 0, none⟩) M M] ∧ Has W (T + 1) 22 #[.slice A (64 * lv n pre.length) C] ∧ 64 * lv n pre.length ≤ C ∧ Has W (T + 2) 5 #[.int .u8 (kd pre.length : Nat)] ∧ Has W gt 5 (cellsN .u8 M (tree d n pre.length)) ∧
  Has W w.heap.size 24 (cellsN .u8 32 fun _ => 0) ∧ Below w.heap.size w W ∧ T + 3 ≤ W.heap.size ∧ (pre.length = 0 → A = a) ∧ (∀ k, pre.length = k + 1 → A = some ⟨gt, 64 * off n k, none⟩)

theorem buI_firm (w : World) (gt T M : Nat) (a : Option Addr) (d : Nat → Nat) (n D : Nat) (hD : w.heap.size ≤ D) : Firm D (BuI w gt T M a d n) := by
  rintro pre A B row ⟨b, C, h1, h2, h3, h4, h5, h6, h7, h8, h9⟩ hg hr
  exact ⟨b, C, h1.firm (by decide) hg hr, h2.firm (by decide) hg hr, h3, h4.firm (by decide) hg hr, h5.firm (by decide) hg hr, h6.firm (by decide) hg hr, Firm.below (β := Unit) (Nat.le_refl _) hD () A B row h7 hg hr, Nat.le_trans h8 hg.size, h9⟩

/-- The level below, wherever it lies: the bytes that are hashed. -/
theorem below_bytes {w W wr : World} {gt M n k c : Nat} {a A : Option Addr} {d F' : Nat → Nat} (hb : Bytes w a (64 * n) d) (hB : Below w.heap.size w W) (hgt : w.heap.size ≤ gt) (hkd : k ≤ dep n) (h1 : 1 ≤ n) (hM : M = 64 * off n (dep n)) (h0 : k = 0 → A = a) (h2 : ∀ j, k = j + 1 → A = some ⟨gt, 64 * off n j, none⟩)
    (hg : W.grownBy wr (some gt)) (hr : Has wr gt 5 (cellsN .u8 M F')) (hF : ∀ j, j < 64 * off n k → F' j = tree d n k j) : Bytes wr A (64 * lv n k) (lvl d n k) := by
  cases k with
  | zero =>
    rw [h0 rfl]
    have hb' : Bytes W a (64 * n) d := hb.below hB (Nat.le_refl _)
    refine hb'.grownTo hg fun b o e he => ?_
    cases he
    rcases hb with h | ⟨b', o', e', hlt, _⟩
    · omega
    · rw [e] at e'
      cases e'
      omega
  | succ k =>
    rw [h2 k rfl]
    have e1 := off_step n k
    have e2 := off_mono n (k + 1) (dep n) hkd
    refine .inr ⟨gt, 64 * off n k, rfl, hr.lt, fun j hj => ?_⟩
    rw [hr.num _ (by omega), hF _ (by omega), tree_at d n (k + 1) k j (by omega) hj]

set_option maxRecDepth 100000 in
set_option maxHeartbeats 2000000 in
theorem Build_in (n : Nat) (d : Nat → Nat) (a : Option Addr) (c : Nat) (w : World) (hG : Glob Hc Kc w) (h1 : 1 ≤ n) (h2 : n ≤ 2048) (hc : 64 * n ≤ c) (hb : Bytes w a (64 * n) d) (hd : ∀ j, d j < 256) :
    CallsIn Fence.wide 3 Tryd.prog 6 #[.slice a (64 * n : Nat) c] w fun e w' => ∃ a' c', e = .returned (.tuple #[.slice a' (64 * off n (dep n) : Nat) c', .agg (cellsN .u8 32 (root d n)), .int .i64 0]) ∧
    64 * off n (dep n) ≤ c' ∧ (a' = none → 64 * off n (dep n) = 0 ∧ c' = 0) ∧ Bytes w' a' (64 * off n (dep n)) (tree d n (dep n)) ∧ Below w.heap.size w w' := by
  obtain ⟨L, hL⟩ : ∃ L, L = 64 * n := ⟨_, rfl⟩
  obtain ⟨M, hM⟩ : ∃ M, M = 64 * off n (dep n) := ⟨_, rfl⟩
  have hM2 := off_max n (dep n) h1 h2 (dep_11 n h2)
  have hq : (L : Int) / 64 = (n : Int) := by omega
  have hr : (L : Int) % 64 = 0 := by omega
  have hLb : L ≤ 131072 := by omega
  have HL : Hid (L = 64 * n) := hL
  have KL : Hid (∀ wz, Calls Tryd.prog 11 #[.int .i64 (n : Nat)] wz fun e w' => ∃ la lc, e = .returned (.slice la (dep n) lc) ∧ Below wz.heap.size wz w') := fun wz => Calls.mono (Levels_ok n wz ⟨by omega, by omega⟩) (by
    rintro e w' ⟨la, lc, rfl, _, _, _, hb⟩
    rw [levN_in (by omega), Int.toNat_natCast]
    exact ⟨la, lc, rfl, hb⟩)
  have KS : Hid (∀ wz, Calls Tryd.prog 12 #[.int .i64 (n : Nat)] wz fun e w' => e = .returned (.int .i64 (M : Nat)) ∧ Below wz.heap.size wz w') := fun wz => by rw [hM]; exact tree_size n wz h1 h2
  have hdp := dep_pos n
  have hM0 : M ≤ 1441792 := by omega
  have HM : Hid (M = 64 * off n (dep n)) := hM
  rw [← hL] at hb hc ⊢
  rw [← hM]
  obtain ⟨dd, hdd⟩ : ∃ dd, dd = dep n := ⟨_, rfl⟩
  have HD : Hid (dd = dep n) := hdd
  rw [← hdd] at KL hdp
  have e0 : ¬ ((dd : Int) = 0) := by omega
  clear hL hM hM2 hdd
  have hN : Has (w.alloc (.cells (cellsN .u8 32 fun _ => 0) 24)) w.heap.size 24 (cellsN .u8 32 fun _ => 0) := Has.new _ _ _
  have hb0 : Below w.heap.size w (w.alloc (.cells (cellsN .u8 32 fun _ => 0) 24)) := (Below.refl _ _).alloc (Nat.le_refl _) _
  refine callsIn_of_wp_marks Tryd.func6 rfl trivial ?_ rfl
  simp only [Tryd.ntmps6, List.size_toArray, List.length_cons, List.length_nil, Nat.reduceAdd, Nat.reduceSub, Array.replicate_succ, Array.replicate_zero, List.push_toArray, List.append_toArray, List.nil_append, List.cons_append]
  refine wpIn_wide.2 ?_
  go_wp2_with (first
    | ((go_at_call 11)
       (refine (KL.out _).mono ?_)
       (rintro e w1 ⟨la, lc, rfl, hb1⟩)
       (have hN1 := hN.below hb1 hN.lt)
       (have hB1 := hb0.trans (hb1.mono hb0.size))
       (clear hN hb0 hb1 KL))
    | ((go_at_call 12)
       (refine (KS.out _).mono ?_)
       (rintro e w2 ⟨rfl, hb2⟩)
       (have hN2 := hN1.below hb2 hN1.lt)
       (have hB2 := hB1.trans (hb2.mono hB1.size))
       (obtain ⟨w3, hT3, hb3, hmk⟩ := make_has M (by omega) w2)
       (have hN3 := hN2.below hb3 hN2.lt)
       (have hB3 := hB2.trans (hb3.mono hB2.size))
       (clear hN1 hB1 hb2 KS hb3))
    | (refine wpList_is_w (some 28) _ _ rfl (by rfl) (hmk _ _ _ _ rfl rfl rfl) ?_)
    | ((go_at_call 13)
       (refine (levels_any _ _).mono ?_)
       (rintro e w4 ⟨rfl, rfl⟩)))
  refine (wpIn_wide (n := 3)).1 ?_
  have hgt : w.heap.size < w2.heap.size := hN2.lt
  have hTt : w2.heap.size < w3.heap.size := hT3.lt
  obtain ⟨W0, hW0⟩ : ∃ W0, W0 = (((w3.alloc (.cells #[.slice (some ⟨w2.heap.size, 0, none⟩) M M] 22)).alloc (.cells #[.slice a L c] 22)).alloc (.cells #[.int .u8 0] 5)).alloc (.cells #[.int .i64 (n : Nat)] 3) := ⟨_, rfl⟩
  have hb0 : Has W0 (w3.heap.size + 3) 3 #[.int .i64 (n : Nat)] := by rw [hW0]; exact Has.new_at (by simp)
  have hs0 : W0.heap.size = w3.heap.size + 4 := by rw [hW0]; simp
  have h0 : BuI w w2.heap.size w3.heap.size M a d n [] W0 := by
    have hbw : Below w3.heap.size w3 W0 := by rw [hW0]; exact ((((Below.refl _ w3).alloc (Nat.le_refl _) _).alloc (by simp) _).alloc (by simp; omega) _).alloc (by simp; omega) _
    refine ⟨a, c, ?_, ?_, ?_, ?_, hT3.below hbw hTt, hN3.below hbw hN3.lt, hB3.trans (hbw.mono hB3.size), by omega, fun _ => rfl, fun k h => by simp at h⟩
    · rw [hW0]; exact (((Has.new _ _ _).alloc _).alloc _).alloc _
    · rw [hW0]
      show Has _ _ _ #[.slice a (64 * n) c]
      rw [← HL.out]
      exact ((Has.new_at (by simp)).alloc _).alloc _
    · show 64 * n ≤ c
      rw [← HL.out]; exact hc
    · rw [hW0]; exact (Has.new_at (by simp)).alloc _
  rw [← hW0]
  clear hW0 hT3 hN3 hN2 hB2 hB3 hmk
  refine range_law (n := 3) (gf := 21) (lb := #[.pointer (some ⟨w3.heap.size + 3, 0, none⟩)]) rfl (enters_of Tryd.func21 (by kernel_rfl) rfl)
    (lev_seq (3 - 1) (w3.heap.size + 3) n W0 (by omega) (hb0.cell 0)) (fun _ => rfl)
    (BuI w w2.heap.size w3.heap.size M a d n) (fun _ _ => False) (buI_firm w _ _ _ _ _ _ _ (by omega)) (fun _ _ _ _ h => h.elim) h0
    (AtL n (fun x B => #[.slice a L c, undef, .slice none 0 0, .pointer (some ⟨w.heap.size, 0, none⟩), .int .i64 0, .int .i64 (n : Nat), .pointer (some ⟨w3.heap.size, 0, none⟩), .pointer (some ⟨w3.heap.size + 1, 0, none⟩), .pointer (some ⟨w3.heap.size + 2, 0, none⟩), undef, .pointer (some ⟨B, 0, none⟩), undef, .slice a L c, .int .i64 (L : Nat), .int .i64 (n : Nat), .slice a L c, .int .i64 (L : Nat), .int .i64 0, .bool false, .bool false, .int .i64 (n : Nat), .slice la dd lc, .int .i64 (dd : Nat), .bool false, .bool false, undef, .int .i64 (n : Nat), .int .i64 (M : Nat), .slice (some ⟨w2.heap.size, 0, none⟩) M M, .slice a L c, .int .i64 (n : Nat), .func (.func 21) #[] #[.pointer (some ⟨w3.heap.size + 3, 0, none⟩)], .int .i64 (x : Nat), .agg (lcells (off n x) (lv n (x + 1))), undef, undef, undef, undef, undef, undef, undef, undef, undef, undef, undef, undef, undef, undef, undef, undef, undef, undef, undef, undef])) (atL_own _ _ _) ?assign ?body ?done ?stop
  case assign =>
    intro l pre x W K hI hK
    simp only [lenc, lcells]
    gi_wp2
    exact hK _ _ (Stay.alloc _ _) ((buI_firm w _ _ _ _ _ _ _ (Nat.le_refl _)).alloc _ hI) ⟨_, rfl, Has.new _ _ _⟩
  case body =>
    rintro l pre x a' W hpre ⟨A, C, b6, b7, hC, b8, hrow, hdg, hBw, hsz, hA0, hA1⟩ ⟨B, rfl, hl⟩
    obtain ⟨hx, rfl⟩ := next_range hpre
    rw [levN_in (by omega), Int.toNat_natCast] at hx
    rw [List.length_range] at b7 hC b8 hrow hA0 hA1
    have hbb := fun wr F' => below_bytes (wr := wr) (F' := F') (c := c) (by rw [← HL.out]; exact hb) hBw (by omega) (by omega) h1 HM.out hA0 hA1
    have hof := off_lt n x h1 hx
    have hM' := HM.out
    have hst := off_step n x
    have hyz := lv_step n x
    have hy1 := lv_pos n (x + 1) h1
    have hz1 := lv_pos n x h1
    have hz2 := Nat.le_trans (lv_le n x h1) h2
    have hput := put_any (kd x) (lv n x) M (64 * off n x) (64 * lv n (x + 1)) (M - 64 * off n x) C w2.heap.size (tree d n x) (lvl d n x) A W (hG.below hBw hG.1) (kd_lt x) (lvl_lt d n hd x) hz1 hz2 hrow (by have := hG.1; omega) (by omega) (by omega) (by omega) hC hbb
    rw [hov_tree] at hput
    have t0 := hl.cell 0
    have t1 := hl.cell 1
    have c6 := b6.cell 0
    have c7 := b7.cell 0
    have c8 := b8.cell 0
    simp only [lcells, List.getElem?_toArray, List.getElem?_cons_zero, List.getElem?_cons_succ] at t0 t1 c6 c7 c8
    obtain ⟨f, hf⟩ : ∃ f, f = off n x := ⟨_, rfl⟩
    obtain ⟨y, hy⟩ : ∃ y, y = lv n (x + 1) := ⟨_, rfl⟩
    obtain ⟨q1, hq1⟩ : ∃ q1, q1 = 64 * off n x := ⟨_, rfl⟩
    obtain ⟨m1, hm1⟩ : ∃ m1, m1 = 64 * lv n (x + 1) := ⟨_, rfl⟩
    obtain ⟨z, hz⟩ : ∃ z, z = 64 * lv n x := ⟨_, rfl⟩
    obtain ⟨e, he⟩ : ∃ e, e = kd x := ⟨_, rfl⟩
    have HM1 : Hid ((f : Int) * 64 = ((q1 : Nat) : Int)) := (by omega : (f : Int) * 64 = ((q1 : Nat) : Int))
    have HM2 : Hid (((f : Int) + (y : Int)) * 64 = ((q1 + m1 : Nat) : Int)) := (by omega : ((f : Int) + (y : Int)) * 64 = ((q1 + m1 : Nat) : Int))
    have hqm : q1 + m1 ≤ M := by omega
    have hm0 : 0 < m1 := by omega
    have hf2 : f ≤ 22528 := by omega
    have hy2 : y ≤ 22528 := by omega
    have HV : Hid (q1 = 64 * off n x ∧ m1 = 64 * lv n (x + 1)) := ⟨hq1, hm1⟩
    rw [← hf] at t0
    rw [← hy] at t1
    rw [← hq1, ← hm1, ← hz, ← he] at hput
    rw [← hz] at c7
    rw [← he] at c8
    clear hf hy hq1 hm1 hz he hof hM' hst hyz hy1 hz1 hz2 hbb
    gi_wp2_with (first
      | (refine wpListIn_val rfl (.slice (some ⟨w2.heap.size, q1, none⟩) m1 (M - q1)) (fun _ _ => trivial) (by intro c h; cases h) ((run_slice_midX _ _ _ rfl w2.heap.size 0 M M q1 m1 rfl (congrArg _ HM1.out) (congrArg _ HM2.out) hqm hm0 _).trans (by rw [Nat.zero_add])) ?_))
    refine ⟨trivial, (callsIn_round hput).mono ?_⟩
    rintro e' w5 ⟨rfl, hrow5, hg5⟩
    clear hput c6 c7 c8 t0 t1
    have hne6 : w3.heap.size ≠ w2.heap.size := by omega
    have b6' := b6.grown hg5 hne6
    have b7' := b7.grown hg5 (by omega)
    have b8' := b8.grown hg5 (by omega)
    have hdg' := hdg.grown hg5 (by omega)
    have k7 := b7'.cell 0
    have f7 := b7'.free 0
    simp only [List.getElem?_toArray, List.getElem?_cons_zero] at k7
    have b8s := b8'.other (p := ⟨w3.heap.size + 1, 0, none⟩) (by show w3.heap.size + 2 ≠ w3.heap.size + 1; omega) (.slice (some ⟨w2.heap.size, q1, none⟩) m1 (M - q1))
    have k8 := b8s.cell 0
    have f8 := b8s.free 0
    simp only [List.getElem?_toArray, List.getElem?_cons_zero] at k8
    have b7s : Has (w5.setCell ⟨w3.heap.size + 1, 0, none⟩ (.slice (some ⟨w2.heap.size, q1, none⟩) m1 (M - q1))) (w3.heap.size + 1) 22 #[.slice (some ⟨w2.heap.size, q1, none⟩) m1 (M - q1)] := Boxed.set (t := 22) _ b7'
    have b8t : Has ((w5.setCell ⟨w3.heap.size + 1, 0, none⟩ (.slice (some ⟨w2.heap.size, q1, none⟩) m1 (M - q1))).setCell ⟨w3.heap.size + 2, 0, none⟩ (.int .u8 1)) (w3.heap.size + 2) 5 #[.int .u8 1] := Boxed.set (t := 5) _ b8s
    have hBB : Below w.heap.size W w5 := ⟨hg5.os, hg5.tape, hg5.output, hg5.size, fun k hk => hg5.block k (by have := hBw.size; omega) (fun e => by cases e; omega)⟩
    have st : Stay W ((w5.setCell ⟨w3.heap.size + 1, 0, none⟩ (.slice (some ⟨w2.heap.size, q1, none⟩) m1 (M - q1))).setCell ⟨w3.heap.size + 2, 0, none⟩ (.int .u8 1)) := ((Stay.grown hg5 (fun r e => by cases e; exact ⟨_, 5, _, hrow, by decide⟩)).trans (Stay.setCell b7' (by decide) 0 _)).trans (Stay.setCell b8s (by decide) 0 _)
    gi_wp2
    obtain ⟨e1, e2⟩ := HV.out
    refine ⟨st, some ⟨w2.heap.size, q1, none⟩, M - q1, ?_, ?_, ?_, ?_, ?_, ?_, ?_, ?_, ?_, ?_⟩
    · exact (b6'.other (by show w3.heap.size ≠ w3.heap.size + 1; omega) _).other (by show w3.heap.size ≠ w3.heap.size + 2; omega) _
    · rw [List.length_append, List.length_range, List.length_singleton, ← e2]
      exact b7s.other (by show w3.heap.size + 1 ≠ w3.heap.size + 2; omega) _
    · rw [List.length_append, List.length_range, List.length_singleton, ← e2]
      omega
    · rw [List.length_append, List.length_range, List.length_singleton]
      exact b8t
    · rw [List.length_append, List.length_range, List.length_singleton]
      exact (hrow5.other (by show w2.heap.size ≠ w3.heap.size + 1; omega) _).other (by show w2.heap.size ≠ w3.heap.size + 2; omega) _
    · exact (hdg'.other (by show w.heap.size ≠ w3.heap.size + 1; omega) _).other (by show w.heap.size ≠ w3.heap.size + 2; omega) _
    · exact ((hBw.trans hBB).setCell (by show w.heap.size ≤ w3.heap.size + 1; omega) _).setCell (by show w.heap.size ≤ w3.heap.size + 2; omega) _
    · exact Nat.le_trans hsz st.size
    · intro h
      simp at h
    · intro k hk
      rw [List.length_append, List.length_range, List.length_singleton] at hk
      obtain rfl : x = k := by omega
      rw [e1]
  case done =>
    rintro D W hD ⟨A, C, b6, b7, hC, b8, hrow, hdg, hBw, hsz, hA0, hA1⟩ hK
    rw [List.length_range, levN_in (by omega), Int.toNat_natCast] at b7 hC b8 hrow hA1
    obtain ⟨k, hk⟩ : ∃ k, dep n = k + 1 := ⟨dep n - 1, by have := dep_pos n; omega⟩
    have hA := hA1 k hk
    have e1 := off_step n k
    have hkk : kd (dep n) = 1 := by rw [hk]; rfl
    have hbb : Bytes W A 64 (lvl d n (dep n)) := by
      have := below_bytes (wr := W) (F' := tree d n (dep n)) (k := dep n) (c := c) (A := A) (by rw [← HL.out]; exact hb) hBw (by omega) (Nat.le_refl _) h1 HM.out (fun h => absurd h (by omega)) hA1 (grownBy_refl _ _) hrow (fun _ _ => rfl)
      rwa [lv_dep n h1] at this
    rw [lv_dep n h1] at b7 hC
    rw [hkk] at b8
    have hh := fun wz (hG : Glob Hc Kc wz) hb => mhash_any 1 (lvl d n (dep n)) A C wz hG (by decide) hb (lvl_lt d n hd (dep n)) hC
    obtain ⟨R, hR⟩ : ∃ R, R = hsh 1 (lvl d n (dep n)) := ⟨_, rfl⟩
    have HR : Hid (R = root d n) := hR
    rw [← hR] at hh
    clear hA0 hA1 hR
    go_wp2
    have hS0 : (fun wz : World => Has wz w3.heap.size 22 #[.slice (some ⟨w2.heap.size, 0, none⟩) M M] ∧ Has wz (w3.heap.size + 1) 22 #[.slice A (64 * 1) C] ∧ Has wz (w3.heap.size + 2) 5 #[.int .u8 (1 : Nat)]) W.drew := ⟨b6.drewN 1, b7.drewN 1, b8.drewN 1⟩
    have hBd : Below W.heap.size W W.drew := (Below.refl _ W).drew
    have hc1 := hh W.drew (hG.below (hBw.trans (hBd.mono hBw.size)) hG.1) (hbb.below hBd (Nat.le_refl _))
    refine Code.wp_mono calm_le ?_
    refine wp_region_held_drew (S := fun wz => Has wz w3.heap.size 22 #[.slice (some ⟨w2.heap.size, 0, none⟩) M M] ∧ Has wz (w3.heap.size + 1) 22 #[.slice A (64 * 1) C] ∧ Has wz (w3.heap.size + 2) 5 #[.int .u8 (1 : Nat)]) (by kernel_rfl) hS0 (fun hHeld => ?_)
    refine takeTo 0 (some 50) (.slice (some ⟨w2.heap.size, 0, none⟩) M M) rfl rfl (by kernel_rfl) (by kernel_rfl) (by kernel_rfl) (fun _ _ _ h => h) (by rfl) (fun wz hz => run_load_row1 _ rfl _ rfl _ wz (hz.1.cell 0)) hHeld ?_
    simp only [Act.put, List.setIfInBounds_toArray, List.set_cons_zero, List.set_cons_succ]
    refine takeTo 1 (some 51) (.int .u8 (1 : Nat)) rfl rfl (by kernel_rfl) (by kernel_rfl) (by kernel_rfl) (fun _ _ _ h => h) (by rfl) (fun wz hz => run_load_b5 _ rfl _ rfl _ wz (hz.2.2.cell 0)) hHeld ?_
    simp only [Act.put, List.setIfInBounds_toArray, List.set_cons_zero, List.set_cons_succ]
    refine takeTo 2 (some 52) (.slice A 64 C) rfl rfl (by kernel_rfl) (by kernel_rfl) (by kernel_rfl) (fun _ _ _ h => h) (by rfl) (fun wz hz => run_load_row1 _ rfl _ rfl _ wz (hz.2.1.cell 0)) hHeld ?_
    simp only [Act.put, List.setIfInBounds_toArray, List.set_cons_zero, List.set_cons_succ]
    refine callTo 3 (some 53) 15 #[.int .u8 (1 : Nat), .slice A 64 C] (by kernel_rfl) rfl rfl (by rfl) (by kernel_rfl) hc1 ?_
    rintro e6 w6 ⟨rfl, hb6⟩
    have hHeld := (show _ ∧ _ ∧ _ from ⟨hHeld.1.below hb6 hHeld.1.lt, hHeld.2.1.below hb6 hHeld.2.1.lt, hHeld.2.2.below hb6 hHeld.2.2.lt⟩ : Has w6 w3.heap.size 22 #[.slice (some ⟨w2.heap.size, 0, none⟩) M M] ∧ Has w6 (w3.heap.size + 1) 22 #[.slice A (64 * 1) C] ∧ Has w6 (w3.heap.size + 2) 5 #[.int .u8 (1 : Nat)])
    have hdg6 : Has w6 w.heap.size 24 (cellsN .u8 32 fun _ => 0) := (hdg.drewN 1).below hb6 hdg.lt
    have hrow6 : Has w6 w2.heap.size 5 (cellsN .u8 M (tree d n (dep n))) := (hrow.drewN 1).below hb6 hrow.lt
    have hK6 : w6.heap[D]? = some (.deferred (some [])) := (hb6.block D (Array.getElem?_eq_some_iff.1 hK).1).trans hK
    have hB6 : Below w.heap.size w w6 := (hBw.trans (hBd.mono hBw.size)).trans (hb6.mono hBw.size)
    refine ⟨_, rfl, hHeld, ?_⟩
    simp only [Act.put, List.setIfInBounds_toArray, List.set_cons_zero, List.set_cons_succ]
    clear hh hc1 hb6 hS0 b6 b7 b8 hdg hrow hbb
    refine takeTo 4 (some 2) (.slice (some ⟨w2.heap.size, 0, none⟩) M M) rfl rfl (by kernel_rfl) (by kernel_rfl) (by kernel_rfl) (fun _ _ _ h => h) (by rfl) (fun _ _ => rfl) hHeld ?_
    simp only [Act.put, List.setIfInBounds_toArray, List.set_cons_zero, List.set_cons_succ]
    have hD6 : w.heap.size ≠ D := by omega
    have hdg7 : Has (w6.setRow w.heap.size (cellsN .u8 32 R)) w.heap.size 24 (cellsN .u8 32 R) := hdg6.setRow _
    have hrow7 : Has (w6.setRow w.heap.size (cellsN .u8 32 R)) w2.heap.size 5 (cellsN .u8 M (tree d n (dep n))) := hrow6.setRow_other (by omega) _
    have hB7 : Below w.heap.size w (w6.setRow w.heap.size (cellsN .u8 32 R)) := below_setRow hB6 (Nat.le_refl _) _
    have hK7 : (w6.setRow w.heap.size (cellsN .u8 32 R)).heap[D]? = some (.deferred (some [])) := (setRow_other _ _ _ _ (by omega)).trans hK6
    refine ready1 5 (by kernel_rfl) (stepSkip none (w6.setRow w.heap.size (cellsN .u8 32 R)) rfl rfl (by rfl) (run_store_row 24 _ _ rfl w.heap.size rfl (cellsN .u8 32 R) rfl 24 (by rw [cellsN_size]; exact Tryd.size24) _ hdg6 (by simp [cellsN_size]) (cellsN_one _ _ _)) ⟨⟨hHeld.1.setRow_other (by omega) _, hHeld.2.1.setRow_other (by omega) _, hHeld.2.2.setRow_other (by omega) _⟩, ?_⟩)
    simp only [Act.put]
    have hHeld := (show _ ∧ _ ∧ _ from ⟨hHeld.1.setRow_other (by omega) (cellsN .u8 32 R), hHeld.2.1.setRow_other (by omega) (cellsN .u8 32 R), hHeld.2.2.setRow_other (by omega) (cellsN .u8 32 R)⟩ : Has (w6.setRow w.heap.size (cellsN .u8 32 R)) w3.heap.size 22 #[.slice (some ⟨w2.heap.size, 0, none⟩) M M] ∧ Has (w6.setRow w.heap.size (cellsN .u8 32 R)) (w3.heap.size + 1) 22 #[.slice A (64 * 1) C] ∧ Has (w6.setRow w.heap.size (cellsN .u8 32 R)) (w3.heap.size + 2) 5 #[.int .u8 (1 : Nat)])
    refine takeTo 6 (some 4) (.int .i64 0) rfl rfl (by kernel_rfl) (by kernel_rfl) (by kernel_rfl) (fun _ _ _ h => h) (by rfl) (fun _ _ => rfl) hHeld ?_
    simp only [Act.put, List.setIfInBounds_toArray, List.set_cons_zero, List.set_cons_succ]
    refine wpAnyH_done (by kernel_rfl) ?_ _
    simp only [calm]
    obtain ⟨w7, hw7⟩ : ∃ w7, w7 = w6.setRow w.heap.size (cellsN .u8 32 R) := ⟨_, rfl⟩
    rw [← hw7] at hdg7 hrow7 hB7 hK7 ⊢
    clear hw7 hHeld hdg6 hrow6 hB6 hK6
    go_wp2
    have g7 := grownBy_putObj' w7 D (.deferred none)
    have hne : ∀ r, some D = some r → 0 ≤ r ∧ ∃ o : Obj, w7.heap[r]? = some o ∧ o.isCells = false := fun r e => by cases e; exact ⟨Nat.zero_le _, _, hK7, rfl⟩
    have hdg8 := hdg7.ownF g7 hne
    have hrow8 := hrow7.ownF g7 hne
    refine ⟨by simp, .inl ⟨_, _, rfl, run_takeDeferred hK7, ?_⟩⟩
    refine ⟨_, results_mix rfl _ _ w.heap.size 24 _ (0, 0) 32 5 rfl hdg8 Tryd.underlying24 (by rw [cellsN_size]; exact Tryd.size24), ?_⟩
    rw [← HR.out]
    exact ⟨some ⟨w2.heap.size, 0, none⟩, M, rfl, Nat.le_refl _, (fun e => by cases e), hrow8.bytes, hB7.trans (belowK_b (w := w) (Nat.le_refl _) w7 D _ _ (by omega) hK7 rfl rfl)⟩
  case stop =>
    rintro D pre W _ _ h
    exact h.elim
end Go.Proofs.YtoeanaadlihkeabDoor
