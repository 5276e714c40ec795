/- The program's Check, of a sector that may be: it goes up the levels. -/
import Derived.Test.YtoeanaadlihkeabDoorMkBuildN
import Derived.Test.YtoeanaadlihkeabDoorMkPb
import Derived.Test.YtoeanaadlihkeabDoorMkText
namespace Go.Proofs.YtoeanaadlihkeabDoor
open Go.RowKit Go.Shelf
set_option linter.unusedVariables false

attribute [local go_sem] Oper.semAt_some

theorem run_neq_digs {o : Oper} {a : Act} (x y : Operand) (ho : o.op = .binOp .neq 24 x y 24) (f g : Nat → Nat) (hx : a.eval x = .agg (cellsN .u8 32 f)) (hy : a.eval y = .agg (cellsN .u8 32 g)) (hf : ∀ j, j < 32 → f j < 256) (hg : ∀ j, j < 32 → g j < 256) (c : Bool) (hc : eqB f g = !c) (w : World) :
    (execOp a.eval o).run Tryd.prog w = .ok (.value (.bool c)) w := by
  have heq := eq_digests f g w hf hg
  rw [hc] at heq
  unfold execOp
  simp only [ho, hx, hy]
  go_simp

theorem results_bool {fn : Func} {t : Tmp} (h : fn.results = #[.cell t 4]) (tmps : Array Value) (w : World) (g : Nat) (b : Bool) (hp : tmps.getD t undef = .pointer (some ⟨g, 0, none⟩)) (hg : w.cell? ⟨g, 0, none⟩ = some (.bool b)) :
    (results fn tmps).run Tryd.prog w = .ok (.bool b) w := by
  have hp' : tmps[t]?.getD undef = .pointer (some ⟨g, 0, none⟩) := by simpa using hp
  simp only [results, h]
  go_simp

/-- Between two rounds: the boxes of the path, of the answer, of what is shown and of the place. -/
def ChI (w : World) (S : Nat) (pa : Option Addr) (dd cap I : Nat) (x : Nat → Nat) (P : Nat → Nat → Nat) (Lp : Nat → Nat) (pre : List Nat) (W : World) : Prop :=
  Has W w.heap.size 29 #[.slice pa dd cap] ∧ Has W (w.heap.size + 1) 4 #[.bool false] ∧ Has W S 24 (cellsN .u8 32 (up x P pre.length)) ∧ Has W (S + 1) 3 #[.int .i64 (pl I pre.length : Nat)] ∧ Below w.heap.size w W ∧ S + 2 ≤ W.heap.size ∧ (∀ q, q < pre.length → Lp q = 64) ∧ Stands I x P pre.length

/-- It was left: something does not stand. -/
def ChX (w : World) (dd I : Nat) (x : Nat → Nat) (P : Nat → Nat → Nat) (Lp : Nat → Nat) (pre : List Nat) (W : World) : Prop :=
  Has W (w.heap.size + 1) 4 #[.bool false] ∧ Below w.heap.size w W ∧ ¬ ((∀ k, k < dd → Lp k = 64) ∧ Stands I x P dd)

theorem chI_firm (w : World) (S : Nat) (pa : Option Addr) (dd cap I : Nat) (x : Nat → Nat) (P : Nat → Nat → Nat) (Lp : Nat → Nat) (D : Nat) (hD : w.heap.size ≤ D) : Firm D (ChI w S pa dd cap I x P Lp) := by
  rintro pre A B row ⟨h1, h2, h3, h4, h5, h6, h7⟩ hg hr
  exact ⟨h1.firm (by decide) hg hr, h2.firm (by decide) hg hr, h3.firm (by decide) hg hr, h4.firm (by decide) hg hr, Firm.below (β := Unit) (Nat.le_refl _) hD () A B row h5 hg hr, Nat.le_trans h6 hg.size, h7⟩

theorem chX_firm (w : World) (dd I : Nat) (x : Nat → Nat) (P : Nat → Nat → Nat) (Lp : Nat → Nat) (D : Nat) (hD : w.heap.size ≤ D) : Firm D (ChX w dd I x P Lp) := by
  rintro pre A B row ⟨h2, h5, h7⟩ hg hr
  exact ⟨h2.firm (by decide) hg hr, Firm.below (β := Unit) (Nat.le_refl _) hD () A B row h5 hg hr, h7⟩

set_option maxRecDepth 100000 in
set_option maxHeartbeats 2000000 in
theorem Check_in (N I : Nat) (hI : I < N) (h2 : N ≤ 2048) (C : Nat) (a : Option Addr) (x : Nat → Nat) (cap : Nat) (pa : Option Addr) (A : Nat → Option Addr) (Lp Cp : Nat → Nat) (P : Nat → Nat → Nat) (Lr Cr : Nat) (ra : Option Addr) (r : Nat → Nat) (w : World) (hG : Glob Hc Kc w)
    (hC : 64 ≤ C) (hb : Bytes w a 64 x) (hx : ∀ j, x j < 256) (hP : Pieces w pa (dep N) A Lp Cp P) (hr : Bytes w ra Lr r) (hrn : ra = none → Lr = 0) (hrl : ∀ j, r j < 256) :
    CallsIn Fence.wide 3 Tryd.prog 17 #[.int .i64 (N : Nat), .int .i64 (I : Nat), .slice a (64 : Nat) C, .slice pa (dep N) cap, .slice ra Lr Cr] w fun e w' => (∃ b : Bool, e = .returned (.bool b) ∧ (b = true ↔ (∀ k, k < dep N → Lp k = 64) ∧ Stands I x P (dep N) ∧ Lr = 32 ∧ ∀ j, j < 32 → r j = up x P (dep N) j)) ∧ Below w.heap.size w w' := by
  have h1 : 1 ≤ N := by omega
  have KP : Hid (∀ wz, Calls Tryd.prog 16 #[.int .i64 (N : Nat), .int .i64 (I : Nat)] wz fun e w' => ∃ la lc, e = .returned (.slice la (dep N) lc) ∧ Below wz.heap.size wz w') := fun wz => Calls.mono (Path_ok N I wz ⟨by omega, by omega⟩ ⟨by omega, by omega⟩) (by
    rintro e w' ⟨la, lc, rfl, _, _, _, hb⟩
    rw [patN_in (by omega), Int.toNat_natCast]
    exact ⟨la, lc, rfl, hb⟩)
  have hdp := dep_pos N
  have hd11 := dep_11 N h2
  obtain ⟨dd, hdd⟩ : ∃ dd, dd = dep N := ⟨_, rfl⟩
  have HD : Hid (dd = dep N) := hdd
  rw [← hdd] at KP hdp hd11 hP ⊢
  have e0 : ¬ ((dd : Int) = 0) := by omega
  clear hdd
  obtain ⟨H, hH⟩ : ∃ H, H = hsh 0 x := ⟨_, rfl⟩
  have HH : Hid (H = hsh 0 x) := hH
  have KH := fun wz hG' hb' => mhash_any 0 x a C wz hG' (by decide) hb' hx hC
  rw [← hH] at KH
  clear hH
  have bp : Has ((w.alloc (.cells #[.slice pa dd cap] 29)).alloc (.cells #[.bool false] 4)) w.heap.size 29 #[.slice pa dd cap] := (Has.new _ _ _).alloc _
  have br : Has ((w.alloc (.cells #[.slice pa dd cap] 29)).alloc (.cells #[.bool false] 4)) (w.heap.size + 1) 4 #[.bool false] := Has.new_at (by simp)
  have hb0 : Below w.heap.size w ((w.alloc (.cells #[.slice pa dd cap] 29)).alloc (.cells #[.bool false] 4)) := ((Below.refl _ _).alloc (Nat.le_refl _) _).alloc (by simp) _
  refine callsIn_of_wp_marks Tryd.func17 rfl trivial ?_ rfl
  simp only [Tryd.ntmps17, List.size_toArray, List.length_cons, List.length_nil, Nat.reduceAdd, Nat.reduceSub, Array.replicate_succ, Array.replicate_zero, List.push_toArray, List.append_toArray, List.nil_append, List.cons_append]
  refine wpIn_wide.2 ?_
  go_wp2_with (first
    | ((go_at_call 16)
       (refine (KP.out _).mono ?_)
       (rintro e w1 ⟨la, lc, rfl, hb1⟩)
       (have bp1 := bp.below hb1 bp.lt)
       (have br1 := br.below hb1 br.lt)
       (have hB1 := hb0.trans (hb1.mono hb0.size))
       (have cp1 := bp1.cell 0)
       (simp only [List.getElem?_toArray, List.getElem?_cons_zero] at cp1)
       (have hs := KH w1 (hG.below hB1 hG.1) (hb.below hB1 (Nat.le_refl _)))
       (clear bp br hb0 hb1 KP KH))
    | ((go_at_call 15)
       (refine hs.mono ?_)
       (rintro e w2 ⟨rfl, hb2⟩)
       (have bp2 := ((bp1.below hb2 bp1.lt).alloc (.cells (cellsN .u8 32 fun _ => 0) 24)).alloc (.cells #[.int .i64 0] 3))
       (have br2 := ((br1.below hb2 br1.lt).alloc (.cells (cellsN .u8 32 fun _ => 0) 24)).alloc (.cells #[.int .i64 0] 3))
       (have hB2 : Below w.heap.size w ((w2.alloc (.cells (cellsN .u8 32 fun _ => 0) 24)).alloc (.cells #[.int .i64 0] 3)) := ((hB1.trans (hb2.mono hB1.size)).alloc (hB1.trans (hb2.mono hB1.size)).size _).alloc (by have := (hB1.trans (hb2.mono hB1.size)).size; simp; omega) _)
       (have hN2 : Has ((w2.alloc (.cells (cellsN .u8 32 fun _ => 0) 24)).alloc (.cells #[.int .i64 0] 3)) w2.heap.size 24 (cellsN .u8 32 fun _ => 0) := (Has.new _ _ _).alloc _)
       (have hp2 : Has ((w2.alloc (.cells (cellsN .u8 32 fun _ => 0) 24)).alloc (.cells #[.int .i64 0] 3)) (w2.heap.size + 1) 3 #[.int .i64 0] := Has.new_at (by simp))
       (have hsz2 : w.heap.size + 2 ≤ w2.heap.size := Nat.le_trans br1.lt hb2.size)
       (clear hs bp1 br1 hB1 hb2 cp1))
    | ((refine wpList_store_rowG rfl 24 _ _ rfl w2.heap.size (cellsN .u8 32 H) rfl rfl 24 _ hN2 (by rw [cellsN_size]; exact Tryd.size24) (by simp [cellsN_size]) (cellsN_one _ _ _) ?_)
       (intro w3 hw3)
       (have hN3 : Has w3 w2.heap.size 24 (cellsN .u8 32 H) := (by rw [hw3]; exact hN2.setRow _))
       (have bp3 : Has w3 w.heap.size 29 #[.slice pa dd cap] := (by rw [hw3]; exact bp2.setRow_other (by omega) _))
       (have br3 : Has w3 (w.heap.size + 1) 4 #[.bool false] := (by rw [hw3]; exact br2.setRow_other (by omega) _))
       (have hp3 : Has w3 (w2.heap.size + 1) 3 #[.int .i64 0] := (by rw [hw3]; exact hp2.setRow_other (by omega) _))
       (have hB3 : Below w.heap.size w w3 := (by rw [hw3]; exact below_setRow hB2 (by omega) _))
       (have hs3 : w3.heap.size = w2.heap.size + 2 := (by rw [hw3]; simp [World.setRow]))
       (have kp3 := hp3.cell 0)
       (have fp3 := hp3.free 0)
       (simp only [List.getElem?_toArray, List.getElem?_cons_zero] at kp3)
       (clear hw3 hN2 bp2 br2 hp2 hB2))
    | ((go_at_call 13)
       (refine (levels_any _ _).mono ?_)
       (rintro e w4 ⟨rfl, rfl⟩)))
  refine (wpIn_wide (n := 3)).1 ?_
  obtain ⟨W0, hW0⟩ : ∃ W0, W0 = (w3.setCell ⟨w2.heap.size + 1, 0, none⟩ (.int .i64 (I : Nat))).alloc (.cells #[.int .i64 (N : Nat)] 3) := ⟨_, rfl⟩
  have hss : (w3.setCell ⟨w2.heap.size + 1, 0, none⟩ (.int .i64 (I : Nat))).heap.size = w2.heap.size + 2 := by rw [size_setCell, hs3]
  have hb0 : Has W0 (w2.heap.size + 2) 3 #[.int .i64 (N : Nat)] := by rw [hW0]; exact Has.new_at hss.symm
  have hs0 : W0.heap.size = w2.heap.size + 3 := by rw [hW0, World.size_alloc, hss]
  have h0 : ChI w w2.heap.size pa dd cap I x P Lp [] W0 := by
    rw [hW0]
    refine ⟨(bp3.other (by show w.heap.size ≠ w2.heap.size + 1; omega) _).alloc _, (br3.other (by show w.heap.size + 1 ≠ w2.heap.size + 1; omega) _).alloc _, ?_, ?_, ?_, by rw [World.size_alloc, hss]; omega, (fun q hq => by simp at hq), (fun q hq => by simp at hq)⟩
    · rw [show up x P ([] : List Nat).length = H from HH.out.symm]
      exact (hN3.other (by show w2.heap.size ≠ w2.heap.size + 1; omega) _).alloc _
    · exact Has.alloc (Boxed.set (t := 3) _ hp3) _
    · exact (hB3.setCell (by show w.heap.size ≤ w2.heap.size + 1; omega) _).alloc (by rw [hss]; omega) _
  rw [← hW0]
  clear hW0 bp3 br3 hN3 hp3 hB3 kp3 fp3 hss hs3
  have hlev : levN (N : Int) = dd := by rw [levN_in (by omega), Int.toNat_natCast, HD.out]
  refine range_law (n := 3) (gf := 21) (lb := #[.pointer (some ⟨w2.heap.size + 2, 0, none⟩)]) rfl (enters_of Tryd.func21 (by kernel_rfl) rfl)
    (lev_seq (3 - 1) (w2.heap.size + 2) N W0 (by omega) (hb0.cell 0)) (fun _ => rfl)
    (ChI w w2.heap.size pa dd cap I x P Lp) (ChX w dd I x P Lp) (chI_firm w _ _ _ _ _ _ _ _ _ (by omega)) (chX_firm w _ _ _ _ _ _ (by omega)) h0
    (fun k a' _ => a' = { tmps := #[.int .i64 (N : Nat), .int .i64 (I : Nat), .slice a 64 C, .slice pa dd cap, .slice ra Lr Cr, undef, undef, undef, .pointer (some ⟨w.heap.size, 0, none⟩), undef, .pointer (some ⟨w.heap.size + 1, 0, none⟩), .int .i64 (dd : Nat), .pointer (some ⟨w2.heap.size, 0, none⟩), .pointer (some ⟨w2.heap.size + 1, 0, none⟩), .int .i64 (k : Nat), undef, .int .i64 (N : Nat), .int .i64 (I : Nat), .slice la dd lc, .int .i64 (dd : Nat), .int .i64 (dd : Nat), .bool false, .bool false, .slice pa dd cap, .int .i64 (dd : Nat), .int .i64 (dd : Nat), .bool false, .bool false, .bool false, .slice a 64 C, .int .i64 64, .bool false, .bool false, .slice a 64 C, .agg (cellsN .u8 32 H), .int .i64 (I : Nat), .int .i64 (N : Nat), .func (.func 21) #[] #[.pointer (some ⟨w2.heap.size + 2, 0, none⟩)], .int .i64 (k : Nat), .agg (lcells (off N k) (lv N (k + 1))), undef, undef, undef, undef, undef, undef, undef, undef, undef, undef, undef, undef, undef, undef, undef, undef, undef, undef, undef, undef, undef, undef], defers := [] }) (fun _ _ _ _ _ _ h _ _ => h) ?assign ?body ?done ?stop
  case assign =>
    intro l pre k W K hI hK
    simp only [lenc]
    gi_wp2
    exact hK _ _ (Stay.refl _) hI rfl
  case body =>
    rintro l pre k a' W hpre ⟨bp, br, bs, bl, hBw, hsz, hLp, hSt⟩ rfl
    obtain ⟨hk, rfl⟩ := next_range hpre
    rw [hlev] at hk
    rw [List.length_range] at bs bl hLp hSt
    obtain ⟨⟨pb, po, rfl, hpb, hpc⟩, hLC, hAn, hAb, hAl⟩ := hP k hk
    have cp := bp.cell 0
    simp only [List.getElem?_toArray, List.getElem?_cons_zero] at cp
    have i0 : (k : Int) < (dd : Int) := by omega
    have i1 : (0 : Int) ≤ (k : Int) := by omega
    have c1 : W.cell? ⟨pb, po + k, none⟩ = some (.slice (A k) (Lp k) (Cp k)) := (hBw.cell (p := ⟨pb, po + k, none⟩) hpb).trans hpc
    have hAb' := hAb.below hBw (Nat.le_refl _)
    obtain ⟨p, hp⟩ : ∃ p, p = pl I k := ⟨_, rfl⟩
    obtain ⟨U, hU⟩ : ∃ U, U = up x P k := ⟨_, rfl⟩
    obtain ⟨X, hX⟩ : ∃ X, X = P k := ⟨_, rfl⟩
    obtain ⟨sA, hsA⟩ : ∃ sA, sA = A k := ⟨_, rfl⟩
    obtain ⟨sL, hsL⟩ : ∃ sL, sL = Lp k := ⟨_, rfl⟩
    obtain ⟨sC, hsC⟩ : ∃ sC, sC = Cp k := ⟨_, rfl⟩
    have HV : Hid (p = pl I k ∧ U = up x P k ∧ X = P k ∧ sL = Lp k) := ⟨hp, hU, hX, hsL⟩
    have hUl : ∀ j, U j < 256 := by rw [hU]; exact up_lt x P k
    have hp2 : p ≤ 2048 := by rw [hp]; have := pl_le I k; omega
    rw [← hp] at bl
    rw [← hU] at bs
    rw [← hX] at hAb' hAl
    rw [← hsL] at c1 hLC hAb' hAn
    rw [← hsA] at c1 hAn hAb'
    rw [← hsC] at c1 hLC
    clear hp hU hX hsA hsL hsC hpc hAb
    gi_wp2
    by_cases hl64 : sL = 64
    · subst hl64
      obtain ⟨sb, so, rfl⟩ : ∃ sb so, sA = some ⟨sb, so, none⟩ := by
        rcases hAb' with h | ⟨b', o', e, _⟩
        · omega
        · exact ⟨b', o', e⟩
      obtain ⟨V, hV⟩ : ∃ V : Nat → Nat, V = fun j => X (32 * (p % 2) + j) := ⟨_, rfl⟩
      have hVl : ∀ j, V j < 256 := fun j => by rw [hV]; exact hAl _
      have hBd : Below W.heap.size W W.drew := (Below.refl _ W).drew
      have hAd := hAb'.below hBd (Nat.le_refl _)
      have hat := hash_at (p % 2) X sb so sC W.drew (by omega) hAd hLC
      rw [← hV] at hat
      have hS0 : (fun wz : World => Has wz (w2.heap.size + 1) 3 #[.int .i64 (p : Nat)] ∧ Has wz w2.heap.size 24 (cellsN .u8 32 U)) W.drew := ⟨bl.drewN 1, bs.drewN 1⟩
      refine region_held_in (S := fun wz : World => Has wz (w2.heap.size + 1) 3 #[.int .i64 (p : Nat)] ∧ Has wz w2.heap.size 24 (cellsN .u8 32 U)) ?_ (by kernel_rfl) hS0 (fun hHeld => ?_)
      · rintro ⟨_, _, h⟩
        exact h
      refine takeTo 0 (some 44) (.slice (some ⟨sb, so, none⟩) 64 sC) rfl rfl (by kernel_rfl) (by kernel_rfl) (by kernel_rfl) (fun _ _ _ h => h) (by rfl) (fun _ _ => rfl) hHeld ?_
      simp only [Act.put, List.setIfInBounds_toArray, List.set_cons_zero, List.set_cons_succ]
      refine takeTo 1 (some 45) (.int .i64 (64 : Nat)) rfl rfl (by kernel_rfl) (by kernel_rfl) (by kernel_rfl) (fun _ _ _ h => h) (by rfl) (fun wz _ => run_len_of 22 5 Tryd.underlying22 _ rfl _ 64 sC rfl wz) hHeld ?_
      simp only [Act.put, List.setIfInBounds_toArray, List.set_cons_zero, List.set_cons_succ]
      refine takeTo 2 (some 46) (.bool false) rfl rfl (by kernel_rfl) (by kernel_rfl) (by kernel_rfl) (fun _ _ _ h => h) (by rfl) (fun wz _ => run_neq_i _ _ rfl 64 64 rfl rfl false rfl wz) hHeld ?_
      simp only [Act.put, List.setIfInBounds_toArray, List.set_cons_zero, List.set_cons_succ]
      refine takeTo 3 (some 47) (.bool false) rfl rfl (by kernel_rfl) (by kernel_rfl) (by kernel_rfl) (fun _ _ _ h => h) (by rfl) (fun _ _ => rfl) hHeld ?_
      simp only [Act.put, List.setIfInBounds_toArray, List.set_cons_zero, List.set_cons_succ]
      refine takeTo 4 (some 48) (.slice (some ⟨sb, so, none⟩) 64 sC) rfl rfl (by kernel_rfl) (by kernel_rfl) (by kernel_rfl) (fun _ _ _ h => h) (by rfl) (fun _ _ => rfl) hHeld ?_
      simp only [Act.put, List.setIfInBounds_toArray, List.set_cons_zero, List.set_cons_succ]
      refine takeTo 5 (some 49) (.int .i64 (p : Nat)) rfl rfl (by kernel_rfl) (by kernel_rfl) (by kernel_rfl) (fun _ _ _ h => h) (by rfl) (fun wz hz => run_load_3 _ rfl _ rfl _ wz (hz.1.cell 0)) hHeld ?_
      simp only [Act.put, List.setIfInBounds_toArray, List.set_cons_zero, List.set_cons_succ]
      refine takeTo 6 (some 50) (.int .i64 ((p % 2 : Nat) : Int)) rfl rfl (by kernel_rfl) (by kernel_rfl) (by kernel_rfl) (fun _ _ _ h => h) (by rfl) (fun wz _ => run_rem2 _ _ rfl p rfl rfl (by omega) wz) hHeld ?_
      simp only [Act.put, List.setIfInBounds_toArray, List.set_cons_zero, List.set_cons_succ]
      refine takeTo 8 (some 52) (.agg (cellsN .u8 32 U)) rfl rfl (by kernel_rfl) (by kernel_rfl) (by kernel_rfl) (fun _ _ _ h => h) (by rfl) (fun wz hz => run_load_row 24 _ rfl w2.heap.size rfl _ 24 Tryd.underlying24 (by rw [cellsN_size]; exact Tryd.size24) wz hz.2) hHeld ?_
      simp only [Act.put, List.setIfInBounds_toArray, List.set_cons_zero, List.set_cons_succ]
      refine callTo 7 (some 51) 23 #[.slice (some ⟨sb, so, none⟩) 64 sC, .int .i64 ((p % 2 : Nat) : Int)] (by kernel_rfl) rfl rfl (by rfl) (by kernel_rfl) hat ?_
      rintro e5 w5 ⟨rfl, hb5⟩
      have hHeld : Has w5 (w2.heap.size + 1) 3 #[.int .i64 (p : Nat)] ∧ Has w5 w2.heap.size 24 (cellsN .u8 32 U) := ⟨hHeld.1.below hb5 hHeld.1.lt, hHeld.2.below hb5 hHeld.2.lt⟩
      refine ⟨_, rfl, hHeld, ?_⟩
      simp only [Act.put, List.setIfInBounds_toArray, List.set_cons_zero, List.set_cons_succ]
      have hb5W : Below W.heap.size W w5 := hBd.trans hb5
      have bp5 := bp.below hb5W bp.lt
      have br5 := br.below hb5W br.lt
      have hB5 : Below w.heap.size w w5 := hBw.trans (hb5W.mono hBw.size)
      have st5 : Stay W w5 := Stay.below hb5W (Nat.le_refl _)
      have hA5 := hAb'.below hb5W (Nat.le_refl _)
      clear hat hS0 hAd hb5 bl bs
      by_cases hEq : eqB V U = true
      ·
        refine takeTo 9 (some 53) (.bool false) rfl rfl (by kernel_rfl) (by kernel_rfl) (by kernel_rfl) (fun _ _ _ h => h) (by rfl) (fun wz _ => run_neq_digs _ _ rfl V U rfl rfl (fun j _ => hVl j) (fun j _ => hUl j) false (by rw [hEq]; rfl) wz) hHeld ?_
        simp only [Act.put, List.setIfInBounds_toArray, List.set_cons_zero, List.set_cons_succ]
        refine takeTo 10 (some 54) (.bool false) rfl rfl (by kernel_rfl) (by kernel_rfl) (by kernel_rfl) (fun _ _ _ h => h) (by rfl) (fun _ _ => rfl) hHeld ?_
        simp only [Act.put, List.setIfInBounds_toArray, List.set_cons_zero, List.set_cons_succ]
        refine wpAnyH_done (by kernel_rfl) ?_ _
        have hs6 := mhash_any 1 X (some ⟨sb, so, none⟩) sC w5.drew (hG.below (hB5.drew) hG.1) (by decide) (hA5.below (Below.refl _ w5).drew (Nat.le_refl _)) hAl hLC
        obtain ⟨R, hR⟩ : ∃ R, R = hsh 1 X := ⟨_, rfl⟩
        rw [← hR] at hs6
        have HR : Hid (R = hsh 1 X ∧ (∀ j, j < 32 → V j = U j) ∧ V = fun j => X (32 * (p % 2) + j)) := ⟨hR, (eqB_iff V U).1 hEq, hV⟩
        have hu5 : Has w5.drew w2.heap.size 24 (cellsN .u8 32 U) := hHeld.2.drewN 1
        have hS1 : (fun wz : World => Has wz (w2.heap.size + 1) 3 #[.int .i64 (p : Nat)]) w5.drew := hHeld.1.drewN 1
        clear hR hV hEq hHeld
        gi_wp2
        refine last_in (S := fun wz : World => Has wz (w2.heap.size + 1) 3 #[.int .i64 (p : Nat)]) 5 ?_ (by kernel_rfl) hS1 (fun hHeld => ?_)
        · rintro ⟨_, _, h⟩
          exact h
        refine takeL 0 (some 55) (.slice (some ⟨sb, so, none⟩) 64 sC) rfl rfl (by decide) (by kernel_rfl) (by kernel_rfl) (by kernel_rfl) (by kernel_rfl) (fun _ _ _ h => h) (by rfl) (fun _ _ => rfl) hHeld ?_
        simp only [Act.put, List.setIfInBounds_toArray, List.set_cons_zero, List.set_cons_succ]
        refine takeL 2 (some 57) (.int .i64 (p : Nat)) rfl rfl (by decide) (by kernel_rfl) (by kernel_rfl) (by kernel_rfl) (by kernel_rfl) (fun _ _ _ h => h) (by rfl) (fun wz hz => run_load_3 _ rfl _ rfl _ wz (hz.cell 0)) hHeld ?_
        simp only [Act.put, List.setIfInBounds_toArray, List.set_cons_zero, List.set_cons_succ]
        refine takeL 3 (some 58) (.int .i64 ((p / 2 : Nat) : Int)) rfl rfl (by decide) (by kernel_rfl) (by kernel_rfl) (by kernel_rfl) (by kernel_rfl) (fun _ _ _ h => h) (by rfl) (fun wz _ => run_quo2 _ _ rfl p rfl rfl (by omega) wz) hHeld ?_
        simp only [Act.put, List.setIfInBounds_toArray, List.set_cons_zero, List.set_cons_succ]
        refine callL 1 (some 56) 15 #[.int .u8 (1 : Nat), .slice (some ⟨sb, so, none⟩) 64 sC] (by kernel_rfl) rfl rfl (by rfl) (by kernel_rfl) hs6 ?_
        rintro e6 w6 ⟨rfl, hb6⟩
        have hHeld : Has w6 (w2.heap.size + 1) 3 #[.int .i64 (p : Nat)] := hHeld.below hb6 hHeld.lt
        refine ⟨_, rfl, hHeld, ?_⟩
        simp only [Act.put, List.setIfInBounds_toArray, List.set_cons_zero, List.set_cons_succ]
        have hb6W : Below w5.heap.size w5 w6 := ((Below.refl _ w5).drew).trans hb6
        have hu6 : Has w6 w2.heap.size 24 (cellsN .u8 32 U) := hu5.below hb6 hu5.lt
        have bp6 := bp5.below hb6W bp5.lt
        have br6 := br5.below hb6W br5.lt
        have hB6 : Below w.heap.size w w6 := hB5.trans (hb6W.mono hB5.size)
        have st6 : Stay W w6 := st5.trans (Stay.below hb6W (Nat.le_refl _))
        have hH7 : Has (w6.setRow w2.heap.size (cellsN .u8 32 R)) (w2.heap.size + 1) 3 #[.int .i64 (p : Nat)] := hHeld.setRow_other (by omega) _
        have hu7 : Has (w6.setRow w2.heap.size (cellsN .u8 32 R)) w2.heap.size 24 (cellsN .u8 32 R) := hu6.setRow _
        refine skipL 4 none (w6.setRow w2.heap.size (cellsN .u8 32 R)) (by kernel_rfl) rfl rfl (by rfl) (run_store_row 24 _ _ rfl w2.heap.size rfl (cellsN .u8 32 R) rfl 24 (by rw [cellsN_size]; exact Tryd.size24) _ hu6 (by simp [cellsN_size]) (cellsN_one _ _ _)) hH7 ?_
        simp only [Act.put]
        refine lastSkip 5 none ((w6.setRow w2.heap.size (cellsN .u8 32 R)).setCell ⟨w2.heap.size + 1, 0, none⟩ (.int .i64 ((p / 2 : Nat) : Int))) (by kernel_rfl) rfl rfl (by rfl) (run_store_3 _ _ rfl (w2.heap.size + 1) rfl _ rfl _ hH7) (by kernel_rfl) ?_
        simp only [Act.put]
        have st8 : Stay W ((w6.setRow w2.heap.size (cellsN .u8 32 R)).setCell ⟨w2.heap.size + 1, 0, none⟩ (.int .i64 ((p / 2 : Nat) : Int))) := (st6.trans (Stay.setRow hu6 (by decide) _)).trans (Stay.setCell hH7 (by decide) 0 _)
        obtain ⟨e1, e2, e3⟩ := HR.out
        obtain ⟨e4, e5, e6, e7⟩ := HV.out
        refine ⟨st8, ?_, ?_, ?_, ?_, ?_, ?_, ?_, ?_⟩
        · exact (bp6.setRow_other (by omega) _).other (by show w.heap.size ≠ w2.heap.size + 1; omega) _
        · exact (br6.setRow_other (by omega) _).other (by show w.heap.size + 1 ≠ w2.heap.size + 1; omega) _
        · rw [List.length_append, List.length_range, List.length_singleton, show up x P (k + 1) = R by rw [e1, e6]; rfl]
          exact hu7.other (by show w2.heap.size ≠ w2.heap.size + 1; omega) _
        · rw [List.length_append, List.length_range, List.length_singleton, pl_step, ← e4]
          exact Boxed.set (t := 3) _ hH7
        · exact (below_setRow hB6 (by omega) _).setCell (by show w.heap.size ≤ w2.heap.size + 1; omega) _
        · exact Nat.le_trans hsz st8.size
        · intro q hq
          rw [List.length_append, List.length_range, List.length_singleton] at hq
          by_cases h : q = k
          · rw [h, ← e7]
          · exact hLp q (by omega)
        · rw [List.length_append, List.length_range, List.length_singleton]
          refine stands_more hSt (fun j hj => ?_)
          rw [← e4, ← e5, ← e2 j hj, e3, e6]
      ·
        refine takeTo 9 (some 53) (.bool true) rfl rfl (by kernel_rfl) (by kernel_rfl) (by kernel_rfl) (fun _ _ _ h => h) (by rfl) (fun wz _ => run_neq_digs _ _ rfl V U rfl rfl (fun j _ => hVl j) (fun j _ => hUl j) true (by simpa using hEq) wz) hHeld ?_
        simp only [Act.put, List.setIfInBounds_toArray, List.set_cons_zero, List.set_cons_succ]
        refine takeTo 10 (some 54) (.bool true) rfl rfl (by kernel_rfl) (by kernel_rfl) (by kernel_rfl) (fun _ _ _ h => h) (by rfl) (fun _ _ => rfl) hHeld ?_
        simp only [Act.put, List.setIfInBounds_toArray, List.set_cons_zero, List.set_cons_succ]
        refine wpAnyH_done (by kernel_rfl) ?_ _
        have c4 := br5.cell 0
        have f4 := br5.free 0
        simp only [List.getElem?_toArray, List.getElem?_cons_zero] at c4
        have st8 : Stay W (w5.setCell ⟨w.heap.size + 1, 0, none⟩ (.bool false)) := st5.trans (Stay.setCell br5 (by decide) 0 _)
        have br8 : Has (w5.setCell ⟨w.heap.size + 1, 0, none⟩ (.bool false)) (w.heap.size + 1) 4 #[.bool false] := Boxed.set (t := 4) _ br5
        have hB8 : Below w.heap.size w (w5.setCell ⟨w.heap.size + 1, 0, none⟩ (.bool false)) := hB5.setCell (by show w.heap.size ≤ w.heap.size + 1; omega) _
        gi_wp2
        obtain ⟨e4, e5, e6, e7⟩ := HV.out
        refine ⟨st8, br8, hB8, fun h => hEq ((eqB_iff V U).2 fun j hj => ?_)⟩
        have := h.2 k hk j hj
        rw [hV, e6, e5, e4]
        exact this
    · have hS0 : (fun _ : World => True) W.drew := trivial
      refine region_held_in (S := fun _ : World => True) ?_ (by kernel_rfl) hS0 (fun hHeld => ?_)
      · rintro ⟨_, _, h⟩
        exact h
      refine takeTo 0 (some 44) (.slice sA sL sC) rfl rfl (by kernel_rfl) (by kernel_rfl) (by kernel_rfl) (fun _ _ _ h => h) (by rfl) (fun _ _ => rfl) hHeld ?_
      simp only [Act.put, List.setIfInBounds_toArray, List.set_cons_zero, List.set_cons_succ]
      refine takeTo 1 (some 45) (.int .i64 (sL : Nat)) rfl rfl (by kernel_rfl) (by kernel_rfl) (by kernel_rfl) (fun _ _ _ h => h) (by rfl) (fun wz _ => run_len_of 22 5 Tryd.underlying22 _ rfl _ sL sC rfl wz) hHeld ?_
      simp only [Act.put, List.setIfInBounds_toArray, List.set_cons_zero, List.set_cons_succ]
      refine takeTo 2 (some 46) (.bool true) rfl rfl (by kernel_rfl) (by kernel_rfl) (by kernel_rfl) (fun _ _ _ h => h) (by rfl) (fun wz _ => run_neq_i _ _ rfl sL 64 rfl rfl true (by simpa using hl64) wz) hHeld ?_
      simp only [Act.put, List.setIfInBounds_toArray, List.set_cons_zero, List.set_cons_succ]
      refine takeTo 3 (some 47) (.bool true) rfl rfl (by kernel_rfl) (by kernel_rfl) (by kernel_rfl) (fun _ _ _ h => h) (by rfl) (fun _ _ => rfl) hHeld ?_
      simp only [Act.put, List.setIfInBounds_toArray, List.set_cons_zero, List.set_cons_succ]
      refine skipTo 4 (some 48) rfl rfl (by kernel_rfl) (by kernel_rfl) (by kernel_rfl) (fun _ _ _ h => h) (by rfl) hHeld ?_
      simp only [Act.put, List.setIfInBounds_toArray, List.set_cons_zero, List.set_cons_succ]
      refine skipTo 5 (some 49) rfl rfl (by kernel_rfl) (by kernel_rfl) (by kernel_rfl) (fun _ _ _ h => h) (by rfl) hHeld ?_
      simp only [Act.put, List.setIfInBounds_toArray, List.set_cons_zero, List.set_cons_succ]
      refine skipTo 6 (some 50) rfl rfl (by kernel_rfl) (by kernel_rfl) (by kernel_rfl) (fun _ _ _ h => h) (by rfl) hHeld ?_
      simp only [Act.put, List.setIfInBounds_toArray, List.set_cons_zero, List.set_cons_succ]
      refine skipTo 7 (some 51) rfl rfl (by kernel_rfl) (by kernel_rfl) (by kernel_rfl) (fun _ _ _ h => h) (by rfl) hHeld ?_
      simp only [Act.put, List.setIfInBounds_toArray, List.set_cons_zero, List.set_cons_succ]
      refine skipTo 8 (some 52) rfl rfl (by kernel_rfl) (by kernel_rfl) (by kernel_rfl) (fun _ _ _ h => h) (by rfl) hHeld ?_
      simp only [Act.put, List.setIfInBounds_toArray, List.set_cons_zero, List.set_cons_succ]
      refine skipTo 9 (some 53) rfl rfl (by kernel_rfl) (by kernel_rfl) (by kernel_rfl) (fun _ _ _ h => h) (by rfl) hHeld ?_
      simp only [Act.put, List.setIfInBounds_toArray, List.set_cons_zero, List.set_cons_succ]
      refine takeTo 10 (some 54) (.bool true) rfl rfl (by kernel_rfl) (by kernel_rfl) (by kernel_rfl) (fun _ _ _ h => h) (by rfl) (fun _ _ => rfl) hHeld ?_
      simp only [Act.put, List.setIfInBounds_toArray, List.set_cons_zero, List.set_cons_succ]
      refine wpAnyH_done (by kernel_rfl) ?_ _
      have c4 := br.cell 0
      have f4 := br.free 0
      simp only [List.getElem?_toArray, List.getElem?_cons_zero] at c4
      have st8 : Stay W (W.drew.setCell ⟨w.heap.size + 1, 0, none⟩ (.bool false)) := (Stay.below (Below.refl _ W).drew (Nat.le_refl _)).trans (Stay.setCell (br.drewN 1) (by decide) 0 _)
      have br8 : Has (W.drew.setCell ⟨w.heap.size + 1, 0, none⟩ (.bool false)) (w.heap.size + 1) 4 #[.bool false] := Boxed.set (t := 4) _ (br.drewN 1)
      have hB8 : Below w.heap.size w (W.drew.setCell ⟨w.heap.size + 1, 0, none⟩ (.bool false)) := hBw.drew.setCell (by show w.heap.size ≤ w.heap.size + 1; omega) _
      gi_wp2
      obtain ⟨e4, e5, e6, e7⟩ := HV.out
      exact ⟨st8, br8, hB8, fun h => hl64 (by rw [e7]; exact h.1 k hk)⟩
  case done =>
    rintro D W hD ⟨bp, br, bs, bl, hBw, hsz, hLp, hSt⟩ hK
    rw [List.length_range, hlev] at bs hLp hSt
    obtain ⟨U, hU⟩ : ∃ U, U = up x P dd := ⟨_, rfl⟩
    have hUl : ∀ j, U j < 256 := by rw [hU]; exact up_lt x P dd
    rw [← hU] at bs
    have HU : Hid (U = up x P dd) := hU
    have heq := bytes_equal U r 32 32 Lr Cr (some ⟨w2.heap.size, 0, none⟩) ra W bs.bytes (hr.below hBw (Nat.le_refl _)) hUl hrl (fun e => by cases e) hrn
    obtain ⟨b, hb'⟩ : ∃ b, b = (strN U 32 == strN r Lr) := ⟨_, rfl⟩
    have HB : Hid (b = (strN U 32 == strN r Lr)) := hb'
    rw [← hb'] at heq
    have c4 := br.cell 0
    have f4 := br.free 0
    simp only [List.getElem?_toArray, List.getElem?_cons_zero] at c4
    clear hU hb'
    go_wp2_with (first
      | ((go_at_call 24)
         (refine heq.mono ?_)
         (rintro e w9 ⟨rfl, hw9⟩)
         (subst hw9)))
    have br9 : Has (w9.setCell ⟨w.heap.size + 1, 0, none⟩ (.bool b)) (w.heap.size + 1) 4 #[.bool b] := Boxed.set (t := 4) _ br
    have hK9 : (w9.setCell ⟨w.heap.size + 1, 0, none⟩ (.bool b)).heap[D]? = some (.deferred (some [])) := (Below.heap_setCell w9 ⟨w.heap.size + 1, 0, none⟩ (.bool b) D (by show D ≠ w.heap.size + 1; omega)).trans hK
    have hB9 : Below w.heap.size w (w9.setCell ⟨w.heap.size + 1, 0, none⟩ (.bool b)) := hBw.setCell (by show w.heap.size ≤ w.heap.size + 1; omega) _
    obtain ⟨w10, hw10⟩ : ∃ w10, w10 = w9.setCell ⟨w.heap.size + 1, 0, none⟩ (.bool b) := ⟨_, rfl⟩
    rw [← hw10] at br9 hK9 hB9 ⊢
    have hne : ∀ r, some D = some r → 0 ≤ r ∧ ∃ o : Obj, w10.heap[r]? = some o ∧ o.isCells = false := fun r e => by cases e; exact ⟨Nat.zero_le _, _, hK9, rfl⟩
    have br10 := (br9.ownF (grownBy_putObj' w10 D (.deferred none)) hne).cell 0
    refine ⟨by simp, .inl ⟨_, _, rfl, run_takeDeferred hK9, ?_⟩⟩
    refine ⟨_, results_bool rfl _ _ (w.heap.size + 1) b rfl br10, ⟨b, rfl, ?_⟩, hB9.trans (belowK_b (w := w) (Nat.le_refl _) w10 D _ _ (by omega) hK9 rfl rfl)⟩
    rw [HB.out, HU.out, beq_iff_eq, strN_eq (up_lt x P dd) hrl]
    constructor
    · rintro ⟨e1, e2⟩
      exact ⟨hLp, hSt, e1.symm, fun j hj => (e2 j hj).symm⟩
    · rintro ⟨_, _, e1, e2⟩
      exact ⟨e1.symm, fun j hj => (e2 j hj).symm⟩
  case stop =>
    rintro D pre W hD hpre ⟨br, hBw, hno⟩ hK
    gi_wp2
    have hne : ∀ r, some D = some r → 0 ≤ r ∧ ∃ o : Obj, W.heap[r]? = some o ∧ o.isCells = false := fun r e => by cases e; exact ⟨Nat.zero_le _, _, hK, rfl⟩
    have br10 := (br.ownF (grownBy_putObj' W D (.deferred none)) hne).cell 0
    refine ⟨by simp, .inl ⟨_, _, rfl, run_takeDeferred hK, ?_⟩⟩
    refine ⟨_, results_bool rfl _ _ (w.heap.size + 1) false rfl br10, ⟨false, rfl, ?_⟩, hBw.trans (belowK_b (w := w) (Nat.le_refl _) W D _ _ (by omega) hK rfl rfl)⟩
    constructor
    · intro h
      cases h
    · rintro ⟨e1, e2, _⟩
      exact absurd ⟨e1, e2⟩ hno
end Go.Proofs.YtoeanaadlihkeabDoor
