/- JournalWhole, walked. -/
import Derived.Test.YtfgoongfmidpgaaDoorJnLawM
namespace Go.Proofs.YtfgoongfmidpgaaDoor
open Go.ChangeShapes Go.WideShapes Go.ChangeAt Go.RowKit
set_option linter.unusedVariables false

variable {D : DevRep}

theorem run_subJ {o : Oper} {a : Act} (x y : Operand) (ho : o.op = .binOp .sub 3 x y 3) (p q : Nat) (hx : a.eval x = .int .i64 (p : Nat)) (hy : a.eval y = .int .i64 (q : Nat)) (h : q ≤ p) (hp : p ≤ 1000000) (w : World) : (execOp a.eval o).run Tryd.prog w = .ok (.value (.int .i64 ((p - q : Nat) : Int))) w := by
  have e : ((p - q : Nat) : Int) = (p : Int) - (q : Int) := by omega
  rw [e]
  have h1 : (q : Int) ≤ (p : Int) := by omega
  have h2 : (p : Int) ≤ 1000000 := by omega
  have h3 : (0 : Int) ≤ (q : Int) := by omega
  generalize (p : Int) = y1 at hx h1 h2 ⊢
  generalize (q : Int) = z1 at hy h1 h3 ⊢
  unfold execOp
  simp only [ho, hx, hy]
  go_simp
  exact IntWalk.i64_in _ ⟨by omega, by omega⟩

theorem run_add2J {o : Oper} {a : Act} (x y : Operand) (ho : o.op = .binOp .add 3 x y 3) (p q : Nat) (hx : a.eval x = .int .i64 (p : Nat)) (hy : a.eval y = .int .i64 (q : Nat)) (h : p + q ≤ 1000000) (w : World) : (execOp a.eval o).run Tryd.prog w = .ok (.value (.int .i64 ((p + q : Nat) : Int))) w := by
  rw [Int.natCast_add]
  have h1 : (p : Int) + (q : Int) ≤ 1000000 := by omega
  have h2 : (0 : Int) ≤ (p : Int) := by omega
  have h3 : (0 : Int) ≤ (q : Int) := by omega
  generalize (p : Int) = y1 at hx h1 h2 ⊢
  generalize (q : Int) = z1 at hy h1 h3 ⊢
  unfold execOp
  simp only [ho, hx, hy]
  go_simp
  exact IntWalk.i64_in _ ⟨by omega, by omega⟩

theorem run_load_boJ {o : Oper} {a : Act} (x : Operand) (ho : o.op = .load 34 x) (p : Addr) (hx : a.eval x = .pointer (some p)) (v : Value) (w : World) (h : w.cell? p = some v) : (execOp a.eval o).run Tryd.prog w = .ok (.value v) w := by
  unfold execOp
  simp only [ho, hx]
  go_simp

theorem lt_dec (a b : Nat) : (a < b ∧ decide (a < b) = true ∧ (a : Int) < (b : Int)) ∨ (b ≤ a ∧ decide (a < b) = false ∧ ¬ (a : Int) < (b : Int)) := by
  by_cases h : a < b
  · exact .inl ⟨h, decide_eq_true h, by omega⟩
  · exact .inr ⟨by omega, decide_eq_false h, by omega⟩

set_option maxRecDepth 100000 in
set_option maxHeartbeats 16000000 in
theorem whole_walk (hD : DevOk D) (hM : DevMore D) (w : World) (hG : Glob Hc Kc w) (fa : Option Addr) (fn fc : Nat) (fs : List RC) (hfs : Rl w fa fs) (hfn : fs.length = fn) (ma : Option Addr) (mn mc : Nat) (ms : List RC) (hms : Rl w ma ms) (hmn : ms.length = mn) (cs : Array Value) (O : CutV) (hO : CutIn w cs O) :
    Calls Tryd.prog 4 #[.slice fa fn fc, .slice ma mn mc, .agg cs] w fun e w' => e = .returned (.bool true) ∧ Below w.heap.size w w' := by
  obtain ⟨rfl, hOi, hOb⟩ := hO
  have hjn := jp_nil
  have hpn := pd_nil
  have hbA : Below w.heap.size w (w.alloc (.cells #[.int .i64 O.i, .slice O.a O.L O.C] 50)) := (Below.refl _ _).alloc (Nat.le_refl _) _
  have hGA := hG.below hbA hG.1
  have hfsA := hfs.below hbA (Nat.le_refl _)
  have hmsA := hms.below hbA (Nat.le_refl _)
  have hObA := hOb.below hbA (Nat.le_refl _)
  have hbxA : Has (w.alloc (.cells #[.int .i64 O.i, .slice O.a O.L O.C] 50)) w.heap.size 50 #[.int .i64 O.i, .slice O.a O.L O.C] := Has.new _ _ _
  have hnew := in_new (B := (w.alloc (.cells #[.int .i64 O.i, .slice O.a O.L O.C] 50)).heap.size) (w0 := w.alloc (.cells #[.int .i64 O.i, .slice O.a O.L O.C] 50)) hD 60 (by decide) (by decide) (Below.refl _ _) (Nat.le_refl _)
  have HFN : Hid (fn = fs.length) := hfn.symm
  have HMN : Hid (mn = ms.length) := hmn.symm
  clear hfn hmn hG hfs hms hOb
  go_enter Tryd.func4, Tryd.ntmps4
  go_wp2_with (first
    | ((go_at_call 9)
       (refine hnew.mono ?_)
       (rintro e w1 ⟨p, c, F, rfl, hI1, hb1, hF1, hc1⟩)
       (clear hnew hb1 hF1 hc1)
       (generalize w.alloc (.cells #[.int .i64 O.i, .slice O.a O.L O.C] 50) = wA at hbA hGA hfsA hmsA hObA hbxA hI1)
       (have hB1 : 1 < wA.heap.size := hGA.1)
       (have hfm := j_formatF hD hM hI1 (fine_fresh 60 (by decide) (by decide)) (by omega) (by simp [fresh]))
       (have hpn1 := hpn p)
       (clear hpn))
    | ((go_at_call 10)
       (refine Calls.mono hfm ?_)
       (rintro e w2 ⟨j, s2, m2, F2, G2, rfl, hJ2, hf2, hn2, hk2, hl2, hm2, ho2, hg2, hG2⟩)
       (clear hfm ho2 hg2 hG2)
       (have hn2' : s2.n = 60 := hn2)
       (have hl2' : s2.log.length ≤ 64 := hl2)
       (have hm2' : m2 ≤ 64 := (by have h9 : m2 ≤ 0 + (60 + 4) := hm2; omega))
       (have hal := alive_j hD hM w2 (hGA.below hJ2.dev.below hB1))
       (have hjn2 := hjn j)
       (clear hn2 hl2 hm2 hI1))
    | ((go_at_call 11)
       (refine hal.mono ?_)
       (rintro e w3 ⟨rfl, hb3⟩)
       (clear hal)
       (have hJ3 := hJ2.next hD hb3)
       (have hfi := fill_c (lc := fc) hD hGA hB1 (Nat.le_refl _) hJ3 hf2.n2 hfsA HFN.out)
       (clear hJ2 hb3))
    | ((go_at_call 28)
       (first
         | (have _t := hfi
            refine Calls.mono hfi ?_
            rintro e w4 ⟨v4, rfl, G4, X4, hS4, hO4, hA4, hX4⟩
            have hol := filled_len (fs.take 40) [] (64 * s2.n)
            rw [List.length_take] at hol
            have hob := filled_byt (rs := []) hfsA (64 * s2.n) 40
            obtain ⟨old, hold⟩ : ∃ old, old = filled [] (64 * s2.n) (fs.take 40) := ⟨_, rfl⟩
            rw [← hold] at hS4 hO4 hol hob
            rw [List.nil_append] at hS4
            have hJ4 := hS4.jin
            have hfl := j_flushF hD hM hJ4 hf2 hk2 (by omega) (by omega)
            clear hfi _t hold)
         | (have _t := hfi2
            refine Calls.mono hfi2 ?_
            rintro e w8 ⟨v8, rfl, G8, X8, hS8, hO8, hA8, hX8⟩
            obtain ⟨hO7', hA7'⟩ := hS8.row hJ7.dev.base hJ7.dev.cb hJ7.base hO7 hA7
            obtain ⟨hO5', hA5'⟩ := hS8.row hJ7.dev.base hJ7.dev.cb hJ7.base hO57 hA57
            have hml := filled_len (ms.take 40) old (64 * s5.n)
            rw [List.length_take] at hml
            have hmb := filled_byt (rs := old) hmsA (64 * s5.n) 40
            obtain ⟨mo, hmo⟩ : ∃ mo, mo = filled old (64 * s5.n) (ms.take 40) := ⟨_, rfl⟩
            rw [← hmo] at hS8 hO8 hml hmb
            have hJ8 := hS8.jin
            obtain ⟨v9, w9, hap9, hon9, hO9, hv9⟩ := hO7'.cat hO8 (by simp; omega)
            rw [List.nil_append] at hO9
            have hA9 : Apt F5 c G8 (fun x => ((((fun k => k = w6.heap.size) x ∨ X4 x) ∨ v7.ownBlock = some x) ∨ X8 x) ∨ v9.ownBlock = some x) := apt_new hJ8 hD (fun k hk => hk.elim (hA7' k) (hA8 k)) (fun k hk => hk.elim .inl (fun h9 => (hv9 k h9).imp .inl id))
            have hJ9 := hJ8.own hD (hon9.mono (fun k e => hO7'.blk e)) (fun k hk => (hO7'.lt k hk).1) hA7'
            have hO59 := hO5'.only hon9 (fun k hk => (hO7'.lt k (hO7'.blk hk)).1) (fun k hk h9 => by have h8 := (hO6.lt k hk).2; have h7 := hv7 k h9; have h6 := hbE.size; omega)
            have hfl2 := j_flushF hD hM hJ9 hf5 (by rw [List.take_left]; exact hk5) (by omega) (by omega)
            clear hfi2 _t hmo)))
    | ((go_at_call 14)
       (first
         | (have _t := hfl
            refine hfl.mono ?_
            rintro e w5 ⟨rfl, s5, m5, F5, hS5, hf5, hn5, hk5, hl5, hm5, _⟩
            obtain ⟨hO5, hA5⟩ := hS5.row hJ4.dev.base hJ4.dev.cb hJ4.base hO4 hA4
            have hJ5 := hS5.jin
            rw [hn2'] at hl5 hm5 hn5
            have hwr := hD.writes w5 p s5 c m5 F5 hJ5.dev.dev (by omega)
            clear hfl _t hS5 hO4 hA4 hS4 hJ4 hJ3)
         | (have _t := hfl2
            refine hfl2.mono ?_
            rintro e w10 ⟨rfl, s10, m10, F10, hS10, hf10, hn10, hk10, hl10, hm10, hto⟩
            obtain ⟨hO10, hA10⟩ := hS10.row hJ9.dev.base hJ9.dev.cb hJ9.base hO9 hA9
            obtain ⟨hP10, hQ10⟩ := hS10.row hJ9.dev.base hJ9.dev.cb hJ9.base hO59 hA5'
            have hJ10 := hS10.jin
            rw [hn5] at hl10 hm10 hn10
            have hbx10 := hbxA.below hJ10.dev.below hbxA.lt
            have k0 : w10.cell? ⟨w.heap.size, 0, none⟩ = some (.int .i64 O.i) := hbx10.cell 0
            have k1 : w10.cell? ⟨w.heap.size, 1, none⟩ = some (.slice O.a O.L O.C) := hbx10.cell 1
            have hcut := in_cut hD hJ10.dev O.a O.L O.C O.k (by omega) hObA.max hObA.le (hObA.below hJ10.dev.below (Nat.le_refl _)).at_
            clear hfl2 _t hS10 hO9 hA9 hO59 hA5')))
    | ((go_at_call 17)
       (refine Calls.mono hcut ?_)
       (rintro e w11 ⟨hb11, hI11, pL, cL, FL, rfl, hIL, hgL, hcL⟩)
       (have hwr2 := in_tells hD hI11 (hD.writes w11 p s10 c m10 F10 hI11.dev (by omega)))
       (have hwl : wrs s10.log ≤ s10.log.length := List.length_filter_le _ _)
       (have hw5 : wrs s5.log ≤ s5.log.length := List.length_filter_le _ _)
       (clear hcut)
       (obtain ⟨W5, hW5⟩ : ∃ W5, W5 = wrs s5.log := ⟨_, rfl⟩)
       (obtain ⟨W10, hW10⟩ : ∃ W10, W10 = wrs s10.log := ⟨_, rfl⟩)
       (rw [← hW5] at hw5 ⊢)
       (rw [← hW10] at hwl hwr2)
       (have HW5 : Hid (W5 = wrs s5.log) := hW5)
       (have HW10 : Hid (W10 = wrs s10.log) := hW10)
       (clear hW5 hW10)
       (rcases lt_dec W5 W10 with ⟨hW, hWd, hWi⟩ | ⟨hW, hWd, hWi⟩))
    | ((go_at_call 29)
       (first
         | (have _t := hwr
            refine hwr.mono ?_
            rintro e w6 ⟨rfl, hb6⟩
            clear hwr _t
            have hJ6 := hJ5.next hD hb6
            have hO6 := hO5.below hb6
            have hBw6 : wA.heap.size ≤ w6.heap.size := hJ6.dev.sz
            have hE6 : OwnR wA.heap.size (w6.alloc (.cells #[] 33)) (.slice (some ⟨w6.heap.size, 0, none⟩) 0 0) [] (fun k => k = w6.heap.size) := OwnR.empty hBw6
            have hbE : Below w6.heap.size w6 (w6.alloc (.cells #[] 33)) := (Below.refl _ _).alloc (Nat.le_refl _) _
            obtain ⟨v7, w7, hap7, hon7, hO7, hv7⟩ := hE6.cat (hO6.below hbE) (by simp; omega)
            have hJE := hJ6.next hD hbE
            have hAE : Apt F5 c G4 (fun k => k = w6.heap.size) := apt_new hJ6 hD (X := fun _ => False) (fun k hk => hk.elim) (fun k hk => .inr (by rw [hk]; exact Nat.le_refl _))
            have hJ7 := hJE.own hD (hon7.mono (fun k e => hE6.blk e)) (fun k hk => by rw [hk]; exact hBw6) hAE
            have hA7 : Apt F5 c G4 (fun x => ((fun k => k = w6.heap.size) x ∨ X4 x) ∨ v7.ownBlock = some x) := apt_new hJE hD (fun k hk => hk.elim (hAE k) (hA5 k)) (fun k hk => hk.elim .inl (fun h9 => (hv7 k h9).imp .inl id))
            have hO57 := (hO6.below hbE).only (hon7.mono (fun k e => hE6.blk e)) (fun k hk => by rw [hk]; exact hBw6) (fun k hk h9 => by have h8 := (hO6.lt k hk).2; omega)
            have hA57 : Apt F5 c G4 X4 := hA5
            have hfi2 := fill_c (lc := mc) hD hGA hB1 (Nat.le_refl _) hJ7 hf5.n2 hmsA HMN.out)
         | (have _t := hwr2
            refine hwr2.mono ?_
            rintro e w12 ⟨rfl, hb12, hI12⟩
            clear hwr2 _t)))
    | (refine at_dst 52 rfl ?_; refine wpList_is_w (some 52) v7 w7 rfl (by rfl) (run_append_op _ _ _ _ rfl (.slice (some ⟨w6.heap.size, 0, none⟩) 0 0) v4 rfl rfl _ hap7) ?_)
    | (refine at_dst 56 rfl ?_; refine wpList_is_w (some 56) v9 w9 rfl (by rfl) (run_append_op _ _ _ _ rfl v7 v8 rfl rfl _ hap9) ?_))
  · have hb1012 : Below w10.heap.size w10 w12 := hb11.trans (hb12.mono hb11.size)
    have q0 : w12.cell? ⟨w.heap.size, 0, none⟩ = some (.int .i64 O.i) := (hb1012.cell (p := ⟨w.heap.size, 0, none⟩) hbx10.lt).trans k0
    have q1 : w12.cell? ⟨w.heap.size, 1, none⟩ = some (.slice O.a O.L O.C) := (hb1012.cell (p := ⟨w.heap.size, 1, none⟩) hbx10.lt).trans k1
    have hbwA : w.heap.size < w12.heap.size := Nat.lt_of_lt_of_le hbx10.lt hb1012.size
    have hSW : ∀ W : World, Below w12.heap.size w12 W → W.cell? ⟨w.heap.size, 0, none⟩ = some (.int .i64 O.i) ∧ W.cell? ⟨w.heap.size, 1, none⟩ = some (.slice O.a O.L O.C) := fun W hW => ⟨(hW.cell (p := ⟨w.heap.size, 0, none⟩) hbwA).trans q0, (hW.cell (p := ⟨w.heap.size, 1, none⟩) hbwA).trans q1⟩
    have bd : Below w12.heap.size w12 w12.drew := (Below.refl _ w12).drew
    have hId := hI12.next hD bd
    have hwr3 := in_tells hD hId (hD.writes w12.drew p s10 c m10 F10 hId.dev (by omega))
    rw [← HW10.out] at hwr3
    refine wp_region_held_drew (S := fun wz => wz.cell? ⟨w.heap.size, 0, none⟩ = some (.int .i64 O.i) ∧ wz.cell? ⟨w.heap.size, 1, none⟩ = some (.slice O.a O.L O.C)) (by kernel_rfl) (hSW _ bd) (fun hHeld => ?_)
    refine takeTo 0 (some 68) (ptr p) rfl rfl (by kernel_rfl) (by kernel_rfl) (by kernel_rfl) (fun _ _ _ h => h) (by rfl) (fun _ _ => rfl) hHeld ?_
    simp only [Act.put, List.setIfInBounds_toArray, List.set_cons_zero, List.set_cons_succ]
    refine takeTo 1 (some 69) (.int .i64 (W5 : Nat)) rfl rfl (by kernel_rfl) (by kernel_rfl) (by kernel_rfl) (fun _ _ _ h => h) (by rfl) (fun _ _ => rfl) hHeld ?_
    simp only [Act.put, List.setIfInBounds_toArray, List.set_cons_zero, List.set_cons_succ]
    refine takeTo 2 (some 70) (.int .i64 ((W5 + 1 : Nat) : Int)) rfl rfl (by kernel_rfl) (by kernel_rfl) (by kernel_rfl) (fun _ _ _ h => h) (by rfl) (fun wz _ => run_addJ _ rfl W5 1 rfl ⟨rfl, by omega⟩ wz) hHeld ?_
    simp only [Act.put, List.setIfInBounds_toArray, List.set_cons_zero, List.set_cons_succ]
    refine takeTo 3 (some 71) (.pointer (some ⟨w.heap.size, 0, none⟩)) rfl rfl (by kernel_rfl) (by kernel_rfl) (by kernel_rfl) (fun _ _ _ h => h) (by rfl) (fun _ _ => rfl) hHeld ?_
    simp only [Act.put, List.setIfInBounds_toArray, List.set_cons_zero, List.set_cons_succ]
    refine takeTo 4 (some 72) (.int .i64 O.i) rfl rfl (by kernel_rfl) (by kernel_rfl) (by kernel_rfl) (fun _ _ _ h => h) (by rfl) (fun wz hz => run_load_3J _ rfl _ rfl _ wz hz.1) hHeld ?_
    simp only [Act.put, List.setIfInBounds_toArray, List.set_cons_zero, List.set_cons_succ]
    refine takeTo 5 (some 73) (ptr p) rfl rfl (by kernel_rfl) (by kernel_rfl) (by kernel_rfl) (fun _ _ _ h => h) (by rfl) (fun _ _ => rfl) hHeld ?_
    simp only [Act.put, List.setIfInBounds_toArray, List.set_cons_zero, List.set_cons_succ]
    refine takeTo 7 (some 75) (.int .i64 (W5 : Nat)) rfl rfl (by kernel_rfl) (by kernel_rfl) (by kernel_rfl) (fun _ _ _ h => h) (by rfl) (fun _ _ => rfl) hHeld ?_
    simp only [Act.put, List.setIfInBounds_toArray, List.set_cons_zero, List.set_cons_succ]
    refine takeTo 11 (some 79) (.pointer (some ⟨w.heap.size, 1, none⟩)) rfl rfl (by kernel_rfl) (by kernel_rfl) (by kernel_rfl) (fun _ _ _ h => h) (by rfl) (fun _ _ => rfl) hHeld ?_
    simp only [Act.put, List.setIfInBounds_toArray, List.set_cons_zero, List.set_cons_succ]
    refine takeTo 12 (some 80) (.slice O.a O.L O.C) rfl rfl (by kernel_rfl) (by kernel_rfl) (by kernel_rfl) (fun _ _ _ h => h) (by rfl) (fun wz hz => run_load_boJ _ rfl _ rfl _ wz hz.2) hHeld ?_
    simp only [Act.put, List.setIfInBounds_toArray, List.set_cons_zero, List.set_cons_succ]
    refine callTo 6 (some 74) 29 #[ptr p] (by kernel_rfl) rfl rfl (by rfl) (by kernel_rfl) hwr3 ?_
    rintro e w13 ⟨rfl, hb13d, hI13⟩
    have hb13 : Below w12.heap.size w12 w13 := bd.trans hb13d
    refine ⟨_, rfl, hSW _ hb13, ?_⟩
    simp only [Act.put, List.setIfInBounds_toArray, List.set_cons_zero, List.set_cons_succ]
    refine takeTo 8 (some 76) (.int .i64 ((W10 - W5 : Nat) : Int)) rfl rfl (by kernel_rfl) (by kernel_rfl) (by kernel_rfl) (fun _ _ _ h => h) (by rfl) (fun wz _ => run_subJ _ _ rfl W10 W5 rfl rfl (by omega) (by omega) wz) (hSW _ hb13) ?_
    simp only [Act.put, List.setIfInBounds_toArray, List.set_cons_zero, List.set_cons_succ]
    have hpk := pick_any O.i (W10 - W5) w13 hOi (by omega) (by omega)
    refine callTo 9 (some 77) 8 #[.int .i64 O.i, .int .i64 ((W10 - W5 : Nat) : Int)] (by kernel_rfl) rfl rfl (by rfl) (by kernel_rfl) hpk ?_
    rintro e wz ⟨rfl, hz⟩
    obtain rfl : w13 = wz := hz.symm
    refine ⟨_, rfl, hSW _ hb13, ?_⟩
    have hpl := pickN_lt O.i (W10 - W5) (by omega)
    obtain ⟨K, hK⟩ : ∃ K, K = pickN O.i (W10 - W5) := ⟨_, rfl⟩
    rw [← hK] at hpl ⊢
    simp only [Act.put, List.setIfInBounds_toArray, List.set_cons_zero, List.set_cons_succ]
    refine takeTo 10 (some 78) (.int .i64 ((W5 + 1 + K : Nat) : Int)) rfl rfl (by kernel_rfl) (by kernel_rfl) (by kernel_rfl) (fun _ _ _ h => h) (by rfl) (fun wz _ => run_add2J _ _ rfl (W5 + 1) K rfl rfl (by omega) wz) (hSW _ hb13) ?_
    simp only [Act.put, List.setIfInBounds_toArray, List.set_cons_zero, List.set_cons_succ]
    have hca := in_cutAt hD hM hI13 ((W5 + 1 + K : Nat) : Int) O.a O.L O.C O.k (by unfold i64ok; omega) (by omega) hObA.max hObA.le (hObA.below hI13.below (Nat.le_refl _)).at_
    refine callTo 13 (some 81) 30 #[ptr p, .int .i64 ((W5 + 1 + K : Nat) : Int), .slice O.a O.L O.C] (by kernel_rfl) rfl rfl (by rfl) (by kernel_rfl) hca ?_
    rintro e w14 ⟨hb14, hI14, pL2, cL2, FL2, rfl, hIL2, hgL2, hcL2⟩
    have hb14' : Below w12.heap.size w12 w14 := hb13.trans (hb14.mono hb13.size)
    refine ⟨_, rfl, hSW _ hb14', ?_⟩
    simp only [Act.put, List.setIfInBounds_toArray, List.set_cons_zero, List.set_cons_succ]
    refine takeTo 14 (some 14) (ptr pL2) rfl rfl (by kernel_rfl) (by kernel_rfl) (by kernel_rfl) (fun _ _ _ h => h) (by rfl) (fun _ _ => rfl) (hSW _ hb14') ?_
    simp only [Act.put, List.setIfInBounds_toArray, List.set_cons_zero, List.set_cons_succ]
    refine wpAnyH_done (by kernel_rfl) ?_ _
    have hb1014 : Below w10.heap.size w10 w14 := hb1012.trans (hb14'.mono hb1012.size)
    have hPO := hP10.below hb1014
    have hOO := hO10.below hb1014
    have hgL9 : Grew w10 F10 FL2 := fun k hk => (hgL2 k hk).imp id (fun h9 => Nat.le_trans (Nat.le_trans hb1012.size hb13.size) h9)
    have hs13 : w10.heap.size ≤ w13.heap.size := Nat.le_trans hb1012.size hb13.size
    have aptO4 : ∀ k, X4 k → ¬ (FL2 k ∨ k = cL2) := fun k hk h9 => by
      have h8 := (hP10.lt k hk).2
      rcases h9 with h9 | h9
      · exact (hgL9 k h9).elim (fun h7 => (hQ10 k hk).1 (.inl h7)) (fun h7 => by omega)
      · omega
    have aptO9 := fun k (hk : _) (h9 : FL2 k ∨ k = cL2) => (show False by
      have h8 := (hO10.lt k hk).2
      rcases h9 with h9 | h9
      · exact (hgL9 k h9).elim (fun h7 => (hA10 k hk).1 (.inl h7)) (fun h7 => by omega)
      · omega)
    have hIL0 := hIL2
    have hable := Able.cutAt hf10 ((W5 + 1 + K : Nat) : Int) (keepOf O.k O.L)
    have hsz10 := hJ10.sized
    obtain ⟨ss, hss, hssb, hRR⟩ : ∃ ss, rsame (told dgS (byOf (holds (cutAtD s10 ((W5 + 1 + K : Nat) : Int) (keepOf O.k O.L)))) (64 * (cutAtD s10 ((W5 + 1 + K : Nat) : Int) (keepOf O.k O.L)).n)) ss ∧ (∀ r ∈ ss, ∀ k, r.f k < 256) ∧ (rlikes ss old = true ∨ (rlikes ss old = false ∧ rlikes ss (old ++ mo) = true)) := by
      have hallb : ∀ r ∈ old ++ mo, ∀ k, r.f k < 256 := fun r hr => (List.mem_append.1 hr).elim (hob r) (hmb r)
      rcases hto with ⟨_, h9⟩ | ⟨hlt, I, s1, ma1, mb1, mc1, hFD⟩
      · rw [h9] at HW10
        have h8 := HW10.out
        have h7 := HW5.out
        omega
      · have hn10' : (cutAtD s10 ((W5 + 1 + K : Nat) : Int) (keepOf O.k O.L)).n = s5.n := hn10.trans hn5.symm
        rw [hn10']
        have hwo := whole_out hf5 (by rw [List.take_left]; exact hk5) hlt hsz10.1 (by rw [hn5, ← hn10]; exact hsz10.2.1) hFD ((W5 + 1 + K : Nat) : Int) (keepOf O.k O.L) (by rw [Int.toNat_natCast, ← HW5.out, ← HW10.out]; omega)
        rw [List.take_left] at hwo
        rcases hwo with h9 | h9
        · exact ⟨old, h9, hob, .inl (rlikes_refl _)⟩
        · refine ⟨old ++ mo, h9, hallb, ?_⟩
          cases hq : rlikes (old ++ mo) old with
          | true => exact .inl rfl
          | false => exact .inr ⟨rfl, rlikes_refl _⟩
    clear hHeld hSW hwr3 hca hto
    have hop := j_openF hD hM hGA hB1 hIL0 hable (by omega) (Nat.zero_le _) hss hssb
    obtain ⟨R1, hR1⟩ : ∃ R1, R1 = rlikes ss old := ⟨_, rfl⟩
    obtain ⟨R2, hR2⟩ : ∃ R2, R2 = rlikes ss (old ++ mo) := ⟨_, rfl⟩
    have HR1 : Hid (R1 = rlikes ss old) := hR1
    have HR2 : Hid (R2 = rlikes ss (old ++ mo)) := hR2
    rw [← hR1, ← hR2] at hRR
    clear hR1 hR2
    obtain ⟨oa, oc, hv4, _⟩ := hPO.rl
    obtain ⟨la, lc9, hv9e, _⟩ := hOO.rl
    subst hv4 hv9e
    rcases hRR with rfl | ⟨rfl, rfl⟩
    all_goals
      go_wp2_with (first
        | ((go_at_call 18)
           (refine Calls.mono hop ?_)
           (rintro e w15 ⟨k, s15, m15, F15, G15, rfl, hJ15, hf15, hn15, hk15, hl15, hm15, _, ho15, hg15, hG15⟩)
           (clear hop)
           (have hP15 := hPO.only ho15 (fun k hk => hk.elim (hIL0.base k) (fun e9 => by rw [e9]; exact hIL0.cb)) aptO4)
           (have hO15 := hOO.only ho15 (fun k hk => hk.elim (hIL0.base k) (fun e9 => by rw [e9]; exact hIL0.cb)) aptO9)
           (have hrec := j_records hD hJ15 hf15.n2)
           (have hjn3 := hjn k)
           (clear hjn))
        | ((go_at_call 23)
           (first
             | (have _t := hrec
                refine Calls.mono hrec ?_
                rintro e w16 ⟨hb16, a16, cp16, rfl, hr16⟩
                clear hrec _t
                have hJ16 := hJ15.next hD hb16
                have hP16 := hP15.below hb16
                have hO16 := hO15.below hb16
                obtain ⟨oa2, oc2, e16, hrl16⟩ := hP16.rl
                cases e16
                have hsm := samer_any (c1 := cp16) (c2 := oc) hr16 hrl16 rfl rfl
                rw [← HR1.out] at hsm)
             | (have _t := hrec2
                refine Calls.mono hrec2 ?_
                rintro e w18 ⟨hb18, a18, cp18, rfl, hr18⟩
                clear hrec2 _t
                have hO18 := hO17.below hb18
                have hJ18 := hJ17.next hD hb18
                obtain ⟨la2, lc2, e18, hrl18⟩ := hO18.rl
                cases e18
                have hsm2 := samer_any (c1 := cp18) (c2 := lc9) (n2 := old.length + mo.length) hr18 hrl18 rfl (List.length_append).symm
                rw [← HR2.out] at hsm2)))
        | ((go_at_call 22)
           (first
             | (have _t := hsm
                refine hsm.mono ?_
                rintro e w17 ⟨rfl, hb17⟩
                clear hsm _t
                have hJ17 := hJ16.next hD hb17
                have hO17 := hO16.below hb17
                have hrec2 := j_records hD hJ17 hf15.n2)
             | (have _t := hsm2
                refine hsm2.mono ?_
                rintro e w19 ⟨rfl, hb19⟩
                clear hsm2 _t
                have hJ19 := hJ18.next hD hb19))))
      go_ret
      exact ⟨rfl, hbA.trans (hJ19.dev.below.mono hbA.size)⟩
  · have hb1012 : Below w10.heap.size w10 w12 := hb11.trans (hb12.mono hb11.size)
    have hPO := hP10.below hb1012
    have hOO := hO10.below hb1012
    have hIL0 := hIL.next hD hb12
    have aptO4 : ∀ k, X4 k → ¬ (FL k ∨ k = cL) := fun k hk h9 => by
      have h8 := (hP10.lt k hk).2
      rcases h9 with h9 | h9
      · exact (hgL k h9).elim (fun h7 => (hQ10 k hk).1 (.inl h7)) (fun h7 => by omega)
      · omega
    have aptO9 := fun k (hk : _) (h9 : FL k ∨ k = cL) => (show False by
      have h8 := (hO10.lt k hk).2
      rcases h9 with h9 | h9
      · exact (hgL k h9).elim (fun h7 => (hA10 k hk).1 (.inl h7)) (fun h7 => by omega)
      · omega)
    have hable := Able.cut hf10 (keepOf O.k O.L)
    obtain ⟨ss, hss, hssb, hRR⟩ : ∃ ss, rsame (told dgS (byOf (holds (cutD s10 (keepOf O.k O.L)))) (64 * (cutD s10 (keepOf O.k O.L)).n)) ss ∧ (∀ r ∈ ss, ∀ k, r.f k < 256) ∧ (rlikes ss old = true ∨ (rlikes ss old = false ∧ rlikes ss (old ++ mo) = true)) := by
      refine ⟨old ++ mo, by rw [holds_cut hf10.safe]; exact hk10.told, fun r hr => (List.mem_append.1 hr).elim (hob r) (hmb r), ?_⟩
      cases hq : rlikes (old ++ mo) old with
      | true => exact .inl rfl
      | false => exact .inr ⟨rfl, rlikes_refl _⟩
    clear hto
    have hop := j_openF hD hM hGA hB1 hIL0 hable (by omega) (Nat.zero_le _) hss hssb
    obtain ⟨R1, hR1⟩ : ∃ R1, R1 = rlikes ss old := ⟨_, rfl⟩
    obtain ⟨R2, hR2⟩ : ∃ R2, R2 = rlikes ss (old ++ mo) := ⟨_, rfl⟩
    have HR1 : Hid (R1 = rlikes ss old) := hR1
    have HR2 : Hid (R2 = rlikes ss (old ++ mo)) := hR2
    rw [← hR1, ← hR2] at hRR
    clear hR1 hR2
    obtain ⟨oa, oc, hv4, _⟩ := hPO.rl
    obtain ⟨la, lc9, hv9e, _⟩ := hOO.rl
    subst hv4 hv9e
    rcases hRR with rfl | ⟨rfl, rfl⟩
    all_goals
      go_wp2_with (first
        | ((go_at_call 18)
           (refine Calls.mono hop ?_)
           (rintro e w15 ⟨k, s15, m15, F15, G15, rfl, hJ15, hf15, hn15, hk15, hl15, hm15, _, ho15, hg15, hG15⟩)
           (clear hop)
           (have hP15 := hPO.only ho15 (fun k hk => hk.elim (hIL0.base k) (fun e9 => by rw [e9]; exact hIL0.cb)) aptO4)
           (have hO15 := hOO.only ho15 (fun k hk => hk.elim (hIL0.base k) (fun e9 => by rw [e9]; exact hIL0.cb)) aptO9)
           (have hrec := j_records hD hJ15 hf15.n2)
           (have hjn3 := hjn k)
           (clear hjn))
        | ((go_at_call 23)
           (first
             | (have _t := hrec
                refine Calls.mono hrec ?_
                rintro e w16 ⟨hb16, a16, cp16, rfl, hr16⟩
                clear hrec _t
                have hJ16 := hJ15.next hD hb16
                have hP16 := hP15.below hb16
                have hO16 := hO15.below hb16
                obtain ⟨oa2, oc2, e16, hrl16⟩ := hP16.rl
                cases e16
                have hsm := samer_any (c1 := cp16) (c2 := oc) hr16 hrl16 rfl rfl
                rw [← HR1.out] at hsm)
             | (have _t := hrec2
                refine Calls.mono hrec2 ?_
                rintro e w18 ⟨hb18, a18, cp18, rfl, hr18⟩
                clear hrec2 _t
                have hO18 := hO17.below hb18
                have hJ18 := hJ17.next hD hb18
                obtain ⟨la2, lc2, e18, hrl18⟩ := hO18.rl
                cases e18
                have hsm2 := samer_any (c1 := cp18) (c2 := lc9) (n2 := old.length + mo.length) hr18 hrl18 rfl (List.length_append).symm
                rw [← HR2.out] at hsm2)))
        | ((go_at_call 22)
           (first
             | (have _t := hsm
                refine hsm.mono ?_
                rintro e w17 ⟨rfl, hb17⟩
                clear hsm _t
                have hJ17 := hJ16.next hD hb17
                have hO17 := hO16.below hb17
                have hrec2 := j_records hD hJ17 hf15.n2)
             | (have _t := hsm2
                refine hsm2.mono ?_
                rintro e w19 ⟨rfl, hb19⟩
                clear hsm2 _t
                have hJ19 := hJ18.next hD hb19))))
      go_ret
      exact ⟨rfl, hbA.trans (hJ19.dev.below.mono hbA.size)⟩
end Go.Proofs.YtfgoongfmidpgaaDoor
