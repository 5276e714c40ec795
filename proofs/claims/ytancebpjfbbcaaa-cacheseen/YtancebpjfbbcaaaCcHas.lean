/- cache: has, placeOf. -/
import Derived.Test.YtancebpjfbbcaaaCcDev
import Derived.Test.YtancebpjfbbcaaaCcPut
namespace Go.Proofs.Ytancebpjfbbcaaa
open Go.ChangeShapes Go.WideShapes Go.ChangeAt Go.RowKit Go.MapKept
set_option linter.unusedVariables false

variable {D : DevRep} {B : Nat} {w0 w w' : World} {P : Nat → Nat} {S : Nat → DS} {C M : Nat → Nat} {F : Nat → Nat → Prop} {cb : Nat} {dv kv : Value} {o : GV} {ks : List GV} {GO GK : Nat → Prop}

/-- There is such a sector. -/
def inC (d s : Int) : Bool := decide (0 ≤ d ∧ d < 3 ∧ 0 ≤ s ∧ s < 6)

theorem pc_some (cb : Nat) (w : World) : (binOp .eql 24 (ptr cb) (.pointer none)).run Try.prog w = .ok (.bool false) w := by kernel_rfl
theorem pc_none (w : World) : (binOp .eql 24 (.pointer none) (.pointer none)).run Try.prog w = .ok (.bool true) w := by kernel_rfl
theorem pcn_some (cb : Nat) (w : World) : (binOp .neq 24 (ptr cb) (.pointer none)).run Try.prog w = .ok (.bool true) w := by kernel_rfl
theorem pcn_none (w : World) : (binOp .neq 24 (.pointer none) (.pointer none)).run Try.prog w = .ok (.bool false) w := by kernel_rfl

set_option maxRecDepth 100000 in
set_option maxHeartbeats 1000000 in
theorem has_nil (d s : Int) (w : World) : Calls Try.prog 43 #[.pointer none, .int .i64 d, .int .i64 s] w fun e w' => e = .returned (.bool false) ∧ Below w.heap.size w w' := by
  have hn := pc_none
  go_enter Try.func43, Try.ntmps43
  go_wp2
  go_ret
  exact ⟨rfl, Below.refl _ _⟩

set_option maxRecDepth 100000 in
set_option maxHeartbeats 1000000 in
theorem has_cC (hZ : DevSz D) (h : CI D B w0 w cb P S C M F dv o kv ks GO GK) (d s : Int) : Calls Try.prog 43 #[ptr cb, .int .i64 d, .int .i64 s] w fun e w' => e = .returned (.bool (inC d s)) ∧ Below w.heap.size w w' := by
  have hn := pc_some cb
  obtain ⟨g, c, hdv, _, _, hc⟩ := h.c.devs
  have c0 := h.c.str.cell 0
  simp only [List.getElem?_toArray, List.getElem?_cons_zero] at c0
  rw [hdv] at c0
  by_cases hd0 : d < 0
  · have hv : inC d s = false := decide_eq_false (by omega)
    rw [hv]
    clear h hc hdv hv
    go_enter Try.func43, Try.ntmps43
    go_wp2
    go_ret
    exact ⟨rfl, Below.refl _ _⟩
  have hd0' : ¬ d < 0 := hd0
  by_cases hd3 : 3 ≤ d
  · have hv : inC d s = false := decide_eq_false (by omega)
    rw [hv]
    clear h hc hdv hv
    go_enter Try.func43, Try.ntmps43
    go_wp2
    go_ret
    exact ⟨rfl, Below.refl _ _⟩
  have hd3' : ¬ 3 ≤ d := hd3
  obtain ⟨q, rfl⟩ : ∃ q : Nat, d = (q : Int) := ⟨d.toNat, by omega⟩
  have hq : q < 3 := by omega
  by_cases hs0 : 0 ≤ s
  · have hsz := hZ.size w (P q) (S q) (C q) (M q) (F q) (h.fam.dev q hq).dev
    rw [h.fam.n q hq] at hsz
    have hcq := hc q hq
    have i2 : (q : Int) < 3 := by omega
    have i3 : (0 : Int) ≤ (q : Int) := by omega
    have hv : inC (q : Nat) s = decide (s < 6) := by unfold inC; exact decide_eq_decide.2 (by omega)
    rw [hv]
    clear h hc hdv hv hd3 hd0
    go_enter Try.func43, Try.ntmps43
    go_wp2_with (first
      | ((go_at_call 66)
         (refine hsz.mono ?_)
         (rintro e w1 ⟨rfl, hb1⟩)
         (clear hsz)))
    go_ret
    exact ⟨rfl, hb1⟩
  · have hv : inC (q : Nat) s = false := decide_eq_false (by omega)
    rw [hv]
    have hs0' : ¬ 0 ≤ s := hs0
    clear h hc hdv hv hd3 hd0
    go_enter Try.func43, Try.ntmps43
    go_wp2
    go_ret
    exact ⟨rfl, Below.refl _ _⟩

theorem run_store_plC {o : Oper} {a : Act} (x y : Operand) (ho : o.op = .store 76 x y) (b off : Nat) (v0 v1 : Value) (hx : a.eval x = .pointer (some ⟨b, off, none⟩)) (hy : a.eval y = .agg #[v0, v1]) (w : World) (ht : w.there b off 2) (h0 : v0.oneCell' = true) (h1 : v1.oneCell' = true) : (execOp a.eval o).run Try.prog w = .ok .skip (w.setCells b off [v0, v1]) := by
  have hr := run_storeAt_mid (P := Try.prog) w b off 76 #[v0, v1] ht Try.size76 (by simp [h0, h1])
  unfold execOp
  simp only [ho, hx, hy, Sem.run_bind, hr]
  rfl

set_option maxRecDepth 100000 in
set_option maxHeartbeats 1000000 in
theorem placeOf_c (hD : DevOk D) (hZ : DevSz D) (h : CI D B w0 w cb P S C M F dv o kv ks GO GK) {d s : Nat} (hd : d < 3) : Calls Try.prog 46 #[ptr cb, .int .i64 (d : Nat), .int .i64 (s : Nat)] w fun e w' => e = .returned (plv d s) ∧ Below w.heap.size w w' := by
  obtain ⟨W1, hW1⟩ : ∃ W1, W1 = w.heap.size := ⟨_, rfl⟩
  obtain ⟨W, hW⟩ : ∃ W, W = (w.alloc (.cells #[.int .i64 0, .int .i64 0] 76)).drew := ⟨_, rfl⟩
  have hb : Below w.heap.size w W := by rw [hW]; exact ((Below.refl _ _).alloc (Nat.le_refl _) _).trans ⟨rfl, rfl, rfl, Nat.le_refl _, fun _ _ => rfl⟩
  have hH : Has W W1 76 #[.int .i64 0, .int .i64 0] := by rw [hW, hW1]; exact Has.new w _ _
  have h2 := h.next hD hb
  have HIX := hidC (index_pd hZ h2 hd)
  obtain ⟨g, c, hdv, _, _, hc⟩ := h2.c.devs
  have c0 := h2.c.str.cell 0
  simp only [List.getElem?_toArray, List.getElem?_cons_zero] at c0
  rw [hdv] at c0 HIX
  have cd := hc d hd
  have HTH := hidC (show W.there W1 0 2 from fun j hj => ⟨by rw [Nat.zero_add, hH.cell j]; rcases (show j = 0 ∨ j = 1 by omega) with rfl | rfl <;> rfl, hH.free _⟩)
  have HFIN := hidC (show Below w.heap.size w (W.setCells W1 0 [.int .i64 (d : Nat), .int .i64 (s : Nat)]) ∧ Has (W.setCells W1 0 [.int .i64 (d : Nat), .int .i64 (s : Nat)]) W1 76 #[.int .i64 (d : Nat), .int .i64 (s : Nat)] by
    have e : W.setCells W1 0 [.int .i64 (d : Nat), .int .i64 (s : Nat)] = (W.setCell ⟨W1, 0, none⟩ (.int .i64 (d : Nat))).setCell ⟨W1, 1, none⟩ (.int .i64 (s : Nat)) := rfl
    have hS := (hH.setV 0 (.int .i64 (d : Nat))).setV 1 (.int .i64 (s : Nat))
    rw [e]
    refine ⟨hb.trans (((only_setCell W W1 0 _).trans (only_setCell _ W1 1 _) (fun _ _ h => h)).below (fun k hk => by omega) hb.size), hS⟩)
  have HW1 := hidC hW1
  have HW := hidC hW
  clear h h2 hc hdv hb hH hW hW1
  go_enter Try.func46, Try.ntmps46
  go_wp2
  rw [← HW1.out]
  refine lastTo (S := fun wz => wz = W) 14 (by kernel_rfl) (HW.out.symm) (fun hHeld => ?_)
  refine takeL 0 (some 7) (.pointer (some ⟨cb, 0, none⟩)) rfl rfl (by decide) (by kernel_rfl) (by kernel_rfl) (by kernel_rfl) (by kernel_rfl) (fun _ _ _ h => h) (by rfl) (fun _ _ => rfl) hHeld ?_
  simp only [Act.put, List.setIfInBounds_toArray, List.set_cons_zero, List.set_cons_succ]
  refine takeL 1 (some 8) (.pointer (some ⟨cb, 0, none⟩)) rfl rfl (by decide) (by kernel_rfl) (by kernel_rfl) (by kernel_rfl) (by kernel_rfl) (fun _ _ _ h => h) (by rfl) (fun _ _ => rfl) hHeld ?_
  simp only [Act.put, List.setIfInBounds_toArray, List.set_cons_zero, List.set_cons_succ]
  refine takeL 2 (some 9) (.pointer (some ⟨cb, 0, none⟩)) rfl rfl (by decide) (by kernel_rfl) (by kernel_rfl) (by kernel_rfl) (by kernel_rfl) (fun _ _ _ h => h) (by rfl) (fun _ _ => rfl) hHeld ?_
  simp only [Act.put, List.setIfInBounds_toArray, List.set_cons_zero, List.set_cons_succ]
  refine takeL 3 (some 10) (.slice (some ⟨g, 0, none⟩) 3 c) rfl rfl (by decide) (by kernel_rfl) (by kernel_rfl) (by kernel_rfl) (by kernel_rfl) (fun _ _ _ h => h) (by rfl) (fun wz hz => by rw [hz]; exact run_load_dsC _ rfl _ rfl _ _ c0) hHeld ?_
  simp only [Act.put, List.setIfInBounds_toArray, List.set_cons_zero, List.set_cons_succ]
  refine takeL 4 (some 11) (.pointer (some ⟨cb, 0, none⟩)) rfl rfl (by decide) (by kernel_rfl) (by kernel_rfl) (by kernel_rfl) (by kernel_rfl) (fun _ _ _ h => h) (by rfl) (fun _ _ => rfl) hHeld ?_
  simp only [Act.put, List.setIfInBounds_toArray, List.set_cons_zero, List.set_cons_succ]
  refine takeL 5 (some 12) (.pointer (some ⟨cb, 0, none⟩)) rfl rfl (by decide) (by kernel_rfl) (by kernel_rfl) (by kernel_rfl) (by kernel_rfl) (fun _ _ _ h => h) (by rfl) (fun _ _ => rfl) hHeld ?_
  simp only [Act.put, List.setIfInBounds_toArray, List.set_cons_zero, List.set_cons_succ]
  refine takeL 6 (some 13) (.pointer (some ⟨cb, 0, none⟩)) rfl rfl (by decide) (by kernel_rfl) (by kernel_rfl) (by kernel_rfl) (by kernel_rfl) (fun _ _ _ h => h) (by rfl) (fun _ _ => rfl) hHeld ?_
  simp only [Act.put, List.setIfInBounds_toArray, List.set_cons_zero, List.set_cons_succ]
  refine takeL 7 (some 14) (.slice (some ⟨g, 0, none⟩) 3 c) rfl rfl (by decide) (by kernel_rfl) (by kernel_rfl) (by kernel_rfl) (by kernel_rfl) (fun _ _ _ h => h) (by rfl) (fun wz hz => by rw [hz]; exact run_load_dsC _ rfl _ rfl _ _ c0) hHeld ?_
  simp only [Act.put, List.setIfInBounds_toArray, List.set_cons_zero, List.set_cons_succ]
  refine takeL 8 (some 15) (.int .i64 (d : Nat)) rfl rfl (by decide) (by kernel_rfl) (by kernel_rfl) (by kernel_rfl) (by kernel_rfl) (fun _ _ _ h => h) (by rfl) (fun _ _ => rfl) hHeld ?_
  simp only [Act.put, List.setIfInBounds_toArray, List.set_cons_zero, List.set_cons_succ]
  refine takeL 9 (some 16) (.pointer (some ⟨g, d, none⟩)) rfl rfl (by decide) (by kernel_rfl) (by kernel_rfl) (by kernel_rfl) (by kernel_rfl) (fun _ _ _ h => h) (by rfl) (fun wz _ => run_at_pd _ _ rfl g d 3 c rfl rfl hd wz) hHeld ?_
  simp only [Act.put, List.setIfInBounds_toArray, List.set_cons_zero, List.set_cons_succ]
  refine takeL 10 (some 17) (ptr (P d)) rfl rfl (by decide) (by kernel_rfl) (by kernel_rfl) (by kernel_rfl) (by kernel_rfl) (fun _ _ _ h => h) (by rfl) (fun wz hz => by rw [hz]; exact run_load_pdC _ rfl _ rfl _ _ cd) hHeld ?_
  simp only [Act.put, List.setIfInBounds_toArray, List.set_cons_zero, List.set_cons_succ]
  refine takeL 12 (some 19) (.int .i64 (s : Nat)) rfl rfl (by decide) (by kernel_rfl) (by kernel_rfl) (by kernel_rfl) (by kernel_rfl) (fun _ _ _ h => h) (by rfl) (fun _ _ => rfl) hHeld ?_
  simp only [Act.put, List.setIfInBounds_toArray, List.set_cons_zero, List.set_cons_succ]
  refine callL 11 (some 18) 67 #[.slice (some ⟨g, 0, none⟩) 3 c, ptr (P d)] (by kernel_rfl) rfl rfl (by rfl) (by kernel_rfl) (by rw [← HW.out]; exact HIX.out) ?_
  rintro e wz ⟨rfl, hz⟩
  refine ⟨_, rfl, hz, ?_⟩
  rw [hz]
  simp only [Act.put, List.setIfInBounds_toArray, List.set_cons_zero, List.set_cons_succ]
  refine takeL 13 (some 20) (.agg #[.int .i64 (d : Nat), .int .i64 (s : Nat)]) rfl rfl (by decide) (by kernel_rfl) (by kernel_rfl) (by kernel_rfl) (by kernel_rfl) (fun _ _ _ h => h) (by rfl) (fun wz _ => by unfold execOp; go_simp) rfl ?_
  simp only [Act.put, List.setIfInBounds_toArray, List.set_cons_zero, List.set_cons_succ]
  refine lastSkip 14 none (W.setCells W1 0 [.int .i64 (d : Nat), .int .i64 (s : Nat)]) (by kernel_rfl) rfl rfl (by rfl) (run_store_plC _ _ rfl W1 0 _ _ rfl rfl _ HTH.out rfl rfl) (by kernel_rfl) ?_
  simp only [Act.put]
  clear hHeld
  go_wp2
  exact bodyPost_ret (results_cell_row rfl _ _ W1 76 _ (0, 0) _ rfl HFIN.out.2 Try.underlying76 rfl Try.size76) rfl ⟨rfl, HFIN.out.1⟩
end Go.Proofs.Ytancebpjfbbcaaa
