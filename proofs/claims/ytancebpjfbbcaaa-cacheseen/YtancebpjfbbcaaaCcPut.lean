/- cache: a group's put. -/
import Derived.Test.YtancebpjfbbcaaaCcPutM
import Derived.Test.YtancebpjfbbcaaaBasReg
import Derived.Test.YtancebpjfbbcaaaBasChain
namespace Go.Proofs.Ytancebpjfbbcaaa
open Go.ChangeShapes Go.WideShapes Go.ChangeAt Go.RowKit Go.MapKept
set_option linter.unusedVariables false

variable {w w' : World} {v : Value} {f : Nat → Nat} {cb : Nat} {P : Nat → Nat} {dv kv : Value} {o : GV} {ks : List GV} {GO GK GN : Nat → Prop}

theorem run_store_wrC {o : Oper} {a : Act} (x y : Operand) (ho : o.op = .store 78 x y) (b off : Nat) (v0 v1 v2 : Value) (hx : a.eval x = .pointer (some ⟨b, off, none⟩)) (hy : a.eval y = .agg #[v0, v1, v2]) (w : World) (ht : w.there b off 3) (h0 : v0.oneCell' = true) (h1 : v1.oneCell' = true) (h2 : v2.oneCell' = true) : (execOp a.eval o).run Try.prog w = .ok .skip (w.setCells b off [v0, v1, v2]) := by
  have hr := run_storeAt_mid (P := Try.prog) w b off 78 #[v0, v1, v2] ht Try.size78 (by simp [h0, h1, h2])
  unfold execOp
  simp only [ho, hx, hy, Sem.run_bind, hr]
  rfl

theorem run_store_cm {o : Oper} {a : Act} (x y : Operand) (ho : o.op = .store 68 x y) (p : Addr) (hx : a.eval x = .pointer (some p)) (r : Option Nat) (hy : a.eval y = .map r) (w : World) (u : Value) (h : w.cell? p = some u) (hf : w.frozen? p = false) : (execOp a.eval o).run Try.prog w = .ok .skip (w.setCell p (.map r)) := by
  unfold execOp
  simp only [ho, hx, hy]
  go_simp

theorem run_store_wsC {o : Oper} {a : Act} (x y : Operand) (ho : o.op = .store 30 x y) (p : Addr) (hx : a.eval x = .pointer (some p)) (A : Option Addr) (n c : Nat) (hy : a.eval y = .slice A n c) (w : World) (u : Value) (h : w.cell? p = some u) (hf : w.frozen? p = false) : (execOp a.eval o).run Try.prog w = .ok .skip (w.setCell p (.slice A n c)) := by
  unfold execOp
  simp only [ho, hx, hy]
  go_simp

theorem run_len_C {o : Oper} {a : Act} (ty e : TypeId) (hu : Try.prog.underlying ty = some (.slice e)) (x : Operand) (ho : o.op = .call { callee := .builtin .len, args := #[x], argTypes := #[ty] }) (p : Option Addr) (n c : Nat) (hx : a.eval x = .slice p n c) (w : World) : (execOp a.eval o).run Try.prog w = .ok (.value (.int .i64 (n : Nat))) w := by
  unfold execOp
  simp only [ho, hx, resolve, invoke, builtin, Sem.run_bind, Sem.run_pure, Result.andThen_ok, List.map_toArray, List.map_cons, List.map_nil]
  simp [Builtin.len_, run_underlying hu, go_sem]

/-- Cells that are there. -/
theorem there_row {n cap g : Nat} {xs : List Value} {e : Nat} (h : w.ownsRow 0 e 3 (.slice (some ⟨g, 0, none⟩) n cap) n xs) {i : Nat} (hi : i < n) : w.there g (i * 3) 3 := by
  intro j hj
  refine ⟨?_, own_freeC h⟩
  obtain ⟨a, c, e0, h1, h2, h3, h4⟩ := own_slice h
  cases e0
  have hl : i * 3 + j < xs.length := by rw [h.1]; omega
  rw [h4 g rfl _ _ (List.getElem?_eq_getElem hl)]
  rfl

set_option maxRecDepth 100000 in
set_option maxHeartbeats 4000000 in
theorem put_c (h : CAt w cb P dv o kv ks GO GK) {d s : Nat} (hd : d < 3) (hs : s < 6) (hv : DataAt w GN v f) (hN : ∀ k, GN k → k < w.heap.size ∧ ¬ GK k) (hlen : o.rows.length ≤ 1000) :
    Calls Try.prog 45 #[.pointer (some ⟨cb, 1, none⟩), .agg #[.int .i64 (d : Nat), .int .i64 (s : Nat)], .agg #[.int .i64 (d : Nat), .int .i64 (s : Nat), v]] w fun e w' => e = .returned (.tuple #[]) ∧ PutR w cb P dv (putW o.rows d s f v) kv ks GO GK GN w' := by
  obtain ⟨W2, hW2⟩ : ∃ W2, W2 = (w.alloc (.cells #[.int .i64 (d : Nat), .int .i64 (s : Nat)] 76)).alloc (.cells #[.int .i64 (d : Nat), .int .i64 (s : Nat), v] 78) := ⟨_, rfl⟩
  have hb1 : Below w.heap.size w (w.alloc (.cells #[.int .i64 (d : Nat), .int .i64 (s : Nat)] 76)) := (Below.refl _ _).alloc (Nat.le_refl _) _
  have hb12 : Below (w.heap.size + 1) (w.alloc (.cells #[.int .i64 (d : Nat), .int .i64 (s : Nat)] 76)) W2 := by rw [hW2]; exact (Below.refl _ _).alloc (by simp) _
  have hb2 : Below w.heap.size w W2 := hb1.trans (hb12.mono (by omega))
  have H4 : Has W2 w.heap.size 76 #[.int .i64 (d : Nat), .int .i64 (s : Nat)] := (Has.new w _ _).below hb12 (by omega)
  have H5 : Has W2 (w.heap.size + 1) 78 #[.int .i64 (d : Nat), .int .i64 (s : Nat), v] := by rw [hW2]; have := Has.new (w.alloc (.cells #[.int .i64 (d : Nat), .int .i64 (s : Nat)] 76)) 78 #[.int .i64 (d : Nat), .int .i64 (s : Nat), v]; simpa using this
  have hbd : Below w.heap.size w W2.drew.drew := hb2.trans ⟨rfl, rfl, rfl, Nat.le_refl _, fun _ _ => rfl⟩
  have h2 : CAt W2.drew.drew cb P dv o kv ks GO GK := h.next hbd
  have hv2 : DataAt W2.drew.drew GN v f := hv.kept (fun k hk => hbd.block k (hN k hk).1)
  have hN2 : ∀ k, GN k → k < W2.drew.drew.heap.size ∧ ¬ GK k := fun k hk => ⟨Nat.lt_of_lt_of_le (hN k hk).1 hbd.size, (hN k hk).2⟩
  have c1 : W2.drew.cell? ⟨cb, 1, none⟩ = some o.mv := h2.str.cell 1
  have c2 : W2.drew.drew.cell? ⟨cb, 2, none⟩ = some o.lv := h2.str.cell 2
  have HLK : Hid ((Instr.lookup 68 o.mv (plv d s) true).run Try.prog W2.drew = .ok (.tuple #[.int .i64 (idx o.rows d s : Nat), .bool (fnd o.rows d s).isSome]) W2.drew) := (h2.opn.mp.kept (w' := W2.drew) (fun _ _ => rfl)).look d s
  have HW2 : Hid (W2 = (w.alloc (.cells #[.int .i64 (d : Nat), .int .i64 (s : Nat)] 76)).alloc (.cells #[.int .i64 (d : Nat), .int .i64 (s : Nat), v] 78)) := hW2
  have HV : Hid (v.oneCell' = true) := hv.one
  obtain ⟨B4, hB4⟩ : ∃ B4, B4 = w.heap.size := ⟨_, rfl⟩
  obtain ⟨B5, hB5⟩ : ∃ B5, B5 = w.heap.size + 1 := ⟨_, rfl⟩
  have b40 : W2.drew.cell? ⟨B4, 0, none⟩ = some (.int .i64 (d : Nat)) := by rw [hB4]; exact H4.cell 0
  have b41 : W2.drew.cell? ⟨B4, 0 + 1, none⟩ = some (.int .i64 (s : Nat)) := by rw [hB4]; exact H4.cell 1
  have HB : Hid (B4 = w.heap.size ∧ B5 = w.heap.size + 1) := ⟨hB4, hB5⟩
  have HBD := hidC hbd
  have HH4 := hidC (show Has W2 B4 76 #[.int .i64 (d : Nat), .int .i64 (s : Nat)] by rw [hB4]; exact H4)
  have HH5 := hidC (show Has W2 B5 78 #[.int .i64 (d : Nat), .int .i64 (s : Nat), v] by rw [hB5]; exact H5)
  have HLEN := hidC hlen
  cases hf : fnd o.rows d s with
  | some i =>
    have hi := fnd_lt hf
    have HLK := hidC (show (Instr.lookup 68 o.mv (plv d s) true).run Try.prog W2.drew = .ok (.tuple #[.int .i64 (i : Nat), .bool true]) W2.drew by have h0 := HLK.out; rw [hf, show idx o.rows d s = i by unfold idx; rw [hf]; rfl] at h0; exact h0)
    obtain ⟨a, c, hlv, _, hnil⟩ := h2.opn.sl
    obtain ⟨g, rfl⟩ : ∃ g, a = some ⟨g, 0, none⟩ := by
      obtain ⟨a', c', e', _, _, h4, _⟩ := own_slice h2.opn.row
      rw [hlv] at e'
      cases e'
      cases a with
      | none => have := (hnil rfl).1; rw [this] at hi; simp at hi
      | some ad => obtain ⟨g, e⟩ := h4 ad rfl; exact ⟨g, by rw [e]⟩
    have HFIN := hidC (PutR.of hbd (put_set h2 hd hs hf hv2 hN2 hlv))
    have hrow := h2.opn.row
    rw [hlv] at hrow
    have HTH := hidC (there_row hrow hi)
    have b50 : W2.drew.drew.cell? ⟨B5, 0, none⟩ = some (.int .i64 (d : Nat)) := HH5.out.cell 0
    have b51 : W2.drew.drew.cell? ⟨B5, 0 + 1, none⟩ = some (.int .i64 (s : Nat)) := HH5.out.cell 1
    have b52 : W2.drew.drew.cell? ⟨B5, 0 + 2, none⟩ = some v := HH5.out.cell 2
    clear hlen hrow h h2 hv hv2 hN hN2 hbd hb1 hb12 hb2 H4 H5 hW2 hB4 hB5 hnil hf
    generalize hNL : o.rows.length = NL at *
    have HIX := hidC hi
    unfold wcl at HFIN
    rw [hlv] at c2
    clear hi hNL hlv
    generalize o.mv = mv at *
    generalize putW o.rows d s f v = PW at *
    generalize hIX : i = IX at *
    clear hIX
    go_enter Try.func45, Try.ntmps45
    go_wp2
    rw [← HW2.out, ← HB.out.2, ← HB.out.1]
    refine wp_region_held_drew (S := fun wz => wz = W2.drew) (by kernel_rfl) (rfl) (fun hHeld => ?_)
    refine takeTo 0 (some 9) (.pointer (some ⟨cb, 1, none⟩)) rfl rfl (by kernel_rfl) (by kernel_rfl) (by kernel_rfl) (fun _ _ _ h => h) (by rfl) (fun _ _ => rfl) hHeld ?_
    simp only [Act.put, List.setIfInBounds_toArray, List.set_cons_zero, List.set_cons_succ]
    refine takeTo 1 (some 10) (.pointer (some ⟨cb, 1, none⟩)) rfl rfl (by kernel_rfl) (by kernel_rfl) (by kernel_rfl) (fun _ _ _ h => h) (by rfl) (fun _ _ => rfl) hHeld ?_
    simp only [Act.put, List.setIfInBounds_toArray, List.set_cons_zero, List.set_cons_succ]
    refine takeTo 2 (some 11) (.pointer (some ⟨cb, 1, none⟩)) rfl rfl (by kernel_rfl) (by kernel_rfl) (by kernel_rfl) (fun _ _ _ h => h) (by rfl) (fun _ _ => rfl) hHeld ?_
    simp only [Act.put, List.setIfInBounds_toArray, List.set_cons_zero, List.set_cons_succ]
    refine takeTo 3 (some 12) (mv) rfl rfl (by kernel_rfl) (by kernel_rfl) (by kernel_rfl) (fun _ _ _ h => h) (by rfl) (fun wz hz => by rw [hz]; exact run_load_cmC _ rfl _ rfl _ _ c1) hHeld ?_
    simp only [Act.put, List.setIfInBounds_toArray, List.set_cons_zero, List.set_cons_succ]
    refine takeTo 4 (some 13) (.agg #[.int .i64 (d : Nat), .int .i64 (s : Nat)]) rfl rfl (by kernel_rfl) (by kernel_rfl) (by kernel_rfl) (fun _ _ _ h => h) (by rfl) (fun wz hz => by rw [hz]; exact run_load_pl _ rfl B4 0 rfl d s _ b40 b41) hHeld ?_
    simp only [Act.put, List.setIfInBounds_toArray, List.set_cons_zero, List.set_cons_succ]
    refine takeTo 5 (some 14) (.tuple #[.int .i64 (IX : Nat), .bool true]) rfl rfl (by kernel_rfl) (by kernel_rfl) (by kernel_rfl) (fun _ _ _ h => h) (by rfl) (fun wz hz => by rw [hz]; exact run_look_op (mv := mv) (d := d) (s := s) _ _ rfl rfl rfl HLK.out) hHeld ?_
    simp only [Act.put, List.setIfInBounds_toArray, List.set_cons_zero, List.set_cons_succ]
    refine takeTo 6 (some 8) (.tuple #[.int .i64 (IX : Nat), .bool true]) rfl rfl (by kernel_rfl) (by kernel_rfl) (by kernel_rfl) (fun _ _ _ h => h) (by rfl) (fun _ _ => rfl) hHeld ?_
    simp only [Act.put, List.setIfInBounds_toArray, List.set_cons_zero, List.set_cons_succ]
    refine takeTo 7 (some 15) (.int .i64 (IX : Nat)) rfl rfl (by kernel_rfl) (by kernel_rfl) (by kernel_rfl) (fun _ _ _ h => h) (by rfl) (fun _ _ => rfl) hHeld ?_
    simp only [Act.put, List.setIfInBounds_toArray, List.set_cons_zero, List.set_cons_succ]
    refine takeTo 8 (some 16) (.bool true) rfl rfl (by kernel_rfl) (by kernel_rfl) (by kernel_rfl) (fun _ _ _ h => h) (by rfl) (fun _ _ => rfl) hHeld ?_
    simp only [Act.put, List.setIfInBounds_toArray, List.set_cons_zero, List.set_cons_succ]
    refine takeTo 9 (some 6) (.int .i64 (IX : Nat)) rfl rfl (by kernel_rfl) (by kernel_rfl) (by kernel_rfl) (fun _ _ _ h => h) (by rfl) (fun _ _ => rfl) hHeld ?_
    simp only [Act.put, List.setIfInBounds_toArray, List.set_cons_zero, List.set_cons_succ]
    refine takeTo 10 (some 7) (.bool true) rfl rfl (by kernel_rfl) (by kernel_rfl) (by kernel_rfl) (fun _ _ _ h => h) (by rfl) (fun _ _ => rfl) hHeld ?_
    simp only [Act.put, List.setIfInBounds_toArray, List.set_cons_zero, List.set_cons_succ]
    refine wpAnyH_done (by kernel_rfl) ?_ _
    go_wp2
    refine lastTo (S := fun wz => wz = W2.drew.drew) 7 (by kernel_rfl) (rfl) (fun hHeld => ?_)
    refine takeL 0 (some 18) (.pointer (some ⟨cb, 1, none⟩)) rfl rfl (by decide) (by kernel_rfl) (by kernel_rfl) (by kernel_rfl) (by kernel_rfl) (fun _ _ _ h => h) (by rfl) (fun _ _ => rfl) hHeld ?_
    simp only [Act.put, List.setIfInBounds_toArray, List.set_cons_zero, List.set_cons_succ]
    refine takeL 1 (some 19) (.pointer (some ⟨cb, 1, none⟩)) rfl rfl (by decide) (by kernel_rfl) (by kernel_rfl) (by kernel_rfl) (by kernel_rfl) (fun _ _ _ h => h) (by rfl) (fun _ _ => rfl) hHeld ?_
    simp only [Act.put, List.setIfInBounds_toArray, List.set_cons_zero, List.set_cons_succ]
    refine takeL 2 (some 20) (.pointer (some ⟨cb, 2, none⟩)) rfl rfl (by decide) (by kernel_rfl) (by kernel_rfl) (by kernel_rfl) (by kernel_rfl) (fun _ _ _ h => h) (by rfl) (fun _ _ => rfl) hHeld ?_
    simp only [Act.put, List.setIfInBounds_toArray, List.set_cons_zero, List.set_cons_succ]
    refine takeL 3 (some 21) (.slice (some ⟨g, 0, none⟩) NL c) rfl rfl (by decide) (by kernel_rfl) (by kernel_rfl) (by kernel_rfl) (by kernel_rfl) (fun _ _ _ h => h) (by rfl) (fun wz hz => by rw [hz]; exact run_load_wsC _ rfl _ rfl _ _ c2) hHeld ?_
    simp only [Act.put, List.setIfInBounds_toArray, List.set_cons_zero, List.set_cons_succ]
    refine takeL 4 (some 22) (.int .i64 (IX : Nat)) rfl rfl (by decide) (by kernel_rfl) (by kernel_rfl) (by kernel_rfl) (by kernel_rfl) (fun _ _ _ h => h) (by rfl) (fun _ _ => rfl) hHeld ?_
    simp only [Act.put, List.setIfInBounds_toArray, List.set_cons_zero, List.set_cons_succ]
    refine takeL 5 (some 23) (.agg #[.int .i64 (d : Nat), .int .i64 (s : Nat), v]) rfl rfl (by decide) (by kernel_rfl) (by kernel_rfl) (by kernel_rfl) (by kernel_rfl) (fun _ _ _ h => h) (by rfl) (fun wz hz => by rw [hz]; exact run_load_wr _ rfl B5 0 rfl _ _ _ _ b50 b51 b52) hHeld ?_
    simp only [Act.put, List.setIfInBounds_toArray, List.set_cons_zero, List.set_cons_succ]
    refine takeL 6 (some 24) (.pointer (some ⟨g, IX * 3, none⟩)) rfl rfl (by decide) (by kernel_rfl) (by kernel_rfl) (by kernel_rfl) (by kernel_rfl) (fun _ _ _ h => h) (by rfl) (fun wz _ => run_at_wr _ _ rfl g IX NL c rfl rfl HIX.out wz) hHeld ?_
    simp only [Act.put, List.setIfInBounds_toArray, List.set_cons_zero, List.set_cons_succ]
    refine lastSkip 7 none (W2.drew.drew.setCells g (IX * 3) [.int .i64 (d : Nat), .int .i64 (s : Nat), v]) (by kernel_rfl) rfl rfl (by rfl) (run_store_wrC _ _ rfl g (IX * 3) _ _ _ rfl rfl _ HTH.out rfl rfl HV.out) (by kernel_rfl) ?_
    simp only [Act.put]
    go_wp2
    refine bodyPost_ret (results_none rfl _ _ _) rfl ?_
    exact ⟨rfl, HFIN.out⟩
  | none =>
    have HLK := hidC (show (Instr.lookup 68 o.mv (plv d s) true).run Try.prog W2.drew = .ok (.tuple #[.int .i64 (0 : Nat), .bool false]) W2.drew by have h0 := HLK.out; rw [hf, show idx o.rows d s = 0 by unfold idx; rw [hf]; rfl] at h0; exact h0)
    have hB5l : w.heap.size ≤ B5 := by omega
    have hB5n : ¬ GO B5 ∧ ¬ GK B5 := ⟨fun e => by have := h.lt B5 (.inl e); omega, fun e => by have := h.lt B5 (.inr e); omega⟩
    cases hm : o.mv with
    | map r =>
      cases r with
      | some mb =>
        have hq := fun w => run_eql_mapnil w 68 _ _ (some mb) Try.underlying68
        have hfX := hf
        have hvX := hv2
        have hNX := hN2
        have hlenX := hlen
        have hB5X : Has W2.drew.drew B5 78 #[.int .i64 (d : Nat), .int .i64 (s : Nat), v] := HH5.out
        have hB5nX := hB5n
        obtain ⟨W6, k1, k2, k3, k4, k5, aA, cA, w8, k6, k7, k8, k9, k10⟩ := put_tail h2 hd hs hfX hm hvX hNX hlenX hB5X hB5nX
        obtain ⟨aL, cL, hlv, _, _⟩ := h2.opn.sl
        have x1 := h2.str.cell 1
        have x2 := h2.str.cell 2
        have HFIN := hidC (PutR.of hbd k10)
        simp only [List.getElem?_toArray, List.getElem?_cons_zero, List.getElem?_cons_succ] at x1 x2
        rw [hlv] at x2 k3 k4 k6 k7
        rw [hm] at x1
        have HT6 := hidC k1
        have T62 := hidC k3
        have T6B := hidC k2
        have T72 := hidC k4
        have T7B := hidC k5
        have HA8 := hidC k6
        have T82 := hidC k7
        have T8F := hidC k8
        have T8B := hidC k9
        have x40 : W2.drew.drew.cell? ⟨B4, 0, none⟩ = some (.int .i64 (d : Nat)) := b40
        have x41 : W2.drew.drew.cell? ⟨B4, 0 + 1, none⟩ = some (.int .i64 (s : Nat)) := b41
        rw [hm] at c1 HLK
        clear k1 k2 k3 k4 k5 k6 k7 k8 k9 k10 hlen hlenX h h2 hv hv2 hvX hN hN2 hNX hbd hb1 hb12 hb2 H4 H5 hW2 hB4 hB5 hf hfX hB5X hB5nX hB5n hB5l hm hlv c2
        generalize hNL : o.rows.length = NL at *
        clear hNL
        generalize putW o.rows d s f v = PW at *
        generalize hIX : (0 : Nat) = IX at HLK
        clear hIX
        go_enter Try.func45, Try.ntmps45
        go_wp2
        rw [← HW2.out, ← HB.out.2, ← HB.out.1]
        refine wp_region_held_drew (S := fun wz => wz = W2.drew) (by kernel_rfl) (rfl) (fun hHeld => ?_)
        refine takeTo 0 (some 9) (.pointer (some ⟨cb, 1, none⟩)) rfl rfl (by kernel_rfl) (by kernel_rfl) (by kernel_rfl) (fun _ _ _ h => h) (by rfl) (fun _ _ => rfl) hHeld ?_
        simp only [Act.put, List.setIfInBounds_toArray, List.set_cons_zero, List.set_cons_succ]
        refine takeTo 1 (some 10) (.pointer (some ⟨cb, 1, none⟩)) rfl rfl (by kernel_rfl) (by kernel_rfl) (by kernel_rfl) (fun _ _ _ h => h) (by rfl) (fun _ _ => rfl) hHeld ?_
        simp only [Act.put, List.setIfInBounds_toArray, List.set_cons_zero, List.set_cons_succ]
        refine takeTo 2 (some 11) (.pointer (some ⟨cb, 1, none⟩)) rfl rfl (by kernel_rfl) (by kernel_rfl) (by kernel_rfl) (fun _ _ _ h => h) (by rfl) (fun _ _ => rfl) hHeld ?_
        simp only [Act.put, List.setIfInBounds_toArray, List.set_cons_zero, List.set_cons_succ]
        refine takeTo 3 (some 12) (.map (some mb)) rfl rfl (by kernel_rfl) (by kernel_rfl) (by kernel_rfl) (fun _ _ _ h => h) (by rfl) (fun wz hz => by rw [hz]; exact run_load_cmC _ rfl _ rfl _ _ c1) hHeld ?_
        simp only [Act.put, List.setIfInBounds_toArray, List.set_cons_zero, List.set_cons_succ]
        refine takeTo 4 (some 13) (.agg #[.int .i64 (d : Nat), .int .i64 (s : Nat)]) rfl rfl (by kernel_rfl) (by kernel_rfl) (by kernel_rfl) (fun _ _ _ h => h) (by rfl) (fun wz hz => by rw [hz]; exact run_load_pl _ rfl B4 0 rfl d s _ b40 b41) hHeld ?_
        simp only [Act.put, List.setIfInBounds_toArray, List.set_cons_zero, List.set_cons_succ]
        refine takeTo 5 (some 14) (.tuple #[.int .i64 (IX : Nat), .bool false]) rfl rfl (by kernel_rfl) (by kernel_rfl) (by kernel_rfl) (fun _ _ _ h => h) (by rfl) (fun wz hz => by rw [hz]; exact run_look_op (mv := .map (some mb)) (d := d) (s := s) _ _ rfl rfl rfl HLK.out) hHeld ?_
        simp only [Act.put, List.setIfInBounds_toArray, List.set_cons_zero, List.set_cons_succ]
        refine takeTo 6 (some 8) (.tuple #[.int .i64 (IX : Nat), .bool false]) rfl rfl (by kernel_rfl) (by kernel_rfl) (by kernel_rfl) (fun _ _ _ h => h) (by rfl) (fun _ _ => rfl) hHeld ?_
        simp only [Act.put, List.setIfInBounds_toArray, List.set_cons_zero, List.set_cons_succ]
        refine takeTo 7 (some 15) (.int .i64 (IX : Nat)) rfl rfl (by kernel_rfl) (by kernel_rfl) (by kernel_rfl) (fun _ _ _ h => h) (by rfl) (fun _ _ => rfl) hHeld ?_
        simp only [Act.put, List.setIfInBounds_toArray, List.set_cons_zero, List.set_cons_succ]
        refine takeTo 8 (some 16) (.bool false) rfl rfl (by kernel_rfl) (by kernel_rfl) (by kernel_rfl) (fun _ _ _ h => h) (by rfl) (fun _ _ => rfl) hHeld ?_
        simp only [Act.put, List.setIfInBounds_toArray, List.set_cons_zero, List.set_cons_succ]
        refine takeTo 9 (some 6) (.int .i64 (IX : Nat)) rfl rfl (by kernel_rfl) (by kernel_rfl) (by kernel_rfl) (fun _ _ _ h => h) (by rfl) (fun _ _ => rfl) hHeld ?_
        simp only [Act.put, List.setIfInBounds_toArray, List.set_cons_zero, List.set_cons_succ]
        refine takeTo 10 (some 7) (.bool false) rfl rfl (by kernel_rfl) (by kernel_rfl) (by kernel_rfl) (fun _ _ _ h => h) (by rfl) (fun _ _ => rfl) hHeld ?_
        simp only [Act.put, List.setIfInBounds_toArray, List.set_cons_zero, List.set_cons_succ]
        refine wpAnyH_done (by kernel_rfl) ?_ _
        go_wp2
        refine lastTo (S := fun wz => wz = W2.drew.drew) 10 (by kernel_rfl) (rfl) (fun hHeld => ?_)
        refine takeL 0 (some 34) (.pointer (some ⟨cb, 1, none⟩)) rfl rfl (by decide) (by kernel_rfl) (by kernel_rfl) (by kernel_rfl) (by kernel_rfl) (fun _ _ _ h => h) (by rfl) (fun _ _ => rfl) hHeld ?_
        simp only [Act.put, List.setIfInBounds_toArray, List.set_cons_zero, List.set_cons_succ]
        refine takeL 1 (some 35) (.pointer (some ⟨cb, 1, none⟩)) rfl rfl (by decide) (by kernel_rfl) (by kernel_rfl) (by kernel_rfl) (by kernel_rfl) (fun _ _ _ h => h) (by rfl) (fun _ _ => rfl) hHeld ?_
        simp only [Act.put, List.setIfInBounds_toArray, List.set_cons_zero, List.set_cons_succ]
        refine takeL 2 (some 36) (.pointer (some ⟨cb, 1, none⟩)) rfl rfl (by decide) (by kernel_rfl) (by kernel_rfl) (by kernel_rfl) (by kernel_rfl) (fun _ _ _ h => h) (by rfl) (fun _ _ => rfl) hHeld ?_
        simp only [Act.put, List.setIfInBounds_toArray, List.set_cons_zero, List.set_cons_succ]
        refine takeL 3 (some 37) (.map (some mb)) rfl rfl (by decide) (by kernel_rfl) (by kernel_rfl) (by kernel_rfl) (by kernel_rfl) (fun _ _ _ h => h) (by rfl) (fun wz hz => by rw [hz]; exact run_load_cmC _ rfl _ rfl _ _ x1) hHeld ?_
        simp only [Act.put, List.setIfInBounds_toArray, List.set_cons_zero, List.set_cons_succ]
        refine takeL 4 (some 38) (.agg #[.int .i64 (d : Nat), .int .i64 (s : Nat)]) rfl rfl (by decide) (by kernel_rfl) (by kernel_rfl) (by kernel_rfl) (by kernel_rfl) (fun _ _ _ h => h) (by rfl) (fun wz hz => by rw [hz]; exact run_load_pl _ rfl B4 0 rfl d s _ x40 x41) hHeld ?_
        simp only [Act.put, List.setIfInBounds_toArray, List.set_cons_zero, List.set_cons_succ]
        refine takeL 5 (some 39) (.pointer (some ⟨cb, 1, none⟩)) rfl rfl (by decide) (by kernel_rfl) (by kernel_rfl) (by kernel_rfl) (by kernel_rfl) (fun _ _ _ h => h) (by rfl) (fun _ _ => rfl) hHeld ?_
        simp only [Act.put, List.setIfInBounds_toArray, List.set_cons_zero, List.set_cons_succ]
        refine takeL 6 (some 40) (.pointer (some ⟨cb, 1, none⟩)) rfl rfl (by decide) (by kernel_rfl) (by kernel_rfl) (by kernel_rfl) (by kernel_rfl) (fun _ _ _ h => h) (by rfl) (fun _ _ => rfl) hHeld ?_
        simp only [Act.put, List.setIfInBounds_toArray, List.set_cons_zero, List.set_cons_succ]
        refine takeL 7 (some 41) (.pointer (some ⟨cb, 2, none⟩)) rfl rfl (by decide) (by kernel_rfl) (by kernel_rfl) (by kernel_rfl) (by kernel_rfl) (fun _ _ _ h => h) (by rfl) (fun _ _ => rfl) hHeld ?_
        simp only [Act.put, List.setIfInBounds_toArray, List.set_cons_zero, List.set_cons_succ]
        refine takeL 8 (some 42) (.slice aL NL cL) rfl rfl (by decide) (by kernel_rfl) (by kernel_rfl) (by kernel_rfl) (by kernel_rfl) (fun _ _ _ h => h) (by rfl) (fun wz hz => by rw [hz]; exact run_load_wsC _ rfl _ rfl _ _ x2) hHeld ?_
        simp only [Act.put, List.setIfInBounds_toArray, List.set_cons_zero, List.set_cons_succ]
        refine takeL 9 (some 43) (.int .i64 (NL : Nat)) rfl rfl (by decide) (by kernel_rfl) (by kernel_rfl) (by kernel_rfl) (by kernel_rfl) (fun _ _ _ h => h) (by rfl) (fun wz _ => run_len_C 30 78 Try.underlying30 _ rfl _ _ _ rfl wz) hHeld ?_
        simp only [Act.put, List.setIfInBounds_toArray, List.set_cons_zero, List.set_cons_succ]
        refine lastSkip 10 none W6 (by kernel_rfl) rfl rfl (by rfl) (run_upd_op (mv := .map (some mb)) (k := plv d s) (v := .int .i64 (NL : Nat)) (.tmp 37) (.tmp 38) (.tmp 43) rfl rfl rfl rfl HT6.out) (by kernel_rfl) ?_
        simp only [Act.put]
        clear hHeld
        go_wp2
        refine lastTo (S := fun wz => wz.cell? ⟨cb, 2, none⟩ = some (.slice aL NL cL) ∧ Has wz B5 78 #[.int .i64 (d : Nat), .int .i64 (s : Nat), v]) 10 (by kernel_rfl) (⟨T62.out, T6B.out⟩) (fun hHeld => ?_)
        refine takeL 0 (some 44) (.pointer (some ⟨cb, 1, none⟩)) rfl rfl (by decide) (by kernel_rfl) (by kernel_rfl) (by kernel_rfl) (by kernel_rfl) (fun _ _ _ h => h) (by rfl) (fun _ _ => rfl) hHeld ?_
        simp only [Act.put, List.setIfInBounds_toArray, List.set_cons_zero, List.set_cons_succ]
        refine takeL 1 (some 45) (.pointer (some ⟨cb, 1, none⟩)) rfl rfl (by decide) (by kernel_rfl) (by kernel_rfl) (by kernel_rfl) (by kernel_rfl) (fun _ _ _ h => h) (by rfl) (fun _ _ => rfl) hHeld ?_
        simp only [Act.put, List.setIfInBounds_toArray, List.set_cons_zero, List.set_cons_succ]
        refine takeL 2 (some 46) (.pointer (some ⟨cb, 1, none⟩)) rfl rfl (by decide) (by kernel_rfl) (by kernel_rfl) (by kernel_rfl) (by kernel_rfl) (fun _ _ _ h => h) (by rfl) (fun _ _ => rfl) hHeld ?_
        simp only [Act.put, List.setIfInBounds_toArray, List.set_cons_zero, List.set_cons_succ]
        refine takeL 3 (some 47) (.pointer (some ⟨cb, 2, none⟩)) rfl rfl (by decide) (by kernel_rfl) (by kernel_rfl) (by kernel_rfl) (by kernel_rfl) (fun _ _ _ h => h) (by rfl) (fun _ _ => rfl) hHeld ?_
        simp only [Act.put, List.setIfInBounds_toArray, List.set_cons_zero, List.set_cons_succ]
        refine takeL 4 (some 48) (.slice aL NL cL) rfl rfl (by decide) (by kernel_rfl) (by kernel_rfl) (by kernel_rfl) (by kernel_rfl) (fun _ _ _ h => h) (by rfl) (fun wz hz => run_load_wsC _ rfl _ rfl _ _ hz.1) hHeld ?_
        simp only [Act.put, List.setIfInBounds_toArray, List.set_cons_zero, List.set_cons_succ]
        refine takeL 5 (some 49) (.agg #[.int .i64 (d : Nat), .int .i64 (s : Nat), v]) rfl rfl (by decide) (by kernel_rfl) (by kernel_rfl) (by kernel_rfl) (by kernel_rfl) (fun _ _ _ h => h) (by rfl) (fun wz hz => run_load_wr _ rfl B5 0 rfl _ _ _ _ (hz.2.cell 0) (hz.2.cell 1) (hz.2.cell 2)) hHeld ?_
        simp only [Act.put, List.setIfInBounds_toArray, List.set_cons_zero, List.set_cons_succ]
        refine valL 6 (some 50) (.slice (some ⟨W6.heap.size, 0, none⟩) 1 1) (W6.drew.alloc (.cells #[.int .i64 (d : Nat), .int .i64 (s : Nat), v] 78)) (by kernel_rfl) rfl rfl (by rfl) (by kernel_rfl) ⟨T72.out, T7B.out⟩ ?_
        simp only [Act.put, List.setIfInBounds_toArray, List.set_cons_zero, List.set_cons_succ]
        refine valL 7 (some 51) (.slice aA (NL + 1) cA) w8 (by kernel_rfl) rfl rfl (by rfl) (run_app_isC _ _ rfl rfl rfl HA8.out) ⟨T82.out, T8B.out⟩ ?_
        simp only [Act.put, List.setIfInBounds_toArray, List.set_cons_zero, List.set_cons_succ]
        refine takeC 8 [9] (some 52) (.pointer (some ⟨cb, 1, none⟩)) rfl rfl (by decide) (by kernel_rfl) (by kernel_rfl) (by kernel_rfl) (by kernel_rfl) (by kernel_rfl) (fun _ _ _ h => h) (by rfl) (fun _ _ => rfl) ⟨T82.out, T8B.out⟩ ?_
        simp only [Act.put, List.setIfInBounds_toArray, List.set_cons_zero, List.set_cons_succ]
        refine takeL 9 (some 53) (.pointer (some ⟨cb, 2, none⟩)) rfl rfl (by decide) (by kernel_rfl) (by kernel_rfl) (by kernel_rfl) (by kernel_rfl) (fun _ _ _ h => h) (by rfl) (fun _ _ => rfl) ⟨T82.out, T8B.out⟩ ?_
        simp only [Act.put, List.setIfInBounds_toArray, List.set_cons_zero, List.set_cons_succ]
        refine lastSkip 10 none (w8.setCell ⟨cb, 2, none⟩ (.slice aA (NL + 1) cA)) (by kernel_rfl) rfl rfl (by rfl) (run_store_wsC _ _ rfl _ rfl _ _ _ rfl _ _ T82.out T8F.out) (by kernel_rfl) ?_
        simp only [Act.put]
        clear hHeld
        go_wp2
        refine bodyPost_end (results_none rfl _ _ _) rfl ?_
        exact ⟨rfl, HFIN.out⟩

      | none =>
        have hq := fun w => run_eql_mapnil w 68 _ _ none Try.underlying68
        have hbd1 : Below w.heap.size w W2.drew := hbd.trans ⟨rfl, rfl, rfl, Nat.le_refl _, fun _ _ => rfl⟩
        have h21 : CAt W2.drew cb P dv o kv ks GO GK := h.next hbd1
        have hmm := @run_makeMap Try.prog
        obtain ⟨mb, hMB⟩ : ∃ mb, mb = W2.heap.size := ⟨_, rfl⟩
        obtain ⟨W5, hW5⟩ : ∃ W5, W5 = ((W2.alloc (.map #[] 0)).setCell ⟨cb, 1, none⟩ (.map (some mb))).drew := ⟨_, rfl⟩
        obtain ⟨GO5, h5', _, ho5', hg5⟩ := put_map h21 hm
        obtain ⟨o5, hmX, e5r, h5⟩ : ∃ o5 : GV, o5.mv = .map (some mb) ∧ o5.rows = o.rows ∧ CAt W5.drew cb P dv o5 kv ks GO5 GK := by
          refine ⟨⟨.map (some mb), o.lv, o.rows⟩, rfl, rfl, ?_⟩
          rw [hW5, hMB]
          exact h5'.next ⟨rfl, rfl, rfl, Nat.le_refl _, fun _ _ => rfl⟩
        have ho5 : Only (fun k => k = cb) W2.drew W5.drew := by
          rw [hW5, hMB]
          exact ⟨ho5'.os, ho5'.tape, ho5'.output, ho5'.size, ho5'.block⟩
        have hcbk := h2.lt cb (.inr h2.gcb)
        have hcbB5 : cb ≠ B5 := fun e => hB5n.2 (e ▸ h2.gcb)
        have hcbB4 : cb ≠ B4 := fun e => by have := h.lt cb (.inr h.gcb); omega
        have hvX : DataAt W5.drew GN v f := hv2.kept (fun k hk => ho5.block k (hN2 k hk).1 (fun e => (hN2 k hk).2 (e ▸ h2.gcb)))
        have hNX : ∀ k, GN k → k < W5.drew.heap.size ∧ ¬ GK k := fun k hk => ⟨Nat.lt_of_lt_of_le (hN2 k hk).1 ho5.size, (hN2 k hk).2⟩
        have hfX : fnd o5.rows d s = none := by rw [e5r]; exact hf
        have hlenX : o5.rows.length ≤ 1000 := by rw [e5r]; exact hlen
        have hB5X : Has W5.drew B5 78 #[.int .i64 (d : Nat), .int .i64 (s : Nat), v] := (ho5.block B5 HH5.out.lt hcbB5.symm).trans HH5.out
        have hB4X : Has W5.drew B4 76 #[.int .i64 (d : Nat), .int .i64 (s : Nat)] := (ho5.block B4 HH4.out.lt hcbB4.symm).trans HH4.out
        have hB5l2 : B5 < W2.heap.size := HH5.out.lt
        have hB5nX : ¬ GO5 B5 ∧ ¬ GK B5 := ⟨fun e => (hg5 B5 e).elim hB5n.1 (fun e2 => Nat.not_le.2 hB5l2 e2), hB5n.2⟩
        have c1a : (W2.drew.alloc (.map #[] 0)).cell? ⟨cb, 1, none⟩ = some (.map none) := by
          have := ((h21.next ((Below.refl _ _).alloc (Nat.le_refl _) (.map #[] 0))).str.cell 1)
          rw [hm] at this
          exact this
        have f1a : (W2.drew.alloc (.map #[] 0)).frozen? ⟨cb, 1, none⟩ = false := (h21.next ((Below.refl _ _).alloc (Nat.le_refl _) (.map #[] 0))).str.free 1
        obtain ⟨W6, k1, k2, k3, k4, k5, aA, cA, w8, k6, k7, k8, k9, k10⟩ := put_tail h5 hd hs hfX hmX hvX hNX hlenX hB5X hB5nX
        obtain ⟨aL, cL, hlv, _, _⟩ := h5.opn.sl
        have x1 := h5.str.cell 1
        have x2 := h5.str.cell 2
        have HFIN := hidC (PutR.of hbd1 (PutR.of2 (ho5.mono (fun k e => .inr e)) hg5 k10))
        simp only [List.getElem?_toArray, List.getElem?_cons_zero, List.getElem?_cons_succ] at x1 x2
        rw [e5r] at hlv k1 k6 k10 HFIN; rw [hlv] at x2 k3 k4 k6 k7
        rw [hmX] at x1
        have HT6 := hidC k1
        have T62 := hidC k3
        have T6B := hidC k2
        have T72 := hidC k4
        have T7B := hidC k5
        have HA8 := hidC k6
        have T82 := hidC k7
        have T8F := hidC k8
        have T8B := hidC k9
        have x40 : W5.drew.cell? ⟨B4, 0, none⟩ = some (.int .i64 (d : Nat)) := hB4X.cell 0
        have x41 : W5.drew.cell? ⟨B4, 0 + 1, none⟩ = some (.int .i64 (s : Nat)) := hB4X.cell 1
        rw [hm] at c1 HLK
        have c1b : (W2.alloc (.map #[] 0)).cell? ⟨cb, 1, none⟩ = some (.map none) := c1a
        have f1b : (W2.alloc (.map #[] 0)).frozen? ⟨cb, 1, none⟩ = false := f1a
        have c1c : (W2.alloc (.map #[] 0)).drew.cell? ⟨cb, 1, none⟩ = some (.map none) := c1a
        have f1c : (W2.alloc (.map #[] 0)).drew.frozen? ⟨cb, 1, none⟩ = false := f1a
        have HMB := hidC hMB
        have HW5 := hidC hW5
        clear k1 k2 k3 k4 k5 k6 k7 k8 k9 k10 hlen hlenX h h2 hv hv2 hvX hN hN2 hNX h21 hbd hbd1 hb1 hb12 hb2 H4 H5 hW2 hB4 hB5 hf hfX hB5X hB5nX hB5n hB5l hm hlv c2 hMB hW5 h5 h5' ho5 ho5' hg5 hcbk hcbB5 hcbB4 hB4X hB5l2 hmX e5r
        generalize hNL : o.rows.length = NL at *
        clear hNL
        generalize putW o.rows d s f v = PW at *
        generalize hIX : (0 : Nat) = IX at HLK
        clear hIX
        go_enter Try.func45, Try.ntmps45
        go_wp2
        rw [← HW2.out, ← HB.out.2, ← HB.out.1]
        refine wp_region_held_drew (S := fun wz => wz = W2.drew) (by kernel_rfl) (rfl) (fun hHeld => ?_)
        refine takeTo 0 (some 9) (.pointer (some ⟨cb, 1, none⟩)) rfl rfl (by kernel_rfl) (by kernel_rfl) (by kernel_rfl) (fun _ _ _ h => h) (by rfl) (fun _ _ => rfl) hHeld ?_
        simp only [Act.put, List.setIfInBounds_toArray, List.set_cons_zero, List.set_cons_succ]
        refine takeTo 1 (some 10) (.pointer (some ⟨cb, 1, none⟩)) rfl rfl (by kernel_rfl) (by kernel_rfl) (by kernel_rfl) (fun _ _ _ h => h) (by rfl) (fun _ _ => rfl) hHeld ?_
        simp only [Act.put, List.setIfInBounds_toArray, List.set_cons_zero, List.set_cons_succ]
        refine takeTo 2 (some 11) (.pointer (some ⟨cb, 1, none⟩)) rfl rfl (by kernel_rfl) (by kernel_rfl) (by kernel_rfl) (fun _ _ _ h => h) (by rfl) (fun _ _ => rfl) hHeld ?_
        simp only [Act.put, List.setIfInBounds_toArray, List.set_cons_zero, List.set_cons_succ]
        refine takeTo 3 (some 12) (.map none) rfl rfl (by kernel_rfl) (by kernel_rfl) (by kernel_rfl) (fun _ _ _ h => h) (by rfl) (fun wz hz => by rw [hz]; exact run_load_cmC _ rfl _ rfl _ _ c1) hHeld ?_
        simp only [Act.put, List.setIfInBounds_toArray, List.set_cons_zero, List.set_cons_succ]
        refine takeTo 4 (some 13) (.agg #[.int .i64 (d : Nat), .int .i64 (s : Nat)]) rfl rfl (by kernel_rfl) (by kernel_rfl) (by kernel_rfl) (fun _ _ _ h => h) (by rfl) (fun wz hz => by rw [hz]; exact run_load_pl _ rfl B4 0 rfl d s _ b40 b41) hHeld ?_
        simp only [Act.put, List.setIfInBounds_toArray, List.set_cons_zero, List.set_cons_succ]
        refine takeTo 5 (some 14) (.tuple #[.int .i64 (IX : Nat), .bool false]) rfl rfl (by kernel_rfl) (by kernel_rfl) (by kernel_rfl) (fun _ _ _ h => h) (by rfl) (fun wz hz => by rw [hz]; exact run_look_op (mv := .map none) (d := d) (s := s) _ _ rfl rfl rfl HLK.out) hHeld ?_
        simp only [Act.put, List.setIfInBounds_toArray, List.set_cons_zero, List.set_cons_succ]
        refine takeTo 6 (some 8) (.tuple #[.int .i64 (IX : Nat), .bool false]) rfl rfl (by kernel_rfl) (by kernel_rfl) (by kernel_rfl) (fun _ _ _ h => h) (by rfl) (fun _ _ => rfl) hHeld ?_
        simp only [Act.put, List.setIfInBounds_toArray, List.set_cons_zero, List.set_cons_succ]
        refine takeTo 7 (some 15) (.int .i64 (IX : Nat)) rfl rfl (by kernel_rfl) (by kernel_rfl) (by kernel_rfl) (fun _ _ _ h => h) (by rfl) (fun _ _ => rfl) hHeld ?_
        simp only [Act.put, List.setIfInBounds_toArray, List.set_cons_zero, List.set_cons_succ]
        refine takeTo 8 (some 16) (.bool false) rfl rfl (by kernel_rfl) (by kernel_rfl) (by kernel_rfl) (fun _ _ _ h => h) (by rfl) (fun _ _ => rfl) hHeld ?_
        simp only [Act.put, List.setIfInBounds_toArray, List.set_cons_zero, List.set_cons_succ]
        refine takeTo 9 (some 6) (.int .i64 (IX : Nat)) rfl rfl (by kernel_rfl) (by kernel_rfl) (by kernel_rfl) (fun _ _ _ h => h) (by rfl) (fun _ _ => rfl) hHeld ?_
        simp only [Act.put, List.setIfInBounds_toArray, List.set_cons_zero, List.set_cons_succ]
        refine takeTo 10 (some 7) (.bool false) rfl rfl (by kernel_rfl) (by kernel_rfl) (by kernel_rfl) (fun _ _ _ h => h) (by rfl) (fun _ _ => rfl) hHeld ?_
        simp only [Act.put, List.setIfInBounds_toArray, List.set_cons_zero, List.set_cons_succ]
        refine wpAnyH_done (by kernel_rfl) ?_ _
        go_wp2
        rw [← HMB.out, ← HW5.out]
        refine lastTo (S := fun wz => wz = W5.drew) 10 (by kernel_rfl) (rfl) (fun hHeld => ?_)
        refine takeL 0 (some 34) (.pointer (some ⟨cb, 1, none⟩)) rfl rfl (by decide) (by kernel_rfl) (by kernel_rfl) (by kernel_rfl) (by kernel_rfl) (fun _ _ _ h => h) (by rfl) (fun _ _ => rfl) hHeld ?_
        simp only [Act.put, List.setIfInBounds_toArray, List.set_cons_zero, List.set_cons_succ]
        refine takeL 1 (some 35) (.pointer (some ⟨cb, 1, none⟩)) rfl rfl (by decide) (by kernel_rfl) (by kernel_rfl) (by kernel_rfl) (by kernel_rfl) (fun _ _ _ h => h) (by rfl) (fun _ _ => rfl) hHeld ?_
        simp only [Act.put, List.setIfInBounds_toArray, List.set_cons_zero, List.set_cons_succ]
        refine takeL 2 (some 36) (.pointer (some ⟨cb, 1, none⟩)) rfl rfl (by decide) (by kernel_rfl) (by kernel_rfl) (by kernel_rfl) (by kernel_rfl) (fun _ _ _ h => h) (by rfl) (fun _ _ => rfl) hHeld ?_
        simp only [Act.put, List.setIfInBounds_toArray, List.set_cons_zero, List.set_cons_succ]
        refine takeL 3 (some 37) (.map (some mb)) rfl rfl (by decide) (by kernel_rfl) (by kernel_rfl) (by kernel_rfl) (by kernel_rfl) (fun _ _ _ h => h) (by rfl) (fun wz hz => by rw [hz]; exact run_load_cmC _ rfl _ rfl _ _ x1) hHeld ?_
        simp only [Act.put, List.setIfInBounds_toArray, List.set_cons_zero, List.set_cons_succ]
        refine takeL 4 (some 38) (.agg #[.int .i64 (d : Nat), .int .i64 (s : Nat)]) rfl rfl (by decide) (by kernel_rfl) (by kernel_rfl) (by kernel_rfl) (by kernel_rfl) (fun _ _ _ h => h) (by rfl) (fun wz hz => by rw [hz]; exact run_load_pl _ rfl B4 0 rfl d s _ x40 x41) hHeld ?_
        simp only [Act.put, List.setIfInBounds_toArray, List.set_cons_zero, List.set_cons_succ]
        refine takeL 5 (some 39) (.pointer (some ⟨cb, 1, none⟩)) rfl rfl (by decide) (by kernel_rfl) (by kernel_rfl) (by kernel_rfl) (by kernel_rfl) (fun _ _ _ h => h) (by rfl) (fun _ _ => rfl) hHeld ?_
        simp only [Act.put, List.setIfInBounds_toArray, List.set_cons_zero, List.set_cons_succ]
        refine takeL 6 (some 40) (.pointer (some ⟨cb, 1, none⟩)) rfl rfl (by decide) (by kernel_rfl) (by kernel_rfl) (by kernel_rfl) (by kernel_rfl) (fun _ _ _ h => h) (by rfl) (fun _ _ => rfl) hHeld ?_
        simp only [Act.put, List.setIfInBounds_toArray, List.set_cons_zero, List.set_cons_succ]
        refine takeL 7 (some 41) (.pointer (some ⟨cb, 2, none⟩)) rfl rfl (by decide) (by kernel_rfl) (by kernel_rfl) (by kernel_rfl) (by kernel_rfl) (fun _ _ _ h => h) (by rfl) (fun _ _ => rfl) hHeld ?_
        simp only [Act.put, List.setIfInBounds_toArray, List.set_cons_zero, List.set_cons_succ]
        refine takeL 8 (some 42) (.slice aL NL cL) rfl rfl (by decide) (by kernel_rfl) (by kernel_rfl) (by kernel_rfl) (by kernel_rfl) (fun _ _ _ h => h) (by rfl) (fun wz hz => by rw [hz]; exact run_load_wsC _ rfl _ rfl _ _ x2) hHeld ?_
        simp only [Act.put, List.setIfInBounds_toArray, List.set_cons_zero, List.set_cons_succ]
        refine takeL 9 (some 43) (.int .i64 (NL : Nat)) rfl rfl (by decide) (by kernel_rfl) (by kernel_rfl) (by kernel_rfl) (by kernel_rfl) (fun _ _ _ h => h) (by rfl) (fun wz _ => run_len_C 30 78 Try.underlying30 _ rfl _ _ _ rfl wz) hHeld ?_
        simp only [Act.put, List.setIfInBounds_toArray, List.set_cons_zero, List.set_cons_succ]
        refine lastSkip 10 none W6 (by kernel_rfl) rfl rfl (by rfl) (run_upd_op (mv := .map (some mb)) (k := plv d s) (v := .int .i64 (NL : Nat)) (.tmp 37) (.tmp 38) (.tmp 43) rfl rfl rfl rfl HT6.out) (by kernel_rfl) ?_
        simp only [Act.put]
        clear hHeld
        go_wp2
        refine lastTo (S := fun wz => wz.cell? ⟨cb, 2, none⟩ = some (.slice aL NL cL) ∧ Has wz B5 78 #[.int .i64 (d : Nat), .int .i64 (s : Nat), v]) 10 (by kernel_rfl) (⟨T62.out, T6B.out⟩) (fun hHeld => ?_)
        refine takeL 0 (some 44) (.pointer (some ⟨cb, 1, none⟩)) rfl rfl (by decide) (by kernel_rfl) (by kernel_rfl) (by kernel_rfl) (by kernel_rfl) (fun _ _ _ h => h) (by rfl) (fun _ _ => rfl) hHeld ?_
        simp only [Act.put, List.setIfInBounds_toArray, List.set_cons_zero, List.set_cons_succ]
        refine takeL 1 (some 45) (.pointer (some ⟨cb, 1, none⟩)) rfl rfl (by decide) (by kernel_rfl) (by kernel_rfl) (by kernel_rfl) (by kernel_rfl) (fun _ _ _ h => h) (by rfl) (fun _ _ => rfl) hHeld ?_
        simp only [Act.put, List.setIfInBounds_toArray, List.set_cons_zero, List.set_cons_succ]
        refine takeL 2 (some 46) (.pointer (some ⟨cb, 1, none⟩)) rfl rfl (by decide) (by kernel_rfl) (by kernel_rfl) (by kernel_rfl) (by kernel_rfl) (fun _ _ _ h => h) (by rfl) (fun _ _ => rfl) hHeld ?_
        simp only [Act.put, List.setIfInBounds_toArray, List.set_cons_zero, List.set_cons_succ]
        refine takeL 3 (some 47) (.pointer (some ⟨cb, 2, none⟩)) rfl rfl (by decide) (by kernel_rfl) (by kernel_rfl) (by kernel_rfl) (by kernel_rfl) (fun _ _ _ h => h) (by rfl) (fun _ _ => rfl) hHeld ?_
        simp only [Act.put, List.setIfInBounds_toArray, List.set_cons_zero, List.set_cons_succ]
        refine takeL 4 (some 48) (.slice aL NL cL) rfl rfl (by decide) (by kernel_rfl) (by kernel_rfl) (by kernel_rfl) (by kernel_rfl) (fun _ _ _ h => h) (by rfl) (fun wz hz => run_load_wsC _ rfl _ rfl _ _ hz.1) hHeld ?_
        simp only [Act.put, List.setIfInBounds_toArray, List.set_cons_zero, List.set_cons_succ]
        refine takeL 5 (some 49) (.agg #[.int .i64 (d : Nat), .int .i64 (s : Nat), v]) rfl rfl (by decide) (by kernel_rfl) (by kernel_rfl) (by kernel_rfl) (by kernel_rfl) (fun _ _ _ h => h) (by rfl) (fun wz hz => run_load_wr _ rfl B5 0 rfl _ _ _ _ (hz.2.cell 0) (hz.2.cell 1) (hz.2.cell 2)) hHeld ?_
        simp only [Act.put, List.setIfInBounds_toArray, List.set_cons_zero, List.set_cons_succ]
        refine valL 6 (some 50) (.slice (some ⟨W6.heap.size, 0, none⟩) 1 1) (W6.drew.alloc (.cells #[.int .i64 (d : Nat), .int .i64 (s : Nat), v] 78)) (by kernel_rfl) rfl rfl (by rfl) (by kernel_rfl) ⟨T72.out, T7B.out⟩ ?_
        simp only [Act.put, List.setIfInBounds_toArray, List.set_cons_zero, List.set_cons_succ]
        refine valL 7 (some 51) (.slice aA (NL + 1) cA) w8 (by kernel_rfl) rfl rfl (by rfl) (run_app_isC _ _ rfl rfl rfl HA8.out) ⟨T82.out, T8B.out⟩ ?_
        simp only [Act.put, List.setIfInBounds_toArray, List.set_cons_zero, List.set_cons_succ]
        refine takeC 8 [9] (some 52) (.pointer (some ⟨cb, 1, none⟩)) rfl rfl (by decide) (by kernel_rfl) (by kernel_rfl) (by kernel_rfl) (by kernel_rfl) (by kernel_rfl) (fun _ _ _ h => h) (by rfl) (fun _ _ => rfl) ⟨T82.out, T8B.out⟩ ?_
        simp only [Act.put, List.setIfInBounds_toArray, List.set_cons_zero, List.set_cons_succ]
        refine takeL 9 (some 53) (.pointer (some ⟨cb, 2, none⟩)) rfl rfl (by decide) (by kernel_rfl) (by kernel_rfl) (by kernel_rfl) (by kernel_rfl) (fun _ _ _ h => h) (by rfl) (fun _ _ => rfl) ⟨T82.out, T8B.out⟩ ?_
        simp only [Act.put, List.setIfInBounds_toArray, List.set_cons_zero, List.set_cons_succ]
        refine lastSkip 10 none (w8.setCell ⟨cb, 2, none⟩ (.slice aA (NL + 1) cA)) (by kernel_rfl) rfl rfl (by rfl) (run_store_wsC _ _ rfl _ rfl _ _ _ rfl _ _ T82.out T8F.out) (by kernel_rfl) ?_
        simp only [Act.put]
        clear hHeld
        go_wp2
        refine bodyPost_end (results_none rfl _ _ _) rfl ?_
        exact ⟨rfl, HFIN.out⟩

    | _ =>
      exfalso
      rcases h.opn.mp with ⟨_, e⟩ | ⟨mb', e, _⟩ <;> (rw [hm] at e; cases e)
end Go.Proofs.Ytancebpjfbbcaaa
