/- cache: Back, Keep. -/
import Derived.Test.YtancebpjfbbcaaaCcWrite
namespace Go.Proofs.Ytancebpjfbbcaaa
open Go.ChangeShapes Go.WideShapes Go.ChangeAt Go.RowKit Go.MapKept
set_option linter.unusedVariables false

variable {D : DevRep} {B : Nat} {w0 w w' : World} {P : Nat → Nat} {S : Nat → DS} {C M : Nat → Nat} {F : Nat → Nat → Prop} {cb : Nat} {dv kv : Value} {o : GV} {ks : List GV} {GO GK : Nat → Prop}

/-- A group, where blocks that are none of its own may be turned. -/
theorem Grp.others {G : Nat → Prop} {mv lv : Value} {l : List Rw} (h : Grp w G mv lv l) {X : Nat → Prop} (hX : ∀ k, X k → ∃ t cs, Has w k t cs ∧ t ≠ 78 ∧ t ≠ 5) (hk : ∀ k, G k → ¬ X k → w'.heap[k]? = w.heap[k]?) : Grp w' G mv lv l := by
  refine ⟨?_, own_keptC h.row (fun g e => hk g (h.gr g e) (fun e2 => ?_)), h.gr, fun r hr => ?_, h.uni⟩
  · rcases h.mp with h0 | ⟨mb, e, g1, g2⟩
    · exact .inl h0
    · exact .inr ⟨mb, e, g1, (hk mb g1 (fun e2 => by obtain ⟨t, cs, hc, _⟩ := hX mb e2; exact map_has_neC g2 hc rfl)).trans g2⟩
  · obtain ⟨t, cs, hc, h1, _⟩ := hX g e2
    exact own_has_neC h.row hc (fun e3 => h1 e3.symm) e
  · have hd := h.dat r hr
    refine ⟨hd.byt, own_keptC hd.own (fun g e => hk g (hd.gr g e) (fun e2 => ?_)), hd.gr⟩
    obtain ⟨t, cs, hc, _, h2⟩ := hX g e2
    exact own_has_neC hd.own hc (fun e3 => h2 e3.symm) e

theorem only_set2 (w : World) (g o : Nat) (a b : Value) : Only (fun k => k = g) w (w.setCells g o [a, b]) :=
  (only_setCell w g o a).trans (only_setCell _ g _ b) (fun _ _ h => h)

theorem run_store_grC {o : Oper} {a : Act} (x y : Operand) (ho : o.op = .store 70 x y) (b off : Nat) (v0 v1 : Value) (hx : a.eval x = .pointer (some ⟨b, off, none⟩)) (hy : a.eval y = .agg #[v0, v1]) (w : World) (ht : w.there b off 2) (h0 : v0.oneCell' = true) (h1 : v1.oneCell' = true) : (execOp a.eval o).run Try.prog w = .ok .skip (w.setCells b off [v0, v1]) := by
  have hr := run_storeAt_mid (P := Try.prog) w b off 70 #[v0, v1] ht Try.size70 (by simp [h0, h1])
  unfold execOp
  simp only [ho, hx, hy, Sem.run_bind, hr]
  rfl

theorem run_store_gsC {o : Oper} {a : Act} (x y : Operand) (ho : o.op = .store 71 x y) (p : Addr) (hx : a.eval x = .pointer (some p)) (A : Option Addr) (n c : Nat) (hy : a.eval y = .slice A n c) (w : World) (u : Value) (h : w.cell? p = some u) (hf : w.frozen? p = false) : (execOp a.eval o).run Try.prog w = .ok .skip (w.setCell p (.slice A n c)) := by
  unfold execOp
  simp only [ho, hx, hy]
  go_simp

theorem there_str {g t : Nat} {a b c d : Value} (h : Has w g t #[a, b, c, d]) : w.there g 1 2 := fun j hj => ⟨by
  rw [h.cell (1 + j)]
  rcases (show j = 0 ∨ j = 1 by omega) with rfl | rfl <;> rfl, h.free _⟩

theorem zero_gr (w : World) : (zeroValue 70).run Try.prog w = .ok (.agg #[.map none, .slice none 0 0]) w := by kernel_rfl

theorem run_build_gr {o : Oper} {a : Act} (ho : o.op = .build 70 #[]) (w : World) : (execOp a.eval o).run Try.prog w = .ok (.value (.agg #[.map none, .slice none 0 0])) w := by
  unfold execOp
  simp only [ho]
  kernel_rfl

set_option maxRecDepth 100000 in
set_option maxHeartbeats 1000000 in
theorem ccback_raw {dv' x y kv' : Value} (h : Has w cb 73 #[dv', x, y, kv']) : Calls Try.prog 17 #[ptr cb] w fun e w' => e = .returned (.tuple #[]) ∧ w' = w.setCells cb 1 [.map none, .slice none 0 0] := by
  have hn := pcn_some cb
  have c1 : w.cell? ⟨cb, 1, none⟩ = some x := h.cell 1
  have f1 : w.frozen? ⟨cb, 1, none⟩ = false := h.free 1
  have c2 : (w.setCell ⟨cb, 1, none⟩ (.map none)).cell? ⟨cb, 2, none⟩ = some y := (h.setV 1 _).cell 2
  have f2 : (w.setCell ⟨cb, 1, none⟩ (.map none)).frozen? ⟨cb, 2, none⟩ = false := (h.setV 1 _).free 2
  have c2' : w.cell? ⟨cb, 2, none⟩ = some y := h.cell 2
  have f2' : w.frozen? ⟨cb, 2, none⟩ = false := h.free 2
  clear h
  go_enter Try.func17, Try.ntmps17
  go_wp2
  trace_state
  refine bodyPost_end (results_none rfl _ _ _) rfl ?_
  exact ⟨rfl, rfl⟩

set_option maxRecDepth 100000 in
set_option maxHeartbeats 1000000 in
theorem ccback_nil (w : World) : Calls Try.prog 17 #[.pointer none] w fun e w' => e = .returned (.tuple #[]) ∧ w' = w := by
  have hn := pcn_none
  go_enter Try.func17, Try.ntmps17
  go_wp2
  refine bodyPost_end (results_none rfl _ _ _) rfl ?_
  exact ⟨rfl, rfl⟩

/-- The open group is dropped. -/
theorem ccback_c (hD : DevOk D) (h : CI D B w0 w cb P S C M F dv o kv ks GO GK) : Calls Try.prog 17 #[ptr cb] w fun e w' => e = .returned (.tuple #[]) ∧ OpenR D B w0 w cb P S C M F dv kv ks GO GK (fun r => r = []) w' := by
  refine (ccback_raw h.c.str).mono ?_
  rintro e w' ⟨rfl, rfl⟩
  have ho := only_set2 w cb 1 (.map none) (.slice none 0 0)
  refine ⟨rfl, CI.put hD h (w3 := w) (GN := fun _ => False) (Below.refl _ _) (fun k hk => hk.elim) ⟨gnil, fun _ => False, ?_, rfl, ho.mono (fun k e => .inr e), fun k hk => hk.elim⟩⟩
  refine h.c.turn (ho.mono (fun k e => .inr e)) ?_ (Grp.nil _ _) (fun k hk => hk.elim) (fun k hk => hk.elim) (fun r hr => by cases hr)
  exact (h.c.str.setV 1 (.map none)).setV 2 (.slice none 0 0)

/-- The open group is kept. -/
theorem keep_fin (h : CAt w cb P dv o kv ks GO GK) {W7 w8 : World} {A' : Option Addr} {C' : Nat} (h7 : Below w.heap.size w W7) (hg : W7.grownBy w8 kv.ownBlock) (hr : w8.ownsRow 0 70 2 (.slice A' (ks.length + 1) C') (ks.length + 1) (ks.flatMap gcl ++ [o.mv, o.lv])) (hw : (Value.slice A' (ks.length + 1) C').ownBlock = kv.ownBlock ∨ (Value.slice A' (ks.length + 1) C').ownBlock = some W7.heap.size) :
    CAt ((w8.setCell ⟨cb, 3, none⟩ (.slice A' (ks.length + 1) C')).setCells cb 1 [.map none, .slice none 0 0]) cb P dv gnil (.slice A' (ks.length + 1) C') (ks ++ [o]) (fun _ => False) (fun k => (GK k ∨ GO k) ∨ (w.heap.size ≤ k ∧ k < w8.heap.size)) ∧ Only (fun k => GO k ∨ GK k) w ((w8.setCell ⟨cb, 3, none⟩ (.slice A' (ks.length + 1) C')).setCells cb 1 [.map none, .slice none 0 0]) := by
  have hcb := h.lt cb (.inr h.gcb)
  obtain ⟨V, hV⟩ : ∃ V, V = Value.slice A' (ks.length + 1) C' := ⟨_, rfl⟩
  rw [← hV] at hr hw ⊢
  have ho8 : Only (fun k => kv.ownBlock = some k) w w8 := (Only.of_below h7 (Nat.le_refl _)).trans (G := fun k => kv.ownBlock = some k) ⟨hg.os, hg.tape, hg.output, hg.size, fun k hk hn => hg.block k hk (fun e => hn e.symm)⟩ (fun _ _ e => e)
  have ho9 : Only (fun k => k = cb) w8 ((w8.setCell ⟨cb, 3, none⟩ V).setCells cb 1 [.map none, .slice none 0 0]) := (only_setCell w8 cb 3 V).trans (only_set2 _ cb 1 _ _) (fun _ _ e => e)
  have hkvcb : kv.ownBlock ≠ some cb := own_has_neC h.krow h.str (by decide)
  have hs8 : Has w8 cb 73 #[dv, o.mv, o.lv, kv] := (ho8.block cb hcb hkvcb).trans h.str
  obtain ⟨w9, hw9⟩ : ∃ w9, w9 = (w8.setCell ⟨cb, 3, none⟩ V).setCells cb 1 [.map none, .slice none 0 0] := ⟨_, rfl⟩
  have hs9 : Has w9 cb 73 #[dv, .map none, .slice none 0 0, V] := by
    rw [hw9]
    exact ((hs8.setV 3 V).setV 1 (.map none)).setV 2 (.slice none 0 0)
  rw [← hw9] at ho9 ⊢
  have ho : Only (fun k => k = cb ∨ kv.ownBlock = some k) w w9 := (ho8.mono (fun k e => .inr e)).trans ho9 (fun _ _ e => .inl e)
  have hX : ∀ k, (k = cb ∨ kv.ownBlock = some k) → ∃ t cs, Has w k t cs ∧ t ≠ 78 ∧ t ≠ 5 := by
    rintro k (rfl | e)
    · exact ⟨_, _, h.str, by decide, by decide⟩
    · obtain ⟨cur, hcur⟩ := own_block h.krow e
      exact ⟨_, cur, hcur, by decide, by decide⟩
  have hVok : ∀ g, V.ownBlock = some g → (GK g ∨ GO g) ∨ (w.heap.size ≤ g ∧ g < w8.heap.size) := fun g e => by
    have hl := (hr.lt g e).2
    rcases hw with h1 | h1
    · exact .inl (.inl (h.gkv g (h1 ▸ e)))
    · rw [h1] at e
      cases e
      exact .inr ⟨h7.size, hl⟩
  refine ⟨⟨hs9, own_keptC h.dev (fun g e => ho.block g (h.dev.lt g e).2 (fun e2 => ?_)), Grp.nil _ _, ?_, fun g hg' => ?_, .inl (.inl h.gcb), fun g e => .inl (.inl (h.gdv g e)), hVok, fun k hk => hk.elim, ?_, fun g hg' => ?_⟩, ho.mono (fun k e => e.elim (fun e => .inr (e ▸ h.gcb)) (fun e => .inr (h.gkv k e)))⟩
  · rcases e2 with rfl | e2
    · exact own_has_neC h.dev h.str (by decide) e
    · obtain ⟨cur, hcur⟩ := own_block h.krow e2
      exact own_has_neC h.dev (show Has w g 70 cur from hcur) (by decide) e
  · rw [List.length_append, List.length_singleton, List.flatMap_append]
    have e1 : [o].flatMap gcl = [o.mv, o.lv] := by simp [gcl]
    rw [e1]
    exact own_keptC hr (fun g e => ho9.block g (hr.lt g e).2 (fun e2 => own_has_neC hr hs8 (by decide) (by rw [e, e2])))
  · rcases List.mem_append.1 hg' with h1 | h1
    · exact ((h.kgs g h1).others hX (fun k hk hn => ho.block k (h.lt k (.inr hk)) hn)).mono (fun k hk => .inl (.inl hk))
    · rw [List.mem_singleton] at h1
      subst h1
      exact (h.opn.others hX (fun k hk hn => ho.block k (h.lt k (.inl hk)) hn)).mono (fun k hk => .inl (.inr hk))
  · rintro k (hk | (hk | hk) | hk)
    · exact hk.elim
    · exact Nat.lt_of_lt_of_le (h.lt k (.inr hk)) ho.size
    · exact Nat.lt_of_lt_of_le (h.lt k (.inl hk)) ho.size
    · exact Nat.lt_of_lt_of_le hk.2 ho9.size
  · intro r hr'
    rcases List.mem_cons.1 hg' with rfl | h1
    · cases hr'
    · rcases List.mem_append.1 h1 with h2 | h2
      · exact h.ok g (List.mem_cons_of_mem _ h2) r hr'
      · rw [List.mem_singleton] at h2
        exact h.ok g (h2 ▸ List.mem_cons_self ..) r hr'

/-- What Keep leaves. -/
def KeepR (D : DevRep) (B : Nat) (w0 w : World) (cb : Nat) (P : Nat → Nat) (S : Nat → DS) (C M : Nat → Nat) (F : Nat → Nat → Prop) (dv : Value) (Q : List Rw → List GV → Prop) (GO GK : Nat → Prop) (w' : World) : Prop := ∃ o' kv' ks' GO' GK', CI D B w0 w' cb P S C M F dv o' kv' ks' GO' GK' ∧ Q o'.rows ks' ∧ Only (fun k => GO k ∨ GK k) w w' ∧ ∀ k, (GO' k ∨ GK' k) → (GO k ∨ GK k) ∨ w.heap.size ≤ k

theorem MapR.one {G : Nat → Prop} {mv : Value} {l : List Rw} (h : MapR w G mv l) : mv.oneCell' = true := by
  rcases h with ⟨_, rfl⟩ | ⟨mb, rfl, _⟩ <;> rfl

set_option maxRecDepth 100000 in
set_option maxHeartbeats 2000000 in
theorem cckeep_c (hD : DevOk D) (h : CI D B w0 w cb P S C M F dv o kv ks GO GK) (hlen : ks.length ≤ 1000) : Calls Try.prog 15 #[ptr cb] w fun e w' => e = .returned (.tuple #[]) ∧ KeepR D B w0 w cb P S C M F dv (fun r k => r = [] ∧ k = if o.rows = [] then ks else ks ++ [o]) GO GK w' := by
  have hn := pc_some cb
  obtain ⟨KS, hKS⟩ : ∃ KS, KS = if o.rows = [] then ks else ks ++ [o] := ⟨_, rfl⟩
  rw [← hKS]
  have HKS := hidC hKS
  clear hKS
  obtain ⟨aL, cL, hlv, _, _⟩ := h.c.opn.sl
  have c2 := h.c.str.cell 2
  simp only [List.getElem?_toArray, List.getElem?_cons_zero, List.getElem?_cons_succ] at c2
  rw [hlv] at c2
  by_cases hr : o.rows = []
  · rw [hr] at c2
    have HF := hidC (show KeepR D B w0 w cb P S C M F dv (fun r k => r = [] ∧ k = KS) GO GK w from ⟨o, kv, ks, GO, GK, h, ⟨hr, by rw [HKS.out, if_pos hr]⟩, Only.refl _ _, fun k hk => .inl hk⟩)
    clear h hlv
    go_enter Try.func15, Try.ntmps15
    go_wp2
    refine bodyPost_ret (results_none rfl _ _ _) rfl ?_
    exact ⟨rfl, HF.out⟩
  · have hL : ¬ ((o.rows.length : Nat) : Int) = 0 := fun e => hr (List.length_eq_zero_iff.1 (by omega))
    obtain ⟨aK, cK, hkv, _, _, _, _⟩ := own_slice h.c.krow
    have hbd : Below w.heap.size w w.drew := ⟨rfl, rfl, rfl, Nat.le_refl _, fun _ _ => rfl⟩
    have hb7 : Below w.heap.size w (w.drew.alloc (.cells #[o.mv, o.lv] 70)) := hbd.trans ((Below.refl w.heap.size w.drew).alloc (show w.heap.size ≤ w.drew.heap.size from Nat.le_refl _) _)
    have h7 := h.c.next hb7
    have hG : Has (w.drew.alloc (.cells #[o.mv, o.lv] 70)) w.heap.size 70 [o.mv, o.lv].toArray := Has.new w.drew _ _
    obtain ⟨aA, cA, w8, hr8, hrow8, hg8, hw8⟩ := append_oneC kGrC (ty := 71) (w.drew.alloc (.cells #[o.mv, o.lv] 70)) 0 ks.length kv _ h7.krow (Nat.zero_le _) (by omega) [o.mv, o.lv] rfl (fun u hu => by
      simp only [List.mem_cons, List.not_mem_nil, or_false] at hu
      rcases hu with rfl | rfl
      · exact h.c.opn.mp.one
      · rw [hlv]; rfl) _ hG
    have hs8 : Has w8 cb 73 #[dv, o.mv, o.lv, kv] := (hg8.block cb h7.str.lt (fun e => own_has_neC h.c.krow h.c.str (by decide) e.symm)).trans h7.str
    obtain ⟨k1, k2⟩ := keep_fin h.c hb7 hg8 hrow8 hw8
    have HF := hidC (show KeepR D B w0 w cb P S C M F dv (fun r k => r = [] ∧ k = KS) GO GK ((w8.setCell ⟨cb, 3, none⟩ (.slice aA (ks.length + 1) cA)).setCells cb 1 [.map none, .slice none 0 0]) from by
      refine ⟨gnil, _, ks ++ [o], _, _, ⟨h.fam.only hD k2 (fun k hk => h.sep k hk) (fun k hk => h.base k hk), k1, ?_, ?_⟩, ⟨rfl, by rw [HKS.out, if_neg hr]⟩, k2, ?_⟩
      · rintro k (hk | (hk | hk) | hk) hf
        · exact hk.elim
        · exact h.sep k (.inr hk) hf
        · exact h.sep k (.inl hk) hf
        · exact absurd (h.lt hD k (.inr hf)) (Nat.not_lt.2 hk.1)
      · rintro k (hk | (hk | hk) | hk)
        · exact hk.elim
        · exact h.base k (.inr hk)
        · exact h.base k (.inl hk)
        · exact Nat.le_trans (h.fam.dev 0 (by decide)).sz hk.1
      · rintro k (hk | (hk | hk) | hk)
        · exact hk.elim
        · exact .inl (.inr hk)
        · exact .inl (.inl hk)
        · exact .inr hk.1)
    have hsS : Has (w8.setCell ⟨cb, 3, none⟩ (.slice aA (ks.length + 1) cA)) cb 73 _ := hs8.setV 3 _
    have HBK := hidC (ccback_raw hsS)
    have hs0 := h.c.str
    have hs7 := h7.str
    rw [hkv] at hs0 hs7 hs8 hr8
    have HS0 := hidC (show Has w.drew cb 73 _ from hs0)
    have HS7 := hidC hs7
    have HS8 := hidC hs8
    have HA8 := hidC hr8
    rw [hlv] at HS0 HS7 HS8 HA8
    clear h hlv hkv hs0 hs7 hs8 hr8 hsS k1 k2 hg8 hrow8 hw8 h7 hb7 hbd hG hr hlen
    generalize hNL : o.rows.length = NL at *
    clear hNL
    generalize ks.length = NK at *
    generalize hmv : o.mv = mv at *
    clear hmv
    obtain ⟨lv, hlv⟩ : ∃ lv, lv = Value.slice aL NL cL := ⟨_, rfl⟩
    have HLV := hidC hlv
    rw [← hlv] at HS0 HS7 HS8 HA8
    clear hlv
    go_enter Try.func15, Try.ntmps15
    go_wp2
    refine lastTo (S := fun wz => Has wz cb 73 #[dv, mv, lv, .slice aK NK cK]) 13 (by kernel_rfl) (HS0.out) (fun hHeld => ?_)
    refine takeL 0 (some 13) (.pointer (some ⟨cb, 0, none⟩)) rfl rfl (by decide) (by kernel_rfl) (by kernel_rfl) (by kernel_rfl) (by kernel_rfl) (fun _ _ _ h => h) (by rfl) (fun _ _ => rfl) hHeld ?_
    simp only [Act.put, List.setIfInBounds_toArray, List.set_cons_zero, List.set_cons_succ]
    refine takeL 1 (some 14) (.pointer (some ⟨cb, 0, none⟩)) rfl rfl (by decide) (by kernel_rfl) (by kernel_rfl) (by kernel_rfl) (by kernel_rfl) (fun _ _ _ h => h) (by rfl) (fun _ _ => rfl) hHeld ?_
    simp only [Act.put, List.setIfInBounds_toArray, List.set_cons_zero, List.set_cons_succ]
    refine takeL 2 (some 15) (.pointer (some ⟨cb, 0, none⟩)) rfl rfl (by decide) (by kernel_rfl) (by kernel_rfl) (by kernel_rfl) (by kernel_rfl) (fun _ _ _ h => h) (by rfl) (fun _ _ => rfl) hHeld ?_
    simp only [Act.put, List.setIfInBounds_toArray, List.set_cons_zero, List.set_cons_succ]
    refine takeL 3 (some 16) (.pointer (some ⟨cb, 3, none⟩)) rfl rfl (by decide) (by kernel_rfl) (by kernel_rfl) (by kernel_rfl) (by kernel_rfl) (fun _ _ _ h => h) (by rfl) (fun _ _ => rfl) hHeld ?_
    simp only [Act.put, List.setIfInBounds_toArray, List.set_cons_zero, List.set_cons_succ]
    refine takeL 4 (some 17) (.slice aK NK cK) rfl rfl (by decide) (by kernel_rfl) (by kernel_rfl) (by kernel_rfl) (by kernel_rfl) (fun _ _ _ h => h) (by rfl) (fun wz hz => run_load_gsC _ rfl _ rfl _ _ (hz.cell 3)) hHeld ?_
    simp only [Act.put, List.setIfInBounds_toArray, List.set_cons_zero, List.set_cons_succ]
    refine takeL 5 (some 18) (.pointer (some ⟨cb, 0, none⟩)) rfl rfl (by decide) (by kernel_rfl) (by kernel_rfl) (by kernel_rfl) (by kernel_rfl) (fun _ _ _ h => h) (by rfl) (fun _ _ => rfl) hHeld ?_
    simp only [Act.put, List.setIfInBounds_toArray, List.set_cons_zero, List.set_cons_succ]
    refine takeL 6 (some 19) (.pointer (some ⟨cb, 0, none⟩)) rfl rfl (by decide) (by kernel_rfl) (by kernel_rfl) (by kernel_rfl) (by kernel_rfl) (fun _ _ _ h => h) (by rfl) (fun _ _ => rfl) hHeld ?_
    simp only [Act.put, List.setIfInBounds_toArray, List.set_cons_zero, List.set_cons_succ]
    refine takeL 7 (some 20) (.pointer (some ⟨cb, 1, none⟩)) rfl rfl (by decide) (by kernel_rfl) (by kernel_rfl) (by kernel_rfl) (by kernel_rfl) (fun _ _ _ h => h) (by rfl) (fun _ _ => rfl) hHeld ?_
    simp only [Act.put, List.setIfInBounds_toArray, List.set_cons_zero, List.set_cons_succ]
    refine takeL 8 (some 21) (.agg #[mv, lv]) rfl rfl (by decide) (by kernel_rfl) (by kernel_rfl) (by kernel_rfl) (by kernel_rfl) (fun _ _ _ h => h) (by rfl) (fun wz hz => run_load_gr _ rfl cb 1 rfl _ _ _ (hz.cell 1) (hz.cell 2)) hHeld ?_
    simp only [Act.put, List.setIfInBounds_toArray, List.set_cons_zero, List.set_cons_succ]
    refine valL 9 (some 22) (.slice (some ⟨w.heap.size, 0, none⟩) 1 1) (w.drew.alloc (.cells #[mv, lv] 70)) (by kernel_rfl) rfl rfl (by rfl) (by kernel_rfl) HS7.out ?_
    simp only [Act.put, List.setIfInBounds_toArray, List.set_cons_zero, List.set_cons_succ]
    refine valL 10 (some 23) (.slice aA (NK + 1) cA) w8 (by kernel_rfl) rfl rfl (by rfl) (run_app_isC _ _ rfl rfl rfl HA8.out) HS8.out ?_
    simp only [Act.put, List.setIfInBounds_toArray, List.set_cons_zero, List.set_cons_succ]
    refine takeC 11 [12] (some 24) (.pointer (some ⟨cb, 0, none⟩)) rfl rfl (by decide) (by kernel_rfl) (by kernel_rfl) (by kernel_rfl) (by kernel_rfl) (by kernel_rfl) (fun _ _ _ h => h) (by rfl) (fun _ _ => rfl) HS8.out ?_
    simp only [Act.put, List.setIfInBounds_toArray, List.set_cons_zero, List.set_cons_succ]
    refine takeL 12 (some 25) (.pointer (some ⟨cb, 3, none⟩)) rfl rfl (by decide) (by kernel_rfl) (by kernel_rfl) (by kernel_rfl) (by kernel_rfl) (fun _ _ _ h => h) (by rfl) (fun _ _ => rfl) HS8.out ?_
    simp only [Act.put, List.setIfInBounds_toArray, List.set_cons_zero, List.set_cons_succ]
    refine lastSkip 13 none (w8.setCell ⟨cb, 3, none⟩ (.slice aA (NK + 1) cA)) (by kernel_rfl) rfl rfl (by rfl) (run_store_gsC _ _ rfl _ rfl _ _ _ rfl _ _ (HS8.out.cell 3) (HS8.out.free 3)) (by kernel_rfl) ?_
    simp only [Act.put]
    clear hHeld
    go_wp2_with (first
      | ((go_at_call 17)
         (refine HBK.out.mono ?_)
         (rintro e w9 ⟨rfl, hw9⟩)))
    refine bodyPost_end (results_none rfl _ _ _) rfl ?_
    exact ⟨rfl, HF.out⟩

set_option maxRecDepth 100000 in
set_option maxHeartbeats 1000000 in
theorem cckeep_nil (w : World) : Calls Try.prog 15 #[.pointer none] w fun e w' => e = .returned (.tuple #[]) ∧ w' = w := by
  have hn := pc_none
  go_enter Try.func15, Try.ntmps15
  go_wp2
  refine bodyPost_ret (results_none rfl _ _ _) rfl ?_
  exact ⟨rfl, rfl⟩
end Go.Proofs.Ytancebpjfbbcaaa
