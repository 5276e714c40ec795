/- cache: a group's get. -/
import Derived.Test.YtancebpjfbbcaaaCcState
namespace Go.Proofs.Ytancebpjfbbcaaa
open Go.ChangeShapes Go.WideShapes Go.ChangeAt Go.RowKit Go.MapKept
set_option linter.unusedVariables false

variable {w w' : World} {G : Nat → Prop} {mv lv : Value} {l : List Rw}

theorem results_cell_tmp {fn : Func} {p q : Tmp} {ty : TypeId} (h : fn.results = #[.cell p ty, .tmp q]) (tmps : Array Value) (w : World) (g : Nat) (t : TypeId) (cs : Array Value) (fr : Nat × Nat) (fs : Array Field)
    (hp : tmps.getD p undef = .pointer (some ⟨g, 0, none⟩)) (hg : w.heap[g]? = some (.cells cs t fr))
    (hu : Try.prog.underlying ty = some (.struct fs)) (hi : (Try.prog.info? ty).map (·.size) = some cs.size) :
    (results fn tmps).run Try.prog w = .ok (.tuple #[.agg cs, tmps.getD q undef]) w := by
  have hp' : tmps[p]?.getD undef = .pointer (some ⟨g, 0, none⟩) := by simpa using hp
  simp [results, h, hp', asAddr, run_loadVar_row w g t ty cs fr _ hg hu rfl hi]

/-- What get tells. -/
def gv (q : Option Rw) : Value := match q with
  | some r => .agg #[.int .i64 (r.1.d : Nat), .int .i64 (r.1.s : Nat), r.2]
  | none => .agg #[.int .i64 0, .int .i64 0, .slice none 0 0]

set_option maxRecDepth 100000 in
set_option maxHeartbeats 4000000 in
theorem get_c (h : Grp w G mv lv l) (hG : ∀ k, G k → k < w.heap.size) {b off d s : Nat} (hb : b < w.heap.size) (hc1 : w.cell? ⟨b, off, none⟩ = some mv) (hc2 : w.cell? ⟨b, off + 1, none⟩ = some lv) :
    Calls Try.prog 68 #[.pointer (some ⟨b, off, none⟩), .agg #[.int .i64 (d : Nat), .int .i64 (s : Nat)]] w fun e w' => e = .returned (.tuple #[gv (look l d s), .bool (look l d s).isSome]) ∧ Below w.heap.size w w' := by
  obtain ⟨B3, hB3⟩ : ∃ B3, B3 = w.heap.size := ⟨_, rfl⟩
  obtain ⟨W2, hW2⟩ : ∃ W2, W2 = (w.alloc (.cells #[.int .i64 (d : Nat), .int .i64 (s : Nat)] 76)).alloc (.cells #[.int .i64 0, .int .i64 0, .slice none 0 0] 78) := ⟨_, rfl⟩
  have hb1 : Below w.heap.size w (w.alloc (.cells #[.int .i64 (d : Nat), .int .i64 (s : Nat)] 76)) := (Below.refl _ _).alloc (Nat.le_refl _) _
  have hb12 : Below (w.heap.size + 1) (w.alloc (.cells #[.int .i64 (d : Nat), .int .i64 (s : Nat)] 76)) W2 := by rw [hW2]; exact (Below.refl _ _).alloc (by simp) _
  have hb2 : Below w.heap.size w W2 := hb1.trans (hb12.mono (by omega))
  have H3 : Has W2 w.heap.size 76 #[.int .i64 (d : Nat), .int .i64 (s : Nat)] := (Has.new w _ _).below hb12 (by omega)
  have H4 : Has W2 (w.heap.size + 1) 78 #[.int .i64 0, .int .i64 0, .slice none 0 0] := by rw [hW2]; have := Has.new (w.alloc (.cells #[.int .i64 (d : Nat), .int .i64 (s : Nat)] 76)) 78 #[.int .i64 0, .int .i64 0, .slice none 0 0]; simpa using this
  have hbd : Below w.heap.size w W2.drew := hb2.trans ⟨rfl, rfl, rfl, Nat.le_refl _, fun _ _ => rfl⟩
  have h2 : Grp W2.drew G mv lv l := h.kept (fun k hk => hbd.block k (hG k hk))
  have c1 : W2.drew.cell? ⟨b, off, none⟩ = some mv := (hbd.cell (p := ⟨b, off, none⟩) hb).trans hc1
  have c2 : W2.drew.cell? ⟨b, off + 1, none⟩ = some lv := (hbd.cell (p := ⟨b, off + 1, none⟩) hb).trans hc2
  have b30 : W2.drew.cell? ⟨B3, 0, none⟩ = some (.int .i64 (d : Nat)) := by rw [hB3]; exact H3.cell 0
  have b31 : W2.drew.cell? ⟨B3, 0 + 1, none⟩ = some (.int .i64 (s : Nat)) := by rw [hB3]; exact H3.cell 1
  have HLK := hidC (h2.mp.look d s)
  have HW2 := hidC hW2
  obtain ⟨B4, hB4⟩ : ∃ B4, B4 = w.heap.size + 1 := ⟨_, rfl⟩
  have HB := hidC (And.intro hB3 hB4)
  have HH4 := hidC (show Has W2.drew B4 78 #[.int .i64 0, .int .i64 0, .slice none 0 0] by rw [hB4]; exact H4)
  have HBD := hidC hbd
  cases hf : fnd l d s with
  | some i =>
    obtain ⟨r, hr1, hr2, hr3⟩ := fnd_at hf
    have HLK := hidC (show (Instr.lookup 68 mv (plv d s) true).run Try.prog W2.drew = .ok (.tuple #[.int .i64 (i : Nat), .bool true]) W2.drew by have h0 := HLK.out; rw [hf, show idx l d s = i by unfold idx; rw [hf]; rfl] at h0; exact h0)
    obtain ⟨g, c, hlv, _, hGg, hgl, d0, d1, d2⟩ := h2.at_ hr1
    have hil := fnd_lt hf
    rw [hr3]
    rw [hlv] at c2
    obtain ⟨NL, hNL⟩ : ∃ NL, NL = l.length := ⟨_, rfl⟩
    rw [← hNL] at c2 hil
    have HIL := hidC hil
    obtain ⟨gb, gc, hrv, _⟩ := (h2.dat r (List.mem_of_getElem? hr1)).sl
    unfold gv
    rw [hrv] at d2
    show Calls Try.prog _ _ _ fun e w' => e = .returned (.tuple #[.agg #[.int .i64 (r.1.d : Nat), .int .i64 (r.1.s : Nat), r.2], .bool true]) ∧ Below w.heap.size w w'
    rw [hrv]
    clear h h2 hf hr1 hr2 hr3 hlv hc1 hc2 hb1 hb12 hb2 H3 H4 hbd hW2 hB3 hB4 hNL hGg hG
    generalize hrd : r.1.d = rd at *
    generalize hrs : r.1.s = rs at *
    clear hrd hrs hrv
    generalize hIX : i = IX at *
    clear hIX
    go_enter Try.func68, Try.ntmps68
    go_wp2
    rw [← HW2.out, ← HB.out.2, ← HB.out.1]
    refine wp_region_held_drew (S := fun wz => wz = W2.drew) (by kernel_rfl) (rfl) (fun hHeld => ?_)
    refine takeTo 0 (some 10) (.pointer (some ⟨b, off, none⟩)) rfl rfl (by kernel_rfl) (by kernel_rfl) (by kernel_rfl) (fun _ _ _ h => h) (by rfl) (fun _ _ => rfl) hHeld ?_
    simp only [Act.put, List.setIfInBounds_toArray, List.set_cons_zero, List.set_cons_succ]
    refine takeTo 1 (some 11) (.pointer (some ⟨b, off, none⟩)) rfl rfl (by kernel_rfl) (by kernel_rfl) (by kernel_rfl) (fun _ _ _ h => h) (by rfl) (fun _ _ => rfl) hHeld ?_
    simp only [Act.put, List.setIfInBounds_toArray, List.set_cons_zero, List.set_cons_succ]
    refine takeTo 2 (some 12) (.pointer (some ⟨b, off, none⟩)) rfl rfl (by kernel_rfl) (by kernel_rfl) (by kernel_rfl) (fun _ _ _ h => h) (by rfl) (fun _ _ => rfl) hHeld ?_
    simp only [Act.put, List.setIfInBounds_toArray, List.set_cons_zero, List.set_cons_succ]
    refine takeTo 3 (some 13) (mv) rfl rfl (by kernel_rfl) (by kernel_rfl) (by kernel_rfl) (fun _ _ _ h => h) (by rfl) (fun wz hz => by rw [hz]; exact run_load_cmC _ rfl _ rfl _ _ c1) hHeld ?_
    simp only [Act.put, List.setIfInBounds_toArray, List.set_cons_zero, List.set_cons_succ]
    refine takeTo 4 (some 14) (.agg #[.int .i64 (d : Nat), .int .i64 (s : Nat)]) rfl rfl (by kernel_rfl) (by kernel_rfl) (by kernel_rfl) (fun _ _ _ h => h) (by rfl) (fun wz hz => by rw [hz]; exact run_load_pl _ rfl B3 0 rfl d s _ b30 b31) hHeld ?_
    simp only [Act.put, List.setIfInBounds_toArray, List.set_cons_zero, List.set_cons_succ]
    refine takeTo 5 (some 15) (.tuple #[.int .i64 (IX : Nat), .bool true]) rfl rfl (by kernel_rfl) (by kernel_rfl) (by kernel_rfl) (fun _ _ _ h => h) (by rfl) (fun wz hz => by rw [hz]; exact run_look_op (mv := mv) (d := d) (s := s) _ _ rfl rfl rfl HLK.out) hHeld ?_
    simp only [Act.put, List.setIfInBounds_toArray, List.set_cons_zero, List.set_cons_succ]
    refine takeTo 6 (some 9) (.tuple #[.int .i64 (IX : Nat), .bool true]) rfl rfl (by kernel_rfl) (by kernel_rfl) (by kernel_rfl) (fun _ _ _ h => h) (by rfl) (fun _ _ => rfl) hHeld ?_
    simp only [Act.put, List.setIfInBounds_toArray, List.set_cons_zero, List.set_cons_succ]
    refine takeTo 7 (some 16) (.int .i64 (IX : Nat)) rfl rfl (by kernel_rfl) (by kernel_rfl) (by kernel_rfl) (fun _ _ _ h => h) (by rfl) (fun _ _ => rfl) hHeld ?_
    simp only [Act.put, List.setIfInBounds_toArray, List.set_cons_zero, List.set_cons_succ]
    refine takeTo 8 (some 17) (.bool true) rfl rfl (by kernel_rfl) (by kernel_rfl) (by kernel_rfl) (fun _ _ _ h => h) (by rfl) (fun _ _ => rfl) hHeld ?_
    simp only [Act.put, List.setIfInBounds_toArray, List.set_cons_zero, List.set_cons_succ]
    refine takeTo 9 (some 6) (.int .i64 (IX : Nat)) rfl rfl (by kernel_rfl) (by kernel_rfl) (by kernel_rfl) (fun _ _ _ h => h) (by rfl) (fun _ _ => rfl) hHeld ?_
    simp only [Act.put, List.setIfInBounds_toArray, List.set_cons_zero, List.set_cons_succ]
    refine takeTo 10 (some 7) (.bool true) rfl rfl (by kernel_rfl) (by kernel_rfl) (by kernel_rfl) (fun _ _ _ h => h) (by rfl) (fun _ _ => rfl) hHeld ?_
    simp only [Act.put, List.setIfInBounds_toArray, List.set_cons_zero, List.set_cons_succ]
    refine wpAnyH_done (by kernel_rfl) ?_ _
    go_wp2_with (first
      | ((with_reducible refine at_dstC 26 rfl ?_)
         (refine wpList_is (some 26) (.pointer (some ⟨g, IX * 3, none⟩)) rfl (by rfl) (run_at_wr _ _ rfl g IX NL c rfl rfl HIL.out _) ?_))
      | ((with_reducible refine at_dstC 27 rfl ?_)
         (refine wpList_is (some 27) (.agg #[.int .i64 (rd : Nat), .int .i64 (rs : Nat), .slice (some ⟨gb, 0, none⟩) 64 gc]) rfl (by rfl) (run_load_wr _ rfl g (IX * 3) rfl _ _ _ _ d0 d1 d2) ?_))
      | ((refine wpList_store_rowG rfl 78 _ _ rfl B4 #[.int .i64 (rd : Nat), .int .i64 (rs : Nat), .slice (some ⟨gb, 0, none⟩) 64 gc] rfl rfl 78 _ HH4.out Try.size78 rfl (by simp [Value.oneCell']) ?_)
         (intro W6 hW6)
         (have HW6 := hidC hW6)
         (clear hW6)))
    have hR6 : Has W6 B4 78 #[.int .i64 (rd : Nat), .int .i64 (rs : Nat), .slice (some ⟨gb, 0, none⟩) 64 gc] := by rw [HW6.out]; exact HH4.out.setRow _
    have hb6 : Below w.heap.size w W6 := by rw [HW6.out]; exact below_setRow HBD.out (by rw [HB.out.2]; omega) _
    refine bodyPost_ret (results_cell_tmp rfl _ _ B4 78 _ (0, 0) _ rfl hR6 Try.underlying78 Try.size78) rfl ?_
    exact ⟨rfl, hb6⟩
  | none =>
    have hl := (fnd_none hf).2
    have HLK := hidC (show (Instr.lookup 68 mv (plv d s) true).run Try.prog W2.drew = .ok (.tuple #[.int .i64 (0 : Nat), .bool false]) W2.drew by have h0 := HLK.out; rw [hf, show idx l d s = 0 by unfold idx; rw [hf]; rfl] at h0; exact h0)
    rw [hl]
    unfold gv
    clear h h2 hf hl hc1 hc2 hb1 hb12 hb2 H3 H4 hbd hW2 hB3 hB4 hG
    generalize hIX : (0 : Nat) = IX at HLK
    have HIX := hidC hIX
    clear hIX
    go_enter Try.func68, Try.ntmps68
    go_wp2
    rw [← HW2.out, ← HB.out.2, ← HB.out.1]
    refine wp_region_held_drew (S := fun wz => wz = W2.drew) (by kernel_rfl) (rfl) (fun hHeld => ?_)
    refine takeTo 0 (some 10) (.pointer (some ⟨b, off, none⟩)) rfl rfl (by kernel_rfl) (by kernel_rfl) (by kernel_rfl) (fun _ _ _ h => h) (by rfl) (fun _ _ => rfl) hHeld ?_
    simp only [Act.put, List.setIfInBounds_toArray, List.set_cons_zero, List.set_cons_succ]
    refine takeTo 1 (some 11) (.pointer (some ⟨b, off, none⟩)) rfl rfl (by kernel_rfl) (by kernel_rfl) (by kernel_rfl) (fun _ _ _ h => h) (by rfl) (fun _ _ => rfl) hHeld ?_
    simp only [Act.put, List.setIfInBounds_toArray, List.set_cons_zero, List.set_cons_succ]
    refine takeTo 2 (some 12) (.pointer (some ⟨b, off, none⟩)) rfl rfl (by kernel_rfl) (by kernel_rfl) (by kernel_rfl) (fun _ _ _ h => h) (by rfl) (fun _ _ => rfl) hHeld ?_
    simp only [Act.put, List.setIfInBounds_toArray, List.set_cons_zero, List.set_cons_succ]
    refine takeTo 3 (some 13) (mv) rfl rfl (by kernel_rfl) (by kernel_rfl) (by kernel_rfl) (fun _ _ _ h => h) (by rfl) (fun wz hz => by rw [hz]; exact run_load_cmC _ rfl _ rfl _ _ c1) hHeld ?_
    simp only [Act.put, List.setIfInBounds_toArray, List.set_cons_zero, List.set_cons_succ]
    refine takeTo 4 (some 14) (.agg #[.int .i64 (d : Nat), .int .i64 (s : Nat)]) rfl rfl (by kernel_rfl) (by kernel_rfl) (by kernel_rfl) (fun _ _ _ h => h) (by rfl) (fun wz hz => by rw [hz]; exact run_load_pl _ rfl B3 0 rfl d s _ b30 b31) hHeld ?_
    simp only [Act.put, List.setIfInBounds_toArray, List.set_cons_zero, List.set_cons_succ]
    refine takeTo 5 (some 15) (.tuple #[.int .i64 (IX : Nat), .bool false]) rfl rfl (by kernel_rfl) (by kernel_rfl) (by kernel_rfl) (fun _ _ _ h => h) (by rfl) (fun wz hz => by rw [hz]; exact run_look_op (mv := mv) (d := d) (s := s) _ _ rfl rfl rfl HLK.out) hHeld ?_
    simp only [Act.put, List.setIfInBounds_toArray, List.set_cons_zero, List.set_cons_succ]
    refine takeTo 6 (some 9) (.tuple #[.int .i64 (IX : Nat), .bool false]) rfl rfl (by kernel_rfl) (by kernel_rfl) (by kernel_rfl) (fun _ _ _ h => h) (by rfl) (fun _ _ => rfl) hHeld ?_
    simp only [Act.put, List.setIfInBounds_toArray, List.set_cons_zero, List.set_cons_succ]
    refine takeTo 7 (some 16) (.int .i64 (IX : Nat)) rfl rfl (by kernel_rfl) (by kernel_rfl) (by kernel_rfl) (fun _ _ _ h => h) (by rfl) (fun _ _ => rfl) hHeld ?_
    simp only [Act.put, List.setIfInBounds_toArray, List.set_cons_zero, List.set_cons_succ]
    refine takeTo 8 (some 17) (.bool false) rfl rfl (by kernel_rfl) (by kernel_rfl) (by kernel_rfl) (fun _ _ _ h => h) (by rfl) (fun _ _ => rfl) hHeld ?_
    simp only [Act.put, List.setIfInBounds_toArray, List.set_cons_zero, List.set_cons_succ]
    refine takeTo 9 (some 6) (.int .i64 (IX : Nat)) rfl rfl (by kernel_rfl) (by kernel_rfl) (by kernel_rfl) (fun _ _ _ h => h) (by rfl) (fun _ _ => rfl) hHeld ?_
    simp only [Act.put, List.setIfInBounds_toArray, List.set_cons_zero, List.set_cons_succ]
    refine takeTo 10 (some 7) (.bool false) rfl rfl (by kernel_rfl) (by kernel_rfl) (by kernel_rfl) (fun _ _ _ h => h) (by rfl) (fun _ _ => rfl) hHeld ?_
    simp only [Act.put, List.setIfInBounds_toArray, List.set_cons_zero, List.set_cons_succ]
    refine wpAnyH_done (by kernel_rfl) ?_ _
    obtain ⟨B8, hB8⟩ : ∃ B8, B8 = W2.drew.heap.size := ⟨_, rfl⟩
    have hb8 : Below W2.drew.heap.size W2.drew (W2.drew.alloc (.cells #[.int .i64 0, .int .i64 0, .slice none 0 0] 78)) := (Below.refl _ _).alloc (Nat.le_refl _) _
    have hh8 : Has (W2.drew.alloc (.cells #[.int .i64 0, .int .i64 0, .slice none 0 0] 78)) W2.drew.heap.size 78 #[.int .i64 0, .int .i64 0, .slice none 0 0] := Has.new _ _ _
    have HH8 := hidC (HH4.out.below hb8 HH4.out.lt)
    have e0 := hh8.cell 0
    have e1 := hh8.cell 1
    have e2 := hh8.cell 2
    have HB8 := hidC (HBD.out.trans (hb8.mono HBD.out.size))
    clear hb8 hh8
    go_wp2_with (first
      | ((with_reducible refine at_dstC 20 rfl ?_)
         (refine wpList_is (some 20) (.agg #[.int .i64 0, .int .i64 0, .slice none 0 0]) rfl (by rfl) (run_load_wr _ rfl _ 0 rfl _ _ _ _ e0 e1 e2) ?_))
      | ((refine wpList_store_rowG rfl 78 _ _ rfl B4 #[.int .i64 0, .int .i64 0, .slice none 0 0] rfl rfl 78 _ HH8.out Try.size78 rfl (by simp [Value.oneCell']) ?_)
         (intro W6 hW6)
         (have HW6 := hidC hW6)
         (clear hW6)))
    have hR6 : Has W6 B4 78 #[.int .i64 0, .int .i64 0, .slice none 0 0] := by rw [HW6.out]; exact HH8.out.setRow _
    have hb6 : Below w.heap.size w W6 := by rw [HW6.out]; exact below_setRow HB8.out (by rw [HB.out.2]; omega) _
    refine bodyPost_ret (results_cell_tmp rfl _ _ B4 78 _ (0, 0) _ rfl hR6 Try.underlying78 Try.size78) rfl ?_
    exact ⟨by have e := HIX.out; subst e; rfl, hb6⟩
end Go.Proofs.Ytancebpjfbbcaaa
