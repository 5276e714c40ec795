/- Texts that the statements of this stage share, joined. -/
import Derived.Test.YthndifegfmjpbaaGreatDoorJoint18
namespace Go.Proofs.YthndifegfmjpbaaGreatDoor
set_option linter.unusedVariables false
set_option maxRecDepth 100000
set_option maxHeartbeats 40000000
section
open Go.ChangeShapes Go.WideShapes Go.ChangeAt Go.RowKit Go.MapKept
variable {E : Nat → Prop}
def KRes (w : World) (V : CV) (cb : Nat) (R : Except Er Mn) (e : Ending) (w' : World) : Prop := Below w.heap.size w w' ∧ match R with
 | .error (c, k) => e = .panicked (cflt c k)
 | .ok m => ∃ A C, e = .returned (mnv m (.slice A m.bytes.length C)) ∧ m.bytes.length ≤ C ∧ C ≤ maxLen ∧ BytsP w' (fun g => ¬ V.own cb g) A m.bytes
theorem ret_mn {fn : Func} {R : Ending → World → Prop} {a : Act} {W : World} {s g : Nat} {x0 x1 x2 : Value} (hr : fn.results = #[.cell s 136]) (hs : a.tmps[s]?.getD undef = .pointer (some ⟨g, 0, none⟩)) (hH : Has W g 136 #[x0, x1, x2]) (hd : a.defers = []) (h : R (.returned (.agg #[x0, x1, x2])) W) : bodyPost Tryz.prog fn R .ret a W := by
 have q0 := hH.cell 0
 have q1 := hH.cell 1
 have q2 := hH.cell 2
 exact bodyPost_ret (by simp only [results, hr]; simp [hs, go_sem, q0, q1, q2]) hd h
theorem Has.set3 {w : World} {g t : Nat} {a b c : Value} (h : Has w g t #[a, b, c]) (x0 x1 x2 : Value) : Has (((w.setCell ⟨g, 0, none⟩ x0).setCell ⟨g, 1, none⟩ x1).setCell ⟨g, 2, none⟩ x2) g t #[x0, x1, x2] := ((h.putP 0 x0).putP 1 x1).putP 2 x2
theorem bel3 {w W : World} {B g : Nat} (h : Below B w W) (hg : B ≤ g) (x0 x1 x2 : Value) : Below B w (((W.setCell ⟨g, 0, none⟩ x0).setCell ⟨g, 1, none⟩ x1).setCell ⟨g, 2, none⟩ x2) := ((h.setCell (p := ⟨g, 0, none⟩) hg x0).setCell (p := ⟨g, 1, none⟩) hg x1).setCell (p := ⟨g, 2, none⟩) hg x2
theorem known_c {w : World} {cb : Nat} {V : CV} {c : Ck} (h : CkAt E w cb V c) (n : Nd) (A : Option Addr) (L C : Nat) (ws : List (List UInt8)) (v : Value) (hs : Strs w v ws) (hl : ws.length ≤ 100) : Calls Tryz.prog 117 #[.pointer (some ⟨cb, 0, none⟩), .agg (ndc n (.slice A L C)), v] w (KRes w V cb (known c.names n ws)) := by
 obtain ⟨W1, hW1⟩ : ∃ W1, W1 = (w.alloc (.cells #[.string (bs n.op), .string (bs n.s), .int .i64 n.n, .int .i64 n.a, .slice A L C] 24)).alloc (.cells #[.string ⟨#[]⟩, .int .i64 0, .slice none 0 0] 136) := ⟨_, rfl⟩
 have h1 : CkAt E W1 cb V c := by rw [hW1]; exact (h.alloc _).alloc _
 have hn1 : Has W1 w.heap.size 24 #[.string (bs n.op), .string (bs n.s), .int .i64 n.n, .int .i64 n.a, .slice A L C] := by rw [hW1]; exact (Has.new w _ _).alloc _
 have hm1 : Has W1 (w.heap.size + 1) 136 #[.string ⟨#[]⟩, .int .i64 0, .slice none 0 0] := by rw [hW1]; exact Has.new_at (by simp)
 have hb1 : Below w.heap.size w W1 := by rw [hW1]; exact b_two w _ _
 obtain ⟨us, e1, hmb0, hin⟩ := h.nms
 have hmb := (hb1.block V.mb (Array.getElem?_eq_some_iff.1 hmb0).1).trans hmb0
 have hun := h1.uniq
 have c5 := h1.has.cell 5
 have lc := h1.has.lt
 have nc1 := hn1.cell 1
 have nc3 := hn1.cell 3
 simp only [ga1, gz1, gs1] at c5 nc1 nc3
 have HW : Hid (W1 = (w.alloc (.cells #[.string (bs n.op), .string (bs n.s), .int .i64 n.n, .int .i64 n.a, .slice A L C] 24)).alloc (.cells #[.string ⟨#[]⟩, .int .i64 0, .slice none 0 0] 136)) := hW1
 clear hW1
 unfold known
 cases hk : lk c.names n.s with
 | none =>
   have HU : Hid (lkV c.names us n.s = .agg #[.string ⟨#[]⟩, .int .i64 0, .slice none 0 0]) := lkV_none hk
   have HB : Hid ((lk c.names n.s).isSome = false) := by rw [hk]; rfl
   clear hk
   unfold ndc
   go_enter Tryz.func117, Tryz.ntmps117
   go_wp2
   rw [← HW.out]
   refine wp_region_held_drew (S := fun wz => wz.cell? ⟨cb, 5, none⟩ = some (.map (some V.mb)) ∧ wz.cell? ⟨w.heap.size, 1, none⟩ = some (.string (bs n.s)) ∧ wz.heap[V.mb]? = some (.map (ents c.names us).toArray c.names.length) ∧ Below W1.heap.size W1 wz) (by kernel_rfl) (⟨c5, nc1, hmb, (Below.refl _ W1).drew⟩) (fun hHeld => ?_)
   refine tkT 0 (some 10) (.pointer (some ⟨cb, 0, none⟩)) rfl rfl (fun _ _ => rfl) hHeld ?_
   simp only [Act.put, sb1, sz1, ss1]
   refine tkT 1 (some 11) (.pointer (some ⟨cb, 0, none⟩)) rfl rfl (fun _ _ => rfl) hHeld ?_
   simp only [Act.put, sb1, sz1, ss1]
   refine tkT 2 (some 12) (.pointer (some ⟨cb, 5, none⟩)) rfl rfl (fun _ _ => rfl) hHeld ?_
   simp only [Act.put, sb1, sz1, ss1]
   refine tkT 3 (some 13) (.map (some V.mb)) rfl rfl (fun wz hz => by obtain ⟨z0, z1, z2, z3⟩ := hz; unfold execOp; go_simp) hHeld ?_
   simp only [Act.put, sb1, sz1, ss1]
   refine tkT 4 (some 14) (.pointer (some ⟨w.heap.size, 1, none⟩)) rfl rfl (fun _ _ => rfl) hHeld ?_
   simp only [Act.put, sb1, sz1, ss1]
   refine tkT 5 (some 15) (.string (bs n.s)) rfl rfl (fun wz hz => by obtain ⟨z0, z1, z2, z3⟩ := hz; unfold execOp; go_simp) hHeld ?_
   simp only [Act.put, sb1, sz1, ss1]
   refine tkT 6 (some 16) (.tuple #[.agg #[.string ⟨#[]⟩, .int .i64 0, .slice none 0 0], .bool false]) rfl rfl (fun wz hz => (run_look _ _ rfl hz.2.2.1 e1 hun n.s rfl rfl).trans (by rw [HU.out, HB.out])) hHeld ?_
   simp only [Act.put, sb1, sz1, ss1]
   refine tkT 7 (some 9) (.tuple #[.agg #[.string ⟨#[]⟩, .int .i64 0, .slice none 0 0], .bool false]) rfl rfl (fun _ _ => rfl) hHeld ?_
   simp only [Act.put, sb1, sz1, ss1]
   refine tkT 8 (some 17) (.agg #[.string ⟨#[]⟩, .int .i64 0, .slice none 0 0]) rfl rfl (fun _ _ => rfl) hHeld ?_
   simp only [Act.put, sb1, sz1, ss1]
   refine tkT 9 (some 18) (.bool false) rfl rfl (fun _ _ => rfl) hHeld ?_
   simp only [Act.put, sb1, sz1, ss1]
   have hH2 : (W1.drew.alloc (.cells #[.string ⟨#[]⟩, .int .i64 0, .slice none 0 0] 136)).cell? ⟨cb, 5, none⟩ = some (.map (some V.mb)) ∧ (W1.drew.alloc (.cells #[.string ⟨#[]⟩, .int .i64 0, .slice none 0 0] 136)).cell? ⟨w.heap.size, 1, none⟩ = some (.string (bs n.s)) ∧ (W1.drew.alloc (.cells #[.string ⟨#[]⟩, .int .i64 0, .slice none 0 0] 136)).heap[V.mb]? = some (.map (ents c.names us).toArray c.names.length) ∧ Below W1.heap.size W1 (W1.drew.alloc (.cells #[.string ⟨#[]⟩, .int .i64 0, .slice none 0 0] 136)) := ⟨below_some (b_one W1.drew _) hHeld.1, below_some (b_one W1.drew _) hHeld.2.1, (Below.heap_alloc W1.drew _ V.mb (Array.getElem?_eq_some_iff.1 hmb).1).trans hHeld.2.2.1, hHeld.2.2.2.trans ((b_one W1.drew _))⟩
   refine ready1 10 (by kernel_rfl) (stepVal (some 7) (.pointer (some ⟨W1.heap.size, 0, none⟩)) (W1.drew.alloc (.cells #[.string ⟨#[]⟩, .int .i64 0, .slice none 0 0] 136)) rfl rfl (by rfl) (by kernel_rfl) ⟨hH2, ?_⟩)
   simp only [Act.put, sb1, sz1, ss1]
   have hM2 : Has (W1.drew.alloc (.cells #[.string ⟨#[]⟩, .int .i64 0, .slice none 0 0] 136)) W1.heap.size 136 #[.string ⟨#[]⟩, .int .i64 0, .slice none 0 0] := Has.new_at rfl
   have hBel : Below W1.heap.size W1 ((W1.drew.alloc (.cells #[.string ⟨#[]⟩, .int .i64 0, .slice none 0 0] 136)).setRow W1.heap.size #[.string ⟨#[]⟩, .int .i64 0, .slice none 0 0]) := below_setRow hH2.2.2.2 (Nat.le_refl _) _
   have hH3 : ((W1.drew.alloc (.cells #[.string ⟨#[]⟩, .int .i64 0, .slice none 0 0] 136)).setRow W1.heap.size #[.string ⟨#[]⟩, .int .i64 0, .slice none 0 0]).cell? ⟨cb, 5, none⟩ = some (.map (some V.mb)) ∧ ((W1.drew.alloc (.cells #[.string ⟨#[]⟩, .int .i64 0, .slice none 0 0] 136)).setRow W1.heap.size #[.string ⟨#[]⟩, .int .i64 0, .slice none 0 0]).cell? ⟨w.heap.size, 1, none⟩ = some (.string (bs n.s)) ∧ ((W1.drew.alloc (.cells #[.string ⟨#[]⟩, .int .i64 0, .slice none 0 0] 136)).setRow W1.heap.size #[.string ⟨#[]⟩, .int .i64 0, .slice none 0 0]).heap[V.mb]? = some (.map (ents c.names us).toArray c.names.length) ∧ Below W1.heap.size W1 ((W1.drew.alloc (.cells #[.string ⟨#[]⟩, .int .i64 0, .slice none 0 0] 136)).setRow W1.heap.size #[.string ⟨#[]⟩, .int .i64 0, .slice none 0 0]) := ⟨below_some hBel c5, below_some hBel nc1, (hBel.block V.mb (Array.getElem?_eq_some_iff.1 hmb).1).trans hmb, hBel⟩
   refine ready1 11 (by kernel_rfl) (stepSkip none ((W1.drew.alloc (.cells #[.string ⟨#[]⟩, .int .i64 0, .slice none 0 0] 136)).setRow W1.heap.size #[.string ⟨#[]⟩, .int .i64 0, .slice none 0 0]) rfl rfl (by rfl) (run_store_row 136 _ _ rfl W1.heap.size rfl #[.string ⟨#[]⟩, .int .i64 0, .slice none 0 0] rfl 136 (by kernel_rfl) _ hM2 rfl (by kernel_rfl)) ⟨hH3, ?_⟩)
   simp only [Act.put]
   refine tkT 12 (some 8) (.bool false) rfl rfl (fun _ _ => rfl) hH3 ?_
   simp only [Act.put, sb1, sz1, ss1]
   have hM3 : Has ((W1.drew.alloc (.cells #[.string ⟨#[]⟩, .int .i64 0, .slice none 0 0] 136)).setRow W1.heap.size #[.string ⟨#[]⟩, .int .i64 0, .slice none 0 0]) W1.heap.size 136 #[.string ⟨#[]⟩, .int .i64 0, .slice none 0 0] := hM2.setRow _
   refine wpAnyH_done (by kernel_rfl) ?_ _
   generalize (W1.drew.alloc (.cells #[.string ⟨#[]⟩, .int .i64 0, .slice none 0 0] 136)).setRow W1.heap.size #[.string ⟨#[]⟩, .int .i64 0, .slice none 0 0] = W2 at hBel hM3 ⊢
   have nc3b := below_some hBel nc3
   go_wp2_with (first
    | ((go_at_call 86)
       (refine (need_no 131 n.a W2).mono ?_)
       (rintro e w3 ⟨rfl, rfl⟩)))
   exact ⟨rfl, hb1.trans (hBel.mono hb1.size), rfl⟩
 | some m =>
   obtain ⟨i, hi, e2, e3⟩ : ∃ i, ∃ hi : i < c.names.length, c.names[i].1 = n.s ∧ c.names[i].2 = m := by
    rcases lk_at (ns := c.names) (s := n.s) with ⟨q, _⟩ | ⟨i, hi, q1, q2, _⟩
    · rw [hk] at q; cases q
    · exact ⟨i, hi, q1, by rw [hk] at q2; cases q2; rfl⟩
   obtain ⟨Am, Cm, em, am, bm, hby⟩ := (hin i hi (by omega)).bytes
   have HU : Hid (lkV c.names us n.s = .agg #[.string (bs m.word), .int .i64 (m.node : Nat), .slice Am m.bytes.length Cm]) := by
    have := lkV_at e1 hun hi
    rw [e2, em, e3] at this
    exact this
   have HB : Hid ((lk c.names n.s).isSome = true) := by rw [hk]; rfl
   rw [e3] at am hby
   clear hk em hin
   unfold ndc
   go_enter Tryz.func117, Tryz.ntmps117
   go_wp2
   rw [← HW.out]
   refine wp_region_held_drew (S := fun wz => wz.cell? ⟨cb, 5, none⟩ = some (.map (some V.mb)) ∧ wz.cell? ⟨w.heap.size, 1, none⟩ = some (.string (bs n.s)) ∧ wz.heap[V.mb]? = some (.map (ents c.names us).toArray c.names.length) ∧ Below W1.heap.size W1 wz) (by kernel_rfl) (⟨c5, nc1, hmb, (Below.refl _ W1).drew⟩) (fun hHeld => ?_)
   refine tkT 0 (some 10) (.pointer (some ⟨cb, 0, none⟩)) rfl rfl (fun _ _ => rfl) hHeld ?_
   simp only [Act.put, sb1, sz1, ss1]
   refine tkT 1 (some 11) (.pointer (some ⟨cb, 0, none⟩)) rfl rfl (fun _ _ => rfl) hHeld ?_
   simp only [Act.put, sb1, sz1, ss1]
   refine tkT 2 (some 12) (.pointer (some ⟨cb, 5, none⟩)) rfl rfl (fun _ _ => rfl) hHeld ?_
   simp only [Act.put, sb1, sz1, ss1]
   refine tkT 3 (some 13) (.map (some V.mb)) rfl rfl (fun wz hz => by obtain ⟨z0, z1, z2, z3⟩ := hz; unfold execOp; go_simp) hHeld ?_
   simp only [Act.put, sb1, sz1, ss1]
   refine tkT 4 (some 14) (.pointer (some ⟨w.heap.size, 1, none⟩)) rfl rfl (fun _ _ => rfl) hHeld ?_
   simp only [Act.put, sb1, sz1, ss1]
   refine tkT 5 (some 15) (.string (bs n.s)) rfl rfl (fun wz hz => by obtain ⟨z0, z1, z2, z3⟩ := hz; unfold execOp; go_simp) hHeld ?_
   simp only [Act.put, sb1, sz1, ss1]
   refine tkT 6 (some 16) (.tuple #[.agg #[.string (bs m.word), .int .i64 (m.node : Nat), .slice Am m.bytes.length Cm], .bool true]) rfl rfl (fun wz hz => (run_look _ _ rfl hz.2.2.1 e1 hun n.s rfl rfl).trans (by rw [HU.out, HB.out])) hHeld ?_
   simp only [Act.put, sb1, sz1, ss1]
   refine tkT 7 (some 9) (.tuple #[.agg #[.string (bs m.word), .int .i64 (m.node : Nat), .slice Am m.bytes.length Cm], .bool true]) rfl rfl (fun _ _ => rfl) hHeld ?_
   simp only [Act.put, sb1, sz1, ss1]
   refine tkT 8 (some 17) (.agg #[.string (bs m.word), .int .i64 (m.node : Nat), .slice Am m.bytes.length Cm]) rfl rfl (fun _ _ => rfl) hHeld ?_
   simp only [Act.put, sb1, sz1, ss1]
   refine tkT 9 (some 18) (.bool true) rfl rfl (fun _ _ => rfl) hHeld ?_
   simp only [Act.put, sb1, sz1, ss1]
   have hH2 : (W1.drew.alloc (.cells #[.string ⟨#[]⟩, .int .i64 0, .slice none 0 0] 136)).cell? ⟨cb, 5, none⟩ = some (.map (some V.mb)) ∧ (W1.drew.alloc (.cells #[.string ⟨#[]⟩, .int .i64 0, .slice none 0 0] 136)).cell? ⟨w.heap.size, 1, none⟩ = some (.string (bs n.s)) ∧ (W1.drew.alloc (.cells #[.string ⟨#[]⟩, .int .i64 0, .slice none 0 0] 136)).heap[V.mb]? = some (.map (ents c.names us).toArray c.names.length) ∧ Below W1.heap.size W1 (W1.drew.alloc (.cells #[.string ⟨#[]⟩, .int .i64 0, .slice none 0 0] 136)) := ⟨below_some (b_one W1.drew _) hHeld.1, below_some (b_one W1.drew _) hHeld.2.1, (Below.heap_alloc W1.drew _ V.mb (Array.getElem?_eq_some_iff.1 hmb).1).trans hHeld.2.2.1, hHeld.2.2.2.trans ((b_one W1.drew _))⟩
   refine ready1 10 (by kernel_rfl) (stepVal (some 7) (.pointer (some ⟨W1.heap.size, 0, none⟩)) (W1.drew.alloc (.cells #[.string ⟨#[]⟩, .int .i64 0, .slice none 0 0] 136)) rfl rfl (by rfl) (by kernel_rfl) ⟨hH2, ?_⟩)
   simp only [Act.put, sb1, sz1, ss1]
   have hM2 : Has (W1.drew.alloc (.cells #[.string ⟨#[]⟩, .int .i64 0, .slice none 0 0] 136)) W1.heap.size 136 #[.string ⟨#[]⟩, .int .i64 0, .slice none 0 0] := Has.new_at rfl
   have hBel : Below W1.heap.size W1 ((W1.drew.alloc (.cells #[.string ⟨#[]⟩, .int .i64 0, .slice none 0 0] 136)).setRow W1.heap.size #[.string (bs m.word), .int .i64 (m.node : Nat), .slice Am m.bytes.length Cm]) := below_setRow hH2.2.2.2 (Nat.le_refl _) _
   have hH3 : ((W1.drew.alloc (.cells #[.string ⟨#[]⟩, .int .i64 0, .slice none 0 0] 136)).setRow W1.heap.size #[.string (bs m.word), .int .i64 (m.node : Nat), .slice Am m.bytes.length Cm]).cell? ⟨cb, 5, none⟩ = some (.map (some V.mb)) ∧ ((W1.drew.alloc (.cells #[.string ⟨#[]⟩, .int .i64 0, .slice none 0 0] 136)).setRow W1.heap.size #[.string (bs m.word), .int .i64 (m.node : Nat), .slice Am m.bytes.length Cm]).cell? ⟨w.heap.size, 1, none⟩ = some (.string (bs n.s)) ∧ ((W1.drew.alloc (.cells #[.string ⟨#[]⟩, .int .i64 0, .slice none 0 0] 136)).setRow W1.heap.size #[.string (bs m.word), .int .i64 (m.node : Nat), .slice Am m.bytes.length Cm]).heap[V.mb]? = some (.map (ents c.names us).toArray c.names.length) ∧ Below W1.heap.size W1 ((W1.drew.alloc (.cells #[.string ⟨#[]⟩, .int .i64 0, .slice none 0 0] 136)).setRow W1.heap.size #[.string (bs m.word), .int .i64 (m.node : Nat), .slice Am m.bytes.length Cm]) := ⟨below_some hBel c5, below_some hBel nc1, (hBel.block V.mb (Array.getElem?_eq_some_iff.1 hmb).1).trans hmb, hBel⟩
   refine ready1 11 (by kernel_rfl) (stepSkip none ((W1.drew.alloc (.cells #[.string ⟨#[]⟩, .int .i64 0, .slice none 0 0] 136)).setRow W1.heap.size #[.string (bs m.word), .int .i64 (m.node : Nat), .slice Am m.bytes.length Cm]) rfl rfl (by rfl) (run_store_row 136 _ _ rfl W1.heap.size rfl #[.string (bs m.word), .int .i64 (m.node : Nat), .slice Am m.bytes.length Cm] rfl 136 (by kernel_rfl) _ hM2 rfl (by kernel_rfl)) ⟨hH3, ?_⟩)
   simp only [Act.put]
   refine tkT 12 (some 8) (.bool true) rfl rfl (fun _ _ => rfl) hH3 ?_
   simp only [Act.put, sb1, sz1, ss1]
   have hM3 : Has ((W1.drew.alloc (.cells #[.string ⟨#[]⟩, .int .i64 0, .slice none 0 0] 136)).setRow W1.heap.size #[.string (bs m.word), .int .i64 (m.node : Nat), .slice Am m.bytes.length Cm]) W1.heap.size 136 #[.string (bs m.word), .int .i64 (m.node : Nat), .slice Am m.bytes.length Cm] := hM2.setRow _
   refine wpAnyH_done (by kernel_rfl) ?_ _
   generalize (W1.drew.alloc (.cells #[.string ⟨#[]⟩, .int .i64 0, .slice none 0 0] 136)).setRow W1.heap.size #[.string (bs m.word), .int .i64 (m.node : Nat), .slice Am m.bytes.length Cm] = W2 at hBel hM3 ⊢
   have nc3b := below_some hBel nc3
   go_wp2_with (first
    | ((go_at_call 86)
       (refine (need_yes 131 n.a W2).mono ?_)
       (rintro e w3 ⟨rfl, hw3⟩)
       (obtain rfl : W2 = w3 := hw3.symm)))
   have mc0 := hM3.cell 0
   have hs2 : Strs W2 v ws := hs.below (hb1.trans (hBel.mono hb1.size))
   refine wp_region_held_drew (S := fun wz => wz.cell? ⟨W1.heap.size, 0, none⟩ = some (.string (bs m.word)) ∧ wz.cell? ⟨w.heap.size, 3, none⟩ = some (.int .i64 n.a) ∧ Strs wz v ws ∧ wz.heap = W2.heap ∧ Below W2.heap.size W2 wz) (by kernel_rfl) (⟨mc0, nc3b, hs2, rfl, (Below.refl _ W2).drew⟩) (fun hHeld => ?_)
   refine tkT 0 (some 23) (v) rfl rfl (fun _ _ => rfl) hHeld ?_
   simp only [Act.put, sb1, sz1, ss1]
   refine tkT 1 (some 24) (.pointer (some ⟨W1.heap.size, 0, none⟩)) rfl rfl (fun _ _ => rfl) hHeld ?_
   simp only [Act.put, sb1, sz1, ss1]
   refine tkT 2 (some 25) (.string (bs m.word)) rfl rfl (fun wz hz => by obtain ⟨z0, z1, z2, z3⟩ := hz; unfold execOp; go_simp) hHeld ?_
   simp only [Act.put, sb1, sz1, ss1]
   refine tkT 4 (some 27) (.pointer (some ⟨w.heap.size, 3, none⟩)) rfl rfl (fun _ _ => rfl) hHeld ?_
   simp only [Act.put, sb1, sz1, ss1]
   refine tkT 5 (some 28) (.int .i64 n.a) rfl rfl (fun wz hz => by obtain ⟨z0, z1, z2, z3⟩ := hz; unfold execOp; go_simp) hHeld ?_
   simp only [Act.put, sb1, sz1, ss1]
   refine callToP 3 (some 26) 142 #[v, .string (bs m.word)] (by kernel_rfl) rfl rfl (by rfl) (by kernel_rfl) (contains_c ws m.word W2.drew v (hs2.below (below_drew (Below.refl _ W2))) hl) ?_
   rintro e w4 ⟨rfl, rfl⟩
   refine .inl ⟨_, rfl, hHeld, ?_⟩
   simp only [Act.put, sb1, sz1, ss1]
   cases hc : ws.any (fun y => m.word == y)
   · refine callToP 6 (some 29) 86 #[.bool false, .int .i64 133, .int .i64 n.a] (by kernel_rfl) rfl rfl (by rfl) (by kernel_rfl) (need_no 133 n.a W2.drew) ?_
     rintro e w5 ⟨rfl, rfl⟩
     refine .inr ⟨_, rfl, ?_⟩
     exact ⟨rfl, below_drew (hb1.trans (hBel.mono hb1.size)), by rw [if_neg (by rw [hc]; decide)]; rfl⟩
   · refine callToP 6 (some 29) 86 #[.bool true, .int .i64 133, .int .i64 n.a] (by kernel_rfl) rfl rfl (by rfl) (by kernel_rfl) (need_yes 133 n.a W2.drew) ?_
     rintro e w5 ⟨rfl, rfl⟩
     refine .inl ⟨_, rfl, hHeld, ?_⟩
     simp only [Act.put, sb1, sz1, ss1]
     refine wpAnyH_done (by kernel_rfl) ?_ _
     have pm := (hm1.below hBel hm1.lt)
     have p0 := pm.cell 0
     have p1 := pm.cell 1
     have p2 := pm.cell 2
     have g0 := pm.free 0
     have g1 := pm.free 1
     have g2 := pm.free 2
     have m0 := hM3.cell 0
     have m1 := hM3.cell 1
     have m2 := hM3.cell 2
     have lpm := pm.lt
     have lm3 := hM3.lt
     go_wp2
     refine ret_mn rfl rfl (pm.set3 _ _ _) rfl ?_
     have hb3 : Below w.heap.size w W2 := hb1.trans (hBel.mono hb1.size)
     have hb4 := bel3 (g := w.heap.size + 1) (below_drew hb3) (Nat.le_succ _) (.string (bs m.word)) (.int .i64 (m.node : Nat)) (.slice Am m.bytes.length Cm)
     refine ⟨hb4, ?_⟩
     exact ⟨Am, Cm, rfl, am, bm, hby.keep hb4.size (fun k hk hn => ⟨hb4.block k hk, hn.1⟩)⟩
end
section
open Go.ChangeShapes Go.WideShapes Go.ChangeAt Go.RowKit Go.MapKept
def putObj (w : World) (r : Nat) (o : Obj) : World := { w with heap := w.heap.setIfInBounds r o }
theorem run_setObj_at {P : Program} {w : World} {r : Nat} {x : Option Nat} {y z : Nat} {u : Array Nat} (o' : Obj) (h : w.heap[r]? = some (.mapIter x y u z)) : (setObj r o').run P w = .ok () (putObj w r o') := by
 simp only [setObj, Sem.run, h]
 rfl
theorem drewN_zero (w : World) : w.drewN 0 = w := rfl
theorem next_at {P : Program} {w : World} (ty : TypeId) {r bm since c0 clock : Nat} {seen : Array Nat} {es : Array MapEntry} (hr : w.heap[r]? = some (.mapIter (some bm) since seen c0)) (hb : w.heap[bm]? = some (.map es clock)) (hold : ∀ x ∈ es.toList, x.born < since) (hsc : since ≤ c0) :
  ((leftOf es seen).size = 0 ∧ (Instr.next (.pointer (some ⟨r, 0, none⟩)) false ty).run P w = .ok (.tuple #[.bool false]) w) ∨
  ∃ e ∈ (leftOf es seen).toList, ∃ q, (Instr.next (.pointer (some ⟨r, 0, none⟩)) false ty).run P w = .ok (.tuple #[.bool true, e.key, e.val]) (putObj (w.drewN q) r (.mapIter (some bm) since (seen.push e.born) clock)) := by
 have hl : ∀ x ∈ (leftOf es seen).toList, x.born < since := by
  intro x hx
  unfold leftOf at hx
  simp only [Array.mem_toList_iff, Array.mem_filter] at hx
  exact hold x (by simpa using hx.1)
 simp only [Instr.next, getObj, Sem.run_bind, Sem.run, hr, hb, Result.andThen, next_test_false seen es since c0 hold hsc, Bool.false_eq_true, if_false]
 rw [show Array.filter (fun e => !seen.contains e.born) es = leftOf es seen from rfl]
 generalize leftOf es seen = M at hl ⊢
 have f1 : Array.filter (fun x => decide (x.born < since)) M = M := Array.filter_eq_self.2 fun x hx => by simpa using hl x (by simpa using hx)
 have f2 : Array.filter (fun x => decide (x.born ≥ since)) M = #[] := by
  rw [Array.filter_eq_empty_iff]
  intro x hx
  have := hl x (by simpa using hx)
  simp only [ge_iff_le, decide_eq_true_eq]
  omega
 simp only [f1, f2, Array.append_empty]
 rcases Nat.eq_zero_or_pos M.size with h0 | h0
 · refine .inl ⟨h0, ?_⟩
   obtain rfl : M = #[] := Array.eq_empty_of_size_eq_zero h0
   simp [choose, Sem.run, Question.forced]
 · refine .inr ?_
   have hne : M.isEmpty = false := by
    cases h : M.isEmpty with
    | false => rfl
    | true =>
      obtain rfl : M = #[] := Array.isEmpty_iff.1 h
      simp at h0
   have hch : ∃ (j q : Nat), j < M.size ∧ (choose (Question.mapNext M.size)).run P w = .ok j (w.drewN q) := by
    by_cases hf : M.size ≤ 1
    · exact ⟨0, 0, h0, by rw [drewN_zero]; simp [choose, Sem.run, Question.forced, hf]⟩
    · exact ⟨_, 1, Nat.mod_lt _ h0, by
       simp only [choose, Sem.run, Question.forced, decide_eq_true_eq, hf, if_false, Question.cut]
       rfl⟩
   obtain ⟨j, q, hj, hrun⟩ := hch
   refine ⟨M[j], by simp, q, ?_⟩
   have hr2 : (w.drewN q).heap[r]? = some (.mapIter (some bm) since seen c0) := hr
   simp only [hne, Bool.false_eq_true, if_false, Array.empty_append, Array.size_map, hrun, Array.getElem?_map, Array.getElem?_eq_getElem hj, Option.map_some, Sem.run_bind, run_setObj_at _ hr2, Result.andThen]
   rfl
theorem entry_at {P : Program} {w : World} {r bm since clock : Nat} {seen : Array Nat} {es : Array MapEntry} {e : MapEntry} (hr : w.heap[r]? = some (.mapIter (some bm) since (seen.push e.born) clock)) (hb : w.heap[bm]? = some (.map es clock)) (he : e ∈ es.toList) (hn : (es.toList.map (·.born)).Nodup) :
  (Instr.entry (.pointer (some ⟨r, 0, none⟩))).run P w = .ok (.tuple #[e.key, e.val]) w := by
 have hf : es.find? (·.born == e.born) = some e := by rw [← Array.find?_toList]; exact find_born e es.toList hn he
 simp only [Instr.entry, getObj, Sem.run_bind, Sem.run, hr, hb, Result.andThen, Array.back?_push, bne_self_eq_false, Bool.false_eq_true, if_false, hf]
 rfl
end
section
open Go.ChangeShapes Go.WideShapes Go.ChangeAt Go.RowKit Go.MapKept
variable {E : Nat → Prop}
theorem run_next_is {o : Oper} {a : Act} (it : Operand) (ho : o.op = .next it false) (ht : o.type = 0) {w w' : World} {r : Nat} {v : Value} (hx : a.eval it = .pointer (some ⟨r, 0, none⟩)) (h : (Instr.next (.pointer (some ⟨r, 0, none⟩)) false 0).run Tryz.prog w = .ok v w') : (execOp a.eval o).run Tryz.prog w = .ok (.value v) w' := by
 unfold execOp
 simp only [ho, hx, ht]
 simp [h, Result.andThen]
theorem run_entry_op {o : Oper} {a : Act} (it : Operand) (ho : o.op = .entry it) {w : World} {r bm since clock : Nat} {seen : Array Nat} {es : Array MapEntry} {e : MapEntry} (hx : a.eval it = .pointer (some ⟨r, 0, none⟩)) (hr : w.heap[r]? = some (.mapIter (some bm) since (seen.push e.born) clock)) (hb : w.heap[bm]? = some (.map es clock)) (he : e ∈ es.toList) (hn : (es.toList.map (·.born)).Nodup) : (execOp a.eval o).run Tryz.prog w = .ok (.value (.tuple #[e.key, e.val])) w := by
 unfold execOp
 simp only [ho, hx]
 simp [entry_at hr hb he hn, Result.andThen]
theorem run_range_op {o : Oper} {a : Act} (x : Operand) (ho : o.op = .range 65 x) {w : World} {bm clock : Nat} {es : Array MapEntry} (hx : a.eval x = .map (some bm)) (hb : w.heap[bm]? = some (.map es clock)) : (execOp a.eval o).run Tryz.prog w = .ok (.value (.pointer (some ⟨w.heap.size, 0, none⟩))) (w.alloc (.mapIter (some bm) clock #[] clock)) := by
 unfold execOp
 simp only [ho, hx]
 simp [run_range_map w 65 9 136 bm es clock Tryz.underlying65 hb, Result.andThen]
theorem few_of {l : List Nat} {n : Nat} (hn : l.Nodup) (hb : ∀ i ∈ l, i < n) : l.length ≤ n := by
 have := List.Nodup.length_le_of_subset hn (l₂ := List.range n) (fun i hi => List.mem_range.2 (hb i hi))
 simpa using this
theorem all_of {l : List Nat} {n : Nat} (hn : l.Nodup) (hb : ∀ i ∈ l, i < n) (ha : ∀ i, i < n → i ∈ l) (t : Nat → Bool) : (l.filter t).length = ((List.range n).filter t).length := by
 have hp : l.Perm (List.range n) := (List.perm_ext_iff_of_nodup hn List.nodup_range).2 fun i => ⟨fun h => List.mem_range.2 (hb i h), fun h => ha i (List.mem_range.1 h)⟩
 exact (hp.filter t).length_eq
theorem cntN_range (ns : Nms) (ws : List (List UInt8)) : cntN ns ws = ((List.range ns.length).filter fun i => ws.any (fun y => (ns[i]?.map (fun x => x.2.word)).getD [] == y)).length := by
 unfold cntN
 induction ns with
 | nil => rfl
 | cons x ns ih =>
   rw [List.length_cons, List.range_succ_eq_map, List.filter_cons, List.filter_cons, List.filter_map]
   have e : (List.filter ((fun i => ws.any fun y => ((x :: ns)[i]?.map (fun x => x.2.word)).getD [] == y) ∘ Nat.succ) (List.range ns.length)) = (List.range ns.length).filter fun i => ws.any (fun y => (ns[i]?.map (fun x => x.2.word)).getD [] == y) := by
    apply List.filter_congr
    intro i hi
    simp
   rw [e]
   simp only [List.getElem?_cons_zero, Option.map_some, Option.getD_some]
   split
   · simp [ih]
   · simp [ih]
theorem ahead_c {w : World} {cb : Nat} {V : CV} {c : Ck} (h : CkAt E w cb V c) (ws : List (List UInt8)) (v : Value) (hs : Strs w v ws) (hl : ws.length ≤ 100) : Calls Tryz.prog 118 #[.pointer (some ⟨cb, 0, none⟩), v] w fun e w' => e = .returned (.int .i64 (cntN c.names ws : Nat)) ∧ Below w.heap.size w w' := by
 obtain ⟨us, e1, hmb, hin⟩ := h.nms
 have c5 := h.has.cell 5
 have lc := h.has.lt
 simp only [ga1, gz1, gs1] at c5
 have hfew := h.few.2.1
 rw [cntN_range]
 obtain ⟨t, ht⟩ : ∃ t : Nat → Bool, t = fun i => ws.any (fun y => (c.names[i]?.map (fun x => x.2.word)).getD [] == y) := ⟨_, rfl⟩
 rw [← ht]
 obtain ⟨n, hn⟩ : ∃ n, n = c.names.length := ⟨_, rfl⟩
 rw [← hn] at hmb hfew ⊢
 have hmlt : V.mb < w.heap.size := (Array.getElem?_eq_some_iff.1 hmb).1
 have hH := fun i (hi : i < c.names.length) => ents_get e1 i hi
 have hword : ∀ i (hi : i < c.names.length), t i = ws.any (fun y => c.names[i].2.word == y) := fun i hi => by rw [ht]; simp [hi]
 have hold : ∀ x ∈ (ents c.names us).toArray.toList, x.born < n := fun x hx => by
  obtain ⟨i, hi, rfl⟩ := ents_mem e1 (by simpa using hx)
  rw [hn]; exact hi
 have hnd : ((ents c.names us).toArray.toList.map (·.born)).Nodup := by
  have : (ents c.names us).toArray.toList.map (·.born) = List.range c.names.length := by
   apply List.ext_getElem?
   intro i
   by_cases hi : i < c.names.length
   · simp [hH i hi, hi]
   · simp [ents_len e1, hi]
  rw [this]
  exact List.nodup_range
 have HT : Hid (∀ i (hi : i < c.names.length), t i = ws.any (fun y => c.names[i].2.word == y)) := hword
 have HOLD : Hid (∀ x ∈ (ents c.names us).toArray.toList, x.born < n) := hold
 have HND : Hid (((ents c.names us).toArray.toList.map (·.born)).Nodup) := hnd
 have HGET : Hid (∀ i (hi : i < c.names.length), (ents c.names us)[i]? = some { key := .string (bs c.names[i].1), val := mnv c.names[i].2 (us[i]'(by rw [e1]; exact hi)), born := i }) := hH
 obtain ⟨W, hW⟩ : ∃ W, W = w.alloc (.mapIter (some V.mb) n #[] n) := ⟨_, rfl⟩
 have hWb : Below w.heap.size w W := by rw [hW]; exact b_one w _
 have hWr : W.heap[w.heap.size]? = some (.mapIter (some V.mb) n #[] n) := by rw [hW]; exact heap_alloc_new w _
 have HW : Hid (W = w.alloc (.mapIter (some V.mb) n #[] n)) := hW
 have HIN : Hid (∀ i (hi : i < c.names.length), ∃ A C, us[i]'(by rw [e1]; exact hi) = Value.slice A c.names[i].2.bytes.length C) := (fun i hi => by
  obtain ⟨A, C, e, _⟩ := (hin i hi (by rw [e1]; exact hi)).bytes
  exact ⟨A, C, e⟩ : ∀ i (hi : i < c.names.length), ∃ A C, us[i]'(by rw [e1]; exact hi) = Value.slice A c.names[i].2.bytes.length C)
 have HN : Hid (n = c.names.length) := hn
 clear ht hH hword hold hnd hin h hW hn
 go_enter Tryz.func118, Tryz.ntmps118
 go_wp2_with (first
  | (refine at_dstL 12 rfl ?_
     refine wpList_is_w (some 12) (.pointer (some ⟨w.heap.size, 0, none⟩)) W rfl (by rfl) (by rw [HW.out]; exact run_range_op _ rfl rfl hmb) ?_))
 go_loopw [5] (fun z wr => ∃ (seen : Array Nat) (k : Nat), z = .int .i64 (k : Nat) ∧ Below w.heap.size w wr ∧ wr.heap[w.heap.size]? = some (.mapIter (some V.mb) n seen n) ∧ Hid (seen.toList.Nodup ∧ (∀ i ∈ seen.toList, i < n) ∧ k = (seen.toList.filter t).length)) (fun _ wz => n - (wz.iterSeen w.heap.size).size)
 case atStart => exact ⟨#[], 0, rfl, hWb, hWr, ⟨by simp, by simp, rfl⟩⟩
 case round =>
  obtain ⟨seen, k, rfl, hb, hr, HS⟩ := hrel
  have hmb2 : wr.heap[V.mb]? = some (.map (ents c.names us).toArray n) := (hb.block V.mb hmlt).trans hmb
  have hkn : k ≤ n := by
   rw [HS.out.2.2]
   exact Nat.le_trans (List.length_filter_le _ _) (few_of HS.out.1 HS.out.2.1)
  have HI : Hid ((wr.iterSeen w.heap.size).size = seen.size) := by
   have : wr.iterSeen w.heap.size = seen := by unfold World.iterSeen; rw [hr]
   rw [this]
   exact rfl
  rcases next_at (P := Tryz.prog) 0 hr hmb2 HOLD.out (Nat.le_refl n) with ⟨h0, hnx⟩ | ⟨e, he, q, hnx⟩
  · have hall : k = ((List.range n).filter t).length := by
     rw [HS.out.2.2]
     refine all_of HS.out.1 HS.out.2.1 (fun i hi => ?_) t
     cases hc : seen.contains i with
     | true => simpa using hc
     | false =>
       have hg := HGET.out i (by rw [← HN.out]; exact hi)
       have hm : ({ key := .string (bs c.names[i].1), val := mnv c.names[i].2 (us[i]'(by rw [e1, ← HN.out]; exact hi)), born := i } : MapEntry) ∈ leftOf (ents c.names us).toArray seen := by
        unfold leftOf
        rw [Array.mem_filter]
        exact ⟨by simpa using List.mem_of_getElem? hg, by simpa using hc⟩
       obtain ⟨j, hj, _⟩ := Array.mem_iff_getElem.1 hm
       omega
    have HA : Hid (k = ((List.range n).filter t).length) := hall
    clear hall HS
    go_wp2_with (first
     | (refine at_dstL 13 rfl ?_
        refine wpList_is (some 13) (.tuple #[.bool false]) rfl (by rfl) (run_next_is _ rfl rfl rfl hnx) ?_))
    go_ret
    exact ⟨by rw [← HA.out]; rfl, hb⟩
  · have hmem : e ∈ (ents c.names us).toArray.toList ∧ seen.contains e.born = false := by
     unfold leftOf at he
     simp only [Array.mem_toList_iff, Array.mem_filter] at he
     exact ⟨by simpa using he.1, by simpa using he.2⟩
    obtain ⟨i, hi, hei⟩ := ents_mem e1 (by simpa using hmem.1)
    obtain ⟨Au, Cu, hu⟩ := HIN.out i hi
    have hin' : i < n := by rw [HN.out]; exact hi
    have hti := HT.out i hi
    have hval : e.val = .agg #[.string (bs c.names[i].2.word), .int .i64 (c.names[i].2.node : Nat), .slice Au c.names[i].2.bytes.length Cu] := by rw [hei]; show mnv _ _ = _; rw [hu]; rfl
    have hborn : e.born = i := by rw [hei]
    obtain ⟨W1, hW1⟩ : ∃ W1, W1 = putObj (wr.drewN q) w.heap.size (.mapIter (some V.mb) n (seen.push e.born) n) := ⟨_, rfl⟩
    have hrl : w.heap.size < wr.heap.size := (Array.getElem?_eq_some_iff.1 hr).1
    have hW1r : W1.heap[w.heap.size]? = some (.mapIter (some V.mb) n (seen.push e.born) n) := by rw [hW1]; unfold putObj; simp [hrl]
    have hW1b : Below w.heap.size w W1 := by
     rw [hW1]
     exact ⟨hb.os, hb.tape, hb.output, by unfold putObj; simpa using hb.size, fun k hk => by unfold putObj; simp only [Array.getElem?_setIfInBounds]; rw [if_neg (by omega)]; exact hb.block k hk⟩
    have hW1s : W1.heap.size = wr.heap.size := by rw [hW1]; unfold putObj; simp
    have hmb3 : W1.heap[V.mb]? = some (.map (ents c.names us).toArray n) := (hW1b.block V.mb hmlt).trans hmb
    have hen := fun (o : Oper) (a : Act) (it : Operand) ho hx => run_entry_op (o := o) (a := a) it ho hx hW1r hmb3 hmem.1 HND.out
    rw [← hW1] at hnx
    rw [hval] at hnx hen
    have HNX : Hid ((Instr.next (.pointer (some ⟨w.heap.size, 0, none⟩)) false 0).run Tryz.prog wr = .ok (.tuple #[.bool true, e.key, .agg #[.string (bs c.names[i].2.word), .int .i64 (c.names[i].2.node : Nat), .slice Au c.names[i].2.bytes.length Cu]]) W1) := hnx
    have HEN : Hid (∀ (o : Oper) (a : Act) (it : Operand), o.op = .entry it → a.eval it = .pointer (some ⟨w.heap.size, 0, none⟩) → (execOp a.eval o).run Tryz.prog W1 = .ok (.value (.tuple #[e.key, .agg #[.string (bs c.names[i].2.word), .int .i64 (c.names[i].2.node : Nat), .slice Au c.names[i].2.bytes.length Cu]])) W1) := hen
    have HS2 : Hid ((seen.push i).toList.Nodup ∧ (∀ j ∈ (seen.push i).toList, j < n) ∧ (if t i then k + 1 else k) = ((seen.push i).toList.filter t).length) := by
     have hnc : i ∉ seen.toList := by
      have := hmem.2
      rw [hborn] at this
      simpa using this
     refine ⟨?_, ?_, ?_⟩
     · rw [Array.toList_push, List.nodup_append]
       refine ⟨HS.out.1, by simp, fun a ha b hb => ?_⟩
       rw [List.mem_singleton] at hb
       rintro rfl
       rw [hb] at ha
       exact hnc ha
     · intro j hj
       rw [Array.toList_push, List.mem_append, List.mem_singleton] at hj
       rcases hj with hj | rfl
       · exact HS.out.2.1 j hj
       · exact hin'
     · rw [Array.toList_push, List.filter_append, List.length_append, ← HS.out.2.2]
       by_cases htt : t i = true
       · rw [if_pos htt]; simp [htt]
       · rw [if_neg htt]; simp [htt]
    have hsz : seen.size < n := by
     have := few_of HS2.out.1 HS2.out.2.1
     simp at this
     omega
    rw [hborn] at hW1r
    have hkx : (k : Int) ≤ 100000 := by omega
    generalize c.names[i].2.word = wd at *
    generalize ((c.names[i].2.node : Nat) : Int) = nd at *
    generalize c.names[i].2.bytes.length = bl at *
    generalize e.key = ek at *
    clear hnx hen HS hval hu he hmem hei hborn hW1 HND HOLD HGET HT HIN hr hmb2
    obtain ⟨W2, hW2⟩ : ∃ W2, W2 = W1.alloc (.cells #[.string (bs wd), .int .i64 nd, .slice Au bl Cu] 136) := ⟨_, rfl⟩
    have hcn := contains_c ws wd W2 v (hs.below (by rw [hW2]; exact hW1b.alloc (by omega) _)) hl
    have hr2 : W2.heap[w.heap.size]? = some (.mapIter (some V.mb) n (seen.push i) n) := by rw [hW2]; exact (Below.heap_alloc W1 _ _ (by omega)).trans hW1r
    have hb2 : Below w.heap.size w W2 := by rw [hW2]; exact hW1b.alloc (by omega) _
    have HI2 : Hid ((W2.iterSeen w.heap.size).size = seen.size + 1) := by
     have : W2.iterSeen w.heap.size = seen.push i := by unfold World.iterSeen; rw [hr2]
     rw [this]
     simp
     exact trivial
    rw [← hti] at hcn
    rw [hW2] at hcn
    have HW2 : Hid (W2 = W1.alloc (.cells #[.string (bs wd), .int .i64 nd, .slice Au bl Cu] 136)) := hW2
    clear hW2 hti
    cases htt : t i
    all_goals
     rw [htt] at hcn
     have HS3 := HS2.out
     rw [htt] at HS3
     have HS4 : Hid _ := HS3
     clear HS3 HS2
     go_wp2_with (first
      | (refine at_dstL 13 rfl ?_
         refine wpList_is_w (some 13) _ W1 rfl (by rfl) (run_next_is _ rfl rfl rfl HNX.out) ?_)
      | (refine at_dstL 15 rfl ?_
         refine wpList_is (some 15) _ rfl (by rfl) (HEN.out _ _ _ rfl rfl) ?_)
      | ((go_at_call 142)
         (refine hcn.mono ?_)
         (rintro e w' ⟨rfl, hw'⟩)
         (obtain rfl : _ = w' := hw'.symm)))
     rw [← HW2.out]
     go_roundw
     case rel => exact ⟨seen.push i, _, by go_num, hb2, hr2, HS4⟩
     case measure => rw [HI2.out, HI.out]; omega
end
section
open Go.ChangeShapes Go.WideShapes Go.ChangeAt Go.RowKit Go.MapKept
variable {E : Nat → Prop}
theorem strs_new {w : World} (l : List (List UInt8)) (cs : Array Value) (h : (l.map fun x => Value.string (bs x)).toArray = cs) : Strs (w.alloc (.cells cs 9)) (.slice (some ⟨w.heap.size, 0, none⟩) l.length l.length) l := by
 subst h
 exact .inr ⟨w.heap.size, rfl, Has.new _ _ _⟩
theorem full_Device {w : World} {cb : Nat} {V : CV} {c : Ck} (h : CkAt E w cb V c) : Calls Tryz.prog 87 #[.pointer (some ⟨cb, 0, none⟩), .string (bs wDevice)] w fun e w' => e = .returned (.bool (full c.names wDevice)) ∧ Below w.heap.size w w' := by
 have ha := ahead_c (h.alloc (.cells #[.string ⟨#[100, 101, 118, 105, 99, 101]⟩, .string ⟨#[106, 111, 117, 114, 110, 97, 108]⟩] 9)) [wDevice, wJournal] _ (strs_new [wDevice, wJournal] #[.string ⟨#[100, 101, 118, 105, 99, 101]⟩, .string ⟨#[106, 111, 117, 114, 110, 97, 108]⟩] rfl) (by decide)
 rw [show full c.names wDevice = (cntN c.names [wDevice, wJournal] == 8) from rfl]
 generalize cntN c.names [wDevice, wJournal] = m at ha ⊢
 rw [show bs wDevice = ⟨#[100, 101, 118, 105, 99, 101]⟩ from rfl]
 have hq : (((m : Nat) : Int) == 8) = (m == 8) := by
  rw [Bool.eq_iff_iff]
  simp only [beq_iff_eq]
  omega
 have HQ : Hid ((((m : Nat) : Int) == 8) = (m == 8)) := hq
 clear hq
 go_enter Tryz.func87, Tryz.ntmps87
 go_wp2_with (first
  | ((go_at_call 118)
     (refine ha.mono ?_)
     (rintro e w1 ⟨rfl, hb⟩)))
 go_ret
 refine ⟨?_, (b_one w _).trans (hb.mono (by simp))⟩
 first
  | rfl
  | (rw [← HQ.out]; rfl)
  | (congr 1)
theorem full_Journal {w : World} {cb : Nat} {V : CV} {c : Ck} (h : CkAt E w cb V c) : Calls Tryz.prog 87 #[.pointer (some ⟨cb, 0, none⟩), .string (bs wJournal)] w fun e w' => e = .returned (.bool (full c.names wJournal)) ∧ Below w.heap.size w w' := by
 have ha := ahead_c (h.alloc (.cells #[.string ⟨#[100, 101, 118, 105, 99, 101]⟩, .string ⟨#[106, 111, 117, 114, 110, 97, 108]⟩] 9)) [wDevice, wJournal] _ (strs_new [wDevice, wJournal] #[.string ⟨#[100, 101, 118, 105, 99, 101]⟩, .string ⟨#[106, 111, 117, 114, 110, 97, 108]⟩] rfl) (by decide)
 rw [show full c.names wJournal = (cntN c.names [wDevice, wJournal] == 8) from rfl]
 generalize cntN c.names [wDevice, wJournal] = m at ha ⊢
 rw [show bs wJournal = ⟨#[106, 111, 117, 114, 110, 97, 108]⟩ from rfl]
 have hq : (((m : Nat) : Int) == 8) = (m == 8) := by
  rw [Bool.eq_iff_iff]
  simp only [beq_iff_eq]
  omega
 have HQ : Hid ((((m : Nat) : Int) == 8) = (m == 8)) := hq
 clear hq
 go_enter Tryz.func87, Tryz.ntmps87
 go_wp2_with (first
  | ((go_at_call 118)
     (refine ha.mono ?_)
     (rintro e w1 ⟨rfl, hb⟩)))
 go_ret
 refine ⟨?_, (b_one w _).trans (hb.mono (by simp))⟩
 first
  | rfl
  | (rw [← HQ.out]; rfl)
  | (congr 1)
theorem full_Key {w : World} {cb : Nat} {V : CV} {c : Ck} (h : CkAt E w cb V c) : Calls Tryz.prog 87 #[.pointer (some ⟨cb, 0, none⟩), .string (bs wKey)] w fun e w' => e = .returned (.bool (full c.names wKey)) ∧ Below w.heap.size w w' := by
 have ha := ahead_c (h.alloc (.cells #[.string ⟨#[107, 101, 121]⟩, .string ⟨#[114, 111, 111, 116]⟩] 9)) [wKey, wRoot] _ (strs_new [wKey, wRoot] #[.string ⟨#[107, 101, 121]⟩, .string ⟨#[114, 111, 111, 116]⟩] rfl) (by decide)
 rw [show full c.names wKey = (cntN c.names [wKey, wRoot] == 8) from rfl]
 generalize cntN c.names [wKey, wRoot] = m at ha ⊢
 rw [show bs wKey = ⟨#[107, 101, 121]⟩ from rfl]
 have hq : (((m : Nat) : Int) == 8) = (m == 8) := by
  rw [Bool.eq_iff_iff]
  simp only [beq_iff_eq]
  omega
 have HQ : Hid ((((m : Nat) : Int) == 8) = (m == 8)) := hq
 clear hq
 go_enter Tryz.func87, Tryz.ntmps87
 go_wp2_with (first
  | ((go_at_call 118)
     (refine ha.mono ?_)
     (rintro e w1 ⟨rfl, hb⟩)))
 go_ret
 refine ⟨?_, (b_one w _).trans (hb.mono (by simp))⟩
 first
  | rfl
  | (rw [← HQ.out]; rfl)
  | (congr 1)
theorem full_Root {w : World} {cb : Nat} {V : CV} {c : Ck} (h : CkAt E w cb V c) : Calls Tryz.prog 87 #[.pointer (some ⟨cb, 0, none⟩), .string (bs wRoot)] w fun e w' => e = .returned (.bool (full c.names wRoot)) ∧ Below w.heap.size w w' := by
 have ha := ahead_c (h.alloc (.cells #[.string ⟨#[107, 101, 121]⟩, .string ⟨#[114, 111, 111, 116]⟩] 9)) [wKey, wRoot] _ (strs_new [wKey, wRoot] #[.string ⟨#[107, 101, 121]⟩, .string ⟨#[114, 111, 111, 116]⟩] rfl) (by decide)
 rw [show full c.names wRoot = (cntN c.names [wKey, wRoot] == 8) from rfl]
 generalize cntN c.names [wKey, wRoot] = m at ha ⊢
 rw [show bs wRoot = ⟨#[114, 111, 111, 116]⟩ from rfl]
 have hq : (((m : Nat) : Int) == 8) = (m == 8) := by
  rw [Bool.eq_iff_iff]
  simp only [beq_iff_eq]
  omega
 have HQ : Hid ((((m : Nat) : Int) == 8) = (m == 8)) := hq
 clear hq
 go_enter Tryz.func87, Tryz.ntmps87
 go_wp2_with (first
  | ((go_at_call 118)
     (refine ha.mono ?_)
     (rintro e w1 ⟨rfl, hb⟩)))
 go_ret
 refine ⟨?_, (b_one w _).trans (hb.mono (by simp))⟩
 first
  | rfl
  | (rw [← HQ.out]; rfl)
  | (congr 1)
theorem full_Volume {w : World} {cb : Nat} {V : CV} {c : Ck} (h : CkAt E w cb V c) : Calls Tryz.prog 87 #[.pointer (some ⟨cb, 0, none⟩), .string (bs wVolume)] w fun e w' => e = .returned (.bool (full c.names wVolume)) ∧ Below w.heap.size w w' := by
 have ha := ahead_c (h.alloc (.cells #[.string ⟨#[118, 111, 108, 117, 109, 101]⟩] 9)) [wVolume] _ (strs_new [wVolume] #[.string ⟨#[118, 111, 108, 117, 109, 101]⟩] rfl) (by decide)
 rw [show full c.names wVolume = (cntN c.names [wVolume] == 16) from rfl]
 generalize cntN c.names [wVolume] = m at ha ⊢
 rw [show bs wVolume = ⟨#[118, 111, 108, 117, 109, 101]⟩ from rfl]
 have hq : (((m : Nat) : Int) == 16) = (m == 16) := by
  rw [Bool.eq_iff_iff]
  simp only [beq_iff_eq]
  omega
 have HQ : Hid ((((m : Nat) : Int) == 16) = (m == 16)) := hq
 clear hq
 go_enter Tryz.func87, Tryz.ntmps87
 go_wp2_with (first
  | ((go_at_call 118)
     (refine ha.mono ?_)
     (rintro e w1 ⟨rfl, hb⟩)))
 go_ret
 refine ⟨?_, (b_one w _).trans (hb.mono (by simp))⟩
 first
  | rfl
  | (rw [← HQ.out]; rfl)
  | (congr 1)
theorem full_c {w : World} {cb : Nat} {V : CV} {c : Ck} (h : CkAt E w cb V c) (op : List UInt8) (ho : op = wDevice ∨ op = wJournal ∨ op = wKey ∨ op = wRoot ∨ op = wVolume) : Calls Tryz.prog 87 #[.pointer (some ⟨cb, 0, none⟩), .string (bs op)] w fun e w' => e = .returned (.bool (full c.names op)) ∧ Below w.heap.size w w' := by
 rcases ho with rfl | rfl | rfl | rfl | rfl
 · exact full_Device h
 · exact full_Journal h
 · exact full_Key h
 · exact full_Root h
 · exact full_Volume h
end
end Go.Proofs.YthndifegfmjpbaaGreatDoor
