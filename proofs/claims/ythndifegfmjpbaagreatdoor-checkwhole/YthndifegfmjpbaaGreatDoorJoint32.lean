/- Texts that the statements of this stage share, joined. -/
import Derived.Test.YthndifegfmjpbaaGreatDoorJoint31
namespace Go.Proofs.YthndifegfmjpbaaGreatDoor
set_option linter.unusedVariables false
set_option maxRecDepth 100000
set_option maxHeartbeats 40000000
section
open Go.ChangeShapes Go.WideShapes Go.ChangeAt Go.RowKit Go.MapKept
variable {E : Nat → Prop}
theorem st_export {w0 w : World} {cb : Nat} {V : CV} {c : Ck} (h : CkAt E w cb V c) (n : Nd) (A : Option Addr) (C : Nat) (hr : RdN w0 n A C) (hcb : w0.heap.size ≤ cb - 1) (hb0 : Below w0.heap.size w0 w) (hx : StR n) (hnm : NmOk c.names c.parts) (hby : ∀ x ∈ c.names, x.2.bytes.length ≤ 1000) (hdv : c.devs.length ≤ 90000) (hnl : c.names.length ≤ 90000) (ho : n.op = wExport) : Calls Tryz.prog 52 #[.pointer (some ⟨cb, 0, none⟩), .agg (ndc n (.slice A n.l.length C))] w (CRes E w cb V (cstmt c n)) := by
 obtain ⟨L, hL⟩ : ∃ L, L = n.l.length := ⟨_, rfl⟩
 have HL := hidI hL
 obtain ⟨W1, hW1⟩ : ∃ W1, W1 = w.alloc (.cells #[.string (bs n.op), .string (bs n.s), .int .i64 n.n, .int .i64 n.a, .slice A L C] 24) := ⟨_, rfl⟩
 have hb1 : Below w.heap.size w W1 := by rw [hW1]; exact b_one w _
 have N1 : Has W1 w.heap.size 24 #[.string (bs n.op), .string (bs n.s), .int .i64 n.n, .int .i64 n.a, .slice A L C] := by rw [hW1]; exact Has.new w _ _
 have h1 : CkAt E W1 cb V c := h.keep hb1
 have HW := hidI hW1
 have lcb := h.has.lt
 have hot := bs_toList n.op
 have f0 : (n.op == [101, 120, 112, 111, 114, 116]) = true := by rw [ho]; decide
 have HR := hidI (show cstmt c n = cexport c n by unfold cstmt; rw [if_pos ho])
 have hex := export_c h1 n A L C hnm
 rw [← hL]
 clear hW1 hL ho
 unfold ndc at hex ⊢
 rw [HW.out] at hex
 go_enter Tryz.func52, Tryz.ntmps52
 cases hR : cexport c n with
 | error er =>
   obtain ⟨ec, ek⟩ := er
   rw [hR] at hex
   have HR := hidI (HR.out.trans hR)
   clear hR
   go_wp2_with (first
    | ((go_at_call 85)
       (refine hex.mono ?_)
       (rintro e w5 ⟨ho5, rfl⟩)))
   rw [← HW.out] at ho5
   exact ⟨rfl, (Onl.of hb1).trans ho5, by rw [HR.out]⟩
 | ok c' =>
   rw [hR] at hex
   have HR := hidI (HR.out.trans hR)
   clear hR
   go_wp2_with (first
    | ((go_at_call 85)
       (refine hex.mono ?_)
       (rintro e w5 ⟨ho5, rfl, V5, H5, S5⟩)))
   rw [← HW.out] at S5 H5
   have S05 := (Stp.of (cb := cb) (V := V) hb1).trans S5
   go_end0
   refine ⟨S05.only, ?_⟩
   rw [HR.out]
   exact ⟨rfl, V5, H5.mono (fun g _ _ he => by
    rcases he with he | he
    · exact .inl he
    · exact .inr (Nat.le_trans hb1.size he)), S05⟩
theorem st_twice {w0 w : World} {cb : Nat} {V : CV} {c : Ck} (h : CkAt E w cb V c) (n : Nd) (A : Option Addr) (C : Nat) (hr : RdN w0 n A C) (hcb : w0.heap.size ≤ cb - 1) (hb0 : Below w0.heap.size w0 w) (hx : StR n) (hnm : NmOk c.names c.parts) (hby : ∀ x ∈ c.names, x.2.bytes.length ≤ 1000) (hdv : c.devs.length ≤ 90000) (hnl : c.names.length ≤ 90000) (ho : n.op ≠ wExport) (hlk : (lk c.names n.s).isSome = true) : Calls Tryz.prog 52 #[.pointer (some ⟨cb, 0, none⟩), .agg (ndc n (.slice A n.l.length C))] w (CRes E w cb V (cstmt c n)) := by
 obtain ⟨L, hL⟩ : ∃ L, L = n.l.length := ⟨_, rfl⟩
 have HL := hidI hL
 obtain ⟨W1, hW1⟩ : ∃ W1, W1 = w.alloc (.cells #[.string (bs n.op), .string (bs n.s), .int .i64 n.n, .int .i64 n.a, .slice A L C] 24) := ⟨_, rfl⟩
 have hb1 : Below w.heap.size w W1 := by rw [hW1]; exact b_one w _
 have N1 : Has W1 w.heap.size 24 #[.string (bs n.op), .string (bs n.s), .int .i64 n.n, .int .i64 n.a, .slice A L C] := by rw [hW1]; exact Has.new w _ _
 have h1 : CkAt E W1 cb V c := h.keep hb1
 have HW := hidI hW1
 have lcb := h.has.lt
 have hot := bs_toList n.op
 obtain ⟨us, e1, hmb0, hin⟩ := h.nms
 have hmb := (hb1.block V.mb (Array.getElem?_eq_some_iff.1 hmb0).1).trans hmb0
 have hun := h1.uniq
 have c5 := h1.has.cell 5
 have nc1 := N1.cell 1
 simp only [ga1, gz1, gs1] at c5 nc1
 have f0 : (n.op == [101, 120, 112, 111, 114, 116]) = false := by rw [beq_eq_false_iff_ne]; exact ho
 have HR := hidI (show cstmt c n = .error (132, n.a) by unfold cstmt; rw [if_neg ho, if_pos hlk])
 cases hk : lk c.names n.s with
 | none => rw [hk] at hlk; cases hlk
 | some m =>
   obtain ⟨i, hi, e2, e3⟩ : ∃ i, ∃ hi : i < c.names.length, c.names[i].1 = n.s ∧ c.names[i].2 = m := by
    rcases lk_at (ns := c.names) (s := n.s) with ⟨q, _⟩ | ⟨i, hi, q1, q2, _⟩
    · rw [hk] at q; cases q
    · exact ⟨i, hi, q1, by rw [hk] at q2; cases q2; rfl⟩
   obtain ⟨Am, Cm, em, am, bm, hbyt⟩ := (hin i hi (by omega)).bytes
   have HU : Hid (lkV c.names us n.s = .agg #[.string (bs m.word), .int .i64 (m.node : Nat), .slice Am m.bytes.length Cm]) := by
    have := lkV_at e1 hun hi
    rw [e2, em, e3] at this
    exact this
   have HB := hidI hlk
   rw [← hL]
   clear hk em hin hlk hW1 hL ho e2 e3
   unfold ndc
   go_enter Tryz.func52, Tryz.ntmps52
   go_wp2
   rw [← HW.out]
   refine wp_region_held_drew (S := fun wz => wz.cell? ⟨cb, 5, none⟩ = some (.map (some V.mb)) ∧ wz.cell? ⟨w.heap.size, 1, none⟩ = some (.string (bs n.s)) ∧ wz.heap[V.mb]? = some (.map (ents c.names us).toArray c.names.length) ∧ Below W1.heap.size W1 wz) (by kernel_rfl) (⟨c5, nc1, hmb, (Below.refl _ W1).drew⟩) (fun hHeld => ?_)
   refine tkT 0 (some 14) (.pointer (some ⟨cb, 0, none⟩)) rfl rfl (fun _ _ => rfl) hHeld ?_
   simp only [Act.put, sb1, sz1, ss1]
   refine tkT 1 (some 15) (.pointer (some ⟨cb, 0, none⟩)) rfl rfl (fun _ _ => rfl) hHeld ?_
   simp only [Act.put, sb1, sz1, ss1]
   refine tkT 2 (some 16) (.pointer (some ⟨cb, 5, none⟩)) rfl rfl (fun _ _ => rfl) hHeld ?_
   simp only [Act.put, sb1, sz1, ss1]
   refine tkT 3 (some 17) (.map (some V.mb)) rfl rfl (fun wz hz => by obtain ⟨z0, z1, z2, z3⟩ := hz; unfold execOp; go_simp) hHeld ?_
   simp only [Act.put, sb1, sz1, ss1]
   refine tkT 4 (some 18) (.pointer (some ⟨w.heap.size, 1, none⟩)) rfl rfl (fun _ _ => rfl) hHeld ?_
   simp only [Act.put, sb1, sz1, ss1]
   refine tkT 5 (some 19) (.string (bs n.s)) rfl rfl (fun wz hz => by obtain ⟨z0, z1, z2, z3⟩ := hz; unfold execOp; go_simp) hHeld ?_
   simp only [Act.put, sb1, sz1, ss1]
   refine tkT 6 (some 20) (.tuple #[.agg #[.string (bs m.word), .int .i64 (m.node : Nat), .slice Am m.bytes.length Cm], .bool true]) rfl rfl (fun wz hz => (run_look _ _ rfl hz.2.2.1 e1 hun n.s rfl rfl).trans (by rw [HU.out, HB.out])) hHeld ?_
   simp only [Act.put, sb1, sz1, ss1]
   refine tkT 7 (some 13) (.tuple #[.agg #[.string (bs m.word), .int .i64 (m.node : Nat), .slice Am m.bytes.length Cm], .bool true]) rfl rfl (fun _ _ => rfl) hHeld ?_
   simp only [Act.put, sb1, sz1, ss1]
   refine tkT 8 (some 21) (.agg #[.string (bs m.word), .int .i64 (m.node : Nat), .slice Am m.bytes.length Cm]) rfl rfl (fun _ _ => rfl) hHeld ?_
   simp only [Act.put, sb1, sz1, ss1]
   refine tkT 9 (some 22) (.bool true) rfl rfl (fun _ _ => rfl) hHeld ?_
   simp only [Act.put, sb1, sz1, ss1]
   have hH2 : (W1.drew.alloc (.cells #[.string ⟨#[]⟩, .int .i64 0, .slice none 0 0] 136)).cell? ⟨cb, 5, none⟩ = some (.map (some V.mb)) ∧ (W1.drew.alloc (.cells #[.string ⟨#[]⟩, .int .i64 0, .slice none 0 0] 136)).cell? ⟨w.heap.size, 1, none⟩ = some (.string (bs n.s)) ∧ (W1.drew.alloc (.cells #[.string ⟨#[]⟩, .int .i64 0, .slice none 0 0] 136)).heap[V.mb]? = some (.map (ents c.names us).toArray c.names.length) ∧ Below W1.heap.size W1 (W1.drew.alloc (.cells #[.string ⟨#[]⟩, .int .i64 0, .slice none 0 0] 136)) := ⟨below_some (b_one W1.drew _) hHeld.1, below_some (b_one W1.drew _) hHeld.2.1, (Below.heap_alloc W1.drew _ V.mb (Array.getElem?_eq_some_iff.1 hmb).1).trans hHeld.2.2.1, hHeld.2.2.2.trans ((b_one W1.drew _))⟩
   refine ready1 10 (by kernel_rfl) (stepVal (some 4) (.pointer (some ⟨W1.heap.size, 0, none⟩)) (W1.drew.alloc (.cells #[.string ⟨#[]⟩, .int .i64 0, .slice none 0 0] 136)) rfl rfl (by rfl) (by kernel_rfl) ⟨hH2, ?_⟩)
   simp only [Act.put, sb1, sz1, ss1]
   have hM2 : Has (W1.drew.alloc (.cells #[.string ⟨#[]⟩, .int .i64 0, .slice none 0 0] 136)) W1.heap.size 136 #[.string ⟨#[]⟩, .int .i64 0, .slice none 0 0] := Has.new_at rfl
   have hBel : Below W1.heap.size W1 ((W1.drew.alloc (.cells #[.string ⟨#[]⟩, .int .i64 0, .slice none 0 0] 136)).setRow W1.heap.size #[.string (bs m.word), .int .i64 (m.node : Nat), .slice Am m.bytes.length Cm]) := below_setRow hH2.2.2.2 (Nat.le_refl _) _
   have hH3 : ((W1.drew.alloc (.cells #[.string ⟨#[]⟩, .int .i64 0, .slice none 0 0] 136)).setRow W1.heap.size #[.string (bs m.word), .int .i64 (m.node : Nat), .slice Am m.bytes.length Cm]).cell? ⟨cb, 5, none⟩ = some (.map (some V.mb)) ∧ ((W1.drew.alloc (.cells #[.string ⟨#[]⟩, .int .i64 0, .slice none 0 0] 136)).setRow W1.heap.size #[.string (bs m.word), .int .i64 (m.node : Nat), .slice Am m.bytes.length Cm]).cell? ⟨w.heap.size, 1, none⟩ = some (.string (bs n.s)) ∧ ((W1.drew.alloc (.cells #[.string ⟨#[]⟩, .int .i64 0, .slice none 0 0] 136)).setRow W1.heap.size #[.string (bs m.word), .int .i64 (m.node : Nat), .slice Am m.bytes.length Cm]).heap[V.mb]? = some (.map (ents c.names us).toArray c.names.length) ∧ Below W1.heap.size W1 ((W1.drew.alloc (.cells #[.string ⟨#[]⟩, .int .i64 0, .slice none 0 0] 136)).setRow W1.heap.size #[.string (bs m.word), .int .i64 (m.node : Nat), .slice Am m.bytes.length Cm]) := ⟨below_some hBel c5, below_some hBel nc1, (hBel.block V.mb (Array.getElem?_eq_some_iff.1 hmb).1).trans hmb, hBel⟩
   refine ready1 11 (by kernel_rfl) (stepSkip none ((W1.drew.alloc (.cells #[.string ⟨#[]⟩, .int .i64 0, .slice none 0 0] 136)).setRow W1.heap.size #[.string (bs m.word), .int .i64 (m.node : Nat), .slice Am m.bytes.length Cm]) rfl rfl (by rfl) (run_store_row 136 _ _ rfl W1.heap.size rfl #[.string (bs m.word), .int .i64 (m.node : Nat), .slice Am m.bytes.length Cm] rfl 136 (by kernel_rfl) _ hM2 rfl (by kernel_rfl)) ⟨hH3, ?_⟩)
   simp only [Act.put]
   refine tkT 12 (some 5) (.bool true) rfl rfl (fun _ _ => rfl) hH3 ?_
   simp only [Act.put, sb1, sz1, ss1]
   refine wpAnyH_done (by kernel_rfl) ?_ _
   clear hM2 hH3 hH2 hHeld
   generalize ((W1.drew.alloc (.cells #[.string ⟨#[]⟩, .int .i64 0, .slice none 0 0] 136)).setRow W1.heap.size #[.string (bs m.word), .int .i64 (m.node : Nat), .slice Am m.bytes.length Cm]) = W2 at *
   have N2 := N1.below hBel N1.lt
   have b0 := N2.cell 0
   have b1 := N2.cell 1
   have b2 := N2.cell 2
   have b3 := N2.cell 3
   have b4 := N2.cell 4
   have bl := N2.lt
   simp only [ga1, gz1, gs1] at b0 b1 b2 b3 b4
   go_wp2_with (first
    | ((go_at_call 86)
       (refine (need_no 132 n.a W2).mono ?_)
       (rintro e w3 ⟨rfl, hw3⟩)
       (obtain rfl : W2 = w3 := hw3.symm)))
   exact ⟨rfl, Onl.of (hb1.trans (hBel.mono hb1.size)), by rw [HR.out]; rfl⟩
theorem st_full {w0 w : World} {cb : Nat} {V : CV} {c : Ck} (h : CkAt E w cb V c) (n : Nd) (A : Option Addr) (C : Nat) (hr : RdN w0 n A C) (hcb : w0.heap.size ≤ cb - 1) (hb0 : Below w0.heap.size w0 w) (hx : StR n) (hnm : NmOk c.names c.parts) (hby : ∀ x ∈ c.names, x.2.bytes.length ≤ 1000) (hdv : c.devs.length ≤ 90000) (hnl : c.names.length ≤ 90000) (ho : n.op ≠ wExport) (hlk : lk c.names n.s = none) (hfu : full c.names n.op = true) : Calls Tryz.prog 52 #[.pointer (some ⟨cb, 0, none⟩), .agg (ndc n (.slice A n.l.length C))] w (CRes E w cb V (cstmt c n)) := by
 obtain ⟨L, hL⟩ : ∃ L, L = n.l.length := ⟨_, rfl⟩
 have HL := hidI hL
 obtain ⟨W1, hW1⟩ : ∃ W1, W1 = w.alloc (.cells #[.string (bs n.op), .string (bs n.s), .int .i64 n.n, .int .i64 n.a, .slice A L C] 24) := ⟨_, rfl⟩
 have hb1 : Below w.heap.size w W1 := by rw [hW1]; exact b_one w _
 have N1 : Has W1 w.heap.size 24 #[.string (bs n.op), .string (bs n.s), .int .i64 n.n, .int .i64 n.a, .slice A L C] := by rw [hW1]; exact Has.new w _ _
 have h1 : CkAt E W1 cb V c := h.keep hb1
 have HW := hidI hW1
 have lcb := h.has.lt
 have hot := bs_toList n.op
 obtain ⟨us, e1, hmb0, hin⟩ := h.nms
 have hmb := (hb1.block V.mb (Array.getElem?_eq_some_iff.1 hmb0).1).trans hmb0
 have hun := h1.uniq
 have c5 := h1.has.cell 5
 have nc1 := N1.cell 1
 simp only [ga1, gz1, gs1] at c5 nc1
 have f0 : (n.op == [101, 120, 112, 111, 114, 116]) = false := by rw [beq_eq_false_iff_ne]; exact ho
 have HR := hidI (show cstmt c n = .error (137, n.a) by unfold cstmt; rw [if_neg ho, if_neg (by rw [hlk]; decide), if_pos hfu])
 have HU : Hid (lkV c.names us n.s = .agg #[.string ⟨#[]⟩, .int .i64 0, .slice none 0 0]) := lkV_none hlk
 have HB := hidI (show (lk c.names n.s).isSome = false by rw [hlk]; rfl)
 have HFC := hidI (fun w2 (hb : Below W1.heap.size W1 w2) => full_c (h1.keep hb) n.op (by rcases hx.word with e | e | e | e | e | e; exact .inl e; exact .inr (.inl e); exact .inr (.inr (.inl e)); exact .inr (.inr (.inr (.inl e))); exact .inr (.inr (.inr (.inr e))); exact absurd e ho))
 rw [hfu] at HFC
 rw [← hL]
 clear hin hlk hW1 hL ho hfu
 unfold ndc
 go_enter Tryz.func52, Tryz.ntmps52
 go_wp2
 rw [← HW.out]
 refine wp_region_held_drew (S := fun wz => wz.cell? ⟨cb, 5, none⟩ = some (.map (some V.mb)) ∧ wz.cell? ⟨w.heap.size, 1, none⟩ = some (.string (bs n.s)) ∧ wz.heap[V.mb]? = some (.map (ents c.names us).toArray c.names.length) ∧ Below W1.heap.size W1 wz) (by kernel_rfl) (⟨c5, nc1, hmb, (Below.refl _ W1).drew⟩) (fun hHeld => ?_)
 refine tkT 0 (some 14) (.pointer (some ⟨cb, 0, none⟩)) rfl rfl (fun _ _ => rfl) hHeld ?_
 simp only [Act.put, sb1, sz1, ss1]
 refine tkT 1 (some 15) (.pointer (some ⟨cb, 0, none⟩)) rfl rfl (fun _ _ => rfl) hHeld ?_
 simp only [Act.put, sb1, sz1, ss1]
 refine tkT 2 (some 16) (.pointer (some ⟨cb, 5, none⟩)) rfl rfl (fun _ _ => rfl) hHeld ?_
 simp only [Act.put, sb1, sz1, ss1]
 refine tkT 3 (some 17) (.map (some V.mb)) rfl rfl (fun wz hz => by obtain ⟨z0, z1, z2, z3⟩ := hz; unfold execOp; go_simp) hHeld ?_
 simp only [Act.put, sb1, sz1, ss1]
 refine tkT 4 (some 18) (.pointer (some ⟨w.heap.size, 1, none⟩)) rfl rfl (fun _ _ => rfl) hHeld ?_
 simp only [Act.put, sb1, sz1, ss1]
 refine tkT 5 (some 19) (.string (bs n.s)) rfl rfl (fun wz hz => by obtain ⟨z0, z1, z2, z3⟩ := hz; unfold execOp; go_simp) hHeld ?_
 simp only [Act.put, sb1, sz1, ss1]
 refine tkT 6 (some 20) (.tuple #[.agg #[.string ⟨#[]⟩, .int .i64 0, .slice none 0 0], .bool false]) rfl rfl (fun wz hz => (run_look _ _ rfl hz.2.2.1 e1 hun n.s rfl rfl).trans (by rw [HU.out, HB.out])) hHeld ?_
 simp only [Act.put, sb1, sz1, ss1]
 refine tkT 7 (some 13) (.tuple #[.agg #[.string ⟨#[]⟩, .int .i64 0, .slice none 0 0], .bool false]) rfl rfl (fun _ _ => rfl) hHeld ?_
 simp only [Act.put, sb1, sz1, ss1]
 refine tkT 8 (some 21) (.agg #[.string ⟨#[]⟩, .int .i64 0, .slice none 0 0]) rfl rfl (fun _ _ => rfl) hHeld ?_
 simp only [Act.put, sb1, sz1, ss1]
 refine tkT 9 (some 22) (.bool false) rfl rfl (fun _ _ => rfl) hHeld ?_
 simp only [Act.put, sb1, sz1, ss1]
 have hH2 : (W1.drew.alloc (.cells #[.string ⟨#[]⟩, .int .i64 0, .slice none 0 0] 136)).cell? ⟨cb, 5, none⟩ = some (.map (some V.mb)) ∧ (W1.drew.alloc (.cells #[.string ⟨#[]⟩, .int .i64 0, .slice none 0 0] 136)).cell? ⟨w.heap.size, 1, none⟩ = some (.string (bs n.s)) ∧ (W1.drew.alloc (.cells #[.string ⟨#[]⟩, .int .i64 0, .slice none 0 0] 136)).heap[V.mb]? = some (.map (ents c.names us).toArray c.names.length) ∧ Below W1.heap.size W1 (W1.drew.alloc (.cells #[.string ⟨#[]⟩, .int .i64 0, .slice none 0 0] 136)) := ⟨below_some (b_one W1.drew _) hHeld.1, below_some (b_one W1.drew _) hHeld.2.1, (Below.heap_alloc W1.drew _ V.mb (Array.getElem?_eq_some_iff.1 hmb).1).trans hHeld.2.2.1, hHeld.2.2.2.trans ((b_one W1.drew _))⟩
 refine ready1 10 (by kernel_rfl) (stepVal (some 4) (.pointer (some ⟨W1.heap.size, 0, none⟩)) (W1.drew.alloc (.cells #[.string ⟨#[]⟩, .int .i64 0, .slice none 0 0] 136)) rfl rfl (by rfl) (by kernel_rfl) ⟨hH2, ?_⟩)
 simp only [Act.put, sb1, sz1, ss1]
 have hM2 : Has (W1.drew.alloc (.cells #[.string ⟨#[]⟩, .int .i64 0, .slice none 0 0] 136)) W1.heap.size 136 #[.string ⟨#[]⟩, .int .i64 0, .slice none 0 0] := Has.new_at rfl
 have hBel : Below W1.heap.size W1 ((W1.drew.alloc (.cells #[.string ⟨#[]⟩, .int .i64 0, .slice none 0 0] 136)).setRow W1.heap.size #[.string ⟨#[]⟩, .int .i64 0, .slice none 0 0]) := below_setRow hH2.2.2.2 (Nat.le_refl _) _
 have hH3 : ((W1.drew.alloc (.cells #[.string ⟨#[]⟩, .int .i64 0, .slice none 0 0] 136)).setRow W1.heap.size #[.string ⟨#[]⟩, .int .i64 0, .slice none 0 0]).cell? ⟨cb, 5, none⟩ = some (.map (some V.mb)) ∧ ((W1.drew.alloc (.cells #[.string ⟨#[]⟩, .int .i64 0, .slice none 0 0] 136)).setRow W1.heap.size #[.string ⟨#[]⟩, .int .i64 0, .slice none 0 0]).cell? ⟨w.heap.size, 1, none⟩ = some (.string (bs n.s)) ∧ ((W1.drew.alloc (.cells #[.string ⟨#[]⟩, .int .i64 0, .slice none 0 0] 136)).setRow W1.heap.size #[.string ⟨#[]⟩, .int .i64 0, .slice none 0 0]).heap[V.mb]? = some (.map (ents c.names us).toArray c.names.length) ∧ Below W1.heap.size W1 ((W1.drew.alloc (.cells #[.string ⟨#[]⟩, .int .i64 0, .slice none 0 0] 136)).setRow W1.heap.size #[.string ⟨#[]⟩, .int .i64 0, .slice none 0 0]) := ⟨below_some hBel c5, below_some hBel nc1, (hBel.block V.mb (Array.getElem?_eq_some_iff.1 hmb).1).trans hmb, hBel⟩
 refine ready1 11 (by kernel_rfl) (stepSkip none ((W1.drew.alloc (.cells #[.string ⟨#[]⟩, .int .i64 0, .slice none 0 0] 136)).setRow W1.heap.size #[.string ⟨#[]⟩, .int .i64 0, .slice none 0 0]) rfl rfl (by rfl) (run_store_row 136 _ _ rfl W1.heap.size rfl #[.string ⟨#[]⟩, .int .i64 0, .slice none 0 0] rfl 136 (by kernel_rfl) _ hM2 rfl (by kernel_rfl)) ⟨hH3, ?_⟩)
 simp only [Act.put]
 refine tkT 12 (some 5) (.bool false) rfl rfl (fun _ _ => rfl) hH3 ?_
 simp only [Act.put, sb1, sz1, ss1]
 refine wpAnyH_done (by kernel_rfl) ?_ _
 clear hM2 hH3 hH2 hHeld
 generalize ((W1.drew.alloc (.cells #[.string ⟨#[]⟩, .int .i64 0, .slice none 0 0] 136)).setRow W1.heap.size #[.string ⟨#[]⟩, .int .i64 0, .slice none 0 0]) = W2 at *
 have N2 := N1.below hBel N1.lt
 have b0 := N2.cell 0
 have b1 := N2.cell 1
 have b2 := N2.cell 2
 have b3 := N2.cell 3
 have b4 := N2.cell 4
 have bl := N2.lt
 simp only [ga1, gz1, gs1] at b0 b1 b2 b3 b4
 go_wp2_with (first
  | ((go_at_call 86)
     (refine (need_yes 132 n.a W2).mono ?_)
     (rintro e w3 ⟨rfl, hw3⟩)
     (obtain rfl : W2 = w3 := hw3.symm)))
 have hfc := fun w2 (hb : Below W2.heap.size W2 w2) => HFC.out w2 (hBel.trans (hb.mono hBel.size))
 refine wp_region_held_drew (S := fun wz => Below W2.heap.size W2 wz) (by kernel_rfl) ((Below.refl _ W2).drew) (fun hHeld => ?_)
 refine tkT 0 (some 28) (.pointer (some ⟨cb, 0, none⟩)) rfl rfl (fun _ _ => rfl) hHeld ?_
 simp only [Act.put, sb1, sz1, ss1]
 refine tkT 1 (some 29) (.pointer (some ⟨w.heap.size, 0, none⟩)) rfl rfl (fun _ _ => rfl) hHeld ?_
 simp only [Act.put, sb1, sz1, ss1]
 refine tkT 2 (some 30) (.string (bs n.op)) rfl rfl (fun wz hz => by have z0 := below_some hz b0; unfold execOp; go_simp) hHeld ?_
 simp only [Act.put, sb1, sz1, ss1]
 refine tkT 5 (some 33) (.pointer (some ⟨w.heap.size, 3, none⟩)) rfl rfl (fun _ _ => rfl) hHeld ?_
 simp only [Act.put, sb1, sz1, ss1]
 refine tkT 6 (some 34) (.int .i64 n.a) rfl rfl (fun wz hz => by have z0 := below_some hz b3; unfold execOp; go_simp) hHeld ?_
 simp only [Act.put, sb1, sz1, ss1]
 refine callToP 3 (some 31) 87 #[.pointer (some ⟨cb, 0, none⟩), .string (bs n.op)] (by kernel_rfl) rfl rfl (by rfl) (by kernel_rfl) (hfc _ (below_drew (Below.refl _ W2))) ?_
 rintro e w4 ⟨rfl, hb4'⟩
 have hb4 : Below W2.heap.size W2 w4 := (below_drew (Below.refl _ W2)).trans hb4'
 refine .inl ⟨_, rfl, hb4, ?_⟩
 simp only [Act.put, sb1, sz1, ss1]
 refine tkT 4 (some 32) (.bool false) rfl rfl (fun _ _ => rfl) hb4 ?_
 simp only [Act.put, sb1, sz1, ss1]
 refine callToP 7 (some 35) 86 #[.bool false, .int .i64 137, .int .i64 n.a] (by kernel_rfl) rfl rfl (by rfl) (by kernel_rfl) (need_no 137 n.a w4) ?_
 rintro e w5 ⟨rfl, rfl⟩
 refine .inr ⟨_, rfl, ?_⟩
 exact ⟨rfl, Onl.of ((hb1.trans (hBel.mono hb1.size)).trans (hb4.mono (Nat.le_trans hb1.size hBel.size))), by rw [HR.out]; rfl⟩
theorem st_said {w0 w : World} {cb : Nat} {V : CV} {c : Ck} (h : CkAt E w cb V c) (n : Nd) (A : Option Addr) (C : Nat) (hr : RdN w0 n A C) (hcb : w0.heap.size ≤ cb - 1) (hb0 : Below w0.heap.size w0 w) (hx : StR n) (hnm : NmOk c.names c.parts) (hby : ∀ x ∈ c.names, x.2.bytes.length ≤ 1000) (hdv : c.devs.length ≤ 90000) (hnl : c.names.length ≤ 90000) (ho : n.op ≠ wExport) (hlk : lk c.names n.s = none) (hfu : full c.names n.op = false) : Calls Tryz.prog 52 #[.pointer (some ⟨cb, 0, none⟩), .agg (ndc n (.slice A n.l.length C))] w (CRes E w cb V (cstmt c n)) := by
 obtain ⟨L, hL⟩ : ∃ L, L = n.l.length := ⟨_, rfl⟩
 have HL := hidI hL
 obtain ⟨W1, hW1⟩ : ∃ W1, W1 = w.alloc (.cells #[.string (bs n.op), .string (bs n.s), .int .i64 n.n, .int .i64 n.a, .slice A L C] 24) := ⟨_, rfl⟩
 have hb1 : Below w.heap.size w W1 := by rw [hW1]; exact b_one w _
 have N1 : Has W1 w.heap.size 24 #[.string (bs n.op), .string (bs n.s), .int .i64 n.n, .int .i64 n.a, .slice A L C] := by rw [hW1]; exact Has.new w _ _
 have h1 : CkAt E W1 cb V c := h.keep hb1
 have HW := hidI hW1
 have lcb := h.has.lt
 have hot := bs_toList n.op
 obtain ⟨us, e1, hmb0, hin⟩ := h.nms
 have hmb := (hb1.block V.mb (Array.getElem?_eq_some_iff.1 hmb0).1).trans hmb0
 have hun := h1.uniq
 have c5 := h1.has.cell 5
 have nc1 := N1.cell 1
 simp only [ga1, gz1, gs1] at c5 nc1
 have f0 : (n.op == [101, 120, 112, 111, 114, 116]) = false := by rw [beq_eq_false_iff_ne]; exact ho
 have hR : cstmt c n = match csaid c n with | .error e => .error e | .ok (c1, m) => .ok { c1 with names := c1.names ++ [(n.s, m)] } := by
  unfold cstmt
  rw [if_neg ho, if_neg (by rw [hlk]; decide), if_neg (by rw [hfu]; decide)]
  rfl
 have HU : Hid (lkV c.names us n.s = .agg #[.string ⟨#[]⟩, .int .i64 0, .slice none 0 0]) := lkV_none hlk
 have HB := hidI (show (lk c.names n.s).isSome = false by rw [hlk]; rfl)
 have HFC := hidI (fun w2 (hb : Below W1.heap.size W1 w2) => full_c (h1.keep hb) n.op (by rcases hx.word with e | e | e | e | e | e; exact .inl e; exact .inr (.inl e); exact .inr (.inr (.inl e)); exact .inr (.inr (.inr (.inl e))); exact .inr (.inr (.inr (.inr e))); exact absurd e ho))
 rw [hfu] at HFC
 have HSD := hidI (fun w2 (hb : Below W1.heap.size W1 w2) => said_c (h1.keep hb) n A C hr hcb (hb0.trans ((hb1.trans (hb.mono hb1.size)).mono hb0.size)) hx ho hnm hby hdv)
 have HLK := hidI hlk
 rw [← hL] at HSD ⊢
 clear hin hlk hW1 hL ho hfu
 cases hC : csaid c n with
 | error er =>
   obtain ⟨ec, ek⟩ := er
   rw [hC] at hR HSD
   have HR := hidI hR
   clear hR hC
   unfold ndc at HSD ⊢
   go_enter Tryz.func52, Tryz.ntmps52
   go_wp2
   rw [← HW.out]
   refine wp_region_held_drew (S := fun wz => wz.cell? ⟨cb, 5, none⟩ = some (.map (some V.mb)) ∧ wz.cell? ⟨w.heap.size, 1, none⟩ = some (.string (bs n.s)) ∧ wz.heap[V.mb]? = some (.map (ents c.names us).toArray c.names.length) ∧ Below W1.heap.size W1 wz) (by kernel_rfl) (⟨c5, nc1, hmb, (Below.refl _ W1).drew⟩) (fun hHeld => ?_)
   refine tkT 0 (some 14) (.pointer (some ⟨cb, 0, none⟩)) rfl rfl (fun _ _ => rfl) hHeld ?_
   simp only [Act.put, sb1, sz1, ss1]
   refine tkT 1 (some 15) (.pointer (some ⟨cb, 0, none⟩)) rfl rfl (fun _ _ => rfl) hHeld ?_
   simp only [Act.put, sb1, sz1, ss1]
   refine tkT 2 (some 16) (.pointer (some ⟨cb, 5, none⟩)) rfl rfl (fun _ _ => rfl) hHeld ?_
   simp only [Act.put, sb1, sz1, ss1]
   refine tkT 3 (some 17) (.map (some V.mb)) rfl rfl (fun wz hz => by obtain ⟨z0, z1, z2, z3⟩ := hz; unfold execOp; go_simp) hHeld ?_
   simp only [Act.put, sb1, sz1, ss1]
   refine tkT 4 (some 18) (.pointer (some ⟨w.heap.size, 1, none⟩)) rfl rfl (fun _ _ => rfl) hHeld ?_
   simp only [Act.put, sb1, sz1, ss1]
   refine tkT 5 (some 19) (.string (bs n.s)) rfl rfl (fun wz hz => by obtain ⟨z0, z1, z2, z3⟩ := hz; unfold execOp; go_simp) hHeld ?_
   simp only [Act.put, sb1, sz1, ss1]
   refine tkT 6 (some 20) (.tuple #[.agg #[.string ⟨#[]⟩, .int .i64 0, .slice none 0 0], .bool false]) rfl rfl (fun wz hz => (run_look _ _ rfl hz.2.2.1 e1 hun n.s rfl rfl).trans (by rw [HU.out, HB.out])) hHeld ?_
   simp only [Act.put, sb1, sz1, ss1]
   refine tkT 7 (some 13) (.tuple #[.agg #[.string ⟨#[]⟩, .int .i64 0, .slice none 0 0], .bool false]) rfl rfl (fun _ _ => rfl) hHeld ?_
   simp only [Act.put, sb1, sz1, ss1]
   refine tkT 8 (some 21) (.agg #[.string ⟨#[]⟩, .int .i64 0, .slice none 0 0]) rfl rfl (fun _ _ => rfl) hHeld ?_
   simp only [Act.put, sb1, sz1, ss1]
   refine tkT 9 (some 22) (.bool false) rfl rfl (fun _ _ => rfl) hHeld ?_
   simp only [Act.put, sb1, sz1, ss1]
   have hH2 : (W1.drew.alloc (.cells #[.string ⟨#[]⟩, .int .i64 0, .slice none 0 0] 136)).cell? ⟨cb, 5, none⟩ = some (.map (some V.mb)) ∧ (W1.drew.alloc (.cells #[.string ⟨#[]⟩, .int .i64 0, .slice none 0 0] 136)).cell? ⟨w.heap.size, 1, none⟩ = some (.string (bs n.s)) ∧ (W1.drew.alloc (.cells #[.string ⟨#[]⟩, .int .i64 0, .slice none 0 0] 136)).heap[V.mb]? = some (.map (ents c.names us).toArray c.names.length) ∧ Below W1.heap.size W1 (W1.drew.alloc (.cells #[.string ⟨#[]⟩, .int .i64 0, .slice none 0 0] 136)) := ⟨below_some (b_one W1.drew _) hHeld.1, below_some (b_one W1.drew _) hHeld.2.1, (Below.heap_alloc W1.drew _ V.mb (Array.getElem?_eq_some_iff.1 hmb).1).trans hHeld.2.2.1, hHeld.2.2.2.trans ((b_one W1.drew _))⟩
   refine ready1 10 (by kernel_rfl) (stepVal (some 4) (.pointer (some ⟨W1.heap.size, 0, none⟩)) (W1.drew.alloc (.cells #[.string ⟨#[]⟩, .int .i64 0, .slice none 0 0] 136)) rfl rfl (by rfl) (by kernel_rfl) ⟨hH2, ?_⟩)
   simp only [Act.put, sb1, sz1, ss1]
   have hM2 : Has (W1.drew.alloc (.cells #[.string ⟨#[]⟩, .int .i64 0, .slice none 0 0] 136)) W1.heap.size 136 #[.string ⟨#[]⟩, .int .i64 0, .slice none 0 0] := Has.new_at rfl
   have hBel : Below W1.heap.size W1 ((W1.drew.alloc (.cells #[.string ⟨#[]⟩, .int .i64 0, .slice none 0 0] 136)).setRow W1.heap.size #[.string ⟨#[]⟩, .int .i64 0, .slice none 0 0]) := below_setRow hH2.2.2.2 (Nat.le_refl _) _
   have hH3 : ((W1.drew.alloc (.cells #[.string ⟨#[]⟩, .int .i64 0, .slice none 0 0] 136)).setRow W1.heap.size #[.string ⟨#[]⟩, .int .i64 0, .slice none 0 0]).cell? ⟨cb, 5, none⟩ = some (.map (some V.mb)) ∧ ((W1.drew.alloc (.cells #[.string ⟨#[]⟩, .int .i64 0, .slice none 0 0] 136)).setRow W1.heap.size #[.string ⟨#[]⟩, .int .i64 0, .slice none 0 0]).cell? ⟨w.heap.size, 1, none⟩ = some (.string (bs n.s)) ∧ ((W1.drew.alloc (.cells #[.string ⟨#[]⟩, .int .i64 0, .slice none 0 0] 136)).setRow W1.heap.size #[.string ⟨#[]⟩, .int .i64 0, .slice none 0 0]).heap[V.mb]? = some (.map (ents c.names us).toArray c.names.length) ∧ Below W1.heap.size W1 ((W1.drew.alloc (.cells #[.string ⟨#[]⟩, .int .i64 0, .slice none 0 0] 136)).setRow W1.heap.size #[.string ⟨#[]⟩, .int .i64 0, .slice none 0 0]) := ⟨below_some hBel c5, below_some hBel nc1, (hBel.block V.mb (Array.getElem?_eq_some_iff.1 hmb).1).trans hmb, hBel⟩
   refine ready1 11 (by kernel_rfl) (stepSkip none ((W1.drew.alloc (.cells #[.string ⟨#[]⟩, .int .i64 0, .slice none 0 0] 136)).setRow W1.heap.size #[.string ⟨#[]⟩, .int .i64 0, .slice none 0 0]) rfl rfl (by rfl) (run_store_row 136 _ _ rfl W1.heap.size rfl #[.string ⟨#[]⟩, .int .i64 0, .slice none 0 0] rfl 136 (by kernel_rfl) _ hM2 rfl (by kernel_rfl)) ⟨hH3, ?_⟩)
   simp only [Act.put]
   refine tkT 12 (some 5) (.bool false) rfl rfl (fun _ _ => rfl) hH3 ?_
   simp only [Act.put, sb1, sz1, ss1]
   refine wpAnyH_done (by kernel_rfl) ?_ _
   clear hM2 hH3 hH2 hHeld
   generalize ((W1.drew.alloc (.cells #[.string ⟨#[]⟩, .int .i64 0, .slice none 0 0] 136)).setRow W1.heap.size #[.string ⟨#[]⟩, .int .i64 0, .slice none 0 0]) = W2 at *
   have N2 := N1.below hBel N1.lt
   have b0 := N2.cell 0
   have b1 := N2.cell 1
   have b2 := N2.cell 2
   have b3 := N2.cell 3
   have b4 := N2.cell 4
   have bl := N2.lt
   simp only [ga1, gz1, gs1] at b0 b1 b2 b3 b4
   go_wp2_with (first
    | ((go_at_call 86)
       (refine (need_yes 132 n.a W2).mono ?_)
       (rintro e w3 ⟨rfl, hw3⟩)
       (obtain rfl : W2 = w3 := hw3.symm)))
   have hfc := fun w2 (hb : Below W2.heap.size W2 w2) => HFC.out w2 (hBel.trans (hb.mono hBel.size))
   refine wp_region_held_drew (S := fun wz => Below W2.heap.size W2 wz) (by kernel_rfl) ((Below.refl _ W2).drew) (fun hHeld => ?_)
   refine tkT 0 (some 28) (.pointer (some ⟨cb, 0, none⟩)) rfl rfl (fun _ _ => rfl) hHeld ?_
   simp only [Act.put, sb1, sz1, ss1]
   refine tkT 1 (some 29) (.pointer (some ⟨w.heap.size, 0, none⟩)) rfl rfl (fun _ _ => rfl) hHeld ?_
   simp only [Act.put, sb1, sz1, ss1]
   refine tkT 2 (some 30) (.string (bs n.op)) rfl rfl (fun wz hz => by have z0 := below_some hz b0; unfold execOp; go_simp) hHeld ?_
   simp only [Act.put, sb1, sz1, ss1]
   refine tkT 5 (some 33) (.pointer (some ⟨w.heap.size, 3, none⟩)) rfl rfl (fun _ _ => rfl) hHeld ?_
   simp only [Act.put, sb1, sz1, ss1]
   refine tkT 6 (some 34) (.int .i64 n.a) rfl rfl (fun wz hz => by have z0 := below_some hz b3; unfold execOp; go_simp) hHeld ?_
   simp only [Act.put, sb1, sz1, ss1]
   refine callToP 3 (some 31) 87 #[.pointer (some ⟨cb, 0, none⟩), .string (bs n.op)] (by kernel_rfl) rfl rfl (by rfl) (by kernel_rfl) (hfc _ (below_drew (Below.refl _ W2))) ?_
   rintro e w4 ⟨rfl, hb4'⟩
   have hb4 : Below W2.heap.size W2 w4 := (below_drew (Below.refl _ W2)).trans hb4'
   refine .inl ⟨_, rfl, hb4, ?_⟩
   simp only [Act.put, sb1, sz1, ss1]
   refine tkT 4 (some 32) (.bool true) rfl rfl (fun _ _ => rfl) hb4 ?_
   simp only [Act.put, sb1, sz1, ss1]
   refine callToP 7 (some 35) 86 #[.bool true, .int .i64 137, .int .i64 n.a] (by kernel_rfl) rfl rfl (by rfl) (by kernel_rfl) (need_yes 137 n.a w4) ?_
   rintro e w5 ⟨rfl, hw5⟩
   obtain rfl : w4 = w5 := hw5.symm
   refine .inl ⟨_, rfl, hb4, ?_⟩
   simp only [Act.put, sb1, sz1, ss1]
   refine wpAnyH_done (by kernel_rfl) ?_ _
   have hb14 : Below W1.heap.size W1 w4 := hBel.trans (hb4.mono hBel.size)
   have hsd := HSD.out w4 hb14
   clear b0 b1 b2 b3 b4 bl hfc
   have N2 := N1.below hb14 N1.lt
   have b0 := N2.cell 0
   have b1 := N2.cell 1
   have b2 := N2.cell 2
   have b3 := N2.cell 3
   have b4 := N2.cell 4
   have bl := N2.lt
   simp only [ga1, gz1, gs1] at b0 b1 b2 b3 b4
   go_wp2_with (first
    | ((go_at_call 88)
       (refine hsd.mono ?_)
       (rintro e w5 ⟨ho5, rfl⟩)))
   exact ⟨rfl, (Onl.of (hb1.trans (hb14.mono hb1.size))).trans ho5, by rw [HR.out]⟩
 | ok r =>
   obtain ⟨c1, m⟩ := r
   rw [hC] at hR HSD
   have HR := hidI hR
   have HNM := hidI (csaid_names hC)
   clear hR hC
   unfold ndc at HSD ⊢
   go_enter Tryz.func52, Tryz.ntmps52
   go_wp2
   rw [← HW.out]
   refine wp_region_held_drew (S := fun wz => wz.cell? ⟨cb, 5, none⟩ = some (.map (some V.mb)) ∧ wz.cell? ⟨w.heap.size, 1, none⟩ = some (.string (bs n.s)) ∧ wz.heap[V.mb]? = some (.map (ents c.names us).toArray c.names.length) ∧ Below W1.heap.size W1 wz) (by kernel_rfl) (⟨c5, nc1, hmb, (Below.refl _ W1).drew⟩) (fun hHeld => ?_)
   refine tkT 0 (some 14) (.pointer (some ⟨cb, 0, none⟩)) rfl rfl (fun _ _ => rfl) hHeld ?_
   simp only [Act.put, sb1, sz1, ss1]
   refine tkT 1 (some 15) (.pointer (some ⟨cb, 0, none⟩)) rfl rfl (fun _ _ => rfl) hHeld ?_
   simp only [Act.put, sb1, sz1, ss1]
   refine tkT 2 (some 16) (.pointer (some ⟨cb, 5, none⟩)) rfl rfl (fun _ _ => rfl) hHeld ?_
   simp only [Act.put, sb1, sz1, ss1]
   refine tkT 3 (some 17) (.map (some V.mb)) rfl rfl (fun wz hz => by obtain ⟨z0, z1, z2, z3⟩ := hz; unfold execOp; go_simp) hHeld ?_
   simp only [Act.put, sb1, sz1, ss1]
   refine tkT 4 (some 18) (.pointer (some ⟨w.heap.size, 1, none⟩)) rfl rfl (fun _ _ => rfl) hHeld ?_
   simp only [Act.put, sb1, sz1, ss1]
   refine tkT 5 (some 19) (.string (bs n.s)) rfl rfl (fun wz hz => by obtain ⟨z0, z1, z2, z3⟩ := hz; unfold execOp; go_simp) hHeld ?_
   simp only [Act.put, sb1, sz1, ss1]
   refine tkT 6 (some 20) (.tuple #[.agg #[.string ⟨#[]⟩, .int .i64 0, .slice none 0 0], .bool false]) rfl rfl (fun wz hz => (run_look _ _ rfl hz.2.2.1 e1 hun n.s rfl rfl).trans (by rw [HU.out, HB.out])) hHeld ?_
   simp only [Act.put, sb1, sz1, ss1]
   refine tkT 7 (some 13) (.tuple #[.agg #[.string ⟨#[]⟩, .int .i64 0, .slice none 0 0], .bool false]) rfl rfl (fun _ _ => rfl) hHeld ?_
   simp only [Act.put, sb1, sz1, ss1]
   refine tkT 8 (some 21) (.agg #[.string ⟨#[]⟩, .int .i64 0, .slice none 0 0]) rfl rfl (fun _ _ => rfl) hHeld ?_
   simp only [Act.put, sb1, sz1, ss1]
   refine tkT 9 (some 22) (.bool false) rfl rfl (fun _ _ => rfl) hHeld ?_
   simp only [Act.put, sb1, sz1, ss1]
   have hH2 : (W1.drew.alloc (.cells #[.string ⟨#[]⟩, .int .i64 0, .slice none 0 0] 136)).cell? ⟨cb, 5, none⟩ = some (.map (some V.mb)) ∧ (W1.drew.alloc (.cells #[.string ⟨#[]⟩, .int .i64 0, .slice none 0 0] 136)).cell? ⟨w.heap.size, 1, none⟩ = some (.string (bs n.s)) ∧ (W1.drew.alloc (.cells #[.string ⟨#[]⟩, .int .i64 0, .slice none 0 0] 136)).heap[V.mb]? = some (.map (ents c.names us).toArray c.names.length) ∧ Below W1.heap.size W1 (W1.drew.alloc (.cells #[.string ⟨#[]⟩, .int .i64 0, .slice none 0 0] 136)) := ⟨below_some (b_one W1.drew _) hHeld.1, below_some (b_one W1.drew _) hHeld.2.1, (Below.heap_alloc W1.drew _ V.mb (Array.getElem?_eq_some_iff.1 hmb).1).trans hHeld.2.2.1, hHeld.2.2.2.trans ((b_one W1.drew _))⟩
   refine ready1 10 (by kernel_rfl) (stepVal (some 4) (.pointer (some ⟨W1.heap.size, 0, none⟩)) (W1.drew.alloc (.cells #[.string ⟨#[]⟩, .int .i64 0, .slice none 0 0] 136)) rfl rfl (by rfl) (by kernel_rfl) ⟨hH2, ?_⟩)
   simp only [Act.put, sb1, sz1, ss1]
   have hM2 : Has (W1.drew.alloc (.cells #[.string ⟨#[]⟩, .int .i64 0, .slice none 0 0] 136)) W1.heap.size 136 #[.string ⟨#[]⟩, .int .i64 0, .slice none 0 0] := Has.new_at rfl
   have hBel : Below W1.heap.size W1 ((W1.drew.alloc (.cells #[.string ⟨#[]⟩, .int .i64 0, .slice none 0 0] 136)).setRow W1.heap.size #[.string ⟨#[]⟩, .int .i64 0, .slice none 0 0]) := below_setRow hH2.2.2.2 (Nat.le_refl _) _
   have hH3 : ((W1.drew.alloc (.cells #[.string ⟨#[]⟩, .int .i64 0, .slice none 0 0] 136)).setRow W1.heap.size #[.string ⟨#[]⟩, .int .i64 0, .slice none 0 0]).cell? ⟨cb, 5, none⟩ = some (.map (some V.mb)) ∧ ((W1.drew.alloc (.cells #[.string ⟨#[]⟩, .int .i64 0, .slice none 0 0] 136)).setRow W1.heap.size #[.string ⟨#[]⟩, .int .i64 0, .slice none 0 0]).cell? ⟨w.heap.size, 1, none⟩ = some (.string (bs n.s)) ∧ ((W1.drew.alloc (.cells #[.string ⟨#[]⟩, .int .i64 0, .slice none 0 0] 136)).setRow W1.heap.size #[.string ⟨#[]⟩, .int .i64 0, .slice none 0 0]).heap[V.mb]? = some (.map (ents c.names us).toArray c.names.length) ∧ Below W1.heap.size W1 ((W1.drew.alloc (.cells #[.string ⟨#[]⟩, .int .i64 0, .slice none 0 0] 136)).setRow W1.heap.size #[.string ⟨#[]⟩, .int .i64 0, .slice none 0 0]) := ⟨below_some hBel c5, below_some hBel nc1, (hBel.block V.mb (Array.getElem?_eq_some_iff.1 hmb).1).trans hmb, hBel⟩
   refine ready1 11 (by kernel_rfl) (stepSkip none ((W1.drew.alloc (.cells #[.string ⟨#[]⟩, .int .i64 0, .slice none 0 0] 136)).setRow W1.heap.size #[.string ⟨#[]⟩, .int .i64 0, .slice none 0 0]) rfl rfl (by rfl) (run_store_row 136 _ _ rfl W1.heap.size rfl #[.string ⟨#[]⟩, .int .i64 0, .slice none 0 0] rfl 136 (by kernel_rfl) _ hM2 rfl (by kernel_rfl)) ⟨hH3, ?_⟩)
   simp only [Act.put]
   refine tkT 12 (some 5) (.bool false) rfl rfl (fun _ _ => rfl) hH3 ?_
   simp only [Act.put, sb1, sz1, ss1]
   refine wpAnyH_done (by kernel_rfl) ?_ _
   clear hM2 hH3 hH2 hHeld
   generalize ((W1.drew.alloc (.cells #[.string ⟨#[]⟩, .int .i64 0, .slice none 0 0] 136)).setRow W1.heap.size #[.string ⟨#[]⟩, .int .i64 0, .slice none 0 0]) = W2 at *
   have N2 := N1.below hBel N1.lt
   have b0 := N2.cell 0
   have b1 := N2.cell 1
   have b2 := N2.cell 2
   have b3 := N2.cell 3
   have b4 := N2.cell 4
   have bl := N2.lt
   simp only [ga1, gz1, gs1] at b0 b1 b2 b3 b4
   go_wp2_with (first
    | ((go_at_call 86)
       (refine (need_yes 132 n.a W2).mono ?_)
       (rintro e w3 ⟨rfl, hw3⟩)
       (obtain rfl : W2 = w3 := hw3.symm)))
   have hfc := fun w2 (hb : Below W2.heap.size W2 w2) => HFC.out w2 (hBel.trans (hb.mono hBel.size))
   refine wp_region_held_drew (S := fun wz => Below W2.heap.size W2 wz) (by kernel_rfl) ((Below.refl _ W2).drew) (fun hHeld => ?_)
   refine tkT 0 (some 28) (.pointer (some ⟨cb, 0, none⟩)) rfl rfl (fun _ _ => rfl) hHeld ?_
   simp only [Act.put, sb1, sz1, ss1]
   refine tkT 1 (some 29) (.pointer (some ⟨w.heap.size, 0, none⟩)) rfl rfl (fun _ _ => rfl) hHeld ?_
   simp only [Act.put, sb1, sz1, ss1]
   refine tkT 2 (some 30) (.string (bs n.op)) rfl rfl (fun wz hz => by have z0 := below_some hz b0; unfold execOp; go_simp) hHeld ?_
   simp only [Act.put, sb1, sz1, ss1]
   refine tkT 5 (some 33) (.pointer (some ⟨w.heap.size, 3, none⟩)) rfl rfl (fun _ _ => rfl) hHeld ?_
   simp only [Act.put, sb1, sz1, ss1]
   refine tkT 6 (some 34) (.int .i64 n.a) rfl rfl (fun wz hz => by have z0 := below_some hz b3; unfold execOp; go_simp) hHeld ?_
   simp only [Act.put, sb1, sz1, ss1]
   refine callToP 3 (some 31) 87 #[.pointer (some ⟨cb, 0, none⟩), .string (bs n.op)] (by kernel_rfl) rfl rfl (by rfl) (by kernel_rfl) (hfc _ (below_drew (Below.refl _ W2))) ?_
   rintro e w4 ⟨rfl, hb4'⟩
   have hb4 : Below W2.heap.size W2 w4 := (below_drew (Below.refl _ W2)).trans hb4'
   refine .inl ⟨_, rfl, hb4, ?_⟩
   simp only [Act.put, sb1, sz1, ss1]
   refine tkT 4 (some 32) (.bool true) rfl rfl (fun _ _ => rfl) hb4 ?_
   simp only [Act.put, sb1, sz1, ss1]
   refine callToP 7 (some 35) 86 #[.bool true, .int .i64 137, .int .i64 n.a] (by kernel_rfl) rfl rfl (by rfl) (by kernel_rfl) (need_yes 137 n.a w4) ?_
   rintro e w5 ⟨rfl, hw5⟩
   obtain rfl : w4 = w5 := hw5.symm
   refine .inl ⟨_, rfl, hb4, ?_⟩
   simp only [Act.put, sb1, sz1, ss1]
   refine wpAnyH_done (by kernel_rfl) ?_ _
   have hb14 : Below W1.heap.size W1 w4 := hBel.trans (hb4.mono hBel.size)
   have hsd := HSD.out w4 hb14
   clear b0 b1 b2 b3 b4 bl hfc
   have N2 := N1.below hb14 N1.lt
   have b0 := N2.cell 0
   have b1 := N2.cell 1
   have b2 := N2.cell 2
   have b3 := N2.cell 3
   have b4 := N2.cell 4
   have bl := N2.lt
   simp only [ga1, gz1, gs1] at b0 b1 b2 b3 b4
   have hnn : ¬ V.own cb w.heap.size := fun e => by have := (h.low e).2; omega
   go_wp2_with (first
    | ((go_at_call 88)
       (refine hsd.mono ?_)
       (rintro e w5 ⟨ho5, u, V5, rfl, hu5, H5, S5⟩)
       (obtain ⟨Au, Cu, eu, u1, u2, ub⟩ := hu5.bytes)
       (subst eu)
       (unfold mnv)))
   have N5 : Has w5 w.heap.size 24 #[.string (bs n.op), .string (bs n.s), .int .i64 n.n, .int .i64 n.a, .slice A L C] := (S5.inner _ N2.lt hnn).1.trans N2
   generalize hu : (Value.slice Au m.bytes.length Cu) = u at *
   have hb6 := b_one w5 (.cells #[.string (bs m.word), .int .i64 (m.node : Nat), u] 136)
   have H6 := H5.keep hb6
   have M6 : Has (w5.alloc (.cells #[.string (bs m.word), .int .i64 (m.node : Nat), u] 136)) w5.heap.size 136 #[.string (bs m.word), .int .i64 (m.node : Nat), u] := Has.new _ _ _
   have N6 := N5.alloc (.cells #[.string (bs m.word), .int .i64 (m.node : Nat), u] 136)
   have hu6 := hu5.keep hb6.size (fun k hk hP => ⟨hb6.block k hk, hP⟩)
   have S06 := ((Stp.of (cb := cb) (V := V) (hb1.trans (hb14.mono hb1.size))).trans S5).trans (Stp.of (cb := cb) (V := V5) hb6)
   generalize w5.alloc (.cells #[.string (bs m.word), .int .i64 (m.node : Nat), u] 136) = W6 at *
   have d5 := H6.has.cell 5
   have d1 := N6.cell 1
   simp only [ga1, gz1, gs1] at d5 d1
   obtain ⟨us6, e6, hmb6, hin6⟩ := H6.nms
   have hlk6 : lk c1.names n.s = none := by rw [HNM.out]; exact HLK.out
   refine lastTo (S := fun wz => Below W6.heap.size W6 wz) 7 (by kernel_rfl) ((Below.refl _ W6).drew) (fun hHeld => ?_)
   refine tkL 0 (some 39) (.pointer (some ⟨cb, 0, none⟩)) rfl rfl (fun _ _ => rfl) hHeld ?_
   simp only [Act.put, sb1, sz1, ss1]
   refine tkL 1 (some 40) (.pointer (some ⟨cb, 0, none⟩)) rfl rfl (fun _ _ => rfl) hHeld ?_
   simp only [Act.put, sb1, sz1, ss1]
   refine tkL 2 (some 41) (.pointer (some ⟨cb, 5, none⟩)) rfl rfl (fun _ _ => rfl) hHeld ?_
   simp only [Act.put, sb1, sz1, ss1]
   refine tkL 3 (some 42) (.map (some V5.mb)) rfl rfl (fun wz hz => by have z0 := below_some hz d5; unfold execOp; go_simp) hHeld ?_
   simp only [Act.put, sb1, sz1, ss1]
   refine tkL 4 (some 43) (.pointer (some ⟨w.heap.size, 1, none⟩)) rfl rfl (fun _ _ => rfl) hHeld ?_
   simp only [Act.put, sb1, sz1, ss1]
   refine tkL 5 (some 44) (.string (bs n.s)) rfl rfl (fun wz hz => by have z0 := below_some hz d1; unfold execOp; go_simp) hHeld ?_
   simp only [Act.put, sb1, sz1, ss1]
   refine tkL 6 (some 45) (.agg #[.string (bs m.word), .int .i64 (m.node : Nat), u]) rfl rfl (fun wz hz => run_load_mn _ rfl w5.heap.size rfl wz (M6.below hz M6.lt)) hHeld ?_
   simp only [Act.put, sb1, sz1, ss1]
   have hbd : Below W6.heap.size W6 W6.drew := below_drew (Below.refl _ W6)
   refine lastSkip 7 none (setObj W6.drew V5.mb (.map (ents (c1.names ++ [(n.s, m)]) (us6 ++ [u])).toArray (c1.names.length + 1))) (by kernel_rfl) rfl rfl (by rfl) (run_mapNew _ _ _ rfl (show W6.drew.heap[V5.mb]? = _ from hmb6) e6 H6.uniq n.s m u hlk6 rfl rfl rfl) (by kernel_rfl) ?_
   simp only [Act.put]
   obtain ⟨H7, S7⟩ := (H6.keep hbd).putName e6 hmb6 (fun i a b => (hin6 i a b).keep hbd.size (fun k hk hP => ⟨hbd.block k hk, hP⟩)) n.s m u (lk_none hlk6) (hu6.keep hbd.size (fun k hk hP => ⟨hbd.block k hk, hP⟩)) (by rw [HNM.out]; exact hnl)
   have S07 := S06.trans ((Stp.of (cb := cb) (V := V5) hbd).trans S7)
   go_wp2
   go_end0
   refine ⟨S07.only, ?_⟩
   rw [HR.out]
   exact ⟨rfl, V5, H7.mono (fun g _ _ he => by
    rcases he with he | he
    · exact .inl he
    · exact .inr (by have := hb1.size; have := hb14.size; omega)), S07⟩
theorem statement_c {w0 w : World} {cb : Nat} {V : CV} {c : Ck} (h : CkAt E w cb V c) (n : Nd) (A : Option Addr) (C : Nat) (hr : RdN w0 n A C) (hcb : w0.heap.size ≤ cb - 1) (hb0 : Below w0.heap.size w0 w) (hx : StR n) (hnm : NmOk c.names c.parts) (hby : ∀ x ∈ c.names, x.2.bytes.length ≤ 1000) (hdv : c.devs.length ≤ 90000) (hnl : c.names.length ≤ 90000) : Calls Tryz.prog 52 #[.pointer (some ⟨cb, 0, none⟩), .agg (ndc n (.slice A n.l.length C))] w (CRes E w cb V (cstmt c n)) := by
 by_cases ho : n.op = wExport
 · exact st_export h n A C hr hcb hb0 hx hnm hby hdv hnl ho
 · cases hk : lk c.names n.s with
   | some m => exact st_twice h n A C hr hcb hb0 hx hnm hby hdv hnl ho (by rw [hk]; rfl)
   | none =>
     cases hf : full c.names n.op with
     | true => exact st_full h n A C hr hcb hb0 hx hnm hby hdv hnl ho hk hf
     | false => exact st_said h n A C hr hcb hb0 hx hnm hby hdv hnl ho hk hf
end
end Go.Proofs.YthndifegfmjpbaaGreatDoor
