/- Texts that the statements of this stage share, joined. -/
import Derived.Test.YthndifegfmjpbaaGreatDoorJoint22
namespace Go.Proofs.YthndifegfmjpbaaGreatDoor
set_option linter.unusedVariables false
set_option maxRecDepth 100000
set_option maxHeartbeats 40000000
section
open Go.ChangeShapes Go.WideShapes Go.ChangeAt Go.RowKit Go.MapKept Go.Shelf
variable {E : Nat → Prop}
def AddR (E : Nat → Prop) (w : World) (cb : Nat) (V : CV) (c : Ck) (p : Pt) (e : Ending) (w' : World) : Prop := e = .returned (.int .i64 (c.parts.length : Nat)) ∧ ∃ V', CkAt E w' cb V' { c with parts := c.parts ++ [p] } ∧ Stp cb V w V' w'
theorem run_eqK {o : Oper} {a : Act} (x : Operand) (ho : o.op = .binOp .eql 44 x (.const (.int .i64 8)) 44) (K : Int) (hx : a.eval x = .int .i64 K) (b : Bool) (hb : (K == 8) = b) (w : World) : (execOp a.eval o).run Tryz.prog w = .ok (.value (.bool b)) w := by
 unfold execOp
 simp only [ho, hx]
 subst hb
 go_simp
theorem run_slice_ints {o : Oper} {a : Act} (x : Operand) (ho : o.op = .slice 29 x (some (.const (.int .i64 1))) none none) (b off L cap : Nat) (hx : a.eval x = .slice (some ⟨b, off, none⟩) L cap) (h1 : 1 ≤ L) (h2 : cap ≠ 1) (w : World) :
  (execOp a.eval o).run Tryz.prog w = .ok (.value (.slice (some ⟨b, off + 1, none⟩) (L - 1) (cap - 1))) w := by
 unfold execOp
 simp only [ho, hx, Option.map_some, Option.map_none]
 simp [Act.eval, Instr.sliceAt, Instr.slice, Instr.sliceBounds, Instr.sliceBound, run_underlying Tryz.underlying29, go_sem, asIntOf, h2]
 intro h
 omega
theorem add_plain {w : World} {cb : Nat} {V : CV} {c : Ck} (h : CkAt E w cb V c) (p : Pt) (Ak : Option Addr) (Ck : Nat) (A2 : Option Addr) (C2 : Nat) (A3 : Option Addr) (C3 : Nat) (hu : PtIn w (fun g => ¬ V.own cb g ∧ E g) p (.slice Ak p.kids.length Ck, .slice A2 p.key.length C2, .slice A3 p.root.length C3)) (hkids : ∀ k ∈ p.kids, k < c.parts.length) (hkl : p.kids.length ≤ 1000) (hk5 : p.kind ≠ 5) (hk8 : p.kind ≠ 8) (hfew : c.parts.length ≤ 90000) :
  Calls Tryz.prog 84 #[.pointer (some ⟨cb, 0, none⟩), .agg #[.int .i64 (p.kind : Nat), .int .i64 (p.size : Nat), .slice Ak p.kids.length Ck, .int .i64 (p.dev : Nat), .int .i64 (p.first : Nat), .int .i64 (p.chunk : Nat), .slice A2 p.key.length C2, .slice A3 p.root.length C3]] w (AddR E w cb V c p) := by
 obtain ⟨W2, hW2⟩ : ∃ W2, W2 = (w.alloc (.cells #[.pointer (some ⟨cb, 0, none⟩)] 64)).alloc (.cells #[.int .i64 (p.kind : Nat), .int .i64 (p.size : Nat), .slice Ak p.kids.length Ck, .int .i64 (p.dev : Nat), .int .i64 (p.first : Nat), .int .i64 (p.chunk : Nat), .slice A2 p.key.length C2, .slice A3 p.root.length C3] 47) := ⟨_, rfl⟩
 have hb2 : Below w.heap.size w W2 := by rw [hW2]; exact b_two w _ _
 have bx2 : Has W2 w.heap.size 64 #[.pointer (some ⟨cb, 0, none⟩)] := by rw [hW2]; exact (Has.new w _ _).alloc _
 have px2 : Has W2 (w.heap.size + 1) 47 #[.int .i64 (p.kind : Nat), .int .i64 (p.size : Nat), .slice Ak p.kids.length Ck, .int .i64 (p.dev : Nat), .int .i64 (p.first : Nat), .int .i64 (p.chunk : Nat), .slice A2 p.key.length C2, .slice A3 p.root.length C3] := by rw [hW2]; exact Has.new_at (by simp)
 have h2 : CkAt E W2 cb V c := h.keep hb2
 have hbxn : ¬ V.own cb w.heap.size := fun e => by have := (h.low e).2; omega
 have hpxn : ¬ V.own cb (w.heap.size + 1) := fun e => by have := (h.low e).2; omega
 obtain ⟨Ak', Ck', ek, hkc, hkm, hki⟩ := hu.kids
 cases ek
 have hK8 : (((p.kind : Nat) : Int) == 8) = false := by rw [beq_eq_false_iff_ne]; omega
 have hK5 : (((p.kind : Nat) : Int) == 5) = false := by rw [beq_eq_false_iff_ne]; omega
 have hob : onlyB (onlys c.parts) p = (p.kids.any (fun k => (onlys c.parts).getD k false)) := by
  unfold onlyB
  rw [show (p.kind == 8) = false by rw [beq_eq_false_iff_ne]; exact hk8, show (p.kind == 5) = false by rw [beq_eq_false_iff_ne]; exact hk5]
  simp
 have hany := anyI_c 116 #[.pointer (some ⟨w.heap.size, 0, none⟩)] Ak p.kids.length Ck p.kids (fun k => (onlys c.parts).getD k false) W2 (enters_of Tryz.func116 (by kernel_rfl) rfl) rfl (by omega) _ (hki.keep (Q := fun _ => True) hb2.size (fun k hk hn => ⟨hb2.block k hk, trivial⟩)) (fun i hi W hW => add1_c (h2.keep hW) w.heap.size p.kids[i] (hkids _ (List.getElem_mem hi)) (below_some hW (bx2.cell 0)))
 obtain ⟨B, hB⟩ : ∃ B, p.kids.any (fun k => (onlys c.parts).getD k false) = B := ⟨_, rfl⟩
 rw [hB] at hany hob
 have HOB : Hid (onlyB (onlys c.parts) p = B) := hob
 have HW : Hid (W2 = (w.alloc (.cells #[.pointer (some ⟨cb, 0, none⟩)] 64)).alloc (.cells #[.int .i64 (p.kind : Nat), .int .i64 (p.size : Nat), .slice Ak p.kids.length Ck, .int .i64 (p.dev : Nat), .int .i64 (p.first : Nat), .int .i64 (p.chunk : Nat), .slice A2 p.key.length C2, .slice A3 p.root.length C3] 47)) := hW2
 rw [hW2] at hany
 clear hob hB hW2
 have G2 := h2.g
 go_enter Tryz.func84, Tryz.ntmps84
 go_wp2_with (first
  | ((go_at_call 115)
     (refine hany.mono ?_)
     (rintro e w3 ⟨rfl, hb3⟩)
     (rw [← HW.out] at hb3)))
 have G3 := G2.keep hb3
 have bx3h := bx2.below hb3 bx2.lt
 have px3h := px2.below hb3 px2.lt
 have bx3 := bx3h.cell 0
 have px3 := px3h.cell 0
 have cb6 := G3.has.cell 6
 refine lastTo (S := fun wz => wz.cell? ⟨w.heap.size, 0, none⟩ = some (.pointer (some ⟨cb, 0, none⟩)) ∧ wz.cell? ⟨cb, 6, none⟩ = some V.vb ∧ wz.cell? ⟨w.heap.size + 1, 0, none⟩ = some (.int .i64 (p.kind : Nat))) 15 (by kernel_rfl) (⟨bx3, cb6, px3⟩) (fun hHeld => ?_)
 refine tkL 0 (some 18) (.pointer (some ⟨cb, 0, none⟩)) rfl rfl (fun wz hz => by obtain ⟨z0, z1, z2⟩ := hz; unfold execOp; go_simp) hHeld ?_
 simp only [Act.put, sb1, sz1, ss1]
 refine tkL 1 (some 19) (.pointer (some ⟨cb, 0, none⟩)) rfl rfl (fun wz hz => by obtain ⟨z0, z1, z2⟩ := hz; unfold execOp; go_simp) hHeld ?_
 simp only [Act.put, sb1, sz1, ss1]
 refine tkL 2 (some 20) (.pointer (some ⟨cb, 0, none⟩)) rfl rfl (fun _ _ => rfl) hHeld ?_
 simp only [Act.put, sb1, sz1, ss1]
 refine tkL 3 (some 21) (.pointer (some ⟨cb, 6, none⟩)) rfl rfl (fun _ _ => rfl) hHeld ?_
 simp only [Act.put, sb1, sz1, ss1]
 refine tkL 4 (some 22) (V.vb) rfl rfl (fun wz hz => by obtain ⟨z0, z1, z2⟩ := hz; unfold execOp; go_simp) hHeld ?_
 simp only [Act.put, sb1, sz1, ss1]
 refine tkL 5 (some 23) (.pointer (some ⟨w.heap.size + 1, 0, none⟩)) rfl rfl (fun _ _ => rfl) hHeld ?_
 simp only [Act.put, sb1, sz1, ss1]
 refine tkL 6 (some 24) (.int .i64 (p.kind : Nat)) rfl rfl (fun wz hz => by obtain ⟨z0, z1, z2⟩ := hz; unfold execOp; go_simp) hHeld ?_
 simp only [Act.put, sb1, sz1, ss1]
 refine tkL 7 (some 25) (.bool false) rfl rfl (fun wz hz => run_eqK _ rfl (p.kind : Nat) rfl false hK8 wz) hHeld ?_
 simp only [Act.put, sb1, sz1, ss1]
 refine tkL 8 (some 26) (.bool false) rfl rfl (fun _ _ => rfl) hHeld ?_
 simp only [Act.put, sb1, sz1, ss1]
 refine tkL 9 (some 27) (.bool B) rfl rfl (fun _ _ => rfl) hHeld ?_
 simp only [Act.put, sb1, sz1, ss1]
 refine tkL 10 (some 28) (.bool B) rfl rfl (fun _ _ => by kernel_rfl) hHeld ?_
 simp only [Act.put, sb1, sz1, ss1]
 have hS2 : (w3.drew.alloc (.cells #[.bool B] 4)).cell? ⟨w.heap.size, 0, none⟩ = some (.pointer (some ⟨cb, 0, none⟩)) ∧ (w3.drew.alloc (.cells #[.bool B] 4)).cell? ⟨cb, 6, none⟩ = some V.vb ∧ (w3.drew.alloc (.cells #[.bool B] 4)).cell? ⟨w.heap.size + 1, 0, none⟩ = some (.int .i64 (p.kind : Nat)) := ⟨below_some (b_one w3.drew _) hHeld.1, below_some (b_one w3.drew _) hHeld.2.1, below_some (b_one w3.drew _) hHeld.2.2⟩
 refine valL 11 (some 29) (.slice (some ⟨w3.heap.size, 0, none⟩) 1 1) (w3.drew.alloc (.cells #[.bool B] 4)) (by kernel_rfl) rfl rfl (by rfl) (by kernel_rfl) hS2 ?_
 simp only [Act.put, sb1, sz1, ss1]
 have G3d := (G3.keep (below_drew (Below.refl _ w3))).keep (b_one w3.drew (.cells #[.bool B] 4))
 obtain ⟨A6, C6, w6, hr6, hrow6, hg6, hw6⟩ := append_one kBools (ty := 66) (w3.drew.alloc (.cells #[.bool B] 4)) cb (onlys c.parts).length _ _ G3d.only (by have := G3d.has.lt; omega) (by rw [onlys_len]; have := h.few.1; omega) [.bool B] rfl (by intro u hu; simp at hu; subst hu; rfl) w3.heap.size (Has.new_at rfl)
 obtain ⟨G6, S6⟩ := G3d.putOnly hg6 hrow6 hw6
 have bx6 : Has w6 (w.heap.size) 64 #[.pointer (some ⟨cb, 0, none⟩)] := grown_has ((has_drew bx3h).alloc _) hg6 (fun e => hbxn (.inr (.inr (.inr (.inl e)))))
 have px6 : Has w6 (w.heap.size + 1) 47 #[.int .i64 (p.kind : Nat), .int .i64 (p.size : Nat), .slice Ak p.kids.length Ck, .int .i64 (p.dev : Nat), .int .i64 (p.first : Nat), .int .i64 (p.chunk : Nat), .slice A2 p.key.length C2, .slice A3 p.root.length C3] := grown_has ((has_drew px3h).alloc _) hg6 (fun e => hpxn (.inr (.inr (.inr (.inl e)))))
 have cb6h := grown_has G3d.has hg6 (row_has_ne G3d.only G3d.has (by decide))
 have hS6 : w6.cell? ⟨w.heap.size, 0, none⟩ = some (.pointer (some ⟨cb, 0, none⟩)) ∧ w6.cell? ⟨cb, 6, none⟩ = some V.vb ∧ w6.cell? ⟨w.heap.size + 1, 0, none⟩ = some (.int .i64 (p.kind : Nat)) := ⟨bx6.cell 0, cb6h.cell 6, px6.cell 0⟩
 refine valL 12 (some 30) (.slice A6 ((onlys c.parts).length + 1) C6) w6 (by kernel_rfl) rfl rfl (by rfl) (run_app_is _ _ rfl rfl rfl hr6) hS6 ?_
 simp only [Act.put, sb1, sz1, ss1]
 refine valL 13 (some 31) (.pointer (some ⟨cb, 0, none⟩)) w6 (by kernel_rfl) rfl rfl (by rfl) rfl hS6 ?_
 simp only [Act.put, sb1, sz1, ss1]
 refine valL 14 (some 32) (.pointer (some ⟨cb, 6, none⟩)) w6 (by kernel_rfl) rfl rfl (by rfl) rfl hS6 ?_
 simp only [Act.put, sb1, sz1, ss1]
 have q6 := cb6h.cell 6
 have f6 := cb6h.free 6
 refine lastSkip 15 none (w6.setCell ⟨cb, 6, none⟩ (.slice A6 ((onlys c.parts).length + 1) C6)) (by kernel_rfl) rfl rfl (by rfl) (by unfold execOp; go_simp) (by kernel_rfl) ?_
 simp only [Act.put]
 have hS05 : Stp cb V w { V with vb := .slice A6 ((onlys c.parts).length + 1) C6 } (w6.setCell ⟨cb, 6, none⟩ (.slice A6 ((onlys c.parts).length + 1) C6)) := (Stp.of ((hb2.trans (hb3.mono hb2.size)).trans (((below_drew (Below.refl _ w3)).trans (b_one w3.drew _)).mono (show w.heap.size ≤ w3.heap.size from Nat.le_trans hb2.size hb3.size)))).trans S6
 have HU5 := hu.keep hS05.only.size hS05.innerE
 have bx5 := bx6.other (p := ⟨cb, 6, none⟩) (by show w.heap.size ≠ cb; have := h.has.lt; omega) (.slice A6 ((onlys c.parts).length + 1) C6)
 have px5 := px6.other (p := ⟨cb, 6, none⟩) (by show w.heap.size + 1 ≠ cb; have := h.has.lt; omega) (.slice A6 ((onlys c.parts).length + 1) C6)
 have cb52 := G6.has.cell 2
 generalize w6.setCell ⟨cb, 6, none⟩ (.slice A6 ((onlys c.parts).length + 1) C6) = W5 at G6 hS05 HU5 bx5 px5 cb52 ⊢
 simp only [ga1, gz1, gs1] at cb52
 clear hS6 S6 hr6 hrow6 hg6 hw6 hS2 hHeld
 go_wp2
 refine lastTo (S := fun wz => Has wz w.heap.size 64 #[.pointer (some ⟨cb, 0, none⟩)] ∧ wz.cell? ⟨w.heap.size, 0, none⟩ = some (.pointer (some ⟨cb, 0, none⟩)) ∧ wz.cell? ⟨cb, 2, none⟩ = some V.vp ∧ Has wz (w.heap.size + 1) 47 #[.int .i64 (p.kind : Nat), .int .i64 (p.size : Nat), .slice Ak p.kids.length Ck, .int .i64 (p.dev : Nat), .int .i64 (p.first : Nat), .int .i64 (p.chunk : Nat), .slice A2 p.key.length C2, .slice A3 p.root.length C3]) 12 (by kernel_rfl) (⟨bx5, bx5.cell 0, cb52, px5⟩) (fun hHeld => ?_)
 refine tkL 0 (some 33) (.pointer (some ⟨cb, 0, none⟩)) rfl rfl (fun wz hz => by obtain ⟨z9, z0, z1, z2⟩ := hz; unfold execOp; go_simp) hHeld ?_
 simp only [Act.put, sb1, sz1, ss1]
 refine tkL 1 (some 34) (.pointer (some ⟨cb, 0, none⟩)) rfl rfl (fun wz hz => by obtain ⟨z9, z0, z1, z2⟩ := hz; unfold execOp; go_simp) hHeld ?_
 simp only [Act.put, sb1, sz1, ss1]
 refine tkL 2 (some 35) (.pointer (some ⟨cb, 0, none⟩)) rfl rfl (fun _ _ => rfl) hHeld ?_
 simp only [Act.put, sb1, sz1, ss1]
 refine tkL 3 (some 36) (.pointer (some ⟨cb, 0, none⟩)) rfl rfl (fun _ _ => rfl) hHeld ?_
 simp only [Act.put, sb1, sz1, ss1]
 refine tkL 4 (some 37) (.pointer (some ⟨cb, 2, none⟩)) rfl rfl (fun _ _ => rfl) hHeld ?_
 simp only [Act.put, sb1, sz1, ss1]
 refine tkL 5 (some 38) (V.vp) rfl rfl (fun wz hz => by obtain ⟨z9, z0, z1, z2⟩ := hz; unfold execOp; go_simp) hHeld ?_
 simp only [Act.put, sb1, sz1, ss1]
 refine tkL 6 (some 39) (.agg #[.int .i64 (p.kind : Nat), .int .i64 (p.size : Nat), .slice Ak p.kids.length Ck, .int .i64 (p.dev : Nat), .int .i64 (p.first : Nat), .int .i64 (p.chunk : Nat), .slice A2 p.key.length C2, .slice A3 p.root.length C3]) rfl rfl (fun wz hz => run_load_pt _ rfl (w.heap.size + 1) 0 rfl wz (fun j hj => by rw [Nat.zero_add]; exact hz.2.2.2.cell j)) hHeld ?_
 simp only [Act.put, sb1, sz1, ss1]
 have hT2 : Has (W5.drew.alloc (.cells #[.int .i64 (p.kind : Nat), .int .i64 (p.size : Nat), .slice Ak p.kids.length Ck, .int .i64 (p.dev : Nat), .int .i64 (p.first : Nat), .int .i64 (p.chunk : Nat), .slice A2 p.key.length C2, .slice A3 p.root.length C3] 47)) w.heap.size 64 #[.pointer (some ⟨cb, 0, none⟩)] ∧ (W5.drew.alloc (.cells #[.int .i64 (p.kind : Nat), .int .i64 (p.size : Nat), .slice Ak p.kids.length Ck, .int .i64 (p.dev : Nat), .int .i64 (p.first : Nat), .int .i64 (p.chunk : Nat), .slice A2 p.key.length C2, .slice A3 p.root.length C3] 47)).cell? ⟨w.heap.size, 0, none⟩ = some (.pointer (some ⟨cb, 0, none⟩)) ∧ (W5.drew.alloc (.cells #[.int .i64 (p.kind : Nat), .int .i64 (p.size : Nat), .slice Ak p.kids.length Ck, .int .i64 (p.dev : Nat), .int .i64 (p.first : Nat), .int .i64 (p.chunk : Nat), .slice A2 p.key.length C2, .slice A3 p.root.length C3] 47)).cell? ⟨cb, 2, none⟩ = some V.vp ∧ Has (W5.drew.alloc (.cells #[.int .i64 (p.kind : Nat), .int .i64 (p.size : Nat), .slice Ak p.kids.length Ck, .int .i64 (p.dev : Nat), .int .i64 (p.first : Nat), .int .i64 (p.chunk : Nat), .slice A2 p.key.length C2, .slice A3 p.root.length C3] 47)) (w.heap.size + 1) 47 #[.int .i64 (p.kind : Nat), .int .i64 (p.size : Nat), .slice Ak p.kids.length Ck, .int .i64 (p.dev : Nat), .int .i64 (p.first : Nat), .int .i64 (p.chunk : Nat), .slice A2 p.key.length C2, .slice A3 p.root.length C3] := ⟨(has_drew bx5).alloc _, ((has_drew bx5).alloc _).cell 0, below_some (b_one W5.drew _) hHeld.2.2.1, (has_drew px5).alloc _⟩
 refine valL 7 (some 40) (.slice (some ⟨W5.heap.size, 0, none⟩) 1 1) (W5.drew.alloc (.cells #[.int .i64 (p.kind : Nat), .int .i64 (p.size : Nat), .slice Ak p.kids.length Ck, .int .i64 (p.dev : Nat), .int .i64 (p.first : Nat), .int .i64 (p.chunk : Nat), .slice A2 p.key.length C2, .slice A3 p.root.length C3] 47)) (by kernel_rfl) rfl rfl (by rfl) (by kernel_rfl) hT2 ?_
 simp only [Act.put, sb1, sz1, ss1]
 have hb5 : Below W5.heap.size W5 (W5.drew.alloc (.cells #[.int .i64 (p.kind : Nat), .int .i64 (p.size : Nat), .slice Ak p.kids.length Ck, .int .i64 (p.dev : Nat), .int .i64 (p.first : Nat), .int .i64 (p.chunk : Nat), .slice A2 p.key.length C2, .slice A3 p.root.length C3] 47)) := (below_drew (Below.refl _ W5)).trans (b_one W5.drew _)
 have G5d := G6.keep hb5
 obtain ⟨us, e1, hpr, hpi⟩ := G5d.prts
 obtain ⟨A7, C7, w7, hr7, hrow7, hg7, hw7⟩ := append_one kParts (ty := 30) (W5.drew.alloc (.cells #[.int .i64 (p.kind : Nat), .int .i64 (p.size : Nat), .slice Ak p.kids.length Ck, .int .i64 (p.dev : Nat), .int .i64 (p.first : Nat), .int .i64 (p.chunk : Nat), .slice A2 p.key.length C2, .slice A3 p.root.length C3] 47)) cb c.parts.length _ _ hpr (by have := G5d.has.lt; omega) (by omega) #[.int .i64 (p.kind : Nat), .int .i64 (p.size : Nat), .slice Ak p.kids.length Ck, .int .i64 (p.dev : Nat), .int .i64 (p.first : Nat), .int .i64 (p.chunk : Nat), .slice A2 p.key.length C2, .slice A3 p.root.length C3].toList rfl (by intro u hu; simp at hu; rcases hu with rfl | rfl | rfl | rfl | rfl | rfl | rfl | rfl <;> rfl) W5.heap.size (Has.new_at rfl)
 have hu5 := HU5.keep (Q := fun g => ¬ ({ V with vb := .slice A6 ((onlys c.parts).length + 1) C6 } : CV).own cb g ∧ E g) hb5.size (fun k hk hn => ⟨hb5.block k hk, hn⟩)
 obtain ⟨G7, S7⟩ := G5d.putPart (p := p) e1 hpr hpi hu5 hg7 hrow7 hw7
 have cb7h := grown_has G5d.has hg7 (row_has_ne hpr G5d.has (by decide))
 have bx7 : Has w7 w.heap.size 64 #[.pointer (some ⟨cb, 0, none⟩)] := grown_has ((has_drew bx5).alloc _) hg7 (row_has_ne hpr ((has_drew bx5).alloc _) (by decide))
 have px7 : Has w7 (w.heap.size + 1) 47 #[.int .i64 (p.kind : Nat), .int .i64 (p.size : Nat), .slice Ak p.kids.length Ck, .int .i64 (p.dev : Nat), .int .i64 (p.first : Nat), .int .i64 (p.chunk : Nat), .slice A2 p.key.length C2, .slice A3 p.root.length C3] := grown_has ((has_drew px5).alloc _) hg7 (fun e => hpxn (.inr (.inr (.inl e))))
 have hT7 : Has w7 w.heap.size 64 #[.pointer (some ⟨cb, 0, none⟩)] ∧ w7.cell? ⟨w.heap.size, 0, none⟩ = some (.pointer (some ⟨cb, 0, none⟩)) ∧ w7.cell? ⟨cb, 2, none⟩ = some V.vp ∧ Has w7 (w.heap.size + 1) 47 #[.int .i64 (p.kind : Nat), .int .i64 (p.size : Nat), .slice Ak p.kids.length Ck, .int .i64 (p.dev : Nat), .int .i64 (p.first : Nat), .int .i64 (p.chunk : Nat), .slice A2 p.key.length C2, .slice A3 p.root.length C3] := ⟨bx7, bx7.cell 0, cb7h.cell 2, px7⟩
 refine valL 8 (some 41) (.slice A7 (c.parts.length + 1) C7) w7 (by kernel_rfl) rfl rfl (by rfl) (run_app_is _ _ rfl rfl rfl hr7) hT7 ?_
 simp only [Act.put, sb1, sz1, ss1]
 refine valL 9 (some 42) (.pointer (some ⟨cb, 0, none⟩)) w7 (by kernel_rfl) rfl rfl (by rfl) rfl hT7 ?_
 simp only [Act.put, sb1, sz1, ss1]
 refine valL 10 (some 43) (.pointer (some ⟨cb, 0, none⟩)) w7 (by kernel_rfl) rfl rfl (by rfl) rfl hT7 ?_
 simp only [Act.put, sb1, sz1, ss1]
 refine valL 11 (some 44) (.pointer (some ⟨cb, 2, none⟩)) w7 (by kernel_rfl) rfl rfl (by rfl) rfl hT7 ?_
 simp only [Act.put, sb1, sz1, ss1]
 have q7 := cb7h.cell 2
 have f7 := cb7h.free 2
 refine lastSkip 12 none (w7.setCell ⟨cb, 2, none⟩ (.slice A7 (c.parts.length + 1) C7)) (by kernel_rfl) rfl rfl (by rfl) (by unfold execOp; go_simp) (by kernel_rfl) ?_
 simp only [Act.put]
 have bx8 := (bx7.other (p := ⟨cb, 2, none⟩) (by show w.heap.size ≠ cb; have := h.has.lt; omega) (.slice A7 (c.parts.length + 1) C7)).cell 0
 have bl8 := (bx7.other (p := ⟨cb, 2, none⟩) (by show w.heap.size ≠ cb; have := h.has.lt; omega) (.slice A7 (c.parts.length + 1) C7)).lt
 have cb8 := G7.has.cell 2
 have lc8 := G7.has.lt
 have hfi := hfew
 generalize w7.setCell ⟨cb, 2, none⟩ (.slice A7 (c.parts.length + 1) C7) = W8 at G7 S7 bx8 bl8 cb8 lc8 ⊢
 obtain ⟨L, hL⟩ : ∃ L, L = c.parts.length := ⟨_, rfl⟩
 have HL : Hid (L = c.parts.length) := hL
 simp only [List.getElem?_toArray, List.getElem?_cons_zero, List.getElem?_cons_succ, ← hL] at bx8 cb8
 rw [← hL] at hfi
 clear hL
 go_wp2
 go_ret
 refine ⟨by rw [← HL.out]; rfl, _, G7.at ?_ ?_, hS05.trans ((Stp.of hb5).trans S7)⟩
 · rw [onlys_snoc, HOB.out]
 · simp; omega
theorem add_verity {w : World} {cb : Nat} {V : CV} {c : Ck} (h : CkAt E w cb V c) (p : Pt) (Ak : Option Addr) (Ck : Nat) (A2 : Option Addr) (C2 : Nat) (A3 : Option Addr) (C3 : Nat) (hu : PtIn w (fun g => ¬ V.own cb g ∧ E g) p (.slice Ak p.kids.length Ck, .slice A2 p.key.length C2, .slice A3 p.root.length C3)) (hkids : ∀ k ∈ p.kids, k < c.parts.length) (hkl : p.kids.length ≤ 1000) (hk8 : p.kind = 8) (hfew : c.parts.length ≤ 90000) :
  Calls Tryz.prog 84 #[.pointer (some ⟨cb, 0, none⟩), .agg #[.int .i64 (p.kind : Nat), .int .i64 (p.size : Nat), .slice Ak p.kids.length Ck, .int .i64 (p.dev : Nat), .int .i64 (p.first : Nat), .int .i64 (p.chunk : Nat), .slice A2 p.key.length C2, .slice A3 p.root.length C3]] w (AddR E w cb V c p) := by
 obtain ⟨W2, hW2⟩ : ∃ W2, W2 = (w.alloc (.cells #[.pointer (some ⟨cb, 0, none⟩)] 64)).alloc (.cells #[.int .i64 (p.kind : Nat), .int .i64 (p.size : Nat), .slice Ak p.kids.length Ck, .int .i64 (p.dev : Nat), .int .i64 (p.first : Nat), .int .i64 (p.chunk : Nat), .slice A2 p.key.length C2, .slice A3 p.root.length C3] 47) := ⟨_, rfl⟩
 have hb2 : Below w.heap.size w W2 := by rw [hW2]; exact b_two w _ _
 have bx2 : Has W2 w.heap.size 64 #[.pointer (some ⟨cb, 0, none⟩)] := by rw [hW2]; exact (Has.new w _ _).alloc _
 have px2 : Has W2 (w.heap.size + 1) 47 #[.int .i64 (p.kind : Nat), .int .i64 (p.size : Nat), .slice Ak p.kids.length Ck, .int .i64 (p.dev : Nat), .int .i64 (p.first : Nat), .int .i64 (p.chunk : Nat), .slice A2 p.key.length C2, .slice A3 p.root.length C3] := by rw [hW2]; exact Has.new_at (by simp)
 have h2 : CkAt E W2 cb V c := h.keep hb2
 have hbxn : ¬ V.own cb w.heap.size := fun e => by have := (h.low e).2; omega
 have hpxn : ¬ V.own cb (w.heap.size + 1) := fun e => by have := (h.low e).2; omega
 obtain ⟨Ak', Ck', ek, hkc, hkm, hki⟩ := hu.kids
 cases ek
 have hK8 : (((p.kind : Nat) : Int) == 8) = true := by rw [beq_iff_eq]; omega
 have hK5 : (((p.kind : Nat) : Int) == 5) = false := by rw [beq_eq_false_iff_ne]; omega
 have hob : onlyB (onlys c.parts) p = (true) := by
  unfold onlyB
  rw [hk8]; rfl
 have hany := anyI_c 116 #[.pointer (some ⟨w.heap.size, 0, none⟩)] Ak p.kids.length Ck p.kids (fun k => (onlys c.parts).getD k false) W2 (enters_of Tryz.func116 (by kernel_rfl) rfl) rfl (by omega) _ (hki.keep (Q := fun _ => True) hb2.size (fun k hk hn => ⟨hb2.block k hk, trivial⟩)) (fun i hi W hW => add1_c (h2.keep hW) w.heap.size p.kids[i] (hkids _ (List.getElem_mem hi)) (below_some hW (bx2.cell 0)))
 obtain ⟨B, hB⟩ : ∃ B, p.kids.any (fun k => (onlys c.parts).getD k false) = B := ⟨_, rfl⟩
 rw [hB] at hany
 have HOB : Hid (onlyB (onlys c.parts) p = true) := hob
 have HW : Hid (W2 = (w.alloc (.cells #[.pointer (some ⟨cb, 0, none⟩)] 64)).alloc (.cells #[.int .i64 (p.kind : Nat), .int .i64 (p.size : Nat), .slice Ak p.kids.length Ck, .int .i64 (p.dev : Nat), .int .i64 (p.first : Nat), .int .i64 (p.chunk : Nat), .slice A2 p.key.length C2, .slice A3 p.root.length C3] 47)) := hW2
 rw [hW2] at hany
 clear hob hB hW2 hk8
 have G2 := h2.g
 go_enter Tryz.func84, Tryz.ntmps84
 go_wp2_with (first
  | ((go_at_call 115)
     (refine hany.mono ?_)
     (rintro e w3 ⟨rfl, hb3⟩)
     (rw [← HW.out] at hb3)))
 have G3 := G2.keep hb3
 have bx3h := bx2.below hb3 bx2.lt
 have px3h := px2.below hb3 px2.lt
 have bx3 := bx3h.cell 0
 have px3 := px3h.cell 0
 have cb6 := G3.has.cell 6
 refine lastTo (S := fun wz => wz.cell? ⟨w.heap.size, 0, none⟩ = some (.pointer (some ⟨cb, 0, none⟩)) ∧ wz.cell? ⟨cb, 6, none⟩ = some V.vb ∧ wz.cell? ⟨w.heap.size + 1, 0, none⟩ = some (.int .i64 (p.kind : Nat))) 15 (by kernel_rfl) (⟨bx3, cb6, px3⟩) (fun hHeld => ?_)
 refine tkL 0 (some 18) (.pointer (some ⟨cb, 0, none⟩)) rfl rfl (fun wz hz => by obtain ⟨z0, z1, z2⟩ := hz; unfold execOp; go_simp) hHeld ?_
 simp only [Act.put, sb1, sz1, ss1]
 refine tkL 1 (some 19) (.pointer (some ⟨cb, 0, none⟩)) rfl rfl (fun wz hz => by obtain ⟨z0, z1, z2⟩ := hz; unfold execOp; go_simp) hHeld ?_
 simp only [Act.put, sb1, sz1, ss1]
 refine tkL 2 (some 20) (.pointer (some ⟨cb, 0, none⟩)) rfl rfl (fun _ _ => rfl) hHeld ?_
 simp only [Act.put, sb1, sz1, ss1]
 refine tkL 3 (some 21) (.pointer (some ⟨cb, 6, none⟩)) rfl rfl (fun _ _ => rfl) hHeld ?_
 simp only [Act.put, sb1, sz1, ss1]
 refine tkL 4 (some 22) (V.vb) rfl rfl (fun wz hz => by obtain ⟨z0, z1, z2⟩ := hz; unfold execOp; go_simp) hHeld ?_
 simp only [Act.put, sb1, sz1, ss1]
 refine tkL 5 (some 23) (.pointer (some ⟨w.heap.size + 1, 0, none⟩)) rfl rfl (fun _ _ => rfl) hHeld ?_
 simp only [Act.put, sb1, sz1, ss1]
 refine tkL 6 (some 24) (.int .i64 (p.kind : Nat)) rfl rfl (fun wz hz => by obtain ⟨z0, z1, z2⟩ := hz; unfold execOp; go_simp) hHeld ?_
 simp only [Act.put, sb1, sz1, ss1]
 refine tkL 7 (some 25) (.bool true) rfl rfl (fun wz hz => run_eqK _ rfl (p.kind : Nat) rfl true hK8 wz) hHeld ?_
 simp only [Act.put, sb1, sz1, ss1]
 refine tkL 8 (some 26) (.bool true) rfl rfl (fun _ _ => rfl) hHeld ?_
 simp only [Act.put, sb1, sz1, ss1]
 refine passL 9 (some 27) rfl rfl (by decide) (by kernel_rfl) (by kernel_rfl) (by kernel_rfl) (by kernel_rfl) (fun _ _ _ h => h) (by rfl) hHeld ?_
 simp only [Act.put, sb1, sz1, ss1]
 refine tkL 10 (some 28) (.bool true) rfl rfl (fun _ _ => by kernel_rfl) hHeld ?_
 simp only [Act.put, sb1, sz1, ss1]
 have hS2 : (w3.drew.alloc (.cells #[.bool true] 4)).cell? ⟨w.heap.size, 0, none⟩ = some (.pointer (some ⟨cb, 0, none⟩)) ∧ (w3.drew.alloc (.cells #[.bool true] 4)).cell? ⟨cb, 6, none⟩ = some V.vb ∧ (w3.drew.alloc (.cells #[.bool true] 4)).cell? ⟨w.heap.size + 1, 0, none⟩ = some (.int .i64 (p.kind : Nat)) := ⟨below_some (b_one w3.drew _) hHeld.1, below_some (b_one w3.drew _) hHeld.2.1, below_some (b_one w3.drew _) hHeld.2.2⟩
 refine valL 11 (some 29) (.slice (some ⟨w3.heap.size, 0, none⟩) 1 1) (w3.drew.alloc (.cells #[.bool true] 4)) (by kernel_rfl) rfl rfl (by rfl) (by kernel_rfl) hS2 ?_
 simp only [Act.put, sb1, sz1, ss1]
 have G3d := (G3.keep (below_drew (Below.refl _ w3))).keep (b_one w3.drew (.cells #[.bool true] 4))
 obtain ⟨A6, C6, w6, hr6, hrow6, hg6, hw6⟩ := append_one kBools (ty := 66) (w3.drew.alloc (.cells #[.bool true] 4)) cb (onlys c.parts).length _ _ G3d.only (by have := G3d.has.lt; omega) (by rw [onlys_len]; have := h.few.1; omega) [.bool true] rfl (by intro u hu; simp at hu; subst hu; rfl) w3.heap.size (Has.new_at rfl)
 obtain ⟨G6, S6⟩ := G3d.putOnly hg6 hrow6 hw6
 have bx6 : Has w6 (w.heap.size) 64 #[.pointer (some ⟨cb, 0, none⟩)] := grown_has ((has_drew bx3h).alloc _) hg6 (fun e => hbxn (.inr (.inr (.inr (.inl e)))))
 have px6 : Has w6 (w.heap.size + 1) 47 #[.int .i64 (p.kind : Nat), .int .i64 (p.size : Nat), .slice Ak p.kids.length Ck, .int .i64 (p.dev : Nat), .int .i64 (p.first : Nat), .int .i64 (p.chunk : Nat), .slice A2 p.key.length C2, .slice A3 p.root.length C3] := grown_has ((has_drew px3h).alloc _) hg6 (fun e => hpxn (.inr (.inr (.inr (.inl e)))))
 have cb6h := grown_has G3d.has hg6 (row_has_ne G3d.only G3d.has (by decide))
 have hS6 : w6.cell? ⟨w.heap.size, 0, none⟩ = some (.pointer (some ⟨cb, 0, none⟩)) ∧ w6.cell? ⟨cb, 6, none⟩ = some V.vb ∧ w6.cell? ⟨w.heap.size + 1, 0, none⟩ = some (.int .i64 (p.kind : Nat)) := ⟨bx6.cell 0, cb6h.cell 6, px6.cell 0⟩
 refine valL 12 (some 30) (.slice A6 ((onlys c.parts).length + 1) C6) w6 (by kernel_rfl) rfl rfl (by rfl) (run_app_is _ _ rfl rfl rfl hr6) hS6 ?_
 simp only [Act.put, sb1, sz1, ss1]
 refine valL 13 (some 31) (.pointer (some ⟨cb, 0, none⟩)) w6 (by kernel_rfl) rfl rfl (by rfl) rfl hS6 ?_
 simp only [Act.put, sb1, sz1, ss1]
 refine valL 14 (some 32) (.pointer (some ⟨cb, 6, none⟩)) w6 (by kernel_rfl) rfl rfl (by rfl) rfl hS6 ?_
 simp only [Act.put, sb1, sz1, ss1]
 have q6 := cb6h.cell 6
 have f6 := cb6h.free 6
 refine lastSkip 15 none (w6.setCell ⟨cb, 6, none⟩ (.slice A6 ((onlys c.parts).length + 1) C6)) (by kernel_rfl) rfl rfl (by rfl) (by unfold execOp; go_simp) (by kernel_rfl) ?_
 simp only [Act.put]
 have hS05 : Stp cb V w { V with vb := .slice A6 ((onlys c.parts).length + 1) C6 } (w6.setCell ⟨cb, 6, none⟩ (.slice A6 ((onlys c.parts).length + 1) C6)) := (Stp.of ((hb2.trans (hb3.mono hb2.size)).trans (((below_drew (Below.refl _ w3)).trans (b_one w3.drew _)).mono (show w.heap.size ≤ w3.heap.size from Nat.le_trans hb2.size hb3.size)))).trans S6
 have HU5 := hu.keep hS05.only.size hS05.innerE
 have bx5 := bx6.other (p := ⟨cb, 6, none⟩) (by show w.heap.size ≠ cb; have := h.has.lt; omega) (.slice A6 ((onlys c.parts).length + 1) C6)
 have px5 := px6.other (p := ⟨cb, 6, none⟩) (by show w.heap.size + 1 ≠ cb; have := h.has.lt; omega) (.slice A6 ((onlys c.parts).length + 1) C6)
 have cb52 := G6.has.cell 2
 generalize w6.setCell ⟨cb, 6, none⟩ (.slice A6 ((onlys c.parts).length + 1) C6) = W5 at G6 hS05 HU5 bx5 px5 cb52 ⊢
 simp only [ga1, gz1, gs1] at cb52
 clear hS6 S6 hr6 hrow6 hg6 hw6 hS2 hHeld
 go_wp2
 refine lastTo (S := fun wz => Has wz w.heap.size 64 #[.pointer (some ⟨cb, 0, none⟩)] ∧ wz.cell? ⟨w.heap.size, 0, none⟩ = some (.pointer (some ⟨cb, 0, none⟩)) ∧ wz.cell? ⟨cb, 2, none⟩ = some V.vp ∧ Has wz (w.heap.size + 1) 47 #[.int .i64 (p.kind : Nat), .int .i64 (p.size : Nat), .slice Ak p.kids.length Ck, .int .i64 (p.dev : Nat), .int .i64 (p.first : Nat), .int .i64 (p.chunk : Nat), .slice A2 p.key.length C2, .slice A3 p.root.length C3]) 12 (by kernel_rfl) (⟨bx5, bx5.cell 0, cb52, px5⟩) (fun hHeld => ?_)
 refine tkL 0 (some 33) (.pointer (some ⟨cb, 0, none⟩)) rfl rfl (fun wz hz => by obtain ⟨z9, z0, z1, z2⟩ := hz; unfold execOp; go_simp) hHeld ?_
 simp only [Act.put, sb1, sz1, ss1]
 refine tkL 1 (some 34) (.pointer (some ⟨cb, 0, none⟩)) rfl rfl (fun wz hz => by obtain ⟨z9, z0, z1, z2⟩ := hz; unfold execOp; go_simp) hHeld ?_
 simp only [Act.put, sb1, sz1, ss1]
 refine tkL 2 (some 35) (.pointer (some ⟨cb, 0, none⟩)) rfl rfl (fun _ _ => rfl) hHeld ?_
 simp only [Act.put, sb1, sz1, ss1]
 refine tkL 3 (some 36) (.pointer (some ⟨cb, 0, none⟩)) rfl rfl (fun _ _ => rfl) hHeld ?_
 simp only [Act.put, sb1, sz1, ss1]
 refine tkL 4 (some 37) (.pointer (some ⟨cb, 2, none⟩)) rfl rfl (fun _ _ => rfl) hHeld ?_
 simp only [Act.put, sb1, sz1, ss1]
 refine tkL 5 (some 38) (V.vp) rfl rfl (fun wz hz => by obtain ⟨z9, z0, z1, z2⟩ := hz; unfold execOp; go_simp) hHeld ?_
 simp only [Act.put, sb1, sz1, ss1]
 refine tkL 6 (some 39) (.agg #[.int .i64 (p.kind : Nat), .int .i64 (p.size : Nat), .slice Ak p.kids.length Ck, .int .i64 (p.dev : Nat), .int .i64 (p.first : Nat), .int .i64 (p.chunk : Nat), .slice A2 p.key.length C2, .slice A3 p.root.length C3]) rfl rfl (fun wz hz => run_load_pt _ rfl (w.heap.size + 1) 0 rfl wz (fun j hj => by rw [Nat.zero_add]; exact hz.2.2.2.cell j)) hHeld ?_
 simp only [Act.put, sb1, sz1, ss1]
 have hT2 : Has (W5.drew.alloc (.cells #[.int .i64 (p.kind : Nat), .int .i64 (p.size : Nat), .slice Ak p.kids.length Ck, .int .i64 (p.dev : Nat), .int .i64 (p.first : Nat), .int .i64 (p.chunk : Nat), .slice A2 p.key.length C2, .slice A3 p.root.length C3] 47)) w.heap.size 64 #[.pointer (some ⟨cb, 0, none⟩)] ∧ (W5.drew.alloc (.cells #[.int .i64 (p.kind : Nat), .int .i64 (p.size : Nat), .slice Ak p.kids.length Ck, .int .i64 (p.dev : Nat), .int .i64 (p.first : Nat), .int .i64 (p.chunk : Nat), .slice A2 p.key.length C2, .slice A3 p.root.length C3] 47)).cell? ⟨w.heap.size, 0, none⟩ = some (.pointer (some ⟨cb, 0, none⟩)) ∧ (W5.drew.alloc (.cells #[.int .i64 (p.kind : Nat), .int .i64 (p.size : Nat), .slice Ak p.kids.length Ck, .int .i64 (p.dev : Nat), .int .i64 (p.first : Nat), .int .i64 (p.chunk : Nat), .slice A2 p.key.length C2, .slice A3 p.root.length C3] 47)).cell? ⟨cb, 2, none⟩ = some V.vp ∧ Has (W5.drew.alloc (.cells #[.int .i64 (p.kind : Nat), .int .i64 (p.size : Nat), .slice Ak p.kids.length Ck, .int .i64 (p.dev : Nat), .int .i64 (p.first : Nat), .int .i64 (p.chunk : Nat), .slice A2 p.key.length C2, .slice A3 p.root.length C3] 47)) (w.heap.size + 1) 47 #[.int .i64 (p.kind : Nat), .int .i64 (p.size : Nat), .slice Ak p.kids.length Ck, .int .i64 (p.dev : Nat), .int .i64 (p.first : Nat), .int .i64 (p.chunk : Nat), .slice A2 p.key.length C2, .slice A3 p.root.length C3] := ⟨(has_drew bx5).alloc _, ((has_drew bx5).alloc _).cell 0, below_some (b_one W5.drew _) hHeld.2.2.1, (has_drew px5).alloc _⟩
 refine valL 7 (some 40) (.slice (some ⟨W5.heap.size, 0, none⟩) 1 1) (W5.drew.alloc (.cells #[.int .i64 (p.kind : Nat), .int .i64 (p.size : Nat), .slice Ak p.kids.length Ck, .int .i64 (p.dev : Nat), .int .i64 (p.first : Nat), .int .i64 (p.chunk : Nat), .slice A2 p.key.length C2, .slice A3 p.root.length C3] 47)) (by kernel_rfl) rfl rfl (by rfl) (by kernel_rfl) hT2 ?_
 simp only [Act.put, sb1, sz1, ss1]
 have hb5 : Below W5.heap.size W5 (W5.drew.alloc (.cells #[.int .i64 (p.kind : Nat), .int .i64 (p.size : Nat), .slice Ak p.kids.length Ck, .int .i64 (p.dev : Nat), .int .i64 (p.first : Nat), .int .i64 (p.chunk : Nat), .slice A2 p.key.length C2, .slice A3 p.root.length C3] 47)) := (below_drew (Below.refl _ W5)).trans (b_one W5.drew _)
 have G5d := G6.keep hb5
 obtain ⟨us, e1, hpr, hpi⟩ := G5d.prts
 obtain ⟨A7, C7, w7, hr7, hrow7, hg7, hw7⟩ := append_one kParts (ty := 30) (W5.drew.alloc (.cells #[.int .i64 (p.kind : Nat), .int .i64 (p.size : Nat), .slice Ak p.kids.length Ck, .int .i64 (p.dev : Nat), .int .i64 (p.first : Nat), .int .i64 (p.chunk : Nat), .slice A2 p.key.length C2, .slice A3 p.root.length C3] 47)) cb c.parts.length _ _ hpr (by have := G5d.has.lt; omega) (by omega) #[.int .i64 (p.kind : Nat), .int .i64 (p.size : Nat), .slice Ak p.kids.length Ck, .int .i64 (p.dev : Nat), .int .i64 (p.first : Nat), .int .i64 (p.chunk : Nat), .slice A2 p.key.length C2, .slice A3 p.root.length C3].toList rfl (by intro u hu; simp at hu; rcases hu with rfl | rfl | rfl | rfl | rfl | rfl | rfl | rfl <;> rfl) W5.heap.size (Has.new_at rfl)
 have hu5 := HU5.keep (Q := fun g => ¬ ({ V with vb := .slice A6 ((onlys c.parts).length + 1) C6 } : CV).own cb g ∧ E g) hb5.size (fun k hk hn => ⟨hb5.block k hk, hn⟩)
 obtain ⟨G7, S7⟩ := G5d.putPart (p := p) e1 hpr hpi hu5 hg7 hrow7 hw7
 have cb7h := grown_has G5d.has hg7 (row_has_ne hpr G5d.has (by decide))
 have bx7 : Has w7 w.heap.size 64 #[.pointer (some ⟨cb, 0, none⟩)] := grown_has ((has_drew bx5).alloc _) hg7 (row_has_ne hpr ((has_drew bx5).alloc _) (by decide))
 have px7 : Has w7 (w.heap.size + 1) 47 #[.int .i64 (p.kind : Nat), .int .i64 (p.size : Nat), .slice Ak p.kids.length Ck, .int .i64 (p.dev : Nat), .int .i64 (p.first : Nat), .int .i64 (p.chunk : Nat), .slice A2 p.key.length C2, .slice A3 p.root.length C3] := grown_has ((has_drew px5).alloc _) hg7 (fun e => hpxn (.inr (.inr (.inl e))))
 have hT7 : Has w7 w.heap.size 64 #[.pointer (some ⟨cb, 0, none⟩)] ∧ w7.cell? ⟨w.heap.size, 0, none⟩ = some (.pointer (some ⟨cb, 0, none⟩)) ∧ w7.cell? ⟨cb, 2, none⟩ = some V.vp ∧ Has w7 (w.heap.size + 1) 47 #[.int .i64 (p.kind : Nat), .int .i64 (p.size : Nat), .slice Ak p.kids.length Ck, .int .i64 (p.dev : Nat), .int .i64 (p.first : Nat), .int .i64 (p.chunk : Nat), .slice A2 p.key.length C2, .slice A3 p.root.length C3] := ⟨bx7, bx7.cell 0, cb7h.cell 2, px7⟩
 refine valL 8 (some 41) (.slice A7 (c.parts.length + 1) C7) w7 (by kernel_rfl) rfl rfl (by rfl) (run_app_is _ _ rfl rfl rfl hr7) hT7 ?_
 simp only [Act.put, sb1, sz1, ss1]
 refine valL 9 (some 42) (.pointer (some ⟨cb, 0, none⟩)) w7 (by kernel_rfl) rfl rfl (by rfl) rfl hT7 ?_
 simp only [Act.put, sb1, sz1, ss1]
 refine valL 10 (some 43) (.pointer (some ⟨cb, 0, none⟩)) w7 (by kernel_rfl) rfl rfl (by rfl) rfl hT7 ?_
 simp only [Act.put, sb1, sz1, ss1]
 refine valL 11 (some 44) (.pointer (some ⟨cb, 2, none⟩)) w7 (by kernel_rfl) rfl rfl (by rfl) rfl hT7 ?_
 simp only [Act.put, sb1, sz1, ss1]
 have q7 := cb7h.cell 2
 have f7 := cb7h.free 2
 refine lastSkip 12 none (w7.setCell ⟨cb, 2, none⟩ (.slice A7 (c.parts.length + 1) C7)) (by kernel_rfl) rfl rfl (by rfl) (by unfold execOp; go_simp) (by kernel_rfl) ?_
 simp only [Act.put]
 have bx8 := (bx7.other (p := ⟨cb, 2, none⟩) (by show w.heap.size ≠ cb; have := h.has.lt; omega) (.slice A7 (c.parts.length + 1) C7)).cell 0
 have bl8 := (bx7.other (p := ⟨cb, 2, none⟩) (by show w.heap.size ≠ cb; have := h.has.lt; omega) (.slice A7 (c.parts.length + 1) C7)).lt
 have cb8 := G7.has.cell 2
 have lc8 := G7.has.lt
 have hfi := hfew
 generalize w7.setCell ⟨cb, 2, none⟩ (.slice A7 (c.parts.length + 1) C7) = W8 at G7 S7 bx8 bl8 cb8 lc8 ⊢
 obtain ⟨L, hL⟩ : ∃ L, L = c.parts.length := ⟨_, rfl⟩
 have HL : Hid (L = c.parts.length) := hL
 simp only [List.getElem?_toArray, List.getElem?_cons_zero, List.getElem?_cons_succ, ← hL] at bx8 cb8
 rw [← hL] at hfi
 clear hL
 go_wp2
 go_ret
 refine ⟨by rw [← HL.out]; rfl, _, G7.at ?_ ?_, hS05.trans ((Stp.of hb5).trans S7)⟩
 · rw [onlys_snoc, HOB.out]
 · simp; omega
theorem add_snapshot {w : World} {cb : Nat} {V : CV} {c : Ck} (h : CkAt E w cb V c) (p : Pt) (Ak : Option Addr) (Ck : Nat) (A2 : Option Addr) (C2 : Nat) (A3 : Option Addr) (C3 : Nat) (hu : PtIn w (fun g => ¬ V.own cb g ∧ E g) p (.slice Ak p.kids.length Ck, .slice A2 p.key.length C2, .slice A3 p.root.length C3)) (hkids : ∀ k ∈ p.kids, k < c.parts.length) (hkl : p.kids.length ≤ 1000) (hk5 : p.kind = 5) (hk2 : p.kids.length = 2) (hfew : c.parts.length ≤ 90000) :
  Calls Tryz.prog 84 #[.pointer (some ⟨cb, 0, none⟩), .agg #[.int .i64 (p.kind : Nat), .int .i64 (p.size : Nat), .slice Ak p.kids.length Ck, .int .i64 (p.dev : Nat), .int .i64 (p.first : Nat), .int .i64 (p.chunk : Nat), .slice A2 p.key.length C2, .slice A3 p.root.length C3]] w (AddR E w cb V c p) := by
 obtain ⟨W2, hW2⟩ : ∃ W2, W2 = (w.alloc (.cells #[.pointer (some ⟨cb, 0, none⟩)] 64)).alloc (.cells #[.int .i64 (p.kind : Nat), .int .i64 (p.size : Nat), .slice Ak p.kids.length Ck, .int .i64 (p.dev : Nat), .int .i64 (p.first : Nat), .int .i64 (p.chunk : Nat), .slice A2 p.key.length C2, .slice A3 p.root.length C3] 47) := ⟨_, rfl⟩
 have hb2 : Below w.heap.size w W2 := by rw [hW2]; exact b_two w _ _
 have bx2 : Has W2 w.heap.size 64 #[.pointer (some ⟨cb, 0, none⟩)] := by rw [hW2]; exact (Has.new w _ _).alloc _
 have px2 : Has W2 (w.heap.size + 1) 47 #[.int .i64 (p.kind : Nat), .int .i64 (p.size : Nat), .slice Ak p.kids.length Ck, .int .i64 (p.dev : Nat), .int .i64 (p.first : Nat), .int .i64 (p.chunk : Nat), .slice A2 p.key.length C2, .slice A3 p.root.length C3] := by rw [hW2]; exact Has.new_at (by simp)
 have h2 : CkAt E W2 cb V c := h.keep hb2
 have hbxn : ¬ V.own cb w.heap.size := fun e => by have := (h.low e).2; omega
 have hpxn : ¬ V.own cb (w.heap.size + 1) := fun e => by have := (h.low e).2; omega
 obtain ⟨Ak', Ck', ek, hkc, hkm, hki⟩ := hu.kids
 cases ek
 have hK8 : (((p.kind : Nat) : Int) == 8) = false := by rw [beq_eq_false_iff_ne]; omega
 have hK5 : (((p.kind : Nat) : Int) == 5) = true := by rw [beq_iff_eq]; omega
 have hlk : p.kids.length = 2 := hk2
 obtain ⟨b, o, eA, hbl, hPb, hcl⟩ := hki.resolve_left (by intro e; rw [e] at hlk; simp at hlk)
 have hki' : IntsP W2 (fun _ => True) (some ⟨b, o + 1, none⟩) (p.kids.drop 1) := .inr ⟨b, o + 1, rfl, Nat.lt_of_lt_of_le hbl hb2.size, trivial, fun j hj => by
  have hj' : 1 + j < p.kids.length := by simp at hj; omega
  have := (hb2.cell (p := ⟨b, o + (1 + j), none⟩) hbl).trans (hcl (1 + j) hj')
  rw [List.getElem_drop, show o + 1 + j = o + (1 + j) by omega]
  exact this⟩
 subst eA
 have hl1 : 1 ≤ p.kids.length := by omega
 have hc2 : 2 ≤ Ck := by omega
 have hob : onlyB (onlys c.parts) p = ((p.kids.drop 1).any (fun k => (onlys c.parts).getD k false)) := by
  unfold onlyB
  rw [hk5]; rfl
 have hany := anyI_c 116 #[.pointer (some ⟨w.heap.size, 0, none⟩)] (some ⟨b, o + 1, none⟩) (p.kids.length - 1) (Ck - 1) (p.kids.drop 1) (fun k => (onlys c.parts).getD k false) W2 (enters_of Tryz.func116 (by kernel_rfl) rfl) (by simp) (by omega) _ hki' (fun i hi W hW => add1_c (h2.keep hW) w.heap.size (p.kids.drop 1)[i] (hkids _ (List.mem_of_mem_drop (List.getElem_mem hi))) (below_some hW (bx2.cell 0)))
 obtain ⟨B, hB⟩ : ∃ B, (p.kids.drop 1).any (fun k => (onlys c.parts).getD k false) = B := ⟨_, rfl⟩
 rw [hB] at hany hob
 have HOB : Hid (onlyB (onlys c.parts) p = B) := hob
 have HW : Hid (W2 = (w.alloc (.cells #[.pointer (some ⟨cb, 0, none⟩)] 64)).alloc (.cells #[.int .i64 (p.kind : Nat), .int .i64 (p.size : Nat), .slice (some ⟨b, o, none⟩) p.kids.length Ck, .int .i64 (p.dev : Nat), .int .i64 (p.first : Nat), .int .i64 (p.chunk : Nat), .slice A2 p.key.length C2, .slice A3 p.root.length C3] 47)) := hW2
 rw [hW2] at hany
 clear hob hB hW2 hk5 hk2 hlk
 have G2 := h2.g
 go_enter Tryz.func84, Tryz.ntmps84
 go_wp2_with (first
  | ((refine at_dstL 14 rfl ?_)
     (refine wpList_is (some 14) _ rfl (by rfl) (run_slice_ints _ rfl b o p.kids.length Ck rfl (by omega) (by omega) _) ?_))
  | ((go_at_call 115)
     (refine hany.mono ?_)
     (rintro e w3 ⟨rfl, hb3⟩)
     (rw [← HW.out] at hb3)))
 have G3 := G2.keep hb3
 have bx3h := bx2.below hb3 bx2.lt
 have px3h := px2.below hb3 px2.lt
 have bx3 := bx3h.cell 0
 have px3 := px3h.cell 0
 have cb6 := G3.has.cell 6
 refine lastTo (S := fun wz => wz.cell? ⟨w.heap.size, 0, none⟩ = some (.pointer (some ⟨cb, 0, none⟩)) ∧ wz.cell? ⟨cb, 6, none⟩ = some V.vb ∧ wz.cell? ⟨w.heap.size + 1, 0, none⟩ = some (.int .i64 (p.kind : Nat))) 15 (by kernel_rfl) (⟨bx3, cb6, px3⟩) (fun hHeld => ?_)
 refine tkL 0 (some 18) (.pointer (some ⟨cb, 0, none⟩)) rfl rfl (fun wz hz => by obtain ⟨z0, z1, z2⟩ := hz; unfold execOp; go_simp) hHeld ?_
 simp only [Act.put, sb1, sz1, ss1]
 refine tkL 1 (some 19) (.pointer (some ⟨cb, 0, none⟩)) rfl rfl (fun wz hz => by obtain ⟨z0, z1, z2⟩ := hz; unfold execOp; go_simp) hHeld ?_
 simp only [Act.put, sb1, sz1, ss1]
 refine tkL 2 (some 20) (.pointer (some ⟨cb, 0, none⟩)) rfl rfl (fun _ _ => rfl) hHeld ?_
 simp only [Act.put, sb1, sz1, ss1]
 refine tkL 3 (some 21) (.pointer (some ⟨cb, 6, none⟩)) rfl rfl (fun _ _ => rfl) hHeld ?_
 simp only [Act.put, sb1, sz1, ss1]
 refine tkL 4 (some 22) (V.vb) rfl rfl (fun wz hz => by obtain ⟨z0, z1, z2⟩ := hz; unfold execOp; go_simp) hHeld ?_
 simp only [Act.put, sb1, sz1, ss1]
 refine tkL 5 (some 23) (.pointer (some ⟨w.heap.size + 1, 0, none⟩)) rfl rfl (fun _ _ => rfl) hHeld ?_
 simp only [Act.put, sb1, sz1, ss1]
 refine tkL 6 (some 24) (.int .i64 (p.kind : Nat)) rfl rfl (fun wz hz => by obtain ⟨z0, z1, z2⟩ := hz; unfold execOp; go_simp) hHeld ?_
 simp only [Act.put, sb1, sz1, ss1]
 refine tkL 7 (some 25) (.bool false) rfl rfl (fun wz hz => run_eqK _ rfl (p.kind : Nat) rfl false hK8 wz) hHeld ?_
 simp only [Act.put, sb1, sz1, ss1]
 refine tkL 8 (some 26) (.bool false) rfl rfl (fun _ _ => rfl) hHeld ?_
 simp only [Act.put, sb1, sz1, ss1]
 refine tkL 9 (some 27) (.bool B) rfl rfl (fun _ _ => rfl) hHeld ?_
 simp only [Act.put, sb1, sz1, ss1]
 refine tkL 10 (some 28) (.bool B) rfl rfl (fun _ _ => by kernel_rfl) hHeld ?_
 simp only [Act.put, sb1, sz1, ss1]
 have hS2 : (w3.drew.alloc (.cells #[.bool B] 4)).cell? ⟨w.heap.size, 0, none⟩ = some (.pointer (some ⟨cb, 0, none⟩)) ∧ (w3.drew.alloc (.cells #[.bool B] 4)).cell? ⟨cb, 6, none⟩ = some V.vb ∧ (w3.drew.alloc (.cells #[.bool B] 4)).cell? ⟨w.heap.size + 1, 0, none⟩ = some (.int .i64 (p.kind : Nat)) := ⟨below_some (b_one w3.drew _) hHeld.1, below_some (b_one w3.drew _) hHeld.2.1, below_some (b_one w3.drew _) hHeld.2.2⟩
 refine valL 11 (some 29) (.slice (some ⟨w3.heap.size, 0, none⟩) 1 1) (w3.drew.alloc (.cells #[.bool B] 4)) (by kernel_rfl) rfl rfl (by rfl) (by kernel_rfl) hS2 ?_
 simp only [Act.put, sb1, sz1, ss1]
 have G3d := (G3.keep (below_drew (Below.refl _ w3))).keep (b_one w3.drew (.cells #[.bool B] 4))
 obtain ⟨A6, C6, w6, hr6, hrow6, hg6, hw6⟩ := append_one kBools (ty := 66) (w3.drew.alloc (.cells #[.bool B] 4)) cb (onlys c.parts).length _ _ G3d.only (by have := G3d.has.lt; omega) (by rw [onlys_len]; have := h.few.1; omega) [.bool B] rfl (by intro u hu; simp at hu; subst hu; rfl) w3.heap.size (Has.new_at rfl)
 obtain ⟨G6, S6⟩ := G3d.putOnly hg6 hrow6 hw6
 have bx6 : Has w6 (w.heap.size) 64 #[.pointer (some ⟨cb, 0, none⟩)] := grown_has ((has_drew bx3h).alloc _) hg6 (fun e => hbxn (.inr (.inr (.inr (.inl e)))))
 have px6 : Has w6 (w.heap.size + 1) 47 #[.int .i64 (p.kind : Nat), .int .i64 (p.size : Nat), .slice (some ⟨b, o, none⟩) p.kids.length Ck, .int .i64 (p.dev : Nat), .int .i64 (p.first : Nat), .int .i64 (p.chunk : Nat), .slice A2 p.key.length C2, .slice A3 p.root.length C3] := grown_has ((has_drew px3h).alloc _) hg6 (fun e => hpxn (.inr (.inr (.inr (.inl e)))))
 have cb6h := grown_has G3d.has hg6 (row_has_ne G3d.only G3d.has (by decide))
 have hS6 : w6.cell? ⟨w.heap.size, 0, none⟩ = some (.pointer (some ⟨cb, 0, none⟩)) ∧ w6.cell? ⟨cb, 6, none⟩ = some V.vb ∧ w6.cell? ⟨w.heap.size + 1, 0, none⟩ = some (.int .i64 (p.kind : Nat)) := ⟨bx6.cell 0, cb6h.cell 6, px6.cell 0⟩
 refine valL 12 (some 30) (.slice A6 ((onlys c.parts).length + 1) C6) w6 (by kernel_rfl) rfl rfl (by rfl) (run_app_is _ _ rfl rfl rfl hr6) hS6 ?_
 simp only [Act.put, sb1, sz1, ss1]
 refine valL 13 (some 31) (.pointer (some ⟨cb, 0, none⟩)) w6 (by kernel_rfl) rfl rfl (by rfl) rfl hS6 ?_
 simp only [Act.put, sb1, sz1, ss1]
 refine valL 14 (some 32) (.pointer (some ⟨cb, 6, none⟩)) w6 (by kernel_rfl) rfl rfl (by rfl) rfl hS6 ?_
 simp only [Act.put, sb1, sz1, ss1]
 have q6 := cb6h.cell 6
 have f6 := cb6h.free 6
 refine lastSkip 15 none (w6.setCell ⟨cb, 6, none⟩ (.slice A6 ((onlys c.parts).length + 1) C6)) (by kernel_rfl) rfl rfl (by rfl) (by unfold execOp; go_simp) (by kernel_rfl) ?_
 simp only [Act.put]
 have hS05 : Stp cb V w { V with vb := .slice A6 ((onlys c.parts).length + 1) C6 } (w6.setCell ⟨cb, 6, none⟩ (.slice A6 ((onlys c.parts).length + 1) C6)) := (Stp.of ((hb2.trans (hb3.mono hb2.size)).trans (((below_drew (Below.refl _ w3)).trans (b_one w3.drew _)).mono (show w.heap.size ≤ w3.heap.size from Nat.le_trans hb2.size hb3.size)))).trans S6
 have HU5 := hu.keep hS05.only.size hS05.innerE
 have bx5 := bx6.other (p := ⟨cb, 6, none⟩) (by show w.heap.size ≠ cb; have := h.has.lt; omega) (.slice A6 ((onlys c.parts).length + 1) C6)
 have px5 := px6.other (p := ⟨cb, 6, none⟩) (by show w.heap.size + 1 ≠ cb; have := h.has.lt; omega) (.slice A6 ((onlys c.parts).length + 1) C6)
 have cb52 := G6.has.cell 2
 generalize w6.setCell ⟨cb, 6, none⟩ (.slice A6 ((onlys c.parts).length + 1) C6) = W5 at G6 hS05 HU5 bx5 px5 cb52 ⊢
 simp only [ga1, gz1, gs1] at cb52
 clear hS6 S6 hr6 hrow6 hg6 hw6 hS2 hHeld
 go_wp2
 refine lastTo (S := fun wz => Has wz w.heap.size 64 #[.pointer (some ⟨cb, 0, none⟩)] ∧ wz.cell? ⟨w.heap.size, 0, none⟩ = some (.pointer (some ⟨cb, 0, none⟩)) ∧ wz.cell? ⟨cb, 2, none⟩ = some V.vp ∧ Has wz (w.heap.size + 1) 47 #[.int .i64 (p.kind : Nat), .int .i64 (p.size : Nat), .slice (some ⟨b, o, none⟩) p.kids.length Ck, .int .i64 (p.dev : Nat), .int .i64 (p.first : Nat), .int .i64 (p.chunk : Nat), .slice A2 p.key.length C2, .slice A3 p.root.length C3]) 12 (by kernel_rfl) (⟨bx5, bx5.cell 0, cb52, px5⟩) (fun hHeld => ?_)
 refine tkL 0 (some 33) (.pointer (some ⟨cb, 0, none⟩)) rfl rfl (fun wz hz => by obtain ⟨z9, z0, z1, z2⟩ := hz; unfold execOp; go_simp) hHeld ?_
 simp only [Act.put, sb1, sz1, ss1]
 refine tkL 1 (some 34) (.pointer (some ⟨cb, 0, none⟩)) rfl rfl (fun wz hz => by obtain ⟨z9, z0, z1, z2⟩ := hz; unfold execOp; go_simp) hHeld ?_
 simp only [Act.put, sb1, sz1, ss1]
 refine tkL 2 (some 35) (.pointer (some ⟨cb, 0, none⟩)) rfl rfl (fun _ _ => rfl) hHeld ?_
 simp only [Act.put, sb1, sz1, ss1]
 refine tkL 3 (some 36) (.pointer (some ⟨cb, 0, none⟩)) rfl rfl (fun _ _ => rfl) hHeld ?_
 simp only [Act.put, sb1, sz1, ss1]
 refine tkL 4 (some 37) (.pointer (some ⟨cb, 2, none⟩)) rfl rfl (fun _ _ => rfl) hHeld ?_
 simp only [Act.put, sb1, sz1, ss1]
 refine tkL 5 (some 38) (V.vp) rfl rfl (fun wz hz => by obtain ⟨z9, z0, z1, z2⟩ := hz; unfold execOp; go_simp) hHeld ?_
 simp only [Act.put, sb1, sz1, ss1]
 refine tkL 6 (some 39) (.agg #[.int .i64 (p.kind : Nat), .int .i64 (p.size : Nat), .slice (some ⟨b, o, none⟩) p.kids.length Ck, .int .i64 (p.dev : Nat), .int .i64 (p.first : Nat), .int .i64 (p.chunk : Nat), .slice A2 p.key.length C2, .slice A3 p.root.length C3]) rfl rfl (fun wz hz => run_load_pt _ rfl (w.heap.size + 1) 0 rfl wz (fun j hj => by rw [Nat.zero_add]; exact hz.2.2.2.cell j)) hHeld ?_
 simp only [Act.put, sb1, sz1, ss1]
 have hT2 : Has (W5.drew.alloc (.cells #[.int .i64 (p.kind : Nat), .int .i64 (p.size : Nat), .slice (some ⟨b, o, none⟩) p.kids.length Ck, .int .i64 (p.dev : Nat), .int .i64 (p.first : Nat), .int .i64 (p.chunk : Nat), .slice A2 p.key.length C2, .slice A3 p.root.length C3] 47)) w.heap.size 64 #[.pointer (some ⟨cb, 0, none⟩)] ∧ (W5.drew.alloc (.cells #[.int .i64 (p.kind : Nat), .int .i64 (p.size : Nat), .slice (some ⟨b, o, none⟩) p.kids.length Ck, .int .i64 (p.dev : Nat), .int .i64 (p.first : Nat), .int .i64 (p.chunk : Nat), .slice A2 p.key.length C2, .slice A3 p.root.length C3] 47)).cell? ⟨w.heap.size, 0, none⟩ = some (.pointer (some ⟨cb, 0, none⟩)) ∧ (W5.drew.alloc (.cells #[.int .i64 (p.kind : Nat), .int .i64 (p.size : Nat), .slice (some ⟨b, o, none⟩) p.kids.length Ck, .int .i64 (p.dev : Nat), .int .i64 (p.first : Nat), .int .i64 (p.chunk : Nat), .slice A2 p.key.length C2, .slice A3 p.root.length C3] 47)).cell? ⟨cb, 2, none⟩ = some V.vp ∧ Has (W5.drew.alloc (.cells #[.int .i64 (p.kind : Nat), .int .i64 (p.size : Nat), .slice (some ⟨b, o, none⟩) p.kids.length Ck, .int .i64 (p.dev : Nat), .int .i64 (p.first : Nat), .int .i64 (p.chunk : Nat), .slice A2 p.key.length C2, .slice A3 p.root.length C3] 47)) (w.heap.size + 1) 47 #[.int .i64 (p.kind : Nat), .int .i64 (p.size : Nat), .slice (some ⟨b, o, none⟩) p.kids.length Ck, .int .i64 (p.dev : Nat), .int .i64 (p.first : Nat), .int .i64 (p.chunk : Nat), .slice A2 p.key.length C2, .slice A3 p.root.length C3] := ⟨(has_drew bx5).alloc _, ((has_drew bx5).alloc _).cell 0, below_some (b_one W5.drew _) hHeld.2.2.1, (has_drew px5).alloc _⟩
 refine valL 7 (some 40) (.slice (some ⟨W5.heap.size, 0, none⟩) 1 1) (W5.drew.alloc (.cells #[.int .i64 (p.kind : Nat), .int .i64 (p.size : Nat), .slice (some ⟨b, o, none⟩) p.kids.length Ck, .int .i64 (p.dev : Nat), .int .i64 (p.first : Nat), .int .i64 (p.chunk : Nat), .slice A2 p.key.length C2, .slice A3 p.root.length C3] 47)) (by kernel_rfl) rfl rfl (by rfl) (by kernel_rfl) hT2 ?_
 simp only [Act.put, sb1, sz1, ss1]
 have hb5 : Below W5.heap.size W5 (W5.drew.alloc (.cells #[.int .i64 (p.kind : Nat), .int .i64 (p.size : Nat), .slice (some ⟨b, o, none⟩) p.kids.length Ck, .int .i64 (p.dev : Nat), .int .i64 (p.first : Nat), .int .i64 (p.chunk : Nat), .slice A2 p.key.length C2, .slice A3 p.root.length C3] 47)) := (below_drew (Below.refl _ W5)).trans (b_one W5.drew _)
 have G5d := G6.keep hb5
 obtain ⟨us, e1, hpr, hpi⟩ := G5d.prts
 obtain ⟨A7, C7, w7, hr7, hrow7, hg7, hw7⟩ := append_one kParts (ty := 30) (W5.drew.alloc (.cells #[.int .i64 (p.kind : Nat), .int .i64 (p.size : Nat), .slice (some ⟨b, o, none⟩) p.kids.length Ck, .int .i64 (p.dev : Nat), .int .i64 (p.first : Nat), .int .i64 (p.chunk : Nat), .slice A2 p.key.length C2, .slice A3 p.root.length C3] 47)) cb c.parts.length _ _ hpr (by have := G5d.has.lt; omega) (by omega) #[.int .i64 (p.kind : Nat), .int .i64 (p.size : Nat), .slice (some ⟨b, o, none⟩) p.kids.length Ck, .int .i64 (p.dev : Nat), .int .i64 (p.first : Nat), .int .i64 (p.chunk : Nat), .slice A2 p.key.length C2, .slice A3 p.root.length C3].toList rfl (by intro u hu; simp at hu; rcases hu with rfl | rfl | rfl | rfl | rfl | rfl | rfl | rfl <;> rfl) W5.heap.size (Has.new_at rfl)
 have hu5 := HU5.keep (Q := fun g => ¬ ({ V with vb := .slice A6 ((onlys c.parts).length + 1) C6 } : CV).own cb g ∧ E g) hb5.size (fun k hk hn => ⟨hb5.block k hk, hn⟩)
 obtain ⟨G7, S7⟩ := G5d.putPart (p := p) e1 hpr hpi hu5 hg7 hrow7 hw7
 have cb7h := grown_has G5d.has hg7 (row_has_ne hpr G5d.has (by decide))
 have bx7 : Has w7 w.heap.size 64 #[.pointer (some ⟨cb, 0, none⟩)] := grown_has ((has_drew bx5).alloc _) hg7 (row_has_ne hpr ((has_drew bx5).alloc _) (by decide))
 have px7 : Has w7 (w.heap.size + 1) 47 #[.int .i64 (p.kind : Nat), .int .i64 (p.size : Nat), .slice (some ⟨b, o, none⟩) p.kids.length Ck, .int .i64 (p.dev : Nat), .int .i64 (p.first : Nat), .int .i64 (p.chunk : Nat), .slice A2 p.key.length C2, .slice A3 p.root.length C3] := grown_has ((has_drew px5).alloc _) hg7 (fun e => hpxn (.inr (.inr (.inl e))))
 have hT7 : Has w7 w.heap.size 64 #[.pointer (some ⟨cb, 0, none⟩)] ∧ w7.cell? ⟨w.heap.size, 0, none⟩ = some (.pointer (some ⟨cb, 0, none⟩)) ∧ w7.cell? ⟨cb, 2, none⟩ = some V.vp ∧ Has w7 (w.heap.size + 1) 47 #[.int .i64 (p.kind : Nat), .int .i64 (p.size : Nat), .slice (some ⟨b, o, none⟩) p.kids.length Ck, .int .i64 (p.dev : Nat), .int .i64 (p.first : Nat), .int .i64 (p.chunk : Nat), .slice A2 p.key.length C2, .slice A3 p.root.length C3] := ⟨bx7, bx7.cell 0, cb7h.cell 2, px7⟩
 refine valL 8 (some 41) (.slice A7 (c.parts.length + 1) C7) w7 (by kernel_rfl) rfl rfl (by rfl) (run_app_is _ _ rfl rfl rfl hr7) hT7 ?_
 simp only [Act.put, sb1, sz1, ss1]
 refine valL 9 (some 42) (.pointer (some ⟨cb, 0, none⟩)) w7 (by kernel_rfl) rfl rfl (by rfl) rfl hT7 ?_
 simp only [Act.put, sb1, sz1, ss1]
 refine valL 10 (some 43) (.pointer (some ⟨cb, 0, none⟩)) w7 (by kernel_rfl) rfl rfl (by rfl) rfl hT7 ?_
 simp only [Act.put, sb1, sz1, ss1]
 refine valL 11 (some 44) (.pointer (some ⟨cb, 2, none⟩)) w7 (by kernel_rfl) rfl rfl (by rfl) rfl hT7 ?_
 simp only [Act.put, sb1, sz1, ss1]
 have q7 := cb7h.cell 2
 have f7 := cb7h.free 2
 refine lastSkip 12 none (w7.setCell ⟨cb, 2, none⟩ (.slice A7 (c.parts.length + 1) C7)) (by kernel_rfl) rfl rfl (by rfl) (by unfold execOp; go_simp) (by kernel_rfl) ?_
 simp only [Act.put]
 have bx8 := (bx7.other (p := ⟨cb, 2, none⟩) (by show w.heap.size ≠ cb; have := h.has.lt; omega) (.slice A7 (c.parts.length + 1) C7)).cell 0
 have bl8 := (bx7.other (p := ⟨cb, 2, none⟩) (by show w.heap.size ≠ cb; have := h.has.lt; omega) (.slice A7 (c.parts.length + 1) C7)).lt
 have cb8 := G7.has.cell 2
 have lc8 := G7.has.lt
 have hfi := hfew
 generalize w7.setCell ⟨cb, 2, none⟩ (.slice A7 (c.parts.length + 1) C7) = W8 at G7 S7 bx8 bl8 cb8 lc8 ⊢
 obtain ⟨L, hL⟩ : ∃ L, L = c.parts.length := ⟨_, rfl⟩
 have HL : Hid (L = c.parts.length) := hL
 simp only [List.getElem?_toArray, List.getElem?_cons_zero, List.getElem?_cons_succ, ← hL] at bx8 cb8
 rw [← hL] at hfi
 clear hL
 go_wp2
 go_ret
 refine ⟨by rw [← HL.out]; rfl, _, G7.at ?_ ?_, hS05.trans ((Stp.of hb5).trans S7)⟩
 · rw [onlys_snoc, HOB.out]
 · simp; omega
end
end Go.Proofs.YthndifegfmjpbaaGreatDoor
