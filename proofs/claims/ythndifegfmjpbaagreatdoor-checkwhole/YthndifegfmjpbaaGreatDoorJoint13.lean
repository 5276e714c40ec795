/- Texts that the statements of this stage share, joined. -/
import Derived.Test.YthndifegfmjpbaaGreatDoorJoint12
namespace Go.Proofs.YthndifegfmjpbaaGreatDoor
set_option linter.unusedVariables false
set_option maxRecDepth 100000
set_option maxHeartbeats 40000000
section
open Go.ChangeShapes Go.WideShapes Go.ChangeAt Go.RowKit
theorem rex_Mirror {w : World} {rb : Nat} {A : Option Addr} {C : Nat} {ts : Toks} {i en : Nat} {k : Int} (h : RdrAt w rb A C ts i en 0 k) (hG : Goodt ts) (d N : Nat) (hN : N ≤ 12) (hi : i < ts.length) (hk : ts[i].1.kind = 0) (hs : ts[i].1.s = wMirror)
  (hx : ∀ (w : World) (i : Nat) (bad k : Int), RdrAt w rb A C ts i en bad k → Calls Tryz.prog 48 #[.pointer (some ⟨rb, 0, none⟩), .int .i64 ((N : Int) + 1)] w (RNode w rb A C ts i en bad (pexpr d))) :
  Calls Tryz.prog 48 #[.pointer (some ⟨rb, 0, none⟩), .int .i64 (N : Nat)] w (RNode w rb A C ts i en 0 (pexpr (d + 1))) := by
 have hpx := px_op (d := d) (en := en) hi hk hs (by decide) (by decide)
 have hR := h
 have hlt := h.has.lt
 have hf := h.few
 have hop : ∀ W k, RdrAt W rb A C ts i en 0 k → Calls Tryz.prog 77 #[.pointer (some ⟨rb, 0, none⟩)] W fun e w' => e = .returned (.string ⟨#[109, 105, 114, 114, 111, 114]⟩) ∧ Below W.heap.size W w' := by
  intro W k h
  refine (rop_c h).mono ?_
  rintro e w' ⟨rfl, hb⟩
  refine ⟨?_, hb⟩
  have : firstW OPS (isB 0 ts i) = wMirror := by
   have hb : ∀ s, isB 0 ts i s = (s == wMirror) := by
    intro s
    unfold isB
    rw [comes_at hi]
    unfold isWS
    rw [hk, hs]
    simp only [decide_true, Bool.true_and, beq_self_eq_true, Bool.true_or]
    rw [Bool.eq_iff_iff]
    simp only [beq_iff_eq]
    exact eq_comm
   rw [show isB 0 ts i = fun s => s == wMirror from funext hb]
   decide
  rw [this]
  rfl
 have hpl : ∀ W k, RdrAt W rb A C ts i en 0 k → Calls Tryz.prog 42 #[.pointer (some ⟨rb, 0, none⟩)] W fun e w' => e = .returned (.int .i64 (ts[i].2 : Nat)) ∧ Below W.heap.size W w' := by
  intro W k h
  refine (rplace_c h).mono ?_
  rintro e w' ⟨rfl, q, rfl⟩
  rw [place_at hi]
  exact ⟨rfl, bel_dn (Below.refl _ _) _⟩
 have h0 := h.kp (b_one w (.cells #[.string ⟨#[]⟩, .string ⟨#[]⟩, .int .i64 0, .int .i64 0, .slice none 0 0] 24))
 have hN0 := Has.new w 24 #[.string ⟨#[]⟩, .string ⟨#[]⟩, .int .i64 0, .int .i64 0, .slice none 0 0]
 rw [show (pexpr (d + 1)) = pexpr (d + 1) from rfl]
 have fin : ∀ (e : Ending) (w' : World), RNode w rb A C ts i en 0 (fun _ _ => pexpr (d + 1) en (ts.drop i)) e w' → RNode w rb A C ts i en 0 (pexpr (d + 1)) e w' := fun e w' h => h
 rw [hpx] at fin
 generalize ts[i].2 = at_ at hpl fin
 clear hpx hs hk
 have hi1 : i + 1 ≤ ts.length := by omega
 have hi5 : (i : Int) ≤ 500 := by omega
 go_enter Tryz.func48, Tryz.ntmps48
 go_wp2_with (first
  | ((go_at_call 77)
     (refine (hop _ _ h0).mono ?_)
     (rintro e w1 ⟨rfl, hb1⟩)
     (have h1 := h0.kp hb1)
     (have c1 := h1.has.cell 3)
     (have l1 := h1.has.lt)
     (simp only [ga1, gz1, gs1] at c1))
  | ((go_at_call 42)
     (refine (hpl _ _ h1).mono ?_)
     (rintro e w2 ⟨rfl, hb2⟩)
     (have h2 := h1.kp hb2)
     (have c2 := h2.has.cell 1)
     (have d2 := h2.has.free 1)
     (have l2 := h2.has.lt)
     (simp only [ga1, gz1, gs1] at c2)
     (have N2 := (hN0.below hb1 hN0.lt).below hb2 (hN0.below hb1 hN0.lt).lt)
     (have lp2 := N2.lt)
     (have E3 : ExAt w rb A C ts i en w2.heap.size ⟨#[109, 105, 114, 114, 111, 114]⟩ (at_ : Nat) ((w2.setCell ⟨rb, 1, none⟩ (.int .i64 ((i : Int) + 1))).alloc (.cells #[.string ⟨#[109, 105, 114, 114, 111, 114]⟩, .string ⟨#[]⟩, .int .i64 0, .int .i64 (at_ : Nat), .slice none 0 0] 24)) (i + 1) 0 [] (.slice none 0 0) := ex_start hR hb1 hb2 hi1 hlt)
     (have pq := E3.pq)
     (obtain ⟨k3, h3⟩ := E3.at hR))
  | ((go_at_call 47)
     (refine at_wd ((w2.setCell ⟨rb, 1, none⟩ (.int .i64 ((i : Int) + 1))).alloc (.cells #[.string ⟨#[109, 105, 114, 114, 111, 114]⟩, .string ⟨#[]⟩, .int .i64 0, .int .i64 (at_ : Nat), .slice none 0 0] 24)) ?_)
     (refine (rmust_c h3 [40]).mono ?_)
     (rintro e w4 ⟨rfl, i4, b4, s4, t4, T4⟩)
     (rw [sg_eq hG (by decide)] at T4)
     (have E4 := E3.rst s4)
     (obtain ⟨k4, h4⟩ := Rst.at h3 s4)
     (have z4 := s4.2.2.1.size)
     (have q4 := E4.hq.cell 4)
     (have r4 := E4.hq.lt)
     (have f4 := E4.hq.free 4))
  | ((go_at_call 48)
     (refine at_wd (w4) ?_)
     (refine (hx _ _ _ _ h4).mono ?_)
     (rintro e w5 ⟨i5, b5, x5, A5, C5, rfl, N5, s5, T5, l5⟩)
     (have E5 := E4.rst s5)
     (obtain ⟨k5, h5⟩ := Rst.at h4 s5)
     (have z5 := s5.2.2.1.size)
     (have q5 := E5.hq.cell 4)
     (have r5 := E5.hq.lt)
     (have f5 := E5.hq.free 4)
     (simp only [ndc])
     (have E5a := (E5.alloc (.cells #[.string (bs x5.op), .string (bs x5.s), .int .i64 x5.n, .int .i64 x5.a, .slice A5 x5.l.length C5] 24)).alloc (.cells #[.string (bs x5.op), .string (bs x5.s), .int .i64 x5.n, .int .i64 x5.a, .slice A5 x5.l.length C5] 24))
     (have N5a := (E4.row.apart N5 (by omega)).grow (((Below.refl _ w5).alloc (Nat.le_refl _) (.cells #[.string (bs x5.op), .string (bs x5.s), .int .i64 x5.n, .int .i64 x5.a, .slice A5 x5.l.length C5] 24)).alloc (by simp) (.cells #[.string (bs x5.op), .string (bs x5.s), .int .i64 x5.n, .int .i64 x5.a, .slice A5 x5.l.length C5] 24))))
  | ((refine at_dstL 58 rfl ?_)
     (refine wpList_append_nodes rfl _ _ rfl (w2.heap.size + 1) [] _ rfl E5a.row (by simp; omega) (by decide) [x5] [.slice A5 x5.l.length C5] (by simp) (by simp) rfl (one1 _ _ _) (nd1 N5a) (w5.heap.size + 1) rfl (Has.new_at (by simp)) 1 rfl ?_)
     (intro A6 C6 w6 R6 B6)
     (have E6 := E5a.put R6 B6)
     (have u6 := (E5a.hq.below B6 (by omega)).cell 4)
     (have v6 := (E5a.hq.below B6 (by omega)).free 4)
     (have y6 := (E5a.hq.below B6 (by omega)).lt)
     (obtain ⟨k6, h6⟩ := E6.at hR))
  | ((go_at_call 43)
     (refine at_wd (w6.setCell ⟨w2.heap.size, 4, none⟩ (.slice A6 1 C6)) ?_)
     (refine (ris_any h6 [44]).mono ?_)
     (rintro e w7 ⟨rfl, q7, rfl⟩)
     (have E7 := E6.drewN q7))
  )
 go_loopw [14] (fun z wr => ∃ (ir : Nat) (br : Int) (m : List Nd) (Ar : Option Addr) (Cr : Nat), z = .bool (isB br ts ir [44]) ∧ ExAt w rb A C ts i en w2.heap.size ⟨#[109, 105, 114, 114, 111, 114]⟩ (at_ : Nat) wr ir br (x5 :: m) (.slice Ar (m.length + 1) Cr) ∧ Hid (MoreK (pexpr d) en ts b5 i5 m ir br) ∧ m.length ≤ ir) (fun _ wz => 501 - rpos rb wz)
 case atStart => exact ⟨i5, b5, [], A6, C6, rfl, E7, MoreK.start _ _ _ _ _, Nat.zero_le _⟩
 case round =>
  obtain ⟨ir, br, m, Ar, Cr, rfl, E8, HM, hml⟩ := hrel
  obtain ⟨k8, h8⟩ := E8.at hR
  have l8 := h8.has.lt
  have r8 := E8.hq.lt
  have hw5 : i5 ≤ ts.length := s5.2.1
  cases hc : isB br ts ir [44]
  · have hn := isB_false hc
    have T9 := HM.out.stop (by
     rcases hn with e | e
     · exact .inl e
     · refine .inr ?_
       by_cases hj : ir < ts.length
       · rw [comes_at hj] at e ⊢
         show isSg [44] _ = false
         unfold isSg
         unfold isWS at e
         cases h3 : ts[ir].1.kind == 3 with
         | false => rfl
         | true => rw [h3] at e; simpa using e
       · exact comes_end hj) 501 (by omega)
    have HT9 : Hid (Tell b5 (pmore (pexpr d) 501 en (ts.drop i5)) ts m ir br) := T9
    clear T9 hn HM
    go_wp2_with (first
     | ((go_at_call 47)
        (refine at_wd (wr) ?_)
        (refine (rmust_c h8 [41]).mono ?_)
        (rintro e w10 ⟨rfl, i10, b10, s10, t10, T10⟩)
        (rw [sg_eq hG (by decide)] at T10)
        (have E10 := E8.rst s10)
        (obtain ⟨k10, h10⟩ := Rst.at h8 s10)
        (have z10 := s10.2.2.1.size)
        (have q10 := E10.hq.cell 4)
        (have r10 := E10.hq.lt)
        (have f10 := E10.hq.free 4)
        (have p10 := E10.hp.lt)
        (have ca0 := E10.hp.cell 0)
        (have ca1 := E10.hp.cell 1)
        (have ca2 := E10.hp.cell 2)
        (have ca3 := E10.hp.cell 3)
        (have ca4 := E10.hp.cell 4)
        (have fa0 := E10.hp.free 0)
        (have fa1 := E10.hp.free 1)
        (have fa2 := E10.hp.free 2)
        (have fa3 := E10.hp.free 3)
        (have fa4 := E10.hp.free 4)
        (have cb0 := E10.hq.cell 0)
        (have cb1 := E10.hq.cell 1)
        (have cb2 := E10.hq.cell 2)
        (have cb3 := E10.hq.cell 3)
        (have cb4 := E10.hq.cell 4))
     )
    refine ret_node rfl rfl (E10.hp.set5 _ _ _ _ _) rfl (fin _ _ ?_)
    refine ⟨i10, b10, .mk wMirror [] 0 (at_ : Nat) (x5 :: m), Ar, Cr, rfl, ?_, Rst.set5 E10.st (Nat.le_refl _) hlt _ _ _ _ _, (tell_parm (l := [x5]) rfl T4 (tell_k1 T5) HT9.out T10).map (fun l => Nd.mk wMirror [] 0 (at_ : Nat) l), by show m.length + 1 ≤ 501; have := h8.le; omega⟩
    exact (E10.row.done.mono fun g hg => (by omega : w.heap.size ≤ g ∧ g ≠ w.heap.size)).set5 (fun g hg => hg.2) _ _ _ _ _ |>.mono fun g hg => hg.1
  · obtain ⟨rfl, hj, hp⟩ := isB_true hc
    have E9 := E8.step hj
    obtain ⟨k9, h9⟩ := E9.at hR
    have c8 := h8.has.cell 1
    have d8 := h8.has.free 1
    simp only [ga1, gz1, gs1] at c8
    have hcm : cmm ts[ir].1 = true := by
     show isSg [44] _ = true
     have e := sg_eq hG (c := 44) (by decide) en ir
     rw [List.drop_eq_getElem_cons hj] at e
     simp only [ptake] at e
     rw [if_pos hp] at e
     cases h4 : isSg [44] ts[ir].1 with
     | true => rfl
     | false => rw [h4] at e; cases e
    have HC : Hid (cmm ts[ir].1 = true) := hcm
    have hf5 := hR.few
    have hir : (ir : Int) ≤ 500 := by omega
    have hml2 : m.length ≤ 500 := by omega
    have hE8 := E8.pos
    have HE8 : Hid (rpos rb wr = ir) := hE8
    clear hcm hp hE8
    obtain ⟨M, hM⟩ : ∃ M, M = m.length + 1 := ⟨_, rfl⟩
    have HMM : Hid (M = m.length + 1) := hM
    rw [← hM] at E8 E9
    clear hM
    go_wp2_with (first
     | ((go_at_call 48)
        (refine at_wd (wr.setCell ⟨rb, 1, none⟩ (.int .i64 ((ir : Int) + 1))) ?_)
        (refine (hx _ _ _ _ h9).mono ?_)
        (rintro e w10 ⟨i10, b10, x10, A10, C10, rfl, N10, s10, T10, l10⟩)
        (have E10 := E9.rst s10)
        (obtain ⟨k10, h10⟩ := Rst.at h9 s10)
        (have z10 := s10.2.2.1.size)
        (have q10 := E10.hq.cell 4)
        (have r10 := E10.hq.lt)
        (have f10 := E10.hq.free 4)
        (simp only [ndc])
        (have E10a := (E10.alloc (.cells #[.string (bs x10.op), .string (bs x10.s), .int .i64 x10.n, .int .i64 x10.a, .slice A10 x10.l.length C10] 24)).alloc (.cells #[.string (bs x10.op), .string (bs x10.s), .int .i64 x10.n, .int .i64 x10.a, .slice A10 x10.l.length C10] 24))
        (have N10a := (E9.row.apart N10 (by simp; omega)).grow (((Below.refl _ w10).alloc (Nat.le_refl _) (.cells #[.string (bs x10.op), .string (bs x10.s), .int .i64 x10.n, .int .i64 x10.a, .slice A10 x10.l.length C10] 24)).alloc (by simp) (.cells #[.string (bs x10.op), .string (bs x10.s), .int .i64 x10.n, .int .i64 x10.a, .slice A10 x10.l.length C10] 24))))
     | ((refine at_dstL 79 rfl ?_)
        (refine wpList_append_nodes rfl _ _ rfl (w2.heap.size + 1) (x5 :: m) _ rfl E10a.row (by simp; omega) (by simp; omega) [x10] [.slice A10 x10.l.length C10] (by simp) (by simp) rfl (one1 _ _ _) (nd1 N10a) (w10.heap.size + 1) rfl (Has.new_at (by simp)) (M + 1) (by rw [HMM.out]; simp) ?_)
        (intro A11 C11 w11 R11 B11)
        (have E11 := E10a.put R11 B11)
        (have u11 := (E10a.hq.below B11 (by omega)).cell 4)
        (have v11 := (E10a.hq.below B11 (by omega)).free 4)
        (have y11 := (E10a.hq.below B11 (by omega)).lt)
        (obtain ⟨k11, h11⟩ := E11.at hR))
     | ((go_at_call 43)
        (refine (ris_any h11 [44]).mono ?_)
        (rintro e w12 ⟨rfl, q12, rfl⟩)))
    go_roundw
    case rel =>
     refine ⟨i10, b10, m ++ [x10], A11, C11, rfl, ?_, HM.out.next hj HC.out T10 s10.1, ?_⟩
     · have e : M + 1 = (m ++ [x10]).length + 1 := by rw [HMM.out]; simp
       rw [← e]
       exact E11.drewN q12
     · have := s10.1
       simp
       omega
    case measure =>
     have e1 := (E11.drewN q12).pos
     have e2 := HE8.out
     have := s10.1
     rw [e1, e2]
     omega
end
section
open Go.ChangeShapes Go.WideShapes Go.ChangeAt Go.RowKit
theorem rex_Snapshot {w : World} {rb : Nat} {A : Option Addr} {C : Nat} {ts : Toks} {i en : Nat} {k : Int} (h : RdrAt w rb A C ts i en 0 k) (hG : Goodt ts) (d N : Nat) (hN : N ≤ 12) (hi : i < ts.length) (hk : ts[i].1.kind = 0) (hs : ts[i].1.s = wSnapshot)
  (hx : ∀ (w : World) (i : Nat) (bad k : Int), RdrAt w rb A C ts i en bad k → Calls Tryz.prog 48 #[.pointer (some ⟨rb, 0, none⟩), .int .i64 ((N : Int) + 1)] w (RNode w rb A C ts i en bad (pexpr d))) :
  Calls Tryz.prog 48 #[.pointer (some ⟨rb, 0, none⟩), .int .i64 (N : Nat)] w (RNode w rb A C ts i en 0 (pexpr (d + 1))) := by
 have hpx := px_op (d := d) (en := en) hi hk hs (by decide) (by decide)
 have hR := h
 have hlt := h.has.lt
 have hf := h.few
 have hop : ∀ W k, RdrAt W rb A C ts i en 0 k → Calls Tryz.prog 77 #[.pointer (some ⟨rb, 0, none⟩)] W fun e w' => e = .returned (.string ⟨#[115, 110, 97, 112, 115, 104, 111, 116]⟩) ∧ Below W.heap.size W w' := by
  intro W k h
  refine (rop_c h).mono ?_
  rintro e w' ⟨rfl, hb⟩
  refine ⟨?_, hb⟩
  have : firstW OPS (isB 0 ts i) = wSnapshot := by
   have hb : ∀ s, isB 0 ts i s = (s == wSnapshot) := by
    intro s
    unfold isB
    rw [comes_at hi]
    unfold isWS
    rw [hk, hs]
    simp only [decide_true, Bool.true_and, beq_self_eq_true, Bool.true_or]
    rw [Bool.eq_iff_iff]
    simp only [beq_iff_eq]
    exact eq_comm
   rw [show isB 0 ts i = fun s => s == wSnapshot from funext hb]
   decide
  rw [this]
  rfl
 have hpl : ∀ W k, RdrAt W rb A C ts i en 0 k → Calls Tryz.prog 42 #[.pointer (some ⟨rb, 0, none⟩)] W fun e w' => e = .returned (.int .i64 (ts[i].2 : Nat)) ∧ Below W.heap.size W w' := by
  intro W k h
  refine (rplace_c h).mono ?_
  rintro e w' ⟨rfl, q, rfl⟩
  rw [place_at hi]
  exact ⟨rfl, bel_dn (Below.refl _ _) _⟩
 have h0 := h.kp (b_one w (.cells #[.string ⟨#[]⟩, .string ⟨#[]⟩, .int .i64 0, .int .i64 0, .slice none 0 0] 24))
 have hN0 := Has.new w 24 #[.string ⟨#[]⟩, .string ⟨#[]⟩, .int .i64 0, .int .i64 0, .slice none 0 0]
 rw [show (pexpr (d + 1)) = pexpr (d + 1) from rfl]
 have fin : ∀ (e : Ending) (w' : World), RNode w rb A C ts i en 0 (fun _ _ => pexpr (d + 1) en (ts.drop i)) e w' → RNode w rb A C ts i en 0 (pexpr (d + 1)) e w' := fun e w' h => h
 rw [hpx] at fin
 generalize ts[i].2 = at_ at hpl fin
 clear hpx hs hk
 have hi1 : i + 1 ≤ ts.length := by omega
 have hi5 : (i : Int) ≤ 500 := by omega
 go_enter Tryz.func48, Tryz.ntmps48
 go_wp2_with (first
  | ((go_at_call 77)
     (refine (hop _ _ h0).mono ?_)
     (rintro e w1 ⟨rfl, hb1⟩)
     (have h1 := h0.kp hb1)
     (have c1 := h1.has.cell 3)
     (have l1 := h1.has.lt)
     (simp only [ga1, gz1, gs1] at c1))
  | ((go_at_call 42)
     (refine (hpl _ _ h1).mono ?_)
     (rintro e w2 ⟨rfl, hb2⟩)
     (have h2 := h1.kp hb2)
     (have c2 := h2.has.cell 1)
     (have d2 := h2.has.free 1)
     (have l2 := h2.has.lt)
     (simp only [ga1, gz1, gs1] at c2)
     (have N2 := (hN0.below hb1 hN0.lt).below hb2 (hN0.below hb1 hN0.lt).lt)
     (have lp2 := N2.lt)
     (have E3 : ExAt w rb A C ts i en w2.heap.size ⟨#[115, 110, 97, 112, 115, 104, 111, 116]⟩ (at_ : Nat) ((w2.setCell ⟨rb, 1, none⟩ (.int .i64 ((i : Int) + 1))).alloc (.cells #[.string ⟨#[115, 110, 97, 112, 115, 104, 111, 116]⟩, .string ⟨#[]⟩, .int .i64 0, .int .i64 (at_ : Nat), .slice none 0 0] 24)) (i + 1) 0 [] (.slice none 0 0) := ex_start hR hb1 hb2 hi1 hlt)
     (have pq := E3.pq)
     (obtain ⟨k3, h3⟩ := E3.at hR))
  | ((go_at_call 47)
     (refine at_wd ((w2.setCell ⟨rb, 1, none⟩ (.int .i64 ((i : Int) + 1))).alloc (.cells #[.string ⟨#[115, 110, 97, 112, 115, 104, 111, 116]⟩, .string ⟨#[]⟩, .int .i64 0, .int .i64 (at_ : Nat), .slice none 0 0] 24)) ?_)
     (refine (rmust_c h3 [40]).mono ?_)
     (rintro e w4 ⟨rfl, i4, b4, s4, t4, T4⟩)
     (rw [sg_eq hG (by decide)] at T4)
     (have E4 := E3.rst s4)
     (obtain ⟨k4, h4⟩ := Rst.at h3 s4)
     (have z4 := s4.2.2.1.size)
     (have q4 := E4.hq.cell 4)
     (have r4 := E4.hq.lt)
     (have f4 := E4.hq.free 4))
  | ((go_at_call 48)
     (refine at_wd (w4) ?_)
     (refine (hx _ _ _ _ h4).mono ?_)
     (rintro e w5 ⟨i5, b5, x5, A5, C5, rfl, N5, s5, T5, l5⟩)
     (have E5 := E4.rst s5)
     (obtain ⟨k5, h5⟩ := Rst.at h4 s5)
     (have z5 := s5.2.2.1.size)
     (have q5 := E5.hq.cell 4)
     (have r5 := E5.hq.lt)
     (have f5 := E5.hq.free 4)
     (simp only [ndc])
     (have E5a := (E5.alloc (.cells #[.string (bs x5.op), .string (bs x5.s), .int .i64 x5.n, .int .i64 x5.a, .slice A5 x5.l.length C5] 24)).alloc (.cells #[.string (bs x5.op), .string (bs x5.s), .int .i64 x5.n, .int .i64 x5.a, .slice A5 x5.l.length C5] 24))
     (have N5a := (E4.row.apart N5 (by omega)).grow (((Below.refl _ w5).alloc (Nat.le_refl _) (.cells #[.string (bs x5.op), .string (bs x5.s), .int .i64 x5.n, .int .i64 x5.a, .slice A5 x5.l.length C5] 24)).alloc (by simp) (.cells #[.string (bs x5.op), .string (bs x5.s), .int .i64 x5.n, .int .i64 x5.a, .slice A5 x5.l.length C5] 24))))
  | ((refine at_dstL 58 rfl ?_)
     (refine wpList_append_nodes rfl _ _ rfl (w2.heap.size + 1) [] _ rfl E5a.row (by simp; omega) (by decide) [x5] [.slice A5 x5.l.length C5] (by simp) (by simp) rfl (one1 _ _ _) (nd1 N5a) (w5.heap.size + 1) rfl (Has.new_at (by simp)) 1 rfl ?_)
     (intro A6 C6 w6 R6 B6)
     (have E6 := E5a.put R6 B6)
     (have u6 := (E5a.hq.below B6 (by omega)).cell 4)
     (have v6 := (E5a.hq.below B6 (by omega)).free 4)
     (have y6 := (E5a.hq.below B6 (by omega)).lt)
     (obtain ⟨k6, h6⟩ := E6.at hR))
  | ((go_at_call 47)
     (refine at_wd (w6.setCell ⟨w2.heap.size, 4, none⟩ (.slice A6 1 C6)) ?_)
     (refine (rmust_c h6 [44]).mono ?_)
     (rintro e w7 ⟨rfl, i7, b7, s7, t7, T7⟩)
     (rw [sg_eq hG (by decide)] at T7)
     (have E7 := E6.rst s7)
     (obtain ⟨k7, h7⟩ := Rst.at h6 s7)
     (have z7 := s7.2.2.1.size)
     (have q7 := E7.hq.cell 4)
     (have r7 := E7.hq.lt)
     (have f7 := E7.hq.free 4))
  | ((go_at_call 48)
     (refine at_wd (w7) ?_)
     (refine (hx _ _ _ _ h7).mono ?_)
     (rintro e w8 ⟨i8, b8, x8, A8, C8, rfl, N8, s8, T8, l8⟩)
     (have E8 := E7.rst s8)
     (obtain ⟨k8, h8⟩ := Rst.at h7 s8)
     (have z8 := s8.2.2.1.size)
     (have q8 := E8.hq.cell 4)
     (have r8 := E8.hq.lt)
     (have f8 := E8.hq.free 4)
     (simp only [ndc])
     (have E8a := E8.alloc (.cells #[.string (bs x8.op), .string (bs x8.s), .int .i64 x8.n, .int .i64 x8.a, .slice A8 x8.l.length C8] 24))
     (obtain ⟨k8a, h8a⟩ := E8a.at hR)
     (have O8 := Has.new w8 24 #[.string (bs x8.op), .string (bs x8.s), .int .i64 x8.n, .int .i64 x8.a, .slice A8 x8.l.length C8])
     (have N8a := (E7.row.apart N8 (by omega))))
  | ((go_at_call 47)
     (refine at_wd (w8.alloc (.cells #[.string (bs x8.op), .string (bs x8.s), .int .i64 x8.n, .int .i64 x8.a, .slice A8 x8.l.length C8] 24)) ?_)
     (refine (rmust_c h8a [44]).mono ?_)
     (rintro e w9 ⟨rfl, i9, b9, s9, t9, T9⟩)
     (rw [sg_eq hG (by decide)] at T9)
     (have E9 := E8a.rst s9)
     (obtain ⟨k9, h9⟩ := Rst.at h8a s9)
     (have z9 := s9.2.2.1.size)
     (have q9 := E9.hq.cell 4)
     (have r9 := E9.hq.lt)
     (have f9 := E9.hq.free 4)
     (have O9 := O8.kp s9.2.2.1 (by omega)))
  | ((go_at_call 78)
     (refine at_wd (w9) ?_)
     (refine (rnumber_c h9 (pexpr d)).mono ?_)
     (rintro e w10 ⟨i10, b10, x10, A10, C10, rfl, N10, s10, T10, l10⟩)
     (have E10 := E9.rst s10)
     (obtain ⟨k10, h10⟩ := Rst.at h9 s10)
     (have z10 := s10.2.2.1.size)
     (have q10 := E10.hq.cell 4)
     (have r10 := E10.hq.lt)
     (have f10 := E10.hq.free 4)
     (have O10 := O9.kp s10.2.2.1 (by omega))
     (simp only [ndc])
     (have cc0 := O10.cell 0)
     (have cc1 := O10.cell 1)
     (have cc2 := O10.cell 2)
     (have cc3 := O10.cell 3)
     (have cc4 := O10.cell 4)
     (have lo10 := O10.lt)
     (have E10a := (E10.alloc (.cells #[.string (bs x10.op), .string (bs x10.s), .int .i64 x10.n, .int .i64 x10.a, .slice A10 x10.l.length C10] 24)).alloc (.cells #[.string (bs x8.op), .string (bs x8.s), .int .i64 x8.n, .int .i64 x8.a, .slice A8 x8.l.length C8, .string (bs x10.op), .string (bs x10.s), .int .i64 x10.n, .int .i64 x10.a, .slice A10 x10.l.length C10] 24))
     (have N10a := (E9.row.apart N10 (by omega)).grow (((Below.refl _ w10).alloc (Nat.le_refl _) (.cells #[.string (bs x10.op), .string (bs x10.s), .int .i64 x10.n, .int .i64 x10.a, .slice A10 x10.l.length C10] 24)).alloc (by simp) (.cells #[.string (bs x8.op), .string (bs x8.s), .int .i64 x8.n, .int .i64 x8.a, .slice A8 x8.l.length C8, .string (bs x10.op), .string (bs x10.s), .int .i64 x10.n, .int .i64 x10.a, .slice A10 x10.l.length C10] 24)))
     (have N8b := (N8a.kp (((Kp.of (b_one w8 (.cells #[.string (bs x8.op), .string (bs x8.s), .int .i64 x8.n, .int .i64 x8.a, .slice A8 x8.l.length C8] 24))).trans s9.2.2.1).trans s10.2.2.1) (fun g hg => by omega)).grow (((Below.refl _ w10).alloc (Nat.le_refl _) (.cells #[.string (bs x10.op), .string (bs x10.s), .int .i64 x10.n, .int .i64 x10.a, .slice A10 x10.l.length C10] 24)).alloc (by simp) (.cells #[.string (bs x8.op), .string (bs x8.s), .int .i64 x8.n, .int .i64 x8.a, .slice A8 x8.l.length C8, .string (bs x10.op), .string (bs x10.s), .int .i64 x10.n, .int .i64 x10.a, .slice A10 x10.l.length C10] 24))))
  | ((refine at_dstL 117 rfl ?_)
     (refine wpList_append_nodes rfl _ _ rfl (w2.heap.size + 1) [x5] _ rfl E10a.row (by simp; omega) (by simp) [x8, x10] [.slice A8 x8.l.length C8, .slice A10 x10.l.length C10] (by simp) (by simp) rfl (one2 _ _ _ _ _ _) (nd2 N8b N10a) (w10.heap.size + 1) rfl (Has.new_at (by simp)) 3 rfl ?_)
     (intro A11 C11 w11 R11 B11)
     (have E11 := E10a.put R11 B11)
     (have u11 := (E10a.hq.below B11 (by omega)).cell 4)
     (have v11 := (E10a.hq.below B11 (by omega)).free 4)
     (have y11 := (E10a.hq.below B11 (by omega)).lt)
     (obtain ⟨k11, h11⟩ := E11.at hR))
  | ((go_at_call 47)
     (refine at_wd (w11.setCell ⟨w2.heap.size, 4, none⟩ (.slice A11 3 C11)) ?_)
     (refine (rmust_c h11 [41]).mono ?_)
     (rintro e w12 ⟨rfl, i12, b12, s12, t12, T12⟩)
     (rw [sg_eq hG (by decide)] at T12)
     (have E12 := E11.rst s12)
     (obtain ⟨k12, h12⟩ := Rst.at h11 s12)
     (have z12 := s12.2.2.1.size)
     (have q12 := E12.hq.cell 4)
     (have r12 := E12.hq.lt)
     (have f12 := E12.hq.free 4)
     (have p12 := E12.hp.lt)
     (have ca0 := E12.hp.cell 0)
     (have ca1 := E12.hp.cell 1)
     (have ca2 := E12.hp.cell 2)
     (have ca3 := E12.hp.cell 3)
     (have ca4 := E12.hp.cell 4)
     (have fa0 := E12.hp.free 0)
     (have fa1 := E12.hp.free 1)
     (have fa2 := E12.hp.free 2)
     (have fa3 := E12.hp.free 3)
     (have fa4 := E12.hp.free 4)
     (have cb0 := E12.hq.cell 0)
     (have cb1 := E12.hq.cell 1)
     (have cb2 := E12.hq.cell 2)
     (have cb3 := E12.hq.cell 3)
     (have cb4 := E12.hq.cell 4))
  )
 refine ret_node rfl rfl (E12.hp.set5 _ _ _ _ _) rfl (fin _ _ ?_)
 refine ⟨i12, b12, .mk wSnapshot [] 0 (at_ : Nat) [x5, x8, x10], A11, C11, rfl, ?_, Rst.set5 E12.st (Nat.le_refl _) hlt _ _ _ _ _, (tell_par rfl T4 (tell_k3 (ks := .ex) (kt := .nu) T5 T7 T8 T9 T10) T12).map (fun l => Nd.mk wSnapshot [] 0 (at_ : Nat) l), Nat.le_of_ble_eq_true rfl⟩
 exact (E12.row.done.mono fun g hg => (by omega : w.heap.size ≤ g ∧ g ≠ w.heap.size)).set5 (fun g hg => hg.2) _ _ _ _ _ |>.mono fun g hg => hg.1
end
section
open Go.ChangeShapes Go.WideShapes Go.ChangeAt Go.RowKit
theorem rex_Crypt {w : World} {rb : Nat} {A : Option Addr} {C : Nat} {ts : Toks} {i en : Nat} {k : Int} (h : RdrAt w rb A C ts i en 0 k) (hG : Goodt ts) (d N : Nat) (hN : N ≤ 12) (hi : i < ts.length) (hk : ts[i].1.kind = 0) (hs : ts[i].1.s = wCrypt)
  (hx : ∀ (w : World) (i : Nat) (bad k : Int), RdrAt w rb A C ts i en bad k → Calls Tryz.prog 48 #[.pointer (some ⟨rb, 0, none⟩), .int .i64 ((N : Int) + 1)] w (RNode w rb A C ts i en bad (pexpr d))) :
  Calls Tryz.prog 48 #[.pointer (some ⟨rb, 0, none⟩), .int .i64 (N : Nat)] w (RNode w rb A C ts i en 0 (pexpr (d + 1))) := by
 have hpx := px_op (d := d) (en := en) hi hk hs (by decide) (by decide)
 have hR := h
 have hlt := h.has.lt
 have hf := h.few
 have hop : ∀ W k, RdrAt W rb A C ts i en 0 k → Calls Tryz.prog 77 #[.pointer (some ⟨rb, 0, none⟩)] W fun e w' => e = .returned (.string ⟨#[99, 114, 121, 112, 116]⟩) ∧ Below W.heap.size W w' := by
  intro W k h
  refine (rop_c h).mono ?_
  rintro e w' ⟨rfl, hb⟩
  refine ⟨?_, hb⟩
  have : firstW OPS (isB 0 ts i) = wCrypt := by
   have hb : ∀ s, isB 0 ts i s = (s == wCrypt) := by
    intro s
    unfold isB
    rw [comes_at hi]
    unfold isWS
    rw [hk, hs]
    simp only [decide_true, Bool.true_and, beq_self_eq_true, Bool.true_or]
    rw [Bool.eq_iff_iff]
    simp only [beq_iff_eq]
    exact eq_comm
   rw [show isB 0 ts i = fun s => s == wCrypt from funext hb]
   decide
  rw [this]
  rfl
 have hpl : ∀ W k, RdrAt W rb A C ts i en 0 k → Calls Tryz.prog 42 #[.pointer (some ⟨rb, 0, none⟩)] W fun e w' => e = .returned (.int .i64 (ts[i].2 : Nat)) ∧ Below W.heap.size W w' := by
  intro W k h
  refine (rplace_c h).mono ?_
  rintro e w' ⟨rfl, q, rfl⟩
  rw [place_at hi]
  exact ⟨rfl, bel_dn (Below.refl _ _) _⟩
 have h0 := h.kp (b_one w (.cells #[.string ⟨#[]⟩, .string ⟨#[]⟩, .int .i64 0, .int .i64 0, .slice none 0 0] 24))
 have hN0 := Has.new w 24 #[.string ⟨#[]⟩, .string ⟨#[]⟩, .int .i64 0, .int .i64 0, .slice none 0 0]
 rw [show (pexpr (d + 1)) = pexpr (d + 1) from rfl]
 have fin : ∀ (e : Ending) (w' : World), RNode w rb A C ts i en 0 (fun _ _ => pexpr (d + 1) en (ts.drop i)) e w' → RNode w rb A C ts i en 0 (pexpr (d + 1)) e w' := fun e w' h => h
 rw [hpx] at fin
 generalize ts[i].2 = at_ at hpl fin
 clear hpx hs hk
 have hi1 : i + 1 ≤ ts.length := by omega
 have hi5 : (i : Int) ≤ 500 := by omega
 go_enter Tryz.func48, Tryz.ntmps48
 go_wp2_with (first
  | ((go_at_call 77)
     (refine (hop _ _ h0).mono ?_)
     (rintro e w1 ⟨rfl, hb1⟩)
     (have h1 := h0.kp hb1)
     (have c1 := h1.has.cell 3)
     (have l1 := h1.has.lt)
     (simp only [ga1, gz1, gs1] at c1))
  | ((go_at_call 42)
     (refine (hpl _ _ h1).mono ?_)
     (rintro e w2 ⟨rfl, hb2⟩)
     (have h2 := h1.kp hb2)
     (have c2 := h2.has.cell 1)
     (have d2 := h2.has.free 1)
     (have l2 := h2.has.lt)
     (simp only [ga1, gz1, gs1] at c2)
     (have N2 := (hN0.below hb1 hN0.lt).below hb2 (hN0.below hb1 hN0.lt).lt)
     (have lp2 := N2.lt)
     (have E3 : ExAt w rb A C ts i en w2.heap.size ⟨#[99, 114, 121, 112, 116]⟩ (at_ : Nat) ((w2.setCell ⟨rb, 1, none⟩ (.int .i64 ((i : Int) + 1))).alloc (.cells #[.string ⟨#[99, 114, 121, 112, 116]⟩, .string ⟨#[]⟩, .int .i64 0, .int .i64 (at_ : Nat), .slice none 0 0] 24)) (i + 1) 0 [] (.slice none 0 0) := ex_start hR hb1 hb2 hi1 hlt)
     (have pq := E3.pq)
     (obtain ⟨k3, h3⟩ := E3.at hR))
  | ((go_at_call 47)
     (refine at_wd ((w2.setCell ⟨rb, 1, none⟩ (.int .i64 ((i : Int) + 1))).alloc (.cells #[.string ⟨#[99, 114, 121, 112, 116]⟩, .string ⟨#[]⟩, .int .i64 0, .int .i64 (at_ : Nat), .slice none 0 0] 24)) ?_)
     (refine (rmust_c h3 [40]).mono ?_)
     (rintro e w4 ⟨rfl, i4, b4, s4, t4, T4⟩)
     (rw [sg_eq hG (by decide)] at T4)
     (have E4 := E3.rst s4)
     (obtain ⟨k4, h4⟩ := Rst.at h3 s4)
     (have z4 := s4.2.2.1.size)
     (have q4 := E4.hq.cell 4)
     (have r4 := E4.hq.lt)
     (have f4 := E4.hq.free 4))
  | ((go_at_call 48)
     (refine at_wd (w4) ?_)
     (refine (hx _ _ _ _ h4).mono ?_)
     (rintro e w5 ⟨i5, b5, x5, A5, C5, rfl, N5, s5, T5, l5⟩)
     (have E5 := E4.rst s5)
     (obtain ⟨k5, h5⟩ := Rst.at h4 s5)
     (have z5 := s5.2.2.1.size)
     (have q5 := E5.hq.cell 4)
     (have r5 := E5.hq.lt)
     (have f5 := E5.hq.free 4)
     (simp only [ndc])
     (have E5a := (E5.alloc (.cells #[.string (bs x5.op), .string (bs x5.s), .int .i64 x5.n, .int .i64 x5.a, .slice A5 x5.l.length C5] 24)).alloc (.cells #[.string (bs x5.op), .string (bs x5.s), .int .i64 x5.n, .int .i64 x5.a, .slice A5 x5.l.length C5] 24))
     (have N5a := (E4.row.apart N5 (by omega)).grow (((Below.refl _ w5).alloc (Nat.le_refl _) (.cells #[.string (bs x5.op), .string (bs x5.s), .int .i64 x5.n, .int .i64 x5.a, .slice A5 x5.l.length C5] 24)).alloc (by simp) (.cells #[.string (bs x5.op), .string (bs x5.s), .int .i64 x5.n, .int .i64 x5.a, .slice A5 x5.l.length C5] 24))))
  | ((refine at_dstL 58 rfl ?_)
     (refine wpList_append_nodes rfl _ _ rfl (w2.heap.size + 1) [] _ rfl E5a.row (by simp; omega) (by decide) [x5] [.slice A5 x5.l.length C5] (by simp) (by simp) rfl (one1 _ _ _) (nd1 N5a) (w5.heap.size + 1) rfl (Has.new_at (by simp)) 1 rfl ?_)
     (intro A6 C6 w6 R6 B6)
     (have E6 := E5a.put R6 B6)
     (have u6 := (E5a.hq.below B6 (by omega)).cell 4)
     (have v6 := (E5a.hq.below B6 (by omega)).free 4)
     (have y6 := (E5a.hq.below B6 (by omega)).lt)
     (obtain ⟨k6, h6⟩ := E6.at hR))
  | ((go_at_call 47)
     (refine at_wd (w6.setCell ⟨w2.heap.size, 4, none⟩ (.slice A6 1 C6)) ?_)
     (refine (rmust_c h6 [44]).mono ?_)
     (rintro e w7 ⟨rfl, i7, b7, s7, t7, T7⟩)
     (rw [sg_eq hG (by decide)] at T7)
     (have E7 := E6.rst s7)
     (obtain ⟨k7, h7⟩ := Rst.at h6 s7)
     (have z7 := s7.2.2.1.size)
     (have q7 := E7.hq.cell 4)
     (have r7 := E7.hq.lt)
     (have f7 := E7.hq.free 4))
  | ((go_at_call 79)
     (refine at_wd (w7) ?_)
     (refine (rnamed_c h7 (pexpr d)).mono ?_)
     (rintro e w8 ⟨i8, b8, x8, A8, C8, rfl, N8, s8, T8, l8⟩)
     (have E8 := E7.rst s8)
     (obtain ⟨k8, h8⟩ := Rst.at h7 s8)
     (have z8 := s8.2.2.1.size)
     (have q8 := E8.hq.cell 4)
     (have r8 := E8.hq.lt)
     (have f8 := E8.hq.free 4)
     (simp only [ndc])
     (have E8a := (E8.alloc (.cells #[.string (bs x8.op), .string (bs x8.s), .int .i64 x8.n, .int .i64 x8.a, .slice A8 x8.l.length C8] 24)).alloc (.cells #[.string (bs x8.op), .string (bs x8.s), .int .i64 x8.n, .int .i64 x8.a, .slice A8 x8.l.length C8] 24))
     (have N8a := (E7.row.apart N8 (by omega)).grow (((Below.refl _ w8).alloc (Nat.le_refl _) (.cells #[.string (bs x8.op), .string (bs x8.s), .int .i64 x8.n, .int .i64 x8.a, .slice A8 x8.l.length C8] 24)).alloc (by simp) (.cells #[.string (bs x8.op), .string (bs x8.s), .int .i64 x8.n, .int .i64 x8.a, .slice A8 x8.l.length C8] 24))))
  | ((refine at_dstL 131 rfl ?_)
     (refine wpList_append_nodes rfl _ _ rfl (w2.heap.size + 1) [x5] _ rfl E8a.row (by simp; omega) (by simp) [x8] [.slice A8 x8.l.length C8] (by simp) (by simp) rfl (one1 _ _ _) (nd1 N8a) (w8.heap.size + 1) rfl (Has.new_at (by simp)) 2 rfl ?_)
     (intro A9 C9 w9 R9 B9)
     (have E9 := E8a.put R9 B9)
     (have u9 := (E8a.hq.below B9 (by omega)).cell 4)
     (have v9 := (E8a.hq.below B9 (by omega)).free 4)
     (have y9 := (E8a.hq.below B9 (by omega)).lt)
     (obtain ⟨k9, h9⟩ := E9.at hR))
  | ((go_at_call 47)
     (refine at_wd (w9.setCell ⟨w2.heap.size, 4, none⟩ (.slice A9 2 C9)) ?_)
     (refine (rmust_c h9 [41]).mono ?_)
     (rintro e w10 ⟨rfl, i10, b10, s10, t10, T10⟩)
     (rw [sg_eq hG (by decide)] at T10)
     (have E10 := E9.rst s10)
     (obtain ⟨k10, h10⟩ := Rst.at h9 s10)
     (have z10 := s10.2.2.1.size)
     (have q10 := E10.hq.cell 4)
     (have r10 := E10.hq.lt)
     (have f10 := E10.hq.free 4)
     (have p10 := E10.hp.lt)
     (have ca0 := E10.hp.cell 0)
     (have ca1 := E10.hp.cell 1)
     (have ca2 := E10.hp.cell 2)
     (have ca3 := E10.hp.cell 3)
     (have ca4 := E10.hp.cell 4)
     (have fa0 := E10.hp.free 0)
     (have fa1 := E10.hp.free 1)
     (have fa2 := E10.hp.free 2)
     (have fa3 := E10.hp.free 3)
     (have fa4 := E10.hp.free 4)
     (have cb0 := E10.hq.cell 0)
     (have cb1 := E10.hq.cell 1)
     (have cb2 := E10.hq.cell 2)
     (have cb3 := E10.hq.cell 3)
     (have cb4 := E10.hq.cell 4))
  )
 refine ret_node rfl rfl (E10.hp.set5 _ _ _ _ _) rfl (fin _ _ ?_)
 refine ⟨i10, b10, .mk wCrypt [] 0 (at_ : Nat) [x5, x8], A9, C9, rfl, ?_, Rst.set5 E10.st (Nat.le_refl _) hlt _ _ _ _ _, (tell_par rfl T4 (tell_k2 (ks := .na) T5 T7 T8) T10).map (fun l => Nd.mk wCrypt [] 0 (at_ : Nat) l), Nat.le_of_ble_eq_true rfl⟩
 exact (E10.row.done.mono fun g hg => (by omega : w.heap.size ≤ g ∧ g ≠ w.heap.size)).set5 (fun g hg => hg.2) _ _ _ _ _ |>.mono fun g hg => hg.1
end
section
open Go.ChangeShapes Go.WideShapes Go.ChangeAt Go.RowKit
theorem rex_Integrity {w : World} {rb : Nat} {A : Option Addr} {C : Nat} {ts : Toks} {i en : Nat} {k : Int} (h : RdrAt w rb A C ts i en 0 k) (hG : Goodt ts) (d N : Nat) (hN : N ≤ 12) (hi : i < ts.length) (hk : ts[i].1.kind = 0) (hs : ts[i].1.s = wIntegrity)
  (hx : ∀ (w : World) (i : Nat) (bad k : Int), RdrAt w rb A C ts i en bad k → Calls Tryz.prog 48 #[.pointer (some ⟨rb, 0, none⟩), .int .i64 ((N : Int) + 1)] w (RNode w rb A C ts i en bad (pexpr d))) :
  Calls Tryz.prog 48 #[.pointer (some ⟨rb, 0, none⟩), .int .i64 (N : Nat)] w (RNode w rb A C ts i en 0 (pexpr (d + 1))) := by
 have hpx := px_op (d := d) (en := en) hi hk hs (by decide) (by decide)
 have hR := h
 have hlt := h.has.lt
 have hf := h.few
 have hop : ∀ W k, RdrAt W rb A C ts i en 0 k → Calls Tryz.prog 77 #[.pointer (some ⟨rb, 0, none⟩)] W fun e w' => e = .returned (.string ⟨#[105, 110, 116, 101, 103, 114, 105, 116, 121]⟩) ∧ Below W.heap.size W w' := by
  intro W k h
  refine (rop_c h).mono ?_
  rintro e w' ⟨rfl, hb⟩
  refine ⟨?_, hb⟩
  have : firstW OPS (isB 0 ts i) = wIntegrity := by
   have hb : ∀ s, isB 0 ts i s = (s == wIntegrity) := by
    intro s
    unfold isB
    rw [comes_at hi]
    unfold isWS
    rw [hk, hs]
    simp only [decide_true, Bool.true_and, beq_self_eq_true, Bool.true_or]
    rw [Bool.eq_iff_iff]
    simp only [beq_iff_eq]
    exact eq_comm
   rw [show isB 0 ts i = fun s => s == wIntegrity from funext hb]
   decide
  rw [this]
  rfl
 have hpl : ∀ W k, RdrAt W rb A C ts i en 0 k → Calls Tryz.prog 42 #[.pointer (some ⟨rb, 0, none⟩)] W fun e w' => e = .returned (.int .i64 (ts[i].2 : Nat)) ∧ Below W.heap.size W w' := by
  intro W k h
  refine (rplace_c h).mono ?_
  rintro e w' ⟨rfl, q, rfl⟩
  rw [place_at hi]
  exact ⟨rfl, bel_dn (Below.refl _ _) _⟩
 have h0 := h.kp (b_one w (.cells #[.string ⟨#[]⟩, .string ⟨#[]⟩, .int .i64 0, .int .i64 0, .slice none 0 0] 24))
 have hN0 := Has.new w 24 #[.string ⟨#[]⟩, .string ⟨#[]⟩, .int .i64 0, .int .i64 0, .slice none 0 0]
 rw [show (pexpr (d + 1)) = pexpr (d + 1) from rfl]
 have fin : ∀ (e : Ending) (w' : World), RNode w rb A C ts i en 0 (fun _ _ => pexpr (d + 1) en (ts.drop i)) e w' → RNode w rb A C ts i en 0 (pexpr (d + 1)) e w' := fun e w' h => h
 rw [hpx] at fin
 generalize ts[i].2 = at_ at hpl fin
 clear hpx hs hk
 have hi1 : i + 1 ≤ ts.length := by omega
 have hi5 : (i : Int) ≤ 500 := by omega
 go_enter Tryz.func48, Tryz.ntmps48
 go_wp2_with (first
  | ((go_at_call 77)
     (refine (hop _ _ h0).mono ?_)
     (rintro e w1 ⟨rfl, hb1⟩)
     (have h1 := h0.kp hb1)
     (have c1 := h1.has.cell 3)
     (have l1 := h1.has.lt)
     (simp only [ga1, gz1, gs1] at c1))
  | ((go_at_call 42)
     (refine (hpl _ _ h1).mono ?_)
     (rintro e w2 ⟨rfl, hb2⟩)
     (have h2 := h1.kp hb2)
     (have c2 := h2.has.cell 1)
     (have d2 := h2.has.free 1)
     (have l2 := h2.has.lt)
     (simp only [ga1, gz1, gs1] at c2)
     (have N2 := (hN0.below hb1 hN0.lt).below hb2 (hN0.below hb1 hN0.lt).lt)
     (have lp2 := N2.lt)
     (have E3 : ExAt w rb A C ts i en w2.heap.size ⟨#[105, 110, 116, 101, 103, 114, 105, 116, 121]⟩ (at_ : Nat) ((w2.setCell ⟨rb, 1, none⟩ (.int .i64 ((i : Int) + 1))).alloc (.cells #[.string ⟨#[105, 110, 116, 101, 103, 114, 105, 116, 121]⟩, .string ⟨#[]⟩, .int .i64 0, .int .i64 (at_ : Nat), .slice none 0 0] 24)) (i + 1) 0 [] (.slice none 0 0) := ex_start hR hb1 hb2 hi1 hlt)
     (have pq := E3.pq)
     (obtain ⟨k3, h3⟩ := E3.at hR))
  | ((go_at_call 47)
     (refine at_wd ((w2.setCell ⟨rb, 1, none⟩ (.int .i64 ((i : Int) + 1))).alloc (.cells #[.string ⟨#[105, 110, 116, 101, 103, 114, 105, 116, 121]⟩, .string ⟨#[]⟩, .int .i64 0, .int .i64 (at_ : Nat), .slice none 0 0] 24)) ?_)
     (refine (rmust_c h3 [40]).mono ?_)
     (rintro e w4 ⟨rfl, i4, b4, s4, t4, T4⟩)
     (rw [sg_eq hG (by decide)] at T4)
     (have E4 := E3.rst s4)
     (obtain ⟨k4, h4⟩ := Rst.at h3 s4)
     (have z4 := s4.2.2.1.size)
     (have q4 := E4.hq.cell 4)
     (have r4 := E4.hq.lt)
     (have f4 := E4.hq.free 4))
  | ((go_at_call 48)
     (refine at_wd (w4) ?_)
     (refine (hx _ _ _ _ h4).mono ?_)
     (rintro e w5 ⟨i5, b5, x5, A5, C5, rfl, N5, s5, T5, l5⟩)
     (have E5 := E4.rst s5)
     (obtain ⟨k5, h5⟩ := Rst.at h4 s5)
     (have z5 := s5.2.2.1.size)
     (have q5 := E5.hq.cell 4)
     (have r5 := E5.hq.lt)
     (have f5 := E5.hq.free 4)
     (simp only [ndc])
     (have E5a := (E5.alloc (.cells #[.string (bs x5.op), .string (bs x5.s), .int .i64 x5.n, .int .i64 x5.a, .slice A5 x5.l.length C5] 24)).alloc (.cells #[.string (bs x5.op), .string (bs x5.s), .int .i64 x5.n, .int .i64 x5.a, .slice A5 x5.l.length C5] 24))
     (have N5a := (E4.row.apart N5 (by omega)).grow (((Below.refl _ w5).alloc (Nat.le_refl _) (.cells #[.string (bs x5.op), .string (bs x5.s), .int .i64 x5.n, .int .i64 x5.a, .slice A5 x5.l.length C5] 24)).alloc (by simp) (.cells #[.string (bs x5.op), .string (bs x5.s), .int .i64 x5.n, .int .i64 x5.a, .slice A5 x5.l.length C5] 24))))
  | ((refine at_dstL 58 rfl ?_)
     (refine wpList_append_nodes rfl _ _ rfl (w2.heap.size + 1) [] _ rfl E5a.row (by simp; omega) (by decide) [x5] [.slice A5 x5.l.length C5] (by simp) (by simp) rfl (one1 _ _ _) (nd1 N5a) (w5.heap.size + 1) rfl (Has.new_at (by simp)) 1 rfl ?_)
     (intro A6 C6 w6 R6 B6)
     (have E6 := E5a.put R6 B6)
     (have u6 := (E5a.hq.below B6 (by omega)).cell 4)
     (have v6 := (E5a.hq.below B6 (by omega)).free 4)
     (have y6 := (E5a.hq.below B6 (by omega)).lt)
     (obtain ⟨k6, h6⟩ := E6.at hR))
  | ((go_at_call 47)
     (refine at_wd (w6.setCell ⟨w2.heap.size, 4, none⟩ (.slice A6 1 C6)) ?_)
     (refine (rmust_c h6 [44]).mono ?_)
     (rintro e w7 ⟨rfl, i7, b7, s7, t7, T7⟩)
     (rw [sg_eq hG (by decide)] at T7)
     (have E7 := E6.rst s7)
     (obtain ⟨k7, h7⟩ := Rst.at h6 s7)
     (have z7 := s7.2.2.1.size)
     (have q7 := E7.hq.cell 4)
     (have r7 := E7.hq.lt)
     (have f7 := E7.hq.free 4))
  | ((go_at_call 79)
     (refine at_wd (w7) ?_)
     (refine (rnamed_c h7 (pexpr d)).mono ?_)
     (rintro e w8 ⟨i8, b8, x8, A8, C8, rfl, N8, s8, T8, l8⟩)
     (have E8 := E7.rst s8)
     (obtain ⟨k8, h8⟩ := Rst.at h7 s8)
     (have z8 := s8.2.2.1.size)
     (have q8 := E8.hq.cell 4)
     (have r8 := E8.hq.lt)
     (have f8 := E8.hq.free 4)
     (simp only [ndc])
     (have E8a := (E8.alloc (.cells #[.string (bs x8.op), .string (bs x8.s), .int .i64 x8.n, .int .i64 x8.a, .slice A8 x8.l.length C8] 24)).alloc (.cells #[.string (bs x8.op), .string (bs x8.s), .int .i64 x8.n, .int .i64 x8.a, .slice A8 x8.l.length C8] 24))
     (have N8a := (E7.row.apart N8 (by omega)).grow (((Below.refl _ w8).alloc (Nat.le_refl _) (.cells #[.string (bs x8.op), .string (bs x8.s), .int .i64 x8.n, .int .i64 x8.a, .slice A8 x8.l.length C8] 24)).alloc (by simp) (.cells #[.string (bs x8.op), .string (bs x8.s), .int .i64 x8.n, .int .i64 x8.a, .slice A8 x8.l.length C8] 24))))
  | ((refine at_dstL 131 rfl ?_)
     (refine wpList_append_nodes rfl _ _ rfl (w2.heap.size + 1) [x5] _ rfl E8a.row (by simp; omega) (by simp) [x8] [.slice A8 x8.l.length C8] (by simp) (by simp) rfl (one1 _ _ _) (nd1 N8a) (w8.heap.size + 1) rfl (Has.new_at (by simp)) 2 rfl ?_)
     (intro A9 C9 w9 R9 B9)
     (have E9 := E8a.put R9 B9)
     (have u9 := (E8a.hq.below B9 (by omega)).cell 4)
     (have v9 := (E8a.hq.below B9 (by omega)).free 4)
     (have y9 := (E8a.hq.below B9 (by omega)).lt)
     (obtain ⟨k9, h9⟩ := E9.at hR))
  | ((go_at_call 47)
     (refine at_wd (w9.setCell ⟨w2.heap.size, 4, none⟩ (.slice A9 2 C9)) ?_)
     (refine (rmust_c h9 [41]).mono ?_)
     (rintro e w10 ⟨rfl, i10, b10, s10, t10, T10⟩)
     (rw [sg_eq hG (by decide)] at T10)
     (have E10 := E9.rst s10)
     (obtain ⟨k10, h10⟩ := Rst.at h9 s10)
     (have z10 := s10.2.2.1.size)
     (have q10 := E10.hq.cell 4)
     (have r10 := E10.hq.lt)
     (have f10 := E10.hq.free 4)
     (have p10 := E10.hp.lt)
     (have ca0 := E10.hp.cell 0)
     (have ca1 := E10.hp.cell 1)
     (have ca2 := E10.hp.cell 2)
     (have ca3 := E10.hp.cell 3)
     (have ca4 := E10.hp.cell 4)
     (have fa0 := E10.hp.free 0)
     (have fa1 := E10.hp.free 1)
     (have fa2 := E10.hp.free 2)
     (have fa3 := E10.hp.free 3)
     (have fa4 := E10.hp.free 4)
     (have cb0 := E10.hq.cell 0)
     (have cb1 := E10.hq.cell 1)
     (have cb2 := E10.hq.cell 2)
     (have cb3 := E10.hq.cell 3)
     (have cb4 := E10.hq.cell 4))
  )
 refine ret_node rfl rfl (E10.hp.set5 _ _ _ _ _) rfl (fin _ _ ?_)
 refine ⟨i10, b10, .mk wIntegrity [] 0 (at_ : Nat) [x5, x8], A9, C9, rfl, ?_, Rst.set5 E10.st (Nat.le_refl _) hlt _ _ _ _ _, (tell_par rfl T4 (tell_k2 (ks := .na) T5 T7 T8) T10).map (fun l => Nd.mk wIntegrity [] 0 (at_ : Nat) l), Nat.le_of_ble_eq_true rfl⟩
 exact (E10.row.done.mono fun g hg => (by omega : w.heap.size ≤ g ∧ g ≠ w.heap.size)).set5 (fun g hg => hg.2) _ _ _ _ _ |>.mono fun g hg => hg.1
end
end Go.Proofs.YthndifegfmjpbaaGreatDoor
