/- Texts that the statements of this stage share, joined. -/
import Derived.Test.YthndifegfmjpbaaGreatDoorJoint12
import Derived.Test.YthndifegfmjpbaaGreatDoorJoint13
namespace Go.Proofs.YthndifegfmjpbaaGreatDoor
set_option linter.unusedVariables false
set_option maxRecDepth 100000
set_option maxHeartbeats 40000000
section
open Go.ChangeShapes Go.WideShapes Go.ChangeAt Go.RowKit
theorem rex_Verity {w : World} {rb : Nat} {A : Option Addr} {C : Nat} {ts : Toks} {i en : Nat} {k : Int} (h : RdrAt w rb A C ts i en 0 k) (hG : Goodt ts) (d N : Nat) (hN : N ≤ 12) (hi : i < ts.length) (hk : ts[i].1.kind = 0) (hs : ts[i].1.s = wVerity)
  (hx : ∀ (w : World) (i : Nat) (bad k : Int), RdrAt w rb A C ts i en bad k → Calls Tryz.prog 48 #[.pointer (some ⟨rb, 0, none⟩), .int .i64 ((N : Int) + 1)] w (RNode w rb A C ts i en bad (pexpr d))) :
  Calls Tryz.prog 48 #[.pointer (some ⟨rb, 0, none⟩), .int .i64 (N : Nat)] w (RNode w rb A C ts i en 0 (pexpr (d + 1))) := by
 have hpx := px_op (d := d) (en := en) hi hk hs (by decide) (by decide)
 have hR := h
 have hlt := h.has.lt
 have hf := h.few
 have hop : ∀ W k, RdrAt W rb A C ts i en 0 k → Calls Tryz.prog 77 #[.pointer (some ⟨rb, 0, none⟩)] W fun e w' => e = .returned (.string ⟨#[118, 101, 114, 105, 116, 121]⟩) ∧ Below W.heap.size W w' := by
  intro W k h
  refine (rop_c h).mono ?_
  rintro e w' ⟨rfl, hb⟩
  refine ⟨?_, hb⟩
  have : firstW OPS (isB 0 ts i) = wVerity := by
   have hb : ∀ s, isB 0 ts i s = (s == wVerity) := by
    intro s
    unfold isB
    rw [comes_at hi]
    unfold isWS
    rw [hk, hs]
    simp only [decide_true, Bool.true_and, beq_self_eq_true, Bool.true_or]
    rw [Bool.eq_iff_iff]
    simp only [beq_iff_eq]
    exact eq_comm
   rw [show isB 0 ts i = fun s => s == wVerity from funext hb]
   decide
  rw [this]
  rfl
 have hpl : ∀ W k, RdrAt W rb A C ts i en 0 k → Calls Tryz.prog 42 #[.pointer (some ⟨rb, 0, none⟩)] W fun e w' => e = .returned (.int .i64 (ts[i].2 : Nat)) ∧ Below W.heap.size W w' := by
  intro W k h
  refine (rplace_c h).mono ?_
  rintro e w' ⟨rfl, q, rfl⟩
  rw [place_at hi]
  exact ⟨rfl, bel_dn (Below.refl _ _) _⟩
 have h0 := h.kp (b_one w (.cells #[.string ⟨#[]⟩, .string ⟨#[]⟩, .int .i64 0, .int .i64 0, .slice none 0 0] 24))
 have hN0 := Has.new w 24 #[.string ⟨#[]⟩, .string ⟨#[]⟩, .int .i64 0, .int .i64 0, .slice none 0 0]
 rw [show (pexpr (d + 1)) = pexpr (d + 1) from rfl]
 have fin : ∀ (e : Ending) (w' : World), RNode w rb A C ts i en 0 (fun _ _ => pexpr (d + 1) en (ts.drop i)) e w' → RNode w rb A C ts i en 0 (pexpr (d + 1)) e w' := fun e w' h => h
 rw [hpx] at fin
 generalize ts[i].2 = at_ at hpl fin
 clear hpx hs hk
 have hi1 : i + 1 ≤ ts.length := by omega
 have hi5 : (i : Int) ≤ 500 := by omega
 go_enter Tryz.func48, Tryz.ntmps48
 go_wp2_with (first
  | ((go_at_call 77)
     (refine (hop _ _ h0).mono ?_)
     (rintro e w1 ⟨rfl, hb1⟩)
     (have h1 := h0.kp hb1)
     (have c1 := h1.has.cell 3)
     (have l1 := h1.has.lt)
     (simp only [ga1, gz1, gs1] at c1))
  | ((go_at_call 42)
     (refine (hpl _ _ h1).mono ?_)
     (rintro e w2 ⟨rfl, hb2⟩)
     (have h2 := h1.kp hb2)
     (have c2 := h2.has.cell 1)
     (have d2 := h2.has.free 1)
     (have l2 := h2.has.lt)
     (simp only [ga1, gz1, gs1] at c2)
     (have N2 := (hN0.below hb1 hN0.lt).below hb2 (hN0.below hb1 hN0.lt).lt)
     (have lp2 := N2.lt)
     (have E3 : ExAt w rb A C ts i en w2.heap.size ⟨#[118, 101, 114, 105, 116, 121]⟩ (at_ : Nat) ((w2.setCell ⟨rb, 1, none⟩ (.int .i64 ((i : Int) + 1))).alloc (.cells #[.string ⟨#[118, 101, 114, 105, 116, 121]⟩, .string ⟨#[]⟩, .int .i64 0, .int .i64 (at_ : Nat), .slice none 0 0] 24)) (i + 1) 0 [] (.slice none 0 0) := ex_start hR hb1 hb2 hi1 hlt)
     (have pq := E3.pq)
     (obtain ⟨k3, h3⟩ := E3.at hR))
  | ((go_at_call 47)
     (refine at_wd ((w2.setCell ⟨rb, 1, none⟩ (.int .i64 ((i : Int) + 1))).alloc (.cells #[.string ⟨#[118, 101, 114, 105, 116, 121]⟩, .string ⟨#[]⟩, .int .i64 0, .int .i64 (at_ : Nat), .slice none 0 0] 24)) ?_)
     (refine (rmust_c h3 [40]).mono ?_)
     (rintro e w4 ⟨rfl, i4, b4, s4, t4, T4⟩)
     (rw [sg_eq hG (by decide)] at T4)
     (have E4 := E3.rst s4)
     (obtain ⟨k4, h4⟩ := Rst.at h3 s4)
     (have z4 := s4.2.2.1.size)
     (have q4 := E4.hq.cell 4)
     (have r4 := E4.hq.lt)
     (have f4 := E4.hq.free 4))
  | ((go_at_call 48)
     (refine at_wd (w4) ?_)
     (refine (hx _ _ _ _ h4).mono ?_)
     (rintro e w5 ⟨i5, b5, x5, A5, C5, rfl, N5, s5, T5, l5⟩)
     (have E5 := E4.rst s5)
     (obtain ⟨k5, h5⟩ := Rst.at h4 s5)
     (have z5 := s5.2.2.1.size)
     (have q5 := E5.hq.cell 4)
     (have r5 := E5.hq.lt)
     (have f5 := E5.hq.free 4)
     (simp only [ndc])
     (have E5a := (E5.alloc (.cells #[.string (bs x5.op), .string (bs x5.s), .int .i64 x5.n, .int .i64 x5.a, .slice A5 x5.l.length C5] 24)).alloc (.cells #[.string (bs x5.op), .string (bs x5.s), .int .i64 x5.n, .int .i64 x5.a, .slice A5 x5.l.length C5] 24))
     (have N5a := (E4.row.apart N5 (by omega)).grow (((Below.refl _ w5).alloc (Nat.le_refl _) (.cells #[.string (bs x5.op), .string (bs x5.s), .int .i64 x5.n, .int .i64 x5.a, .slice A5 x5.l.length C5] 24)).alloc (by simp) (.cells #[.string (bs x5.op), .string (bs x5.s), .int .i64 x5.n, .int .i64 x5.a, .slice A5 x5.l.length C5] 24))))
  | ((refine at_dstL 58 rfl ?_)
     (refine wpList_append_nodes rfl _ _ rfl (w2.heap.size + 1) [] _ rfl E5a.row (by simp; omega) (by decide) [x5] [.slice A5 x5.l.length C5] (by simp) (by simp) rfl (one1 _ _ _) (nd1 N5a) (w5.heap.size + 1) rfl (Has.new_at (by simp)) 1 rfl ?_)
     (intro A6 C6 w6 R6 B6)
     (have E6 := E5a.put R6 B6)
     (have u6 := (E5a.hq.below B6 (by omega)).cell 4)
     (have v6 := (E5a.hq.below B6 (by omega)).free 4)
     (have y6 := (E5a.hq.below B6 (by omega)).lt)
     (obtain ⟨k6, h6⟩ := E6.at hR))
  | ((go_at_call 47)
     (refine at_wd (w6.setCell ⟨w2.heap.size, 4, none⟩ (.slice A6 1 C6)) ?_)
     (refine (rmust_c h6 [44]).mono ?_)
     (rintro e w7 ⟨rfl, i7, b7, s7, t7, T7⟩)
     (rw [sg_eq hG (by decide)] at T7)
     (have E7 := E6.rst s7)
     (obtain ⟨k7, h7⟩ := Rst.at h6 s7)
     (have z7 := s7.2.2.1.size)
     (have q7 := E7.hq.cell 4)
     (have r7 := E7.hq.lt)
     (have f7 := E7.hq.free 4))
  | ((go_at_call 79)
     (refine at_wd (w7) ?_)
     (refine (rnamed_c h7 (pexpr d)).mono ?_)
     (rintro e w8 ⟨i8, b8, x8, A8, C8, rfl, N8, s8, T8, l8⟩)
     (have E8 := E7.rst s8)
     (obtain ⟨k8, h8⟩ := Rst.at h7 s8)
     (have z8 := s8.2.2.1.size)
     (have q8 := E8.hq.cell 4)
     (have r8 := E8.hq.lt)
     (have f8 := E8.hq.free 4)
     (simp only [ndc])
     (have E8a := (E8.alloc (.cells #[.string (bs x8.op), .string (bs x8.s), .int .i64 x8.n, .int .i64 x8.a, .slice A8 x8.l.length C8] 24)).alloc (.cells #[.string (bs x8.op), .string (bs x8.s), .int .i64 x8.n, .int .i64 x8.a, .slice A8 x8.l.length C8] 24))
     (have N8a := (E7.row.apart N8 (by omega)).grow (((Below.refl _ w8).alloc (Nat.le_refl _) (.cells #[.string (bs x8.op), .string (bs x8.s), .int .i64 x8.n, .int .i64 x8.a, .slice A8 x8.l.length C8] 24)).alloc (by simp) (.cells #[.string (bs x8.op), .string (bs x8.s), .int .i64 x8.n, .int .i64 x8.a, .slice A8 x8.l.length C8] 24))))
  | ((refine at_dstL 131 rfl ?_)
     (refine wpList_append_nodes rfl _ _ rfl (w2.heap.size + 1) [x5] _ rfl E8a.row (by simp; omega) (by simp) [x8] [.slice A8 x8.l.length C8] (by simp) (by simp) rfl (one1 _ _ _) (nd1 N8a) (w8.heap.size + 1) rfl (Has.new_at (by simp)) 2 rfl ?_)
     (intro A9 C9 w9 R9 B9)
     (have E9 := E8a.put R9 B9)
     (have u9 := (E8a.hq.below B9 (by omega)).cell 4)
     (have v9 := (E8a.hq.below B9 (by omega)).free 4)
     (have y9 := (E8a.hq.below B9 (by omega)).lt)
     (obtain ⟨k9, h9⟩ := E9.at hR))
  | ((go_at_call 47)
     (refine at_wd (w9.setCell ⟨w2.heap.size, 4, none⟩ (.slice A9 2 C9)) ?_)
     (refine (rmust_c h9 [41]).mono ?_)
     (rintro e w10 ⟨rfl, i10, b10, s10, t10, T10⟩)
     (rw [sg_eq hG (by decide)] at T10)
     (have E10 := E9.rst s10)
     (obtain ⟨k10, h10⟩ := Rst.at h9 s10)
     (have z10 := s10.2.2.1.size)
     (have q10 := E10.hq.cell 4)
     (have r10 := E10.hq.lt)
     (have f10 := E10.hq.free 4)
     (have p10 := E10.hp.lt)
     (have ca0 := E10.hp.cell 0)
     (have ca1 := E10.hp.cell 1)
     (have ca2 := E10.hp.cell 2)
     (have ca3 := E10.hp.cell 3)
     (have ca4 := E10.hp.cell 4)
     (have fa0 := E10.hp.free 0)
     (have fa1 := E10.hp.free 1)
     (have fa2 := E10.hp.free 2)
     (have fa3 := E10.hp.free 3)
     (have fa4 := E10.hp.free 4)
     (have cb0 := E10.hq.cell 0)
     (have cb1 := E10.hq.cell 1)
     (have cb2 := E10.hq.cell 2)
     (have cb3 := E10.hq.cell 3)
     (have cb4 := E10.hq.cell 4))
  )
 refine ret_node rfl rfl (E10.hp.set5 _ _ _ _ _) rfl (fin _ _ ?_)
 refine ⟨i10, b10, .mk wVerity [] 0 (at_ : Nat) [x5, x8], A9, C9, rfl, ?_, Rst.set5 E10.st (Nat.le_refl _) hlt _ _ _ _ _, (tell_par rfl T4 (tell_k2 (ks := .na) T5 T7 T8) T10).map (fun l => Nd.mk wVerity [] 0 (at_ : Nat) l), Nat.le_of_ble_eq_true rfl⟩
 exact (E10.row.done.mono fun g hg => (by omega : w.heap.size ≤ g ∧ g ≠ w.heap.size)).set5 (fun g hg => hg.2) _ _ _ _ _ |>.mono fun g hg => hg.1
end
section
open Go.ChangeShapes Go.WideShapes Go.ChangeAt Go.RowKit
theorem first_bad {bad : Int} {ts : Toks} {i : Nat} (l : List (List UInt8)) (hb : bad ≠ 0) : firstW l (isB bad ts i) = [] := by
 refine first_none (fun j hj => ?_)
 unfold isB
 rw [decide_eq_false hb]
 rfl
theorem rzero {w W : World} {rb : Nat} {A : Option Addr} {C : Nat} {ts : Toks} {i i' en : Nat} {bad bad' : Int} {a : Act} {P : Par Nd} {fn : Func} {s : Nat} (hr : fn.results = #[.cell s 24]) (hlt : rb < w.heap.size) (hs : Rst (w.alloc (.cells #[.string ⟨#[]⟩, .string ⟨#[]⟩, .int .i64 0, .int .i64 0, .slice none 0 0] 24)) rb A C ts i en W i' bad') (hT : Tell bad (P en (ts.drop i)) ts (Nd.mk [] [] 0 0 []) i' bad') (ha : a.tmps[s]?.getD undef = .pointer (some ⟨w.heap.size, 0, none⟩)) (hd : a.defers = []) : bodyPost Tryz.prog fn (RNode w rb A C ts i en bad P) .ret a (put5 W w.heap.size (.string ⟨#[]⟩) (.string ⟨#[]⟩) (.int .i64 0) (.int .i64 0) (.slice none 0 0)) := by
 have hN := Has.new w 24 #[.string ⟨#[]⟩, .string ⟨#[]⟩, .int .i64 0, .int .i64 0, .slice none 0 0]
 have hN1 : Has W w.heap.size 24 #[.string ⟨#[]⟩, .string ⟨#[]⟩, .int .i64 0, .int .i64 0, .slice none 0 0] := hN.kp hs.2.2.1 (by omega)
 refine ret_node hr ha (hN1.set5 _ _ _ _ _) hd ?_
 exact ⟨i', bad', .mk [] [] 0 0 [], none, 0, rfl, NdR.nil _ _, Rst.set5 hs.left (Nat.le_refl _) hlt _ _ _ _ _, hT, Nat.zero_le _⟩
theorem rex_none {w : World} {rb : Nat} {A : Option Addr} {C : Nat} {ts : Toks} {i en : Nat} {bad k : Int} (h : RdrAt w rb A C ts i en bad k) (d N : Nat) (hN : N ≤ 12) (hb : bad ≠ 0) : Calls Tryz.prog 48 #[.pointer (some ⟨rb, 0, none⟩), .int .i64 (N : Nat)] w (RNode w rb A C ts i en bad (pexpr d)) := by
 have hlt := h.has.lt
 have h0 := h.kp (b_one w (.cells #[.string ⟨#[]⟩, .string ⟨#[]⟩, .int .i64 0, .int .i64 0, .slice none 0 0] 24))
 have hN0 := Has.new w 24 #[.string ⟨#[]⟩, .string ⟨#[]⟩, .int .i64 0, .int .i64 0, .slice none 0 0]
 have ho := rop_c h0
 rw [first_bad _ hb] at ho
 have hd0 : decide (bad = 0) = false := decide_eq_false hb
 have hd1 : (bad == 0) = false := by simpa using hb
 have hd2 : (bad != 0) = true := by rw [bne, hd1]; rfl
 have hR := h
 go_enter Tryz.func48, Tryz.ntmps48
 go_wp2_with (first
  | ((go_at_call 77)
     (refine ho.mono ?_)
     (rintro e w1 ⟨rfl, hb1⟩)
     (have h1 := h0.kp hb1)
     (have c1 := h1.has.cell 3)
     (have l1 := h1.has.lt)
     (simp only [ga1, gz1, gs1] at c1)
     (have hN1 := hN0.below hb1 hN0.lt)
     (have n1 := hN1.lt)
     (have a0 := hN1.cell 0)
     (have b0 := hN1.free 0)
     (have a1 := hN1.cell 1)
     (have b1 := hN1.free 1)
     (have a2 := hN1.cell 2)
     (have b2 := hN1.free 2)
     (have a3 := hN1.cell 3)
     (have b3 := hN1.free 3)
     (have a4 := hN1.cell 4)
     (have b4 := hN1.free 4)))
 exact rzero rfl hlt ((Rst.refl h0).below hb1 (Nat.le_refl _) h0.has.lt) (Tell.bad hb hb _ _ _ _) rfl rfl
theorem rex_deep' {w : World} {rb : Nat} {A : Option Addr} {C : Nat} {ts : Toks} {i en : Nat} {bad k : Int} (h : RdrAt w rb A C ts i en bad k) : Calls Tryz.prog 48 #[.pointer (some ⟨rb, 0, none⟩), .int .i64 13] w (RNode w rb A C ts i en bad (pexpr 0)) := by
 have hlt := h.has.lt
 have h0 := h.kp (b_one w (.cells #[.string ⟨#[]⟩, .string ⟨#[]⟩, .int .i64 0, .int .i64 0, .slice none 0 0] 24))
 have hN0 := Has.new w 24 #[.string ⟨#[]⟩, .string ⟨#[]⟩, .int .i64 0, .int .i64 0, .slice none 0 0]
 have hF := rfail_c h0 112 (by decide)
 have hR := h
 go_enter Tryz.func48, Tryz.ntmps48
 go_wp2_with (first
  | ((go_at_call 44)
     (refine hF.mono ?_)
     (rintro e w1 ⟨rfl, b1, k1, hb1, h1, hk1⟩)
     (have ho := rop_c h1)
     (rw [first_bad _ hb1] at ho)
     (have hd0 : decide (b1 = 0) = false := decide_eq_false hb1)
     (have hd1 : (b1 == 0) = false := by simpa using hb1)
     (have hd2 : (b1 != 0) = true := by rw [bne, hd1]; rfl))
  | ((go_at_call 77)
     (refine ho.mono ?_)
     (rintro e w2 ⟨rfl, hb2⟩)
     (have h2 := h1.kp hb2)
     (have c1 := h2.has.cell 3)
     (have l1 := h2.has.lt)
     (simp only [ga1, gz1, gs1] at c1)
     (have hN1 := (hN0.kp hk1 (by omega)).below hb2 (hN0.kp hk1 (by omega)).lt)
     (have n1 := hN1.lt)
     (have a0 := hN1.cell 0)
     (have b0 := hN1.free 0)
     (have a1 := hN1.cell 1)
     (have b1 := hN1.free 1)
     (have a2 := hN1.cell 2)
     (have b2 := hN1.free 2)
     (have a3 := hN1.cell 3)
     (have b3 := hN1.free 3)
     (have a4 := hN1.cell 4)
     (have b4 := hN1.free 4)))
 exact rzero rfl hlt ((Rst.of (Nat.le_refl _) hk1 h1).below hb2 hk1.size h0.has.lt) (Tell.err (e := (112, place en (ts.drop i))) rfl hb1 _ _ _) rfl rfl
theorem rex_use' {w : World} {rb : Nat} {A : Option Addr} {C : Nat} {ts : Toks} {i en : Nat} {k : Int} (h : RdrAt w rb A C ts i en 0 k) (d N : Nat) (hN : N ≤ 12) (hf : firstW OPS (isB 0 ts i) = []) (hi : ∀ hi : i < ts.length, ts[i].1.kind = 0 → (inside ts[i].1.s).1.length = 0) : Calls Tryz.prog 48 #[.pointer (some ⟨rb, 0, none⟩), .int .i64 (N : Nat)] w (RNode w rb A C ts i en 0 (pexpr (d + 1))) := by
 have hpx := px_use (d := d) (en := en) hi
 have hlt := h.has.lt
 have h0 := h.kp (b_one w (.cells #[.string ⟨#[]⟩, .string ⟨#[]⟩, .int .i64 0, .int .i64 0, .slice none 0 0] 24))
 have hN0 := Has.new w 24 #[.string ⟨#[]⟩, .string ⟨#[]⟩, .int .i64 0, .int .i64 0, .slice none 0 0]
 have ho := rop_c h0
 rw [hf, show bs [] = ⟨#[]⟩ from rfl] at ho
 have fin : ∀ (e : Ending) (w' : World), RNode w rb A C ts i en 0 (fun _ _ => pexpr (d + 1) en (ts.drop i)) e w' → RNode w rb A C ts i en 0 (pexpr (d + 1)) e w' := fun e w' h => h
 rw [hpx] at fin
 clear hpx hi hf
 have hR := h
 go_enter Tryz.func48, Tryz.ntmps48
 go_wp2_with (first
  | ((go_at_call 77)
     (refine ho.mono ?_)
     (rintro e w1 ⟨rfl, hb1⟩)
     (have h1 := h0.kp hb1)
     (have c1 := h1.has.cell 3)
     (have l1 := h1.has.lt)
     (simp only [ga1, gz1, gs1] at c1)
     (have hnm := rname_c' h1))
  | ((go_at_call 45)
     (refine hnm.mono ?_)
     (rintro e w2 ⟨i2, bb2, ⟨⟨tk, tss, tn⟩, ta⟩, rfl, s2, T2, hx2⟩)
     (have hN1 := (hN0.below hb1 hN0.lt).kp s2.2.2.1 (by omega))
     (have n1 := hN1.lt)
     (have m1 : w.heap.size ≠ w2.heap.size := by omega)
     (have a0 := hN1.cell 0)
     (have b0 := hN1.free 0)
     (have a1 := hN1.cell 1)
     (have b1 := hN1.free 1)
     (have a2 := hN1.cell 2)
     (have b2 := hN1.free 2)
     (have a3 := hN1.cell 3)
     (have b3 := hN1.free 3)
     (have a4 := hN1.cell 4)
     (have b4 := hN1.free 4)
     (simp only [tkv])))
 refine ret_node rfl rfl ((hN1.set5 _ _ _ _ _).alloc _) rfl (fin _ _ ?_)
 have hs : Rst w rb A C ts i en w2 i2 bb2 := (((Rst.refl h0).below hb1 (Nat.le_refl _) h0.has.lt).left).trans s2
 exact ⟨i2, bb2, .mk wUse tss 0 (ta : Nat) [], none, 0, rfl, NdR.nil _ _, (Rst.set5 hs (Nat.le_refl _) hlt _ _ _ _ _).alloc _, T2.map (fun t : Tk × Nat => Nd.mk wUse t.1.s 0 ((t.2 : Nat) : Int) []), Nat.zero_le _⟩
theorem rexpr_c {rb : Nat} {A : Option Addr} {C : Nat} {ts : Toks} {en : Nat} (hG : Goodt ts) (d : Nat) : ∀ (N : Nat) (w : World) (i : Nat) (bad k : Int), N + d = 13 → RdrAt w rb A C ts i en bad k → Calls Tryz.prog 48 #[.pointer (some ⟨rb, 0, none⟩), .int .i64 (N : Nat)] w (RNode w rb A C ts i en bad (pexpr d)) := by
 induction d with
 | zero =>
   intro N w i bad k hNd h
   obtain rfl : N = 13 := by omega
   exact rex_deep' h
 | succ d ih =>
   intro N w i bad k hNd h
   by_cases hb : bad = 0
   · subst hb
     have hx : ∀ (w : World) (i : Nat) (bad k : Int), RdrAt w rb A C ts i en bad k → Calls Tryz.prog 48 #[.pointer (some ⟨rb, 0, none⟩), .int .i64 ((N : Int) + 1)] w (RNode w rb A C ts i en bad (pexpr d)) := by
      intro w i bad k h
      have := ih (N + 1) w i bad k (by omega) h
      rw [show (((N + 1 : Nat)) : Int) = (N : Int) + 1 by omega] at this
      exact this
     by_cases hw : ∃ hi : i < ts.length, ts[i].1.kind = 0 ∧ ts[i].1.s ∈ OPS
     · obtain ⟨hi, hk, hm⟩ := hw
       simp only [OPS, List.mem_cons, List.not_mem_nil, or_false] at hm
       rcases hm with e | e | e | e | e | e | e
       · exact rex_Linear h hG d N (by omega) hi hk e hx
       · exact rex_Concat h hG d N (by omega) hi hk e hx
       · exact rex_Mirror h hG d N (by omega) hi hk e hx
       · exact rex_Snapshot h hG d N (by omega) hi hk e hx
       · exact rex_Crypt h hG d N (by omega) hi hk e hx
       · exact rex_Integrity h hG d N (by omega) hi hk e hx
       · exact rex_Verity h hG d N (by omega) hi hk e hx
     · refine rex_use' h d N (by omega) (first_none fun j hj => ?_) ?_
       · cases hc : isB 0 ts i OPS[j] with
         | false => rfl
         | true =>
           obtain ⟨_, hi, hp⟩ := isB_true hc
           have hmem := List.getElem_mem hj
           obtain ⟨e1, e2⟩ := wd_kind hG hi (by
            intro c e
            rw [e] at hmem
            simp only [OPS, List.mem_cons, List.not_mem_nil, or_false] at hmem
            rcases hmem with q | q | q | q | q | q | q <;> cases q) hp
           exact absurd ⟨hi, e1, by rw [e2]; exact hmem⟩ hw
       · intro hi hk
         have hm : ts[i].1.s ∉ OPS := fun e => hw ⟨hi, hk, e⟩
         simp only [OPS, List.mem_cons, List.not_mem_nil, or_false, not_or] at hm
         obtain ⟨m1, m2, m3, m4, m5, m6, m7⟩ := hm
         unfold inside
         rw [if_neg m1, if_neg (by simp [m2, m3]), if_neg m4, if_neg (by simp [m5, m6, m7])]
         rfl
   · exact rex_none h (d + 1) N (by omega) hb
end
section
open Go.ChangeShapes Go.WideShapes Go.ChangeAt Go.RowKit
structure SAt (w0 : World) (rb : Nat) (A : Option Addr) (C : Nat) (ts : Toks) (i0 en : Nat) (q : Nat) (cs : Array Value) (wr : World) (i' : Nat) (bad' : Int) : Prop where
 st : Rst w0 rb A C ts i0 en wr i' bad'
 hp : Has wr w0.heap.size 24 #[.string ⟨#[]⟩, .string ⟨#[]⟩, .int .i64 0, .int .i64 0, .slice none 0 0]
 hq : Has wr q 24 cs
 lt : rb < w0.heap.size
 pq : w0.heap.size < q
section
variable {w0 : World} {rb : Nat} {A : Option Addr} {C : Nat} {ts : Toks} {i0 en q : Nat} {cs : Array Value} {wr : World} {i' : Nat} {bad' : Int}
theorem SAt.rst (h : SAt w0 rb A C ts i0 en q cs wr i' bad') {w' : World} {i2 : Nat} {b2 : Int} (s : Rst wr rb A C ts i' en w' i2 b2) : SAt w0 rb A C ts i0 en q cs w' i2 b2 := by
 have hlt := h.lt
 have hpq := h.pq
 exact ⟨h.st.trans s, h.hp.kp s.2.2.1 (by omega), h.hq.kp s.2.2.1 (by omega), hlt, hpq⟩
theorem SAt.alloc (h : SAt w0 rb A C ts i0 en q cs wr i' bad') (o : Obj) : SAt w0 rb A C ts i0 en q cs (wr.alloc o) i' bad' := ⟨h.st.alloc o, h.hp.alloc o, h.hq.alloc o, h.lt, h.pq⟩
theorem SAt.drewN (h : SAt w0 rb A C ts i0 en q cs wr i' bad') (n : Nat) : SAt w0 rb A C ts i0 en q cs (wr.drewN n) i' bad' := ⟨h.st.drewN n, h.hp.drewN n, h.hq.drewN n, h.lt, h.pq⟩
theorem SAt.put (h : SAt w0 rb A C ts i0 en q cs wr i' bad') (j : Nat) (v : Value) (cs' : Array Value) (e : cs.setIfInBounds j v = cs') : SAt w0 rb A C ts i0 en q cs' (wr.setCell ⟨q, j, none⟩ v) i' bad' := by
 have hpq := h.pq
 subst e
 exact ⟨h.st.new (q := ⟨q, j, none⟩) (by show _ ≤ q; omega) h.lt v, h.hp.other (by show w0.heap.size ≠ q; omega) v, h.hq.putP j v, h.lt, hpq⟩
theorem SAt.step (h : SAt w0 rb A C ts i0 en q cs wr i' bad') (hi : i' < ts.length) : SAt w0 rb A C ts i0 en q cs (wr.setCell ⟨rb, 1, none⟩ (.int .i64 ((i' : Int) + 1))) (i' + 1) bad' := by
 obtain ⟨k', hH⟩ := h.st.2.2.2
 have hs : Rst wr rb A C ts i' en (wr.setCell ⟨rb, 1, none⟩ (.int .i64 ((i' : Int) + 1))) (i' + 1) bad' := ⟨by omega, by omega, (Kp.refl rb wr).setP 1 _, k', by have := hH.putP 1 (.int .i64 ((i' : Int) + 1)); simpa using this⟩
 exact h.rst hs
theorem SAt.at (h : SAt w0 rb A C ts i0 en q cs wr i' bad') {bad k : Int} (h0 : RdrAt w0 rb A C ts i0 en bad k) : ∃ k', RdrAt wr rb A C ts i' en bad' k' := Rst.at h0 h.st
end
theorem st_start {w w2 : World} {rb : Nat} {A : Option Addr} {C : Nat} {ts : Toks} {i en : Nat} {bad k : Int} {at_ : Int} (h : RdrAt w rb A C ts i en bad k) (hb2 : Below (w.alloc (.cells #[.string ⟨#[]⟩, .string ⟨#[]⟩, .int .i64 0, .int .i64 0, .slice none 0 0] 24)).heap.size (w.alloc (.cells #[.string ⟨#[]⟩, .string ⟨#[]⟩, .int .i64 0, .int .i64 0, .slice none 0 0] 24)) w2) (hlt : rb < w.heap.size) :
  SAt w rb A C ts i en w2.heap.size #[.string ⟨#[]⟩, .string ⟨#[]⟩, .int .i64 0, .int .i64 at_, .slice none 0 0] (w2.alloc (.cells #[.string ⟨#[]⟩, .string ⟨#[]⟩, .int .i64 0, .int .i64 at_, .slice none 0 0] 24)) i bad := by
 have hN := Has.new w 24 #[.string ⟨#[]⟩, .string ⟨#[]⟩, .int .i64 0, .int .i64 0, .slice none 0 0]
 have hN2 := hN.below hb2 hN.lt
 have h0 := h.kp (b_one w (.cells #[.string ⟨#[]⟩, .string ⟨#[]⟩, .int .i64 0, .int .i64 0, .slice none 0 0] 24))
 exact ⟨(((Rst.refl h0).below hb2 (Nat.le_refl _) h0.has.lt).left).alloc _, hN2.alloc _, Has.new _ _ _, hlt, hN2.lt⟩
theorem vol_fin {p rb q B : Nat} {w8 w10 : World} {v : Value} {o o' : Obj} {x8 : Nd} {A8 : Option Addr} {C8 : Nat} {x0 x1 x2 x3 x4 : Value} (N8 : NdR w8 (fun g => B ≤ g) x8.l (.slice A8 x8.l.length C8)) (H9 : Has (((w8.setCell ⟨q, 4, none⟩ v).alloc o).alloc o') (w8.heap.size + 1) 24 #[.string (bs x8.op), .string (bs x8.s), .int .i64 x8.n, .int .i64 x8.a, .slice A8 x8.l.length C8]) (hk : Kp rb (((w8.setCell ⟨q, 4, none⟩ v).alloc o).alloc o') w10) (h1 : rb < p) (h2 : p < q) (h3 : q < B) (h4 : B ≤ w8.heap.size) : NdR (put5 w10 p x0 x1 x2 x3 x4) (fun g => p ≤ g) [x8] (.slice (some ⟨w8.heap.size + 1, 0, none⟩) 1 1) := by
 have n1 := N8.kp ((Kp.refl q w8).setP 4 v) (fun g hg => by omega)
 have n2 := n1.kp (p := rb) (Kp.of (b_two _ o o')) (fun g hg => by omega)
 have n3 := n2.kp hk (fun g hg => by omega)
 have n4 : NdR w10 (fun g => p ≤ g ∧ g ≠ p) x8.l (.slice A8 x8.l.length C8) := n3.mono fun g hg => by omega
 have n5 := NdR.single (P := fun g => p ≤ g ∧ g ≠ p) (H9.kp hk (by omega)) (by omega) n4
 exact (n5.set5 (fun g hg => hg.2) _ _ _ _ _).mono fun g hg => hg.1
theorem ps_op {en : Nat} {ts : Toks} {i : Nat} {o : List UInt8} (hi : i < ts.length) (hk : ts[i].1.kind = 0) (hs : ts[i].1.s = o) (ho : o ∈ stmts) : pstmt en (ts.drop i) = (pbind (ptake isNm) fun u => pbind (prest o) fun r => pbind (ptake (isSg [59])) fun _ => pret (.mk o u.1.s r.1 ts[i].2 r.2)) en (ts.drop (i + 1)) := by
 have hw : isWd stmts ts[i].1 = true := by
  unfold isWd
  rw [hk, hs]
  simp only [beq_self_eq_true, Bool.true_and, List.any_eq_true, beq_iff_eq]
  exact ⟨o, ho, rfl⟩
 show pbind (ptake (isWd stmts)) _ en (ts.drop i) = _
 rw [List.drop_eq_getElem_cons hi]
 simp only [pbind, ptake]
 rw [if_pos hw]
 simp only [hs]
theorem ps_no {en : Nat} {ts : Toks} {i : Nat} (h : ∀ hi : i < ts.length, ts[i].1.kind = 0 → ts[i].1.s ∉ stmts) : ∃ e, pstmt en (ts.drop i) = .error e := by
 by_cases hi : i < ts.length
 · refine ⟨(111, ts[i].2), ?_⟩
   have hw : isWd stmts ts[i].1 = false := by
    unfold isWd
    by_cases hk : ts[i].1.kind = 0
    · have := h hi hk
      cases ha : stmts.any (fun y => ts[i].1.s == y) with
      | false => simp
      | true =>
        simp only [List.any_eq_true, beq_iff_eq] at ha
        obtain ⟨y, hy, e⟩ := ha
        rw [e] at this
        exact absurd hy this
    · have h0 : (ts[i].1.kind == 0) = false := by rw [beq_eq_false_iff_ne]; exact hk
      rw [h0]; rfl
   show pbind (ptake (isWd stmts)) _ en (ts.drop i) = _
   rw [List.drop_eq_getElem_cons hi]
   simp only [pbind, ptake]
   rw [if_neg (by rw [hw]; decide)]
 · refine ⟨(111, en), ?_⟩
   rw [List.drop_eq_nil_of_le (by omega)]
   rfl
end
section
open Go.ChangeShapes Go.WideShapes Go.ChangeAt Go.RowKit
theorem rst_Device {w : World} {rb : Nat} {A : Option Addr} {C : Nat} {ts : Toks} {i en : Nat} {k : Int} (h : RdrAt w rb A C ts i en 0 k) (hG : Goodt ts) (hi : i < ts.length) (hk : ts[i].1.kind = 0) (hs : ts[i].1.s = wDevice) : Calls Tryz.prog 22 #[.pointer (some ⟨rb, 0, none⟩)] w (RNode w rb A C ts i en 0 pstmt) := by
 have hpx := ps_op (en := en) hi hk hs (by decide)
 have hlt := h.has.lt
 have hf := h.few
 have hR := h
 have hB : ∀ s, isB 0 ts i s = (wDevice == s) := by
  intro s
  unfold isB
  rw [comes_at hi]
  unfold isWS
  rw [hk, hs]
  rfl
 have hIs : ∀ (W : World) (k : Int) (s : List UInt8) (b : Bool), RdrAt W rb A C ts i en 0 k → (wDevice == s) = b → Calls Tryz.prog 43 #[.pointer (some ⟨rb, 0, none⟩), .string (bs s)] W fun e w' => e = .returned (.bool b) ∧ ∃ q, w' = W.drewN q := by
  intro W k s b h hb
  have := ris_any h s
  rw [hB, hb] at this
  exact this
 have hpl : ∀ W k, RdrAt W rb A C ts i en 0 k → Calls Tryz.prog 42 #[.pointer (some ⟨rb, 0, none⟩)] W fun e w' => e = .returned (.int .i64 (ts[i].2 : Nat)) ∧ Below W.heap.size W w' := by
  intro W k h
  refine (rplace_c h).mono ?_
  rintro e w' ⟨rfl, q, rfl⟩
  rw [place_at hi]
  exact ⟨rfl, bel_dn (Below.refl _ _) _⟩
 have h0 := h.kp (b_one w (.cells #[.string ⟨#[]⟩, .string ⟨#[]⟩, .int .i64 0, .int .i64 0, .slice none 0 0] 24))
 have fin : ∀ (e : Ending) (w' : World), RNode w rb A C ts i en 0 (fun _ _ => pstmt en (ts.drop i)) e w' → RNode w rb A C ts i en 0 pstmt e w' := fun e w' h => h
 rw [hpx] at fin
 generalize ts[i].2 = at_ at hpl fin
 clear hpx hs hk hB
 have hi5 : (i : Int) ≤ 500 := by omega
 go_enter Tryz.func22, Tryz.ntmps22
 go_wp2_with (first
  | ((go_at_call 42)
     (refine (hpl _ _ h0).mono ?_)
     (rintro e w2 ⟨rfl, hb2⟩)
     (have S3 := (st_start (at_ := ((at_ : Nat) : Int)) hR hb2 hlt).alloc (.cells #[.string ⟨#[100, 101, 118, 105, 99, 101]⟩, .string ⟨#[106, 111, 117, 114, 110, 97, 108]⟩, .string ⟨#[107, 101, 121]⟩, .string ⟨#[114, 111, 111, 116]⟩, .string ⟨#[118, 111, 108, 117, 109, 101]⟩, .string ⟨#[101, 120, 112, 111, 114, 116]⟩] 9))
     (have pq := S3.pq)
     (have G3 : Has ((w2.alloc (.cells #[.string ⟨#[]⟩, .string ⟨#[]⟩, .int .i64 0, .int .i64 (at_ : Nat), .slice none 0 0] 24)).alloc (.cells #[.string ⟨#[100, 101, 118, 105, 99, 101]⟩, .string ⟨#[106, 111, 117, 114, 110, 97, 108]⟩, .string ⟨#[107, 101, 121]⟩, .string ⟨#[114, 111, 111, 116]⟩, .string ⟨#[118, 111, 108, 117, 109, 101]⟩, .string ⟨#[101, 120, 112, 111, 114, 116]⟩] 9)) (w2.heap.size + 1) 9 #[.string ⟨#[100, 101, 118, 105, 99, 101]⟩, .string ⟨#[106, 111, 117, 114, 110, 97, 108]⟩, .string ⟨#[107, 101, 121]⟩, .string ⟨#[114, 111, 111, 116]⟩, .string ⟨#[118, 111, 108, 117, 109, 101]⟩, .string ⟨#[101, 120, 112, 111, 114, 116]⟩] := Has.new_at (by simp))))
 go_loopw [5] (fun z wr => ∃ k : Nat, z = .int .i64 (k : Nat) ∧ Has wr (w2.heap.size + 1) 9 #[.string ⟨#[100, 101, 118, 105, 99, 101]⟩, .string ⟨#[106, 111, 117, 114, 110, 97, 108]⟩, .string ⟨#[107, 101, 121]⟩, .string ⟨#[114, 111, 111, 116]⟩, .string ⟨#[118, 111, 108, 117, 109, 101]⟩, .string ⟨#[101, 120, 112, 111, 114, 116]⟩] ∧ ((k ≤ 0 ∧ SAt w rb A C ts i en w2.heap.size #[.string ⟨#[]⟩, .string ⟨#[]⟩, .int .i64 0, .int .i64 (at_ : Nat), .slice none 0 0] wr i 0) ∨ (k = 1 ∧ SAt w rb A C ts i en w2.heap.size #[.string ⟨#[100, 101, 118, 105, 99, 101]⟩, .string ⟨#[]⟩, .int .i64 0, .int .i64 (at_ : Nat), .slice none 0 0] wr i 0))) (fun z _ => 7 - (intOf z).toNat)
 case atStart => exact ⟨0, rfl, G3, .inl ⟨Nat.zero_le _, S3⟩⟩
 case round =>
  obtain ⟨k, rfl, G4, hS⟩ := hrel
  have lG4 := G4.lt
  rcases hS with ⟨hk, S4⟩ | ⟨rfl, S4⟩
  · obtain ⟨k4, h4⟩ := S4.at hR
    have q0 := S4.hq.cell 0
    have f0 := S4.hq.free 0
    have lq := S4.hq.lt
    obtain rfl : k = 0 := by omega
    have g0 := G4.cell 0
    have hI := hIs wr k4 wDevice true h4 rfl
    rw [show bs wDevice = ⟨#[100, 101, 118, 105, 99, 101]⟩ from rfl] at hI
    go_wp2_with (first
     | ((go_at_call 43)
        (refine hI.mono ?_)
        (rintro e w5 ⟨rfl, q5, rfl⟩)))
    go_roundw
    case rel => exact ⟨1, rfl, (G4.drewN q5).other (by show w2.heap.size + 1 ≠ w2.heap.size; omega) _, .inr ⟨rfl, (S4.drewN q5).put 0 _ _ rfl⟩⟩
    case measure => simp [intOf]
  · obtain ⟨k4, h4⟩ := S4.at hR
    have q0 := S4.hq.cell 0
    have lq := S4.hq.lt
    have S5 := S4.step hi
    obtain ⟨k5, h5⟩ := S5.at hR
    have c4 := h4.has.cell 1
    have d4 := h4.has.free 1
    have l4 := h4.has.lt
    simp only [ga1, gz1, gs1] at c4
    go_wp2_with (first
     | ((go_at_call 45)
        (refine at_wd (wr.setCell ⟨rb, 1, none⟩ (.int .i64 ((i : Int) + 1))) ?_)
        (refine (rname_c' h5).mono ?_)
        (rintro e w5 ⟨i5, b5, ⟨⟨tk5, ts5, tn5⟩, ta5⟩, rfl, s5, T5, x5⟩)
        (have S6 := ((S5.rst s5).put 1 (.string (bs ts5)) #[.string ⟨#[100, 101, 118, 105, 99, 101]⟩, .string (bs ts5), .int .i64 0, .int .i64 (at_ : Nat), .slice none 0 0] rfl).alloc (.cells #[.int .i64 (tk5 : Nat), .string (bs ts5), .int .i64 (tn5 : Nat), .int .i64 (ta5 : Nat)] 100))
        (obtain ⟨k6, h6⟩ := S6.at hR)
        (have q5 := (S5.rst s5).hq.cell 0)
        (have q51 := (S5.rst s5).hq.cell 1)
        (have q52 := (S5.rst s5).hq.cell 2)
        (have q54 := (S5.rst s5).hq.cell 4)
        (have f51 := (S5.rst s5).hq.free 1)
        (have f52 := (S5.rst s5).hq.free 2)
        (have f54 := (S5.rst s5).hq.free 4)
        (have l5 := (S5.rst s5).hq.lt)
        (have m5 : w2.heap.size ≠ w5.heap.size := by omega)
        (simp only [tkv]))
     | ((go_at_call 46)
        (refine at_wd ((w5.setCell ⟨w2.heap.size, 1, none⟩ (.string (bs ts5))).alloc (.cells #[.int .i64 (tk5 : Nat), .string (bs ts5), .int .i64 (tn5 : Nat), .int .i64 (ta5 : Nat)] 100)) ?_)
        (refine (rtoken_c h6 1).mono ?_)
        (rintro e w7 ⟨i7, b7, ⟨⟨tk7, ts7, tn7⟩, ta7⟩, rfl, s7, T7, x7⟩)
        (have S8 := ((S6.rst s7).put 2 (.int .i64 (tn7 : Nat)) #[.string ⟨#[100, 101, 118, 105, 99, 101]⟩, .string (bs ts5), .int .i64 (tn7 : Nat), .int .i64 (at_ : Nat), .slice none 0 0] rfl).alloc (.cells #[.int .i64 (tk7 : Nat), .string (bs ts7), .int .i64 (tn7 : Nat), .int .i64 (ta7 : Nat)] 100))
        (obtain ⟨k8, h8⟩ := S8.at hR)
        (have q72 := (S6.rst s7).hq.cell 2)
        (have f72 := (S6.rst s7).hq.free 2)
        (have l7 := (S6.rst s7).hq.lt)
        (have m7 : w2.heap.size ≠ w7.heap.size := by omega)
        (simp only [tkv]))
     | ((go_at_call 47)
        (refine at_wd ((((w7.setCell ⟨w2.heap.size, 2, none⟩ (.int .i64 (tn7 : Nat)))).alloc (.cells #[.int .i64 (tk7 : Nat), .string (bs ts7), .int .i64 (tn7 : Nat), .int .i64 (ta7 : Nat)] 100))) ?_)
        (refine (rmust_c h8 [59]).mono ?_)
        (rintro e w9 ⟨rfl, i9, b9, s9, t9, T9⟩)
        (rw [sg_eq hG (by decide)] at T9)
        (have S9 := S8.rst s9)
        (have p9 := S9.hp.lt)
        (have r9 := S9.hq.lt)
        (have ca0 := S9.hp.cell 0)
        (have ca1 := S9.hp.cell 1)
        (have ca2 := S9.hp.cell 2)
        (have ca3 := S9.hp.cell 3)
        (have ca4 := S9.hp.cell 4)
        (have fa0 := S9.hp.free 0)
        (have fa1 := S9.hp.free 1)
        (have fa2 := S9.hp.free 2)
        (have fa3 := S9.hp.free 3)
        (have fa4 := S9.hp.free 4)
        (have cb0 := S9.hq.cell 0)
        (have cb1 := S9.hq.cell 1)
        (have cb2 := S9.hq.cell 2)
        (have cb3 := S9.hq.cell 3)
        (have cb4 := S9.hq.cell 4))
     )
    refine ret_node rfl rfl (S9.hp.set5 _ _ _ _ _) rfl (fin _ _ ?_)
    refine ⟨i9, b9, .mk wDevice ts5 (tn7 : Nat) (at_ : Nat) [], none, 0, rfl, ?_, Rst.set5 S9.st (Nat.le_refl _) hlt _ _ _ _ _, T5.bind ((show Tell b5 (prest wDevice en (ts.drop i5)) ts ((tn7 : Int), []) i7 b7 from T7.map (fun t : Tk × Nat => (((t.1.n : Nat) : Int), ([] : List Nd)))).bind (T9.map (fun _ => Nd.mk wDevice ts5 (tn7 : Nat) (at_ : Nat) []))), Nat.le_of_ble_eq_true rfl⟩
    exact NdR.nil _ _
end
section
open Go.ChangeShapes Go.WideShapes Go.ChangeAt Go.RowKit
theorem rst_Journal {w : World} {rb : Nat} {A : Option Addr} {C : Nat} {ts : Toks} {i en : Nat} {k : Int} (h : RdrAt w rb A C ts i en 0 k) (hG : Goodt ts) (hi : i < ts.length) (hk : ts[i].1.kind = 0) (hs : ts[i].1.s = wJournal) : Calls Tryz.prog 22 #[.pointer (some ⟨rb, 0, none⟩)] w (RNode w rb A C ts i en 0 pstmt) := by
 have hpx := ps_op (en := en) hi hk hs (by decide)
 have hlt := h.has.lt
 have hf := h.few
 have hR := h
 have hB : ∀ s, isB 0 ts i s = (wJournal == s) := by
  intro s
  unfold isB
  rw [comes_at hi]
  unfold isWS
  rw [hk, hs]
  rfl
 have hIs : ∀ (W : World) (k : Int) (s : List UInt8) (b : Bool), RdrAt W rb A C ts i en 0 k → (wJournal == s) = b → Calls Tryz.prog 43 #[.pointer (some ⟨rb, 0, none⟩), .string (bs s)] W fun e w' => e = .returned (.bool b) ∧ ∃ q, w' = W.drewN q := by
  intro W k s b h hb
  have := ris_any h s
  rw [hB, hb] at this
  exact this
 have hpl : ∀ W k, RdrAt W rb A C ts i en 0 k → Calls Tryz.prog 42 #[.pointer (some ⟨rb, 0, none⟩)] W fun e w' => e = .returned (.int .i64 (ts[i].2 : Nat)) ∧ Below W.heap.size W w' := by
  intro W k h
  refine (rplace_c h).mono ?_
  rintro e w' ⟨rfl, q, rfl⟩
  rw [place_at hi]
  exact ⟨rfl, bel_dn (Below.refl _ _) _⟩
 have h0 := h.kp (b_one w (.cells #[.string ⟨#[]⟩, .string ⟨#[]⟩, .int .i64 0, .int .i64 0, .slice none 0 0] 24))
 have fin : ∀ (e : Ending) (w' : World), RNode w rb A C ts i en 0 (fun _ _ => pstmt en (ts.drop i)) e w' → RNode w rb A C ts i en 0 pstmt e w' := fun e w' h => h
 rw [hpx] at fin
 generalize ts[i].2 = at_ at hpl fin
 clear hpx hs hk hB
 have hi5 : (i : Int) ≤ 500 := by omega
 go_enter Tryz.func22, Tryz.ntmps22
 go_wp2_with (first
  | ((go_at_call 42)
     (refine (hpl _ _ h0).mono ?_)
     (rintro e w2 ⟨rfl, hb2⟩)
     (have S3 := (st_start (at_ := ((at_ : Nat) : Int)) hR hb2 hlt).alloc (.cells #[.string ⟨#[100, 101, 118, 105, 99, 101]⟩, .string ⟨#[106, 111, 117, 114, 110, 97, 108]⟩, .string ⟨#[107, 101, 121]⟩, .string ⟨#[114, 111, 111, 116]⟩, .string ⟨#[118, 111, 108, 117, 109, 101]⟩, .string ⟨#[101, 120, 112, 111, 114, 116]⟩] 9))
     (have pq := S3.pq)
     (have G3 : Has ((w2.alloc (.cells #[.string ⟨#[]⟩, .string ⟨#[]⟩, .int .i64 0, .int .i64 (at_ : Nat), .slice none 0 0] 24)).alloc (.cells #[.string ⟨#[100, 101, 118, 105, 99, 101]⟩, .string ⟨#[106, 111, 117, 114, 110, 97, 108]⟩, .string ⟨#[107, 101, 121]⟩, .string ⟨#[114, 111, 111, 116]⟩, .string ⟨#[118, 111, 108, 117, 109, 101]⟩, .string ⟨#[101, 120, 112, 111, 114, 116]⟩] 9)) (w2.heap.size + 1) 9 #[.string ⟨#[100, 101, 118, 105, 99, 101]⟩, .string ⟨#[106, 111, 117, 114, 110, 97, 108]⟩, .string ⟨#[107, 101, 121]⟩, .string ⟨#[114, 111, 111, 116]⟩, .string ⟨#[118, 111, 108, 117, 109, 101]⟩, .string ⟨#[101, 120, 112, 111, 114, 116]⟩] := Has.new_at (by simp))))
 go_loopw [5] (fun z wr => ∃ k : Nat, z = .int .i64 (k : Nat) ∧ Has wr (w2.heap.size + 1) 9 #[.string ⟨#[100, 101, 118, 105, 99, 101]⟩, .string ⟨#[106, 111, 117, 114, 110, 97, 108]⟩, .string ⟨#[107, 101, 121]⟩, .string ⟨#[114, 111, 111, 116]⟩, .string ⟨#[118, 111, 108, 117, 109, 101]⟩, .string ⟨#[101, 120, 112, 111, 114, 116]⟩] ∧ ((k ≤ 1 ∧ SAt w rb A C ts i en w2.heap.size #[.string ⟨#[]⟩, .string ⟨#[]⟩, .int .i64 0, .int .i64 (at_ : Nat), .slice none 0 0] wr i 0) ∨ (k = 2 ∧ SAt w rb A C ts i en w2.heap.size #[.string ⟨#[106, 111, 117, 114, 110, 97, 108]⟩, .string ⟨#[]⟩, .int .i64 0, .int .i64 (at_ : Nat), .slice none 0 0] wr i 0))) (fun z _ => 7 - (intOf z).toNat)
 case atStart => exact ⟨0, rfl, G3, .inl ⟨Nat.zero_le _, S3⟩⟩
 case round =>
  obtain ⟨k, rfl, G4, hS⟩ := hrel
  have lG4 := G4.lt
  rcases hS with ⟨hk, S4⟩ | ⟨rfl, S4⟩
  · obtain ⟨k4, h4⟩ := S4.at hR
    have q0 := S4.hq.cell 0
    have f0 := S4.hq.free 0
    have lq := S4.hq.lt
    rcases (by omega : k = 0 ∨ k = 1) with rfl | rfl
    · have g0 := G4.cell 0
      have hI := hIs wr k4 wDevice false h4 rfl
      rw [show bs wDevice = ⟨#[100, 101, 118, 105, 99, 101]⟩ from rfl] at hI
      go_wp2_with (first
       | ((go_at_call 43)
          (refine hI.mono ?_)
          (rintro e w5 ⟨rfl, q5, rfl⟩)))
      go_roundw
      case rel => exact ⟨1, rfl, G4.drewN q5, .inl ⟨by omega, S4.drewN q5⟩⟩
      case measure => simp [intOf]
    · have g0 := G4.cell 1
      have hI := hIs wr k4 wJournal true h4 rfl
      rw [show bs wJournal = ⟨#[106, 111, 117, 114, 110, 97, 108]⟩ from rfl] at hI
      go_wp2_with (first
       | ((go_at_call 43)
          (refine hI.mono ?_)
          (rintro e w5 ⟨rfl, q5, rfl⟩)))
      go_roundw
      case rel => exact ⟨2, rfl, (G4.drewN q5).other (by show w2.heap.size + 1 ≠ w2.heap.size; omega) _, .inr ⟨rfl, (S4.drewN q5).put 0 _ _ rfl⟩⟩
      case measure => simp [intOf]
  · obtain ⟨k4, h4⟩ := S4.at hR
    have q0 := S4.hq.cell 0
    have lq := S4.hq.lt
    have S5 := S4.step hi
    obtain ⟨k5, h5⟩ := S5.at hR
    have c4 := h4.has.cell 1
    have d4 := h4.has.free 1
    have l4 := h4.has.lt
    simp only [ga1, gz1, gs1] at c4
    go_wp2_with (first
     | ((go_at_call 45)
        (refine at_wd (wr.setCell ⟨rb, 1, none⟩ (.int .i64 ((i : Int) + 1))) ?_)
        (refine (rname_c' h5).mono ?_)
        (rintro e w5 ⟨i5, b5, ⟨⟨tk5, ts5, tn5⟩, ta5⟩, rfl, s5, T5, x5⟩)
        (have S6 := ((S5.rst s5).put 1 (.string (bs ts5)) #[.string ⟨#[106, 111, 117, 114, 110, 97, 108]⟩, .string (bs ts5), .int .i64 0, .int .i64 (at_ : Nat), .slice none 0 0] rfl).alloc (.cells #[.int .i64 (tk5 : Nat), .string (bs ts5), .int .i64 (tn5 : Nat), .int .i64 (ta5 : Nat)] 100))
        (obtain ⟨k6, h6⟩ := S6.at hR)
        (have q5 := (S5.rst s5).hq.cell 0)
        (have q51 := (S5.rst s5).hq.cell 1)
        (have q52 := (S5.rst s5).hq.cell 2)
        (have q54 := (S5.rst s5).hq.cell 4)
        (have f51 := (S5.rst s5).hq.free 1)
        (have f52 := (S5.rst s5).hq.free 2)
        (have f54 := (S5.rst s5).hq.free 4)
        (have l5 := (S5.rst s5).hq.lt)
        (have m5 : w2.heap.size ≠ w5.heap.size := by omega)
        (simp only [tkv]))
     | ((go_at_call 46)
        (refine at_wd ((w5.setCell ⟨w2.heap.size, 1, none⟩ (.string (bs ts5))).alloc (.cells #[.int .i64 (tk5 : Nat), .string (bs ts5), .int .i64 (tn5 : Nat), .int .i64 (ta5 : Nat)] 100)) ?_)
        (refine (rtoken_c h6 1).mono ?_)
        (rintro e w7 ⟨i7, b7, ⟨⟨tk7, ts7, tn7⟩, ta7⟩, rfl, s7, T7, x7⟩)
        (have S8 := ((S6.rst s7).put 2 (.int .i64 (tn7 : Nat)) #[.string ⟨#[106, 111, 117, 114, 110, 97, 108]⟩, .string (bs ts5), .int .i64 (tn7 : Nat), .int .i64 (at_ : Nat), .slice none 0 0] rfl).alloc (.cells #[.int .i64 (tk7 : Nat), .string (bs ts7), .int .i64 (tn7 : Nat), .int .i64 (ta7 : Nat)] 100))
        (obtain ⟨k8, h8⟩ := S8.at hR)
        (have q72 := (S6.rst s7).hq.cell 2)
        (have f72 := (S6.rst s7).hq.free 2)
        (have l7 := (S6.rst s7).hq.lt)
        (have m7 : w2.heap.size ≠ w7.heap.size := by omega)
        (simp only [tkv]))
     | ((go_at_call 47)
        (refine at_wd ((((w7.setCell ⟨w2.heap.size, 2, none⟩ (.int .i64 (tn7 : Nat)))).alloc (.cells #[.int .i64 (tk7 : Nat), .string (bs ts7), .int .i64 (tn7 : Nat), .int .i64 (ta7 : Nat)] 100))) ?_)
        (refine (rmust_c h8 [59]).mono ?_)
        (rintro e w9 ⟨rfl, i9, b9, s9, t9, T9⟩)
        (rw [sg_eq hG (by decide)] at T9)
        (have S9 := S8.rst s9)
        (have p9 := S9.hp.lt)
        (have r9 := S9.hq.lt)
        (have ca0 := S9.hp.cell 0)
        (have ca1 := S9.hp.cell 1)
        (have ca2 := S9.hp.cell 2)
        (have ca3 := S9.hp.cell 3)
        (have ca4 := S9.hp.cell 4)
        (have fa0 := S9.hp.free 0)
        (have fa1 := S9.hp.free 1)
        (have fa2 := S9.hp.free 2)
        (have fa3 := S9.hp.free 3)
        (have fa4 := S9.hp.free 4)
        (have cb0 := S9.hq.cell 0)
        (have cb1 := S9.hq.cell 1)
        (have cb2 := S9.hq.cell 2)
        (have cb3 := S9.hq.cell 3)
        (have cb4 := S9.hq.cell 4))
     )
    refine ret_node rfl rfl (S9.hp.set5 _ _ _ _ _) rfl (fin _ _ ?_)
    refine ⟨i9, b9, .mk wJournal ts5 (tn7 : Nat) (at_ : Nat) [], none, 0, rfl, ?_, Rst.set5 S9.st (Nat.le_refl _) hlt _ _ _ _ _, T5.bind ((show Tell b5 (prest wJournal en (ts.drop i5)) ts ((tn7 : Int), []) i7 b7 from T7.map (fun t : Tk × Nat => (((t.1.n : Nat) : Int), ([] : List Nd)))).bind (T9.map (fun _ => Nd.mk wJournal ts5 (tn7 : Nat) (at_ : Nat) []))), Nat.le_of_ble_eq_true rfl⟩
    exact NdR.nil _ _
end
end Go.Proofs.YthndifegfmjpbaaGreatDoor
