/- Texts that the statements of this stage share, joined. -/
import Derived.Test.YthndifegfmjpbaaGreatDoorJoint10
import Derived.Test.YthndifegfmjpbaaGreatDoorJoint07
import Derived.Test.YthndifegfmjpbaaGreatDoorJoint08
namespace Go.Proofs.YthndifegfmjpbaaGreatDoor
set_option linter.unusedVariables false
set_option maxRecDepth 100000
set_option maxHeartbeats 40000000
section
open Go.ChangeShapes Go.WideShapes Go.ChangeAt Go.RowKit
def RNode (w : World) (rb : Nat) (A : Option Addr) (C : Nat) (ts : Toks) (i en : Nat) (bad : Int) (P : Par Nd) (e : Ending) (w' : World) : Prop := ∃ (i' : Nat) (bad' : Int) (x : Nd) (Ax : Option Addr) (Cx : Nat), e = .returned (.agg (ndc x (.slice Ax x.l.length Cx))) ∧ NdR w' (fun g => w.heap.size ≤ g) x.l (.slice Ax x.l.length Cx) ∧ Rst w rb A C ts i en w' i' bad' ∧ Tell bad (P en (ts.drop i)) ts x i' bad' ∧ x.l.length ≤ 501
theorem bel_dn {B : Nat} {w w' : World} (h : Below B w w') (n : Nat) : Below B w (w'.drewN n) := ⟨h.os, h.tape, h.output, h.size, h.block⟩
theorem run_at_tok {o : Oper} {a : Act} (x i : Operand) (ho : o.op = .indexAddr 56 x i) (g off k n cap : Nat) (hx : a.eval x = .slice (some ⟨g, off, none⟩) n cap) (hi : a.eval i = .int .i64 (k : Nat)) (hk : k < n) (w : World) : (execOp a.eval o).run Tryz.prog w = .ok (.value (.pointer (some ⟨g, off + k * 4, none⟩))) w := by
 unfold execOp
 obtain ⟨i0, hq, hz0, hz, hz2⟩ := info_parts Tryz.infoTok
 simp only [ho, hx, hi]
 simp [Instr.indexAt, Instr.sureAddr, run_underlying Tryz.underlying56, asIntOf, sizeOf, typeInfo, hq, hz, Addr.add_mid, go_sem]
 intro h
 omega
theorem Rst.set5 {w w1 : World} {rb : Nat} {A : Option Addr} {C : Nat} {ts : Toks} {i i' en : Nat} {bad' : Int} (h : Rst w rb A C ts i en w1 i' bad') {g : Nat} (hq : w.heap.size ≤ g) (hr : rb < w.heap.size) (x0 x1 x2 x3 x4 : Value) : Rst w rb A C ts i en (put5 w1 g x0 x1 x2 x3 x4) i' bad' :=
 ((((h.new (q := ⟨g, 0, none⟩) hq hr x0).new (q := ⟨g, 1, none⟩) hq hr x1).new (q := ⟨g, 2, none⟩) hq hr x2).new (q := ⟨g, 3, none⟩) hq hr x3).new (q := ⟨g, 4, none⟩) hq hr x4
theorem rnumber_c {w : World} {rb : Nat} {A : Option Addr} {C : Nat} {ts : Toks} {i en : Nat} {bad k : Int} (h : RdrAt w rb A C ts i en bad k) (pe : Par Nd) : Calls Tryz.prog 78 #[.pointer (some ⟨rb, 0, none⟩)] w (RNode w rb A C ts i en bad (ppart pe .nu)) := by
 have hlt := h.has.lt
 have h' := h.kp (b_one w (.cells #[.string ⟨#[]⟩, .string ⟨#[]⟩, .int .i64 0, .int .i64 0, .slice none 0 0] 24))
 have hN := Has.new w 24 #[.string ⟨#[]⟩, .string ⟨#[]⟩, .int .i64 0, .int .i64 0, .slice none 0 0]
 have hc := rtoken_c h' 1
 have fin : ∀ (w1 : World) (i' : Nat) (bad' : Int) (tk : Nat) (tss : List UInt8) (tn ta : Nat) (a : Act), Rst (w.alloc (.cells #[.string ⟨#[]⟩, .string ⟨#[]⟩, .int .i64 0, .int .i64 0, .slice none 0 0] 24)) rb A C ts i en w1 i' bad' → Tell bad (ptake (isKi 1) en (ts.drop i)) ts ((⟨tk, tss, tn⟩ : Tk), ta) i' bad' → a.tmps[2]?.getD undef = .pointer (some ⟨w.heap.size, 0, none⟩) → a.defers = [] → bodyPost Tryz.prog Tryz.f78 (RNode w rb A C ts i en bad (ppart pe .nu)) .ret a ((put5 w1 w.heap.size (.string ⟨#[110, 117, 109]⟩) (.string ⟨#[]⟩) (.int .i64 (tn : Nat)) (.int .i64 (ta : Nat)) (.slice none 0 0)).alloc (.cells #[.int .i64 (tk : Nat), .string (bs tss), .int .i64 (tn : Nat), .int .i64 (ta : Nat)] 100)) := by
  intro w1 i' bad' tk tss tn ta a hs hT ha hd
  have hN1 : Has w1 w.heap.size 24 #[.string ⟨#[]⟩, .string ⟨#[]⟩, .int .i64 0, .int .i64 0, .slice none 0 0] := (hs.2.2.1.block _ hN.lt (fun e => by cases e; omega)).trans hN
  refine ret_node rfl ha ((hN1.set5 _ _ _ _ _).alloc _) hd ?_
  refine ⟨i', bad', Nd.mk wNum [] (tn : Nat) (ta : Nat) [], none, 0, rfl, NdR.nil _ _, ?_, hT.map (fun t => Nd.mk wNum [] ((t.1.n : Nat) : Int) ((t.2 : Nat) : Int) [] : Tk × Nat → Nd), by show 0 ≤ 501; omega⟩
  exact (Rst.set5 hs.left (Nat.le_refl _) hlt _ _ _ _ _).alloc _
 clear h h'
 go_enter Tryz.func78, Tryz.ntmps78
 go_wp2_with (first
  | ((go_at_call 46)
     (refine hc.mono ?_)
     (rintro e w1 ⟨i', bad', ⟨⟨tk, tss, tn⟩, ta⟩, rfl, hs, hT, hx⟩)
     (have hN1 : Has w1 w.heap.size 24 #[.string ⟨#[]⟩, .string ⟨#[]⟩, .int .i64 0, .int .i64 0, .slice none 0 0] := (hs.2.2.1.block _ hN.lt (fun e => by cases e; omega)).trans hN)
     (have n1 := hN1.lt)
     (have m1 : w.heap.size ≠ w1.heap.size := by omega)
     (have a0 := hN1.cell 0)
     (have b0 := hN1.free 0)
     (have a1 := hN1.cell 1)
     (have b1 := hN1.free 1)
     (have a2 := hN1.cell 2)
     (have b2 := hN1.free 2)
     (have a3 := hN1.cell 3)
     (have b3 := hN1.free 3)
     (have a4 := hN1.cell 4)
     (have b4 := hN1.free 4)
     (simp only [tkv])))
 exact fin w1 i' bad' tk tss tn ta _ hs hT rfl rfl
theorem rname_c' {w : World} {rb : Nat} {A : Option Addr} {C : Nat} {ts : Toks} {i en : Nat} {bad k : Int} (h : RdrAt w rb A C ts i en bad k) : Calls Tryz.prog 45 #[.pointer (some ⟨rb, 0, none⟩)] w (RTok w rb A C ts i en bad isNm) := by
 have c0 := h.has.cell 0
 have c1 := h.has.cell 1
 simp only [ga1, gz1, gs1] at c0 c1
 have hlt := h.has.lt
 have hf := h.few
 have hle := h.le
 have h' := h.kp (b_one w (.cells #[.int .i64 0, .string ⟨#[]⟩, .int .i64 0, .int .i64 0] 100))
 have hT0 := Has.new w 100 #[.int .i64 0, .string ⟨#[]⟩, .int .i64 0, .int .i64 0]
 have c0' := below_some (b_one w (.cells #[.int .i64 0, .string ⟨#[]⟩, .int .i64 0, .int .i64 0] 100)) c0
 have c1' := below_some (b_one w (.cells #[.int .i64 0, .string ⟨#[]⟩, .int .i64 0, .int .i64 0] 100)) c1
 have done : ∀ (w1 : World) (i' : Nat) (bad' : Int) (x : Tk × Nat) (a : Act), Rst (w.alloc (.cells #[.int .i64 0, .string ⟨#[]⟩, .int .i64 0, .int .i64 0] 100)) rb A C ts i en w1 i' bad' → Tell bad (ptake isNm en (ts.drop i)) ts x i' bad' → (x ∈ ts ∨ x = (⟨0, [], 0⟩, 0)) → a.tmps[2]?.getD undef = .pointer (some ⟨w.heap.size, 0, none⟩) → a.defers = [] → bodyPost Tryz.prog Tryz.f45 (RTok w rb A C ts i en bad isNm) .ret a ((((w1.setCell ⟨w.heap.size, 0, none⟩ (.int .i64 (x.1.kind : Nat))).setCell ⟨w.heap.size, 1, none⟩ (.string (bs x.1.s))).setCell ⟨w.heap.size, 2, none⟩ (.int .i64 (x.1.n : Nat))).setCell ⟨w.heap.size, 3, none⟩ (.int .i64 (x.2 : Nat))) := by
  intro w1 i' bad' x a hs hT hx ht hd
  have hT2 : Has w1 w.heap.size 100 #[.int .i64 0, .string ⟨#[]⟩, .int .i64 0, .int .i64 0] := (hs.2.2.1.block _ hT0.lt (fun e => by cases e; omega)).trans hT0
  refine ret_tok rfl ht (hT2.set4 _ _ _ _) hd ?_
  refine ⟨i', bad', x, rfl, ?_, hT, hx⟩
  exact (((hs.left.new (q := ⟨w.heap.size, 0, none⟩) (Nat.le_refl _) hlt _).new (q := ⟨w.heap.size, 1, none⟩) (Nat.le_refl _) hlt _).new (q := ⟨w.heap.size, 2, none⟩) (Nat.le_refl _) hlt _).new (q := ⟨w.heap.size, 3, none⟩) (Nat.le_refl _) hlt _
 by_cases hs : ∃ hi : i < ts.length, ts[i].1.kind = 0 ∧ resv ts[i].1.s = true
 · obtain ⟨hi, hk, hr⟩ := hs
   have hcase : pcomes isNm (ts.drop i) = false := by rw [comes_at hi]; simp [isNm, hr]
   obtain ⟨g, off, rfl, hg, hne, htk0⟩ := h.tok i hi
   have htk := htk0.kp (Kp.of (p := rb) (b_one w (.cells #[.int .i64 0, .string ⟨#[]⟩, .int .i64 0, .int .i64 0] 100))) hne hg
   have t0 := htk i hi 0 (by decide)
   have t1 := htk i hi 1 (by decide)
   have hR := fun W => rreserved_c ts[i].1.s W
   have hF := fun W (hb : Below (w.alloc (.cells #[.int .i64 0, .string ⟨#[]⟩, .int .i64 0, .int .i64 0] 100)).heap.size (w.alloc (.cells #[.int .i64 0, .string ⟨#[]⟩, .int .i64 0, .int .i64 0] 100)) W) => rfail_c (h'.kp hb) 111 (by decide)
   clear h h' htk htk0 c0 c1
   generalize ts[i] = t at *
   obtain ⟨⟨tk, tss, tn⟩, ta⟩ := t
   obtain rfl : tk = 0 := hk
   simp only [tkv, List.getElem?_toArray, List.getElem?_cons_zero, List.getElem?_cons_succ, Nat.add_zero] at t0 t1 hr hR
   rw [hr] at hR
   have hii : (i : Int) < (ts.length : Int) := by omega
   have hL : Hid (ts.length = ts.length) := rfl
   go_enter Tryz.func45, Tryz.ntmps45
   go_wp2
   go_quiet (fail)
   go_wp2
   refine wp_region_held_drew (S := fun wz => wz.cell? ⟨rb, 0, none⟩ = some (.slice (some ⟨g, off, none⟩) ts.length C) ∧ wz.cell? ⟨rb, 1, none⟩ = some (.int .i64 (i : Nat)) ∧ wz.cell? ⟨g, off + i * 4 + 1, none⟩ = some (.string (bs tss)) ∧ Below (w.alloc (.cells #[.int .i64 0, .string ⟨#[]⟩, .int .i64 0, .int .i64 0] 100)).heap.size (w.alloc (.cells #[.int .i64 0, .string ⟨#[]⟩, .int .i64 0, .int .i64 0] 100)) wz) (by kernel_rfl) ⟨c0', c1', t1, (bel_dn (Below.refl _ _) _).drew⟩ (fun hHeld => ?_)
   refine tkT 0 (some 28) (.pointer (some ⟨rb, 0, none⟩)) rfl rfl (fun _ _ => rfl) hHeld ?_
   simp only [Act.put, sb1, sz1, ss1]
   refine tkT 1 (some 29) (.pointer (some ⟨rb, 0, none⟩)) rfl rfl (fun _ _ => rfl) hHeld ?_
   simp only [Act.put, sb1, sz1, ss1]
   refine tkT 2 (some 30) (.pointer (some ⟨rb, 0, none⟩)) rfl rfl (fun _ _ => rfl) hHeld ?_
   simp only [Act.put, sb1, sz1, ss1]
   refine tkT 3 (some 31) (.slice (some ⟨g, off, none⟩) ts.length C) rfl rfl (fun wz hz => by obtain ⟨z0, z1, z2, z3⟩ := hz; unfold execOp; go_simp) hHeld ?_
   simp only [Act.put, sb1, sz1, ss1]
   refine tkT 4 (some 32) (.pointer (some ⟨rb, 0, none⟩)) rfl rfl (fun _ _ => rfl) hHeld ?_
   simp only [Act.put, sb1, sz1, ss1]
   refine tkT 5 (some 33) (.pointer (some ⟨rb, 0, none⟩)) rfl rfl (fun _ _ => rfl) hHeld ?_
   simp only [Act.put, sb1, sz1, ss1]
   refine tkT 6 (some 34) (.pointer (some ⟨rb, 1, none⟩)) rfl rfl (fun _ _ => rfl) hHeld ?_
   simp only [Act.put, sb1, sz1, ss1]
   refine tkT 7 (some 35) (.int .i64 (i : Nat)) rfl rfl (fun wz hz => by obtain ⟨z0, z1, z2, z3⟩ := hz; unfold execOp; go_simp) hHeld ?_
   simp only [Act.put, sb1, sz1, ss1]
   refine tkT 8 (some 36) (.pointer (some ⟨g, off + i * 4, none⟩)) rfl rfl (fun wz hz => run_at_tok _ _ rfl g off i ts.length C rfl rfl hi wz) hHeld ?_
   simp only [Act.put, sb1, sz1, ss1]
   refine tkT 9 (some 37) (.pointer (some ⟨g, off + i * 4 + 1, none⟩)) rfl rfl (fun _ _ => rfl) hHeld ?_
   simp only [Act.put, sb1, sz1, ss1]
   refine tkT 10 (some 38) (.string (bs tss)) rfl rfl (fun wz hz => by obtain ⟨z0, z1, z2, z3⟩ := hz; unfold execOp; go_simp) hHeld ?_
   simp only [Act.put, sb1, sz1, ss1]
   refine callTo 11 (some 39) 76 #[.string (bs tss)] (by kernel_rfl) rfl rfl (by rfl) (by kernel_rfl) (hR _) ?_
   rintro e w1 ⟨rfl, hb1⟩
   have hb2 : Below (w.alloc (.cells #[.int .i64 0, .string ⟨#[]⟩, .int .i64 0, .int .i64 0] 100)).heap.size (w.alloc (.cells #[.int .i64 0, .string ⟨#[]⟩, .int .i64 0, .int .i64 0] 100)) w1 := hHeld.2.2.2.trans (hb1.mono hHeld.2.2.2.size)
   have hH1 : w1.cell? ⟨rb, 0, none⟩ = some (.slice (some ⟨g, off, none⟩) ts.length C) ∧ w1.cell? ⟨rb, 1, none⟩ = some (.int .i64 (i : Nat)) ∧ w1.cell? ⟨g, off + i * 4 + 1, none⟩ = some (.string (bs tss)) ∧ Below (w.alloc (.cells #[.int .i64 0, .string ⟨#[]⟩, .int .i64 0, .int .i64 0] 100)).heap.size (w.alloc (.cells #[.int .i64 0, .string ⟨#[]⟩, .int .i64 0, .int .i64 0] 100)) w1 := ⟨below_some hb2 c0', below_some hb2 c1', below_some hb2 t1, hb2⟩
   refine ⟨_, rfl, hH1, ?_⟩
   simp only [Act.put, sb1, sz1, ss1]
   refine tkT 12 (some 3) (.bool true) rfl rfl (fun _ _ => rfl) hH1 ?_
   simp only [Act.put, sb1, sz1, ss1]
   refine wpAnyH_done (by kernel_rfl) ?_ _
   go_wp2_with (first
    | ((go_at_call 44)
       (refine (hF _ hb2).mono ?_)
       (rintro e w2 ⟨rfl, bad', k', hb', h', hk⟩)
       (have hT2 : Has w2 w.heap.size 100 #[.int .i64 0, .string ⟨#[]⟩, .int .i64 0, .int .i64 0] := (hk.block _ (hT0.below hb2 hT0.lt).lt (fun e => by cases e; omega)).trans (hT0.below hb2 hT0.lt))
       (have lt2 := hT2.lt)
       (have a0 := hT2.cell 0)
       (have b0 := hT2.free 0)
       (have a1 := hT2.cell 1)
       (have b1 := hT2.free 1)
       (have a2 := hT2.cell 2)
       (have b2 := hT2.free 2)
       (have a3 := hT2.cell 3)
       (have b3 := hT2.free 3)))
   exact done w2 i bad' (⟨0, [], 0⟩, 0) _ (Rst.of (Nat.le_refl _) ((Kp.of hb2).trans hk) h') (take_fail (.inr hcase) hb' _ _) (.inr rfl) rfl rfl
 · have hpp : pcomes isNm (ts.drop i) = pcomes (isKi 0) (ts.drop i) ∧ (∀ hi : i < ts.length, isKi 0 ts[i].1 = true → isNm ts[i].1 = true) := by
    constructor
    · by_cases hi : i < ts.length
      · rw [comes_at hi, comes_at hi]
        by_cases hk : ts[i].1.kind = 0
        · have : resv ts[i].1.s = false := by cases hr : resv ts[i].1.s with
           | false => rfl
           | true => exact absurd ⟨hi, hk, hr⟩ hs
          simp [isNm, isKi, hk, this]
        · simp [isNm, isKi, hk]
      · rw [comes_end hi, comes_end hi]
    · intro hi hk
      have hk' : ts[i].1.kind = 0 := by simpa [isKi] using hk
      have : resv ts[i].1.s = false := by cases hr : resv ts[i].1.s with
       | false => rfl
       | true => exact absurd ⟨hi, hk', hr⟩ hs
      simp [isNm, hk', this]
   have hpar : ptake isNm en (ts.drop i) = ptake (isKi 0) en (ts.drop i) := by
    by_cases hi : i < ts.length
    · rw [List.drop_eq_getElem_cons hi]
      have e := hpp.1
      rw [comes_at hi, comes_at hi] at e
      simp only [ptake, e]
    · rw [List.drop_eq_nil_of_le (by omega)]; rfl
   have hc := fun q => rtoken_c (h'.drewN q) 0
   have done' : ∀ q (w1 : World) (i' : Nat) (bad' : Int) (x : Tk × Nat) (a : Act), Rst ((w.alloc (.cells #[.int .i64 0, .string ⟨#[]⟩, .int .i64 0, .int .i64 0] 100)).drewN q) rb A C ts i en w1 i' bad' → Tell bad (ptake (isKi 0) en (ts.drop i)) ts x i' bad' → (x ∈ ts ∨ x = (⟨0, [], 0⟩, 0)) → a.tmps[2]?.getD undef = .pointer (some ⟨w.heap.size, 0, none⟩) → a.defers = [] → bodyPost Tryz.prog Tryz.f45 (RTok w rb A C ts i en bad isNm) .ret a ((((w1.setCell ⟨w.heap.size, 0, none⟩ (.int .i64 (x.1.kind : Nat))).setCell ⟨w.heap.size, 1, none⟩ (.string (bs x.1.s))).setCell ⟨w.heap.size, 2, none⟩ (.int .i64 (x.1.n : Nat))).setCell ⟨w.heap.size, 3, none⟩ (.int .i64 (x.2 : Nat))) := fun q w1 i' bad' x a hs' hT hx ht hd => done w1 i' bad' x a ⟨hs'.1, hs'.2.1, ⟨hs'.2.2.1.os, hs'.2.2.1.tape, hs'.2.2.1.output, hs'.2.2.1.size, hs'.2.2.1.block⟩, hs'.2.2.2⟩ (by rw [hpar]; exact hT) hx ht hd
   by_cases hi : i < ts.length
   · obtain ⟨g, off, rfl, hg, hne, htk0⟩ := h.tok i hi
     have htk := htk0.kp (Kp.of (p := rb) (b_one w (.cells #[.int .i64 0, .string ⟨#[]⟩, .int .i64 0, .int .i64 0] 100))) hne hg
     have t0 := htk i hi 0 (by decide)
     have hR := fun W => rreserved_c ts[i].1.s W
     have t1 := htk i hi 1 (by decide)
     have hkr : ts[i].1.kind = 0 → resv ts[i].1.s = false := fun hk => by cases hr : resv ts[i].1.s with
      | false => rfl
      | true => exact absurd ⟨hi, hk, hr⟩ hs
     have hcB := fun W (hb : Below (w.alloc (.cells #[.int .i64 0, .string ⟨#[]⟩, .int .i64 0, .int .i64 0] 100)).heap.size (w.alloc (.cells #[.int .i64 0, .string ⟨#[]⟩, .int .i64 0, .int .i64 0] 100)) W) => rtoken_c (h'.kp hb) 0
     clear h h' htk htk0 c0 c1 hs hpp hpar
     generalize ts[i] = t at *
     obtain ⟨⟨tk, tss, tn⟩, ta⟩ := t
     simp only [tkv, List.getElem?_toArray, List.getElem?_cons_zero, List.getElem?_cons_succ, Nat.add_zero] at t0 t1 hkr hR
     have hii : (i : Int) < (ts.length : Int) := by omega
     by_cases hk0 : tk = 0
     · subst hk0
       rw [hkr rfl] at hR
       clear hkr
       go_enter Tryz.func45, Tryz.ntmps45
       go_wp2
       go_quiet (fail)
       go_wp2
       refine wp_region_held_drew (S := fun wz => wz.cell? ⟨rb, 0, none⟩ = some (.slice (some ⟨g, off, none⟩) ts.length C) ∧ wz.cell? ⟨rb, 1, none⟩ = some (.int .i64 (i : Nat)) ∧ wz.cell? ⟨g, off + i * 4 + 1, none⟩ = some (.string (bs tss)) ∧ Below (w.alloc (.cells #[.int .i64 0, .string ⟨#[]⟩, .int .i64 0, .int .i64 0] 100)).heap.size (w.alloc (.cells #[.int .i64 0, .string ⟨#[]⟩, .int .i64 0, .int .i64 0] 100)) wz) (by kernel_rfl) ⟨c0', c1', t1, (bel_dn (Below.refl _ _) _).drew⟩ (fun hHeld => ?_)
       refine tkT 0 (some 28) (.pointer (some ⟨rb, 0, none⟩)) rfl rfl (fun _ _ => rfl) hHeld ?_
       simp only [Act.put, sb1, sz1, ss1]
       refine tkT 1 (some 29) (.pointer (some ⟨rb, 0, none⟩)) rfl rfl (fun _ _ => rfl) hHeld ?_
       simp only [Act.put, sb1, sz1, ss1]
       refine tkT 2 (some 30) (.pointer (some ⟨rb, 0, none⟩)) rfl rfl (fun _ _ => rfl) hHeld ?_
       simp only [Act.put, sb1, sz1, ss1]
       refine tkT 3 (some 31) (.slice (some ⟨g, off, none⟩) ts.length C) rfl rfl (fun wz hz => by obtain ⟨z0, z1, z2, z3⟩ := hz; unfold execOp; go_simp) hHeld ?_
       simp only [Act.put, sb1, sz1, ss1]
       refine tkT 4 (some 32) (.pointer (some ⟨rb, 0, none⟩)) rfl rfl (fun _ _ => rfl) hHeld ?_
       simp only [Act.put, sb1, sz1, ss1]
       refine tkT 5 (some 33) (.pointer (some ⟨rb, 0, none⟩)) rfl rfl (fun _ _ => rfl) hHeld ?_
       simp only [Act.put, sb1, sz1, ss1]
       refine tkT 6 (some 34) (.pointer (some ⟨rb, 1, none⟩)) rfl rfl (fun _ _ => rfl) hHeld ?_
       simp only [Act.put, sb1, sz1, ss1]
       refine tkT 7 (some 35) (.int .i64 (i : Nat)) rfl rfl (fun wz hz => by obtain ⟨z0, z1, z2, z3⟩ := hz; unfold execOp; go_simp) hHeld ?_
       simp only [Act.put, sb1, sz1, ss1]
       refine tkT 8 (some 36) (.pointer (some ⟨g, off + i * 4, none⟩)) rfl rfl (fun wz hz => run_at_tok _ _ rfl g off i ts.length C rfl rfl hi wz) hHeld ?_
       simp only [Act.put, sb1, sz1, ss1]
       refine tkT 9 (some 37) (.pointer (some ⟨g, off + i * 4 + 1, none⟩)) rfl rfl (fun _ _ => rfl) hHeld ?_
       simp only [Act.put, sb1, sz1, ss1]
       refine tkT 10 (some 38) (.string (bs tss)) rfl rfl (fun wz hz => by obtain ⟨z0, z1, z2, z3⟩ := hz; unfold execOp; go_simp) hHeld ?_
       simp only [Act.put, sb1, sz1, ss1]
       refine callTo 11 (some 39) 76 #[.string (bs tss)] (by kernel_rfl) rfl rfl (by rfl) (by kernel_rfl) (hR _) ?_
       rintro e w1 ⟨rfl, hb1⟩
       have hb2 : Below (w.alloc (.cells #[.int .i64 0, .string ⟨#[]⟩, .int .i64 0, .int .i64 0] 100)).heap.size (w.alloc (.cells #[.int .i64 0, .string ⟨#[]⟩, .int .i64 0, .int .i64 0] 100)) w1 := hHeld.2.2.2.trans (hb1.mono hHeld.2.2.2.size)
       have hH1 : w1.cell? ⟨rb, 0, none⟩ = some (.slice (some ⟨g, off, none⟩) ts.length C) ∧ w1.cell? ⟨rb, 1, none⟩ = some (.int .i64 (i : Nat)) ∧ w1.cell? ⟨g, off + i * 4 + 1, none⟩ = some (.string (bs tss)) ∧ Below (w.alloc (.cells #[.int .i64 0, .string ⟨#[]⟩, .int .i64 0, .int .i64 0] 100)).heap.size (w.alloc (.cells #[.int .i64 0, .string ⟨#[]⟩, .int .i64 0, .int .i64 0] 100)) w1 := ⟨below_some hb2 c0', below_some hb2 c1', below_some hb2 t1, hb2⟩
       refine ⟨_, rfl, hH1, ?_⟩
       simp only [Act.put, sb1, sz1, ss1]
       refine tkT 12 (some 3) (.bool false) rfl rfl (fun _ _ => rfl) hH1 ?_
       simp only [Act.put, sb1, sz1, ss1]
       refine wpAnyH_done (by kernel_rfl) ?_ _
       go_wp2_with (first
        | ((go_at_call 46)
           (refine (hcB _ hb2).mono ?_)
           (rintro e w2 ⟨i', bad', ⟨⟨tk', tss', tn'⟩, ta'⟩, rfl, hs, hT, hx⟩)
           (have hT2 : Has w2 w.heap.size 100 #[.int .i64 0, .string ⟨#[]⟩, .int .i64 0, .int .i64 0] := (hs.2.2.1.block _ (hT0.below hb2 hT0.lt).lt (fun e => by cases e; omega)).trans (hT0.below hb2 hT0.lt))
           (have lt2 := hT2.lt)
           (have a0 := hT2.cell 0)
           (have b0 := hT2.free 0)
           (have a1 := hT2.cell 1)
           (have b1 := hT2.free 1)
           (have a2 := hT2.cell 2)
           (have b2 := hT2.free 2)
           (have a3 := hT2.cell 3)
           (have b3 := hT2.free 3)
           (simp only [tkv])))
       exact done' 0 w2 i' bad' (⟨tk', tss', tn'⟩, ta') _ ⟨hs.1, hs.2.1, (Kp.of hb2).trans hs.2.2.1, hs.2.2.2⟩ hT hx rfl rfl
     · have hkm : ((tk : Int) == 0) = false := by rw [beq_eq_false_iff_ne]; omega
       have hkn : decide ((tk : Int) = 0) = false := decide_eq_false (by omega)
       clear hkr hR
       go_enter Tryz.func45, Tryz.ntmps45
       go_wp2
       go_quiet (fail)
       go_wp2_with (first
        | ((go_at_call 46)
           (refine (hc _).mono ?_)
           (rintro e w2 ⟨i', bad', ⟨⟨tk', tss', tn'⟩, ta'⟩, rfl, hs, hT, hx⟩)
           (have hT2 : Has w2 w.heap.size 100 #[.int .i64 0, .string ⟨#[]⟩, .int .i64 0, .int .i64 0] := (hs.2.2.1.block _ hT0.lt (fun e => by cases e; omega)).trans hT0)
           (have lt2 := hT2.lt)
           (have a0 := hT2.cell 0)
           (have b0 := hT2.free 0)
           (have a1 := hT2.cell 1)
           (have b1 := hT2.free 1)
           (have a2 := hT2.cell 2)
           (have b2 := hT2.free 2)
           (have a3 := hT2.cell 3)
           (have b3 := hT2.free 3)
           (simp only [tkv])))
       exact done' _ w2 i' bad' (⟨tk', tss', tn'⟩, ta') _ hs hT hx rfl rfl
   · clear hs hpp hpar h h' c0 c1
     have hii : ¬ (i : Int) < (ts.length : Int) := by omega
     go_enter Tryz.func45, Tryz.ntmps45
     go_wp2
     go_quiet (fail)
     go_wp2_with (first
      | ((go_at_call 46)
         (refine (hc _).mono ?_)
         (rintro e w2 ⟨i', bad', ⟨⟨tk', tss', tn'⟩, ta'⟩, rfl, hs, hT, hx⟩)
         (have hT2 : Has w2 w.heap.size 100 #[.int .i64 0, .string ⟨#[]⟩, .int .i64 0, .int .i64 0] := (hs.2.2.1.block _ hT0.lt (fun e => by cases e; omega)).trans hT0)
         (have lt2 := hT2.lt)
         (have a0 := hT2.cell 0)
         (have b0 := hT2.free 0)
         (have a1 := hT2.cell 1)
         (have b1 := hT2.free 1)
         (have a2 := hT2.cell 2)
         (have b2 := hT2.free 2)
         (have a3 := hT2.cell 3)
         (have b3 := hT2.free 3)
         (simp only [tkv])))
     exact done' _ w2 i' bad' (⟨tk', tss', tn'⟩, ta') _ hs hT hx rfl rfl
end
section
open Go.ChangeShapes Go.WideShapes Go.ChangeAt Go.RowKit
theorem rnamed_c {w : World} {rb : Nat} {A : Option Addr} {C : Nat} {ts : Toks} {i en : Nat} {bad k : Int} (h : RdrAt w rb A C ts i en bad k) (pe : Par Nd) : Calls Tryz.prog 79 #[.pointer (some ⟨rb, 0, none⟩)] w (RNode w rb A C ts i en bad (ppart pe .na)) := by
 have hlt := h.has.lt
 have h' := h.kp (b_one w (.cells #[.string ⟨#[]⟩, .string ⟨#[]⟩, .int .i64 0, .int .i64 0, .slice none 0 0] 24))
 have hN := Has.new w 24 #[.string ⟨#[]⟩, .string ⟨#[]⟩, .int .i64 0, .int .i64 0, .slice none 0 0]
 have hc := rname_c' h'
 have fin : ∀ (w1 : World) (i' : Nat) (bad' : Int) (tk : Nat) (tss : List UInt8) (tn ta : Nat) (a : Act), Rst (w.alloc (.cells #[.string ⟨#[]⟩, .string ⟨#[]⟩, .int .i64 0, .int .i64 0, .slice none 0 0] 24)) rb A C ts i en w1 i' bad' → Tell bad (ptake isNm en (ts.drop i)) ts ((⟨tk, tss, tn⟩ : Tk), ta) i' bad' → a.tmps[2]?.getD undef = .pointer (some ⟨w.heap.size, 0, none⟩) → a.defers = [] → bodyPost Tryz.prog Tryz.f79 (RNode w rb A C ts i en bad (ppart pe .na)) .ret a ((put5 w1 w.heap.size (.string ⟨#[110, 97, 109, 101]⟩) (.string (bs tss)) (.int .i64 0) (.int .i64 (ta : Nat)) (.slice none 0 0)).alloc (.cells #[.int .i64 (tk : Nat), .string (bs tss), .int .i64 (tn : Nat), .int .i64 (ta : Nat)] 100)) := by
  intro w1 i' bad' tk tss tn ta a hs hT ha hd
  have hN1 : Has w1 w.heap.size 24 #[.string ⟨#[]⟩, .string ⟨#[]⟩, .int .i64 0, .int .i64 0, .slice none 0 0] := (hs.2.2.1.block _ hN.lt (fun e => by cases e; omega)).trans hN
  refine ret_node rfl ha ((hN1.set5 _ _ _ _ _).alloc _) hd ?_
  refine ⟨i', bad', Nd.mk wName tss 0 (ta : Nat) [], none, 0, rfl, NdR.nil _ _, ?_, hT.map (fun t => Nd.mk wName t.1.s 0 ((t.2 : Nat) : Int) [] : Tk × Nat → Nd), by show 0 ≤ 501; omega⟩
  exact (Rst.set5 hs.left (Nat.le_refl _) hlt _ _ _ _ _).alloc _
 clear h h'
 go_enter Tryz.func79, Tryz.ntmps79
 go_wp2_with (first
  | ((go_at_call 45)
     (refine hc.mono ?_)
     (rintro e w1 ⟨i', bad', ⟨⟨tk, tss, tn⟩, ta⟩, rfl, hs, hT, hx⟩)
     (have hN1 : Has w1 w.heap.size 24 #[.string ⟨#[]⟩, .string ⟨#[]⟩, .int .i64 0, .int .i64 0, .slice none 0 0] := (hs.2.2.1.block _ hN.lt (fun e => by cases e; omega)).trans hN)
     (have n1 := hN1.lt)
     (have m1 : w.heap.size ≠ w1.heap.size := by omega)
     (have a0 := hN1.cell 0)
     (have b0 := hN1.free 0)
     (have a1 := hN1.cell 1)
     (have b1 := hN1.free 1)
     (have a2 := hN1.cell 2)
     (have b2 := hN1.free 2)
     (have a3 := hN1.cell 3)
     (have b3 := hN1.free 3)
     (have a4 := hN1.cell 4)
     (have b4 := hN1.free 4)
     (simp only [tkv])))
 exact fin w1 i' bad' tk tss tn ta _ hs hT rfl rfl
def OPS : List (List UInt8) := [wLinear, wConcat, wMirror, wSnapshot, wCrypt, wIntegrity, wVerity]
def OPSC : Array Value := #[.string ⟨#[108, 105, 110, 101, 97, 114]⟩, .string ⟨#[99, 111, 110, 99, 97, 116]⟩, .string ⟨#[109, 105, 114, 114, 111, 114]⟩, .string ⟨#[115, 110, 97, 112, 115, 104, 111, 116]⟩, .string ⟨#[99, 114, 121, 112, 116]⟩, .string ⟨#[105, 110, 116, 101, 103, 114, 105, 116, 121]⟩, .string ⟨#[118, 101, 114, 105, 116, 121]⟩]
theorem OPSC_get (k : Nat) (h : k < 7) : OPSC[k]? = some (.string (bs (OPS[k]'h))) := by
 match k, h with
 | 0, _ => rfl
 | 1, _ => rfl
 | 2, _ => rfl
 | 3, _ => rfl
 | 4, _ => rfl
 | 5, _ => rfl
 | 6, _ => rfl
def STS : List (List UInt8) := [wDevice, wJournal, wKey, wRoot, wVolume, wExport]
def STSC : Array Value := #[.string ⟨#[100, 101, 118, 105, 99, 101]⟩, .string ⟨#[106, 111, 117, 114, 110, 97, 108]⟩, .string ⟨#[107, 101, 121]⟩, .string ⟨#[114, 111, 111, 116]⟩, .string ⟨#[118, 111, 108, 117, 109, 101]⟩, .string ⟨#[101, 120, 112, 111, 114, 116]⟩]
theorem STSC_get (k : Nat) (h : k < 6) : STSC[k]? = some (.string (bs (STS[k]'h))) := by
 match k, h with
 | 0, _ => rfl
 | 1, _ => rfl
 | 2, _ => rfl
 | 3, _ => rfl
 | 4, _ => rfl
 | 5, _ => rfl
def firstW (l : List (List UInt8)) (f : List UInt8 → Bool) : List UInt8 := (l.find? f).getD []
theorem first_at {l : List (List UInt8)} {f : List UInt8 → Bool} {k : Nat} (hk : k < l.length) (h : ∀ j (hj : j < k), f (l[j]'(by omega)) = false) (hf : f l[k] = true) : firstW l f = l[k] := by
 unfold firstW
 have : l.find? f = some l[k] := by
  rw [List.find?_eq_some_iff_getElem]
  exact ⟨hf, k, hk, rfl, fun j hj => by simp [h j hj]⟩
 rw [this]; rfl
theorem first_none {l : List (List UInt8)} {f : List UInt8 → Bool} (h : ∀ j (hj : j < l.length), f l[j] = false) : firstW l f = [] := by
 unfold firstW
 have : l.find? f = none := by
  rw [List.find?_eq_none]
  intro x hx
  obtain ⟨j, hj, rfl⟩ := List.mem_iff_getElem.1 hx
  simp [h j hj]
 rw [this]; rfl
theorem rop_c {w : World} {rb : Nat} {A : Option Addr} {C : Nat} {ts : Toks} {i en : Nat} {bad k : Int} (h : RdrAt w rb A C ts i en bad k) : Calls Tryz.prog 77 #[.pointer (some ⟨rb, 0, none⟩)] w fun e w' => e = .returned (.string (bs (firstW OPS (isB bad ts i)))) ∧ Below w.heap.size w w' := by
 have hH : Has (w.alloc (.cells OPSC 9)) w.heap.size 9 OPSC := Has.new _ _ _
 have hB : Below w.heap.size w (w.alloc (.cells OPSC 9)) := (Below.refl _ _).alloc (Nat.le_refl _) _
 obtain ⟨W, hW⟩ : ∃ W, W = w.alloc (.cells OPSC 9) := ⟨_, rfl⟩
 rw [← hW] at hH hB
 have h' := h.kp hB
 have hs := fun q s => ris_any (h'.drewN q) s
 have HW : Hid (W = w.alloc (.cells OPSC 9)) := hW
 clear hW h h'
 go_enter Tryz.func77, Tryz.ntmps77
 go_wp2_with (first
  | (refine at_dstL 6 rfl ?_
     refine wpList_is_w (some 6) (.slice (some ⟨w.heap.size, 0, none⟩) 7 7) W rfl (by rfl) (by rw [HW.out]; kernel_rfl) ?_))
 go_loopw [4] (fun z wr => ∃ k q : Nat, k ≤ 7 ∧ z = .int .i64 (k : Nat) ∧ wr = W.drewN q ∧ Hid (∀ j (hj : j < k) (h7 : j < 7), isB bad ts i (OPS[j]'h7) = false)) (fun z _ => 7 - (intOf z).toNat)
 case atStart => exact ⟨0, 0, Nat.zero_le _, rfl, rfl, (fun j hj => absurd hj (Nat.not_lt_zero _) : ∀ j (hj : j < 0) (h7 : j < 7), isB bad ts i (OPS[j]'h7) = false)⟩
 case round =>
  obtain ⟨k, q, hk, rfl, rfl, HR⟩ := hrel
  by_cases hlt : k < 7
  · have hc : W.cell? ⟨w.heap.size, k, none⟩ = some (.string (bs (OPS[k]'hlt))) := by rw [hH.cell]; exact OPSC_get k hlt
    have hs1 := hs q (OPS[k]'hlt)
    have HY : Hid (isB bad ts i (OPS[k]'hlt) = true → firstW OPS (isB bad ts i) = OPS[k]'hlt) := (fun e => first_at (l := OPS) (k := k) hlt (fun j hj => HR.out j hj (by omega)) e : isB bad ts i (OPS[k]'hlt) = true → firstW OPS (isB bad ts i) = OPS[k]'hlt)
    have HN : Hid (isB bad ts i (OPS[k]'hlt) = false → ∀ j (hj : j < k + 1) (h7 : j < 7), isB bad ts i (OPS[j]'h7) = false) := (fun e j hj h7 => by
     by_cases e2 : j < k
     · exact HR.out j e2 h7
     · obtain rfl : j = k := by omega
       exact e : isB bad ts i (OPS[k]'hlt) = false → ∀ j (hj : j < k + 1) (h7 : j < 7), isB bad ts i (OPS[j]'h7) = false)
    generalize OPS[k]'hlt = y at hc hs1 HY HN
    cases e : isB bad ts i y
    · rw [e] at hs1
      have HN2 := HN.out e
      have HN3 : Hid (∀ j (hj : j < k + 1) (h7 : j < 7), isB bad ts i (OPS[j]'h7) = false) := HN2
      clear HN2 HN HY HR hs e
      go_wp2_with (first
       | ((go_at_call 43)
          (refine hs1.mono ?_)
          (rintro e w1 ⟨rfl, q2, rfl⟩)))
      go_roundw
      case rel => exact ⟨k + 1, q + q2, by omega, by go_num, rfl, HN3⟩
      case measure => simp [intOf]; omega
    · rw [e] at hs1
      have HY2 : Hid (firstW OPS (isB bad ts i) = y) := HY.out e
      clear HN HY HR hs e
      go_wp2_with (first
       | ((go_at_call 43)
          (refine hs1.mono ?_)
          (rintro e w1 ⟨rfl, q2, rfl⟩)))
      go_ret
      exact ⟨by rw [HY2.out]; rfl, bel_dn hB _⟩
  · obtain rfl : k = 7 := by omega
    have HZ : Hid (firstW OPS (isB bad ts i) = []) := first_none (l := OPS) (fun j hj => HR.out j hj hj)
    clear hs HR
    go_wp2
    go_ret
    exact ⟨by rw [HZ.out]; rfl, bel_dn hB _⟩
end
section
variable {pe : Par Nd} {en : Nat} {ts : Toks}
theorem tell_k3 {ks : Kd} {kt : Kd} {b0 b1 b2 b3 b4 b5 : Int} {i0 i1 i2 i3 i4 i5 : Nat} {x1 x2 x3 : Nd} {t2 t3 : Tk × Nat}
  (h1 : Tell b0 (pe en (ts.drop i0)) ts x1 i1 b1) (h2 : Tell b1 (ptake cmm en (ts.drop i1)) ts t2 i2 b2) (h3 : Tell b2 (ppart pe ks en (ts.drop i2)) ts x2 i3 b3) (h4 : Tell b3 (ptake cmm en (ts.drop i3)) ts t3 i4 b4) (h5 : Tell b4 (ppart pe kt en (ts.drop i4)) ts x3 i5 b5) :
  Tell b0 (pkinds pe true [.ex, ks, kt] en (ts.drop i0)) ts [x1, x2, x3] i5 b5 :=
 h1.bind ((h2.bind (h3.bind ((h4.bind (h5.bind ((Tell.ret b5 ([] : List Nd) en ts i5).map (fun l => x3 :: l)))).map (fun l => x2 :: l)))).map (fun l => x1 :: l))
theorem tell_k2 {ks : Kd} {b0 b1 b2 b3 : Int} {i0 i1 i2 i3 : Nat} {x1 x2 : Nd} {t2 : Tk × Nat}
  (h1 : Tell b0 (pe en (ts.drop i0)) ts x1 i1 b1) (h2 : Tell b1 (ptake cmm en (ts.drop i1)) ts t2 i2 b2) (h3 : Tell b2 (ppart pe ks en (ts.drop i2)) ts x2 i3 b3) :
  Tell b0 (pkinds pe true [.ex, ks] en (ts.drop i0)) ts [x1, x2] i3 b3 :=
 h1.bind ((h2.bind (h3.bind ((Tell.ret b3 ([] : List Nd) en ts i3).map (fun l => x2 :: l)))).map (fun l => x1 :: l))
theorem tell_k1 {b0 b1 : Int} {i0 i1 : Nat} {x1 : Nd} (h1 : Tell b0 (pe en (ts.drop i0)) ts x1 i1 b1) : Tell b0 (pkinds pe true [.ex] en (ts.drop i0)) ts [x1] i1 b1 :=
 h1.bind ((Tell.ret b1 ([] : List Nd) en ts i1).map (fun l => x1 :: l))
theorem tell_par {op : List UInt8} {ks : List Kd} (hin : inside op = (ks, false)) {b0 b1 b2 b3 : Int} {i0 i1 i2 i3 : Nat} {l : List Nd} {t1 t2 : Tk × Nat}
  (h1 : Tell b0 (ptake (isSg [40]) en (ts.drop i0)) ts t1 i1 b1) (h2 : Tell b1 (pkinds pe true ks en (ts.drop i1)) ts l i2 b2) (h3 : Tell b2 (ptake (isSg [41]) en (ts.drop i2)) ts t2 i3 b3) :
  Tell b0 (pparts pe op en (ts.drop i0)) ts l i3 b3 := by
 unfold pparts
 rw [hin]
 have := h1.bind (f := fun _ => pbind (pkinds pe true ks) fun l => pbind (pret []) fun m => pbind (ptake (isSg [41])) fun _ => pret (l ++ m)) (h2.bind ((Tell.ret b2 ([] : List Nd) en ts i2).bind (h3.map (fun _ => l ++ []))))
 simpa using this
theorem tell_parm {op : List UInt8} {ks : List Kd} (hin : inside op = (ks, true)) {b0 b1 b2 b3 b4 : Int} {i0 i1 i2 i3 i4 : Nat} {l m : List Nd} {t1 t2 : Tk × Nat}
  (h1 : Tell b0 (ptake (isSg [40]) en (ts.drop i0)) ts t1 i1 b1) (h2 : Tell b1 (pkinds pe true ks en (ts.drop i1)) ts l i2 b2) (h3 : Tell b2 (pmore pe 501 en (ts.drop i2)) ts m i3 b3) (h4 : Tell b3 (ptake (isSg [41]) en (ts.drop i3)) ts t2 i4 b4) :
  Tell b0 (pparts pe op en (ts.drop i0)) ts (l ++ m) i4 b4 := by
 unfold pparts
 rw [hin]
 exact h1.bind (f := fun _ => pbind (pkinds pe true ks) fun l => pbind (pmore pe 501) fun m => pbind (ptake (isSg [41])) fun _ => pret (l ++ m)) (h2.bind (h3.bind (h4.map (fun _ => l ++ m))))
theorem px_op {d i : Nat} {o : List UInt8} (hi : i < ts.length) (hk : ts[i].1.kind = 0) (hs : ts[i].1.s = o) (hr : resv o = true) (hin : 0 < (inside o).1.length) : pexpr (d + 1) en (ts.drop i) = pbind (pparts (pexpr d) o) (fun l => pret (.mk o [] 0 ts[i].2 l)) en (ts.drop (i + 1)) := by
 show pbind (ptake begins) _ en (ts.drop i) = _
 have hb : begins ts[i].1 = true := by unfold begins; rw [hs, hk]; simp [hin]
 have hn : isNm ts[i].1 = false := by unfold isNm; rw [hs, hr]; simp
 rw [List.drop_eq_getElem_cons hi]
 simp only [pbind, ptake]
 rw [if_pos hb]
 simp only
 rw [if_neg (by rw [hn]; decide)]
 simp only [pbind, hs]
theorem px_use {d i : Nat} (h : ∀ hi : i < ts.length, ts[i].1.kind = 0 → (inside ts[i].1.s).1.length = 0) : pexpr (d + 1) en (ts.drop i) = pbind (ptake isNm) (fun t => pret (.mk wUse t.1.s 0 t.2 [])) en (ts.drop i) := by
 show pbind (ptake begins) _ en (ts.drop i) = _
 by_cases hi : i < ts.length
 · have hb : begins ts[i].1 = isNm ts[i].1 := by
    unfold begins
    by_cases hk : ts[i].1.kind = 0
    · rw [h hi hk]; simp
    · simp [isNm, hk]
   rw [List.drop_eq_getElem_cons hi]
   simp only [pbind, ptake]
   rw [hb]
   by_cases hn : isNm ts[i].1 = true
   · rw [if_pos hn]
     simp only
     rw [if_pos hn]
   · rw [if_neg hn]
 · rw [List.drop_eq_nil_of_le (by omega)]; rfl
end
end Go.Proofs.YthndifegfmjpbaaGreatDoor
