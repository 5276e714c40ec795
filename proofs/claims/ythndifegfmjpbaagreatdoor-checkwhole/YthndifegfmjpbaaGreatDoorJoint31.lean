/- Texts that the statements of this stage share, joined. -/
import Derived.Test.YthndifegfmjpbaaGreatDoorJoint30
import Derived.Test.YthndifegfmjpbaaGreatDoorJoint29
namespace Go.Proofs.YthndifegfmjpbaaGreatDoor
set_option linter.unusedVariables false
set_option maxRecDepth 100000
set_option maxHeartbeats 40000000
section
open Go.ChangeShapes Go.WideShapes Go.ChangeAt Go.RowKit Go.MapKept
theorem cexpr_mk {ns : Nms} {d : Nat} {ps p1 : List Pt} {n : Nd} {ks : List Nat} (hne : n.op ≠ wUse) (h : ckids (cexpr ns d) ps (kidsOf n) = .ok (ks, p1)) : cexpr ns (d + 1) ps n = if 64 ≤ p1.length then .error (137, n.a) else match cpart ns p1 n ks with | .error e => .error e | .ok p => .ok (p1.length, p1 ++ [p]) := by
 show (if n.op = wUse then _ else _) = _
 rw [if_neg hne, h]
 rfl
theorem cexpr_err {ns : Nms} {d : Nat} {ps : List Pt} {n : Nd} {e : Er} (hne : n.op ≠ wUse) (h : ckids (cexpr ns d) ps (kidsOf n) = .error e) : cexpr ns (d + 1) ps n = .error e := by
 show (if n.op = wUse then _ else _) = _
 rw [if_neg hne, h]
theorem expr_mk {w0 : World} {cb d : Nat} (ih : ExprC cb w0 d) {E : Nat → Prop} {w : World} {V : CV} {c : Ck} (h : CkAt E w cb V c) (n : Nd) (A : Option Addr) (C : Nat) (hr : RdN w0 n A C) (hcb : w0.heap.size ≤ cb - 1) (hb0 : Below w0.heap.size w0 w) (hne : n.op ≠ wUse) (hs : ExS n) (hx : ∀ x ∈ kidsOf n, ExR d x) (hn : NmOk c.names c.parts) (hby : ∀ x ∈ c.names, x.2.bytes.length ≤ 1000) :
  Calls Tryz.prog 120 #[.pointer (some ⟨cb, 0, none⟩), .agg (ndc n (.slice A n.l.length C))] w (XRes E w cb V c (cexpr c.names (d + 1) c.parts n)) := by
 have f0 : (n.op == [117, 115, 101]) = false := by rw [beq_eq_false_iff_ne]; exact hne
 have hot := bs_toList n.op
 obtain ⟨W1, hW1⟩ : ∃ W1, W1 = w.alloc (.cells #[.string (bs n.op), .string (bs n.s), .int .i64 n.n, .int .i64 n.a, .slice A n.l.length C] 24) := ⟨_, rfl⟩
 have hb1 : Below w.heap.size w W1 := by rw [hW1]; exact b_one w _
 have N1 : Has W1 w.heap.size 24 #[.string (bs n.op), .string (bs n.s), .int .i64 n.n, .int .i64 n.a, .slice A n.l.length C] := by rw [hW1]; exact Has.new w _ _
 have hsz1 : W1.heap.size = w.heap.size + 1 := by rw [hW1]; simp
 have HZ1 := hidI hsz1
 have h1 : CkAt E W1 cb V c := h.keep hb1
 have hnb : ∀ V' wz, Stp cb V W1 V' wz → ¬ V'.own cb w.heap.size := fun V' wz s ho => by
  rcases s.new _ ho with q | q
  · exact Nat.lt_irrefl _ (h.low q).2
  · omega
 have HNB := hidI hnb
 have HW := hidI hW1
 have hlen := hr.len
 have HER := hidI (fun e => cexpr_err (ns := c.names) (d := d) (ps := c.parts) (e := e) hne)
 have HMK := hidI (fun ks p1 => cexpr_mk (ns := c.names) (d := d) (ps := c.parts) (p1 := p1) (ks := ks) hne)
 have HIH := hidI ih
 have HX := hidI hx
 have HBY := hidI hby
 obtain ⟨L, hL⟩ : ∃ L, L = n.l.length := ⟨_, rfl⟩
 have HL := hidI hL
 rw [← hL] at HW N1 hlen ⊢
 have h0 : KsAt E W1 W1 cb V V c d n.l 0 (.slice none 0 0) [] c.parts := ⟨rfl, ⟨rfl, .inl ⟨rfl, rfl⟩⟩, (fun g e => by cases e), h1.mono (fun k _ _ he => ⟨.inl he, fun e => by cases e⟩), Stp.refl _ _ _, hn⟩
 clear hW1 hsz1 hnb ih hx hby hL h1
 unfold ndc
 go_enter Tryz.func120, Tryz.ntmps120
 have nn0 := N1.cell 0
 have nn4 := N1.cell 4
 have nl1 := N1.lt
 rw [HW.out] at nn0 nn4 nl1
 go_wp2
 rw [← HW.out]
 go_loopw [5, 20] (fun z5 z20 wr => ∃ (i : Nat) (V' : CV) (ks : List Nat) (ps : List Pt), z20 = .int .i64 (i : Nat) ∧ i ≤ L ∧ KsAt E W1 wr cb V V' c d n.l i z5 ks ps ∧ Has wr w.heap.size 24 #[.string (bs n.op), .string (bs n.s), .int .i64 n.n, .int .i64 n.a, .slice A L C]) (fun _ z _ => L - (intOf z).toNat)
 case atStart => exact ⟨0, V, [], c.parts, rfl, Nat.zero_le _, h0, N1⟩
 case round =>
  obtain ⟨i, V2, ks, ps, rfl, hi, K, NB⟩ := hrel
  by_cases hlt : i < L
  · have hil : i < n.l.length := by rw [← HL.out]; exact hlt
    have hBr : Below (cb - 1) W1 wr := K.stp.only.below (by have := h.has.lt; rw [HZ1.out]; omega) (fun k hk => by have := (h.low hk).1; omega)
    have hB0r : Below w0.heap.size w0 wr := (hb0.trans (hb1.mono hb0.size)).trans (hBr.mono hcb)
    obtain ⟨g, off, An, Cn, eA, hg, hat, hrn⟩ := TrAt.get (⟨hr.rd, hB0r⟩ : TrAt w0 wr n.l A C) hil
    subst eA
    have hint : (i : Int) < (L : Int) := by omega
    have HKS := hidI (fun o k p5 V5 w5 w6 A6 C6 => K.step (o := o) (k := k) (p5 := p5) (V5 := V5) (w5 := w5) (w6 := w6) (A6 := A6) (C6 := C6) hil)
    have HKP := hidI (fun o => K.pass (o := o) hil)
    have HMm := hidI (show n.l[i] ∈ n.l from List.getElem_mem hil)
    have HKE := hidI (fun (e : Er) (q : ckids (cexpr c.names d) c.parts ((n.l.take (i + 1)).filter fun x => !(x.op == wNum || x.op == wName)) = .error e) => HER.out e (by
     have := ckids_err (cexpr c.names d) _ ((n.l.drop (i + 1)).filter fun x => !(x.op == wNum || x.op == wName)) c.parts e q
     rw [← List.filter_append, List.take_append_drop] at this
     exact this))
    have HSN := hidI (kids_snoc n.l hil)
    generalize n.l[i] = m at *
    have hmt := bs_toList m.op
    cases hb : (m.op == wNum || m.op == wName) with
    | true =>
      have HBm := hidI hb
      by_cases hq : m.op = wNum
      · have f1 : (m.op == [110, 117, 109]) = true := by rw [hq]; decide
        clear hb hq K
        go_wp2_with (first
         | ((refine at_dstL 22 rfl ?_)
            (refine wpList_is (some 22) _ rfl (by rfl) (run_at_nd _ _ rfl g off i L C rfl rfl hlt wr) ?_))
         | ((refine at_dstL 23 rfl ?_)
            (refine wpList_is (some 23) _ rfl (by rfl) (run_load_nd _ rfl g (off + i * 5) rfl wr hat) ?_)
            (unfold nval)))
        go_roundw
        case rel => exact ⟨i + 1, V2, ks, ps, by go_num, by omega, HKP.out _ HBm.out, NB.alloc _⟩
        case measure => simp [intOf]; omega
      · have f1 : (m.op == [110, 117, 109]) = false := by rw [beq_eq_false_iff_ne]; exact hq
        have f2 : (m.op == [110, 97, 109, 101]) = true := by
         have hq' : (m.op == wNum) = false := f1
         rw [hq', Bool.false_or] at hb
         exact hb
        clear hb hq K
        go_wp2_with (first
         | ((refine at_dstL 22 rfl ?_)
            (refine wpList_is (some 22) _ rfl (by rfl) (run_at_nd _ _ rfl g off i L C rfl rfl hlt wr) ?_))
         | ((refine at_dstL 23 rfl ?_)
            (refine wpList_is (some 23) _ rfl (by rfl) (run_load_nd _ rfl g (off + i * 5) rfl wr hat) ?_)
            (unfold nval)))
        go_roundw
        case rel => exact ⟨i + 1, V2, ks, ps, by go_num, by omega, HKP.out _ HBm.out, NB.alloc _⟩
        case measure => simp [intOf]; omega
    | false =>
      have HBm := hidI hb
      simp only [Bool.or_eq_false_iff] at hb
      have f1 : (m.op == [110, 117, 109]) = false := hb.1
      have f2 : (m.op == [110, 97, 109, 101]) = false := hb.2
      have hmk : m ∈ kidsOf n := List.mem_filter.2 ⟨HMm.out, by simpa using HBm.out⟩
      have hcx := HIH.out _ (wr.alloc (.cells #[.string (bs m.op), .string (bs m.s), .int .i64 m.n, .int .i64 m.a, .slice An m.l.length Cn] 24)) V2 { c with parts := ps } m An Cn (K.ck.alloc _) hrn hcb (hB0r.trans ((b_one wr _).mono hB0r.size)) (HX.out m hmk) K.nms HBY.out
      have HNM := K.nms
      have hexr := (HX.out m hmk).ok
      have hrow := K.row
      have hks := K.stp
      cases hR : cexpr c.names d ps m with
      | error er =>
        obtain ⟨ec, ek⟩ := er
        have hE : ckids (cexpr c.names d) c.parts ((n.l.take (i + 1)).filter fun x => !(x.op == wNum || x.op == wName)) = .error (ec, ek) := by
         rw [HSN.out, HBm.out]
         simp only [Bool.false_eq_true, if_false]
         rw [ckids_snoc, K.is]
         simp only
         rw [hR]
        have HF := hidI (HKE.out _ hE)
        simp only [hR] at hcx
        unfold ndc at hcx
        clear hb K hE hR HNM hexr hrow hmk
        go_wp2_with (first
         | ((refine at_dstL 22 rfl ?_)
            (refine wpList_is (some 22) _ rfl (by rfl) (run_at_nd _ _ rfl g off i L C rfl rfl hlt wr) ?_))
         | ((refine at_dstL 23 rfl ?_)
            (refine wpList_is (some 23) _ rfl (by rfl) (run_load_nd _ rfl g (off + i * 5) rfl wr hat) ?_)
            (unfold nval))
         | ((go_at_call 120)
            (refine hcx.mono ?_)
            (rintro e w5 ⟨ho5, rfl⟩)))
        have hst : Stp cb V W1 V2 w5 := (hks.trans (Stp.of (b_one wr _))).trans ⟨ho5, fun _ q => .inl q⟩
        exact ⟨rfl, (Onl.of hb1).trans hst.only, by rw [HF.out]⟩
      | ok r =>
        obtain ⟨k, p5⟩ := r
        have HRk := hidI hR
        have hn5 : NmOk c.names p5 := by
         obtain ⟨rs, e, _, _⟩ := cexpr_ok d HNM hexr hR
         rw [e]
         exact HNM.more rs
        have HN5 := hidI hn5
        simp only [hR] at hcx
        unfold ndc at hcx
        have hkl : ks.length ≤ 100000 := by
         have q := ckids_len _ _ _ _ _ K.is
         have q2 : ((n.l.take i).filter fun x => !(x.op == wNum || x.op == wName)).length ≤ (n.l.take i).length := List.length_filter_le _ _
         have q3 : (n.l.take i).length ≤ n.l.length := by simp; omega
         have q4 := hs.few
         omega
        have HNBs := hidI (fun V5 w5 (s5 : Stp cb V2 (wr.alloc (.cells #[.string (bs m.op), .string (bs m.s), .int .i64 m.n, .int .i64 m.a, .slice An m.l.length Cn] 24)) V5 w5) => (s5.inner w.heap.size (by have := NB.lt; simp; omega) (HNB.out V2 wr hks)).1)
        have HVL := hidI (fun V5 w5 (s5 : Stp cb V2 (wr.alloc (.cells #[.string (bs m.op), .string (bs m.s), .int .i64 m.n, .int .i64 m.a, .slice An m.l.length Cn] 24)) V5 w5) => row_grown (w' := w5.alloc (.cells #[.int .i64 (k : Nat)] 3)) hrow (fun g' ob e ho => by
         have hlt' : g' < wr.heap.size := (row_lt hrow e).1
         have q1 := (s5.inner g' (by simp; omega) (K.free g' e)).1
         have q2 := Below.heap_alloc wr (.cells #[.string (bs m.op), .string (bs m.s), .int .i64 m.n, .int .i64 m.a, .slice An m.l.length Cn] 24) g' hlt'
         have q3 := Below.heap_alloc w5 (.cells #[.int .i64 (k : Nat)] 3) g' (by have := s5.only.size; simp at this; omega)
         exact q3.trans (q1.trans (q2.trans ho))))
        have HVG := hidI (fun g' e => (row_lt hrow (g := g') e).2)
        clear hb K hR HNM hexr hmk hn5
        go_wp2_with (first
         | ((refine at_dstL 22 rfl ?_)
            (refine wpList_is (some 22) _ rfl (by rfl) (run_at_nd _ _ rfl g off i L C rfl rfl hlt wr) ?_))
         | ((refine at_dstL 23 rfl ?_)
            (refine wpList_is (some 23) _ rfl (by rfl) (run_load_nd _ rfl g (off + i * 5) rfl wr hat) ?_)
            (unfold nval))
         | ((go_at_call 120)
            (refine hcx.mono ?_)
            (rintro e w5 ⟨ho5, rfl, V5, H5, S5⟩)
            (obtain ⟨A6, C6, w6, hr6, hrow6, hg6, hw6⟩ := append_one kInts (ty := 29) (w5.alloc (.cells #[.int .i64 (k : Nat)] 3)) W1.heap.size ks.length _ _ (HVL.out V5 w5 S5) (by have q1 := S5.only.size; have q2 := hks.only.size; simp at q1 ⊢; omega) (by omega) [.int .i64 (k : Nat)] rfl (by intro u hu; simp at hu; subst hu; rfl) w5.heap.size (Has.new_at rfl)))
         | ((refine at_dstL 37 rfl ?_)
            (refine wpList_is_w (some 37) (.slice A6 (ks.length + 1) C6) w6 rfl (by rfl) (run_app_is _ _ rfl rfl rfl hr6) ?_)))
        go_roundw
        case rel => exact ⟨i + 1, V5, ks ++ [k], p5, by go_num, by omega, HKS.out _ k p5 V5 w5 w6 A6 C6 HBm.out HRk.out H5 S5 HN5.out hrow6 hg6 hw6, (hg6.block w.heap.size (by have q1 := S5.only.size; have q3 := NB.lt; simp at q1 ⊢; omega) (fun e => by have := HVG.out _ e.symm; rw [HZ1.out] at this; omega)).trans ((Below.heap_alloc w5 _ _ (by have q1 := S5.only.size; have q3 := NB.lt; simp at q1; omega)).trans ((HNBs.out V5 w5 S5).trans ((Below.heap_alloc wr _ _ NB.lt).trans NB)))⟩
        case measure => simp [intOf]; omega
  · obtain rfl : i = L := by omega
    have hkis : ckids (cexpr c.names d) c.parts (kidsOf n) = .ok (ks, ps) := by
     have := K.is
     rw [HL.out, List.take_length] at this
     exact this
    have HM0 := hidI (HMK.out ks ps hkis)
    obtain ⟨rs, eps, hkk, -, hlenk⟩ := ckids_ok (kidsOf n) (fun qs x hx' k p1 hr' => by
     obtain ⟨rs, e, q1, q2⟩ := cexpr_ok d (hn.more qs) (HX.out x hx').ok hr'
     exact ⟨rs, e, q1, q2⟩) hkis
    have HLn := hidI hlenk
    have hk0 : 0 < ks.length := by rw [hlenk]; exact hs.shape.pos
    clear eps hlenk
    have hp0 : 0 < ps.length := by have := (hkk _ (List.getElem_mem hk0)).1; omega
    obtain ⟨g, op, Cp, evp, hCp1, hCp2, hg, hSz⟩ := K.ck.vp hp0
    have c2r := K.ck.has.cell 2
    simp only [List.getElem?_toArray, List.getElem?_cons_zero, List.getElem?_cons_succ, evp] at c2r
    obtain ⟨bk, Ck, ev, hCk1, hCk2, hbk, hbk2, hcells⟩ := row_at K.row hk0
    have nc0 := NB.cell 0
    have nc1 := NB.cell 1
    have nc2 := NB.cell 2
    have nc3 := NB.cell 3
    have nc4 := NB.cell 4
    have nlt := NB.lt
    simp only [ga1, gz1, gs1] at nc0 nc1 nc2 nc3 nc4
    have hBr : Below (cb - 1) W1 wr := K.stp.only.below (by have := h.has.lt; rw [HZ1.out]; omega) (fun k hk => by have := (h.low hk).1; omega)
    have hB0r : Below w0.heap.size w0 wr := (hb0.trans (hb1.mono hb0.size)).trans (hBr.mono hcb)
    have hKck := K.ck
    have hKst := K.stp
    have hKfr := K.free
    have hKnm := K.nms
    obtain ⟨NP, hNP⟩ : ∃ NP, NP = ps.length := ⟨_, rfl⟩
    have HNP := hidI hNP
    have c2r : wr.cell? ⟨cb, 2, none⟩ = some (.slice (some ⟨g, op, none⟩) NP Cp) := by rw [hNP]; exact c2r
    subst ev
    by_cases h64 : NP < 64
    · have hRR := HM0.out.trans (if_neg (by rw [← hNP]; omega))
      have HRR := hidI hRR
      have h64 : decide (NP < 64) = true := decide_eq_true h64
      have HCE := hidI hcells
      clear hRR K hcells evp hNP
      go_wp2
      refine wp_region_held_drew (S := fun wz => Below wr.heap.size wr wz) (by kernel_rfl) ((Below.refl _ wr).drew) (fun hHeld => ?_)
      refine tkT 0 (some 39) (.pointer (some ⟨cb, 0, none⟩)) rfl rfl (fun _ _ => rfl) hHeld ?_
      simp only [Act.put, sb1, sz1, ss1]
      refine tkT 1 (some 40) (.pointer (some ⟨cb, 0, none⟩)) rfl rfl (fun _ _ => rfl) hHeld ?_
      simp only [Act.put, sb1, sz1, ss1]
      refine tkT 2 (some 41) (.pointer (some ⟨cb, 0, none⟩)) rfl rfl (fun _ _ => rfl) hHeld ?_
      simp only [Act.put, sb1, sz1, ss1]
      refine tkT 3 (some 42) (.pointer (some ⟨cb, 2, none⟩)) rfl rfl (fun _ _ => rfl) hHeld ?_
      simp only [Act.put, sb1, sz1, ss1]
      refine tkT 4 (some 43) (.slice (some ⟨g, op, none⟩) NP Cp) rfl rfl (fun wz hz => by have z0 := below_some hz c2r; unfold execOp; go_simp) hHeld ?_
      simp only [Act.put, sb1, sz1, ss1]
      refine tkT 5 (some 44) (.int .i64 (NP : Nat)) rfl rfl (fun wz _ => run_len_of 30 47 Tryz.underlying30 _ rfl _ NP Cp rfl wz) hHeld ?_
      simp only [Act.put, sb1, sz1, ss1]
      refine tkT 6 (some 45) (.bool true) rfl rfl (fun wz _ => run_less _ _ rfl NP 64 rfl rfl true h64 wz) hHeld ?_
      simp only [Act.put, sb1, sz1, ss1]
      refine tkT 7 (some 46) (.pointer (some ⟨w.heap.size, 3, none⟩)) rfl rfl (fun _ _ => rfl) hHeld ?_
      simp only [Act.put, sb1, sz1, ss1]
      refine tkT 8 (some 47) (.int .i64 n.a) rfl rfl (fun wz hz => by have z0 := below_some hz nc3; unfold execOp; go_simp) hHeld ?_
      simp only [Act.put, sb1, sz1, ss1]
      refine callToP 9 (some 48) 86 #[.bool true, .int .i64 137, .int .i64 n.a] (by kernel_rfl) rfl rfl (by rfl) (by kernel_rfl) (need_yes 137 n.a wr.drew) ?_
      rintro e w5 ⟨rfl, rfl⟩
      refine .inl ⟨_, rfl, hHeld, ?_⟩
      simp only [Act.put, sb1, sz1, ss1]
      refine wpAnyH_done (by kernel_rfl) ?_ _
      have hbz : Below wr.heap.size wr wr.drew := (Below.refl _ wr).drew
      have hI : PIn (fun g => (E g ∨ W1.heap.size ≤ g) ∧ (Value.slice (some ⟨bk, 0, none⟩) ks.length Ck).ownBlock ≠ some g) wr.drew cb V2 { c with parts := ps } ks bk 0 Ck := ⟨hKck.keep hbz, hbk, fun j hj => by
       rw [Nat.zero_add]
       have q := HCE.out j (by omega)
       rw [List.getElem?_map, List.getElem?_eq_getElem hj] at q
       exact below_some hbz q, hk0, hCk1, hCk2, hkk⟩
      have hpc := cpart_c hI n A C (hr.grow (hB0r.trans (hbz.mono hB0r.size))) hs HLn.out hKnm HBY.out
      rw [← HL.out] at hpc
      unfold ndc at hpc
      have NB3 := has_drew NB
      have hKck3 := hKck.keep hbz
      have hKst3 : Stp cb V W1 V2 wr.drew := hKst.trans (Stp.of hbz)
      have hbk3 : bk < wr.drew.heap.size := hbk
      replace nc0 := below_some hbz nc0
      replace nc1 := below_some hbz nc1
      replace nc2 := below_some hbz nc2
      replace nc3 := below_some hbz nc3
      replace nc4 := below_some hbz nc4
      have nlt3 : w.heap.size < wr.drew.heap.size := nlt
      have HC3 := hidI hI.cells
      clear hbz c2r hHeld hB0r hBr hKck hKst hI NB nlt hSz hg
      generalize wr.drew = W3 at *
      cases hP : cpart c.names ps n ks with
      | error er =>
        obtain ⟨ec, ek⟩ := er
        have HRR := hidI (HRR.out.trans (by rw [hP]))
        dsimp only at hpc
        rw [hP] at hpc
        simp only [noK] at hpc
        clear hP hkis hkk
        go_wp2_with (first
         | ((go_at_call 144)
            (refine hpc.mono ?_)
            (rintro e w5 ⟨hb5, rfl⟩)))
        exact ⟨rfl, ((Onl.of hb1).trans hKst3.only).trans (.of hb5), by rw [HRR.out]⟩
      | ok p =>
        obtain ⟨hpok, hpk⟩ := cpart_ok hKnm hkk (by rw [HLn.out]; exact hs.shape) hP
        have HRR := hidI (HRR.out.trans (by rw [hP]))
        dsimp only at hpc
        rw [hP] at hpc
        simp only [noK] at hpc
        obtain ⟨pkind, psize, pkids, pdev, pfirst, pchunk, pkey, proot⟩ := p
        have hpk' : ks = pkids := hpk.symm
        subst hpk'
        have HAD := hidI (fun (w5 : World) (hb5 : Below W3.heap.size W3 w5) (A2 : Option Addr) (C2 : Nat) (A3 : Option Addr) (C3 : Nat) (a1 : pkey.length ≤ C2) (a2 : C2 ≤ maxLen) (a3 : BytsP w5 (fun g => W3.heap.size ≤ g) A2 pkey) (b1 : proot.length ≤ C3) (b2 : C3 ≤ maxLen) (b3 : BytsP w5 (fun g => W3.heap.size ≤ g) A3 proot) =>
         have hb6 : Below W3.heap.size W3 (w5.alloc (.cells #[.int .i64 (pkind : Nat), .int .i64 (psize : Nat), .slice (some ⟨bk, 0, none⟩) ks.length Ck, .int .i64 (pdev : Nat), .int .i64 (pfirst : Nat), .int .i64 (pchunk : Nat), .slice A2 pkey.length C2, .slice A3 proot.length C3] 47)) := hb5.alloc hb5.size _
         have hk6 : ∀ k, k < w5.heap.size → W3.heap.size ≤ k → (w5.alloc (.cells #[.int .i64 (pkind : Nat), .int .i64 (psize : Nat), .slice (some ⟨bk, 0, none⟩) ks.length Ck, .int .i64 (pdev : Nat), .int .i64 (pfirst : Nat), .int .i64 (pchunk : Nat), .slice A2 pkey.length C2, .slice A3 proot.length C3] 47)).heap[k]? = w5.heap[k]? ∧ (¬ V2.own cb k ∧ (E k ∨ W1.heap.size ≤ k)) := fun k hk hP => ⟨Below.heap_alloc w5 _ k hk, fun e => by have := (hKck3.low e).2; omega, .inr (Nat.le_trans hKst3.only.size hP)⟩
         add_c (E := fun g => E g ∨ W1.heap.size ≤ g) ((hKck3.keep hb6).mono (fun g _ _ he => he.1)) ⟨pkind, psize, ks, pdev, pfirst, pchunk, pkey, proot⟩ (some ⟨bk, 0, none⟩) Ck A2 C2 A3 C3
          ⟨⟨_, Ck, rfl, hCk1, hCk2, .inr ⟨bk, 0, rfl, Nat.lt_of_lt_of_le hbk3 hb6.size, ⟨hKfr bk rfl, .inr hbk2⟩, fun j hj => below_some hb6 (HC3.out j hj)⟩⟩, ⟨A2, C2, rfl, a1, a2, a3.keep (by simp) hk6⟩, ⟨A3, C3, rfl, b1, b2, b3.keep (by simp) hk6⟩⟩
          (fun k hk => (hkk k hk).1) (by have := hpok.four; show ks.length ≤ 1000; have h4 : ks.length ≤ 4 := this; omega) (fun e => (hpok.snap e).1) (by show ps.length ≤ 90000; rw [← HNP.out]; have := of_decide_eq_true h64; omega))
        clear hP hkis hkk hpok hpk
        go_wp2_with (first
         | ((go_at_call 144)
            (refine hpc.mono ?_)
            (rintro e w5 ⟨hb5, ⟨u1, u2, u3⟩, rfl, hu5⟩)
            (obtain ⟨A2, C2, e2, c21, c22, by2⟩ := hu5.key)
            (obtain ⟨A3, C3, e3, c31, c32, by3⟩ := hu5.root)
            (obtain ⟨A1, C1, e1, -, -, -⟩ := hu5.kids)
            (dsimp only at e1 e2 e3 c21 c31)
            (subst e1 e2 e3)
            (have hadd := HAD.out w5 hb5 A2 C2 A3 C3 c21 c22 by2 c31 c32 by3)
            (unfold ptc))
         | ((go_at_call 84)
            (refine hadd.mono ?_)
            (rintro e w7 ⟨rfl, V7, H7, S7⟩)))
        go_ret
        have S07 := (Stp.of (cb := cb) (V := V) hb1).trans (hKst3.trans ((Stp.of (cb := cb) (V := V2) hb5).trans ((Stp.of (cb := cb) (V := V2) (b_one w5 _)).trans S7)))
        refine ⟨S07.only, ?_⟩
        rw [HRR.out]
        exact ⟨rfl, V7, H7.mono (fun g _ _ he => by
         rcases he with he | he
         · exact .inl he
         · exact .inr (Nat.le_trans hb1.size he)), S07⟩
    · have hRR := HM0.out.trans (if_pos (by rw [← hNP]; omega))
      have HRR := hidI hRR
      have h64 : decide (NP < 64) = false := decide_eq_false h64
      clear hRR K hcells evp hNP
      go_wp2
      refine wp_region_held_drew (S := fun wz => Below wr.heap.size wr wz) (by kernel_rfl) ((Below.refl _ wr).drew) (fun hHeld => ?_)
      refine tkT 0 (some 39) (.pointer (some ⟨cb, 0, none⟩)) rfl rfl (fun _ _ => rfl) hHeld ?_
      simp only [Act.put, sb1, sz1, ss1]
      refine tkT 1 (some 40) (.pointer (some ⟨cb, 0, none⟩)) rfl rfl (fun _ _ => rfl) hHeld ?_
      simp only [Act.put, sb1, sz1, ss1]
      refine tkT 2 (some 41) (.pointer (some ⟨cb, 0, none⟩)) rfl rfl (fun _ _ => rfl) hHeld ?_
      simp only [Act.put, sb1, sz1, ss1]
      refine tkT 3 (some 42) (.pointer (some ⟨cb, 2, none⟩)) rfl rfl (fun _ _ => rfl) hHeld ?_
      simp only [Act.put, sb1, sz1, ss1]
      refine tkT 4 (some 43) (.slice (some ⟨g, op, none⟩) NP Cp) rfl rfl (fun wz hz => by have z0 := below_some hz c2r; unfold execOp; go_simp) hHeld ?_
      simp only [Act.put, sb1, sz1, ss1]
      refine tkT 5 (some 44) (.int .i64 (NP : Nat)) rfl rfl (fun wz _ => run_len_of 30 47 Tryz.underlying30 _ rfl _ NP Cp rfl wz) hHeld ?_
      simp only [Act.put, sb1, sz1, ss1]
      refine tkT 6 (some 45) (.bool false) rfl rfl (fun wz _ => run_less _ _ rfl NP 64 rfl rfl false h64 wz) hHeld ?_
      simp only [Act.put, sb1, sz1, ss1]
      refine tkT 7 (some 46) (.pointer (some ⟨w.heap.size, 3, none⟩)) rfl rfl (fun _ _ => rfl) hHeld ?_
      simp only [Act.put, sb1, sz1, ss1]
      refine tkT 8 (some 47) (.int .i64 n.a) rfl rfl (fun wz hz => by have z0 := below_some hz nc3; unfold execOp; go_simp) hHeld ?_
      simp only [Act.put, sb1, sz1, ss1]
      refine callToP 9 (some 48) 86 #[.bool false, .int .i64 137, .int .i64 n.a] (by kernel_rfl) rfl rfl (by rfl) (by kernel_rfl) (need_no 137 n.a wr.drew) ?_
      rintro e w5 ⟨rfl, rfl⟩
      refine .inr ⟨_, rfl, ?_⟩
      exact ⟨rfl, ((Onl.of hb1).trans hKst.only).drew, by rw [HRR.out]; rfl⟩
theorem cexpr_c {w0 : World} {cb : Nat} (d : Nat) : ExprC cb w0 d := by
 induction d with
 | zero => intro E w V c n A C _ _ _ _ hx; cases hx
 | succ d ih =>
   intro E w V c n A C h hr hcb hb0 hx hn hby
   cases hx with
   | use _ _ e => exact expr_use h n A n.l.length C d e
   | mk _ _ e hs hk => exact expr_mk ih h n A C hr hcb hb0 e hs hk hn hby
end
section
open Go.ChangeShapes Go.WideShapes Go.ChangeAt Go.RowKit Go.MapKept
variable {E : Nat → Prop}
theorem said_c {w0 w : World} {cb : Nat} {V : CV} {c : Ck} (h : CkAt E w cb V c) (n : Nd) (A : Option Addr) (C : Nat) (hr : RdN w0 n A C) (hcb : w0.heap.size ≤ cb - 1) (hb0 : Below w0.heap.size w0 w) (hx : StR n) (he : n.op ≠ wExport) (hnm : NmOk c.names c.parts) (hby : ∀ x ∈ c.names, x.2.bytes.length ≤ 1000) (hdv : c.devs.length ≤ 90000) :
  Calls Tryz.prog 88 #[.pointer (some ⟨cb, 0, none⟩), .agg (ndc n (.slice A n.l.length C))] w (SdRes E w cb V (csaid c n)) := by
 rcases hx.word with ho | ho | ho | ho | ho | ho
 · exact said_device h n A n.l.length C ho hdv
 · exact said_journal h n A n.l.length C ho hdv
 · obtain ⟨hl, hf⟩ := hx.key (.inl ho)
   obtain ⟨gn, on, Au, Cu, hA, hgn, hat⟩ := parts_at hr (by omega)
   exact said_key h n A n.l.length C hl gn on hA (Nat.lt_of_lt_of_le hgn hb0.size) (nth n.l 0).s rfl ((hb0.cell (p := ⟨gn, on + 0 * 5 + 1, none⟩) hgn).trans ((hat 0 (by omega)).1 1 (by decide))) hf ho
 · obtain ⟨hl, hf⟩ := hx.key (.inr ho)
   obtain ⟨gn, on, Au, Cu, hA, hgn, hat⟩ := parts_at hr (by omega)
   exact said_root h n A n.l.length C hl gn on hA (Nat.lt_of_lt_of_le hgn hb0.size) (nth n.l 0).s rfl ((hb0.cell (p := ⟨gn, on + 0 * 5 + 1, none⟩) hgn).trans ((hat 0 (by omega)).1 1 (by decide))) hf ho
 · obtain ⟨hl, hex⟩ := hx.vol ho
   obtain ⟨gn, on, Au, Cu, hA, hgn, hat⟩ := parts_at hr (by omega)
   exact said_volume h n A n.l.length C hl w0 gn on hA (Nat.lt_of_lt_of_le hgn hb0.size) (nth n.l 0) (Au 0) (Cu 0) rfl (fun j hj => (hb0.cell (p := ⟨gn, on + 0 * 5 + j, none⟩) hgn).trans ((hat 0 (by omega)).1 j hj)) (hat 0 (by omega)).2 hcb hb0 hex (cexpr_c 12) hnm hby ho
 · exact absurd ho he
theorem csaid_names {c c1 : Ck} {n : Nd} {m : Mn} (h : csaid c n = .ok (c1, m)) : c1.names = c.names := by
 unfold csaid at h
 repeat' split at h
 all_goals first
  | (cases h; done)
  | (cases h; rfl)
theorem run_load_mn {o : Oper} {a : Act} (x : Operand) (ho : o.op = .load 136 x) (g : Nat) (hx : a.eval x = .pointer (some ⟨g, 0, none⟩)) {x0 x1 x2 : Value} (w : World) (h : Has w g 136 #[x0, x1, x2]) : (execOp a.eval o).run Tryz.prog w = .ok (.value (.agg #[x0, x1, x2])) w := by
 have q0 := h.cell 0
 have q1 := h.cell 1
 have q2 := h.cell 2
 simp only [ga1, gz1, gs1] at q0 q1 q2
 unfold execOp
 simp only [ho, hx]
 go_simp
end
end Go.Proofs.YthndifegfmjpbaaGreatDoor
