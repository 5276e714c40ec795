/- Texts that the statements of this stage share, joined. -/
import Derived.Test.YthndifegfmjpbaaGreatDoorJoint08
import Derived.Test.YthndifegfmjpbaaGreatDoorJoint09
import Derived.Test.YthndifegfmjpbaaGreatDoorJoint17
import Derived.Test.YthndifegfmjpbaaGreatDoorJoint07
import Derived.Test.YthndifegfmjpbaaGreatDoorJoint10
import Derived.Test.YthndifegfmjpbaaGreatDoorJoint23
import Derived.Ground.SlbCloneProg
import Derived.Shelf.Bytes.SlClone
import Derived.Shelf.Bytes.SlEqualAll
import Derived.Shelf.Bytes.Small
import Derived.Test.YthndifegfmjpbaaGreatDoorProg
import Derived.Test.YthndifegfmjpbaaGreatDoorJoint03
namespace Go.Proofs.YthndifegfmjpbaaGreatDoor
set_option linter.unusedVariables false
set_option maxRecDepth 100000
set_option maxHeartbeats 40000000
section
open Go.ChangeShapes Go.WideShapes Go.ChangeAt Go.RowKit
def nth (l : List Nd) (k : Nat) : Nd := l.getD k (.mk [] [] 0 0 [])
theorem nth_get {l : List Nd} {k : Nat} (h : k < l.length) : nth l k = l[k] := by
 unfold nth
 rw [List.getD_eq_getElem?_getD, List.getElem?_eq_getElem h]
 rfl
def nval (n : Nd) (A : Option Addr) (C : Nat) : Value := .agg #[.string (bs n.op), .string (bs n.s), .int .i64 n.n, .int .i64 n.a, .slice A n.l.length C]
def NdAt (w : World) (g p : Nat) (n : Nd) (A : Option Addr) (C : Nat) : Prop := ∀ j, j < 5 → w.cell? ⟨g, p + j, none⟩ = (ndc n (.slice A n.l.length C))[j]?
theorem run_load_nd {o : Oper} {a : Act} (x : Operand) (ho : o.op = .load 24 x) (g p : Nat) (hx : a.eval x = .pointer (some ⟨g, p, none⟩)) {n : Nd} {A : Option Addr} {C : Nat} (w : World) (h : NdAt w g p n A C) : (execOp a.eval o).run Tryz.prog w = .ok (.value (nval n A C)) w := by
 have q0 := h 0 (by decide)
 have q1 := h 1 (by decide)
 have q2 := h 2 (by decide)
 have q3 := h 3 (by decide)
 have q4 := h 4 (by decide)
 simp only [Nat.add_zero] at q0
 simp only [ndc] at q0 q1 q2 q3 q4
 unfold execOp nval
 simp only [ho, hx]
 go_simp
theorem run_at_nd {o : Oper} {a : Act} (x i : Operand) (ho : o.op = .indexAddr 22 x i) (g off k n cap : Nat) (hx : a.eval x = .slice (some ⟨g, off, none⟩) n cap) (hi : a.eval i = .int .i64 (k : Nat)) (hk : k < n) (w : World) : (execOp a.eval o).run Tryz.prog w = .ok (.value (.pointer (some ⟨g, off + k * 5, none⟩))) w := by
 unfold execOp
 obtain ⟨i0, hq, hz0, hz, hz2⟩ := info_parts Tryz.infoNode
 simp only [ho, hx, hi]
 simp [Instr.indexAt, Instr.sureAddr, run_underlying Tryz.underlying22, asIntOf, sizeOf, typeInfo, hq, hz, Addr.add_mid, go_sem]
 intro h
 omega
theorem NdAt.grow {w w' : World} {g p B : Nat} {n : Nd} {A : Option Addr} {C : Nat} (h : NdAt w g p n A C) (hb : Below B w w') (hg : g < B) : NdAt w' g p n A C := fun j hj => (hb.cell (p := ⟨g, p + j, none⟩) hg).trans (h j hj)
theorem parts_at {w : World} {n : Nd} {A : Option Addr} {C : Nat} (h : RdN w n A C) (hpos : 0 < n.l.length) : ∃ (g off : Nat) (Au : Nat → Option Addr) (Cu : Nat → Nat), A = some ⟨g, off, none⟩ ∧ g < w.heap.size ∧ ∀ k, k < n.l.length → NdAt w g (off + k * 5) (nth n.l k) (Au k) (Cu k) ∧ RdN w (nth n.l k) (Au k) (Cu k) := by
 obtain ⟨g, off, _, e, hg, _⟩ := h.rd.get 0 hpos
 have each : ∀ k, ∃ (Av : Option Addr) (Cv : Nat), k < n.l.length → NdAt w g (off + k * 5) (nth n.l k) Av Cv ∧ RdN w (nth n.l k) Av Cv := by
  intro k
  by_cases hk : k < n.l.length
  · obtain ⟨g', off', u, e', hg', hc, hr, hs, ho⟩ := h.rd.get k hk
    rw [e] at e'
    cases e'
    obtain ⟨Av, Cv, rfl, _, _⟩ := hr.slice
    refine ⟨Av, Cv, fun _ => ?_⟩
    rw [nth_get hk]
    exact ⟨hc, hr, hs, ho⟩
  · exact ⟨none, 0, fun h => absurd h hk⟩
 exact ⟨g, off, fun k => (each k).choose, fun k => (each k).choose_spec.choose, e, hg, fun k hk => (each k).choose_spec.choose_spec hk⟩
end
section
open Go.ChangeShapes Go.WideShapes Go.ChangeAt Go.RowKit Go.MapKept
variable {E : Nat → Prop}
def ck0 (ps : List Pt) : Ck := ⟨[], none, ps, none, false, 0, []⟩
def devN : List Nd → Nat
 | [] => 0
 | x :: l => (if x.op = wDevice ∨ x.op = wJournal then 1 else 0) + devN l
theorem disks_snoc (l : List Nd) (x : Nd) : ∀ d, disks d (l ++ [x]) = disks d l ++ (if x.op = wDevice then [⟨1, x.n.toNat, [], d + devN l, 0, 0, [], []⟩] else []) := by
 induction l with
 | nil =>
   intro d
   simp only [List.nil_append, disks, devN]
   by_cases h1 : x.op = wDevice
   · rw [if_pos h1, if_pos h1]; rfl
   · rw [if_neg h1, if_neg h1]
     by_cases h2 : x.op = wJournal
     · rw [if_pos h2]
     · rw [if_neg h2]
 | cons y l ih =>
   intro d
   simp only [List.cons_append, disks, devN]
   by_cases h1 : y.op = wDevice
   · simp only [if_pos h1, ih, List.cons_append, if_pos (show y.op = wDevice ∨ y.op = wJournal from .inl h1)]
     congr 2
     rw [show d + 1 + devN l = d + (1 + devN l) by omega]
   · rw [if_neg h1, if_neg h1]
     by_cases h2 : y.op = wJournal
     · rw [if_pos h2, if_pos h2, ih, if_pos (show y.op = wDevice ∨ y.op = wJournal from .inr h2)]
       rw [show d + 1 + devN l = d + (1 + devN l) by omega]
     · rw [if_neg h2, if_neg h2, ih, if_neg (show ¬ (y.op = wDevice ∨ y.op = wJournal) by simp [h1, h2])]
       rw [Nat.zero_add]
theorem devN_snoc (l : List Nd) (x : Nd) : devN (l ++ [x]) = devN l + (if x.op = wDevice ∨ x.op = wJournal then 1 else 0) := by
 induction l with
 | nil => simp [devN]
 | cons y l ih => simp only [List.cons_append, devN, ih]; omega
theorem devN_le (l : List Nd) : devN l ≤ l.length := by
 induction l with
 | nil => exact Nat.le_refl _
 | cons y l ih => simp only [devN, List.length_cons]; split <;> omega
theorem disks_le (l : List Nd) : ∀ d, (disks d l).length ≤ l.length := by
 induction l with
 | nil => intro d; exact Nat.le_refl _
 | cons y l ih =>
   intro d
   simp only [disks]
   split
   · simp; exact ih _
   · split
     · have := ih (d + 1); simp; omega
     · have := ih d; simp; omega
structure TrAt (w0 w : World) (l : List Nd) (A : Option Addr) (C : Nat) : Prop where
 rd : Rd w0 l (.slice A l.length C)
 bel : Below w0.heap.size w0 w
theorem TrAt.get {w0 w : World} {l : List Nd} {A : Option Addr} {C : Nat} (h : TrAt w0 w l A C) {i : Nat} (hi : i < l.length) : ∃ g off An Cn, A = some ⟨g, off, none⟩ ∧ g < w.heap.size ∧ NdAt w g (off + i * 5) l[i] An Cn ∧ RdN w0 l[i] An Cn := by
 obtain ⟨g, off, u, e, hg, hc, hr, hs, ho⟩ := h.rd.get i hi
 obtain ⟨An, Cn, rfl, _, _⟩ := hr.slice
 exact ⟨g, off, An, Cn, e, Nat.lt_of_lt_of_le hg h.bel.size, fun j hj => (h.bel.cell (p := ⟨g, off + i * 5 + j, none⟩) hg).trans (hc j hj), hr, hs, ho⟩
theorem Stp.below {cb : Nat} {V V' : CV} {w w' : World} {c : Ck} (h : CkAt E w cb V c) (s : Stp cb V w V' w') : Below (cb - 1) w w' := s.only.below (by have := h.has.lt; omega) fun k hk => by have := (h.low hk).1; omega
theorem disks_c {w0 w : World} {cb : Nat} {V : CV} {l : List Nd} {A : Option Addr} {C : Nat} (h : CkAt E w cb V (ck0 [])) (ht : TrAt w0 w l A C) (hcb : w0.heap.size ≤ cb - 1) (hl : l.length ≤ 80000) (hn : ∀ x ∈ l, (x.op = wDevice → 0 ≤ x.n ∧ x.n ≤ 999999999)) : Calls Tryz.prog 51 #[.pointer (some ⟨cb, 0, none⟩), .slice A l.length C] w fun e w' => e = .returned (.tuple #[]) ∧ ∃ V', CkAt E w' cb V' (ck0 (disks 0 l)) ∧ Stp cb V w V' w' := by
 obtain ⟨A', C', eAC, hlc, hcm⟩ := ht.rd.slice
 cases eAC
 obtain ⟨L, hL⟩ : ∃ L, L = l.length := ⟨_, rfl⟩
 have HL : Hid (L = l.length) := hL
 rw [← hL] at hlc hl ⊢
 clear hL
 go_enter Tryz.func51, Tryz.ntmps51
 go_wp2
 go_loopw [4, 9] (fun z4 z9 wr => ∃ (i : Nat) (V' : CV), z4 = .int .i64 (devN (l.take i) : Nat) ∧ z9 = .int .i64 (i : Nat) ∧ i ≤ L ∧ CkAt E wr cb V' (ck0 (disks 0 (l.take i))) ∧ Stp cb V w V' wr) (fun _ z _ => L - (intOf z).toNat)
 case atStart => exact ⟨0, V, by simp [devN], rfl, Nat.zero_le _, by simpa [disks] using h, Stp.refl _ _ _⟩
 case round =>
  obtain ⟨i, V2, rfl, rfl, hi, H2, S2⟩ := hrel
  by_cases hlt : i < L
  · have hil : i < l.length := by rw [← HL.out]; exact hlt
    have B2 := S2.below h
    have T2 : TrAt w0 wr l A C := ⟨ht.rd, ht.bel.trans (B2.mono hcb)⟩
    obtain ⟨g, off, An, Cn, eA, hg, hat, hrn⟩ := T2.get hil
    have hnl := hn _ (List.getElem_mem hil)
    have HD : Hid (disks 0 (l.take (i + 1)) = disks 0 (l.take i) ++ (if l[i].op = wDevice then [⟨1, l[i].n.toNat, [], devN (l.take i), 0, 0, [], []⟩] else [])) := by
     rw [List.take_succ_eq_append_getElem hil, disks_snoc, Nat.zero_add]
     exact rfl
    have HV : Hid (devN (l.take (i + 1)) = devN (l.take i) + (if l[i].op = wDevice ∨ l[i].op = wJournal then 1 else 0)) := by
     rw [List.take_succ_eq_append_getElem hil, devN_snoc]
     exact rfl
    have hdl := devN_le (l.take i)
    have hpl := disks_le (l.take i) 0
    have hil2 : (l.take i).length ≤ i := by simp; omega
    generalize l[i] = n at *
    obtain ⟨D, hD⟩ : ∃ D, D = devN (l.take i) := ⟨_, rfl⟩
    obtain ⟨ps, hps⟩ : ∃ ps, ps = disks 0 (l.take i) := ⟨_, rfl⟩
    rw [← hD] at HD HV hdl ⊢
    rw [← hps] at HD H2 hpl
    have hDb : (D : Int) ≤ 80000 := by omega
    have hpsl : ps.length ≤ 80000 := by omega
    have hint : (i : Int) < (L : Int) := by omega
    have hot := bs_toList n.op
    have H3 := H2.alloc (.cells #[.string (bs n.op), .string (bs n.s), .int .i64 n.n, .int .i64 n.a, .slice An n.l.length Cn] 24)
    clear hD hps T2 hil
    subst eA
    by_cases hd : n.op = wDevice
    · have f0 : (n.op == [100, 101, 118, 105, 99, 101]) = true := by rw [hd]; decide
      have f1 : (n.op == [106, 111, 117, 114, 110, 97, 108]) = false := by rw [hd]; decide
      have hnn := hnl hd
      obtain ⟨M, hM⟩ : ∃ M : Nat, n.n = (M : Nat) := ⟨n.n.toNat, by omega⟩
      have e1 : disks 0 (l.take (i + 1)) = ps ++ [⟨1, M, [], D, 0, 0, [], []⟩] := by rw [HD.out, if_pos hd, hM, Int.toNat_natCast]
      have e2 : devN (l.take (i + 1)) = D + 1 := by rw [HV.out, if_pos (.inl hd)]
      have HE1 : Hid (disks 0 (l.take (i + 1)) = ps ++ [⟨1, M, [], D, 0, 0, [], []⟩]) := e1
      have HE2 : Hid (devN (l.take (i + 1)) = D + 1) := e2
      have hadd := add_plain H3 ⟨1, M, [], D, 0, 0, [], []⟩ none 0 none 0 none 0 ⟨⟨none, 0, rfl, Nat.le_refl _, by unfold maxLen; omega, .inl rfl⟩, ⟨none, 0, rfl, Nat.le_refl _, by unfold maxLen; omega, .inl rfl⟩, ⟨none, 0, rfl, Nat.le_refl _, by unfold maxLen; omega, .inl rfl⟩⟩ (fun k hk => by cases hk) (by simp) (by simp) (by simp) (by show ps.length ≤ 90000; omega)
      rw [hM] at hadd
      simp only [List.length_nil] at hadd
      have hat2 : NdAt wr g (off + i * 5) n An Cn := hat
      have hNM : Hid (n.n = (M : Nat)) := hM
      clear e1 e2 hd hnl hnn HD HV hM
      go_wp2_with (first
      | ((refine at_dstL 11 rfl ?_)
         (refine wpList_is (some 11) _ rfl (by rfl) (run_at_nd _ _ rfl g off i L C rfl rfl hlt wr) ?_))
      | ((refine at_dstL 12 rfl ?_)
         (refine wpList_is (some 12) _ rfl (by rfl) (run_load_nd _ rfl g (off + i * 5) rfl wr hat) ?_)
         (unfold nval))
      | ((go_at_call 84)
         (rw [hNM.out])
         (refine hadd.mono ?_)
         (rintro e w5 ⟨rfl, V5, H5, S5⟩)))
      go_roundw
      case rel => exact ⟨i + 1, V5, by rw [HE2.out]; go_num, by go_num, by omega, by rw [HE1.out]; exact H5, S2.trans ((Stp.of (b_one wr _)).trans S5)⟩
      case measure => simp [intOf]; omega
    · have f0 : (n.op == [100, 101, 118, 105, 99, 101]) = false := by rw [beq_eq_false_iff_ne]; exact hd
      by_cases hj : n.op = wJournal
      · have f1 : (n.op == [106, 111, 117, 114, 110, 97, 108]) = true := by rw [hj]; decide
        have e1 : disks 0 (l.take (i + 1)) = ps := by rw [HD.out, if_neg hd, List.append_nil]
        have e2 : devN (l.take (i + 1)) = D + 1 := by rw [HV.out, if_pos (.inr hj)]
        have HE1 : Hid (disks 0 (l.take (i + 1)) = ps) := e1
        have HE2 : Hid (devN (l.take (i + 1)) = D + 1) := e2
        clear e1 e2 hd hj hnl HD HV
        go_wp2_with (first
        | ((refine at_dstL 11 rfl ?_)
           (refine wpList_is (some 11) _ rfl (by rfl) (run_at_nd _ _ rfl g off i L C rfl rfl hlt wr) ?_))
        | ((refine at_dstL 12 rfl ?_)
           (refine wpList_is (some 12) _ rfl (by rfl) (run_load_nd _ rfl g (off + i * 5) rfl wr hat) ?_)
           (unfold nval))
          )
        go_roundw
        case rel => exact ⟨i + 1, V2, by rw [HE2.out]; go_num, by go_num, by omega, by rw [HE1.out]; exact H3, S2.trans (Stp.of (b_one wr _))⟩
        case measure => simp [intOf]; omega
      · have f1 : (n.op == [106, 111, 117, 114, 110, 97, 108]) = false := by rw [beq_eq_false_iff_ne]; exact hj
        have e1 : disks 0 (l.take (i + 1)) = ps := by rw [HD.out, if_neg hd, List.append_nil]
        have e2 : devN (l.take (i + 1)) = D := by rw [HV.out, if_neg (by simp [hd, hj])]; rfl
        have HE1 : Hid (disks 0 (l.take (i + 1)) = ps) := e1
        have HE2 : Hid (devN (l.take (i + 1)) = D) := e2
        clear e1 e2 hd hj hnl HD HV
        go_wp2_with (first
        | ((refine at_dstL 11 rfl ?_)
           (refine wpList_is (some 11) _ rfl (by rfl) (run_at_nd _ _ rfl g off i L C rfl rfl hlt wr) ?_))
        | ((refine at_dstL 12 rfl ?_)
           (refine wpList_is (some 12) _ rfl (by rfl) (run_load_nd _ rfl g (off + i * 5) rfl wr hat) ?_)
           (unfold nval))
          )
        go_roundw
        case rel => exact ⟨i + 1, V2, by rw [HE2.out], by go_num, by omega, by rw [HE1.out]; exact H3, S2.trans (Stp.of (b_one wr _))⟩
        case measure => simp [intOf]; omega
  · obtain rfl : i = L := by omega
    have e1 : l.take i = l := by rw [HL.out, List.take_length]
    rw [e1] at H2
    go_wp2
    go_end0
    exact ⟨rfl, V2, H2, S2⟩
end
section
open Go.ChangeShapes Go.WideShapes Go.ChangeAt Go.RowKit Go.MapKept
variable {E : Nat → Prop}
section
variable {w w6 : World} {cb : Nat} {V : CV} {c c' : Ck}
theorem CkAt.kept_set (h : CkAt E w cb V c) (j : Nat) (v : Value) : ∀ {k : Nat} {o : Obj}, k ≠ cb → w.heap[k]? = some o → (w.setCell ⟨cb, j, none⟩ v).heap[k]? = some o := fun {k o} h2 ho => own_set w _ _ h2 ho
theorem CkAt.put (h : CkAt E w cb V c) (j : Nat) (v : Value) (hh : Has (w.setCell ⟨cb, j, none⟩ v) cb 68 #[V.vd, .int .i64 (jI c'.jour), V.vp, .int .i64 (jI c'.expo), .bool c'.ro, .map (some V.mb), V.vb, .int .i64 c'.eat]) (e1 : c'.devs = c.devs) (e2 : c'.parts = c.parts) (e3 : c'.names = c.names) :
  CkAt E (w.setCell ⟨cb, j, none⟩ v) cb V c' ∧ Stp cb V w V (w.setCell ⟨cb, j, none⟩ v) := by
 have hst : Stp cb V w V (w.setCell ⟨cb, j, none⟩ v) := ⟨(Onl.refl _ w).set (.inl (.inl rfl)) _, fun k hk => .inl hk⟩
 obtain ⟨us, q1, r1, i1⟩ := h.prts
 obtain ⟨ms, q2, r2, i2⟩ := h.nms
 have hin := hst.innerE (E := E)
 have hsz := hst.only.size
 refine ⟨⟨hh, ?_, ?_, ?_, ?_, by rw [e3]; exact h.uniq, h.mlt, by rw [e1, e2, e3]; exact h.few⟩, hst⟩
 · rw [e1]
   exact row_grown h.devs (fun g o e ho => h.kept_set j v (by rintro rfl; exact row_has_ne h.devs h.has (by decide) e) ho)
 · rw [e2]
   exact row_grown h.only (fun g o e ho => h.kept_set j v (by rintro rfl; exact row_has_ne h.only h.has (by decide) e) ho)
 · rw [e2]
   exact ⟨us, q1, row_grown r1 (fun g o e ho => h.kept_set j v (by rintro rfl; exact row_has_ne r1 h.has (by decide) e) ho), fun i a b => (i1 i a b).keep hsz hin⟩
 · rw [e3]
   exact ⟨ms, q2, h.kept_set j v (by intro e; have hh : w.heap[cb]? = some (.cells _ _ (0, 0)) := h.has; rw [e] at r2; rw [r2] at hh; cases hh) r2, fun i a b => (i2 i a b).keep hsz hin⟩
theorem CkAt.putDev (h : CkAt E w cb V c) {A6 : Option Addr} {C6 d : Nat} (hg : w.grownBy w6 V.vd.ownBlock) (hr : w6.ownsRow cb 3 1 (.slice A6 (c.devs.length + 1) C6) (c.devs.length + 1) ((c.devs.map fun d => .int .i64 (d : Nat)) ++ [.int .i64 (d : Nat)])) (hw : (Value.slice A6 (c.devs.length + 1) C6).ownBlock = V.vd.ownBlock ∨ (Value.slice A6 (c.devs.length + 1) C6).ownBlock = some w.heap.size) (hl : c.devs.length ≤ 90000) :
  CkAt E (w6.setCell ⟨cb, 0, none⟩ (.slice A6 (c.devs.length + 1) C6)) cb { V with vd := .slice A6 (c.devs.length + 1) C6 } { c with devs := c.devs ++ [d] } ∧ Stp cb V w { V with vd := .slice A6 (c.devs.length + 1) C6 } (w6.setCell ⟨cb, 0, none⟩ (.slice A6 (c.devs.length + 1) C6)) := by
 obtain ⟨us, e1, hp, hpi⟩ := h.prts
 obtain ⟨ms, e2, hm, hmi⟩ := h.nms
 have hst : Stp cb V w { V with vd := .slice A6 (c.devs.length + 1) C6 } (w6.setCell ⟨cb, 0, none⟩ (.slice A6 (c.devs.length + 1) C6)) := by
  refine ⟨(⟨hg.os, hg.tape, hg.output, hg.size, fun k hk hn => hg.block k hk (fun e => hn (.inr (.inl e.symm)))⟩ : Onl (V.own cb) w w6).set (.inl (.inl rfl)) _, fun k hk => ?_⟩
  rcases hk with e | e | e | e | e
  · exact .inl (.inl e)
  · rcases hw with q | q
    · exact .inl (.inr (.inl (q ▸ e)))
    · rw [show (Value.slice A6 (c.devs.length + 1) C6).ownBlock = some w.heap.size from q] at e
      cases e
      exact .inr (Nat.le_refl _)
  · exact .inl (.inr (.inr (.inl e)))
  · exact .inl (.inr (.inr (.inr (.inl e))))
  · exact .inl (.inr (.inr (.inr (.inr e))))
 have hcb : V.vd.ownBlock ≠ some cb := row_has_ne h.devs h.has (by decide)
 have kept : ∀ {k : Nat} {o : Obj}, V.vd.ownBlock ≠ some k → k ≠ cb → w.heap[k]? = some o → (w6.setCell ⟨cb, 0, none⟩ (.slice A6 (c.devs.length + 1) C6)).heap[k]? = some o := fun {k o} h1 h2 ho => own_set w6 _ _ h2 ((hg.block k (Array.getElem?_eq_some_iff.1 ho).1 (fun e => h1 e.symm)).trans ho)
 have hin := hst.innerE (E := E)
 have hsz := hst.only.size
 refine ⟨⟨(grown_has h.has hg hcb).putP 0 _, ?_, row_grown h.only (fun g o e ho => kept (row_row_ne h.devs h.only (by decide) e) (by rintro rfl; exact row_has_ne h.only h.has (by decide) e) ho), ⟨us, e1, row_grown hp (fun g o e ho => kept (row_row_ne h.devs hp (by decide) e) (by rintro rfl; exact row_has_ne hp h.has (by decide) e) ho), fun i a b => (hpi i a b).keep hsz hin⟩, ⟨ms, e2, kept (row_map_ne h.devs hm) (by rintro e; have hh : w.heap[cb]? = some (.cells _ _ (0, 0)) := h.has; rw [show V.mb = cb from e] at hm; rw [hm] at hh; cases hh) hm, fun i a b => (hmi i a b).keep hsz hin⟩, h.uniq, h.mlt, h.few.1, h.few.2.1, by simp; omega⟩, hst⟩
 rw [List.length_append, List.length_singleton, List.map_append, List.map_cons, List.map_nil]
 refine row_grown hr (fun g o e ho => own_set w6 _ _ (by
  show g ≠ cb
  rintro rfl
  rcases hw with q | q
  · exact hcb (q ▸ e)
  · rw [q] at e
    cases e
    exact absurd h.has.lt (Nat.lt_irrefl _)) ho)
def setObj (w : World) (b : Nat) (o : Obj) : World := { w with heap := w.heap.setIfInBounds b o }
theorem setObj_ne (w : World) {b k : Nat} (o : Obj) (h : k ≠ b) : (setObj w b o).heap[k]? = w.heap[k]? := by simp [setObj, Ne.symm h]
theorem setObj_eq (w : World) {b : Nat} (o : Obj) (h : b < w.heap.size) : (setObj w b o).heap[b]? = some o := by simp [setObj, h]
theorem setObj_onl (w : World) (b : Nat) (o : Obj) {F : Nat → Prop} (h : F b) : Onl F w (setObj w b o) := ⟨rfl, rfl, rfl, by simp [setObj], fun k hk hn => setObj_ne w o (by rintro rfl; exact hn h)⟩
theorem CkAt.putName (h : CkAt E w cb V c) {us : List Value} (e2 : us.length = c.names.length) (hm : w.heap[V.mb]? = some (.map (ents c.names us).toArray c.names.length)) (hmi : ∀ i (h : i < c.names.length) (h' : i < us.length), MnIn w (fun g => ¬ V.own cb g ∧ E g) c.names[i].2 us[i]) (s : List UInt8) (m : Mn) (u : Value) (hn : ∀ x ∈ c.names, x.1 ≠ s) (hu : MnIn w (fun g => ¬ V.own cb g ∧ E g) m u) (hl : c.names.length ≤ 90000) :
  CkAt E (setObj w V.mb (.map (ents (c.names ++ [(s, m)]) (us ++ [u])).toArray (c.names.length + 1))) cb V { c with names := c.names ++ [(s, m)] } ∧ Stp cb V w V (setObj w V.mb (.map (ents (c.names ++ [(s, m)]) (us ++ [u])).toArray (c.names.length + 1))) := by
 generalize hO : (Obj.map (ents (c.names ++ [(s, m)]) (us ++ [u])).toArray (c.names.length + 1)) = O
 have hst : Stp cb V w V (setObj w V.mb O) := ⟨setObj_onl w V.mb O (.inr (.inr (.inr (.inr rfl)))), fun k hk => .inl hk⟩
 obtain ⟨vs, e1, hp, hpi⟩ := h.prts
 have hin := hst.innerE (E := E)
 have hsz := hst.only.size
 have hlt : V.mb < w.heap.size := (Array.getElem?_eq_some_iff.1 hm).1
 have kept : ∀ {k : Nat} {o : Obj}, k ≠ V.mb → w.heap[k]? = some o → (setObj w V.mb O).heap[k]? = some o := fun {k o} h2 ho => (setObj_ne w O h2).trans ho
 have hcb : cb ≠ V.mb := by
  intro e
  have hh : w.heap[cb]? = some (.cells _ _ (0, 0)) := h.has
  rw [e, hm] at hh
  cases hh
 refine ⟨⟨kept hcb h.has, row_grown h.devs (fun g o e ho => kept (by rintro rfl; exact row_map_ne h.devs hm e) ho), row_grown h.only (fun g o e ho => kept (by rintro rfl; exact row_map_ne h.only hm e) ho), ⟨vs, e1, row_grown hp (fun g o e ho => kept (by rintro rfl; exact row_map_ne hp hm e) ho), fun i a b => (hpi i a b).keep hsz hin⟩, ⟨us ++ [u], by simp [e2], ?_, ?_⟩, ?_, h.mlt, h.few.1, by simp; omega, h.few.2.2⟩, hst⟩
 · show (setObj w V.mb O).heap[V.mb]? = _
   rw [setObj_eq w O hlt, ← hO]
   simp
 · intro i a b
   by_cases hi : i < c.names.length
   · simp only [List.getElem_append_left hi, List.getElem_append_left (show i < us.length by omega)]
     exact (hmi i hi (by omega)).keep hsz hin
   · have : i = c.names.length := by simp at a; omega
     subst this
     have q1 : (c.names ++ [(s, m)])[c.names.length]'a = (s, m) := by rw [List.getElem_append_right (Nat.le_refl _)]; simp
     have q2 : (us ++ [u])[c.names.length]'b = u := by rw [List.getElem_append_right (by omega)]; simp [e2]
     simp only [q1, q2]
     exact hu.keep hsz hin
 · exact List.pairwise_append.2 ⟨h.uniq, List.pairwise_singleton _ _, fun a ha b hb => by rw [List.mem_singleton.1 hb]; exact hn a ha⟩
end
theorem run_mapNew {o : Oper} {a : Act} (x y z : Operand) (ho : o.op = .mapUpdate 65 x y z) {w : World} {mb : Nat} {ns : Nms} {us : List Value} (hb : w.heap[mb]? = some (.map (ents ns us).toArray ns.length)) (h : us.length = ns.length) (hu : ns.Pairwise (fun x y => x.1 ≠ y.1)) (s : List UInt8) (m : Mn) (u : Value) (hn : lk ns s = none) (hx : a.eval x = .map (some mb)) (hy : a.eval y = .string (bs s)) (hz : a.eval z = mnv m u) : (execOp a.eval o).run Tryz.prog w = .ok .skip (setObj w mb (.map (ents (ns ++ [(s, m)]) (us ++ [u])).toArray (ns.length + 1))) := by
 have hk : IsKey .string (.string (bs s)) := trivial
 unfold execOp
 simp only [ho, hx, hy, hz]
 rw [← ents_push h s m u]
 rcases ents_find h hu s with ⟨g1, g2⟩ | ⟨i, hi, g1, g2, g3⟩
 · have hr := MapKept.run_findKey (P := Tryz.prog) (w := w) Tryz.underlying9 g1
   simp [Instr.mapUpdate, run_underlying Tryz.underlying65, MapKept.run_getObj_map hb, MapKept.run_checkKey Tryz.underlying9 hk, hr, MapKept.run_setObj_map _ hb, Result.andThen]
   rfl
 · rw [hn] at g2; cases g2
end
section
open Go.Shelf
def Tryz.laysSlK4_ren : Go.Shelf.Ren := ⟨fun | 4 => 193 | n => n, fun | 22 => 45 | 4 => 4 | 5 => 5 | n => n, fun | n => n⟩
theorem Tryz.laysSlK4 : Go.Proofs.SlLaysK.n4 Tryz.prog Tryz.laysSlK4_ren := {
 mixed := by kernel_rfl
 f4 := Tryz.func193.trans (congrArg some (by kernel_rfl))
 t4 := Tryz.underlying4
 a4 := Tryz.isAgg4
 z4 := Tryz.sizeOf4
 v4 := Tryz.zeroValue4
 t22 := Tryz.underlying45
 a22 := Tryz.isAgg45
 z22 := Tryz.sizeOf45
 v22 := Tryz.zeroValue45
 t5 := Tryz.underlying5
 i5 := by kernel_rfl }
open Go.RowKit Go.Lib in
theorem Tryz.bytes_Clone_at (a : Addr) (n c : Nat) (xs : List Int) (w : World) (hx : xs.length = n) (hbig : n ≤ 140737488355328) (hc : ∀ i, i < n → w.cell? (a.add i) = some (.int .u8 (xs.getD i 0))) :
  Calls Tryz.prog 193 #[.slice (some a) n c] w fun e w' => ∃ v', e = .returned v' ∧ w'.ownsRow w.heap.size 5 1 v' n (xs.map (Value.int .u8)) ∧ v' ≠ .slice none 0 0 ∧ Below w.heap.size w w' := Any.bytes_Clone_at Tryz.laysSlK4 a n c xs w hx hbig hc
open Go.RowKit Go.Lib in
theorem Tryz.bytes_Clone_nil (n c : Nat) (w : World) :
  Calls Tryz.prog 193 #[.slice none n c] w fun e w' => e = .returned (.slice none 0 0) ∧ w' = w := Any.bytes_Clone_nil Tryz.laysSlK4 n c w
def Tryz.laysnb115_ren : Go.Shelf.Ren := ⟨fun | 115 => 184 | n => n, fun | 37 => 45 | 4 => 4 | 9 => 9 | 5 => 5 | n => n, fun | n => n⟩
theorem Tryz.laysnb115 : Go.Proofs.Lays.nb115 Tryz.prog Tryz.laysnb115_ren := {
 mixed := by kernel_rfl
 f115 := Tryz.func184.trans (congrArg some (by kernel_rfl))
 t4 := Tryz.underlying4
 a4 := Tryz.isAgg4
 z4 := Tryz.sizeOf4
 v4 := Tryz.zeroValue4
 t9 := Tryz.underlying9
 a9 := Tryz.isAgg9
 z9 := Tryz.sizeOf9
 v9 := Tryz.zeroValue9
 t37 := Tryz.underlying45
 a37 := Tryz.isAgg45
 z37 := Tryz.sizeOf45
 v37 := Tryz.zeroValue45
 t5 := Tryz.underlying5
 a5 := Tryz.isAgg5
 z5 := Tryz.sizeOf5
 v5 := Tryz.zeroValue5 }
theorem Tryz.bytes_Equal_all (p1 p2 : Option Addr) (n c m d : Nat) (xs ys : List Int) (w : World) (hx : xs.length = n) (hy : ys.length = m) (h1 : Lib.BytesIn w p1 n xs) (h2 : Lib.BytesIn w p2 m ys) :
  Calls Tryz.prog 184 #[.slice p1 n c, .slice p2 m d] w fun e w' => e = .returned (.bool (Lib.bytesOf xs == Lib.bytesOf ys)) ∧ w' = w := Any.bytes_Equal_all Tryz.laysnb115 p1 p2 n c m d xs ys w hx hy h1 h2
end
section
open Go.ChangeShapes Go.WideShapes Go.ChangeAt Go.RowKit Go.MapKept
variable {E : Nat → Prop}
def BNew (w w' : World) (v : Value) (l : List UInt8) : Prop := ∃ A C, v = .slice A l.length C ∧ l.length ≤ C ∧ C ≤ maxLen ∧ BytsP w' (fun g => w.heap.size ≤ g) A l
theorem clone_c {w : World} {P : Nat → Prop} {A : Option Addr} {C : Nat} {l : List UInt8} (h : BytsP w P A l) (hl : l.length ≤ 1000) : Calls Tryz.prog 193 #[.slice A l.length C] w fun e w' => ∃ v, e = .returned v ∧ BNew w w' v l ∧ Below w.heap.size w w' := by
 cases A with
 | none =>
   have he : l = [] := by
    rcases h with h | ⟨b, off, e, _⟩
    · exact h
    · cases e
   subst he
   refine (Tryz.bytes_Clone_nil 0 C w).mono ?_
   rintro e w' ⟨rfl, rfl⟩
   exact ⟨_, rfl, ⟨none, 0, rfl, Nat.le_refl _, by unfold maxLen; omega, .inl rfl⟩, Below.refl _ _⟩
 | some a =>
   refine (Tryz.bytes_Clone_at a l.length C (l.map fun b => ((b.toNat : Nat) : Int)) w (by simp) (by omega) (fun i hi => ?_)).mono ?_
   · rcases h with h | ⟨b, off, e, hb, _, hc⟩
     · rw [h] at hi; simp at hi
     · cases e
       have := hc i hi
       rw [show (⟨b, off, none⟩ : Addr).add i = ⟨b, off + i, none⟩ by simp [Addr.add], this]
       simp [List.getD_eq_getElem?_getD, hi]
   · rintro e w' ⟨v', rfl, hr, hne, hb⟩
     refine ⟨v', rfl, ?_, hb⟩
     rcases hr.2 with ⟨e, h0⟩ | ⟨g, cap, cur, rfl, hg, hh, hn, hm, hs, ht⟩
     · exact absurd e hne
     · refine ⟨_, cap, rfl, hn, hm, ?_⟩
       by_cases hl0 : l = []
       · exact .inl hl0
       · refine .inr ⟨g, 0, rfl, (Array.getElem?_eq_some_iff.1 hh).1, hg, fun j hj => ?_⟩
         rw [Nat.zero_add, cell_of_row w' g j cur _ _ hh, ← Array.getElem?_toList]
         have e1 : (cur.toList.take (l.length * 1))[j]? = cur.toList[j]? := List.getElem?_take_of_lt (by omega)
         rw [← e1, ht]
         simp [hj]
def SRes (w : World) (R : Except Er Mn) (e : Ending) (w' : World) : Prop := Below w.heap.size w w' ∧ match R with
 | .error (c, k) => e = .panicked (cflt c k)
 | .ok m => ∃ v, e = .returned v ∧ BNew w w' v m.bytes
theorem secret_c {w : World} {cb : Nat} {V : CV} {c : Ck} (h : CkAt E w cb V c) (n : Nd) (A : Option Addr) (C : Nat) (hr : RdN w n A C) (hl : 2 ≤ n.l.length) (wd : List UInt8) (hby : ∀ x ∈ c.names, x.2.bytes.length ≤ 1000) : Calls Tryz.prog 183 #[.pointer (some ⟨cb, 0, none⟩), .agg (ndc n (.slice A n.l.length C)), .string (bs wd)] w (SRes w (known c.names (nth n.l 1) [wd])) := by
 obtain ⟨g, off, Au, Cu, rfl, hg, hat⟩ := parts_at hr (by omega)
 obtain ⟨hat1, _⟩ := hat 1 (by omega)
 have hlen := hr.len
 obtain ⟨L, hL⟩ : ∃ L, L = n.l.length := ⟨_, rfl⟩
 rw [← hL] at hl hlen ⊢
 generalize nth n.l 1 = m1 at hat1 ⊢
 obtain ⟨W1, hW1⟩ : ∃ W1, W1 = (w.alloc (.cells #[.string (bs n.op), .string (bs n.s), .int .i64 n.n, .int .i64 n.a, .slice (some ⟨g, off, none⟩) L C] 24)).alloc (.cells #[.string (bs wd)] 9) := ⟨_, rfl⟩
 have hb1 : Below w.heap.size w W1 := by rw [hW1]; exact b_two w _ _
 have hkn := known_c (h.keep hb1) m1 (Au 1) m1.l.length (Cu 1) [wd] (.slice (some ⟨w.heap.size + 1, 0, none⟩) 1 1) (.inr ⟨w.heap.size + 1, rfl, by rw [hW1]; exact Has.new_at (by simp)⟩) (by simp)
 have hat2 : NdAt (w.alloc (.cells #[.string (bs n.op), .string (bs n.s), .int .i64 n.n, .int .i64 n.a, .slice (some ⟨g, off, none⟩) L C] 24)) g (off + 1 * 5) m1 (Au 1) (Cu 1) := hat1.grow (b_one w _) hg
 rw [hW1] at hkn
 have HW : Hid (W1 = (w.alloc (.cells #[.string (bs n.op), .string (bs n.s), .int .i64 n.n, .int .i64 n.a, .slice (some ⟨g, off, none⟩) L C] 24)).alloc (.cells #[.string (bs wd)] 9)) := hW1
 clear hW1 hL
 have hmem := fun m (e : known c.names m1 [wd] = .ok m) => hby _ (known_ok e).1
 have hli : (1 : Int) < (L : Int) := by omega
 have hCm : L ≤ C ∧ C ≤ 9223372036854775807 := hlen
 cases hK : known c.names m1 [wd] with
 | error er =>
   obtain ⟨ec, ek⟩ := er
   rw [hK] at hkn
   clear hK hmem hlen hr h
   unfold ndc at hkn ⊢
   go_enter Tryz.func183, Tryz.ntmps183
   go_wp2_with (first
    | ((refine at_dstL 11 rfl ?_)
       (refine wpList_is (some 11) _ rfl (by rfl) (run_load_nd _ rfl g (off + 1 * 5) rfl _ hat2) ?_)
       (unfold nval))
    | ((go_at_call 117)
       (refine hkn.mono ?_)
       (rintro e w2 ⟨hb2, rfl⟩)))
   rw [← HW.out] at hb2
   exact ⟨rfl, hb1.trans (hb2.mono hb1.size), rfl⟩
 | ok m =>
   have hml := hmem m hK
   rw [hK] at hkn
   clear hK hmem hlen hr h
   unfold ndc at hkn ⊢
   go_enter Tryz.func183, Tryz.ntmps183
   go_wp2_with (first
    | ((refine at_dstL 11 rfl ?_)
       (refine wpList_is (some 11) _ rfl (by rfl) (run_load_nd _ rfl g (off + 1 * 5) rfl _ hat2) ?_)
       (unfold nval))
    | ((go_at_call 117)
       (refine hkn.mono ?_)
       (rintro e w2 ⟨hb2, Am, Cm, rfl, hm1, hm2, hbp⟩)
       (unfold mnv))
    | ((refine at_dstL 15 rfl ?_)
       (refine wpList_is (some 15) (.slice Am m.bytes.length Cm) rfl (by rfl) (by kernel_rfl) ?_))
    | ((go_at_call 193)
       (refine (clone_c hbp hml).mono ?_)
       (rintro e w3 ⟨v3, rfl, hN, hb3⟩)))
   go_ret
   rw [← HW.out] at hb2
   have hb02 : Below w.heap.size w w2 := hb1.trans (hb2.mono hb1.size)
   refine ⟨hb02.trans (hb3.mono hb02.size), v3, rfl, ?_⟩
   obtain ⟨A', C', e1, e2, e3, e4⟩ := hN
   exact ⟨A', C', e1, e2, e3, e4.keep (Nat.le_refl _) (fun k hk hB => ⟨rfl, Nat.le_trans hb02.size hB⟩)⟩
end
section
open Go.ChangeShapes Go.WideShapes Go.ChangeAt Go.RowKit Go.MapKept
variable {E : Nat → Prop}
def PtRes (w : World) (R : Except Er Pt) (e : Ending) (w' : World) : Prop := Below w.heap.size w w' ∧ match R with
 | .error (c, k) => e = .panicked (cflt c k)
 | .ok p => ∃ u, e = .returned (.agg (ptc p u)) ∧ PtIn w' (fun g => w.heap.size ≤ g) p u
theorem ret_part {fn : Func} {R : Ending → World → Prop} {a : Act} {W : World} {s g : Nat} {x0 x1 x2 x3 x4 x5 x6 x7 : Value} (hr : fn.results = #[.cell s 47]) (hs : a.tmps[s]?.getD undef = .pointer (some ⟨g, 0, none⟩)) (hH : Has W g 47 #[x0, x1, x2, x3, x4, x5, x6, x7]) (hd : a.defers = []) (h : R (.returned (.agg #[x0, x1, x2, x3, x4, x5, x6, x7])) W) : bodyPost Tryz.prog fn R .ret a W := by
 have q0 := hH.cell 0
 have q1 := hH.cell 1
 have q2 := hH.cell 2
 have q3 := hH.cell 3
 have q4 := hH.cell 4
 have q5 := hH.cell 5
 have q6 := hH.cell 6
 have q7 := hH.cell 7
 exact bodyPost_ret (by simp only [results, hr]; simp [hs, go_sem, q0, q1, q2, q3, q4, q5, q6, q7]) hd h
abbrev put8 (W : World) (g : Nat) (x0 x1 x2 x3 x4 x5 x6 x7 : Value) : World := (((((((W.setCell ⟨g, 0, none⟩ x0).setCell ⟨g, 1, none⟩ x1).setCell ⟨g, 2, none⟩ x2).setCell ⟨g, 3, none⟩ x3).setCell ⟨g, 4, none⟩ x4).setCell ⟨g, 5, none⟩ x5).setCell ⟨g, 6, none⟩ x6).setCell ⟨g, 7, none⟩ x7
theorem Has.set8 {w : World} {g t : Nat} {a0 a1 a2 a3 a4 a5 a6 a7 : Value} (h : Has w g t #[a0, a1, a2, a3, a4, a5, a6, a7]) (x0 x1 x2 x3 x4 x5 x6 x7 : Value) : Has (put8 w g x0 x1 x2 x3 x4 x5 x6 x7) g t #[x0, x1, x2, x3, x4, x5, x6, x7] := by
 have h0 : Has _ g t #[x0, a1, a2, a3, a4, a5, a6, a7] := h.putP 0 x0
 have h1 : Has _ g t #[x0, x1, a2, a3, a4, a5, a6, a7] := h0.putP 1 x1
 have h2 : Has _ g t #[x0, x1, x2, a3, a4, a5, a6, a7] := h1.putP 2 x2
 have h3 : Has _ g t #[x0, x1, x2, x3, a4, a5, a6, a7] := h2.putP 3 x3
 have h4 : Has _ g t #[x0, x1, x2, x3, x4, a5, a6, a7] := h3.putP 4 x4
 have h5 : Has _ g t #[x0, x1, x2, x3, x4, x5, a6, a7] := h4.putP 5 x5
 have h6 : Has _ g t #[x0, x1, x2, x3, x4, x5, x6, a7] := h5.putP 6 x6
 have h7 : Has _ g t #[x0, x1, x2, x3, x4, x5, x6, x7] := h6.putP 7 x7
 exact h7
theorem bel8 {w W : World} {B g : Nat} (h : Below B w W) (hg : B ≤ g) (x0 x1 x2 x3 x4 x5 x6 x7 : Value) : Below B w (put8 W g x0 x1 x2 x3 x4 x5 x6 x7) := (((((((h.setCell (p := ⟨g, 0, none⟩) hg x0).setCell (p := ⟨g, 1, none⟩) hg x1).setCell (p := ⟨g, 2, none⟩) hg x2).setCell (p := ⟨g, 3, none⟩) hg x3).setCell (p := ⟨g, 4, none⟩) hg x4).setCell (p := ⟨g, 5, none⟩) hg x5).setCell (p := ⟨g, 6, none⟩) hg x6).setCell (p := ⟨g, 7, none⟩) hg x7
theorem integrity_c {w : World} {cb : Nat} {V : CV} {c : Ck} (h : CkAt E w cb V c) (n : Nd) (A : Option Addr) (C : Nat) (hr : RdN w n A C) (hl : 2 ≤ n.l.length) (ho : n.op = wIntegrity) (size : Nat) (hsz : size ≤ 8192) (hby : ∀ x ∈ c.names, x.2.bytes.length ≤ 1000) : Calls Tryz.prog 163 #[.pointer (some ⟨cb, 0, none⟩), .agg (ndc n (.slice A n.l.length C)), .int .i64 (size : Nat)] w (PtRes w (csecured c.names n size [])) := by
 have hcs : csecured c.names n size [] = match known c.names (nth n.l 1) [wKey] with | .error e => .error e | .ok m => if dI size = 0 then .error (134, n.a) else .ok ⟨7, dI size, [], 0, 0, 0, m.bytes, []⟩ := by
  unfold csecured
  rw [if_neg (by rw [ho]; decide), if_pos ho]; rfl
 rw [hcs]
 have f0 : (n.op == [99, 114, 121, 112, 116]) = false := by rw [ho]; decide
 have f1 : (n.op == [105, 110, 116, 101, 103, 114, 105, 116, 121]) = true := by rw [ho]; decide
 have hot := bs_toList n.op
 obtain ⟨W2, hW2⟩ : ∃ W2, W2 = (w.alloc (.cells #[.string (bs n.op), .string (bs n.s), .int .i64 n.n, .int .i64 n.a, .slice A n.l.length C] 24)).alloc (.cells #[.int .i64 0, .int .i64 0, .slice none 0 0, .int .i64 0, .int .i64 0, .int .i64 0, .slice none 0 0, .slice none 0 0] 47) := ⟨_, rfl⟩
 have hb2 : Below w.heap.size w W2 := by rw [hW2]; exact b_two w _ _
 have P2 : Has W2 (w.heap.size + 1) 47 #[.int .i64 0, .int .i64 0, .slice none 0 0, .int .i64 0, .int .i64 0, .int .i64 0, .slice none 0 0, .slice none 0 0] := by rw [hW2]; exact Has.new_at (by simp)
 have N2 : Has W2 w.heap.size 24 #[.string (bs n.op), .string (bs n.s), .int .i64 n.n, .int .i64 n.a, .slice A n.l.length C] := by rw [hW2]; exact (Has.new w _ _).alloc _
 have hsec := secret_c (h.keep hb2) n A C (hr.grow hb2) hl wKey hby
 rw [show bs wKey = ⟨#[107, 101, 121]⟩ from rfl] at hsec
 have hdat := fun W => Integrity_c size W hsz
 rw [hW2] at hsec
 have HW : Hid (W2 = (w.alloc (.cells #[.string (bs n.op), .string (bs n.s), .int .i64 n.n, .int .i64 n.a, .slice A n.l.length C] 24)).alloc (.cells #[.int .i64 0, .int .i64 0, .slice none 0 0, .int .i64 0, .int .i64 0, .int .i64 0, .slice none 0 0, .slice none 0 0] 47)) := hW2
 clear hW2 hcs h hr hl ho
 generalize n.l.length = L at *
 cases hK : known c.names (nth n.l 1) [wKey] with
 | error er =>
   obtain ⟨ec, ek⟩ := er
   rw [hK] at hsec
   clear hK
   unfold ndc at hsec ⊢
   go_enter Tryz.func163, Tryz.ntmps163
   go_wp2_with (first
    | ((go_at_call 183)
       (refine hsec.mono ?_)
       (rintro e w3 ⟨hb3, rfl⟩)))
   rw [← HW.out] at hb3
   exact ⟨rfl, hb2.trans (hb3.mono hb2.size), rfl⟩
 | ok m =>
   have hml := hby _ (known_ok hK).1
   rw [hK] at hsec
   clear hK
   have HD : Hid (∀ r, Great 8192 (fit tg size) r → r = dI size) := (fun r hr => hr.eq (grt_is _ _) : ∀ r, Great 8192 (fit tg size) r → r = dI size)
   generalize dI size = D at HD ⊢
   unfold ndc at hsec ⊢
   by_cases hD0 : D = 0
   · subst hD0
     simp only [if_true]
     go_enter Tryz.func163, Tryz.ntmps163
     go_wp2_with (first
      | ((go_at_call 183)
         (refine hsec.mono ?_)
         (rintro e w3 ⟨hb3, v3, rfl, hN⟩)
         (rw [← HW.out] at hb3)
         (have N3 := N2.below hb3 N2.lt)
         (have nc3 := N3.cell 3)
         (have ln3 := N3.lt))
      | ((go_at_call 185)
         (refine (hdat _).mono ?_)
         (rintro e w4 ⟨r, rfl, hgr, hb4⟩)
         (obtain rfl : r = 0 := HD.out r hgr)
         (have nc4 := below_some hb4 nc3))
      | ((go_at_call 86)
         (refine (need_no 134 n.a _).mono ?_)
         (rintro e w5 ⟨rfl, rfl⟩)))
     exact ⟨rfl, (hb2.trans (hb3.mono hb2.size)).trans (hb4.mono (Nat.le_trans hb2.size hb3.size)), rfl⟩
   · simp only [if_neg hD0]
     have hDn : decide (0 < D) = true := decide_eq_true (by omega)
     clear hD0
     go_enter Tryz.func163, Tryz.ntmps163
     go_wp2_with (first
      | ((go_at_call 183)
         (refine hsec.mono ?_)
         (rintro e w3 ⟨hb3, v3, rfl, Ab, Cb, rfl, e2, e3, hBy⟩)
         (rw [← HW.out] at hb3 hBy)
         (have N3 := N2.below hb3 N2.lt)
         (have nc3 := N3.cell 3)
         (have ln3 := N3.lt))
      | ((go_at_call 185)
         (refine (hdat _).mono ?_)
         (rintro e w4 ⟨r, rfl, hgr, hb4⟩)
         (obtain rfl : D = r := (HD.out r hgr).symm)
         (have nc4 := below_some hb4 nc3)
         (have P3 := (P2.below hb3 P2.lt).below hb4 (P2.below hb3 P2.lt).lt)
         (have lp3 := P3.lt)
         (have a0 := P3.cell 0)
         (have b0 := P3.free 0)
         (have a1 := P3.cell 1)
         (have b1 := P3.free 1)
         (have a2 := P3.cell 2)
         (have b2 := P3.free 2)
         (have a3 := P3.cell 3)
         (have b3 := P3.free 3)
         (have a4 := P3.cell 4)
         (have b4 := P3.free 4)
         (have a5 := P3.cell 5)
         (have b5 := P3.free 5)
         (have a6 := P3.cell 6)
         (have b6 := P3.free 6)
         (have a7 := P3.cell 7)
         (have b7 := P3.free 7))
      | ((go_at_call 86)
         (refine (need_yes 134 n.a _).mono ?_)
         (rintro e w5 ⟨rfl, hw5⟩)
         (obtain rfl : w4 = w5 := hw5.symm)))
     have hb04 : Below w.heap.size w w4 := (hb2.trans (hb3.mono hb2.size)).trans (hb4.mono (Nat.le_trans hb2.size hb3.size))
     have hbf := bel8 (g := w.heap.size + 1) hb04 (Nat.le_succ _) (.int .i64 7) (.int .i64 (D : Nat)) (.slice none 0 0) (.int .i64 0) (.int .i64 0) (.int .i64 0) (.slice Ab m.bytes.length Cb) (.slice none 0 0)
     refine ret_part rfl rfl (P3.set8 _ _ _ _ _ _ _ _) rfl ⟨hbf, (.slice none 0 0, .slice Ab m.bytes.length Cb, .slice none 0 0), rfl, ?_⟩
     have KB : BytsP (put8 w4 (w.heap.size + 1) (.int .i64 7) (.int .i64 (D : Nat)) (.slice none 0 0) (.int .i64 0) (.int .i64 0) (.int .i64 0) (.slice Ab m.bytes.length Cb) (.slice none 0 0)) (fun g => w.heap.size ≤ g) Ab m.bytes := hBy.keep (by simpa using hb4.size) (fun k hk hB => ⟨by
      have hk2 : k ≠ w.heap.size + 1 := by have := P2.lt; omega
      unfold put8
      iterate 8 rw [Below.heap_setCell _ _ _ k hk2]
      exact hb4.block k hk, Nat.le_trans hb2.size hB⟩)
     exact ⟨⟨none, 0, rfl, Nat.le_refl _, by unfold maxLen; omega, .inl rfl⟩, ⟨Ab, Cb, rfl, e2, e3, KB⟩, ⟨none, 0, rfl, Nat.le_refl _, by unfold maxLen; omega, .inl rfl⟩⟩
theorem verity_c {w : World} {cb : Nat} {V : CV} {c : Ck} (h : CkAt E w cb V c) (n : Nd) (A : Option Addr) (C : Nat) (hr : RdN w n A C) (hl : 2 ≤ n.l.length) (ho : n.op = wVerity) (size : Nat) (hsz : size ≤ 8192) (hby : ∀ x ∈ c.names, x.2.bytes.length ≤ 1000) : Calls Tryz.prog 163 #[.pointer (some ⟨cb, 0, none⟩), .agg (ndc n (.slice A n.l.length C)), .int .i64 (size : Nat)] w (PtRes w (csecured c.names n size [])) := by
 have hcs : csecured c.names n size [] = match known c.names (nth n.l 1) [wRoot] with | .error e => .error e | .ok m => if dV size = 0 then .error (134, n.a) else .ok ⟨8, dV size, [], 0, 0, 0, [], m.bytes⟩ := by
  unfold csecured
  rw [if_neg (by rw [ho]; decide), if_neg (by rw [ho]; decide)]; rfl
 rw [hcs]
 have f0 : (n.op == [99, 114, 121, 112, 116]) = false := by rw [ho]; decide
 have f1 : (n.op == [105, 110, 116, 101, 103, 114, 105, 116, 121]) = false := by rw [ho]; decide
 have hot := bs_toList n.op
 obtain ⟨W2, hW2⟩ : ∃ W2, W2 = (w.alloc (.cells #[.string (bs n.op), .string (bs n.s), .int .i64 n.n, .int .i64 n.a, .slice A n.l.length C] 24)).alloc (.cells #[.int .i64 0, .int .i64 0, .slice none 0 0, .int .i64 0, .int .i64 0, .int .i64 0, .slice none 0 0, .slice none 0 0] 47) := ⟨_, rfl⟩
 have hb2 : Below w.heap.size w W2 := by rw [hW2]; exact b_two w _ _
 have P2 : Has W2 (w.heap.size + 1) 47 #[.int .i64 0, .int .i64 0, .slice none 0 0, .int .i64 0, .int .i64 0, .int .i64 0, .slice none 0 0, .slice none 0 0] := by rw [hW2]; exact Has.new_at (by simp)
 have N2 : Has W2 w.heap.size 24 #[.string (bs n.op), .string (bs n.s), .int .i64 n.n, .int .i64 n.a, .slice A n.l.length C] := by rw [hW2]; exact (Has.new w _ _).alloc _
 have hsec := secret_c (h.keep hb2) n A C (hr.grow hb2) hl wRoot hby
 rw [show bs wRoot = ⟨#[114, 111, 111, 116]⟩ from rfl] at hsec
 have hdat := fun W => Verity_c size W hsz
 rw [hW2] at hsec
 have HW : Hid (W2 = (w.alloc (.cells #[.string (bs n.op), .string (bs n.s), .int .i64 n.n, .int .i64 n.a, .slice A n.l.length C] 24)).alloc (.cells #[.int .i64 0, .int .i64 0, .slice none 0 0, .int .i64 0, .int .i64 0, .int .i64 0, .slice none 0 0, .slice none 0 0] 47)) := hW2
 clear hW2 hcs h hr hl ho
 generalize n.l.length = L at *
 cases hK : known c.names (nth n.l 1) [wRoot] with
 | error er =>
   obtain ⟨ec, ek⟩ := er
   rw [hK] at hsec
   clear hK
   unfold ndc at hsec ⊢
   go_enter Tryz.func163, Tryz.ntmps163
   go_wp2_with (first
    | ((go_at_call 183)
       (refine hsec.mono ?_)
       (rintro e w3 ⟨hb3, rfl⟩)))
   rw [← HW.out] at hb3
   exact ⟨rfl, hb2.trans (hb3.mono hb2.size), rfl⟩
 | ok m =>
   have hml := hby _ (known_ok hK).1
   rw [hK] at hsec
   clear hK
   have HD : Hid (∀ r, Great 2048 (fit hs size) r → r = dV size) := (fun r hr => hr.eq (grt_is _ _) : ∀ r, Great 2048 (fit hs size) r → r = dV size)
   generalize dV size = D at HD ⊢
   unfold ndc at hsec ⊢
   by_cases hD0 : D = 0
   · subst hD0
     simp only [if_true]
     go_enter Tryz.func163, Tryz.ntmps163
     go_wp2_with (first
      | ((go_at_call 183)
         (refine hsec.mono ?_)
         (rintro e w3 ⟨hb3, v3, rfl, hN⟩)
         (rw [← HW.out] at hb3)
         (have N3 := N2.below hb3 N2.lt)
         (have nc3 := N3.cell 3)
         (have ln3 := N3.lt))
      | ((go_at_call 186)
         (refine (hdat _).mono ?_)
         (rintro e w4 ⟨r, rfl, hgr, hb4⟩)
         (obtain rfl : r = 0 := HD.out r hgr)
         (have nc4 := below_some hb4 nc3))
      | ((go_at_call 86)
         (refine (need_no 134 n.a _).mono ?_)
         (rintro e w5 ⟨rfl, rfl⟩)))
     exact ⟨rfl, (hb2.trans (hb3.mono hb2.size)).trans (hb4.mono (Nat.le_trans hb2.size hb3.size)), rfl⟩
   · simp only [if_neg hD0]
     have hDn : decide (0 < D) = true := decide_eq_true (by omega)
     clear hD0
     go_enter Tryz.func163, Tryz.ntmps163
     go_wp2_with (first
      | ((go_at_call 183)
         (refine hsec.mono ?_)
         (rintro e w3 ⟨hb3, v3, rfl, Ab, Cb, rfl, e2, e3, hBy⟩)
         (rw [← HW.out] at hb3 hBy)
         (have N3 := N2.below hb3 N2.lt)
         (have nc3 := N3.cell 3)
         (have ln3 := N3.lt))
      | ((go_at_call 186)
         (refine (hdat _).mono ?_)
         (rintro e w4 ⟨r, rfl, hgr, hb4⟩)
         (obtain rfl : D = r := (HD.out r hgr).symm)
         (have nc4 := below_some hb4 nc3)
         (have P3 := (P2.below hb3 P2.lt).below hb4 (P2.below hb3 P2.lt).lt)
         (have lp3 := P3.lt)
         (have a0 := P3.cell 0)
         (have b0 := P3.free 0)
         (have a1 := P3.cell 1)
         (have b1 := P3.free 1)
         (have a2 := P3.cell 2)
         (have b2 := P3.free 2)
         (have a3 := P3.cell 3)
         (have b3 := P3.free 3)
         (have a4 := P3.cell 4)
         (have b4 := P3.free 4)
         (have a5 := P3.cell 5)
         (have b5 := P3.free 5)
         (have a6 := P3.cell 6)
         (have b6 := P3.free 6)
         (have a7 := P3.cell 7)
         (have b7 := P3.free 7))
      | ((go_at_call 86)
         (refine (need_yes 134 n.a _).mono ?_)
         (rintro e w5 ⟨rfl, hw5⟩)
         (obtain rfl : w4 = w5 := hw5.symm)))
     have hb04 : Below w.heap.size w w4 := (hb2.trans (hb3.mono hb2.size)).trans (hb4.mono (Nat.le_trans hb2.size hb3.size))
     have hbf := bel8 (g := w.heap.size + 1) hb04 (Nat.le_succ _) (.int .i64 8) (.int .i64 (D : Nat)) (.slice none 0 0) (.int .i64 0) (.int .i64 0) (.int .i64 0) (.slice none 0 0) (.slice Ab m.bytes.length Cb)
     refine ret_part rfl rfl (P3.set8 _ _ _ _ _ _ _ _) rfl ⟨hbf, (.slice none 0 0, .slice none 0 0, .slice Ab m.bytes.length Cb), rfl, ?_⟩
     have KB : BytsP (put8 w4 (w.heap.size + 1) (.int .i64 8) (.int .i64 (D : Nat)) (.slice none 0 0) (.int .i64 0) (.int .i64 0) (.int .i64 0) (.slice none 0 0) (.slice Ab m.bytes.length Cb)) (fun g => w.heap.size ≤ g) Ab m.bytes := hBy.keep (by simpa using hb4.size) (fun k hk hB => ⟨by
      have hk2 : k ≠ w.heap.size + 1 := by have := P2.lt; omega
      unfold put8
      iterate 8 rw [Below.heap_setCell _ _ _ k hk2]
      exact hb4.block k hk, Nat.le_trans hb2.size hB⟩)
     exact ⟨⟨none, 0, rfl, Nat.le_refl _, by unfold maxLen; omega, .inl rfl⟩, ⟨none, 0, rfl, Nat.le_refl _, by unfold maxLen; omega, .inl rfl⟩, ⟨Ab, Cb, rfl, e2, e3, KB⟩⟩
end
end Go.Proofs.YthndifegfmjpbaaGreatDoor
