/- Texts that the statements of this stage share, joined. -/
import Derived.Test.YthndifegfmjpbaaGreatDoorJoint33
import Derived.Test.YthndifegfmjpbaaGreatDoorJoint10
import Derived.Test.YthndifegfmjpbaaGreatDoorJoint08
import Derived.Test.YthndifegfmjpbaaGreatDoorJoint00
namespace Go.Proofs.YthndifegfmjpbaaGreatDoor
set_option linter.unusedVariables false
set_option maxRecDepth 100000
set_option maxHeartbeats 40000000
section
open Go.ChangeShapes Go.WideShapes Go.ChangeAt Go.RowKit Go.MapKept
def KOut (B : Nat) (R : Except Er Stk) (e : Ending) (w' : World) : Prop := match R with
 | .error (ec, ek) => e = .returned (.tuple #[.agg #[.slice none 0 0, .int .i64 0, .slice none 0 0, .int .i64 0, .bool false], .int .i64 (ec : Nat), .int .i64 ek])
 | .ok s => ∃ vd vp, e = .returned (.tuple #[.agg #[vd, .int .i64 (s.jour : Nat), vp, .int .i64 (s.expo : Nat), .bool s.ro], .int .i64 0, .int .i64 (-1)]) ∧ StkAt w' B s vd vp
theorem row_slc {w : World} {base e size n : Nat} {v : Value} {xs : List Value} (h : w.ownsRow base e size v n xs) : ∃ A C, v = .slice A n C := by
 rcases h.2 with ⟨e, h0⟩ | ⟨b, cap, cur, e, _⟩
 · exact ⟨none, 0, by rw [e, h0]⟩
 · exact ⟨_, _, e⟩
theorem CkAt.oth5 {E : Nat → Prop} {w : World} {cb : Nat} {V : CV} {c : Ck} (h : CkAt E w cb V c) (g : Nat) (hq : ¬ V.own cb g) (hE : ¬ E g) (x0 x1 x2 x3 x4 : Value) : CkAt E (put5 w g x0 x1 x2 x3 x4) cb V c := ((((h.other ⟨g, 0, none⟩ hq hE x0).other ⟨g, 1, none⟩ hq hE x1).other ⟨g, 2, none⟩ hq hE x2).other ⟨g, 3, none⟩ hq hE x3).other ⟨g, 4, none⟩ hq hE x4
theorem Onl.set5 {F : Nat → Prop} {w w' : World} (h : Onl F w w') {g : Nat} (hq : w.heap.size ≤ g) (x0 x1 x2 x3 x4 : Value) : Onl F w (put5 w' g x0 x1 x2 x3 x4) := ((((h.set (q := ⟨g, 0, none⟩) (.inr hq) x0).set (q := ⟨g, 1, none⟩) (.inr hq) x1).set (q := ⟨g, 2, none⟩) (.inr hq) x2).set (q := ⟨g, 3, none⟩) (.inr hq) x3).set (q := ⟨g, 4, none⟩) (.inr hq) x4
def E4 (B S : Nat) (g : Nat) : Prop := B ≤ g ∧ (g < S ∨ S + 4 ≤ g)
theorem b_four (w : World) (a b c d : Obj) : Below w.heap.size w ((((w.alloc a).alloc b).alloc c).alloc d) := ((((Below.refl _ w).alloc (Nat.le_refl _) a).alloc (by simp) b).alloc (by simp; omega) c).alloc (by simp; omega) d
theorem Chk_err {n : Nd} {i : Nat} {e : Er} (h : cstmts (ck0 (disks 0 n.l)) (n.l.take i) = .error e) : Chk n = .error e := by
 have := cstmts_err _ (n.l.drop i) e _ h
 rw [List.take_append_drop] at this
 unfold Chk
 unfold ck0 at this
 rw [this]
theorem Chk_all {n : Nd} {c : Ck} (h : cstmts (ck0 (disks 0 n.l)) n.l = .ok c) : Chk n = cwhole c := by
 unfold Chk
 unfold ck0 at h
 rw [h]
theorem cwhole_ok {c : Ck} {s : Stk} (h : cwhole c = .ok s) : ∃ j x, c.jour = some j ∧ c.expo = some x ∧ s = ⟨c.devs, j, c.parts, x, c.ro⟩ := by
 unfold cwhole at h
 cases hj : c.jour with
 | none => rw [hj] at h; cases h
 | some j =>
   cases hx : c.expo with
   | none => rw [hj, hx] at h; cases h
   | some x =>
     rw [hj, hx] at h
     simp only at h
     split at h
     · cases h
     · split at h
       · cases h
       · cases h; exact ⟨j, x, rfl, rfl, rfl⟩
theorem thrown_c {w w3 w'' : World} {cb B : Nat} {V : CV} (hcb : B ≤ cb) (hB : B ≤ w.heap.size) (hO : Onl (V.own cb) w w3) (hbl : Below (w.heap.size + 1) w3 w'') (hsz : w.heap.size + 1 ≤ w3.heap.size) : Onl (V.own cb) w w'' :=
 ⟨hbl.os.trans hO.os, hbl.tape.trans hO.tape, hbl.output.trans hO.output, Nat.le_trans hO.size hbl.size, fun k hk hn => (hbl.block k (by omega)).trans (hO.block k hk hn)⟩
theorem checked_c {w0 w : World} {cb B : Nat} {V : CV} (h : CkAt (fun g => B ≤ g) w cb V (ck0 [])) (hBc : B ≤ cb) (hBw : B ≤ w.heap.size) (n : Nd) (A : Option Addr) (C : Nat) (hr : RdN w0 n A C) (hcb : w0.heap.size ≤ cb - 1) (hb0 : Below w0.heap.size w0 w) (hst : ∀ x ∈ n.l, StR x) (hlim : n.l.length ≤ 80000) :
  Calls Tryz.prog 24 #[.pointer (some ⟨cb, 0, none⟩), .agg (ndc n (.slice A n.l.length C))] w fun e w' => Onl (V.own cb) w w' ∧ KOut B (Chk n) e w' := by
 obtain ⟨L, hL⟩ : ∃ L, L = n.l.length := ⟨_, rfl⟩
 have HL := hidI hL
 obtain ⟨W4, hW4⟩ : ∃ W4, W4 = (((w.alloc (.cells #[.string (bs n.op), .string (bs n.s), .int .i64 n.n, .int .i64 n.a, .slice A L C] 24)).alloc (.cells #[.slice none 0 0, .int .i64 0, .slice none 0 0, .int .i64 0, .bool false] 32)).alloc (.cells #[.int .i64 0] 25)).alloc (.cells #[.int .i64 0] 3) := ⟨_, rfl⟩
 have hb4 : Below w.heap.size w W4 := by rw [hW4]; exact b_four w _ _ _ _
 have N4 : Has W4 w.heap.size 24 #[.string (bs n.op), .string (bs n.s), .int .i64 n.n, .int .i64 n.a, .slice A L C] := by rw [hW4]; exact (((Has.new w _ _).alloc _).alloc _).alloc _
 have P4 : Has W4 (w.heap.size + 1) 32 #[.slice none 0 0, .int .i64 0, .slice none 0 0, .int .i64 0, .bool false] := by rw [hW4]; exact ((Has.new_at (by simp)).alloc _).alloc _
 have Q4 : Has W4 (w.heap.size + 1 + 1) 25 #[.int .i64 0] := by rw [hW4]; exact (Has.new_at (by simp)).alloc _
 have R4 : Has W4 (w.heap.size + 1 + 1 + 1) 3 #[.int .i64 0] := by rw [hW4]; exact Has.new_at (by simp)
 have HZ4 := hidI (show W4.heap.size = w.heap.size + 4 by rw [hW4]; simp)
 have h4 := (h.mono (E' := E4 B w.heap.size) (fun k hk _ he => ⟨he, .inl hk⟩)).keep hb4
 have lcb := h.has.lt
 have HW := hidI hW4
 have hno : ∀ k, w.heap.size ≤ k → ¬ V.own cb k := fun k hk e => by have := (h.low e).2; omega
 have HNO := hidI hno
 have hdc := disks_c h4 (⟨hr.rd, hb0.trans (hb4.mono hb0.size)⟩ : TrAt w0 W4 n.l A C) hcb hlim (fun x hx ho => (hst x hx).num (.inl ho))
 have hlen := hr.len
 have HST := hidI hst
 rw [← hL] at hdc hlen hlim ⊢
 rw [hW4] at hdc
 clear hW4 hL hno hst
 unfold ndc
 go_enter_defers Tryz.func24, Tryz.ntmps24
 go_wp2_with (first
  | ((go_at_call 51)
     (refine hdc.mono ?_)
     (rintro e w1 ⟨rfl, V1, H1, S1'⟩)
     (have S1 : Stp cb V W4 V1 w1 := by rw [HW.out]; exact S1')
     (have N1 : Has w1 w.heap.size 24 #[.string (bs n.op), .string (bs n.s), .int .i64 n.n, .int .i64 n.a, .slice A L C] := (S1.inner _ N4.lt (HNO.out _ (Nat.le_refl _))).1.trans N4)
     (have n4 := N1.cell 4)
     (have nl := N1.lt)
     (simp only [ga1, gz1, gs1] at n4)))
 clear hdc S1'
 go_loopw [17] (fun z wr => ∃ (i : Nat) (V' : CV) (c' : Ck), z = .int .i64 (i : Nat) ∧ i ≤ L ∧ CkAt (E4 B w.heap.size) wr cb V' c' ∧ Stp cb V W4 V' wr ∧ Inv n.l (n.l.take i) c' ∧ Hid (cstmts (ck0 (disks 0 n.l)) (n.l.take i) = .ok c')) (fun z _ => L - (intOf z).toNat)
 case atStart => exact ⟨0, V1, ck0 (disks 0 n.l), rfl, Nat.zero_le _, H1, S1, Inv.start _, hidI rfl⟩
 case round =>
  obtain ⟨i, V2, c2, rfl, hi, H2, S2, I2, HC2⟩ := hrel
  have hBr : Below (cb - 1) W4 wr := S2.only.below (by have := HZ4.out; omega) (fun k hk => by have := (h4.low hk).1; omega)
  have hB0r : Below w0.heap.size w0 wr := (hb0.trans (hb4.mono hb0.size)).trans (hBr.mono hcb)
  have hkeep : ∀ k, w.heap.size ≤ k → k < W4.heap.size → wr.heap[k]? = W4.heap[k]? ∧ ¬ V2.own cb k := fun k hk hk' => S2.inner k hk' (HNO.out k hk)
  have Pr : Has wr (w.heap.size + 1) 32 #[.slice none 0 0, .int .i64 0, .slice none 0 0, .int .i64 0, .bool false] := (hkeep _ (by omega) P4.lt).1.trans P4
  have Qr : Has wr (w.heap.size + 1 + 1) 25 #[.int .i64 0] := (hkeep _ (by omega) Q4.lt).1.trans Q4
  have Rr : Has wr (w.heap.size + 1 + 1 + 1) 3 #[.int .i64 0] := (hkeep _ (by omega) R4.lt).1.trans R4
  have HOr := hidI (show Onl (V.own cb) w wr from (Onl.of hb4).trans S2.only)
  have HNO2 := hidI (fun k (hk : w.heap.size ≤ k) (hk' : k < W4.heap.size) => (hkeep k hk hk').2)
  by_cases hlt : i < L
  · have hil : i < n.l.length := by rw [← HL.out]; exact hlt
    obtain ⟨g, off, An, Cn, eA, hg, hat, hrn⟩ := TrAt.get (⟨hr.rd, hB0r⟩ : TrAt w0 wr n.l A C) hil
    subst eA
    have hint : (i : Int) < (L : Int) := by omega
    have hm := HST.out _ (List.getElem_mem hil)
    have HSN := hidI (show cstmts (ck0 (disks 0 n.l)) (n.l.take (i + 1)) = cstmt c2 n.l[i] by
     rw [List.take_succ_eq_append_getElem hil, cstmts_snoc, HC2.out])
    have HIV := hidI (fun c' (q : cstmt c2 n.l[i] = .ok c') => I2.step (l := n.l) (q := n.l.take i) (r := n.l.drop (i + 1)) (x := n.l[i]) (by rw [List.getElem_cons_drop, List.take_append_drop]) hm q)
    have HTK := hidI (List.take_succ_eq_append_getElem hil)
    have hstm := statement_c (H2.alloc (.cells #[.string (bs n.l[i].op), .string (bs n.l[i].s), .int .i64 n.l[i].n, .int .i64 n.l[i].a, .slice An n.l[i].l.length Cn] 24)) n.l[i] An Cn hrn hcb (hB0r.trans ((b_one wr _).mono hB0r.size)) hm I2.nms I2.byts (by have h1 := I2.le8; have h2 := I2.devs; rw [h2, List.length_map]; omega) (by have h1 := I2.nlen; have h2 : (n.l.take i).length ≤ i := (by simp; omega); omega)
    generalize n.l[i] = m at *
    have hbn := b_one wr (.cells #[.string (bs m.op), .string (bs m.s), .int .i64 m.n, .int .i64 m.a, .slice An m.l.length Cn] 24)
    have S2n : Stp cb V W4 V2 (wr.alloc (.cells #[.string (bs m.op), .string (bs m.s), .int .i64 m.n, .int .i64 m.a, .slice An m.l.length Cn] 24)) := S2.trans (Stp.of hbn)
    have hBn : B ≤ (wr.alloc (.cells #[.string (bs m.op), .string (bs m.s), .int .i64 m.n, .int .i64 m.a, .slice An m.l.length Cn] 24)).heap.size := by have := hbn.size; have := HOr.out.size; omega
    have Pn := Pr.alloc (.cells #[.string (bs m.op), .string (bs m.s), .int .i64 m.n, .int .i64 m.a, .slice An m.l.length Cn] 24)
    have Qn := Qr.alloc (.cells #[.string (bs m.op), .string (bs m.s), .int .i64 m.n, .int .i64 m.a, .slice An m.l.length Cn] 24)
    have Rn := Rr.alloc (.cells #[.string (bs m.op), .string (bs m.s), .int .i64 m.n, .int .i64 m.a, .slice An m.l.length Cn] 24)
    have hw4s := HZ4.out
    cases hS : cstmt c2 m with
    | error er =>
      obtain ⟨ec, ek⟩ := er
      rw [hS] at hstm
      have HR := hidI (Chk_err (n := n) (i := i + 1) (HSN.out.trans hS))
      unfold ndc at hstm
      clear hS hw4s
      go_wp2_with (first
       | ((refine at_dstL 19 rfl ?_)
          (refine wpList_is (some 19) _ rfl (by rfl) (run_at_nd _ _ rfl g off i L C rfl rfl hlt wr) ?_))
       | ((refine at_dstL 20 rfl ?_)
          (refine wpList_is (some 20) _ rfl (by rfl) (run_load_nd _ rfl g (off + i * 5) rfl wr hat) ?_)
          (unfold nval))
       | ((go_at_call 52)
          (refine hstm.mono ?_)
          (rintro e w5 ⟨ho5, rfl⟩)))
      have hne : ∀ k, w.heap.size ≤ k → k < W4.heap.size → w5.heap[k]? = (wr.alloc (.cells #[.string (bs m.op), .string (bs m.s), .int .i64 m.n, .int .i64 m.a, .slice An m.l.length Cn] 24)).heap[k]? := fun k hk hk' => ho5.block k (Nat.lt_of_lt_of_le hk' S2n.only.size) (HNO2.out k hk hk')
      have hw4s := HZ4.out
      have P5 : Has w5 (w.heap.size + 1) 32 _ := (hne _ (by omega) (by omega)).trans Pn
      have Q5 : Has w5 (w.heap.size + 1 + 1) 25 _ := (hne _ (by omega) (by omega)).trans Qn
      have R5 : Has w5 (w.heap.size + 1 + 2) 3 _ := (hne _ (by omega) (by omega)).trans Rn
      refine leaves_cons (f := 50) (args := #[.pointer (some ⟨w.heap.size + 1, 0, none⟩), .pointer (some ⟨w.heap.size + 1 + 1, 0, none⟩), .pointer (some ⟨w.heap.size + 1 + 1 + 1, 0, none⟩)]) (by simp) (by simp [go_sem]) ?_
      refine (cks_panicking ec ek (w.heap.size + 1) _ _ _ _ _ _ _ _ P5 Q5 R5).mono ?_
      rintro e u' w'' ⟨rfl, rfl, F1, F2, F3, hbl⟩
      have S05 := ((Stp.of (cb := cb) (V := V) hb4).trans S2n).trans (⟨ho5, fun _ q => .inl q⟩ : Stp cb V2 _ V2 w5)
      refine ⟨_, res_ck rfl rfl rfl F1 F2 F3, thrown_c hBc hBw S05.only hbl (by have := P5.lt; omega), ?_⟩
      rw [HR.out]; rfl
    | ok c3 =>
      rw [hS] at hstm
      have HS := hidI hS
      unfold ndc at hstm
      clear hS hw4s
      go_wp2_with (first
       | ((refine at_dstL 19 rfl ?_)
          (refine wpList_is (some 19) _ rfl (by rfl) (run_at_nd _ _ rfl g off i L C rfl rfl hlt wr) ?_))
       | ((refine at_dstL 20 rfl ?_)
          (refine wpList_is (some 20) _ rfl (by rfl) (run_load_nd _ rfl g (off + i * 5) rfl wr hat) ?_)
          (unfold nval))
       | ((go_at_call 52)
          (refine hstm.mono ?_)
          (rintro e w5 ⟨ho5, rfl, V5, H5, S5⟩)))
      go_roundw
      case rel => exact ⟨i + 1, V5, c3, by go_num, by omega, H5.mono (fun g _ _ he => by
       rcases he with he | he
       · exact he
       · exact ⟨Nat.le_trans hBn he, .inr (by have := S2n.only.size; have := HZ4.out; omega)⟩), S2n.trans S5, by rw [HTK.out]; exact HIV.out c3 HS.out, hidI (HSN.out.trans HS.out)⟩
      case measure => simp [intOf]; omega
  · obtain rfl : i = L := by omega
    have htk : n.l.take i = n.l := by rw [HL.out, List.take_length]
    rw [htk] at I2 HC2
    have hwh := whole_c H2 I2.wf I2.expo
    have HCH := hidI (Chk_all HC2.out)
    have hw4s := HZ4.out
    have hrs := hBr.size
    have S02 := (Stp.of (cb := cb) (V := V) hb4).trans S2
    cases hS : cwhole c2 with
    | error er =>
      obtain ⟨ec, ek⟩ := er
      rw [hS] at hwh
      have HR := hidI (HCH.out.trans hS)
      clear hS htk
      go_wp2_with (first
       | ((go_at_call 53)
          (refine hwh.mono ?_)
          (rintro e w5 ⟨hb5, rfl⟩)))
      have P5 := Pr.below hb5 Pr.lt
      have Q5 := Qr.below hb5 Qr.lt
      have R5 := Rr.below hb5 Rr.lt
      refine leaves_cons (f := 50) (args := #[.pointer (some ⟨w.heap.size + 1, 0, none⟩), .pointer (some ⟨w.heap.size + 1 + 1, 0, none⟩), .pointer (some ⟨w.heap.size + 1 + 1 + 1, 0, none⟩)]) (by simp) (by simp [go_sem]) ?_
      refine (cks_panicking ec ek (w.heap.size + 1) _ _ _ _ _ _ _ _ P5 Q5 R5).mono ?_
      rintro e u' w'' ⟨rfl, rfl, F1, F2, F3, hbl⟩
      refine ⟨_, res_ck rfl rfl rfl F1 F2 F3, thrown_c hBc hBw (S02.trans (Stp.of (cb := cb) (V := V2) hb5)).only hbl (by have := P5.lt; omega), ?_⟩
      rw [HR.out]; rfl
    | ok s =>
      rw [hS] at hwh
      have HR := hidI (HCH.out.trans hS)
      obtain ⟨j, x, ej, ex, es⟩ := cwhole_ok hS
      subst es
      obtain ⟨Ad, Cd, evd⟩ := row_slc H2.devs
      obtain ⟨us, eus, hrp, _⟩ := H2.prts
      obtain ⟨Ap, Cp, evp⟩ := row_slc hrp
      have hcc := H2.has
      rw [ej, ex, evd, evp] at hcc
      change Has wr cb 68 #[.slice Ad c2.devs.length Cd, .int .i64 (j : Nat), .slice Ap c2.parts.length Cp, .int .i64 (x : Nat), .bool c2.ro, .map (some V2.mb), V2.vb, .int .i64 c2.eat] at hcc
      have HVD := hidI evd
      have HVP := hidI evp
      obtain ⟨DL, hDL⟩ : ∃ DL, DL = c2.devs.length := ⟨_, rfl⟩
      obtain ⟨PL, hPL⟩ : ∃ PL, PL = c2.parts.length := ⟨_, rfl⟩
      rw [← hDL] at hcc HVD
      rw [← hPL] at hcc HVP
      clear hS htk hDL hPL evd evp ej ex
      go_wp2_with (first
       | ((go_at_call 53)
          (refine hwh.mono ?_)
          (rintro e w5 ⟨hb5, rfl⟩)
          (have P5 := Pr.below hb5 Pr.lt)
          (have Q5 := Qr.below hb5 Qr.lt)
          (have R5 := Rr.below hb5 Rr.lt)
          (have K5 := hcc.below hb5 hcc.lt)
          (have a0 := P5.cell 0)
          (have a1 := P5.cell 1)
          (have a2 := P5.cell 2)
          (have a3 := P5.cell 3)
          (have a4 := P5.cell 4)
          (have f0 := P5.free 0)
          (have f1 := P5.free 1)
          (have f2 := P5.free 2)
          (have f3 := P5.free 3)
          (have f4 := P5.free 4)
          (have b0 := Q5.cell 0)
          (have g0 := Q5.free 0)
          (have d0 := R5.cell 0)
          (have i0 := R5.free 0)
          (have k0 := K5.cell 0)
          (have k1 := K5.cell 1)
          (have k2 := K5.cell 2)
          (have k3 := K5.cell 3)
          (have k4 := K5.cell 4)
          (simp only [ga1, gz1, gs1] at a0 a1 a2 a3 a4 b0 d0 k0 k1 k2 k3 k4)
          (have la := P5.lt)
          (have lb := Q5.lt)
          (have lc := R5.lt)
          (have lk := K5.lt)))
      refine leaves_cons (f := 50) (args := #[.pointer (some ⟨w.heap.size + 1, 0, none⟩), .pointer (some ⟨w.heap.size + 1 + 1, 0, none⟩), .pointer (some ⟨w.heap.size + 1 + 1 + 1, 0, none⟩)]) (by simp) (by simp [go_sem]) ?_
      refine (cks_idle ⟨w.heap.size + 1, 0, none⟩ ⟨w.heap.size + 1 + 1, 0, none⟩ ⟨w.heap.size + 1 + 1 + 1, 0, none⟩ _).mono ?_
      rintro e u' w'' ⟨rfl, rfl, rfl⟩
      have n1 : w.heap.size + 1 ≠ w.heap.size + 1 + 1 := by omega
      have n2 : w.heap.size + 1 ≠ w.heap.size + 1 + 1 + 1 := by omega
      have n3 : w.heap.size + 1 + 1 ≠ w.heap.size + 1 + 1 + 1 := by omega
      have F1 := ((P5.set5 (.slice Ad DL Cd) (.int .i64 (j : Nat)) (.slice Ap PL Cp) (.int .i64 (x : Nat)) (.bool c2.ro)).other (p := ⟨w.heap.size + 1 + 1, 0, none⟩) n1 (.int .i64 0)).other (p := ⟨w.heap.size + 1 + 1 + 1, 0, none⟩) n2 (.int .i64 (-1))
      have F2 := ((Q5.oth5 (g' := w.heap.size + 1) (Ne.symm n1) (.slice Ad DL Cd) (.int .i64 (j : Nat)) (.slice Ap PL Cp) (.int .i64 (x : Nat)) (.bool c2.ro)).putP 0 (.int .i64 0)).other (p := ⟨w.heap.size + 1 + 1 + 1, 0, none⟩) n3 (.int .i64 (-1))
      have F3 := ((R5.oth5 (g' := w.heap.size + 1) (Ne.symm n2) (.slice Ad DL Cd) (.int .i64 (j : Nat)) (.slice Ap PL Cp) (.int .i64 (x : Nat)) (.bool c2.ro)).other (p := ⟨w.heap.size + 1 + 1, 0, none⟩) (Ne.symm n3) (.int .i64 0)).putP 0 (.int .i64 (-1))
      have O5 := (S02.trans (Stp.of (cb := cb) (V := V2) hb5)).only
      have O7 := ((O5.set5 (g := w.heap.size + 1) (by omega) (.slice Ad DL Cd) (.int .i64 (j : Nat)) (.slice Ap PL Cp) (.int .i64 (x : Nat)) (.bool c2.ro)).set (q := ⟨w.heap.size + 1 + 1, 0, none⟩) (.inr (by show w.heap.size ≤ w.heap.size + 1 + 1; omega)) (.int .i64 0)).set (q := ⟨w.heap.size + 1 + 1 + 1, 0, none⟩) (.inr (by show w.heap.size ≤ w.heap.size + 1 + 1 + 1; omega)) (.int .i64 (-1))
      have hE : ∀ k, w.heap.size ≤ k → k < w.heap.size + 4 → ¬ E4 B w.heap.size k := fun k h1 h2 e => by
       rcases e.2 with q | q <;> omega
      have u2 := HNO2.out (w.heap.size + 1 + 1) (by omega) (by omega)
      have u3 := HNO2.out (w.heap.size + 1 + 1 + 1) (by omega) (by omega)
      have t2 := hE (w.heap.size + 1 + 1) (by omega) (by omega)
      have t3 := hE (w.heap.size + 1 + 1 + 1) (by omega) (by omega)
      have H7 := (((H2.keep hb5).oth5 (w.heap.size + 1) (HNO2.out _ (by omega) (by omega)) (hE _ (by omega) (by omega)) (.slice Ad DL Cd) (.int .i64 (j : Nat)) (.slice Ap PL Cp) (.int .i64 (x : Nat)) (.bool c2.ro)).other ⟨w.heap.size + 1 + 1, 0, none⟩ u2 t2 (.int .i64 0)).other ⟨w.heap.size + 1 + 1 + 1, 0, none⟩ u3 t3 (.int .i64 (-1))
      have HSK := (H7.mono (E' := fun g => B ≤ g) (fun g _ _ he => he.1)).stk hBc ⟨c2.devs, j, c2.parts, x, c2.ro⟩ rfl rfl
      rw [HVD.out, HVP.out] at HSK
      refine ⟨_, res_ck rfl rfl rfl F1 F2 F3, O7, ?_⟩
      rw [HR.out]
      exact ⟨_, _, rfl, HSK⟩
end
section
open Go.ChangeShapes Go.WideShapes Go.ChangeAt Go.RowKit Go.MapKept
def CheckOf (n : Nd) : Except Er Stk := if Right n = true then Chk n else .error (111, 0)
theorem right_sts {n : Nd} (h : Right n = true) (hl : Lim n) : ∀ x ∈ n.l, StR x := fun x hx => by
 unfold Right at h
 simp only [Bool.and_eq_true, List.all_eq_true] at h
 exact right_str (h.1.1.1 x hx) (hl.all x hx)
theorem ret_ck {fn : Func} {R : Ending → World → Prop} {a : Act} {W : World} {s t u g : Nat} {x0 x1 x2 x3 x4 y z : Value} (hr : fn.results = #[.cell s 32, .tmp t, .tmp u]) (hs : a.tmps[s]?.getD undef = .pointer (some ⟨g, 0, none⟩)) (ht : a.tmps[t]?.getD undef = y) (hu : a.tmps[u]?.getD undef = z) (hH : Has W g 32 #[x0, x1, x2, x3, x4]) (hd : a.defers = []) (h : R (.returned (.tuple #[.agg #[x0, x1, x2, x3, x4], y, z])) W) : bodyPost Tryz.prog fn R .ret a W := by
 have q0 := hH.cell 0
 have q1 := hH.cell 1
 have q2 := hH.cell 2
 have q3 := hH.cell 3
 have q4 := hH.cell 4
 exact bodyPost_ret (by simp only [results, hr]; simp [hs, ht, hu, go_sem, q0, q1, q2, q3, q4]) hd h
theorem StkAt.low {w : World} {B B' : Nat} {s : Stk} {vd vp : Value} (h : StkAt w B s vd vp) (hb : B' ≤ B) : StkAt w B' s vd vp := by
 obtain ⟨us, e, hr, hi⟩ := h.prts
 exact ⟨row_base h.devs hb, us, e, row_base hr hb, fun i a b => (hi i a b).keep (Nat.le_refl _) (fun k _ hP => ⟨rfl, Nat.le_trans hb hP⟩)⟩
theorem ck_start (w3 : World) (B : Nat) : CkAt (fun g => B ≤ g) ((w3.alloc (.map #[] 0)).alloc (.cells #[.slice none 0 0, .int .i64 (-1), .slice none 0 0, .int .i64 (-1), .bool false, .map (some w3.heap.size), .slice none 0 0, .int .i64 0] 68)) (w3.heap.size + 1) ⟨.slice none 0 0, .slice none 0 0, .slice none 0 0, w3.heap.size⟩ (ck0 []) :=
 ⟨Has.new_at (by simp), ⟨rfl, .inl ⟨rfl, rfl⟩⟩, ⟨rfl, .inl ⟨rfl, rfl⟩⟩, ⟨[], rfl, ⟨rfl, .inl ⟨rfl, rfl⟩⟩, fun i h => absurd h (Nat.not_lt_zero _)⟩, ⟨[], rfl, (Below.heap_alloc _ _ _ (by simp)).trans (heap_alloc_new w3 _), fun i h => absurd h (Nat.not_lt_zero _)⟩, List.Pairwise.nil, Nat.le_refl _, by decide⟩
theorem bel5g {w W : World} {B g : Nat} (h : Below B w W) (hg : B ≤ g) (x0 x1 x2 x3 x4 : Value) : Below B w (put5 W g x0 x1 x2 x3 x4) :=
 ((((h.setCell (p := ⟨g, 0, none⟩) hg x0).setCell (p := ⟨g, 1, none⟩) hg x1).setCell (p := ⟨g, 2, none⟩) hg x2).setCell (p := ⟨g, 3, none⟩) hg x3).setCell (p := ⟨g, 4, none⟩) hg x4
theorem put5_ne (w : World) {g k : Nat} (h : k ≠ g) (x0 x1 x2 x3 x4 : Value) : (put5 w g x0 x1 x2 x3 x4).heap[k]? = w.heap[k]? :=
 (Below.heap_setCell _ ⟨g, 4, none⟩ x4 k h).trans ((Below.heap_setCell _ ⟨g, 3, none⟩ x3 k h).trans ((Below.heap_setCell _ ⟨g, 2, none⟩ x2 k h).trans ((Below.heap_setCell _ ⟨g, 1, none⟩ x1 k h).trans (Below.heap_setCell w ⟨g, 0, none⟩ x0 k h))))
theorem started_keep {w3 w5 : World} {a b : Obj} (h : Onl ((⟨.slice none 0 0, .slice none 0 0, .slice none 0 0, w3.heap.size⟩ : CV).own (w3.heap.size + 1)) ((w3.alloc a).alloc b) w5) {k : Nat} (hk : k < w3.heap.size) : w5.heap[k]? = w3.heap[k]? := by
 refine (h.block k (by simp; omega) (fun e => ?_)).trans ((b_two w3 a b).block k hk)
 rcases e with e | e | e | e | e
 · omega
 · cases e
 · cases e
 · cases e
 · have : k = w3.heap.size := e; omega
theorem started_below {w3 w5 : World} {B : Nat} {a b : Obj} (h : Onl ((⟨.slice none 0 0, .slice none 0 0, .slice none 0 0, w3.heap.size⟩ : CV).own (w3.heap.size + 1)) ((w3.alloc a).alloc b) w5) (hB : B ≤ w3.heap.size) : Below B w3 w5 := by
 have h0 := b_two w3 a b
 exact ⟨h.os.trans h0.os, h.tape.trans h0.tape, h.output.trans h0.output, Nat.le_trans h0.size h.size, fun k hk => started_keep h (by omega)⟩
theorem stk_vp {w : World} {B : Nat} {s : Stk} {vd vp : Value} (h : StkAt w B s vd vp) : ∃ A C, vp = .slice A s.parts.length C := by
 obtain ⟨us, e, hr, hi⟩ := h.prts
 exact row_slc hr
theorem check_c (n : Nd) (A : Option Addr) (C : Nat) (w : World) (h : RdN w n A C) (hl : Lim n) : Calls Tryz.prog 11 #[.agg (ndc n (.slice A n.l.length C))] w fun e w' => Below w.heap.size w w' ∧ KOut w.heap.size (CheckOf n) e w' := by
 obtain ⟨L, hL⟩ : ∃ L, L = n.l.length := ⟨_, rfl⟩
 have HL := hidI hL
 obtain ⟨W2, hW2⟩ : ∃ W2, W2 = (w.alloc (.cells #[.string (bs n.op), .string (bs n.s), .int .i64 n.n, .int .i64 n.a, .slice A L C] 24)).alloc (.cells #[.slice none 0 0, .int .i64 0, .slice none 0 0, .int .i64 0, .bool false] 32) := ⟨_, rfl⟩
 have hb2 : Below w.heap.size w W2 := by rw [hW2]; exact b_two w _ _
 have N2 : Has W2 w.heap.size 24 #[.string (bs n.op), .string (bs n.s), .int .i64 n.n, .int .i64 n.a, .slice A L C] := by rw [hW2]; exact (Has.new w _ _).alloc _
 have P2 : Has W2 (w.heap.size + 1) 32 #[.slice none 0 0, .int .i64 0, .slice none 0 0, .int .i64 0, .bool false] := by rw [hW2]; exact Has.new_at (by simp)
 have hrt := right_c n A C W2 (h.grow hb2)
 have HW := hidI hW2
 have hlen := h.len
 have HCK := hidI (fun w3 (hb : Below w.heap.size w w3) (hz : w.heap.size + 2 ≤ w3.heap.size) (hst : ∀ x ∈ n.l, StR x) => checked_c (ck_start w3 (w.heap.size + 2)) (by omega) (by simp; omega) n A C h (by have := hb.size; omega) (hb.trans ((b_two w3 _ _).mono hb.size)) hst hl.len)
 have HST := hidI (fun (q : Right n = true) => right_sts q hl)
 rw [← hL] at hrt hlen HCK ⊢
 rw [hW2] at hrt
 clear hW2 hL
 cases hR : Right n with
 | false =>
   have HR := hidI (show CheckOf n = .error (111, 0) by unfold CheckOf; rw [if_neg (by rw [hR]; decide)])
   rw [hR] at hrt
   clear hR
   unfold ndc at hrt ⊢
   go_enter Tryz.func11, Tryz.ntmps11
   go_wp2_with (first
    | ((go_at_call 23)
       (refine hrt.mono ?_)
       (rintro e w3 ⟨rfl, hb3'⟩)
       (have hb3 : Below W2.heap.size W2 w3 := by rw [HW.out]; exact hb3')
       (have P3 := P2.below hb3 P2.lt)
       (have a0 := P3.cell 0)
       (have a1 := P3.cell 1)
       (have a2 := P3.cell 2)
       (have a3 := P3.cell 3)
       (have a4 := P3.cell 4)
       (have f0 := P3.free 0)
       (have f1 := P3.free 1)
       (have f2 := P3.free 2)
       (have f3 := P3.free 3)
       (have f4 := P3.free 4)
       (have la := P3.lt)))
   refine ret_ck rfl rfl rfl rfl (P3.set5 _ _ _ _ _) rfl ?_
   refine ⟨bel5g (hb2.trans (hb3.mono hb2.size)) (Nat.le_succ _) _ _ _ _ _, ?_⟩
   rw [HR.out]
   rfl
 | true =>
   have HR := hidI (show CheckOf n = Chk n by unfold CheckOf; rw [if_pos hR])
   have hst := HST.out hR
   have HCC := hidI (fun w3 hb hz => HCK.out w3 hb hz hst)
   rw [hR] at hrt
   clear hR hst
   cases hC : Chk n with
   | error er =>
     obtain ⟨ec, ek⟩ := er
     have HR := hidI (HR.out.trans hC)
     rw [hC] at HCC
     clear hC
     unfold ndc at hrt HCC ⊢
     go_enter Tryz.func11, Tryz.ntmps11
     go_wp2_with (first
      | ((go_at_call 23)
         (refine hrt.mono ?_)
         (rintro e w3 ⟨rfl, hb3'⟩)
         (have hb3 : Below W2.heap.size W2 w3 := by rw [HW.out]; exact hb3')
         (have hb03 := hb2.trans (hb3.mono hb2.size))
         (have P3 := P2.below hb3 P2.lt)
         (have N3 := N2.below hb3 N2.lt)
         (have hck := HCC.out w3 hb03 (by have := P3.lt; omega))
         (have b0 := N3.cell 0)
         (have b1 := N3.cell 1)
         (have b2 := N3.cell 2)
         (have b3 := N3.cell 3)
         (have b4 := N3.cell 4)
         (simp only [ga1, gz1, gs1] at b0 b1 b2 b3 b4)
         (have la := P3.lt)
         (have lb := N3.lt))
      | ((refine at_dstL 11 rfl ?_)
         (refine wpList_is_w (some 11) (.map (some w3.heap.size)) (w3.alloc (.map #[] 0)) rfl (by rfl) (by kernel_rfl) ?_))
      | ((go_at_call 24)
         (refine hck.mono ?_)
         (rintro e w5 ⟨ho5, rfl⟩)
         (have hP5 := started_keep ho5 (k := w.heap.size + 1) (by omega))
         (have P5 : Has w5 (w.heap.size + 1) 32 #[.slice none 0 0, .int .i64 0, .slice none 0 0, .int .i64 0, .bool false] := hP5.trans P3)
         (have a0 := P5.cell 0)
         (have a1 := P5.cell 1)
         (have a2 := P5.cell 2)
         (have a3 := P5.cell 3)
         (have a4 := P5.cell 4)
         (have f0 := P5.free 0)
         (have f1 := P5.free 1)
         (have f2 := P5.free 2)
         (have f3 := P5.free 3)
         (have f4 := P5.free 4)
         (have lp := P5.lt)))
     refine ret_ck rfl rfl rfl rfl (P5.set5 _ _ _ _ _) rfl ?_
     refine ⟨bel5g (hb03.trans (started_below ho5 hb03.size)) (Nat.le_succ _) _ _ _ _ _, ?_⟩
     rw [HR.out]
     rfl
   | ok s =>
     have HR := hidI (HR.out.trans hC)
     rw [hC] at HCC
     clear hC
     unfold ndc at hrt HCC ⊢
     go_enter Tryz.func11, Tryz.ntmps11
     go_wp2_with (first
      | ((go_at_call 23)
         (refine hrt.mono ?_)
         (rintro e w3 ⟨rfl, hb3'⟩)
         (have hb3 : Below W2.heap.size W2 w3 := by rw [HW.out]; exact hb3')
         (have hb03 := hb2.trans (hb3.mono hb2.size))
         (have P3 := P2.below hb3 P2.lt)
         (have N3 := N2.below hb3 N2.lt)
         (have hck := HCC.out w3 hb03 (by have := P3.lt; omega))
         (have b0 := N3.cell 0)
         (have b1 := N3.cell 1)
         (have b2 := N3.cell 2)
         (have b3 := N3.cell 3)
         (have b4 := N3.cell 4)
         (simp only [ga1, gz1, gs1] at b0 b1 b2 b3 b4)
         (have la := P3.lt)
         (have lb := N3.lt))
      | ((refine at_dstL 11 rfl ?_)
         (refine wpList_is_w (some 11) (.map (some w3.heap.size)) (w3.alloc (.map #[] 0)) rfl (by rfl) (by kernel_rfl) ?_))
      | ((go_at_call 24)
         (refine hck.mono ?_)
         (rintro e w5 ⟨ho5, vd, vp, rfl, hsk⟩)
         (obtain ⟨Ad, Cd, evd⟩ := row_slc hsk.devs)
         (obtain ⟨Ap, Cp, evp⟩ := stk_vp hsk)
         (subst evd evp)
         (have hP5 := started_keep ho5 (k := w.heap.size + 1) (by omega))
         (have P5 : Has w5 (w.heap.size + 1) 32 #[.slice none 0 0, .int .i64 0, .slice none 0 0, .int .i64 0, .bool false] := hP5.trans P3)
         (have a0 := P5.cell 0)
         (have a1 := P5.cell 1)
         (have a2 := P5.cell 2)
         (have a3 := P5.cell 3)
         (have a4 := P5.cell 4)
         (have f0 := P5.free 0)
         (have f1 := P5.free 1)
         (have f2 := P5.free 2)
         (have f3 := P5.free 3)
         (have f4 := P5.free 4)
         (have lp := P5.lt)))
     refine ret_ck rfl rfl rfl rfl (P5.set5 _ _ _ _ _) rfl ?_
     refine ⟨bel5g (hb03.trans (started_below ho5 hb03.size)) (Nat.le_succ _) _ _ _ _ _, ?_⟩
     rw [HR.out]
     refine ⟨_, _, rfl, (hsk.keep (by simp) (fun k hk hB => ?_)).low (by omega)⟩
     exact put5_ne w5 (by omega) _ _ _ _ _
end
section
inductive Alike : Nd → Nd → Prop where
 | mk (o s : List UInt8) (n a b : Int) (l l' : List Nd) : l.length = l'.length → (∀ i (h : i < l.length) (h' : i < l'.length), Alike l[i] l'[i]) → Alike (.mk o s n a l) (.mk o s n b l')
end
section
inductive AL : List Nd → List Nd → Prop where
 | nil : AL [] []
 | cons {x y : Nd} {l m : List Nd} : Alike x y → AL l m → AL (x :: l) (y :: m)
theorem AL.len {l m : List Nd} (h : AL l m) : l.length = m.length := by
 induction h with
 | nil => rfl
 | cons _ _ ih => simp [ih]
theorem AL.get {l m : List Nd} (h : AL l m) : ∀ i (h1 : i < l.length) (h2 : i < m.length), Alike l[i] m[i] := by
 induction h with
 | nil => intro i h1; simp at h1
 | cons hx _ ih =>
   intro i h1 h2
   cases i with
   | zero => exact hx
   | succ i => exact ih i (by simpa using h1) (by simpa using h2)
theorem Alike.of {o s : List UInt8} {n a b : Int} {l l' : List Nd} (h : AL l l') : Alike (.mk o s n a l) (.mk o s n b l') := .mk o s n a b l l' h.len h.get
theorem AL.append {l m l' m' : List Nd} (h : AL l m) (h' : AL l' m') : AL (l ++ l') (m ++ m') := by
 induction h with
 | nil => exact h'
 | cons hx _ ih => exact .cons hx ih
theorem Alike.symm {x y : Nd} (h : Alike x y) : Alike y x := by
 induction h with
 | mk o s n a b l l' hl hk ih => exact .mk o s n b a l' l hl.symm (fun i h h' => ih i h' h)
theorem AL.symm {l m : List Nd} (h : AL l m) : AL m l := by
 induction h with
 | nil => exact .nil
 | cons hx _ ih => exact .cons hx.symm ih
def fsts (ts : Toks) : List Tk := ts.map Prod.fst
def Lk {α β : Type} (R : α → β → Prop) (P : Par α) (Q : Par β) : Prop := ∀ en en' ts us, fsts ts = fsts us → ∀ x r, P en ts = .ok (x, r) → ∃ y s, Q en' us = .ok (y, s) ∧ R x y ∧ fsts r = fsts s
theorem Lk.ret {α β : Type} {R : α → β → Prop} {x : α} {y : β} (h : R x y) : Lk R (pret x) (pret y) := by
 intro en en' ts us e x' r hx
 cases hx
 exact ⟨y, us, rfl, h, e⟩
theorem Lk.bind {α β γ δ : Type} {R : α → β → Prop} {S : γ → δ → Prop} {P : Par α} {Q : Par β} {f : α → Par γ} {g : β → Par δ} (h : Lk R P Q) (hf : ∀ x y, R x y → Lk S (f x) (g y)) : Lk S (pbind P f) (pbind Q g) := by
 intro en en' ts us e x r hx
 unfold pbind at hx
 cases hp : P en ts with
 | error er => rw [hp] at hx; cases hx
 | ok z =>
   obtain ⟨z, t⟩ := z
   rw [hp] at hx
   obtain ⟨y, s, hq, hr, e2⟩ := h en en' ts us e z t hp
   obtain ⟨y2, s2, hq2, hr2, e3⟩ := hf z y hr en en' t s e2 x r hx
   refine ⟨y2, s2, ?_, hr2, e3⟩
   unfold pbind
   rw [hq]
   exact hq2
theorem Lk.take (p : Tk → Bool) : Lk (fun t u : Tk × Nat => t.1 = u.1) (ptake p) (ptake p) := by
 intro en en' ts us e x r hx
 cases ts with
 | nil => cases hx
 | cons t ts =>
   cases us with
   | nil => cases e
   | cons u us =>
     simp only [fsts, List.map_cons, List.cons.injEq] at e
     simp only [ptake] at hx
     split at hx
     · rename_i hp
       cases hx
       exact ⟨u, us, by simp only [ptake]; rw [← e.1, if_pos hp], e.1, e.2⟩
     · cases hx
theorem Lk.fork {α β : Type} {R : α → β → Prop} (p : Tk → Bool) {P P' : Par α} {Q Q' : Par β} (h : Lk R P Q) (h' : Lk R P' Q') : Lk R (pif p P P') (pif p Q Q') := by
 intro en en' ts us e x r hx
 have hc : pcomes p ts = pcomes p us := by
  cases ts with
  | nil => cases us with
    | nil => rfl
    | cons u us => cases e
  | cons t ts => cases us with
    | nil => cases e
    | cons u us => simp only [fsts, List.map_cons, List.cons.injEq] at e; simp only [pcomes, e.1]
 unfold pif at hx ⊢
 rw [← hc]
 split at hx
 · rename_i h0
   simp only [if_pos h0]
   exact h en en' ts us e x r hx
 · rename_i h0
   simp only [if_neg h0]
   exact h' en en' ts us e x r hx
theorem Lk.ite {α β : Type} {R : α → β → Prop} (c : Prop) [Decidable c] {P P' : Par α} {Q Q' : Par β} (h : Lk R P Q) (h' : Lk R P' Q') : Lk R (if c then P else P') (if c then Q else Q') := by
 split
 · exact h
 · exact h'
def RL (x y : Int × List Nd) : Prop := x.1 = y.1 ∧ AL x.2 y.2
theorem take_eq {p : Tk → Bool} {en : Nat} {ts r : Toks} {t : Tk × Nat} (h : ptake p en ts = .ok (t, r)) : ts = t :: r := by
 cases ts with
 | nil => cases h
 | cons u us =>
   simp only [ptake] at h
   split at h
   · cases h; rfl
   · cases h
theorem file_rest (f : Nat) : ∀ (en : Nat) (ts r : Toks) (l : List Nd), pfile f en ts = .ok (l, r) → ts.length < f → r = [] := by
 induction f with
 | zero => intro en ts r l h hf; omega
 | succ f ih =>
   intro en ts r l h hf
   cases ts with
   | nil => cases h; rfl
   | cons t ts =>
     rw [file_step] at h
     cases hs : pstmt en (t :: ts) with
     | error e => rw [hs] at h; cases h
     | ok x =>
       obtain ⟨n, r1⟩ := x
       rw [hs] at h
       simp only at h
       have h1 := stmt_shorter hs
       cases hp : pfile f en r1 with
       | error e => rw [hp] at h; cases h
       | ok y =>
         obtain ⟨l', r'⟩ := y
         rw [hp] at h
         cases h
         exact ih en r1 r l' hp (by simp only [List.length_cons] at h1 hf; omega)
end
section
def Coded {α : Type} (P : Par α) : Prop := ∀ en ts c k, P en ts = .error (c, k) → c ≠ 0
theorem Coded.ret {α : Type} (x : α) : Coded (pret x) := fun en ts c k h => by cases h
theorem Coded.bind {α β : Type} {P : Par α} {f : α → Par β} (hP : Coded P) (hf : ∀ x, Coded (f x)) : Coded (pbind P f) := by
 intro en ts c k h
 unfold pbind at h
 cases hp : P en ts with
 | error e => rw [hp] at h; cases h; exact hP en ts c k hp
 | ok y => obtain ⟨x, r⟩ := y; rw [hp] at h; exact hf x en r c k h
theorem Coded.take (p : Tk → Bool) : Coded (ptake p) := by
 intro en ts c k h
 cases ts with
 | nil => cases h; decide
 | cons t r => simp only [ptake] at h; split at h <;> cases h; decide
theorem Coded.fork {α : Type} (p : Tk → Bool) {P Q : Par α} (hP : Coded P) (hQ : Coded Q) : Coded (pif p P Q) := by
 intro en ts c k h
 unfold pif at h
 split at h
 · exact hP en ts c k h
 · exact hQ en ts c k h
theorem Coded.ite {α : Type} {P Q : Par α} (c : Prop) [Decidable c] (hP : Coded P) (hQ : Coded Q) : Coded (if c then P else Q) := by
 split
 · exact hP
 · exact hQ
end
section
theorem Parse_ok {x : List UInt8} {n : Nd} (h : Parse x = .ok n) : ∃ ts l, Scan x = .ok ts ∧ pfile 501 x.length ts = .ok (l, []) ∧ n = .mk wFile [] 0 0 l := by
 unfold Parse at h
 cases hS : Scan x with
 | error e => rw [hS] at h; cases h
 | ok ts =>
   rw [hS] at h
   simp only at h
   cases hp : pfile 501 x.length ts with
   | error e => rw [hp] at h; cases h
   | ok y =>
     obtain ⟨l, r⟩ := y
     rw [hp] at h
     cases h
     have hl := (Scan_len hS).1
     have hr := file_rest 501 _ _ _ _ hp (by omega)
     subst hr
     exact ⟨ts, l, rfl, hp, rfl⟩
end
section
def Goods (ts : Toks) : Prop := ∀ t ∈ ts, Good t.1
def Gp {α : Type} (R : α → Prop) (P : Par α) : Prop := ∀ en ts, Goods ts → ∀ x r, P en ts = .ok (x, r) → R x ∧ Goods r
theorem Gp.ret {α : Type} {R : α → Prop} {x : α} (h : R x) : Gp R (pret x) := fun en ts hg y r hy => by cases hy; exact ⟨h, hg⟩
theorem Gp.bind {α β : Type} {R : α → Prop} {S : β → Prop} {P : Par α} {f : α → Par β} (h : Gp R P) (hf : ∀ x, R x → Gp S (f x)) : Gp S (pbind P f) := by
 intro en ts hg y r hy
 unfold pbind at hy
 cases hp : P en ts with
 | error e => rw [hp] at hy; cases hy
 | ok z =>
   obtain ⟨z, s⟩ := z
   rw [hp] at hy
   obtain ⟨h1, h2⟩ := h en ts hg z s hp
   exact hf z h1 en s h2 y r hy
theorem Gp.take (p : Tk → Bool) : Gp (fun t : Tk × Nat => Good t.1 ∧ p t.1 = true) (ptake p) := by
 intro en ts hg y r hy
 have h1 := take_eq hy
 have h2 := ptake_is hy
 subst h1
 exact ⟨⟨hg _ (by simp), h2⟩, fun t ht => hg t (by simp [ht])⟩
theorem Gp.fork {α : Type} {R : α → Prop} (p : Tk → Bool) {P Q : Par α} (h : Gp R P) (h' : Gp R Q) : Gp R (pif p P Q) := by
 intro en ts hg y r hy
 unfold pif at hy
 split at hy
 · exact h en ts hg y r hy
 · exact h' en ts hg y r hy
theorem Gp.ite {α : Type} {R : α → Prop} (c : Prop) [Decidable c] {P Q : Par α} (h : Gp R P) (h' : Gp R Q) : Gp R (if c then P else Q) := by
 split
 · exact h
 · exact h'
theorem Good.short {t : Tk} (h : Good t) : t.s.length ≤ 1000 := by
 have hle := h.le
 by_cases h0 : t.kind = 0
 · have := (h.word h0).2.2; omega
 · by_cases h1 : t.kind = 1
   · rw [(h.num h1).1]; simp
   · by_cases h2 : t.kind = 2
     · have := (h.hex h2).2.2; omega
     · obtain ⟨c, e, _⟩ := h.sign (by omega)
       rw [e]; simp
def SmlL (l : List Nd) : Prop := ∀ x ∈ l, Sml x
theorem SmlL.nil : SmlL [] := fun x h => by cases h
theorem SmlL.cons {x : Nd} {l : List Nd} (h : Sml x) (hl : SmlL l) : SmlL (x :: l) := fun y hy => by
 rcases List.mem_cons.1 hy with rfl | hy
 · exact h
 · exact hl y hy
theorem SmlL.append {l m : List Nd} (h : SmlL l) (hm : SmlL m) : SmlL (l ++ m) := fun y hy => (List.mem_append.1 hy).elim (h y) (hm y)
theorem part_sml {pe : Par Nd} (h : Gp Sml pe) (k : Kd) : Gp Sml (ppart pe k) := by
 cases k
 · exact h
 · exact (Gp.take _).bind fun t ht => Gp.ret (.mk _ _ _ _ _ (by decide) (by decide) SmlL.nil)
 · exact (Gp.take _).bind fun t ht => Gp.ret (.mk _ _ _ _ _ (by decide) ht.1.short SmlL.nil)
theorem kinds_sml {pe : Par Nd} (h : Gp Sml pe) (ks : List Kd) : ∀ b, Gp SmlL (pkinds pe b ks) := by
 induction ks with
 | nil => intro b; cases b <;> exact Gp.ret SmlL.nil
 | cons k ks ih =>
   intro b
   cases b
   · exact (Gp.take _).bind fun _ _ => (part_sml h k).bind fun _ hx => (ih false).bind fun _ hl => Gp.ret (hl.cons hx)
   · exact (part_sml h k).bind fun _ hx => (ih false).bind fun _ hl => Gp.ret (hl.cons hx)
theorem more_sml {pe : Par Nd} (h : Gp Sml pe) (f : Nat) : Gp SmlL (pmore pe f) := by
 induction f with
 | zero => exact Gp.ret SmlL.nil
 | succ f ih => exact Gp.fork _ ((Gp.take _).bind fun _ _ => h.bind fun _ hx => ih.bind fun _ hl => Gp.ret (hl.cons hx)) (Gp.ret SmlL.nil)
theorem expr_sml (d : Nat) : Gp Sml (pexpr d) := by
 induction d with
 | zero => intro en ts hg x r hx; cases hx
 | succ d ih =>
   exact (Gp.take _).bind fun t ht => Gp.ite _ (Gp.ret (.mk _ _ _ _ _ (by decide) ht.1.short SmlL.nil))
    (((Gp.take _).bind fun _ _ => (kinds_sml ih _ _).bind fun _ hl => (Gp.ite _ (more_sml ih _) (Gp.ret SmlL.nil)).bind fun _ hm => (Gp.take _).bind fun _ _ => Gp.ret (hl.append hm)).bind fun _ hl => Gp.ret (.mk _ _ _ _ _ ht.1.short (by decide) hl))
theorem stmt_sml : Gp Sml pstmt := by
 refine (Gp.take _).bind fun t ht => (Gp.take _).bind fun u hu => ?_
 have hr : Gp (fun x : Int × List Nd => SmlL x.2) (prest t.1.s) := by
  unfold prest
  exact Gp.ite _ ((Gp.take _).bind fun _ _ => Gp.ret SmlL.nil) (Gp.ite _ ((Gp.take _).bind fun v hv => Gp.ret (SmlL.nil.cons (.mk _ _ _ _ _ (by decide) hv.1.short SmlL.nil)))
   (Gp.ite _ ((Gp.take _).bind fun _ _ => (expr_sml 12).bind fun _ hx => Gp.ret (SmlL.nil.cons hx)) (Gp.fork _ ((Gp.take _).bind fun _ _ => Gp.ret SmlL.nil) (Gp.ret SmlL.nil))))
 exact hr.bind fun x hx => (Gp.take _).bind fun _ _ => Gp.ret (.mk _ _ _ _ _ ht.1.short hu.1.short hx)
theorem file_sml (f : Nat) : Gp SmlL (pfile f) := by
 induction f with
 | zero => exact Gp.ret SmlL.nil
 | succ f ih =>
   have hb : Gp SmlL (pbind pstmt fun n => pbind (pfile f) fun l => pret (n :: l)) := stmt_sml.bind fun _ hx => ih.bind fun _ hl => Gp.ret (hl.cons hx)
   intro en ts hg x r hx
   cases ts with
   | nil => cases hx; exact ⟨SmlL.nil, hg⟩
   | cons t ts => exact hb en (t :: ts) hg x r hx
theorem Parse_sml {x : List UInt8} {n : Nd} (h : Parse x = .ok n) : Sml n := by
 obtain ⟨ts, l, hS, hp, rfl⟩ := Parse_ok h
 exact .mk _ _ _ _ _ (by decide) (by decide) (file_sml 501 _ ts (Scan_len hS).2 l [] hp).1
theorem Parse_short {x : List UInt8} {n : Nd} (h : Parse x = .ok n) : n.l.length ≤ 500 := by
 obtain ⟨ts, l, hS, hp, rfl⟩ := Parse_ok h
 have hl := (Scan_len hS).1
 have : ∀ (f en : Nat) (ts : Toks) (l : List Nd) (r : Toks), pfile f en ts = .ok (l, r) → l.length ≤ ts.length := by
  intro f
  induction f with
  | zero => intro en ts l r h; cases h; simp
  | succ f ih =>
    intro en ts l r h
    cases ts with
    | nil => cases h; simp
    | cons t ts =>
      rw [file_step] at h
      cases hs : pstmt en (t :: ts) with
      | error e => rw [hs] at h; cases h
      | ok y =>
        obtain ⟨n, r1⟩ := y
        rw [hs] at h
        have h1 := stmt_shorter hs
        simp only at h
        cases hp : pfile f en r1 with
        | error e => rw [hp] at h; cases h
        | ok z =>
          obtain ⟨l', r'⟩ := z
          rw [hp] at h
          cases h
          have := ih _ _ _ _ hp
          simp only [List.length_cons, List.singleton_append] at *
          omega
 have := this _ _ _ _ _ hp
 show l.length ≤ 500
 omega
end
end Go.Proofs.YthndifegfmjpbaaGreatDoor
