/- Texts that the statements of this stage share, joined. -/
import Derived.Test.YthndifegfmjpbaaGreatDoorJoint20
import Derived.Shelf.Abstract
namespace Go.Proofs.YthndifegfmjpbaaGreatDoor
set_option linter.unusedVariables false
set_option maxRecDepth 100000
set_option maxHeartbeats 40000000
section
open Go.ChangeShapes Go.WideShapes Go.ChangeAt Go.RowKit Go.MapKept
theorem find_concat {w : World} {fb : Nat} {A : Option Addr} {C : Nat} {ps : List Pt} {v : Value} {out : List R3} (h : FdAt w fb A C ps v out) (hwf : WfR ps) (d k : Nat) (f c : Int) (ho : ¬ 256 < out.length) (hh : hasB ps k f c = true) (hkind : (ptAt ps k).kind = 3)
  (hx : ∀ (W : World) (v : Value) (out : List R3) (j : Nat) (f c : Int), FdAt W fb A C ps v out → j < k → i64ok f → i64ok c → Calls Tryz.prog 30 #[.pointer (some ⟨fb, 0, none⟩), .int .i64 (j : Nat), .int .i64 f, .int .i64 c] W (FdRes W fb A C ps v (fnd ps d out j f c))) :
  Calls Tryz.prog 30 #[.pointer (some ⟨fb, 0, none⟩), .int .i64 (k : Nat), .int .i64 f, .int .i64 c] w (FdRes w fb A C ps v (fndK ps (fnd ps d) out (ptAt ps k) f c)) := by
 have hR := h
 obtain ⟨hkl, hf0, hc0, hfc⟩ := has_in hh
 have hsz := hwf.size k hkl
 have hfi := hwf.first k hkl
 have hkl2 := hwf.few k hkl
 have hkids := hwf.kids k hkl
 have hcap : ps.length ≤ C ∧ C ≤ 9223372036854775807 := h.cap
 have hkk : i64ok (k : Nat) := ⟨by omega, by omega⟩
 have hf : i64ok f := ⟨by omega, by omega⟩
 have hc : i64ok c := ⟨by omega, by omega⟩
 have hhas := has_c h hwf (k : Nat) f c hkk hf hc
 rw [hh] at hhas
 obtain ⟨Av, Cv, rfl⟩ : ∃ Av Cv, v = .slice Av out.length Cv := by
  rcases h.row.2 with ⟨rfl, h0⟩ | ⟨g, cap, cur, rfl, _⟩
  · exact ⟨none, 0, by rw [h0]⟩
  · exact ⟨_, _, rfl⟩
 obtain ⟨g, off, Ak, Ck, A2, n2, C2, A3, n3, C3, rfl, hg0, hg, hki, hkc, hkm, hcell⟩ := part_at h.pts hkl
 have EQ : fndK ps (fnd ps d) out (ptAt ps k) f c = ((ptAt ps k).kids.foldl (acr ps (fnd ps d) f c) (out, 0)).1 := by
  unfold fndK
  rw [hkind]
  rfl
 rw [EQ]
 rw [hkind] at hcell
 have hkm2 : Ck ≤ 9223372036854775807 := hkm
 generalize hps : (ptAt ps k).size = psz at *
 generalize hpd : (ptAt ps k).dev = pdv at *
 generalize hpf : (ptAt ps k).first = pfi at *
 generalize hpc : (ptAt ps k).chunk = pch at *
 generalize hpk : (ptAt ps k).kids = pk at *
 obtain ⟨Kn, hKn⟩ : ∃ Kn, Kn = pk.length := ⟨_, rfl⟩
 rw [← hKn] at hcell hkc hkl2
 have HKn : Hid (Kn = pk.length) := hKn
 clear hps hpd hpf hpc hpk hKn
 have c0 := h.has.cell 0
 have c1 := h.has.cell 1
 have lc := h.has.lt
 simp only [ga1, gz1, gs1] at c0 c1
 have hooi : ¬ (256 : Int) < (out.length : Int) := by omega
 have hkli : (k : Int) < (ps.length : Int) := by omega
 clear EQ hh hkind h
 go_enter Tryz.func30, Tryz.ntmps30
 go_wp2_with (first
  | ((go_at_call 61)
     (refine hhas.mono ?_)
     (rintro e w1 ⟨rfl, hb1⟩)
     (have c0b := below_some hb1 c0)
     (have c1b := below_some hb1 c1)
     (have lcb := Nat.lt_of_lt_of_le lc hb1.size)
     (have hcellb := fun j (hj : j < 8) => (hb1.cell (p := ⟨g, off + k * 8 + j, none⟩) hg).trans (hcell j hj)))
  | ((refine at_dstL 30 rfl ?_)
     (refine wpList_is (some 30) _ rfl (by rfl) (run_at_pt _ _ rfl g off k ps.length C rfl rfl hkl w1) ?_))
  | ((refine at_dstL 31 rfl ?_)
     (refine wpList_is (some 31) _ rfl (by rfl) (run_load_pt _ rfl g (off + k * 8) rfl w1 hcellb) ?_)
     (have H1 := (hR.keep hb1).keep (b_one w1 (.cells #[.int .i64 3, .int .i64 (psz : Nat), .slice Ak Kn Ck, .int .i64 (pdv : Nat), .int .i64 (pfi : Nat), .int .i64 (pch : Nat), .slice A2 n2 C2, .slice A3 n3 C3] 47)))
     (have P1 := Has.new w1 47 #[.int .i64 3, .int .i64 (psz : Nat), .slice Ak Kn Ck, .int .i64 (pdv : Nat), .int .i64 (pfi : Nat), .int .i64 (pch : Nat), .slice A2 n2 C2, .slice A3 n3 C3])
     (have B1 : Below w.heap.size w (w1.alloc (.cells #[.int .i64 3, .int .i64 (psz : Nat), .slice Ak Kn Ck, .int .i64 (pdv : Nat), .int .i64 (pfi : Nat), .int .i64 (pch : Nat), .slice A2 n2 C2, .slice A3 n3 C3] 47)) := hb1.alloc hb1.size _))
  | ((go_at_call 62)
     (refine (across_c H1 hwf d k hkl f c ⟨by omega, by omega⟩ ⟨by omega, by omega⟩ Ak Kn Ck pk HKn.out (hki.keep B1.size (fun j hj hB => ⟨B1.block j hj, hB⟩)) hkids hkl2 hkc hkm2 hx).mono ?_)
     (rintro e w5 ⟨v5, rfl, H5, S5⟩)))
 go_end0
 exact ⟨v5, rfl, H5, (FdSt.of B1).trans S5⟩
end
section
open Go.ChangeShapes Go.WideShapes Go.ChangeAt Go.RowKit Go.MapKept
theorem find_mirror {w : World} {fb : Nat} {A : Option Addr} {C : Nat} {ps : List Pt} {v : Value} {out : List R3} (h : FdAt w fb A C ps v out) (hwf : WfR ps) (d k : Nat) (f c : Int) (ho : ¬ 256 < out.length) (hh : hasB ps k f c = true) (hkind : (ptAt ps k).kind = 4)
  (hx : ∀ (W : World) (v : Value) (out : List R3) (j : Nat) (f c : Int), FdAt W fb A C ps v out → j < k → i64ok f → i64ok c → Calls Tryz.prog 30 #[.pointer (some ⟨fb, 0, none⟩), .int .i64 (j : Nat), .int .i64 f, .int .i64 c] W (FdRes W fb A C ps v (fnd ps d out j f c))) :
  Calls Tryz.prog 30 #[.pointer (some ⟨fb, 0, none⟩), .int .i64 (k : Nat), .int .i64 f, .int .i64 c] w (FdRes w fb A C ps v (fndK ps (fnd ps d) out (ptAt ps k) f c)) := by
 have hR := h
 obtain ⟨hkl, hf0, hc0, hfc⟩ := has_in hh
 have hsz := hwf.size k hkl
 have hfi := hwf.first k hkl
 have hkl2 := hwf.few k hkl
 have hkids := hwf.kids k hkl
 have hcap : ps.length ≤ C ∧ C ≤ 9223372036854775807 := h.cap
 have hkk : i64ok (k : Nat) := ⟨by omega, by omega⟩
 have hf : i64ok f := ⟨by omega, by omega⟩
 have hc : i64ok c := ⟨by omega, by omega⟩
 have hhas := has_c h hwf (k : Nat) f c hkk hf hc
 rw [hh] at hhas
 obtain ⟨Av, Cv, rfl⟩ : ∃ Av Cv, v = .slice Av out.length Cv := by
  rcases h.row.2 with ⟨rfl, h0⟩ | ⟨g, cap, cur, rfl, _⟩
  · exact ⟨none, 0, by rw [h0]⟩
  · exact ⟨_, _, rfl⟩
 obtain ⟨g, off, Ak, Ck, A2, n2, C2, A3, n3, C3, rfl, hg0, hg, hki, hkc, hkm, hcell⟩ := part_at h.pts hkl
 have EQ : fndK ps (fnd ps d) out (ptAt ps k) f c = (ptAt ps k).kids.foldl (fun o j => fnd ps d o j (f) c) out := by
  unfold fndK
  rw [hkind]
  rfl
 rw [EQ]
 rw [hkind] at hcell
 have hkm2 : Ck ≤ 9223372036854775807 := hkm
 generalize hps : (ptAt ps k).size = psz at *
 generalize hpd : (ptAt ps k).dev = pdv at *
 generalize hpf : (ptAt ps k).first = pfi at *
 generalize hpc : (ptAt ps k).chunk = pch at *
 generalize hpk : (ptAt ps k).kids = pk at *
 obtain ⟨Kn, hKn⟩ : ∃ Kn, Kn = pk.length := ⟨_, rfl⟩
 rw [← hKn] at hcell hkc hkl2
 have HKn : Hid (Kn = pk.length) := hKn
 clear hps hpd hpf hpc hpk hKn
 have c0 := h.has.cell 0
 have c1 := h.has.cell 1
 have lc := h.has.lt
 simp only [ga1, gz1, gs1] at c0 c1
 have hooi : ¬ (256 : Int) < (out.length : Int) := by omega
 have hkli : (k : Int) < (ps.length : Int) := by omega
 clear EQ hh hkind h
 go_enter Tryz.func30, Tryz.ntmps30
 go_wp2_with (first
  | ((go_at_call 61)
     (refine hhas.mono ?_)
     (rintro e w1 ⟨rfl, hb1⟩)
     (have c0b := below_some hb1 c0)
     (have c1b := below_some hb1 c1)
     (have lcb := Nat.lt_of_lt_of_le lc hb1.size)
     (have hcellb := fun j (hj : j < 8) => (hb1.cell (p := ⟨g, off + k * 8 + j, none⟩) hg).trans (hcell j hj)))
  | ((refine at_dstL 30 rfl ?_)
     (refine wpList_is (some 30) _ rfl (by rfl) (run_at_pt _ _ rfl g off k ps.length C rfl rfl hkl w1) ?_))
  | ((refine at_dstL 31 rfl ?_)
     (refine wpList_is (some 31) _ rfl (by rfl) (run_load_pt _ rfl g (off + k * 8) rfl w1 hcellb) ?_)
     (have H1 := (hR.keep hb1).keep (b_one w1 (.cells #[.int .i64 4, .int .i64 (psz : Nat), .slice Ak Kn Ck, .int .i64 (pdv : Nat), .int .i64 (pfi : Nat), .int .i64 (pch : Nat), .slice A2 n2 C2, .slice A3 n3 C3] 47)))
     (have P1 := Has.new w1 47 #[.int .i64 4, .int .i64 (psz : Nat), .slice Ak Kn Ck, .int .i64 (pdv : Nat), .int .i64 (pfi : Nat), .int .i64 (pch : Nat), .slice A2 n2 C2, .slice A3 n3 C3])
     (have B1 : Below w.heap.size w (w1.alloc (.cells #[.int .i64 4, .int .i64 (psz : Nat), .slice Ak Kn Ck, .int .i64 (pdv : Nat), .int .i64 (pfi : Nat), .int .i64 (pch : Nat), .slice A2 n2 C2, .slice A3 n3 C3] 47)) := hb1.alloc hb1.size _)))
 have lW1 : (w1.alloc (.cells #[.int .i64 4, .int .i64 (psz : Nat), .slice Ak Kn Ck, .int .i64 (pdv : Nat), .int .i64 (pfi : Nat), .int .i64 (pch : Nat), .slice A2 n2 C2, .slice A3 n3 C3] 47)).heap.size = w1.heap.size + 1 := by simp
 have BW1 : Below fb w (w1.alloc (.cells #[.int .i64 4, .int .i64 (psz : Nat), .slice Ak Kn Ck, .int .i64 (pdv : Nat), .int .i64 (pfi : Nat), .int .i64 (pch : Nat), .slice A2 n2 C2, .slice A3 n3 C3] 47)) := B1.mono (Nat.le_of_lt lc)
 have ff : i64ok (f) := ⟨by omega, by omega⟩
 go_loopw [69] (fun z wr => ∃ (i : Nat) (v' : Value) (out' : List R3), z = .int .i64 (i : Nat) ∧ i ≤ Kn ∧ FdAt wr fb (some ⟨g, off, none⟩) C ps v' out' ∧ FdSt fb (.slice Av out.length Cv) (w1.alloc (.cells #[.int .i64 4, .int .i64 (psz : Nat), .slice Ak Kn Ck, .int .i64 (pdv : Nat), .int .i64 (pfi : Nat), .int .i64 (pch : Nat), .slice A2 n2 C2, .slice A3 n3 C3] 47)) v' wr ∧ Hid (out' = (pk.take i).foldl (fun o j => fnd ps d o j (f) c) out)) (fun z _ => Kn - (intOf z).toNat)
 case atStart => exact ⟨0, _, out, rfl, Nat.zero_le _, H1, FdSt.refl _ _ _, rfl⟩
 case round =>
  obtain ⟨i, v', out', rfl, hi, H2, S2, HO⟩ := hrel
  by_cases hlt : i < Kn
  · have hlp : i < pk.length := by rw [← HKn.out]; exact hlt
    have B2 : Below fb (w1.alloc (.cells #[.int .i64 4, .int .i64 (psz : Nat), .slice Ak Kn Ck, .int .i64 (pdv : Nat), .int .i64 (pfi : Nat), .int .i64 (pch : Nat), .slice A2 n2 C2, .slice A3 n3 C3] 47)) wr := S2.below (fun j hj => by have := (row_lt H1.row hj).2; omega) (by have := H1.has.lt; omega)
    obtain ⟨b, o, eA, hbl, hbf, hcl⟩ := hki.resolve_left (by intro e; rw [e] at hlp; simp at hlp)
    have hck := (B2.cell (p := ⟨b, o + i, none⟩) hbf).trans ((BW1.cell (p := ⟨b, o + i, none⟩) hbf).trans (hcl i hlp))
    have hkd : pk[i] < k := hkids _ (List.getElem_mem hlp)
    have HG : Hid ((pk.take (i + 1)).foldl (fun o j => fnd ps d o j (f) c) out = fnd ps d out' pk[i] (f) c) := by
     rw [List.take_succ_eq_append_getElem hlp, List.foldl_append, ← HO.out]
     rfl
    have hcx := hx wr v' out' pk[i] (f) c H2 hkd ff hc
    have hint : (i : Int) < (Kn : Int) := by omega
    clear hcl
    generalize pk[i] = kid at hck hkd HG hcx
    subst eA
    go_wp2_with (first
     | ((go_at_call 30)
        (refine hcx.mono ?_)
        (rintro e w5 ⟨v5, rfl, H5, S5⟩)))
    go_roundw
    case rel => exact ⟨i + 1, v5, _, by go_num, by omega, H5, S2.trans S5, HG.out.symm⟩
    case measure => simp [intOf]; omega
  · obtain rfl : i = Kn := by omega
    have HF : Hid (out' = pk.foldl (fun o j => fnd ps d o j (f) c) out) := by
     rw [HO.out, HKn.out, List.take_length]
     exact rfl
    clear HO
    go_wp2
    go_end0
    refine ⟨v', rfl, ?_, (FdSt.of B1).trans S2⟩
    rw [← HF.out]
    exact H2
end
section
open Go.ChangeShapes Go.WideShapes Go.ChangeAt Go.RowKit Go.MapKept
theorem find_snapshot {w : World} {fb : Nat} {A : Option Addr} {C : Nat} {ps : List Pt} {v : Value} {out : List R3} (h : FdAt w fb A C ps v out) (hwf : WfR ps) (d k : Nat) (f c : Int) (ho : ¬ 256 < out.length) (hh : hasB ps k f c = true) (hkind : (ptAt ps k).kind = 5)
  (hx : ∀ (W : World) (v : Value) (out : List R3) (j : Nat) (f c : Int), FdAt W fb A C ps v out → j < k → i64ok f → i64ok c → Calls Tryz.prog 30 #[.pointer (some ⟨fb, 0, none⟩), .int .i64 (j : Nat), .int .i64 f, .int .i64 c] W (FdRes W fb A C ps v (fnd ps d out j f c))) :
  Calls Tryz.prog 30 #[.pointer (some ⟨fb, 0, none⟩), .int .i64 (k : Nat), .int .i64 f, .int .i64 c] w (FdRes w fb A C ps v (fndK ps (fnd ps d) out (ptAt ps k) f c)) := by
 have hR := h
 obtain ⟨hkl, hf0, hc0, hfc⟩ := has_in hh
 have hsz := hwf.size k hkl
 have hfi := hwf.first k hkl
 have hkl2 := hwf.few k hkl
 have hkids := hwf.kids k hkl
 have hcap : ps.length ≤ C ∧ C ≤ 9223372036854775807 := h.cap
 have hkk : i64ok (k : Nat) := ⟨by omega, by omega⟩
 have hf : i64ok f := ⟨by omega, by omega⟩
 have hc : i64ok c := ⟨by omega, by omega⟩
 have hhas := has_c h hwf (k : Nat) f c hkk hf hc
 rw [hh] at hhas
 obtain ⟨Av, Cv, rfl⟩ : ∃ Av Cv, v = .slice Av out.length Cv := by
  rcases h.row.2 with ⟨rfl, h0⟩ | ⟨g, cap, cur, rfl, _⟩
  · exact ⟨none, 0, by rw [h0]⟩
  · exact ⟨_, _, rfl⟩
 obtain ⟨g, off, Ak, Ck, A2, n2, C2, A3, n3, C3, rfl, hg0, hg, hki, hkc, hkm, hcell⟩ := part_at h.pts hkl
 have EQ : fndK ps (fnd ps d) out (ptAt ps k) f c = fnd ps d (fnd ps d out ((ptAt ps k).kids.getD 0 0) f c) ((ptAt ps k).kids.getD 1 0) 0 (sz ps ((ptAt ps k).kids.getD 1 0)) := by
  unfold fndK
  rw [hkind]
  rfl
 rw [EQ]
 rw [hkind] at hcell
 have hkm2 : Ck ≤ 9223372036854775807 := hkm
 have htwo0 := hwf.snap k hkl hkind
 generalize hps : (ptAt ps k).size = psz at *
 generalize hpd : (ptAt ps k).dev = pdv at *
 generalize hpf : (ptAt ps k).first = pfi at *
 generalize hpc : (ptAt ps k).chunk = pch at *
 generalize hpk : (ptAt ps k).kids = pk at *
 obtain ⟨Kn, hKn⟩ : ∃ Kn, Kn = pk.length := ⟨_, rfl⟩
 rw [← hKn] at hcell hkc hkl2
 have HKn : Hid (Kn = pk.length) := hKn
 have htwo : Kn = 2 := by rw [hKn]; exact htwo0
 clear htwo0 hps hpd hpf hpc hpk hKn
 have h0 : 1 < pk.length := by rw [← HKn.out]; omega
 obtain ⟨b, o, eA, hbl, hbf, hcl⟩ := hki.resolve_left (by intro e; rw [e] at h0; simp at h0)
 have hc0k := hcl 0 (by omega)
 have hc1k := hcl 1 h0
 have hkd : pk[0] < k := hkids _ (List.getElem_mem _)
 have hkd1 : pk[1] < k := hkids _ (List.getElem_mem _)
 rw [show pk.getD 0 0 = pk[0] by rw [List.getD_eq_getElem?_getD, List.getElem?_eq_getElem (by omega)]; rfl, show pk.getD 1 0 = pk[1] by rw [List.getD_eq_getElem?_getD, List.getElem?_eq_getElem h0]; rfl]
 rw [Nat.add_zero] at hc0k
 generalize pk[0] = kid at hc0k hkd ⊢
 generalize pk[1] = kid1 at hc1k hkd1 ⊢
 clear hcl
 subst eA
 subst htwo
 have c0 := h.has.cell 0
 have c1 := h.has.cell 1
 have lc := h.has.lt
 simp only [ga1, gz1, gs1] at c0 c1
 have hooi : ¬ (256 : Int) < (out.length : Int) := by omega
 have hkli : (k : Int) < (ps.length : Int) := by omega
 clear EQ hh hkind h
 go_enter Tryz.func30, Tryz.ntmps30
 go_wp2_with (first
  | ((go_at_call 61)
     (refine hhas.mono ?_)
     (rintro e w1 ⟨rfl, hb1⟩)
     (have c0b := below_some hb1 c0)
     (have c1b := below_some hb1 c1)
     (have lcb := Nat.lt_of_lt_of_le lc hb1.size)
     (have hcellb := fun j (hj : j < 8) => (hb1.cell (p := ⟨g, off + k * 8 + j, none⟩) hg).trans (hcell j hj)))
  | ((refine at_dstL 30 rfl ?_)
     (refine wpList_is (some 30) _ rfl (by rfl) (run_at_pt _ _ rfl g off k ps.length C rfl rfl hkl w1) ?_))
  | ((refine at_dstL 31 rfl ?_)
     (refine wpList_is (some 31) _ rfl (by rfl) (run_load_pt _ rfl g (off + k * 8) rfl w1 hcellb) ?_)
     (have H1 := (hR.keep hb1).keep (b_one w1 (.cells #[.int .i64 5, .int .i64 (psz : Nat), .slice (some ⟨b, o, none⟩) 2 Ck, .int .i64 (pdv : Nat), .int .i64 (pfi : Nat), .int .i64 (pch : Nat), .slice A2 n2 C2, .slice A3 n3 C3] 47)))
     (have P1 := Has.new w1 47 #[.int .i64 5, .int .i64 (psz : Nat), .slice (some ⟨b, o, none⟩) 2 Ck, .int .i64 (pdv : Nat), .int .i64 (pfi : Nat), .int .i64 (pch : Nat), .slice A2 n2 C2, .slice A3 n3 C3])
     (have B1 : Below w.heap.size w (w1.alloc (.cells #[.int .i64 5, .int .i64 (psz : Nat), .slice (some ⟨b, o, none⟩) 2 Ck, .int .i64 (pdv : Nat), .int .i64 (pfi : Nat), .int .i64 (pch : Nat), .slice A2 n2 C2, .slice A3 n3 C3] 47)) := hb1.alloc hb1.size _)
     (have hck := (B1.cell (p := ⟨b, o, none⟩) hbl).trans hc0k)
     (have hck1 := (B1.cell (p := ⟨b, o + 1, none⟩) hbl).trans hc1k))
  | ((go_at_call 30)
     (refine (hx _ _ _ kid f c H1 hkd hf hc).mono ?_)
     (rintro e w5 ⟨v5, rfl, H5, S5⟩)
     (have B5 := S5.below (fun j hj => by have := (row_lt H1.row hj).2; omega) (Nat.le_of_lt H1.has.lt))
     (have hck5 := (B5.cell (p := ⟨b, o + 1, none⟩) hbf).trans hck1)
     (have P5 : Has w5 w1.heap.size 47 #[.int .i64 5, .int .i64 (psz : Nat), .slice (some ⟨b, o, none⟩) 2 Ck, .int .i64 (pdv : Nat), .int .i64 (pfi : Nat), .int .i64 (pch : Nat), .slice A2 n2 C2, .slice A3 n3 C3] := P1.onl S5.only (by rintro (e | e); omega; have := (row_lt (hR.keep hb1).row e).1; omega))
     (have p52 := P5.cell 2)
     (have lp5 := P5.lt))
  | ((go_at_call 63)
     (refine (findAll_c H5 d kid1 (by omega) _ (hx _ _ _ kid1 0 (sz ps kid1 : Nat) H5 hkd1 ⟨by decide, by decide⟩ ⟨by omega, by have := hwf.size kid1 (by omega); omega⟩)).mono ?_)
     (rintro e w6 ⟨v6, rfl, H6, S6⟩)))
 go_end0
 exact ⟨v6, rfl, H6, (FdSt.of B1).trans (S5.trans S6)⟩
end
section
open Go.ChangeShapes Go.WideShapes Go.ChangeAt Go.RowKit Go.MapKept
theorem find_crypt {w : World} {fb : Nat} {A : Option Addr} {C : Nat} {ps : List Pt} {v : Value} {out : List R3} (h : FdAt w fb A C ps v out) (hwf : WfR ps) (d k : Nat) (f c : Int) (ho : ¬ 256 < out.length) (hh : hasB ps k f c = true) (hkind : (ptAt ps k).kind = 6)
  (hx : ∀ (W : World) (v : Value) (out : List R3) (j : Nat) (f c : Int), FdAt W fb A C ps v out → j < k → i64ok f → i64ok c → Calls Tryz.prog 30 #[.pointer (some ⟨fb, 0, none⟩), .int .i64 (j : Nat), .int .i64 f, .int .i64 c] W (FdRes W fb A C ps v (fnd ps d out j f c))) :
  Calls Tryz.prog 30 #[.pointer (some ⟨fb, 0, none⟩), .int .i64 (k : Nat), .int .i64 f, .int .i64 c] w (FdRes w fb A C ps v (fndK ps (fnd ps d) out (ptAt ps k) f c)) := by
 have hR := h
 obtain ⟨hkl, hf0, hc0, hfc⟩ := has_in hh
 have hsz := hwf.size k hkl
 have hfi := hwf.first k hkl
 have hkl2 := hwf.few k hkl
 have hkids := hwf.kids k hkl
 have hcap : ps.length ≤ C ∧ C ≤ 9223372036854775807 := h.cap
 have hkk : i64ok (k : Nat) := ⟨by omega, by omega⟩
 have hf : i64ok f := ⟨by omega, by omega⟩
 have hc : i64ok c := ⟨by omega, by omega⟩
 have hhas := has_c h hwf (k : Nat) f c hkk hf hc
 rw [hh] at hhas
 obtain ⟨Av, Cv, rfl⟩ : ∃ Av Cv, v = .slice Av out.length Cv := by
  rcases h.row.2 with ⟨rfl, h0⟩ | ⟨g, cap, cur, rfl, _⟩
  · exact ⟨none, 0, by rw [h0]⟩
  · exact ⟨_, _, rfl⟩
 obtain ⟨g, off, Ak, Ck, A2, n2, C2, A3, n3, C3, rfl, hg0, hg, hki, hkc, hkm, hcell⟩ := part_at h.pts hkl
 have EQ : fndK ps (fnd ps d) out (ptAt ps k) f c = (ptAt ps k).kids.foldl (fun o j => fnd ps d o j (f) c) out := by
  unfold fndK
  rw [hkind]
  rfl
 rw [EQ]
 rw [hkind] at hcell
 have hkm2 : Ck ≤ 9223372036854775807 := hkm
 generalize hps : (ptAt ps k).size = psz at *
 generalize hpd : (ptAt ps k).dev = pdv at *
 generalize hpf : (ptAt ps k).first = pfi at *
 generalize hpc : (ptAt ps k).chunk = pch at *
 generalize hpk : (ptAt ps k).kids = pk at *
 obtain ⟨Kn, hKn⟩ : ∃ Kn, Kn = pk.length := ⟨_, rfl⟩
 rw [← hKn] at hcell hkc hkl2
 have HKn : Hid (Kn = pk.length) := hKn
 clear hps hpd hpf hpc hpk hKn
 have c0 := h.has.cell 0
 have c1 := h.has.cell 1
 have lc := h.has.lt
 simp only [ga1, gz1, gs1] at c0 c1
 have hooi : ¬ (256 : Int) < (out.length : Int) := by omega
 have hkli : (k : Int) < (ps.length : Int) := by omega
 clear EQ hh hkind h
 go_enter Tryz.func30, Tryz.ntmps30
 go_wp2_with (first
  | ((go_at_call 61)
     (refine hhas.mono ?_)
     (rintro e w1 ⟨rfl, hb1⟩)
     (have c0b := below_some hb1 c0)
     (have c1b := below_some hb1 c1)
     (have lcb := Nat.lt_of_lt_of_le lc hb1.size)
     (have hcellb := fun j (hj : j < 8) => (hb1.cell (p := ⟨g, off + k * 8 + j, none⟩) hg).trans (hcell j hj)))
  | ((refine at_dstL 30 rfl ?_)
     (refine wpList_is (some 30) _ rfl (by rfl) (run_at_pt _ _ rfl g off k ps.length C rfl rfl hkl w1) ?_))
  | ((refine at_dstL 31 rfl ?_)
     (refine wpList_is (some 31) _ rfl (by rfl) (run_load_pt _ rfl g (off + k * 8) rfl w1 hcellb) ?_)
     (have H1 := (hR.keep hb1).keep (b_one w1 (.cells #[.int .i64 6, .int .i64 (psz : Nat), .slice Ak Kn Ck, .int .i64 (pdv : Nat), .int .i64 (pfi : Nat), .int .i64 (pch : Nat), .slice A2 n2 C2, .slice A3 n3 C3] 47)))
     (have P1 := Has.new w1 47 #[.int .i64 6, .int .i64 (psz : Nat), .slice Ak Kn Ck, .int .i64 (pdv : Nat), .int .i64 (pfi : Nat), .int .i64 (pch : Nat), .slice A2 n2 C2, .slice A3 n3 C3])
     (have B1 : Below w.heap.size w (w1.alloc (.cells #[.int .i64 6, .int .i64 (psz : Nat), .slice Ak Kn Ck, .int .i64 (pdv : Nat), .int .i64 (pfi : Nat), .int .i64 (pch : Nat), .slice A2 n2 C2, .slice A3 n3 C3] 47)) := hb1.alloc hb1.size _)))
 have lW1 : (w1.alloc (.cells #[.int .i64 6, .int .i64 (psz : Nat), .slice Ak Kn Ck, .int .i64 (pdv : Nat), .int .i64 (pfi : Nat), .int .i64 (pch : Nat), .slice A2 n2 C2, .slice A3 n3 C3] 47)).heap.size = w1.heap.size + 1 := by simp
 have BW1 : Below fb w (w1.alloc (.cells #[.int .i64 6, .int .i64 (psz : Nat), .slice Ak Kn Ck, .int .i64 (pdv : Nat), .int .i64 (pfi : Nat), .int .i64 (pch : Nat), .slice A2 n2 C2, .slice A3 n3 C3] 47)) := B1.mono (Nat.le_of_lt lc)
 have ff : i64ok (f) := ⟨by omega, by omega⟩
 go_loopw [69] (fun z wr => ∃ (i : Nat) (v' : Value) (out' : List R3), z = .int .i64 (i : Nat) ∧ i ≤ Kn ∧ FdAt wr fb (some ⟨g, off, none⟩) C ps v' out' ∧ FdSt fb (.slice Av out.length Cv) (w1.alloc (.cells #[.int .i64 6, .int .i64 (psz : Nat), .slice Ak Kn Ck, .int .i64 (pdv : Nat), .int .i64 (pfi : Nat), .int .i64 (pch : Nat), .slice A2 n2 C2, .slice A3 n3 C3] 47)) v' wr ∧ Hid (out' = (pk.take i).foldl (fun o j => fnd ps d o j (f) c) out)) (fun z _ => Kn - (intOf z).toNat)
 case atStart => exact ⟨0, _, out, rfl, Nat.zero_le _, H1, FdSt.refl _ _ _, rfl⟩
 case round =>
  obtain ⟨i, v', out', rfl, hi, H2, S2, HO⟩ := hrel
  by_cases hlt : i < Kn
  · have hlp : i < pk.length := by rw [← HKn.out]; exact hlt
    have B2 : Below fb (w1.alloc (.cells #[.int .i64 6, .int .i64 (psz : Nat), .slice Ak Kn Ck, .int .i64 (pdv : Nat), .int .i64 (pfi : Nat), .int .i64 (pch : Nat), .slice A2 n2 C2, .slice A3 n3 C3] 47)) wr := S2.below (fun j hj => by have := (row_lt H1.row hj).2; omega) (by have := H1.has.lt; omega)
    obtain ⟨b, o, eA, hbl, hbf, hcl⟩ := hki.resolve_left (by intro e; rw [e] at hlp; simp at hlp)
    have hck := (B2.cell (p := ⟨b, o + i, none⟩) hbf).trans ((BW1.cell (p := ⟨b, o + i, none⟩) hbf).trans (hcl i hlp))
    have hkd : pk[i] < k := hkids _ (List.getElem_mem hlp)
    have HG : Hid ((pk.take (i + 1)).foldl (fun o j => fnd ps d o j (f) c) out = fnd ps d out' pk[i] (f) c) := by
     rw [List.take_succ_eq_append_getElem hlp, List.foldl_append, ← HO.out]
     rfl
    have hcx := hx wr v' out' pk[i] (f) c H2 hkd ff hc
    have hint : (i : Int) < (Kn : Int) := by omega
    clear hcl
    generalize pk[i] = kid at hck hkd HG hcx
    subst eA
    go_wp2_with (first
     | ((go_at_call 30)
        (refine hcx.mono ?_)
        (rintro e w5 ⟨v5, rfl, H5, S5⟩)))
    go_roundw
    case rel => exact ⟨i + 1, v5, _, by go_num, by omega, H5, S2.trans S5, HG.out.symm⟩
    case measure => simp [intOf]; omega
  · obtain rfl : i = Kn := by omega
    have HF : Hid (out' = pk.foldl (fun o j => fnd ps d o j (f) c) out) := by
     rw [HO.out, HKn.out, List.take_length]
     exact rfl
    clear HO
    go_wp2
    go_end0
    refine ⟨v', rfl, ?_, (FdSt.of B1).trans S2⟩
    rw [← HF.out]
    exact H2
end
section
open Go.ChangeShapes Go.WideShapes Go.ChangeAt Go.RowKit Go.MapKept
theorem find_integrity {w : World} {fb : Nat} {A : Option Addr} {C : Nat} {ps : List Pt} {v : Value} {out : List R3} (h : FdAt w fb A C ps v out) (hwf : WfR ps) (d k : Nat) (f c : Int) (ho : ¬ 256 < out.length) (hh : hasB ps k f c = true) (hkind : (ptAt ps k).kind = 7)
  (hx : ∀ (W : World) (v : Value) (out : List R3) (j : Nat) (f c : Int), FdAt W fb A C ps v out → j < k → i64ok f → i64ok c → Calls Tryz.prog 30 #[.pointer (some ⟨fb, 0, none⟩), .int .i64 (j : Nat), .int .i64 f, .int .i64 c] W (FdRes W fb A C ps v (fnd ps d out j f c))) :
  Calls Tryz.prog 30 #[.pointer (some ⟨fb, 0, none⟩), .int .i64 (k : Nat), .int .i64 f, .int .i64 c] w (FdRes w fb A C ps v (fndK ps (fnd ps d) out (ptAt ps k) f c)) := by
 have hR := h
 obtain ⟨hkl, hf0, hc0, hfc⟩ := has_in hh
 have hsz := hwf.size k hkl
 have hfi := hwf.first k hkl
 have hkl2 := hwf.few k hkl
 have hkids := hwf.kids k hkl
 have hcap : ps.length ≤ C ∧ C ≤ 9223372036854775807 := h.cap
 have hkk : i64ok (k : Nat) := ⟨by omega, by omega⟩
 have hf : i64ok f := ⟨by omega, by omega⟩
 have hc : i64ok c := ⟨by omega, by omega⟩
 have hhas := has_c h hwf (k : Nat) f c hkk hf hc
 rw [hh] at hhas
 obtain ⟨Av, Cv, rfl⟩ : ∃ Av Cv, v = .slice Av out.length Cv := by
  rcases h.row.2 with ⟨rfl, h0⟩ | ⟨g, cap, cur, rfl, _⟩
  · exact ⟨none, 0, by rw [h0]⟩
  · exact ⟨_, _, rfl⟩
 obtain ⟨g, off, Ak, Ck, A2, n2, C2, A3, n3, C3, rfl, hg0, hg, hki, hkc, hkm, hcell⟩ := part_at h.pts hkl
 have EQ : fndK ps (fnd ps d) out (ptAt ps k) f c = fnd ps d out ((ptAt ps k).kids.getD 0 0) 0 (sz ps ((ptAt ps k).kids.getD 0 0)) := by
  unfold fndK
  rw [hkind]
  rfl
 rw [EQ]
 rw [hkind] at hcell
 have hkm2 : Ck ≤ 9223372036854775807 := hkm
 have hone0 := hwf.one k hkl (by rw [hkind]; decide)
 generalize hps : (ptAt ps k).size = psz at *
 generalize hpd : (ptAt ps k).dev = pdv at *
 generalize hpf : (ptAt ps k).first = pfi at *
 generalize hpc : (ptAt ps k).chunk = pch at *
 generalize hpk : (ptAt ps k).kids = pk at *
 obtain ⟨Kn, hKn⟩ : ∃ Kn, Kn = pk.length := ⟨_, rfl⟩
 rw [← hKn] at hcell hkc hkl2
 have HKn : Hid (Kn = pk.length) := hKn
 have hone : 1 ≤ Kn := by rw [hKn]; exact hone0
 clear hone0 hps hpd hpf hpc hpk hKn
 have h0 : 0 < pk.length := by rw [← HKn.out]; omega
 obtain ⟨b, o, eA, hbl, hbf, hcl⟩ := hki.resolve_left (by intro e; rw [e] at h0; simp at h0)
 have hc0k := hcl 0 h0
 have hkd : pk[0] < k := hkids _ (List.getElem_mem h0)
 rw [show pk.getD 0 0 = pk[0] by rw [List.getD_eq_getElem?_getD, List.getElem?_eq_getElem h0]; rfl]
 rw [Nat.add_zero] at hc0k
 generalize pk[0] = kid at hc0k hkd ⊢
 clear hcl
 subst eA
 have hKi : (0 : Int) < (Kn : Int) := by omega
 have c0 := h.has.cell 0
 have c1 := h.has.cell 1
 have lc := h.has.lt
 simp only [ga1, gz1, gs1] at c0 c1
 have hooi : ¬ (256 : Int) < (out.length : Int) := by omega
 have hkli : (k : Int) < (ps.length : Int) := by omega
 clear EQ hh hkind h
 go_enter Tryz.func30, Tryz.ntmps30
 go_wp2_with (first
  | ((go_at_call 61)
     (refine hhas.mono ?_)
     (rintro e w1 ⟨rfl, hb1⟩)
     (have c0b := below_some hb1 c0)
     (have c1b := below_some hb1 c1)
     (have lcb := Nat.lt_of_lt_of_le lc hb1.size)
     (have hcellb := fun j (hj : j < 8) => (hb1.cell (p := ⟨g, off + k * 8 + j, none⟩) hg).trans (hcell j hj)))
  | ((refine at_dstL 30 rfl ?_)
     (refine wpList_is (some 30) _ rfl (by rfl) (run_at_pt _ _ rfl g off k ps.length C rfl rfl hkl w1) ?_))
  | ((refine at_dstL 31 rfl ?_)
     (refine wpList_is (some 31) _ rfl (by rfl) (run_load_pt _ rfl g (off + k * 8) rfl w1 hcellb) ?_)
     (have H1 := (hR.keep hb1).keep (b_one w1 (.cells #[.int .i64 7, .int .i64 (psz : Nat), .slice (some ⟨b, o, none⟩) Kn Ck, .int .i64 (pdv : Nat), .int .i64 (pfi : Nat), .int .i64 (pch : Nat), .slice A2 n2 C2, .slice A3 n3 C3] 47)))
     (have P1 := Has.new w1 47 #[.int .i64 7, .int .i64 (psz : Nat), .slice (some ⟨b, o, none⟩) Kn Ck, .int .i64 (pdv : Nat), .int .i64 (pfi : Nat), .int .i64 (pch : Nat), .slice A2 n2 C2, .slice A3 n3 C3])
     (have B1 : Below w.heap.size w (w1.alloc (.cells #[.int .i64 7, .int .i64 (psz : Nat), .slice (some ⟨b, o, none⟩) Kn Ck, .int .i64 (pdv : Nat), .int .i64 (pfi : Nat), .int .i64 (pch : Nat), .slice A2 n2 C2, .slice A3 n3 C3] 47)) := hb1.alloc hb1.size _)
     (have hck := (B1.cell (p := ⟨b, o, none⟩) hbl).trans hc0k))
  | ((go_at_call 63)
     (refine (findAll_c H1 d kid (by omega) _ (hx _ _ _ kid 0 (sz ps kid : Nat) H1 hkd ⟨by decide, by decide⟩ ⟨by omega, by have := hwf.size kid (by omega); omega⟩)).mono ?_)
     (rintro e w5 ⟨v5, rfl, H5, S5⟩)))
 go_end0
 exact ⟨v5, rfl, H5, (FdSt.of B1).trans S5⟩
end
section
open Go.ChangeShapes Go.WideShapes Go.ChangeAt Go.RowKit Go.MapKept
theorem find_verity {w : World} {fb : Nat} {A : Option Addr} {C : Nat} {ps : List Pt} {v : Value} {out : List R3} (h : FdAt w fb A C ps v out) (hwf : WfR ps) (d k : Nat) (f c : Int) (ho : ¬ 256 < out.length) (hh : hasB ps k f c = true) (hkind : (ptAt ps k).kind = 8)
  (hx : ∀ (W : World) (v : Value) (out : List R3) (j : Nat) (f c : Int), FdAt W fb A C ps v out → j < k → i64ok f → i64ok c → Calls Tryz.prog 30 #[.pointer (some ⟨fb, 0, none⟩), .int .i64 (j : Nat), .int .i64 f, .int .i64 c] W (FdRes W fb A C ps v (fnd ps d out j f c))) :
  Calls Tryz.prog 30 #[.pointer (some ⟨fb, 0, none⟩), .int .i64 (k : Nat), .int .i64 f, .int .i64 c] w (FdRes w fb A C ps v (fndK ps (fnd ps d) out (ptAt ps k) f c)) := by
 have hR := h
 obtain ⟨hkl, hf0, hc0, hfc⟩ := has_in hh
 have hsz := hwf.size k hkl
 have hfi := hwf.first k hkl
 have hkl2 := hwf.few k hkl
 have hkids := hwf.kids k hkl
 have hcap : ps.length ≤ C ∧ C ≤ 9223372036854775807 := h.cap
 have hkk : i64ok (k : Nat) := ⟨by omega, by omega⟩
 have hf : i64ok f := ⟨by omega, by omega⟩
 have hc : i64ok c := ⟨by omega, by omega⟩
 have hhas := has_c h hwf (k : Nat) f c hkk hf hc
 rw [hh] at hhas
 obtain ⟨Av, Cv, rfl⟩ : ∃ Av Cv, v = .slice Av out.length Cv := by
  rcases h.row.2 with ⟨rfl, h0⟩ | ⟨g, cap, cur, rfl, _⟩
  · exact ⟨none, 0, by rw [h0]⟩
  · exact ⟨_, _, rfl⟩
 obtain ⟨g, off, Ak, Ck, A2, n2, C2, A3, n3, C3, rfl, hg0, hg, hki, hkc, hkm, hcell⟩ := part_at h.pts hkl
 have EQ : fndK ps (fnd ps d) out (ptAt ps k) f c = fnd ps d out ((ptAt ps k).kids.getD 0 0) 0 (sz ps ((ptAt ps k).kids.getD 0 0)) := by
  unfold fndK
  rw [hkind]
  rfl
 rw [EQ]
 rw [hkind] at hcell
 have hkm2 : Ck ≤ 9223372036854775807 := hkm
 have hone0 := hwf.one k hkl (by rw [hkind]; decide)
 generalize hps : (ptAt ps k).size = psz at *
 generalize hpd : (ptAt ps k).dev = pdv at *
 generalize hpf : (ptAt ps k).first = pfi at *
 generalize hpc : (ptAt ps k).chunk = pch at *
 generalize hpk : (ptAt ps k).kids = pk at *
 obtain ⟨Kn, hKn⟩ : ∃ Kn, Kn = pk.length := ⟨_, rfl⟩
 rw [← hKn] at hcell hkc hkl2
 have HKn : Hid (Kn = pk.length) := hKn
 have hone : 1 ≤ Kn := by rw [hKn]; exact hone0
 clear hone0 hps hpd hpf hpc hpk hKn
 have h0 : 0 < pk.length := by rw [← HKn.out]; omega
 obtain ⟨b, o, eA, hbl, hbf, hcl⟩ := hki.resolve_left (by intro e; rw [e] at h0; simp at h0)
 have hc0k := hcl 0 h0
 have hkd : pk[0] < k := hkids _ (List.getElem_mem h0)
 rw [show pk.getD 0 0 = pk[0] by rw [List.getD_eq_getElem?_getD, List.getElem?_eq_getElem h0]; rfl]
 rw [Nat.add_zero] at hc0k
 generalize pk[0] = kid at hc0k hkd ⊢
 clear hcl
 subst eA
 have hKi : (0 : Int) < (Kn : Int) := by omega
 have c0 := h.has.cell 0
 have c1 := h.has.cell 1
 have lc := h.has.lt
 simp only [ga1, gz1, gs1] at c0 c1
 have hooi : ¬ (256 : Int) < (out.length : Int) := by omega
 have hkli : (k : Int) < (ps.length : Int) := by omega
 clear EQ hh hkind h
 go_enter Tryz.func30, Tryz.ntmps30
 go_wp2_with (first
  | ((go_at_call 61)
     (refine hhas.mono ?_)
     (rintro e w1 ⟨rfl, hb1⟩)
     (have c0b := below_some hb1 c0)
     (have c1b := below_some hb1 c1)
     (have lcb := Nat.lt_of_lt_of_le lc hb1.size)
     (have hcellb := fun j (hj : j < 8) => (hb1.cell (p := ⟨g, off + k * 8 + j, none⟩) hg).trans (hcell j hj)))
  | ((refine at_dstL 30 rfl ?_)
     (refine wpList_is (some 30) _ rfl (by rfl) (run_at_pt _ _ rfl g off k ps.length C rfl rfl hkl w1) ?_))
  | ((refine at_dstL 31 rfl ?_)
     (refine wpList_is (some 31) _ rfl (by rfl) (run_load_pt _ rfl g (off + k * 8) rfl w1 hcellb) ?_)
     (have H1 := (hR.keep hb1).keep (b_one w1 (.cells #[.int .i64 8, .int .i64 (psz : Nat), .slice (some ⟨b, o, none⟩) Kn Ck, .int .i64 (pdv : Nat), .int .i64 (pfi : Nat), .int .i64 (pch : Nat), .slice A2 n2 C2, .slice A3 n3 C3] 47)))
     (have P1 := Has.new w1 47 #[.int .i64 8, .int .i64 (psz : Nat), .slice (some ⟨b, o, none⟩) Kn Ck, .int .i64 (pdv : Nat), .int .i64 (pfi : Nat), .int .i64 (pch : Nat), .slice A2 n2 C2, .slice A3 n3 C3])
     (have B1 : Below w.heap.size w (w1.alloc (.cells #[.int .i64 8, .int .i64 (psz : Nat), .slice (some ⟨b, o, none⟩) Kn Ck, .int .i64 (pdv : Nat), .int .i64 (pfi : Nat), .int .i64 (pch : Nat), .slice A2 n2 C2, .slice A3 n3 C3] 47)) := hb1.alloc hb1.size _)
     (have hck := (B1.cell (p := ⟨b, o, none⟩) hbl).trans hc0k))
  | ((go_at_call 63)
     (refine (findAll_c H1 d kid (by omega) _ (hx _ _ _ kid 0 (sz ps kid : Nat) H1 hkd ⟨by decide, by decide⟩ ⟨by omega, by have := hwf.size kid (by omega); omega⟩)).mono ?_)
     (rintro e w5 ⟨v5, rfl, H5, S5⟩)))
 go_end0
 exact ⟨v5, rfl, H5, (FdSt.of B1).trans S5⟩
end
section
open Go.ChangeShapes Go.WideShapes Go.ChangeAt Go.RowKit Go.MapKept
theorem find_c {fb : Nat} {A : Option Addr} {C : Nat} {ps : List Pt} (hwf : WfR ps) (d : Nat) : ∀ (w : World) (v : Value) (out : List R3) (k : Nat) (f c : Int), FdAt w fb A C ps v out → k < d → (k : Int) ≤ 9223372036854775807 → i64ok f → i64ok c → Calls Tryz.prog 30 #[.pointer (some ⟨fb, 0, none⟩), .int .i64 (k : Nat), .int .i64 f, .int .i64 c] w (FdRes w fb A C ps v (fnd ps d out k f c)) := by
 induction d with
 | zero => intro w v out k f c _ hk; omega
 | succ d ih =>
   intro w v out k f c h hk hkm hf hc
   by_cases hno : 256 < out.length ∨ hasB ps k f c = false
   · rw [fnd_no hno]
     exact find_out h hwf k f c ⟨by omega, hkm⟩ hf hc hno
   · have ho : ¬ 256 < out.length := fun e => hno (.inl e)
     have hh : hasB ps k f c = true := by
      cases e : hasB ps k f c with
      | true => rfl
      | false => exact absurd (.inr e) hno
     rw [fnd_is ho hh]
     have hkl := (has_in hh).1
     have hkk := hwf.kind k hkl
     have hx : ∀ (W : World) (v : Value) (out : List R3) (j : Nat) (f c : Int), FdAt W fb A C ps v out → j < k → i64ok f → i64ok c → Calls Tryz.prog 30 #[.pointer (some ⟨fb, 0, none⟩), .int .i64 (j : Nat), .int .i64 f, .int .i64 c] W (FdRes W fb A C ps v (fnd ps d out j f c)) := fun W v out j f c H hj hf hc => ih W v out j f c H (by omega) (by omega) hf hc
     rcases (by omega : (ptAt ps k).kind = 1 ∨ (ptAt ps k).kind = 2 ∨ (ptAt ps k).kind = 3 ∨ (ptAt ps k).kind = 4 ∨ (ptAt ps k).kind = 5 ∨ (ptAt ps k).kind = 6 ∨ (ptAt ps k).kind = 7 ∨ (ptAt ps k).kind = 8) with e | e | e | e | e | e | e | e
     · exact find_disk h hwf d k f c ho hh e hx
     · exact find_linear h hwf d k f c ho hh e hx
     · exact find_concat h hwf d k f c ho hh e hx
     · exact find_mirror h hwf d k f c ho hh e hx
     · exact find_snapshot h hwf d k f c ho hh e hx
     · exact find_crypt h hwf d k f c ho hh e hx
     · exact find_integrity h hwf d k f c ho hh e hx
     · exact find_verity h hwf d k f c ho hh e hx
def RgAt (w : World) (base : Nat) (v : Value) (l : List R3) : Prop := w.ownsRow base 42 3 v l.length (r3l l)
theorem regions_c {w : World} {A : Option Addr} {C : Nat} {ps : List Pt} (hp : PtsAt w w.heap.size A ps) (hcap : ps.length ≤ C ∧ C ≤ maxLen) (hwf : WfR ps) (x0 x1 x3 x4 : Value) (p f c : Int) (hpi : i64ok p) (hf : i64ok f) (hc : i64ok c) : Calls Tryz.prog 15 #[.agg #[x0, x1, .slice A ps.length C, x3, x4], .int .i64 p, .int .i64 f, .int .i64 c] w fun e w' => ∃ v, e = .returned v ∧ RgAt w' w.heap.size v (Regs ps p f c) ∧ Below w.heap.size w w' ∧ (Regs ps p f c).length ≤ 257 := by
 obtain ⟨W, hW⟩ : ∃ W, W = (w.alloc (.cells #[x0, x1, .slice A ps.length C, x3, x4] 32)).alloc (.cells #[.slice A ps.length C, .slice none 0 0] 78) := ⟨_, rfl⟩
 have hBW : Below w.heap.size w W := by rw [hW]; exact b_two w _ _
 have H0 : FdAt W (w.heap.size + 1) A C ps (.slice none 0 0) [] := by
  refine ⟨by rw [hW]; exact Has.new_at (by simp), ⟨rfl, .inl ⟨rfl, rfl⟩⟩, ?_, hcap, by simp⟩
  intro i hi
  obtain ⟨g, off, u, e, h1, h2, h3, h4⟩ := hp i hi
  exact ⟨g, off, u, e, by omega, Nat.lt_of_lt_of_le h2 hBW.size, fun j hj => (hBW.cell (p := ⟨g, off + i * 8 + j, none⟩) h1).trans (h3 j hj), h4.keep hBW.size fun k hk hB => ⟨hBW.block k hk, by omega⟩⟩
 have hcx : Calls Tryz.prog 30 #[.pointer (some ⟨w.heap.size + 1, 0, none⟩), .int .i64 p, .int .i64 f, .int .i64 c] W (FdRes W (w.heap.size + 1) A C ps (.slice none 0 0) (Regs ps p f c)) := by
  unfold Regs
  by_cases hh : hasB ps p f c = false
  · rw [if_pos hh]
    exact find_out H0 hwf p f c hpi hf hc (.inr hh)
  · rw [if_neg hh]
    have hin : 0 ≤ p ∧ p < ps.length := by
     have : hasB ps p f c = true := by cases e : hasB ps p f c with
      | true => rfl
      | false => exact absurd e hh
     unfold hasB at this
     simp only [decide_eq_true_eq] at this
     omega
    obtain ⟨k, rfl⟩ : ∃ k : Nat, p = (k : Nat) := ⟨p.toNat, by omega⟩
    rw [Int.toNat_natCast]
    exact find_c hwf ps.length W _ [] k f c H0 (by omega) hpi.2 hf hc
 have HW : Hid (W = (w.alloc (.cells #[x0, x1, .slice A ps.length C, x3, x4] 32)).alloc (.cells #[.slice A ps.length C, .slice none 0 0] 78)) := hW
 rw [hW] at hcx
 clear hW
 go_enter Tryz.func15, Tryz.ntmps15
 go_wp2_with (first
  | ((go_at_call 30)
     (refine hcx.mono ?_)
     (rintro e w1 ⟨v1, rfl, H1, S1⟩)
     (have q1 := H1.has.cell 1)
     (have l1 := H1.has.lt)
     (simp only [ga1, gz1, gs1] at q1)))
 go_ret
 rw [← HW.out] at S1
 refine ⟨v1, rfl, ?_, hBW.trans ((S1.below (fun j hj => by cases hj) (Nat.le_of_lt H0.has.lt)).mono (by omega)), H1.few⟩
 unfold RgAt
 have hr := H1.row
 refine ⟨hr.1, ?_⟩
 rcases hr.2 with h | ⟨g, cap, cur, e, hb, r⟩
 · exact .inl h
 · exact .inr ⟨g, cap, cur, e, by omega, r⟩
end
section
open Go.ChangeShapes Go.WideShapes Go.ChangeAt Go.RowKit Go.MapKept Go.Shelf
variable {E : Nat → Prop}
theorem indexI_c (g : Nat) (cb : Array Value) (A : Option Addr) (n C : Nat) (l : List Nat) (p : Nat → Bool) (w : World) (eg : ∀ args w, (callFunc g args).run Tryz.prog w = .ok (.enter g args) w) (hn : n = l.length) (hn2 : n ≤ 100000) (P : Nat → Prop) (hl : IntsP w P A l)
  (hf : ∀ (i : Nat) (hi : i < l.length) (W : World), Below w.heap.size w W → Calls Tryz.prog g (#[.int .i64 (l[i] : Nat)] ++ cb) W fun e W' => e = .returned (.bool (p l[i])) ∧ Below W.heap.size W W') :
  Calls Tryz.prog 141 #[.slice A n C, .func (.func g) #[] cb] w fun e w' => ∃ r : Int, e = .returned (.int .i64 r) ∧ decide (0 ≤ r) = l.any p ∧ Below w.heap.size w w' := by
 have HF : Hid (∀ (i : Nat) (hi : i < l.length) (W : World), Below w.heap.size w W → Calls Tryz.prog g (#[.int .i64 (l[i] : Nat)] ++ cb) W fun e W' => e = .returned (.bool (p l[i])) ∧ Below W.heap.size W W') := hf
 have HN : Hid (n = l.length) := hn
 clear hf hn
 go_enter Tryz.func141, Tryz.ntmps141
 go_wp2
 go_loopw [8] (fun i wr => ∃ k : Nat, k ≤ n ∧ i = .int .i64 k ∧ Hid ((l.take k).any p = false) ∧ Below w.heap.size w wr) (fun i _ => n - (intOf i).toNat)
 case atStart => exact ⟨0, Nat.zero_le _, rfl, (by simp : (l.take 0).any p = false), Below.refl _ _⟩
 case round =>
  obtain ⟨k, hk, rfl, HA, hb⟩ := hrel
  by_cases hlt : k < n
  · have hkl : k < l.length := by rw [← HN.out]; exact hlt
    obtain ⟨b, off, eA, hbl, hp0, hcl⟩ := hl.resolve_left (by intro e; rw [e] at hkl; simp at hkl)
    have c0 := (hb.cell (p := ⟨b, off + k, none⟩) hbl).trans (hcl k hkl)
    have hc := HF.out k hkl _ hb
    have HT : Hid ((l.take (k + 1)).any p = p l[k]) := by
     rw [List.take_succ_eq_append_getElem hkl, List.any_append, HA.out]
     simp
     exact trivial
    have HM : Hid (p l[k] = true → l.any p = true) := (fun e => List.any_eq_true.2 ⟨_, List.getElem_mem hkl, e⟩ : p l[k] = true → l.any p = true)
    have hint : (k : Int) < (n : Int) := by omega
    clear hcl hl
    generalize l[k] = x at *
    subst eA
    cases hp : p x <;> rw [hp] at hc
    · have HP : Hid ((l.take (k + 1)).any p = false) := by rw [HT.out, hp]; exact rfl
      clear hp HT HM
      go_wp2_with (go_at_fn g; refine hc.mono ?_; rintro e w' ⟨rfl, hb2⟩)
      go_roundw
      case rel => exact ⟨k + 1, hlt, by go_num, HP.out, hb.trans (hb2.mono hb.size)⟩
      case measure => simp [intOf]; omega
    · have HP : Hid (l.any p = true) := HM.out hp
      clear hp HT HM
      go_wp2_with (go_at_fn g; refine hc.mono ?_; rintro e w' ⟨rfl, hb2⟩)
      go_ret
      exact ⟨k, rfl, by rw [HP.out]; simp, hb.trans (hb2.mono hb.size)⟩
  · obtain rfl : k = n := by omega
    have HE : Hid (l.any p = false) := by
     have := HA.out
     rw [HN.out, List.take_length] at this
     exact this
    clear hl
    go_wp2
    go_ret
    exact ⟨-1, rfl, by rw [HE.out]; rfl, hb⟩
theorem anyI_c (g : Nat) (cb : Array Value) (A : Option Addr) (n C : Nat) (l : List Nat) (p : Nat → Bool) (w : World) (eg : ∀ args w, (callFunc g args).run Tryz.prog w = .ok (.enter g args) w) (hn : n = l.length) (hn2 : n ≤ 100000) (P : Nat → Prop) (hl : IntsP w P A l)
  (hf : ∀ (i : Nat) (hi : i < l.length) (W : World), Below w.heap.size w W → Calls Tryz.prog g (#[.int .i64 (l[i] : Nat)] ++ cb) W fun e W' => e = .returned (.bool (p l[i])) ∧ Below W.heap.size W W') :
  Calls Tryz.prog 115 #[.slice A n C, .func (.func g) #[] cb] w fun e w' => e = .returned (.bool (l.any p)) ∧ Below w.heap.size w w' := by
 have hi := indexI_c g cb A n C l p w eg hn hn2 P hl hf
 clear hf hl eg hn hn2
 go_enter Tryz.func115, Tryz.ntmps115
 go_wp2_with (first
  | ((go_at_call 141)
     (refine hi.mono ?_)
     (rintro e w1 ⟨r, rfl, hr, hb⟩)
     (have HR : Hid (decide (0 ≤ r) = l.any p) := hr)
     (clear hr)))
 go_ret
 exact ⟨ret_bool (by rw [← HR.out]), hb⟩
theorem onlys_snoc (ps : List Pt) (p : Pt) : onlys (ps ++ [p]) = onlys ps ++ [onlyB (onlys ps) p] := by
 unfold onlys
 rw [List.foldl_append]
 rfl
theorem onlys_len (ps : List Pt) : (onlys ps).length = ps.length := by
 unfold onlys
 have : ∀ (ps : List Pt) (o : List Bool), (ps.foldl (fun o p => o ++ [onlyB o p]) o).length = o.length + ps.length := by
  intro ps
  induction ps with
  | nil => intro o; rfl
  | cons p ps ih => intro o; rw [List.foldl_cons, ih]; simp; omega
 have h := this ps []
 simpa using h
theorem add1_c {w : World} {cb : Nat} {V : CV} {c : Ck} (h : CkAt E w cb V c) (bx k : Nat) (hk : k < c.parts.length) (hx : w.cell? ⟨bx, 0, none⟩ = some (.pointer (some ⟨cb, 0, none⟩))) : Calls Tryz.prog 116 #[.int .i64 (k : Nat), .pointer (some ⟨bx, 0, none⟩)] w fun e w' => e = .returned (.bool ((onlys c.parts).getD k false)) ∧ Below w.heap.size w w' := by
 have c6 := h.has.cell 6
 have lc := h.has.lt
 simp only [ga1, gz1, gs1] at c6
 obtain ⟨e1, h0⟩ | ⟨g, cap, cur, e1, hb, hg, hn, hm, hs, ht⟩ := h.only.2
 · omega
 · have hlen := onlys_len c.parts
   have hcell : w.cell? ⟨g, k, none⟩ = some (.bool ((onlys c.parts).getD k false)) := by
    rw [cell_of_row w g k cur _ _ hg, ← Array.getElem?_toList]
    have : (cur.toList.take (c.parts.length * 1))[k]? = cur.toList[k]? := List.getElem?_take_of_lt (by omega)
    rw [← this, ht, List.getElem?_map, List.getD_eq_getElem?_getD, List.getElem?_eq_getElem (by rw [hlen]; exact hk)]
    rfl
   rw [e1] at c6
   generalize (onlys c.parts).getD k false = B at *
   have hgl := (Array.getElem?_eq_some_iff.1 hg).1
   have hm2 : cap ≤ 9223372036854775807 := hm
   clear h hg ht hs hlen e1 hm
   generalize c.parts.length = L at *
   have hkk : (k : Int) < (L : Int) := by omega
   go_enter Tryz.func116, Tryz.ntmps116
   go_wp2
   go_ret
   exact ⟨rfl, Below.refl _ _⟩
end
end Go.Proofs.YthndifegfmjpbaaGreatDoor
