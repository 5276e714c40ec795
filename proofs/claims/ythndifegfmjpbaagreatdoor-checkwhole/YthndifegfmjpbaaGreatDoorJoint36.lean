/- Texts that the statements of this stage share, joined. -/
import Derived.Test.YthndifegfmjpbaaGreatDoorJoint35
namespace Go.Proofs.YthndifegfmjpbaaGreatDoor
set_option linter.unusedVariables false
set_option maxRecDepth 100000
set_option maxHeartbeats 40000000
section
open Go.ChangeShapes Go.WideShapes Go.ChangeAt Go.RowKit Go.MapKept
theorem cw_err (x : List UInt8) (w : World) (hx : x.length ≤ maxLen) {ec : Nat} {ek : Int} (hC : CheckOf (PT x) = .error (ec, ek)) : Calls Tryz.prog 5 #[.string (bs x)] w fun e w' => e = .returned (.bool true) ∧ Below w.heap.size w w' := by
 have hpa := rpt_c x w hx
 have hec : ¬ ((ec : Nat) : Int) = 0 := by have : ec ≠ 0 := check_code (PT_lim x) hC; omega
 have HCK := hidI (fun W A C (h : RdN W (PT x) A C) => by have := check_c (PT x) A C W h (PT_lim x); rw [hC] at this; exact this)
 obtain ⟨n, hn⟩ : ∃ n, n = PT x := ⟨_, rfl⟩
 rw [← hn] at hpa HCK
 clear hn hC
 unfold ndc at hpa HCK
 go_enter Tryz.func5, Tryz.ntmps5
 go_wp2_with (first
  | ((go_at_call 9)
     (refine hpa.mono ?_)
     (rintro e w1 ⟨A, C, c, k, rfl, hr1, hb1, -⟩)
     (have hck := HCK.out _ A C (hr1.grow (b_one w1 (.cells #[.string (bs n.op), .string (bs n.s), .int .i64 n.n, .int .i64 n.a, .slice A n.l.length C] 24)))))
  | ((go_at_call 11)
     (refine hck.mono ?_)
     (rintro e w2 ⟨hb2, rfl⟩))
  | ((go_at_call 14)
     (refine (alive13_c _).mono ?_)
     (rintro e w3 ⟨rfl, hb3⟩)
     (have hS3 := (Has.new w2 32 #[.slice none 0 0, .int .i64 0, .slice none 0 0, .int .i64 0, .bool false]).below hb3 (by simp))
     (have t2 := hS3.cell 2)
     (have tl := hS3.lt)
     (simp only [ga1, gz1, gs1] at t2)))
 go_ret
 have q1 := hb1.size
 have q2 := hb2.size
 simp at q2
 exact ⟨rfl, (((hb1.alloc hb1.size _).trans (hb2.mono (by simp; omega))).alloc (by omega) _).trans (hb3.mono (by simp; omega))⟩
def DvsAt (w : World) (g off : Nat) (l : List Nat) : Prop := ∀ d, d < l.length → w.cell? ⟨g, off + d, none⟩ = some (.int .i64 (l.getD d 0 : Nat))
theorem run_load_stk5 {o : Oper} {a : Act} (x : Operand) (ho : o.op = .load 32 x) (g : Nat) (hx : a.eval x = .pointer (some ⟨g, 0, none⟩)) {x0 x1 x2 x3 x4 : Value} (w : World) {t : Nat} (h : Has w g t #[x0, x1, x2, x3, x4]) : (execOp a.eval o).run Tryz.prog w = .ok (.value (.agg #[x0, x1, x2, x3, x4])) w := by
 have q0 := h.cell 0
 have q1 := h.cell 1
 have q2 := h.cell 2
 have q3 := h.cell 3
 have q4 := h.cell 4
 simp only [ga1, gz1, gs1] at q0 q1 q2 q3 q4
 unfold execOp
 simp only [ho, hx]
 go_simp
theorem cw_ok (x : List UInt8) (w : World) (hx : x.length ≤ maxLen) {s : Stk} (hC : CheckOf (PT x) = .ok s) : Calls Tryz.prog 5 #[.string (bs x)] w fun e w' => e = .returned (.bool true) ∧ Below w.heap.size w w' := by
 have hpa := rpt_c x w hx
 have hsw := check_sw (PT_lim x) hC
 have HCK := hidI (fun W A C (h : RdN W (PT x) A C) => by have := check_c (PT x) A C W h (PT_lim x); rw [hC] at this; exact this)
 obtain ⟨n, hn⟩ : ∃ n, n = PT x := ⟨_, rfl⟩
 rw [← hn] at hpa HCK
 have hNP0 : 0 < s.parts.length := by have := hsw.expo.1; omega
 have hDL0 : 0 < s.devs.length := by have := hsw.jour; omega
 obtain ⟨NP, hNP⟩ : ∃ NP, NP = s.parts.length := ⟨_, rfl⟩
 have HNP := hidI hNP
 obtain ⟨DL, hDL⟩ : ∃ DL, DL = s.devs.length := ⟨_, rfl⟩
 have HDL := hidI hDL
 obtain ⟨J, hJ⟩ : ∃ J, J = s.jour := ⟨_, rfl⟩
 have HJ := hidI hJ
 obtain ⟨X, hX⟩ : ∃ X, X = s.expo := ⟨_, rfl⟩
 have HX := hidI hX
 have hXn : X < NP := by rw [hX, hNP]; exact hsw.expo.1
 have hJn : J < DL := by rw [hJ, hDL]; exact hsw.jour
 have hNP72 : NP ≤ 72 := by rw [hNP]; exact hsw.few
 have hDL8 : DL ≤ 8 := by rw [hDL]; exact hsw.dfew
 have y1 : decide (DL ≤ J) = false := decide_eq_false (by omega)
 have y2 : decide (NP ≤ X) = false := decide_eq_false (by omega)
 have y3 : decide (72 < ((NP : Nat) : Int)) = false := decide_eq_false (by omega)
 have y4 : decide (((J : Nat) : Int) < 0) = false := decide_eq_false (by omega)
 have y5 : decide (((X : Nat) : Int) < 0) = false := decide_eq_false (by omega)
 clear hn hC hNP hDL hJ hX
 unfold ndc at hpa HCK
 go_enter Tryz.func5, Tryz.ntmps5
 go_wp2_with (first
  | ((go_at_call 9)
     (refine hpa.mono ?_)
     (rintro e w1 ⟨A, C, c, k, rfl, hr1, hb1, -⟩)
     (have hck := HCK.out _ A C (hr1.grow (b_one w1 (.cells #[.string (bs n.op), .string (bs n.s), .int .i64 n.n, .int .i64 n.a, .slice A n.l.length C] 24)))))
  | ((go_at_call 11)
     (refine hck.mono ?_)
     (rintro e w2 ⟨hb2, vd, vp, rfl, hst⟩)
     (obtain ⟨gd, od, Cd, rfl, hCd1, hCd2, hgd, hdv2⟩ := hst.dev hDL0)
     (obtain ⟨g, off, Cp, rfl, hCp1, hCp2, hg2, -, hPt2⟩ := hst.pts hNP0)
     (rw [← HNP.out, ← HDL.out, ← HJ.out, ← HX.out])))
 have S3 := Has.new w2 32 #[.slice (some ⟨gd, od, none⟩) DL Cd, .int .i64 (J : Nat), .slice (some ⟨g, off, none⟩) NP Cp, .int .i64 (X : Nat), .bool s.ro]
 have hb3 := b_one w2 (.cells #[.slice (some ⟨gd, od, none⟩) DL Cd, .int .i64 (J : Nat), .slice (some ⟨g, off, none⟩) NP Cp, .int .i64 (X : Nat), .bool s.ro] 32)
 have hPt := hPt2.up hb3
 have hdv : DvsAt (w2.alloc (.cells #[.slice (some ⟨gd, od, none⟩) DL Cd, .int .i64 (J : Nat), .slice (some ⟨g, off, none⟩) NP Cp, .int .i64 (X : Nat), .bool s.ro] 32)) gd od s.devs := fun d hd => below_some hb3 (hdv2 d hd)
 have hg3 : g < (w2.alloc (.cells #[.slice (some ⟨gd, od, none⟩) DL Cd, .int .i64 (J : Nat), .slice (some ⟨g, off, none⟩) NP Cp, .int .i64 (X : Nat), .bool s.ro] 32)).heap.size := Nat.lt_of_lt_of_le hg2 hb3.size
 have hgd3 : gd < (w2.alloc (.cells #[.slice (some ⟨gd, od, none⟩) DL Cd, .int .i64 (J : Nat), .slice (some ⟨g, off, none⟩) NP Cp, .int .i64 (X : Nat), .bool s.ro] 32)).heap.size := Nat.lt_of_lt_of_le hgd hb3.size
 have hB03 : Below w.heap.size w (w2.alloc (.cells #[.slice (some ⟨gd, od, none⟩) DL Cd, .int .i64 (J : Nat), .slice (some ⟨g, off, none⟩) NP Cp, .int .i64 (X : Nat), .bool s.ro] 32)) := by
  have q1 := hb1.size
  have q2 := hb2.size
  simp at q2
  exact (((hb1.alloc hb1.size _).trans (hb2.mono (by simp; omega))).alloc (by omega) _)
 have hsz : ∀ k, k < s.parts.length → (w2.alloc (.cells #[.slice (some ⟨gd, od, none⟩) DL Cd, .int .i64 (J : Nat), .slice (some ⟨g, off, none⟩) NP Cp, .int .i64 (X : Nat), .bool s.ro] 32)).cell? ⟨g, off + k * 8 + 1, none⟩ = some (.int .i64 (sz s.parts k : Nat)) := fun k hk => by
  have := (hPt.two hk).2
  rw [sz_get _ hk]
  exact this
 have hw2s : w2.heap.size < (w2.alloc (.cells #[.slice (some ⟨gd, od, none⟩) DL Cd, .int .i64 (J : Nat), .slice (some ⟨g, off, none⟩) NP Cp, .int .i64 (X : Nat), .bool s.ro] 32)).heap.size := by simp
 clear hst hdv2 hPt2 hck hb2 hr1 hpa HCK hb1 hb3 hgd hg2
 generalize hsb : w2.heap.size = sb at *
 generalize w2.alloc (.cells #[.slice (some ⟨gd, od, none⟩) DL Cd, .int .i64 (J : Nat), .slice (some ⟨g, off, none⟩) NP Cp, .int .i64 (X : Nat), .bool s.ro] 32) = W3 at *
 clear hsb
 go_loopw [9] (fun z wr => ∃ (i : Nat), z = .int .i64 (i : Nat) ∧ i ≤ NP ∧ Below W3.heap.size W3 wr) (fun z _ => NP - (intOf z).toNat)
 case atStart => exact ⟨0, rfl, Nat.zero_le _, Below.refl _ _⟩
 case round =>
  obtain ⟨i, rfl, hi, Brw⟩ := hrel
  have Sr := S3.below Brw S3.lt
  have s2 := Sr.cell 2
  have sl := Sr.lt
  simp only [ga1, gz1, gs1] at s2
  by_cases hlt : i < NP
  · have hint : (i : Int) < (NP : Int) := by omega
    have hil : i < s.parts.length := by rw [← HNP.out]; exact hlt
    have hpw := hsw.part i hil
    obtain ⟨Ak, Ck, A2, L2, C2, A3, L3, C3, hcl, hki, hk1, hk2⟩ := (hPt.up Brw).all hil
    obtain ⟨S, hS⟩ : ∃ S, S = s.parts[i].size := ⟨_, rfl⟩
    obtain ⟨D, hD⟩ : ∃ D, D = s.parts[i].dev := ⟨_, rfl⟩
    obtain ⟨F, hF⟩ : ∃ F, F = s.parts[i].first := ⟨_, rfl⟩
    obtain ⟨Ch, hCh⟩ : ∃ Ch, Ch = s.parts[i].chunk := ⟨_, rfl⟩
    have hS1 : 1 ≤ S := by rw [hS]; exact hpw.lo
    have hS2 : S ≤ 8192 := by rw [hS]; exact hpw.hi
    have z1 : decide (((S : Nat) : Int) < 1) = false := decide_eq_false (by omega)
    have z2 : decide (8192 < ((S : Nat) : Int)) = false := decide_eq_false (by omega)
    rw [← hS, ← hD, ← hF, ← hCh] at hcl
    by_cases hkd : s.parts[i].kind = 1
    · obtain ⟨d1, d2, d3, d4⟩ := hpw.disk hkd
      rw [hkd, d1] at hcl
      change ∀ j, j < 8 → wr.cell? ⟨g, off + i * 8 + j, none⟩ = (#[.int .i64 1, .int .i64 (S : Nat), .slice Ak 0 Ck, .int .i64 (D : Nat), .int .i64 (F : Nat), .int .i64 (Ch : Nat), .slice A2 L2 C2, .slice A3 L3 C3] : Array Value)[j]? at hcl
      have hDn : D < DL := by rw [hD, HDL.out]; exact d2
      have hDJ : ¬ D = J := by rw [hD, HJ.out]; exact d3
      have e1 : decide (DL ≤ D) = false := decide_eq_false (by omega)
      have e2 : (((D : Nat) : Int) == ((J : Nat) : Int)) = false := by rw [beq_eq_false_iff_ne]; omega
      have e3 : decide (((D : Nat) : Int) < 0) = false := decide_eq_false (by omega)
      have hdz : W3.cell? ⟨gd, od + D, none⟩ = some (.int .i64 (S : Nat)) := by
       have := hdv s.parts[i].dev d2
       rw [d4, ← hD, ← hS] at this
       exact this
      clear hS hD hF hCh hpw hkd d1 d2 d3 d4 hki hk1 hk2
      as_aux_lemma =>
       have P5 := Has.new wr 47 #[.int .i64 1, .int .i64 (S : Nat), .slice Ak 0 Ck, .int .i64 (D : Nat), .int .i64 (F : Nat), .int .i64 (Ch : Nat), .slice A2 L2 C2, .slice A3 L3 C3]
       have hb5 := b_one wr (.cells #[.int .i64 1, .int .i64 (S : Nat), .slice Ak 0 Ck, .int .i64 (D : Nat), .int .i64 (F : Nat), .int .i64 (Ch : Nat), .slice A2 L2 C2, .slice A3 L3 C3] 47)
       have S5 := Sr.below hb5 Sr.lt
       have hBw : Below W3.heap.size W3 (wr.alloc (.cells #[.int .i64 1, .int .i64 (S : Nat), .slice Ak 0 Ck, .int .i64 (D : Nat), .int .i64 (F : Nat), .int .i64 (Ch : Nat), .slice A2 L2 C2, .slice A3 L3 C3] 47)) := Brw.trans (hb5.mono Brw.size)
       go_wp2_with (first
        | ((refine at_dstL 77 rfl ?_)
           (refine wpList_is (some 77) _ rfl (by rfl) (run_at_pt _ _ rfl g off i NP Cp rfl rfl hlt wr) ?_))
        | ((refine at_dstL 78 rfl ?_)
           (refine wpList_is (some 78) (.agg #[.int .i64 1, .int .i64 (S : Nat), .slice Ak 0 Ck, .int .i64 (D : Nat), .int .i64 (F : Nat), .int .i64 (Ch : Nat), .slice A2 L2 C2, .slice A3 L3 C3]) rfl (by rfl) (run_load_pt _ rfl g (off + i * 8) rfl wr hcl) ?_)))
       have HSZ := hidI (fun W (hb : Below W3.heap.size W3 W) k (hk : k < s.parts.length) => below_some hb (hsz k hk))
       clear hcl Sr
       generalize hpb : wr.heap.size = pb at *
       generalize wr.alloc (.cells #[.int .i64 1, .int .i64 (S : Nat), .slice Ak 0 Ck, .int .i64 (D : Nat), .int .i64 (F : Nat), .int .i64 (Ch : Nat), .slice A2 L2 C2, .slice A3 L3 C3] 47) = W5 at *
       have s0 := S5.cell 0
       have s1 := S5.cell 1
       have s2 := S5.cell 2
       have sl := S5.lt
       have p0 := P5.cell 0
       have p1 := P5.cell 1
       have p2 := P5.cell 2
       have p3 := P5.cell 3
       have p4 := P5.cell 4
       have pl := P5.lt
       simp only [ga1, gz1, gs1] at s0 s1 s2 p0 p1 p2 p3 p4
       have dz : W5.cell? ⟨gd, od + D, none⟩ = some (.int .i64 (S : Nat)) := below_some hBw hdz
       have dl : gd < W5.heap.size := Nat.lt_of_lt_of_le hgd3 hBw.size
       go_quiet (fail)
       go_wp2
       go_loopw [11] (fun z wk => ∃ (k : Nat), z = .int .i64 (k : Nat) ∧ k ≤ 0 ∧ Below W5.heap.size W5 wk) (fun z _ => 0 - (intOf z).toNat)
       case atStart => exact ⟨0, rfl, Nat.zero_le _, bel_dn (Below.refl _ _) _⟩
       case round =>
        obtain ⟨k, rfl, hk, Bk⟩ := hrel
        replace s0 := below_some Bk s0
        replace s2 := below_some Bk s2
        replace p0 := below_some Bk p0
        replace p1 := below_some Bk p1
        replace p2 := below_some Bk p2
        replace p4 := below_some Bk p4
        replace sl := Nat.lt_of_lt_of_le sl Bk.size
        replace pl := Nat.lt_of_lt_of_le pl Bk.size
        have hBW : Below W3.heap.size W3 wr := hBw.trans (Bk.mono hBw.size)
        obtain rfl : k = 0 := by omega
        go_wp2
        go_quiet (fail)
        go_wp2
        go_roundw
        case rel => exact ⟨i + 1, by go_num, by omega, bel_dn hBW _⟩
        case measure => simp [intOf]; omega
    · have hne := hpw.some' hkd
      obtain ⟨KL, hKL⟩ : ∃ KL, KL = s.parts[i].kids.length := ⟨_, rfl⟩
      have hKL0 : 0 < KL := by rw [hKL]; exact List.length_pos_iff.2 hne
      have hKL4 : KL ≤ 4 := by rw [hKL]; exact hpw.four
      obtain ⟨bk, ok, eAk, hbk, hbk', hkc0⟩ := hki.resolve_left hne
      subst eAk
      rw [← hKL] at hcl
      obtain ⟨K, hK⟩ : ∃ K, K = s.parts[i].kind := ⟨_, rfl⟩
      rw [← hK] at hcl hkd
      have hKb := hpw.kind
      rw [← hK] at hKb
      have HK2 := hidI (show K = 2 → _ from fun e => hpw.lin (hK.symm.trans e))
      have HK5 := hidI (show K = 5 → _ from fun e => hpw.snap (hK.symm.trans e))
      have HKDW := hidI (fun W5 (hb : Below wr.heap.size wr W5) k (hk : k < KL) => show ∃ kv : Nat, kv < i ∧ W5.cell? ⟨bk, ok + k, none⟩ = some (.int .i64 (kv : Nat)) from by
       have hk' : k < s.parts[i].kids.length := by rw [← hKL]; exact hk
       exact ⟨s.parts[i].kids[k], hpw.kids _ (List.getElem_mem hk'), below_some hb (hkc0 k hk')⟩)
      have g1 : (((K : Nat) : Int) == 1) = false := by rw [beq_eq_false_iff_ne]; omega
      have g2 : (((KL : Nat) : Int) == 0) = false := by rw [beq_eq_false_iff_ne]; omega
      by_cases hk2' : K = 2
      · have hlin := HK2.out hk2'
        obtain ⟨K0, hK0⟩ : ∃ K0, K0 = s.parts[i].kids.getD 0 0 := ⟨_, rfl⟩
        have hl0 : 0 < s.parts[i].kids.length := by rw [← hKL]; exact hKL0
        have hK0m : K0 ∈ s.parts[i].kids := by rw [hK0]; exact getD_mem hl0
        have hK0i := hpw.kids _ hK0m
        have hK0p : K0 < s.parts.length := by omega
        have hK0n : K0 < NP := by rw [HNP.out]; exact hK0p
        have hk0w : wr.cell? ⟨bk, ok, none⟩ = some (.int .i64 (K0 : Nat)) := by
         have := hkc0 0 hl0
         rw [Nat.add_zero] at this
         rw [this, hK0, List.getD_eq_getElem?_getD, List.getElem?_eq_getElem hl0]
         rfl
        obtain ⟨SK, hSK⟩ : ∃ SK, SK = sz s.parts K0 := ⟨_, rfl⟩
        have HSK := hidI hSK
        have hFS : F + S ≤ SK := by rw [hF, hS, hSK, hK0]; exact hlin
        have q1 : decide (((F : Nat) : Int) < 0) = false := decide_eq_false (by omega)
        have q2 : decide (((SK : Nat) : Int) < ((F : Nat) : Int) + ((S : Nat) : Int)) = false := decide_eq_false (by omega)
        have q3 : decide (SK < F + S) = false := decide_eq_false (by omega)
        have hF8 : F ≤ 8192 := by rw [hF]; exact hpw.fst
        subst hk2'
        have hkA := hbk
        clear hS hD hF hCh hpw hkd hki hk1 hk2 hK HK2 HK5 hkc0 hne hlin hK0 hl0 hK0m hSK hKL hKb g1
        change ∀ j, j < 8 → wr.cell? ⟨g, off + i * 8 + j, none⟩ = (#[.int .i64 2, .int .i64 (S : Nat), .slice (some ⟨bk, ok, none⟩) KL Ck, .int .i64 (D : Nat), .int .i64 (F : Nat), .int .i64 (Ch : Nat), .slice A2 L2 C2, .slice A3 L3 C3] : Array Value)[j]? at hcl
        as_aux_lemma =>
         have P5 := Has.new wr 47 #[.int .i64 2, .int .i64 (S : Nat), .slice (some ⟨bk, ok, none⟩) KL Ck, .int .i64 (D : Nat), .int .i64 (F : Nat), .int .i64 (Ch : Nat), .slice A2 L2 C2, .slice A3 L3 C3]
         have hb5 := b_one wr (.cells #[.int .i64 2, .int .i64 (S : Nat), .slice (some ⟨bk, ok, none⟩) KL Ck, .int .i64 (D : Nat), .int .i64 (F : Nat), .int .i64 (Ch : Nat), .slice A2 L2 C2, .slice A3 L3 C3] 47)
         have S5 := Sr.below hb5 Sr.lt
         have hBw : Below W3.heap.size W3 (wr.alloc (.cells #[.int .i64 2, .int .i64 (S : Nat), .slice (some ⟨bk, ok, none⟩) KL Ck, .int .i64 (D : Nat), .int .i64 (F : Nat), .int .i64 (Ch : Nat), .slice A2 L2 C2, .slice A3 L3 C3] 47)) := Brw.trans (hb5.mono Brw.size)
         go_wp2_with (first
          | ((refine at_dstL 77 rfl ?_)
             (refine wpList_is (some 77) _ rfl (by rfl) (run_at_pt _ _ rfl g off i NP Cp rfl rfl hlt wr) ?_))
          | ((refine at_dstL 78 rfl ?_)
             (refine wpList_is (some 78) (.agg #[.int .i64 2, .int .i64 (S : Nat), .slice (some ⟨bk, ok, none⟩) KL Ck, .int .i64 (D : Nat), .int .i64 (F : Nat), .int .i64 (Ch : Nat), .slice A2 L2 C2, .slice A3 L3 C3]) rfl (by rfl) (run_load_pt _ rfl g (off + i * 8) rfl wr hcl) ?_)))
         have HSZ := hidI (fun W (hb : Below W3.heap.size W3 W) k (hk : k < s.parts.length) => below_some hb (hsz k hk))
         clear hcl Sr
         have HKD := hidI (HKDW.out _ hb5)
         have hk0c := below_some hb5 hk0w
         have hbk5 := Nat.lt_of_lt_of_le hkA hb5.size
         clear HKDW
         generalize hpb : wr.heap.size = pb at *
         generalize wr.alloc (.cells #[.int .i64 2, .int .i64 (S : Nat), .slice (some ⟨bk, ok, none⟩) KL Ck, .int .i64 (D : Nat), .int .i64 (F : Nat), .int .i64 (Ch : Nat), .slice A2 L2 C2, .slice A3 L3 C3] 47) = W5 at *
         have s0 := S5.cell 0
         have s1 := S5.cell 1
         have s2 := S5.cell 2
         have sl := S5.lt
         have p0 := P5.cell 0
         have p1 := P5.cell 1
         have p2 := P5.cell 2
         have p3 := P5.cell 3
         have p4 := P5.cell 4
         have pl := P5.lt
         simp only [ga1, gz1, gs1] at s0 s1 s2 p0 p1 p2 p3 p4
         go_quiet (fail)
         go_wp2
         go_loopw [11] (fun z wk => ∃ (k : Nat), z = .int .i64 (k : Nat) ∧ k ≤ KL ∧ Below W5.heap.size W5 wk) (fun z _ => KL - (intOf z).toNat)
         case atStart => exact ⟨0, rfl, Nat.zero_le _, bel_dn (Below.refl _ _) _⟩
         case round =>
          obtain ⟨k, rfl, hk, Bk⟩ := hrel
          replace s0 := below_some Bk s0
          replace s2 := below_some Bk s2
          replace p0 := below_some Bk p0
          replace p1 := below_some Bk p1
          replace p2 := below_some Bk p2
          replace p4 := below_some Bk p4
          replace sl := Nat.lt_of_lt_of_le sl Bk.size
          replace pl := Nat.lt_of_lt_of_le pl Bk.size
          have hBW : Below W3.heap.size W3 wr := hBw.trans (Bk.mono hBw.size)
          by_cases hkl : k < KL
          · obtain ⟨kv, hkv, hkc⟩ := HKD.out k hkl
            have kc := below_some Bk hkc
            have hki2 : (k : Int) < (KL : Int) := by omega
            have v1 : decide (((kv : Nat) : Int) < 0) = false := decide_eq_false (by omega)
            have v2 : decide (i ≤ kv) = false := decide_eq_false (by omega)
            go_wp2_with (first
             | ((refine at_dstL 139 rfl ?_)
                (refine wpList_is (some 139) _ rfl (by rfl) (run_at_kid _ _ rfl bk ok k KL Ck rfl rfl hkl wr) ?_))
             | ((refine at_dstL 146 rfl ?_)
                (refine wpList_is (some 146) _ rfl (by rfl) (run_at_kid _ _ rfl bk ok k KL Ck rfl rfl hkl wr) ?_)))
            go_roundw
            case rel => exact ⟨k + 1, by go_num, by omega, Bk⟩
            case measure => simp [intOf]; omega
          · obtain rfl : k = KL := by omega
            go_wp2
            have k0c := below_some Bk hk0c
            have szc := HSZ.out wr hBW K0 hK0p
            rw [← HSK.out] at szc
            have lgw : g < wr.heap.size := Nat.lt_of_lt_of_le hg3 hBW.size
            have lbk : bk < wr.heap.size := Nat.lt_of_lt_of_le hbk5 Bk.size
            go_quiet (fail)
            go_wp2
            go_roundw
            case rel => exact ⟨i + 1, by go_num, by omega, bel_dn hBW _⟩
            case measure => simp [intOf]; omega
      · by_cases hk5' : K = 5
        · have hsn := HK5.out hk5'
          rw [← hKL] at hsn
          have q1 : (((KL : Nat) : Int) == 2) = true := by rw [hsn]; rfl
          subst hk5'
          clear hS hD hF hCh hpw hkd hki hk1 hk2 hK HK2 HK5 hkc0 hne hKL hKb g1 hsn
          change ∀ j, j < 8 → wr.cell? ⟨g, off + i * 8 + j, none⟩ = (#[.int .i64 5, .int .i64 (S : Nat), .slice (some ⟨bk, ok, none⟩) KL Ck, .int .i64 (D : Nat), .int .i64 (F : Nat), .int .i64 (Ch : Nat), .slice A2 L2 C2, .slice A3 L3 C3] : Array Value)[j]? at hcl
          as_aux_lemma =>
           have P5 := Has.new wr 47 #[.int .i64 5, .int .i64 (S : Nat), .slice (some ⟨bk, ok, none⟩) KL Ck, .int .i64 (D : Nat), .int .i64 (F : Nat), .int .i64 (Ch : Nat), .slice A2 L2 C2, .slice A3 L3 C3]
           have hb5 := b_one wr (.cells #[.int .i64 5, .int .i64 (S : Nat), .slice (some ⟨bk, ok, none⟩) KL Ck, .int .i64 (D : Nat), .int .i64 (F : Nat), .int .i64 (Ch : Nat), .slice A2 L2 C2, .slice A3 L3 C3] 47)
           have S5 := Sr.below hb5 Sr.lt
           have hBw : Below W3.heap.size W3 (wr.alloc (.cells #[.int .i64 5, .int .i64 (S : Nat), .slice (some ⟨bk, ok, none⟩) KL Ck, .int .i64 (D : Nat), .int .i64 (F : Nat), .int .i64 (Ch : Nat), .slice A2 L2 C2, .slice A3 L3 C3] 47)) := Brw.trans (hb5.mono Brw.size)
           go_wp2_with (first
            | ((refine at_dstL 77 rfl ?_)
               (refine wpList_is (some 77) _ rfl (by rfl) (run_at_pt _ _ rfl g off i NP Cp rfl rfl hlt wr) ?_))
            | ((refine at_dstL 78 rfl ?_)
               (refine wpList_is (some 78) (.agg #[.int .i64 5, .int .i64 (S : Nat), .slice (some ⟨bk, ok, none⟩) KL Ck, .int .i64 (D : Nat), .int .i64 (F : Nat), .int .i64 (Ch : Nat), .slice A2 L2 C2, .slice A3 L3 C3]) rfl (by rfl) (run_load_pt _ rfl g (off + i * 8) rfl wr hcl) ?_)))
           have HSZ := hidI (fun W (hb : Below W3.heap.size W3 W) k (hk : k < s.parts.length) => below_some hb (hsz k hk))
           clear hcl Sr
           have HKD := hidI (HKDW.out _ hb5)
           clear HKDW
           generalize hpb : wr.heap.size = pb at *
           generalize wr.alloc (.cells #[.int .i64 5, .int .i64 (S : Nat), .slice (some ⟨bk, ok, none⟩) KL Ck, .int .i64 (D : Nat), .int .i64 (F : Nat), .int .i64 (Ch : Nat), .slice A2 L2 C2, .slice A3 L3 C3] 47) = W5 at *
           have s0 := S5.cell 0
           have s1 := S5.cell 1
           have s2 := S5.cell 2
           have sl := S5.lt
           have p0 := P5.cell 0
           have p1 := P5.cell 1
           have p2 := P5.cell 2
           have p3 := P5.cell 3
           have p4 := P5.cell 4
           have pl := P5.lt
           simp only [ga1, gz1, gs1] at s0 s1 s2 p0 p1 p2 p3 p4
           go_quiet (fail)
           go_wp2
           go_loopw [11] (fun z wk => ∃ (k : Nat), z = .int .i64 (k : Nat) ∧ k ≤ KL ∧ Below W5.heap.size W5 wk) (fun z _ => KL - (intOf z).toNat)
           case atStart => exact ⟨0, rfl, Nat.zero_le _, bel_dn (Below.refl _ _) _⟩
           case round =>
            obtain ⟨k, rfl, hk, Bk⟩ := hrel
            replace s0 := below_some Bk s0
            replace s2 := below_some Bk s2
            replace p0 := below_some Bk p0
            replace p1 := below_some Bk p1
            replace p2 := below_some Bk p2
            replace p4 := below_some Bk p4
            replace sl := Nat.lt_of_lt_of_le sl Bk.size
            replace pl := Nat.lt_of_lt_of_le pl Bk.size
            have hBW : Below W3.heap.size W3 wr := hBw.trans (Bk.mono hBw.size)
            by_cases hkl : k < KL
            · obtain ⟨kv, hkv, hkc⟩ := HKD.out k hkl
              have kc := below_some Bk hkc
              have hki2 : (k : Int) < (KL : Int) := by omega
              have v1 : decide (((kv : Nat) : Int) < 0) = false := decide_eq_false (by omega)
              have v2 : decide (i ≤ kv) = false := decide_eq_false (by omega)
              go_wp2_with (first
               | ((refine at_dstL 139 rfl ?_)
                  (refine wpList_is (some 139) _ rfl (by rfl) (run_at_kid _ _ rfl bk ok k KL Ck rfl rfl hkl wr) ?_))
               | ((refine at_dstL 146 rfl ?_)
                  (refine wpList_is (some 146) _ rfl (by rfl) (run_at_kid _ _ rfl bk ok k KL Ck rfl rfl hkl wr) ?_)))
              go_roundw
              case rel => exact ⟨k + 1, by go_num, by omega, Bk⟩
              case measure => simp [intOf]; omega
            · obtain rfl : k = KL := by omega
              go_wp2
              go_quiet (fail)
              go_wp2
              go_roundw
              case rel => exact ⟨i + 1, by go_num, by omega, bel_dn hBW _⟩
              case measure => simp [intOf]; omega
        · have q2 : (((K : Nat) : Int) == 2) = false := by rw [beq_eq_false_iff_ne]; omega
          have q1 : (((K : Nat) : Int) != 1) = true := by rw [bne_iff_ne]; omega
          have q0 : ¬ ((K : Nat) : Int) = 1 := by omega
          have q5 : (((K : Nat) : Int) == 5) = false := by rw [beq_eq_false_iff_ne]; omega
          clear hS hD hF hCh hpw hkd hki hk1 hk2 hK HK2 HK5 hkc0 hne hKL hKb hk2' hk5'
          as_aux_lemma =>
           have P5 := Has.new wr 47 #[.int .i64 (K : Nat), .int .i64 (S : Nat), .slice (some ⟨bk, ok, none⟩) KL Ck, .int .i64 (D : Nat), .int .i64 (F : Nat), .int .i64 (Ch : Nat), .slice A2 L2 C2, .slice A3 L3 C3]
           have hb5 := b_one wr (.cells #[.int .i64 (K : Nat), .int .i64 (S : Nat), .slice (some ⟨bk, ok, none⟩) KL Ck, .int .i64 (D : Nat), .int .i64 (F : Nat), .int .i64 (Ch : Nat), .slice A2 L2 C2, .slice A3 L3 C3] 47)
           have S5 := Sr.below hb5 Sr.lt
           have hBw : Below W3.heap.size W3 (wr.alloc (.cells #[.int .i64 (K : Nat), .int .i64 (S : Nat), .slice (some ⟨bk, ok, none⟩) KL Ck, .int .i64 (D : Nat), .int .i64 (F : Nat), .int .i64 (Ch : Nat), .slice A2 L2 C2, .slice A3 L3 C3] 47)) := Brw.trans (hb5.mono Brw.size)
           go_wp2_with (first
            | ((refine at_dstL 77 rfl ?_)
               (refine wpList_is (some 77) _ rfl (by rfl) (run_at_pt _ _ rfl g off i NP Cp rfl rfl hlt wr) ?_))
            | ((refine at_dstL 78 rfl ?_)
               (refine wpList_is (some 78) (.agg #[.int .i64 (K : Nat), .int .i64 (S : Nat), .slice (some ⟨bk, ok, none⟩) KL Ck, .int .i64 (D : Nat), .int .i64 (F : Nat), .int .i64 (Ch : Nat), .slice A2 L2 C2, .slice A3 L3 C3]) rfl (by rfl) (run_load_pt _ rfl g (off + i * 8) rfl wr hcl) ?_)))
           have HSZ := hidI (fun W (hb : Below W3.heap.size W3 W) k (hk : k < s.parts.length) => below_some hb (hsz k hk))
           clear hcl Sr
           have HKD := hidI (HKDW.out _ hb5)
           clear HKDW
           generalize hpb : wr.heap.size = pb at *
           generalize wr.alloc (.cells #[.int .i64 (K : Nat), .int .i64 (S : Nat), .slice (some ⟨bk, ok, none⟩) KL Ck, .int .i64 (D : Nat), .int .i64 (F : Nat), .int .i64 (Ch : Nat), .slice A2 L2 C2, .slice A3 L3 C3] 47) = W5 at *
           have s0 := S5.cell 0
           have s1 := S5.cell 1
           have s2 := S5.cell 2
           have sl := S5.lt
           have p0 := P5.cell 0
           have p1 := P5.cell 1
           have p2 := P5.cell 2
           have p3 := P5.cell 3
           have p4 := P5.cell 4
           have pl := P5.lt
           simp only [ga1, gz1, gs1] at s0 s1 s2 p0 p1 p2 p3 p4
           go_quiet (fail)
           go_wp2
           go_loopw [11] (fun z wk => ∃ (k : Nat), z = .int .i64 (k : Nat) ∧ k ≤ KL ∧ Below W5.heap.size W5 wk) (fun z _ => KL - (intOf z).toNat)
           case atStart => exact ⟨0, rfl, Nat.zero_le _, bel_dn (Below.refl _ _) _⟩
           case round =>
            obtain ⟨k, rfl, hk, Bk⟩ := hrel
            replace s0 := below_some Bk s0
            replace s2 := below_some Bk s2
            replace p0 := below_some Bk p0
            replace p1 := below_some Bk p1
            replace p2 := below_some Bk p2
            replace p4 := below_some Bk p4
            replace sl := Nat.lt_of_lt_of_le sl Bk.size
            replace pl := Nat.lt_of_lt_of_le pl Bk.size
            have hBW : Below W3.heap.size W3 wr := hBw.trans (Bk.mono hBw.size)
            by_cases hkl : k < KL
            · obtain ⟨kv, hkv, hkc⟩ := HKD.out k hkl
              have kc := below_some Bk hkc
              have hki2 : (k : Int) < (KL : Int) := by omega
              have v1 : decide (((kv : Nat) : Int) < 0) = false := decide_eq_false (by omega)
              have v2 : decide (i ≤ kv) = false := decide_eq_false (by omega)
              go_wp2_with (first
               | ((refine at_dstL 139 rfl ?_)
                  (refine wpList_is (some 139) _ rfl (by rfl) (run_at_kid _ _ rfl bk ok k KL Ck rfl rfl hkl wr) ?_))
               | ((refine at_dstL 146 rfl ?_)
                  (refine wpList_is (some 146) _ rfl (by rfl) (run_at_kid _ _ rfl bk ok k KL Ck rfl rfl hkl wr) ?_)))
              go_roundw
              case rel => exact ⟨k + 1, by go_num, by omega, Bk⟩
              case measure => simp [intOf]; omega
            · obtain rfl : k = KL := by omega
              go_wp2
              go_quiet (fail)
              go_wp2
              go_roundw
              case rel => exact ⟨i + 1, by go_num, by omega, bel_dn hBW _⟩
              case measure => simp [intOf]; omega
  · obtain rfl : NP = i := by omega
    go_wp2
    have s3 := Sr.cell 3
    simp only [ga1, gz1, gs1] at s3
    obtain ⟨SX, hSX⟩ : ∃ SX, SX = sz s.parts X := ⟨_, rfl⟩
    have hXp : X < s.parts.length := by rw [← HNP.out]; exact hXn
    have sx : wr.cell? ⟨g, off + X * 8 + 1, none⟩ = some (.int .i64 (SX : Nat)) := by rw [hSX]; exact below_some Brw (hsz X hXp)
    obtain ⟨rg, hrg⟩ : ∃ rg, rg = Regs s.parts (X : Nat) 0 (SX : Nat) := ⟨_, rfl⟩
    have hrg' : rg = Regs s.parts s.expo 0 (sz s.parts s.expo) := by rw [hrg, hSX, HX.out]
    have HR1 := hidI hsw.reg
    have HR2 := hidI hsw.some'
    have HR3 := hidI hsw.le
    have HR4 := hidI hsw.apart
    rw [← hrg'] at HR1 HR2 HR3 HR4
    have hXok := hsw.expo.2
    rw [← HX.out, ← hSX] at hXok
    have hreg := fun W (hb : Below wr.heap.size wr W) => regions_c ((hPt.up Brw).up hb) ⟨hCp1, hCp2⟩ hsw.wf (.slice (some ⟨gd, od, none⟩) DL Cd) (.int .i64 (J : Nat)) (.int .i64 (X : Nat)) (.bool s.ro) (X : Nat) 0 (SX : Nat) (by unfold i64ok; omega) (by unfold i64ok; omega) (by unfold i64ok; omega)
    rw [← HNP.out, ← hrg] at hreg
    have HDV := hidI hdv
    clear hrg hrg' hSX
    refine wp_region_held_drew (S := fun wz => Below wr.heap.size wr wz) (by kernel_rfl) ((Below.refl _ wr).drew) (fun hHeld => ?_)
    refine tkT 0 (some 198) (.agg #[.slice (some ⟨gd, od, none⟩) DL Cd, .int .i64 (J : Nat), .slice (some ⟨g, off, none⟩) NP Cp, .int .i64 (X : Nat), .bool s.ro]) rfl rfl (fun wz hz => run_load_stk5 _ rfl sb rfl wz (Sr.below hz Sr.lt)) hHeld ?_
    simp only [Act.put, sb1, sz1, ss1]
    refine tkT 1 (some 199) (.pointer (some ⟨sb, 3, none⟩)) rfl rfl (fun _ _ => rfl) hHeld ?_
    simp only [Act.put, sb1, sz1, ss1]
    refine tkT 2 (some 200) (.int .i64 (X : Nat)) rfl rfl (fun wz hz => by have z0 := below_some hz s3; unfold execOp; go_simp) hHeld ?_
    simp only [Act.put, sb1, sz1, ss1]
    refine tkT 3 (some 201) (.pointer (some ⟨sb, 2, none⟩)) rfl rfl (fun _ _ => rfl) hHeld ?_
    simp only [Act.put, sb1, sz1, ss1]
    refine tkT 4 (some 202) (.slice (some ⟨g, off, none⟩) NP Cp) rfl rfl (fun wz hz => by have z0 := below_some hz s2; unfold execOp; go_simp) hHeld ?_
    simp only [Act.put, sb1, sz1, ss1]
    refine tkT 5 (some 203) (.pointer (some ⟨sb, 3, none⟩)) rfl rfl (fun _ _ => rfl) hHeld ?_
    simp only [Act.put, sb1, sz1, ss1]
    refine tkT 6 (some 204) (.int .i64 (X : Nat)) rfl rfl (fun wz hz => by have z0 := below_some hz s3; unfold execOp; go_simp) hHeld ?_
    simp only [Act.put, sb1, sz1, ss1]
    refine tkT 7 (some 205) (.pointer (some ⟨g, off + X * 8, none⟩)) rfl rfl (fun wz _ => run_at_pt _ _ rfl g off X NP Cp rfl rfl hXn wz) hHeld ?_
    simp only [Act.put, sb1, sz1, ss1]
    refine tkT 8 (some 206) (.pointer (some ⟨g, off + X * 8 + 1, none⟩)) rfl rfl (fun _ _ => rfl) hHeld ?_
    simp only [Act.put, sb1, sz1, ss1]
    refine tkT 9 (some 207) (.int .i64 (SX : Nat)) rfl rfl (fun wz hz => by have z0 := below_some hz sx; unfold execOp; go_simp) hHeld ?_
    simp only [Act.put, sb1, sz1, ss1]
    refine callToP 10 (some 208) 15 #[.agg #[.slice (some ⟨gd, od, none⟩) DL Cd, .int .i64 (J : Nat), .slice (some ⟨g, off, none⟩) NP Cp, .int .i64 (X : Nat), .bool s.ro], .int .i64 (X : Nat), .int .i64 0, .int .i64 (SX : Nat)] (by kernel_rfl) rfl rfl (by rfl) (by kernel_rfl) (hreg _ (below_drew (Below.refl _ wr))) ?_
    rintro e w4 ⟨v, rfl, hrg, hb4', hl257⟩
    have hb4 : Below wr.heap.size wr w4 := (below_drew (Below.refl _ wr)).trans hb4'
    obtain ⟨Ar, Cr, rfl, hr1, hr2, hrn⟩ := hrg.rng
    refine .inl ⟨_, rfl, hb4, ?_⟩
    simp only [Act.put, sb1, sz1, ss1]
    refine tkT 11 (some 12) (.slice Ar rg.length Cr) rfl rfl (fun _ _ => rfl) hb4 ?_
    simp only [Act.put, sb1, sz1, ss1]
    refine wpAnyH_done (by kernel_rfl) ?_ _
    have hB4 : Below W3.heap.size W3 w4 := Brw.trans (hb4.mono Brw.size)
    obtain ⟨RL, hRL⟩ : ∃ RL, RL = rg.length := ⟨_, rfl⟩
    have HRL := hidI hRL
    have hov := Overlap_c Ar rg.length Cr (rgF rg)
    have HOV := hidI (fun i j h => overl_ov (l := rg) (i := i) (j := j) h)
    rw [HR4.out] at HOV
    have HR0 : 0 < RL := by rw [hRL]; exact HR2.out
    have HR5 : RL ≤ 256 := by rw [hRL]; exact HR3.out
    obtain ⟨gr, orr, eAr, hgr, hcr⟩ := hrn.resolve_left (by omega)
    subst eAr
    rw [← hRL] at hr1 hl257 hov HOV hrn hcr ⊢
    have h0r : (0 : Int) < (RL : Int) := by omega
    clear hrg hb4' hHeld hreg hRL s2 s3 sl sx Sr
    go_wp2
    go_loopw [13] (fun z wr => ∃ (i : Nat), z = .int .i64 (i : Nat) ∧ i ≤ RL ∧ Below w4.heap.size w4 wr) (fun z _ => RL - (intOf z).toNat)
    case atStart => exact ⟨0, rfl, Nat.zero_le _, Below.refl _ _⟩
    case round =>
     obtain ⟨m, rfl, hm, Bm⟩ := hrel
     have hBm : Below W3.heap.size W3 wr := hB4.trans (Bm.mono hB4.size)
     have Sm := S3.below hBm S3.lt
     by_cases hml : m < RL
     · have hmi : (m : Int) < (RL : Int) := by omega
       have hm' : m < rg.length := by rw [← HRL.out]; exact hml
       obtain ⟨c0, c1, c2⟩ := hcr m hml
       have eF : rgF rg m = rg[m] := by unfold rgF; rw [List.getD_eq_getElem?_getD, List.getElem?_eq_getElem hm']; rfl
       obtain ⟨d, hd, hd1, hd2, hf, hc, hfc⟩ := HR1.out _ (List.getElem_mem hm')
       rw [← eF] at hd hf hc hfc
       have dz := below_some hBm (hdv d hd1)
       replace c0 := below_some Bm c0
       replace c1 := below_some Bm c1
       replace c2 := below_some Bm c2
       generalize (rgF rg m).f = Rf at *
       generalize (rgF rg m).c = Rc at *
       rw [hd] at c0
       obtain ⟨DZ, hDZ⟩ : ∃ DZ, DZ = s.devs.getD d 0 := ⟨_, rfl⟩
       rw [← hDZ] at dz hfc
       have hdn : d < DL := by rw [HDL.out]; exact hd1
       have hdJ : ¬ d = J := by rw [HJ.out]; exact hd2
       have hDZ8 : DZ ≤ 2048 := by
        rw [hDZ, List.getD_eq_getElem?_getD, List.getElem?_eq_getElem hd1]
        exact hsw.dsz _ (List.getElem_mem hd1)
       have t0 := Sm.cell 0
       have t1 := Sm.cell 1
       have tl := Sm.lt
       simp only [ga1, gz1, gs1] at t0 t1
       have x1 : decide (((d : Nat) : Int) < 0) = false := decide_eq_false (by omega)
       have x2 : decide (DL ≤ d) = false := decide_eq_false (by omega)
       have x3 : (((d : Nat) : Int) == ((J : Nat) : Int)) = false := by rw [beq_eq_false_iff_ne]; omega
       have x4 : decide (Rf < 0) = false := decide_eq_false (by omega)
       have x5 : decide (Rc < 1) = false := decide_eq_false (by omega)
       have x6 : decide (((DZ : Nat) : Int) < IntKind.i64.wrap (Rf + Rc)) = false := by rw [IntWalk.i64_in _ (by omega)]; exact decide_eq_false (by omega)
       have lgr : gr < wr.heap.size := Nat.lt_of_lt_of_le hgr Bm.size
       have lgd : gd < wr.heap.size := Nat.lt_of_lt_of_le hgd3 hBm.size
       clear hDZ hd hd1 hd2 eF Sm
       as_aux_lemma =>
        go_wp2
        go_quiet (fail)
        go_wp2
        go_roundw
        case rel => exact ⟨m + 1, by go_num, by omega, bel_dn Bm _⟩
        case measure => simp [intOf]; omega
     · obtain rfl : RL = m := by omega
       have hovm := hov wr (by omega) hr1 hr2 (hrn.below Bm (Nat.le_refl _))
       go_wp2_with (first
        | ((go_at_call 17)
           (refine hovm.mono ?_)
           (rintro e w5 ⟨oi, oj, rfl, ho, hb5⟩)
           (have ho1 : oi = -1 := by
             rcases ho with ⟨q, _⟩ | ⟨qa, qb, q, _⟩
             · exact q
             · have := HOV.out oi oj (.inr ⟨qa, qb, q, by assumption⟩)
               rw [q] at this
               have := of_decide_eq_true this
               omega)
           (subst ho1))
        | ((go_at_call 14)
           (refine (alive13_c _).mono ?_)
           (rintro e w6 ⟨rfl, hb6⟩)))
       go_ret
       exact ⟨rfl, ((hB03.trans (hBm.mono hB03.size)).trans (hb5.mono (Nat.le_trans hB03.size hBm.size))).trans (hb6.mono (by have := hB03.size; have := hBm.size; have := hb5.size; omega))⟩
theorem checkWhole_c (x : List UInt8) (w : World) (hx : x.length ≤ maxLen) : Calls Tryz.prog 5 #[.string (bs x)] w fun e w' => e = .returned (.bool true) ∧ Below w.heap.size w w' := by
 cases h : CheckOf (PT x) with
 | error er => obtain ⟨ec, ek⟩ := er; exact cw_err x w hx h
 | ok s => exact cw_ok x w hx h
end
end Go.Proofs.YthndifegfmjpbaaGreatDoor
