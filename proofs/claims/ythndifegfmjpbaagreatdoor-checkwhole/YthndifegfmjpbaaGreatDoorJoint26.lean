/- Texts that the statements of this stage share, joined. -/
import Derived.Test.YthndifegfmjpbaaGreatDoorJoint25
namespace Go.Proofs.YthndifegfmjpbaaGreatDoor
set_option linter.unusedVariables false
set_option maxRecDepth 100000
set_option maxHeartbeats 40000000
section
open Go.ChangeShapes Go.WideShapes Go.ChangeAt Go.RowKit Go.MapKept
variable {E : Nat → Prop}
def sumTo (ps : List Pt) (ks : List Nat) (i : Nat) : Nat := ((ks.take i).map (sz ps)).sum
def alkTo (ps : List Pt) (ks : List Nat) (i : Nat) : Bool := (ks.take i).all fun k => sz ps k == sz ps (ks.getD 0 0)
theorem sumTo_succ (ps : List Pt) (ks : List Nat) {i : Nat} (h : i < ks.length) : sumTo ps ks (i + 1) = sumTo ps ks i + sz ps ks[i] := by
 unfold sumTo
 rw [List.take_succ_eq_append_getElem h, List.map_append, List.sum_append]
 rfl
theorem alkTo_succ (ps : List Pt) (ks : List Nat) {i : Nat} (h : i < ks.length) : alkTo ps ks (i + 1) = (alkTo ps ks i && (sz ps ks[i] == sz ps (ks.getD 0 0))) := by
 unfold alkTo
 rw [List.take_succ_eq_append_getElem h, List.all_append]
 simp only [List.all_cons, List.all_nil, Bool.and_true]
theorem sumTo_le (ps : List Pt) (ks : List Nat) (hk : ∀ k ∈ ks, sz ps k ≤ 8192) (i : Nat) : sumTo ps ks i ≤ i * 8192 := by
 unfold sumTo
 have : ∀ l : List Nat, (∀ k ∈ l, sz ps k ≤ 8192) → (l.map (sz ps)).sum ≤ l.length * 8192 := by
  intro l
  induction l with
  | nil => intro _; simp
  | cons a l ih =>
    intro h
    have h1 := h a (by simp)
    have h2 := ih (fun k hk => h k (by simp [hk]))
    simp only [List.map_cons, List.sum_cons, List.length_cons]
    omega
 have h1 := this (ks.take i) (fun k h => hk k (List.mem_of_mem_take h))
 have h2 : (ks.take i).length ≤ i := by simp; omega
 exact Nat.le_trans h1 (Nat.mul_le_mul_right 8192 h2)
theorem alike_sum (ps : List Pt) (s : Nat) : ∀ (l : List Nat), (l.all fun k => sz ps k == s) = true → (l.map (sz ps)).sum = s * l.length := by
 intro l
 induction l with
 | nil => intro _; rfl
 | cons a l ih =>
   intro h
   simp only [List.all_cons, Bool.and_eq_true, beq_iff_eq] at h
   simp only [List.map_cons, List.sum_cons, List.length_cons, ih h.2, h.1]
   rw [Nat.mul_succ]
   omega
theorem several_c {w : World} {cb : Nat} {V : CV} {c : Ck} (h : CkAt E w cb V c) (n : Nd) (A : Option Addr) (L C : Nat) (ks : List Nat) {P : Nat → Prop} (Ak : Option Addr) (Ck : Nat) (hK : IntsP w P Ak ks) (hl2 : 2 ≤ ks.length) (hl4 : ks.length ≤ 4) (hCk : ks.length ≤ Ck) (hCm : Ck ≤ maxLen) (hok : ∀ k ∈ ks, k < c.parts.length ∧ sz c.parts k ≤ 8192) :
  Calls Tryz.prog 161 #[.pointer (some ⟨cb, 0, none⟩), .agg (ndc n (.slice A L C)), .slice Ak ks.length Ck] w (PtRes w (noK (csev c.parts n ks))) := by
 have hk0 : 0 < ks.length := by omega
 have hp0 : 0 < c.parts.length := by have := (hok _ (List.getElem_mem hk0)).1; omega
 obtain ⟨g, op, Cp, evp, hCp1, hCp2, hg, hSz⟩ := h.vp hp0
 obtain ⟨bk, ok, rfl, hbk, -, hcells⟩ : ∃ b off, Ak = some ⟨b, off, none⟩ ∧ b < w.heap.size ∧ P b ∧ ∀ j (h : j < ks.length), w.cell? ⟨b, off + j, none⟩ = some (.int .i64 (ks[j] : Nat)) := by
  rcases hK with h | h
  · rw [h] at hk0; simp at hk0
  · exact h
 have hgd : ks.getD 0 0 = ks[0] := by rw [List.getD_eq_getElem?_getD, List.getElem?_eq_getElem hk0]; rfl
 obtain ⟨W2, hW2⟩ : ∃ W2, W2 = (w.alloc (.cells #[.string (bs n.op), .string (bs n.s), .int .i64 n.n, .int .i64 n.a, .slice A L C] 24)).alloc (.cells #[.int .i64 0, .int .i64 0, .slice none 0 0, .int .i64 0, .int .i64 0, .int .i64 0, .slice none 0 0, .slice none 0 0] 47) := ⟨_, rfl⟩
 have hb2 : Below w.heap.size w W2 := by rw [hW2]; exact b_two w _ _
 have P2 : Has W2 (w.heap.size + 1) 47 #[.int .i64 0, .int .i64 0, .slice none 0 0, .int .i64 0, .int .i64 0, .int .i64 0, .slice none 0 0, .slice none 0 0] := by rw [hW2]; exact Has.new_at (by simp)
 have N2 : Has W2 w.heap.size 24 #[.string (bs n.op), .string (bs n.s), .int .i64 n.n, .int .i64 n.a, .slice A L C] := by rw [hW2]; exact (Has.new w _ _).alloc _
 have c2 := h.has.cell 2
 simp only [List.getElem?_toArray, List.getElem?_cons_zero, List.getElem?_cons_succ, evp] at c2
 have lcb := h.has.lt
 have hsum := sumTo_le c.parts ks (fun k hk => (hok k hk).2)
 have HW : Hid (W2 = (w.alloc (.cells #[.string (bs n.op), .string (bs n.s), .int .i64 n.n, .int .i64 n.a, .slice A L C] 24)).alloc (.cells #[.int .i64 0, .int .i64 0, .slice none 0 0, .int .i64 0, .int .i64 0, .int .i64 0, .slice none 0 0, .slice none 0 0] 47)) := hW2
 have hot := bs_toList n.op
 have HSU : Hid (∀ i (h : i < ks.length), sumTo c.parts ks (i + 1) = sumTo c.parts ks i + sz c.parts ks[i]) := fun i h => sumTo_succ _ _ h
 have HAL : Hid (∀ i (h : i < ks.length), alkTo c.parts ks (i + 1) = (alkTo c.parts ks i && (sz c.parts ks[i] == sz c.parts (ks.getD 0 0)))) := fun i h => alkTo_succ _ _ h
 have HR : Hid (csev c.parts n ks = if n.op = wConcat then (if sumTo c.parts ks ks.length ≤ 8192 then .ok ⟨3, sumTo c.parts ks ks.length, ks, 0, 0, 0, [], []⟩ else .error (134, n.a)) else if alkTo c.parts ks ks.length = true then .ok ⟨4, sz c.parts (ks.getD 0 0), ks, 0, 0, 0, [], []⟩ else .error (134, n.a)) := by
  show csev c.parts n ks = _
  unfold csev sumTo alkTo
  rw [List.take_length]
 have HAS : Hid (alkTo c.parts ks ks.length = true → sumTo c.parts ks ks.length = sz c.parts (ks.getD 0 0) * ks.length) := by
  unfold sumTo alkTo
  rw [List.take_length]
  exact alike_sum _ _ _
 have HSz : Hid (∀ k ∈ ks, k < c.parts.length ∧ sz c.parts k ≤ 8192) := hok
 obtain ⟨NP, hNP⟩ : ∃ NP, NP = c.parts.length := ⟨_, rfl⟩
 have HNP : Hid (NP = c.parts.length) := hNP
 rw [← hNP] at hCp1 c2 evp
 obtain ⟨Lk, hLk⟩ : ∃ Lk, Lk = ks.length := ⟨_, rfl⟩
 have HLk : Hid (Lk = ks.length) := hLk
 rw [← hLk] at hl2 hl4 hCk hk0 ⊢
 obtain ⟨D, hD⟩ : ∃ D : Nat → Nat, D = sumTo c.parts ks := ⟨_, rfl⟩
 obtain ⟨E, hE⟩ : ∃ E : Nat → Bool, E = alkTo c.parts ks := ⟨_, rfl⟩
 have hD0 : D 0 = 0 := by rw [hD]; rfl
 have hE0 : E 0 = true := by rw [hE]; rfl
 rw [← hD] at HSU HR HAS hsum
 rw [← hE] at HAL HR HAS
 unfold ndc
 clear hW2 hNP hLk hD hE hok hK h hp0
 have hL0 : 0 < Lk := hk0
 go_enter Tryz.func161, Tryz.ntmps161
 go_wp2
 rw [← HW.out]
 go_loopw [7, 8, 13] (fun z7 z8 z13 wr => ∃ i : Nat, z7 = .int .i64 (D i : Nat) ∧ z8 = .bool (E i) ∧ z13 = .int .i64 (i : Nat) ∧ i ≤ Lk ∧ Below W2.heap.size W2 wr) (fun _ _ z _ => Lk - (intOf z).toNat)
 case atStart => exact ⟨0, by rw [hD0]; rfl, by rw [hE0], rfl, Nat.zero_le _, Below.refl _ _⟩
 case round =>
  obtain ⟨i, rfl, rfl, rfl, hi, hB⟩ := hrel
  have hD4 := hsum i
  by_cases hlt : i < Lk
  · have hlt' : i < ks.length := by rw [← HLk.out]; exact hlt
    have hk0' : 0 < ks.length := by rw [← HLk.out]; exact hL0
    have hB0 : Below w.heap.size w wr := hb2.trans (hB.mono hb2.size)
    have cki := below_some hB0 (hcells i hlt')
    have k0r := below_some hB0 (hcells 0 hk0')
    have c2r := below_some hB0 c2
    obtain ⟨hKn', hSle⟩ := HSz.out _ (List.getElem_mem hlt')
    obtain ⟨hK0n', hS0le⟩ := HSz.out _ (List.getElem_mem hk0')
    have sKr := hSz.below hB0 hg _ hKn'
    have s0r := hSz.below hB0 hg _ hK0n'
    have HSi := HSU.out i hlt'
    have HAi := HAL.out i hlt'
    rw [hgd] at HAi
    rw [← HNP.out] at hKn' hK0n'
    have lcr : cb < wr.heap.size := Nat.lt_of_lt_of_le lcb hB0.size
    have lbk : bk < wr.heap.size := Nat.lt_of_lt_of_le hbk hB0.size
    have lg : g < wr.heap.size := Nat.lt_of_lt_of_le hg hB0.size
    generalize sz c.parts ks[i] = S at *
    generalize sz c.parts ks[0] = S0 at *
    generalize ks[i] = K at *
    generalize ks[0] = K0 at *
    have hKn : K < NP := hKn'
    have hK0n : K0 < NP := hK0n'
    have HI1 : Hid (D (i + 1) = D i + S) := HSi
    have HI2 : Hid (E (i + 1) = (E i && (S == S0))) := HAi
    clear HSi HAi hKn' hK0n'
    obtain ⟨T, hT⟩ : ∃ T, T = D i := ⟨_, rfl⟩
    obtain ⟨B, hB'⟩ : ∃ B, B = E i := ⟨_, rfl⟩
    rw [← hT] at HI1 hD4 ⊢
    rw [← hB'] at HI2 ⊢
    have hTb : T ≤ 40000 := by omega
    clear hT hB' hD4
    have hint : (i : Int) < (Lk : Int) := by omega
    have hKint : (K : Int) < (NP : Int) := by omega
    cases B with
    | true =>
      go_wp2_with (first
       | ((refine at_dstL 15 rfl ?_)
          (refine wpList_is (some 15) _ rfl (by rfl) (run_at_kid _ _ rfl bk ok i Lk Ck rfl rfl hlt wr) ?_))
       | ((refine at_dstL 24 rfl ?_)
          (refine wpList_is (some 24) _ rfl (by rfl) (run_at_pt _ _ rfl g op K NP Cp rfl rfl hKn wr) ?_)))
      refine wp_region_held_drew (S := fun wz => wz.cell? ⟨cb, 2, none⟩ = some (.slice (some ⟨g, op, none⟩) NP Cp) ∧ wz.cell? ⟨bk, ok, none⟩ = some (.int .i64 (K0 : Nat)) ∧ wz.cell? ⟨g, op + K * 8 + 1, none⟩ = some (.int .i64 (S : Nat)) ∧ wz.cell? ⟨g, op + K0 * 8 + 1, none⟩ = some (.int .i64 (S0 : Nat))) (by kernel_rfl) (⟨c2r, k0r, sKr, s0r⟩) (fun hHeld => ?_)
      refine tkT 0 (some 28) (.bool true) rfl rfl (fun _ _ => rfl) hHeld ?_
      simp only [Act.put, sb1, sz1, ss1]
      refine tkT 1 (some 29) (.bool true) rfl rfl (fun _ _ => rfl) hHeld ?_
      simp only [Act.put, sb1, sz1, ss1]
      refine tkT 2 (some 30) (.pointer (some ⟨cb, 0, none⟩)) rfl rfl (fun _ _ => rfl) hHeld ?_
      simp only [Act.put, sb1, sz1, ss1]
      refine tkT 3 (some 31) (.pointer (some ⟨cb, 0, none⟩)) rfl rfl (fun _ _ => rfl) hHeld ?_
      simp only [Act.put, sb1, sz1, ss1]
      refine tkT 4 (some 32) (.pointer (some ⟨cb, 0, none⟩)) rfl rfl (fun _ _ => rfl) hHeld ?_
      simp only [Act.put, sb1, sz1, ss1]
      refine tkT 5 (some 33) (.pointer (some ⟨cb, 2, none⟩)) rfl rfl (fun _ _ => rfl) hHeld ?_
      simp only [Act.put, sb1, sz1, ss1]
      refine tkT 6 (some 34) (.slice (some ⟨g, op, none⟩) NP Cp) rfl rfl (fun wz hz => by obtain ⟨z0, z1, z2, z3⟩ := hz; unfold execOp; go_simp) hHeld ?_
      simp only [Act.put, sb1, sz1, ss1]
      refine tkT 7 (some 35) (.int .i64 (K : Nat)) rfl rfl (fun _ _ => rfl) hHeld ?_
      simp only [Act.put, sb1, sz1, ss1]
      refine tkT 8 (some 36) (.pointer (some ⟨g, op + K * 8, none⟩)) rfl rfl (fun wz _ => run_at_pt _ _ rfl g op K NP Cp rfl rfl hKn wz) hHeld ?_
      simp only [Act.put, sb1, sz1, ss1]
      refine tkT 9 (some 37) (.pointer (some ⟨g, op + K * 8 + 1, none⟩)) rfl rfl (fun _ _ => rfl) hHeld ?_
      simp only [Act.put, sb1, sz1, ss1]
      refine tkT 10 (some 38) (.int .i64 (S : Nat)) rfl rfl (fun wz hz => by obtain ⟨z0, z1, z2, z3⟩ := hz; unfold execOp; go_simp) hHeld ?_
      simp only [Act.put, sb1, sz1, ss1]
      refine tkT 11 (some 39) (.pointer (some ⟨cb, 0, none⟩)) rfl rfl (fun _ _ => rfl) hHeld ?_
      simp only [Act.put, sb1, sz1, ss1]
      refine tkT 12 (some 40) (.pointer (some ⟨cb, 0, none⟩)) rfl rfl (fun _ _ => rfl) hHeld ?_
      simp only [Act.put, sb1, sz1, ss1]
      refine tkT 13 (some 41) (.pointer (some ⟨cb, 0, none⟩)) rfl rfl (fun _ _ => rfl) hHeld ?_
      simp only [Act.put, sb1, sz1, ss1]
      refine tkT 14 (some 42) (.pointer (some ⟨cb, 2, none⟩)) rfl rfl (fun _ _ => rfl) hHeld ?_
      simp only [Act.put, sb1, sz1, ss1]
      refine tkT 15 (some 43) (.slice (some ⟨g, op, none⟩) NP Cp) rfl rfl (fun wz hz => by obtain ⟨z0, z1, z2, z3⟩ := hz; unfold execOp; go_simp) hHeld ?_
      simp only [Act.put, sb1, sz1, ss1]
      refine tkT 16 (some 44) (.slice (some ⟨bk, ok, none⟩) Lk Ck) rfl rfl (fun _ _ => rfl) hHeld ?_
      simp only [Act.put, sb1, sz1, ss1]
      refine tkT 17 (some 45) (.pointer (some ⟨bk, ok, none⟩)) rfl rfl (fun wz _ => run_at_kid _ _ rfl bk ok 0 Lk Ck rfl rfl hL0 wz) hHeld ?_
      simp only [Act.put, sb1, sz1, ss1]
      refine tkT 18 (some 46) (.int .i64 (K0 : Nat)) rfl rfl (fun wz hz => by obtain ⟨z0, z1, z2, z3⟩ := hz; unfold execOp; go_simp) hHeld ?_
      simp only [Act.put, sb1, sz1, ss1]
      refine tkT 19 (some 47) (.pointer (some ⟨g, op + K0 * 8, none⟩)) rfl rfl (fun wz _ => run_at_pt _ _ rfl g op K0 NP Cp rfl rfl hK0n wz) hHeld ?_
      simp only [Act.put, sb1, sz1, ss1]
      refine tkT 20 (some 48) (.pointer (some ⟨g, op + K0 * 8 + 1, none⟩)) rfl rfl (fun _ _ => rfl) hHeld ?_
      simp only [Act.put, sb1, sz1, ss1]
      refine tkT 21 (some 49) (.int .i64 (S0 : Nat)) rfl rfl (fun wz hz => by obtain ⟨z0, z1, z2, z3⟩ := hz; unfold execOp; go_simp) hHeld ?_
      simp only [Act.put, sb1, sz1, ss1]
      refine tkT 22 (some 50) (.bool (S == S0)) rfl rfl (fun wz _ => run_eqI _ _ rfl S S0 rfl rfl wz) hHeld ?_
      simp only [Act.put, sb1, sz1, ss1]
      refine tkT 23 (some 51) (.bool (S == S0)) rfl rfl (fun _ _ => rfl) hHeld ?_
      simp only [Act.put, sb1, sz1, ss1]
      refine tkT 24 (some 8) (.bool (S == S0)) rfl rfl (fun _ _ => rfl) hHeld ?_
      simp only [Act.put, sb1, sz1, ss1]
      refine wpAnyH_done (by kernel_rfl) ?_ _
      go_wp2
      go_roundw
      case rel => exact ⟨i + 1, by rw [HI1.out]; go_num, by rw [HI2.out]; rfl, by go_num, by omega, below_drew hB⟩
      case measure => simp [intOf]; omega
    | false =>
      go_wp2_with (first
       | ((refine at_dstL 15 rfl ?_)
          (refine wpList_is (some 15) _ rfl (by rfl) (run_at_kid _ _ rfl bk ok i Lk Ck rfl rfl hlt wr) ?_))
       | ((refine at_dstL 24 rfl ?_)
          (refine wpList_is (some 24) _ rfl (by rfl) (run_at_pt _ _ rfl g op K NP Cp rfl rfl hKn wr) ?_)))
      go_quiet (fail)
      go_wp2
      go_roundw
      case rel => exact ⟨i + 1, by rw [HI1.out]; go_num, by rw [HI2.out]; rfl, by go_num, by omega, bel_dn hB _⟩
      case measure => simp [intOf]; omega
  · obtain rfl : i = Lk := by omega
    rw [← HLk.out] at HAS HR
    have hB0 : Below w.heap.size w wr := hb2.trans (hB.mono hb2.size)
    have P3 := P2.below hB P2.lt
    have N3 := N2.below hB N2.lt
    have nc0 := N3.cell 0
    have nc3 := N3.cell 3
    have ln3 := N3.lt
    have lp3 := P3.lt
    have a0 := P3.cell 0
    have b0 := P3.free 0
    have a1 := P3.cell 1
    have b1 := P3.free 1
    have a2 := P3.cell 2
    have b2 := P3.free 2
    have a3 := P3.cell 3
    have b3 := P3.free 3
    have a4 := P3.cell 4
    have b4 := P3.free 4
    have a5 := P3.cell 5
    have b5 := P3.free 5
    have a6 := P3.cell 6
    have b6 := P3.free 6
    have a7 := P3.cell 7
    have b7 := P3.free 7
    obtain ⟨T, hT⟩ : ∃ T, T = D i := ⟨_, rfl⟩
    obtain ⟨B, hB'⟩ : ∃ B, B = E i := ⟨_, rfl⟩
    rw [← hT] at HAS HR hD4 ⊢
    rw [← hB'] at HAS HR ⊢
    have hTb : T ≤ 40000 := by omega
    obtain ⟨s0, hs0⟩ : ∃ s0, s0 = sz c.parts (ks.getD 0 0) := ⟨_, rfl⟩
    rw [← hs0] at HAS HR
    clear hT hB' hs0 hD4 HSU HAL
    have fin : ∀ (kd s : Nat) (kk : List Nat), PtRes w (noK (.ok ⟨kd, s, kk, 0, 0, 0, [], []⟩)) (.returned (.agg #[.int .i64 (kd : Nat), .int .i64 (s : Nat), .slice none 0 0, .int .i64 0, .int .i64 0, .int .i64 0, .slice none 0 0, .slice none 0 0])) (put8 wr (w.heap.size + 1) (.int .i64 (kd : Nat)) (.int .i64 (s : Nat)) (.slice none 0 0) (.int .i64 0) (.int .i64 0) (.int .i64 0) (.slice none 0 0) (.slice none 0 0)) := fun kd s kk => ⟨bel8 hB0 (Nat.le_succ _) _ _ _ _ _ _ _ _, (.slice none 0 0, .slice none 0 0, .slice none 0 0), rfl, ⟨none, 0, rfl, Nat.le_refl _, by unfold maxLen; omega, .inl rfl⟩, ⟨none, 0, rfl, Nat.le_refl _, by unfold maxLen; omega, .inl rfl⟩, ⟨none, 0, rfl, Nat.le_refl _, by unfold maxLen; omega, .inl rfl⟩⟩
    by_cases hco : n.op = wConcat
    · have HR := HR.out.trans (if_pos hco)
      have f0 : (n.op == [99, 111, 110, 99, 97, 116]) = true := by rw [hco]; decide
      clear hco
      by_cases hle : T ≤ 8192
      · have HQ := hidI (HR.trans (if_pos hle))
        clear HR
        have hTi : (T : Int) ≤ 8192 := by omega
        have hTd : decide (T ≤ 8192) = true := decide_eq_true hle
        go_wp2_with (first
         | ((go_at_call 86)
            (refine (need_yes 134 n.a _).mono ?_)
            (rintro e w5 ⟨rfl, hw5⟩)
            (obtain rfl : wr = w5 := hw5.symm)))
        exact ret_part rfl rfl (P3.set8 _ _ _ _ _ _ _ _) rfl (by rw [HQ.out]; exact fin 3 T ks)
      · have HQ := hidI (HR.trans (if_neg hle))
        clear HR
        have hTi : ¬ (T : Int) ≤ 8192 := by omega
        have hTd : decide (T ≤ 8192) = false := decide_eq_false hle
        go_wp2_with (first
         | ((go_at_call 86)
            (refine (need_no 134 n.a _).mono ?_)
            (rintro e w5 ⟨rfl, rfl⟩)))
        exact ⟨rfl, hB0, by rw [HQ.out]; rfl⟩
    · have HR := HR.out.trans (if_neg hco)
      have f0 : (n.op == [99, 111, 110, 99, 97, 116]) = false := by rw [beq_eq_false_iff_ne]; exact hco
      clear hco
      cases B with
      | true =>
        have HQ := hidI (HR.trans (if_pos rfl))
        clear HR
        have hq := HAS.out rfl
        have hle : s0 * i ≤ 1000000 := by omega
        subst hq
        go_wp2_with (first
         | ((go_at_call 86)
            (refine (need_yes 134 n.a _).mono ?_)
            (rintro e w5 ⟨rfl, hw5⟩)
            (obtain rfl : wr = w5 := hw5.symm))
         | ((refine at_dstL 70 rfl ?_)
            (refine wpList_is (some 70) (.int .i64 (s0 : Nat)) rfl (by rfl) (run_quoI _ _ rfl s0 i rfl rfl hL0 hle wr) ?_)))
        exact ret_part rfl rfl (P3.set8 _ _ _ _ _ _ _ _) rfl (by rw [HQ.out]; exact fin 4 s0 ks)
      | false =>
        have HQ := hidI (HR.trans (if_neg (by decide)))
        clear HR
        go_wp2_with (first
         | ((go_at_call 86)
            (refine (need_no 134 n.a _).mono ?_)
            (rintro e w5 ⟨rfl, rfl⟩)))
        exact ⟨rfl, hB0, by rw [HQ.out]; rfl⟩
end
section
open Go.ChangeShapes Go.WideShapes Go.ChangeAt Go.RowKit Go.MapKept
variable {E : Nat → Prop}
theorem run_sl_lo {o : Oper} {a : Act} (x : Operand) (ho : o.op = .slice 45 x none (some (.const (.int .i64 16))) none) (b off C : Nat) (hx : a.eval x = .slice (some ⟨b, off, none⟩) 32 C) (hC : 32 ≤ C) (hm : C ≤ maxLen) (w : World) : (execOp a.eval o).run Tryz.prog w = .ok (.value (.slice (some ⟨b, off, none⟩) 16 C)) w := by
 unfold maxLen at hm
 have h1 : (16 : Int) ≤ (C : Int) := by omega
 have h2 : ¬ ((C : Nat) : Int) < 16 := by omega
 have h3 : ¬ C < 16 := by omega
 have h4 : 16 ≤ C := by omega
 unfold execOp
 simp only [ho, hx]
 go_simp
theorem run_sl_hi {o : Oper} {a : Act} (x : Operand) (ho : o.op = .slice 45 x (some (.const (.int .i64 16))) none none) (b off C : Nat) (hx : a.eval x = .slice (some ⟨b, off, none⟩) 32 C) (hC : 32 ≤ C) (hm : C ≤ maxLen) (w : World) : (execOp a.eval o).run Tryz.prog w = .ok (.value (.slice (some ⟨b, off + 16, none⟩) 16 (C - 16))) w := by
 unfold maxLen at hm
 have h1 : (32 : Int) ≤ (C : Int) := by omega
 have h3 : ¬ C < 32 := by omega
 have h4 : ¬ C - 16 = 0 := by omega
 have h5 : ¬ C = 16 := by omega
 unfold execOp
 simp only [ho, hx]
 go_simp
theorem bytsp_some {w : World} {P : Nat → Prop} {A : Option Addr} {l : List UInt8} (h : BytsP w P A l) (hl : 0 < l.length) : ∃ b off, A = some ⟨b, off, none⟩ ∧ b < w.heap.size ∧ P b ∧ ∀ j (h : j < l.length), w.cell? ⟨b, off + j, none⟩ = some (.int .u8 (l[j].toNat : Nat)) := by
 rcases h with h | h
 · rw [h] at hl; simp at hl
 · exact h
theorem crypt_c {w : World} {cb : Nat} {V : CV} {c : Ck} (h : CkAt E w cb V c) (n : Nd) (A : Option Addr) (C : Nat) (hr : RdN w n A C) (hl : 2 ≤ n.l.length) (ho : n.op = wCrypt) (size : Nat) (hsz : size ≤ 8192) (hby : ∀ x ∈ c.names, x.2.bytes.length ≤ 1000) (h32 : ∀ m, known c.names (nth n.l 1) [wKey] = .ok m → m.bytes.length = 32) : Calls Tryz.prog 163 #[.pointer (some ⟨cb, 0, none⟩), .agg (ndc n (.slice A n.l.length C)), .int .i64 (size : Nat)] w (PtRes w (csecured c.names n size [])) := by
 have hcs : csecured c.names n size [] = match known c.names (nth n.l 1) [wKey] with | .error e => .error e | .ok m => if m.bytes.take 16 = m.bytes.drop 16 then .error (135, n.a) else .ok ⟨6, size, [], 0, 0, 0, m.bytes, []⟩ := by
  unfold csecured
  rw [if_pos ho]; rfl
 rw [hcs]
 have f0 : (n.op == [99, 114, 121, 112, 116]) = true := by rw [ho]; decide
 have hot := bs_toList n.op
 obtain ⟨W2, hW2⟩ : ∃ W2, W2 = (w.alloc (.cells #[.string (bs n.op), .string (bs n.s), .int .i64 n.n, .int .i64 n.a, .slice A n.l.length C] 24)).alloc (.cells #[.int .i64 0, .int .i64 0, .slice none 0 0, .int .i64 0, .int .i64 0, .int .i64 0, .slice none 0 0, .slice none 0 0] 47) := ⟨_, rfl⟩
 have hb2 : Below w.heap.size w W2 := by rw [hW2]; exact b_two w _ _
 have P2 : Has W2 (w.heap.size + 1) 47 #[.int .i64 0, .int .i64 0, .slice none 0 0, .int .i64 0, .int .i64 0, .int .i64 0, .slice none 0 0, .slice none 0 0] := by rw [hW2]; exact Has.new_at (by simp)
 have N2 : Has W2 w.heap.size 24 #[.string (bs n.op), .string (bs n.s), .int .i64 n.n, .int .i64 n.a, .slice A n.l.length C] := by rw [hW2]; exact (Has.new w _ _).alloc _
 have hsec := secret_c (h.keep hb2) n A C (hr.grow hb2) hl wKey hby
 rw [show bs wKey = ⟨#[107, 101, 121]⟩ from rfl] at hsec
 rw [hW2] at hsec
 have HW : Hid (W2 = (w.alloc (.cells #[.string (bs n.op), .string (bs n.s), .int .i64 n.n, .int .i64 n.a, .slice A n.l.length C] 24)).alloc (.cells #[.int .i64 0, .int .i64 0, .slice none 0 0, .int .i64 0, .int .i64 0, .int .i64 0, .slice none 0 0, .slice none 0 0] 47)) := hW2
 clear hW2 hcs h hr hl ho
 generalize n.l.length = L at *
 cases hK : known c.names (nth n.l 1) [wKey] with
 | error er =>
   obtain ⟨ec, ek⟩ := er
   rw [hK] at hsec
   clear hK h32
   unfold ndc at hsec ⊢
   go_enter Tryz.func163, Tryz.ntmps163
   go_wp2_with (first
    | ((go_at_call 183)
       (refine hsec.mono ?_)
       (rintro e w3 ⟨hb3, rfl⟩)))
   rw [← HW.out] at hb3
   exact ⟨rfl, hb2.trans (hb3.mono hb2.size), rfl⟩
 | ok m =>
   have hml := h32 m hK
   rw [hK] at hsec
   clear hK h32
   obtain ⟨R, hR⟩ : ∃ R : Except Er Pt, R = if m.bytes.take 16 = m.bytes.drop 16 then .error (135, n.a) else .ok ⟨6, size, [], 0, 0, 0, m.bytes, []⟩ := ⟨_, rfl⟩
   simp only []
   rw [← hR]
   have HR : Hid (R = if m.bytes.take 16 = m.bytes.drop 16 then .error (135, n.a) else .ok ⟨6, size, [], 0, 0, 0, m.bytes, []⟩) := hR
   clear hR
   unfold ndc at hsec ⊢
   go_enter Tryz.func163, Tryz.ntmps163
   go_wp2_with (first
    | ((go_at_call 183)
       (refine hsec.mono ?_)
       (rintro e w3 ⟨hb3, v3, rfl, Ab, Cb, rfl, e2, e3, hBy⟩)
       (rw [← HW.out] at hb3 hBy)
       (have N3 := N2.below hb3 N2.lt)
       (have nc3 := N3.cell 3)
       (have ln3 := N3.lt)
       (obtain ⟨bb, bo, rfl, hbb, hbP, hbc⟩ := bytsp_some hBy (by rw [hml]; decide))
       (clear hBy)))
   simp only [ga1, gz1, gs1] at nc3
   rw [hml] at e2
   have hCb : 32 ≤ Cb := e2
   have hCm : Cb ≤ maxLen := e3
   have heq : ∀ W, Below w3.heap.size w3 W → Calls Tryz.prog 184 #[.slice (some ⟨bb, bo, none⟩) 16 Cb, .slice (some ⟨bb, bo + 16, none⟩) 16 (Cb - 16)] W fun e w' => e = .returned (.bool (m.bytes.take 16 == m.bytes.drop 16)) ∧ w' = W := by
    intro W hW
    have e1 : Lib.bytesOf ((m.bytes.take 16).map fun b => ((b.toNat : Nat) : Int)) = m.bytes.take 16 := by
     unfold Lib.bytesOf
     rw [List.map_map]
     exact (List.map_congr_left (fun b _ => by simp)).trans (List.map_id _)
    have e2' : Lib.bytesOf ((m.bytes.drop 16).map fun b => ((b.toNat : Nat) : Int)) = m.bytes.drop 16 := by
     unfold Lib.bytesOf
     rw [List.map_map]
     exact (List.map_congr_left (fun b _ => by simp)).trans (List.map_id _)
    have hh := Tryz.bytes_Equal_all (some ⟨bb, bo, none⟩) (some ⟨bb, bo + 16, none⟩) 16 Cb 16 (Cb - 16) ((m.bytes.take 16).map fun b => ((b.toNat : Nat) : Int)) ((m.bytes.drop 16).map fun b => ((b.toNat : Nat) : Int)) W (by simp [hml]) (by simp [hml]) ?_ ?_
    · rw [e1, e2'] at hh
      exact hh
    · refine fun _ => ⟨bb, bo, rfl, fun i hi => ?_⟩
      have hi' : i < m.bytes.length := by rw [hml]; omega
      rw [(hW.cell (p := ⟨bb, bo + i, none⟩) hbb).trans (hbc i hi')]
      simp [List.getD_eq_getElem?_getD, hi, hi']
    · refine fun _ => ⟨bb, bo + 16, rfl, fun i hi => ?_⟩
      have hi' : 16 + i < m.bytes.length := by rw [hml]; omega
      have := (hW.cell (p := ⟨bb, bo + (16 + i), none⟩) hbb).trans (hbc (16 + i) hi')
      rw [show bo + 16 + i = bo + (16 + i) by omega, this]
      simp [List.getD_eq_getElem?_getD, hi']
   by_cases hq : m.bytes.take 16 = m.bytes.drop 16
   · have hqb : (m.bytes.take 16 == m.bytes.drop 16) = true := by simpa using hq
     rw [hqb] at heq
     have HQ : Hid (m.bytes.take 16 = m.bytes.drop 16) := hq
     clear hq hqb
     refine wp_region_held_drew (S := fun wz => wz.cell? ⟨w.heap.size, 3, none⟩ = some (.int .i64 n.a) ∧ wz.heap = w3.heap ∧ Below w3.heap.size w3 wz) (by kernel_rfl) (⟨nc3, rfl, (Below.refl _ w3).drew⟩) (fun hHeld => ?_)
     refine tkT 0 (some 21) (.slice (some ⟨bb, bo, none⟩) 32 Cb) rfl rfl (fun _ _ => rfl) hHeld ?_
     simp only [Act.put, sb1, sz1, ss1]
     refine tkT 1 (some 22) (.slice (some ⟨bb, bo, none⟩) 16 Cb) rfl rfl (fun wz _ => run_sl_lo _ rfl bb bo Cb rfl hCb hCm wz) hHeld ?_
     simp only [Act.put, sb1, sz1, ss1]
     refine tkT 2 (some 23) (.slice (some ⟨bb, bo, none⟩) 32 Cb) rfl rfl (fun _ _ => rfl) hHeld ?_
     simp only [Act.put, sb1, sz1, ss1]
     refine tkT 3 (some 24) (.slice (some ⟨bb, bo + 16, none⟩) 16 (Cb - 16)) rfl rfl (fun wz _ => run_sl_hi _ rfl bb bo Cb rfl hCb hCm wz) hHeld ?_
     simp only [Act.put, sb1, sz1, ss1]
     refine tkT 6 (some 27) (.pointer (some ⟨w.heap.size, 3, none⟩)) rfl rfl (fun _ _ => rfl) hHeld ?_
     simp only [Act.put, sb1, sz1, ss1]
     refine tkT 7 (some 28) (.int .i64 n.a) rfl rfl (fun wz hz => by obtain ⟨z0, z1, z2⟩ := hz; unfold execOp; go_simp) hHeld ?_
     simp only [Act.put, sb1, sz1, ss1]
     refine callToP 4 (some 25) 184 #[.slice (some ⟨bb, bo, none⟩) 16 Cb, .slice (some ⟨bb, bo + 16, none⟩) 16 (Cb - 16)] (by kernel_rfl) rfl rfl (by rfl) (by kernel_rfl) (heq w3.drew (below_drew (Below.refl _ w3))) ?_
     rintro e w4 ⟨rfl, rfl⟩
     refine .inl ⟨_, rfl, hHeld, ?_⟩
     simp only [Act.put, sb1, sz1, ss1]
     refine tkT 5 (some 26) (.bool false) rfl rfl (fun _ _ => rfl) hHeld ?_
     simp only [Act.put, sb1, sz1, ss1]
     refine callToP 8 (some 29) 86 #[.bool false, .int .i64 135, .int .i64 n.a] (by kernel_rfl) rfl rfl (by rfl) (by kernel_rfl) (need_no 135 n.a w3.drew) ?_
     rintro e w5 ⟨rfl, rfl⟩
     refine .inr ⟨_, rfl, ?_⟩
     exact ⟨rfl, below_drew (hb2.trans (hb3.mono hb2.size)), by rw [HR.out, if_pos HQ.out]; rfl⟩
   · have hqb : (m.bytes.take 16 == m.bytes.drop 16) = false := by simpa using hq
     rw [hqb] at heq
     have HQ : Hid (¬ m.bytes.take 16 = m.bytes.drop 16) := hq
     clear hq hqb
     refine wp_region_held_drew (S := fun wz => wz.cell? ⟨w.heap.size, 3, none⟩ = some (.int .i64 n.a) ∧ wz.heap = w3.heap ∧ Below w3.heap.size w3 wz) (by kernel_rfl) (⟨nc3, rfl, (Below.refl _ w3).drew⟩) (fun hHeld => ?_)
     refine tkT 0 (some 21) (.slice (some ⟨bb, bo, none⟩) 32 Cb) rfl rfl (fun _ _ => rfl) hHeld ?_
     simp only [Act.put, sb1, sz1, ss1]
     refine tkT 1 (some 22) (.slice (some ⟨bb, bo, none⟩) 16 Cb) rfl rfl (fun wz _ => run_sl_lo _ rfl bb bo Cb rfl hCb hCm wz) hHeld ?_
     simp only [Act.put, sb1, sz1, ss1]
     refine tkT 2 (some 23) (.slice (some ⟨bb, bo, none⟩) 32 Cb) rfl rfl (fun _ _ => rfl) hHeld ?_
     simp only [Act.put, sb1, sz1, ss1]
     refine tkT 3 (some 24) (.slice (some ⟨bb, bo + 16, none⟩) 16 (Cb - 16)) rfl rfl (fun wz _ => run_sl_hi _ rfl bb bo Cb rfl hCb hCm wz) hHeld ?_
     simp only [Act.put, sb1, sz1, ss1]
     refine tkT 6 (some 27) (.pointer (some ⟨w.heap.size, 3, none⟩)) rfl rfl (fun _ _ => rfl) hHeld ?_
     simp only [Act.put, sb1, sz1, ss1]
     refine tkT 7 (some 28) (.int .i64 n.a) rfl rfl (fun wz hz => by obtain ⟨z0, z1, z2⟩ := hz; unfold execOp; go_simp) hHeld ?_
     simp only [Act.put, sb1, sz1, ss1]
     refine callToP 4 (some 25) 184 #[.slice (some ⟨bb, bo, none⟩) 16 Cb, .slice (some ⟨bb, bo + 16, none⟩) 16 (Cb - 16)] (by kernel_rfl) rfl rfl (by rfl) (by kernel_rfl) (heq w3.drew (below_drew (Below.refl _ w3))) ?_
     rintro e w4 ⟨rfl, rfl⟩
     refine .inl ⟨_, rfl, hHeld, ?_⟩
     simp only [Act.put, sb1, sz1, ss1]
     refine tkT 5 (some 26) (.bool true) rfl rfl (fun _ _ => rfl) hHeld ?_
     simp only [Act.put, sb1, sz1, ss1]
     refine callToP 8 (some 29) 86 #[.bool true, .int .i64 135, .int .i64 n.a] (by kernel_rfl) rfl rfl (by rfl) (by kernel_rfl) (need_yes 135 n.a w3.drew) ?_
     rintro e w5 ⟨rfl, rfl⟩
     refine .inl ⟨_, rfl, hHeld, ?_⟩
     simp only [Act.put, sb1, sz1, ss1]
     refine wpAnyH_done (by kernel_rfl) ?_ _
     have P3 := has_drew (P2.below hb3 P2.lt)
     have hb03 : Below w.heap.size w w3.drew := below_drew (hb2.trans (hb3.mono hb2.size))
     have hBy4 : BytsP w3.drew (fun g => W2.heap.size ≤ g) (some ⟨bb, bo, none⟩) m.bytes := .inr ⟨bb, bo, rfl, hbb, hbP, hbc⟩
     clear hHeld heq
     generalize w3.drew = W4 at P3 hb03 hBy4 ⊢
     have lp3 := P3.lt
     have a0 := P3.cell 0
     have b0 := P3.free 0
     have a1 := P3.cell 1
     have b1 := P3.free 1
     have a2 := P3.cell 2
     have b2 := P3.free 2
     have a3 := P3.cell 3
     have b3 := P3.free 3
     have a4 := P3.cell 4
     have b4 := P3.free 4
     have a5 := P3.cell 5
     have b5 := P3.free 5
     have a6 := P3.cell 6
     have b6 := P3.free 6
     have a7 := P3.cell 7
     have b7 := P3.free 7
     go_wp2
     have hbf := bel8 (g := w.heap.size + 1) hb03 (Nat.le_succ _) (.int .i64 6) (.int .i64 (size : Nat)) (.slice none 0 0) (.int .i64 0) (.int .i64 0) (.int .i64 0) (.slice (some ⟨bb, bo, none⟩) 32 Cb) (.slice none 0 0)
     refine ret_part rfl rfl (P3.set8 _ _ _ _ _ _ _ _) rfl ⟨hbf, ?_⟩
     rw [HR.out, if_neg HQ.out]
     refine ⟨(.slice none 0 0, .slice (some ⟨bb, bo, none⟩) 32 Cb, .slice none 0 0), rfl, ?_⟩
     refine ⟨⟨none, 0, rfl, Nat.le_refl _, by unfold maxLen; omega, .inl rfl⟩, ⟨some ⟨bb, bo, none⟩, Cb, by rw [hml], by rw [hml]; exact e2, e3, ?_⟩, ⟨none, 0, rfl, Nat.le_refl _, by unfold maxLen; omega, .inl rfl⟩⟩
     refine hBy4.keep (by simp) (fun k hk hB => ⟨by
      have hk2 : k ≠ w.heap.size + 1 := by have := P2.lt; have hB' : W2.heap.size ≤ k := hB; omega
      iterate 8 rw [Below.heap_setCell _ _ _ k hk2], Nat.le_trans hb2.size hB⟩)
end
section
open Go.ChangeShapes Go.WideShapes Go.ChangeAt Go.RowKit Go.MapKept
variable {E : Nat → Prop}
theorem store_c (n o : Nat) (c : Int) (w : World) : Calls Tryz.prog 162 #[.int .i64 (n : Nat), .int .i64 (o : Nat), .int .i64 c] w fun e w' => ∃ t : Int, e = .returned (.tuple #[.int .i64 t, .int .i64 (slt n o c : Nat)]) ∧ Below w.heap.size w w' := by
 unfold slt
 by_cases h : (1 ≤ n ∧ n ≤ 8192) ∧ (1 ≤ o ∧ o ≤ 8192) ∧ (1 ≤ c ∧ c ≤ 16)
 · rw [if_pos h]
   obtain ⟨h1, h2, h3⟩ := h
   obtain ⟨m, rfl⟩ : ∃ m : Nat, c = (m : Nat) := ⟨c.toNat, by omega⟩
   refine (Store_c n o m w h1 h2 ⟨by omega, by omega⟩).mono ?_
   rintro e w' ⟨s, rfl, hg, hb⟩
   refine ⟨(stA (tableOf o m) s : Nat), ?_, hb⟩
   rw [show s = grt (chunksOf o m) (sfit (tableOf o m) m n) from hg.eq (grt_is _ _), Int.toNat_natCast]
 · rw [if_neg h]
   refine (Store_no n o c w (by omega)).mono ?_
   rintro e w' ⟨rfl, hb⟩
   exact ⟨0, rfl, hb⟩
structure PIn (E : Nat → Prop) (w : World) (cb : Nat) (V : CV) (c : Ck) (ks : List Nat) (bk ok Ck : Nat) : Prop where
 ck : CkAt E w cb V c
 lt : bk < w.heap.size
 cells : ∀ j (h : j < ks.length), w.cell? ⟨bk, ok + j, none⟩ = some (.int .i64 (ks[j] : Nat))
 pos : 0 < ks.length
 cap : ks.length ≤ Ck
 max : Ck ≤ maxLen
 kid : ∀ k ∈ ks, NdOk c.parts k
theorem part_linear {w : World} {cb : Nat} {V : CV} {c : Ck} {ks : List Nat} {bk ok Ck : Nat} (hI : PIn E w cb V c ks bk ok Ck) (n : Nd) (A : Option Addr) (C : Nat) (hr : RdN w n A C) (ho : n.op = wLinear) (hl : n.l.length = 3) (hx1 : 0 ≤ (nth n.l 1).n ∧ (nth n.l 1).n ≤ 999999999) (hx2 : 0 ≤ (nth n.l 2).n ∧ (nth n.l 2).n ≤ 999999999) :
  Calls Tryz.prog 144 #[.pointer (some ⟨cb, 0, none⟩), .agg (ndc n (.slice A n.l.length C)), .slice (some ⟨bk, ok, none⟩) ks.length Ck] w (PtRes w (noK (cpart c.names c.parts n ks))) := by
 have hk0 := hI.pos
 have hkid := hI.kid
 have h := hI.ck
 have hp0 : 0 < c.parts.length := by have := (hkid _ (List.getElem_mem hk0)).1; omega
 obtain ⟨g, op, Cp, evp, hCp1, hCp2, hg, hSz⟩ := h.vp hp0
 have hgd : ks.getD 0 0 = ks[0] := by rw [List.getD_eq_getElem?_getD, List.getElem?_eq_getElem hk0]; rfl
 obtain ⟨W2, hW2⟩ : ∃ W2, W2 = (w.alloc (.cells #[.string (bs n.op), .string (bs n.s), .int .i64 n.n, .int .i64 n.a, .slice A n.l.length C] 24)).alloc (.cells #[.int .i64 0, .int .i64 0, .slice none 0 0, .int .i64 0, .int .i64 0, .int .i64 0, .slice none 0 0, .slice none 0 0] 47) := ⟨_, rfl⟩
 have hb2 : Below w.heap.size w W2 := by rw [hW2]; exact b_two w _ _
 have P2 : Has W2 (w.heap.size + 1) 47 #[.int .i64 0, .int .i64 0, .slice none 0 0, .int .i64 0, .int .i64 0, .int .i64 0, .slice none 0 0, .slice none 0 0] := by rw [hW2]; exact Has.new_at (by simp)
 have N2 : Has W2 w.heap.size 24 #[.string (bs n.op), .string (bs n.s), .int .i64 n.n, .int .i64 n.a, .slice A n.l.length C] := by rw [hW2]; exact (Has.new w _ _).alloc _
 have HW : Hid (W2 = (w.alloc (.cells #[.string (bs n.op), .string (bs n.s), .int .i64 n.n, .int .i64 n.a, .slice A n.l.length C] 24)).alloc (.cells #[.int .i64 0, .int .i64 0, .slice none 0 0, .int .i64 0, .int .i64 0, .int .i64 0, .slice none 0 0, .slice none 0 0] 47)) := hW2
 have hot := bs_toList n.op
 have c2 := h.has.cell 2
 simp only [List.getElem?_toArray, List.getElem?_cons_zero, List.getElem?_cons_succ, evp] at c2
 have c2r := below_some hb2 c2
 have k0r : W2.cell? ⟨bk, ok, none⟩ = some (.int .i64 (ks[0] : Nat)) := below_some hb2 (hI.cells 0 hk0)
 obtain ⟨hK0n', hS1, hS2⟩ := hkid _ (List.getElem_mem hk0)
 have s0r := hSz.below hb2 hg _ hK0n'
 obtain ⟨gn, on, Au, Cu, rfl, hgn, hat⟩ := parts_at hr (by omega)
 have hlen := hr.len
 have x1w : w.cell? ⟨gn, on + 1 * 5 + 2, none⟩ = some (.int .i64 (nth n.l 1).n) := (hat 1 (by omega)).1 2 (by decide)
 have x2w : w.cell? ⟨gn, on + 2 * 5 + 2, none⟩ = some (.int .i64 (nth n.l 2).n) := (hat 2 (by omega)).1 2 (by decide)
 have hR : cpart c.names c.parts n ks = if 0 < (nth n.l 2).n ∧ (nth n.l 1).n + (nth n.l 2).n ≤ (sz c.parts ks[0] : Int) then .ok ⟨2, (nth n.l 2).n.toNat, ks, 0, (nth n.l 1).n.toNat, 0, [], []⟩ else .error (134, n.a) := by
  unfold cpart
  rw [if_pos ho, hgd]
  rfl
 have HR := hidI hR
 clear hR
 have f0 : (n.op == [108, 105, 110, 101, 97, 114]) = true := by rw [ho]; decide
 have f1 : (n.op == [99, 111, 110, 99, 97, 116]) = false := by rw [ho]; decide
 have f2 : (n.op == [109, 105, 114, 114, 111, 114]) = false := by rw [ho]; decide
 have f3 : (n.op == [115, 110, 97, 112, 115, 104, 111, 116]) = false := by rw [ho]; decide
 obtain ⟨NP, hNP⟩ : ∃ NP, NP = c.parts.length := ⟨_, rfl⟩
 have HNP : Hid (NP = c.parts.length) := hNP
 rw [← hNP] at hCp1 c2r hK0n'
 obtain ⟨Lk, hLk⟩ : ∃ Lk, Lk = ks.length := ⟨_, rfl⟩
 have HLk : Hid (Lk = ks.length) := hLk
 rw [← hLk]
 have hL0 : 0 < Lk := by omega
 obtain ⟨S, hS⟩ : ∃ S, S = sz c.parts ks[0] := ⟨_, rfl⟩
 obtain ⟨K0, hK0⟩ : ∃ K0, K0 = ks[0] := ⟨_, rfl⟩
 rw [← hS] at s0r hS1 hS2
 rw [← hK0] at s0r k0r hK0n'
 have HS : Hid (S = sz c.parts ks[0]) := hS
 have hK0n : K0 < NP := hK0n'
 rw [← hS] at HR
 obtain ⟨x1, hx1'⟩ : ∃ x, x = (nth n.l 1).n := ⟨_, rfl⟩
 obtain ⟨x2, hx2'⟩ : ∃ x, x = (nth n.l 2).n := ⟨_, rfl⟩
 rw [← hx1'] at HR x1w hx1
 rw [← hx2'] at HR x2w hx2
 obtain ⟨Ln, hLn⟩ : ∃ Ln, Ln = n.l.length := ⟨_, rfl⟩
 rw [← hLn] at N2 HW hl hlen ⊢
 have hln1 : 1 < Ln := by omega
 have hln2 : 2 < Ln := by omega
 clear hW2 hNP hLk hS hK0 hK0n' c2 hx1' hx2' hLn hat ho hlen hr hI hkid h hl
 unfold ndc
 go_enter Tryz.func144, Tryz.ntmps144
 go_wp2
 rw [← HW.out]
 refine wp_region_held_drew (S := fun wz => Below W2.heap.size W2 wz) (by kernel_rfl) ((Below.refl _ W2).drew) (fun hHeld => ?_)
 refine tkT 0 (some 13) (.pointer (some ⟨cb, 0, none⟩)) rfl rfl (fun _ _ => rfl) hHeld ?_
 simp only [Act.put, sb1, sz1, ss1]
 refine tkT 1 (some 14) (.pointer (some ⟨cb, 0, none⟩)) rfl rfl (fun _ _ => rfl) hHeld ?_
 simp only [Act.put, sb1, sz1, ss1]
 refine tkT 2 (some 15) (.pointer (some ⟨cb, 0, none⟩)) rfl rfl (fun _ _ => rfl) hHeld ?_
 simp only [Act.put, sb1, sz1, ss1]
 refine tkT 3 (some 16) (.pointer (some ⟨cb, 2, none⟩)) rfl rfl (fun _ _ => rfl) hHeld ?_
 simp only [Act.put, sb1, sz1, ss1]
 refine tkT 4 (some 17) (.slice (some ⟨g, op, none⟩) NP Cp) rfl rfl (fun wz hz => by have z0 := below_some hz c2r; unfold execOp; go_simp) hHeld ?_
 simp only [Act.put, sb1, sz1, ss1]
 refine tkT 5 (some 18) (.slice (some ⟨bk, ok, none⟩) Lk Ck) rfl rfl (fun _ _ => rfl) hHeld ?_
 simp only [Act.put, sb1, sz1, ss1]
 refine tkT 6 (some 19) (.pointer (some ⟨bk, ok, none⟩)) rfl rfl (fun wz _ => run_at_kid _ _ rfl bk ok 0 Lk Ck rfl rfl hL0 wz) hHeld ?_
 simp only [Act.put, sb1, sz1, ss1]
 refine tkT 7 (some 20) (.int .i64 (K0 : Nat)) rfl rfl (fun wz hz => by have z0 := below_some hz k0r; unfold execOp; go_simp) hHeld ?_
 simp only [Act.put, sb1, sz1, ss1]
 refine tkT 8 (some 21) (.pointer (some ⟨g, op + K0 * 8, none⟩)) rfl rfl (fun wz _ => run_at_pt _ _ rfl g op K0 NP Cp rfl rfl hK0n wz) hHeld ?_
 simp only [Act.put, sb1, sz1, ss1]
 refine tkT 9 (some 22) (.pointer (some ⟨g, op + K0 * 8 + 1, none⟩)) rfl rfl (fun _ _ => rfl) hHeld ?_
 simp only [Act.put, sb1, sz1, ss1]
 refine tkT 10 (some 23) (.int .i64 (S : Nat)) rfl rfl (fun wz hz => by have z0 := below_some hz s0r; unfold execOp; go_simp) hHeld ?_
 simp only [Act.put, sb1, sz1, ss1]
 refine tkT 11 (some 7) (.int .i64 (S : Nat)) rfl rfl (fun _ _ => rfl) hHeld ?_
 simp only [Act.put, sb1, sz1, ss1]
 refine wpAnyH_done (by kernel_rfl) ?_ _
 have hb3 : Below w.heap.size w W2.drew := below_drew hb2
 have P3 := has_drew P2
 have N3 := has_drew N2
 have x1r := below_some hb3 x1w
 have x2r := below_some hb3 x2w
 have n4 := N3.cell 4
 have nc0 := N3.cell 0
 have nc3 := N3.cell 3
 have ln3 := N3.lt
 have lp3 := P3.lt
 simp only [ga1, gz1, gs1] at n4 nc0 nc3
 clear c2r k0r s0r hb2 P2 N2 HW hHeld x1w x2w
 generalize W2.drew = W3 at *
 go_wp2
 refine wp_region_held_drew (S := fun wz => Below W3.heap.size W3 wz) (by kernel_rfl) ((Below.refl _ W3).drew) (fun hHeld => ?_)
 refine tkT 0 (some 28) (.pointer (some ⟨w.heap.size, 4, none⟩)) rfl rfl (fun _ _ => rfl) hHeld ?_
 simp only [Act.put, sb1, sz1, ss1]
 refine tkT 1 (some 29) (.slice (some ⟨gn, on, none⟩) Ln C) rfl rfl (fun wz hz => by have z0 := below_some hz n4; unfold execOp; go_simp) hHeld ?_
 simp only [Act.put, sb1, sz1, ss1]
 refine tkT 2 (some 30) (.pointer (some ⟨gn, on + 1 * 5, none⟩)) rfl rfl (fun wz _ => run_at_nd _ _ rfl gn on 1 Ln C rfl rfl hln1 wz) hHeld ?_
 simp only [Act.put, sb1, sz1, ss1]
 refine tkT 3 (some 31) (.pointer (some ⟨gn, on + 1 * 5 + 2, none⟩)) rfl rfl (fun _ _ => rfl) hHeld ?_
 simp only [Act.put, sb1, sz1, ss1]
 refine tkT 4 (some 32) (.int .i64 x1) rfl rfl (fun wz hz => by have z0 := below_some hz x1r; unfold execOp; go_simp) hHeld ?_
 simp only [Act.put, sb1, sz1, ss1]
 refine tkT 5 (some 33) (.pointer (some ⟨w.heap.size, 4, none⟩)) rfl rfl (fun _ _ => rfl) hHeld ?_
 simp only [Act.put, sb1, sz1, ss1]
 refine tkT 6 (some 34) (.slice (some ⟨gn, on, none⟩) Ln C) rfl rfl (fun wz hz => by have z0 := below_some hz n4; unfold execOp; go_simp) hHeld ?_
 simp only [Act.put, sb1, sz1, ss1]
 refine tkT 7 (some 35) (.pointer (some ⟨gn, on + 2 * 5, none⟩)) rfl rfl (fun wz _ => run_at_nd _ _ rfl gn on 2 Ln C rfl rfl hln2 wz) hHeld ?_
 simp only [Act.put, sb1, sz1, ss1]
 refine tkT 8 (some 36) (.pointer (some ⟨gn, on + 2 * 5 + 2, none⟩)) rfl rfl (fun _ _ => rfl) hHeld ?_
 simp only [Act.put, sb1, sz1, ss1]
 refine tkT 9 (some 37) (.int .i64 x2) rfl rfl (fun wz hz => by have z0 := below_some hz x2r; unfold execOp; go_simp) hHeld ?_
 simp only [Act.put, sb1, sz1, ss1]
 refine tkT 10 (some 8) (.int .i64 x1) rfl rfl (fun _ _ => rfl) hHeld ?_
 simp only [Act.put, sb1, sz1, ss1]
 refine tkT 11 (some 9) (.int .i64 x2) rfl rfl (fun _ _ => rfl) hHeld ?_
 simp only [Act.put, sb1, sz1, ss1]
 refine wpAnyH_done (by kernel_rfl) ?_ _
 have hb4 : Below w.heap.size w W3.drew := below_drew hb3
 have P4 := has_drew P3
 have N4 := has_drew N3
 clear hb3 P3 N3 n4 nc0 nc3 ln3 lp3 x1r x2r hHeld
 generalize W3.drew = W3 at *
 have hb3 := hb4
 have P3 := P4
 have nc3 := N4.cell 3
 have ln3 := N4.lt
 have lp3 := P3.lt
 have a0 := P3.cell 0
 have b0 := P3.free 0
 have a1 := P3.cell 1
 have b1 := P3.free 1
 have a2 := P3.cell 2
 have b2 := P3.free 2
 have a3 := P3.cell 3
 have b3 := P3.free 3
 have a4 := P3.cell 4
 have b4 := P3.free 4
 have a5 := P3.cell 5
 have b5 := P3.free 5
 have a6 := P3.cell 6
 have b6 := P3.free 6
 have a7 := P3.cell 7
 have b7 := P3.free 7
 have fin : ∀ (kd s fi ch : Nat) (kk : List Nat), PtRes w (noK (.ok ⟨kd, s, kk, 0, fi, ch, [], []⟩)) (.returned (.agg #[.int .i64 (kd : Nat), .int .i64 (s : Nat), .slice none 0 0, .int .i64 0, .int .i64 (fi : Nat), .int .i64 (ch : Nat), .slice none 0 0, .slice none 0 0])) (put8 W3 (w.heap.size + 1) (.int .i64 (kd : Nat)) (.int .i64 (s : Nat)) (.slice none 0 0) (.int .i64 0) (.int .i64 (fi : Nat)) (.int .i64 (ch : Nat)) (.slice none 0 0) (.slice none 0 0)) := fun kd s fi ch kk => ⟨bel8 hb3 (Nat.le_succ _) _ _ _ _ _ _ _ _, (.slice none 0 0, .slice none 0 0, .slice none 0 0), rfl, ⟨none, 0, rfl, Nat.le_refl _, by unfold maxLen; omega, .inl rfl⟩, ⟨none, 0, rfl, Nat.le_refl _, by unfold maxLen; omega, .inl rfl⟩, ⟨none, 0, rfl, Nat.le_refl _, by unfold maxLen; omega, .inl rfl⟩⟩
 obtain ⟨X1, rfl⟩ : ∃ X : Nat, x1 = (X : Nat) := ⟨x1.toNat, by omega⟩
 obtain ⟨X2, rfl⟩ : ∃ X : Nat, x2 = (X : Nat) := ⟨x2.toNat, by omega⟩
 obtain ⟨hX1a, hX1b⟩ := hx1
 obtain ⟨hX2a, hX2b⟩ := hx2
 by_cases hq : 0 < ((X2 : Nat) : Int) ∧ ((X1 : Nat) : Int) + ((X2 : Nat) : Int) ≤ (S : Int)
 · have HQ := hidI (HR.out.trans (if_pos hq))
   obtain ⟨q1, q2⟩ := hq
   clear HR
   have q1' : decide (0 < X2) = true := decide_eq_true (by omega)
   go_wp2_with (first
    | ((go_at_call 86)
       (refine (need_yes 134 n.a _).mono ?_)
       (rintro e w5 ⟨rfl, hw5⟩)
       (obtain rfl : W3 = w5 := hw5.symm)))
   exact ret_part rfl rfl (P3.set8 _ _ _ _ _ _ _ _) rfl (by rw [HQ.out, Int.toNat_natCast, Int.toNat_natCast]; exact fin 2 X2 X1 0 ks)
 · have HQ := hidI (HR.out.trans (if_neg hq))
   clear HR
   by_cases q1 : 0 < X2
   · have q2 : ¬ ((X1 : Nat) : Int) + ((X2 : Nat) : Int) ≤ (S : Int) := fun e => hq ⟨by omega, e⟩
     have q1' : decide (0 < X2) = true := decide_eq_true q1
     clear hq
     go_wp2_with (first
      | ((go_at_call 86)
         (refine (need_no 134 n.a _).mono ?_)
         (rintro e w5 ⟨rfl, rfl⟩)))
     exact ⟨rfl, hb3, by rw [HQ.out]; rfl⟩
   · have q1' : decide (0 < X2) = false := decide_eq_false q1
     clear hq
     go_wp2_with (first
      | ((go_at_call 86)
         (refine (need_no 134 n.a _).mono ?_)
         (rintro e w5 ⟨rfl, rfl⟩)))
     exact ⟨rfl, hb3, by rw [HQ.out]; rfl⟩
end
end Go.Proofs.YthndifegfmjpbaaGreatDoor
