/- Texts that the statements of this stage share, joined. -/
import Derived.Test.YthndifegfmjpbaaGreatDoorJoint26
namespace Go.Proofs.YthndifegfmjpbaaGreatDoor
set_option linter.unusedVariables false
set_option maxRecDepth 100000
set_option maxHeartbeats 40000000
section
open Go.ChangeShapes Go.WideShapes Go.ChangeAt Go.RowKit Go.MapKept
variable {E : Nat → Prop}
theorem told_on {w W3 w5 : World} {p : Pt} {x0 x1 x2 : Value} (hb3 : Below w.heap.size w W3) (hl : w.heap.size + 1 < W3.heap.size) (hb5 : Below W3.heap.size W3 w5) (hi : PtIn w5 (fun g => W3.heap.size ≤ g) p (x0, x1, x2)) : PtRes w (.ok p) (.returned (.agg #[.int .i64 (p.kind : Nat), .int .i64 (p.size : Nat), x0, .int .i64 (p.dev : Nat), .int .i64 (p.first : Nat), .int .i64 (p.chunk : Nat), x1, x2])) (put8 w5 (w.heap.size + 1) (.int .i64 (p.kind : Nat)) (.int .i64 (p.size : Nat)) x0 (.int .i64 (p.dev : Nat)) (.int .i64 (p.first : Nat)) (.int .i64 (p.chunk : Nat)) x1 x2) := by
 refine ⟨bel8 (hb3.trans (hb5.mono hb3.size)) (Nat.le_succ _) _ _ _ _ _ _ _ _, (x0, x1, x2), rfl, hi.keep (by simp) (fun k hk hB => ⟨?_, Nat.le_trans hb3.size hB⟩)⟩
 have hB' : W3.heap.size ≤ k := hB
 have hk2 : k ≠ w.heap.size + 1 := by omega
 iterate 8 rw [Below.heap_setCell _ _ _ k hk2]
theorem csecured_noK (ns : Nms) (n : Nd) (s : Nat) (ks : List Nat) : noK (csecured ns n s ks) = csecured ns n s [] := by
 unfold csecured
 split
 · cases known ns (nthN n.l 1) [wKey] with
   | error e => rfl
   | ok m => dsimp only; split <;> rfl
 · split
   · cases known ns (nthN n.l 1) [wKey] with
     | error e => rfl
     | ok m => dsimp only; generalize dI s = D; split <;> rfl
   · cases known ns (nthN n.l 1) [wRoot] with
     | error e => rfl
     | ok m => dsimp only; generalize dV s = D; split <;> rfl
theorem secured_c {w : World} {cb : Nat} {V : CV} {c : Ck} (h : CkAt E w cb V c) (n : Nd) (A : Option Addr) (C : Nat) (hr : RdN w n A C) (hl : 2 ≤ n.l.length) (ho : n.op = wCrypt ∨ n.op = wIntegrity ∨ n.op = wVerity) (size : Nat) (hsz : size ≤ 8192) (hn : NmOk c.names c.parts) (hby : ∀ x ∈ c.names, x.2.bytes.length ≤ 1000) : Calls Tryz.prog 163 #[.pointer (some ⟨cb, 0, none⟩), .agg (ndc n (.slice A n.l.length C)), .int .i64 (size : Nat)] w (PtRes w (csecured c.names n size [])) := by
 rcases ho with ho | ho | ho
 · exact crypt_c h n A C hr hl ho size hsz hby (fun m e => known_key hn (.inl rfl) e)
 · exact integrity_c h n A C hr hl ho size hsz hby
 · exact verity_c h n A C hr hl ho size hsz hby
theorem part_secured {w : World} {cb : Nat} {V : CV} {c : Ck} {ks : List Nat} {bk ok Ck : Nat} (hI : PIn E w cb V c ks bk ok Ck) (n : Nd) (A : Option Addr) (C : Nat) (hr : RdN w n A C) (ho : n.op = wCrypt ∨ n.op = wIntegrity ∨ n.op = wVerity) (hl : 2 ≤ n.l.length) (hn : NmOk c.names c.parts) (hby : ∀ x ∈ c.names, x.2.bytes.length ≤ 1000) :
  Calls Tryz.prog 144 #[.pointer (some ⟨cb, 0, none⟩), .agg (ndc n (.slice A n.l.length C)), .slice (some ⟨bk, ok, none⟩) ks.length Ck] w (PtRes w (noK (cpart c.names c.parts n ks))) := by
 have hk0 := hI.pos
 have hkid := hI.kid
 have h := hI.ck
 have hp0 : 0 < c.parts.length := by have := (hkid _ (List.getElem_mem hk0)).1; omega
 obtain ⟨g, op, Cp, evp, hCp1, hCp2, hg, hSz⟩ := h.vp hp0
 have hgd : ks.getD 0 0 = ks[0] := by rw [List.getD_eq_getElem?_getD, List.getElem?_eq_getElem hk0]; rfl
 obtain ⟨W2, hW2⟩ : ∃ W2, W2 = (w.alloc (.cells #[.string (bs n.op), .string (bs n.s), .int .i64 n.n, .int .i64 n.a, .slice A n.l.length C] 24)).alloc (.cells #[.int .i64 0, .int .i64 0, .slice none 0 0, .int .i64 0, .int .i64 0, .int .i64 0, .slice none 0 0, .slice none 0 0] 47) := ⟨_, rfl⟩
 have hb2 : Below w.heap.size w W2 := by rw [hW2]; exact b_two w _ _
 have P2 : Has W2 (w.heap.size + 1) 47 #[.int .i64 0, .int .i64 0, .slice none 0 0, .int .i64 0, .int .i64 0, .int .i64 0, .slice none 0 0, .slice none 0 0] := by rw [hW2]; exact Has.new_at (by simp)
 have N2 : Has W2 w.heap.size 24 #[.string (bs n.op), .string (bs n.s), .int .i64 n.n, .int .i64 n.a, .slice A n.l.length C] := by rw [hW2]; exact (Has.new w _ _).alloc _
 have HW : Hid (W2 = (w.alloc (.cells #[.string (bs n.op), .string (bs n.s), .int .i64 n.n, .int .i64 n.a, .slice A n.l.length C] 24)).alloc (.cells #[.int .i64 0, .int .i64 0, .slice none 0 0, .int .i64 0, .int .i64 0, .int .i64 0, .slice none 0 0, .slice none 0 0] 47)) := hW2
 have hot := bs_toList n.op
 have c2 := h.has.cell 2
 simp only [List.getElem?_toArray, List.getElem?_cons_zero, List.getElem?_cons_succ, evp] at c2
 have c2r := below_some hb2 c2
 have k0r : W2.cell? ⟨bk, ok, none⟩ = some (.int .i64 (ks[0] : Nat)) := below_some hb2 (hI.cells 0 hk0)
 obtain ⟨hK0n', hS1, hS2⟩ := hkid _ (List.getElem_mem hk0)
 have s0r := hSz.below hb2 hg _ hK0n'
 have hR : noK (cpart c.names c.parts n ks) = csecured c.names n (sz c.parts ks[0]) [] := by
  rw [← csecured_noK c.names n (sz c.parts ks[0]) ks]
  unfold cpart
  rw [if_neg (by rcases ho with ho | ho | ho <;> rw [ho] <;> decide), if_neg (by rcases ho with ho | ho | ho <;> rw [ho] <;> decide), if_neg (by rcases ho with ho | ho | ho <;> rw [ho] <;> decide), hgd]
 rw [hR]
 have hse := fun W (hb : Below w.heap.size w W) => secured_c (h.keep hb) n A C (hr.grow hb) hl ho (sz c.parts ks[0]) hS2 hn hby
 clear hR
 have f0 : (n.op == [108, 105, 110, 101, 97, 114]) = false := by rcases ho with ho | ho | ho <;> rw [ho] <;> decide
 have f1 : (n.op == [99, 111, 110, 99, 97, 116]) = false := by rcases ho with ho | ho | ho <;> rw [ho] <;> decide
 have f2 : (n.op == [109, 105, 114, 114, 111, 114]) = false := by rcases ho with ho | ho | ho <;> rw [ho] <;> decide
 have f3 : (n.op == [115, 110, 97, 112, 115, 104, 111, 116]) = false := by rcases ho with ho | ho | ho <;> rw [ho] <;> decide
 obtain ⟨NP, hNP⟩ : ∃ NP, NP = c.parts.length := ⟨_, rfl⟩
 have HNP : Hid (NP = c.parts.length) := hNP
 rw [← hNP] at hCp1 c2r hK0n'
 obtain ⟨Lk, hLk⟩ : ∃ Lk, Lk = ks.length := ⟨_, rfl⟩
 have HLk : Hid (Lk = ks.length) := hLk
 rw [← hLk]
 have hL0 : 0 < Lk := by omega
 obtain ⟨S, hS⟩ : ∃ S, S = sz c.parts ks[0] := ⟨_, rfl⟩
 obtain ⟨K0, hK0⟩ : ∃ K0, K0 = ks[0] := ⟨_, rfl⟩
 rw [← hS] at s0r hS1 hS2
 rw [← hK0] at s0r k0r hK0n'
 have HS : Hid (S = sz c.parts ks[0]) := hS
 have hK0n : K0 < NP := hK0n'
 rw [← hS] at hse ⊢
 obtain ⟨Ln, hLn⟩ : ∃ Ln, Ln = n.l.length := ⟨_, rfl⟩
 rw [← hLn] at N2 HW hse ⊢
 have hse3 := hse W2.drew (below_drew hb2)
 obtain ⟨R, hR⟩ : ∃ R, R = csecured c.names n S [] := ⟨_, rfl⟩
 rw [← hR] at hse3 ⊢
 unfold ndc at hse3
 clear hse hR
 clear hW2 hNP hLk hS hK0 hK0n' c2 ho hLn hl hr hI hkid h hn hby
 unfold ndc
 go_enter Tryz.func144, Tryz.ntmps144
 go_wp2
 rw [← HW.out]
 refine wp_region_held_drew (S := fun wz => Below W2.heap.size W2 wz) (by kernel_rfl) ((Below.refl _ W2).drew) (fun hHeld => ?_)
 refine tkT 0 (some 13) (.pointer (some ⟨cb, 0, none⟩)) rfl rfl (fun _ _ => rfl) hHeld ?_
 simp only [Act.put, sb1, sz1, ss1]
 refine tkT 1 (some 14) (.pointer (some ⟨cb, 0, none⟩)) rfl rfl (fun _ _ => rfl) hHeld ?_
 simp only [Act.put, sb1, sz1, ss1]
 refine tkT 2 (some 15) (.pointer (some ⟨cb, 0, none⟩)) rfl rfl (fun _ _ => rfl) hHeld ?_
 simp only [Act.put, sb1, sz1, ss1]
 refine tkT 3 (some 16) (.pointer (some ⟨cb, 2, none⟩)) rfl rfl (fun _ _ => rfl) hHeld ?_
 simp only [Act.put, sb1, sz1, ss1]
 refine tkT 4 (some 17) (.slice (some ⟨g, op, none⟩) NP Cp) rfl rfl (fun wz hz => by have z0 := below_some hz c2r; unfold execOp; go_simp) hHeld ?_
 simp only [Act.put, sb1, sz1, ss1]
 refine tkT 5 (some 18) (.slice (some ⟨bk, ok, none⟩) Lk Ck) rfl rfl (fun _ _ => rfl) hHeld ?_
 simp only [Act.put, sb1, sz1, ss1]
 refine tkT 6 (some 19) (.pointer (some ⟨bk, ok, none⟩)) rfl rfl (fun wz _ => run_at_kid _ _ rfl bk ok 0 Lk Ck rfl rfl hL0 wz) hHeld ?_
 simp only [Act.put, sb1, sz1, ss1]
 refine tkT 7 (some 20) (.int .i64 (K0 : Nat)) rfl rfl (fun wz hz => by have z0 := below_some hz k0r; unfold execOp; go_simp) hHeld ?_
 simp only [Act.put, sb1, sz1, ss1]
 refine tkT 8 (some 21) (.pointer (some ⟨g, op + K0 * 8, none⟩)) rfl rfl (fun wz _ => run_at_pt _ _ rfl g op K0 NP Cp rfl rfl hK0n wz) hHeld ?_
 simp only [Act.put, sb1, sz1, ss1]
 refine tkT 9 (some 22) (.pointer (some ⟨g, op + K0 * 8 + 1, none⟩)) rfl rfl (fun _ _ => rfl) hHeld ?_
 simp only [Act.put, sb1, sz1, ss1]
 refine tkT 10 (some 23) (.int .i64 (S : Nat)) rfl rfl (fun wz hz => by have z0 := below_some hz s0r; unfold execOp; go_simp) hHeld ?_
 simp only [Act.put, sb1, sz1, ss1]
 refine tkT 11 (some 7) (.int .i64 (S : Nat)) rfl rfl (fun _ _ => rfl) hHeld ?_
 simp only [Act.put, sb1, sz1, ss1]
 refine wpAnyH_done (by kernel_rfl) ?_ _
 have hb3 : Below w.heap.size w W2.drew := below_drew hb2
 have P3 := has_drew P2
 have N3 := has_drew N2
 have nc0 := N3.cell 0
 have nc1 := N3.cell 1
 have nc2 := N3.cell 2
 have nc4 := N3.cell 4
 have nc3 := N3.cell 3
 have ln3 := N3.lt
 have lp3 := P3.lt
 simp only [ga1, gz1, gs1] at nc0 nc1 nc2 nc3 nc4
 have hl3 : w.heap.size + 1 < W2.drew.heap.size := lp3
 clear c2r k0r s0r hb2 P2 N2 HW hHeld
 generalize W2.drew = W3 at *
 cases R with
 | error er =>
   obtain ⟨ec, ek⟩ := er
   go_wp2_with (first
    | ((go_at_call 163)
       (refine hse3.mono ?_)
       (rintro e w5 ⟨hb5, rfl⟩)))
   exact ⟨rfl, hb3.trans (hb5.mono hb3.size), rfl⟩
 | ok p =>
   go_wp2_with (first
    | ((go_at_call 163)
       (refine hse3.mono ?_)
       (rintro e w5 ⟨hb5, u, rfl, hi⟩)
       (unfold ptc)
       (have P5 := P3.below hb5 P3.lt)
       (have lp5 := P5.lt)
       (have a0 := P5.cell 0)
       (have b0 := P5.free 0)
       (have a1 := P5.cell 1)
       (have b1 := P5.free 1)
       (have a2 := P5.cell 2)
       (have b2 := P5.free 2)
       (have a3 := P5.cell 3)
       (have b3 := P5.free 3)
       (have a4 := P5.cell 4)
       (have b4 := P5.free 4)
       (have a5 := P5.cell 5)
       (have b5 := P5.free 5)
       (have a6 := P5.cell 6)
       (have b6 := P5.free 6)
       (have a7 := P5.cell 7)
       (have b7 := P5.free 7)
       (obtain ⟨u0, u1, u2⟩ := u)
       (have q1 : ∃ A C, u0 = .slice A p.kids.length C := by obtain ⟨A, C, e, _⟩ := hi.kids; exact ⟨A, C, e⟩)
       (have q2 : ∃ A C, u1 = .slice A p.key.length C := by obtain ⟨A, C, e, _⟩ := hi.key; exact ⟨A, C, e⟩)
       (have q3 : ∃ A C, u2 = .slice A p.root.length C := by obtain ⟨A, C, e, _⟩ := hi.root; exact ⟨A, C, e⟩)
       (obtain ⟨A1, C1, rfl⟩ := q1)
       (obtain ⟨A2, C2, rfl⟩ := q2)
       (obtain ⟨A3, C3, rfl⟩ := q3)))
   have TT := told_on hb3 hl3 hb5 hi
   exact ret_part rfl rfl (P5.set8 (.int .i64 (p.kind : Nat)) (.int .i64 (p.size : Nat)) (.slice A1 p.kids.length C1) (.int .i64 (p.dev : Nat)) (.int .i64 (p.first : Nat)) (.int .i64 (p.chunk : Nat)) (.slice A2 p.key.length C2) (.slice A3 p.root.length C3)) rfl TT
end
section
open Go.ChangeShapes Go.WideShapes Go.ChangeAt Go.RowKit Go.MapKept
variable {E : Nat → Prop}
theorem part_several {w : World} {cb : Nat} {V : CV} {c : Ck} {ks : List Nat} {bk ok Ck : Nat} (hI : PIn E w cb V c ks bk ok Ck) (n : Nd) (A : Option Addr) (C : Nat) (hr : RdN w n A C) (ho : n.op = wConcat ∨ n.op = wMirror) :
  Calls Tryz.prog 144 #[.pointer (some ⟨cb, 0, none⟩), .agg (ndc n (.slice A n.l.length C)), .slice (some ⟨bk, ok, none⟩) ks.length Ck] w (PtRes w (noK (cpart c.names c.parts n ks))) := by
 have hk0 := hI.pos
 have hkid := hI.kid
 have h := hI.ck
 have hp0 : 0 < c.parts.length := by have := (hkid _ (List.getElem_mem hk0)).1; omega
 obtain ⟨g, op, Cp, evp, hCp1, hCp2, hg, hSz⟩ := h.vp hp0
 have hgd : ks.getD 0 0 = ks[0] := by rw [List.getD_eq_getElem?_getD, List.getElem?_eq_getElem hk0]; rfl
 obtain ⟨W2, hW2⟩ : ∃ W2, W2 = (w.alloc (.cells #[.string (bs n.op), .string (bs n.s), .int .i64 n.n, .int .i64 n.a, .slice A n.l.length C] 24)).alloc (.cells #[.int .i64 0, .int .i64 0, .slice none 0 0, .int .i64 0, .int .i64 0, .int .i64 0, .slice none 0 0, .slice none 0 0] 47) := ⟨_, rfl⟩
 have hb2 : Below w.heap.size w W2 := by rw [hW2]; exact b_two w _ _
 have P2 : Has W2 (w.heap.size + 1) 47 #[.int .i64 0, .int .i64 0, .slice none 0 0, .int .i64 0, .int .i64 0, .int .i64 0, .slice none 0 0, .slice none 0 0] := by rw [hW2]; exact Has.new_at (by simp)
 have N2 : Has W2 w.heap.size 24 #[.string (bs n.op), .string (bs n.s), .int .i64 n.n, .int .i64 n.a, .slice A n.l.length C] := by rw [hW2]; exact (Has.new w _ _).alloc _
 have HW : Hid (W2 = (w.alloc (.cells #[.string (bs n.op), .string (bs n.s), .int .i64 n.n, .int .i64 n.a, .slice A n.l.length C] 24)).alloc (.cells #[.int .i64 0, .int .i64 0, .slice none 0 0, .int .i64 0, .int .i64 0, .int .i64 0, .slice none 0 0, .slice none 0 0] 47)) := hW2
 have hot := bs_toList n.op
 have c2 := h.has.cell 2
 simp only [List.getElem?_toArray, List.getElem?_cons_zero, List.getElem?_cons_succ, evp] at c2
 have c2r := below_some hb2 c2
 have k0r : W2.cell? ⟨bk, ok, none⟩ = some (.int .i64 (ks[0] : Nat)) := below_some hb2 (hI.cells 0 hk0)
 obtain ⟨hK0n', hS1, hS2⟩ := hkid _ (List.getElem_mem hk0)
 have s0r := hSz.below hb2 hg _ hK0n'
 have hR : cpart c.names c.parts n ks = if 2 ≤ ks.length ∧ ks.length ≤ 4 then csev c.parts n ks else .error (135, n.a) := by
  unfold cpart
  rw [if_neg (by rcases ho with ho | ho <;> rw [ho] <;> decide), if_pos ho]
  unfold cseveral csev
  by_cases q : 2 ≤ ks.length ∧ ks.length ≤ 4
  · rw [if_neg (not_not_intro q), if_pos q]
  · rw [if_pos q, if_neg q]
 rw [hR]
 have hse := fun W (hb : Below w.heap.size w W) (q2 : 2 ≤ ks.length) (q4 : ks.length ≤ 4) => several_c (h.keep hb) n A n.l.length C ks (P := fun _ => True) (some ⟨bk, ok, none⟩) Ck (.inr ⟨bk, ok, rfl, Nat.lt_of_lt_of_le hI.lt hb.size, trivial, fun j hj => below_some hb (hI.cells j hj)⟩) q2 q4 hI.cap hI.max (fun k hk => ⟨(hkid k hk).1, (hkid k hk).2.2⟩)
 clear hR
 have f0 : (n.op == [108, 105, 110, 101, 97, 114]) = false := by rcases ho with ho | ho <;> rw [ho] <;> decide
 obtain ⟨b1, hb1⟩ : ∃ b1, (n.op == [99, 111, 110, 99, 97, 116]) = b1 := ⟨_, rfl⟩
 have hb1' : b1 = false → (n.op == [109, 105, 114, 114, 111, 114]) = true := by
  intro e
  rcases ho with ho | ho
  · rw [ho, e] at hb1; exact absurd hb1 (by decide)
  · rw [ho]; decide
 have hlc := hI.cap
 obtain ⟨NP, hNP⟩ : ∃ NP, NP = c.parts.length := ⟨_, rfl⟩
 have HNP : Hid (NP = c.parts.length) := hNP
 rw [← hNP] at hCp1 c2r hK0n'
 obtain ⟨Lk, hLk⟩ : ∃ Lk, Lk = ks.length := ⟨_, rfl⟩
 have HLk : Hid (Lk = ks.length) := hLk
 rw [← hLk]
 have hL0 : 0 < Lk := by omega
 obtain ⟨S, hS⟩ : ∃ S, S = sz c.parts ks[0] := ⟨_, rfl⟩
 obtain ⟨K0, hK0⟩ : ∃ K0, K0 = ks[0] := ⟨_, rfl⟩
 rw [← hS] at s0r hS1 hS2
 rw [← hK0] at s0r k0r hK0n'
 have HS : Hid (S = sz c.parts ks[0]) := hS
 have hK0n : K0 < NP := hK0n'
 obtain ⟨Ln, hLn⟩ : ∃ Ln, Ln = n.l.length := ⟨_, rfl⟩
 rw [← hLn] at N2 HW hse ⊢
 rw [← hLk] at hse hlc
 have hse3 := hse W2.drew (below_drew hb2)
 have hLki : Lk ≤ 4 → (Lk : Int) ≤ 4 := fun q => by omega
 obtain ⟨R, hR⟩ : ∃ R, R = csev c.parts n ks := ⟨_, rfl⟩
 rw [← hR] at hse3 ⊢
 unfold ndc at hse3
 clear hse hR
 by_cases q : 2 ≤ Lk ∧ Lk ≤ 4
 · rw [if_pos q]
   obtain ⟨q2, q4⟩ := q
   have hse3 := hse3 q2 q4
   have q2i : (2 : Int) ≤ (Lk : Int) := by omega
   have q4i : (Lk : Int) ≤ 4 := by omega
   have q2d : decide (2 ≤ Lk) = true := decide_eq_true q2
   have q4d : decide (Lk ≤ 4) = true := decide_eq_true q4
   generalize noK R = R at *
   cases b1
   all_goals
    (try have f2 := hb1' rfl)
    clear hb1'
    clear hW2 hNP hLk hS hK0 hK0n' c2 ho hLn hr hI hkid h
    unfold ndc
    go_enter Tryz.func144, Tryz.ntmps144
    go_wp2
    rw [← HW.out]
    refine wp_region_held_drew (S := fun wz => Below W2.heap.size W2 wz) (by kernel_rfl) ((Below.refl _ W2).drew) (fun hHeld => ?_)
    refine tkT 0 (some 13) (.pointer (some ⟨cb, 0, none⟩)) rfl rfl (fun _ _ => rfl) hHeld ?_
    simp only [Act.put, sb1, sz1, ss1]
    refine tkT 1 (some 14) (.pointer (some ⟨cb, 0, none⟩)) rfl rfl (fun _ _ => rfl) hHeld ?_
    simp only [Act.put, sb1, sz1, ss1]
    refine tkT 2 (some 15) (.pointer (some ⟨cb, 0, none⟩)) rfl rfl (fun _ _ => rfl) hHeld ?_
    simp only [Act.put, sb1, sz1, ss1]
    refine tkT 3 (some 16) (.pointer (some ⟨cb, 2, none⟩)) rfl rfl (fun _ _ => rfl) hHeld ?_
    simp only [Act.put, sb1, sz1, ss1]
    refine tkT 4 (some 17) (.slice (some ⟨g, op, none⟩) NP Cp) rfl rfl (fun wz hz => by have z0 := below_some hz c2r; unfold execOp; go_simp) hHeld ?_
    simp only [Act.put, sb1, sz1, ss1]
    refine tkT 5 (some 18) (.slice (some ⟨bk, ok, none⟩) Lk Ck) rfl rfl (fun _ _ => rfl) hHeld ?_
    simp only [Act.put, sb1, sz1, ss1]
    refine tkT 6 (some 19) (.pointer (some ⟨bk, ok, none⟩)) rfl rfl (fun wz _ => run_at_kid _ _ rfl bk ok 0 Lk Ck rfl rfl hL0 wz) hHeld ?_
    simp only [Act.put, sb1, sz1, ss1]
    refine tkT 7 (some 20) (.int .i64 (K0 : Nat)) rfl rfl (fun wz hz => by have z0 := below_some hz k0r; unfold execOp; go_simp) hHeld ?_
    simp only [Act.put, sb1, sz1, ss1]
    refine tkT 8 (some 21) (.pointer (some ⟨g, op + K0 * 8, none⟩)) rfl rfl (fun wz _ => run_at_pt _ _ rfl g op K0 NP Cp rfl rfl hK0n wz) hHeld ?_
    simp only [Act.put, sb1, sz1, ss1]
    refine tkT 9 (some 22) (.pointer (some ⟨g, op + K0 * 8 + 1, none⟩)) rfl rfl (fun _ _ => rfl) hHeld ?_
    simp only [Act.put, sb1, sz1, ss1]
    refine tkT 10 (some 23) (.int .i64 (S : Nat)) rfl rfl (fun wz hz => by have z0 := below_some hz s0r; unfold execOp; go_simp) hHeld ?_
    simp only [Act.put, sb1, sz1, ss1]
    refine tkT 11 (some 7) (.int .i64 (S : Nat)) rfl rfl (fun _ _ => rfl) hHeld ?_
    simp only [Act.put, sb1, sz1, ss1]
    refine wpAnyH_done (by kernel_rfl) ?_ _
    have hb3 : Below w.heap.size w W2.drew := below_drew hb2
    have P3 := has_drew P2
    have N3 := has_drew N2
    have nc0 := N3.cell 0
    have nc1 := N3.cell 1
    have nc2 := N3.cell 2
    have nc4 := N3.cell 4
    have nc3 := N3.cell 3
    have ln3 := N3.lt
    have lp3 := P3.lt
    simp only [ga1, gz1, gs1] at nc0 nc1 nc2 nc3 nc4
    have hl3 : w.heap.size + 1 < W2.drew.heap.size := lp3
    clear c2r k0r s0r hb2 P2 N2 HW hHeld
    generalize W2.drew = W3 at *
    cases R with
    | error er =>
      obtain ⟨ec, ek⟩ := er
      go_wp2_with (first
       | ((go_at_call 86)
          (refine (need_yes 135 n.a _).mono ?_)
          (rintro e w4 ⟨rfl, hw4⟩)
          (obtain rfl : W3 = w4 := hw4.symm))
       | ((go_at_call 161)
          (refine hse3.mono ?_)
          (rintro e w5 ⟨hb5, rfl⟩)))
      exact ⟨rfl, hb3.trans (hb5.mono hb3.size), rfl⟩
    | ok p =>
      go_wp2_with (first
       | ((go_at_call 86)
          (refine (need_yes 135 n.a _).mono ?_)
          (rintro e w4 ⟨rfl, hw4⟩)
          (obtain rfl : W3 = w4 := hw4.symm))
       | ((go_at_call 161)
          (refine hse3.mono ?_)
          (rintro e w5 ⟨hb5, u, rfl, hi⟩)
          (unfold ptc)
          (have P5 := P3.below hb5 P3.lt)
          (have lp5 := P5.lt)
          (have a0 := P5.cell 0)
          (have b0 := P5.free 0)
          (have a1 := P5.cell 1)
          (have b1 := P5.free 1)
          (have a2 := P5.cell 2)
          (have b2 := P5.free 2)
          (have a3 := P5.cell 3)
          (have b3 := P5.free 3)
          (have a4 := P5.cell 4)
          (have b4 := P5.free 4)
          (have a5 := P5.cell 5)
          (have b5 := P5.free 5)
          (have a6 := P5.cell 6)
          (have b6 := P5.free 6)
          (have a7 := P5.cell 7)
          (have b7 := P5.free 7)
          (obtain ⟨u0, u1, u2⟩ := u)
          (have q1 : ∃ A C, u0 = .slice A p.kids.length C := by obtain ⟨A, C, e, _⟩ := hi.kids; exact ⟨A, C, e⟩)
          (have q2 : ∃ A C, u1 = .slice A p.key.length C := by obtain ⟨A, C, e, _⟩ := hi.key; exact ⟨A, C, e⟩)
          (have q3 : ∃ A C, u2 = .slice A p.root.length C := by obtain ⟨A, C, e, _⟩ := hi.root; exact ⟨A, C, e⟩)
          (obtain ⟨A1, C1, rfl⟩ := q1)
          (obtain ⟨A2, C2, rfl⟩ := q2)
          (obtain ⟨A3, C3, rfl⟩ := q3)))
      have TT := told_on hb3 hl3 hb5 hi
      exact ret_part rfl rfl (P5.set8 (.int .i64 (p.kind : Nat)) (.int .i64 (p.size : Nat)) (.slice A1 p.kids.length C1) (.int .i64 (p.dev : Nat)) (.int .i64 (p.first : Nat)) (.int .i64 (p.chunk : Nat)) (.slice A2 p.key.length C2) (.slice A3 p.root.length C3)) rfl TT
 · rw [if_neg q]
   clear hse3
   cases b1
   all_goals
    (try have f2 := hb1' rfl)
    clear hb1'
    clear hW2 hNP hLk hS hK0 hK0n' c2 ho hLn hr hI hkid h
    unfold ndc
    go_enter Tryz.func144, Tryz.ntmps144
    go_wp2
    rw [← HW.out]
    refine wp_region_held_drew (S := fun wz => Below W2.heap.size W2 wz) (by kernel_rfl) ((Below.refl _ W2).drew) (fun hHeld => ?_)
    refine tkT 0 (some 13) (.pointer (some ⟨cb, 0, none⟩)) rfl rfl (fun _ _ => rfl) hHeld ?_
    simp only [Act.put, sb1, sz1, ss1]
    refine tkT 1 (some 14) (.pointer (some ⟨cb, 0, none⟩)) rfl rfl (fun _ _ => rfl) hHeld ?_
    simp only [Act.put, sb1, sz1, ss1]
    refine tkT 2 (some 15) (.pointer (some ⟨cb, 0, none⟩)) rfl rfl (fun _ _ => rfl) hHeld ?_
    simp only [Act.put, sb1, sz1, ss1]
    refine tkT 3 (some 16) (.pointer (some ⟨cb, 2, none⟩)) rfl rfl (fun _ _ => rfl) hHeld ?_
    simp only [Act.put, sb1, sz1, ss1]
    refine tkT 4 (some 17) (.slice (some ⟨g, op, none⟩) NP Cp) rfl rfl (fun wz hz => by have z0 := below_some hz c2r; unfold execOp; go_simp) hHeld ?_
    simp only [Act.put, sb1, sz1, ss1]
    refine tkT 5 (some 18) (.slice (some ⟨bk, ok, none⟩) Lk Ck) rfl rfl (fun _ _ => rfl) hHeld ?_
    simp only [Act.put, sb1, sz1, ss1]
    refine tkT 6 (some 19) (.pointer (some ⟨bk, ok, none⟩)) rfl rfl (fun wz _ => run_at_kid _ _ rfl bk ok 0 Lk Ck rfl rfl hL0 wz) hHeld ?_
    simp only [Act.put, sb1, sz1, ss1]
    refine tkT 7 (some 20) (.int .i64 (K0 : Nat)) rfl rfl (fun wz hz => by have z0 := below_some hz k0r; unfold execOp; go_simp) hHeld ?_
    simp only [Act.put, sb1, sz1, ss1]
    refine tkT 8 (some 21) (.pointer (some ⟨g, op + K0 * 8, none⟩)) rfl rfl (fun wz _ => run_at_pt _ _ rfl g op K0 NP Cp rfl rfl hK0n wz) hHeld ?_
    simp only [Act.put, sb1, sz1, ss1]
    refine tkT 9 (some 22) (.pointer (some ⟨g, op + K0 * 8 + 1, none⟩)) rfl rfl (fun _ _ => rfl) hHeld ?_
    simp only [Act.put, sb1, sz1, ss1]
    refine tkT 10 (some 23) (.int .i64 (S : Nat)) rfl rfl (fun wz hz => by have z0 := below_some hz s0r; unfold execOp; go_simp) hHeld ?_
    simp only [Act.put, sb1, sz1, ss1]
    refine tkT 11 (some 7) (.int .i64 (S : Nat)) rfl rfl (fun _ _ => rfl) hHeld ?_
    simp only [Act.put, sb1, sz1, ss1]
    refine wpAnyH_done (by kernel_rfl) ?_ _
    have hb3 : Below w.heap.size w W2.drew := below_drew hb2
    have P3 := has_drew P2
    have N3 := has_drew N2
    have nc0 := N3.cell 0
    have nc1 := N3.cell 1
    have nc2 := N3.cell 2
    have nc4 := N3.cell 4
    have nc3 := N3.cell 3
    have ln3 := N3.lt
    have lp3 := P3.lt
    simp only [ga1, gz1, gs1] at nc0 nc1 nc2 nc3 nc4
    clear c2r k0r s0r hb2 P2 N2 HW hHeld
    generalize W2.drew = W3 at *
    by_cases q2 : 2 ≤ Lk
    · have q4 : ¬ Lk ≤ 4 := fun e => q ⟨q2, e⟩
      have q2i : (2 : Int) ≤ (Lk : Int) := by omega
      have q4i : ¬ (Lk : Int) ≤ 4 := by omega
      have q2d : decide (2 ≤ Lk) = true := decide_eq_true q2
      have q4d : decide (Lk ≤ 4) = false := decide_eq_false q4
      clear q
      go_wp2_with (first
       | ((go_at_call 86)
          (refine (need_no 135 n.a _).mono ?_)
          (rintro e w4 ⟨rfl, rfl⟩)))
      exact ⟨rfl, hb3, rfl⟩
    · have q2i : ¬ (2 : Int) ≤ (Lk : Int) := by omega
      have q2d : decide (2 ≤ Lk) = false := decide_eq_false q2
      clear q
      go_wp2_with (first
       | ((go_at_call 86)
          (refine (need_no 135 n.a _).mono ?_)
          (rintro e w4 ⟨rfl, rfl⟩)))
      exact ⟨rfl, hb3, rfl⟩
end
section
open Go.ChangeShapes Go.WideShapes Go.ChangeAt Go.RowKit Go.MapKept
variable {E : Nat → Prop}
theorem part_snapshot {w : World} {cb : Nat} {V : CV} {c : Ck} {ks : List Nat} {bk ok Ck : Nat} (hI : PIn E w cb V c ks bk ok Ck) (n : Nd) (A : Option Addr) (C : Nat) (hr : RdN w n A C) (ho : n.op = wSnapshot) (hl : n.l.length = 3) (hk2 : ks.length = 2) (hx2 : 0 ≤ (nth n.l 2).n ∧ (nth n.l 2).n ≤ 999999999) :
  Calls Tryz.prog 144 #[.pointer (some ⟨cb, 0, none⟩), .agg (ndc n (.slice A n.l.length C)), .slice (some ⟨bk, ok, none⟩) ks.length Ck] w (PtRes w (noK (cpart c.names c.parts n ks))) := by
 have hk0 := hI.pos
 have hkid := hI.kid
 have h := hI.ck
 have hp0 : 0 < c.parts.length := by have := (hkid _ (List.getElem_mem hk0)).1; omega
 obtain ⟨g, op, Cp, evp, hCp1, hCp2, hg, hSz⟩ := h.vp hp0
 have hgd : ks.getD 0 0 = ks[0] := by rw [List.getD_eq_getElem?_getD, List.getElem?_eq_getElem hk0]; rfl
 obtain ⟨W2, hW2⟩ : ∃ W2, W2 = (w.alloc (.cells #[.string (bs n.op), .string (bs n.s), .int .i64 n.n, .int .i64 n.a, .slice A n.l.length C] 24)).alloc (.cells #[.int .i64 0, .int .i64 0, .slice none 0 0, .int .i64 0, .int .i64 0, .int .i64 0, .slice none 0 0, .slice none 0 0] 47) := ⟨_, rfl⟩
 have hb2 : Below w.heap.size w W2 := by rw [hW2]; exact b_two w _ _
 have P2 : Has W2 (w.heap.size + 1) 47 #[.int .i64 0, .int .i64 0, .slice none 0 0, .int .i64 0, .int .i64 0, .int .i64 0, .slice none 0 0, .slice none 0 0] := by rw [hW2]; exact Has.new_at (by simp)
 have N2 : Has W2 w.heap.size 24 #[.string (bs n.op), .string (bs n.s), .int .i64 n.n, .int .i64 n.a, .slice A n.l.length C] := by rw [hW2]; exact (Has.new w _ _).alloc _
 have HW : Hid (W2 = (w.alloc (.cells #[.string (bs n.op), .string (bs n.s), .int .i64 n.n, .int .i64 n.a, .slice A n.l.length C] 24)).alloc (.cells #[.int .i64 0, .int .i64 0, .slice none 0 0, .int .i64 0, .int .i64 0, .int .i64 0, .slice none 0 0, .slice none 0 0] 47)) := hW2
 have hot := bs_toList n.op
 have c2 := h.has.cell 2
 simp only [List.getElem?_toArray, List.getElem?_cons_zero, List.getElem?_cons_succ, evp] at c2
 have c2r := below_some hb2 c2
 have k0r : W2.cell? ⟨bk, ok, none⟩ = some (.int .i64 (ks[0] : Nat)) := below_some hb2 (hI.cells 0 hk0)
 obtain ⟨hK0n', hS1, hS2⟩ := hkid _ (List.getElem_mem hk0)
 have s0r := hSz.below hb2 hg _ hK0n'
 obtain ⟨gn, on, Au, Cu, rfl, hgn, hat⟩ := parts_at hr (by omega)
 have x2w : w.cell? ⟨gn, on + 2 * 5 + 2, none⟩ = some (.int .i64 (nth n.l 2).n) := (hat 2 (by omega)).1 2 (by decide)
 have hk1 : 1 < ks.length := by omega
 have hgd1 : ks.getD 1 0 = ks[1] := by rw [List.getD_eq_getElem?_getD, List.getElem?_eq_getElem hk1]; rfl
 obtain ⟨g2, o2, C2, evb, hC21, hC22, hg2, hOn⟩ := h.vo hp0
 obtain ⟨hK1n', hS11, hS12⟩ := hkid _ (List.getElem_mem hk1)
 have s1r := hSz.below hb2 hg _ hK1n'
 have onr := hOn.below hb2 hg2 ks[1] (by rw [onlys_len]; exact hK1n')
 have k1r : W2.cell? ⟨bk, ok + 1, none⟩ = some (.int .i64 (ks[1] : Nat)) := below_some hb2 (hI.cells 1 hk1)
 have c6 := h.has.cell 6
 simp only [List.getElem?_toArray, List.getElem?_cons_zero, List.getElem?_cons_succ, evb] at c6
 have c6r := below_some hb2 c6
 have x2r := below_some hb2 x2w
 have hR : cpart c.names c.parts n ks = if slt (sz c.parts ks[1]) (sz c.parts ks[0]) (nth n.l 2).n = 0 then .error (134, n.a) else if (onlys c.parts).getD ks[1] false = true then .error (139, n.a) else .ok ⟨5, sz c.parts ks[0], ks, 0, 0, (nth n.l 2).n.toNat, [], []⟩ := by
  unfold cpart
  rw [if_neg (by rw [ho]; decide), if_neg (by rw [ho]; decide), if_pos ho, hgd, hgd1]
  rfl
 have HR := hidI hR
 have hst := fun W => store_c (sz c.parts ks[1]) (sz c.parts ks[0]) (nth n.l 2).n W
 clear hR c6
 have f0 : (n.op == [108, 105, 110, 101, 97, 114]) = false := by rw [ho]; decide
 have f1 : (n.op == [99, 111, 110, 99, 97, 116]) = false := by rw [ho]; decide
 have f2 : (n.op == [109, 105, 114, 114, 111, 114]) = false := by rw [ho]; decide
 have f3 : (n.op == [115, 110, 97, 112, 115, 104, 111, 116]) = true := by rw [ho]; decide
 obtain ⟨NP, hNP⟩ : ∃ NP, NP = c.parts.length := ⟨_, rfl⟩
 have HNP : Hid (NP = c.parts.length) := hNP
 rw [← hNP] at hCp1 c2r hK0n'
 obtain ⟨Lk, hLk⟩ : ∃ Lk, Lk = ks.length := ⟨_, rfl⟩
 have HLk : Hid (Lk = ks.length) := hLk
 rw [← hLk]
 have hL0 : 0 < Lk := by omega
 obtain ⟨S, hS⟩ : ∃ S, S = sz c.parts ks[0] := ⟨_, rfl⟩
 obtain ⟨K0, hK0⟩ : ∃ K0, K0 = ks[0] := ⟨_, rfl⟩
 rw [← hS] at s0r hS1 hS2
 rw [← hK0] at s0r k0r hK0n'
 have HS : Hid (S = sz c.parts ks[0]) := hS
 have hK0n : K0 < NP := hK0n'
 rw [← hNP] at c6r hK1n'
 rw [← hS] at HR hst
 obtain ⟨x2, hx2'⟩ : ∃ x, x = (nth n.l 2).n := ⟨_, rfl⟩
 rw [← hx2'] at HR x2w x2r hx2 hst
 obtain ⟨S1, hS1'⟩ : ∃ S1, S1 = sz c.parts ks[1] := ⟨_, rfl⟩
 rw [← hS1'] at HR s1r hst
 obtain ⟨ob, hob⟩ : ∃ ob, ob = (onlys c.parts).getD ks[1] false := ⟨_, rfl⟩
 rw [← hob] at HR onr
 obtain ⟨K1, hK1⟩ : ∃ K1, K1 = ks[1] := ⟨_, rfl⟩
 rw [← hK1] at s1r k1r onr hK1n'
 obtain ⟨sl, hsl⟩ : ∃ sl, sl = slt S1 S x2 := ⟨_, rfl⟩
 rw [← hsl] at HR hst
 obtain ⟨Ln, hLn⟩ : ∃ Ln, Ln = n.l.length := ⟨_, rfl⟩
 rw [← hLn] at N2 HW hl ⊢
 have hln2 : 2 < Ln := by omega
 have hL1 : 1 < Lk := by omega
 have hK1n : K1 < NP := hK1n'
 obtain ⟨X2, rfl⟩ : ∃ X : Nat, x2 = (X : Nat) := ⟨x2.toNat, by omega⟩
 obtain ⟨hX2a, hX2b⟩ := hx2
 have HI := hidI hb2
 clear hW2 hNP hLk hS hK0 hK0n' c2 hx2' hS1' hob hK1 hsl hLn hat ho hr hI hkid h hl hk2 hK1n' x2w evb hC21 hC22 hOn hS11 hS12
 unfold ndc
 go_enter Tryz.func144, Tryz.ntmps144
 go_wp2
 rw [← HW.out]
 refine wp_region_held_drew (S := fun wz => Below W2.heap.size W2 wz) (by kernel_rfl) ((Below.refl _ W2).drew) (fun hHeld => ?_)
 refine tkT 0 (some 13) (.pointer (some ⟨cb, 0, none⟩)) rfl rfl (fun _ _ => rfl) hHeld ?_
 simp only [Act.put, sb1, sz1, ss1]
 refine tkT 1 (some 14) (.pointer (some ⟨cb, 0, none⟩)) rfl rfl (fun _ _ => rfl) hHeld ?_
 simp only [Act.put, sb1, sz1, ss1]
 refine tkT 2 (some 15) (.pointer (some ⟨cb, 0, none⟩)) rfl rfl (fun _ _ => rfl) hHeld ?_
 simp only [Act.put, sb1, sz1, ss1]
 refine tkT 3 (some 16) (.pointer (some ⟨cb, 2, none⟩)) rfl rfl (fun _ _ => rfl) hHeld ?_
 simp only [Act.put, sb1, sz1, ss1]
 refine tkT 4 (some 17) (.slice (some ⟨g, op, none⟩) NP Cp) rfl rfl (fun wz hz => by have z0 := below_some hz c2r; unfold execOp; go_simp) hHeld ?_
 simp only [Act.put, sb1, sz1, ss1]
 refine tkT 5 (some 18) (.slice (some ⟨bk, ok, none⟩) Lk Ck) rfl rfl (fun _ _ => rfl) hHeld ?_
 simp only [Act.put, sb1, sz1, ss1]
 refine tkT 6 (some 19) (.pointer (some ⟨bk, ok, none⟩)) rfl rfl (fun wz _ => run_at_kid _ _ rfl bk ok 0 Lk Ck rfl rfl hL0 wz) hHeld ?_
 simp only [Act.put, sb1, sz1, ss1]
 refine tkT 7 (some 20) (.int .i64 (K0 : Nat)) rfl rfl (fun wz hz => by have z0 := below_some hz k0r; unfold execOp; go_simp) hHeld ?_
 simp only [Act.put, sb1, sz1, ss1]
 refine tkT 8 (some 21) (.pointer (some ⟨g, op + K0 * 8, none⟩)) rfl rfl (fun wz _ => run_at_pt _ _ rfl g op K0 NP Cp rfl rfl hK0n wz) hHeld ?_
 simp only [Act.put, sb1, sz1, ss1]
 refine tkT 9 (some 22) (.pointer (some ⟨g, op + K0 * 8 + 1, none⟩)) rfl rfl (fun _ _ => rfl) hHeld ?_
 simp only [Act.put, sb1, sz1, ss1]
 refine tkT 10 (some 23) (.int .i64 (S : Nat)) rfl rfl (fun wz hz => by have z0 := below_some hz s0r; unfold execOp; go_simp) hHeld ?_
 simp only [Act.put, sb1, sz1, ss1]
 refine tkT 11 (some 7) (.int .i64 (S : Nat)) rfl rfl (fun _ _ => rfl) hHeld ?_
 simp only [Act.put, sb1, sz1, ss1]
 refine wpAnyH_done (by kernel_rfl) ?_ _
 have hb3 : Below w.heap.size w W2.drew := below_drew hb2
 have P3 := has_drew P2
 have N3 := has_drew N2
 have nc0 := N3.cell 0
 have nc1 := N3.cell 1
 have nc2 := N3.cell 2
 have nc4 := N3.cell 4
 have nc3 := N3.cell 3
 have ln3 := N3.lt
 have lp3 := P3.lt
 simp only [ga1, gz1, gs1] at nc0 nc1 nc2 nc3 nc4
 have hbz : Below W2.heap.size W2 W2.drew := (Below.refl _ W2).drew
 replace c2r := below_some hbz c2r
 replace c6r := below_some hbz c6r
 replace k1r := below_some hbz k1r
 replace s1r := below_some hbz s1r
 replace onr := below_some hbz onr
 replace x2r := below_some hbz x2r
 clear k0r s0r hb2 P2 N2 HW hHeld HI hbz
 generalize W2.drew = W3 at *
 go_wp2_with (first
  | ((refine at_dstL 75 rfl ?_)
     (refine wpList_is (some 75) _ rfl (by rfl) (run_at_nd _ _ rfl gn on 2 Ln C rfl rfl hln2 W3) ?_)))
 refine wp_region_held_drew (S := fun wz => Below W3.heap.size W3 wz) (by kernel_rfl) ((Below.refl _ W3).drew) (fun hHeld => ?_)
 refine tkT 0 (some 79) (.pointer (some ⟨cb, 0, none⟩)) rfl rfl (fun _ _ => rfl) hHeld ?_
 simp only [Act.put, sb1, sz1, ss1]
 refine tkT 1 (some 80) (.pointer (some ⟨cb, 0, none⟩)) rfl rfl (fun _ _ => rfl) hHeld ?_
 simp only [Act.put, sb1, sz1, ss1]
 refine tkT 2 (some 81) (.pointer (some ⟨cb, 0, none⟩)) rfl rfl (fun _ _ => rfl) hHeld ?_
 simp only [Act.put, sb1, sz1, ss1]
 refine tkT 3 (some 82) (.pointer (some ⟨cb, 2, none⟩)) rfl rfl (fun _ _ => rfl) hHeld ?_
 simp only [Act.put, sb1, sz1, ss1]
 refine tkT 4 (some 83) (.slice (some ⟨g, op, none⟩) NP Cp) rfl rfl (fun wz hz => by have z0 := below_some hz c2r; unfold execOp; go_simp) hHeld ?_
 simp only [Act.put, sb1, sz1, ss1]
 refine tkT 5 (some 84) (.slice (some ⟨bk, ok, none⟩) Lk Ck) rfl rfl (fun _ _ => rfl) hHeld ?_
 simp only [Act.put, sb1, sz1, ss1]
 refine tkT 6 (some 85) (.pointer (some ⟨bk, ok + 1, none⟩)) rfl rfl (fun wz _ => run_at_kid _ _ rfl bk ok 1 Lk Ck rfl rfl hL1 wz) hHeld ?_
 simp only [Act.put, sb1, sz1, ss1]
 refine tkT 7 (some 86) (.int .i64 (K1 : Nat)) rfl rfl (fun wz hz => by have z0 := below_some hz k1r; unfold execOp; go_simp) hHeld ?_
 simp only [Act.put, sb1, sz1, ss1]
 refine tkT 8 (some 87) (.pointer (some ⟨g, op + K1 * 8, none⟩)) rfl rfl (fun wz _ => run_at_pt _ _ rfl g op K1 NP Cp rfl rfl hK1n wz) hHeld ?_
 simp only [Act.put, sb1, sz1, ss1]
 refine tkT 9 (some 88) (.pointer (some ⟨g, op + K1 * 8 + 1, none⟩)) rfl rfl (fun _ _ => rfl) hHeld ?_
 simp only [Act.put, sb1, sz1, ss1]
 refine tkT 10 (some 89) (.int .i64 (S1 : Nat)) rfl rfl (fun wz hz => by have z0 := below_some hz s1r; unfold execOp; go_simp) hHeld ?_
 simp only [Act.put, sb1, sz1, ss1]
 refine tkT 11 (some 90) (.int .i64 (S : Nat)) rfl rfl (fun _ _ => rfl) hHeld ?_
 simp only [Act.put, sb1, sz1, ss1]
 refine tkT 12 (some 91) (.int .i64 (X2 : Nat)) rfl rfl (fun _ _ => rfl) hHeld ?_
 simp only [Act.put, sb1, sz1, ss1]
 refine callToP 13 (some 92) 162 #[.int .i64 (S1 : Nat), .int .i64 (S : Nat), .int .i64 (X2 : Nat)] (by kernel_rfl) rfl rfl (by rfl) (by kernel_rfl) (hst W3.drew) ?_
 rintro e w4 ⟨tt, rfl, hb4⟩
 have hH4 : Below W3.heap.size W3 w4 := hHeld.trans hb4
 refine .inl ⟨_, rfl, hH4, ?_⟩
 simp only [Act.put, sb1, sz1, ss1]
 refine tkT 14 (some 78) (.tuple #[.int .i64 tt, .int .i64 (sl : Nat)]) rfl rfl (fun _ _ => rfl) hH4 ?_
 simp only [Act.put, sb1, sz1, ss1]
 refine tkT 15 (some 93) (.int .i64 tt) rfl rfl (fun _ _ => rfl) hH4 ?_
 simp only [Act.put, sb1, sz1, ss1]
 refine tkT 16 (some 94) (.int .i64 (sl : Nat)) rfl rfl (fun _ _ => rfl) hH4 ?_
 simp only [Act.put, sb1, sz1, ss1]
 refine tkT 17 (some 11) (.int .i64 tt) rfl rfl (fun _ _ => rfl) hH4 ?_
 simp only [Act.put, sb1, sz1, ss1]
 refine tkT 18 (some 12) (.int .i64 (sl : Nat)) rfl rfl (fun _ _ => rfl) hH4 ?_
 simp only [Act.put, sb1, sz1, ss1]
 refine wpAnyH_done (by kernel_rfl) ?_ _
 have hbz : Below W3.heap.size W3 w4 := hH4
 clear hst hH4 hHeld hb4
 have hb4 : Below w.heap.size w w4 := hb3.trans (hbz.mono hb3.size)
 have P4 := P3.below hbz P3.lt
 have N4 := N3.below hbz N3.lt
 replace c2r := below_some hbz c2r
 replace c6r := below_some hbz c6r
 replace k1r := below_some hbz k1r
 replace s1r := below_some hbz s1r
 replace onr := below_some hbz onr
 replace x2r := below_some hbz x2r
 clear hb3 P3 N3 hbz nc0 nc1 nc2 nc3 nc4 ln3 lp3
 generalize w4 = W3 at *
 have hb3 := hb4
 have P3 := P4
 have N3 := N4
 clear hb4 P4 N4
 have nc0 := N3.cell 0
 have nc1 := N3.cell 1
 have nc2 := N3.cell 2
 have nc4 := N3.cell 4
 have nc3 := N3.cell 3
 have ln3 := N3.lt
 have lp3 := P3.lt
 simp only [ga1, gz1, gs1] at nc0 nc1 nc2 nc3 nc4
 by_cases q1 : sl = 0
 · have HQ := hidI (HR.out.trans (if_pos q1))
   subst q1
   clear HR
   go_wp2_with (first
    | ((go_at_call 86)
       (refine (need_no 134 n.a _).mono ?_)
       (rintro e w5 ⟨rfl, rfl⟩)))
   exact ⟨rfl, hb3, by rw [HQ.out]; rfl⟩
 · have HR := HR.out.trans (if_neg q1)
   have q1' : decide (0 < sl) = true := decide_eq_true (by omega)
   have q1i : (0 : Int) < (sl : Int) := by omega
   clear q1
   cases ob with
   | true =>
     have HQ := hidI (HR.trans (if_pos rfl))
     clear HR
     go_wp2_with (first
      | ((go_at_call 86)
         (refine (need_yes 134 n.a _).mono ?_)
         (rintro e w5 ⟨rfl, hw5⟩)
         (obtain rfl : W3 = w5 := hw5.symm)))
     refine wp_region_held_drew (S := fun wz => Below W3.heap.size W3 wz) (by kernel_rfl) ((Below.refl _ W3).drew) (fun hHeld => ?_)
     refine tkT 0 (some 100) (.pointer (some ⟨cb, 0, none⟩)) rfl rfl (fun _ _ => rfl) hHeld ?_
     simp only [Act.put, sb1, sz1, ss1]
     refine tkT 1 (some 101) (.pointer (some ⟨cb, 0, none⟩)) rfl rfl (fun _ _ => rfl) hHeld ?_
     simp only [Act.put, sb1, sz1, ss1]
     refine tkT 2 (some 102) (.pointer (some ⟨cb, 6, none⟩)) rfl rfl (fun _ _ => rfl) hHeld ?_
     simp only [Act.put, sb1, sz1, ss1]
     refine tkT 3 (some 103) (.slice (some ⟨g2, o2, none⟩) NP C2) rfl rfl (fun wz hz => by have z0 := below_some hz c6r; unfold execOp; go_simp) hHeld ?_
     simp only [Act.put, sb1, sz1, ss1]
     refine tkT 4 (some 104) (.slice (some ⟨bk, ok, none⟩) Lk Ck) rfl rfl (fun _ _ => rfl) hHeld ?_
     simp only [Act.put, sb1, sz1, ss1]
     refine tkT 5 (some 105) (.pointer (some ⟨bk, ok + 1, none⟩)) rfl rfl (fun wz _ => run_at_kid _ _ rfl bk ok 1 Lk Ck rfl rfl hL1 wz) hHeld ?_
     simp only [Act.put, sb1, sz1, ss1]
     refine tkT 6 (some 106) (.int .i64 (K1 : Nat)) rfl rfl (fun wz hz => by have z0 := below_some hz k1r; unfold execOp; go_simp) hHeld ?_
     simp only [Act.put, sb1, sz1, ss1]
     refine tkT 7 (some 107) (.pointer (some ⟨g2, o2 + K1, none⟩)) rfl rfl (fun wz _ => run_at_bo _ _ rfl g2 o2 K1 NP C2 rfl rfl hK1n wz) hHeld ?_
     simp only [Act.put, sb1, sz1, ss1]
     refine tkT 8 (some 108) (.bool true) rfl rfl (fun wz hz => by have z0 := below_some hz onr; unfold execOp; go_simp) hHeld ?_
     simp only [Act.put, sb1, sz1, ss1]
     refine tkT 9 (some 109) (.bool false) rfl rfl (fun _ _ => rfl) hHeld ?_
     simp only [Act.put, sb1, sz1, ss1]
     refine tkT 10 (some 110) (.pointer (some ⟨w.heap.size, 3, none⟩)) rfl rfl (fun _ _ => rfl) hHeld ?_
     simp only [Act.put, sb1, sz1, ss1]
     refine tkT 11 (some 111) (.int .i64 n.a) rfl rfl (fun wz hz => by have z0 := below_some hz nc3; unfold execOp; go_simp) hHeld ?_
     simp only [Act.put, sb1, sz1, ss1]
     refine callToP 12 (some 112) 86 #[.bool false, .int .i64 139, .int .i64 n.a] (by kernel_rfl) rfl rfl (by rfl) (by kernel_rfl) (need_no 139 n.a W3.drew) ?_
     rintro e w5 ⟨rfl, rfl⟩
     refine .inr ⟨_, rfl, ?_⟩
     exact ⟨rfl, below_drew hb3, by rw [HQ.out]; rfl⟩
   | false =>
     have HQ := hidI (HR.trans (if_neg (by decide)))
     clear HR
     go_wp2_with (first
      | ((go_at_call 86)
         (refine (need_yes 134 n.a _).mono ?_)
         (rintro e w5 ⟨rfl, hw5⟩)
         (obtain rfl : W3 = w5 := hw5.symm)))
     refine wp_region_held_drew (S := fun wz => Below W3.heap.size W3 wz) (by kernel_rfl) ((Below.refl _ W3).drew) (fun hHeld => ?_)
     refine tkT 0 (some 100) (.pointer (some ⟨cb, 0, none⟩)) rfl rfl (fun _ _ => rfl) hHeld ?_
     simp only [Act.put, sb1, sz1, ss1]
     refine tkT 1 (some 101) (.pointer (some ⟨cb, 0, none⟩)) rfl rfl (fun _ _ => rfl) hHeld ?_
     simp only [Act.put, sb1, sz1, ss1]
     refine tkT 2 (some 102) (.pointer (some ⟨cb, 6, none⟩)) rfl rfl (fun _ _ => rfl) hHeld ?_
     simp only [Act.put, sb1, sz1, ss1]
     refine tkT 3 (some 103) (.slice (some ⟨g2, o2, none⟩) NP C2) rfl rfl (fun wz hz => by have z0 := below_some hz c6r; unfold execOp; go_simp) hHeld ?_
     simp only [Act.put, sb1, sz1, ss1]
     refine tkT 4 (some 104) (.slice (some ⟨bk, ok, none⟩) Lk Ck) rfl rfl (fun _ _ => rfl) hHeld ?_
     simp only [Act.put, sb1, sz1, ss1]
     refine tkT 5 (some 105) (.pointer (some ⟨bk, ok + 1, none⟩)) rfl rfl (fun wz _ => run_at_kid _ _ rfl bk ok 1 Lk Ck rfl rfl hL1 wz) hHeld ?_
     simp only [Act.put, sb1, sz1, ss1]
     refine tkT 6 (some 106) (.int .i64 (K1 : Nat)) rfl rfl (fun wz hz => by have z0 := below_some hz k1r; unfold execOp; go_simp) hHeld ?_
     simp only [Act.put, sb1, sz1, ss1]
     refine tkT 7 (some 107) (.pointer (some ⟨g2, o2 + K1, none⟩)) rfl rfl (fun wz _ => run_at_bo _ _ rfl g2 o2 K1 NP C2 rfl rfl hK1n wz) hHeld ?_
     simp only [Act.put, sb1, sz1, ss1]
     refine tkT 8 (some 108) (.bool false) rfl rfl (fun wz hz => by have z0 := below_some hz onr; unfold execOp; go_simp) hHeld ?_
     simp only [Act.put, sb1, sz1, ss1]
     refine tkT 9 (some 109) (.bool true) rfl rfl (fun _ _ => rfl) hHeld ?_
     simp only [Act.put, sb1, sz1, ss1]
     refine tkT 10 (some 110) (.pointer (some ⟨w.heap.size, 3, none⟩)) rfl rfl (fun _ _ => rfl) hHeld ?_
     simp only [Act.put, sb1, sz1, ss1]
     refine tkT 11 (some 111) (.int .i64 n.a) rfl rfl (fun wz hz => by have z0 := below_some hz nc3; unfold execOp; go_simp) hHeld ?_
     simp only [Act.put, sb1, sz1, ss1]
     refine callToP 12 (some 112) 86 #[.bool true, .int .i64 139, .int .i64 n.a] (by kernel_rfl) rfl rfl (by rfl) (by kernel_rfl) (need_yes 139 n.a W3.drew) ?_
     rintro e w5 ⟨rfl, rfl⟩
     refine .inl ⟨_, rfl, hHeld, ?_⟩
     simp only [Act.put, sb1, sz1, ss1]
     refine wpAnyH_done (by kernel_rfl) ?_ _
     have hbz : Below W3.heap.size W3 W3.drew := (Below.refl _ W3).drew
     clear hHeld
     have hb4 : Below w.heap.size w W3.drew := hb3.trans (hbz.mono hb3.size)
     have P4 := P3.below hbz P3.lt
     have N4 := N3.below hbz N3.lt
     replace c2r := below_some hbz c2r
     replace c6r := below_some hbz c6r
     replace k1r := below_some hbz k1r
     replace s1r := below_some hbz s1r
     replace onr := below_some hbz onr
     replace x2r := below_some hbz x2r
     clear hb3 P3 N3 hbz nc0 nc1 nc2 nc3 nc4 ln3 lp3
     generalize W3.drew = W3 at *
     have hb3 := hb4
     have P3 := P4
     have N3 := N4
     clear hb4 P4 N4
     have nc0 := N3.cell 0
     have nc1 := N3.cell 1
     have nc2 := N3.cell 2
     have nc4 := N3.cell 4
     have nc3 := N3.cell 3
     have ln3 := N3.lt
     have lp3 := P3.lt
     simp only [ga1, gz1, gs1] at nc0 nc1 nc2 nc3 nc4
     have a0 := P3.cell 0
     have b0 := P3.free 0
     have a1 := P3.cell 1
     have b1 := P3.free 1
     have a2 := P3.cell 2
     have b2 := P3.free 2
     have a3 := P3.cell 3
     have b3 := P3.free 3
     have a4 := P3.cell 4
     have b4 := P3.free 4
     have a5 := P3.cell 5
     have b5 := P3.free 5
     have a6 := P3.cell 6
     have b6 := P3.free 6
     have a7 := P3.cell 7
     have b7 := P3.free 7
     have fin : ∀ (kd s fi ch : Nat) (kk : List Nat), PtRes w (noK (.ok ⟨kd, s, kk, 0, fi, ch, [], []⟩)) (.returned (.agg #[.int .i64 (kd : Nat), .int .i64 (s : Nat), .slice none 0 0, .int .i64 0, .int .i64 (fi : Nat), .int .i64 (ch : Nat), .slice none 0 0, .slice none 0 0])) (put8 W3 (w.heap.size + 1) (.int .i64 (kd : Nat)) (.int .i64 (s : Nat)) (.slice none 0 0) (.int .i64 0) (.int .i64 (fi : Nat)) (.int .i64 (ch : Nat)) (.slice none 0 0) (.slice none 0 0)) := fun kd s fi ch kk => ⟨bel8 hb3 (Nat.le_succ _) _ _ _ _ _ _ _ _, (.slice none 0 0, .slice none 0 0, .slice none 0 0), rfl, ⟨none, 0, rfl, Nat.le_refl _, by unfold maxLen; omega, .inl rfl⟩, ⟨none, 0, rfl, Nat.le_refl _, by unfold maxLen; omega, .inl rfl⟩, ⟨none, 0, rfl, Nat.le_refl _, by unfold maxLen; omega, .inl rfl⟩⟩
     go_wp2
     exact ret_part rfl rfl (P3.set8 _ _ _ _ _ _ _ _) rfl (by rw [HQ.out, Int.toNat_natCast]; exact fin 5 S 0 X2 ks)
end
end Go.Proofs.YthndifegfmjpbaaGreatDoor
