/- JournalAlike, walked. -/
import Derived.Test.YtfgoongfmidpgabDoorJnTwo
import Derived.Test.YtfgoongfmidpgabDoorJnOut
import Derived.Test.YtfgoongfmidpgabDoorJoint11
import Derived.Test.YtfgoongfmidpgabDoorJnIntsA
namespace Go.Proofs.YtfgoongfmidpgabDoor
open Go.ChangeShapes Go.WideShapes Go.ChangeAt Go.RowKit
set_option linter.unusedVariables false

variable {D : DevRep}

theorem run_neqE {o : Oper} {a : Act} (x y : Operand) (ho : o.op = .binOp .neq 25 x y 25) (v : Int) (hx : a.eval x = .int .i64 v) (hy : a.eval y = .int .i64 v) (w : World) : (execOp a.eval o).run Tryd.prog w = .ok (.value (.bool false)) w := by
  unfold execOp
  simp only [ho, hx, hy]
  go_simp

theorem run_eqlS {o : Oper} {a : Act} (x y : Operand) (ho : o.op = .binOp .eql 9 x y 9) (S1 : List UInt8) (hx : a.eval x = .string ⟨S1.toArray⟩) (hy : a.eval y = .string ⟨S1.toArray⟩) (w : World) : (execOp a.eval o).run Tryd.prog w = .ok (.value (.bool true)) w := by
  unfold execOp
  simp only [ho, hx, hy]
  go_simp

theorem run_eqlI {o : Oper} {a : Act} (x y : Operand) (ho : o.op = .binOp .eql 3 x y 3) (v : Int) (hx : a.eval x = .int .i64 v) (hy : a.eval y = .int .i64 v) (w : World) : (execOp a.eval o).run Tryd.prog w = .ok (.value (.bool true)) w := by
  unfold execOp
  simp only [ho, hx, hy]
  go_simp

section
variable {P : Program} {ops : Array Oper} {Q : Exit → Act → World → Prop} {md : Region.Mode} {S S' : World → Prop}
/-- In a region: more is asked of the worlds from here on. -/
theorem anyH_mono (h : ∀ w, S' w → S w) : ∀ (fuel : Nat) (listed : Array Bool) (a : Act) (w : World), wpAnyH P md ops Q S' fuel listed a w → wpAnyH P md ops Q S fuel listed a w
  | 0, _, _, _, H => H
  | fuel + 1, _, _, _, H => ⟨H.1, fun i hi => wpOp_mono (fun a' w' h' => ⟨h _ h'.1, anyH_mono h fuel _ a' w' h'.2⟩) (H.2 i hi)⟩
end

/-- What JournalAlike holds behind i records. -/
def AlI (D : DevRep) (w : World) (j p c p' c' i k : Nat) (wr : World) : Prop := ∃ s m F rs G s' m' F' fl' G', JJ D w.heap.size w wr j p s c m F rs 0 G k p' s' c' m' F' rs fl' G' ∧ (Fine s ∧ s.n = 60 ∧ Keeps s [] ∧ s.log.length ≤ 64 ∧ m ≤ 64) ∧ (Fine s' ∧ s'.n = 60 ∧ Keeps s' (rs.take fl') ∧ s'.log.length ≤ 64 + 192 * i ∧ m' ≤ 64 + 192 * i) ∧ ∀ r ∈ rs, ∀ k, r.f k < 256

theorem addRs_take {rs : List RC} {N L fl : Nat} {f : Nat → Nat} (h : fl ≤ rs.length) : (addRs rs N L f).take fl = rs.take fl := by
  unfold addRs
  split
  · exact List.take_append_of_le_length h
  · rfl

theorem addRs_byt {rs : List RC} {N L : Nat} {f : Nat → Nat} (h : ∀ r ∈ rs, ∀ k, r.f k < 256) (hf : ∀ k, f k < 256) : ∀ r ∈ addRs rs N L f, ∀ k, r.f k < 256 := by
  unfold addRs
  split
  · intro r hr k
    rcases List.mem_append.1 hr with h1 | h1
    · exact h r h1 k
    · obtain rfl := List.mem_singleton.1 h1
      exact hf k
  · exact h

set_option maxRecDepth 100000 in
set_option maxHeartbeats 16000000 in
theorem alike_walk (hD : DevOk D) (hM : DevMore D) (w : World) (hG : Glob Hc Kc w) (la : Option Addr) (ln lc : Nat) (ls : List RC) (hls : Rl w la ls) (hln : ls.length = ln) (fa : Option Addr) (fn fc : Nat) (fv : Nat → Int) (hfv : IntsIn w fa fn fv) :
    Calls Tryd.prog 3 #[.slice la ln lc, .slice fa fn fc] w fun e w' => e = .returned (.bool true) ∧ Below w.heap.size w w' := by
  have hjn := jp_nil
  have hB1 : 1 < w.heap.size := hG.1
  have hlm := hls.1
  unfold maxLen at hlm
  have HLN : Hid (ln = ls.length) := hln.symm
  have hlm2 : ln ≤ 9223372036854775807 := by omega
  clear hln hlm
  have hfm0 := hfv.1
  unfold maxLen at hfm0
  have hfm2 : fn ≤ 9223372036854775807 := by omega
  clear hfm0
  have hnew := in_new (B := w.heap.size) (w0 := w) hD 60 (by decide) (by decide) (Below.refl _ _) (Nat.le_refl _)
  go_enter Tryd.func3, Tryd.ntmps3
  go_wp2_with (first
    | ((go_at_call 6)
       (first
         | (have _t := hnew
            refine hnew.mono ?_
            rintro e w1 ⟨p, c, F1, rfl, hI1, hb1, hF1, hc1⟩
            have hnew2 := in_new (B := w.heap.size) (w0 := w) hD 60 (by decide) (by decide) hI1.below hI1.sz
            clear hnew _t hb1 hF1 hc1)
         | (have _t := hnew2
            refine hnew2.mono ?_
            rintro e w2 ⟨p', c', F2, rfl, hI2, hb2, hF2, hc2⟩
            have hII := II.new hI1 hD hb2 hI2 hF2 hc2
            have hfm := j_formatF hD hM hII.a (fine_fresh 60 (by decide) (by decide)) (by omega) (by simp [fresh])
            clear hnew2 _t hb2 hF2 hc2 hI1 hI2)))
    | ((go_at_call 7)
       (first
         | (have _t := hfm
            refine Calls.mono hfm ?_
            rintro e w3 ⟨j, s3, m3, F3, G3, rfl, hJ3, hf3, hn3, hk3, hl3, hm3, ho3, hg3, hG3⟩
            have hJI := hII.format hD hJ3 ho3 hg3 hG3
            have hfm9 := j_formatF hD hM hJI.b (fine_fresh 60 (by decide) (by decide)) (by omega) (by simp [fresh])
            have hn3' : s3.n = 60 := hn3
            have hl3' : s3.log.length ≤ 64 := hl3
            have hm3' : m3 ≤ 64 := (by have h9 : m3 ≤ 0 + (60 + 4) := hm3; omega)
            clear hfm _t hII hJ3 ho3 hg3 hG3 hn3 hl3 hm3)
         | (have _t := hfm9
            refine Calls.mono hfm9 ?_
            rintro e w4 ⟨k, s4, m4, F4, G4, rfl, hJ4, hf4, hn4, hk4, hl4, hm4, ho4, hg4, hG4⟩
            have hJJ := hJI.format hD hJ4 ho4 hg4 hG4
            have hn4' : s4.n = 60 := hn4
            have hl4' : s4.log.length ≤ 64 := hl4
            have hm4' : m4 ≤ 64 := (by have h9 : m4 ≤ 0 + (60 + 4) := hm4; omega)
            have hal := alive_j hD hM w4 (hG.below hJJ.a.dev.below hB1)
            have hjn1 := hjn j
            have hjn2 := hjn k
            clear hfm9 _t hJI hJ4 ho4 hg4 hG4 hn4 hl4 hm4)))
    | ((go_at_call 8)
       (refine hal.mono ?_)
       (rintro e w5 ⟨rfl, hb5⟩)
       (clear hal)
       (have hJJ5 := hJJ.next hD hb5)
       (clear hb5 hJJ)))
  have hst : AlI D w j p c p' c' 0 k w5 := ⟨s3, m3, F3, [], G3, s4, m4, F4, 0, G4, hJJ5, ⟨hf3, hn3', hk3, hl3', hm3'⟩, ⟨hf4, hn4', hk4, by omega, by omega⟩, fun r hr => by cases hr⟩
  clear hJJ5 hf3 hn3' hk3 hl3' hm3' hf4 hn4' hk4 hl4' hm4'
  go_loopw [11, 12, 13] (fun kv fv iv wr => ∃ i k : Nat, i ≤ ln ∧ i ≤ 40 ∧ iv = .int .i64 (i : Nat) ∧ kv = ptr k ∧ fv = .int .i64 0 ∧ AlI D w j p c p' c' i k wr) (fun _ _ iv _ => 40 - (intOf iv).toNat)
  case atStart => exact ⟨0, k, Nat.zero_le _, Nat.zero_le _, rfl, rfl, rfl, hst⟩
  case round =>
    clear hjn2 hst
    obtain ⟨i, k, hil, hi40, rfl, rfl, rfl, s, m, F, rs, G, s', m', F', fl', G', hJJ, ⟨hf, hn, hk, hl, hm⟩, ⟨hf', hn', hk', hl', hm'⟩, hbt⟩ := hrel
    have i2 : (0 : Int) ≤ (i : Int) := by omega
    have hjn3 := hjn k
    by_cases hlt : i < ln ∧ i < 40
    · have i0 : (i : Int) < (ln : Int) := by omega
      have i1 : (i : Int) < 40 := by omega
      obtain ⟨r, hr⟩ : ∃ r, ls[i]? = some r := ⟨_, List.getElem?_eq_getElem (by rw [← HLN.out]; exact hlt.1)⟩
      obtain ⟨x, o, ad, C, e9, hx, hc, hby⟩ := hls.2 i r hr
      subst e9
      obtain ⟨L, f⟩ := r
      have hc' : w.cell? ⟨x, o + i, none⟩ = some (.slice ad L C) := hc
      have hby' : ByIn w ad L C f := hby
      have hcell : ∀ W : World, Below w.heap.size w W → W.cell? ⟨x, o + i, none⟩ = some (.slice ad L C) := fun W hW => (hW.cell (p := ⟨x, o + i, none⟩) hx).trans hc'
      clear hr hc hc' hby
      go_wp2
      have bd : Below wr.heap.size wr wr.drew := (Below.refl _ wr).drew
      have hJd := hJJ.next hD bd
      have hadd := j_add hD hG hB1 hJd.a hf.n2 (hby'.below hJd.a.dev.below (Nat.le_refl _))
      rw [hn] at hadd
      refine wp_region_held_drew (S := fun wz => wz.cell? ⟨x, o + i, none⟩ = some (.slice ad L C)) (by kernel_rfl) (hcell _ hJd.a.dev.below) (fun hHeld => ?_)
      refine takeTo 0 (some 60) (ptr j) rfl rfl (by kernel_rfl) (by kernel_rfl) (by kernel_rfl) (fun _ _ _ h => h) (by rfl) (fun _ _ => rfl) hHeld ?_
      simp only [Act.put, List.setIfInBounds_toArray, List.set_cons_zero, List.set_cons_succ]
      refine takeTo 1 (some 61) (.slice (some ⟨x, o, none⟩) ln lc) rfl rfl (by kernel_rfl) (by kernel_rfl) (by kernel_rfl) (fun _ _ _ h => h) (by rfl) (fun _ _ => rfl) hHeld ?_
      simp only [Act.put, List.setIfInBounds_toArray, List.set_cons_zero, List.set_cons_succ]
      refine takeTo 2 (some 62) (.int .i64 (i : Nat)) rfl rfl (by kernel_rfl) (by kernel_rfl) (by kernel_rfl) (fun _ _ _ h => h) (by rfl) (fun _ _ => rfl) hHeld ?_
      simp only [Act.put, List.setIfInBounds_toArray, List.set_cons_zero, List.set_cons_succ]
      refine takeTo 3 (some 63) (.pointer (some ⟨x, o + i, none⟩)) rfl rfl (by kernel_rfl) (by kernel_rfl) (by kernel_rfl) (fun _ _ _ h => h) (by rfl) (fun wz _ => run_at_slice 22 _ _ rfl x o i ln lc 33 rfl rfl Tryd.underlying22 (by kernel_rfl) hlt.1 wz) hHeld ?_
      simp only [Act.put, List.setIfInBounds_toArray, List.set_cons_zero, List.set_cons_succ]
      refine takeTo 4 (some 64) (.slice ad L C) rfl rfl (by kernel_rfl) (by kernel_rfl) (by kernel_rfl) (fun _ _ _ h => h) (by rfl) (fun wz hz => run_load_row1 _ rfl _ rfl _ wz hz) hHeld ?_
      simp only [Act.put, List.setIfInBounds_toArray, List.set_cons_zero, List.set_cons_succ]
      refine takeTo 6 (some 66) (ptr k) rfl rfl (by kernel_rfl) (by kernel_rfl) (by kernel_rfl) (fun _ _ _ h => h) (by rfl) (fun _ _ => rfl) hHeld ?_
      simp only [Act.put, List.setIfInBounds_toArray, List.set_cons_zero, List.set_cons_succ]
      refine takeTo 7 (some 67) (.slice (some ⟨x, o, none⟩) ln lc) rfl rfl (by kernel_rfl) (by kernel_rfl) (by kernel_rfl) (fun _ _ _ h => h) (by rfl) (fun _ _ => rfl) hHeld ?_
      simp only [Act.put, List.setIfInBounds_toArray, List.set_cons_zero, List.set_cons_succ]
      refine takeTo 8 (some 68) (.int .i64 (i : Nat)) rfl rfl (by kernel_rfl) (by kernel_rfl) (by kernel_rfl) (fun _ _ _ h => h) (by rfl) (fun _ _ => rfl) hHeld ?_
      simp only [Act.put, List.setIfInBounds_toArray, List.set_cons_zero, List.set_cons_succ]
      refine takeTo 9 (some 69) (.pointer (some ⟨x, o + i, none⟩)) rfl rfl (by kernel_rfl) (by kernel_rfl) (by kernel_rfl) (fun _ _ _ h => h) (by rfl) (fun wz _ => run_at_slice 22 _ _ rfl x o i ln lc 33 rfl rfl Tryd.underlying22 (by kernel_rfl) hlt.1 wz) hHeld ?_
      simp only [Act.put, List.setIfInBounds_toArray, List.set_cons_zero, List.set_cons_succ]
      refine takeTo 10 (some 70) (.slice ad L C) rfl rfl (by kernel_rfl) (by kernel_rfl) (by kernel_rfl) (fun _ _ _ h => h) (by rfl) (fun wz hz => run_load_row1 _ rfl _ rfl _ wz hz) hHeld ?_
      simp only [Act.put, List.setIfInBounds_toArray, List.set_cons_zero, List.set_cons_succ]
      refine callTo 5 (some 65) 9 #[ptr j, .slice ad L C] (by kernel_rfl) rfl rfl (by rfl) (by kernel_rfl) hadd ?_
      rintro e w6 ⟨rfl, G6, hS6⟩
      have hJ6 := hJd.step hD hS6
      refine ⟨_, rfl, hcell _ hJ6.a.dev.below, ?_⟩
      simp only [Act.put, List.setIfInBounds_toArray, List.set_cons_zero, List.set_cons_succ]
      have hadd2 := j_add hD hG hB1 hJ6.b hf'.n2 (hby'.below hJ6.a.dev.below (Nat.le_refl _))
      rw [hn'] at hadd2
      refine callTo 11 (some 71) 9 #[ptr k, .slice ad L C] (by kernel_rfl) rfl rfl (by rfl) (by kernel_rfl) hadd2 ?_
      rintro e w7 ⟨rfl, G7, hS7⟩
      have hJ7 := (hJ6.symm.step hD hS7).symm
      refine ⟨_, rfl, hcell _ hJ7.a.dev.below, ?_⟩
      simp only [Act.put, List.setIfInBounds_toArray, List.set_cons_zero, List.set_cons_succ]
      refine takeTo 12 (some 72) (.bool false) rfl rfl (by kernel_rfl) (by kernel_rfl) (by kernel_rfl) (fun _ _ _ h => h) (by rfl) (fun wz _ => run_neqE _ _ rfl (addErr rs (64 * 60) L) rfl rfl wz) (hcell _ hJ7.a.dev.below) ?_
      simp only [Act.put, List.setIfInBounds_toArray, List.set_cons_zero, List.set_cons_succ]
      refine wpAnyH_done (by kernel_rfl) ?_ _
      have hk7 : Keeps s' ((addRs rs (64 * 60) L f).take fl') := by rw [addRs_take hJJ.b.sized.2.2.1]; exact hk'
      have hb7 := addRs_byt (N := 64 * 60) (L := L) hbt hby'.byt
      generalize addRs rs (64 * 60) L f = rs7 at hJ7 hk7 hb7
      generalize addErr rs (64 * 60) L = er7
      clear hadd hadd2 hS6 hS7 hJ6 hJd hJJ hk' hbt hcell hby' bd
      by_cases hif : i < fn
      · have i3 : (i : Int) < (fn : Int) := by omega
        obtain ⟨x2, o2, e2, hx2, hc2, hz⟩ := hfv.2 i hif
        subst e2
        have hce : ∀ W : World, Below w.heap.size w W → W.cell? ⟨x2, o2 + i, none⟩ = some (.int .i64 (fv i)) := fun W hW => (hW.cell (p := ⟨x2, o2 + i, none⟩) hx2).trans hc2
        have c7 := hce _ hJ7.a.dev.below
        clear hc2
        generalize fv i = z at hz c7 hce
        by_cases ht0 : (z.tmod 3 != 0) = true
        · have hfl := j_flushF hD hM hJ7.b hf' hk7 (by omega) (by omega)
          by_cases ht1 : (z.tmod 3 == 1) = true
          · go_wp2_with (first
              | ((go_at_call 10)
                 (refine hfl.mono ?_)
                 (rintro e w8 ⟨rfl, s8, m8, F8, hS8, hf8, hn8, hk8, hl8, hm8, _⟩)
                 (have hJ8 := (hJ7.symm.step hD hS8).symm)
                 (have c8 := hce _ hJ8.a.dev.below)
                 (rw [hn'] at hn8 hl8 hm8)
                 (have hop := j_openF hD hM hG hB1 hJ8.b.dev hf8.able (by omega) (by omega) hk8.told hb7)
                 (clear hfl hS8))
              | ((go_at_call 11)
                 (refine Calls.mono hop ?_)
                 (rintro e w9 ⟨k9, s9, m9, F9, G9, rfl, hJo, hf9, hn9, hk9, hl9, hm9, hto9, ho9, hg9, hG9⟩)
                 (have hJ9 := (hJ8.symm.reopen hD hJo ho9 hg9 hG9).symm)
                 (have hjn9 := hjn k9)
                 (rw [hn8] at hn9 hl9 hm9)
                 (clear hop hto9 ho9 hg9 hG9 hJo)))
            go_roundw
            case rel => exact ⟨i + 1, k9, by omega, by omega, by go_num, rfl, rfl, s, m, F, rs7, G6, s9, m9, F9, _, G9, hJ9, ⟨hf, hn, hk, hl, hm⟩, ⟨hf9, hn9, by rw [List.take_length]; exact hk9, by omega, by omega⟩, hb7⟩
            case measure => simp [intOf]; omega
          · have t1 : (z.tmod 3 == 1) = false := by simpa using ht1
            go_wp2_with (first
              | ((go_at_call 10)
                 (refine hfl.mono ?_)
                 (rintro e w8 ⟨rfl, s8, m8, F8, hS8, hf8, hn8, hk8, hl8, hm8, _⟩)
                 (have hJ8 := (hJ7.symm.step hD hS8).symm)
                 (have c8 := hce _ hJ8.a.dev.below)
                 (rw [hn'] at hn8 hl8 hm8)
                 (clear hfl hS8)))
            go_roundw
            case rel => exact ⟨i + 1, k, by omega, by omega, by go_num, rfl, rfl, s, m, F, rs7, G6, s8, m8, F8, _, G7, hJ8, ⟨hf, hn, hk, hl, hm⟩, ⟨hf8, hn8, by rw [List.take_length]; exact hk8, by omega, by omega⟩, hb7⟩
            case measure => simp [intOf]; omega
        · have t0 : (z.tmod 3 != 0) = false := by simpa using ht0
          go_wp2
          go_roundw
          case rel => exact ⟨i + 1, k, by omega, by omega, by go_num, rfl, rfl, s, m, F, rs7, G6, s', m', F', fl', G7, hJ7, ⟨hf, hn, hk, hl, hm⟩, ⟨hf', hn', hk7, by omega, by omega⟩, hb7⟩
          case measure => simp [intOf]; omega
      · have i3 : ¬ (i : Int) < (fn : Int) := by omega
        go_wp2
        go_roundw
        case rel => exact ⟨i + 1, k, by omega, by omega, by go_num, rfl, rfl, s, m, F, rs7, G6, s', m', F', fl', G7, hJ7, ⟨hf, hn, hk, hl, hm⟩, ⟨hf', hn', hk7, by omega, by omega⟩, hb7⟩
        case measure => simp [intOf]; omega
    · have hfl := j_flushF hD hM hJJ.a hf (by rw [List.take_zero]; exact hk) (by omega) (by omega)
      by_cases h1 : i < ln
      all_goals
        first
          | (have i0 : (i : Int) < (ln : Int) := by omega
             have i1 : ¬ (i : Int) < 40 := by omega)
          | (have i0 : ¬ (i : Int) < (ln : Int) := by omega)
        go_wp2_with (first
          | ((go_at_call 10)
             (first
               | (have _t := hfl
                  refine hfl.mono ?_
                  rintro e w8 ⟨rfl, s8, m8, F8, hS8, hf8, hn8, hk8, hl8, hm8, _⟩
                  have hJ8 := hJJ.step hD hS8
                  rw [hn] at hn8 hl8 hm8
                  have hfl2 := j_flushF hD hM hJ8.b hf' hk' (by omega) (by omega)
                  clear hfl hS8 _t)
               | (have _t := hfl2
                  refine hfl2.mono ?_
                  rintro e w9 ⟨rfl, s9, m9, F9, hS9, hf9, hn9, hk9, hl9, hm9, _⟩
                  have hJ9 := (hJ8.symm.step hD hS9).symm
                  rw [hn'] at hn9 hl9 hm9
                  clear hfl2 hS9 _t))))
        have hub := stands_uniq (dg := dgS) (B := byOf (holds s8)) (B' := byOf (holds s9)) (N := 64 * 60) (rs := rs) (fun k _ => hf8.byt.holds _ _) (fun k _ => hf9.byt.holds _ _) (by have h9 := hk8; unfold Keeps at h9; rwa [hn8] at h9) (by have h9 := hk9; unfold Keeps at h9; rwa [hn9] at h9)
        have hb8 : ∀ k, byOf (holds s8) k < 256 := fun k => hf8.byt.holds _ _
        have hb9 : ∀ k, byOf (holds s9) k < 256 := fun k => hf9.byt.holds _ _
        obtain ⟨M, hMM⟩ : ∃ M, M = 64 * 60 := ⟨_, rfl⟩
        obtain ⟨S1, hS1⟩ : ∃ S1, S1 = strN (byOf (holds s8)) M := ⟨_, rfl⟩
        have hS2 : S1 = strN (byOf (holds s9)) M := by rw [hS1, hMM]; exact (strN_eq hb8 hb9).2 ⟨rfl, fun j hj => hub j hj⟩
        have HS1 : Hid (S1 = strN (byOf (holds s8)) M) := hS1
        have HS2 : Hid (S1 = strN (byOf (holds s9)) M) := hS2
        obtain ⟨R, hR⟩ : ∃ R, R = M - endOf 0 rs := ⟨_, rfl⟩
        have bd : Below w9.heap.size w9 w9.drew := (Below.refl _ w9).drew
        have hJd := hJ9.next hD bd
        have hco := content_any hD hM hJd.a.dev.dev hf8.sound
        rw [hn8, ← hMM] at hco
        clear hub hS1 hS2
        refine wp_region_held_drew (S := fun _ => True) (by kernel_rfl) trivial (fun hHeld => ?_)
        refine takeTo 0 (some 113) (ptr p) rfl rfl (by kernel_rfl) (by kernel_rfl) (by kernel_rfl) (fun _ _ _ h => h) (by rfl) (fun _ _ => rfl) trivial ?_
        simp only [Act.put, List.setIfInBounds_toArray, List.set_cons_zero, List.set_cons_succ]
        refine takeTo 3 (some 116) (ptr p') rfl rfl (by kernel_rfl) (by kernel_rfl) (by kernel_rfl) (fun _ _ _ h => h) (by rfl) (fun _ _ => rfl) trivial ?_
        simp only [Act.put, List.setIfInBounds_toArray, List.set_cons_zero, List.set_cons_succ]
        refine callTo 1 (some 114) 12 #[ptr p] (by kernel_rfl) rfl rfl (by rfl) (by kernel_rfl) hco ?_
        rintro e w10 ⟨a1, C1, rfl, hy1, hb10⟩
        refine ⟨_, rfl, trivial, anyH_mono (S' := fun wz => ByIn wz a1 M C1 (byOf (holds s8))) (fun _ _ => trivial) _ _ _ _ ?_⟩
        have hJ10 := hJd.next hD hb10
        have hco2 := content_any hD hM hJ10.b.dev.dev hf9.sound
        rw [hn9, ← hMM] at hco2
        simp only [Act.put, List.setIfInBounds_toArray, List.set_cons_zero, List.set_cons_succ]
        refine takeTo 2 (some 115) (.string ⟨S1.toArray⟩) rfl rfl (by kernel_rfl) (by kernel_rfl) (by kernel_rfl) (fun _ _ _ h => h) (by rfl) (fun wz hz => run_convJ _ rfl (.slice a1 M C1) rfl wz _ (by rw [HS1.out]; exact conv_bytesN C1 hz.at_ hz.byt (fun e => (hz.nil e).1))) hy1 ?_
        simp only [Act.put, List.setIfInBounds_toArray, List.set_cons_zero, List.set_cons_succ]
        refine callTo 4 (some 117) 12 #[ptr p'] (by kernel_rfl) rfl rfl (by rfl) (by kernel_rfl) hco2 ?_
        rintro e w11 ⟨a2, C2, rfl, hy2, hb11⟩
        have hz1 := hy1.below hb11 (Nat.le_refl _)
        refine ⟨_, rfl, hz1, anyH_mono (S' := fun wz => ByIn wz a1 M C1 (byOf (holds s8)) ∧ ByIn wz a2 M C2 (byOf (holds s9))) (fun _ h => h.1) _ _ _ _ ?_⟩
        have hJ11 := hJ10.next hD hb11
        have hfr := j_free hD hJ11.a hf8.n2
        rw [hn8, ← hMM, ← hR] at hfr
        simp only [Act.put, List.setIfInBounds_toArray, List.set_cons_zero, List.set_cons_succ]
        refine takeTo 5 (some 118) (.string ⟨S1.toArray⟩) rfl rfl (by kernel_rfl) (by kernel_rfl) (by kernel_rfl) (fun _ _ _ h => h) (by rfl) (fun wz hz => run_convJ _ rfl (.slice a2 M C2) rfl wz _ (by rw [HS2.out]; exact conv_bytesN C2 hz.2.at_ hz.2.byt (fun e => (hz.2.nil e).1))) ⟨hz1, hy2⟩ ?_
        simp only [Act.put, List.setIfInBounds_toArray, List.set_cons_zero, List.set_cons_succ]
        refine takeTo 6 (some 119) (.bool true) rfl rfl (by kernel_rfl) (by kernel_rfl) (by kernel_rfl) (fun _ _ _ h => h) (by rfl) (fun wz _ => run_eqlS _ _ rfl S1 rfl rfl wz) ⟨hz1, hy2⟩ ?_
        simp only [Act.put, List.setIfInBounds_toArray, List.set_cons_zero, List.set_cons_succ]
        refine takeTo 7 (some 120) (.bool true) rfl rfl (by kernel_rfl) (by kernel_rfl) (by kernel_rfl) (fun _ _ _ h => h) (by rfl) (fun _ _ => rfl) ⟨hz1, hy2⟩ ?_
        simp only [Act.put, List.setIfInBounds_toArray, List.set_cons_zero, List.set_cons_succ]
        refine takeTo 8 (some 121) (ptr j) rfl rfl (by kernel_rfl) (by kernel_rfl) (by kernel_rfl) (fun _ _ _ h => h) (by rfl) (fun _ _ => rfl) ⟨hz1, hy2⟩ ?_
        simp only [Act.put, List.setIfInBounds_toArray, List.set_cons_zero, List.set_cons_succ]
        refine takeTo 10 (some 123) (ptr k) rfl rfl (by kernel_rfl) (by kernel_rfl) (by kernel_rfl) (fun _ _ _ h => h) (by rfl) (fun _ _ => rfl) ⟨hz1, hy2⟩ ?_
        simp only [Act.put, List.setIfInBounds_toArray, List.set_cons_zero, List.set_cons_succ]
        refine callTo 9 (some 122) 13 #[ptr j] (by kernel_rfl) rfl rfl (by rfl) (by kernel_rfl) hfr ?_
        rintro e w12 ⟨rfl, hb12⟩
        have hz2 := hz1.below hb12 (Nat.le_refl _)
        have hy3 := hy2.below hb12 (Nat.le_refl _)
        refine ⟨_, rfl, ⟨hz2, hy3⟩, ?_⟩
        have hJ12 := hJ11.next hD hb12
        have hfr2 := j_free hD hJ12.b hf9.n2
        rw [hn9, ← hMM, ← hR] at hfr2
        simp only [Act.put, List.setIfInBounds_toArray, List.set_cons_zero, List.set_cons_succ]
        refine callTo 11 (some 124) 13 #[ptr k] (by kernel_rfl) rfl rfl (by rfl) (by kernel_rfl) hfr2 ?_
        rintro e w13 ⟨rfl, hb13⟩
        have hz3 := hz2.below hb13 (Nat.le_refl _)
        have hy4 := hy3.below hb13 (Nat.le_refl _)
        refine ⟨_, rfl, ⟨hz3, hy4⟩, ?_⟩
        have hJ13 := hJ12.next hD hb13
        simp only [Act.put, List.setIfInBounds_toArray, List.set_cons_zero, List.set_cons_succ]
        refine takeTo 12 (some 125) (.bool true) rfl rfl (by kernel_rfl) (by kernel_rfl) (by kernel_rfl) (fun _ _ _ h => h) (by rfl) (fun wz _ => run_eqlI _ _ rfl (R : Int) rfl rfl wz) ⟨hz3, hy4⟩ ?_
        simp only [Act.put, List.setIfInBounds_toArray, List.set_cons_zero, List.set_cons_succ]
        refine takeTo 13 (some 126) (.bool true) rfl rfl (by kernel_rfl) (by kernel_rfl) (by kernel_rfl) (fun _ _ _ h => h) (by rfl) (fun _ _ => rfl) ⟨hz3, hy4⟩ ?_
        simp only [Act.put, List.setIfInBounds_toArray, List.set_cons_zero, List.set_cons_succ]
        refine takeTo 14 (some 4) (.bool true) rfl rfl (by kernel_rfl) (by kernel_rfl) (by kernel_rfl) (fun _ _ _ h => h) (by rfl) (fun _ _ => rfl) ⟨hz3, hy4⟩ ?_
        simp only [Act.put, List.setIfInBounds_toArray, List.set_cons_zero, List.set_cons_succ]
        refine wpAnyH_done (by kernel_rfl) ?_ _
        go_wp2
        go_ret
        exact ⟨rfl, hJ13.a.dev.below⟩
end Go.Proofs.YtfgoongfmidpgabDoor
