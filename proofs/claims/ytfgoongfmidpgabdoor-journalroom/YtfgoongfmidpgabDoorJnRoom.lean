/- JournalRoom, walked. -/
import Derived.Test.YtfgoongfmidpgabDoorJoint09
import Derived.Test.YtfgoongfmidpgabDoorJoint11
namespace Go.Proofs.YtfgoongfmidpgabDoor
open Go.ChangeShapes Go.WideShapes Go.ChangeAt Go.RowKit
set_option linter.unusedVariables false

variable {D : DevRep}

/-- What JournalRoom holds behind i records. -/
def RoomI (D : DevRep) (w : World) (j p c : Nat) (s : DS) (m : Nat) (F : Nat → Prop) (wr : World) : Prop := ∃ rs G, JIn D w.heap.size w wr j p s c m F rs 0 G

theorem addErr91 {rs : List RC} {N L : Nat} (h : L = 0 ∨ 8192 < L) : addErr rs N L = 91 := by
  unfold addErr
  rw [if_pos (by omega)]
theorem addErr92 {rs : List RC} {N L : Nat} (h1 : 1 ≤ L) (h2 : L ≤ 8192) (h : N < endOf 0 rs + (8 + jrnd L)) : addErr rs N L = 92 := by
  unfold addErr
  rw [if_neg (by omega), if_pos (by omega)]
theorem addErr00 {rs : List RC} {N L : Nat} (h1 : 1 ≤ L) (h2 : L ≤ 8192) (h : endOf 0 rs + (8 + jrnd L) ≤ N) : addErr rs N L = 0 := by
  unfold addErr
  rw [if_neg (by omega), if_neg (by omega)]
theorem addRs_no {rs : List RC} {N L : Nat} {f : Nat → Nat} (h : addErr rs N L ≠ 0) : addRs rs N L f = rs := by unfold addRs; rw [if_neg h]
theorem addRs_yes {rs : List RC} {N L : Nat} {f : Nat → Nat} (h : addErr rs N L = 0) : addRs rs N L f = rs ++ [⟨L, f⟩] := by unfold addRs; rw [if_pos h]
theorem endOf_snoc (rs : List RC) (r : RC) : endOf 0 (rs ++ [r]) = endOf 0 rs + (8 + jrnd r.L) := by
  rw [endOf_append]
  show endOf 0 rs + 8 + jrnd r.L = _
  omega

set_option maxRecDepth 100000 in
set_option maxHeartbeats 16000000 in
theorem room_walk (hD : DevOk D) (hM : DevMore D) (w : World) (hG : Glob Hc Kc w) (z : Int) (hz : i64ok z) (la : Option Addr) (ln lc : Nat) (ls : List RC) (hls : Rl w la ls) (hln : ls.length = ln) :
    Calls Tryd.prog 4 #[.int .i64 z, .slice la ln lc] w fun e w' => e = .returned (.bool true) ∧ Below w.heap.size w w' := by
  have hjn := jp_nil
  have hB1 : 1 < w.heap.size := hG.1
  have hlm := hls.1
  unfold maxLen at hlm
  have HLN : Hid (ln = ls.length) := hln.symm
  have hlm2 : ln ≤ 9223372036854775807 := by omega
  clear hln hlm
  have hpk := pick_any z 40 w hz (by decide) (by decide)
  have hpl := pickN_lt z 40 (by decide)
  obtain ⟨n, hn⟩ : ∃ n, n = 1 + pickN z 40 := ⟨_, rfl⟩
  have hn1 : 1 ≤ n := by omega
  have hn2 : n ≤ 40 := by omega
  have en : 1 + ((pickN z 40 : Nat) : Int) = (n : Int) := by omega
  have hnb : (n : Int) ≤ 40 := by omega
  have hnew := in_new (B := w.heap.size) (w0 := w) hD n hn1 (by omega) (Below.refl _ _) (Nat.le_refl _)
  obtain ⟨N, hN⟩ : ∃ N, N = 64 * n := ⟨_, rfl⟩
  have eN : 64 * (n : Int) = (N : Int) := by omega
  have hNb : (N : Int) ≤ 2560 := by omega
  have HN : Hid (N = 64 * n) := hN
  generalize pickN z 40 = pk at hpk en hn hpl
  clear hn hN
  go_enter Tryd.func4, Tryd.ntmps4
  go_wp2_with (first
    | ((go_at_call 14)
       (refine hpk.mono ?_)
       (rintro e wz ⟨rfl, hzz⟩)
       (obtain rfl : w = wz := hzz.symm)
       (clear hpk))
    | ((go_at_call 6)
       (refine hnew.mono ?_)
       (rintro e w1 ⟨p, c, F, rfl, hI1, hb1, hF1, hc1⟩)
       (clear hnew hb1 hF1 hc1)
       (have hfm := j_formatF hD hM hI1 (fine_fresh n hn1 (by omega)) (by omega) (by simp [fresh])))
    | ((go_at_call 7)
       (refine Calls.mono hfm ?_)
       (rintro e w2 ⟨j, s2, m2, F2, G2, rfl, hJ2, hf2, hn2', hk2, hl2, hm2, ho2, hg2, hG2⟩)
       (clear hfm ho2 hg2 hG2)
       (have hsn : s2.n = n := hn2')
       (have hl2' : s2.log.length ≤ 0 + (n + 4) := hl2)
       (have hm2' : m2 ≤ 0 + (n + 4) := hm2)
       (have hal := alive_j hD hM w2 (hG.below hJ2.dev.below hB1))
       (have hjn2 := hjn j)
       (clear hn2' hl2 hm2 hI1 hjn))
    | ((go_at_call 8)
       (refine hal.mono ?_)
       (rintro e w3 ⟨rfl, hb3⟩)
       (clear hal)
       (have hJ3 := hJ2.next hD hb3)
       (have hfr := j_free hD hJ3 hf2.n2)
       (rw [show 64 * s2.n - endOf 0 [] = N by (rw [hsn]; exact HN.out.symm)] at hfr)
       (clear hJ2 hb3))
    | ((go_at_call 13)
       (refine hfr.mono ?_)
       (rintro e w4 ⟨rfl, hb4⟩)
       (clear hfr)
       (have hJ4 := hJ3.next hD hb4)))
  go_loopw [10] (fun iv wr => ∃ i : Nat, i ≤ ln ∧ i ≤ 40 ∧ iv = .int .i64 (i : Nat) ∧ RoomI D w j p c s2 m2 F2 wr) (fun iv _ => 40 - (intOf iv).toNat)
  case atStart => exact ⟨0, Nat.zero_le _, Nat.zero_le _, rfl, [], G2, hJ4⟩
  case round =>
    obtain ⟨i, hil, hi40, rfl, rs, G, hJ⟩ := hrel
    clear hJ4 hJ3 hk2
    by_cases hlt : i < ln ∧ i < 40
    · have i0 : (i : Int) < (ln : Int) := by omega
      have i1 : (i : Int) < 40 := by omega
      have i2 : (0 : Int) ≤ (i : Int) := by omega
      obtain ⟨r, hr⟩ : ∃ r, ls[i]? = some r := ⟨_, List.getElem?_eq_getElem (by rw [← HLN.out]; exact hlt.1)⟩
      obtain ⟨x, o, ad, C, e9, hx, hc, hby⟩ := hls.2 i r hr
      subst e9
      obtain ⟨L, f⟩ := r
      have hc' : w.cell? ⟨x, o + i, none⟩ = some (.slice ad L C) := hc
      have hby' : ByIn w ad L C f := hby
      have hLm := hby'.max
      unfold maxLen at hLm
      have hL0 : (0 : Int) ≤ (L : Int) := by omega
      have hcell : ∀ W : World, Below w.heap.size w W → W.cell? ⟨x, o + i, none⟩ = some (.slice ad L C) := fun W hW => (hW.cell (p := ⟨x, o + i, none⟩) hx).trans hc'
      have c0 := hcell wr hJ.dev.below
      have hszr := hJ.sized
      rw [hsn, ← HN.out] at hszr
      have hfr := j_free hD hJ hf2.n2
      obtain ⟨E, hE⟩ : ∃ E, E = endOf 0 rs := ⟨_, rfl⟩
      have HE : Hid (E = endOf 0 rs) := hE
      obtain ⟨FR, hFR⟩ : ∃ FR, FR = N - E := ⟨_, rfl⟩
      have HFR : Hid (FR = N - E) := hFR
      rw [hsn, ← HN.out, ← hE, ← hFR] at hfr
      have hEN : E ≤ N := by rw [hE]; exact hszr.2.1
      have hFRb : (FR : Int) ≤ 2560 := by omega
      obtain ⟨J, hJJ⟩ : ∃ J, J = jrnd L := ⟨_, rfl⟩
      have eJ : ((L : Int) + 7) / 8 * 8 = (J : Int) := by rw [hJJ]; unfold jrnd; omega
      have HJ : Hid (J = jrnd L) := hJJ
      have hadd0 := fun (W : World) (hW : JIn D w.heap.size w W j p s2 c m2 F2 rs 0 G) => j_add hD hG hB1 hW hf2.n2 (hby'.below hW.dev.below (Nat.le_refl _))
      rw [hsn, ← HN.out] at hadd0
      clear hszr hc hc' hby hE hFR hJJ hr
      by_cases hbad : L = 0 ∨ 8192 < L
      · have hae : addErr rs N L = 91 := addErr91 hbad
        rw [hae, addRs_no (by rw [hae]; decide)] at hadd0
        rcases hbad with h0 | h0
        all_goals
          first
            | (subst h0
               clear eJ)
            | (have j0 : ¬ (L : Int) = 0 := by omega
               have j1 : (8192 : Int) < (L : Int) := by omega)
          go_wp2_with (first
            | ((go_at_call 13)
               (first
                 | (have _t := hfr
                    refine hfr.mono ?_
                    rintro e w5 ⟨rfl, hb5⟩
                    clear hfr _t
                    have hJ5 := hJ.next hD hb5
                    have c5 := hcell w5 hJ5.dev.below
                    have hadd := hadd0 w5 hJ5)
                 | (have _t := hfr2
                    refine hfr2.mono ?_
                    rintro e w7 ⟨rfl, hb7⟩
                    clear hfr2 _t
                    have hJ7 := hJ6.next hD hb7)))
            | ((go_at_call 9)
               (refine hadd.mono ?_)
               (rintro e w6 ⟨rfl, G6, hS6⟩)
               (clear hadd)
               (have hJ6 := hS6.jin)
               (have c6 := hcell w6 hJ6.dev.below)
               (have hfr2 := j_free hD hJ6 hf2.n2)
               (rw [hsn, ← HN.out, ← HE.out, ← HFR.out] at hfr2)))
          all_goals (
            go_roundw
            case rel => exact ⟨i + 1, by omega, by omega, by go_num, rs, G6, hJ7⟩
            case measure => simp [intOf]; omega)
      · have j0 : ¬ (L : Int) = 0 := by omega
        have j1 : ¬ (8192 : Int) < (L : Int) := by omega
        have hLi : (L : Int) ≤ 8192 := by omega
        have hJb : (J : Int) ≤ 8200 := by omega
        have hJ0 : (0 : Int) ≤ (J : Int) := by omega
        by_cases hfit : 8 + J ≤ FR
        · have hae : addErr rs N L = 0 := addErr00 (by omega) (by omega) (by rw [← HE.out, ← HJ.out]; have := HFR.out; omega)
          rw [hae, addRs_yes hae] at hadd0
          have hti : 8 + (J : Int) ≤ (FR : Int) := by omega
          obtain ⟨F8, hF8⟩ : ∃ F8, F8 = FR - (8 + J) := ⟨_, rfl⟩
          have eF : (FR : Int) - (8 + (J : Int)) = (F8 : Int) := by omega
          have HF8 : Hid (N - endOf 0 (rs ++ [⟨L, f⟩]) = F8) := by
            show N - endOf 0 (rs ++ [⟨L, f⟩]) = F8
            rw [endOf_snoc, ← HE.out]
            show N - (E + (8 + jrnd L)) = F8
            rw [← HJ.out]
            have := HFR.out
            omega
          clear hF8
          go_wp2_with (first
            | ((go_at_call 13)
               (first
                 | (have _t := hfr
                    refine hfr.mono ?_
                    rintro e w5 ⟨rfl, hb5⟩
                    clear hfr _t
                    have hJ5 := hJ.next hD hb5
                    have c5 := hcell w5 hJ5.dev.below
                    have hadd := hadd0 w5 hJ5)
                 | (have _t := hfr2
                    refine hfr2.mono ?_
                    rintro e w7 ⟨rfl, hb7⟩
                    clear hfr2 _t
                    have hJ7 := hJ6.next hD hb7)))
            | ((go_at_call 9)
               (refine hadd.mono ?_)
               (rintro e w6 ⟨rfl, G6, hS6⟩)
               (clear hadd)
               (have hJ6 := hS6.jin)
               (have c6 := hcell w6 hJ6.dev.below)
               (have hfr2 := j_free hD hJ6 hf2.n2)
               (rw [hsn, ← HN.out, HF8.out] at hfr2)))
          · rename_i hx _ _
            exfalso
            rcases hx with hx | hx
            · exact j0 (eq_of_beq hx)
            · omega
          go_roundw
          case rel => exact ⟨i + 1, by omega, by omega, by go_num, _, G6, hJ7⟩
          case measure => simp [intOf]; omega
        · have hae : addErr rs N L = 92 := addErr92 (by omega) (by omega) (by rw [← HE.out, ← HJ.out]; have := HFR.out; omega)
          rw [hae, addRs_no (by rw [hae]; decide)] at hadd0
          have hti : ¬ 8 + (J : Int) ≤ (FR : Int) := by omega
          go_wp2_with (first
            | ((go_at_call 13)
               (first
                 | (have _t := hfr
                    refine hfr.mono ?_
                    rintro e w5 ⟨rfl, hb5⟩
                    clear hfr _t
                    have hJ5 := hJ.next hD hb5
                    have c5 := hcell w5 hJ5.dev.below
                    have hadd := hadd0 w5 hJ5)
                 | (have _t := hfr2
                    refine hfr2.mono ?_
                    rintro e w7 ⟨rfl, hb7⟩
                    clear hfr2 _t
                    have hJ7 := hJ6.next hD hb7)))
            | ((go_at_call 9)
               (refine hadd.mono ?_)
               (rintro e w6 ⟨rfl, G6, hS6⟩)
               (clear hadd)
               (have hJ6 := hS6.jin)
               (have c6 := hcell w6 hJ6.dev.below)
               (have hfr2 := j_free hD hJ6 hf2.n2)
               (rw [hsn, ← HN.out, ← HE.out, ← HFR.out] at hfr2)))
          · rename_i hx _ _
            exfalso
            rcases hx with hx | hx
            · exact j0 (eq_of_beq hx)
            · omega
          go_roundw
          case rel => exact ⟨i + 1, by omega, by omega, by go_num, rs, G6, hJ7⟩
          case measure => simp [intOf]; omega
    · have hcl := j_clearF hD hM hJ hf2 (by omega) (by omega)
      by_cases h1 : i < ln
      all_goals
        first
          | (have i0 : (i : Int) < (ln : Int) := by omega
             have i1 : ¬ (i : Int) < 40 := by omega)
          | (have i0 : ¬ (i : Int) < (ln : Int) := by omega)
        go_wp2_with (first
          | ((go_at_call 15)
             (refine hcl.mono ?_)
             (rintro e w5 ⟨rfl, s5, m5, F5, hS5, hf5, hn5, hk5, hl5, hm5⟩)
             (clear hcl)
             (have hJ5 := hS5.jin)
             (have hfr := j_free hD hJ5 hf5.n2)
             (rw [show 64 * s5.n - endOf 0 [] = N by (rw [hn5, hsn]; exact HN.out.symm)] at hfr))
          | ((go_at_call 13)
             (refine hfr.mono ?_)
             (rintro e w6 ⟨rfl, hb6⟩)
             (clear hfr)
             (have hJ6 := hJ5.next hD hb6)
             (have hrec := j_records hD hJ6 hf5.n2))
          | ((go_at_call 16)
             (refine Calls.mono hrec ?_)
             (rintro e w7 ⟨hb7, a7, cp7, rfl, hr7⟩)
             (clear hrec)
             (have hJ7 := hJ6.next hD hb7)
             (have hfd := j_flushed hD hJ7 hf5.n2))
          | ((go_at_call 17)
             (refine hfd.mono ?_)
             (rintro e w8 ⟨rfl, hb8⟩)
             (clear hfd)
             (have hJ8 := hJ7.next hD hb8)))
        go_ret
        exact ⟨rfl, hJ8.dev.below⟩
end Go.Proofs.YtfgoongfmidpgabDoor
