/- JournalPlays, walked. -/
import Derived.Test.YtoiaclmfljoomaaDoorJnPlayO
import Derived.Test.YtoiaclmfljoomaaDoorJoint09
namespace Go.Proofs.YtoiaclmfljoomaaDoor
open Go.ChangeShapes Go.WideShapes Go.ChangeAt Go.RowKit
set_option linter.unusedVariables false

variable {D : DevRep}

set_option maxRecDepth 100000 in
set_option maxHeartbeats 32000000 in
theorem plays_walk (hD : DevOk D) (hM : DevMore D) (w : World) (hG : Glob Hc Kc w) (z : Int) (hz : i64ok z) (la : Option Addr) (ln lc : Nat) (O : Nat → OpJ) (hO : ScrJ w la ln O) :
    Calls Tryd.prog 3 #[.int .i64 z, .slice la ln lc] w fun e w' => e = .returned (.bool true) ∧ Below w.heap.size w w' := by
  have hjn := jp_nil
  have hpn := pd_nil
  have hB1 : 1 < w.heap.size := hG.1
  have hlm := hO.1
  unfold maxLen at hlm
  have hlm2 : ln ≤ 9223372036854775807 := by omega
  clear hlm
  have hpk := pick_any z 40 w hz (by decide) (by decide)
  have hpl := pickN_lt z 40 (by decide)
  obtain ⟨n, hn⟩ : ∃ n, n = 1 + pickN z 40 := ⟨_, rfl⟩
  have hn1 : 1 ≤ n := by omega
  have hn2 : n ≤ 40 := by omega
  have en : 1 + ((pickN z 40 : Nat) : Int) = (n : Int) := by omega
  have hnb : (n : Int) ≤ 40 := by omega
  have hnew := in_new (B := w.heap.size) (w0 := w) hD n hn1 (by omega) (Below.refl _ _) (Nat.le_refl _)
  obtain ⟨N, hN⟩ : ∃ N, N = 64 * n := ⟨_, rfl⟩
  have eN : 64 * (n : Int) = (N : Int) := by omega
  have hNb : (N : Int) ≤ 2560 := by omega
  have HN : Hid (N = 64 * n) := hN
  generalize pickN z 40 = pk at hpk en hn hpl
  clear hn hN
  go_enter Tryd.func3, Tryd.ntmps3
  go_wp2_with (first
    | ((go_at_call 9)
       (refine hpk.mono ?_)
       (rintro e wz ⟨rfl, hzz⟩)
       (obtain rfl : w = wz := hzz.symm)
       (clear hpk))
    | ((go_at_call 10)
       (refine hnew.mono ?_)
       (rintro e w1 ⟨p, c, F, rfl, hI1, hb1, hF1, hc1⟩)
       (clear hnew hb1 hF1 hc1)
       (have hfm := j_formatF hD hM hI1 (fine_fresh n hn1 (by omega)) (by omega) (by simp [fresh]))
       (have hpn1 := hpn p))
    | ((go_at_call 11)
       (refine Calls.mono hfm ?_)
       (rintro e w2 ⟨j, s2, m2, F2, G2, rfl, hJ2, hf2, hn2', hk2, hl2, hm2, ho2, hg2, hG2⟩)
       (clear hfm ho2 hg2 hG2)
       (have hsn : s2.n = n := hn2')
       (have hl2' : s2.log.length ≤ 0 + (n + 4) := hl2)
       (have hm2' : m2 ≤ 0 + (n + 4) := hm2)
       (have hal := alive_j hD hM w2 (hG.below hJ2.dev.below hB1))
       (have hjn2 := hjn j)
       (clear hn2' hl2 hm2 hI1))
    | ((go_at_call 12)
       (refine hal.mono ?_)
       (rintro e w3 ⟨rfl, hb3⟩)
       (clear hal)
       (have hJ3 := hJ2.next hD hb3)
       (clear hJ2 hb3)))
  go_loopw [6, 8, 10, 11, 12] (fun dv jv v fv iv wr => ∃ (i p j fl : Nat) (y : Value), i ≤ ln ∧ i ≤ 60 ∧ dv = ptr p ∧ jv = ptr j ∧ v = y ∧ fv = .int .i64 (fl : Nat) ∧ iv = .int .i64 (i : Nat) ∧ PlayI D w n i p j y fl wr) (fun _ _ _ _ iv _ => 60 - (intOf iv).toNat)
  case atStart => exact ⟨0, p, j, 0, _, Nat.zero_le _, Nat.zero_le _, rfl, rfl, rfl, rfl, rfl, s2, c, m2, F2, G2, fun _ => False, [], hJ3, OwnR.nil hJ3.dev.sz, fun k hk => hk.elim, hf2.rest, hsn, hk2, by omega, by omega, fun r hr => by cases hr⟩
  case round =>
    clear hJ3 hf2 hk2 hjn2 hpn1 hl2' hm2' hsn
    obtain ⟨i, p1, j1, fl, v, hil, hi60, rfl, rfl, ev, rfl, rfl, s, c1, m, F1, G1, X, rs, hJ, hR, hA, hf, hsn, hk, hl, hm, hb⟩ := hrel
    obtain rfl := ev.symm
    obtain ⟨va, vc, rfl, hrl0⟩ := hR.rl
    have hszr := hJ.sized
    rw [hsn] at hszr
    obtain ⟨M, hMe⟩ : ∃ M, M = rs.length := ⟨_, rfl⟩
    have HM : Hid (M = rs.length) := hMe
    rw [← hMe] at hR ⊢
    have hM1 : M ≤ 2560 := by omega
    have hflM : fl ≤ M := by omega
    clear hMe hrl0
    by_cases hlt : i < ln ∧ i < 60
    · have i0 : (i : Int) < (ln : Int) := by omega
      have i1 : (i : Int) < 60 := by omega
      have i2 : (0 : Int) ≤ (i : Int) := by omega
      obtain ⟨x, o, e9, hx, hop⟩ := hO.2 i hlt.1
      subst e9
      have hbw : Below w.heap.size w wr := hJ.dev.below
      have hopW := hop.below hx hbw (Nat.le_refl _)
      generalize O i = op at hop hopW
      have hoi : i64ok op.i := hopW.oi
      have hbyB : ∀ b q, op.a = some ⟨b, q, none⟩ → op.L ≠ 0 → b < w.heap.size := by
        intro b q e h0
        have := hop.by_.at_
        rcases this with h9 | ⟨b', q', e', h9, _⟩
        · exact absurd h9 h0
        · rw [show op.a = some ⟨b', q', none⟩ from e'] at e
          cases e
          exact h9
      have HBY : Hid (∀ b q, op.a = some ⟨b, q, none⟩ → op.L ≠ 0 → b < w.heap.size) := hbyB
      have HBY0 : Hid (ByIn w op.a op.L op.C op.b) := hop.by_
      have hoff : Off F1 c1 wr.heap.size := in_offs hD hJ.dev _ (Nat.le_refl _)
      have hofG : ¬ G1 wr.heap.size := fun h => Nat.lt_irrefl _ (hJ.lt _ h)
      clear hop hbyB
      by_cases k1 : op.k = 1
      · obtain ⟨AE, hAEe⟩ : ∃ AE, AE = addErr rs N op.L := ⟨_, rfl⟩
        have HAE : Hid (AE = addErr rs N op.L) := hAEe
        have hLm : op.L ≤ 9223372036854775807 := by have := HBY0.out.max; unfold maxLen at this; omega
        clear hAEe
        by_cases hAE0 : AE = 0
        · subst hAE0
          as_aux_lemma =>
            have hadz := addErr_zero HAE.out.symm
            have hmore := sized_more (f := op.b) hszr.1 HAE.out.symm
            obtain ⟨RT, hRT⟩ : ∃ RT, RT = rs ++ [(⟨op.L, op.b⟩ : RC)] := ⟨_, rfl⟩
            have HRT : Hid (RT = rs ++ [(⟨op.L, op.b⟩ : RC)]) := hRT
            rw [← hRT] at hmore
            have hszT : Sized RT ∧ endOf 0 RT ≤ 64 * n ∧ True := ⟨hmore.1, by rw [← HN.out]; exact hmore.2, trivial⟩
            have hfT := hf.n2
            have hsnT := hsn
            have HAR : Hid (addRs rs N op.L op.b = RT) := by
              show addRs rs N op.L op.b = RT
              unfold addRs
              rw [if_pos HAE.out.symm, hRT]
            obtain ⟨MT, hMT⟩ : ∃ MT, MT = M + 1 := ⟨_, rfl⟩
            have HMT2 : Hid (MT = M + 1) := hMT
            have HMf : Hid (MT = RT.length) := by show MT = _; rw [hRT, List.length_append, ← HM.out, hMT]; rfl
            have hMTb : MT ≤ 2561 := by omega
            have hL8 : op.L ≤ 8192 := hadz.2.1
            have hL1 : 1 ≤ op.L := hadz.1
            clear hRT hMT hadz hmore
            obtain ⟨ET, hET⟩ : ∃ ET, ET = endOf 0 RT := ⟨_, rfl⟩
            have HET : Hid (ET = endOf 0 RT) := hET
            obtain ⟨FT, hFT⟩ : ∃ FT, FT = N - ET := ⟨_, rfl⟩
            have HFT : Hid (FT = N - ET) := hFT
            have hETN : ET ≤ N := by rw [hET, HN.out]; exact hszT.2.1
            have eF : (N : Int) - (ET : Int) = (FT : Int) := by omega
            have hETb : (ET : Int) ≤ 2560 := by omega
            clear hET hFT
            go_wp2_with (first
            | ((refine at_dst 62 rfl ?_)
               (refine wpList_is (some 62) (.pointer (some ⟨x, o + i * 4, none⟩)) rfl (by rfl) (run_at_opJ _ _ rfl x o i ln lc rfl rfl hlt.1 _) ?_))
            | ((refine at_dst 63 rfl ?_)
               (refine wpList_is (some 63) (.agg (ocellJ op).toArray) rfl (by rfl) (run_load_opJ (.tmp 62) rfl x (o + i * 4) rfl op wr hopW) ?_))
            | ((refine at_dst 13 rfl ?_)
               (refine wpList_is_w (some 13) (.pointer (some ⟨wr.heap.size, 0, none⟩)) (wr.alloc (.cells #[.int .i64 0, .slice none 0 0, .int .i64 0, .slice none 0 0] 36)) rfl (by rfl) (by kernel_rfl) ?_))
            | ((refine at_stJ 36 (.tmp 13) (.tmp 63) rfl ?_)
               (refine wpList_copy_opJ wr op rfl (.tmp 13) (.tmp 63) rfl rfl rfl ?_)
               (intro W0 hH0 hb0)
               (have hJ0 := hJ.next hD hb0)
               (have hR0 := hR.below hb0)
               (have hby0 : ByIn W0 op.a op.L op.C op.b := hopW.by_.below hb0 (Nat.le_refl _))
               (have hbo0 : BoIn W0 op.ka op.kl op.kc op.kb := hopW.bo.below hb0 (Nat.le_refl _))
               (have d0 : W0.cell? ⟨wr.heap.size, 0, none⟩ = some (.int .i64 op.k) := hH0.cell 0)
               (have d1 : W0.cell? ⟨wr.heap.size, 1, none⟩ = some (.slice op.a op.L op.C) := hH0.cell 1)
               (have d2 : W0.cell? ⟨wr.heap.size, 2, none⟩ = some (.int .i64 op.i) := hH0.cell 2)
               (have d3 : W0.cell? ⟨wr.heap.size, 3, none⟩ = some (.slice op.ka op.kl op.kc) := hH0.cell 3)
               (have hqlt : wr.heap.size < W0.heap.size := hH0.lt)
               (clear hJ hR hopW hb0)
               (have c0z := d0))
            | ((go_at_call 13)
               (have hadl := add_l (c := vc) (rlP_of hR0) HM.out hszr.1 (by omega) op.a op.L op.C N hLm (by omega))
               (rw [← HAE.out] at hadl)
               (refine hadl.mono ?_)
               (rintro e W1 ⟨rfl, hb1⟩)
               (have hJ1 := hJ0.next hD hb1)
               (have hR1 := hR0.below hb1)
               (have g1 : W1.cell? ⟨wr.heap.size, 1, none⟩ = some (.slice op.a op.L op.C) := (hb1.cell (p := ⟨wr.heap.size, 1, none⟩) hqlt).trans d1)
               (have hq1 : wr.heap.size < W1.heap.size := Nat.lt_of_lt_of_le hqlt hb1.size)
               (clear hadl hJ0 hR0 d0 d1 d2 d3))
            | ((go_at_call 14)
               (have haj := j_add hD hG hB1 hJ1 hf.n2 (HBY0.out.below hJ1.dev.below (Nat.le_refl _)))
               (rw [hsn, ← HN.out, ← HAE.out, HAR.out] at haj)
               (refine haj.mono ?_)
               (rintro e W2 ⟨rfl, G2, hS2⟩)
               (obtain ⟨hR2, hA2⟩ := hS2.row hJ1.dev.base hJ1.dev.cb hJ1.base hR1 hA)
               (have hJ2 := hS2.jin)
               (have g2 : W2.cell? ⟨wr.heap.size, 1, none⟩ = some (.slice op.a op.L op.C) := (World.cell?_of_block (hS2.only.block wr.heap.size hq1 (fun h9 => h9.elim hoff hofG))).trans g1)
               (have hq2 : wr.heap.size < W2.heap.size := Nat.lt_of_lt_of_le hq1 hS2.only.size)
               (clear haj hS2 hJ1 hR1 g1)
               (have hbw2 : Below w.heap.size w (W2.alloc (.cells #[] 5)) := hJ2.dev.below.alloc hJ2.dev.sz _)
               (have hby2 := HBY0.out.below hbw2 (Nat.le_refl _))
               (have hbyN := hby2.nil)
               (have hbyA := hby2.at_)
               (clear hbw2))
            | ((refine at_dst 83 rfl ?_)
               (refine wpList_is_w (some 83) (.slice (some ⟨W2.heap.size, 0, none⟩) 0 0) (W2.alloc (.cells #[] 5)) rfl (by rfl) (by kernel_rfl) ?_))
            | ((refine at_dst 86 rfl ?_)
               (refine wpList_append_bytes rfl _ _ rfl W2.heap.size _ 0 op.b rfl (own_emptyP W2 op.b) op.a op.L op.C op.b rfl hbyN hbyA (by omega) (by simp) ?_)
               (intro v3 W3 ho3 hg3)
               (rw [bl_cat0, Nat.zero_add] at ho3)
               (obtain ⟨ad3, C3, e3, _, _, _, _⟩ := own_bytes ho3)
               (subst e3)
               (obtain ⟨hR3, hb3, hby3, b3, hb3e, hb3l, hb3u, hb3c⟩ := hR2.clone HM.out (by rw [← HM.out]; omega) hJ2.dev.sz hg3 ho3 hL1 (by unfold maxLen; omega) HBY0.out.byt)
               (have hA3 := apt_new (Y := fun k => X k ∨ (W2.heap.size ≤ k ∧ k < W3.heap.size)) hJ2 hD hA2 (fun k hk => hk.imp id (fun h => h.1)))
               (have hJ3 := hJ2.next hD hb3)
               (obtain ⟨cells, hrow, hrb, hre⟩ := hR3.row)
               (have hrowA := own_belowJ hrow (show Below W3.heap.size W3 (W3.alloc (.cells #[.slice ad3 op.L C3] 33)) from (Below.refl _ _).alloc (Nat.le_refl _) _))
               (have hnc : Has (W3.alloc (.cells #[.slice ad3 op.L C3] 33)) W3.heap.size 33 #[.slice ad3 op.L C3] := Has.new _ _ _)
               (have hszA : w.heap.size ≤ (W3.alloc (.cells #[.slice ad3 op.L C3] 33)).heap.size := Nat.le_trans hR3.sz ((Below.refl W3.heap.size W3).alloc (Nat.le_refl _) _).size)
               (obtain ⟨g4, c4, W4, hap, ho4, hg4, hx4, hl4⟩ := run_append_rec w.heap.size (.slice va M vc) rs.length _ hrowA W3.heap.size _ (hnc.cell 0) rfl (by rw [← HM.out]; omega) hszA)
               (obtain ⟨hon4, hR4⟩ := hR3.push hby3 (fun b o e => .inr (by rw [hb3e] at e; cases e; exact ⟨.inr ⟨hb3l, hb3u⟩, hb3c⟩)) (by rw [← HM.out]; omega) hg4 (fun xs hxs => by rw [own_uniq hxs hrow]; exact ho4))
               (have hJ4 := hJ3.own hD hon4 (fun k hk => (hR3.lt k hk).1) hA3)
               (have hA4 := apt_new (Y := fun k => (X k ∨ (W2.heap.size ≤ k ∧ k < W3.heap.size)) ∨ (W3.heap.size ≤ k ∧ k < W4.heap.size) ∨ (Value.slice (some ⟨g4, 0, none⟩) (rs.length + 1) c4).ownBlock = some k) hJ3 hD hA3 (fun k hk => by
                  rcases hk with h9 | h9 | h9
                  · exact .inl h9
                  · exact .inr h9.1
                  · cases h9
                    rcases hx4 with h8 | h8
                    · exact .inl (hrb _ h8)
                    · exact .inr (by rw [h8]; simp)))
               (rw [← HM.out, ← HMT2.out] at hap hR4 hA4)
               (rw [← HRT.out] at hR4)
               (clear hrow hrowA hre hnc ho4 hg4 hon4 hR3 hJ3 hA3 hJ2 hR2 hA2 ho3 hg3 hb3e hb3l hb3u hb3c hby3 hx4 hrb))
            | ((refine at_dst 88 rfl ?_)
               (refine wpList_is_w (some 88) (.slice (some ⟨g4, 0, none⟩) MT c4) W4 rfl (by rfl) (run_append_op _ _ _ _ rfl (.slice va M vc) (.slice (some ⟨W3.heap.size, 0, none⟩) 1 1) rfl rfl _ hap) ?_))
            | ((go_at_call 24)
               (have hJr := hJ4)
               (have hRr := hR4)
               (have hrec := j_records hD hJr hfT)
               (unfold RecR at hrec)
               (rw [← HMf.out] at hrec)
               (refine Calls.mono hrec ?_)
               (rintro e wa ⟨hba, aa, cpa, rfl, hra⟩)
               (have hJa := hJr.next hD hba)
               (have hRa := hRr.below hba)
               (have hrla := rlP_of hRa)
               (clear hrec hJr hRr))
            | ((go_at_call 23)
               (have hsm := samer_any (c1 := cpa) (c2 := c4) hra hrla HMf.out HMf.out)
               (rw [rlikes_refl] at hsm)
               (refine hsm.mono ?_)
               (rintro e wb ⟨rfl, hbb⟩)
               (have hJb := hJa.next hD hbb)
               (have hRb := hRa.below hbb)
               (clear hsm hJa hRa hra hrla))
            | ((go_at_call 25)
               (refine (j_flushed hD hJb hfT).mono ?_)
               (rintro e wc ⟨rfl, hbc⟩)
               (have hJc := hJb.next hD hbc)
               (have hRc := hRb.below hbc)
               (clear hJb hRb))
            | ((go_at_call 26)
               (have hfr := j_free hD hJc hfT)
               (rw [hsnT, ← HN.out, ← HET.out, ← HFT.out] at hfr)
               (refine hfr.mono ?_)
               (rintro e wd ⟨rfl, hbd⟩)
               (have hJd := hJc.next hD hbd)
               (have hRd := hRc.below hbd)
               (have hrld := rlP_of hRd)
               (clear hfr hJc hRc))
            | ((go_at_call 27)
               (have hsz := size_any (c := c4) hrld HMf.out hszT.1 (by rw [← HET.out]; omega))
               (rw [← HET.out] at hsz)
               (refine hsz.mono ?_)
               (rintro e we ⟨rfl, hbe⟩)
               (have hJe := hJd.next hD hbe)
               (have hRe := hRd.below hbe)
               (clear hsz hJd hRd hrld)))
            have hfin : PlayI D w n (i + 1) p1 j1 _ fl we := ⟨s, c1, m, F1, G2, _, RT, hJe, hRe, hA4, hf, hsn, by rw [HRT.out, List.take_append_of_le_length (by rw [← HM.out]; exact hflM)]; exact hk, by omega, by omega, fun r hr => by rw [HRT.out] at hr; rcases List.mem_append.1 hr with h9 | h9; exact hb r h9; rw [List.mem_singleton.1 h9]; exact HBY0.out.byt⟩
            have HF : Hid _ := hfin
            clear hfin
            go_roundw
            case rel => exact ⟨i + 1, p1, j1, fl, _, by omega, by omega, rfl, rfl, rfl, rfl, by go_num, HF.out⟩
            case measure => simp [intOf]; omega
        · skip
          as_aux_lemma =>
            have hszT := hJ.sized
            rw [hsn] at hszT
            have hfT := hf.n2
            have hsnT := hsn
            obtain ⟨ET, hET⟩ : ∃ ET, ET = endOf 0 rs := ⟨_, rfl⟩
            have HET : Hid (ET = endOf 0 rs) := hET
            obtain ⟨FT, hFT⟩ : ∃ FT, FT = N - ET := ⟨_, rfl⟩
            have HFT : Hid (FT = N - ET) := hFT
            have hETN : ET ≤ N := by rw [hET, HN.out]; exact hszT.2.1
            have eF : (N : Int) - (ET : Int) = (FT : Int) := by omega
            have hETb : (ET : Int) ≤ 2560 := by omega
            clear hET hFT
            have HAR : Hid (addRs rs N op.L op.b = rs) := by
              show addRs rs N op.L op.b = rs
              unfold addRs
              rw [if_neg (by rw [← HAE.out]; exact hAE0)]
            go_wp2_with (first
            | ((refine at_dst 62 rfl ?_)
               (refine wpList_is (some 62) (.pointer (some ⟨x, o + i * 4, none⟩)) rfl (by rfl) (run_at_opJ _ _ rfl x o i ln lc rfl rfl hlt.1 _) ?_))
            | ((refine at_dst 63 rfl ?_)
               (refine wpList_is (some 63) (.agg (ocellJ op).toArray) rfl (by rfl) (run_load_opJ (.tmp 62) rfl x (o + i * 4) rfl op wr hopW) ?_))
            | ((refine at_dst 13 rfl ?_)
               (refine wpList_is_w (some 13) (.pointer (some ⟨wr.heap.size, 0, none⟩)) (wr.alloc (.cells #[.int .i64 0, .slice none 0 0, .int .i64 0, .slice none 0 0] 36)) rfl (by rfl) (by kernel_rfl) ?_))
            | ((refine at_stJ 36 (.tmp 13) (.tmp 63) rfl ?_)
               (refine wpList_copy_opJ wr op rfl (.tmp 13) (.tmp 63) rfl rfl rfl ?_)
               (intro W0 hH0 hb0)
               (have hJ0 := hJ.next hD hb0)
               (have hR0 := hR.below hb0)
               (have hby0 : ByIn W0 op.a op.L op.C op.b := hopW.by_.below hb0 (Nat.le_refl _))
               (have hbo0 : BoIn W0 op.ka op.kl op.kc op.kb := hopW.bo.below hb0 (Nat.le_refl _))
               (have d0 : W0.cell? ⟨wr.heap.size, 0, none⟩ = some (.int .i64 op.k) := hH0.cell 0)
               (have d1 : W0.cell? ⟨wr.heap.size, 1, none⟩ = some (.slice op.a op.L op.C) := hH0.cell 1)
               (have d2 : W0.cell? ⟨wr.heap.size, 2, none⟩ = some (.int .i64 op.i) := hH0.cell 2)
               (have d3 : W0.cell? ⟨wr.heap.size, 3, none⟩ = some (.slice op.ka op.kl op.kc) := hH0.cell 3)
               (have hqlt : wr.heap.size < W0.heap.size := hH0.lt)
               (clear hJ hR hopW hb0)
               (have c0z := d0))
            | ((go_at_call 13)
               (have hadl := add_l (c := vc) (rlP_of hR0) HM.out hszr.1 (by omega) op.a op.L op.C N hLm (by omega))
               (rw [← HAE.out] at hadl)
               (refine hadl.mono ?_)
               (rintro e W1 ⟨rfl, hb1⟩)
               (have hJ1 := hJ0.next hD hb1)
               (have hR1 := hR0.below hb1)
               (have g1 : W1.cell? ⟨wr.heap.size, 1, none⟩ = some (.slice op.a op.L op.C) := (hb1.cell (p := ⟨wr.heap.size, 1, none⟩) hqlt).trans d1)
               (have hq1 : wr.heap.size < W1.heap.size := Nat.lt_of_lt_of_le hqlt hb1.size)
               (clear hadl hJ0 hR0 d0 d1 d2 d3))
            | ((go_at_call 14)
               (have haj := j_add hD hG hB1 hJ1 hf.n2 (HBY0.out.below hJ1.dev.below (Nat.le_refl _)))
               (rw [hsn, ← HN.out, ← HAE.out, HAR.out] at haj)
               (refine haj.mono ?_)
               (rintro e W2 ⟨rfl, G2, hS2⟩)
               (obtain ⟨hR2, hA2⟩ := hS2.row hJ1.dev.base hJ1.dev.cb hJ1.base hR1 hA)
               (have hJ2 := hS2.jin)
               (have g2 : W2.cell? ⟨wr.heap.size, 1, none⟩ = some (.slice op.a op.L op.C) := (World.cell?_of_block (hS2.only.block wr.heap.size hq1 (fun h9 => h9.elim hoff hofG))).trans g1)
               (have hq2 : wr.heap.size < W2.heap.size := Nat.lt_of_lt_of_le hq1 hS2.only.size)
               (clear haj hS2 hJ1 hR1 g1))
            | ((go_at_call 24)
               (have hJr := hJ2)
               (have hRr := hR2)
               (have hrec := j_records hD hJr hfT)
               (unfold RecR at hrec)
               (rw [← HM.out] at hrec)
               (refine Calls.mono hrec ?_)
               (rintro e wa ⟨hba, aa, cpa, rfl, hra⟩)
               (have hJa := hJr.next hD hba)
               (have hRa := hRr.below hba)
               (have hrla := rlP_of hRa)
               (clear hrec hJr hRr))
            | ((go_at_call 23)
               (have hsm := samer_any (c1 := cpa) (c2 := vc) hra hrla HM.out HM.out)
               (rw [rlikes_refl] at hsm)
               (refine hsm.mono ?_)
               (rintro e wb ⟨rfl, hbb⟩)
               (have hJb := hJa.next hD hbb)
               (have hRb := hRa.below hbb)
               (clear hsm hJa hRa hra hrla))
            | ((go_at_call 25)
               (refine (j_flushed hD hJb hfT).mono ?_)
               (rintro e wc ⟨rfl, hbc⟩)
               (have hJc := hJb.next hD hbc)
               (have hRc := hRb.below hbc)
               (clear hJb hRb))
            | ((go_at_call 26)
               (have hfr := j_free hD hJc hfT)
               (rw [hsnT, ← HN.out, ← HET.out, ← HFT.out] at hfr)
               (refine hfr.mono ?_)
               (rintro e wd ⟨rfl, hbd⟩)
               (have hJd := hJc.next hD hbd)
               (have hRd := hRc.below hbd)
               (have hrld := rlP_of hRd)
               (clear hfr hJc hRc))
            | ((go_at_call 27)
               (have hsz := size_any (c := vc) hrld HM.out hszT.1 (by rw [← HET.out]; omega))
               (rw [← HET.out] at hsz)
               (refine hsz.mono ?_)
               (rintro e we ⟨rfl, hbe⟩)
               (have hJe := hJd.next hD hbe)
               (have hRe := hRd.below hbe)
               (clear hsz hJd hRd hrld)))
            have hfin : PlayI D w n (i + 1) p1 j1 _ fl we := ⟨s, c1, m, F1, G2, X, rs, hJe, hRe, hA2, hf, hsn, hk, by omega, by omega, hb⟩
            have HF : Hid _ := hfin
            clear hfin
            go_roundw
            case rel => exact ⟨i + 1, p1, j1, fl, _, by omega, by omega, rfl, rfl, rfl, rfl, by go_num, HF.out⟩
            case measure => simp [intOf]; omega
      by_cases k2 : op.k = 2
      · have kn1 : ¬ op.k = 1 := by omega
        cases hdd : s.dead
        · have hnd : ¬ (s.dead = true ∧ fl < M) := by rw [hdd]; intro h; cases h.1
          as_aux_lemma =>
            have hszT := hJ.sized
            rw [hsn] at hszT
            obtain ⟨ET, hET⟩ : ∃ ET, ET = endOf 0 rs := ⟨_, rfl⟩
            have HET : Hid (ET = endOf 0 rs) := hET
            obtain ⟨FT, hFT⟩ : ∃ FT, FT = N - ET := ⟨_, rfl⟩
            have HFT : Hid (FT = N - ET) := hFT
            have hETN : ET ≤ N := by rw [hET, HN.out]; exact hszT.2.1
            have eF : (N : Int) - (ET : Int) = (FT : Int) := by omega
            have hETb : (ET : Int) ≤ 2560 := by omega
            clear hET hFT
            go_wp2_with (first
            | ((refine at_dst 62 rfl ?_)
               (refine wpList_is (some 62) (.pointer (some ⟨x, o + i * 4, none⟩)) rfl (by rfl) (run_at_opJ _ _ rfl x o i ln lc rfl rfl hlt.1 _) ?_))
            | ((refine at_dst 63 rfl ?_)
               (refine wpList_is (some 63) (.agg (ocellJ op).toArray) rfl (by rfl) (run_load_opJ (.tmp 62) rfl x (o + i * 4) rfl op wr hopW) ?_))
            | ((refine at_dst 13 rfl ?_)
               (refine wpList_is_w (some 13) (.pointer (some ⟨wr.heap.size, 0, none⟩)) (wr.alloc (.cells #[.int .i64 0, .slice none 0 0, .int .i64 0, .slice none 0 0] 36)) rfl (by rfl) (by kernel_rfl) ?_))
            | ((refine at_stJ 36 (.tmp 13) (.tmp 63) rfl ?_)
               (refine wpList_copy_opJ wr op rfl (.tmp 13) (.tmp 63) rfl rfl rfl ?_)
               (intro W0 hH0 hb0)
               (have hJ0 := hJ.next hD hb0)
               (have hR0 := hR.below hb0)
               (have hby0 : ByIn W0 op.a op.L op.C op.b := hopW.by_.below hb0 (Nat.le_refl _))
               (have hbo0 : BoIn W0 op.ka op.kl op.kc op.kb := hopW.bo.below hb0 (Nat.le_refl _))
               (have d0 : W0.cell? ⟨wr.heap.size, 0, none⟩ = some (.int .i64 op.k) := hH0.cell 0)
               (have d1 : W0.cell? ⟨wr.heap.size, 1, none⟩ = some (.slice op.a op.L op.C) := hH0.cell 1)
               (have d2 : W0.cell? ⟨wr.heap.size, 2, none⟩ = some (.int .i64 op.i) := hH0.cell 2)
               (have d3 : W0.cell? ⟨wr.heap.size, 3, none⟩ = some (.slice op.ka op.kl op.kc) := hH0.cell 3)
               (have hqlt : wr.heap.size < W0.heap.size := hH0.lt)
               (clear hJ hR hopW hb0)
               (have c0z := d0))
            | ((go_at_call 15)
               (refine (j_flushB hD hM hJ0 hf hk (by omega) (by omega) HM.out hnd).mono ?_)
               (rintro e W1 ⟨rfl, s1, m1, F1', hS1, hf1, hn1', hd1, hk1, hl1, hm1⟩)
               (rw [hsn] at hl1 hm1)
               (obtain ⟨hR1, hA1⟩ := hS1.row hJ0.dev.base hJ0.dev.cb hJ0.base hR0 hA)
               (have hJ1 := hS1.jin)
               (clear hS1 hJ0 hR0)
               (have hfT := hf1.n2)
               (have hsnT : s1.n = n := hn1'.trans hsn)
               (have hdd1 := hd1.trans hdd))
            | ((go_at_call 16)
               (refine (j_dead hD hJ1 hdd1).mono ?_)
               (rintro e W2 ⟨rfl, hb2⟩)
               (have hJ2 := hJ1.next hD hb2)
               (have hR2 := hR1.below hb2)
               (clear hJ1 hR1))
            | ((go_at_call 24)
               (have hJr := hJ2)
               (have hRr := hR2)
               (have hrec := j_records hD hJr hfT)
               (unfold RecR at hrec)
               (rw [← HM.out] at hrec)
               (refine Calls.mono hrec ?_)
               (rintro e wa ⟨hba, aa, cpa, rfl, hra⟩)
               (have hJa := hJr.next hD hba)
               (have hRa := hRr.below hba)
               (have hrla := rlP_of hRa)
               (clear hrec hJr hRr))
            | ((go_at_call 23)
               (have hsm := samer_any (c1 := cpa) (c2 := vc) hra hrla HM.out HM.out)
               (rw [rlikes_refl] at hsm)
               (refine hsm.mono ?_)
               (rintro e wb ⟨rfl, hbb⟩)
               (have hJb := hJa.next hD hbb)
               (have hRb := hRa.below hbb)
               (clear hsm hJa hRa hra hrla))
            | ((go_at_call 25)
               (refine (j_flushed hD hJb hfT).mono ?_)
               (rintro e wc ⟨rfl, hbc⟩)
               (have hJc := hJb.next hD hbc)
               (have hRc := hRb.below hbc)
               (clear hJb hRb))
            | ((go_at_call 26)
               (have hfr := j_free hD hJc hfT)
               (rw [hsnT, ← HN.out, ← HET.out, ← HFT.out] at hfr)
               (refine hfr.mono ?_)
               (rintro e wd ⟨rfl, hbd⟩)
               (have hJd := hJc.next hD hbd)
               (have hRd := hRc.below hbd)
               (have hrld := rlP_of hRd)
               (clear hfr hJc hRc))
            | ((go_at_call 27)
               (have hsz := size_any (c := vc) hrld HM.out hszT.1 (by rw [← HET.out]; omega))
               (rw [← HET.out] at hsz)
               (refine hsz.mono ?_)
               (rintro e we ⟨rfl, hbe⟩)
               (have hJe := hJd.next hD hbe)
               (have hRe := hRd.below hbe)
               (clear hsz hJd hRd hrld)))
            have hfin : PlayI D w n (i + 1) p1 j1 _ M we := ⟨s1, c1, m1, _, G1, X, rs, hJe, hRe, hA1, hf1, hsnT, by rw [HM.out, List.take_length]; exact hk1, by omega, by omega, hb⟩
            have HF : Hid _ := hfin
            clear hfin
            go_roundw
            case rel => exact ⟨i + 1, p1, j1, M, _, by omega, by omega, rfl, rfl, rfl, rfl, by go_num, HF.out⟩
            case measure => simp [intOf]; omega
        · by_cases hflt : fl < M
          · skip
            as_aux_lemma =>
              have hszT := hJ.sized
              rw [hsn] at hszT
              obtain ⟨ET, hET⟩ : ∃ ET, ET = endOf 0 rs := ⟨_, rfl⟩
              have HET : Hid (ET = endOf 0 rs) := hET
              obtain ⟨FT, hFT⟩ : ∃ FT, FT = N - ET := ⟨_, rfl⟩
              have HFT : Hid (FT = N - ET) := hFT
              have hETN : ET ≤ N := by rw [hET, HN.out]; exact hszT.2.1
              have eF : (N : Int) - (ET : Int) = (FT : Int) := by omega
              have hETb : (ET : Int) ≤ 2560 := by omega
              clear hET hFT
              have hltI : ((fl : Nat) : Int) < ((M : Nat) : Int) := by omega
              have hfT := hf.n2
              have hsnT := hsn
              go_wp2_with (first
              | ((refine at_dst 62 rfl ?_)
                 (refine wpList_is (some 62) (.pointer (some ⟨x, o + i * 4, none⟩)) rfl (by rfl) (run_at_opJ _ _ rfl x o i ln lc rfl rfl hlt.1 _) ?_))
              | ((refine at_dst 63 rfl ?_)
                 (refine wpList_is (some 63) (.agg (ocellJ op).toArray) rfl (by rfl) (run_load_opJ (.tmp 62) rfl x (o + i * 4) rfl op wr hopW) ?_))
              | ((refine at_dst 13 rfl ?_)
                 (refine wpList_is_w (some 13) (.pointer (some ⟨wr.heap.size, 0, none⟩)) (wr.alloc (.cells #[.int .i64 0, .slice none 0 0, .int .i64 0, .slice none 0 0] 36)) rfl (by rfl) (by kernel_rfl) ?_))
              | ((refine at_stJ 36 (.tmp 13) (.tmp 63) rfl ?_)
                 (refine wpList_copy_opJ wr op rfl (.tmp 13) (.tmp 63) rfl rfl rfl ?_)
                 (intro W0 hH0 hb0)
                 (have hJ0 := hJ.next hD hb0)
                 (have hR0 := hR.below hb0)
                 (have hby0 : ByIn W0 op.a op.L op.C op.b := hopW.by_.below hb0 (Nat.le_refl _))
                 (have hbo0 : BoIn W0 op.ka op.kl op.kc op.kb := hopW.bo.below hb0 (Nat.le_refl _))
                 (have d0 : W0.cell? ⟨wr.heap.size, 0, none⟩ = some (.int .i64 op.k) := hH0.cell 0)
                 (have d1 : W0.cell? ⟨wr.heap.size, 1, none⟩ = some (.slice op.a op.L op.C) := hH0.cell 1)
                 (have d2 : W0.cell? ⟨wr.heap.size, 2, none⟩ = some (.int .i64 op.i) := hH0.cell 2)
                 (have d3 : W0.cell? ⟨wr.heap.size, 3, none⟩ = some (.slice op.ka op.kl op.kc) := hH0.cell 3)
                 (have hqlt : wr.heap.size < W0.heap.size := hH0.lt)
                 (clear hJ hR hopW hb0)
                 (have c0z := d0))
              | ((go_at_call 15)
                 (refine (j_flushA hD hM hJ0 hf hk (by omega) (by omega) hdd HM.out hflt).mono ?_)
                 (rintro e W1 ⟨rfl, hS1⟩)
                 (obtain ⟨hR1, hA1⟩ := hS1.row hJ0.dev.base hJ0.dev.cb hJ0.base hR0 hA)
                 (have hJ1 := hS1.jin)
                 (clear hS1 hJ0 hR0))
              | ((go_at_call 16)
                 (refine (j_dead hD hJ1 hdd).mono ?_)
                 (rintro e W2 ⟨rfl, hb2⟩)
                 (have hJ2 := hJ1.next hD hb2)
                 (have hR2 := hR1.below hb2)
                 (clear hJ1 hR1))
              | ((go_at_call 24)
                 (have hJr := hJ2)
                 (have hRr := hR2)
                 (have hrec := j_records hD hJr hfT)
                 (unfold RecR at hrec)
                 (rw [← HM.out] at hrec)
                 (refine Calls.mono hrec ?_)
                 (rintro e wa ⟨hba, aa, cpa, rfl, hra⟩)
                 (have hJa := hJr.next hD hba)
                 (have hRa := hRr.below hba)
                 (have hrla := rlP_of hRa)
                 (clear hrec hJr hRr))
              | ((go_at_call 23)
                 (have hsm := samer_any (c1 := cpa) (c2 := vc) hra hrla HM.out HM.out)
                 (rw [rlikes_refl] at hsm)
                 (refine hsm.mono ?_)
                 (rintro e wb ⟨rfl, hbb⟩)
                 (have hJb := hJa.next hD hbb)
                 (have hRb := hRa.below hbb)
                 (clear hsm hJa hRa hra hrla))
              | ((go_at_call 25)
                 (refine (j_flushed hD hJb hfT).mono ?_)
                 (rintro e wc ⟨rfl, hbc⟩)
                 (have hJc := hJb.next hD hbc)
                 (have hRc := hRb.below hbc)
                 (clear hJb hRb))
              | ((go_at_call 26)
                 (have hfr := j_free hD hJc hfT)
                 (rw [hsnT, ← HN.out, ← HET.out, ← HFT.out] at hfr)
                 (refine hfr.mono ?_)
                 (rintro e wd ⟨rfl, hbd⟩)
                 (have hJd := hJc.next hD hbd)
                 (have hRd := hRc.below hbd)
                 (have hrld := rlP_of hRd)
                 (clear hfr hJc hRc))
              | ((go_at_call 27)
                 (have hsz := size_any (c := vc) hrld HM.out hszT.1 (by rw [← HET.out]; omega))
                 (rw [← HET.out] at hsz)
                 (refine hsz.mono ?_)
                 (rintro e we ⟨rfl, hbe⟩)
                 (have hJe := hJd.next hD hbe)
                 (have hRe := hRd.below hbe)
                 (clear hsz hJd hRd hrld)))
              have hfin : PlayI D w n (i + 1) p1 j1 _ fl we := ⟨s, c1, m, _, G1, X, rs, hJe, hRe, hA1, hf, hsn, hk, by omega, by omega, hb⟩
              have HF : Hid _ := hfin
              clear hfin
              go_roundw
              case rel => exact ⟨i + 1, p1, j1, fl, _, by omega, by omega, rfl, rfl, rfl, rfl, by go_num, HF.out⟩
              case measure => simp [intOf]; omega
          · have hnd : ¬ (s.dead = true ∧ fl < M) := by rw [hdd]; intro h; exact hflt h.2
            as_aux_lemma =>
              have hszT := hJ.sized
              rw [hsn] at hszT
              obtain ⟨ET, hET⟩ : ∃ ET, ET = endOf 0 rs := ⟨_, rfl⟩
              have HET : Hid (ET = endOf 0 rs) := hET
              obtain ⟨FT, hFT⟩ : ∃ FT, FT = N - ET := ⟨_, rfl⟩
              have HFT : Hid (FT = N - ET) := hFT
              have hETN : ET ≤ N := by rw [hET, HN.out]; exact hszT.2.1
              have eF : (N : Int) - (ET : Int) = (FT : Int) := by omega
              have hETb : (ET : Int) ≤ 2560 := by omega
              clear hET hFT
              have hltI : ¬ ((fl : Nat) : Int) < ((M : Nat) : Int) := by omega
              go_wp2_with (first
              | ((refine at_dst 62 rfl ?_)
                 (refine wpList_is (some 62) (.pointer (some ⟨x, o + i * 4, none⟩)) rfl (by rfl) (run_at_opJ _ _ rfl x o i ln lc rfl rfl hlt.1 _) ?_))
              | ((refine at_dst 63 rfl ?_)
                 (refine wpList_is (some 63) (.agg (ocellJ op).toArray) rfl (by rfl) (run_load_opJ (.tmp 62) rfl x (o + i * 4) rfl op wr hopW) ?_))
              | ((refine at_dst 13 rfl ?_)
                 (refine wpList_is_w (some 13) (.pointer (some ⟨wr.heap.size, 0, none⟩)) (wr.alloc (.cells #[.int .i64 0, .slice none 0 0, .int .i64 0, .slice none 0 0] 36)) rfl (by rfl) (by kernel_rfl) ?_))
              | ((refine at_stJ 36 (.tmp 13) (.tmp 63) rfl ?_)
                 (refine wpList_copy_opJ wr op rfl (.tmp 13) (.tmp 63) rfl rfl rfl ?_)
                 (intro W0 hH0 hb0)
                 (have hJ0 := hJ.next hD hb0)
                 (have hR0 := hR.below hb0)
                 (have hby0 : ByIn W0 op.a op.L op.C op.b := hopW.by_.below hb0 (Nat.le_refl _))
                 (have hbo0 : BoIn W0 op.ka op.kl op.kc op.kb := hopW.bo.below hb0 (Nat.le_refl _))
                 (have d0 : W0.cell? ⟨wr.heap.size, 0, none⟩ = some (.int .i64 op.k) := hH0.cell 0)
                 (have d1 : W0.cell? ⟨wr.heap.size, 1, none⟩ = some (.slice op.a op.L op.C) := hH0.cell 1)
                 (have d2 : W0.cell? ⟨wr.heap.size, 2, none⟩ = some (.int .i64 op.i) := hH0.cell 2)
                 (have d3 : W0.cell? ⟨wr.heap.size, 3, none⟩ = some (.slice op.ka op.kl op.kc) := hH0.cell 3)
                 (have hqlt : wr.heap.size < W0.heap.size := hH0.lt)
                 (clear hJ hR hopW hb0)
                 (have c0z := d0))
              | ((go_at_call 15)
                 (refine (j_flushB hD hM hJ0 hf hk (by omega) (by omega) HM.out hnd).mono ?_)
                 (rintro e W1 ⟨rfl, s1, m1, F1', hS1, hf1, hn1', hd1, hk1, hl1, hm1⟩)
                 (rw [hsn] at hl1 hm1)
                 (obtain ⟨hR1, hA1⟩ := hS1.row hJ0.dev.base hJ0.dev.cb hJ0.base hR0 hA)
                 (have hJ1 := hS1.jin)
                 (clear hS1 hJ0 hR0)
                 (have hfT := hf1.n2)
                 (have hsnT : s1.n = n := hn1'.trans hsn)
                 (have hdd1 := hd1.trans hdd))
              | ((go_at_call 16)
                 (refine (j_dead hD hJ1 hdd1).mono ?_)
                 (rintro e W2 ⟨rfl, hb2⟩)
                 (have hJ2 := hJ1.next hD hb2)
                 (have hR2 := hR1.below hb2)
                 (clear hJ1 hR1))
              | ((go_at_call 24)
                 (have hJr := hJ2)
                 (have hRr := hR2)
                 (have hrec := j_records hD hJr hfT)
                 (unfold RecR at hrec)
                 (rw [← HM.out] at hrec)
                 (refine Calls.mono hrec ?_)
                 (rintro e wa ⟨hba, aa, cpa, rfl, hra⟩)
                 (have hJa := hJr.next hD hba)
                 (have hRa := hRr.below hba)
                 (have hrla := rlP_of hRa)
                 (clear hrec hJr hRr))
              | ((go_at_call 23)
                 (have hsm := samer_any (c1 := cpa) (c2 := vc) hra hrla HM.out HM.out)
                 (rw [rlikes_refl] at hsm)
                 (refine hsm.mono ?_)
                 (rintro e wb ⟨rfl, hbb⟩)
                 (have hJb := hJa.next hD hbb)
                 (have hRb := hRa.below hbb)
                 (clear hsm hJa hRa hra hrla))
              | ((go_at_call 25)
                 (refine (j_flushed hD hJb hfT).mono ?_)
                 (rintro e wc ⟨rfl, hbc⟩)
                 (have hJc := hJb.next hD hbc)
                 (have hRc := hRb.below hbc)
                 (clear hJb hRb))
              | ((go_at_call 26)
                 (have hfr := j_free hD hJc hfT)
                 (rw [hsnT, ← HN.out, ← HET.out, ← HFT.out] at hfr)
                 (refine hfr.mono ?_)
                 (rintro e wd ⟨rfl, hbd⟩)
                 (have hJd := hJc.next hD hbd)
                 (have hRd := hRc.below hbd)
                 (have hrld := rlP_of hRd)
                 (clear hfr hJc hRc))
              | ((go_at_call 27)
                 (have hsz := size_any (c := vc) hrld HM.out hszT.1 (by rw [← HET.out]; omega))
                 (rw [← HET.out] at hsz)
                 (refine hsz.mono ?_)
                 (rintro e we ⟨rfl, hbe⟩)
                 (have hJe := hJd.next hD hbe)
                 (have hRe := hRd.below hbe)
                 (clear hsz hJd hRd hrld)))
              have hfin : PlayI D w n (i + 1) p1 j1 _ M we := ⟨s1, c1, m1, _, G1, X, rs, hJe, hRe, hA1, hf1, hsnT, by rw [HM.out, List.take_length]; exact hk1, by omega, by omega, hb⟩
              have HF : Hid _ := hfin
              clear hfin
              go_roundw
              case rel => exact ⟨i + 1, p1, j1, M, _, by omega, by omega, rfl, rfl, rfl, rfl, by go_num, HF.out⟩
              case measure => simp [intOf]; omega
      by_cases k3 : op.k = 3
      · cases hdd : s.dead
        · skip
          as_aux_lemma =>
            have hszT : Sized ([] : List RC) ∧ endOf 0 ([] : List RC) ≤ 64 * n ∧ True := ⟨fun r hr => (by cases hr), Nat.zero_le _, trivial⟩
            obtain ⟨ET, hET⟩ : ∃ ET, ET = endOf 0 ([] : List RC) := ⟨_, rfl⟩
            have HET : Hid (ET = endOf 0 ([] : List RC)) := hET
            obtain ⟨FT, hFT⟩ : ∃ FT, FT = N - ET := ⟨_, rfl⟩
            have HFT : Hid (FT = N - ET) := hFT
            have hETN : ET ≤ N := by rw [hET, HN.out]; exact hszT.2.1
            have eF : (N : Int) - (ET : Int) = (FT : Int) := by omega
            have hETb : (ET : Int) ≤ 2560 := by omega
            clear hET hFT
            have HM0 : Hid (0 = ([] : List RC).length) := rfl
            go_wp2_with (first
            | ((refine at_dst 62 rfl ?_)
               (refine wpList_is (some 62) (.pointer (some ⟨x, o + i * 4, none⟩)) rfl (by rfl) (run_at_opJ _ _ rfl x o i ln lc rfl rfl hlt.1 _) ?_))
            | ((refine at_dst 63 rfl ?_)
               (refine wpList_is (some 63) (.agg (ocellJ op).toArray) rfl (by rfl) (run_load_opJ (.tmp 62) rfl x (o + i * 4) rfl op wr hopW) ?_))
            | ((refine at_dst 13 rfl ?_)
               (refine wpList_is_w (some 13) (.pointer (some ⟨wr.heap.size, 0, none⟩)) (wr.alloc (.cells #[.int .i64 0, .slice none 0 0, .int .i64 0, .slice none 0 0] 36)) rfl (by rfl) (by kernel_rfl) ?_))
            | ((refine at_stJ 36 (.tmp 13) (.tmp 63) rfl ?_)
               (refine wpList_copy_opJ wr op rfl (.tmp 13) (.tmp 63) rfl rfl rfl ?_)
               (intro W0 hH0 hb0)
               (have hJ0 := hJ.next hD hb0)
               (have hR0 := hR.below hb0)
               (have hby0 : ByIn W0 op.a op.L op.C op.b := hopW.by_.below hb0 (Nat.le_refl _))
               (have hbo0 : BoIn W0 op.ka op.kl op.kc op.kb := hopW.bo.below hb0 (Nat.le_refl _))
               (have d0 : W0.cell? ⟨wr.heap.size, 0, none⟩ = some (.int .i64 op.k) := hH0.cell 0)
               (have d1 : W0.cell? ⟨wr.heap.size, 1, none⟩ = some (.slice op.a op.L op.C) := hH0.cell 1)
               (have d2 : W0.cell? ⟨wr.heap.size, 2, none⟩ = some (.int .i64 op.i) := hH0.cell 2)
               (have d3 : W0.cell? ⟨wr.heap.size, 3, none⟩ = some (.slice op.ka op.kl op.kc) := hH0.cell 3)
               (have hqlt : wr.heap.size < W0.heap.size := hH0.lt)
               (clear hJ hR hopW hb0)
               (have c0z := d0))
            | ((go_at_call 17)
               (refine (j_clearB hD hM hJ0 hf (by omega) (by omega) hdd).mono ?_)
               (rintro e W1 ⟨rfl, s1, m1, F1', hS1, hf1, hn1', hdd1, hk1, hl1, hm1⟩)
               (rw [hsn] at hl1 hm1)
               (have hJ1 := hS1.jin)
               (have hR1 : OwnR w.heap.size W1 (.slice none 0 0) [] (fun _ => False) := OwnR.nil hJ1.dev.sz)
               (clear hS1 hJ0 hR0)
               (have hfT := hf1.n2)
               (have hsnT : s1.n = n := hn1'.trans hsn))
            | ((go_at_call 16)
               (refine (j_dead hD hJ1 hdd1).mono ?_)
               (rintro e W2 ⟨rfl, hb2⟩)
               (have hJ2 := hJ1.next hD hb2)
               (have hR2 := hR1.below hb2)
               (clear hJ1 hR1))
            | ((go_at_call 24)
               (have hJr := hJ2)
               (have hRr := hR2)
               (have hrec := j_records hD hJr hfT)
               (unfold RecR at hrec)
               (rw [← HM0.out] at hrec)
               (refine Calls.mono hrec ?_)
               (rintro e wa ⟨hba, aa, cpa, rfl, hra⟩)
               (have hJa := hJr.next hD hba)
               (have hRa := hRr.below hba)
               (have hrla := rlP_of hRa)
               (clear hrec hJr hRr))
            | ((go_at_call 23)
               (have hsm := samer_any (c1 := cpa) (c2 := 0) hra hrla HM0.out HM0.out)
               (rw [rlikes_refl] at hsm)
               (refine hsm.mono ?_)
               (rintro e wb ⟨rfl, hbb⟩)
               (have hJb := hJa.next hD hbb)
               (have hRb := hRa.below hbb)
               (clear hsm hJa hRa hra hrla))
            | ((go_at_call 25)
               (refine (j_flushed hD hJb hfT).mono ?_)
               (rintro e wc ⟨rfl, hbc⟩)
               (have hJc := hJb.next hD hbc)
               (have hRc := hRb.below hbc)
               (clear hJb hRb))
            | ((go_at_call 26)
               (have hfr := j_free hD hJc hfT)
               (rw [hsnT, ← HN.out, ← HET.out, ← HFT.out] at hfr)
               (refine hfr.mono ?_)
               (rintro e wd ⟨rfl, hbd⟩)
               (have hJd := hJc.next hD hbd)
               (have hRd := hRc.below hbd)
               (have hrld := rlP_of hRd)
               (clear hfr hJc hRc))
            | ((go_at_call 27)
               (have hsz := size_any (c := 0) hrld HM0.out hszT.1 (by rw [← HET.out]; omega))
               (rw [← HET.out] at hsz)
               (refine hsz.mono ?_)
               (rintro e we ⟨rfl, hbe⟩)
               (have hJe := hJd.next hD hbe)
               (have hRe := hRd.below hbe)
               (clear hsz hJd hRd hrld)))
            have hfin : PlayI D w n (i + 1) p1 j1 _ 0 we := ⟨s1, c1, m1, _, G1, _, [], hJe, hRe, fun k hk => hk.elim, hf1, hsnT, hk1, by omega, by omega, fun r hr => by cases hr⟩
            have HF : Hid _ := hfin
            clear hfin
            go_roundw
            case rel => exact ⟨i + 1, p1, j1, 0, _, by omega, by omega, rfl, rfl, rfl, rfl, by go_num, HF.out⟩
            case measure => simp [intOf]; omega
        · skip
          as_aux_lemma =>
            have hszT := hJ.sized
            rw [hsn] at hszT
            obtain ⟨ET, hET⟩ : ∃ ET, ET = endOf 0 rs := ⟨_, rfl⟩
            have HET : Hid (ET = endOf 0 rs) := hET
            obtain ⟨FT, hFT⟩ : ∃ FT, FT = N - ET := ⟨_, rfl⟩
            have HFT : Hid (FT = N - ET) := hFT
            have hETN : ET ≤ N := by rw [hET, HN.out]; exact hszT.2.1
            have eF : (N : Int) - (ET : Int) = (FT : Int) := by omega
            have hETb : (ET : Int) ≤ 2560 := by omega
            clear hET hFT
            have hfT := hf.n2
            have hsnT := hsn
            go_wp2_with (first
            | ((refine at_dst 62 rfl ?_)
               (refine wpList_is (some 62) (.pointer (some ⟨x, o + i * 4, none⟩)) rfl (by rfl) (run_at_opJ _ _ rfl x o i ln lc rfl rfl hlt.1 _) ?_))
            | ((refine at_dst 63 rfl ?_)
               (refine wpList_is (some 63) (.agg (ocellJ op).toArray) rfl (by rfl) (run_load_opJ (.tmp 62) rfl x (o + i * 4) rfl op wr hopW) ?_))
            | ((refine at_dst 13 rfl ?_)
               (refine wpList_is_w (some 13) (.pointer (some ⟨wr.heap.size, 0, none⟩)) (wr.alloc (.cells #[.int .i64 0, .slice none 0 0, .int .i64 0, .slice none 0 0] 36)) rfl (by rfl) (by kernel_rfl) ?_))
            | ((refine at_stJ 36 (.tmp 13) (.tmp 63) rfl ?_)
               (refine wpList_copy_opJ wr op rfl (.tmp 13) (.tmp 63) rfl rfl rfl ?_)
               (intro W0 hH0 hb0)
               (have hJ0 := hJ.next hD hb0)
               (have hR0 := hR.below hb0)
               (have hby0 : ByIn W0 op.a op.L op.C op.b := hopW.by_.below hb0 (Nat.le_refl _))
               (have hbo0 : BoIn W0 op.ka op.kl op.kc op.kb := hopW.bo.below hb0 (Nat.le_refl _))
               (have d0 : W0.cell? ⟨wr.heap.size, 0, none⟩ = some (.int .i64 op.k) := hH0.cell 0)
               (have d1 : W0.cell? ⟨wr.heap.size, 1, none⟩ = some (.slice op.a op.L op.C) := hH0.cell 1)
               (have d2 : W0.cell? ⟨wr.heap.size, 2, none⟩ = some (.int .i64 op.i) := hH0.cell 2)
               (have d3 : W0.cell? ⟨wr.heap.size, 3, none⟩ = some (.slice op.ka op.kl op.kc) := hH0.cell 3)
               (have hqlt : wr.heap.size < W0.heap.size := hH0.lt)
               (clear hJ hR hopW hb0)
               (have c0z := d0))
            | ((go_at_call 17)
               (refine (j_clearA hD hM hJ0 hf (by omega) (by omega) hdd).mono ?_)
               (rintro e W1 ⟨rfl, hS1⟩)
               (obtain ⟨hR1, hA1⟩ := hS1.row hJ0.dev.base hJ0.dev.cb hJ0.base hR0 hA)
               (have hJ1 := hS1.jin)
               (clear hS1 hJ0 hR0))
            | ((go_at_call 16)
               (refine (j_dead hD hJ1 hdd).mono ?_)
               (rintro e W2 ⟨rfl, hb2⟩)
               (have hJ2 := hJ1.next hD hb2)
               (have hR2 := hR1.below hb2)
               (clear hJ1 hR1))
            | ((go_at_call 24)
               (have hJr := hJ2)
               (have hRr := hR2)
               (have hrec := j_records hD hJr hfT)
               (unfold RecR at hrec)
               (rw [← HM.out] at hrec)
               (refine Calls.mono hrec ?_)
               (rintro e wa ⟨hba, aa, cpa, rfl, hra⟩)
               (have hJa := hJr.next hD hba)
               (have hRa := hRr.below hba)
               (have hrla := rlP_of hRa)
               (clear hrec hJr hRr))
            | ((go_at_call 23)
               (have hsm := samer_any (c1 := cpa) (c2 := vc) hra hrla HM.out HM.out)
               (rw [rlikes_refl] at hsm)
               (refine hsm.mono ?_)
               (rintro e wb ⟨rfl, hbb⟩)
               (have hJb := hJa.next hD hbb)
               (have hRb := hRa.below hbb)
               (clear hsm hJa hRa hra hrla))
            | ((go_at_call 25)
               (refine (j_flushed hD hJb hfT).mono ?_)
               (rintro e wc ⟨rfl, hbc⟩)
               (have hJc := hJb.next hD hbc)
               (have hRc := hRb.below hbc)
               (clear hJb hRb))
            | ((go_at_call 26)
               (have hfr := j_free hD hJc hfT)
               (rw [hsnT, ← HN.out, ← HET.out, ← HFT.out] at hfr)
               (refine hfr.mono ?_)
               (rintro e wd ⟨rfl, hbd⟩)
               (have hJd := hJc.next hD hbd)
               (have hRd := hRc.below hbd)
               (have hrld := rlP_of hRd)
               (clear hfr hJc hRc))
            | ((go_at_call 27)
               (have hsz := size_any (c := vc) hrld HM.out hszT.1 (by rw [← HET.out]; omega))
               (rw [← HET.out] at hsz)
               (refine hsz.mono ?_)
               (rintro e we ⟨rfl, hbe⟩)
               (have hJe := hJd.next hD hbe)
               (have hRe := hRd.below hbe)
               (clear hsz hJd hRd hrld)))
            have hfin : PlayI D w n (i + 1) p1 j1 _ fl we := ⟨s, c1, m, _, G1, X, rs, hJe, hRe, hA1, hf, hsn, hk, by omega, by omega, hb⟩
            have HF : Hid _ := hfin
            clear hfin
            go_roundw
            case rel => exact ⟨i + 1, p1, j1, fl, _, by omega, by omega, rfl, rfl, rfl, rfl, by go_num, HF.out⟩
            case measure => simp [intOf]; omega
      by_cases k4 : op.k = 4
      · cases hdd : s.dead
        · cases hab : anyBad s n
          · skip
            as_aux_lemma =>
              go_wp2_with (first
              | ((refine at_dst 62 rfl ?_)
                 (refine wpList_is (some 62) (.pointer (some ⟨x, o + i * 4, none⟩)) rfl (by rfl) (run_at_opJ _ _ rfl x o i ln lc rfl rfl hlt.1 _) ?_))
              | ((refine at_dst 63 rfl ?_)
                 (refine wpList_is (some 63) (.agg (ocellJ op).toArray) rfl (by rfl) (run_load_opJ (.tmp 62) rfl x (o + i * 4) rfl op wr hopW) ?_))
              | ((refine at_dst 13 rfl ?_)
                 (refine wpList_is_w (some 13) (.pointer (some ⟨wr.heap.size, 0, none⟩)) (wr.alloc (.cells #[.int .i64 0, .slice none 0 0, .int .i64 0, .slice none 0 0] 36)) rfl (by rfl) (by kernel_rfl) ?_))
              | ((refine at_stJ 36 (.tmp 13) (.tmp 63) rfl ?_)
                 (refine wpList_copy_opJ wr op rfl (.tmp 13) (.tmp 63) rfl rfl rfl ?_)
                 (intro W0 hH0 hb0)
                 (have hJ0 := hJ.next hD hb0)
                 (have hR0 := hR.below hb0)
                 (have hby0 : ByIn W0 op.a op.L op.C op.b := hopW.by_.below hb0 (Nat.le_refl _))
                 (have hbo0 : BoIn W0 op.ka op.kl op.kc op.kb := hopW.bo.below hb0 (Nat.le_refl _))
                 (have d0 : W0.cell? ⟨wr.heap.size, 0, none⟩ = some (.int .i64 op.k) := hH0.cell 0)
                 (have d1 : W0.cell? ⟨wr.heap.size, 1, none⟩ = some (.slice op.a op.L op.C) := hH0.cell 1)
                 (have d2 : W0.cell? ⟨wr.heap.size, 2, none⟩ = some (.int .i64 op.i) := hH0.cell 2)
                 (have d3 : W0.cell? ⟨wr.heap.size, 3, none⟩ = some (.slice op.ka op.kl op.kc) := hH0.cell 3)
                 (have hqlt : wr.heap.size < W0.heap.size := hH0.lt)
                 (clear hJ hR hopW hb0)
                 (have c0z := d0))
              | ((go_at_call 18)
                 (refine Calls.mono (in_cut hD hJ0.dev op.ka op.kl op.kc op.kb (by omega) hbo0.max hbo0.le hbo0.at_) ?_)
                 (rintro e W1 ⟨hb1, _, pL, cL, FL, rfl, hIL, hFL, hcL⟩)
                 (obtain ⟨keep, hkeep⟩ : ∃ keep, keep = keepOf op.kb op.kl := ⟨_, rfl⟩)
                 (rw [← hkeep] at hIL)
                 (clear hkeep))
              | ((go_at_call 19)
                 (refine Calls.mono (in_openC hD hM hG hB1 hIL hf hdd hab hsn hk (by rw [← HM.out]; exact hflM) hb) ?_)
                 (rintro e W2 ⟨kj, s2, m2, F2, G2, rfl, hJ2, hf2, hsn2, hk2, hl2, hm2, ho2, hg2, hG2⟩)
                 (obtain ⟨hR2, hA2⟩ := cut_parts hR0 hA hb1 hFL hcL hIL ho2 hg2 hG2)
                 (have hjk := hjn kj)
                 (clear hIL hJ0 hR0 ho2 hg2 hG2 hFL))
              | ((go_at_call 16)
                 (refine (j_dead hD hJ2 hf2.dead).mono ?_)
                 (rintro e W3 ⟨rfl, hb3⟩)
                 (have hJ3 := hJ2.next hD hb3)
                 (have hR3 := hR2.below hb3)
                 (clear hJ2 hR2)))
              go_loopw [19, 20] (fun a b W => ∃ q : Nat, q ≤ n ∧ a = .bool false ∧ b = .int .i64 (q : Nat) ∧ JIn D w.heap.size w W kj pL s2 cL m2 F2 (rs.take fl) fl G2 ∧ OwnR w.heap.size W (.slice va M vc) rs X) (fun _ b _ => n - (intOf b).toNat)
              case atStart => exact ⟨0, Nat.zero_le _, rfl, rfl, hJ3, hR3⟩
              case round =>
                clear hJ3 hR3
                obtain ⟨q, hq, rfl, rfl, hJ3, hR3⟩ := hrel
                by_cases hqn : q < n
                · have q1 : ((q : Nat) : Int) < ((n : Nat) : Int) := by omega
                  have hcb := in_bad hM hJ3.dev q (by rw [hsn2]; exact hqn) hf2.n2 (hf2.badNo hsn2 q hqn)
                  go_wp2_with (first
                    | (go_at_call 20; refine hcb.mono ?_; rintro e W4 ⟨rfl, hb4⟩))
                  go_roundw
                  case rel => exact ⟨q + 1, by omega, rfl, by go_num, hJ3.next hD hb4, hR3.below hb4⟩
                  case measure => simp [intOf]; omega
                · have q1 : ¬ ((q : Nat) : Int) < ((n : Nat) : Int) := by omega
                  obtain ⟨hR4, hfc, hfn, hfs⟩ := hR3.first HM.out fl (by rw [← HM.out]; exact hflM)
                  have HMf : Hid (fl = (rs.take fl).length) := by show fl = _; rw [List.length_take, ← HM.out]; omega
                  have hszT := hJ3.sized
                  rw [hsn2] at hszT
                  have hfT := hf2.n2
                  have hsnT := hsn2
                  obtain ⟨RT, hRT⟩ : ∃ RT, RT = rs.take fl := ⟨_, rfl⟩
                  have HRT : Hid (RT = rs.take fl) := hRT
                  rw [← hRT] at hR4 hJ3 hszT HMf hk2
                  clear hRT hR3
                  obtain ⟨ET, hET⟩ : ∃ ET, ET = endOf 0 RT := ⟨_, rfl⟩
                  have HET : Hid (ET = endOf 0 RT) := hET
                  obtain ⟨FT, hFT⟩ : ∃ FT, FT = N - ET := ⟨_, rfl⟩
                  have HFT : Hid (FT = N - ET) := hFT
                  have hETN : ET ≤ N := by rw [hET, HN.out]; exact hszT.2.1
                  have eF : (N : Int) - (ET : Int) = (FT : Int) := by omega
                  have hETb : (ET : Int) ≤ 2560 := by omega
                  clear hET hFT
                  go_wp2_with (first
                  | ((refine at_dst 177 rfl ?_)
                     (refine wpList_is (some 177) (.slice va fl vc) rfl (by rfl) (run_slice_recsP _ _ rfl va M vc fl rfl rfl hfc hfn hfs _) ?_))
                  | ((go_at_call 24)
                     (have hJr := hJ3)
                     (have hRr := hR4)
                     (have hrec := j_records hD hJr hfT)
                     (unfold RecR at hrec)
                     (rw [← HMf.out] at hrec)
                     (refine Calls.mono hrec ?_)
                     (rintro e wa ⟨hba, aa, cpa, rfl, hra⟩)
                     (have hJa := hJr.next hD hba)
                     (have hRa := hRr.below hba)
                     (have hrla := rlP_of hRa)
                     (clear hrec hJr hRr))
                  | ((go_at_call 23)
                     (have hsm := samer_any (c1 := cpa) (c2 := vc) hra hrla HMf.out HMf.out)
                     (rw [rlikes_refl] at hsm)
                     (refine hsm.mono ?_)
                     (rintro e wb ⟨rfl, hbb⟩)
                     (have hJb := hJa.next hD hbb)
                     (have hRb := hRa.below hbb)
                     (clear hsm hJa hRa hra hrla))
                  | ((go_at_call 25)
                     (refine (j_flushed hD hJb hfT).mono ?_)
                     (rintro e wc ⟨rfl, hbc⟩)
                     (have hJc := hJb.next hD hbc)
                     (have hRc := hRb.below hbc)
                     (clear hJb hRb))
                  | ((go_at_call 26)
                     (have hfr := j_free hD hJc hfT)
                     (rw [hsnT, ← HN.out, ← HET.out, ← HFT.out] at hfr)
                     (refine hfr.mono ?_)
                     (rintro e wd ⟨rfl, hbd⟩)
                     (have hJd := hJc.next hD hbd)
                     (have hRd := hRc.below hbd)
                     (have hrld := rlP_of hRd)
                     (clear hfr hJc hRc))
                  | ((go_at_call 27)
                     (have hsz := size_any (c := vc) hrld HMf.out hszT.1 (by rw [← HET.out]; omega))
                     (rw [← HET.out] at hsz)
                     (refine hsz.mono ?_)
                     (rintro e we ⟨rfl, hbe⟩)
                     (have hJe := hJd.next hD hbe)
                     (have hRe := hRd.below hbe)
                     (clear hsz hJd hRd hrld)))
                  have hfin : PlayI D w n (i + 1) pL kj _ fl we := ⟨s2, cL, m2, _, G2, X, RT, hJe, hRe, hA2, hf2.rest, hsn2, by rw [HRT.out, List.take_take, Nat.min_self, ← HRT.out]; exact hk2, by omega, by omega, fun r hr => hb r (List.mem_of_mem_take (by rw [HRT.out] at hr; exact hr))⟩
                  have HF : Hid _ := hfin
                  clear hfin
                  go_roundw
                  case rel => exact ⟨i + 1, pL, kj, fl, _, by omega, by omega, rfl, rfl, rfl, rfl, by go_num, HF.out⟩
                  case measure => simp [intOf]; omega
          · skip
            as_aux_lemma =>
              have hexb : ∃ i, i < s.n ∧ s.bad i = true := by rw [hsn]; exact anyBad_yes hab
              go_wp2_with (first
              | ((refine at_dst 62 rfl ?_)
                 (refine wpList_is (some 62) (.pointer (some ⟨x, o + i * 4, none⟩)) rfl (by rfl) (run_at_opJ _ _ rfl x o i ln lc rfl rfl hlt.1 _) ?_))
              | ((refine at_dst 63 rfl ?_)
                 (refine wpList_is (some 63) (.agg (ocellJ op).toArray) rfl (by rfl) (run_load_opJ (.tmp 62) rfl x (o + i * 4) rfl op wr hopW) ?_))
              | ((refine at_dst 13 rfl ?_)
                 (refine wpList_is_w (some 13) (.pointer (some ⟨wr.heap.size, 0, none⟩)) (wr.alloc (.cells #[.int .i64 0, .slice none 0 0, .int .i64 0, .slice none 0 0] 36)) rfl (by rfl) (by kernel_rfl) ?_))
              | ((refine at_stJ 36 (.tmp 13) (.tmp 63) rfl ?_)
                 (refine wpList_copy_opJ wr op rfl (.tmp 13) (.tmp 63) rfl rfl rfl ?_)
                 (intro W0 hH0 hb0)
                 (have hJ0 := hJ.next hD hb0)
                 (have hR0 := hR.below hb0)
                 (have hby0 : ByIn W0 op.a op.L op.C op.b := hopW.by_.below hb0 (Nat.le_refl _))
                 (have hbo0 : BoIn W0 op.ka op.kl op.kc op.kb := hopW.bo.below hb0 (Nat.le_refl _))
                 (have d0 : W0.cell? ⟨wr.heap.size, 0, none⟩ = some (.int .i64 op.k) := hH0.cell 0)
                 (have d1 : W0.cell? ⟨wr.heap.size, 1, none⟩ = some (.slice op.a op.L op.C) := hH0.cell 1)
                 (have d2 : W0.cell? ⟨wr.heap.size, 2, none⟩ = some (.int .i64 op.i) := hH0.cell 2)
                 (have d3 : W0.cell? ⟨wr.heap.size, 3, none⟩ = some (.slice op.ka op.kl op.kc) := hH0.cell 3)
                 (have hqlt : wr.heap.size < W0.heap.size := hH0.lt)
                 (clear hJ hR hopW hb0)
                 (have c0z := d0))
              | ((go_at_call 18)
                 (refine Calls.mono (in_cut hD hJ0.dev op.ka op.kl op.kc op.kb (by omega) hbo0.max hbo0.le hbo0.at_) ?_)
                 (rintro e W1 ⟨hb1, _, pL, cL, FL, rfl, hIL, hFL, hcL⟩)
                 (obtain ⟨keep, hkeep⟩ : ∃ keep, keep = keepOf op.kb op.kl := ⟨_, rfl⟩)
                 (rw [← hkeep] at hIL)
                 (clear hkeep))
              | ((go_at_call 19)
                 (refine (openB hD hM hG hB1 hIL (hf.cut keep) (by omega) (Nat.zero_le _) hdd hexb).mono ?_)
                 (rintro e W2 ⟨rfl, hb2⟩)
                 (have hI2 := hIL.next hD hb2)
                 (clear hIL hJ0 hR0))
              | ((go_at_call 16)
                 (first
                   | (have _t := hI2
                      refine (in_dead hD hI2 hdd).mono ?_
                      rintro e W3 ⟨rfl, hb3⟩
                      have hI3 := hI2.next hD hb3
                      clear hI2 _t))))
              go_loopw [19, 20] (fun a b W => ∃ q : Nat, q ≤ n ∧ a = .bool (anyBad s q) ∧ b = .int .i64 (q : Nat) ∧ In D w.heap.size w W pL (cutD s keep) cL 0 FL) (fun _ b _ => n - (intOf b).toNat)
              case atStart => exact ⟨0, Nat.zero_le _, rfl, rfl, hI3⟩
              case round =>
                clear hI3
                obtain ⟨q, hq, rfl, rfl, hI3⟩ := hrel
                by_cases hqn : q < n
                · have q1 : ((q : Nat) : Int) < ((n : Nat) : Int) := by omega
                  have hstep : anyBad s (q + 1) = (anyBad s q || s.bad q) := rfl
                  have HS1 : Hid (anyBad s (q + 1) = (anyBad s q || s.bad q)) := hstep
                  clear hstep
                  cases hq0 : anyBad s q
                  · have hcb := fun W (hW : In D w.heap.size w W pL (cutD s keep) cL 0 FL) => in_bad hM hW q (by show q < s.n; omega) (by show s.n ≤ 1000; omega) (b := s.bad q) rfl
                    obtain ⟨bb, hbb⟩ : ∃ bb, bb = s.bad q := ⟨_, rfl⟩
                    rw [← hbb] at hcb
                    have HBB : Hid (bb = s.bad q) := hbb
                    clear hbb
                    go_wp2_with (first
                      | (go_at_call 20; refine (hcb _ hI3).mono ?_; rintro e W4 ⟨rfl, hb4⟩))
                    go_roundw
                    case rel => exact ⟨q + 1, by omega, by rw [HS1.out, hq0, ← HBB.out]; rfl, by go_num, hI3.next hD hb4⟩
                    case measure => simp [intOf]; omega
                  · go_wp2
                    go_roundw
                    case rel => exact ⟨q + 1, by omega, by rw [HS1.out, hq0]; rfl, by go_num, hI3⟩
                    case measure => simp [intOf]; omega
                · have q1 : ¬ ((q : Nat) : Int) < ((n : Nat) : Int) := by omega
                  have hqe : q = n := by omega
                  rw [hqe, hab]
                  go_wp2_with (first
                  | ((go_at_call 16)
                     (first
                       | (have _t := hI3
                          refine (in_dead hD hI3 hdd).mono ?_
                          rintro e W4 ⟨rfl, hb4⟩
                          have hI4 := hI3.next hD hb4
                          clear hI3 _t)
                       | (have _t := hI4
                          refine (in_dead hD hI4 hdd).mono ?_
                          rintro e W5 ⟨rfl, hb5⟩
                          have hI5 := hI4.next hD hb5
                          clear hI4 _t))))
                  go_ret
                  exact ⟨rfl, hI5.below⟩
        · skip
          as_aux_lemma =>
            go_wp2_with (first
            | ((refine at_dst 62 rfl ?_)
               (refine wpList_is (some 62) (.pointer (some ⟨x, o + i * 4, none⟩)) rfl (by rfl) (run_at_opJ _ _ rfl x o i ln lc rfl rfl hlt.1 _) ?_))
            | ((refine at_dst 63 rfl ?_)
               (refine wpList_is (some 63) (.agg (ocellJ op).toArray) rfl (by rfl) (run_load_opJ (.tmp 62) rfl x (o + i * 4) rfl op wr hopW) ?_))
            | ((refine at_dst 13 rfl ?_)
               (refine wpList_is_w (some 13) (.pointer (some ⟨wr.heap.size, 0, none⟩)) (wr.alloc (.cells #[.int .i64 0, .slice none 0 0, .int .i64 0, .slice none 0 0] 36)) rfl (by rfl) (by kernel_rfl) ?_))
            | ((refine at_stJ 36 (.tmp 13) (.tmp 63) rfl ?_)
               (refine wpList_copy_opJ wr op rfl (.tmp 13) (.tmp 63) rfl rfl rfl ?_)
               (intro W0 hH0 hb0)
               (have hJ0 := hJ.next hD hb0)
               (have hR0 := hR.below hb0)
               (have hby0 : ByIn W0 op.a op.L op.C op.b := hopW.by_.below hb0 (Nat.le_refl _))
               (have hbo0 : BoIn W0 op.ka op.kl op.kc op.kb := hopW.bo.below hb0 (Nat.le_refl _))
               (have d0 : W0.cell? ⟨wr.heap.size, 0, none⟩ = some (.int .i64 op.k) := hH0.cell 0)
               (have d1 : W0.cell? ⟨wr.heap.size, 1, none⟩ = some (.slice op.a op.L op.C) := hH0.cell 1)
               (have d2 : W0.cell? ⟨wr.heap.size, 2, none⟩ = some (.int .i64 op.i) := hH0.cell 2)
               (have d3 : W0.cell? ⟨wr.heap.size, 3, none⟩ = some (.slice op.ka op.kl op.kc) := hH0.cell 3)
               (have hqlt : wr.heap.size < W0.heap.size := hH0.lt)
               (clear hJ hR hopW hb0)
               (have c0z := d0))
            | ((go_at_call 18)
               (refine Calls.mono (in_cut hD hJ0.dev op.ka op.kl op.kc op.kb (by omega) hbo0.max hbo0.le hbo0.at_) ?_)
               (rintro e W1 ⟨hb1, _, pL, cL, FL, rfl, hIL, hFL, hcL⟩)
               (obtain ⟨keep, hkeep⟩ : ∃ keep, keep = keepOf op.kb op.kl := ⟨_, rfl⟩)
               (rw [← hkeep] at hIL)
               (clear hkeep))
            | ((go_at_call 19)
               (refine (openA hD hM hG hB1 hIL (hf.cut keep) (by omega) (Nat.zero_le _) hdd).mono ?_)
               (rintro e W2 ⟨rfl, hb2⟩)
               (have hI2 := hIL.next hD hb2)
               (clear hIL hJ0 hR0))
            | ((go_at_call 16)
               (first
                 | (have _t := hI2
                    refine (in_dead hD hI2 hdd).mono ?_
                    rintro e W3 ⟨rfl, hb3⟩
                    have hI3 := hI2.next hD hb3
                    clear hI2 _t))))
            go_loop [19, 20] (fun a b => ∃ q : Nat, q ≤ n ∧ a = .bool true ∧ b = .int .i64 (q : Nat)) (fun _ b => n - (intOf b).toNat)
            case atStart => exact ⟨0, Nat.zero_le _, rfl, rfl⟩
            case round =>
              obtain ⟨q, hq, rfl, rfl⟩ := hrel
              by_cases hqn : q < n
              · have q1 : ((q : Nat) : Int) < ((n : Nat) : Int) := by omega
                go_wp2
                go_round
                case rel => exact ⟨q + 1, by omega, rfl, by go_num⟩
                case measure => simp [intOf]; omega
              · have q1 : ¬ ((q : Nat) : Int) < ((n : Nat) : Int) := by omega
                go_wp2_with (first
                | ((go_at_call 16)
                   (first
                     | (have _t := hI3
                        refine (in_dead hD hI3 hdd).mono ?_
                        rintro e W4 ⟨rfl, hb4⟩
                        have hI4 := hI3.next hD hb4
                        clear hI3 _t)
                     | (have _t := hI4
                        refine (in_dead hD hI4 hdd).mono ?_
                        rintro e W5 ⟨rfl, hb5⟩
                        have hI5 := hI4.next hD hb5
                        clear hI4 _t))))
                go_ret
                exact ⟨rfl, hI5.below⟩
      by_cases k5 : op.k = 5
      · skip
        as_aux_lemma =>
          have hszT := hJ.sized
          rw [hsn] at hszT
          obtain ⟨ET, hET⟩ : ∃ ET, ET = endOf 0 rs := ⟨_, rfl⟩
          have HET : Hid (ET = endOf 0 rs) := hET
          obtain ⟨FT, hFT⟩ : ∃ FT, FT = N - ET := ⟨_, rfl⟩
          have HFT : Hid (FT = N - ET) := hFT
          have hETN : ET ≤ N := by rw [hET, HN.out]; exact hszT.2.1
          have eF : (N : Int) - (ET : Int) = (FT : Int) := by omega
          have hETb : (ET : Int) ≤ 2560 := by omega
          clear hET hFT
          go_wp2_with (first
          | ((refine at_dst 62 rfl ?_)
             (refine wpList_is (some 62) (.pointer (some ⟨x, o + i * 4, none⟩)) rfl (by rfl) (run_at_opJ _ _ rfl x o i ln lc rfl rfl hlt.1 _) ?_))
          | ((refine at_dst 63 rfl ?_)
             (refine wpList_is (some 63) (.agg (ocellJ op).toArray) rfl (by rfl) (run_load_opJ (.tmp 62) rfl x (o + i * 4) rfl op wr hopW) ?_))
          | ((refine at_dst 13 rfl ?_)
             (refine wpList_is_w (some 13) (.pointer (some ⟨wr.heap.size, 0, none⟩)) (wr.alloc (.cells #[.int .i64 0, .slice none 0 0, .int .i64 0, .slice none 0 0] 36)) rfl (by rfl) (by kernel_rfl) ?_))
          | ((refine at_stJ 36 (.tmp 13) (.tmp 63) rfl ?_)
             (refine wpList_copy_opJ wr op rfl (.tmp 13) (.tmp 63) rfl rfl rfl ?_)
             (intro W0 hH0 hb0)
             (have hJ0 := hJ.next hD hb0)
             (have hR0 := hR.below hb0)
             (have hby0 : ByIn W0 op.a op.L op.C op.b := hopW.by_.below hb0 (Nat.le_refl _))
             (have hbo0 : BoIn W0 op.ka op.kl op.kc op.kb := hopW.bo.below hb0 (Nat.le_refl _))
             (have d0 : W0.cell? ⟨wr.heap.size, 0, none⟩ = some (.int .i64 op.k) := hH0.cell 0)
             (have d1 : W0.cell? ⟨wr.heap.size, 1, none⟩ = some (.slice op.a op.L op.C) := hH0.cell 1)
             (have d2 : W0.cell? ⟨wr.heap.size, 2, none⟩ = some (.int .i64 op.i) := hH0.cell 2)
             (have d3 : W0.cell? ⟨wr.heap.size, 3, none⟩ = some (.slice op.ka op.kl op.kc) := hH0.cell 3)
             (have hqlt : wr.heap.size < W0.heap.size := hH0.lt)
             (clear hJ hR hopW hb0)
             (have c0z := d0))
          | ((go_at_call 21)
             (refine (j_kill hD hJ0 hf).mono ?_)
             (rintro e W1 ⟨rfl, s1, F1', hS1, hf1, hn1', hl1, hk1⟩)
             (obtain ⟨hR1, hA1⟩ := hS1.row hJ0.dev.base hJ0.dev.cb hJ0.base hR0 hA)
             (have hJ1 := hS1.jin)
             (clear hS1 hJ0 hR0)
             (have hfT := hf1.n2)
             (have hsnT : s1.n = n := hn1'.trans hsn))
          | ((go_at_call 24)
             (have hJr := hJ1)
             (have hRr := hR1)
             (have hrec := j_records hD hJr hfT)
             (unfold RecR at hrec)
             (rw [← HM.out] at hrec)
             (refine Calls.mono hrec ?_)
             (rintro e wa ⟨hba, aa, cpa, rfl, hra⟩)
             (have hJa := hJr.next hD hba)
             (have hRa := hRr.below hba)
             (have hrla := rlP_of hRa)
             (clear hrec hJr hRr))
          | ((go_at_call 23)
             (have hsm := samer_any (c1 := cpa) (c2 := vc) hra hrla HM.out HM.out)
             (rw [rlikes_refl] at hsm)
             (refine hsm.mono ?_)
             (rintro e wb ⟨rfl, hbb⟩)
             (have hJb := hJa.next hD hbb)
             (have hRb := hRa.below hbb)
             (clear hsm hJa hRa hra hrla))
          | ((go_at_call 25)
             (refine (j_flushed hD hJb hfT).mono ?_)
             (rintro e wc ⟨rfl, hbc⟩)
             (have hJc := hJb.next hD hbc)
             (have hRc := hRb.below hbc)
             (clear hJb hRb))
          | ((go_at_call 26)
             (have hfr := j_free hD hJc hfT)
             (rw [hsnT, ← HN.out, ← HET.out, ← HFT.out] at hfr)
             (refine hfr.mono ?_)
             (rintro e wd ⟨rfl, hbd⟩)
             (have hJd := hJc.next hD hbd)
             (have hRd := hRc.below hbd)
             (have hrld := rlP_of hRd)
             (clear hfr hJc hRc))
          | ((go_at_call 27)
             (have hsz := size_any (c := vc) hrld HM.out hszT.1 (by rw [← HET.out]; omega))
             (rw [← HET.out] at hsz)
             (refine hsz.mono ?_)
             (rintro e we ⟨rfl, hbe⟩)
             (have hJe := hJd.next hD hbe)
             (have hRe := hRd.below hbe)
             (clear hsz hJd hRd hrld)))
          have hfin : PlayI D w n (i + 1) p1 j1 _ fl we := ⟨s1, c1, m, _, G1, X, rs, hJe, hRe, hA1, hf1, hsnT, hk1 _ hk, by omega, by omega, hb⟩
          have HF : Hid _ := hfin
          clear hfin
          go_roundw
          case rel => exact ⟨i + 1, p1, j1, fl, _, by omega, by omega, rfl, rfl, rfl, rfl, by go_num, HF.out⟩
          case measure => simp [intOf]; omega
      by_cases k6 : op.k = 6
      · skip
        as_aux_lemma =>
          have hszT := hJ.sized
          rw [hsn] at hszT
          obtain ⟨ET, hET⟩ : ∃ ET, ET = endOf 0 rs := ⟨_, rfl⟩
          have HET : Hid (ET = endOf 0 rs) := hET
          obtain ⟨FT, hFT⟩ : ∃ FT, FT = N - ET := ⟨_, rfl⟩
          have HFT : Hid (FT = N - ET) := hFT
          have hETN : ET ≤ N := by rw [hET, HN.out]; exact hszT.2.1
          have eF : (N : Int) - (ET : Int) = (FT : Int) := by omega
          have hETb : (ET : Int) ≤ 2560 := by omega
          clear hET hFT
          have hpl2 := pickN_lt op.i n (by omega)
          have hpo := fun W => pick_any op.i n W hoi hn1 (by omega)
          generalize pickN op.i n = pi at hpl2 hpo
          have hpi : i64ok ((pi : Nat) : Int) := by unfold i64ok; omega
          go_wp2_with (first
          | ((refine at_dst 62 rfl ?_)
             (refine wpList_is (some 62) (.pointer (some ⟨x, o + i * 4, none⟩)) rfl (by rfl) (run_at_opJ _ _ rfl x o i ln lc rfl rfl hlt.1 _) ?_))
          | ((refine at_dst 63 rfl ?_)
             (refine wpList_is (some 63) (.agg (ocellJ op).toArray) rfl (by rfl) (run_load_opJ (.tmp 62) rfl x (o + i * 4) rfl op wr hopW) ?_))
          | ((refine at_dst 13 rfl ?_)
             (refine wpList_is_w (some 13) (.pointer (some ⟨wr.heap.size, 0, none⟩)) (wr.alloc (.cells #[.int .i64 0, .slice none 0 0, .int .i64 0, .slice none 0 0] 36)) rfl (by rfl) (by kernel_rfl) ?_))
          | ((refine at_stJ 36 (.tmp 13) (.tmp 63) rfl ?_)
             (refine wpList_copy_opJ wr op rfl (.tmp 13) (.tmp 63) rfl rfl rfl ?_)
             (intro W0 hH0 hb0)
             (have hJ0 := hJ.next hD hb0)
             (have hR0 := hR.below hb0)
             (have hby0 : ByIn W0 op.a op.L op.C op.b := hopW.by_.below hb0 (Nat.le_refl _))
             (have hbo0 : BoIn W0 op.ka op.kl op.kc op.kb := hopW.bo.below hb0 (Nat.le_refl _))
             (have d0 : W0.cell? ⟨wr.heap.size, 0, none⟩ = some (.int .i64 op.k) := hH0.cell 0)
             (have d1 : W0.cell? ⟨wr.heap.size, 1, none⟩ = some (.slice op.a op.L op.C) := hH0.cell 1)
             (have d2 : W0.cell? ⟨wr.heap.size, 2, none⟩ = some (.int .i64 op.i) := hH0.cell 2)
             (have d3 : W0.cell? ⟨wr.heap.size, 3, none⟩ = some (.slice op.ka op.kl op.kc) := hH0.cell 3)
             (have hqlt : wr.heap.size < W0.heap.size := hH0.lt)
             (clear hJ hR hopW hb0)
             (have c0z := d0))
          | ((go_at_call 9)
             (refine (hpo _).mono ?_)
             (rintro e wz ⟨rfl, hzz⟩)
             (obtain rfl : W0 = wz := hzz.symm)
             (clear hpo))
          | ((go_at_call 22)
             (refine (j_spoil hD hJ0 hf _ hpi).mono ?_)
             (rintro e W1 ⟨rfl, s1, F1', hS1, hf1, hn1', hl1, hk1⟩)
             (obtain ⟨hR1, hA1⟩ := hS1.row hJ0.dev.base hJ0.dev.cb hJ0.base hR0 hA)
             (have hJ1 := hS1.jin)
             (clear hS1 hJ0 hR0)
             (have hfT := hf1.n2)
             (have hsnT : s1.n = n := hn1'.trans hsn))
          | ((go_at_call 24)
             (have hJr := hJ1)
             (have hRr := hR1)
             (have hrec := j_records hD hJr hfT)
             (unfold RecR at hrec)
             (rw [← HM.out] at hrec)
             (refine Calls.mono hrec ?_)
             (rintro e wa ⟨hba, aa, cpa, rfl, hra⟩)
             (have hJa := hJr.next hD hba)
             (have hRa := hRr.below hba)
             (have hrla := rlP_of hRa)
             (clear hrec hJr hRr))
          | ((go_at_call 23)
             (have hsm := samer_any (c1 := cpa) (c2 := vc) hra hrla HM.out HM.out)
             (rw [rlikes_refl] at hsm)
             (refine hsm.mono ?_)
             (rintro e wb ⟨rfl, hbb⟩)
             (have hJb := hJa.next hD hbb)
             (have hRb := hRa.below hbb)
             (clear hsm hJa hRa hra hrla))
          | ((go_at_call 25)
             (refine (j_flushed hD hJb hfT).mono ?_)
             (rintro e wc ⟨rfl, hbc⟩)
             (have hJc := hJb.next hD hbc)
             (have hRc := hRb.below hbc)
             (clear hJb hRb))
          | ((go_at_call 26)
             (have hfr := j_free hD hJc hfT)
             (rw [hsnT, ← HN.out, ← HET.out, ← HFT.out] at hfr)
             (refine hfr.mono ?_)
             (rintro e wd ⟨rfl, hbd⟩)
             (have hJd := hJc.next hD hbd)
             (have hRd := hRc.below hbd)
             (have hrld := rlP_of hRd)
             (clear hfr hJc hRc))
          | ((go_at_call 27)
             (have hsz := size_any (c := vc) hrld HM.out hszT.1 (by rw [← HET.out]; omega))
             (rw [← HET.out] at hsz)
             (refine hsz.mono ?_)
             (rintro e we ⟨rfl, hbe⟩)
             (have hJe := hJd.next hD hbe)
             (have hRe := hRd.below hbe)
             (clear hsz hJd hRd hrld)))
          have hfin : PlayI D w n (i + 1) p1 j1 _ fl we := ⟨s1, c1, m, _, G1, X, rs, hJe, hRe, hA1, hf1, hsnT, hk1 _ hk, by omega, by omega, hb⟩
          have HF : Hid _ := hfin
          clear hfin
          go_roundw
          case rel => exact ⟨i + 1, p1, j1, fl, _, by omega, by omega, rfl, rfl, rfl, rfl, by go_num, HF.out⟩
          case measure => simp [intOf]; omega
      · skip
        as_aux_lemma =>
          have kn1 : ¬ op.k = 1 := by omega
          have kn2 : ¬ op.k = 2 := by omega
          have kn3 : ¬ op.k = 3 := by omega
          have kn4 : ¬ op.k = 4 := by omega
          have kn5 : ¬ op.k = 5 := by omega
          have kn6 : ¬ op.k = 6 := by omega
          have hfT := hf.n2
          have hszT := hJ.sized
          rw [hsn] at hszT
          have hsnT := hsn
          obtain ⟨ET, hET⟩ : ∃ ET, ET = endOf 0 rs := ⟨_, rfl⟩
          have HET : Hid (ET = endOf 0 rs) := hET
          obtain ⟨FT, hFT⟩ : ∃ FT, FT = N - ET := ⟨_, rfl⟩
          have HFT : Hid (FT = N - ET) := hFT
          have hETN : ET ≤ N := by rw [hET, HN.out]; exact hszT.2.1
          have eF : (N : Int) - (ET : Int) = (FT : Int) := by omega
          have hETb : (ET : Int) ≤ 2560 := by omega
          clear hET hFT
          go_wp2_with (first
          | ((refine at_dst 62 rfl ?_)
             (refine wpList_is (some 62) (.pointer (some ⟨x, o + i * 4, none⟩)) rfl (by rfl) (run_at_opJ _ _ rfl x o i ln lc rfl rfl hlt.1 _) ?_))
          | ((refine at_dst 63 rfl ?_)
             (refine wpList_is (some 63) (.agg (ocellJ op).toArray) rfl (by rfl) (run_load_opJ (.tmp 62) rfl x (o + i * 4) rfl op wr hopW) ?_))
          | ((refine at_dst 13 rfl ?_)
             (refine wpList_is_w (some 13) (.pointer (some ⟨wr.heap.size, 0, none⟩)) (wr.alloc (.cells #[.int .i64 0, .slice none 0 0, .int .i64 0, .slice none 0 0] 36)) rfl (by rfl) (by kernel_rfl) ?_))
          | ((refine at_stJ 36 (.tmp 13) (.tmp 63) rfl ?_)
             (refine wpList_copy_opJ wr op rfl (.tmp 13) (.tmp 63) rfl rfl rfl ?_)
             (intro W0 hH0 hb0)
             (have hJ0 := hJ.next hD hb0)
             (have hR0 := hR.below hb0)
             (have hby0 : ByIn W0 op.a op.L op.C op.b := hopW.by_.below hb0 (Nat.le_refl _))
             (have hbo0 : BoIn W0 op.ka op.kl op.kc op.kb := hopW.bo.below hb0 (Nat.le_refl _))
             (have d0 : W0.cell? ⟨wr.heap.size, 0, none⟩ = some (.int .i64 op.k) := hH0.cell 0)
             (have d1 : W0.cell? ⟨wr.heap.size, 1, none⟩ = some (.slice op.a op.L op.C) := hH0.cell 1)
             (have d2 : W0.cell? ⟨wr.heap.size, 2, none⟩ = some (.int .i64 op.i) := hH0.cell 2)
             (have d3 : W0.cell? ⟨wr.heap.size, 3, none⟩ = some (.slice op.ka op.kl op.kc) := hH0.cell 3)
             (have hqlt : wr.heap.size < W0.heap.size := hH0.lt)
             (clear hJ hR hopW hb0)
             (have c0z := d0))
          | ((go_at_call 24)
             (have hJr := hJ0)
             (have hRr := hR0)
             (have hrec := j_records hD hJr hfT)
             (unfold RecR at hrec)
             (rw [← HM.out] at hrec)
             (refine Calls.mono hrec ?_)
             (rintro e wa ⟨hba, aa, cpa, rfl, hra⟩)
             (have hJa := hJr.next hD hba)
             (have hRa := hRr.below hba)
             (have hrla := rlP_of hRa)
             (clear hrec hJr hRr))
          | ((go_at_call 23)
             (have hsm := samer_any (c1 := cpa) (c2 := vc) hra hrla HM.out HM.out)
             (rw [rlikes_refl] at hsm)
             (refine hsm.mono ?_)
             (rintro e wb ⟨rfl, hbb⟩)
             (have hJb := hJa.next hD hbb)
             (have hRb := hRa.below hbb)
             (clear hsm hJa hRa hra hrla))
          | ((go_at_call 25)
             (refine (j_flushed hD hJb hfT).mono ?_)
             (rintro e wc ⟨rfl, hbc⟩)
             (have hJc := hJb.next hD hbc)
             (have hRc := hRb.below hbc)
             (clear hJb hRb))
          | ((go_at_call 26)
             (have hfr := j_free hD hJc hfT)
             (rw [hsnT, ← HN.out, ← HET.out, ← HFT.out] at hfr)
             (refine hfr.mono ?_)
             (rintro e wd ⟨rfl, hbd⟩)
             (have hJd := hJc.next hD hbd)
             (have hRd := hRc.below hbd)
             (have hrld := rlP_of hRd)
             (clear hfr hJc hRc))
          | ((go_at_call 27)
             (have hsz := size_any (c := vc) hrld HM.out hszT.1 (by rw [← HET.out]; omega))
             (rw [← HET.out] at hsz)
             (refine hsz.mono ?_)
             (rintro e we ⟨rfl, hbe⟩)
             (have hJe := hJd.next hD hbe)
             (have hRe := hRd.below hbe)
             (clear hsz hJd hRd hrld)))
          have hfin : PlayI D w n (i + 1) p1 j1 _ fl we := ⟨s, c1, m, F1, G1, X, rs, hJe, hRe, hA, hf, hsn, hk, by omega, by omega, hb⟩
          have HF : Hid _ := hfin
          clear hfin
          go_roundw
          case rel => exact ⟨i + 1, p1, j1, fl, _, by omega, by omega, rfl, rfl, rfl, rfl, by go_num, HF.out⟩
          case measure => simp [intOf]; omega
    · skip
      as_aux_lemma =>
        by_cases h1 : i < ln
        · skip
          have i0 : (i : Int) < (ln : Int) := by omega
          have i1 : ¬ (i : Int) < 60 := by omega
          cases hdd : s.dead
          · go_wp2
            go_loopw [22] (fun b W => ∃ q : Nat, q ≤ n ∧ b = .int .i64 (q : Nat) ∧ (∀ i, i < q → s.bad i = false) ∧ JIn D w.heap.size w W j1 p1 s c1 m F1 rs fl G1 ∧ OwnR w.heap.size W (.slice va M vc) rs X) (fun b _ => n - (intOf b).toNat)
            case atStart => exact ⟨0, Nat.zero_le _, rfl, fun i hi => absurd hi (Nat.not_lt_zero _), hJ, hR⟩
            case round =>
              clear hJ hR
              obtain ⟨q, hq, rfl, hgd, hJ, hR⟩ := hrel
              by_cases hqn : q < n
              · have q1 : ((q : Nat) : Int) < ((n : Nat) : Int) := by omega
                cases hbq : s.bad q
                · go_wp2_with (first
                    | (go_at_call 16; refine (j_dead hD hJ hdd).mono ?_; rintro e W4 ⟨rfl, hb4⟩; have hJ4 := hJ.next hD hb4; have hR4 := hR.below hb4)
                    | (go_at_call 20; refine (in_bad hM hJ4.dev q (by rw [hsn]; exact hqn) hf.n2 hbq).mono ?_; rintro e W5 ⟨rfl, hb5⟩))
                  go_roundw
                  case rel => exact ⟨q + 1, by omega, by go_num, fun i hi => (by by_cases e : i = q; rw [e]; exact hbq; exact hgd i (by omega)), hJ4.next hD hb5, hR4.below hb5⟩
                  case measure => simp [intOf]; omega
                · go_wp2_with (first
                    | (go_at_call 16; refine (j_dead hD hJ hdd).mono ?_; rintro e W4 ⟨rfl, hb4⟩; have hJ4 := hJ.next hD hb4)
                    | (go_at_call 20; refine (in_bad hM hJ4.dev q (by rw [hsn]; exact hqn) hf.n2 hbq).mono ?_; rintro e W5 ⟨rfl, hb5⟩; have hJ5 := hJ4.next hD hb5))
                  go_ret
                  exact ⟨rfl, hJ5.dev.below⟩
              · have q1 : ¬ ((q : Nat) : Int) < ((n : Nat) : Int) := by omega
                obtain rfl : q = n := by omega
                have hfine := hf.fine hdd (by rw [hsn]; exact hgd)
                obtain ⟨hR4, hfc, hfn, hfs⟩ := hR.first HM.out fl (by rw [← HM.out]; exact hflM)
                have hst := stands_any (cap := vc) (n := fl) hD hM hJ.dev.dev hfine.sound (by omega) (by omega) (rlP_of hR4) (by rw [List.length_take, ← HM.out]; omega)
                rw [stands_yesP hfine hk (fun r hr => hb r (List.mem_of_mem_take hr))] at hst
                go_wp2_with (first
                  | ((refine at_dst 228 rfl ?_)
                     (refine wpList_is (some 228) (.slice va fl vc) rfl (by rfl) (run_slice_recsP _ _ rfl va M vc fl rfl rfl hfc hfn hfs _) ?_))
                  | (go_at_call 28; refine hst.mono ?_; rintro e W5 ⟨rfl, hb5⟩))
                go_ret
                exact ⟨rfl, (hJ.next hD hb5).dev.below⟩
          · go_wp2
            go_loopw [22] (fun b W => b = .int .i64 0 ∧ JIn D w.heap.size w W j1 p1 s c1 m F1 rs fl G1) (fun _ _ => 0)
            case atStart => exact ⟨rfl, hJ⟩
            case round =>
              clear hJ hR
              obtain ⟨rfl, hJ⟩ := hrel
              have q1 : (0 : Int) < ((n : Nat) : Int) := by omega
              go_wp2_with (first
                | (go_at_call 16; refine (j_dead hD hJ hdd).mono ?_; rintro e W4 ⟨rfl, hb4⟩; have hJ4 := hJ.next hD hb4))
              go_ret
              exact ⟨rfl, hJ4.dev.below⟩
        · skip
          have i0 : ¬ (i : Int) < (ln : Int) := by omega
          cases hdd : s.dead
          · go_wp2
            go_loopw [22] (fun b W => ∃ q : Nat, q ≤ n ∧ b = .int .i64 (q : Nat) ∧ (∀ i, i < q → s.bad i = false) ∧ JIn D w.heap.size w W j1 p1 s c1 m F1 rs fl G1 ∧ OwnR w.heap.size W (.slice va M vc) rs X) (fun b _ => n - (intOf b).toNat)
            case atStart => exact ⟨0, Nat.zero_le _, rfl, fun i hi => absurd hi (Nat.not_lt_zero _), hJ, hR⟩
            case round =>
              clear hJ hR
              obtain ⟨q, hq, rfl, hgd, hJ, hR⟩ := hrel
              by_cases hqn : q < n
              · have q1 : ((q : Nat) : Int) < ((n : Nat) : Int) := by omega
                cases hbq : s.bad q
                · go_wp2_with (first
                    | (go_at_call 16; refine (j_dead hD hJ hdd).mono ?_; rintro e W4 ⟨rfl, hb4⟩; have hJ4 := hJ.next hD hb4; have hR4 := hR.below hb4)
                    | (go_at_call 20; refine (in_bad hM hJ4.dev q (by rw [hsn]; exact hqn) hf.n2 hbq).mono ?_; rintro e W5 ⟨rfl, hb5⟩))
                  go_roundw
                  case rel => exact ⟨q + 1, by omega, by go_num, fun i hi => (by by_cases e : i = q; rw [e]; exact hbq; exact hgd i (by omega)), hJ4.next hD hb5, hR4.below hb5⟩
                  case measure => simp [intOf]; omega
                · go_wp2_with (first
                    | (go_at_call 16; refine (j_dead hD hJ hdd).mono ?_; rintro e W4 ⟨rfl, hb4⟩; have hJ4 := hJ.next hD hb4)
                    | (go_at_call 20; refine (in_bad hM hJ4.dev q (by rw [hsn]; exact hqn) hf.n2 hbq).mono ?_; rintro e W5 ⟨rfl, hb5⟩; have hJ5 := hJ4.next hD hb5))
                  go_ret
                  exact ⟨rfl, hJ5.dev.below⟩
              · have q1 : ¬ ((q : Nat) : Int) < ((n : Nat) : Int) := by omega
                obtain rfl : q = n := by omega
                have hfine := hf.fine hdd (by rw [hsn]; exact hgd)
                obtain ⟨hR4, hfc, hfn, hfs⟩ := hR.first HM.out fl (by rw [← HM.out]; exact hflM)
                have hst := stands_any (cap := vc) (n := fl) hD hM hJ.dev.dev hfine.sound (by omega) (by omega) (rlP_of hR4) (by rw [List.length_take, ← HM.out]; omega)
                rw [stands_yesP hfine hk (fun r hr => hb r (List.mem_of_mem_take hr))] at hst
                go_wp2_with (first
                  | ((refine at_dst 228 rfl ?_)
                     (refine wpList_is (some 228) (.slice va fl vc) rfl (by rfl) (run_slice_recsP _ _ rfl va M vc fl rfl rfl hfc hfn hfs _) ?_))
                  | (go_at_call 28; refine hst.mono ?_; rintro e W5 ⟨rfl, hb5⟩))
                go_ret
                exact ⟨rfl, (hJ.next hD hb5).dev.below⟩
          · go_wp2
            go_loopw [22] (fun b W => b = .int .i64 0 ∧ JIn D w.heap.size w W j1 p1 s c1 m F1 rs fl G1) (fun _ _ => 0)
            case atStart => exact ⟨rfl, hJ⟩
            case round =>
              clear hJ hR
              obtain ⟨rfl, hJ⟩ := hrel
              have q1 : (0 : Int) < ((n : Nat) : Int) := by omega
              go_wp2_with (first
                | (go_at_call 16; refine (j_dead hD hJ hdd).mono ?_; rintro e W4 ⟨rfl, hb4⟩; have hJ4 := hJ.next hD hb4))
              go_ret
              exact ⟨rfl, hJ4.dev.below⟩
end Go.Proofs.YtoiaclmfljoomaaDoor
