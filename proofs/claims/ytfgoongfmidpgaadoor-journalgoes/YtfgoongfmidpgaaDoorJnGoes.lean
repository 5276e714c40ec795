/- JournalGoes, walked. -/
import Derived.Test.YtfgoongfmidpgaaDoorJnCutN
import Derived.Test.YtfgoongfmidpgaaDoorJnLawM
namespace Go.Proofs.YtfgoongfmidpgaaDoor
open Go.ChangeShapes Go.WideShapes Go.ChangeAt Go.RowKit
set_option linter.unusedVariables false

variable {D : DevRep}

/-- Lists of records, as they came in. -/
def Rll (w : World) (a : Option Addr) (n : Nat) (O : Nat → List RC) : Prop := n ≤ maxLen ∧ ∀ i, i < n → ∃ x o ad C, a = some ⟨x, o, none⟩ ∧ x < w.heap.size ∧ w.cell? ⟨x, o + i, none⟩ = some (.slice ad (O i).length C) ∧ Rl w ad (O i)

theorem open_rll {H : Type} {enc : TypeId × Value → H} {W : World} {fuel : Nat} {a : Option Addr} {len cap : Nat} {y : DataW H × List MemPlace} (hf : DataW.trod enc Tryd.prog W 0 (fun _ => true) true fuel 58 [.slice a len cap] = some y) : ∃ O, Rll W a len O := by
  obtain ⟨a', len', cap', e, hl, hm, hx⟩ := open_ones Tryd.underlying58 cellsRcD hf
  cases e
  have each : ∀ i, i < len → ∃ (rs : List RC) (x o : Nat) (ad : Option Addr) (C : Nat), a = some ⟨x, o, none⟩ ∧ x < W.heap.size ∧ W.cell? ⟨x, o + i, none⟩ = some (.slice ad rs.length C) ∧ Rl W ad rs := fun i hi => by
    obtain ⟨x, o, u, n', z, e, hxl, hc, ht⟩ := hx i hi
    obtain ⟨ad, L, C, rs, rfl, _, hb, hL⟩ := open_rl ht
    exact ⟨rs, x, o, ad, C, e, hxl, by rw [hL]; exact hc, hb⟩
  refine ⟨fun i => if h : i < len then (each i h).choose else [], hm, fun i hi => ?_⟩
  simp only [dif_pos hi]
  exact (each i hi).choose_spec

/-- What JournalGoes holds behind i parts. -/
def GoesI (D : DevRep) (w : World) (p c i : Nat) (j : Nat) (v : Value) (wr : World) : Prop :=
  ∃ s m F G X rs, JIn D w.heap.size w wr j p s c m F rs rs.length G ∧ OwnR w.heap.size wr v rs X ∧ Apt F c G X ∧ Fine s ∧ s.n = 60 ∧ Keeps s rs ∧ s.log.length ≤ 64 + 192 * i ∧ m ≤ 64 + 192 * i ∧ ∀ r ∈ rs, ∀ k, r.f k < 256

set_option maxRecDepth 100000 in
set_option maxHeartbeats 16000000 in
theorem goes_walk (hD : DevOk D) (hM : DevMore D) (hN : DevCutN D) (w : World) (hG : Glob Hc Kc w) (pa : Option Addr) (pn pc : Nat) (O : Nat → List RC) (hO : Rll w pa pn O) :
    Calls Tryd.prog 6 #[.slice pa pn pc] w fun e w' => e = .returned (.bool true) ∧ Below w.heap.size w w' := by
  have hjn := jp_nil
  have hpn := pd_nil
  have hB1 : 1 < w.heap.size := hG.1
  have hpm := hO.1
  unfold maxLen at hpm
  have hnew := in_new (B := w.heap.size) (w0 := w) hD 60 (by decide) (by decide) (Below.refl _ _) (Nat.le_refl _)
  go_enter Tryd.func6, Tryd.ntmps6
  go_wp2_with (first
    | ((go_at_call 9)
       (refine hnew.mono ?_)
       (rintro e w1 ⟨p, c, F, rfl, hI1, hb1, hF1, hc1⟩)
       (clear hnew hb1 hF1 hc1)
       (have hfm := j_formatF hD hM hI1 (fine_fresh 60 (by decide) (by decide)) (by omega) (by simp [fresh]))
       (have hpn1 := hpn p)
       (clear hpn))
    | ((go_at_call 10)
       (refine Calls.mono hfm ?_)
       (rintro e w2 ⟨j, s2, m2, F2, G2, rfl, hJ2, hf2, hn2, hk2, hl2, hm2, ho2, hg2, hG2⟩)
       (clear hfm ho2 hg2 hG2)
       (have hn2' : s2.n = 60 := hn2)
       (have hl2' : s2.log.length ≤ 64 := hl2)
       (have hm2' : m2 ≤ 64 := (by have h9 : m2 ≤ 0 + (60 + 4) := hm2; omega))
       (have hal := alive_j hD hM w2 (hG.below hJ2.dev.below hB1))
       (have hjn2 := hjn j)
       (clear hn2 hl2 hm2 hI1))
    | ((go_at_call 11)
       (refine hal.mono ?_)
       (rintro e w3 ⟨rfl, hb3⟩)
       (clear hal)
       (have hJ3 := hJ2.next hD hb3)
       (clear hJ2 hb3)))
  go_loopw [5, 6, 7, 8] (fun jv ev v iv wr => ∃ (i j : Nat) (y : Value), i ≤ pn ∧ i ≤ 8 ∧ jv = ptr j ∧ ev = .int .i64 0 ∧ v = y ∧ iv = .int .i64 (i : Nat) ∧ GoesI D w p c i j y wr) (fun _ _ _ iv _ => 8 - (intOf iv).toNat)
  case atStart => exact ⟨0, j, _, Nat.zero_le _, Nat.zero_le _, rfl, rfl, rfl, rfl, s2, m2, F2, G2, fun _ => False, [], hJ3, OwnR.nil hJ3.dev.sz, fun k hk => hk.elim, hf2, hn2', hk2, by omega, by omega, fun r hr => by cases hr⟩
  case round =>
    obtain ⟨i, j1, v, hip, hi8, rfl, rfl, ev, rfl, s, m, F1, G1, X, rs, hJ, hR, hA, hf, hn, hk, hl, hm, hb⟩ := hrel
    obtain rfl := ev.symm
    clear hJ3 hf2 hk2 hjn2
    by_cases hlt : i < pn ∧ i < 8
    · have i0 : (i : Int) < (pn : Int) := by omega
      have i1 : (i : Int) < 8 := by omega
      have i2 : (0 : Int) ≤ (i : Int) := by omega
      obtain ⟨x, o, ad, C, e9, hx, hc, hrl⟩ := hO.2 i hlt.1
      subst e9
      have hbw : Below w.heap.size w wr := hJ.dev.below
      have hcw : wr.cell? ⟨x, o + i, none⟩ = some (.slice ad (O i).length C) := (hbw.cell (p := ⟨x, o + i, none⟩) hx).trans hc
      have hfi := fill_c (lc := C) hD hG hB1 (Nat.le_refl _) hJ hf.n2 hrl rfl
      have hszr := hJ.sized
      go_wp2_with (first
        | ((go_at_call 28)
           (refine Calls.mono hfi ?_)
           (rintro e w1 ⟨v1, rfl, G2, X1, hS1, hO1, hA1, hX1⟩)
           (obtain ⟨hR1, hA1'⟩ := hS1.row hJ.dev.base hJ.dev.cb hJ.base hR hA)
           (have hfb := filled_byt (rs := rs) hrl (64 * s.n) 40)
           (have hfl := filled_len ((O i).take 40) rs (64 * s.n))
           (rw [List.length_take] at hfl)
           (obtain ⟨f1, hf1⟩ : ∃ f1, f1 = filled rs (64 * s.n) ((O i).take 40) := ⟨_, rfl⟩)
           (rw [← hf1] at hS1 hO1 hfb hfl)
           (have hJ1 := hS1.jin)
           (obtain ⟨v2, w2, hap2, hon2, hO2, hv2⟩ := hR1.cat hO1 (by omega))
           (have hA2 := apt_new (Y := fun x => (X x ∨ X1 x) ∨ v2.ownBlock = some x) hJ1 hD (X := fun x => X x ∨ X1 x) (fun k hk => hk.elim (hA1' k) (hA1 k)) (fun k hk => hk.elim .inl (fun h9 => (hv2 k h9).imp .inl id)))
           (have hJ2 := hJ1.own hD (hon2.mono (fun k e => hR1.blk e)) (fun k hk => (hR1.lt k hk).1) hA1')
           (have hall : ∀ r ∈ rs ++ f1, ∀ k, r.f k < 256 := fun r hr => (List.mem_append.1 hr).elim (hb r) (hfb r))
           (have hk0 : Keeps s ((rs ++ f1).take rs.length) := (by rw [List.take_left]; exact hk))
           (obtain ⟨rs1, hrs1⟩ : ∃ rs1, rs1 = rs ++ f1 := ⟨_, rfl⟩)
           (rw [← hrs1] at hJ2 hO2 hall hk0)
           (have hflush := j_flushF hD hM hJ2 hf hk0 (by omega) (by omega))
           (obtain ⟨va, vc, hv2e, _⟩ := hO2.rl)
           (clear hfi hS1 hO1 hA1 hX1 hR1 hA1' hJ1 hR hA hJ hon2 hv2 hf1 hrs1 hfb hfl hcw hc))
        | ((refine at_dst 51 rfl ?_)
           (refine wpList_is_w (some 51) v2 w2 rfl (by rfl) (run_append_op _ _ _ _ rfl v v1 rfl rfl _ hap2) ?_)
           (subst hv2e))
        | ((go_at_call 14)
           (refine hflush.mono ?_)
           (rintro e w3 ⟨rfl, s3, m3, F3, hS3, hf3, hn3, hk3, hl3, hm3, _⟩)
           (obtain ⟨hR3, hA3⟩ := hS3.row hJ2.dev.base hJ2.dev.cb hJ2.base hO2 hA2)
           (have hJ3 := hS3.jin)
           (rw [hn] at hn3 hl3 hm3)
           (have hfr := j_free hD hJ3 hf3.n2)
           (obtain ⟨FR, hFR⟩ : ∃ FR, FR = 64 * 60 - endOf 0 rs1 := ⟨_, rfl⟩)
           (rw [hn3, ← hFR] at hfr)
           (have HFR : Hid (FR = 64 * 60 - endOf 0 rs1) := hFR)
           (have hFRb : FR ≤ 3840 := (by omega))
           (clear hflush hS3 hO2 hA2 hJ2 hFR))
        | ((go_at_call 25)
           (first
             | (have _t := hfr
                refine hfr.mono ?_
                rintro e w4 ⟨rfl, hb4⟩
                clear hfr _t
                have hJ4 := hJ3.next hD hb4
                have hR4 := hR3.below hb4
                have hcut := in_cutN hD hN hJ4.dev none 0 0 (fun _ => false) (by omega) (by unfold maxLen; omega) (Nat.le_refl _) (.inl rfl))
             | (have _t := hfr2
                refine hfr2.mono ?_
                rintro e w9 ⟨rfl, hb9⟩
                clear hfr2 _t
                have hJ9 := hJ8.next hD hb9
                have hI9 := hI8.next hD hb9
                have hR9 := hR8.below hb9
                have hfd := j_flushed hD hJ9 hf6.n2)))
        | ((go_at_call 17)
           (refine Calls.mono hcut ?_)
           (rintro e w5 ⟨hb5, hI5, pL, cL, FL, rfl, hIL, hFL, hcL⟩)
           (clear hcut)
           (have hR5 := hR4.below hb5)
           (have hssL : rsame (told dgS (byOf (holds (cutD s3 (keepOf (fun _ => false) 0)))) (64 * (cutD s3 (keepOf (fun _ => false) 0)).n)) rs1 := (by rw [holds_cut hf3.safe]; exact hk3.told))
           (have hop := j_openF hD hM hG hB1 hIL (Able.cut hf3 _) (by omega) (Nat.zero_le _) hssL hall)
           (clear hssL))
        | ((go_at_call 18)
           (first
             | (have _t := hop
                refine Calls.mono hop ?_
                rintro e w6 ⟨k6, s6, m6, F6, G6, rfl, hJ6, hf6, hn6, hk6, hl6, hm6, _, ho6, hg6, hG6⟩
                have hR6 := hR5.only ho6 (fun q hq => hq.elim (hIL.base q) (fun e9 => by rw [e9]; exact hIL.cb)) (fun q hq h9 => by have h8 := (hR4.lt q hq).2; exact h9.elim (fun h7 => by have := hFL q h7; omega) (fun h7 => by omega))
                have hI6 := hI5.only hD ho6 (fun q hq h9 => by have h8 := hJ4.dev.lt hD q hq; exact h9.elim (fun h7 => by have := hFL q h7; omega) (fun h7 => by omega)) (fun h9 => by have h8 := hJ4.dev.clt hD; exact h9.elim (fun h7 => by have := hFL c h7; omega) (fun h7 => by omega)) (fun q hq => hq.elim (hIL.base q) (fun e9 => by rw [e9]; exact hIL.cb))
                have hrec := j_records hD hJ6 hf6.n2
                have hjn6 := hjn k6
                have hn6' : s6.n = 60 := hn6.trans hn3
                clear hop _t)
             | (have _t := hop2
                refine Calls.mono hop2 ?_
                rintro e w11 ⟨k11, s11, m11, F11, G11, rfl, hJ11, hf11, hn11, hk11, hl11, hm11, _, ho11, hg11, hG11⟩
                have hR11 := hR10.only ho11 (fun q hq => hq.elim (hI10.base q) (fun e9 => by rw [e9]; exact hI10.cb)) (fun q hq h9 => (hA3 q hq).1 h9)
                have hjn11 := hjn k11
                clear hop2 _t)))
        | ((go_at_call 23)
           (refine Calls.mono hrec ?_)
           (rintro e w7 ⟨hb7, a7, cp7, rfl, hr7⟩)
           (clear hrec)
           (have hJ7 := hJ6.next hD hb7)
           (have hI7 := hI6.next hD hb7)
           (have hR7 := hR6.below hb7)
           (obtain ⟨va2, vc2, e7, hrl7⟩ := hR7.rl)
           (cases e7)
           (have hsm := samer_any (c1 := cp7) (c2 := vc) hr7 hrl7 rfl rfl)
           (rw [rlikes_refl] at hsm))
        | ((go_at_call 22)
           (refine hsm.mono ?_)
           (rintro e w8 ⟨rfl, hb8⟩)
           (clear hsm)
           (have hJ8 := hJ7.next hD hb8)
           (have hI8 := hI7.next hD hb8)
           (have hR8 := hR7.below hb8)
           (have hfr2 := j_free hD hJ8 hf6.n2)
           (rw [hn6', ← HFR.out] at hfr2))
        | ((go_at_call 24)
           (refine hfd.mono ?_)
           (rintro e w10 ⟨rfl, hb10⟩)
           (clear hfd)
           (have hI10 := hI9.next hD hb10)
           (have hR10 := hR9.below hb10)
           (have hop2 := j_openF hD hM hG hB1 hI10 hf3.able (by omega) (by omega) hk3.told hall)))
      have hfin : GoesI D w p c (i + 1) k11 (.slice va rs1.length vc) w11 := by
        have hltq : ∀ q, _ := fun q hq => (hR10.lt q hq).2
        have hn11' : s11.n = 60 := hn11.trans hn3
        refine ⟨s11, m11, F11, G11, _, rs1, hJ11, hR11, fun q hq => ⟨(hA3 q hq).1.grew hg11 (hltq q hq), fun h9 => by have := hG11 q h9; have := hltq q hq; omega⟩, hf11, hn11', hk11, by rw [hn3] at hl11; omega, by rw [hn3] at hm11; omega, hall⟩
      have HF : Hid (GoesI D w p c (i + 1) k11 (.slice va rs1.length vc) w11) := hfin
      clear hfin
      go_roundw
      case rel => exact ⟨i + 1, k11, _, by omega, by omega, rfl, rfl, rfl, by go_num, HF.out⟩
      case measure => simp [intOf]; omega
    · have hbw : Below w.heap.size w wr := hJ.dev.below
      clear hJ hR hA hf hk
      by_cases h1 : i < pn
      · have i0 : (i : Int) < (pn : Int) := by omega
        have i1 : ¬ (i : Int) < 8 := by omega
        go_wp2
        go_ret
        exact ⟨rfl, hbw⟩
      · have i0 : ¬ (i : Int) < (pn : Int) := by omega
        go_wp2
        go_ret
        exact ⟨rfl, hbw⟩
end Go.Proofs.YtfgoongfmidpgaaDoor
