/- DeviceTogether, walked: the number not below 0; and below. -/
import Derived.Test.YtalcalecmklcoaaDvTogL
namespace Go.Proofs.Ytalcalecmklcoaa
open Go.ChangeShapes Go.WideShapes Go.ChangeAt Go.RowKit
set_option linter.unusedVariables false

variable {D : DevRep}

set_option maxRecDepth 100000 in
set_option maxHeartbeats 4000000 in
theorem together_pos (hD : DevOk D) (hM : DevMore D) (hT : DevTog D) (w : World) (sa : Option Addr) (len scap : Nat) (O : Nat → TwoV) (hS : Scr2 w sa len O) (q : Nat) (hq2 : (q : Int) ≤ 9223372036854775807) (ka : Option Addr) (kL kC : Nat) (kb : Nat → Bool) (hk : BoIn w ka kL kC kb) :
    Calls Try.prog 7 #[.slice sa len scap, .int .i64 (q : Int), .slice ka kL kC] w fun e w' => e = .returned (.bool true) ∧ Below w.heap.size w w' := by
  have hnew := in_new (B := w.heap.size) (w0 := w) hD 4 (by decide) (by decide) (Below.refl _ w) (Nat.le_refl _)
  have hlen := hS.1
  unfold maxLen at hlen
  have hW : ¬ wrap64 ((len : Int) + 1) = 0 := wrap_ne len hlen
  have h0 : 0 ≤ (q : Int) := by omega
  · go_enter Try.func7, Try.ntmps7
    go_wp2_with (first
      | ((go_at_call 9)
         (have _t := hnew)
         (refine hnew.mono ?_)
         (rintro e w1 ⟨p1, c1, F1, rfl, hI1, hb1, hF1, hc1⟩)
         (have hnew2 := in_new (B := w.heap.size) (w0 := w) hD 4 (by decide) (by decide) hI1.below hI1.sz)
         (clear hnew _t hF1 hc1 hb1))
      | ((go_at_call 9)
         (have _t := hnew2)
         (refine hnew2.mono ?_)
         (rintro e w2 ⟨p2, c2, F2, rfl, hI2, hb2, hF2, hc2⟩)
         (have hap : ∀ k, F1 k → ¬ F2 k := fun k h1 h2 => absurd (hI1.lt hD k h1) (Nat.not_lt.2 (hF2 k h2)))
         (have hI1b := hI1.next hD hb2)
         (have hal := in_tells hD hI1b (dalive_any hD w2))
         (clear hnew2 _t hF2 hc2 hb2 hI1))
      | ((go_at_call 10)
         (refine hal.mono ?_)
         (rintro e w3 ⟨rfl, hb3, hI1c⟩)
         (have hI2c := hI2.next hD hb3)
         (have htog := duo_together (g := w3.heap.size) hD hT (hI1c.alloc hD (.cells #[ptr p1, ptr p2] 23)) (hI2c.alloc hD (.cells #[ptr p1, ptr p2] 23)) hap (Nat.zero_le _) (Nat.zero_le _) ((Has.new _ _ _).cell 0) ((Has.new _ _ _).cell 1) ⟨fun hf => absurd (hI1c.lt hD _ hf) (Nat.lt_irrefl _), fun e => absurd (e ▸ hI1c.clt hD) (Nat.lt_irrefl _)⟩ ⟨fun hf => absurd (hI2c.lt hD _ hf) (Nat.lt_irrefl _), fun e => absurd (e ▸ hI2c.clt hD) (Nat.lt_irrefl _)⟩)
         (clear hal hI1b hI2 hb3))
      | ((go_at_call 23)
         (refine htog.mono ?_)
         (rintro e w4 ⟨rfl, c, G1, G2, hDuo⟩)
         (clear htog hI1c hI2c hap)))
    obtain ⟨cut, hr⟩ : ∃ r : Nat, r = q % (len + 1) := ⟨_, rfl⟩
    have hcut : cut ≤ len := by have := Nat.mod_lt q (show len + 1 > 0 by omega); omega
    rw [show ((q : Int) % wrap64 ((len : Int) + 1)) = ((cut : Nat) : Int) from by rw [hr]; exact cut_pos q len hlen]
    clear hr h0 hq2 hW
    obtain ⟨P, e1, e2⟩ : ∃ P : Bool → Nat, P false = p1 ∧ P true = p2 := ⟨fun q => cond q p2 p1, rfl, rfl⟩
    obtain ⟨G, e3, e4⟩ : ∃ G : Bool → Nat → Prop, G false = G1 ∧ G true = G2 := ⟨fun q => cond q G2 G1, rfl, rfl⟩
    subst e1 e2 e3 e4
    have hTw : Tw D w.heap.size w w4 P (fun _ => anewD (fresh 4)) c 0 G := Duo.tw hDuo
    have hTg : Tog D w ((w4.alloc (.cells (cells8 fun _ => .slice none 0 0) 63)).alloc (.cells (cells8 fun _ => .slice none 0 0) 63)) P c w4.heap.size (w4.heap.size + 1) 0 (fun _ => anewD (fresh 4)) 0 G (fun _ => .slice none 0 0) (fun _ => .slice none 0 0) (nowS (fun _ => anewD (fresh 4)) cut) (sureS (fun _ => anewD (fresh 4)) cut) := tog_start hD hTw cut
    obtain ⟨gn, hgn⟩ : ∃ gn, gn = w4.heap.size := ⟨_, rfl⟩
    obtain ⟨gs, hgs⟩ : ∃ gs, gs = w4.heap.size + 1 := ⟨_, rfl⟩
    rw [← hgn] at hTg
    rw [show gn + 1 = gs by omega] at hTg
    rw [show w4.heap.size + 1 = gs from hgs.symm, show w4.heap.size = gn from hgn.symm]
    clear hgn hgs hTw hDuo
    go_loopw [14, 15] (fun mo i wr => ∃ (k m : Nat) (S : Bool → DS) (F : Bool → Nat → Prop) (W U : Nat → Value), k ≤ len ∧ k ≤ 60 ∧ i = .int .i64 (k : Nat) ∧ mo = .int .i64 (m : Nat) ∧ Tog D w wr P c gn gs k S m F W U (nowS S cut) (sureS S cut)) (fun _ i _ => 60 - (intOf i).toNat)
    case atStart => exact ⟨0, 0, _, _, _, _, Nat.zero_le _, Nat.zero_le _, rfl, rfl, hTg⟩
    case round =>
      rename World => wr
      obtain ⟨k, m, S, F, W, U, hkl0, hk60, rfl, rfl, hG⟩ := hrel
      clear hTg
      by_cases hkk : k < len ∧ k < 60
      · obtain ⟨hkl, hk6⟩ := hkk
        obtain ⟨x, o, rfl, hx, hop⟩ := hS.2 k hkl
        obtain ⟨v, hv⟩ : ∃ v, v = O k := ⟨_, rfl⟩
        rw [← hv] at hop
        have hOp := hop.below hx (hG.tw.at_ false).below (Nat.le_refl _)
        have hby := hop.by_
        have c0 := hOp.c0
        have c1 := hOp.c1
        have i0 : (k : Int) < (len : Int) := by omega
        have i1 : (0 : Int) ≤ (k : Int) := by omega
        have i2 : (k : Int) < 60 := by omega
        have hm_ := hG.m_
        clear hv hS
        obtain ⟨t, ht⟩ : ∃ t, t = v.B := ⟨_, rfl⟩
        rw [← ht] at c0
        obtain ⟨y, hy⟩ : ∃ y, y = v.S := ⟨_, rfl⟩
        rw [← hy] at c1
        clear ht hy
        have hln := hG.len t
        cases y
        · cases t
          · skip
            have hIn := hG.tw.at_ false
            go_wp2
            have hwr' := in_write hD (hIn.next hD (Below.refl _ wr).drew) v.i v.a v.L v.C v.b hop.oi (by omega) (by omega) hby.le hby.max hby.nil (hby.at_.below (hIn.below.trans ((Below.refl _ wr).drew.mono hIn.sz)) (Nat.le_refl _)) hby.byt (.inr (hIn.apart hby.lt))
            by_cases hE : wrErr (S false) v.i v.L = 0
            · rw [hE] at hwr'
              refine wp_region_held_drew (S := fun wz => wz.cell? ⟨x, o + k * 4 + 2, none⟩ = some (.int .i64 v.i) ∧ wz.cell? ⟨x, o + k * 4 + 3, none⟩ = some (.slice v.a v.L v.C)) (by kernel_rfl) ⟨hOp.c2, hOp.c3⟩ (fun hHeld => ?_)
              refine takeTo 0 (some 104) (ptr (P false)) rfl rfl (by kernel_rfl) (by kernel_rfl) (by kernel_rfl) (fun _ _ _ h => h) (by rfl) (fun _ _ => rfl) hHeld ?_
              simp only [Act.put, List.setIfInBounds_toArray, List.set_cons_zero, List.set_cons_succ]
              refine takeTo 1 (some 105) (.slice (some ⟨x, o, none⟩) len scap) rfl rfl (by kernel_rfl) (by kernel_rfl) (by kernel_rfl) (fun _ _ _ h => h) (by rfl) (fun _ _ => rfl) hHeld ?_
              simp only [Act.put, List.setIfInBounds_toArray, List.set_cons_zero, List.set_cons_succ]
              refine takeTo 2 (some 106) (.int .i64 (k : Nat)) rfl rfl (by kernel_rfl) (by kernel_rfl) (by kernel_rfl) (fun _ _ _ h => h) (by rfl) (fun _ _ => rfl) hHeld ?_
              simp only [Act.put, List.setIfInBounds_toArray, List.set_cons_zero, List.set_cons_succ]
              refine takeTo 3 (some 107) (.pointer (some ⟨x, o + k * 4, none⟩)) rfl rfl (by kernel_rfl) (by kernel_rfl) (by kernel_rfl) (fun _ _ _ h => h) (by rfl) (fun wz _ => run_at_two _ _ rfl x o k len scap rfl rfl hkl wz) hHeld ?_
              simp only [Act.put, List.setIfInBounds_toArray, List.set_cons_zero, List.set_cons_succ]
              refine takeTo 4 (some 108) (.pointer (some ⟨x, o + k * 4 + 2, none⟩)) rfl rfl (by kernel_rfl) (by kernel_rfl) (by kernel_rfl) (fun _ _ _ h => h) (by rfl) (fun _ _ => rfl) hHeld ?_
              simp only [Act.put, List.setIfInBounds_toArray, List.set_cons_zero, List.set_cons_succ]
              refine takeTo 5 (some 109) (.int .i64 v.i) rfl rfl (by kernel_rfl) (by kernel_rfl) (by kernel_rfl) (fun _ _ _ h => h) (by rfl) (fun wz hz => run_load_i _ rfl _ rfl _ wz hz.1) hHeld ?_
              simp only [Act.put, List.setIfInBounds_toArray, List.set_cons_zero, List.set_cons_succ]
              refine takeTo 6 (some 110) (.slice (some ⟨x, o, none⟩) len scap) rfl rfl (by kernel_rfl) (by kernel_rfl) (by kernel_rfl) (fun _ _ _ h => h) (by rfl) (fun _ _ => rfl) hHeld ?_
              simp only [Act.put, List.setIfInBounds_toArray, List.set_cons_zero, List.set_cons_succ]
              refine takeTo 7 (some 111) (.int .i64 (k : Nat)) rfl rfl (by kernel_rfl) (by kernel_rfl) (by kernel_rfl) (fun _ _ _ h => h) (by rfl) (fun _ _ => rfl) hHeld ?_
              simp only [Act.put, List.setIfInBounds_toArray, List.set_cons_zero, List.set_cons_succ]
              refine takeTo 8 (some 112) (.pointer (some ⟨x, o + k * 4, none⟩)) rfl rfl (by kernel_rfl) (by kernel_rfl) (by kernel_rfl) (fun _ _ _ h => h) (by rfl) (fun wz _ => run_at_two _ _ rfl x o k len scap rfl rfl hkl wz) hHeld ?_
              simp only [Act.put, List.setIfInBounds_toArray, List.set_cons_zero, List.set_cons_succ]
              refine takeTo 9 (some 113) (.pointer (some ⟨x, o + k * 4 + 3, none⟩)) rfl rfl (by kernel_rfl) (by kernel_rfl) (by kernel_rfl) (fun _ _ _ h => h) (by rfl) (fun _ _ => rfl) hHeld ?_
              simp only [Act.put, List.setIfInBounds_toArray, List.set_cons_zero, List.set_cons_succ]
              refine takeTo 10 (some 114) (.slice v.a v.L v.C) rfl rfl (by kernel_rfl) (by kernel_rfl) (by kernel_rfl) (fun _ _ _ h => h) (by rfl) (fun wz hz => run_load_row1 _ rfl _ rfl _ wz hz.2) hHeld ?_
              simp only [Act.put, List.setIfInBounds_toArray, List.set_cons_zero, List.set_cons_succ]
              refine callTo 11 (some 115) 11 #[ptr (P false), .int .i64 v.i, .slice v.a v.L v.C] (by kernel_rfl) rfl rfl (by rfl) (by kernel_rfl) hwr' ?_
              rintro e5 w5 ⟨rfl, hO5, F5, hg5, hI5⟩
              have hOp5 := hop.below hx hI5.below (Nat.le_refl _)
              have hHeld := (⟨hOp5.c2, hOp5.c3⟩ : w5.cell? ⟨x, o + k * 4 + 2, none⟩ = some (.int .i64 v.i) ∧ w5.cell? ⟨x, o + k * 4 + 3, none⟩ = some (.slice v.a v.L v.C))
              refine ⟨_, rfl, hHeld, ?_⟩
              simp only [Act.put, List.setIfInBounds_toArray, List.set_cons_zero, List.set_cons_succ]
              refine takeTo 12 (some 116) (.bool false) rfl rfl (by kernel_rfl) (by kernel_rfl) (by kernel_rfl) (fun _ _ _ h => h) (by rfl) (fun wz _ => run_neq_err _ _ rfl 0 rfl rfl false rfl wz) hHeld ?_
              simp only [Act.put, List.setIfInBounds_toArray, List.set_cons_zero, List.set_cons_succ]
              refine wpAnyH_done (by kernel_rfl) ?_ _
              obtain ⟨I, hI4, hvi⟩ := wr_in4 (S false) v.i v.L hE (hG.n false)
              have eW : wrS (S false) v.i v.b v.L m = wroteD (S false) I (full v.b v.L) ((m + 1 : Nat) : Int) := by
                unfold wrS
                rw [if_pos hE, hvi, Int.toNat_natCast]
                rfl
              have eM : wrM (S false) v.i v.L m = m + 1 := by
                unfold wrM
                rw [if_pos hE]
              have hG5 := (hG.next hD (Below.refl _ wr).drew).turn hD false hO5 hg5 hI5 (by rw [wrS_n]; exact hG.n false) (by rw [wrS_dead]; exact hG.live false) (Nat.le_trans (wrS_len _ _ _ _ _) (by omega)) (wrM_le1 _ _ _ _ _ hm_) (nobad_wr _ _ _ _ _ (hG.nb false)) (byt_wr _ _ _ _ _ (hG.by_ false) hby.byt)
              rw [eW, eM] at hG5
              have hI5b := hG5.tw.at_ false
              have hsz5 : wr.heap.size ≤ w5.heap.size := hO5.size
              by_cases hmc : m + 1 ≤ cut
              · have m0 : (m : Int) + 1 ≤ (cut : Int) := by omega
                have c2 := hOp5.c2
                have c3 := hOp5.c3
                rw [hvi] at c2
                have hfu := full_any v.b v.L v.C v.a w5.drew hby.max (hby.at_.below (hI5b.below.trans ((Below.refl _ w5).drew.mono hI5b.sz)) (Nat.le_refl _))
                clear hOp5 hI5 hwr'
                go_wp2
                refine wp_region_held_drew (S := fun wz => wz.cell? ⟨x, o + k * 4 + 2, none⟩ = some (.int .i64 (I : Nat)) ∧ wz.cell? ⟨x, o + k * 4 + 3, none⟩ = some (.slice v.a v.L v.C)) (by kernel_rfl) ⟨c2, c3⟩ (fun hHeld => ?_)
                refine takeTo 0 (some 122) (.int .i64 0) rfl rfl (by kernel_rfl) (by kernel_rfl) (by kernel_rfl) (fun _ _ _ h => h) (by rfl) (fun _ _ => rfl) hHeld ?_
                simp only [Act.put, List.setIfInBounds_toArray, List.set_cons_zero, List.set_cons_succ]
                refine takeTo 1 (some 123) (.slice (some ⟨x, o, none⟩) len scap) rfl rfl (by kernel_rfl) (by kernel_rfl) (by kernel_rfl) (fun _ _ _ h => h) (by rfl) (fun _ _ => rfl) hHeld ?_
                simp only [Act.put, List.setIfInBounds_toArray, List.set_cons_zero, List.set_cons_succ]
                refine takeTo 2 (some 124) (.int .i64 (k : Nat)) rfl rfl (by kernel_rfl) (by kernel_rfl) (by kernel_rfl) (fun _ _ _ h => h) (by rfl) (fun _ _ => rfl) hHeld ?_
                simp only [Act.put, List.setIfInBounds_toArray, List.set_cons_zero, List.set_cons_succ]
                refine takeTo 3 (some 125) (.pointer (some ⟨x, o + k * 4, none⟩)) rfl rfl (by kernel_rfl) (by kernel_rfl) (by kernel_rfl) (fun _ _ _ h => h) (by rfl) (fun wz _ => run_at_two _ _ rfl x o k len scap rfl rfl hkl wz) hHeld ?_
                simp only [Act.put, List.setIfInBounds_toArray, List.set_cons_zero, List.set_cons_succ]
                refine takeTo 4 (some 126) (.pointer (some ⟨x, o + k * 4 + 2, none⟩)) rfl rfl (by kernel_rfl) (by kernel_rfl) (by kernel_rfl) (fun _ _ _ h => h) (by rfl) (fun _ _ => rfl) hHeld ?_
                simp only [Act.put, List.setIfInBounds_toArray, List.set_cons_zero, List.set_cons_succ]
                refine takeTo 5 (some 127) (.int .i64 (I : Nat)) rfl rfl (by kernel_rfl) (by kernel_rfl) (by kernel_rfl) (fun _ _ _ h => h) (by rfl) (fun wz hz => run_load_i _ rfl _ rfl _ wz hz.1) hHeld ?_
                simp only [Act.put, List.setIfInBounds_toArray, List.set_cons_zero, List.set_cons_succ]
                refine takeTo 6 (some 128) (.slice (some ⟨x, o, none⟩) len scap) rfl rfl (by kernel_rfl) (by kernel_rfl) (by kernel_rfl) (fun _ _ _ h => h) (by rfl) (fun _ _ => rfl) hHeld ?_
                simp only [Act.put, List.setIfInBounds_toArray, List.set_cons_zero, List.set_cons_succ]
                refine takeTo 7 (some 129) (.int .i64 (k : Nat)) rfl rfl (by kernel_rfl) (by kernel_rfl) (by kernel_rfl) (fun _ _ _ h => h) (by rfl) (fun _ _ => rfl) hHeld ?_
                simp only [Act.put, List.setIfInBounds_toArray, List.set_cons_zero, List.set_cons_succ]
                refine takeTo 8 (some 130) (.pointer (some ⟨x, o + k * 4, none⟩)) rfl rfl (by kernel_rfl) (by kernel_rfl) (by kernel_rfl) (fun _ _ _ h => h) (by rfl) (fun wz _ => run_at_two _ _ rfl x o k len scap rfl rfl hkl wz) hHeld ?_
                simp only [Act.put, List.setIfInBounds_toArray, List.set_cons_zero, List.set_cons_succ]
                refine takeTo 9 (some 131) (.pointer (some ⟨x, o + k * 4 + 3, none⟩)) rfl rfl (by kernel_rfl) (by kernel_rfl) (by kernel_rfl) (fun _ _ _ h => h) (by rfl) (fun _ _ => rfl) hHeld ?_
                simp only [Act.put, List.setIfInBounds_toArray, List.set_cons_zero, List.set_cons_succ]
                refine takeTo 10 (some 132) (.slice v.a v.L v.C) rfl rfl (by kernel_rfl) (by kernel_rfl) (by kernel_rfl) (fun _ _ _ h => h) (by rfl) (fun wz hz => run_load_row1 _ rfl _ rfl _ wz hz.2) hHeld ?_
                simp only [Act.put, List.setIfInBounds_toArray, List.set_cons_zero, List.set_cons_succ]
                refine takeTo 12 (some 134) (.pointer (some ⟨gn, 0, none⟩)) rfl rfl (by kernel_rfl) (by kernel_rfl) (by kernel_rfl) (fun _ _ _ h => h) (by rfl) (fun wz _ => run_index_now _ _ rfl gn false rfl rfl wz) hHeld ?_
                simp only [Act.put, List.setIfInBounds_toArray, List.set_cons_zero, List.set_cons_succ]
                refine callTo 11 (some 133) 32 #[.slice v.a v.L v.C] (by kernel_rfl) rfl rfl (by rfl) (by kernel_rfl) hfu ?_
                rintro e6 w6 ⟨rfl, hs6, hb6⟩
                have hb56 : Below w5.heap.size w5 w6 := (Below.refl _ w5).drew.trans hb6
                have hG6 := hG5.next hD hb56
                have ho6 := hop.below hx (hG6.tw.at_ false).below (Nat.le_refl _)
                obtain ⟨e9, he9⟩ : ∃ e9, e9 = 0 + I := ⟨_, rfl⟩
                have he8 : e9 < 8 := by omega
                have hHeld := (⟨by rw [← hvi]; exact ho6.c2, ho6.c3⟩ : w6.cell? ⟨x, o + k * 4 + 2, none⟩ = some (.int .i64 (I : Nat)) ∧ w6.cell? ⟨x, o + k * 4 + 3, none⟩ = some (.slice v.a v.L v.C))
                refine ⟨_, rfl, hHeld, ?_⟩
                simp only [Act.put, List.setIfInBounds_toArray, List.set_cons_zero, List.set_cons_succ]
                refine takeTo 13 (some 135) (.pointer (some ⟨gn, e9, none⟩)) rfl rfl (by kernel_rfl) (by kernel_rfl) (by kernel_rfl) (fun _ _ _ h => h) (by rfl) (fun wz _ => by rw [he9]; exact run_index_four _ _ rfl gn 0 I rfl rfl hI4 wz) hHeld ?_
                simp only [Act.put, List.setIfInBounds_toArray, List.set_cons_zero, List.set_cons_succ]
                obtain ⟨g6, hg6⟩ : ∃ g6, g6 = w5.drew.heap.size := ⟨_, rfl⟩
                rw [← hg6] at hs6
                rw [show w5.drew.heap.size = g6 from hg6.symm]
                have hsec : SecV w6 (Al (sw F false F5) c) (.slice (some ⟨g6, 0, none⟩) 64 64) (full v.b v.L) := .inr ⟨_, rfl, fun hk => absurd (Both.lt hG5.tw.duo hD _ hk) (by rw [hg6]; exact Nat.lt_irrefl _), hs6⟩
                have cN := hG6.now.has.cell (e9)
                rw [cells8_get _ (e9) he8] at cN
                have fN := hG6.now.has.free (e9)
                have hG9 := ((hG6.putN hD (e9) hsec)).congr (gN := nowS (sw S false (wroteD (S false) I (full v.b v.L) ((m + 1 : Nat) : Int))) cut) (by rw [he9]; exact tog_wrote_yes S cut false I hI4 (full v.b v.L) ((m + 1 : Nat) : Int) (by omega) _ (fun _ _ => rfl)) (tog_wrote_sure S cut false I (full v.b v.L) ((m + 1 : Nat) : Int))
                have ho9 := hop.below hx (hG9.tw.at_ false).below (Nat.le_refl _)
                refine skipAt 14 none (w6.setCell ⟨gn, e9, none⟩ (.slice (some ⟨g6, 0, none⟩) 64 64)) (by kernel_rfl) rfl rfl (by rfl) (run_store_B _ _ rfl ⟨gn, e9, none⟩ rfl _ _ _ rfl w6 _ cN fN) ⟨by rw [← hvi]; exact ho9.c2, ho9.c3⟩ ?_
                simp only [Act.put]
                refine wpAnyH_done (by kernel_rfl) ?_ _
                clear he9 hg6 hsec cN fN
                go_wp2
                go_roundw
                case rel => exact ⟨k + 1, m + 1, _, _, _, U, by omega, by omega, by go_num, by go_num, hG9⟩
                case measure => simp [intOf]; omega
              · have m0 : ¬ (m : Int) + 1 ≤ (cut : Int) := by omega
                go_wp2
                go_roundw
                case rel => exact ⟨k + 1, m + 1, _, _, W, U, by omega, by omega, by go_num, by go_num, hG5.congr (tog_wrote_no S cut false I _ _ (by omega)) (tog_wrote_sure S cut false I _ _)⟩
                case measure => simp [intOf]; omega
            · have eW : wrS (S false) v.i v.b v.L m = S false := by
                unfold wrS
                rw [if_neg hE]
              have eM : wrM (S false) v.i v.L m = m := by
                unfold wrM
                rw [if_neg hE]
              obtain ⟨z, hz⟩ : ∃ z, z = wrErr (S false) v.i v.L := ⟨_, rfl⟩
              rw [← hz] at hwr'
              have hz0 : (!decide (z = 0)) = true := by rw [hz]; simpa using hE
              clear hz
              refine wp_region_held_drew (S := fun wz => wz.cell? ⟨x, o + k * 4 + 2, none⟩ = some (.int .i64 v.i) ∧ wz.cell? ⟨x, o + k * 4 + 3, none⟩ = some (.slice v.a v.L v.C)) (by kernel_rfl) ⟨hOp.c2, hOp.c3⟩ (fun hHeld => ?_)
              refine takeTo 0 (some 104) (ptr (P false)) rfl rfl (by kernel_rfl) (by kernel_rfl) (by kernel_rfl) (fun _ _ _ h => h) (by rfl) (fun _ _ => rfl) hHeld ?_
              simp only [Act.put, List.setIfInBounds_toArray, List.set_cons_zero, List.set_cons_succ]
              refine takeTo 1 (some 105) (.slice (some ⟨x, o, none⟩) len scap) rfl rfl (by kernel_rfl) (by kernel_rfl) (by kernel_rfl) (fun _ _ _ h => h) (by rfl) (fun _ _ => rfl) hHeld ?_
              simp only [Act.put, List.setIfInBounds_toArray, List.set_cons_zero, List.set_cons_succ]
              refine takeTo 2 (some 106) (.int .i64 (k : Nat)) rfl rfl (by kernel_rfl) (by kernel_rfl) (by kernel_rfl) (fun _ _ _ h => h) (by rfl) (fun _ _ => rfl) hHeld ?_
              simp only [Act.put, List.setIfInBounds_toArray, List.set_cons_zero, List.set_cons_succ]
              refine takeTo 3 (some 107) (.pointer (some ⟨x, o + k * 4, none⟩)) rfl rfl (by kernel_rfl) (by kernel_rfl) (by kernel_rfl) (fun _ _ _ h => h) (by rfl) (fun wz _ => run_at_two _ _ rfl x o k len scap rfl rfl hkl wz) hHeld ?_
              simp only [Act.put, List.setIfInBounds_toArray, List.set_cons_zero, List.set_cons_succ]
              refine takeTo 4 (some 108) (.pointer (some ⟨x, o + k * 4 + 2, none⟩)) rfl rfl (by kernel_rfl) (by kernel_rfl) (by kernel_rfl) (fun _ _ _ h => h) (by rfl) (fun _ _ => rfl) hHeld ?_
              simp only [Act.put, List.setIfInBounds_toArray, List.set_cons_zero, List.set_cons_succ]
              refine takeTo 5 (some 109) (.int .i64 v.i) rfl rfl (by kernel_rfl) (by kernel_rfl) (by kernel_rfl) (fun _ _ _ h => h) (by rfl) (fun wz hz => run_load_i _ rfl _ rfl _ wz hz.1) hHeld ?_
              simp only [Act.put, List.setIfInBounds_toArray, List.set_cons_zero, List.set_cons_succ]
              refine takeTo 6 (some 110) (.slice (some ⟨x, o, none⟩) len scap) rfl rfl (by kernel_rfl) (by kernel_rfl) (by kernel_rfl) (fun _ _ _ h => h) (by rfl) (fun _ _ => rfl) hHeld ?_
              simp only [Act.put, List.setIfInBounds_toArray, List.set_cons_zero, List.set_cons_succ]
              refine takeTo 7 (some 111) (.int .i64 (k : Nat)) rfl rfl (by kernel_rfl) (by kernel_rfl) (by kernel_rfl) (fun _ _ _ h => h) (by rfl) (fun _ _ => rfl) hHeld ?_
              simp only [Act.put, List.setIfInBounds_toArray, List.set_cons_zero, List.set_cons_succ]
              refine takeTo 8 (some 112) (.pointer (some ⟨x, o + k * 4, none⟩)) rfl rfl (by kernel_rfl) (by kernel_rfl) (by kernel_rfl) (fun _ _ _ h => h) (by rfl) (fun wz _ => run_at_two _ _ rfl x o k len scap rfl rfl hkl wz) hHeld ?_
              simp only [Act.put, List.setIfInBounds_toArray, List.set_cons_zero, List.set_cons_succ]
              refine takeTo 9 (some 113) (.pointer (some ⟨x, o + k * 4 + 3, none⟩)) rfl rfl (by kernel_rfl) (by kernel_rfl) (by kernel_rfl) (fun _ _ _ h => h) (by rfl) (fun _ _ => rfl) hHeld ?_
              simp only [Act.put, List.setIfInBounds_toArray, List.set_cons_zero, List.set_cons_succ]
              refine takeTo 10 (some 114) (.slice v.a v.L v.C) rfl rfl (by kernel_rfl) (by kernel_rfl) (by kernel_rfl) (fun _ _ _ h => h) (by rfl) (fun wz hz => run_load_row1 _ rfl _ rfl _ wz hz.2) hHeld ?_
              simp only [Act.put, List.setIfInBounds_toArray, List.set_cons_zero, List.set_cons_succ]
              refine callTo 11 (some 115) 11 #[ptr (P false), .int .i64 v.i, .slice v.a v.L v.C] (by kernel_rfl) rfl rfl (by rfl) (by kernel_rfl) hwr' ?_
              rintro e5 w5 ⟨rfl, hO5, F5, hg5, hI5⟩
              have hOp5 := hop.below hx hI5.below (Nat.le_refl _)
              have hHeld := (⟨hOp5.c2, hOp5.c3⟩ : w5.cell? ⟨x, o + k * 4 + 2, none⟩ = some (.int .i64 v.i) ∧ w5.cell? ⟨x, o + k * 4 + 3, none⟩ = some (.slice v.a v.L v.C))
              refine ⟨_, rfl, hHeld, ?_⟩
              simp only [Act.put, List.setIfInBounds_toArray, List.set_cons_zero, List.set_cons_succ]
              refine takeTo 12 (some 116) (.bool true) rfl rfl (by kernel_rfl) (by kernel_rfl) (by kernel_rfl) (fun _ _ _ h => h) (by rfl) (fun wz _ => run_neq_err _ _ rfl z rfl rfl true hz0 wz) hHeld ?_
              simp only [Act.put, List.setIfInBounds_toArray, List.set_cons_zero, List.set_cons_succ]
              refine wpAnyH_done (by kernel_rfl) ?_ _
              have hG5 := (hG.next hD (Below.refl _ wr).drew).turn hD false hO5 hg5 hI5 (by rw [wrS_n]; exact hG.n false) (by rw [wrS_dead]; exact hG.live false) (Nat.le_trans (wrS_len _ _ _ _ _) (by omega)) (wrM_le1 _ _ _ _ _ hm_) (nobad_wr _ _ _ _ _ (hG.nb false)) (byt_wr _ _ _ _ _ (hG.by_ false) hby.byt)
              rw [eW, eM, sw_self] at hG5
              go_wp2
              go_roundw
              case rel => exact ⟨k + 1, m, _, _, W, U, by omega, by omega, by go_num, rfl, hG5⟩
              case measure => simp [intOf]; omega
          · skip
            have hIn := hG.tw.at_ true
            go_wp2
            have hwr' := in_write hD (hIn.next hD (Below.refl _ wr).drew) v.i v.a v.L v.C v.b hop.oi (by omega) (by omega) hby.le hby.max hby.nil (hby.at_.below (hIn.below.trans ((Below.refl _ wr).drew.mono hIn.sz)) (Nat.le_refl _)) hby.byt (.inr (hIn.apart hby.lt))
            by_cases hE : wrErr (S true) v.i v.L = 0
            · rw [hE] at hwr'
              refine wp_region_held_drew (S := fun wz => wz.cell? ⟨x, o + k * 4 + 2, none⟩ = some (.int .i64 v.i) ∧ wz.cell? ⟨x, o + k * 4 + 3, none⟩ = some (.slice v.a v.L v.C)) (by kernel_rfl) ⟨hOp.c2, hOp.c3⟩ (fun hHeld => ?_)
              refine takeTo 0 (some 104) (ptr (P true)) rfl rfl (by kernel_rfl) (by kernel_rfl) (by kernel_rfl) (fun _ _ _ h => h) (by rfl) (fun _ _ => rfl) hHeld ?_
              simp only [Act.put, List.setIfInBounds_toArray, List.set_cons_zero, List.set_cons_succ]
              refine takeTo 1 (some 105) (.slice (some ⟨x, o, none⟩) len scap) rfl rfl (by kernel_rfl) (by kernel_rfl) (by kernel_rfl) (fun _ _ _ h => h) (by rfl) (fun _ _ => rfl) hHeld ?_
              simp only [Act.put, List.setIfInBounds_toArray, List.set_cons_zero, List.set_cons_succ]
              refine takeTo 2 (some 106) (.int .i64 (k : Nat)) rfl rfl (by kernel_rfl) (by kernel_rfl) (by kernel_rfl) (fun _ _ _ h => h) (by rfl) (fun _ _ => rfl) hHeld ?_
              simp only [Act.put, List.setIfInBounds_toArray, List.set_cons_zero, List.set_cons_succ]
              refine takeTo 3 (some 107) (.pointer (some ⟨x, o + k * 4, none⟩)) rfl rfl (by kernel_rfl) (by kernel_rfl) (by kernel_rfl) (fun _ _ _ h => h) (by rfl) (fun wz _ => run_at_two _ _ rfl x o k len scap rfl rfl hkl wz) hHeld ?_
              simp only [Act.put, List.setIfInBounds_toArray, List.set_cons_zero, List.set_cons_succ]
              refine takeTo 4 (some 108) (.pointer (some ⟨x, o + k * 4 + 2, none⟩)) rfl rfl (by kernel_rfl) (by kernel_rfl) (by kernel_rfl) (fun _ _ _ h => h) (by rfl) (fun _ _ => rfl) hHeld ?_
              simp only [Act.put, List.setIfInBounds_toArray, List.set_cons_zero, List.set_cons_succ]
              refine takeTo 5 (some 109) (.int .i64 v.i) rfl rfl (by kernel_rfl) (by kernel_rfl) (by kernel_rfl) (fun _ _ _ h => h) (by rfl) (fun wz hz => run_load_i _ rfl _ rfl _ wz hz.1) hHeld ?_
              simp only [Act.put, List.setIfInBounds_toArray, List.set_cons_zero, List.set_cons_succ]
              refine takeTo 6 (some 110) (.slice (some ⟨x, o, none⟩) len scap) rfl rfl (by kernel_rfl) (by kernel_rfl) (by kernel_rfl) (fun _ _ _ h => h) (by rfl) (fun _ _ => rfl) hHeld ?_
              simp only [Act.put, List.setIfInBounds_toArray, List.set_cons_zero, List.set_cons_succ]
              refine takeTo 7 (some 111) (.int .i64 (k : Nat)) rfl rfl (by kernel_rfl) (by kernel_rfl) (by kernel_rfl) (fun _ _ _ h => h) (by rfl) (fun _ _ => rfl) hHeld ?_
              simp only [Act.put, List.setIfInBounds_toArray, List.set_cons_zero, List.set_cons_succ]
              refine takeTo 8 (some 112) (.pointer (some ⟨x, o + k * 4, none⟩)) rfl rfl (by kernel_rfl) (by kernel_rfl) (by kernel_rfl) (fun _ _ _ h => h) (by rfl) (fun wz _ => run_at_two _ _ rfl x o k len scap rfl rfl hkl wz) hHeld ?_
              simp only [Act.put, List.setIfInBounds_toArray, List.set_cons_zero, List.set_cons_succ]
              refine takeTo 9 (some 113) (.pointer (some ⟨x, o + k * 4 + 3, none⟩)) rfl rfl (by kernel_rfl) (by kernel_rfl) (by kernel_rfl) (fun _ _ _ h => h) (by rfl) (fun _ _ => rfl) hHeld ?_
              simp only [Act.put, List.setIfInBounds_toArray, List.set_cons_zero, List.set_cons_succ]
              refine takeTo 10 (some 114) (.slice v.a v.L v.C) rfl rfl (by kernel_rfl) (by kernel_rfl) (by kernel_rfl) (fun _ _ _ h => h) (by rfl) (fun wz hz => run_load_row1 _ rfl _ rfl _ wz hz.2) hHeld ?_
              simp only [Act.put, List.setIfInBounds_toArray, List.set_cons_zero, List.set_cons_succ]
              refine callTo 11 (some 115) 11 #[ptr (P true), .int .i64 v.i, .slice v.a v.L v.C] (by kernel_rfl) rfl rfl (by rfl) (by kernel_rfl) hwr' ?_
              rintro e5 w5 ⟨rfl, hO5, F5, hg5, hI5⟩
              have hOp5 := hop.below hx hI5.below (Nat.le_refl _)
              have hHeld := (⟨hOp5.c2, hOp5.c3⟩ : w5.cell? ⟨x, o + k * 4 + 2, none⟩ = some (.int .i64 v.i) ∧ w5.cell? ⟨x, o + k * 4 + 3, none⟩ = some (.slice v.a v.L v.C))
              refine ⟨_, rfl, hHeld, ?_⟩
              simp only [Act.put, List.setIfInBounds_toArray, List.set_cons_zero, List.set_cons_succ]
              refine takeTo 12 (some 116) (.bool false) rfl rfl (by kernel_rfl) (by kernel_rfl) (by kernel_rfl) (fun _ _ _ h => h) (by rfl) (fun wz _ => run_neq_err _ _ rfl 0 rfl rfl false rfl wz) hHeld ?_
              simp only [Act.put, List.setIfInBounds_toArray, List.set_cons_zero, List.set_cons_succ]
              refine wpAnyH_done (by kernel_rfl) ?_ _
              obtain ⟨I, hI4, hvi⟩ := wr_in4 (S true) v.i v.L hE (hG.n true)
              have eW : wrS (S true) v.i v.b v.L m = wroteD (S true) I (full v.b v.L) ((m + 1 : Nat) : Int) := by
                unfold wrS
                rw [if_pos hE, hvi, Int.toNat_natCast]
                rfl
              have eM : wrM (S true) v.i v.L m = m + 1 := by
                unfold wrM
                rw [if_pos hE]
              have hG5 := (hG.next hD (Below.refl _ wr).drew).turn hD true hO5 hg5 hI5 (by rw [wrS_n]; exact hG.n true) (by rw [wrS_dead]; exact hG.live true) (Nat.le_trans (wrS_len _ _ _ _ _) (by omega)) (wrM_le1 _ _ _ _ _ hm_) (nobad_wr _ _ _ _ _ (hG.nb true)) (byt_wr _ _ _ _ _ (hG.by_ true) hby.byt)
              rw [eW, eM] at hG5
              have hI5b := hG5.tw.at_ true
              have hsz5 : wr.heap.size ≤ w5.heap.size := hO5.size
              by_cases hmc : m + 1 ≤ cut
              · have m0 : (m : Int) + 1 ≤ (cut : Int) := by omega
                have c2 := hOp5.c2
                have c3 := hOp5.c3
                rw [hvi] at c2
                have hfu := full_any v.b v.L v.C v.a w5.drew hby.max (hby.at_.below (hI5b.below.trans ((Below.refl _ w5).drew.mono hI5b.sz)) (Nat.le_refl _))
                clear hOp5 hI5 hwr'
                go_wp2
                refine wp_region_held_drew (S := fun wz => wz.cell? ⟨x, o + k * 4 + 2, none⟩ = some (.int .i64 (I : Nat)) ∧ wz.cell? ⟨x, o + k * 4 + 3, none⟩ = some (.slice v.a v.L v.C)) (by kernel_rfl) ⟨c2, c3⟩ (fun hHeld => ?_)
                refine takeTo 0 (some 122) (.int .i64 1) rfl rfl (by kernel_rfl) (by kernel_rfl) (by kernel_rfl) (fun _ _ _ h => h) (by rfl) (fun _ _ => rfl) hHeld ?_
                simp only [Act.put, List.setIfInBounds_toArray, List.set_cons_zero, List.set_cons_succ]
                refine takeTo 1 (some 123) (.slice (some ⟨x, o, none⟩) len scap) rfl rfl (by kernel_rfl) (by kernel_rfl) (by kernel_rfl) (fun _ _ _ h => h) (by rfl) (fun _ _ => rfl) hHeld ?_
                simp only [Act.put, List.setIfInBounds_toArray, List.set_cons_zero, List.set_cons_succ]
                refine takeTo 2 (some 124) (.int .i64 (k : Nat)) rfl rfl (by kernel_rfl) (by kernel_rfl) (by kernel_rfl) (fun _ _ _ h => h) (by rfl) (fun _ _ => rfl) hHeld ?_
                simp only [Act.put, List.setIfInBounds_toArray, List.set_cons_zero, List.set_cons_succ]
                refine takeTo 3 (some 125) (.pointer (some ⟨x, o + k * 4, none⟩)) rfl rfl (by kernel_rfl) (by kernel_rfl) (by kernel_rfl) (fun _ _ _ h => h) (by rfl) (fun wz _ => run_at_two _ _ rfl x o k len scap rfl rfl hkl wz) hHeld ?_
                simp only [Act.put, List.setIfInBounds_toArray, List.set_cons_zero, List.set_cons_succ]
                refine takeTo 4 (some 126) (.pointer (some ⟨x, o + k * 4 + 2, none⟩)) rfl rfl (by kernel_rfl) (by kernel_rfl) (by kernel_rfl) (fun _ _ _ h => h) (by rfl) (fun _ _ => rfl) hHeld ?_
                simp only [Act.put, List.setIfInBounds_toArray, List.set_cons_zero, List.set_cons_succ]
                refine takeTo 5 (some 127) (.int .i64 (I : Nat)) rfl rfl (by kernel_rfl) (by kernel_rfl) (by kernel_rfl) (fun _ _ _ h => h) (by rfl) (fun wz hz => run_load_i _ rfl _ rfl _ wz hz.1) hHeld ?_
                simp only [Act.put, List.setIfInBounds_toArray, List.set_cons_zero, List.set_cons_succ]
                refine takeTo 6 (some 128) (.slice (some ⟨x, o, none⟩) len scap) rfl rfl (by kernel_rfl) (by kernel_rfl) (by kernel_rfl) (fun _ _ _ h => h) (by rfl) (fun _ _ => rfl) hHeld ?_
                simp only [Act.put, List.setIfInBounds_toArray, List.set_cons_zero, List.set_cons_succ]
                refine takeTo 7 (some 129) (.int .i64 (k : Nat)) rfl rfl (by kernel_rfl) (by kernel_rfl) (by kernel_rfl) (fun _ _ _ h => h) (by rfl) (fun _ _ => rfl) hHeld ?_
                simp only [Act.put, List.setIfInBounds_toArray, List.set_cons_zero, List.set_cons_succ]
                refine takeTo 8 (some 130) (.pointer (some ⟨x, o + k * 4, none⟩)) rfl rfl (by kernel_rfl) (by kernel_rfl) (by kernel_rfl) (fun _ _ _ h => h) (by rfl) (fun wz _ => run_at_two _ _ rfl x o k len scap rfl rfl hkl wz) hHeld ?_
                simp only [Act.put, List.setIfInBounds_toArray, List.set_cons_zero, List.set_cons_succ]
                refine takeTo 9 (some 131) (.pointer (some ⟨x, o + k * 4 + 3, none⟩)) rfl rfl (by kernel_rfl) (by kernel_rfl) (by kernel_rfl) (fun _ _ _ h => h) (by rfl) (fun _ _ => rfl) hHeld ?_
                simp only [Act.put, List.setIfInBounds_toArray, List.set_cons_zero, List.set_cons_succ]
                refine takeTo 10 (some 132) (.slice v.a v.L v.C) rfl rfl (by kernel_rfl) (by kernel_rfl) (by kernel_rfl) (fun _ _ _ h => h) (by rfl) (fun wz hz => run_load_row1 _ rfl _ rfl _ wz hz.2) hHeld ?_
                simp only [Act.put, List.setIfInBounds_toArray, List.set_cons_zero, List.set_cons_succ]
                refine takeTo 12 (some 134) (.pointer (some ⟨gn, 4, none⟩)) rfl rfl (by kernel_rfl) (by kernel_rfl) (by kernel_rfl) (fun _ _ _ h => h) (by rfl) (fun wz _ => run_index_now _ _ rfl gn true rfl rfl wz) hHeld ?_
                simp only [Act.put, List.setIfInBounds_toArray, List.set_cons_zero, List.set_cons_succ]
                refine callTo 11 (some 133) 32 #[.slice v.a v.L v.C] (by kernel_rfl) rfl rfl (by rfl) (by kernel_rfl) hfu ?_
                rintro e6 w6 ⟨rfl, hs6, hb6⟩
                have hb56 : Below w5.heap.size w5 w6 := (Below.refl _ w5).drew.trans hb6
                have hG6 := hG5.next hD hb56
                have ho6 := hop.below hx (hG6.tw.at_ true).below (Nat.le_refl _)
                obtain ⟨e9, he9⟩ : ∃ e9, e9 = 4 + I := ⟨_, rfl⟩
                have he8 : e9 < 8 := by omega
                have hHeld := (⟨by rw [← hvi]; exact ho6.c2, ho6.c3⟩ : w6.cell? ⟨x, o + k * 4 + 2, none⟩ = some (.int .i64 (I : Nat)) ∧ w6.cell? ⟨x, o + k * 4 + 3, none⟩ = some (.slice v.a v.L v.C))
                refine ⟨_, rfl, hHeld, ?_⟩
                simp only [Act.put, List.setIfInBounds_toArray, List.set_cons_zero, List.set_cons_succ]
                refine takeTo 13 (some 135) (.pointer (some ⟨gn, e9, none⟩)) rfl rfl (by kernel_rfl) (by kernel_rfl) (by kernel_rfl) (fun _ _ _ h => h) (by rfl) (fun wz _ => by rw [he9]; exact run_index_four _ _ rfl gn 4 I rfl rfl hI4 wz) hHeld ?_
                simp only [Act.put, List.setIfInBounds_toArray, List.set_cons_zero, List.set_cons_succ]
                obtain ⟨g6, hg6⟩ : ∃ g6, g6 = w5.drew.heap.size := ⟨_, rfl⟩
                rw [← hg6] at hs6
                rw [show w5.drew.heap.size = g6 from hg6.symm]
                have hsec : SecV w6 (Al (sw F true F5) c) (.slice (some ⟨g6, 0, none⟩) 64 64) (full v.b v.L) := .inr ⟨_, rfl, fun hk => absurd (Both.lt hG5.tw.duo hD _ hk) (by rw [hg6]; exact Nat.lt_irrefl _), hs6⟩
                have cN := hG6.now.has.cell (e9)
                rw [cells8_get _ (e9) he8] at cN
                have fN := hG6.now.has.free (e9)
                have hG9 := ((hG6.putN hD (e9) hsec)).congr (gN := nowS (sw S true (wroteD (S true) I (full v.b v.L) ((m + 1 : Nat) : Int))) cut) (by rw [he9]; exact tog_wrote_yes S cut true I hI4 (full v.b v.L) ((m + 1 : Nat) : Int) (by omega) _ (fun _ _ => rfl)) (tog_wrote_sure S cut true I (full v.b v.L) ((m + 1 : Nat) : Int))
                have ho9 := hop.below hx (hG9.tw.at_ true).below (Nat.le_refl _)
                refine skipAt 14 none (w6.setCell ⟨gn, e9, none⟩ (.slice (some ⟨g6, 0, none⟩) 64 64)) (by kernel_rfl) rfl rfl (by rfl) (run_store_B _ _ rfl ⟨gn, e9, none⟩ rfl _ _ _ rfl w6 _ cN fN) ⟨by rw [← hvi]; exact ho9.c2, ho9.c3⟩ ?_
                simp only [Act.put]
                refine wpAnyH_done (by kernel_rfl) ?_ _
                clear he9 hg6 hsec cN fN
                go_wp2
                go_roundw
                case rel => exact ⟨k + 1, m + 1, _, _, _, U, by omega, by omega, by go_num, by go_num, hG9⟩
                case measure => simp [intOf]; omega
              · have m0 : ¬ (m : Int) + 1 ≤ (cut : Int) := by omega
                go_wp2
                go_roundw
                case rel => exact ⟨k + 1, m + 1, _, _, W, U, by omega, by omega, by go_num, by go_num, hG5.congr (tog_wrote_no S cut true I _ _ (by omega)) (tog_wrote_sure S cut true I _ _)⟩
                case measure => simp [intOf]; omega
            · have eW : wrS (S true) v.i v.b v.L m = S true := by
                unfold wrS
                rw [if_neg hE]
              have eM : wrM (S true) v.i v.L m = m := by
                unfold wrM
                rw [if_neg hE]
              obtain ⟨z, hz⟩ : ∃ z, z = wrErr (S true) v.i v.L := ⟨_, rfl⟩
              rw [← hz] at hwr'
              have hz0 : (!decide (z = 0)) = true := by rw [hz]; simpa using hE
              clear hz
              refine wp_region_held_drew (S := fun wz => wz.cell? ⟨x, o + k * 4 + 2, none⟩ = some (.int .i64 v.i) ∧ wz.cell? ⟨x, o + k * 4 + 3, none⟩ = some (.slice v.a v.L v.C)) (by kernel_rfl) ⟨hOp.c2, hOp.c3⟩ (fun hHeld => ?_)
              refine takeTo 0 (some 104) (ptr (P true)) rfl rfl (by kernel_rfl) (by kernel_rfl) (by kernel_rfl) (fun _ _ _ h => h) (by rfl) (fun _ _ => rfl) hHeld ?_
              simp only [Act.put, List.setIfInBounds_toArray, List.set_cons_zero, List.set_cons_succ]
              refine takeTo 1 (some 105) (.slice (some ⟨x, o, none⟩) len scap) rfl rfl (by kernel_rfl) (by kernel_rfl) (by kernel_rfl) (fun _ _ _ h => h) (by rfl) (fun _ _ => rfl) hHeld ?_
              simp only [Act.put, List.setIfInBounds_toArray, List.set_cons_zero, List.set_cons_succ]
              refine takeTo 2 (some 106) (.int .i64 (k : Nat)) rfl rfl (by kernel_rfl) (by kernel_rfl) (by kernel_rfl) (fun _ _ _ h => h) (by rfl) (fun _ _ => rfl) hHeld ?_
              simp only [Act.put, List.setIfInBounds_toArray, List.set_cons_zero, List.set_cons_succ]
              refine takeTo 3 (some 107) (.pointer (some ⟨x, o + k * 4, none⟩)) rfl rfl (by kernel_rfl) (by kernel_rfl) (by kernel_rfl) (fun _ _ _ h => h) (by rfl) (fun wz _ => run_at_two _ _ rfl x o k len scap rfl rfl hkl wz) hHeld ?_
              simp only [Act.put, List.setIfInBounds_toArray, List.set_cons_zero, List.set_cons_succ]
              refine takeTo 4 (some 108) (.pointer (some ⟨x, o + k * 4 + 2, none⟩)) rfl rfl (by kernel_rfl) (by kernel_rfl) (by kernel_rfl) (fun _ _ _ h => h) (by rfl) (fun _ _ => rfl) hHeld ?_
              simp only [Act.put, List.setIfInBounds_toArray, List.set_cons_zero, List.set_cons_succ]
              refine takeTo 5 (some 109) (.int .i64 v.i) rfl rfl (by kernel_rfl) (by kernel_rfl) (by kernel_rfl) (fun _ _ _ h => h) (by rfl) (fun wz hz => run_load_i _ rfl _ rfl _ wz hz.1) hHeld ?_
              simp only [Act.put, List.setIfInBounds_toArray, List.set_cons_zero, List.set_cons_succ]
              refine takeTo 6 (some 110) (.slice (some ⟨x, o, none⟩) len scap) rfl rfl (by kernel_rfl) (by kernel_rfl) (by kernel_rfl) (fun _ _ _ h => h) (by rfl) (fun _ _ => rfl) hHeld ?_
              simp only [Act.put, List.setIfInBounds_toArray, List.set_cons_zero, List.set_cons_succ]
              refine takeTo 7 (some 111) (.int .i64 (k : Nat)) rfl rfl (by kernel_rfl) (by kernel_rfl) (by kernel_rfl) (fun _ _ _ h => h) (by rfl) (fun _ _ => rfl) hHeld ?_
              simp only [Act.put, List.setIfInBounds_toArray, List.set_cons_zero, List.set_cons_succ]
              refine takeTo 8 (some 112) (.pointer (some ⟨x, o + k * 4, none⟩)) rfl rfl (by kernel_rfl) (by kernel_rfl) (by kernel_rfl) (fun _ _ _ h => h) (by rfl) (fun wz _ => run_at_two _ _ rfl x o k len scap rfl rfl hkl wz) hHeld ?_
              simp only [Act.put, List.setIfInBounds_toArray, List.set_cons_zero, List.set_cons_succ]
              refine takeTo 9 (some 113) (.pointer (some ⟨x, o + k * 4 + 3, none⟩)) rfl rfl (by kernel_rfl) (by kernel_rfl) (by kernel_rfl) (fun _ _ _ h => h) (by rfl) (fun _ _ => rfl) hHeld ?_
              simp only [Act.put, List.setIfInBounds_toArray, List.set_cons_zero, List.set_cons_succ]
              refine takeTo 10 (some 114) (.slice v.a v.L v.C) rfl rfl (by kernel_rfl) (by kernel_rfl) (by kernel_rfl) (fun _ _ _ h => h) (by rfl) (fun wz hz => run_load_row1 _ rfl _ rfl _ wz hz.2) hHeld ?_
              simp only [Act.put, List.setIfInBounds_toArray, List.set_cons_zero, List.set_cons_succ]
              refine callTo 11 (some 115) 11 #[ptr (P true), .int .i64 v.i, .slice v.a v.L v.C] (by kernel_rfl) rfl rfl (by rfl) (by kernel_rfl) hwr' ?_
              rintro e5 w5 ⟨rfl, hO5, F5, hg5, hI5⟩
              have hOp5 := hop.below hx hI5.below (Nat.le_refl _)
              have hHeld := (⟨hOp5.c2, hOp5.c3⟩ : w5.cell? ⟨x, o + k * 4 + 2, none⟩ = some (.int .i64 v.i) ∧ w5.cell? ⟨x, o + k * 4 + 3, none⟩ = some (.slice v.a v.L v.C))
              refine ⟨_, rfl, hHeld, ?_⟩
              simp only [Act.put, List.setIfInBounds_toArray, List.set_cons_zero, List.set_cons_succ]
              refine takeTo 12 (some 116) (.bool true) rfl rfl (by kernel_rfl) (by kernel_rfl) (by kernel_rfl) (fun _ _ _ h => h) (by rfl) (fun wz _ => run_neq_err _ _ rfl z rfl rfl true hz0 wz) hHeld ?_
              simp only [Act.put, List.setIfInBounds_toArray, List.set_cons_zero, List.set_cons_succ]
              refine wpAnyH_done (by kernel_rfl) ?_ _
              have hG5 := (hG.next hD (Below.refl _ wr).drew).turn hD true hO5 hg5 hI5 (by rw [wrS_n]; exact hG.n true) (by rw [wrS_dead]; exact hG.live true) (Nat.le_trans (wrS_len _ _ _ _ _) (by omega)) (wrM_le1 _ _ _ _ _ hm_) (nobad_wr _ _ _ _ _ (hG.nb true)) (byt_wr _ _ _ _ _ (hG.by_ true) hby.byt)
              rw [eW, eM, sw_self] at hG5
              go_wp2
              go_roundw
              case rel => exact ⟨k + 1, m, _, _, W, U, by omega, by omega, by go_num, rfl, hG5⟩
              case measure => simp [intOf]; omega
        · have hsy := in_sync hD (hG.tw.at_ t) (by omega) (by omega)
          rw [show syS (S t) m = syncD (S t) m from by unfold syS; rw [if_neg (by rw [hG.live t]; simp)]] at hsy
          rw [show (if (S t).dead = true then (73 : Int) else 0) = 0 from by rw [hG.live t]; rfl] at hsy
          by_cases hmc : m < cut
          · have m0 : (m : Int) < (cut : Int) := by omega
            cases t
            · skip
              go_wp2_with (first
                | ((go_at_call 13)
                   (refine hsy.mono ?_)
                   (rintro e w5 ⟨rfl, hO5, F5, hg5, hI5⟩)
                   (have hG5 := hG.turn hD false (hO5.mono fun _ h => .inl h) hg5 hI5 (hG.n false) (hG.live false) (len_sync _ _ hln) (by omega) (nobad_sync _ _ (hG.nb false)) (byt_sync _ _ (hG.by_ false)))
                   (have a0 := hG5.now.has.cell 0)
                   (rw [cells8_get _ 0 (by decide)] at a0)
                   (have b0 := hG5.sure.has.cell 0)
                   (rw [cells8_get _ 0 (by decide)] at b0)
                   (have f0 := hG5.sure.has.free 0)
                   (have o0 := (hG5.now.at_ 0 (by decide)).one)
                   (have a1 := hG5.now.has.cell 1)
                   (rw [cells8_get _ 1 (by decide)] at a1)
                   (have b1 := hG5.sure.has.cell 1)
                   (rw [cells8_get _ 1 (by decide)] at b1)
                   (have f1 := hG5.sure.has.free 1)
                   (have o1 := (hG5.now.at_ 1 (by decide)).one)
                   (have a2 := hG5.now.has.cell 2)
                   (rw [cells8_get _ 2 (by decide)] at a2)
                   (have b2 := hG5.sure.has.cell 2)
                   (rw [cells8_get _ 2 (by decide)] at b2)
                   (have f2 := hG5.sure.has.free 2)
                   (have o2 := (hG5.now.at_ 2 (by decide)).one)
                   (have a3 := hG5.now.has.cell 3)
                   (rw [cells8_get _ 3 (by decide)] at a3)
                   (have b3 := hG5.sure.has.cell 3)
                   (rw [cells8_get _ 3 (by decide)] at b3)
                   (have f3 := hG5.sure.has.free 3)
                   (have o3 := (hG5.now.at_ 3 (by decide)).one)
                   (clear hsy)))
              rw [store4 hG5.sure.has 0 (by decide) o0 o1 o2 o3]
              have hG9 := (hG5.copy4 hD 0 (by decide)).congr (tog_sync_now S cut m false) (tog_sync_yes S cut m false hmc _ (fun _ _ => rfl) _ (fun _ _ => rfl) 0 rfl)
              go_wp2
              go_roundw
              case rel => exact ⟨k + 1, m, _, _, _, _, by omega, by omega, by go_num, rfl, hG9⟩
              case measure => simp [intOf]; omega
            · skip
              go_wp2_with (first
                | ((go_at_call 13)
                   (refine hsy.mono ?_)
                   (rintro e w5 ⟨rfl, hO5, F5, hg5, hI5⟩)
                   (have hG5 := hG.turn hD true (hO5.mono fun _ h => .inl h) hg5 hI5 (hG.n true) (hG.live true) (len_sync _ _ hln) (by omega) (nobad_sync _ _ (hG.nb true)) (byt_sync _ _ (hG.by_ true)))
                   (have a0 := hG5.now.has.cell 4)
                   (rw [cells8_get _ 4 (by decide)] at a0)
                   (have b0 := hG5.sure.has.cell 4)
                   (rw [cells8_get _ 4 (by decide)] at b0)
                   (have f0 := hG5.sure.has.free 4)
                   (have o0 := (hG5.now.at_ 4 (by decide)).one)
                   (have a1 := hG5.now.has.cell 5)
                   (rw [cells8_get _ 5 (by decide)] at a1)
                   (have b1 := hG5.sure.has.cell 5)
                   (rw [cells8_get _ 5 (by decide)] at b1)
                   (have f1 := hG5.sure.has.free 5)
                   (have o1 := (hG5.now.at_ 5 (by decide)).one)
                   (have a2 := hG5.now.has.cell 6)
                   (rw [cells8_get _ 6 (by decide)] at a2)
                   (have b2 := hG5.sure.has.cell 6)
                   (rw [cells8_get _ 6 (by decide)] at b2)
                   (have f2 := hG5.sure.has.free 6)
                   (have o2 := (hG5.now.at_ 6 (by decide)).one)
                   (have a3 := hG5.now.has.cell 7)
                   (rw [cells8_get _ 7 (by decide)] at a3)
                   (have b3 := hG5.sure.has.cell 7)
                   (rw [cells8_get _ 7 (by decide)] at b3)
                   (have f3 := hG5.sure.has.free 7)
                   (have o3 := (hG5.now.at_ 7 (by decide)).one)
                   (clear hsy)))
              rw [store4 hG5.sure.has 4 (by decide) o0 o1 o2 o3]
              have hG9 := (hG5.copy4 hD 4 (by decide)).congr (tog_sync_now S cut m true) (tog_sync_yes S cut m true hmc _ (fun _ _ => rfl) _ (fun _ _ => rfl) 4 rfl)
              go_wp2
              go_roundw
              case rel => exact ⟨k + 1, m, _, _, _, _, by omega, by omega, by go_num, rfl, hG9⟩
              case measure => simp [intOf]; omega
          · have m0 : ¬ (m : Int) < (cut : Int) := by omega
            cases t
            · skip
              go_wp2_with (first
                | ((go_at_call 13)
                   (refine hsy.mono ?_)
                   (rintro e w5 ⟨rfl, hO5, F5, hg5, hI5⟩)
                   (have hG5 := hG.turn hD false (hO5.mono fun _ h => .inl h) hg5 hI5 (hG.n false) (hG.live false) (len_sync _ _ hln) (by omega) (nobad_sync _ _ (hG.nb false)) (byt_sync _ _ (hG.by_ false)))
                   (clear hsy)))
              go_roundw
              case rel => exact ⟨k + 1, m, _, _, W, U, by omega, by omega, by go_num, rfl, hG5.congr (tog_sync_now S cut m false) (tog_sync_no S cut m false hmc)⟩
              case measure => simp [intOf]; omega
            · skip
              go_wp2_with (first
                | ((go_at_call 13)
                   (refine hsy.mono ?_)
                   (rintro e w5 ⟨rfl, hO5, F5, hg5, hI5⟩)
                   (have hG5 := hG.turn hD true (hO5.mono fun _ h => .inl h) hg5 hI5 (hG.n true) (hG.live true) (len_sync _ _ hln) (by omega) (nobad_sync _ _ (hG.nb true)) (byt_sync _ _ (hG.by_ true)))
                   (clear hsy)))
              go_roundw
              case rel => exact ⟨k + 1, m, _, _, W, U, by omega, by omega, by go_num, rfl, hG5.congr (tog_sync_now S cut m true) (tog_sync_no S cut m true hmc)⟩
              case measure => simp [intOf]; omega
      · skip
        have hcut64 : i64ok (cut : Int) := ⟨by omega, by have := hcut; omega⟩
        have hln0 := hG.len false
        have hmm := hG.m_
        by_cases hk6 : k < len
        · have i0 : (k : Int) < (len : Int) := by omega
          have i1 : ¬ (k : Int) < 60 := by omega
          have hmo1 := hM.moment wr (P false) (S false) c m (F false) (hG.tw.at_ false).dev
          go_wp2_with (first
            | ((go_at_call 38)
               (have _t := hmo1)
               (refine hmo1.mono ?_)
               (rintro e w5 ⟨rfl, hb5⟩)
               (have hG5 := hG.next hD hb5)
               (have hmo2 := hM.moment w5 (P true) (S true) c m (F true) (hG5.tw.at_ true).dev)
               (clear hmo1 _t))
            | ((go_at_call 38)
               (have _t := hmo2)
               (refine hmo2.mono ?_)
               (rintro e w6 ⟨rfl, hb6⟩)
               (have hG6 := hG5.next hD hb6)
               (clear hmo2 _t hb5 hb6 hG5)))
          clear i0 hS hkk
          have hlS : ∀ t, (S t).log.length ≤ 60 := fun t => Nat.le_trans (hG6.len t) hk60
          have hm60 : m ≤ 60 := by omega
          go_loopw [18, 19] (fun v i wz => ∃ r : Nat, r ≤ 60 ∧ i = .int .i64 (r : Nat) ∧ wz.ownsRow w6.heap.size 4 1 v r (tl r) ∧ Below w6.heap.size w6 wz) (fun _ i _ => 60 - (intOf i).toNat)
          case atStart => exact ⟨0, Nat.zero_le _, rfl, World.ownsRow_nil _ _ _ _, Below.refl _ _⟩
          case round =>
            rename World => wo
            obtain ⟨r, hr6, rfl, hown, hbo⟩ := hrel
            by_cases hr60 : r < 60
            · have j0 : (r : Int) < 60 := by omega
              go_wp2_with (first
                | ((refine wpList_append_true rfl _ _ rfl w6.heap.size _ r rfl hown rfl (by omega) hbo.size ?_)
                   (intro g5 cap5 w7 hown5 hgr5)))
              go_roundw
              case rel => exact ⟨r + 1, hr60, by go_num, hown5, (hbo.alloc hbo.size (.cells #[.bool true] 4)).grown hgr5 (Nat.le_trans hbo.size (by simp)) (fun g e => (hown.lt g e).1)⟩
              case measure => simp [intOf]; omega
            · obtain rfl : r = 60 := by omega
              have j0 : ¬ ((60 : Nat) : Int) < 60 := by omega
              obtain ⟨fa, fc, rfl, hfc, hfb⟩ := own_trues hown
              have hG7 := (hG6.next hD hbo).next hD ((Below.refl _ wo).alloc (Nat.le_refl _) (.cells #[ptr (P false), ptr (P true)] 23))
              have hl7 : Has (wo.alloc (.cells #[ptr (P false), ptr (P true)] 23)) wo.heap.size 23 #[ptr (P false), ptr (P true)] := Has.new _ _ _
              have hf7 := hfb.below ((Below.refl _ wo).alloc (Nat.le_refl _) (.cells #[ptr (P false), ptr (P true)] 23)) (Nat.le_refl _)
              go_wp2
              obtain ⟨gl, hgl⟩ : ∃ gl, gl = wo.heap.size := ⟨_, rfl⟩
              rw [← hgl] at hl7
              rw [show wo.heap.size = gl from hgl.symm]
              obtain ⟨w7, hw7⟩ : ∃ w7, w7 = wo.alloc (.cells #[ptr (P false), ptr (P true)] 23) := ⟨_, rfl⟩
              rw [← hw7] at hG7 hl7 hf7
              rw [show wo.alloc (.cells #[ptr (P false), ptr (P true)] 23) = w7 from hw7.symm]
              clear hgl hw7 hG6 hG hown hfb hbo j0
              go_loopw [21] (fun i wy => ∃ r : Nat, r ≤ 2 ∧ i = .int .i64 (r : Nat) ∧ Below w7.heap.size w7 wy) (fun i _ => 2 - (intOf i).toNat)
              case atStart => exact ⟨0, Nat.zero_le _, rfl, Below.refl _ _⟩
              case round =>
                rename World => wy
                obtain ⟨r, hr2, rfl, hby⟩ := hrel
                have hGy := hG7.next hD hby
                by_cases hr3 : r < 2
                · rcases (show r = 0 ∨ r = 1 by omega) with rfl | rfl
                  · have cl : wy.cell? ⟨gl, 0, none⟩ = some (ptr (P false)) := (hl7.below hby hl7.lt).cell 0
                    have hc1 := in_cutMo hD hM (hGy.tw.at_ false) (cut : Int) none 0 0 (fun _ => true) hcut64 (by omega) (by have := hlS false; omega) (Nat.zero_le _) (Nat.le_refl _) (.inl rfl)
                    go_wp2_with (first
                      | ((go_at_call 29)
                         (have _t := hc1)
                         (refine hc1.mono ?_)
                         (rintro e w8 ⟨hb8, hI8, p8, c8, F8, rfl, hJ8, _, _⟩)
                         (have h78 := hby.trans (hb8.mono hby.size))
                         (have cl8 : w8.cell? ⟨gl, 0, none⟩ = some (ptr (P false)) := (hl7.below h78 hl7.lt).cell 0)
                         (have hc2 := in_cutMo hD hM hI8 (cut : Int) fa 60 fc (fun _ => true) hcut64 (by omega) (by have := hlS false; omega) (by unfold maxLen; omega) hfc (hf7.below h78 (Nat.le_refl _)))
                         (clear hc1 _t))
                      | ((go_at_call 29)
                         (have _t := hc2)
                         (refine hc2.mono ?_)
                         (rintro e w9 ⟨hb9, hI9, p9, c9, F9, rfl, hJ9, _, _⟩)
                         (have hJ8b := hJ8.next hD hb9)
                         (have h79 := h78.trans (hb9.mono h78.size))
                         (clear hc2 _t)))
                    have hbyS := byt_cutMo (S false) m (cut : Int) (keepOf (fun _ => true) 0) (hG7.by_ false)
                    have hbyT := byt_cutMo (S false) m (cut : Int) (keepOf (fun _ => true) 60) (hG7.by_ false)
                    have hT : cut ≤ m → holds (cutMoD (S false) m (cut : Int) (keepOf (fun _ => true) 0)) = sureAt (S false) (cut : Int) ∧ holds (cutMoD (S false) m (cut : Int) (keepOf (fun _ => true) 60)) = nowAt (S false) (cut : Int) := fun h => ⟨cutMo_none _ _ _ h _, cutMo_full _ _ _ 60 h (Nat.le_trans (List.length_filter_le _ _) (hlS false))⟩
                    have E0 : ∀ i, i < 4 → rdErr (cutMoD (S false) m (cut : Int) (keepOf (fun _ => true) 0)) ((i : Nat) : Int) = 0 := fun i hi => rdErr_ok _ i (hG7.live false) (by show i < (S false).n; rw [hG7.n false]; exact hi) (hG7.nb false i)
                    have E1 : ∀ i, i < 4 → rdErr (cutMoD (S false) m (cut : Int) (keepOf (fun _ => true) 60)) ((i : Nat) : Int) = 0 := fun i hi => rdErr_ok _ i (hG7.live false) (by show i < (S false).n; rw [hG7.n false]; exact hi) (hG7.nb false i)
                    clear cl cl8 hI8 hI9 hJ8
                    go_loopw [24] (fun i wx => ∃ u : Nat, u ≤ 4 ∧ i = .int .i64 (u : Nat) ∧ Below w9.heap.size w9 wx) (fun i _ => 4 - (intOf i).toNat)
                    case atStart => exact ⟨0, Nat.zero_le _, rfl, Below.refl _ _⟩
                    case round =>
                      rename World => wx
                      obtain ⟨u, hu, rfl, hbx⟩ := hrel
                      by_cases hu4 : u < 4
                      · have j0 : (u : Int) < 4 := by omega
                        have j1 : (0 : Int) ≤ (u : Int) := by omega
                        have hJa := hJ8b.next hD hbx
                        have hJb := (hJ9.next hD hbx)
                        have hGx := hG7.next hD (h79.trans (hbx.mono h79.size))
                        have hr1 := in_read hD hJa (u : Int) ⟨by omega, by omega⟩
                        obtain ⟨fA, hA⟩ : ∃ fA, fA = holds (cutMoD (S false) m (cut : Int) (keepOf (fun _ => true) 0)) u := ⟨_, rfl⟩
                        obtain ⟨fB, hB⟩ : ∃ fB, fB = holds (cutMoD (S false) m (cut : Int) (keepOf (fun _ => true) 60)) u := ⟨_, rfl⟩
                        have HA : Hid (fA = holds (cutMoD (S false) m (cut : Int) (keepOf (fun _ => true) 0)) u) := hA
                        have HB : Hid (fB = holds (cutMoD (S false) m (cut : Int) (keepOf (fun _ => true) 60)) u) := hB
                        have hAl : ∀ j, fA j < 256 := by rw [hA]; exact holds_lt _ hbyS u
                        have hBl : ∀ j, fB j < 256 := by rw [hB]; exact holds_lt _ hbyT u
                        rw [E0 u hu4, Int.toNat_natCast, ← hA] at hr1
                        clear hA hB
                        obtain ⟨fS, hS⟩ : ∃ fS, fS = sureS S cut (0 + u) := ⟨_, rfl⟩
                        obtain ⟨fW, hW⟩ : ∃ fW, fW = nowS S cut (0 + u) := ⟨_, rfl⟩
                        have eS : fS = sureAt (S false) (cut : Int) u := by rw [hS]; exact rowF_at _ false u hu4
                        have eW : fW = nowAt (S false) (cut : Int) u := by rw [hW]; exact rowF_at _ false u hu4
                        have HS : Hid (fS = sureAt (S false) (cut : Int) u ∧ fW = nowAt (S false) (cut : Int) u) := ⟨eS, eW⟩
                        have hSl : ∀ j, fS j < 256 := by rw [eS]; exact byt_sure _ _ (hG7.by_ false) u
                        have hWl : ∀ j, fW j < 256 := by rw [eW]; exact byt_now _ _ (hG7.by_ false) u
                        obtain ⟨AS, LS, CS, eU, hLS, hBS, hstS⟩ := (hGx.sure.at_ (0 + u) (by omega)).bytes
                        obtain ⟨AW, LW, CW, eWW, hLW, hBW, hstW⟩ := (hGx.now.at_ (0 + u) (by omega)).bytes
                        rw [← hS] at hBS hstS
                        rw [← hW] at hBW hstW
                        have hcS : CellAt wx gs (u) (.slice AS LS CS) := ⟨hGx.sure.has.lt, by rw [show u = 0 + u by omega, hGx.sure.has.cell, cells8_get _ _ (by omega), eU]⟩
                        have hcW : CellAt wx gn (u) (.slice AW LW CW) := ⟨hGx.now.has.lt, by rw [show u = 0 + u by omega, hGx.now.has.cell, cells8_get _ _ (by omega), eWW]⟩
                        clear hS hW eS eW eU eWW
                        by_cases hcm : cut ≤ m
                        · skip
                          have V1 : (strN fA 64 == strN (full fS LS) 64) = true := by rw [hstS, HS.out.1, HA.out, (hT hcm).1]; simp
                          have V2 : (strN fB 64 == strN (full fW LW) 64) = true := by rw [hstW, HS.out.2, HB.out, (hT hcm).2]; simp
                          have j2 : (cut : Int) ≤ (m : Int) := by omega
                          go_wp2_with (first
                            | ((go_at_call 20)
                               (have _t := hr1)
                               (refine hr1.mono ?_)
                               (rintro e wa ⟨hba, hIa, va, rfl, (⟨hv, _⟩ | ⟨_, hva⟩)⟩)
                               (case inl => exact absurd rfl hv)
                               (obtain ⟨ga, oa, na, rfl, _, _, hBa⟩ := hva.bytes)
                               (have hr2 := in_read hD (hJb.next hD hba) (u : Int) ⟨by omega, by omega⟩)
                               (rw [E1 u hu4, Int.toNat_natCast, ← HB.out] at hr2)
                               (clear hr1 _t hva))
                            | ((go_at_call 20)
                               (have _t := hr2)
                               (refine hr2.mono ?_)
                               (rintro e wb ⟨hbb, hIb, vb, rfl, (⟨hv, _⟩ | ⟨_, hvb⟩)⟩)
                               (case inl => exact absurd rfl hv)
                               (obtain ⟨gb, ob, nb, rfl, _, _, hBb⟩ := hvb.bytes)
                               (have hBa2 := hBa.below hbb (Nat.le_refl _))
                               (have hxb : Below wx.heap.size wx wb := hba.trans (hbb.mono hba.size))
                               (have cS := (hcS.trans' hxb))
                               (have hfu1 := full_any fS LS CS AS wb hLS (hBS.below hxb (Nat.le_refl _)))
                               (clear hr2 _t hvb hBa))
                            | ((go_at_call 32)
                               (have _t := hfu1)
                               (refine hfu1.mono ?_)
                               (rintro e wc ⟨rfl, hsc, hbc⟩)
                               (have hBa3 := hBa2.below hbc (Nat.le_refl _))
                               (have hBb3 := hBb.below hbc (Nat.le_refl _))
                               (have hxc : Below wx.heap.size wx wc := hxb.trans (hbc.mono hxb.size))
                               (have cW := (hcW.trans' hxc))
                               (have hfu2 := full_any fW LW CW AW wc hLW (hBW.below hxc (Nat.le_refl _)))
                               (have hsm1 := same_any na 64 hBa3 hsc.bytes hAl (full_lt _ _ hSl) (fun e => by cases e) (fun e => by cases e))
                               (rw [V1] at hsm1)
                               (clear hfu1 _t hBa2 hBb))
                            | ((go_at_call 22)
                               (have _t := hsm1)
                               (refine hsm1.mono ?_)
                               (rintro e wd ⟨rfl, hwd⟩)
                               (subst hwd)
                               (clear hsm1 _t))
                            | ((go_at_call 32)
                               (have _t := hfu2)
                               (refine hfu2.mono ?_)
                               (rintro e we ⟨rfl, hse, hbe⟩)
                               (have hBb4 := hBb3.below hbe (Nat.le_refl _))
                               (have hxe := hxc.trans (hbe.mono hxc.size))
                               (have hsm2 := same_any nb 64 hBb4 hse.bytes hBl (full_lt _ _ hWl) (fun e => by cases e) (fun e => by cases e))
                               (rw [V2] at hsm2)
                               (clear hfu2 _t hBb3))
                            | ((go_at_call 22)
                               (have _t := hsm2)
                               (refine hsm2.mono ?_)
                               (rintro e wf ⟨rfl, hwf⟩)
                               (subst hwf)
                               (clear hsm2 _t)))
                          go_roundw
                          case rel => exact ⟨u + 1, by omega, by go_num, hbx.trans (hxe.mono hbx.size)⟩
                          case measure => simp [intOf]; omega
                        · skip
                          have j2 : ¬ (cut : Int) ≤ (m : Int) := by omega
                          go_wp2_with (first
                            | ((go_at_call 20)
                               (have _t := hr1)
                               (refine hr1.mono ?_)
                               (rintro e wa ⟨hba, hIa, va, rfl, (⟨hv, _⟩ | ⟨_, hva⟩)⟩)
                               (case inl => exact absurd rfl hv)
                               (obtain ⟨ga, oa, na, rfl, _, _, hBa⟩ := hva.bytes)
                               (have hr2 := in_read hD (hJb.next hD hba) (u : Int) ⟨by omega, by omega⟩)
                               (rw [E1 u hu4, Int.toNat_natCast, ← HB.out] at hr2)
                               (clear hr1 _t hva))
                            | ((go_at_call 20)
                               (have _t := hr2)
                               (refine hr2.mono ?_)
                               (rintro e wb ⟨hbb, hIb, vb, rfl, (⟨hv, _⟩ | ⟨_, hvb⟩)⟩)
                               (case inl => exact absurd rfl hv)
                               (obtain ⟨gb, ob, nb, rfl, _, _, hBb⟩ := hvb.bytes)
                               (have hBa2 := hBa.below hbb (Nat.le_refl _))
                               (have hxb : Below wx.heap.size wx wb := hba.trans (hbb.mono hba.size))
                               (have cS := (hcS.trans' hxb))
                               (have hfu1 := full_any fS LS CS AS wb hLS (hBS.below hxb (Nat.le_refl _)))
                               (clear hr2 _t hvb hBa))
                            | ((go_at_call 32)
                               (have _t := hfu1)
                               (refine hfu1.mono ?_)
                               (rintro e wc ⟨rfl, hsc, hbc⟩)
                               (have hBa3 := hBa2.below hbc (Nat.le_refl _))
                               (have hBb3 := hBb.below hbc (Nat.le_refl _))
                               (have hxc : Below wx.heap.size wx wc := hxb.trans (hbc.mono hxb.size))
                               (have cW := (hcW.trans' hxc))
                               (have hfu2 := full_any fW LW CW AW wc hLW (hBW.below hxc (Nat.le_refl _)))
                               (have hsm1 := same_any na 64 hBa3 hsc.bytes hAl (full_lt _ _ hSl) (fun e => by cases e) (fun e => by cases e))
                               (obtain ⟨b1, hb1⟩ : ∃ b1, b1 = (strN fA 64 == strN (full fS LS) 64) := ⟨_, rfl⟩)
                               (rw [← hb1] at hsm1)
                               (clear hb1)
                               (clear hfu1 _t hBa2 hBb))
                            | ((go_at_call 22)
                               (have _t := hsm1)
                               (refine hsm1.mono ?_)
                               (rintro e wd ⟨rfl, hwd⟩)
                               (subst hwd)
                               (clear hsm1 _t))
                            | ((go_at_call 32)
                               (have _t := hfu2)
                               (refine hfu2.mono ?_)
                               (rintro e we ⟨rfl, hse, hbe⟩)
                               (have hBb4 := hBb3.below hbe (Nat.le_refl _))
                               (have hxe := hxc.trans (hbe.mono hxc.size))
                               (have hsm2 := same_any nb 64 hBb4 hse.bytes hBl (full_lt _ _ hWl) (fun e => by cases e) (fun e => by cases e))
                               (obtain ⟨b2, hb2⟩ : ∃ b2, b2 = (strN fB 64 == strN (full fW LW) 64) := ⟨_, rfl⟩)
                               (rw [← hb2] at hsm2)
                               (clear hb2)
                               (clear hfu2 _t hBb3))
                            | ((go_at_call 22)
                               (have _t := hsm2)
                               (refine hsm2.mono ?_)
                               (rintro e wf ⟨rfl, hwf⟩)
                               (subst hwf)
                               (clear hsm2 _t)))
                          go_roundw
                          case rel => exact ⟨u + 1, by omega, by go_num, hbx.trans (hxe.mono hbx.size)⟩
                          case measure => simp [intOf]; omega
                      · obtain rfl : u = 4 := by omega
                        have j0 : ¬ ((4 : Nat) : Int) < 4 := by omega
                        go_wp2
                        go_roundw
                        case rel => exact ⟨0 + 1, by omega, by go_num, h79.trans (hbx.mono h79.size)⟩
                        case measure => simp [intOf]
                  · have cl : wy.cell? ⟨gl, 1, none⟩ = some (ptr (P true)) := (hl7.below hby hl7.lt).cell 1
                    have hc1 := in_cutMo hD hM (hGy.tw.at_ true) (cut : Int) none 0 0 (fun _ => true) hcut64 (by omega) (by have := hlS true; omega) (Nat.zero_le _) (Nat.le_refl _) (.inl rfl)
                    go_wp2_with (first
                      | ((go_at_call 29)
                         (have _t := hc1)
                         (refine hc1.mono ?_)
                         (rintro e w8 ⟨hb8, hI8, p8, c8, F8, rfl, hJ8, _, _⟩)
                         (have h78 := hby.trans (hb8.mono hby.size))
                         (have cl8 : w8.cell? ⟨gl, 1, none⟩ = some (ptr (P true)) := (hl7.below h78 hl7.lt).cell 1)
                         (have hc2 := in_cutMo hD hM hI8 (cut : Int) fa 60 fc (fun _ => true) hcut64 (by omega) (by have := hlS true; omega) (by unfold maxLen; omega) hfc (hf7.below h78 (Nat.le_refl _)))
                         (clear hc1 _t))
                      | ((go_at_call 29)
                         (have _t := hc2)
                         (refine hc2.mono ?_)
                         (rintro e w9 ⟨hb9, hI9, p9, c9, F9, rfl, hJ9, _, _⟩)
                         (have hJ8b := hJ8.next hD hb9)
                         (have h79 := h78.trans (hb9.mono h78.size))
                         (clear hc2 _t)))
                    have hbyS := byt_cutMo (S true) m (cut : Int) (keepOf (fun _ => true) 0) (hG7.by_ true)
                    have hbyT := byt_cutMo (S true) m (cut : Int) (keepOf (fun _ => true) 60) (hG7.by_ true)
                    have hT : cut ≤ m → holds (cutMoD (S true) m (cut : Int) (keepOf (fun _ => true) 0)) = sureAt (S true) (cut : Int) ∧ holds (cutMoD (S true) m (cut : Int) (keepOf (fun _ => true) 60)) = nowAt (S true) (cut : Int) := fun h => ⟨cutMo_none _ _ _ h _, cutMo_full _ _ _ 60 h (Nat.le_trans (List.length_filter_le _ _) (hlS true))⟩
                    have E0 : ∀ i, i < 4 → rdErr (cutMoD (S true) m (cut : Int) (keepOf (fun _ => true) 0)) ((i : Nat) : Int) = 0 := fun i hi => rdErr_ok _ i (hG7.live true) (by show i < (S true).n; rw [hG7.n true]; exact hi) (hG7.nb true i)
                    have E1 : ∀ i, i < 4 → rdErr (cutMoD (S true) m (cut : Int) (keepOf (fun _ => true) 60)) ((i : Nat) : Int) = 0 := fun i hi => rdErr_ok _ i (hG7.live true) (by show i < (S true).n; rw [hG7.n true]; exact hi) (hG7.nb true i)
                    clear cl cl8 hI8 hI9 hJ8
                    go_loopw [24] (fun i wx => ∃ u : Nat, u ≤ 4 ∧ i = .int .i64 (u : Nat) ∧ Below w9.heap.size w9 wx) (fun i _ => 4 - (intOf i).toNat)
                    case atStart => exact ⟨0, Nat.zero_le _, rfl, Below.refl _ _⟩
                    case round =>
                      rename World => wx
                      obtain ⟨u, hu, rfl, hbx⟩ := hrel
                      by_cases hu4 : u < 4
                      · have j0 : (u : Int) < 4 := by omega
                        have j1 : (0 : Int) ≤ (u : Int) := by omega
                        have hJa := hJ8b.next hD hbx
                        have hJb := (hJ9.next hD hbx)
                        have hGx := hG7.next hD (h79.trans (hbx.mono h79.size))
                        have hr1 := in_read hD hJa (u : Int) ⟨by omega, by omega⟩
                        obtain ⟨fA, hA⟩ : ∃ fA, fA = holds (cutMoD (S true) m (cut : Int) (keepOf (fun _ => true) 0)) u := ⟨_, rfl⟩
                        obtain ⟨fB, hB⟩ : ∃ fB, fB = holds (cutMoD (S true) m (cut : Int) (keepOf (fun _ => true) 60)) u := ⟨_, rfl⟩
                        have HA : Hid (fA = holds (cutMoD (S true) m (cut : Int) (keepOf (fun _ => true) 0)) u) := hA
                        have HB : Hid (fB = holds (cutMoD (S true) m (cut : Int) (keepOf (fun _ => true) 60)) u) := hB
                        have hAl : ∀ j, fA j < 256 := by rw [hA]; exact holds_lt _ hbyS u
                        have hBl : ∀ j, fB j < 256 := by rw [hB]; exact holds_lt _ hbyT u
                        rw [E0 u hu4, Int.toNat_natCast, ← hA] at hr1
                        clear hA hB
                        obtain ⟨fS, hS⟩ : ∃ fS, fS = sureS S cut (4 + u) := ⟨_, rfl⟩
                        obtain ⟨fW, hW⟩ : ∃ fW, fW = nowS S cut (4 + u) := ⟨_, rfl⟩
                        have eS : fS = sureAt (S true) (cut : Int) u := by rw [hS]; exact rowF_at _ true u hu4
                        have eW : fW = nowAt (S true) (cut : Int) u := by rw [hW]; exact rowF_at _ true u hu4
                        have HS : Hid (fS = sureAt (S true) (cut : Int) u ∧ fW = nowAt (S true) (cut : Int) u) := ⟨eS, eW⟩
                        have hSl : ∀ j, fS j < 256 := by rw [eS]; exact byt_sure _ _ (hG7.by_ true) u
                        have hWl : ∀ j, fW j < 256 := by rw [eW]; exact byt_now _ _ (hG7.by_ true) u
                        obtain ⟨AS, LS, CS, eU, hLS, hBS, hstS⟩ := (hGx.sure.at_ (4 + u) (by omega)).bytes
                        obtain ⟨AW, LW, CW, eWW, hLW, hBW, hstW⟩ := (hGx.now.at_ (4 + u) (by omega)).bytes
                        rw [← hS] at hBS hstS
                        rw [← hW] at hBW hstW
                        have hcS : CellAt wx gs (4 + u) (.slice AS LS CS) := ⟨hGx.sure.has.lt, by rw [show 4 + u = 4 + u by omega, hGx.sure.has.cell, cells8_get _ _ (by omega), eU]⟩
                        have hcW : CellAt wx gn (4 + u) (.slice AW LW CW) := ⟨hGx.now.has.lt, by rw [show 4 + u = 4 + u by omega, hGx.now.has.cell, cells8_get _ _ (by omega), eWW]⟩
                        clear hS hW eS eW eU eWW
                        by_cases hcm : cut ≤ m
                        · skip
                          have V1 : (strN fA 64 == strN (full fS LS) 64) = true := by rw [hstS, HS.out.1, HA.out, (hT hcm).1]; simp
                          have V2 : (strN fB 64 == strN (full fW LW) 64) = true := by rw [hstW, HS.out.2, HB.out, (hT hcm).2]; simp
                          have j2 : (cut : Int) ≤ (m : Int) := by omega
                          go_wp2_with (first
                            | ((go_at_call 20)
                               (have _t := hr1)
                               (refine hr1.mono ?_)
                               (rintro e wa ⟨hba, hIa, va, rfl, (⟨hv, _⟩ | ⟨_, hva⟩)⟩)
                               (case inl => exact absurd rfl hv)
                               (obtain ⟨ga, oa, na, rfl, _, _, hBa⟩ := hva.bytes)
                               (have hr2 := in_read hD (hJb.next hD hba) (u : Int) ⟨by omega, by omega⟩)
                               (rw [E1 u hu4, Int.toNat_natCast, ← HB.out] at hr2)
                               (clear hr1 _t hva))
                            | ((go_at_call 20)
                               (have _t := hr2)
                               (refine hr2.mono ?_)
                               (rintro e wb ⟨hbb, hIb, vb, rfl, (⟨hv, _⟩ | ⟨_, hvb⟩)⟩)
                               (case inl => exact absurd rfl hv)
                               (obtain ⟨gb, ob, nb, rfl, _, _, hBb⟩ := hvb.bytes)
                               (have hBa2 := hBa.below hbb (Nat.le_refl _))
                               (have hxb : Below wx.heap.size wx wb := hba.trans (hbb.mono hba.size))
                               (have cS := (hcS.trans' hxb))
                               (have hfu1 := full_any fS LS CS AS wb hLS (hBS.below hxb (Nat.le_refl _)))
                               (clear hr2 _t hvb hBa))
                            | ((go_at_call 32)
                               (have _t := hfu1)
                               (refine hfu1.mono ?_)
                               (rintro e wc ⟨rfl, hsc, hbc⟩)
                               (have hBa3 := hBa2.below hbc (Nat.le_refl _))
                               (have hBb3 := hBb.below hbc (Nat.le_refl _))
                               (have hxc : Below wx.heap.size wx wc := hxb.trans (hbc.mono hxb.size))
                               (have cW := (hcW.trans' hxc))
                               (have hfu2 := full_any fW LW CW AW wc hLW (hBW.below hxc (Nat.le_refl _)))
                               (have hsm1 := same_any na 64 hBa3 hsc.bytes hAl (full_lt _ _ hSl) (fun e => by cases e) (fun e => by cases e))
                               (rw [V1] at hsm1)
                               (clear hfu1 _t hBa2 hBb))
                            | ((go_at_call 22)
                               (have _t := hsm1)
                               (refine hsm1.mono ?_)
                               (rintro e wd ⟨rfl, hwd⟩)
                               (subst hwd)
                               (clear hsm1 _t))
                            | ((go_at_call 32)
                               (have _t := hfu2)
                               (refine hfu2.mono ?_)
                               (rintro e we ⟨rfl, hse, hbe⟩)
                               (have hBb4 := hBb3.below hbe (Nat.le_refl _))
                               (have hxe := hxc.trans (hbe.mono hxc.size))
                               (have hsm2 := same_any nb 64 hBb4 hse.bytes hBl (full_lt _ _ hWl) (fun e => by cases e) (fun e => by cases e))
                               (rw [V2] at hsm2)
                               (clear hfu2 _t hBb3))
                            | ((go_at_call 22)
                               (have _t := hsm2)
                               (refine hsm2.mono ?_)
                               (rintro e wf ⟨rfl, hwf⟩)
                               (subst hwf)
                               (clear hsm2 _t)))
                          go_roundw
                          case rel => exact ⟨u + 1, by omega, by go_num, hbx.trans (hxe.mono hbx.size)⟩
                          case measure => simp [intOf]; omega
                        · skip
                          have j2 : ¬ (cut : Int) ≤ (m : Int) := by omega
                          go_wp2_with (first
                            | ((go_at_call 20)
                               (have _t := hr1)
                               (refine hr1.mono ?_)
                               (rintro e wa ⟨hba, hIa, va, rfl, (⟨hv, _⟩ | ⟨_, hva⟩)⟩)
                               (case inl => exact absurd rfl hv)
                               (obtain ⟨ga, oa, na, rfl, _, _, hBa⟩ := hva.bytes)
                               (have hr2 := in_read hD (hJb.next hD hba) (u : Int) ⟨by omega, by omega⟩)
                               (rw [E1 u hu4, Int.toNat_natCast, ← HB.out] at hr2)
                               (clear hr1 _t hva))
                            | ((go_at_call 20)
                               (have _t := hr2)
                               (refine hr2.mono ?_)
                               (rintro e wb ⟨hbb, hIb, vb, rfl, (⟨hv, _⟩ | ⟨_, hvb⟩)⟩)
                               (case inl => exact absurd rfl hv)
                               (obtain ⟨gb, ob, nb, rfl, _, _, hBb⟩ := hvb.bytes)
                               (have hBa2 := hBa.below hbb (Nat.le_refl _))
                               (have hxb : Below wx.heap.size wx wb := hba.trans (hbb.mono hba.size))
                               (have cS := (hcS.trans' hxb))
                               (have hfu1 := full_any fS LS CS AS wb hLS (hBS.below hxb (Nat.le_refl _)))
                               (clear hr2 _t hvb hBa))
                            | ((go_at_call 32)
                               (have _t := hfu1)
                               (refine hfu1.mono ?_)
                               (rintro e wc ⟨rfl, hsc, hbc⟩)
                               (have hBa3 := hBa2.below hbc (Nat.le_refl _))
                               (have hBb3 := hBb.below hbc (Nat.le_refl _))
                               (have hxc : Below wx.heap.size wx wc := hxb.trans (hbc.mono hxb.size))
                               (have cW := (hcW.trans' hxc))
                               (have hfu2 := full_any fW LW CW AW wc hLW (hBW.below hxc (Nat.le_refl _)))
                               (have hsm1 := same_any na 64 hBa3 hsc.bytes hAl (full_lt _ _ hSl) (fun e => by cases e) (fun e => by cases e))
                               (obtain ⟨b1, hb1⟩ : ∃ b1, b1 = (strN fA 64 == strN (full fS LS) 64) := ⟨_, rfl⟩)
                               (rw [← hb1] at hsm1)
                               (clear hb1)
                               (clear hfu1 _t hBa2 hBb))
                            | ((go_at_call 22)
                               (have _t := hsm1)
                               (refine hsm1.mono ?_)
                               (rintro e wd ⟨rfl, hwd⟩)
                               (subst hwd)
                               (clear hsm1 _t))
                            | ((go_at_call 32)
                               (have _t := hfu2)
                               (refine hfu2.mono ?_)
                               (rintro e we ⟨rfl, hse, hbe⟩)
                               (have hBb4 := hBb3.below hbe (Nat.le_refl _))
                               (have hxe := hxc.trans (hbe.mono hxc.size))
                               (have hsm2 := same_any nb 64 hBb4 hse.bytes hBl (full_lt _ _ hWl) (fun e => by cases e) (fun e => by cases e))
                               (obtain ⟨b2, hb2⟩ : ∃ b2, b2 = (strN fB 64 == strN (full fW LW) 64) := ⟨_, rfl⟩)
                               (rw [← hb2] at hsm2)
                               (clear hb2)
                               (clear hfu2 _t hBb3))
                            | ((go_at_call 22)
                               (have _t := hsm2)
                               (refine hsm2.mono ?_)
                               (rintro e wf ⟨rfl, hwf⟩)
                               (subst hwf)
                               (clear hsm2 _t)))
                          go_roundw
                          case rel => exact ⟨u + 1, by omega, by go_num, hbx.trans (hxe.mono hbx.size)⟩
                          case measure => simp [intOf]; omega
                      · obtain rfl : u = 4 := by omega
                        have j0 : ¬ ((4 : Nat) : Int) < 4 := by omega
                        go_wp2
                        go_roundw
                        case rel => exact ⟨1 + 1, by omega, by go_num, h79.trans (hbx.mono h79.size)⟩
                        case measure => simp [intOf]
                · obtain rfl : r = 2 := by omega
                  have j0 : ¬ ((2 : Nat) : Int) < 2 := by omega
                  have hc3 := in_cutMo hD hM (hGy.tw.at_ false) (cut : Int) ka kL kC kb hcut64 (by omega) (by have := hlS false; omega) hk.max hk.le (hk.at_.below (hGy.tw.at_ false).below (Nat.le_refl _))
                  go_wp2_with (first
                    | ((go_at_call 29)
                       (refine hc3.mono ?_)
                       (rintro e w8 ⟨hb8, hI8, p8, c8, F8, rfl, hJ8, _, _⟩)
                       (have hmo3 := in_tells hD hJ8 (hM.moment w8 p8 _ c8 0 F8 hJ8.dev))
                       (clear hc3))
                    | ((go_at_call 38)
                       (refine hmo3.mono ?_)
                       (rintro e w9 ⟨rfl, hb9, hJ9⟩)
                       (clear hmo3)))
                  exact bodyPost_ret (results_tmp rfl _ _ _) rfl ⟨rfl, hJ9.below⟩
        · have i0 : ¬ (k : Int) < (len : Int) := by omega
          have hmo1 := hM.moment wr (P false) (S false) c m (F false) (hG.tw.at_ false).dev
          go_wp2_with (first
            | ((go_at_call 38)
               (have _t := hmo1)
               (refine hmo1.mono ?_)
               (rintro e w5 ⟨rfl, hb5⟩)
               (have hG5 := hG.next hD hb5)
               (have hmo2 := hM.moment w5 (P true) (S true) c m (F true) (hG5.tw.at_ true).dev)
               (clear hmo1 _t))
            | ((go_at_call 38)
               (have _t := hmo2)
               (refine hmo2.mono ?_)
               (rintro e w6 ⟨rfl, hb6⟩)
               (have hG6 := hG5.next hD hb6)
               (clear hmo2 _t hb5 hb6 hG5)))
          clear i0 hS hkk
          have hlS : ∀ t, (S t).log.length ≤ 60 := fun t => Nat.le_trans (hG6.len t) hk60
          have hm60 : m ≤ 60 := by omega
          go_loopw [18, 19] (fun v i wz => ∃ r : Nat, r ≤ 60 ∧ i = .int .i64 (r : Nat) ∧ wz.ownsRow w6.heap.size 4 1 v r (tl r) ∧ Below w6.heap.size w6 wz) (fun _ i _ => 60 - (intOf i).toNat)
          case atStart => exact ⟨0, Nat.zero_le _, rfl, World.ownsRow_nil _ _ _ _, Below.refl _ _⟩
          case round =>
            rename World => wo
            obtain ⟨r, hr6, rfl, hown, hbo⟩ := hrel
            by_cases hr60 : r < 60
            · have j0 : (r : Int) < 60 := by omega
              go_wp2_with (first
                | ((refine wpList_append_true rfl _ _ rfl w6.heap.size _ r rfl hown rfl (by omega) hbo.size ?_)
                   (intro g5 cap5 w7 hown5 hgr5)))
              go_roundw
              case rel => exact ⟨r + 1, hr60, by go_num, hown5, (hbo.alloc hbo.size (.cells #[.bool true] 4)).grown hgr5 (Nat.le_trans hbo.size (by simp)) (fun g e => (hown.lt g e).1)⟩
              case measure => simp [intOf]; omega
            · obtain rfl : r = 60 := by omega
              have j0 : ¬ ((60 : Nat) : Int) < 60 := by omega
              obtain ⟨fa, fc, rfl, hfc, hfb⟩ := own_trues hown
              have hG7 := (hG6.next hD hbo).next hD ((Below.refl _ wo).alloc (Nat.le_refl _) (.cells #[ptr (P false), ptr (P true)] 23))
              have hl7 : Has (wo.alloc (.cells #[ptr (P false), ptr (P true)] 23)) wo.heap.size 23 #[ptr (P false), ptr (P true)] := Has.new _ _ _
              have hf7 := hfb.below ((Below.refl _ wo).alloc (Nat.le_refl _) (.cells #[ptr (P false), ptr (P true)] 23)) (Nat.le_refl _)
              go_wp2
              obtain ⟨gl, hgl⟩ : ∃ gl, gl = wo.heap.size := ⟨_, rfl⟩
              rw [← hgl] at hl7
              rw [show wo.heap.size = gl from hgl.symm]
              obtain ⟨w7, hw7⟩ : ∃ w7, w7 = wo.alloc (.cells #[ptr (P false), ptr (P true)] 23) := ⟨_, rfl⟩
              rw [← hw7] at hG7 hl7 hf7
              rw [show wo.alloc (.cells #[ptr (P false), ptr (P true)] 23) = w7 from hw7.symm]
              clear hgl hw7 hG6 hG hown hfb hbo j0
              go_loopw [21] (fun i wy => ∃ r : Nat, r ≤ 2 ∧ i = .int .i64 (r : Nat) ∧ Below w7.heap.size w7 wy) (fun i _ => 2 - (intOf i).toNat)
              case atStart => exact ⟨0, Nat.zero_le _, rfl, Below.refl _ _⟩
              case round =>
                rename World => wy
                obtain ⟨r, hr2, rfl, hby⟩ := hrel
                have hGy := hG7.next hD hby
                by_cases hr3 : r < 2
                · rcases (show r = 0 ∨ r = 1 by omega) with rfl | rfl
                  · have cl : wy.cell? ⟨gl, 0, none⟩ = some (ptr (P false)) := (hl7.below hby hl7.lt).cell 0
                    have hc1 := in_cutMo hD hM (hGy.tw.at_ false) (cut : Int) none 0 0 (fun _ => true) hcut64 (by omega) (by have := hlS false; omega) (Nat.zero_le _) (Nat.le_refl _) (.inl rfl)
                    go_wp2_with (first
                      | ((go_at_call 29)
                         (have _t := hc1)
                         (refine hc1.mono ?_)
                         (rintro e w8 ⟨hb8, hI8, p8, c8, F8, rfl, hJ8, _, _⟩)
                         (have h78 := hby.trans (hb8.mono hby.size))
                         (have cl8 : w8.cell? ⟨gl, 0, none⟩ = some (ptr (P false)) := (hl7.below h78 hl7.lt).cell 0)
                         (have hc2 := in_cutMo hD hM hI8 (cut : Int) fa 60 fc (fun _ => true) hcut64 (by omega) (by have := hlS false; omega) (by unfold maxLen; omega) hfc (hf7.below h78 (Nat.le_refl _)))
                         (clear hc1 _t))
                      | ((go_at_call 29)
                         (have _t := hc2)
                         (refine hc2.mono ?_)
                         (rintro e w9 ⟨hb9, hI9, p9, c9, F9, rfl, hJ9, _, _⟩)
                         (have hJ8b := hJ8.next hD hb9)
                         (have h79 := h78.trans (hb9.mono h78.size))
                         (clear hc2 _t)))
                    have hbyS := byt_cutMo (S false) m (cut : Int) (keepOf (fun _ => true) 0) (hG7.by_ false)
                    have hbyT := byt_cutMo (S false) m (cut : Int) (keepOf (fun _ => true) 60) (hG7.by_ false)
                    have hT : cut ≤ m → holds (cutMoD (S false) m (cut : Int) (keepOf (fun _ => true) 0)) = sureAt (S false) (cut : Int) ∧ holds (cutMoD (S false) m (cut : Int) (keepOf (fun _ => true) 60)) = nowAt (S false) (cut : Int) := fun h => ⟨cutMo_none _ _ _ h _, cutMo_full _ _ _ 60 h (Nat.le_trans (List.length_filter_le _ _) (hlS false))⟩
                    have E0 : ∀ i, i < 4 → rdErr (cutMoD (S false) m (cut : Int) (keepOf (fun _ => true) 0)) ((i : Nat) : Int) = 0 := fun i hi => rdErr_ok _ i (hG7.live false) (by show i < (S false).n; rw [hG7.n false]; exact hi) (hG7.nb false i)
                    have E1 : ∀ i, i < 4 → rdErr (cutMoD (S false) m (cut : Int) (keepOf (fun _ => true) 60)) ((i : Nat) : Int) = 0 := fun i hi => rdErr_ok _ i (hG7.live false) (by show i < (S false).n; rw [hG7.n false]; exact hi) (hG7.nb false i)
                    clear cl cl8 hI8 hI9 hJ8
                    go_loopw [24] (fun i wx => ∃ u : Nat, u ≤ 4 ∧ i = .int .i64 (u : Nat) ∧ Below w9.heap.size w9 wx) (fun i _ => 4 - (intOf i).toNat)
                    case atStart => exact ⟨0, Nat.zero_le _, rfl, Below.refl _ _⟩
                    case round =>
                      rename World => wx
                      obtain ⟨u, hu, rfl, hbx⟩ := hrel
                      by_cases hu4 : u < 4
                      · have j0 : (u : Int) < 4 := by omega
                        have j1 : (0 : Int) ≤ (u : Int) := by omega
                        have hJa := hJ8b.next hD hbx
                        have hJb := (hJ9.next hD hbx)
                        have hGx := hG7.next hD (h79.trans (hbx.mono h79.size))
                        have hr1 := in_read hD hJa (u : Int) ⟨by omega, by omega⟩
                        obtain ⟨fA, hA⟩ : ∃ fA, fA = holds (cutMoD (S false) m (cut : Int) (keepOf (fun _ => true) 0)) u := ⟨_, rfl⟩
                        obtain ⟨fB, hB⟩ : ∃ fB, fB = holds (cutMoD (S false) m (cut : Int) (keepOf (fun _ => true) 60)) u := ⟨_, rfl⟩
                        have HA : Hid (fA = holds (cutMoD (S false) m (cut : Int) (keepOf (fun _ => true) 0)) u) := hA
                        have HB : Hid (fB = holds (cutMoD (S false) m (cut : Int) (keepOf (fun _ => true) 60)) u) := hB
                        have hAl : ∀ j, fA j < 256 := by rw [hA]; exact holds_lt _ hbyS u
                        have hBl : ∀ j, fB j < 256 := by rw [hB]; exact holds_lt _ hbyT u
                        rw [E0 u hu4, Int.toNat_natCast, ← hA] at hr1
                        clear hA hB
                        obtain ⟨fS, hS⟩ : ∃ fS, fS = sureS S cut (0 + u) := ⟨_, rfl⟩
                        obtain ⟨fW, hW⟩ : ∃ fW, fW = nowS S cut (0 + u) := ⟨_, rfl⟩
                        have eS : fS = sureAt (S false) (cut : Int) u := by rw [hS]; exact rowF_at _ false u hu4
                        have eW : fW = nowAt (S false) (cut : Int) u := by rw [hW]; exact rowF_at _ false u hu4
                        have HS : Hid (fS = sureAt (S false) (cut : Int) u ∧ fW = nowAt (S false) (cut : Int) u) := ⟨eS, eW⟩
                        have hSl : ∀ j, fS j < 256 := by rw [eS]; exact byt_sure _ _ (hG7.by_ false) u
                        have hWl : ∀ j, fW j < 256 := by rw [eW]; exact byt_now _ _ (hG7.by_ false) u
                        obtain ⟨AS, LS, CS, eU, hLS, hBS, hstS⟩ := (hGx.sure.at_ (0 + u) (by omega)).bytes
                        obtain ⟨AW, LW, CW, eWW, hLW, hBW, hstW⟩ := (hGx.now.at_ (0 + u) (by omega)).bytes
                        rw [← hS] at hBS hstS
                        rw [← hW] at hBW hstW
                        have hcS : CellAt wx gs (u) (.slice AS LS CS) := ⟨hGx.sure.has.lt, by rw [show u = 0 + u by omega, hGx.sure.has.cell, cells8_get _ _ (by omega), eU]⟩
                        have hcW : CellAt wx gn (u) (.slice AW LW CW) := ⟨hGx.now.has.lt, by rw [show u = 0 + u by omega, hGx.now.has.cell, cells8_get _ _ (by omega), eWW]⟩
                        clear hS hW eS eW eU eWW
                        by_cases hcm : cut ≤ m
                        · skip
                          have V1 : (strN fA 64 == strN (full fS LS) 64) = true := by rw [hstS, HS.out.1, HA.out, (hT hcm).1]; simp
                          have V2 : (strN fB 64 == strN (full fW LW) 64) = true := by rw [hstW, HS.out.2, HB.out, (hT hcm).2]; simp
                          have j2 : (cut : Int) ≤ (m : Int) := by omega
                          go_wp2_with (first
                            | ((go_at_call 20)
                               (have _t := hr1)
                               (refine hr1.mono ?_)
                               (rintro e wa ⟨hba, hIa, va, rfl, (⟨hv, _⟩ | ⟨_, hva⟩)⟩)
                               (case inl => exact absurd rfl hv)
                               (obtain ⟨ga, oa, na, rfl, _, _, hBa⟩ := hva.bytes)
                               (have hr2 := in_read hD (hJb.next hD hba) (u : Int) ⟨by omega, by omega⟩)
                               (rw [E1 u hu4, Int.toNat_natCast, ← HB.out] at hr2)
                               (clear hr1 _t hva))
                            | ((go_at_call 20)
                               (have _t := hr2)
                               (refine hr2.mono ?_)
                               (rintro e wb ⟨hbb, hIb, vb, rfl, (⟨hv, _⟩ | ⟨_, hvb⟩)⟩)
                               (case inl => exact absurd rfl hv)
                               (obtain ⟨gb, ob, nb, rfl, _, _, hBb⟩ := hvb.bytes)
                               (have hBa2 := hBa.below hbb (Nat.le_refl _))
                               (have hxb : Below wx.heap.size wx wb := hba.trans (hbb.mono hba.size))
                               (have cS := (hcS.trans' hxb))
                               (have hfu1 := full_any fS LS CS AS wb hLS (hBS.below hxb (Nat.le_refl _)))
                               (clear hr2 _t hvb hBa))
                            | ((go_at_call 32)
                               (have _t := hfu1)
                               (refine hfu1.mono ?_)
                               (rintro e wc ⟨rfl, hsc, hbc⟩)
                               (have hBa3 := hBa2.below hbc (Nat.le_refl _))
                               (have hBb3 := hBb.below hbc (Nat.le_refl _))
                               (have hxc : Below wx.heap.size wx wc := hxb.trans (hbc.mono hxb.size))
                               (have cW := (hcW.trans' hxc))
                               (have hfu2 := full_any fW LW CW AW wc hLW (hBW.below hxc (Nat.le_refl _)))
                               (have hsm1 := same_any na 64 hBa3 hsc.bytes hAl (full_lt _ _ hSl) (fun e => by cases e) (fun e => by cases e))
                               (rw [V1] at hsm1)
                               (clear hfu1 _t hBa2 hBb))
                            | ((go_at_call 22)
                               (have _t := hsm1)
                               (refine hsm1.mono ?_)
                               (rintro e wd ⟨rfl, hwd⟩)
                               (subst hwd)
                               (clear hsm1 _t))
                            | ((go_at_call 32)
                               (have _t := hfu2)
                               (refine hfu2.mono ?_)
                               (rintro e we ⟨rfl, hse, hbe⟩)
                               (have hBb4 := hBb3.below hbe (Nat.le_refl _))
                               (have hxe := hxc.trans (hbe.mono hxc.size))
                               (have hsm2 := same_any nb 64 hBb4 hse.bytes hBl (full_lt _ _ hWl) (fun e => by cases e) (fun e => by cases e))
                               (rw [V2] at hsm2)
                               (clear hfu2 _t hBb3))
                            | ((go_at_call 22)
                               (have _t := hsm2)
                               (refine hsm2.mono ?_)
                               (rintro e wf ⟨rfl, hwf⟩)
                               (subst hwf)
                               (clear hsm2 _t)))
                          go_roundw
                          case rel => exact ⟨u + 1, by omega, by go_num, hbx.trans (hxe.mono hbx.size)⟩
                          case measure => simp [intOf]; omega
                        · skip
                          have j2 : ¬ (cut : Int) ≤ (m : Int) := by omega
                          go_wp2_with (first
                            | ((go_at_call 20)
                               (have _t := hr1)
                               (refine hr1.mono ?_)
                               (rintro e wa ⟨hba, hIa, va, rfl, (⟨hv, _⟩ | ⟨_, hva⟩)⟩)
                               (case inl => exact absurd rfl hv)
                               (obtain ⟨ga, oa, na, rfl, _, _, hBa⟩ := hva.bytes)
                               (have hr2 := in_read hD (hJb.next hD hba) (u : Int) ⟨by omega, by omega⟩)
                               (rw [E1 u hu4, Int.toNat_natCast, ← HB.out] at hr2)
                               (clear hr1 _t hva))
                            | ((go_at_call 20)
                               (have _t := hr2)
                               (refine hr2.mono ?_)
                               (rintro e wb ⟨hbb, hIb, vb, rfl, (⟨hv, _⟩ | ⟨_, hvb⟩)⟩)
                               (case inl => exact absurd rfl hv)
                               (obtain ⟨gb, ob, nb, rfl, _, _, hBb⟩ := hvb.bytes)
                               (have hBa2 := hBa.below hbb (Nat.le_refl _))
                               (have hxb : Below wx.heap.size wx wb := hba.trans (hbb.mono hba.size))
                               (have cS := (hcS.trans' hxb))
                               (have hfu1 := full_any fS LS CS AS wb hLS (hBS.below hxb (Nat.le_refl _)))
                               (clear hr2 _t hvb hBa))
                            | ((go_at_call 32)
                               (have _t := hfu1)
                               (refine hfu1.mono ?_)
                               (rintro e wc ⟨rfl, hsc, hbc⟩)
                               (have hBa3 := hBa2.below hbc (Nat.le_refl _))
                               (have hBb3 := hBb.below hbc (Nat.le_refl _))
                               (have hxc : Below wx.heap.size wx wc := hxb.trans (hbc.mono hxb.size))
                               (have cW := (hcW.trans' hxc))
                               (have hfu2 := full_any fW LW CW AW wc hLW (hBW.below hxc (Nat.le_refl _)))
                               (have hsm1 := same_any na 64 hBa3 hsc.bytes hAl (full_lt _ _ hSl) (fun e => by cases e) (fun e => by cases e))
                               (obtain ⟨b1, hb1⟩ : ∃ b1, b1 = (strN fA 64 == strN (full fS LS) 64) := ⟨_, rfl⟩)
                               (rw [← hb1] at hsm1)
                               (clear hb1)
                               (clear hfu1 _t hBa2 hBb))
                            | ((go_at_call 22)
                               (have _t := hsm1)
                               (refine hsm1.mono ?_)
                               (rintro e wd ⟨rfl, hwd⟩)
                               (subst hwd)
                               (clear hsm1 _t))
                            | ((go_at_call 32)
                               (have _t := hfu2)
                               (refine hfu2.mono ?_)
                               (rintro e we ⟨rfl, hse, hbe⟩)
                               (have hBb4 := hBb3.below hbe (Nat.le_refl _))
                               (have hxe := hxc.trans (hbe.mono hxc.size))
                               (have hsm2 := same_any nb 64 hBb4 hse.bytes hBl (full_lt _ _ hWl) (fun e => by cases e) (fun e => by cases e))
                               (obtain ⟨b2, hb2⟩ : ∃ b2, b2 = (strN fB 64 == strN (full fW LW) 64) := ⟨_, rfl⟩)
                               (rw [← hb2] at hsm2)
                               (clear hb2)
                               (clear hfu2 _t hBb3))
                            | ((go_at_call 22)
                               (have _t := hsm2)
                               (refine hsm2.mono ?_)
                               (rintro e wf ⟨rfl, hwf⟩)
                               (subst hwf)
                               (clear hsm2 _t)))
                          go_roundw
                          case rel => exact ⟨u + 1, by omega, by go_num, hbx.trans (hxe.mono hbx.size)⟩
                          case measure => simp [intOf]; omega
                      · obtain rfl : u = 4 := by omega
                        have j0 : ¬ ((4 : Nat) : Int) < 4 := by omega
                        go_wp2
                        go_roundw
                        case rel => exact ⟨0 + 1, by omega, by go_num, h79.trans (hbx.mono h79.size)⟩
                        case measure => simp [intOf]
                  · have cl : wy.cell? ⟨gl, 1, none⟩ = some (ptr (P true)) := (hl7.below hby hl7.lt).cell 1
                    have hc1 := in_cutMo hD hM (hGy.tw.at_ true) (cut : Int) none 0 0 (fun _ => true) hcut64 (by omega) (by have := hlS true; omega) (Nat.zero_le _) (Nat.le_refl _) (.inl rfl)
                    go_wp2_with (first
                      | ((go_at_call 29)
                         (have _t := hc1)
                         (refine hc1.mono ?_)
                         (rintro e w8 ⟨hb8, hI8, p8, c8, F8, rfl, hJ8, _, _⟩)
                         (have h78 := hby.trans (hb8.mono hby.size))
                         (have cl8 : w8.cell? ⟨gl, 1, none⟩ = some (ptr (P true)) := (hl7.below h78 hl7.lt).cell 1)
                         (have hc2 := in_cutMo hD hM hI8 (cut : Int) fa 60 fc (fun _ => true) hcut64 (by omega) (by have := hlS true; omega) (by unfold maxLen; omega) hfc (hf7.below h78 (Nat.le_refl _)))
                         (clear hc1 _t))
                      | ((go_at_call 29)
                         (have _t := hc2)
                         (refine hc2.mono ?_)
                         (rintro e w9 ⟨hb9, hI9, p9, c9, F9, rfl, hJ9, _, _⟩)
                         (have hJ8b := hJ8.next hD hb9)
                         (have h79 := h78.trans (hb9.mono h78.size))
                         (clear hc2 _t)))
                    have hbyS := byt_cutMo (S true) m (cut : Int) (keepOf (fun _ => true) 0) (hG7.by_ true)
                    have hbyT := byt_cutMo (S true) m (cut : Int) (keepOf (fun _ => true) 60) (hG7.by_ true)
                    have hT : cut ≤ m → holds (cutMoD (S true) m (cut : Int) (keepOf (fun _ => true) 0)) = sureAt (S true) (cut : Int) ∧ holds (cutMoD (S true) m (cut : Int) (keepOf (fun _ => true) 60)) = nowAt (S true) (cut : Int) := fun h => ⟨cutMo_none _ _ _ h _, cutMo_full _ _ _ 60 h (Nat.le_trans (List.length_filter_le _ _) (hlS true))⟩
                    have E0 : ∀ i, i < 4 → rdErr (cutMoD (S true) m (cut : Int) (keepOf (fun _ => true) 0)) ((i : Nat) : Int) = 0 := fun i hi => rdErr_ok _ i (hG7.live true) (by show i < (S true).n; rw [hG7.n true]; exact hi) (hG7.nb true i)
                    have E1 : ∀ i, i < 4 → rdErr (cutMoD (S true) m (cut : Int) (keepOf (fun _ => true) 60)) ((i : Nat) : Int) = 0 := fun i hi => rdErr_ok _ i (hG7.live true) (by show i < (S true).n; rw [hG7.n true]; exact hi) (hG7.nb true i)
                    clear cl cl8 hI8 hI9 hJ8
                    go_loopw [24] (fun i wx => ∃ u : Nat, u ≤ 4 ∧ i = .int .i64 (u : Nat) ∧ Below w9.heap.size w9 wx) (fun i _ => 4 - (intOf i).toNat)
                    case atStart => exact ⟨0, Nat.zero_le _, rfl, Below.refl _ _⟩
                    case round =>
                      rename World => wx
                      obtain ⟨u, hu, rfl, hbx⟩ := hrel
                      by_cases hu4 : u < 4
                      · have j0 : (u : Int) < 4 := by omega
                        have j1 : (0 : Int) ≤ (u : Int) := by omega
                        have hJa := hJ8b.next hD hbx
                        have hJb := (hJ9.next hD hbx)
                        have hGx := hG7.next hD (h79.trans (hbx.mono h79.size))
                        have hr1 := in_read hD hJa (u : Int) ⟨by omega, by omega⟩
                        obtain ⟨fA, hA⟩ : ∃ fA, fA = holds (cutMoD (S true) m (cut : Int) (keepOf (fun _ => true) 0)) u := ⟨_, rfl⟩
                        obtain ⟨fB, hB⟩ : ∃ fB, fB = holds (cutMoD (S true) m (cut : Int) (keepOf (fun _ => true) 60)) u := ⟨_, rfl⟩
                        have HA : Hid (fA = holds (cutMoD (S true) m (cut : Int) (keepOf (fun _ => true) 0)) u) := hA
                        have HB : Hid (fB = holds (cutMoD (S true) m (cut : Int) (keepOf (fun _ => true) 60)) u) := hB
                        have hAl : ∀ j, fA j < 256 := by rw [hA]; exact holds_lt _ hbyS u
                        have hBl : ∀ j, fB j < 256 := by rw [hB]; exact holds_lt _ hbyT u
                        rw [E0 u hu4, Int.toNat_natCast, ← hA] at hr1
                        clear hA hB
                        obtain ⟨fS, hS⟩ : ∃ fS, fS = sureS S cut (4 + u) := ⟨_, rfl⟩
                        obtain ⟨fW, hW⟩ : ∃ fW, fW = nowS S cut (4 + u) := ⟨_, rfl⟩
                        have eS : fS = sureAt (S true) (cut : Int) u := by rw [hS]; exact rowF_at _ true u hu4
                        have eW : fW = nowAt (S true) (cut : Int) u := by rw [hW]; exact rowF_at _ true u hu4
                        have HS : Hid (fS = sureAt (S true) (cut : Int) u ∧ fW = nowAt (S true) (cut : Int) u) := ⟨eS, eW⟩
                        have hSl : ∀ j, fS j < 256 := by rw [eS]; exact byt_sure _ _ (hG7.by_ true) u
                        have hWl : ∀ j, fW j < 256 := by rw [eW]; exact byt_now _ _ (hG7.by_ true) u
                        obtain ⟨AS, LS, CS, eU, hLS, hBS, hstS⟩ := (hGx.sure.at_ (4 + u) (by omega)).bytes
                        obtain ⟨AW, LW, CW, eWW, hLW, hBW, hstW⟩ := (hGx.now.at_ (4 + u) (by omega)).bytes
                        rw [← hS] at hBS hstS
                        rw [← hW] at hBW hstW
                        have hcS : CellAt wx gs (4 + u) (.slice AS LS CS) := ⟨hGx.sure.has.lt, by rw [show 4 + u = 4 + u by omega, hGx.sure.has.cell, cells8_get _ _ (by omega), eU]⟩
                        have hcW : CellAt wx gn (4 + u) (.slice AW LW CW) := ⟨hGx.now.has.lt, by rw [show 4 + u = 4 + u by omega, hGx.now.has.cell, cells8_get _ _ (by omega), eWW]⟩
                        clear hS hW eS eW eU eWW
                        by_cases hcm : cut ≤ m
                        · skip
                          have V1 : (strN fA 64 == strN (full fS LS) 64) = true := by rw [hstS, HS.out.1, HA.out, (hT hcm).1]; simp
                          have V2 : (strN fB 64 == strN (full fW LW) 64) = true := by rw [hstW, HS.out.2, HB.out, (hT hcm).2]; simp
                          have j2 : (cut : Int) ≤ (m : Int) := by omega
                          go_wp2_with (first
                            | ((go_at_call 20)
                               (have _t := hr1)
                               (refine hr1.mono ?_)
                               (rintro e wa ⟨hba, hIa, va, rfl, (⟨hv, _⟩ | ⟨_, hva⟩)⟩)
                               (case inl => exact absurd rfl hv)
                               (obtain ⟨ga, oa, na, rfl, _, _, hBa⟩ := hva.bytes)
                               (have hr2 := in_read hD (hJb.next hD hba) (u : Int) ⟨by omega, by omega⟩)
                               (rw [E1 u hu4, Int.toNat_natCast, ← HB.out] at hr2)
                               (clear hr1 _t hva))
                            | ((go_at_call 20)
                               (have _t := hr2)
                               (refine hr2.mono ?_)
                               (rintro e wb ⟨hbb, hIb, vb, rfl, (⟨hv, _⟩ | ⟨_, hvb⟩)⟩)
                               (case inl => exact absurd rfl hv)
                               (obtain ⟨gb, ob, nb, rfl, _, _, hBb⟩ := hvb.bytes)
                               (have hBa2 := hBa.below hbb (Nat.le_refl _))
                               (have hxb : Below wx.heap.size wx wb := hba.trans (hbb.mono hba.size))
                               (have cS := (hcS.trans' hxb))
                               (have hfu1 := full_any fS LS CS AS wb hLS (hBS.below hxb (Nat.le_refl _)))
                               (clear hr2 _t hvb hBa))
                            | ((go_at_call 32)
                               (have _t := hfu1)
                               (refine hfu1.mono ?_)
                               (rintro e wc ⟨rfl, hsc, hbc⟩)
                               (have hBa3 := hBa2.below hbc (Nat.le_refl _))
                               (have hBb3 := hBb.below hbc (Nat.le_refl _))
                               (have hxc : Below wx.heap.size wx wc := hxb.trans (hbc.mono hxb.size))
                               (have cW := (hcW.trans' hxc))
                               (have hfu2 := full_any fW LW CW AW wc hLW (hBW.below hxc (Nat.le_refl _)))
                               (have hsm1 := same_any na 64 hBa3 hsc.bytes hAl (full_lt _ _ hSl) (fun e => by cases e) (fun e => by cases e))
                               (rw [V1] at hsm1)
                               (clear hfu1 _t hBa2 hBb))
                            | ((go_at_call 22)
                               (have _t := hsm1)
                               (refine hsm1.mono ?_)
                               (rintro e wd ⟨rfl, hwd⟩)
                               (subst hwd)
                               (clear hsm1 _t))
                            | ((go_at_call 32)
                               (have _t := hfu2)
                               (refine hfu2.mono ?_)
                               (rintro e we ⟨rfl, hse, hbe⟩)
                               (have hBb4 := hBb3.below hbe (Nat.le_refl _))
                               (have hxe := hxc.trans (hbe.mono hxc.size))
                               (have hsm2 := same_any nb 64 hBb4 hse.bytes hBl (full_lt _ _ hWl) (fun e => by cases e) (fun e => by cases e))
                               (rw [V2] at hsm2)
                               (clear hfu2 _t hBb3))
                            | ((go_at_call 22)
                               (have _t := hsm2)
                               (refine hsm2.mono ?_)
                               (rintro e wf ⟨rfl, hwf⟩)
                               (subst hwf)
                               (clear hsm2 _t)))
                          go_roundw
                          case rel => exact ⟨u + 1, by omega, by go_num, hbx.trans (hxe.mono hbx.size)⟩
                          case measure => simp [intOf]; omega
                        · skip
                          have j2 : ¬ (cut : Int) ≤ (m : Int) := by omega
                          go_wp2_with (first
                            | ((go_at_call 20)
                               (have _t := hr1)
                               (refine hr1.mono ?_)
                               (rintro e wa ⟨hba, hIa, va, rfl, (⟨hv, _⟩ | ⟨_, hva⟩)⟩)
                               (case inl => exact absurd rfl hv)
                               (obtain ⟨ga, oa, na, rfl, _, _, hBa⟩ := hva.bytes)
                               (have hr2 := in_read hD (hJb.next hD hba) (u : Int) ⟨by omega, by omega⟩)
                               (rw [E1 u hu4, Int.toNat_natCast, ← HB.out] at hr2)
                               (clear hr1 _t hva))
                            | ((go_at_call 20)
                               (have _t := hr2)
                               (refine hr2.mono ?_)
                               (rintro e wb ⟨hbb, hIb, vb, rfl, (⟨hv, _⟩ | ⟨_, hvb⟩)⟩)
                               (case inl => exact absurd rfl hv)
                               (obtain ⟨gb, ob, nb, rfl, _, _, hBb⟩ := hvb.bytes)
                               (have hBa2 := hBa.below hbb (Nat.le_refl _))
                               (have hxb : Below wx.heap.size wx wb := hba.trans (hbb.mono hba.size))
                               (have cS := (hcS.trans' hxb))
                               (have hfu1 := full_any fS LS CS AS wb hLS (hBS.below hxb (Nat.le_refl _)))
                               (clear hr2 _t hvb hBa))
                            | ((go_at_call 32)
                               (have _t := hfu1)
                               (refine hfu1.mono ?_)
                               (rintro e wc ⟨rfl, hsc, hbc⟩)
                               (have hBa3 := hBa2.below hbc (Nat.le_refl _))
                               (have hBb3 := hBb.below hbc (Nat.le_refl _))
                               (have hxc : Below wx.heap.size wx wc := hxb.trans (hbc.mono hxb.size))
                               (have cW := (hcW.trans' hxc))
                               (have hfu2 := full_any fW LW CW AW wc hLW (hBW.below hxc (Nat.le_refl _)))
                               (have hsm1 := same_any na 64 hBa3 hsc.bytes hAl (full_lt _ _ hSl) (fun e => by cases e) (fun e => by cases e))
                               (obtain ⟨b1, hb1⟩ : ∃ b1, b1 = (strN fA 64 == strN (full fS LS) 64) := ⟨_, rfl⟩)
                               (rw [← hb1] at hsm1)
                               (clear hb1)
                               (clear hfu1 _t hBa2 hBb))
                            | ((go_at_call 22)
                               (have _t := hsm1)
                               (refine hsm1.mono ?_)
                               (rintro e wd ⟨rfl, hwd⟩)
                               (subst hwd)
                               (clear hsm1 _t))
                            | ((go_at_call 32)
                               (have _t := hfu2)
                               (refine hfu2.mono ?_)
                               (rintro e we ⟨rfl, hse, hbe⟩)
                               (have hBb4 := hBb3.below hbe (Nat.le_refl _))
                               (have hxe := hxc.trans (hbe.mono hxc.size))
                               (have hsm2 := same_any nb 64 hBb4 hse.bytes hBl (full_lt _ _ hWl) (fun e => by cases e) (fun e => by cases e))
                               (obtain ⟨b2, hb2⟩ : ∃ b2, b2 = (strN fB 64 == strN (full fW LW) 64) := ⟨_, rfl⟩)
                               (rw [← hb2] at hsm2)
                               (clear hb2)
                               (clear hfu2 _t hBb3))
                            | ((go_at_call 22)
                               (have _t := hsm2)
                               (refine hsm2.mono ?_)
                               (rintro e wf ⟨rfl, hwf⟩)
                               (subst hwf)
                               (clear hsm2 _t)))
                          go_roundw
                          case rel => exact ⟨u + 1, by omega, by go_num, hbx.trans (hxe.mono hbx.size)⟩
                          case measure => simp [intOf]; omega
                      · obtain rfl : u = 4 := by omega
                        have j0 : ¬ ((4 : Nat) : Int) < 4 := by omega
                        go_wp2
                        go_roundw
                        case rel => exact ⟨1 + 1, by omega, by go_num, h79.trans (hbx.mono h79.size)⟩
                        case measure => simp [intOf]
                · obtain rfl : r = 2 := by omega
                  have j0 : ¬ ((2 : Nat) : Int) < 2 := by omega
                  have hc3 := in_cutMo hD hM (hGy.tw.at_ false) (cut : Int) ka kL kC kb hcut64 (by omega) (by have := hlS false; omega) hk.max hk.le (hk.at_.below (hGy.tw.at_ false).below (Nat.le_refl _))
                  go_wp2_with (first
                    | ((go_at_call 29)
                       (refine hc3.mono ?_)
                       (rintro e w8 ⟨hb8, hI8, p8, c8, F8, rfl, hJ8, _, _⟩)
                       (have hmo3 := in_tells hD hJ8 (hM.moment w8 p8 _ c8 0 F8 hJ8.dev))
                       (clear hc3))
                    | ((go_at_call 38)
                       (refine hmo3.mono ?_)
                       (rintro e w9 ⟨rfl, hb9, hJ9⟩)
                       (clear hmo3)))
                  exact bodyPost_ret (results_tmp rfl _ _ _) rfl ⟨rfl, hJ9.below⟩
end Go.Proofs.Ytalcalecmklcoaa
