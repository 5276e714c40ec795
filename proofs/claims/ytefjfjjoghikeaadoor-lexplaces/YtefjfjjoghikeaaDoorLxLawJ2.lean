/- LexJoined, walked: two texts that are tokens. -/
import Derived.Test.YtefjfjjoghikeaaDoorLxLawJ
namespace Go.Proofs.YtefjfjjoghikeaaDoor
open Go.ChangeShapes Go.WideShapes Go.ChangeAt Go.RowKit
set_option linter.unusedVariables false

theorem Stands.lt {l : List UInt8} {lo : Nat} {ts : Toks} (h : Stands l lo ts) : ∀ t ∈ ts, t.2 < l.length := by
  induction ts generalizing lo with
  | nil => simp
  | cons t r ih =>
    obtain ⟨t, p⟩ := t
    obtain ⟨h1, h2, n, h3, h4⟩ := h
    intro u hu
    rcases List.mem_cons.1 hu with rfl | hu
    · exact h2
    · exact ih h4 u hu

/-- Three rows of tokens, each behind the other, while the second one's places are turned. -/
structure JInv (w w1 w2 wr : World) (vA vB vN : Value) (ts us ns : Toks) (f : Nat → Nat → Nat) (k : Nat) : Prop where
  below : Below w.heap.size w wr
  a : TokRow wr w.heap.size vA ts
  b : TokRow wr w1.heap.size vB (turned f k us)
  n : TokRow wr w2.heap.size vN ns
  ab : ∀ g, vA.ownBlock = some g → g < w1.heap.size
  bn : ∀ g, vB.ownBlock = some g → g < w2.heap.size
  o1 : w.heap.size ≤ w1.heap.size
  o2 : w1.heap.size ≤ w2.heap.size

theorem JInv.first {w w1 w2 w3 : World} {vA vB vN : Value} {ts us ns : Toks} {f : Nat → Nat → Nat} (b1 : Below w.heap.size w w1) (ra : TokRow w1 w.heap.size vA ts) (b2 : Below w1.heap.size w1 w2) (rb : TokRow w2 w1.heap.size vB us) (b3 : Below w2.heap.size w2 w3) (rn : TokRow w3 w2.heap.size vN ns) : JInv w w1 w2 w3 vA vB vN ts us ns f 0 :=
  ⟨below3 b1 b2 b3, (ra.below b2).below b3, by rw [turned_zero]; exact rb.below b3, rn, fun g hg => (row_lt ra hg).1, fun g hg => (row_lt rb hg).1, b1.size, b2.size⟩

theorem JInv.step {w w1 w2 wr : World} {vA vN : Value} {g L C : Nat} {ts us ns : Toks} {f : Nat → Nat → Nat} {k : Nat} (h : JInv w w1 w2 wr vA (.slice (some ⟨g, 0, none⟩) L C) vN ts us ns f k) (hk : k < us.length) {z : Int} (hz : z = (f k us[k].2 : Nat)) :
    JInv w w1 w2 (wr.setCell ⟨g, k * 4 + 3, none⟩ (.int .i64 z)) vA (.slice (some ⟨g, 0, none⟩) L C) vN ts us ns f (k + 1) := by
  subst hz
  have hgb := h.b.own_lt rfl
  have hg2 := h.bn g rfl
  have hk' : k < (turned f k us).length := by rw [turned_len]; exact hk
  refine ⟨h.below.setCell (p := ⟨g, k * 4 + 3, none⟩) (Nat.le_trans h.o1 hgb.1) _, h.a.other ?_, ?_, h.n.other ?_, h.ab, h.bn, h.o1, h.o2⟩
  · intro e
    have := h.ab g e
    omega
  · have := h.b.set rfl k (f k us[k].2) hk'
    rw [turned_step f k us hk] at this
    exact this
  · intro e
    have := (row_lt h.n e).2
    omega

theorem TokRow.fresh (W : World) : TokRow (W.alloc (.cells #[] 30)) W.heap.size (.slice (some ⟨W.heap.size, 0, none⟩) 0 0) [] :=
  ⟨rfl, .inr ⟨W.heap.size, 0, #[], rfl, Nat.le_refl _, Has.new _ _ _, Nat.le_refl _, by unfold maxLen; omega, rfl, rfl⟩⟩

theorem TokRow.belowB {w w' : World} {base B : Nat} {v : Value} {ts : Toks} (h : TokRow w base v ts) (hb : Below B w w') (hB : ∀ g, v.ownBlock = some g → g < B) : TokRow w' base v ts :=
  row_grown h (fun g o e ho => (hb.block g (hB g e)).trans ho)

set_option maxRecDepth 100000 in
set_option maxHeartbeats 2000000 in
theorem joined_ok (a b : List UInt8) (w : World) (h : a.length + b.length < 2000) {ts us : Toks} (ea : Scan a = .ok ts) (eb : Scan b = .ok us) (hn : ts.length + us.length ≤ 500) : Calls Tryd.prog 6 #[.string (bs a), .string (bs b)] w fun e w' => e = .returned (.bool true) ∧ Below w.heap.size w w' := by
  have sa := bs_size a
  have sb := bs_size b
  have hal := fun W => alive_c W
  have hx : bs a ++ ⟨#[10]⟩ ++ bs b = bs (a ++ 10 :: b) := by rw [show (⟨#[10]⟩ : ByteArray) = bs [10] from rfl, bs_cat, bs_cat]; simp
  have h2 : ((bs a).size : Int) ≤ 2000 := by omega
  have h3 : ((bs b).size : Int) ≤ (2000 : Int) - ((bs a).size : Int) := by omega
  have h0 : (0 : Int) ≤ ((bs a).size : Int) := by omega
  have hA := fun W => scan_ok_c W a (by unfold maxLen; omega) ea
  have hB := fun W => scan_ok_c W b (by unfold maxLen; omega) eb
  have en := Scan_joined ea eb (by omega) hn
  have hN := fun W => scan_ok_c W (a ++ 10 :: b) (by unfold maxLen; simp; omega) en
  rw [← hx] at hN
  have hpl := (Scan_stands eb).lt
  obtain ⟨M, hM⟩ : ∃ M, M = ts.length := ⟨_, rfl⟩
  obtain ⟨M2, hM2⟩ : ∃ M2, M2 = us.length := ⟨_, rfl⟩
  have hM3 : (ts ++ further (a.length + 1) us).length = M + M2 := by rw [List.length_append, further_len, hM, hM2]
  rw [← hM] at hA
  rw [← hM2] at hB
  rw [hM3] at hN
  have hm : M + M2 ≤ 500 := by omega
  have hf : ¬ ((bs a).size : Int) + ((bs b).size : Int) = 2000 := by omega
  have hg : ((M : Nat) : Int) + ((M2 : Nat) : Int) ≤ 500 := by omega
  have hf' : (((bs a).size : Int) + ((bs b).size : Int) == 2000) = false := by simp; omega
  have hg' : decide ((500 : Int) < ((M : Nat) : Int) + ((M2 : Nat) : Int)) = false := by rw [decide_eq_false_iff_not]; omega
  have HM : Hid (M2 = us.length) := hM2
  have HM1 : Hid (M = ts.length) := hM
  have HS : Hid ((bs a).size = a.length) := sa
  have HN : Hid ((ts ++ further (a.length + 1) us).length = M + M2) := hM3
  have hbl : b.length ≤ 2000 := by omega
  clear hx ea eb hM hM2 en sa sb hM3 hn
  go_enter Tryd.func6, Tryd.ntmps6
  go_wp2_with (first
    | (go_at_call 11; refine at_argL 0 (.string (bs a)) rfl ?_; refine (hA _).mono ?_; rintro e w1 ⟨A1, C1, rfl, hb1, hr1⟩)
    | (go_at_call 11; refine at_argL 0 (.string (bs b)) rfl ?_; refine (hB _).mono ?_; rintro e w2 ⟨A2, C2, rfl, hb2, hr2⟩)
    | (go_at_call 11; refine (hN _).mono ?_; rintro e w3 ⟨A3, C3, rfl, hb3, hr3⟩))
  have hI := JInv.first (f := fun _ p => p + (a.length + 1)) hb1 hr1 hb2 hr2 hb3 hr3
  clear hr1 hr2 hr3 hb1 hb2 hb3 hA hB hN
  go_loopw [14] (fun z wr => ∃ k : Nat, k ≤ M2 ∧ z = .int .i64 (k : Nat) ∧ JInv w w1 w2 wr (.slice A1 M C1) (.slice A2 M2 C2) (.slice A3 (M + M2) C3) ts us (ts ++ further (a.length + 1) us) (fun _ p => p + (a.length + 1)) k) (fun z _ => M2 - (intOf z).toNat)
  case atStart => exact ⟨0, Nat.zero_le _, rfl, hI⟩
  case round =>
    clear hI
    obtain ⟨k, hk, rfl, hI⟩ := hrel
    by_cases hlt : k < M2
    · have hlt' : k < us.length := by rw [← HM.out]; exact hlt
      have hlt2 : ((k : Nat) : Int) < ((M2 : Nat) : Int) := by omega
      have hkt : k < (turned (fun _ p => p + (a.length + 1)) k us).length := by rw [turned_len]; exact hlt'
      obtain ⟨g, C, e, h1, h4, h5, h6, ⟨cur, hH, _⟩, hc⟩ := hI.b.lies (by intro e; rw [e] at hkt; simp at hkt)
      injection e with e1 e2 e3
      subst e1 e3
      have c3 : wr.cell? ⟨g, k * 4 + 3, none⟩ = some (.int .i64 (us[k].2 : Nat)) := by
        have := hc k hkt 3 (by decide)
        rw [turned_get _ _ _ _ hlt', if_neg (by omega)] at this
        exact this
      have f3 := hH.free (k * 4 + 3)
      have hp := hpl us[k] (List.getElem_mem hlt')
      have hstep := fun z hz => hI.step (z := z) hlt' hz
      generalize us[k].2 = p at c3 hp hstep
      have hp2 : p ≤ 2000 := by omega
      have HE : Hid (((p : Nat) : Int) + ((bs a).size : Int) + 1 = ((p + (a.length + 1) : Nat) : Int)) := by show _ = _; rw [HS.out]; omega
      clear hc hH hI
      go_wp2
      go_roundw
      case rel => exact ⟨k + 1, by omega, by go_num, hstep _ HE.out⟩
      case measure => simp [intOf]; omega
    · have hk2 : k = M2 := by omega
      subst hk2
      have hlt2 : ¬ ((k : Nat) : Int) < ((k : Nat) : Int) := by omega
      obtain ⟨hbw, hra, hrb, hrn, hab, hbn, o1, o2⟩ := hI
      rw [HM.out, turned_further, ← HM.out] at hrb
      have hF := TokRow.fresh wr
      have bF : Below wr.heap.size wr (wr.alloc (.cells #[] 30)) := (Below.refl _ _).alloc (Nat.le_refl _) _
      have rA := hra.below bF
      have rB := hrb.below bF
      have rN := hrn.below bF
      have HL : Hid (ts.length + (further (a.length + 1) us).length ≤ 500) := by show _ ≤ _; rw [further_len, ← HM.out, ← HM1.out]; exact hm
      obtain ⟨W0, hW0⟩ : ∃ W0, W0 = wr.alloc (.cells #[] 30) := ⟨_, rfl⟩
      rw [← hW0] at hF bF rA rB rN
      have HW : Hid (W0 = wr.alloc (.cells #[] 30)) := hW0
      have la : ∀ g, (Value.slice A1 M C1).ownBlock = some g → g < wr.heap.size := fun g hg => (row_lt hra hg).1
      have lb : ∀ g, (Value.slice A2 k C2).ownBlock = some g → g < wr.heap.size := fun g hg => (row_lt hrb hg).1
      have ln : ∀ g, (Value.slice A3 (M + k) C3).ownBlock = some g → g < wr.heap.size := fun g hg => (row_lt hrn hg).1
      clear hra hrb hrn hab hbn hW0
      go_wp2_with (first
        | (refine at_dstL 92 rfl ?_
           refine wpList_is_w (some 92) (.slice (some ⟨wr.heap.size, 0, none⟩) 0 0) W0 rfl (by rfl) (by rw [HW.out]; kernel_rfl) ?_)
        | (refine at_dstL 94 rfl ?_
           refine wpList_append_toks rfl _ _ rfl wr.heap.size _ [] rfl hF _ ts _ rfl rA (by have := HL.out; simp; omega) bF.size ?_
           intro v1 W1 r1 d1)
        | (refine at_dstL 96 rfl ?_
           refine wpList_append_toks rfl _ _ rfl wr.heap.size _ _ rfl r1 _ (further (a.length + 1) us) _ rfl (rB.belowB d1 lb) (by have := HL.out; simp; omega) (by have := bF.size; have := d1.size; omega) ?_
           intro v2 W2 r2 d2)
        | (go_at_call 13
           refine (same_c _ _ _ (ts ++ further (a.length + 1) us) ((rN.belowB d1 ln).belowB d2 ln).at_ r2.at_ (by have := HL.out; rw [List.length_append]; omega)).mono ?_
           rintro e w5 ⟨rfl, hb5⟩)
        | (go_at_call 8; refine (hal _).mono ?_; rintro e w6 ⟨rfl, hb6⟩))
      go_ret
      have s1 := bF.size
      have s2 := d1.size
      have s3 := d2.size
      have s0 := hbw.size
      have e1 := (hbw.trans (bF.mono s0)).trans ((d1.mono s0).trans (d2.mono s0))
      exact ⟨rfl, below2 (below2 e1 hb5) hb6⟩

theorem joined_walk (a b : List UInt8) (w : World) (ha : a.length ≤ maxLen) (hb : b.length ≤ maxLen) : Calls Tryd.prog 6 #[.string (bs a), .string (bs b)] w fun e w' => e = .returned (.bool true) ∧ Below w.heap.size w w' := by
  by_cases h : 2000 < a.length ∨ 2000 < a.length + b.length
  · exact joined_long a b w ha hb h
  · have h : a.length + b.length ≤ 2000 := by omega
    cases ea : Scan a with
    | error e => obtain ⟨e, o⟩ := e; exact joined_errA a b w h ea
    | ok ts =>
      cases eb : Scan b with
      | error e => obtain ⟨e, o⟩ := e; exact joined_errB a b w h ea eb
      | ok us =>
        by_cases h2 : a.length + b.length = 2000
        · exact joined_full a b w h2 ea eb
        · by_cases h5 : 500 < ts.length + us.length
          · exact joined_many a b w (by omega) ea eb h5
          · exact joined_ok a b w (by omega) ea eb (by omega)
end Go.Proofs.YtefjfjjoghikeaaDoor
