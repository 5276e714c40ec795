/- cache: the laws' made: three devices, a cache over them. -/
import Derived.Test.YtancebpjfbbcaaaCcNew
namespace Go.Proofs.Ytancebpjfbbcaaa
open Go.ChangeShapes Go.WideShapes Go.ChangeAt Go.RowKit Go.MapKept
set_option linter.unusedVariables false

variable {D : DevRep} {B : Nat} {w0 w w' wr w1 w2 w3 : World} {P : Nat → Nat} {C : Nat → Nat} {F : Nat → Nat → Prop} {v v' : Value} {k p c0 : Nat} {F0 : Nat → Prop}

def prs (P : Nat → Nat) (k : Nat) : List (Option Addr) := (List.range k).map fun i => some ⟨P i, 0, none⟩

/-- Some devices are made, their pointers stand in a row. -/
structure Mk (D : DevRep) (B : Nat) (w0 wr : World) (k : Nat) (P : Nat → Nat) (C : Nat → Nat) (F : Nat → Nat → Prop) (v : Value) : Prop where
  dev : ∀ i, i < k → In D B w0 wr (P i) (fresh 6) (C i) 0 (F i)
  ap : ∀ i j, i < k → j < k → i ≠ j → ∀ q, (F i q ∨ q = C i) → ¬ (F j q ∨ q = C j)
  row : PRow wr B v (prs P k)
  out : ∀ g, v.ownBlock = some g → ∀ i, i < k → ¬ (F i g ∨ g = C i)
  below : Below B w0 wr
  sz : B ≤ wr.heap.size

theorem prs_len (P : Nat → Nat) (k : Nat) : (prs P k).length = k := by simp [prs]

theorem prs_up (P : Nat → Nat) (k p : Nat) : prs (upN P k p) (k + 1) = prs P k ++ [some ⟨p, 0, none⟩] := by
  unfold prs
  rw [List.range_succ, List.map_append]
  congr 1
  · refine List.map_congr_left (fun i hi => ?_)
    rw [upN_ne _ _ (by have := List.mem_range.1 hi; omega)]
  · simp [upN_same]

theorem Mk.next (hD : DevOk D) (h : Mk D B w0 wr k P C F v) (hb : Below wr.heap.size wr w') : Mk D B w0 w' k P C F v :=
  ⟨fun i hi => (h.dev i hi).next hD hb, h.ap, own_keptC h.row (fun g e => hb.block g (h.row.lt g e).2), h.out, h.below.trans (hb.mono h.sz), Nat.le_trans h.sz hb.size⟩

theorem Mk.step (hD : DevOk D) (h : Mk D B w0 wr k P C F v) (hn : In D B w0 w1 p (fresh 6) c0 0 F0) (hb : Below wr.heap.size wr w1) (hF : ∀ q, F0 q → wr.heap.size ≤ q) (hc : wr.heap.size ≤ c0) (hb2 : Below w1.heap.size w1 w2) (hg : w2.grownBy w3 v.ownBlock) (hr : w3.ownsRow B 42 1 v' (k + 1) ((prs P k).map Value.pointer ++ [ptr p])) (hw : v'.ownBlock = v.ownBlock ∨ v'.ownBlock = some w2.heap.size) : Mk D B w0 w3 (k + 1) (upN P k p) (upN C k c0) (upN F k F0) v' := by
  have hb12 : Below wr.heap.size wr w2 := hb.trans (hb2.mono hb.size)
  have h2 := h.next hD hb12
  have hn2 := hn.next hD hb2
  have ho : Only (fun q => v.ownBlock = some q) w2 w3 := ⟨hg.os, hg.tape, hg.output, hg.size, fun k hk hn => hg.block k hk (fun e => hn e.symm)⟩
  have hvlt : ∀ q, v.ownBlock = some q → q < wr.heap.size ∧ B ≤ q := fun q e => ⟨(h.row.lt q e).2, (h.row.lt q e).1⟩
  have hlt : ∀ i, i < k → ∀ q, (F i q ∨ q = C i) → q < wr.heap.size := fun i hi q hq => hq.elim ((h.dev i hi).lt hD q) (fun e => e ▸ (h.dev i hi).clt hD)
  have hnew : ∀ q, (F0 q ∨ q = c0) → wr.heap.size ≤ q := fun q hq => hq.elim (hF q) (fun e => e ▸ hc)
  have hnl : ∀ q, (F0 q ∨ q = c0) → q < w2.heap.size := fun q hq => hq.elim (hn2.lt hD q) (fun e => e ▸ hn2.clt hD)
  refine ⟨fun i hi => ?_, fun i j hi hj hij q hq => ?_, ?_, fun g e i hi => ?_, h2.below.trans (ho.below (fun q e => (hvlt q e).2) h2.sz), Nat.le_trans h2.sz ho.size⟩
  · by_cases e : i = k
    · subst e
      rw [upN_same, upN_same, upN_same]
      exact hn2.only hD ho (fun q hq e => absurd (hvlt q e).1 (Nat.not_lt.2 (hF q hq))) (fun e => absurd (hvlt _ e).1 (Nat.not_lt.2 hc)) (fun q e => (hvlt q e).2)
    · rw [upN_ne _ _ e, upN_ne _ _ e, upN_ne _ _ e]
      have hik : i < k := by omega
      exact (h2.dev i hik).only hD ho (fun q hq e => h.out q e i hik (.inl hq)) (fun e => h.out _ e i hik (.inr rfl)) (fun q e => (hvlt q e).2)
  · by_cases ei : i = k
    · subst ei
      rw [upN_same, upN_same] at hq
      rw [upN_ne _ _ (fun e => hij e.symm), upN_ne _ _ (fun e => hij e.symm)]
      intro hq2
      exact absurd (hlt j (by omega) q hq2) (Nat.not_lt.2 (hnew q hq))
    · rw [upN_ne _ _ ei, upN_ne _ _ ei] at hq
      by_cases ej : j = k
      · subst ej
        rw [upN_same, upN_same]
        intro hq2
        exact absurd (hlt i (by omega) q hq) (Nat.not_lt.2 (hnew q hq2))
      · rw [upN_ne _ _ ej, upN_ne _ _ ej]
        exact h.ap i j (by omega) (by omega) hij q hq
  · show World.ownsRow _ _ _ _ _ _ _
    rw [prs_up, List.length_append, prs_len, List.map_append]
    exact hr
  · by_cases ei : i = k
    · subst ei
      rw [upN_same, upN_same]
      intro hq
      rcases hw with h1 | h1
      · exact absurd (hvlt g (h1 ▸ e)).1 (Nat.not_lt.2 (hnew g hq))
      · rw [h1] at e
        cases e
        exact absurd (hnl _ hq) (Nat.lt_irrefl _)
    · rw [upN_ne _ _ ei, upN_ne _ _ ei]
      intro hq
      rcases hw with h1 | h1
      · exact h.out g (h1 ▸ e) i (by omega) hq
      · rw [h1] at e
        cases e
        have := hlt i (by omega) _ hq
        have := hb12.size
        omega

theorem Mk.zero (w : World) : Mk D w.heap.size w w 0 (fun _ => 0) (fun _ => 0) (fun _ _ => False) (.slice none 0 0) :=
  ⟨fun i hi => absurd hi (Nat.not_lt_zero _), fun i j hi => absurd hi (Nat.not_lt_zero _), ⟨rfl, .inl ⟨rfl, rfl⟩⟩, fun g e => (by cases e), Below.refl _ _, Nat.le_refl _⟩

/-- What made gives: the list of devices at gl, the cache. -/
def MadeR (D : DevRep) (w : World) (e : Ending) (w' : World) : Prop := ∃ gl cl cb P C F dv GK, e = .returned (.tuple #[.slice (some ⟨gl, 0, none⟩) 3 cl, ptr cb]) ∧ CI D w.heap.size w w' cb P (fun _ => fresh 6) C (fun _ => 0) F dv gnil (.slice none 0 0) [] (fun _ => False) GK ∧ PRow w' w.heap.size (.slice (some ⟨gl, 0, none⟩) 3 cl) (prs P 3) ∧ ¬ GK gl ∧ ¬ FamB C F gl ∧ Below w.heap.size w w'

theorem made_fin (hD : DevOk D) (h : Mk D w.heap.size w wr 3 P C F v) {e : Ending} (hn : NewR wr (prs P 3) e w') : ∃ gl cl cb dv GK, v = .slice (some ⟨gl, 0, none⟩) 3 cl ∧ e = .returned (.tuple #[ptr cb, .int .i64 0]) ∧ CI D w.heap.size w w' cb P (fun _ => fresh 6) C (fun _ => 0) F dv gnil (.slice none 0 0) [] (fun _ => False) GK ∧ PRow w' w.heap.size (.slice (some ⟨gl, 0, none⟩) 3 cl) (prs P 3) ∧ ¬ GK gl ∧ ¬ FamB C F gl ∧ Below w.heap.size w w' := by
  obtain ⟨hb, hif⟩ := hn
  rw [if_pos ⟨by rw [prs_len]; decide, by rw [prs_len]; decide, by simp [prs]⟩] at hif
  obtain ⟨cb, dv, rfl, hH, hcb, hdv⟩ := hif
  have h' := h.next hD hb
  obtain ⟨a, c, rfl, hnil, hc⟩ := h.row.at_
  obtain ⟨gl, rfl⟩ : ∃ gl, a = some ⟨gl, 0, none⟩ := by
    obtain ⟨g, e, _⟩ := hc 0 (some ⟨P 0, 0, none⟩) rfl
    exact ⟨g, e⟩
  rw [prs_len] at h' ⊢
  have hgl : gl < wr.heap.size := (h.row.lt gl rfl).2
  refine ⟨gl, c, cb, dv, fun k => k = cb ∨ dv.ownBlock = some k, rfl, rfl, ⟨⟨h'.dev, fun i hi => rfl, h'.ap⟩, ⟨hH, ?_, Grp.nil _ _, ⟨rfl, .inl ⟨rfl, rfl⟩⟩, (fun g hg => by cases hg), .inl rfl, fun g e => .inr e, (fun g e => by cases e), fun k hk => hk.elim, ?_, ?_⟩, ?_, ?_⟩, h'.row, ?_, ?_, h'.below⟩
  · have h3 := own_low hdv (Nat.zero_le _)
    rw [prs_len] at h3
    exact h3
  · rintro k (hk | rfl | hk)
    · exact hk.elim
    · exact hH.lt
    · exact (hdv.lt k hk).2
  · intro g hg r hr
    rcases List.mem_cons.1 hg with rfl | hg
    · cases hr
    · cases hg
  · rintro k (hk | rfl | hk) ⟨i, hi, hf⟩
    · exact hk.elim
    · exact absurd (hf.elim ((h.dev i hi).lt hD _) (fun e => e ▸ (h.dev i hi).clt hD)) (Nat.not_lt.2 hcb)
    · exact absurd (hf.elim ((h.dev i hi).lt hD _) (fun e => e ▸ (h.dev i hi).clt hD)) (Nat.not_lt.2 (hdv.lt k hk).1)
  · rintro k (hk | rfl | hk)
    · exact hk.elim
    · exact Nat.le_trans h.sz hcb
    · exact Nat.le_trans h.sz (hdv.lt k hk).1
  · rintro (rfl | hk)
    · omega
    · have := (hdv.lt gl hk).1
      omega
  · rintro ⟨i, hi, hf⟩
    exact h.out gl rfl i hi hf

set_option maxRecDepth 100000 in
set_option maxHeartbeats 2000000 in
theorem made_c (hD : DevOk D) (w : World) : Calls Try.prog 7 #[] w (MadeR D w) := by
  have HM0 := hidC (Mk.zero (D := D) w)
  have HNEW := hidC (fun (w1 : World) (hb : Below w.heap.size w w1) (hs : w.heap.size ≤ w1.heap.size) => in_new hD 6 (by decide) (by decide) hb hs)
  go_enter Try.func7, Try.ntmps7
  go_wp2
  go_loopw [2, 3] (fun lv iv wr => ∃ k : Nat, k ≤ 3 ∧ iv = .int .i64 (k : Nat) ∧ ∃ P C F, Mk D w.heap.size w wr k P C F lv)
    (fun lv iv _ => 3 - (intOf iv).toNat)
  case atStart => exact ⟨0, by omega, rfl, _, _, _, HM0.out⟩
  case round =>
    obtain ⟨k, hk, rfl, P, C, F, hM⟩ := hrel
    by_cases hlt : k < 3
    · have i0 : (k : Int) < 3 := by omega
      obtain ⟨aL, cL, hlv, _, _⟩ := hM.row.at_
      have HLV := hidC hlv
      have HN1 := hidC (HNEW.out wr hM.below hM.sz)
      have HM := hidC hM
      have HLT := hidC hlt
      have HSTEP := hidC (fun (w1 : World) p c0 F0 (hb : Below wr.heap.size wr w1) (hn : In D w.heap.size w w1 p (fresh 6) c0 0 F0) (hF : ∀ q, F0 q → wr.heap.size ≤ q) (hc : wr.heap.size ≤ c0) => show ∃ A' C' w3, (Builtin.append_ #[23, 23] 23 #[u2, .slice (some ⟨w1.heap.size, 0, none⟩) 1 1]).run Try.prog (w1.alloc (.cells #[ptr p] 42)) = .ok (.slice A' (k + 1) C') w3 ∧ Mk D w.heap.size w w3 (k + 1) (upN P k p) (upN C k c0) (upN F k F0) (.slice A' (k + 1) C') from by
        have hb2 : Below w1.heap.size w1 (w1.alloc (.cells #[ptr p] 42)) := (Below.refl _ _).alloc (Nat.le_refl _) _
        have h2 := hM.next hD (hb.trans (hb2.mono hb.size))
        have hr2 := h2.row
        obtain ⟨A', C', w3, h3, h4, h5, h6⟩ := append_oneC kPdC (ty := 23) (w1.alloc (.cells #[ptr p] 42)) w.heap.size _ _ _ hr2 h2.sz (by rw [prs_len]; omega) [ptr p] rfl (fun u hu => by rw [List.mem_singleton] at hu; subst hu; rfl) w1.heap.size (Has.new w1 _ _)
        rw [prs_len] at h3 h4 h6
        exact ⟨A', C', w3, h3, hM.step hD hn hb hF hc hb2 h5 h4 h6⟩)
      rw [prs_len] at hlv HLV
      clear hM
      have HZ6 := hidC (show ((6 : Nat) : Int) = 6 from rfl)
      go_wp2_with (first
        | ((go_at_call 40)
           (refine HN1.out.mono ?_)
           (rintro e w1 ⟨p, c0, F0, rfl, hn, hb1, hF0, hc0⟩)
           (obtain ⟨A', C', w3, hr3, hM3⟩ := HSTEP.out w1 p c0 F0 hb1 hn hF0 hc0)
           (have HR3 := hidC hr3)
           (have HM3 := hidC hM3)
           (clear hn hb1 hF0 hc0 hr3 hM3 hlv))
        | ((with_reducible refine at_dstC 19 rfl ?_)
           (refine wpList_is_w (some 19) (.slice A' (k + 1) C') w3 rfl (by rfl) (run_app_isC _ _ rfl rfl rfl HR3.out) ?_)))
      go_roundw
      case rel => exact ⟨k + 1, HLT.out, by go_num, _, _, _, HM3.out⟩
      case measure => have := HLT.out; simp [intOf]; omega
    · obtain rfl : k = 3 := by omega
      have HNW := hidC (ccnew_c hM.row (by rw [prs_len]; decide))
      have HFN := hidC (fun e w' (hn : NewR wr (prs P 3) e w') => made_fin hD hM hn)
      clear hM
      go_wp2_with (first
        | ((go_at_call 41)
           (refine HNW.out.mono ?_)
           (rintro e w1 hn)
           (obtain ⟨gl, cl, cb, dv, GK, hv, rfl, hCI, hrow, hg1, hg2, hb⟩ := HFN.out e w1 hn)
           (have HV := hidC hv)
           (have HRES := hidC (And.intro hCI (And.intro hrow (And.intro hg1 (And.intro hg2 hb)))))
           (clear hn hv hCI hrow hg1 hg2 hb)))
      go_ret2
      exact ⟨gl, cl, cb, P, C, F, dv, GK, by rw [HV.out]; rfl, HRES.out.1, HRES.out.2.1, HRES.out.2.2.1, HRES.out.2.2.2.1, HRES.out.2.2.2.2⟩
end Go.Proofs.Ytancebpjfbbcaaa
