/- aes: eachColumn, by what is done to a column. -/
import Derived.Test.YtcnlegnfecpdnaaAesTab
import Derived.Laws.CopyOwn
import Derived.Deep.RegionHeld3
namespace Go.Proofs.Ytcnlegnfecpdnaa
open Go.ChangeShapes Go.WideShapes Go.ChangeAt Go.RowKit

def colS (G : (Nat → Nat) → Nat → Nat) (f : Nat → Nat) (j : Nat) : Nat := G (fun r => f (4 * (j / 4) + r)) (j % 4)

theorem range_of_has {w : World} {g t n : Nat} {k : IntKind} {f : Nat → Nat} (h : Has w g t (cellsN k n f)) (o m : Nat) (hm : o + m ≤ n) : w.rangeAt g o (cellsN k m fun r => f (o + r)).toList := by
  intro j v hv
  rw [Array.getElem?_toList] at hv
  by_cases hj : j < m
  · rw [cellsN_get _ _ _ _ hj] at hv
    rw [h.num (o + j) (by omega)]
    exact hv
  · rw [show (cellsN k m fun r => f (o + r))[j]? = none by simp [cellsN]; omega] at hv
    cases hv

/-- One copy, as a step of a region that draws its order. -/
theorem step_copy_row {ops : Array Oper} {o : Oper} {a : Act} {w : World} {C : Act → World → Prop} {Q : Exit → Act → World → Prop} {E : Prop} (hgd : o.guard = none) (d s : Operand) (dT sT : TypeId)
    (ho : o.op = .call { callee := .builtin .copy, args := #[d, s], argTypes := #[dT, sT] }) (elem : TypeId) (hu : Try.prog.underlying dT = some (.slice elem)) (hsz : (Try.prog.info? elem).map (·.size) = some 1)
    (g off dLen dCap : Nat) (ad : Addr) (sLen sCap : Nat) (hd : a.eval d = .slice (some ⟨g, off, none⟩) dLen dCap) (hs : a.eval s = .slice (some ad) sLen sCap)
    (cur : Array Value) (t : TypeId) (hg : Has w g t cur) (cs : List Value) (hn : cs.length = Nat.min sLen dLen)
    (hsrc : ∀ j v, cs[j]? = some v → w.cell? (ad.add j) = some v) (hfit : off + cs.length ≤ cur.size) (h1 : ∀ v ∈ cs, v.oneCell' = true)
    (h : ∀ w', w' = w.setRow g (cur.toList.take off ++ (cs ++ cur.toList.drop (off + cs.length))).toArray → C (a.put o.dst (goInt cs.length)) w') :
    if Region.wanted o (yielded ops a.tmps) = true then Oper.wp Try.prog o a w C Q else E := by
  have hw : Region.wanted o (yielded ops a.tmps) = true := by simp [Region.wanted, hgd]
  rw [if_pos hw]
  have hrun := run_copy_row (P := Try.prog) w dT sT o.type elem g off dLen dCap ad sLen sCap cur t cs hu hsz hg hn hsrc hfit h1
  unfold Oper.wp
  simp [execOp, ho, resolve, invoke, builtin, hd, hs, hrun, Result.andThen]
  exact h _ rfl

/-- m cells over the row from o on. -/
theorem cellsN_splice (k : IntKind) (n m o : Nat) (f g : Nat → Nat) (h : o + m ≤ n) :
    ((cellsN k n f).toList.take o ++ ((cellsN k m g).toList ++ (cellsN k n f).toList.drop (o + (cellsN k m g).toList.length))).toArray = cellsN k n (fun j => if j < o then f j else if j < o + m then g (j - o) else f j) := by
  apply Array.ext_getElem?
  intro j
  have hl : (cellsN k n f).toList.length = n := by simp [cellsN]
  have hm : (cellsN k m g).toList.length = m := by simp [cellsN]
  have hold : ∀ i, (cellsN k n f).toList[i]? = if i < n then some (.int k (f i : Nat)) else none := fun i => by
    rw [Array.getElem?_toList]
    split
    · rw [cellsN_get _ _ _ _ (by assumption)]
    · simp [cellsN]; omega
  have hnew : ∀ i, i < m → (cellsN k m g).toList[i]? = some (.int k (g i : Nat)) := fun i hi => by rw [Array.getElem?_toList, cellsN_get _ _ _ _ hi]
  rw [List.getElem?_toArray, hm]
  by_cases hj : j < n
  · rw [cellsN_get _ _ _ _ hj]
    by_cases h1 : j < o
    · rw [if_pos h1, List.getElem?_append_left (by simp [hl]; omega), List.getElem?_take_of_lt h1, hold, if_pos hj]
    · rw [if_neg h1, List.getElem?_append_right (by simp [hl]; omega)]
      rw [show (List.take o (cellsN k n f).toList).length = o by simp [hl]; omega]
      by_cases h2 : j < o + m
      · rw [if_pos h2, List.getElem?_append_left (by rw [hm]; omega), hnew _ (by omega)]
      · rw [if_neg h2, List.getElem?_append_right (by rw [hm]; omega), List.getElem?_drop, hold, hm, if_pos (by omega), show o + m + (j - o - m) = j by omega]
  · rw [show (cellsN k n (fun j => if j < o then f j else if j < o + m then g (j - o) else f j))[j]? = none by simp [cellsN]; omega]
    simp [hl, hm]
    omega

theorem oneCells (k : IntKind) (n : Nat) (f : Nat → Nat) : ∀ v ∈ (cellsN k n f).toList, v.oneCell' = true := by
  intro v hv
  simp only [cellsN, List.mem_map] at hv
  obtain ⟨j, _, rfl⟩ := hv
  rfl

theorem col_next (G : (Nat → Nat) → Nat → Nat) (f : Nat → Nat) (c : Nat) :
    cellsN .u8 16 (fun j => if j < 4 * c then upTo f (colS G f) (4 * c) j else if j < 4 * c + 4 then G (fun r => f (4 * c + r)) (j - 4 * c) else upTo f (colS G f) (4 * c) j) = cellsN .u8 16 (upTo f (colS G f) (4 * (c + 1))) := by
  refine cellsN_congr _ _ _ _ (fun j hj => ?_)
  by_cases h1 : j < 4 * c
  · simp only [if_pos h1, upTo, if_pos (show j < 4 * (c + 1) by omega)]
  · rw [if_neg h1]
    by_cases h2 : j < 4 * c + 4
    · rw [if_pos h2]
      simp only [upTo, if_pos (show j < 4 * (c + 1) by omega), colS]
      rw [show j / 4 = c by omega, show j % 4 = j - 4 * c by omega]
    · rw [if_neg h2]
      simp only [upTo, if_neg h1, if_neg (show ¬ j < 4 * (c + 1) by omega)]

set_option maxRecDepth 100000 in
theorem each_mix (f : Nat → Nat) (w : World) (hf : ∀ j, j < 16 → f j < 256) :
    Calls Try.prog 33 #[.agg (cellsN .u8 16 f), .func (.func 34) #[] #[]] w fun e w' => e = .returned (.agg (cellsN .u8 16 (colS mixN f))) ∧ Below w.heap.size w w' := by
  go_enter Try.func33, Try.ntmps33
  go_wp2
  go_loopw [5] (fun i wr => ∃ c : Nat, c ≤ 4 ∧ i = .int .i64 ((4 * c : Nat) : Int) ∧ Has wr w.heap.size 23 (cellsN .u8 16 (upTo f (colS mixN f) (4 * c))) ∧ Has wr (w.heap.size + 1) 23 (cellsN .u8 16 fun _ => 0) ∧ Below w.heap.size w wr)
    (fun i _ => 16 - (intOf i).toNat)
  case atStart => exact ⟨0, Nat.zero_le _, rfl, by rw [show 4 * 0 = 0 from rfl, upTo_zero]; exact (Has.new w _ _).alloc _, Has.new_at (by simp), two_below _ _ _⟩
  case round =>
    obtain ⟨c, hk, rfl, hS, hR, hbel⟩ := hrel
    by_cases hlt : c < 4
    · have hcol := range_of_has hS (4 * c) 4 (by omega)
      rw [show (cellsN .u8 4 fun r => upTo f (colS mixN f) (4 * c) (4 * c + r)) = cellsN .u8 4 (fun r => f (4 * c + r)) from cellsN_congr _ _ _ _ (fun r _ => by simp only [upTo, if_neg (show ¬ 4 * c + r < 4 * c by omega)])] at hcol
      have hcall := fun w => mix_any (fun r => f (4 * c + r)) w (fun r hr => hf _ (by omega))
      have HN : Hid (cellsN .u8 16 (fun j => if j < 4 * c then upTo f (colS mixN f) (4 * c) j else if j < 4 * c + 4 then mixN (fun r => f (4 * c + r)) (j - 4 * c) else upTo f (colS mixN f) (4 * c) j) = cellsN .u8 16 (upTo f (colS mixN f) (4 * (c + 1)))) := col_next mixN f c
      obtain ⟨F1, hF1⟩ : ∃ F1, F1 = upTo f (colS mixN f) (4 * c) := ⟨_, rfl⟩
      rw [← hF1] at hS HN
      obtain ⟨col, hcl⟩ : ∃ col, col = cellsN .u8 4 (fun r => f (4 * c + r)) := ⟨_, rfl⟩
      have hcs : col.size = 4 := by rw [hcl, cellsN_size]
      obtain ⟨D, hD⟩ : ∃ D, D = mixN (fun r => f (4 * c + r)) := ⟨_, rfl⟩
      rw [← hcl] at hcol
      rw [← hD] at HN
      simp only [← hcl, ← hD] at hcall
      clear hF1 hcl hD
      obtain ⟨i, hi⟩ : ∃ i, i = 4 * c := ⟨_, rfl⟩
      rw [← hi] at hcol HN
      rw [show ((4 * c : Nat) : Int) = (i : Int) by rw [hi]]
      have hi16 : i ≤ 12 := by omega
      have HI : Hid (i = 4 * c) := hi
      clear hi
      have i0 : (0 : Int) ≤ (i : Int) := by omega
      have i1 : (i : Int) ≤ 12 := by omega
      have i2 : (i : Int) ≤ (i : Int) + 4 := by omega
      have i3 : (i : Int) + 4 ≤ 16 := by omega
      have i4 : (i : Int) ≤ 16 := by omega
      have i5 : ¬ 16 = i := by omega
      have hat : (Instr.arrayAt 58 (.slice (some ⟨w.heap.size, i, none⟩) 4 (16 - i))).run Try.prog wr = .ok (.pointer (some ⟨w.heap.size, i, none⟩)) wr := by simp [Instr.arrayAt, run_underlying Try.underlying58]
      go_wp2_with (first
        | (refine wpList_load_mid rfl 58 _ rfl w.heap.size i rfl col.toList _ hcol Try.underlying58 rfl (by rw [Array.length_toList, hcs]; exact Try.size58) ?_; rw [Array.toArray_toList])
        | (go_at_call 34; refine (hcall _).mono ?_; rintro e w1 ⟨rfl, hb1⟩; have hn1 : Has (w1.alloc (.cells (cellsN .u8 4 fun _ => 0) 58)) w1.heap.size 58 (cellsN .u8 4 fun _ => 0) := Has.new _ _ _)
        | (refine wpList_store_rowG rfl 58 _ _ rfl w1.heap.size (cellsN .u8 4 D) rfl rfl 58 _ hn1 (by rw [cellsN_size]; exact Try.size58) (by simp [cellsN_size]) (cellsN_one _ _ _) ?_
           intro w2 hw2
           have hS2 : Has w2 w.heap.size 23 (cellsN .u8 16 F1) := by rw [hw2]; exact ((hS.below hb1 hS.lt).alloc _).setRow_other (by have := hS.lt; have := hb1.size; omega) _
           have hR2 : Has w2 (w.heap.size + 1) 23 (cellsN .u8 16 fun _ => 0) := by rw [hw2]; exact ((hR.below hb1 hR.lt).alloc _).setRow_other (by have := hR.lt; have := hb1.size; omega) _
           have hD2 : Has w2 w1.heap.size 58 (cellsN .u8 4 D) := by rw [hw2]; exact hn1.setRow _
           have hb2 : Below w.heap.size w w2 := by rw [hw2]; exact below_setRow ((hbel.trans (hb1.mono hbel.size)).alloc (Nat.le_trans hbel.size hb1.size) _) (Nat.le_trans hbel.size hb1.size) _
           have HL : Hid (w.heap.size < w1.heap.size) := Nat.lt_of_lt_of_le hS.lt hb1.size
           clear hw2 hn1 hb1 hS hR hbel hat hcol hcall))
      have hsrc : ∀ j v, (cellsN .u8 4 D).toList[j]? = some v → w2.cell? ((⟨w1.heap.size, 0, none⟩ : Addr).add j) = some v := by
        intro j v hv
        rw [Addr.add_mid, hD2.cell]
        simpa using hv
      have HSr : Hid (∀ j v, (cellsN .u8 4 D).toList[j]? = some v → w2.cell? ((⟨w1.heap.size, 0, none⟩ : Addr).add j) = some v) := hsrc
      clear hsrc
      have HM : Hid ((cellsN .u8 4 D).toList.length = Nat.min 4 (16 - i)) := by rw [Array.length_toList, cellsN_size]; exact (Nat.min_eq_left (show 4 ≤ 16 - i by omega)).symm
      go_region_held3 (fun _ => True)
        (exact trivial)
        (first
          | ((refine step_copy_row (w := w2.drew) rfl _ _ 22 22 rfl 5 Try.underlying22 one_u8 w.heap.size i (16 - i) (16 - i) ⟨w1.heap.size, 0, none⟩ 4 4 (by rfl) (by rfl) (cellsN .u8 16 F1) 23 hS2 (cellsN .u8 4 D).toList HM.out HSr.out (by rw [Array.length_toList, cellsN_size, cellsN_size]; omega) (oneCells _ _ _) ?_)
             (intro w3 hw3)
             (have hS3 : Has w3 w.heap.size 23 (cellsN .u8 16 (upTo f (colS mixN f) (4 * (c + 1)))) := (by rw [hw3, cellsN_splice _ _ _ _ _ _ (by omega), HN.out]; exact Has.setRow (w := w2.drew) hS2 _))
             (have hR3 : Has w3 (w.heap.size + 1) 23 (cellsN .u8 16 fun _ => 0) := (by rw [hw3]; exact Has.setRow_other (w := w2.drew) hR2 (by omega) _))
             (have hb3 : Below w.heap.size w w3 := (by rw [hw3]; exact below_setRow hb2.drew (Nat.le_refl _) _))
             (clear hw3)))
      go_wp2
      go_roundw
      case rel =>
        have := HI.out
        exact ⟨c + 1, by omega, by rw [this]; go_num, hS3, hR3, hb3⟩
      case measure => simp [intOf]; omega
    · obtain rfl : c = 4 := by omega
      have hN := hR.setRow (cellsN .u8 16 (upTo f (colS mixN f) (4 * 4)))
      go_wp2_with (first
        | (refine wpList_load_row rfl 23 _ rfl w.heap.size rfl 23 _ (0, 0) _ hS Try.underlying23 rfl (by rw [cellsN_size]; exact Try.size23) ?_)
        | (refine wpList_store_row rfl 23 _ _ rfl (w.heap.size + 1) (cellsN .u8 16 (upTo f (colS mixN f) (4 * 4))) rfl rfl 23 _ hR (by rw [cellsN_size]; exact Try.size23) (by simp [cellsN_size]) (cellsN_one _ _ _) ?_))
      refine bodyPost_ret (results_cell_row rfl _ _ (w.heap.size + 1) 23 _ (0, 0) _ rfl hN Try.underlying23 rfl (by rw [cellsN_size]; exact Try.size23)) rfl ⟨?_, below_setRow hbel (by omega) _⟩
      rw [show 4 * 4 = 16 from rfl, upTo_all]

set_option maxRecDepth 100000 in
theorem each_unmix (f : Nat → Nat) (w : World) (hf : ∀ j, j < 16 → f j < 256) :
    Calls Try.prog 33 #[.agg (cellsN .u8 16 f), .func (.func 37) #[] #[]] w fun e w' => e = .returned (.agg (cellsN .u8 16 (colS unmixN f))) ∧ Below w.heap.size w w' := by
  go_enter Try.func33, Try.ntmps33
  go_wp2
  go_loopw [5] (fun i wr => ∃ c : Nat, c ≤ 4 ∧ i = .int .i64 ((4 * c : Nat) : Int) ∧ Has wr w.heap.size 23 (cellsN .u8 16 (upTo f (colS unmixN f) (4 * c))) ∧ Has wr (w.heap.size + 1) 23 (cellsN .u8 16 fun _ => 0) ∧ Below w.heap.size w wr)
    (fun i _ => 16 - (intOf i).toNat)
  case atStart => exact ⟨0, Nat.zero_le _, rfl, by rw [show 4 * 0 = 0 from rfl, upTo_zero]; exact (Has.new w _ _).alloc _, Has.new_at (by simp), two_below _ _ _⟩
  case round =>
    obtain ⟨c, hk, rfl, hS, hR, hbel⟩ := hrel
    by_cases hlt : c < 4
    · have hcol := range_of_has hS (4 * c) 4 (by omega)
      rw [show (cellsN .u8 4 fun r => upTo f (colS unmixN f) (4 * c) (4 * c + r)) = cellsN .u8 4 (fun r => f (4 * c + r)) from cellsN_congr _ _ _ _ (fun r _ => by simp only [upTo, if_neg (show ¬ 4 * c + r < 4 * c by omega)])] at hcol
      have hcall := fun w => unmix_any (fun r => f (4 * c + r)) w (fun r hr => hf _ (by omega))
      have HN : Hid (cellsN .u8 16 (fun j => if j < 4 * c then upTo f (colS unmixN f) (4 * c) j else if j < 4 * c + 4 then unmixN (fun r => f (4 * c + r)) (j - 4 * c) else upTo f (colS unmixN f) (4 * c) j) = cellsN .u8 16 (upTo f (colS unmixN f) (4 * (c + 1)))) := col_next unmixN f c
      obtain ⟨F1, hF1⟩ : ∃ F1, F1 = upTo f (colS unmixN f) (4 * c) := ⟨_, rfl⟩
      rw [← hF1] at hS HN
      obtain ⟨col, hcl⟩ : ∃ col, col = cellsN .u8 4 (fun r => f (4 * c + r)) := ⟨_, rfl⟩
      have hcs : col.size = 4 := by rw [hcl, cellsN_size]
      obtain ⟨D, hD⟩ : ∃ D, D = unmixN (fun r => f (4 * c + r)) := ⟨_, rfl⟩
      rw [← hcl] at hcol
      rw [← hD] at HN
      simp only [← hcl, ← hD] at hcall
      clear hF1 hcl hD
      obtain ⟨i, hi⟩ : ∃ i, i = 4 * c := ⟨_, rfl⟩
      rw [← hi] at hcol HN
      rw [show ((4 * c : Nat) : Int) = (i : Int) by rw [hi]]
      have hi16 : i ≤ 12 := by omega
      have HI : Hid (i = 4 * c) := hi
      clear hi
      have i0 : (0 : Int) ≤ (i : Int) := by omega
      have i1 : (i : Int) ≤ 12 := by omega
      have i2 : (i : Int) ≤ (i : Int) + 4 := by omega
      have i3 : (i : Int) + 4 ≤ 16 := by omega
      have i4 : (i : Int) ≤ 16 := by omega
      have i5 : ¬ 16 = i := by omega
      have hat : (Instr.arrayAt 58 (.slice (some ⟨w.heap.size, i, none⟩) 4 (16 - i))).run Try.prog wr = .ok (.pointer (some ⟨w.heap.size, i, none⟩)) wr := by simp [Instr.arrayAt, run_underlying Try.underlying58]
      go_wp2_with (first
        | (refine wpList_load_mid rfl 58 _ rfl w.heap.size i rfl col.toList _ hcol Try.underlying58 rfl (by rw [Array.length_toList, hcs]; exact Try.size58) ?_; rw [Array.toArray_toList])
        | (go_at_call 37; refine (hcall _).mono ?_; rintro e w1 ⟨rfl, hb1⟩; have hn1 : Has (w1.alloc (.cells (cellsN .u8 4 fun _ => 0) 58)) w1.heap.size 58 (cellsN .u8 4 fun _ => 0) := Has.new _ _ _)
        | (refine wpList_store_rowG rfl 58 _ _ rfl w1.heap.size (cellsN .u8 4 D) rfl rfl 58 _ hn1 (by rw [cellsN_size]; exact Try.size58) (by simp [cellsN_size]) (cellsN_one _ _ _) ?_
           intro w2 hw2
           have hS2 : Has w2 w.heap.size 23 (cellsN .u8 16 F1) := by rw [hw2]; exact ((hS.below hb1 hS.lt).alloc _).setRow_other (by have := hS.lt; have := hb1.size; omega) _
           have hR2 : Has w2 (w.heap.size + 1) 23 (cellsN .u8 16 fun _ => 0) := by rw [hw2]; exact ((hR.below hb1 hR.lt).alloc _).setRow_other (by have := hR.lt; have := hb1.size; omega) _
           have hD2 : Has w2 w1.heap.size 58 (cellsN .u8 4 D) := by rw [hw2]; exact hn1.setRow _
           have hb2 : Below w.heap.size w w2 := by rw [hw2]; exact below_setRow ((hbel.trans (hb1.mono hbel.size)).alloc (Nat.le_trans hbel.size hb1.size) _) (Nat.le_trans hbel.size hb1.size) _
           have HL : Hid (w.heap.size < w1.heap.size) := Nat.lt_of_lt_of_le hS.lt hb1.size
           clear hw2 hn1 hb1 hS hR hbel hat hcol hcall))
      have hsrc : ∀ j v, (cellsN .u8 4 D).toList[j]? = some v → w2.cell? ((⟨w1.heap.size, 0, none⟩ : Addr).add j) = some v := by
        intro j v hv
        rw [Addr.add_mid, hD2.cell]
        simpa using hv
      have HSr : Hid (∀ j v, (cellsN .u8 4 D).toList[j]? = some v → w2.cell? ((⟨w1.heap.size, 0, none⟩ : Addr).add j) = some v) := hsrc
      clear hsrc
      have HM : Hid ((cellsN .u8 4 D).toList.length = Nat.min 4 (16 - i)) := by rw [Array.length_toList, cellsN_size]; exact (Nat.min_eq_left (show 4 ≤ 16 - i by omega)).symm
      go_region_held3 (fun _ => True)
        (exact trivial)
        (first
          | ((refine step_copy_row (w := w2.drew) rfl _ _ 22 22 rfl 5 Try.underlying22 one_u8 w.heap.size i (16 - i) (16 - i) ⟨w1.heap.size, 0, none⟩ 4 4 (by rfl) (by rfl) (cellsN .u8 16 F1) 23 hS2 (cellsN .u8 4 D).toList HM.out HSr.out (by rw [Array.length_toList, cellsN_size, cellsN_size]; omega) (oneCells _ _ _) ?_)
             (intro w3 hw3)
             (have hS3 : Has w3 w.heap.size 23 (cellsN .u8 16 (upTo f (colS unmixN f) (4 * (c + 1)))) := (by rw [hw3, cellsN_splice _ _ _ _ _ _ (by omega), HN.out]; exact Has.setRow (w := w2.drew) hS2 _))
             (have hR3 : Has w3 (w.heap.size + 1) 23 (cellsN .u8 16 fun _ => 0) := (by rw [hw3]; exact Has.setRow_other (w := w2.drew) hR2 (by omega) _))
             (have hb3 : Below w.heap.size w w3 := (by rw [hw3]; exact below_setRow hb2.drew (Nat.le_refl _) _))
             (clear hw3)))
      go_wp2
      go_roundw
      case rel =>
        have := HI.out
        exact ⟨c + 1, by omega, by rw [this]; go_num, hS3, hR3, hb3⟩
      case measure => simp [intOf]; omega
    · obtain rfl : c = 4 := by omega
      have hN := hR.setRow (cellsN .u8 16 (upTo f (colS unmixN f) (4 * 4)))
      go_wp2_with (first
        | (refine wpList_load_row rfl 23 _ rfl w.heap.size rfl 23 _ (0, 0) _ hS Try.underlying23 rfl (by rw [cellsN_size]; exact Try.size23) ?_)
        | (refine wpList_store_row rfl 23 _ _ rfl (w.heap.size + 1) (cellsN .u8 16 (upTo f (colS unmixN f) (4 * 4))) rfl rfl 23 _ hR (by rw [cellsN_size]; exact Try.size23) (by simp [cellsN_size]) (cellsN_one _ _ _) ?_))
      refine bodyPost_ret (results_cell_row rfl _ _ (w.heap.size + 1) 23 _ (0, 0) _ rfl hN Try.underlying23 rfl (by rw [cellsN_size]; exact Try.size23)) rfl ⟨?_, below_setRow hbel (by omega) _⟩
      rw [show 4 * 4 = 16 from rfl, upTo_all]

end Go.Proofs.Ytcnlegnfecpdnaa
