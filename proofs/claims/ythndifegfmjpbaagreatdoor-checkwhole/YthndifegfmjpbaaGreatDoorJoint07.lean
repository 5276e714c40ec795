/- Texts that the statements of this stage share, joined. -/
import Derived.Test.YthndifegfmjpbaaGreatDoorJoint06
import Derived.Test.YthndifegfmjpbaaGreatDoorJoint00
import Derived.BigQuiet
import Derived.Deep.QuietTactic
namespace Go.Proofs.YthndifegfmjpbaaGreatDoor
set_option linter.unusedVariables false
set_option maxRecDepth 100000
set_option maxHeartbeats 40000000
section
open Go.ChangeShapes Go.WideShapes Go.ChangeAt Go.RowKit
def ScanR (w : World) (R : Except (Nat × Nat) Toks) (e : Ending) (w' : World) : Prop := Below w.heap.size w w' ∧ match R with
 | .error (er, o) => e = .returned (.tuple #[.slice none 0 0, .int .i64 (er : Nat), .int .i64 (o : Nat)])
 | .ok ts => ∃ v, e = .returned (.tuple #[v, .int .i64 0, .int .i64 (-1)]) ∧ TokRow w' w.heap.size v ts
theorem scan_long (w : World) (l : List UInt8) (h : 2000 < l.length) (hm : l.length ≤ maxLen) : Calls Tryz.prog 35 #[.string (bs l)] w (ScanR w (Scan l)) := by
 unfold maxLen at hm
 have hsz := bs_size l
 have h1 : (2000 : Int) < ((bs l).size : Int) := by omega
 have HR : Hid (Scan l = .error (103, 0)) := by show Scan l = _; unfold Scan; rw [if_pos h]
 clear hsz
 go_enter Tryz.func35, Tryz.ntmps35
 go_wp2
 go_ret3
 exact ⟨Below.refl _ _, by rw [HR.out]; rfl⟩
def ScanAt (w wr : World) (l : List UInt8) (v : Value) (i : Nat) (ts : Toks) : Prop := i ≤ l.length ∧ Below w.heap.size w wr ∧ TokRow wr w.heap.size v ts ∧ ts.length ≤ 500 ∧ ∃ f, l.length - i < f ∧ Scan l = ahead ts (scan f (l.drop i) i ts.length)
theorem ScanAt.step {w wr : World} {l : List UInt8} {v : Value} {i : Nat} {ts : Toks} (h : ScanAt w wr l v i ts) : ∃ f, l.length - i ≤ f ∧ Scan l = ahead ts (scan (f + 1) (l.drop i) i ts.length) := by
 obtain ⟨h1, h2, h3, h4, f, h5, h6⟩ := h
 cases f with
 | zero => omega
 | succ f => exact ⟨f, by omega, h6⟩
theorem ScanAt.done {w wr : World} {l : List UInt8} {v : Value} {i : Nat} {ts : Toks} (h : ScanAt w wr l v i ts) (hd : ¬ i + skp false (l.drop i) < l.length) : Scan l = .ok ts := by
 obtain ⟨f, hf, e⟩ := h.step
 rw [e, scan_end (by rw [List.drop_drop]; exact List.drop_eq_nil_of_le (by omega))]
 simp [ahead]
theorem ScanAt.ne {l : List UInt8} {i : Nat} (hd : i + skp false (l.drop i) < l.length) : (l.drop i).drop (skp false (l.drop i)) ≠ [] := by
 rw [List.drop_drop]
 intro e
 have := congrArg List.length e
 simp at this
 omega
theorem ScanAt.bad {w wr : World} {l : List UInt8} {v : Value} {i er o : Nat} {ts : Toks} (h : ScanAt w wr l v i ts) (hd : i + skp false (l.drop i) < l.length) (ho : one (l.drop (i + skp false (l.drop i))) = .error (er, o)) : Scan l = .error (er, i + skp false (l.drop i) + o) := by
 obtain ⟨f, hf, e⟩ := h.step
 rw [e, scan_bad (ScanAt.ne hd) (by rw [List.drop_drop]; exact ho)]
 rfl
theorem ScanAt.many {w wr : World} {l : List UInt8} {v : Value} {i n : Nat} {t : Tk} {ts : Toks} (h : ScanAt w wr l v i ts) (hd : i + skp false (l.drop i) < l.length) (ho : one (l.drop (i + skp false (l.drop i))) = .ok (t, n)) (h5 : ts.length = 500) : Scan l = .error (103, i + skp false (l.drop i)) := by
 obtain ⟨f, hf, e⟩ := h.step
 rw [h5] at e
 rw [e, scan_many (ScanAt.ne hd) (by rw [List.drop_drop]; exact ho)]
 rfl
theorem ScanAt.next {w wr w' : World} {l : List UInt8} {v v' : Value} {i n : Nat} {t : Tk} {ts : Toks} (h : ScanAt w wr l v i ts) (hd : i + skp false (l.drop i) < l.length) (ho : one (l.drop (i + skp false (l.drop i))) = .ok (t, n)) (h5 : ts.length ≠ 500)
  (hb : Below w.heap.size w w') (hr : TokRow w' w.heap.size v' (ts ++ [(t, i + skp false (l.drop i))])) : ScanAt w w' l v' (i + skp false (l.drop i) + n) (ts ++ [(t, i + skp false (l.drop i))]) := by
 obtain ⟨f, hf, e⟩ := h.step
 have hn := one_len ho
 rw [List.length_drop] at hn
 have h4 := h.2.2.2.1
 refine ⟨by omega, hb, hr, by rw [List.length_append]; simp; omega, f, by omega, ?_⟩
 rw [e, scan_next (ScanAt.ne hd) (by rw [List.drop_drop]; exact ho) h5, ahead_ahead, List.drop_drop, List.length_append]
 rw [show i + (skp false (l.drop i) + n) = i + skp false (l.drop i) + n by omega]
 rfl
theorem row_slice {w : World} {base : Nat} {v : Value} {ts : Toks} (h : TokRow w base v ts) : ∃ A C, v = .slice A ts.length C := by
 rcases h.2 with ⟨rfl, h0⟩ | ⟨g, cap, cur, rfl, _⟩
 · exact ⟨none, 0, by rw [h0]⟩
 · exact ⟨_, _, rfl⟩
theorem scan_b1 {w wr w2 : World} (h : Below w.heap.size w wr) (h2 : Below wr.heap.size wr w2) (o : Obj) : Below w.heap.size w (w2.alloc o) :=
 (h.trans (h2.mono h.size)).alloc (by have := h.size; have := h2.size; omega) o
theorem scan_b2 {w wr w2 w3 w4 : World} {o1 o2 : Obj} (h : Below w.heap.size w wr) (h2 : Below wr.heap.size wr w2) (h3 : Below w.heap.size ((w2.alloc o1).alloc o2) w3) (h4 : Below w3.heap.size w3 w4) : Below w.heap.size w w4 := by
 have s1 := h.size
 have s2 := h2.size
 have s3 := h3.size
 simp at s3
 exact ((((h.trans (h2.mono s1)).alloc (by omega) o1).alloc (by simp; omega) o2).trans h3).trans (h4.mono (by omega))
theorem scan_c (w : World) (l : List UInt8) (h : ¬ 2000 < l.length) : Calls Tryz.prog 35 #[.string (bs l)] w (ScanR w (Scan l)) := by
 have hl : l.length ≤ 2000 := by omega
 have hsz := bs_size l
 have h1 : ¬ (2000 : Int) < ((bs l).size : Int) := by omega
 have HS : Hid ((bs l).size = l.length) := hsz
 have hp := fun W => passed_c W l 0 (Nat.zero_le _) hl
 clear hsz
 simp only [Nat.zero_add] at hp
 go_enter Tryz.func35, Tryz.ntmps35
 go_wp2_with (go_at_call 65; refine (hp _).mono ?_; rintro e w1 ⟨rfl, hb1⟩)
 go_loopw [5, 6] (fun v z wr => ∃ (i : Nat) (ts : Toks), ScanAt w wr l v i ts ∧ z = .int .i64 ((i + skp false (l.drop i) : Nat) : Int)) (fun _ z _ => 2000 - (intOf z).toNat)
 case atStart => exact ⟨0, [], ⟨Nat.zero_le _, hb1, TokRow.empty _ _, by simp, l.length + 1, by omega, by rw [ahead_nil]; unfold Scan; rw [if_neg h]; rfl⟩, by simp⟩
 case round =>
  clear hb1 hp
  obtain ⟨i, ts, hA, rfl⟩ := hrel
  have hle := skp_le false (l.drop i)
  rw [List.length_drop] at hle
  obtain ⟨hi, hbw, hrow, h500, -⟩ := id hA
  obtain ⟨A, C, rfl⟩ := row_slice hrow
  obtain ⟨J, hJ⟩ : ∃ J, J = i + skp false (l.drop i) := ⟨_, rfl⟩
  have hJ2 : J ≤ 2000 := by omega
  have HJ : Hid (J = i + skp false (l.drop i)) := hJ
  rw [← hJ]
  obtain ⟨M, hM⟩ : ∃ M, M = ts.length := ⟨_, rfl⟩
  have HM : Hid (M = ts.length) := hM
  rw [← hM] at h500 hrow hA ⊢
  have hM2 : M ≤ 500 := h500
  clear hM h500 hle
  by_cases hlt : J < l.length
  · have h2 : ((J : Nat) : Int) < ((bs l).size : Int) := by rw [HS.out]; omega
    cases ho : one (l.drop J) with
    | error r =>
      obtain ⟨er, o⟩ := r
      have hbad := hA.bad (by rw [← hJ]; exact hlt) (by rw [← hJ]; exact ho)
      rw [← hJ] at hbad
      have ht := fun W => token_bad (w := W) hlt hl ho
      have HB : Hid (Scan l = .error (er, J + o)) := hbad
      rcases one_err ho with e | ⟨e, e'⟩
      · subst e
        clear hbad ho hJ hA
        go_wp2_with (go_at_call 66; refine (ht _).mono ?_; rintro e w2 ⟨t, E, ⟨rfl, hb2⟩, hE, -⟩; have HE : Hid (E = J + o) := hE rfl; clear hE; simp only [tkv])
        go_ret3
        exact ⟨scan_b1 hbw hb2 _, by rw [HB.out, ← HE.out]; rfl⟩
      · subst e e'
        clear hbad ho hJ hA
        go_wp2_with (go_at_call 66; refine (ht _).mono ?_; rintro e w2 ⟨t, E, ⟨rfl, hb2⟩, hE, -⟩; simp only [tkv])
        go_ret3
        exact ⟨scan_b1 hbw hb2 _, by rw [HB.out]; rfl⟩
    | ok r =>
      obtain ⟨t, n⟩ := r
      have ht := fun W => token_ok (w := W) hlt hl ho
      have hn := one_len ho
      rw [List.length_drop] at hn
      have hlt' : i + skp false (l.drop i) < l.length := by rw [← hJ]; exact hlt
      have ho' : one (l.drop (i + skp false (l.drop i))) = .ok (t, n) := by rw [← hJ]; exact ho
      by_cases h5 : M = 500
      · have hmany := hA.many hlt' ho' (HM.out ▸ h5)
        rw [← hJ] at hmany
        have HB : Hid (Scan l = .error (103, J)) := hmany
        clear hmany ho ho' hlt' hJ hA
        subst h5
        go_wp2_with (go_at_call 66; refine (ht _).mono ?_; rintro e w2 ⟨rfl, hb2⟩; simp only [tkv])
        go_ret3
        exact ⟨scan_b1 hbw hb2 _, by rw [HB.out]; rfl⟩
      · have h5' : ¬ ((M : Nat) : Int) = 500 := by omega
        have hnext := fun w' v' hb hr => hA.next (w' := w') (v' := v') hlt' ho' (by rw [← HM.out]; exact h5) hb hr
        rw [← hJ] at hnext
        have hp := fun W => passed_c W l (J + n) (by omega) hl
        obtain ⟨E, hE⟩ : ∃ E, E = J + n := ⟨_, rfl⟩
        rw [← hE] at hp ht hnext
        have hE1 : J < E := by omega
        have hE2 : E ≤ 2000 := by omega
        clear ho ho' hlt' hJ hA hE
        go_wp2_with (first
         | (go_at_call 66; refine (ht _).mono ?_; rintro e w2 ⟨rfl, hb2⟩; simp only [tkv])
         | (go_at_call 65; refine (hp _).mono ?_; rintro e w4 ⟨rfl, hb4⟩)
         | (refine at_dstL 44 rfl ?_
            refine wpList_append_tok rfl _ _ rfl w.heap.size _ ts rfl (((hrow.below hb2).below ((Below.refl _ _).alloc (Nat.le_refl _) _)).below ((Below.refl _ _).alloc (Nat.le_refl _) _)) (w2.heap.size + 1) t J rfl (Has.new_at (by simp)) (by rw [← HM.out]; exact hM2) (by have := hbw.size; have := hb2.size; simp; omega) ?_
            intro v' w3 hr3 hb3))
        go_roundw
        case rel =>
         have hbA : Below w.heap.size w w4 := scan_b2 hbw hb2 hb3 hb4
         exact ⟨E, _, hnext w4 _ hbA (hr3.below hb4), rfl⟩
        case measure => simp [intOf]; omega
  · have h2 : ¬ ((J : Nat) : Int) < ((bs l).size : Int) := by rw [HS.out]; omega
    have hdone := hA.done (by rw [← hJ]; exact hlt)
    have HB : Hid (Scan l = .ok ts) := hdone
    clear hdone hA hJ
    go_wp2
    go_ret3
    exact ⟨hbw, by rw [HB.out]; exact ⟨_, rfl, hrow⟩⟩
end
section
open Go.ChangeShapes Go.WideShapes Go.ChangeAt Go.RowKit
theorem scan_any (w : World) (l : List UInt8) (hm : l.length ≤ maxLen) : Calls Tryz.prog 35 #[.string (bs l)] w (ScanR w (Scan l)) := by
 by_cases h : 2000 < l.length
 · exact scan_long w l h hm
 · exact scan_c w l h
theorem TokRow.lies {w : World} {base : Nat} {v : Value} {ts : Toks} (h : TokRow w base v ts) (hne : ts ≠ []) : ∃ g C, v = .slice (some ⟨g, 0, none⟩) ts.length C ∧ base ≤ g ∧ g < w.heap.size ∧ ts.length ≤ C ∧ C ≤ maxLen ∧
  (∃ cur, Has w g 100 cur ∧ cur.size = C * 4 ∧ cur.toList.take (ts.length * 4) = tkl ts) ∧ ∀ i (hi : i < ts.length) j, j < 4 → w.cell? ⟨g, i * 4 + j, none⟩ = (tkv ts[i].1 ts[i].2)[j]? := by
 rcases h.2 with ⟨rfl, h0⟩ | ⟨g, cap, cur, rfl, h1, hg, hn, hm, hs, ht⟩
 · exact absurd (List.length_eq_zero_iff.1 h0) hne
 · refine ⟨g, cap, rfl, h1, (Array.getElem?_eq_some_iff.1 hg).1, hn, hm, ⟨cur, hg, hs, ht⟩, fun i hi j hj => ?_⟩
   rw [← tkl_get ts i hi j hj, ← ht, List.getElem?_take_of_lt (by omega), Array.getElem?_toList]
   exact cell_of_row w g (i * 4 + j) cur _ _ hg
end
section
open Go.ChangeShapes Go.WideShapes Go.ChangeAt Go.RowKit
theorem reserved_c (x : List UInt8) (w : World) : Calls Tryz.prog 138 #[.string (bs x)] w fun e w' => e = .returned (.bool (resv x)) ∧ w' = w := by
 have ht := bs_toList x
 go_enter Tryz.func138, Tryz.ntmps138
 go_wp2
 all_goals
  go_ret
  refine ⟨ret_bool ?_, rfl⟩
  symm
  simp_all only [resv, Bool.true_or, Bool.or_true, Bool.or_false, Bool.false_eq_true]
def resvTo (x : List UInt8) (k : Nat) : Bool := (RW.take k).any fun y => y == x
theorem resvTo_succ (x : List UInt8) (k : Nat) (h : k < 14) : resvTo x (k + 1) = (resvTo x k || (RW[k]'h == x)) := by
 unfold resvTo
 rw [List.take_succ_eq_append_getElem h, List.any_append]
 simp
theorem resvTo_all (x : List UInt8) : resvTo x 14 = resv x := by
 unfold resvTo resv
 have e : ∀ y : List UInt8, (y == x) = (x == y) := fun y => BEq.comm
 simp only [RW, List.take_succ_cons, List.take_zero, List.any_cons, List.any_nil, Bool.or_false, Bool.or_assoc, e]
theorem resvTo_yes (x : List UInt8) (k : Nat) (h : k < 14) (e : (RW[k]'h == x) = true) : resv x = true := by
 rw [← resvTo_all]
 unfold resvTo
 exact List.any_eq_true.2 ⟨_, List.mem_take_iff_getElem.2 ⟨k, by simp [RW]; omega, rfl⟩, e⟩
def rwCells : Array Value := #[.string ⟨#[100, 101, 118, 105, 99, 101]⟩, .string ⟨#[106, 111, 117, 114, 110, 97, 108]⟩, .string ⟨#[107, 101, 121]⟩, .string ⟨#[114, 111, 111, 116]⟩, .string ⟨#[118, 111, 108, 117, 109, 101]⟩, .string ⟨#[101, 120, 112, 111, 114, 116]⟩, .string ⟨#[114, 101, 97, 100, 111, 110, 108, 121]⟩, .string ⟨#[108, 105, 110, 101, 97, 114]⟩, .string ⟨#[99, 111, 110, 99, 97, 116]⟩, .string ⟨#[109, 105, 114, 114, 111, 114]⟩, .string ⟨#[115, 110, 97, 112, 115, 104, 111, 116]⟩, .string ⟨#[99, 114, 121, 112, 116]⟩, .string ⟨#[105, 110, 116, 101, 103, 114, 105, 116, 121]⟩, .string ⟨#[118, 101, 114, 105, 116, 121]⟩]
theorem rwCells_get (k : Nat) (h : k < 14) : rwCells[k]? = some (.string (bs (RW[k]'h))) := by
 match k, h with
 | 0, _ => rfl
 | 1, _ => rfl
 | 2, _ => rfl
 | 3, _ => rfl
 | 4, _ => rfl
 | 5, _ => rfl
 | 6, _ => rfl
 | 7, _ => rfl
 | 8, _ => rfl
 | 9, _ => rfl
 | 10, _ => rfl
 | 11, _ => rfl
 | 12, _ => rfl
 | 13, _ => rfl
theorem rreserved_c (x : List UInt8) (w : World) : Calls Tryz.prog 76 #[.string (bs x)] w fun e w' => e = .returned (.bool (resv x)) ∧ Below w.heap.size w w' := by
 have ht := bs_toList x
 have hH : Has (w.alloc (.cells rwCells 9)) w.heap.size 9 rwCells := Has.new _ _ _
 have hB : Below w.heap.size w (w.alloc (.cells rwCells 9)) := (Below.refl _ _).alloc (Nat.le_refl _) _
 obtain ⟨W, hW⟩ : ∃ W, W = w.alloc (.cells rwCells 9) := ⟨_, rfl⟩
 rw [← hW] at hH hB
 have HW : Hid (W = w.alloc (.cells rwCells 9)) := hW
 clear hW
 go_enter Tryz.func76, Tryz.ntmps76
 go_wp2_with (first
  | (refine at_dstL 5 rfl ?_
     refine wpList_is_w (some 5) (.slice (some ⟨w.heap.size, 0, none⟩) 14 14) W rfl (by rfl) (by rw [HW.out]; kernel_rfl) ?_))
 go_loop [4] (fun z => ∃ k : Nat, k ≤ 14 ∧ z = .int .i64 (k : Nat) ∧ resvTo x k = false) (fun z => 14 - (intOf z).toNat)
 case atStart => exact ⟨0, Nat.zero_le _, rfl, rfl⟩
 case round =>
  obtain ⟨k, hk, rfl, hr⟩ := hrel
  have HR : Hid (resvTo x k = false) := hr
  clear hr
  by_cases hlt : k < 14
  · have hc : W.cell? ⟨w.heap.size, k, none⟩ = some (.string (bs (RW[k]'hlt))) := by rw [hH.cell]; exact rwCells_get k hlt
    have ht2 := bs_toList (RW[k]'hlt)
    have hy := resvTo_yes x k hlt
    have hn := resvTo_succ x k hlt
    generalize RW[k]'hlt = y at hc ht2 hy hn
    have HN : Hid (resvTo x (k + 1) = (resvTo x k || (y == x))) := hn
    have HY : Hid ((y == x) = true → resv x = true) := hy
    clear hy hn
    cases e : (y == x)
    · go_wp2
      go_round
      case rel => exact ⟨k + 1, by omega, by go_num, by rw [HN.out, HR.out, e]; rfl⟩
      case measure => simp [intOf]; omega
    · go_wp2
      go_ret
      exact ⟨ret_bool (HY.out e).symm, hB⟩
  · have hk14 : k = 14 := by omega
    subst hk14
    go_wp2
    go_ret
    exact ⟨ret_bool (by rw [← resvTo_all, HR.out]), hB⟩
end
section
open Go.ChangeShapes Go.WideShapes Go.ChangeAt Go.RowKit
def Strs (w : World) (v : Value) (l : List (List UInt8)) : Prop := (l = [] ∧ v = .slice none 0 0) ∨ ∃ g, v = .slice (some ⟨g, 0, none⟩) l.length l.length ∧ Has w g 9 (l.map fun x => Value.string (bs x)).toArray
def kw (ks : List Kd) : List (List UInt8) := ks.map Kd.w
theorem Strs.below {w w' : World} {v : Value} {l : List (List UInt8)} (h : Strs w v l) (hb : Below w.heap.size w w') : Strs w' v l := by
 rcases h with h | ⟨g, rfl, h⟩
 · exact .inl h
 · exact .inr ⟨g, rfl, h.below hb h.lt⟩
theorem insideLinear {x : List UInt8} (h : (x == [108, 105, 110, 101, 97, 114]) = true) : inside x = ([.ex, .nu, .nu], false) := by
 rw [eq_of_beq h]; rfl
theorem insideConcat {x : List UInt8} (h : (x == [99, 111, 110, 99, 97, 116]) = true) : inside x = ([.ex], true) := by
 rw [eq_of_beq h]; rfl
theorem insideMirror {x : List UInt8} (h : (x == [109, 105, 114, 114, 111, 114]) = true) : inside x = ([.ex], true) := by
 rw [eq_of_beq h]; rfl
theorem insideSnapshot {x : List UInt8} (h : (x == [115, 110, 97, 112, 115, 104, 111, 116]) = true) : inside x = ([.ex, .ex, .nu], false) := by
 rw [eq_of_beq h]; rfl
theorem insideCrypt {x : List UInt8} (h : (x == [99, 114, 121, 112, 116]) = true) : inside x = ([.ex, .na], false) := by
 rw [eq_of_beq h]; rfl
theorem insideIntegrity {x : List UInt8} (h : (x == [105, 110, 116, 101, 103, 114, 105, 116, 121]) = true) : inside x = ([.ex, .na], false) := by
 rw [eq_of_beq h]; rfl
theorem insideVerity {x : List UInt8} (h : (x == [118, 101, 114, 105, 116, 121]) = true) : inside x = ([.ex, .na], false) := by
 rw [eq_of_beq h]; rfl
theorem insideNone {x : List UInt8} (hLinear : (x == [108, 105, 110, 101, 97, 114]) = false) (hConcat : (x == [99, 111, 110, 99, 97, 116]) = false) (hMirror : (x == [109, 105, 114, 114, 111, 114]) = false) (hSnapshot : (x == [115, 110, 97, 112, 115, 104, 111, 116]) = false) (hCrypt : (x == [99, 114, 121, 112, 116]) = false) (hIntegrity : (x == [105, 110, 116, 101, 103, 114, 105, 116, 121]) = false) (hVerity : (x == [118, 101, 114, 105, 116, 121]) = false) : inside x = ([], false) := by
 simp only [beq_eq_false_iff_ne] at *
 unfold inside
 rw [if_neg (show ¬ x = wLinear from hLinear), if_neg (show ¬ (x = wConcat ∨ x = wMirror) by (rintro (h | h); exact hConcat h; exact hMirror h)), if_neg (show ¬ x = wSnapshot from hSnapshot), if_neg (show ¬ (x = wCrypt ∨ x = wIntegrity ∨ x = wVerity) by (rintro (h | h | h); exact hCrypt h; exact hIntegrity h; exact hVerity h))]
theorem inside_c (x : List UInt8) (w : World) : Calls Tryz.prog 139 #[.string (bs x)] w fun e w' => ∃ v, e = .returned (.tuple #[v, .bool (inside x).2]) ∧ Below w.heap.size w w' ∧ Strs w' v (kw (inside x).1) := by
 have ht := bs_toList x
 go_enter Tryz.func139, Tryz.ntmps139
 go_wp2
 all_goals
  go_ret2
  first
   | (rw [insideLinear (by assumption)]; exact ⟨_, rfl, (Below.refl _ _).alloc (Nat.le_refl _) _, .inr ⟨w.heap.size, rfl, Has.new _ _ _⟩⟩)
   | (rw [insideConcat (by assumption)]; exact ⟨_, rfl, (Below.refl _ _).alloc (Nat.le_refl _) _, .inr ⟨w.heap.size, rfl, Has.new _ _ _⟩⟩)
   | (rw [insideMirror (by assumption)]; exact ⟨_, rfl, (Below.refl _ _).alloc (Nat.le_refl _) _, .inr ⟨w.heap.size, rfl, Has.new _ _ _⟩⟩)
   | (rw [insideSnapshot (by assumption)]; exact ⟨_, rfl, (Below.refl _ _).alloc (Nat.le_refl _) _, .inr ⟨w.heap.size, rfl, Has.new _ _ _⟩⟩)
   | (rw [insideCrypt (by assumption)]; exact ⟨_, rfl, (Below.refl _ _).alloc (Nat.le_refl _) _, .inr ⟨w.heap.size, rfl, Has.new _ _ _⟩⟩)
   | (rw [insideIntegrity (by assumption)]; exact ⟨_, rfl, (Below.refl _ _).alloc (Nat.le_refl _) _, .inr ⟨w.heap.size, rfl, Has.new _ _ _⟩⟩)
   | (rw [insideVerity (by assumption)]; exact ⟨_, rfl, (Below.refl _ _).alloc (Nat.le_refl _) _, .inr ⟨w.heap.size, rfl, Has.new _ _ _⟩⟩)
   | (rw [insideNone (by assumption) (by assumption) (by assumption) (by assumption) (by assumption) (by assumption) (by assumption)]; exact ⟨_, rfl, Below.refl _ _, .inl ⟨rfl, rfl⟩⟩)
   | (exfalso; simp_all only [Bool.false_eq_true])
theorem nm_c (t : Tk) (q : Nat) (w : World) : Calls Tryz.prog 113 #[.agg (tkv t q)] w fun e w' => e = .returned (.bool (isNm t)) ∧ Below w.heap.size w w' := by
 have hr := reserved_c t.s
 unfold isNm
 by_cases h0 : t.kind = 0
 · have h1 : ((t.kind : Nat) : Int) = 0 := by omega
   cases e : resv t.s
   all_goals
    rw [e] at hr
    unfold tkv
    clear e
    go_enter Tryz.func113, Tryz.ntmps113
    go_wp2_with (go_at_call 138; refine (hr _).mono ?_; rintro e w' ⟨rfl, rfl⟩)
    go_ret
    exact ⟨by simp [h0], (Below.refl _ _).alloc (Nat.le_refl _) _⟩
 · have h1 : ¬ ((t.kind : Nat) : Int) = 0 := by omega
   unfold tkv
   go_enter Tryz.func113, Tryz.ntmps113
   go_wp2
   go_ret
   exact ⟨by simp [h0], (Below.refl _ _).alloc (Nat.le_refl _) _⟩
theorem anyTo_succ (l : List (List UInt8)) (x : List UInt8) (k : Nat) (h : k < l.length) : (l.take (k + 1)).any (fun y => x == y) = ((l.take k).any (fun y => x == y) || (x == l[k])) := by
 rw [List.take_succ_eq_append_getElem h, List.any_append]
 simp
theorem any_yes (l : List (List UInt8)) (x : List UInt8) (k : Nat) (h : k < l.length) (e : (x == l[k]) = true) : l.any (fun y => x == y) = true :=
 List.any_eq_true.2 ⟨_, List.getElem_mem h, e⟩
theorem index_c (l : List (List UInt8)) (x : List UInt8) (w : World) (v : Value) (h : Strs w v l) (hl : l.length ≤ 100) : Calls Tryz.prog 159 #[v, .string (bs x)] w fun e w' => ∃ i : Int, e = .returned (.int .i64 i) ∧ decide (0 ≤ i) = l.any (fun y => x == y) ∧ w' = w := by
 have ht := bs_toList x
 rcases h with ⟨rfl, rfl⟩ | ⟨g, rfl, hH⟩
 · go_enter Tryz.func159, Tryz.ntmps159
   go_wp2
   go_loop [8] (fun z => z = .int .i64 0) (fun _ => 0)
   case atStart => rfl
   case round =>
    subst hrel
    go_wp2
    go_ret
    exact ⟨-1, rfl, by simp, rfl⟩
 · obtain ⟨n, hn⟩ : ∃ n, n = l.length := ⟨_, rfl⟩
   have HN : Hid (n = l.length) := hn
   have hn2 : n ≤ 100 := by omega
   rw [← hn]
   clear hn
   go_enter Tryz.func159, Tryz.ntmps159
   go_wp2
   go_loop [8] (fun z => ∃ k : Nat, k ≤ n ∧ z = .int .i64 (k : Nat) ∧ (l.take k).any (fun y => x == y) = false) (fun z => n - (intOf z).toNat)
   case atStart => exact ⟨0, Nat.zero_le _, rfl, rfl⟩
   case round =>
    obtain ⟨k, hk, rfl, hr⟩ := hrel
    have HR : Hid ((l.take k).any (fun y => x == y) = false) := hr
    clear hr
    by_cases hlt : k < n
    · have hlt' : k < l.length := by rw [← HN.out]; exact hlt
      have h2 : (k : Int) < (n : Int) := by omega
      have hc : w.cell? ⟨g, k, none⟩ = some (.string (bs (l[k]'hlt'))) := by rw [hH.cell]; simp [hlt']
      have ht2 := bs_toList (l[k]'hlt')
      have hy := any_yes l x k hlt'
      have hs := anyTo_succ l x k hlt'
      generalize l[k]'hlt' = y at hc ht2 hy hs
      have HS : Hid ((l.take (k + 1)).any (fun y => x == y) = ((l.take k).any (fun y => x == y) || (x == y))) := hs
      have HY : Hid ((x == y) = true → l.any (fun y => x == y) = true) := hy
      clear hy hs hlt'
      cases e : (x == y)
      · go_wp2
        go_round
        case rel => exact ⟨k + 1, by omega, by go_num, by rw [HS.out, HR.out, e]; rfl⟩
        case measure => simp [intOf]; omega
      · go_wp2
        go_ret
        exact ⟨_, rfl, by rw [HY.out e]; simp, rfl⟩
    · have hk2 : k = n := by omega
      subst hk2
      go_wp2
      go_ret
      refine ⟨-1, rfl, ?_, rfl⟩
      have := HR.out
      rw [HN.out, List.take_length] at this
      rw [this]
      rfl
theorem contains_c (l : List (List UInt8)) (x : List UInt8) (w : World) (v : Value) (h : Strs w v l) (hl : l.length ≤ 100) : Calls Tryz.prog 142 #[v, .string (bs x)] w fun e w' => e = .returned (.bool (l.any (fun y => x == y))) ∧ w' = w := by
 have hi := index_c l x w v h hl
 go_enter Tryz.func142, Tryz.ntmps142
 go_wp2_with (go_at_call 159; refine hi.mono ?_; rintro e w' ⟨i, rfl, hd, rfl⟩)
 go_ret
 exact ⟨ret_bool (by rw [← hd]), rfl⟩
end
section
open Go.ChangeShapes Go.WideShapes Go.ChangeAt Go.RowKit
theorem bs_cat (a b : List UInt8) : bs a ++ bs b = bs (a ++ b) := by
 apply ByteArray.ext
 simp [bs]
theorem scan_err_c (w : World) (l : List UInt8) (hm : l.length ≤ maxLen) {er o : Nat} (h : Scan l = .error (er, o)) : Calls Tryz.prog 35 #[.string (bs l)] w fun e w' => e = .returned (.tuple #[.slice none 0 0, .int .i64 (er : Nat), .int .i64 (o : Nat)]) ∧ Below w.heap.size w w' := by
 have := scan_any w l hm
 rw [h] at this
 exact this.mono fun e w' hr => ⟨hr.2, hr.1⟩
theorem scan_ok_c (w : World) (l : List UInt8) (hm : l.length ≤ maxLen) {ts : Toks} (h : Scan l = .ok ts) : Calls Tryz.prog 35 #[.string (bs l)] w fun e w' => ∃ A C, e = .returned (.tuple #[.slice A ts.length C, .int .i64 0, .int .i64 (-1)]) ∧ Below w.heap.size w w' ∧ TokRow w' w.heap.size (.slice A ts.length C) ts := by
 have := scan_any w l hm
 rw [h] at this
 refine this.mono ?_
 rintro e w' ⟨hb, v, rfl, hr⟩
 obtain ⟨A, C, rfl⟩ := row_slice hr
 exact ⟨A, C, rfl, hb, hr⟩
end
section
open Go.ChangeShapes Go.WideShapes Go.ChangeAt Go.RowKit
abbrev Kp (p : Nat) (w w' : World) : Prop := w.grownBy w' (some p)
theorem Kp.refl (p : Nat) (w : World) : Kp p w w := ⟨rfl, rfl, rfl, Nat.le_refl _, fun _ _ _ => rfl⟩
theorem Kp.trans {p : Nat} {a b c : World} (h : Kp p a b) (k : Kp p b c) : Kp p a c :=
 ⟨k.os.trans h.os, k.tape.trans h.tape, k.output.trans h.output, Nat.le_trans h.size k.size, fun i hi hn => (k.block i (Nat.lt_of_lt_of_le hi h.size) hn).trans (h.block i hi hn)⟩
theorem Kp.of {p : Nat} {w w' : World} (h : Below w.heap.size w w') : Kp p w w' := ⟨h.os, h.tape, h.output, h.size, fun i hi _ => h.block i hi⟩
theorem Kp.alloc {p : Nat} {w w' : World} (h : Kp p w w') (o : Obj) : Kp p w (w'.alloc o) := h.trans (Kp.of ((Below.refl _ _).alloc (Nat.le_refl _) o))
theorem Kp.below {p : Nat} {w w' : World} (h : Kp p w w') (hp : p < w.heap.size) : Below p w w' := ⟨h.os, h.tape, h.output, h.size, fun k hk => h.block k (by omega) (fun e => by cases e; omega)⟩
theorem Has.kp {p : Nat} {w w' : World} {g t : Nat} {cs : Array Value} (h : Has w g t cs) (hk : Kp p w w') (hne : g ≠ p) : Has w' g t cs := h.grown hk hne
def TkIn (w : World) (g off : Nat) (ts : Toks) : Prop := ∀ i (hi : i < ts.length) j, j < 4 → w.cell? ⟨g, off + i * 4 + j, none⟩ = (tkv ts[i].1 ts[i].2)[j]?
def PAt (w : World) (p : Nat) (ts : Toks) (en : Nat) : Prop := ∃ A C, Has w p 87 #[.slice A ts.length C, .int .i64 (en : Nat)] ∧ ts.length ≤ C ∧ C ≤ 9223372036854775807 ∧ ts.length ≤ 500 ∧ (ts ≠ [] → ∃ g off, A = some ⟨g, off, none⟩ ∧ g < p ∧ TkIn w g off ts)
theorem PAt.lt {w : World} {p en : Nat} {ts : Toks} (h : PAt w p ts en) : p < w.heap.size := by obtain ⟨A, C, h, _⟩ := h; exact h.lt
theorem PAt.len {w : World} {p en : Nat} {ts : Toks} (h : PAt w p ts en) : ts.length ≤ 500 := by obtain ⟨A, C, _, _, _, h, _⟩ := h; exact h
theorem PAt.below {w w' : World} {p en : Nat} {ts : Toks} (h : PAt w p ts en) (hb : Below w.heap.size w w') : PAt w' p ts en := by
 obtain ⟨A, C, hH, h1, h2, h3, h4⟩ := h
 refine ⟨A, C, hH.below hb hH.lt, h1, h2, h3, fun hne => ?_⟩
 obtain ⟨g, off, e, hg, ht⟩ := h4 hne
 have := hH.lt
 exact ⟨g, off, e, hg, fun i hi j hj => (hb.cell (p := ⟨g, off + i * 4 + j, none⟩) (by show g < _; omega)).trans (ht i hi j hj)⟩
inductive Ask (w : World) (pb : Nat) : Value → (Tk → Bool) → Prop where
 | nm : Ask w pb (.func (.func 113) #[] #[]) isNm
 | be : Ask w pb (.func (.func 152) #[] #[]) begins
 | sg (q : Nat) (x : List UInt8) : q ≠ pb → Has w q 9 #[.string (bs x)] → Ask w pb (.func (.func 151) #[] #[.pointer (some ⟨q, 0, none⟩)]) (isSg x)
 | ki (q k : Nat) : q ≠ pb → Has w q 98 #[.int .i64 (k : Nat)] → Ask w pb (.func (.func 150) #[] #[.pointer (some ⟨q, 0, none⟩)]) (isKi k)
 | wd (q : Nat) (v : Value) (l : List (List UInt8)) : q ≠ pb → Has w q 104 #[v] → Strs w v l → v.ownBlock ≠ some pb → l.length ≤ 100 → Ask w pb (.func (.func 149) #[] #[.pointer (some ⟨q, 0, none⟩)]) (isWd l)
theorem Strs.kp {p : Nat} {w w' : World} {v : Value} {l : List (List UInt8)} (h : Strs w v l) (hk : Kp p w w') (hne : v.ownBlock ≠ some p) : Strs w' v l := by
 rcases h with h | ⟨g, rfl, h⟩
 · exact .inl h
 · exact .inr ⟨g, rfl, h.kp hk (fun e => hne (by rw [← e]; rfl))⟩
theorem Ask.kp {w w' : World} {pb : Nat} {v : Value} {p : Tk → Bool} (h : Ask w pb v p) (hk : Kp pb w w') : Ask w' pb v p := by
 cases h with
 | nm => exact .nm
 | be => exact .be
 | sg q x h1 h2 => exact .sg q x h1 (h2.kp hk h1)
 | ki q k h1 h2 => exact .ki q k h1 (h2.kp hk h1)
 | wd q v l h1 h2 h3 h4 h5 => exact .wd q v l h1 (h2.kp hk h1) (h3.kp hk h4) h4 h5
end
section
open Go.ChangeShapes Go.WideShapes Go.ChangeAt Go.RowKit
theorem Kp.setNew {p : Nat} {w w' : World} (h : Kp p w w') {q : Addr} (hq : w.heap.size ≤ q.block) (v : Value) : Kp p w (w'.setCell q v) :=
 ⟨h.os, h.tape, h.output, by have := h.size; simpa using this, fun k hk hn => (Below.heap_setCell w' q v k (by omega)).trans (h.block k hk hn)⟩
theorem Kp.setP {p : Nat} {w w' : World} (h : Kp p w w') (j : Nat) (v : Value) : Kp p w (w'.setCell ⟨p, j, none⟩ v) :=
 ⟨h.os, h.tape, h.output, by have := h.size; simpa using this, fun k hk hn => (Below.heap_setCell w' ⟨p, j, none⟩ v k (fun e => hn (by rw [e]))).trans (h.block k hk hn)⟩
theorem Has.putP {w : World} {g t : Nat} {cs : Array Value} (h : Has w g t cs) (j : Nat) (v : Value) : Has (w.setCell ⟨g, j, none⟩ v) g t (cs.setIfInBounds j v) := by
 have h' : w.heap[g]? = some (.cells cs t (0, 0)) := h
 show (w.setCell ⟨g, j, none⟩ _).heap[g]? = _
 simp only [World.setCell, Array.getElem?_modify, h', if_pos, Option.map_some]
 rfl
theorem ret_tok {fn : Func} {R : Ending → World → Prop} {a : Act} {W : World} {s g : Nat} {x0 x1 x2 x3 : Value} (hr : fn.results = #[.cell s 100]) (hs : a.tmps[s]?.getD undef = .pointer (some ⟨g, 0, none⟩)) (hH : Has W g 100 #[x0, x1, x2, x3]) (hd : a.defers = []) (h : R (.returned (.agg #[x0, x1, x2, x3])) W) : bodyPost Tryz.prog fn R .ret a W := by
 have q0 := hH.cell 0
 have q1 := hH.cell 1
 have q2 := hH.cell 2
 have q3 := hH.cell 3
 exact bodyPost_ret (by simp only [results, hr]; simp [hs, go_sem, q0, q1, q2, q3]) hd h
theorem ret_node {fn : Func} {R : Ending → World → Prop} {a : Act} {W : World} {s g : Nat} {x0 x1 x2 x3 x4 : Value} (hr : fn.results = #[.cell s 24]) (hs : a.tmps[s]?.getD undef = .pointer (some ⟨g, 0, none⟩)) (hH : Has W g 24 #[x0, x1, x2, x3, x4]) (hd : a.defers = []) (h : R (.returned (.agg #[x0, x1, x2, x3, x4])) W) : bodyPost Tryz.prog fn R .ret a W := by
 have q0 := hH.cell 0
 have q1 := hH.cell 1
 have q2 := hH.cell 2
 have q3 := hH.cell 3
 have q4 := hH.cell 4
 exact bodyPost_ret (by simp only [results, hr]; simp [hs, go_sem, q0, q1, q2, q3, q4]) hd h
theorem Has.set4 {w : World} {g t : Nat} {a b c d : Value} (h : Has w g t #[a, b, c, d]) (x0 x1 x2 x3 : Value) : Has ((((w.setCell ⟨g, 0, none⟩ x0).setCell ⟨g, 1, none⟩ x1).setCell ⟨g, 2, none⟩ x2).setCell ⟨g, 3, none⟩ x3) g t #[x0, x1, x2, x3] := by
 have := (((h.putP 0 x0).putP 1 x1).putP 2 x2).putP 3 x3
 simpa using this
theorem Has.set5 {w : World} {g t : Nat} {a b c d e : Value} (h : Has w g t #[a, b, c, d, e]) (x0 x1 x2 x3 x4 : Value) : Has (((((w.setCell ⟨g, 0, none⟩ x0).setCell ⟨g, 1, none⟩ x1).setCell ⟨g, 2, none⟩ x2).setCell ⟨g, 3, none⟩ x3).setCell ⟨g, 4, none⟩ x4) g t #[x0, x1, x2, x3, x4] := by
 have := ((((h.putP 0 x0).putP 1 x1).putP 2 x2).putP 3 x3).putP 4 x4
 simpa using this
theorem TkIn.kp {w w' : World} {p g off : Nat} {ts : Toks} (h : TkIn w g off ts) (hk : Kp p w w') (hg : g ≠ p) (hl : g < w.heap.size) : TkIn w' g off ts :=
 fun i hi j hj => (World.cell?_of_block (hk.block g hl (fun e => hg (by cases e; rfl)))).trans (h i hi j hj)
end
section
open Go.ChangeShapes Go.WideShapes Go.ChangeAt Go.RowKit
def ndc (n : Nd) (v : Value) : Array Value := #[.string (bs n.op), .string (bs n.s), .int .i64 n.n, .int .i64 n.a, v]
def ndl (l : List Nd) (vs : List Value) : List Value := (l.zip vs).flatMap fun x => (ndc x.1 x.2).toList
inductive NdR (w : World) (P : Nat → Prop) : List Nd → Value → Prop where
 | mk (l : List Nd) (vs : List Value) (v : Value) : vs.length = l.length → w.ownsRow 0 24 5 v l.length (ndl l vs) → (∀ g, v.ownBlock = some g → P g) →
   (∀ i (h : i < l.length) (h' : i < vs.length), NdR w P l[i].l vs[i]) → NdR w P l v
theorem NdR.keep {w w' : World} {P : Nat → Prop} {l : List Nd} {v : Value} (h : NdR w P l v) (hk : ∀ g o, P g → w.heap[g]? = some o → w'.heap[g]? = some o) : NdR w' P l v := by
 induction h with
 | mk l vs v h1 h2 h3 h4 ih => exact .mk l vs v h1 (row_grown h2 (fun g o e ho => hk g o (h3 g e) ho)) h3 ih
theorem NdR.mono {w : World} {P Q : Nat → Prop} {l : List Nd} {v : Value} (h : NdR w P l v) (hk : ∀ g, P g → Q g) : NdR w Q l v := by
 induction h with
 | mk l vs v h1 h2 h3 h4 ih => exact .mk l vs v h1 h2 (fun g e => hk g (h3 g e)) ih
theorem NdR.imp {w : World} {P Q : Nat → Prop} {l : List Nd} {v : Value} (h : NdR w P l v) (hk : ∀ g, P g → g < w.heap.size → Q g) : NdR w Q l v := by
 induction h with
 | mk l vs v h1 h2 h3 h4 ih => exact .mk l vs v h1 h2 (fun g e => hk g (h3 g e) (row_lt h2 e).1) ih
theorem NdR.grow {w w' : World} {P : Nat → Prop} {l : List Nd} {v : Value} (h : NdR w P l v) (hb : Below w.heap.size w w') : NdR w' P l v :=
 h.keep fun g o _ ho => (hb.block g (Array.getElem?_eq_some_iff.1 ho).1).trans ho
theorem NdR.kp {w w' : World} {P : Nat → Prop} {l : List Nd} {v : Value} {p : Nat} (h : NdR w P l v) (hb : Kp p w w') (hp : ∀ g, P g → g ≠ p) : NdR w' P l v :=
 h.keep fun g o hg ho => (hb.block g (Array.getElem?_eq_some_iff.1 ho).1 (fun e => hp g hg (by cases e; rfl))).trans ho
theorem NdR.nil (w : World) (P : Nat → Prop) : NdR w P [] (.slice none 0 0) := .mk [] [] _ rfl ⟨rfl, .inl ⟨rfl, rfl⟩⟩ (fun g e => by cases e) (fun i h => by simp at h)
theorem NdR.slice {w : World} {P : Nat → Prop} {l : List Nd} {v : Value} (h : NdR w P l v) : ∃ A C, v = .slice A l.length C := by
 cases h with
 | mk l vs v h1 h2 h3 h4 =>
   rcases h2.2 with ⟨rfl, h0⟩ | ⟨g, cap, cur, rfl, _⟩
   · exact ⟨none, 0, by rw [h0]⟩
   · exact ⟨_, _, rfl⟩
theorem ndl_cons (n : Nd) (l : List Nd) (v : Value) (vs : List Value) : ndl (n :: l) (v :: vs) = (ndc n v).toList ++ ndl l vs := by simp [ndl]
theorem ndl_append (l m : List Nd) (vs us : List Value) (h : vs.length = l.length) : ndl (l ++ m) (vs ++ us) = ndl l vs ++ ndl m us := by
 unfold ndl
 rw [List.zip_append h.symm, List.flatMap_append]
theorem ndl_one (n : Nd) (v : Value) : ndl [n] [v] = (ndc n v).toList := by simp [ndl]
theorem ndl_get (l : List Nd) : ∀ (vs : List Value) (i : Nat) (h : i < l.length) (h' : i < vs.length) (j : Nat), j < 5 → (ndl l vs)[i * 5 + j]? = (ndc l[i] vs[i])[j]? := by
 induction l with
 | nil => intro vs i h; simp at h
 | cons n l ih =>
   intro vs i h h' j hj
   cases vs with
   | nil => simp at h'
   | cons v vs =>
     rw [ndl_cons]
     have e5 : (ndc n v).toList.length = 5 := rfl
     cases i with
     | zero => rw [List.getElem?_append_left (by rw [e5]; omega)]; simp
     | succ i =>
       simp only [List.length_cons] at h h'
       rw [List.getElem?_append_right (by rw [e5]; omega), e5, show (i + 1) * 5 + j - 5 = i * 5 + j by omega, ih vs i (by omega) (by omega) j hj]
       simp
def NRow (w : World) (base : Nat) (l : List Nd) (v : Value) : Prop := ∃ vs, vs.length = l.length ∧ w.ownsRow base 24 5 v l.length (ndl l vs) ∧ ∀ i (h : i < l.length) (h' : i < vs.length), NdR w (fun g => base ≤ g ∧ v.ownBlock ≠ some g) l[i].l vs[i]
theorem NRow.nil (w : World) (base : Nat) : NRow w base [] (.slice none 0 0) := ⟨[], rfl, ⟨rfl, .inl ⟨rfl, rfl⟩⟩, fun i h => by simp at h⟩
theorem NRow.done {w : World} {base : Nat} {l : List Nd} {v : Value} (h : NRow w base l v) : NdR w (fun g => base ≤ g) l v := by
 obtain ⟨vs, h1, h2, h3⟩ := h
 refine .mk l vs v h1 ⟨h2.1, ?_⟩ (fun g e => (row_lt h2 e).2) (fun i h h' => (h3 i h h').mono fun g hg => hg.1)
 rcases h2.2 with h0 | ⟨g, cap, cur, hv, hb, r⟩
 · exact .inl h0
 · exact .inr ⟨g, cap, cur, hv, Nat.zero_le _, r⟩
theorem NRow.slice {w : World} {base : Nat} {l : List Nd} {v : Value} (h : NRow w base l v) : ∃ A C, v = .slice A l.length C := h.done.slice
theorem NRow.kp {w w' : World} {base p : Nat} {l : List Nd} {v : Value} (h : NRow w base l v) (hk : Kp p w w') (hp : p < base) : NRow w' base l v := by
 obtain ⟨vs, h1, h2, h3⟩ := h
 exact ⟨vs, h1, row_grown h2 (fun g o e ho => (hk.block g (row_lt h2 e).1 (fun e' => by have := (row_lt h2 e).2; cases e'; omega)).trans ho), fun i h h' => (h3 i h h').kp hk (fun g hg => by omega)⟩
theorem Tryz.infoNode : (Tryz.prog.info? 24).map (fun i => (i.zero, i.size, i.bytes)) = some (some (.agg #[.string ⟨#[]⟩, .string ⟨#[]⟩, .int .i64 0, .int .i64 0, .slice none 0 0]), 5, 72) := by kernel_rfl
theorem append_where {P : Program} {w : World} {base : Nat} {t ty e : TypeId} {i : TypeInfo} {z : Value} {size : Nat} (ht : P.underlying t = some (.slice e)) (hi : P.info? e = some i) (hz : i.zero = some z) (hsize : i.size = size) (hsz : 0 < size)
  {v : Value} {n : Nat} {xs : List Value} (hown : w.ownsRow base e size v n xs) {ad : Addr} {m c : Nat} {news : List Value} (hl : news.length = m * size) (hnews : ∀ j u, news[j]? = some u → w.cell? (ad.add j) = some u) (h1 : ∀ u ∈ news, u.oneCell' = true)
  (h63 : n + m ≤ maxLen) (hbytes : (n + m) * i.bytes ≤ 140737488355328) (hm : 0 < m) {v' : Value} {w' : World} (hr : (Builtin.append_ #[t, t] ty #[v, .slice (some ad) m c]).run P w = .ok v' w') : v'.ownBlock = v.ownBlock ∨ v'.ownBlock = some w.heap.size := by
 subst hsize
 have hsmall : n + m ≤ 9223372036854775807 := by simp only [maxLen] at h63; omega
 rcases hown.2 with ⟨rfl, rfl⟩ | ⟨g, cap, cur, rfl, hbg, hg, hnc, hcm, hcs, htake⟩
 · have hr2 := run_append_nil (P := P) w t ty e i z ht hi hz ad m c news hl hnews (by omega) (by omega) (by have hb := hbytes; simp only [Nat.zero_add] at hb; omega)
   rw [hr2] at hr
   cases hr
   exact .inr rfl
 · by_cases hroom : n + m ≤ cap
   · have hfit : n * i.size + news.length ≤ cur.size := by rw [hl, hcs, ← Nat.add_mul]; exact Nat.mul_le_mul_right _ hroom
     have hr2 := run_append_room (P := P) w t ty e i ht hi g n cap cur hg ad m c news hl hnews h1 hroom hfit
     rw [hr2] at hr
     cases hr
     exact .inl rfl
   · have holds : ∀ j u, xs[j]? = some u → w.cell? ((⟨g, 0, none⟩ : Addr).add j) = some u := hown.cells (g := g) rfl
     have hr2 := run_append_grow (P := P) w t ty e i z ht hi hz ⟨g, 0, none⟩ n cap xs hown.1 holds ad m c news hl hnews (by omega) (by omega) (growslice_fits (by omega) hbytes)
     rw [hr2] at hr
     cases hr
     exact .inr rfl
theorem NRow.ne {w : World} {base : Nat} {l : List Nd} {v : Value} (h : NRow w base l v) {q t : Nat} {cs : Array Value} (hq : Has w q t cs) (ht : t ≠ 24) : v.ownBlock ≠ some q := by
 obtain ⟨vs, h1, h2, h3⟩ := h
 rcases h2.2 with ⟨rfl, _⟩ | ⟨g, cap, cur, rfl, _, hg, _⟩
 · intro e; cases e
 · intro e
   have e' : g = q := by cases e; rfl
   subst e'
   have hq' : w.heap[g]? = some (.cells cs t (0, 0)) := hq
   rw [hg] at hq'
   cases hq'
   exact ht rfl
theorem Has.ne {w : World} {g q t u : Nat} {cs ds : Array Value} (h : Has w g t cs) (k : Has w q u ds) (ht : t ≠ u) : g ≠ q := by
 rintro rfl
 have h' : w.heap[g]? = some (.cells cs t (0, 0)) := h
 have k' : w.heap[g]? = some (.cells ds u (0, 0)) := k
 rw [h'] at k'
 cases k'
 exact ht rfl
theorem NRow.lt {w : World} {base : Nat} {l : List Nd} {v : Value} (h : NRow w base l v) {g : Nat} (e : v.ownBlock = some g) : g < w.heap.size := by
 obtain ⟨vs, h1, h2, h3⟩ := h
 exact (row_lt h2 e).1
theorem NdR.single {W : World} {P : Nat → Prop} {n : Nd} {v : Value} {G : Nat} (hG : Has W G 24 (ndc n v)) (hP : P G) (hn : NdR W P n.l v) : NdR W P [n] (.slice (some ⟨G, 0, none⟩) 1 1) := by
 refine .mk [n] [v] _ rfl ⟨by rw [ndl_one]; rfl, .inr ⟨G, 1, _, rfl, Nat.zero_le _, hG, Nat.le_refl _, by decide, rfl, ?_⟩⟩ (fun g e => by cases e; exact hP) (fun i h h' => ?_)
 · rw [ndl_one]; rfl
 · have : i = 0 := by simp at h; omega
   subst this
   exact hn
end
section
open Go.ChangeShapes Go.WideShapes Go.ChangeAt Go.RowKit
structure RdrAt (w : World) (rb : Nat) (A : Option Addr) (C : Nat) (ts : Toks) (i en : Nat) (bad k : Int) : Prop where
 has : Has w rb 61 #[.slice A ts.length C, .int .i64 (i : Nat), .int .i64 (en : Nat), .int .i64 bad, .int .i64 k]
 tok : ∀ j, j < ts.length → ∃ g off, A = some ⟨g, off, none⟩ ∧ g < w.heap.size ∧ g ≠ rb ∧ TkIn w g off ts
 le : i ≤ ts.length
 few : ts.length ≤ 500
 end' : en ≤ 2000
theorem place_nil {ts : Toks} {i en : Nat} (h : ¬ i < ts.length) : place en (ts.drop i) = en := by
 rw [List.drop_eq_nil_of_le (by omega)]
 rfl
theorem place_at {ts : Toks} {i en : Nat} (h : i < ts.length) : place en (ts.drop i) = ts[i].2 := by
 rw [List.drop_eq_getElem_cons h]
 rfl
theorem rplace_c {w : World} {rb : Nat} {A : Option Addr} {C : Nat} {ts : Toks} {i en : Nat} {bad k : Int} (h : RdrAt w rb A C ts i en bad k) : Calls Tryz.prog 42 #[.pointer (some ⟨rb, 0, none⟩)] w fun e w' => e = .returned (.int .i64 (place en (ts.drop i) : Nat)) ∧ ∃ q, w' = w.drewN q := by
 have c0 := h.has.cell 0
 have c1 := h.has.cell 1
 have c2 := h.has.cell 2
 simp only [ga1, gz1, gs1] at c0 c1 c2
 have hlt := h.has.lt
 have hf := h.few
 have hle := h.le
 by_cases hi : i < ts.length
 · obtain ⟨g, off, rfl, hg, hne, htk⟩ := h.tok i hi
   rw [place_at hi]
   have t3 := htk i hi 3 (by decide)
   generalize ts[i] = t at t3 ⊢
   generalize ts.length = L at *
   have hii : (i : Int) < (L : Int) := by omega
   obtain ⟨⟨tk, tss, tn⟩, ta⟩ := t
   simp only [tkv, List.getElem?_toArray, List.getElem?_cons_zero, List.getElem?_cons_succ] at t3
   clear h htk
   go_enter Tryz.func42, Tryz.ntmps42
   go_wp2
   go_quiet (fail)
   go_wp2
   go_quiet (fail)
   go_wp2
   go_ret
   exact ⟨rfl, _, World.drewN_drewN _ _ _⟩
 · rw [place_nil hi]
   generalize ts.length = L at *
   have hii : ¬ (i : Int) < (L : Int) := by omega
   clear h
   go_enter Tryz.func42, Tryz.ntmps42
   go_wp2
   go_quiet (fail)
   go_wp2
   go_ret
   exact ⟨rfl, _, rfl⟩
end
section
open Go.ChangeShapes Go.WideShapes Go.ChangeAt Go.RowKit
def comes (ts : Toks) (i : Nat) (s : List UInt8) : Bool := match ts[i]? with
 | none => false
 | some t => (t.1.kind == 0 || t.1.kind == 3) && t.1.s == s
theorem ris_c {w : World} {rb : Nat} {A : Option Addr} {C : Nat} {ts : Toks} {i en : Nat} {k : Int} (h : RdrAt w rb A C ts i en 0 k) (s : List UInt8) : Calls Tryz.prog 43 #[.pointer (some ⟨rb, 0, none⟩), .string (bs s)] w fun e w' => e = .returned (.bool (comes ts i s)) ∧ ∃ q, w' = w.drewN q := by
 have c0 := h.has.cell 0
 have c1 := h.has.cell 1
 have c3 := h.has.cell 3
 simp only [ga1, gz1, gs1] at c0 c1 c3
 have hlt := h.has.lt
 have hf := h.few
 have hle := h.le
 unfold comes
 by_cases hi : i < ts.length
 · obtain ⟨g, off, rfl, hg, hne, htk⟩ := h.tok i hi
   rw [List.getElem?_eq_getElem hi]
   have t0 := htk i hi 0 (by decide)
   have t1 := htk i hi 1 (by decide)
   generalize ts[i] = t at t0 t1 ⊢
   generalize ts.length = L at *
   have hii : (i : Int) < (L : Int) := by omega
   obtain ⟨⟨tk, tss, tn⟩, ta⟩ := t
   simp only [tkv, List.getElem?_toArray, List.getElem?_cons_zero, List.getElem?_cons_succ] at t0 t1 ⊢
   have hx := bs_toList tss
   have hy := bs_toList s
   rw [Nat.add_zero] at t0
   clear h htk
   by_cases k0 : tk = 0
   · have k1 : ((tk : Nat) : Int) = 0 := by omega
     cases hc : (tss == s)
     all_goals
      go_enter Tryz.func43, Tryz.ntmps43
      go_wp2
      go_quiet (fail)
      go_wp2
      go_ret
      exact ⟨by simp [k0], _, rfl⟩
   · have k1 : ¬ ((tk : Nat) : Int) = 0 := by omega
     by_cases k3 : tk = 3
     · have k4 : ((tk : Nat) : Int) = 3 := by omega
       cases hc : (tss == s)
       all_goals
        go_enter Tryz.func43, Tryz.ntmps43
        go_wp2
        go_quiet (fail)
        go_wp2
        go_ret
        exact ⟨by simp [k3], _, rfl⟩
     · have k4 : ¬ ((tk : Nat) : Int) = 3 := by omega
       go_enter Tryz.func43, Tryz.ntmps43
       go_wp2
       go_quiet (fail)
       go_wp2
       go_ret
       exact ⟨by simp [k0, k3], _, rfl⟩
 · rw [List.getElem?_eq_none (by omega)]
   generalize ts.length = L at *
   have hii : ¬ (i : Int) < (L : Int) := by omega
   clear h
   go_enter Tryz.func43, Tryz.ntmps43
   go_wp2
   go_quiet (fail)
   go_wp2
   go_ret
   exact ⟨rfl, _, rfl⟩
end
end Go.Proofs.YthndifegfmjpbaaGreatDoor
