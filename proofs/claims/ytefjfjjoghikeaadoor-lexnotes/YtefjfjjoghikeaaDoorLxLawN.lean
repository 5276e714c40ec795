/- LexNotes, walked. -/
import Derived.Test.YtefjfjjoghikeaaDoorLxLawJ2
namespace Go.Proofs.YtefjfjjoghikeaaDoor
open Go.ChangeShapes Go.WideShapes Go.ChangeAt Go.RowKit
set_option linter.unusedVariables false

/-- What a note is made of: the first k bytes but line's ends. -/
def inNote (y : List UInt8) (k : Nat) : List UInt8 := (y.take k).filter fun c => !(c == 10)

theorem inNote_len (y : List UInt8) (k : Nat) : (inNote y k).length ≤ k := by
  unfold inNote
  have := List.length_filter_le (fun c : UInt8 => !(c == 10)) (y.take k)
  rw [List.length_take] at this
  omega

theorem inNote_ne (y : List UInt8) (k : Nat) : ∀ c ∈ inNote y k, c ≠ 10 := by
  intro c hc
  have := (List.mem_filter.1 hc).2
  simpa using this

theorem inNote_succ (y : List UInt8) (k : Nat) (h : k < y.length) : inNote y (k + 1) = if y[k] = 10 then inNote y k else inNote y k ++ [y[k]] := by
  unfold inNote
  rw [List.take_succ_eq_append_getElem h, List.filter_append]
  by_cases e : y[k] = 10
  · simp [e]
  · simp [e]

theorem inNote_10 (y : List UInt8) (k : Nat) (h : k < y.length) (e : y[k]'h = 10) : inNote y (k + 1) = inNote y k := by
  rw [inNote_succ y k h, if_pos e]

theorem inNote_no (y : List UInt8) (k : Nat) (h : k < y.length) (e : ¬ y[k]'h = 10) : inNote y (k + 1) = inNote y k ++ [y[k]'h] := by
  rw [inNote_succ y k h, if_neg e]

def head2 (x : List UInt8) : List UInt8 := 47 :: 47 :: x

set_option maxRecDepth 100000 in
set_option maxHeartbeats 2000000 in
theorem notes_long (s y : List UInt8) (w : World) (hs : s.length ≤ maxLen) (h : 2000 < s.length) : Calls Tryd.prog 7 #[.string (bs s), .string (bs y)] w fun e w' => e = .returned (.bool true) ∧ Below w.heap.size w w' := by
  unfold maxLen at hs
  have sa := bs_size s
  have hal := alive_c w
  have h2 : (2000 : Int) < ((bs s).size : Int) := by omega
  go_enter Tryd.func7, Tryd.ntmps7
  go_wp2_with (go_at_call 8; refine hal.mono ?_; rintro e w1 ⟨rfl, hb1⟩)
  go_ret
  exact ⟨rfl, hb1⟩

set_option maxRecDepth 100000 in
set_option maxHeartbeats 2000000 in
theorem notes_walk (s y : List UInt8) (w : World) (hs : s.length ≤ 2000) (hy : y.length ≤ maxLen) : Calls Tryd.prog 7 #[.string (bs s), .string (bs y)] w fun e w' => e = .returned (.bool true) ∧ Below w.heap.size w w' := by
  unfold maxLen at hy
  have sa := bs_size s
  have sy := bs_size y
  have hal := fun W => alive_c W
  have h2 : ((bs s).size : Int) ≤ 2000 := by omega
  have HY : Hid ((bs y).size = y.length) := sy
  have HS : Hid ((bs s).size = s.length) := sa
  have hy2 : (bs y).size ≤ 9223372036854775807 := by omega
  clear sa sy
  go_enter Tryd.func7, Tryd.ntmps7
  go_wp2
  go_loop [5, 6] (fun n z => ∃ k : Nat, k ≤ y.length ∧ k ≤ 100 ∧ z = .int .i64 (k : Nat) ∧ n = .string (bs (head2 (inNote y k)))) (fun _ z => 100 - (intOf z).toNat)
  case atStart => exact ⟨0, Nat.zero_le _, Nat.zero_le _, rfl, by simp [inNote, head2]; rfl⟩
  case round =>
    obtain ⟨k, hk, hk1, rfl, rfl⟩ := hrel
    have hil := inNote_len y k
    obtain ⟨X, hX⟩ : ∃ X, X = inNote y k := ⟨_, rfl⟩
    rw [← hX] at hil ⊢
    have hXs : (bs (head2 X)).size = X.length + 2 := by rw [bs_size]; simp [head2]
    have hXs2 : (bs (head2 X)).size ≤ 102 := by omega
    by_cases hc : k < y.length ∧ k < 100
    · obtain ⟨hc1, hc2⟩ := hc
      have b1 : k < (bs y).size := by rw [HY.out]; exact hc1
      have b2 : ((k : Nat) : Int) < ((bs y).size : Int) := by omega
      have b4 : ((k : Nat) : Int) + 1 ≤ ((bs y).size : Int) := by omega
      have hg := bs_get y k b1
      have hx2 : (bs y).extract k (k + 1) = bs [y[k]] := by rw [bs_extract, List.drop_eq_getElem_cons hc1, Nat.add_sub_cancel_left]; rfl
      have hcat : bs (head2 X) ++ bs [y[k]] = bs (head2 (X ++ [y[k]])) := by rw [bs_cat]; rfl
      have hs1 : (bs [y[k]]).size = 1 := by rw [bs_size]; rfl
      by_cases e : y[k]'hc1 = 10
      · have hsucc := inNote_10 y k hc1 e
        rw [← hX] at hsucc
        have b5 : ((((bs y)[k]'b1).toNat : Nat) : Int) = 10 := by rw [hg, e]; rfl
        have HSu : Hid (inNote y (k + 1) = X) := hsucc
        clear hsucc hcat hg hX hXs hs1
        go_wp2
        go_round
        case rel => exact ⟨k + 1, by omega, by omega, by go_num, by rw [HSu.out]⟩
        case measure => simp [intOf]; omega
      · have hsucc := inNote_no y k hc1 e
        rw [← hX] at hsucc
        have b5 : ¬ ((((bs y)[k]'b1).toNat : Nat) : Int) = 10 := by
          rw [hg]; intro e'; exact e (UInt8.toNat_inj.1 (by simp; omega))
        have HSu : Hid (inNote y (k + 1) = X ++ [y[k]]) := hsucc
        have HC : Hid (bs (head2 X) ++ (bs y).extract k (k + 1) = bs (head2 (X ++ [y[k]]))) := by show _ = _; rw [hx2]; exact hcat
        have hs2 : ((bs y).extract k (k + 1)).size = 1 := by rw [hx2]; exact hs1
        clear hsucc hcat hg hX hXs hs1 hx2
        go_wp2
        go_round
        case rel => exact ⟨k + 1, by omega, by omega, by go_num, by rw [HSu.out, ← HC.out]⟩
        case measure => simp [intOf]; omega
    · have hex : k < y.length → ¬ k < 100 := fun h1 h2 => hc ⟨h1, h2⟩
      clear hc
      obtain ⟨nt, hnt⟩ : ∃ nt, nt = note X := ⟨_, rfl⟩
      obtain ⟨L, hL⟩ : ∃ L, L = nt ++ s ++ 10 :: nt := ⟨_, rfl⟩
      have e1 : bs (head2 X) ++ ⟨#[10]⟩ = bs nt := by rw [show (⟨#[10]⟩ : ByteArray) = bs [10] from rfl, bs_cat, hnt]; rfl
      have e2 : bs nt ++ bs s = bs (nt ++ s) := bs_cat _ _
      have e3 : bs (nt ++ s) ++ ⟨#[10]⟩ = bs (nt ++ s ++ [10]) := by rw [show (⟨#[10]⟩ : ByteArray) = bs [10] from rfl, bs_cat]
      have e4 : bs (nt ++ s ++ [10]) ++ bs nt = bs L := by rw [bs_cat, hL]; simp
      have ln : nt.length = X.length + 3 := by rw [hnt, note_len]
      have n1 : (bs nt).size = nt.length := bs_size _
      have n2 : (bs (nt ++ s)).size = nt.length + s.length := by rw [bs_size, List.length_append]
      have n3 : (bs (nt ++ s ++ [10])).size = nt.length + s.length + 1 := by rw [bs_size]; simp; omega
      have n4 : (bs L).size = L.length := bs_size _
      have ll : L.length = nt.length + s.length + 1 + nt.length := by rw [hL]; simp; omega
      have hsc : L.length ≤ 2000 → Scan L = shift nt.length (Scan s) := by
        intro h
        rw [hL, hnt] at h ⊢
        exact Scan_noted (by rw [hX]; exact inNote_ne y k) h
      generalize nt ++ s ++ [10] = t2 at e3 e4 n3
      generalize nt ++ s = t1 at e2 e3 n2
      obtain ⟨q, hq⟩ : ∃ q, q = nt.length := ⟨_, rfl⟩
      rw [← hq] at n1 n2 n3 ll hsc ln
      have m1 : (bs nt).size ≤ 200 := by omega
      have m2 : (bs t1).size ≤ 3000 := by omega
      have m3 : (bs t2).size ≤ 3000 := by omega
      have m4 : (bs L).size ≤ 3000 := by omega
      have H1 : Hid ((bs nt).size = q) := n1
      have H4 : Hid ((bs L).size = L.length) := n4
      clear n1 n2 n3 n4 hL hnt hX hXs hq ln ll
      by_cases hlong : 2000 < L.length
      · have g1 : (2000 : Int) < ((bs L).size : Int) := by rw [H4.out]; omega
        clear hsc
        by_cases hky : k < y.length
        · have b2 : ((k : Nat) : Int) < ((bs y).size : Int) := by rw [HY.out]; omega
          have b3 : ¬ ((k : Nat) : Int) < 100 := by have := hex hky; omega
          clear hex
          go_wp2_with (go_at_call 8; refine (hal _).mono ?_; rintro e w1 ⟨rfl, hb1⟩)
          go_ret
          exact ⟨rfl, hb1⟩
        · have b2 : ¬ ((k : Nat) : Int) < ((bs y).size : Int) := by rw [HY.out]; omega
          clear hex
          go_wp2_with (go_at_call 8; refine (hal _).mono ?_; rintro e w1 ⟨rfl, hb1⟩)
          go_ret
          exact ⟨rfl, hb1⟩
      · have g1 : ¬ (2000 : Int) < ((bs L).size : Int) := by rw [H4.out]; omega
        have hsc := hsc (by omega)
        cases es : Scan s with
        | error r =>
          obtain ⟨er, o⟩ := r
          rw [es] at hsc
          have hA := fun W => scan_err_c W s (by unfold maxLen; omega) es
          have hB := fun W => scan_err_c W L (by unfold maxLen; omega) (er := er) (o := o + q) hsc
          have her := Scan_err es
          have her' : ¬ ((er : Nat) : Int) = 0 := by omega
          have ho2 : o ≤ 2000 := by omega
          have hfin : ((o + q : Nat) : Int) = ((o : Nat) : Int) + ((bs nt).size : Int) := by rw [H1.out]; omega
          rw [hfin] at hB
          clear hsc es her hfin
          by_cases hky : k < y.length
          · have b2 : ((k : Nat) : Int) < ((bs y).size : Int) := by rw [HY.out]; omega
            have b3 : ¬ ((k : Nat) : Int) < 100 := by have := hex hky; omega
            clear hex
            go_wp2_with (first
              | (go_at_call 8; refine (hal _).mono ?_; rintro e w4 ⟨rfl, hb4⟩)
              | (go_at_call 11; refine at_argL 0 (.string (bs s)) rfl ?_; refine (hA _).mono ?_; rintro e w1 ⟨rfl, hb1⟩)
              | (go_at_call 11; refine at_argL 0 (.string (bs L)) rfl ?_; refine (hB _).mono ?_; rintro e w2 ⟨rfl, hb2⟩))
            go_loop [14] (fun z => z = .int .i64 0) (fun _ => 0)
            case atStart => rfl
            case round =>
              subst hrel
              go_wp2_with (first
                | (go_at_call 8; refine (hal _).mono ?_; rintro e w4 ⟨rfl, hb4⟩)
                | (go_at_call 13; refine (same_c _ _ _ [] (TokAt.nil _) (TokAt.nil _) (by simp)).mono ?_; rintro e w3 ⟨rfl, hb3⟩))
              go_ret
              exact ⟨ret_bool (bne_iff_ne.2 her'), below2 (below3 hb1 hb2 hb3) hb4⟩
          · have b2 : ¬ ((k : Nat) : Int) < ((bs y).size : Int) := by rw [HY.out]; omega
            clear hex
            go_wp2_with (first
              | (go_at_call 8; refine (hal _).mono ?_; rintro e w4 ⟨rfl, hb4⟩)
              | (go_at_call 11; refine at_argL 0 (.string (bs s)) rfl ?_; refine (hA _).mono ?_; rintro e w1 ⟨rfl, hb1⟩)
              | (go_at_call 11; refine at_argL 0 (.string (bs L)) rfl ?_; refine (hB _).mono ?_; rintro e w2 ⟨rfl, hb2⟩))
            go_loop [14] (fun z => z = .int .i64 0) (fun _ => 0)
            case atStart => rfl
            case round =>
              subst hrel
              go_wp2_with (first
                | (go_at_call 8; refine (hal _).mono ?_; rintro e w4 ⟨rfl, hb4⟩)
                | (go_at_call 13; refine (same_c _ _ _ [] (TokAt.nil _) (TokAt.nil _) (by simp)).mono ?_; rintro e w3 ⟨rfl, hb3⟩))
              go_ret
              exact ⟨ret_bool (bne_iff_ne.2 her'), below2 (below3 hb1 hb2 hb3) hb4⟩
        | ok ts =>
          rw [es] at hsc
          have hA := fun W => scan_ok_c W s (by unfold maxLen; omega) es
          have hB := fun W => scan_ok_c W L (by unfold maxLen; omega) (ts := further q ts) hsc
          have hpl := (Scan_stands es).lt
          have hm5 := (Scan_len es).1
          rw [further_len] at hB
          obtain ⟨M, hM⟩ : ∃ M, M = ts.length := ⟨_, rfl⟩
          rw [← hM] at hA hB hm5
          have HM : Hid (M = ts.length) := hM
          clear hM hsc es
          by_cases hky : k < y.length
          · have b2 : ((k : Nat) : Int) < ((bs y).size : Int) := by rw [HY.out]; omega
            have b3 : ¬ ((k : Nat) : Int) < 100 := by have := hex hky; omega
            clear hex
            go_wp2_with (first
              | (go_at_call 8; refine (hal _).mono ?_; rintro e w4 ⟨rfl, hb4⟩)
              | (go_at_call 11; refine at_argL 0 (.string (bs s)) rfl ?_; refine (hA _).mono ?_; rintro e w1 ⟨A1, C1, rfl, hb1, hr1⟩)
              | (go_at_call 11; refine at_argL 0 (.string (bs L)) rfl ?_; refine (hB _).mono ?_; rintro e w2 ⟨A2, C2, rfl, hb2, hr2⟩))
            have hI := JInv.first (f := fun _ p => p + q) (Below.refl w.heap.size w) (TokRow.empty w w.heap.size) hb1 hr1 hb2 hr2
            clear hr1 hr2 hA hB
            go_loopw [14] (fun z wr => ∃ j : Nat, j ≤ M ∧ z = .int .i64 (j : Nat) ∧ JInv w w w1 wr (.slice none 0 0) (.slice A1 M C1) (.slice A2 M C2) [] ts (further q ts) (fun _ p => p + q) j) (fun z _ => M - (intOf z).toNat)
            case atStart => exact ⟨0, Nat.zero_le _, rfl, hI⟩
            case round =>
              clear hI hb1 hb2
              obtain ⟨j, hj, rfl, hI⟩ := hrel
              by_cases hlt : j < M
              · have hlt' : j < ts.length := by rw [← HM.out]; exact hlt
                have hlt2 : ((j : Nat) : Int) < ((M : Nat) : Int) := by omega
                have hkt : j < (turned (fun _ p => p + q) j ts).length := by rw [turned_len]; exact hlt'
                obtain ⟨g, C, e, h1, h4, h5, h6, ⟨cur, hH, _⟩, hc⟩ := hI.b.lies (by intro e; rw [e] at hkt; simp at hkt)
                injection e with e1 e2 e3
                subst e1 e3
                have c3 : wr.cell? ⟨g, j * 4 + 3, none⟩ = some (.int .i64 (ts[j].2 : Nat)) := by
                  have := hc j hkt 3 (by decide)
                  rw [turned_get _ _ _ _ hlt', if_neg (by omega)] at this
                  exact this
                have f3 := hH.free (j * 4 + 3)
                have hp := hpl ts[j] (List.getElem_mem hlt')
                have hstep := fun z hz => hI.step (z := z) hlt' hz
                generalize ts[j].2 = p at c3 hp hstep
                have hp2 : p ≤ 2000 := by omega
                have HE : Hid (((p : Nat) : Int) + ((bs nt).size : Int) = ((p + q : Nat) : Int)) := by show _ = _; rw [H1.out]; omega
                clear hc hH hI
                go_wp2
                go_roundw
                case rel => exact ⟨j + 1, by omega, by go_num, hstep _ HE.out⟩
                case measure => simp [intOf]; omega
              · have hj2 : j = M := by omega
                subst hj2
                have hlt2 : ¬ ((j : Nat) : Int) < ((j : Nat) : Int) := by omega
                obtain ⟨hbw, -, hrb, hrn, -, -, -, -⟩ := hI
                rw [HM.out, turned_further, ← HM.out] at hrb
                go_wp2_with (first
                  | (go_at_call 8; refine (hal _).mono ?_; rintro e w4 ⟨rfl, hb4⟩)
                  | (go_at_call 13; refine (same_c _ _ _ (further q ts) hrb.at_ hrn.at_ (by rw [further_len, ← HM.out]; omega)).mono ?_; rintro e w3 ⟨rfl, hb3⟩))
                go_ret
                exact ⟨rfl, below3 hbw hb3 hb4⟩
          · have b2 : ¬ ((k : Nat) : Int) < ((bs y).size : Int) := by rw [HY.out]; omega
            clear hex
            go_wp2_with (first
              | (go_at_call 8; refine (hal _).mono ?_; rintro e w4 ⟨rfl, hb4⟩)
              | (go_at_call 11; refine at_argL 0 (.string (bs s)) rfl ?_; refine (hA _).mono ?_; rintro e w1 ⟨A1, C1, rfl, hb1, hr1⟩)
              | (go_at_call 11; refine at_argL 0 (.string (bs L)) rfl ?_; refine (hB _).mono ?_; rintro e w2 ⟨A2, C2, rfl, hb2, hr2⟩))
            have hI := JInv.first (f := fun _ p => p + q) (Below.refl w.heap.size w) (TokRow.empty w w.heap.size) hb1 hr1 hb2 hr2
            clear hr1 hr2 hA hB
            go_loopw [14] (fun z wr => ∃ j : Nat, j ≤ M ∧ z = .int .i64 (j : Nat) ∧ JInv w w w1 wr (.slice none 0 0) (.slice A1 M C1) (.slice A2 M C2) [] ts (further q ts) (fun _ p => p + q) j) (fun z _ => M - (intOf z).toNat)
            case atStart => exact ⟨0, Nat.zero_le _, rfl, hI⟩
            case round =>
              clear hI hb1 hb2
              obtain ⟨j, hj, rfl, hI⟩ := hrel
              by_cases hlt : j < M
              · have hlt' : j < ts.length := by rw [← HM.out]; exact hlt
                have hlt2 : ((j : Nat) : Int) < ((M : Nat) : Int) := by omega
                have hkt : j < (turned (fun _ p => p + q) j ts).length := by rw [turned_len]; exact hlt'
                obtain ⟨g, C, e, h1, h4, h5, h6, ⟨cur, hH, _⟩, hc⟩ := hI.b.lies (by intro e; rw [e] at hkt; simp at hkt)
                injection e with e1 e2 e3
                subst e1 e3
                have c3 : wr.cell? ⟨g, j * 4 + 3, none⟩ = some (.int .i64 (ts[j].2 : Nat)) := by
                  have := hc j hkt 3 (by decide)
                  rw [turned_get _ _ _ _ hlt', if_neg (by omega)] at this
                  exact this
                have f3 := hH.free (j * 4 + 3)
                have hp := hpl ts[j] (List.getElem_mem hlt')
                have hstep := fun z hz => hI.step (z := z) hlt' hz
                generalize ts[j].2 = p at c3 hp hstep
                have hp2 : p ≤ 2000 := by omega
                have HE : Hid (((p : Nat) : Int) + ((bs nt).size : Int) = ((p + q : Nat) : Int)) := by show _ = _; rw [H1.out]; omega
                clear hc hH hI
                go_wp2
                go_roundw
                case rel => exact ⟨j + 1, by omega, by go_num, hstep _ HE.out⟩
                case measure => simp [intOf]; omega
              · have hj2 : j = M := by omega
                subst hj2
                have hlt2 : ¬ ((j : Nat) : Int) < ((j : Nat) : Int) := by omega
                obtain ⟨hbw, -, hrb, hrn, -, -, -, -⟩ := hI
                rw [HM.out, turned_further, ← HM.out] at hrb
                go_wp2_with (first
                  | (go_at_call 8; refine (hal _).mono ?_; rintro e w4 ⟨rfl, hb4⟩)
                  | (go_at_call 13; refine (same_c _ _ _ (further q ts) hrb.at_ hrn.at_ (by rw [further_len, ← HM.out]; omega)).mono ?_; rintro e w3 ⟨rfl, hb3⟩))
                go_ret
                exact ⟨rfl, below3 hbw hb3 hb4⟩

theorem notes_all (s y : List UInt8) (w : World) (hs : s.length ≤ maxLen) (hy : y.length ≤ maxLen) : Calls Tryd.prog 7 #[.string (bs s), .string (bs y)] w fun e w' => e = .returned (.bool true) ∧ Below w.heap.size w w' := by
  by_cases h : 2000 < s.length
  · exact notes_long s y w hs h
  · exact notes_walk s y w (by omega) hy
end Go.Proofs.YtefjfjjoghikeaaDoor
