/- The reference's Holds, Read; writes, Writes. -/
import Derived.Test.YtalcalecmklcoaaRfRep
namespace Go.Proofs.Ytalcalecmklcoaa
open Go.ChangeShapes Go.WideShapes Go.ChangeAt Go.RowKit
set_option linter.unusedVariables false

variable {w w' : World} {q m : Nat} {s : DS} {Fl Ll : List RW} {sp : List Nat} {vF vL vS : Value}

def Hits (I : Nat) (e : AE) : Prop := e.sync = false ∧ e.i = I

theorem fold_no (I : Nat) (l : List AE) : ∀ f : Nat → Nat → Nat, (∀ e ∈ l, ¬ Hits I e) → l.foldl upF f I = f I := by
  induction l with
  | nil => intro f _; rfl
  | cons e l ih =>
    intro f h
    rw [List.foldl_cons, ih _ (fun d hd => h d (by simp [hd]))]
    unfold upF
    rw [if_neg (fun hh => h e (by simp) ⟨hh.1, hh.2.symm⟩)]

theorem fold_hit (I : Nat) (l : List AE) (k : Nat) (e : AE) (h : l[k]? = some e) (he : Hits I e) (hno : ∀ d ∈ l.drop (k + 1), ¬ Hits I d) (f : Nat → Nat → Nat) : l.foldl upF f I = e.b := by
  have hk := (List.getElem?_eq_some_iff.1 h).1
  have hsplit : l = l.take k ++ e :: l.drop (k + 1) := by
    rw [← (List.getElem?_eq_some_iff.1 h).2, ← List.drop_eq_getElem_cons hk, List.take_append_drop]
  rw [hsplit, List.foldl_append, List.foldl_cons, fold_no I _ _ hno]
  unfold upF
  rw [if_pos ⟨he.1, he.2.symm⟩]

/-- A slice of entries. -/
def RowIs (w : World) (a : Option Addr) (n : Nat) (l : List RW) : Prop := l.length = n ∧ ∀ k, k < n → ∃ x r, a = some ⟨x, 0, none⟩ ∧ x < w.heap.size ∧ l[k]? = some r ∧ ∀ j u, (rcell r)[j]? = some u → w.cell? ⟨x, k * 5 + j, none⟩ = some u

theorem row_is {w : World} {v : Value} {l : List RW} (h : w.ownsRow 0 78 5 v l.length (l.flatMap rcell)) : ∃ a cap, v = .slice a l.length cap ∧ l.length ≤ cap ∧ (a = none → l.length = 0 ∧ cap = 0) ∧ (∀ ad, a = some ad → ∃ b, ad = ⟨b, 0, none⟩) ∧ RowIs w a l.length l := by
  obtain ⟨a, cap, hv, hc, hn, hs, _⟩ := own_slice h
  refine ⟨a, cap, hv, hc, hn, hs, rfl, fun k hk => ?_⟩
  obtain ⟨x, cap', r, e, h1, _, h2, h3⟩ := row_at rcell_len h rfl k hk
  rw [hv] at e
  injection e with e1 _ _
  exact ⟨x, r, e1, h1, h2, h3⟩

theorem RowIs.take {a : Option Addr} {n : Nat} {l : List RW} (h : RowIs w a n l) (t : Nat) (ht : t ≤ n) : RowIs w a t (l.take t) := by
  refine ⟨by rw [List.length_take, h.1]; omega, fun k hk => ?_⟩
  obtain ⟨x, r, h1, h2, h3, h4⟩ := h.2 k (by omega)
  exact ⟨x, r, h1, h2, by rw [List.getElem?_take_of_lt hk]; exact h3, h4⟩

theorem RowIs.below {a : Option Addr} {n : Nat} {l : List RW} (h : RowIs w a n l) (hb : Below w.heap.size w w') : RowIs w' a n l := by
  refine ⟨h.1, fun k hk => ?_⟩
  obtain ⟨x, r, h1, h2, h3, h4⟩ := h.2 k hk
  exact ⟨x, r, h1, Nat.lt_of_lt_of_le h2 hb.size, h3, fun j u hu => (hb.cell (p := ⟨x, k * 5 + j, none⟩) h2).trans (h4 j u hu)⟩

theorem full64 (b : Nat → Nat) : cellsN .u8 64 (full b 64) = cellsN .u8 64 b := cellsN_congr _ _ _ _ (fun j hj => by unfold full; rw [if_pos hj])
theorem full0 (b : Nat → Nat) : cellsN .u8 64 (full b 0) = cellsN .u8 64 (fun _ => 0) := cellsN_congr _ _ _ _ (fun j hj => by unfold full; rw [if_neg (by omega)])

set_option maxRecDepth 100000 in
set_option maxHeartbeats 4000000 in
theorem holdsR (h : RefAt w q s m Fl Ll sp vF vL vS) (I : Nat) (hlen : Ll.length ≤ 100000) (hlenF : Fl.length ≤ 100000) :
    Calls Try.prog 46 #[ptr q, .int .i64 (I : Nat)] w fun e w' => e = .returned (.slice (some ⟨w.heap.size, 0, none⟩) 64 64) ∧ Has w' w.heap.size 5 (cellsN .u8 64 (holds s I)) ∧ Below w.heap.size w w' := by
  have h1 : w.cell? ⟨q, 1, none⟩ = some vF := h.cell 1
  have h2 : w.cell? ⟨q, 2, none⟩ = some vL := h.cell 2
  have hlb := h.lb
  have hfb := h.fb
  have hholds : holds s = (Ll.map (·.e)).foldl upF ((Fl.map (·.e)).foldl upF (fun _ _ => 0)) := by unfold holds; rw [h.log, h.fst]
  obtain ⟨aL, cL, rfl, hcL, hnL, hsL, hrL⟩ := row_is h.lr
  obtain ⟨aF, cF, rfl, hcF, hnF, hsF, hrF⟩ := row_is h.fr
  obtain ⟨Z, hZ⟩ : ∃ Z, Z = holds s I := ⟨_, rfl⟩
  rw [← hZ]
  have HZ : Hid (Z = (Ll.map (·.e)).foldl upF ((Fl.map (·.e)).foldl upF (fun _ _ => 0)) I) := by show _ = _; rw [hZ, hholds]
  have hfu := fun b => full_any b 64 64
  have hfz := full_any (fun _ => 0) 0 0 none w (by unfold maxLen; omega) (.inl rfl)
  rw [full0] at hfz
  clear h hZ hholds hcL hcF hsL hsF hnL hnF
  obtain ⟨nL, hnL⟩ : ∃ nL, nL = Ll.length := ⟨_, rfl⟩
  obtain ⟨nF, hnF⟩ : ∃ nF, nF = Fl.length := ⟨_, rfl⟩
  rw [← hnL] at h2 hlen hrL
  rw [← hnF] at h1 hlenF hrF
  have HnL : Hid (nL = Ll.length) := hnL
  have HnF : Hid (nF = Fl.length) := hnF
  clear hnL hnF
  go_enter Try.func46, Try.ntmps46
  go_wp2
  go_loopw [5] (fun iv wr => wr = w ∧ ((∃ k : Nat, k < nL ∧ iv = .int .i64 (k : Nat) ∧ ∀ r ∈ Ll.drop (k + 1), ¬ Hits I r.e) ∨ (iv = .int .i64 (-1) ∧ ∀ r ∈ Ll, ¬ Hits I r.e)))
    (fun iv _ => (intOf iv + 1).toNat)
  case atStart =>
    refine ⟨rfl, ?_⟩
    by_cases h0 : nL = 0
    · refine .inr ⟨by rw [h0]; rfl, ?_⟩
      have h00 : Ll = [] := List.eq_nil_of_length_eq_zero (by rw [← HnL.out]; exact h0)
      rw [h00]
      simp
    · refine .inl ⟨nL - 1, by omega, by rw [show ((nL - 1 : Nat) : Int) = (nL : Int) - 1 by omega], ?_⟩
      rw [show nL - 1 + 1 = nL by omega, HnL.out, List.drop_length]
      simp
  case round =>
    obtain ⟨hwr, hr⟩ := hrel
    obtain rfl : w = wr := hwr.symm
    rcases hr with ⟨k, hk, rfl, hno⟩ | ⟨rfl, hno⟩
    · obtain ⟨x, r, rfl, hxlt, hrk, hc⟩ := hrL.2 k hk
      have c0 : w.cell? ⟨x, k * 5, none⟩ = some (.int .i64 (r.e.i : Nat)) := hc 0 _ rfl
      have c1 : w.cell? ⟨x, k * 5 + 1, none⟩ = some (rby r) := hc 1 _ rfl
      have c2 : w.cell? ⟨x, k * 5 + 2, none⟩ = some (.bool r.e.sync) := hc 2 _ rfl
      have i0 : (k : Int) < (nL : Int) := by omega
      have i1 : (0 : Int) ≤ (k : Int) := by omega
      have hrm : r ∈ Ll := List.mem_of_getElem? hrk
      by_cases hI : r.e.i = I
      · have hIi : (r.e.i : Int) = (I : Int) := by omega
        cases hsy : r.e.sync
        · rw [hsy] at c2
          have hrb : rby r = .slice (some ⟨r.g, 0, none⟩) 64 64 := by unfold rby; rw [hsy]; rfl
          rw [hrb] at c1
          have hfr := hfu r.e.b (some ⟨r.g, 0, none⟩) w (by unfold maxLen; omega) (hlb r hrm hsy).bytes
          rw [full64] at hfr
          have hZe : Z = r.e.b := by
            rw [HZ.out]
            refine fold_hit I (Ll.map (·.e)) k r.e (by rw [List.getElem?_map, hrk]; rfl) ⟨hsy, hI⟩ (fun d hd => ?_) _
            rw [← List.map_drop] at hd
            obtain ⟨r', hr', rfl⟩ := List.mem_map.1 hd
            exact hno r' hr'
          clear hrL hrF hfu hfz hc hlb hfb
          go_wp2_with (first
            | ((go_at_call 32)
               (refine hfr.mono ?_)
               (rintro e w1 ⟨rfl, hH, hb1⟩)))
          go_ret
          exact ⟨rfl, by rw [hZe]; exact hH, hb1⟩
        · rw [hsy] at c2
          clear hrL hrF hfu hfz hc hlb hfb
          go_wp2
          go_roundw
          case rel =>
            refine ⟨by trivial, ?_⟩
            have hno' : ∀ r' ∈ Ll.drop k, ¬ Hits I r'.e := by
              have hkl := (List.getElem?_eq_some_iff.1 hrk).1
              rw [List.drop_eq_getElem_cons hkl]
              intro r' hr'
              rcases List.mem_cons.1 hr' with rfl | hr'
              · rw [(List.getElem?_eq_some_iff.1 hrk).2]
                exact fun hh => by rw [hh.1] at hsy; cases hsy
              · exact hno r' hr'
            by_cases hk0 : k = 0
            · exact .inr ⟨by rw [hk0]; rfl, by rw [hk0] at hno'; simpa using hno'⟩
            · exact .inl ⟨k - 1, by omega, by rw [show ((k - 1 : Nat) : Int) = (k : Int) - 1 by omega], by rw [show k - 1 + 1 = k by omega]; exact hno'⟩
          case measure => simp [intOf]
      · have hIi : ¬ (r.e.i : Int) = (I : Int) := by omega
        clear hrL hrF hfu hfz hc hlb hfb
        go_wp2
        go_roundw
        case rel =>
          refine ⟨by trivial, ?_⟩
          have hno' : ∀ r' ∈ Ll.drop k, ¬ Hits I r'.e := by
            have hkl := (List.getElem?_eq_some_iff.1 hrk).1
            rw [List.drop_eq_getElem_cons hkl]
            intro r' hr'
            rcases List.mem_cons.1 hr' with rfl | hr'
            · rw [(List.getElem?_eq_some_iff.1 hrk).2]
              exact fun hh => hI hh.2
            · exact hno r' hr'
          by_cases hk0 : k = 0
          · exact .inr ⟨by rw [hk0]; rfl, by rw [hk0] at hno'; simpa using hno'⟩
          · exact .inl ⟨k - 1, by omega, by rw [show ((k - 1 : Nat) : Int) = (k : Int) - 1 by omega], by rw [show k - 1 + 1 = k by omega]; exact hno'⟩
        case measure => simp [intOf]
    · have HZ2 : Hid (Z = (Fl.map (·.e)).foldl upF (fun _ _ => 0) I) := by
        show _ = _
        rw [HZ.out]
        refine fold_no I _ _ (fun d hd => ?_)
        obtain ⟨r', hr', rfl⟩ := List.mem_map.1 hd
        exact hno r' hr'
      clear hrL hlb hno HZ
      go_wp2
      go_loopw [6] (fun iv wr => wr = w ∧ ((∃ k : Nat, k < nF ∧ iv = .int .i64 (k : Nat) ∧ ∀ r ∈ Fl.drop (k + 1), ¬ r.e.i = I) ∨ (iv = .int .i64 (-1) ∧ ∀ r ∈ Fl, ¬ r.e.i = I)))
        (fun iv _ => (intOf iv + 1).toNat)
      case atStart =>
        refine ⟨rfl, ?_⟩
        by_cases h0 : nF = 0
        · refine .inr ⟨by rw [h0]; rfl, ?_⟩
          have h00 : Fl = [] := List.eq_nil_of_length_eq_zero (by rw [← HnF.out]; exact h0)
          rw [h00]
          simp
        · refine .inl ⟨nF - 1, by omega, by rw [show ((nF - 1 : Nat) : Int) = (nF : Int) - 1 by omega], ?_⟩
          rw [show nF - 1 + 1 = nF by omega, HnF.out, List.drop_length]
          simp
      case round =>
        obtain ⟨hwr, hr⟩ := hrel
        obtain rfl : w = wr := hwr.symm
        rcases hr with ⟨k, hk, rfl, hno⟩ | ⟨rfl, hno⟩
        · obtain ⟨x, r, rfl, hxlt, hrk, hc⟩ := hrF.2 k hk
          have c0 : w.cell? ⟨x, k * 5, none⟩ = some (.int .i64 (r.e.i : Nat)) := hc 0 _ rfl
          have c1 : w.cell? ⟨x, k * 5 + 1, none⟩ = some (rby r) := hc 1 _ rfl
          have i0 : (k : Int) < (nF : Int) := by omega
          have i1 : (0 : Int) ≤ (k : Int) := by omega
          have hrm : r ∈ Fl := List.mem_of_getElem? hrk
          by_cases hI : r.e.i = I
          · have hIi : (r.e.i : Int) = (I : Int) := by omega
            have hsy := (hfb r hrm).1
            have hrb : rby r = .slice (some ⟨r.g, 0, none⟩) 64 64 := by unfold rby; rw [hsy]; rfl
            rw [hrb] at c1
            have hfr := hfu r.e.b (some ⟨r.g, 0, none⟩) w (by unfold maxLen; omega) (hfb r hrm).2.bytes
            rw [full64] at hfr
            have hZe : Z = r.e.b := by
              rw [HZ2.out]
              refine fold_hit I (Fl.map (·.e)) k r.e (by rw [List.getElem?_map, hrk]; rfl) ⟨hsy, hI⟩ (fun d hd => ?_) _
              rw [← List.map_drop] at hd
              obtain ⟨r', hr', rfl⟩ := List.mem_map.1 hd
              exact fun hh => hno r' hr' hh.2
            clear hrF hfu hfz hc hfb
            go_wp2_with (first
              | ((go_at_call 32)
                 (refine hfr.mono ?_)
                 (rintro e w1 ⟨rfl, hH, hb1⟩)))
            go_ret
            exact ⟨rfl, by rw [hZe]; exact hH, hb1⟩
          · have hIi : ¬ (r.e.i : Int) = (I : Int) := by omega
            clear hrF hfu hfz hc hfb
            go_wp2
            go_roundw
            case rel =>
              refine ⟨by trivial, ?_⟩
              have hno' : ∀ r' ∈ Fl.drop k, ¬ r'.e.i = I := by
                have hkl := (List.getElem?_eq_some_iff.1 hrk).1
                rw [List.drop_eq_getElem_cons hkl]
                intro r' hr'
                rcases List.mem_cons.1 hr' with rfl | hr'
                · rw [(List.getElem?_eq_some_iff.1 hrk).2]
                  exact hI
                · exact hno r' hr'
              by_cases hk0 : k = 0
              · exact .inr ⟨by rw [hk0]; rfl, by rw [hk0] at hno'; simpa using hno'⟩
              · exact .inl ⟨k - 1, by omega, by rw [show ((k - 1 : Nat) : Int) = (k : Int) - 1 by omega], by rw [show k - 1 + 1 = k by omega]; exact hno'⟩
            case measure => simp [intOf]
        · have hZe : Z = fun _ => 0 := by
            rw [HZ2.out]
            refine fold_no I _ _ (fun d hd => ?_)
            obtain ⟨r', hr', rfl⟩ := List.mem_map.1 hd
            exact fun hh => hno r' hr' hh.2
          clear hrF hfu hfb hno HZ2
          go_wp2_with (first
            | ((go_at_call 32)
               (refine hfz.mono ?_)
               (rintro e w1 ⟨rfl, hH, hb1⟩)))
          go_ret
          exact ⟨rfl, by rw [hZe]; exact hH, hb1⟩

set_option maxRecDepth 100000 in
set_option maxHeartbeats 1000000 in
theorem writesF (a : Option Addr) (n cap : Nat) (l : List RW) (h : RowIs w a n l) (hn : n ≤ 100000) : Calls Try.prog 54 #[.slice a n cap] w fun e w' => e = .returned (.int .i64 (wrs (l.map (·.e)) : Nat)) ∧ w' = w := by
  have hfin : l.take n = l := by rw [← h.1, List.take_length]
  have hle : ∀ k, wrs ((l.take k).map (·.e)) ≤ k := fun k => by
    refine Nat.le_trans (List.length_filter_le _ _) ?_
    rw [List.length_map, List.length_take]
    omega
  go_enter Try.func54, Try.ntmps54
  go_wp2
  go_loopw [3, 4] (fun nv iv wr => ∃ k : Nat, k ≤ n ∧ iv = .int .i64 (k : Nat) ∧ nv = .int .i64 (wrs ((l.take k).map (·.e)) : Nat) ∧ wr = w)
    (fun _ iv _ => n - (intOf iv).toNat)
  case atStart => exact ⟨0, Nat.zero_le _, rfl, rfl, rfl⟩
  case round =>
    obtain ⟨k, hk, rfl, rfl, hwr⟩ := hrel
    obtain rfl : w = wr := hwr.symm
    have i1 : (0 : Int) ≤ (k : Int) := by omega
    by_cases hlt : k < n
    · obtain ⟨x, r, rfl, hxlt, hrk, hc⟩ := h.2 k hlt
      have c2 : w.cell? ⟨x, k * 5 + 2, none⟩ = some (.bool r.e.sync) := hc 2 _ rfl
      have i0 : (k : Int) < (n : Int) := by omega
      have hlk := hle k
      have hst : wrs ((l.take (k + 1)).map (·.e)) = wrs ((l.take k).map (·.e)) + (if r.e.sync then 0 else 1) := by
        rw [List.take_add_one, hrk]
        simp only [Option.toList_some, List.map_append, List.map_cons, List.map_nil]
        exact wrs_snoc _ _
      clear hc hle hfin h
      generalize wrs ((l.take k).map (·.e)) = W at hlk hst ⊢
      cases hsy : r.e.sync
      · rw [hsy] at c2 hst
        simp only [Bool.false_eq_true, if_false] at hst
        go_wp2
        go_roundw
        case rel => exact ⟨k + 1, by omega, by go_num, by rw [hst]; go_num, by trivial⟩
        case measure => simp [intOf]; omega
      · rw [hsy] at c2 hst
        simp only [if_true, Nat.add_zero] at hst
        go_wp2
        go_roundw
        case rel => exact ⟨k + 1, by omega, by go_num, by rw [hst], by trivial⟩
        case measure => simp [intOf]; omega
    · obtain rfl : k = n := by omega
      rw [hfin]
      clear h
      go_wp2
      go_ret
      exact ⟨rfl, rfl⟩

set_option maxRecDepth 100000 in
theorem writesR (h : RefAt w q s m Fl Ll sp vF vL vS) (hlen : Ll.length ≤ 100000) : Calls Try.prog 53 #[ptr q] w fun e w' => e = .returned (.int .i64 (wrs s.log : Nat)) ∧ w' = w := by
  have h2 : w.cell? ⟨q, 2, none⟩ = some vL := h.cell 2
  obtain ⟨aL, cL, rfl, _, _, _, hrL⟩ := row_is h.lr
  have hw := writesF aL Ll.length cL Ll hrL hlen
  rw [h.log] at hw
  clear h hrL
  go_enter Try.func53, Try.ntmps53
  go_wp2_with (first
    | ((go_at_call 54)
       (refine hw.mono ?_)
       (rintro e w' ⟨rfl, hw'⟩; obtain rfl : w = w' := hw'.symm)))
  go_ret
  exact ⟨rfl, rfl⟩

set_option maxRecDepth 100000 in
set_option maxHeartbeats 1000000 in
theorem readR (h : RefAt w q s m Fl Ll sp vF vL vS) (i : Int) (hlen : Ll.length ≤ 100000) (hlenF : Fl.length ≤ 100000) (hsp : sp.length ≤ 100000) :
    Calls Try.prog 21 #[ptr q, .int .i64 i] w fun e w' => Below w.heap.size w w' ∧ ∃ v, e = .returned (.tuple #[v, .int .i64 (rdErr s i)]) ∧ ((rdErr s i ≠ 0 ∧ NoSec v) ∨ (rdErr s i = 0 ∧ NewSec w w' v (holds s i.toNat))) := by
  have h4 : w.cell? ⟨q, 4, none⟩ = some (.bool s.dead) := h.cell 4
  have hh := hasR h i
  have hb := badR h i hsp
  cases hd : s.dead
  · rw [hd] at h4
    by_cases hin : 0 ≤ i ∧ i < s.n
    · rw [decide_eq_true hin] at hh
      rw [decide_eq_true hin.1, Bool.true_and] at hb
      cases hbd : s.bad i.toNat
      · rw [hbd] at hb
        have hre : rdErr s i = 0 := by unfold rdErr; rw [hd, if_neg (by simp), if_neg (by omega), hbd, if_neg (by simp)]
        rw [hre]
        have hho := holdsR h i.toNat hlen hlenF
        rw [show ((i.toNat : Nat) : Int) = i by omega] at hho
        clear h
        go_enter Try.func21, Try.ntmps21
        go_wp2_with (first
          | ((go_at_call 42)
             (refine hh.mono ?_)
             (rintro e w' ⟨rfl, hw'⟩; obtain rfl : w = w' := hw'.symm))
          | ((go_at_call 45)
             (refine hb.mono ?_)
             (rintro e w' ⟨rfl, hw'⟩; obtain rfl : w = w' := hw'.symm))
          | ((go_at_call 46)
             (refine hho.mono ?_)
             (rintro e w1 ⟨rfl, hH, hb1⟩)))
        go_ret2
        exact ⟨hb1, _, rfl, .inr ⟨by trivial, w.heap.size, 0, 64, 5, _, rfl, Nat.le_refl _, Nat.le_refl _, hH, fun j hj => by rw [Nat.zero_add]; exact cellsN_get _ _ _ _ hj⟩⟩
      · rw [hbd] at hb
        have hre : rdErr s i = 72 := by unfold rdErr; rw [hd, if_neg (by simp), if_neg (by omega), hbd, if_pos rfl]
        rw [hre]
        clear h
        go_enter Try.func21, Try.ntmps21
        go_wp2_with (first
          | ((go_at_call 42)
             (refine hh.mono ?_)
             (rintro e w' ⟨rfl, hw'⟩; obtain rfl : w = w' := hw'.symm))
          | ((go_at_call 45)
             (refine hb.mono ?_)
             (rintro e w' ⟨rfl, hw'⟩; obtain rfl : w = w' := hw'.symm)))
        go_ret2
        exact ⟨Below.refl _ _, _, rfl, .inl ⟨by decide, none, 0, rfl⟩⟩
    · rw [decide_eq_false hin] at hh
      have hre : rdErr s i = 71 := by unfold rdErr; rw [hd, if_neg (by simp), if_pos (by omega)]
      rw [hre]
      clear h
      go_enter Try.func21, Try.ntmps21
      go_wp2_with (first
        | ((go_at_call 42)
           (refine hh.mono ?_)
           (rintro e w' ⟨rfl, hw'⟩; obtain rfl : w = w' := hw'.symm))
        | ((go_at_call 45)
           (refine hb.mono ?_)
           (rintro e w' ⟨rfl, hw'⟩; obtain rfl : w = w' := hw'.symm)))
      go_ret2
      exact ⟨Below.refl _ _, _, rfl, .inl ⟨by decide, none, 0, rfl⟩⟩
  · rw [hd] at h4
    have hre : rdErr s i = 73 := by unfold rdErr; rw [hd, if_pos rfl]
    rw [hre]
    clear h
    go_enter Try.func21, Try.ntmps21
    go_wp2_with (first
      | ((go_at_call 42)
         (refine hh.mono ?_)
         (rintro e w' ⟨rfl, hw'⟩; obtain rfl : w = w' := hw'.symm))
      | ((go_at_call 45)
         (refine hb.mono ?_)
         (rintro e w' ⟨rfl, hw'⟩; obtain rfl : w = w' := hw'.symm)))
    go_ret2
    exact ⟨Below.refl _ _, _, rfl, .inl ⟨by decide, none, 0, rfl⟩⟩
end Go.Proofs.Ytalcalecmklcoaa
