/- LexPlaces, walked. -/
import Derived.Test.YtefjfjjoghikeaaDoorLxLawJ2
namespace Go.Proofs.YtefjfjjoghikeaaDoor
open Go.ChangeShapes Go.WideShapes Go.ChangeAt Go.RowKit
set_option linter.unusedVariables false

set_option maxRecDepth 100000 in
set_option maxHeartbeats 2000000 in
theorem places_err (s : List UInt8) (w : World) (hs : s.length ≤ maxLen) {er o : Nat} (he : Scan s = .error (er, o)) : Calls Tryd.prog 5 #[.string (bs s)] w fun e w' => e = .returned (.bool true) ∧ Below w.heap.size w w' := by
  have hal := fun W => alive_c W
  have hA := fun W => scan_err_c W s hs he
  have her := (Scan_err he)
  have her' : ¬ ((er : Nat) : Int) = 0 := by omega
  have hsz := bs_size s
  have ho : ((o : Nat) : Int) ≤ ((bs s).size : Int) := by omega
  have ho0 : (0 : Int) ≤ ((o : Nat) : Int) := by omega
  clear he her hs hsz
  go_enter Tryd.func5, Tryd.ntmps5
  go_wp2_with (first
    | (go_at_call 8; refine (hal _).mono ?_; rintro e w4 ⟨rfl, hb4⟩)
    | (go_at_call 11; refine (hA _).mono ?_; rintro e w1 ⟨rfl, hb1⟩))
  go_ret
  exact ⟨rfl, below2 hb1 hb4⟩

theorem Stands.at_ {l : List UInt8} {lo : Nat} {ts : Toks} (h : Stands l lo ts) (k : Nat) (hk : k < ts.length) : ∃ n, one (l.drop ts[k].2) = .ok (ts[k].1, n) ∧ ts[k].2 < l.length ∧ (k = 0 → lo ≤ ts[k].2) ∧ Stands l (ts[k].2 + n) (ts.drop (k + 1)) := by
  induction ts generalizing lo k with
  | nil => simp at hk
  | cons t r ih =>
    obtain ⟨t, p⟩ := t
    obtain ⟨h1, h2, n, h3, h4⟩ := h
    cases k with
    | zero => exact ⟨n, h3, h2, fun _ => h1, h4⟩
    | succ k =>
      simp only [List.length_cons] at hk
      obtain ⟨n', a1, a2, a3, a4⟩ := ih h4 k (by omega)
      exact ⟨n', a1, a2, fun e => by omega, a4⟩

theorem Stands.head {l : List UInt8} {lo : Nat} {ts : Toks} {k : Nat} (h : Stands l lo (ts.drop k)) (hk : k < ts.length) : lo ≤ ts[k].2 ∧ ts[k].2 < l.length ∧ ∃ n, one (l.drop ts[k].2) = .ok (ts[k].1, n) ∧ Stands l (ts[k].2 + n) (ts.drop (k + 1)) := by
  rw [List.drop_eq_getElem_cons hk] at h
  exact h

/-- Where LexPlaces stands: the next place, behind k tokens. -/
def PlAt (w wr : World) (l : List UInt8) (v : Value) (ts : Toks) (lo k : Nat) : Prop := Stands l lo (ts.drop k) ∧ TokRow wr w.heap.size v ts ∧ Below w.heap.size w wr ∧ lo ≤ 2000

theorem PlAt.next {w wr : World} {l : List UInt8} {v : Value} {ts : Toks} {lo k n p : Nat} (h : PlAt w wr l v ts lo k) (hs : Stands l (p + n) (ts.drop (k + 1))) (hn : p + n ≤ 2000) (o : Obj) : PlAt w (wr.alloc o) l v ts (p + n) (k + 1) :=
  ⟨hs, h.2.1.below ((Below.refl _ _).alloc (Nat.le_refl _) _), h.2.2.1.alloc h.2.2.1.size _, hn⟩

theorem PlAt.drew {w wr : World} {l : List UInt8} {v : Value} {ts : Toks} {lo k : Nat} (h : PlAt w wr l v ts lo k) (m : Nat) : PlAt w (wr.drewN m) l v ts lo k :=
  ⟨h.1, h.2.1.below ⟨rfl, rfl, rfl, Nat.le_refl _, fun _ _ => rfl⟩, ⟨h.2.2.1.os, h.2.2.1.tape, h.2.2.1.output, h.2.2.1.size, h.2.2.1.block⟩, h.2.2.2⟩

theorem fig_get {l : List UInt8} {p j : Nat} (hj : j < cnt isFig (l.drop p)) : ∃ h : p + j < l.length, isFig (l[p + j]) = true := by
  have hl := cnt_le isFig (l.drop p)
  rw [List.length_drop] at hl
  have h : p + j < l.length := by omega
  exact ⟨h, (cnt_at (by omega) h).1 hj⟩

theorem val_next {l : List UInt8} {p j : Nat} (h : p + j < l.length) : val ((l.drop p).take (j + 1)) = 10 * val ((l.drop p).take j) + (l[p + j].toNat - 48) := by
  have h2 : j < (l.drop p).length := by rw [List.length_drop]; omega
  rw [val_take _ _ h2]
  simp

set_option maxRecDepth 100000 in
set_option maxHeartbeats 4000000 in
theorem places_ok (s : List UInt8) (w : World) (hs : s.length ≤ maxLen) {ts : Toks} (he : Scan s = .ok ts) : Calls Tryd.prog 5 #[.string (bs s)] w fun e w' => e = .returned (.bool true) ∧ Below w.heap.size w w' := by
  have hal := fun W => alive_c W
  have hA := fun W => scan_ok_c W s hs he
  have hst := Scan_stands he
  have hM5 := (Scan_len he).1
  have hs2 : s.length ≤ 2000 := by
    unfold Scan at he
    split at he
    · cases he
    · omega
  obtain ⟨M, hM⟩ : ∃ M, M = ts.length := ⟨_, rfl⟩
  rw [← hM] at hA hM5
  have HM : Hid (M = ts.length) := hM
  have HS : Hid ((bs s).size = s.length) := bs_size s
  have hz2 : (bs s).size ≤ 2000 := by rw [bs_size]; exact hs2
  clear he hM hs
  go_enter Tryd.func5, Tryd.ntmps5
  go_wp2_with (go_at_call 11; refine (hA _).mono ?_; rintro e w1 ⟨A1, C1, rfl, hb1, hr1⟩)
  clear hA
  go_loopw [6, 7] (fun lo z wr => ∃ (k m : Nat), k ≤ M ∧ z = .int .i64 (k : Nat) ∧ lo = .int .i64 (m : Nat) ∧ PlAt w wr s (.slice A1 M C1) ts m k) (fun _ z _ => M - (intOf z).toNat)
  case atStart => exact ⟨0, 0, Nat.zero_le _, rfl, rfl, hst, hr1, hb1, Nat.zero_le _⟩
  case round =>
    clear hr1 hb1 hst
    obtain ⟨k, m, hk, rfl, rfl, hP⟩ := hrel
    have hm2 := hP.2.2.2
    by_cases hlt : k < M
    · have hlt' : k < ts.length := by rw [← HM.out]; exact hlt
      have hlt2 : ((k : Nat) : Int) < ((M : Nat) : Int) := by omega
      obtain ⟨hlo, hpl, n, hone, hnext⟩ := hP.1.head hlt'
      obtain ⟨g, C, e, h1, h4, h5, h6, -, hc⟩ := hP.2.1.lies (by intro e; rw [e] at hlt'; simp at hlt')
      injection e with e1 e2 e3
      subst e1 e3
      clear e2
      have c0 : wr.cell? ⟨g, k * 4, none⟩ = some (.int .i64 (ts[k].1.kind : Nat)) := hc k hlt' 0 (by decide)
      have c1 : wr.cell? ⟨g, k * 4 + 1, none⟩ = some (.string (bs ts[k].1.s)) := hc k hlt' 1 (by decide)
      have c2 : wr.cell? ⟨g, k * 4 + 2, none⟩ = some (.int .i64 (ts[k].1.n : Nat)) := hc k hlt' 2 (by decide)
      have c3 : wr.cell? ⟨g, k * 4 + 3, none⟩ = some (.int .i64 (ts[k].2 : Nat)) := hc k hlt' 3 (by decide)
      have hgood := one_good hone
      have hnl := one_len hone
      rw [List.length_drop] at hnl
      have hN := fun (q : Nat) (hq : q = n) (hn : ts[k].2 + q ≤ 2000) (o : Obj) => hP.next (p := ts[k].2) (n := q) (by rw [hq]; exact hnext) hn o
      generalize ts[k].2 = p at c3 hlo hpl hone hnext hnl hN
      generalize ts[k].1 = t at c0 c1 c2 hone hgood
      obtain ⟨kd, S, nn⟩ := t
      simp only at c0 c1 c2
      have hp2 : p ≤ 2000 := by omega
      have i1 : p < (bs s).size := by rw [HS.out]; exact hpl
      have i2 : ((p : Nat) : Int) < ((bs s).size : Int) := by omega
      have i3 : ¬ ((p : Nat) : Int) < ((m : Nat) : Int) := by omega
      have i4 : ((m : Nat) : Int) ≤ ((p : Nat) : Int) := by omega
      have hS2 : (bs S).size = S.length := bs_size S
      clear hc hnext hP
      by_cases hk1 : kd = 1
      · subst hk1
        obtain ⟨hn1, hn9, hval⟩ := one_num hone rfl
        simp only at hval
        have hfig : ∀ j, j < n → ∃ h : p + j < s.length, isFig (s[p + j]) = true := fun j hj => fig_get (by rw [← hn1]; exact hj)
        have hstop : ∀ h : p + n < s.length, isFig (s[p + n]) = false := by
          intro h
          have := (cnt_at (p := isFig) (l := s) (i := p) (k := n) (by omega) h).2
          cases e : isFig (s[p + n])
          · rfl
          · have := this e; omega
        have hval9 : ∀ j, j ≤ n → val ((s.drop p).take j) < 1000000000 := by
          intro j hj
          have h1 := val_bound ((s.drop p).take j) (fun c hc => mem_cnt (p := isFig) (x := s.drop p) c (by
            have : (s.drop p).take j = ((s.drop p).take (cnt isFig (s.drop p))).take j := by rw [List.take_take, Nat.min_eq_left (by omega)]
            rw [this] at hc
            exact List.mem_of_mem_take hc))
          have h2 : 10 ^ ((s.drop p).take j).length ≤ 10 ^ 9 := Nat.pow_le_pow_right (by decide) (by rw [List.length_take]; omega)
          exact Nat.lt_of_lt_of_le h1 h2
        have hN := hN n rfl (by omega)
        have HV : Hid (nn = val ((s.drop p).take n)) := hval
        clear hone hgood hval hn1 hS2
        go_wp2
        go_loop [10, 11] (fun a b => ∃ j : Nat, j ≤ n ∧ a = .int .i64 (j : Nat) ∧ b = .int .i64 (val ((s.drop p).take j) : Nat)) (fun a _ => n - (intOf a).toNat)
        case atStart => exact ⟨0, Nat.zero_le _, rfl, rfl⟩
        case round =>
          obtain ⟨j, hj, rfl, rfl⟩ := hrel
          have hv9 := hval9 j hj
          by_cases hjn : j < n
          · obtain ⟨x1, x2⟩ := hfig j hjn
            have y1 : p + j < (bs s).size := by rw [HS.out]; exact x1
            have y2 : ((p : Nat) : Int) + ((j : Nat) : Int) < ((bs s).size : Int) := by omega
            have y3 : (bs s)[p + j]'y1 = s[p + j] := bs_get s (p + j) y1
            rw [isFig_eq, Bool.and_eq_true, decide_eq_true_eq, decide_eq_true_eq] at x2
            have x3 : 48 ≤ ((((bs s)[p + j]'y1).toNat : Nat) : Int) ∧ ((((bs s)[p + j]'y1).toNat : Nat) : Int) ≤ 57 := by rw [y3]; exact x2
            have hvn := val_next x1
            have j9 : ((j : Nat) : Int) < 9 := by omega
            have HVN : Hid (((val ((s.drop p).take (j + 1)) : Nat) : Int) = 10 * ((val ((s.drop p).take j) : Nat) : Int) + (((((bs s)[p + j]'y1).toNat : Nat) : Int) - 48)) := by
              show _ = _
              rw [hvn, y3]
              omega
            generalize val ((s.drop p).take j) = V at hv9 HVN
            obtain ⟨x4, x5⟩ := x3
            clear hvn y3 x2 hstop hfig hval9
            go_wp2
            go_round
            case rel => exact ⟨j + 1, by omega, by go_num, by rw [HVN.out]⟩
            case measure => simp [intOf]; omega
          · have hjn2 : j = n := by omega
            subst hjn2
            have HV2 : Hid (nn = val ((s.drop p).take j)) := HV
            have hN0 : ¬ ((j : Nat) : Int) = 0 := by omega
            have hN1 : (((j : Nat) : Int) == 0) = false := by simp; omega
            rw [← HV2.out] at hv9 ⊢
            by_cases hend : p + j < s.length
            · have y1 : p + j < (bs s).size := by rw [HS.out]; exact hend
              have y2 : ((p : Nat) : Int) + ((j : Nat) : Int) < ((bs s).size : Int) := by omega
              have y3 : (bs s)[p + j]'y1 = s[p + j] := bs_get s (p + j) y1
              have x2 : (decide (48 ≤ ((((bs s)[p + j]'y1).toNat : Nat) : Int)) && decide (((((bs s)[p + j]'y1).toNat : Nat) : Int) ≤ 57)) = false := by
                rw [y3, ← isFig_eq]
                exact hstop hend
              by_cases hlow : 48 ≤ ((((bs s)[p + j]'y1).toNat : Nat) : Int)
              · have hhi : ¬ ((((bs s)[p + j]'y1).toNat : Nat) : Int) ≤ 57 := by
                  intro h
                  simp [hlow, h] at x2
                clear x2 y3 hstop hfig hval9
                go_wp2
                go_roundw
                case rel => exact ⟨k + 1, p + j, by omega, by go_num, by go_num, hN _⟩
                case measure => simp [intOf]; omega
              · clear x2 y3 hstop hfig hval9
                go_wp2
                go_roundw
                case rel => exact ⟨k + 1, p + j, by omega, by go_num, by go_num, hN _⟩
                case measure => simp [intOf]; omega
            · have y2 : ¬ ((p : Nat) : Int) + ((j : Nat) : Int) < ((bs s).size : Int) := by rw [HS.out]; omega
              clear hstop hfig hval9
              go_wp2
              go_roundw
              case rel => exact ⟨k + 1, p + j, by omega, by go_num, by go_num, hN _⟩
              case measure => simp [intOf]; omega
      · by_cases hk2 : kd = 2
        · subst hk2
          obtain ⟨hn1, r, hr, hrt⟩ := one_hex hone rfl
          simp only at hn1 hrt
          have hdr : s.drop (p + 1) = r := by rw [← List.drop_drop, hr]; rfl
          have hv : ((((bs s)[p]'i1).toNat : Nat) : Int) = 36 := by
            rw [bs_get]
            have := List.drop_eq_getElem_cons hpl
            rw [hr] at this
            injection this with t1 t2
            rw [← t1]
            rfl
          have hx : (bs s).extract (p + 1) (p + (1 + (bs S).size)) = bs S := by
            rw [bs_extract, hdr, hS2, show p + (1 + S.length) - (p + 1) = S.length by omega, hrt]
          obtain ⟨q, hq⟩ : ∃ q, q = (bs S).size := ⟨_, rfl⟩
          have hqn : 1 + q = n := by rw [hq, hS2, hn1]; omega
          have hN := hN (1 + q) hqn (by omega)
          rw [← hq] at hx
          have q2 : decide (((bs s).size : Int) < ((p : Nat) : Int) + (1 + ((q : Nat) : Int))) = false := by rw [decide_eq_false_iff_not, HS.out]; omega
          have q3 : ((p : Nat) : Int) + (1 + ((q : Nat) : Int)) ≤ ((bs s).size : Int) := by rw [HS.out]; omega
          have q4 : q ≤ 2000 := by omega
          have hq' : (bs S).size = q := hq.symm
          clear hone hgood hS2 hq hqn hr hrt hdr hn1
          go_wp2_with fail
          go_quiet (fail)
          go_wp2
          go_roundw
          case rel => exact ⟨k + 1, p + (1 + q), by omega, by go_num, by go_num, (hN _).drew _⟩
          case measure => simp [intOf]; omega
        · have ht := one_text hone hk1 hk2
          simp only at ht
          have j1 : ¬ ((kd : Nat) : Int) = 1 := by omega
          have j2 : ¬ ((kd : Nat) : Int) = 2 := by omega
          have hx : (bs s).extract p (p + (bs S).size) = bs S := by rw [bs_extract, Nat.add_sub_cancel_left, hS2, ← ht.1, ht.2]
          have HL : Hid ((bs S).size = n) := by show _ = _; rw [hS2, ht.1]
          obtain ⟨q, hq⟩ : ∃ q, q = (bs S).size := ⟨_, rfl⟩
          have hqn : q = n := hq.trans HL.out
          have hN := hN q hqn (by omega)
          rw [← hq] at hx
          have q0 : ¬ ((q : Nat) : Int) = 0 := by omega
          have q1 : (((q : Nat) : Int) == 0) = false := by simp; omega
          have q2 : decide (((bs s).size : Int) < ((p : Nat) : Int) + ((q : Nat) : Int)) = false := by rw [decide_eq_false_iff_not, HS.out]; omega
          have q3 : ((p : Nat) : Int) + ((q : Nat) : Int) ≤ ((bs s).size : Int) := by rw [HS.out]; omega
          have hq' : (bs S).size = q := hq.symm
          clear ht hone hgood hS2 hq hqn HL
          go_wp2_with fail
          go_quiet (fail)
          go_wp2
          go_roundw
          case rel => exact ⟨k + 1, p + q, by omega, by go_num, by go_num, (hN _).drew _⟩
          case measure => simp [intOf]; omega
    · have hk2 : k = M := by omega
      subst hk2
      have hlt2 : ¬ ((k : Nat) : Int) < ((k : Nat) : Int) := by omega
      have hbw := hP.2.2.1
      clear hP
      go_wp2_with (go_at_call 8; refine (hal _).mono ?_; rintro e w4 ⟨rfl, hb4⟩)
      go_ret
      exact ⟨rfl, below2 hbw hb4⟩

theorem places_walk (s : List UInt8) (w : World) (hs : s.length ≤ maxLen) : Calls Tryd.prog 5 #[.string (bs s)] w fun e w' => e = .returned (.bool true) ∧ Below w.heap.size w w' := by
  cases e : Scan s with
  | error r => obtain ⟨er, o⟩ := r; exact places_err s w hs e
  | ok ts => exact places_ok s w hs e
end Go.Proofs.YtefjfjjoghikeaaDoor
