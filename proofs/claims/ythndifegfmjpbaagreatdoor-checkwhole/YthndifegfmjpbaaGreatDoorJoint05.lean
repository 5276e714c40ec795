/- Texts that the statements of this stage share, joined. -/
import Derived.Test.YthndifegfmjpbaaGreatDoorJoint04
import Derived.Laws.IdiomStrings
import Derived.RegionTactic
namespace Go.Proofs.YthndifegfmjpbaaGreatDoor
set_option linter.unusedVariables false
set_option maxRecDepth 100000
set_option maxHeartbeats 40000000
section
open Go.ChangeShapes Go.WideShapes Go.ChangeAt Go.RowKit
theorem at_argL {f : FuncId} {args : Array Value} {w : World} {R : Ending → World → Prop} (i : Nat) (v : Value) (h : args[i]? = some v) (k : Calls Tryz.prog f args w R) : Calls Tryz.prog f args w R := k
theorem hmf (fn : Fn) (first cap : Array Value) (w : World) : (Instr.makeFunc fn first cap).run Tryz.prog w = .ok (.func fn first cap) w := rfl
theorem taking_c (w : World) (s : ByteArray) (P : Nat) : Calls Tryz.prog 96 #[.string s, pt P] w fun e w' => e = .returned (.func (.func 125) #[] #[pt (w.heap.size + 1), pt w.heap.size]) ∧ w' = (w.alloc (.cells #[.string s] 9)).alloc (.cells #[pt P] 146) := by
 have h0 := hmf
 go_enter Tryz.func96, Tryz.ntmps96
 go_wp2
 go_ret
 exact ⟨rfl, rfl⟩
theorem bs_toList (x : List UInt8) : (bs x).toList = x := ByteArray.toList_mk x
theorem hasPrefix_lite (x : List UInt8) (w : World) (hx : x.length ≤ 2000) : Calls Tryz.prog 126 #[.string (bs x), .string ⟨#[47, 47]⟩] w fun e w' => e = .returned (.bool (isNote x)) ∧ w' = w := by
 have hs := bs_size x
 by_cases h2 : 2 ≤ x.length
 · have h3 : (2 : Int) ≤ ((bs x).size : Int) := by omega
   have HS : Hid ((bs x).size = x.length) := hs
   clear hs
   go_enter Tryz.func126, Tryz.ntmps126
   go_wp2
   go_ret
   refine ⟨ret_bool ?_, rfl⟩
   rw [bs_extract, bs_toList]
   rfl
 · have h3 : ¬ (2 : Int) ≤ ((bs x).size : Int) := by omega
   have HS : Hid ((bs x).size = x.length) := hs
   clear hs
   go_enter Tryz.func126, Tryz.ntmps126
   go_wp2
   go_ret
   refine ⟨ret_bool ?_, rfl⟩
   unfold isNote
   rw [List.take_of_length_le (by omega)]
   cases e : (x == [47, 47])
   · rfl
   · rw [eq_of_beq e] at h2; simp at h2
theorem hasPrefix_c (x : List UInt8) (w : World) (hx : x.length ≤ 2000) : Calls Tryz.prog 98 #[.string (bs x), .string ⟨#[47, 47]⟩] w fun e w' => e = .returned (.bool (isNote x)) ∧ w' = w := by
 go_enter Tryz.func98, Tryz.ntmps98
 go_wp2_with (go_at_call 126; refine (hasPrefix_lite _ _ hx).mono ?_; rintro e w' ⟨rfl, rfl⟩)
 go_ret
 exact ⟨rfl, rfl⟩
structure Clo (w0 w : World) (P Q S j : Nat) (l : List UInt8) : Prop where
 at_ : Has w P 3 #[.int .i64 (j : Nat)]
 q : Has w Q 146 #[pt P]
 s : Has w S 9 #[.string (bs l)]
 qp : Q ≠ P
 sp : S ≠ P
 le : j ≤ l.length
 below : Below w0.heap.size w0 w
 old : w0.heap.size ≤ P
theorem Clo.moved {w0 w w' : World} {P Q S j k : Nat} {l : List UInt8} (h : Clo w0 w P Q S j l) (hm : Moved w w' P k) (hk : k ≤ l.length) : Clo w0 w' P Q S k l :=
 ⟨hm.has, hm.other h.q h.qp, hm.other h.s h.sp, h.qp, h.sp, hk, h.below.trans (hm.below h.old (by have := h.below.size; omega)), h.old⟩
theorem Clo.atP {w0 w : World} {P Q S j : Nat} {l : List UInt8} (h : Clo w0 w P Q S j l) : atP w P = j := atP_eq (Moved.refl h.at_)
theorem drop_le {l : List UInt8} {p : UInt8 → Bool} {j : Nat} (h : j ≤ l.length) : j + cnt p (l.drop j) ≤ l.length := by
 have := cnt_le p (l.drop j)
 rw [List.length_drop] at this
 omega
theorem bs_tail (l : List UInt8) (j : Nat) : (bs l).extract j (bs l).size = bs (l.drop j) := by
 rw [bs_extract, bs_size, List.take_of_length_le (by rw [List.length_drop]; omega)]
def PassAt (w wr : World) (P Q S i j : Nat) (l : List UInt8) : Prop := Clo w wr P Q S j l ∧ i ≤ j ∧ i + skp false (l.drop i) = j + skp false (l.drop j) ∧ cnt isBlk (l.drop j) = 0
theorem PassAt.first {w W0 wr : World} {P Q S i : Nat} {l : List UInt8} (h : Clo w W0 P Q S i l) (hm : Moved W0 wr P (i + cnt isBlk (l.drop i))) : PassAt w wr P Q S i (i + cnt isBlk (l.drop i)) l := by
 refine ⟨h.moved hm (drop_le h.le), by omega, ?_, ?_⟩
 · have := skp_blank (l.drop i)
   rw [List.drop_drop] at this
   omega
 · rw [← List.drop_drop]
   exact cnt_drop _ _
theorem PassAt.next {w wr w1 w2 : World} {P Q S i j : Nat} {l : List UInt8} (h : PassAt w wr P Q S i j l) (hn : isNote (l.drop j) = true) (hm : Moved wr w1 P (j + cnt isLin (l.drop j)))
  (hm2 : Moved w1 w2 P (j + cnt isLin (l.drop j) + cnt isBlk (l.drop (j + cnt isLin (l.drop j))))) : PassAt w w2 P Q S i (j + cnt isLin (l.drop j) + cnt isBlk (l.drop (j + cnt isLin (l.drop j)))) l := by
 obtain ⟨hC, h1, h2, h3⟩ := h
 have hle := drop_le (p := isLin) hC.le
 refine ⟨(hC.moved hm hle).moved hm2 (drop_le hle), by omega, ?_, ?_⟩
 · have e1 := (skp_isNote hn).1
   have e2 := skp_blank (l.drop (j + cnt isLin (l.drop j)))
   rw [List.drop_drop] at e1 e2
   omega
 · rw [← List.drop_drop]
   exact cnt_drop _ _
theorem passed_c (w : World) (l : List UInt8) (i : Nat) (hi : i ≤ l.length) (hl : l.length ≤ 2000) : Calls Tryz.prog 65 #[.string (bs l), .int .i64 (i : Nat)] w fun e w' => e = .returned (.int .i64 ((i + skp false (l.drop i) : Nat) : Int)) ∧ Below w.heap.size w w' := by
 have hsz := bs_size l
 have HS : Hid ((bs l).size = l.length) := hsz
 clear hsz
 have hC : Clo w (((w.alloc (.cells #[.int .i64 (i : Nat)] 3)).alloc (.cells #[.string (bs l)] 9)).alloc (.cells #[pt w.heap.size] 146)) w.heap.size (w.heap.size + 1 + 1) (w.heap.size + 1) i l :=
  ⟨((Has.new _ _ _).alloc _).alloc _, Has.new_at (by simp), (Has.new_at (by simp)).alloc _, by omega, by omega, hi, (((Below.refl _ _).alloc (Nat.le_refl _) _).alloc (by simp) _).alloc (by simp; omega) _, Nat.le_refl _⟩
 have ht := take_blank l hC.at_ hC.q hC.s hC.qp hC.sp hC.le hl
 go_enter Tryz.func65, Tryz.ntmps65
 go_wp2_with (first
  | (go_at_call 96; refine (taking_c _ _ _).mono ?_; rintro e w' ⟨rfl, rfl⟩)
  | (go_at_call 125; refine ht.mono ?_; rintro e w1 ⟨rfl, hm⟩))
 have hA := PassAt.first hC hm
 clear hm hC ht
 go_loopw [] (fun wr => ∃ j, PassAt w wr w.heap.size (w.heap.size + 1 + 1) (w.heap.size + 1) i j l) (fun wr => 2000 - atP wr w.heap.size)
 case atStart => exact ⟨_, hA⟩
 case round =>
  clear hA
  obtain ⟨j, hA⟩ := hrel
  have hC := hA.1
  have p1 : wr.cell? ⟨w.heap.size, 0, none⟩ = some (.int .i64 (j : Nat)) := hC.at_.cell 0
  have hj2 : j ≤ 2000 := by have := hC.le; omega
  have b2 : ((j : Nat) : Int) ≤ ((bs l).size : Int) := by rw [HS.out]; have := hC.le; omega
  have hp := fun W => hasPrefix_c (l.drop j) W (by rw [List.length_drop]; omega)
  rw [← bs_tail] at hp
  cases hn : isNote (l.drop j)
  · rw [hn] at hp
    have hz := skp_zero hA.2.2.2 hn
    have HE : Hid (i + skp false (l.drop i) = j) := by have := hA.2.2.1; rw [hz] at this; exact this
    have hB := hC.below
    clear hz hn hA hC
    go_wp2_with (go_at_call 98; refine (hp _).mono ?_; rintro e w' ⟨rfl, rfl⟩)
    go_ret
    exact ⟨by rw [HE.out]; rfl, hB⟩
  · rw [hn] at hp
    have hn2 := (skp_isNote hn).2
    have ht1 := take_line l hC.at_ hC.q hC.s hC.qp hC.sp hC.le hl
    obtain ⟨J, hJ⟩ : ∃ J, J = j + cnt isLin (l.drop j) := ⟨_, rfl⟩
    have HJ : Hid (J = j + cnt isLin (l.drop j)) := hJ
    clear hJ
    have HN : Hid (isNote (l.drop j) = true) := hn
    clear hn
    go_wp2_with (first
     | (go_at_call 98; refine (hp _).mono ?_; rintro e w' ⟨rfl, rfl⟩)
     | (go_at_call 125
        refine at_argL 0 (.func (.func 99) #[] #[]) rfl ?_
        refine ht1.mono ?_
        rintro e w1 ⟨rfl, hm1⟩)
     | (go_at_call 125
        refine at_argL 0 (.func (.func 97) #[] #[]) rfl ?_
        have hle := drop_le (p := isLin) hC.le
        have hC1 := hC.moved hm1 hle
        refine (take_blank l hC1.at_ hC1.q hC1.s hC1.qp hC1.sp hC1.le hl).mono ?_
        rintro e w2 ⟨rfl, hm2⟩))
    go_roundw
    case rel => exact ⟨_, hA.next HN.out hm1 hm2⟩
    case measure =>
     rw [hC.atP, atP_eq hm2]
     have := drop_le (p := isBlk) (drop_le (p := isLin) hC.le)
     omega
end
section
open Go.ChangeShapes Go.WideShapes Go.ChangeAt Go.RowKit
theorem bytes_of (w : World) (x : List UInt8) : ∃ W1 cap, (convert 9 45 (.string (bs x))).run Tryz.prog w = .ok (.slice (some ⟨w.heap.size, 0, none⟩) (bs x).size cap) W1 ∧ (∀ j (hj : j < x.length), W1.cell? ⟨w.heap.size, j, none⟩ = some (.int .u8 (x[j].toNat : Int))) ∧ Below w.heap.size w W1 := by
 refine ⟨_, _, run_bytes_of_string w 9 45 5 (bs x) Tryz.underlying9 Tryz.underlying45 Tryz.underlying5, ?_, ?_⟩
 · intro j hj
   have hh := heap_alloc_new w.drew (.cells (bytesRow (bs x) (grownCap w (bs x).size 0 5)) 5 ((bytesRow (bs x) (grownCap w (bs x).size 0 5)).size, (bytesRow (bs x) (grownCap w (bs x).size 0 5)).size + 1))
   refine (cell_of_row _ _ _ _ _ _ hh).trans ?_
   unfold bytesRow
   rw [Array.getElem?_append_left (by simp [bs]; exact hj)]
   simp [bs, hj]
 · exact ((⟨rfl, rfl, rfl, Nat.le_refl _, fun _ _ => rfl⟩ : Below w.heap.size w w.drew)).alloc (Nat.le_refl _) _
theorem val_take (x : List UInt8) (k : Nat) (h : k < x.length) : val (x.take (k + 1)) = 10 * val (x.take k) + (x[k].toNat - 48) := by
 rw [List.take_succ_eq_append_getElem h, val_snoc]
theorem atoi_in (x : List UInt8) (w : World) (h0 : x ≠ []) (h9 : x.length ≤ 9) (hf : ∀ c ∈ x, isFig c = true) :
  Calls Tryz.prog 146 #[.string (bs x)] w fun e w' => e = .returned (.tuple #[.int .i64 (val x : Nat), .nilIface]) ∧ Below w.heap.size w w' := by
 have hsz := bs_size x
 have hpos : 0 < x.length := List.length_pos_iff.2 h0
 obtain ⟨W1, cap, hconv, hcell, hbel⟩ := bytes_of w x
 have hfig : ∀ j (hj : j < x.length), 48 ≤ ((x[j].toNat : Nat) : Int) ∧ ((x[j].toNat : Nat) : Int) ≤ 57 := by
  intro j hj
  have := hf x[j] (List.getElem_mem hj)
  simp [isFig] at this
  omega
 have hx0 : (0 : Nat) < (bs x).size := by omega
 have hg0 : (bs x)[0]'hx0 = x[0] := bs_get x 0 hx0
 have hf0 : 48 ≤ ((((bs x)[0]'hx0).toNat : Nat) : Int) ∧ ((((bs x)[0]'hx0).toNat : Nat) : Int) ≤ 57 := by rw [hg0]; exact hfig 0 hpos
 have z1 : (((((bs x)[0]'hx0).toNat : Nat) : Int) == 45) = false := by simp; omega
 have z2 : (((((bs x)[0]'hx0).toNat : Nat) : Int) == 43) = false := by simp; omega
 have z5 : ¬ ((((bs x)[0]'hx0).toNat : Nat) : Int) = 45 := by omega
 have z3 : (0 : Int) < ((bs x).size : Int) := by omega
 have z4 : ((bs x).size : Int) < 19 := by omega
 have HS : Hid ((bs x).size = x.length) := hsz
 clear hsz hg0 hf0
 go_enter Tryz.func146, Tryz.ntmps146
 go_wp2
 go_loop [6, 49] (fun n i => ∃ k : Nat, k ≤ x.length ∧ i = .int .i64 (k : Nat) ∧ n = .int .i64 (val (x.take k) : Nat)) (fun _ i => x.length - (intOf i).toNat)
 case atStart => exact ⟨0, Nat.zero_le _, rfl, rfl⟩
 case round =>
  obtain ⟨k, hk, rfl, rfl⟩ := hrel
  have hvb : val (x.take k) < 1000000000 := by
   have h1 := val_bound (x.take k) (fun c hc => hf c (List.mem_of_mem_take hc))
   have h2 : 10 ^ (x.take k).length ≤ 10 ^ 9 := Nat.pow_le_pow_right (by decide) (by rw [List.length_take]; omega)
   exact Nat.lt_of_lt_of_le h1 h2
  obtain ⟨V, hV⟩ : ∃ V, V = val (x.take k) := ⟨_, rfl⟩
  rw [← hV] at hvb ⊢
  by_cases hlt : k < x.length
  · have hc := hcell k hlt
    have hfk := hfig k hlt
    have hvt := val_take x k hlt
    rw [← hV] at hvt
    have e1 : ((x[k].toNat - 48 : Nat) : Int) = (x[k].toNat : Int) - 48 := by omega
    have HV : Hid (((val (x.take (k + 1)) : Nat) : Int) = 10 * (V : Int) + ((x[k].toNat : Int) - 48)) := by show ((val (x.take (k + 1)) : Nat) : Int) = _; rw [hvt]; omega
    have hlt2 : ((k : Nat) : Int) < ((bs x).size : Int) := by rw [HS.out]; omega
    clear hvt e1 hV
    generalize ((x[k].toNat : Nat) : Int) = z at hc hfk HV
    obtain ⟨g1, g2⟩ := hfk
    clear hcell hfig hconv
    go_wp2
    go_round
    case rel => exact ⟨k + 1, by omega, by go_num, by rw [HV.out]; go_num⟩
    case measure => simp [intOf]; omega
  · have hlt2 : ¬ ((k : Nat) : Int) < ((bs x).size : Int) := by rw [HS.out]; omega
    have hfull : x.take k = x := List.take_of_length_le (by omega)
    rw [hfull] at hV
    have HV : Hid (V = val x) := hV
    clear hfull hV hcell hfig hconv
    go_wp2
    go_ret2
    exact ⟨by rw [HV.out]; rfl, hbel⟩
theorem atoi_c (x : List UInt8) (w : World) (h0 : x ≠ []) (h9 : x.length ≤ 9) (hf : ∀ c ∈ x, isFig c = true) :
  Calls Tryz.prog 128 #[.string (bs x)] w fun e w' => e = .returned (.tuple #[.int .i64 (val x : Nat), .nilIface]) ∧ Below w.heap.size w w' := by
 have ha := atoi_in x w h0 h9 hf
 go_enter Tryz.func128, Tryz.ntmps128
 go_wp2_with (go_at_call 146; refine ha.mono ?_; rintro e w' ⟨rfl, hb⟩)
 go_ret2
 exact ⟨rfl, hb⟩
end
section
open Go.ChangeShapes Go.WideShapes Go.ChangeAt Go.RowKit
theorem take_word {w : World} {P Q S i : Nat} (l : List UInt8) (hP : Has w P 3 #[.int .i64 (i : Nat)]) (hQ : Has w Q 146 #[pt P]) (hS : Has w S 9 #[.string (bs l)]) (hQP : Q ≠ P) (hSP : S ≠ P) (hi : i ≤ l.length) (hl : l.length ≤ 2000) :
  Calls Tryz.prog 125 #[.func (.func 127) #[] #[], pt Q, pt S] w (TookK w P l i (cnt isWdy (l.drop i))) := by
 have hsz := bs_size l
 have p0 : w.cell? ⟨P, 0, none⟩ = some (.int .i64 (i : Nat)) := hP.cell 0
 have q0 : w.cell? ⟨Q, 0, none⟩ = some (pt P) := hQ.cell 0
 have hi2 : i ≤ 2000 := by omega
 have HS : Hid ((bs l).size = l.length) := hsz
 clear hsz
 go_enter Tryz.func125, Tryz.ntmps125
 go_wp2
 go_loopw [] (fun wr => ∃ k : Nat, k ≤ cnt isWdy (l.drop i) ∧ i + k ≤ l.length ∧ Moved w wr P (i + k)) (fun wr => 2000 - atP wr P)
 case atStart => exact ⟨0, Nat.zero_le _, by omega, Moved.refl hP⟩
 case round =>
  obtain ⟨k, hk, hkl, hm⟩ := hrel
  have p1 : wr.cell? ⟨P, 0, none⟩ = some (.int .i64 ((i + k : Nat) : Int)) := hm.has.cell 0
  have q1 : wr.cell? ⟨Q, 0, none⟩ = some (pt P) := (hm.other hQ hQP).cell 0
  have s1 : wr.cell? ⟨S, 0, none⟩ = some (.string (bs l)) := (hm.other hS hSP).cell 0
  have f1 : wr.frozen? ⟨P, 0, none⟩ = false := hm.has.free 0
  obtain ⟨J, hJ⟩ : ∃ J, J = i + k := ⟨_, rfl⟩
  rw [← hJ] at p1
  have HJ : Hid (J = i + k) := hJ
  clear hJ p0 q0
  have hJ2 : J ≤ 2000 := by have := HJ.out; omega
  by_cases hlt : i + k < l.length
  · have h1 : J < (bs l).size := by rw [HS.out, HJ.out]; exact hlt
    have h2 : ((J : Nat) : Int) < ((bs l).size : Int) := by omega
    have hget : (bs l)[J]'h1 = l[i + k] := by rw [bs_get]; simp only [HJ.out]
    have ht := fun W => word_tells ((bs l)[J]'h1) W
    cases hc : isWdy (l[i + k])
    · have hb : isWdy ((bs l)[J]'h1) = false := by rw [hget]; exact hc
      rw [hb] at ht
      have hn := cnt_stop hk hlt hc
      have HN : Hid (k = cnt isWdy (l.drop i)) := hn
      clear hn hb hget hc
      have b1 : ((i : Nat) : Int) ≤ ((J : Nat) : Int) := by have := HJ.out; omega
      have b2 : ((J : Nat) : Int) ≤ ((bs l).size : Int) := by omega
      go_wp2_with fail
      go_quiet ((go_at_call 127; exact Calls.quiet_of_same (ht _)))
      go_wp2
      go_quiet (fail)
      go_wp2
      go_ret
      exact took_end HJ.out HN.out ((hm.drewN _).drewN _)
    · have hb : isWdy ((bs l)[J]'h1) = true := by rw [hget]; exact hc
      rw [hb] at ht
      have hn := (cnt_at hk hlt).2 hc
      clear hb hget hc
      go_wp2_with fail
      go_quiet ((go_at_call 127; exact Calls.quiet_of_same (ht _)))
      go_wp2
      go_roundw
      case rel => exact ⟨k + 1, hn, by omega, took_step HJ.out (hm.drewN _)⟩
      case measure => exact took_less HJ.out (hm.drewN _) hJ2 hlt hl
  · have h1 : decide (J < (bs l).size) = false := by rw [decide_eq_false_iff_not, HS.out, HJ.out]; omega
    have h2 : decide (((J : Nat) : Int) < ((bs l).size : Int)) = false := by rw [decide_eq_false_iff_not, HS.out, HJ.out]; omega
    have hn := cnt_end hk hlt hi
    have HN : Hid (k = cnt isWdy (l.drop i)) := hn
    have b1 : ((i : Nat) : Int) ≤ ((J : Nat) : Int) := by have := HJ.out; omega
    have b2 : ((J : Nat) : Int) ≤ ((bs l).size : Int) := by rw [HS.out, HJ.out]; omega
    clear hn
    go_wp2_with fail
    go_quiet (fail)
    go_wp2
    go_quiet (fail)
    go_wp2
    go_ret
    exact took_end HJ.out HN.out ((hm.drewN _).drewN _)
end
section
open Go.ChangeShapes Go.WideShapes Go.ChangeAt Go.RowKit
theorem take_figure {w : World} {P Q S i : Nat} (l : List UInt8) (hP : Has w P 3 #[.int .i64 (i : Nat)]) (hQ : Has w Q 146 #[pt P]) (hS : Has w S 9 #[.string (bs l)]) (hQP : Q ≠ P) (hSP : S ≠ P) (hi : i ≤ l.length) (hl : l.length ≤ 2000) :
  Calls Tryz.prog 125 #[.func (.func 102) #[] #[], pt Q, pt S] w (TookK w P l i (cnt isFig (l.drop i))) := by
 have hsz := bs_size l
 have p0 : w.cell? ⟨P, 0, none⟩ = some (.int .i64 (i : Nat)) := hP.cell 0
 have q0 : w.cell? ⟨Q, 0, none⟩ = some (pt P) := hQ.cell 0
 have hi2 : i ≤ 2000 := by omega
 have HS : Hid ((bs l).size = l.length) := hsz
 clear hsz
 go_enter Tryz.func125, Tryz.ntmps125
 go_wp2
 go_loopw [] (fun wr => ∃ k : Nat, k ≤ cnt isFig (l.drop i) ∧ i + k ≤ l.length ∧ Moved w wr P (i + k)) (fun wr => 2000 - atP wr P)
 case atStart => exact ⟨0, Nat.zero_le _, by omega, Moved.refl hP⟩
 case round =>
  obtain ⟨k, hk, hkl, hm⟩ := hrel
  have p1 : wr.cell? ⟨P, 0, none⟩ = some (.int .i64 ((i + k : Nat) : Int)) := hm.has.cell 0
  have q1 : wr.cell? ⟨Q, 0, none⟩ = some (pt P) := (hm.other hQ hQP).cell 0
  have s1 : wr.cell? ⟨S, 0, none⟩ = some (.string (bs l)) := (hm.other hS hSP).cell 0
  have f1 : wr.frozen? ⟨P, 0, none⟩ = false := hm.has.free 0
  obtain ⟨J, hJ⟩ : ∃ J, J = i + k := ⟨_, rfl⟩
  rw [← hJ] at p1
  have HJ : Hid (J = i + k) := hJ
  clear hJ p0 q0
  have hJ2 : J ≤ 2000 := by have := HJ.out; omega
  by_cases hlt : i + k < l.length
  · have h1 : J < (bs l).size := by rw [HS.out, HJ.out]; exact hlt
    have h2 : ((J : Nat) : Int) < ((bs l).size : Int) := by omega
    have hget : (bs l)[J]'h1 = l[i + k] := by rw [bs_get]; simp only [HJ.out]
    have ht := fun W => figure_tells ((bs l)[J]'h1) W
    cases hc : isFig (l[i + k])
    · have hb : isFig ((bs l)[J]'h1) = false := by rw [hget]; exact hc
      rw [hb] at ht
      have hn := cnt_stop hk hlt hc
      have HN : Hid (k = cnt isFig (l.drop i)) := hn
      clear hn hb hget hc
      have b1 : ((i : Nat) : Int) ≤ ((J : Nat) : Int) := by have := HJ.out; omega
      have b2 : ((J : Nat) : Int) ≤ ((bs l).size : Int) := by omega
      go_wp2_with fail
      go_quiet ((go_at_call 102; exact Calls.quiet_of_same (ht _)))
      go_wp2
      go_quiet (fail)
      go_wp2
      go_ret
      exact took_end HJ.out HN.out ((hm.drewN _).drewN _)
    · have hb : isFig ((bs l)[J]'h1) = true := by rw [hget]; exact hc
      rw [hb] at ht
      have hn := (cnt_at hk hlt).2 hc
      clear hb hget hc
      go_wp2_with fail
      go_quiet ((go_at_call 102; exact Calls.quiet_of_same (ht _)))
      go_wp2
      go_roundw
      case rel => exact ⟨k + 1, hn, by omega, took_step HJ.out (hm.drewN _)⟩
      case measure => exact took_less HJ.out (hm.drewN _) hJ2 hlt hl
  · have h1 : decide (J < (bs l).size) = false := by rw [decide_eq_false_iff_not, HS.out, HJ.out]; omega
    have h2 : decide (((J : Nat) : Int) < ((bs l).size : Int)) = false := by rw [decide_eq_false_iff_not, HS.out, HJ.out]; omega
    have hn := cnt_end hk hlt hi
    have HN : Hid (k = cnt isFig (l.drop i)) := hn
    have b1 : ((i : Nat) : Int) ≤ ((J : Nat) : Int) := by have := HJ.out; omega
    have b2 : ((J : Nat) : Int) ≤ ((bs l).size : Int) := by rw [HS.out, HJ.out]; omega
    clear hn
    go_wp2_with fail
    go_quiet (fail)
    go_wp2
    go_quiet (fail)
    go_wp2
    go_ret
    exact took_end HJ.out HN.out ((hm.drewN _).drewN _)
end
section
open Go.ChangeShapes Go.WideShapes Go.ChangeAt Go.RowKit
theorem take_hex {w : World} {P Q S i : Nat} (l : List UInt8) (hP : Has w P 3 #[.int .i64 (i : Nat)]) (hQ : Has w Q 146 #[pt P]) (hS : Has w S 9 #[.string (bs l)]) (hQP : Q ≠ P) (hSP : S ≠ P) (hi : i ≤ l.length) (hl : l.length ≤ 2000) :
  Calls Tryz.prog 125 #[.func (.func 129) #[] #[], pt Q, pt S] w (TookK w P l i (cnt isHxy (l.drop i))) := by
 have hsz := bs_size l
 have p0 : w.cell? ⟨P, 0, none⟩ = some (.int .i64 (i : Nat)) := hP.cell 0
 have q0 : w.cell? ⟨Q, 0, none⟩ = some (pt P) := hQ.cell 0
 have hi2 : i ≤ 2000 := by omega
 have HS : Hid ((bs l).size = l.length) := hsz
 clear hsz
 go_enter Tryz.func125, Tryz.ntmps125
 go_wp2
 go_loopw [] (fun wr => ∃ k : Nat, k ≤ cnt isHxy (l.drop i) ∧ i + k ≤ l.length ∧ Moved w wr P (i + k)) (fun wr => 2000 - atP wr P)
 case atStart => exact ⟨0, Nat.zero_le _, by omega, Moved.refl hP⟩
 case round =>
  obtain ⟨k, hk, hkl, hm⟩ := hrel
  have p1 : wr.cell? ⟨P, 0, none⟩ = some (.int .i64 ((i + k : Nat) : Int)) := hm.has.cell 0
  have q1 : wr.cell? ⟨Q, 0, none⟩ = some (pt P) := (hm.other hQ hQP).cell 0
  have s1 : wr.cell? ⟨S, 0, none⟩ = some (.string (bs l)) := (hm.other hS hSP).cell 0
  have f1 : wr.frozen? ⟨P, 0, none⟩ = false := hm.has.free 0
  obtain ⟨J, hJ⟩ : ∃ J, J = i + k := ⟨_, rfl⟩
  rw [← hJ] at p1
  have HJ : Hid (J = i + k) := hJ
  clear hJ p0 q0
  have hJ2 : J ≤ 2000 := by have := HJ.out; omega
  by_cases hlt : i + k < l.length
  · have h1 : J < (bs l).size := by rw [HS.out, HJ.out]; exact hlt
    have h2 : ((J : Nat) : Int) < ((bs l).size : Int) := by omega
    have hget : (bs l)[J]'h1 = l[i + k] := by rw [bs_get]; simp only [HJ.out]
    have ht := fun W => hex_tells ((bs l)[J]'h1) W
    cases hc : isHxy (l[i + k])
    · have hb : isHxy ((bs l)[J]'h1) = false := by rw [hget]; exact hc
      rw [hb] at ht
      have hn := cnt_stop hk hlt hc
      have HN : Hid (k = cnt isHxy (l.drop i)) := hn
      clear hn hb hget hc
      have b1 : ((i : Nat) : Int) ≤ ((J : Nat) : Int) := by have := HJ.out; omega
      have b2 : ((J : Nat) : Int) ≤ ((bs l).size : Int) := by omega
      go_wp2_with fail
      go_quiet ((go_at_call 129; exact Calls.quiet_of_same (ht _)))
      go_wp2
      go_quiet (fail)
      go_wp2
      go_ret
      exact took_end HJ.out HN.out ((hm.drewN _).drewN _)
    · have hb : isHxy ((bs l)[J]'h1) = true := by rw [hget]; exact hc
      rw [hb] at ht
      have hn := (cnt_at hk hlt).2 hc
      clear hb hget hc
      go_wp2_with fail
      go_quiet ((go_at_call 129; exact Calls.quiet_of_same (ht _)))
      go_wp2
      go_roundw
      case rel => exact ⟨k + 1, hn, by omega, took_step HJ.out (hm.drewN _)⟩
      case measure => exact took_less HJ.out (hm.drewN _) hJ2 hlt hl
  · have h1 : decide (J < (bs l).size) = false := by rw [decide_eq_false_iff_not, HS.out, HJ.out]; omega
    have h2 : decide (((J : Nat) : Int) < ((bs l).size : Int)) = false := by rw [decide_eq_false_iff_not, HS.out, HJ.out]; omega
    have hn := cnt_end hk hlt hi
    have HN : Hid (k = cnt isHxy (l.drop i)) := hn
    have b1 : ((i : Nat) : Int) ≤ ((J : Nat) : Int) := by have := HJ.out; omega
    have b2 : ((J : Nat) : Int) ≤ ((bs l).size : Int) := by rw [HS.out, HJ.out]; omega
    clear hn
    go_wp2_with fail
    go_quiet (fail)
    go_wp2
    go_quiet (fail)
    go_wp2
    go_ret
    exact took_end HJ.out HN.out ((hm.drewN _).drewN _)
end
section
open Go.ChangeShapes Go.WideShapes Go.ChangeAt Go.RowKit
def After (w w' : World) (P j : Nat) : Prop := ∃ w1, Moved w w1 P j ∧ Below w1.heap.size w1 w'
theorem Moved.after {w w' : World} {P j : Nat} (h : Moved w w' P j) : After w w' P j := ⟨w', h, Below.refl _ _⟩
theorem After.at_ {w w' : World} {P j : Nat} (h : After w w' P j) : Has w' P 3 #[.int .i64 (j : Nat)] := by
 obtain ⟨w1, hm, hb⟩ := h
 exact hm.has.below hb hm.has.lt
theorem After.other {w w' : World} {P j g t : Nat} {cs : Array Value} (h : After w w' P j) (hg : Has w g t cs) (hne : g ≠ P) : Has w' g t cs := by
 obtain ⟨w1, hm, hb⟩ := h
 have := hm.other hg hne
 exact this.below hb this.lt
theorem After.size {w w' : World} {P j : Nat} (h : After w w' P j) : w.heap.size ≤ w'.heap.size := by
 obtain ⟨w1, hm, hb⟩ := h
 rw [← hm.size]
 exact hb.size
theorem After.below {w w' : World} {P j B : Nat} (h : After w w' P j) (hB : B ≤ P) (hw : B ≤ w.heap.size) : Below B w w' := by
 obtain ⟨w1, hm, hb⟩ := h
 exact (hm.below hB hw).trans (hb.mono (by rw [hm.size]; exact hw))
abbrev clo (Q S : Nat) : Value := .func (.func 125) #[] #[pt Q, pt S]
def TokR (w : World) (P j : Nat) (v : Value) (er : Int) (e : Ending) (w' : World) : Prop := e = .returned (.tuple #[v, .int .i64 er]) ∧ After w w' P j
theorem len_bs (l : List UInt8) (p : UInt8 → Bool) (j : Nat) : (bs ((l.drop j).take (cnt p (l.drop j)))).size = cnt p (l.drop j) := by
 rw [bs_size, List.length_take, Nat.min_eq_left (cnt_le _ _)]
theorem word_ok {w0 w : World} {P Q S j : Nat} {l : List UInt8} (hC : Clo w0 w P Q S j l) (hl : l.length ≤ 2000) (h : ¬ 16 < cnt isWdy (l.drop j)) :
  Calls Tryz.prog 101 #[clo Q S] w (TokR w P (j + cnt isWdy (l.drop j)) (.string (bs ((l.drop j).take (cnt isWdy (l.drop j))))) 0) := by
 have ht := take_word l hC.at_ hC.q hC.s hC.qp hC.sp hC.le hl
 unfold TookK at ht
 have hz := len_bs l isWdy j
 generalize (l.drop j).take (cnt isWdy (l.drop j)) = X at hz ht ⊢
 have h1 : ¬ (16 : Int) < ((bs X).size : Int) := by omega
 clear hz
 go_enter Tryz.func101, Tryz.ntmps101
 go_wp2_with (go_at_call 125; refine ht.mono ?_; rintro e w1 ⟨rfl, hm⟩)
 go_ret2
 exact ⟨rfl, hm.after⟩
theorem word_long {w0 w : World} {P Q S j : Nat} {l : List UInt8} (hC : Clo w0 w P Q S j l) (hl : l.length ≤ 2000) (h : 16 < cnt isWdy (l.drop j)) :
  Calls Tryz.prog 101 #[clo Q S] w (TokR w P (j + cnt isWdy (l.drop j)) (.string (bs [])) 102) := by
 have ht := take_word l hC.at_ hC.q hC.s hC.qp hC.sp hC.le hl
 unfold TookK at ht
 have hz := len_bs l isWdy j
 generalize (l.drop j).take (cnt isWdy (l.drop j)) = X at hz ht ⊢
 have h1 : (16 : Int) < ((bs X).size : Int) := by omega
 clear hz
 go_enter Tryz.func101, Tryz.ntmps101
 go_wp2_with (go_at_call 125; refine ht.mono ?_; rintro e w1 ⟨rfl, hm⟩)
 go_ret2
 exact ⟨rfl, hm.after⟩
theorem number_ok {w0 w : World} {P Q S j : Nat} {l : List UInt8} (hC : Clo w0 w P Q S j l) (hl : l.length ≤ 2000) (h : ¬ 9 < cnt isFig (l.drop j)) (h0 : cnt isFig (l.drop j) ≠ 0) :
  Calls Tryz.prog 103 #[clo Q S] w (TokR w P (j + cnt isFig (l.drop j)) (.int .i64 (val ((l.drop j).take (cnt isFig (l.drop j))) : Nat)) 0) := by
 have ht := take_figure l hC.at_ hC.q hC.s hC.qp hC.sp hC.le hl
 unfold TookK at ht
 have hz := len_bs l isFig j
 have hfig : ∀ c ∈ (l.drop j).take (cnt isFig (l.drop j)), isFig c = true := mem_cnt
 generalize (l.drop j).take (cnt isFig (l.drop j)) = X at hz ht hfig ⊢
 have h1 : ¬ (9 : Int) < ((bs X).size : Int) := by omega
 have h2 : X ≠ [] := by rintro rfl; rw [bs_size] at hz; exact h0 hz.symm
 have h3 : X.length ≤ 9 := by rw [bs_size] at hz; omega
 have ha := fun W => atoi_c X W h2 h3 hfig
 clear hz hfig h2 h3
 go_enter Tryz.func103, Tryz.ntmps103
 go_wp2_with (first
  | (go_at_call 125; refine ht.mono ?_; rintro e w1 ⟨rfl, hm⟩)
  | (go_at_call 128; refine (ha _).mono ?_; rintro e w2 ⟨rfl, hb⟩))
 go_ret2
 exact ⟨rfl, _, hm, hb⟩
theorem number_long {w0 w : World} {P Q S j : Nat} {l : List UInt8} (hC : Clo w0 w P Q S j l) (hl : l.length ≤ 2000) (h : 9 < cnt isFig (l.drop j)) :
  Calls Tryz.prog 103 #[clo Q S] w (TokR w P (j + cnt isFig (l.drop j)) (.int .i64 0) 102) := by
 have ht := take_figure l hC.at_ hC.q hC.s hC.qp hC.sp hC.le hl
 unfold TookK at ht
 have hz := len_bs l isFig j
 generalize (l.drop j).take (cnt isFig (l.drop j)) = X at hz ht ⊢
 have h1 : (9 : Int) < ((bs X).size : Int) := by omega
 clear hz
 go_enter Tryz.func103, Tryz.ntmps103
 go_wp2_with (go_at_call 125; refine ht.mono ?_; rintro e w1 ⟨rfl, hm⟩)
 go_ret2
 exact ⟨rfl, hm.after⟩
theorem hex_none {w0 w : World} {P Q S j : Nat} {l : List UInt8} (hC : Clo w0 w P Q S j l) (hl : l.length ≤ 2000) (h : cnt isHxy (l.drop j) = 0) :
  Calls Tryz.prog 104 #[clo Q S] w (TokR w P (j + cnt isHxy (l.drop j)) (.string (bs [])) 101) := by
 have ht := take_hex l hC.at_ hC.q hC.s hC.qp hC.sp hC.le hl
 unfold TookK at ht
 have hz : (l.drop j).take (cnt isHxy (l.drop j)) = [] := by rw [h]; rfl
 rw [hz] at ht
 have h1 : (bs []).toList = [] := bs_toList []
 clear hz
 generalize cnt isHxy (l.drop j) = n at ht h ⊢
 clear h
 go_enter Tryz.func104, Tryz.ntmps104
 go_wp2_with (go_at_call 125; refine ht.mono ?_; rintro e w1 ⟨rfl, hm⟩)
 go_ret2
 exact ⟨rfl, hm.after⟩
theorem hex_long {w0 w : World} {P Q S j : Nat} {l : List UInt8} (hC : Clo w0 w P Q S j l) (hl : l.length ≤ 2000) (h : 128 < cnt isHxy (l.drop j)) :
  Calls Tryz.prog 104 #[clo Q S] w (TokR w P (j + cnt isHxy (l.drop j)) (.string (bs [])) 102) := by
 have ht := take_hex l hC.at_ hC.q hC.s hC.qp hC.sp hC.le hl
 unfold TookK at ht
 have hz := len_bs l isHxy j
 generalize (l.drop j).take (cnt isHxy (l.drop j)) = X at hz ht ⊢
 have h1 : (128 : Int) < ((bs X).size : Int) := by omega
 have h2 : ((bs X).toList == []) = false := by rw [bs_toList]; cases X with
  | nil => rw [bs_size] at hz; simp at hz; omega
  | cons a b => rfl
 clear hz
 go_enter Tryz.func104, Tryz.ntmps104
 go_wp2_with (go_at_call 125; refine ht.mono ?_; rintro e w1 ⟨rfl, hm⟩)
 go_ret2
 exact ⟨rfl, hm.after⟩
theorem hex_ok {w0 w : World} {P Q S j : Nat} {l : List UInt8} (hC : Clo w0 w P Q S j l) (hl : l.length ≤ 2000) (h0 : cnt isHxy (l.drop j) ≠ 0) (h : ¬ 128 < cnt isHxy (l.drop j)) :
  Calls Tryz.prog 104 #[clo Q S] w (TokR w P (j + cnt isHxy (l.drop j)) (.string (bs ((l.drop j).take (cnt isHxy (l.drop j))))) 0) := by
 have ht := take_hex l hC.at_ hC.q hC.s hC.qp hC.sp hC.le hl
 unfold TookK at ht
 have hz := len_bs l isHxy j
 generalize (l.drop j).take (cnt isHxy (l.drop j)) = X at hz ht ⊢
 have h1 : ¬ (128 : Int) < ((bs X).size : Int) := by omega
 have h2 : ((bs X).toList == []) = false := by rw [bs_toList]; cases X with
  | nil => rw [bs_size] at hz; simp at hz; omega
  | cons a b => rfl
 clear hz
 go_enter Tryz.func104, Tryz.ntmps104
 go_wp2_with (go_at_call 125; refine ht.mono ?_; rintro e w1 ⟨rfl, hm⟩)
 go_ret2
 exact ⟨rfl, hm.after⟩
end
section
open Go.ChangeShapes Go.WideShapes Go.ChangeAt Go.RowKit
def tkv (t : Tk) (p : Nat) : Array Value := #[.int .i64 (t.kind : Nat), .string (bs t.s), .int .i64 (t.n : Nat), .int .i64 (p : Nat)]
def TokenR (w : World) (i : Nat) (t : Tk) (E : Nat) (er : Int) (e : Ending) (w' : World) : Prop := e = .returned (.tuple #[.agg (tkv t i), .int .i64 (E : Nat), .int .i64 er]) ∧ Below w.heap.size w w'
abbrev tokW (w : World) (l : List UInt8) (i : Nat) (z k : Int) : World :=
 ((((w.alloc (.cells #[.int .i64 0, .string ⟨#[]⟩, .int .i64 0, .int .i64 0] 100)).alloc (.cells #[.int .i64 k, .string ⟨#[]⟩, .int .i64 0, .int .i64 (i : Nat)] 100)).alloc (.cells #[.int .i64 z] 3)).alloc (.cells #[.string (bs l)] 9)).alloc (.cells #[pt (w.heap.size + 1 + 1)] 146)
theorem tokW_clo (w : World) (l : List UInt8) (i j : Nat) (z k : Int) (hz : z = (j : Nat)) (hj : j ≤ l.length) : Clo w (tokW w l i z k) (w.heap.size + 1 + 1) (w.heap.size + 1 + 1 + 1 + 1) (w.heap.size + 1 + 1 + 1) j l := by
 subst hz
 exact ⟨((Has.new_at (by simp)).alloc _).alloc _, Has.new_at (by simp), (Has.new_at (by simp)).alloc _, by omega, by omega, hj, (((((Below.refl _ _).alloc (Nat.le_refl _) _).alloc (by simp) _).alloc (by simp; omega) _).alloc (by simp; omega) _).alloc (by simp; omega) _, by omega⟩
theorem tokW_tok (w : World) (l : List UInt8) (i : Nat) (z k : Int) : Has (tokW w l i z k) (w.heap.size + 1) 100 #[.int .i64 k, .string ⟨#[]⟩, .int .i64 0, .int .i64 (i : Nat)] := (((Has.new_at (by simp)).alloc _).alloc _).alloc _
theorem tokW_res (w : World) (l : List UInt8) (i : Nat) (z k : Int) : Has (tokW w l i z k) w.heap.size 100 #[.int .i64 0, .string ⟨#[]⟩, .int .i64 0, .int .i64 0] := ((((Has.new_at (by simp)).alloc _).alloc _).alloc _).alloc _
theorem bs_nil : bs [] = ⟨#[]⟩ := rfl
theorem below_drew' {B : Nat} {a w : World} (h : Below B a w) : Below B a w.drew := ⟨h.os, h.tape, h.output, h.size, h.block⟩
theorem lit_below {w : World} {o1 o2 o3 o4 : Obj} (o5 : Obj) : Below w.heap.size w (((((w.alloc o1).alloc o2).alloc o3).alloc o4).alloc o5).drew :=
 below_drew' ((((((Below.refl _ _).alloc (Nat.le_refl _) _).alloc (by simp) _).alloc (by simp; omega) _).alloc (by simp; omega) _).alloc (by simp; omega) _)
theorem tok_below {w w1 : World} {l : List UInt8} {i J : Nat} {z k : Int} (hA : After (tokW w l i z k) w1 (w.heap.size + 1 + 1) J) {a : Nat} {u v0 v1 v2 v3 : Value} :
  Below w.heap.size w ((((((w1.setCell ⟨w.heap.size + 1, a, none⟩ u).setCell ⟨w.heap.size, 0, none⟩ v0).setCell ⟨w.heap.size, 1, none⟩ v1).setCell ⟨w.heap.size, 2, none⟩ v2).setCell ⟨w.heap.size, 3, none⟩ v3).drew) := by
 have h1 : Below w.heap.size w (tokW w l i z k) := (((((Below.refl _ _).alloc (Nat.le_refl _) _).alloc (by simp) _).alloc (by simp; omega) _).alloc (by simp; omega) _).alloc (by simp; omega) _
 have h2 := h1.trans (hA.below (B := w.heap.size) (by omega) (by simp; omega))
 exact below_drew' (((((h2.setCell (p := ⟨w.heap.size + 1, a, none⟩) (by simp) u).setCell (p := ⟨w.heap.size, 0, none⟩) (by simp) v0).setCell (p := ⟨w.heap.size, 1, none⟩) (by simp) v1).setCell (p := ⟨w.heap.size, 2, none⟩) (by simp) v2).setCell (p := ⟨w.heap.size, 3, none⟩) (by simp) v3)
end
section
open Go.ChangeShapes Go.WideShapes Go.ChangeAt Go.RowKit
theorem token_word {w : World} {l : List UInt8} {i : Nat} (hi : i < l.length) (hl : l.length ≤ 2000) (k1 : isSml l[i] = true) (h : ¬ 16 < cnt isWdy (l.drop i)) :
  Calls Tryz.prog 66 #[.string (bs l), .int .i64 (i : Nat)] w (TokenR w i ⟨0, (l.drop i).take (cnt isWdy (l.drop i)), 0⟩ (i + cnt isWdy (l.drop i)) 0) := by
 have hsz := bs_size l
 have h1 : i < (bs l).size := by omega
 have h2 : ((i : Nat) : Int) < ((bs l).size : Int) := by omega
 have hi2 : i ≤ 2000 := by omega
 have hc1 : isSml ((bs l)[i]'h1) = true := by rw [bs_get]; exact k1
 have hs1 := small_tells ((bs l)[i]'h1)
 rw [hc1] at hs1
 clear hc1 k1
 have hw := word_ok (tokW_clo w l i i (i : Nat) 0 rfl (by omega)) hl h
 have hH := tokW_tok w l i (i : Nat) 0
 have hR := tokW_res w l i (i : Nat) 0
 have HS : Hid ((bs l).size = l.length) := hsz
 clear hsz
 go_enter Tryz.func66, Tryz.ntmps66
 go_wp2_with (first
  | (go_at_call 96; refine (taking_c _ _ _).mono ?_; rintro e w' ⟨rfl, rfl⟩)
  | (go_at_call 100; refine (hs1 _).mono ?_; rintro e w' ⟨rfl, rfl⟩)
  | (go_at_call 101
     refine hw.mono ?_
     rintro e w1 ⟨rfl, hA⟩
     have hH1 := hA.other hH (by omega)
     have hR1 := hA.other hR (by omega)
     have c0 := hH1.cell 0
     have c1 := hH1.cell 1
     have c2 := hH1.cell 2
     have c3 := hH1.cell 3
     have f1 := hH1.free 1
     have f2 := hH1.free 2
     have hP := hA.at_.cell 0
     have r0 : w1.cell? ⟨w.heap.size, 0, none⟩ = some (.int .i64 0) := hR1.cell 0
     have r1 : w1.cell? ⟨w.heap.size, 1, none⟩ = some (.string ⟨#[]⟩) := hR1.cell 1
     have r2 : w1.cell? ⟨w.heap.size, 2, none⟩ = some (.int .i64 0) := hR1.cell 2
     have r3 : w1.cell? ⟨w.heap.size, 3, none⟩ = some (.int .i64 0) := hR1.cell 3
     have g0 := hR1.free 0
     have g1 := hR1.free 1
     have g2 := hR1.free 2
     have g3 := hR1.free 3))
 go_region
 all_goals
  go_wp2
  exact bodyPost_ret (v := .tuple #[.agg (tkv ⟨0, (l.drop i).take (cnt isWdy (l.drop i)), 0⟩ i), .int .i64 (((i + cnt isWdy (l.drop i)) : Nat) : Int), .int .i64 0]) (by simp [results, Tryz.results66, go_sem, tkv, r0, r1, r2, r3]) rfl ⟨rfl, tok_below hA⟩
theorem token_wordL {w : World} {l : List UInt8} {i : Nat} (hi : i < l.length) (hl : l.length ≤ 2000) (k1 : isSml l[i] = true) (h : 16 < cnt isWdy (l.drop i)) :
  Calls Tryz.prog 66 #[.string (bs l), .int .i64 (i : Nat)] w (TokenR w i ⟨0, [], 0⟩ (i + cnt isWdy (l.drop i)) 102) := by
 have hsz := bs_size l
 have h1 : i < (bs l).size := by omega
 have h2 : ((i : Nat) : Int) < ((bs l).size : Int) := by omega
 have hi2 : i ≤ 2000 := by omega
 have hc1 : isSml ((bs l)[i]'h1) = true := by rw [bs_get]; exact k1
 have hs1 := small_tells ((bs l)[i]'h1)
 rw [hc1] at hs1
 clear hc1 k1
 have hw := word_long (tokW_clo w l i i (i : Nat) 0 rfl (by omega)) hl h
 have hH := tokW_tok w l i (i : Nat) 0
 have hR := tokW_res w l i (i : Nat) 0
 have HS : Hid ((bs l).size = l.length) := hsz
 clear hsz
 go_enter Tryz.func66, Tryz.ntmps66
 go_wp2_with (first
  | (go_at_call 96; refine (taking_c _ _ _).mono ?_; rintro e w' ⟨rfl, rfl⟩)
  | (go_at_call 100; refine (hs1 _).mono ?_; rintro e w' ⟨rfl, rfl⟩)
  | (go_at_call 101
     refine hw.mono ?_
     rintro e w1 ⟨rfl, hA⟩
     have hH1 := hA.other hH (by omega)
     have hR1 := hA.other hR (by omega)
     have c0 := hH1.cell 0
     have c1 := hH1.cell 1
     have c2 := hH1.cell 2
     have c3 := hH1.cell 3
     have f1 := hH1.free 1
     have f2 := hH1.free 2
     have hP := hA.at_.cell 0
     have r0 : w1.cell? ⟨w.heap.size, 0, none⟩ = some (.int .i64 0) := hR1.cell 0
     have r1 : w1.cell? ⟨w.heap.size, 1, none⟩ = some (.string ⟨#[]⟩) := hR1.cell 1
     have r2 : w1.cell? ⟨w.heap.size, 2, none⟩ = some (.int .i64 0) := hR1.cell 2
     have r3 : w1.cell? ⟨w.heap.size, 3, none⟩ = some (.int .i64 0) := hR1.cell 3
     have g0 := hR1.free 0
     have g1 := hR1.free 1
     have g2 := hR1.free 2
     have g3 := hR1.free 3))
 go_region
 all_goals
  go_wp2
  exact bodyPost_ret (v := .tuple #[.agg (tkv ⟨0, [], 0⟩ i), .int .i64 (((i + cnt isWdy (l.drop i)) : Nat) : Int), .int .i64 102]) (by simp [results, Tryz.results66, go_sem, tkv, r0, r1, r2, r3]) rfl ⟨rfl, tok_below hA⟩
end
section
open Go.ChangeShapes Go.WideShapes Go.ChangeAt Go.RowKit
theorem token_num {w : World} {l : List UInt8} {i : Nat} (hi : i < l.length) (hl : l.length ≤ 2000) (k1 : isSml l[i] = false) (k2 : isFig l[i] = true) (h : ¬ 9 < cnt isFig (l.drop i)) (h0 : cnt isFig (l.drop i) ≠ 0) (hE : i + cnt isFig (l.drop i) < l.length) (k3 : isLet (l[i + cnt isFig (l.drop i)]) = false) :
  Calls Tryz.prog 66 #[.string (bs l), .int .i64 (i : Nat)] w (TokenR w i ⟨1, [], val ((l.drop i).take (cnt isFig (l.drop i)))⟩ (i + cnt isFig (l.drop i)) 0) := by
 have hsz := bs_size l
 have h1 : i < (bs l).size := by omega
 have h2 : ((i : Nat) : Int) < ((bs l).size : Int) := by omega
 have hi2 : i ≤ 2000 := by omega
 have hc1 : isSml ((bs l)[i]'h1) = false := by rw [bs_get]; exact k1
 have hs1 := small_tells ((bs l)[i]'h1)
 rw [hc1] at hs1
 clear hc1 k1
 have hc2 : isFig ((bs l)[i]'h1) = true := by rw [bs_get]; exact k2
 have hs2 := figure_tells ((bs l)[i]'h1)
 rw [hc2] at hs2
 clear hc2 k2
 have hw := number_ok (tokW_clo w l i i (i : Nat) 1 rfl (by omega)) hl h h0
 have hH := tokW_tok w l i (i : Nat) 1
 have hR := tokW_res w l i (i : Nat) 1
 obtain ⟨J, hJ⟩ : ∃ J, J = (i + cnt isFig (l.drop i)) := ⟨_, rfl⟩
 rw [← hJ] at hw hE ⊢
 have HJ : Hid (J = (i + cnt isFig (l.drop i))) := hJ
 clear hJ
 have hJ2 : J ≤ 2000 := by omega
 have b1 : J < (bs l).size := by rw [hsz]; exact hE
 have b2 : ((J : Nat) : Int) < ((bs l).size : Int) := by omega
 have k3' : isLet ((bs l)[J]'b1) = false := by rw [bs_get]; have := HJ.out; subst this; exact k3
 have hs3 := letter_tells ((bs l)[J]'b1)
 rw [k3'] at hs3
 clear k3' k3 hE
 have HS : Hid ((bs l).size = l.length) := hsz
 clear hsz
 go_enter Tryz.func66, Tryz.ntmps66
 go_wp2_with (first
  | (go_at_call 96; refine (taking_c _ _ _).mono ?_; rintro e w' ⟨rfl, rfl⟩)
  | (go_at_call 100; refine (hs1 _).mono ?_; rintro e w' ⟨rfl, rfl⟩)
  | (go_at_call 102; refine (hs2 _).mono ?_; rintro e w' ⟨rfl, rfl⟩)
  | (go_at_call 105; refine (hs3 _).mono ?_; rintro e w' ⟨rfl, rfl⟩)
  | (go_at_call 103
     refine hw.mono ?_
     rintro e w1 ⟨rfl, hA⟩
     have hH1 := hA.other hH (by omega)
     have hR1 := hA.other hR (by omega)
     have c0 := hH1.cell 0
     have c1 := hH1.cell 1
     have c2 := hH1.cell 2
     have c3 := hH1.cell 3
     have f1 := hH1.free 1
     have f2 := hH1.free 2
     have hP := hA.at_.cell 0
     have r0 : w1.cell? ⟨w.heap.size, 0, none⟩ = some (.int .i64 0) := hR1.cell 0
     have r1 : w1.cell? ⟨w.heap.size, 1, none⟩ = some (.string ⟨#[]⟩) := hR1.cell 1
     have r2 : w1.cell? ⟨w.heap.size, 2, none⟩ = some (.int .i64 0) := hR1.cell 2
     have r3 : w1.cell? ⟨w.heap.size, 3, none⟩ = some (.int .i64 0) := hR1.cell 3
     have g0 := hR1.free 0
     have g1 := hR1.free 1
     have g2 := hR1.free 2
     have g3 := hR1.free 3))
 go_region
 all_goals
  go_wp2
  exact bodyPost_ret (v := .tuple #[.agg (tkv ⟨1, [], val ((l.drop i).take (cnt isFig (l.drop i)))⟩ i), .int .i64 ((J : Nat) : Int), .int .i64 0]) (by simp [results, Tryz.results66, go_sem, tkv, r0, r1, r2, r3, bs_nil]) rfl ⟨rfl, tok_below hA⟩
theorem token_numE {w : World} {l : List UInt8} {i : Nat} (hi : i < l.length) (hl : l.length ≤ 2000) (k1 : isSml l[i] = false) (k2 : isFig l[i] = true) (h : ¬ 9 < cnt isFig (l.drop i)) (h0 : cnt isFig (l.drop i) ≠ 0) (hE : i + cnt isFig (l.drop i) = l.length) :
  Calls Tryz.prog 66 #[.string (bs l), .int .i64 (i : Nat)] w (TokenR w i ⟨1, [], val ((l.drop i).take (cnt isFig (l.drop i)))⟩ (i + cnt isFig (l.drop i)) 0) := by
 have hsz := bs_size l
 have h1 : i < (bs l).size := by omega
 have h2 : ((i : Nat) : Int) < ((bs l).size : Int) := by omega
 have hi2 : i ≤ 2000 := by omega
 have hc1 : isSml ((bs l)[i]'h1) = false := by rw [bs_get]; exact k1
 have hs1 := small_tells ((bs l)[i]'h1)
 rw [hc1] at hs1
 clear hc1 k1
 have hc2 : isFig ((bs l)[i]'h1) = true := by rw [bs_get]; exact k2
 have hs2 := figure_tells ((bs l)[i]'h1)
 rw [hc2] at hs2
 clear hc2 k2
 have hw := number_ok (tokW_clo w l i i (i : Nat) 1 rfl (by omega)) hl h h0
 have hH := tokW_tok w l i (i : Nat) 1
 have hR := tokW_res w l i (i : Nat) 1
 obtain ⟨J, hJ⟩ : ∃ J, J = (i + cnt isFig (l.drop i)) := ⟨_, rfl⟩
 rw [← hJ] at hw hE ⊢
 have HJ : Hid (J = (i + cnt isFig (l.drop i))) := hJ
 clear hJ
 have hJ2 : J ≤ 2000 := by omega
 have b2 : ¬ ((J : Nat) : Int) < ((bs l).size : Int) := by omega
 clear hE
 have HS : Hid ((bs l).size = l.length) := hsz
 clear hsz
 go_enter Tryz.func66, Tryz.ntmps66
 go_wp2_with (first
  | (go_at_call 96; refine (taking_c _ _ _).mono ?_; rintro e w' ⟨rfl, rfl⟩)
  | (go_at_call 100; refine (hs1 _).mono ?_; rintro e w' ⟨rfl, rfl⟩)
  | (go_at_call 102; refine (hs2 _).mono ?_; rintro e w' ⟨rfl, rfl⟩)
  | (go_at_call 105; refine (hs3 _).mono ?_; rintro e w' ⟨rfl, rfl⟩)
  | (go_at_call 103
     refine hw.mono ?_
     rintro e w1 ⟨rfl, hA⟩
     have hH1 := hA.other hH (by omega)
     have hR1 := hA.other hR (by omega)
     have c0 := hH1.cell 0
     have c1 := hH1.cell 1
     have c2 := hH1.cell 2
     have c3 := hH1.cell 3
     have f1 := hH1.free 1
     have f2 := hH1.free 2
     have hP := hA.at_.cell 0
     have r0 : w1.cell? ⟨w.heap.size, 0, none⟩ = some (.int .i64 0) := hR1.cell 0
     have r1 : w1.cell? ⟨w.heap.size, 1, none⟩ = some (.string ⟨#[]⟩) := hR1.cell 1
     have r2 : w1.cell? ⟨w.heap.size, 2, none⟩ = some (.int .i64 0) := hR1.cell 2
     have r3 : w1.cell? ⟨w.heap.size, 3, none⟩ = some (.int .i64 0) := hR1.cell 3
     have g0 := hR1.free 0
     have g1 := hR1.free 1
     have g2 := hR1.free 2
     have g3 := hR1.free 3))
 go_region
 all_goals
  go_wp2
  exact bodyPost_ret (v := .tuple #[.agg (tkv ⟨1, [], val ((l.drop i).take (cnt isFig (l.drop i)))⟩ i), .int .i64 ((J : Nat) : Int), .int .i64 0]) (by simp [results, Tryz.results66, go_sem, tkv, r0, r1, r2, r3, bs_nil]) rfl ⟨rfl, tok_below hA⟩
end
end Go.Proofs.YthndifegfmjpbaaGreatDoor
