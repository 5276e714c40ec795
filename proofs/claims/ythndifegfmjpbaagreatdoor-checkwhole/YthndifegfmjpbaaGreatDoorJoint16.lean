/- Texts that the statements of this stage share, joined. -/
import Derived.Test.YthndifegfmjpbaaGreatDoorJoint14
import Derived.Test.YthndifegfmjpbaaGreatDoorJoint15
import Derived.Test.YthndifegfmjpbaaGreatDoorJoint04
import Derived.RegionTactic
namespace Go.Proofs.YthndifegfmjpbaaGreatDoor
set_option linter.unusedVariables false
set_option maxRecDepth 100000
set_option maxHeartbeats 40000000
section
open Go.ChangeShapes Go.WideShapes Go.ChangeAt Go.RowKit
theorem rst_none {w : World} {rb : Nat} {A : Option Addr} {C : Nat} {ts : Toks} {i en : Nat} {k : Int} (h : RdrAt w rb A C ts i en 0 k) (hG : Goodt ts) (hn : ∀ hi : i < ts.length, ts[i].1.kind = 0 → ts[i].1.s ∉ stmts) : Calls Tryz.prog 22 #[.pointer (some ⟨rb, 0, none⟩)] w (RNode w rb A C ts i en 0 pstmt) := by
 obtain ⟨er, hpx⟩ := ps_no (en := en) hn
 have hlt := h.has.lt
 have hR := h
 have hB : ∀ s ∈ STS, isB 0 ts i s = false := by
  intro s hs
  cases hc : isB 0 ts i s with
  | false => rfl
  | true =>
    obtain ⟨_, hi, hp⟩ := isB_true hc
    obtain ⟨e1, e2⟩ := wd_kind hG hi (by
     intro c e
     rw [e] at hs
     simp only [STS, List.mem_cons, List.not_mem_nil, or_false] at hs
     rcases hs with q | q | q | q | q | q <;> cases q) hp
    exact absurd (by rw [e2]; exact hs) (hn hi e1)
 have hIs : ∀ (W : World) (k : Int) (s : List UInt8), RdrAt W rb A C ts i en 0 k → s ∈ STS → Calls Tryz.prog 43 #[.pointer (some ⟨rb, 0, none⟩), .string (bs s)] W fun e w' => e = .returned (.bool false) ∧ ∃ q, w' = W.drewN q := by
  intro W k s h hs
  have := ris_any h s
  rw [hB s hs] at this
  exact this
 have hpl : ∀ W k, RdrAt W rb A C ts i en 0 k → Calls Tryz.prog 42 #[.pointer (some ⟨rb, 0, none⟩)] W fun e w' => e = .returned (.int .i64 (place en (ts.drop i) : Nat)) ∧ Below W.heap.size W w' := by
  intro W k h
  refine (rplace_c h).mono ?_
  rintro e w' ⟨rfl, q, rfl⟩
  exact ⟨rfl, bel_dn (Below.refl _ _) _⟩
 have h0 := h.kp (b_one w (.cells #[.string ⟨#[]⟩, .string ⟨#[]⟩, .int .i64 0, .int .i64 0, .slice none 0 0] 24))
 generalize place en (ts.drop i) = at_ at hpl
 clear hB
 go_enter Tryz.func22, Tryz.ntmps22
 go_wp2_with (first
  | ((go_at_call 42)
     (refine (hpl _ _ h0).mono ?_)
     (rintro e w2 ⟨rfl, hb2⟩)
     (have S3 := (st_start (at_ := ((at_ : Nat) : Int)) hR hb2 hlt).alloc (.cells #[.string ⟨#[100, 101, 118, 105, 99, 101]⟩, .string ⟨#[106, 111, 117, 114, 110, 97, 108]⟩, .string ⟨#[107, 101, 121]⟩, .string ⟨#[114, 111, 111, 116]⟩, .string ⟨#[118, 111, 108, 117, 109, 101]⟩, .string ⟨#[101, 120, 112, 111, 114, 116]⟩] 9))
     (have pq := S3.pq)
     (have G3 : Has ((w2.alloc (.cells #[.string ⟨#[]⟩, .string ⟨#[]⟩, .int .i64 0, .int .i64 (at_ : Nat), .slice none 0 0] 24)).alloc (.cells #[.string ⟨#[100, 101, 118, 105, 99, 101]⟩, .string ⟨#[106, 111, 117, 114, 110, 97, 108]⟩, .string ⟨#[107, 101, 121]⟩, .string ⟨#[114, 111, 111, 116]⟩, .string ⟨#[118, 111, 108, 117, 109, 101]⟩, .string ⟨#[101, 120, 112, 111, 114, 116]⟩] 9)) (w2.heap.size + 1) 9 STSC := Has.new_at (by simp))))
 go_loopw [5] (fun z wr => ∃ k : Nat, k ≤ 6 ∧ z = .int .i64 (k : Nat) ∧ Has wr (w2.heap.size + 1) 9 STSC ∧ SAt w rb A C ts i en w2.heap.size #[.string ⟨#[]⟩, .string ⟨#[]⟩, .int .i64 0, .int .i64 (at_ : Nat), .slice none 0 0] wr i 0) (fun z _ => 7 - (intOf z).toNat)
 case atStart => exact ⟨0, Nat.zero_le _, rfl, G3, S3⟩
 case round =>
  obtain ⟨k, hk6, rfl, G4, S4⟩ := hrel
  have lG4 := G4.lt
  obtain ⟨k4, h4⟩ := S4.at hR
  have q0 := S4.hq.cell 0
  have lq := S4.hq.lt
  by_cases hk : k < 6
  · have hc : wr.cell? ⟨w2.heap.size + 1, k, none⟩ = some (.string (bs (STS[k]'hk))) := by rw [G4.cell]; exact STSC_get k hk
    have hI := hIs wr k4 (STS[k]'hk) h4 (List.getElem_mem _)
    generalize STS[k]'hk = y at hc hI
    go_wp2_with (first
     | ((go_at_call 43)
        (refine hI.mono ?_)
        (rintro e w5 ⟨rfl, q5, rfl⟩)))
    go_roundw
    case rel => exact ⟨k + 1, by omega, by go_num, G4.drewN q5, S4.drewN q5⟩
    case measure => simp [intOf]; omega
  · obtain rfl : k = 6 := by omega
    go_wp2_with (first
     | ((go_at_call 44)
        (refine (rfail_c h4 111 (by decide)).mono ?_)
        (rintro e w5 ⟨rfl, b5, k5, hb5, h5, hk5⟩)
        (have S5 := S4.rst (Rst.of (Nat.le_refl _) hk5 h5))
        (have p5 := S5.hp.lt)
        (have r5 := S5.hq.lt)
        (have ca0 := S5.hp.cell 0)
        (have ca1 := S5.hp.cell 1)
        (have ca2 := S5.hp.cell 2)
        (have ca3 := S5.hp.cell 3)
        (have ca4 := S5.hp.cell 4)
        (have fa0 := S5.hp.free 0)
        (have fa1 := S5.hp.free 1)
        (have fa2 := S5.hp.free 2)
        (have fa3 := S5.hp.free 3)
        (have fa4 := S5.hp.free 4)
        (have cb0 := S5.hq.cell 0)
        (have cb1 := S5.hq.cell 1)
        (have cb2 := S5.hq.cell 2)
        (have cb3 := S5.hq.cell 3)
        (have cb4 := S5.hq.cell 4)))
    refine ret_node rfl rfl (S5.hp.set5 _ _ _ _ _) rfl ?_
    exact ⟨i, b5, .mk [] [] 0 (at_ : Nat) [], none, 0, rfl, NdR.nil _ _, Rst.set5 S5.st (Nat.le_refl _) hlt _ _ _ _ _, Tell.err hpx hb5 _ _ _, Nat.zero_le _⟩
theorem rstmt_c {w : World} {rb : Nat} {A : Option Addr} {C : Nat} {ts : Toks} {i en : Nat} {k : Int} (h : RdrAt w rb A C ts i en 0 k) (hG : Goodt ts) : Calls Tryz.prog 22 #[.pointer (some ⟨rb, 0, none⟩)] w (RNode w rb A C ts i en 0 pstmt) := by
 by_cases hw : ∃ hi : i < ts.length, ts[i].1.kind = 0 ∧ ts[i].1.s ∈ stmts
 · obtain ⟨hi, hk, hm⟩ := hw
   simp only [stmts, List.mem_cons, List.not_mem_nil, or_false] at hm
   rcases hm with e | e | e | e | e | e
   · exact rst_Device h hG hi hk e
   · exact rst_Journal h hG hi hk e
   · exact rst_Key h hG hi hk e
   · exact rst_Root h hG hi hk e
   · exact rst_Volume h hG hi hk e
   · exact rst_Export h hG hi hk e
 · exact rst_none h hG fun hi hk hm => hw ⟨hi, hk, hm⟩
end
section
open Go.ChangeShapes Go.WideShapes Go.ChangeAt Go.RowKit
theorem ret_intL {a b : Int} (h : a = b) : Ending.returned (.int .i64 a) = .returned (.int .i64 b) := by rw [h]
theorem rletter_tells : Tells 72 isSml := by
 intro c w
 go_enter Tryz.func72, Tryz.ntmps72
 go_wp2
 all_goals
  go_ret
  refine ⟨ret_bool ?_, rfl⟩
  rw [isSml_eq, Bool.eq_iff_iff]
  simp
  try omega
theorem rfigure_tells : Tells 73 isFig := by
 intro c w
 go_enter Tryz.func73, Tryz.ntmps73
 go_wp2
 all_goals
  go_ret
  refine ⟨ret_bool ?_, rfl⟩
  rw [isFig_eq, Bool.eq_iff_iff]
  simp
  try omega
theorem rwordy_tells : Tells 110 isWdy := by
 intro c w
 have e : isWdy c = ((isSml c || isFig c) || decide ((c.toNat : Int) = 95)) := by
  unfold isWdy
  rw [isLet_eq]
  cases isSml c <;> cases isFig c <;> simp
 rw [e]
 have hs := rletter_tells c
 have hf := rfigure_tells c
 cases e1 : isSml c <;> cases e2 : isFig c
 all_goals
  rw [e1] at hs
  rw [e2] at hf
  clear e1 e2 e
  go_enter Tryz.func110, Tryz.ntmps110
  go_wp2_with (first
   | (go_at_call 72; refine (hs _).mono ?_; rintro e w' ⟨rfl, rfl⟩)
   | (go_at_call 73; refine (hf _).mono ?_; rintro e w' ⟨rfl, rfl⟩))
  all_goals
   go_ret
   refine ⟨ret_bool ?_, rfl⟩
   rw [Bool.eq_iff_iff]
   simp
   try omega
theorem rhexy_tells : Tells 111 isHxy := by
 intro c w
 rw [isHxy_eq]
 have hf := rfigure_tells c
 cases e : isFig c
 all_goals
  rw [e] at hf
  clear e
  go_enter Tryz.func111, Tryz.ntmps111
  go_wp2_with (go_at_call 73; refine (hf _).mono ?_; rintro e w' ⟨rfl, rfl⟩)
  all_goals
   go_ret
   refine ⟨ret_bool ?_, rfl⟩
   rw [Bool.eq_iff_iff]
   simp
   try omega
theorem rbare_c (l : List UInt8) (i : Nat) (w : World) (hl : l.length ≤ 2000) (hi : i ≤ l.length) : Calls Tryz.prog 75 #[.string (bs l), .int .i64 (i : Nat)] w fun e w' => e = .returned (.bool (!letAt (l.drop i))) ∧ w' = w := by
 have hsz := bs_size l
 have hz2 : (bs l).size ≤ 2000 := by omega
 by_cases h : i < l.length
 · have e0 : letAt (l.drop i) = isLet l[i] := by rw [List.drop_eq_getElem_cons h]; rfl
   have h1 : i < (bs l).size := by omega
   have h2 : ((i : Nat) : Int) < ((bs l).size : Int) := by omega
   have hg := bs_get l i h1
   have hs := rletter_tells ((bs l)[i]'h1)
   have he : (!letAt (l.drop i)) = (!isSml ((bs l)[i]'h1) && !decide (((((bs l)[i]'h1).toNat : Nat) : Int) = 95)) := by rw [e0, ← hg, isLet_eq, Bool.not_or]
   rw [he]
   cases e1 : isSml ((bs l)[i]'h1)
   all_goals
    rw [e1] at hs
    have HS : Hid ((bs l).size = l.length) := hsz
    clear e1 he hg hsz e0
    go_enter Tryz.func75, Tryz.ntmps75
    go_wp2_with (go_at_call 72; refine (hs _).mono ?_; rintro e w' ⟨rfl, rfl⟩)
    all_goals
     go_ret
     refine ⟨ret_bool ?_, rfl⟩
     rw [Bool.eq_iff_iff]
     simp
     try omega
 · have e0 : letAt (l.drop i) = false := by rw [List.drop_eq_nil_of_le (by omega)]; rfl
   have h2 : ¬ ((i : Nat) : Int) < ((bs l).size : Int) := by omega
   rw [e0]
   have HS : Hid ((bs l).size = l.length) := hsz
   clear hsz e0
   go_enter Tryz.func75, Tryz.ntmps75
   go_wp2
   go_ret
   exact ⟨rfl, rfl⟩
theorem rend_word (l : List UInt8) (i : Nat) (w : World) (hl : l.length ≤ 2000) (hi : i ≤ l.length) : Calls Tryz.prog 74 #[.string (bs l), .int .i64 (i : Nat), .int .i64 0] w fun e w' => e = .returned (.int .i64 ((i + cnt isWdy (l.drop i) : Nat) : Int)) ∧ w' = w := by
 have hsz := bs_size l
 have hz2 : (bs l).size ≤ 2000 := by omega
 have HS : Hid ((bs l).size = l.length) := hsz
 clear hsz
 go_enter Tryz.func74, Tryz.ntmps74
 go_wp2
 go_loop [1, 7] (fun z m => ∃ (k : Nat) (b : Bool), k ≤ cnt isWdy (l.drop i) ∧ i + k ≤ l.length ∧ z = .int .i64 ((i + k : Nat) : Int) ∧ m = .bool b ∧ (b = false → k = cnt isWdy (l.drop i))) (fun z m => 2 * (2000 - (intOf z).toNat) + (match m with | .bool true => 1 | _ => 0))
 case atStart => exact ⟨0, true, Nat.zero_le _, by omega, rfl, rfl, fun h => by cases h⟩
 case round =>
  obtain ⟨k, b, hk, hkl, rfl, rfl, hb⟩ := hrel
  obtain ⟨J, hJ⟩ : ∃ J, J = i + k := ⟨_, rfl⟩
  rw [← hJ]
  have HJ : Hid (J = i + k) := hJ
  clear hJ
  have hJ2 : J ≤ 2000 := by have := HJ.out; omega
  by_cases hlt : i + k < l.length
  · have h1 : J < (bs l).size := by rw [HS.out, HJ.out]; exact hlt
    have h2 : ((J : Nat) : Int) < ((bs l).size : Int) := by omega
    have hget : (bs l)[J]'h1 = l[i + k] := by rw [bs_get]; simp only [HJ.out]
    cases b
    · have HE : Hid (k = cnt isWdy (l.drop i)) := hb rfl
      clear hb hget
      go_wp2
      go_ret
      exact ⟨ret_intL (by have h8 := HJ.out; have h9 := HE.out; omega), rfl⟩
    · have ht := fun W => rwordy_tells ((bs l)[J]'h1) W
      cases hc : isWdy (l[i + k])
      · have hb2 : isWdy ((bs l)[J]'h1) = false := by rw [hget]; exact hc
        rw [hb2] at ht
        have HN : Hid (k = cnt isWdy (l.drop i)) := cnt_stop hk hlt hc
        clear hb2 hget hc hb
        go_wp2_with (go_at_call 110; refine (ht _).mono ?_; rintro e w' ⟨rfl, rfl⟩)
        go_round
        case rel => exact ⟨k, false, hk, hkl, by rw [HJ.out], rfl, fun _ => HN.out⟩
        case measure => simp [intOf]
      · have hb2 : isWdy ((bs l)[J]'h1) = true := by rw [hget]; exact hc
        rw [hb2] at ht
        have hn := (cnt_at hk hlt).2 hc
        clear hb2 hget hc hb
        go_wp2_with (go_at_call 110; refine (ht _).mono ?_; rintro e w' ⟨rfl, rfl⟩)
        go_round
        case rel => exact ⟨k + 1, true, hn, by omega, by have := HJ.out; go_num, rfl, fun h => by cases h⟩
        case measure => simp [intOf]; omega
  · have h2 : ¬ ((J : Nat) : Int) < ((bs l).size : Int) := by rw [HS.out, HJ.out]; omega
    have HE : Hid (k = cnt isWdy (l.drop i)) := cnt_end hk hlt hi
    clear hb
    go_wp2
    go_ret
    exact ⟨ret_intL (by have h8 := HJ.out; have h9 := HE.out; omega), rfl⟩
theorem rend_figure (l : List UInt8) (i : Nat) (w : World) (hl : l.length ≤ 2000) (hi : i ≤ l.length) : Calls Tryz.prog 74 #[.string (bs l), .int .i64 (i : Nat), .int .i64 1] w fun e w' => e = .returned (.int .i64 ((i + cnt isFig (l.drop i) : Nat) : Int)) ∧ w' = w := by
 have hsz := bs_size l
 have hz2 : (bs l).size ≤ 2000 := by omega
 have HS : Hid ((bs l).size = l.length) := hsz
 clear hsz
 go_enter Tryz.func74, Tryz.ntmps74
 go_wp2
 go_loop [1, 7] (fun z m => ∃ (k : Nat) (b : Bool), k ≤ cnt isFig (l.drop i) ∧ i + k ≤ l.length ∧ z = .int .i64 ((i + k : Nat) : Int) ∧ m = .bool b ∧ (b = false → k = cnt isFig (l.drop i))) (fun z m => 2 * (2000 - (intOf z).toNat) + (match m with | .bool true => 1 | _ => 0))
 case atStart => exact ⟨0, true, Nat.zero_le _, by omega, rfl, rfl, fun h => by cases h⟩
 case round =>
  obtain ⟨k, b, hk, hkl, rfl, rfl, hb⟩ := hrel
  obtain ⟨J, hJ⟩ : ∃ J, J = i + k := ⟨_, rfl⟩
  rw [← hJ]
  have HJ : Hid (J = i + k) := hJ
  clear hJ
  have hJ2 : J ≤ 2000 := by have := HJ.out; omega
  by_cases hlt : i + k < l.length
  · have h1 : J < (bs l).size := by rw [HS.out, HJ.out]; exact hlt
    have h2 : ((J : Nat) : Int) < ((bs l).size : Int) := by omega
    have hget : (bs l)[J]'h1 = l[i + k] := by rw [bs_get]; simp only [HJ.out]
    cases b
    · have HE : Hid (k = cnt isFig (l.drop i)) := hb rfl
      clear hb hget
      go_wp2
      go_ret
      exact ⟨ret_intL (by have h8 := HJ.out; have h9 := HE.out; omega), rfl⟩
    · have ht := fun W => rfigure_tells ((bs l)[J]'h1) W
      cases hc : isFig (l[i + k])
      · have hb2 : isFig ((bs l)[J]'h1) = false := by rw [hget]; exact hc
        rw [hb2] at ht
        have HN : Hid (k = cnt isFig (l.drop i)) := cnt_stop hk hlt hc
        clear hb2 hget hc hb
        go_wp2_with (go_at_call 73; refine (ht _).mono ?_; rintro e w' ⟨rfl, rfl⟩)
        go_round
        case rel => exact ⟨k, false, hk, hkl, by rw [HJ.out], rfl, fun _ => HN.out⟩
        case measure => simp [intOf]
      · have hb2 : isFig ((bs l)[J]'h1) = true := by rw [hget]; exact hc
        rw [hb2] at ht
        have hn := (cnt_at hk hlt).2 hc
        clear hb2 hget hc hb
        go_wp2_with (go_at_call 73; refine (ht _).mono ?_; rintro e w' ⟨rfl, rfl⟩)
        go_round
        case rel => exact ⟨k + 1, true, hn, by omega, by have := HJ.out; go_num, rfl, fun h => by cases h⟩
        case measure => simp [intOf]; omega
  · have h2 : ¬ ((J : Nat) : Int) < ((bs l).size : Int) := by rw [HS.out, HJ.out]; omega
    have HE : Hid (k = cnt isFig (l.drop i)) := cnt_end hk hlt hi
    clear hb
    go_wp2
    go_ret
    exact ⟨ret_intL (by have h8 := HJ.out; have h9 := HE.out; omega), rfl⟩
theorem rend_hex (l : List UInt8) (i : Nat) (w : World) (hl : l.length ≤ 2000) (hi : i ≤ l.length) : Calls Tryz.prog 74 #[.string (bs l), .int .i64 (i : Nat), .int .i64 2] w fun e w' => e = .returned (.int .i64 ((i + cnt isHxy (l.drop i) : Nat) : Int)) ∧ w' = w := by
 have hsz := bs_size l
 have hz2 : (bs l).size ≤ 2000 := by omega
 have HS : Hid ((bs l).size = l.length) := hsz
 clear hsz
 go_enter Tryz.func74, Tryz.ntmps74
 go_wp2
 go_loop [1, 7] (fun z m => ∃ (k : Nat) (b : Bool), k ≤ cnt isHxy (l.drop i) ∧ i + k ≤ l.length ∧ z = .int .i64 ((i + k : Nat) : Int) ∧ m = .bool b ∧ (b = false → k = cnt isHxy (l.drop i))) (fun z m => 2 * (2000 - (intOf z).toNat) + (match m with | .bool true => 1 | _ => 0))
 case atStart => exact ⟨0, true, Nat.zero_le _, by omega, rfl, rfl, fun h => by cases h⟩
 case round =>
  obtain ⟨k, b, hk, hkl, rfl, rfl, hb⟩ := hrel
  obtain ⟨J, hJ⟩ : ∃ J, J = i + k := ⟨_, rfl⟩
  rw [← hJ]
  have HJ : Hid (J = i + k) := hJ
  clear hJ
  have hJ2 : J ≤ 2000 := by have := HJ.out; omega
  by_cases hlt : i + k < l.length
  · have h1 : J < (bs l).size := by rw [HS.out, HJ.out]; exact hlt
    have h2 : ((J : Nat) : Int) < ((bs l).size : Int) := by omega
    have hget : (bs l)[J]'h1 = l[i + k] := by rw [bs_get]; simp only [HJ.out]
    cases b
    · have HE : Hid (k = cnt isHxy (l.drop i)) := hb rfl
      clear hb hget
      go_wp2
      go_ret
      exact ⟨ret_intL (by have h8 := HJ.out; have h9 := HE.out; omega), rfl⟩
    · have ht := fun W => rhexy_tells ((bs l)[J]'h1) W
      cases hc : isHxy (l[i + k])
      · have hb2 : isHxy ((bs l)[J]'h1) = false := by rw [hget]; exact hc
        rw [hb2] at ht
        have HN : Hid (k = cnt isHxy (l.drop i)) := cnt_stop hk hlt hc
        clear hb2 hget hc hb
        go_wp2_with (go_at_call 111; refine (ht _).mono ?_; rintro e w' ⟨rfl, rfl⟩)
        go_round
        case rel => exact ⟨k, false, hk, hkl, by rw [HJ.out], rfl, fun _ => HN.out⟩
        case measure => simp [intOf]
      · have hb2 : isHxy ((bs l)[J]'h1) = true := by rw [hget]; exact hc
        rw [hb2] at ht
        have hn := (cnt_at hk hlt).2 hc
        clear hb2 hget hc hb
        go_wp2_with (go_at_call 111; refine (ht _).mono ?_; rintro e w' ⟨rfl, rfl⟩)
        go_round
        case rel => exact ⟨k + 1, true, hn, by omega, by have := HJ.out; go_num, rfl, fun h => by cases h⟩
        case measure => simp [intOf]; omega
  · have h2 : ¬ ((J : Nat) : Int) < ((bs l).size : Int) := by rw [HS.out, HJ.out]; omega
    have HE : Hid (k = cnt isHxy (l.drop i)) := cnt_end hk hlt hi
    clear hb
    go_wp2
    go_ret
    exact ⟨ret_intL (by have h8 := HJ.out; have h9 := HE.out; omega), rfl⟩
end
section
open Go.ChangeShapes Go.WideShapes Go.ChangeAt Go.RowKit
theorem blk_vals {c : UInt8} (h : isBlk c = true) : (c.toNat : Int) = 9 ∨ (c.toNat : Int) = 10 ∨ (c.toNat : Int) = 13 ∨ (c.toNat : Int) = 32 := by
 rw [isBlk_eq] at h
 simp at h
 omega
theorem blk_nots {c : UInt8} (h : isBlk c = false) : ¬ (c.toNat : Int) = 9 ∧ ¬ (c.toNat : Int) = 10 ∧ ¬ (c.toNat : Int) = 13 ∧ ¬ (c.toNat : Int) = 32 := by
 rw [isBlk_eq] at h
 simp at h
 omega
theorem val_of {c : UInt8} {k : Nat} (h : c.toNat = k) : c = UInt8.ofNat k := by
 apply UInt8.toNat_inj.1
 rw [h]
 simp
 have := c.toNat_lt
 omega
theorem note_at {l : List UInt8} {j : Nat} (h : j < l.length) : isNote (l.drop j) = true ↔ ∃ h2 : j + 1 < l.length, l[j] = 47 ∧ l[j + 1] = 47 := by
 rw [List.drop_eq_getElem_cons h]
 by_cases h2 : j + 1 < l.length
 · rw [List.drop_eq_getElem_cons h2]
   simp only [isNote, List.take_succ_cons, List.take_zero, beq_iff_eq, List.cons.injEq, and_true]
   exact ⟨fun h => ⟨h2, h⟩, fun ⟨_, h⟩ => h⟩
 · rw [List.drop_eq_nil_of_le (by omega)]
   constructor
   · intro h; simp [isNote] at h
   · rintro ⟨h3, _⟩; exact absurd h3 h2
theorem skp_one {l : List UInt8} {j : Nat} (h : j < l.length) (hb : isBlk l[j] = true) : skp false (l.drop j) = skp false (l.drop (j + 1)) + 1 := by
 rw [List.drop_eq_getElem_cons h, skp, if_pos hb]
theorem cnt_blk0 {l : List UInt8} {j : Nat} (h : j < l.length) (hb : isBlk l[j] = false) : cnt isBlk (l.drop j) = 0 := by
 rw [List.drop_eq_getElem_cons h, cnt_cons, hb]
 simp
theorem rskip_c (l : List UInt8) (i : Nat) (w : World) (hl : l.length ≤ 2000) (hi : i ≤ l.length) : Calls Tryz.prog 40 #[.string (bs l), .int .i64 (i : Nat)] w fun e w' => e = .returned (.int .i64 ((i + skp false (l.drop i) : Nat) : Int)) ∧ w' = w := by
 have hsz := bs_size l
 have hz2 : (bs l).size ≤ 2000 := by omega
 have HS : Hid ((bs l).size = l.length) := hsz
 clear hsz
 obtain ⟨R, hR⟩ : ∃ R, R = i + skp false (l.drop i) := ⟨_, rfl⟩
 rw [← hR]
 have HR : Hid (R = i + skp false (l.drop i)) := hR
 clear hR
 go_enter Tryz.func40, Tryz.ntmps40
 go_wp2
 go_loop [1] (fun z => ∃ j : Nat, j ≤ l.length ∧ z = .int .i64 (j : Nat) ∧ R = j + skp false (l.drop j)) (fun z => 2000 - (intOf z).toNat)
 case atStart => exact ⟨i, hi, rfl, HR.out⟩
 case round =>
  obtain ⟨J, hJl, rfl, hR⟩ := hrel
  have HRJ : Hid (R = J + skp false (l.drop J)) := hR
  clear hR
  have hJ2 : J ≤ 2000 := by omega
  by_cases hlt : J < l.length
  · have h1 : J < (bs l).size := by rw [HS.out]; exact hlt
    have h2 : ((J : Nat) : Int) < ((bs l).size : Int) := by omega
    have hget : (bs l)[J]'h1 = l[J] := bs_get l J h1
    cases hb : isBlk l[J]
    · have hn := blk_nots (show isBlk ((bs l)[J]'h1) = false by rw [hget]; exact hb)
      obtain ⟨n1, n2, n3, n4⟩ := hn
      have o1 : (((((bs l)[J]'h1).toNat : Nat) : Int) == 9) = false := by simpa using n1
      have o2 : (((((bs l)[J]'h1).toNat : Nat) : Int) == 10) = false := by simpa using n2
      have o3 : (((((bs l)[J]'h1).toNat : Nat) : Int) == 13) = false := by simpa using n3
      have o4 : (((((bs l)[J]'h1).toNat : Nat) : Int) == 32) = false := by simpa using n4
      cases hno : isNote (l.drop J)
      · have HE : Hid (R = J) := by show R = J; rw [HRJ.out, skp_zero (cnt_blk0 hlt hb) hno]; rfl
        have hnn : ¬ ∃ h2 : J + 1 < l.length, l[J] = 47 ∧ l[J + 1] = 47 := fun h => by rw [(note_at hlt).2 h] at hno; cases hno
        by_cases ha : J + 1 < l.length
        · have a1 : J + 1 < (bs l).size := by rw [HS.out]; exact ha
          have a2 : ((J : Nat) : Int) + 1 < ((bs l).size : Int) := by omega
          by_cases hv : ((((bs l)[J]'h1).toNat : Nat) : Int) = 47
          · have hv2 : ¬ ((((bs l)[J + 1]'a1).toNat : Nat) : Int) = 47 := by
             intro e
             apply hnn
             refine ⟨ha, ?_, ?_⟩
             · rw [← hget]; exact val_of (k := 47) (by omega)
             · rw [← bs_get l (J + 1) a1]; exact val_of (k := 47) (by omega)
            have o5 : (((((bs l)[J + 1]'a1).toNat : Nat) : Int) == 47) = false := by simpa using hv2
            clear hb hno hnn hget o1 o2 o3 o4 n1 n2 n3 n4
            go_wp2
            go_ret
            exact ⟨ret_intL (by rw [HE.out]), rfl⟩
          · have o5 : (((((bs l)[J]'h1).toNat : Nat) : Int) == 47) = false := by simpa using hv
            clear hb hno hnn hget
            go_wp2
            go_ret
            exact ⟨ret_intL (by rw [HE.out]), rfl⟩
        · have a2 : ¬ ((J : Nat) : Int) + 1 < ((bs l).size : Int) := by rw [HS.out]; omega
          clear hb hno hnn hget
          go_wp2
          go_ret
          exact ⟨ret_intL (by rw [HE.out]), rfl⟩
      · obtain ⟨ha, hv, hv2⟩ := (note_at hlt).1 hno
        have a1 : J + 1 < (bs l).size := by rw [HS.out]; exact ha
        have a2 : ((J : Nat) : Int) + 1 < ((bs l).size : Int) := by omega
        have b1 : ((((bs l)[J]'h1).toNat : Nat) : Int) = 47 := by rw [show (bs l)[J]'h1 = 47 from hget.trans hv]; rfl
        have b2 : ((((bs l)[J + 1]'a1).toNat : Nat) : Int) = 47 := by rw [show (bs l)[J + 1]'a1 = 47 from (bs_get l (J + 1) a1).trans hv2]; rfl
        have hsn := skp_isNote hno
        have hE2 : R = J + cnt isLin (l.drop J) + skp false (l.drop (J + cnt isLin (l.drop J))) := by
         rw [HRJ.out, hsn.1, List.drop_drop]; omega
        have HE : Hid (R = J + cnt isLin (l.drop J) + skp false (l.drop (J + cnt isLin (l.drop J)))) := hE2
        have hc2 := hsn.2
        clear hb hno hget hv hv2 hsn hE2 o1 o2 o3 o4 n1 n2 n3 n4
        go_wp2
        go_loop [1] (fun z => ∃ k : Nat, k ≤ cnt isLin (l.drop J) ∧ J + k ≤ l.length ∧ z = .int .i64 ((J + k : Nat) : Int)) (fun z => 2000 - (intOf z).toNat)
        case atStart => exact ⟨0, Nat.zero_le _, by omega, rfl⟩
        case round =>
         obtain ⟨k, hk, hkl, rfl⟩ := hrel
         obtain ⟨K, hK⟩ : ∃ K, K = J + k := ⟨_, rfl⟩
         rw [← hK]
         have HK : Hid (K = J + k) := hK
         clear hK
         have hK2 : K ≤ 2000 := by have := HK.out; omega
         by_cases hlt3 : J + k < l.length
         · have d1 : K < (bs l).size := by rw [HS.out, HK.out]; exact hlt3
           have d2 : ((K : Nat) : Int) < ((bs l).size : Int) := by omega
           have dg : (bs l)[K]'d1 = l[J + k] := by rw [bs_get]; simp only [HK.out]
           cases hc : isLin (l[J + k])
           · have e1 : ((((bs l)[K]'d1).toNat : Nat) : Int) = 10 := by rw [dg]; rw [isLin_eq] at hc; simpa using hc
             have HN : Hid (k = cnt isLin (l.drop J)) := cnt_stop hk hlt3 hc
             clear dg hc
             go_wp2
             go_round
             case rel => exact ⟨J + cnt isLin (l.drop J), by have := HN.out; omega, by have h8 := HN.out; have h9 := HK.out; rw [← h8, ← h9], HE.out⟩
             case measure => have h8 := HN.out; have h9 := HK.out; simp [intOf]; omega
           · have e1 : ¬ ((((bs l)[K]'d1).toNat : Nat) : Int) = 10 := by rw [dg]; rw [isLin_eq] at hc; simpa using hc
             have hn := (cnt_at hk hlt3).2 hc
             clear dg hc
             go_wp2
             go_round
             case rel => exact ⟨k + 1, hn, by omega, by have := HK.out; go_num⟩
             case measure => simp [intOf]; omega
         · have d2 : ¬ ((K : Nat) : Int) < ((bs l).size : Int) := by rw [HS.out, HK.out]; omega
           have HN : Hid (k = cnt isLin (l.drop J)) := cnt_end hk hlt3 (by omega)
           go_wp2
           go_round
           case rel => exact ⟨J + cnt isLin (l.drop J), by have := HN.out; omega, by have h8 := HN.out; have h9 := HK.out; rw [← h8, ← h9], HE.out⟩
           case measure => have h8 := HN.out; have h9 := HK.out; simp [intOf]; omega
    · have hvs := blk_vals (show isBlk ((bs l)[J]'h1) = true by rw [hget]; exact hb)
      have HE : Hid (R = J + 1 + skp false (l.drop (J + 1))) := by show R = _; rw [HRJ.out, skp_one hlt hb]; omega
      clear hb hget
      rcases hvs with hv | hv | hv | hv
      all_goals
       go_wp2
       go_round
       case rel => exact ⟨J + 1, by omega, by go_num, HE.out⟩
       case measure => simp [intOf]; omega
  · have h2 : ¬ ((J : Nat) : Int) < ((bs l).size : Int) := by rw [HS.out]; omega
    have HE : Hid (R = J) := by show R = J; rw [HRJ.out, List.drop_eq_nil_of_le (by omega)]; rfl
    go_wp2
    go_ret
    exact ⟨ret_intL (by rw [HE.out]), rfl⟩
end
section
open Go.ChangeShapes Go.WideShapes Go.ChangeAt Go.RowKit
def rtkv (t : Tk) (p : Nat) : Array Value := #[.int .i64 (t.kind : Nat), .string (bs t.s), .int .i64 (t.n : Nat), .int .i64 (p : Nat)]
def ROneR (w : World) (i : Nat) (t : Tk) (E : Nat) (er : Int) (a : Int) (e : Ending) (w' : World) : Prop := e = .returned (.tuple #[.agg (rtkv t i), .int .i64 (E : Nat), .int .i64 er, .int .i64 a]) ∧ Below w.heap.size w w'
theorem sml_fig {c : UInt8} (h : isSml c = true) : isFig c = false := by
 simp [isSml] at h
 simp [isFig]
 omega
theorem rbs_nil : bs [] = ⟨#[]⟩ := rfl
theorem two_below {w : World} {o1 : Obj} (o2 : Obj) : Below w.heap.size w ((w.alloc o1).alloc o2) := ((Below.refl _ _).alloc (Nat.le_refl _) _).alloc (by simp) _
end
section
open Go.ChangeShapes Go.WideShapes Go.ChangeAt Go.RowKit
theorem rone_word {w : World} {l : List UInt8} {i : Nat} (hi : i < l.length) (hl : l.length ≤ 2000) (k1 : isSml l[i] = true) (h : ¬ 16 < cnt isWdy (l.drop i)) :
  Calls Tryz.prog 41 #[.string (bs l), .int .i64 (i : Nat)] w (ROneR w i ⟨0, (l.drop i).take (cnt isWdy (l.drop i)), 0⟩ (i + cnt isWdy (l.drop i)) 0 (-1)) := by
 have hsz := bs_size l
 have h1 : i < (bs l).size := by omega
 have h2 : ((i : Nat) : Int) < ((bs l).size : Int) := by omega
 have hi2 : i ≤ 2000 := by omega
 have hz2 : (bs l).size ≤ 2000 := by omega
 have k2 := sml_fig k1
 have hc1 : isSml ((bs l)[i]'h1) = true := by rw [bs_get]; exact k1
 have hs1 := rletter_tells ((bs l)[i]'h1)
 rw [hc1] at hs1
 clear hc1 k1
 have hc2 : isFig ((bs l)[i]'h1) = false := by rw [bs_get]; exact k2
 have hs2 := rfigure_tells ((bs l)[i]'h1)
 rw [hc2] at hs2
 clear hc2 k2
 have hen := fun W => rend_word l i W hl (by omega)
 obtain ⟨J, hJ⟩ : ∃ J, J = (i + cnt isWdy (l.drop i)) := ⟨_, rfl⟩
 rw [← hJ] at hen ⊢
 have hJl : J ≤ l.length := by
  have := cnt_le isWdy (l.drop i)
  rw [List.length_drop] at this
  omega
 have hJ2 : J ≤ 2000 := by omega
 have g1 : ¬ (16 : Int) < ((J : Nat) : Int) - ((i : Nat) : Int) := by omega
 have g2 : ((i : Nat) : Int) ≤ ((J : Nat) : Int) := by omega
 have g3 : ((J : Nat) : Int) ≤ ((bs l).size : Int) := by omega
 have hx : (bs l).extract i J = bs ((l.drop i).take (cnt isWdy (l.drop i))) := by rw [bs_extract, hJ, Nat.add_sub_cancel_left]
 generalize (l.drop i).take (cnt isWdy (l.drop i)) = X at hx ⊢
 clear hJ
 have HS : Hid ((bs l).size = l.length) := hsz
 clear hsz
 go_enter Tryz.func41, Tryz.ntmps41
 go_wp2_with (first
  | (go_at_call 72; refine (hs1 _).mono ?_; rintro e w' ⟨rfl, rfl⟩)
  | (go_at_call 73; refine (hs2 _).mono ?_; rintro e w' ⟨rfl, rfl⟩)
  | (go_at_call 74; refine (hen _).mono ?_; rintro e w' ⟨rfl, rfl⟩))
 exact bodyPost_ret (v := .tuple #[.agg (rtkv ⟨0, X, 0⟩ i), .int .i64 ((J : Nat) : Int), .int .i64 0, .int .i64 (-1)]) (by simp [results, Tryz.results41, go_sem, rtkv]) rfl ⟨rfl, two_below _⟩
theorem rone_wordL {w : World} {l : List UInt8} {i : Nat} (hi : i < l.length) (hl : l.length ≤ 2000) (k1 : isSml l[i] = true) (h : 16 < cnt isWdy (l.drop i)) :
  Calls Tryz.prog 41 #[.string (bs l), .int .i64 (i : Nat)] w (ROneR w i ⟨0, [], 0⟩ (i + cnt isWdy (l.drop i)) 102 (i : Nat)) := by
 have hsz := bs_size l
 have h1 : i < (bs l).size := by omega
 have h2 : ((i : Nat) : Int) < ((bs l).size : Int) := by omega
 have hi2 : i ≤ 2000 := by omega
 have hz2 : (bs l).size ≤ 2000 := by omega
 have k2 := sml_fig k1
 have hc1 : isSml ((bs l)[i]'h1) = true := by rw [bs_get]; exact k1
 have hs1 := rletter_tells ((bs l)[i]'h1)
 rw [hc1] at hs1
 clear hc1 k1
 have hc2 : isFig ((bs l)[i]'h1) = false := by rw [bs_get]; exact k2
 have hs2 := rfigure_tells ((bs l)[i]'h1)
 rw [hc2] at hs2
 clear hc2 k2
 have hen := fun W => rend_word l i W hl (by omega)
 obtain ⟨J, hJ⟩ : ∃ J, J = (i + cnt isWdy (l.drop i)) := ⟨_, rfl⟩
 rw [← hJ] at hen ⊢
 have hJl : J ≤ l.length := by
  have := cnt_le isWdy (l.drop i)
  rw [List.length_drop] at this
  omega
 have hJ2 : J ≤ 2000 := by omega
 have g1 : (16 : Int) < ((J : Nat) : Int) - ((i : Nat) : Int) := by omega
 clear hJ
 have HS : Hid ((bs l).size = l.length) := hsz
 clear hsz
 go_enter Tryz.func41, Tryz.ntmps41
 go_wp2_with (first
  | (go_at_call 72; refine (hs1 _).mono ?_; rintro e w' ⟨rfl, rfl⟩)
  | (go_at_call 73; refine (hs2 _).mono ?_; rintro e w' ⟨rfl, rfl⟩)
  | (go_at_call 74; refine (hen _).mono ?_; rintro e w' ⟨rfl, rfl⟩))
 exact bodyPost_ret (v := .tuple #[.agg (rtkv ⟨0, [], 0⟩ i), .int .i64 ((J : Nat) : Int), .int .i64 102, .int .i64 (i : Nat)]) (by simp [results, Tryz.results41, go_sem, rtkv, rbs_nil]) rfl ⟨rfl, two_below _⟩
end
section
open Go.ChangeShapes Go.WideShapes Go.ChangeAt Go.RowKit
theorem rone_numL {w : World} {l : List UInt8} {i : Nat} (hi : i < l.length) (hl : l.length ≤ 2000) (k1 : isSml l[i] = false) (k2 : isFig l[i] = true) (h : 9 < cnt isFig (l.drop i)) :
  Calls Tryz.prog 41 #[.string (bs l), .int .i64 (i : Nat)] w (ROneR w i ⟨0, [], 0⟩ (i + cnt isFig (l.drop i)) 102 (i : Nat)) := by
 have hsz := bs_size l
 have h1 : i < (bs l).size := by omega
 have h2 : ((i : Nat) : Int) < ((bs l).size : Int) := by omega
 have hi2 : i ≤ 2000 := by omega
 have hz2 : (bs l).size ≤ 2000 := by omega
 have hc1 : isSml ((bs l)[i]'h1) = false := by rw [bs_get]; exact k1
 have hs1 := rletter_tells ((bs l)[i]'h1)
 rw [hc1] at hs1
 clear hc1 k1
 have hc2 : isFig ((bs l)[i]'h1) = true := by rw [bs_get]; exact k2
 have hs2 := rfigure_tells ((bs l)[i]'h1)
 rw [hc2] at hs2
 clear hc2 k2
 have hen := fun W => rend_figure l i W hl (by omega)
 obtain ⟨J, hJ⟩ : ∃ J, J = (i + cnt isFig (l.drop i)) := ⟨_, rfl⟩
 rw [← hJ] at hen ⊢
 have hJl : J ≤ l.length := by
  have := cnt_le isFig (l.drop i)
  rw [List.length_drop] at this
  omega
 have hJ2 : J ≤ 2000 := by omega
 have hba := fun W => rbare_c l J W hl hJl
 have g1 : (9 : Int) < ((J : Nat) : Int) - ((i : Nat) : Int) := by omega
 generalize (!letAt (l.drop J)) = bb at hba
 clear hJ
 have HS : Hid ((bs l).size = l.length) := hsz
 clear hsz
 go_enter Tryz.func41, Tryz.ntmps41
 go_wp2_with (first
  | (go_at_call 72; refine (hs1 _).mono ?_; rintro e w' ⟨rfl, rfl⟩)
  | (go_at_call 73; refine (hs2 _).mono ?_; rintro e w' ⟨rfl, rfl⟩)
  | (go_at_call 74; refine (hen _).mono ?_; rintro e w' ⟨rfl, rfl⟩)
  | (go_at_call 75; refine (hba _).mono ?_; rintro e w' ⟨rfl, rfl⟩))
 exact bodyPost_ret (v := .tuple #[.agg (rtkv ⟨0, [], 0⟩ i), .int .i64 ((J : Nat) : Int), .int .i64 102, .int .i64 (i : Nat)]) (by simp [results, Tryz.results41, go_sem, rtkv, rbs_nil]) rfl ⟨rfl, two_below _⟩
theorem rone_numB {w : World} {l : List UInt8} {i : Nat} (hi : i < l.length) (hl : l.length ≤ 2000) (k1 : isSml l[i] = false) (k2 : isFig l[i] = true) (h : ¬ 9 < cnt isFig (l.drop i)) (k3 : letAt (l.drop (i + cnt isFig (l.drop i))) = true) :
  Calls Tryz.prog 41 #[.string (bs l), .int .i64 (i : Nat)] w (ROneR w i ⟨0, [], 0⟩ (i + cnt isFig (l.drop i)) 101 ((i + cnt isFig (l.drop i) : Nat) : Int)) := by
 have hsz := bs_size l
 have h1 : i < (bs l).size := by omega
 have h2 : ((i : Nat) : Int) < ((bs l).size : Int) := by omega
 have hi2 : i ≤ 2000 := by omega
 have hz2 : (bs l).size ≤ 2000 := by omega
 have hc1 : isSml ((bs l)[i]'h1) = false := by rw [bs_get]; exact k1
 have hs1 := rletter_tells ((bs l)[i]'h1)
 rw [hc1] at hs1
 clear hc1 k1
 have hc2 : isFig ((bs l)[i]'h1) = true := by rw [bs_get]; exact k2
 have hs2 := rfigure_tells ((bs l)[i]'h1)
 rw [hc2] at hs2
 clear hc2 k2
 have hen := fun W => rend_figure l i W hl (by omega)
 obtain ⟨J, hJ⟩ : ∃ J, J = (i + cnt isFig (l.drop i)) := ⟨_, rfl⟩
 rw [← hJ] at hen ⊢
 have hJl : J ≤ l.length := by
  have := cnt_le isFig (l.drop i)
  rw [List.length_drop] at this
  omega
 have hJ2 : J ≤ 2000 := by omega
 have hba := fun W => rbare_c l J W hl hJl
 rw [show letAt (l.drop J) = true by rw [hJ]; exact k3] at hba
 have g1 : ¬ (9 : Int) < ((J : Nat) : Int) - ((i : Nat) : Int) := by omega
 clear hJ k3
 have HS : Hid ((bs l).size = l.length) := hsz
 clear hsz
 go_enter Tryz.func41, Tryz.ntmps41
 go_wp2_with (first
  | (go_at_call 72; refine (hs1 _).mono ?_; rintro e w' ⟨rfl, rfl⟩)
  | (go_at_call 73; refine (hs2 _).mono ?_; rintro e w' ⟨rfl, rfl⟩)
  | (go_at_call 74; refine (hen _).mono ?_; rintro e w' ⟨rfl, rfl⟩)
  | (go_at_call 75; refine (hba _).mono ?_; rintro e w' ⟨rfl, rfl⟩))
 exact bodyPost_ret (v := .tuple #[.agg (rtkv ⟨0, [], 0⟩ i), .int .i64 ((J : Nat) : Int), .int .i64 101, .int .i64 ((J : Nat) : Int)]) (by simp [results, Tryz.results41, go_sem, rtkv, rbs_nil]) rfl ⟨rfl, two_below _⟩
end
section
open Go.ChangeShapes Go.WideShapes Go.ChangeAt Go.RowKit
theorem rone_hexN {w : World} {l : List UInt8} {i : Nat} (hi : i < l.length) (hl : l.length ≤ 2000) (k4 : l[i] = 36) (h : cnt isHxy (l.drop (i + 1)) = 0) :
  Calls Tryz.prog 41 #[.string (bs l), .int .i64 (i : Nat)] w (ROneR w i ⟨0, [], 0⟩ (i + 1) 101 ((i + 1 : Nat) : Int)) := by
 have hsz := bs_size l
 have h1 : i < (bs l).size := by omega
 have h2 : ((i : Nat) : Int) < ((bs l).size : Int) := by omega
 have hi2 : i ≤ 2000 := by omega
 have hz2 : (bs l).size ≤ 2000 := by omega
 have k4' : (bs l)[i]'h1 = 36 := by rw [bs_get]; exact k4
 have k1 : isSml ((bs l)[i]'h1) = false := by rw [k4']; decide
 have k2 : isFig ((bs l)[i]'h1) = false := by rw [k4']; decide
 have hs1 := rletter_tells ((bs l)[i]'h1)
 rw [k1] at hs1
 have hs2 := rfigure_tells ((bs l)[i]'h1)
 rw [k2] at hs2
 have hv : ((((bs l)[i]'h1).toNat : Nat) : Int) = 36 := by rw [k4']; rfl
 rw [hv] at hs1 hs2
 clear k1 k2 k4 k4'
 have hen := fun W => rend_hex l (i + 1) W hl (by omega)
 rw [h, Nat.add_zero, show (((i + 1 : Nat) : Nat) : Int) = ((i : Nat) : Int) + 1 by omega] at hen
 have hba := fun W => rbare_c l (i + 1) W hl (by omega)
 rw [show (((i + 1 : Nat) : Nat) : Int) = ((i : Nat) : Int) + 1 by omega] at hba
 generalize (!letAt (l.drop (i + 1))) = bb at hba
 have HS : Hid ((bs l).size = l.length) := hsz
 clear hsz
 go_enter Tryz.func41, Tryz.ntmps41
 go_wp2_with (first
  | (go_at_call 72; refine (hs1 _).mono ?_; rintro e w' ⟨rfl, rfl⟩)
  | (go_at_call 73; refine (hs2 _).mono ?_; rintro e w' ⟨rfl, rfl⟩)
  | (go_at_call 74; refine (hen _).mono ?_; rintro e w' ⟨rfl, rfl⟩)
  | (go_at_call 75; refine (hba _).mono ?_; rintro e w' ⟨rfl, rfl⟩))
 exact bodyPost_ret (v := .tuple #[.agg (rtkv ⟨0, [], 0⟩ i), .int .i64 (((i + 1) : Nat) : Int), .int .i64 101, .int .i64 ((i + 1 : Nat) : Int)]) (by simp [results, Tryz.results41, go_sem, rtkv, rbs_nil]) rfl ⟨rfl, two_below _⟩
theorem rone_hexL {w : World} {l : List UInt8} {i : Nat} (hi : i < l.length) (hl : l.length ≤ 2000) (k4 : l[i] = 36) (h : 128 < cnt isHxy (l.drop (i + 1))) :
  Calls Tryz.prog 41 #[.string (bs l), .int .i64 (i : Nat)] w (ROneR w i ⟨0, [], 0⟩ (i + 1 + cnt isHxy (l.drop (i + 1))) 102 (i : Nat)) := by
 have hsz := bs_size l
 have h1 : i < (bs l).size := by omega
 have h2 : ((i : Nat) : Int) < ((bs l).size : Int) := by omega
 have hi2 : i ≤ 2000 := by omega
 have hz2 : (bs l).size ≤ 2000 := by omega
 have k4' : (bs l)[i]'h1 = 36 := by rw [bs_get]; exact k4
 have k1 : isSml ((bs l)[i]'h1) = false := by rw [k4']; decide
 have k2 : isFig ((bs l)[i]'h1) = false := by rw [k4']; decide
 have hs1 := rletter_tells ((bs l)[i]'h1)
 rw [k1] at hs1
 have hs2 := rfigure_tells ((bs l)[i]'h1)
 rw [k2] at hs2
 have hv : ((((bs l)[i]'h1).toNat : Nat) : Int) = 36 := by rw [k4']; rfl
 rw [hv] at hs1 hs2
 clear k1 k2 k4 k4'
 have hen := fun W => rend_hex l (i + 1) W hl (by omega)
 obtain ⟨J, hJ⟩ : ∃ J, J = (i + 1 + cnt isHxy (l.drop (i + 1))) := ⟨_, rfl⟩
 rw [← hJ] at hen ⊢
 have hJl : J ≤ l.length := by
  have := cnt_le isHxy (l.drop (i + 1))
  rw [List.length_drop] at this
  omega
 have hJ2 : J ≤ 2000 := by omega
 have ei : (((i + 1 : Nat) : Nat) : Int) = ((i : Nat) : Int) + 1 := by omega
 rw [ei] at hen
 have hba := fun W => rbare_c l J W hl hJl
 generalize (!letAt (l.drop J)) = bb at hba
 have g1 : ¬ ((J : Nat) : Int) = ((i : Nat) : Int) + 1 := by omega
 have g2 : (128 : Int) < ((J : Nat) : Int) - ((i : Nat) : Int) - 1 := by omega
 clear hJ
 have HS : Hid ((bs l).size = l.length) := hsz
 clear hsz
 go_enter Tryz.func41, Tryz.ntmps41
 go_wp2_with (first
  | (go_at_call 72; refine (hs1 _).mono ?_; rintro e w' ⟨rfl, rfl⟩)
  | (go_at_call 73; refine (hs2 _).mono ?_; rintro e w' ⟨rfl, rfl⟩)
  | (go_at_call 74; refine (hen _).mono ?_; rintro e w' ⟨rfl, rfl⟩)
  | (go_at_call 75; refine (hba _).mono ?_; rintro e w' ⟨rfl, rfl⟩))
 exact bodyPost_ret (v := .tuple #[.agg (rtkv ⟨0, [], 0⟩ i), .int .i64 ((J : Nat) : Int), .int .i64 102, .int .i64 (i : Nat)]) (by simp [results, Tryz.results41, go_sem, rtkv, rbs_nil]) rfl ⟨rfl, two_below _⟩
theorem rone_hexB {w : World} {l : List UInt8} {i : Nat} (hi : i < l.length) (hl : l.length ≤ 2000) (k4 : l[i] = 36) (h0 : cnt isHxy (l.drop (i + 1)) ≠ 0) (h : ¬ 128 < cnt isHxy (l.drop (i + 1))) (k3 : letAt (l.drop (i + 1 + cnt isHxy (l.drop (i + 1)))) = true) :
  Calls Tryz.prog 41 #[.string (bs l), .int .i64 (i : Nat)] w (ROneR w i ⟨0, [], 0⟩ (i + 1 + cnt isHxy (l.drop (i + 1))) 101 ((i + 1 + cnt isHxy (l.drop (i + 1)) : Nat) : Int)) := by
 have hsz := bs_size l
 have h1 : i < (bs l).size := by omega
 have h2 : ((i : Nat) : Int) < ((bs l).size : Int) := by omega
 have hi2 : i ≤ 2000 := by omega
 have hz2 : (bs l).size ≤ 2000 := by omega
 have k4' : (bs l)[i]'h1 = 36 := by rw [bs_get]; exact k4
 have k1 : isSml ((bs l)[i]'h1) = false := by rw [k4']; decide
 have k2 : isFig ((bs l)[i]'h1) = false := by rw [k4']; decide
 have hs1 := rletter_tells ((bs l)[i]'h1)
 rw [k1] at hs1
 have hs2 := rfigure_tells ((bs l)[i]'h1)
 rw [k2] at hs2
 have hv : ((((bs l)[i]'h1).toNat : Nat) : Int) = 36 := by rw [k4']; rfl
 rw [hv] at hs1 hs2
 clear k1 k2 k4 k4'
 have hen := fun W => rend_hex l (i + 1) W hl (by omega)
 obtain ⟨J, hJ⟩ : ∃ J, J = (i + 1 + cnt isHxy (l.drop (i + 1))) := ⟨_, rfl⟩
 rw [← hJ] at hen ⊢
 have hJl : J ≤ l.length := by
  have := cnt_le isHxy (l.drop (i + 1))
  rw [List.length_drop] at this
  omega
 have hJ2 : J ≤ 2000 := by omega
 have ei : (((i + 1 : Nat) : Nat) : Int) = ((i : Nat) : Int) + 1 := by omega
 rw [ei] at hen
 have hba := fun W => rbare_c l J W hl hJl
 rw [show letAt (l.drop J) = true by rw [hJ]; exact k3] at hba
 have g1 : ¬ ((J : Nat) : Int) = ((i : Nat) : Int) + 1 := by omega
 have g2 : ¬ (128 : Int) < ((J : Nat) : Int) - ((i : Nat) : Int) - 1 := by omega
 clear hJ k3
 have HS : Hid ((bs l).size = l.length) := hsz
 clear hsz
 go_enter Tryz.func41, Tryz.ntmps41
 go_wp2_with (first
  | (go_at_call 72; refine (hs1 _).mono ?_; rintro e w' ⟨rfl, rfl⟩)
  | (go_at_call 73; refine (hs2 _).mono ?_; rintro e w' ⟨rfl, rfl⟩)
  | (go_at_call 74; refine (hen _).mono ?_; rintro e w' ⟨rfl, rfl⟩)
  | (go_at_call 75; refine (hba _).mono ?_; rintro e w' ⟨rfl, rfl⟩))
 exact bodyPost_ret (v := .tuple #[.agg (rtkv ⟨0, [], 0⟩ i), .int .i64 ((J : Nat) : Int), .int .i64 101, .int .i64 ((J : Nat) : Int)]) (by simp [results, Tryz.results41, go_sem, rtkv, rbs_nil]) rfl ⟨rfl, two_below _⟩
end
end Go.Proofs.YthndifegfmjpbaaGreatDoor
