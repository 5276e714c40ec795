/- The reference of layer 10: blanks and notes. -/
import Derived.Test.YtpckmllmjdafpaaGreatDoorLyRef
import Derived.Test.YtpckmllmjdafpaaGreatDoorJoint01
namespace Go.Proofs.YtpckmllmjdafpaaGreatDoor
open Go.ChangeShapes Go.WideShapes Go.ChangeAt Go.RowKit
set_option linter.unusedVariables false

theorem blk_vals {c : UInt8} (h : isBlk c = true) : (c.toNat : Int) = 9 ∨ (c.toNat : Int) = 10 ∨ (c.toNat : Int) = 13 ∨ (c.toNat : Int) = 32 := by
  rw [isBlk_eq] at h
  simp at h
  omega

theorem blk_nots {c : UInt8} (h : isBlk c = false) : ¬ (c.toNat : Int) = 9 ∧ ¬ (c.toNat : Int) = 10 ∧ ¬ (c.toNat : Int) = 13 ∧ ¬ (c.toNat : Int) = 32 := by
  rw [isBlk_eq] at h
  simp at h
  omega

theorem val_of {c : UInt8} {k : Nat} (h : c.toNat = k) : c = UInt8.ofNat k := by
  apply UInt8.toNat_inj.1
  rw [h]
  simp
  have := c.toNat_lt
  omega

/-- What of a note is asked at a place. -/
theorem note_at {l : List UInt8} {j : Nat} (h : j < l.length) : isNote (l.drop j) = true ↔ ∃ h2 : j + 1 < l.length, l[j] = 47 ∧ l[j + 1] = 47 := by
  rw [List.drop_eq_getElem_cons h]
  by_cases h2 : j + 1 < l.length
  · rw [List.drop_eq_getElem_cons h2]
    simp only [isNote, List.take_succ_cons, List.take_zero, beq_iff_eq, List.cons.injEq, and_true]
    exact ⟨fun h => ⟨h2, h⟩, fun ⟨_, h⟩ => h⟩
  · rw [List.drop_eq_nil_of_le (by omega)]
    constructor
    · intro h; simp [isNote] at h
    · rintro ⟨h3, _⟩; exact absurd h3 h2

theorem skp_one {l : List UInt8} {j : Nat} (h : j < l.length) (hb : isBlk l[j] = true) : skp false (l.drop j) = skp false (l.drop (j + 1)) + 1 := by
  rw [List.drop_eq_getElem_cons h, skp, if_pos hb]

theorem cnt_blk0 {l : List UInt8} {j : Nat} (h : j < l.length) (hb : isBlk l[j] = false) : cnt isBlk (l.drop j) = 0 := by
  rw [List.drop_eq_getElem_cons h, cnt_cons, hb]
  simp

set_option maxRecDepth 100000 in
set_option maxHeartbeats 4000000 in
theorem rskip_c (l : List UInt8) (i : Nat) (w : World) (hl : l.length ≤ 2000) (hi : i ≤ l.length) : Calls Tryz.prog 59 #[.string (bs l), .int .i64 (i : Nat)] w fun e w' => e = .returned (.int .i64 ((i + skp false (l.drop i) : Nat) : Int)) ∧ w' = w := by
  have hsz := bs_size l
  have hz2 : (bs l).size ≤ 2000 := by omega
  have HS : Hid ((bs l).size = l.length) := hsz
  clear hsz
  obtain ⟨R, hR⟩ : ∃ R, R = i + skp false (l.drop i) := ⟨_, rfl⟩
  rw [← hR]
  have HR : Hid (R = i + skp false (l.drop i)) := hR
  clear hR
  go_enter Tryz.func59, Tryz.ntmps59
  go_wp2
  go_loop [1] (fun z => ∃ j : Nat, j ≤ l.length ∧ z = .int .i64 (j : Nat) ∧ R = j + skp false (l.drop j)) (fun z => 2000 - (intOf z).toNat)
  case atStart => exact ⟨i, hi, rfl, HR.out⟩
  case round =>
    obtain ⟨J, hJl, rfl, hR⟩ := hrel
    have HRJ : Hid (R = J + skp false (l.drop J)) := hR
    clear hR
    have hJ2 : J ≤ 2000 := by omega
    by_cases hlt : J < l.length
    · have h1 : J < (bs l).size := by rw [HS.out]; exact hlt
      have h2 : ((J : Nat) : Int) < ((bs l).size : Int) := by omega
      have hget : (bs l)[J]'h1 = l[J] := bs_get l J h1
      cases hb : isBlk l[J]
      · have hn := blk_nots (show isBlk ((bs l)[J]'h1) = false by rw [hget]; exact hb)
        obtain ⟨n1, n2, n3, n4⟩ := hn
        have o1 : (((((bs l)[J]'h1).toNat : Nat) : Int) == 9) = false := by simpa using n1
        have o2 : (((((bs l)[J]'h1).toNat : Nat) : Int) == 10) = false := by simpa using n2
        have o3 : (((((bs l)[J]'h1).toNat : Nat) : Int) == 13) = false := by simpa using n3
        have o4 : (((((bs l)[J]'h1).toNat : Nat) : Int) == 32) = false := by simpa using n4
        cases hno : isNote (l.drop J)
        · have HE : Hid (R = J) := by show R = J; rw [HRJ.out, skp_zero (cnt_blk0 hlt hb) hno]; rfl
          have hnn : ¬ ∃ h2 : J + 1 < l.length, l[J] = 47 ∧ l[J + 1] = 47 := fun h => by rw [(note_at hlt).2 h] at hno; cases hno
          by_cases ha : J + 1 < l.length
          · have a1 : J + 1 < (bs l).size := by rw [HS.out]; exact ha
            have a2 : ((J : Nat) : Int) + 1 < ((bs l).size : Int) := by omega
            by_cases hv : ((((bs l)[J]'h1).toNat : Nat) : Int) = 47
            · have hv2 : ¬ ((((bs l)[J + 1]'a1).toNat : Nat) : Int) = 47 := by
                intro e
                apply hnn
                refine ⟨ha, ?_, ?_⟩
                · rw [← hget]; exact val_of (k := 47) (by omega)
                · rw [← bs_get l (J + 1) a1]; exact val_of (k := 47) (by omega)
              have o5 : (((((bs l)[J + 1]'a1).toNat : Nat) : Int) == 47) = false := by simpa using hv2
              clear hb hno hnn hget o1 o2 o3 o4 n1 n2 n3 n4
              go_wp2
              go_ret
              exact ⟨ret_intL (by rw [HE.out]), rfl⟩
            · have o5 : (((((bs l)[J]'h1).toNat : Nat) : Int) == 47) = false := by simpa using hv
              clear hb hno hnn hget
              go_wp2
              go_ret
              exact ⟨ret_intL (by rw [HE.out]), rfl⟩
          · have a2 : ¬ ((J : Nat) : Int) + 1 < ((bs l).size : Int) := by rw [HS.out]; omega
            clear hb hno hnn hget
            go_wp2
            go_ret
            exact ⟨ret_intL (by rw [HE.out]), rfl⟩
        · obtain ⟨ha, hv, hv2⟩ := (note_at hlt).1 hno
          have a1 : J + 1 < (bs l).size := by rw [HS.out]; exact ha
          have a2 : ((J : Nat) : Int) + 1 < ((bs l).size : Int) := by omega
          have b1 : ((((bs l)[J]'h1).toNat : Nat) : Int) = 47 := by rw [show (bs l)[J]'h1 = 47 from hget.trans hv]; rfl
          have b2 : ((((bs l)[J + 1]'a1).toNat : Nat) : Int) = 47 := by rw [show (bs l)[J + 1]'a1 = 47 from (bs_get l (J + 1) a1).trans hv2]; rfl
          have hsn := skp_isNote hno
          have hE2 : R = J + cnt isLin (l.drop J) + skp false (l.drop (J + cnt isLin (l.drop J))) := by
            rw [HRJ.out, hsn.1, List.drop_drop]; omega
          have HE : Hid (R = J + cnt isLin (l.drop J) + skp false (l.drop (J + cnt isLin (l.drop J)))) := hE2
          have hc2 := hsn.2
          clear hb hno hget hv hv2 hsn hE2 o1 o2 o3 o4 n1 n2 n3 n4
          go_wp2
          go_loop [1] (fun z => ∃ k : Nat, k ≤ cnt isLin (l.drop J) ∧ J + k ≤ l.length ∧ z = .int .i64 ((J + k : Nat) : Int)) (fun z => 2000 - (intOf z).toNat)
          case atStart => exact ⟨0, Nat.zero_le _, by omega, rfl⟩
          case round =>
            obtain ⟨k, hk, hkl, rfl⟩ := hrel
            obtain ⟨K, hK⟩ : ∃ K, K = J + k := ⟨_, rfl⟩
            rw [← hK]
            have HK : Hid (K = J + k) := hK
            clear hK
            have hK2 : K ≤ 2000 := by have := HK.out; omega
            by_cases hlt3 : J + k < l.length
            · have d1 : K < (bs l).size := by rw [HS.out, HK.out]; exact hlt3
              have d2 : ((K : Nat) : Int) < ((bs l).size : Int) := by omega
              have dg : (bs l)[K]'d1 = l[J + k] := by rw [bs_get]; simp only [HK.out]
              cases hc : isLin (l[J + k])
              · have e1 : ((((bs l)[K]'d1).toNat : Nat) : Int) = 10 := by rw [dg]; rw [isLin_eq] at hc; simpa using hc
                have HN : Hid (k = cnt isLin (l.drop J)) := cnt_stop hk hlt3 hc
                clear dg hc
                go_wp2
                go_round
                case rel => exact ⟨J + cnt isLin (l.drop J), by have := HN.out; omega, by have h8 := HN.out; have h9 := HK.out; rw [← h8, ← h9], HE.out⟩
                case measure => have h8 := HN.out; have h9 := HK.out; simp [intOf]; omega
              · have e1 : ¬ ((((bs l)[K]'d1).toNat : Nat) : Int) = 10 := by rw [dg]; rw [isLin_eq] at hc; simpa using hc
                have hn := (cnt_at hk hlt3).2 hc
                clear dg hc
                go_wp2
                go_round
                case rel => exact ⟨k + 1, hn, by omega, by have := HK.out; go_num⟩
                case measure => simp [intOf]; omega
            · have d2 : ¬ ((K : Nat) : Int) < ((bs l).size : Int) := by rw [HS.out, HK.out]; omega
              have HN : Hid (k = cnt isLin (l.drop J)) := cnt_end hk hlt3 (by omega)
              go_wp2
              go_round
              case rel => exact ⟨J + cnt isLin (l.drop J), by have := HN.out; omega, by have h8 := HN.out; have h9 := HK.out; rw [← h8, ← h9], HE.out⟩
              case measure => have h8 := HN.out; have h9 := HK.out; simp [intOf]; omega
      · have hvs := blk_vals (show isBlk ((bs l)[J]'h1) = true by rw [hget]; exact hb)
        have HE : Hid (R = J + 1 + skp false (l.drop (J + 1))) := by show R = _; rw [HRJ.out, skp_one hlt hb]; omega
        clear hb hget
        rcases hvs with hv | hv | hv | hv
        all_goals
          go_wp2
          go_round
          case rel => exact ⟨J + 1, by omega, by go_num, HE.out⟩
          case measure => simp [intOf]; omega
    · have h2 : ¬ ((J : Nat) : Int) < ((bs l).size : Int) := by rw [HS.out]; omega
      have HE : Hid (R = J) := by show R = J; rw [HRJ.out, List.drop_eq_nil_of_le (by omega)]; rfl
      go_wp2
      go_ret
      exact ⟨ret_intL (by rw [HE.out]), rfl⟩
end Go.Proofs.YtpckmllmjdafpaaGreatDoor
