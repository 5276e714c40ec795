/- cache: no cache, or one over no devices, too many, or none among them. -/
import Derived.Test.YtancebpjfbbcaaaCcScr
import Derived.Laws.OwnMore
namespace Go.Proofs.Ytancebpjfbbcaaa
open Go.ChangeShapes Go.WideShapes Go.ChangeAt Go.RowKit Go.MapKept
set_option linter.unusedVariables false

variable {D : DevRep} {w w' : World}

set_option maxRecDepth 100000 in
set_option maxHeartbeats 1000000 in
theorem ccread_nil (d s : Int) (w : World) : Calls Try.prog 12 #[.pointer none, .int .i64 d, .int .i64 s] w fun e w' => e = .returned (.tuple #[.slice none 0 0, .int .i64 1]) ∧ Below w.heap.size w w' := by
  have hh := has_nil d s w
  go_enter Try.func12, Try.ntmps12
  go_wp2_with (first
    | ((go_at_call 43)
       (refine hh.mono ?_)
       (rintro e w1 ⟨rfl, hb1⟩)
       (clear hh)))
  go_ret2
  exact ⟨rfl, hb1⟩

set_option maxRecDepth 100000 in
set_option maxHeartbeats 1000000 in
theorem ccgroup_nil (w : World) : Calls Try.prog 29 #[.pointer none] w fun e w' => e = .returned (.slice none 0 0) ∧ w' = w := by
  have hn := pc_none
  go_enter Try.func29, Try.ntmps29
  go_wp2
  go_ret
  exact ⟨rfl, rfl⟩

set_option maxRecDepth 100000 in
set_option maxHeartbeats 1000000 in
theorem ccgroups_nil (w : World) : Calls Try.prog 31 #[.pointer none] w fun e w' => e = .returned (.slice none 0 0) ∧ w' = w := by
  have hn := pc_none
  go_enter Try.func31, Try.ntmps31
  go_wp2
  go_ret
  exact ⟨rfl, rfl⟩

/-- The same pointer, some times. -/
abbrev rep (p k : Nat) : List (Option Addr) := List.replicate k (some ⟨p, 0, none⟩)

theorem rep_succ (p k : Nat) : rep p (k + 1) = rep p k ++ [some ⟨p, 0, none⟩] := List.replicate_succ'

theorem rep_step {b k p : Nat} {v : Value} (h : PRow w b v (rep p k)) (hb : b ≤ w.heap.size) (hk : k ≤ 1000) : ∃ A' C' w3, (Builtin.append_ #[23, 23] 23 #[v, .slice (some ⟨w.heap.size, 0, none⟩) 1 1]).run Try.prog (w.alloc (.cells #[ptr p] 42)) = .ok (.slice A' (k + 1) C') w3 ∧ PRow w3 b (.slice A' (k + 1) C') (rep p (k + 1)) ∧ Below b w w3 := by
  have hba : Below w.heap.size w (w.alloc (.cells #[ptr p] 42)) := (Below.refl _ _).alloc (Nat.le_refl _) _
  have h2 : PRow (w.alloc (.cells #[ptr p] 42)) b v (rep p k) := own_keptC h (fun g e => hba.block g (h.lt g e).2)
  obtain ⟨A', C', w3, h3, h4, h5, h6⟩ := append_oneC kPdC (ty := 23) (w.alloc (.cells #[ptr p] 42)) b _ _ _ h2 (Nat.le_trans hb hba.size) (by simp; omega) [ptr p] rfl (fun u hu => by rw [List.mem_singleton] at hu; subst hu; rfl) w.heap.size (Has.new w _ _)
  rw [List.length_replicate] at h3 h4
  refine ⟨A', C', w3, h3, ?_, ?_⟩
  · show World.ownsRow _ _ _ _ _ _ _
    rw [List.length_replicate, rep_succ, List.map_append]
    exact h4
  · exact (hba.mono hb).trans ⟨h5.os, h5.tape, h5.output, h5.size, fun k hk => h5.block k (by have := hba.size; omega) (fun e => by have := (h.lt k e.symm).1; omega)⟩

/-- nil is put behind them. -/
theorem rep_nil {b k p : Nat} {A : Option Addr} {C : Nat} (h : PRow w b (.slice A k C) (rep p k)) (hz0 : k = 0 → A = none ∧ C = 0) (hb : b ≤ w.heap.size) (hk : k ≤ 1000) : ∃ v1 w1, (Builtin.append_ #[23, 23] 23 #[.slice (some ⟨w.heap.size, 0, none⟩) 0 0, .slice A k C]).run Try.prog (w.alloc (.cells #[] 42)) = .ok v1 w1 ∧ ∃ A' C' w2, (Builtin.append_ #[23, 23] 23 #[v1, .slice (some ⟨w1.heap.size, 0, none⟩) 1 1]).run Try.prog (w1.alloc (.cells #[.pointer none] 42)) = .ok (.slice A' (k + 1) C') w2 ∧ PRow w2 b (.slice A' (k + 1) C') (rep p k ++ [none]) ∧ Below b w w2 := by
  have hba : Below w.heap.size w (w.alloc (.cells #[] 42)) := (Below.refl _ _).alloc (Nat.le_refl _) _
  have hown : (w.alloc (.cells #[] 42)).ownsRow b 42 1 (.slice (some ⟨w.heap.size, 0, none⟩) 0 0) 0 [] := ⟨rfl, .inr ⟨w.heap.size, 0, #[], rfl, hb, heap_alloc_new w _, Nat.le_refl _, Nat.zero_le _, rfl, rfl⟩⟩
  obtain ⟨v1, w1, h1, h2, h3⟩ : ∃ v1 w1, (Builtin.append_ #[23, 23] 23 #[.slice (some ⟨w.heap.size, 0, none⟩) 0 0, .slice A k C]).run Try.prog (w.alloc (.cells #[] 42)) = .ok v1 w1 ∧ w1.ownsRow b 42 1 v1 k ((rep p k).map Value.pointer) ∧ Below w.heap.size w w1 := by
    obtain ⟨a, c, e, hn, hc⟩ := h.at_
    rw [List.length_replicate] at e
    cases e
    by_cases h0 : k = 0
    · subst h0
      obtain ⟨hA, hC⟩ := hz0 rfl
      subst hA hC
      obtain ⟨z, hz, hzs⟩ := kPdC.info
      obtain ⟨i0, hi, _⟩ := info_parts hz
      exact ⟨_, _, run_append_owned_none (P := Try.prog) (w := w.alloc (.cells #[] 42)) b 23 23 42 i0 1 kPdC.ut hi _ 0 [] hown, hown, hba⟩
    · obtain ⟨g, rfl, _⟩ := hc 0 (some ⟨p, 0, none⟩) (by rw [List.getElem?_replicate, if_pos (by omega)])
      have hgl : g < w.heap.size := (h.lt g rfl).2
      obtain ⟨A', C', w2, hr2, ho2, hg2, _⟩ := append_manyC kPdC (ty := 23) (w.alloc (.cells #[] 42)) b 0 _ [] hown (Nat.le_trans hb hba.size) (by omega) ⟨g, 0, none⟩ k C (by omega) (by omega) ((rep p k).map Value.pointer) (by simp) (fun u hu => by obtain ⟨q, _, rfl⟩ := List.mem_map.1 hu; rfl) (fun j u hu => by
        rw [List.getElem?_map] at hu
        cases hp : (rep p k)[j]? with
        | none => rw [hp] at hu; cases hu
        | some q =>
          rw [hp] at hu
          cases hu
          obtain ⟨g', e, hcell⟩ := hc j q hp
          cases e
          rw [Addr.add_mid, Nat.zero_add, hba.cell (p := ⟨g, j, none⟩) hgl]
          exact hcell)
      rw [Nat.zero_add] at hr2 ho2
      exact ⟨_, w2, hr2, ho2, below_gC hba hg2 (fun g e => by cases e; exact Nat.le_refl _)⟩
  have hb1 : Below w1.heap.size w1 (w1.alloc (.cells #[.pointer none] 42)) := (Below.refl _ _).alloc (Nat.le_refl _) _
  have h2' : (w1.alloc (.cells #[.pointer none] 42)).ownsRow b 42 1 v1 k ((rep p k).map Value.pointer) := own_keptC h2 (fun g e => hb1.block g (h2.lt g e).2)
  obtain ⟨A', C', w2, g3, g4, g5, g6⟩ := append_oneC kPdC (ty := 23) (w1.alloc (.cells #[.pointer none] 42)) b _ _ _ h2' (Nat.le_trans hb (Nat.le_trans h3.size hb1.size)) (by omega) [.pointer none] rfl (fun u hu => by rw [List.mem_singleton] at hu; subst hu; rfl) w1.heap.size (Has.new w1 _ _)
  refine ⟨v1, w1, h1, A', C', w2, g3, ?_, ?_⟩
  · show World.ownsRow _ _ _ _ _ _ _
    rw [List.length_append, List.length_replicate, List.map_append]
    exact g4
  · have hb02 : Below b w (w1.alloc (.cells #[.pointer none] 42)) := (h3.mono hb).trans (hb1.mono (Nat.le_trans hb h3.size))
    exact hb02.trans ⟨g5.os, g5.tape, g5.output, g5.size, fun k hk => g5.block k (by have := hb02.size; omega) (fun e => by have := (h2.lt k e.symm).1; omega)⟩

set_option maxRecDepth 100000 in
set_option maxHeartbeats 4000000 in
theorem cacheNil_c (hD : DevOk D) (hZ : DevSz D) (w : World) (n : Int) (hn : i64ok n) (a : Option Addr) (L C : Nat) : Calls Try.prog 5 #[.int .i64 n, .slice a L C] w fun e w' => e = .returned (.bool true) ∧ Below w.heap.size w w' := by
  obtain ⟨K, hK⟩ : ∃ K, K = pk n 12 := ⟨_, rfl⟩
  have hK12 : K < 12 := by rw [hK]; exact pk_lt n 12 (by decide)
  have HPK := hidC (fun w => show Calls Try.prog 9 #[.int .i64 n, .int .i64 12] w (fun e w' => e = .returned (.int .i64 (K : Nat)) ∧ w' = w) by rw [hK]; exact pick_c n hn 12 (by decide) (by decide) w)
  have HKN := hidC (cckeep_nil w)
  have HBN := hidC (ccback_nil w)
  have HAN := hidC (ccapply_nil w)
  have HRN := hidC (ccread_nil 0 0 w)
  have HDN := hidC (fun w1 (hb : Below w.heap.size w w1) => in_new (B := w.heap.size) (w0 := w) hD 2 (by decide) (by decide) hb hb.size)
  have HAL := hidC (fun w1 => alive17_c hD hZ w1)
  have HWN := hidC (fun w1 => ccwrite_nil 0 0 a L C w1)
  have HGN := hidC (fun w1 => ccgroup_nil w1)
  have HGS := hidC (fun w1 => ccgroups_nil w1)
  have HCN := hidC (fun w1 => cccount_nil w1)
  clear hK hn
  go_enter Try.func5, Try.ntmps5
  go_wp2_with (first
    | ((go_at_call 15)
       (refine HKN.out.mono ?_)
       (rintro e w1 ⟨rfl, hw1⟩)
       (obtain rfl : w = w1 := hw1.symm)
       (clear HKN))
    | ((go_at_call 17)
       (refine HBN.out.mono ?_)
       (rintro e w1 ⟨rfl, hw1⟩)
       (obtain rfl : w = w1 := hw1.symm)
       (clear HBN))
    | ((go_at_call 19)
       (refine HAN.out.mono ?_)
       (rintro e w1 ⟨rfl, hw1⟩)
       (obtain rfl : w = w1 := hw1.symm)
       (clear HAN))
    | ((go_at_call 12)
       (refine HRN.out.mono ?_)
       (rintro e w1 ⟨rfl, hb1⟩)
       (clear HRN))
    | ((go_at_call 40)
       (refine (HDN.out w1 hb1).mono ?_)
       (rintro e w2 ⟨p, c, F, rfl, _, hb12, _, _⟩)
       (have HB2 := hidC (hb1.trans (hb12.mono hb1.size)))
       (clear HDN hb1 hb12)))
  go_loopw [10, 11] (fun lv iv wr => ∃ k : Nat, k ≤ K ∧ iv = .int .i64 (k : Nat) ∧ PRow wr w.heap.size lv (rep p k) ∧ (k = 0 → lv = .slice none 0 0) ∧ Below w.heap.size w wr)
    (fun lv iv _ => K - (intOf iv).toNat)
  case atStart => exact ⟨0, Nat.zero_le _, rfl, ⟨rfl, .inl ⟨rfl, rfl⟩⟩, fun _ => rfl, HB2.out⟩
  case round =>
    obtain ⟨k, hk, rfl, hrow, hz, hbel⟩ := hrel
    have HP1 := hidC (HPK.out wr)
    by_cases hlt : k < K
    · have i0 : (k : Int) < (K : Int) := by omega
      obtain ⟨A', C', w3, hr3, hrow3, hb3⟩ := rep_step hrow hbel.size (by omega)
      have HR3 := hidC hr3
      have HRW := hidC (And.intro hrow3 (hbel.trans hb3))
      have HLT := hidC hlt
      obtain ⟨aL, cL, hlv, _⟩ := hrow.at_
      rw [List.length_replicate] at hlv
      subst hlv
      clear hrow hz hr3 hrow3 hb3
      go_wp2_with (first
        | ((go_at_call 9)
           (refine HP1.out.mono ?_)
           (rintro e w1' ⟨rfl, hw1⟩)
           (obtain rfl : wr = w1' := hw1.symm)
           (clear HP1))
        | ((with_reducible refine at_dstC 41 rfl ?_)
           (refine wpList_is_w (some 41) (.slice A' (k + 1) C') w3 rfl (by rfl) (run_app_isC _ _ rfl rfl rfl HR3.out) ?_)))
      go_roundw
      case rel => exact ⟨k + 1, HLT.out, by go_num, HRW.out.1, fun e => by omega, HRW.out.2⟩
      case measure => have := HLT.out; simp [intOf]; omega
    · obtain rfl : k = K := by omega
      have i0 : ¬ (k : Int) < (k : Int) := by omega
      obtain ⟨aL, cL, hlv, _⟩ := hrow.at_
      rw [List.length_replicate] at hlv
      subst hlv
      have HN1 := hidC (ccnew_c hrow (by rw [List.length_replicate]; omega))
      have hz0 : k = 0 → aL = none ∧ cL = 0 := fun e => by
        have h := hz e
        injection h with h1 h2 h3
        exact ⟨h1, h3⟩
      have HRN2 := hidC (fun w3 (hb : Below wr.heap.size wr w3) => rep_nil (w := w3) (b := w.heap.size) (p := p) (own_keptC hrow (fun g e => hb.block g (hrow.lt g e).2) : PRow w3 w.heap.size (.slice aL k cL) (rep p k)) hz0 (Nat.le_trans hbel.size hb.size) (by omega))
      have HK12 := hidC hK12
      clear hrow hz hz0
      by_cases hk0 : k = 0
      · have HKB := hidC (show k < 1 by omega)
        have i1 : ¬ (1 : Int) ≤ (k : Int) := by omega
        clear hk0
        go_wp2_with (first
          | ((go_at_call 9)
             (refine HP1.out.mono ?_)
             (rintro e w1' ⟨rfl, hw1⟩)
             (obtain rfl : wr = w1' := hw1.symm)
             (clear HP1))
          | ((go_at_call 41)
             (refine HN1.out.mono ?_)
             (rintro e w3 hn)
             (obtain ⟨hb3, hif⟩ := hn)
             (rw [if_neg (by rw [List.length_replicate]; have := HKB.out; omega)] at hif)
             (obtain rfl := hif)
             (have hnn := pcn_none)
             (obtain ⟨v1, w4, hr1, aA, cA, w5, hr2, hrow5, hb5⟩ := HRN2.out w3 hb3)
             (have HR1 := hidC hr1)
             (have HR2 := hidC hr2)
             (have HN2 := hidC (ccnew_c hrow5 (by rw [List.length_append, List.length_replicate]; have := HK12.out; simp; omega)))
             (have HB5 := hidC ((hbel.trans (hb3.mono hbel.size)).trans hb5))
             (clear hr1 hr2 hrow5 hb5 hb3 HN1))
          | ((with_reducible refine at_dstC 50 rfl ?_)
             (refine wpList_is_w (some 50) v1 w4 rfl (by rfl) (run_app_isC _ _ rfl rfl rfl HR1.out) ?_))
          | ((with_reducible refine at_dstC 52 rfl ?_)
             (refine wpList_is_w (some 52) (.slice aA (k + 1) cA) w5 rfl (by rfl) (run_app_isC _ _ rfl rfl rfl HR2.out) ?_))
          | ((go_at_call 41)
             (refine HN2.out.mono ?_)
             (rintro e w6 hn)
             (obtain ⟨hb6, hif⟩ := hn)
             (rw [if_neg (by rw [List.any_append]; simp)] at hif)
             (obtain rfl := hif)
             (have HB6 := hidC (HB5.out.trans (hb6.mono HB5.out.size)))
             (clear hb6 HN2))
          | ((go_at_call 8)
             (refine (HAL.out w6).mono ?_)
             (rintro e w7 ⟨rfl, hb7⟩)
             (have HB7 := hidC (HB6.out.trans (hb7.mono HB6.out.size)))
             (clear hb7 HAL))
          | ((go_at_call 10)
             (refine (HWN.out w7).mono ?_)
             (rintro e w8 ⟨rfl, hb8⟩)
             (have HB8 := hidC (HB7.out.trans (hb8.mono HB7.out.size)))
             (clear hb8 HWN))
          | ((go_at_call 29)
             (refine (HGN.out w8).mono ?_)
             (rintro e w9 ⟨rfl, hw9⟩)
             (obtain rfl : w8 = w9 := hw9.symm)
             (clear HGN))
          | ((go_at_call 31)
             (refine (HGS.out w8).mono ?_)
             (rintro e w9 ⟨rfl, hw9⟩)
             (obtain rfl : w8 = w9 := hw9.symm)
             (clear HGS))
          | ((go_at_call 32)
             (refine (HCN.out w8).mono ?_)
             (rintro e w9 ⟨rfl, hw9⟩)
             (obtain rfl : w8 = w9 := hw9.symm)
             (clear HCN)))
        go_ret
        exact ⟨rfl, HB8.out⟩

      by_cases hk8 : k ≤ 8
      · have HKB := hidC (show 1 ≤ k ∧ k ≤ 8 by omega)
        have i1 : (1 : Int) ≤ (k : Int) := by omega
        have i8 : (k : Int) ≤ 8 := by omega
        go_wp2_with (first
          | ((go_at_call 9)
             (refine HP1.out.mono ?_)
             (rintro e w1' ⟨rfl, hw1⟩)
             (obtain rfl : wr = w1' := hw1.symm)
             (clear HP1))
          | ((go_at_call 41)
             (refine HN1.out.mono ?_)
             (rintro e w3 hn)
             (obtain ⟨hb3, hif⟩ := hn)
             (rw [if_pos ⟨by rw [List.length_replicate]; have := HKB.out; omega, by rw [List.length_replicate]; have := HKB.out; omega, by simp [rep]⟩] at hif)
             (obtain ⟨cb, dv, rfl, _⟩ := hif)
             (have hnn := pcn_some cb)
             (obtain ⟨v1, w4, hr1, aA, cA, w5, hr2, hrow5, hb5⟩ := HRN2.out w3 hb3)
             (have HR1 := hidC hr1)
             (have HR2 := hidC hr2)
             (have HN2 := hidC (ccnew_c hrow5 (by rw [List.length_append, List.length_replicate]; have := HK12.out; simp; omega)))
             (have HB5 := hidC ((hbel.trans (hb3.mono hbel.size)).trans hb5))
             (clear hr1 hr2 hrow5 hb5 hb3 HN1))
          | ((with_reducible refine at_dstC 50 rfl ?_)
             (refine wpList_is_w (some 50) v1 w4 rfl (by rfl) (run_app_isC _ _ rfl rfl rfl HR1.out) ?_))
          | ((with_reducible refine at_dstC 52 rfl ?_)
             (refine wpList_is_w (some 52) (.slice aA (k + 1) cA) w5 rfl (by rfl) (run_app_isC _ _ rfl rfl rfl HR2.out) ?_))
          | ((go_at_call 41)
             (refine HN2.out.mono ?_)
             (rintro e w6 hn)
             (obtain ⟨hb6, hif⟩ := hn)
             (rw [if_neg (by rw [List.any_append]; simp)] at hif)
             (obtain rfl := hif)
             (have HB6 := hidC (HB5.out.trans (hb6.mono HB5.out.size)))
             (clear hb6 HN2))
          | ((go_at_call 8)
             (refine (HAL.out w6).mono ?_)
             (rintro e w7 ⟨rfl, hb7⟩)
             (have HB7 := hidC (HB6.out.trans (hb7.mono HB6.out.size)))
             (clear hb7 HAL))
          | ((go_at_call 10)
             (refine (HWN.out w7).mono ?_)
             (rintro e w8 ⟨rfl, hb8⟩)
             (have HB8 := hidC (HB7.out.trans (hb8.mono HB7.out.size)))
             (clear hb8 HWN))
          | ((go_at_call 29)
             (refine (HGN.out w8).mono ?_)
             (rintro e w9 ⟨rfl, hw9⟩)
             (obtain rfl : w8 = w9 := hw9.symm)
             (clear HGN))
          | ((go_at_call 31)
             (refine (HGS.out w8).mono ?_)
             (rintro e w9 ⟨rfl, hw9⟩)
             (obtain rfl : w8 = w9 := hw9.symm)
             (clear HGS))
          | ((go_at_call 32)
             (refine (HCN.out w8).mono ?_)
             (rintro e w9 ⟨rfl, hw9⟩)
             (obtain rfl : w8 = w9 := hw9.symm)
             (clear HCN)))
        go_ret
        exact ⟨rfl, HB8.out⟩

      · have HKB := hidC (show 8 < k by omega)
        have i1 : (1 : Int) ≤ (k : Int) := by omega
        have i8 : ¬ (k : Int) ≤ 8 := by omega
        go_wp2_with (first
          | ((go_at_call 9)
             (refine HP1.out.mono ?_)
             (rintro e w1' ⟨rfl, hw1⟩)
             (obtain rfl : wr = w1' := hw1.symm)
             (clear HP1))
          | ((go_at_call 41)
             (refine HN1.out.mono ?_)
             (rintro e w3 hn)
             (obtain ⟨hb3, hif⟩ := hn)
             (rw [if_neg (by rw [List.length_replicate]; have := HKB.out; omega)] at hif)
             (obtain rfl := hif)
             (have hnn := pcn_none)
             (obtain ⟨v1, w4, hr1, aA, cA, w5, hr2, hrow5, hb5⟩ := HRN2.out w3 hb3)
             (have HR1 := hidC hr1)
             (have HR2 := hidC hr2)
             (have HN2 := hidC (ccnew_c hrow5 (by rw [List.length_append, List.length_replicate]; have := HK12.out; simp; omega)))
             (have HB5 := hidC ((hbel.trans (hb3.mono hbel.size)).trans hb5))
             (clear hr1 hr2 hrow5 hb5 hb3 HN1))
          | ((with_reducible refine at_dstC 50 rfl ?_)
             (refine wpList_is_w (some 50) v1 w4 rfl (by rfl) (run_app_isC _ _ rfl rfl rfl HR1.out) ?_))
          | ((with_reducible refine at_dstC 52 rfl ?_)
             (refine wpList_is_w (some 52) (.slice aA (k + 1) cA) w5 rfl (by rfl) (run_app_isC _ _ rfl rfl rfl HR2.out) ?_))
          | ((go_at_call 41)
             (refine HN2.out.mono ?_)
             (rintro e w6 hn)
             (obtain ⟨hb6, hif⟩ := hn)
             (rw [if_neg (by rw [List.any_append]; simp)] at hif)
             (obtain rfl := hif)
             (have HB6 := hidC (HB5.out.trans (hb6.mono HB5.out.size)))
             (clear hb6 HN2))
          | ((go_at_call 8)
             (refine (HAL.out w6).mono ?_)
             (rintro e w7 ⟨rfl, hb7⟩)
             (have HB7 := hidC (HB6.out.trans (hb7.mono HB6.out.size)))
             (clear hb7 HAL))
          | ((go_at_call 10)
             (refine (HWN.out w7).mono ?_)
             (rintro e w8 ⟨rfl, hb8⟩)
             (have HB8 := hidC (HB7.out.trans (hb8.mono HB7.out.size)))
             (clear hb8 HWN))
          | ((go_at_call 29)
             (refine (HGN.out w8).mono ?_)
             (rintro e w9 ⟨rfl, hw9⟩)
             (obtain rfl : w8 = w9 := hw9.symm)
             (clear HGN))
          | ((go_at_call 31)
             (refine (HGS.out w8).mono ?_)
             (rintro e w9 ⟨rfl, hw9⟩)
             (obtain rfl : w8 = w9 := hw9.symm)
             (clear HGS))
          | ((go_at_call 32)
             (refine (HCN.out w8).mono ?_)
             (rintro e w9 ⟨rfl, hw9⟩)
             (obtain rfl : w8 = w9 := hw9.symm)
             (clear HCN)))
        go_ret
        refine ⟨?_, HB8.out⟩
        show Ending.returned (Value.bool (!decide ((k : Int) ≤ 8))) = _
        rw [decide_eq_false (by omega : ¬ (k : Int) ≤ 8)]
        rfl
end Go.Proofs.Ytancebpjfbbcaaa
