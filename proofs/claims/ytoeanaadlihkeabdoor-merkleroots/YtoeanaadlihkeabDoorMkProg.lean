/- The program's Check, of anything; what the program's four functions answer. -/
import Derived.Test.YtoeanaadlihkeabDoorMkCheckP
namespace Go.Proofs.YtoeanaadlihkeabDoor
open Go.ChangeShapes Go.WideShapes Go.ChangeAt Go.RowKit
set_option linter.unusedVariables false

set_option maxRecDepth 100000 in
set_option maxHeartbeats 2000000 in
theorem Check_no (n i : Int) (hn : i64ok n) (hi : i64ok i) (L C : Nat) (a : Option Addr) (len cap : Nat) (pa : Option Addr) (vr : Value) (w : World) (hL : L ≤ maxLen) (hlen : len ≤ maxLen)
    (hno : patN n i = 0 ∨ len ≠ patN n i ∨ L ≠ 64) :
    Calls Tryd.prog 17 #[.int .i64 n, .int .i64 i, .slice a L C, .slice pa len cap, vr] w fun e w' => e = .returned (.bool false) ∧ Below w.heap.size w w' := by
  unfold maxLen at hL hlen
  have KP : Hid (∀ wz, Calls Tryd.prog 16 #[.int .i64 n, .int .i64 i] wz fun e w' => ∃ la lc, e = .returned (.slice la (patN n i) lc) ∧ Below wz.heap.size wz w') := fun wz => Calls.mono (Path_ok n i wz hn hi) (by
    rintro e w' ⟨la, lc, rfl, _, _, _, hb⟩
    exact ⟨la, lc, rfl, hb⟩)
  have h11 := patN_11 n i
  obtain ⟨X, hX⟩ : ∃ X, X = patN n i := ⟨_, rfl⟩
  rw [← hX] at KP h11 hno
  clear hX
  have bp : Has ((w.alloc (.cells #[.slice pa len cap] 29)).alloc (.cells #[.bool false] 4)) w.heap.size 29 #[.slice pa len cap] := (Has.new _ _ _).alloc _
  have br : Has ((w.alloc (.cells #[.slice pa len cap] 29)).alloc (.cells #[.bool false] 4)) (w.heap.size + 1) 4 #[.bool false] := Has.new_at (by simp)
  have hb0 : Below w.heap.size w ((w.alloc (.cells #[.slice pa len cap] 29)).alloc (.cells #[.bool false] 4)) := ((Below.refl _ _).alloc (Nat.le_refl _) _).alloc (by simp) _
  go_enter Tryd.func17, Tryd.ntmps17
  by_cases h1 : X = 0
  · subst h1
    clear hno
    go_wp2_with (first
      | ((go_at_call 16)
         (refine (KP.out _).mono ?_)
         (rintro e w1 ⟨la, lc, rfl, hb1⟩)
         (have bp1 := bp.below hb1 bp.lt)
         (have br1 := br.below hb1 br.lt)
         (have hB1 := hb0.trans (hb1.mono hb0.size))
         (have cp1 := bp1.cell 0)
         (have c4 := br1.cell 0)
         (have f4 := br1.free 0)
         (simp only [List.getElem?_toArray, List.getElem?_cons_zero] at cp1 c4)
         (clear bp br hb0 hb1 KP)))
    have br8 : Has (w1.setCell ⟨w.heap.size + 1, 0, none⟩ (.bool false)) (w.heap.size + 1) 4 #[.bool false] := Boxed.set (t := 4) _ br1
    exact bodyPost_ret (results_bool rfl _ _ (w.heap.size + 1) false rfl (br8.cell 0)) rfl ⟨rfl, hB1.setCell (by show w.heap.size ≤ w.heap.size + 1; omega) _⟩
  have d1 : ¬ ((X : Int) = 0) := by omega
  by_cases h2 : len = X
  · subst h2
    have hL64 : ((L : Int) != 64) = true := by rw [bne_iff_ne]; omega
    clear hno
    go_wp2_with (first
      | ((go_at_call 16)
         (refine (KP.out _).mono ?_)
         (rintro e w1 ⟨la, lc, rfl, hb1⟩)
         (have bp1 := bp.below hb1 bp.lt)
         (have br1 := br.below hb1 br.lt)
         (have hB1 := hb0.trans (hb1.mono hb0.size))
         (have cp1 := bp1.cell 0)
         (have c4 := br1.cell 0)
         (have f4 := br1.free 0)
         (simp only [List.getElem?_toArray, List.getElem?_cons_zero] at cp1 c4)
         (clear bp br hb0 hb1 KP)))
    have br8 : Has (w1.setCell ⟨w.heap.size + 1, 0, none⟩ (.bool false)) (w.heap.size + 1) 4 #[.bool false] := Boxed.set (t := 4) _ br1
    exact bodyPost_ret (results_bool rfl _ _ (w.heap.size + 1) false rfl (br8.cell 0)) rfl ⟨rfl, hB1.setCell (by show w.heap.size ≤ w.heap.size + 1; omega) _⟩
  · have d2 : ¬ ((len : Int) = (X : Int)) := by omega
    clear hno
    go_wp2_with (first
      | ((go_at_call 16)
         (refine (KP.out _).mono ?_)
         (rintro e w1 ⟨la, lc, rfl, hb1⟩)
         (have bp1 := bp.below hb1 bp.lt)
         (have br1 := br.below hb1 br.lt)
         (have hB1 := hb0.trans (hb1.mono hb0.size))
         (have cp1 := bp1.cell 0)
         (have c4 := br1.cell 0)
         (have f4 := br1.free 0)
         (simp only [List.getElem?_toArray, List.getElem?_cons_zero] at cp1 c4)
         (clear bp br hb0 hb1 KP)))
    have br8 : Has (w1.setCell ⟨w.heap.size + 1, 0, none⟩ (.bool false)) (w.heap.size + 1) 4 #[.bool false] := Boxed.set (t := 4) _ br1
    exact bodyPost_ret (results_bool rfl _ _ (w.heap.size + 1) false rfl (br8.cell 0)) rfl ⟨rfl, hB1.setCell (by show w.heap.size ≤ w.heap.size + 1; omega) _⟩

theorem Check_ok : CheckOk 17 := by
  intro n i L C a x len cap pa A Lp Cp P Lr Cr ra r w hG hn hi hLC hL han hb hx hlen hP hrC hrL hrn hr hrl
  by_cases hok : (0 ≤ i ∧ i < n ∧ n ≤ 2048) ∧ len = dep n.toNat ∧ L = 64
  · obtain ⟨⟨h1, h2, h3⟩, rfl, rfl⟩ := hok
    obtain ⟨N, rfl⟩ : ∃ N : Nat, n = N := ⟨n.toNat, by omega⟩
    obtain ⟨I, rfl⟩ : ∃ I : Nat, i = I := ⟨i.toNat, by omega⟩
    rw [Int.toNat_natCast] at hP ⊢
    refine Calls.mono (callsIn_wide.1 (Check_in N I (by omega) (by omega) C a x cap pa A Lp Cp P Lr Cr ra r w hG hLC hb hx hP hr (fun e => (hrn e).1) hrl)) ?_
    rintro e w' ⟨⟨b, rfl, hiff⟩, hB⟩
    refine ⟨⟨b, rfl, hiff.trans ?_⟩, hB⟩
    unfold Shows
    simp only [Int.toNat_natCast]
    constructor
    · rintro ⟨e1, e2, e3, e4⟩
      exact ⟨h1, h2, h3, trivial, trivial, e1, e2, e3, e4⟩
    · rintro ⟨_, _, _, _, _, e1, e2, e3, e4⟩
      exact ⟨e1, e2, e3, e4⟩
  · refine (Check_no n i hn hi L C a len cap pa (.slice ra Lr Cr) w hL hlen ?_).mono ?_
    · by_cases h : 0 ≤ i ∧ i < n ∧ n ≤ 2048
      · rw [patN_in h]
        by_cases h2 : len = dep n.toNat
        · exact .inr (.inr fun e => hok ⟨h, h2, e⟩)
        · exact .inr (.inl h2)
      · exact .inl (patN_out h)
    · rintro e w' ⟨rfl, hB⟩
      refine ⟨⟨false, rfl, ⟨fun h => (by cases h), ?_⟩⟩, hB⟩
      rintro ⟨e1, e2, e3, e4, e5, _⟩
      exact absurd ⟨⟨e1, e2, e3⟩, e5, e4⟩ hok

theorem merkle_ok : MerkleOk := ⟨Levels_ok, Path_ok, Build_ok, Check_ok⟩
theorem merkle_no : BuildNo 6 := Build_no
end Go.Proofs.YtoeanaadlihkeabDoor
