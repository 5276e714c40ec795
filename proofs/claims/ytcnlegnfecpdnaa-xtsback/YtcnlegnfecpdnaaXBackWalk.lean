/- XtsBack, walked. -/
import Derived.Test.YtcnlegnfecpdnaaXtsLaw
import Derived.Test.YtcnlegnfecpdnaaRef4Same
namespace Go.Proofs.Ytcnlegnfecpdnaa
open Go.ChangeShapes Go.WideShapes Go.ChangeAt Go.RowKit
set_option linter.unusedVariables false

set_option maxRecDepth 100000 in
theorem xback_long (f : Nat → Nat) (s : Nat) (a : Option Addr) (len cap : Nat) (w : World) (hl : 256 < len) (hl2 : len ≤ 140737488351232) :
    Calls Try.prog 5 #[.agg (cellsN .u8 32 f), .int .u64 (s : Nat), .slice a len cap] w fun e w' => e = .returned (.bool true) ∧ Below w.heap.size w w' := by
  have i1 : (256 : Int) < (len : Int) := by omega
  have hB0 : Below w.heap.size w (w.alloc (.cells (cellsN .u8 32 f) 43)) := (Below.refl _ _).alloc (Nat.le_refl _) _
  go_enter Try.func5, Try.ntmps5
  go_wp2_with (go_at_call 17; refine (xalive_any _).mono ?_; rintro e w2 ⟨rfl, hb2⟩; have hB2 := hB0.trans (hb2.mono hB0.size))
  go_ret
  exact ⟨rfl, hB2⟩

set_option maxRecDepth 100000 in
set_option maxHeartbeats 1600000 in
theorem xback_bad (f : Nat → Nat) (s : Nat) (a : Option Addr) (len cap : Nat) (w : World) (hf : ∀ j, f j < 256) (hl : len ≤ 256) (h : len = 0 ∨ len % 16 ≠ 0) :
    Calls Try.prog 5 #[.agg (cellsN .u8 32 f), .int .u64 (s : Nat), .slice a len cap] w fun e w' => e = .returned (.bool true) ∧ Below w.heap.size w w' := by
  have i1 : ¬ (256 : Int) < (len : Int) := by omega
  have HS : Hid (∀ wz g gk gl, XK wz g gk gl f → Calls Try.prog 20 #[.pointer (some ⟨g, 0, none⟩), .int .u64 (s : Nat), .slice a len cap] wz fun e w' => e = .returned (.tuple #[.slice none 0 0, .int .i64 52]) ∧ w' = wz) := fun wz g gk gl hC => seal_bad 16 _ _ g gk gl s a len cap wz hC (by unfold maxLen; omega) h
  have HO : Hid (∀ wz g gk gl, XK wz g gk gl f → Calls Try.prog 22 #[.pointer (some ⟨g, 0, none⟩), .int .u64 (s : Nat), .slice a len cap] wz fun e w' => e = .returned (.tuple #[.slice none 0 0, .int .i64 52]) ∧ w' = wz) := fun wz g gk gl hC => open_bad 16 _ _ g gk gl s a len cap wz hC (by unfold maxLen; omega) h
  have hB0 : Below w.heap.size w (w.alloc (.cells (cellsN .u8 32 f) 43)) := (Below.refl _ _).alloc (Nat.le_refl _) _
  have hF0 : Has (w.alloc (.cells (cellsN .u8 32 f) 43)) w.heap.size 43 (cellsN .u8 32 f) := Has.new _ _ _
  rcases (show len = 0 ∨ (((len : Int) == 0) = false ∧ ((len : Int) % 16 != 0) = true) by
    rcases h with h | h
    · exact .inl h
    · exact .inr ⟨by simp; omega, by simp; omega⟩) with h0 | ⟨e1, e2⟩
  · subst h0
    clear h
    go_enter Try.func5, Try.ntmps5
    go_wp2_with (first
      | (refine wpList_load_row rfl 43 _ rfl w.heap.size rfl 43 (cellsN .u8 32 f) (0, 0) _ hF0 Try.underlying43 rfl (by rw [cellsN_size]; exact Try.size32) ?_)
      | (go_at_call 24; refine (key_any f _ hf).mono ?_; rintro e w1 ⟨q1, c1, rfl, hc1, hq1, hk1, hb1⟩; have hB1 := hB0.trans (hb1.mono hB0.size))
      | (go_at_call 18; refine (new_law f hf _ _ _ hc1 hk1).mono ?_; rintro e w2 ⟨g, gk, gl, rfl, hC2, hb2⟩; have hB2 := hB1.trans (hb2.mono hB1.size))
      | (go_at_call 20; refine (HS.out _ g gk gl hC2).mono ?_; rintro e w3 ⟨rfl, hw3⟩; rw [hw3]; clear hw3 w3)
      | (go_at_call 22; refine (HO.out _ g gk gl hC2).mono ?_; rintro e w3 ⟨rfl, hw3⟩; rw [hw3]; clear hw3 w3)
      | (go_at_call 17; refine (xalive_any _).mono ?_; rintro e w4 ⟨rfl, hb4⟩; have hB4 := hB2.trans (hb4.mono hB2.size)))
    go_ret
    exact ⟨rfl, hB4⟩
  · clear h
    go_enter Try.func5, Try.ntmps5
    go_wp2_with (first
      | (refine wpList_load_row rfl 43 _ rfl w.heap.size rfl 43 (cellsN .u8 32 f) (0, 0) _ hF0 Try.underlying43 rfl (by rw [cellsN_size]; exact Try.size32) ?_)
      | (go_at_call 24; refine (key_any f _ hf).mono ?_; rintro e w1 ⟨q1, c1, rfl, hc1, hq1, hk1, hb1⟩; have hB1 := hB0.trans (hb1.mono hB0.size))
      | (go_at_call 18; refine (new_law f hf _ _ _ hc1 hk1).mono ?_; rintro e w2 ⟨g, gk, gl, rfl, hC2, hb2⟩; have hB2 := hB1.trans (hb2.mono hB1.size))
      | (go_at_call 20; refine (HS.out _ g gk gl hC2).mono ?_; rintro e w3 ⟨rfl, hw3⟩; rw [hw3]; clear hw3 w3)
      | (go_at_call 22; refine (HO.out _ g gk gl hC2).mono ?_; rintro e w3 ⟨rfl, hw3⟩; rw [hw3]; clear hw3 w3)
      | (go_at_call 17; refine (xalive_any _).mono ?_; rintro e w4 ⟨rfl, hb4⟩; have hB4 := hB2.trans (hb4.mono hB2.size)))
    go_ret
    exact ⟨rfl, hB4⟩

set_option maxRecDepth 100000 in
set_option maxHeartbeats 3200000 in
theorem xback_ok (f : Nat → Nat) (s b o N cap : Nat) (D : Nat → Nat) (w : World) (hf : ∀ j, f j < 256) (hs : s < 18446744073709551616) (hD : ∀ j, D j < 256) (hN : 0 < N) (h16 : N % 16 = 0) (hN2 : N ≤ 256) (hcap : N ≤ cap) (hcap2 : cap ≤ 140737488351232) (hb : Bytes w (some ⟨b, o, none⟩) N D) :
    Calls Try.prog 5 #[.agg (cellsN .u8 32 f), .int .u64 (s : Nat), .slice (some ⟨b, o, none⟩) N cap] w fun e w' => e = .returned (.bool true) ∧ Below w.heap.size w w' := by
  have i1 : ¬ (256 : Int) < (N : Int) := by omega
  have e1 : ((N : Int) == 0) = false := by simp; omega
  have e2 : ((N : Int) % 16 != 0) = false := by simp; omega
  have hP := sealF_lt f hf s D hD
  have hR := openF_lt f hf s D hD
  have HS : Hid (∀ wz g gk gl, Below w.heap.size w wz → XK wz g gk gl f → Calls Try.prog 20 #[.pointer (some ⟨g, 0, none⟩), .int .u64 (s : Nat), .slice (some ⟨b, o, none⟩) N cap] wz fun e w' => ∃ q, e = .returned (.tuple #[.slice (some ⟨q, 0, none⟩) N N, .int .i64 0]) ∧ wz.heap.size ≤ q ∧ Has w' q 5 (cellsN .u8 N (sealF f s D)) ∧ Below wz.heap.size wz w') :=
    fun wz g gk gl h hC => seal_law f hf g gk gl s b o cap N D wz hs hD hN h16 (by omega) hcap hcap2 hC (hb.below h (Nat.le_refl _))
  have HO : Hid (∀ wz g gk gl, Below w.heap.size w wz → XK wz g gk gl f → Calls Try.prog 22 #[.pointer (some ⟨g, 0, none⟩), .int .u64 (s : Nat), .slice (some ⟨b, o, none⟩) N cap] wz fun e w' => ∃ q, e = .returned (.tuple #[.slice (some ⟨q, 0, none⟩) N N, .int .i64 0]) ∧ wz.heap.size ≤ q ∧ Has w' q 5 (cellsN .u8 N (openF f s D)) ∧ Below wz.heap.size wz w') :=
    fun wz g gk gl h hC => open_law f hf g gk gl s b o cap N D wz hs hD hN h16 (by omega) hcap hcap2 hC (hb.below h (Nat.le_refl _))
  have HO2 : Hid (∀ wz g gk gl q, XK wz g gk gl f → Has wz q 5 (cellsN .u8 N (sealF f s D)) → Calls Try.prog 22 #[.pointer (some ⟨g, 0, none⟩), .int .u64 (s : Nat), .slice (some ⟨q, 0, none⟩) N N] wz fun e w' => ∃ q, e = .returned (.tuple #[.slice (some ⟨q, 0, none⟩) N N, .int .i64 0]) ∧ wz.heap.size ≤ q ∧ Has w' q 5 (cellsN .u8 N D) ∧ Below wz.heap.size wz w') :=
    fun wz g gk gl q hC h => by
      have := open_law f hf g gk gl s q 0 N N (sealF f s D) wz hs hP hN h16 (by omega) (Nat.le_refl _) (by omega) hC (has_bytes h N (Nat.le_refl _))
      rwa [openF_sealF f hf s D hD] at this
  have HS2 : Hid (∀ wz g gk gl q, XK wz g gk gl f → Has wz q 5 (cellsN .u8 N (openF f s D)) → Calls Try.prog 20 #[.pointer (some ⟨g, 0, none⟩), .int .u64 (s : Nat), .slice (some ⟨q, 0, none⟩) N N] wz fun e w' => ∃ q, e = .returned (.tuple #[.slice (some ⟨q, 0, none⟩) N N, .int .i64 0]) ∧ wz.heap.size ≤ q ∧ Has w' q 5 (cellsN .u8 N D) ∧ Below wz.heap.size wz w') :=
    fun wz g gk gl q hC h => by
      have := seal_law f hf g gk gl s q 0 N N (openF f s D) wz hs hR hN h16 (by omega) (Nat.le_refl _) (by omega) hC (has_bytes h N (Nat.le_refl _))
      rwa [sealF_openF f hf s D hD] at this
  have HM : Hid (∀ wz q, Below w.heap.size w wz → Has wz q 5 (cellsN .u8 N D) → Calls Try.prog 11 #[.slice (some ⟨q, 0, none⟩) N N, .slice (some ⟨b, o, none⟩) N cap] wz fun e w' => e = .returned (.bool true) ∧ w' = wz) :=
    fun wz q h hq => same_true N cap (has_bytes hq N (Nat.le_refl _)) (hb.below h (Nat.le_refl _)) hD (fun e => by cases e) (fun e => by cases e)
  have hB0 : Below w.heap.size w (w.alloc (.cells (cellsN .u8 32 f) 43)) := (Below.refl _ _).alloc (Nat.le_refl _) _
  have hF0 : Has (w.alloc (.cells (cellsN .u8 32 f) 43)) w.heap.size 43 (cellsN .u8 32 f) := Has.new _ _ _
  obtain ⟨P, hPe⟩ : ∃ P, P = sealF f s D := ⟨_, rfl⟩
  obtain ⟨R, hRe⟩ : ∃ R, R = openF f s D := ⟨_, rfl⟩
  rw [← hPe] at HS HO2
  rw [← hRe] at HO HS2
  clear hPe hRe hP hR hb hs hD hN h16
  go_enter Try.func5, Try.ntmps5
  go_wp2_with (first
    | (refine wpList_load_row rfl 43 _ rfl w.heap.size rfl 43 (cellsN .u8 32 f) (0, 0) _ hF0 Try.underlying43 rfl (by rw [cellsN_size]; exact Try.size32) ?_)
    | (go_at_call 24; refine (key_any f _ hf).mono ?_; rintro e w1 ⟨q1, c1, rfl, hc1, hq1, hk1, hb1⟩; have hB1 := hB0.trans (hb1.mono hB0.size))
    | (go_at_call 18; refine (new_law f hf _ _ _ hc1 hk1).mono ?_; rintro e w2 ⟨g, gk, gl, rfl, hC2, hb2⟩; have hB2 := hB1.trans (hb2.mono hB1.size))
    | (go_at_call 20; refine (HS.out _ g gk gl hB2 hC2).mono ?_; rintro e w3 ⟨q3, rfl, hq3, hD3, hb3⟩; have hB3 := hB2.trans (hb3.mono hB2.size); have hC3 := hC2.below hb3 (Nat.le_refl _); clear HS)
    | (go_at_call 22; refine (HO.out _ g gk gl hB3 hC3).mono ?_; rintro e w4 ⟨q4, rfl, hq4, hD4, hb4⟩; have hB4 := hB3.trans (hb4.mono hB3.size); have hC4 := hC3.below hb4 (Nat.le_refl _); have hE4 := hD3.below hb4 hD3.lt; clear HO)
    | (go_at_call 22; refine (HO2.out _ g gk gl q3 hC4 hE4).mono ?_; rintro e w5 ⟨q5, rfl, hq5, hD5, hb5⟩; have hB5 := hB4.trans (hb5.mono hB4.size); have hC5 := hC4.below hb5 (Nat.le_refl _); have hE5 := hD4.below hb5 hD4.lt; clear HO2)
    | (go_at_call 20; refine (HS2.out _ g gk gl q4 hC5 hE5).mono ?_; rintro e w6 ⟨q6, rfl, hq6, hD6, hb6⟩; have hB6 := hB5.trans (hb6.mono hB5.size); have hG6 := hD5.below hb6 hD5.lt; clear HS2)
    | (go_at_call 11; refine (HM.out _ q5 hB6 hG6).mono ?_; rintro e w7 ⟨rfl, hw7⟩; rw [hw7]; clear hw7 w7 hG6)
    | (go_at_call 11; refine (HM.out _ q6 hB6 hD6).mono ?_; rintro e w7 ⟨rfl, hw7⟩; rw [hw7]; clear hw7 w7)
    | (go_at_call 17; refine (xalive_any _).mono ?_; rintro e w8 ⟨rfl, hb8⟩; have hB8 := hB6.trans (hb8.mono hB6.size)))
  go_ret
  exact ⟨rfl, hB8⟩

theorem xback_walk (f : Nat → Nat) (n : Int) (a : Option Addr) (len cap : Nat) (zs : List Int) (w : World) (hf : ∀ j, j < 32 → f j < 256) (hn : (Lit.int .u64 n).wf = true) (ht : IsRow .u8 w a len cap zs) (hc : cap ≤ 140737488351232) :
    Calls Try.prog 5 #[.agg (cellsN .u8 32 f), .int .u64 n, .slice a len cap] w fun e w' => e = .returned (.bool true) ∧ Below w.heap.size w w' := by
  obtain ⟨g, hg, e⟩ := all32 f hf
  obtain ⟨s, rfl, hs⟩ := u64_nat hn
  rw [e]
  obtain ⟨hl, _, hnil⟩ := isRow_facts ht
  have hb := bytes_of_isRow ht
  by_cases h1 : 256 < len
  · exact xback_long g s a len cap w h1 (by omega)
  · by_cases h2 : len = 0 ∨ len % 16 ≠ 0
    · exact xback_bad g s a len cap w hg (by omega) h2
    · rcases id hb with h | ⟨b, o, rfl, _, _⟩
      · omega
      · exact xback_ok g s b o len cap (bn zs) w hg hs (bn_lt zs) (by omega) (by omega) (by omega) hl hc hb
end Go.Proofs.Ytcnlegnfecpdnaa
