/- XtsSectors, walked. -/
import Derived.Test.YtcnlegnfecpdnaaXtsLaw
import Derived.Test.YtcnlegnfecpdnaaRef5Right
import Derived.Test.YtcnlegnfecpdnaaRef5Seal
namespace Go.Proofs.Ytcnlegnfecpdnaa
open Go.ChangeShapes Go.WideShapes Go.ChangeAt Go.RowKit
set_option linter.unusedVariables false

theorem one77 (w : World) : Bytes (w.alloc (.cells #[.int .u8 ((77 : Nat) : Int)] 5)) (some ⟨w.heap.size, 0, none⟩) 1 (fun _ => 77) := by
  have h1 : Has (w.alloc (.cells #[.int .u8 ((77 : Nat) : Int)] 5)) w.heap.size 5 #[.int .u8 ((77 : Nat) : Int)] := Has.new _ _ _
  refine .inr ⟨w.heap.size, 0, rfl, h1.lt, fun j hj => ?_⟩
  obtain rfl : j = 0 := by omega
  rw [h1.cell]
  rfl

theorem cells_of {w : World} {b o N : Nat} {D : Nat → Nat} (h : Bytes w (some ⟨b, o, none⟩) N D) (hN : 0 < N) : b < w.heap.size ∧ ∀ j, j < N → w.cell? ⟨b, o + j, none⟩ = some (.int .u8 (D j : Nat)) := by
  rcases h with h | ⟨b', o', e, h1, h2⟩
  · omega
  · simp only [Option.some.injEq, Addr.mk.injEq, and_true] at e
    obtain ⟨rfl, rfl⟩ := e
    exact ⟨h1, h2⟩

set_option maxRecDepth 100000 in
theorem xsec_long (v : Value) (s : Nat) (a : Option Addr) (len cap : Nat) (w : World) (hl : 256 < len) (hl2 : len ≤ 140737488351232) :
    Calls Try.prog 4 #[v, .int .u64 (s : Nat), .slice a len cap] w fun e w' => e = .returned (.bool true) ∧ Below w.heap.size w w' := by
  have i1 : (256 : Int) < (len : Int) := by omega
  go_enter Try.func4, Try.ntmps4
  go_wp2_with (go_at_call 17; refine (xalive_any _).mono ?_; rintro e w2 ⟨rfl, hb2⟩)
  go_ret
  exact ⟨rfl, hb2⟩

set_option maxRecDepth 100000 in
set_option maxHeartbeats 1600000 in
theorem xsec_bad (ka : Option Addr) (kl kc s : Nat) (a : Option Addr) (len cap : Nat) (D : Nat → Nat) (w : World) (hl : len ≤ 256) (hcap : len ≤ cap) (hnil : a = none → len = 0 ∧ cap = 0) (hdb : Bytes w a len D)
    (hnew : ∀ wz, Below w.heap.size w wz → Calls Try.prog 18 #[.slice ka kl kc] wz fun e w' => e = .returned (.tuple #[.pointer none, .int .i64 51]) ∧ Below wz.heap.size wz w')
    (hright : ∀ wz, Below w.heap.size w wz → Calls Try.prog 19 #[.slice ka kl kc] wz fun e w' => e = .returned (.bool false) ∧ Below wz.heap.size wz w') :
    Calls Try.prog 4 #[.slice ka kl kc, .int .u64 (s : Nat), .slice a len cap] w fun e w' => e = .returned (.bool true) ∧ Below w.heap.size w w' := by
  have i1 : ¬ (256 : Int) < (len : Int) := by omega
  have own0 := World.ownsRow_lit (base := w.heap.size) (e := 5) (size := 1) w #[] 0 (Nat.le_refl _) (by unfold maxLen; omega) rfl
  have hbE : Below w.heap.size w (w.alloc (.cells #[] 5)) := (Below.refl _ _).alloc (Nat.le_refl _) _
  have hkb0 := hdb.below hbE (Nat.le_refl _)
  have HN : Hid (∀ wz, Below w.heap.size w wz → Calls Try.prog 18 #[.slice ka kl kc] wz fun e w' => e = .returned (.tuple #[.pointer none, .int .i64 51]) ∧ Below wz.heap.size wz w') := hnew
  have HR : Hid (∀ wz, Below w.heap.size w wz → Calls Try.prog 19 #[.slice ka kl kc] wz fun e w' => e = .returned (.bool false) ∧ Below wz.heap.size wz w') := hright
  clear hnew hright
  go_enter Try.func4, Try.ntmps4
  go_wp2_with (first
    | ((at_builtin)
       (have _t := own0)
       (refine wpList_append_bytes rfl _ _ rfl w.heap.size _ 0 (fun _ => 0) rfl own0 a len cap D rfl hnil hkb0 (by omega) (by simp) ?_)
       (intro v1 w1 own1 gr1)
       (have hb1 : Below w.heap.size w w1 := hbE.grown gr1 (by simp) (fun k' h => (by have e := Option.some.inj (show some w.heap.size = some k' from h); omega)))
       (rw [Nat.zero_add, cat_zero] at own1)
       (have hbL : Below w1.heap.size w1 (w1.alloc (.cells #[.int .u8 ((77 : Nat) : Int)] 5)) := (Below.refl _ _).alloc (Nat.le_refl _) _)
       (have own1x := own_below own1 hbL (fun g hg => (own1.lt g hg).2))
       (have hb1x : Below w.heap.size w (w1.alloc (.cells #[.int .u8 ((77 : Nat) : Int)] 5)) := hb1.trans (hbL.mono hb1.size))
       (clear own0 _t gr1 hkb0 hbE own1 hbL))
    | ((at_builtin)
       (have _t := own1x)
       (refine wpList_append_bytes rfl _ _ rfl w.heap.size _ len D rfl own1x (some ⟨w1.heap.size, 0, none⟩) 1 1 (fun _ => 77) rfl (fun e => by cases e) (one77 w1) (by omega) hb1x.size ?_)
       (intro v2 w2 own2 gr2)
       (have hB2 : Below w.heap.size w w2 := hb1x.grown gr2 hb1x.size (fun k' h => (own1x.lt k' h).1))
       (obtain ⟨g2, c2, rfl, hc2, hg2, hcell2, hbase2, own2'⟩ := own_rowX own2 (by omega))
       (have hkm : Bytes w2 (some ⟨g2, 0, none⟩) len D := .inr ⟨g2, 0, rfl, hg2, fun j hj => by rw [Nat.zero_add, hcell2 j (by omega)]; simp only [cat, if_pos hj]⟩)
       (have hk77 : w2.cell? ⟨g2, len, none⟩ = some (.int .u8 77) := (by rw [hcell2 len (by omega)]; simp only [cat, if_neg (Nat.lt_irrefl len)]; rfl))
       (clear own1x _t gr2 hb1x hcell2 own2 own2' hb1))
    | (refine wpList_val (some 33) (.slice (some ⟨g2, 0, none⟩) len c2) rfl (by rfl) (run_slice_hiX _ _ rfl g2 0 (len + 1) c2 len rfl rfl (by omega) (by omega) _) ?_)
    | (go_at_call 18; refine (HN.out _ hB2).mono ?_; rintro e w3 ⟨rfl, hb3⟩; have hB3 := hB2.trans (hb3.mono hB2.size))
    | (go_at_call 19; refine (HR.out _ hB3).mono ?_; rintro e w4 ⟨rfl, hb4⟩; have hB4 := hB3.trans (hb4.mono hB3.size))
    | (go_at_call 17; refine (xalive_any _).mono ?_; rintro e w5 ⟨rfl, hb5⟩; have hB5 := hB4.trans (hb5.mono hB4.size)))
  go_ret
  exact ⟨rfl, hB5⟩

set_option maxRecDepth 100000 in
set_option maxHeartbeats 3200000 in
theorem xsec_nodata (n : Nat) (k l : Nat → Nat) (ka : Option Addr) (kl kc s : Nat) (a : Option Addr) (len cap : Nat) (D : Nat → Nat) (w : World) (hD : ∀ j, D j < 256) (hl : len ≤ 256) (hcap : len ≤ cap) (hnil : a = none → len = 0 ∧ cap = 0) (hdb : Bytes w a len D) (hbad : len = 0 ∨ len % 16 ≠ 0)
    (hnew : ∀ wz, Below w.heap.size w wz → Calls Try.prog 18 #[.slice ka kl kc] wz fun e w' => ∃ g gk gl, e = .returned (.tuple #[.pointer (some ⟨g, 0, none⟩), .int .i64 0]) ∧ XC w' g gk gl n k l ∧ Below wz.heap.size wz w')
    (hright : ∀ wz, Below w.heap.size w wz → Calls Try.prog 19 #[.slice ka kl kc] wz fun e w' => e = .returned (.bool true) ∧ Below wz.heap.size wz w') :
    Calls Try.prog 4 #[.slice ka kl kc, .int .u64 (s : Nat), .slice a len cap] w fun e w' => e = .returned (.bool true) ∧ Below w.heap.size w w' := by
  have i1 : ¬ (256 : Int) < (len : Int) := by omega
  have own0 := World.ownsRow_lit (base := w.heap.size) (e := 5) (size := 1) w #[] 0 (Nat.le_refl _) (by unfold maxLen; omega) rfl
  have hbE : Below w.heap.size w (w.alloc (.cells #[] 5)) := (Below.refl _ _).alloc (Nat.le_refl _) _
  have hkb0 := hdb.below hbE (Nat.le_refl _)
  have HN : Hid (∀ wz, Below w.heap.size w wz → Calls Try.prog 18 #[.slice ka kl kc] wz fun e w' => ∃ g gk gl, e = .returned (.tuple #[.pointer (some ⟨g, 0, none⟩), .int .i64 0]) ∧ XC w' g gk gl n k l ∧ Below wz.heap.size wz w') := hnew
  have HR : Hid (∀ wz, Below w.heap.size w wz → Calls Try.prog 19 #[.slice ka kl kc] wz fun e w' => e = .returned (.bool true) ∧ Below wz.heap.size wz w') := hright
  have HS : Hid (∀ wz g gk gl b c, XC wz g gk gl n k l → Calls Try.prog 20 #[.pointer (some ⟨g, 0, none⟩), .int .u64 (s : Nat), .slice b len c] wz fun e w' => e = .returned (.tuple #[.slice none 0 0, .int .i64 52]) ∧ w' = wz) := fun wz g gk gl b c hC => seal_bad n k l g gk gl s b len c wz hC (by unfold maxLen; omega) hbad
  have HO : Hid (∀ wz g gk gl b c, XC wz g gk gl n k l → Calls Try.prog 22 #[.pointer (some ⟨g, 0, none⟩), .int .u64 (s : Nat), .slice b len c] wz fun e w' => e = .returned (.tuple #[.slice none 0 0, .int .i64 52]) ∧ w' = wz) := fun wz g gk gl b c hC => open_bad n k l g gk gl s b len c wz hC (by unfold maxLen; omega) hbad
  have HS2 : Hid (∀ wz v, Calls Try.prog 21 #[v, .int .u64 (s : Nat), .slice a len cap] wz fun e w' => e = .returned (.tuple #[.slice none 0 0, .int .i64 52]) ∧ w' = wz) := fun wz v => rSeal_bad v s a len cap wz hl hbad
  have HO2 : Hid (∀ wz v, Calls Try.prog 23 #[v, .int .u64 (s : Nat), .slice a len cap] wz fun e w' => e = .returned (.tuple #[.slice none 0 0, .int .i64 52]) ∧ w' = wz) := fun wz v => rOpen_bad v s a len cap wz hl hbad
  have HM0 : Hid (∀ wz, Calls Try.prog 11 #[.slice none 0 0, .slice none 0 0] wz fun e w' => e = .returned (.bool true) ∧ w' = wz) := fun wz => same_true (f := fun _ => 0) 0 0 (.inl rfl) (.inl rfl) (fun _ => by decide) (fun _ => rfl) (fun _ => rfl)
  have HM : Hid (∀ wz g2 c2, Below w.heap.size w wz → Bytes wz (some ⟨g2, 0, none⟩) len D → Calls Try.prog 11 #[.slice (some ⟨g2, 0, none⟩) len c2, .slice a len cap] wz fun e w' => e = .returned (.bool true) ∧ w' = wz) := fun wz g2 c2 h hb => same_true c2 cap hb (hdb.below h (Nat.le_refl _)) hD (fun e => by cases e) (fun e => (hnil e).1)
  clear hnew hright hbad
  go_enter Try.func4, Try.ntmps4
  go_wp2_with (first
    | ((at_builtin)
       (have _t := own0)
       (refine wpList_append_bytes rfl _ _ rfl w.heap.size _ 0 (fun _ => 0) rfl own0 a len cap D rfl hnil hkb0 (by omega) (by simp) ?_)
       (intro v1 w1 own1 gr1)
       (have hb1 : Below w.heap.size w w1 := hbE.grown gr1 (by simp) (fun k' h => (by have e := Option.some.inj (show some w.heap.size = some k' from h); omega)))
       (rw [Nat.zero_add, cat_zero] at own1)
       (have hbL : Below w1.heap.size w1 (w1.alloc (.cells #[.int .u8 ((77 : Nat) : Int)] 5)) := (Below.refl _ _).alloc (Nat.le_refl _) _)
       (have own1x := own_below own1 hbL (fun g hg => (own1.lt g hg).2))
       (have hb1x : Below w.heap.size w (w1.alloc (.cells #[.int .u8 ((77 : Nat) : Int)] 5)) := hb1.trans (hbL.mono hb1.size))
       (clear own0 _t gr1 hkb0 hbE own1 hbL))
    | ((at_builtin)
       (have _t := own1x)
       (refine wpList_append_bytes rfl _ _ rfl w.heap.size _ len D rfl own1x (some ⟨w1.heap.size, 0, none⟩) 1 1 (fun _ => 77) rfl (fun e => by cases e) (one77 w1) (by omega) hb1x.size ?_)
       (intro v2 w2 own2 gr2)
       (have hB2 : Below w.heap.size w w2 := hb1x.grown gr2 hb1x.size (fun k' h => (own1x.lt k' h).1))
       (obtain ⟨g2, c2, rfl, hc2, hg2, hcell2, hbase2, own2'⟩ := own_rowX own2 (by omega))
       (have hkm : Bytes w2 (some ⟨g2, 0, none⟩) len D := .inr ⟨g2, 0, rfl, hg2, fun j hj => by rw [Nat.zero_add, hcell2 j (by omega)]; simp only [cat, if_pos hj]⟩)
       (have hk77 : w2.cell? ⟨g2, len, none⟩ = some (.int .u8 77) := (by rw [hcell2 len (by omega)]; simp only [cat, if_neg (Nat.lt_irrefl len)]; rfl))
       (clear own1x _t gr2 hb1x hcell2 own2 own2' hb1))
    | (refine wpList_val (some 33) (.slice (some ⟨g2, 0, none⟩) len c2) rfl (by rfl) (run_slice_hiX _ _ rfl g2 0 (len + 1) c2 len rfl rfl (by omega) (by omega) _) ?_)
    | (go_at_call 18; refine (HN.out _ hB2).mono ?_; rintro e w3 ⟨g, gk, gl, rfl, hC3, hb3⟩; have hB3 := hB2.trans (hb3.mono hB2.size); have hkm3 := hkm.below hb3 (Nat.le_refl _); have hs3 : w3.cell? ⟨g2, len, none⟩ = some (.int .u8 77) := (hb3.cell (show g2 < w2.heap.size from hg2)).trans hk77)
    | (go_at_call 19; refine (HR.out _ hB3).mono ?_; rintro e w4 ⟨rfl, hb4⟩; have hB4 := hB3.trans (hb4.mono hB3.size); have hC4 := hC3.below hb4 (Nat.le_refl _); have hkm4 := hkm3.below hb4 (Nat.le_refl _); have hs4 : w4.cell? ⟨g2, len, none⟩ = some (.int .u8 77) := (hb4.cell (show g2 < w3.heap.size from Nat.lt_of_lt_of_le hg2 hb3.size)).trans hs3)
    | (go_at_call 20; refine (HS.out _ g gk gl _ _ hC4).mono ?_; rintro e w5 ⟨rfl, hw5⟩; rw [hw5]; clear hw5 w5)
    | (go_at_call 22; refine (HO.out _ g gk gl _ _ hC4).mono ?_; rintro e w5 ⟨rfl, hw5⟩; rw [hw5]; clear hw5 w5)
    | (go_at_call 21; refine (HS2.out _ _).mono ?_; rintro e w5 ⟨rfl, hw5⟩; rw [hw5]; clear hw5 w5)
    | (go_at_call 23; refine (HO2.out _ _).mono ?_; rintro e w5 ⟨rfl, hw5⟩; rw [hw5]; clear hw5 w5)
    | (go_at_call 11; refine (HM0.out _).mono ?_; rintro e w5 ⟨rfl, hw5⟩; rw [hw5]; clear hw5 w5)
    | (go_at_call 11; refine (HM.out _ g2 c2 hB4 hkm4).mono ?_; rintro e w5 ⟨rfl, hw5⟩; rw [hw5]; clear hw5 w5)
    | (go_at_call 17; refine (xalive_any _).mono ?_; rintro e w6 ⟨rfl, hb6⟩; have hB6 := hB4.trans (hb6.mono hB4.size); have hs6 : w6.cell? ⟨g2, len, none⟩ = some (.int .u8 77) := (hb6.cell (show g2 < w4.heap.size from Nat.lt_of_lt_of_le (Nat.lt_of_lt_of_le hg2 hb3.size) hb4.size)).trans hs4)
    | (refine wpList_val (some 120) (.slice (some ⟨g2, 0, none⟩) (len + 1) c2) rfl (by rfl) (run_slice_hiX _ _ rfl g2 0 len c2 (len + 1) rfl rfl hc2 (by omega) _) ?_))
  go_ret
  exact ⟨rfl, hB6⟩

set_option maxRecDepth 100000 in
set_option maxHeartbeats 3200000 in
theorem xsec_data (n : Nat) (hn : n = 16 ∨ n = 32) (key : Nat → Nat) (kb ko kc s b o N cap : Nat) (D : Nat → Nat) (w : World) (hk : ∀ j, key j < 256) (hD : ∀ j, D j < 256) (hs : s < 18446744073709551616) (hl : N ≤ 256) (hN0 : 0 < N) (h16 : N % 16 = 0) (hkc : 2 * n ≤ kc) (hcap : N ≤ cap) (hkb : Bytes w (some ⟨kb, ko, none⟩) (2 * n) key) (hdb : Bytes w (some ⟨b, o, none⟩) N D)
    (heq : (strN key n == strN (fun j => key (n + j)) n) = false) (hright : ∀ wz, Below w.heap.size w wz → Calls Try.prog 19 #[.slice (some ⟨kb, ko, none⟩) (2 * n : Nat) kc] wz fun e w' => e = .returned (.bool true) ∧ Below wz.heap.size wz w') :
    Calls Try.prog 4 #[.slice (some ⟨kb, ko, none⟩) (2 * n : Nat) kc, .int .u64 (s : Nat), .slice (some ⟨b, o, none⟩) N cap] w fun e w' => e = .returned (.bool true) ∧ Below w.heap.size w w' := by
  have hnil : (some (⟨b, o, none⟩ : Addr)) = none → N = 0 ∧ cap = 0 := fun e => by cases e
  have i1 : ¬ (256 : Int) < (N : Int) := by omega
  have own0 := World.ownsRow_lit (base := w.heap.size) (e := 5) (size := 1) w #[] 0 (Nat.le_refl _) (by unfold maxLen; omega) rfl
  have hbE : Below w.heap.size w (w.alloc (.cells #[] 5)) := (Below.refl _ _).alloc (Nat.le_refl _) _
  have hkb0 := hdb.below hbE (Nat.le_refl _)
  have HN : Hid (∀ wz, Below w.heap.size w wz → Calls Try.prog 18 #[.slice (some ⟨kb, ko, none⟩) (2 * n : Nat) kc] wz fun e w' => ∃ g gk gl, e = .returned (.tuple #[.pointer (some ⟨g, 0, none⟩), .int .i64 0]) ∧ XC w' g gk gl n key (fun j => key (n + j)) ∧ Below wz.heap.size wz w') := fun wz h => by
    obtain ⟨h1, h2⟩ := cells_of (hkb.below h (Nat.le_refl _)) (by omega)
    exact xnew_ok n hn key kb ko kc wz hk h1 hkc h2 heq
  have HR : Hid (∀ wz, Below w.heap.size w wz → Calls Try.prog 19 #[.slice (some ⟨kb, ko, none⟩) (2 * n : Nat) kc] wz fun e w' => e = .returned (.bool true) ∧ Below wz.heap.size wz w') := hright
  have hn0 : 0 < 2 * n := by omega
  have hEl : ∀ f, Byt f → Byt (encX n key f) := fun f hf => encX_lt n hn key hk hf
  have hDl : ∀ f, Byt f → Byt (decX n key f) := fun f hf => decX_lt n hn key hk hf
  have htw := tw0_lt n hn (fun j => key (n + j)) (fun j => hk _) s
  have hP := sealB_lt hEl htw hD
  have hR := sealB_lt hDl htw hD
  have HS : Hid (∀ wz g gk gl b c, N ≤ c → XC wz g gk gl n key (fun j => key (n + j)) → Bytes wz (some ⟨b, 0, none⟩) N D → Calls Try.prog 20 #[.pointer (some ⟨g, 0, none⟩), .int .u64 (s : Nat), .slice (some ⟨b, 0, none⟩) N c] wz fun e w' => ∃ q, e = .returned (.tuple #[.slice (some ⟨q, 0, none⟩) N N, .int .i64 0]) ∧ wz.heap.size ≤ q ∧ Has w' q 5 (cellsN .u8 N (sealB (encX n key) (tw0 n (fun j => key (n + j)) s) D)) ∧ Below wz.heap.size wz w') := fun wz g gk gl b c hc hC h => by
    obtain ⟨M, rfl⟩ : ∃ M, N = 16 * M := ⟨N / 16, by omega⟩
    exact seal_ok n hn key _ g gk gl s b 0 c M D wz hk (fun j => hk _) hs hD (by omega) (by omega) hc hC h
  have HO : Hid (∀ wz g gk gl b c, N ≤ c → XC wz g gk gl n key (fun j => key (n + j)) → Bytes wz (some ⟨b, 0, none⟩) N D → Calls Try.prog 22 #[.pointer (some ⟨g, 0, none⟩), .int .u64 (s : Nat), .slice (some ⟨b, 0, none⟩) N c] wz fun e w' => ∃ q, e = .returned (.tuple #[.slice (some ⟨q, 0, none⟩) N N, .int .i64 0]) ∧ wz.heap.size ≤ q ∧ Has w' q 5 (cellsN .u8 N (sealB (decX n key) (tw0 n (fun j => key (n + j)) s) D)) ∧ Below wz.heap.size wz w') := fun wz g gk gl b c hc hC h => by
    obtain ⟨M, rfl⟩ : ∃ M, N = 16 * M := ⟨N / 16, by omega⟩
    exact open_ok n hn key _ g gk gl s b 0 c M D wz hk (fun j => hk _) hs hD (by omega) (by omega) hc hC h
  have HS2 : Hid (∀ wz, Below w.heap.size w wz → Calls Try.prog 21 #[.slice (some ⟨kb, ko, none⟩) (2 * n : Nat) kc, .int .u64 (s : Nat), .slice (some ⟨b, o, none⟩) N cap] wz fun e w' => ∃ q, (∃ c, e = .returned (.tuple #[.slice (some ⟨q, 0, none⟩) N c, .int .i64 0])) ∧ Bytes w' (some ⟨q, 0, none⟩) N (sealB (encX n key) (tw0 n (fun j => key (n + j)) s) D) ∧ Below wz.heap.size wz w') := fun wz h => by
    obtain ⟨h1, h2⟩ := cells_of (hkb.below h (Nat.le_refl _)) hn0
    obtain ⟨h3, h4⟩ := cells_of (hdb.below h (Nat.le_refl _)) hN0
    exact rSeal_ok n hn key kb ko kc s b o cap N D wz hk hs hD hN0 h16 hl hkc hcap h1 h2 h3 h4
  have HO2 : Hid (∀ wz, Below w.heap.size w wz → Calls Try.prog 23 #[.slice (some ⟨kb, ko, none⟩) (2 * n : Nat) kc, .int .u64 (s : Nat), .slice (some ⟨b, o, none⟩) N cap] wz fun e w' => ∃ q, (∃ c, e = .returned (.tuple #[.slice (some ⟨q, 0, none⟩) N c, .int .i64 0])) ∧ Bytes w' (some ⟨q, 0, none⟩) N (sealB (decX n key) (tw0 n (fun j => key (n + j)) s) D) ∧ Below wz.heap.size wz w') := fun wz h => by
    obtain ⟨h1, h2⟩ := cells_of (hkb.below h (Nat.le_refl _)) hn0
    obtain ⟨h3, h4⟩ := cells_of (hdb.below h (Nat.le_refl _)) hN0
    exact rOpen_ok n hn key kb ko kc s b o cap N D wz hk hs hD hN0 h16 hl hkc hcap h1 h2 h3 h4
  generalize sealB (encX n key) (tw0 n (fun j => key (n + j)) s) D = P at HS HS2 hP
  generalize sealB (decX n key) (tw0 n (fun j => key (n + j)) s) D = R at HO HO2 hR
  have HM1 : Hid (∀ wz q5 q6 c6, Bytes wz (some ⟨q5, 0, none⟩) N P → Bytes wz (some ⟨q6, 0, none⟩) N P → Calls Try.prog 11 #[.slice (some ⟨q5, 0, none⟩) N N, .slice (some ⟨q6, 0, none⟩) N c6] wz fun e w' => e = .returned (.bool true) ∧ w' = wz) := fun wz q5 q6 c6 h1 h2 => same_true N c6 h1 h2 hP (fun e => by cases e) (fun e => by cases e)
  have HM2 : Hid (∀ wz q5 q6 c6, Bytes wz (some ⟨q5, 0, none⟩) N R → Bytes wz (some ⟨q6, 0, none⟩) N R → Calls Try.prog 11 #[.slice (some ⟨q5, 0, none⟩) N N, .slice (some ⟨q6, 0, none⟩) N c6] wz fun e w' => e = .returned (.bool true) ∧ w' = wz) := fun wz q5 q6 c6 h1 h2 => same_true N c6 h1 h2 hR (fun e => by cases e) (fun e => by cases e)
  have HM : Hid (∀ wz g2 c2, Below w.heap.size w wz → Bytes wz (some ⟨g2, 0, none⟩) N D → Calls Try.prog 11 #[.slice (some ⟨g2, 0, none⟩) N c2, .slice (some ⟨b, o, none⟩) N cap] wz fun e w' => e = .returned (.bool true) ∧ w' = wz) := fun wz g2 c2 h hb => same_true c2 cap hb (hdb.below h (Nat.le_refl _)) hD (fun e => by cases e) (fun e => by cases e)
  generalize 2 * n = KLN at HN HR HS2 HO2 hkc ⊢
  clear hright heq h16 hkb hdb hn0
  go_enter Try.func4, Try.ntmps4
  go_wp2_with (first
    | ((at_builtin)
       (have _t := own0)
       (refine wpList_append_bytes rfl _ _ rfl w.heap.size _ 0 (fun _ => 0) rfl own0 (some ⟨b, o, none⟩) N cap D rfl hnil hkb0 (by omega) (by simp) ?_)
       (intro v1 w1 own1 gr1)
       (have hb1 : Below w.heap.size w w1 := hbE.grown gr1 (by simp) (fun k' h => (by have e := Option.some.inj (show some w.heap.size = some k' from h); omega)))
       (rw [Nat.zero_add, cat_zero] at own1)
       (have hbL : Below w1.heap.size w1 (w1.alloc (.cells #[.int .u8 ((77 : Nat) : Int)] 5)) := (Below.refl _ _).alloc (Nat.le_refl _) _)
       (have own1x := own_below own1 hbL (fun g hg => (own1.lt g hg).2))
       (have hb1x : Below w.heap.size w (w1.alloc (.cells #[.int .u8 ((77 : Nat) : Int)] 5)) := hb1.trans (hbL.mono hb1.size))
       (clear own0 _t gr1 hkb0 hbE own1 hbL))
    | ((at_builtin)
       (have _t := own1x)
       (refine wpList_append_bytes rfl _ _ rfl w.heap.size _ N D rfl own1x (some ⟨w1.heap.size, 0, none⟩) 1 1 (fun _ => 77) rfl (fun e => by cases e) (one77 w1) (by omega) hb1x.size ?_)
       (intro v2 w2 own2 gr2)
       (have hB2 : Below w.heap.size w w2 := hb1x.grown gr2 hb1x.size (fun k' h => (own1x.lt k' h).1))
       (obtain ⟨g2, c2, rfl, hc2, hg2, hcell2, hbase2, own2'⟩ := own_rowX own2 (by omega))
       (have hkm : Bytes w2 (some ⟨g2, 0, none⟩) N D := .inr ⟨g2, 0, rfl, hg2, fun j hj => by rw [Nat.zero_add, hcell2 j (by omega)]; simp only [cat, if_pos hj]⟩)
       (have hk77 : w2.cell? ⟨g2, N, none⟩ = some (.int .u8 77) := (by rw [hcell2 N (by omega)]; simp only [cat, if_neg (Nat.lt_irrefl N)]; rfl))
       (clear own1x _t gr2 hb1x hcell2 own2 own2' hb1))
    | (refine wpList_val (some 33) (.slice (some ⟨g2, 0, none⟩) N c2) rfl (by rfl) (run_slice_hiX _ _ rfl g2 0 (N + 1) c2 N rfl rfl (by omega) (by omega) _) ?_)
    | (go_at_call 18; refine (HN.out _ hB2).mono ?_; rintro e w3 ⟨g, gk, gl, rfl, hC3, hb3⟩; have hB3 := hB2.trans (hb3.mono hB2.size); have hkm3 := hkm.below hb3 (Nat.le_refl _); have hs3 : w3.cell? ⟨g2, N, none⟩ = some (.int .u8 77) := (hb3.cell (show g2 < w2.heap.size from hg2)).trans hk77; have hg3 := Nat.lt_of_lt_of_le hg2 hb3.size)
    | (go_at_call 19; refine (HR.out _ hB3).mono ?_; rintro e w4 ⟨rfl, hb4⟩; have hB4 := hB3.trans (hb4.mono hB3.size); have hC4 := hC3.below hb4 (Nat.le_refl _); have hkm4 := hkm3.below hb4 (Nat.le_refl _); have hs4 : w4.cell? ⟨g2, N, none⟩ = some (.int .u8 77) := (hb4.cell (show g2 < w3.heap.size from hg3)).trans hs3; have hg4 := Nat.lt_of_lt_of_le hg3 hb4.size)
    | (go_at_call 20; refine (HS.out _ g gk gl g2 c2 (by omega) hC4 hkm4).mono ?_; rintro e w5 ⟨q5, rfl, hq5, hD5, hb5⟩; have hB5 := hB4.trans (hb5.mono hB4.size); have hC5 := hC4.below hb5 (Nat.le_refl _); have hkm5 := hkm4.below hb5 (Nat.le_refl _); have hp5 := has_bytes hD5 N (Nat.le_refl _); have hs5 : w5.cell? ⟨g2, N, none⟩ = some (.int .u8 77) := (hb5.cell (show g2 < w4.heap.size from hg4)).trans hs4; have hg5 := Nat.lt_of_lt_of_le hg4 hb5.size)
    | (go_at_call 21; refine (HS2.out _ hB5).mono ?_; rintro e w6 ⟨q6, ⟨c6, rfl⟩, hp6', hb6⟩; have hB6 := hB5.trans (hb6.mono hB5.size); have hC6 := hC5.below hb6 (Nat.le_refl _); have hkm6 := hkm5.below hb6 (Nat.le_refl _); have hp6 := hp5.below hb6 (Nat.le_refl _); have hs6 : w6.cell? ⟨g2, N, none⟩ = some (.int .u8 77) := (hb6.cell (show g2 < w5.heap.size from hg5)).trans hs5; have hg6 := Nat.lt_of_lt_of_le hg5 hb6.size)
    | (go_at_call 22; refine (HO.out _ g gk gl g2 c2 (by omega) hC6 hkm6).mono ?_; rintro e w7 ⟨q7, rfl, hq7, hD7, hb7⟩; have hB7 := hB6.trans (hb7.mono hB6.size); have hkm7 := hkm6.below hb7 (Nat.le_refl _); have hp7 := hp6.below hb7 (Nat.le_refl _); have hp7' := hp6'.below hb7 (Nat.le_refl _); have hr7 := has_bytes hD7 N (Nat.le_refl _); have hs7 : w7.cell? ⟨g2, N, none⟩ = some (.int .u8 77) := (hb7.cell (show g2 < w6.heap.size from hg6)).trans hs6; have hg7 := Nat.lt_of_lt_of_le hg6 hb7.size)
    | (go_at_call 23; refine (HO2.out _ hB7).mono ?_; rintro e w8 ⟨q8, ⟨c8, rfl⟩, hr8', hb8⟩; have hB8 := hB7.trans (hb8.mono hB7.size); have hkm8 := hkm7.below hb8 (Nat.le_refl _); have hp8 := hp7.below hb8 (Nat.le_refl _); have hp8' := hp7'.below hb8 (Nat.le_refl _); have hr8 := hr7.below hb8 (Nat.le_refl _); have hs8 : w8.cell? ⟨g2, N, none⟩ = some (.int .u8 77) := (hb8.cell (show g2 < w7.heap.size from hg7)).trans hs7; have hg8 := Nat.lt_of_lt_of_le hg7 hb8.size)
    | (go_at_call 11; refine (HM1.out _ q5 q6 c6 hp8 hp8').mono ?_; rintro e w9 ⟨rfl, hw9⟩; rw [hw9]; clear hw9 w9 HM1)
    | (go_at_call 11; refine (HM2.out _ q7 q8 c8 hr8 hr8').mono ?_; rintro e w9 ⟨rfl, hw9⟩; rw [hw9]; clear hw9 w9 HM2)
    | (go_at_call 11; refine (HM.out _ g2 c2 hB8 hkm8).mono ?_; rintro e w9 ⟨rfl, hw9⟩; rw [hw9]; clear hw9 w9)
    | (go_at_call 17; refine (xalive_any _).mono ?_; rintro e w10 ⟨rfl, hb10⟩; have hB10 := hB8.trans (hb10.mono hB8.size); have hs10 : w10.cell? ⟨g2, N, none⟩ = some (.int .u8 77) := (hb10.cell (show g2 < w8.heap.size from hg8)).trans hs8)
    | (refine wpList_val (some 120) (.slice (some ⟨g2, 0, none⟩) (N + 1) c2) rfl (by rfl) (run_slice_hiX _ _ rfl g2 0 N c2 (N + 1) rfl rfl hc2 (by omega) _) ?_))
  go_ret
  exact ⟨rfl, hB10⟩

theorem xsec_walk (ka : Option Addr) (kl kc : Nat) (kz : List Int) (n : Int) (a : Option Addr) (len cap : Nat) (zs : List Int) (w : World) (hkt : IsRow .u8 w ka kl kc kz) (hkr : kc ≤ 140737488351232) (hn : (Lit.int .u64 n).wf = true) (ht : IsRow .u8 w a len cap zs) (hc : cap ≤ 140737488351232) :
    Calls Try.prog 4 #[.slice ka kl kc, .int .u64 n, .slice a len cap] w fun e w' => e = .returned (.bool true) ∧ Below w.heap.size w w' := by
  obtain ⟨s, rfl, hs⟩ := u64_nat hn
  obtain ⟨hl, _, hnil⟩ := isRow_facts ht
  obtain ⟨hkl, _, hknil⟩ := isRow_facts hkt
  have hdb := bytes_of_isRow ht
  have hkb := bytes_of_isRow hkt
  by_cases h1 : 256 < len
  · exact xsec_long _ s a len cap w h1 (by omega)
  have key : ∀ n, (n = 16 ∨ n = 32) → kl = 2 * n → (∀ (b o : Nat) (c : Bool), ka = some ⟨b, o, none⟩ → (strN (bn kz) n == strN (fun j => bn kz (n + j)) n) = c → ∀ wz, Below w.heap.size w wz → Calls Try.prog 19 #[.slice ka kl kc] wz fun e w' => e = .returned (.bool (!c)) ∧ Below wz.heap.size wz w') → Calls Try.prog 4 #[.slice ka kl kc, .int .u64 (s : Nat), .slice a len cap] w fun e w' => e = .returned (.bool true) ∧ Below w.heap.size w w' := by
    intro n hn hkn hright
    subst hkn
    rcases id hkb with h | ⟨kb, ko, rfl, _, _⟩
    · omega
    cases hc0 : (strN (bn kz) n == strN (fun j => bn kz (n + j)) n) with
    | true =>
      refine xsec_bad _ _ kc s a len cap (bn zs) w (by omega) hl hnil hdb (fun wz h => ?_) (hright kb ko true rfl hc0)
      obtain ⟨k1, k2⟩ := cells_of (hkb.below h (Nat.le_refl _)) (by omega)
      exact xnew_same n hn (bn kz) kb ko kc wz (bn_lt kz) k1 hkl k2 hc0
    | false =>
      by_cases h2 : len = 0 ∨ len % 16 ≠ 0
      · refine xsec_nodata n (bn kz) (fun j => bn kz (n + j)) _ _ kc s a len cap (bn zs) w (bn_lt zs) (by omega) hl hnil hdb h2 (fun wz h => ?_) (hright kb ko false rfl hc0)
        obtain ⟨k1, k2⟩ := cells_of (hkb.below h (Nat.le_refl _)) (by omega)
        exact xnew_ok n hn (bn kz) kb ko kc wz (bn_lt kz) k1 hkl k2 hc0
      · rcases id hdb with h | ⟨b, o, rfl, _, _⟩
        · omega
        · exact xsec_data n hn (bn kz) kb ko kc s b o len cap (bn zs) w (bn_lt kz) (bn_lt zs) hs (by omega) (by omega) (by omega) hkl hl hkb hdb hc0 (hright kb ko false rfl hc0)
  by_cases e32 : kl = 32
  · refine key 16 (.inl rfl) e32 (fun b o c e hc0 wz h => ?_)
    subst e32 e
    obtain ⟨k1, k2⟩ := cells_of (hkb.below h (Nat.le_refl _)) (by omega)
    exact right_32 (bn kz) b o kc wz (bn_lt kz) k1 hkl k2 c hc0
  · by_cases e64 : kl = 64
    · refine key 32 (.inr rfl) e64 (fun b o c e hc0 wz h => ?_)
      subst e64 e
      obtain ⟨k1, k2⟩ := cells_of (hkb.below h (Nat.le_refl _)) (by omega)
      exact right_64 (bn kz) b o kc wz (bn_lt kz) k1 hkl k2 c hc0
    · exact xsec_bad ka kl kc s a len cap (bn zs) w (by omega) hl hnil hdb (fun wz h => (xnew_bad ka kl kc wz e32 e64 (by unfold maxLen; omega)).mono fun e w' ⟨h1, h2⟩ => ⟨h1, by rw [h2]; exact Below.refl _ _⟩) (fun wz h => right_bad ka kl kc wz e32 e64 (by omega))
end Go.Proofs.Ytcnlegnfecpdnaa
