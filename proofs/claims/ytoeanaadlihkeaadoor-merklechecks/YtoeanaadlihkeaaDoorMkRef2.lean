/- The document's Path. -/
import Derived.Test.YtoeanaadlihkeaaDoorMkRef1
import Derived.Deep.Onto
namespace Go.Proofs.YtoeanaadlihkeaaDoor
open Go.ChangeShapes Go.WideShapes Go.ChangeAt Go.RowKit
set_option linter.unusedVariables false

set_option maxRecDepth 100000 in
set_option maxHeartbeats 1600000 in
theorem rpath_in (N I : Nat) (w : World) (hI : I < N) (h2 : N ≤ 2048) : Calls Tryd.prog 12 #[.int .i64 (N : Nat), .int .i64 (I : Nat)] w fun e w' =>
    ∃ v, e = .returned v ∧ w'.ownsRow w.heap.size 3 1 v (dep N) (il (fun k => off N k + pl I (k + 1)) (dep N)) ∧ Below w.heap.size w w' := by
  obtain ⟨f, hf⟩ : ∃ f : Nat → Nat, f = fun k => off N k + pl I (k + 1) := ⟨_, rfl⟩
  rw [← hf]
  have HF : Hid (f = fun k => off N k + pl I (k + 1)) := hf
  clear hf
  have h1 : 1 ≤ N := by omega
  have hNd : Hid (dep N ≤ 11) := dep_11 N h2
  have hl := rlevels_in N w h1 h2
  have hIi : (I : Int) < N := by omega
  have hNI : ¬ (N ≤ I) := by omega
  go_enter Tryd.func12, Tryd.ntmps12
  go_wp2_with (first
    | ((go_at_call 10)
       (refine hl.mono ?_)
       (rintro e w1 ⟨v, rfl, ownL, hb1⟩)
       (obtain ⟨la, lc, rfl, hlc, hln, hli⟩ := own_ints ownL)
       (clear hl ownL)))
  go_loopw [1, 6, 7, 8] (fun x v fi i wr => ∃ k : Nat, k ≤ dep N ∧ i = .int .i64 (k : Nat) ∧ x = .int .i64 (pl I k : Nat) ∧ fi = .int .i64 (off N k : Nat) ∧ wr.ownsRow w1.heap.size 3 1 v k (il f k) ∧ Below w1.heap.size w1 wr)
    (fun _ v _ _ _ => dep N - lenOf v)
  case atStart => exact ⟨0, Nat.zero_le _, rfl, rfl, rfl, World.ownsRow_nil _ _ _ _, Below.refl _ _⟩
  case round =>
    obtain ⟨k, hk, rfl, rfl, rfl, own, hbel⟩ := hrel
    obtain ⟨va, vc, rfl, hvc, _, _⟩ := own_ints own
    have hd11 := hNd.out
    have hx := pl_le I k
    have ho := off_max N k h1 h2 (by omega)
    by_cases hlt : k < dep N
    · obtain ⟨b, o, rfl, hbl, hcell⟩ : ∃ b o, la = some ⟨b, o, none⟩ ∧ b < w1.heap.size ∧ ∀ j, j < dep N → w1.cell? ⟨b, o + j, none⟩ = some (.int .i64 (lv N (j + 1) : Nat)) := by
        rcases hli with h | h
        · omega
        · exact h
      have hc := (hbel.cell (p := ⟨b, o + k, none⟩) hbl).trans (hcell k hlt)
      have hlvle := lv_le N (k + 1) h1
      have hnf : f k = off N k + pl I k / 2 := by rw [HF.out]; rfl
      have HX : Hid (k < dep N ∧ off N (k + 1) = off N k + lv N (k + 1) ∧ pl I (k + 1) = pl I k / 2) := ⟨hlt, rfl, rfl⟩
      have hlti : (k : Int) < (dep N : Nat) := by omega
      obtain ⟨x, hxx⟩ : ∃ x, x = pl I k := ⟨_, rfl⟩
      obtain ⟨y, hyy⟩ : ∃ y, y = lv N (k + 1) := ⟨_, rfl⟩
      obtain ⟨o1, hoo⟩ : ∃ o1, o1 = off N k := ⟨_, rfl⟩
      have HE : Hid (x = pl I k ∧ y = lv N (k + 1) ∧ o1 = off N k) := ⟨hxx, hyy, hoo⟩
      rw [← hyy] at hlvle hc
      rw [← hxx] at hx hnf ⊢
      rw [← hoo] at ho hnf ⊢
      have hz : Hid ((o1 : Int) + (x : Int) / 2 = ((f k : Nat) : Int)) := (by omega : (o1 : Int) + (x : Int) / 2 = ((f k : Nat) : Int))
      have hsz := hbel.size
      clear hnf hxx hyy hoo hlt hk hcell hli
      go_wp2_with (first
        | ((at_builtin)
           (refine wpList_append_int rfl _ _ rfl w1.heap.size _ k f rfl own _ rfl hz.out (by omega) hbel.size ?_)
           (intro g cap w2 own2 gr2 _ _)
           (have hb2 : Below w1.heap.size w1 w2 := (hbel.alloc hbel.size _).grown gr2 (by simp; omega) (fun k' h => (own.lt k' h).1))
           (have hb3 : Below w1.heap.size wr w2 := ((Below.refl _ _).alloc hbel.size _).grown gr2 (by simp; omega) (fun k' h => (own.lt k' h).1))
           (have hc2 : w2.cell? ⟨b, o + k, none⟩ = some (.int .i64 (y : Nat)) := (hb3.cell (p := ⟨b, o + k, none⟩) hbl).trans hc)
           (clear gr2)))
      go_roundw
      case rel =>
        obtain ⟨e1, e2, e3⟩ := HX.out
        obtain ⟨e4, e5, e6⟩ := HE.out
        exact ⟨k + 1, by omega, rfl, by rw [e3, ← e4]; rfl, by rw [e2, ← e5, ← e6]; rfl, own2, hb2⟩
      case measure => have := HX.out.1; simp [lenOf]; omega
    · obtain rfl : k = dep N := by omega
      go_wp2
      go_ret
      exact ⟨_, rfl, own.mono hb1.size, hb1.trans (hbel.mono hb1.size)⟩

theorem rpath_out (n i : Int) (w : World) (hn : i64ok n) (h : ¬ (0 ≤ i ∧ i < n ∧ n ≤ 2048)) : Calls Tryd.prog 12 #[.int .i64 n, .int .i64 i] w fun e w' => e = .returned (.slice none 0 0) ∧ Below w.heap.size w w' := by
  have hl := rlevels_any n w hn
  have HL : Hid (¬ (i < 0 ∨ n ≤ i) → levN n = 0) := fun h0 => levN_out (by omega)
  clear h
  go_enter Tryd.func12, Tryd.ntmps12
  by_cases h1 : i < 0
  · go_wp2_with (first
      | ((go_at_call 10)
         (refine hl.mono ?_)
         (rintro e w1 ⟨la, lc, rfl, hlc, hln, hli, hb1⟩)))
    exact bodyPost_ret (results_tmp rfl _ _ _) rfl ⟨rfl, hb1⟩
  · by_cases h2 : n ≤ i
    · go_wp2_with (first
        | ((go_at_call 10)
           (refine hl.mono ?_)
           (rintro e w1 ⟨la, lc, rfl, hlc, hln, hli, hb1⟩)))
      exact bodyPost_ret (results_tmp rfl _ _ _) rfl ⟨rfl, hb1⟩
    · rw [HL.out (by omega)] at hl
      have h3 : 0 ≤ i := by omega
      have h4 : i < n := by omega
      go_wp2_with (first
        | ((go_at_call 10)
           (refine hl.mono ?_)
           (rintro e w1 ⟨la, lc, rfl, hlc, hln, hli, hb1⟩)))
      go_loopw [6, 8] (fun v i wr => v = .slice none 0 0 ∧ i = .int .i64 0 ∧ wr = w1) (fun _ _ _ => 0)
      case atStart => exact ⟨rfl, rfl, rfl⟩
      case round =>
        obtain ⟨rfl, rfl, rfl⟩ := hrel
        go_wp2
        exact bodyPost_ret (results_tmp rfl _ _ _) rfl ⟨rfl, hb1⟩

theorem rpath_any : PathOk 12 := by
  intro n i w hn hi
  by_cases h : 0 ≤ i ∧ i < n ∧ n ≤ 2048
  · obtain ⟨N, rfl⟩ : ∃ N : Nat, n = N := ⟨n.toNat, by omega⟩
    obtain ⟨I, rfl⟩ : ∃ I : Nat, i = I := ⟨i.toNat, by omega⟩
    rw [patN_in h]
    refine (rpath_in N I w (by omega) (by omega)).mono ?_
    rintro e w' ⟨v, rfl, own, hb⟩
    obtain ⟨a, c, rfl, h1, h2, h3⟩ := own_ints own
    exact ⟨a, c, rfl, h1, h2, h3, hb⟩
  · rw [patN_out h]
    refine (rpath_out n i w hn h).mono ?_
    rintro e w' ⟨rfl, hb⟩
    exact ⟨none, 0, rfl, Nat.le_refl _, fun _ => ⟨rfl, rfl⟩, .inl rfl, hb⟩
end Go.Proofs.YtoeanaadlihkeaaDoor
