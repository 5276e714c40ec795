/- A search: sort.Search, and the greatest number that fits. -/
import Derived.Test.YtacllicemnmpmaaArSmall
import Derived.Deep.LoopGhost
import Derived.Shelf.Abstract
namespace Go.Proofs.Ytacllicemnmpmaa
open Go.RowKit Go.Shelf
set_option linter.unusedVariables false

set_option maxHeartbeats 4000000 in
set_option maxRecDepth 1000000 in
/-- sort.Search over a closure that may lay blocks. -/
theorem search_c (g : Nat) (cb : Array Value) (n : Nat) (p : Nat → Bool) (w : World) (eg : ∀ args w, (callFunc g args).run Try.prog w = .ok (.enter g args) w) (hn : n ≤ 10000)
    (hf : ∀ (i : Nat) (W : World), i < n → Below w.heap.size w W → Calls Try.prog g (#[.int .i64 i] ++ cb) W fun e W' => e = .returned (.bool (p i)) ∧ Below w.heap.size w W')
    (hmono : ∀ a b, a ≤ b → b < n → p a = true → p b = true) :
    Calls Try.prog 33 #[.int .i64 n, .func (.func g) #[] cb] w fun e w' => ∃ r : Nat, e = .returned (.int .i64 (r : Nat)) ∧ r ≤ n ∧ (∀ t, t < r → p t = false) ∧ (∀ t, r ≤ t → t < n → p t = true) ∧ Below w.heap.size w w' := by
  have HF : Hid (∀ (i : Nat) (W : World), i < n → Below w.heap.size w W → Calls Try.prog g (#[.int .i64 i] ++ cb) W fun e W' => e = .returned (.bool (p i)) ∧ Below w.heap.size w W') := hf
  have M : Hid (∀ a b, a ≤ b → b < n → p a = true → p b = true) := hmono
  clear hf hmono
  go_enter Try.func33, Try.ntmps33
  go_wp2
  go_loopg [5, 6] n (fun kx s5 s6 wr => ∃ (lo hi : Nat), s5 = .int .i64 lo ∧ s6 = .int .i64 hi ∧ lo ≤ hi ∧ hi ≤ n ∧ hi - lo ≤ kx ∧ Below w.heap.size w wr ∧
    Hid ((∀ t, t < lo → p t = false) ∧ (∀ t, hi ≤ t → t < n → p t = true)))
  case atStart => exact ⟨0, n, rfl, rfl, Nat.zero_le _, Nat.le_refl _, by omega, Below.refl _ _, (⟨fun t ht => absurd ht (Nat.not_lt_zero _), fun t h1 h2 => by omega⟩ : (∀ t, t < 0 → p t = false) ∧ (∀ t, n ≤ t → t < n → p t = true))⟩
  case round =>
    obtain ⟨lo, hi, rfl, rfl, hlh, hin, hg, hb, I⟩ := hrel
    by_cases hlt : lo < hi
    · have hc := HF.out ((lo + hi) / 2) _ (by omega) hb
      rw [show (((lo + hi) / 2 : Nat) : Int) = ((lo : Int) + (hi : Int)) / 2 by omega] at hc
      cases hp : p ((lo + hi) / 2) <;> rw [hp] at hc
      · have HP : Hid (p ((lo + hi) / 2) = false) := hp
        clear hp
        go_wp2_with (go_at_fn g; refine hc.mono ?_; rintro e w' ⟨rfl, hb2⟩)
        go_roundg (hi - ((lo + hi) / 2 + 1))
        case measure => omega
        case rel =>
          have I2 : Hid ((∀ t, t < (lo + hi) / 2 + 1 → p t = false) ∧ (∀ t, hi ≤ t → t < n → p t = true)) := ⟨fun t ht => (by
            cases h : p t with
            | false => rfl
            | true => have := M.out t ((lo + hi) / 2) (by omega) (by omega) h; rw [HP.out] at this; cases this), I.out.2⟩
          exact ⟨(lo + hi) / 2 + 1, hi, by rw [show ((lo : Int) + (hi : Int)) / 2 + 1 = (((lo + hi) / 2 + 1 : Nat) : Int) by omega], rfl, by omega, hin, Nat.le_refl _, hb2, I2⟩
      · have HP : Hid (p ((lo + hi) / 2) = true) := hp
        clear hp
        go_wp2_with (go_at_fn g; refine hc.mono ?_; rintro e w' ⟨rfl, hb2⟩)
        go_roundg ((lo + hi) / 2 - lo)
        case measure => omega
        case rel =>
          have I2 : Hid ((∀ t, t < lo → p t = false) ∧ (∀ t, (lo + hi) / 2 ≤ t → t < n → p t = true)) := ⟨I.out.1, fun t ht htn => M.out ((lo + hi) / 2) t ht htn HP.out⟩
          exact ⟨lo, (lo + hi) / 2, rfl, by rw [show ((lo : Int) + (hi : Int)) / 2 = (((lo + hi) / 2 : Nat) : Int) by omega], by omega, by omega, Nat.le_refl _, hb2, I2⟩
    · obtain rfl : hi = lo := by omega
      go_wp2
      go_ret
      exact ⟨hi, rfl, hin, I.out.1, I.out.2, hb⟩

set_option maxHeartbeats 1000000 in
theorem great1_c (g bx : Nat) (cb : Array Value) (i : Nat) (b : Bool) (W : World) (B : Nat) (w : World) (hi : i ≤ 10000) (eg : ∀ args w, (callFunc g args).run Try.prog w = .ok (.enter g args) w)
    (hx : W.cell? ⟨bx, 0, none⟩ = some (.func (.func g) #[] cb))
    (hf : Calls Try.prog g (#[.int .i64 ((i + 1 : Nat) : Int)] ++ cb) W fun e W' => e = .returned (.bool b) ∧ Below B w W') :
    Calls Try.prog 34 #[.int .i64 i, .pointer (some ⟨bx, 0, none⟩)] W fun e W' => e = .returned (.bool !b) ∧ Below B w W' := by
  rw [show ((i + 1 : Nat) : Int) = (i : Int) + 1 by omega] at hf
  go_enter Try.func34, Try.ntmps34
  go_wp2_with (go_at_fn g; refine hf.mono ?_; rintro e w' ⟨rfl, hb2⟩)
  go_ret
  exact ⟨rfl, hb2⟩

set_option maxHeartbeats 1000000 in
/-- The greatest that fits. -/
theorem greatest_c (g : Nat) (cb : Array Value) (L : Nat) (F : Nat → Bool) (w : World) (eg : ∀ args w, (callFunc g args).run Try.prog w = .ok (.enter g args) w) (hn : L ≤ 10000)
    (hf : ∀ (d : Nat) (W : World), d ≤ L → Below w.heap.size w W → Calls Try.prog g (#[.int .i64 (d : Nat)] ++ cb) W fun e W' => e = .returned (.bool (F d)) ∧ Below W.heap.size W W')
    (hanti : ∀ a b, a ≤ b → b ≤ L → F b = true → F a = true) :
    Calls Try.prog 24 #[.int .i64 L, .func (.func g) #[] cb] w fun e w' => ∃ r : Nat, e = .returned (.int .i64 (r : Nat)) ∧ Great L F r ∧ Below w.heap.size w w' := by
  obtain ⟨W0, hW0⟩ : ∃ W0, W0 = w.alloc (.cells #[.func (.func g) #[] cb] 32) := ⟨_, rfl⟩
  have hs0 : W0.heap.size = w.heap.size + 1 := by rw [hW0]; simp
  have hx0 : Has W0 w.heap.size 32 #[.func (.func g) #[] cb] := by rw [hW0]; exact Has.new _ _ _
  have hB0 : Below w.heap.size w W0 := by rw [hW0]; exact (Below.refl _ w).alloc (Nat.le_refl _) _
  have hS := search_c 34 #[.pointer (some ⟨w.heap.size, 0, none⟩)] L (fun i => !F (i + 1)) W0 (enters_of Try.func34 (by kernel_rfl) rfl) hn
    (fun i W hi hb => by
      refine (great1_c g w.heap.size cb i (F (i + 1)) W W0.heap.size W0 (by omega) eg (by rw [(hx0.below hb (by omega)).cell 0]; rfl) ?_)
      refine (hf (i + 1) W (by omega) (hB0.trans (hb.mono (by omega)))).mono ?_
      rintro e W' ⟨rfl, h⟩
      exact ⟨rfl, hb.trans (h.mono hb.size)⟩)
    (fun a b hab hb h => by
      cases hq : F (b + 1) with
      | false => rfl
      | true => rw [hanti (a + 1) (b + 1) (by omega) (by omega) hq] at h; cases h)
  have HS : Hid (Calls Try.prog 33 #[.int .i64 L, .func (.func 34) #[] #[.pointer (some ⟨w.heap.size, 0, none⟩)]] W0 fun e w' => ∃ r : Nat, e = .returned (.int .i64 (r : Nat)) ∧ r ≤ L ∧ (∀ t, t < r → (!F (t + 1)) = false) ∧ (∀ t, r ≤ t → t < L → (!F (t + 1)) = true) ∧ Below W0.heap.size W0 w') := hS
  clear hS hf hanti
  go_enter Try.func24, Try.ntmps24
  go_wp2_with (first
    | ((go_at_call 33)
       (rw [← hW0])
       (refine HS.out.mono ?_)
       (rintro e w1 ⟨r, rfl, h1, h2, h3, h4⟩)))
  go_ret
  exact ⟨r, rfl, ⟨h1, fun t ht => by have := h2 t ht; simpa using this, fun h => by have := h3 r (Nat.le_refl _) h; simpa using this⟩, hB0.trans (h4.mono (by omega))⟩
end Go.Proofs.Ytacllicemnmpmaa
