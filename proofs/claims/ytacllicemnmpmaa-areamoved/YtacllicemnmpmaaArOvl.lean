/- Overlap. -/
import Derived.Test.YtacllicemnmpmaaArOver
namespace Go.Proofs.Ytacllicemnmpmaa
open Go.ChangeShapes Go.WideShapes Go.ChangeAt Go.RowKit Go.Shelf
set_option linter.unusedVariables false

def R3.cells (r : R3) : Array Value := #[.int .i64 r.d, .int .i64 r.f, .int .i64 r.c]

/-- Ranges in memory, one behind the other. -/
def Rng (w : World) (a : Option Addr) (n : Nat) (F : Nat → R3) : Prop := n = 0 ∨ ∃ b off, a = some ⟨b, off, none⟩ ∧ b < w.heap.size ∧
  ∀ i, i < n → w.cell? ⟨b, off + i * 3, none⟩ = some (.int .i64 (F i).d) ∧ w.cell? ⟨b, off + i * 3 + 1, none⟩ = some (.int .i64 (F i).f) ∧ w.cell? ⟨b, off + i * 3 + 2, none⟩ = some (.int .i64 (F i).c)

theorem Rng.below {w w' : World} {a : Option Addr} {n B : Nat} {F : Nat → R3} (h : Rng w a n F) (hb : Below B w w') (hB : w.heap.size ≤ B) : Rng w' a n F := by
  rcases h with h | ⟨b, off, rfl, hlt, hc⟩
  · exact .inl h
  · refine .inr ⟨b, off, rfl, by have := hb.size; omega, fun i hi => ?_⟩
    obtain ⟨c0, c1, c2⟩ := hc i hi
    have e : ∀ o, w'.cell? ⟨b, o, none⟩ = w.cell? ⟨b, o, none⟩ := fun o => hb.cell (p := ⟨b, o, none⟩) (by show b < B; omega)
    exact ⟨by rw [e]; exact c0, by rw [e]; exact c1, by rw [e]; exact c2⟩

theorem Rng.to {w : World} {a : Option Addr} {n m : Nat} {F : Nat → R3} (h : Rng w a n F) (hm : m ≤ n) : Rng w a m F := by
  rcases h with h | ⟨b, off, rfl, hlt, hc⟩
  · exact .inl (by omega)
  · exact .inr ⟨b, off, rfl, hlt, fun i hi => hc i (by omega)⟩

theorem Rng.at {w : World} {a : Option Addr} {n : Nat} {F : Nat → R3} (h : Rng w a n F) (i : Nat) (hi : i < n) : ∃ b off, a = some ⟨b, off, none⟩ ∧ b < w.heap.size ∧
    w.cell? ⟨b, off + i * 3, none⟩ = some (.int .i64 (F i).d) ∧ w.cell? ⟨b, off + i * 3 + 1, none⟩ = some (.int .i64 (F i).f) ∧ w.cell? ⟨b, off + i * 3 + 2, none⟩ = some (.int .i64 (F i).c) := by
  rcases h with h | ⟨b, off, rfl, hlt, hc⟩
  · omega
  · exact ⟨b, off, rfl, hlt, hc i hi⟩

set_option maxHeartbeats 1000000 in
theorem ovl1_c (r q : R3) (bx : Nat) (W : World) (hx : Has W bx 33 q.cells) : Calls Try.prog 27 #[r.v, .pointer (some ⟨bx, 0, none⟩)] W fun e W' => e = .returned (.bool (shareB r q)) ∧ Below W.heap.size W W' := by
  obtain ⟨W0, hW0⟩ : ∃ W0, W0 = W.alloc (.cells #[.int .i64 r.d, .int .i64 r.f, .int .i64 r.c] 33) := ⟨_, rfl⟩
  have hB0 : Below W.heap.size W W0 := by rw [hW0]; exact (Below.refl _ W).alloc (Nat.le_refl _) _
  obtain ⟨c0, c1, c2⟩ := three hx
  have hlt := hx.lt
  have hs := shares_c r q W0
  obtain ⟨rd, rf, rc⟩ := r
  obtain ⟨qd, qf, qc⟩ := q
  simp only at c0 c1 c2 hW0
  simp only [R3.v] at hs ⊢
  generalize shareB _ _ = bo at hs ⊢
  clear hx
  go_enter Try.func27, Try.ntmps27
  go_wp2_with (first
    | ((go_at_call 28)
       (rw [← hW0])
       (refine hs.mono ?_)
       (rintro e w1 ⟨rfl, hb1⟩)))
  go_ret
  exact ⟨rfl, hB0.trans (hb1.mono hB0.size)⟩

/-- The first of n that p tells. -/
def First (n : Nat) (p : Nat → Bool) (r : Int) : Prop := (r = -1 ∧ ∀ i, i < n → p i = false) ∨ ∃ k : Nat, k < n ∧ r = k ∧ p k = true ∧ ∀ i, i < k → p i = false

set_option maxRecDepth 100000 in
set_option maxHeartbeats 2000000 in
theorem index_c (g : Nat) (cb : Array Value) (a : Option Addr) (n cap : Nat) (F : Nat → R3) (p : Nat → Bool) (w : World) (eg : ∀ args w, (callFunc g args).run Try.prog w = .ok (.enter g args) w) (hn : n ≤ 100000) (hl : Rng w a n F)
    (hf : ∀ (i : Nat) (W : World), i < n → Below w.heap.size w W → Calls Try.prog g (#[(F i).v] ++ cb) W fun e W' => e = .returned (.bool (p i)) ∧ Below W.heap.size W W') :
    Calls Try.prog 26 #[.slice a n cap, .func (.func g) #[] cb] w fun e w' => ∃ r : Int, e = .returned (.int .i64 r) ∧ First n p r ∧ Below w.heap.size w w' := by
  have HF : Hid (∀ (i : Nat) (W : World), i < n → Below w.heap.size w W → Calls Try.prog g (#[(F i).v] ++ cb) W fun e W' => e = .returned (.bool (p i)) ∧ Below W.heap.size W W') := hf
  clear hf
  go_enter Try.func26, Try.ntmps26
  go_wp2
  go_loopw [8] (fun i wr => ∃ k : Nat, k ≤ n ∧ i = .int .i64 k ∧ Hid (∀ i, i < k → p i = false) ∧ Below w.heap.size w wr) (fun i _ => n - (intOf i).toNat)
  case atStart => exact ⟨0, Nat.zero_le _, rfl, (fun t ht => absurd ht (Nat.not_lt_zero _) : ∀ t, t < 0 → p t = false), Below.refl _ _⟩
  case round =>
    obtain ⟨k, hk, rfl, HA, hb⟩ := hrel
    by_cases hlt : k < n
    · obtain ⟨b, off, rfl, hbl, c0, c1, c2⟩ := (hl.below hb (Nat.le_refl _)).at k hlt
      have hc := HF.out k _ hlt hb
      simp only [R3.v] at hc
      cases hp : p k <;> rw [hp] at hc
      · have HP : Hid (p k = false) := hp
        clear hp hl
        generalize F k = r at *
        obtain ⟨rd, rf, rc⟩ := r
        simp only at c0 c1 c2 hc
        go_wp2_with (go_at_fn g; refine hc.mono ?_; rintro e w' ⟨rfl, hb2⟩)
        go_roundw
        case rel => exact ⟨k + 1, hlt, by go_num, (fun t ht => by
          by_cases e : t < k
          · exact HA.out t e
          · obtain rfl : t = k := by omega
            exact HP.out : ∀ t, t < k + 1 → p t = false), hb.trans (hb2.mono hb.size)⟩
        case measure => simp [intOf]; omega
      · have HP : Hid (p k = true) := hp
        clear hp hl
        generalize F k = r at *
        obtain ⟨rd, rf, rc⟩ := r
        simp only at c0 c1 c2 hc
        go_wp2_with (go_at_fn g; refine hc.mono ?_; rintro e w' ⟨rfl, hb2⟩)
        go_ret
        exact ⟨k, rfl, .inr ⟨k, hlt, rfl, HP.out, HA.out⟩, hb.trans (hb2.mono hb.size)⟩
    · obtain rfl : k = n := by omega
      clear hl
      go_wp2
      go_ret
      exact ⟨-1, rfl, .inl ⟨rfl, HA.out⟩, hb⟩
end Go.Proofs.Ytacllicemnmpmaa
