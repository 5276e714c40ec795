/- xts: Seal and Open. -/
import Derived.Test.YtcnlegnfecpdnaaXtsEachE
import Derived.Test.YtcnlegnfecpdnaaXtsEachD
namespace Go.Proofs.Ytcnlegnfecpdnaa
open Go.ChangeShapes Go.WideShapes Go.ChangeAt Go.RowKit
set_option linter.unusedVariables false

theorem seal_nil (s : Int) (v : Value) (w : World) :
    Calls Try.prog 20 #[.pointer none, .int .u64 s, v] w fun e w' => e = .returned (.tuple #[.slice none 0 0, .int .i64 1]) ∧ w' = w := by
  go_enter Try.func20, Try.ntmps20
  go_wp2
  go_ret2
  exact ⟨rfl, rfl⟩

theorem seal_bad (n : Nat) (k l : Nat → Nat) (g gk gl s : Nat) (a : Option Addr) (len cap : Nat) (w : World) (hC : XC w g gk gl n k l) (hl : len ≤ maxLen) (h : len = 0 ∨ len % 16 ≠ 0) :
    Calls Try.prog 20 #[.pointer (some ⟨g, 0, none⟩), .int .u64 (s : Nat), .slice a len cap] w fun e w' => e = .returned (.tuple #[.slice none 0 0, .int .i64 52]) ∧ w' = w := by
  have hc0 : w.cell? ⟨g, 0, none⟩ = some (.pointer (some ⟨gk, 0, none⟩)) := by rw [hC.1.cell]; rfl
  have heach := eachE_bad a len cap s (.pointer (some ⟨g, 0, none⟩)) (.func (.func 13) #[.pointer (some ⟨gk, 0, none⟩)] #[]) w hl h
  clear h
  go_enter Try.func20, Try.ntmps20
  go_wp2_with (go_at_call 40; refine heach.mono ?_; rintro e w' ⟨rfl, rfl⟩)
  go_ret2
  exact ⟨rfl, rfl⟩

theorem seal_ok (n : Nat) (hn : n = 16 ∨ n = 32) (k l : Nat → Nat) (g gk gl s b o cap M : Nat) (D : Nat → Nat) (w : World) (hk : ∀ j, k j < 256) (hl : ∀ j, l j < 256) (hs : s < 18446744073709551616) (hD : ∀ j, D j < 256)
    (hM : 0 < M) (hM2 : 16 * M ≤ 1000) (hcap : 16 * M ≤ cap) (hC : XC w g gk gl n k l) (hb : Bytes w (some ⟨b, o, none⟩) (16 * M) D) :
    Calls Try.prog 20 #[.pointer (some ⟨g, 0, none⟩), .int .u64 (s : Nat), .slice (some ⟨b, o, none⟩) (16 * M : Nat) cap] w fun e w' =>
      ∃ q, e = .returned (.tuple #[.slice (some ⟨q, 0, none⟩) (16 * M : Nat) (16 * M : Nat), .int .i64 0]) ∧ w.heap.size ≤ q ∧ Has w' q 5 (cellsN .u8 (16 * M) (sealB (encX n k) (tw0 n l s) D)) ∧ Below w.heap.size w w' := by
  obtain ⟨hbl, hc⟩ : b < w.heap.size ∧ ∀ j, j < 16 * M → w.cell? ⟨b, o + j, none⟩ = some (.int .u8 (D j : Nat)) := by
    rcases hb with h | ⟨b', o', e, h1, h2⟩
    · omega
    · simp only [Option.some.injEq, Addr.mk.injEq, and_true] at e
      obtain ⟨rfl, rfl⟩ := e
      exact ⟨h1, h2⟩
  have hc0 : w.cell? ⟨g, 0, none⟩ = some (.pointer (some ⟨gk, 0, none⟩)) := by rw [hC.1.cell]; rfl
  have heach := eachE_ok n hn k l g gk gl s b o cap M D w hk hl hs hD hM hM2 hcap hC hbl hc
  generalize cellsN .u8 (16 * M) (sealB (encX n k) (tw0 n l s) D) = Z at heach ⊢
  generalize 16 * M = N at heach ⊢
  clear hc hb hC hM hM2
  go_enter Try.func20, Try.ntmps20
  go_wp2_with (go_at_call 40; refine heach.mono ?_; rintro e w' ⟨q, rfl, hq, hZ, hB⟩)
  go_ret2
  exact ⟨q, rfl, hq, hZ, hB⟩

theorem open_nil (s : Int) (v : Value) (w : World) :
    Calls Try.prog 22 #[.pointer none, .int .u64 s, v] w fun e w' => e = .returned (.tuple #[.slice none 0 0, .int .i64 1]) ∧ w' = w := by
  go_enter Try.func22, Try.ntmps22
  go_wp2
  go_ret2
  exact ⟨rfl, rfl⟩

theorem open_bad (n : Nat) (k l : Nat → Nat) (g gk gl s : Nat) (a : Option Addr) (len cap : Nat) (w : World) (hC : XC w g gk gl n k l) (hl : len ≤ maxLen) (h : len = 0 ∨ len % 16 ≠ 0) :
    Calls Try.prog 22 #[.pointer (some ⟨g, 0, none⟩), .int .u64 (s : Nat), .slice a len cap] w fun e w' => e = .returned (.tuple #[.slice none 0 0, .int .i64 52]) ∧ w' = w := by
  have hc0 : w.cell? ⟨g, 0, none⟩ = some (.pointer (some ⟨gk, 0, none⟩)) := by rw [hC.1.cell]; rfl
  have heach := eachE_bad a len cap s (.pointer (some ⟨g, 0, none⟩)) (.func (.func 15) #[.pointer (some ⟨gk, 0, none⟩)] #[]) w hl h
  clear h
  go_enter Try.func22, Try.ntmps22
  go_wp2_with (go_at_call 40; refine heach.mono ?_; rintro e w' ⟨rfl, rfl⟩)
  go_ret2
  exact ⟨rfl, rfl⟩

theorem open_ok (n : Nat) (hn : n = 16 ∨ n = 32) (k l : Nat → Nat) (g gk gl s b o cap M : Nat) (D : Nat → Nat) (w : World) (hk : ∀ j, k j < 256) (hl : ∀ j, l j < 256) (hs : s < 18446744073709551616) (hD : ∀ j, D j < 256)
    (hM : 0 < M) (hM2 : 16 * M ≤ 1000) (hcap : 16 * M ≤ cap) (hC : XC w g gk gl n k l) (hb : Bytes w (some ⟨b, o, none⟩) (16 * M) D) :
    Calls Try.prog 22 #[.pointer (some ⟨g, 0, none⟩), .int .u64 (s : Nat), .slice (some ⟨b, o, none⟩) (16 * M : Nat) cap] w fun e w' =>
      ∃ q, e = .returned (.tuple #[.slice (some ⟨q, 0, none⟩) (16 * M : Nat) (16 * M : Nat), .int .i64 0]) ∧ w.heap.size ≤ q ∧ Has w' q 5 (cellsN .u8 (16 * M) (sealB (decX n k) (tw0 n l s) D)) ∧ Below w.heap.size w w' := by
  obtain ⟨hbl, hc⟩ : b < w.heap.size ∧ ∀ j, j < 16 * M → w.cell? ⟨b, o + j, none⟩ = some (.int .u8 (D j : Nat)) := by
    rcases hb with h | ⟨b', o', e, h1, h2⟩
    · omega
    · simp only [Option.some.injEq, Addr.mk.injEq, and_true] at e
      obtain ⟨rfl, rfl⟩ := e
      exact ⟨h1, h2⟩
  have hc0 : w.cell? ⟨g, 0, none⟩ = some (.pointer (some ⟨gk, 0, none⟩)) := by rw [hC.1.cell]; rfl
  have heach := eachD_ok n hn k l g gk gl s b o cap M D w hk hl hs hD hM hM2 hcap hC hbl hc
  generalize cellsN .u8 (16 * M) (sealB (decX n k) (tw0 n l s) D) = Z at heach ⊢
  generalize 16 * M = N at heach ⊢
  clear hc hb hC hM hM2
  go_enter Try.func22, Try.ntmps22
  go_wp2_with (go_at_call 40; refine heach.mono ?_; rintro e w' ⟨q, rfl, hq, hZ, hB⟩)
  go_ret2
  exact ⟨q, rfl, hq, hZ, hB⟩

end Go.Proofs.Ytcnlegnfecpdnaa
