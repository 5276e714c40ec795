/- The xts reference's Seal and Open. -/
import Derived.Test.YtcnlegnfecpdnaaRef5TurnE
import Derived.Test.YtcnlegnfecpdnaaRef5TurnD
namespace Go.Proofs.Ytcnlegnfecpdnaa
open Go.ChangeShapes Go.WideShapes Go.ChangeAt Go.RowKit
set_option linter.unusedVariables false

theorem rturn_bad (v : Value) (s : Nat) (a : Option Addr) (len cap : Nat) (c : Bool) (w : World) (hl : len ≤ 256) (h : len = 0 ∨ len % 16 ≠ 0) :
    Calls Try.prog 41 #[v, .int .u64 (s : Nat), .slice a len cap, .bool c] w fun e w' => e = .returned (.tuple #[.slice none 0 0, .int .i64 52]) ∧ w' = w := by
  by_cases h0 : len = 0
  · subst h0
    go_enter Try.func41, Try.ntmps41
    go_wp2
    go_ret2
    exact ⟨rfl, rfl⟩
  · have i1 : ((len : Int) == 0) = false := by simp; omega
    have i2 : ((len : Int) % 16 != 0) = true := by simp; omega
    have i3 : (len : Int) ≤ 256 := by omega
    clear h
    go_enter Try.func41, Try.ntmps41
    go_wp2
    go_ret2
    exact ⟨rfl, rfl⟩

theorem rSeal_bad (v : Value) (s : Nat) (a : Option Addr) (len cap : Nat) (w : World) (hl : len ≤ 256) (h : len = 0 ∨ len % 16 ≠ 0) :
    Calls Try.prog 21 #[v, .int .u64 (s : Nat), .slice a len cap] w fun e w' => e = .returned (.tuple #[.slice none 0 0, .int .i64 52]) ∧ w' = w := by
  have ht := rturn_bad v s a len cap false w hl h
  clear h
  go_enter Try.func21, Try.ntmps21
  go_wp2_with (go_at_call 41; refine ht.mono ?_; rintro e w' ⟨rfl, rfl⟩)
  go_ret2
  exact ⟨rfl, rfl⟩

theorem rSeal_ok (n : Nat) (hn : n = 16 ∨ n = 32) (key : Nat → Nat) (b o cap s bd od cd N : Nat) (D : Nat → Nat) (w : World) (hk : ∀ j, key j < 256) (hs : s < 18446744073709551616) (hD : ∀ j, D j < 256) (hN : 0 < N) (h16 : N % 16 = 0) (hN2 : N ≤ 256) (hcap : 2 * n ≤ cap) (hcd : N ≤ cd)
    (hb : b < w.heap.size) (hc : ∀ j, j < 2 * n → w.cell? ⟨b, o + j, none⟩ = some (.int .u8 (key j : Nat))) (hbd : bd < w.heap.size) (hdc : ∀ j, j < N → w.cell? ⟨bd, od + j, none⟩ = some (.int .u8 (D j : Nat))) :
    Calls Try.prog 21 #[.slice (some ⟨b, o, none⟩) (2 * n : Nat) cap, .int .u64 (s : Nat), .slice (some ⟨bd, od, none⟩) N cd] w fun e w' =>
      ∃ q, (∃ c, e = .returned (.tuple #[.slice (some ⟨q, 0, none⟩) N c, .int .i64 0])) ∧ Bytes w' (some ⟨q, 0, none⟩) N (sealB (encX n key) (tw0 n (fun j => key (n + j)) s) D) ∧ Below w.heap.size w w' := by
  obtain ⟨M, rfl⟩ : ∃ M, N = 16 * M := ⟨N / 16, by omega⟩
  have ht := rturnE_ok n hn key b o cap s bd od cd M D w hk hs hD (by omega) hN2 hcap hcd hb hc hbd hdc
  generalize sealB (encX n key) (tw0 n (fun j => key (n + j)) s) D = Z at ht ⊢
  generalize 16 * M = N at ht ⊢
  generalize 2 * n = L at ht ⊢
  clear hc hdc hN h16 hN2 hcap hcd
  go_enter Try.func21, Try.ntmps21
  go_wp2_with (go_at_call 41; refine ht.mono ?_; rintro e w' ⟨q, c, rfl, hZ, hB⟩)
  go_ret2
  exact ⟨q, ⟨c, rfl⟩, hZ, hB⟩

theorem rOpen_bad (v : Value) (s : Nat) (a : Option Addr) (len cap : Nat) (w : World) (hl : len ≤ 256) (h : len = 0 ∨ len % 16 ≠ 0) :
    Calls Try.prog 23 #[v, .int .u64 (s : Nat), .slice a len cap] w fun e w' => e = .returned (.tuple #[.slice none 0 0, .int .i64 52]) ∧ w' = w := by
  have ht := rturn_bad v s a len cap true w hl h
  clear h
  go_enter Try.func23, Try.ntmps23
  go_wp2_with (go_at_call 41; refine ht.mono ?_; rintro e w' ⟨rfl, rfl⟩)
  go_ret2
  exact ⟨rfl, rfl⟩

theorem rOpen_ok (n : Nat) (hn : n = 16 ∨ n = 32) (key : Nat → Nat) (b o cap s bd od cd N : Nat) (D : Nat → Nat) (w : World) (hk : ∀ j, key j < 256) (hs : s < 18446744073709551616) (hD : ∀ j, D j < 256) (hN : 0 < N) (h16 : N % 16 = 0) (hN2 : N ≤ 256) (hcap : 2 * n ≤ cap) (hcd : N ≤ cd)
    (hb : b < w.heap.size) (hc : ∀ j, j < 2 * n → w.cell? ⟨b, o + j, none⟩ = some (.int .u8 (key j : Nat))) (hbd : bd < w.heap.size) (hdc : ∀ j, j < N → w.cell? ⟨bd, od + j, none⟩ = some (.int .u8 (D j : Nat))) :
    Calls Try.prog 23 #[.slice (some ⟨b, o, none⟩) (2 * n : Nat) cap, .int .u64 (s : Nat), .slice (some ⟨bd, od, none⟩) N cd] w fun e w' =>
      ∃ q, (∃ c, e = .returned (.tuple #[.slice (some ⟨q, 0, none⟩) N c, .int .i64 0])) ∧ Bytes w' (some ⟨q, 0, none⟩) N (sealB (decX n key) (tw0 n (fun j => key (n + j)) s) D) ∧ Below w.heap.size w w' := by
  obtain ⟨M, rfl⟩ : ∃ M, N = 16 * M := ⟨N / 16, by omega⟩
  have ht := rturnD_ok n hn key b o cap s bd od cd M D w hk hs hD (by omega) hN2 hcap hcd hb hc hbd hdc
  generalize sealB (decX n key) (tw0 n (fun j => key (n + j)) s) D = Z at ht ⊢
  generalize 16 * M = N at ht ⊢
  generalize 2 * n = L at ht ⊢
  clear hc hdc hN h16 hN2 hcap hcd
  go_enter Try.func23, Try.ntmps23
  go_wp2_with (go_at_call 41; refine ht.mono ?_; rintro e w' ⟨q, c, rfl, hZ, hB⟩)
  go_ret2
  exact ⟨q, ⟨c, rfl⟩, hZ, hB⟩

end Go.Proofs.Ytcnlegnfecpdnaa
