/- The reference's Same, and its Keys at a key of another length. -/
import Derived.Test.YtcnlegnfecpdnaaAesBl
import Derived.Lib.SlBytesConst
namespace Go.Proofs.Ytcnlegnfecpdnaa
open Go.ChangeShapes Go.WideShapes Go.ChangeAt Go.RowKit
set_option linter.unusedVariables false

/-! Bytes as strings -/
def strN (f : Nat → Nat) (n : Nat) : List UInt8 := (List.range n).map fun j => UInt8.ofNat (f j)

theorem conv_bytesN {w : World} {a : Option Addr} {len : Nat} {f : Nat → Nat} (cap : Nat) (h : Bytes w a len f) (hf : ∀ j, f j < 256) (hn : a = none → len = 0) :
    (convert 22 9 (.slice a len cap)).run Try.prog w = .ok (.string ⟨(strN f len).toArray⟩) w := by
  have hl : (strN f len).length = len := by simp [strN]
  cases a with
  | none =>
    obtain rfl := hn rfl
    rw [run_convert_bytes_string w 22 9 5 none 0 cap Try.underlying22 Try.underlying5 Try.underlying9]
    rfl
  | some x =>
    have h' := run_convert_bytes_back (P := Try.prog) w 22 9 5 x cap (strN f len) Try.underlying22 Try.underlying5 Try.underlying9 (by
      intro j hj
      rw [hl] at hj
      rcases h with h0 | ⟨b, off, e, _, hc⟩
      · omega
      · obtain rfl : x = ⟨b, off, none⟩ := Option.some.inj e
        rw [show (⟨b, off, none⟩ : Addr).add j = ⟨b, off + j, none⟩ from by simp [Addr.add], hc j hj]
        simp only [strN, List.getElem_map, List.getElem_range]
        have := hf j
        simp
        omega)
    rw [hl] at h'
    exact h'

theorem same_any {w : World} {a1 a2 : Option Addr} {l1 l2 : Nat} {f g : Nat → Nat} (c1 c2 : Nat) (h1 : Bytes w a1 l1 f) (h2 : Bytes w a2 l2 g) (hf : ∀ j, f j < 256) (hg : ∀ j, g j < 256) (n1 : a1 = none → l1 = 0) (n2 : a2 = none → l2 = 0) :
    Calls Try.prog 11 #[.slice a1 l1 c1, .slice a2 l2 c2] w fun e w' => e = .returned (.bool (strN f l1 == strN g l2)) ∧ w' = w := by
  have k1 := conv_bytesN c1 h1 hf n1
  have k2 := conv_bytesN c2 h2 hg n2
  clear h1 h2 n1 n2 hf hg
  go_enter Try.func11, Try.ntmps11
  go_wp2
  go_ret
  exact ⟨rfl, rfl⟩

theorem same_true {w : World} {a1 a2 : Option Addr} {l : Nat} {f : Nat → Nat} (c1 c2 : Nat) (h1 : Bytes w a1 l f) (h2 : Bytes w a2 l f) (hf : ∀ j, f j < 256) (n1 : a1 = none → l = 0) (n2 : a2 = none → l = 0) :
    Calls Try.prog 11 #[.slice a1 l c1, .slice a2 l c2] w fun e w' => e = .returned (.bool true) ∧ w' = w := by
  have := same_any c1 c2 h1 h2 hf hf n1 n2
  rwa [beq_self_eq_true] at this

set_option maxRecDepth 100000 in
theorem rkeys_bad (a : Option Addr) (len cap : Nat) (w : World) (h1 : len ≠ 16) (h2 : len ≠ 32) (hl : len ≤ maxLen) :
    Calls Try.prog 10 #[.slice a len cap] w fun e w' => e = .returned (.slice none 0 0) ∧ w' = w := by
  unfold maxLen at hl
  have i0 : (0 : Int) ≤ (len : Int) := by omega
  have i1 : ((len : Int) != 16) = true := by simp; omega
  have i2 : ((len : Int) != 32) = true := by simp; omega
  clear h1 h2
  go_enter Try.func10, Try.ntmps10
  go_wp2
  go_ret
  exact ⟨rfl, rfl⟩
end Go.Proofs.Ytcnlegnfecpdnaa
