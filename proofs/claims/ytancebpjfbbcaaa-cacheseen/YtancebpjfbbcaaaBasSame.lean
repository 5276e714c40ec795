/- Bytes as strings; the reference's Same. -/
import Derived.Test.YtancebpjfbbcaaaBas
namespace Go.Proofs.Ytancebpjfbbcaaa
open Go.ChangeShapes Go.WideShapes Go.ChangeAt Go.RowKit
set_option linter.unusedVariables false

def strN (f : Nat → Nat) (n : Nat) : List UInt8 := (List.range n).map fun j => UInt8.ofNat (f j)

theorem conv_bytesN {w : World} {a : Option Addr} {len : Nat} {f : Nat → Nat} (cap : Nat) (h : Bytes w a len f) (hf : ∀ j, f j < 256) (hn : a = none → len = 0) :
    (convert 39 9 (.slice a len cap)).run Try.prog w = .ok (.string ⟨(strN f len).toArray⟩) w := by
  have hl : (strN f len).length = len := by simp [strN]
  cases a with
  | none =>
    obtain rfl := hn rfl
    rw [run_convert_bytes_string w 39 9 5 none 0 cap Try.underlying39 Try.underlying5 Try.underlying9]
    rfl
  | some x =>
    have h' := run_convert_bytes_back (P := Try.prog) w 39 9 5 x cap (strN f len) Try.underlying39 Try.underlying5 Try.underlying9 (by
      intro j hj
      rw [hl] at hj
      rcases h with h0 | ⟨b, off, e, _, hc⟩
      · omega
      · obtain rfl : x = ⟨b, off, none⟩ := Option.some.inj e
        rw [show (⟨b, off, none⟩ : Addr).add j = ⟨b, off + j, none⟩ from by simp [Addr.add], hc j hj]
        simp only [strN, List.getElem_map, List.getElem_range]
        have := hf j
        simp
        omega)
    rw [hl] at h'
    exact h'

theorem same_any {w : World} {a1 a2 : Option Addr} {l1 l2 : Nat} {f g : Nat → Nat} (c1 c2 : Nat) (h1 : Bytes w a1 l1 f) (h2 : Bytes w a2 l2 g) (hf : ∀ j, f j < 256) (hg : ∀ j, g j < 256) (n1 : a1 = none → l1 = 0) (n2 : a2 = none → l2 = 0) :
    Calls Try.prog 14 #[.slice a1 l1 c1, .slice a2 l2 c2] w fun e w' => e = .returned (.bool (strN f l1 == strN g l2)) ∧ w' = w := by
  have k1 := conv_bytesN c1 h1 hf n1
  have k2 := conv_bytesN c2 h2 hg n2
  clear h1 h2 n1 n2 hf hg
  go_enter Try.func14, Try.ntmps14
  go_wp2
  go_ret
  exact ⟨rfl, rfl⟩

theorem same_true {w : World} {a1 a2 : Option Addr} {l : Nat} {f : Nat → Nat} (c1 c2 : Nat) (h1 : Bytes w a1 l f) (h2 : Bytes w a2 l f) (hf : ∀ j, f j < 256) (n1 : a1 = none → l = 0) (n2 : a2 = none → l = 0) :
    Calls Try.prog 14 #[.slice a1 l c1, .slice a2 l c2] w fun e w' => e = .returned (.bool true) ∧ w' = w := by
  have := same_any c1 c2 h1 h2 hf hf n1 n2
  rwa [beq_self_eq_true] at this

theorem strN_same {f g : Nat → Nat} {n : Nat} (h : ∀ j, j < n → f j = g j) : strN f n = strN g n := by
  unfold strN
  apply List.map_congr_left
  intro j hj
  rw [h j (by simpa using hj)]

theorem strN_eq {f g : Nat → Nat} {n m : Nat} (hf : ∀ j, f j < 256) (hg : ∀ j, g j < 256) : strN f n = strN g m ↔ n = m ∧ ∀ j, j < n → f j = g j := by
  constructor
  · intro h
    have hl : (strN f n).length = (strN g m).length := by rw [h]
    have hl' : n = m := by simpa [strN] using hl
    refine ⟨hl', fun j hj => ?_⟩
    have h1 : (strN f n)[j]? = (strN g m)[j]? := by rw [h]
    have h2 : UInt8.ofNat (f j) = UInt8.ofNat (g j) := by simpa [strN, hj, ← hl'] using h1
    have h3 := congrArg UInt8.toNat h2
    have a1 := hf j
    have a2 := hg j
    simpa [UInt8.toNat_ofNat', Nat.mod_eq_of_lt a1, Nat.mod_eq_of_lt a2] using h3
  · rintro ⟨rfl, h⟩
    exact strN_same h

end Go.Proofs.Ytancebpjfbbcaaa
