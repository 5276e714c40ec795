/- xts: there and back, block by block. -/
import Derived.Test.YtcnlegnfecpdnaaXtsMem
namespace Go.Proofs.Ytcnlegnfecpdnaa
open Go.ChangeShapes Go.WideShapes Go.ChangeAt Go.RowKit
set_option linter.unusedVariables false

theorem sealB_lt {E : (Nat → Nat) → Nat → Nat} {t D : Nat → Nat} (hE : ∀ f, Byt f → Byt (E f)) (ht : Byt t) (hD : ∀ j, D j < 256) (j : Nat) : sealB E t D j < 256 := by
  have h1 : Byt (xorS (fun r => D (16 * (j / 16) + r)) (twk t (j / 16))) := Byt.xor (fun r _ => hD _) (twk_lt t ht _)
  exact ((hE _ h1).xor (twk_lt t ht _)) _ (Nat.mod_lt _ (by decide))

theorem sealB_at (E : (Nat → Nat) → Nat → Nat) (t D : Nat → Nat) (q r : Nat) (hr : r < 16) : sealB E t D (16 * q + r) = xorS (E (xorS (fun r => D (16 * q + r)) (twk t q))) (twk t q) r := by
  unfold sealB
  rw [show (16 * q + r) / 16 = q by omega, show (16 * q + r) % 16 = r by omega]

theorem seal_back {E F : (Nat → Nat) → Nat → Nat} {t D : Nat → Nat} (hFE : ∀ f, Byt f → Eq16 (F (E f)) f) (hF : ∀ a b, Eq16 a b → Eq16 (F a) (F b)) (ht : Byt t) (hD : ∀ j, D j < 256) (j : Nat) : sealB F t (sealB E t D) j = D j := by
  obtain ⟨q, r, hr, rfl⟩ : ∃ q r, r < 16 ∧ j = 16 * q + r := ⟨j / 16, j % 16, Nat.mod_lt _ (by decide), by omega⟩
  rw [sealB_at _ _ _ _ _ hr]
  have h1 : Byt (xorS (fun r => D (16 * q + r)) (twk t q)) := Byt.xor (fun r _ => hD _) (twk_lt t ht _)
  have h2 : Eq16 (xorS (fun r => sealB E t D (16 * q + r)) (twk t q)) (E (xorS (fun r => D (16 * q + r)) (twk t q))) := fun r hr => by
    show sealB E t D (16 * q + r) ^^^ twk t q r = _
    rw [sealB_at _ _ _ _ _ hr]
    show (E _ r ^^^ twk t q r) ^^^ twk t q r = _
    rw [Nat.xor_assoc, Nat.xor_self, Nat.xor_zero]
  have h3 := ((hF _ _ h2).trans (hFE _ h1)) r hr
  show F _ r ^^^ twk t q r = _
  rw [h3]
  show (D (16 * q + r) ^^^ twk t q r) ^^^ twk t q r = _
  rw [Nat.xor_assoc, Nat.xor_self, Nat.xor_zero]

theorem open_seal (n : Nat) (hn : n = 16 ∨ n = 32) (k : Nat → Nat) (hk : ∀ j, k j < 256) {t D : Nat → Nat} (ht : Byt t) (hD : ∀ j, D j < 256) : sealB (decX n k) t (sealB (encX n k) t D) = D := by
  funext j
  exact seal_back (fun f hf => dec_encX n hn k hk f hf) (fun a b h => decX_congr n k h) ht hD j

theorem seal_open (n : Nat) (hn : n = 16 ∨ n = 32) (k : Nat → Nat) (hk : ∀ j, k j < 256) {t D : Nat → Nat} (ht : Byt t) (hD : ∀ j, D j < 256) : sealB (encX n k) t (sealB (decX n k) t D) = D := by
  funext j
  exact seal_back (fun f hf => enc_decX n hn k hk f hf) (fun a b h => encX_congr n k h) ht hD j
end Go.Proofs.Ytcnlegnfecpdnaa
