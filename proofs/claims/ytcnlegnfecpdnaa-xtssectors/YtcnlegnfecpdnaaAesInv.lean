/- There and back: what is decrypted behind its encryption, and the other way round. -/
import Derived.Test.YtcnlegnfecpdnaaAesDec
namespace Go.Proofs.Ytcnlegnfecpdnaa
open Go.ChangeShapes Go.WideShapes Go.ChangeAt Go.RowKit

def Eq16 (s t : Nat → Nat) : Prop := ∀ j, j < 16 → s j = t j

theorem Eq16.rfl' (s : Nat → Nat) : Eq16 s s := fun _ _ => rfl
theorem Eq16.trans {a b c : Nat → Nat} (h : Eq16 a b) (h' : Eq16 b c) : Eq16 a c := fun j hj => (h j hj).trans (h' j hj)
theorem Eq16.symm {a b : Nat → Nat} (h : Eq16 a b) : Eq16 b a := fun j hj => (h j hj).symm
theorem Eq16.cells {a b : Nat → Nat} (h : Eq16 a b) : cellsN .u8 16 a = cellsN .u8 16 b := cellsN_congr _ _ _ _ h
theorem Eq16.byt {a b : Nat → Nat} (h : Eq16 a b) (hb : Byt b) : Byt a := fun j hj => by rw [h j hj]; exact hb j hj

theorem Eq16.xor {a b : Nat → Nat} (k : Nat → Nat) (h : Eq16 a b) : Eq16 (xorS a k) (xorS b k) := fun j hj => by unfold xorS; rw [h j hj]
theorem Eq16.sub {a b : Nat → Nat} (T : Nat → Nat) (h : Eq16 a b) : Eq16 (subS T a) (subS T b) := fun j hj => by unfold subS; rw [h j hj]
theorem Eq16.turn {a b : Nat → Nat} (t : Nat) (h : Eq16 a b) : Eq16 (turnS t a) (turnS t b) := fun j hj => by unfold turnS; rw [h _ (by omega)]
theorem Eq16.mix {a b : Nat → Nat} (h : Eq16 a b) : Eq16 (colS mixN a) (colS mixN b) := fun j hj => by
  unfold colS; exact mixN_congr _ _ (fun r hr => h _ (by omega)) _ (Nat.mod_lt _ (by decide))
theorem Eq16.unmix {a b : Nat → Nat} (h : Eq16 a b) : Eq16 (colS unmixN a) (colS unmixN b) := fun j hj => by
  unfold colS; exact unmixN_congr _ _ (fun r hr => h _ (by omega)) _ (Nat.mod_lt _ (by decide))

theorem xor_xor (a k : Nat → Nat) : xorS (xorS a k) k = a := by
  funext j
  unfold xorS
  rw [Nat.xor_assoc, Nat.xor_self, Nat.xor_zero]

theorem turn31 (a : Nat → Nat) : Eq16 (turnS 3 (turnS 1 a)) a := fun j hj => by
  unfold turnS
  congr 1
  have : ∀ j : Fin 16, (j.val % 4 + 4 * ((j.val / 4 + j.val % 4 * 3) % 4)) % 4 + 4 * (((j.val % 4 + 4 * ((j.val / 4 + j.val % 4 * 3) % 4)) / 4 + (j.val % 4 + 4 * ((j.val / 4 + j.val % 4 * 3) % 4)) % 4 * 1) % 4) = j.val := by decide +kernel
  exact this ⟨j, hj⟩

theorem turn13 (a : Nat → Nat) : Eq16 (turnS 1 (turnS 3 a)) a := fun j hj => by
  unfold turnS
  congr 1
  have : ∀ j : Fin 16, (j.val % 4 + 4 * ((j.val / 4 + j.val % 4 * 1) % 4)) % 4 + 4 * (((j.val % 4 + 4 * ((j.val / 4 + j.val % 4 * 1) % 4)) / 4 + (j.val % 4 + 4 * ((j.val / 4 + j.val % 4 * 1) % 4)) % 4 * 3) % 4) = j.val := by decide +kernel
  exact this ⟨j, hj⟩

theorem col_in (G : (Nat → Nat) → Nat → Nat) (a : Nat → Nat) (c r : Nat) (hr : r < 4) : colS G a (4 * c + r) = G (fun r => a (4 * c + r)) r := by
  unfold colS
  rw [show (4 * c + r) / 4 = c by omega, show (4 * c + r) % 4 = r by omega]

theorem unmix_mix (a : Nat → Nat) (h : Byt a) : Eq16 (colS unmixN (colS mixN a)) a := fun j hj => by
  have e : colS unmixN (colS mixN a) j = unmixN (mixN (fun r => a (4 * (j / 4) + r))) (j % 4) :=
    unmixN_congr _ _ (fun r hr => col_in mixN a (j / 4) r hr) _ (Nat.mod_lt _ (by decide))
  rw [e, un_mix _ (fun r hr => h _ (by omega)) _ (Nat.mod_lt _ (by decide)), show 4 * (j / 4) + j % 4 = j by omega]

theorem mix_unmix (a : Nat → Nat) (h : Byt a) : Eq16 (colS mixN (colS unmixN a)) a := fun j hj => by
  have e : colS mixN (colS unmixN a) j = mixN (unmixN (fun r => a (4 * (j / 4) + r))) (j % 4) :=
    mixN_congr _ _ (fun r hr => col_in unmixN a (j / 4) r hr) _ (Nat.mod_lt _ (by decide))
  rw [e, mix_un _ (fun r hr => h _ (by omega)) _ (Nat.mod_lt _ (by decide)), show 4 * (j / 4) + j % 4 = j by omega]

theorem sub_IS (a : Nat → Nat) (h : Byt a) : Eq16 (subS IB (subS SB a)) a := fun j hj => IB_SB _ (h j hj)
theorem sub_SI (a : Nat → Nat) (h : Byt a) : Eq16 (subS SB (subS IB a)) a := fun j hj => SB_IB _ (h j hj)

theorem encR_congr (K : Nat → Nat) (R k : Nat) {a b : Nat → Nat} (h : Eq16 a b) : Eq16 (encR K R k a) (encR K R k b) := by
  unfold encR
  by_cases c : k < R
  · rw [if_pos c, if_pos c]; exact ((h.sub SB).turn 1).mix.xor _
  · rw [if_neg c, if_neg c]; exact ((h.sub SB).turn 1).xor _

theorem decR_congr (K : Nat → Nat) (R k : Nat) {a b : Nat → Nat} (h : Eq16 a b) : Eq16 (decR K R k a) (decR K R k b) := by
  unfold decR
  by_cases c : k < R
  · rw [if_pos c, if_pos c]; exact ((h.xor _).unmix.turn 3).sub IB
  · rw [if_neg c, if_neg c]; exact ((h.xor _).turn 3).sub IB

theorem decR_encR (K : Nat → Nat) (R k : Nat) (s : Nat → Nat) (h : Byt s) : Eq16 (decR K R k (encR K R k s)) s := by
  unfold decR encR
  have ht : Byt (turnS 1 (subS SB s)) := (h.sub SB_lt).turn 1
  rw [xor_xor]
  by_cases c : k < R
  · rw [if_pos c, if_pos c]
    exact ((((unmix_mix _ ht).turn 3).trans (turn31 _)).sub IB).trans (sub_IS s h)
  · rw [if_neg c, if_neg c]
    exact ((turn31 _).sub IB).trans (sub_IS s h)

theorem encR_decR (K : Nat → Nat) (hK : ∀ j, j < 240 → K j < 256) (R k : Nat) (hk : k ≤ 14) (s : Nat → Nat) (h : Byt s) : Eq16 (encR K R k (decR K R k s)) s := by
  have hx : Byt (xorS s (rk K k)) := h.xor (Byt.rk hK k hk)
  unfold decR encR
  by_cases c : k < R
  · rw [if_pos c, if_pos c]
    have h1 : Byt (turnS 3 (colS unmixN (xorS s (rk K k)))) := hx.unmix.turn 3
    have := ((((sub_SI _ h1).turn 1).trans (turn13 _)).mix.trans (mix_unmix _ hx)).xor (rk K k)
    rwa [xor_xor] at this
  · rw [if_neg c, if_neg c]
    have h1 : Byt (turnS 3 (xorS s (rk K k))) := hx.turn 3
    have := (((sub_SI _ h1).turn 1).trans (turn13 _)).xor (rk K k)
    rwa [xor_xor] at this

section
variable (K : Nat → Nat) (hK : ∀ j, j < 240 → K j < 256) (R : Nat) (hR : R ≤ 14) (f : Nat → Nat) (hf : Byt f)
include hK hR hf

theorem dec_down : ∀ n, n ≤ R → Eq16 (decAt K R (encAt K R f R) n) (encAt K R f (R - n))
  | 0, _ => Eq16.rfl' _
  | n + 1, h => by
    show Eq16 (decR K R (R - n) (decAt K R (encAt K R f R) n)) _
    refine (decR_congr K R (R - n) (dec_down n (by omega))).trans ?_
    obtain ⟨m, hm⟩ : ∃ m, R - n = m + 1 := ⟨R - n - 1, by omega⟩
    rw [hm, show R - (n + 1) = m by omega]
    exact decR_encR K R (m + 1) _ (encAt_lt hK R hf m (by omega))

theorem dec_enc : Eq16 (decS K R (encAt K R f R)) f := by
  unfold decS
  have := (dec_down K hK R hR f hf R (Nat.le_refl _)).xor (rk K 0)
  rw [Nat.sub_self] at this
  refine this.trans ?_
  show Eq16 (xorS (xorS f (rk K 0)) (rk K 0)) f
  rw [xor_xor]
  exact Eq16.rfl' _

theorem enc_up : ∀ k, k ≤ R → Eq16 (encAt K R (decS K R f) k) (decAt K R f (R - k))
  | 0, _ => by
    show Eq16 (xorS (xorS (decAt K R f R) (rk K 0)) (rk K 0)) _
    rw [xor_xor]
    exact Eq16.rfl' _
  | k + 1, h => by
    show Eq16 (encR K R (k + 1) (encAt K R (decS K R f) k)) _
    refine (encR_congr K R (k + 1) (enc_up k (by omega))).trans ?_
    obtain ⟨m, hm⟩ : ∃ m, R - k = m + 1 := ⟨R - k - 1, by omega⟩
    rw [hm, show R - (k + 1) = m by omega]
    show Eq16 (encR K R (k + 1) (decR K R (R - m) (decAt K R f m))) _
    rw [show R - m = k + 1 by omega]
    exact encR_decR K hK R (k + 1) (by omega) _ (decAt_lt hK R hR hf m)

theorem enc_dec : Eq16 (encAt K R (decS K R f) R) f := by
  have := enc_up K hK R hR f hf R (Nat.le_refl _)
  rwa [Nat.sub_self] at this
end

theorem encAt_congr (K : Nat → Nat) (R : Nat) {a b : Nat → Nat} (h : Eq16 a b) : ∀ k, Eq16 (encAt K R a k) (encAt K R b k)
  | 0 => h.xor _
  | k + 1 => encR_congr K R (k + 1) (encAt_congr K R h k)

theorem decAt_congr (K : Nat → Nat) (R : Nat) {a b : Nat → Nat} (h : Eq16 a b) : ∀ n, Eq16 (decAt K R a n) (decAt K R b n)
  | 0 => h
  | n + 1 => decR_congr K R (R - n) (decAt_congr K R h n)

theorem decS_congr (K : Nat → Nat) (R : Nat) {a b : Nat → Nat} (h : Eq16 a b) : Eq16 (decS K R a) (decS K R b) := (decAt_congr K R h R).xor _

theorem decS_lt {K : Nat → Nat} (hK : ∀ j, j < 240 → K j < 256) (R : Nat) (hR : R ≤ 14) {f : Nat → Nat} (hf : Byt f) : Byt (decS K R f) := (decAt_lt hK R hR hf R).xor (Byt.rk hK 0 (by omega))
end Go.Proofs.Ytcnlegnfecpdnaa
