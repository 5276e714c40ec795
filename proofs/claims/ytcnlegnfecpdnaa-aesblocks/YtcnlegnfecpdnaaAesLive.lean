/- The live question of aes: the key 0 .. 15, the block 0, 17 .. 255: reckoned. -/
import Derived.Test.YtcnlegnfecpdnaaAesNew16
namespace Go.Proofs.Ytcnlegnfecpdnaa
open Go.ChangeShapes Go.WideShapes Go.ChangeAt Go.RowKit

def kList : List Nat := [0, 1, 2, 3, 4, 5, 6, 7, 8, 9, 10, 11, 12, 13, 14, 15, 214, 170, 116, 253, 210, 175, 114, 250, 218, 166, 120, 241, 214, 171, 118, 254, 182, 146, 207, 11, 100, 61, 189, 241, 190, 155, 197, 0, 104, 48, 179, 254, 182, 255, 116, 78, 210, 194, 201, 191, 108, 89, 12, 191, 4, 105, 191, 65, 71, 247, 247, 188, 149, 53, 62, 3, 249, 108, 50, 188, 253, 5, 141, 253, 60, 170, 163, 232, 169, 159, 157, 235, 80, 243, 175, 87, 173, 246, 34, 170, 94, 57, 15, 125, 247, 166, 146, 150, 167, 85, 61, 193, 10, 163, 31, 107, 20, 249, 112, 26, 227, 95, 226, 140, 68, 10, 223, 77, 78, 169, 192, 38, 71, 67, 135, 53, 164, 28, 101, 185, 224, 22, 186, 244, 174, 191, 122, 210, 84, 153, 50, 209, 240, 133, 87, 104, 16, 147, 237, 156, 190, 44, 151, 78, 19, 17, 29, 127, 227, 148, 74, 23, 243, 7, 167, 139, 77, 43, 48, 197]
def eList : List (List Nat) := [[0, 16, 32, 48, 64, 80, 96, 112, 128, 144, 160, 176, 192, 208, 224, 240], [137, 216, 16, 232, 133, 90, 206, 104, 45, 24, 67, 216, 203, 18, 143, 228], [73, 21, 89, 143, 85, 229, 215, 160, 218, 202, 148, 250, 31, 10, 99, 247], [250, 99, 106, 40, 37, 179, 57, 201, 64, 102, 138, 49, 87, 36, 77, 23], [36, 114, 64, 35, 105, 102, 179, 250, 110, 210, 117, 50, 136, 66, 91, 108], [200, 22, 119, 188, 155, 122, 201, 59, 37, 2, 121, 146, 176, 38, 25, 150], [198, 47, 225, 9, 247, 94, 237, 195, 204, 121, 57, 93, 132, 249, 207, 93], [209, 135, 108, 15, 121, 196, 48, 10, 180, 85, 148, 173, 214, 111, 244, 31], [253, 227, 186, 210, 5, 229, 208, 215, 53, 71, 150, 78, 241, 254, 55, 241], [189, 110, 124, 61, 242, 181, 119, 158, 11, 97, 33, 110, 139, 16, 182, 137], [105, 196, 224, 216, 106, 123, 4, 48, 216, 205, 183, 128, 112, 180, 197, 90]]
def KL (j : Nat) : Nat := kList.getD j 0
def EL (k j : Nat) : Nat := (eList.getD k []).getD j 0
def liveK (j : Nat) : Nat := j
def liveB (j : Nat) : Nat := 17 * j

theorem tw_congr (n : Nat) (W V : Nat → Nat) (k r : Nat) (hk : 1 ≤ k) (hr : r < 4) (h : ∀ j, j < 4 * k → W j = V j) : tw n W k r = tw n V k r := by
  unfold tw
  rw [h (4 * (k - 1) + (r + 1) % 4) (by omega), h (4 * (k - 1) + r) (by omega)]

theorem nw_congr (n : Nat) (hn : 1 ≤ n) (key W V : Nat → Nat) (k r : Nat) (hr : r < 4) (h : ∀ j, j < 4 * k → W j = V j) : nw n key W k r = nw n key V k r := by
  unfold nw
  by_cases c : k < n
  · rw [if_pos c, if_pos c]
  · rw [if_neg c, if_neg c, h (4 * (k - n) + r) (by omega), tw_congr n W V k r (by omega) hr h]

theorem live_words : ∀ k : Fin 44, ∀ r : Fin 4, nw 4 liveK KL k.val r.val = KL (4 * k.val + r.val) := by decide +kernel

theorem live_flat : ∀ k, k ≤ 44 → ∀ j, j < 4 * k → flat 4 liveK k j = KL j
  | 0, _, j, h => absurd h (by omega)
  | k + 1, hk, j, hj => by
    rw [flat_succ]
    show (if j < 4 * k then flat 4 liveK k j else if j < 4 * k + 4 then nw 4 liveK (flat 4 liveK k) k (j - 4 * k) else flat 4 liveK k j) = KL j
    by_cases h1 : j < 4 * k
    · rw [if_pos h1]; exact live_flat k (by omega) j h1
    · rw [if_neg h1, if_pos (by omega), nw_congr 4 (by decide) liveK _ KL k (j - 4 * k) (by omega) (live_flat k (by omega))]
      have := live_words ⟨k, by omega⟩ ⟨j - 4 * k, by omega⟩
      rw [this]
      show KL (4 * k + (j - 4 * k)) = KL j
      rw [show 4 * k + (j - 4 * k) = j by omega]

theorem encR_keys (K K' : Nat → Nat) (R k : Nat) (s : Nat → Nat) (h : Eq16 (rk K k) (rk K' k)) : Eq16 (encR K R k s) (encR K' R k s) := fun j hj => by
  unfold encR xorS
  rw [h j hj]

theorem live_zero : ∀ j : Fin 16, xorS liveB (rk KL 0) j.val = EL 0 j.val := by decide +kernel
theorem live_round : ∀ k : Fin 10, ∀ j : Fin 16, encR KL 10 (k.val + 1) (EL k.val) j.val = EL (k.val + 1) j.val := by decide +kernel

theorem live_key (k : Nat) (hk : k ≤ 10) : Eq16 (rk (flat 4 liveK 44) k) (rk KL k) := fun j hj => live_flat 44 (Nat.le_refl _) (16 * k + j) (by omega)

theorem live_enc : ∀ k, k ≤ 10 → Eq16 (encAt (flat 4 liveK 44) 10 liveB k) (EL k)
  | 0, _ => fun j hj => by
    show xorS liveB (rk (flat 4 liveK 44) 0) j = EL 0 j
    unfold xorS
    rw [live_key 0 (by omega) j hj]
    exact live_zero ⟨j, hj⟩
  | k + 1, h => by
    show Eq16 (encR (flat 4 liveK 44) 10 (k + 1) (encAt (flat 4 liveK 44) 10 liveB k)) (EL (k + 1))
    refine (encR_congr _ 10 (k + 1) (live_enc k (by omega))).trans ((encR_keys _ KL 10 (k + 1) (EL k) (live_key (k + 1) h)).trans ?_)
    exact fun j hj => live_round ⟨k, by omega⟩ ⟨j, hj⟩

theorem live_ends : encAt (flat 4 liveK 44) 10 liveB 10 0 = 105 ∧ encAt (flat 4 liveK 44) 10 liveB 10 1 = 196 ∧ encAt (flat 4 liveK 44) 10 liveB 10 15 = 90 :=
  ⟨(live_enc 10 (Nat.le_refl _) 0 (by decide)).trans (by decide +kernel), (live_enc 10 (Nat.le_refl _) 1 (by decide)).trans (by decide +kernel), (live_enc 10 (Nat.le_refl _) 15 (by decide)).trans (by decide +kernel)⟩

theorem liveB_lt : Byt liveB := fun j hj => by unfold liveB; omega
end Go.Proofs.Ytcnlegnfecpdnaa
