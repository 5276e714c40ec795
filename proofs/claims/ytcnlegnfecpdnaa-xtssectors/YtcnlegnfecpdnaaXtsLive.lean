/- The live question of xts, reckoned: the key 1, 0, .., 0, sector 7, 32 noughts. -/
import Derived.Test.YtcnlegnfecpdnaaXtsMem
namespace Go.Proofs.Ytcnlegnfecpdnaa
open Go.ChangeShapes Go.WideShapes Go.ChangeAt Go.RowKit
set_option linter.unusedVariables false

def xKT (j : Nat) : Nat := ([1, 0, 0, 0, 0, 0, 0, 0, 0, 0, 0, 0, 0, 0, 0, 0, 99, 99, 99, 99, 99, 99, 99, 99, 99, 99, 99, 99, 99, 99, 99, 99, 154, 152, 152, 152, 249, 251, 251, 251, 154, 152, 152, 152, 249, 251, 251, 251, 145, 151, 151, 1, 104, 108, 108, 250, 242, 244, 244, 98, 11, 15, 15, 153, 239, 225, 121, 42, 135, 141, 21, 208, 117, 121, 225, 178, 126, 118, 238, 43, 199, 201, 136, 217, 64, 68, 157, 9, 53, 61, 124, 187, 75, 75, 146, 144, 84, 134, 232, 106, 20, 194, 117, 99, 33, 255, 9, 216, 106, 180, 155, 72, 153, 146, 186, 104, 141, 80, 207, 11, 172, 175, 198, 211, 198, 27, 93, 155, 182, 222, 174, 220, 59, 142, 97, 215, 151, 33, 167, 4, 81, 58, 250, 159, 45, 243, 117, 13, 22, 125, 20, 218, 129, 92, 179, 222, 208, 102, 73, 65, 40, 200, 246, 125, 62, 181, 226, 167, 191, 233, 81, 121, 111, 143, 24, 56] : List Nat).getD j 0
def xLT (j : Nat) : Nat := ([0, 0, 0, 0, 0, 0, 0, 0, 0, 0, 0, 0, 0, 0, 0, 0, 98, 99, 99, 99, 98, 99, 99, 99, 98, 99, 99, 99, 98, 99, 99, 99, 155, 152, 152, 201, 249, 251, 251, 170, 155, 152, 152, 201, 249, 251, 251, 170, 144, 151, 52, 80, 105, 108, 207, 250, 242, 244, 87, 51, 11, 15, 172, 153, 238, 6, 218, 123, 135, 106, 21, 129, 117, 158, 66, 178, 126, 145, 238, 43, 127, 46, 43, 136, 248, 68, 62, 9, 141, 218, 124, 187, 243, 75, 146, 144, 236, 97, 75, 133, 20, 37, 117, 140, 153, 255, 9, 55, 106, 180, 155, 167, 33, 117, 23, 135, 53, 80, 98, 11, 172, 175, 107, 60, 198, 27, 240, 155, 14, 249, 3, 51, 59, 169, 97, 56, 151, 6, 10, 4, 81, 29, 250, 159, 177, 212, 216, 226, 138, 125, 185, 218, 29, 123, 179, 222, 76, 102, 73, 65, 180, 239, 91, 203, 62, 146, 226, 17, 35, 233, 81, 207, 111, 143, 24, 142] : List Nat).getD j 0
def xA (k j : Nat) : Nat := (([[7, 0, 0, 0, 0, 0, 0, 0, 0, 0, 0, 0, 0, 0, 0, 0], [86, 166, 166, 241, 1, 0, 0, 0, 1, 0, 0, 0, 1, 0, 0, 0], [71, 41, 41, 199, 102, 69, 218, 119, 129, 45, 106, 204, 109, 9, 192, 175], [2, 148, 117, 53, 0, 231, 26, 90, 185, 251, 15, 114, 155, 208, 70, 185], [135, 142, 47, 172, 156, 111, 108, 70, 106, 42, 156, 194, 210, 124, 71, 23], [156, 251, 56, 60, 90, 33, 246, 12, 246, 157, 170, 12, 220, 25, 241, 87], [160, 234, 198, 27, 219, 52, 234, 103, 131, 249, 136, 197, 208, 20, 143, 156], [200, 44, 5, 199, 48, 250, 78, 116, 75, 238, 154, 76, 149, 74, 227, 92], [64, 210, 115, 17, 156, 8, 62, 154, 114, 45, 20, 72, 144, 141, 132, 237], [92, 253, 241, 153, 131, 107, 156, 59, 77, 179, 120, 167, 168, 232, 21, 66], [254, 144, 231, 231, 210, 255, 187, 255, 192, 114, 240, 45, 173, 219, 198, 210]] : List (List Nat)).getD k []).getD j 0
def xB (k j : Nat) : Nat := (([[255, 144, 231, 231, 210, 255, 187, 255, 192, 114, 240, 45, 173, 219, 198, 210], [76, 99, 164, 178, 242, 5, 66, 96, 94, 1, 105, 183, 192, 203, 42, 230], [2, 249, 186, 118, 166, 137, 134, 140, 146, 245, 38, 157, 5, 113, 2, 176], [157, 80, 128, 29, 94, 62, 8, 119, 2, 133, 71, 44, 119, 223, 151, 69], [80, 85, 124, 6, 185, 199, 38, 116, 26, 144, 141, 137, 59, 4, 187, 174], [137, 14, 144, 100, 201, 152, 213, 167, 229, 194, 161, 155, 219, 239, 139, 243], [244, 246, 122, 246, 164, 81, 50, 129, 206, 127, 43, 175, 242, 81, 179, 24], [200, 49, 193, 211, 93, 83, 72, 235, 31, 228, 39, 70, 83, 10, 91, 136], [89, 124, 127, 77, 71, 61, 156, 159, 52, 78, 208, 137, 202, 238, 154, 146], [246, 169, 168, 130, 103, 179, 206, 107, 192, 162, 74, 161, 113, 236, 120, 70], [106, 165, 32, 39, 187, 143, 94, 180, 5, 39, 147, 6, 204, 92, 147, 10]] : List (List Nat)).getD k []).getD j 0
def xC (k j : Nat) : Nat := (([[122, 33, 207, 207, 165, 255, 119, 255, 129, 229, 224, 91, 90, 183, 141, 165], [17, 171, 124, 237, 200, 161, 131, 226, 7, 181, 243, 120, 212, 1, 154, 192], [100, 211, 231, 85, 187, 36, 82, 31, 7, 13, 178, 139, 159, 228, 205, 206], [241, 106, 10, 200, 132, 19, 47, 86, 140, 132, 48, 80, 49, 37, 245, 243], [56, 187, 186, 177, 214, 181, 225, 67, 42, 123, 188, 63, 171, 217, 244, 200], [32, 56, 179, 171, 163, 226, 108, 29, 85, 175, 113, 122, 39, 128, 110, 206], [186, 111, 28, 158, 118, 226, 133, 95, 71, 145, 21, 52, 106, 92, 133, 255], [150, 176, 94, 130, 249, 216, 94, 67, 122, 235, 69, 123, 174, 232, 234, 146], [15, 113, 82, 230, 166, 95, 49, 47, 204, 36, 120, 134, 201, 194, 42, 85], [203, 35, 176, 7, 111, 143, 94, 98, 109, 72, 226, 12, 12, 240, 110, 209], [55, 187, 110, 67, 150, 231, 125, 98, 131, 101, 182, 211, 145, 169, 64, 198]] : List (List Nat)).getD k []).getD j 0
def xT1 (j : Nat) : Nat := ([123, 33, 207, 207, 165, 255, 119, 255, 129, 229, 224, 91, 90, 183, 141, 165] : List Nat).getD j 0

def aKey (j : Nat) : Nat := if j = 0 then 1 else 0
def aLow (j : Nat) : Nat := aKey (16 + j)

theorem tw_same (n : Nat) (W V : Nat → Nat) (k r : Nat) (hk : 1 ≤ k) (hr : r < 4) (h : ∀ j, j < 4 * k → W j = V j) : tw n W k r = tw n V k r := by
  unfold tw
  rw [h (4 * (k - 1) + (r + 1) % 4) (by omega), h (4 * (k - 1) + r) (by omega)]

theorem nw_same (n : Nat) (hn : 1 ≤ n) (key W V : Nat → Nat) (k r : Nat) (hr : r < 4) (h : ∀ j, j < 4 * k → W j = V j) : nw n key W k r = nw n key V k r := by
  unfold nw
  by_cases c : k < n
  · rw [if_pos c, if_pos c]
  · rw [if_neg c, if_neg c, h (4 * (k - n) + r) (by omega), tw_same n W V k r (by omega) hr h]

theorem flat_is (key KT : Nat → Nat) (hw : ∀ k : Fin 44, ∀ r : Fin 4, nw 4 key KT k.val r.val = KT (4 * k.val + r.val)) : ∀ k, k ≤ 44 → ∀ j, j < 4 * k → flat 4 key k j = KT j
  | 0, _, j, h => absurd h (by omega)
  | k + 1, hk, j, hj => by
    rw [flat_succ]
    show (if j < 4 * k then flat 4 key k j else if j < 4 * k + 4 then nw 4 key (flat 4 key k) k (j - 4 * k) else flat 4 key k j) = KT j
    by_cases h1 : j < 4 * k
    · rw [if_pos h1]; exact flat_is key KT hw k (by omega) j h1
    · rw [if_neg h1, if_pos (by omega), nw_same 4 (by decide) key _ KT k (j - 4 * k) (by omega) (flat_is key KT hw k (by omega))]
      have := hw ⟨k, by omega⟩ ⟨j - 4 * k, by omega⟩
      rw [this]
      show KT (4 * k + (j - 4 * k)) = KT j
      rw [show 4 * k + (j - 4 * k) = j by omega]

theorem encR_like (K K' : Nat → Nat) (R k : Nat) (s : Nat → Nat) (h : Eq16 (rk K k) (rk K' k)) : Eq16 (encR K R k s) (encR K' R k s) := fun j hj => by
  unfold encR xorS
  rw [h j hj]

theorem enc_is (K KT f : Nat → Nat) (ET : Nat → Nat → Nat) (hK : ∀ j, j < 176 → K j = KT j) (h0 : ∀ j : Fin 16, xorS f (rk KT 0) j.val = ET 0 j.val) (hr : ∀ k : Fin 10, ∀ j : Fin 16, encR KT 10 (k.val + 1) (ET k.val) j.val = ET (k.val + 1) j.val) :
    ∀ k, k ≤ 10 → Eq16 (encAt K 10 f k) (ET k)
  | 0, _ => fun j hj => by
    show xorS f (rk K 0) j = ET 0 j
    unfold xorS
    rw [show rk K 0 j = rk KT 0 j from hK _ (by omega)]
    exact h0 ⟨j, hj⟩
  | k + 1, h => by
    show Eq16 (encR K 10 (k + 1) (encAt K 10 f k)) (ET (k + 1))
    refine (encR_congr _ 10 (k + 1) (enc_is K KT f ET hK h0 hr k (by omega))).trans ((encR_like _ KT 10 (k + 1) (ET k) (fun j hj => hK _ (by omega))).trans ?_)
    exact fun j hj => hr ⟨k, by omega⟩ ⟨j, hj⟩

theorem kt_is : ∀ j, j < 176 → flat 4 aKey 44 j = xKT j := fun j hj => flat_is aKey xKT (by decide +kernel) 44 (Nat.le_refl _) j hj
theorem lt_is : ∀ j, j < 176 → flat 4 aLow 44 j = xLT j := fun j hj => flat_is aLow xLT (by decide +kernel) 44 (Nat.le_refl _) j hj

theorem tw_is : Eq16 (tw0 16 aLow 7) (xA 10) := enc_is (flat 4 aLow 44) xLT (numB 7) xA lt_is (by decide +kernel) (by decide +kernel) 10 (Nat.le_refl _)

theorem dblT_congr {a b : Nat → Nat} (h : Eq16 a b) : Eq16 (dblT a) (dblT b) := fun j hj => by
  have e : shl1 a j = shl1 b j := by
    unfold shl1 car
    rw [h j hj]
    by_cases c : j = 0
    · rw [if_pos c, if_pos c]
    · rw [if_neg c, if_neg c, h (j - 1) (by omega)]
  have e0 : shl1 a 0 = shl1 b 0 := by
    unfold shl1 car
    rw [h 0 (by decide)]
  unfold dblT
  rw [h 15 (by decide), e, e0]

theorem t1_is : Eq16 (twk (tw0 16 aLow 7) 1) xT1 := (dblT_congr tw_is).trans (fun j hj => (by decide +kernel : ∀ j : Fin 16, dblT (xA 10) j.val = xT1 j.val) ⟨j, hj⟩)

theorem b_is : Eq16 (encX 16 aKey (xA 10)) (xB 10) := enc_is (flat 4 aKey 44) xKT (xA 10) xB kt_is (by decide +kernel) (by decide +kernel) 10 (Nat.le_refl _)
theorem c_is : Eq16 (encX 16 aKey xT1) (xC 10) := enc_is (flat 4 aKey 44) xKT xT1 xC kt_is (by decide +kernel) (by decide +kernel) 10 (Nat.le_refl _)

theorem seal_0 (E : (Nat → Nat) → Nat → Nat) (t : Nat → Nat) : sealB E t (fun _ => 0) 0 = E (xorS (fun _ => 0) t) 0 ^^^ t 0 := rfl
theorem seal_16 (E : (Nat → Nat) → Nat → Nat) (t : Nat → Nat) : sealB E t (fun _ => 0) 16 = E (xorS (fun _ => 0) (twk t 1)) 0 ^^^ twk t 1 0 := rfl
theorem zero_xorS (t : Nat → Nat) : xorS (fun _ => 0) t = t := by
  funext j
  show 0 ^^^ t j = t j
  rw [Nat.zero_xor]

theorem live_0 : sealB (encX 16 aKey) (tw0 16 aLow 7) (fun _ => 0) 0 = 148 := by
  have e := ((encX_congr 16 aKey tw_is).trans b_is) 0 (by decide)
  have e' := tw_is 0 (by decide)
  rw [seal_0, zero_xorS]
  generalize encX 16 aKey (tw0 16 aLow 7) 0 = x at e ⊢
  generalize tw0 16 aLow 7 0 = y at e' ⊢
  rw [e, e']
  decide +kernel

theorem live_16 : sealB (encX 16 aKey) (tw0 16 aLow 7) (fun _ => 0) 16 = 76 := by
  have e := ((encX_congr 16 aKey t1_is).trans c_is) 0 (by decide)
  have e' := t1_is 0 (by decide)
  rw [seal_16, zero_xorS]
  generalize encX 16 aKey (twk (tw0 16 aLow 7) 1) 0 = x at e ⊢
  generalize twk (tw0 16 aLow 7) 1 0 = y at e' ⊢
  rw [e, e']
  decide +kernel
end Go.Proofs.Ytcnlegnfecpdnaa
