/- The numbers of a tree of hashes, its bytes, its root, and when a sector is shown: reckoning alone. -/
import Derived.Test.YtoeanaadlihkeabDoorShaBl
import Derived.Test.YtoeanaadlihkeabDoorShaEval
namespace Go.Proofs.YtoeanaadlihkeabDoor
open Go.RowKit

/-- How many sectors level k has, the data being level 0. -/
def lv (n : Nat) : Nat → Nat
  | 0 => n
  | k + 1 => (lv n k + 1) / 2

/-- How many levels there are. -/
def dep (n : Nat) : Nat := if n ≤ 2 then 1 else dep ((n + 1) / 2) + 1
termination_by n
decreasing_by omega

theorem dep_le2 {n : Nat} (h : n ≤ 2) : dep n = 1 := by rw [dep, if_pos h]
theorem dep_more {n : Nat} (h : 2 < n) : dep n = dep ((n + 1) / 2) + 1 := by rw [dep, if_neg (by omega)]

theorem lv_in (n k : Nat) : lv n (k + 1) = lv ((n + 1) / 2) k := by
  induction k with
  | zero => rfl
  | succ k ih => rw [lv, ih, lv]

theorem dep_pos (n : Nat) : 1 ≤ dep n := by
  by_cases h : n ≤ 2
  · rw [dep_le2 h]; omega
  · rw [dep_more (by omega)]; omega

theorem lv_dep (n : Nat) (h : 1 ≤ n) : lv n (dep n) = 1 := by
  induction n using Nat.strongRecOn with
  | ind n ih =>
    by_cases h2 : n ≤ 2
    · rw [dep_le2 h2]
      show (n + 1) / 2 = 1
      omega
    · rw [dep_more (by omega), lv_in]
      exact ih _ (by omega) (by omega)

theorem lv_two (n k : Nat) (h1 : 1 ≤ k) (hk : k < dep n) : 2 ≤ lv n k := by
  induction n using Nat.strongRecOn generalizing k with
  | ind n ih =>
    by_cases h2 : n ≤ 2
    · rw [dep_le2 h2] at hk
      omega
    · rw [dep_more (by omega)] at hk
      obtain ⟨q, rfl⟩ : ∃ q, k = q + 1 := ⟨k - 1, by omega⟩
      rw [lv_in]
      by_cases hq : q = 0
      · subst hq
        show 2 ≤ (n + 1) / 2
        omega
      · exact ih _ (by omega) q (by omega) (by omega)

theorem lv_pos (n k : Nat) (h : 1 ≤ n) : 1 ≤ lv n k := by
  induction k with
  | zero => exact h
  | succ k ih => show 1 ≤ (lv n k + 1) / 2; omega

theorem lv_le (n k : Nat) (h : 1 ≤ n) : lv n k ≤ n := by
  induction k with
  | zero => exact Nat.le_refl _
  | succ k ih => have := lv_pos n k h; show (lv n k + 1) / 2 ≤ n; omega

theorem dep_pow (k n : Nat) (hk : 1 ≤ k) (h : n ≤ 2 ^ k) : dep n ≤ k := by
  induction k generalizing n with
  | zero => omega
  | succ k ih =>
    by_cases h2 : n ≤ 2
    · rw [dep_le2 h2]; omega
    · have hk1 : 1 ≤ k := by
        by_cases h0 : k = 0
        · subst h0; simp at h; omega
        · omega
      rw [dep_more (by omega)]
      have : (n + 1) / 2 ≤ 2 ^ k := by
        have : 2 ^ (k + 1) = 2 * 2 ^ k := by rw [Nat.pow_succ]; omega
        omega
      have := ih _ hk1 this
      omega

theorem dep_11 (n : Nat) (h : n ≤ 2048) : dep n ≤ 11 := dep_pow 11 n (by decide) h

/-- The first sector of a level in the tree (level 0 being that of the data's hashes). -/
def off (n : Nat) : Nat → Nat
  | 0 => 0
  | k + 1 => off n k + lv n (k + 1)

theorem off_le (n k : Nat) (h : 1 ≤ n) : off n k ≤ k * n := by
  induction k with
  | zero => simp [off]
  | succ k ih => have := lv_le n (k + 1) h; simp only [off, Nat.succ_mul]; omega

/-- The place of a data sector's hash on level k: its sector. -/
def pl (i : Nat) : Nat → Nat
  | 0 => i
  | k + 1 => pl i k / 2

theorem pl_lt (n i k : Nat) (h : i < n) : pl i k < lv n k := by
  induction k with
  | zero => exact h
  | succ k ih => show pl i k / 2 < (lv n k + 1) / 2; omega

/-- A sector's hash: the digest of its kind and its bytes. -/
def hsh (kind : Nat) (f : Nat → Nat) : Nat → Nat := SHA Hc Kc (cat (fun _ => kind) 1 f) 65

/-- Sector q of some bytes. -/
def sec (f : Nat → Nat) (q : Nat) : Nat → Nat := fun j => f (64 * q + j)

/-- The bytes of level k, the data being level 0. -/
def lvl (d : Nat → Nat) (n : Nat) : Nat → Nat → Nat
  | 0 => d
  | k + 1 => fun j => if j / 32 < lv n k then hsh (if k = 0 then 0 else 1) (sec (lvl d n k) (j / 32)) (j % 32) else 0

/-- The tree's first k levels. -/
def tree (d : Nat → Nat) (n : Nat) : Nat → Nat → Nat
  | 0 => fun _ => 0
  | k + 1 => cat (tree d n k) (64 * off n k) (lvl d n (k + 1))

def root (d : Nat → Nat) (n : Nat) : Nat → Nat := hsh 1 (lvl d n (dep n))

theorem hsh_congr (kind : Nat) (f g : Nat → Nat) (h : ∀ j, j < 64 → f j = g j) : hsh kind f = hsh kind g := by
  unfold hsh
  apply SHA_congr
  intro j hj
  unfold cat
  split
  · rfl
  · exact h _ (by omega)

theorem sec_at (f : Nat → Nat) (q j : Nat) : sec f q j = f (64 * q + j) := rfl

theorem tree_at (d : Nat → Nat) (n m k j : Nat) (hk : k < m) (hj : j < 64 * lv n (k + 1)) : tree d n m (64 * off n k + j) = lvl d n (k + 1) j := by
  induction m with
  | zero => omega
  | succ m ih =>
    unfold tree cat
    by_cases hkm : k = m
    · subst hkm
      rw [if_neg (by omega)]
      congr 1
      omega
    · have hmono : ∀ a b, a ≤ b → off n a ≤ off n b := by
        intro a b hab
        induction hab with
        | refl => exact Nat.le_refl _
        | step _ ih => exact Nat.le_trans ih (Nat.le_add_right _ _)
      have h1 : off n (k + 1) ≤ off n m := hmono _ _ (by omega)
      have h2 : off n (k + 1) = off n k + lv n (k + 1) := rfl
      rw [if_pos (by omega)]
      exact ih (by omega)

/-- The sector of the tree above data sector i on level k. -/
theorem tree_sec (d : Nat → Nat) (n m k i j : Nat) (hk : k < m) (hi : i < n) (hj : j < 64) : sec (tree d n m) (off n k + pl i (k + 1)) j = sec (lvl d n (k + 1)) (pl i (k + 1)) j := by
  have := pl_lt n i (k + 1) hi
  rw [sec_at, sec_at, show 64 * (off n k + pl i (k + 1)) + j = 64 * off n k + (64 * pl i (k + 1) + j) from by omega]
  exact tree_at d n m k _ hk (by omega)

/-- The digest that is shown on level k: the data's, then that of the sector below. -/
def up (x : Nat → Nat) (P : Nat → Nat → Nat) : Nat → Nat → Nat
  | 0 => hsh 0 x
  | k + 1 => hsh 1 (P k)

/-- Each of the first k digests stands at its place. -/
def Stands (i : Nat) (x : Nat → Nat) (P : Nat → Nat → Nat) (k : Nat) : Prop := ∀ q, q < k → ∀ j, j < 32 → P q (32 * (pl i q % 2) + j) = up x P q j

/-- What stands on the next level at a sector's place is its hash. -/
theorem lvl_next (d : Nat → Nat) (n k i j : Nat) (hi : i < n) (hj : j < 32) : sec (lvl d n (k + 1)) (pl i (k + 1)) (32 * (pl i k % 2) + j) = hsh (if k = 0 then 0 else 1) (sec (lvl d n k) (pl i k)) j := by
  have h := pl_lt n i k hi
  have e : 64 * pl i (k + 1) + (32 * (pl i k % 2) + j) = 32 * pl i k + j := by
    show 64 * (pl i k / 2) + (32 * (pl i k % 2) + j) = _
    omega
  rw [sec_at, e]
  show (if (32 * pl i k + j) / 32 < lv n k then hsh (if k = 0 then 0 else 1) (sec (lvl d n k) ((32 * pl i k + j) / 32)) ((32 * pl i k + j) % 32) else 0) = _
  have e1 : (32 * pl i k + j) / 32 = pl i k := by omega
  have e2 : (32 * pl i k + j) % 32 = j := by omega
  rw [e1, e2, if_pos h]

/-- A tree shows its own. -/
theorem own_up (d : Nat → Nat) (n i : Nat) (P : Nat → Nat → Nat) (m : Nat) (hP : ∀ k, k < m → ∀ j, j < 64 → P k j = sec (lvl d n (k + 1)) (pl i (k + 1)) j) (x : Nat → Nat) (hx : ∀ j, j < 64 → x j = sec d i j) :
    ∀ k, k ≤ m → up x P k = hsh (if k = 0 then 0 else 1) (sec (lvl d n k) (pl i k)) := by
  intro k hk
  cases k with
  | zero => exact hsh_congr 0 _ _ hx
  | succ k => exact hsh_congr 1 _ _ (hP k (by omega))

theorem own_stands (d : Nat → Nat) (n i : Nat) (P : Nat → Nat → Nat) (m : Nat) (hi : i < n) (hP : ∀ k, k < m → ∀ j, j < 64 → P k j = sec (lvl d n (k + 1)) (pl i (k + 1)) j) (x : Nat → Nat) (hx : ∀ j, j < 64 → x j = sec d i j) :
    Stands i x P m := by
  intro q hq j hj
  rw [own_up d n i P m hP x hx q (by omega), hP q hq _ (by omega)]
  exact lvl_next d n q i j hi hj

theorem pl_dep (n i : Nat) (hi : i < n) : pl i (dep n) = 0 := by
  have := pl_lt n i (dep n) hi
  rw [lv_dep n (by omega)] at this
  omega

theorem own_root (d : Nat → Nat) (n i : Nat) (P : Nat → Nat → Nat) (hi : i < n) (hP : ∀ k, k < dep n → ∀ j, j < 64 → P k j = sec (lvl d n (k + 1)) (pl i (k + 1)) j) (x : Nat → Nat) (hx : ∀ j, j < 64 → x j = sec d i j) :
    up x P (dep n) = root d n := by
  rw [own_up d n i P (dep n) hP x hx _ (Nat.le_refl _), pl_dep n i hi, if_neg (by have := dep_pos n; omega)]
  apply hsh_congr
  intro j hj
  rw [sec_at, Nat.mul_zero, Nat.zero_add]

/-- Where one digest parts, the sectors above part. -/
theorem parts_up (i k : Nat) (x y : Nat → Nat) (P Q : Nat → Nat → Nat) (hP : Stands i x P (k + 1)) (hQ : Stands i y Q (k + 1)) (hne : ∃ j, j < 32 ∧ up x P k j ≠ up y Q k j) : ∃ j, j < 64 ∧ P k j ≠ Q k j := by
  obtain ⟨j, hj, hne⟩ := hne
  refine ⟨32 * (pl i k % 2) + j, by omega, ?_⟩
  rw [hP k (by omega) j hj, hQ k (by omega) j hj]
  exact hne

/-- The kind of a level's sectors. -/
def kd (k : Nat) : Nat := if k = 0 then 0 else 1

/-- Data that differ in sector i alone: on each level the sectors beside its place agree. -/
theorem others (d d' : Nat → Nat) (n i : Nat) (h : ∀ q j, q ≠ i → j < 64 → sec d q j = sec d' q j) : ∀ k q j, q ≠ pl i k → j < 64 → sec (lvl d n k) q j = sec (lvl d' n k) q j := by
  intro k
  induction k with
  | zero => exact h
  | succ k ih =>
    intro q j hq hj
    have hq' : (64 * q + j) / 32 ≠ pl i k := by
      intro e
      apply hq
      show q = pl i k / 2
      omega
    show (if (64 * q + j) / 32 < lv n k then _ else 0) = (if (64 * q + j) / 32 < lv n k then _ else 0)
    rw [hsh_congr _ _ _ (fun t ht => ih ((64 * q + j) / 32) t hq' ht)]

/-- Where a level's hashes agree, the next level does. -/
theorem next_same (d d' : Nat → Nat) (n k : Nat) (h : ∀ q j, j < 32 → hsh (kd k) (sec (lvl d n k) q) j = hsh (kd k) (sec (lvl d' n k) q) j) : lvl d n (k + 1) = lvl d' n (k + 1) := by
  funext j
  have e := h (j / 32) (j % 32) (Nat.mod_lt _ (by decide))
  unfold kd at e
  show (if j / 32 < lv n k then _ else 0) = (if j / 32 < lv n k then _ else 0)
  rw [e]

theorem joins (d d' : Nat → Nat) (n i k : Nat) (h : ∀ q j, q ≠ i → j < 64 → sec d q j = sec d' q j) (he : ∀ j, j < 32 → hsh (kd k) (sec (lvl d n k) (pl i k)) j = hsh (kd k) (sec (lvl d' n k) (pl i k)) j) : ∀ m, k < m → lvl d n m = lvl d' n m := by
  intro m hm
  induction hm with
  | refl =>
    apply next_same
    intro q j hj
    by_cases hq : q = pl i k
    · rw [hq]; exact he j hj
    · rw [hsh_congr _ _ _ (fun t ht => others d d' n i h k q t hq ht)]
  | step _ ih => exact next_same d d' n _ (fun q j _ => by rw [ih])

theorem root_joins (d d' : Nat → Nat) (n i k : Nat) (hi : i < n) (hk : k ≤ dep n) (h : ∀ q j, q ≠ i → j < 64 → sec d q j = sec d' q j) (he : ∀ j, j < 32 → hsh (kd k) (sec (lvl d n k) (pl i k)) j = hsh (kd k) (sec (lvl d' n k) (pl i k)) j) : ∀ j, j < 32 → root d n j = root d' n j := by
  intro j hj
  unfold root
  by_cases hkd : k = dep n
  · subst hkd
    rw [pl_dep n i hi, show kd (dep n) = 1 from by unfold kd; rw [if_neg (by have := dep_pos n; omega)]] at he
    rw [hsh_congr 1 (lvl d n (dep n)) (sec (lvl d n (dep n)) 0) (fun j _ => by rw [sec_at, Nat.mul_zero, Nat.zero_add]), he j hj]
    exact congrFun (hsh_congr 1 _ _ (fun j _ => by rw [sec_at, Nat.mul_zero, Nat.zero_add])) j
  · rw [joins d d' n i k h he (dep n) (by omega)]

end Go.Proofs.YtoeanaadlihkeabDoor
