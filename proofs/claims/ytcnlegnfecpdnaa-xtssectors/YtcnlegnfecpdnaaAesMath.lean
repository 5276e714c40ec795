/- AES over numbers: doubling, mixing, turning; there and back. No program text in it. -/
import Derived.KernelRfl
namespace Go.Proofs.Ytcnlegnfecpdnaa

def dbl (x : Nat) : Nat := if x < 128 then 2 * x else 2 * x ^^^ 283

theorem xor8 {a b : Nat} (ha : a < 256) (hb : b < 256) : a ^^^ b < 256 := Nat.xor_lt_two_pow (n := 8) ha hb

theorem dbl_lt (x : Nat) (h : x < 256) : dbl x < 256 := by
  have : ∀ x : Fin 256, dbl x.val < 256 := by decide +kernel
  exact this ⟨x, h⟩

theorem top_bit (x : Nat) (h : x < 256) : x.testBit 7 = decide (¬ x < 128) := by
  have : ∀ x : Fin 256, x.val.testBit 7 = decide (¬ x.val < 128) := by decide +kernel
  exact this ⟨x, h⟩

theorem dbl_bit (x : Nat) (h : x < 256) : dbl x = bif x.testBit 7 then 2 * x ^^^ 283 else 2 * x := by
  rw [top_bit x h]
  unfold dbl
  by_cases c : x < 128 <;> simp [c]

theorem two_xor (x y : Nat) : 2 * (x ^^^ y) = 2 * x ^^^ 2 * y := by
  have := Nat.shiftLeft_xor_distrib (a := x) (b := y) (i := 1)
  simp only [Nat.shiftLeft_eq, Nat.pow_one] at this
  rw [Nat.mul_comm 2, Nat.mul_comm 2, Nat.mul_comm 2]
  exact this

theorem xcancel (a b : Nat) : a ^^^ (a ^^^ b) = b := by rw [← Nat.xor_assoc, Nat.xor_self, Nat.zero_xor]

theorem xleft (a b c : Nat) : a ^^^ (b ^^^ c) = b ^^^ (a ^^^ c) := by rw [← Nat.xor_assoc, Nat.xor_comm a b, Nat.xor_assoc]

theorem dbl_xor (x y : Nat) (hx : x < 256) (hy : y < 256) : dbl (x ^^^ y) = dbl x ^^^ dbl y := by
  rw [dbl_bit _ (xor8 hx hy), dbl_bit x hx, dbl_bit y hy, Nat.testBit_xor, two_xor]
  cases x.testBit 7 <;> cases y.testBit 7
  · rfl
  · show 2 * x ^^^ 2 * y ^^^ 283 = 2 * x ^^^ (2 * y ^^^ 283)
    rw [Nat.xor_assoc]
  · show 2 * x ^^^ 2 * y ^^^ 283 = 2 * x ^^^ 283 ^^^ 2 * y
    rw [Nat.xor_assoc, Nat.xor_assoc, Nat.xor_comm 283]
  · show 2 * x ^^^ 2 * y = 2 * x ^^^ 283 ^^^ (2 * y ^^^ 283)
    rw [Nat.xor_assoc (2 * x) 283, xleft 283, Nat.xor_self, Nat.xor_zero]

def mixN (v : Nat → Nat) (r : Nat) : Nat := dbl (v r ^^^ v ((r + 1) % 4)) ^^^ (v 0 ^^^ v 1 ^^^ v 2 ^^^ v 3) ^^^ v r
def unmixN (v : Nat → Nat) : Nat → Nat := mixN (fun r => v r ^^^ dbl (dbl (v (r % 2) ^^^ v (r % 2 + 2))))

theorem mixN_lt (v : Nat → Nat) (h : ∀ r, r < 4 → v r < 256) (r : Nat) (hr : r < 4) : mixN v r < 256 :=
  xor8 (xor8 (dbl_lt _ (xor8 (h r hr) (h _ (Nat.mod_lt _ (by decide))))) (xor8 (xor8 (xor8 (h 0 (by decide)) (h 1 (by decide))) (h 2 (by decide))) (h 3 (by decide)))) (h r hr)

theorem pre_lt (v : Nat → Nat) (h : ∀ r, r < 4 → v r < 256) (r : Nat) (hr : r < 4) : v r ^^^ dbl (dbl (v (r % 2) ^^^ v (r % 2 + 2))) < 256 :=
  xor8 (h r hr) (dbl_lt _ (dbl_lt _ (xor8 (h _ (by omega)) (h _ (by omega)))))

theorem unmixN_lt (v : Nat → Nat) (h : ∀ r, r < 4 → v r < 256) (r : Nat) (hr : r < 4) : unmixN v r < 256 := mixN_lt _ (pre_lt v h) r hr

theorem mixN_congr (u v : Nat → Nat) (h : ∀ r, r < 4 → u r = v r) (r : Nat) (hr : r < 4) : mixN u r = mixN v r := by
  unfold mixN
  rw [h r hr, h _ (Nat.mod_lt _ (by decide)), h 0 (by decide), h 1 (by decide), h 2 (by decide), h 3 (by decide)]

theorem unmixN_congr (u v : Nat → Nat) (h : ∀ r, r < 4 → u r = v r) (r : Nat) (hr : r < 4) : unmixN u r = unmixN v r :=
  mixN_congr _ _ (fun r hr => by rw [h r hr, h (r % 2) (by omega), h (r % 2 + 2) (by omega)]) r hr

theorem four_case {r : Nat} (h : r < 4) : r = 0 ∨ r = 1 ∨ r = 2 ∨ r = 3 := by omega

theorem letters (v : Nat → Nat) (h : ∀ r, r < 4 → v r < 256) : ∃ a b c d, v 0 = a ∧ v 1 = b ∧ v 2 = c ∧ v 3 = d ∧ a < 256 ∧ b < 256 ∧ c < 256 ∧ d < 256 :=
  ⟨_, _, _, _, rfl, rfl, rfl, rfl, h 0 (by decide), h 1 (by decide), h 2 (by decide), h 3 (by decide)⟩

/-- A sum of those of the f p whose bit stands in m. -/
def ev (f : Nat → Nat) (m : Nat) : Nat → Nat
  | 0 => 0
  | p + 1 => ev f m p ^^^ (bif m.testBit p then f p else 0)

theorem ev_xor (f : Nat → Nat) (m n : Nat) : ∀ p, ev f (m ^^^ n) p = ev f m p ^^^ ev f n p
  | 0 => (Nat.xor_self 0).symm
  | p + 1 => by
    simp only [ev]
    rw [ev_xor f m n p, Nat.testBit_xor]
    cases m.testBit p <;> cases n.testBit p
    · simp
    · simp [Nat.xor_assoc]
    · simp [Nat.xor_assoc, Nat.xor_comm (f p)]
    · show ev f m p ^^^ ev f n p ^^^ 0 = ev f m p ^^^ f p ^^^ (ev f n p ^^^ f p)
      rw [Nat.xor_assoc (ev f m p) (f p), xleft (f p), Nat.xor_self, Nat.xor_zero, Nat.xor_zero]

theorem ev_lt (f : Nat → Nat) (hf : ∀ p, f p < 256) (m : Nat) : ∀ p, ev f m p < 256
  | 0 => show 0 < 256 by decide
  | p + 1 => by
    refine xor8 (ev_lt f hf m p) ?_
    cases m.testBit p
    · show 0 < 256; decide
    · exact hf p

theorem ev_more (f : Nat → Nat) (m n : Nat) (h : m < 2 ^ n) : ∀ k, ev f m (n + k) = ev f m n
  | 0 => rfl
  | k + 1 => by
    show ev f m (n + k) ^^^ (bif m.testBit (n + k) then f (n + k) else 0) = _
    rw [ev_more f m n h k, Nat.testBit_lt_two_pow (Nat.lt_of_lt_of_le h (Nat.pow_le_pow_right (by decide) (Nat.le_add_right n k)))]
    simp

theorem dbl_ev (f : Nat → Nat) (hf : ∀ p, f p < 256) (h4 : ∀ p, f (p + 4) = dbl (f p)) (m : Nat) : ∀ p, dbl (ev f m p) = ev f (m * 16) (p + 4)
  | 0 => by
    have e : ∀ q, q < 4 → (m * 16).testBit q = false := fun q hq => by
      rw [show (16 : Nat) = 2 ^ 4 from rfl, Nat.testBit_mul_two_pow]
      simp; omega
    simp [ev, e, dbl]
  | p + 1 => by
    have e : (m * 16).testBit (p + 4) = m.testBit p := by
      rw [show (16 : Nat) = 2 ^ 4 from rfl, Nat.testBit_mul_two_pow]
      simp
    show dbl (ev f m p ^^^ _) = ev f (m * 16) (p + 4) ^^^ _
    rw [dbl_xor _ _ (ev_lt f hf m p) (by cases m.testBit p; exact (show 0 < 256 by decide); exact hf p), dbl_ev f hf h4 m p, e]
    cases m.testBit p
    · rfl
    · show _ ^^^ dbl (f p) = _ ^^^ f (p + 4)
      rw [h4]

/-- The bytes, doubled and doubled again. -/
def pows (v : Nat → Nat) (p : Nat) : Nat := Nat.rec (v (p % 4)) (fun _ x => dbl x) (p / 4)

section
variable (v : Nat → Nat) (h : ∀ r, r < 4 → v r < 256)
def E (m : Nat) : Nat := ev (pows v) m 32

theorem pows4 (p : Nat) : pows v (p + 4) = dbl (pows v p) := by
  unfold pows
  rw [Nat.add_mod_right, Nat.add_div_right _ (by decide)]

include h in
theorem pows_lt (p : Nat) : pows v p < 256 := by
  unfold pows
  induction p / 4 with
  | zero => exact h _ (Nat.mod_lt _ (by decide))
  | succ n ih => exact dbl_lt _ ih

theorem E_xor (m n : Nat) : E v m ^^^ E v n = E v (m ^^^ n) := (ev_xor _ _ _ _).symm

include h in
theorem E_dbl (m : Nat) (hm : m < 268435456) : dbl (E v m) = E v (m * 16) := by
  unfold E
  rw [dbl_ev _ (pows_lt v h) (pows4 v), ev_more _ _ 32 (by omega) 4]

theorem E_0 : v 0 = E v 1 := by
  unfold E
  rw [show (32 : Nat) = 1 + 31 from rfl, ev_more _ _ _ (by decide)]
  exact (Nat.zero_xor _).symm
theorem E_1 : v 1 = E v 2 := by
  unfold E
  rw [show (32 : Nat) = 2 + 30 from rfl, ev_more _ _ _ (by decide)]
  show v 1 = 0 ^^^ 0 ^^^ v 1
  simp only [Nat.xor_zero, Nat.zero_xor]
theorem E_2 : v 2 = E v 4 := by
  unfold E
  rw [show (32 : Nat) = 3 + 29 from rfl, ev_more _ _ _ (by decide)]
  show v 2 = 0 ^^^ 0 ^^^ 0 ^^^ v 2
  simp only [Nat.xor_zero, Nat.zero_xor]
theorem E_3 : v 3 = E v 8 := by
  unfold E
  rw [show (32 : Nat) = 4 + 28 from rfl, ev_more _ _ _ (by decide)]
  show v 3 = 0 ^^^ 0 ^^^ 0 ^^^ 0 ^^^ v 3
  simp only [Nat.xor_zero, Nat.zero_xor]

include h in
theorem un_mix (r : Nat) (hr : r < 4) : unmixN (mixN v) r = v r := by
  have D := E_dbl v h
  have X := E_xor v
  rcases four_case hr with rfl | rfl | rfl | rfl <;>
    simp only [unmixN, mixN, E_0 v, E_1 v, E_2 v, E_3 v, Nat.reduceAdd, Nat.reduceMod, X, Nat.reduceXor, D, Nat.reduceMul, Nat.reduceLT]

include h in
theorem mix_un (r : Nat) (hr : r < 4) : mixN (unmixN v) r = v r := by
  have D := E_dbl v h
  have X := E_xor v
  rcases four_case hr with rfl | rfl | rfl | rfl <;>
    simp only [unmixN, mixN, E_0 v, E_1 v, E_2 v, E_3 v, Nat.reduceAdd, Nat.reduceMod, X, Nat.reduceXor, D, Nat.reduceMul, Nat.reduceLT]
end
end Go.Proofs.Ytcnlegnfecpdnaa
