/- The reference's list of writes as it grows; a group's bytes are those that it is read of. -/
import Derived.Test.YtbiicdehgogikaaCdUngM
import Derived.Test.YtbiicdehgogikaaCdRGrp
import Derived.Test.YtbiicdehgogikaaCdSame
namespace Go.Proofs.Ytbiicdehgogikaa
open Go.ChangeShapes Go.WideShapes Go.ChangeAt Go.RowKit
set_option linter.unusedVariables false

/-! Bytes of numbers of bytes. -/
theorem nbs_nat (n s j : Nat) : nbs (n : Int) s j = n / 2 ^ (8 * (s - 1 - j)) % 256 := by
  unfold nbs byteAt
  have : ((n : Int) / 2 ^ (8 * (s - 1 - j)) % 256) = ((n / 2 ^ (8 * (s - 1 - j)) % 256 : Nat) : Int) := by simp
  rw [this]
  omega

theorem nbs_vn2 (f : Nat → Nat) (hf : ∀ j, f j < 256) (j : Nat) (hj : j < 2) : nbs (vn f 2 : Nat) 2 j = f j := by
  rw [nbs_nat]
  have h0 := hf 0
  have h1 := hf 1
  simp only [vn]
  rcases (show j = 0 ∨ j = 1 by omega) with rfl | rfl
  · show (((0 * 256 + f 0) * 256 + f 1) / 2 ^ 8) % 256 = f 0
    omega
  · show (((0 * 256 + f 0) * 256 + f 1) / 2 ^ 0) % 256 = f 1
    omega

theorem nbs_vn4 (f : Nat → Nat) (hf : ∀ j, f j < 256) (j : Nat) (hj : j < 4) : nbs (vn f 4 : Nat) 4 j = f j := by
  rw [nbs_nat]
  have h0 := hf 0
  have h1 := hf 1
  have h2 := hf 2
  have h3 := hf 3
  simp only [vn]
  rcases (show j = 0 ∨ j = 1 ∨ j = 2 ∨ j = 3 by omega) with rfl | rfl | rfl | rfl
  · show (((((0 * 256 + f 0) * 256 + f 1) * 256 + f 2) * 256 + f 3) / 2 ^ 24) % 256 = f 0
    omega
  · show (((((0 * 256 + f 0) * 256 + f 1) * 256 + f 2) * 256 + f 3) / 2 ^ 16) % 256 = f 1
    omega
  · show (((((0 * 256 + f 0) * 256 + f 1) * 256 + f 2) * 256 + f 3) / 2 ^ 8) % 256 = f 2
    omega
  · show (((((0 * 256 + f 0) * 256 + f 1) * 256 + f 2) * 256 + f 3) / 2 ^ 0) % 256 = f 3
    omega

theorem uD_eq (B : Nat → Nat) (i : Nat) : uD B i = B (2 + 69 * i) := by
  unfold uD
  simp [vn]

/-- Behind the count the bytes are those that were read. -/
theorem gb_uV (B : Nat → Nat) (hB : ∀ j, B j < 256) (A : Nat → Option Addr) (Cc : Nat → Nat) (k j : Nat) (hj : 2 ≤ j) : gb k (uV B A Cc) j = B j := by
  obtain ⟨i, r, hr, rfl⟩ : ∃ i r, r < 69 ∧ j = 2 + 69 * i + r := ⟨(j - 2) / 69, (j - 2) % 69, by omega, by omega⟩
  by_cases h0 : r < 1
  · rw [← gb_dev k (uV B A Cc) i r h0]
    obtain rfl : r = 0 := by omega
    show nbs ((uD B i : Nat) : Int) 1 0 = _
    have hd : uD B i < 256 := by rw [uD_eq]; exact hB _
    rw [nbs_one _ hd, uD_eq]
    rfl
  · by_cases h1 : r < 5
    · obtain ⟨r', rfl⟩ : ∃ r', r = 1 + r' := ⟨r - 1, by omega⟩
      rw [← Nat.add_assoc, ← gb_sec k (uV B A Cc) i r' (by omega)]
      exact nbs_vn4 (fun j => B (2 + 69 * i + 1 + j)) (fun j => hB _) r' (by omega)
    · obtain ⟨r', rfl⟩ : ∃ r', r = 1 + 4 + r' := ⟨r - 5, by omega⟩
      rw [show 2 + 69 * i + (1 + 4 + r') = 2 + 69 * i + 1 + 4 + r' by omega, ← gb_dat k (uV B A Cc) i r' (by omega)]
      rfl

theorem gb_cnt2 (B : Nat → Nat) (hB : ∀ j, B j < 256) (A : Nat → Option Addr) (Cc : Nat → Nat) (j : Nat) (hj : j < 2) : gb (uN B) (uV B A Cc) j = B j := by
  rw [← gb_cnt _ _ j hj]
  have h1 := nbs_vn2 (fun j => B (0 + j)) (fun j => hB _) j hj
  have h2 : (fun j => B (0 + j)) j = B j := by simp
  exact h1.trans h2

/-- Bytes that are a group are the group's. -/
theorem gb_all (B : Nat → Nat) (hB : ∀ j, B j < 256) (A : Nat → Option Addr) (Cc : Nat → Nat) (j : Nat) : gb (uN B) (uV B A Cc) j = B j := by
  by_cases h : j < 2
  · exact gb_cnt2 B hB A Cc j h
  · exact gb_uV B hB A Cc _ j (by omega)

/-- If the group of what was read is the bytes, the count is right. -/
theorem cnt_of (B : Nat → Nat) (A : Nat → Option Addr) (Cc : Nat → Nat) (k : Nat) (hk : k ≤ 100) (h : ∀ j, j < 2 → gb k (uV B A Cc) j = B j) : uN B = k := by
  have h0 := h 0 (by decide)
  have h1 := h 1 (by decide)
  rw [← gb_cnt _ _ _ (by decide), nbs_nat] at h0 h1
  have e0 : k / 2 ^ (8 * (2 - 1 - 0)) % 256 = k / 256 % 256 := rfl
  have e1 : k / 2 ^ (8 * (2 - 1 - 1)) % 256 = k / 1 % 256 := rfl
  rw [e0] at h0
  rw [e1] at h1
  unfold uN
  simp only [vn, Nat.zero_add]
  omega

theorem uV_ok (B : Nat → Nat) (A : Nat → Option Addr) (Cc : Nat → Nat) (k : Nat) : okG k (uV B A Cc) ↔ k ≤ 100 ∧ ∀ i, i < k → uD B i < 8 ∧ uS B i < 2048 := by
  unfold okG okW
  constructor
  · rintro ⟨h1, h2⟩
    refine ⟨h1, fun i hi => ?_⟩
    obtain ⟨⟨_, h3⟩, ⟨_, h4⟩, _⟩ := h2 i hi
    have h3' : ((uD B i : Nat) : Int) < 8 := h3
    have h4' : ((uS B i : Nat) : Int) < 2048 := h4
    omega
  · rintro ⟨h1, h2⟩
    refine ⟨h1, fun i hi => ?_⟩
    obtain ⟨h3, h4⟩ := h2 i hi
    refine ⟨⟨?_, ?_⟩, ⟨?_, ?_⟩, rfl⟩
    · show (0 : Int) ≤ ((uD B i : Nat) : Int)
      omega
    · show ((uD B i : Nat) : Int) < 8
      omega
    · show (0 : Int) ≤ ((uS B i : Nat) : Int)
      omega
    · show ((uS B i : Nat) : Int) < 2048
      omega

/-! The list as it grows. -/
def ulist (B : Nat → Nat) (A : Nat → Option Addr) (Cc : Nat → Nat) (k : Nat) : List Value := (List.range k).flatMap fun i => wcell (uV B A Cc i)

theorem ulist_succ (B : Nat → Nat) (A : Nat → Option Addr) (Cc : Nat → Nat) (k : Nat) : ulist B A Cc (k + 1) = ulist B A Cc k ++ wcell (uV B A Cc k) := by
  unfold ulist
  rw [List.range_succ, List.flatMap_append]
  simp

theorem ulist_len (B : Nat → Nat) (A : Nat → Option Addr) (Cc : Nat → Nat) : ∀ k, (ulist B A Cc k).length = k * 3
  | 0 => rfl
  | k + 1 => by
    rw [ulist_succ, List.length_append, ulist_len B A Cc k, wcell_len]
    omega

theorem ulist_at (B : Nat → Nat) (A : Nat → Option Addr) (Cc : Nat → Nat) : ∀ (k i j : Nat), i < k → j < 3 → (ulist B A Cc k)[i * 3 + j]? = (wcell (uV B A Cc i))[j]?
  | 0, i, j, hi, hj => by omega
  | k + 1, i, j, hi, hj => by
    rw [ulist_succ]
    by_cases hik : i = k
    · subst hik
      rw [List.getElem?_append_right (by rw [ulist_len]; omega), ulist_len, show i * 3 + j - i * 3 = j by omega]
    · rw [List.getElem?_append_left (by rw [ulist_len]; omega)]
      exact ulist_at B A Cc k i j (by omega) hj

theorem ulist_congr (B : Nat → Nat) (A A' : Nat → Option Addr) (Cc Cc' : Nat → Nat) (k : Nat) (h : ∀ i, i < k → A i = A' i ∧ Cc i = Cc' i) : ulist B A Cc k = ulist B A' Cc' k := by
  unfold ulist
  have : (List.range k).map (fun i => wcell (uV B A Cc i)) = (List.range k).map (fun i => wcell (uV B A' Cc' i)) := by
    apply List.map_congr_left
    intro i hi
    obtain ⟨h1, h2⟩ := h i (by simpa using hi)
    unfold uV
    rw [h1, h2]
  rw [List.flatMap_def, List.flatMap_def, this]

theorem own_ne {w : World} {b1 b2 e1 e2 s1 s2 n1 n2 g : Nat} {v1 v2 : Value} {x1 x2 : List Value} (h1 : w.ownsRow b1 e1 s1 v1 n1 x1) (h2 : w.ownsRow b2 e2 s2 v2 n2 x2) (hne : e1 ≠ e2) (hg : v1.ownBlock = some g) : v2.ownBlock ≠ some g := by
  intro hg2
  rcases h1.2 with ⟨rfl, _⟩ | ⟨g1, c1, cur1, rfl, _, hb1, _⟩
  · cases hg
  · rcases h2.2 with ⟨rfl, _⟩ | ⟨g2, c2, cur2, rfl, _, hb2, _⟩
    · cases hg2
    · have e1' : g1 = g := by simpa [Value.ownBlock] using hg
      have e2' : g2 = g := by simpa [Value.ownBlock] using hg2
      subst e1' e2'
      rw [hb1] at hb2
      injection hb2 with h3
      injection h3 with _ h4 _
      exact hne h4

theorem own_grown {w w' : World} {b e s n : Nat} {v : Value} {xs : List Value} {r : Option Nat} (h : w.ownsRow b e s v n xs) (hg : w.grownBy w' r) (hne : ∀ g, v.ownBlock = some g → r ≠ some g) : w'.ownsRow b e s v n xs := by
  refine ⟨h.1, ?_⟩
  rcases h.2 with h0 | ⟨g, cap, cur, hv, h1, hb, rest⟩
  · exact .inl h0
  · exact .inr ⟨g, cap, cur, hv, h1, (hg.block g (Array.getElem?_eq_some_iff.1 hb).1 (fun e => hne g (by rw [hv]; rfl) e.symm)).trans hb, rest⟩

/-- What holds when k writes are read. -/
def RInv (w : World) (L : Nat) (B : Nat → Nat) (k : Nat) (v : Value) (wr : World) : Prop := ∃ A Cc, wr.ownsRow w.heap.size 49 3 v k (ulist B A Cc k) ∧ (∀ i, i < k → wr.ownsRow w.heap.size 5 1 (.slice (A i) 64 (Cc i)) 64 (bl (uB B i) 64)) ∧ Below w.heap.size w wr ∧ (∀ i, i < k → uS B i < 2048) ∧ (k = 0 ∨ 2 + 69 * k ≤ L) ∧ k ≤ 101

theorem RInv.wl {w wr : World} {L k : Nat} {B : Nat → Nat} {v : Value} (h : RInv w L B k v wr) (hB : ∀ j, B j < 256) : ∃ A Cc a cap, v = .slice a k cap ∧ Wl wr a k (uV B A Cc) := by
  obtain ⟨A, Cc, ho, hd, _, hs, _, hk⟩ := h
  rcases ho.2 with ⟨rfl, rfl⟩ | ⟨g, cap, cur, rfl, hb, hg, hn, hm, hsz, htk⟩
  · exact ⟨A, Cc, none, 0, rfl, by unfold maxLen; omega, fun i hi => by omega⟩
  · refine ⟨A, Cc, some ⟨g, 0, none⟩, cap, rfl, by unfold maxLen; omega, fun i hi => ⟨g, 0, rfl, (Array.getElem?_eq_some_iff.1 hg).1, ?_⟩⟩
    have hc : ∀ j u, j < 3 → (wcell (uV B A Cc i))[j]? = some u → wr.cell? ⟨g, 0 + i * 3 + j, none⟩ = some u := by
      intro j u hj hu
      rw [cell_of_row wr g (0 + i * 3 + j) cur 49 (0, 0) hg, Nat.zero_add]
      have h3 := ulist_at B A Cc k i j hi hj
      rw [hu, ← htk, List.getElem?_take_of_lt (by omega), Array.getElem?_toList] at h3
      exact h3
    obtain ⟨a', cap', e, hl, hnil, hy, _⟩ := own_bytes (hd i hi)
    simp only [Value.slice.injEq] at e
    obtain ⟨rfl, _, rfl⟩ := e
    have hs' := hs i hi
    have hD : uD B i < 256 := by rw [uD_eq]; exact hB _
    refine ⟨hc 0 _ (by decide) rfl, hc 1 _ (by decide) rfl, hc 2 _ (by decide) rfl, ?_, ?_, hl, ?_, hnil, hy, fun j => hB _⟩
    · show i64ok ((uD B i : Nat) : Int)
      unfold i64ok
      omega
    · show i64ok ((uS B i : Nat) : Int)
      unfold i64ok
      omega
    · show 64 ≤ maxLen
      unfold maxLen
      omega

theorem run_app {o : Oper} {a : Act} {w w' : World} (t : TypeId) (s x : Operand) (ho : o.op = .call { callee := .builtin .append, args := #[s, x], argTypes := #[t, t] }) (vs vx : Value) (hs : a.eval s = vs) (hx : a.eval x = vx) (v' : Value) (ty : TypeId) (hty : o.type = ty)
    (hr : (Builtin.append_ #[t, t] ty #[vs, vx]).run Try.prog w = .ok v' w') : (execOp a.eval o).run Try.prog w = .ok (.value v') w' := by
  subst hty
  unfold execOp
  simp [ho, resolve, invoke, builtin, hs, hx, hr]

theorem run_bs_w {o : Oper} {a : Act} (x : Operand) (ho : o.op = .buildSlice 22 1 #[(0, x)]) (r : WV) (hx : a.eval x = .agg (wcell r).toArray) (w : World) :
    (execOp a.eval o).run Try.prog w = .ok (.value (.slice (some ⟨w.heap.size, 0, none⟩) 1 1)) (w.alloc (.cells (wcell r).toArray 49)) := by
  unfold execOp
  simp only [ho, List.map_toArray, List.map_cons, List.map_nil, hx]
  kernel_rfl

theorem app_w {w : World} {v : Value} {n b : Nat} {xs : List Value} (r : WV) (hown : w.ownsRow b 49 3 v n xs) (hB : b ≤ w.heap.size) (hn : n ≤ 100000) (ty : TypeId) :
    ∃ v' w', (Builtin.append_ #[22, 22] ty #[v, .slice (some ⟨w.heap.size, 0, none⟩) 1 1]).run Try.prog (w.alloc (.cells (wcell r).toArray 49)) = .ok v' w' ∧
      w'.ownsRow b 49 3 v' (n + 1) (xs ++ wcell r) ∧ (w.alloc (.cells (wcell r).toArray 49)).grownBy w' v.ownBlock := by
  obtain ⟨i0, hi0, hz0, hz1, hz2⟩ := info_parts Try.infoWr
  have hnew : Has (w.alloc (.cells (wcell r).toArray 49)) w.heap.size 49 (wcell r).toArray := Has.new _ _ _
  obtain ⟨v', w', h1, h2, h3, _⟩ := run_append_own (P := Try.prog) (w.alloc (.cells (wcell r).toArray 49)) b 22 ty 49 i0 _ 3 40 Try.underlying22 hi0 hz0 hz1 hz2 rfl (by decide) v n xs (own_alloc hown _) ⟨w.heap.size, 0, none⟩ 1 1 (wcell r) rfl (fun j u hj => by
    rw [Addr.add_mid, Nat.zero_add, hnew.cell j]
    simpa using hj) (wcell_one r) (by unfold maxLen; omega) (by omega) (by simp; omega)
  exact ⟨v', w', h1, h2, h3⟩

theorem app_b {w : World} (f : Nat → Nat) (A : Addr) (L C : Nat) (hb : Bytes w (some A) L f) (hL : L ≤ 1000) (ty : TypeId) :
    ∃ v' w', (Builtin.append_ #[23, 23] ty #[.slice (some ⟨w.heap.size, 0, none⟩) 0 0, .slice (some A) L C]).run Try.prog (w.alloc (.cells #[] 5)) = .ok v' w' ∧
      w'.ownsRow w.heap.size 5 1 v' L (bl f L) ∧ Below w.heap.size w w' := by
  obtain ⟨i0, hi0, hz0, hz1, hz2⟩ := info_parts Try.info5
  have hb2 : Bytes (w.alloc (.cells #[] 5)) (some A) L f := hb.below ((Below.refl _ _).alloc (Nat.le_refl _) _) (Nat.le_refl _)
  obtain ⟨v', w', h1, h2, h3, _⟩ := run_append_own (P := Try.prog) (w.alloc (.cells #[] 5)) w.heap.size 23 ty 5 i0 _ 1 1 Try.underlying23 hi0 hz0 hz1 hz2 rfl (by decide) _ 0 (bl f 0) (own_empty w f) A L C (bl f L) (bl_len f L) (fun j u hj => by
    have hjl : j < L := by
      have := (List.getElem?_eq_some_iff.1 hj).1
      rw [bl_len] at this
      omega
    rw [bl_get f L j hjl] at hj
    rcases hb2 with h0 | ⟨b, off, e, _, hc⟩
    · omega
    · obtain rfl : A = ⟨b, off, none⟩ := Option.some.inj e
      rw [Addr.add_mid, hc j hjl]
      exact hj) (bl_one f L) (by unfold maxLen; omega) (by omega) (by simp)
  refine ⟨v', w', h1, ?_, below_g ((Below.refl _ _).alloc (Nat.le_refl _) _) h3 (fun g e => by cases e; exact Nat.le_refl _)⟩
  rw [Nat.zero_add] at h2
  exact h2
end Go.Proofs.Ytbiicdehgogikaa
