/- cache: three devices, a cache over them. -/
import Derived.Test.YtancebpjfbbcaaaCcTurn
import Derived.Test.YtancebpjfbbcaaaDwProg
import Derived.Test.YtancebpjfbbcaaaDwSmallM
import Derived.Test.YtancebpjfbbcaaaBasReg
import Derived.LaidEql
namespace Go.Proofs.Ytancebpjfbbcaaa
open Go.ChangeShapes Go.WideShapes Go.ChangeAt Go.RowKit Go.MapKept
set_option linter.unusedVariables false

/-- What is asked of devices besides. -/
structure DevSz (D : DevRep) : Prop where
  size : ∀ (w : World) (p : Nat) (s : DS) (c m : Nat) (F : Nat → Prop), Dev D w p s c m F → Calls Try.prog 66 #[ptr p] w fun e w' => e = .returned (.int .i64 (s.n : Nat)) ∧ Below w.heap.size w w'
  at_ : ∀ {w p s c F}, D.R w p s c F → F p ∧ ∃ cs t, Has w p t cs

theorem theSz : DevSz theRep where
  size := by
    rintro w p s c m F ⟨⟨bb, bs, bc, vw, vs, h, hF⟩, _⟩
    refine (size_r h).mono ?_
    rintro e w' ⟨rfl, rfl⟩
    exact ⟨rfl, Below.refl _ _⟩
  at_ := by
    rintro w p s c F ⟨bb, bs, bc, vw, vs, h, hF⟩
    exact ⟨(hF p).2 (.inl rfl), _, _, h.has⟩

/-- Three devices, apart. -/
structure Fam (D : DevRep) (B : Nat) (w0 w : World) (P : Nat → Nat) (S : Nat → DS) (C M : Nat → Nat) (F : Nat → Nat → Prop) : Prop where
  dev : ∀ i, i < 3 → In D B w0 w (P i) (S i) (C i) (M i) (F i)
  n : ∀ i, i < 3 → (S i).n = 6
  ap : ∀ i j, i < 3 → j < 3 → i ≠ j → ∀ k, (F i k ∨ k = C i) → ¬ (F j k ∨ k = C j)

variable {D : DevRep} {B : Nat} {w0 w w' : World} {P : Nat → Nat} {S : Nat → DS} {C M : Nat → Nat} {F : Nat → Nat → Prop}

theorem Fam.next (hD : DevOk D) (h : Fam D B w0 w P S C M F) (hb : Below w.heap.size w w') : Fam D B w0 w' P S C M F := ⟨fun i hi => (h.dev i hi).next hD hb, h.n, h.ap⟩

theorem Fam.inj (hZ : DevSz D) (h : Fam D B w0 w P S C M F) {i j : Nat} (hi : i < 3) (hj : j < 3) (e : P i = P j) : i = j := by
  refine Decidable.byContradiction fun hn => ?_
  have h1 := (hZ.at_ (h.dev i hi).dev.1).1
  have h2 := (hZ.at_ (h.dev j hj).dev.1).1
  exact h.ap i j hi hj hn _ (.inl h1) (.inl (e ▸ h2))

/-- The blocks of devices and clocks. -/
def FamB (C : Nat → Nat) (F : Nat → Nat → Prop) (k : Nat) : Prop := ∃ i, i < 3 ∧ (F i k ∨ k = C i)

def upN {α : Type} (f : Nat → α) (i : Nat) (x : α) : Nat → α := fun j => if j = i then x else f j
theorem upN_same {α : Type} (f : Nat → α) (i : Nat) (x : α) : upN f i x i = x := if_pos rfl
theorem upN_ne {α : Type} (f : Nat → α) {i j : Nat} (x : α) (h : j ≠ i) : upN f i x j = f j := if_neg h

/-- One of them is turned. -/
theorem Fam.turn (hD : DevOk D) (h : Fam D B w0 w P S C M F) {i : Nat} (hi : i < 3) {X F' : Nat → Prop} {s' : DS} {m' : Nat} (ho : Only X w w') (hX : ∀ k, X k → F i k ∨ k = C i) (hg : Grew w (F i) F') (hd : In D B w0 w' (P i) s' (C i) m' F') (hn : s'.n = 6) : Fam D B w0 w' P (upN S i s') C (upN M i m') (upN F i F') := by
  have hFl : ∀ j, j < 3 → ∀ k, F j k ∨ k = C j → k < w.heap.size := fun j hj k hk => hk.elim ((h.dev j hj).lt hD k) (fun e => e ▸ (h.dev j hj).clt hD)
  have hnew : ∀ k, (F' k ∨ k = C i) → (F i k ∨ k = C i) ∨ w.heap.size ≤ k := fun k hk => hk.elim (fun e => (hg k e).imp .inl id) (fun e => .inl (.inr e))
  refine ⟨fun j hj => ?_, fun j hj => ?_, fun a b ha hb hab k hk => ?_⟩
  · by_cases e : j = i
    · subst e
      rw [upN_same, upN_same, upN_same]
      exact hd
    · rw [upN_ne _ _ e, upN_ne _ _ e, upN_ne _ _ e]
      exact (h.dev j hj).only hD ho (fun k hk hx => h.ap j i hj hi e k (.inl hk) (hX k hx)) (fun hx => h.ap j i hj hi e _ (.inr rfl) (hX _ hx)) (fun k hx => (hX k hx).elim ((h.dev i hi).base k) (fun e => e ▸ (h.dev i hi).cb))
  · by_cases e : j = i
    · subst e
      rw [upN_same]
      exact hn
    · rw [upN_ne _ _ e]
      exact h.n j hj
  · by_cases ea : a = i
    · subst ea
      rw [upN_same] at hk
      rw [upN_ne _ _ (fun e => hab e.symm)]
      intro hb2
      rcases hnew k hk with h1 | h1
      · exact h.ap a b ha hb hab k h1 hb2
      · exact absurd (hFl b hb k hb2) (Nat.not_lt.2 h1)
    · rw [upN_ne _ _ ea] at hk
      by_cases eb : b = i
      · subst eb
        rw [upN_same]
        intro hb2
        rcases hnew k hb2 with h1 | h1
        · exact h.ap a b ha hb hab k hk h1
        · exact absurd (hFl a ha k hk) (Nat.not_lt.2 h1)
      · rw [upN_ne _ _ eb]
        exact h.ap a b ha hb hab k hk

/-- A cache, its devices. -/
structure CI (D : DevRep) (B : Nat) (w0 w : World) (cb : Nat) (P : Nat → Nat) (S : Nat → DS) (C M : Nat → Nat) (F : Nat → Nat → Prop) (dv : Value) (o : GV) (kv : Value) (ks : List GV) (GO GK : Nat → Prop) : Prop where
  fam : Fam D B w0 w P S C M F
  c : CAt w cb P dv o kv ks GO GK
  sep : ∀ k, GO k ∨ GK k → ¬ FamB C F k
  base : ∀ k, GO k ∨ GK k → B ≤ k

variable {cb : Nat} {dv kv : Value} {o : GV} {ks : List GV} {GO GK : Nat → Prop}

theorem CI.next (hD : DevOk D) (h : CI D B w0 w cb P S C M F dv o kv ks GO GK) (hb : Below w.heap.size w w') : CI D B w0 w' cb P S C M F dv o kv ks GO GK := ⟨h.fam.next hD hb, h.c.next hb, h.sep, h.base⟩

theorem CI.lt (hD : DevOk D) (h : CI D B w0 w cb P S C M F dv o kv ks GO GK) (k : Nat) (hk : (GO k ∨ GK k) ∨ FamB C F k) : k < w.heap.size := by
  rcases hk with hk | ⟨i, hi, hk | rfl⟩
  · exact h.c.lt k hk
  · exact (h.fam.dev i hi).lt hD k hk
  · exact (h.fam.dev i hi).clt hD

/-- Pointers to devices. -/
theorem eql_pd (hZ : DevSz D) (h : Fam D B w0 w P S C M F) {i j : Nat} (hi : i < 3) (hj : j < 3) : (binOp .eql 42 (ptr (P i)) (ptr (P j))).run Try.prog w = .ok (.bool (decide (i = j))) w := by
  obtain ⟨_, c1, t1, h1⟩ := hZ.at_ (h.dev i hi).dev.1
  obtain ⟨_, c2, t2, h2⟩ := hZ.at_ (h.dev j hj).dev.1
  have hs : (sameAddr ⟨P i, 0, none⟩ ⟨P j, 0, none⟩).run Try.prog w = .ok (decide (i = j)) w := by
    by_cases e : i = j
    · subst e
      rw [decide_eq_true rfl]
      exact run_sameAddr_same w _
    · rw [decide_eq_false e]
      exact run_sameAddr_other w (fun e2 => e (h.inj hZ hi hj (by injection e2))) h1 h2
  have hq : ∀ d, (Op.equalIn (d + 1) 42 (ptr (P i)) (ptr (P j))).run Try.prog w = .ok (decide (i = j)) w := fun d => by
    have hz : ∀ w, (sizeOf 92).run Try.prog w = .ok 9 w := fun w => by kernel_rfl
    simp [Op.equalIn, run_underlying Try.underlying42, hz, hs]
  simp only [binOp]
  simp [show Op.equal 42 (ptr (P i)) (ptr (P j)) = Op.equalIn (9999 + 1) 42 (ptr (P i)) (ptr (P j)) from rfl, hq 9999]

set_option maxRecDepth 100000 in
set_option maxHeartbeats 1000000 in
/-- Which device stands there: the first of them all. -/
theorem index_pd (hZ : DevSz D) (h : CI D B w0 w cb P S C M F dv o kv ks GO GK) {q : Nat} (hq : q < 3) : Calls Try.prog 67 #[dv, ptr (P q)] w fun e w' => e = .returned (.int .i64 (q : Nat)) ∧ w' = w := by
  obtain ⟨g, c, rfl, _, _, hc⟩ := h.c.devs
  have h0 := hc 0 (by decide)
  have h1 := hc 1 (by decide)
  have h2 := hc 2 (by decide)
  have q0 := eql_pd hZ h.fam hq (show 0 < 3 by decide)
  have q1 := eql_pd hZ h.fam hq (show 1 < 3 by decide)
  have q2 := eql_pd hZ h.fam hq (show 2 < 3 by decide)
  clear hc h
  have hC : ∀ k, k < 3 → w.cell? ⟨g, k, none⟩ = some (ptr (P k)) := fun k hk => by
    rcases (show k = 0 ∨ k = 1 ∨ k = 2 by omega) with rfl | rfl | rfl
    · exact h0
    · exact h1
    · exact h2
  have hQ : ∀ k, k < 3 → (binOp .eql 42 (ptr (P q)) (ptr (P k))).run Try.prog w = .ok (.bool (decide (q = k))) w := fun k hk => by
    rcases (show k = 0 ∨ k = 1 ∨ k = 2 by omega) with rfl | rfl | rfl
    · exact q0
    · exact q1
    · exact q2
  have HC := hidC hC
  have HQ := hidC hQ
  clear hC hQ h0 h1 h2 q0 q1 q2
  go_enter Try.func67, Try.ntmps67
  go_wp2
  go_loopw [8] (fun iv wr => ∃ k : Nat, k ≤ q ∧ iv = .int .i64 (k : Nat) ∧ wr = w)
    (fun iv _ => 3 - (intOf iv).toNat)
  case atStart => exact ⟨0, Nat.zero_le _, rfl, rfl⟩
  case round =>
    obtain ⟨k, hk, rfl, rfl⟩ := hrel
    have i0 : (k : Int) < 3 := by omega
    have i1 : (0 : Int) ≤ (k : Int) := by omega
    have i2 : (k : Int) < (3 : Int) := by omega
    have hk3 : k < 3 := by omega
    have ck := HC.out k hk3
    have qk := HQ.out k hk3
    cases hd : decide (q = k) with
    | true =>
      have e := hidC (show q = k from of_decide_eq_true hd)
      rw [hd] at qk
      clear hd
      go_wp2
      go_ret
      exact ⟨by rw [e.out]; rfl, rfl⟩
    | false =>
      have e : q ≠ k := of_decide_eq_false hd
      rw [hd] at qk
      go_wp2
      go_roundw
      case rel => exact ⟨k + 1, by omega, by go_num, trivial⟩
      case measure => simp [intOf]; omega
end Go.Proofs.Ytancebpjfbbcaaa
