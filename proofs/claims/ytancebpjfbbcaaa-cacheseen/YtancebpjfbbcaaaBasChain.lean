/- In a region that draws its order: one is taken first for which the last one waits by way of others. -/
import Derived.Test.YtancebpjfbbcaaaBasReg
namespace Go.Proofs.Ytancebpjfbbcaaa
open Go.ChangeShapes Go.WideShapes Go.ChangeAt Go.RowKit
set_option linter.unusedVariables false

section
variable {P : Program} {ops : Array Oper} {Q : Exit → Act → World → Prop} {md : Region.Mode} {S : World → Prop} {m : Nat}

theorem not_ready {k i : Nat} {listed : Array Bool} (hw : waitsFor md ops k i = true) (hi : listed.getD i true = false) : k ∉ Region.ready md ops listed := by
  intro hm
  obtain ⟨_, o, ho, hall⟩ := mem_ready.1 hm
  simp only [waitsFor, ho, Option.any_some, Array.any_eq_true', Bool.and_eq_true, beq_iff_eq] at hw
  obtain ⟨e, he, hb, rfl⟩ := hw
  have h1 := hall e he hb
  by_cases hlt : e.on < listed.size
  · simp [hlt] at hi h1
    rw [hi] at h1
    cases h1
  · simp [Array.getElem?_eq_none (Nat.not_lt.1 hlt)] at h1

/-- Each waits for the one ahead of it. -/
def chainB (md : Region.Mode) (ops : Array Oper) : Nat → List Nat → Bool
  | _, [] => true
  | i, k :: ks => waitsFor md ops k i && chainB md ops k ks

theorem chain_none {listed : Array Bool} : ∀ {ks : List Nat} {i m : Nat}, chainB md ops i (ks ++ [m]) = true → listed.getD i true = false → (∀ k ∈ ks, listed.getD k true = false) → m ∉ Region.ready md ops listed ∧ ∀ k ∈ ks, k ∉ Region.ready md ops listed
  | [], i, m, hc, hi, hk => by
    have hc' : (waitsFor md ops m i && true) = true := hc
    rw [Bool.and_true] at hc'
    exact ⟨not_ready hc' hi, fun k hk => by cases hk⟩
  | k :: ks, i, m, hc, hi, hk => by
    have hc' : (waitsFor md ops k i && chainB md ops k (ks ++ [m])) = true := hc
    rw [Bool.and_eq_true] at hc'
    obtain ⟨h1, h2⟩ := chain_none hc'.2 (hk k (List.mem_cons_self ..)) (fun q hq => hk q (List.mem_cons_of_mem _ hq))
    refine ⟨h1, fun q hq => ?_⟩
    rcases List.mem_cons.1 hq with rfl | h3
    · exact not_ready hc'.1 hi
    · exact h2 q h3

theorem AnyL.frontC {i : Nat} {oi : Oper} {v : Value} (ks : List Nat) (hi : ops[i]? = some oi) (him : i ≠ m) (hch : chainB md ops i (ks ++ [m]) = true) (hsel : ∀ (j : Nat) (o : Oper) cs b, ops[j]? = some o → o.op ≠ .select cs b)
    (hQ : ∀ c a w, Q (.panic c) (a.put oi.dst v) w → Q (.panic c) a w) : ∀ (n : Nat) (listed : Array Bool) (a : Act) (w : World), (∀ k ∈ ks, listed.getD k true = false) →
      (∀ j oj, ops[j]? = some oj → j ≠ i → listed.getD j true = false → (∀ e ∈ oj.after, Region.binds md e = true → e.on ≠ i) → oi.apart ops oj = true) →
      i ∈ Region.ready md ops listed → YieldsIf P ops S oi v a → S w → AnyL P md ops Q S m n (listed.setIfInBounds i true) (a.put oi.dst v) w → AnyL P md ops Q S m (n + 1) listed a w
  | n, listed, a, w, hun, hfree, hr, hy, hS, H => by
    refine ⟨fun h => absurd (h ▸ hr) (by simp), fun j hj => ?_⟩
    by_cases hji : j = i
    · subst hji
      exact hy.wpOp hi hS ⟨fun _ => hS, H⟩
    obtain ⟨hm0, hk0⟩ := chain_none hch (mem_ready.1 hr).1 hun
    have hjm : j ≠ m := fun e => hm0 (e ▸ hj)
    have hj' := ready_mono hj hji
    cases n with
    | zero => exact absurd (H.1 ▸ hj') (by simp)
    | succ n =>
      obtain ⟨hjun, oj, hoj, hall⟩ := mem_ready.1 hj
      have hno : ∀ e ∈ oj.after, Region.binds md e = true → e.on ≠ i := by
        intro e he hb heq
        have h1 := hall e he hb
        have h0 := (mem_ready.1 hr).1
        subst heq
        by_cases hlt : e.on < listed.size
        · simp [hlt] at h0 h1
          rw [h0] at h1
          cases h1
        · simp [Array.getElem?_eq_none (Nat.not_lt.1 hlt)] at h1
      refine wpOp_mono ?_ (wpOp_putIf hoj (hfree j oj hoj hji hjun hno) (fun cs b => hsel i oi cs b hi) (fun cs b => hsel j oj cs b hoj) hQ hy (H.2 j hj'))
      rintro a' w' ⟨hy', hS', H'⟩
      refine ⟨hS', AnyL.frontC ks hi him hch hsel hQ n (listed.setIfInBounds j true) a' w' (fun k hk => ?_) (fun k ok hk hki hun hn => hfree k ok hk hki ?_ hn) (ready_mono hr (Ne.symm hji)) hy' (hS' hjm) ?_⟩
      · have hjk : j ≠ k := fun e => hk0 k hk (e ▸ hj)
        rw [getD_set_ne true hjk]
        exact hun k hk
      · by_cases hjk : j = k
        · subst hjk; exact hjun
        · rwa [getD_set_ne true hjk] at hun
      · rw [Array.setIfInBounds_comm _ _ hji]
        exact H'

/-- One that yields in every world that meets S is taken first; the last one waits for it by way of ks. -/
theorem takeC {oi : Oper} (i : Nat) (ks : List Nat) (d : Option Tmp) (v : Value) {n : Nat} {listed : Array Bool} {a : Act} {w : World} (hi : ops[i]? = some oi) (hd : oi.dst = d) (him : i ≠ m) (hch : chainB md ops i (ks ++ [m]) = true) (hun : ks.all (fun k => listed.getD k true == false) = true)
    (hs : Region.noSelect ops = true) (hf : Region.free md ops listed i = true) (hr : (Region.ready md ops listed).contains i = true)
    (hQ : ∀ c a w, Q (.panic c) (a.put d v) w → Q (.panic c) a w) (hw : Region.wanted oi (yielded ops a.tmps) = true) (hy : ∀ w, S w → (execOp a.eval oi).run P w = .ok (.value v) w) (hS : S w)
    (h : AnyL P md ops Q S m n (listed.setIfInBounds i true) (a.put d v) w) : AnyL P md ops Q S m (n + 1) listed a w := by
  subst hd
  refine AnyL.frontC ks hi him hch (Region.noSelect_spec hs) hQ n listed a w (fun k hk => ?_) (Region.free_spec hi hf) (by simpa using hr) (.inl ⟨hw, hy⟩) hS h
  have := List.all_eq_true.1 hun k hk
  simpa using this

end
end Go.Proofs.Ytancebpjfbbcaaa
