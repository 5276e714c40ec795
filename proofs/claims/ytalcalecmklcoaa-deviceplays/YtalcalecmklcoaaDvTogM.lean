/- Moments: what a device is left with behind one, step by step; what is asked of Together. -/
import Derived.Test.YtalcalecmklcoaaDvBool
namespace Go.Proofs.Ytalcalecmklcoaa
open Go.ChangeShapes Go.WideShapes Go.ChangeAt Go.RowKit
set_option linter.unusedVariables false

/-- What a device holds behind the moment cut, all kept; and none kept. -/
def nowAt (s : DS) (cut : Int) : Nat → Nat → Nat := (momL cut s.log).foldl upF s.fst
def sureAt (s : DS) (cut : Int) : Nat → Nat → Nat := left (fun _ => false) 0 (momL cut s.log) s.fst

theorem momL_snoc (cut : Int) (l : List AE) (e : AE) : momL cut (l ++ [e]) = momL cut l ++ (if (if e.sync then decide (e.mo < cut) else decide (e.mo ≤ cut)) then [e] else []) := by
  unfold momL
  rw [List.filter_append]
  congr 1
  cases h : (if e.sync then decide (e.mo < cut) else decide (e.mo ≤ cut)) <;> simp [h]

theorem now_write (s : DS) (cut : Int) (i : Nat) (b : Nat → Nat) (mo : Int) : nowAt (wroteD s i b mo) cut = if mo ≤ cut then upF (nowAt s cut) ⟨i, b, false, false, mo⟩ else nowAt s cut := by
  show (momL cut (s.log ++ [⟨i, b, false, false, mo⟩])).foldl upF s.fst = _
  rw [momL_snoc]
  by_cases h : mo ≤ cut
  · rw [if_pos h, if_pos (by simpa using h), List.foldl_append]
    rfl
  · rw [if_neg h, if_neg (by simpa using h), List.append_nil]
    rfl

theorem sure_wrote (s : DS) (cut : Int) (i : Nat) (b : Nat → Nat) (mo : Int) : sureAt (wroteD s i b mo) cut = sureAt s cut := by
  show left _ 0 (momL cut (s.log ++ [⟨i, b, false, false, mo⟩])) s.fst = _
  rw [momL_snoc]
  by_cases h : mo ≤ cut
  · rw [if_pos (by simpa using h)]
    obtain ⟨n, e⟩ := left_snoc (fun _ => false) ⟨i, b, false, false, mo⟩ rfl (momL cut s.log) 0 s.fst
    rw [e]
    rfl
  · rw [if_neg (by simpa using h), List.append_nil]
    rfl

theorem now_sync (s : DS) (cut : Int) (mo : Int) : nowAt (syncD s mo) cut = nowAt s cut := by
  show (momL cut (s.log ++ [⟨0, fun _ => 0, true, false, mo⟩])).foldl upF s.fst = _
  rw [momL_snoc]
  by_cases h : mo < cut
  · rw [if_pos (by simpa using h), List.foldl_append]
    rw [List.foldl_cons, List.foldl_nil, upF_sync _ _ rfl]
    rfl
  · rw [if_neg (by simpa using h), List.append_nil]
    rfl

theorem sure_sync (s : DS) (cut : Int) (mo : Int) : sureAt (syncD s mo) cut = if mo < cut then nowAt s cut else sureAt s cut := by
  show left _ 0 (momL cut (s.log ++ [⟨0, fun _ => 0, true, false, mo⟩])) s.fst = _
  rw [momL_snoc]
  by_cases h : mo < cut
  · rw [if_pos h, if_pos (by simpa using h), left_ahead _ _ _ _ _ _ rfl]
    rfl
  · rw [if_neg h, if_neg (by simpa using h), List.append_nil]
    rfl

/-- A cut behind a moment that came: all kept, none kept. -/
theorem cutMo_full (s : DS) (clock cut : Nat) (L : Nat) (h : cut ≤ clock) (hL : wrs s.log ≤ L) : holds (cutMoD s clock (cut : Int) (keepOf (fun _ => true) L)) = nowAt s (cut : Int) := by
  have hm : max (min (cut : Int) (clock : Int)) 0 = (cut : Int) := by omega
  show left _ 0 (momL (max (min (cut : Int) (clock : Int)) 0) s.log) s.fst = _
  rw [hm]
  have hw : wrs (momL (cut : Int) s.log) ≤ wrs s.log := by
    unfold wrs momL
    rw [List.filter_filter]
    have e : ∀ l : List AE, (l.filter fun e => (!e.sync) && (if e.sync then decide (e.mo < (cut : Int)) else decide (e.mo ≤ (cut : Int)))).length ≤ (l.filter fun e => !e.sync).length := by
      intro l
      induction l with
      | nil => simp
      | cons d l ih =>
        cases hd : d.sync
        · cases hq : decide (d.mo ≤ (cut : Int)) <;> simp [hd, hq] <;> omega
        · simp [hd]
          exact ih
    exact e s.log
  exact left_all _ _ 0 s.fst (fun q h1 h2 => by unfold keepOf; simp; omega)

theorem cutMo_none (s : DS) (clock cut : Nat) (h : cut ≤ clock) (k : Nat → Bool) : holds (cutMoD s clock (cut : Int) (keepOf k 0)) = sureAt s (cut : Int) := by
  have hm : max (min (cut : Int) (clock : Int)) 0 = (cut : Int) := by omega
  have hk : keepOf k 0 = fun _ => false := by
    funext q
    unfold keepOf
    simp
  show left _ 0 (momL (max (min (cut : Int) (clock : Int)) 0) s.log) s.fst = _
  rw [hm, hk]
  rfl

theorem now_anew (n : Nat) (cut : Int) : nowAt (anewD (fresh n)) cut = (fun _ _ => 0) ∧ sureAt (anewD (fresh n)) cut = (fun _ _ => 0) := ⟨rfl, rfl⟩

def Out2 (F : Nat → Prop) (c k : Nat) : Prop := ¬ F k ∧ k ≠ c

/-- What is asked of Together, of a list of two that has a device alone, and of one that has two. -/
structure DevTog (D : DevRep) : Prop where
  one : ∀ (w : World) (p : Nat) (s : DS) (c m : Nat) (F : Nat → Prop) (g : Nat), Dev D w p s c m F → s.log.length ≤ 100000 → w.cell? ⟨g, 0, none⟩ = some (.pointer none) → w.cell? ⟨g, 1, none⟩ = some (ptr p) → Out2 F c g →
    Calls Try.prog 23 #[.slice (some ⟨g, 0, none⟩) 2 2] w fun e w' => e = .returned (.tuple #[]) ∧ Only F w w' ∧ ∃ c' F', Grew w F F' ∧ w.heap.size ≤ c' ∧ Dev D w' p (anewD s) c' 0 F'
  two : ∀ (w : World) (p1 p2 : Nat) (s1 s2 : DS) (c1 m1 c2 m2 : Nat) (F1 F2 : Nat → Prop) (g : Nat), Dev D w p1 s1 c1 m1 F1 → Dev D w p2 s2 c2 m2 F2 → (∀ k, F1 k → ¬ F2 k) → s1.log.length ≤ 100000 → s2.log.length ≤ 100000 → w.cell? ⟨g, 0, none⟩ = some (ptr p1) → w.cell? ⟨g, 1, none⟩ = some (ptr p2) → Out2 F1 c1 g → Out2 F2 c2 g →
    Calls Try.prog 23 #[.slice (some ⟨g, 0, none⟩) 2 2] w fun e w' => e = .returned (.tuple #[]) ∧ Only (fun k => F1 k ∨ F2 k) w w' ∧ ∃ c' F1' F2', Grew w F1 F1' ∧ Grew w F2 F2' ∧ (∀ k, F1' k → ¬ F2' k) ∧ w.heap.size ≤ c' ∧ Dev D w' p1 (anewD s1) c' 0 F1' ∧ Dev D w' p2 (anewD s2) c' 0 F2'
end Go.Proofs.Ytalcalecmklcoaa
