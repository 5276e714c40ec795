/- The contract of octets.Split for every three ints. -/
import Derived.Test.YtcgoepbmbeimmabSplit
namespace Go.Proofs.Ytcgoepbmbeimmab
open Go.ChangeShapes Go.WideShapes Go.ChangeAt Go.RowKit

/-- The slice's elements are the pairs ps. -/
def PairRow (w : World) (ao : Option Addr) (ps : List (Nat × Nat)) : Prop :=
  ∀ i p, ps[i]? = some p → ∃ g, ao = some ⟨g, 0, none⟩ ∧ g < w.heap.size ∧ w.cell? ⟨g, i * 2, none⟩ = some (.int .i64 (p.1 : Int)) ∧ w.cell? ⟨g, i * 2 + 1, none⟩ = some (.int .i64 (p.2 : Int))

theorem PairRow.below {w w' : World} {ao : Option Addr} {ps : List (Nat × Nat)} {B : Nat} (h : PairRow w ao ps) (hb : Below B w w') (hB : w.heap.size ≤ B) : PairRow w' ao ps := by
  intro i p hp
  obtain ⟨g, h1, h2, h3, h4⟩ := h i p hp
  exact ⟨g, h1, Nat.lt_of_lt_of_le h2 hb.size, by rw [hb.cell (Nat.lt_of_lt_of_le h2 hB)]; exact h3, by rw [hb.cell (Nat.lt_of_lt_of_le h2 hB)]; exact h4⟩

theorem pairRow_of {w : World} {base e : Nat} {v : Value} {ps : List (Nat × Nat)} (h : w.ownsRow base e 2 v ps.length (pairs ps)) :
    ∃ ao c, v = .slice ao ps.length c ∧ PairRow w ao ps := by
  by_cases h0 : ps = []
  · subst h0
    rcases h.2 with ⟨rfl, _⟩ | ⟨g, cap, cur, rfl, _⟩
    · exact ⟨none, 0, rfl, fun i p hp => by simp at hp⟩
    · exact ⟨_, _, rfl, fun i p hp => by simp at hp⟩
  · have hp : 0 < ps.length := List.length_pos_iff.2 h0
    obtain ⟨g, cap, rfl, _, hlt⟩ := h.form hp
    refine ⟨_, _, rfl, ?_⟩
    intro i p hp
    have hi : i < ps.length := (List.getElem?_eq_some_iff.1 hp).1
    have := pairs_at ps i p hp
    exact ⟨g, rfl, hlt, by rw [h.cellAt (i * 2) (by omega)]; exact this.1, by rw [h.cellAt (i * 2 + 1) (by omega)]; exact this.2⟩

abbrev Dom (a n t : Int) : Prop := 0 ≤ a ∧ 0 ≤ n ∧ 1 ≤ t ∧ n ≤ 65536 ∧ a + n ≤ 2147483647

/-- The parts of any range: none where it is not cut. -/
def cut (a n t : Int) : List (Nat × Nat) := if Dom a n t then parts t.toNat a.toNat n.toNat else []

theorem split_err (a n t : Int) (w : World) (ha : I64 a) (hn : I64 n) (h : ¬ Dom a n t) :
    Calls Try.prog 7 #[.int .i64 a, .int .i64 n, .int .i64 t] w fun e w' => e = .returned (.slice none 0 0) ∧ w' = w := by
  unfold I64 at ha hn
  unfold Dom at h
  by_cases c1 : t < 1
  · clear h
    go_enter Try.func7, Try.ntmps7
    go_wp2
    go_ret
    exact ⟨rfl, rfl⟩
  · by_cases c2 : 65536 < n
    · clear h
      go_enter Try.func7, Try.ntmps7
      go_wp2
      go_ret
      exact ⟨rfl, rfl⟩
    · have hf : fitsB a n 2147483647 = false := by unfold fitsB; simp; omega
      clear h
      go_enter Try.func7, Try.ntmps7
      go_wp2_with (go_at_call 5; refine (fits_any _ _ _ _ (by unfold I64; omega) (by unfold I64; omega) (by unfold I64; omega)).mono ?_; rintro e w ⟨rfl, rfl⟩)
      go_ret
      exact ⟨rfl, rfl⟩

theorem split_any (a n t : Int) (w : World) (ha : I64 a) (hn : I64 n) (ht : I64 t) :
    Calls Try.prog 7 #[.int .i64 a, .int .i64 n, .int .i64 t] w fun e w' => ∃ ao c, e = .returned (.slice ao (cut a n t).length c) ∧ PairRow w' ao (cut a n t) ∧ Below w.heap.size w w' := by
  by_cases h : Dom a n t
  · have hc : cut a n t = parts t.toNat a.toNat n.toNat := by unfold cut; rw [if_pos h]
    rw [hc]
    unfold Dom at h
    unfold I64 at ht
    have := split_ok a.toNat n.toNat t.toNat w (by omega) (by omega) (by omega) (by omega)
    rw [Int.toNat_of_nonneg h.1, Int.toNat_of_nonneg h.2.1, Int.toNat_of_nonneg (show 0 ≤ t by omega)] at this
    refine this.mono ?_
    rintro e w' ⟨v, rfl, ho, hb⟩
    obtain ⟨ao, c, rfl, hp⟩ := pairRow_of ho
    exact ⟨ao, c, rfl, hp, hb⟩
  · have hc : cut a n t = [] := by unfold cut; rw [if_neg h]
    rw [hc]
    refine (split_err a n t w ha hn h).mono ?_
    rintro e w' ⟨rfl, rfl⟩
    exact ⟨none, 0, rfl, fun i p hp => by simp at hp, Below.refl _ _⟩

end Go.Proofs.Ytcgoepbmbeimmab
