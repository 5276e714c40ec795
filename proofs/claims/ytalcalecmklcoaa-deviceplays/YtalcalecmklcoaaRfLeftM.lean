/- What the reference leaves, by places; append of a whole row to nothing: reckoning and runs. -/
import Derived.Test.YtalcalecmklcoaaRfPa
import Derived.Test.YtalcalecmklcoaaDwLeft
namespace Go.Proofs.Ytalcalecmklcoaa
open Go.ChangeShapes Go.WideShapes Go.ChangeAt Go.RowKit
set_option linter.unusedVariables false

/-- Which of some entries are left, by their places. -/
def rl (keep : Nat → Bool) (safe : Nat) : Nat → Nat → List AE → List AE
  | _, _, [] => []
  | i, k, e :: l => if e.sync then rl keep safe (i + 1) k l else if e.sure || decide (i < safe) then e :: rl keep safe (i + 1) k l else (if keep k then [e] else []) ++ rl keep safe (i + 1) (k + 1) l

theorem left_rl (keep : Nat → Bool) (safe : Nat) (l : List AE) : ∀ i k f, (∀ j e, l[j]? = some e → e.sync = false → decide (i + j < safe) = (l.drop (j + 1)).any (·.sync)) → (rl keep safe i k l).foldl upF f = left keep k l f := by
  induction l with
  | nil => intro i k f _; rfl
  | cons e l ih =>
    intro i k f h
    have h' : ∀ j d, l[j]? = some d → d.sync = false → decide (i + 1 + j < safe) = (l.drop (j + 1)).any (·.sync) := fun j d hd hs => by
      have := h (j + 1) d (by simpa using hd) hs
      rw [show i + (j + 1) = i + 1 + j by omega] at this
      simpa using this
    show (if e.sync then rl keep safe (i + 1) k l else if e.sure || decide (i < safe) then e :: rl keep safe (i + 1) k l else (if keep k then [e] else []) ++ rl keep safe (i + 1) (k + 1) l).foldl upF f = if e.sync then left keep k l f else if e.sure || l.any (·.sync) then left keep k l (upF f e) else left keep (k + 1) l (if keep k then upF f e else f)
    cases hs : e.sync
    · have h0 := h 0 e rfl hs
      rw [Nat.add_zero] at h0
      have h0' : decide (i < safe) = l.any (·.sync) := by simpa using h0
      simp only [Bool.false_eq_true, if_false]
      rw [h0']
      cases hc : (e.sure || l.any (·.sync))
      · simp only [Bool.false_eq_true, if_false]
        rw [List.foldl_append, ih _ _ _ h']
        cases keep k <;> rfl
      · simp only [if_true]
        rw [List.foldl_cons, ih _ _ _ h']
    · simp only [if_true]
      exact ih _ _ _ h'

theorem lastSy_any (l : List AE) : ∀ j e, l[j]? = some e → e.sync = false → decide (0 + j < lastSy l) = (l.drop (j + 1)).any (·.sync) := by
  induction l using rev_ind with
  | h0 => intro j e h; simp at h
  | h1 l d ih =>
    intro j e h hs
    rw [lastSy_snoc, Nat.zero_add]
    by_cases hj : j < l.length
    · rw [List.getElem?_append_left hj] at h
      rw [List.drop_append_of_le_length (by omega), List.any_append]
      cases hd : d.sync
      · simp only [Bool.false_eq_true, if_false]
        have := ih j e h hs
        rw [Nat.zero_add] at this
        rw [this]
        simp [hd]
      · simp only [if_true]
        simp [hd, hj]
    · have hjl : j = l.length := by
        have := (List.getElem?_eq_some_iff.1 h).1
        rw [List.length_append] at this
        simp at this
        omega
      subst hjl
      rw [List.getElem?_append_right (Nat.le_refl _), Nat.sub_self] at h
      simp only [List.getElem?_cons_zero, Option.some.injEq] at h
      subst h
      rw [hs]
      simp only [Bool.false_eq_true, if_false]
      have := lastSy_le l
      rw [List.drop_of_length_le (by simp)]
      simp
      omega

theorem left_ref (keep : Nat → Bool) (l : List AE) (f : Nat → Nat → Nat) : (rl keep (lastSy l) 0 0 l).foldl upF f = left keep 0 l f := left_rl keep (lastSy l) l 0 0 f (lastSy_any l)

theorem rl_step (keep : Nat → Bool) (safe i k : Nat) (l : List AE) (e : AE) (h : l[i]? = some e) : rl keep safe i k (l.drop i) = if e.sync then rl keep safe (i + 1) k (l.drop (i + 1)) else if e.sure || decide (i < safe) then e :: rl keep safe (i + 1) k (l.drop (i + 1)) else (if keep k then [e] else []) ++ rl keep safe (i + 1) (k + 1) (l.drop (i + 1)) := by
  have hk := (List.getElem?_eq_some_iff.1 h).1
  rw [List.drop_eq_getElem_cons hk, (List.getElem?_eq_some_iff.1 h).2]
  rfl

/-- A whole row is appended to nothing. -/
theorem app_all {w : World} {t e size bytes : Nat} {vs : Value} {m : Nat} {ys : List Value} {z : Value} (ht : Try.prog.underlying t = some (.slice e)) (hi : (Try.prog.info? e).map (fun i => (i.zero, i.size, i.bytes)) = some (some z, size, bytes)) (hzs : z.cells.size = size) (hsz : 0 < size) (hb : bytes ≤ 1000)
    (h : w.ownsRow 0 e size vs m ys) (h1 : ∀ u ∈ ys, u.oneCell' = true) (hm : m ≤ 100000) (ty : TypeId) (h0 : (Builtin.append_ #[t, t] ty #[.slice none 0 0, .slice none 0 0]).run Try.prog w = .ok (.slice none 0 0) w) :
    ∃ v' w', (Builtin.append_ #[t, t] ty #[.slice none 0 0, vs]).run Try.prog w = .ok v' w' ∧ w'.ownsRow w.heap.size e size v' m ys ∧ Below w.heap.size w w' := by
  obtain ⟨i0, hi0, hz0, hz1, hz2⟩ := info_parts hi
  rcases h.2 with ⟨rfl, rfl⟩ | ⟨g, cap, cur, rfl, _, hg, hn, hmx, hs, htk⟩
  · refine ⟨.slice none 0 0, w, h0, ⟨h.1, .inl ⟨rfl, rfl⟩⟩, Below.refl _ _⟩
  · have hmb : m * bytes ≤ 100000 * 1000 := Nat.mul_le_mul hm hb
    obtain ⟨v', w', hr, h2, h3, _, _⟩ := run_append_own_at (P := Try.prog) w w.heap.size t ty e i0 z size bytes ht hi0 hz0 hz1 hz2 hzs hsz (.slice none 0 0) 0 [] (World.ownsRow_nil _ _ _ _) ⟨g, 0, none⟩ m cap ys h.1 (fun j u hu => by
      have hj : j < m * size := by rw [← h.1]; exact (List.getElem?_eq_some_iff.1 hu).1
      rw [Addr.add_mid, Nat.zero_add, cell_of_row w g j cur e (0, 0) hg, ← Array.getElem?_toList]
      rw [← htk, List.getElem?_take_of_lt hj] at hu
      exact hu) h1 (by unfold maxLen; omega) (by rw [Nat.zero_add]; omega) (Nat.le_refl _)
    rw [Nat.zero_add, List.nil_append] at h2
    refine ⟨v', w', hr, h2, (Below.refl _ _).grown h3 (Nat.le_refl _) (fun k hk => by cases hk)⟩

theorem app_nil_r (w : World) (ty : TypeId) : (Builtin.append_ #[29, 29] ty #[.slice none 0 0, .slice none 0 0]).run Try.prog w = .ok (.slice none 0 0) w := by kernel_rfl
theorem app_nil_i (w : World) (ty : TypeId) : (Builtin.append_ #[30, 30] ty #[.slice none 0 0, .slice none 0 0]).run Try.prog w = .ok (.slice none 0 0) w := by kernel_rfl
end Go.Proofs.Ytalcalecmklcoaa
