/- CacheSeen: plain mathematics of Apply: what was written, what is not safe. -/
import Derived.Test.YtancebpjfbbcaaaCcReadS
namespace Go.Proofs.Ytancebpjfbbcaaa
open Go.ChangeShapes Go.WideShapes Go.ChangeAt Go.RowKit Go.MapKept
set_option linter.unusedVariables false

/-- How many writes the three devices took. -/
def tot (S : Nat → DS) : Nat := wrs (S 0).log + wrs (S 1).log + wrs (S 2).log

theorem wrs_wr {s : DS} (h : Wl6 s) {i : Nat} (hi : i < 6) (b : Nat → Nat) (m : Nat) : wrs (wrS s (i : Nat) b 64 m).log = wrs s.log + 1 := by
  unfold wrS
  rw [if_pos (wr0 h hi)]
  show wrs (s.log ++ [_]) = _
  rw [wrs_snoc]
  rfl

theorem wrs_sy (s : DS) (m : Nat) : wrs (syS s m).log = wrs s.log := by
  unfold syS
  split
  · rfl
  · show wrs (s.log ++ [_]) = _
    rw [wrs_snoc]
    rfl

theorem pend_sy {s : DS} (h : s.dead = false) (m : Nat) : pend (syS s m).log = 0 := by
  unfold syS
  rw [if_neg (by rw [h]; simp)]
  show pend (s.log ++ [_]) = 0
  rw [pend_snoc]
  rfl

theorem tot_up (S : Nat → DS) {d : Nat} (hd : d < 3) (s : DS) (h : wrs s.log = wrs (S d).log + 1) : tot (upN S d s) = tot S + 1 := by
  unfold tot
  rcases (by omega : d = 0 ∨ d = 1 ∨ d = 2) with rfl | rfl | rfl
  · rw [upN_same, upN_ne _ _ (by decide), upN_ne _ _ (by decide), h]
    omega
  · rw [upN_same, upN_ne _ _ (by decide), upN_ne _ _ (by decide), h]
    omega
  · rw [upN_same, upN_ne _ _ (by decide), upN_ne _ _ (by decide), h]
    omega

theorem tot_fold (l : List Wr) (x : (Nat → DS) × (Nat → Nat)) (hx : ∀ i, Wl6 (x.1 i)) (hl : ∀ r ∈ l, r.d < 3 ∧ r.s < 6) : tot (l.foldl apS x).1 = tot x.1 + l.length := by
  induction l generalizing x with
  | nil => rfl
  | cons r l ih =>
    obtain ⟨h1, h2⟩ := hl r (List.mem_cons_self ..)
    have hw := wrs_wr (hx r.d) h2 r.f (x.2 r.d)
    rw [List.foldl_cons, ih _ (fun i => ?_) (fun q hq => hl q (List.mem_cons_of_mem _ hq)), List.length_cons]
    · show tot (upN x.1 r.d _) + _ = _
      rw [tot_up _ h1 _ hw]
      omega
    · show Wl6 (upN x.1 r.d _ i)
      by_cases e : i = r.d
      · rw [e, upN_same]
        exact wl_wr (hx _) h2 _ _
      · rw [upN_ne _ _ e]
        exact hx i

theorem apD_tot {S : Nat → DS} {M : Nat → Nat} {L : List (List Wr)} (hx : ∀ i, Wl6 (S i)) (hl : ∀ r ∈ L.flatten, r.d < 3 ∧ r.s < 6) : tot (apD S M L) = tot S + L.flatten.length := by
  have h := tot_fold L.flatten (S, M) hx hl
  rw [← h]
  unfold tot apD syN
  simp only [Nat.reduceLT, if_true, wrs_sy]

theorem apD_pend {S : Nat → DS} {M : Nat → Nat} {L : List (List Wr)} (hx : ∀ i, Wl6 (S i)) (hl : ∀ r ∈ L.flatten, r.s < 6) {i : Nat} (hi : i < 3) : pend (apD S M L i).log = 0 := by
  unfold apD syN
  rw [if_pos hi]
  exact pend_sy (apl_wl L.flatten (S, M) hx hl i).1 _

theorem sy_len (s : DS) (m : Nat) : (syS s m).log.length ≤ s.log.length + 1 := by
  unfold syS
  split
  · omega
  · show (s.log ++ [_]).length ≤ _
    rw [List.length_append, List.length_singleton]
    exact Nat.le_refl _

theorem apD_len (S : Nat → DS) (M : Nat → Nat) (L : List (List Wr)) (i : Nat) : (apD S M L i).log.length ≤ (S i).log.length + L.flatten.length + 1 := by
  have h := (apl_le L.flatten (S, M) i).2
  unfold apD syN
  split
  · exact Nat.le_trans (sy_len _ _) (by simp only at h; omega)
  · simp only at h
    omega

theorem run_add2S {o : Oper} {a : Act} (x y : Operand) (ho : o.op = .binOp .add 3 x y 3) (p q r : Nat) (hx : a.eval x = .int .i64 (p : Nat)) (hy : a.eval y = .int .i64 (q : Nat)) (hr : r = p + q) (h : r ≤ 1000000) (w : World) : (execOp a.eval o).run Try.prog w = .ok (.value (.int .i64 (r : Nat))) w := by
  subst hr
  rw [Int.natCast_add]
  have h1 : (p : Int) + (q : Int) ≤ 1000000 := by omega
  have h2 : (0 : Int) ≤ (p : Int) := by omega
  have h3 : (0 : Int) ≤ (q : Int) := by omega
  generalize (p : Int) = y1 at hx h1 h2 ⊢
  generalize (q : Int) = z1 at hy h1 h3 ⊢
  unfold execOp
  simp only [ho, hx, hy]
  go_simp
  exact IntWalk.i64_in _ ⟨by omega, by omega⟩

theorem run_neqS {o : Oper} {a : Act} (x y : Operand) (ho : o.op = .binOp .neq 3 x y 3) (n : Int) (hx : a.eval x = .int .i64 n) (hy : a.eval y = .int .i64 n) (w : World) : (execOp a.eval o).run Try.prog w = .ok (.value (.bool false)) w := by
  unfold execOp
  simp only [ho, hx, hy]
  go_simp
end Go.Proofs.Ytancebpjfbbcaaa
