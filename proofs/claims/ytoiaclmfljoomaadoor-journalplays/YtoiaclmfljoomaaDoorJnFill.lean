/- The law's fill. -/
import Derived.Test.YtoiaclmfljoomaaDoorJnCatR
namespace Go.Proofs.YtoiaclmfljoomaaDoor
open Go.ChangeShapes Go.WideShapes Go.ChangeAt Go.RowKit
set_option linter.unusedVariables false

variable {D : DevRep} {B : Nat} {w0 w w' : World} {j p c m n : Nat} {s : DS} {F : Nat → Prop} {rs : List RC} {fl : Nat} {G : Nat → Prop}

/-- Those of some records that are added. -/
def filled : List RC → Nat → List RC → List RC
  | _, _, [] => []
  | rs, N, l :: ls => if addErr rs N l.L = 0 then l :: filled (rs ++ [l]) N ls else filled rs N ls

theorem filled_snoc : ∀ (ls rs : List RC) (N : Nat) (x : RC), filled rs N (ls ++ [x]) = filled rs N ls ++ (if addErr (rs ++ filled rs N ls) N x.L = 0 then [x] else [])
  | [], rs, N, x => by
    show (if addErr rs N x.L = 0 then x :: [] else []) = [] ++ (if addErr (rs ++ []) N x.L = 0 then [x] else [])
    rw [List.append_nil, List.nil_append]
  | l :: ls, rs, N, x => by
    show (if addErr rs N l.L = 0 then l :: filled (rs ++ [l]) N (ls ++ [x]) else filled rs N (ls ++ [x])) = (if addErr rs N l.L = 0 then l :: filled (rs ++ [l]) N ls else filled rs N ls) ++ (if addErr (rs ++ (if addErr rs N l.L = 0 then l :: filled (rs ++ [l]) N ls else filled rs N ls)) N x.L = 0 then [x] else [])
    by_cases h : addErr rs N l.L = 0
    · rw [if_pos h, if_pos h, filled_snoc ls (rs ++ [l]) N x, List.append_assoc]
      rfl
    · rw [if_neg h, if_neg h, filled_snoc ls rs N x]

theorem filled_len : ∀ (ls rs : List RC) (N : Nat), (filled rs N ls).length ≤ ls.length
  | [], rs, N => Nat.le_refl _
  | l :: ls, rs, N => by
    unfold filled
    split
    · have := filled_len ls (rs ++ [l]) N
      simp only [List.length_cons]
      omega
    · have := filled_len ls rs N
      simp only [List.length_cons]
      omega

theorem filled_mem : ∀ (ls rs : List RC) (N : Nat) (r : RC), r ∈ filled rs N ls → r ∈ ls
  | [], rs, N, r, h => h
  | l :: ls, rs, N, r, h => by
    unfold filled at h
    split at h
    · rcases List.mem_cons.1 h with rfl | h2
      · exact List.mem_cons_self ..
      · exact List.mem_cons_of_mem _ (filled_mem ls _ N r h2)
    · exact List.mem_cons_of_mem _ (filled_mem ls rs N r h)

theorem addErr_bd (rs : List RC) (N L : Nat) : addErr rs N L = 91 ∨ addErr rs N L = 92 ∨ addErr rs N L = 0 := by
  unfold addErr
  split
  · exact .inl rfl
  · split
    · exact .inr (.inl rfl)
    · exact .inr (.inr rfl)

theorem addErr_zero {rs : List RC} {N L : Nat} (h : addErr rs N L = 0) : 1 ≤ L ∧ L ≤ 8192 ∧ endOf 0 rs + 8 + jrnd L ≤ N := by
  unfold addErr at h
  split at h
  · cases h
  · split at h
    · cases h
    · omega

/-- What fill holds behind i of them. -/
def FillI (D : DevRep) (B : Nat) (w0 w : World) (j p : Nat) (s : DS) (c m : Nat) (F : Nat → Prop) (rs : List RC) (fl : Nat) (G : Nat → Prop) (ls : List RC) (i : Nat) (v : Value) (wr : World) : Prop :=
  ∃ G1 X, JStep D B w0 w wr j p s c m F F (rs ++ filled rs (64 * s.n) (ls.take i)) fl G G1 ∧ OwnR B wr v (filled rs (64 * s.n) (ls.take i)) X ∧ Apt F c G1 X ∧ ∀ k, X k → w.heap.size ≤ k

theorem JStep.trans {w1 w2 : World} {s1 s2 : DS} {m1 m2 : Nat} {F1 F2 : Nat → Prop} {rs1 rs2 : List RC} {fl1 fl2 : Nat} {G1 G2 : Nat → Prop} (h1 : JStep D B w0 w w1 j p s1 c m1 F F1 rs1 fl1 G G1) (h2 : JStep D B w0 w1 w2 j p s2 c m2 F1 F2 rs2 fl2 G1 G2) : JStep D B w0 w w2 j p s2 c m2 F F2 rs2 fl2 G G2 :=
  ⟨h2.jin, h1.only.trans h2.only (fun x hx h => by
      rcases h with (h3 | h3) | h3
      · exact (h1.grewF x h3).elim (fun h4 => .inl (.inl h4)) (fun h4 => by omega)
      · exact .inl (.inr h3)
      · exact (h1.grewG x h3).elim (fun h4 => .inr h4) (fun h4 => by omega)),
    fun k hk => (h2.grewF k hk).elim (fun h3 => h1.grewF k h3) (fun h3 => .inr (Nat.le_trans h1.only.size h3)), fun k hk => (h2.grewG k hk).elim (fun h3 => h1.grewG k h3) (fun h3 => .inr (Nat.le_trans h1.only.size h3))⟩

/-- Behind a step, what the law's own lists turn. -/
theorem JStep.own {w1 w2 : World} {s1 : DS} {m1 : Nat} {F1 : Nat → Prop} {rs1 : List RC} {fl1 : Nat} {G1 X : Nat → Prop} (h1 : JStep D B w0 w w1 j p s1 c m1 F F1 rs1 fl1 G G1) (hD : DevOk D) (ho : Only X w1 w2) (hX : ∀ k, X k → w.heap.size ≤ k) (hB : B ≤ w.heap.size) (ha : Apt F1 c G1 X) : JStep D B w0 w w2 j p s1 c m1 F F1 rs1 fl1 G G1 :=
  ⟨h1.jin.own hD ho (fun k hk => Nat.le_trans hB (hX k hk)) ha, h1.only.trans ho (fun x hx h => by have := hX x h; omega), h1.grewF, h1.grewG⟩

/-- What fill answers and leaves. -/
def FillR (D : DevRep) (B : Nat) (w0 w : World) (j p : Nat) (s : DS) (c m : Nat) (F : Nat → Prop) (rs : List RC) (fl : Nat) (G : Nat → Prop) (ls : List RC) (e : Ending) (w' : World) : Prop :=
  ∃ v, e = .returned v ∧ FillI D B w0 w j p s c m F rs fl G ls 40 v w'

end Go.Proofs.YtoiaclmfljoomaaDoor
