/- aes: New. -/
import Derived.Test.YtcnlegnfecpdnaaAesExp4
import Derived.Test.YtcnlegnfecpdnaaAesExp8
import Derived.Test.YtcnlegnfecpdnaaAesInv
namespace Go.Proofs.Ytcnlegnfecpdnaa
open Go.ChangeShapes Go.WideShapes Go.ChangeAt Go.RowKit
set_option linter.unusedVariables false

theorem new_bad (a : Option Addr) (len cap : Nat) (w : World) (h1 : len ≠ 16) (h2 : len ≠ 32) (hl : len ≤ maxLen) :
    Calls Try.prog 9 #[.slice a len cap] w fun e w' => e = .returned (.tuple #[.pointer none, .int .i64 41]) ∧ w' = w := by
  unfold maxLen at hl
  have i1 : ((len : Int) != 16) = true := by simp; omega
  have i2 : ((len : Int) != 32) = true := by simp; omega
  clear h1 h2
  go_enter Try.func9, Try.ntmps9
  go_wp2
  go_ret2
  exact ⟨rfl, rfl⟩

theorem ccells_splice (K : Nat → Nat) (R : Nat) (B g : Nat → Nat) (o : Nat) (h : o + 4 ≤ 240) :
    ((ccells K R B).toList.take o ++ ((cellsN .u8 4 g).toList ++ (ccells K R B).toList.drop (o + (cellsN .u8 4 g).toList.length))).toArray = ccells (fun j => if j < o then K j else if j < o + 4 then g (j - o) else K j) R B := by
  apply Array.ext_getElem?
  intro j
  have hl : (ccells K R B).toList.length = 497 := by simp [ccells]
  have hm : (cellsN .u8 4 g).toList.length = 4 := by simp [cellsN]
  have hold : ∀ i, i < 497 → (ccells K R B).toList[i]? = some (ccell K R B i) := fun i hi => by
    rw [Array.getElem?_toList, ccells_get _ _ _ _ hi]
  have hnew : ∀ i, i < 4 → (cellsN .u8 4 g).toList[i]? = some (.int .u8 (g i : Nat)) := fun i hi => by rw [Array.getElem?_toList, cellsN_get _ _ _ _ hi]
  rw [List.getElem?_toArray, hm]
  by_cases hj : j < 497
  · rw [ccells_get _ _ _ _ hj]
    by_cases h1 : j < o
    · rw [List.getElem?_append_left (by simp [hl]; omega), List.getElem?_take_of_lt h1, hold j hj]
      unfold ccell
      simp only [if_pos (show j < 240 by omega), if_pos h1]
    · rw [List.getElem?_append_right (by simp [hl]; omega)]
      rw [show (List.take o (ccells K R B).toList).length = o by simp [hl]; omega]
      by_cases h2 : j < o + 4
      · rw [List.getElem?_append_left (by rw [hm]; omega), hnew _ (by omega)]
        unfold ccell
        simp only [if_pos (show j < 240 by omega), if_neg h1, if_pos h2]
      · rw [List.getElem?_append_right (by rw [hm]; omega), List.getElem?_drop, hm, hold _ (by omega), show o + 4 + (j - o - 4) = j by omega]
        unfold ccell
        by_cases h3 : j < 240
        · simp only [if_pos h3, if_neg h1, if_neg h2]
        · simp only [if_neg h3]
  · rw [show (ccells (fun j => if j < o then K j else if j < o + 4 then g (j - o) else K j) R B)[j]? = none by simp [ccells]; omega]
    simp [hl, hm]
    omega

/-- The first i words are laid. -/
def pk (F : Nat → Nat) (i j : Nat) : Nat := if j < 4 * i then F j else 0

theorem pk_next (F : Nat → Nat) (i : Nat) : (fun j => if j < i * 4 then pk F i j else if j < i * 4 + 4 then F (i * 4 + (j - i * 4)) else pk F i j) = pk F (i + 1) := by
  funext j
  unfold pk
  by_cases h1 : j < i * 4
  · rw [if_pos h1, if_pos (by omega), if_pos (by omega)]
  · rw [if_neg h1]
    by_cases h2 : j < i * 4 + 4
    · rw [if_pos h2, if_pos (by omega), show i * 4 + (j - i * 4) = j by omega]
    · rw [if_neg h2, if_neg (by omega), if_neg (by omega)]

theorem flat_zero (n : Nat) (key : Nat → Nat) : ∀ k j, 4 * k ≤ j → flat n key k j = 0
  | 0, _, _ => rfl
  | k + 1, j, h => by
    rw [flat_succ]
    show (if j < 4 * k then _ else if j < 4 * k + 4 then _ else flat n key k j) = 0
    rw [if_neg (by omega), if_neg (by omega)]
    exact flat_zero n key k j (by omega)

theorem pk_all (n : Nat) (key : Nat → Nat) (T : Nat) : pk (flat n key T) T = flat n key T := by
  funext j
  unfold pk
  split
  · rfl
  · rw [flat_zero _ _ _ _ (by omega)]

theorem run_quo4 {o : Oper} {a : Act} (x : Operand) (ho : o.op = .binOp .quo 3 x (.const (.int .i64 4)) 3) (k : Nat) (hx : a.eval x = .int .i64 (k : Nat)) (h : k ≤ 60) (w : World) :
    (execOp a.eval o).run Try.prog w = .ok (.value (.int .i64 ((k / 4 : Nat) : Int))) w := by
  have h1 : (k : Int) ≤ 60 := by omega
  have h0 : (0 : Int) ≤ (k : Int) := by omega
  unfold execOp
  simp only [ho, hx]
  go_simp
  rw [IntKind.wrap_i64]
  omega

theorem run_rem4 {o : Oper} {a : Act} (x : Operand) (ho : o.op = .binOp .rem 3 x (.const (.int .i64 4)) 3) (k : Nat) (hx : a.eval x = .int .i64 (k : Nat)) (h : k ≤ 60) (w : World) :
    (execOp a.eval o).run Try.prog w = .ok (.value (.int .i64 ((k % 4 : Nat) : Int))) w := by
  have h1 : (k : Int) ≤ 60 := by omega
  have h0 : (0 : Int) ≤ (k : Int) := by omega
  unfold execOp
  simp only [ho, hx]
  go_simp
  exact Int.tmod_eq_emod_of_nonneg h0

theorem slice_key (b o q : Nat) (w : World) (h : q < 16) : (Instr.sliceAt 23 (.pointer (some ⟨b, o, none⟩)) (some (.int .i64 (q : Int))) none none).run Try.prog w = .ok (.slice (some ⟨b, o + q, none⟩) (16 - q) (16 - q)) w := by
  have h5 : ¬ 16 = q := by omega
  simp [Instr.sliceAt, Instr.sureAddr, Instr.sliceBounds, run_underlying Try.underlying23, go_sem, Addr.add_mid, h5]
  intro h
  omega

theorem run_slice_key {o : Oper} {a : Act} (x l : Operand) (ho : o.op = .slice 23 x (some l) none none) (b off q : Nat) (hx : a.eval x = .pointer (some ⟨b, off, none⟩)) (hl : a.eval l = .int .i64 (q : Nat)) (h : q < 16) (w : World) :
    (execOp a.eval o).run Try.prog w = .ok (.value (.slice (some ⟨b, off + q, none⟩) (16 - q) (16 - q))) w := by
  unfold execOp
  simp only [ho, hx, hl, Option.map_some, Option.map_none, Sem.run_bind, slice_key b off q w h, Result.andThen_ok, Sem.run_pure]

theorem built_10 : Try.prog.built 57 [(1, .int .i64 10), (2, .agg (cellsN .u8 256 IB))] = some (ccells (fun _ => 0) 10 IB) := by kernel_rfl
theorem wpList_run {ops : Array Oper} {rest : List Oper} {o : Oper} {a : Act} {w : World} {Q : Exit → Act → World → Prop} (hgd : o.guard = none) (d : Option Tmp) (hd : o.dst = d) (v : Value)
    (hrun : (execOp a.eval o).run Try.prog w = .ok (.value v) w) (h : wpList Try.prog ops Q rest (a.put d v) w) : wpList Try.prog ops Q (o :: rest) a w :=
  wpList_plain hgd fun K hK => by
    subst hd
    unfold Oper.wp
    rw [hrun]
    exact hK _ _ h

theorem run_build_cipher {o : Oper} {a : Act} (R : Nat) (x y : Operand) (ho : o.op = .build 57 #[(1, x), (2, y)]) (hx : a.eval x = .int .i64 (R : Nat)) (hy : a.eval y = .agg (cellsN .u8 256 IB)) (hb : Try.prog.built 57 [(1, .int .i64 (R : Nat)), (2, .agg (cellsN .u8 256 IB))] = some (ccells (fun _ => 0) R IB)) (w : World) :
    (execOp a.eval o).run Try.prog w = .ok (.value (.agg (ccells (fun _ => 0) R IB))) w := by
  unfold execOp
  simp only [ho, hx, hy, List.map_toArray, List.map_cons, List.map_nil]
  rw [Sem.run_bind, run_build w 57 #[(1, .int .i64 (R : Nat)), (2, .agg (cellsN .u8 256 IB))] (ccells (fun _ => 0) R IB) hb]
  rfl

theorem built_14 : Try.prog.built 57 [(1, .int .i64 14), (2, .agg (cellsN .u8 256 IB))] = some (ccells (fun _ => 0) 14 IB) := by kernel_rfl

end Go.Proofs.Ytcnlegnfecpdnaa
