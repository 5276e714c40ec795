/- The round keys' words, as the document has them. -/
import Derived.Test.YtcnlegnfecpdnaaRegLast
import Derived.Laws.MakeOwn
import Derived.BigRegion
namespace Go.Proofs.Ytcnlegnfecpdnaa
open Go.ChangeShapes Go.WideShapes Go.ChangeAt Go.RowKit
set_option linter.unusedVariables false

/-- x to the m. -/
def pw : Nat → Nat
  | 0 => 1
  | m + 1 => dbl (pw m)

theorem pw_succ (m : Nat) : pw (m + 1) = dbl (pw m) := rfl

theorem pw_lt : ∀ m, pw m < 256
  | 0 => by decide
  | m + 1 => dbl_lt _ (pw_lt m)

/-- What is laid over the word k - n. -/
def tw (n : Nat) (W : Nat → Nat) (k r : Nat) : Nat :=
  if k % n = 0 then SB (W (4 * (k - 1) + (r + 1) % 4)) ^^^ (if r = 0 then pw (k / n - 1) else 0)
  else if n = 8 ∧ k % n = 4 then SB (W (4 * (k - 1) + r)) else W (4 * (k - 1) + r)

def nw (n : Nat) (key W : Nat → Nat) (k r : Nat) : Nat := if k < n then key (4 * k + r) else W (4 * (k - n) + r) ^^^ tw n W k r

/-- The bytes of the first k words; noughts behind them. -/
def flat (n : Nat) (key : Nat → Nat) : Nat → Nat → Nat
  | 0 => fun _ => 0
  | k + 1 => fun j => if j < 4 * k then flat n key k j else if j < 4 * k + 4 then nw n key (flat n key k) k (j - 4 * k) else flat n key k j

theorem flat_succ (n : Nat) (key : Nat → Nat) (k : Nat) : flat n key (k + 1) = fun j => if j < 4 * k then flat n key k j else if j < 4 * k + 4 then nw n key (flat n key k) k (j - 4 * k) else flat n key k j := rfl

/-- A word of the key. -/
theorem flat_low (n : Nat) (key : Nat → Nat) (k : Nat) (h : k < n) : (fun j => if j < k * 4 then flat n key k j else if j < k * 4 + 4 then key (k * 4 + (j - k * 4)) else flat n key k j) = flat n key (k + 1) := by
  rw [flat_succ]
  funext j
  rw [Nat.mul_comm k 4]
  unfold nw
  rw [if_pos h]

theorem tw_lt (n : Nat) (W : Nat → Nat) (hW : ∀ j, W j < 256) (k r : Nat) : tw n W k r < 256 := by
  unfold tw
  split
  · refine xor8 (SB_lt _ (hW _)) ?_
    split
    · exact pw_lt _
    · decide
  · split
    · exact SB_lt _ (hW _)
    · exact hW _

theorem flat_lt (n : Nat) (key : Nat → Nat) (hk : ∀ j, j < 4 * n → key j < 256) : ∀ k j, flat n key k j < 256
  | 0, _ => by show 0 < 256; decide
  | k + 1, j => by
    show (if j < 4 * k then flat n key k j else if j < 4 * k + 4 then nw n key (flat n key k) k (j - 4 * k) else flat n key k j) < 256
    split
    · exact flat_lt n key hk k j
    · split
      · unfold nw
        split
        · exact hk _ (by omega)
        · exact xor8 (flat_lt n key hk k _) (tw_lt n _ (flat_lt n key hk k) k _)
      · exact flat_lt n key hk k j

theorem slice_low (b o cap L q : Nat) (w : World) (h1 : q < L) (h2 : L ≤ cap) : (Instr.sliceAt 22 (.slice (some ⟨b, o, none⟩) L cap) (some (.int .i64 (q : Int))) none none).run Try.prog w = .ok (.slice (some ⟨b, o + q, none⟩) (L - q) (cap - q)) w := by
  have i5 : ¬ cap = q := by omega
  simp [Instr.sliceAt, Instr.slice, Instr.sliceBounds, run_underlying Try.underlying22, go_sem, i5]
  intro h
  omega

theorem run_slice_low {o : Oper} {a : Act} (x l : Operand) (ho : o.op = .slice 22 x (some l) none none) (b off L cap q : Nat) (hx : a.eval x = .slice (some ⟨b, off, none⟩) L cap) (hl : a.eval l = .int .i64 (q : Nat)) (h1 : q < L) (h2 : L ≤ cap) (w : World) :
    (execOp a.eval o).run Try.prog w = .ok (.value (.slice (some ⟨b, off + q, none⟩) (L - q) (cap - q))) w := by
  unfold execOp
  simp only [ho, hx, hl, Option.map_some, Option.map_none, Sem.run_bind, slice_low b off cap L q w h1 h2, Result.andThen_ok, Sem.run_pure]

theorem slice_word (b o : Nat) (w : World) : (Instr.sliceAt 58 (.pointer (some ⟨b, o, none⟩)) none none none).run Try.prog w = .ok (.slice (some ⟨b, o, none⟩) 4 4) w := by
  simp [Instr.sliceAt, Instr.sureAddr, Instr.sliceBounds, run_underlying Try.underlying58, go_sem]

theorem run_slice_word {o : Oper} {a : Act} (x : Operand) (ho : o.op = .slice 58 x none none none) (b off : Nat) (hx : a.eval x = .pointer (some ⟨b, off, none⟩)) (w : World) :
    (execOp a.eval o).run Try.prog w = .ok (.value (.slice (some ⟨b, off, none⟩) 4 4)) w := by
  unfold execOp
  simp only [ho, hx, Option.map_none, Sem.run_bind, slice_word b off w, Result.andThen_ok, Sem.run_pure]

theorem run_indexAddrS {o : Oper} {a : Act} (ty : TypeId) (x i : Operand) (ho : o.op = .indexAddr ty x i) (g off k n cap sz : Nat) (e : TypeId) (hx : a.eval x = .slice (some ⟨g, off, none⟩) n cap) (hi : a.eval i = .int .i64 (k : Nat))
    (hu : Try.prog.underlying ty = some (.slice e)) (hs : (Try.prog.info? e).map (·.size) = some sz) (hk : k < n) (w : World) : (execOp a.eval o).run Try.prog w = .ok (.value (.pointer (some ⟨g, off + k * sz, none⟩))) w := by
  unfold execOp
  cases hq : Try.prog.info? e with
  | none => simp [hq] at hs
  | some inf =>
    have hz : inf.size = sz := by simpa [hq] using hs
    simp only [ho, hx, hi]
    simp [Instr.indexAt, Instr.sureAddr, run_underlying hu, asIntOf, sizeOf, typeInfo, hq, hz, Addr.add_mid, go_sem]
    intro h
    omega

theorem run_mul4 {o : Oper} {a : Act} (x : Operand) (ho : o.op = .binOp .mul 3 x (.const (.int .i64 4)) 3) (k : Nat) (hx : a.eval x = .int .i64 (k : Nat)) (h : k ≤ 60) (w : World) :
    (execOp a.eval o).run Try.prog w = .ok (.value (.int .i64 ((k * 4 : Nat) : Int))) w := by
  have h1 : (k : Int) ≤ 60 := by omega
  have h0 : (0 : Int) ≤ (k : Int) := by omega
  have hw : IntKind.i64.wrap ((k : Int) * 4) = (k : Int) * 4 := by rw [IntKind.wrap_i64]; omega
  unfold execOp
  simp only [ho, hx]
  go_simp

theorem run_copy_op {o : Oper} {a : Act} {w : World} (d s : Operand) (dT sT : TypeId)
    (ho : o.op = .call { callee := .builtin .copy, args := #[d, s], argTypes := #[dT, sT] }) (elem : TypeId) (hu : Try.prog.underlying dT = some (.slice elem)) (hsz : (Try.prog.info? elem).map (·.size) = some 1)
    (g off dLen dCap : Nat) (ad : Addr) (sLen sCap : Nat) (hd : a.eval d = .slice (some ⟨g, off, none⟩) dLen dCap) (hs : a.eval s = .slice (some ad) sLen sCap)
    (cur : Array Value) (t : TypeId) (hg : Has w g t cur) (cs : List Value) (hn : cs.length = Nat.min sLen dLen)
    (hsrc : ∀ j v, cs[j]? = some v → w.cell? (ad.add j) = some v) (hfit : off + cs.length ≤ cur.size) (h1 : ∀ v ∈ cs, v.oneCell' = true) :
    (execOp a.eval o).run Try.prog w = .ok (.value (goInt cs.length)) (w.setRow g (cur.toList.take off ++ (cs ++ cur.toList.drop (off + cs.length))).toArray) := by
  have hrun := run_copy_row (P := Try.prog) w dT sT o.type elem g off dLen dCap ad sLen sCap cur t cs hu hsz hg hn hsrc hfit h1
  simp [execOp, ho, resolve, invoke, builtin, hd, hs, hrun, Result.andThen]

theorem set4 {w : World} {g t : Nat} {f : Nat → Nat} (h : Has w g t (cellsN .u8 4 f)) (a b c d : Nat) :
    Has ((((w.setCell ⟨g, 0, none⟩ (.int .u8 (a : Nat))).setCell ⟨g, 1, none⟩ (.int .u8 (b : Nat))).setCell ⟨g, 2, none⟩ (.int .u8 (c : Nat))).setCell ⟨g, 3, none⟩ (.int .u8 (d : Nat))) g t (cellsN .u8 4 (four a b c d)) := by
  have := (((h.set 0 a).set 1 b).set 2 c).set 3 d
  rw [cellsN_congr .u8 4 _ (four a b c d) (fun j hj => by rcases four_case hj with rfl | rfl | rfl | rfl <;> rfl)] at this
  exact this

/-- Four cells laid, and a draw behind them. -/
def lay4 (w : World) (g a b c d : Nat) : World := ((((w.setCell ⟨g, 0, none⟩ (.int .u8 (a : Nat))).setCell ⟨g, 1, none⟩ (.int .u8 (b : Nat))).setCell ⟨g, 2, none⟩ (.int .u8 (c : Nat))).setCell ⟨g, 3, none⟩ (.int .u8 (d : Nat))).drew

theorem laid4 {w : World} {g t : Nat} {f : Nat → Nat} (h : Has w g t (cellsN .u8 4 f)) (a b c d : Nat) :
    Has (lay4 w g a b c d) g t (cellsN .u8 4 (four a b c d)) ∧ (∀ g' t' cs, g' ≠ g → Has w g' t' cs → Has (lay4 w g a b c d) g' t' cs) ∧ ∀ B w0, Below B w0 w → B ≤ g → Below B w0 (lay4 w g a b c d) :=
  ⟨set4 h a b c d, fun g' t' cs hn h' => (((h'.other hn _).other hn _).other hn _).other hn _, fun B w0 hb hB => ((((hb.setCell hB _).setCell hB _).setCell hB _).setCell hB _).drew⟩

/-- The first j bytes of the word k are laid. -/
def flatJ (n : Nat) (key W : Nat → Nat) (k j : Nat) : Nat → Nat := fun i => if i < k * 4 then W i else if i < k * 4 + j then nw n key W k (i - k * 4) else W i

theorem flatJ_0 (n : Nat) (key W : Nat → Nat) (k : Nat) : flatJ n key W k 0 = W := by
  funext i
  unfold flatJ
  split
  · rfl
  · rw [if_neg (by omega)]

theorem flatJ_next (n : Nat) (key W : Nat → Nat) (k j : Nat) : upd (flatJ n key W k j) (k * 4 + j) (nw n key W k j) = flatJ n key W k (j + 1) := by
  funext i
  unfold upd flatJ
  by_cases e : i = k * 4 + j
  · subst e
    rw [if_pos rfl, if_neg (by omega), if_pos (by omega), show k * 4 + j - k * 4 = j by omega]
  · rw [if_neg e]
    split
    · rfl
    · by_cases h : i < k * 4 + j
      · rw [if_pos h, if_pos (by omega)]
      · rw [if_neg h, if_neg (by omega)]

theorem flatJ_4 (n : Nat) (key : Nat → Nat) (k : Nat) : flatJ n key (flat n key k) k 4 = flat n key (k + 1) := by
  rw [flat_succ]
  funext i
  unfold flatJ
  rw [Nat.mul_comm k 4]

theorem tw_turn (n : Nat) (W : Nat → Nat) (q p : Nat) (hn : 1 ≤ n) (hq : q % n = 0) (hp : p = (q + (n - 1)) / n) :
    cellsN .u8 4 (four (SB (W ((q + (n - 1)) * 4 + 1)) ^^^ pw p) (SB (W ((q + (n - 1)) * 4 + 2))) (SB (W ((q + (n - 1)) * 4 + 3))) (SB (W ((q + (n - 1)) * 4 + 0)))) = cellsN .u8 4 (tw n W (q + n)) := by
  refine cellsN_congr _ _ _ _ (fun r hr => ?_)
  have e0 : (q + n) % n = 0 := by rw [Nat.add_mod_right]; exact hq
  have e1 : 4 * (q + n - 1) = (q + (n - 1)) * 4 := by omega
  have e2 : (q + n) / n - 1 = p := by
    rw [Nat.add_div_right _ hn, Nat.succ_sub_one, hp]
    obtain ⟨m, hm⟩ : ∃ m, q = n * m := ⟨q / n, by have := Nat.div_add_mod q n; omega⟩
    rw [hm, Nat.mul_add_div (by omega), Nat.mul_div_cancel_left _ (by omega), Nat.div_eq_of_lt (by omega)]
    rfl
  unfold tw
  rw [if_pos e0, e1, e2]
  rcases four_case hr with rfl | rfl | rfl | rfl
  · rfl
  · show _ = _ ^^^ 0
    rw [Nat.xor_zero]; rfl
  · show _ = _ ^^^ 0
    rw [Nat.xor_zero]; rfl
  · show _ = _ ^^^ 0
    rw [Nat.xor_zero]; rfl

theorem tw_sub (W : Nat → Nat) (q : Nat) (hq : q % 8 = 4) :
    cellsN .u8 4 (four (SB (W ((q + 7) * 4 + 0))) (SB (W ((q + 7) * 4 + 1))) (SB (W ((q + 7) * 4 + 2))) (SB (W ((q + 7) * 4 + 3)))) = cellsN .u8 4 (tw 8 W (q + 8)) := by
  refine cellsN_congr _ _ _ _ (fun r hr => ?_)
  have e1 : 4 * (q + 8 - 1) = (q + 7) * 4 := by omega
  unfold tw
  rw [if_neg (by omega), if_pos (by omega), e1]
  rcases four_case hr with rfl | rfl | rfl | rfl <;> rfl

theorem nw_high (n : Nat) (key W : Nat → Nat) (q j : Nat) : nw n key W (q + n) j = W (4 * q + j) ^^^ tw n W (q + n) j := by
  unfold nw
  rw [if_neg (by omega), show q + n - n = q by omega]

theorem index4 (s : Nat → Nat) (k : Nat) (w : World) (h : k < 4) : (Instr.index 58 (.agg (cellsN .u8 4 s)) (.int .i64 (k : Nat))).run Try.prog w = .ok (.int .u8 (s k : Nat)) w := by
  have hg := cellsN_get .u8 4 s k h
  simp [Instr.index, run_underlying Try.underlying58, asIntOf, go_sem, hg]
  omega

theorem word_info : (Try.prog.info? 58).map (fun i => (i.zero, i.size, i.bytes)) = some (some (.agg (cellsN .u8 4 fun _ => 0)), 4, 4) := by kernel_rfl

theorem made44 : madeCells (Value.agg (cellsN .u8 4 fun _ => 0)).cells (44 * 4) = cellsN .u8 176 fun _ => 0 := by kernel_rfl
theorem made60 : madeCells (Value.agg (cellsN .u8 4 fun _ => 0)).cells (60 * 4) = cellsN .u8 240 fun _ => 0 := by kernel_rfl

theorem make_any (c : Nat) (hc : c ≤ 60) (w : World) : (Instr.makeSlice 50 (.int .i64 (c : Int)) (.int .i64 (c : Int))).run Try.prog w = .ok (.slice (some ⟨w.heap.size, 0, none⟩) c c) (w.alloc (.cells (madeCells (Value.agg (cellsN .u8 4 fun _ => 0)).cells (c * 4)) 58)) := by
  have h := word_info
  cases hq : Try.prog.info? 58 with
  | none => simp [hq] at h
  | some i =>
    simp [hq] at h
    have := run_make (P := Try.prog) w 50 58 i _ Try.underlying50 hq h.1 .i64 .i64 c c (by omega) (by omega) (by rw [h.2.2]; omega) (by omega)
    rw [h.2.1] at this
    simpa using this

theorem make44 (w : World) : (Instr.makeSlice 50 (.int .i64 44) (.int .i64 44)).run Try.prog w = .ok (.slice (some ⟨w.heap.size, 0, none⟩) 44 44) (w.alloc (.cells (cellsN .u8 176 fun _ => 0) 58)) := by
  rw [← made44]; exact make_any 44 (by omega) w
theorem make60 (w : World) : (Instr.makeSlice 50 (.int .i64 60) (.int .i64 60)).run Try.prog w = .ok (.slice (some ⟨w.heap.size, 0, none⟩) 60 60) (w.alloc (.cells (cellsN .u8 240 fun _ => 0) 58)) := by
  rw [← made60]; exact make_any 60 (by omega) w
end Go.Proofs.Ytcnlegnfecpdnaa
