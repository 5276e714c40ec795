/- DeviceTogether: small laws of its walk. -/
import Derived.Test.YtalcalecmklcoaaDvTogS
namespace Go.Proofs.Ytalcalecmklcoaa
open Go.ChangeShapes Go.WideShapes Go.ChangeAt Go.RowKit
set_option linter.unusedVariables false

variable {D : DevRep}

theorem wrap_ne (len : Nat) (h : len ≤ 2 ^ 63 - 1) : ¬ wrap64 ((len : Int) + 1) = 0 := by
  unfold wrap64
  omega

theorem wrap_abs (len : Nat) (h : len ≤ 2 ^ 63 - 1) : wrap64 ((len : Int) + 1) = ((len + 1 : Nat) : Int) ∨ wrap64 ((len : Int) + 1) = -((len + 1 : Nat) : Int) := by
  unfold wrap64
  omega

theorem cut_pos (q len : Nat) (h : len ≤ 2 ^ 63 - 1) : (q : Int) % wrap64 ((len : Int) + 1) = ((q % (len + 1) : Nat) : Int) := by
  rcases wrap_abs len h with e | e
  · rw [e, Int.natCast_emod]
  · rw [e, Int.emod_neg, Int.natCast_emod]

theorem cut_neg (q len : Nat) (h : len ≤ 2 ^ 63 - 1) : (-(-((q : Int) + 1) + 1).tmod (wrap64 ((len : Int) + 1))) = ((q % (len + 1) : Nat) : Int) := by
  rw [show (-((q : Int) + 1) + 1) = -(q : Int) by omega, Int.neg_tmod, Int.neg_neg, Int.tmod_eq_emod_of_nonneg (by omega)]
  exact cut_pos q len h

theorem tog_start (hD : DevOk D) {w w4 : World} {P : Bool → Nat} {c : Nat} {G : Bool → Nat → Prop} (hTw : Tw D w.heap.size w w4 P (fun _ => anewD (fresh 4)) c 0 G) (cut : Nat) : Tog D w ((w4.alloc (.cells (cells8 fun _ => .slice none 0 0) 63)).alloc (.cells (cells8 fun _ => .slice none 0 0) 63)) P c w4.heap.size (w4.heap.size + 1) 0 (fun _ => anewD (fresh 4)) 0 G (fun _ => .slice none 0 0) (fun _ => .slice none 0 0) (nowS (fun _ => anewD (fresh 4)) cut) (sureS (fun _ => anewD (fresh 4)) cut) := by
  have hb : Below w4.heap.size w4 (w4.alloc (.cells (cells8 fun _ => .slice none 0 0) 63)) := (Below.refl _ _).alloc (Nat.le_refl _) _
  have hb2 : Below (w4.alloc (.cells (cells8 fun _ => .slice none 0 0) 63)).heap.size (w4.alloc (.cells (cells8 fun _ => .slice none 0 0) 63)) ((w4.alloc (.cells (cells8 fun _ => .slice none 0 0) 63)).alloc (.cells (cells8 fun _ => .slice none 0 0) 63)) := (Below.refl _ _).alloc (Nat.le_refl _) _
  have e : (w4.alloc (.cells (cells8 fun _ => .slice none 0 0) 63)).heap.size = w4.heap.size + 1 := by simp
  have hz := (hTw.at_ false).sz
  refine ⟨(hTw.next hD hb).next hD hb2, fun _ => rfl, fun _ => rfl, fun _ => Nat.le_refl _, Nat.le_refl _, fun _ _ => rfl, fun _ => byt_fresh 4, ⟨(Has.new _ _ _).below hb2 (by omega), fun h => absurd (Both.lt hTw.duo hD _ h) (Nat.lt_irrefl _), fun j _ => .inl ⟨rfl, fun _ => ?_⟩⟩, ⟨?_, fun h => absurd (Both.lt hTw.duo hD _ h) (by omega), fun j _ => .inl ⟨rfl, fun _ => ?_⟩⟩, by omega, hz, by omega⟩
  · rfl
  · rw [← e]
    exact Has.new _ _ _
  · rfl

theorem SecV.one {w : World} {G : Nat → Prop} {v : Value} {f : Nat → Nat} (h : SecV w G v f) : v.oneCell' = true := by
  obtain ⟨a, l, q, rfl⟩ := h.sl
  rfl

theorem store1 {w : World} {g t : Nat} {U : Nat → Value} (h : Has w g t (cells8 U)) (j : Nat) (hj : j < 8) {v : Value} (hv : v.oneCell' = true) : Sem.run Try.prog (store ⟨g, j, none⟩ v) w = .ok () (w.setCell ⟨g, j, none⟩ v) := by
  rw [run_store _ _ _ _ _ hv, h.cell j, cells8_get _ j hj]
  simp [h.free j]

theorem store4 {w : World} {g t : Nat} {U : Nat → Value} (h : Has w g t (cells8 U)) (d : Nat) (hd : d + 3 < 8) {v0 v1 v2 v3 : Value} (h0 : v0.oneCell' = true) (h1 : v1.oneCell' = true) (h2 : v2.oneCell' = true) (h3 : v3.oneCell' = true) :
    (((Sem.run Try.prog (store ⟨g, d, none⟩ v0) w).andThen fun _ w' => (Sem.run Try.prog (store ⟨g, d + 1, none⟩ v1) w').andThen fun _ w' => (Sem.run Try.prog (store ⟨g, d + 2, none⟩ v2) w').andThen fun _ w' => Sem.run Try.prog (store ⟨g, d + 3, none⟩ v3) w').andThen fun _ w' => Result.ok Next.skip w')
      = Result.ok Next.skip ((((w.setCell ⟨g, d, none⟩ v0).setCell ⟨g, d + 1, none⟩ v1).setCell ⟨g, d + 2, none⟩ v2).setCell ⟨g, d + 3, none⟩ v3) := by
  have s0 := store1 h d (by omega) h0
  have g1 := h.set8 d v0
  have s1 := store1 g1 (d + 1) (by omega) h1
  have g2 := g1.set8 (d + 1) v1
  have s2 := store1 g2 (d + 2) (by omega) h2
  have g3 := g2.set8 (d + 2) v2
  have s3 := store1 g3 (d + 3) (by omega) h3
  simp only [s0, s1, s2, s3, Result.andThen]

theorem run_neq_err {o : Oper} {a : Act} (x y : Operand) (ho : o.op = .binOp .neq 24 x y 24) (z : Int) (hx : a.eval x = .int .i64 z) (hy : a.eval y = .int .i64 0) (c : Bool) (h : (!decide (z = 0)) = c) (w : World) : (execOp a.eval o).run Try.prog w = .ok (.value (.bool c)) w := by
  unfold execOp
  simp only [ho, hx, hy]
  subst h
  by_cases e : z = 0 <;> (simp only [e]; go_simp)

theorem wr_in4 (s : DS) (i : Int) (L : Nat) (h : wrErr s i L = 0) (hn : s.n = 4) : ∃ I : Nat, I < 4 ∧ i = (I : Int) := by
  unfold wrErr at h
  split at h
  · cases h
  · split at h
    · cases h
    · exact ⟨i.toNat, by omega, by omega⟩

theorem sw_self {α : Type} (f : Bool → α) (q : Bool) : sw f q (f q) = f := by
  funext r
  unfold sw
  split
  · next e => rw [e]
  · rfl

theorem wrM_le1 (s : DS) (i : Int) (L m k : Nat) (h : m ≤ k) : wrM s i L m ≤ k + 1 := Nat.le_trans (wrM_le s i L m) (by omega)

/-- One that only skips, where nothing else may come up. -/
theorem skipAt {P : Program} {ops : Array Oper} {Q : Exit → Act → World → Prop} {md : Region.Mode} {S : World → Prop} {oi : Oper} (i : Nat) (d : Option Tmp) (w' : World) {fuel : Nat} {listed : Array Bool} {a : Act} {w : World}
    (hr : Region.ready md ops listed = [i]) (hi : ops[i]? = some oi) (hd : oi.dst = d) (hw : Region.wanted oi (yielded ops a.tmps) = true)
    (hrun : (execOp a.eval oi).run P w = .ok .skip w') (hS : S w')
    (h : wpAnyH P md ops Q S fuel (listed.setIfInBounds i true) (a.put d undef) w') : wpAnyH P md ops Q S (fuel + 1) listed a w := by
  subst hd
  refine wpAnyH_ready hr (by simp) (AllReadyH.cons hi (fun K hK => ?_) AllReadyH.nil)
  rw [if_pos hw]
  unfold Oper.wp
  rw [hrun]
  exact hK.out _ _ hS (fun _ => h)

/-- What was laid by, as bytes. -/
theorem SecV.bytes {w : World} {G : Nat → Prop} {v : Value} {f : Nat → Nat} (h : SecV w G v f) : ∃ A L C, v = .slice A L C ∧ L ≤ maxLen ∧ Bytes w A L f ∧ strN (full f L) 64 = strN f 64 := by
  rcases h with ⟨rfl, h0⟩ | ⟨b, rfl, _, hb⟩
  · refine ⟨none, 0, 0, rfl, Nat.zero_le _, .inl rfl, strN_same fun j _ => ?_⟩
    unfold full
    rw [if_neg (Nat.not_lt_zero _), h0]
  · refine ⟨_, 64, 64, rfl, by unfold maxLen; omega, hb.bytes, strN_same fun j hj => ?_⟩
    unfold full
    rw [if_pos hj]

theorem byt_now (s : DS) (cut : Int) (h : BytS s) : ∀ i j, nowAt s cut i j < 256 := fold_lt _ _ h.1 (fun e he => h.2 e (List.mem_filter.1 he).1)
theorem byt_sure (s : DS) (cut : Int) (h : BytS s) : ∀ i j, sureAt s cut i j < 256 := left_lt _ _ 0 _ h.1 (fun e he => h.2 e (List.mem_filter.1 he).1)
theorem byt_cutMo (s : DS) (clock : Nat) (cut : Int) (k : Nat → Bool) (h : BytS s) : BytS (cutMoD s clock cut k) := ⟨left_lt _ _ 0 _ h.1 (fun e he => h.2 e (List.mem_filter.1 he).1), fun e he => by cases he⟩

theorem side_of (q : Nat) (h : q < 2) : ∃ t : Bool, q = cond t 1 0 := by
  rcases (show q = 0 ∨ q = 1 by omega) with rfl | rfl
  · exact ⟨false, rfl⟩
  · exact ⟨true, rfl⟩

/-- A cell that is there. -/
def CellAt (w : World) (g j : Nat) (v : Value) : Prop := g < w.heap.size ∧ w.cell? ⟨g, j, none⟩ = some v
theorem CellAt.trans' {w w' : World} {g j : Nat} {v : Value} (h : CellAt w g j v) (hb : Below w.heap.size w w') : w'.cell? ⟨g, j, none⟩ = some v := (hb.cell h.1).trans h.2

theorem len_sync (s : DS) (m : Int) {k : Nat} (h : s.log.length ≤ k) : (syncD s m).log.length ≤ k + 1 := by
  show (s.log ++ [_]).length ≤ _
  rw [List.length_append]
  show s.log.length + 1 ≤ _
  omega
theorem nobad_sync (s : DS) (m : Int) (h : NoBad s) : NoBad (syncD s m) := h
theorem byt_sync (s : DS) (m : Int) (h : BytS s) : BytS (syncD s m) := by
  refine ⟨h.1, fun e he => ?_⟩
  rcases List.mem_append.1 he with he | he
  · exact h.2 e he
  · obtain rfl := List.mem_singleton.1 he
    exact fun _ => (by show 0 < 256; decide)

end Go.Proofs.Ytalcalecmklcoaa
