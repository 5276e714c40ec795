/- JournalPlays: what its walk stands on. -/
import Derived.Test.YtoiaclmfljoomaaDoorJnAddL
import Derived.Test.YtoiaclmfljoomaaDoorJnScrA
namespace Go.Proofs.YtoiaclmfljoomaaDoor
open Go.ChangeShapes Go.WideShapes Go.ChangeAt Go.RowKit
set_option linter.unusedVariables false

variable {D : DevRep} {B : Nat} {w0 w w' : World} {j p c m n : Nat} {s s' : DS} {F F' : Nat → Prop} {rs : List RC} {fl : Nat} {G X : Nat → Prop} {v : Value}

/-- The first k of a list of the call's own. -/
theorem OwnR.first {a : Option Addr} {M cp : Nat} (h : OwnR B w (.slice a M cp) rs X) (hM : M = rs.length) (k : Nat) (hk : k ≤ rs.length) : OwnR B w (.slice a k cp) (rs.take k) X ∧ k ≤ cp ∧ (a = none → M = 0 ∧ cp = 0) ∧ ∀ ad, a = some ad → ad.spot = none := by
  obtain ⟨cells, h1, h2, h3⟩ := h.row
  have hlen : (rs.take k).length = k := by rw [List.length_take]; omega
  have hel : ∀ (i : Nat) (r : RC), (rs.take k)[i]? = some r → ∃ ad C, (cells.take k)[i]? = some (.slice ad r.L C) ∧ ByIn w ad r.L C r.f ∧ ∀ b o, ad = some ⟨b, o, none⟩ → b < B ∨ (X b ∧ ∃ cur, w.heap[b]? = some (.cells cur 5 (0, 0))) := by
    intro i r hi
    have hik : i < k := by
      have := (List.getElem?_eq_some_iff.1 hi).1
      omega
    rw [List.getElem?_take_of_lt hik] at hi
    obtain ⟨ad, C, e1, e2, e3⟩ := h3 i r hi
    exact ⟨ad, C, by rw [List.getElem?_take_of_lt hik]; exact e1, e2, e3⟩
  rcases h1.2 with ⟨e, h0⟩ | ⟨g, cap, cur, e, hb, hg, hn, hm, hs, ht⟩
  · cases e
    have hk0 : k = 0 := by omega
    subst hk0
    refine ⟨⟨by rw [hlen]; exact Nat.zero_le _, h.lt, h.sz, cells.take 0, ⟨by simp, .inl ⟨rfl, hlen⟩⟩, h2, hel⟩, Nat.le_refl _, fun _ => ⟨rfl, rfl⟩, fun ad e => by cases e⟩
  · cases e
    refine ⟨⟨by have := h.len; omega, h.lt, h.sz, cells.take k, ⟨?_, .inr ⟨g, cp, cur, by rw [hlen], hb, hg, by omega, hm, hs, ?_⟩⟩, fun g' e' => h2 g' (by cases e'; rfl), hel⟩, by omega, fun e => (by cases e), fun ad e => (by cases e; rfl)⟩
    · have := h1.1
      rw [List.length_take, hlen]
      omega
    · rw [hlen, ← ht, Nat.mul_one, Nat.mul_one, List.take_take, Nat.min_eq_left (by omega)]

theorem run_slice_recsP {o : Oper} {a : Act} (x l : Operand) (ho : o.op = .slice 32 x none (some l) none) (va : Option Addr) (M cp q : Nat) (hx : a.eval x = .slice va M cp) (hl : a.eval l = .int .i64 (q : Nat)) (h1 : q ≤ cp) (hn : va = none → M = 0 ∧ cp = 0) (hs : ∀ ad, va = some ad → ad.spot = none) (w : World) :
    (execOp a.eval o).run Tryd.prog w = .ok (.value (.slice va q cp)) w := by
  unfold execOp
  cases va with
  | none =>
    obtain ⟨rfl, rfl⟩ := hn rfl
    obtain rfl : q = 0 := by omega
    simp only [ho, hx, hl, Option.map_some, Option.map_none]
    simp [Instr.sliceAt, Instr.slice, Instr.sliceBounds, Instr.sliceBound, run_underlying Tryd.underlying32, go_sem, asIntOf]
  | some ad =>
    obtain ⟨b, off, spot⟩ := ad
    obtain rfl : spot = none := hs _ rfl
    simp only [ho, hx, hl, Option.map_some, Option.map_none]
    simp [Instr.sliceAt, Instr.slice, Instr.sliceBounds, Instr.sliceBound, run_underlying Tryd.underlying32, go_sem, asIntOf, h1]

theorem rlP_of {va : Option Addr} {M vc : Nat} (h : OwnR B w (.slice va M vc) rs X) : Rl w va rs := by
  obtain ⟨a, cp, e, hr⟩ := h.rl
  injection e with e1 e2 e3
  rw [e1]
  exact hr

/-- A device that is turned under its journal. -/
theorem JIn.turn (h : JIn D B w0 w j p s c m F rs fl G) (hD : DevOk D) (ho : Only F w w') (hg : Grew w F F') (hd : Dev D w' p s' c m F') (hn : s'.n = s.n) : JStep D B w0 w w' j p s' c m F F' rs fl G G := by
  have hI := h.dev.grew ho (fun k hk => .inl hk) hg hd
  refine ⟨⟨hI, ?_, h.base, fun k hk => (h.ap k hk).grew hg (h.lt k hk)⟩, ho.mono (fun k hk => .inl (.inl hk)), hg, fun k hk => .inl hk⟩
  rw [hn]
  exact h.jn.kept ho.size (fun k hk => ho.block k (h.lt k hk) (fun hf => h.ap k hk (.inl hf)))

/-- What JournalPlays holds behind i steps. -/
def PlayI (D : DevRep) (w : World) (n i p j : Nat) (v : Value) (fl : Nat) (wr : World) : Prop :=
  ∃ s c m F G X rs, JIn D w.heap.size w wr j p s c m F rs fl G ∧ OwnR w.heap.size wr v rs X ∧ Apt F c G X ∧ Rest s ∧ s.n = n ∧ Keeps s (rs.take fl) ∧ s.log.length ≤ 100 + 100 * i ∧ m ≤ 100 + 100 * i ∧ ∀ r ∈ rs, ∀ k, r.f k < 256

/-- Some sector among the first k is bad. -/
def anyBad (s : DS) : Nat → Bool
  | 0 => false
  | k + 1 => anyBad s k || s.bad k

theorem anyBad_no {s : DS} {k : Nat} (h : anyBad s k = false) : ∀ i, i < k → s.bad i = false := by
  induction k with
  | zero => intro i hi; omega
  | succ k ih =>
    intro i hi
    have h' : (anyBad s k || s.bad k) = false := h
    rw [Bool.or_eq_false_iff] at h'
    by_cases e : i = k
    · rw [e]; exact h'.2
    · exact ih h'.1 i (by omega)

theorem anyBad_yes {s : DS} {k : Nat} (h : anyBad s k = true) : ∃ i, i < k ∧ s.bad i = true := by
  induction k with
  | zero => cases h
  | succ k ih =>
    have h' : (anyBad s k || s.bad k) = true := h
    rw [Bool.or_eq_true] at h'
    rcases h' with h' | h'
    · obtain ⟨i, h1, h2⟩ := ih h'
      exact ⟨i, by omega, h2⟩
    · exact ⟨k, by omega, h'⟩

/-- One of a script, cell by cell. -/
def ocellJ (v : OpJ) : List Value := [.int .i64 v.k, .slice v.a v.L v.C, .int .i64 v.i, .slice v.ka v.kl v.kc]

theorem ocellJ_one (v : OpJ) : (ocellJ v).toArray.all (·.oneCell') = true := by simp [ocellJ, Value.oneCell']

theorem sizeOpJ : (Tryd.prog.info? 36).map (·.size) = some 4 := by kernel_rfl

theorem run_load_opJ {o : Oper} {a : Act} (x : Operand) (ho : o.op = .load 36 x) (b off : Nat) (hx : a.eval x = .pointer (some ⟨b, off, none⟩)) (v : OpJ) (w : World) (h : OpJIn w b off v) : (execOp a.eval o).run Tryd.prog w = .ok (.value (.agg (ocellJ v).toArray)) w := by
  have hr := run_loadAt_mid (P := Tryd.prog) w b off 36 (ocellJ v) _ (fun j u hu => by
    rcases (show j = 0 ∨ j = 1 ∨ j = 2 ∨ j = 3 ∨ 4 ≤ j by omega) with rfl | rfl | rfl | rfl | hj
    · rw [← hu]; exact h.c0
    · rw [← hu]; exact h.c1
    · rw [← hu]; exact h.c2
    · rw [← hu]; exact h.c3
    · rw [List.getElem?_eq_none (by simpa [ocellJ] using hj)] at hu
      cases hu) Tryd.underlying36 rfl sizeOpJ
  unfold execOp
  simp only [ho, hx, Sem.run_bind, hr]
  rfl

theorem wpList_copy_opJ {ops : Array Oper} {rest : List Oper} {o : Oper} {a : Act} {Q : Exit → Act → World → Prop} (wr : World) (v : OpJ) (hgd : o.guard = none) (x y : Operand) (ho : o.op = .store 36 x y)
    (hx : a.eval x = .pointer (some ⟨wr.heap.size, 0, none⟩)) (hy : a.eval y = .agg (ocellJ v).toArray)
    (h : ∀ w2, Has w2 wr.heap.size 36 (ocellJ v).toArray → Below wr.heap.size wr w2 → wpList Tryd.prog ops Q rest (a.put o.dst undef) w2) : wpList Tryd.prog ops Q (o :: rest) a (wr.alloc (.cells #[.int .i64 0, .slice none 0 0, .int .i64 0, .slice none 0 0] 36)) := by
  have hZ : Has (wr.alloc (.cells #[.int .i64 0, .slice none 0 0, .int .i64 0, .slice none 0 0] 36)) wr.heap.size 36 #[.int .i64 0, .slice none 0 0, .int .i64 0, .slice none 0 0] := Has.new_at rfl
  refine wpList_store_rowG hgd 36 x y ho wr.heap.size _ hx hy 36 _ hZ sizeOpJ rfl (ocellJ_one v) ?_
  intro w2 hw2
  refine h w2 ?_ ?_
  · rw [hw2]
    exact hZ.setRow _
  · rw [hw2]
    exact below_setRow ((Below.refl _ _).alloc (Nat.le_refl _) _) (Nat.le_refl _) _

theorem j_kill (hD : DevOk D) (h : JIn D B w0 w j p s c m F rs fl G) (hf : Rest s) :
    Calls Tryd.prog 21 #[ptr p] w fun e w' => e = .returned (.tuple #[]) ∧ ∃ s' F', JStep D B w0 w w' j p s' c m F F' rs fl G G ∧ Rest s' ∧ s'.n = s.n ∧ s'.log.length = s.log.length ∧ ∀ ss, Keeps s ss → Keeps s' ss := by
  refine (hD.kill w p s c m F h.dev.dev).mono ?_
  rintro e w' ⟨rfl, ho, F', hg, hd⟩
  exact ⟨rfl, killD s, F', h.turn hD ho hg hd rfl, hf.kill, rfl, rfl, fun ss hk => hk.kill⟩

theorem j_spoil (hD : DevOk D) (h : JIn D B w0 w j p s c m F rs fl G) (hf : Rest s) (i : Int) (hi : i64ok i) :
    Calls Tryd.prog 22 #[ptr p, .int .i64 i] w fun e w' => e = .returned (.tuple #[]) ∧ ∃ s' F', JStep D B w0 w w' j p s' c m F F' rs fl G G ∧ Rest s' ∧ s'.n = s.n ∧ s'.log.length = s.log.length ∧ ∀ ss, Keeps s ss → Keeps s' ss := by
  refine (hD.spoil w p s c m F i h.dev.dev hi).mono ?_
  rintro e w' ⟨rfl, (⟨_, hb⟩ | ⟨_, ho, F', hg, hd⟩)⟩
  · exact ⟨rfl, s, F, JStep.refl h hD hb, hf, rfl, rfl, fun ss hk => hk⟩
  · exact ⟨rfl, spoilD s i.toNat, F', h.turn hD ho hg hd rfl, hf.spoil _, rfl, rfl, fun ss hk => hk.spoil _⟩

theorem j_dead (hD : DevOk D) (h : JIn D B w0 w j p s c m F rs fl G) {b : Bool} (hb : s.dead = b) : Calls Tryd.prog 16 #[ptr p] w fun e w' => e = .returned (.bool b) ∧ Below w.heap.size w w' := by
  subst hb
  exact hD.isDead w p s c m F h.dev.dev

theorem j_flushA (hD : DevOk D) (hM : DevMore D) (h : JIn D B w0 w j p s c m F rs fl G) (hf : Rest s) (hk : Keeps s (rs.take fl)) (hm : m ≤ 90000) (hl : s.log.length ≤ 90000) (hd : s.dead = true) {M : Nat} (hM1 : M = rs.length) (hlt : fl < M) :
    Calls Tryd.prog 15 #[ptr j] w fun e w' => e = .returned (.int .i64 73) ∧ JStep D B w0 w w' j p s c m F F rs fl G G := by
  refine (j_flushP hD hM h hf hk hm hl).mono ?_
  rintro e w' (⟨_, _, rfl, hS⟩ | ⟨hn, _⟩)
  · exact ⟨rfl, hS⟩
  · exact absurd ⟨hd, by omega⟩ hn

theorem j_flushB (hD : DevOk D) (hM : DevMore D) (h : JIn D B w0 w j p s c m F rs fl G) (hf : Rest s) (hk : Keeps s (rs.take fl)) (hm : m ≤ 90000) (hl : s.log.length ≤ 90000) {M : Nat} (hM1 : M = rs.length) (hd : ¬ (s.dead = true ∧ fl < M)) :
    Calls Tryd.prog 15 #[ptr j] w fun e w' => e = .returned (.int .i64 0) ∧ ∃ s' m' F', JStep D B w0 w w' j p s' c m' F F' rs M G G ∧ Rest s' ∧ s'.n = s.n ∧ s'.dead = s.dead ∧ Keeps s' rs ∧ s'.log.length ≤ s.log.length + (2 * s.n + 8) ∧ m' ≤ m + (2 * s.n + 8) := by
  refine (j_flushP hD hM h hf hk hm hl).mono ?_
  rintro e w' (⟨h1, h2, _⟩ | ⟨_, rfl, h3⟩)
  · exact absurd ⟨h1, by omega⟩ hd
  · rw [← hM1] at h3
    exact ⟨rfl, h3⟩

theorem j_clearA (hD : DevOk D) (hM : DevMore D) (h : JIn D B w0 w j p s c m F rs fl G) (hf : Rest s) (hm : m ≤ 95000) (hl : s.log.length ≤ 95000) (hd : s.dead = true) :
    Calls Tryd.prog 17 #[ptr j] w fun e w' => e = .returned (.int .i64 73) ∧ JStep D B w0 w w' j p s c m F F rs fl G G := by
  refine (j_clearP hD hM h hf hm hl).mono ?_
  rintro e w' (⟨_, rfl, hS⟩ | ⟨h1, _⟩)
  · exact ⟨rfl, hS⟩
  · rw [hd] at h1; cases h1

theorem j_clearB (hD : DevOk D) (hM : DevMore D) (h : JIn D B w0 w j p s c m F rs fl G) (hf : Rest s) (hm : m ≤ 95000) (hl : s.log.length ≤ 95000) (hd : s.dead = false) :
    Calls Tryd.prog 17 #[ptr j] w fun e w' => e = .returned (.int .i64 0) ∧ ∃ s' m' F', JStep D B w0 w w' j p s' c m' F F' [] 0 G G ∧ Rest s' ∧ s'.n = s.n ∧ s'.dead = false ∧ Keeps s' [] ∧ s'.log.length ≤ s.log.length + (s.n + 4) ∧ m' ≤ m + (s.n + 4) := by
  refine (j_clearP hD hM h hf hm hl).mono ?_
  rintro e w' (⟨h1, _⟩ | ⟨_, rfl, s', m', F', a1, a2, a3, a4, a5⟩)
  · rw [hd] at h1; cases h1
  · exact ⟨rfl, s', m', F', a1, a2, a3, a4.trans hd, a5⟩

/-- Open of a device that is dead, or bad. -/
theorem openA (hD : DevOk D) (hM : DevMore D) (hG : Glob Hc Kc w0) (hB1 : 1 < B) (h : In D B w0 w p s c m F) (hf : Rest s) (hm : m ≤ 95000) (hl : s.log.length ≤ 95000) (hd : s.dead = true) :
    Calls Tryd.prog 19 #[ptr p] w fun e w' => e = .returned (.tuple #[.pointer none, .int .i64 73]) ∧ Below w.heap.size w w' := by
  refine (open_c hD hM hG hB1 h hf.byt hf.n1 hf.n2 hm hl).mono ?_
  rintro e w' (⟨_, rfl, hb⟩ | ⟨h1, _⟩ | ⟨h1, _⟩)
  · exact ⟨rfl, hb⟩
  · rw [hd] at h1; cases h1
  · rw [hd] at h1; cases h1

theorem openB (hD : DevOk D) (hM : DevMore D) (hG : Glob Hc Kc w0) (hB1 : 1 < B) (h : In D B w0 w p s c m F) (hf : Rest s) (hm : m ≤ 95000) (hl : s.log.length ≤ 95000) (hd : s.dead = false) (hbad : ∃ i, i < s.n ∧ s.bad i = true) :
    Calls Tryd.prog 19 #[ptr p] w fun e w' => e = .returned (.tuple #[.pointer none, .int .i64 72]) ∧ Below w.heap.size w w' := by
  refine (open_c hD hM hG hB1 h hf.byt hf.n1 hf.n2 hm hl).mono ?_
  rintro e w' (⟨h1, _⟩ | ⟨_, _, rfl, hb⟩ | ⟨_, h1, _⟩)
  · rw [hd] at h1; cases h1
  · exact ⟨rfl, hb⟩
  · obtain ⟨i, h2, h3⟩ := hbad
    rw [h1 i h2] at h3; cases h3
end Go.Proofs.YtoiaclmfljoomaaDoor
