/- cache: how a cache over three devices lies in memory. -/
import Derived.Test.YtancebpjfbbcaaaCcSmall
namespace Go.Proofs.Ytancebpjfbbcaaa
open Go.ChangeShapes Go.WideShapes Go.ChangeAt Go.RowKit Go.MapKept
set_option linter.unusedVariables false

/-- The cells of a write that waits, of a group. -/
def wcl (r : Rw) : List Value := [.int .i64 (r.1.d : Nat), .int .i64 (r.1.s : Nat), r.2]

/-- A sector's bytes of the cache's own. -/
structure DataAt (w : World) (G : Nat → Prop) (v : Value) (f : Nat → Nat) : Prop where
  byt : ∀ j, f j < 256
  own : w.ownsRow 0 5 1 v 64 (bl f 64)
  gr : ∀ g, v.ownBlock = some g → G g

/-- The map of a group. -/
def MapR (w : World) (G : Nat → Prop) (mv : Value) (l : List Rw) : Prop := (l = [] ∧ mv = .map none) ∨ ∃ mb, mv = .map (some mb) ∧ G mb ∧ w.heap[mb]? = some (.map (cent 0 l).toArray l.length)

/-- A group: its map, its list, its writes. -/
structure Grp (w : World) (G : Nat → Prop) (mv lv : Value) (l : List Rw) : Prop where
  mp : MapR w G mv l
  row : w.ownsRow 0 78 3 lv l.length (l.flatMap wcl)
  gr : ∀ g, lv.ownBlock = some g → G g
  dat : ∀ r ∈ l, DataAt w G r.2 r.1.f
  uni : Uni l

variable {w w' : World} {G G' : Nat → Prop} {mv lv v : Value} {l : List Rw} {f : Nat → Nat}

theorem own_keptC {b e sz n : Nat} {xs : List Value} (h : w.ownsRow b e sz v n xs) (hk : ∀ g, v.ownBlock = some g → w'.heap[g]? = w.heap[g]?) : w'.ownsRow b e sz v n xs := by
  refine ⟨h.1, ?_⟩
  rcases h.2 with h0 | ⟨g, cap, cur, rfl, h1, hg, r⟩
  · exact .inl h0
  · exact .inr ⟨g, cap, cur, rfl, h1, (hk g rfl).trans hg, r⟩

theorem DataAt.kept (h : DataAt w G v f) (hk : ∀ k, G k → w'.heap[k]? = w.heap[k]?) : DataAt w' G v f := ⟨h.byt, own_keptC h.own (fun g e => hk g (h.gr g e)), h.gr⟩
theorem DataAt.mono (h : DataAt w G v f) (hg : ∀ k, G k → G' k) : DataAt w G' v f := ⟨h.byt, h.own, fun g e => hg g (h.gr g e)⟩
/-- Its own block alone is asked. -/
theorem DataAt.keep1 (h : DataAt w G v f) (hk : ∀ k, v.ownBlock = some k → w'.heap[k]? = w.heap[k]?) : DataAt w' G v f := ⟨h.byt, own_keptC h.own hk, h.gr⟩

theorem DataAt.sl (h : DataAt w G v f) : ∃ g c, v = .slice (some ⟨g, 0, none⟩) 64 c ∧ 64 ≤ c ∧ Bytes w (some ⟨g, 0, none⟩) 64 f ∧ g < w.heap.size := by
  rcases h.own.2 with ⟨_, h0⟩ | ⟨g, cap, cur, rfl, _, hg, hn, _⟩
  · cases h0
  · obtain ⟨a, c, e, h1, h2, h3, h4⟩ := own_bytes h.own
    cases e
    exact ⟨g, cap, rfl, hn, h3, (Array.getElem?_eq_some_iff.1 hg).1⟩

theorem DataAt.one (h : DataAt w G v f) : v.oneCell' = true := by
  obtain ⟨g, c, rfl, _⟩ := h.sl
  rfl

theorem MapR.kept (h : MapR w G mv l) (hk : ∀ k, G k → w'.heap[k]? = w.heap[k]?) : MapR w' G mv l := by
  rcases h with h | ⟨mb, e, h1, h2⟩
  · exact .inl h
  · exact .inr ⟨mb, e, h1, (hk mb h1).trans h2⟩
theorem MapR.mono (h : MapR w G mv l) (hg : ∀ k, G k → G' k) : MapR w G' mv l := by
  rcases h with h | ⟨mb, e, h1, h2⟩
  · exact .inl h
  · exact .inr ⟨mb, e, hg mb h1, h2⟩

theorem Grp.kept (h : Grp w G mv lv l) (hk : ∀ k, G k → w'.heap[k]? = w.heap[k]?) : Grp w' G mv lv l :=
  ⟨h.mp.kept hk, own_keptC h.row (fun g e => hk g (h.gr g e)), h.gr, fun r hr => (h.dat r hr).kept hk, h.uni⟩
theorem Grp.mono (h : Grp w G mv lv l) (hg : ∀ k, G k → G' k) : Grp w G' mv lv l :=
  ⟨h.mp.mono hg, h.row, fun g e => hg g (h.gr g e), fun r hr => (h.dat r hr).mono hg, h.uni⟩
theorem Grp.nil (w : World) (G : Nat → Prop) : Grp w G (.map none) (.slice none 0 0) [] :=
  ⟨.inl ⟨rfl, rfl⟩, ⟨rfl, .inl ⟨rfl, rfl⟩⟩, fun g e => (by cases e), fun r hr => (by cases hr), List.Pairwise.nil⟩

theorem wcl_len (r : Rw) : (wcl r).length = 3 := rfl
theorem wcl_one (r : Rw) (h : r.2.oneCell' = true) : ∀ u ∈ wcl r, u.oneCell' = true := by
  intro u hu
  simp only [wcl, List.mem_cons, List.not_mem_nil, or_false] at hu
  rcases hu with rfl | rfl | rfl
  · rfl
  · rfl
  · exact h

theorem Grp.sl (h : Grp w G mv lv l) : ∃ a c, lv = .slice a l.length c ∧ l.length ≤ c ∧ (a = none → l = [] ∧ c = 0) := by
  obtain ⟨a, c, e, h1, h2, _⟩ := own_slice h.row
  exact ⟨a, c, e, h1, fun h => ⟨List.length_eq_zero_iff.1 (h2 h).1, (h2 h).2⟩⟩

/-- The cells of write number i. -/
theorem Grp.at_ (h : Grp w G mv lv l) {i : Nat} {r : Rw} (hr : l[i]? = some r) : ∃ g c, lv = .slice (some ⟨g, 0, none⟩) l.length c ∧ l.length ≤ c ∧ G g ∧ g < w.heap.size ∧ w.cell? ⟨g, i * 3, none⟩ = some (.int .i64 (r.1.d : Nat)) ∧ w.cell? ⟨g, i * 3 + 1, none⟩ = some (.int .i64 (r.1.s : Nat)) ∧ w.cell? ⟨g, i * 3 + 2, none⟩ = some r.2 := by
  have hi : i < l.length := (List.getElem?_eq_some_iff.1 hr).1
  obtain ⟨a, c, e, h1, h2, h3, h4⟩ := own_slice h.row
  cases a with
  | none => have := (h2 rfl).1; omega
  | some ad =>
    obtain ⟨g, rfl⟩ := h3 ad rfl
    have hc := h4 g rfl
    have hG : G g := h.gr g (by rw [e]; rfl)
    have hf := fun j hj => flat_at wcl 3 wcl_len l i j r hr hj
    refine ⟨g, c, e, h1, hG, (h.row.lt g (by rw [e]; rfl)).2, ?_, ?_, ?_⟩
    · exact hc _ _ (hf 0 (by decide))
    · exact hc _ _ (hf 1 (by decide))
    · exact hc _ _ (hf 2 (by decide))

/-- A group's value, its writes. -/
structure GV where
  mv : Value
  lv : Value
  rows : List Rw
def gcl (g : GV) : List Value := [g.mv, g.lv]
def gnil : GV := ⟨.map none, .slice none 0 0, []⟩

/-- A cache at cb, over the devices at P 0, P 1, P 2: the open group o, in the blocks GO; those kept, ks, and all else in the blocks GK. -/
structure CAt (w : World) (cb : Nat) (P : Nat → Nat) (dv : Value) (o : GV) (kv : Value) (ks : List GV) (GO GK : Nat → Prop) : Prop where
  str : Has w cb 73 #[dv, o.mv, o.lv, kv]
  dev : w.ownsRow 0 42 1 dv 3 [ptr (P 0), ptr (P 1), ptr (P 2)]
  opn : Grp w GO o.mv o.lv o.rows
  krow : w.ownsRow 0 70 2 kv ks.length (ks.flatMap gcl)
  kgs : ∀ g ∈ ks, Grp w GK g.mv g.lv g.rows
  gcb : GK cb
  gdv : ∀ g, dv.ownBlock = some g → GK g
  gkv : ∀ g, kv.ownBlock = some g → GK g
  sep : ∀ k, GO k → ¬ GK k
  lt : ∀ k, GO k ∨ GK k → k < w.heap.size
  ok : ∀ g ∈ o :: ks, ∀ r ∈ g.rows, r.1.d < 3 ∧ r.1.s < 6

variable {cb : Nat} {P : Nat → Nat} {dv kv : Value} {o : GV} {ks : List GV} {GO GK : Nat → Prop}

theorem CAt.kept (h : CAt w cb P dv o kv ks GO GK) (hs : w.heap.size ≤ w'.heap.size) (hk : ∀ k, GO k ∨ GK k → w'.heap[k]? = w.heap[k]?) : CAt w' cb P dv o kv ks GO GK :=
  ⟨(hk cb (.inr h.gcb)).trans h.str, own_keptC h.dev (fun g e => hk g (.inr (h.gdv g e))), h.opn.kept (fun k hg => hk k (.inl hg)), own_keptC h.krow (fun g e => hk g (.inr (h.gkv g e))), fun g hg => (h.kgs g hg).kept (fun k hk' => hk k (.inr hk')), h.gcb, h.gdv, h.gkv, h.sep, fun k hk => Nat.lt_of_lt_of_le (h.lt k hk) hs, h.ok⟩

theorem CAt.next (h : CAt w cb P dv o kv ks GO GK) (hb : Below w.heap.size w w') : CAt w' cb P dv o kv ks GO GK := h.kept hb.size (fun k hk => hb.block k (h.lt k hk))

/-- The row of devices. -/
theorem CAt.devs (h : CAt w cb P dv o kv ks GO GK) : ∃ g c, dv = .slice (some ⟨g, 0, none⟩) 3 c ∧ GK g ∧ g < w.heap.size ∧ ∀ i, i < 3 → w.cell? ⟨g, i, none⟩ = some (ptr (P i)) := by
  obtain ⟨a, c, e, h1, h2, h3, h4⟩ := own_slice h.dev
  cases a with
  | none => have := (h2 rfl).1; omega
  | some ad =>
    obtain ⟨g, rfl⟩ := h3 ad rfl
    refine ⟨g, c, e, h.gdv g (by rw [e]; rfl), (h.dev.lt g (by rw [e]; rfl)).2, fun i hi => h4 g rfl i _ ?_⟩
    rcases (show i = 0 ∨ i = 1 ∨ i = 2 by omega) with rfl | rfl | rfl <;> rfl

theorem run_load_cmC {o : Oper} {a : Act} (x : Operand) (ho : o.op = .load 68 x) (p : Addr) (hx : a.eval x = .pointer (some p)) (v : Value) (w : World) (h : w.cell? p = some v) : (execOp a.eval o).run Try.prog w = .ok (.value v) w := by
  unfold execOp
  simp only [ho, hx]
  go_simp
theorem run_load_wsC {o : Oper} {a : Act} (x : Operand) (ho : o.op = .load 30 x) (p : Addr) (hx : a.eval x = .pointer (some p)) (v : Value) (w : World) (h : w.cell? p = some v) : (execOp a.eval o).run Try.prog w = .ok (.value v) w := by
  unfold execOp
  simp only [ho, hx]
  go_simp
theorem run_load_gsC {o : Oper} {a : Act} (x : Operand) (ho : o.op = .load 71 x) (p : Addr) (hx : a.eval x = .pointer (some p)) (v : Value) (w : World) (h : w.cell? p = some v) : (execOp a.eval o).run Try.prog w = .ok (.value v) w := by
  unfold execOp
  simp only [ho, hx]
  go_simp
theorem run_load_dsC {o : Oper} {a : Act} (x : Operand) (ho : o.op = .load 23 x) (p : Addr) (hx : a.eval x = .pointer (some p)) (v : Value) (w : World) (h : w.cell? p = some v) : (execOp a.eval o).run Try.prog w = .ok (.value v) w := by
  unfold execOp
  simp only [ho, hx]
  go_simp
theorem run_load_pdC {o : Oper} {a : Act} (x : Operand) (ho : o.op = .load 42 x) (p : Addr) (hx : a.eval x = .pointer (some p)) (v : Value) (w : World) (h : w.cell? p = some v) : (execOp a.eval o).run Try.prog w = .ok (.value v) w := by
  unfold execOp
  simp only [ho, hx]
  go_simp

theorem run_at_wr {o : Oper} {a : Act} (x i : Operand) (ho : o.op = .indexAddr 30 x i) (g k n cap : Nat) (hx : a.eval x = .slice (some ⟨g, 0, none⟩) n cap) (hi : a.eval i = .int .i64 (k : Nat)) (hk : k < n) (w : World) : (execOp a.eval o).run Try.prog w = .ok (.value (.pointer (some ⟨g, k * 3, none⟩))) w := by
  unfold execOp
  cases hq : Try.prog.info? 78 with
  | none => exact absurd hq (by have h : (Try.prog.info? 78).isSome = true := (by kernel_rfl); intro e; rw [e] at h; cases h)
  | some inf =>
    have hz : inf.size = 3 := by
      have h : (Try.prog.info? 78).map (·.size) = some 3 := by kernel_rfl
      simpa [hq] using h
    simp only [ho, hx, hi]
    simp [Instr.indexAt, Instr.sureAddr, run_underlying Try.underlying30, asIntOf, sizeOf, typeInfo, hq, hz, Addr.add_mid, go_sem]
    intro h
    omega

theorem run_at_gr {o : Oper} {a : Act} (x i : Operand) (ho : o.op = .indexAddr 71 x i) (g k n cap : Nat) (hx : a.eval x = .slice (some ⟨g, 0, none⟩) n cap) (hi : a.eval i = .int .i64 (k : Nat)) (hk : k < n) (w : World) : (execOp a.eval o).run Try.prog w = .ok (.value (.pointer (some ⟨g, k * 2, none⟩))) w := by
  unfold execOp
  cases hq : Try.prog.info? 70 with
  | none => exact absurd hq (by have h : (Try.prog.info? 70).isSome = true := (by kernel_rfl); intro e; rw [e] at h; cases h)
  | some inf =>
    have hz : inf.size = 2 := by
      have h : (Try.prog.info? 70).map (·.size) = some 2 := by kernel_rfl
      simpa [hq] using h
    simp only [ho, hx, hi]
    simp [Instr.indexAt, Instr.sureAddr, run_underlying Try.underlying71, asIntOf, sizeOf, typeInfo, hq, hz, Addr.add_mid, go_sem]
    intro h
    omega

theorem run_at_pd {o : Oper} {a : Act} (x i : Operand) (ho : o.op = .indexAddr 23 x i) (g k n cap : Nat) (hx : a.eval x = .slice (some ⟨g, 0, none⟩) n cap) (hi : a.eval i = .int .i64 (k : Nat)) (hk : k < n) (w : World) : (execOp a.eval o).run Try.prog w = .ok (.value (.pointer (some ⟨g, k, none⟩))) w := by
  unfold execOp
  cases hq : Try.prog.info? 42 with
  | none => exact absurd hq (by have h : (Try.prog.info? 42).isSome = true := (by kernel_rfl); intro e; rw [e] at h; cases h)
  | some inf =>
    have hz : inf.size = 1 := by
      have h : (Try.prog.info? 42).map (·.size) = some 1 := by kernel_rfl
      simpa [hq] using h
    simp only [ho, hx, hi]
    simp [Instr.indexAt, Instr.sureAddr, run_underlying Try.underlying23, asIntOf, sizeOf, typeInfo, hq, hz, Addr.add_mid, go_sem]
    intro h
    omega
end Go.Proofs.Ytancebpjfbbcaaa
