/- cache: last. -/
import Derived.Test.YtancebpjfbbcaaaCcLstM
namespace Go.Proofs.Ytancebpjfbbcaaa
open Go.ChangeShapes Go.WideShapes Go.ChangeAt Go.RowKit Go.MapKept Go.Shelf
set_option linter.unusedVariables false

attribute [local go_sem] Oper.semAt_some

variable {w w' W3 Wb Wc W6 : World} {cb : Nat} {P : Nat → Nat} {dv kv : Value} {o : GV} {ks : List GV} {GO GK : Nat → Prop} {B3 B4 B5 B6 d s : Nat} {GA old : Array Value}

/-- A post that a panic never meets. -/
def noP (Q : Exit → Act → World → Prop) : Exit → Act → World → Prop
  | .panic _, _, _ => False
  | e, a, w => Q e a w

theorem noP_out {Q : Exit → Act → World → Prop} : ∀ e a w, noP Q e a w → Q e a w := by
  intro e a w h
  cases e <;> first | exact h | exact h.elim

theorem leavesP {fn : Func} {tmps : Array Value} {v : Value} {n : Nat} {R : Ending → World → Prop} (h : (results fn tmps).run Try.prog w = .ok v w) (hr : R (.returned v) w) : noP (bodyPostM Fence.wide n Try.prog fn R) .ret { tmps := tmps, defers := [] } w := ⟨v, h, hr⟩

/-- The last of the groups kept that has one. -/
def lastK (ks : List GV) (d s : Nat) : Option Rw := ks.reverse.findSome? fun g => look g.rows d s

theorem CAt.kcells (h : CAt w cb P dv o kv ks GO GK) : ∃ aK gk cK, kv = .slice aK ks.length cK ∧ ∀ V, Below w.heap.size w V → KCells aK gk ks.length (fun i => (ks.getD i gnil).mv) (fun i => (ks.getD i gnil).lv) V := by
  obtain ⟨a, c, e, _⟩ := own_slice h.krow
  have hat : ∀ i, i < ks.length → ks[i]? = some (ks.getD i gnil) := fun i hi => by
    rw [List.getD_eq_getElem?_getD, List.getElem?_eq_getElem hi]
    rfl
  by_cases h0 : 0 < ks.length
  · obtain ⟨g, c', e', _⟩ := h.kept_at (hat 0 h0)
    rw [e] at e'
    cases e'
    refine ⟨_, g, c, e, fun V hb i hi => ?_⟩
    obtain ⟨g2, c2, e2, _, m1, m2⟩ := (h.next hb).kept_at (hat i hi)
    rw [e] at e2
    cases e2
    exact ⟨rfl, m1, m2⟩
  · exact ⟨a, 0, c, e, fun V hb i hi => by omega⟩

theorem find_at {l : List GV} {f : GV → Option Rw} {i : Nat} {r : Rw} (h : ∀ j, j < i → f (l.getD j gnil) = none) (hi : i < l.length) (hr : f (l.getD i gnil) = some r) : l.findSome? f = some r := by
  induction l generalizing i with
  | nil => cases hi
  | cons g l ih =>
    cases i with
    | zero =>
      rw [List.findSome?_cons, show f g = some r from hr]
    | succ i =>
      rw [List.findSome?_cons, show f g = none from h 0 (by omega)]
      exact ih (fun j hj => h (j + 1) (by omega)) (by simpa using hi) hr

theorem find_no {l : List GV} {f : GV → Option Rw} (h : ∀ j, j < l.length → f (l.getD j gnil) = none) : l.findSome? f = none := by
  induction l with
  | nil => rfl
  | cons g l ih =>
    rw [List.findSome?_cons, show f g = none from h 0 (by simp)]
    exact ih (fun j hj => h (j + 1) (by simpa using hj))

theorem rev_at {l : List GV} {j : Nat} (h : j < l.length) : l.reverse.getD j gnil = l.getD (l.length - 1 - j) gnil := by
  rw [List.getD_eq_getElem?_getD, List.getD_eq_getElem?_getD, List.getElem?_reverse h]

theorem lastK_at {i : Nat} {r : Rw} (h : ∀ j, j < i → look (ks.getD (ks.length - 1 - j) gnil).rows d s = none) (hi : i < ks.length) (hr : look (ks.getD (ks.length - 1 - i) gnil).rows d s = some r) : lastK ks d s = some r := by
  unfold lastK
  refine find_at (i := i) (fun j hj => ?_) (by simpa using hi) ?_
  · rw [rev_at (by omega)]
    exact h j hj
  · rw [rev_at hi]
    exact hr

theorem lastK_no (h : ∀ j, j < ks.length → look (ks.getD (ks.length - 1 - j) gnil).rows d s = none) : lastK ks d s = none := by
  unfold lastK
  refine find_no (fun j hj => ?_)
  rw [List.length_reverse] at hj
  rw [rev_at hj]
  exact h j hj

theorem put_last {w8 : World} (h4 : Has w8 B4 78 #[.int .i64 0, .int .i64 0, .slice none 0 0]) (h5 : Has w8 B5 4 #[.bool false]) (n45 : B4 ≠ B5) (hb : Below w.heap.size w w8) (h4g : w.heap.size ≤ B4) (h5g : w.heap.size ≤ B5) (v0 v1 v2 vb : Value) :
    Stay w8 ((((w8.setCell ⟨B4, 0, none⟩ v0).setCell ⟨B4, 1, none⟩ v1).setCell ⟨B4, 2, none⟩ v2).setCell ⟨B5, 0, none⟩ vb) ∧
    Has ((((w8.setCell ⟨B4, 0, none⟩ v0).setCell ⟨B4, 1, none⟩ v1).setCell ⟨B4, 2, none⟩ v2).setCell ⟨B5, 0, none⟩ vb) B4 78 #[v0, v1, v2] ∧
    Has ((((w8.setCell ⟨B4, 0, none⟩ v0).setCell ⟨B4, 1, none⟩ v1).setCell ⟨B4, 2, none⟩ v2).setCell ⟨B5, 0, none⟩ vb) B5 4 #[vb] ∧
    Below w.heap.size w ((((w8.setCell ⟨B4, 0, none⟩ v0).setCell ⟨B4, 1, none⟩ v1).setCell ⟨B4, 2, none⟩ v2).setCell ⟨B5, 0, none⟩ vb) := by
  have a0 := h4.setV 0 v0
  have a1 := a0.setV 1 v1
  have a2 := a1.setV 2 v2
  have b0 := h5.other (p := ⟨B4, 0, none⟩) n45.symm v0
  have b1 := b0.other (p := ⟨B4, 1, none⟩) n45.symm v1
  have b2 := b1.other (p := ⟨B4, 2, none⟩) n45.symm v2
  exact ⟨(((Stay.setCell h4 (by decide) 0 v0).trans (Stay.setCell a0 (by decide) 1 v1)).trans (Stay.setCell a1 (by decide) 2 v2)).trans (Stay.setCell b2 (by decide) 0 vb), a2.other (p := ⟨B5, 0, none⟩) n45 vb, b2.setV 0 vb, (((hb.setCell (p := ⟨B4, 0, none⟩) h4g v0).setCell (p := ⟨B4, 1, none⟩) h4g v1).setCell (p := ⟨B4, 2, none⟩) h4g v2).setCell (p := ⟨B5, 0, none⟩) h5g vb⟩

theorem leave_last {W : World} {D : Nat} {cs : Array Value} {bb : Bool} {fn : Func} {R : Ending → World → Prop} {tmps : Array Value} (hfn : fn.results = #[.cell 4 78, .cell 5 4])
    (h4t : tmps.getD 4 undef = .pointer (some ⟨B4, 0, none⟩)) (h5t : tmps.getD 5 undef = .pointer (some ⟨B5, 0, none⟩)) (hB : Below w.heap.size w W) (h4 : Has W B4 78 cs) (hcs : cs.size = 3) (h5 : Has W B5 4 #[.bool bb]) (hK : W.heap[D]? = some (.deferred (some []))) (hD : w.heap.size ≤ D)
    (hR : ∀ W', Below w.heap.size w W' → R (.returned (.tuple #[.agg cs, .bool bb])) W') : noP (bodyPostM Fence.wide 3 Try.prog fn R) .ret { tmps := tmps, defers := [{ target := .collected D, args := #[] }] } W := by
  have hne : ∀ r, some D = some r → 0 ≤ r ∧ ∃ o : Obj, W.heap[r]? = some o ∧ o.isCells = false := fun r e => by cases e; exact ⟨Nat.zero_le _, _, hK, rfl⟩
  have h4' := h4.ownF (grownBy_putObj' W D (.deferred none)) hne
  have h5' := h5.ownF (grownBy_putObj' W D (.deferred none)) hne
  refine ⟨by simp, .inl ⟨_, _, rfl, run_takeDeferred hK, ?_⟩⟩
  exact ⟨_, results_cell2 hfn _ _ B4 B5 78 cs (0, 0) _ bb h4t h4' Try.underlying78 (by rw [hcs]; exact Try.size78) h5t (h5'.cell 0), hR _ (hB.trans (belowK_b (w := w) (Nat.le_refl _) W D _ _ hD hK rfl rfl))⟩

theorem keep_def {W : World} {D : Nat} {v0 v1 v2 vb : Value} {x : Obj} (h4 : D ≠ B4) (h5 : D ≠ B5) (h : W.heap[D]? = some x) : ((((W.setCell ⟨B4, 0, none⟩ v0).setCell ⟨B4, 1, none⟩ v1).setCell ⟨B4, 2, none⟩ v2).setCell ⟨B5, 0, none⟩ vb).heap[D]? = some x :=
  (Below.heap_setCell _ ⟨B5, 0, none⟩ vb D h5).trans ((Below.heap_setCell _ ⟨B4, 2, none⟩ v2 D h4).trans ((Below.heap_setCell _ ⟨B4, 1, none⟩ v1 D h4).trans ((Below.heap_setCell _ ⟨B4, 0, none⟩ v0 D h4).trans h)))

theorem getD_mem {l : List GV} {i : Nat} (h : i < l.length) : l.getD i gnil ∈ l := by
  rw [List.getD_eq_getElem?_getD, List.getElem?_eq_getElem h]
  exact List.getElem_mem h

theorem gv_is {q : Option Rw} {G : Nat → Prop} (h : ∀ r, q = some r → DataAt w G r.2 r.1.f) : ∃ (x y : Nat) (z : Option Addr) (zl zc : Nat), gv q = .agg #[.int .i64 (x : Nat), .int .i64 (y : Nat), .slice z zl zc] := by
  cases q with
  | none => exact ⟨0, 0, none, 0, 0, rfl⟩
  | some r =>
    obtain ⟨g, c, e, _⟩ := (h r rfl).sl
    refine ⟨r.1.d, r.1.s, some ⟨g, 0, none⟩, 64, c, ?_⟩
    unfold gv
    rw [← e]

/-- Ahead of a round: none of the groups that were looked at has it. -/
def LI (w : World) (B3 B4 B5 d s : Nat) (ks : List GV) (pre : List Nat) (V : World) : Prop :=
  Below w.heap.size w V ∧ Has V B3 76 #[.int .i64 (d : Nat), .int .i64 (s : Nat)] ∧ Has V B4 78 #[.int .i64 0, .int .i64 0, .slice none 0 0] ∧ Has V B5 4 #[.bool false] ∧ ∀ j, j < pre.length → look (ks.getD (ks.length - 1 - j) gnil).rows d s = none

def LX (w : World) (B4 B5 d s : Nat) (ks : List GV) (pre : List Nat) (V : World) : Prop :=
  Below w.heap.size w V ∧ ∃ r : Rw, lastK ks d s = some r ∧ Has V B4 78 #[.int .i64 (r.1.d : Nat), .int .i64 (r.1.s : Nat), r.2] ∧ Has V B5 4 #[.bool true]

theorem li_below {pre : List Nat} {V : World} (h : LI w B3 B4 B5 d s ks pre W3) (hb : Below W3.heap.size W3 V) : LI w B3 B4 B5 d s ks pre V :=
  ⟨h.1.trans (hb.mono h.1.size), h.2.1.below hb h.2.1.lt, h.2.2.1.below hb h.2.2.1.lt, h.2.2.2.1.below hb h.2.2.2.1.lt, h.2.2.2.2⟩

theorem one_at (h : CAt w cb P dv o kv ks GO GK) (i : Nat) : (#[(ks.getD i gnil).mv, (ks.getD i gnil).lv] : Array Value).all (·.oneCell') = true := by
  by_cases hi : i < ks.length
  · exact (h.kgs _ (getD_mem hi)).one2
  · rw [List.getD_eq_getElem?_getD, List.getElem?_eq_none (by omega)]
    simp [gnil, Value.oneCell']

theorem li_firm {D : Nat} (hD : w.heap.size ≤ D) : Firm D (LI w B3 B4 B5 d s ks) := by
  rintro pre A B row ⟨h5, h1, h2, h3, h7⟩ hg hr
  exact ⟨Firm.below (β := Unit) (Nat.le_refl _) hD () A B row h5 hg hr, h1.firm (by decide) hg hr, h2.firm (by decide) hg hr, h3.firm (by decide) hg hr, h7⟩

theorem lx_firm {D : Nat} (hD : w.heap.size ≤ D) : Firm D (LX w B4 B5 d s ks) := by
  rintro pre A B row ⟨h5, r, h1, h2, h3⟩ hg hr
  exact ⟨Firm.below (β := Unit) (Nat.le_refl _) hD () A B row h5 hg hr, r, h1, h2.firm (by decide) hg hr, h3.firm (by decide) hg hr⟩

/-- The call's own boxes: the place, what is told. -/
def LS (w W : World) (B3 B4 B5 d s : Nat) : Prop := Has W B3 76 #[.int .i64 (d : Nat), .int .i64 (s : Nat)] ∧ Has W B4 78 #[.int .i64 0, .int .i64 0, .slice none 0 0] ∧ Has W B5 4 #[.bool false]

def LF (w W : World) (B3 B4 B5 B6 d s : Nat) (GA : Array Value) : Prop := Below w.heap.size w W ∧ Has W B4 78 #[.int .i64 0, .int .i64 0, .slice none 0 0] ∧ Has W B5 4 #[.bool false] ∧ Has W B6 78 GA ∧ Has W B3 76 #[.int .i64 (d : Nat), .int .i64 (s : Nat)]

def LB (w : World) (B3 B4 B5 : Nat) : Prop := B3 = w.heap.size ∧ B4 = w.heap.size + 1 ∧ B5 = w.heap.size + 2

theorem last_mid (h : LS w W3 B3 B4 B5 d s) (hB : LB w B3 B4 B5) (hb : Below w.heap.size w W3) (hc : Below W3.heap.size W3 Wc) (hn : Has Wc B6 78 old) (hz : W3.heap.size ≤ B6) (hW : W6 = Wc.setRow B6 GA) : LF w W6 B3 B4 B5 B6 d s GA := by
  obtain ⟨h3, h4, h5⟩ := h
  obtain ⟨e3, e4, e5⟩ := hB
  have l3 := h3.lt
  have l4 := h4.lt
  have l5 := h5.lt
  have hs := hb.size
  rw [hW]
  exact ⟨below_setRow (hb.trans (hc.mono hs)) (by omega) _, (h4.below hc l4).setRow_other (by omega) _, (h5.below hc l5).setRow_other (by omega) _, hn.setRow _, (h3.below hc l3).setRow_other (by omega) _⟩

theorem last_put1 (h : LF w W6 B3 B4 B5 B6 d s GA) (hB : LB w B3 B4 B5) (hW : w' = W6.setRow B4 GA) : Below w.heap.size w w' ∧ Has w' B4 78 GA ∧ Has w' B5 4 #[.bool false] := by
  obtain ⟨h1, h2, h3, h4, h5⟩ := h
  obtain ⟨e3, e4, e5⟩ := hB
  rw [hW]
  exact ⟨below_setRow h1 (by omega) _, h2.setRow _, h3.setRow_other (by omega) _⟩

theorem last_put2 (h : Below w.heap.size w w' ∧ Has w' B4 78 GA ∧ Has w' B5 4 #[.bool false]) (hB : LB w B3 B4 B5) : Below w.heap.size w (w'.setCell ⟨B5, 0, none⟩ (.bool true)) ∧ Has (w'.setCell ⟨B5, 0, none⟩ (.bool true)) B4 78 GA ∧ Has (w'.setCell ⟨B5, 0, none⟩ (.bool true)) B5 4 #[.bool true] := by
  obtain ⟨h1, h2, h3⟩ := h
  obtain ⟨e3, e4, e5⟩ := hB
  exact ⟨h1.setCell (by show w.heap.size ≤ B5; omega) _, (Below.heap_setCell w' ⟨B5, 0, none⟩ _ B4 (by show B4 ≠ B5; omega)).trans h2, h3.setV 0 _⟩

set_option maxRecDepth 100000 in
set_option maxHeartbeats 4000000 in
theorem last_in (h : CAt w cb P dv o kv ks GO GK) (d s : Nat) (hlen : ks.length ≤ 1000) {r : Rw} (hq : look o.rows d s = some r) :
    CallsIn Fence.wide 3 Try.prog 50 #[ptr cb, .agg #[.int .i64 (d : Nat), .int .i64 (s : Nat)]] w fun e w' => e = .returned (.tuple #[gv (some r), .bool true]) ∧ Below w.heap.size w w' := by
  obtain ⟨W3, hW3⟩ : ∃ W3, W3 = ((w.alloc (.cells #[.int .i64 (d : Nat), .int .i64 (s : Nat)] 76)).alloc (.cells #[.int .i64 0, .int .i64 0, .slice none 0 0] 78)).alloc (.cells #[.bool false] 4) := ⟨_, rfl⟩
  obtain ⟨B3, hB3⟩ : ∃ B3, B3 = w.heap.size := ⟨_, rfl⟩
  obtain ⟨B4, hB4⟩ : ∃ B4, B4 = w.heap.size + 1 := ⟨_, rfl⟩
  obtain ⟨B5, hB5⟩ : ∃ B5, B5 = w.heap.size + 1 + 1 := ⟨_, rfl⟩
  have HB := hidC (show LB w B3 B4 B5 from ⟨hB3, hB4, hB5⟩)
  have hbd : Below w.heap.size w W3.drew := by
    rw [hW3]
    exact ((((Below.refl w.heap.size w).alloc (Nat.le_refl _) _).alloc (by simp) _).alloc (by simp; omega) _).trans ⟨rfl, rfl, rfl, Nat.le_refl _, fun _ _ => rfl⟩
  have HBD := hidC hbd
  have HS0 := hidC (show LS w W3.drew B3 B4 B5 d s from by
    rw [hW3, hB3, hB4, hB5]
    exact ⟨((Has.new w _ _).alloc _).alloc _, (Has.new_at (by simp)).alloc _, Has.new_at (by simp)⟩)
  have HS3 := hidC HS0.out.1
  have HG := hidC (fun W (hb : Below w.heap.size w W) => by
    have hC := h.next hb
    have hg := get_c (d := d) (s := s) hC.opn (fun k hk => hC.lt k (.inl hk)) (b := cb) (off := 1) (hC.lt cb (.inr hC.gcb)) (hC.str.cell 1) (hC.str.cell 2)
    rw [hq] at hg
    exact hg)
  obtain ⟨gb, gc, hrv, _⟩ : ∃ gb gc, r.2 = .slice (some ⟨gb, 0, none⟩) 64 gc ∧ True := by
    have hm : r ∈ o.rows := List.mem_of_find?_eq_some hq
    obtain ⟨gb, gc, e, _⟩ := (h.opn.dat r hm).sl
    exact ⟨gb, gc, e, trivial⟩
  unfold gv at HG ⊢
  simp only [Option.isSome_some] at HG
  show CallsIn Fence.wide 3 Try.prog _ _ _ fun e w' => e = .returned (.tuple #[.agg #[.int .i64 (r.1.d : Nat), .int .i64 (r.1.s : Nat), r.2], .bool true]) ∧ Below w.heap.size w w'
  have HG := hidC (show ∀ W, Below w.heap.size w W → Calls Try.prog 68 #[.pointer (some ⟨cb, 1, none⟩), .agg #[.int .i64 (d : Nat), .int .i64 (s : Nat)]] W fun e w' => e = .returned (.tuple #[.agg #[.int .i64 (r.1.d : Nat), .int .i64 (r.1.s : Nat), r.2], .bool true]) ∧ Below W.heap.size W w' from HG.out)
  rw [hrv] at HG ⊢
  generalize r.1.d = rd at *
  generalize r.1.s = rs at *
  have HW3 := hidC hW3
  have HB0 := hidC (And.intro hB3 (And.intro hB4 hB5))
  clear h hq hrv hbd hW3 hB3 hB4 hB5
  refine callsIn_of_wp_marks Try.func50 rfl trivial ?_ rfl
  simp only [Try.ntmps50, List.size_toArray, List.length_cons, List.length_nil, Nat.reduceAdd, Nat.reduceSub, Array.replicate_succ, Array.replicate_zero, List.push_toArray, List.append_toArray, List.nil_append, List.cons_append]
  refine wpIn_mono (Q := noP (bodyPostM Fence.wide 3 Try.prog _ _)) ?_ noP_out
  refine wpIn_wide.2 ?_
  go_wp2
  rw [← HW3.out, ← HB0.out.2.2, ← HB0.out.2.1, ← HB0.out.1]
  refine wp_region_held_drew (S := fun wz => Has wz B3 76 #[.int .i64 (d : Nat), .int .i64 (s : Nat)]) (by kernel_rfl) HS3.out (fun hHeld => ?_)
  refine takeTo 0 (some 13) (ptr cb) rfl rfl (by kernel_rfl) (by kernel_rfl) (by kernel_rfl) (fun _ _ _ h => h) (by rfl) (fun _ _ => rfl) hHeld ?_
  simp only [Act.put, List.setIfInBounds_toArray, List.set_cons_zero, List.set_cons_succ]
  refine takeTo 1 (some 14) (ptr cb) rfl rfl (by kernel_rfl) (by kernel_rfl) (by kernel_rfl) (fun _ _ _ h => h) (by rfl) (fun _ _ => rfl) hHeld ?_
  simp only [Act.put, List.setIfInBounds_toArray, List.set_cons_zero, List.set_cons_succ]
  refine takeTo 2 (some 15) (.pointer (some ⟨cb, 1, none⟩)) rfl rfl (by kernel_rfl) (by kernel_rfl) (by kernel_rfl) (fun _ _ _ h => h) (by rfl) (fun _ _ => rfl) hHeld ?_
  simp only [Act.put, List.setIfInBounds_toArray, List.set_cons_zero, List.set_cons_succ]
  refine takeTo 3 (some 16) (.agg #[.int .i64 (d : Nat), .int .i64 (s : Nat)]) rfl rfl (by kernel_rfl) (by kernel_rfl) (by kernel_rfl) (fun _ _ _ h => h) (by rfl) (fun wz hz => run_load_pl _ rfl B3 0 rfl d s _ (hz.cell 0) (hz.cell 1)) hHeld ?_
  simp only [Act.put, List.setIfInBounds_toArray, List.set_cons_zero, List.set_cons_succ]
  refine ready2 4 8 (by kernel_rfl) ?_ ?_
  · refine stepCall (some 17) 68 #[.pointer (some ⟨cb, 1, none⟩), .agg #[.int .i64 (d : Nat), .int .i64 (s : Nat)]] rfl rfl (by rfl) (by kernel_rfl) (HG.out _ HBD.out) ?_
    rintro e wa ⟨rfl, hba⟩
    have hsa := hHeld.below hba hHeld.lt
    refine ⟨_, rfl, hsa, ?_⟩
    simp only [Act.put, List.setIfInBounds_toArray, List.set_cons_zero, List.set_cons_succ]
    refine takeTo 5 (some 12) (.tuple #[.agg #[.int .i64 (rd : Nat), .int .i64 (rs : Nat), .slice (some ⟨gb, 0, none⟩) 64 gc], .bool true]) rfl rfl (by kernel_rfl) (by kernel_rfl) (by kernel_rfl) (fun _ _ _ h => h) (by rfl) (fun _ _ => rfl) hsa ?_
    simp only [Act.put, List.setIfInBounds_toArray, List.set_cons_zero, List.set_cons_succ]
    refine takeTo 6 (some 18) (.agg #[.int .i64 (rd : Nat), .int .i64 (rs : Nat), .slice (some ⟨gb, 0, none⟩) 64 gc]) rfl rfl (by kernel_rfl) (by kernel_rfl) (by kernel_rfl) (fun _ _ _ h => h) (by rfl) (fun _ _ => rfl) hsa ?_
    simp only [Act.put, List.setIfInBounds_toArray, List.set_cons_zero, List.set_cons_succ]
    refine takeTo 7 (some 19) (.bool true) rfl rfl (by kernel_rfl) (by kernel_rfl) (by kernel_rfl) (fun _ _ _ h => h) (by rfl) (fun _ _ => rfl) hsa ?_
    simp only [Act.put, List.setIfInBounds_toArray, List.set_cons_zero, List.set_cons_succ]
    have hbA : Below wa.heap.size wa (wa.alloc (.cells #[.int .i64 0, .int .i64 0, .slice none 0 0] 78)) := (Below.refl _ _).alloc (Nat.le_refl _) _
    have hsb := hsa.below hbA hsa.lt
    have hn6 : Has (wa.alloc (.cells #[.int .i64 0, .int .i64 0, .slice none 0 0] 78)) wa.heap.size 78 #[.int .i64 0, .int .i64 0, .slice none 0 0] := Has.new wa _ _
    refine ready1 8 (by kernel_rfl) (stepVal (some 6) (.pointer (some ⟨wa.heap.size, 0, none⟩)) (wa.alloc (.cells #[.int .i64 0, .int .i64 0, .slice none 0 0] 78)) rfl rfl (by rfl) (by kernel_rfl) ⟨hsb, ?_⟩)
    simp only [Act.put, List.setIfInBounds_toArray, List.set_cons_zero, List.set_cons_succ]
    obtain ⟨W6, hW6⟩ : ∃ W6, W6 = (wa.alloc (.cells #[.int .i64 0, .int .i64 0, .slice none 0 0] 78)).setRow wa.heap.size #[.int .i64 (rd : Nat), .int .i64 (rs : Nat), .slice (some ⟨gb, 0, none⟩) 64 gc] := ⟨_, rfl⟩
    have HF6 := hidC (last_mid (B6 := wa.heap.size) HS0.out HB.out HBD.out (hba.trans (hbA.mono hba.size)) hn6 hba.size hW6)
    have hsc := HF6.out.2.2.2.2
    refine ready1 9 (by kernel_rfl) (stepSkip none W6 rfl rfl (by rfl) (by rw [hW6]; exact run_store_row 78 _ _ rfl wa.heap.size rfl #[.int .i64 (rd : Nat), .int .i64 (rs : Nat), .slice (some ⟨gb, 0, none⟩) 64 gc] rfl 78 Try.size78 _ hn6 rfl (by simp [Value.oneCell'])) ⟨hsc, ?_⟩)
    simp only [Act.put]
    refine takeTo 10 (some 7) (.bool true) rfl rfl (by kernel_rfl) (by kernel_rfl) (by kernel_rfl) (fun _ _ _ h => h) (by rfl) (fun _ _ => rfl) hsc ?_
    simp only [Act.put, List.setIfInBounds_toArray, List.set_cons_zero, List.set_cons_succ]
    refine wpAnyH_done (by kernel_rfl) ?_ _
    obtain ⟨B6, hB6⟩ : ∃ B6, B6 = wa.heap.size := ⟨_, rfl⟩
    rw [← hB6] at HF6 ⊢
    clear hn6 hsb hsa hsc hbA hba hW6 hB6
    clear hHeld
    have e0 := HF6.out.2.2.2.1.cell 0
    have e1 := HF6.out.2.2.2.1.cell 1
    have e2 := HF6.out.2.2.2.1.cell 2
    go_wp2_with (first
      | ((with_reducible refine at_dstC 21 rfl ?_)
         (refine wpList_is (some 21) (.agg #[.int .i64 (rd : Nat), .int .i64 (rs : Nat), .slice (some ⟨gb, 0, none⟩) 64 gc]) rfl (by rfl) (run_load_wr _ rfl _ 0 rfl _ _ _ _ e0 e1 e2) ?_))
      | ((refine wpList_store_rowG rfl 78 _ _ rfl B4 #[.int .i64 (rd : Nat), .int .i64 (rs : Nat), .slice (some ⟨gb, 0, none⟩) 64 gc] rfl rfl 78 _ HF6.out.2.1 Try.size78 rfl (by simp [Value.oneCell']) ?_)
         (intro w8 hw8)
         (have HF8 := hidC (last_put1 HF6.out HB.out hw8))
         (have c5 := HF8.out.2.2.cell 0)
         (have f5 := HF8.out.2.2.free 0)
         (simp only [List.getElem?_toArray, List.getElem?_cons_zero] at c5)
         (clear hw8)))
    have HF9 := hidC (last_put2 HF8.out HB.out)
    refine leavesP (results_cell2 rfl _ _ B4 B5 78 _ (0, 0) _ true rfl HF9.out.2.1 Try.underlying78 Try.size78 rfl (HF9.out.2.2.cell 0)) ?_
    exact ⟨rfl, HF9.out.1⟩
  · have hbA : Below W3.drew.heap.size W3.drew (W3.drew.alloc (.cells #[.int .i64 0, .int .i64 0, .slice none 0 0] 78)) := (Below.refl _ _).alloc (Nat.le_refl _) _
    have hsb := hHeld.below hbA hHeld.lt
    have hn6 : Has (W3.drew.alloc (.cells #[.int .i64 0, .int .i64 0, .slice none 0 0] 78)) W3.drew.heap.size 78 #[.int .i64 0, .int .i64 0, .slice none 0 0] := Has.new W3.drew _ _
    refine stepVal (some 6) (.pointer (some ⟨W3.drew.heap.size, 0, none⟩)) (W3.drew.alloc (.cells #[.int .i64 0, .int .i64 0, .slice none 0 0] 78)) rfl rfl (by rfl) (by kernel_rfl) ⟨hsb, ?_⟩
    simp only [Act.put, List.setIfInBounds_toArray, List.set_cons_zero, List.set_cons_succ]
    refine callTo 4 (some 17) 68 #[.pointer (some ⟨cb, 1, none⟩), .agg #[.int .i64 (d : Nat), .int .i64 (s : Nat)]] (by kernel_rfl) rfl rfl (by rfl) (by kernel_rfl) (HG.out _ (HBD.out.trans (hbA.mono HBD.out.size))) ?_
    rintro e wa ⟨rfl, hba⟩
    have hsa := hsb.below hba hsb.lt
    have hn7 := hn6.below hba hn6.lt
    refine ⟨_, rfl, hsa, ?_⟩
    simp only [Act.put, List.setIfInBounds_toArray, List.set_cons_zero, List.set_cons_succ]
    refine takeTo 5 (some 12) (.tuple #[.agg #[.int .i64 (rd : Nat), .int .i64 (rs : Nat), .slice (some ⟨gb, 0, none⟩) 64 gc], .bool true]) rfl rfl (by kernel_rfl) (by kernel_rfl) (by kernel_rfl) (fun _ _ _ h => h) (by rfl) (fun _ _ => rfl) hsa ?_
    simp only [Act.put, List.setIfInBounds_toArray, List.set_cons_zero, List.set_cons_succ]
    refine takeTo 6 (some 18) (.agg #[.int .i64 (rd : Nat), .int .i64 (rs : Nat), .slice (some ⟨gb, 0, none⟩) 64 gc]) rfl rfl (by kernel_rfl) (by kernel_rfl) (by kernel_rfl) (fun _ _ _ h => h) (by rfl) (fun _ _ => rfl) hsa ?_
    simp only [Act.put, List.setIfInBounds_toArray, List.set_cons_zero, List.set_cons_succ]
    refine takeTo 7 (some 19) (.bool true) rfl rfl (by kernel_rfl) (by kernel_rfl) (by kernel_rfl) (fun _ _ _ h => h) (by rfl) (fun _ _ => rfl) hsa ?_
    simp only [Act.put, List.setIfInBounds_toArray, List.set_cons_zero, List.set_cons_succ]
    obtain ⟨W6, hW6⟩ : ∃ W6, W6 = wa.setRow W3.drew.heap.size #[.int .i64 (rd : Nat), .int .i64 (rs : Nat), .slice (some ⟨gb, 0, none⟩) 64 gc] := ⟨_, rfl⟩
    have HF6 := hidC (last_mid (B6 := W3.drew.heap.size) HS0.out HB.out HBD.out (hbA.trans (hba.mono hbA.size)) hn7 (Nat.le_refl _) hW6)
    have hsc := HF6.out.2.2.2.2
    refine ready1 9 (by kernel_rfl) (stepSkip none W6 rfl rfl (by rfl) (by rw [hW6]; exact run_store_row 78 _ _ rfl W3.drew.heap.size rfl #[.int .i64 (rd : Nat), .int .i64 (rs : Nat), .slice (some ⟨gb, 0, none⟩) 64 gc] rfl 78 Try.size78 _ hn7 rfl (by simp [Value.oneCell'])) ⟨hsc, ?_⟩)
    simp only [Act.put]
    refine takeTo 10 (some 7) (.bool true) rfl rfl (by kernel_rfl) (by kernel_rfl) (by kernel_rfl) (fun _ _ _ h => h) (by rfl) (fun _ _ => rfl) hsc ?_
    simp only [Act.put, List.setIfInBounds_toArray, List.set_cons_zero, List.set_cons_succ]
    refine wpAnyH_done (by kernel_rfl) ?_ _
    obtain ⟨B6, hB6⟩ : ∃ B6, B6 = W3.drew.heap.size := ⟨_, rfl⟩
    rw [← hB6] at HF6 ⊢
    clear hn6 hn7 hsb hsa hsc hbA hba hW6 hB6
    clear hHeld
    have e0 := HF6.out.2.2.2.1.cell 0
    have e1 := HF6.out.2.2.2.1.cell 1
    have e2 := HF6.out.2.2.2.1.cell 2
    go_wp2_with (first
      | ((with_reducible refine at_dstC 21 rfl ?_)
         (refine wpList_is (some 21) (.agg #[.int .i64 (rd : Nat), .int .i64 (rs : Nat), .slice (some ⟨gb, 0, none⟩) 64 gc]) rfl (by rfl) (run_load_wr _ rfl _ 0 rfl _ _ _ _ e0 e1 e2) ?_))
      | ((refine wpList_store_rowG rfl 78 _ _ rfl B4 #[.int .i64 (rd : Nat), .int .i64 (rs : Nat), .slice (some ⟨gb, 0, none⟩) 64 gc] rfl rfl 78 _ HF6.out.2.1 Try.size78 rfl (by simp [Value.oneCell']) ?_)
         (intro w8 hw8)
         (have HF8 := hidC (last_put1 HF6.out HB.out hw8))
         (have c5 := HF8.out.2.2.cell 0)
         (have f5 := HF8.out.2.2.free 0)
         (simp only [List.getElem?_toArray, List.getElem?_cons_zero] at c5)
         (clear hw8)))
    have HF9 := hidC (last_put2 HF8.out HB.out)
    refine leavesP (results_cell2 rfl _ _ B4 B5 78 _ (0, 0) _ true rfl HF9.out.2.1 Try.underlying78 Try.size78 rfl (HF9.out.2.2.cell 0)) ?_
    exact ⟨rfl, HF9.out.1⟩

set_option maxRecDepth 100000 in
set_option maxHeartbeats 4000000 in
theorem last_out (h : CAt w cb P dv o kv ks GO GK) (d s : Nat) (hlen : ks.length ≤ 1000) (hq : look o.rows d s = none) :
    CallsIn Fence.wide 3 Try.prog 50 #[ptr cb, .agg #[.int .i64 (d : Nat), .int .i64 (s : Nat)]] w fun e w' => e = .returned (.tuple #[gv (lastK ks d s), .bool (lastK ks d s).isSome]) ∧ Below w.heap.size w w' := by
  obtain ⟨W3, hW3⟩ : ∃ W3, W3 = ((w.alloc (.cells #[.int .i64 (d : Nat), .int .i64 (s : Nat)] 76)).alloc (.cells #[.int .i64 0, .int .i64 0, .slice none 0 0] 78)).alloc (.cells #[.bool false] 4) := ⟨_, rfl⟩
  obtain ⟨B3, hB3⟩ : ∃ B3, B3 = w.heap.size := ⟨_, rfl⟩
  obtain ⟨B4, hB4⟩ : ∃ B4, B4 = w.heap.size + 1 := ⟨_, rfl⟩
  obtain ⟨B5, hB5⟩ : ∃ B5, B5 = w.heap.size + 1 + 1 := ⟨_, rfl⟩
  have HB := hidC (show LB w B3 B4 B5 from ⟨hB3, hB4, hB5⟩)
  have hbd : Below w.heap.size w W3.drew := by
    rw [hW3]
    exact ((((Below.refl w.heap.size w).alloc (Nat.le_refl _) _).alloc (by simp) _).alloc (by simp; omega) _).trans ⟨rfl, rfl, rfl, Nat.le_refl _, fun _ _ => rfl⟩
  have HBD := hidC hbd
  have HS0 := hidC (show LS w W3.drew B3 B4 B5 d s from by
    rw [hW3, hB3, hB4, hB5]
    exact ⟨((Has.new w _ _).alloc _).alloc _, (Has.new_at (by simp)).alloc _, Has.new_at (by simp)⟩)
  have HS3 := hidC HS0.out.1
  have HG := hidC (fun W (hb : Below w.heap.size w W) => by
    have hC := h.next hb
    have hg := get_c (d := d) (s := s) hC.opn (fun k hk => hC.lt k (.inl hk)) (b := cb) (off := 1) (hC.lt cb (.inr hC.gcb)) (hC.str.cell 1) (hC.str.cell 2)
    rw [hq] at hg
    exact hg)
  have HG := hidC (show ∀ W, Below w.heap.size w W → Calls Try.prog 68 #[.pointer (some ⟨cb, 1, none⟩), .agg #[.int .i64 (d : Nat), .int .i64 (s : Nat)]] W fun e w' => e = .returned (.tuple #[.agg #[.int .i64 0, .int .i64 0, .slice none 0 0], .bool false]) ∧ Below W.heap.size W w' from HG.out)
  obtain ⟨aK, gk, cK, rfl, hkc⟩ := h.kcells
  obtain ⟨NK, hNK⟩ : ∃ NK, NK = ks.length := ⟨_, rfl⟩
  have HC := hidC (show CAt w cb P dv o (.slice aK NK cK) ks GO GK from by rw [hNK]; exact h)
  rw [← hNK] at hkc hlen
  obtain ⟨mf, hmf⟩ : ∃ mf : Nat → Value, mf = fun i => (ks.getD i gnil).mv := ⟨_, rfl⟩
  obtain ⟨lf, hlf⟩ : ∃ lf : Nat → Value, lf = fun i => (ks.getD i gnil).lv := ⟨_, rfl⟩
  have HM := hidC (show (∀ i, mf i = (ks.getD i gnil).mv) ∧ (∀ i, lf i = (ks.getD i gnil).lv) ∧ ∀ i, (#[mf i, lf i] : Array Value).all (·.oneCell') = true from ⟨fun i => by rw [hmf], fun i => by rw [hlf], fun i => by rw [hmf, hlf]; exact one_at h i⟩)
  rw [← hmf, ← hlf] at hkc
  have HK := hidC (And.intro hNK hkc)
  have HW3 := hidC hW3
  have HB0 := hidC (And.intro hB3 (And.intro hB4 hB5))
  clear h hq hbd hW3 hB3 hB4 hB5 hNK hkc hmf hlf
  refine callsIn_of_wp_marks Try.func50 rfl trivial ?_ rfl
  simp only [Try.ntmps50, List.size_toArray, List.length_cons, List.length_nil, Nat.reduceAdd, Nat.reduceSub, Array.replicate_succ, Array.replicate_zero, List.push_toArray, List.append_toArray, List.nil_append, List.cons_append]
  refine wpIn_mono (Q := noP (bodyPostM Fence.wide 3 Try.prog _ _)) ?_ noP_out
  refine wpIn_wide.2 ?_
  go_wp2
  rw [← HW3.out, ← HB0.out.2.2, ← HB0.out.2.1, ← HB0.out.1]
  refine wp_region_held_drew (S := fun wz => Has wz B3 76 #[.int .i64 (d : Nat), .int .i64 (s : Nat)]) (by kernel_rfl) HS3.out (fun hHeld => ?_)
  refine takeTo 0 (some 13) (ptr cb) rfl rfl (by kernel_rfl) (by kernel_rfl) (by kernel_rfl) (fun _ _ _ h => h) (by rfl) (fun _ _ => rfl) hHeld ?_
  simp only [Act.put, List.setIfInBounds_toArray, List.set_cons_zero, List.set_cons_succ]
  refine takeTo 1 (some 14) (ptr cb) rfl rfl (by kernel_rfl) (by kernel_rfl) (by kernel_rfl) (fun _ _ _ h => h) (by rfl) (fun _ _ => rfl) hHeld ?_
  simp only [Act.put, List.setIfInBounds_toArray, List.set_cons_zero, List.set_cons_succ]
  refine takeTo 2 (some 15) (.pointer (some ⟨cb, 1, none⟩)) rfl rfl (by kernel_rfl) (by kernel_rfl) (by kernel_rfl) (fun _ _ _ h => h) (by rfl) (fun _ _ => rfl) hHeld ?_
  simp only [Act.put, List.setIfInBounds_toArray, List.set_cons_zero, List.set_cons_succ]
  refine takeTo 3 (some 16) (.agg #[.int .i64 (d : Nat), .int .i64 (s : Nat)]) rfl rfl (by kernel_rfl) (by kernel_rfl) (by kernel_rfl) (fun _ _ _ h => h) (by rfl) (fun wz hz => run_load_pl _ rfl B3 0 rfl d s _ (hz.cell 0) (hz.cell 1)) hHeld ?_
  simp only [Act.put, List.setIfInBounds_toArray, List.set_cons_zero, List.set_cons_succ]
  refine ready2 4 8 (by kernel_rfl) ?_ ?_
  · refine stepCall (some 17) 68 #[.pointer (some ⟨cb, 1, none⟩), .agg #[.int .i64 (d : Nat), .int .i64 (s : Nat)]] rfl rfl (by rfl) (by kernel_rfl) (HG.out _ HBD.out) ?_
    rintro e wa ⟨rfl, hba⟩
    have hsa := hHeld.below hba hHeld.lt
    refine ⟨_, rfl, hsa, ?_⟩
    simp only [Act.put, List.setIfInBounds_toArray, List.set_cons_zero, List.set_cons_succ]
    refine takeTo 5 (some 12) (.tuple #[.agg #[.int .i64 0, .int .i64 0, .slice none 0 0], .bool false]) rfl rfl (by kernel_rfl) (by kernel_rfl) (by kernel_rfl) (fun _ _ _ h => h) (by rfl) (fun _ _ => rfl) hsa ?_
    simp only [Act.put, List.setIfInBounds_toArray, List.set_cons_zero, List.set_cons_succ]
    refine takeTo 6 (some 18) (.agg #[.int .i64 0, .int .i64 0, .slice none 0 0]) rfl rfl (by kernel_rfl) (by kernel_rfl) (by kernel_rfl) (fun _ _ _ h => h) (by rfl) (fun _ _ => rfl) hsa ?_
    simp only [Act.put, List.setIfInBounds_toArray, List.set_cons_zero, List.set_cons_succ]
    refine takeTo 7 (some 19) (.bool false) rfl rfl (by kernel_rfl) (by kernel_rfl) (by kernel_rfl) (fun _ _ _ h => h) (by rfl) (fun _ _ => rfl) hsa ?_
    simp only [Act.put, List.setIfInBounds_toArray, List.set_cons_zero, List.set_cons_succ]
    have hbA : Below wa.heap.size wa (wa.alloc (.cells #[.int .i64 0, .int .i64 0, .slice none 0 0] 78)) := (Below.refl _ _).alloc (Nat.le_refl _) _
    have hsb := hsa.below hbA hsa.lt
    have hn6 : Has (wa.alloc (.cells #[.int .i64 0, .int .i64 0, .slice none 0 0] 78)) wa.heap.size 78 #[.int .i64 0, .int .i64 0, .slice none 0 0] := Has.new wa _ _
    refine ready1 8 (by kernel_rfl) (stepVal (some 6) (.pointer (some ⟨wa.heap.size, 0, none⟩)) (wa.alloc (.cells #[.int .i64 0, .int .i64 0, .slice none 0 0] 78)) rfl rfl (by rfl) (by kernel_rfl) ⟨hsb, ?_⟩)
    simp only [Act.put, List.setIfInBounds_toArray, List.set_cons_zero, List.set_cons_succ]
    obtain ⟨W6, hW6⟩ : ∃ W6, W6 = (wa.alloc (.cells #[.int .i64 0, .int .i64 0, .slice none 0 0] 78)).setRow wa.heap.size #[.int .i64 0, .int .i64 0, .slice none 0 0] := ⟨_, rfl⟩
    have HF6 := hidC (last_mid (B6 := wa.heap.size) HS0.out HB.out HBD.out (hba.trans (hbA.mono hba.size)) hn6 hba.size hW6)
    have hsc := HF6.out.2.2.2.2
    refine ready1 9 (by kernel_rfl) (stepSkip none W6 rfl rfl (by rfl) (by rw [hW6]; exact run_store_row 78 _ _ rfl wa.heap.size rfl #[.int .i64 0, .int .i64 0, .slice none 0 0] rfl 78 Try.size78 _ hn6 rfl (by simp [Value.oneCell'])) ⟨hsc, ?_⟩)
    simp only [Act.put]
    refine takeTo 10 (some 7) (.bool false) rfl rfl (by kernel_rfl) (by kernel_rfl) (by kernel_rfl) (fun _ _ _ h => h) (by rfl) (fun _ _ => rfl) hsc ?_
    simp only [Act.put, List.setIfInBounds_toArray, List.set_cons_zero, List.set_cons_succ]
    refine wpAnyH_done (by kernel_rfl) ?_ _
    obtain ⟨B6, hB6⟩ : ∃ B6, B6 = wa.heap.size := ⟨_, rfl⟩
    rw [← hB6] at HF6 ⊢
    clear hn6 hsb hsa hsc hbA hba hW6 hB6
    clear hHeld
    have hC6 := HC.out.next HF6.out.1
    have k3 := hC6.str.cell 3
    simp only [List.getElem?_toArray, List.getElem?_cons_zero, List.getElem?_cons_succ] at k3
    clear hC6
    go_wp2_with (first
      | ((with_reducible refine at_dstC 25 rfl ?_)
         (refine wpList_is (some 25) (.slice aK NK cK) rfl (by rfl) (run_load_gsC _ rfl _ rfl _ _ k3) ?_))
      | ((go_at_call 69)
         (refine (backward_any _ _ _ _).mono ?_)
         (rintro e w7 ⟨rfl, rfl⟩)))
    refine (wpIn_wide (n := 3)).1 ?_
    have hb7 : Below W6.heap.size W6 (W6.alloc (.cells #[.slice aK NK cK] 71)) := (Below.refl _ _).alloc (Nat.le_refl _) _
    have h0 : LI w B3 B4 B5 d s ks [] (W6.alloc (.cells #[.slice aK NK cK] 71)) := ⟨HF6.out.1.trans (hb7.mono HF6.out.1.size), HF6.out.2.2.2.2.below hb7 HF6.out.2.2.2.2.lt, HF6.out.2.1.below hb7 HF6.out.2.1.lt, HF6.out.2.2.1.below hb7 HF6.out.2.2.1.lt, fun j hj => by cases hj⟩
    have hsz : (W6.alloc (.cells #[.slice aK NK cK] 71)).heap.size = W6.heap.size + 1 := by simp
    have hle := HF6.out.1.size
    refine range_law (n := 3) (gf := 71) (lb := #[.pointer (some ⟨W6.heap.size, 0, none⟩)]) rfl (enters_of Try.func71 (by kernel_rfl) rfl)
      (bwd_seq (3 - 1) W6.heap.size NK gk cK mf lf aK hlen _ (Has.new _ _ _)) (fun _ => rfl)
      (LI w B3 B4 B5 d s ks) (LX w B4 B5 d s ks) (fun pre V hV => HK.out.2 V hV.1) (li_firm (by omega)) (lx_firm (by omega)) h0
      (AtG (fun x b => #[ptr cb, .agg #[.int .i64 (d : Nat), .int .i64 (s : Nat)], undef, .pointer (some ⟨B3, 0, none⟩), .pointer (some ⟨B4, 0, none⟩), .pointer (some ⟨B5, 0, none⟩), .pointer (some ⟨B6, 0, none⟩), .bool false, undef, .pointer (some ⟨b, 0, none⟩), undef, undef, .tuple #[.agg #[.int .i64 0, .int .i64 0, .slice none 0 0], .bool false], ptr cb, ptr cb, .pointer (some ⟨cb, 1, none⟩), .agg #[.int .i64 (d : Nat), .int .i64 (s : Nat)], .tuple #[.agg #[.int .i64 0, .int .i64 0, .slice none 0 0], .bool false], .agg #[.int .i64 0, .int .i64 0, .slice none 0 0], .bool false, .bool false, undef, ptr cb, .pointer (some ⟨cb, 0, none⟩), .pointer (some ⟨cb, 3, none⟩), .slice aK NK cK, .func (.func 71) #[] #[.pointer (some ⟨W6.heap.size, 0, none⟩)], .int .i64 ((NK - 1 - x : Nat) : Nat), .agg #[mf (NK - 1 - x), lf (NK - 1 - x)], undef, undef, undef, undef, undef, undef, undef, undef]) mf lf NK) (fun x a' => atG_own _ _ _ _ _ _ _) ?assign ?body ?done ?stop
    case assign =>
      intro l pre x W K hI hK
      have h1 := HM.out.2.2 (NK - 1 - x)
      simp only [benc]
      have hn : Has (W.alloc (.cells #[.map none, .slice none 0 0] 70)) W.heap.size 70 #[.map none, .slice none 0 0] := Has.new _ _ _
      have hba : Below W.heap.size W (W.alloc (.cells #[.map none, .slice none 0 0] 70)) := (Below.refl _ _).alloc (Nat.le_refl _) _
      refine region_list_in ?_ (by kernel_rfl) ?_
      · rintro ⟨_, _, h⟩
        exact h
      go_wp2_with (first
        | ((refine wpList_store_rowG rfl 70 _ _ rfl W.heap.size #[mf (NK - 1 - x), lf (NK - 1 - x)] rfl rfl 70 _ hn Try.size70 rfl h1 ?_)
           (intro w8 hw8)
           (have HW8 := hidC hw8)
           (clear hw8)))
      have hw8 := HW8.out
      have hb8 : Below W.heap.size W w8 := by rw [hw8]; exact below_setRow hba (Nat.le_refl _) _
      refine hK _ _ (Stay.below hb8 (Nat.le_refl _)) (li_below hI hb8) ⟨W.heap.size, rfl, ?_⟩
      rw [hw8]
      exact hn.setRow _
    case body =>
      rintro l pre k a' W hpre ⟨hBw, H3, H4, H5, hno⟩ ⟨b, rfl, hb⟩
      obtain ⟨hk, rfl⟩ := next_range hpre
      rw [List.length_range] at hno
      obtain ⟨q, hq⟩ : ∃ q, q = look (ks.getD (NK - 1 - k) gnil).rows d s := ⟨_, rfl⟩
      have hgr : Grp W GK (ks.getD (NK - 1 - k) gnil).mv (ks.getD (NK - 1 - k) gnil).lv (ks.getD (NK - 1 - k) gnil).rows := (HC.out.next hBw).kgs _ (getD_mem (by have := HK.out.1; omega))
      have HKG := hidC (fun V (hV : Below W.heap.size W V) => by
        have hC := HC.out.next (hBw.trans (hV.mono hBw.size))
        have h1 := get_c (d := d) (s := s) (hgr.kept (fun x hx => hV.block x ((HC.out.next hBw).lt x (.inr hx)))) (fun x hx => hC.lt x (.inr hx)) (b := b) (off := 0) ((hb.below hV hb.lt).lt) (by rw [← HM.out.1]; exact (hb.below hV hb.lt).cell 0) (by rw [← HM.out.2.1]; exact (hb.below hV hb.lt).cell 1)
        rw [← hq] at h1
        exact h1)
      obtain ⟨x, y, z, zl, zc, hgv⟩ : ∃ (x y : Nat) (z : Option Addr) (zl zc : Nat), gv q = .agg #[.int .i64 (x : Nat), .int .i64 (y : Nat), .slice z zl zc] := gv_is (fun r hr => hgr.dat r (List.mem_of_find?_eq_some (by rw [← hr, hq]; rfl)))
      obtain ⟨hit, hhit⟩ : ∃ hit, hit = q.isSome := ⟨_, rfl⟩
      rw [hgv, ← hhit] at HKG
      have HQ := hidC (And.intro hq (And.intro hhit hgv))
      have HNO := hidC hno
      have HI := hidC (And.intro hBw (And.intro H3 (And.intro H4 H5)))
      have HKK := hidC hk
      have t0 := H3.cell 0
      have t1 := H3.cell 1
      clear hgr hq hgv hhit hno hpre hBw H3 H4 H5 hk
      gi_wp2
      refine ⟨trivial, (callsIn_round (HKG.out _ (Below.refl _ _))).mono ?_⟩
      rintro e w8 ⟨rfl, hb8⟩
      have H4 := HI.out.2.2.1.below hb8 HI.out.2.2.1.lt
      have H5 := HI.out.2.2.2.below hb8 HI.out.2.2.2.lt
      have c40 := H4.cell 0
      have c41 := H4.cell 1
      have c42 := H4.cell 2
      have c50 := H5.cell 0
      simp only [List.getElem?_toArray, List.getElem?_cons_zero, List.getElem?_cons_succ] at c40 c41 c42 c50
      have f40 := H4.free 0
      have f41 := H4.free 1
      have f42 := H4.free 2
      have f50 := H5.free 0
      have l4 := H4.lt
      have l5 := H5.lt
      have HH := hidC (And.intro H4 (And.intro H5 hb8))
      have n45 : B4 ≠ B5 := by have := HB.out; unfold LB at this; omega
      clear H4 H5 hb8
      have HIT := hidC (show hit = q.isSome from HQ.out.2.1)
      cases hit with
      | true =>
        gi_wp2
        obtain ⟨r, hr⟩ := Option.isSome_iff_exists.1 HIT.out.symm
        have hgv := HQ.out.2.2
        rw [hr] at hgv
        have hga : #[.int .i64 (r.1.d : Nat), .int .i64 (r.1.s : Nat), r.2] = #[.int .i64 (x : Nat), .int .i64 (y : Nat), .slice z zl zc] := Value.agg.inj hgv
        have hp := put_last HH.out.1 HH.out.2.1 n45 (HI.out.1.trans (HH.out.2.2.mono HI.out.1.size)) (by have := HB.out; unfold LB at this; omega) (by have := HB.out; unfold LB at this; omega) (.int .i64 (x : Nat)) (.int .i64 (y : Nat)) (.slice z zl zc) (.bool true)
        exact ⟨((Stay.below HH.out.2.2 (Nat.le_refl _)).trans hp.1).trans (Stay.alloc _ _), hp.2.2.2.trans (((Below.refl _ _).alloc (Nat.le_refl _) _).mono hp.2.2.2.size), r, lastK_at HNO.out (by have := HKK.out; have := HK.out.1; omega) (by rw [← HK.out.1, ← HQ.out.1]; exact hr), by rw [hga]; exact hp.2.1.alloc _, hp.2.2.1.alloc _⟩
      | false =>
        gi_wp2
        have hq0 : q = none := by
          have := HIT.out
          cases q with
          | none => rfl
          | some r => cases this
        have hba : Below W.heap.size W (w8.alloc (.cells #[.int .i64 (x : Nat), .int .i64 (y : Nat), .slice z zl zc] 78)) := HH.out.2.2.trans (((Below.refl _ _).alloc (Nat.le_refl _) _).mono HH.out.2.2.size)
        have hli : LI w B3 B4 B5 d s ks (List.range k) W := ⟨HI.out.1, HI.out.2.1, HI.out.2.2.1, HI.out.2.2.2, fun j hj => HNO.out j (by simpa using hj)⟩
        have hl2 := li_below hli hba
        refine ⟨Stay.below hba (Nat.le_refl _), hl2.1, hl2.2.1, hl2.2.2.1, hl2.2.2.2.1, fun j hj => ?_⟩
        rw [List.length_append, List.length_range, List.length_singleton] at hj
        by_cases hjk : j < k
        · exact HNO.out j hjk
        · obtain rfl : j = k := by omega
          rw [← HK.out.1, ← HQ.out.1]
          exact hq0
    case done =>
      rintro D W hD ⟨hBw, H3, H4, H5, hno⟩ hK
      have c40 := H4.cell 0
      have c41 := H4.cell 1
      have c42 := H4.cell 2
      have c50 := H5.cell 0
      simp only [List.getElem?_toArray, List.getElem?_cons_zero, List.getElem?_cons_succ] at c40 c41 c42 c50
      have f40 := H4.free 0
      have f41 := H4.free 1
      have f42 := H4.free 2
      have f50 := H5.free 0
      have l4 := H4.lt
      have l5 := H5.lt
      have HH := hidC (And.intro H4 (And.intro H5 (And.intro hBw hno)))
      have HKD := hidC hK
      have n45 : B4 ≠ B5 := by have := HB.out; unfold LB at this; omega
      clear H4 H5 H3 hBw hno hK
      go_wp2
      have hp := put_last HH.out.1 HH.out.2.1 n45 HH.out.2.2.1 (by have := HB.out; unfold LB at this; omega) (by have := HB.out; unfold LB at this; omega) (.int .i64 0) (.int .i64 0) (.slice none 0 0) (.bool false)
      have hd4 : D ≠ B4 := fun e => by have h1 := HH.out.1; have h2 := HKD.out; rw [e] at h2; unfold Has at h1; rw [h1] at h2; cases h2
      have hd5 : D ≠ B5 := fun e => by have h1 := HH.out.2.1; have h2 := HKD.out; rw [e] at h2; unfold Has at h1; rw [h1] at h2; cases h2
      refine leave_last (B4 := B4) (B5 := B5) rfl rfl rfl hp.2.2.2 hp.2.1 rfl hp.2.2.1 (keep_def hd4 hd5 HKD.out) (by omega) (fun W' hW' => ⟨?_, hW'⟩)
      rw [lastK_no (fun j hj => HH.out.2.2.2 j (by rw [List.length_range, HK.out.1]; exact hj))]
      rfl
    case stop =>
      rintro D pre W hD hpre ⟨hBw, r, hr, H4, H5⟩ hK
      gi_wp2
      refine leave_last (B4 := B4) (B5 := B5) rfl rfl rfl hBw H4 rfl H5 hK (by omega) (fun W' hW' => ⟨?_, hW'⟩)
      rw [hr]
      rfl
  · have hbA : Below W3.drew.heap.size W3.drew (W3.drew.alloc (.cells #[.int .i64 0, .int .i64 0, .slice none 0 0] 78)) := (Below.refl _ _).alloc (Nat.le_refl _) _
    have hsb := hHeld.below hbA hHeld.lt
    have hn6 : Has (W3.drew.alloc (.cells #[.int .i64 0, .int .i64 0, .slice none 0 0] 78)) W3.drew.heap.size 78 #[.int .i64 0, .int .i64 0, .slice none 0 0] := Has.new W3.drew _ _
    refine stepVal (some 6) (.pointer (some ⟨W3.drew.heap.size, 0, none⟩)) (W3.drew.alloc (.cells #[.int .i64 0, .int .i64 0, .slice none 0 0] 78)) rfl rfl (by rfl) (by kernel_rfl) ⟨hsb, ?_⟩
    simp only [Act.put, List.setIfInBounds_toArray, List.set_cons_zero, List.set_cons_succ]
    refine callTo 4 (some 17) 68 #[.pointer (some ⟨cb, 1, none⟩), .agg #[.int .i64 (d : Nat), .int .i64 (s : Nat)]] (by kernel_rfl) rfl rfl (by rfl) (by kernel_rfl) (HG.out _ (HBD.out.trans (hbA.mono HBD.out.size))) ?_
    rintro e wa ⟨rfl, hba⟩
    have hsa := hsb.below hba hsb.lt
    have hn7 := hn6.below hba hn6.lt
    refine ⟨_, rfl, hsa, ?_⟩
    simp only [Act.put, List.setIfInBounds_toArray, List.set_cons_zero, List.set_cons_succ]
    refine takeTo 5 (some 12) (.tuple #[.agg #[.int .i64 0, .int .i64 0, .slice none 0 0], .bool false]) rfl rfl (by kernel_rfl) (by kernel_rfl) (by kernel_rfl) (fun _ _ _ h => h) (by rfl) (fun _ _ => rfl) hsa ?_
    simp only [Act.put, List.setIfInBounds_toArray, List.set_cons_zero, List.set_cons_succ]
    refine takeTo 6 (some 18) (.agg #[.int .i64 0, .int .i64 0, .slice none 0 0]) rfl rfl (by kernel_rfl) (by kernel_rfl) (by kernel_rfl) (fun _ _ _ h => h) (by rfl) (fun _ _ => rfl) hsa ?_
    simp only [Act.put, List.setIfInBounds_toArray, List.set_cons_zero, List.set_cons_succ]
    refine takeTo 7 (some 19) (.bool false) rfl rfl (by kernel_rfl) (by kernel_rfl) (by kernel_rfl) (fun _ _ _ h => h) (by rfl) (fun _ _ => rfl) hsa ?_
    simp only [Act.put, List.setIfInBounds_toArray, List.set_cons_zero, List.set_cons_succ]
    obtain ⟨W6, hW6⟩ : ∃ W6, W6 = wa.setRow W3.drew.heap.size #[.int .i64 0, .int .i64 0, .slice none 0 0] := ⟨_, rfl⟩
    have HF6 := hidC (last_mid (B6 := W3.drew.heap.size) HS0.out HB.out HBD.out (hbA.trans (hba.mono hbA.size)) hn7 (Nat.le_refl _) hW6)
    have hsc := HF6.out.2.2.2.2
    refine ready1 9 (by kernel_rfl) (stepSkip none W6 rfl rfl (by rfl) (by rw [hW6]; exact run_store_row 78 _ _ rfl W3.drew.heap.size rfl #[.int .i64 0, .int .i64 0, .slice none 0 0] rfl 78 Try.size78 _ hn7 rfl (by simp [Value.oneCell'])) ⟨hsc, ?_⟩)
    simp only [Act.put]
    refine takeTo 10 (some 7) (.bool false) rfl rfl (by kernel_rfl) (by kernel_rfl) (by kernel_rfl) (fun _ _ _ h => h) (by rfl) (fun _ _ => rfl) hsc ?_
    simp only [Act.put, List.setIfInBounds_toArray, List.set_cons_zero, List.set_cons_succ]
    refine wpAnyH_done (by kernel_rfl) ?_ _
    obtain ⟨B6, hB6⟩ : ∃ B6, B6 = W3.drew.heap.size := ⟨_, rfl⟩
    rw [← hB6] at HF6 ⊢
    clear hn6 hn7 hsb hsa hsc hbA hba hW6 hB6
    clear hHeld
    have hC6 := HC.out.next HF6.out.1
    have k3 := hC6.str.cell 3
    simp only [List.getElem?_toArray, List.getElem?_cons_zero, List.getElem?_cons_succ] at k3
    clear hC6
    go_wp2_with (first
      | ((with_reducible refine at_dstC 25 rfl ?_)
         (refine wpList_is (some 25) (.slice aK NK cK) rfl (by rfl) (run_load_gsC _ rfl _ rfl _ _ k3) ?_))
      | ((go_at_call 69)
         (refine (backward_any _ _ _ _).mono ?_)
         (rintro e w7 ⟨rfl, rfl⟩)))
    refine (wpIn_wide (n := 3)).1 ?_
    have hb7 : Below W6.heap.size W6 (W6.alloc (.cells #[.slice aK NK cK] 71)) := (Below.refl _ _).alloc (Nat.le_refl _) _
    have h0 : LI w B3 B4 B5 d s ks [] (W6.alloc (.cells #[.slice aK NK cK] 71)) := ⟨HF6.out.1.trans (hb7.mono HF6.out.1.size), HF6.out.2.2.2.2.below hb7 HF6.out.2.2.2.2.lt, HF6.out.2.1.below hb7 HF6.out.2.1.lt, HF6.out.2.2.1.below hb7 HF6.out.2.2.1.lt, fun j hj => by cases hj⟩
    have hsz : (W6.alloc (.cells #[.slice aK NK cK] 71)).heap.size = W6.heap.size + 1 := by simp
    have hle := HF6.out.1.size
    refine range_law (n := 3) (gf := 71) (lb := #[.pointer (some ⟨W6.heap.size, 0, none⟩)]) rfl (enters_of Try.func71 (by kernel_rfl) rfl)
      (bwd_seq (3 - 1) W6.heap.size NK gk cK mf lf aK hlen _ (Has.new _ _ _)) (fun _ => rfl)
      (LI w B3 B4 B5 d s ks) (LX w B4 B5 d s ks) (fun pre V hV => HK.out.2 V hV.1) (li_firm (by omega)) (lx_firm (by omega)) h0
      (AtG (fun x b => #[ptr cb, .agg #[.int .i64 (d : Nat), .int .i64 (s : Nat)], undef, .pointer (some ⟨B3, 0, none⟩), .pointer (some ⟨B4, 0, none⟩), .pointer (some ⟨B5, 0, none⟩), .pointer (some ⟨B6, 0, none⟩), .bool false, undef, .pointer (some ⟨b, 0, none⟩), undef, undef, .tuple #[.agg #[.int .i64 0, .int .i64 0, .slice none 0 0], .bool false], ptr cb, ptr cb, .pointer (some ⟨cb, 1, none⟩), .agg #[.int .i64 (d : Nat), .int .i64 (s : Nat)], .tuple #[.agg #[.int .i64 0, .int .i64 0, .slice none 0 0], .bool false], .agg #[.int .i64 0, .int .i64 0, .slice none 0 0], .bool false, .bool false, undef, ptr cb, .pointer (some ⟨cb, 0, none⟩), .pointer (some ⟨cb, 3, none⟩), .slice aK NK cK, .func (.func 71) #[] #[.pointer (some ⟨W6.heap.size, 0, none⟩)], .int .i64 ((NK - 1 - x : Nat) : Nat), .agg #[mf (NK - 1 - x), lf (NK - 1 - x)], undef, undef, undef, undef, undef, undef, undef, undef]) mf lf NK) (fun x a' => atG_own _ _ _ _ _ _ _) ?assign ?body ?done ?stop
    case assign =>
      intro l pre x W K hI hK
      have h1 := HM.out.2.2 (NK - 1 - x)
      simp only [benc]
      have hn : Has (W.alloc (.cells #[.map none, .slice none 0 0] 70)) W.heap.size 70 #[.map none, .slice none 0 0] := Has.new _ _ _
      have hba : Below W.heap.size W (W.alloc (.cells #[.map none, .slice none 0 0] 70)) := (Below.refl _ _).alloc (Nat.le_refl _) _
      refine region_list_in ?_ (by kernel_rfl) ?_
      · rintro ⟨_, _, h⟩
        exact h
      go_wp2_with (first
        | ((refine wpList_store_rowG rfl 70 _ _ rfl W.heap.size #[mf (NK - 1 - x), lf (NK - 1 - x)] rfl rfl 70 _ hn Try.size70 rfl h1 ?_)
           (intro w8 hw8)
           (have HW8 := hidC hw8)
           (clear hw8)))
      have hw8 := HW8.out
      have hb8 : Below W.heap.size W w8 := by rw [hw8]; exact below_setRow hba (Nat.le_refl _) _
      refine hK _ _ (Stay.below hb8 (Nat.le_refl _)) (li_below hI hb8) ⟨W.heap.size, rfl, ?_⟩
      rw [hw8]
      exact hn.setRow _
    case body =>
      rintro l pre k a' W hpre ⟨hBw, H3, H4, H5, hno⟩ ⟨b, rfl, hb⟩
      obtain ⟨hk, rfl⟩ := next_range hpre
      rw [List.length_range] at hno
      obtain ⟨q, hq⟩ : ∃ q, q = look (ks.getD (NK - 1 - k) gnil).rows d s := ⟨_, rfl⟩
      have hgr : Grp W GK (ks.getD (NK - 1 - k) gnil).mv (ks.getD (NK - 1 - k) gnil).lv (ks.getD (NK - 1 - k) gnil).rows := (HC.out.next hBw).kgs _ (getD_mem (by have := HK.out.1; omega))
      have HKG := hidC (fun V (hV : Below W.heap.size W V) => by
        have hC := HC.out.next (hBw.trans (hV.mono hBw.size))
        have h1 := get_c (d := d) (s := s) (hgr.kept (fun x hx => hV.block x ((HC.out.next hBw).lt x (.inr hx)))) (fun x hx => hC.lt x (.inr hx)) (b := b) (off := 0) ((hb.below hV hb.lt).lt) (by rw [← HM.out.1]; exact (hb.below hV hb.lt).cell 0) (by rw [← HM.out.2.1]; exact (hb.below hV hb.lt).cell 1)
        rw [← hq] at h1
        exact h1)
      obtain ⟨x, y, z, zl, zc, hgv⟩ : ∃ (x y : Nat) (z : Option Addr) (zl zc : Nat), gv q = .agg #[.int .i64 (x : Nat), .int .i64 (y : Nat), .slice z zl zc] := gv_is (fun r hr => hgr.dat r (List.mem_of_find?_eq_some (by rw [← hr, hq]; rfl)))
      obtain ⟨hit, hhit⟩ : ∃ hit, hit = q.isSome := ⟨_, rfl⟩
      rw [hgv, ← hhit] at HKG
      have HQ := hidC (And.intro hq (And.intro hhit hgv))
      have HNO := hidC hno
      have HI := hidC (And.intro hBw (And.intro H3 (And.intro H4 H5)))
      have HKK := hidC hk
      have t0 := H3.cell 0
      have t1 := H3.cell 1
      clear hgr hq hgv hhit hno hpre hBw H3 H4 H5 hk
      gi_wp2
      refine ⟨trivial, (callsIn_round (HKG.out _ (Below.refl _ _))).mono ?_⟩
      rintro e w8 ⟨rfl, hb8⟩
      have H4 := HI.out.2.2.1.below hb8 HI.out.2.2.1.lt
      have H5 := HI.out.2.2.2.below hb8 HI.out.2.2.2.lt
      have c40 := H4.cell 0
      have c41 := H4.cell 1
      have c42 := H4.cell 2
      have c50 := H5.cell 0
      simp only [List.getElem?_toArray, List.getElem?_cons_zero, List.getElem?_cons_succ] at c40 c41 c42 c50
      have f40 := H4.free 0
      have f41 := H4.free 1
      have f42 := H4.free 2
      have f50 := H5.free 0
      have l4 := H4.lt
      have l5 := H5.lt
      have HH := hidC (And.intro H4 (And.intro H5 hb8))
      have n45 : B4 ≠ B5 := by have := HB.out; unfold LB at this; omega
      clear H4 H5 hb8
      have HIT := hidC (show hit = q.isSome from HQ.out.2.1)
      cases hit with
      | true =>
        gi_wp2
        obtain ⟨r, hr⟩ := Option.isSome_iff_exists.1 HIT.out.symm
        have hgv := HQ.out.2.2
        rw [hr] at hgv
        have hga : #[.int .i64 (r.1.d : Nat), .int .i64 (r.1.s : Nat), r.2] = #[.int .i64 (x : Nat), .int .i64 (y : Nat), .slice z zl zc] := Value.agg.inj hgv
        have hp := put_last HH.out.1 HH.out.2.1 n45 (HI.out.1.trans (HH.out.2.2.mono HI.out.1.size)) (by have := HB.out; unfold LB at this; omega) (by have := HB.out; unfold LB at this; omega) (.int .i64 (x : Nat)) (.int .i64 (y : Nat)) (.slice z zl zc) (.bool true)
        exact ⟨((Stay.below HH.out.2.2 (Nat.le_refl _)).trans hp.1).trans (Stay.alloc _ _), hp.2.2.2.trans (((Below.refl _ _).alloc (Nat.le_refl _) _).mono hp.2.2.2.size), r, lastK_at HNO.out (by have := HKK.out; have := HK.out.1; omega) (by rw [← HK.out.1, ← HQ.out.1]; exact hr), by rw [hga]; exact hp.2.1.alloc _, hp.2.2.1.alloc _⟩
      | false =>
        gi_wp2
        have hq0 : q = none := by
          have := HIT.out
          cases q with
          | none => rfl
          | some r => cases this
        have hba : Below W.heap.size W (w8.alloc (.cells #[.int .i64 (x : Nat), .int .i64 (y : Nat), .slice z zl zc] 78)) := HH.out.2.2.trans (((Below.refl _ _).alloc (Nat.le_refl _) _).mono HH.out.2.2.size)
        have hli : LI w B3 B4 B5 d s ks (List.range k) W := ⟨HI.out.1, HI.out.2.1, HI.out.2.2.1, HI.out.2.2.2, fun j hj => HNO.out j (by simpa using hj)⟩
        have hl2 := li_below hli hba
        refine ⟨Stay.below hba (Nat.le_refl _), hl2.1, hl2.2.1, hl2.2.2.1, hl2.2.2.2.1, fun j hj => ?_⟩
        rw [List.length_append, List.length_range, List.length_singleton] at hj
        by_cases hjk : j < k
        · exact HNO.out j hjk
        · obtain rfl : j = k := by omega
          rw [← HK.out.1, ← HQ.out.1]
          exact hq0
    case done =>
      rintro D W hD ⟨hBw, H3, H4, H5, hno⟩ hK
      have c40 := H4.cell 0
      have c41 := H4.cell 1
      have c42 := H4.cell 2
      have c50 := H5.cell 0
      simp only [List.getElem?_toArray, List.getElem?_cons_zero, List.getElem?_cons_succ] at c40 c41 c42 c50
      have f40 := H4.free 0
      have f41 := H4.free 1
      have f42 := H4.free 2
      have f50 := H5.free 0
      have l4 := H4.lt
      have l5 := H5.lt
      have HH := hidC (And.intro H4 (And.intro H5 (And.intro hBw hno)))
      have HKD := hidC hK
      have n45 : B4 ≠ B5 := by have := HB.out; unfold LB at this; omega
      clear H4 H5 H3 hBw hno hK
      go_wp2
      have hp := put_last HH.out.1 HH.out.2.1 n45 HH.out.2.2.1 (by have := HB.out; unfold LB at this; omega) (by have := HB.out; unfold LB at this; omega) (.int .i64 0) (.int .i64 0) (.slice none 0 0) (.bool false)
      have hd4 : D ≠ B4 := fun e => by have h1 := HH.out.1; have h2 := HKD.out; rw [e] at h2; unfold Has at h1; rw [h1] at h2; cases h2
      have hd5 : D ≠ B5 := fun e => by have h1 := HH.out.2.1; have h2 := HKD.out; rw [e] at h2; unfold Has at h1; rw [h1] at h2; cases h2
      refine leave_last (B4 := B4) (B5 := B5) rfl rfl rfl hp.2.2.2 hp.2.1 rfl hp.2.2.1 (keep_def hd4 hd5 HKD.out) (by omega) (fun W' hW' => ⟨?_, hW'⟩)
      rw [lastK_no (fun j hj => HH.out.2.2.2 j (by rw [List.length_range, HK.out.1]; exact hj))]
      rfl
    case stop =>
      rintro D pre W hD hpre ⟨hBw, r, hr, H4, H5⟩ hK
      gi_wp2
      refine leave_last (B4 := B4) (B5 := B5) rfl rfl rfl hBw H4 rfl H5 hK (by omega) (fun W' hW' => ⟨?_, hW'⟩)
      rw [hr]
      rfl

/-- What the cache's groups have of a sector: the open one, else the last of those kept that has it. -/
def lastG (o : GV) (ks : List GV) (d s : Nat) : Option Rw := (look o.rows d s).or (lastK ks d s)

theorem last_c (h : CAt w cb P dv o kv ks GO GK) (d s : Nat) (hlen : ks.length ≤ 1000) :
    Calls Try.prog 50 #[ptr cb, .agg #[.int .i64 (d : Nat), .int .i64 (s : Nat)]] w fun e w' => e = .returned (.tuple #[gv (lastG o ks d s), .bool (lastG o ks d s).isSome]) ∧ Below w.heap.size w w' := by
  refine (callsIn_wide (n := 3)).1 ?_
  unfold lastG
  cases hq : look o.rows d s with
  | some r => exact last_in h d s hlen hq
  | none => exact last_out h d s hlen hq
end Go.Proofs.Ytancebpjfbbcaaa
