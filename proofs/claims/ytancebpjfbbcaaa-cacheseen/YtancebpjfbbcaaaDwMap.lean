/- Maps whose keys are ints, in memory; maps.Clone. -/
import Derived.Test.YtancebpjfbbcaaaDvSays
import Derived.MapKept
import Derived.Laws.Externs
import Derived.Carry
namespace Go.Proofs.Ytancebpjfbbcaaa
open Go.ChangeShapes Go.WideShapes Go.ChangeAt Go.RowKit Go.MapKept
set_option linter.unusedVariables false

/-- Block b is a map that has just what f says. -/
def MapIs (w : World) (b : Nat) (f : Int → Option Value) : Prop :=
  ∃ es clock, w.heap[b]? = some (.map es clock) ∧ (∀ e ∈ es.toList, ∃ a, e.key = .int .i64 a ∧ f a = some e.val) ∧ (∀ a v, f a = some v → ∃ e ∈ es.toList, e.key = .int .i64 a) ∧ es.toList.Pairwise (fun x y => x.key ≠ y.key)

theorem MapIs.lt {w : World} {b : Nat} {f : Int → Option Value} (h : MapIs w b f) : b < w.heap.size := by
  obtain ⟨es, clock, hb, _⟩ := h
  exact (Array.getElem?_eq_some_iff.1 hb).1

theorem MapIs.kept {w w' : World} {b : Nat} {f : Int → Option Value} (h : MapIs w b f) (hb : w'.heap[b]? = w.heap[b]?) : MapIs w' b f := by
  obtain ⟨es, clock, h0, r⟩ := h
  exact ⟨es, clock, hb.trans h0, r⟩

theorem MapIs.below {w w' : World} {b B : Nat} {f : Int → Option Value} (h : MapIs w b f) (hb : Below B w w') (hB : b < B) : MapIs w' b f := h.kept (hb.block b hB)
theorem MapIs.only {F : Nat → Prop} {w w' : World} {b : Nat} {f : Int → Option Value} (h : MapIs w b f) (hb : Only F w w') (hF : ¬ F b) : MapIs w' b f := h.kept (hb.block b h.lt hF)
theorem MapIs.alloc {w : World} {b : Nat} {f : Int → Option Value} (h : MapIs w b f) (o : Obj) : MapIs (w.alloc o) b f := h.kept (Below.heap_alloc w o b h.lt)
theorem MapIs.congr {w : World} {b : Nat} {f g : Int → Option Value} (h : MapIs w b f) (e : f = g) : MapIs w b g := e ▸ h

theorem MapIs.made (w : World) : MapIs (w.alloc (.map #[] 0)) w.heap.size (fun _ => none) := ⟨#[], 0, heap_alloc_new w _, by simp, by simp, by simp⟩

theorem MapIs.ne {w : World} {b g t : Nat} {f : Int → Option Value} {cs : Array Value} {fr : Nat × Nat} (h : MapIs w b f) (hg : w.heap[g]? = some (.cells cs t fr)) : b ≠ g := by
  rintro rfl
  obtain ⟨es, clock, hb, _⟩ := h
  rw [hb] at hg
  cases hg

theorem map_find {es : Array MapEntry} {f : Int → Option Value} (h1 : ∀ e ∈ es.toList, ∃ a, e.key = .int .i64 a ∧ f a = some e.val) (h2 : ∀ a v, f a = some v → ∃ e ∈ es.toList, e.key = .int .i64 a) (a : Int) :
    (Instr.findNow (.int .i64) (.int .i64 a) es.toList 0 = some none ∧ f a = none ∧ ∀ x ∈ es.toList, x.key ≠ .int .i64 a) ∨ ∃ j e, Instr.findNow (.int .i64) (.int .i64 a) es.toList 0 = some (some (j, e.val)) ∧ es.toList[j]? = some e ∧ e.key = .int .i64 a ∧ f a = some e.val := by
  have hk : IsKey (.int .i64) (.int .i64 a) := rfl
  rcases findNow_spec hk es.toList 0 (fun x hx => by obtain ⟨a', e, _⟩ := h1 x hx; rw [e]; rfl) with ⟨g1, g2⟩ | ⟨j, e, g1, g2, g3⟩
  · refine .inl ⟨g1, ?_, g2⟩
    cases hf : f a with
    | none => rfl
    | some v => obtain ⟨e, he, hke⟩ := h2 a v hf; exact absurd hke (g2 e he)
  · obtain ⟨a', e1, e2⟩ := h1 e (List.mem_of_getElem? g2)
    have : a' = a := by rw [g3] at e1; injection e1 with _ e1; exact e1.symm
    subst this
    exact .inr ⟨j, e, by simpa using g1, g2, g3, e2⟩

theorem MapIs.look {w : World} {b : Nat} {f : Int → Option Value} (h : MapIs w b f) {t e : TypeId} (ht : Try.prog.underlying t = some (.map 3 e)) (z : Value) (hz : (zeroValue e).run Try.prog w = .ok z w) (a : Int) (ok : Bool) :
    (Instr.lookup t (.map (some b)) (.int .i64 a) ok).run Try.prog w = .ok (if ok then .tuple #[(f a).getD z, .bool (f a).isSome] else (f a).getD z) w := by
  obtain ⟨es, clock, hb, h1, h2, h3⟩ := h
  have hk : IsKey (.int .i64) (.int .i64 a) := rfl
  rcases map_find h1 h2 a with ⟨g1, g2, _⟩ | ⟨j, e0, g1, _, _, g2⟩
  · have hr := MapKept.run_findKey (P := Try.prog) (w := w) Try.underlying3 g1
    simp [Instr.lookup, run_underlying ht, MapKept.run_getObj_map hb, MapKept.run_checkKey Try.underlying3 hk, hr, hz, Result.andThen, g2]
  · have hr := MapKept.run_findKey (P := Try.prog) (w := w) Try.underlying3 g1
    simp [Instr.lookup, run_underlying ht, MapKept.run_getObj_map hb, MapKept.run_checkKey Try.underlying3 hk, hr, Result.andThen, g2]

theorem only_block (w : World) (b : Nat) (o : Obj) : Only (fun k => k = b) w { w with heap := w.heap.setIfInBounds b o } :=
  ⟨rfl, rfl, rfl, by simp, fun k hk hn => by simp [Ne.symm hn]⟩

theorem MapIs.put {w : World} {b : Nat} {f : Int → Option Value} (h : MapIs w b f) {t e : TypeId} (ht : Try.prog.underlying t = some (.map 3 e)) (a : Int) (v : Value) :
    ∃ w', (Instr.mapUpdate t (.map (some b)) (.int .i64 a) v).run Try.prog w = .ok () w' ∧ MapIs w' b (fun x => if x = a then some v else f x) ∧ Only (fun k => k = b) w w' ∧ w'.heap.size = w.heap.size := by
  obtain ⟨es, clock, hb, h1, h2, h3⟩ := h
  have hlt : b < w.heap.size := (Array.getElem?_eq_some_iff.1 hb).1
  have hk : IsKey (.int .i64) (.int .i64 a) := rfl
  rcases map_find h1 h2 a with ⟨g1, g2, g3⟩ | ⟨j, e0, g1, gj, gk, g2⟩
  · have hr := MapKept.run_findKey (P := Try.prog) (w := w) Try.underlying3 g1
    refine ⟨_, by simp [Instr.mapUpdate, run_underlying ht, MapKept.run_getObj_map hb, MapKept.run_checkKey Try.underlying3 hk, hr, MapKept.run_setObj_map _ hb, Result.andThen]; rfl, ⟨es.push { key := .int .i64 a, val := v, born := clock }, clock + 1, by simp [hlt], ?_, ?_, ?_⟩, only_block w b _, by simp⟩
    · intro e he
      simp only [Array.toList_push, List.mem_append, List.mem_singleton] at he
      rcases he with he | rfl
      · obtain ⟨a', e1, e2⟩ := h1 e he
        refine ⟨a', e1, ?_⟩
        show (if a' = a then some v else f a') = _
        rw [if_neg (fun q : a' = a => g3 e he (by rw [e1, q]))]
        exact e2
      · exact ⟨a, rfl, by show (if a = a then some v else f a) = _; rw [if_pos rfl]⟩
    · intro a' v' hv
      show ∃ e ∈ _, _
      simp only [Array.toList_push, List.mem_append, List.mem_singleton]
      by_cases ha : a' = a
      · subst ha
        exact ⟨_, .inr rfl, rfl⟩
      · have hv' : (if a' = a then some v else f a') = some v' := hv
        rw [if_neg ha] at hv'
        obtain ⟨e, he, hke⟩ := h2 a' v' hv'
        exact ⟨e, .inl he, hke⟩
    · simp only [Array.toList_push, List.pairwise_append]
      exact ⟨h3, by simp, fun x hx y hy => by rw [List.mem_singleton] at hy; subst hy; exact g3 x hx⟩
  · have hr := MapKept.run_findKey (P := Try.prog) (w := w) Try.underlying3 g1
    have hjl : j < es.size := by have := (List.getElem?_eq_some_iff.1 gj).1; simpa using this
    have gj' : es[j]? = some e0 := by rw [← Array.getElem?_toList]; exact gj
    have hks : (Instr.keyThatStays ((es[j]?.map (·.key)).getD (.int .i64 a)) (.int .i64 a)).run Try.prog w = .ok (.int .i64 a) w := by
      rw [gj']
      simp only [Option.map_some, Option.getD_some, gk]
      exact MapKept.run_keyThatStays hk
    have hmod : (es.modify j fun e => { e with key := .int .i64 a, val := v }).toList = es.toList.set j { e0 with key := .int .i64 a, val := v } := by
      apply List.ext_getElem?
      intro i
      rw [Array.getElem?_toList, Array.getElem?_modify, List.getElem?_set]
      by_cases hij : j = i
      · subst hij
        rw [if_pos rfl, if_pos rfl, gj', if_pos (by simpa using hjl)]
        rfl
      · rw [if_neg hij, if_neg hij, Array.getElem?_toList]
    refine ⟨_, by simp [Instr.mapUpdate, run_underlying ht, MapKept.run_getObj_map hb, MapKept.run_checkKey Try.underlying3 hk, hr, hks, MapKept.run_setObj_map _ hb, Result.andThen]; rfl, ⟨es.modify j fun e => { e with key := .int .i64 a, val := v }, clock, by simp [hlt], ?_, ?_, ?_⟩, only_block w b _, by simp⟩
    · rw [hmod]
      intro e he
      rcases List.mem_or_eq_of_mem_set he with he' | rfl
      · obtain ⟨i, hi⟩ := List.getElem?_of_mem he
        rw [List.getElem?_set] at hi
        by_cases hij : j = i
        · subst hij
          rw [if_pos rfl, if_pos (by simpa using hjl)] at hi
          injection hi with hi
          subst hi
          exact ⟨a, rfl, by show (if a = a then some v else f a) = _; rw [if_pos rfl]⟩
        · rw [if_neg hij] at hi
          obtain ⟨a', e1, e2⟩ := h1 e (List.mem_of_getElem? hi)
          refine ⟨a', e1, ?_⟩
          have hne : a' ≠ a := by
            rintro rfl
            rcases Nat.lt_or_gt_of_ne hij with hlt' | hlt'
            · exact List.pairwise_iff_getElem.1 h3 j i (List.getElem?_eq_some_iff.1 gj).1 (List.getElem?_eq_some_iff.1 hi).1 hlt' (by rw [(List.getElem?_eq_some_iff.1 gj).2, (List.getElem?_eq_some_iff.1 hi).2, gk, e1])
            · exact List.pairwise_iff_getElem.1 h3 i j (List.getElem?_eq_some_iff.1 hi).1 (List.getElem?_eq_some_iff.1 gj).1 hlt' (by rw [(List.getElem?_eq_some_iff.1 gj).2, (List.getElem?_eq_some_iff.1 hi).2, gk, e1])
          show (if a' = a then some v else f a') = _
          rw [if_neg hne]
          exact e2
      · exact ⟨a, rfl, by show (if a = a then some v else f a) = _; rw [if_pos rfl]⟩
    · rw [hmod]
      intro a' v' hv
      by_cases ha : a' = a
      · subst ha
        exact ⟨_, List.mem_set (by simpa using hjl) _, rfl⟩
      · have hv' : (if a' = a then some v else f a') = some v' := hv
        rw [if_neg ha] at hv'
        obtain ⟨e, he, hke⟩ := h2 a' v' hv'
        obtain ⟨i, hi⟩ := List.getElem?_of_mem he
        have hij : j ≠ i := by
          rintro rfl
          rw [gj] at hi
          injection hi with hi
          subst hi
          rw [gk] at hke
          injection hke with _ hke
          exact ha hke.symm
        refine ⟨e, ?_, hke⟩
        apply List.mem_of_getElem? (i := i)
        rw [List.getElem?_set, if_neg hij]
        exact hi
    · rw [hmod]
      have hkeys : (es.toList.set j { e0 with key := .int .i64 a, val := v }).map (·.key) = es.toList.map (·.key) := by
        rw [List.map_set]
        apply List.ext_getElem?
        intro i
        rw [List.getElem?_set]
        by_cases hij : j = i
        · subst hij
          rw [if_pos rfl, if_pos (by simpa using hjl), List.getElem?_map, gj]
          simp [gk]
        · rw [if_neg hij]
      have := (List.pairwise_map (f := fun e : MapEntry => e.key) (R := (· ≠ ·)) (l := es.toList)).2 h3
      rw [← hkeys] at this
      exact List.pairwise_map.1 this

theorem MapIs.del {w : World} {b : Nat} {f : Int → Option Value} (h : MapIs w b f) {t e : TypeId} (ht : Try.prog.underlying t = some (.map 3 e)) (a : Int) (ty : TypeId) :
    ∃ w', (Builtin.delete_ #[t, 3] ty #[.map (some b), .int .i64 a]).run Try.prog w = .ok (.tuple #[]) w' ∧ MapIs w' b (fun x => if x = a then none else f x) ∧ Only (fun k => k = b) w w' ∧ w'.heap.size = w.heap.size := by
  obtain ⟨es, clock, hb, h1, h2, h3⟩ := h
  have hlt : b < w.heap.size := (Array.getElem?_eq_some_iff.1 hb).1
  have hk : IsKey (.int .i64) (.int .i64 a) := rfl
  rcases map_find h1 h2 a with ⟨g1, g2, g3⟩ | ⟨j, e0, g1, gj, gk, g2⟩
  · have hr := MapKept.run_findKey (P := Try.prog) (w := w) Try.underlying3 g1
    refine ⟨_, by simp [Builtin.delete_, run_underlying ht, MapKept.run_getObj_map hb, MapKept.run_checkKey Try.underlying3 hk, hr, MapKept.run_setObj_map _ hb, Result.andThen]; rfl, ⟨es, clock, by simp [hlt], ?_, ?_, h3⟩, only_block w b _, by simp⟩
    · intro e he
      obtain ⟨a', e1, e2⟩ := h1 e he
      refine ⟨a', e1, ?_⟩
      show (if a' = a then none else f a') = _
      rw [if_neg (fun q : a' = a => g3 e he (by rw [e1, q]))]
      exact e2
    · intro a' v' hv
      by_cases ha : a' = a
      · have hv' : (if a' = a then none else f a') = some v' := hv
        rw [if_pos ha] at hv'
        cases hv'
      · have hv' : (if a' = a then none else f a') = some v' := hv
        rw [if_neg ha] at hv'
        exact h2 a' v' hv'
  · have hr := MapKept.run_findKey (P := Try.prog) (w := w) Try.underlying3 g1
    have hjl : j < es.size := by have := (List.getElem?_eq_some_iff.1 gj).1; simpa using this
    have her : (es.eraseIdxIfInBounds j).toList = es.toList.eraseIdx j := by
      unfold Array.eraseIdxIfInBounds
      rw [dif_pos hjl, Array.toList_eraseIdx]
    have hsub : (es.toList.eraseIdx j).Sublist es.toList := List.eraseIdx_sublist _ _
    refine ⟨_, by simp [Builtin.delete_, run_underlying ht, MapKept.run_getObj_map hb, MapKept.run_checkKey Try.underlying3 hk, hr, MapKept.run_setObj_map _ hb, Result.andThen]; rfl, ⟨es.eraseIdxIfInBounds j, clock, by simp [hlt], ?_, ?_, ?_⟩, only_block w b _, by simp⟩
    · rw [her]
      intro e he
      obtain ⟨a', e1, e2⟩ := h1 e (hsub.subset he)
      refine ⟨a', e1, ?_⟩
      have hne : a' ≠ a := by
        rintro rfl
        obtain ⟨i, hi⟩ := List.getElem?_of_mem he
        rw [List.getElem?_eraseIdx] at hi
        split at hi
        · rename_i hij
          exact List.pairwise_iff_getElem.1 h3 i j (List.getElem?_eq_some_iff.1 hi).1 (List.getElem?_eq_some_iff.1 gj).1 hij (by rw [(List.getElem?_eq_some_iff.1 gj).2, (List.getElem?_eq_some_iff.1 hi).2, gk, e1])
        · rename_i hij
          exact List.pairwise_iff_getElem.1 h3 j (i + 1) (List.getElem?_eq_some_iff.1 gj).1 (List.getElem?_eq_some_iff.1 hi).1 (by omega) (by rw [(List.getElem?_eq_some_iff.1 gj).2, (List.getElem?_eq_some_iff.1 hi).2, gk, e1])
      show (if a' = a then none else f a') = _
      rw [if_neg hne]
      exact e2
    · rw [her]
      intro a' v' hv
      have hv' : (if a' = a then none else f a') = some v' := hv
      by_cases ha : a' = a
      · rw [if_pos ha] at hv'
        cases hv'
      · rw [if_neg ha] at hv'
        obtain ⟨e, he, hke⟩ := h2 a' v' hv'
        obtain ⟨i, hi⟩ := List.getElem?_of_mem he
        have hij : j ≠ i := by
          rintro rfl
          rw [gj] at hi
          injection hi with hi
          subst hi
          rw [gk] at hke
          injection hke with _ hke
          exact ha hke.symm
        refine ⟨e, ?_, hke⟩
        rcases Nat.lt_or_gt_of_ne hij with h' | h'
        · apply List.mem_of_getElem? (i := i - 1)
          rw [List.getElem?_eraseIdx, if_neg (by omega), show i - 1 + 1 = i by omega]
          exact hi
        · apply List.mem_of_getElem? (i := i)
          rw [List.getElem?_eraseIdx, if_pos (by omega)]
          exact hi
    · rw [her]
      exact h3.sublist hsub

/-! maps.Clone -/

theorem run_eql_mapnil (w : World) (t k e : TypeId) (p : Option Nat) (h : Try.prog.underlying t = some (.map k e)) : (binOp .eql t (.map p) (.map none)).run Try.prog w = .ok (.bool p.isNone) w := by
  have h1 : ∀ d, (Op.equalIn (d + 1) t (.map p) (.map none)).run Try.prog w = .ok p.isNone w := fun d => by cases p <;> simp [Op.equalIn, run_underlying h]
  simp only [binOp]
  simp [show Op.equal t (.map p) (.map none) = Op.equalIn (9999 + 1) t (.map p) (.map none) from rfl, h1 9999]

theorem run_assert_map (w : World) (t xT k e : TypeId) (v : Value) (h : Try.prog.underlying t = some (.map k e)) : (Instr.typeAssert (.iface t v) xT t false).run Try.prog w = .ok v w := by
  simp [Instr.typeAssert, run_underlying h, go_sem, Result.andThen]

theorem run_maps_clone (w : World) {r : Nat} {es : Array MapEntry} {clock : Nat} (t : TypeId) (hb : w.heap[r]? = some (.map es clock)) :
    (Extern.MapsClone.clone #[.iface t (.map (some r))]).run Try.prog w = .ok (.iface t (.map (some w.heap.size))) (w.alloc (.map es clock)) := by
  have e : Extern.MapsClone.clone #[.iface t (.map (some r))] = (getObj r >>= fun o => match o with
      | .map entries clock => (newObj (.map entries clock) >>= fun n => pure (.iface t (.map (some n))))
      | _ => stuck "maps.clone: a map expected") := rfl
  rw [e]
  simp [MapKept.run_getObj_map hb, Result.andThen, go_sem]

set_option maxRecDepth 100000 in
set_option maxHeartbeats 2000000 in
theorem clone_sec (b : Nat) (f : Int → Option Value) (w : World) (h : MapIs w b f) :
    Calls Try.prog 70 #[.map (some b)] w fun e w' => e = .returned (.map (some w.heap.size)) ∧ MapIs w' w.heap.size f ∧ Below w.heap.size w w' := by
  obtain ⟨es, clock, hb, r⟩ := h
  have hq := fun w => run_eql_mapnil w 87 _ _ (some b) Try.underlying87
  go_enter Try.func70, Try.ntmps70
  go_wp2
  rw [run_callFunc_extern (fn := Try.f72) (by kernel_rfl) (by kernel_rfl) (by kernel_rfl) (by kernel_rfl) (e := Extern.MapsClone.clone) (by kernel_rfl), run_maps_clone w 87 hb]
  simp only [Result.andThen]
  rw [Oper.upon_value]
  go_wp2
  rw [run_assert_map _ 87 _ _ _ _ Try.underlying87]
  simp only [Result.andThen]
  rw [Oper.upon_value]
  go_wp2
  go_ret
  exact ⟨rfl, ⟨es, clock, heap_alloc_new w _, r⟩, (Below.refl _ _).alloc (Nat.le_refl _) _⟩

end Go.Proofs.Ytancebpjfbbcaaa
