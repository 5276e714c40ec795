/- Texts that the statements of this stage share, joined. -/
import Derived.Test.YthndifegfmjpbaaGreatDoorJoint21
namespace Go.Proofs.YthndifegfmjpbaaGreatDoor
set_option linter.unusedVariables false
set_option maxRecDepth 100000
set_option maxHeartbeats 40000000
section
open Go.ChangeShapes Go.WideShapes Go.ChangeAt Go.RowKit Go.MapKept
variable {E : Nat → Prop}
theorem passL {P : Program} {ops : Array Oper} {Q : Exit → Act → World → Prop} {md : Region.Mode} {S : World → Prop} {m : Nat} {oi : Oper} (i : Nat) (d : Option Tmp) {n : Nat} {listed : Array Bool} {a : Act} {w : World} (hi : ops[i]? = some oi) (hd : oi.dst = d) (him : i ≠ m) (hwf : waitsFor md ops m i = true)
  (hs : Region.noSelect ops = true) (hf : Region.free md ops listed i = true) (hr : (Region.ready md ops listed).contains i = true)
  (hQ : ∀ c a w, Q (.panic c) (a.put d undef) w → Q (.panic c) a w) (hw : Region.wanted oi (yielded ops a.tmps) = false) (hS : S w)
  (h : AnyL P md ops Q S m n (listed.setIfInBounds i true) (a.put d undef) w) : AnyL P md ops Q S m (n + 1) listed a w := by
 subst hd
 exact AnyL.front hi him hwf (Region.noSelect_spec hs) hQ n listed a w (Region.free_spec hi hf) (by simpa using hr) (.inr ⟨hw, rfl⟩) hS h
structure CkG (E : Nat → Prop) (w : World) (cb : Nat) (V : CV) (c : Ck) (os : List Bool) : Prop where
 has : Has w cb 68 #[V.vd, .int .i64 (jI c.jour), V.vp, .int .i64 (jI c.expo), .bool c.ro, .map (some V.mb), V.vb, .int .i64 c.eat]
 devs : w.ownsRow cb 3 1 V.vd c.devs.length (c.devs.map fun d => .int .i64 (d : Nat))
 only : w.ownsRow cb 4 1 V.vb os.length (os.map .bool)
 prts : ∃ us, us.length = c.parts.length ∧ w.ownsRow cb 47 8 V.vp c.parts.length (ptl c.parts us) ∧ ∀ i (h : i < c.parts.length) (h' : i < us.length), PtIn w (fun g => ¬ V.own cb g ∧ E g) c.parts[i] us[i]
 nms : ∃ us, us.length = c.names.length ∧ w.heap[V.mb]? = some (.map (ents c.names us).toArray c.names.length) ∧ ∀ i (h : i < c.names.length) (h' : i < us.length), MnIn w (fun g => ¬ V.own cb g ∧ E g) c.names[i].2 us[i]
 uniq : c.names.Pairwise (fun x y => x.1 ≠ y.1)
 mlt : cb ≤ V.mb + 1
 few : c.names.length ≤ 100000 ∧ c.devs.length ≤ 100000
theorem CkAt.g {w : World} {cb : Nat} {V : CV} {c : Ck} (h : CkAt E w cb V c) : CkG E w cb V c (onlys c.parts) := ⟨h.has, h.devs, by rw [onlys_len]; exact h.only, h.prts, h.nms, h.uniq, h.mlt, h.few.2⟩
theorem CkG.at {w : World} {cb : Nat} {V : CV} {c : Ck} {os : List Bool} (h : CkG E w cb V c os) (e : os = onlys c.parts) (hp : c.parts.length ≤ 100000) : CkAt E w cb V c := by
 subst e
 exact ⟨h.has, h.devs, by have := h.only; rw [onlys_len] at this; exact this, h.prts, h.nms, h.uniq, h.mlt, hp, h.few⟩
theorem row_has_ne {w : World} {base e size n g t : Nat} {v : Value} {xs : List Value} {cs : Array Value} (h : w.ownsRow base e size v n xs) (k : Has w g t cs) (ht : e ≠ t) : v.ownBlock ≠ some g := by
 rcases h.2 with ⟨rfl, _⟩ | ⟨b, cap, cur, rfl, _, hb, _⟩
 · intro q; cases q
 · intro q
   have : b = g := by cases q; rfl
   subst this
   have k' : w.heap[b]? = some (.cells cs t (0, 0)) := k
   rw [hb] at k'
   cases k'
   exact ht rfl
theorem row_row_ne {w : World} {b1 e1 s1 n1 b2 e2 s2 n2 : Nat} {v1 v2 : Value} {x1 x2 : List Value} (h : w.ownsRow b1 e1 s1 v1 n1 x1) (k : w.ownsRow b2 e2 s2 v2 n2 x2) (ht : e1 ≠ e2) {g : Nat} (e : v2.ownBlock = some g) : v1.ownBlock ≠ some g := by
 rcases k.2 with ⟨rfl, _⟩ | ⟨b, cap, cur, rfl, _, hb, _⟩
 · cases e
 · have : b = g := by cases e; rfl
   subst this
   exact row_has_ne h (show Has w b e2 cur from hb) ht
theorem row_map_ne {w : World} {base e size n g clock : Nat} {v : Value} {xs : List Value} {es : Array MapEntry} (h : w.ownsRow base e size v n xs) (k : w.heap[g]? = some (.map es clock)) : v.ownBlock ≠ some g := by
 rcases h.2 with ⟨rfl, _⟩ | ⟨b, cap, cur, rfl, _, hb, _⟩
 · intro q; cases q
 · intro q
   have : b = g := by cases q; rfl
   subst this
   rw [hb] at k
   cases k
theorem own_set (w : World) (q : Addr) (v : Value) {k : Nat} (h : k ≠ q.block) {o : Obj} (ho : w.heap[k]? = some o) : (w.setCell q v).heap[k]? = some o := (Below.heap_setCell w q v k h).trans ho
section
variable {w w6 : World} {cb : Nat} {V : CV} {c : Ck} {os : List Bool}
theorem CkG.low (h : CkG E w cb V c os) {k : Nat} (hk : V.own cb k) : cb ≤ k + 1 ∧ k < w.heap.size := by
 rcases hk with rfl | e | e | e | rfl
 · exact ⟨Nat.le_succ _, h.has.lt⟩
 · exact ⟨Nat.le_succ_of_le (row_lt h.devs e).2, (row_lt h.devs e).1⟩
 · obtain ⟨us, _, hr, _⟩ := h.prts
   exact ⟨Nat.le_succ_of_le (row_lt hr e).2, (row_lt hr e).1⟩
 · exact ⟨Nat.le_succ_of_le (row_lt h.only e).2, (row_lt h.only e).1⟩
 · obtain ⟨us, _, hm, _⟩ := h.nms
   exact ⟨h.mlt, (Array.getElem?_eq_some_iff.1 hm).1⟩
theorem Stp.inner {V' : CV} {w' : World} (s : Stp cb V w V' w') : ∀ k, k < w.heap.size → ¬ V.own cb k → w'.heap[k]? = w.heap[k]? ∧ ¬ V'.own cb k := fun k hk hn => ⟨s.only.block k hk hn, fun e => by
 rcases s.new k e with e' | e'
 · exact hn e'
 · omega⟩
theorem Stp.innerE {V' : CV} {w' : World} (s : Stp cb V w V' w') : ∀ k, k < w.heap.size → (¬ V.own cb k ∧ E k) → w'.heap[k]? = w.heap[k]? ∧ (¬ V'.own cb k ∧ E k) := fun k hk hn => ⟨(s.inner k hk hn.1).1, (s.inner k hk hn.1).2, hn.2⟩
theorem CkG.putOnly (h : CkG E w cb V c os) {A6 : Option Addr} {C6 : Nat} {b : Bool} (hg : w.grownBy w6 V.vb.ownBlock) (hr : w6.ownsRow cb 4 1 (.slice A6 (os.length + 1) C6) (os.length + 1) (os.map .bool ++ [.bool b])) (hw : (Value.slice A6 (os.length + 1) C6).ownBlock = V.vb.ownBlock ∨ (Value.slice A6 (os.length + 1) C6).ownBlock = some w.heap.size) :
  CkG E (w6.setCell ⟨cb, 6, none⟩ (.slice A6 (os.length + 1) C6)) cb { V with vb := .slice A6 (os.length + 1) C6 } c (os ++ [b]) ∧ Stp cb V w { V with vb := .slice A6 (os.length + 1) C6 } (w6.setCell ⟨cb, 6, none⟩ (.slice A6 (os.length + 1) C6)) := by
 obtain ⟨us, e1, hp, hpi⟩ := h.prts
 obtain ⟨ms, e2, hm, hmi⟩ := h.nms
 have hst : Stp cb V w { V with vb := .slice A6 (os.length + 1) C6 } (w6.setCell ⟨cb, 6, none⟩ (.slice A6 (os.length + 1) C6)) := by
  refine ⟨(⟨hg.os, hg.tape, hg.output, hg.size, fun k hk hn => hg.block k hk (fun e => hn (.inr (.inr (.inr (.inl e.symm)))))⟩ : Onl (V.own cb) w w6).set (.inl (.inl rfl)) _, fun k hk => ?_⟩
  rcases hk with e | e | e | e | e
  · exact .inl (.inl e)
  · exact .inl (.inr (.inl e))
  · exact .inl (.inr (.inr (.inl e)))
  · rcases hw with q | q
    · exact .inl (.inr (.inr (.inr (.inl (q ▸ e)))))
    · rw [show (Value.slice A6 (os.length + 1) C6).ownBlock = some w.heap.size from q] at e
      cases e
      exact .inr (Nat.le_refl _)
  · exact .inl (.inr (.inr (.inr (.inr e))))
 have hcb : V.vb.ownBlock ≠ some cb := row_has_ne h.only h.has (by decide)
 have kept : ∀ {k : Nat} {o : Obj}, V.vb.ownBlock ≠ some k → k ≠ cb → w.heap[k]? = some o → (w6.setCell ⟨cb, 6, none⟩ (.slice A6 (os.length + 1) C6)).heap[k]? = some o := fun {k o} h1 h2 ho => own_set w6 _ _ h2 ((hg.block k (Array.getElem?_eq_some_iff.1 ho).1 (fun e => h1 e.symm)).trans ho)
 have hin := hst.innerE (E := E)
 have hsz := hst.only.size
 refine ⟨⟨(grown_has h.has hg hcb).putP 6 _, row_grown h.devs (fun g o e ho => kept (row_row_ne h.only h.devs (by decide) e) (by rintro rfl; exact row_has_ne h.devs h.has (by decide) e) ho), ?_, ⟨us, e1, row_grown hp (fun g o e ho => kept (row_row_ne h.only hp (by decide) e) (by rintro rfl; exact row_has_ne hp h.has (by decide) e) ho), fun i a b => (hpi i a b).keep hsz hin⟩, ⟨ms, e2, kept (row_map_ne h.only hm) (by rintro e; have hh : w.heap[cb]? = some (.cells _ _ (0, 0)) := h.has; rw [show V.mb = cb from e] at hm; rw [hm] at hh; cases hh) hm, fun i a b => (hmi i a b).keep hsz hin⟩, h.uniq, h.mlt, h.few⟩, hst⟩
 rw [List.length_append, List.length_singleton, List.map_append, List.map_cons, List.map_nil]
 refine row_grown hr (fun g o e ho => own_set w6 _ _ (by
  show g ≠ cb
  rintro rfl
  rcases hw with q | q
  · exact hcb (q ▸ e)
  · rw [q] at e
    cases e
    exact absurd h.has.lt (Nat.lt_irrefl _)) ho)
theorem ptl_snoc (l : List Pt) (p : Pt) (us : List (Value × Value × Value)) (u : Value × Value × Value) (h : us.length = l.length) : ptl (l ++ [p]) (us ++ [u]) = ptl l us ++ (ptc p u).toList := by
 unfold ptl
 rw [List.zip_append h.symm, List.flatMap_append]
 simp
theorem CkG.putPart (h : CkG E w cb V c os) {A6 : Option Addr} {C6 : Nat} {p : Pt} {u : Value × Value × Value} {us : List (Value × Value × Value)} (e1 : us.length = c.parts.length) (hp : w.ownsRow cb 47 8 V.vp c.parts.length (ptl c.parts us)) (hpi : ∀ i (h : i < c.parts.length) (h' : i < us.length), PtIn w (fun g => ¬ V.own cb g ∧ E g) c.parts[i] us[i]) (hu : PtIn w (fun g => ¬ V.own cb g ∧ E g) p u) (hg : w.grownBy w6 V.vp.ownBlock) (hr : w6.ownsRow cb 47 8 (.slice A6 (c.parts.length + 1) C6) (c.parts.length + 1) (ptl c.parts us ++ (ptc p u).toList)) (hw : (Value.slice A6 (c.parts.length + 1) C6).ownBlock = V.vp.ownBlock ∨ (Value.slice A6 (c.parts.length + 1) C6).ownBlock = some w.heap.size) :
  CkG E (w6.setCell ⟨cb, 2, none⟩ (.slice A6 (c.parts.length + 1) C6)) cb { V with vp := .slice A6 (c.parts.length + 1) C6 } { c with parts := c.parts ++ [p] } os ∧ Stp cb V w { V with vp := .slice A6 (c.parts.length + 1) C6 } (w6.setCell ⟨cb, 2, none⟩ (.slice A6 (c.parts.length + 1) C6)) := by
 obtain ⟨ms, e2, hm, hmi⟩ := h.nms
 have hst : Stp cb V w { V with vp := .slice A6 (c.parts.length + 1) C6 } (w6.setCell ⟨cb, 2, none⟩ (.slice A6 (c.parts.length + 1) C6)) := by
  refine ⟨(⟨hg.os, hg.tape, hg.output, hg.size, fun k hk hn => hg.block k hk (fun e => hn (.inr (.inr (.inl e.symm))))⟩ : Onl (V.own cb) w w6).set (.inl (.inl rfl)) _, fun k hk => ?_⟩
  rcases hk with e | e | e | e | e
  · exact .inl (.inl e)
  · exact .inl (.inr (.inl e))
  · rcases hw with q | q
    · exact .inl (.inr (.inr (.inl (q ▸ e))))
    · rw [show (Value.slice A6 (c.parts.length + 1) C6).ownBlock = some w.heap.size from q] at e
      cases e
      exact .inr (Nat.le_refl _)
  · exact .inl (.inr (.inr (.inr (.inl e))))
  · exact .inl (.inr (.inr (.inr (.inr e))))
 have hcb : V.vp.ownBlock ≠ some cb := row_has_ne hp h.has (by decide)
 have kept : ∀ {k : Nat} {o : Obj}, V.vp.ownBlock ≠ some k → k ≠ cb → w.heap[k]? = some o → (w6.setCell ⟨cb, 2, none⟩ (.slice A6 (c.parts.length + 1) C6)).heap[k]? = some o := fun {k o} h1 h2 ho => own_set w6 _ _ h2 ((hg.block k (Array.getElem?_eq_some_iff.1 ho).1 (fun e => h1 e.symm)).trans ho)
 have hin := hst.innerE (E := E)
 have hsz := hst.only.size
 refine ⟨⟨(grown_has h.has hg hcb).putP 2 _, row_grown h.devs (fun g o e ho => kept (row_row_ne hp h.devs (by decide) e) (by rintro rfl; exact row_has_ne h.devs h.has (by decide) e) ho), row_grown h.only (fun g o e ho => kept (row_row_ne hp h.only (by decide) e) (by rintro rfl; exact row_has_ne h.only h.has (by decide) e) ho), ⟨us ++ [u], by simp [e1], ?_, ?_⟩, ⟨ms, e2, kept (row_map_ne hp hm) (by rintro e; have hh : w.heap[cb]? = some (.cells _ _ (0, 0)) := h.has; rw [show V.mb = cb from e] at hm; rw [hm] at hh; cases hh) hm, fun i a b => (hmi i a b).keep hsz hin⟩, h.uniq, h.mlt, h.few⟩, hst⟩
 · rw [List.length_append, List.length_singleton, ptl_snoc _ _ _ _ e1]
   refine row_grown hr (fun g o e ho => own_set w6 _ _ (by
    show g ≠ cb
    rintro rfl
    rcases hw with q | q
    · exact hcb (q ▸ e)
    · rw [q] at e
      cases e
      exact absurd h.has.lt (Nat.lt_irrefl _)) ho)
 · intro i a b
   by_cases hi : i < c.parts.length
   · simp only [List.getElem_append_left hi, List.getElem_append_left (show i < us.length by omega)]
     exact (hpi i hi (by omega)).keep hsz hin
   · have : i = c.parts.length := by simp at a; omega
     subst this
     have q1 : (c.parts ++ [p])[c.parts.length]'a = p := by rw [List.getElem_append_right (Nat.le_refl _)]; simp
     have q2 : (us ++ [u])[c.parts.length]'b = u := by rw [List.getElem_append_right (by omega)]; simp [e1]
     rw [q1, q2]
     exact hu.keep hsz hin
theorem CkG.keep (h : CkG E w cb V c os) {w' : World} (hb : Below w.heap.size w w') : CkG E w' cb V c os := by
 have hk : ∀ k, k < w.heap.size → (¬ V.own cb k ∧ E k) → w'.heap[k]? = w.heap[k]? ∧ (¬ V.own cb k ∧ E k) := fun k hk hn => ⟨hb.block k hk, hn⟩
 have hr : ∀ {e size n : Nat} {v : Value} {xs : List Value}, w.ownsRow cb e size v n xs → w'.ownsRow cb e size v n xs := fun hh => row_grown hh (fun g o e ho => (hb.block g (Array.getElem?_eq_some_iff.1 ho).1).trans ho)
 obtain ⟨us, e1, r1, i1⟩ := h.prts
 obtain ⟨ms, e2, r2, i2⟩ := h.nms
 exact ⟨h.has.below hb h.has.lt, hr h.devs, hr h.only, ⟨us, e1, hr r1, fun i a b => (i1 i a b).keep hb.size hk⟩, ⟨ms, e2, (hb.block _ (Array.getElem?_eq_some_iff.1 r2).1).trans r2, fun i a b => (i2 i a b).keep hb.size hk⟩, h.uniq, h.mlt, h.few⟩
theorem Stp.of {w' : World} (hb : Below w.heap.size w w') : Stp cb V w V w' := ⟨.of hb, fun _ h => .inl h⟩
end
end
end Go.Proofs.YthndifegfmjpbaaGreatDoor
