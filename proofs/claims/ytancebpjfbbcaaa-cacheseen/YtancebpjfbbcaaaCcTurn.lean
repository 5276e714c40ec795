/- cache: the open group is turned. -/
import Derived.Test.YtancebpjfbbcaaaCcRep
namespace Go.Proofs.Ytancebpjfbbcaaa
open Go.ChangeShapes Go.WideShapes Go.ChangeAt Go.RowKit Go.MapKept
set_option linter.unusedVariables false

variable {w w' : World} {G G' : Nat → Prop} {mv lv v : Value} {l : List Rw} {f : Nat → Nat}

theorem own_has_neC {b e sz nn g t : Nat} {v : Value} {xs : List Value} {cs : Array Value} (h : w.ownsRow b e sz v nn xs) (hh : Has w g t cs) (hne : e ≠ t) : v.ownBlock ≠ some g := by
  intro e1
  rcases h.2 with ⟨rfl, _⟩ | ⟨g2, cap, cur, rfl, _, hg, _⟩
  · cases e1
  · have e2 : g2 = g := by simpa [Value.ownBlock] using e1
    subst e2
    have hh' : w.heap[g2]? = some (.cells cs t (0, 0)) := hh
    rw [hg] at hh'
    injection hh' with h3
    injection h3 with _ h4 _
    exact hne h4

theorem map_has_neC {mb g t k : Nat} {es : Array MapEntry} {cs : Array Value} (h : w.heap[mb]? = some (.map es k)) (hh : Has w g t cs) : mb ≠ g := by
  rintro rfl
  have hh' : w.heap[mb]? = some (.cells cs t (0, 0)) := hh
  rw [h] at hh'
  cases hh'

/-- A group, where a block that is none of its own may be turned. -/
theorem Grp.other (h : Grp w G mv lv l) {cb t : Nat} {cs : Array Value} (hc : Has w cb t cs) (h1 : t ≠ 78) (h2 : t ≠ 5) (hk : ∀ k, G k → k ≠ cb → w'.heap[k]? = w.heap[k]?) : Grp w' G mv lv l := by
  refine ⟨?_, own_keptC h.row (fun g e => hk g (h.gr g e) (fun e2 => own_has_neC h.row hc (fun e3 => h1 e3.symm) (by rw [e, e2]))), h.gr, fun r hr => ?_, h.uni⟩
  · rcases h.mp with h0 | ⟨mb, e, g1, g2⟩
    · exact .inl h0
    · exact .inr ⟨mb, e, g1, (hk mb g1 (map_has_neC g2 hc)).trans g2⟩
  · have hd := h.dat r hr
    exact ⟨hd.byt, own_keptC hd.own (fun g e => hk g (hd.gr g e) (fun e2 => own_has_neC hd.own hc (fun e3 => h2 e3.symm) (by rw [e, e2]))), hd.gr⟩

theorem setCells3 (w : World) (g o : Nat) (a b c : Value) : w.setCells g o [a, b, c] = ((w.setCell ⟨g, o, none⟩ a).setCell ⟨g, o + 1, none⟩ b).setCell ⟨g, o + 2, none⟩ c := rfl

theorem only_set3 (w : World) (g o : Nat) (a b c : Value) : Only (fun k => k = g) w (w.setCells g o [a, b, c]) := by
  rw [setCells3]
  exact ((only_setCell w g o a).trans (only_setCell _ g _ b) (fun _ _ h => h)).trans (only_setCell _ g _ c) (fun _ _ h => h)

theorem flat_set (l : List Rw) (i : Nat) (r : Rw) (h : i < l.length) : (((l.flatMap wcl).set (i * 3) (.int .i64 (r.1.d : Nat))).set (i * 3 + 1) (.int .i64 (r.1.s : Nat))).set (i * 3 + 2) r.2 = (l.set i r).flatMap wcl := by
  induction l generalizing i with
  | nil => simp at h
  | cons a l ih =>
    rw [List.flatMap_cons]
    cases i with
    | zero =>
      rw [List.set_cons_zero, List.flatMap_cons]
      rfl
    | succ i =>
      rw [List.set_cons_succ, List.flatMap_cons, ← ih i (by simpa using h)]
      have hl := wcl_len a
      rw [List.set_append_right _ _ (by omega), List.set_append_right _ _ (by omega), List.set_append_right _ _ (by omega), hl, show (i + 1) * 3 - 3 = i * 3 by omega, show (i + 1) * 3 + 1 - 3 = i * 3 + 1 by omega, show (i + 1) * 3 + 2 - 3 = i * 3 + 2 by omega]

theorem own_set3 {B n g cap i : Nat} {l : List Rw} (h : w.ownsRow B 78 3 (.slice (some ⟨g, 0, none⟩) n cap) n (l.flatMap wcl)) (hl : l.length = n) (hi : i < n) (r : Rw) : (w.setCells g (i * 3) (wcl r)).ownsRow B 78 3 (.slice (some ⟨g, 0, none⟩) n cap) n ((l.set i r).flatMap wcl) := by
  rw [← flat_set l i r (by omega)]
  exact own_setC (own_setC (own_setC h (by omega) _) (by omega) _) (by omega) _

theorem putW_set {d s i : Nat} (h : fnd l d s = some i) (f : Nat → Nat) (v : Value) : putW l d s f v = l.set i (⟨d, s, f⟩, v) := by
  unfold putW
  rw [h]

theorem putW_app {d s : Nat} (h : fnd l d s = none) (f : Nat → Nat) (v : Value) : putW l d s f v = l ++ [(⟨d, s, f⟩, v)] := by
  unfold putW
  rw [h]

/-- A write of the group is written anew. -/
theorem Grp.set {g c d s i : Nat} (h : Grp w G mv (.slice (some ⟨g, 0, none⟩) l.length c) l) (hf : fnd l d s = some i) (hv : DataAt w G v f) : Grp (w.setCells g (i * 3) (wcl (⟨d, s, f⟩, v))) G mv (.slice (some ⟨g, 0, none⟩) l.length c) (putW l d s f v) := by
  have hi := fnd_lt hf
  have hu := putW_uni (d := d) (s := s) (f := f) (v := v) h.uni
  have ho := only_set3 w g (i * 3) (.int .i64 (d : Nat)) (.int .i64 (s : Nat)) v
  obtain ⟨cur, hcur⟩ := own_block h.row (g := g) rfl
  have hH : Has w g 78 cur := hcur
  have hk : ∀ k, k < w.heap.size → k ≠ g → (w.setCells g (i * 3) (wcl (⟨d, s, f⟩, v))).heap[k]? = w.heap[k]? := fun k hk hn => ho.block k hk hn
  have hda : ∀ v2 f2, DataAt w G v2 f2 → DataAt (w.setCells g (i * 3) (wcl (⟨d, s, f⟩, v))) G v2 f2 := fun v2 f2 h2 => h2.keep1 (fun k e => hk k (h2.own.lt k e).2 (fun e2 => own_has_neC h2.own hH (by decide) (by rw [e, e2])))
  have hall := putW_all (d := d) (s := s) (f := f) (v := v) (p := fun r => DataAt w G r.2 r.1.f) h.dat hv
  rw [putW_set hf] at hu hall ⊢
  refine ⟨?_, ?_, h.gr, fun r hr => hda _ _ (hall r hr), hu⟩
  · rcases h.mp with ⟨e, _⟩ | ⟨mb, e, g1, g2⟩
    · rw [e] at hi
      simp at hi
    · refine .inr ⟨mb, e, g1, ?_⟩
      rw [hk mb (Array.getElem?_eq_some_iff.1 g2).1 (map_has_neC g2 hH), cent_set hf, List.length_set]
      exact g2
  · rw [List.length_set]
    exact own_set3 h.row rfl hi (⟨d, s, f⟩, v)

variable {cb : Nat} {P : Nat → Nat} {dv kv : Value} {o o' : GV} {ks : List GV} {GO GO' GK GN : Nat → Prop}

/-- The open group is another one now. -/
theorem CAt.turn (h : CAt w cb P dv o kv ks GO GK) (ho : Only (fun k => GO k ∨ k = cb) w w') (hs : Has w' cb 73 #[dv, o'.mv, o'.lv, kv]) (hg : Grp w' GO' o'.mv o'.lv o'.rows) (hsep : ∀ k, GO' k → ¬ GK k) (hlt : ∀ k, GO' k → k < w'.heap.size) (hok : ∀ r ∈ o'.rows, r.1.d < 3 ∧ r.1.s < 6) : CAt w' cb P dv o' kv ks GO' GK := by
  have hk : ∀ k, GK k → k ≠ cb → w'.heap[k]? = w.heap[k]? := fun k hk hn => ho.block k (h.lt k (.inr hk)) (fun e => e.elim (fun e => h.sep k e hk) hn)
  refine ⟨hs, own_keptC h.dev (fun g e => hk g (h.gdv g e) (fun e2 => own_has_neC h.dev h.str (by decide) (by rw [e, e2]))), hg, own_keptC h.krow (fun g e => hk g (h.gkv g e) (fun e2 => own_has_neC h.krow h.str (by decide) (by rw [e, e2]))), fun g hg => (h.kgs g hg).other h.str (by decide) (by decide) hk, h.gcb, h.gdv, h.gkv, hsep, fun k hk => hk.elim (hlt k) (fun hk => Nat.lt_of_lt_of_le (h.lt k (.inr hk)) ho.size), fun g hg => ?_⟩
  rcases List.mem_cons.1 hg with rfl | hg
  · exact hok
  · exact h.ok g (List.mem_cons_of_mem _ hg)

/-- What a write leaves: the open group has it. -/
def PutR (w : World) (cb : Nat) (P : Nat → Nat) (dv : Value) (l : List Rw) (kv : Value) (ks : List GV) (GO GK GN : Nat → Prop) (w' : World) : Prop := ∃ o' GO', CAt w' cb P dv o' kv ks GO' GK ∧ o'.rows = l ∧ Only (fun k => GO k ∨ k = cb) w w' ∧ ∀ k, GO' k → GO k ∨ GN k ∨ w.heap.size ≤ k

theorem PutR.of {w0 : World} (hb : Below w0.heap.size w0 w) (h : PutR w cb P dv l kv ks GO GK GN w') : PutR w0 cb P dv l kv ks GO GK GN w' := by
  obtain ⟨o', GO', h1, h2, h3, h4⟩ := h
  exact ⟨o', GO', h1, h2, (Only.of_below hb (Nat.le_refl _)).trans h3 (fun _ _ h => h), fun k hk => (h4 k hk).imp id (fun h => h.imp id (fun h => Nat.le_trans hb.size h))⟩

theorem put_set (h : CAt w cb P dv o kv ks GO GK) {d s i g c : Nat} (hd : d < 3) (hs : s < 6) (hf : fnd o.rows d s = some i) (hv : DataAt w GN v f) (hN : ∀ k, GN k → k < w.heap.size ∧ ¬ GK k) (hl : o.lv = .slice (some ⟨g, 0, none⟩) o.rows.length c) : PutR w cb P dv (putW o.rows d s f v) kv ks GO GK GN (w.setCells g (i * 3) (wcl (⟨d, s, f⟩, v))) := by
  have hgo : GO g := h.opn.gr g (by rw [hl]; rfl)
  have hop := h.opn.mono (G' := fun k => GO k ∨ GN k) (fun k hk => .inl hk)
  rw [hl] at hop
  have hg := hop.set hf (hv.mono (fun k hk => .inr hk))
  have ho := only_set3 w g (i * 3) (.int .i64 (d : Nat)) (.int .i64 (s : Nat)) v
  refine ⟨⟨o.mv, o.lv, putW o.rows d s f v⟩, fun k => GO k ∨ GN k, h.turn (ho.mono (fun k e => .inl (e ▸ hgo))) ?_ ?_ ?_ ?_ ?_, rfl, ho.mono (fun k e => .inl (e ▸ hgo)), fun k hk => hk.imp id .inl⟩
  · exact (ho.block cb (h.lt cb (.inr h.gcb)) (fun e => h.sep g hgo (e ▸ h.gcb))).trans h.str
  · show Grp _ _ o.mv o.lv _
    rw [hl]
    exact hg
  · rintro k (hk | hk)
    · exact h.sep k hk
    · exact (hN k hk).2
  · rintro k (hk | hk)
    · exact Nat.lt_of_lt_of_le (h.lt k (.inl hk)) ho.size
    · exact Nat.lt_of_lt_of_le (hN k hk).1 ho.size
  · exact putW_all (fun r hr => h.ok o (List.mem_cons_self ..) r hr) ⟨hd, hs⟩

theorem Has.setVC {w : World} {g t : Nat} {cs : Array Value} (h : Has w g t cs) (j : Nat) (v : Value) : Has (w.setCell ⟨g, j, none⟩ v) g t (cs.setIfInBounds j v) := h.setV j v

/-- The open group gets a map. -/
theorem put_map (h : CAt w cb P dv o kv ks GO GK) (hm : o.mv = .map none) : ∃ GO', CAt ((w.alloc (.map #[] 0)).setCell ⟨cb, 1, none⟩ (.map (some w.heap.size))) cb P dv ⟨.map (some w.heap.size), o.lv, o.rows⟩ kv ks GO' GK ∧ o.rows = [] ∧ Only (fun k => k = cb) w ((w.alloc (.map #[] 0)).setCell ⟨cb, 1, none⟩ (.map (some w.heap.size))) ∧ ∀ k, GO' k → GO k ∨ w.heap.size ≤ k := by
  have hnil : o.rows = [] := by
    rcases h.opn.mp with ⟨e, _⟩ | ⟨mb, e, _⟩
    · exact e
    · rw [hm] at e
      cases e
  have hba : Below w.heap.size w (w.alloc (.map #[] 0)) := (Below.refl _ _).alloc (Nat.le_refl _) _
  have hcb := h.lt cb (.inr h.gcb)
  have h1 := h.next hba
  have ho := only_setCell (w.alloc (.map #[] 0)) cb 1 (.map (some w.heap.size))
  have hnew : (w.alloc (.map #[] 0)).heap[w.heap.size]? = some (.map #[] 0) := heap_alloc_new w _
  have ho2 : Only (fun k => k = cb) w ((w.alloc (.map #[] 0)).setCell ⟨cb, 1, none⟩ (.map (some w.heap.size))) := (Only.of_below hba (Nat.le_refl _)).trans ho (fun _ _ h => h)
  refine ⟨fun k => GO k ∨ k = w.heap.size, ?_, hnil, ho2, fun k hk => hk.imp id (fun e => Nat.le_of_eq (Eq.symm e))⟩
  refine h1.turn (ho.mono (fun k e => .inr e)) ?_ ?_ ?_ ?_ ?_
  · have := h1.str.setV 1 (.map (some w.heap.size))
    exact this
  · have hop := h1.opn.other (w' := (w.alloc (.map #[] 0)).setCell ⟨cb, 1, none⟩ (.map (some w.heap.size))) h1.str (by decide) (by decide) (fun k hk hn => ho.block k (h1.lt k (.inl hk)) hn)
    refine ⟨.inr ⟨w.heap.size, rfl, .inr rfl, ?_⟩, hop.row, fun g e => .inl (hop.gr g e), fun r hr => (hop.dat r hr).mono (fun k hk => .inl hk), hop.uni⟩
    rw [ho.block w.heap.size (by simp) (by omega), hnew]
    show _ = some (Obj.map (cent 0 o.rows).toArray o.rows.length)
    rw [hnil]
    rfl
  · rintro k (hk | rfl)
    · exact h.sep k hk
    · intro e
      have := h.lt _ (.inr e)
      omega
  · rintro k (hk | rfl)
    · exact Nat.lt_of_lt_of_le (h1.lt k (.inl hk)) ho.size
    · exact Nat.lt_of_lt_of_le (by simp) ho.size
  · exact fun r hr => h.ok o (List.mem_cons_self ..) r hr

/-- A write is put behind the others. -/
theorem put_app (h : CAt w cb P dv o kv ks GO GK) {d s mb : Nat} (hd : d < 3) (hs : s < 6) (hf : fnd o.rows d s = none) (hm : o.mv = .map (some mb)) (hv : DataAt w GN v f) (hN : ∀ k, GN k → k < w.heap.size ∧ ¬ GK k) {W6 W7 w8 : World} {A' : Option Addr} {C' : Nat}
    (h6 : W6 = { w with heap := w.heap.setIfInBounds mb (.map (cent 0 (o.rows ++ [((⟨d, s, f⟩ : Wr), v)])).toArray (o.rows ++ [((⟨d, s, f⟩ : Wr), v)]).length) }) (h7 : Below W6.heap.size W6 W7) (hg : W7.grownBy w8 o.lv.ownBlock) (hr : w8.ownsRow 0 78 3 (.slice A' (o.rows.length + 1) C') (o.rows.length + 1) (o.rows.flatMap wcl ++ wcl (⟨d, s, f⟩, v))) (hw : (Value.slice A' (o.rows.length + 1) C').ownBlock = o.lv.ownBlock ∨ (Value.slice A' (o.rows.length + 1) C').ownBlock = some W7.heap.size) :
    PutR w cb P dv (putW o.rows d s f v) kv ks GO GK GN (w8.setCell ⟨cb, 2, none⟩ (.slice A' (o.rows.length + 1) C')) := by
  obtain ⟨mb', e', gmb, hmb⟩ : ∃ mb', o.mv = .map (some mb') ∧ GO mb' ∧ w.heap[mb']? = some (.map (cent 0 o.rows).toArray o.rows.length) := by
    rcases h.opn.mp with ⟨_, e⟩ | h1
    · rw [hm] at e
      cases e
    · exact h1
  rw [hm] at e'
  cases e'
  have hmlt := h.lt mb (.inl gmb)
  have hcb := h.lt cb (.inr h.gcb)
  have ho6 : Only (fun k => k = mb) w W6 := by rw [h6]; exact only_block w mb _
  have ho7 : Only (fun k => k = mb) w W7 := ho6.trans (Only.of_below h7 (Nat.le_refl _)) (fun _ _ h => h)
  have ho8 : Only (fun k => k = mb ∨ o.lv.ownBlock = some k) w w8 := (ho7.mono (fun k e => .inl e)).trans (G := fun k => o.lv.ownBlock = some k) ⟨hg.os, hg.tape, hg.output, hg.size, fun k hk hn => hg.block k hk (fun e => hn e.symm)⟩ (fun _ _ e => .inr e)
  have hlvlt : ∀ k, o.lv.ownBlock = some k → GO k := h.opn.gr
  have ho9 : Only (fun k => GO k ∨ k = cb) w (w8.setCell ⟨cb, 2, none⟩ (.slice A' (o.rows.length + 1) C')) := (ho8.mono (fun k e => e.elim (fun e => .inl (e ▸ gmb)) (fun e => .inl (hlvlt k e)))).trans (only_setCell w8 cb 2 _) (fun _ _ e => .inr e)
  have hlvmb : o.lv.ownBlock ≠ some mb := fun e => by
    obtain ⟨cur, hcur⟩ := own_block h.opn.row e
    exact map_has_neC hmb (show Has w mb 78 cur from hcur) rfl
  have hmap8 : w8.heap[mb]? = some (.map (cent 0 (o.rows ++ [((⟨d, s, f⟩ : Wr), v)])).toArray (o.rows ++ [((⟨d, s, f⟩ : Wr), v)]).length) := by
    have e6 : W6.heap[mb]? = some (.map (cent 0 (o.rows ++ [((⟨d, s, f⟩ : Wr), v)])).toArray (o.rows ++ [((⟨d, s, f⟩ : Wr), v)]).length) := by rw [h6]; simp [hmlt]
    have l6 : mb < W6.heap.size := (Array.getElem?_eq_some_iff.1 e6).1
    rw [hg.block mb (Nat.lt_of_lt_of_le l6 h7.size) (fun e => hlvmb e.symm), h7.block mb l6]
    exact e6
  have hcb8 : Has w8 cb 73 #[dv, o.mv, o.lv, kv] := (ho8.block cb hcb (fun e => e.elim (fun e => h.sep mb gmb (e ▸ h.gcb)) (fun e => own_has_neC h.opn.row h.str (by decide) e))).trans h.str
  have hA8 : ∀ k, (Value.slice A' (o.rows.length + 1) C').ownBlock = some k → k < w8.heap.size := fun k e => (hr.lt k e).2
  have hAok : ∀ k, (Value.slice A' (o.rows.length + 1) C').ownBlock = some k → GO k ∨ w.heap.size ≤ k := fun k e => by
    rcases hw with h1 | h1
    · exact .inl (hlvlt k (h1 ▸ e))
    · rw [h1] at e
      cases e
      exact .inr ho7.size
  have hs9 := (only_setCell w8 cb 2 (.slice A' (o.rows.length + 1) C')).size
  have hda : ∀ v2 f2 H, DataAt w H v2 f2 → (∀ k, H k → k < w.heap.size ∧ k ≠ cb) → DataAt (w8.setCell ⟨cb, 2, none⟩ (.slice A' (o.rows.length + 1) C')) H v2 f2 := fun v2 f2 H h2 hH => h2.keep1 (fun k e => by
    have hk := hH k (h2.gr k e)
    rw [(only_setCell w8 cb 2 _).block k (Nat.lt_of_lt_of_le hk.1 ho8.size) hk.2]
    refine ho8.block k hk.1 (fun e2 => e2.elim (fun e3 => ?_) (fun e3 => ?_))
    · obtain ⟨cur, hcur⟩ := own_block h2.own e
      exact map_has_neC hmb (show Has w k 5 cur from hcur) e3.symm
    · obtain ⟨cur, hcur⟩ := own_block h.opn.row e3
      exact own_has_neC h2.own (show Has w k 78 cur from hcur) (by decide) e)
  have hlen : (putW o.rows d s f v).length = o.rows.length + 1 := by rw [putW_app hf]; simp
  refine ⟨⟨.map (some mb), .slice A' (o.rows.length + 1) C', putW o.rows d s f v⟩, fun k => GO k ∨ GN k ∨ (w.heap.size ≤ k ∧ k < w8.heap.size), h.turn ho9 ?_ ?_ ?_ ?_ ?_, rfl, ho9, fun k hk => hk.imp id (fun h => h.imp id (fun h => h.1))⟩
  · have := hcb8.setV 2 (.slice A' (o.rows.length + 1) C')
    rw [hm] at this
    exact this
  · refine ⟨.inr ⟨mb, rfl, .inl gmb, ?_⟩, ?_, fun g e => (hAok g e).imp id (fun h => .inr ⟨h, hA8 g e⟩), fun r hr' => ?_, putW_uni h.opn.uni⟩
    · rw [(only_setCell w8 cb 2 _).block mb (Array.getElem?_eq_some_iff.1 hmap8).1 (fun e => h.sep mb gmb (e ▸ h.gcb)), hmap8, putW_app hf]
    · show World.ownsRow _ 0 78 3 _ _ _
      rw [hlen, putW_app hf, List.flatMap_append]
      have e1 : [((⟨d, s, f⟩ : Wr), v)].flatMap wcl = wcl (⟨d, s, f⟩, v) := by simp
      rw [e1]
      exact own_keptC hr (fun g e => (only_setCell w8 cb 2 _).block g (hA8 g e) (fun e2 => own_has_neC hr hcb8 (by decide) (by rw [e, e2])))
    · have hr2 : r ∈ putW o.rows d s f v := hr'
      refine putW_all (p := fun r => DataAt (w8.setCell ⟨cb, 2, none⟩ (.slice A' (o.rows.length + 1) C')) (fun k => GO k ∨ GN k ∨ (w.heap.size ≤ k ∧ k < w8.heap.size)) r.2 r.1.f) (fun r hr3 => ?_) ?_ r hr2
      · exact (hda _ _ GO (h.opn.dat r hr3) (fun k hk => ⟨h.lt k (.inl hk), fun e => h.sep k hk (e ▸ h.gcb)⟩)).mono (fun k hk => .inl hk)
      · exact (hda _ _ GN hv (fun k hk => ⟨(hN k hk).1, fun e => (hN k hk).2 (e ▸ h.gcb)⟩)).mono (fun k hk => .inr (.inl hk))
  · rintro k (hk | hk | hk)
    · exact h.sep k hk
    · exact (hN k hk).2
    · intro e
      have := h.lt k (.inr e)
      omega
  · rintro k (hk | hk | hk)
    · exact Nat.lt_of_lt_of_le (h.lt k (.inl hk)) ho9.size
    · exact Nat.lt_of_lt_of_le (hN k hk).1 ho9.size
    · exact Nat.lt_of_lt_of_le hk.2 hs9
  · exact putW_all (fun r hr => h.ok o (List.mem_cons_self ..) r hr) ⟨hd, hs⟩

theorem MapR.look (h : MapR w G mv l) (d s : Nat) : (Instr.lookup 68 mv (plv d s) true).run Try.prog w = .ok (.tuple #[.int .i64 (idx l d s : Nat), .bool (fnd l d s).isSome]) w := by
  rcases h with ⟨rfl, rfl⟩ | ⟨mb, rfl, _, hb⟩
  · exact run_look_nil d s
  · exact run_look_place hb d s
end Go.Proofs.Ytancebpjfbbcaaa
