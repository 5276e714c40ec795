/- Texts that the statements of this stage share, joined: JnFlush, JnClear, JnSays, JnAlive, DwMap. -/
import Derived.Test.YtoiaclmfljoomaaDoorJoint08
import Derived.Test.YtoiaclmfljoomaaDoorJoint02
import Derived.MapKept
import Derived.Laws.Externs
import Derived.Carry

/- journal: Flush. -/
namespace Go.Proofs.YtoiaclmfljoomaaDoor
open Go.ChangeShapes Go.WideShapes Go.ChangeAt Go.RowKit
set_option linter.unusedVariables false

variable {D : DevRep} {B : Nat} {w0 w w' : World} {j p c m n : Nat} {s : DS} {F : Nat → Prop} {rs : List RC} {fl : Nat} {G : Nat → Prop} {im C : Nat} {I : Nat → Nat} {rv : Value} {Cc : Nat → Nat}

/-- What Flush does to its device. -/
def FlushD (s s1 s' : DS) (m m1 m' : Nat) (rs : List RC) (fl : Nat) (I : Nat → Nat) : Prop :=
  Stands dgS I (64 * s.n) rs ∧ LayD s s1 m m1 (clr (endOf 0 (rs.take fl)) I) (setParts s.n (endOf 0 (rs.take fl))) ∧ LayD s1 s' m1 m' I [(endOf 0 (rs.take fl) / 64 + 1, s.n), (endOf 0 (rs.take fl) / 64, endOf 0 (rs.take fl) / 64 + 1)]

/-- What Flush answers and leaves. -/
def FlushR (D : DevRep) (B : Nat) (w0 w : World) (j p : Nat) (s : DS) (c m : Nat) (F : Nat → Prop) (rs : List RC) (fl : Nat) (G : Nat → Prop) (e : Ending) (w' : World) : Prop :=
  (fl = rs.length ∧ e = .returned (.int .i64 0) ∧ Below w.heap.size w w') ∨ (fl ≠ rs.length ∧ s.dead = true ∧ e = .returned (.int .i64 73) ∧ Below w.heap.size w w') ∨
  (fl ≠ rs.length ∧ s.dead = false ∧ e = .returned (.int .i64 0) ∧ ∃ I s1 m1 s' m' F', FlushD s s1 s' m m1 m' rs fl I ∧ JStep D B w0 w w' j p s' c m' F F' rs rs.length G G)

theorem run_load_pd {o : Oper} {a : Act} (x : Operand) (ho : o.op = .load 24 x) (p : Addr) (hx : a.eval x = .pointer (some p)) (v : Value) (w : World) (h : w.cell? p = some v) : (execOp a.eval o).run Tryd.prog w = .ok (.value v) w := by
  unfold execOp
  simp only [ho, hx]
  go_simp

theorem run_load_3J {o : Oper} {a : Act} (x : Operand) (ho : o.op = .load 3 x) (p : Addr) (hx : a.eval x = .pointer (some p)) (v : Value) (w : World) (h : w.cell? p = some v) : (execOp a.eval o).run Tryd.prog w = .ok (.value v) w := by
  unfold execOp
  simp only [ho, hx]
  go_simp

theorem run_slice_recs {o : Oper} {a : Act} (x l : Operand) (ho : o.op = .slice 32 x none (some l) none) (A : Addr) (L cap q : Nat) (hx : a.eval x = .slice (some A) L cap) (hl : a.eval l = .int .i64 (q : Nat)) (h1 : q ≤ cap) (w : World) :
    (execOp a.eval o).run Tryd.prog w = .ok (.value (.slice (some A) q cap)) w := by
  have hz : ∃ inf, Tryd.prog.info? 33 = some inf ∧ inf.size = 1 := by
    obtain ⟨i0, hi, hz0, hz1, hz2⟩ := info_parts Tryd.infoBy
    exact ⟨i0, hi, hz1⟩
  obtain ⟨inf, hi, hs⟩ := hz
  unfold execOp
  simp only [ho, hx, hl, Option.map_some, Option.map_none]
  simp [Instr.sliceAt, Instr.slice, Instr.sliceBounds, Instr.sliceBound, run_underlying Tryd.underlying32, go_sem, asIntOf, h1, sizeOf, typeInfo, hi]

theorem Sl.take {ra : Option Addr} (h : Sl w ra rs) (k : Nat) : Sl w ra (rs.take k) := fun i r hi => h i r (by
  rw [List.getElem?_take] at hi
  split at hi
  · exact hi
  · cases hi)

theorem sized_take (h : Sized rs) (k : Nat) : Sized (rs.take k) := fun r hr => h r (List.mem_of_mem_take hr)

/-- Where some records end, others follow. -/
theorem take_end (h : Sized rs) {k : Nat} (hk : k < rs.length) : endOf 0 (rs.take k) + 16 ≤ endOf 0 rs := by
  obtain ⟨r, hr⟩ : ∃ r, rs[k]? = some r := ⟨_, List.getElem?_eq_getElem hk⟩
  have h1 := endOf_take rs 0 k r hr
  have h2 := endOf_take_le rs 0 (k + 1)
  have h3 := h r (List.mem_of_getElem? hr)
  have h4 := jrnd_ge r.L
  have h5 : 8 ≤ jrnd r.L := by unfold jrnd; omega
  omega

/-- What Flush lays last. -/
theorem lay_leaf (hD : DevOk D) {w6 W : World} {s1 : DS} {m1 T N b g : Nat} {F1 : Nat → Prop} (hI6 : In D B w0 w6 p s1 c m1 F1) (hbt1 : Byt s1) (hs1n : s1.n = s.n) (hn : s.n ≤ 1000) (hm1 : m1 ≤ 95000) (hlg1 : s1.log.length ≤ 95000) (hIby : ∀ k, I k < 256) (h1 : Below w6.heap.size w6 W) (h2 : w6.heap.size ≤ b) (h3 : w6.heap.size ≤ g) (h4 : Has W b 24 #[ptr p]) (h5 : Has W g 71 (pcells [(T + 1, s.n), (T, T + 1)]).toArray) (himg : Bytes w6 (some ⟨im, 0, none⟩) N I) (hN : N = 64 * s.n) (hNC : N ≤ C) (him : Off F1 c im) (hTn : T < s.n) :
    Calls Tryd.prog 46 #[ptr p, .slice (some ⟨im, 0, none⟩) N C, .func (.func 68) #[] #[ptr b], .slice (some ⟨g, 0, none⟩) 2 2] W (LayPost D B w0 w6 p s1 c m1 F1 I [(T + 1, s.n), (T, T + 1)]) := by
  rw [← hs1n] at hN hn hTn h5 ⊢
  subst hN
  have hc : costP [(T + 1, s1.n), (T, T + 1)] ≤ 4000 := by
    unfold costP
    simp only [List.map_cons, List.map_nil, List.sum_cons, List.sum_nil]
    omega
  have hl := lay_r hD (hI6.next hD h1) hbt1 hn hm1 hlg1 (cap := 2) (np := 2) (parts := [(T + 1, s1.n), (T, T + 1)]) hIby (himg.below h1 (Nat.le_refl _)) him hNC rfl (by decide) h5 (in_offs hD hI6 g h3) (fun q hq => by
    simp only [List.mem_cons, List.not_mem_nil, or_false] at hq
    rcases hq with rfl | rfl
    · show T + 1 ≤ s1.n ∧ s1.n ≤ s1.n
      omega
    · show T ≤ T + 1 ∧ T + 1 ≤ s1.n
      omega) hc h4 (in_offs hD hI6 b h2)
  exact Calls.mono hl (fun e w' hp => LayPost.back h1 hp)

/-- Flushed: the struct's number is set. -/
theorem flush_in (hD : DevOk D) (h : JIn D B w0 w j p s c m F rs fl G) (hX : JnX w j p s.n rs fl G im C I rv Cc) {w9 : World} {s9 : DS} {m9 : Nat} {F9 : Nat → Prop} (hof : Only (fun k => F k ∨ k = c) w w9) (hg : Grew w F F9) (hI : In D B w0 w9 p s9 c m9 F9) (hn : s9.n = s.n) :
    JStep D B w0 w (w9.setCell ⟨j, 3, none⟩ (.int .i64 (rs.length : Nat))) j p s9 c m9 F F9 rs rs.length G G := by
  have hX9 := hX.kept (w' := w9) (fun k hk => hof.block k (h.lt k hk) (h.ap k hk))
  have hst := has_setJ hX9.str 3 (.int .i64 (rs.length : Nat))
  have ho := only_setJ w9 j 3 (.int .i64 (rs.length : Nat))
  have hji : j ≠ im := fun e => own_has_ne hX9.img hX9.str (by decide) (by rw [e]; rfl)
  have hjr := own_has_ne hX9.row hX9.str (by decide)
  have hjb := h.base j hX.gj
  have hoffG : ∀ k, G k → Off F9 c k := fun k hk => (h.ap k hk).grew hg (h.lt k hk)
  refine ⟨⟨hI.only hD ho (fun k hk e => hoffG j hX.gj (.inl (e ▸ hk))) (fun e => hoffG j hX.gj (.inr e.symm)) (fun k hk => by rw [hk]; exact hjb), ?_, h.base, hoffG⟩, ?_, hg, fun k hk => .inl hk⟩
  · rw [hn]
    refine ⟨im, C, I, rv, Cc, ⟨hst, own_only hX9.img ho (fun g e e2 => ?_), own_only hX9.row ho (fun g e e2 => ?_), hX9.cap, hX9.std, hX9.byt, hX9.gj, hX9.gi, hX9.gr, Nat.le_refl _, hX9.rby⟩, fun k hk => ?_⟩
    · cases e
      exact hji e2.symm
    · have e3 : g = j := e2
      exact hjr (by rw [← e3]; exact e)
    · have := h.lt k hk
      have := hof.size
      have := ho.size
      omega
  · exact (hof.mono (fun k hk => Or.inl hk)).trans (ho.mono (fun k e => Or.inr (by rw [e]; exact hX.gj)) : Only (fun k => (F k ∨ k = c) ∨ G k) w9 _) (fun _ _ h => h)

set_option maxRecDepth 100000 in
set_option maxHeartbeats 1000000 in
theorem flush_none (hD : DevOk D) (h : JIn D B w0 w j p s c m F rs fl G) (hn : s.n ≤ 1000) (he : fl = rs.length) :
    Calls Tryd.prog 15 #[ptr j] w (FlushR D B w0 w j p s c m F rs fl G) := by
  obtain ⟨im, C, I, rv, Cc, hX, hGl⟩ := h.jn
  have hsz := h.sized
  have hpn := jp_nil j
  have c2 : w.cell? ⟨j, 2, none⟩ = some rv := hX.str.cell 2
  have c3 : w.cell? ⟨j, 3, none⟩ = some (.int .i64 (fl : Nat)) := hX.str.cell 3
  obtain ⟨ra, rc, hrv, _⟩ := hX.sl
  have HE : Hid (fl = rs.length) := he
  rw [hrv, ← he] at c2
  have hfl : fl ≤ 64000 := by omega
  clear hX he hrv
  go_enter Tryd.func15, Tryd.ntmps15
  go_wp2
  go_quiet (fail)
  go_wp2
  go_ret
  exact .inl ⟨HE.out, rfl, below_drewN (Below.refl _ _) nq⟩

set_option maxRecDepth 100000 in
set_option maxHeartbeats 4000000 in
theorem flush_some (hD : DevOk D) (hM : DevMore D) (h : JIn D B w0 w j p s c m F rs fl G) (hbt : Byt s) (hn : s.n ≤ 1000) (hm : m ≤ 90000) (hl : s.log.length ≤ 90000) (he : fl ≠ rs.length) :
    Calls Tryd.prog 15 #[ptr j] w (FlushR D B w0 w j p s c m F rs fl G) := by
  obtain ⟨im, C, I, rv, Cc, hX, hGl⟩ := h.jn
  have hsz := h.sized
  have hpn := jp_nil j
  have c2 : w.cell? ⟨j, 2, none⟩ = some rv := hX.str.cell 2
  have c3 : w.cell? ⟨j, 3, none⟩ = some (.int .i64 (fl : Nat)) := hX.str.cell 3
  obtain ⟨ra, rc, hrv, hsl⟩ := hX.sl
  have HE : Hid (fl ≠ rs.length) := he
  obtain ⟨K, hK⟩ : ∃ K, K = rs.length := ⟨_, rfl⟩
  have HK : Hid (K = rs.length) := hK
  rw [← hK] at hrv
  have hlt : fl < K := by omega
  have hKb : K ≤ 64000 := by omega
  have i0 : ¬ (fl : Int) = (K : Int) := by omega
  have hte := take_end hsz.1 (show fl < rs.length by omega)
  obtain ⟨Ra, rfl⟩ : ∃ Ra, ra = some Ra := by
    cases ra with
    | none =>
      exfalso
      rcases hX.row.2 with ⟨_, h9⟩ | ⟨g9, c9, u9, e9, _⟩
      · omega
      · rw [hrv] at e9; cases e9
    | some Ra => exact ⟨Ra, rfl⟩
  have hrcap : fl ≤ rc := by
    rcases hX.row.2 with ⟨_, h9⟩ | ⟨g9, c9, u9, e9, _, _, h9, _⟩
    · omega
    · rw [hrv] at e9
      cases e9
      omega
  obtain ⟨E, hE⟩ : ∃ E, E = endOf 0 (rs.take fl) := ⟨_, rfl⟩
  have HE2 : Hid (E = endOf 0 (rs.take fl)) := hE
  rw [← hE] at hte
  obtain ⟨N, hN⟩ : ∃ N, N = 64 * s.n := ⟨_, rfl⟩
  have HN : Hid (N = 64 * s.n) := hN
  have hNb : N ≤ 64000 := by omega
  have hEN : E + 16 ≤ N := by omega
  have hEle : E ≤ N := by omega
  have hN0 : 0 < N := by omega
  obtain ⟨T, hT⟩ : ∃ T, T = E / 64 := ⟨_, rfl⟩
  have HT : Hid (T = E / 64) := hT
  have eT : (E : Int) / 64 = (T : Int) := by omega
  have hTn : T < s.n := by omega
  have hTb : (T : Int) ≤ 1000 := by omega
  have hEb : (E : Int) ≤ 64000 := by omega
  have hIby := hX.byt
  rw [hrv] at c2
  clear hE hN hT hK he hte
  go_enter Tryd.func15, Tryd.ntmps15
  go_wp2
  go_quiet (fail)
  go_wp2
  have hb1 : Below w.heap.size w (w.drewN nq) := below_drewN (Below.refl _ _) nq
  have c21 : (w.drewN nq).cell? ⟨j, 2, none⟩ = some (.slice (some Ra) K rc) := c2
  have c31 : (w.drewN nq).cell? ⟨j, 3, none⟩ = some (.int .i64 (fl : Nat)) := c3
  have hsp := span_j (w := (w.drewN nq).drew) (c := rc) (show Sl (w.drewN nq).drew (some Ra) (rs.take fl) from hsl.take fl) (show fl = (rs.take fl).length by rw [List.length_take]; omega) (by omega) (sized_take hsz.1 fl) (by rw [← HE2.out]; omega)
  rw [← HE2.out] at hsp
  refine wp_region_held_drew (S := fun wz => wz = (w.drewN nq).drew) (by kernel_rfl) rfl (fun hHeld => ?_)
  refine takeTo 0 (some 22) (ptr j) rfl rfl (by kernel_rfl) (by kernel_rfl) (by kernel_rfl) (fun _ _ _ h => h) (by rfl) (fun _ _ => rfl) hHeld ?_
  simp only [Act.put, List.setIfInBounds_toArray, List.set_cons_zero, List.set_cons_succ]
  refine takeTo 1 (some 23) (.pointer (some ⟨j, 0, none⟩)) rfl rfl (by kernel_rfl) (by kernel_rfl) (by kernel_rfl) (fun _ _ _ h => h) (by rfl) (fun _ _ => rfl) hHeld ?_
  simp only [Act.put, List.setIfInBounds_toArray, List.set_cons_zero, List.set_cons_succ]
  refine takeTo 2 (some 24) (.pointer (some ⟨j, 2, none⟩)) rfl rfl (by kernel_rfl) (by kernel_rfl) (by kernel_rfl) (fun _ _ _ h => h) (by rfl) (fun _ _ => rfl) hHeld ?_
  simp only [Act.put, List.setIfInBounds_toArray, List.set_cons_zero, List.set_cons_succ]
  refine takeTo 3 (some 25) (.slice (some Ra) K rc) rfl rfl (by kernel_rfl) (by kernel_rfl) (by kernel_rfl) (fun _ _ _ h => h) (by rfl) (fun wz hz => by rw [hz]; exact run_load_recs _ rfl _ rfl _ _ c21) hHeld ?_
  simp only [Act.put, List.setIfInBounds_toArray, List.set_cons_zero, List.set_cons_succ]
  refine takeTo 4 (some 26) (ptr j) rfl rfl (by kernel_rfl) (by kernel_rfl) (by kernel_rfl) (fun _ _ _ h => h) (by rfl) (fun _ _ => rfl) hHeld ?_
  simp only [Act.put, List.setIfInBounds_toArray, List.set_cons_zero, List.set_cons_succ]
  refine takeTo 5 (some 27) (.pointer (some ⟨j, 0, none⟩)) rfl rfl (by kernel_rfl) (by kernel_rfl) (by kernel_rfl) (fun _ _ _ h => h) (by rfl) (fun _ _ => rfl) hHeld ?_
  simp only [Act.put, List.setIfInBounds_toArray, List.set_cons_zero, List.set_cons_succ]
  refine takeTo 6 (some 28) (.pointer (some ⟨j, 3, none⟩)) rfl rfl (by kernel_rfl) (by kernel_rfl) (by kernel_rfl) (fun _ _ _ h => h) (by rfl) (fun _ _ => rfl) hHeld ?_
  simp only [Act.put, List.setIfInBounds_toArray, List.set_cons_zero, List.set_cons_succ]
  refine takeTo 7 (some 29) (.int .i64 (fl : Nat)) rfl rfl (by kernel_rfl) (by kernel_rfl) (by kernel_rfl) (fun _ _ _ h => h) (by rfl) (fun wz hz => by rw [hz]; exact run_load_3J _ rfl _ rfl _ _ c31) hHeld ?_
  simp only [Act.put, List.setIfInBounds_toArray, List.set_cons_zero, List.set_cons_succ]
  refine takeTo 8 (some 30) (.slice (some Ra) fl rc) rfl rfl (by kernel_rfl) (by kernel_rfl) (by kernel_rfl) (fun _ _ _ h => h) (by rfl) (fun wz _ => run_slice_recs _ _ rfl Ra K rc fl rfl rfl hrcap wz) hHeld ?_
  simp only [Act.put, List.setIfInBounds_toArray, List.set_cons_zero, List.set_cons_succ]
  refine callTo 9 (some 31) 42 #[.slice (some Ra) fl rc] (by kernel_rfl) rfl rfl (by rfl) (by kernel_rfl) hsp ?_
  rintro e wz ⟨rfl, hz⟩
  refine ⟨_, rfl, hz, ?_⟩
  rw [hz]
  simp only [Act.put, List.setIfInBounds_toArray, List.set_cons_zero, List.set_cons_succ]
  refine takeTo 10 (some 3) (.int .i64 (E : Nat)) rfl rfl (by kernel_rfl) (by kernel_rfl) (by kernel_rfl) (fun _ _ _ h => h) (by rfl) (fun _ _ => rfl) rfl ?_
  simp only [Act.put, List.setIfInBounds_toArray, List.set_cons_zero, List.set_cons_succ]
  refine wpAnyH_done (by kernel_rfl) ?_ _
  have hb2 : Below w.heap.size w (w.drewN nq).drew := hb1.drew
  clear hsp c21 c31 hHeld hb1
  generalize (w.drewN nq).drew = w2 at hb2 ⊢
  have hX2 := hX.kept (w' := w2) (fun k hk => hb2.block k (hGl k hk))
  have hI2 := h.dev.next hD hb2
  have d1 : w2.cell? ⟨j, 1, none⟩ = some (.slice (some ⟨im, 0, none⟩) N C) := by rw [HN.out]; exact hX2.str.cell 1
  have himg2 := (own_by hX2.img)
  rw [← HN.out] at himg2
  have hcl := clone_j (C := C) himg2.1 (by omega)
  obtain ⟨X, hX9⟩ : ∃ X : Nat → Nat → Addr, X = (fun g C3 => if C3 = E then ⟨g, 0, none⟩ else ⟨g, 0 + E, none⟩) := ⟨_, rfl⟩
  have HX : Hid (∀ g C3, X g C3 = (if C3 = E then ⟨g, 0, none⟩ else ⟨g, 0 + E, none⟩)) := by intro g C3; rw [hX9]
  clear hX9
  go_wp2_with (first
    | ((go_at_call 44)
       (refine hcl.mono ?_)
       (rintro e w3 ⟨hb3, v3, rfl, ho3⟩)
       (clear hcl)
       (obtain ⟨g3, C3, rfl, hg3, hg3l⟩ := own_some ho3 hN0)
       (obtain ⟨w4, hck, hi4, hgr4⟩ := run_clear_own ho3 hEle))
    | (refine at_dst 39 rfl ?_; refine wpList_is (some 39) (.slice (some (X g3 C3)) (N - E) (C3 - E)) rfl (by rfl) (by rw [HX.out g3 C3]; exact run_slice_from _ _ rfl g3 0 N C3 E rfl rfl hEle _) ?_)
    | (refine at_clr (.tmp 39) rfl ?_; refine wpList_is_w none (.tuple #[]) w4 rfl (by rfl) (hck _ _ (.tmp 39) rfl (by rw [← HX.out g3 C3]; rfl)) ?_))
  have hoff := in_offs hD h.dev
  have hgw : w.heap.size ≤ g3 := Nat.le_trans hb2.size hg3
  have hb23 := hb2.trans (hb3.mono hb2.size)
  have hof4 : Only (fun k => F k ∨ k = c) w w4 := (Only.of_below hb23 (Nat.le_refl _)).trans (only_grown hgr4) (fun x hx e => absurd e (by omega))
  have hI4 : In D B w0 w4 p s c m F := (h.dev.next hD hb23).only hD (only_grown hgr4) (fun k hk e => hoff g3 hgw (.inl (e ▸ hk))) (fun e => hoff g3 hgw (.inr e.symm)) (fun k hk => by rw [hk]; exact Nat.le_trans h.dev.sz hgw)
  have hX4 := hX.kept (w' := w4) (fun k hk => hof4.block k (hGl k hk) (h.ap k hk))
  have e0 : w4.cell? ⟨j, 0, none⟩ = some (ptr p) := hX4.str.cell 0
  have hbw4 : Below w.heap.size w w4 := hb23.trans ((only_grown hgr4).below (fun k hk => by rw [hk]; exact hgw) hb23.size)
  have hb5 : Below w4.heap.size w4 (w4.drew.alloc (.cells #[ptr p] 24)) := ((Below.refl _ w4).drew).alloc (Nat.le_refl _) _
  have hI5 := hI4.next hD hb5
  have hi5 := own_belowJ hi4 hb5
  have hbx5 : Has (w4.drew.alloc (.cells #[ptr p] 24)) w4.heap.size 24 #[ptr p] := Has.new _ _ _
  have hs4 : w.heap.size ≤ w4.heap.size := hof4.size
  have hse := settle_r hD hM hI5 hbt hn (by omega) (by omega) (clr_lt E I hIby) (by rw [← HN.out]; exact (own_by hi5).1) (hoff g3 hgw) (by rw [← HN.out]; exact (own_by hi5).2) (by rw [← HN.out]; exact hEle) hbx5 (hoff _ hs4)
  rw [← HN.out] at hse
  have hof5 : Only (fun k => F k ∨ k = c) w (w4.drew.alloc (.cells #[ptr p] 24)) := hof4.trans (Only.of_below (F := fun k => F k ∨ k = c) hb5 (Nat.le_refl _)) (fun _ _ h => h)
  have hrn := renewer_c p w4.drew
  have hbw5 : Below w.heap.size w (w4.drew.alloc (.cells #[ptr p] 24)) := hbw4.trans (hb5.mono hs4)
  have e5 : (w4.drew.alloc (.cells #[ptr p] 24)).cell? ⟨j, 0, none⟩ = some (ptr p) := (hb5.cell (p := ⟨j, 0, none⟩) (by have := h.lt j hX.gj; show j < w4.heap.size; omega)).trans e0
  refine wp_region_held_drew (S := fun wz => wz.cell? ⟨j, 0, none⟩ = some (ptr p)) (by kernel_rfl) e0 (fun hHeld => ?_)
  refine takeTo 0 (some 40) (ptr j) rfl rfl (by kernel_rfl) (by kernel_rfl) (by kernel_rfl) (fun _ _ _ h => h) (by rfl) (fun _ _ => rfl) hHeld ?_
  simp only [Act.put, List.setIfInBounds_toArray, List.set_cons_zero, List.set_cons_succ]
  refine takeTo 1 (some 41) (.pointer (some ⟨j, 0, none⟩)) rfl rfl (by kernel_rfl) (by kernel_rfl) (by kernel_rfl) (fun _ _ _ h => h) (by rfl) (fun _ _ => rfl) hHeld ?_
  simp only [Act.put, List.setIfInBounds_toArray, List.set_cons_zero, List.set_cons_succ]
  refine takeTo 2 (some 42) (.pointer (some ⟨j, 0, none⟩)) rfl rfl (by kernel_rfl) (by kernel_rfl) (by kernel_rfl) (fun _ _ _ h => h) (by rfl) (fun _ _ => rfl) hHeld ?_
  simp only [Act.put, List.setIfInBounds_toArray, List.set_cons_zero, List.set_cons_succ]
  refine takeTo 3 (some 43) (ptr p) rfl rfl (by kernel_rfl) (by kernel_rfl) (by kernel_rfl) (fun _ _ _ h => h) (by rfl) (fun wz hz => run_load_pd _ rfl _ rfl _ wz hz) hHeld ?_
  simp only [Act.put, List.setIfInBounds_toArray, List.set_cons_zero, List.set_cons_succ]
  refine takeTo 4 (some 44) (.slice (some ⟨g3, 0, none⟩) N C3) rfl rfl (by kernel_rfl) (by kernel_rfl) (by kernel_rfl) (fun _ _ _ h => h) (by rfl) (fun _ _ => rfl) hHeld ?_
  simp only [Act.put, List.setIfInBounds_toArray, List.set_cons_zero, List.set_cons_succ]
  refine takeTo 5 (some 45) (.int .i64 (E : Nat)) rfl rfl (by kernel_rfl) (by kernel_rfl) (by kernel_rfl) (fun _ _ _ h => h) (by rfl) (fun _ _ => rfl) hHeld ?_
  simp only [Act.put, List.setIfInBounds_toArray, List.set_cons_zero, List.set_cons_succ]
  refine takeTo 6 (some 46) (ptr j) rfl rfl (by kernel_rfl) (by kernel_rfl) (by kernel_rfl) (fun _ _ _ h => h) (by rfl) (fun _ _ => rfl) hHeld ?_
  simp only [Act.put, List.setIfInBounds_toArray, List.set_cons_zero, List.set_cons_succ]
  refine takeTo 7 (some 47) (.pointer (some ⟨j, 0, none⟩)) rfl rfl (by kernel_rfl) (by kernel_rfl) (by kernel_rfl) (fun _ _ _ h => h) (by rfl) (fun _ _ => rfl) hHeld ?_
  simp only [Act.put, List.setIfInBounds_toArray, List.set_cons_zero, List.set_cons_succ]
  refine takeTo 8 (some 48) (.pointer (some ⟨j, 0, none⟩)) rfl rfl (by kernel_rfl) (by kernel_rfl) (by kernel_rfl) (fun _ _ _ h => h) (by rfl) (fun _ _ => rfl) hHeld ?_
  simp only [Act.put, List.setIfInBounds_toArray, List.set_cons_zero, List.set_cons_succ]
  refine takeTo 9 (some 49) (ptr p) rfl rfl (by kernel_rfl) (by kernel_rfl) (by kernel_rfl) (fun _ _ _ h => h) (by rfl) (fun wz hz => run_load_pd _ rfl _ rfl _ wz hz) hHeld ?_
  simp only [Act.put, List.setIfInBounds_toArray, List.set_cons_zero, List.set_cons_succ]
  refine callTo 10 (some 50) 45 #[ptr p] (by kernel_rfl) rfl rfl (by rfl) (by kernel_rfl) hrn ?_
  rintro e wz ⟨rfl, hz⟩
  obtain rfl := hz
  refine ⟨_, rfl, e5, ?_⟩
  simp only [Act.put, List.setIfInBounds_toArray, List.set_cons_zero, List.set_cons_succ]
  refine callTo 11 (some 51) 38 #[ptr p, .slice (some ⟨g3, 0, none⟩) N C3, .int .i64 (E : Nat), .func (.func 68) #[] #[ptr w4.heap.size]] (by kernel_rfl) rfl rfl (by rfl) (by kernel_rfl) hse ?_
  rintro e w6 (⟨hd6, rfl, hb6⟩ | ⟨hd6, rfl, s1, m1, F1, hL6, hl6⟩)
  · refine ⟨_, rfl, (hb6.cell (p := ⟨j, 0, none⟩) (by have := h.lt j hX.gj; have := hb5.size; show j < _; omega)).trans e5, ?_⟩
    simp only [Act.put, List.setIfInBounds_toArray, List.set_cons_zero, List.set_cons_succ]
    have e6 := (hb6.cell (p := ⟨j, 0, none⟩) (by have := h.lt j hX.gj; have := hb5.size; show j < _; omega)).trans e5
    refine takeTo 12 (some 5) (.int .i64 73) rfl rfl (by kernel_rfl) (by kernel_rfl) (by kernel_rfl) (fun _ _ _ h => h) (by rfl) (fun _ _ => rfl) e6 ?_
    simp only [Act.put, List.setIfInBounds_toArray, List.set_cons_zero, List.set_cons_succ]
    refine wpAnyH_done (by kernel_rfl) ?_ _
    go_wp2
    go_ret
    refine .inr (.inl ⟨HE.out, hd6, rfl, ?_⟩)
    exact hbw5.trans (hb6.mono (Nat.le_trans hs4 hb5.size))
  · have hof6 : Only (fun k => F k ∨ k = c) w w6 := hof5.trans hL6.only (fun _ _ h => h)
    have hg6 : Grew w F F1 := fun k hk => (hL6.grew k hk).imp id (fun h9 => Nat.le_trans (Nat.le_trans hs4 hb5.size) h9)
    have hI6 := hL6.dev
    have hX6 := hX.kept (w' := w6) (fun k hk => hof6.block k (hGl k hk) (h.ap k hk))
    have e6 : w6.cell? ⟨j, 0, none⟩ = some (ptr p) := hX6.str.cell 0
    have e61 : w6.cell? ⟨j, 1, none⟩ = some (.slice (some ⟨im, 0, none⟩) N C) := by rw [HN.out]; exact hX6.str.cell 1
    have hn1 := hl6.n
    have hco := hl6.cost
    rw [(set_cost s.n E (by rw [← HN.out]; exact hEle)).1] at hco
    have himg6 := own_by hX6.img
    rw [← HN.out] at himg6
    have him6 : Off F1 c im := (h.ap im hX.gi).grew hg6 (hGl im hX.gi)
    have HL6 : Hid (LayD s s1 m m1 (clr E I) (setParts s.n E)) := hl6
    have HD6 : Hid (s.dead = false) := hd6
    have hbt1 := hn1.2.2 hbt
    have hs1n : s1.n = s.n := hn1.1
    have hd1 : s1.dead = false := hn1.2.1.trans hd6
    have hlg1 : s1.log.length ≤ 95000 := by omega
    have hm1 : m1 ≤ 95000 := by omega
    have hleaf := fun (W : World) (b g : Nat) (h1 : Below w6.heap.size w6 W) (h2 : w6.heap.size ≤ b) (h3 : w6.heap.size ≤ g) (h4 : Has W b 24 #[ptr p]) (h5 : Has W g 71 (pcells [(T + 1, s.n), (T, T + 1)]).toArray) => lay_leaf hD hI6 hbt1 hs1n hn hm1 hlg1 hIby h1 h2 h3 h4 h5 himg6.1 HN.out himg6.2 him6 hTn
    have hsize := fun (W : World) (h1 : Below w6.heap.size w6 W) => hM.size W p s1 c m1 F1 (hI6.next hD h1).dev
    rw [hs1n] at hsize
    have hjl : j < w6.heap.size := Nat.lt_of_lt_of_le (h.lt j hX.gj) hof6.size
    have hSW : ∀ W : World, Below w6.heap.size w6 W → W.cell? ⟨j, 0, none⟩ = some (ptr p) ∧ W.cell? ⟨j, 1, none⟩ = some (.slice (some ⟨im, 0, none⟩) N C) := fun W hW => ⟨(hW.cell (p := ⟨j, 0, none⟩) hjl).trans e6, (hW.cell (p := ⟨j, 1, none⟩) hjl).trans e61⟩
    have htail : ∀ (w9 : World) (s9 : DS) (m9 : Nat) (F9 : Nat → Prop), LayAt D B w0 w6 w9 p s9 c m9 F1 F9 → LayD s1 s9 m1 m9 I [(T + 1, s.n), (T, T + 1)] → (w9.cell? ⟨j, 0, none⟩ = some (ptr p) ∧ w9.cell? ⟨j, 1, none⟩ = some (.slice (some ⟨im, 0, none⟩) N C)) ∧ w9.cell? ⟨j, 2, none⟩ = some (.slice (some Ra) K rc) ∧ w9.cell? ⟨j, 3, none⟩ = some (.int .i64 (fl : Nat)) ∧ w9.frozen? ⟨j, 3, none⟩ = false ∧ FlushR D B w0 w j p s c m F rs fl G (.returned (.int .i64 0)) (w9.setCell ⟨j, 3, none⟩ (.int .i64 (K : Nat))) := by
      intro w9 s9 m9 F9 hL9 hl9
      have hof9 : Only (fun k => F k ∨ k = c) w w9 := hof6.trans hL9.only (fun x hx h9 => h9.imp (fun h8 => (hg6 x h8).elim id (fun h7 => by omega)) id)
      have hg9 : Grew w F F9 := fun k hk => (hL9.grew k hk).elim (fun h8 => hg6 k h8) (fun h8 => .inr (Nat.le_trans hof6.size h8))
      have hX9 := hX.kept (w' := w9) (fun k hk => hof9.block k (hGl k hk) (h.ap k hk))
      refine ⟨⟨hX9.str.cell 0, by rw [HN.out]; exact hX9.str.cell 1⟩, by rw [← hrv]; exact hX9.str.cell 2, hX9.str.cell 3, hX9.str.free 3, .inr (.inr ⟨HE.out, HD6.out, rfl, I, s1, m1, s9, m9, F9, ⟨hX.std, by rw [← HE2.out]; exact HL6.out, by rw [← HE2.out, ← HT.out]; exact hl9⟩, ?_⟩)⟩
      rw [HK.out]
      exact flush_in hD h hX hof9 hg9 hL9.dev (hl9.n.1.trans hs1n)
    refine ⟨_, rfl, e6, ?_⟩
    simp only [Act.put, List.setIfInBounds_toArray, List.set_cons_zero, List.set_cons_succ]
    refine takeTo 12 (some 5) (.int .i64 0) rfl rfl (by kernel_rfl) (by kernel_rfl) (by kernel_rfl) (fun _ _ _ h => h) (by rfl) (fun _ _ => rfl) e6 ?_
    simp only [Act.put, List.setIfInBounds_toArray, List.set_cons_zero, List.set_cons_succ]
    refine wpAnyH_done (by kernel_rfl) ?_ _
    clear hL6 hl6 hse hrn hi5 hbx5 hI5 hHeld e5
    go_wp2
    have e6d := hSW w6.drew ((Below.refl _ w6).drew)
    refine wp_region_held_drew (S := fun wz => wz.cell? ⟨j, 0, none⟩ = some (ptr p) ∧ wz.cell? ⟨j, 1, none⟩ = some (.slice (some ⟨im, 0, none⟩) N C)) (by kernel_rfl) e6d (fun hHeld => ?_)
    refine takeTo 0 (some 57) (ptr j) rfl rfl (by kernel_rfl) (by kernel_rfl) (by kernel_rfl) (fun _ _ _ h => h) (by rfl) (fun _ _ => rfl) hHeld ?_
    simp only [Act.put, List.setIfInBounds_toArray, List.set_cons_zero, List.set_cons_succ]
    refine takeTo 1 (some 58) (.pointer (some ⟨j, 0, none⟩)) rfl rfl (by kernel_rfl) (by kernel_rfl) (by kernel_rfl) (fun _ _ _ h => h) (by rfl) (fun _ _ => rfl) hHeld ?_
    simp only [Act.put, List.setIfInBounds_toArray, List.set_cons_zero, List.set_cons_succ]
    refine takeTo 2 (some 59) (.pointer (some ⟨j, 0, none⟩)) rfl rfl (by kernel_rfl) (by kernel_rfl) (by kernel_rfl) (fun _ _ _ h => h) (by rfl) (fun _ _ => rfl) hHeld ?_
    simp only [Act.put, List.setIfInBounds_toArray, List.set_cons_zero, List.set_cons_succ]
    refine takeTo 3 (some 60) (ptr p) rfl rfl (by kernel_rfl) (by kernel_rfl) (by kernel_rfl) (fun _ _ _ h => h) (by rfl) (fun wz hz => run_load_pd _ rfl _ rfl _ wz hz.1) hHeld ?_
    simp only [Act.put, List.setIfInBounds_toArray, List.set_cons_zero, List.set_cons_succ]
    refine takeTo 4 (some 61) (ptr j) rfl rfl (by kernel_rfl) (by kernel_rfl) (by kernel_rfl) (fun _ _ _ h => h) (by rfl) (fun _ _ => rfl) hHeld ?_
    simp only [Act.put, List.setIfInBounds_toArray, List.set_cons_zero, List.set_cons_succ]
    refine takeTo 5 (some 62) (.pointer (some ⟨j, 0, none⟩)) rfl rfl (by kernel_rfl) (by kernel_rfl) (by kernel_rfl) (fun _ _ _ h => h) (by rfl) (fun _ _ => rfl) hHeld ?_
    simp only [Act.put, List.setIfInBounds_toArray, List.set_cons_zero, List.set_cons_succ]
    refine takeTo 6 (some 63) (.pointer (some ⟨j, 1, none⟩)) rfl rfl (by kernel_rfl) (by kernel_rfl) (by kernel_rfl) (fun _ _ _ h => h) (by rfl) (fun _ _ => rfl) hHeld ?_
    simp only [Act.put, List.setIfInBounds_toArray, List.set_cons_zero, List.set_cons_succ]
    refine takeTo 7 (some 64) (.slice (some ⟨im, 0, none⟩) N C) rfl rfl (by kernel_rfl) (by kernel_rfl) (by kernel_rfl) (fun _ _ _ h => h) (by rfl) (fun wz hz => run_load_row1 _ rfl _ rfl _ wz hz.2) hHeld ?_
    simp only [Act.put, List.setIfInBounds_toArray, List.set_cons_zero, List.set_cons_succ]
    refine takeTo 8 (some 65) (ptr j) rfl rfl (by kernel_rfl) (by kernel_rfl) (by kernel_rfl) (fun _ _ _ h => h) (by rfl) (fun _ _ => rfl) hHeld ?_
    simp only [Act.put, List.setIfInBounds_toArray, List.set_cons_zero, List.set_cons_succ]
    refine takeTo 9 (some 66) (.pointer (some ⟨j, 0, none⟩)) rfl rfl (by kernel_rfl) (by kernel_rfl) (by kernel_rfl) (fun _ _ _ h => h) (by rfl) (fun _ _ => rfl) hHeld ?_
    simp only [Act.put, List.setIfInBounds_toArray, List.set_cons_zero, List.set_cons_succ]
    refine takeTo 10 (some 67) (.pointer (some ⟨j, 0, none⟩)) rfl rfl (by kernel_rfl) (by kernel_rfl) (by kernel_rfl) (fun _ _ _ h => h) (by rfl) (fun _ _ => rfl) hHeld ?_
    simp only [Act.put, List.setIfInBounds_toArray, List.set_cons_zero, List.set_cons_succ]
    refine takeTo 11 (some 68) (ptr p) rfl rfl (by kernel_rfl) (by kernel_rfl) (by kernel_rfl) (fun _ _ _ h => h) (by rfl) (fun wz hz => run_load_pd _ rfl _ rfl _ wz hz.1) hHeld ?_
    simp only [Act.put, List.setIfInBounds_toArray, List.set_cons_zero, List.set_cons_succ]
    refine takeTo 13 (some 70) (.int .i64 (T : Nat)) rfl rfl (by kernel_rfl) (by kernel_rfl) (by kernel_rfl) (fun _ _ _ h => h) (by rfl) (fun _ _ => rfl) hHeld ?_
    simp only [Act.put, List.setIfInBounds_toArray, List.set_cons_zero, List.set_cons_succ]
    refine takeTo 14 (some 71) (.int .i64 ((T + 1 : Nat) : Int)) rfl rfl (by kernel_rfl) (by kernel_rfl) (by kernel_rfl) (fun _ _ _ h => h) (by rfl) (fun wz _ => run_addJ _ rfl T 1 rfl ⟨rfl, by omega⟩ wz) hHeld ?_
    simp only [Act.put, List.setIfInBounds_toArray, List.set_cons_zero, List.set_cons_succ]
    refine takeTo 15 (some 72) (ptr j) rfl rfl (by kernel_rfl) (by kernel_rfl) (by kernel_rfl) (fun _ _ _ h => h) (by rfl) (fun _ _ => rfl) hHeld ?_
    simp only [Act.put, List.setIfInBounds_toArray, List.set_cons_zero, List.set_cons_succ]
    refine takeTo 16 (some 73) (.pointer (some ⟨j, 0, none⟩)) rfl rfl (by kernel_rfl) (by kernel_rfl) (by kernel_rfl) (fun _ _ _ h => h) (by rfl) (fun _ _ => rfl) hHeld ?_
    simp only [Act.put, List.setIfInBounds_toArray, List.set_cons_zero, List.set_cons_succ]
    refine takeTo 17 (some 74) (.pointer (some ⟨j, 0, none⟩)) rfl rfl (by kernel_rfl) (by kernel_rfl) (by kernel_rfl) (fun _ _ _ h => h) (by rfl) (fun _ _ => rfl) hHeld ?_
    simp only [Act.put, List.setIfInBounds_toArray, List.set_cons_zero, List.set_cons_succ]
    refine takeTo 18 (some 75) (ptr p) rfl rfl (by kernel_rfl) (by kernel_rfl) (by kernel_rfl) (fun _ _ _ h => h) (by rfl) (fun wz hz => run_load_pd _ rfl _ rfl _ wz hz.1) hHeld ?_
    simp only [Act.put, List.setIfInBounds_toArray, List.set_cons_zero, List.set_cons_succ]
    refine takeTo 21 (some 78) (.int .i64 (T : Nat)) rfl rfl (by kernel_rfl) (by kernel_rfl) (by kernel_rfl) (fun _ _ _ h => h) (by rfl) (fun _ _ => rfl) hHeld ?_
    simp only [Act.put, List.setIfInBounds_toArray, List.set_cons_zero, List.set_cons_succ]
    refine takeTo 22 (some 79) (.int .i64 (T : Nat)) rfl rfl (by kernel_rfl) (by kernel_rfl) (by kernel_rfl) (fun _ _ _ h => h) (by rfl) (fun _ _ => rfl) hHeld ?_
    simp only [Act.put, List.setIfInBounds_toArray, List.set_cons_zero, List.set_cons_succ]
    refine takeTo 23 (some 80) (.int .i64 ((T + 1 : Nat) : Int)) rfl rfl (by kernel_rfl) (by kernel_rfl) (by kernel_rfl) (fun _ _ _ h => h) (by rfl) (fun wz _ => run_addJ _ rfl T 1 rfl ⟨rfl, by omega⟩ wz) hHeld ?_
    simp only [Act.put, List.setIfInBounds_toArray, List.set_cons_zero, List.set_cons_succ]
    refine takeTo 24 (some 81) (.agg #[.int .i64 (T : Nat), .int .i64 ((T + 1 : Nat) : Int)]) rfl rfl (by kernel_rfl) (by kernel_rfl) (by kernel_rfl) (fun _ _ _ h => h) (by rfl) (fun _ _ => by kernel_rfl) hHeld ?_
    simp only [Act.put, List.setIfInBounds_toArray, List.set_cons_zero, List.set_cons_succ]
    have b0 : Below w6.heap.size w6 w6.drew := (Below.refl _ w6).drew
    refine callTo 12 (some 69) 45 #[ptr p] (by kernel_rfl) rfl rfl (by rfl) (by kernel_rfl) (renewer_c p w6.drew) ?_
    rintro e wz ⟨rfl, hz⟩
    obtain rfl := hz
    have b1 : Below w6.heap.size w6 (w6.drew.alloc (.cells #[ptr p] 24)) := b0.alloc (Nat.le_refl _) _
    refine ⟨_, rfl, hSW _ b1, ?_⟩
    simp only [Act.put, List.setIfInBounds_toArray, List.set_cons_zero, List.set_cons_succ]
    have hbx1 : Has (w6.drew.alloc (.cells #[ptr p] 24)) w6.heap.size 24 #[ptr p] := Has.new _ _ _
    have hz1 := hsize (w6.drew.alloc (.cells #[ptr p] 24)) b1
    generalize w6.drew.alloc (.cells #[ptr p] 24) = wA at b1 hbx1 hz1 ⊢
    refine callTo 19 (some 76) 37 #[ptr p] (by kernel_rfl) rfl rfl (by rfl) (by kernel_rfl) hz1 ?_
    rintro e wB ⟨rfl, hb2⟩
    have b2 := b1.trans (hb2.mono b1.size)
    refine ⟨_, rfl, hSW _ b2, ?_⟩
    simp only [Act.put, List.setIfInBounds_toArray, List.set_cons_zero, List.set_cons_succ]
    refine takeTo 20 (some 77) (.agg #[.int .i64 ((T + 1 : Nat) : Int), .int .i64 (s.n : Nat)]) rfl rfl (by kernel_rfl) (by kernel_rfl) (by kernel_rfl) (fun _ _ _ h => h) (by rfl) (fun _ _ => by kernel_rfl) (hSW _ b2) ?_
    simp only [Act.put, List.setIfInBounds_toArray, List.set_cons_zero, List.set_cons_succ]
    refine ready1 25 (by kernel_rfl) ?_
    have b3 : Below w6.heap.size w6 (wB.alloc (.cells (pcells [(T + 1, s.n), (T, T + 1)]).toArray 71)) := b2.alloc b2.size _
    refine stepVal (some 82) (.slice (some ⟨wB.heap.size, 0, none⟩) 2 2) (wB.alloc (.cells (pcells [(T + 1, s.n), (T, T + 1)]).toArray 71)) rfl rfl (by rfl) (by kernel_rfl) ⟨hSW _ b3, ?_⟩
    simp only [Act.put, List.setIfInBounds_toArray, List.set_cons_zero, List.set_cons_succ]
    have hbW := b3
    have hbb : w6.heap.size ≤ w6.heap.size := Nat.le_refl _
    have hgg : w6.heap.size ≤ wB.heap.size := b2.size
    have hbxW : Has (wB.alloc (.cells (pcells [(T + 1, s.n), (T, T + 1)]).toArray 71)) w6.heap.size 24 #[ptr p] := (hbx1.below hb2 hbx1.lt).alloc _
    have hpW : Has (wB.alloc (.cells (pcells [(T + 1, s.n), (T, T + 1)]).toArray 71)) wB.heap.size 71 (pcells [(T + 1, s.n), (T, T + 1)]).toArray := Has.new _ _ _
    generalize wB.alloc (.cells (pcells [(T + 1, s.n), (T, T + 1)]).toArray 71) = W at hbW hbxW hpW b3 ⊢
    refine callTo 26 (some 83) 46 #[ptr p, .slice (some ⟨im, 0, none⟩) N C, .func (.func 68) #[] #[ptr (w6.heap.size)], .slice (some ⟨wB.heap.size, 0, none⟩) 2 2] (by kernel_rfl) rfl rfl (by rfl) (by kernel_rfl) (hleaf W (w6.heap.size) (wB.heap.size) hbW hbb hgg hbxW hpW) ?_
    rintro e w9 (⟨hd9, _⟩ | ⟨_, rfl, s9, m9, F9, hL9, hl9⟩)
    · exact absurd (hd1.symm.trans hd9) (by decide)
    · obtain ⟨t1, t2, t3, t4, t5⟩ := htail w9 s9 m9 F9 hL9 hl9
      refine ⟨_, rfl, t1, ?_⟩
      simp only [Act.put, List.setIfInBounds_toArray, List.set_cons_zero, List.set_cons_succ]
      refine takeTo 27 (some 7) (.int .i64 0) rfl rfl (by kernel_rfl) (by kernel_rfl) (by kernel_rfl) (fun _ _ _ h => h) (by rfl) (fun _ _ => rfl) t1 ?_
      simp only [Act.put, List.setIfInBounds_toArray, List.set_cons_zero, List.set_cons_succ]
      refine wpAnyH_done (by kernel_rfl) ?_ _
      generalize hq9 : w9.setCell ⟨j, 3, none⟩ (.int .i64 (K : Nat)) = w10 at t5
      have HQ9 : Hid (w9.setCell ⟨j, 3, none⟩ (.int .i64 (K : Nat)) = w10) := hq9
      clear hq9 hleaf htail hSW hsize hHeld
      go_wp2
      go_ret
      rw [HQ9.out]
      exact t5

end Go.Proofs.YtoiaclmfljoomaaDoor

/- journal: Clear. -/
namespace Go.Proofs.YtoiaclmfljoomaaDoor
open Go.ChangeShapes Go.WideShapes Go.ChangeAt Go.RowKit
set_option linter.unusedVariables false

variable {D : DevRep} {B : Nat} {w0 w w' : World} {j p c m n : Nat} {s : DS} {F : Nat → Prop} {rs : List RC} {fl : Nat} {G : Nat → Prop} {im C : Nat} {I : Nat → Nat} {rv : Value} {Cc : Nat → Nat}

/-- What Clear answers and leaves. -/
def ClearR (D : DevRep) (B : Nat) (w0 w : World) (j p : Nat) (s : DS) (c m : Nat) (F : Nat → Prop) (G : Nat → Prop) (e : Ending) (w' : World) : Prop :=
  (s.dead = true ∧ e = .returned (.int .i64 73) ∧ Below w.heap.size w w') ∨
  (s.dead = false ∧ e = .returned (.int .i64 0) ∧ ∃ s' m' F', LayD s s' m m' (fun _ => 0) (setParts s.n 0) ∧ JStep D B w0 w w' j p s' c m' F F' [] 0 G G)

theorem run_clear_all {b g N C : Nat} (h : w.ownsRow b 5 1 (.slice (some ⟨g, 0, none⟩) N C) N (bl I N)) : ∃ w', (∀ (o : Oper) (a : Act) (x : Operand), o.op = .call { callee := .builtin .clear, args := #[x], argTypes := #[33] } → a.eval x = .slice (some ⟨g, 0, none⟩) N C → (execOp a.eval o).run Tryd.prog w = .ok (.value (.tuple #[])) w') ∧
    w'.ownsRow b 5 1 (.slice (some ⟨g, 0, none⟩) N C) N (bl (fun _ => 0) N) ∧ w.grownBy w' (some g) := by
  obtain ⟨w', h1, h2, h3⟩ := run_clear_own h (Nat.zero_le N)
  refine ⟨w', fun o a x ho hx => h1 o a x ho (by rw [hx]; simp), ?_, h3⟩
  have : bl (clr 0 I) N = bl (fun _ => 0) N := bl_ext _ _ _ (fun k _ => by unfold clr; rw [if_neg (by omega)])
  rw [← this]
  exact h2

/-- Cleared: the image is blank, the struct's two are set. -/
theorem clear_in (hD : DevOk D) (h : JIn D B w0 w j p s c m F rs fl G) (hX : JnX w j p s.n rs fl G im C I rv Cc) {w5 w6 : World} {s9 : DS} {m9 : Nat} {F9 : Nat → Prop} (hof : Only (fun k => F k ∨ k = c) w w5) (hg : Grew w F F9) (hI : In D B w0 w5 p s9 c m9 F9) (hn : s9.n = s.n)
    (hi6 : w6.ownsRow 0 5 1 (.slice (some ⟨im, 0, none⟩) (64 * s.n) C) (64 * s.n) (bl (fun _ => 0) (64 * s.n))) (hg6 : w5.grownBy w6 (some im)) :
    JStep D B w0 w ((w6.setCell ⟨j, 2, none⟩ (.slice none 0 0)).setCell ⟨j, 3, none⟩ (.int .i64 0)) j p s9 c m9 F F9 [] 0 G G := by
  have hX5 := hX.kept (w' := w5) (fun k hk => hof.block k (h.lt k hk) (h.ap k hk))
  have hji : j ≠ im := fun e => own_has_ne hX5.img hX5.str (by decide) (by rw [e]; rfl)
  have hst6 := hX5.str.grown hg6 hji
  have hst7 := has_setJ hst6 2 (.slice none 0 0)
  have hst8 := has_setJ hst7 3 (.int .i64 0)
  have o6 : Only (fun k => k = im ∨ k = j) w5 w6 := (only_grown hg6).mono (fun k e => Or.inl e)
  have o7 : Only (fun k => k = im ∨ k = j) w6 _ := (only_setJ w6 j 2 (.slice none 0 0)).mono (fun k e => Or.inr e)
  have o8 : Only (fun k => k = im ∨ k = j) _ _ := (only_setJ (w6.setCell ⟨j, 2, none⟩ (.slice none 0 0)) j 3 (.int .i64 0)).mono (fun k e => Or.inr e)
  have o58 := (o6.trans o7 (fun _ _ h => h)).trans o8 (fun _ _ h => h)
  have o78 : Only (fun k => k = j) w6 _ := (only_setJ w6 j 2 (.slice none 0 0)).trans (only_setJ (w6.setCell ⟨j, 2, none⟩ (.slice none 0 0)) j 3 (.int .i64 0)) (fun _ _ h => h)
  have hoffG : ∀ k, G k → Off F9 c k := fun k hk => (h.ap k hk).grew hg (h.lt k hk)
  have hGij : ∀ k, k = im ∨ k = j → G k := fun k hk => hk.elim (fun e => by rw [e]; exact hX.gi) (fun e => by rw [e]; exact hX.gj)
  have hi8 := own_only hi6 o78 (fun g e e2 => by cases e; exact hji e2.symm)
  refine ⟨⟨hI.only hD o58 (fun k hk e => hoffG k (hGij k e) (.inl hk)) (fun e => hoffG c (hGij c e) (.inr rfl)) (fun k hk => h.base k (hGij k hk)), ?_, h.base, hoffG⟩, ?_, hg, fun k hk => .inl hk⟩
  · rw [hn]
    exact ⟨im, C, fun _ => 0, .slice none 0 0, fun _ => 0, ⟨hst8, hi8, ⟨rfl, .inl ⟨rfl, rfl⟩⟩, fun i x hx => (by simp [posOf] at hx), stands_nil _, fun _ => Nat.zero_lt_succ _, hX.gj, hX.gi, fun g e => (by cases e), Nat.le_refl _, fun r hr => (by cases hr)⟩, fun k hk => by
      have := h.lt k hk
      have := hof.size
      have := o58.size
      omega⟩
  · exact (hof.mono (fun k hk => Or.inl hk)).trans (o58.mono (fun k e => Or.inr (hGij k e)) : Only (fun k => (F k ∨ k = c) ∨ G k) w5 _) (fun _ _ h => h)

set_option maxRecDepth 100000 in
set_option maxHeartbeats 4000000 in
theorem clear_c (hD : DevOk D) (hM : DevMore D) (h : JIn D B w0 w j p s c m F rs fl G) (hbt : Byt s) (hn : s.n ≤ 1000) (hm : m ≤ 95000) (hl : s.log.length ≤ 95000) :
    Calls Tryd.prog 17 #[ptr j] w (ClearR D B w0 w j p s c m F G) := by
  obtain ⟨im, C, I, rv, Cc, hX, hGl⟩ := h.jn
  have hpn := jp_nil j
  obtain ⟨N, hN⟩ : ∃ N, N = 64 * s.n := ⟨_, rfl⟩
  have HN : Hid (N = 64 * s.n) := hN
  have hNb : N ≤ 64000 := by omega
  have c0 : w.cell? ⟨j, 0, none⟩ = some (ptr p) := hX.str.cell 0
  have c1 : w.cell? ⟨j, 1, none⟩ = some (.slice (some ⟨im, 0, none⟩) N C) := by rw [hN]; exact hX.str.cell 1
  have hjl : j < w.heap.size := hGl j hX.gj
  have hSW : ∀ W : World, Below w.heap.size w W → W.cell? ⟨j, 0, none⟩ = some (ptr p) ∧ W.cell? ⟨j, 1, none⟩ = some (.slice (some ⟨im, 0, none⟩) N C) := fun W hW => ⟨(hW.cell (p := ⟨j, 0, none⟩) hjl).trans c0, (hW.cell (p := ⟨j, 1, none⟩) hjl).trans c1⟩
  have hoff := in_offs hD h.dev
  have hleaf : ∀ (W : World) (b g : Nat), Below w.heap.size w W → w.heap.size ≤ b → w.heap.size ≤ g → Has W b 24 #[ptr p] → Has W g 5 (cellsN .u8 N fun _ => 0) → Calls Tryd.prog 38 #[ptr p, .slice (some ⟨g, 0, none⟩) N N, .int .i64 0, .func (.func 68) #[] #[ptr b]] W (LayPost D B w0 w p s c m F (fun _ => 0) (setParts s.n 0)) := by
    intro W b g h1 h2 h3 h4 h5
    have hst := settle_r (E := 0) (C := N) (io := 0) (im := g) (I := fun _ => 0) hD hM (h.dev.next hD h1) hbt hn hm hl (fun _ => Nat.zero_lt_succ _) (by rw [← HN.out]; exact h5.bytes) (hoff g h3) (by rw [← HN.out]; exact Nat.le_refl _) (Nat.zero_le _) h4 (hoff b h2)
    rw [← HN.out] at hst
    exact Calls.mono hst (fun e w' hp => LayPost.back h1 hp)
  have htail : ∀ (w5 : World) (s5 : DS) (m5 : Nat) (F5 : Nat → Prop), s.dead = false → LayAt D B w0 w w5 p s5 c m5 F F5 → LayD s s5 m m5 (fun _ => 0) (setParts s.n 0) → (w5.cell? ⟨j, 0, none⟩ = some (ptr p) ∧ w5.cell? ⟨j, 1, none⟩ = some (.slice (some ⟨im, 0, none⟩) N C)) ∧ ∃ w6, (∀ (o : Oper) (a : Act) (x : Operand), o.op = .call { callee := .builtin .clear, args := #[x], argTypes := #[33] } → a.eval x = .slice (some ⟨im, 0, none⟩) N C → (execOp a.eval o).run Tryd.prog w5 = .ok (.value (.tuple #[])) w6) ∧ (∃ u2, w6.cell? ⟨j, 2, none⟩ = some u2) ∧ w6.cell? ⟨j, 3, none⟩ = some (.int .i64 (fl : Nat)) ∧ w6.frozen? ⟨j, 2, none⟩ = false ∧ w6.frozen? ⟨j, 3, none⟩ = false ∧ ClearR D B w0 w j p s c m F G (.returned (.int .i64 0)) ((w6.setCell ⟨j, 2, none⟩ (.slice none 0 0)).setCell ⟨j, 3, none⟩ (.int .i64 0)) := by
    intro w5 s5 m5 F5 hd5 hL5 hl5
    have hX5 := hX.kept (w' := w5) (fun k hk => hL5.only.block k (hGl k hk) (h.ap k hk))
    have hi5 := hX5.img
    obtain ⟨w6, h1, h2, h3⟩ := run_clear_all hi5
    have hji : j ≠ im := fun e => own_has_ne hX5.img hX5.str (by decide) (by rw [e]; rfl)
    have hst6 := hX5.str.grown h3 hji
    refine ⟨⟨hX5.str.cell 0, by rw [HN.out]; exact hX5.str.cell 1⟩, w6, by rw [HN.out]; exact h1, ⟨_, hst6.cell 2⟩, hst6.cell 3, hst6.free 2, hst6.free 3, .inr ⟨hd5, rfl, s5, m5, F5, hl5, clear_in hD h hX hL5.only hL5.grew hL5.dev hl5.n.1 h2 h3⟩⟩
  clear hN
  go_enter Tryd.func17, Tryd.ntmps17
  go_wp2
  have b0 : Below w.heap.size w w.drew := (Below.refl _ w).drew
  have cd := hSW w.drew b0
  refine wp_region_held_drew (S := fun wz => wz.cell? ⟨j, 0, none⟩ = some (ptr p) ∧ wz.cell? ⟨j, 1, none⟩ = some (.slice (some ⟨im, 0, none⟩) N C)) (by kernel_rfl) cd (fun hHeld => ?_)
  refine takeTo 0 (some 6) (ptr j) rfl rfl (by kernel_rfl) (by kernel_rfl) (by kernel_rfl) (fun _ _ _ h => h) (by rfl) (fun _ _ => rfl) hHeld ?_
  simp only [Act.put, List.setIfInBounds_toArray, List.set_cons_zero, List.set_cons_succ]
  refine takeTo 1 (some 7) (.pointer (some ⟨j, 0, none⟩)) rfl rfl (by kernel_rfl) (by kernel_rfl) (by kernel_rfl) (fun _ _ _ h => h) (by rfl) (fun _ _ => rfl) hHeld ?_
  simp only [Act.put, List.setIfInBounds_toArray, List.set_cons_zero, List.set_cons_succ]
  refine takeTo 2 (some 8) (.pointer (some ⟨j, 0, none⟩)) rfl rfl (by kernel_rfl) (by kernel_rfl) (by kernel_rfl) (fun _ _ _ h => h) (by rfl) (fun _ _ => rfl) hHeld ?_
  simp only [Act.put, List.setIfInBounds_toArray, List.set_cons_zero, List.set_cons_succ]
  refine takeTo 3 (some 9) (ptr p) rfl rfl (by kernel_rfl) (by kernel_rfl) (by kernel_rfl) (fun _ _ _ h => h) (by rfl) (fun wz hz => run_load_pd _ rfl _ rfl _ wz hz.1) hHeld ?_
  simp only [Act.put, List.setIfInBounds_toArray, List.set_cons_zero, List.set_cons_succ]
  refine takeTo 4 (some 10) (ptr j) rfl rfl (by kernel_rfl) (by kernel_rfl) (by kernel_rfl) (fun _ _ _ h => h) (by rfl) (fun _ _ => rfl) hHeld ?_
  simp only [Act.put, List.setIfInBounds_toArray, List.set_cons_zero, List.set_cons_succ]
  refine takeTo 5 (some 11) (.pointer (some ⟨j, 0, none⟩)) rfl rfl (by kernel_rfl) (by kernel_rfl) (by kernel_rfl) (fun _ _ _ h => h) (by rfl) (fun _ _ => rfl) hHeld ?_
  simp only [Act.put, List.setIfInBounds_toArray, List.set_cons_zero, List.set_cons_succ]
  refine takeTo 6 (some 12) (.pointer (some ⟨j, 1, none⟩)) rfl rfl (by kernel_rfl) (by kernel_rfl) (by kernel_rfl) (fun _ _ _ h => h) (by rfl) (fun _ _ => rfl) hHeld ?_
  simp only [Act.put, List.setIfInBounds_toArray, List.set_cons_zero, List.set_cons_succ]
  refine takeTo 7 (some 13) (.slice (some ⟨im, 0, none⟩) N C) rfl rfl (by kernel_rfl) (by kernel_rfl) (by kernel_rfl) (fun _ _ _ h => h) (by rfl) (fun wz hz => run_load_row1 _ rfl _ rfl _ wz hz.2) hHeld ?_
  simp only [Act.put, List.setIfInBounds_toArray, List.set_cons_zero, List.set_cons_succ]
  refine takeTo 8 (some 14) (.int .i64 (N : Nat)) rfl rfl (by kernel_rfl) (by kernel_rfl) (by kernel_rfl) (fun _ _ _ h => h) (by rfl) (fun wz _ => run_len_of 33 5 Tryd.underlying33 _ rfl _ _ _ rfl wz) hHeld ?_
  simp only [Act.put, List.setIfInBounds_toArray, List.set_cons_zero, List.set_cons_succ]
  refine takeTo 10 (some 16) (ptr j) rfl rfl (by kernel_rfl) (by kernel_rfl) (by kernel_rfl) (fun _ _ _ h => h) (by rfl) (fun _ _ => rfl) hHeld ?_
  simp only [Act.put, List.setIfInBounds_toArray, List.set_cons_zero, List.set_cons_succ]
  refine takeTo 11 (some 17) (.pointer (some ⟨j, 0, none⟩)) rfl rfl (by kernel_rfl) (by kernel_rfl) (by kernel_rfl) (fun _ _ _ h => h) (by rfl) (fun _ _ => rfl) hHeld ?_
  simp only [Act.put, List.setIfInBounds_toArray, List.set_cons_zero, List.set_cons_succ]
  refine takeTo 12 (some 18) (.pointer (some ⟨j, 0, none⟩)) rfl rfl (by kernel_rfl) (by kernel_rfl) (by kernel_rfl) (fun _ _ _ h => h) (by rfl) (fun _ _ => rfl) hHeld ?_
  simp only [Act.put, List.setIfInBounds_toArray, List.set_cons_zero, List.set_cons_succ]
  refine takeTo 13 (some 19) (ptr p) rfl rfl (by kernel_rfl) (by kernel_rfl) (by kernel_rfl) (fun _ _ _ h => h) (by rfl) (fun wz hz => run_load_pd _ rfl _ rfl _ wz hz.1) hHeld ?_
  simp only [Act.put, List.setIfInBounds_toArray, List.set_cons_zero, List.set_cons_succ]
  refine ready2 9 14 (by kernel_rfl) ?_ ?_
  · obtain ⟨w2, hH2, hb2, hmk⟩ := make_has N (by omega) w.drew
    have b2 : Below w.heap.size w w2 := b0.trans hb2
    refine stepVal (some 15) (.slice (some ⟨w.heap.size, 0, none⟩) N N) w2 rfl rfl (by rfl) (hmk _ _ _ _ rfl rfl rfl) ⟨hSW _ b2, ?_⟩
    simp only [Act.put, List.setIfInBounds_toArray, List.set_cons_zero, List.set_cons_succ]
    refine callTo 14 (some 20) 45 #[ptr p] (by kernel_rfl) rfl rfl (by rfl) (by kernel_rfl) (renewer_c p w2) ?_
    rintro e wz ⟨rfl, hz⟩
    obtain rfl := hz
    have hbW : Below w.heap.size w (w2.alloc (.cells #[ptr p] 24)) := b2.alloc b2.size _
    refine ⟨_, rfl, hSW _ hbW, ?_⟩
    simp only [Act.put, List.setIfInBounds_toArray, List.set_cons_zero, List.set_cons_succ]
    have hbb : w.heap.size ≤ w2.heap.size := b2.size
    have hgg : w.heap.size ≤ w.heap.size := Nat.le_refl _
    have hbxW : Has (w2.alloc (.cells #[ptr p] 24)) w2.heap.size 24 #[ptr p] := Has.new _ _ _
    have hmW : Has (w2.alloc (.cells #[ptr p] 24)) w.heap.size 5 (cellsN .u8 N fun _ => 0) := hH2.alloc _
    generalize w2.alloc (.cells #[ptr p] 24) = W at hbW hbxW hmW ⊢
    refine callTo 15 (some 21) 38 #[ptr p, .slice (some ⟨w.heap.size, 0, none⟩) N N, .int .i64 0, .func (.func 68) #[] #[ptr (w2.heap.size)]] (by kernel_rfl) rfl rfl (by rfl) (by kernel_rfl) (hleaf W (w2.heap.size) (w.heap.size) hbW hbb hgg hbxW hmW) ?_
    rintro e w5 (⟨hd5, rfl, hb5⟩ | ⟨hd5, rfl, s5, m5, F5, hL5, hl5⟩)
    · refine ⟨_, rfl, hSW _ hb5, ?_⟩
      simp only [Act.put, List.setIfInBounds_toArray, List.set_cons_zero, List.set_cons_succ]
      refine takeTo 16 (some 3) (.int .i64 73) rfl rfl (by kernel_rfl) (by kernel_rfl) (by kernel_rfl) (fun _ _ _ h => h) (by rfl) (fun _ _ => rfl) (hSW _ hb5) ?_
      simp only [Act.put, List.setIfInBounds_toArray, List.set_cons_zero, List.set_cons_succ]
      refine wpAnyH_done (by kernel_rfl) ?_ _
      clear hleaf htail hSW hHeld
      go_wp2
      go_ret
      exact .inl ⟨hd5, rfl, hb5⟩
    · obtain ⟨t1, w6, t2, ⟨u2, t3⟩, t4, t5, t6, t7⟩ := htail w5 s5 m5 F5 hd5 hL5 hl5
      refine ⟨_, rfl, t1, ?_⟩
      simp only [Act.put, List.setIfInBounds_toArray, List.set_cons_zero, List.set_cons_succ]
      refine takeTo 16 (some 3) (.int .i64 0) rfl rfl (by kernel_rfl) (by kernel_rfl) (by kernel_rfl) (fun _ _ _ h => h) (by rfl) (fun _ _ => rfl) t1 ?_
      simp only [Act.put, List.setIfInBounds_toArray, List.set_cons_zero, List.set_cons_succ]
      refine wpAnyH_done (by kernel_rfl) ?_ _
      have t8 := t1.2
      generalize hq9 : (w6.setCell ⟨j, 2, none⟩ (.slice none 0 0)).setCell ⟨j, 3, none⟩ (.int .i64 0) = w10 at t7
      have HQ9 : Hid ((w6.setCell ⟨j, 2, none⟩ (.slice none 0 0)).setCell ⟨j, 3, none⟩ (.int .i64 0) = w10) := hq9
      clear hq9 hleaf htail hSW hHeld hL5 hl5
      go_wp2_with (first
        | (refine at_clr (.tmp 28) rfl ?_; refine wpList_is_w none (.tuple #[]) w6 rfl (by rfl) (t2 _ _ (.tmp 28) rfl rfl) ?_))
      go_ret
      rw [HQ9.out]
      exact t7
  · refine stepCall (some 20) 45 #[ptr p] rfl rfl (by rfl) (by kernel_rfl) (renewer_c p w.drew) ?_
    rintro e wz ⟨rfl, hz⟩
    obtain rfl := hz
    have b1 : Below w.heap.size w (w.drew.alloc (.cells #[ptr p] 24)) := b0.alloc (Nat.le_refl _) _
    refine ⟨_, rfl, hSW _ b1, ?_⟩
    simp only [Act.put, List.setIfInBounds_toArray, List.set_cons_zero, List.set_cons_succ]
    have hbx1 : Has (w.drew.alloc (.cells #[ptr p] 24)) w.heap.size 24 #[ptr p] := Has.new _ _ _
    generalize w.drew.alloc (.cells #[ptr p] 24) = wA at b1 hbx1 ⊢
    obtain ⟨w2, hH2, hb2, hmk⟩ := make_has N (by omega) wA
    have hbW : Below w.heap.size w w2 := b1.trans (hb2.mono b1.size)
    refine ready1 9 (by kernel_rfl) ?_
    refine stepVal (some 15) (.slice (some ⟨wA.heap.size, 0, none⟩) N N) w2 rfl rfl (by rfl) (hmk _ _ _ _ rfl rfl rfl) ⟨hSW _ hbW, ?_⟩
    simp only [Act.put, List.setIfInBounds_toArray, List.set_cons_zero, List.set_cons_succ]
    have hbb : w.heap.size ≤ w.heap.size := Nat.le_refl _
    have hgg : w.heap.size ≤ wA.heap.size := b1.size
    have hbxW : Has w2 w.heap.size 24 #[ptr p] := hbx1.below hb2 hbx1.lt
    have hmW := hH2
    refine callTo 15 (some 21) 38 #[ptr p, .slice (some ⟨wA.heap.size, 0, none⟩) N N, .int .i64 0, .func (.func 68) #[] #[ptr (w.heap.size)]] (by kernel_rfl) rfl rfl (by rfl) (by kernel_rfl) (hleaf w2 (w.heap.size) (wA.heap.size) hbW hbb hgg hbxW hmW) ?_
    rintro e w5 (⟨hd5, rfl, hb5⟩ | ⟨hd5, rfl, s5, m5, F5, hL5, hl5⟩)
    · refine ⟨_, rfl, hSW _ hb5, ?_⟩
      simp only [Act.put, List.setIfInBounds_toArray, List.set_cons_zero, List.set_cons_succ]
      refine takeTo 16 (some 3) (.int .i64 73) rfl rfl (by kernel_rfl) (by kernel_rfl) (by kernel_rfl) (fun _ _ _ h => h) (by rfl) (fun _ _ => rfl) (hSW _ hb5) ?_
      simp only [Act.put, List.setIfInBounds_toArray, List.set_cons_zero, List.set_cons_succ]
      refine wpAnyH_done (by kernel_rfl) ?_ _
      clear hleaf htail hSW hHeld
      go_wp2
      go_ret
      exact .inl ⟨hd5, rfl, hb5⟩
    · obtain ⟨t1, w6, t2, ⟨u2, t3⟩, t4, t5, t6, t7⟩ := htail w5 s5 m5 F5 hd5 hL5 hl5
      refine ⟨_, rfl, t1, ?_⟩
      simp only [Act.put, List.setIfInBounds_toArray, List.set_cons_zero, List.set_cons_succ]
      refine takeTo 16 (some 3) (.int .i64 0) rfl rfl (by kernel_rfl) (by kernel_rfl) (by kernel_rfl) (fun _ _ _ h => h) (by rfl) (fun _ _ => rfl) t1 ?_
      simp only [Act.put, List.setIfInBounds_toArray, List.set_cons_zero, List.set_cons_succ]
      refine wpAnyH_done (by kernel_rfl) ?_ _
      have t8 := t1.2
      generalize hq9 : (w6.setCell ⟨j, 2, none⟩ (.slice none 0 0)).setCell ⟨j, 3, none⟩ (.int .i64 0) = w10 at t7
      have HQ9 : Hid ((w6.setCell ⟨j, 2, none⟩ (.slice none 0 0)).setCell ⟨j, 3, none⟩ (.int .i64 0) = w10) := hq9
      clear hq9 hleaf htail hSW hHeld hL5 hl5
      go_wp2_with (first
        | (refine at_clr (.tmp 28) rfl ?_; refine wpList_is_w none (.tuple #[]) w6 rfl (by rfl) (t2 _ _ (.tmp 28) rfl rfl) ?_))
      go_ret
      rw [HQ9.out]
      exact t7
end Go.Proofs.YtoiaclmfljoomaaDoor

/- journal: what its calls answer and leave, on a journal of the call's own. -/
namespace Go.Proofs.YtoiaclmfljoomaaDoor
open Go.ChangeShapes Go.WideShapes Go.ChangeAt Go.RowKit
set_option linter.unusedVariables false

variable {D : DevRep} {B : Nat} {w0 w w' : World} {j p c m n : Nat} {s s' : DS} {m' : Nat} {F : Nat → Prop} {rs : List RC} {fl : Nat} {G : Nat → Prop}

theorem pend_safe {l : List AE} (h : SafeL l) : pend l = 0 := by
  rcases h with rfl | ⟨m, e, rfl, he⟩
  · rfl
  · rw [pend_snoc, if_pos he]

/-- What a settling leaves of a device. -/
structure SetR (s s' : DS) (m m' : Nat) (X : Nat → Nat) (k : Nat) : Prop where
  holds : SecEq s.n (holds s') X
  safe : SafeL s'.log
  good : ∀ i, i < s.n → s'.bad i = false
  n : s'.n = s.n
  dead : s'.dead = s.dead
  byt : Byt s → Byt s'
  log : s'.log.length ≤ s.log.length + k
  mo : m' ≤ m + k

theorem laid_safe {X : Nat → Nat} {ps : List (Nat × Nat)} (h : LayD s s' m m' X ps) : SafeL s'.log := by
  obtain ⟨phs, g1, g2, g3, g4, g5, _⟩ := h
  rw [g5]
  match phs, g1 with
  | ph :: phs, g1 => exact safe_phases' ph phs _ g1.sync

theorem set_done {X : Nat → Nat} {E : Nat} (hE : E ≤ 64 * s.n) (h : LayD s s' m m' X (setParts s.n E)) : SetR s s' m m' X (s.n + 4) := by
  have hs := laid_safe h
  have hc := h.cost
  rw [(set_cost s.n E hE).1] at hc
  obtain ⟨phs, g1, g2, g3, g4, g5, g6, g7, g8, g9⟩ := h
  refine ⟨?_, hs, fun i hi => ?_, g2, g4, g8, by omega, by omega⟩
  · rw [holds_of_log g3 g5]
    exact set_fold g1
  · unfold setParts at g7
    by_cases h1 : i < E / 64
    · exact g7 (0, E / 64) (by simp) i (Nat.zero_le _) h1
    · by_cases h2 : i < min (E / 64 + 1) s.n
      · exact g7 (E / 64, min (E / 64 + 1) s.n) (by simp) i (by show E / 64 ≤ i; omega) h2
      · exact g7 (min (E / 64 + 1) s.n, s.n) (by simp) i (by show min (E / 64 + 1) s.n ≤ i; omega) hi

theorem flush_done {s1 : DS} {m1 : Nat} {I : Nat → Nat} (hs : Sized rs) (hE : endOf 0 rs ≤ 64 * s.n) (hf : fl < rs.length) (h : FlushD s s1 s' m m1 m' rs fl I) : SetR s s' m m' I (2 * s.n + 8) ∧ SetR s s1 m m1 (clr (endOf 0 (rs.take fl)) I) (s.n + 4) ∧ SecEq s.n (holds s1) (clr (endOf 0 (rs.take fl)) I) ∧ endOf 0 (rs.take fl) / 64 < s.n := by
  obtain ⟨h1, h2, h3⟩ := h
  have hte := take_end hs hf
  have hr1 := set_done (by omega) h2
  have hs3 := laid_safe h3
  have hc := h3.cost
  have hT : endOf 0 (rs.take fl) / 64 < s.n := by omega
  generalize endOf 0 (rs.take fl) = E at *
  have hcc : costP [(E / 64 + 1, s.n), (E / 64, E / 64 + 1)] ≤ s.n + 2 := by
    unfold costP
    simp only [List.map_cons, List.map_nil, List.sum_cons, List.sum_nil]
    omega
  obtain ⟨phs, g1, g2, g3, g4, g5, g6, g7, g8, g9⟩ := h3
  have hn1 := hr1.n
  have hl1 := hr1.log
  have hm1 := hr1.mo
  refine ⟨⟨?_, hs3, fun i hi => ?_, g2.trans hn1, g4.trans hr1.dead, fun hb => g8 (hr1.byt hb), by omega, by omega⟩, hr1, hr1.holds, hT⟩
  · rw [holds_of_log g3 g5]
    exact flush_fold (by omega) hr1.holds g1
  · cases hb : s'.bad i with
    | false => rfl
    | true => exact absurd (g6 i hb) (by rw [hr1.good i hi]; decide)

/-- A device that can be read and written, all of it safe. -/
structure Fine (s : DS) : Prop where
  dead : s.dead = false
  good : ∀ i, i < s.n → s.bad i = false
  byt : Byt s
  safe : SafeL s.log
  n1 : 1 ≤ s.n
  n2 : s.n ≤ 1000

/-- It holds just these records. -/
def Keeps (s : DS) (ss : List RC) : Prop := Stands dgS (byOf (holds s)) (64 * s.n) ss

theorem keeps_of {X : Nat → Nat} {ss : List RC} (hn : s'.n = s.n) (h : SecEq s.n (holds s') X) (hs : Stands dgS X (64 * s.n) ss) : Keeps s' ss := by
  unfold Keeps
  rw [hn]
  exact hs.congr (fun k hk => secEq_by h k hk)

theorem SetR.fine {X : Nat → Nat} {k : Nat} (h : SetR s s' m m' X k) (hd : s.dead = false) (hb : Byt s) (h1 : 1 ≤ s.n) (h2 : s.n ≤ 1000) : Fine s' := ⟨h.dead.trans hd, by rw [h.n]; exact h.good, h.byt hb, h.safe, by rw [h.n]; exact h1, by rw [h.n]; exact h2⟩

theorem Fine.sound (h : Fine s) : Sound s := ⟨h.dead, h.good, fun i j => h.byt.holds i j, Nat.le_trans h.n2 (by decide)⟩

theorem fine_fresh (n : Nat) (h1 : 1 ≤ n) (h2 : n ≤ 1000) : Fine (fresh n) := ⟨rfl, fun _ _ => rfl, byt_fresh n, .inl rfl, h1, h2⟩

def addRs (rs : List RC) (N L : Nat) (f : Nat → Nat) : List RC := if addErr rs N L = 0 then rs ++ [⟨L, f⟩] else rs

theorem JStep.refl (h : JIn D B w0 w j p s c m F rs fl G) (hD : DevOk D) (hb : Below w.heap.size w w') : JStep D B w0 w w' j p s c m F F rs fl G G :=
  ⟨h.next hD hb, Only.of_below hb (Nat.le_refl _), fun k hk => .inl hk, fun k hk => .inl hk⟩

theorem j_add (hD : DevOk D) (hG : Glob Hc Kc w0) (hB1 : 1 < B) (h : JIn D B w0 w j p s c m F rs fl G) (hn : s.n ≤ 1000) {a : Option Addr} {L Ca : Nat} {f : Nat → Nat} (hb : ByIn w a L Ca f) :
    Calls Tryd.prog 14 #[ptr j, .slice a L Ca] w fun e w' => e = .returned (.int .i64 (addErr rs (64 * s.n) L)) ∧ ∃ G', JStep D B w0 w w' j p s c m F F (addRs rs (64 * s.n) L f) fl G G' := by
  obtain ⟨im, C, I, rv, Cc, hX, hGl⟩ := h.jn
  refine Calls.mono (add_x hX hGl (hG.below h.dev.below hB1) hn hb) ?_
  rintro e w' ⟨rfl, (⟨h1, h2⟩ | ⟨h1, h2, G', h3, h4⟩)⟩
  · refine ⟨rfl, G, ?_⟩
    unfold addRs
    rw [if_neg h1]
    exact JStep.refl h hD h2
  · refine ⟨rfl, G', ?_⟩
    unfold addRs
    rw [if_pos h1]
    refine ⟨⟨h.dev.only hD h2 (fun k hk hg => h.ap k hg (.inl hk)) (fun hg => h.ap c hg (.inr rfl)) h.base, h4, fun k hk => (h3 k hk).elim (h.base k) (fun h5 => Nat.le_trans h.dev.sz h5), fun k hk => (h3 k hk).elim (h.ap k) (fun h5 => in_offs hD h.dev k h5)⟩, h2.mono (fun k hk => .inr hk), fun k hk => .inl hk, h3⟩

theorem j_records (hD : DevOk D) (h : JIn D B w0 w j p s c m F rs fl G) (hn : s.n ≤ 1000) : Calls Tryd.prog 24 #[ptr j] w (RecR w rs) := by
  obtain ⟨im, C, I, rv, Cc, hX, hGl⟩ := h.jn
  exact records_x hX hGl hn

theorem j_flushed (hD : DevOk D) (h : JIn D B w0 w j p s c m F rs fl G) (hn : s.n ≤ 1000) : Calls Tryd.prog 25 #[ptr j] w fun e w' => e = .returned (.int .i64 (fl : Nat)) ∧ Below w.heap.size w w' := by
  have h2 := h.sized
  obtain ⟨im, C, I, rv, Cc, hX, hGl⟩ := h.jn
  exact flushed_x hX (by omega)

theorem j_free (hD : DevOk D) (h : JIn D B w0 w j p s c m F rs fl G) (hn : s.n ≤ 1000) : Calls Tryd.prog 26 #[ptr j] w fun e w' => e = .returned (.int .i64 ((64 * s.n - endOf 0 rs : Nat) : Int)) ∧ Below w.heap.size w w' := by
  obtain ⟨im, C, I, rv, Cc, hX, hGl⟩ := h.jn
  exact free_x hX hn

theorem j_flush (hD : DevOk D) (hM : DevMore D) (h : JIn D B w0 w j p s c m F rs fl G) (hbt : Byt s) (hn : s.n ≤ 1000) (hm : m ≤ 90000) (hl : s.log.length ≤ 90000) :
    Calls Tryd.prog 15 #[ptr j] w (FlushR D B w0 w j p s c m F rs fl G) := by
  by_cases he : fl = rs.length
  · exact flush_none hD h hn he
  · exact flush_some hD hM h hbt hn hm hl he

/-- How Flush goes on a device that is fine. -/
def FlushTo (s s' : DS) (rs : List RC) (fl : Nat) : Prop := (fl = rs.length ∧ s' = s) ∨ (fl < rs.length ∧ ∃ I s1 m m1 m', FlushD s s1 s' m m1 m' rs fl I)

theorem j_flushF (hD : DevOk D) (hM : DevMore D) (h : JIn D B w0 w j p s c m F rs fl G) (hf : Fine s) (hk : Keeps s (rs.take fl)) (hm : m ≤ 90000) (hl : s.log.length ≤ 90000) :
    Calls Tryd.prog 15 #[ptr j] w fun e w' => e = .returned (.int .i64 0) ∧ ∃ s' m' F', JStep D B w0 w w' j p s' c m' F F' rs rs.length G G ∧ Fine s' ∧ s'.n = s.n ∧ Keeps s' rs ∧ s'.log.length ≤ s.log.length + (2 * s.n + 8) ∧ m' ≤ m + (2 * s.n + 8) ∧ FlushTo s s' rs fl := by
  have hsz := h.sized
  refine Calls.mono (j_flush hD hM h hf.byt hf.n2 hm hl) ?_
  rintro e w' (⟨h1, rfl, h2⟩ | ⟨h1, h2, _⟩ | ⟨h1, h2, rfl, I, s1, m1, s', m', F', h3, h4⟩)
  · refine ⟨rfl, s, m, F, ?_, hf, rfl, ?_, by omega, by omega, .inl ⟨h1, rfl⟩⟩
    · subst h1
      exact JStep.refl h hD h2
    · rw [h1, List.take_length] at hk
      exact hk
  · rw [hf.dead] at h2
    cases h2
  · have hlt : fl < rs.length := by omega
    obtain ⟨hr, _⟩ := flush_done hsz.1 hsz.2.1 hlt h3
    exact ⟨rfl, s', m', F', h4, hr.fine hf.dead hf.byt hf.n1 hf.n2, hr.n, keeps_of hr.n hr.holds h3.1, hr.log, hr.mo, .inr ⟨hlt, I, s1, m, m1, m', h3⟩⟩

theorem j_clearF (hD : DevOk D) (hM : DevMore D) (h : JIn D B w0 w j p s c m F rs fl G) (hf : Fine s) (hm : m ≤ 95000) (hl : s.log.length ≤ 95000) :
    Calls Tryd.prog 17 #[ptr j] w fun e w' => e = .returned (.int .i64 0) ∧ ∃ s' m' F', JStep D B w0 w w' j p s' c m' F F' [] 0 G G ∧ Fine s' ∧ s'.n = s.n ∧ Keeps s' [] ∧ s'.log.length ≤ s.log.length + (s.n + 4) ∧ m' ≤ m + (s.n + 4) := by
  refine Calls.mono (clear_c hD hM h hf.byt hf.n2 hm hl) ?_
  rintro e w' (⟨h1, _⟩ | ⟨h1, rfl, s', m', F', h3, h4⟩)
  · rw [hf.dead] at h1
    cases h1
  · have hr := set_done (Nat.zero_le _) h3
    exact ⟨rfl, s', m', F', h4, hr.fine hf.dead hf.byt hf.n1 hf.n2, hr.n, keeps_of hr.n hr.holds (stands_nil _), hr.log, hr.mo⟩

theorem j_formatF (hD : DevOk D) (hM : DevMore D) (h : In D B w0 w p s c m F) (hf : Fine s) (hm : m ≤ 95000) (hl : s.log.length ≤ 95000) :
    Calls Tryd.prog 11 #[ptr p] w fun e w' => ∃ j s' m' F' G, e = .returned (.tuple #[ptr j, .int .i64 0]) ∧ JIn D B w0 w' j p s' c m' F' [] 0 G ∧ Fine s' ∧ s'.n = s.n ∧ Keeps s' [] ∧ s'.log.length ≤ s.log.length + (s.n + 4) ∧ m' ≤ m + (s.n + 4) ∧ Only (fun k => F k ∨ k = c) w w' ∧ Grew w F F' ∧ ∀ k, G k → w.heap.size ≤ k := by
  refine Calls.mono (format_c hD hM h hf.byt hf.n1 hf.n2 hm hl) ?_
  rintro e w' (⟨h1, _⟩ | ⟨h1, j, s', m', F', G, rfl, h3, h4, h5, h6, h7⟩)
  · rw [hf.dead] at h1
    cases h1
  · have hr := set_done (Nat.zero_le _) h4
    exact ⟨j, s', m', F', G, rfl, h3, hr.fine hf.dead hf.byt hf.n1 hf.n2, hr.n, keeps_of hr.n hr.holds (stands_nil _), hr.log, hr.mo, h5, h6, h7⟩

/-- How Open goes: what it lays. -/
def OpenTo (s s' : DS) : Prop := ∃ m m', LayD s s' m m' (clr (toldEnd dgS (byOf (holds s)) (64 * s.n)) (byOf (holds s))) (setParts s.n (toldEnd dgS (byOf (holds s)) (64 * s.n)))

/-- A device that can be read and written. -/
structure Able (s : DS) : Prop where
  dead : s.dead = false
  good : ∀ i, i < s.n → s.bad i = false
  byt : Byt s
  n1 : 1 ≤ s.n
  n2 : s.n ≤ 1000

theorem Fine.able (h : Fine s) : Able s := ⟨h.dead, h.good, h.byt, h.n1, h.n2⟩

theorem j_openF (hD : DevOk D) (hM : DevMore D) (hG : Glob Hc Kc w0) (hB1 : 1 < B) (h : In D B w0 w p s c m F) (hf : Able s) (hm : m ≤ 95000) (hl : s.log.length ≤ 95000) {ss : List RC} (hss : rsame (told dgS (byOf (holds s)) (64 * s.n)) ss) (hsb : ∀ r ∈ ss, ∀ k, r.f k < 256) :
    Calls Tryd.prog 19 #[ptr p] w fun e w' => ∃ j s' m' F' G, e = .returned (.tuple #[ptr j, .int .i64 0]) ∧ JIn D B w0 w' j p s' c m' F' ss ss.length G ∧ Fine s' ∧ s'.n = s.n ∧ Keeps s' ss ∧ s'.log.length ≤ s.log.length + (s.n + 4) ∧ m' ≤ m + (s.n + 4) ∧ OpenTo s s' ∧ Only (fun k => F k ∨ k = c) w w' ∧ Grew w F F' ∧ ∀ k, G k → w.heap.size ≤ k := by
  refine Calls.mono (open_c hD hM hG hB1 h hf.byt hf.n1 hf.n2 hm hl) ?_
  rintro e w' (⟨h1, _⟩ | ⟨_, ⟨i, h1, h2⟩, _⟩ | ⟨h1, _, j, s', m', F', G, rfl, h3, h4, h5, h6, h7⟩)
  · rw [hf.dead] at h1
    cases h1
  · rw [hf.good i h1] at h2
    cases h2
  · have hr := set_done (told_laid dgS (byOf (holds s)) (64 * s.n)).2.2.2 h4
    have hst := (told_stands dgS_congr (byOf (holds s)) (64 * s.n)).same dgS_congr hss
    have h3' := h3.same hss hsb
    rw [rsame_len hss] at h3'
    exact ⟨j, s', m', F', G, rfl, h3', hr.fine hf.dead hf.byt hf.n1 hf.n2, hr.n, keeps_of hr.n hr.holds hst, hr.log, hr.mo, ⟨m, m', h4⟩, h5, h6, h7⟩

theorem Keeps.told (h : Keeps s rs) : rsame (told dgS (byOf (holds s)) (64 * s.n)) rs := (stands_told dgS_congr h (by omega)).1
end Go.Proofs.YtoiaclmfljoomaaDoor

/- The law's live question. -/
namespace Go.Proofs.YtoiaclmfljoomaaDoor
open Go.ChangeShapes Go.WideShapes Go.ChangeAt Go.RowKit
set_option linter.unusedVariables false

variable {D : DevRep}

theorem jp_ne (j : Nat) (w : World) : (binOp BinOp.neq 28 (ptr j) (.pointer none)).run Tryd.prog w = .ok (.bool true) w := by kernel_rfl

theorem addErr_a : addErr [] 128 120 = 0 := by decide
theorem addRs_a (f : Nat → Nat) : addRs [] 128 120 f = [⟨120, f⟩] := by unfold addRs; rw [if_pos addErr_a]; rfl
theorem addErr_b (f : Nat → Nat) : addErr [⟨120, f⟩] 128 1 = 92 := by
  have h1 : endOf 0 [⟨120, f⟩] = 128 := by show 0 + 8 + jrnd 120 = 128; decide
  have h2 : jrnd 1 = 8 := rfl
  unfold addErr
  rw [if_neg (by omega), h1, h2, if_pos (by decide)]
theorem addRs_b (f g : Nat → Nat) : addRs [⟨120, f⟩] 128 1 g = [⟨120, f⟩] := by unfold addRs; rw [addErr_b, if_neg (by decide)]

set_option maxRecDepth 100000 in
set_option maxHeartbeats 4000000 in
theorem alive_j (hD : DevOk D) (hM : DevMore D) (w : World) (hG : Glob Hc Kc w) : Calls Tryd.prog 12 #[] w fun e w' => e = .returned (.bool true) ∧ Below w.heap.size w w' := by
  have hnew := in_new (B := w.heap.size) (w0 := w) hD 2 (by decide) (by decide) (Below.refl _ w) (Nat.le_refl _)
  have hjn := jp_nil
  have hjne := jp_ne
  go_enter Tryd.func12, Tryd.ntmps12
  go_wp2_with (first
    | ((go_at_call 10)
       (refine hnew.mono ?_)
       (rintro e w1 ⟨p, c, F, rfl, hI1, hb1, hF1, hc1⟩)
       (have hfm := j_formatF hD hM hI1 (fine_fresh 2 (by decide) (by decide)) (by omega) (by simp [fresh]))
       (clear hnew hb1 hF1 hc1))
    | ((go_at_call 11)
       (refine Calls.mono hfm ?_)
       (rintro e w2 ⟨j, s2, m2, F2, G2, rfl, hJ2, hf2, hn2, hk2, hl2, hm2, ho2, hg2, hG2⟩)
       (clear hfm ho2 hg2 hG2)
       (have hn2' : s2.n = 2 := hn2)
       (have h128 : 64 * s2.n = 128 := (by rw [hn2']))
       (rw [show (fresh 2).n = 2 from rfl] at hl2 hm2)
       (have hlg : (fresh 2).log.length = 0 := rfl)
       (rw [hlg] at hl2)
       (have hfr := j_free hD hJ2 hf2.n2)
       (rw [show 64 * s2.n - endOf 0 [] = 128 by (rw [hn2']; rfl)] at hfr)
       (have hjn2 := hjn j)
       (clear hjn))
    | ((go_at_call 26)
       (refine hfr.mono ?_)
       (rintro e w3 ⟨rfl, hb3⟩)
       (clear hfr)
       (have hJ3 := hJ2.next hD hb3)
       (obtain ⟨w4, hH4, hb4, hmk⟩ := make_has 120 (by decide) w3)
       (have hJ4 := hJ3.next hD hb4)
       (have hby4 : ByIn w4 (some ⟨w3.heap.size, 0, none⟩) 120 120 (fun _ => 0) := ⟨Nat.le_refl _, by unfold maxLen; omega, fun e => (by cases e), hH4.bytes, fun _ => Nat.zero_lt_succ _⟩)
       (have hadd := j_add hD hG hG.1 hJ4 hf2.n2 hby4)
       (rw [h128, addErr_a, addRs_a] at hadd)
       (clear hJ2 hJ3))
    | (refine at_dst 30 rfl ?_; refine wpList_is_w (some 30) (.slice (some ⟨w3.heap.size, 0, none⟩) 120 120) w4 rfl (by rfl) (hmk _ _ _ _ rfl rfl rfl) ?_)
    | ((go_at_call 14)
       (first
         | (have _t := hadd
            refine hadd.mono ?_
            rintro e w5 ⟨rfl, G5, hS5⟩
            have hJ5 := hS5.jin
            have hbx : Below w5.heap.size w5 (w5.alloc (.cells #[.int .u8 1] 5)) := (Below.refl _ _).alloc (Nat.le_refl _) _
            have hnx : Has (w5.alloc (.cells #[.int .u8 1] 5)) w5.heap.size 5 #[.int .u8 1] := Has.new _ _ _
            have hby6 : ByIn (w5.alloc (.cells #[.int .u8 1] 5)) (some ⟨w5.heap.size, 0, none⟩) 1 1 (fun _ => 1) := ⟨Nat.le_refl _, by unfold maxLen; omega, fun e => (by cases e), .inr ⟨_, 0, rfl, hnx.lt, fun k hk => by obtain rfl : k = 0 := (by omega); exact hnx.cell 0⟩, fun _ => by omega⟩
            have hadd2 := j_add hD hG hG.1 (hJ5.next hD hbx) hf2.n2 hby6
            rw [h128, addErr_b, addRs_b] at hadd2
            clear hadd _t hS5 hJ5)
         | (have _t := hadd2
            refine hadd2.mono ?_
            rintro e w6 ⟨rfl, G6, hS6⟩
            have hJ6 := hS6.jin
            have hfl := j_flushF hD hM hJ6 hf2 hk2 (by omega) (by omega)
            clear hadd2 _t hS6)))
    | ((go_at_call 15)
       (refine hfl.mono ?_)
       (rintro e w7 ⟨rfl, s7, m7, F7, hS7, hf7, hn7, hk7, hl7, hm7, _⟩)
       (clear hfl)
       (have hJ7 := hS7.jin)
       (rw [hn2'] at hl7 hm7)
       (have hop := j_openF hD hM hG hG.1 hJ7.dev hf7.able (by omega) (by omega) hk7.told (fun r hr k => by (obtain rfl : r = ⟨120, fun _ => 0⟩ := (by simpa using hr)); exact Nat.zero_lt_succ _))
       (clear hS7))
    | ((go_at_call 19)
       (refine Calls.mono hop ?_)
       (rintro e w8 ⟨k, s8, m8, F8, G8, rfl, hJ8, hf8, hn8, hk8, hl8, hm8, _, ho8, hg8, hG8⟩)
       (clear hop)
       (have hfd := j_flushed hD hJ8 hf8.n2)
       (have hjne2 := hjne k)
       (clear hjne))
    | ((go_at_call 25)
       (refine hfd.mono ?_)
       (rintro e w9 ⟨rfl, hb9⟩)
       (clear hfd)))
  go_ret
  exact ⟨rfl, (hJ8.next hD hb9).dev.below⟩
end Go.Proofs.YtoiaclmfljoomaaDoor

/- Maps whose keys are ints, in memory; maps.Clone. -/
namespace Go.Proofs.YtoiaclmfljoomaaDoor
open Go.ChangeShapes Go.WideShapes Go.ChangeAt Go.RowKit Go.MapKept
set_option linter.unusedVariables false

/-- Block b is a map that has just what f says. -/
def MapIs (w : World) (b : Nat) (f : Int → Option Value) : Prop :=
  ∃ es clock, w.heap[b]? = some (.map es clock) ∧ (∀ e ∈ es.toList, ∃ a, e.key = .int .i64 a ∧ f a = some e.val) ∧ (∀ a v, f a = some v → ∃ e ∈ es.toList, e.key = .int .i64 a) ∧ es.toList.Pairwise (fun x y => x.key ≠ y.key)

theorem MapIs.lt {w : World} {b : Nat} {f : Int → Option Value} (h : MapIs w b f) : b < w.heap.size := by
  obtain ⟨es, clock, hb, _⟩ := h
  exact (Array.getElem?_eq_some_iff.1 hb).1

theorem MapIs.kept {w w' : World} {b : Nat} {f : Int → Option Value} (h : MapIs w b f) (hb : w'.heap[b]? = w.heap[b]?) : MapIs w' b f := by
  obtain ⟨es, clock, h0, r⟩ := h
  exact ⟨es, clock, hb.trans h0, r⟩

theorem MapIs.below {w w' : World} {b B : Nat} {f : Int → Option Value} (h : MapIs w b f) (hb : Below B w w') (hB : b < B) : MapIs w' b f := h.kept (hb.block b hB)
theorem MapIs.only {F : Nat → Prop} {w w' : World} {b : Nat} {f : Int → Option Value} (h : MapIs w b f) (hb : Only F w w') (hF : ¬ F b) : MapIs w' b f := h.kept (hb.block b h.lt hF)
theorem MapIs.alloc {w : World} {b : Nat} {f : Int → Option Value} (h : MapIs w b f) (o : Obj) : MapIs (w.alloc o) b f := h.kept (Below.heap_alloc w o b h.lt)
theorem MapIs.congr {w : World} {b : Nat} {f g : Int → Option Value} (h : MapIs w b f) (e : f = g) : MapIs w b g := e ▸ h

theorem MapIs.made (w : World) : MapIs (w.alloc (.map #[] 0)) w.heap.size (fun _ => none) := ⟨#[], 0, heap_alloc_new w _, by simp, by simp, by simp⟩

theorem MapIs.ne {w : World} {b g t : Nat} {f : Int → Option Value} {cs : Array Value} {fr : Nat × Nat} (h : MapIs w b f) (hg : w.heap[g]? = some (.cells cs t fr)) : b ≠ g := by
  rintro rfl
  obtain ⟨es, clock, hb, _⟩ := h
  rw [hb] at hg
  cases hg

theorem map_find {es : Array MapEntry} {f : Int → Option Value} (h1 : ∀ e ∈ es.toList, ∃ a, e.key = .int .i64 a ∧ f a = some e.val) (h2 : ∀ a v, f a = some v → ∃ e ∈ es.toList, e.key = .int .i64 a) (a : Int) :
    (Instr.findNow (.int .i64) (.int .i64 a) es.toList 0 = some none ∧ f a = none ∧ ∀ x ∈ es.toList, x.key ≠ .int .i64 a) ∨ ∃ j e, Instr.findNow (.int .i64) (.int .i64 a) es.toList 0 = some (some (j, e.val)) ∧ es.toList[j]? = some e ∧ e.key = .int .i64 a ∧ f a = some e.val := by
  have hk : IsKey (.int .i64) (.int .i64 a) := rfl
  rcases findNow_spec hk es.toList 0 (fun x hx => by obtain ⟨a', e, _⟩ := h1 x hx; rw [e]; rfl) with ⟨g1, g2⟩ | ⟨j, e, g1, g2, g3⟩
  · refine .inl ⟨g1, ?_, g2⟩
    cases hf : f a with
    | none => rfl
    | some v => obtain ⟨e, he, hke⟩ := h2 a v hf; exact absurd hke (g2 e he)
  · obtain ⟨a', e1, e2⟩ := h1 e (List.mem_of_getElem? g2)
    have : a' = a := by rw [g3] at e1; injection e1 with _ e1; exact e1.symm
    subst this
    exact .inr ⟨j, e, by simpa using g1, g2, g3, e2⟩

theorem MapIs.look {w : World} {b : Nat} {f : Int → Option Value} (h : MapIs w b f) {t e : TypeId} (ht : Tryd.prog.underlying t = some (.map 3 e)) (z : Value) (hz : (zeroValue e).run Tryd.prog w = .ok z w) (a : Int) (ok : Bool) :
    (Instr.lookup t (.map (some b)) (.int .i64 a) ok).run Tryd.prog w = .ok (if ok then .tuple #[(f a).getD z, .bool (f a).isSome] else (f a).getD z) w := by
  obtain ⟨es, clock, hb, h1, h2, h3⟩ := h
  have hk : IsKey (.int .i64) (.int .i64 a) := rfl
  rcases map_find h1 h2 a with ⟨g1, g2, _⟩ | ⟨j, e0, g1, _, _, g2⟩
  · have hr := MapKept.run_findKey (P := Tryd.prog) (w := w) Tryd.underlying3 g1
    simp [Instr.lookup, run_underlying ht, MapKept.run_getObj_map hb, MapKept.run_checkKey Tryd.underlying3 hk, hr, hz, Result.andThen, g2]
  · have hr := MapKept.run_findKey (P := Tryd.prog) (w := w) Tryd.underlying3 g1
    simp [Instr.lookup, run_underlying ht, MapKept.run_getObj_map hb, MapKept.run_checkKey Tryd.underlying3 hk, hr, Result.andThen, g2]

theorem only_block (w : World) (b : Nat) (o : Obj) : Only (fun k => k = b) w { w with heap := w.heap.setIfInBounds b o } :=
  ⟨rfl, rfl, rfl, by simp, fun k hk hn => by simp [Ne.symm hn]⟩

theorem MapIs.put {w : World} {b : Nat} {f : Int → Option Value} (h : MapIs w b f) {t e : TypeId} (ht : Tryd.prog.underlying t = some (.map 3 e)) (a : Int) (v : Value) :
    ∃ w', (Instr.mapUpdate t (.map (some b)) (.int .i64 a) v).run Tryd.prog w = .ok () w' ∧ MapIs w' b (fun x => if x = a then some v else f x) ∧ Only (fun k => k = b) w w' ∧ w'.heap.size = w.heap.size := by
  obtain ⟨es, clock, hb, h1, h2, h3⟩ := h
  have hlt : b < w.heap.size := (Array.getElem?_eq_some_iff.1 hb).1
  have hk : IsKey (.int .i64) (.int .i64 a) := rfl
  rcases map_find h1 h2 a with ⟨g1, g2, g3⟩ | ⟨j, e0, g1, gj, gk, g2⟩
  · have hr := MapKept.run_findKey (P := Tryd.prog) (w := w) Tryd.underlying3 g1
    refine ⟨_, by simp [Instr.mapUpdate, run_underlying ht, MapKept.run_getObj_map hb, MapKept.run_checkKey Tryd.underlying3 hk, hr, MapKept.run_setObj_map _ hb, Result.andThen]; rfl, ⟨es.push { key := .int .i64 a, val := v, born := clock }, clock + 1, by simp [hlt], ?_, ?_, ?_⟩, only_block w b _, by simp⟩
    · intro e he
      simp only [Array.toList_push, List.mem_append, List.mem_singleton] at he
      rcases he with he | rfl
      · obtain ⟨a', e1, e2⟩ := h1 e he
        refine ⟨a', e1, ?_⟩
        show (if a' = a then some v else f a') = _
        rw [if_neg (fun q : a' = a => g3 e he (by rw [e1, q]))]
        exact e2
      · exact ⟨a, rfl, by show (if a = a then some v else f a) = _; rw [if_pos rfl]⟩
    · intro a' v' hv
      show ∃ e ∈ _, _
      simp only [Array.toList_push, List.mem_append, List.mem_singleton]
      by_cases ha : a' = a
      · subst ha
        exact ⟨_, .inr rfl, rfl⟩
      · have hv' : (if a' = a then some v else f a') = some v' := hv
        rw [if_neg ha] at hv'
        obtain ⟨e, he, hke⟩ := h2 a' v' hv'
        exact ⟨e, .inl he, hke⟩
    · simp only [Array.toList_push, List.pairwise_append]
      exact ⟨h3, by simp, fun x hx y hy => by rw [List.mem_singleton] at hy; subst hy; exact g3 x hx⟩
  · have hr := MapKept.run_findKey (P := Tryd.prog) (w := w) Tryd.underlying3 g1
    have hjl : j < es.size := by have := (List.getElem?_eq_some_iff.1 gj).1; simpa using this
    have gj' : es[j]? = some e0 := by rw [← Array.getElem?_toList]; exact gj
    have hks : (Instr.keyThatStays ((es[j]?.map (·.key)).getD (.int .i64 a)) (.int .i64 a)).run Tryd.prog w = .ok (.int .i64 a) w := by
      rw [gj']
      simp only [Option.map_some, Option.getD_some, gk]
      exact MapKept.run_keyThatStays hk
    have hmod : (es.modify j fun e => { e with key := .int .i64 a, val := v }).toList = es.toList.set j { e0 with key := .int .i64 a, val := v } := by
      apply List.ext_getElem?
      intro i
      rw [Array.getElem?_toList, Array.getElem?_modify, List.getElem?_set]
      by_cases hij : j = i
      · subst hij
        rw [if_pos rfl, if_pos rfl, gj', if_pos (by simpa using hjl)]
        rfl
      · rw [if_neg hij, if_neg hij, Array.getElem?_toList]
    refine ⟨_, by simp [Instr.mapUpdate, run_underlying ht, MapKept.run_getObj_map hb, MapKept.run_checkKey Tryd.underlying3 hk, hr, hks, MapKept.run_setObj_map _ hb, Result.andThen]; rfl, ⟨es.modify j fun e => { e with key := .int .i64 a, val := v }, clock, by simp [hlt], ?_, ?_, ?_⟩, only_block w b _, by simp⟩
    · rw [hmod]
      intro e he
      rcases List.mem_or_eq_of_mem_set he with he' | rfl
      · obtain ⟨i, hi⟩ := List.getElem?_of_mem he
        rw [List.getElem?_set] at hi
        by_cases hij : j = i
        · subst hij
          rw [if_pos rfl, if_pos (by simpa using hjl)] at hi
          injection hi with hi
          subst hi
          exact ⟨a, rfl, by show (if a = a then some v else f a) = _; rw [if_pos rfl]⟩
        · rw [if_neg hij] at hi
          obtain ⟨a', e1, e2⟩ := h1 e (List.mem_of_getElem? hi)
          refine ⟨a', e1, ?_⟩
          have hne : a' ≠ a := by
            rintro rfl
            rcases Nat.lt_or_gt_of_ne hij with hlt' | hlt'
            · exact List.pairwise_iff_getElem.1 h3 j i (List.getElem?_eq_some_iff.1 gj).1 (List.getElem?_eq_some_iff.1 hi).1 hlt' (by rw [(List.getElem?_eq_some_iff.1 gj).2, (List.getElem?_eq_some_iff.1 hi).2, gk, e1])
            · exact List.pairwise_iff_getElem.1 h3 i j (List.getElem?_eq_some_iff.1 hi).1 (List.getElem?_eq_some_iff.1 gj).1 hlt' (by rw [(List.getElem?_eq_some_iff.1 gj).2, (List.getElem?_eq_some_iff.1 hi).2, gk, e1])
          show (if a' = a then some v else f a') = _
          rw [if_neg hne]
          exact e2
      · exact ⟨a, rfl, by show (if a = a then some v else f a) = _; rw [if_pos rfl]⟩
    · rw [hmod]
      intro a' v' hv
      by_cases ha : a' = a
      · subst ha
        exact ⟨_, List.mem_set (by simpa using hjl) _, rfl⟩
      · have hv' : (if a' = a then some v else f a') = some v' := hv
        rw [if_neg ha] at hv'
        obtain ⟨e, he, hke⟩ := h2 a' v' hv'
        obtain ⟨i, hi⟩ := List.getElem?_of_mem he
        have hij : j ≠ i := by
          rintro rfl
          rw [gj] at hi
          injection hi with hi
          subst hi
          rw [gk] at hke
          injection hke with _ hke
          exact ha hke.symm
        refine ⟨e, ?_, hke⟩
        apply List.mem_of_getElem? (i := i)
        rw [List.getElem?_set, if_neg hij]
        exact hi
    · rw [hmod]
      have hkeys : (es.toList.set j { e0 with key := .int .i64 a, val := v }).map (·.key) = es.toList.map (·.key) := by
        rw [List.map_set]
        apply List.ext_getElem?
        intro i
        rw [List.getElem?_set]
        by_cases hij : j = i
        · subst hij
          rw [if_pos rfl, if_pos (by simpa using hjl), List.getElem?_map, gj]
          simp [gk]
        · rw [if_neg hij]
      have := (List.pairwise_map (f := fun e : MapEntry => e.key) (R := (· ≠ ·)) (l := es.toList)).2 h3
      rw [← hkeys] at this
      exact List.pairwise_map.1 this

theorem MapIs.del {w : World} {b : Nat} {f : Int → Option Value} (h : MapIs w b f) {t e : TypeId} (ht : Tryd.prog.underlying t = some (.map 3 e)) (a : Int) (ty : TypeId) :
    ∃ w', (Builtin.delete_ #[t, 3] ty #[.map (some b), .int .i64 a]).run Tryd.prog w = .ok (.tuple #[]) w' ∧ MapIs w' b (fun x => if x = a then none else f x) ∧ Only (fun k => k = b) w w' ∧ w'.heap.size = w.heap.size := by
  obtain ⟨es, clock, hb, h1, h2, h3⟩ := h
  have hlt : b < w.heap.size := (Array.getElem?_eq_some_iff.1 hb).1
  have hk : IsKey (.int .i64) (.int .i64 a) := rfl
  rcases map_find h1 h2 a with ⟨g1, g2, g3⟩ | ⟨j, e0, g1, gj, gk, g2⟩
  · have hr := MapKept.run_findKey (P := Tryd.prog) (w := w) Tryd.underlying3 g1
    refine ⟨_, by simp [Builtin.delete_, run_underlying ht, MapKept.run_getObj_map hb, MapKept.run_checkKey Tryd.underlying3 hk, hr, MapKept.run_setObj_map _ hb, Result.andThen]; rfl, ⟨es, clock, by simp [hlt], ?_, ?_, h3⟩, only_block w b _, by simp⟩
    · intro e he
      obtain ⟨a', e1, e2⟩ := h1 e he
      refine ⟨a', e1, ?_⟩
      show (if a' = a then none else f a') = _
      rw [if_neg (fun q : a' = a => g3 e he (by rw [e1, q]))]
      exact e2
    · intro a' v' hv
      by_cases ha : a' = a
      · have hv' : (if a' = a then none else f a') = some v' := hv
        rw [if_pos ha] at hv'
        cases hv'
      · have hv' : (if a' = a then none else f a') = some v' := hv
        rw [if_neg ha] at hv'
        exact h2 a' v' hv'
  · have hr := MapKept.run_findKey (P := Tryd.prog) (w := w) Tryd.underlying3 g1
    have hjl : j < es.size := by have := (List.getElem?_eq_some_iff.1 gj).1; simpa using this
    have her : (es.eraseIdxIfInBounds j).toList = es.toList.eraseIdx j := by
      unfold Array.eraseIdxIfInBounds
      rw [dif_pos hjl, Array.toList_eraseIdx]
    have hsub : (es.toList.eraseIdx j).Sublist es.toList := List.eraseIdx_sublist _ _
    refine ⟨_, by simp [Builtin.delete_, run_underlying ht, MapKept.run_getObj_map hb, MapKept.run_checkKey Tryd.underlying3 hk, hr, MapKept.run_setObj_map _ hb, Result.andThen]; rfl, ⟨es.eraseIdxIfInBounds j, clock, by simp [hlt], ?_, ?_, ?_⟩, only_block w b _, by simp⟩
    · rw [her]
      intro e he
      obtain ⟨a', e1, e2⟩ := h1 e (hsub.subset he)
      refine ⟨a', e1, ?_⟩
      have hne : a' ≠ a := by
        rintro rfl
        obtain ⟨i, hi⟩ := List.getElem?_of_mem he
        rw [List.getElem?_eraseIdx] at hi
        split at hi
        · rename_i hij
          exact List.pairwise_iff_getElem.1 h3 i j (List.getElem?_eq_some_iff.1 hi).1 (List.getElem?_eq_some_iff.1 gj).1 hij (by rw [(List.getElem?_eq_some_iff.1 gj).2, (List.getElem?_eq_some_iff.1 hi).2, gk, e1])
        · rename_i hij
          exact List.pairwise_iff_getElem.1 h3 j (i + 1) (List.getElem?_eq_some_iff.1 gj).1 (List.getElem?_eq_some_iff.1 hi).1 (by omega) (by rw [(List.getElem?_eq_some_iff.1 gj).2, (List.getElem?_eq_some_iff.1 hi).2, gk, e1])
      show (if a' = a then none else f a') = _
      rw [if_neg hne]
      exact e2
    · rw [her]
      intro a' v' hv
      have hv' : (if a' = a then none else f a') = some v' := hv
      by_cases ha : a' = a
      · rw [if_pos ha] at hv'
        cases hv'
      · rw [if_neg ha] at hv'
        obtain ⟨e, he, hke⟩ := h2 a' v' hv'
        obtain ⟨i, hi⟩ := List.getElem?_of_mem he
        have hij : j ≠ i := by
          rintro rfl
          rw [gj] at hi
          injection hi with hi
          subst hi
          rw [gk] at hke
          injection hke with _ hke
          exact ha hke.symm
        refine ⟨e, ?_, hke⟩
        rcases Nat.lt_or_gt_of_ne hij with h' | h'
        · apply List.mem_of_getElem? (i := i - 1)
          rw [List.getElem?_eraseIdx, if_neg (by omega), show i - 1 + 1 = i by omega]
          exact hi
        · apply List.mem_of_getElem? (i := i)
          rw [List.getElem?_eraseIdx, if_pos (by omega)]
          exact hi
    · rw [her]
      exact h3.sublist hsub

/-! maps.Clone -/

theorem run_eql_mapnil (w : World) (t k e : TypeId) (p : Option Nat) (h : Tryd.prog.underlying t = some (.map k e)) : (binOp .eql t (.map p) (.map none)).run Tryd.prog w = .ok (.bool p.isNone) w := by
  have h1 : ∀ d, (Op.equalIn (d + 1) t (.map p) (.map none)).run Tryd.prog w = .ok p.isNone w := fun d => by cases p <;> simp [Op.equalIn, run_underlying h]
  simp only [binOp]
  simp [show Op.equal t (.map p) (.map none) = Op.equalIn (9999 + 1) t (.map p) (.map none) from rfl, h1 9999]

theorem run_assert_map (w : World) (t xT k e : TypeId) (v : Value) (h : Tryd.prog.underlying t = some (.map k e)) : (Instr.typeAssert (.iface t v) xT t false).run Tryd.prog w = .ok v w := by
  simp [Instr.typeAssert, run_underlying h, go_sem, Result.andThen]

theorem run_maps_clone (w : World) {r : Nat} {es : Array MapEntry} {clock : Nat} (t : TypeId) (hb : w.heap[r]? = some (.map es clock)) :
    (Extern.MapsClone.clone #[.iface t (.map (some r))]).run Tryd.prog w = .ok (.iface t (.map (some w.heap.size))) (w.alloc (.map es clock)) := by
  have e : Extern.MapsClone.clone #[.iface t (.map (some r))] = (getObj r >>= fun o => match o with
      | .map entries clock => (newObj (.map entries clock) >>= fun n => pure (.iface t (.map (some n))))
      | _ => stuck "maps.clone: a map expected") := rfl
  rw [e]
  simp [MapKept.run_getObj_map hb, Result.andThen, go_sem]

set_option maxRecDepth 100000 in
set_option maxHeartbeats 2000000 in
theorem clone_sec (b : Nat) (f : Int → Option Value) (w : World) (h : MapIs w b f) :
    Calls Tryd.prog 62 #[.map (some b)] w fun e w' => e = .returned (.map (some w.heap.size)) ∧ MapIs w' w.heap.size f ∧ Below w.heap.size w w' := by
  obtain ⟨es, clock, hb, r⟩ := h
  have hq := fun w => run_eql_mapnil w 60 _ _ (some b) Tryd.underlying60
  go_enter Tryd.func62, Tryd.ntmps62
  go_wp2
  rw [run_callFunc_extern (fn := Tryd.f90) (by kernel_rfl) (by kernel_rfl) (by kernel_rfl) (by kernel_rfl) (e := Extern.MapsClone.clone) (by kernel_rfl), run_maps_clone w 60 hb]
  simp only [Result.andThen]
  rw [Oper.upon_value]
  go_wp2
  rw [run_assert_map _ 60 _ _ _ _ Tryd.underlying60]
  simp only [Result.andThen]
  rw [Oper.upon_value]
  go_wp2
  go_ret
  exact ⟨rfl, ⟨es, clock, heap_alloc_new w _, r⟩, (Below.refl _ _).alloc (Nat.le_refl _) _⟩

set_option maxRecDepth 100000 in
set_option maxHeartbeats 2000000 in
theorem clone_bad (b : Nat) (f : Int → Option Value) (w : World) (h : MapIs w b f) :
    Calls Tryd.prog 72 #[.map (some b)] w fun e w' => e = .returned (.map (some w.heap.size)) ∧ MapIs w' w.heap.size f ∧ Below w.heap.size w w' := by
  obtain ⟨es, clock, hb, r⟩ := h
  have hq := fun w => run_eql_mapnil w 72 _ _ (some b) Tryd.underlying72
  go_enter Tryd.func72, Tryd.ntmps72
  go_wp2
  rw [run_callFunc_extern (fn := Tryd.f90) (by kernel_rfl) (by kernel_rfl) (by kernel_rfl) (by kernel_rfl) (e := Extern.MapsClone.clone) (by kernel_rfl), run_maps_clone w 72 hb]
  simp only [Result.andThen]
  rw [Oper.upon_value]
  go_wp2
  rw [run_assert_map _ 72 _ _ _ _ Tryd.underlying72]
  simp only [Result.andThen]
  rw [Oper.upon_value]
  go_wp2
  go_ret
  exact ⟨rfl, ⟨es, clock, heap_alloc_new w _, r⟩, (Below.refl _ _).alloc (Nat.le_refl _) _⟩
end Go.Proofs.YtoiaclmfljoomaaDoor
