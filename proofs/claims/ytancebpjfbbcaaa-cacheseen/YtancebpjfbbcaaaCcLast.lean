/- CacheLast: its walk. -/
import Derived.Test.YtancebpjfbbcaaaCcRow
namespace Go.Proofs.Ytancebpjfbbcaaa
open Go.ChangeShapes Go.WideShapes Go.ChangeAt Go.RowKit Go.MapKept
set_option linter.unusedVariables false

variable {D : DevRep} {w wr w' : World} {cb gl go gk : Nat} {P : Nat → Nat}

def S0 : Nat → DS := fun _ => fresh 6
def M0 : Nat → Nat := fun _ => 0

theorem run_alloc18 {o : Oper} {a : Act} (ho : o.op = .alloc 60) (w : World) : (execOp a.eval o).run Try.prog w = .ok (.value (.pointer (some ⟨w.heap.size, 0, none⟩))) (w.alloc (.cells (c18 fun _ => .slice none 0 0) 60)) := by
  unfold execOp
  simp only [ho]
  kernel_rfl

/-- What CacheLast holds ahead of act number i. -/
def Lst (D : DevRep) (w wr : World) (cb : Nat) (P : Nat → Nat) (gl go gk i : Nat) : Prop := ∃ l L H U V, CS D w.heap.size w wr cb P S0 M0 l L H ∧ Row18 wr H go U (lookE l) ∧ Row18 wr H gk V (lookL L) ∧ l.length + L.flatten.length ≤ i ∧ L.length ≤ i ∧ Off1 H wr gl ∧ (∀ j, j < 3 → wr.cell? ⟨gl, j, none⟩ = some (ptr (P j))) ∧ go ≠ gk ∧ gl ≠ go ∧ gl ≠ gk ∧ w.heap.size ≤ go ∧ w.heap.size ≤ gk

theorem Lst.next (hD : DevOk D) {i : Nat} (h : Lst D w wr cb P gl go gk i) (hb : Below wr.heap.size wr w') : Lst D w w' cb P gl go gk i := by
  obtain ⟨l, L, H, U, V, h1, h2, h3, h4, h5, h6, h7, h8⟩ := h
  exact ⟨l, L, H, U, V, h1.next hD hb, h2.below hb, h3.below hb, h4, h5, (h6.below hb).1, fun j hj => (cell_same (h6.below hb).2).trans (h7 j hj), h8⟩

theorem app_by {ka : Option Addr} {kC : Nat} {f : Nat → Nat} (hb : Bytes w ka 64 f) : ∃ g C' w6, (Builtin.append_ #[39, 39] 39 #[.slice (some ⟨w.heap.size, 0, none⟩) 0 0, .slice ka 64 kC]).run Try.prog (w.alloc (.cells #[] 5)) = .ok (.slice (some ⟨g, 0, none⟩) 64 C') w6 ∧ w6.ownsRow w.heap.size 5 1 (.slice (some ⟨g, 0, none⟩) 64 C') 64 (bl f 64) ∧ Below w.heap.size w w6 := by
  have hba : Below w.heap.size w (w.alloc (.cells #[] 5)) := (Below.refl _ _).alloc (Nat.le_refl _) _
  have hb2 := hb.below hba (Nat.le_refl _)
  rcases hb2 with h0 | ⟨b, off, rfl, hlt, hc⟩
  · cases h0
  · obtain ⟨A', C', w2, hr2, ho2, hg2, _⟩ := append_manyC kByC (ty := 39) (w.alloc (.cells #[] 5)) w.heap.size 0 _ [] (own_emptyC w f) hba.size (by omega) ⟨b, off, none⟩ 64 kC (by omega) (by omega) (bl f 64) (by rw [bl_len]) (fun u hu => by unfold bl at hu; obtain ⟨j, _, rfl⟩ := List.mem_map.1 hu; rfl) (fun j u hu => by
      have hj : j < 64 := by have := (List.getElem?_eq_some_iff.1 hu).1; rw [bl_len] at this; exact this
      rw [bl_get f 64 j hj] at hu
      cases hu
      rw [Addr.add_mid]
      exact hc j hj)
    rw [Nat.zero_add] at hr2 ho2
    rcases ho2.2 with ⟨_, h0⟩ | ⟨g, cap, cur, e, _⟩
    · cases h0
    · cases e
      exact ⟨g, C', w2, hr2, ho2, below_gC hba hg2 (fun g e => by cases e; exact Nat.le_refl _)⟩

theorem own_vv {H : Nat → Prop} {b g C : Nat} {f : Nat → Nat} (ho : w.ownsRow b 5 1 (.slice (some ⟨g, 0, none⟩) 64 C) 64 (bl f 64)) (hf : ∀ j, f j < 256) (hH : ∀ k, H k → k < b) : VV w H (.slice (some ⟨g, 0, none⟩) 64 C) (some f) := by
  obtain ⟨a, c, e, h1, _, h3, _⟩ := own_bytes ho
  cases e
  have hg := (ho.lt g rfl).1
  rcases ho.2 with ⟨e, _⟩ | ⟨g', cap, cur, e, _, hh, _⟩
  · cases e
  · cases e
    exact .inr ⟨f, g, C, cur, rfl, rfl, h1, h3, hf, fun e => absurd (hH g e) (Nat.not_lt.2 hg), hh⟩

theorem lst_put (hD : DevOk D) {i d s : Nat} (hd : d < 3) (hs : s < 6) {l : List Wr} {L : List (List Wr)} {H : Nat → Prop} {U V : Nat → Value} {f : Nat → Nat} {v : Value} (hC : CS D w.heap.size w wr cb P S0 M0 (putE l d s f) L H) (hU : Row18 wr H go U (lookE l)) (hV : Row18 wr H gk V (lookL L)) (h4 : l.length + L.flatten.length ≤ i) (h5 : L.length ≤ i) (h6 : Off1 H wr gl) (h7 : ∀ j, j < 3 → wr.cell? ⟨gl, j, none⟩ = some (ptr (P j))) (h8 : go ≠ gk ∧ gl ≠ go ∧ gl ≠ gk ∧ w.heap.size ≤ go ∧ w.heap.size ≤ gk) (hv : VV wr H v (some f)) : Lst D w (wr.setCell ⟨go, d * 6 + s, none⟩ v) cb P gl go gk (i + 1) := by
  have ho := only_setCell wr go (d * 6 + s) v
  refine ⟨putE l d s f, L, H, _, V, hC.only hD ho (fun k e => e ▸ hU.out) (fun k e => e ▸ h8.2.2.2.1), (hU.put hd hs hv).congr (fun d' s' _ _ => (lookE_put l d s f d' s').symm), hV.rows hU.has (fun e => h8.1 e.symm) ho, ?_, Nat.le_succ_of_le h5, ⟨h6.1, Nat.lt_of_lt_of_le h6.2 ho.size⟩, fun j hj => (cell_same (ho.block gl h6.2 h8.2.1)).trans (h7 j hj), h8⟩
  have := putE_len l d s f
  omega

/-- While the open row comes to the kept one. -/
def Kst (D : DevRep) (w wr : World) (cb : Nat) (P : Nat → Nat) (gl go gk : Nat) (l : List Wr) (L : List (List Wr)) (H : Nat → Prop) (U : Nat → Value) (n : Nat) : Prop := ∃ V, CS D w.heap.size w wr cb P S0 M0 [] (if l = [] then L else L ++ [l]) H ∧ Row18 wr H go U (lookE l) ∧ Row18 wr H gk V (mixQ l L n) ∧ Off1 H wr gl ∧ ∀ j, j < 3 → wr.cell? ⟨gl, j, none⟩ = some (ptr (P j))

theorem Kst.next (hD : DevOk D) {l : List Wr} {L : List (List Wr)} {H : Nat → Prop} {U : Nat → Value} {n : Nat} (h : Kst D w wr cb P gl go gk l L H U n) (hb : Below wr.heap.size wr w') : Kst D w w' cb P gl go gk l L H U n := by
  obtain ⟨V, h1, h2, h3, h6, h7⟩ := h
  exact ⟨V, h1.next hD hb, h2.below hb, h3.below hb, (h6.below hb).1, fun j hj => (cell_same (h6.below hb).2).trans (h7 j hj)⟩

theorem Kst.skip {l : List Wr} {L : List (List Wr)} {H : Nat → Prop} {U : Nat → Value} {k j : Nat} (h : Kst D w wr cb P gl go gk l L H U (k * 6 + j)) (hj : j < 6) (hn : lookE l k j = none) : Kst D w wr cb P gl go gk l L H U (k * 6 + (j + 1)) := by
  obtain ⟨V, h1, h2, h3, h6, h7⟩ := h
  refine ⟨V, h1, h2, h3.congr (fun d s hd hs => ?_), h6, h7⟩
  rw [mix_next l L hj hs]
  by_cases e : d = k ∧ s = j
  · obtain ⟨rfl, rfl⟩ := e
    rw [if_pos ⟨rfl, rfl⟩, hn, Option.none_or]
    exact if_neg (Nat.lt_irrefl _)
  · rw [if_neg e]

theorem Kst.put (hD : DevOk D) {l : List Wr} {L : List (List Wr)} {H : Nat → Prop} {U : Nat → Value} {k j : Nat} (h : Kst D w wr cb P gl go gk l L H U (k * 6 + j)) (hk : k < 3) (hj : j < 6) {f : Nat → Nat} (hn : lookE l k j = some f) (h8 : go ≠ gk ∧ gl ≠ go ∧ gl ≠ gk ∧ w.heap.size ≤ go ∧ w.heap.size ≤ gk) : Kst D w (wr.setCell ⟨gk, k * 6 + j, none⟩ (U (k * 6 + j))) cb P gl go gk l L H U (k * 6 + (j + 1)) := by
  obtain ⟨V, h1, h2, h3, h6, h7⟩ := h
  have ho := only_setCell wr gk (k * 6 + j) (U (k * 6 + j))
  refine ⟨_, h1.only hD ho (fun k e => e ▸ h3.out) (fun k e => e ▸ h8.2.2.2.2), h2.rows h3.has h8.1 ho, (h3.put hk hj (h2.at_ k j hk hj)).congr (fun d s hd hs => ?_), ⟨h6.1, Nat.lt_of_lt_of_le h6.2 ho.size⟩, fun q hq => (cell_same (ho.block gl h6.2 h8.2.2.1)).trans (h7 q hq)⟩
  rw [mix_next l L hj hs, hn]
  rfl

theorem only_setRowC (w : World) (g : Nat) (cs : Array Value) : Only (fun k => k = g) w (w.setRow g cs) := ⟨rfl, rfl, rfl, by simp [World.setRow], fun k hk hn => setRow_other w g k cs hn⟩

theorem lst_nils (hD : DevOk D) {i : Nat} {L : List (List Wr)} {H : Nat → Prop} {U V : Nat → Value} {Q : Nat → Nat → Option (Nat → Nat)} (hC : CS D w.heap.size w wr cb P S0 M0 [] L H) (hU : Row18 wr H go U Q) (hV : Row18 wr H gk V (lookL L)) (h4 : L.flatten.length ≤ i) (h5 : L.length ≤ i) (h6 : Off1 H wr gl) (h7 : ∀ j, j < 3 → wr.cell? ⟨gl, j, none⟩ = some (ptr (P j))) (h8 : go ≠ gk ∧ gl ≠ go ∧ gl ≠ gk ∧ w.heap.size ≤ go ∧ w.heap.size ≤ gk) : Lst D w (wr.setRow go (c18 fun _ => .slice none 0 0)) cb P gl go gk i := by
  have ho := only_setRowC wr go (c18 fun _ => .slice none 0 0)
  exact ⟨[], L, H, _, V, hC.only hD ho (fun k e => e ▸ hU.out) (fun k e => e ▸ h8.2.2.2.1), Row18.nils (hU.has.setRow _) hU.out, hV.rows hU.has (fun e => h8.1 e.symm) ho, by simpa using h4, h5, ⟨h6.1, Nat.lt_of_lt_of_le h6.2 ho.size⟩, fun j hj => (cell_same (ho.block gl h6.2 h8.2.1)).trans (h7 j hj), h8⟩

theorem run_build18 {o : Oper} {a : Act} (ho : o.op = .build 60 #[]) (w : World) : (execOp a.eval o).run Try.prog w = .ok (.value (.agg (c18 fun _ => .slice none 0 0))) w := by
  unfold execOp
  simp only [ho]
  kernel_rfl

theorem wpList_nils18 {ops : Array Oper} {rest : List Oper} {o : Oper} {a : Act} {Q : Exit → Act → World → Prop} {g : Nat} {U : Nat → Value} (hgd : o.guard = none) (x y : Operand) (ho : o.op = .store 60 x y) (hx : a.eval x = .pointer (some ⟨g, 0, none⟩)) (hy : a.eval y = .agg (c18 fun _ => .slice none 0 0)) (hg : Has w g 60 (c18 U))
    (h : wpList Try.prog ops Q rest (a.put o.dst undef) (w.setRow g (c18 fun _ => .slice none 0 0))) : wpList Try.prog ops Q (o :: rest) a w :=
  wpList_store_rowG hgd 60 x y ho g _ hx hy 60 (c18 U) hg (by rw [c18_size]; exact Try.size60) (by rw [c18_size, c18_size]) (by rw [zero18]; simp [Value.oneCell']) (fun w2 e => by rw [e]; exact h)

/-- Behind Apply. -/
def Est (D : DevRep) (w wr : World) (cb : Nat) (P : Nat → Nat) (gl gk : Nat) (l : List Wr) (L : List (List Wr)) (H : Nat → Prop) (V : Nat → Value) : Prop := CS D w.heap.size w wr cb P (apD S0 M0 L) (apM S0 M0 L) l [] H ∧ Row18 wr H gk V (lookL L) ∧ Off1 H wr gl ∧ ∀ j, j < 3 → wr.cell? ⟨gl, j, none⟩ = some (ptr (P j))

theorem Est.next (hD : DevOk D) {l : List Wr} {L : List (List Wr)} {H : Nat → Prop} {V : Nat → Value} (h : Est D w wr cb P gl gk l L H V) (hb : Below wr.heap.size wr w') : Est D w w' cb P gl gk l L H V := by
  obtain ⟨h1, h2, h3, h4⟩ := h
  exact ⟨h1.next hD hb, h2.below hb, (h3.below hb).1, fun j hj => (cell_same (h3.below hb).2).trans (h4 j hj)⟩

theorem VV.tells {H : Nat → Prop} {v : Value} {q : Option (Nat → Nat)} (h : VV w H v q) : ∃ A L C f, v = .slice A L C ∧ L ≤ maxLen ∧ Bytes w A L f ∧ (∀ j, full f L j < 256) ∧ ∀ j, j < 64 → (q.getD fun _ => 0) j = full f L j := by
  rcases h with ⟨rfl, rfl⟩ | ⟨f, g, c, cur, rfl, rfl, _, h4, h5, _⟩
  · refine ⟨none, 0, 0, fun _ => 0, rfl, Nat.zero_le _, .inl rfl, fun j => ?_, fun j hj => ?_⟩
    · unfold full
      rw [if_neg (Nat.not_lt_zero _)]
      decide
    · unfold full
      rw [if_neg (Nat.not_lt_zero _)]
      rfl
  · refine ⟨_, 64, c, f, rfl, by unfold maxLen; omega, h4, full_lt f 64 h5, fun j hj => ?_⟩
    unfold full
    rw [if_pos hj]
    rfl

theorem Bytes.congrC {a : Option Addr} {n : Nat} {f g : Nat → Nat} (h : Bytes w a n f) (e : ∀ j, j < n → f j = g j) : Bytes w a n g := by
  rcases h with h | ⟨b, o, rfl, h1, h2⟩
  · exact .inl h
  · exact .inr ⟨b, o, rfl, h1, fun j hj => by rw [← e j hj]; exact h2 j hj⟩

theorem rdErr_okC (s : DS) (r : Nat) (hd : s.dead = false) (hr : r < s.n) (hb : s.bad r = false) : rdErr s (r : Int) = 0 := by
  unfold rdErr
  rw [if_neg (by rw [hd]; simp), if_neg (by omega), Int.toNat_natCast, hb]
  rfl

theorem cwErr_zero {S : Nat → DS} {d s : Int} {L : Nat} (h : cwErr S d s L = 0) : inC d s = true ∧ L = 64 := by
  unfold cwErr at h
  by_cases e : inC d s = false ∨ L ≠ 64
  · rw [if_pos e] at h
    cases h
  · rw [not_or] at e
    exact ⟨by simpa using e.1, by omega⟩

set_option maxRecDepth 100000 in
set_option maxHeartbeats 4000000 in
theorem cacheLast_c (hD : DevOk D) (hZ : DevSz D) (w : World) (a : Option Addr) (len cap : Nat) (O : Nat → OpC) (hs : ScrC w a len O) : Calls Try.prog 6 #[.slice a len cap] w fun e w' => e = .returned (.bool true) ∧ Below w.heap.size w w' := by
  have HMD := hidC (cs_made hD w)
  have HAL := hidC (fun w1 => alive17_c hD hZ w1)
  have HSC := hidC hs.2
  have hlm := hs.1
  unfold maxLen at hlm
  have hn := fun cb => pc_some cb
  clear hs
  go_enter Try.func6, Try.ntmps6
  go_wp2_with (first
    | ((go_at_call 7)
       (refine HMD.out.mono ?_)
       (rintro e w1 ⟨hb1, gl, cl, cb, P, H, rfl, hC1, hg1, hgB, hgl, hcl⟩)
       (have hO1 : Off1 H w1 gl := ⟨hg1, hgl⟩)
       (have hnn := hn cb)
       (have HCL := hidC hcl)
       (have HGB := hidC hgB)
       (clear hn hg1 hcl hgB hgl HMD))
    | ((go_at_call 8)
       (refine (HAL.out w1).mono ?_)
       (rintro e w2 ⟨rfl, hb2⟩)
       (have hC2 := hC1.next hD hb2)
       (obtain ⟨hO2, e2⟩ := hO1.below hb2)
       (have HCL2 := hidC (show ∀ j, j < 3 → w2.cell? ⟨gl, j, none⟩ = some (ptr (P j)) from fun j hj => (cell_same e2).trans (HCL.out j hj))))
    | ((with_reducible refine at_dstC 5 rfl ?_)
       (obtain ⟨W3, hW3⟩ : ∃ W3, W3 = w2.alloc (.cells (c18 fun _ => .slice none 0 0) 60) := ⟨_, rfl⟩)
       (refine wpList_is_w (some 5) (.pointer (some ⟨w2.heap.size, 0, none⟩)) W3 rfl (by rfl) (by rw [hW3]; exact run_alloc18 rfl _) ?_)
       (have HW3 := hidC hW3)
       (clear hW3))
    | ((with_reducible refine at_dstC 6 rfl ?_)
       (obtain ⟨W4, hW4⟩ : ∃ W4, W4 = W3.alloc (.cells (c18 fun _ => .slice none 0 0) 60) := ⟨_, rfl⟩)
       (refine wpList_is_w (some 6) (.pointer (some ⟨W3.heap.size, 0, none⟩)) W4 rfl (by rfl) (by rw [hW4]; exact run_alloc18 rfl _) ?_)
       (have HW4 := hidC hW4)
       (clear hW4)))
  have HL0 := hidC (show Lst D w W4 cb P gl W3.heap.size w2.heap.size 0 from by
    have hb3 : Below w2.heap.size w2 W3 := by rw [HW3.out]; exact (Below.refl _ _).alloc (Nat.le_refl _) _
    have hb4 : Below W3.heap.size W3 W4 := by rw [HW4.out]; exact (Below.refl _ _).alloc (Nat.le_refl _) _
    have h3 : Has W3 w2.heap.size 60 (c18 fun _ => .slice none 0 0) := by rw [HW3.out]; exact Has.new w2 _ _
    have h4 : Has W4 W3.heap.size 60 (c18 fun _ => .slice none 0 0) := by rw [HW4.out]; exact Has.new W3 _ _
    have hb24 := hb3.trans (hb4.mono hb3.size)
    have hC4 := hC2.next hD hb24
    have hz3 := h3.lt
    obtain ⟨hO4, e4⟩ := hO2.below hb24
    have hgl2 := hO2.2
    refine ⟨[], [], H, _, _, hC4, Row18.nils h4 (fun e => ?_), Row18.nils (h3.below hb4 hz3) (fun e => ?_), Nat.le_refl _, Nat.le_refl _, hO4, fun j hj => (cell_same e4).trans (HCL2.out j hj), by omega, by omega, by omega, Nat.le_trans hC2.sz hb3.size, hC2.sz⟩
    · have := hC2.lt hD _ e
      have := hb3.size
      omega
    · have := hC2.lt hD _ e
      omega)
  have HBD := hidC hC2.below
  generalize W3.heap.size = go at *
  generalize w2.heap.size = gk at *
  clear hC1 hC2 hO1 hO2 e2 hb1 hb2 HCL HCL2 HW3 HW4 HGB HAL
  go_loopw [7] (fun iv wr => ∃ i : Nat, i ≤ len ∧ i ≤ 80 ∧ iv = .int .i64 (i : Nat) ∧ Lst D w wr cb P gl go gk i)
    (fun iv _ => len - (intOf iv).toNat)
  case atStart => exact ⟨0, Nat.zero_le _, Nat.zero_le _, rfl, HL0.out⟩
  case round =>
    obtain ⟨i, hi, hi80, rfl, hL⟩ := hrel
    by_cases hil : i < len ∧ i < 80
    · obtain ⟨hil, hi8⟩ := hil
      obtain ⟨xs, os, rfl, hxs, hop⟩ := HSC.out i hil
      obtain ⟨l, L, H, U, V, hC, hU, hV, hb1, hb2, hO, hcl, hne⟩ := hL
      have hopr := hop.below hxs hC.below (Nat.le_refl _)
      have HLO := hidC (show ∀ (o : Oper) (a : Act) (x : Operand), o.op = .load 41 x → a.eval x = .pointer (some ⟨xs, os + i * 4, none⟩) → (execOp a.eval o).run Try.prog wr = .ok (.value (.agg #[.int .i64 (O i).k, .int .i64 (O i).d, .int .i64 (O i).i, .slice (O i).a (O i).L (O i).C])) wr from fun o a x ho hx => run_load_opC x ho xs _ hx (O i) wr hopr)
      have hby := hop.by_
      have hod := hop.od
      have hoi := hop.oi
      clear hop hopr
      generalize (O i).k = kk at *
      generalize (O i).d = kd at *
      generalize (O i).i = ki at *
      generalize (O i).a = ka at *
      generalize (O i).L = kL at *
      generalize (O i).C = kC at *
      generalize (O i).b = kb at *
      have i0 : (i : Int) < (len : Int) := by omega
      have i1 : (0 : Int) ≤ (i : Int) := by omega
      have i2 : (i : Int) < 80 := by omega
      have HI := hidC (And.intro hil hi8)
      have HC := hidC hC
      have HU := hidC hU
      have HV := hidC hV
      have HB := hidC (And.intro hb1 hb2)
      have HO := hidC (And.intro hO hcl)
      have HNE := hidC hne
      have HBY := hidC hby
      have HL3 := hidC (fun W3 (hb3 : Below wr.heap.size wr W3) => (⟨l, L, H, U, V, hC.next hD hb3, hU.below hb3, hV.below hb3, hb1, hb2, (hO.below hb3).1, fun j hj => (cell_same (hO.below hb3).2).trans (hcl j hj), hne⟩ : Lst D w W3 cb P gl go gk i))
      have HST := hidC (fun W3 (hb3 : Below wr.heap.size wr W3) w4 H4 (ho4 : Only H W3 w4) (hg4 : Grew W3 H H4) => (⟨(hU.below hb3).step ho4 hg4, (hV.below hb3).step ho4 hg4, ((hO.below hb3).1.step ho4 hg4).1, fun j hj => (cell_same ((hO.below hb3).1.step ho4 hg4).2).trans ((cell_same (hO.below hb3).2).trans (hcl j hj))⟩ : Row18 w4 H4 go U (lookE l) ∧ Row18 w4 H4 gk V (lookL L) ∧ Off1 H4 w4 gl ∧ ∀ j, j < 3 → w4.cell? ⟨gl, j, none⟩ = some (ptr (P j))))
      have HNEW := hidC (show ¬ H wr.heap.size from fun e => absurd (hC.lt hD _ e) (Nat.lt_irrefl _))
      have HUP := hidC (fun W (hW : Lst D w W cb P gl go gk i) => (by
        obtain ⟨l, L, H, U, V, h1, h2, h3, h4, h5, h6⟩ := hW
        exact ⟨l, L, H, U, V, h1, h2, h3, Nat.le_succ_of_le h4, Nat.le_succ_of_le h5, h6⟩ : Lst D w W cb P gl go gk (i + 1)))
      clear hC hU hV hb1 hb2 hO hcl hne hby hod hoi hi hi80 HL0 HBD
      by_cases hk1 : kk = 1
      · subst hk1
        have HWR := hidC (fun W3 (hb3 : Below wr.heap.size wr W3) => cs_write hD hZ (HC.out.next hD hb3) kd ki (HBY.out.below (HC.out.next hD hb3).below (Nat.le_refl _)).at_ HBY.out.nil HBY.out.byt (by have := HB.out.1; have := HI.out.2; omega))
        by_cases he : cwErr S0 kd ki kL = 0
        · obtain ⟨hin, rfl⟩ := cwErr_zero he
          have hin' := of_decide_eq_true hin
          obtain ⟨d, rfl⟩ : ∃ q : Nat, kd = (q : Int) := ⟨kd.toNat, by omega⟩
          obtain ⟨s, rfl⟩ : ∃ q : Nat, ki = (q : Int) := ⟨ki.toNat, by omega⟩
          have hd : d < 3 := by omega
          have hs : s < 6 := by omega
          simp only [if_pos he, Int.toNat_natCast] at HWR
          rw [he] at HWR
          clear hin hin' he
          go_wp2_with (first
          | ((with_reducible refine at_dstC 38 rfl ?_)
             (refine wpList_is (some 38) (.pointer (some ⟨xs, os + i * 4, none⟩)) rfl (by rfl) (run_at_opC _ _ rfl xs os i len cap rfl rfl hil _) ?_))
          | ((with_reducible refine at_dstC 39 rfl ?_)
             (refine wpList_is (some 39) (.agg #[.int .i64 1, .int .i64 (d : Nat), .int .i64 (s : Nat), .slice ka 64 kC]) rfl (by rfl) (HLO.out _ _ _ rfl rfl) ?_))
          | (refine wpList_copyC wr 41 _ #[.int .i64 1, .int .i64 (d : Nat), .int .i64 (s : Nat), .slice ka 64 kC] rfl _ _ rfl rfl rfl Try.sizeOpC rfl (by simp [Value.oneCell']) ?_; intro W3 hH3 hb3; have d0 := hH3.cell 0; have d1 := hH3.cell 1; have d2 := hH3.cell 2; have d3 := hH3.cell 3; simp only [List.getElem?_toArray, List.getElem?_cons_zero, List.getElem?_cons_succ] at d0 d1 d2 d3)

            | ((go_at_call 10)
               (refine (HWR.out W3 hb3).mono ?_)
               (rintro e W4 ⟨rfl, ho4, H4, hg4, hC4⟩)))
          obtain ⟨hU4, hV4, hO4, hcl4⟩ := HST.out W3 hb3 W4 H4 ho4 hg4
          obtain ⟨B8, hB8⟩ : ∃ B8, B8 = wr.heap.size := ⟨_, rfl⟩
          have hs4 : Has W4 B8 41 #[.int .i64 1, .int .i64 (d : Nat), .int .i64 (s : Nat), .slice ka 64 kC] := by rw [hB8]; exact (ho4.block _ hH3.lt HNEW.out).trans hH3
          obtain ⟨gv, gC, w6, hap, hrow6, hb46⟩ := app_by (w := W4.drew) (kC := kC) (f := kb) (show Bytes W4.drew ka 64 kb from (HBY.out.below hC4.below (Nat.le_refl _)).at_)
          have hbd : Below W4.heap.size W4 W4.drew := ⟨rfl, rfl, rfl, Nat.le_refl _, fun _ _ => rfl⟩
          have hb6 : Below W4.heap.size W4 w6 := hbd.trans hb46
          have HS4 := hidC (show Has W4.drew B8 41 #[.int .i64 1, .int .i64 (d : Nat), .int .i64 (s : Nat), .slice ka 64 kC] from hs4)
          have HS5 := hidC (hs4.below (hbd.trans ((Below.refl W4.heap.size W4.drew).alloc (show W4.heap.size ≤ W4.drew.heap.size from Nat.le_refl _) (.cells #[] 5))) hs4.lt)
          have HS6 := hidC (hs4.below hb6 hs4.lt)
          have HAP := hidC hap
          have HU6 := hidC (And.intro ((hU4.below hb6).cell hd hs) ((hU4.below hb6).has.free (d * 6 + s)))
          have HFIN := hidC (lst_put hD hd hs (hC4.next hD hb6) (hU4.below hb6) (hV4.below hb6) HB.out.1 HB.out.2 (hO4.below hb6).1 (fun j hj => (cell_same (hO4.below hb6).2).trans (hcl4 j hj)) HNE.out (own_vv hrow6 HBY.out.byt (fun k hk => hC4.lt hD k hk)))
          rw [← hB8]
          clear hU4 hV4 hO4 hcl4 hs4 hap hrow6 hb46 hbd hb6 ho4 hg4 hC4 hH3 hb3 hB8 d0 d1 d2 d3
          generalize U (d * 6 + s) = UU at *
          refine lastTo (S := fun wz => Has wz B8 41 #[.int .i64 1, .int .i64 (d : Nat), .int .i64 (s : Nat), .slice ka 64 kC]) 10 (by kernel_rfl) (HS4.out) (fun hHeld => ?_)
          refine takeL 0 (some 53) (.pointer (some ⟨B8, 1, none⟩)) rfl rfl (by decide) (by kernel_rfl) (by kernel_rfl) (by kernel_rfl) (by kernel_rfl) (fun _ _ _ h => h) (by rfl) (fun _ _ => rfl) hHeld ?_
          simp only [Act.put, List.setIfInBounds_toArray, List.set_cons_zero, List.set_cons_succ]
          refine takeL 1 (some 54) (.int .i64 (d : Nat)) rfl rfl (by decide) (by kernel_rfl) (by kernel_rfl) (by kernel_rfl) (by kernel_rfl) (fun _ _ _ h => h) (by rfl) (fun wz hz => by have z0 := hz.cell 1; unfold execOp; go_simp) hHeld ?_
          simp only [Act.put, List.setIfInBounds_toArray, List.set_cons_zero, List.set_cons_succ]
          refine takeL 2 (some 55) (.pointer (some ⟨B8, 2, none⟩)) rfl rfl (by decide) (by kernel_rfl) (by kernel_rfl) (by kernel_rfl) (by kernel_rfl) (fun _ _ _ h => h) (by rfl) (fun _ _ => rfl) hHeld ?_
          simp only [Act.put, List.setIfInBounds_toArray, List.set_cons_zero, List.set_cons_succ]
          refine takeL 3 (some 56) (.int .i64 (s : Nat)) rfl rfl (by decide) (by kernel_rfl) (by kernel_rfl) (by kernel_rfl) (by kernel_rfl) (fun _ _ _ h => h) (by rfl) (fun wz hz => by have z0 := hz.cell 2; unfold execOp; go_simp) hHeld ?_
          simp only [Act.put, List.setIfInBounds_toArray, List.set_cons_zero, List.set_cons_succ]
          refine takeL 5 (some 58) (.pointer (some ⟨B8, 3, none⟩)) rfl rfl (by decide) (by kernel_rfl) (by kernel_rfl) (by kernel_rfl) (by kernel_rfl) (fun _ _ _ h => h) (by rfl) (fun _ _ => rfl) hHeld ?_
          simp only [Act.put, List.setIfInBounds_toArray, List.set_cons_zero, List.set_cons_succ]
          refine takeL 6 (some 59) (.slice ka 64 kC) rfl rfl (by decide) (by kernel_rfl) (by kernel_rfl) (by kernel_rfl) (by kernel_rfl) (fun _ _ _ h => h) (by rfl) (fun wz hz => run_load_byC _ rfl _ rfl _ _ (hz.cell 3)) hHeld ?_
          simp only [Act.put, List.setIfInBounds_toArray, List.set_cons_zero, List.set_cons_succ]
          refine takeC 8 [9] (some 61) (.pointer (some ⟨go, d * 6, none⟩)) rfl rfl (by decide) (by kernel_rfl) (by kernel_rfl) (by kernel_rfl) (by kernel_rfl) (by kernel_rfl) (fun _ _ _ h => h) (by rfl) (fun wz _ => run_at_18 _ _ rfl go d rfl rfl hd wz) hHeld ?_
          simp only [Act.put, List.setIfInBounds_toArray, List.set_cons_zero, List.set_cons_succ]
          refine valL 4 (some 57) (.slice (some ⟨W4.heap.size, 0, none⟩) 0 0) (W4.drew.alloc (.cells #[] 5)) (by kernel_rfl) rfl rfl (by rfl) (by kernel_rfl) HS5.out ?_
          simp only [Act.put, List.setIfInBounds_toArray, List.set_cons_zero, List.set_cons_succ]
          refine valL 7 (some 60) (.slice (some ⟨gv, 0, none⟩) 64 gC) w6 (by kernel_rfl) rfl rfl (by rfl) (run_app_isC _ _ rfl rfl rfl HAP.out) HS6.out ?_
          simp only [Act.put, List.setIfInBounds_toArray, List.set_cons_zero, List.set_cons_succ]
          refine takeL 9 (some 62) (.pointer (some ⟨go, d * 6 + s, none⟩)) rfl rfl (by decide) (by kernel_rfl) (by kernel_rfl) (by kernel_rfl) (by kernel_rfl) (fun _ _ _ h => h) (by rfl) (fun wz _ => run_at_6 _ _ rfl go (d * 6) s rfl rfl hs wz) HS6.out ?_
          simp only [Act.put, List.setIfInBounds_toArray, List.set_cons_zero, List.set_cons_succ]
          refine lastSkip 10 none (w6.setCell ⟨go, d * 6 + s, none⟩ (.slice (some ⟨gv, 0, none⟩) 64 gC)) (by kernel_rfl) rfl rfl (by rfl) (run_store_byC _ _ rfl _ rfl _ _ _ rfl _ _ HU6.out.1 HU6.out.2) (by kernel_rfl) ?_
          simp only [Act.put]
          clear hHeld
          go_wp2
          go_roundw
          case rel => exact ⟨i + 1, HI.out.1, HI.out.2, by go_num, HFIN.out⟩
          case measure => have := HI.out.1; simp [intOf]; omega
        · simp only [if_neg he] at HWR
          generalize cwErr S0 kd ki kL = z at *
          go_wp2_with (first
          | ((with_reducible refine at_dstC 38 rfl ?_)
             (refine wpList_is (some 38) (.pointer (some ⟨xs, os + i * 4, none⟩)) rfl (by rfl) (run_at_opC _ _ rfl xs os i len cap rfl rfl hil _) ?_))
          | ((with_reducible refine at_dstC 39 rfl ?_)
             (refine wpList_is (some 39) (.agg #[.int .i64 1, .int .i64 kd, .int .i64 ki, .slice ka kL kC]) rfl (by rfl) (HLO.out _ _ _ rfl rfl) ?_))
          | (refine wpList_copyC wr 41 _ #[.int .i64 1, .int .i64 kd, .int .i64 ki, .slice ka kL kC] rfl _ _ rfl rfl rfl Try.sizeOpC rfl (by simp [Value.oneCell']) ?_; intro W3 hH3 hb3; have d0 := hH3.cell 0; have d1 := hH3.cell 1; have d2 := hH3.cell 2; have d3 := hH3.cell 3; simp only [List.getElem?_toArray, List.getElem?_cons_zero, List.getElem?_cons_succ] at d0 d1 d2 d3)

            | ((go_at_call 10)
               (refine (HWR.out W3 hb3).mono ?_)
               (rintro e W4 ⟨rfl, ho4, H4, hg4, hC4⟩)
               (have hL4 := HUP.out W4 (by obtain ⟨hU4, hV4, hO4, hcl4⟩ := HST.out W3 hb3 W4 H4 ho4 hg4; exact ⟨l, L, H4, U, V, hC4, hU4, hV4, HB.out.1, HB.out.2, hO4, hcl4, HNE.out⟩))))
          go_roundw
          case rel => exact ⟨i + 1, HI.out.1, HI.out.2, by go_num, hL4⟩
          case measure => have := HI.out.1; simp [intOf]; omega
      by_cases hk3 : kk = 3
      · subst hk3
        have HKP := hidC (fun W3 (hb3 : Below wr.heap.size wr W3) => cs_keep hD (HC.out.next hD hb3) (by have := HB.out.2; have := HI.out.2; omega))
        go_wp2_with (first
          | ((with_reducible refine at_dstC 38 rfl ?_)
             (refine wpList_is (some 38) (.pointer (some ⟨xs, os + i * 4, none⟩)) rfl (by rfl) (run_at_opC _ _ rfl xs os i len cap rfl rfl hil _) ?_))
          | ((with_reducible refine at_dstC 39 rfl ?_)
             (refine wpList_is (some 39) (.agg #[.int .i64 3, .int .i64 kd, .int .i64 ki, .slice ka kL kC]) rfl (by rfl) (HLO.out _ _ _ rfl rfl) ?_))
          | (refine wpList_copyC wr 41 _ #[.int .i64 3, .int .i64 kd, .int .i64 ki, .slice ka kL kC] rfl _ _ rfl rfl rfl Try.sizeOpC rfl (by simp [Value.oneCell']) ?_; intro W3 hH3 hb3; have d0 := hH3.cell 0; have d1 := hH3.cell 1; have d2 := hH3.cell 2; have d3 := hH3.cell 3; simp only [List.getElem?_toArray, List.getElem?_cons_zero, List.getElem?_cons_succ] at d0 d1 d2 d3)

          | ((go_at_call 15)
             (refine (HKP.out W3 hb3).mono ?_)
             (rintro e W4 ⟨rfl, ho4, H4, hg4, hC4⟩)
             (obtain ⟨hU4, hV4, hO4, hcl4⟩ := HST.out W3 hb3 W4 H4 ho4 hg4)
             (have HK0 := hidC (⟨V, hC4, hU4, hV4.congr (fun d s _ _ => (mix_zero l L d s).symm), hO4, hcl4⟩ : Kst D w W4 cb P gl go gk l L H4 U 0))
             (clear hU4 hV4 hO4 hcl4 ho4 hg4 hC4)))
        have HFL := hidC (show (if l = [] then L else L ++ [l]).flatten.length ≤ i + 1 ∧ (if l = [] then L else L ++ [l]).length ≤ i + 1 by
          have h1 := HB.out.1
          have h2 := HB.out.2
          by_cases e : l = []
          · rw [if_pos e]
            omega
          · have e2 : [l].flatten = l := by simp
            rw [if_neg e, List.flatten_append, List.length_append, List.length_append, e2, List.length_singleton]
            omega)
        clear HKP HST HL3 HUP hH3 hb3 d0 d1 d2 d3 i0 i1 i2 hil hi8
        go_loopw [9] (fun kv wr => ∃ k : Nat, k ≤ 3 ∧ kv = .int .i64 (k : Nat) ∧ Kst D w wr cb P gl go gk l L H4 U (k * 6))
          (fun kv _ => 3 - (intOf kv).toNat)
        case atStart => exact ⟨0, by omega, rfl, by rw [Nat.zero_mul]; exact HK0.out⟩
        case round =>
          obtain ⟨k, hk, rfl, hK⟩ := hrel
          by_cases hk3 : k < 3
          · have i0 : (k : Int) < 3 := by omega
            have i1 : (0 : Int) ≤ (k : Int) := by omega
            have HKI := hidC hK
            have HK3 := hidC hk3
            clear hK
            go_wp2
            go_loopw [10] (fun jv wr => ∃ j : Nat, j ≤ 6 ∧ jv = .int .i64 (j : Nat) ∧ Kst D w wr cb P gl go gk l L H4 U (k * 6 + j))
              (fun jv _ => 6 - (intOf jv).toNat)
            case atStart => exact ⟨0, by omega, rfl, by rw [Nat.add_zero]; exact HKI.out⟩
            case round =>
              obtain ⟨j, hj, rfl, hK⟩ := hrel
              by_cases hj6 : j < 6
              · have j0 : (j : Int) < 6 := by omega
                have j1 : (0 : Int) ≤ (j : Int) := by omega
                have HKJ := hidC hK
                have HJ6 := hidC hj6
                obtain ⟨V', h1, h2, h3, h6, h7⟩ := hK
                have hco := h2.cell hk3 hj6
                have hck := h3.cell hk3 hj6
                have hfk := h3.has.free (k * 6 + j)
                rcases h2.at_ k j hk3 hj6 with ⟨hq, hu⟩ | ⟨f, gb, gc, cur, hq, hu, _⟩
                · rw [hu] at hco
                  have HSK := hidC (HKJ.out.skip hj6 hq)
                  clear h1 h2 h3 h6 h7 hq hu hck hfk
                  go_wp2_with (first
                    | ((with_reducible refine at_dstC 77 rfl ?_)
                       (refine wpList_is (some 77) (.pointer (some ⟨go, k * 6, none⟩)) rfl (by rfl) (run_at_18 _ _ rfl go k rfl rfl hk3 _) ?_))
                    | ((with_reducible refine at_dstC 78 rfl ?_)
                       (refine wpList_is (some 78) (.pointer (some ⟨go, k * 6 + j, none⟩)) rfl (by rfl) (run_at_6 _ _ rfl go (k * 6) j rfl rfl hj6 _) ?_))
                    | ((with_reducible refine at_dstC 79 rfl ?_)
                       (refine wpList_is (some 79) (.slice none 0 0) rfl (by rfl) (run_load_byC _ rfl _ rfl _ _ hco) ?_)))
                  go_roundw
                  case rel => exact ⟨j + 1, by have := HJ6.out; omega, by go_num, HSK.out⟩
                  case measure => have := HJ6.out; simp [intOf]; omega
                · have HPT := hidC (by
                    have h := Kst.put hD (HKJ.out.next (w' := wr.drew) hD ⟨rfl, rfl, rfl, Nat.le_refl _, fun _ _ => rfl⟩) hk3 hj6 hq HNE.out
                    rw [hu] at h
                    exact h)
                  rw [hu] at hco
                  have HCO := hidC (show wr.drew.cell? ⟨go, k * 6 + j, none⟩ = some (.slice (some ⟨gb, 0, none⟩) 64 gc) from hco)
                  have HKC := hidC (And.intro (show wr.drew.cell? ⟨gk, k * 6 + j, none⟩ = some (V' (k * 6 + j)) from hck) (show wr.drew.frozen? ⟨gk, k * 6 + j, none⟩ = false from hfk))
                  clear h1 h2 h3 h6 h7 hq hu hck hfk
                  go_wp2_with (first
                    | ((with_reducible refine at_dstC 77 rfl ?_)
                       (refine wpList_is (some 77) (.pointer (some ⟨go, k * 6, none⟩)) rfl (by rfl) (run_at_18 _ _ rfl go k rfl rfl hk3 _) ?_))
                    | ((with_reducible refine at_dstC 78 rfl ?_)
                       (refine wpList_is (some 78) (.pointer (some ⟨go, k * 6 + j, none⟩)) rfl (by rfl) (run_at_6 _ _ rfl go (k * 6) j rfl rfl hj6 _) ?_))
                    | ((with_reducible refine at_dstC 79 rfl ?_)
                       (refine wpList_is (some 79) (.slice (some ⟨gb, 0, none⟩) 64 gc) rfl (by rfl) (run_load_byC _ rfl _ rfl _ _ hco) ?_)))
                  refine lastTo (S := fun wz => wz = wr.drew) 9 (by kernel_rfl) (rfl) (fun hHeld => ?_)
                  refine takeL 0 (some 82) (.int .i64 (k : Nat)) rfl rfl (by decide) (by kernel_rfl) (by kernel_rfl) (by kernel_rfl) (by kernel_rfl) (fun _ _ _ h => h) (by rfl) (fun _ _ => rfl) hHeld ?_
                  simp only [Act.put, List.setIfInBounds_toArray, List.set_cons_zero, List.set_cons_succ]
                  refine takeL 1 (some 83) (.int .i64 (j : Nat)) rfl rfl (by decide) (by kernel_rfl) (by kernel_rfl) (by kernel_rfl) (by kernel_rfl) (fun _ _ _ h => h) (by rfl) (fun _ _ => rfl) hHeld ?_
                  simp only [Act.put, List.setIfInBounds_toArray, List.set_cons_zero, List.set_cons_succ]
                  refine takeL 2 (some 84) (.int .i64 (k : Nat)) rfl rfl (by decide) (by kernel_rfl) (by kernel_rfl) (by kernel_rfl) (by kernel_rfl) (fun _ _ _ h => h) (by rfl) (fun _ _ => rfl) hHeld ?_
                  simp only [Act.put, List.setIfInBounds_toArray, List.set_cons_zero, List.set_cons_succ]
                  refine takeL 3 (some 85) (.int .i64 (j : Nat)) rfl rfl (by decide) (by kernel_rfl) (by kernel_rfl) (by kernel_rfl) (by kernel_rfl) (fun _ _ _ h => h) (by rfl) (fun _ _ => rfl) hHeld ?_
                  simp only [Act.put, List.setIfInBounds_toArray, List.set_cons_zero, List.set_cons_succ]
                  refine takeL 4 (some 86) (.pointer (some ⟨go, k * 6, none⟩)) rfl rfl (by decide) (by kernel_rfl) (by kernel_rfl) (by kernel_rfl) (by kernel_rfl) (fun _ _ _ h => h) (by rfl) (fun wz _ => run_at_18 _ _ rfl go k rfl rfl hk3 wz) hHeld ?_
                  simp only [Act.put, List.setIfInBounds_toArray, List.set_cons_zero, List.set_cons_succ]
                  refine takeL 5 (some 87) (.pointer (some ⟨go, k * 6 + j, none⟩)) rfl rfl (by decide) (by kernel_rfl) (by kernel_rfl) (by kernel_rfl) (by kernel_rfl) (fun _ _ _ h => h) (by rfl) (fun wz _ => run_at_6 _ _ rfl go (k * 6) j rfl rfl hj6 wz) hHeld ?_
                  simp only [Act.put, List.setIfInBounds_toArray, List.set_cons_zero, List.set_cons_succ]
                  refine takeL 6 (some 88) (.slice (some ⟨gb, 0, none⟩) 64 gc) rfl rfl (by decide) (by kernel_rfl) (by kernel_rfl) (by kernel_rfl) (by kernel_rfl) (fun _ _ _ h => h) (by rfl) (fun wz hz => by rw [hz]; exact run_load_byC _ rfl _ rfl _ _ HCO.out) hHeld ?_
                  simp only [Act.put, List.setIfInBounds_toArray, List.set_cons_zero, List.set_cons_succ]
                  refine takeC 7 [8] (some 89) (.pointer (some ⟨gk, k * 6, none⟩)) rfl rfl (by decide) (by kernel_rfl) (by kernel_rfl) (by kernel_rfl) (by kernel_rfl) (by kernel_rfl) (fun _ _ _ h => h) (by rfl) (fun wz _ => run_at_18 _ _ rfl gk k rfl rfl hk3 wz) hHeld ?_
                  simp only [Act.put, List.setIfInBounds_toArray, List.set_cons_zero, List.set_cons_succ]
                  refine takeL 8 (some 90) (.pointer (some ⟨gk, k * 6 + j, none⟩)) rfl rfl (by decide) (by kernel_rfl) (by kernel_rfl) (by kernel_rfl) (by kernel_rfl) (fun _ _ _ h => h) (by rfl) (fun wz _ => run_at_6 _ _ rfl gk (k * 6) j rfl rfl hj6 wz) hHeld ?_
                  simp only [Act.put, List.setIfInBounds_toArray, List.set_cons_zero, List.set_cons_succ]
                  refine lastSkip 9 none (wr.drew.setCell ⟨gk, k * 6 + j, none⟩ (.slice (some ⟨gb, 0, none⟩) 64 gc)) (by kernel_rfl) rfl rfl (by rfl) (run_store_byC _ _ rfl _ rfl _ _ _ rfl _ _ HKC.out.1 HKC.out.2) (by kernel_rfl) ?_
                  simp only [Act.put]
                  clear hHeld
                  go_wp2
                  go_roundw
                  case rel => exact ⟨j + 1, by have := HJ6.out; omega, by go_num, HPT.out⟩
                  case measure => have := HJ6.out; simp [intOf]; omega
              · obtain rfl : j = 6 := by omega
                have HKX := hidC (show Kst D w wr cb P gl go gk l L H4 U ((k + 1) * 6) by rw [Nat.succ_mul]; exact hK)
                clear hK
                go_wp2
                go_roundw
                case rel => exact ⟨k + 1, HK3.out, by go_num, HKX.out⟩
                case measure => have := HK3.out; simp [intOf]; omega
          · obtain rfl : k = 3 := by omega
            obtain ⟨V', h1, h2, h3, h6, h7⟩ := hK
            have i1 : (0 : Int) ≤ (i : Int) := by omega
            have i2 : (i : Int) < 80 := by have := HI.out.2; omega
            have hL4 := lst_nils hD h1 h2 (h3.congr (fun d s hd hs => mix_end l L hd hs)) HFL.out.1 HFL.out.2 h6 h7 HNE.out
            go_wp2_with (first
              | ((with_reducible refine at_dstC 91 rfl ?_)
                 (refine wpList_is (some 91) (.agg (c18 fun _ => .slice none 0 0)) rfl (by rfl) (run_build18 rfl _) ?_))
              | (refine wpList_nils18 rfl _ _ rfl rfl rfl h2.has ?_))
            have hi8 := HI.out.2
            go_roundw
            case rel => exact ⟨i + 1, HI.out.1, HI.out.2, by go_num, hL4⟩
            case measure => have := HI.out.1; simp [intOf]; omega
      by_cases hk4 : kk = 4
      · subst hk4
        have HBK := hidC (fun W3 (hb3 : Below wr.heap.size wr W3) => cs_back hD (HC.out.next hD hb3))
        go_wp2_with (first
          | ((with_reducible refine at_dstC 38 rfl ?_)
             (refine wpList_is (some 38) (.pointer (some ⟨xs, os + i * 4, none⟩)) rfl (by rfl) (run_at_opC _ _ rfl xs os i len cap rfl rfl hil _) ?_))
          | ((with_reducible refine at_dstC 39 rfl ?_)
             (refine wpList_is (some 39) (.agg #[.int .i64 4, .int .i64 kd, .int .i64 ki, .slice ka kL kC]) rfl (by rfl) (HLO.out _ _ _ rfl rfl) ?_))
          | (refine wpList_copyC wr 41 _ #[.int .i64 4, .int .i64 kd, .int .i64 ki, .slice ka kL kC] rfl _ _ rfl rfl rfl Try.sizeOpC rfl (by simp [Value.oneCell']) ?_; intro W3 hH3 hb3; have d0 := hH3.cell 0; have d1 := hH3.cell 1; have d2 := hH3.cell 2; have d3 := hH3.cell 3; simp only [List.getElem?_toArray, List.getElem?_cons_zero, List.getElem?_cons_succ] at d0 d1 d2 d3)

          | ((go_at_call 17)
             (refine (HBK.out W3 hb3).mono ?_)
             (rintro e W4 ⟨rfl, ho4, H4, hg4, hC4⟩)
             (obtain ⟨hU4, hV4, hO4, hcl4⟩ := HST.out W3 hb3 W4 H4 ho4 hg4)
             (have hL4 := HUP.out _ (lst_nils hD hC4 hU4 hV4 (by have := HB.out.1; omega) HB.out.2 hO4 hcl4 HNE.out)))
          | ((with_reducible refine at_dstC 96 rfl ?_)
             (refine wpList_is (some 96) (.agg (c18 fun _ => .slice none 0 0)) rfl (by rfl) (run_build18 rfl _) ?_))
          | (refine wpList_nils18 rfl _ _ rfl rfl rfl hU4.has ?_))
        go_roundw
        case rel => exact ⟨i + 1, HI.out.1, HI.out.2, by go_num, hL4⟩
        case measure => have := HI.out.1; simp [intOf]; omega
      · go_wp2_with (first
          | ((with_reducible refine at_dstC 38 rfl ?_)
             (refine wpList_is (some 38) (.pointer (some ⟨xs, os + i * 4, none⟩)) rfl (by rfl) (run_at_opC _ _ rfl xs os i len cap rfl rfl hil _) ?_))
          | ((with_reducible refine at_dstC 39 rfl ?_)
             (refine wpList_is (some 39) (.agg #[.int .i64 kk, .int .i64 kd, .int .i64 ki, .slice ka kL kC]) rfl (by rfl) (HLO.out _ _ _ rfl rfl) ?_))
          | (refine wpList_copyC wr 41 _ #[.int .i64 kk, .int .i64 kd, .int .i64 ki, .slice ka kL kC] rfl _ _ rfl rfl rfl Try.sizeOpC rfl (by simp [Value.oneCell']) ?_; intro W3 hH3 hb3; have d0 := hH3.cell 0; have d1 := hH3.cell 1; have d2 := hH3.cell 2; have d3 := hH3.cell 3; simp only [List.getElem?_toArray, List.getElem?_cons_zero, List.getElem?_cons_succ] at d0 d1 d2 d3)
)
        go_roundw
        case rel => exact ⟨i + 1, HI.out.1, HI.out.2, by go_num, HUP.out _ (HL3.out _ hb3)⟩
        case measure => have := HI.out.1; simp [intOf]; omega
    · by_cases hil2 : i < len
      · have i0 : (i : Int) < (len : Int) := by omega
        have i2 : ¬ (i : Int) < 80 := by omega
        obtain ⟨l, L, H, U, V, hC, hU, hV, hb1, hb2, hO, hcl, hne⟩ := hL
        have HAPP := hidC (cs_apply hD hC (fun i _ => ⟨Nat.zero_le _, Nat.zero_le _⟩) (by omega) (by omega))
        have HUNI := hidC hC.uni
        have HFLT := hidC hC.flat
        have HSTE := hidC (fun w4 H4 (ho4 : Only H wr w4) (hg4 : Grew wr H H4) => (⟨hV.step ho4 hg4, (hO.step ho4 hg4).1, fun j hj => (cell_same (hO.step ho4 hg4).2).trans (hcl j hj)⟩ : Row18 w4 H4 gk V (lookL L) ∧ Off1 H4 w4 gl ∧ ∀ j, j < 3 → w4.cell? ⟨gl, j, none⟩ = some (ptr (P j))))
        have HW := hidC (fun i => apD_wl (S := S0) (M := M0) (L := L) (fun _ => wl_fresh) hC.flat i)
        have HHO := hidC (fun d s j hj => apD_holds (S := S0) (M := M0) (L := L) (fun _ => wl_fresh) hC.flat (fun g hg => hC.uni g (List.mem_cons_of_mem _ hg)) d s j hj)
        clear hC hU hV hb1 hb2 hO hcl hne HL0 HBD
        go_wp2_with (first
          | ((go_at_call 19)
             (refine HAPP.out.mono ?_)
             (rintro e W4 ⟨rfl, ho4, H4, hg4, hC4⟩)
             (obtain ⟨hV4, hO4, hcl4⟩ := HSTE.out W4 H4 ho4 hg4)
             (have HE0 := hidC (⟨hC4, hV4, hO4, hcl4⟩ : Est D w W4 cb P gl gk l L H4 V))
             (clear hV4 hO4 hcl4 ho4 hg4 hC4 HAPP HSTE)))
        go_loopw [11] (fun kv wr => ∃ k : Nat, k ≤ 3 ∧ kv = .int .i64 (k : Nat) ∧ Est D w wr cb P gl gk l L H4 V)
          (fun kv _ => 3 - (intOf kv).toNat)
        case atStart => exact ⟨0, by omega, rfl, HE0.out⟩
        case round =>
          obtain ⟨k, hk, rfl, hE⟩ := hrel
          by_cases hk3 : k < 3
          · have k0 : (k : Int) < 3 := by omega
            have k1 : (0 : Int) ≤ (k : Int) := by omega
            have HEI := hidC hE
            have HK3 := hidC hk3
            clear hE
            go_wp2
            go_loopw [12] (fun jv wr => ∃ j : Nat, j ≤ 6 ∧ jv = .int .i64 (j : Nat) ∧ Est D w wr cb P gl gk l L H4 V)
              (fun jv _ => 6 - (intOf jv).toNat)
            case atStart => exact ⟨0, by omega, rfl, HEI.out⟩
            case round =>
              obtain ⟨j, hj, rfl, hE⟩ := hrel
              by_cases hj6 : j < 6
              · have j0 : (j : Int) < 6 := by omega
                have j1 : (0 : Int) ≤ (j : Int) := by omega
                have HJ6 := hidC hj6
                have HES := hidC hE
                obtain ⟨hC, hV, hO, hcl⟩ := hE
                have hc3 := hcl k hk3
                have hr0 : rdErr (apD S0 M0 L k) (j : Int) = 0 := by
                  obtain ⟨w1, w2, w3⟩ := HW.out k
                  exact rdErr_okC _ j w1 (by rw [w2]; exact hj6) (by rw [w3])
                have HRD := hidC (cs_dread hD hC hk3 (j : Int) ⟨by omega, by omega⟩)
                rw [hr0, Int.toNat_natCast] at HRD
                have HHK := hidC (fun q hq => HHO.out k j q hq)
                generalize holds (apD S0 M0 L k) j = hf at *
                have hvc := hV.cell hk3 hj6
                have hvv := hV.at_ k j hk3 hj6
                generalize V (k * 6 + j) = vv at *
                generalize lookL L k j = lq at *
                obtain ⟨kA, kL, kC, kf, hkv, hkL, hkB, hk256, hkE⟩ := hvv.tells
                subst hkv
                have hfull : ∀ q, full hf 64 q < 256 := fun q => by
                  unfold full
                  by_cases e : q < 64
                  · rw [if_pos e, HHK.out q e]
                    show (lq.getD fun _ => 0) q < 256
                    rw [hkE q e]
                    exact hk256 q
                  · rw [if_neg e]
                    decide
                have HEQ := hidC (show (strN (full hf 64) 64 == strN (full kf kL) 64) = true from by
                  rw [strN_same (g := full kf kL) (fun q hq => by
                    show (if q < 64 then hf q else 0) = _
                    rw [if_pos hq, HHK.out q hq]
                    exact hkE q hq)]
                  exact beq_self_eq_true _)
                have HFU := hidC (fun W5 (hb5 : Below wr.heap.size wr W5) => full_anyC kf kL kC kA W5 hkL (hkB.below hb5 (Nat.le_refl _)))
                have HSA := hidC (fun W6 g5 o5 c5 g6 (h1 : Bytes W6 (some ⟨g5, o5, none⟩) 64 hf) (h2 : Has W6 g6 5 (cellsN .u8 64 (full kf kL))) => same_any c5 64 (show Bytes W6 (some ⟨g5, o5, none⟩) 64 (full hf 64) from h1.congrC (fun q hq => by show hf q = (if q < 64 then hf q else 0); rw [if_pos hq])) h2.bytes hfull hk256 (fun e => by cases e) (fun e => by cases e))
                have HVC := hidC hvc
                have hgkl := hV.has.lt
                clear hC hV hO hcl hvc hvv hkB hk256 hkE hfull hr0 HHK
                go_wp2_with (first
                  | ((with_reducible refine at_dstC 110 rfl ?_)
                     (refine wpList_is (some 110) (.pointer (some ⟨gl, k, none⟩)) rfl (by rfl) (run_at_pd _ _ rfl gl k 3 cl rfl rfl hk3 _) ?_))
                  | ((with_reducible refine at_dstC 111 rfl ?_)
                     (refine wpList_is (some 111) (ptr (P k)) rfl (by rfl) (run_load_pdC _ rfl _ rfl _ _ hc3) ?_))
                  | ((go_at_call 34)
                     (refine HRD.out.mono ?_)
                     (rintro e W5 ⟨hb5, v5, rfl, hv5⟩)
                     (obtain ⟨g5, o5, c5, hv5e, _, _, hB5⟩ := NewSec.bytes (hv5.resolve_left (fun h => h.1 rfl)).2)
                     (subst hv5e)
                     (have hvc5 := (hb5.cell (p := ⟨gk, k * 6 + j, none⟩) hgkl).trans HVC.out)
                     (clear hv5 HRD hc3))
                  | ((with_reducible refine at_dstC 119 rfl ?_)
                     (refine wpList_is (some 119) (.pointer (some ⟨gk, k * 6, none⟩)) rfl (by rfl) (run_at_18 _ _ rfl gk k rfl rfl hk3 _) ?_))
                  | ((with_reducible refine at_dstC 120 rfl ?_)
                     (refine wpList_is (some 120) (.pointer (some ⟨gk, k * 6 + j, none⟩)) rfl (by rfl) (run_at_6 _ _ rfl gk (k * 6) j rfl rfl hj6 _) ?_))
                  | ((with_reducible refine at_dstC 121 rfl ?_)
                     (refine wpList_is (some 121) (.slice kA kL kC) rfl (by rfl) (run_load_byC _ rfl _ rfl _ _ hvc5) ?_))
                  | ((go_at_call 42)
                     (refine (HFU.out W5 hb5).mono ?_)
                     (rintro e W6 ⟨rfl, hH6, hb6⟩)
                     (have HS6 := hidC (HSA.out W6 g5 o5 c5 _ (hB5.below hb6 (Nat.le_refl _)) hH6))
                     (have HE7 := hidC (Est.next hD HES.out (hb5.trans (hb6.mono hb5.size))))
                     (rw [HEQ.out] at HS6)
                     (clear hH6 hb6 hB5 hvc5))
                  | ((go_at_call 14)
                     (refine HS6.out.mono ?_)
                     (rintro e W7 ⟨rfl, hW7⟩)
                     (obtain rfl : W6 = W7 := hW7.symm)))
                go_roundw
                case rel => exact ⟨j + 1, by have := HJ6.out; omega, by go_num, HE7.out⟩
                case measure => have := HJ6.out; simp [intOf]; omega
              · obtain rfl : j = 6 := by omega
                have HE6 := hidC hE
                clear hE
                go_wp2
                go_roundw
                case rel => exact ⟨k + 1, HK3.out, by go_num, HE6.out⟩
                case measure => have := HK3.out; simp [intOf]; omega
          · obtain rfl : k = 3 := by omega
            obtain ⟨hC, _⟩ := hE
            have HBB := hidC hC.below
            clear hC
            go_wp2
            go_ret
            exact ⟨rfl, HBB.out⟩
      · have i0 : ¬ (i : Int) < (len : Int) := by omega
        obtain ⟨l, L, H, U, V, hC, hU, hV, hb1, hb2, hO, hcl, hne⟩ := hL
        have HAPP := hidC (cs_apply hD hC (fun i _ => ⟨Nat.zero_le _, Nat.zero_le _⟩) (by omega) (by omega))
        have HUNI := hidC hC.uni
        have HFLT := hidC hC.flat
        have HSTE := hidC (fun w4 H4 (ho4 : Only H wr w4) (hg4 : Grew wr H H4) => (⟨hV.step ho4 hg4, (hO.step ho4 hg4).1, fun j hj => (cell_same (hO.step ho4 hg4).2).trans (hcl j hj)⟩ : Row18 w4 H4 gk V (lookL L) ∧ Off1 H4 w4 gl ∧ ∀ j, j < 3 → w4.cell? ⟨gl, j, none⟩ = some (ptr (P j))))
        have HW := hidC (fun i => apD_wl (S := S0) (M := M0) (L := L) (fun _ => wl_fresh) hC.flat i)
        have HHO := hidC (fun d s j hj => apD_holds (S := S0) (M := M0) (L := L) (fun _ => wl_fresh) hC.flat (fun g hg => hC.uni g (List.mem_cons_of_mem _ hg)) d s j hj)
        clear hC hU hV hb1 hb2 hO hcl hne HL0 HBD
        go_wp2_with (first
          | ((go_at_call 19)
             (refine HAPP.out.mono ?_)
             (rintro e W4 ⟨rfl, ho4, H4, hg4, hC4⟩)
             (obtain ⟨hV4, hO4, hcl4⟩ := HSTE.out W4 H4 ho4 hg4)
             (have HE0 := hidC (⟨hC4, hV4, hO4, hcl4⟩ : Est D w W4 cb P gl gk l L H4 V))
             (clear hV4 hO4 hcl4 ho4 hg4 hC4 HAPP HSTE)))
        go_loopw [11] (fun kv wr => ∃ k : Nat, k ≤ 3 ∧ kv = .int .i64 (k : Nat) ∧ Est D w wr cb P gl gk l L H4 V)
          (fun kv _ => 3 - (intOf kv).toNat)
        case atStart => exact ⟨0, by omega, rfl, HE0.out⟩
        case round =>
          obtain ⟨k, hk, rfl, hE⟩ := hrel
          by_cases hk3 : k < 3
          · have k0 : (k : Int) < 3 := by omega
            have k1 : (0 : Int) ≤ (k : Int) := by omega
            have HEI := hidC hE
            have HK3 := hidC hk3
            clear hE
            go_wp2
            go_loopw [12] (fun jv wr => ∃ j : Nat, j ≤ 6 ∧ jv = .int .i64 (j : Nat) ∧ Est D w wr cb P gl gk l L H4 V)
              (fun jv _ => 6 - (intOf jv).toNat)
            case atStart => exact ⟨0, by omega, rfl, HEI.out⟩
            case round =>
              obtain ⟨j, hj, rfl, hE⟩ := hrel
              by_cases hj6 : j < 6
              · have j0 : (j : Int) < 6 := by omega
                have j1 : (0 : Int) ≤ (j : Int) := by omega
                have HJ6 := hidC hj6
                have HES := hidC hE
                obtain ⟨hC, hV, hO, hcl⟩ := hE
                have hc3 := hcl k hk3
                have hr0 : rdErr (apD S0 M0 L k) (j : Int) = 0 := by
                  obtain ⟨w1, w2, w3⟩ := HW.out k
                  exact rdErr_okC _ j w1 (by rw [w2]; exact hj6) (by rw [w3])
                have HRD := hidC (cs_dread hD hC hk3 (j : Int) ⟨by omega, by omega⟩)
                rw [hr0, Int.toNat_natCast] at HRD
                have HHK := hidC (fun q hq => HHO.out k j q hq)
                generalize holds (apD S0 M0 L k) j = hf at *
                have hvc := hV.cell hk3 hj6
                have hvv := hV.at_ k j hk3 hj6
                generalize V (k * 6 + j) = vv at *
                generalize lookL L k j = lq at *
                obtain ⟨kA, kL, kC, kf, hkv, hkL, hkB, hk256, hkE⟩ := hvv.tells
                subst hkv
                have hfull : ∀ q, full hf 64 q < 256 := fun q => by
                  unfold full
                  by_cases e : q < 64
                  · rw [if_pos e, HHK.out q e]
                    show (lq.getD fun _ => 0) q < 256
                    rw [hkE q e]
                    exact hk256 q
                  · rw [if_neg e]
                    decide
                have HEQ := hidC (show (strN (full hf 64) 64 == strN (full kf kL) 64) = true from by
                  rw [strN_same (g := full kf kL) (fun q hq => by
                    show (if q < 64 then hf q else 0) = _
                    rw [if_pos hq, HHK.out q hq]
                    exact hkE q hq)]
                  exact beq_self_eq_true _)
                have HFU := hidC (fun W5 (hb5 : Below wr.heap.size wr W5) => full_anyC kf kL kC kA W5 hkL (hkB.below hb5 (Nat.le_refl _)))
                have HSA := hidC (fun W6 g5 o5 c5 g6 (h1 : Bytes W6 (some ⟨g5, o5, none⟩) 64 hf) (h2 : Has W6 g6 5 (cellsN .u8 64 (full kf kL))) => same_any c5 64 (show Bytes W6 (some ⟨g5, o5, none⟩) 64 (full hf 64) from h1.congrC (fun q hq => by show hf q = (if q < 64 then hf q else 0); rw [if_pos hq])) h2.bytes hfull hk256 (fun e => by cases e) (fun e => by cases e))
                have HVC := hidC hvc
                have hgkl := hV.has.lt
                clear hC hV hO hcl hvc hvv hkB hk256 hkE hfull hr0 HHK
                go_wp2_with (first
                  | ((with_reducible refine at_dstC 110 rfl ?_)
                     (refine wpList_is (some 110) (.pointer (some ⟨gl, k, none⟩)) rfl (by rfl) (run_at_pd _ _ rfl gl k 3 cl rfl rfl hk3 _) ?_))
                  | ((with_reducible refine at_dstC 111 rfl ?_)
                     (refine wpList_is (some 111) (ptr (P k)) rfl (by rfl) (run_load_pdC _ rfl _ rfl _ _ hc3) ?_))
                  | ((go_at_call 34)
                     (refine HRD.out.mono ?_)
                     (rintro e W5 ⟨hb5, v5, rfl, hv5⟩)
                     (obtain ⟨g5, o5, c5, hv5e, _, _, hB5⟩ := NewSec.bytes (hv5.resolve_left (fun h => h.1 rfl)).2)
                     (subst hv5e)
                     (have hvc5 := (hb5.cell (p := ⟨gk, k * 6 + j, none⟩) hgkl).trans HVC.out)
                     (clear hv5 HRD hc3))
                  | ((with_reducible refine at_dstC 119 rfl ?_)
                     (refine wpList_is (some 119) (.pointer (some ⟨gk, k * 6, none⟩)) rfl (by rfl) (run_at_18 _ _ rfl gk k rfl rfl hk3 _) ?_))
                  | ((with_reducible refine at_dstC 120 rfl ?_)
                     (refine wpList_is (some 120) (.pointer (some ⟨gk, k * 6 + j, none⟩)) rfl (by rfl) (run_at_6 _ _ rfl gk (k * 6) j rfl rfl hj6 _) ?_))
                  | ((with_reducible refine at_dstC 121 rfl ?_)
                     (refine wpList_is (some 121) (.slice kA kL kC) rfl (by rfl) (run_load_byC _ rfl _ rfl _ _ hvc5) ?_))
                  | ((go_at_call 42)
                     (refine (HFU.out W5 hb5).mono ?_)
                     (rintro e W6 ⟨rfl, hH6, hb6⟩)
                     (have HS6 := hidC (HSA.out W6 g5 o5 c5 _ (hB5.below hb6 (Nat.le_refl _)) hH6))
                     (have HE7 := hidC (Est.next hD HES.out (hb5.trans (hb6.mono hb5.size))))
                     (rw [HEQ.out] at HS6)
                     (clear hH6 hb6 hB5 hvc5))
                  | ((go_at_call 14)
                     (refine HS6.out.mono ?_)
                     (rintro e W7 ⟨rfl, hW7⟩)
                     (obtain rfl : W6 = W7 := hW7.symm)))
                go_roundw
                case rel => exact ⟨j + 1, by have := HJ6.out; omega, by go_num, HE7.out⟩
                case measure => have := HJ6.out; simp [intOf]; omega
              · obtain rfl : j = 6 := by omega
                have HE6 := hidC hE
                clear hE
                go_wp2
                go_roundw
                case rel => exact ⟨k + 1, HK3.out, by go_num, HE6.out⟩
                case measure => have := HK3.out; simp [intOf]; omega
          · obtain rfl : k = 3 := by omega
            obtain ⟨hC, _⟩ := hE
            have HBB := hidC hC.below
            clear hC
            go_wp2
            go_ret
            exact ⟨rfl, HBB.out⟩
end Go.Proofs.Ytancebpjfbbcaaa
