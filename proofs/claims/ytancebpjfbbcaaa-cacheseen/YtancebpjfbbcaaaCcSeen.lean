/- CacheSeen: its walk. -/
import Derived.Test.YtancebpjfbbcaaaCcLast
import Derived.Test.YtancebpjfbbcaaaCcSeenM
import Derived.Test.YtancebpjfbbcaaaCcNone
import Derived.Test.YtancebpjfbbcaaaCcRowB
namespace Go.Proofs.Ytancebpjfbbcaaa
open Go.ChangeShapes Go.WideShapes Go.ChangeAt Go.RowKit Go.MapKept
set_option linter.unusedVariables false

variable {D : DevRep} {w wr w' : World} {cb gl : Nat} {P : Nat → Nat}

/-- What CacheSeen holds ahead of act number i. -/
def Sst (D : DevRep) (w wr : World) (cb : Nat) (P : Nat → Nat) (gl i : Nat) : Prop := ∃ l L H, CS D w.heap.size w wr cb P S0 M0 l L H ∧ l.length + L.flatten.length ≤ i ∧ L.length ≤ i ∧ Off1 H wr gl ∧ ∀ j, j < 3 → wr.cell? ⟨gl, j, none⟩ = some (ptr (P j))

theorem Sst.next (hD : DevOk D) {i : Nat} (h : Sst D w wr cb P gl i) (hb : Below wr.heap.size wr w') : Sst D w w' cb P gl i := by
  obtain ⟨l, L, H, h1, h4, h5, h6, h7⟩ := h
  exact ⟨l, L, H, h1.next hD hb, h4, h5, (h6.below hb).1, fun j hj => (cell_same (h6.below hb).2).trans (h7 j hj)⟩

theorem put_fits {z : Int} {l : List Wr} {d s i m : Nat} {f : Nat → Nat} (h : l.length + m ≤ i) : (if z = 0 then putE l d s f else l).length + m ≤ i + 1 := by
  have := putE_len l d s f
  split <;> omega

theorem keep_fits {l : List Wr} {L : List (List Wr)} {i : Nat} (h1 : l.length + L.flatten.length ≤ i) (h2 : L.length ≤ i) : ([] : List Wr).length + (if l = [] then L else L ++ [l]).flatten.length ≤ i + 1 ∧ (if l = [] then L else L ++ [l]).length ≤ i + 1 := by
  rw [List.length_nil]
  by_cases e : l = []
  · rw [if_pos e]
    omega
  · have e2 : [l].flatten = l := by simp
    rw [if_neg e, List.flatten_append, List.length_append, List.length_append, e2, List.length_singleton]
    omega

/-- What sector s of device d is read as. -/
def sn (L : List (List Wr)) (d s : Nat) : Nat → Nat := (lookL L d s).getD fun _ => 0

def snQ (L : List (List Wr)) (n : Nat) (d s : Nat) : Option (Nat → Nat) := if d * 6 + s < n then some (sn L d s) else none

/-- While 'seen' fills. -/
def Fst (D : DevRep) (w wr : World) (cb : Nat) (P : Nat → Nat) (gl r : Nat) (L : List (List Wr)) (H : Nat → Prop) (n : Nat) : Prop := ∃ U, CS D w.heap.size w wr cb P S0 M0 [] L H ∧ RowB wr H r U (snQ L n) ∧ Off1 H wr gl ∧ (∀ j, j < 3 → wr.cell? ⟨gl, j, none⟩ = some (ptr (P j))) ∧ w.heap.size ≤ r ∧ gl ≠ r

/-- Behind Apply. -/
def Gst (D : DevRep) (w wr : World) (cb : Nat) (P : Nat → Nat) (gl r : Nat) (L : List (List Wr)) (H : Nat → Prop) : Prop := ∃ U, CS D w.heap.size w wr cb P (apD S0 M0 L) (apM S0 M0 L) [] [] H ∧ RowB wr H r U (fun d s => some (sn L d s)) ∧ Off1 H wr gl ∧ (∀ j, j < 3 → wr.cell? ⟨gl, j, none⟩ = some (ptr (P j))) ∧ w.heap.size ≤ r ∧ gl ≠ r

theorem Gst.next (hD : DevOk D) {r : Nat} {L : List (List Wr)} {H : Nat → Prop} (h : Gst D w wr cb P gl r L H) (hb : Below wr.heap.size wr w') : Gst D w w' cb P gl r L H := by
  obtain ⟨U, h1, h2, h3, h4, h5, h6⟩ := h
  exact ⟨U, h1.next hD hb, h2.below hb, (h3.below hb).1, fun j hj => (cell_same (h3.below hb).2).trans (h4 j hj), h5, h6⟩

theorem sn_end (L : List (List Wr)) {d s : Nat} (hd : d < 3) (hs : s < 6) : snQ L (3 * 6) d s = some (sn L d s) := if_pos (by omega)

theorem CS.flat2 {B : Nat} {w0 : World} {S : Nat → DS} {M : Nat → Nat} {l : List Wr} {L : List (List Wr)} {H : Nat → Prop} (h : CS D B w0 w cb P S M l L H) : ∀ r ∈ L.flatten, r.d < 3 ∧ r.s < 6 := fun r hr => by
  obtain ⟨g, hg, hr⟩ := List.mem_flatten.1 hr
  exact h.ok g (List.mem_cons_of_mem _ hg) r hr

theorem CS.byt {B : Nat} {w0 : World} {S : Nat → DS} {M : Nat → Nat} {l : List Wr} {L : List (List Wr)} {H : Nat → Prop} (h : CS D B w0 w cb P S M l L H) : ∀ g ∈ L, ∀ r ∈ g, ∀ q, r.f q < 256 := by
  obtain ⟨C, F, dv, o, kv, ks, GO, GK, h1, h2, h3, h4⟩ := h
  intro g hg r hr q
  rw [← h3] at hg
  obtain ⟨gv, hgv, rfl⟩ := List.mem_map.1 hg
  obtain ⟨x, hx, rfl⟩ := List.mem_map.1 hr
  exact ((h1.c.kgs gv hgv).dat x hx).byt q

theorem lookE_lt {l : List Wr} (hl : ∀ r ∈ l, ∀ q, r.f q < 256) {d s : Nat} {f : Nat → Nat} (h : lookE l d s = some f) (q : Nat) : f q < 256 := by
  unfold lookE at h
  cases hf : l.find? (hit d s) with
  | none => rw [hf] at h; cases h
  | some r =>
    rw [hf] at h
    cases h
    exact hl r (List.mem_of_find?_eq_some hf) q

theorem lookL_lt {L : List (List Wr)} (hl : ∀ g ∈ L, ∀ r ∈ g, ∀ q, r.f q < 256) {d s : Nat} {f : Nat → Nat} (h : lookL L d s = some f) (q : Nat) : f q < 256 := by
  induction L with
  | nil => cases h
  | cons g L ih =>
    unfold lookL at h
    cases h1 : lookL L d s with
    | some f1 =>
      rw [h1] at h
      cases h
      exact ih (fun g hg => hl g (List.mem_cons_of_mem _ hg)) h1
    | none =>
      rw [h1, Option.none_or] at h
      exact lookE_lt (hl g (List.mem_cons_self ..)) h q

theorem sn_lt {L : List (List Wr)} (hl : ∀ g ∈ L, ∀ r ∈ g, ∀ q, r.f q < 256) (d s q : Nat) : sn L d s q < 256 := by
  unfold sn
  cases h : lookL L d s with
  | none => show 0 < 256; decide
  | some f => exact lookL_lt hl h q

theorem held (L : List (List Wr)) (hfl : ∀ r ∈ L.flatten, r.d < 3 ∧ r.s < 6) (hun : ∀ g ∈ [] :: L, UniE g) (k j q : Nat) (hq : q < 64) : holds (apD S0 M0 L k) j q = sn L k j q :=
  apD_holds (S := S0) (M := M0) (L := L) (fun _ => wl_fresh) (fun r hr => (hfl r hr).2) (fun g hg => hun g (List.mem_cons_of_mem _ hg)) k j q hq

theorem rd_ok (L : List (List Wr)) (hfl : ∀ r ∈ L.flatten, r.d < 3 ∧ r.s < 6) (k : Nat) {j : Nat} (hj : j < 6) : rdErr (apD S0 M0 L k) (j : Nat) = 0 ∧ (apD S0 M0 L k).dead = false := by
  obtain ⟨w1, w2, w3⟩ := apD_wl (S := S0) (M := M0) (L := L) (fun _ => wl_fresh) (fun r hr => (hfl r hr).2) k
  exact ⟨rdErr_okC _ j w1 (by rw [w2]; exact hj) (by rw [w3]), w1⟩

theorem gst_read (hD : DevOk D) (hZ : DevSz D) {r : Nat} {L : List (List Wr)} {H : Nat → Prop} {k j : Nat} (h : Gst D w wr cb P gl r L H) (hfl : ∀ r ∈ L.flatten, r.d < 3 ∧ r.s < 6) (hun : ∀ g ∈ [] :: L, UniE g) (hk : k < 3) (hj : j < 6) : Calls Try.prog 12 #[ptr cb, .int .i64 (k : Nat), .int .i64 (j : Nat)] wr fun e w' => Below wr.heap.size wr w' ∧ ∃ g o c, e = .returned (.tuple #[.slice (some ⟨g, o, none⟩) 64 c, .int .i64 0]) ∧ Bytes w' (some ⟨g, o, none⟩) 64 (sn L k j) := by
  obtain ⟨U, h1, _⟩ := h
  have hr := cs_read hD hZ h1 (k : Nat) (j : Nat) ⟨by omega, by omega⟩ (Nat.zero_le _)
  simp only [Int.toNat_natCast] at hr
  obtain ⟨r1, r2⟩ := rd_ok L hfl k hj
  have hi : inC (k : Nat) (j : Nat) = true := decide_eq_true ⟨by omega, by omega, by omega, by omega⟩
  have e1 : crErr (apD S0 M0 L) (seenE [] [] k j) (k : Nat) (j : Nat) = 0 := by
    unfold crErr
    rw [if_neg (by rw [hi]; simp), Int.toNat_natCast, if_neg (by rw [r2]; simp), r1]
    split <;> rfl
  rw [e1] at hr
  refine hr.mono ?_
  rintro e w' ⟨hb, v, rfl, hv⟩
  obtain ⟨g, o, c, rfl, _, _, hB⟩ := (hv.resolve_left (fun h => h.1 rfl)).2.bytes
  exact ⟨hb, g, o, c, rfl, hB.congrC (fun q hq => held L hfl hun k j q hq)⟩

theorem gst_dread (hD : DevOk D) {r : Nat} {L : List (List Wr)} {H : Nat → Prop} {k j : Nat} (h : Gst D w wr cb P gl r L H) (hfl : ∀ r ∈ L.flatten, r.d < 3 ∧ r.s < 6) (hun : ∀ g ∈ [] :: L, UniE g) (hk : k < 3) (hj : j < 6) : Calls Try.prog 34 #[ptr (P k), .int .i64 (j : Nat)] wr fun e w' => Below wr.heap.size wr w' ∧ ∃ g o c, e = .returned (.tuple #[.slice (some ⟨g, o, none⟩) 64 c, .int .i64 0]) ∧ Bytes w' (some ⟨g, o, none⟩) 64 (sn L k j) := by
  obtain ⟨U, h1, _⟩ := h
  have hr := cs_dread hD h1 hk (j : Nat) ⟨by omega, by omega⟩
  obtain ⟨r1, r2⟩ := rd_ok L hfl k hj
  rw [r1, Int.toNat_natCast] at hr
  refine hr.mono ?_
  rintro e w' ⟨hb, v, rfl, hv⟩
  obtain ⟨g, o, c, rfl, _, _, hB⟩ := (hv.resolve_left (fun h => h.1 rfl)).2.bytes
  exact ⟨hb, g, o, c, rfl, hB.congrC (fun q hq => held L hfl hun k j q hq)⟩

theorem sn_next (L : List (List Wr)) {k j d s : Nat} (hj : j < 6) (hs : s < 6) : snQ L (k * 6 + (j + 1)) d s = if d = k ∧ s = j then some (sn L k j) else snQ L (k * 6 + j) d s := by
  unfold snQ
  by_cases e : d = k ∧ s = j
  · obtain ⟨rfl, rfl⟩ := e
    rw [if_pos (by omega), if_pos ⟨rfl, rfl⟩]
  · rw [if_neg e]
    by_cases h : d * 6 + s < k * 6 + j
    · rw [if_pos h, if_pos (by omega)]
    · rw [if_neg h, if_neg (by omega)]

theorem read0 (L : List (List Wr)) {k j : Nat} (hk : k < 3) (hj : j < 6) : crErr S0 (seenE [] L k j) (k : Nat) (j : Nat) = 0 ∧ crData S0 (seenE [] L k j) (k : Nat) (j : Nat) = sn L k j := by
  have hi : inC (k : Nat) (j : Nat) = true := decide_eq_true ⟨by omega, by omega, by omega, by omega⟩
  have he : rdErr (S0 (Int.toNat (k : Nat))) (j : Nat) = 0 := rdErr_okC _ j rfl hj rfl
  have hq : seenE [] L k j = lookL L k j := Option.none_or
  rw [hq]
  refine ⟨?_, rfl⟩
  unfold crErr
  rw [if_neg (by rw [hi]; simp), if_neg (by show ¬ (false = true); simp), he]
  split <;> rfl

theorem fst_read (hD : DevOk D) (hZ : DevSz D) {r : Nat} {L : List (List Wr)} {H : Nat → Prop} {k j : Nat} (h : Fst D w wr cb P gl r L H (k * 6 + j)) (hk : k < 3) (hj : j < 6) (hl : L.length ≤ 1000) : Calls Try.prog 12 #[ptr cb, .int .i64 (k : Nat), .int .i64 (j : Nat)] wr fun e w' => Below wr.heap.size wr w' ∧ ∃ g o c, e = .returned (.tuple #[.slice (some ⟨g, o, none⟩) 64 c, .int .i64 0]) ∧
    ∃ u, w'.cell? ⟨r, k * 6 + j, none⟩ = some u ∧ w'.frozen? ⟨r, k * 6 + j, none⟩ = false ∧ Fst D w (w'.setCell ⟨r, k * 6 + j, none⟩ (.slice (some ⟨g, o, none⟩) 64 c)) cb P gl r L H (k * 6 + (j + 1)) := by
  obtain ⟨U, h1, h2, h3, h4, h5, h6⟩ := h
  have hr := cs_read hD hZ h1 (k : Nat) (j : Nat) ⟨by omega, by omega⟩ hl
  simp only [Int.toNat_natCast] at hr
  obtain ⟨e1, e2⟩ := read0 L hk hj
  rw [e1, e2] at hr
  refine hr.mono ?_
  rintro e w' ⟨hb, v, rfl, hv⟩
  have hn := (hv.resolve_left (fun h => h.1 rfl)).2
  obtain ⟨g, o, c, rfl, _⟩ := hn.bytes
  have hvb := hn.vb (fun k hk => h1.lt hD k hk) h2.has.lt
  have h2' := h2.below hb
  have ho := only_setCell w' r (k * 6 + j) (.slice (some ⟨g, o, none⟩) 64 c)
  have h3' := (h3.below hb).1
  refine ⟨hb, g, o, c, rfl, _, h2'.cell hk hj, h2'.has.free _, _, (h1.next hD hb).only hD ho (fun k e => e ▸ h2'.out) (fun k e => e ▸ h5), (h2'.put hk hj hvb).congr (fun d s _ hs => (sn_next L hj hs).symm), ⟨h3'.1, Nat.lt_of_lt_of_le h3'.2 ho.size⟩, fun q hq => (cell_same (ho.block gl h3'.2 h6)).trans ((cell_same (h3.below hb).2).trans (h4 q hq)), h5, h6⟩

set_option maxRecDepth 100000 in
set_option maxHeartbeats 4000000 in
theorem cacheSeen_c (hD : DevOk D) (hZ : DevSz D) (w : World) (a : Option Addr) (len cap : Nat) (O : Nat → OpC) (hs : ScrC w a len O) : Calls Try.prog 4 #[.slice a len cap] w fun e w' => e = .returned (.bool true) ∧ Below w.heap.size w w' := by
  have HMD := hidC (cs_made hD w)
  have HAL := hidC (fun w1 => alive17_c hD hZ w1)
  have HSC := hidC hs.2
  have hlm := hs.1
  unfold maxLen at hlm
  have hn := fun cb => pc_some cb
  clear hs
  go_enter Try.func4, Try.ntmps4
  go_wp2_with (first
    | ((go_at_call 7)
       (refine HMD.out.mono ?_)
       (rintro e w1 ⟨hb1, gl, cl, cb, P, H, rfl, hC1, hg1, hgB, hgl, hcl⟩)
       (have hO1 : Off1 H w1 gl := ⟨hg1, hgl⟩)
       (have hnn := hn cb)
       (have HCL := hidC hcl)
       (have HGB := hidC hgB)
       (clear hn hg1 hcl hgB hgl HMD))
    | ((go_at_call 8)
       (refine (HAL.out w1).mono ?_)
       (rintro e w2 ⟨rfl, hb2⟩)
       (have hC2 := hC1.next hD hb2)
       (obtain ⟨hO2, e2⟩ := hO1.below hb2)
       (have HCL2 := hidC (show ∀ j, j < 3 → w2.cell? ⟨gl, j, none⟩ = some (ptr (P j)) from fun j hj => (cell_same e2).trans (HCL.out j hj)))))
  have HL0 := hidC (show Sst D w w2 cb P gl 0 from ⟨[], [], H, hC2, Nat.le_refl _, Nat.le_refl _, hO2, HCL2.out⟩)
  have HBD := hidC hC2.below
  clear hC1 hC2 hO1 hO2 e2 hb1 hb2 HCL HCL2 HGB HAL
  go_loopw [5] (fun iv wr => ∃ i : Nat, i ≤ len ∧ i ≤ 80 ∧ iv = .int .i64 (i : Nat) ∧ Sst D w wr cb P gl i)
    (fun iv _ => len - (intOf iv).toNat)
  case atStart => exact ⟨0, Nat.zero_le _, Nat.zero_le _, rfl, HL0.out⟩
  case round =>
    obtain ⟨i, hi, hi80, rfl, hL⟩ := hrel
    by_cases hil : i < len ∧ i < 80
    · obtain ⟨hil, hi8⟩ := hil
      obtain ⟨xs, os, rfl, hxs, hop⟩ := HSC.out i hil
      obtain ⟨l, L, H, hC, hb1, hb2, hO, hcl⟩ := hL
      have hopr := hop.below hxs hC.below (Nat.le_refl _)
      have HLO := hidC (show ∀ (o : Oper) (a : Act) (x : Operand), o.op = .load 41 x → a.eval x = .pointer (some ⟨xs, os + i * 4, none⟩) → (execOp a.eval o).run Try.prog wr = .ok (.value (.agg #[.int .i64 (O i).k, .int .i64 (O i).d, .int .i64 (O i).i, .slice (O i).a (O i).L (O i).C])) wr from fun o a x ho hx => run_load_opC x ho xs _ hx (O i) wr hopr)
      have hby := hop.by_
      clear hop hopr
      generalize (O i).k = kk at *
      generalize (O i).d = kd at *
      generalize (O i).i = ki at *
      generalize (O i).a = ka at *
      generalize (O i).L = kL at *
      generalize (O i).C = kC at *
      generalize (O i).b = kb at *
      have i0 : (i : Int) < (len : Int) := by omega
      have i1 : (0 : Int) ≤ (i : Int) := by omega
      have i2 : (i : Int) < 80 := by omega
      have HI := hidC (And.intro hil hi8)
      have HC := hidC hC
      have HB := hidC (And.intro hb1 hb2)
      have HBY := hidC hby
      have HL3 := hidC (fun W3 (hb3 : Below wr.heap.size wr W3) => (⟨l, L, H, hC.next hD hb3, Nat.le_succ_of_le hb1, Nat.le_succ_of_le hb2, (hO.below hb3).1, fun j hj => (cell_same (hO.below hb3).2).trans (hcl j hj)⟩ : Sst D w W3 cb P gl (i + 1)))
      have HST := hidC (fun W3 (hb3 : Below wr.heap.size wr W3) w4 H4 (ho4 : Only H W3 w4) (hg4 : Grew W3 H H4) => (⟨((hO.below hb3).1.step ho4 hg4).1, fun j hj => (cell_same ((hO.below hb3).1.step ho4 hg4).2).trans ((cell_same (hO.below hb3).2).trans (hcl j hj))⟩ : Off1 H4 w4 gl ∧ ∀ j, j < 3 → w4.cell? ⟨gl, j, none⟩ = some (ptr (P j))))
      clear hC hb1 hb2 hO hcl hby hi hi80 HL0 HBD
      by_cases hk1 : kk = 1
      · subst hk1
        have HWR := hidC (fun W3 (hb3 : Below wr.heap.size wr W3) => cs_write hD hZ (HC.out.next hD hb3) kd ki (HBY.out.below (HC.out.next hD hb3).below (Nat.le_refl _)).at_ HBY.out.nil HBY.out.byt (by have := HB.out.1; have := HI.out.2; omega))
        generalize cwErr S0 kd ki kL = z at *
        go_wp2_with (first
          | ((with_reducible refine at_dstC 43 rfl ?_)
             (refine wpList_is (some 43) (.pointer (some ⟨xs, os + i * 4, none⟩)) rfl (by rfl) (run_at_opC _ _ rfl xs os i len cap rfl rfl hil _) ?_))
          | ((with_reducible refine at_dstC 44 rfl ?_)
             (refine wpList_is (some 44) (.agg #[.int .i64 1, .int .i64 kd, .int .i64 ki, .slice ka kL kC]) rfl (by rfl) (HLO.out _ _ _ rfl rfl) ?_))
          | (refine wpList_copyC wr 41 _ #[.int .i64 1, .int .i64 kd, .int .i64 ki, .slice ka kL kC] rfl _ _ rfl rfl rfl Try.sizeOpC rfl (by simp [Value.oneCell']) ?_; intro W3 hH3 hb3; have d0 := hH3.cell 0; have d1 := hH3.cell 1; have d2 := hH3.cell 2; have d3 := hH3.cell 3; simp only [List.getElem?_toArray, List.getElem?_cons_zero, List.getElem?_cons_succ] at d0 d1 d2 d3)
          | ((go_at_call 10)
             (refine (HWR.out W3 hb3).mono ?_)
             (rintro e W4 ⟨rfl, ho4, H4, hg4, hC4⟩)
             (have hL4 : Sst D w W4 cb P gl (i + 1) := ⟨_, L, H4, hC4, put_fits HB.out.1, Nat.le_succ_of_le HB.out.2, (HST.out W3 hb3 W4 H4 ho4 hg4).1, (HST.out W3 hb3 W4 H4 ho4 hg4).2⟩)))
        go_roundw
        case rel => exact ⟨i + 1, HI.out.1, HI.out.2, by go_num, hL4⟩
        case measure => have := HI.out.1; simp [intOf]; omega
      by_cases hk3 : kk = 3
      · subst hk3
        have HKP := hidC (fun W3 (hb3 : Below wr.heap.size wr W3) => cs_keep hD (HC.out.next hD hb3) (by have := HB.out.2; have := HI.out.2; omega))
        go_wp2_with (first
          | ((with_reducible refine at_dstC 43 rfl ?_)
             (refine wpList_is (some 43) (.pointer (some ⟨xs, os + i * 4, none⟩)) rfl (by rfl) (run_at_opC _ _ rfl xs os i len cap rfl rfl hil _) ?_))
          | ((with_reducible refine at_dstC 44 rfl ?_)
             (refine wpList_is (some 44) (.agg #[.int .i64 3, .int .i64 kd, .int .i64 ki, .slice ka kL kC]) rfl (by rfl) (HLO.out _ _ _ rfl rfl) ?_))
          | (refine wpList_copyC wr 41 _ #[.int .i64 3, .int .i64 kd, .int .i64 ki, .slice ka kL kC] rfl _ _ rfl rfl rfl Try.sizeOpC rfl (by simp [Value.oneCell']) ?_; intro W3 hH3 hb3; have d0 := hH3.cell 0; have d1 := hH3.cell 1; have d2 := hH3.cell 2; have d3 := hH3.cell 3; simp only [List.getElem?_toArray, List.getElem?_cons_zero, List.getElem?_cons_succ] at d0 d1 d2 d3)
          | ((go_at_call 15)
             (refine (HKP.out W3 hb3).mono ?_)
             (rintro e W4 ⟨rfl, ho4, H4, hg4, hC4⟩)
             (have hL4 : Sst D w W4 cb P gl (i + 1) := ⟨[], _, H4, hC4, (keep_fits HB.out.1 HB.out.2).1, (keep_fits HB.out.1 HB.out.2).2, (HST.out W3 hb3 W4 H4 ho4 hg4).1, (HST.out W3 hb3 W4 H4 ho4 hg4).2⟩)))
        go_roundw
        case rel => exact ⟨i + 1, HI.out.1, HI.out.2, by go_num, hL4⟩
        case measure => have := HI.out.1; simp [intOf]; omega
      by_cases hk4 : kk = 4
      · subst hk4
        have HBK := hidC (fun W3 (hb3 : Below wr.heap.size wr W3) => cs_back hD (HC.out.next hD hb3))
        go_wp2_with (first
          | ((with_reducible refine at_dstC 43 rfl ?_)
             (refine wpList_is (some 43) (.pointer (some ⟨xs, os + i * 4, none⟩)) rfl (by rfl) (run_at_opC _ _ rfl xs os i len cap rfl rfl hil _) ?_))
          | ((with_reducible refine at_dstC 44 rfl ?_)
             (refine wpList_is (some 44) (.agg #[.int .i64 4, .int .i64 kd, .int .i64 ki, .slice ka kL kC]) rfl (by rfl) (HLO.out _ _ _ rfl rfl) ?_))
          | (refine wpList_copyC wr 41 _ #[.int .i64 4, .int .i64 kd, .int .i64 ki, .slice ka kL kC] rfl _ _ rfl rfl rfl Try.sizeOpC rfl (by simp [Value.oneCell']) ?_; intro W3 hH3 hb3; have d0 := hH3.cell 0; have d1 := hH3.cell 1; have d2 := hH3.cell 2; have d3 := hH3.cell 3; simp only [List.getElem?_toArray, List.getElem?_cons_zero, List.getElem?_cons_succ] at d0 d1 d2 d3)
          | ((go_at_call 17)
             (refine (HBK.out W3 hb3).mono ?_)
             (rintro e W4 ⟨rfl, ho4, H4, hg4, hC4⟩)
             (have hL4 : Sst D w W4 cb P gl (i + 1) := ⟨[], L, H4, hC4, by have := HB.out.1; simp only [List.length_nil]; omega, Nat.le_succ_of_le HB.out.2, (HST.out W3 hb3 W4 H4 ho4 hg4).1, (HST.out W3 hb3 W4 H4 ho4 hg4).2⟩)))
        go_roundw
        case rel => exact ⟨i + 1, HI.out.1, HI.out.2, by go_num, hL4⟩
        case measure => have := HI.out.1; simp [intOf]; omega
      go_wp2_with (first
        | ((with_reducible refine at_dstC 43 rfl ?_)
           (refine wpList_is (some 43) (.pointer (some ⟨xs, os + i * 4, none⟩)) rfl (by rfl) (run_at_opC _ _ rfl xs os i len cap rfl rfl hil _) ?_))
        | ((with_reducible refine at_dstC 44 rfl ?_)
           (refine wpList_is (some 44) (.agg #[.int .i64 kk, .int .i64 kd, .int .i64 ki, .slice ka kL kC]) rfl (by rfl) (HLO.out _ _ _ rfl rfl) ?_))
        | (refine wpList_copyC wr 41 _ #[.int .i64 kk, .int .i64 kd, .int .i64 ki, .slice ka kL kC] rfl _ _ rfl rfl rfl Try.sizeOpC rfl (by simp [Value.oneCell']) ?_; intro W3 hH3 hb3; have d0 := hH3.cell 0; have d1 := hH3.cell 1; have d2 := hH3.cell 2; have d3 := hH3.cell 3; simp only [List.getElem?_toArray, List.getElem?_cons_zero, List.getElem?_cons_succ] at d0 d1 d2 d3))
      go_roundw
      case rel => exact ⟨i + 1, HI.out.1, HI.out.2, by go_num, HL3.out W3 hb3⟩
      case measure => have := HI.out.1; simp [intOf]; omega
    · by_cases hil2 : i < len
      · have i0 : (i : Int) < (len : Int) := by omega
        have i2 : ¬ (i : Int) < 80 := by omega
        obtain ⟨l, L, H, hC, hb1, hb2, hO, hcl⟩ := hL
        have HC := hidC hC
        have HB := hidC (And.intro hb1 hb2)
        have HO := hidC hO
        have HGL := hidC hO.2
        have HCL4 := hidC hcl
        have hbD : Below wr.heap.size wr wr.drew := ⟨rfl, rfl, rfl, Nat.le_refl _, fun _ _ => rfl⟩
        have HWS := hidC (show ∀ W, Below wr.heap.size wr W → ∀ j, j < 3 → Calls Try.prog 38 #[ptr (P j)] W fun e w' => e = .returned (.int .i64 0) ∧ Below W.heap.size W w' from fun W hb j hj => cs_writes hD (hC.next hD hb) hj (Nat.zero_le _))
        clear hC hb1 hb2 hO hcl HL0 HBD
        go_wp2
        refine wp_region_held_drew (S := fun wz => ∀ j, j < 3 → wz.cell? ⟨gl, j, none⟩ = some (ptr (P j))) (by kernel_rfl) HCL4.out (fun hHeld => ?_)
        refine takeTo 0 (some 65) (.slice (some ⟨gl, 0, none⟩) 3 cl) rfl rfl (by kernel_rfl) (by kernel_rfl) (by kernel_rfl) (fun _ _ _ h => h) (by rfl) (fun _ _ => rfl) hHeld ?_
        simp only [Act.put, List.setIfInBounds_toArray, List.set_cons_zero, List.set_cons_succ]
        refine takeTo 1 (some 66) (.pointer (some ⟨gl, 0, none⟩)) rfl rfl (by kernel_rfl) (by kernel_rfl) (by kernel_rfl) (fun _ _ _ h => h) (by rfl) (fun wz _ => run_at_pd _ _ rfl gl 0 3 cl rfl rfl (by decide) wz) hHeld ?_
        simp only [Act.put, List.setIfInBounds_toArray, List.set_cons_zero, List.set_cons_succ]
        refine takeTo 2 (some 67) (ptr (P 0)) rfl rfl (by kernel_rfl) (by kernel_rfl) (by kernel_rfl) (fun _ _ _ h => h) (by rfl) (fun wz hz => run_load_pdC _ rfl _ rfl _ _ (hz 0 (by decide))) hHeld ?_
        simp only [Act.put, List.setIfInBounds_toArray, List.set_cons_zero, List.set_cons_succ]
        refine takeTo 4 (some 69) (.slice (some ⟨gl, 0, none⟩) 3 cl) rfl rfl (by kernel_rfl) (by kernel_rfl) (by kernel_rfl) (fun _ _ _ h => h) (by rfl) (fun _ _ => rfl) hHeld ?_
        simp only [Act.put, List.setIfInBounds_toArray, List.set_cons_zero, List.set_cons_succ]
        refine takeTo 5 (some 70) (.pointer (some ⟨gl, 1, none⟩)) rfl rfl (by kernel_rfl) (by kernel_rfl) (by kernel_rfl) (fun _ _ _ h => h) (by rfl) (fun wz _ => run_at_pd _ _ rfl gl 1 3 cl rfl rfl (by decide) wz) hHeld ?_
        simp only [Act.put, List.setIfInBounds_toArray, List.set_cons_zero, List.set_cons_succ]
        refine takeTo 6 (some 71) (ptr (P 1)) rfl rfl (by kernel_rfl) (by kernel_rfl) (by kernel_rfl) (fun _ _ _ h => h) (by rfl) (fun wz hz => run_load_pdC _ rfl _ rfl _ _ (hz 1 (by decide))) hHeld ?_
        simp only [Act.put, List.setIfInBounds_toArray, List.set_cons_zero, List.set_cons_succ]
        refine takeTo 9 (some 74) (.slice (some ⟨gl, 0, none⟩) 3 cl) rfl rfl (by kernel_rfl) (by kernel_rfl) (by kernel_rfl) (fun _ _ _ h => h) (by rfl) (fun _ _ => rfl) hHeld ?_
        simp only [Act.put, List.setIfInBounds_toArray, List.set_cons_zero, List.set_cons_succ]
        refine takeTo 10 (some 75) (.pointer (some ⟨gl, 2, none⟩)) rfl rfl (by kernel_rfl) (by kernel_rfl) (by kernel_rfl) (fun _ _ _ h => h) (by rfl) (fun wz _ => run_at_pd _ _ rfl gl 2 3 cl rfl rfl (by decide) wz) hHeld ?_
        simp only [Act.put, List.setIfInBounds_toArray, List.set_cons_zero, List.set_cons_succ]
        refine takeTo 11 (some 76) (ptr (P 2)) rfl rfl (by kernel_rfl) (by kernel_rfl) (by kernel_rfl) (fun _ _ _ h => h) (by rfl) (fun wz hz => run_load_pdC _ rfl _ rfl _ _ (hz 2 (by decide))) hHeld ?_
        simp only [Act.put, List.setIfInBounds_toArray, List.set_cons_zero, List.set_cons_succ]
        refine callTo 3 (some 68) 38 #[ptr (P 0)] (by kernel_rfl) rfl rfl (by rfl) (by kernel_rfl) (HWS.out wr.drew hbD 0 (by decide)) ?_
        rintro e wa ⟨rfl, hbwa⟩
        have hBwa : Below wr.heap.size wr wa := hbD.trans (hbwa.mono hbD.size)
        have hHwa : ∀ j, j < 3 → (wa).cell? ⟨gl, j, none⟩ = some (ptr (P j)) := fun j hj => (hBwa.cell (p := ⟨gl, j, none⟩) HGL.out).trans (HCL4.out j hj)
        refine ⟨_, rfl, hHwa, ?_⟩
        simp only [Act.put, List.setIfInBounds_toArray, List.set_cons_zero, List.set_cons_succ]
        refine callTo 7 (some 72) 38 #[ptr (P 1)] (by kernel_rfl) rfl rfl (by rfl) (by kernel_rfl) (HWS.out wa hBwa 1 (by decide)) ?_
        rintro e wb ⟨rfl, hbwb⟩
        have hBwb : Below wr.heap.size wr wb := hBwa.trans (hbwb.mono hBwa.size)
        have hHwb : ∀ j, j < 3 → (wb).cell? ⟨gl, j, none⟩ = some (ptr (P j)) := fun j hj => (hBwb.cell (p := ⟨gl, j, none⟩) HGL.out).trans (HCL4.out j hj)
        refine ⟨_, rfl, hHwb, ?_⟩
        simp only [Act.put, List.setIfInBounds_toArray, List.set_cons_zero, List.set_cons_succ]
        refine takeTo 8 (some 73) (.int .i64 0) rfl rfl (by kernel_rfl) (by kernel_rfl) (by kernel_rfl) (fun _ _ _ h => h) (by rfl) (fun wz _ => by unfold execOp; go_simp; rfl) hHwb ?_
        simp only [Act.put, List.setIfInBounds_toArray, List.set_cons_zero, List.set_cons_succ]
        refine callTo 12 (some 77) 38 #[ptr (P 2)] (by kernel_rfl) rfl rfl (by rfl) (by kernel_rfl) (HWS.out wb hBwb 2 (by decide)) ?_
        rintro e wc ⟨rfl, hbwc⟩
        have hBwc : Below wr.heap.size wr wc := hBwb.trans (hbwc.mono hBwb.size)
        have hHwc : ∀ j, j < 3 → (wc).cell? ⟨gl, j, none⟩ = some (ptr (P j)) := fun j hj => (hBwc.cell (p := ⟨gl, j, none⟩) HGL.out).trans (HCL4.out j hj)
        refine ⟨_, rfl, hHwc, ?_⟩
        simp only [Act.put, List.setIfInBounds_toArray, List.set_cons_zero, List.set_cons_succ]
        refine takeTo 13 (some 78) (.int .i64 0) rfl rfl (by kernel_rfl) (by kernel_rfl) (by kernel_rfl) (fun _ _ _ h => h) (by rfl) (fun wz _ => by unfold execOp; go_simp; rfl) hHwc ?_
        simp only [Act.put, List.setIfInBounds_toArray, List.set_cons_zero, List.set_cons_succ]
        refine takeTo 14 (some 79) (.bool false) rfl rfl (by kernel_rfl) (by kernel_rfl) (by kernel_rfl) (fun _ _ _ h => h) (by rfl) (fun wz _ => by unfold execOp; go_simp) hHwc ?_
        simp only [Act.put, List.setIfInBounds_toArray, List.set_cons_zero, List.set_cons_succ]
        refine wpAnyH_done (by kernel_rfl) ?_ _
        clear hHeld hHwa hHwb
        have HBK := hidC (cs_back hD (HC.out.next hD hBwc))
        have HST := hidC (fun w4 H4 (ho4 : Only H wc w4) (hg4 : Grew wc H H4) => (⟨((HO.out.below hBwc).1.step ho4 hg4).1, fun j hj => (cell_same ((HO.out.below hBwc).1.step ho4 hg4).2).trans (hHwc j hj)⟩ : Off1 H4 w4 gl ∧ ∀ j, j < 3 → w4.cell? ⟨gl, j, none⟩ = some (ptr (P j))))
        clear hHwc HCL4 HGL HWS
        go_wp2_with (first
          | ((go_at_call 17)
             (refine HBK.out.mono ?_)
             (rintro e W4 ⟨rfl, ho4, H4, hg4, hC4⟩)
             (obtain ⟨hO4, hcl4⟩ := HST.out W4 H4 ho4 hg4)
             (have HC4 := hidC hC4)
             (have HO4 := hidC (And.intro hO4 hcl4))
             (clear hO4 hcl4 ho4 hg4 hC4 HBK HST HC HO))
          | ((with_reducible refine at_dstC 7 rfl ?_)
             (obtain ⟨W5, hW5⟩ : ∃ W5, W5 = W4.alloc (.cells (c18 fun _ => .slice none 0 0) 60) := ⟨_, rfl⟩)
             (refine wpList_is_w (some 7) (.pointer (some ⟨W4.heap.size, 0, none⟩)) W5 rfl (by rfl) (by rw [hW5]; exact run_alloc18 rfl _) ?_)
             (have HW5 := hidC hW5)
             (clear hW5)))
        obtain ⟨r, hr⟩ : ∃ r, r = W4.heap.size := ⟨_, rfl⟩
        rw [← hr]
        have HF0 := hidC (show Fst D w W5 cb P gl r L H4 0 from by
          have hb5 : Below W4.heap.size W4 W5 := by rw [HW5.out]; exact (Below.refl _ _).alloc (Nat.le_refl _) _
          have h5 : Has W5 r 60 (c18 fun _ => .slice none 0 0) := by rw [HW5.out, hr]; exact Has.new W4 _ _
          refine ⟨_, HC4.out.next hD hb5, RowB.nils h5 (fun e => absurd (HC4.out.lt hD _ e) (by omega)), (HO4.out.1.below hb5).1, (fun j hj => (cell_same (HO4.out.1.below hb5).2).trans (HO4.out.2 j hj)), by have := HC4.out.sz; omega, by have := HO4.out.1.2; omega⟩)
        clear HC4 HO4 HW5 hr
        go_loopw [8] (fun kv wr => ∃ k : Nat, k ≤ 3 ∧ kv = .int .i64 (k : Nat) ∧ Fst D w wr cb P gl r L H4 (k * 6))
          (fun kv _ => 3 - (intOf kv).toNat)
        case atStart => exact ⟨0, by omega, rfl, by rw [Nat.zero_mul]; exact HF0.out⟩
        case round =>
          obtain ⟨k, hk, rfl, hF⟩ := hrel
          by_cases hk3 : k < 3
          · have k0 : (k : Int) < 3 := by omega
            have k1 : (0 : Int) ≤ (k : Int) := by omega
            have HFI := hidC hF
            have HK3 := hidC hk3
            clear hF
            go_wp2
            go_loopw [9] (fun jv wr => ∃ j : Nat, j ≤ 6 ∧ jv = .int .i64 (j : Nat) ∧ Fst D w wr cb P gl r L H4 (k * 6 + j))
              (fun jv _ => 6 - (intOf jv).toNat)
            case atStart => exact ⟨0, by omega, rfl, HFI.out⟩
            case round =>
              obtain ⟨j, hj, rfl, hF⟩ := hrel
              by_cases hj6 : j < 6
              · have j0 : (j : Int) < 6 := by omega
                have j1 : (0 : Int) ≤ (j : Int) := by omega
                have HJ6 := hidC hj6
                have HRD := hidC (fst_read hD hZ hF hk3 hj6 (by have := HB.out.2; omega))
                have HF := hidC hF
                clear hF
                go_wp2_with (first
                  | ((go_at_call 12)
                     (refine HRD.out.mono ?_)
                     (rintro e W8 ⟨hb8, g5, o5, c5, rfl, hput⟩)
                     (obtain ⟨U8, hc8, hf8, hput⟩ := hput)
                     (generalize U8 = u8 at *)
                     (have HPT := hidC hput)
                     (clear hput))
                  | ((with_reducible refine at_dstC 102 rfl ?_)
                     (refine wpList_is (some 102) (.pointer (some ⟨r, k * 6, none⟩)) rfl (by rfl) (run_at_18 _ _ rfl r k rfl rfl hk3 _) ?_))
                  | ((with_reducible refine at_dstC 103 rfl ?_)
                     (refine wpList_is (some 103) (.pointer (some ⟨r, k * 6 + j, none⟩)) rfl (by rfl) (run_at_6 _ _ rfl r (k * 6) j rfl rfl hj6 _) ?_)))
                go_roundw
                case rel => exact ⟨j + 1, by have := HJ6.out; omega, by go_num, HPT.out⟩
                case measure => have := HJ6.out; simp [intOf]; omega
              · obtain rfl : j = 6 := by omega
                have HKX := hidC (show Fst D w wr cb P gl r L H4 ((k + 1) * 6) by rw [Nat.succ_mul]; exact hF)
                clear hF
                go_wp2
                go_roundw
                case rel => exact ⟨k + 1, HK3.out, by go_num, HKX.out⟩
                case measure => have := HK3.out; simp [intOf]; omega
          · obtain rfl : k = 3 := by omega
            obtain ⟨U, hC3, hR3, hO3, hc3, hwr3, hgr3⟩ := hF
            have HCN := hidC (cs_count hD hC3 (by have := HB.out.2; omega) (by have := HB.out.1; omega))
            have HAPP := hidC (fun W (hb : Below wr.heap.size wr W) => cs_apply hD (hC3.next hD hb) (fun i _ => ⟨Nat.zero_le _, Nat.zero_le _⟩) (by have := HB.out.2; omega) (by have := HB.out.1; omega))
            have HOK := hidC (fun r hr => hC3.flat2 r hr)
            have HSTE := hidC (fun W (hb : Below wr.heap.size wr W) w4 H5 (ho4 : Only H4 W w4) (hg4 : Grew W H4 H5) (hC5 : CS D w.heap.size w w4 cb P (apD S0 M0 L) (apM S0 M0 L) [] [] H5) => (⟨U, hC5, ((hR3.below hb).step ho4 hg4).congr (fun d s hd hs => sn_end L hd hs), ((hO3.below hb).1.step ho4 hg4).1, fun j hj => (cell_same ((hO3.below hb).1.step ho4 hg4).2).trans ((cell_same (hO3.below hb).2).trans (hc3 j hj)), hwr3, hgr3⟩ : Gst D w w4 cb P gl r L H5))
            have HFL := hidC hC3.flat2
            have HUN := hidC hC3.uni
            have HSL := hidC (fun d s q => sn_lt hC3.byt d s q)
            obtain ⟨NF, hNF⟩ : ∃ NF, NF = L.flatten.length := ⟨_, rfl⟩
            have HNF := hidC hNF
            rw [← hNF] at HCN
            clear hNF
            clear hC3 hR3 hO3 hc3 hwr3 hgr3 HF0
            go_wp2_with (first
              | ((go_at_call 32)
                 (refine HCN.out.mono ?_)
                 (rintro e W6 ⟨rfl, hb6⟩))
              | ((go_at_call 19)
                 (refine (HAPP.out W6 hb6).mono ?_)
                 (rintro e W7 ⟨rfl, ho7, H7, hg7, hC7⟩)
                 (have HG7 := hidC (HSTE.out W6 hb6 W7 H7 ho7 hg7 hC7))
                 (clear ho7 hg7 hC7 HAPP HSTE HCN hb6)))
            obtain ⟨U7, hC7, hR7, hO7, hc7, hwr7, hgr7⟩ := HG7.out
            have hbD7 : Below W7.heap.size W7 W7.drew := ⟨rfl, rfl, rfl, Nat.le_refl _, fun _ _ => rfl⟩
            obtain ⟨n0, hn0⟩ : ∃ n, n = wrs (apD S0 M0 L 0).log := ⟨_, rfl⟩
            obtain ⟨n1, hn1⟩ : ∃ n, n = wrs (apD S0 M0 L 1).log := ⟨_, rfl⟩
            obtain ⟨n2, hn2⟩ : ∃ n, n = wrs (apD S0 M0 L 2).log := ⟨_, rfl⟩
            obtain ⟨n01, hn01⟩ : ∃ n, n = n0 + n1 := ⟨_, rfl⟩
            have hlg : ∀ j, (apD S0 M0 L j).log.length ≤ 100000 := fun j => by have h := apD_len S0 M0 L j; have h0 : (S0 j).log.length = 0 := rfl; have := HB.out.1; omega
            have HNN := hidC (show n01 = n0 + n1 ∧ NF = n01 + n2 ∧ NF ≤ 80 from ⟨hn01, by have h := apD_tot (S := S0) (M := M0) (L := L) (fun _ => wl_fresh) HFL.out; have h0 : tot S0 = 0 := rfl; unfold tot at h h0; rw [← hn0, ← hn1, ← hn2] at h; have := HNF.out; omega, by have := HNF.out; have := HB.out.1; omega⟩)
            have HW0 := hidC (show ∀ W, Below W7.heap.size W7 W → Calls Try.prog 38 #[ptr (P 0)] W fun e w' => e = .returned (.int .i64 (n0 : Nat)) ∧ Below W.heap.size W w' from fun W hb => by rw [hn0]; exact cs_writes hD (hC7.next hD hb) (by decide) (hlg 0))
            have HW1 := hidC (show ∀ W, Below W7.heap.size W7 W → Calls Try.prog 38 #[ptr (P 1)] W fun e w' => e = .returned (.int .i64 (n1 : Nat)) ∧ Below W.heap.size W w' from fun W hb => by rw [hn1]; exact cs_writes hD (hC7.next hD hb) (by decide) (hlg 1))
            have HW2 := hidC (show ∀ W, Below W7.heap.size W7 W → Calls Try.prog 38 #[ptr (P 2)] W fun e w' => e = .returned (.int .i64 (n2 : Nat)) ∧ Below W.heap.size W w' from fun W hb => by rw [hn2]; exact cs_writes hD (hC7.next hD hb) (by decide) (hlg 2))
            have HCT := hidC (show ∀ W, Below W7.heap.size W7 W → Calls Try.prog 32 #[ptr cb] W fun e w' => e = .returned (.int .i64 0) ∧ Below W.heap.size W w' from fun W hb => cs_count hD (hC7.next hD hb) (Nat.zero_le _) (Nat.zero_le _))
            have HGS := hidC (fun W (hb : Below W7.heap.size W7 W) => cs_none (hC7.next hD hb))
            have HCL7 := hidC hc7
            have HGL7 := hidC hO7.2
            clear hC7 hR7 hO7 hc7 hwr7 hgr7 hn0 hn1 hn2 hn01 hlg
            refine wp_region_held_drew (S := fun wz => ∀ j, j < 3 → wz.cell? ⟨gl, j, none⟩ = some (ptr (P j))) (by kernel_rfl) HCL7.out (fun hHeld => ?_)
            refine takeTo 0 (some 108) (.slice (some ⟨gl, 0, none⟩) 3 cl) rfl rfl (by kernel_rfl) (by kernel_rfl) (by kernel_rfl) (fun _ _ _ h => h) (by rfl) (fun _ _ => rfl) hHeld ?_
            simp only [Act.put, List.setIfInBounds_toArray, List.set_cons_zero, List.set_cons_succ]
            refine takeTo 1 (some 109) (.pointer (some ⟨gl, 0, none⟩)) rfl rfl (by kernel_rfl) (by kernel_rfl) (by kernel_rfl) (fun _ _ _ h => h) (by rfl) (fun wz _ => run_at_pd _ _ rfl gl 0 3 cl rfl rfl (by decide) wz) hHeld ?_
            simp only [Act.put, List.setIfInBounds_toArray, List.set_cons_zero, List.set_cons_succ]
            refine takeTo 2 (some 110) (ptr (P 0)) rfl rfl (by kernel_rfl) (by kernel_rfl) (by kernel_rfl) (fun _ _ _ h => h) (by rfl) (fun wz hz => run_load_pdC _ rfl _ rfl _ _ (hz 0 (by decide))) hHeld ?_
            simp only [Act.put, List.setIfInBounds_toArray, List.set_cons_zero, List.set_cons_succ]
            refine takeTo 4 (some 112) (.slice (some ⟨gl, 0, none⟩) 3 cl) rfl rfl (by kernel_rfl) (by kernel_rfl) (by kernel_rfl) (fun _ _ _ h => h) (by rfl) (fun _ _ => rfl) hHeld ?_
            simp only [Act.put, List.setIfInBounds_toArray, List.set_cons_zero, List.set_cons_succ]
            refine takeTo 5 (some 113) (.pointer (some ⟨gl, 1, none⟩)) rfl rfl (by kernel_rfl) (by kernel_rfl) (by kernel_rfl) (fun _ _ _ h => h) (by rfl) (fun wz _ => run_at_pd _ _ rfl gl 1 3 cl rfl rfl (by decide) wz) hHeld ?_
            simp only [Act.put, List.setIfInBounds_toArray, List.set_cons_zero, List.set_cons_succ]
            refine takeTo 6 (some 114) (ptr (P 1)) rfl rfl (by kernel_rfl) (by kernel_rfl) (by kernel_rfl) (fun _ _ _ h => h) (by rfl) (fun wz hz => run_load_pdC _ rfl _ rfl _ _ (hz 1 (by decide))) hHeld ?_
            simp only [Act.put, List.setIfInBounds_toArray, List.set_cons_zero, List.set_cons_succ]
            refine takeTo 9 (some 117) (.slice (some ⟨gl, 0, none⟩) 3 cl) rfl rfl (by kernel_rfl) (by kernel_rfl) (by kernel_rfl) (fun _ _ _ h => h) (by rfl) (fun _ _ => rfl) hHeld ?_
            simp only [Act.put, List.setIfInBounds_toArray, List.set_cons_zero, List.set_cons_succ]
            refine takeTo 10 (some 118) (.pointer (some ⟨gl, 2, none⟩)) rfl rfl (by kernel_rfl) (by kernel_rfl) (by kernel_rfl) (fun _ _ _ h => h) (by rfl) (fun wz _ => run_at_pd _ _ rfl gl 2 3 cl rfl rfl (by decide) wz) hHeld ?_
            simp only [Act.put, List.setIfInBounds_toArray, List.set_cons_zero, List.set_cons_succ]
            refine takeTo 11 (some 119) (ptr (P 2)) rfl rfl (by kernel_rfl) (by kernel_rfl) (by kernel_rfl) (fun _ _ _ h => h) (by rfl) (fun wz hz => run_load_pdC _ rfl _ rfl _ _ (hz 2 (by decide))) hHeld ?_
            simp only [Act.put, List.setIfInBounds_toArray, List.set_cons_zero, List.set_cons_succ]
            refine takeTo 14 (some 122) (.int .i64 (NF : Nat)) rfl rfl (by kernel_rfl) (by kernel_rfl) (by kernel_rfl) (fun _ _ _ h => h) (by rfl) (fun _ _ => rfl) hHeld ?_
            simp only [Act.put, List.setIfInBounds_toArray, List.set_cons_zero, List.set_cons_succ]
            refine callTo 3 (some 111) 38 #[ptr (P 0)] (by kernel_rfl) rfl rfl (by rfl) (by kernel_rfl) (HW0.out W7.drew hbD7) ?_
            rintro e va ⟨rfl, hbva⟩
            have hBva : Below W7.heap.size W7 va := hbD7.trans (hbva.mono hbD7.size)
            have hHva : ∀ j, j < 3 → (va).cell? ⟨gl, j, none⟩ = some (ptr (P j)) := fun j hj => (hBva.cell (p := ⟨gl, j, none⟩) HGL7.out).trans (HCL7.out j hj)
            refine ⟨_, rfl, hHva, ?_⟩
            simp only [Act.put, List.setIfInBounds_toArray, List.set_cons_zero, List.set_cons_succ]
            refine callTo 7 (some 115) 38 #[ptr (P 1)] (by kernel_rfl) rfl rfl (by rfl) (by kernel_rfl) (HW1.out va hBva) ?_
            rintro e vb ⟨rfl, hbvb⟩
            have hBvb : Below W7.heap.size W7 vb := hBva.trans (hbvb.mono hBva.size)
            have hHvb : ∀ j, j < 3 → (vb).cell? ⟨gl, j, none⟩ = some (ptr (P j)) := fun j hj => (hBvb.cell (p := ⟨gl, j, none⟩) HGL7.out).trans (HCL7.out j hj)
            refine ⟨_, rfl, hHvb, ?_⟩
            simp only [Act.put, List.setIfInBounds_toArray, List.set_cons_zero, List.set_cons_succ]
            refine takeTo 8 (some 116) (.int .i64 (n01 : Nat)) rfl rfl (by kernel_rfl) (by kernel_rfl) (by kernel_rfl) (fun _ _ _ h => h) (by rfl) (fun wz _ => run_add2S _ _ rfl n0 n1 n01 rfl rfl HNN.out.1 (by have := HNN.out; omega) wz) hHvb ?_
            simp only [Act.put, List.setIfInBounds_toArray, List.set_cons_zero, List.set_cons_succ]
            refine callTo 12 (some 120) 38 #[ptr (P 2)] (by kernel_rfl) rfl rfl (by rfl) (by kernel_rfl) (HW2.out vb hBvb) ?_
            rintro e vc ⟨rfl, hbvc⟩
            have hBvc : Below W7.heap.size W7 vc := hBvb.trans (hbvc.mono hBvb.size)
            have hHvc : ∀ j, j < 3 → (vc).cell? ⟨gl, j, none⟩ = some (ptr (P j)) := fun j hj => (hBvc.cell (p := ⟨gl, j, none⟩) HGL7.out).trans (HCL7.out j hj)
            refine ⟨_, rfl, hHvc, ?_⟩
            simp only [Act.put, List.setIfInBounds_toArray, List.set_cons_zero, List.set_cons_succ]
            refine takeTo 13 (some 121) (.int .i64 (NF : Nat)) rfl rfl (by kernel_rfl) (by kernel_rfl) (by kernel_rfl) (fun _ _ _ h => h) (by rfl) (fun wz _ => run_add2S _ _ rfl n01 n2 NF rfl rfl HNN.out.2.1 (by have := HNN.out; omega) wz) hHvc ?_
            simp only [Act.put, List.setIfInBounds_toArray, List.set_cons_zero, List.set_cons_succ]
            refine takeTo 15 (some 123) (.bool false) rfl rfl (by kernel_rfl) (by kernel_rfl) (by kernel_rfl) (fun _ _ _ h => h) (by rfl) (fun wz _ => run_neqS _ _ rfl _ rfl rfl wz) hHvc ?_
            simp only [Act.put, List.setIfInBounds_toArray, List.set_cons_zero, List.set_cons_succ]
            refine takeTo 16 (some 124) (.bool false) rfl rfl (by kernel_rfl) (by kernel_rfl) (by kernel_rfl) (fun _ _ _ h => h) (by rfl) (fun _ _ => rfl) hHvc ?_
            simp only [Act.put, List.setIfInBounds_toArray, List.set_cons_zero, List.set_cons_succ]
            refine takeTo 17 (some 125) (ptr cb) rfl rfl (by kernel_rfl) (by kernel_rfl) (by kernel_rfl) (fun _ _ _ h => h) (by rfl) (fun _ _ => rfl) hHvc ?_
            simp only [Act.put, List.setIfInBounds_toArray, List.set_cons_zero, List.set_cons_succ]
            refine callTo 18 (some 126) 32 #[ptr cb] (by kernel_rfl) rfl rfl (by rfl) (by kernel_rfl) (HCT.out vc hBvc) ?_
            rintro e vd ⟨rfl, hbvd⟩
            have hBvd : Below W7.heap.size W7 vd := hBvc.trans (hbvd.mono hBvc.size)
            have hHvd : ∀ j, j < 3 → (vd).cell? ⟨gl, j, none⟩ = some (ptr (P j)) := fun j hj => (hBvd.cell (p := ⟨gl, j, none⟩) HGL7.out).trans (HCL7.out j hj)
            refine ⟨_, rfl, hHvd, ?_⟩
            simp only [Act.put, List.setIfInBounds_toArray, List.set_cons_zero, List.set_cons_succ]
            refine takeTo 19 (some 127) (.bool false) rfl rfl (by kernel_rfl) (by kernel_rfl) (by kernel_rfl) (fun _ _ _ h => h) (by rfl) (fun wz _ => run_neqS _ _ rfl _ rfl rfl wz) hHvd ?_
            simp only [Act.put, List.setIfInBounds_toArray, List.set_cons_zero, List.set_cons_succ]
            refine takeTo 20 (some 128) (.bool false) rfl rfl (by kernel_rfl) (by kernel_rfl) (by kernel_rfl) (fun _ _ _ h => h) (by rfl) (fun _ _ => rfl) hHvd ?_
            simp only [Act.put, List.setIfInBounds_toArray, List.set_cons_zero, List.set_cons_succ]
            refine takeTo 21 (some 129) (.bool false) rfl rfl (by kernel_rfl) (by kernel_rfl) (by kernel_rfl) (fun _ _ _ h => h) (by rfl) (fun _ _ => rfl) hHvd ?_
            simp only [Act.put, List.setIfInBounds_toArray, List.set_cons_zero, List.set_cons_succ]
            refine takeTo 22 (some 130) (ptr cb) rfl rfl (by kernel_rfl) (by kernel_rfl) (by kernel_rfl) (fun _ _ _ h => h) (by rfl) (fun _ _ => rfl) hHvd ?_
            simp only [Act.put, List.setIfInBounds_toArray, List.set_cons_zero, List.set_cons_succ]
            refine callTo 23 (some 131) 31 #[ptr cb] (by kernel_rfl) rfl rfl (by rfl) (by kernel_rfl) (HGS.out vd hBvd) ?_
            rintro e ve ⟨rfl, hbve⟩
            have hBve : Below W7.heap.size W7 ve := hBvd.trans (hbve.mono hBvd.size)
            have hHve : ∀ j, j < 3 → (ve).cell? ⟨gl, j, none⟩ = some (ptr (P j)) := fun j hj => (hBve.cell (p := ⟨gl, j, none⟩) HGL7.out).trans (HCL7.out j hj)
            refine ⟨_, rfl, hHve, ?_⟩
            simp only [Act.put, List.setIfInBounds_toArray, List.set_cons_zero, List.set_cons_succ]
            refine takeTo 24 (some 132) (.int .i64 0) rfl rfl (by kernel_rfl) (by kernel_rfl) (by kernel_rfl) (fun _ _ _ h => h) (by rfl) (fun wz _ => by unfold execOp; go_simp) hHve ?_
            simp only [Act.put, List.setIfInBounds_toArray, List.set_cons_zero, List.set_cons_succ]
            refine takeTo 25 (some 133) (.bool false) rfl rfl (by kernel_rfl) (by kernel_rfl) (by kernel_rfl) (fun _ _ _ h => h) (by rfl) (fun wz _ => run_neqS _ _ rfl _ rfl rfl wz) hHve ?_
            simp only [Act.put, List.setIfInBounds_toArray, List.set_cons_zero, List.set_cons_succ]
            refine takeTo 26 (some 134) (.bool false) rfl rfl (by kernel_rfl) (by kernel_rfl) (by kernel_rfl) (fun _ _ _ h => h) (by rfl) (fun _ _ => rfl) hHve ?_
            simp only [Act.put, List.setIfInBounds_toArray, List.set_cons_zero, List.set_cons_succ]
            refine wpAnyH_done (by kernel_rfl) ?_ _
            clear hHeld hHva hHvb hHvc hHvd
            have HG8 := hidC (Gst.next hD HG7.out hBve)
            clear HG7 HW0 HW1 HW2 HCT HGS HCL7 HGL7 hHve hBva hBvb hBvc hBvd hBve hbva hbvb hbvc hbvd hbve hbD7 HNN
            go_wp2
            go_loopw [13] (fun kv wr => ∃ k : Nat, k ≤ 3 ∧ kv = .int .i64 (k : Nat) ∧ Gst D w wr cb P gl r L H7)
              (fun kv _ => 3 - (intOf kv).toNat)
            case atStart => exact ⟨0, by omega, rfl, HG8.out⟩
            case round =>
              obtain ⟨k, hk, rfl, hG⟩ := hrel
              by_cases hk3 : k < 3
              · have k0 : (k : Int) < 3 := by omega
                have k1 : (0 : Int) ≤ (k : Int) := by omega
                have HGI := hidC hG
                have HK3 := hidC hk3
                clear hG
                go_wp2
                go_loopw [14] (fun jv wr => ∃ j : Nat, j ≤ 6 ∧ jv = .int .i64 (j : Nat) ∧ Gst D w wr cb P gl r L H7)
                  (fun jv _ => 6 - (intOf jv).toNat)
                case atStart => exact ⟨0, by omega, rfl, HGI.out⟩
                case round =>
                  obtain ⟨j, hj, rfl, hG⟩ := hrel
                  by_cases hj6 : j < 6
                  · have j0 : (j : Int) < 6 := by omega
                    have j1 : (0 : Int) ≤ (j : Int) := by omega
                    have HJ6 := hidC hj6
                    have HES := hidC hG
                    have HRC := hidC (gst_read hD hZ hG HFL.out HUN.out hk3 hj6)
                    have HRD := hidC (fun W (hb : Below wr.heap.size wr W) => gst_dread hD (hG.next hD hb) HFL.out HUN.out hk3 hj6)
                    obtain ⟨U9, hC9, hR9, hO9, hcl9, _, _⟩ := hG
                    have hc3 := hcl9 k hk3
                    have hgll := hO9.2
                    have hrl := hR9.has.lt
                    have hvc := hR9.cell hk3 hj6
                    obtain ⟨f6, g6, o6, c6, hf6, hu6, hB6, _⟩ := (hR9.at_ k j hk3 hj6).resolve_left (fun h => by cases h.1)
                    obtain rfl := Option.some.inj hf6
                    rw [hu6] at hvc
                    have HB6 := hidC hB6
                    have HSA := hidC (fun W g o c (h1 : Bytes W (some ⟨g, o, none⟩) 64 (sn L k j)) (h2 : Bytes W (some ⟨g6, o6, none⟩) 64 (sn L k j)) => show Calls Try.prog 14 #[.slice (some ⟨g, o, none⟩) 64 c, .slice (some ⟨g6, o6, none⟩) 64 c6] W fun e w' => e = .returned (.bool true) ∧ w' = W by
                      have h := same_any c c6 h1 h2 (HSL.out k j) (HSL.out k j) (fun e => by cases e) (fun e => by cases e)
                      rw [beq_self_eq_true] at h
                      exact h)
                    clear hC9 hR9 hO9 hcl9 hf6 hu6 hB6
                    generalize sn L k j = sq at *
                    go_wp2_with (first
                        | ((go_at_call 12)
                           (refine HRC.out.mono ?_)
                           (rintro e W5 ⟨hb5, g5, o5, c5, rfl, hB5⟩)
                           (have hc5 := (hb5.cell (p := ⟨gl, k, none⟩) hgll).trans hc3)
                           (have hvc5 := (hb5.cell (p := ⟨r, k * 6 + j, none⟩) hrl).trans hvc)
                           (have hrl5 := Nat.lt_of_lt_of_le hrl hb5.size)
                           (have HB5 := hidC hB5)
                           (clear hB5 hc3 hvc HRC))
                        | ((with_reducible refine at_dstC 153 rfl ?_)
                           (refine wpList_is (some 153) (.pointer (some ⟨gl, k, none⟩)) rfl (by rfl) (run_at_pd _ _ rfl gl k 3 cl rfl rfl hk3 _) ?_))
                        | ((with_reducible refine at_dstC 154 rfl ?_)
                           (refine wpList_is (some 154) (ptr (P k)) rfl (by rfl) (run_load_pdC _ rfl _ rfl _ _ hc5) ?_))
                        | ((go_at_call 34)
                           (refine (HRD.out W5 hb5).mono ?_)
                           (rintro e W6 ⟨hb6, g7, o7, c7, rfl, hB7⟩)
                           (have hvc6 := (hb6.cell (p := ⟨r, k * 6 + j, none⟩) hrl5).trans hvc5)
                           (have HS1 := hidC (HSA.out W6 g5 o5 c5 (HB5.out.below hb6 (Nat.le_refl _)) (HB6.out.below (hb5.trans (hb6.mono hb5.size)) (Nat.le_refl _))))
                           (have HS2 := hidC (HSA.out W6 g7 o7 c7 hB7 (HB6.out.below (hb5.trans (hb6.mono hb5.size)) (Nat.le_refl _))))
                           (have HE7 := hidC (Gst.next hD HES.out (hb5.trans (hb6.mono hb5.size))))
                           (clear hB7 hvc5 hc5 HRD HSA))
                        | ((with_reducible refine at_dstC 162 rfl ?_)
                           (refine wpList_is (some 162) (.pointer (some ⟨r, k * 6, none⟩)) rfl (by rfl) (run_at_18 _ _ rfl r k rfl rfl hk3 _) ?_))
                        | ((with_reducible refine at_dstC 163 rfl ?_)
                           (refine wpList_is (some 163) (.pointer (some ⟨r, k * 6 + j, none⟩)) rfl (by rfl) (run_at_6 _ _ rfl r (k * 6) j rfl rfl hj6 _) ?_))
                        | ((with_reducible refine at_dstC 164 rfl ?_)
                           (refine wpList_is (some 164) (.slice (some ⟨g6, o6, none⟩) 64 c6) rfl (by rfl) (run_load_byC _ rfl _ rfl _ _ hvc6) ?_))
                        | ((with_reducible refine at_dstC 169 rfl ?_)
                           (refine wpList_is (some 169) (.pointer (some ⟨r, k * 6, none⟩)) rfl (by rfl) (run_at_18 _ _ rfl r k rfl rfl hk3 _) ?_))
                        | ((with_reducible refine at_dstC 170 rfl ?_)
                           (refine wpList_is (some 170) (.pointer (some ⟨r, k * 6 + j, none⟩)) rfl (by rfl) (run_at_6 _ _ rfl r (k * 6) j rfl rfl hj6 _) ?_))
                        | ((with_reducible refine at_dstC 171 rfl ?_)
                           (refine wpList_is (some 171) (.slice (some ⟨g6, o6, none⟩) 64 c6) rfl (by rfl) (run_load_byC _ rfl _ rfl _ _ hvc6) ?_))
                        | ((go_at_call 14)
                           (first | refine HS1.out.mono ?_ | refine HS2.out.mono ?_)
                           (rintro e W7 ⟨rfl, hW7⟩)
                           (obtain rfl : W6 = W7 := hW7.symm)))
                    go_roundw
                    case rel => exact ⟨j + 1, by have := HJ6.out; omega, by go_num, HE7.out⟩
                    case measure => have := HJ6.out; simp [intOf]; omega
                  · obtain rfl : j = 6 := by omega
                    have HE6 := hidC hG
                    obtain ⟨U9, hC9, hR9, hO9, hcl9, _, _⟩ := hG
                    have hc3 := hcl9 k hk3
                    have HPN := hidC (cs_pending hD hC9 hk3 (by have h := apD_len S0 M0 L k; have h0 : (S0 k).log.length = 0 := rfl; have := HB.out.1; omega))
                    rw [apD_pend (S := S0) (M := M0) (L := L) (fun _ => wl_fresh) (fun r hr => (HFL.out r hr).2) hk3] at HPN
                    clear hC9 hR9 hO9 hcl9
                    go_wp2_with (first
                        | ((with_reducible refine at_dstC 189 rfl ?_)
                           (refine wpList_is (some 189) (.pointer (some ⟨gl, k, none⟩)) rfl (by rfl) (run_at_pd _ _ rfl gl k 3 cl rfl rfl hk3 _) ?_))
                        | ((with_reducible refine at_dstC 190 rfl ?_)
                           (refine wpList_is (some 190) (ptr (P k)) rfl (by rfl) (run_load_pdC _ rfl _ rfl _ _ hc3) ?_))
                        | ((go_at_call 36)
                           (refine HPN.out.mono ?_)
                           (rintro e W5 ⟨rfl, hb5⟩)
                           (have HE7 := hidC (Gst.next hD HE6.out hb5))))
                    go_roundw
                    case rel => exact ⟨k + 1, HK3.out, by go_num, HE7.out⟩
                    case measure => have := HK3.out; simp [intOf]; omega
              · obtain rfl : k = 3 := by omega
                obtain ⟨U9, hC9, _⟩ := hG
                have HBB := hidC hC9.below
                clear hC9
                go_wp2
                go_ret
                exact ⟨rfl, HBB.out⟩
      · have i0 : ¬ (i : Int) < (len : Int) := by omega
        obtain ⟨l, L, H, hC, hb1, hb2, hO, hcl⟩ := hL
        have HC := hidC hC
        have HB := hidC (And.intro hb1 hb2)
        have HO := hidC hO
        have HGL := hidC hO.2
        have HCL4 := hidC hcl
        have hbD : Below wr.heap.size wr wr.drew := ⟨rfl, rfl, rfl, Nat.le_refl _, fun _ _ => rfl⟩
        have HWS := hidC (show ∀ W, Below wr.heap.size wr W → ∀ j, j < 3 → Calls Try.prog 38 #[ptr (P j)] W fun e w' => e = .returned (.int .i64 0) ∧ Below W.heap.size W w' from fun W hb j hj => cs_writes hD (hC.next hD hb) hj (Nat.zero_le _))
        clear hC hb1 hb2 hO hcl HL0 HBD
        go_wp2
        refine wp_region_held_drew (S := fun wz => ∀ j, j < 3 → wz.cell? ⟨gl, j, none⟩ = some (ptr (P j))) (by kernel_rfl) HCL4.out (fun hHeld => ?_)
        refine takeTo 0 (some 65) (.slice (some ⟨gl, 0, none⟩) 3 cl) rfl rfl (by kernel_rfl) (by kernel_rfl) (by kernel_rfl) (fun _ _ _ h => h) (by rfl) (fun _ _ => rfl) hHeld ?_
        simp only [Act.put, List.setIfInBounds_toArray, List.set_cons_zero, List.set_cons_succ]
        refine takeTo 1 (some 66) (.pointer (some ⟨gl, 0, none⟩)) rfl rfl (by kernel_rfl) (by kernel_rfl) (by kernel_rfl) (fun _ _ _ h => h) (by rfl) (fun wz _ => run_at_pd _ _ rfl gl 0 3 cl rfl rfl (by decide) wz) hHeld ?_
        simp only [Act.put, List.setIfInBounds_toArray, List.set_cons_zero, List.set_cons_succ]
        refine takeTo 2 (some 67) (ptr (P 0)) rfl rfl (by kernel_rfl) (by kernel_rfl) (by kernel_rfl) (fun _ _ _ h => h) (by rfl) (fun wz hz => run_load_pdC _ rfl _ rfl _ _ (hz 0 (by decide))) hHeld ?_
        simp only [Act.put, List.setIfInBounds_toArray, List.set_cons_zero, List.set_cons_succ]
        refine takeTo 4 (some 69) (.slice (some ⟨gl, 0, none⟩) 3 cl) rfl rfl (by kernel_rfl) (by kernel_rfl) (by kernel_rfl) (fun _ _ _ h => h) (by rfl) (fun _ _ => rfl) hHeld ?_
        simp only [Act.put, List.setIfInBounds_toArray, List.set_cons_zero, List.set_cons_succ]
        refine takeTo 5 (some 70) (.pointer (some ⟨gl, 1, none⟩)) rfl rfl (by kernel_rfl) (by kernel_rfl) (by kernel_rfl) (fun _ _ _ h => h) (by rfl) (fun wz _ => run_at_pd _ _ rfl gl 1 3 cl rfl rfl (by decide) wz) hHeld ?_
        simp only [Act.put, List.setIfInBounds_toArray, List.set_cons_zero, List.set_cons_succ]
        refine takeTo 6 (some 71) (ptr (P 1)) rfl rfl (by kernel_rfl) (by kernel_rfl) (by kernel_rfl) (fun _ _ _ h => h) (by rfl) (fun wz hz => run_load_pdC _ rfl _ rfl _ _ (hz 1 (by decide))) hHeld ?_
        simp only [Act.put, List.setIfInBounds_toArray, List.set_cons_zero, List.set_cons_succ]
        refine takeTo 9 (some 74) (.slice (some ⟨gl, 0, none⟩) 3 cl) rfl rfl (by kernel_rfl) (by kernel_rfl) (by kernel_rfl) (fun _ _ _ h => h) (by rfl) (fun _ _ => rfl) hHeld ?_
        simp only [Act.put, List.setIfInBounds_toArray, List.set_cons_zero, List.set_cons_succ]
        refine takeTo 10 (some 75) (.pointer (some ⟨gl, 2, none⟩)) rfl rfl (by kernel_rfl) (by kernel_rfl) (by kernel_rfl) (fun _ _ _ h => h) (by rfl) (fun wz _ => run_at_pd _ _ rfl gl 2 3 cl rfl rfl (by decide) wz) hHeld ?_
        simp only [Act.put, List.setIfInBounds_toArray, List.set_cons_zero, List.set_cons_succ]
        refine takeTo 11 (some 76) (ptr (P 2)) rfl rfl (by kernel_rfl) (by kernel_rfl) (by kernel_rfl) (fun _ _ _ h => h) (by rfl) (fun wz hz => run_load_pdC _ rfl _ rfl _ _ (hz 2 (by decide))) hHeld ?_
        simp only [Act.put, List.setIfInBounds_toArray, List.set_cons_zero, List.set_cons_succ]
        refine callTo 3 (some 68) 38 #[ptr (P 0)] (by kernel_rfl) rfl rfl (by rfl) (by kernel_rfl) (HWS.out wr.drew hbD 0 (by decide)) ?_
        rintro e wa ⟨rfl, hbwa⟩
        have hBwa : Below wr.heap.size wr wa := hbD.trans (hbwa.mono hbD.size)
        have hHwa : ∀ j, j < 3 → (wa).cell? ⟨gl, j, none⟩ = some (ptr (P j)) := fun j hj => (hBwa.cell (p := ⟨gl, j, none⟩) HGL.out).trans (HCL4.out j hj)
        refine ⟨_, rfl, hHwa, ?_⟩
        simp only [Act.put, List.setIfInBounds_toArray, List.set_cons_zero, List.set_cons_succ]
        refine callTo 7 (some 72) 38 #[ptr (P 1)] (by kernel_rfl) rfl rfl (by rfl) (by kernel_rfl) (HWS.out wa hBwa 1 (by decide)) ?_
        rintro e wb ⟨rfl, hbwb⟩
        have hBwb : Below wr.heap.size wr wb := hBwa.trans (hbwb.mono hBwa.size)
        have hHwb : ∀ j, j < 3 → (wb).cell? ⟨gl, j, none⟩ = some (ptr (P j)) := fun j hj => (hBwb.cell (p := ⟨gl, j, none⟩) HGL.out).trans (HCL4.out j hj)
        refine ⟨_, rfl, hHwb, ?_⟩
        simp only [Act.put, List.setIfInBounds_toArray, List.set_cons_zero, List.set_cons_succ]
        refine takeTo 8 (some 73) (.int .i64 0) rfl rfl (by kernel_rfl) (by kernel_rfl) (by kernel_rfl) (fun _ _ _ h => h) (by rfl) (fun wz _ => by unfold execOp; go_simp; rfl) hHwb ?_
        simp only [Act.put, List.setIfInBounds_toArray, List.set_cons_zero, List.set_cons_succ]
        refine callTo 12 (some 77) 38 #[ptr (P 2)] (by kernel_rfl) rfl rfl (by rfl) (by kernel_rfl) (HWS.out wb hBwb 2 (by decide)) ?_
        rintro e wc ⟨rfl, hbwc⟩
        have hBwc : Below wr.heap.size wr wc := hBwb.trans (hbwc.mono hBwb.size)
        have hHwc : ∀ j, j < 3 → (wc).cell? ⟨gl, j, none⟩ = some (ptr (P j)) := fun j hj => (hBwc.cell (p := ⟨gl, j, none⟩) HGL.out).trans (HCL4.out j hj)
        refine ⟨_, rfl, hHwc, ?_⟩
        simp only [Act.put, List.setIfInBounds_toArray, List.set_cons_zero, List.set_cons_succ]
        refine takeTo 13 (some 78) (.int .i64 0) rfl rfl (by kernel_rfl) (by kernel_rfl) (by kernel_rfl) (fun _ _ _ h => h) (by rfl) (fun wz _ => by unfold execOp; go_simp; rfl) hHwc ?_
        simp only [Act.put, List.setIfInBounds_toArray, List.set_cons_zero, List.set_cons_succ]
        refine takeTo 14 (some 79) (.bool false) rfl rfl (by kernel_rfl) (by kernel_rfl) (by kernel_rfl) (fun _ _ _ h => h) (by rfl) (fun wz _ => by unfold execOp; go_simp) hHwc ?_
        simp only [Act.put, List.setIfInBounds_toArray, List.set_cons_zero, List.set_cons_succ]
        refine wpAnyH_done (by kernel_rfl) ?_ _
        clear hHeld hHwa hHwb
        have HBK := hidC (cs_back hD (HC.out.next hD hBwc))
        have HST := hidC (fun w4 H4 (ho4 : Only H wc w4) (hg4 : Grew wc H H4) => (⟨((HO.out.below hBwc).1.step ho4 hg4).1, fun j hj => (cell_same ((HO.out.below hBwc).1.step ho4 hg4).2).trans (hHwc j hj)⟩ : Off1 H4 w4 gl ∧ ∀ j, j < 3 → w4.cell? ⟨gl, j, none⟩ = some (ptr (P j))))
        clear hHwc HCL4 HGL HWS
        go_wp2_with (first
          | ((go_at_call 17)
             (refine HBK.out.mono ?_)
             (rintro e W4 ⟨rfl, ho4, H4, hg4, hC4⟩)
             (obtain ⟨hO4, hcl4⟩ := HST.out W4 H4 ho4 hg4)
             (have HC4 := hidC hC4)
             (have HO4 := hidC (And.intro hO4 hcl4))
             (clear hO4 hcl4 ho4 hg4 hC4 HBK HST HC HO))
          | ((with_reducible refine at_dstC 7 rfl ?_)
             (obtain ⟨W5, hW5⟩ : ∃ W5, W5 = W4.alloc (.cells (c18 fun _ => .slice none 0 0) 60) := ⟨_, rfl⟩)
             (refine wpList_is_w (some 7) (.pointer (some ⟨W4.heap.size, 0, none⟩)) W5 rfl (by rfl) (by rw [hW5]; exact run_alloc18 rfl _) ?_)
             (have HW5 := hidC hW5)
             (clear hW5)))
        obtain ⟨r, hr⟩ : ∃ r, r = W4.heap.size := ⟨_, rfl⟩
        rw [← hr]
        have HF0 := hidC (show Fst D w W5 cb P gl r L H4 0 from by
          have hb5 : Below W4.heap.size W4 W5 := by rw [HW5.out]; exact (Below.refl _ _).alloc (Nat.le_refl _) _
          have h5 : Has W5 r 60 (c18 fun _ => .slice none 0 0) := by rw [HW5.out, hr]; exact Has.new W4 _ _
          refine ⟨_, HC4.out.next hD hb5, RowB.nils h5 (fun e => absurd (HC4.out.lt hD _ e) (by omega)), (HO4.out.1.below hb5).1, (fun j hj => (cell_same (HO4.out.1.below hb5).2).trans (HO4.out.2 j hj)), by have := HC4.out.sz; omega, by have := HO4.out.1.2; omega⟩)
        clear HC4 HO4 HW5 hr
        go_loopw [8] (fun kv wr => ∃ k : Nat, k ≤ 3 ∧ kv = .int .i64 (k : Nat) ∧ Fst D w wr cb P gl r L H4 (k * 6))
          (fun kv _ => 3 - (intOf kv).toNat)
        case atStart => exact ⟨0, by omega, rfl, by rw [Nat.zero_mul]; exact HF0.out⟩
        case round =>
          obtain ⟨k, hk, rfl, hF⟩ := hrel
          by_cases hk3 : k < 3
          · have k0 : (k : Int) < 3 := by omega
            have k1 : (0 : Int) ≤ (k : Int) := by omega
            have HFI := hidC hF
            have HK3 := hidC hk3
            clear hF
            go_wp2
            go_loopw [9] (fun jv wr => ∃ j : Nat, j ≤ 6 ∧ jv = .int .i64 (j : Nat) ∧ Fst D w wr cb P gl r L H4 (k * 6 + j))
              (fun jv _ => 6 - (intOf jv).toNat)
            case atStart => exact ⟨0, by omega, rfl, HFI.out⟩
            case round =>
              obtain ⟨j, hj, rfl, hF⟩ := hrel
              by_cases hj6 : j < 6
              · have j0 : (j : Int) < 6 := by omega
                have j1 : (0 : Int) ≤ (j : Int) := by omega
                have HJ6 := hidC hj6
                have HRD := hidC (fst_read hD hZ hF hk3 hj6 (by have := HB.out.2; omega))
                have HF := hidC hF
                clear hF
                go_wp2_with (first
                  | ((go_at_call 12)
                     (refine HRD.out.mono ?_)
                     (rintro e W8 ⟨hb8, g5, o5, c5, rfl, hput⟩)
                     (obtain ⟨U8, hc8, hf8, hput⟩ := hput)
                     (generalize U8 = u8 at *)
                     (have HPT := hidC hput)
                     (clear hput))
                  | ((with_reducible refine at_dstC 102 rfl ?_)
                     (refine wpList_is (some 102) (.pointer (some ⟨r, k * 6, none⟩)) rfl (by rfl) (run_at_18 _ _ rfl r k rfl rfl hk3 _) ?_))
                  | ((with_reducible refine at_dstC 103 rfl ?_)
                     (refine wpList_is (some 103) (.pointer (some ⟨r, k * 6 + j, none⟩)) rfl (by rfl) (run_at_6 _ _ rfl r (k * 6) j rfl rfl hj6 _) ?_)))
                go_roundw
                case rel => exact ⟨j + 1, by have := HJ6.out; omega, by go_num, HPT.out⟩
                case measure => have := HJ6.out; simp [intOf]; omega
              · obtain rfl : j = 6 := by omega
                have HKX := hidC (show Fst D w wr cb P gl r L H4 ((k + 1) * 6) by rw [Nat.succ_mul]; exact hF)
                clear hF
                go_wp2
                go_roundw
                case rel => exact ⟨k + 1, HK3.out, by go_num, HKX.out⟩
                case measure => have := HK3.out; simp [intOf]; omega
          · obtain rfl : k = 3 := by omega
            obtain ⟨U, hC3, hR3, hO3, hc3, hwr3, hgr3⟩ := hF
            have HCN := hidC (cs_count hD hC3 (by have := HB.out.2; omega) (by have := HB.out.1; omega))
            have HAPP := hidC (fun W (hb : Below wr.heap.size wr W) => cs_apply hD (hC3.next hD hb) (fun i _ => ⟨Nat.zero_le _, Nat.zero_le _⟩) (by have := HB.out.2; omega) (by have := HB.out.1; omega))
            have HOK := hidC (fun r hr => hC3.flat2 r hr)
            have HSTE := hidC (fun W (hb : Below wr.heap.size wr W) w4 H5 (ho4 : Only H4 W w4) (hg4 : Grew W H4 H5) (hC5 : CS D w.heap.size w w4 cb P (apD S0 M0 L) (apM S0 M0 L) [] [] H5) => (⟨U, hC5, ((hR3.below hb).step ho4 hg4).congr (fun d s hd hs => sn_end L hd hs), ((hO3.below hb).1.step ho4 hg4).1, fun j hj => (cell_same ((hO3.below hb).1.step ho4 hg4).2).trans ((cell_same (hO3.below hb).2).trans (hc3 j hj)), hwr3, hgr3⟩ : Gst D w w4 cb P gl r L H5))
            have HFL := hidC hC3.flat2
            have HUN := hidC hC3.uni
            have HSL := hidC (fun d s q => sn_lt hC3.byt d s q)
            obtain ⟨NF, hNF⟩ : ∃ NF, NF = L.flatten.length := ⟨_, rfl⟩
            have HNF := hidC hNF
            rw [← hNF] at HCN
            clear hNF
            clear hC3 hR3 hO3 hc3 hwr3 hgr3 HF0
            go_wp2_with (first
              | ((go_at_call 32)
                 (refine HCN.out.mono ?_)
                 (rintro e W6 ⟨rfl, hb6⟩))
              | ((go_at_call 19)
                 (refine (HAPP.out W6 hb6).mono ?_)
                 (rintro e W7 ⟨rfl, ho7, H7, hg7, hC7⟩)
                 (have HG7 := hidC (HSTE.out W6 hb6 W7 H7 ho7 hg7 hC7))
                 (clear ho7 hg7 hC7 HAPP HSTE HCN hb6)))
            obtain ⟨U7, hC7, hR7, hO7, hc7, hwr7, hgr7⟩ := HG7.out
            have hbD7 : Below W7.heap.size W7 W7.drew := ⟨rfl, rfl, rfl, Nat.le_refl _, fun _ _ => rfl⟩
            obtain ⟨n0, hn0⟩ : ∃ n, n = wrs (apD S0 M0 L 0).log := ⟨_, rfl⟩
            obtain ⟨n1, hn1⟩ : ∃ n, n = wrs (apD S0 M0 L 1).log := ⟨_, rfl⟩
            obtain ⟨n2, hn2⟩ : ∃ n, n = wrs (apD S0 M0 L 2).log := ⟨_, rfl⟩
            obtain ⟨n01, hn01⟩ : ∃ n, n = n0 + n1 := ⟨_, rfl⟩
            have hlg : ∀ j, (apD S0 M0 L j).log.length ≤ 100000 := fun j => by have h := apD_len S0 M0 L j; have h0 : (S0 j).log.length = 0 := rfl; have := HB.out.1; omega
            have HNN := hidC (show n01 = n0 + n1 ∧ NF = n01 + n2 ∧ NF ≤ 80 from ⟨hn01, by have h := apD_tot (S := S0) (M := M0) (L := L) (fun _ => wl_fresh) HFL.out; have h0 : tot S0 = 0 := rfl; unfold tot at h h0; rw [← hn0, ← hn1, ← hn2] at h; have := HNF.out; omega, by have := HNF.out; have := HB.out.1; omega⟩)
            have HW0 := hidC (show ∀ W, Below W7.heap.size W7 W → Calls Try.prog 38 #[ptr (P 0)] W fun e w' => e = .returned (.int .i64 (n0 : Nat)) ∧ Below W.heap.size W w' from fun W hb => by rw [hn0]; exact cs_writes hD (hC7.next hD hb) (by decide) (hlg 0))
            have HW1 := hidC (show ∀ W, Below W7.heap.size W7 W → Calls Try.prog 38 #[ptr (P 1)] W fun e w' => e = .returned (.int .i64 (n1 : Nat)) ∧ Below W.heap.size W w' from fun W hb => by rw [hn1]; exact cs_writes hD (hC7.next hD hb) (by decide) (hlg 1))
            have HW2 := hidC (show ∀ W, Below W7.heap.size W7 W → Calls Try.prog 38 #[ptr (P 2)] W fun e w' => e = .returned (.int .i64 (n2 : Nat)) ∧ Below W.heap.size W w' from fun W hb => by rw [hn2]; exact cs_writes hD (hC7.next hD hb) (by decide) (hlg 2))
            have HCT := hidC (show ∀ W, Below W7.heap.size W7 W → Calls Try.prog 32 #[ptr cb] W fun e w' => e = .returned (.int .i64 0) ∧ Below W.heap.size W w' from fun W hb => cs_count hD (hC7.next hD hb) (Nat.zero_le _) (Nat.zero_le _))
            have HGS := hidC (fun W (hb : Below W7.heap.size W7 W) => cs_none (hC7.next hD hb))
            have HCL7 := hidC hc7
            have HGL7 := hidC hO7.2
            clear hC7 hR7 hO7 hc7 hwr7 hgr7 hn0 hn1 hn2 hn01 hlg
            refine wp_region_held_drew (S := fun wz => ∀ j, j < 3 → wz.cell? ⟨gl, j, none⟩ = some (ptr (P j))) (by kernel_rfl) HCL7.out (fun hHeld => ?_)
            refine takeTo 0 (some 108) (.slice (some ⟨gl, 0, none⟩) 3 cl) rfl rfl (by kernel_rfl) (by kernel_rfl) (by kernel_rfl) (fun _ _ _ h => h) (by rfl) (fun _ _ => rfl) hHeld ?_
            simp only [Act.put, List.setIfInBounds_toArray, List.set_cons_zero, List.set_cons_succ]
            refine takeTo 1 (some 109) (.pointer (some ⟨gl, 0, none⟩)) rfl rfl (by kernel_rfl) (by kernel_rfl) (by kernel_rfl) (fun _ _ _ h => h) (by rfl) (fun wz _ => run_at_pd _ _ rfl gl 0 3 cl rfl rfl (by decide) wz) hHeld ?_
            simp only [Act.put, List.setIfInBounds_toArray, List.set_cons_zero, List.set_cons_succ]
            refine takeTo 2 (some 110) (ptr (P 0)) rfl rfl (by kernel_rfl) (by kernel_rfl) (by kernel_rfl) (fun _ _ _ h => h) (by rfl) (fun wz hz => run_load_pdC _ rfl _ rfl _ _ (hz 0 (by decide))) hHeld ?_
            simp only [Act.put, List.setIfInBounds_toArray, List.set_cons_zero, List.set_cons_succ]
            refine takeTo 4 (some 112) (.slice (some ⟨gl, 0, none⟩) 3 cl) rfl rfl (by kernel_rfl) (by kernel_rfl) (by kernel_rfl) (fun _ _ _ h => h) (by rfl) (fun _ _ => rfl) hHeld ?_
            simp only [Act.put, List.setIfInBounds_toArray, List.set_cons_zero, List.set_cons_succ]
            refine takeTo 5 (some 113) (.pointer (some ⟨gl, 1, none⟩)) rfl rfl (by kernel_rfl) (by kernel_rfl) (by kernel_rfl) (fun _ _ _ h => h) (by rfl) (fun wz _ => run_at_pd _ _ rfl gl 1 3 cl rfl rfl (by decide) wz) hHeld ?_
            simp only [Act.put, List.setIfInBounds_toArray, List.set_cons_zero, List.set_cons_succ]
            refine takeTo 6 (some 114) (ptr (P 1)) rfl rfl (by kernel_rfl) (by kernel_rfl) (by kernel_rfl) (fun _ _ _ h => h) (by rfl) (fun wz hz => run_load_pdC _ rfl _ rfl _ _ (hz 1 (by decide))) hHeld ?_
            simp only [Act.put, List.setIfInBounds_toArray, List.set_cons_zero, List.set_cons_succ]
            refine takeTo 9 (some 117) (.slice (some ⟨gl, 0, none⟩) 3 cl) rfl rfl (by kernel_rfl) (by kernel_rfl) (by kernel_rfl) (fun _ _ _ h => h) (by rfl) (fun _ _ => rfl) hHeld ?_
            simp only [Act.put, List.setIfInBounds_toArray, List.set_cons_zero, List.set_cons_succ]
            refine takeTo 10 (some 118) (.pointer (some ⟨gl, 2, none⟩)) rfl rfl (by kernel_rfl) (by kernel_rfl) (by kernel_rfl) (fun _ _ _ h => h) (by rfl) (fun wz _ => run_at_pd _ _ rfl gl 2 3 cl rfl rfl (by decide) wz) hHeld ?_
            simp only [Act.put, List.setIfInBounds_toArray, List.set_cons_zero, List.set_cons_succ]
            refine takeTo 11 (some 119) (ptr (P 2)) rfl rfl (by kernel_rfl) (by kernel_rfl) (by kernel_rfl) (fun _ _ _ h => h) (by rfl) (fun wz hz => run_load_pdC _ rfl _ rfl _ _ (hz 2 (by decide))) hHeld ?_
            simp only [Act.put, List.setIfInBounds_toArray, List.set_cons_zero, List.set_cons_succ]
            refine takeTo 14 (some 122) (.int .i64 (NF : Nat)) rfl rfl (by kernel_rfl) (by kernel_rfl) (by kernel_rfl) (fun _ _ _ h => h) (by rfl) (fun _ _ => rfl) hHeld ?_
            simp only [Act.put, List.setIfInBounds_toArray, List.set_cons_zero, List.set_cons_succ]
            refine callTo 3 (some 111) 38 #[ptr (P 0)] (by kernel_rfl) rfl rfl (by rfl) (by kernel_rfl) (HW0.out W7.drew hbD7) ?_
            rintro e va ⟨rfl, hbva⟩
            have hBva : Below W7.heap.size W7 va := hbD7.trans (hbva.mono hbD7.size)
            have hHva : ∀ j, j < 3 → (va).cell? ⟨gl, j, none⟩ = some (ptr (P j)) := fun j hj => (hBva.cell (p := ⟨gl, j, none⟩) HGL7.out).trans (HCL7.out j hj)
            refine ⟨_, rfl, hHva, ?_⟩
            simp only [Act.put, List.setIfInBounds_toArray, List.set_cons_zero, List.set_cons_succ]
            refine callTo 7 (some 115) 38 #[ptr (P 1)] (by kernel_rfl) rfl rfl (by rfl) (by kernel_rfl) (HW1.out va hBva) ?_
            rintro e vb ⟨rfl, hbvb⟩
            have hBvb : Below W7.heap.size W7 vb := hBva.trans (hbvb.mono hBva.size)
            have hHvb : ∀ j, j < 3 → (vb).cell? ⟨gl, j, none⟩ = some (ptr (P j)) := fun j hj => (hBvb.cell (p := ⟨gl, j, none⟩) HGL7.out).trans (HCL7.out j hj)
            refine ⟨_, rfl, hHvb, ?_⟩
            simp only [Act.put, List.setIfInBounds_toArray, List.set_cons_zero, List.set_cons_succ]
            refine takeTo 8 (some 116) (.int .i64 (n01 : Nat)) rfl rfl (by kernel_rfl) (by kernel_rfl) (by kernel_rfl) (fun _ _ _ h => h) (by rfl) (fun wz _ => run_add2S _ _ rfl n0 n1 n01 rfl rfl HNN.out.1 (by have := HNN.out; omega) wz) hHvb ?_
            simp only [Act.put, List.setIfInBounds_toArray, List.set_cons_zero, List.set_cons_succ]
            refine callTo 12 (some 120) 38 #[ptr (P 2)] (by kernel_rfl) rfl rfl (by rfl) (by kernel_rfl) (HW2.out vb hBvb) ?_
            rintro e vc ⟨rfl, hbvc⟩
            have hBvc : Below W7.heap.size W7 vc := hBvb.trans (hbvc.mono hBvb.size)
            have hHvc : ∀ j, j < 3 → (vc).cell? ⟨gl, j, none⟩ = some (ptr (P j)) := fun j hj => (hBvc.cell (p := ⟨gl, j, none⟩) HGL7.out).trans (HCL7.out j hj)
            refine ⟨_, rfl, hHvc, ?_⟩
            simp only [Act.put, List.setIfInBounds_toArray, List.set_cons_zero, List.set_cons_succ]
            refine takeTo 13 (some 121) (.int .i64 (NF : Nat)) rfl rfl (by kernel_rfl) (by kernel_rfl) (by kernel_rfl) (fun _ _ _ h => h) (by rfl) (fun wz _ => run_add2S _ _ rfl n01 n2 NF rfl rfl HNN.out.2.1 (by have := HNN.out; omega) wz) hHvc ?_
            simp only [Act.put, List.setIfInBounds_toArray, List.set_cons_zero, List.set_cons_succ]
            refine takeTo 15 (some 123) (.bool false) rfl rfl (by kernel_rfl) (by kernel_rfl) (by kernel_rfl) (fun _ _ _ h => h) (by rfl) (fun wz _ => run_neqS _ _ rfl _ rfl rfl wz) hHvc ?_
            simp only [Act.put, List.setIfInBounds_toArray, List.set_cons_zero, List.set_cons_succ]
            refine takeTo 16 (some 124) (.bool false) rfl rfl (by kernel_rfl) (by kernel_rfl) (by kernel_rfl) (fun _ _ _ h => h) (by rfl) (fun _ _ => rfl) hHvc ?_
            simp only [Act.put, List.setIfInBounds_toArray, List.set_cons_zero, List.set_cons_succ]
            refine takeTo 17 (some 125) (ptr cb) rfl rfl (by kernel_rfl) (by kernel_rfl) (by kernel_rfl) (fun _ _ _ h => h) (by rfl) (fun _ _ => rfl) hHvc ?_
            simp only [Act.put, List.setIfInBounds_toArray, List.set_cons_zero, List.set_cons_succ]
            refine callTo 18 (some 126) 32 #[ptr cb] (by kernel_rfl) rfl rfl (by rfl) (by kernel_rfl) (HCT.out vc hBvc) ?_
            rintro e vd ⟨rfl, hbvd⟩
            have hBvd : Below W7.heap.size W7 vd := hBvc.trans (hbvd.mono hBvc.size)
            have hHvd : ∀ j, j < 3 → (vd).cell? ⟨gl, j, none⟩ = some (ptr (P j)) := fun j hj => (hBvd.cell (p := ⟨gl, j, none⟩) HGL7.out).trans (HCL7.out j hj)
            refine ⟨_, rfl, hHvd, ?_⟩
            simp only [Act.put, List.setIfInBounds_toArray, List.set_cons_zero, List.set_cons_succ]
            refine takeTo 19 (some 127) (.bool false) rfl rfl (by kernel_rfl) (by kernel_rfl) (by kernel_rfl) (fun _ _ _ h => h) (by rfl) (fun wz _ => run_neqS _ _ rfl _ rfl rfl wz) hHvd ?_
            simp only [Act.put, List.setIfInBounds_toArray, List.set_cons_zero, List.set_cons_succ]
            refine takeTo 20 (some 128) (.bool false) rfl rfl (by kernel_rfl) (by kernel_rfl) (by kernel_rfl) (fun _ _ _ h => h) (by rfl) (fun _ _ => rfl) hHvd ?_
            simp only [Act.put, List.setIfInBounds_toArray, List.set_cons_zero, List.set_cons_succ]
            refine takeTo 21 (some 129) (.bool false) rfl rfl (by kernel_rfl) (by kernel_rfl) (by kernel_rfl) (fun _ _ _ h => h) (by rfl) (fun _ _ => rfl) hHvd ?_
            simp only [Act.put, List.setIfInBounds_toArray, List.set_cons_zero, List.set_cons_succ]
            refine takeTo 22 (some 130) (ptr cb) rfl rfl (by kernel_rfl) (by kernel_rfl) (by kernel_rfl) (fun _ _ _ h => h) (by rfl) (fun _ _ => rfl) hHvd ?_
            simp only [Act.put, List.setIfInBounds_toArray, List.set_cons_zero, List.set_cons_succ]
            refine callTo 23 (some 131) 31 #[ptr cb] (by kernel_rfl) rfl rfl (by rfl) (by kernel_rfl) (HGS.out vd hBvd) ?_
            rintro e ve ⟨rfl, hbve⟩
            have hBve : Below W7.heap.size W7 ve := hBvd.trans (hbve.mono hBvd.size)
            have hHve : ∀ j, j < 3 → (ve).cell? ⟨gl, j, none⟩ = some (ptr (P j)) := fun j hj => (hBve.cell (p := ⟨gl, j, none⟩) HGL7.out).trans (HCL7.out j hj)
            refine ⟨_, rfl, hHve, ?_⟩
            simp only [Act.put, List.setIfInBounds_toArray, List.set_cons_zero, List.set_cons_succ]
            refine takeTo 24 (some 132) (.int .i64 0) rfl rfl (by kernel_rfl) (by kernel_rfl) (by kernel_rfl) (fun _ _ _ h => h) (by rfl) (fun wz _ => by unfold execOp; go_simp) hHve ?_
            simp only [Act.put, List.setIfInBounds_toArray, List.set_cons_zero, List.set_cons_succ]
            refine takeTo 25 (some 133) (.bool false) rfl rfl (by kernel_rfl) (by kernel_rfl) (by kernel_rfl) (fun _ _ _ h => h) (by rfl) (fun wz _ => run_neqS _ _ rfl _ rfl rfl wz) hHve ?_
            simp only [Act.put, List.setIfInBounds_toArray, List.set_cons_zero, List.set_cons_succ]
            refine takeTo 26 (some 134) (.bool false) rfl rfl (by kernel_rfl) (by kernel_rfl) (by kernel_rfl) (fun _ _ _ h => h) (by rfl) (fun _ _ => rfl) hHve ?_
            simp only [Act.put, List.setIfInBounds_toArray, List.set_cons_zero, List.set_cons_succ]
            refine wpAnyH_done (by kernel_rfl) ?_ _
            clear hHeld hHva hHvb hHvc hHvd
            have HG8 := hidC (Gst.next hD HG7.out hBve)
            clear HG7 HW0 HW1 HW2 HCT HGS HCL7 HGL7 hHve hBva hBvb hBvc hBvd hBve hbva hbvb hbvc hbvd hbve hbD7 HNN
            go_wp2
            go_loopw [13] (fun kv wr => ∃ k : Nat, k ≤ 3 ∧ kv = .int .i64 (k : Nat) ∧ Gst D w wr cb P gl r L H7)
              (fun kv _ => 3 - (intOf kv).toNat)
            case atStart => exact ⟨0, by omega, rfl, HG8.out⟩
            case round =>
              obtain ⟨k, hk, rfl, hG⟩ := hrel
              by_cases hk3 : k < 3
              · have k0 : (k : Int) < 3 := by omega
                have k1 : (0 : Int) ≤ (k : Int) := by omega
                have HGI := hidC hG
                have HK3 := hidC hk3
                clear hG
                go_wp2
                go_loopw [14] (fun jv wr => ∃ j : Nat, j ≤ 6 ∧ jv = .int .i64 (j : Nat) ∧ Gst D w wr cb P gl r L H7)
                  (fun jv _ => 6 - (intOf jv).toNat)
                case atStart => exact ⟨0, by omega, rfl, HGI.out⟩
                case round =>
                  obtain ⟨j, hj, rfl, hG⟩ := hrel
                  by_cases hj6 : j < 6
                  · have j0 : (j : Int) < 6 := by omega
                    have j1 : (0 : Int) ≤ (j : Int) := by omega
                    have HJ6 := hidC hj6
                    have HES := hidC hG
                    have HRC := hidC (gst_read hD hZ hG HFL.out HUN.out hk3 hj6)
                    have HRD := hidC (fun W (hb : Below wr.heap.size wr W) => gst_dread hD (hG.next hD hb) HFL.out HUN.out hk3 hj6)
                    obtain ⟨U9, hC9, hR9, hO9, hcl9, _, _⟩ := hG
                    have hc3 := hcl9 k hk3
                    have hgll := hO9.2
                    have hrl := hR9.has.lt
                    have hvc := hR9.cell hk3 hj6
                    obtain ⟨f6, g6, o6, c6, hf6, hu6, hB6, _⟩ := (hR9.at_ k j hk3 hj6).resolve_left (fun h => by cases h.1)
                    obtain rfl := Option.some.inj hf6
                    rw [hu6] at hvc
                    have HB6 := hidC hB6
                    have HSA := hidC (fun W g o c (h1 : Bytes W (some ⟨g, o, none⟩) 64 (sn L k j)) (h2 : Bytes W (some ⟨g6, o6, none⟩) 64 (sn L k j)) => show Calls Try.prog 14 #[.slice (some ⟨g, o, none⟩) 64 c, .slice (some ⟨g6, o6, none⟩) 64 c6] W fun e w' => e = .returned (.bool true) ∧ w' = W by
                      have h := same_any c c6 h1 h2 (HSL.out k j) (HSL.out k j) (fun e => by cases e) (fun e => by cases e)
                      rw [beq_self_eq_true] at h
                      exact h)
                    clear hC9 hR9 hO9 hcl9 hf6 hu6 hB6
                    generalize sn L k j = sq at *
                    go_wp2_with (first
                        | ((go_at_call 12)
                           (refine HRC.out.mono ?_)
                           (rintro e W5 ⟨hb5, g5, o5, c5, rfl, hB5⟩)
                           (have hc5 := (hb5.cell (p := ⟨gl, k, none⟩) hgll).trans hc3)
                           (have hvc5 := (hb5.cell (p := ⟨r, k * 6 + j, none⟩) hrl).trans hvc)
                           (have hrl5 := Nat.lt_of_lt_of_le hrl hb5.size)
                           (have HB5 := hidC hB5)
                           (clear hB5 hc3 hvc HRC))
                        | ((with_reducible refine at_dstC 153 rfl ?_)
                           (refine wpList_is (some 153) (.pointer (some ⟨gl, k, none⟩)) rfl (by rfl) (run_at_pd _ _ rfl gl k 3 cl rfl rfl hk3 _) ?_))
                        | ((with_reducible refine at_dstC 154 rfl ?_)
                           (refine wpList_is (some 154) (ptr (P k)) rfl (by rfl) (run_load_pdC _ rfl _ rfl _ _ hc5) ?_))
                        | ((go_at_call 34)
                           (refine (HRD.out W5 hb5).mono ?_)
                           (rintro e W6 ⟨hb6, g7, o7, c7, rfl, hB7⟩)
                           (have hvc6 := (hb6.cell (p := ⟨r, k * 6 + j, none⟩) hrl5).trans hvc5)
                           (have HS1 := hidC (HSA.out W6 g5 o5 c5 (HB5.out.below hb6 (Nat.le_refl _)) (HB6.out.below (hb5.trans (hb6.mono hb5.size)) (Nat.le_refl _))))
                           (have HS2 := hidC (HSA.out W6 g7 o7 c7 hB7 (HB6.out.below (hb5.trans (hb6.mono hb5.size)) (Nat.le_refl _))))
                           (have HE7 := hidC (Gst.next hD HES.out (hb5.trans (hb6.mono hb5.size))))
                           (clear hB7 hvc5 hc5 HRD HSA))
                        | ((with_reducible refine at_dstC 162 rfl ?_)
                           (refine wpList_is (some 162) (.pointer (some ⟨r, k * 6, none⟩)) rfl (by rfl) (run_at_18 _ _ rfl r k rfl rfl hk3 _) ?_))
                        | ((with_reducible refine at_dstC 163 rfl ?_)
                           (refine wpList_is (some 163) (.pointer (some ⟨r, k * 6 + j, none⟩)) rfl (by rfl) (run_at_6 _ _ rfl r (k * 6) j rfl rfl hj6 _) ?_))
                        | ((with_reducible refine at_dstC 164 rfl ?_)
                           (refine wpList_is (some 164) (.slice (some ⟨g6, o6, none⟩) 64 c6) rfl (by rfl) (run_load_byC _ rfl _ rfl _ _ hvc6) ?_))
                        | ((with_reducible refine at_dstC 169 rfl ?_)
                           (refine wpList_is (some 169) (.pointer (some ⟨r, k * 6, none⟩)) rfl (by rfl) (run_at_18 _ _ rfl r k rfl rfl hk3 _) ?_))
                        | ((with_reducible refine at_dstC 170 rfl ?_)
                           (refine wpList_is (some 170) (.pointer (some ⟨r, k * 6 + j, none⟩)) rfl (by rfl) (run_at_6 _ _ rfl r (k * 6) j rfl rfl hj6 _) ?_))
                        | ((with_reducible refine at_dstC 171 rfl ?_)
                           (refine wpList_is (some 171) (.slice (some ⟨g6, o6, none⟩) 64 c6) rfl (by rfl) (run_load_byC _ rfl _ rfl _ _ hvc6) ?_))
                        | ((go_at_call 14)
                           (first | refine HS1.out.mono ?_ | refine HS2.out.mono ?_)
                           (rintro e W7 ⟨rfl, hW7⟩)
                           (obtain rfl : W6 = W7 := hW7.symm)))
                    go_roundw
                    case rel => exact ⟨j + 1, by have := HJ6.out; omega, by go_num, HE7.out⟩
                    case measure => have := HJ6.out; simp [intOf]; omega
                  · obtain rfl : j = 6 := by omega
                    have HE6 := hidC hG
                    obtain ⟨U9, hC9, hR9, hO9, hcl9, _, _⟩ := hG
                    have hc3 := hcl9 k hk3
                    have HPN := hidC (cs_pending hD hC9 hk3 (by have h := apD_len S0 M0 L k; have h0 : (S0 k).log.length = 0 := rfl; have := HB.out.1; omega))
                    rw [apD_pend (S := S0) (M := M0) (L := L) (fun _ => wl_fresh) (fun r hr => (HFL.out r hr).2) hk3] at HPN
                    clear hC9 hR9 hO9 hcl9
                    go_wp2_with (first
                        | ((with_reducible refine at_dstC 189 rfl ?_)
                           (refine wpList_is (some 189) (.pointer (some ⟨gl, k, none⟩)) rfl (by rfl) (run_at_pd _ _ rfl gl k 3 cl rfl rfl hk3 _) ?_))
                        | ((with_reducible refine at_dstC 190 rfl ?_)
                           (refine wpList_is (some 190) (ptr (P k)) rfl (by rfl) (run_load_pdC _ rfl _ rfl _ _ hc3) ?_))
                        | ((go_at_call 36)
                           (refine HPN.out.mono ?_)
                           (rintro e W5 ⟨rfl, hb5⟩)
                           (have HE7 := hidC (Gst.next hD HE6.out hb5))))
                    go_roundw
                    case rel => exact ⟨k + 1, HK3.out, by go_num, HE7.out⟩
                    case measure => have := HK3.out; simp [intOf]; omega
              · obtain rfl : k = 3 := by omega
                obtain ⟨U9, hC9, _⟩ := hG
                have HBB := hidC hC9.below
                clear hC9
                go_wp2
                go_ret
                exact ⟨rfl, HBB.out⟩
end Go.Proofs.Ytancebpjfbbcaaa
