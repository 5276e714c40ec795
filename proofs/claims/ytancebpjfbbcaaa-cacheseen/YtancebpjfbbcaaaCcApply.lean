/- cache: Apply. -/
import Derived.Test.YtancebpjfbbcaaaCcCount
namespace Go.Proofs.Ytancebpjfbbcaaa
open Go.ChangeShapes Go.WideShapes Go.ChangeAt Go.RowKit Go.MapKept
set_option linter.unusedVariables false

variable {D : DevRep} {B : Nat} {w0 w w' wr : World} {P : Nat → Nat} {S : Nat → DS} {C M : Nat → Nat} {F : Nat → Nat → Prop} {cb : Nat} {dv kv : Value} {o : GV} {ks : List GV} {GO GK : Nat → Prop} {l : List Wr}

/-- Devices behind a write. -/
def apS (x : (Nat → DS) × (Nat → Nat)) (r : Wr) : (Nat → DS) × (Nat → Nat) := (upN x.1 r.d (wrS (x.1 r.d) (r.s : Nat) r.f 64 (x.2 r.d)), upN x.2 r.d (wrM (x.1 r.d) (r.s : Nat) 64 (x.2 r.d)))

/-- All writes of groups, in order. -/
def wl (ks : List GV) : List Wr := ks.flatMap fun g => g.rows.map (·.1)

theorem wl_take (ks : List GV) (k : Nat) {gv : GV} (hk : ks[k]? = some gv) : wl (ks.take (k + 1)) = wl (ks.take k) ++ gv.rows.map (·.1) := by
  unfold wl
  rw [List.take_add_one, hk, List.flatMap_append]
  simp

theorem wl_len (ks : List GV) : (wl ks).length = cnt ks := by
  unfold wl cnt
  induction ks with
  | nil => rfl
  | cons g ks ih => simp [List.flatMap_cons, ih]

theorem apl_le (l : List Wr) (x : (Nat → DS) × (Nat → Nat)) (i : Nat) : (l.foldl apS x).2 i ≤ x.2 i + l.length ∧ ((l.foldl apS x).1 i).log.length ≤ (x.1 i).log.length + l.length := by
  induction l generalizing x with
  | nil => exact ⟨Nat.le_refl _, Nat.le_refl _⟩
  | cons r l ih =>
    rw [List.foldl_cons, List.length_cons]
    obtain ⟨h1, h2⟩ := ih (apS x r)
    have h3 : (apS x r).2 i ≤ x.2 i + 1 ∧ ((apS x r).1 i).log.length ≤ (x.1 i).log.length + 1 := by
      show upN x.2 r.d _ i ≤ _ ∧ (upN x.1 r.d _ i).log.length ≤ _
      by_cases e : i = r.d
      · subst e
        rw [upN_same, upN_same]
        exact ⟨wrM_le _ _ _ _, wrS_len _ _ _ _ _⟩
      · rw [upN_ne _ _ e, upN_ne _ _ e]
        omega
    omega

/-- Some writes have come to the devices. -/
def Ap (D : DevRep) (B : Nat) (w0 w : World) (P : Nat → Nat) (S : Nat → DS) (C M : Nat → Nat) (F : Nat → Nat → Prop) (wr : World) (S' : Nat → DS) (M' : Nat → Nat) : Prop := ∃ F', Fam D B w0 wr P S' C M' F' ∧ Only (FamB C F) w wr ∧ ∀ i k, i < 3 → F' i k → F i k ∨ w.heap.size ≤ k

variable {S' : Nat → DS} {M' : Nat → Nat}

theorem Ap.start (h : Fam D B w0 w P S C M F) : Ap D B w0 w P S C M F w S M := ⟨F, h, Only.refl _ _, fun i k _ hk => .inl hk⟩

theorem Ap.next (hD : DevOk D) (h : Ap D B w0 w P S C M F wr S' M') (hb : Below wr.heap.size wr w') : Ap D B w0 w P S C M F w' S' M' := by
  obtain ⟨F', h1, h2, h3⟩ := h
  exact ⟨F', h1.next hD hb, h2.trans (G := FamB C F) (Only.of_below hb (Nat.le_refl _)) (fun _ _ h => h), h3⟩

theorem Ap.step (hD : DevOk D) (h : Ap D B w0 w P S C M F wr S' M') {i : Nat} (hi : i < 3) {F' : Nat → Nat → Prop} (h1 : Fam D B w0 wr P S' C M' F') (h3 : ∀ i k, i < 3 → F' i k → F i k ∨ w.heap.size ≤ k) {F2 X : Nat → Prop} {s2 : DS} {m2 : Nat} (ho : Only X wr w') (hX : ∀ k, X k → F' i k ∨ k = C i) (hg : Grew wr (F' i) F2) (hd : In D B w0 w' (P i) s2 (C i) m2 F2) (hn : s2.n = 6) : Ap D B w0 w P S C M F w' (upN S' i s2) (upN M' i m2) := by
  obtain ⟨_, _, h2, _⟩ := h
  refine ⟨upN F' i F2, h1.turn hD hi ho hX hg hd hn, h2.trans ho (fun k hk hx => ?_), fun j k hj hk => ?_⟩
  · rcases hX k hx with h4 | h4
    · exact (h3 i k hi h4).elim (fun h5 => ⟨i, hi, .inl h5⟩) (fun h5 => absurd hk (Nat.not_lt.2 h5))
    · exact ⟨i, hi, .inr h4⟩
  · by_cases e : j = i
    · subst e
      rw [upN_same] at hk
      rcases hg k hk with h4 | h4
      · exact h3 j k hj h4
      · exact .inr (Nat.le_trans h2.size h4)
    · rw [upN_ne _ _ e] at hk
      exact h3 j k hj hk

theorem wrS_n (s : DS) (i : Int) (b : Nat → Nat) (L m : Nat) : (wrS s i b L m).n = s.n := by
  unfold wrS
  split <;> rfl
theorem syS_n (s : DS) (m : Nat) : (syS s m).n = s.n := by
  unfold syS
  split <;> rfl

theorem Ap.write (hD : DevOk D) {wr0 : World} (h0 : Ap D B w0 w P S C M F wr0 S' M') (hb0 : Below wr0.heap.size wr0 wr) {r : Wr} (hd : r.d < 3) (hs : r.s < 6) {gb gc : Nat} (hb : Bytes wr (some ⟨gb, 0, none⟩) 64 r.f) (hc : 64 ≤ gc) (hb2 : ∀ j, r.f j < 256) (hm : M' r.d ≤ 100000) (hl : (S' r.d).log.length ≤ 100000) :
    Calls Try.prog 26 #[ptr (P r.d), .int .i64 (r.s : Nat), .slice (some ⟨gb, 0, none⟩) 64 gc] wr fun e w6 => (∃ z : Int, e = .returned (.int .i64 z)) ∧ Ap D B w0 w P S C M F w6 (apS (S', M') r).1 (apS (S', M') r).2 ∧ ∀ k, wr0.heap.size ≤ k → k < wr.heap.size → w6.heap[k]? = wr.heap[k]? := by
  have h := h0.next hD hb0
  obtain ⟨F', g1, g2, h3⟩ := h0
  have h1 := g1.next hD hb0
  refine (in_write hD (h1.dev r.d hd) (r.s : Nat) (some ⟨gb, 0, none⟩) 64 gc r.f ⟨by omega, by omega⟩ hm hl hc (by unfold maxLen; omega) (fun e => by cases e) hb hb2 (.inr trivial)).mono ?_
  rintro e w6 ⟨rfl, ho, F2, hg, hi⟩
  refine ⟨⟨_, rfl⟩, h.step hD hd h1 h3 ho (fun k hk => hk) hg hi ((wrS_n _ _ _ _ _).trans (h1.n r.d hd)), fun k hk1 hk2 => ho.block k hk2 (fun hx => hx.elim (fun hx => absurd ((g1.dev r.d hd).lt hD k hx) (Nat.not_lt.2 hk1)) (fun hx => absurd ((g1.dev r.d hd).clt hD) (Nat.not_lt.2 (hx ▸ hk1))))⟩

theorem Ap.sync (hD : DevOk D) (h : Ap D B w0 w P S C M F wr S' M') {i : Nat} (hi : i < 3) (hm : M' i ≤ 100000) (hl : (S' i).log.length ≤ 100000) :
    Calls Try.prog 51 #[ptr (P i)] wr fun e w6 => (∃ z : Int, e = .returned (.int .i64 z)) ∧ Ap D B w0 w P S C M F w6 (upN S' i (syS (S' i) (M' i))) M' := by
  have h0 := h
  obtain ⟨F', h1, h2, h3⟩ := h
  refine (in_sync hD (h1.dev i hi) hm hl).mono ?_
  rintro e w6 ⟨rfl, ho, F2, hg, hd⟩
  have e : upN M' i (M' i) = M' := by
    funext j
    unfold upN
    split
    · next e => rw [e]
    · rfl
  have := h0.step hD hi h1 h3 ho (fun k hk => .inl hk) hg hd ((syS_n _ _).trans (h1.n i hi))
  rw [e] at this
  exact ⟨⟨_, rfl⟩, this⟩

/-- What lies elsewhere is as it was. -/
theorem Ap.cat (h : Ap D B w0 w P S C M F wr S' M') (hc : CAt w cb P dv o kv ks GO GK) (hs : ∀ k, GO k ∨ GK k → ¬ FamB C F k) : CAt wr cb P dv o kv ks GO GK := by
  obtain ⟨F', h1, h2, h3⟩ := h
  exact hc.kept h2.size (fun k hk => h2.block k (hc.lt k hk) (hs k hk))

/-- The first k of them are synced. -/
def syN (S : Nat → DS) (M : Nat → Nat) (k : Nat) : Nat → DS := fun i => if i < k then syS (S i) (M i) else S i
theorem syN_zero (S : Nat → DS) (M : Nat → Nat) : syN S M 0 = S := by
  funext i
  unfold syN
  rw [if_neg (Nat.not_lt_zero _)]
theorem syN_next (S : Nat → DS) (M : Nat → Nat) (k : Nat) : upN (syN S M k) k (syS (syN S M k k) (M k)) = syN S M (k + 1) := by
  funext i
  unfold upN syN
  by_cases e : i = k
  · subst e
    rw [if_pos rfl, if_neg (Nat.lt_irrefl _), if_pos (Nat.lt_succ_self _)]
  · rw [if_neg e]
    by_cases h : i < k
    · rw [if_pos h, if_pos (by omega)]
    · rw [if_neg h, if_neg (by omega)]

theorem CAt.clear (h : CAt w cb P dv o kv ks GO GK) : CAt (w.setCell ⟨cb, 3, none⟩ (.slice none 0 0)) cb P dv o (.slice none 0 0) [] GO GK ∧ Only (fun k => GO k ∨ GK k) w (w.setCell ⟨cb, 3, none⟩ (.slice none 0 0)) := by
  have ho := only_setCell w cb 3 (.slice none 0 0)
  have hX : ∀ k, k = cb → ∃ t cs, Has w k t cs ∧ t ≠ 78 ∧ t ≠ 5 := fun k e => e ▸ ⟨_, _, h.str, by decide, by decide⟩
  refine ⟨⟨h.str.setV 3 _, own_keptC h.dev (fun g e => ho.block g (h.dev.lt g e).2 (fun e2 => own_has_neC h.dev h.str (by decide) (by rw [e, e2]))), h.opn.others hX (fun k hk hn => ho.block k (h.lt k (.inl hk)) hn), ⟨rfl, .inl ⟨rfl, rfl⟩⟩, (fun g hg => by cases hg), h.gcb, h.gdv, (fun g e => by cases e), h.sep, fun k hk => Nat.lt_of_lt_of_le (h.lt k hk) ho.size, fun g hg r hr => ?_⟩, ho.mono (fun k e => .inr (e ▸ h.gcb))⟩
  rcases List.mem_cons.1 hg with rfl | hg
  · exact h.ok g (List.mem_cons_self ..) r hr
  · cases hg

/-- What Apply leaves. -/
def ApplyR (D : DevRep) (B : Nat) (w0 w : World) (cb : Nat) (P : Nat → Nat) (S : Nat → DS) (C M : Nat → Nat) (F : Nat → Nat → Prop) (dv : Value) (o : GV) (ks : List GV) (GO GK : Nat → Prop) (w' : World) : Prop := ∃ F', CI D B w0 w' cb P (syN ((wl ks).foldl apS (S, M)).1 ((wl ks).foldl apS (S, M)).2 3) C ((wl ks).foldl apS (S, M)).2 F' dv o (.slice none 0 0) [] GO GK ∧ Only (fun k => (GO k ∨ GK k) ∨ FamB C F k) w w' ∧ ∀ i k, i < 3 → F' i k → F i k ∨ w.heap.size ≤ k

theorem apply_fin (hD : DevOk D) (h : CI D B w0 w cb P S C M F dv o kv ks GO GK) (hA : Ap D B w0 w P S C M F wr (syN ((wl ks).foldl apS (S, M)).1 ((wl ks).foldl apS (S, M)).2 3) ((wl ks).foldl apS (S, M)).2) : ApplyR D B w0 w cb P S C M F dv o ks GO GK (wr.setCell ⟨cb, 3, none⟩ (.slice none 0 0)) := by
  have hC := hA.cat h.c h.sep
  obtain ⟨F', h1, h2, h3⟩ := hA
  obtain ⟨k1, k2⟩ := hC.clear
  have hsep : ∀ k, GO k ∨ GK k → ¬ FamB C F' k := by
    rintro k hk ⟨i, hi, hf | hf⟩
    · rcases h3 i k hi hf with h4 | h4
      · exact h.sep k hk ⟨i, hi, .inl h4⟩
      · exact absurd (h.c.lt k hk) (Nat.not_lt.2 h4)
    · exact h.sep k hk ⟨i, hi, .inr hf⟩
  exact ⟨F', ⟨h1.only hD k2 (fun k hk => hsep k hk) (fun k hk => h.base k hk), k1, hsep, h.base⟩, (h2.mono (fun k hk => .inr hk)).trans k2 (fun k _ hk => .inl hk), h3⟩

set_option maxRecDepth 100000 in
set_option maxHeartbeats 4000000 in
theorem ccapply_c (hD : DevOk D) (h : CI D B w0 w cb P S C M F dv o kv ks GO GK) (hM : ∀ i, i < 3 → M i ≤ 50000 ∧ (S i).log.length ≤ 50000) (hlen : ks.length ≤ 1000) (htot : cnt ks ≤ 10000) : Calls Try.prog 19 #[ptr cb] w fun e w' => e = .returned (.tuple #[]) ∧ ApplyR D B w0 w cb P S C M F dv o ks GO GK w' := by
  have hn := pc_some cb
  obtain ⟨aK, cK, hkv, _, _, _, _⟩ := own_slice h.c.krow
  have c3 := h.c.str.cell 3
  simp only [List.getElem?_toArray, List.getElem?_cons_zero, List.getElem?_cons_succ] at c3
  rw [hkv] at c3
  have HFIN := hidC (fun wr (hA : Ap D B w0 w P S C M F wr (syN ((wl ks).foldl apS (S, M)).1 ((wl ks).foldl apS (S, M)).2 3) ((wl ks).foldl apS (S, M)).2) => apply_fin hD h hA)
  have HCAT := hidC (fun wr S' M' (hA : Ap D B w0 w P S C M F wr S' M') => hA.cat h.c h.sep)
  have HA0 := hidC (Ap.start h.fam)
  have HBD := hidC (fun (l : List Wr) (hl : l.length ≤ 10000) i (hi : i < 3) => show (l.foldl apS (S, M)).2 i ≤ 100000 ∧ ((l.foldl apS (S, M)).1 i).log.length ≤ 100000 by have := apl_le l (S, M) i; have := hM i hi; simp only at *; omega)
  have HTOT := hidC (show ∀ k, (wl (ks.take k)).length ≤ 10000 from fun k => by rw [wl_len]; exact Nat.le_trans (cnt_le ks k) htot)
  have HOK := hidC h.c.ok
  have HKV := hidC hkv
  obtain ⟨NK, hNK⟩ : ∃ NK, NK = ks.length := ⟨_, rfl⟩
  rw [← hNK] at c3
  have HNK := hidC hNK
  have hNb : NK ≤ 1000 := by omega
  clear h hkv hNK htot hM
  go_enter Try.func19, Try.ntmps19
  go_wp2
  go_loopw [15] (fun iv wr => ∃ k : Nat, k ≤ NK ∧ iv = .int .i64 (k : Nat) ∧ Ap D B w0 w P S C M F wr ((wl (ks.take k)).foldl apS (S, M)).1 ((wl (ks.take k)).foldl apS (S, M)).2)
    (fun iv _ => NK - (intOf iv).toNat)
  case atStart => exact ⟨0, Nat.zero_le _, rfl, HA0.out⟩
  case round =>
    obtain ⟨k, hk, rfl, hA⟩ := hrel
    by_cases hlt : k < NK
    · have hC := HCAT.out _ _ _ hA
      obtain ⟨gv, hk3⟩ : ∃ gv, ks[k]? = some gv := ⟨_, List.getElem?_eq_getElem (by rw [← HNK.out]; exact hlt)⟩
      obtain ⟨gk, cK', e, _, ck0, ck1⟩ := hC.kept_at hk3
      have e' := HKV.out.symm.trans e
      injection e' with e1 _ e3
      subst e1 e3
      have hgrp := hC.kgs gv (List.mem_of_getElem? hk3)
      obtain ⟨aL, cL, hlv, _, hnil⟩ := hgrp.sl
      have HONE := hidC hgrp.one2
      have HLV := hidC hlv
      have HWL := hidC (wl_take ks k hk3)
      have HT1 := HTOT.out (k + 1)
      rw [HWL.out, List.length_append, List.length_map] at HT1
      have HTL := hidC HT1
      rw [hlv] at ck1 HONE
      generalize hmv : gv.mv = mv at *
      have HK3 := hidC hk3
      clear hC e hlv hmv hgrp HT1
      obtain ⟨NL, hNL⟩ : ∃ NL, NL = gv.rows.length := ⟨_, rfl⟩
      rw [← hNL] at ck1 HONE HLV
      have HNL := hidC hNL
      have hNLb : NL ≤ 10000 := by have := HTL.out; omega
      clear hNL hnil
      have i0 : (k : Int) < (NK : Int) := by omega
      have i1 : (0 : Int) ≤ (k : Int) := by omega
      have HI := hidC (And.intro i0 i1)
      go_wp2_with (first
        | ((with_reducible refine at_dstC 17 rfl ?_)
           (refine wpList_is (some 17) (.pointer (some ⟨gk, k * 2, none⟩)) rfl (by rfl) (run_at_gr _ _ rfl gk k NK cK rfl rfl hlt _) ?_))
        | ((with_reducible refine at_dstC 18 rfl ?_)
           (refine wpList_is (some 18) (.agg #[mv, .slice aL NL cL]) rfl (by rfl) (run_load_gr _ rfl gk (k * 2) rfl _ _ _ ck0 ck1) ?_))
        | (refine wpList_copyC wr 70 _ #[mv, .slice aL NL cL] rfl _ _ rfl rfl rfl Try.size70 rfl HONE.out ?_; intro W3 hH3 hb3; have c31 := hH3.cell 1; simp only [List.getElem?_toArray, List.getElem?_cons_zero, List.getElem?_cons_succ] at c31)
)
      have HA3 := hidC (hA.next hD hb3)
      clear hA hb3
      go_loopw [22] (fun jv wr => ∃ j : Nat, j ≤ NL ∧ jv = .int .i64 (j : Nat) ∧ Ap D B w0 w P S C M F wr ((wl (ks.take k) ++ (gv.rows.map (·.1)).take j).foldl apS (S, M)).1 ((wl (ks.take k) ++ (gv.rows.map (·.1)).take j).foldl apS (S, M)).2)
        (fun jv _ => NL - (intOf jv).toNat)
      case atStart => exact ⟨0, Nat.zero_le _, rfl, by rw [List.take_zero, List.append_nil]; exact HA3.out⟩
      case round =>
        obtain ⟨j, hj, rfl, hA⟩ := hrel
        by_cases hjl : j < NL
        · have hC := HCAT.out _ _ _ hA
          have hmem := List.mem_of_getElem? HK3.out
          have hgrp := hC.kgs gv hmem
          obtain ⟨r, hr⟩ : ∃ r, gv.rows[j]? = some r := ⟨_, List.getElem?_eq_getElem (by rw [← HNL.out]; exact hjl)⟩
          have hrm := List.mem_of_getElem? hr
          obtain ⟨gl, cL', e2, _, _, _, d0, d1, d2⟩ := hgrp.at_ hr
          have e3 := HLV.out.symm.trans e2
          injection e3 with q1 q2 q3
          subst q1 q3
          have hda := hgrp.dat r hrm
          obtain ⟨gb, gc, hrv, hgc, hby, hgbl⟩ := hda.sl
          obtain ⟨hrd, hrs⟩ := HOK.out gv (List.mem_cons_of_mem _ hmem) r hrm
          obtain ⟨gd, cd, hdv, _, hgdl, hcd⟩ := hC.devs
          have hc0 := hC.str.cell 0
          have hcbl := hC.lt cb (.inr hC.gcb)
          simp only [List.getElem?_toArray, List.getElem?_cons_zero] at hc0
          rw [hdv] at hc0
          have hcr := hcd r.1.d hrd
          obtain ⟨hm1, hm2⟩ := HBD.out (wl (ks.take k) ++ (gv.rows.map (·.1)).take j) (by have := HTL.out; rw [List.length_append, List.length_take, List.length_map]; omega) r.1.d hrd
          have HAPW := hidC (fun W (hb : Below wr.heap.size wr W) => Ap.write hD hA hb hrd hrs (gb := gb) (gc := gc) (hby.below hb (Nat.le_refl _)) hgc hda.byt hm1 hm2)
          have HNX := hidC (show (gv.rows.map (·.1)).take (j + 1) = (gv.rows.map (·.1)).take j ++ [r.1] by rw [List.take_add_one, List.getElem?_map, hr]; rfl)
          have HCD := hidC (show ∀ W, CAt W cb P dv o kv ks GO GK → W.cell? ⟨cb, 0, none⟩ = some (.slice (some ⟨gd, 0, none⟩) 3 cd) ∧ W.cell? ⟨gd, r.1.d, none⟩ = some (ptr (P r.1.d)) from fun W hW => by
            obtain ⟨gd', cd', e4, _, _, h5⟩ := hW.devs
            have h6 := hW.str.cell 0
            simp only [List.getElem?_toArray, List.getElem?_cons_zero] at h6
            have e5 := hdv.symm.trans e4
            injection e5 with e6 _ e7
            injection e6 with e6
            injection e6 with e6
            subst e6 e7
            rw [hdv] at h6
            exact ⟨h6, h5 r.1.d hrd⟩)
          rw [hrv] at d2
          have HRV := hidC hrv
          have HJL := hidC hjl
          have hlt2 := hjl
          have j0 : (j : Int) < (NL : Int) := by omega
          have j1 : (0 : Int) ≤ (j : Int) := by omega
          have HAJ := hidC hA
          obtain ⟨rd, hrde⟩ : ∃ rd, rd = r.1.d := ⟨_, rfl⟩
          obtain ⟨rs, hrse⟩ : ∃ rs, rs = r.1.s := ⟨_, rfl⟩
          rw [← hrde] at d0 hcr hrd HAPW HCD
          rw [← hrse] at d1 HAPW
          clear hC hgrp e2 hda hrv hby hgbl hr hrm hdv hcd hm1 hm2 hA q2 hrde hrse hrs hmem
          clear i0 i1
          go_wp2_with (first
            | ((with_reducible refine at_dstC 24 rfl ?_)
               (refine wpList_is (some 24) (.pointer (some ⟨gl, j * 3, none⟩)) rfl (by rfl) (run_at_wr _ _ rfl gl j NL cL rfl rfl hlt2 _) ?_))
            | ((with_reducible refine at_dstC 25 rfl ?_)
               (refine wpList_is (some 25) (.agg #[.int .i64 (rd : Nat), .int .i64 (rs : Nat), .slice (some ⟨gb, 0, none⟩) 64 gc]) rfl (by rfl) (run_load_wr _ rfl gl (j * 3) rfl _ _ _ _ d0 d1 d2) ?_))
            | (refine wpList_copyC wr 78 _ #[.int .i64 (rd : Nat), .int .i64 (rs : Nat), .slice (some ⟨gb, 0, none⟩) 64 gc] rfl _ _ rfl rfl rfl Try.size78 rfl (by simp [Value.oneCell']) ?_; intro W5 hH5 hb5))
          have hbd5 : Below wr.heap.size wr W5.drew := hb5.trans ⟨rfl, rfl, rfl, Nat.le_refl _, fun _ _ => rfl⟩
          have HH5 := hidC (show Has W5.drew wr.heap.size 78 _ from hH5)
          have HC5 := hidC ((hbd5.cell (p := ⟨cb, 0, none⟩) hcbl).trans hc0)
          have HP5 := hidC ((hbd5.cell (p := ⟨gd, rd, none⟩) hgdl).trans hcr)
          have HWR := hidC (show Calls Try.prog 26 #[ptr (P rd), .int .i64 (rs : Nat), .slice (some ⟨gb, 0, none⟩) 64 gc] W5.drew (fun e w6 => (∃ z : Int, e = .returned (.int .i64 z)) ∧ w6.cell? ⟨cb, 0, none⟩ = some (.slice (some ⟨gd, 0, none⟩) 3 cd) ∧ w6.cell? ⟨gd, rd, none⟩ = some (ptr (P rd)) ∧ Has w6 wr.heap.size 78 #[.int .i64 (rd : Nat), .int .i64 (rs : Nat), .slice (some ⟨gb, 0, none⟩) 64 gc] ∧ Ap D B w0 w P S C M F w6 (apS (((wl (ks.take k) ++ (gv.rows.map (·.1)).take j).foldl apS (S, M)).1, ((wl (ks.take k) ++ (gv.rows.map (·.1)).take j).foldl apS (S, M)).2) r.1).1 (apS (((wl (ks.take k) ++ (gv.rows.map (·.1)).take j).foldl apS (S, M)).1, ((wl (ks.take k) ++ (gv.rows.map (·.1)).take j).foldl apS (S, M)).2) r.1).2) from by
            refine (HAPW.out _ hbd5).mono ?_
            rintro e w6 ⟨h1, h2, h3⟩
            obtain ⟨h4, h5⟩ := HCD.out w6 (HCAT.out _ _ _ h2)
            exact ⟨h1, h4, h5, (h3 _ (Nat.le_refl _) HH5.out.lt).trans HH5.out, h2⟩)
          clear hH5 hb5 hbd5 d0 d1 d2 hc0 hcr
          refine wp_region_held_drew (S := fun wz => wz.cell? ⟨cb, 0, none⟩ = some (.slice (some ⟨gd, 0, none⟩) 3 cd) ∧ wz.cell? ⟨gd, rd, none⟩ = some (ptr (P rd)) ∧ Has wz wr.heap.size 78 #[.int .i64 (rd : Nat), .int .i64 (rs : Nat), .slice (some ⟨gb, 0, none⟩) 64 gc]) (by kernel_rfl) (⟨HC5.out, HP5.out, HH5.out⟩) (fun hHeld => ?_)
          refine takeTo 0 (some 26) (.pointer (some ⟨cb, 0, none⟩)) rfl rfl (by kernel_rfl) (by kernel_rfl) (by kernel_rfl) (fun _ _ _ h => h) (by rfl) (fun _ _ => rfl) hHeld ?_
          simp only [Act.put, List.setIfInBounds_toArray, List.set_cons_zero, List.set_cons_succ]
          refine takeTo 1 (some 27) (.pointer (some ⟨cb, 0, none⟩)) rfl rfl (by kernel_rfl) (by kernel_rfl) (by kernel_rfl) (fun _ _ _ h => h) (by rfl) (fun _ _ => rfl) hHeld ?_
          simp only [Act.put, List.setIfInBounds_toArray, List.set_cons_zero, List.set_cons_succ]
          refine takeTo 2 (some 28) (.pointer (some ⟨cb, 0, none⟩)) rfl rfl (by kernel_rfl) (by kernel_rfl) (by kernel_rfl) (fun _ _ _ h => h) (by rfl) (fun _ _ => rfl) hHeld ?_
          simp only [Act.put, List.setIfInBounds_toArray, List.set_cons_zero, List.set_cons_succ]
          refine takeTo 3 (some 29) (.slice (some ⟨gd, 0, none⟩) 3 cd) rfl rfl (by kernel_rfl) (by kernel_rfl) (by kernel_rfl) (fun _ _ _ h => h) (by rfl) (fun wz hz => run_load_dsC _ rfl _ rfl _ _ hz.1) hHeld ?_
          simp only [Act.put, List.setIfInBounds_toArray, List.set_cons_zero, List.set_cons_succ]
          refine takeTo 4 (some 30) (.pointer (some ⟨wr.heap.size, 0, none⟩)) rfl rfl (by kernel_rfl) (by kernel_rfl) (by kernel_rfl) (fun _ _ _ h => h) (by rfl) (fun _ _ => rfl) hHeld ?_
          simp only [Act.put, List.setIfInBounds_toArray, List.set_cons_zero, List.set_cons_succ]
          refine takeTo 5 (some 31) (.int .i64 (rd : Nat)) rfl rfl (by kernel_rfl) (by kernel_rfl) (by kernel_rfl) (fun _ _ _ h => h) (by rfl) (fun wz hz => by have z0 := hz.2.2.cell 0; unfold execOp; go_simp) hHeld ?_
          simp only [Act.put, List.setIfInBounds_toArray, List.set_cons_zero, List.set_cons_succ]
          refine takeTo 6 (some 32) (.pointer (some ⟨gd, rd, none⟩)) rfl rfl (by kernel_rfl) (by kernel_rfl) (by kernel_rfl) (fun _ _ _ h => h) (by rfl) (fun wz _ => run_at_pd _ _ rfl gd rd 3 cd rfl rfl hrd wz) hHeld ?_
          simp only [Act.put, List.setIfInBounds_toArray, List.set_cons_zero, List.set_cons_succ]
          refine takeTo 7 (some 33) (ptr (P rd)) rfl rfl (by kernel_rfl) (by kernel_rfl) (by kernel_rfl) (fun _ _ _ h => h) (by rfl) (fun wz hz => run_load_pdC _ rfl _ rfl _ _ hz.2.1) hHeld ?_
          simp only [Act.put, List.setIfInBounds_toArray, List.set_cons_zero, List.set_cons_succ]
          refine takeTo 8 (some 34) (.pointer (some ⟨wr.heap.size, 1, none⟩)) rfl rfl (by kernel_rfl) (by kernel_rfl) (by kernel_rfl) (fun _ _ _ h => h) (by rfl) (fun _ _ => rfl) hHeld ?_
          simp only [Act.put, List.setIfInBounds_toArray, List.set_cons_zero, List.set_cons_succ]
          refine takeTo 9 (some 35) (.int .i64 (rs : Nat)) rfl rfl (by kernel_rfl) (by kernel_rfl) (by kernel_rfl) (fun _ _ _ h => h) (by rfl) (fun wz hz => by have z0 := hz.2.2.cell 1; unfold execOp; go_simp) hHeld ?_
          simp only [Act.put, List.setIfInBounds_toArray, List.set_cons_zero, List.set_cons_succ]
          refine takeTo 10 (some 36) (.pointer (some ⟨wr.heap.size, 2, none⟩)) rfl rfl (by kernel_rfl) (by kernel_rfl) (by kernel_rfl) (fun _ _ _ h => h) (by rfl) (fun _ _ => rfl) hHeld ?_
          simp only [Act.put, List.setIfInBounds_toArray, List.set_cons_zero, List.set_cons_succ]
          refine takeTo 11 (some 37) (.slice (some ⟨gb, 0, none⟩) 64 gc) rfl rfl (by kernel_rfl) (by kernel_rfl) (by kernel_rfl) (fun _ _ _ h => h) (by rfl) (fun wz hz => by have z0 := hz.2.2.cell 2; unfold execOp; go_simp) hHeld ?_
          simp only [Act.put, List.setIfInBounds_toArray, List.set_cons_zero, List.set_cons_succ]
          refine callTo 12 (some 38) 26 #[ptr (P rd), .int .i64 (rs : Nat), .slice (some ⟨gb, 0, none⟩) 64 gc] (by kernel_rfl) rfl rfl (by rfl) (by kernel_rfl) HWR.out ?_
          rintro e w6 ⟨⟨z6, rfl⟩, hq1, hq2, hq3, hA6⟩
          refine ⟨_, rfl, ⟨hq1, hq2, hq3⟩, ?_⟩
          simp only [Act.put, List.setIfInBounds_toArray, List.set_cons_zero, List.set_cons_succ]
          refine wpAnyH_done (by kernel_rfl) ?_ _
          clear hHeld
          go_wp2
          go_roundw
          case rel => exact ⟨j + 1, by have := HJL.out; omega, by go_num, by rw [HNX.out, ← List.append_assoc, List.foldl_append]; exact hA6⟩
          case measure => have := HJL.out; simp [intOf]; omega
        · obtain rfl : j = NL := by omega
          have HNX := hidC (show (gv.rows.map (·.1)).take j = gv.rows.map (·.1) by rw [HNL.out, List.take_of_length_le (by rw [List.length_map]; exact Nat.le_refl _)])
          rw [HNX.out, ← HWL.out] at hA
          have HI1 := HI.out
          go_wp2
          go_roundw
          case rel => exact ⟨k + 1, by have := HI.out; omega, by go_num, hA⟩
          case measure => have := HI.out; simp [intOf]; omega
    · obtain rfl : k = NK := by omega
      have HTK := hidC (show ks.take k = ks by rw [HNK.out, List.take_length])
      rw [HTK.out] at hA
      have hC := HCAT.out _ _ _ hA
      have hc0 := hC.str.cell 0
      simp only [List.getElem?_toArray, List.getElem?_cons_zero] at hc0
      obtain ⟨gd, cd, hdv, _, _, _⟩ := hC.devs
      rw [hdv] at hc0
      have HBS := hidC (HBD.out (wl ks) (by have := HTOT.out k; rw [HTK.out] at this; exact this))
      have HDV := hidC hdv
      have HA1 := hidC hA
      clear hC hdv hA
      go_wp2
      go_loopw [46] (fun iv wr => ∃ i : Nat, i ≤ 3 ∧ iv = .int .i64 (i : Nat) ∧ Ap D B w0 w P S C M F wr (syN ((wl ks).foldl apS (S, M)).1 ((wl ks).foldl apS (S, M)).2 i) ((wl ks).foldl apS (S, M)).2)
        (fun iv _ => 3 - (intOf iv).toNat)
      case atStart => exact ⟨0, by omega, rfl, by rw [syN_zero]; exact HA1.out⟩
      case round =>
        obtain ⟨i, hi, rfl, hA⟩ := hrel
        have hC := HCAT.out _ _ _ hA
        by_cases hi3 : i < 3
        · obtain ⟨gd', cd', e4, _, _, h5⟩ := hC.devs
          have e5 := HDV.out.symm.trans e4
          injection e5 with e6 _ e7
          injection e6 with e6
          injection e6 with e6
          subst e6 e7
          have hci := h5 i hi3
          have HSY := hidC (Ap.sync hD hA hi3 (HBS.out i hi3).1 (by
            have e : syN ((wl ks).foldl apS (S, M)).1 ((wl ks).foldl apS (S, M)).2 i i = ((wl ks).foldl apS (S, M)).1 i := if_neg (Nat.lt_irrefl _)
            rw [e]
            exact (HBS.out i hi3).2))
          rw [syN_next] at HSY
          have k0 : (i : Int) < 3 := by omega
          have k1 : (0 : Int) ≤ (i : Int) := by omega
          have HI3 := hidC hi3
          clear hC e4 h5 hA
          go_wp2_with (first
            | ((with_reducible refine at_dstC 48 rfl ?_)
               (refine wpList_is (some 48) (.pointer (some ⟨gd, i, none⟩)) rfl (by rfl) (run_at_pd _ _ rfl gd i 3 cd rfl rfl hi3 _) ?_))
            | ((with_reducible refine at_dstC 49 rfl ?_)
               (refine wpList_is (some 49) (ptr (P i)) rfl (by rfl) (run_load_pdC _ rfl _ rfl _ _ hci) ?_))
            | ((go_at_call 51)
               (refine HSY.out.mono ?_)
               (rintro e w6 ⟨⟨z, rfl⟩, hA6⟩)))
          go_roundw
          case rel => exact ⟨i + 1, by have := HI3.out; omega, by go_num, hA6⟩
          case measure => have := HI3.out; simp [intOf]; omega
        · obtain rfl : i = 3 := by omega
          have HF := hidC (HFIN.out wr hA)
          have s3 := hC.str.cell 3
          simp only [List.getElem?_toArray, List.getElem?_cons_zero, List.getElem?_cons_succ] at s3
          have f3 := hC.str.free 3
          clear hC hA
          go_wp2
          refine bodyPost_end (results_none rfl _ _ _) rfl ?_
          exact ⟨rfl, HF.out⟩

set_option maxRecDepth 100000 in
set_option maxHeartbeats 1000000 in
theorem ccapply_nil (w : World) : Calls Try.prog 19 #[.pointer none] w fun e w' => e = .returned (.tuple #[]) ∧ w' = w := by
  have hn := pc_none
  go_enter Try.func19, Try.ntmps19
  go_wp2
  refine bodyPost_ret (results_none rfl _ _ _) rfl ?_
  exact ⟨rfl, rfl⟩
end Go.Proofs.Ytancebpjfbbcaaa
