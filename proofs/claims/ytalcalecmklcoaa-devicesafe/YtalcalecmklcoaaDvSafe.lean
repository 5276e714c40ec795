/- DeviceSafe, walked. -/
import Derived.Test.YtalcalecmklcoaaDvSafeR
namespace Go.Proofs.Ytalcalecmklcoaa
open Go.ChangeShapes Go.WideShapes Go.ChangeAt Go.RowKit
set_option linter.unusedVariables false

variable {D : DevRep}

/-- The sectors as they were, laid by. -/
structure Was (w : World) (F : Nat → Prop) (c gw : Nat) (W : Nat → Value) (h0 : Nat → Nat → Nat) (k : Nat) : Prop where
  has : Has w gw 52 (cells8 W)
  out : Out F c gw
  sl : ∀ j, ∃ a l p, W j = .slice a l p
  at_ : ∀ j, j < k → OutBy w F c (W j) (h0 j)

theorem Was.notint {w : World} {F : Nat → Prop} {c gw k : Nat} {W : Nat → Value} {h0 : Nat → Nat → Nat} (h : Was w F c gw W h0 k) (j : Nat) (u : Value) (hu : (cells8 W)[j]? = some u) : ∀ q n, u ≠ .int q n := by
  intro q n e
  by_cases hj : j < 8
  · rw [cells8_get _ j hj] at hu
    obtain ⟨a, l, p, hw⟩ := h.sl j
    rw [hw, e] at hu
    cases hu
  · have : (cells8 W)[j]? = none := by simp [cells8]; omega
    rw [this] at hu
    cases hu

theorem Was.only {w w' : World} {F F' : Nat → Prop} {c gw k : Nat} {W : Nat → Value} {h0 : Nat → Nat → Nat} (h : Was w F c gw W h0 k) (ho : Only (fun k => F k ∨ k = c) w w') (hg : Grew w F F') : Was w' F' c gw W h0 k :=
  ⟨h.has.only ho h.out, h.out.grew hg h.has.lt, h.sl, fun j hj => (h.at_ j hj).only ho hg⟩
theorem Was.below {w w' : World} {F : Nat → Prop} {c gw k : Nat} {W : Nat → Value} {h0 : Nat → Nat → Nat} (h : Was w F c gw W h0 k) (hb : Below w.heap.size w w') : Was w' F c gw W h0 k :=
  ⟨h.has.below hb h.has.lt, h.out, h.sl, fun j hj => (h.at_ j hj).below hb⟩

theorem Was.put {w w' : World} {F : Nat → Prop} {c gw k : Nat} {W : Nat → Value} {h0 : Nat → Nat → Nat} (h : Was w F c gw W h0 k) (hb : Below w.heap.size w w') (hF : ∀ x, F x → x < w.heap.size) (hc : c < w.heap.size) {v : Value} (hv : NewSec w w' v (h0 k)) : Has w' gw 52 (cells8 W) ∧ Was (w'.setCell ⟨gw, k, none⟩ v) F c gw (updV W k v) h0 (k + 1) := by
  obtain ⟨g, o, q, rfl, hq, hg, hB⟩ := hv.bytes
  have h' := h.below hb
  have hgw : gw < w.heap.size := h.has.lt
  refine ⟨h'.has, h'.has.set8 k _, h.out, ?_, ?_⟩
  · intro j
    unfold updV
    split
    · exact ⟨_, _, _, rfl⟩
    · exact h.sl j
  · intro j hj
    unfold updV
    have keep : ∀ u f, OutBy w' F c u f → OutBy (w'.setCell ⟨gw, k, none⟩ (.slice (some ⟨g, o, none⟩) 64 q)) F c u f := fun u f hu => hu.slices (grown_set1 w' gw k _) h'.has h'.notint
    by_cases e : j = k
    · rw [if_pos e, e]
      exact keep _ _ ⟨g, o, q, rfl, ⟨fun hf => by have := hF g hf; omega, by omega⟩, hB⟩
    · rw [if_neg e]
      exact keep _ _ (h'.at_ j (by omega))

/-- What DeviceSafe holds while the later ones are written. -/
structure Lat (D : DevRep) (w : World) (p c base gw gm : Nat) (l1 : List AE) (f1 : Nat → Nat → Nat) (mo : Int) (h0 : Nat → Nat → Nat) (W : Nat → Value) (wr : World) (k : Nat) (s : DS) (m : Nat) (F : Nat → Prop) (V : Nat → Value) (Ls : Nat → List (Nat × (Nat → Nat))) (lat : List AE) : Prop where
  dev : In D w.heap.size w wr p s c m F
  n : s.n = 8
  live : s.dead = false
  len : s.log.length ≤ k + 101
  m_ : m ≤ k + 101
  nb : NoBad s
  by_ : BytS s
  log : s.log = l1 ++ ⟨0, fun _ => 0, true, false, mo⟩ :: lat
  fst : s.fst = f1
  was : Was wr F c gw W h0 8
  may : May wr F c base gm V Ls
  mine : ∀ e, e ∈ lat → e.sync = false → e.i < 8 ∧ ∃ x, x ∈ Ls e.i ∧ x.2 = e.b
  short : ∀ j, j < 8 → (Ls j).length ≤ k
  bs : base ≤ wr.heap.size
  bw : w.heap.size ≤ base
  gmb : w.heap.size ≤ gm
  wlo : ∀ j, j < 8 → ∀ b o l q, W j = .slice (some ⟨b, o, none⟩) l q → b < base

/-- What was laid by is not turned by an append to a list. -/
theorem Was.rows {w w1 : World} {F : Nat → Prop} {c gw gm base : Nat} {W V : Nat → Value} {h0 : Nat → Nat → Nat} {Ls : Nat → List (Nat × (Nat → Nat))} (h : Was w F c gw W h0 8) (hM : May w F c base gm V Ls) (hlo : ∀ j, j < 8 → ∀ b o l k, W j = .slice (some ⟨b, o, none⟩) l k → b < base) (hgm : base ≤ gm) (i : Nat) (hi : i < 8) (o : Obj) (hgr : (w.alloc o).grownBy w1 (V i).ownBlock) (x : Value) : Was (w1.setCell ⟨gm, i, none⟩ x) F c gw W h0 8 := by
  have hb : Below w.heap.size w (w.alloc o) := (Below.refl _ _).alloc (Nat.le_refl _) _
  have ha := h.below hb
  have hMa := hM.below hb
  have hne : gw ≠ gm := fun e => by
    have h1 : w.heap[gw]? = some (.cells (cells8 W) 52 (0, 0)) := h.has
    have h2 : w.heap[gm]? = some (.cells (cells8 V) 54 (0, 0)) := hM.has
    rw [e, h2] at h1
    injection h1 with h1
    injection h1 with _ h1
    exact absurd h1 (by decide)
  have hgw1 : Has w1 gw 52 (cells8 W) := (hgr.block gw ha.has.lt (fun e => ne_row (hMa.row i hi) ha.has (by decide) e.symm)).trans ha.has
  refine ⟨(Below.heap_setCell w1 ⟨gm, i, none⟩ x gw hne).trans hgw1, h.out, h.sl, fun j hj => ?_⟩
  obtain ⟨b, oo, k, e, hn, hy⟩ := ha.at_ j hj
  have hbb := hlo j hj b oo 64 k e
  refine ⟨b, oo, k, e, hn, ?_⟩
  rcases hy with hy | ⟨b', o', e', hlt, hc⟩
  · cases hy
  · cases e'
    exact .inr ⟨b, oo, rfl, Nat.lt_of_lt_of_le hlt (Nat.le_trans hgr.size (by rw [size_set]; exact Nat.le_refl _)), fun q hq => by
      rw [World.cell?_of_block (a := ⟨b, oo + q, none⟩) (w := w1) (Below.heap_setCell w1 ⟨gm, i, none⟩ x b (by show b ≠ gm; omega)), World.cell?_of_block (a := ⟨b, oo + q, none⟩) (w := w.alloc o) (hgr.block b hlt (fun e => by have := ((hM.row i hi).lt b e.symm).1; omega))]
      exact hc q hq⟩

set_option maxRecDepth 100000 in
set_option maxHeartbeats 4000000 in
theorem safe_any (hD : DevOk D) (w : World) (sa : Option Addr) (len scap : Nat) (O : Nat → OpV) (hS : Script w sa len O) (ta : Option Addr) (len2 scap2 : Nat) (O2 : Nat → OpV) (hS2 : Script w ta len2 O2) (ka : Option Addr) (kL kC : Nat) (kb : Nat → Bool) (hk : BoIn w ka kL kC kb) :
    Calls Try.prog 4 #[.slice sa len scap, .slice ta len2 scap2, .slice ka kL kC] w fun e w' => e = .returned (.bool true) ∧ Below w.heap.size w w' := by
  have hnew := in_new (B := w.heap.size) (w0 := w) hD 8 (by decide) (by decide) (Below.refl _ w) (Nat.le_refl _)
  have hlen := hS.1
  have hlen2 := hS2.1
  unfold maxLen at hlen hlen2
  go_enter Try.func4, Try.ntmps4
  go_wp2_with (first
    | ((go_at_call 9)
       (refine hnew.mono ?_)
       (rintro e w1 ⟨p, c, F, rfl, hI, hb1, hF1, hc1⟩)
       (have hal := in_tells hD hI (dalive_any hD w1))
       (clear hnew hF1 hc1 hb1))
    | ((go_at_call 10)
       (refine hal.mono ?_)
       (rintro e w2 ⟨rfl, hb2, hI2⟩)
       (clear hal hI)))
  go_loopw [9] (fun i wr => ∃ k : Nat, k ≤ len ∧ k ≤ 100 ∧ i = .int .i64 (k : Nat) ∧ GoingQ D 8 (fun s => NoBad s ∧ BytS s) w wr p c k) (fun i _ => 100 - (intOf i).toNat)
  case atStart => exact ⟨0, Nat.zero_le _, Nat.zero_le _, rfl, _, _, _, hI2, rfl, rfl, Nat.le_refl _, Nat.le_refl _, fun _ => rfl, byt_fresh 8⟩
  case round =>
    obtain ⟨k, hkl0, hk60, rfl, hgo⟩ := hrel
    clear hI2
    obtain ⟨s, m, F', hIn, hn, hdd, hll, hmm, hQ, hBy⟩ := hgo
    by_cases hkk : k < len ∧ k < 100
    · obtain ⟨hkl, hk6⟩ := hkk
      obtain ⟨x, o, rfl, hx, hop⟩ := hS.2 k hkl
      obtain ⟨v, hv⟩ : ∃ v, v = O k := ⟨_, rfl⟩
      rw [← hv] at hop
      have hOp := hop.below hx hIn.below (Nat.le_refl _)
      have hby := hop.by_
      have i0 : (k : Int) < (len : Int) := by omega
      have i1 : (0 : Int) ≤ (k : Int) := by omega
      have i2 : (k : Int) < 100 := by omega
      clear hv hS hS2
      go_wp2
      have hwr' := in_write hD (hIn.next hD (Below.refl _ wr).drew) v.i v.a v.L v.C v.b hop.oi (by omega) (by omega) hby.le hby.max hby.nil (hby.at_.below (hIn.below.trans ((Below.refl _ wr).drew.mono hIn.sz)) (Nat.le_refl _)) hby.byt (.inr (hIn.apart hby.lt))
      refine wp_region_held_drew (S := fun wz => wz.cell? ⟨x, o + k * 4 + 1, none⟩ = some (.int .i64 v.i) ∧ wz.cell? ⟨x, o + k * 4 + 2, none⟩ = some (.slice v.a v.L v.C)) (by kernel_rfl) ⟨hOp.c1, hOp.c2⟩ (fun hHeld => ?_)
      refine takeTo 0 (some 47) (ptr p) rfl rfl (by kernel_rfl) (by kernel_rfl) (by kernel_rfl) (fun _ _ _ h => h) (by rfl) (fun _ _ => rfl) hHeld ?_
      simp only [Act.put, List.setIfInBounds_toArray, List.set_cons_zero, List.set_cons_succ]
      refine takeTo 1 (some 48) (.slice (some ⟨x, o, none⟩) len scap) rfl rfl (by kernel_rfl) (by kernel_rfl) (by kernel_rfl) (fun _ _ _ h => h) (by rfl) (fun _ _ => rfl) hHeld ?_
      simp only [Act.put, List.setIfInBounds_toArray, List.set_cons_zero, List.set_cons_succ]
      refine takeTo 2 (some 49) (.int .i64 (k : Nat)) rfl rfl (by kernel_rfl) (by kernel_rfl) (by kernel_rfl) (fun _ _ _ h => h) (by rfl) (fun _ _ => rfl) hHeld ?_
      simp only [Act.put, List.setIfInBounds_toArray, List.set_cons_zero, List.set_cons_succ]
      refine takeTo 3 (some 50) (.pointer (some ⟨x, o + k * 4, none⟩)) rfl rfl (by kernel_rfl) (by kernel_rfl) (by kernel_rfl) (fun _ _ _ h => h) (by rfl) (fun wz _ => run_at_op _ _ rfl x o k len scap rfl rfl hkl wz) hHeld ?_
      simp only [Act.put, List.setIfInBounds_toArray, List.set_cons_zero, List.set_cons_succ]
      refine takeTo 4 (some 51) (.pointer (some ⟨x, o + k * 4 + 1, none⟩)) rfl rfl (by kernel_rfl) (by kernel_rfl) (by kernel_rfl) (fun _ _ _ h => h) (by rfl) (fun _ _ => rfl) hHeld ?_
      simp only [Act.put, List.setIfInBounds_toArray, List.set_cons_zero, List.set_cons_succ]
      refine takeTo 5 (some 52) (.int .i64 v.i) rfl rfl (by kernel_rfl) (by kernel_rfl) (by kernel_rfl) (fun _ _ _ h => h) (by rfl) (fun wz hz => run_load_i _ rfl _ rfl _ wz hz.1) hHeld ?_
      simp only [Act.put, List.setIfInBounds_toArray, List.set_cons_zero, List.set_cons_succ]
      refine takeTo 6 (some 53) (.slice (some ⟨x, o, none⟩) len scap) rfl rfl (by kernel_rfl) (by kernel_rfl) (by kernel_rfl) (fun _ _ _ h => h) (by rfl) (fun _ _ => rfl) hHeld ?_
      simp only [Act.put, List.setIfInBounds_toArray, List.set_cons_zero, List.set_cons_succ]
      refine takeTo 7 (some 54) (.int .i64 (k : Nat)) rfl rfl (by kernel_rfl) (by kernel_rfl) (by kernel_rfl) (fun _ _ _ h => h) (by rfl) (fun _ _ => rfl) hHeld ?_
      simp only [Act.put, List.setIfInBounds_toArray, List.set_cons_zero, List.set_cons_succ]
      refine takeTo 8 (some 55) (.pointer (some ⟨x, o + k * 4, none⟩)) rfl rfl (by kernel_rfl) (by kernel_rfl) (by kernel_rfl) (fun _ _ _ h => h) (by rfl) (fun wz _ => run_at_op _ _ rfl x o k len scap rfl rfl hkl wz) hHeld ?_
      simp only [Act.put, List.setIfInBounds_toArray, List.set_cons_zero, List.set_cons_succ]
      refine takeTo 9 (some 56) (.pointer (some ⟨x, o + k * 4 + 2, none⟩)) rfl rfl (by kernel_rfl) (by kernel_rfl) (by kernel_rfl) (fun _ _ _ h => h) (by rfl) (fun _ _ => rfl) hHeld ?_
      simp only [Act.put, List.setIfInBounds_toArray, List.set_cons_zero, List.set_cons_succ]
      refine takeTo 10 (some 57) (.slice v.a v.L v.C) rfl rfl (by kernel_rfl) (by kernel_rfl) (by kernel_rfl) (fun _ _ _ h => h) (by rfl) (fun wz hz => run_load_row1 _ rfl _ rfl _ wz hz.2) hHeld ?_
      simp only [Act.put, List.setIfInBounds_toArray, List.set_cons_zero, List.set_cons_succ]
      refine callTo 11 (some 58) 11 #[ptr p, .int .i64 v.i, .slice v.a v.L v.C] (by kernel_rfl) rfl rfl (by rfl) (by kernel_rfl) hwr' ?_
      rintro e5 w5 ⟨rfl, hO5, F5, hg5, hI5⟩
      have hOp5 := hop.below hx hI5.below (Nat.le_refl _)
      refine ⟨_, rfl, ⟨hOp5.c1, hOp5.c2⟩, ?_⟩
      simp only [Act.put, List.setIfInBounds_toArray, List.set_cons_zero, List.set_cons_succ]
      refine wpAnyH_done (by kernel_rfl) ?_ _
      go_wp2
      go_roundw
      case rel => exact ⟨k + 1, by omega, by omega, by go_num, GoingQ.wrote (Q := fun s => NoBad s ∧ BytS s) (wr := wr) hI5 hn hdd hll hmm ⟨nobad_wr _ _ _ _ _ hQ, byt_wr _ _ _ _ _ hBy hby.byt⟩⟩
      case measure => simp [intOf]; omega
    · have hsy := in_sync hD hIn (by omega) (by omega)
      have eS : syS s m = syncD s m := by
        unfold syS
        rw [if_neg (by rw [hdd]; simp)]
      rw [eS] at hsy
      have hBy2 : BytS (syncD s m) := by rw [← eS]; exact byt_sy _ _ hBy
      have hl2 : (syncD s m).log.length ≤ 101 := by
        show (s.log ++ [_]).length ≤ 101
        rw [List.length_append]
        show s.log.length + 1 ≤ 101
        omega
      obtain ⟨S, hSS⟩ : ∃ S, S = syncD s m := ⟨_, rfl⟩
      have hSn : S.n = 8 := by rw [hSS]; exact hn
      have hSd : S.dead = false := by rw [hSS]; exact hdd
      have hSb : NoBad S := by rw [hSS]; exact hQ
      have hSl : S.log = s.log ++ ⟨0, fun _ => 0, true, false, (m : Int)⟩ :: [] := by rw [hSS]; rfl
      have hSf : S.fst = s.fst := by rw [hSS]; rfl
      rw [← hSS] at hsy hBy2 hl2
      clear hSS eS
      have hh0 : ∀ i, holds S i = s.log.foldl upF s.fst i := fun i => by
        unfold holds
        rw [hSl, hSf, List.foldl_append]
        rfl
      have HH : Hid (∀ i, holds S i = s.log.foldl upF s.fst i) := hh0
      clear hh0
      by_cases hk6 : k < len
      · have i0 : (k : Int) < (len : Int) := by omega
        have i1 : ¬ (k : Int) < 100 := by omega
        go_wp2_with (first
          | ((go_at_call 13)
             (refine hsy.mono ?_)
             (rintro e w3 ⟨rfl, _, F3, _, hI3⟩)
             (clear hsy)))
        clear i0
        obtain ⟨h0, hh0⟩ : ∃ h0, h0 = holds S := ⟨_, rfl⟩
        have hh0l : ∀ i j, h0 i j < 256 := by rw [hh0]; exact holds_lt S hBy2
        have hI3a := hI3.alloc hD (.cells (cells8 fun _ => .slice none 0 0) 52)
        have hW0 : Was (w3.alloc (.cells (cells8 fun _ => .slice none 0 0) 52)) F3 c w3.heap.size (fun _ => .slice none 0 0) h0 0 := ⟨Has.new _ _ _, ⟨fun hf => absurd (hI3.lt hD _ hf) (Nat.lt_irrefl _), fun e => absurd (e ▸ hI3.clt hD) (Nat.lt_irrefl _)⟩, fun _ => ⟨_, _, _, rfl⟩, fun j hj => absurd hj (Nat.not_lt_zero _)⟩
        have hgw : w.heap.size ≤ w3.heap.size := hI3.sz
        go_loopw [11] (fun i wz => ∃ (q : Nat) (W : Nat → Value), q ≤ 8 ∧ i = .int .i64 (q : Nat) ∧ Was wz F3 c w3.heap.size W h0 q ∧ In D w.heap.size w wz p S c m F3) (fun i _ => 8 - (intOf i).toNat)
        case atStart => exact ⟨0, _, Nat.zero_le _, rfl, hW0, hI3a⟩
        case round =>
          rename World => wo
          obtain ⟨q, W, hq, rfl, hWq, hIq⟩ := hrel
          clear hW0 hI3a hI3
          by_cases hq8 : q < 8
          · have j0 : (q : Int) < 8 := by omega
            have j1 : (0 : Int) ≤ (q : Int) := by omega
            have hr := in_read hD hIq (q : Int) ⟨by omega, by omega⟩
            rw [rdErr_ok S q hSd (by omega) (hSb q), Int.toNat_natCast, ← hh0] at hr
            go_wp2_with (first
              | ((go_at_call 20)
                 (refine hr.mono ?_)
                 (rintro e w4 ⟨hb4, hI4, v4, rfl, (⟨hv, _⟩ | ⟨_, hv4⟩)⟩)
                 (case inl => exact absurd rfl hv)
                 (obtain ⟨hg4, hW4⟩ := hWq.put hb4 (fun x hx => hIq.lt hD x hx) (hIq.clt hD) hv4)
                 (obtain ⟨g4, o4, n4, rfl, _, _, _⟩ := hv4.bytes)
                 (have c4 := hg4.cell q)
                 (rw [cells8_get _ q hq8] at c4)
                 (obtain ⟨a5, b5, d5, e5⟩ := hWq.sl q)
                 (rw [e5] at c4)
                 (have f4 := hg4.free q)
                 (have hI5 := hI4.only hD (G := fun k => k = w3.heap.size) (w' := w4.setCell ⟨w3.heap.size, q, none⟩ (.slice (some ⟨g4, o4, none⟩) 64 n4)) (only_set w4 _ _ _) (fun k hk e => hWq.out.1 (e ▸ hk)) (fun e => hWq.out.2 e.symm) (fun k e => by omega))
                 (clear hr hv4)))
            all_goals go_roundw
            case rel => exact ⟨q + 1, _, by omega, by go_num, hW4, hI5⟩
            case measure => simp [intOf]; omega
          · obtain rfl : q = 8 := by omega
            have j0 : ¬ ((8 : Nat) : Int) < 8 := by omega
            go_wp2
            clear hS
            have hIa := hIq.alloc hD (.cells (cells8 fun _ => .slice none 0 0) 54)
            have hWa := hWq.below ((Below.refl _ _).alloc (Nat.le_refl _) (.cells (cells8 fun _ => .slice none 0 0) 54))
            have hMa : May (wo.alloc (.cells (cells8 fun _ => .slice none 0 0) 54)) F3 c wo.heap.size wo.heap.size (fun _ => .slice none 0 0) (fun _ => []) :=
              ⟨Has.new _ _ _, ⟨fun hf => absurd (hIq.lt hD _ hf) (Nat.lt_irrefl _), fun e => absurd (e ▸ hIq.clt hD) (Nat.lt_irrefl _)⟩, fun i _ => World.ownsRow_nil _ _ _ _, (fun i _ g e => (by cases e)), (fun i j _ _ _ g e => (by cases e)), (fun i _ x hx => (by cases hx))⟩
            have hlo8 : ∀ j, j < 8 → ∀ b o l q, W j = .slice (some ⟨b, o, none⟩) l q → b < wo.heap.size := fun j hj b o l q e => by
              obtain ⟨b', o', k', e', _, hy⟩ := hWq.at_ j hj
              rw [e] at e'
              injection e' with e1 _ _
              rcases hy with hy | ⟨b2, o2, e2, hlt, _⟩
              · cases hy
              · rw [← e1] at e2
                cases e2
                exact hlt
            have hL0 : Lat D w p c wo.heap.size w3.heap.size wo.heap.size s.log s.fst (m : Int) h0 W (wo.alloc (.cells (cells8 fun _ => .slice none 0 0) 54)) 0 S m F3 (fun _ => .slice none 0 0) (fun _ => []) [] :=
              ⟨hIa, hSn, hSd, by omega, by omega, hSb, hBy2, hSl, hSf, hWa, hMa, (fun e he => (by cases he)), (fun j _ => Nat.le_refl _), (by simp), hIq.sz, hIq.sz, hlo8⟩
            have hbw := hIq.sz
            obtain ⟨l1, hl1⟩ : ∃ l1, l1 = s.log := ⟨_, rfl⟩
            obtain ⟨f1, hf1⟩ : ∃ f1, f1 = s.fst := ⟨_, rfl⟩
            obtain ⟨gm, hgm⟩ : ∃ gm, gm = wo.heap.size := ⟨_, rfl⟩
            rw [← hl1, ← hf1, ← hgm] at hL0
            rw [← hgm] at hbw
            have HH2 : Hid (∀ i, h0 i = l1.foldl upF f1 i) := fun i => by rw [hh0, hl1, hf1]; exact HH.out i
            obtain ⟨gw, hgw3⟩ : ∃ gw, gw = w3.heap.size := ⟨_, rfl⟩
            rw [← hgw3] at hL0
            obtain ⟨mo, hmo⟩ : ∃ mo : Int, mo = (m : Int) := ⟨_, rfl⟩
            rw [← hmo] at hL0
            have HW : Hid (gm = wo.heap.size ∧ gw = w3.heap.size) := ⟨hgm, hgw3⟩
            rw [show w3.heap.size = gw from hgw3.symm, show wo.heap.size = gm from hgm.symm]
            clear hIa hWa hMa hIq hWq hmo hgw3 hgm hl1 hf1 hh0 HH hSl hSf hBy2 hl2 hSn hSd hSb hIn hn hdd hll hmm hQ hBy hkk hk6 hkl0 hk60 hgw hlo8
            go_loopw [15] (fun i wz => ∃ (k : Nat) (s : DS) (m : Nat) (F : Nat → Prop) (V : Nat → Value) (Ls : Nat → List (Nat × (Nat → Nat))) (lat : List AE), k ≤ len2 ∧ k ≤ 100 ∧ i = .int .i64 (k : Nat) ∧ Lat D w p c gm gw gm l1 f1 mo h0 W wz k s m F V Ls lat) (fun i _ => 100 - (intOf i).toNat)
            case atStart => exact ⟨0, _, _, _, _, _, _, Nat.zero_le _, Nat.zero_le _, rfl, hL0⟩
            case round =>
              rename World => wl
              obtain ⟨k, s, m, F', V, Ls, lat, hkl0, hk60, rfl, hL⟩ := hrel
              clear hL0
              by_cases hkk : k < len2 ∧ k < 100
              · obtain ⟨hkl, hk6⟩ := hkk
                obtain ⟨x, o, rfl, hx, hop⟩ := hS2.2 k hkl
                obtain ⟨v, hv⟩ : ∃ v, v = O2 k := ⟨_, rfl⟩
                rw [← hv] at hop
                have hIn := hL.dev
                have hOp := hop.below hx hIn.below (Nat.le_refl _)
                have hby := hop.by_
                have i0 : (k : Int) < (len2 : Int) := by omega
                have i1 : (0 : Int) ≤ (k : Int) := by omega
                have i2 : (k : Int) < 100 := by omega
                clear hv hS2
                go_wp2
                have hwr' := in_write hD (hIn.next hD (Below.refl _ wl).drew) v.i v.a v.L v.C v.b hop.oi (by have := hL.m_; omega) (by have := hL.len; omega) hby.le hby.max hby.nil (hby.at_.below (hIn.below.trans ((Below.refl _ wl).drew.mono hIn.sz)) (Nat.le_refl _)) hby.byt (.inr (hIn.apart hby.lt))
                by_cases hE : wrErr s v.i v.L = 0
                · rw [hE] at hwr'
                  refine wp_region_held_drew (S := fun wz => wz.cell? ⟨x, o + k * 4 + 1, none⟩ = some (.int .i64 v.i) ∧ wz.cell? ⟨x, o + k * 4 + 2, none⟩ = some (.slice v.a v.L v.C)) (by kernel_rfl) ⟨hOp.c1, hOp.c2⟩ (fun hHeld => ?_)
                  refine takeTo 0 (some 84) (ptr p) rfl rfl (by kernel_rfl) (by kernel_rfl) (by kernel_rfl) (fun _ _ _ h => h) (by rfl) (fun _ _ => rfl) hHeld ?_
                  simp only [Act.put, List.setIfInBounds_toArray, List.set_cons_zero, List.set_cons_succ]
                  refine takeTo 1 (some 85) (.slice (some ⟨x, o, none⟩) len2 scap2) rfl rfl (by kernel_rfl) (by kernel_rfl) (by kernel_rfl) (fun _ _ _ h => h) (by rfl) (fun _ _ => rfl) hHeld ?_
                  simp only [Act.put, List.setIfInBounds_toArray, List.set_cons_zero, List.set_cons_succ]
                  refine takeTo 2 (some 86) (.int .i64 (k : Nat)) rfl rfl (by kernel_rfl) (by kernel_rfl) (by kernel_rfl) (fun _ _ _ h => h) (by rfl) (fun _ _ => rfl) hHeld ?_
                  simp only [Act.put, List.setIfInBounds_toArray, List.set_cons_zero, List.set_cons_succ]
                  refine takeTo 3 (some 87) (.pointer (some ⟨x, o + k * 4, none⟩)) rfl rfl (by kernel_rfl) (by kernel_rfl) (by kernel_rfl) (fun _ _ _ h => h) (by rfl) (fun wz _ => run_at_op _ _ rfl x o k len2 scap2 rfl rfl hkl wz) hHeld ?_
                  simp only [Act.put, List.setIfInBounds_toArray, List.set_cons_zero, List.set_cons_succ]
                  refine takeTo 4 (some 88) (.pointer (some ⟨x, o + k * 4 + 1, none⟩)) rfl rfl (by kernel_rfl) (by kernel_rfl) (by kernel_rfl) (fun _ _ _ h => h) (by rfl) (fun _ _ => rfl) hHeld ?_
                  simp only [Act.put, List.setIfInBounds_toArray, List.set_cons_zero, List.set_cons_succ]
                  refine takeTo 5 (some 89) (.int .i64 v.i) rfl rfl (by kernel_rfl) (by kernel_rfl) (by kernel_rfl) (fun _ _ _ h => h) (by rfl) (fun wz hz => run_load_i _ rfl _ rfl _ wz hz.1) hHeld ?_
                  simp only [Act.put, List.setIfInBounds_toArray, List.set_cons_zero, List.set_cons_succ]
                  refine takeTo 6 (some 90) (.slice (some ⟨x, o, none⟩) len2 scap2) rfl rfl (by kernel_rfl) (by kernel_rfl) (by kernel_rfl) (fun _ _ _ h => h) (by rfl) (fun _ _ => rfl) hHeld ?_
                  simp only [Act.put, List.setIfInBounds_toArray, List.set_cons_zero, List.set_cons_succ]
                  refine takeTo 7 (some 91) (.int .i64 (k : Nat)) rfl rfl (by kernel_rfl) (by kernel_rfl) (by kernel_rfl) (fun _ _ _ h => h) (by rfl) (fun _ _ => rfl) hHeld ?_
                  simp only [Act.put, List.setIfInBounds_toArray, List.set_cons_zero, List.set_cons_succ]
                  refine takeTo 8 (some 92) (.pointer (some ⟨x, o + k * 4, none⟩)) rfl rfl (by kernel_rfl) (by kernel_rfl) (by kernel_rfl) (fun _ _ _ h => h) (by rfl) (fun wz _ => run_at_op _ _ rfl x o k len2 scap2 rfl rfl hkl wz) hHeld ?_
                  simp only [Act.put, List.setIfInBounds_toArray, List.set_cons_zero, List.set_cons_succ]
                  refine takeTo 9 (some 93) (.pointer (some ⟨x, o + k * 4 + 2, none⟩)) rfl rfl (by kernel_rfl) (by kernel_rfl) (by kernel_rfl) (fun _ _ _ h => h) (by rfl) (fun _ _ => rfl) hHeld ?_
                  simp only [Act.put, List.setIfInBounds_toArray, List.set_cons_zero, List.set_cons_succ]
                  refine takeTo 10 (some 94) (.slice v.a v.L v.C) rfl rfl (by kernel_rfl) (by kernel_rfl) (by kernel_rfl) (fun _ _ _ h => h) (by rfl) (fun wz hz => run_load_row1 _ rfl _ rfl _ wz hz.2) hHeld ?_
                  simp only [Act.put, List.setIfInBounds_toArray, List.set_cons_zero, List.set_cons_succ]
                  refine callTo 11 (some 95) 11 #[ptr p, .int .i64 v.i, .slice v.a v.L v.C] (by kernel_rfl) rfl rfl (by rfl) (by kernel_rfl) hwr' ?_
                  rintro e5 w5 ⟨rfl, hO5, F5, hg5, hI5⟩
                  have hOp5 := hop.below hx hI5.below (Nat.le_refl _)
                  have hHeld := (⟨hOp5.c1, hOp5.c2⟩ : w5.cell? ⟨x, o + k * 4 + 1, none⟩ = some (.int .i64 v.i) ∧ w5.cell? ⟨x, o + k * 4 + 2, none⟩ = some (.slice v.a v.L v.C))
                  refine ⟨_, rfl, hHeld, ?_⟩
                  simp only [Act.put, List.setIfInBounds_toArray, List.set_cons_zero, List.set_cons_succ]
                  refine takeTo 12 (some 96) (.bool true) rfl rfl (by kernel_rfl) (by kernel_rfl) (by kernel_rfl) (fun _ _ _ h => h) (by rfl) (fun wz _ => run_eql_err _ _ rfl 0 rfl rfl true rfl wz) hHeld ?_
                  simp only [Act.put, List.setIfInBounds_toArray, List.set_cons_zero, List.set_cons_succ]
                  refine wpAnyH_done (by kernel_rfl) ?_ _
                  have hW5 := (hL.was.below (Below.refl _ wl).drew).only hO5 hg5
                  have hM5 := (hL.may.below (Below.refl _ wl).drew).only hO5 hg5
                  obtain ⟨I, hI8, hvi⟩ := wr_in s v.i v.L hE hL.n
                  obtain ⟨vi, hvi2⟩ : ∃ vi, vi = v.i := ⟨_, rfl⟩
                  have eW : wrS s v.i v.b v.L m = wroteD s I (full v.b v.L) (m + 1) := by
                    unfold wrS
                    rw [if_pos hE, hvi, Int.toNat_natCast]
                  have eM : wrM s v.i v.L m = m + 1 := by
                    unfold wrM
                    rw [if_pos hE]
                  rw [eW, eM] at hI5
                  have c1 := hOp5.c1
                  have c2 := hOp5.c2
                  rw [hvi] at c1
                  obtain ⟨f, hf⟩ : ∃ f, f = full v.b v.L := ⟨_, rfl⟩
                  have hfl : ∀ j, f j < 256 := by rw [hf]; exact full_lt _ _ hby.byt
                  have hfu := full_any v.b v.L v.C v.a w5.drew hby.max (hby.at_.below (hI5.below.trans ((Below.refl _ w5).drew.mono hI5.sz)) (Nat.le_refl _))
                  rw [← hf] at hfu
                  have hIF := fun k hk => hI5.lt hD k hk
                  have hIc := hI5.clt hD
                  have cV := hM5.has.cell I
                  rw [cells8_get _ I hI8] at cV
                  clear hOp5
                  go_wp2
                  refine lastTo (S := fun wz => wz.cell? ⟨x, o + k * 4 + 1, none⟩ = some (.int .i64 (I : Nat)) ∧ wz.cell? ⟨x, o + k * 4 + 2, none⟩ = some (.slice v.a v.L v.C) ∧ wz.cell? ⟨gm, I, none⟩ = some (V I)) 21 (by kernel_rfl) ⟨c1, c2, cV⟩ (fun hHeld => ?_)
                  refine takeL 0 (some 97) (.slice (some ⟨x, o, none⟩) len2 scap2) rfl rfl (by decide) (by kernel_rfl) (by kernel_rfl) (by kernel_rfl) (by kernel_rfl) (fun _ _ _ h => h) (by rfl) (fun _ _ => rfl) hHeld ?_
                  simp only [Act.put, List.setIfInBounds_toArray, List.set_cons_zero, List.set_cons_succ]
                  refine takeL 1 (some 98) (.int .i64 (k : Nat)) rfl rfl (by decide) (by kernel_rfl) (by kernel_rfl) (by kernel_rfl) (by kernel_rfl) (fun _ _ _ h => h) (by rfl) (fun _ _ => rfl) hHeld ?_
                  simp only [Act.put, List.setIfInBounds_toArray, List.set_cons_zero, List.set_cons_succ]
                  refine takeL 2 (some 99) (.pointer (some ⟨x, o + k * 4, none⟩)) rfl rfl (by decide) (by kernel_rfl) (by kernel_rfl) (by kernel_rfl) (by kernel_rfl) (fun _ _ _ h => h) (by rfl) (fun wz _ => run_at_op _ _ rfl x o k len2 scap2 rfl rfl hkl wz) hHeld ?_
                  simp only [Act.put, List.setIfInBounds_toArray, List.set_cons_zero, List.set_cons_succ]
                  refine takeL 3 (some 100) (.pointer (some ⟨x, o + k * 4 + 1, none⟩)) rfl rfl (by decide) (by kernel_rfl) (by kernel_rfl) (by kernel_rfl) (by kernel_rfl) (fun _ _ _ h => h) (by rfl) (fun _ _ => rfl) hHeld ?_
                  simp only [Act.put, List.setIfInBounds_toArray, List.set_cons_zero, List.set_cons_succ]
                  refine takeL 4 (some 101) (.int .i64 (I : Nat)) rfl rfl (by decide) (by kernel_rfl) (by kernel_rfl) (by kernel_rfl) (by kernel_rfl) (fun _ _ _ h => h) (by rfl) (fun wz hz => run_load_i _ rfl _ rfl _ wz hz.1) hHeld ?_
                  simp only [Act.put, List.setIfInBounds_toArray, List.set_cons_zero, List.set_cons_succ]
                  refine takeL 5 (some 102) (.slice (some ⟨x, o, none⟩) len2 scap2) rfl rfl (by decide) (by kernel_rfl) (by kernel_rfl) (by kernel_rfl) (by kernel_rfl) (fun _ _ _ h => h) (by rfl) (fun _ _ => rfl) hHeld ?_
                  simp only [Act.put, List.setIfInBounds_toArray, List.set_cons_zero, List.set_cons_succ]
                  refine takeL 6 (some 103) (.int .i64 (k : Nat)) rfl rfl (by decide) (by kernel_rfl) (by kernel_rfl) (by kernel_rfl) (by kernel_rfl) (fun _ _ _ h => h) (by rfl) (fun _ _ => rfl) hHeld ?_
                  simp only [Act.put, List.setIfInBounds_toArray, List.set_cons_zero, List.set_cons_succ]
                  refine takeL 7 (some 104) (.pointer (some ⟨x, o + k * 4, none⟩)) rfl rfl (by decide) (by kernel_rfl) (by kernel_rfl) (by kernel_rfl) (by kernel_rfl) (fun _ _ _ h => h) (by rfl) (fun wz _ => run_at_op _ _ rfl x o k len2 scap2 rfl rfl hkl wz) hHeld ?_
                  simp only [Act.put, List.setIfInBounds_toArray, List.set_cons_zero, List.set_cons_succ]
                  refine takeL 8 (some 105) (.pointer (some ⟨x, o + k * 4 + 1, none⟩)) rfl rfl (by decide) (by kernel_rfl) (by kernel_rfl) (by kernel_rfl) (by kernel_rfl) (fun _ _ _ h => h) (by rfl) (fun _ _ => rfl) hHeld ?_
                  simp only [Act.put, List.setIfInBounds_toArray, List.set_cons_zero, List.set_cons_succ]
                  refine takeL 9 (some 106) (.int .i64 (I : Nat)) rfl rfl (by decide) (by kernel_rfl) (by kernel_rfl) (by kernel_rfl) (by kernel_rfl) (fun _ _ _ h => h) (by rfl) (fun wz hz => run_load_i _ rfl _ rfl _ wz hz.1) hHeld ?_
                  simp only [Act.put, List.setIfInBounds_toArray, List.set_cons_zero, List.set_cons_succ]
                  refine takeL 10 (some 107) (.pointer (some ⟨gm, I, none⟩)) rfl rfl (by decide) (by kernel_rfl) (by kernel_rfl) (by kernel_rfl) (by kernel_rfl) (fun _ _ _ h => h) (by rfl) (fun wz _ => run_index_may _ _ rfl gm I rfl rfl hI8 wz) hHeld ?_
                  simp only [Act.put, List.setIfInBounds_toArray, List.set_cons_zero, List.set_cons_succ]
                  refine takeL 11 (some 108) (V I) rfl rfl (by decide) (by kernel_rfl) (by kernel_rfl) (by kernel_rfl) (by kernel_rfl) (fun _ _ _ h => h) (by rfl) (fun wz hz => run_load_V _ rfl _ rfl _ wz hz.2.2) hHeld ?_
                  simp only [Act.put, List.setIfInBounds_toArray, List.set_cons_zero, List.set_cons_succ]
                  refine takeL 12 (some 109) (.slice (some ⟨x, o, none⟩) len2 scap2) rfl rfl (by decide) (by kernel_rfl) (by kernel_rfl) (by kernel_rfl) (by kernel_rfl) (fun _ _ _ h => h) (by rfl) (fun _ _ => rfl) hHeld ?_
                  simp only [Act.put, List.setIfInBounds_toArray, List.set_cons_zero, List.set_cons_succ]
                  refine takeL 13 (some 110) (.int .i64 (k : Nat)) rfl rfl (by decide) (by kernel_rfl) (by kernel_rfl) (by kernel_rfl) (by kernel_rfl) (fun _ _ _ h => h) (by rfl) (fun _ _ => rfl) hHeld ?_
                  simp only [Act.put, List.setIfInBounds_toArray, List.set_cons_zero, List.set_cons_succ]
                  refine takeL 14 (some 111) (.pointer (some ⟨x, o + k * 4, none⟩)) rfl rfl (by decide) (by kernel_rfl) (by kernel_rfl) (by kernel_rfl) (by kernel_rfl) (fun _ _ _ h => h) (by rfl) (fun wz _ => run_at_op _ _ rfl x o k len2 scap2 rfl rfl hkl wz) hHeld ?_
                  simp only [Act.put, List.setIfInBounds_toArray, List.set_cons_zero, List.set_cons_succ]
                  refine takeL 15 (some 112) (.pointer (some ⟨x, o + k * 4 + 2, none⟩)) rfl rfl (by decide) (by kernel_rfl) (by kernel_rfl) (by kernel_rfl) (by kernel_rfl) (fun _ _ _ h => h) (by rfl) (fun _ _ => rfl) hHeld ?_
                  simp only [Act.put, List.setIfInBounds_toArray, List.set_cons_zero, List.set_cons_succ]
                  refine takeL 16 (some 113) (.slice v.a v.L v.C) rfl rfl (by decide) (by kernel_rfl) (by kernel_rfl) (by kernel_rfl) (by kernel_rfl) (fun _ _ _ h => h) (by rfl) (fun wz hz => run_load_row1 _ rfl _ rfl _ wz hz.2.1) hHeld ?_
                  simp only [Act.put, List.setIfInBounds_toArray, List.set_cons_zero, List.set_cons_succ]
                  refine callL 17 (some 114) 32 #[.slice v.a v.L v.C] (by kernel_rfl) rfl rfl (by rfl) (by kernel_rfl) hfu ?_
                  rintro e6 w6 ⟨rfl, hs6, hb6⟩
                  have hb56 : Below w5.heap.size w5 w6 := (Below.refl _ w5).drew.trans hb6
                  have hM6 := hM5.below hb56
                  have hW6 := hW5.below hb56
                  have hI6 := hI5.next hD hb56
                  have keep6 : ∀ wz, Below w6.heap.size w6 wz → Has wz gm 54 (cells8 V) → wz.cell? ⟨x, o + k * 4 + 1, none⟩ = some (.int .i64 (I : Nat)) ∧ wz.cell? ⟨x, o + k * 4 + 2, none⟩ = some (.slice v.a v.L v.C) ∧ wz.cell? ⟨gm, I, none⟩ = some (V I) := fun wz hbz hgz => by
                    have ho := hop.below hx (hI6.below.trans (hbz.mono hI6.sz)) (Nat.le_refl _)
                    refine ⟨by rw [← hvi]; exact ho.c1, ho.c2, ?_⟩
                    rw [hgz.cell I, cells8_get _ I hI8]
                  have hHeld := keep6 w6 (Below.refl _ _) hM6.has
                  refine ⟨_, rfl, hHeld, ?_⟩
                  simp only [Act.put, List.setIfInBounds_toArray, List.set_cons_zero, List.set_cons_succ]
                  obtain ⟨gn, hgn⟩ : ∃ gn, gn = w5.heap.size := ⟨_, rfl⟩
                  rw [show w5.drew.heap.size = gn from hgn.symm] at hs6 ⊢
                  have hgo : Out F5 c gn := ⟨fun hf' => by have := hIF gn hf'; omega, by omega⟩
                  obtain ⟨g7, cap7, w7, hr7, hown7, hgr7, hl7⟩ := may_append hM6 I hI8 gn f (by have := hL.short I hI8; omega) (Nat.le_trans hL.bs (Nat.le_trans (Nat.le_trans (show wl.heap.size ≤ w5.heap.size from hO5.size) hb56.size) (Nat.le_refl _))) 53
                  obtain ⟨hg7, hM7⟩ := hM6.put hI8 (fun k hk => Nat.lt_of_lt_of_le (hIF k hk) hb56.size) (Nat.lt_of_lt_of_le hIc hb56.size) hs6 hgo hfl hown7 hgr7 hl7
                  have hHeld8 := keep6 (w6.alloc (.cells #[.slice (some ⟨gn, 0, none⟩) 64 64] 33)) ((Below.refl _ _).alloc (Nat.le_refl _) _) (hM6.has.alloc _)
                  refine valL 18 (some 115) (.slice (some ⟨w6.heap.size, 0, none⟩) 1 1) (w6.alloc (.cells #[.slice (some ⟨gn, 0, none⟩) 64 64] 33)) (by kernel_rfl) rfl rfl (by rfl) (run_build_V _ rfl gn rfl w6) hHeld8 ?_
                  simp only [Act.put, List.setIfInBounds_toArray, List.set_cons_zero, List.set_cons_succ]
                  have hB7 : Below w.heap.size w w7 := (hI6.below.alloc hI6.sz (.cells #[.slice (some ⟨gn, 0, none⟩) 64 64] 33)).grown hgr7 (Nat.le_trans hI6.sz (by simp)) (fun g e => Nat.le_trans hL.bw ((hM6.row I hI8).lt g e).1)
                  have ho7 := hop.below hx hB7 (Nat.le_refl _)
                  have hHeld9 := (⟨by rw [← hvi]; exact ho7.c1, ho7.c2, by rw [hg7.cell I, cells8_get _ I hI8]⟩ : w7.cell? ⟨x, o + k * 4 + 1, none⟩ = some (.int .i64 (I : Nat)) ∧ w7.cell? ⟨x, o + k * 4 + 2, none⟩ = some (.slice v.a v.L v.C) ∧ w7.cell? ⟨gm, I, none⟩ = some (V I))
                  refine valL 19 (some 116) (.slice (some ⟨g7, 0, none⟩) ((Ls I).length + 1) cap7) w7 (by kernel_rfl) rfl rfl (by rfl) (run_append_V _ _ rfl (V I) (.slice (some ⟨w6.heap.size, 0, none⟩) 1 1) rfl rfl _ 53 rfl hr7) hHeld9 ?_
                  simp only [Act.put, List.setIfInBounds_toArray, List.set_cons_zero, List.set_cons_succ]
                  have hHeld := hHeld9
                  refine takeL 20 (some 117) (.pointer (some ⟨gm, I, none⟩)) rfl rfl (by decide) (by kernel_rfl) (by kernel_rfl) (by kernel_rfl) (by kernel_rfl) (fun _ _ _ h => h) (by rfl) (fun wz _ => run_index_may _ _ rfl gm I rfl rfl hI8 wz) hHeld ?_
                  simp only [Act.put, List.setIfInBounds_toArray, List.set_cons_zero, List.set_cons_succ]
                  have f7 := hg7.free I
                  refine lastSkip 21 none (w7.setCell ⟨gm, I, none⟩ (.slice (some ⟨g7, 0, none⟩) ((Ls I).length + 1) cap7)) (by kernel_rfl) rfl rfl (by rfl) (run_store_V _ _ rfl ⟨gm, I, none⟩ rfl _ _ _ rfl w7 _ hHeld9.2.2 f7) (by kernel_rfl) ?_
                  simp only [Act.put]
                  have hO7 := may_only (gm := gm) (i := I) (x := .slice (some ⟨g7, 0, none⟩) ((Ls I).length + 1) cap7) _ hgr7
                  have hI8b := hI6.only hD hO7 (fun q hq hh => hh.elim (fun e => hM6.out.1 (e ▸ hq)) (fun e => (hM6.rout I hI8 q e).1 hq)) (fun hh => hh.elim (fun e => hM6.out.2 e.symm) (fun e => (hM6.rout I hI8 c e).2 rfl)) (fun q hh => hh.elim (fun e => by rw [e]; exact hL.gmb) (fun e => Nat.le_trans hL.bw ((hM6.row I hI8).lt q e).1))
                  have hW8 := hW6.rows hM6 hL.wlo (Nat.le_refl _) I hI8 _ hgr7 (.slice (some ⟨g7, 0, none⟩) ((Ls I).length + 1) cap7)
                  have hnew : Lat D w p c gm gw gm l1 f1 mo h0 W (w7.setCell ⟨gm, I, none⟩ (.slice (some ⟨g7, 0, none⟩) ((Ls I).length + 1) cap7)) (k + 1) (wroteD s I f (m + 1)) (m + 1) F5 (updV V I (.slice (some ⟨g7, 0, none⟩) ((Ls I).length + 1) cap7)) (updL Ls I (gn, f)) (lat ++ [⟨I, f, false, false, ((m + 1 : Nat) : Int)⟩]) := by
                    refine ⟨by rw [hf]; exact hI8b, hL.n, hL.live, ?_, by have := hL.m_; omega, ?_, ?_, ?_, hL.fst, hW8, hM7, ?_, ?_, ?_, hL.bw, hL.gmb, hL.wlo⟩
                    · show (s.log ++ [_]).length ≤ _
                      rw [List.length_append]
                      have := hL.len
                      show s.log.length + 1 ≤ _
                      omega
                    · intro j
                      show (if j = I then false else s.bad j) = false
                      split
                      · rfl
                      · exact hL.nb j
                    · refine ⟨hL.by_.1, fun e he => ?_⟩
                      rcases List.mem_append.1 he with he | he
                      · exact hL.by_.2 e he
                      · obtain rfl := List.mem_singleton.1 he
                        exact hfl
                    · show s.log ++ [_] = _
                      rw [hL.log, List.append_assoc]
                      rfl
                    · intro e he hs
                      rcases List.mem_append.1 he with he | he
                      · obtain ⟨h8, y, hy, hye⟩ := hL.mine e he hs
                        refine ⟨h8, y, ?_, hye⟩
                        unfold updL
                        split
                        · rename_i e2
                          rw [e2] at hy
                          exact List.mem_append_left _ hy
                        · exact hy
                      · obtain rfl := List.mem_singleton.1 he
                        refine ⟨hI8, (gn, f), ?_, rfl⟩
                        unfold updL
                        rw [if_pos rfl]
                        exact List.mem_append_right _ (List.mem_singleton.2 rfl)
                    · intro j hj
                      have := hL.short j hj
                      unfold updL
                      split
                      · rename_i e2
                        rw [List.length_append]
                        rw [e2] at this
                        show (Ls I).length + 1 ≤ _
                        omega
                      · omega
                    · exact Nat.le_trans hL.bs (Nat.le_trans (Nat.le_trans (show wl.heap.size ≤ w5.heap.size from hO5.size) hb56.size) hO7.size)
                  have hwrote := hnew
                  go_wp2
                  go_roundw
                  case rel => exact ⟨k + 1, _, _, _, _, _, _, by omega, by omega, by go_num, hwrote⟩
                  case measure => simp [intOf]; omega
                · obtain ⟨z, hz⟩ : ∃ z, z = wrErr s v.i v.L := ⟨_, rfl⟩
                  have eW : wrS s v.i v.b v.L m = s := by
                    unfold wrS
                    rw [if_neg hE]
                  have eM : wrM s v.i v.L m = m := by
                    unfold wrM
                    rw [if_neg hE]
                  rw [eW, eM, ← hz] at hwr'
                  have hz0 : decide (z = 0) = false := by rw [hz]; simpa using hE
                  clear hz
                  refine wp_region_held_drew (S := fun wz => wz.cell? ⟨x, o + k * 4 + 1, none⟩ = some (.int .i64 v.i) ∧ wz.cell? ⟨x, o + k * 4 + 2, none⟩ = some (.slice v.a v.L v.C)) (by kernel_rfl) ⟨hOp.c1, hOp.c2⟩ (fun hHeld => ?_)
                  refine takeTo 0 (some 84) (ptr p) rfl rfl (by kernel_rfl) (by kernel_rfl) (by kernel_rfl) (fun _ _ _ h => h) (by rfl) (fun _ _ => rfl) hHeld ?_
                  simp only [Act.put, List.setIfInBounds_toArray, List.set_cons_zero, List.set_cons_succ]
                  refine takeTo 1 (some 85) (.slice (some ⟨x, o, none⟩) len2 scap2) rfl rfl (by kernel_rfl) (by kernel_rfl) (by kernel_rfl) (fun _ _ _ h => h) (by rfl) (fun _ _ => rfl) hHeld ?_
                  simp only [Act.put, List.setIfInBounds_toArray, List.set_cons_zero, List.set_cons_succ]
                  refine takeTo 2 (some 86) (.int .i64 (k : Nat)) rfl rfl (by kernel_rfl) (by kernel_rfl) (by kernel_rfl) (fun _ _ _ h => h) (by rfl) (fun _ _ => rfl) hHeld ?_
                  simp only [Act.put, List.setIfInBounds_toArray, List.set_cons_zero, List.set_cons_succ]
                  refine takeTo 3 (some 87) (.pointer (some ⟨x, o + k * 4, none⟩)) rfl rfl (by kernel_rfl) (by kernel_rfl) (by kernel_rfl) (fun _ _ _ h => h) (by rfl) (fun wz _ => run_at_op _ _ rfl x o k len2 scap2 rfl rfl hkl wz) hHeld ?_
                  simp only [Act.put, List.setIfInBounds_toArray, List.set_cons_zero, List.set_cons_succ]
                  refine takeTo 4 (some 88) (.pointer (some ⟨x, o + k * 4 + 1, none⟩)) rfl rfl (by kernel_rfl) (by kernel_rfl) (by kernel_rfl) (fun _ _ _ h => h) (by rfl) (fun _ _ => rfl) hHeld ?_
                  simp only [Act.put, List.setIfInBounds_toArray, List.set_cons_zero, List.set_cons_succ]
                  refine takeTo 5 (some 89) (.int .i64 v.i) rfl rfl (by kernel_rfl) (by kernel_rfl) (by kernel_rfl) (fun _ _ _ h => h) (by rfl) (fun wz hz => run_load_i _ rfl _ rfl _ wz hz.1) hHeld ?_
                  simp only [Act.put, List.setIfInBounds_toArray, List.set_cons_zero, List.set_cons_succ]
                  refine takeTo 6 (some 90) (.slice (some ⟨x, o, none⟩) len2 scap2) rfl rfl (by kernel_rfl) (by kernel_rfl) (by kernel_rfl) (fun _ _ _ h => h) (by rfl) (fun _ _ => rfl) hHeld ?_
                  simp only [Act.put, List.setIfInBounds_toArray, List.set_cons_zero, List.set_cons_succ]
                  refine takeTo 7 (some 91) (.int .i64 (k : Nat)) rfl rfl (by kernel_rfl) (by kernel_rfl) (by kernel_rfl) (fun _ _ _ h => h) (by rfl) (fun _ _ => rfl) hHeld ?_
                  simp only [Act.put, List.setIfInBounds_toArray, List.set_cons_zero, List.set_cons_succ]
                  refine takeTo 8 (some 92) (.pointer (some ⟨x, o + k * 4, none⟩)) rfl rfl (by kernel_rfl) (by kernel_rfl) (by kernel_rfl) (fun _ _ _ h => h) (by rfl) (fun wz _ => run_at_op _ _ rfl x o k len2 scap2 rfl rfl hkl wz) hHeld ?_
                  simp only [Act.put, List.setIfInBounds_toArray, List.set_cons_zero, List.set_cons_succ]
                  refine takeTo 9 (some 93) (.pointer (some ⟨x, o + k * 4 + 2, none⟩)) rfl rfl (by kernel_rfl) (by kernel_rfl) (by kernel_rfl) (fun _ _ _ h => h) (by rfl) (fun _ _ => rfl) hHeld ?_
                  simp only [Act.put, List.setIfInBounds_toArray, List.set_cons_zero, List.set_cons_succ]
                  refine takeTo 10 (some 94) (.slice v.a v.L v.C) rfl rfl (by kernel_rfl) (by kernel_rfl) (by kernel_rfl) (fun _ _ _ h => h) (by rfl) (fun wz hz => run_load_row1 _ rfl _ rfl _ wz hz.2) hHeld ?_
                  simp only [Act.put, List.setIfInBounds_toArray, List.set_cons_zero, List.set_cons_succ]
                  refine callTo 11 (some 95) 11 #[ptr p, .int .i64 v.i, .slice v.a v.L v.C] (by kernel_rfl) rfl rfl (by rfl) (by kernel_rfl) hwr' ?_
                  rintro e5 w5 ⟨rfl, hO5, F5, hg5, hI5⟩
                  have hOp5 := hop.below hx hI5.below (Nat.le_refl _)
                  have hHeld := (⟨hOp5.c1, hOp5.c2⟩ : w5.cell? ⟨x, o + k * 4 + 1, none⟩ = some (.int .i64 v.i) ∧ w5.cell? ⟨x, o + k * 4 + 2, none⟩ = some (.slice v.a v.L v.C))
                  refine ⟨_, rfl, hHeld, ?_⟩
                  simp only [Act.put, List.setIfInBounds_toArray, List.set_cons_zero, List.set_cons_succ]
                  refine takeTo 12 (some 96) (.bool false) rfl rfl (by kernel_rfl) (by kernel_rfl) (by kernel_rfl) (fun _ _ _ h => h) (by rfl) (fun wz _ => run_eql_err _ _ rfl z rfl rfl false hz0 wz) hHeld ?_
                  simp only [Act.put, List.setIfInBounds_toArray, List.set_cons_zero, List.set_cons_succ]
                  refine wpAnyH_done (by kernel_rfl) ?_ _
                  have hW5 := (hL.was.below (Below.refl _ wl).drew).only hO5 hg5
                  have hM5 := (hL.may.below (Below.refl _ wl).drew).only hO5 hg5
                  go_wp2
                  go_roundw
                  case rel => exact ⟨k + 1, s, m, F5, V, Ls, lat, by omega, by omega, by go_num, hI5, hL.n, hL.live, by have := hL.len; omega, by have := hL.m_; omega, hL.nb, hL.by_, hL.log, hL.fst, hW5, hM5, hL.mine, fun j hj => by have := hL.short j hj; omega, Nat.le_trans hL.bs (show wl.heap.size ≤ w5.heap.size from hO5.size), hL.bw, hL.gmb, hL.wlo⟩
                  case measure => simp [intOf]; omega
              · have hcut := in_cut hD hL.dev ka kL kC kb (by have := hL.len; omega) hk.max hk.le (hk.at_.below hL.dev.below (Nat.le_refl _))
                have hor := fun i => safe_or s l1 lat ⟨0, fun _ => 0, true, false, mo⟩ rfl hL.log (keepOf kb kL) i
                rw [hL.fst] at hor
                have E1 : ∀ i, i < 8 → rdErr (cutD s (keepOf kb kL)) ((i : Nat) : Int) = 0 := fun i hi => rdErr_ok _ i hL.live (by show i < s.n; rw [hL.n]; exact hi) (hL.nb i)
                have hTb := holds_lt _ (byt_cut s (keepOf kb kL) hL.by_)
                have hTp : pend (cutD s (keepOf kb kL)).log = 0 := rfl
                have hTl : (cutD s (keepOf kb kL)).log.length ≤ 100000 := Nat.zero_le _
                obtain ⟨T, hT⟩ : ∃ T, T = cutD s (keepOf kb kL) := ⟨_, rfl⟩
                rw [← hT] at hcut hTb hTp hTl
                have E1 : ∀ i, i < 8 → rdErr T ((i : Nat) : Int) = 0 := by rw [hT]; exact E1
                have hor : ∀ i, holds T i = h0 i ∨ ∃ d ∈ lat, d.sync = false ∧ d.i = i ∧ holds T i = d.b := fun i => by rw [hT, HH2.out i]; exact hor i
                have hWL := hL.was
                have hML := hL.may
                have hmine := hL.mine
                have hshort : ∀ j, j < 8 → (Ls j).length ≤ 100 := fun j hj => Nat.le_trans (hL.short j hj) hk60
                clear hT hL
                by_cases hk6 : k < len2
                · have i0 : (k : Int) < (len2 : Int) := by omega
                  have i1 : ¬ (k : Int) < 100 := by omega
                  go_wp2_with (first
                    | ((go_at_call 25)
                       (refine hcut.mono ?_)
                       (rintro e w4 ⟨hb4, hI4, p', c', F4, rfl, hJ4, _, _⟩)
                       (have hpe := in_tells hD hJ4 (hD.pending w4 p' T c' 0 F4 hJ4.dev hTl))
                       (rw [hTp] at hpe)
                       (clear hcut))
                    | ((go_at_call 33)
                       (refine hpe.mono ?_)
                       (rintro e w5 ⟨rfl, hb5, hJ5⟩)
                       (have hW5 := (hWL.below hb4).below hb5)
                       (have hM5 := (hML.below hb4).below hb5)
                       (clear hpe hWL hML hI4 hJ4)))
                  clear i0
                  go_loopw [17] (fun i wz => ∃ q : Nat, q ≤ 8 ∧ i = .int .i64 (q : Nat) ∧ Was wz F' c gw W h0 8 ∧ May wz F' c gm gm V Ls ∧ In D w.heap.size w wz p' T c' 0 F4) (fun i _ => 8 - (intOf i).toNat)
                  case atStart => exact ⟨0, Nat.zero_le _, rfl, hW5, hM5, hJ5⟩
                  case round =>
                    rename World => wq
                    obtain ⟨q, hq, rfl, hWq, hMq, hIq⟩ := hrel
                    clear hW5 hM5 hJ5
                    by_cases hq8 : q < 8
                    · have j0 : (q : Int) < 8 := by omega
                      have j1 : (0 : Int) ≤ (q : Int) := by omega
                      have hr := in_read hD hIq (q : Int) ⟨by omega, by omega⟩
                      rw [E1 q hq8, Int.toNat_natCast] at hr
                      obtain ⟨f, hf⟩ : ∃ f, f = holds T q := ⟨_, rfl⟩
                      have hfl : ∀ j, f j < 256 := by rw [hf]; exact hTb q
                      rw [← hf] at hr
                      have horq := hor q
                      rw [← hf] at horq
                      obtain ⟨wb, wo2, wk, eWq, _, hBq⟩ := hWq.at_ q hq8
                      have cW := hWq.has.cell q
                      rw [cells8_get _ q hq8, eWq] at cW
                      clear hf
                      go_wp2_with (first
                        | ((go_at_call 20)
                           (refine hr.mono ?_)
                           (rintro e w6 ⟨hb6, hI6, v6, rfl, (⟨hv, _⟩ | ⟨_, hv6⟩)⟩)
                           (case inl => exact absurd rfl hv)
                           (obtain ⟨g6, o6, n6, rfl, _, _, hB6⟩ := hv6.bytes)
                           (have hW6 := hWq.below hb6)
                           (have hM6 := hMq.below hb6)
                           (have hBw := hBq.below hb6 (Nat.le_refl _))
                           (have cW6 := hW6.has.cell q)
                           (rw [cells8_get _ q hq8, eWq] at cW6)
                           (have hsm := same_any n6 wk hB6 hBw hfl (hh0l q) (fun e => by cases e) (fun e => by cases e))
                           (obtain ⟨b0, hb0⟩ : ∃ b0, b0 = (strN f 64 == strN (h0 q) 64) := ⟨_, rfl⟩)
                           (rw [← hb0] at hsm)
                           (have HB0 : Hid (b0 = (strN f 64 == strN (h0 q) 64)) := hb0)
                           (clear hr hv6 hb0 cW))
                        | ((go_at_call 22)
                           (refine hsm.mono ?_)
                           (rintro e w7 ⟨rfl, hw7⟩)
                           (subst hw7)
                           (clear hsm)))
                      obtain ⟨n, hn⟩ : ∃ n, n = (Ls q).length := ⟨_, rfl⟩
                      have HN : Hid (n = (Ls q).length) := hn
                      have hn100 : n ≤ 100 := by rw [hn]; exact hshort q hq8
                      clear hn cW6 hBw hBq
                      go_loopw [20, 21] (fun b i wz => ∃ t : Nat, t ≤ n ∧ i = .int .i64 (t : Nat) ∧ b = .bool (b0 || ((Ls q).take t).any fun x => strN f 64 == strN x.2 64) ∧ Was wz F' c gw W h0 8 ∧ May wz F' c gm gm V Ls ∧ In D w.heap.size w wz p' T c' 0 F4 ∧ Bytes wz (some ⟨g6, o6, none⟩) 64 f) (fun _ i _ => n - (intOf i).toNat)
                      case atStart => exact ⟨0, Nat.zero_le _, rfl, by simp, hW6, hM6, hI6, hB6⟩
                      case round =>
                        rename World => wy
                        clear hW6 hM6 hI6 hB6
                        obtain ⟨t, ht, rfl, rfl, hW6, hM6, hI6, hB6⟩ := hrel
                        obtain ⟨A, cap, hVq⟩ : ∃ A cap, V q = .slice A (Ls q).length cap := by
                          rcases (hM6.row q hq8).2 with ⟨h1, h2⟩ | ⟨g, cap, cur, h1, _⟩
                          · exact ⟨none, 0, by rw [h1, h2]⟩
                          · exact ⟨_, _, h1⟩
                        have cV := hM6.has.cell q
                        rw [cells8_get _ q hq8, hVq] at cV
                        have hrow := hM6.row q hq8
                        rw [hVq] at hrow
                        rw [← HN.out] at cV hrow
                        by_cases htn : t < n
                        · have k0 : (t : Int) < (n : Int) := by omega
                          have k1 : (0 : Int) ≤ (t : Int) := by omega
                          obtain ⟨x, hx⟩ : ∃ x, (Ls q)[t]? = some x := ⟨(Ls q)[t]'(by rw [← HN.out]; exact htn), List.getElem?_eq_getElem _⟩
                          obtain ⟨hx1, _, hx3⟩ := hM6.sec q hq8 x (List.mem_of_getElem? hx)
                          obtain ⟨gr, hgr⟩ : ∃ gr, A = some ⟨gr, 0, none⟩ := by
                            rcases hrow.2 with ⟨h1, h2⟩ | ⟨g, cap', cur, h1, _⟩
                            · omega
                            · injection h1 with h1
                              exact ⟨g, h1⟩
                          subst hgr
                          have cX := hrow.cellAt t (by omega)
                          rw [show (rowsV (Ls q))[t]? = some (.slice (some ⟨x.1, 0, none⟩) 64 64) from by simp [rowsV, hx]] at cX
                          have hsm := same_any n6 64 hB6 hx1.bytes hfl hx3 (fun e => by cases e) (fun e => by cases e)
                          have hnx : ((Ls q).take (t + 1)).any (fun x => strN f 64 == strN x.2 64) = (((Ls q).take t).any (fun x => strN f 64 == strN x.2 64) || (strN f 64 == strN x.2 64)) := by
                            rw [List.take_add_one, hx, List.any_append]
                            simp
                          obtain ⟨y, hy⟩ : ∃ y, y = (strN f 64 == strN x.2 64) := ⟨_, rfl⟩
                          obtain ⟨bb, hbb⟩ : ∃ bb, bb = (b0 || ((Ls q).take t).any fun x => strN f 64 == strN x.2 64) := ⟨_, rfl⟩
                          have HY : Hid ((b0 || ((Ls q).take (t + 1)).any fun x => strN f 64 == strN x.2 64) = (bb || y)) := by
                            show _ = _
                            rw [hnx, hbb, hy, Bool.or_assoc]
                          rw [← hy] at hsm
                          rw [← hbb]
                          clear hnx hy hbb hx
                          cases bb <;> cases y <;> (
                            go_wp2_with (first
                              | ((go_at_call 22)
                                 (refine hsm.mono ?_)
                                 (rintro e w8 ⟨rfl, hw8⟩)
                                 (subst hw8)
                                 (clear hsm)))
                            go_roundw
                            case rel => exact ⟨t + 1, htn, by go_num, (by rw [HY.out]; rfl), hW6, hM6, hI6, hB6⟩
                            case measure => simp [intOf]; omega)
                        · obtain rfl : t = n := by omega
                          have k0 : ¬ (t : Int) < (t : Int) := by omega
                          have hall : (b0 || ((Ls q).take t).any fun x => strN f 64 == strN x.2 64) = true := by
                            rw [HN.out, List.take_length]
                            rcases horq with h1 | ⟨d, hd1, hd2, hd3, hd4⟩
                            · rw [HB0.out, h1]
                              simp
                            · obtain ⟨_, x, hx, hxe⟩ := hmine d hd1 hd2
                              rw [hd3] at hx
                              rw [Bool.or_eq_true]
                              refine .inr (List.any_eq_true.2 ⟨x, hx, ?_⟩)
                              rw [hd4, hxe]
                              simp
                          rw [hall]
                          go_wp2
                          go_roundw
                          case rel => exact ⟨q + 1, by omega, by go_num, hW6, hM6, hI6⟩
                          case measure => simp [intOf]; omega
                    · obtain rfl : q = 8 := by omega
                      have j0 : ¬ ((8 : Nat) : Int) < 8 := by omega
                      go_wp2
                      exact bodyPost_ret (results_tmp rfl _ _ _) rfl ⟨rfl, hIq.below⟩
                · have i0 : ¬ (k : Int) < (len2 : Int) := by omega
                  go_wp2_with (first
                    | ((go_at_call 25)
                       (refine hcut.mono ?_)
                       (rintro e w4 ⟨hb4, hI4, p', c', F4, rfl, hJ4, _, _⟩)
                       (have hpe := in_tells hD hJ4 (hD.pending w4 p' T c' 0 F4 hJ4.dev hTl))
                       (rw [hTp] at hpe)
                       (clear hcut))
                    | ((go_at_call 33)
                       (refine hpe.mono ?_)
                       (rintro e w5 ⟨rfl, hb5, hJ5⟩)
                       (have hW5 := (hWL.below hb4).below hb5)
                       (have hM5 := (hML.below hb4).below hb5)
                       (clear hpe hWL hML hI4 hJ4)))
                  clear i0
                  go_loopw [17] (fun i wz => ∃ q : Nat, q ≤ 8 ∧ i = .int .i64 (q : Nat) ∧ Was wz F' c gw W h0 8 ∧ May wz F' c gm gm V Ls ∧ In D w.heap.size w wz p' T c' 0 F4) (fun i _ => 8 - (intOf i).toNat)
                  case atStart => exact ⟨0, Nat.zero_le _, rfl, hW5, hM5, hJ5⟩
                  case round =>
                    rename World => wq
                    obtain ⟨q, hq, rfl, hWq, hMq, hIq⟩ := hrel
                    clear hW5 hM5 hJ5
                    by_cases hq8 : q < 8
                    · have j0 : (q : Int) < 8 := by omega
                      have j1 : (0 : Int) ≤ (q : Int) := by omega
                      have hr := in_read hD hIq (q : Int) ⟨by omega, by omega⟩
                      rw [E1 q hq8, Int.toNat_natCast] at hr
                      obtain ⟨f, hf⟩ : ∃ f, f = holds T q := ⟨_, rfl⟩
                      have hfl : ∀ j, f j < 256 := by rw [hf]; exact hTb q
                      rw [← hf] at hr
                      have horq := hor q
                      rw [← hf] at horq
                      obtain ⟨wb, wo2, wk, eWq, _, hBq⟩ := hWq.at_ q hq8
                      have cW := hWq.has.cell q
                      rw [cells8_get _ q hq8, eWq] at cW
                      clear hf
                      go_wp2_with (first
                        | ((go_at_call 20)
                           (refine hr.mono ?_)
                           (rintro e w6 ⟨hb6, hI6, v6, rfl, (⟨hv, _⟩ | ⟨_, hv6⟩)⟩)
                           (case inl => exact absurd rfl hv)
                           (obtain ⟨g6, o6, n6, rfl, _, _, hB6⟩ := hv6.bytes)
                           (have hW6 := hWq.below hb6)
                           (have hM6 := hMq.below hb6)
                           (have hBw := hBq.below hb6 (Nat.le_refl _))
                           (have cW6 := hW6.has.cell q)
                           (rw [cells8_get _ q hq8, eWq] at cW6)
                           (have hsm := same_any n6 wk hB6 hBw hfl (hh0l q) (fun e => by cases e) (fun e => by cases e))
                           (obtain ⟨b0, hb0⟩ : ∃ b0, b0 = (strN f 64 == strN (h0 q) 64) := ⟨_, rfl⟩)
                           (rw [← hb0] at hsm)
                           (have HB0 : Hid (b0 = (strN f 64 == strN (h0 q) 64)) := hb0)
                           (clear hr hv6 hb0 cW))
                        | ((go_at_call 22)
                           (refine hsm.mono ?_)
                           (rintro e w7 ⟨rfl, hw7⟩)
                           (subst hw7)
                           (clear hsm)))
                      obtain ⟨n, hn⟩ : ∃ n, n = (Ls q).length := ⟨_, rfl⟩
                      have HN : Hid (n = (Ls q).length) := hn
                      have hn100 : n ≤ 100 := by rw [hn]; exact hshort q hq8
                      clear hn cW6 hBw hBq
                      go_loopw [20, 21] (fun b i wz => ∃ t : Nat, t ≤ n ∧ i = .int .i64 (t : Nat) ∧ b = .bool (b0 || ((Ls q).take t).any fun x => strN f 64 == strN x.2 64) ∧ Was wz F' c gw W h0 8 ∧ May wz F' c gm gm V Ls ∧ In D w.heap.size w wz p' T c' 0 F4 ∧ Bytes wz (some ⟨g6, o6, none⟩) 64 f) (fun _ i _ => n - (intOf i).toNat)
                      case atStart => exact ⟨0, Nat.zero_le _, rfl, by simp, hW6, hM6, hI6, hB6⟩
                      case round =>
                        rename World => wy
                        clear hW6 hM6 hI6 hB6
                        obtain ⟨t, ht, rfl, rfl, hW6, hM6, hI6, hB6⟩ := hrel
                        obtain ⟨A, cap, hVq⟩ : ∃ A cap, V q = .slice A (Ls q).length cap := by
                          rcases (hM6.row q hq8).2 with ⟨h1, h2⟩ | ⟨g, cap, cur, h1, _⟩
                          · exact ⟨none, 0, by rw [h1, h2]⟩
                          · exact ⟨_, _, h1⟩
                        have cV := hM6.has.cell q
                        rw [cells8_get _ q hq8, hVq] at cV
                        have hrow := hM6.row q hq8
                        rw [hVq] at hrow
                        rw [← HN.out] at cV hrow
                        by_cases htn : t < n
                        · have k0 : (t : Int) < (n : Int) := by omega
                          have k1 : (0 : Int) ≤ (t : Int) := by omega
                          obtain ⟨x, hx⟩ : ∃ x, (Ls q)[t]? = some x := ⟨(Ls q)[t]'(by rw [← HN.out]; exact htn), List.getElem?_eq_getElem _⟩
                          obtain ⟨hx1, _, hx3⟩ := hM6.sec q hq8 x (List.mem_of_getElem? hx)
                          obtain ⟨gr, hgr⟩ : ∃ gr, A = some ⟨gr, 0, none⟩ := by
                            rcases hrow.2 with ⟨h1, h2⟩ | ⟨g, cap', cur, h1, _⟩
                            · omega
                            · injection h1 with h1
                              exact ⟨g, h1⟩
                          subst hgr
                          have cX := hrow.cellAt t (by omega)
                          rw [show (rowsV (Ls q))[t]? = some (.slice (some ⟨x.1, 0, none⟩) 64 64) from by simp [rowsV, hx]] at cX
                          have hsm := same_any n6 64 hB6 hx1.bytes hfl hx3 (fun e => by cases e) (fun e => by cases e)
                          have hnx : ((Ls q).take (t + 1)).any (fun x => strN f 64 == strN x.2 64) = (((Ls q).take t).any (fun x => strN f 64 == strN x.2 64) || (strN f 64 == strN x.2 64)) := by
                            rw [List.take_add_one, hx, List.any_append]
                            simp
                          obtain ⟨y, hy⟩ : ∃ y, y = (strN f 64 == strN x.2 64) := ⟨_, rfl⟩
                          obtain ⟨bb, hbb⟩ : ∃ bb, bb = (b0 || ((Ls q).take t).any fun x => strN f 64 == strN x.2 64) := ⟨_, rfl⟩
                          have HY : Hid ((b0 || ((Ls q).take (t + 1)).any fun x => strN f 64 == strN x.2 64) = (bb || y)) := by
                            show _ = _
                            rw [hnx, hbb, hy, Bool.or_assoc]
                          rw [← hy] at hsm
                          rw [← hbb]
                          clear hnx hy hbb hx
                          cases bb <;> cases y <;> (
                            go_wp2_with (first
                              | ((go_at_call 22)
                                 (refine hsm.mono ?_)
                                 (rintro e w8 ⟨rfl, hw8⟩)
                                 (subst hw8)
                                 (clear hsm)))
                            go_roundw
                            case rel => exact ⟨t + 1, htn, by go_num, (by rw [HY.out]; rfl), hW6, hM6, hI6, hB6⟩
                            case measure => simp [intOf]; omega)
                        · obtain rfl : t = n := by omega
                          have k0 : ¬ (t : Int) < (t : Int) := by omega
                          have hall : (b0 || ((Ls q).take t).any fun x => strN f 64 == strN x.2 64) = true := by
                            rw [HN.out, List.take_length]
                            rcases horq with h1 | ⟨d, hd1, hd2, hd3, hd4⟩
                            · rw [HB0.out, h1]
                              simp
                            · obtain ⟨_, x, hx, hxe⟩ := hmine d hd1 hd2
                              rw [hd3] at hx
                              rw [Bool.or_eq_true]
                              refine .inr (List.any_eq_true.2 ⟨x, hx, ?_⟩)
                              rw [hd4, hxe]
                              simp
                          rw [hall]
                          go_wp2
                          go_roundw
                          case rel => exact ⟨q + 1, by omega, by go_num, hW6, hM6, hI6⟩
                          case measure => simp [intOf]; omega
                    · obtain rfl : q = 8 := by omega
                      have j0 : ¬ ((8 : Nat) : Int) < 8 := by omega
                      go_wp2
                      exact bodyPost_ret (results_tmp rfl _ _ _) rfl ⟨rfl, hIq.below⟩
      · have i0 : ¬ (k : Int) < (len : Int) := by omega
        go_wp2_with (first
          | ((go_at_call 13)
             (refine hsy.mono ?_)
             (rintro e w3 ⟨rfl, _, F3, _, hI3⟩)
             (clear hsy)))
        clear i0
        obtain ⟨h0, hh0⟩ : ∃ h0, h0 = holds S := ⟨_, rfl⟩
        have hh0l : ∀ i j, h0 i j < 256 := by rw [hh0]; exact holds_lt S hBy2
        have hI3a := hI3.alloc hD (.cells (cells8 fun _ => .slice none 0 0) 52)
        have hW0 : Was (w3.alloc (.cells (cells8 fun _ => .slice none 0 0) 52)) F3 c w3.heap.size (fun _ => .slice none 0 0) h0 0 := ⟨Has.new _ _ _, ⟨fun hf => absurd (hI3.lt hD _ hf) (Nat.lt_irrefl _), fun e => absurd (e ▸ hI3.clt hD) (Nat.lt_irrefl _)⟩, fun _ => ⟨_, _, _, rfl⟩, fun j hj => absurd hj (Nat.not_lt_zero _)⟩
        have hgw : w.heap.size ≤ w3.heap.size := hI3.sz
        go_loopw [11] (fun i wz => ∃ (q : Nat) (W : Nat → Value), q ≤ 8 ∧ i = .int .i64 (q : Nat) ∧ Was wz F3 c w3.heap.size W h0 q ∧ In D w.heap.size w wz p S c m F3) (fun i _ => 8 - (intOf i).toNat)
        case atStart => exact ⟨0, _, Nat.zero_le _, rfl, hW0, hI3a⟩
        case round =>
          rename World => wo
          obtain ⟨q, W, hq, rfl, hWq, hIq⟩ := hrel
          clear hW0 hI3a hI3
          by_cases hq8 : q < 8
          · have j0 : (q : Int) < 8 := by omega
            have j1 : (0 : Int) ≤ (q : Int) := by omega
            have hr := in_read hD hIq (q : Int) ⟨by omega, by omega⟩
            rw [rdErr_ok S q hSd (by omega) (hSb q), Int.toNat_natCast, ← hh0] at hr
            go_wp2_with (first
              | ((go_at_call 20)
                 (refine hr.mono ?_)
                 (rintro e w4 ⟨hb4, hI4, v4, rfl, (⟨hv, _⟩ | ⟨_, hv4⟩)⟩)
                 (case inl => exact absurd rfl hv)
                 (obtain ⟨hg4, hW4⟩ := hWq.put hb4 (fun x hx => hIq.lt hD x hx) (hIq.clt hD) hv4)
                 (obtain ⟨g4, o4, n4, rfl, _, _, _⟩ := hv4.bytes)
                 (have c4 := hg4.cell q)
                 (rw [cells8_get _ q hq8] at c4)
                 (obtain ⟨a5, b5, d5, e5⟩ := hWq.sl q)
                 (rw [e5] at c4)
                 (have f4 := hg4.free q)
                 (have hI5 := hI4.only hD (G := fun k => k = w3.heap.size) (w' := w4.setCell ⟨w3.heap.size, q, none⟩ (.slice (some ⟨g4, o4, none⟩) 64 n4)) (only_set w4 _ _ _) (fun k hk e => hWq.out.1 (e ▸ hk)) (fun e => hWq.out.2 e.symm) (fun k e => by omega))
                 (clear hr hv4)))
            all_goals go_roundw
            case rel => exact ⟨q + 1, _, by omega, by go_num, hW4, hI5⟩
            case measure => simp [intOf]; omega
          · obtain rfl : q = 8 := by omega
            have j0 : ¬ ((8 : Nat) : Int) < 8 := by omega
            go_wp2
            clear hS
            have hIa := hIq.alloc hD (.cells (cells8 fun _ => .slice none 0 0) 54)
            have hWa := hWq.below ((Below.refl _ _).alloc (Nat.le_refl _) (.cells (cells8 fun _ => .slice none 0 0) 54))
            have hMa : May (wo.alloc (.cells (cells8 fun _ => .slice none 0 0) 54)) F3 c wo.heap.size wo.heap.size (fun _ => .slice none 0 0) (fun _ => []) :=
              ⟨Has.new _ _ _, ⟨fun hf => absurd (hIq.lt hD _ hf) (Nat.lt_irrefl _), fun e => absurd (e ▸ hIq.clt hD) (Nat.lt_irrefl _)⟩, fun i _ => World.ownsRow_nil _ _ _ _, (fun i _ g e => (by cases e)), (fun i j _ _ _ g e => (by cases e)), (fun i _ x hx => (by cases hx))⟩
            have hlo8 : ∀ j, j < 8 → ∀ b o l q, W j = .slice (some ⟨b, o, none⟩) l q → b < wo.heap.size := fun j hj b o l q e => by
              obtain ⟨b', o', k', e', _, hy⟩ := hWq.at_ j hj
              rw [e] at e'
              injection e' with e1 _ _
              rcases hy with hy | ⟨b2, o2, e2, hlt, _⟩
              · cases hy
              · rw [← e1] at e2
                cases e2
                exact hlt
            have hL0 : Lat D w p c wo.heap.size w3.heap.size wo.heap.size s.log s.fst (m : Int) h0 W (wo.alloc (.cells (cells8 fun _ => .slice none 0 0) 54)) 0 S m F3 (fun _ => .slice none 0 0) (fun _ => []) [] :=
              ⟨hIa, hSn, hSd, by omega, by omega, hSb, hBy2, hSl, hSf, hWa, hMa, (fun e he => (by cases he)), (fun j _ => Nat.le_refl _), (by simp), hIq.sz, hIq.sz, hlo8⟩
            have hbw := hIq.sz
            obtain ⟨l1, hl1⟩ : ∃ l1, l1 = s.log := ⟨_, rfl⟩
            obtain ⟨f1, hf1⟩ : ∃ f1, f1 = s.fst := ⟨_, rfl⟩
            obtain ⟨gm, hgm⟩ : ∃ gm, gm = wo.heap.size := ⟨_, rfl⟩
            rw [← hl1, ← hf1, ← hgm] at hL0
            rw [← hgm] at hbw
            have HH2 : Hid (∀ i, h0 i = l1.foldl upF f1 i) := fun i => by rw [hh0, hl1, hf1]; exact HH.out i
            obtain ⟨gw, hgw3⟩ : ∃ gw, gw = w3.heap.size := ⟨_, rfl⟩
            rw [← hgw3] at hL0
            obtain ⟨mo, hmo⟩ : ∃ mo : Int, mo = (m : Int) := ⟨_, rfl⟩
            rw [← hmo] at hL0
            have HW : Hid (gm = wo.heap.size ∧ gw = w3.heap.size) := ⟨hgm, hgw3⟩
            rw [show w3.heap.size = gw from hgw3.symm, show wo.heap.size = gm from hgm.symm]
            clear hIa hWa hMa hIq hWq hmo hgw3 hgm hl1 hf1 hh0 HH hSl hSf hBy2 hl2 hSn hSd hSb hIn hn hdd hll hmm hQ hBy hkk hk6 hkl0 hk60 hgw hlo8
            go_loopw [15] (fun i wz => ∃ (k : Nat) (s : DS) (m : Nat) (F : Nat → Prop) (V : Nat → Value) (Ls : Nat → List (Nat × (Nat → Nat))) (lat : List AE), k ≤ len2 ∧ k ≤ 100 ∧ i = .int .i64 (k : Nat) ∧ Lat D w p c gm gw gm l1 f1 mo h0 W wz k s m F V Ls lat) (fun i _ => 100 - (intOf i).toNat)
            case atStart => exact ⟨0, _, _, _, _, _, _, Nat.zero_le _, Nat.zero_le _, rfl, hL0⟩
            case round =>
              rename World => wl
              obtain ⟨k, s, m, F', V, Ls, lat, hkl0, hk60, rfl, hL⟩ := hrel
              clear hL0
              by_cases hkk : k < len2 ∧ k < 100
              · obtain ⟨hkl, hk6⟩ := hkk
                obtain ⟨x, o, rfl, hx, hop⟩ := hS2.2 k hkl
                obtain ⟨v, hv⟩ : ∃ v, v = O2 k := ⟨_, rfl⟩
                rw [← hv] at hop
                have hIn := hL.dev
                have hOp := hop.below hx hIn.below (Nat.le_refl _)
                have hby := hop.by_
                have i0 : (k : Int) < (len2 : Int) := by omega
                have i1 : (0 : Int) ≤ (k : Int) := by omega
                have i2 : (k : Int) < 100 := by omega
                clear hv hS2
                go_wp2
                have hwr' := in_write hD (hIn.next hD (Below.refl _ wl).drew) v.i v.a v.L v.C v.b hop.oi (by have := hL.m_; omega) (by have := hL.len; omega) hby.le hby.max hby.nil (hby.at_.below (hIn.below.trans ((Below.refl _ wl).drew.mono hIn.sz)) (Nat.le_refl _)) hby.byt (.inr (hIn.apart hby.lt))
                by_cases hE : wrErr s v.i v.L = 0
                · rw [hE] at hwr'
                  refine wp_region_held_drew (S := fun wz => wz.cell? ⟨x, o + k * 4 + 1, none⟩ = some (.int .i64 v.i) ∧ wz.cell? ⟨x, o + k * 4 + 2, none⟩ = some (.slice v.a v.L v.C)) (by kernel_rfl) ⟨hOp.c1, hOp.c2⟩ (fun hHeld => ?_)
                  refine takeTo 0 (some 84) (ptr p) rfl rfl (by kernel_rfl) (by kernel_rfl) (by kernel_rfl) (fun _ _ _ h => h) (by rfl) (fun _ _ => rfl) hHeld ?_
                  simp only [Act.put, List.setIfInBounds_toArray, List.set_cons_zero, List.set_cons_succ]
                  refine takeTo 1 (some 85) (.slice (some ⟨x, o, none⟩) len2 scap2) rfl rfl (by kernel_rfl) (by kernel_rfl) (by kernel_rfl) (fun _ _ _ h => h) (by rfl) (fun _ _ => rfl) hHeld ?_
                  simp only [Act.put, List.setIfInBounds_toArray, List.set_cons_zero, List.set_cons_succ]
                  refine takeTo 2 (some 86) (.int .i64 (k : Nat)) rfl rfl (by kernel_rfl) (by kernel_rfl) (by kernel_rfl) (fun _ _ _ h => h) (by rfl) (fun _ _ => rfl) hHeld ?_
                  simp only [Act.put, List.setIfInBounds_toArray, List.set_cons_zero, List.set_cons_succ]
                  refine takeTo 3 (some 87) (.pointer (some ⟨x, o + k * 4, none⟩)) rfl rfl (by kernel_rfl) (by kernel_rfl) (by kernel_rfl) (fun _ _ _ h => h) (by rfl) (fun wz _ => run_at_op _ _ rfl x o k len2 scap2 rfl rfl hkl wz) hHeld ?_
                  simp only [Act.put, List.setIfInBounds_toArray, List.set_cons_zero, List.set_cons_succ]
                  refine takeTo 4 (some 88) (.pointer (some ⟨x, o + k * 4 + 1, none⟩)) rfl rfl (by kernel_rfl) (by kernel_rfl) (by kernel_rfl) (fun _ _ _ h => h) (by rfl) (fun _ _ => rfl) hHeld ?_
                  simp only [Act.put, List.setIfInBounds_toArray, List.set_cons_zero, List.set_cons_succ]
                  refine takeTo 5 (some 89) (.int .i64 v.i) rfl rfl (by kernel_rfl) (by kernel_rfl) (by kernel_rfl) (fun _ _ _ h => h) (by rfl) (fun wz hz => run_load_i _ rfl _ rfl _ wz hz.1) hHeld ?_
                  simp only [Act.put, List.setIfInBounds_toArray, List.set_cons_zero, List.set_cons_succ]
                  refine takeTo 6 (some 90) (.slice (some ⟨x, o, none⟩) len2 scap2) rfl rfl (by kernel_rfl) (by kernel_rfl) (by kernel_rfl) (fun _ _ _ h => h) (by rfl) (fun _ _ => rfl) hHeld ?_
                  simp only [Act.put, List.setIfInBounds_toArray, List.set_cons_zero, List.set_cons_succ]
                  refine takeTo 7 (some 91) (.int .i64 (k : Nat)) rfl rfl (by kernel_rfl) (by kernel_rfl) (by kernel_rfl) (fun _ _ _ h => h) (by rfl) (fun _ _ => rfl) hHeld ?_
                  simp only [Act.put, List.setIfInBounds_toArray, List.set_cons_zero, List.set_cons_succ]
                  refine takeTo 8 (some 92) (.pointer (some ⟨x, o + k * 4, none⟩)) rfl rfl (by kernel_rfl) (by kernel_rfl) (by kernel_rfl) (fun _ _ _ h => h) (by rfl) (fun wz _ => run_at_op _ _ rfl x o k len2 scap2 rfl rfl hkl wz) hHeld ?_
                  simp only [Act.put, List.setIfInBounds_toArray, List.set_cons_zero, List.set_cons_succ]
                  refine takeTo 9 (some 93) (.pointer (some ⟨x, o + k * 4 + 2, none⟩)) rfl rfl (by kernel_rfl) (by kernel_rfl) (by kernel_rfl) (fun _ _ _ h => h) (by rfl) (fun _ _ => rfl) hHeld ?_
                  simp only [Act.put, List.setIfInBounds_toArray, List.set_cons_zero, List.set_cons_succ]
                  refine takeTo 10 (some 94) (.slice v.a v.L v.C) rfl rfl (by kernel_rfl) (by kernel_rfl) (by kernel_rfl) (fun _ _ _ h => h) (by rfl) (fun wz hz => run_load_row1 _ rfl _ rfl _ wz hz.2) hHeld ?_
                  simp only [Act.put, List.setIfInBounds_toArray, List.set_cons_zero, List.set_cons_succ]
                  refine callTo 11 (some 95) 11 #[ptr p, .int .i64 v.i, .slice v.a v.L v.C] (by kernel_rfl) rfl rfl (by rfl) (by kernel_rfl) hwr' ?_
                  rintro e5 w5 ⟨rfl, hO5, F5, hg5, hI5⟩
                  have hOp5 := hop.below hx hI5.below (Nat.le_refl _)
                  have hHeld := (⟨hOp5.c1, hOp5.c2⟩ : w5.cell? ⟨x, o + k * 4 + 1, none⟩ = some (.int .i64 v.i) ∧ w5.cell? ⟨x, o + k * 4 + 2, none⟩ = some (.slice v.a v.L v.C))
                  refine ⟨_, rfl, hHeld, ?_⟩
                  simp only [Act.put, List.setIfInBounds_toArray, List.set_cons_zero, List.set_cons_succ]
                  refine takeTo 12 (some 96) (.bool true) rfl rfl (by kernel_rfl) (by kernel_rfl) (by kernel_rfl) (fun _ _ _ h => h) (by rfl) (fun wz _ => run_eql_err _ _ rfl 0 rfl rfl true rfl wz) hHeld ?_
                  simp only [Act.put, List.setIfInBounds_toArray, List.set_cons_zero, List.set_cons_succ]
                  refine wpAnyH_done (by kernel_rfl) ?_ _
                  have hW5 := (hL.was.below (Below.refl _ wl).drew).only hO5 hg5
                  have hM5 := (hL.may.below (Below.refl _ wl).drew).only hO5 hg5
                  obtain ⟨I, hI8, hvi⟩ := wr_in s v.i v.L hE hL.n
                  obtain ⟨vi, hvi2⟩ : ∃ vi, vi = v.i := ⟨_, rfl⟩
                  have eW : wrS s v.i v.b v.L m = wroteD s I (full v.b v.L) (m + 1) := by
                    unfold wrS
                    rw [if_pos hE, hvi, Int.toNat_natCast]
                  have eM : wrM s v.i v.L m = m + 1 := by
                    unfold wrM
                    rw [if_pos hE]
                  rw [eW, eM] at hI5
                  have c1 := hOp5.c1
                  have c2 := hOp5.c2
                  rw [hvi] at c1
                  obtain ⟨f, hf⟩ : ∃ f, f = full v.b v.L := ⟨_, rfl⟩
                  have hfl : ∀ j, f j < 256 := by rw [hf]; exact full_lt _ _ hby.byt
                  have hfu := full_any v.b v.L v.C v.a w5.drew hby.max (hby.at_.below (hI5.below.trans ((Below.refl _ w5).drew.mono hI5.sz)) (Nat.le_refl _))
                  rw [← hf] at hfu
                  have hIF := fun k hk => hI5.lt hD k hk
                  have hIc := hI5.clt hD
                  have cV := hM5.has.cell I
                  rw [cells8_get _ I hI8] at cV
                  clear hOp5
                  go_wp2
                  refine lastTo (S := fun wz => wz.cell? ⟨x, o + k * 4 + 1, none⟩ = some (.int .i64 (I : Nat)) ∧ wz.cell? ⟨x, o + k * 4 + 2, none⟩ = some (.slice v.a v.L v.C) ∧ wz.cell? ⟨gm, I, none⟩ = some (V I)) 21 (by kernel_rfl) ⟨c1, c2, cV⟩ (fun hHeld => ?_)
                  refine takeL 0 (some 97) (.slice (some ⟨x, o, none⟩) len2 scap2) rfl rfl (by decide) (by kernel_rfl) (by kernel_rfl) (by kernel_rfl) (by kernel_rfl) (fun _ _ _ h => h) (by rfl) (fun _ _ => rfl) hHeld ?_
                  simp only [Act.put, List.setIfInBounds_toArray, List.set_cons_zero, List.set_cons_succ]
                  refine takeL 1 (some 98) (.int .i64 (k : Nat)) rfl rfl (by decide) (by kernel_rfl) (by kernel_rfl) (by kernel_rfl) (by kernel_rfl) (fun _ _ _ h => h) (by rfl) (fun _ _ => rfl) hHeld ?_
                  simp only [Act.put, List.setIfInBounds_toArray, List.set_cons_zero, List.set_cons_succ]
                  refine takeL 2 (some 99) (.pointer (some ⟨x, o + k * 4, none⟩)) rfl rfl (by decide) (by kernel_rfl) (by kernel_rfl) (by kernel_rfl) (by kernel_rfl) (fun _ _ _ h => h) (by rfl) (fun wz _ => run_at_op _ _ rfl x o k len2 scap2 rfl rfl hkl wz) hHeld ?_
                  simp only [Act.put, List.setIfInBounds_toArray, List.set_cons_zero, List.set_cons_succ]
                  refine takeL 3 (some 100) (.pointer (some ⟨x, o + k * 4 + 1, none⟩)) rfl rfl (by decide) (by kernel_rfl) (by kernel_rfl) (by kernel_rfl) (by kernel_rfl) (fun _ _ _ h => h) (by rfl) (fun _ _ => rfl) hHeld ?_
                  simp only [Act.put, List.setIfInBounds_toArray, List.set_cons_zero, List.set_cons_succ]
                  refine takeL 4 (some 101) (.int .i64 (I : Nat)) rfl rfl (by decide) (by kernel_rfl) (by kernel_rfl) (by kernel_rfl) (by kernel_rfl) (fun _ _ _ h => h) (by rfl) (fun wz hz => run_load_i _ rfl _ rfl _ wz hz.1) hHeld ?_
                  simp only [Act.put, List.setIfInBounds_toArray, List.set_cons_zero, List.set_cons_succ]
                  refine takeL 5 (some 102) (.slice (some ⟨x, o, none⟩) len2 scap2) rfl rfl (by decide) (by kernel_rfl) (by kernel_rfl) (by kernel_rfl) (by kernel_rfl) (fun _ _ _ h => h) (by rfl) (fun _ _ => rfl) hHeld ?_
                  simp only [Act.put, List.setIfInBounds_toArray, List.set_cons_zero, List.set_cons_succ]
                  refine takeL 6 (some 103) (.int .i64 (k : Nat)) rfl rfl (by decide) (by kernel_rfl) (by kernel_rfl) (by kernel_rfl) (by kernel_rfl) (fun _ _ _ h => h) (by rfl) (fun _ _ => rfl) hHeld ?_
                  simp only [Act.put, List.setIfInBounds_toArray, List.set_cons_zero, List.set_cons_succ]
                  refine takeL 7 (some 104) (.pointer (some ⟨x, o + k * 4, none⟩)) rfl rfl (by decide) (by kernel_rfl) (by kernel_rfl) (by kernel_rfl) (by kernel_rfl) (fun _ _ _ h => h) (by rfl) (fun wz _ => run_at_op _ _ rfl x o k len2 scap2 rfl rfl hkl wz) hHeld ?_
                  simp only [Act.put, List.setIfInBounds_toArray, List.set_cons_zero, List.set_cons_succ]
                  refine takeL 8 (some 105) (.pointer (some ⟨x, o + k * 4 + 1, none⟩)) rfl rfl (by decide) (by kernel_rfl) (by kernel_rfl) (by kernel_rfl) (by kernel_rfl) (fun _ _ _ h => h) (by rfl) (fun _ _ => rfl) hHeld ?_
                  simp only [Act.put, List.setIfInBounds_toArray, List.set_cons_zero, List.set_cons_succ]
                  refine takeL 9 (some 106) (.int .i64 (I : Nat)) rfl rfl (by decide) (by kernel_rfl) (by kernel_rfl) (by kernel_rfl) (by kernel_rfl) (fun _ _ _ h => h) (by rfl) (fun wz hz => run_load_i _ rfl _ rfl _ wz hz.1) hHeld ?_
                  simp only [Act.put, List.setIfInBounds_toArray, List.set_cons_zero, List.set_cons_succ]
                  refine takeL 10 (some 107) (.pointer (some ⟨gm, I, none⟩)) rfl rfl (by decide) (by kernel_rfl) (by kernel_rfl) (by kernel_rfl) (by kernel_rfl) (fun _ _ _ h => h) (by rfl) (fun wz _ => run_index_may _ _ rfl gm I rfl rfl hI8 wz) hHeld ?_
                  simp only [Act.put, List.setIfInBounds_toArray, List.set_cons_zero, List.set_cons_succ]
                  refine takeL 11 (some 108) (V I) rfl rfl (by decide) (by kernel_rfl) (by kernel_rfl) (by kernel_rfl) (by kernel_rfl) (fun _ _ _ h => h) (by rfl) (fun wz hz => run_load_V _ rfl _ rfl _ wz hz.2.2) hHeld ?_
                  simp only [Act.put, List.setIfInBounds_toArray, List.set_cons_zero, List.set_cons_succ]
                  refine takeL 12 (some 109) (.slice (some ⟨x, o, none⟩) len2 scap2) rfl rfl (by decide) (by kernel_rfl) (by kernel_rfl) (by kernel_rfl) (by kernel_rfl) (fun _ _ _ h => h) (by rfl) (fun _ _ => rfl) hHeld ?_
                  simp only [Act.put, List.setIfInBounds_toArray, List.set_cons_zero, List.set_cons_succ]
                  refine takeL 13 (some 110) (.int .i64 (k : Nat)) rfl rfl (by decide) (by kernel_rfl) (by kernel_rfl) (by kernel_rfl) (by kernel_rfl) (fun _ _ _ h => h) (by rfl) (fun _ _ => rfl) hHeld ?_
                  simp only [Act.put, List.setIfInBounds_toArray, List.set_cons_zero, List.set_cons_succ]
                  refine takeL 14 (some 111) (.pointer (some ⟨x, o + k * 4, none⟩)) rfl rfl (by decide) (by kernel_rfl) (by kernel_rfl) (by kernel_rfl) (by kernel_rfl) (fun _ _ _ h => h) (by rfl) (fun wz _ => run_at_op _ _ rfl x o k len2 scap2 rfl rfl hkl wz) hHeld ?_
                  simp only [Act.put, List.setIfInBounds_toArray, List.set_cons_zero, List.set_cons_succ]
                  refine takeL 15 (some 112) (.pointer (some ⟨x, o + k * 4 + 2, none⟩)) rfl rfl (by decide) (by kernel_rfl) (by kernel_rfl) (by kernel_rfl) (by kernel_rfl) (fun _ _ _ h => h) (by rfl) (fun _ _ => rfl) hHeld ?_
                  simp only [Act.put, List.setIfInBounds_toArray, List.set_cons_zero, List.set_cons_succ]
                  refine takeL 16 (some 113) (.slice v.a v.L v.C) rfl rfl (by decide) (by kernel_rfl) (by kernel_rfl) (by kernel_rfl) (by kernel_rfl) (fun _ _ _ h => h) (by rfl) (fun wz hz => run_load_row1 _ rfl _ rfl _ wz hz.2.1) hHeld ?_
                  simp only [Act.put, List.setIfInBounds_toArray, List.set_cons_zero, List.set_cons_succ]
                  refine callL 17 (some 114) 32 #[.slice v.a v.L v.C] (by kernel_rfl) rfl rfl (by rfl) (by kernel_rfl) hfu ?_
                  rintro e6 w6 ⟨rfl, hs6, hb6⟩
                  have hb56 : Below w5.heap.size w5 w6 := (Below.refl _ w5).drew.trans hb6
                  have hM6 := hM5.below hb56
                  have hW6 := hW5.below hb56
                  have hI6 := hI5.next hD hb56
                  have keep6 : ∀ wz, Below w6.heap.size w6 wz → Has wz gm 54 (cells8 V) → wz.cell? ⟨x, o + k * 4 + 1, none⟩ = some (.int .i64 (I : Nat)) ∧ wz.cell? ⟨x, o + k * 4 + 2, none⟩ = some (.slice v.a v.L v.C) ∧ wz.cell? ⟨gm, I, none⟩ = some (V I) := fun wz hbz hgz => by
                    have ho := hop.below hx (hI6.below.trans (hbz.mono hI6.sz)) (Nat.le_refl _)
                    refine ⟨by rw [← hvi]; exact ho.c1, ho.c2, ?_⟩
                    rw [hgz.cell I, cells8_get _ I hI8]
                  have hHeld := keep6 w6 (Below.refl _ _) hM6.has
                  refine ⟨_, rfl, hHeld, ?_⟩
                  simp only [Act.put, List.setIfInBounds_toArray, List.set_cons_zero, List.set_cons_succ]
                  obtain ⟨gn, hgn⟩ : ∃ gn, gn = w5.heap.size := ⟨_, rfl⟩
                  rw [show w5.drew.heap.size = gn from hgn.symm] at hs6 ⊢
                  have hgo : Out F5 c gn := ⟨fun hf' => by have := hIF gn hf'; omega, by omega⟩
                  obtain ⟨g7, cap7, w7, hr7, hown7, hgr7, hl7⟩ := may_append hM6 I hI8 gn f (by have := hL.short I hI8; omega) (Nat.le_trans hL.bs (Nat.le_trans (Nat.le_trans (show wl.heap.size ≤ w5.heap.size from hO5.size) hb56.size) (Nat.le_refl _))) 53
                  obtain ⟨hg7, hM7⟩ := hM6.put hI8 (fun k hk => Nat.lt_of_lt_of_le (hIF k hk) hb56.size) (Nat.lt_of_lt_of_le hIc hb56.size) hs6 hgo hfl hown7 hgr7 hl7
                  have hHeld8 := keep6 (w6.alloc (.cells #[.slice (some ⟨gn, 0, none⟩) 64 64] 33)) ((Below.refl _ _).alloc (Nat.le_refl _) _) (hM6.has.alloc _)
                  refine valL 18 (some 115) (.slice (some ⟨w6.heap.size, 0, none⟩) 1 1) (w6.alloc (.cells #[.slice (some ⟨gn, 0, none⟩) 64 64] 33)) (by kernel_rfl) rfl rfl (by rfl) (run_build_V _ rfl gn rfl w6) hHeld8 ?_
                  simp only [Act.put, List.setIfInBounds_toArray, List.set_cons_zero, List.set_cons_succ]
                  have hB7 : Below w.heap.size w w7 := (hI6.below.alloc hI6.sz (.cells #[.slice (some ⟨gn, 0, none⟩) 64 64] 33)).grown hgr7 (Nat.le_trans hI6.sz (by simp)) (fun g e => Nat.le_trans hL.bw ((hM6.row I hI8).lt g e).1)
                  have ho7 := hop.below hx hB7 (Nat.le_refl _)
                  have hHeld9 := (⟨by rw [← hvi]; exact ho7.c1, ho7.c2, by rw [hg7.cell I, cells8_get _ I hI8]⟩ : w7.cell? ⟨x, o + k * 4 + 1, none⟩ = some (.int .i64 (I : Nat)) ∧ w7.cell? ⟨x, o + k * 4 + 2, none⟩ = some (.slice v.a v.L v.C) ∧ w7.cell? ⟨gm, I, none⟩ = some (V I))
                  refine valL 19 (some 116) (.slice (some ⟨g7, 0, none⟩) ((Ls I).length + 1) cap7) w7 (by kernel_rfl) rfl rfl (by rfl) (run_append_V _ _ rfl (V I) (.slice (some ⟨w6.heap.size, 0, none⟩) 1 1) rfl rfl _ 53 rfl hr7) hHeld9 ?_
                  simp only [Act.put, List.setIfInBounds_toArray, List.set_cons_zero, List.set_cons_succ]
                  have hHeld := hHeld9
                  refine takeL 20 (some 117) (.pointer (some ⟨gm, I, none⟩)) rfl rfl (by decide) (by kernel_rfl) (by kernel_rfl) (by kernel_rfl) (by kernel_rfl) (fun _ _ _ h => h) (by rfl) (fun wz _ => run_index_may _ _ rfl gm I rfl rfl hI8 wz) hHeld ?_
                  simp only [Act.put, List.setIfInBounds_toArray, List.set_cons_zero, List.set_cons_succ]
                  have f7 := hg7.free I
                  refine lastSkip 21 none (w7.setCell ⟨gm, I, none⟩ (.slice (some ⟨g7, 0, none⟩) ((Ls I).length + 1) cap7)) (by kernel_rfl) rfl rfl (by rfl) (run_store_V _ _ rfl ⟨gm, I, none⟩ rfl _ _ _ rfl w7 _ hHeld9.2.2 f7) (by kernel_rfl) ?_
                  simp only [Act.put]
                  have hO7 := may_only (gm := gm) (i := I) (x := .slice (some ⟨g7, 0, none⟩) ((Ls I).length + 1) cap7) _ hgr7
                  have hI8b := hI6.only hD hO7 (fun q hq hh => hh.elim (fun e => hM6.out.1 (e ▸ hq)) (fun e => (hM6.rout I hI8 q e).1 hq)) (fun hh => hh.elim (fun e => hM6.out.2 e.symm) (fun e => (hM6.rout I hI8 c e).2 rfl)) (fun q hh => hh.elim (fun e => by rw [e]; exact hL.gmb) (fun e => Nat.le_trans hL.bw ((hM6.row I hI8).lt q e).1))
                  have hW8 := hW6.rows hM6 hL.wlo (Nat.le_refl _) I hI8 _ hgr7 (.slice (some ⟨g7, 0, none⟩) ((Ls I).length + 1) cap7)
                  have hnew : Lat D w p c gm gw gm l1 f1 mo h0 W (w7.setCell ⟨gm, I, none⟩ (.slice (some ⟨g7, 0, none⟩) ((Ls I).length + 1) cap7)) (k + 1) (wroteD s I f (m + 1)) (m + 1) F5 (updV V I (.slice (some ⟨g7, 0, none⟩) ((Ls I).length + 1) cap7)) (updL Ls I (gn, f)) (lat ++ [⟨I, f, false, false, ((m + 1 : Nat) : Int)⟩]) := by
                    refine ⟨by rw [hf]; exact hI8b, hL.n, hL.live, ?_, by have := hL.m_; omega, ?_, ?_, ?_, hL.fst, hW8, hM7, ?_, ?_, ?_, hL.bw, hL.gmb, hL.wlo⟩
                    · show (s.log ++ [_]).length ≤ _
                      rw [List.length_append]
                      have := hL.len
                      show s.log.length + 1 ≤ _
                      omega
                    · intro j
                      show (if j = I then false else s.bad j) = false
                      split
                      · rfl
                      · exact hL.nb j
                    · refine ⟨hL.by_.1, fun e he => ?_⟩
                      rcases List.mem_append.1 he with he | he
                      · exact hL.by_.2 e he
                      · obtain rfl := List.mem_singleton.1 he
                        exact hfl
                    · show s.log ++ [_] = _
                      rw [hL.log, List.append_assoc]
                      rfl
                    · intro e he hs
                      rcases List.mem_append.1 he with he | he
                      · obtain ⟨h8, y, hy, hye⟩ := hL.mine e he hs
                        refine ⟨h8, y, ?_, hye⟩
                        unfold updL
                        split
                        · rename_i e2
                          rw [e2] at hy
                          exact List.mem_append_left _ hy
                        · exact hy
                      · obtain rfl := List.mem_singleton.1 he
                        refine ⟨hI8, (gn, f), ?_, rfl⟩
                        unfold updL
                        rw [if_pos rfl]
                        exact List.mem_append_right _ (List.mem_singleton.2 rfl)
                    · intro j hj
                      have := hL.short j hj
                      unfold updL
                      split
                      · rename_i e2
                        rw [List.length_append]
                        rw [e2] at this
                        show (Ls I).length + 1 ≤ _
                        omega
                      · omega
                    · exact Nat.le_trans hL.bs (Nat.le_trans (Nat.le_trans (show wl.heap.size ≤ w5.heap.size from hO5.size) hb56.size) hO7.size)
                  have hwrote := hnew
                  go_wp2
                  go_roundw
                  case rel => exact ⟨k + 1, _, _, _, _, _, _, by omega, by omega, by go_num, hwrote⟩
                  case measure => simp [intOf]; omega
                · obtain ⟨z, hz⟩ : ∃ z, z = wrErr s v.i v.L := ⟨_, rfl⟩
                  have eW : wrS s v.i v.b v.L m = s := by
                    unfold wrS
                    rw [if_neg hE]
                  have eM : wrM s v.i v.L m = m := by
                    unfold wrM
                    rw [if_neg hE]
                  rw [eW, eM, ← hz] at hwr'
                  have hz0 : decide (z = 0) = false := by rw [hz]; simpa using hE
                  clear hz
                  refine wp_region_held_drew (S := fun wz => wz.cell? ⟨x, o + k * 4 + 1, none⟩ = some (.int .i64 v.i) ∧ wz.cell? ⟨x, o + k * 4 + 2, none⟩ = some (.slice v.a v.L v.C)) (by kernel_rfl) ⟨hOp.c1, hOp.c2⟩ (fun hHeld => ?_)
                  refine takeTo 0 (some 84) (ptr p) rfl rfl (by kernel_rfl) (by kernel_rfl) (by kernel_rfl) (fun _ _ _ h => h) (by rfl) (fun _ _ => rfl) hHeld ?_
                  simp only [Act.put, List.setIfInBounds_toArray, List.set_cons_zero, List.set_cons_succ]
                  refine takeTo 1 (some 85) (.slice (some ⟨x, o, none⟩) len2 scap2) rfl rfl (by kernel_rfl) (by kernel_rfl) (by kernel_rfl) (fun _ _ _ h => h) (by rfl) (fun _ _ => rfl) hHeld ?_
                  simp only [Act.put, List.setIfInBounds_toArray, List.set_cons_zero, List.set_cons_succ]
                  refine takeTo 2 (some 86) (.int .i64 (k : Nat)) rfl rfl (by kernel_rfl) (by kernel_rfl) (by kernel_rfl) (fun _ _ _ h => h) (by rfl) (fun _ _ => rfl) hHeld ?_
                  simp only [Act.put, List.setIfInBounds_toArray, List.set_cons_zero, List.set_cons_succ]
                  refine takeTo 3 (some 87) (.pointer (some ⟨x, o + k * 4, none⟩)) rfl rfl (by kernel_rfl) (by kernel_rfl) (by kernel_rfl) (fun _ _ _ h => h) (by rfl) (fun wz _ => run_at_op _ _ rfl x o k len2 scap2 rfl rfl hkl wz) hHeld ?_
                  simp only [Act.put, List.setIfInBounds_toArray, List.set_cons_zero, List.set_cons_succ]
                  refine takeTo 4 (some 88) (.pointer (some ⟨x, o + k * 4 + 1, none⟩)) rfl rfl (by kernel_rfl) (by kernel_rfl) (by kernel_rfl) (fun _ _ _ h => h) (by rfl) (fun _ _ => rfl) hHeld ?_
                  simp only [Act.put, List.setIfInBounds_toArray, List.set_cons_zero, List.set_cons_succ]
                  refine takeTo 5 (some 89) (.int .i64 v.i) rfl rfl (by kernel_rfl) (by kernel_rfl) (by kernel_rfl) (fun _ _ _ h => h) (by rfl) (fun wz hz => run_load_i _ rfl _ rfl _ wz hz.1) hHeld ?_
                  simp only [Act.put, List.setIfInBounds_toArray, List.set_cons_zero, List.set_cons_succ]
                  refine takeTo 6 (some 90) (.slice (some ⟨x, o, none⟩) len2 scap2) rfl rfl (by kernel_rfl) (by kernel_rfl) (by kernel_rfl) (fun _ _ _ h => h) (by rfl) (fun _ _ => rfl) hHeld ?_
                  simp only [Act.put, List.setIfInBounds_toArray, List.set_cons_zero, List.set_cons_succ]
                  refine takeTo 7 (some 91) (.int .i64 (k : Nat)) rfl rfl (by kernel_rfl) (by kernel_rfl) (by kernel_rfl) (fun _ _ _ h => h) (by rfl) (fun _ _ => rfl) hHeld ?_
                  simp only [Act.put, List.setIfInBounds_toArray, List.set_cons_zero, List.set_cons_succ]
                  refine takeTo 8 (some 92) (.pointer (some ⟨x, o + k * 4, none⟩)) rfl rfl (by kernel_rfl) (by kernel_rfl) (by kernel_rfl) (fun _ _ _ h => h) (by rfl) (fun wz _ => run_at_op _ _ rfl x o k len2 scap2 rfl rfl hkl wz) hHeld ?_
                  simp only [Act.put, List.setIfInBounds_toArray, List.set_cons_zero, List.set_cons_succ]
                  refine takeTo 9 (some 93) (.pointer (some ⟨x, o + k * 4 + 2, none⟩)) rfl rfl (by kernel_rfl) (by kernel_rfl) (by kernel_rfl) (fun _ _ _ h => h) (by rfl) (fun _ _ => rfl) hHeld ?_
                  simp only [Act.put, List.setIfInBounds_toArray, List.set_cons_zero, List.set_cons_succ]
                  refine takeTo 10 (some 94) (.slice v.a v.L v.C) rfl rfl (by kernel_rfl) (by kernel_rfl) (by kernel_rfl) (fun _ _ _ h => h) (by rfl) (fun wz hz => run_load_row1 _ rfl _ rfl _ wz hz.2) hHeld ?_
                  simp only [Act.put, List.setIfInBounds_toArray, List.set_cons_zero, List.set_cons_succ]
                  refine callTo 11 (some 95) 11 #[ptr p, .int .i64 v.i, .slice v.a v.L v.C] (by kernel_rfl) rfl rfl (by rfl) (by kernel_rfl) hwr' ?_
                  rintro e5 w5 ⟨rfl, hO5, F5, hg5, hI5⟩
                  have hOp5 := hop.below hx hI5.below (Nat.le_refl _)
                  have hHeld := (⟨hOp5.c1, hOp5.c2⟩ : w5.cell? ⟨x, o + k * 4 + 1, none⟩ = some (.int .i64 v.i) ∧ w5.cell? ⟨x, o + k * 4 + 2, none⟩ = some (.slice v.a v.L v.C))
                  refine ⟨_, rfl, hHeld, ?_⟩
                  simp only [Act.put, List.setIfInBounds_toArray, List.set_cons_zero, List.set_cons_succ]
                  refine takeTo 12 (some 96) (.bool false) rfl rfl (by kernel_rfl) (by kernel_rfl) (by kernel_rfl) (fun _ _ _ h => h) (by rfl) (fun wz _ => run_eql_err _ _ rfl z rfl rfl false hz0 wz) hHeld ?_
                  simp only [Act.put, List.setIfInBounds_toArray, List.set_cons_zero, List.set_cons_succ]
                  refine wpAnyH_done (by kernel_rfl) ?_ _
                  have hW5 := (hL.was.below (Below.refl _ wl).drew).only hO5 hg5
                  have hM5 := (hL.may.below (Below.refl _ wl).drew).only hO5 hg5
                  go_wp2
                  go_roundw
                  case rel => exact ⟨k + 1, s, m, F5, V, Ls, lat, by omega, by omega, by go_num, hI5, hL.n, hL.live, by have := hL.len; omega, by have := hL.m_; omega, hL.nb, hL.by_, hL.log, hL.fst, hW5, hM5, hL.mine, fun j hj => by have := hL.short j hj; omega, Nat.le_trans hL.bs (show wl.heap.size ≤ w5.heap.size from hO5.size), hL.bw, hL.gmb, hL.wlo⟩
                  case measure => simp [intOf]; omega
              · have hcut := in_cut hD hL.dev ka kL kC kb (by have := hL.len; omega) hk.max hk.le (hk.at_.below hL.dev.below (Nat.le_refl _))
                have hor := fun i => safe_or s l1 lat ⟨0, fun _ => 0, true, false, mo⟩ rfl hL.log (keepOf kb kL) i
                rw [hL.fst] at hor
                have E1 : ∀ i, i < 8 → rdErr (cutD s (keepOf kb kL)) ((i : Nat) : Int) = 0 := fun i hi => rdErr_ok _ i hL.live (by show i < s.n; rw [hL.n]; exact hi) (hL.nb i)
                have hTb := holds_lt _ (byt_cut s (keepOf kb kL) hL.by_)
                have hTp : pend (cutD s (keepOf kb kL)).log = 0 := rfl
                have hTl : (cutD s (keepOf kb kL)).log.length ≤ 100000 := Nat.zero_le _
                obtain ⟨T, hT⟩ : ∃ T, T = cutD s (keepOf kb kL) := ⟨_, rfl⟩
                rw [← hT] at hcut hTb hTp hTl
                have E1 : ∀ i, i < 8 → rdErr T ((i : Nat) : Int) = 0 := by rw [hT]; exact E1
                have hor : ∀ i, holds T i = h0 i ∨ ∃ d ∈ lat, d.sync = false ∧ d.i = i ∧ holds T i = d.b := fun i => by rw [hT, HH2.out i]; exact hor i
                have hWL := hL.was
                have hML := hL.may
                have hmine := hL.mine
                have hshort : ∀ j, j < 8 → (Ls j).length ≤ 100 := fun j hj => Nat.le_trans (hL.short j hj) hk60
                clear hT hL
                by_cases hk6 : k < len2
                · have i0 : (k : Int) < (len2 : Int) := by omega
                  have i1 : ¬ (k : Int) < 100 := by omega
                  go_wp2_with (first
                    | ((go_at_call 25)
                       (refine hcut.mono ?_)
                       (rintro e w4 ⟨hb4, hI4, p', c', F4, rfl, hJ4, _, _⟩)
                       (have hpe := in_tells hD hJ4 (hD.pending w4 p' T c' 0 F4 hJ4.dev hTl))
                       (rw [hTp] at hpe)
                       (clear hcut))
                    | ((go_at_call 33)
                       (refine hpe.mono ?_)
                       (rintro e w5 ⟨rfl, hb5, hJ5⟩)
                       (have hW5 := (hWL.below hb4).below hb5)
                       (have hM5 := (hML.below hb4).below hb5)
                       (clear hpe hWL hML hI4 hJ4)))
                  clear i0
                  go_loopw [17] (fun i wz => ∃ q : Nat, q ≤ 8 ∧ i = .int .i64 (q : Nat) ∧ Was wz F' c gw W h0 8 ∧ May wz F' c gm gm V Ls ∧ In D w.heap.size w wz p' T c' 0 F4) (fun i _ => 8 - (intOf i).toNat)
                  case atStart => exact ⟨0, Nat.zero_le _, rfl, hW5, hM5, hJ5⟩
                  case round =>
                    rename World => wq
                    obtain ⟨q, hq, rfl, hWq, hMq, hIq⟩ := hrel
                    clear hW5 hM5 hJ5
                    by_cases hq8 : q < 8
                    · have j0 : (q : Int) < 8 := by omega
                      have j1 : (0 : Int) ≤ (q : Int) := by omega
                      have hr := in_read hD hIq (q : Int) ⟨by omega, by omega⟩
                      rw [E1 q hq8, Int.toNat_natCast] at hr
                      obtain ⟨f, hf⟩ : ∃ f, f = holds T q := ⟨_, rfl⟩
                      have hfl : ∀ j, f j < 256 := by rw [hf]; exact hTb q
                      rw [← hf] at hr
                      have horq := hor q
                      rw [← hf] at horq
                      obtain ⟨wb, wo2, wk, eWq, _, hBq⟩ := hWq.at_ q hq8
                      have cW := hWq.has.cell q
                      rw [cells8_get _ q hq8, eWq] at cW
                      clear hf
                      go_wp2_with (first
                        | ((go_at_call 20)
                           (refine hr.mono ?_)
                           (rintro e w6 ⟨hb6, hI6, v6, rfl, (⟨hv, _⟩ | ⟨_, hv6⟩)⟩)
                           (case inl => exact absurd rfl hv)
                           (obtain ⟨g6, o6, n6, rfl, _, _, hB6⟩ := hv6.bytes)
                           (have hW6 := hWq.below hb6)
                           (have hM6 := hMq.below hb6)
                           (have hBw := hBq.below hb6 (Nat.le_refl _))
                           (have cW6 := hW6.has.cell q)
                           (rw [cells8_get _ q hq8, eWq] at cW6)
                           (have hsm := same_any n6 wk hB6 hBw hfl (hh0l q) (fun e => by cases e) (fun e => by cases e))
                           (obtain ⟨b0, hb0⟩ : ∃ b0, b0 = (strN f 64 == strN (h0 q) 64) := ⟨_, rfl⟩)
                           (rw [← hb0] at hsm)
                           (have HB0 : Hid (b0 = (strN f 64 == strN (h0 q) 64)) := hb0)
                           (clear hr hv6 hb0 cW))
                        | ((go_at_call 22)
                           (refine hsm.mono ?_)
                           (rintro e w7 ⟨rfl, hw7⟩)
                           (subst hw7)
                           (clear hsm)))
                      obtain ⟨n, hn⟩ : ∃ n, n = (Ls q).length := ⟨_, rfl⟩
                      have HN : Hid (n = (Ls q).length) := hn
                      have hn100 : n ≤ 100 := by rw [hn]; exact hshort q hq8
                      clear hn cW6 hBw hBq
                      go_loopw [20, 21] (fun b i wz => ∃ t : Nat, t ≤ n ∧ i = .int .i64 (t : Nat) ∧ b = .bool (b0 || ((Ls q).take t).any fun x => strN f 64 == strN x.2 64) ∧ Was wz F' c gw W h0 8 ∧ May wz F' c gm gm V Ls ∧ In D w.heap.size w wz p' T c' 0 F4 ∧ Bytes wz (some ⟨g6, o6, none⟩) 64 f) (fun _ i _ => n - (intOf i).toNat)
                      case atStart => exact ⟨0, Nat.zero_le _, rfl, by simp, hW6, hM6, hI6, hB6⟩
                      case round =>
                        rename World => wy
                        clear hW6 hM6 hI6 hB6
                        obtain ⟨t, ht, rfl, rfl, hW6, hM6, hI6, hB6⟩ := hrel
                        obtain ⟨A, cap, hVq⟩ : ∃ A cap, V q = .slice A (Ls q).length cap := by
                          rcases (hM6.row q hq8).2 with ⟨h1, h2⟩ | ⟨g, cap, cur, h1, _⟩
                          · exact ⟨none, 0, by rw [h1, h2]⟩
                          · exact ⟨_, _, h1⟩
                        have cV := hM6.has.cell q
                        rw [cells8_get _ q hq8, hVq] at cV
                        have hrow := hM6.row q hq8
                        rw [hVq] at hrow
                        rw [← HN.out] at cV hrow
                        by_cases htn : t < n
                        · have k0 : (t : Int) < (n : Int) := by omega
                          have k1 : (0 : Int) ≤ (t : Int) := by omega
                          obtain ⟨x, hx⟩ : ∃ x, (Ls q)[t]? = some x := ⟨(Ls q)[t]'(by rw [← HN.out]; exact htn), List.getElem?_eq_getElem _⟩
                          obtain ⟨hx1, _, hx3⟩ := hM6.sec q hq8 x (List.mem_of_getElem? hx)
                          obtain ⟨gr, hgr⟩ : ∃ gr, A = some ⟨gr, 0, none⟩ := by
                            rcases hrow.2 with ⟨h1, h2⟩ | ⟨g, cap', cur, h1, _⟩
                            · omega
                            · injection h1 with h1
                              exact ⟨g, h1⟩
                          subst hgr
                          have cX := hrow.cellAt t (by omega)
                          rw [show (rowsV (Ls q))[t]? = some (.slice (some ⟨x.1, 0, none⟩) 64 64) from by simp [rowsV, hx]] at cX
                          have hsm := same_any n6 64 hB6 hx1.bytes hfl hx3 (fun e => by cases e) (fun e => by cases e)
                          have hnx : ((Ls q).take (t + 1)).any (fun x => strN f 64 == strN x.2 64) = (((Ls q).take t).any (fun x => strN f 64 == strN x.2 64) || (strN f 64 == strN x.2 64)) := by
                            rw [List.take_add_one, hx, List.any_append]
                            simp
                          obtain ⟨y, hy⟩ : ∃ y, y = (strN f 64 == strN x.2 64) := ⟨_, rfl⟩
                          obtain ⟨bb, hbb⟩ : ∃ bb, bb = (b0 || ((Ls q).take t).any fun x => strN f 64 == strN x.2 64) := ⟨_, rfl⟩
                          have HY : Hid ((b0 || ((Ls q).take (t + 1)).any fun x => strN f 64 == strN x.2 64) = (bb || y)) := by
                            show _ = _
                            rw [hnx, hbb, hy, Bool.or_assoc]
                          rw [← hy] at hsm
                          rw [← hbb]
                          clear hnx hy hbb hx
                          cases bb <;> cases y <;> (
                            go_wp2_with (first
                              | ((go_at_call 22)
                                 (refine hsm.mono ?_)
                                 (rintro e w8 ⟨rfl, hw8⟩)
                                 (subst hw8)
                                 (clear hsm)))
                            go_roundw
                            case rel => exact ⟨t + 1, htn, by go_num, (by rw [HY.out]; rfl), hW6, hM6, hI6, hB6⟩
                            case measure => simp [intOf]; omega)
                        · obtain rfl : t = n := by omega
                          have k0 : ¬ (t : Int) < (t : Int) := by omega
                          have hall : (b0 || ((Ls q).take t).any fun x => strN f 64 == strN x.2 64) = true := by
                            rw [HN.out, List.take_length]
                            rcases horq with h1 | ⟨d, hd1, hd2, hd3, hd4⟩
                            · rw [HB0.out, h1]
                              simp
                            · obtain ⟨_, x, hx, hxe⟩ := hmine d hd1 hd2
                              rw [hd3] at hx
                              rw [Bool.or_eq_true]
                              refine .inr (List.any_eq_true.2 ⟨x, hx, ?_⟩)
                              rw [hd4, hxe]
                              simp
                          rw [hall]
                          go_wp2
                          go_roundw
                          case rel => exact ⟨q + 1, by omega, by go_num, hW6, hM6, hI6⟩
                          case measure => simp [intOf]; omega
                    · obtain rfl : q = 8 := by omega
                      have j0 : ¬ ((8 : Nat) : Int) < 8 := by omega
                      go_wp2
                      exact bodyPost_ret (results_tmp rfl _ _ _) rfl ⟨rfl, hIq.below⟩
                · have i0 : ¬ (k : Int) < (len2 : Int) := by omega
                  go_wp2_with (first
                    | ((go_at_call 25)
                       (refine hcut.mono ?_)
                       (rintro e w4 ⟨hb4, hI4, p', c', F4, rfl, hJ4, _, _⟩)
                       (have hpe := in_tells hD hJ4 (hD.pending w4 p' T c' 0 F4 hJ4.dev hTl))
                       (rw [hTp] at hpe)
                       (clear hcut))
                    | ((go_at_call 33)
                       (refine hpe.mono ?_)
                       (rintro e w5 ⟨rfl, hb5, hJ5⟩)
                       (have hW5 := (hWL.below hb4).below hb5)
                       (have hM5 := (hML.below hb4).below hb5)
                       (clear hpe hWL hML hI4 hJ4)))
                  clear i0
                  go_loopw [17] (fun i wz => ∃ q : Nat, q ≤ 8 ∧ i = .int .i64 (q : Nat) ∧ Was wz F' c gw W h0 8 ∧ May wz F' c gm gm V Ls ∧ In D w.heap.size w wz p' T c' 0 F4) (fun i _ => 8 - (intOf i).toNat)
                  case atStart => exact ⟨0, Nat.zero_le _, rfl, hW5, hM5, hJ5⟩
                  case round =>
                    rename World => wq
                    obtain ⟨q, hq, rfl, hWq, hMq, hIq⟩ := hrel
                    clear hW5 hM5 hJ5
                    by_cases hq8 : q < 8
                    · have j0 : (q : Int) < 8 := by omega
                      have j1 : (0 : Int) ≤ (q : Int) := by omega
                      have hr := in_read hD hIq (q : Int) ⟨by omega, by omega⟩
                      rw [E1 q hq8, Int.toNat_natCast] at hr
                      obtain ⟨f, hf⟩ : ∃ f, f = holds T q := ⟨_, rfl⟩
                      have hfl : ∀ j, f j < 256 := by rw [hf]; exact hTb q
                      rw [← hf] at hr
                      have horq := hor q
                      rw [← hf] at horq
                      obtain ⟨wb, wo2, wk, eWq, _, hBq⟩ := hWq.at_ q hq8
                      have cW := hWq.has.cell q
                      rw [cells8_get _ q hq8, eWq] at cW
                      clear hf
                      go_wp2_with (first
                        | ((go_at_call 20)
                           (refine hr.mono ?_)
                           (rintro e w6 ⟨hb6, hI6, v6, rfl, (⟨hv, _⟩ | ⟨_, hv6⟩)⟩)
                           (case inl => exact absurd rfl hv)
                           (obtain ⟨g6, o6, n6, rfl, _, _, hB6⟩ := hv6.bytes)
                           (have hW6 := hWq.below hb6)
                           (have hM6 := hMq.below hb6)
                           (have hBw := hBq.below hb6 (Nat.le_refl _))
                           (have cW6 := hW6.has.cell q)
                           (rw [cells8_get _ q hq8, eWq] at cW6)
                           (have hsm := same_any n6 wk hB6 hBw hfl (hh0l q) (fun e => by cases e) (fun e => by cases e))
                           (obtain ⟨b0, hb0⟩ : ∃ b0, b0 = (strN f 64 == strN (h0 q) 64) := ⟨_, rfl⟩)
                           (rw [← hb0] at hsm)
                           (have HB0 : Hid (b0 = (strN f 64 == strN (h0 q) 64)) := hb0)
                           (clear hr hv6 hb0 cW))
                        | ((go_at_call 22)
                           (refine hsm.mono ?_)
                           (rintro e w7 ⟨rfl, hw7⟩)
                           (subst hw7)
                           (clear hsm)))
                      obtain ⟨n, hn⟩ : ∃ n, n = (Ls q).length := ⟨_, rfl⟩
                      have HN : Hid (n = (Ls q).length) := hn
                      have hn100 : n ≤ 100 := by rw [hn]; exact hshort q hq8
                      clear hn cW6 hBw hBq
                      go_loopw [20, 21] (fun b i wz => ∃ t : Nat, t ≤ n ∧ i = .int .i64 (t : Nat) ∧ b = .bool (b0 || ((Ls q).take t).any fun x => strN f 64 == strN x.2 64) ∧ Was wz F' c gw W h0 8 ∧ May wz F' c gm gm V Ls ∧ In D w.heap.size w wz p' T c' 0 F4 ∧ Bytes wz (some ⟨g6, o6, none⟩) 64 f) (fun _ i _ => n - (intOf i).toNat)
                      case atStart => exact ⟨0, Nat.zero_le _, rfl, by simp, hW6, hM6, hI6, hB6⟩
                      case round =>
                        rename World => wy
                        clear hW6 hM6 hI6 hB6
                        obtain ⟨t, ht, rfl, rfl, hW6, hM6, hI6, hB6⟩ := hrel
                        obtain ⟨A, cap, hVq⟩ : ∃ A cap, V q = .slice A (Ls q).length cap := by
                          rcases (hM6.row q hq8).2 with ⟨h1, h2⟩ | ⟨g, cap, cur, h1, _⟩
                          · exact ⟨none, 0, by rw [h1, h2]⟩
                          · exact ⟨_, _, h1⟩
                        have cV := hM6.has.cell q
                        rw [cells8_get _ q hq8, hVq] at cV
                        have hrow := hM6.row q hq8
                        rw [hVq] at hrow
                        rw [← HN.out] at cV hrow
                        by_cases htn : t < n
                        · have k0 : (t : Int) < (n : Int) := by omega
                          have k1 : (0 : Int) ≤ (t : Int) := by omega
                          obtain ⟨x, hx⟩ : ∃ x, (Ls q)[t]? = some x := ⟨(Ls q)[t]'(by rw [← HN.out]; exact htn), List.getElem?_eq_getElem _⟩
                          obtain ⟨hx1, _, hx3⟩ := hM6.sec q hq8 x (List.mem_of_getElem? hx)
                          obtain ⟨gr, hgr⟩ : ∃ gr, A = some ⟨gr, 0, none⟩ := by
                            rcases hrow.2 with ⟨h1, h2⟩ | ⟨g, cap', cur, h1, _⟩
                            · omega
                            · injection h1 with h1
                              exact ⟨g, h1⟩
                          subst hgr
                          have cX := hrow.cellAt t (by omega)
                          rw [show (rowsV (Ls q))[t]? = some (.slice (some ⟨x.1, 0, none⟩) 64 64) from by simp [rowsV, hx]] at cX
                          have hsm := same_any n6 64 hB6 hx1.bytes hfl hx3 (fun e => by cases e) (fun e => by cases e)
                          have hnx : ((Ls q).take (t + 1)).any (fun x => strN f 64 == strN x.2 64) = (((Ls q).take t).any (fun x => strN f 64 == strN x.2 64) || (strN f 64 == strN x.2 64)) := by
                            rw [List.take_add_one, hx, List.any_append]
                            simp
                          obtain ⟨y, hy⟩ : ∃ y, y = (strN f 64 == strN x.2 64) := ⟨_, rfl⟩
                          obtain ⟨bb, hbb⟩ : ∃ bb, bb = (b0 || ((Ls q).take t).any fun x => strN f 64 == strN x.2 64) := ⟨_, rfl⟩
                          have HY : Hid ((b0 || ((Ls q).take (t + 1)).any fun x => strN f 64 == strN x.2 64) = (bb || y)) := by
                            show _ = _
                            rw [hnx, hbb, hy, Bool.or_assoc]
                          rw [← hy] at hsm
                          rw [← hbb]
                          clear hnx hy hbb hx
                          cases bb <;> cases y <;> (
                            go_wp2_with (first
                              | ((go_at_call 22)
                                 (refine hsm.mono ?_)
                                 (rintro e w8 ⟨rfl, hw8⟩)
                                 (subst hw8)
                                 (clear hsm)))
                            go_roundw
                            case rel => exact ⟨t + 1, htn, by go_num, (by rw [HY.out]; rfl), hW6, hM6, hI6, hB6⟩
                            case measure => simp [intOf]; omega)
                        · obtain rfl : t = n := by omega
                          have k0 : ¬ (t : Int) < (t : Int) := by omega
                          have hall : (b0 || ((Ls q).take t).any fun x => strN f 64 == strN x.2 64) = true := by
                            rw [HN.out, List.take_length]
                            rcases horq with h1 | ⟨d, hd1, hd2, hd3, hd4⟩
                            · rw [HB0.out, h1]
                              simp
                            · obtain ⟨_, x, hx, hxe⟩ := hmine d hd1 hd2
                              rw [hd3] at hx
                              rw [Bool.or_eq_true]
                              refine .inr (List.any_eq_true.2 ⟨x, hx, ?_⟩)
                              rw [hd4, hxe]
                              simp
                          rw [hall]
                          go_wp2
                          go_roundw
                          case rel => exact ⟨q + 1, by omega, by go_num, hW6, hM6, hI6⟩
                          case measure => simp [intOf]; omega
                    · obtain rfl : q = 8 := by omega
                      have j0 : ¬ ((8 : Nat) : Int) < 8 := by omega
                      go_wp2
                      exact bodyPost_ret (results_tmp rfl _ _ _) rfl ⟨rfl, hIq.below⟩
end Go.Proofs.Ytalcalecmklcoaa
