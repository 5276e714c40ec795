/- cache: Read. -/
import Derived.Test.YtancebpjfbbcaaaCcLst
import Derived.Test.YtancebpjfbbcaaaCcWrite
namespace Go.Proofs.Ytancebpjfbbcaaa
open Go.ChangeShapes Go.WideShapes Go.ChangeAt Go.RowKit Go.MapKept
set_option linter.unusedVariables false

variable {D : DevRep} {B : Nat} {w0 w w' : World} {P : Nat → Nat} {S : Nat → DS} {C M : Nat → Nat} {F : Nat → Nat → Prop} {cb : Nat} {dv kv : Value} {o : GV} {ks : List GV} {GO GK : Nat → Prop}

/-- What Read answers, q what the groups have of the sector. -/
def crErr (S : Nat → DS) (q : Option (Nat → Nat)) (d s : Int) : Int := if inC d s = false then 1 else if (S d.toNat).dead then 142 else if q.isSome then 0 else if rdErr (S d.toNat) s = 0 then 0 else 141

def crData (S : Nat → DS) (q : Option (Nat → Nat)) (d s : Int) : Nat → Nat := q.getD (holds (S d.toNat) s.toNat)

theorem NewSec.mono {w1 w' : World} {v : Value} {f : Nat → Nat} (h : NewSec w1 w' v f) (hs : w.heap.size ≤ w1.heap.size) : NewSec w w' v f := by
  obtain ⟨g, o, c, t, cur, h1, h2, h3, h4, h5⟩ := h
  exact ⟨g, o, c, t, cur, h1, h2, Nat.le_trans hs h3, h4, h5⟩

theorem newSec_own {w' : World} {v : Value} {b : Nat} {f : Nat → Nat} (h : w'.ownsRow b 5 1 v 64 (bl f 64)) (hs : w.heap.size ≤ b) : NewSec w w' v f := by
  rcases h.2 with ⟨_, h0⟩ | ⟨g, cap, cur, rfl, h1, hg, hn, _, hc, ht⟩
  · cases h0
  · refine ⟨g, 0, cap, 5, cur, rfl, hn, Nat.le_trans hs h1, hg, fun j hj => ?_⟩
    have h2 : (cur.toList.take (64 * 1))[j]? = some (.int .u8 (f j : Nat)) := by
      rw [ht]
      unfold bl
      rw [List.getElem?_map, List.getElem?_range hj]
      rfl
    rw [List.getElem?_take, if_pos (by omega)] at h2
    rw [Nat.zero_add]
    simpa using h2

theorem lastG_at (h : CAt w cb P dv o kv ks GO GK) {d s : Nat} {r : Rw} (hq : lastG o ks d s = some r) : ∃ G, DataAt w G r.2 r.1.f := by
  unfold lastG at hq
  cases h1 : look o.rows d s with
  | some r1 =>
    rw [h1] at hq
    cases hq
    exact ⟨_, h.opn.dat _ (List.mem_of_find?_eq_some h1)⟩
  | none =>
    rw [h1] at hq
    obtain ⟨g, hg, h2⟩ := List.exists_of_findSome?_eq_some (show (ks.reverse.findSome? fun g => look g.rows d s) = some r from hq)
    exact ⟨_, (h.kgs g (List.mem_reverse.1 hg)).dat _ (List.mem_of_find?_eq_some h2)⟩

set_option maxRecDepth 100000 in
set_option maxHeartbeats 2000000 in
theorem ccread_c (hD : DevOk D) (hZ : DevSz D) (h : CI D B w0 w cb P S C M F dv o kv ks GO GK) (d s : Int) (hs64 : i64ok s) (hlen : ks.length ≤ 1000) :
    Calls Try.prog 12 #[ptr cb, .int .i64 d, .int .i64 s] w fun e w' => Below w.heap.size w w' ∧ ∃ v, e = .returned (.tuple #[v, .int .i64 (crErr S ((lastG o ks d.toNat s.toNat).map (·.1.f)) d s)]) ∧
      ((crErr S ((lastG o ks d.toNat s.toNat).map (·.1.f)) d s ≠ 0 ∧ NoSec v) ∨ (crErr S ((lastG o ks d.toNat s.toNat).map (·.1.f)) d s = 0 ∧ NewSec w w' v (crData S ((lastG o ks d.toNat s.toNat).map (·.1.f)) d s))) := by
  have hh := has_cC hZ h d s
  cases hi : inC d s with
  | false =>
    have he : crErr S ((lastG o ks d.toNat s.toNat).map (·.1.f)) d s = 1 := if_pos hi
    rw [hi] at hh
    have HE := hidC he
    clear h hi he
    rw [HE.out]
    go_enter Try.func12, Try.ntmps12
    go_wp2_with (first
      | ((go_at_call 43)
         (refine hh.mono ?_)
         (rintro e w1 ⟨rfl, hb1⟩)
         (clear hh)))
    go_ret2
    exact ⟨hb1, _, rfl, .inl ⟨by decide, _, _, rfl⟩⟩
  | true =>
    rw [hi] at hh
    have hi' := of_decide_eq_true hi
    obtain ⟨d, rfl⟩ : ∃ q : Nat, d = (q : Int) := ⟨d.toNat, by omega⟩
    obtain ⟨s, rfl⟩ : ∃ q : Nat, s = (q : Int) := ⟨s.toNat, by omega⟩
    have hd : d < 3 := by omega
    have hs : s < 6 := by omega
    simp only [Int.toNat_natCast]
    have HDE := hidC (fun w1 (hb1 : Below w.heap.size w w1) => hD.isDead w1 (P d) (S d) (C d) (M d) (F d) ((h.next hD hb1).fam.dev d hd).dev)
    obtain ⟨g, c, hdv, _, hgl, hc⟩ := h.c.devs
    have hcd := hc d hd
    have c0 := h.c.str.cell 0
    simp only [List.getElem?_toArray, List.getElem?_cons_zero] at c0
    rw [hdv] at c0
    have hcb := h.c.lt cb (.inr h.c.gcb)
    have i2 : (d : Int) < 3 := by omega
    have i3 : (0 : Int) ≤ (d : Int) := by omega
    cases hdead : (S d).dead with
    | true =>
      have he : crErr S ((lastG o ks d s).map (·.1.f)) d s = 142 := by unfold crErr; rw [if_neg (by rw [hi]; simp), if_pos (by simpa using hdead)]
      rw [hdead] at HDE
      have HE := hidC he
      clear h hi he hc hdv hi'
      rw [HE.out]
      go_enter Try.func12, Try.ntmps12
      go_wp2_with (first
        | ((go_at_call 43)
           (refine hh.mono ?_)
           (rintro e w1 ⟨rfl, hb1⟩)
           (have c1 := (hb1.cell (p := ⟨cb, 0, none⟩) hcb).trans c0)
           (have cd1 := (hb1.cell (p := ⟨g, d, none⟩) hgl).trans hcd)
           (clear hh c0 hcd))
        | ((go_at_call 44)
           (refine (HDE.out w1 hb1).mono ?_)
           (rintro e w2 ⟨rfl, hb2⟩)
           (have hb12 : Below w.heap.size w w2 := hb1.trans (hb2.mono hb1.size))
           (have c2 := (hb2.cell (p := ⟨cb, 0, none⟩) (Nat.lt_of_lt_of_le hcb hb1.size)).trans c1)
           (have cd2 := (hb2.cell (p := ⟨g, d, none⟩) (Nat.lt_of_lt_of_le hgl hb1.size)).trans cd1)
           (clear c1 cd1)))
      go_ret2
      exact ⟨hb12, _, rfl, .inl ⟨by decide, _, _, rfl⟩⟩
    | false =>
      rw [hdead] at HDE
      have HPL := hidC (fun w1 (hb1 : Below w.heap.size w w1) => placeOf_c hD hZ (h.next hD hb1) (s := s) hd)
      have HLA := hidC (fun w1 (hb1 : Below w.heap.size w w1) => last_c (h.next hD hb1).c d s hlen)
      have HRD := hidC (fun w1 (hb1 : Below w.heap.size w w1) => hD.read w1 (P d) (S d) (C d) (M d) (F d) s ((h.next hD hb1).fam.dev d hd).dev hs64)
      have HDEAD := hidC hdead
      have HI := hidC hi
      cases hq : lastG o ks d s with
      | some r =>
        rw [hq] at HLA
        obtain ⟨G8, hd8⟩ : ∃ G, DataAt w G r.2 r.1.f := lastG_at h.c hq
        obtain ⟨gb, gc, hrv, hge, hby, hgb⟩ := hd8.sl
        have HCL := hidC (fun w1 (hb1 : Below w.heap.size w w1) => clone_anyC (C := gc) (hby.below hb1 (Nat.le_refl _)) (fun e => by cases e) (by omega))
        have HLA := hidC (show ∀ w1, Below w.heap.size w w1 → Calls Try.prog 50 #[ptr cb, plv d s] w1 fun e w' => e = .returned (.tuple #[.agg #[.int .i64 (r.1.d : Nat), .int .i64 (r.1.s : Nat), r.2], .bool true]) ∧ Below w1.heap.size w1 w' from HLA.out)
        rw [hrv] at HLA
        have he : crErr S ((some r).map (·.1.f)) d s = 0 := by unfold crErr; rw [if_neg (by rw [hi]; simp), if_neg (by simpa using hdead)]; rfl
        have HE := hidC he
        have hda : crData S ((some r).map (·.1.f)) d s = r.1.f := rfl
        rw [he, hda]
        generalize r.1.d = rd at *
        generalize r.1.s = rs at *
        generalize r.1.f = rf at *
        clear h hi hc hdv hi' hdead hq hd8 hrv hby he hda
        go_enter Try.func12, Try.ntmps12
        go_wp2_with (first
          | ((go_at_call 43)
             (refine hh.mono ?_)
             (rintro e w1 ⟨rfl, hb1⟩)
             (have c1 := (hb1.cell (p := ⟨cb, 0, none⟩) hcb).trans c0)
             (have cd1 := (hb1.cell (p := ⟨g, d, none⟩) hgl).trans hcd)
             (clear hh c0 hcd))
          | ((go_at_call 44)
             (refine (HDE.out w1 hb1).mono ?_)
             (rintro e w2 ⟨rfl, hb2⟩)
             (have hb12 : Below w.heap.size w w2 := hb1.trans (hb2.mono hb1.size))
             (have c2 := (hb2.cell (p := ⟨cb, 0, none⟩) (Nat.lt_of_lt_of_le hcb hb1.size)).trans c1)
             (have cd2 := (hb2.cell (p := ⟨g, d, none⟩) (Nat.lt_of_lt_of_le hgl hb1.size)).trans cd1)
             (clear c1 cd1))
          | ((go_at_call 46)
             (refine (HPL.out w2 hb12).mono ?_)
             (rintro e w3 ⟨rfl, hb3⟩)
             (have hb13 : Below w.heap.size w w3 := hb12.trans (hb3.mono hb12.size))
             (have c3 := (hb3.cell (p := ⟨cb, 0, none⟩) (Nat.lt_of_lt_of_le hcb hb12.size)).trans c2)
             (have cd3 := (hb3.cell (p := ⟨g, d, none⟩) (Nat.lt_of_lt_of_le hgl hb12.size)).trans cd2)
             (clear c2 cd2))
          | ((go_at_call 50)
             (refine (HLA.out w3 hb13).mono ?_)
             (rintro e w4 ⟨rfl, hb4⟩)
             (have hb14 : Below w.heap.size w w4 := hb13.trans (hb4.mono hb13.size))
             (have c4 := (hb4.cell (p := ⟨cb, 0, none⟩) (Nat.lt_of_lt_of_le hcb hb13.size)).trans c3)
             (have cd4 := (hb4.cell (p := ⟨g, d, none⟩) (Nat.lt_of_lt_of_le hgl hb13.size)).trans cd3)
             (have lg4 := Nat.lt_of_lt_of_le hgl hb14.size)
             (have lc4 := Nat.lt_of_lt_of_le hcb hb14.size)
             (have ha4 : ∀ ob, Below w.heap.size w (w4.alloc ob) := fun ob => hb14.trans (((Below.refl w4.heap.size w4).alloc (Nat.le_refl _) ob).mono hb14.size))
             (clear c3 cd3))
          | ((go_at_call 47)
             (refine (HCL.out _ (ha4 _)).mono ?_)
             (rintro e w5 ⟨hb5, v, rfl, ho5⟩)
             (have hb15 : Below w.heap.size w w5 := (ha4 _).trans (hb5.mono (ha4 _).size))
             (have hle5 := fun ob => (ha4 ob).size)))
        go_ret2
        exact ⟨hb15, _, rfl, .inr ⟨by first | rfl | trivial, newSec_own ho5 (hle5 _)⟩⟩
      | none =>
        rw [hq] at HLA
        have HLA := hidC (show ∀ w1, Below w.heap.size w w1 → Calls Try.prog 50 #[ptr cb, plv d s] w1 fun e w' => e = .returned (.tuple #[.agg #[.int .i64 0, .int .i64 0, .slice none 0 0], .bool false]) ∧ Below w1.heap.size w1 w' from HLA.out)
        have he : crErr S (none.map (fun x : Rw => x.1.f)) d s = if rdErr (S d) s = 0 then 0 else 141 := by unfold crErr; rw [if_neg (by rw [hi]; simp), if_neg (by simpa using hdead)]; rfl
        have hda : crData S (none.map (fun x : Rw => x.1.f)) d s = holds (S d) s := rfl
        rw [he, hda]
        clear h hi hc hdv hi' hdead hq he hda
        by_cases hr : rdErr (S d) s = 0
        · rw [if_pos hr]
          have HR := hidC hr
          rw [hr] at HRD
          clear hr
          go_enter Try.func12, Try.ntmps12
          go_wp2_with (first
            | ((go_at_call 43)
               (refine hh.mono ?_)
               (rintro e w1 ⟨rfl, hb1⟩)
               (have c1 := (hb1.cell (p := ⟨cb, 0, none⟩) hcb).trans c0)
               (have cd1 := (hb1.cell (p := ⟨g, d, none⟩) hgl).trans hcd)
               (clear hh c0 hcd))
            | ((go_at_call 44)
               (refine (HDE.out w1 hb1).mono ?_)
               (rintro e w2 ⟨rfl, hb2⟩)
               (have hb12 : Below w.heap.size w w2 := hb1.trans (hb2.mono hb1.size))
               (have c2 := (hb2.cell (p := ⟨cb, 0, none⟩) (Nat.lt_of_lt_of_le hcb hb1.size)).trans c1)
               (have cd2 := (hb2.cell (p := ⟨g, d, none⟩) (Nat.lt_of_lt_of_le hgl hb1.size)).trans cd1)
               (clear c1 cd1))
            | ((go_at_call 46)
               (refine (HPL.out w2 hb12).mono ?_)
               (rintro e w3 ⟨rfl, hb3⟩)
               (have hb13 : Below w.heap.size w w3 := hb12.trans (hb3.mono hb12.size))
               (have c3 := (hb3.cell (p := ⟨cb, 0, none⟩) (Nat.lt_of_lt_of_le hcb hb12.size)).trans c2)
               (have cd3 := (hb3.cell (p := ⟨g, d, none⟩) (Nat.lt_of_lt_of_le hgl hb12.size)).trans cd2)
               (clear c2 cd2))
            | ((go_at_call 50)
               (refine (HLA.out w3 hb13).mono ?_)
               (rintro e w4 ⟨rfl, hb4⟩)
               (have hb14 : Below w.heap.size w w4 := hb13.trans (hb4.mono hb13.size))
               (have c4 := (hb4.cell (p := ⟨cb, 0, none⟩) (Nat.lt_of_lt_of_le hcb hb13.size)).trans c3)
               (have cd4 := (hb4.cell (p := ⟨g, d, none⟩) (Nat.lt_of_lt_of_le hgl hb13.size)).trans cd3)
               (have lg4 := Nat.lt_of_lt_of_le hgl hb14.size)
               (have lc4 := Nat.lt_of_lt_of_le hcb hb14.size)
               (have ha4 : ∀ ob, Below w.heap.size w (w4.alloc ob) := fun ob => hb14.trans (((Below.refl w4.heap.size w4).alloc (Nat.le_refl _) ob).mono hb14.size))
               (clear c3 cd3))
            | ((go_at_call 34)
               (refine (HRD.out _ (ha4 _)).mono ?_)
               (rintro e w5 ⟨hb5, v, rfl, ho5⟩)
               (have hb15 : Below w.heap.size w w5 := (ha4 _).trans (hb5.mono (ha4 _).size))
               (have hle5 := fun ob => (ha4 ob).size)
               (have HO5 := hidC ho5)
               (clear ho5)))
          go_ret2
          exact ⟨hb15, _, rfl, .inr ⟨by first | rfl | trivial, (HO5.out.resolve_left (fun h => h.1 rfl)).2.mono (hle5 _)⟩⟩
        · rw [if_neg hr]
          have hrz : ¬ (rdErr (S d) s : Int) = 0 := hr
          have HR := hidC hr
          go_enter Try.func12, Try.ntmps12
          go_wp2_with (first
            | ((go_at_call 43)
               (refine hh.mono ?_)
               (rintro e w1 ⟨rfl, hb1⟩)
               (have c1 := (hb1.cell (p := ⟨cb, 0, none⟩) hcb).trans c0)
               (have cd1 := (hb1.cell (p := ⟨g, d, none⟩) hgl).trans hcd)
               (clear hh c0 hcd))
            | ((go_at_call 44)
               (refine (HDE.out w1 hb1).mono ?_)
               (rintro e w2 ⟨rfl, hb2⟩)
               (have hb12 : Below w.heap.size w w2 := hb1.trans (hb2.mono hb1.size))
               (have c2 := (hb2.cell (p := ⟨cb, 0, none⟩) (Nat.lt_of_lt_of_le hcb hb1.size)).trans c1)
               (have cd2 := (hb2.cell (p := ⟨g, d, none⟩) (Nat.lt_of_lt_of_le hgl hb1.size)).trans cd1)
               (clear c1 cd1))
            | ((go_at_call 46)
               (refine (HPL.out w2 hb12).mono ?_)
               (rintro e w3 ⟨rfl, hb3⟩)
               (have hb13 : Below w.heap.size w w3 := hb12.trans (hb3.mono hb12.size))
               (have c3 := (hb3.cell (p := ⟨cb, 0, none⟩) (Nat.lt_of_lt_of_le hcb hb12.size)).trans c2)
               (have cd3 := (hb3.cell (p := ⟨g, d, none⟩) (Nat.lt_of_lt_of_le hgl hb12.size)).trans cd2)
               (clear c2 cd2))
            | ((go_at_call 50)
               (refine (HLA.out w3 hb13).mono ?_)
               (rintro e w4 ⟨rfl, hb4⟩)
               (have hb14 : Below w.heap.size w w4 := hb13.trans (hb4.mono hb13.size))
               (have c4 := (hb4.cell (p := ⟨cb, 0, none⟩) (Nat.lt_of_lt_of_le hcb hb13.size)).trans c3)
               (have cd4 := (hb4.cell (p := ⟨g, d, none⟩) (Nat.lt_of_lt_of_le hgl hb13.size)).trans cd3)
               (have lg4 := Nat.lt_of_lt_of_le hgl hb14.size)
               (have lc4 := Nat.lt_of_lt_of_le hcb hb14.size)
               (have ha4 : ∀ ob, Below w.heap.size w (w4.alloc ob) := fun ob => hb14.trans (((Below.refl w4.heap.size w4).alloc (Nat.le_refl _) ob).mono hb14.size))
               (clear c3 cd3))
            | ((go_at_call 34)
               (refine (HRD.out _ (ha4 _)).mono ?_)
               (rintro e w5 ⟨hb5, v, rfl, ho5⟩)
               (have hb15 : Below w.heap.size w w5 := (ha4 _).trans (hb5.mono (ha4 _).size))
               (have hle5 := fun ob => (ha4 ob).size)
               (have HO5 := hidC ho5)
               (clear ho5)))
          go_ret2
          exact ⟨hb15, _, rfl, .inl ⟨by decide, _, _, rfl⟩⟩
end Go.Proofs.Ytancebpjfbbcaaa
