/- cache: what lies on the devices behind Apply. -/
import Derived.Test.YtancebpjfbbcaaaCcState
namespace Go.Proofs.Ytancebpjfbbcaaa
open Go.ChangeShapes Go.WideShapes Go.ChangeAt Go.RowKit Go.MapKept
set_option linter.unusedVariables false

/-- What was written last of a sector. -/
def lastW (l : List Wr) (d s : Nat) : Option (Nat → Nat) := match l with
  | [] => none
  | r :: l => (lastW l d s).or (if hit d s r then some r.f else none)

/-- What the groups have of a sector: the last one of them that has it. -/
def lookL (L : List (List Wr)) (d s : Nat) : Option (Nat → Nat) := match L with
  | [] => none
  | g :: L => (lookL L d s).or (lookE g d s)

def UniE (l : List Wr) : Prop := l.Pairwise (fun a b => ¬ (a.d = b.d ∧ a.s = b.s))

theorem lookE_cons (r : Wr) (l : List Wr) (d s : Nat) : lookE (r :: l) d s = if hit d s r = true then some r.f else lookE l d s := by
  unfold lookE
  rw [List.find?_cons]
  cases hit d s r <;> rfl

theorem lookE_some {l : List Wr} {d s : Nat} {f : Nat → Nat} (h : lookE l d s = some f) : ∃ r ∈ l, r.d = d ∧ r.s = s := by
  unfold lookE at h
  cases hf : l.find? (hit d s) with
  | none => rw [hf] at h; cases h
  | some r =>
    obtain ⟨e1, e2⟩ := hit_iff.1 (List.find?_some hf)
    exact ⟨r, List.mem_of_find?_eq_some hf, e1.symm, e2.symm⟩

theorem lookE_last {l : List Wr} (hu : UniE l) (d s : Nat) : lookE l d s = lastW l d s := by
  induction l with
  | nil => rfl
  | cons r l ih =>
    obtain ⟨h1, h2⟩ := List.pairwise_cons.1 hu
    rw [lookE_cons]
    show _ = (lastW l d s).or _
    rw [← ih h2]
    by_cases h : hit d s r = true
    · rw [if_pos h, if_pos h]
      obtain ⟨e1, e2⟩ := hit_iff.1 h
      cases hl : lookE l d s with
      | none => rfl
      | some f =>
        obtain ⟨q, hq, q1, q2⟩ := lookE_some hl
        exact absurd ⟨by rw [← e1, q1], by rw [← e2, q2]⟩ (h1 q hq)
    · rw [if_neg h, if_neg h, Option.or_none]

theorem lastW_app (a b : List Wr) (d s : Nat) : lastW (a ++ b) d s = (lastW b d s).or (lastW a d s) := by
  induction a with
  | nil => exact (Option.or_none).symm
  | cons r a ih =>
    show (lastW (a ++ b) d s).or _ = (lastW b d s).or ((lastW a d s).or _)
    rw [ih, Option.or_assoc]

theorem lastW_flat {L : List (List Wr)} (hu : ∀ g ∈ L, UniE g) (d s : Nat) : lastW L.flatten d s = lookL L d s := by
  induction L with
  | nil => rfl
  | cons g L ih =>
    rw [List.flatten_cons, lastW_app, ih (fun g hg => hu g (List.mem_cons_of_mem _ hg)), ← lookE_last (hu g (List.mem_cons_self ..))]
    rfl

theorem lookL_snoc (L : List (List Wr)) (g : List Wr) (d s : Nat) : lookL (L ++ [g]) d s = (lookE g d s).or (lookL L d s) := by
  induction L with
  | nil =>
    show (none : Option (Nat → Nat)).or (lookE g d s) = (lookE g d s).or none
    rw [Option.or_none, Option.none_or]
  | cons a L ih =>
    show (lookL (L ++ [g]) d s).or _ = (lookE g d s).or ((lookL L d s).or _)
    rw [ih, Option.or_assoc]

theorem lookE_put (l : List Wr) (d s : Nat) (f : Nat → Nat) (d' s' : Nat) : lookE (putE l d s f) d' s' = if d' = d ∧ s' = s then some f else lookE l d' s' := by
  have h := look_put (l.map fun x => (x, (Value.nilFunc))) d s f .nilFunc d' s'
  have e : (l.map fun x => (x, (Value.nilFunc : Value))).map (·.1) = l := by rw [List.map_map]; exact List.map_id _
  have h1 := look_map (putW (l.map fun x => (x, (Value.nilFunc))) d s f .nilFunc) d' s'
  rw [putE_map, e, h] at h1
  have h2 := look_map (l.map fun x => (x, (Value.nilFunc : Value))) d' s'
  rw [e] at h2
  rw [h1, h2]
  split <;> rfl

/-- A device that is well. -/
def Wl6 (s : DS) : Prop := s.dead = false ∧ s.n = 6 ∧ s.bad = fun _ => false

theorem wl_fresh : Wl6 (fresh 6) := ⟨rfl, rfl, rfl⟩
theorem wr0 {s : DS} (h : Wl6 s) {i : Nat} (hi : i < 6) : wrErr s (i : Nat) 64 = 0 := by
  unfold wrErr
  rw [if_neg (by rw [h.1]; simp), if_neg (by rw [h.2.1]; omega), if_neg (by decide)]

theorem wl_wr {s : DS} (h : Wl6 s) {i : Nat} (hi : i < 6) (b : Nat → Nat) (m : Nat) : Wl6 (wrS s (i : Nat) b 64 m) := by
  unfold wrS
  rw [if_pos (wr0 h hi)]
  refine ⟨h.1, h.2.1, ?_⟩
  funext k
  show (if k = _ then false else s.bad k) = false
  split
  · rfl
  · rw [h.2.2]

theorem holds_wr {s : DS} (h : Wl6 s) {i : Nat} (hi : i < 6) (b : Nat → Nat) (m k j : Nat) (hj : j < 64) : holds (wrS s (i : Nat) b 64 m) k j = if k = i then b j else holds s k j := by
  unfold wrS
  rw [if_pos (wr0 h hi)]
  show ((s.log ++ [_]).foldl upF s.fst) k j = _
  rw [List.foldl_append]
  show upF (holds s) _ k j = _
  unfold upF
  simp only [Int.toNat_natCast, true_and]
  by_cases e : k = i
  · rw [if_pos e, if_pos e]
    unfold full
    rw [if_pos hj]
  · rw [if_neg e, if_neg e]

theorem wl_sy {s : DS} (h : Wl6 s) (m : Nat) : Wl6 (syS s m) := by
  unfold syS
  split
  · exact h
  · exact ⟨h.1, h.2.1, h.2.2⟩

theorem holds_sy (s : DS) (m : Nat) : holds (syS s m) = holds s := by
  unfold syS
  split
  · rfl
  · show (s.log ++ [_]).foldl upF s.fst = _
    rw [List.foldl_append, List.foldl_cons, List.foldl_nil, upF_sync _ _ rfl]
    rfl

theorem apl_wl (l : List Wr) (x : (Nat → DS) × (Nat → Nat)) (hx : ∀ i, Wl6 (x.1 i)) (hl : ∀ r ∈ l, r.s < 6) : ∀ i, Wl6 ((l.foldl apS x).1 i) := by
  induction l generalizing x with
  | nil => exact hx
  | cons r l ih =>
    rw [List.foldl_cons]
    refine ih _ (fun i => ?_) (fun q hq => hl q (List.mem_cons_of_mem _ hq))
    show Wl6 (upN x.1 r.d _ i)
    by_cases e : i = r.d
    · rw [e, upN_same]
      exact wl_wr (hx _) (hl r (List.mem_cons_self ..)) _ _
    · rw [upN_ne _ _ e]
      exact hx i

theorem apl_holds (l : List Wr) (x : (Nat → DS) × (Nat → Nat)) (hx : ∀ i, Wl6 (x.1 i)) (hl : ∀ r ∈ l, r.s < 6) (d s j : Nat) (hj : j < 64) : holds ((l.foldl apS x).1 d) s j = ((lastW l d s).getD (holds (x.1 d) s)) j := by
  induction l generalizing x with
  | nil => rfl
  | cons r l ih =>
    have hr := hl r (List.mem_cons_self ..)
    have hw : ∀ i, Wl6 ((apS x r).1 i) := apl_wl [r] x hx (fun q hq => by rw [List.mem_singleton] at hq; rw [hq]; exact hr)
    rw [List.foldl_cons, ih _ hw (fun q hq => hl q (List.mem_cons_of_mem _ hq))]
    show _ = (((lastW l d s).or (if hit d s r then some r.f else none)).getD _) j
    cases hq : lastW l d s with
    | some f => rfl
    | none =>
      show holds (upN x.1 r.d _ d) s j = ((if hit d s r = true then some r.f else none).getD _) j
      by_cases e : d = r.d
      · rw [← e, upN_same, holds_wr (hx d) hr _ _ _ _ hj]
        by_cases e2 : s = r.s
        · rw [if_pos e2, if_pos (hit_iff.2 ⟨e, e2⟩)]
          rfl
        · rw [if_neg e2, if_neg (fun h => e2 (hit_iff.1 h).2)]
          rfl
      · rw [upN_ne _ _ e, if_neg (fun h => e (hit_iff.1 h).1)]
        rfl

/-- Behind Apply: what was kept last, or what was there. -/
theorem apD_wl {S : Nat → DS} {M : Nat → Nat} {L : List (List Wr)} (hx : ∀ i, Wl6 (S i)) (hl : ∀ r ∈ L.flatten, r.s < 6) (i : Nat) : Wl6 (apD S M L i) := by
  have h := apl_wl L.flatten (S, M) hx hl i
  unfold apD syN
  split
  · exact wl_sy h _
  · exact h

theorem apD_holds {S : Nat → DS} {M : Nat → Nat} {L : List (List Wr)} (hx : ∀ i, Wl6 (S i)) (hl : ∀ r ∈ L.flatten, r.s < 6) (hu : ∀ g ∈ L, UniE g) (d s j : Nat) (hj : j < 64) : holds (apD S M L d) s j = ((lookL L d s).getD (holds (S d) s)) j := by
  have h := apl_holds L.flatten (S, M) hx hl d s j hj
  rw [lastW_flat hu] at h
  rw [← h]
  unfold apD syN
  split
  · rw [holds_sy]
  · rfl

variable {D : DevRep} {B : Nat} {w0 w w' : World} {cb : Nat} {P : Nat → Nat} {S : Nat → DS} {M : Nat → Nat} {l : List Wr} {L : List (List Wr)} {H : Nat → Prop}

theorem uni_map {l : List Rw} (h : Uni l) : UniE (l.map (·.1)) := List.pairwise_map.2 h

theorem CS.uni (h : CS D B w0 w cb P S M l L H) : ∀ g ∈ l :: L, UniE g := by
  obtain ⟨C, F, dv, o, kv, ks, GO, GK, h1, rfl, rfl, _⟩ := h
  intro g hg
  rcases List.mem_cons.1 hg with rfl | hg
  · exact uni_map h1.c.opn.uni
  · obtain ⟨q, hq, rfl⟩ := List.mem_map.1 hg
    exact uni_map (h1.c.kgs q hq).uni

theorem CS.ok (h : CS D B w0 w cb P S M l L H) : ∀ g ∈ l :: L, ∀ r ∈ g, r.d < 3 ∧ r.s < 6 := by
  obtain ⟨C, F, dv, o, kv, ks, GO, GK, h1, rfl, rfl, _⟩ := h
  intro g hg r hr
  rcases List.mem_cons.1 hg with rfl | hg
  · obtain ⟨q, hq, rfl⟩ := List.mem_map.1 hr
    exact h1.c.ok o (List.mem_cons_self ..) q hq
  · obtain ⟨k, hk, rfl⟩ := List.mem_map.1 hg
    obtain ⟨q, hq, rfl⟩ := List.mem_map.1 hr
    exact h1.c.ok k (List.mem_cons_of_mem _ hk) q hq

theorem CS.flat (h : CS D B w0 w cb P S M l L H) : ∀ r ∈ L.flatten, r.s < 6 := by
  intro r hr
  obtain ⟨g, hg, hr'⟩ := List.mem_flatten.1 hr
  exact (h.ok g (List.mem_cons_of_mem _ hg) r hr').2
end Go.Proofs.Ytancebpjfbbcaaa
