/- cache: a cache and its devices, as the laws call them. -/
import Derived.Test.YtancebpjfbbcaaaCcMade
namespace Go.Proofs.Ytancebpjfbbcaaa
open Go.ChangeShapes Go.WideShapes Go.ChangeAt Go.RowKit Go.MapKept
set_option linter.unusedVariables false

/-- A sector is written, values apart. -/
def putE (l : List Wr) (d s : Nat) (f : Nat → Nat) : List Wr := match l.findIdx? (hit d s) with
  | some i => l.set i ⟨d, s, f⟩
  | none => l ++ [⟨d, s, f⟩]
def lookE (l : List Wr) (d s : Nat) : Option (Nat → Nat) := (l.find? (hit d s)).map (·.f)

theorem fnd_map (l : List Rw) (d s : Nat) : (l.map (·.1)).findIdx? (hit d s) = fnd l d s := by
  unfold fnd
  rw [List.findIdx?_map]
  rfl

theorem putE_map (l : List Rw) (d s : Nat) (f : Nat → Nat) (v : Value) : (putW l d s f v).map (·.1) = putE (l.map (·.1)) d s f := by
  unfold putW putE
  rw [fnd_map]
  cases fnd l d s with
  | some i => exact List.map_set
  | none => exact List.map_append

theorem look_map (l : List Rw) (d s : Nat) : lookE (l.map (·.1)) d s = (look l d s).map (·.1.f) := by
  unfold lookE look
  rw [List.find?_map]
  cases h : List.find? (hit d s ∘ fun x => x.1) l with
  | none =>
    have h' : List.find? (fun r : Rw => hit d s r.1) l = none := h
    rw [h']
    rfl
  | some r =>
    have h' : List.find? (fun r : Rw => hit d s r.1) l = some r := h
    rw [h']
    rfl

theorem putE_len (l : List Wr) (d s : Nat) (f : Nat → Nat) : (putE l d s f).length ≤ l.length + 1 := by
  unfold putE
  split <;> simp

theorem putE_ne (l : List Wr) (d s : Nat) (f : Nat → Nat) : putE l d s f ≠ [] := by
  unfold putE
  split
  · rename_i i hi
    intro e
    have e' := congrArg List.length e
    simp at e'
    rw [e'] at hi
    cases hi
  · simp

/-- A cache over three devices: their states S, their moments M, the open group l, those kept L; all in the blocks H. -/
def CS (D : DevRep) (B : Nat) (w0 w : World) (cb : Nat) (P : Nat → Nat) (S : Nat → DS) (M : Nat → Nat) (l : List Wr) (L : List (List Wr)) (H : Nat → Prop) : Prop :=
  ∃ C F dv o kv ks GO GK, CI D B w0 w cb P S C M F dv o kv ks GO GK ∧ o.rows.map (·.1) = l ∧ ks.map (fun g => g.rows.map (·.1)) = L ∧ ∀ k, H k ↔ (GO k ∨ GK k) ∨ FamB C F k

variable {D : DevRep} {B : Nat} {w0 w w' : World} {cb : Nat} {P : Nat → Nat} {S : Nat → DS} {M : Nat → Nat} {l : List Wr} {L : List (List Wr)} {H : Nat → Prop}

theorem CS.next (hD : DevOk D) (h : CS D B w0 w cb P S M l L H) (hb : Below w.heap.size w w') : CS D B w0 w' cb P S M l L H := by
  obtain ⟨C, F, dv, o, kv, ks, GO, GK, h1, r⟩ := h
  exact ⟨C, F, dv, o, kv, ks, GO, GK, h1.next hD hb, r⟩

theorem CS.lt (hD : DevOk D) (h : CS D B w0 w cb P S M l L H) (k : Nat) (hk : H k) : k < w.heap.size := by
  obtain ⟨C, F, dv, o, kv, ks, GO, GK, h1, _, _, h2⟩ := h
  exact h1.lt hD k ((h2 k).1 hk)

theorem CS.base (h : CS D B w0 w cb P S M l L H) (k : Nat) (hk : H k) : B ≤ k := by
  obtain ⟨C, F, dv, o, kv, ks, GO, GK, h1, _, _, h2⟩ := h
  rcases (h2 k).1 hk with h3 | ⟨i, hi, h3 | rfl⟩
  · exact h1.base k h3
  · exact (h1.fam.dev i hi).base k h3
  · exact (h1.fam.dev i hi).cb

theorem CS.below (h : CS D B w0 w cb P S M l L H) : Below B w0 w := by
  obtain ⟨C, F, dv, o, kv, ks, GO, GK, h1, _⟩ := h
  exact (h1.fam.dev 0 (by decide)).below

theorem CS.n6 (h : CS D B w0 w cb P S M l L H) (i : Nat) (hi : i < 3) : (S i).n = 6 := by
  obtain ⟨C, F, dv, o, kv, ks, GO, GK, h1, _⟩ := h
  exact h1.fam.n i hi

theorem CS.sz (h : CS D B w0 w cb P S M l L H) : B ≤ w.heap.size := by
  obtain ⟨C, F, dv, o, kv, ks, GO, GK, h1, _⟩ := h
  exact (h1.fam.dev 0 (by decide)).sz

/-- What others of the call's own may turn. -/
theorem CS.only (hD : DevOk D) (h : CS D B w0 w cb P S M l L H) {X : Nat → Prop} (ho : Only X w w') (hX : ∀ k, X k → ¬ H k) (hB : ∀ k, X k → B ≤ k) : CS D B w0 w' cb P S M l L H := by
  obtain ⟨C, F, dv, o, kv, ks, GO, GK, h1, h2, h3, h4⟩ := h
  refine ⟨C, F, dv, o, kv, ks, GO, GK, ⟨h1.fam.only hD ho (fun k hk hf => hX k hk ((h4 k).2 (.inr hf))) hB, h1.c.kept ho.size (fun k hk => ho.block k (h1.c.lt k hk) (fun hx => hX k hx ((h4 k).2 (.inl hk)))), h1.sep, h1.base⟩, h2, h3, h4⟩

/-- A step of the cache: what it leaves. -/
def Stp (D : DevRep) (B : Nat) (w0 w : World) (cb : Nat) (P : Nat → Nat) (H : Nat → Prop) (S : Nat → DS) (M : Nat → Nat) (l : List Wr) (L : List (List Wr)) (w' : World) : Prop := Only H w w' ∧ ∃ H', Grew w H H' ∧ CS D B w0 w' cb P S M l L H'

theorem Stp.of_below (hD : DevOk D) (h : CS D B w0 w cb P S M l L H) (hb : Below w.heap.size w w') : Stp D B w0 w cb P H S M l L w' := ⟨Only.of_below hb (Nat.le_refl _), H, fun k hk => .inl hk, h.next hD hb⟩

theorem cs_write (hD : DevOk D) (hZ : DevSz D) (h : CS D B w0 w cb P S M l L H) (d s : Int) {a : Option Addr} {n cap : Nat} {b : Nat → Nat} (hb : Bytes w a n b) (hn : a = none → n = 0 ∧ cap = 0) (hb2 : ∀ j, b j < 256) (hl : l.length ≤ 1000) :
    Calls Try.prog 10 #[ptr cb, .int .i64 d, .int .i64 s, .slice a n cap] w fun e w' => e = .returned (.int .i64 (cwErr S d s n)) ∧ Stp D B w0 w cb P H S M (if cwErr S d s n = 0 then putE l d.toNat s.toNat b else l) L w' := by
  have h0 := h
  obtain ⟨C, F, dv, o, kv, ks, GO, GK, h1, h2, h3, h4⟩ := h
  refine (ccwrite_c hD hZ h1 d s hb hn hb2 (by rw [← h2, List.length_map] at hl; exact hl)).mono ?_
  rintro e w' ⟨rfl, (⟨he, hbl⟩ | ⟨he, o', GO', g1, ⟨v, g2⟩, g3, g4⟩)⟩
  · exact ⟨rfl, by rw [if_neg he]; exact Stp.of_below hD h0 hbl⟩
  · refine ⟨rfl, ?_⟩
    rw [if_pos he]
    refine ⟨g3.mono (fun k hk => (h4 k).2 (.inl hk)), fun k => (GO' k ∨ GK k) ∨ FamB C F k, ?_, C, F, dv, o', kv, ks, GO', GK, g1, by rw [g2, putE_map, h2], h3, fun k => Iff.rfl⟩
    rintro k ((hk | hk) | hk)
    · exact (g4 k hk).imp (fun h => (h4 k).2 (.inl (.inl h))) id
    · exact .inl ((h4 k).2 (.inl (.inr hk)))
    · exact .inl ((h4 k).2 (.inr hk))

theorem cs_keep (hD : DevOk D) (h : CS D B w0 w cb P S M l L H) (hl : L.length ≤ 1000) : Calls Try.prog 15 #[ptr cb] w fun e w' => e = .returned (.tuple #[]) ∧ Stp D B w0 w cb P H S M [] (if l = [] then L else L ++ [l]) w' := by
  obtain ⟨C, F, dv, o, kv, ks, GO, GK, h1, h2, h3, h4⟩ := h
  refine (cckeep_c hD h1 (by rw [← h3, List.length_map] at hl; exact hl)).mono ?_
  rintro e w' ⟨rfl, o', kv', ks', GO', GK', g1, ⟨g2, g3⟩, g4, g5⟩
  refine ⟨rfl, g4.mono (fun k hk => (h4 k).2 (.inl hk)), fun k => (GO' k ∨ GK' k) ∨ FamB C F k, ?_, C, F, dv, o', kv', ks', GO', GK', g1, by rw [g2]; rfl, ?_, fun k => Iff.rfl⟩
  · rintro k (hk | hk)
    · exact (g5 k hk).imp (fun h => (h4 k).2 (.inl h)) id
    · exact .inl ((h4 k).2 (.inr hk))
  · rw [g3, ← h2, ← h3]
    by_cases e : o.rows = []
    · rw [if_pos e, if_pos (by rw [e]; rfl)]
    · rw [if_neg e, if_neg (fun e2 => e (List.map_eq_nil_iff.1 e2)), List.map_append]
      rfl

theorem cs_back (hD : DevOk D) (h : CS D B w0 w cb P S M l L H) : Calls Try.prog 17 #[ptr cb] w fun e w' => e = .returned (.tuple #[]) ∧ Stp D B w0 w cb P H S M [] L w' := by
  obtain ⟨C, F, dv, o, kv, ks, GO, GK, h1, h2, h3, h4⟩ := h
  refine (ccback_c hD h1).mono ?_
  rintro e w' ⟨rfl, o', GO', g1, g2, g3, g4⟩
  refine ⟨rfl, g3.mono (fun k hk => (h4 k).2 (.inl hk)), fun k => (GO' k ∨ GK k) ∨ FamB C F k, ?_, C, F, dv, o', kv, ks, GO', GK, g1, by rw [g2]; rfl, h3, fun k => Iff.rfl⟩
  rintro k ((hk | hk) | hk)
  · exact (g4 k hk).imp (fun h => (h4 k).2 (.inl (.inl h))) id
  · exact .inl ((h4 k).2 (.inl (.inr hk)))
  · exact .inl ((h4 k).2 (.inr hk))

theorem wl_flat (ks : List GV) : wl ks = (ks.map (fun g => g.rows.map (·.1))).flatten := by
  unfold wl
  rw [List.flatMap_def]

theorem cs_count (hD : DevOk D) (h : CS D B w0 w cb P S M l L H) (hl : L.length ≤ 1000) (ht : L.flatten.length ≤ 100000) : Calls Try.prog 32 #[ptr cb] w fun e w' => e = .returned (.int .i64 (L.flatten.length : Nat)) ∧ Below w.heap.size w w' := by
  obtain ⟨C, F, dv, o, kv, ks, GO, GK, h1, h2, h3, h4⟩ := h
  have hc : cnt ks = L.flatten.length := by rw [← wl_len, wl_flat, h3]
  have := cccount_c hD h1 (by rw [← h3, List.length_map] at hl; exact hl) (by omega)
  rw [hc] at this
  exact this

/-- Devices behind Apply. -/
def apD (S : Nat → DS) (M : Nat → Nat) (L : List (List Wr)) : Nat → DS := syN (L.flatten.foldl apS (S, M)).1 (L.flatten.foldl apS (S, M)).2 3
def apM (S : Nat → DS) (M : Nat → Nat) (L : List (List Wr)) : Nat → Nat := (L.flatten.foldl apS (S, M)).2

theorem cs_apply (hD : DevOk D) (h : CS D B w0 w cb P S M l L H) (hM : ∀ i, i < 3 → M i ≤ 50000 ∧ (S i).log.length ≤ 50000) (hl : L.length ≤ 1000) (ht : L.flatten.length ≤ 10000) : Calls Try.prog 19 #[ptr cb] w fun e w' => e = .returned (.tuple #[]) ∧ Stp D B w0 w cb P H (apD S M L) (apM S M L) l [] w' := by
  obtain ⟨C, F, dv, o, kv, ks, GO, GK, h1, h2, h3, h4⟩ := h
  have hc : wl ks = L.flatten := by rw [wl_flat, h3]
  refine (ccapply_c hD h1 hM (by rw [← h3, List.length_map] at hl; exact hl) (by rw [← wl_len, hc]; exact ht)).mono ?_
  rintro e w' ⟨rfl, F', g1, g2, g3⟩
  rw [hc] at g1
  refine ⟨rfl, g2.mono (fun k hk => (h4 k).2 hk), fun k => (GO k ∨ GK k) ∨ FamB C F' k, ?_, C, F', dv, o, _, [], GO, GK, g1, h2, rfl, fun k => Iff.rfl⟩
  rintro k (hk | ⟨i, hi, hk | hk⟩)
  · exact .inl ((h4 k).2 (.inl hk))
  · exact (g3 i k hi hk).imp (fun h => (h4 k).2 (.inr ⟨i, hi, .inl h⟩)) id
  · exact .inl ((h4 k).2 (.inr ⟨i, hi, .inr hk⟩))

/-- Calls on a device that only tell. -/
theorem cs_dread (hD : DevOk D) (h : CS D B w0 w cb P S M l L H) {i : Nat} (hi : i < 3) (s : Int) (hs : i64ok s) : Calls Try.prog 34 #[ptr (P i), .int .i64 s] w fun e w' => Below w.heap.size w w' ∧ ∃ v, e = .returned (.tuple #[v, .int .i64 (rdErr (S i) s)]) ∧ ((rdErr (S i) s ≠ 0 ∧ NoSec v) ∨ (rdErr (S i) s = 0 ∧ NewSec w w' v (holds (S i) s.toNat))) := by
  obtain ⟨C, F, dv, o, kv, ks, GO, GK, h1, _⟩ := h
  exact hD.read w (P i) (S i) (C i) (M i) (F i) s (h1.fam.dev i hi).dev hs
theorem cs_writes (hD : DevOk D) (h : CS D B w0 w cb P S M l L H) {i : Nat} (hi : i < 3) (hl : (S i).log.length ≤ 100000) : Calls Try.prog 38 #[ptr (P i)] w fun e w' => e = .returned (.int .i64 (wrs (S i).log : Nat)) ∧ Below w.heap.size w w' := by
  obtain ⟨C, F, dv, o, kv, ks, GO, GK, h1, _⟩ := h
  exact hD.writes w (P i) (S i) (C i) (M i) (F i) (h1.fam.dev i hi).dev hl
theorem cs_pending (hD : DevOk D) (h : CS D B w0 w cb P S M l L H) {i : Nat} (hi : i < 3) (hl : (S i).log.length ≤ 100000) : Calls Try.prog 36 #[ptr (P i)] w fun e w' => e = .returned (.int .i64 (pend (S i).log : Nat)) ∧ Below w.heap.size w w' := by
  obtain ⟨C, F, dv, o, kv, ks, GO, GK, h1, _⟩ := h
  exact hD.pending w (P i) (S i) (C i) (M i) (F i) (h1.fam.dev i hi).dev hl

/-- What made gives. -/
theorem cs_made (hD : DevOk D) (w : World) : Calls Try.prog 7 #[] w fun e w' => Below w.heap.size w w' ∧ ∃ gl cl cb P H, e = .returned (.tuple #[.slice (some ⟨gl, 0, none⟩) 3 cl, ptr cb]) ∧ CS D w.heap.size w w' cb P (fun _ => fresh 6) (fun _ => 0) [] [] H ∧ ¬ H gl ∧ w.heap.size ≤ gl ∧ gl < w'.heap.size ∧ ∀ i, i < 3 → w'.cell? ⟨gl, i, none⟩ = some (ptr (P i)) := by
  refine (made_c hD w).mono ?_
  rintro e w' ⟨gl, cl, cb, P, C, F, dv, GK, rfl, h1, h2, h3, h4, h5⟩
  refine ⟨h5, gl, cl, cb, P, fun k => (False ∨ GK k) ∨ FamB C F k, rfl, ⟨C, F, dv, gnil, _, [], _, GK, h1, rfl, rfl, fun k => Iff.rfl⟩, ?_, ?_⟩
  · rintro ((hk | hk) | hk)
    · exact hk
    · exact h3 hk
    · exact h4 hk
  · obtain ⟨a, c, e, _, hc⟩ := h2.at_
    cases e
    have hl := h2.lt gl rfl
    refine ⟨hl.1, hl.2, fun i hi => ?_⟩
    obtain ⟨g, e, hcell⟩ := hc i (some ⟨P i, 0, none⟩) (by unfold prs; rw [List.getElem?_map, List.getElem?_range hi]; rfl)
    cases e
    exact hcell
end Go.Proofs.Ytancebpjfbbcaaa
