/- cache: Read, as the laws call it. -/
import Derived.Test.YtancebpjfbbcaaaCcRead
import Derived.Test.YtancebpjfbbcaaaCcLastM
namespace Go.Proofs.Ytancebpjfbbcaaa
open Go.ChangeShapes Go.WideShapes Go.ChangeAt Go.RowKit Go.MapKept
set_option linter.unusedVariables false

variable {D : DevRep} {B : Nat} {w0 w w' : World} {P : Nat → Nat} {S : Nat → DS} {M : Nat → Nat} {cb : Nat} {l : List Wr} {L : List (List Wr)} {H : Nat → Prop}

theorem lastK_cons (g : GV) (ks : List GV) (d s : Nat) : lastK (g :: ks) d s = (lastK ks d s).or (look g.rows d s) := by
  unfold lastK
  rw [List.reverse_cons, List.findSome?_append]
  congr 1
  rw [List.findSome?_cons]
  cases look g.rows d s <;> rfl

theorem lastK_map (ks : List GV) (d s : Nat) : (lastK ks d s).map (·.1.f) = lookL (ks.map fun g => g.rows.map (·.1)) d s := by
  induction ks with
  | nil => rfl
  | cons g ks ih =>
    rw [lastK_cons, List.map_cons]
    unfold lookL
    rw [← ih, look_map]
    cases lastK ks d s <;> rfl

/-- What the cache has of a sector that waits. -/
def seenE (l : List Wr) (L : List (List Wr)) (d s : Nat) : Option (Nat → Nat) := (lookE l d s).or (lookL L d s)

theorem lastG_map (o : GV) (ks : List GV) (d s : Nat) : (lastG o ks d s).map (·.1.f) = seenE (o.rows.map (·.1)) (ks.map fun g => g.rows.map (·.1)) d s := by
  unfold lastG seenE
  rw [← lastK_map, look_map]
  cases look o.rows d s <;> rfl

theorem cs_read (hD : DevOk D) (hZ : DevSz D) (h : CS D B w0 w cb P S M l L H) (d s : Int) (hs : i64ok s) (hl : L.length ≤ 1000) :
    Calls Try.prog 12 #[ptr cb, .int .i64 d, .int .i64 s] w fun e w' => Below w.heap.size w w' ∧ ∃ v, e = .returned (.tuple #[v, .int .i64 (crErr S (seenE l L d.toNat s.toNat) d s)]) ∧
      ((crErr S (seenE l L d.toNat s.toNat) d s ≠ 0 ∧ NoSec v) ∨ (crErr S (seenE l L d.toNat s.toNat) d s = 0 ∧ NewSec w w' v (crData S (seenE l L d.toNat s.toNat) d s))) := by
  obtain ⟨C, F, dv, o, kv, ks, GO, GK, h1, h2, h3, h4⟩ := h
  have hr := ccread_c hD hZ h1 d s hs (by rw [← h3, List.length_map] at hl; exact hl)
  rw [lastG_map, h2, h3] at hr
  exact hr
end Go.Proofs.Ytancebpjfbbcaaa
