/- What the walks of the laws share. -/
import Derived.Test.YtoiaclmfljoomaaDoorJnOut
import Derived.Test.YtoiaclmfljoomaaDoorJnFill
import Derived.Test.YtoiaclmfljoomaaDoorJoint12
namespace Go.Proofs.YtoiaclmfljoomaaDoor
open Go.ChangeShapes Go.WideShapes Go.ChangeAt Go.RowKit
set_option linter.unusedVariables false

variable {D : DevRep} {B : Nat} {w0 w w' : World} {j p c m n : Nat} {s s' : DS} {F F' : Nat → Prop} {rs rs' : List RC} {fl : Nat} {G X : Nat → Prop} {v : Value}

theorem pd_nil (p : Nat) (w : World) : (binOp BinOp.eql 24 (ptr p) (.pointer none)).run Tryd.prog w = .ok (.bool false) w := by kernel_rfl

theorem Able.cut (h : Fine s) (keep : Nat → Bool) : Able (cutD s keep) := ⟨h.dead, h.good, h.byt.cut keep, h.n1, h.n2⟩
theorem Able.cutAt (h : Fine s) (i : Int) (keep : Nat → Bool) : Able (cutAtD s i keep) := ⟨h.dead, h.good, h.byt.cutAt i keep, h.n1, h.n2⟩

theorem rl_byt {a : Option Addr} (h : Rl w a rs) : ∀ r ∈ rs, ∀ k, r.f k < 256 := by
  intro r hr k
  obtain ⟨i, hi⟩ := List.mem_iff_getElem?.1 hr
  obtain ⟨_, _, _, _, _, _, _, hb⟩ := h.2 i r hi
  exact hb.byt k

theorem filled_byt {a : Option Addr} {ls : List RC} (h : Rl w a ls) (N k : Nat) : ∀ r ∈ filled rs N (ls.take k), ∀ q, r.f q < 256 := fun r hr q => rl_byt h r (List.mem_of_mem_take (filled_mem _ _ _ r hr)) q

/-- Two lists that are one, of bytes, are told alike. -/
theorem likes_of (h : rsame rs rs') (hb : ∀ r ∈ rs, ∀ k, r.f k < 256) (hb' : ∀ r ∈ rs', ∀ k, r.f k < 256) : rlikes rs rs' = true := by
  rw [rlikes_iff]
  refine ⟨rsame_len h, fun i r q hr hq => ?_⟩
  obtain ⟨h1, h2⟩ := rsame_get h i r q hr hq
  unfold rlike
  rw [beq_iff_eq]
  exact (strN_eq (hb r (List.mem_of_getElem? hr)) (hb' q (List.mem_of_getElem? hq))).2 ⟨h1, h2⟩

theorem likes_iff (hb : ∀ r ∈ rs, ∀ k, r.f k < 256) (hb' : ∀ r ∈ rs', ∀ k, r.f k < 256) : rlikes rs rs' = true ↔ rsame rs rs' := by
  constructor
  · intro h
    induction rs generalizing rs' with
    | nil =>
      cases rs' with
      | nil => trivial
      | cons q qs => cases h
    | cons r rs ih =>
      cases rs' with
      | nil => cases h
      | cons q qs =>
        have h' : (rlike r q && rlikes rs qs) = true := h
        rw [Bool.and_eq_true] at h'
        refine ⟨?_, ih (fun x hx => hb x (List.mem_cons_of_mem _ hx)) (fun x hx => hb' x (List.mem_cons_of_mem _ hx)) h'.2⟩
        have h2 := h'.1
        unfold rlike at h2
        rw [beq_iff_eq] at h2
        exact (strN_eq (hb r (List.mem_cons_self ..)) (hb' q (List.mem_cons_self ..))).1 h2
  · intro h
    exact likes_of h hb hb'
end Go.Proofs.YtoiaclmfljoomaaDoor
