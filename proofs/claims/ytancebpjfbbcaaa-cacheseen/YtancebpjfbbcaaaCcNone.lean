/- cache: Groups, where none is kept. -/
import Derived.Test.YtancebpjfbbcaaaCcState
namespace Go.Proofs.Ytancebpjfbbcaaa
open Go.ChangeShapes Go.WideShapes Go.ChangeAt Go.RowKit Go.MapKept
set_option linter.unusedVariables false

variable {D : DevRep} {B : Nat} {w0 w w' : World} {cb : Nat} {P : Nat → Nat} {S : Nat → DS} {C M : Nat → Nat} {F : Nat → Nat → Prop} {dv kv : Value} {o : GV} {ks : List GV} {GO GK : Nat → Prop} {l : List Wr} {L : List (List Wr)} {H : Nat → Prop}

set_option maxRecDepth 100000 in
set_option maxHeartbeats 1000000 in
theorem groups_none (h : CI D B w0 w cb P S C M F dv o kv [] GO GK) : Calls Try.prog 31 #[ptr cb] w fun e w' => e = .returned (.slice none 0 0) ∧ Below w.heap.size w w' := by
  have hn := pc_some cb
  obtain ⟨aK, cK, hkv, _, _, _, _⟩ := own_slice h.c.krow
  have c3 := h.c.str.cell 3
  simp only [List.getElem?_toArray, List.getElem?_cons_zero, List.getElem?_cons_succ] at c3
  rw [hkv, List.length_nil] at c3
  clear h hkv
  go_enter Try.func31, Try.ntmps31
  go_wp2
  go_loopw [3, 13] (fun lv iv wr => lv = .slice none 0 0 ∧ iv = .int .i64 0 ∧ Below w.heap.size w wr) (fun _ _ _ => 0)
  case atStart => exact ⟨rfl, rfl, Below.refl _ _⟩
  case round =>
    obtain ⟨rfl, rfl, hbel⟩ := hrel
    go_wp2
    go_ret
    exact ⟨rfl, hbel⟩

theorem cs_none (h : CS D B w0 w cb P S M l [] H) : Calls Try.prog 31 #[ptr cb] w fun e w' => e = .returned (.slice none 0 0) ∧ Below w.heap.size w w' := by
  obtain ⟨C, F, dv, o, kv, ks, GO, GK, h1, h2, h3, h4⟩ := h
  obtain rfl : ks = [] := List.map_eq_nil_iff.1 h3
  exact groups_none h1
end Go.Proofs.Ytancebpjfbbcaaa
