/- cache: a group's map, whose keys are places. -/
import Derived.Test.YtancebpjfbbcaaaCcM
import Derived.MapKept
import Derived.Laws.StructEq
namespace Go.Proofs.Ytancebpjfbbcaaa
open Go.ChangeShapes Go.WideShapes Go.ChangeAt Go.RowKit Go.MapKept
set_option linter.unusedVariables false

def plv (d s : Nat) : Value := .agg #[.int .i64 (d : Nat), .int .i64 (s : Nat)]

/-- The entries, from number i on. -/
def cent : Nat → List Rw → List MapEntry
  | _, [] => []
  | i, r :: l => { key := plv r.1.d r.1.s, val := .int .i64 (i : Nat), born := i } :: cent (i + 1) l

theorem cent_snoc (i : Nat) (l : List Rw) (r : Rw) : cent i (l ++ [r]) = cent i l ++ [{ key := plv r.1.d r.1.s, val := .int .i64 ((i + l.length : Nat) : Nat), born := i + l.length }] := by
  induction l generalizing i with
  | nil => rfl
  | cons a l ih =>
    show _ :: cent (i + 1) (l ++ [r]) = _ :: (cent (i + 1) l ++ _)
    rw [ih, List.length_cons, show i + 1 + l.length = i + (l.length + 1) by omega]

theorem cent_keys {l l' : List Rw} (h : l.map (fun r => (r.1.d, r.1.s)) = l'.map (fun r => (r.1.d, r.1.s))) (i : Nat) : cent i l = cent i l' := by
  induction l generalizing l' i with
  | nil =>
    cases l' with
    | nil => rfl
    | cons a l' => simp at h
  | cons a l ih =>
    cases l' with
    | nil => simp at h
    | cons b l' =>
      simp only [List.map_cons, List.cons.injEq, Prod.mk.injEq] at h
      obtain ⟨⟨e1, e2⟩, h⟩ := h
      show _ :: _ = _ :: _
      rw [ih h, e1, e2]

theorem cent_set {l : List Rw} {d s i : Nat} {f : Nat → Nat} {v : Value} (h : fnd l d s = some i) : cent 0 (l.set i (⟨d, s, f⟩, v)) = cent 0 l := by
  refine cent_keys ?_ 0
  obtain ⟨r, h1, h2, _⟩ := fnd_at h
  obtain ⟨e1, e2⟩ := hit_iff.1 h2
  rw [List.map_set]
  apply List.ext_getElem?
  intro j
  rw [List.getElem?_set]
  by_cases hij : i = j
  · subst hij
    rw [if_pos rfl, if_pos (by simpa using fnd_lt h), List.getElem?_map, h1]
    simp [e1, e2]
  · rw [if_neg hij]

theorem Try.plStruct : Try.prog.underlying 76 = some (.struct (Try.prog.fieldsOf 76)) := by kernel_rfl
theorem Try.plHeld : Try.prog.stoodInHeld 76 = false := by kernel_rfl

theorem run_eq_place (w : World) (a b c d : Nat) : (Op.equal 76 (plv a b) (plv c d)).run Try.prog w = .ok (a == c && b == d) w := by
  have u3 := Try.underlying3
  have a3 := Try.isAgg3
  have z3 := Try.sizeOf3
  unfold plv
  rw [show Op.equal 76 (.agg #[.int .i64 (a : Nat), .int .i64 (b : Nat)]) (.agg #[.int .i64 (c : Nat), .int .i64 (d : Nat)]) = Op.equalIn (9999 + 1) 76 (.agg #[.int .i64 (a : Nat), .int .i64 (b : Nat)]) (.agg #[.int .i64 (c : Nat), .int .i64 (d : Nat)]) from rfl, run_equalIn_agg w 9999 76 _ _ Try.plStruct Try.plHeld]
  simp only [Program.fieldsOf, Try.underlying76]
  go_simp
  simp only [Int.natCast_inj]
  by_cases h1 : a = c <;> by_cases h2 : b = d <;> simp [h1, h2]

theorem run_check_place (w : World) (e : Bool) (a b : Nat) : (Instr.checkKey e 10000 76 (plv a b)).run Try.prog w = .ok () w := by kernel_rfl

theorem run_ask_place (w : World) (d s : Nat) (l : List Rw) (i : Nat) : (Instr.findAsking 76 (plv d s) (cent i l) i).run Try.prog w = .ok ((fnd l d s).map fun j => (i + j, (.int .i64 ((i + j : Nat) : Nat) : Value))) w := by
  induction l generalizing i with
  | nil => rfl
  | cons r l ih =>
    show (Instr.findAsking 76 (plv d s) ({ key := plv r.1.d r.1.s, val := .int .i64 (i : Nat), born := i } :: cent (i + 1) l) i).run Try.prog w = _
    unfold Instr.findAsking
    rw [Sem.run_bind, run_eq_place]
    rw [fnd_cons]
    show (if hit d s r.1 = true then _ else _ : Sem _).run Try.prog w = _
    by_cases h : hit d s r.1 = true
    · rw [if_pos h, if_pos h]
      rfl
    · rw [if_neg h, if_neg h, ih]
      congr 1
      cases fnd l d s with
      | none => rfl
      | some j =>
        simp only [Option.map_some, Option.some.injEq, Prod.mk.injEq]
        rw [show i + 1 + j = i + (j + 1) by omega]
        exact ⟨rfl, rfl⟩

theorem run_find_place (w : World) (d s : Nat) (l : List Rw) : (Instr.findKey 76 (plv d s) (cent 0 l)).run Try.prog w = .ok ((fnd l d s).map fun j => (j, (.int .i64 (j : Nat) : Value))) w := by
  unfold Instr.findKey
  rw [Sem.run_bind, run_underlying Try.plStruct]
  have h := run_ask_place w d s l 0
  simp only [Nat.zero_add] at h
  generalize Try.prog.fieldsOf 76 = fs
  cases l with
  | nil => exact h
  | cons r l =>
    have e : Instr.findNow (.struct fs) (plv d s) (cent 0 (r :: l)) 0 = none := rfl
    rw [Result.andThen_ok]
    simp only [e]
    exact h

def idx (l : List Rw) (d s : Nat) : Nat := (fnd l d s).getD 0

theorem run_look_place {w : World} {mb k : Nat} {l : List Rw} (hb : w.heap[mb]? = some (.map (cent 0 l).toArray k)) (d s : Nat) : (Instr.lookup 68 (.map (some mb)) (plv d s) true).run Try.prog w = .ok (.tuple #[.int .i64 (idx l d s : Nat), .bool (fnd l d s).isSome]) w := by
  have hz : ∀ w, (zeroValue 3).run Try.prog w = .ok (.int .i64 0) w := fun w => by kernel_rfl
  have hf := run_find_place w d s l
  unfold idx
  cases h : fnd l d s with
  | none =>
    rw [h] at hf
    simp [Instr.lookup, run_underlying Try.underlying68, MapKept.run_getObj_map hb, run_check_place, hf, hz, Result.andThen]
  | some j =>
    rw [h] at hf
    simp [Instr.lookup, run_underlying Try.underlying68, MapKept.run_getObj_map hb, run_check_place, hf, Result.andThen]

theorem run_look_nil {w : World} (d s : Nat) : (Instr.lookup 68 (.map none) (plv d s) true).run Try.prog w = .ok (.tuple #[.int .i64 0, .bool false]) w := by
  have hz : ∀ w, (zeroValue 3).run Try.prog w = .ok (.int .i64 0) w := fun w => by kernel_rfl
  have hf := run_find_place w d s []
  simp [Instr.lookup, run_underlying Try.underlying68, run_check_place, Result.andThen]
  have hf' : (Instr.findKey 76 (plv d s) []).run Try.prog w = .ok none w := hf
  simp [hf', hz, Result.andThen]

theorem run_put_place {w : World} {mb : Nat} {l : List Rw} (hb : w.heap[mb]? = some (.map (cent 0 l).toArray l.length)) (d s : Nat) (hn : fnd l d s = none) (r : Rw) (hd : r.1.d = d) (hs : r.1.s = s) :
    (Instr.mapUpdate 68 (.map (some mb)) (plv d s) (.int .i64 (l.length : Nat))).run Try.prog w = .ok () { w with heap := w.heap.setIfInBounds mb (.map (cent 0 (l ++ [r])).toArray (l ++ [r]).length) } := by
  have hf := run_find_place w d s l
  rw [hn] at hf
  have e : (cent 0 l).toArray.push { key := plv d s, val := .int .i64 (l.length : Nat), born := l.length } = (cent 0 (l ++ [r])).toArray := by
    rw [cent_snoc, Nat.zero_add, hd, hs, ← List.push_toArray]
  rw [← e, List.length_append, List.length_singleton]
  simp [Instr.mapUpdate, run_underlying Try.underlying68, MapKept.run_getObj_map hb, run_check_place, hf, MapKept.run_setObj_map _ hb, Result.andThen]
end Go.Proofs.Ytancebpjfbbcaaa
