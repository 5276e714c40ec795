/- A script that came in, and that its bytes are no more than one piece of memory may take. -/
import Derived.Test.YtalcalecmklcoaaDvOpen
import Derived.SizedLaws
namespace Go.Proofs.Ytalcalecmklcoaa
open Go.ChangeShapes Go.WideShapes Go.ChangeAt Go.RowKit
set_option linter.unusedVariables false

variable {H : Type} {enc : TypeId × Value → H} {W : World} {fuel : Nat}

theorem weightsAll_mem {P : Program} {e : TypeId} {d : DataW H} : ∀ {l : List (DataW H)}, d ∈ l → ∀ n ∈ d.weights P e, n ∈ DataW.weightsAll P e l
  | [], h, _, _ => by cases h
  | x :: l, h, n, hn => by
    simp only [DataW.weightsAll, List.mem_append]
    rcases List.mem_cons.1 h with rfl | h
    · exact .inl hn
    · exact .inr (weightsAll_mem h n hn)

theorem bytes5D : Try.prog.bytesOf 5 = 1 := by kernel_rfl

theorem by_sized {a : Option Addr} {L C : Nat} {y : DataW H × List MemPlace} (hf : DataW.trod enc Try.prog W 0 (fun _ => true) true fuel 33 [.slice a L C] = some y) (hw : ∀ n ∈ y.1.weights Try.prog 33, n ≤ reachBytes) : L ≤ 140737488351232 := by
  rcases open_ints Try.underlying33 Try.underlying5 cells5D hf with ⟨hcs, _⟩ | ⟨x, l, c, zs, hcs, _, hl, hm, hzl, hx, hcell, hwz⟩
  · simp only [List.cons.injEq, Value.slice.injEq, and_true] at hcs
    omega
  · simp only [List.cons.injEq, Value.slice.injEq, and_true] at hcs
    obtain ⟨rfl, rfl, rfl⟩ := hcs
    have hzl' : zs.length = C := by simpa using hzl
    have h := hw (((lits (H := H) .u8 (zs.take L)).length + (lits (H := H) .u8 (zs.drop L)).length) * Try.prog.bytesOf 5) (by rw [hx]; simp [DataW.weights, Try.underlying33])
    rw [bytes5D] at h
    simp only [lits, List.length_map, List.length_take, List.length_drop, reachBytes] at h
    omega

set_option maxRecDepth 100000 in
theorem open_scriptS {a : Option Addr} {len cap : Nat} {x : DataW H × List MemPlace} (hf : DataW.trod enc Try.prog W 0 (fun _ => true) true fuel 22 [.slice a len cap] = some x) (hw : ∀ n ∈ x.1.weights Try.prog 22, n ≤ reachBytes) : ∃ O, Script W a len O ∧ ∀ i, i < len → (O i).L ≤ 140737488351232 := by
  obtain ⟨O, hO⟩ := open_script hf
  refine ⟨O, hO, fun i hi => ?_⟩
  obtain ⟨x1, o1, ha, hx1, hop⟩ := hO.2 i hi
  rcases Go.Deep.open_slice Try.underlying22 hf with ⟨hcs, _⟩ | ⟨ad, l, c, m, n, D, Pl, hcs, _, hl, hm, hmm, hxx, hx⟩
  · simp only [List.cons.injEq, Value.slice.injEq, and_true] at hcs
    omega
  · simp only [List.cons.injEq, Value.slice.injEq, and_true] at hcs
    obtain ⟨rfl, rfl, rfl⟩ := hcs
    simp only [if_true] at hmm
    obtain ⟨cs', h1, h2⟩ := hx i (by omega)
    rw [cellsOpD] at h1
    obtain ⟨_, hlen, hcell⟩ := World.cells?_some h1
    obtain ⟨y0, y1, y2, y3, n', hy, _, e0, e1, e2, e3⟩ := Go.Joins.trod_struct4 Try.underlying36 h2
    match cs', hlen with
    | [v0, v1, v2, v3], _ =>
      have f2 : DataW.trod enc Try.prog W 0 (fun _ => true) true n' 33 [v2] = some y2 := e2
      have c2 := hcell 2 (by omega)
      rw [Go.Deep.add_add] at c2
      obtain rfl : ad = ⟨x1, o1, none⟩ := Option.some.inj ha
      have ea : ∀ j, (⟨x1, o1, none⟩ : Addr).add j = ⟨x1, o1 + j, none⟩ := fun j => by simp [Addr.add]
      rw [ea] at c2
      have c2' := hop.c2
      rw [Nat.add_assoc, c2] at c2'
      have hv2 : v2 = .slice (O i).a (O i).L (O i).C := by simpa using c2'
      rw [hv2] at f2
      have hD : (D i) = .agg [y0.1, y1.1, y2.1, y3.1] := by simpa using congrArg Prod.fst hy
      refine by_sized f2 (fun n hn => hw n ?_)
      rw [hxx]
      simp only [DataW.weights, Try.underlying22, List.mem_cons, List.mem_append]
      refine .inr (.inl (weightsAll_mem (d := D i) ?_ n ?_))
      · exact List.mem_map.2 ⟨i, by simpa using hi, rfl⟩
      · rw [hD]
        simp [DataW.weights, DataW.weightsEach, Try.underlying36]
        exact .inr (.inr (.inl hn))
end Go.Proofs.Ytalcalecmklcoaa
