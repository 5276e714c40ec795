/- A tree, as it came in. -/
import Derived.Test.YtpckmllmjdafpaaGreatDoorPrLaw
import Derived.Deep.Slices
import Derived.Deep.Grids
import Derived.Lib.SmallJoins
import Derived.SizedLaws
namespace Go.Proofs.YtpckmllmjdafpaaGreatDoor
open Go.ChangeShapes Go.WideShapes Go.ChangeAt Go.RowKit
set_option linter.unusedVariables false

variable {H : Type} {enc : TypeId × Value → H} {W : World}

theorem trod_struct5 {t : TypeId} {f0 f1 f2 f3 f4 : Field} {fuel : Nat} {cs : List Value} {x : DataW H × List MemPlace} (ht : Tryz.prog.underlying t = some (.struct #[f0, f1, f2, f3, f4])) (h : DataW.trod enc Tryz.prog W 0 (fun _ => true) true fuel t cs = some x) :
    ∃ y0 y1 y2 y3 y4 n, fuel = n + 1 ∧ x.1 = .agg [y0.1, y1.1, y2.1, y3.1, y4.1] ∧ cs.length = Tryz.prog.cellsOf t ∧ DataW.trod enc Tryz.prog W 0 (fun _ => true) true n f0.type ((cs.drop f0.offset).take (Tryz.prog.cellsOf f0.type)) = some y0 ∧
      DataW.trod enc Tryz.prog W 0 (fun _ => true) true n f1.type ((cs.drop f1.offset).take (Tryz.prog.cellsOf f1.type)) = some y1 ∧ DataW.trod enc Tryz.prog W 0 (fun _ => true) true n f2.type ((cs.drop f2.offset).take (Tryz.prog.cellsOf f2.type)) = some y2 ∧
      DataW.trod enc Tryz.prog W 0 (fun _ => true) true n f3.type ((cs.drop f3.offset).take (Tryz.prog.cellsOf f3.type)) = some y3 ∧ DataW.trod enc Tryz.prog W 0 (fun _ => true) true n f4.type ((cs.drop f4.offset).take (Tryz.prog.cellsOf f4.type)) = some y4 := by
  obtain ⟨xs, n, hn, rfl, hl, hlen, hf⟩ := DataW.trod_struct ht h
  match xs, hlen with
  | [y0, y1, y2, y3, y4], _ => exact ⟨y0, y1, y2, y3, y4, n, hn, by simp, hl, by simpa using hf 0 f0 rfl, by simpa using hf 1 f1 rfl, by simpa using hf 2 f2 rfl, by simpa using hf 3 f3 rfl, by simpa using hf 4 f4 rfl⟩

theorem bs_ofD (s : ByteArray) : bs s.data.toList = s := by
  obtain ⟨a⟩ := s
  unfold bs
  simp

theorem cellsNdD : Tryz.prog.cellsOf 24 = 5 := by kernel_rfl

theorem weights_all {P : Program} {e : TypeId} {l : List (DataW H)} {d : DataW H} (hd : d ∈ l) {k : Nat} (hk : k ∈ d.weights P e) : k ∈ DataW.weightsAll P e l := by
  induction l with
  | nil => cases hd
  | cons x l ih =>
    simp only [DataW.weightsAll, List.mem_append]
    rcases List.mem_cons.1 hd with rfl | hd
    · exact .inl hk
    · exact .inr (ih hd)

set_option maxRecDepth 100000 in
theorem open_node (fuel : Nat) : ∀ (cs : List Value) (y : DataW H × List MemPlace), DataW.trod enc Tryz.prog W 0 (fun _ => true) true fuel 24 cs = some y → (∀ k ∈ y.1.weights Tryz.prog 24, k ≤ reachBytes) → ∃ (n : Nd) (A : Option Addr) (C : Nat), cs = [.string (bs n.op), .string (bs n.s), .int .i64 n.n, .int .i64 n.a, .slice A n.l.length C] ∧ RdN W n A C := by
  induction fuel using Nat.strongRecOn with
  | _ fuel ih =>
    intro cs y hf hw
    obtain ⟨y0, y1, y2, y3, y4, m, hm, hy, hlen, e0, e1, e2, e3, e4⟩ := trod_struct5 Tryz.underlying24 hf
    rw [cellsNdD] at hlen
    match cs, hlen with
    | [v0, v1, v2, v3, v4], _ =>
      have f0 : DataW.trod enc Tryz.prog W 0 (fun _ => true) true m 9 [v0] = some y0 := e0
      have f1 : DataW.trod enc Tryz.prog W 0 (fun _ => true) true m 9 [v1] = some y1 := e1
      have f2 : DataW.trod enc Tryz.prog W 0 (fun _ => true) true m 3 [v2] = some y2 := e2
      have f3 : DataW.trod enc Tryz.prog W 0 (fun _ => true) true m 3 [v3] = some y3 := e3
      have f4 : DataW.trod enc Tryz.prog W 0 (fun _ => true) true m 22 [v4] = some y4 := e4
      obtain ⟨s0, hs0, hx0, _⟩ := DataW.trod_string Tryz.underlying9 f0
      obtain ⟨s1, hs1, hx1, _⟩ := DataW.trod_string Tryz.underlying9 f1
      obtain ⟨i2, hi2, _, _⟩ := DataW.trod_int Tryz.underlying3 f2
      obtain ⟨i3, hi3, _, _⟩ := DataW.trod_int Tryz.underlying3 f3
      simp only [List.cons.injEq, and_true] at hs0 hs1 hi2 hi3
      subst hs0 hs1 hi2 hi3
      have hwy : ∀ k, (k ∈ y0.1.weights Tryz.prog 9 ∨ k ∈ y1.1.weights Tryz.prog 9 ∨ k ∈ y4.1.weights Tryz.prog 22) → k ≤ reachBytes := fun k hk => by
        refine hw k ?_
        rw [hy]
        simp only [DataW.weights, Tryz.underlying24]
        show k ∈ DataW.weightsEach Tryz.prog [9, 9, 3, 3, 22] [y0.1, y1.1, y2.1, y3.1, y4.1]
        simp only [DataW.weightsEach, List.mem_append]
        rcases hk with h | h | h
        · exact .inl h
        · exact .inr (.inl h)
        · exact .inr (.inr (.inr (.inr (.inl h))))
      have z0 : s0.data.toList.length ≤ reachBytes := hwy _ (.inl (by rw [hx0]; simp [DataW.weights]))
      have z1 : s1.data.toList.length ≤ reachBytes := hwy _ (.inr (.inl (by rw [hx1]; simp [DataW.weights])))
      have hrm : reachBytes < maxLen := by decide
      obtain ⟨l, A, C, rfl, hrd⟩ : ∃ (l : List Nd) (A : Option Addr) (C : Nat), v4 = .slice A l.length C ∧ Rd W l (.slice A l.length C) := by
        rcases DataW.trod_slice Tryz.underlying22 f4 with ⟨hcs, _⟩ | ⟨ad, len, cap, elems, rest, k, hk, hcs, hx, _, hl, hcm, hel, hx1, _, _⟩
        · simp only [List.cons.injEq, and_true] at hcs
          subst hcs
          exact ⟨[], none, 0, rfl, .mk [] [] none 0 rfl (Nat.le_refl _) (by omega) (fun i h => by simp at h) (fun i h => by simp at h) (fun x h => by cases h)⟩
        · simp only [List.cons.injEq, and_true] at hcs
          subst hcs
          have each : ∀ i, i < len → ∃ (n : Nd) (A' : Option Addr) (C' : Nat), (∃ x o, ad = ⟨x, o, none⟩ ∧ x < W.heap.size ∧ ∀ j, j < 5 → W.cell? ⟨x, o + i * 5 + j, none⟩ = (ndc n (.slice A' n.l.length C'))[j]?) ∧ RdN W n A' C' := by
            intro i hi
            have hb := hx1 i hi
            rw [List.getElem?_eq_getElem (by omega : i < elems.length)] at hb
            obtain ⟨cs', h1, h2⟩ := Option.bind_eq_some_iff.1 hb
            have hwi : ∀ q ∈ elems[i].1.weights Tryz.prog 24, q ≤ reachBytes := fun q hq => by
              refine hwy q (.inr (.inr ?_))
              rw [hx]
              simp only [DataW.weights, Tryz.underlying22]
              refine List.mem_cons_of_mem _ (List.mem_append_left _ (weights_all (d := elems[i].1) (List.mem_map_of_mem (List.getElem_mem _)) hq))
            obtain ⟨n, A', C', rfl, hn⟩ := ih k (by omega) cs' elems[i] h2 hwi
            rw [cellsNdD] at h1
            obtain ⟨_, hlen', hcell⟩ := World.cells?_some h1
            refine ⟨n, A', C', ?_, hn⟩
            have hc0 := hcell 0 (by simp)
            rw [Go.Deep.add_add] at hc0
            obtain ⟨b, off, spot⟩ := ad
            have hs : spot = none := by
              have hb0 := hx1 0 (by omega)
              rw [List.getElem?_eq_getElem (by omega : 0 < elems.length)] at hb0
              obtain ⟨cs0, g1, _⟩ := Option.bind_eq_some_iff.1 hb0
              rw [cellsNdD] at g1
              obtain ⟨_, hlen0, hcell0⟩ := World.cells?_some g1
              have := hcell0 0 (by omega)
              rw [Go.Deep.add_add] at this
              cases hv : cs0[0]? with
              | none => rw [List.getElem?_eq_none_iff] at hv; omega
              | some u => simpa [Addr.add] using World.cell?_spot (this.trans hv)
            subst hs
            have ea : ∀ j, (⟨b, off, none⟩ : Addr).add j = ⟨b, off + j, none⟩ := fun j => by simp [Addr.add]
            rw [ea] at hc0
            refine ⟨b, off, rfl, World.block_lt_of_cell? W _ hc0, fun j hj => ?_⟩
            have hcj := hcell j (by simpa using hj)
            rw [Go.Deep.add_add, ea, ← Nat.add_assoc] at hcj
            rw [hcj]
            unfold ndc
            simp
          obtain ⟨F, Af, Cf, hF⟩ : ∃ (F : Nat → Nd) (Af : Nat → Option Addr) (Cf : Nat → Nat), ∀ i, i < len → (∃ x o, ad = ⟨x, o, none⟩ ∧ x < W.heap.size ∧ ∀ j, j < 5 → W.cell? ⟨x, o + i * 5 + j, none⟩ = (ndc (F i) (.slice (Af i) (F i).l.length (Cf i)))[j]?) ∧ RdN W (F i) (Af i) (Cf i) :=
            ⟨fun i => if h : i < len then (each i h).choose else .mk [] [] 0 0 [], fun i => if h : i < len then (each i h).choose_spec.choose else none, fun i => if h : i < len then (each i h).choose_spec.choose_spec.choose else 0, fun i hi => by
              simp only [dif_pos hi]
              exact (each i hi).choose_spec.choose_spec.choose_spec⟩
          have hLl : ((List.range len).map F).length = len := by simp
          refine ⟨(List.range len).map F, some ad, cap, by rw [hLl], ?_⟩
          refine .mk ((List.range len).map F) ((List.range len).map fun i => .slice (Af i) (F i).l.length (Cf i)) (some ad) cap (by simp) (by rw [hLl]; exact hl) (by unfold maxLen at hcm; omega) (fun i h h' => ?_) (fun i h h' => ?_) (fun x hx => ?_)
          · obtain ⟨⟨b, o, rfl, hb, hc⟩, _⟩ := hF i (by simpa using h)
            refine ⟨b, o, rfl, hb, fun j hj => ?_⟩
            simp only [List.getElem_map, List.getElem_range]
            exact hc j hj
          · simp only [List.getElem_map, List.getElem_range]
            exact (hF i (by simpa using h)).2.rd
          · obtain ⟨i, hi, rfl⟩ := List.mem_map.1 hx
            have := (hF i (List.mem_range.1 hi)).2
            exact ⟨this.s, this.op⟩
      refine ⟨.mk s0.data.toList s1.data.toList i2 i3 l, A, C, ?_, hrd, by show s1.data.toList.length < maxLen; omega, by show s0.data.toList.length < maxLen; omega⟩
      simp only [Nd.op, Nd.s, Nd.n, Nd.a, Nd.l, bs_ofD]
end Go.Proofs.YtpckmllmjdafpaaGreatDoor
