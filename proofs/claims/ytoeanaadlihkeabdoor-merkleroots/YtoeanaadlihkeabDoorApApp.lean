/- Bytes appended to a row of the call's own, and where the row lies then. -/
import Derived.Test.YtoeanaadlihkeabDoorBlMore
namespace Go.Proofs.YtoeanaadlihkeabDoor
open Go.ChangeShapes Go.WideShapes Go.ChangeAt Go.RowKit
set_option linter.unusedVariables false

theorem append_where (w : World) (base : Nat) (v : Value) (n : Nat) (f : Nat → Nat) (hown : w.ownsRow base 5 1 v n (bl f n))
    (A : Option Addr) (L C : Nat) (g : Nat → Nat) (hnil : A = none → L = 0 ∧ C = 0) (hb : Bytes w A L g) (h63 : n + L ≤ 100000000) (hbase : base ≤ w.heap.size) :
    ∃ v' w', (∀ ty, (Builtin.append_ #[22, 22] ty #[v, .slice A L C]).run Tryd.prog w = .ok v' w') ∧ w'.ownsRow base 5 1 v' (n + L) (bl (cat f n g) (n + L)) ∧ w.grownBy w' v.ownBlock ∧ ∀ k, v'.ownBlock = some k → v.ownBlock = some k ∨ w.heap.size ≤ k := by
  obtain ⟨i, hi, hz, hsize, hby⟩ := info_parts Tryd.info5
  obtain ⟨v', w', hr, h2, h3⟩ := run_append_bytes w base v n f hown A L C g hnil hb (by omega) hbase
  refine ⟨v', w', hr, h2, h3, fun k hk => ?_⟩
  rcases id hown.2 with ⟨rfl, rfl⟩ | ⟨g1, cap1, cur, rfl, hbg, hgg, hnc, hcm, hcs, htake⟩
  · obtain ⟨v2, w2, hr2, h22, _⟩ := run_append_bytes w w.heap.size (.slice none 0 0) 0 f (by have e : bl f 0 = [] := rfl; rw [e]; exact World.ownsRow_nil _ _ _ _) A L C g hnil hb (by omega) (Nat.le_refl _)
    have e := (hr 0).symm.trans (hr2 0)
    injection e with e1 e2
    subst e1
    exact .inr (h22.lt k hk).1
  · cases A with
    | none =>
      obtain ⟨rfl, rfl⟩ := hnil rfl
      have hr2 : (Builtin.append_ #[22, 22] 0 #[.slice (some ⟨g1, 0, none⟩) n cap1, .slice none 0 0]).run Tryd.prog w = .ok (.slice (some ⟨g1, 0, none⟩) n cap1) w := by
        simp [Builtin.append_, run_underlying Tryd.underlying22, sizeOf, typeInfo, hi, Builtin.lenOf, Builtin.firstCells, hnc, storeCells]
      have e := (hr 0).symm.trans hr2
      injection e with e1 e2
      subst e1
      exact .inl hk
    | some ad =>
      have hnews := bytes_news hb
      by_cases hroom : n + L ≤ cap1
      · have hfit : n * i.size + (bl g L).length ≤ cur.size := by rw [hsize, hcs, bl_len]; omega
        have hr2 := run_append_room (P := Tryd.prog) w 22 0 5 i Tryd.underlying22 hi g1 n cap1 cur hgg ad L C (bl g L) (by rw [hsize]; exact bl_len g L) hnews (bl_one g L) hroom hfit
        have e := (hr 0).symm.trans hr2
        injection e with e1 e2
        subst e1
        exact .inl hk
      · have holds : ∀ j u, (bl f n)[j]? = some u → w.cell? ((⟨g1, 0, none⟩ : Addr).add j) = some u := hown.cells (g := g1) rfl
        have hr2 := run_append_grow (P := Tryd.prog) w 22 0 5 i (.int .u8 0) Tryd.underlying22 hi hz ⟨g1, 0, none⟩ n cap1 (bl f n) (by rw [hsize]; exact hown.1) holds ad L C (bl g L) (by rw [hsize]; exact bl_len g L) hnews (by omega) (by omega) (growslice_fits (by omega) (by rw [hby]; omega))
        have e := (hr 0).symm.trans hr2
        injection e with e1 e2
        subst e1
        refine .inr ?_
        have hk' := Option.some.inj (show some w.heap.size = some k from hk)
        omega
end Go.Proofs.YtoeanaadlihkeabDoor
