/- MerkleTrees, walked. -/
import Derived.Test.YtoeanaadlihkeaaDoorMkAlive
import Derived.Test.YtoeanaadlihkeaaDoorMkRef3W
import Derived.Test.YtoeanaadlihkeaaDoorMkRef3N
import Derived.Test.YtoeanaadlihkeaaDoorMkOps
namespace Go.Proofs.YtoeanaadlihkeaaDoor
open Go.ChangeShapes Go.WideShapes Go.ChangeAt Go.RowKit
set_option linter.unusedVariables false

/-- Both Builds of the same bytes answer alike. -/
theorem build_both (hM : MerkleOk) (hNo : BuildNo 14) (L : Nat) (d : Nat → Nat) (hL : L ≤ 2560) (hd : ∀ j, d j < 256) : ∃ (TL E : Nat) (T R : Nat → Nat), (∀ j, T j < 256) ∧ (∀ j, R j < 256) ∧ TL ≤ 2000000 ∧ (E = 0 ∨ E = 1) ∧
    (∀ a c w, Glob Hc Kc w → L ≤ c → Bytes w a L d → Calls Tryd.prog 14 #[.slice a L c] w fun e w' => ∃ a' c', e = .returned (.tuple #[.slice a' TL c', .agg (cellsN .u8 32 R), .int .i64 (E : Nat)]) ∧ (a' = none → TL = 0) ∧ Bytes w' a' TL T ∧ Below w.heap.size w w') ∧
    (∀ a c w, Glob Hc Kc w → L ≤ c → Bytes w a L d → Calls Tryd.prog 15 #[.slice a L c] w fun e w' => ∃ a' c', e = .returned (.tuple #[.slice a' TL c', .agg (cellsN .u8 32 R), .int .i64 (E : Nat)]) ∧ (a' = none → TL = 0) ∧ Bytes w' a' TL T ∧ Below w.heap.size w w') := by
  by_cases h : L % 64 = 0 ∧ 64 ≤ L ∧ L ≤ 131072
  · obtain ⟨n, rfl⟩ : ∃ n, L = 64 * n := ⟨L / 64, by omega⟩
    have ho := off_max n (dep n) (by omega) (by omega) (dep_11 n (by omega))
    refine ⟨64 * off n (dep n), 0, tree d n (dep n), root d n, tree_lt d n hd _, root_lt d n, by omega, .inl rfl, ?_, ?_⟩
    · intro a c w hG hc hb
      refine (hM.2.2.1 n d a c w hG (by omega) (by omega) hc hb hd).mono ?_
      rintro e w' ⟨a', c', rfl, h1, h2, h3, h4⟩
      exact ⟨a', c', rfl, fun e => (h2 e).1, h3, h4⟩
    · intro a c w hG hc hb
      refine (rbuild_any n d a c w hG (by omega) (by omega) hc hb hd).mono ?_
      rintro e w' ⟨a', c', rfl, h1, h2, h3, h4⟩
      exact ⟨a', c', rfl, fun e => (h2 e).1, h3, h4⟩
  · refine ⟨0, 1, fun _ => 0, fun _ => 0, fun _ => (by decide : 0 < 256), fun _ => (by decide : 0 < 256), by omega, .inr rfl, ?_, ?_⟩
    · intro a c w hG hc hb
      refine (hNo L d a c w hG hc hb hd (by unfold maxLen; omega) h).mono ?_
      rintro e w' ⟨a', c', rfl, h1, h2⟩
      exact ⟨a', c', rfl, fun _ => rfl, .inl rfl, h2⟩
    · intro a c w hG hc hb
      refine (rbuild_no L d a c w hG hc hb hd (by unfold maxLen; omega) h).mono ?_
      rintro e w' ⟨a', c', rfl, h1, h2⟩
      exact ⟨a', c', rfl, fun _ => rfl, .inl rfl, h2⟩

theorem one_of6 (w : World) (b : Nat) : Bytes (w.alloc (.cells #[.int .u8 (b : Nat)] 5)) (some ⟨w.heap.size, 0, none⟩) 1 (fun _ => b) :=
  .inr ⟨w.heap.size, 0, rfl, by simp, fun j hj => by obtain rfl : j = 0 := (by omega); exact (Has.new w 5 #[.int .u8 (b : Nat)]).cell 0⟩

/-- A row is loaded where a guard lets it. -/
theorem wpList_load_rowW {ops : Array Oper} {rest : List Oper} {o : Oper} {a : Act} {w : World} {Q : Exit → Act → World → Prop} (hw : Region.wanted o (yielded ops a.tmps) = true) (ty : TypeId) (x : Operand) (ho : o.op = .load ty x)
    (g : Nat) (hx : a.eval x = .pointer (some ⟨g, 0, none⟩)) (t : TypeId) (cs : Array Value) (fr : Nat × Nat) (len : Nat) (el : TypeId) (hg : w.heap[g]? = some (.cells cs t fr))
    (hu : Tryd.prog.underlying ty = some (.array len el)) (hi : (Tryd.prog.info? ty).map (·.size) = some cs.size)
    (h : wpList Tryd.prog ops Q rest (a.put o.dst (.agg cs)) w) : wpList Tryd.prog ops Q (o :: rest) a w := by
  unfold wpList
  rw [if_pos hw]
  exact .inl (wp_load_row ty x ho g hx t cs fr (.array len el) hg hu rfl hi h)

set_option maxRecDepth 100000 in
set_option maxHeartbeats 3200000 in
theorem trees_walk (hM : MerkleOk) (hNo : BuildNo 14) (d : Nat → Nat) (L c : Nat) (a : Option Addr) (w : World) (hG : Glob Hc Kc w) (hL : L ≤ maxLen) (hLc : L ≤ c) (hnil : a = none → L = 0 ∧ c = 0) (hb : Bytes w a L d) (hd : ∀ j, d j < 256) :
    Calls Tryd.prog 4 #[.slice a L c] w fun e w' => e = .returned (.bool true) ∧ Below w.heap.size w w' := by
  unfold maxLen at hL
  by_cases hbig : 2560 < L
  · have hbi : (2560 : Int) < L := by omega
    have k1 := live_any hM w hG
    go_enter Tryd.func4, Tryd.ntmps4
    go_wp2_with (first
      | ((go_at_call 13)
         (refine k1.mono ?_)
         (rintro e w1 ⟨rfl, hb1⟩)))
    go_ret
    exact ⟨rfl, hb1⟩
  obtain ⟨TL, E, T, R, hTl, hRl, hTLb, hE, kb, kr⟩ := build_both hM hNo L d (by omega) hd
  have KB : Hid _ := kb
  have KR : Hid _ := kr
  have KA : Hid _ := fun w hG => live_any hM w hG
  have hXe : ∀ w, (Op.equalIn 10000 28 (.agg (cellsN .u8 32 R)) (.agg (cellsN .u8 32 R))).run Tryd.prog w = .ok true w := fun w => eq_digest R w (fun j _ => hRl j)
  have own0 := World.ownsRow_lit (base := w.heap.size) (e := 5) (size := 1) w #[] 0 (Nat.le_refl _) (by unfold maxLen; omega) rfl
  have hbE : Below w.heap.size w (w.alloc (.cells #[] 5)) := (Below.refl _ _).alloc (Nat.le_refl _) _
  have hB0 := hb.below hbE (Nat.le_refl _)
  have hLi : (L : Int) ≤ 2560 := by omega
  clear kb kr
  go_enter Tryd.func4, Tryd.ntmps4
  go_wp2_with (first
    | ((at_builtin)
       (have _t := own0)
       (refine wpList_append_bytes rfl _ _ rfl w.heap.size _ 0 (fun _ => 0) rfl own0 a L c d rfl hnil hB0 (by omega) (by simp) ?_)
       (intro v1 w1 own1 gr1)
       (have hb1 : Below w.heap.size w w1 := hbE.grown gr1 (by simp) (fun k' h => (own0.lt k' h).1))
       (rw [Nat.zero_add, cat_zero] at own1)
       (have hbL : Below w1.heap.size w1 (w1.alloc (.cells #[.int .u8 ((77 : Nat) : Int)] 5)) := (Below.refl _ _).alloc (Nat.le_refl _) _)
       (have own1x := own_below own1 hbL (fun g hg => (own1.lt g hg).2))
       (have hb1x : Below w.heap.size w (w1.alloc (.cells #[.int .u8 ((77 : Nat) : Int)] 5)) := hb1.trans (hbL.mono hb1.size))
       (clear own0 _t gr1 hB0 hbE own1 hbL))
    | ((at_builtin)
       (refine wpList_append_bytes rfl _ _ rfl w.heap.size _ L d rfl own1x (some ⟨w1.heap.size, 0, none⟩) 1 1 (fun _ => 77) rfl (fun e => by cases e) (one_of6 w1 77) (by omega) hb1x.size ?_)
       (intro v2 w2 own2 gr2)
       (have hb2 : Below w.heap.size w w2 := hb1x.grown gr2 hb1x.size (fun k' h => (own1x.lt k' h).1))
       (obtain ⟨va, vc, rfl, hvc, hvn, hv2, _⟩ := own_bytes own2)
       (obtain ⟨g, go, rfl, hgl, hcell⟩ := hv2.resolve_left (by omega))
       (have hown2 : Bytes w2 (some ⟨g, go, none⟩) L d := .inr ⟨g, go, rfl, hgl, fun j hj => by rw [hcell j (by omega)]; unfold cat; rw [if_pos hj]⟩)
       (have hc77 : w2.cell? ⟨g, go + L, none⟩ = some (.int .u8 77) := (by rw [hcell L (by omega)]; unfold cat; rw [if_neg (by omega)]; rfl))
       (have kb := KB.out (some ⟨g, go, none⟩) vc w2 (hG.below hb2 hG.1) (by omega) hown2)
       (clear own1x gr2 hb1x hcell own2 hv2 hvn))
    | ((go_at_call 14)
       (refine kb.mono ?_)
       (rintro e w3 ⟨ta, tc, rfl, htn, ht3, hb3⟩)
       (have hB3 := hb2.trans (hb3.mono hb2.size))
       (have hown3 := hown2.below hb3 (Nat.le_refl _))
       (have hc773 := (hb3.cell (p := ⟨g, go + L, none⟩) hgl).trans hc77)
       (have hgl3 : g < w3.heap.size := Nat.lt_of_lt_of_le hgl hb3.size)
       (have hN3 : Has (w3.alloc (.cells (cellsN .u8 32 fun _ => 0) 28)) w3.heap.size 28 (cellsN .u8 32 fun _ => 0) := Has.new _ _ _)
       (clear kb hown2 hc77 hb3 hb2 hgl))
    | ((refine wpList_store_rowG rfl 28 _ _ rfl (w3.heap.size) (cellsN .u8 32 R) rfl rfl 28 _ hN3 (by rw [cellsN_size]; exact Tryd.size28) (by simp [cellsN_size]) (cellsN_one _ _ _) ?_)
       (intro w4 hw4)
       (have hR4 : Has w4 w3.heap.size 28 (cellsN .u8 32 R) := (by rw [hw4]; exact hN3.setRow _))
       (have hb4 : Below w3.heap.size w3 w4 := (by rw [hw4]; exact below_setRow ((Below.refl _ _).alloc (Nat.le_refl _) _) (Nat.le_refl _) _))
       (have hB4 := hB3.trans (hb4.mono hB3.size))
       (have hown4 := hown3.below hb4 (Nat.le_refl _))
       (have hc774 := (hb4.cell (p := ⟨g, go + L, none⟩) hgl3).trans hc773)
       (have hgl4 : g < w4.heap.size := Nat.lt_of_lt_of_le hgl3 hb4.size)
       (have ht4 := ht3.below hb4 (Nat.le_refl _))
       (have kr := KR.out a c w4 (hG.below hB4 hG.1) hLc (hb.below hB4 (Nat.le_refl _)))
       (clear hw4 hN3 hb4 hB3 hown3 hc773 ht3))
    | ((go_at_call 15)
       (refine kr.mono ?_)
       (rintro e w5 ⟨ua, uc, rfl, hun, hu5, hb5⟩)
       (have hB5 := hB4.trans (hb5.mono hB4.size))
       (have hown5 := hown4.below hb5 (Nat.le_refl _))
       (have hc775 := (hb5.cell (p := ⟨g, go + L, none⟩) hgl4).trans hc774)
       (have hgl5 : g < w5.heap.size := Nat.lt_of_lt_of_le hgl4 hb5.size)
       (have ht5 := ht4.below hb5 (Nat.le_refl _))
       (have hR5 := hR4.below hb5 hR4.lt)
       (have hN5 : Has (w5.alloc (.cells (cellsN .u8 32 fun _ => 0) 28)) w5.heap.size 28 (cellsN .u8 32 fun _ => 0) := Has.new _ _ _)
       (clear kr hown4 hc774 hb5 hB4 ht4 hR4))
    | ((refine wpList_store_rowG rfl 28 _ _ rfl (w5.heap.size) (cellsN .u8 32 R) rfl rfl 28 _ hN5 (by rw [cellsN_size]; exact Tryd.size28) (by simp [cellsN_size]) (cellsN_one _ _ _) ?_)
       (intro w6 hw6)
       (have hS6 : Has w6 w5.heap.size 28 (cellsN .u8 32 R) := (by rw [hw6]; exact hN5.setRow _))
       (have hb6 : Below w5.heap.size w5 w6 := (by rw [hw6]; exact below_setRow ((Below.refl _ _).alloc (Nat.le_refl _) _) (Nat.le_refl _) _))
       (have hB6 := hB5.trans (hb6.mono hB5.size))
       (have hown6 := hown5.below hb6 (Nat.le_refl _))
       (have hc776 := (hb6.cell (p := ⟨g, go + L, none⟩) hgl5).trans hc775)
       (have hgl6 : g < w6.heap.size := Nat.lt_of_lt_of_le hgl5 hb6.size)
       (have ht6 := ht5.below hb6 (Nat.le_refl _))
       (have hu6 := hu5.below hb6 (Nat.le_refl _))
       (have hR6 := hR5.below hb6 hR5.lt)
       (have s1 := same_true tc uc ht6 hu6 hTl htn hun)
       (have s2 := same_true vc c hown6 (hb.below hB6 (Nat.le_refl _)) hd (fun e => by cases e) (fun e => (hnil e).1))
       (have ka := KA.out w6 (hG.below hB6 hG.1))
       (clear hw6 hN5 hb6 hB5 hown5 hc775 ht5 hu5 hR5))
    | ((go_at_call 16)
       (refine s1.mono ?_)
       (clear s1)
       (rintro e w7 ⟨rfl, rfl⟩))
    | ((go_at_call 16)
       (refine s2.mono ?_)
       (clear s2)
       (rintro e w7 ⟨rfl, rfl⟩))
    | ((go_at_call 13)
       (refine ka.mono ?_)
       (rintro e w8 ⟨rfl, hb8⟩)
       (have hR8 := hR6.below hb8 hR6.lt)
       (have hS8 := hS6.below hb8 hS6.lt)
       (have hc778 := (hb8.cell (p := ⟨g, go + L, none⟩) hgl6).trans hc776)
       (have hB8 := hB6.trans (hb8.mono hB6.size))
       (clear ka hR6 hS6 hc776 hb8 hB6))
    | (refine wpList_load_rowW rfl 28 _ rfl (w3.heap.size) rfl 28 _ (0, 0) 32 5 hR8 Tryd.underlying28 (by rw [cellsN_size]; exact Tryd.size28) ?_)
    | (refine wpList_load_rowW rfl 28 _ rfl (w5.heap.size) rfl 28 _ (0, 0) 32 5 hS8 Tryd.underlying28 (by rw [cellsN_size]; exact Tryd.size28) ?_))
  go_ret
  exact ⟨rfl, hB8⟩
end Go.Proofs.YtoeanaadlihkeaaDoor
