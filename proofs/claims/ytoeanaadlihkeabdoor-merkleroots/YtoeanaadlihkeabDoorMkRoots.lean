/- MerkleRoots, walked. -/
import Derived.Test.YtoeanaadlihkeabDoorMkText
namespace Go.Proofs.YtoeanaadlihkeabDoor
open Go.ChangeShapes Go.WideShapes Go.ChangeAt Go.RowKit
set_option linter.unusedVariables false

theorem u8_xor6 (a b : Nat) (ha : a < 256) (hb : b < 256) : bits .xor .u8 (a : Int) (b : Int) = ((a ^^^ b : Nat) : Int) := u8_xor_nat a b ha hb

theorem own_at {w : World} {base n : Nat} {v : Value} {f : Nat → Nat} (h : w.ownsRow base 5 1 v n (bl f n)) (hn : 0 < n) : ∃ g c, v = .slice (some ⟨g, 0, none⟩) n c ∧ base ≤ g ∧ n ≤ c := by
  rcases h.2 with ⟨_, h0⟩ | ⟨g, cap, cur, rfl, hbg, hgg, hnc, _⟩
  · omega
  · exact ⟨g, cap, rfl, hbg, hnc⟩

theorem Bytes.setAt {w : World} {g len : Nat} {m : Nat → Nat} (h : Bytes w (some ⟨g, 0, none⟩) len m) (t v : Nat) (ht : t < len) : Bytes (w.setCell ⟨g, t, none⟩ (.int .u8 (v : Nat))) (some ⟨g, 0, none⟩) len (upd m t v) := by
  rcases h with h | ⟨b, o, e, hlt, hc⟩
  · omega
  · cases e
    refine .inr ⟨g, 0, rfl, by simpa [World.setCell] using hlt, fun j hj => ?_⟩
    rw [Nat.zero_add]
    have hj' := hc j hj
    rw [Nat.zero_add] at hj'
    unfold upd
    by_cases h0 : j = t
    · subst h0
      rw [if_pos rfl]
      exact World.cell?_setCell_same' _ _ _ (by rw [hj']; rfl)
    · rw [if_neg h0]
      exact (World.cell?_setCell_other w _ _ _ (by intro e; injection e with _ e2; exact h0 e2.symm)).trans hj'

/-- The program's digest of two texts that part. -/
theorem parts_roots (F F' : Nat → Nat) (n i : Nat) (hi : i < n) (h : ∀ q j, q ≠ i → j < 64 → sec F q j = sec F' q j) (X0 Y0 : Nat → Nat) (Q Q' : Nat → Nat → Nat)
    (hX : ∀ j, j < 64 → X0 j = sec F i j) (hY : ∀ j, j < 64 → Y0 j = sec F' i j) (hQ : ∀ k, k < dep n → ∀ j, j < 64 → Q k j = sec (tree F n (dep n)) (off n k + pl i (k + 1)) j) (hQ' : ∀ k, k < dep n → ∀ j, j < 64 → Q' k j = sec (tree F' n (dep n)) (off n k + pl i (k + 1)) j) :
    (∀ k, k ≤ dep n → (∀ j, j < 32 → up X0 Q k j = up Y0 Q' k j) → ∀ j, j < 32 → root F n j = root F' n j) ∧ up X0 Q (dep n) = root F n ∧ up Y0 Q' (dep n) = root F' n ∧ Stands i X0 Q (dep n) ∧ Stands i Y0 Q' (dep n) := by
  have hP : ∀ k, k < dep n → ∀ j, j < 64 → Q k j = sec (lvl F n (k + 1)) (pl i (k + 1)) j := fun k hk j hj => (hQ k hk j hj).trans (tree_sec F n (dep n) k i j hk hi hj)
  have hP' : ∀ k, k < dep n → ∀ j, j < 64 → Q' k j = sec (lvl F' n (k + 1)) (pl i (k + 1)) j := fun k hk j hj => (hQ' k hk j hj).trans (tree_sec F' n (dep n) k i j hk hi hj)
  refine ⟨fun k hk he => root_joins F F' n i k hi hk h (fun j hj => ?_), own_root F n i Q hi hP X0 hX, own_root F' n i Q' hi hP' Y0 hY, own_stands F n i Q (dep n) hi hP X0 hX, own_stands F' n i Q' (dep n) hi hP' Y0 hY⟩
  have e1 := own_up F n i Q (dep n) hP X0 hX k hk
  have e2 := own_up F' n i Q' (dep n) hP' Y0 hY k hk
  have e3 := he j hj
  rw [e1, e2] at e3
  exact e3

/-- A row is loaded where a guard lets it. -/
theorem wpList_load_rowW {ops : Array Oper} {rest : List Oper} {o : Oper} {a : Act} {w : World} {Q : Exit → Act → World → Prop} (hw : Region.wanted o (yielded ops a.tmps) = true) (ty : TypeId) (x : Operand) (ho : o.op = .load ty x)
    (g : Nat) (hx : a.eval x = .pointer (some ⟨g, 0, none⟩)) (t : TypeId) (cs : Array Value) (fr : Nat × Nat) (len : Nat) (el : TypeId) (hg : w.heap[g]? = some (.cells cs t fr))
    (hu : Tryd.prog.underlying ty = some (.array len el)) (hi : (Tryd.prog.info? ty).map (·.size) = some cs.size)
    (h : wpList Tryd.prog ops Q rest (a.put o.dst (.agg cs)) w) : wpList Tryd.prog ops Q (o :: rest) a w := by
  unfold wpList
  rw [if_pos hw]
  exact .inl (wp_load_row ty x ho g hx t cs fr (.array len el) hg hu rfl hi h)

set_option maxRecDepth 100000 in
set_option maxHeartbeats 3200000 in
theorem roots_walk (hM : MerkleOk) (d : Nat → Nat) (dL dc : Nat) (da : Option Addr) (at_ : Int) (b : Nat) (w : World) (hG : Glob Hc Kc w) (hdL : dL ≤ maxLen) (hdb : Bytes w da dL d) (hd : ∀ j, d j < 256) (hat : i64ok at_) (hb256 : b < 256) :
    Calls Tryd.prog 3 #[.slice da dL dc, .int .i64 at_, .int .u8 (b : Nat)] w fun e w' => e = .returned (.bool true) ∧ Below w.heap.size w w' := by
  have k1 := picked_any d dL dc da w hdL hdb
  have hn := pickN_in dL
  have hF := pickF_lt d dL hd
  generalize pickF d dL = F at *
  generalize pickN dL = n at *
  obtain ⟨M, hMe⟩ : ∃ M, M = 64 * n := ⟨_, rfl⟩
  have hD1 := dep_pos n
  have hD11 := dep_11 n (by omega)
  have hoff := off_max n (dep n) (by omega) (by omega) hD11
  have KA : Hid _ := fun w hG => live_any hM w hG
  obtain ⟨TL, hTL⟩ : ∃ TL, TL = 64 * off n (dep n) := ⟨_, rfl⟩
  have hTLp : 64 ≤ TL := by
    have a1 := off_mono n 1 (dep n) hD1
    have a2 := lv_pos n 1 (by omega)
    have a3 : off n 1 = 0 + lv n 1 := rfl
    omega
  obtain ⟨t, ht, ht1, ht2⟩ : ∃ t : Nat, t < M ∧ (at_ < 0 → (at_ + 1).tmod (M : Int) = -(t : Int)) ∧ (¬ at_ < 0 → at_.tmod (M : Int) = t ∧ at_ % (M : Int) = t) := by
    by_cases h : at_ < 0
    · have a1 := Int.emod_lt_of_pos (-(at_ + 1)) (show (0 : Int) < M by omega)
      have a2 := Int.emod_nonneg (-(at_ + 1)) (show (M : Int) ≠ 0 by omega)
      refine ⟨((-(at_ + 1)) % (M : Int)).toNat, by omega, fun _ => ?_, fun h' => absurd h h'⟩
      rw [Int.toNat_of_nonneg a2, ← Int.tmod_eq_emod_of_nonneg (by omega), Int.neg_tmod, Int.neg_neg]
    · have a1 := Int.emod_lt_of_pos at_ (show (0 : Int) < M by omega)
      have a2 := Int.emod_nonneg at_ (show (M : Int) ≠ 0 by omega)
      refine ⟨(at_ % (M : Int)).toNat, by omega, fun h' => absurd h' h, fun _ => ?_⟩
      rw [Int.toNat_of_nonneg a2, Int.tmod_eq_emod_of_nonneg (by omega)]
      exact ⟨rfl, rfl⟩
  obtain ⟨F', hF'e⟩ : ∃ F', F' = upd F t (F t ^^^ b) := ⟨_, rfl⟩
  have hxr := u8_xor6 (F t) b (hF t) hb256
  have hxl : F t ^^^ b < 256 := Nat.xor_lt_two_pow (n := 8) (hF t) hb256
  have hF' : ∀ j, F' j < 256 := fun j => by
    rw [hF'e]
    unfold upd
    split
    · exact hxl
    · exact hF j
  have hB := fun (G : Nat → Nat) (hG' : ∀ j, G j < 256) (g : Nat) c w hG (hc : 64 * n ≤ c) (hb : Bytes w (some ⟨g, 0, none⟩) (64 * n) G) => hM.2.2.1 n G (some ⟨g, 0, none⟩) c w hG (by omega) (by omega) hc hb hG'
  have HP : Hid _ := fun (G : Nat → Nat) (hG' : ∀ j, G j < 256) I (hI : I < n) tb to_ tc w hT htc => path_any hM n I hI (by omega) tb to_ tc (tree G n (dep n)) w hT htc (tree_lt G n hG' (dep n))
  obtain ⟨I, hI⟩ : ∃ I, I = t / 64 := ⟨_, rfl⟩
  have hIn : I < n := by omega
  have HO : Hid (∀ q j, q ≠ I → j < 64 → sec F q j = sec F' q j) := fun q j hq hj => by
    rw [hF'e, sec_at, sec_at]
    unfold upd
    rw [if_neg (by omega)]
  have HN0 : Hid (b ≠ 0 → ∃ j, j < 64 ∧ F (I * 64 + j) ≠ F' (I * 64 + j)) := fun hb0 => by
    refine ⟨t % 64, Nat.mod_lt _ (by decide), ?_⟩
    rw [show I * 64 + t % 64 = t from by omega, hF'e]
    unfold upd
    rw [if_pos rfl]
    intro e
    apply hb0
    have e2 : F t ^^^ (F t ^^^ b) = F t ^^^ F t := by rw [← e]
    rw [← Nat.xor_assoc, Nat.xor_self, Nat.zero_xor] at e2
    exact e2
  have HE0 : Hid (b = 0 → F' = F) := fun hb0 => by
    rw [hF'e, hb0, Nat.xor_zero]
    funext j
    unfold upd
    by_cases h : j = t
    · rw [if_pos h, h]
    · rw [if_neg h]
  have HSet : Hid (∀ w g, Bytes w (some ⟨g, 0, none⟩) M F → Bytes (w.setCell ⟨g, t, none⟩ (.int .u8 ((F t ^^^ b : Nat) : Int))) (some ⟨g, 0, none⟩) M F') := fun w g h => by rw [hF'e]; exact h.setAt t _ ht
  obtain ⟨y, hy⟩ : ∃ y, y = F t ^^^ b := ⟨_, rfl⟩
  obtain ⟨z, hz⟩ : ∃ z, z = F t := ⟨_, rfl⟩
  have HZ : Hid (z = F t) := hz
  rw [← hy] at HSet hxr hxl
  rw [← hz] at hxr
  have hzl : z < 256 := by rw [hz]; exact hF t
  rw [← hTL] at hB HP
  rw [← hMe] at hB k1
  have HB : Hid _ := hB
  have hMq : (M : Int) / 64 = (n : Int) := by omega
  have hMb : M ≤ 2560 := by omega
  have hti : (t : Int) / 64 = (I : Int) := by omega
  have htM : (t : Int) < M := by omega
  have hI64 : I * 64 + 64 ≤ M := by omega
  have hI3 : (I : Int) * 64 + 64 ≤ M := by omega
  have hI4 : ((I : Int) + 1) * 64 ≤ M := by omega
  have hIb : I ≤ 40 := by omega
  have HM : Hid (M = 64 * n) := hMe
  have KE : Hid (∀ f g : Nat → Nat, (∀ j, f j < 256) → (∀ j, g j < 256) → ∀ w, (Op.equalIn 10000 24 (.agg (cellsN .u8 32 f)) (.agg (cellsN .u8 32 g))).run Tryd.prog w = .ok (eqB f g) w) := fun f g hf hg w => eq_digests f g w (fun j _ => hf j) (fun j _ => hg j)
  have HRl : Hid ((∀ j, root F n j < 256) ∧ ∀ j, root F' n j < 256) := ⟨root_lt F n, root_lt F' n⟩
  have HPR : Hid _ := parts_roots F F' n I hIn HO.out
  clear hB hMe hTL hF'e hy hz hI
  obtain ⟨R, hR⟩ : ∃ R, R = root F n := ⟨_, rfl⟩
  obtain ⟨S, hS⟩ : ∃ S, S = root F' n := ⟨_, rfl⟩
  have HRS : Hid (R = root F n ∧ S = root F' n) := ⟨hR, hS⟩
  have HB1 : Hid (∀ g c w, Glob Hc Kc w → M ≤ c → Bytes w (some ⟨g, 0, none⟩) M F → Calls Tryd.prog 6 #[.slice (some ⟨g, 0, none⟩) M c] w fun e w' => ∃ a' c', e = .returned (.tuple #[.slice a' TL c', .agg (cellsN .u8 32 R), .int .i64 0]) ∧ TL ≤ c' ∧ (a' = none → TL = 0 ∧ c' = 0) ∧ Bytes w' a' TL (tree F n (dep n)) ∧ Below w.heap.size w w') := fun g c w hG hc hb => by rw [hR]; exact HB.out F hF g c w hG hc hb
  have HB2 : Hid (∀ g c w, Glob Hc Kc w → M ≤ c → Bytes w (some ⟨g, 0, none⟩) M F' → Calls Tryd.prog 6 #[.slice (some ⟨g, 0, none⟩) M c] w fun e w' => ∃ a' c', e = .returned (.tuple #[.slice a' TL c', .agg (cellsN .u8 32 S), .int .i64 0]) ∧ TL ≤ c' ∧ (a' = none → TL = 0 ∧ c' = 0) ∧ Bytes w' a' TL (tree F' n (dep n)) ∧ Below w.heap.size w w') := fun g c w hG hc hb => by rw [hS]; exact HB.out F' hF' g c w hG hc hb
  have hRl : ∀ j, R j < 256 := fun j => by rw [hR]; exact HRl.out.1 j
  have hSl : ∀ j, S j < 256 := fun j => by rw [hS]; exact HRl.out.2 j
  clear hR hS HB
  unfold i64ok at hat
  go_enter Tryd.func3, Tryd.ntmps3
  by_cases hneg : at_ < 0
  · have hte := ht1 hneg
    clear ht1 ht2
    by_cases hb0 : b = 0
    · have hbz : ((b : Int) == 0) = true := by simp [hb0]
      have hXe := KE.out R S hRl hSl
      have hRS : R = S := by rw [HRS.out.1, HRS.out.2, HE0.out hb0]
      have hXe2 : ∀ w, (Op.equalIn 10000 24 (.agg (cellsN .u8 32 R)) (.agg (cellsN .u8 32 S))).run Tryd.prog w = .ok true w := fun w => by
        rw [hXe w, hRS]
        congr 1
        exact (eqB_iff _ _).2 fun _ _ => rfl
      clear hXe hRS hb0
      go_wp2_with (first
        | ((go_at_call 5)
           (refine k1.mono ?_)
           (rintro e w1 ⟨rfl, hH1, hb1⟩)
           (have own0 := World.ownsRow_lit (base := w1.heap.size) (e := 5) (size := 1) w1 #[] 0 (Nat.le_refl _) (by unfold maxLen; omega) rfl)
           (have hbE : Below w1.heap.size w1 (w1.alloc (.cells #[] 5)) := (Below.refl _ _).alloc (Nat.le_refl _) _)
           (have hB0 := hH1.bytes.below hbE (Nat.le_refl _))
           (clear k1))
        | ((at_builtin)
           (have _t := own0)
           (refine wpList_append_bytes rfl _ _ rfl w1.heap.size _ 0 (fun _ => 0) rfl own0 (some ⟨w.heap.size, 0, none⟩) M M F rfl (fun e => by cases e) hB0 (by omega) (by simp) ?_)
           (intro v1 w2 own2 gr2)
           (have hb2 : Below w1.heap.size w1 w2 := hbE.grown gr2 (by simp) (fun k' h => (own0.lt k' h).1))
           (rw [Nat.zero_add, cat_zero] at own2)
           (obtain ⟨g2, c2, rfl, hg2, hc2⟩ := own_at own2 (by omega))
           (obtain ⟨_, _, e2, _, _, hby2, _⟩ := id (own_bytes own2))
           (cases e2)
           (have hcell2 : w2.cell? ⟨g2, t, none⟩ = some (.int .u8 (z : Nat)) := (by have h := own2.cellAt t (by omega); rw [h, HZ.out]; exact bl_get F M t ht))
           (have hfz2 := own2.frozenAt t)
           (have hH2 := hH1.below hb2 hH1.lt)
           (have hB2 := hb1.trans (hb2.mono hb1.size))
           (have hg2w : w.heap.size ≠ g2 := (by have := hH1.lt; omega))
           (have hH3 : Has (w2.setCell ⟨g2, t, none⟩ (.int .u8 ((y : Nat) : Int))) w.heap.size 5 (cellsN .u8 M F) := hH2.other (p := ⟨g2, t, none⟩) hg2w _)
           (have hby3 := HSet.out w2 g2 hby2)
           (have hB3 : Below w.heap.size w (w2.setCell ⟨g2, t, none⟩ (.int .u8 ((y : Nat) : Int))) := hB2.setCell (p := ⟨g2, t, none⟩) (by show w.heap.size ≤ g2; have := hH1.lt; omega) _)
           (have kb1 := HB1.out w.heap.size M _ (hG.below hB3 hG.1) (Nat.le_refl _) hH3.bytes)
           (clear own0 _t gr2 hB0 hbE hH1 hH2 hby2 hB2 own2 hb1 hb2))
        | ((go_at_call 6)
           (refine kb1.mono ?_)
           (clear kb1)
           (rintro e w4 ⟨ta, tc, rfl, htc, htn, hT4, hb4⟩)
           (obtain ⟨tb, to_, rfl, _, _⟩ := id (hT4.resolve_left (by omega)))
           (have hH4 := hH3.below hb4 hH3.lt)
           (have hby4 := hby3.below hb4 (Nat.le_refl _))
           (have hB4 := hB3.trans (hb4.mono hB3.size))
           (have hN4 : Has (w4.alloc (.cells (cellsN .u8 32 fun _ => 0) 24)) w4.heap.size 24 (cellsN .u8 32 fun _ => 0) := Has.new _ _ _)
           (clear hH3 hby3 hB3 hb4 hcell2 hfz2))
        | ((refine wpList_store_rowG rfl 24 _ _ rfl (w4.heap.size) (cellsN .u8 32 R) rfl rfl 24 _ hN4 (by rw [cellsN_size]; exact Tryd.size24) (by simp [cellsN_size]) (cellsN_one _ _ _) ?_)
           (intro w5 hw5)
           (have hR5 : Has w5 w4.heap.size 24 (cellsN .u8 32 R) := (by rw [hw5]; exact hN4.setRow _))
           (have hb5 : Below w4.heap.size w4 w5 := (by rw [hw5]; exact below_setRow ((Below.refl _ _).alloc (Nat.le_refl _) _) (Nat.le_refl _) _))
           (have hB5 := hB4.trans (hb5.mono hB4.size))
           (have hH5 := hH4.below hb5 hH4.lt)
           (have hby5 := hby4.below hb5 (Nat.le_refl _))
           (have hT5 := hT4.below hb5 (Nat.le_refl _))
           (have kb2 := HB2.out g2 c2 w5 (hG.below hB5 hG.1) hc2 hby5)
           (clear hw5 hN4 hb5 hB4 hH4 hby4 hT4))
        | ((go_at_call 6)
           (refine kb2.mono ?_)
           (clear kb2)
           (rintro e w6 ⟨ua, uc, rfl, huc, hun, hU6, hb6⟩)
           (obtain ⟨ub, uo, rfl, _, _⟩ := id (hU6.resolve_left (by omega)))
           (have hR6 := hR5.below hb6 hR5.lt)
           (have hH6 := hH5.below hb6 hH5.lt)
           (have hby6 := hby5.below hb6 (Nat.le_refl _))
           (have hT6 := hT5.below hb6 (Nat.le_refl _))
           (have hB6 := hB5.trans (hb6.mono hB5.size))
           (have hN6 : Has (w6.alloc (.cells (cellsN .u8 32 fun _ => 0) 24)) w6.heap.size 24 (cellsN .u8 32 fun _ => 0) := Has.new _ _ _)
           (clear hR5 hH5 hby5 hT5 hB5 hb6))
        | ((refine wpList_store_rowG rfl 24 _ _ rfl (w6.heap.size) (cellsN .u8 32 S) rfl rfl 24 _ hN6 (by rw [cellsN_size]; exact Tryd.size24) (by simp [cellsN_size]) (cellsN_one _ _ _) ?_)
           (intro w7 hw7)
           (have hS7 : Has w7 w6.heap.size 24 (cellsN .u8 32 S) := (by rw [hw7]; exact hN6.setRow _))
           (have hb7 : Below w6.heap.size w6 w7 := (by rw [hw7]; exact below_setRow ((Below.refl _ _).alloc (Nat.le_refl _) _) (Nat.le_refl _) _))
           (have hB7 := hB6.trans (hb7.mono hB6.size))
           (have hR7 := hR6.below hb7 hR6.lt)
           (have hH7 := hH6.below hb7 hH6.lt)
           (have hby7 := hby6.below hb7 (Nat.le_refl _))
           (have hT7 := hT6.below hb7 (Nat.le_refl _))
           (have hU7 := hU6.below hb7 (Nat.le_refl _))
           (clear hw7 hN6 hb7 hB6 hR6 hH6 hby6 hT6 hU6))
        | ((go_at_call 7)
           (refine (KA.out w7 (hG.below hB7 hG.1)).mono ?_)
           (rintro e w8 ⟨rfl, hb8⟩)
           (have hR8 := hR7.below hb8 hR7.lt)
           (have hS8 := hS7.below hb8 hS7.lt)
           (have hB8 := hB7.trans (hb8.mono hB7.size)))
        | (refine wpList_load_rowW rfl 24 _ rfl (w4.heap.size) rfl 24 _ (0, 0) 32 5 hR8 Tryd.underlying24 (by rw [cellsN_size]; exact Tryd.size24) ?_)
        | (refine wpList_load_rowW rfl 24 _ rfl (w6.heap.size) rfl 24 _ (0, 0) 32 5 hS8 Tryd.underlying24 (by rw [cellsN_size]; exact Tryd.size24) ?_))
      go_ret
      exact ⟨rfl, hB8⟩
    · have hbz : ((b : Int) == 0) = false := by simp; omega
      have HNE : Hid _ := HN0.out hb0
      have HSL : Hid ((I + 1) * 64 - I * 64 = 64) := (by omega : (I + 1) * 64 - I * 64 = 64)
      have hD0 : ((dep n : Int) == 0) = false := by simp; omega
      clear hb0
      go_wp2_with (first
        | ((go_at_call 5)
           (refine k1.mono ?_)
           (rintro e w1 ⟨rfl, hH1, hb1⟩)
           (have own0 := World.ownsRow_lit (base := w1.heap.size) (e := 5) (size := 1) w1 #[] 0 (Nat.le_refl _) (by unfold maxLen; omega) rfl)
           (have hbE : Below w1.heap.size w1 (w1.alloc (.cells #[] 5)) := (Below.refl _ _).alloc (Nat.le_refl _) _)
           (have hB0 := hH1.bytes.below hbE (Nat.le_refl _))
           (clear k1))
        | ((at_builtin)
           (have _t := own0)
           (refine wpList_append_bytes rfl _ _ rfl w1.heap.size _ 0 (fun _ => 0) rfl own0 (some ⟨w.heap.size, 0, none⟩) M M F rfl (fun e => by cases e) hB0 (by omega) (by simp) ?_)
           (intro v1 w2 own2 gr2)
           (have hb2 : Below w1.heap.size w1 w2 := hbE.grown gr2 (by simp) (fun k' h => (own0.lt k' h).1))
           (rw [Nat.zero_add, cat_zero] at own2)
           (obtain ⟨g2, c2, rfl, hg2, hc2⟩ := own_at own2 (by omega))
           (obtain ⟨_, _, e2, _, _, hby2, _⟩ := id (own_bytes own2))
           (cases e2)
           (have hcell2 : w2.cell? ⟨g2, t, none⟩ = some (.int .u8 (z : Nat)) := (by have h := own2.cellAt t (by omega); rw [h, HZ.out]; exact bl_get F M t ht))
           (have hfz2 := own2.frozenAt t)
           (have hH2 := hH1.below hb2 hH1.lt)
           (have hB2 := hb1.trans (hb2.mono hb1.size))
           (have hg2w : w.heap.size ≠ g2 := (by have := hH1.lt; omega))
           (have hH3 : Has (w2.setCell ⟨g2, t, none⟩ (.int .u8 ((y : Nat) : Int))) w.heap.size 5 (cellsN .u8 M F) := hH2.other (p := ⟨g2, t, none⟩) hg2w _)
           (have hby3 := HSet.out w2 g2 hby2)
           (have hB3 : Below w.heap.size w (w2.setCell ⟨g2, t, none⟩ (.int .u8 ((y : Nat) : Int))) := hB2.setCell (p := ⟨g2, t, none⟩) (by show w.heap.size ≤ g2; have := hH1.lt; omega) _)
           (have kb1 := HB1.out w.heap.size M _ (hG.below hB3 hG.1) (Nat.le_refl _) hH3.bytes)
           (clear own0 _t gr2 hB0 hbE hH1 hH2 hby2 hB2 own2 hb1 hb2))
        | ((go_at_call 6)
           (refine kb1.mono ?_)
           (clear kb1)
           (rintro e w4 ⟨ta, tc, rfl, htc, htn, hT4, hb4⟩)
           (obtain ⟨tb, to_, rfl, _, _⟩ := id (hT4.resolve_left (by omega)))
           (have hH4 := hH3.below hb4 hH3.lt)
           (have hby4 := hby3.below hb4 (Nat.le_refl _))
           (have hB4 := hB3.trans (hb4.mono hB3.size))
           (have hN4 : Has (w4.alloc (.cells (cellsN .u8 32 fun _ => 0) 24)) w4.heap.size 24 (cellsN .u8 32 fun _ => 0) := Has.new _ _ _)
           (clear hH3 hby3 hB3 hb4 hcell2 hfz2))
        | ((refine wpList_store_rowG rfl 24 _ _ rfl (w4.heap.size) (cellsN .u8 32 R) rfl rfl 24 _ hN4 (by rw [cellsN_size]; exact Tryd.size24) (by simp [cellsN_size]) (cellsN_one _ _ _) ?_)
           (intro w5 hw5)
           (have hR5 : Has w5 w4.heap.size 24 (cellsN .u8 32 R) := (by rw [hw5]; exact hN4.setRow _))
           (have hb5 : Below w4.heap.size w4 w5 := (by rw [hw5]; exact below_setRow ((Below.refl _ _).alloc (Nat.le_refl _) _) (Nat.le_refl _) _))
           (have hB5 := hB4.trans (hb5.mono hB4.size))
           (have hH5 := hH4.below hb5 hH4.lt)
           (have hby5 := hby4.below hb5 (Nat.le_refl _))
           (have hT5 := hT4.below hb5 (Nat.le_refl _))
           (have kb2 := HB2.out g2 c2 w5 (hG.below hB5 hG.1) hc2 hby5)
           (clear hw5 hN4 hb5 hB4 hH4 hby4 hT4))
        | ((go_at_call 6)
           (refine kb2.mono ?_)
           (clear kb2)
           (rintro e w6 ⟨ua, uc, rfl, huc, hun, hU6, hb6⟩)
           (obtain ⟨ub, uo, rfl, _, _⟩ := id (hU6.resolve_left (by omega)))
           (have hR6 := hR5.below hb6 hR5.lt)
           (have hH6 := hH5.below hb6 hH5.lt)
           (have hby6 := hby5.below hb6 (Nat.le_refl _))
           (have hT6 := hT5.below hb6 (Nat.le_refl _))
           (have hB6 := hB5.trans (hb6.mono hB5.size))
           (have hN6 : Has (w6.alloc (.cells (cellsN .u8 32 fun _ => 0) 24)) w6.heap.size 24 (cellsN .u8 32 fun _ => 0) := Has.new _ _ _)
           (clear hR5 hH5 hby5 hT5 hB5 hb6))
        | ((refine wpList_store_rowG rfl 24 _ _ rfl (w6.heap.size) (cellsN .u8 32 S) rfl rfl 24 _ hN6 (by rw [cellsN_size]; exact Tryd.size24) (by simp [cellsN_size]) (cellsN_one _ _ _) ?_)
           (intro w7 hw7)
           (have hS7 : Has w7 w6.heap.size 24 (cellsN .u8 32 S) := (by rw [hw7]; exact hN6.setRow _))
           (have hb7 : Below w6.heap.size w6 w7 := (by rw [hw7]; exact below_setRow ((Below.refl _ _).alloc (Nat.le_refl _) _) (Nat.le_refl _) _))
           (have hB7 := hB6.trans (hb7.mono hB6.size))
           (have hR7 := hR6.below hb7 hR6.lt)
           (have hH7 := hH6.below hb7 hH6.lt)
           (have hby7 := hby6.below hb7 (Nat.le_refl _))
           (have hT7 := hT6.below hb7 (Nat.le_refl _))
           (have hU7 := hU6.below hb7 (Nat.le_refl _))
           (clear hw7 hN6 hb7 hB6 hR6 hH6 hby6 hT6 hU6))
        | ((at_builtin)
           (have hs7 : Bytes w7 (some ⟨w.heap.size, I * 64, none⟩) 64 (fun j => F (I * 64 + j)) := (by have h := hH7.bytes.part (I * 64) 64 (by omega); rw [Nat.zero_add] at h; exact h))
           (obtain ⟨ga, ca, w8, hra, hca, hta, hb8⟩ := text_own w7 0 _ _ (M - I * 64) hs7)
           (refine wpList_append_at rfl _ _ _ _ rfl (.slice (some ⟨w7.heap.size, 0, none⟩) 1 1) (.slice (some ⟨w.heap.size, I * 64, none⟩) 64 (M - I * 64)) rfl (congrArg (fun z => Value.slice (some ⟨w.heap.size, I * 64, none⟩) z (M - I * 64)) HSL.out) _ hra ?_)
           (have hB8 := hB7.trans (hb8.mono hB7.size))
           (have hR8 := hR7.below hb8 hR7.lt)
           (have hS8 := hS7.below hb8 hS7.lt)
           (have hby8 := hby7.below hb8 (Nat.le_refl _))
           (have hT8 := hT7.below hb8 (Nat.le_refl _))
           (have hU8 := hU7.below hb8 (Nat.le_refl _))
           (clear hH7 hra hs7 hB7 hR7 hS7 hby7 hT7 hU7 hb8))
        | ((at_builtin)
           (have hs8 : Bytes w8 (some ⟨g2, I * 64, none⟩) 64 (fun j => F' (I * 64 + j)) := (by have h := hby8.part (I * 64) 64 (by omega); rw [Nat.zero_add] at h; exact h))
           (obtain ⟨gb, cb, w9, hrb, hcb, htb, hb9⟩ := text_own w8 0 _ _ (c2 - I * 64) hs8)
           (refine wpList_append_at rfl _ _ _ _ rfl (.slice (some ⟨w8.heap.size, 0, none⟩) 1 1) (.slice (some ⟨g2, I * 64, none⟩) 64 (c2 - I * 64)) rfl (congrArg (fun z => Value.slice (some ⟨g2, I * 64, none⟩) z (c2 - I * 64)) HSL.out) _ hrb ?_)
           (have hB9 := hB8.trans (hb9.mono hB8.size))
           (have hR9 := hR8.below hb9 hR8.lt)
           (have hS9 := hS8.below hb9 hS8.lt)
           (have hta9 := hta.below hb9 (Nat.le_refl _))
           (have hT9 := hT8.below hb9 (Nat.le_refl _))
           (have hU9 := hU8.below hb9 (Nat.le_refl _))
           (have kp := HP.out F hF I hIn tb to_ tc w9 hT9 htc)
           (clear hby8 hrb hs8 hB8 hR8 hS8 hta hT8 hU8 hb9))
        | ((go_at_call 8)
           (refine kp.mono ?_)
           (clear kp)
           (rintro e w10 ⟨oa, oc, rfl, hoc, hoa, hPa, hb10⟩)
           (have hB10 := hB9.trans (hb10.mono hB9.size))
           (have hR10 := hR9.below hb10 hR9.lt)
           (have hS10 := hS9.below hb10 hS9.lt)
           (have hta10 := hta9.below hb10 (Nat.le_refl _))
           (have htb10 := htb.below hb10 (Nat.le_refl _))
           (have hU10 := hU9.below hb10 (Nat.le_refl _))
           (have kq := HP.out F' hF' I hIn ub uo uc w10 hU10 huc)
           (clear hB9 hR9 hS9 hta9 htb hT9 hU9 hb10))
        | ((go_at_call 8)
           (refine kq.mono ?_)
           (clear kq)
           (rintro e w11 ⟨qa, qc, rfl, hqc, hqa, hPb, hb11⟩)
           (have hB11 := hB10.trans (hb11.mono hB10.size))
           (have hR11 := hR10.below hb11 hR10.lt)
           (have hS11 := hS10.below hb11 hS10.lt)
           (have hta11 := hta10.below hb11 (Nat.le_refl _))
           (have htb11 := htb10.below hb11 (Nat.le_refl _))
           (have hPa11 := Pieces.below hPa hb11)
           (clear hB10 hR10 hS10 hta10 htb10 hU10 hb11 hPa)))
      obtain ⟨Q, hQ⟩ : ∃ Q : Nat → Nat → Nat, Q = fun k => sec (tree F n (dep n)) (off n k + pl I (k + 1)) := ⟨_, rfl⟩
      obtain ⟨Q', hQ'⟩ : ∃ Q' : Nat → Nat → Nat, Q' = fun k => sec (tree F' n (dep n)) (off n k + pl I (k + 1)) := ⟨_, rfl⟩
      have hPP := HPR.out (fun j => F (I * 64 + j)) (fun j => F' (I * 64 + j)) Q Q' (fun j _ => by show F (I * 64 + j) = F (64 * I + j); rw [Nat.mul_comm]) (fun j _ => by show F' (I * 64 + j) = F' (64 * I + j); rw [Nat.mul_comm]) (fun k _ j _ => by rw [hQ]) (fun k _ j _ => by rw [hQ'])
      rw [← HRS.out.1, ← HRS.out.2] at hPP
      have HPP : Hid _ := hPP
      have HQ : Hid (∀ k j, Q k j < 256) := fun k j => by rw [hQ]; exact tree_lt F n hF (dep n) _
      have HQ' : Hid (∀ k j, Q' k j < 256) := fun k j => by rw [hQ']; exact tree_lt F' n hF' (dep n) _
      have HXl : Hid (∀ j, (fun j => F (I * 64 + j)) j < 256) := fun j => hF _
      have HYl : Hid (∀ j, (fun j => F' (I * 64 + j)) j < 256) := fun j => hF' _
      have HNE2 : Hid (∃ j, j < 64 ∧ (fun j => F (I * 64 + j)) j ≠ (fun j => F' (I * 64 + j)) j) := HNE.out
      rw [← hQ] at hPa11
      rw [← hQ'] at hPb
      clear hQ hQ' hPP HNE
      generalize (fun j => F (I * 64 + j)) = X0 at *
      generalize (fun j => F' (I * 64 + j)) = Y0 at *
      obtain ⟨ob, oo, rfl⟩ : ∃ ob oo, oa = some ⟨ob, oo, none⟩ := by
        obtain ⟨⟨b, o, e, _⟩, _⟩ := hPa11 0 (by omega)
        exact ⟨b, o, e⟩
      obtain ⟨qb, qo, rfl⟩ : ∃ qb qo, qa = some ⟨qb, qo, none⟩ := by
        obtain ⟨⟨b, o, e, _⟩, _⟩ := hPb 0 (by omega)
        exact ⟨b, o, e⟩
      have HA : Hid _ := hPa11
      have HBq : Hid _ := hPb
      obtain ⟨D, hD⟩ : ∃ D, D = dep n := ⟨_, rfl⟩
      rw [← hD] at HA HBq HPP hD1 hD11 hD0 ⊢
      clear hD hPa11 hPb
      go_loopw [17, 18, 21] (fun av bv kv wr => ∃ k : Nat, kv = .int .i64 (k : Nat) ∧ Below w11.heap.size w11 wr ∧ ((k ≤ D ∧ ∃ (g1 c1 g2 c2 : Nat), av = .slice (some ⟨g1, 0, none⟩) 65 c1 ∧ bv = .slice (some ⟨g2, 0, none⟩) 65 c2 ∧ 65 ≤ c1 ∧ 65 ≤ c2 ∧
          Bytes wr (some ⟨g1, 0, none⟩) 65 (cat (fun _ => kd k) 1 (txt X0 Q k)) ∧ Bytes wr (some ⟨g2, 0, none⟩) 65 (cat (fun _ => kd k) 1 (txt Y0 Q' k)) ∧ ∃ j, j < 64 ∧ txt X0 Q k j ≠ txt Y0 Q' k j) ∨ (k = D + 1 ∧ ∃ j, j < 32 ∧ R j ≠ S j)))
        (fun _ _ kv _ => D + 2 - (intOf kv).toNat)
      case atStart => exact ⟨0, rfl, Below.refl _ _, .inl ⟨Nat.zero_le _, ga, ca, gb, cb, rfl, rfl, hca, hcb, hta11, htb11, HNE2.out⟩⟩
      case round =>
        clear hta11 htb11 HNE2
        obtain ⟨k, rfl, hbel, hrel⟩ := hrel
        have hBr := hB11.trans (hbel.mono hB11.size)
        have hGr := hG.below hBr hG.1
        have hRr := hR11.below hbel hR11.lt
        have hSr := hS11.below hbel hS11.lt
        have hXRS := KE.out R S hRl hSl
        rcases hrel with ⟨hk, g1, c1, g3, c3, rfl, rfl, hc1, hc3, hA, hBb, hne⟩ | ⟨hkD, hrs⟩
        · have hXk : ∀ j, txt X0 Q k j < 256 := by
            cases k with
            | zero => exact HXl.out
            | succ k => exact HQ.out k
          have hYk : ∀ j, txt Y0 Q' k j < 256 := by
            cases k with
            | zero => exact HYl.out
            | succ k => exact HQ'.out k
          have v1 := conv_bytesN c1 hA (cat_lt _ _ _ (fun _ => kd_lt k) hXk) (fun e => by cases e)
          have v2 := conv_bytesN c3 hBb (cat_lt _ _ _ (fun _ => kd_lt k) hYk) (fun e => by cases e)
          have hstr : strN (cat (fun _ => kd k) 1 (txt X0 Q k)) 65 ≠ strN (cat (fun _ => kd k) 1 (txt Y0 Q' k)) 65 := by
            intro h
            obtain ⟨j, hj, hj2⟩ := hne
            have := ((strN_eq (cat_lt _ _ _ (fun _ => kd_lt k) hXk) (cat_lt _ _ _ (fun _ => kd_lt k) hYk)).1 h).2 (1 + j) (by omega)
            unfold cat at this
            rw [if_neg (by omega), if_neg (by omega), show 1 + j - 1 = j from by omega] at this
            exact hj2 this
          generalize strN (cat (fun _ => kd k) 1 (txt X0 Q k)) 65 = sa at v1 hstr
          generalize strN (cat (fun _ => kd k) 1 (txt Y0 Q' k)) 65 = sb at v2 hstr
          have hsb : (sa == sb) = false := by simpa using hstr
          have h1 := sum_text (kd k) (txt X0 Q k) _ c1 wr hGr (kd_lt k) hXk hA hc1
          have H2 : Hid (∀ wz, Below wr.heap.size wr wz → Calls Tryd.prog 9 #[.slice (some ⟨g3, 0, none⟩) (65 : Nat) c3] wz fun e w' => e = .returned (.agg (cellsN .u8 32 (hsh (kd k) (txt Y0 Q' k)))) ∧ Below wz.heap.size wz w') := fun wz hb => sum_text (kd k) (txt Y0 Q' k) _ c3 wz (hGr.below hb hGr.1) (kd_lt k) hYk (hBb.below hb (Nat.le_refl _)) hc3
          rw [← up_txt] at h1 H2
          have hU : ∀ j, up X0 Q k j < 256 := fun j => up_lt _ _ _ _
          have hV : ∀ j, up Y0 Q' k j < 256 := fun j => up_lt _ _ _ _
          have hXe := KE.out (up X0 Q k) (up Y0 Q' k) hU hV
          have hki : (k : Int) ≤ D := by omega
          by_cases heq : eqB (up X0 Q k) (up Y0 Q' k) = true
          · rw [heq] at hXe
            have hrt : eqB R S = true := (eqB_iff _ _).2 (HPP.out.1 k hk ((eqB_iff _ _).1 heq))
            rw [hrt] at hXRS
            clear heq hrt hne hstr hA hBb
            generalize up X0 Q k = U at *
            generalize up Y0 Q' k = V at *
            go_wp2_with (first
              | ((go_at_call 9)
                 (refine h1.mono ?_)
                 (clear h1)
                 (rintro e wa ⟨rfl, hba⟩)
                 (have h2 := H2.out wa hba))
              | ((go_at_call 9)
                 (refine h2.mono ?_)
                 (clear h2)
                 (rintro e wb ⟨rfl, hbb⟩)
                 (have hbw : Below wr.heap.size wr wb := hba.trans (hbb.mono hba.size))
                 (have hBw := hBr.trans (hbw.mono hBr.size))
                 (have hRb := hRr.below hbw hRr.lt)
                 (have hSb := hSr.below hbw hSr.lt)
                 (have ka := KA.out wb (hG.below hBw hG.1)))
              | ((go_at_call 7)
                 (refine ka.mono ?_)
                 (rintro e wc ⟨rfl, hbc⟩)
                 (have hRc := hRb.below hbc hRb.lt)
                 (have hSc := hSb.below hbc hSb.lt)
                 (have hBc := hBw.trans (hbc.mono hBw.size)))
              | (refine wpList_load_rowW rfl 24 _ rfl (w4.heap.size) rfl 24 _ (0, 0) 32 5 hRc Tryd.underlying24 (by rw [cellsN_size]; exact Tryd.size24) ?_)
              | (refine wpList_load_rowW rfl 24 _ rfl (w6.heap.size) rfl 24 _ (0, 0) 32 5 hSc Tryd.underlying24 (by rw [cellsN_size]; exact Tryd.size24) ?_))
            go_ret
            exact ⟨rfl, hBc⟩
          · have hef : eqB (up X0 Q k) (up Y0 Q' k) = false := by simpa using heq
            have hud : ∃ j, j < 32 ∧ up X0 Q k j ≠ up Y0 Q' k j := Classical.byContradiction fun hcon => heq ((eqB_iff _ _).2 fun j hj => Classical.byContradiction fun h => hcon ⟨j, hj, h⟩)
            rw [hef] at hXe
            by_cases hlt : k < D
            · have HN2 : Hid (∃ j, j < 64 ∧ Q k j ≠ Q' k j) := parts_up I k X0 Y0 Q Q' (stands_less HPP.out.2.2.2.1 hlt) (stands_less HPP.out.2.2.2.2 hlt) hud
              obtain ⟨⟨b1, o1, e1, hb1l, hcell1⟩, _, _, hq1, _⟩ := HA.out k hlt
              cases e1
              obtain ⟨⟨b2, o2, e2, hb2l, hcell2⟩, _, _, hq2, _⟩ := HBq.out k hlt
              cases e2
              have hlti : (k : Int) < D := by omega
              have HK : Hid (k < D) := hlt
              generalize up X0 Q k = U at *
              generalize up Y0 Q' k = V at *
              clear hne hstr hA hBb heq hud hef hlt hXRS hRr hSr
              go_wp2_with (first
                | ((go_at_call 9)
                   (refine h1.mono ?_)
                   (clear h1)
                   (rintro e wa ⟨rfl, hba⟩)
                   (have h2 := H2.out wa hba))
                | ((go_at_call 9)
                   (refine h2.mono ?_)
                   (clear h2)
                   (rintro e wb ⟨rfl, hbb⟩)
                   (have hbel2 : Below w11.heap.size w11 wb := hbel.trans ((hba.trans (hbb.mono hba.size)).mono hbel.size))
                   (have cl1 := ((hbel2.alloc hbel2.size (.cells #[.int .u8 1] 5)).cell (p := ⟨ob, oo + k, none⟩) hb1l).trans hcell1)
                   (obtain ⟨ga2, ca2, wc, hra, hca2, hta2, hbc⟩ := text_own wb 1 (Q k) _ (tc - (off n k + pl I (k + 1)) * 64) (hq1.below hbel2 (Nat.le_refl _)))
                   (have hbel3 := hbel2.trans (hbc.mono hbel2.size))
                   (have cl2 := ((hbel3.alloc hbel3.size (.cells #[.int .u8 1] 5)).cell (p := ⟨qb, qo + k, none⟩) hb2l).trans hcell2)
                   (obtain ⟨gb2, cb2, wd2, hrb, hcb2, htb2, hbd2⟩ := text_own wc 1 (Q' k) _ (uc - (off n k + pl I (k + 1)) * 64) (hq2.below hbel3 (Nat.le_refl _)))
                   (have hbel4 := hbel3.trans (hbd2.mono hbel3.size))
                   (have hta3 := hta2.below hbd2 (Nat.le_refl _))
                   (clear hcell1 hcell2 hbel hba hbb H2 hq1 hq2))
                | ((at_builtin)
                   (refine wpList_append_at rfl _ _ _ _ rfl _ _ rfl rfl _ hra ?_)
                   (clear hra))
                | ((at_builtin)
                   (refine wpList_append_at rfl _ _ _ _ rfl _ _ rfl rfl _ hrb ?_)
                   (clear hrb)))
              go_roundw
              case rel => exact ⟨k + 1, rfl, hbel4, .inl ⟨HK.out, ga2, ca2, gb2, cb2, rfl, rfl, hca2, hcb2, hta3, htb2, HN2.out⟩⟩
              case measure => have := HK.out; simp [intOf]; omega
            · obtain rfl : k = D := by omega
              rw [HPP.out.2.1, HPP.out.2.2.1] at hud
              have HU : Hid _ := hud
              generalize up X0 Q k = U at *
              generalize up Y0 Q' k = V at *
              clear hne hstr hA hBb heq hud hef hlt hXRS hRr hSr
              go_wp2_with (first
                | ((go_at_call 9)
                   (refine h1.mono ?_)
                   (clear h1)
                   (rintro e wa ⟨rfl, hba⟩)
                   (have h2 := H2.out wa hba))
                | ((go_at_call 9)
                   (refine h2.mono ?_)
                   (clear h2)
                   (rintro e wb ⟨rfl, hbb⟩)
                   (have hbel2 : Below w11.heap.size w11 wb := hbel.trans ((hba.trans (hbb.mono hba.size)).mono hbel.size))))
              go_roundw
              case rel => exact ⟨k + 1, rfl, hbel2, .inr ⟨rfl, HU.out⟩⟩
              case measure => simp [intOf]
        · have hef : eqB R S = false := by
            cases h : eqB R S with
            | false => rfl
            | true =>
              obtain ⟨j, hj, hj2⟩ := hrs
              exact absurd ((eqB_iff _ _).1 h j hj) hj2
          rw [hef] at hXRS
          have hki : ¬ ((k : Int) ≤ D) := by omega
          have ka := KA.out wr hGr
          clear hrs hef
          go_wp2_with (first
            | ((go_at_call 7)
               (refine ka.mono ?_)
               (rintro e wc ⟨rfl, hbc⟩)
               (have hRc := hRr.below hbc hRr.lt)
               (have hSc := hSr.below hbc hSr.lt)
               (have hBc := hBr.trans (hbc.mono hBr.size)))
            | (refine wpList_load_rowW rfl 24 _ rfl (w4.heap.size) rfl 24 _ (0, 0) 32 5 hRc Tryd.underlying24 (by rw [cellsN_size]; exact Tryd.size24) ?_)
            | (refine wpList_load_rowW rfl 24 _ rfl (w6.heap.size) rfl 24 _ (0, 0) 32 5 hSc Tryd.underlying24 (by rw [cellsN_size]; exact Tryd.size24) ?_))
          go_ret
          exact ⟨rfl, hBc⟩
  · have hte := (ht2 hneg).1
    have hte2 := (ht2 hneg).2
    clear ht1 ht2
    by_cases hb0 : b = 0
    · have hbz : ((b : Int) == 0) = true := by simp [hb0]
      have hXe := KE.out R S hRl hSl
      have hRS : R = S := by rw [HRS.out.1, HRS.out.2, HE0.out hb0]
      have hXe2 : ∀ w, (Op.equalIn 10000 24 (.agg (cellsN .u8 32 R)) (.agg (cellsN .u8 32 S))).run Tryd.prog w = .ok true w := fun w => by
        rw [hXe w, hRS]
        congr 1
        exact (eqB_iff _ _).2 fun _ _ => rfl
      clear hXe hRS hb0
      go_wp2_with (first
        | ((go_at_call 5)
           (refine k1.mono ?_)
           (rintro e w1 ⟨rfl, hH1, hb1⟩)
           (have own0 := World.ownsRow_lit (base := w1.heap.size) (e := 5) (size := 1) w1 #[] 0 (Nat.le_refl _) (by unfold maxLen; omega) rfl)
           (have hbE : Below w1.heap.size w1 (w1.alloc (.cells #[] 5)) := (Below.refl _ _).alloc (Nat.le_refl _) _)
           (have hB0 := hH1.bytes.below hbE (Nat.le_refl _))
           (clear k1))
        | ((at_builtin)
           (have _t := own0)
           (refine wpList_append_bytes rfl _ _ rfl w1.heap.size _ 0 (fun _ => 0) rfl own0 (some ⟨w.heap.size, 0, none⟩) M M F rfl (fun e => by cases e) hB0 (by omega) (by simp) ?_)
           (intro v1 w2 own2 gr2)
           (have hb2 : Below w1.heap.size w1 w2 := hbE.grown gr2 (by simp) (fun k' h => (own0.lt k' h).1))
           (rw [Nat.zero_add, cat_zero] at own2)
           (obtain ⟨g2, c2, rfl, hg2, hc2⟩ := own_at own2 (by omega))
           (obtain ⟨_, _, e2, _, _, hby2, _⟩ := id (own_bytes own2))
           (cases e2)
           (have hcell2 : w2.cell? ⟨g2, t, none⟩ = some (.int .u8 (z : Nat)) := (by have h := own2.cellAt t (by omega); rw [h, HZ.out]; exact bl_get F M t ht))
           (have hfz2 := own2.frozenAt t)
           (have hH2 := hH1.below hb2 hH1.lt)
           (have hB2 := hb1.trans (hb2.mono hb1.size))
           (have hg2w : w.heap.size ≠ g2 := (by have := hH1.lt; omega))
           (have hH3 : Has (w2.setCell ⟨g2, t, none⟩ (.int .u8 ((y : Nat) : Int))) w.heap.size 5 (cellsN .u8 M F) := hH2.other (p := ⟨g2, t, none⟩) hg2w _)
           (have hby3 := HSet.out w2 g2 hby2)
           (have hB3 : Below w.heap.size w (w2.setCell ⟨g2, t, none⟩ (.int .u8 ((y : Nat) : Int))) := hB2.setCell (p := ⟨g2, t, none⟩) (by show w.heap.size ≤ g2; have := hH1.lt; omega) _)
           (have kb1 := HB1.out w.heap.size M _ (hG.below hB3 hG.1) (Nat.le_refl _) hH3.bytes)
           (clear own0 _t gr2 hB0 hbE hH1 hH2 hby2 hB2 own2 hb1 hb2))
        | ((go_at_call 6)
           (refine kb1.mono ?_)
           (clear kb1)
           (rintro e w4 ⟨ta, tc, rfl, htc, htn, hT4, hb4⟩)
           (obtain ⟨tb, to_, rfl, _, _⟩ := id (hT4.resolve_left (by omega)))
           (have hH4 := hH3.below hb4 hH3.lt)
           (have hby4 := hby3.below hb4 (Nat.le_refl _))
           (have hB4 := hB3.trans (hb4.mono hB3.size))
           (have hN4 : Has (w4.alloc (.cells (cellsN .u8 32 fun _ => 0) 24)) w4.heap.size 24 (cellsN .u8 32 fun _ => 0) := Has.new _ _ _)
           (clear hH3 hby3 hB3 hb4 hcell2 hfz2))
        | ((refine wpList_store_rowG rfl 24 _ _ rfl (w4.heap.size) (cellsN .u8 32 R) rfl rfl 24 _ hN4 (by rw [cellsN_size]; exact Tryd.size24) (by simp [cellsN_size]) (cellsN_one _ _ _) ?_)
           (intro w5 hw5)
           (have hR5 : Has w5 w4.heap.size 24 (cellsN .u8 32 R) := (by rw [hw5]; exact hN4.setRow _))
           (have hb5 : Below w4.heap.size w4 w5 := (by rw [hw5]; exact below_setRow ((Below.refl _ _).alloc (Nat.le_refl _) _) (Nat.le_refl _) _))
           (have hB5 := hB4.trans (hb5.mono hB4.size))
           (have hH5 := hH4.below hb5 hH4.lt)
           (have hby5 := hby4.below hb5 (Nat.le_refl _))
           (have hT5 := hT4.below hb5 (Nat.le_refl _))
           (have kb2 := HB2.out g2 c2 w5 (hG.below hB5 hG.1) hc2 hby5)
           (clear hw5 hN4 hb5 hB4 hH4 hby4 hT4))
        | ((go_at_call 6)
           (refine kb2.mono ?_)
           (clear kb2)
           (rintro e w6 ⟨ua, uc, rfl, huc, hun, hU6, hb6⟩)
           (obtain ⟨ub, uo, rfl, _, _⟩ := id (hU6.resolve_left (by omega)))
           (have hR6 := hR5.below hb6 hR5.lt)
           (have hH6 := hH5.below hb6 hH5.lt)
           (have hby6 := hby5.below hb6 (Nat.le_refl _))
           (have hT6 := hT5.below hb6 (Nat.le_refl _))
           (have hB6 := hB5.trans (hb6.mono hB5.size))
           (have hN6 : Has (w6.alloc (.cells (cellsN .u8 32 fun _ => 0) 24)) w6.heap.size 24 (cellsN .u8 32 fun _ => 0) := Has.new _ _ _)
           (clear hR5 hH5 hby5 hT5 hB5 hb6))
        | ((refine wpList_store_rowG rfl 24 _ _ rfl (w6.heap.size) (cellsN .u8 32 S) rfl rfl 24 _ hN6 (by rw [cellsN_size]; exact Tryd.size24) (by simp [cellsN_size]) (cellsN_one _ _ _) ?_)
           (intro w7 hw7)
           (have hS7 : Has w7 w6.heap.size 24 (cellsN .u8 32 S) := (by rw [hw7]; exact hN6.setRow _))
           (have hb7 : Below w6.heap.size w6 w7 := (by rw [hw7]; exact below_setRow ((Below.refl _ _).alloc (Nat.le_refl _) _) (Nat.le_refl _) _))
           (have hB7 := hB6.trans (hb7.mono hB6.size))
           (have hR7 := hR6.below hb7 hR6.lt)
           (have hH7 := hH6.below hb7 hH6.lt)
           (have hby7 := hby6.below hb7 (Nat.le_refl _))
           (have hT7 := hT6.below hb7 (Nat.le_refl _))
           (have hU7 := hU6.below hb7 (Nat.le_refl _))
           (clear hw7 hN6 hb7 hB6 hR6 hH6 hby6 hT6 hU6))
        | ((go_at_call 7)
           (refine (KA.out w7 (hG.below hB7 hG.1)).mono ?_)
           (rintro e w8 ⟨rfl, hb8⟩)
           (have hR8 := hR7.below hb8 hR7.lt)
           (have hS8 := hS7.below hb8 hS7.lt)
           (have hB8 := hB7.trans (hb8.mono hB7.size)))
        | (refine wpList_load_rowW rfl 24 _ rfl (w4.heap.size) rfl 24 _ (0, 0) 32 5 hR8 Tryd.underlying24 (by rw [cellsN_size]; exact Tryd.size24) ?_)
        | (refine wpList_load_rowW rfl 24 _ rfl (w6.heap.size) rfl 24 _ (0, 0) 32 5 hS8 Tryd.underlying24 (by rw [cellsN_size]; exact Tryd.size24) ?_))
      go_ret
      exact ⟨rfl, hB8⟩
    · have hbz : ((b : Int) == 0) = false := by simp; omega
      have HNE : Hid _ := HN0.out hb0
      have HSL : Hid ((I + 1) * 64 - I * 64 = 64) := (by omega : (I + 1) * 64 - I * 64 = 64)
      have hD0 : ((dep n : Int) == 0) = false := by simp; omega
      clear hb0
      go_wp2_with (first
        | ((go_at_call 5)
           (refine k1.mono ?_)
           (rintro e w1 ⟨rfl, hH1, hb1⟩)
           (have own0 := World.ownsRow_lit (base := w1.heap.size) (e := 5) (size := 1) w1 #[] 0 (Nat.le_refl _) (by unfold maxLen; omega) rfl)
           (have hbE : Below w1.heap.size w1 (w1.alloc (.cells #[] 5)) := (Below.refl _ _).alloc (Nat.le_refl _) _)
           (have hB0 := hH1.bytes.below hbE (Nat.le_refl _))
           (clear k1))
        | ((at_builtin)
           (have _t := own0)
           (refine wpList_append_bytes rfl _ _ rfl w1.heap.size _ 0 (fun _ => 0) rfl own0 (some ⟨w.heap.size, 0, none⟩) M M F rfl (fun e => by cases e) hB0 (by omega) (by simp) ?_)
           (intro v1 w2 own2 gr2)
           (have hb2 : Below w1.heap.size w1 w2 := hbE.grown gr2 (by simp) (fun k' h => (own0.lt k' h).1))
           (rw [Nat.zero_add, cat_zero] at own2)
           (obtain ⟨g2, c2, rfl, hg2, hc2⟩ := own_at own2 (by omega))
           (obtain ⟨_, _, e2, _, _, hby2, _⟩ := id (own_bytes own2))
           (cases e2)
           (have hcell2 : w2.cell? ⟨g2, t, none⟩ = some (.int .u8 (z : Nat)) := (by have h := own2.cellAt t (by omega); rw [h, HZ.out]; exact bl_get F M t ht))
           (have hfz2 := own2.frozenAt t)
           (have hH2 := hH1.below hb2 hH1.lt)
           (have hB2 := hb1.trans (hb2.mono hb1.size))
           (have hg2w : w.heap.size ≠ g2 := (by have := hH1.lt; omega))
           (have hH3 : Has (w2.setCell ⟨g2, t, none⟩ (.int .u8 ((y : Nat) : Int))) w.heap.size 5 (cellsN .u8 M F) := hH2.other (p := ⟨g2, t, none⟩) hg2w _)
           (have hby3 := HSet.out w2 g2 hby2)
           (have hB3 : Below w.heap.size w (w2.setCell ⟨g2, t, none⟩ (.int .u8 ((y : Nat) : Int))) := hB2.setCell (p := ⟨g2, t, none⟩) (by show w.heap.size ≤ g2; have := hH1.lt; omega) _)
           (have kb1 := HB1.out w.heap.size M _ (hG.below hB3 hG.1) (Nat.le_refl _) hH3.bytes)
           (clear own0 _t gr2 hB0 hbE hH1 hH2 hby2 hB2 own2 hb1 hb2))
        | ((go_at_call 6)
           (refine kb1.mono ?_)
           (clear kb1)
           (rintro e w4 ⟨ta, tc, rfl, htc, htn, hT4, hb4⟩)
           (obtain ⟨tb, to_, rfl, _, _⟩ := id (hT4.resolve_left (by omega)))
           (have hH4 := hH3.below hb4 hH3.lt)
           (have hby4 := hby3.below hb4 (Nat.le_refl _))
           (have hB4 := hB3.trans (hb4.mono hB3.size))
           (have hN4 : Has (w4.alloc (.cells (cellsN .u8 32 fun _ => 0) 24)) w4.heap.size 24 (cellsN .u8 32 fun _ => 0) := Has.new _ _ _)
           (clear hH3 hby3 hB3 hb4 hcell2 hfz2))
        | ((refine wpList_store_rowG rfl 24 _ _ rfl (w4.heap.size) (cellsN .u8 32 R) rfl rfl 24 _ hN4 (by rw [cellsN_size]; exact Tryd.size24) (by simp [cellsN_size]) (cellsN_one _ _ _) ?_)
           (intro w5 hw5)
           (have hR5 : Has w5 w4.heap.size 24 (cellsN .u8 32 R) := (by rw [hw5]; exact hN4.setRow _))
           (have hb5 : Below w4.heap.size w4 w5 := (by rw [hw5]; exact below_setRow ((Below.refl _ _).alloc (Nat.le_refl _) _) (Nat.le_refl _) _))
           (have hB5 := hB4.trans (hb5.mono hB4.size))
           (have hH5 := hH4.below hb5 hH4.lt)
           (have hby5 := hby4.below hb5 (Nat.le_refl _))
           (have hT5 := hT4.below hb5 (Nat.le_refl _))
           (have kb2 := HB2.out g2 c2 w5 (hG.below hB5 hG.1) hc2 hby5)
           (clear hw5 hN4 hb5 hB4 hH4 hby4 hT4))
        | ((go_at_call 6)
           (refine kb2.mono ?_)
           (clear kb2)
           (rintro e w6 ⟨ua, uc, rfl, huc, hun, hU6, hb6⟩)
           (obtain ⟨ub, uo, rfl, _, _⟩ := id (hU6.resolve_left (by omega)))
           (have hR6 := hR5.below hb6 hR5.lt)
           (have hH6 := hH5.below hb6 hH5.lt)
           (have hby6 := hby5.below hb6 (Nat.le_refl _))
           (have hT6 := hT5.below hb6 (Nat.le_refl _))
           (have hB6 := hB5.trans (hb6.mono hB5.size))
           (have hN6 : Has (w6.alloc (.cells (cellsN .u8 32 fun _ => 0) 24)) w6.heap.size 24 (cellsN .u8 32 fun _ => 0) := Has.new _ _ _)
           (clear hR5 hH5 hby5 hT5 hB5 hb6))
        | ((refine wpList_store_rowG rfl 24 _ _ rfl (w6.heap.size) (cellsN .u8 32 S) rfl rfl 24 _ hN6 (by rw [cellsN_size]; exact Tryd.size24) (by simp [cellsN_size]) (cellsN_one _ _ _) ?_)
           (intro w7 hw7)
           (have hS7 : Has w7 w6.heap.size 24 (cellsN .u8 32 S) := (by rw [hw7]; exact hN6.setRow _))
           (have hb7 : Below w6.heap.size w6 w7 := (by rw [hw7]; exact below_setRow ((Below.refl _ _).alloc (Nat.le_refl _) _) (Nat.le_refl _) _))
           (have hB7 := hB6.trans (hb7.mono hB6.size))
           (have hR7 := hR6.below hb7 hR6.lt)
           (have hH7 := hH6.below hb7 hH6.lt)
           (have hby7 := hby6.below hb7 (Nat.le_refl _))
           (have hT7 := hT6.below hb7 (Nat.le_refl _))
           (have hU7 := hU6.below hb7 (Nat.le_refl _))
           (clear hw7 hN6 hb7 hB6 hR6 hH6 hby6 hT6 hU6))
        | ((at_builtin)
           (have hs7 : Bytes w7 (some ⟨w.heap.size, I * 64, none⟩) 64 (fun j => F (I * 64 + j)) := (by have h := hH7.bytes.part (I * 64) 64 (by omega); rw [Nat.zero_add] at h; exact h))
           (obtain ⟨ga, ca, w8, hra, hca, hta, hb8⟩ := text_own w7 0 _ _ (M - I * 64) hs7)
           (refine wpList_append_at rfl _ _ _ _ rfl (.slice (some ⟨w7.heap.size, 0, none⟩) 1 1) (.slice (some ⟨w.heap.size, I * 64, none⟩) 64 (M - I * 64)) rfl (congrArg (fun z => Value.slice (some ⟨w.heap.size, I * 64, none⟩) z (M - I * 64)) HSL.out) _ hra ?_)
           (have hB8 := hB7.trans (hb8.mono hB7.size))
           (have hR8 := hR7.below hb8 hR7.lt)
           (have hS8 := hS7.below hb8 hS7.lt)
           (have hby8 := hby7.below hb8 (Nat.le_refl _))
           (have hT8 := hT7.below hb8 (Nat.le_refl _))
           (have hU8 := hU7.below hb8 (Nat.le_refl _))
           (clear hH7 hra hs7 hB7 hR7 hS7 hby7 hT7 hU7 hb8))
        | ((at_builtin)
           (have hs8 : Bytes w8 (some ⟨g2, I * 64, none⟩) 64 (fun j => F' (I * 64 + j)) := (by have h := hby8.part (I * 64) 64 (by omega); rw [Nat.zero_add] at h; exact h))
           (obtain ⟨gb, cb, w9, hrb, hcb, htb, hb9⟩ := text_own w8 0 _ _ (c2 - I * 64) hs8)
           (refine wpList_append_at rfl _ _ _ _ rfl (.slice (some ⟨w8.heap.size, 0, none⟩) 1 1) (.slice (some ⟨g2, I * 64, none⟩) 64 (c2 - I * 64)) rfl (congrArg (fun z => Value.slice (some ⟨g2, I * 64, none⟩) z (c2 - I * 64)) HSL.out) _ hrb ?_)
           (have hB9 := hB8.trans (hb9.mono hB8.size))
           (have hR9 := hR8.below hb9 hR8.lt)
           (have hS9 := hS8.below hb9 hS8.lt)
           (have hta9 := hta.below hb9 (Nat.le_refl _))
           (have hT9 := hT8.below hb9 (Nat.le_refl _))
           (have hU9 := hU8.below hb9 (Nat.le_refl _))
           (have kp := HP.out F hF I hIn tb to_ tc w9 hT9 htc)
           (clear hby8 hrb hs8 hB8 hR8 hS8 hta hT8 hU8 hb9))
        | ((go_at_call 8)
           (refine kp.mono ?_)
           (clear kp)
           (rintro e w10 ⟨oa, oc, rfl, hoc, hoa, hPa, hb10⟩)
           (have hB10 := hB9.trans (hb10.mono hB9.size))
           (have hR10 := hR9.below hb10 hR9.lt)
           (have hS10 := hS9.below hb10 hS9.lt)
           (have hta10 := hta9.below hb10 (Nat.le_refl _))
           (have htb10 := htb.below hb10 (Nat.le_refl _))
           (have hU10 := hU9.below hb10 (Nat.le_refl _))
           (have kq := HP.out F' hF' I hIn ub uo uc w10 hU10 huc)
           (clear hB9 hR9 hS9 hta9 htb hT9 hU9 hb10))
        | ((go_at_call 8)
           (refine kq.mono ?_)
           (clear kq)
           (rintro e w11 ⟨qa, qc, rfl, hqc, hqa, hPb, hb11⟩)
           (have hB11 := hB10.trans (hb11.mono hB10.size))
           (have hR11 := hR10.below hb11 hR10.lt)
           (have hS11 := hS10.below hb11 hS10.lt)
           (have hta11 := hta10.below hb11 (Nat.le_refl _))
           (have htb11 := htb10.below hb11 (Nat.le_refl _))
           (have hPa11 := Pieces.below hPa hb11)
           (clear hB10 hR10 hS10 hta10 htb10 hU10 hb11 hPa)))
      obtain ⟨Q, hQ⟩ : ∃ Q : Nat → Nat → Nat, Q = fun k => sec (tree F n (dep n)) (off n k + pl I (k + 1)) := ⟨_, rfl⟩
      obtain ⟨Q', hQ'⟩ : ∃ Q' : Nat → Nat → Nat, Q' = fun k => sec (tree F' n (dep n)) (off n k + pl I (k + 1)) := ⟨_, rfl⟩
      have hPP := HPR.out (fun j => F (I * 64 + j)) (fun j => F' (I * 64 + j)) Q Q' (fun j _ => by show F (I * 64 + j) = F (64 * I + j); rw [Nat.mul_comm]) (fun j _ => by show F' (I * 64 + j) = F' (64 * I + j); rw [Nat.mul_comm]) (fun k _ j _ => by rw [hQ]) (fun k _ j _ => by rw [hQ'])
      rw [← HRS.out.1, ← HRS.out.2] at hPP
      have HPP : Hid _ := hPP
      have HQ : Hid (∀ k j, Q k j < 256) := fun k j => by rw [hQ]; exact tree_lt F n hF (dep n) _
      have HQ' : Hid (∀ k j, Q' k j < 256) := fun k j => by rw [hQ']; exact tree_lt F' n hF' (dep n) _
      have HXl : Hid (∀ j, (fun j => F (I * 64 + j)) j < 256) := fun j => hF _
      have HYl : Hid (∀ j, (fun j => F' (I * 64 + j)) j < 256) := fun j => hF' _
      have HNE2 : Hid (∃ j, j < 64 ∧ (fun j => F (I * 64 + j)) j ≠ (fun j => F' (I * 64 + j)) j) := HNE.out
      rw [← hQ] at hPa11
      rw [← hQ'] at hPb
      clear hQ hQ' hPP HNE
      generalize (fun j => F (I * 64 + j)) = X0 at *
      generalize (fun j => F' (I * 64 + j)) = Y0 at *
      obtain ⟨ob, oo, rfl⟩ : ∃ ob oo, oa = some ⟨ob, oo, none⟩ := by
        obtain ⟨⟨b, o, e, _⟩, _⟩ := hPa11 0 (by omega)
        exact ⟨b, o, e⟩
      obtain ⟨qb, qo, rfl⟩ : ∃ qb qo, qa = some ⟨qb, qo, none⟩ := by
        obtain ⟨⟨b, o, e, _⟩, _⟩ := hPb 0 (by omega)
        exact ⟨b, o, e⟩
      have HA : Hid _ := hPa11
      have HBq : Hid _ := hPb
      obtain ⟨D, hD⟩ : ∃ D, D = dep n := ⟨_, rfl⟩
      rw [← hD] at HA HBq HPP hD1 hD11 hD0 ⊢
      clear hD hPa11 hPb
      go_loopw [17, 18, 21] (fun av bv kv wr => ∃ k : Nat, kv = .int .i64 (k : Nat) ∧ Below w11.heap.size w11 wr ∧ ((k ≤ D ∧ ∃ (g1 c1 g2 c2 : Nat), av = .slice (some ⟨g1, 0, none⟩) 65 c1 ∧ bv = .slice (some ⟨g2, 0, none⟩) 65 c2 ∧ 65 ≤ c1 ∧ 65 ≤ c2 ∧
          Bytes wr (some ⟨g1, 0, none⟩) 65 (cat (fun _ => kd k) 1 (txt X0 Q k)) ∧ Bytes wr (some ⟨g2, 0, none⟩) 65 (cat (fun _ => kd k) 1 (txt Y0 Q' k)) ∧ ∃ j, j < 64 ∧ txt X0 Q k j ≠ txt Y0 Q' k j) ∨ (k = D + 1 ∧ ∃ j, j < 32 ∧ R j ≠ S j)))
        (fun _ _ kv _ => D + 2 - (intOf kv).toNat)
      case atStart => exact ⟨0, rfl, Below.refl _ _, .inl ⟨Nat.zero_le _, ga, ca, gb, cb, rfl, rfl, hca, hcb, hta11, htb11, HNE2.out⟩⟩
      case round =>
        clear hta11 htb11 HNE2
        obtain ⟨k, rfl, hbel, hrel⟩ := hrel
        have hBr := hB11.trans (hbel.mono hB11.size)
        have hGr := hG.below hBr hG.1
        have hRr := hR11.below hbel hR11.lt
        have hSr := hS11.below hbel hS11.lt
        have hXRS := KE.out R S hRl hSl
        rcases hrel with ⟨hk, g1, c1, g3, c3, rfl, rfl, hc1, hc3, hA, hBb, hne⟩ | ⟨hkD, hrs⟩
        · have hXk : ∀ j, txt X0 Q k j < 256 := by
            cases k with
            | zero => exact HXl.out
            | succ k => exact HQ.out k
          have hYk : ∀ j, txt Y0 Q' k j < 256 := by
            cases k with
            | zero => exact HYl.out
            | succ k => exact HQ'.out k
          have v1 := conv_bytesN c1 hA (cat_lt _ _ _ (fun _ => kd_lt k) hXk) (fun e => by cases e)
          have v2 := conv_bytesN c3 hBb (cat_lt _ _ _ (fun _ => kd_lt k) hYk) (fun e => by cases e)
          have hstr : strN (cat (fun _ => kd k) 1 (txt X0 Q k)) 65 ≠ strN (cat (fun _ => kd k) 1 (txt Y0 Q' k)) 65 := by
            intro h
            obtain ⟨j, hj, hj2⟩ := hne
            have := ((strN_eq (cat_lt _ _ _ (fun _ => kd_lt k) hXk) (cat_lt _ _ _ (fun _ => kd_lt k) hYk)).1 h).2 (1 + j) (by omega)
            unfold cat at this
            rw [if_neg (by omega), if_neg (by omega), show 1 + j - 1 = j from by omega] at this
            exact hj2 this
          generalize strN (cat (fun _ => kd k) 1 (txt X0 Q k)) 65 = sa at v1 hstr
          generalize strN (cat (fun _ => kd k) 1 (txt Y0 Q' k)) 65 = sb at v2 hstr
          have hsb : (sa == sb) = false := by simpa using hstr
          have h1 := sum_text (kd k) (txt X0 Q k) _ c1 wr hGr (kd_lt k) hXk hA hc1
          have H2 : Hid (∀ wz, Below wr.heap.size wr wz → Calls Tryd.prog 9 #[.slice (some ⟨g3, 0, none⟩) (65 : Nat) c3] wz fun e w' => e = .returned (.agg (cellsN .u8 32 (hsh (kd k) (txt Y0 Q' k)))) ∧ Below wz.heap.size wz w') := fun wz hb => sum_text (kd k) (txt Y0 Q' k) _ c3 wz (hGr.below hb hGr.1) (kd_lt k) hYk (hBb.below hb (Nat.le_refl _)) hc3
          rw [← up_txt] at h1 H2
          have hU : ∀ j, up X0 Q k j < 256 := fun j => up_lt _ _ _ _
          have hV : ∀ j, up Y0 Q' k j < 256 := fun j => up_lt _ _ _ _
          have hXe := KE.out (up X0 Q k) (up Y0 Q' k) hU hV
          have hki : (k : Int) ≤ D := by omega
          by_cases heq : eqB (up X0 Q k) (up Y0 Q' k) = true
          · rw [heq] at hXe
            have hrt : eqB R S = true := (eqB_iff _ _).2 (HPP.out.1 k hk ((eqB_iff _ _).1 heq))
            rw [hrt] at hXRS
            clear heq hrt hne hstr hA hBb
            generalize up X0 Q k = U at *
            generalize up Y0 Q' k = V at *
            go_wp2_with (first
              | ((go_at_call 9)
                 (refine h1.mono ?_)
                 (clear h1)
                 (rintro e wa ⟨rfl, hba⟩)
                 (have h2 := H2.out wa hba))
              | ((go_at_call 9)
                 (refine h2.mono ?_)
                 (clear h2)
                 (rintro e wb ⟨rfl, hbb⟩)
                 (have hbw : Below wr.heap.size wr wb := hba.trans (hbb.mono hba.size))
                 (have hBw := hBr.trans (hbw.mono hBr.size))
                 (have hRb := hRr.below hbw hRr.lt)
                 (have hSb := hSr.below hbw hSr.lt)
                 (have ka := KA.out wb (hG.below hBw hG.1)))
              | ((go_at_call 7)
                 (refine ka.mono ?_)
                 (rintro e wc ⟨rfl, hbc⟩)
                 (have hRc := hRb.below hbc hRb.lt)
                 (have hSc := hSb.below hbc hSb.lt)
                 (have hBc := hBw.trans (hbc.mono hBw.size)))
              | (refine wpList_load_rowW rfl 24 _ rfl (w4.heap.size) rfl 24 _ (0, 0) 32 5 hRc Tryd.underlying24 (by rw [cellsN_size]; exact Tryd.size24) ?_)
              | (refine wpList_load_rowW rfl 24 _ rfl (w6.heap.size) rfl 24 _ (0, 0) 32 5 hSc Tryd.underlying24 (by rw [cellsN_size]; exact Tryd.size24) ?_))
            go_ret
            exact ⟨rfl, hBc⟩
          · have hef : eqB (up X0 Q k) (up Y0 Q' k) = false := by simpa using heq
            have hud : ∃ j, j < 32 ∧ up X0 Q k j ≠ up Y0 Q' k j := Classical.byContradiction fun hcon => heq ((eqB_iff _ _).2 fun j hj => Classical.byContradiction fun h => hcon ⟨j, hj, h⟩)
            rw [hef] at hXe
            by_cases hlt : k < D
            · have HN2 : Hid (∃ j, j < 64 ∧ Q k j ≠ Q' k j) := parts_up I k X0 Y0 Q Q' (stands_less HPP.out.2.2.2.1 hlt) (stands_less HPP.out.2.2.2.2 hlt) hud
              obtain ⟨⟨b1, o1, e1, hb1l, hcell1⟩, _, _, hq1, _⟩ := HA.out k hlt
              cases e1
              obtain ⟨⟨b2, o2, e2, hb2l, hcell2⟩, _, _, hq2, _⟩ := HBq.out k hlt
              cases e2
              have hlti : (k : Int) < D := by omega
              have HK : Hid (k < D) := hlt
              generalize up X0 Q k = U at *
              generalize up Y0 Q' k = V at *
              clear hne hstr hA hBb heq hud hef hlt hXRS hRr hSr
              go_wp2_with (first
                | ((go_at_call 9)
                   (refine h1.mono ?_)
                   (clear h1)
                   (rintro e wa ⟨rfl, hba⟩)
                   (have h2 := H2.out wa hba))
                | ((go_at_call 9)
                   (refine h2.mono ?_)
                   (clear h2)
                   (rintro e wb ⟨rfl, hbb⟩)
                   (have hbel2 : Below w11.heap.size w11 wb := hbel.trans ((hba.trans (hbb.mono hba.size)).mono hbel.size))
                   (have cl1 := ((hbel2.alloc hbel2.size (.cells #[.int .u8 1] 5)).cell (p := ⟨ob, oo + k, none⟩) hb1l).trans hcell1)
                   (obtain ⟨ga2, ca2, wc, hra, hca2, hta2, hbc⟩ := text_own wb 1 (Q k) _ (tc - (off n k + pl I (k + 1)) * 64) (hq1.below hbel2 (Nat.le_refl _)))
                   (have hbel3 := hbel2.trans (hbc.mono hbel2.size))
                   (have cl2 := ((hbel3.alloc hbel3.size (.cells #[.int .u8 1] 5)).cell (p := ⟨qb, qo + k, none⟩) hb2l).trans hcell2)
                   (obtain ⟨gb2, cb2, wd2, hrb, hcb2, htb2, hbd2⟩ := text_own wc 1 (Q' k) _ (uc - (off n k + pl I (k + 1)) * 64) (hq2.below hbel3 (Nat.le_refl _)))
                   (have hbel4 := hbel3.trans (hbd2.mono hbel3.size))
                   (have hta3 := hta2.below hbd2 (Nat.le_refl _))
                   (clear hcell1 hcell2 hbel hba hbb H2 hq1 hq2))
                | ((at_builtin)
                   (refine wpList_append_at rfl _ _ _ _ rfl _ _ rfl rfl _ hra ?_)
                   (clear hra))
                | ((at_builtin)
                   (refine wpList_append_at rfl _ _ _ _ rfl _ _ rfl rfl _ hrb ?_)
                   (clear hrb)))
              go_roundw
              case rel => exact ⟨k + 1, rfl, hbel4, .inl ⟨HK.out, ga2, ca2, gb2, cb2, rfl, rfl, hca2, hcb2, hta3, htb2, HN2.out⟩⟩
              case measure => have := HK.out; simp [intOf]; omega
            · obtain rfl : k = D := by omega
              rw [HPP.out.2.1, HPP.out.2.2.1] at hud
              have HU : Hid _ := hud
              generalize up X0 Q k = U at *
              generalize up Y0 Q' k = V at *
              clear hne hstr hA hBb heq hud hef hlt hXRS hRr hSr
              go_wp2_with (first
                | ((go_at_call 9)
                   (refine h1.mono ?_)
                   (clear h1)
                   (rintro e wa ⟨rfl, hba⟩)
                   (have h2 := H2.out wa hba))
                | ((go_at_call 9)
                   (refine h2.mono ?_)
                   (clear h2)
                   (rintro e wb ⟨rfl, hbb⟩)
                   (have hbel2 : Below w11.heap.size w11 wb := hbel.trans ((hba.trans (hbb.mono hba.size)).mono hbel.size))))
              go_roundw
              case rel => exact ⟨k + 1, rfl, hbel2, .inr ⟨rfl, HU.out⟩⟩
              case measure => simp [intOf]
        · have hef : eqB R S = false := by
            cases h : eqB R S with
            | false => rfl
            | true =>
              obtain ⟨j, hj, hj2⟩ := hrs
              exact absurd ((eqB_iff _ _).1 h j hj) hj2
          rw [hef] at hXRS
          have hki : ¬ ((k : Int) ≤ D) := by omega
          have ka := KA.out wr hGr
          clear hrs hef
          go_wp2_with (first
            | ((go_at_call 7)
               (refine ka.mono ?_)
               (rintro e wc ⟨rfl, hbc⟩)
               (have hRc := hRr.below hbc hRr.lt)
               (have hSc := hSr.below hbc hSr.lt)
               (have hBc := hBr.trans (hbc.mono hBr.size)))
            | (refine wpList_load_rowW rfl 24 _ rfl (w4.heap.size) rfl 24 _ (0, 0) 32 5 hRc Tryd.underlying24 (by rw [cellsN_size]; exact Tryd.size24) ?_)
            | (refine wpList_load_rowW rfl 24 _ rfl (w6.heap.size) rfl 24 _ (0, 0) 32 5 hSc Tryd.underlying24 (by rw [cellsN_size]; exact Tryd.size24) ?_))
          go_ret
          exact ⟨rfl, hBc⟩

theorem roots_call (hM : MerkleOk) (d : Nat → Nat) (dL dc : Nat) (da : Option Addr) (at_ b : Int) (w : World) (hG : Glob Hc Kc w) (hdL : dL ≤ maxLen) (hdb : Bytes w da dL d) (hd : ∀ j, d j < 256) (hat : i64ok at_) (hb : 0 ≤ b ∧ b ≤ 255) :
    Calls Tryd.prog 3 #[.slice da dL dc, .int .i64 at_, .int .u8 b] w fun e w' => e = .returned (.bool true) ∧ Below w.heap.size w w' := by
  obtain ⟨B, rfl⟩ : ∃ B : Nat, b = B := ⟨b.toNat, by omega⟩
  exact roots_walk hM d dL dc da at_ B w hG hdL hdb hd hat (by omega)
end Go.Proofs.YtoeanaadlihkeabDoor
