/- AesBlocks, walked. -/
import Derived.Test.YtcnlegnfecpdnaaAesAlive
import Derived.Test.YtcnlegnfecpdnaaAesNew32
import Derived.Test.YtcnlegnfecpdnaaRef4Dec
import Derived.Test.YtcnlegnfecpdnaaRef4Keys8
import Derived.Test.YtcnlegnfecpdnaaRef4Same
namespace Go.Proofs.Ytcnlegnfecpdnaa
open Go.ChangeShapes Go.WideShapes Go.ChangeAt Go.RowKit
set_option linter.unusedVariables false

theorem slice_hi (b o cap L q : Nat) (w : World) (h1 : q ≤ cap) (h2 : 0 < cap) : (Instr.sliceAt 22 (.slice (some ⟨b, o, none⟩) L cap) none (some (.int .i64 (q : Int))) none).run Try.prog w = .ok (.slice (some ⟨b, o, none⟩) q cap) w := by
  simp [Instr.sliceAt, Instr.slice, Instr.sliceBounds, run_underlying Try.underlying22, go_sem]
  intro h
  omega

theorem run_slice_hi {o : Oper} {a : Act} (x h : Operand) (ho : o.op = .slice 22 x none (some h) none) (b off L cap q : Nat) (hx : a.eval x = .slice (some ⟨b, off, none⟩) L cap) (hl : a.eval h = .int .i64 (q : Nat)) (h1 : q ≤ cap) (h2 : 0 < cap) (w : World) :
    (execOp a.eval o).run Try.prog w = .ok (.value (.slice (some ⟨b, off, none⟩) q cap)) w := by
  unfold execOp
  simp only [ho, hx, hl, Option.map_some, Option.map_none, Sem.run_bind, slice_hi b off cap L q w h1 h2, Result.andThen_ok, Sem.run_pure]

theorem own_row {w : World} {base n : Nat} {v : Value} {f : Nat → Nat} (h : w.ownsRow base 5 1 v n (bl f n)) (hn : 0 < n) : ∃ g c cur, v = .slice (some ⟨g, 0, none⟩) n c ∧ n ≤ c ∧ g < w.heap.size ∧ (∀ j, j < n → w.cell? ⟨g, j, none⟩ = some (.int .u8 (f j : Nat))) ∧ base ≤ g ∧ Has w g 5 cur ∧ cur.size = c := by
  rcases h.2 with ⟨_, h0⟩ | ⟨g, cap, cur, rfl, hbg, hgg, hnc, hm, hs, ht⟩
  · omega
  · exact ⟨g, cap, cur, rfl, hnc, (Array.getElem?_eq_some_iff.1 hgg).1, fun j hj => by rw [h.cellAt j (by omega)]; exact bl_get _ _ j hj, hbg, hgg, by omega⟩

theorem Has.setAny {w : World} {g t : Nat} {cs : Array Value} (h : Has w g t cs) (j : Nat) (u : Value) : ∃ cs', Has (w.setCell ⟨g, j, none⟩ u) g t cs' ∧ cs'.size = cs.size := by
  have h' : w.heap[g]? = some (.cells cs t (0, 0)) := h
  unfold Has
  simp only [World.setCell, Array.getElem?_modify, h', if_pos, Option.map_some]
  exact ⟨_, rfl, by simp⟩

theorem cell_setOther {w : World} {p q : Addr} (h : p.block ≠ q.block) (u : Value) : (w.setCell q u).cell? p = w.cell? p := by
  have := Below.heap_setCell w q u p.block h
  unfold World.cell?
  rw [this]

set_option maxRecDepth 100000 in
set_option maxHeartbeats 3200000 in
theorem blocks_bad (a : Option Addr) (len cap : Nat) (key f : Nat → Nat) (w : World) (hkey : ∀ j, key j < 256) (hf : Byt f) (hcap : len ≤ cap) (hl : len ≤ 140737488351232) (hnil : a = none → len = 0 ∧ cap = 0) (hkb : Bytes w a len key) (h1 : len ≠ 16) (h2 : len ≠ 32) :
    Calls Try.prog 3 #[.slice a len cap, .agg (cellsN .u8 16 f)] w fun e w' => e = .returned (.bool true) ∧ Below w.heap.size w w' := by
  obtain ⟨w0, hw0⟩ : ∃ x, x = w.alloc (.cells (cellsN .u8 16 f) 23) := ⟨_, rfl⟩
  have hB0 : Below w.heap.size w w0 := by rw [hw0]; exact (Below.refl _ _).alloc (Nat.le_refl _) _
  have hF0 : Has w0 w.heap.size 23 (cellsN .u8 16 f) := by rw [hw0]; exact Has.new _ _ _
  have own0 := World.ownsRow_lit (base := w0.heap.size) (e := 5) (size := 1) w0 #[] 0 (Nat.le_refl _) (by unfold maxLen; omega) rfl
  have hbE : Below w0.heap.size w0 (w0.alloc (.cells #[] 5)) := (Below.refl _ _).alloc (Nat.le_refl _) _
  have hkb0 := (hkb.below hB0 (Nat.le_refl _)).below hbE (Nat.le_refl _)
  have e1 : w0.heap.size = w.heap.size + 1 := by rw [hw0]; simp
  have HE1 : Hid (w0.heap.size = w.heap.size + 1) := e1
  rw [e1] at own0
  rw [hw0] at own0 hkb0
  clear e1
  have HSm : Hid (∀ wz g2 c2, Below w.heap.size w wz → g2 < wz.heap.size → (∀ j, j < len → wz.cell? ⟨g2, 0 + j, none⟩ = some (.int .u8 (key j : Nat))) → Calls Try.prog 11 #[.slice (some ⟨g2, 0, none⟩) len c2, .slice a len cap] wz fun e w' => e = .returned (.bool true) ∧ w' = wz) :=
    fun wz g2 c2 h hg hcell => same_true c2 cap (.inr ⟨g2, 0, rfl, hg, hcell⟩) (hkb.below h (Nat.le_refl _)) hkey (fun e => by cases e) (fun e => (hnil e).1)
  have HN : Hid (∀ wz g2 c2, Calls Try.prog 9 #[.slice (some ⟨g2, 0, none⟩) len c2] wz fun e w' => e = .returned (.tuple #[.pointer none, .int .i64 41]) ∧ w' = wz) := fun wz g2 c2 => new_bad _ len c2 wz h1 h2 (by unfold maxLen; omega)
  have HK : Hid (∀ wz, Calls Try.prog 10 #[.slice a len cap] wz fun e w' => e = .returned (.slice none 0 0) ∧ w' = wz) := fun wz => rkeys_bad a len cap wz h1 h2 (by unfold maxLen; omega)
  clear h1 h2
  go_enter Try.func3, Try.ntmps3
  go_wp2_with (first
    | ((at_builtin)
       (have _t := own0)
       (refine wpList_append_bytes rfl _ _ rfl (w.heap.size + 1) _ 0 (fun _ => 0) rfl own0 a len cap key rfl hnil hkb0 (by omega) (by simp) ?_)
       (intro v1 w1 own1 gr1)
       (rw [← hw0] at gr1)
       (have hb1 : Below w0.heap.size w0 w1 := hbE.grown gr1 (by simp) (fun k' h => (by have e := Option.some.inj (show some (w.heap.size + 1) = some k' from h); rw [HE1.out]; omega)))
       (rw [Nat.zero_add, cat_zero] at own1)
       (have hbL : Below w1.heap.size w1 (w1.alloc (.cells #[.int .u8 ((77 : Nat) : Int)] 5)) := (Below.refl _ _).alloc (Nat.le_refl _) _)
       (have own1x := own_below own1 hbL (fun g hg => (own1.lt g hg).2))
       (have hb1x : Below w0.heap.size w0 (w1.alloc (.cells #[.int .u8 ((77 : Nat) : Int)] 5)) := hb1.trans (hbL.mono hb1.size))
       (clear own0 _t gr1 hkb0 hbE own1 hbL))
    | ((at_builtin)
       (have _t := own1x)
       (refine wpList_append_bytes rfl _ _ rfl (w.heap.size + 1) _ len key rfl own1x (some ⟨w1.heap.size, 0, none⟩) 1 1 (fun _ => 77) rfl (fun e => by cases e) (one_byte w1 77) (by omega) (by rw [← HE1.out]; exact hb1x.size) ?_)
       (intro v2 w2 own2 gr2)
       (have hb2 : Below w0.heap.size w0 w2 := hb1x.grown gr2 hb1x.size (fun k' h => by rw [HE1.out]; exact (own1x.lt k' h).1))
       (obtain ⟨g2, c2, cur2, rfl, hc2, hg2, hcell2, hbase2, hcur2, hcs2⟩ := own_row own2 (by omega))
       (have hkm : ∀ j, j < len → w2.cell? ⟨g2, 0 + j, none⟩ = some (.int .u8 (key j : Nat)) := (fun j hj => by rw [Nat.zero_add, hcell2 j (by omega)]; simp only [cat, if_pos hj]))
       (have hk77 : w2.cell? ⟨g2, len, none⟩ = some (.int .u8 77) := (by rw [hcell2 len (by omega)]; simp only [cat, if_neg (Nat.lt_irrefl len)]; rfl))
       (have hB2 : Below w.heap.size w w2 := hB0.trans (hb2.mono hB0.size))
       (have hF2 := hF0.below hb2 hF0.lt)
       (clear own1x _t gr2 hb1x hcell2 own2))
    | (refine wpList_val (some 18) (.slice (some ⟨g2, 0, none⟩) len c2) rfl (by rfl) (run_slice_hi _ _ rfl g2 0 (len + 1) c2 len rfl rfl (by omega) (by omega) _) ?_)
    | (go_at_call 9; refine (HN.out _ _ _).mono ?_; rintro e w3 ⟨rfl, hw3⟩; rw [hw3]; clear hw3 w3)
    | (go_at_call 10; refine (HK.out _).mono ?_; rintro e w3 ⟨rfl, hw3⟩; rw [hw3]; clear hw3 w3)
    | (go_at_call 11; refine (HSm.out w2 g2 c2 hB2 hg2 hkm).mono ?_; rintro e w3 ⟨rfl, hw3⟩; rw [hw3]; clear hw3 w3)
    | (refine wpList_val (some 36) (.slice (some ⟨g2, 0, none⟩) (len + 1) c2) rfl (by rfl) (run_slice_hi _ _ rfl g2 0 len c2 (len + 1) rfl rfl hc2 (by omega) _) ?_)
    | (go_at_call 12; refine (alive_any _).mono ?_; rintro e w4 ⟨rfl, hb4⟩; have hB4 := hB2.trans (hb4.mono hB2.size)))
  go_ret
  exact ⟨rfl, hB4⟩

set_option maxRecDepth 100000 in
set_option maxHeartbeats 3200000 in
theorem blocks_16 (b o cap : Nat) (key f : Nat → Nat) (w : World) (hkey : ∀ j, key j < 256) (hf : Byt f) (hcap : 16 ≤ cap) (hkb : Bytes w (some ⟨b, o, none⟩) 16 key) :
    Calls Try.prog 3 #[.slice (some ⟨b, o, none⟩) 16 cap, .agg (cellsN .u8 16 f)] w fun e w' => e = .returned (.bool true) ∧ Below w.heap.size w w' := by
  obtain ⟨w0, hw0⟩ : ∃ x, x = w.alloc (.cells (cellsN .u8 16 f) 23) := ⟨_, rfl⟩
  have hB0 : Below w.heap.size w w0 := by rw [hw0]; exact (Below.refl _ _).alloc (Nat.le_refl _) _
  have hF0 : Has w0 w.heap.size 23 (cellsN .u8 16 f) := by rw [hw0]; exact Has.new _ _ _
  have own0 := World.ownsRow_lit (base := w0.heap.size) (e := 5) (size := 1) w0 #[] 0 (Nat.le_refl _) (by unfold maxLen; omega) rfl
  have hbE : Below w0.heap.size w0 (w0.alloc (.cells #[] 5)) := (Below.refl _ _).alloc (Nat.le_refl _) _
  have hkb0 := (hkb.below hB0 (Nat.le_refl _)).below hbE (Nat.le_refl _)
  have e1 : w0.heap.size = w.heap.size + 1 := by rw [hw0]; simp
  have HE1 : Hid (w0.heap.size = w.heap.size + 1) := e1
  rw [e1] at own0
  rw [hw0] at own0 hkb0
  clear e1
  have HSm : Hid (∀ wz g2 c2, Below w.heap.size w wz → g2 < wz.heap.size → (∀ j, j < 16 → wz.cell? ⟨g2, 0 + j, none⟩ = some (.int .u8 (key j : Nat))) → Calls Try.prog 11 #[.slice (some ⟨g2, 0, none⟩) 16 c2, .slice (some ⟨b, o, none⟩) 16 cap] wz fun e w' => e = .returned (.bool true) ∧ w' = wz) :=
    fun wz g2 c2 h hg hcell => same_true c2 cap (.inr ⟨g2, 0, rfl, hg, hcell⟩) (hkb.below h (Nat.le_refl _)) hkey (fun e => by cases e) (fun e => by cases e)
  have hk0 : b < w.heap.size ∧ ∀ j, j < 16 → w.cell? ⟨b, o + j, none⟩ = some (.int .u8 (key j : Nat)) := by
    rcases hkb with h0 | ⟨b', o', e, hb, hc⟩
    · omega
    · simp only [Option.some.injEq, Addr.mk.injEq, and_true] at e
      obtain ⟨rfl, rfl⟩ := e
      exact ⟨hb, hc⟩
  obtain ⟨F, hF⟩ : ∃ F, F = flat 4 key 44 := ⟨_, rfl⟩
  have hFl : ∀ j, F j < 256 := fun j => by rw [hF]; exact flat_lt 4 key (fun j _ => hkey j) 44 j
  obtain ⟨CC, hCC⟩ : ∃ CC, CC = ccells F 10 IB := ⟨_, rfl⟩
  have HN : Hid (∀ wz g2 c2, g2 < wz.heap.size → 16 ≤ c2 → (∀ j, j < 16 → wz.cell? ⟨g2, 0 + j, none⟩ = some (.int .u8 (key j : Nat))) → Calls Try.prog 9 #[.slice (some ⟨g2, 0, none⟩) 16 c2] wz fun e w' => ∃ g, e = .returned (.tuple #[.pointer (some ⟨g, 0, none⟩), .int .i64 0]) ∧ wz.heap.size ≤ g ∧ Has w' g 57 CC ∧ Below wz.heap.size wz w') :=
    fun wz g2 c2 hg hc hcell => by rw [hCC, hF]; exact new_16 key g2 0 c2 wz (fun j _ => hkey j) hg hc hcell
  have HK : Hid (∀ wz, Below w.heap.size w wz → Calls Try.prog 10 #[.slice (some ⟨b, o, none⟩) 16 cap] wz fun e w' => ∃ g c, e = .returned (.slice (some ⟨g, 0, none⟩) 176 c) ∧ wz.heap.size ≤ g ∧ g < w'.heap.size ∧ KS g 176 F w' ∧ Below wz.heap.size wz w') :=
    fun wz h => by rw [hF]; exact rkeys_4 key b o cap wz (fun j _ => hkey j) (Nat.lt_of_lt_of_le hk0.1 h.size) (fun j hj => (h.cell (p := ⟨b, o + j, none⟩) hk0.1).trans (hk0.2 j hj))
  obtain ⟨X, hX⟩ : ∃ X, X = encAt F 10 f 10 := ⟨_, rfl⟩
  obtain ⟨Y, hY⟩ : ∃ Y, Y = decS F 10 f := ⟨_, rfl⟩
  have hXl : Byt X := by rw [hX]; exact encAt_lt (fun j _ => hFl j) 10 hf 10 (by omega)
  have hYl : Byt Y := by rw [hY]; exact decS_lt (fun j _ => hFl j) 10 (by omega) hf
  have HE : Hid (∀ wz g, Has wz g 57 CC → Calls Try.prog 13 #[.pointer (some ⟨g, 0, none⟩), .agg (cellsN .u8 16 f)] wz fun e w' => e = .returned (.agg (cellsN .u8 16 X)) ∧ Below wz.heap.size wz w') := fun wz g h => by rw [hX]; rw [hCC] at h; exact encrypt_any F 10 IB f g wz (fun j _ => hFl j) (by omega) hf h
  have HD : Hid (∀ wz g, Has wz g 57 CC → Calls Try.prog 15 #[.pointer (some ⟨g, 0, none⟩), .agg (cellsN .u8 16 f)] wz fun e w' => e = .returned (.agg (cellsN .u8 16 Y)) ∧ Below wz.heap.size wz w') := fun wz g h => by rw [hY]; rw [hCC] at h; exact decrypt_any F 10 f g wz (fun j _ => hFl j) (by omega) hf h
  have HRE : Hid (∀ wz g c, g < wz.heap.size → KS g 176 F wz → Calls Try.prog 14 #[.slice (some ⟨g, 0, none⟩) 176 c, .agg (cellsN .u8 16 f)] wz fun e w' => e = .returned (.agg (cellsN .u8 16 X)) ∧ Below wz.heap.size wz w') := fun wz g c hg h => by rw [hX]; exact renc_10 F f g c wz hf hFl hg h
  have HRD : Hid (∀ wz g c, g < wz.heap.size → KS g 176 F wz → Calls Try.prog 16 #[.slice (some ⟨g, 0, none⟩) 176 c, .agg (cellsN .u8 16 f)] wz fun e w' => e = .returned (.agg (cellsN .u8 16 Y)) ∧ Below wz.heap.size wz w') := fun wz g c hg h => by rw [hY]; exact rdec_10 F f g c wz hf hFl hg h
  clear hX hY hCC hF hk0
  go_enter Try.func3, Try.ntmps3
  go_wp2_with (first
    | ((at_builtin)
       (have _t := own0)
       (refine wpList_append_bytes rfl _ _ rfl (w.heap.size + 1) _ 0 (fun _ => 0) rfl own0 (some ⟨b, o, none⟩) 16 cap key rfl (fun e => by cases e) hkb0 (by omega) (by simp) ?_)
       (intro v1 w1 own1 gr1)
       (rw [← hw0] at gr1)
       (have hb1 : Below w0.heap.size w0 w1 := hbE.grown gr1 (by simp) (fun k' h => (by have e := Option.some.inj (show some (w.heap.size + 1) = some k' from h); rw [HE1.out]; omega)))
       (rw [Nat.zero_add, cat_zero] at own1)
       (have hbL : Below w1.heap.size w1 (w1.alloc (.cells #[.int .u8 ((77 : Nat) : Int)] 5)) := (Below.refl _ _).alloc (Nat.le_refl _) _)
       (have own1x := own_below own1 hbL (fun g hg => (own1.lt g hg).2))
       (have hb1x : Below w0.heap.size w0 (w1.alloc (.cells #[.int .u8 ((77 : Nat) : Int)] 5)) := hb1.trans (hbL.mono hb1.size))
       (clear own0 _t gr1 hkb0 hbE own1 hbL))
    | ((at_builtin)
       (have _t := own1x)
       (refine wpList_append_bytes rfl _ _ rfl (w.heap.size + 1) _ 16 key rfl own1x (some ⟨w1.heap.size, 0, none⟩) 1 1 (fun _ => 77) rfl (fun e => by cases e) (one_byte w1 77) (by omega) (by rw [← HE1.out]; exact hb1x.size) ?_)
       (intro v2 w2 own2 gr2)
       (have hb2 : Below w0.heap.size w0 w2 := hb1x.grown gr2 hb1x.size (fun k' h => by rw [HE1.out]; exact (own1x.lt k' h).1))
       (obtain ⟨g2, c2, cur2, rfl, hc2, hg2, hcell2, hbase2, hcur2, hcs2⟩ := own_row own2 (by omega))
       (have hkm : ∀ j, j < 16 → w2.cell? ⟨g2, 0 + j, none⟩ = some (.int .u8 (key j : Nat)) := (fun j hj => by rw [Nat.zero_add, hcell2 j (by omega)]; simp only [cat, if_pos hj]))
       (have hk77 : w2.cell? ⟨g2, 16, none⟩ = some (.int .u8 77) := (by rw [hcell2 16 (by omega)]; simp only [cat, if_neg (Nat.lt_irrefl 16)]; rfl))
       (have hB2 : Below w.heap.size w w2 := hB0.trans (hb2.mono hB0.size))
       (have hF2 := hF0.below hb2 hF0.lt)
       (clear own1x _t gr2 hb1x hcell2 own2))
    | (refine wpList_val (some 18) (.slice (some ⟨g2, 0, none⟩) 16 c2) rfl (by rfl) (run_slice_hi _ _ rfl g2 0 (16 + 1) c2 16 rfl rfl (by omega) (by omega) _) ?_)
    | (go_at_call 9; refine (HN.out w2 g2 c2 hg2 (by omega) hkm).mono ?_; rintro e w3 ⟨g, rfl, hgs, hC3, hb3⟩; have hB3 := hB2.trans (hb3.mono hB2.size); have hF3 := hF2.below hb3 hF2.lt; have hcur3 := hcur2.below hb3 hcur2.lt; have hg23 : g2 < w3.heap.size := hcur3.lt; have h77 : w3.cell? ⟨g2, 16, none⟩ = some (.int .u8 77) := (hb3.cell hg2).trans hk77; have hkm3 : ∀ j, j < 16 → w3.cell? ⟨g2, 0 + j, none⟩ = some (.int .u8 (key j : Nat)) := (fun j hj => (hb3.cell hg2).trans (hkm j hj)); have hgg2 : g2 < g := (by omega); clear hkm hk77 hF2 hcur2)
    | (go_at_call 10; refine (HK.out w3 hB3).mono ?_; rintro e w4 ⟨gk, ck, rfl, hgk3, hgk, hKS, hb4⟩; have hB4 := hB3.trans (hb4.mono hB3.size); have hF4 := hF3.below hb4 hF3.lt; have hC4 := hC3.below hb4 hC3.lt; have hcur4 := hcur3.below hb4 hcur3.lt; have hg24 : g2 < w4.heap.size := hcur4.lt; have h774 : w4.cell? ⟨g2, 16, none⟩ = some (.int .u8 77) := (hb4.cell hg23).trans h77; have hkm4 : ∀ j, j < 16 → w4.cell? ⟨g2, 0 + j, none⟩ = some (.int .u8 (key j : Nat)) := (fun j hj => (hb4.cell hg23).trans (hkm3 j hj)); have hgk2 : g2 < gk := (by omega); have hgc : g < w3.heap.size := hC3.lt; clear hkm3 h77 hF3 hcur3 hC3)
    | (go_at_call 11; refine (HSm.out w4 g2 c2 hB4 hg24 hkm4).mono ?_; rintro e w5 ⟨rfl, hw5⟩; rw [hw5]; clear hw5 w5)
    | (refine wpList_val (some 36) (.slice (some ⟨g2, 0, none⟩) 17 c2) rfl (by rfl) (run_slice_hi _ _ rfl g2 0 16 c2 17 rfl rfl hc2 (by omega) _) ?_))
  go_loopw [10] (fun i wr => ∃ k : Nat, k ≤ 16 ∧ i = .int .i64 (k : Nat) ∧ (∃ cs, Has wr g2 5 cs ∧ cs.size = c2) ∧ Has wr w.heap.size 23 (cellsN .u8 16 f) ∧ Has wr g 57 CC ∧ gk < wr.heap.size ∧ KS gk 176 F wr ∧ Below w.heap.size w wr)
    (fun i _ => 16 - (intOf i).toNat)
  case atStart => exact ⟨0, Nat.zero_le _, rfl, ⟨cur2, hcur4, hcs2⟩, hF4, hC4, hgk, hKS, hB4⟩
  case round =>
    have hne : w.heap.size ≠ g2 := by omega
    clear hcur4 hF4 hC4 hgk hKS hB4 hkm4 h774
    obtain ⟨k, hk, rfl, ⟨cs, hcs, hsz⟩, hF, hC, hgk, hKS, hB⟩ := hrel
    by_cases hlt : k < 16
    · have i1 : (k : Int) < 16 := by omega
      have d1 : wr.cell? ⟨g2, k, none⟩ = some cs[k]! := by rw [hcs.cell]; rw [getElem!_pos cs k (by omega)]; exact Array.getElem?_eq_getElem (by omega)
      have d2 := hcs.free k
      obtain ⟨cs', hcs', hsz'⟩ := hcs.setAny k (.int .u8 99)
      go_wp2
      go_roundw
      case rel => exact ⟨k + 1, by omega, by go_num, ⟨cs', hcs', by omega⟩, hF.other (by show w.heap.size ≠ g2; exact hne) _, hC.other (by show g ≠ g2; omega) _, by simpa using hgk, fun j hj => (cell_setOther (by show gk ≠ g2; omega) _).trans (hKS j hj), hB.setCell (by show w.heap.size ≤ g2; omega) _⟩
      case measure => simp [intOf]; omega
    · obtain rfl : k = 16 := by omega
      go_wp2_with fail
      refine wp_region_held_drew (S := fun w' => Has w' w.heap.size 23 (cellsN .u8 16 f)) (by kernel_rfl) hF (fun hHeld => ?_)
      have hC0 : Has wr.drew g 57 CC := hC
      have hK0 : KS gk 176 F wr.drew := hKS
      have hgk0 : gk < wr.drew.heap.size := hgk
      have hB0' : Below w.heap.size w wr.drew := hB.drew
      clear hC hKS hgk hB
      refine callTo 0 (some 70) 12 #[] (by kernel_rfl) rfl rfl (by rfl) (by kernel_rfl) (alive_any _) ?_
      rintro e z1 ⟨rfl, hbz1⟩
      have hS1x : Has z1 w.heap.size 23 (cellsN .u8 16 f) := Has.below hHeld hbz1 (Has.lt hHeld)
      have hC1x := hC0.below hbz1 hC0.lt
      have hK1x : KS gk 176 F z1 := fun j hj => (hbz1.cell (p := ⟨gk, j, none⟩) hgk0).trans (hK0 j hj)
      have hgk1x : gk < z1.heap.size := Nat.lt_of_lt_of_le hgk0 hbz1.size
      have hB1x := hB0'.trans (hbz1.mono hB0'.size)
      refine ⟨_, rfl, hS1x, ?_⟩
      clear hHeld
      have hHeld := hS1x
      simp only [Act.put, List.setIfInBounds_toArray, List.set_cons_zero, List.set_cons_succ]
      refine takeTo 1 (some 71) (.bool true) rfl rfl (by kernel_rfl) (by kernel_rfl) (by kernel_rfl) (fun _ _ _ h => h) (by rfl) (fun _ _ => rfl) hHeld ?_
      simp only [Act.put, List.setIfInBounds_toArray, List.set_cons_zero, List.set_cons_succ]
      refine takeTo 2 (some 72) (.pointer (some ⟨g, 0, none⟩)) rfl rfl (by kernel_rfl) (by kernel_rfl) (by kernel_rfl) (fun _ _ _ h => h) (by rfl) (fun _ _ => rfl) hHeld ?_
      simp only [Act.put, List.setIfInBounds_toArray, List.set_cons_zero, List.set_cons_succ]
      refine takeTo 3 (some 73) (.agg (cellsN .u8 16 f)) rfl rfl (by kernel_rfl) (by kernel_rfl) (by kernel_rfl) (fun _ _ _ h => h) (by rfl) (fun wz hz => run_load_row 23 _ rfl w.heap.size rfl _ 23 Try.underlying23 (by rw [cellsN_size]; exact Try.size23) wz hz) hHeld ?_
      simp only [Act.put, List.setIfInBounds_toArray, List.set_cons_zero, List.set_cons_succ]
      refine takeTo 5 (some 75) (.slice (some ⟨gk, 0, none⟩) 176 ck) rfl rfl (by kernel_rfl) (by kernel_rfl) (by kernel_rfl) (fun _ _ _ h => h) (by rfl) (fun _ _ => rfl) hHeld ?_
      simp only [Act.put, List.setIfInBounds_toArray, List.set_cons_zero, List.set_cons_succ]
      refine takeTo 6 (some 76) (.agg (cellsN .u8 16 f)) rfl rfl (by kernel_rfl) (by kernel_rfl) (by kernel_rfl) (fun _ _ _ h => h) (by rfl) (fun wz hz => run_load_row 23 _ rfl w.heap.size rfl _ 23 Try.underlying23 (by rw [cellsN_size]; exact Try.size23) wz hz) hHeld ?_
      simp only [Act.put, List.setIfInBounds_toArray, List.set_cons_zero, List.set_cons_succ]
      refine callTo 4 (some 74) 13 #[.pointer (some ⟨g, 0, none⟩), .agg (cellsN .u8 16 f)] (by kernel_rfl) rfl rfl (by rfl) (by kernel_rfl) (HE.out _ g hC1x) ?_
      rintro e z2 ⟨rfl, hbz2⟩
      have hS2x : Has z2 w.heap.size 23 (cellsN .u8 16 f) := Has.below hHeld hbz2 (Has.lt hHeld)
      have hC2x := hC1x.below hbz2 hC1x.lt
      have hK2x : KS gk 176 F z2 := fun j hj => (hbz2.cell (p := ⟨gk, j, none⟩) hgk1x).trans (hK1x j hj)
      have hgk2x : gk < z2.heap.size := Nat.lt_of_lt_of_le hgk1x hbz2.size
      have hB2x := hB1x.trans (hbz2.mono hB1x.size)
      refine ⟨_, rfl, hS2x, ?_⟩
      clear hHeld
      have hHeld := hS2x
      simp only [Act.put, List.setIfInBounds_toArray, List.set_cons_zero, List.set_cons_succ]
      refine callTo 7 (some 77) 14 #[.slice (some ⟨gk, 0, none⟩) 176 ck, .agg (cellsN .u8 16 f)] (by kernel_rfl) rfl rfl (by rfl) (by kernel_rfl) (HRE.out _ gk ck hgk2x hK2x) ?_
      rintro e z3 ⟨rfl, hbz3⟩
      have hS3x : Has z3 w.heap.size 23 (cellsN .u8 16 f) := Has.below hHeld hbz3 (Has.lt hHeld)
      have hC3x := hC2x.below hbz3 hC2x.lt
      have hK3x : KS gk 176 F z3 := fun j hj => (hbz3.cell (p := ⟨gk, j, none⟩) hgk2x).trans (hK2x j hj)
      have hgk3x : gk < z3.heap.size := Nat.lt_of_lt_of_le hgk2x hbz3.size
      have hB3x := hB2x.trans (hbz3.mono hB2x.size)
      refine ⟨_, rfl, hS3x, ?_⟩
      clear hHeld
      have hHeld := hS3x
      simp only [Act.put, List.setIfInBounds_toArray, List.set_cons_zero, List.set_cons_succ]
      refine takeTo 8 (some 78) (.bool true) rfl rfl (by kernel_rfl) (by kernel_rfl) (by kernel_rfl) (fun _ _ _ h => h) (by rfl) (fun wz _ => run_eql_true _ _ rfl X rfl rfl hXl wz) hHeld ?_
      simp only [Act.put, List.setIfInBounds_toArray, List.set_cons_zero, List.set_cons_succ]
      refine takeTo 9 (some 79) (.bool true) rfl rfl (by kernel_rfl) (by kernel_rfl) (by kernel_rfl) (fun _ _ _ h => h) (by rfl) (fun _ _ => rfl) hHeld ?_
      simp only [Act.put, List.setIfInBounds_toArray, List.set_cons_zero, List.set_cons_succ]
      refine takeTo 10 (some 80) (.bool true) rfl rfl (by kernel_rfl) (by kernel_rfl) (by kernel_rfl) (fun _ _ _ h => h) (by rfl) (fun _ _ => rfl) hHeld ?_
      simp only [Act.put, List.setIfInBounds_toArray, List.set_cons_zero, List.set_cons_succ]
      refine takeTo 11 (some 81) (.pointer (some ⟨g, 0, none⟩)) rfl rfl (by kernel_rfl) (by kernel_rfl) (by kernel_rfl) (fun _ _ _ h => h) (by rfl) (fun _ _ => rfl) hHeld ?_
      simp only [Act.put, List.setIfInBounds_toArray, List.set_cons_zero, List.set_cons_succ]
      refine takeTo 12 (some 82) (.agg (cellsN .u8 16 f)) rfl rfl (by kernel_rfl) (by kernel_rfl) (by kernel_rfl) (fun _ _ _ h => h) (by rfl) (fun wz hz => run_load_row 23 _ rfl w.heap.size rfl _ 23 Try.underlying23 (by rw [cellsN_size]; exact Try.size23) wz hz) hHeld ?_
      simp only [Act.put, List.setIfInBounds_toArray, List.set_cons_zero, List.set_cons_succ]
      refine takeTo 14 (some 84) (.slice (some ⟨gk, 0, none⟩) 176 ck) rfl rfl (by kernel_rfl) (by kernel_rfl) (by kernel_rfl) (fun _ _ _ h => h) (by rfl) (fun _ _ => rfl) hHeld ?_
      simp only [Act.put, List.setIfInBounds_toArray, List.set_cons_zero, List.set_cons_succ]
      refine takeTo 15 (some 85) (.agg (cellsN .u8 16 f)) rfl rfl (by kernel_rfl) (by kernel_rfl) (by kernel_rfl) (fun _ _ _ h => h) (by rfl) (fun wz hz => run_load_row 23 _ rfl w.heap.size rfl _ 23 Try.underlying23 (by rw [cellsN_size]; exact Try.size23) wz hz) hHeld ?_
      simp only [Act.put, List.setIfInBounds_toArray, List.set_cons_zero, List.set_cons_succ]
      refine callTo 13 (some 83) 15 #[.pointer (some ⟨g, 0, none⟩), .agg (cellsN .u8 16 f)] (by kernel_rfl) rfl rfl (by rfl) (by kernel_rfl) (HD.out _ g hC3x) ?_
      rintro e z4 ⟨rfl, hbz4⟩
      have hS4x : Has z4 w.heap.size 23 (cellsN .u8 16 f) := Has.below hHeld hbz4 (Has.lt hHeld)
      have hC4x := hC3x.below hbz4 hC3x.lt
      have hK4x : KS gk 176 F z4 := fun j hj => (hbz4.cell (p := ⟨gk, j, none⟩) hgk3x).trans (hK3x j hj)
      have hgk4x : gk < z4.heap.size := Nat.lt_of_lt_of_le hgk3x hbz4.size
      have hB4x := hB3x.trans (hbz4.mono hB3x.size)
      refine ⟨_, rfl, hS4x, ?_⟩
      clear hHeld
      have hHeld := hS4x
      simp only [Act.put, List.setIfInBounds_toArray, List.set_cons_zero, List.set_cons_succ]
      refine callTo 16 (some 86) 16 #[.slice (some ⟨gk, 0, none⟩) 176 ck, .agg (cellsN .u8 16 f)] (by kernel_rfl) rfl rfl (by rfl) (by kernel_rfl) (HRD.out _ gk ck hgk4x hK4x) ?_
      rintro e z5 ⟨rfl, hbz5⟩
      have hS5x : Has z5 w.heap.size 23 (cellsN .u8 16 f) := Has.below hHeld hbz5 (Has.lt hHeld)
      have hC5x := hC4x.below hbz5 hC4x.lt
      have hK5x : KS gk 176 F z5 := fun j hj => (hbz5.cell (p := ⟨gk, j, none⟩) hgk4x).trans (hK4x j hj)
      have hgk5x : gk < z5.heap.size := Nat.lt_of_lt_of_le hgk4x hbz5.size
      have hB5x := hB4x.trans (hbz5.mono hB4x.size)
      refine ⟨_, rfl, hS5x, ?_⟩
      clear hHeld
      have hHeld := hS5x
      simp only [Act.put, List.setIfInBounds_toArray, List.set_cons_zero, List.set_cons_succ]
      refine takeTo 17 (some 87) (.bool true) rfl rfl (by kernel_rfl) (by kernel_rfl) (by kernel_rfl) (fun _ _ _ h => h) (by rfl) (fun wz _ => run_eql_true _ _ rfl Y rfl rfl hYl wz) hHeld ?_
      simp only [Act.put, List.setIfInBounds_toArray, List.set_cons_zero, List.set_cons_succ]
      refine takeTo 18 (some 88) (.bool true) rfl rfl (by kernel_rfl) (by kernel_rfl) (by kernel_rfl) (fun _ _ _ h => h) (by rfl) (fun _ _ => rfl) hHeld ?_
      simp only [Act.put, List.setIfInBounds_toArray, List.set_cons_zero, List.set_cons_succ]
      refine takeTo 19 (some 4) (.bool true) rfl rfl (by kernel_rfl) (by kernel_rfl) (by kernel_rfl) (fun _ _ _ h => h) (by rfl) (fun _ _ => rfl) hHeld ?_
      simp only [Act.put, List.setIfInBounds_toArray, List.set_cons_zero, List.set_cons_succ]
      refine wpAnyH_done (by kernel_rfl) ?_ _
      go_wp2
      go_ret
      exact ⟨rfl, hB5x⟩

set_option maxRecDepth 100000 in
set_option maxHeartbeats 3200000 in
theorem blocks_32 (b o cap : Nat) (key f : Nat → Nat) (w : World) (hkey : ∀ j, key j < 256) (hf : Byt f) (hcap : 32 ≤ cap) (hkb : Bytes w (some ⟨b, o, none⟩) 32 key) :
    Calls Try.prog 3 #[.slice (some ⟨b, o, none⟩) 32 cap, .agg (cellsN .u8 16 f)] w fun e w' => e = .returned (.bool true) ∧ Below w.heap.size w w' := by
  obtain ⟨w0, hw0⟩ : ∃ x, x = w.alloc (.cells (cellsN .u8 16 f) 23) := ⟨_, rfl⟩
  have hB0 : Below w.heap.size w w0 := by rw [hw0]; exact (Below.refl _ _).alloc (Nat.le_refl _) _
  have hF0 : Has w0 w.heap.size 23 (cellsN .u8 16 f) := by rw [hw0]; exact Has.new _ _ _
  have own0 := World.ownsRow_lit (base := w0.heap.size) (e := 5) (size := 1) w0 #[] 0 (Nat.le_refl _) (by unfold maxLen; omega) rfl
  have hbE : Below w0.heap.size w0 (w0.alloc (.cells #[] 5)) := (Below.refl _ _).alloc (Nat.le_refl _) _
  have hkb0 := (hkb.below hB0 (Nat.le_refl _)).below hbE (Nat.le_refl _)
  have e1 : w0.heap.size = w.heap.size + 1 := by rw [hw0]; simp
  have HE1 : Hid (w0.heap.size = w.heap.size + 1) := e1
  rw [e1] at own0
  rw [hw0] at own0 hkb0
  clear e1
  have HSm : Hid (∀ wz g2 c2, Below w.heap.size w wz → g2 < wz.heap.size → (∀ j, j < 32 → wz.cell? ⟨g2, 0 + j, none⟩ = some (.int .u8 (key j : Nat))) → Calls Try.prog 11 #[.slice (some ⟨g2, 0, none⟩) 32 c2, .slice (some ⟨b, o, none⟩) 32 cap] wz fun e w' => e = .returned (.bool true) ∧ w' = wz) :=
    fun wz g2 c2 h hg hcell => same_true c2 cap (.inr ⟨g2, 0, rfl, hg, hcell⟩) (hkb.below h (Nat.le_refl _)) hkey (fun e => by cases e) (fun e => by cases e)
  have hk0 : b < w.heap.size ∧ ∀ j, j < 32 → w.cell? ⟨b, o + j, none⟩ = some (.int .u8 (key j : Nat)) := by
    rcases hkb with h0 | ⟨b', o', e, hb, hc⟩
    · omega
    · simp only [Option.some.injEq, Addr.mk.injEq, and_true] at e
      obtain ⟨rfl, rfl⟩ := e
      exact ⟨hb, hc⟩
  obtain ⟨F, hF⟩ : ∃ F, F = flat 8 key 60 := ⟨_, rfl⟩
  have hFl : ∀ j, F j < 256 := fun j => by rw [hF]; exact flat_lt 8 key (fun j _ => hkey j) 60 j
  obtain ⟨CC, hCC⟩ : ∃ CC, CC = ccells F 14 IB := ⟨_, rfl⟩
  have HN : Hid (∀ wz g2 c2, g2 < wz.heap.size → 32 ≤ c2 → (∀ j, j < 32 → wz.cell? ⟨g2, 0 + j, none⟩ = some (.int .u8 (key j : Nat))) → Calls Try.prog 9 #[.slice (some ⟨g2, 0, none⟩) 32 c2] wz fun e w' => ∃ g, e = .returned (.tuple #[.pointer (some ⟨g, 0, none⟩), .int .i64 0]) ∧ wz.heap.size ≤ g ∧ Has w' g 57 CC ∧ Below wz.heap.size wz w') :=
    fun wz g2 c2 hg hc hcell => by rw [hCC, hF]; exact new_32 key g2 0 c2 wz (fun j _ => hkey j) hg hc hcell
  have HK : Hid (∀ wz, Below w.heap.size w wz → Calls Try.prog 10 #[.slice (some ⟨b, o, none⟩) 32 cap] wz fun e w' => ∃ g c, e = .returned (.slice (some ⟨g, 0, none⟩) 240 c) ∧ wz.heap.size ≤ g ∧ g < w'.heap.size ∧ KS g 240 F w' ∧ Below wz.heap.size wz w') :=
    fun wz h => by rw [hF]; exact rkeys_8 key b o cap wz (fun j _ => hkey j) (Nat.lt_of_lt_of_le hk0.1 h.size) (fun j hj => (h.cell (p := ⟨b, o + j, none⟩) hk0.1).trans (hk0.2 j hj))
  obtain ⟨X, hX⟩ : ∃ X, X = encAt F 14 f 14 := ⟨_, rfl⟩
  obtain ⟨Y, hY⟩ : ∃ Y, Y = decS F 14 f := ⟨_, rfl⟩
  have hXl : Byt X := by rw [hX]; exact encAt_lt (fun j _ => hFl j) 14 hf 14 (by omega)
  have hYl : Byt Y := by rw [hY]; exact decS_lt (fun j _ => hFl j) 14 (by omega) hf
  have HE : Hid (∀ wz g, Has wz g 57 CC → Calls Try.prog 13 #[.pointer (some ⟨g, 0, none⟩), .agg (cellsN .u8 16 f)] wz fun e w' => e = .returned (.agg (cellsN .u8 16 X)) ∧ Below wz.heap.size wz w') := fun wz g h => by rw [hX]; rw [hCC] at h; exact encrypt_any F 14 IB f g wz (fun j _ => hFl j) (by omega) hf h
  have HD : Hid (∀ wz g, Has wz g 57 CC → Calls Try.prog 15 #[.pointer (some ⟨g, 0, none⟩), .agg (cellsN .u8 16 f)] wz fun e w' => e = .returned (.agg (cellsN .u8 16 Y)) ∧ Below wz.heap.size wz w') := fun wz g h => by rw [hY]; rw [hCC] at h; exact decrypt_any F 14 f g wz (fun j _ => hFl j) (by omega) hf h
  have HRE : Hid (∀ wz g c, g < wz.heap.size → KS g 240 F wz → Calls Try.prog 14 #[.slice (some ⟨g, 0, none⟩) 240 c, .agg (cellsN .u8 16 f)] wz fun e w' => e = .returned (.agg (cellsN .u8 16 X)) ∧ Below wz.heap.size wz w') := fun wz g c hg h => by rw [hX]; exact renc_14 F f g c wz hf hFl hg h
  have HRD : Hid (∀ wz g c, g < wz.heap.size → KS g 240 F wz → Calls Try.prog 16 #[.slice (some ⟨g, 0, none⟩) 240 c, .agg (cellsN .u8 16 f)] wz fun e w' => e = .returned (.agg (cellsN .u8 16 Y)) ∧ Below wz.heap.size wz w') := fun wz g c hg h => by rw [hY]; exact rdec_14 F f g c wz hf hFl hg h
  clear hX hY hCC hF hk0
  go_enter Try.func3, Try.ntmps3
  go_wp2_with (first
    | ((at_builtin)
       (have _t := own0)
       (refine wpList_append_bytes rfl _ _ rfl (w.heap.size + 1) _ 0 (fun _ => 0) rfl own0 (some ⟨b, o, none⟩) 32 cap key rfl (fun e => by cases e) hkb0 (by omega) (by simp) ?_)
       (intro v1 w1 own1 gr1)
       (rw [← hw0] at gr1)
       (have hb1 : Below w0.heap.size w0 w1 := hbE.grown gr1 (by simp) (fun k' h => (by have e := Option.some.inj (show some (w.heap.size + 1) = some k' from h); rw [HE1.out]; omega)))
       (rw [Nat.zero_add, cat_zero] at own1)
       (have hbL : Below w1.heap.size w1 (w1.alloc (.cells #[.int .u8 ((77 : Nat) : Int)] 5)) := (Below.refl _ _).alloc (Nat.le_refl _) _)
       (have own1x := own_below own1 hbL (fun g hg => (own1.lt g hg).2))
       (have hb1x : Below w0.heap.size w0 (w1.alloc (.cells #[.int .u8 ((77 : Nat) : Int)] 5)) := hb1.trans (hbL.mono hb1.size))
       (clear own0 _t gr1 hkb0 hbE own1 hbL))
    | ((at_builtin)
       (have _t := own1x)
       (refine wpList_append_bytes rfl _ _ rfl (w.heap.size + 1) _ 32 key rfl own1x (some ⟨w1.heap.size, 0, none⟩) 1 1 (fun _ => 77) rfl (fun e => by cases e) (one_byte w1 77) (by omega) (by rw [← HE1.out]; exact hb1x.size) ?_)
       (intro v2 w2 own2 gr2)
       (have hb2 : Below w0.heap.size w0 w2 := hb1x.grown gr2 hb1x.size (fun k' h => by rw [HE1.out]; exact (own1x.lt k' h).1))
       (obtain ⟨g2, c2, cur2, rfl, hc2, hg2, hcell2, hbase2, hcur2, hcs2⟩ := own_row own2 (by omega))
       (have hkm : ∀ j, j < 32 → w2.cell? ⟨g2, 0 + j, none⟩ = some (.int .u8 (key j : Nat)) := (fun j hj => by rw [Nat.zero_add, hcell2 j (by omega)]; simp only [cat, if_pos hj]))
       (have hk77 : w2.cell? ⟨g2, 32, none⟩ = some (.int .u8 77) := (by rw [hcell2 32 (by omega)]; simp only [cat, if_neg (Nat.lt_irrefl 32)]; rfl))
       (have hB2 : Below w.heap.size w w2 := hB0.trans (hb2.mono hB0.size))
       (have hF2 := hF0.below hb2 hF0.lt)
       (clear own1x _t gr2 hb1x hcell2 own2))
    | (refine wpList_val (some 18) (.slice (some ⟨g2, 0, none⟩) 32 c2) rfl (by rfl) (run_slice_hi _ _ rfl g2 0 (32 + 1) c2 32 rfl rfl (by omega) (by omega) _) ?_)
    | (go_at_call 9; refine (HN.out w2 g2 c2 hg2 (by omega) hkm).mono ?_; rintro e w3 ⟨g, rfl, hgs, hC3, hb3⟩; have hB3 := hB2.trans (hb3.mono hB2.size); have hF3 := hF2.below hb3 hF2.lt; have hcur3 := hcur2.below hb3 hcur2.lt; have hg23 : g2 < w3.heap.size := hcur3.lt; have h77 : w3.cell? ⟨g2, 32, none⟩ = some (.int .u8 77) := (hb3.cell hg2).trans hk77; have hkm3 : ∀ j, j < 32 → w3.cell? ⟨g2, 0 + j, none⟩ = some (.int .u8 (key j : Nat)) := (fun j hj => (hb3.cell hg2).trans (hkm j hj)); have hgg2 : g2 < g := (by omega); clear hkm hk77 hF2 hcur2)
    | (go_at_call 10; refine (HK.out w3 hB3).mono ?_; rintro e w4 ⟨gk, ck, rfl, hgk3, hgk, hKS, hb4⟩; have hB4 := hB3.trans (hb4.mono hB3.size); have hF4 := hF3.below hb4 hF3.lt; have hC4 := hC3.below hb4 hC3.lt; have hcur4 := hcur3.below hb4 hcur3.lt; have hg24 : g2 < w4.heap.size := hcur4.lt; have h774 : w4.cell? ⟨g2, 32, none⟩ = some (.int .u8 77) := (hb4.cell hg23).trans h77; have hkm4 : ∀ j, j < 32 → w4.cell? ⟨g2, 0 + j, none⟩ = some (.int .u8 (key j : Nat)) := (fun j hj => (hb4.cell hg23).trans (hkm3 j hj)); have hgk2 : g2 < gk := (by omega); have hgc : g < w3.heap.size := hC3.lt; clear hkm3 h77 hF3 hcur3 hC3)
    | (go_at_call 11; refine (HSm.out w4 g2 c2 hB4 hg24 hkm4).mono ?_; rintro e w5 ⟨rfl, hw5⟩; rw [hw5]; clear hw5 w5)
    | (refine wpList_val (some 36) (.slice (some ⟨g2, 0, none⟩) 33 c2) rfl (by rfl) (run_slice_hi _ _ rfl g2 0 32 c2 33 rfl rfl hc2 (by omega) _) ?_))
  go_loopw [10] (fun i wr => ∃ k : Nat, k ≤ 32 ∧ i = .int .i64 (k : Nat) ∧ (∃ cs, Has wr g2 5 cs ∧ cs.size = c2) ∧ Has wr w.heap.size 23 (cellsN .u8 16 f) ∧ Has wr g 57 CC ∧ gk < wr.heap.size ∧ KS gk 240 F wr ∧ Below w.heap.size w wr)
    (fun i _ => 32 - (intOf i).toNat)
  case atStart => exact ⟨0, Nat.zero_le _, rfl, ⟨cur2, hcur4, hcs2⟩, hF4, hC4, hgk, hKS, hB4⟩
  case round =>
    have hne : w.heap.size ≠ g2 := by omega
    clear hcur4 hF4 hC4 hgk hKS hB4 hkm4 h774
    obtain ⟨k, hk, rfl, ⟨cs, hcs, hsz⟩, hF, hC, hgk, hKS, hB⟩ := hrel
    by_cases hlt : k < 32
    · have i1 : (k : Int) < 32 := by omega
      have d1 : wr.cell? ⟨g2, k, none⟩ = some cs[k]! := by rw [hcs.cell]; rw [getElem!_pos cs k (by omega)]; exact Array.getElem?_eq_getElem (by omega)
      have d2 := hcs.free k
      obtain ⟨cs', hcs', hsz'⟩ := hcs.setAny k (.int .u8 99)
      go_wp2
      go_roundw
      case rel => exact ⟨k + 1, by omega, by go_num, ⟨cs', hcs', by omega⟩, hF.other (by show w.heap.size ≠ g2; exact hne) _, hC.other (by show g ≠ g2; omega) _, by simpa using hgk, fun j hj => (cell_setOther (by show gk ≠ g2; omega) _).trans (hKS j hj), hB.setCell (by show w.heap.size ≤ g2; omega) _⟩
      case measure => simp [intOf]; omega
    · obtain rfl : k = 32 := by omega
      go_wp2_with fail
      refine wp_region_held_drew (S := fun w' => Has w' w.heap.size 23 (cellsN .u8 16 f)) (by kernel_rfl) hF (fun hHeld => ?_)
      have hC0 : Has wr.drew g 57 CC := hC
      have hK0 : KS gk 240 F wr.drew := hKS
      have hgk0 : gk < wr.drew.heap.size := hgk
      have hB0' : Below w.heap.size w wr.drew := hB.drew
      clear hC hKS hgk hB
      refine callTo 0 (some 70) 12 #[] (by kernel_rfl) rfl rfl (by rfl) (by kernel_rfl) (alive_any _) ?_
      rintro e z1 ⟨rfl, hbz1⟩
      have hS1x : Has z1 w.heap.size 23 (cellsN .u8 16 f) := Has.below hHeld hbz1 (Has.lt hHeld)
      have hC1x := hC0.below hbz1 hC0.lt
      have hK1x : KS gk 240 F z1 := fun j hj => (hbz1.cell (p := ⟨gk, j, none⟩) hgk0).trans (hK0 j hj)
      have hgk1x : gk < z1.heap.size := Nat.lt_of_lt_of_le hgk0 hbz1.size
      have hB1x := hB0'.trans (hbz1.mono hB0'.size)
      refine ⟨_, rfl, hS1x, ?_⟩
      clear hHeld
      have hHeld := hS1x
      simp only [Act.put, List.setIfInBounds_toArray, List.set_cons_zero, List.set_cons_succ]
      refine takeTo 1 (some 71) (.bool true) rfl rfl (by kernel_rfl) (by kernel_rfl) (by kernel_rfl) (fun _ _ _ h => h) (by rfl) (fun _ _ => rfl) hHeld ?_
      simp only [Act.put, List.setIfInBounds_toArray, List.set_cons_zero, List.set_cons_succ]
      refine takeTo 2 (some 72) (.pointer (some ⟨g, 0, none⟩)) rfl rfl (by kernel_rfl) (by kernel_rfl) (by kernel_rfl) (fun _ _ _ h => h) (by rfl) (fun _ _ => rfl) hHeld ?_
      simp only [Act.put, List.setIfInBounds_toArray, List.set_cons_zero, List.set_cons_succ]
      refine takeTo 3 (some 73) (.agg (cellsN .u8 16 f)) rfl rfl (by kernel_rfl) (by kernel_rfl) (by kernel_rfl) (fun _ _ _ h => h) (by rfl) (fun wz hz => run_load_row 23 _ rfl w.heap.size rfl _ 23 Try.underlying23 (by rw [cellsN_size]; exact Try.size23) wz hz) hHeld ?_
      simp only [Act.put, List.setIfInBounds_toArray, List.set_cons_zero, List.set_cons_succ]
      refine takeTo 5 (some 75) (.slice (some ⟨gk, 0, none⟩) 240 ck) rfl rfl (by kernel_rfl) (by kernel_rfl) (by kernel_rfl) (fun _ _ _ h => h) (by rfl) (fun _ _ => rfl) hHeld ?_
      simp only [Act.put, List.setIfInBounds_toArray, List.set_cons_zero, List.set_cons_succ]
      refine takeTo 6 (some 76) (.agg (cellsN .u8 16 f)) rfl rfl (by kernel_rfl) (by kernel_rfl) (by kernel_rfl) (fun _ _ _ h => h) (by rfl) (fun wz hz => run_load_row 23 _ rfl w.heap.size rfl _ 23 Try.underlying23 (by rw [cellsN_size]; exact Try.size23) wz hz) hHeld ?_
      simp only [Act.put, List.setIfInBounds_toArray, List.set_cons_zero, List.set_cons_succ]
      refine callTo 4 (some 74) 13 #[.pointer (some ⟨g, 0, none⟩), .agg (cellsN .u8 16 f)] (by kernel_rfl) rfl rfl (by rfl) (by kernel_rfl) (HE.out _ g hC1x) ?_
      rintro e z2 ⟨rfl, hbz2⟩
      have hS2x : Has z2 w.heap.size 23 (cellsN .u8 16 f) := Has.below hHeld hbz2 (Has.lt hHeld)
      have hC2x := hC1x.below hbz2 hC1x.lt
      have hK2x : KS gk 240 F z2 := fun j hj => (hbz2.cell (p := ⟨gk, j, none⟩) hgk1x).trans (hK1x j hj)
      have hgk2x : gk < z2.heap.size := Nat.lt_of_lt_of_le hgk1x hbz2.size
      have hB2x := hB1x.trans (hbz2.mono hB1x.size)
      refine ⟨_, rfl, hS2x, ?_⟩
      clear hHeld
      have hHeld := hS2x
      simp only [Act.put, List.setIfInBounds_toArray, List.set_cons_zero, List.set_cons_succ]
      refine callTo 7 (some 77) 14 #[.slice (some ⟨gk, 0, none⟩) 240 ck, .agg (cellsN .u8 16 f)] (by kernel_rfl) rfl rfl (by rfl) (by kernel_rfl) (HRE.out _ gk ck hgk2x hK2x) ?_
      rintro e z3 ⟨rfl, hbz3⟩
      have hS3x : Has z3 w.heap.size 23 (cellsN .u8 16 f) := Has.below hHeld hbz3 (Has.lt hHeld)
      have hC3x := hC2x.below hbz3 hC2x.lt
      have hK3x : KS gk 240 F z3 := fun j hj => (hbz3.cell (p := ⟨gk, j, none⟩) hgk2x).trans (hK2x j hj)
      have hgk3x : gk < z3.heap.size := Nat.lt_of_lt_of_le hgk2x hbz3.size
      have hB3x := hB2x.trans (hbz3.mono hB2x.size)
      refine ⟨_, rfl, hS3x, ?_⟩
      clear hHeld
      have hHeld := hS3x
      simp only [Act.put, List.setIfInBounds_toArray, List.set_cons_zero, List.set_cons_succ]
      refine takeTo 8 (some 78) (.bool true) rfl rfl (by kernel_rfl) (by kernel_rfl) (by kernel_rfl) (fun _ _ _ h => h) (by rfl) (fun wz _ => run_eql_true _ _ rfl X rfl rfl hXl wz) hHeld ?_
      simp only [Act.put, List.setIfInBounds_toArray, List.set_cons_zero, List.set_cons_succ]
      refine takeTo 9 (some 79) (.bool true) rfl rfl (by kernel_rfl) (by kernel_rfl) (by kernel_rfl) (fun _ _ _ h => h) (by rfl) (fun _ _ => rfl) hHeld ?_
      simp only [Act.put, List.setIfInBounds_toArray, List.set_cons_zero, List.set_cons_succ]
      refine takeTo 10 (some 80) (.bool true) rfl rfl (by kernel_rfl) (by kernel_rfl) (by kernel_rfl) (fun _ _ _ h => h) (by rfl) (fun _ _ => rfl) hHeld ?_
      simp only [Act.put, List.setIfInBounds_toArray, List.set_cons_zero, List.set_cons_succ]
      refine takeTo 11 (some 81) (.pointer (some ⟨g, 0, none⟩)) rfl rfl (by kernel_rfl) (by kernel_rfl) (by kernel_rfl) (fun _ _ _ h => h) (by rfl) (fun _ _ => rfl) hHeld ?_
      simp only [Act.put, List.setIfInBounds_toArray, List.set_cons_zero, List.set_cons_succ]
      refine takeTo 12 (some 82) (.agg (cellsN .u8 16 f)) rfl rfl (by kernel_rfl) (by kernel_rfl) (by kernel_rfl) (fun _ _ _ h => h) (by rfl) (fun wz hz => run_load_row 23 _ rfl w.heap.size rfl _ 23 Try.underlying23 (by rw [cellsN_size]; exact Try.size23) wz hz) hHeld ?_
      simp only [Act.put, List.setIfInBounds_toArray, List.set_cons_zero, List.set_cons_succ]
      refine takeTo 14 (some 84) (.slice (some ⟨gk, 0, none⟩) 240 ck) rfl rfl (by kernel_rfl) (by kernel_rfl) (by kernel_rfl) (fun _ _ _ h => h) (by rfl) (fun _ _ => rfl) hHeld ?_
      simp only [Act.put, List.setIfInBounds_toArray, List.set_cons_zero, List.set_cons_succ]
      refine takeTo 15 (some 85) (.agg (cellsN .u8 16 f)) rfl rfl (by kernel_rfl) (by kernel_rfl) (by kernel_rfl) (fun _ _ _ h => h) (by rfl) (fun wz hz => run_load_row 23 _ rfl w.heap.size rfl _ 23 Try.underlying23 (by rw [cellsN_size]; exact Try.size23) wz hz) hHeld ?_
      simp only [Act.put, List.setIfInBounds_toArray, List.set_cons_zero, List.set_cons_succ]
      refine callTo 13 (some 83) 15 #[.pointer (some ⟨g, 0, none⟩), .agg (cellsN .u8 16 f)] (by kernel_rfl) rfl rfl (by rfl) (by kernel_rfl) (HD.out _ g hC3x) ?_
      rintro e z4 ⟨rfl, hbz4⟩
      have hS4x : Has z4 w.heap.size 23 (cellsN .u8 16 f) := Has.below hHeld hbz4 (Has.lt hHeld)
      have hC4x := hC3x.below hbz4 hC3x.lt
      have hK4x : KS gk 240 F z4 := fun j hj => (hbz4.cell (p := ⟨gk, j, none⟩) hgk3x).trans (hK3x j hj)
      have hgk4x : gk < z4.heap.size := Nat.lt_of_lt_of_le hgk3x hbz4.size
      have hB4x := hB3x.trans (hbz4.mono hB3x.size)
      refine ⟨_, rfl, hS4x, ?_⟩
      clear hHeld
      have hHeld := hS4x
      simp only [Act.put, List.setIfInBounds_toArray, List.set_cons_zero, List.set_cons_succ]
      refine callTo 16 (some 86) 16 #[.slice (some ⟨gk, 0, none⟩) 240 ck, .agg (cellsN .u8 16 f)] (by kernel_rfl) rfl rfl (by rfl) (by kernel_rfl) (HRD.out _ gk ck hgk4x hK4x) ?_
      rintro e z5 ⟨rfl, hbz5⟩
      have hS5x : Has z5 w.heap.size 23 (cellsN .u8 16 f) := Has.below hHeld hbz5 (Has.lt hHeld)
      have hC5x := hC4x.below hbz5 hC4x.lt
      have hK5x : KS gk 240 F z5 := fun j hj => (hbz5.cell (p := ⟨gk, j, none⟩) hgk4x).trans (hK4x j hj)
      have hgk5x : gk < z5.heap.size := Nat.lt_of_lt_of_le hgk4x hbz5.size
      have hB5x := hB4x.trans (hbz5.mono hB4x.size)
      refine ⟨_, rfl, hS5x, ?_⟩
      clear hHeld
      have hHeld := hS5x
      simp only [Act.put, List.setIfInBounds_toArray, List.set_cons_zero, List.set_cons_succ]
      refine takeTo 17 (some 87) (.bool true) rfl rfl (by kernel_rfl) (by kernel_rfl) (by kernel_rfl) (fun _ _ _ h => h) (by rfl) (fun wz _ => run_eql_true _ _ rfl Y rfl rfl hYl wz) hHeld ?_
      simp only [Act.put, List.setIfInBounds_toArray, List.set_cons_zero, List.set_cons_succ]
      refine takeTo 18 (some 88) (.bool true) rfl rfl (by kernel_rfl) (by kernel_rfl) (by kernel_rfl) (fun _ _ _ h => h) (by rfl) (fun _ _ => rfl) hHeld ?_
      simp only [Act.put, List.setIfInBounds_toArray, List.set_cons_zero, List.set_cons_succ]
      refine takeTo 19 (some 4) (.bool true) rfl rfl (by kernel_rfl) (by kernel_rfl) (by kernel_rfl) (fun _ _ _ h => h) (by rfl) (fun _ _ => rfl) hHeld ?_
      simp only [Act.put, List.setIfInBounds_toArray, List.set_cons_zero, List.set_cons_succ]
      refine wpAnyH_done (by kernel_rfl) ?_ _
      go_wp2
      go_ret
      exact ⟨rfl, hB5x⟩

end Go.Proofs.Ytcnlegnfecpdnaa
