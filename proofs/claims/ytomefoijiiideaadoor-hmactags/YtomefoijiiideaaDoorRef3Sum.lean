/- The reference's HMAC. -/
import Derived.Test.YtomefoijiiideaaDoorAppOne
import Derived.Test.YtomefoijiiideaaDoorSameAny
import Derived.Test.YtomefoijiiideaaDoorHmacSum
namespace Go.Proofs.YtomefoijiiideaaDoor
open Go.ChangeShapes Go.WideShapes Go.ChangeAt Go.RowKit
set_option linter.unusedVariables false

theorem xorm54 {fk : Nat → Nat} (h : ∀ j, fk j < 256) (j : Nat) : xorm fk 54 j < 256 := xor_lt8 (h j) (by decide)
theorem xorm92 {fk : Nat → Nat} (h : ∀ j, fk j < 256) (j : Nat) : xorm fk 92 j < 256 := xor_lt8 (h j) (by decide)

set_option maxRecDepth 100000 in
set_option maxHeartbeats 1600000 in
theorem r3_short (ka ba : Option Addr) (kl kc n bc : Nat) (kf M : Nat → Nat) (w : World) (hkf : ∀ j, kf j < 256) (hM : ∀ j, M j < 256) (hkc' : kl ≤ kc) (hkl : kl ≤ 140737488351232) (hknil : ka = none → kl = 0 ∧ kc = 0) (hkb : Bytes w ka kl kf)
    (hbc : n ≤ bc) (hn : n ≤ 140737488354000) (hbnil : ba = none → n = 0 ∧ bc = 0) (hbb' : Bytes w ba n M) (hcase : kl ≤ 64) :
    Calls Tryd.prog 16 #[.slice ka kl kc, .slice ba n bc] w fun e w' => e = .returned (.agg (cellsN .u8 32 (HM Hc Kc kf kl M n))) ∧ Below w.heap.size w w' := by
  obtain ⟨fk, hfke⟩ : ∃ fk, fk = fillk Hc Kc kf kl := ⟨_, rfl⟩
  have hfk : ∀ j, fk j < 256 := fun j => by rw [hfke]; exact fillk_lt _ _ _ _ hkf j
  obtain ⟨D, hDe⟩ : ∃ D, D = SHA Hc Kc (cat (xorm fk 54) 64 M) (64 + n) := ⟨_, rfl⟩
  have hDl : ∀ j, D j < 256 := fun j => by rw [hDe]; exact SHA_lt' _ _ _ _ _
  obtain ⟨Z, hZe⟩ : ∃ Z, Z = SHA Hc Kc (cat (xorm fk 92) 64 D) 96 := ⟨_, rfl⟩
  have HZ : Hid (Z = HM Hc Kc kf kl M n) := (by rw [HM_eq, hZe, hDe, hfke]; rfl : Z = HM Hc Kc kf kl M n)
  have HRS : Hid (∀ wz g c N (m : Nat → Nat), g < wz.heap.size → N ≤ c → N ≤ 140737488355000 → (∀ j, j < N → wz.cell? ⟨g, j, none⟩ = some (.int .u8 (m j : Nat))) → (∀ j, m j < 256) → m = m → N = N → Calls Tryd.prog 10 #[.slice (some ⟨g, 0, none⟩) N c] wz fun e w' => e = .returned (.agg (cellsN .u8 32 (SHA Hc Kc m N))) ∧ Below wz.heap.size wz w') :=
    fun wz g c N m hg hc hN hcell hm _ _ => rsum_any m N c (some ⟨g, 0, none⟩) wz (fun e => by cases e) (.inr ⟨g, 0, rfl, hg, fun j hj => by rw [Nat.zero_add]; exact hcell j hj⟩) hm hN hc
  have HRS2 : Hid (∀ wz g c N (m : Nat → Nat), g < wz.heap.size → N ≤ c → N ≤ 140737488355000 → (∀ j, j < N → wz.cell? ⟨g, j, none⟩ = some (.int .u8 (m j : Nat))) → (∀ j, m j < 256) → m = cat (xorm fk 92) 64 D → N = 96 → Calls Tryd.prog 10 #[.slice (some ⟨g, 0, none⟩) N c] wz fun e w' => e = .returned (.agg (cellsN .u8 32 Z)) ∧ Below wz.heap.size wz w') :=
    fun wz g c N m hg hc hN hcell hm e1 e2 => by
      have := HRS.out wz g c N m hg hc hN hcell hm rfl rfl
      rw [e1, e2, ← hZe] at this
      rw [e2]
      exact this
  have HRS1 : Hid (∀ wz g c N (m : Nat → Nat), g < wz.heap.size → N ≤ c → N ≤ 140737488355000 → (∀ j, j < N → wz.cell? ⟨g, j, none⟩ = some (.int .u8 (m j : Nat))) → (∀ j, m j < 256) → m = cat (xorm fk 54) 64 M → N = 64 + n → Calls Tryd.prog 10 #[.slice (some ⟨g, 0, none⟩) N c] wz fun e w' => e = .returned (.agg (cellsN .u8 32 D)) ∧ Below wz.heap.size wz w') :=
    fun wz g c N m hg hc hN hcell hm e1 e2 => by
      have := HRS.out wz g c N m hg hc hN hcell hm rfl rfl
      rw [e1, e2, ← hDe] at this
      rw [e2]
      exact this
  have HFK : Hid (fk = fillk Hc Kc kf kl) := hfke
  have HKS : Hid (∀ wz, Below w.heap.size w wz → Calls Tryd.prog 10 #[.slice ka kl kc] wz fun e w' => e = .returned (.agg (cellsN .u8 32 (SHA Hc Kc kf kl))) ∧ Below wz.heap.size wz w') := fun wz h => rsum_any kf kl kc ka wz hknil (hkb.below h (Nat.le_refl _)) hkf (by omega) hkc'
  clear HRS
  have HRS := HRS1
  clear HRS1 hDe hZe hfke
  obtain ⟨w0, hw0⟩ : ∃ x, x = w.alloc (.cells #[.int .u8 0, .int .u8 0, .int .u8 0, .int .u8 0, .int .u8 0, .int .u8 0, .int .u8 0, .int .u8 0, .int .u8 0, .int .u8 0, .int .u8 0, .int .u8 0, .int .u8 0, .int .u8 0, .int .u8 0, .int .u8 0, .int .u8 0, .int .u8 0, .int .u8 0, .int .u8 0, .int .u8 0, .int .u8 0, .int .u8 0, .int .u8 0, .int .u8 0, .int .u8 0, .int .u8 0, .int .u8 0, .int .u8 0, .int .u8 0, .int .u8 0, .int .u8 0] 23) := ⟨_, rfl⟩
  have hR0 : Has w0 w.heap.size 23 (cellsN .u8 32 fun _ => 0) := by rw [hw0]; exact Has.new _ _ _
  have hB0 : Below w.heap.size w w0 := by rw [hw0]; exact (Below.refl _ _).alloc (Nat.le_refl _) _
  have own0 := World.ownsRow_lit (base := w0.heap.size) (e := 5) (size := 1) w0 #[] 0 (Nat.le_refl _) (by unfold maxLen; omega) rfl
  have hbE : Below w0.heap.size w0 (w0.alloc (.cells #[] 5)) := (Below.refl _ _).alloc (Nat.le_refl _) _
  have hkb0 := (hkb.below hB0 (Nat.le_refl _)).below hbE (Nat.le_refl _)
  have e1 : w0.heap.size = w.heap.size + 1 := by rw [hw0]; simp
  have HE1 : Hid (w0.heap.size = w.heap.size + 1) := e1
  rw [e1] at own0
  rw [hw0] at own0 hkb0
  clear e1
  go_enter Tryd.func16, Tryd.ntmps16
  have i0 : ¬ (64 : Int) < (kl : Int) := by omega
  go_wp2_with (first
    | ((at_builtin)
       (have _t := own0)
       (refine wpList_append_bytes rfl _ _ rfl (w.heap.size + 1) _ 0 (fun _ => 0) rfl own0 ka kl kc kf rfl hknil hkb0 (by omega) (by simp) ?_)
       (intro v1 w1 own1 gr1)
       (rw [← hw0] at gr1)
       (have hb1 : Below w0.heap.size w0 w1 := hbE.grown gr1 (by simp) (fun k' h => (by have e := Option.some.inj (show some (w.heap.size + 1) = some k' from h); rw [HE1.out]; omega)))
       (rw [Nat.zero_add, cat_zero] at own1)
       (have hR1 := hR0.below hb1 hR0.lt)
       (have hB1 : Below w.heap.size w w1 := hB0.trans (hb1.mono hB0.size))
       (clear own0 _t gr1 hkb0 hbE)
       (obtain ⟨a1, c1, rfl, hc1, hn1, _, _⟩ := own_bytes own1)))
  have own2 : w1.ownsRow (w.heap.size + 1) 5 1 (.slice a1 kl c1) kl (bl fk kl) := by
    rw [bl_same fk kf kl (fun j hj => by rw [HFK.out]; unfold fillk; rw [if_neg (by omega), if_pos hj])]
    exact own1
  go_loopw [5] (fun v wr => ∃ t : Nat, kl ≤ t ∧ t ≤ 64 ∧ wr.ownsRow (w.heap.size + 1) 5 1 v t (bl fk t) ∧ Has wr w.heap.size 23 (cellsN .u8 32 fun _ => 0) ∧ Below w.heap.size w wr)
    (fun v _ => 64 - lenOf v)
  case atStart => exact ⟨kl, Nat.le_refl _, hcase, own2, hR1, hB1⟩
  case round =>
    clear own1 own2 hR1 hB1 hb1
    obtain ⟨t, ht0, ht, hown, hR, hbel⟩ := hrel
    have hz0 : ∀ j, kl ≤ j → fk j = 0 := fun j hj => by rw [HFK.out]; unfold fillk; rw [if_neg (by omega), if_neg (by omega)]
    by_cases hlt : t < 64
    · have i1 : (t : Int) < 64 := by omega
      obtain ⟨a5, c5, rfl, hc5, hn5, _, _⟩ := own_bytes hown
      have hsz5 : w.heap.size + 1 ≤ wr.heap.size := hR.lt
      go_wp2_with (first
        | ((at_builtin)
           (refine wpList_append_one rfl _ _ rfl (w.heap.size + 1) _ t fk rfl hown 0 rfl (hz0 t ht0) (by omega) hsz5 ?_)
           (intro g6 c6 w6 o6 gr6 at6 lt6)
           (have hx6 : Below wr.heap.size wr (wr.alloc (.cells #[.int .u8 ((0 : Nat) : Int)] 5)) := (Below.refl _ _).alloc (Nat.le_refl _) _)
           (have hlt0 : w.heap.size < w.heap.size + 1 := Nat.lt_succ_self _)
           (have hb6 : Below (w.heap.size + 1) wr w6 := (hx6.mono hsz5).grown gr6 (by simp; omega) (fun k' h => (hown.lt k' h).1))
           (have hR6 := hR.below hb6 hlt0)
           (have hB6 : Below w.heap.size w w6 := hbel.trans (hb6.mono (by omega)))
           (clear gr6 at6 hx6)))
      go_roundw
      case rel => exact ⟨t + 1, by omega, by omega, o6, hR6, hB6⟩
      case measure => simp only [lenOf]; omega
    · obtain rfl : t = 64 := by omega
      obtain ⟨gk, ck, rfl, hck, hgk, hkc⟩ := own_some hown (by omega)
      clear hown
      obtain ⟨wB, hwB⟩ : ∃ x, x = wr := ⟨_, rfl⟩
      rw [← hwB] at hR hbel hgk hkc ⊢
      clear hwB
      go_wp2
      go_loopw [7, 8, 9] (fun vi vo i wr => ∃ t : Nat, t ≤ 64 ∧ i = .int .i64 t ∧ wr.ownsRow wB.heap.size 5 1 vi t (bl (xorm fk 54) t) ∧ wr.ownsRow wB.heap.size 5 1 vo t (bl (xorm fk 92) t) ∧ (∀ g, Value.ownBlock vi = some g → Value.ownBlock vo ≠ some g) ∧ Below wB.heap.size wB wr)
        (fun _ _ i _ => 64 - (intOf i).toNat)
      case atStart => exact ⟨0, Nat.zero_le _, rfl, ⟨by simp [bl], .inl ⟨rfl, rfl⟩⟩, ⟨by simp [bl], .inl ⟨rfl, rfl⟩⟩, (fun g h => by cases h), Below.refl _ _⟩
      case round =>
        obtain ⟨t, ht, rfl, oi, oo, hap, hbb⟩ := hrel
        by_cases hlt : t < 64
        · have i1 : (t : Int) < 64 := by omega
          have i0 : (0 : Int) ≤ (t : Int) := by omega
          have hc1 : wr.cell? ⟨gk, t, none⟩ = some (.int .u8 (fk t : Nat)) := (hbb.cell hgk).trans (hkc t hlt)
          have x1 : bits .xor .u8 ((fk t : Nat) : Int) 54 = ((xorm fk 54 t : Nat) : Int) := u8_xor_nat (fk t) 54 (hfk t) (by decide)
          have x2 : bits .xor .u8 ((fk t : Nat) : Int) 92 = ((xorm fk 92 t : Nat) : Int) := u8_xor_nat (fk t) 92 (hfk t) (by decide)
          have hszB := hbb.size
          go_wp2_with (first
            | ((at_builtin)
               (have _t := oi)
               (refine wpList_append_one rfl _ _ rfl wB.heap.size _ t (xorm fk 54) rfl oi (xorm fk 54 t) rfl rfl (by omega) hszB ?_)
               (intro g1 c1 w1 o1 gr1 at1 lt1)
               (have hx1 : Below wr.heap.size wr (wr.alloc (.cells #[.int .u8 ((xorm fk 54 t : Nat) : Int)] 5)) := (Below.refl _ _).alloc (Nat.le_refl _) _)
               (have oo1 := own_grown (own_below oo hx1 (fun g hg => (oo.lt g hg).2)) gr1 (fun g hg e => hap g e hg))
               (have hb1 : Below wB.heap.size wB w1 := (hbb.trans (hx1.mono hszB)).grown gr1 (by simp; omega) (fun k' h => (oi.lt k' h).1))
               (have hap1 : ∀ g, some g1 = some g → Value.ownBlock _ ≠ some g := (fun g hg e => by
                  obtain rfl : g1 = g := Option.some.inj hg
                  rcases at1 with h | h
                  · exact hap _ h e
                  · have := (oo.lt _ e).2; omega))
               (have hc2 : w1.cell? ⟨gk, t, none⟩ = some (.int .u8 (fk t : Nat)) := (hb1.cell hgk).trans (hkc t hlt))
               (have hsz1 := hb1.size)
               (clear oi _t oo gr1 at1 hx1 hap hc1 hbb hszB))
            | ((at_builtin)
               (refine wpList_append_one rfl _ _ rfl wB.heap.size _ t (xorm fk 92) rfl oo1 (xorm fk 92 t) rfl rfl (by omega) hsz1 ?_)
               (intro g2 c2 w2 o2 gr2 at2 lt2)
               (have hx2 : Below w1.heap.size w1 (w1.alloc (.cells #[.int .u8 ((xorm fk 92 t : Nat) : Int)] 5)) := (Below.refl _ _).alloc (Nat.le_refl _) _)
               (have oi2 := own_grown (own_below o1 hx2 (fun g hg => (o1.lt g hg).2)) gr2 (fun g hg e => hap1 g hg e))
               (have hb2 : Below wB.heap.size wB w2 := (hb1.trans (hx2.mono hsz1)).grown gr2 (by simp; omega) (fun k' h => (oo1.lt k' h).1))
               (have hap2 : g1 ≠ g2 := (fun e => by
                  rcases at2 with h | h
                  · exact hap1 g1 rfl (by rw [e]; exact h)
                  · omega))
               (clear oo1 gr2 at2 hx2 hap1 hc2 hb1 hsz1 o1)))
          go_roundw
          case rel => exact ⟨t + 1, by omega, by go_num, oi2, o2, (fun g hg e => hap2 (by have e1 : g1 = g := Option.some.inj (show some g1 = some g from hg); have e2 : g2 = g := Option.some.inj (show some g2 = some g from e); omega)), hb2⟩
          case measure => simp [intOf]; omega
        · obtain rfl : t = 64 := by omega
          rw [show ((64 : Nat) : Int) = 64 from rfl]
          have hBw : Below w.heap.size w wr := hbel.trans (hbb.mono hbel.size)
          have hbM : Bytes wr ba n M := hbb'.below hBw (Nat.le_refl _)
          have hRr := hR.below hbb hR.lt
          have hszB := hbb.size
          clear hkc
          go_wp2_with (first
            | ((at_builtin)
               (have _t := oi)
               (refine wpList_append_bytes rfl _ _ rfl wB.heap.size _ 64 (xorm fk 54) rfl oi ba n bc M rfl hbnil hbM (by omega) hszB ?_)
               (intro v3 w3 o3 gr3)
               (have oo3 := own_grown oo gr3 (fun g hg e => hap g e hg))
               (have hb3 : Below wB.heap.size wB w3 := hbb.grown gr3 hszB (fun k' h => (oi.lt k' h).1))
               (have hR3 := hR.below hb3 hR.lt)
               (obtain ⟨g3, c3, rfl, hc3, hg3, hcell3⟩ := own_some o3 (by omega))
               (have hsum := HRS.out w3 g3 c3 (64 + n) (cat (xorm fk 54) 64 M) hg3 hc3 (by omega) hcell3 (cat_lt _ _ _ (xorm54 hfk) hM) rfl rfl)
               (clear oi _t gr3 hbM hRr oo o3 hcell3))
            | (go_at_call 10
               have _t := hsum
               refine hsum.mono ?_
               rintro e w4 ⟨rfl, hb4⟩
               have oo4 := own_below oo3 hb4 (fun g hg => (oo3.lt g hg).2)
               have hR4 := hR3.below hb4 hR3.lt
               have hB4 : Below wB.heap.size wB w4 := hb3.trans (hb4.mono hb3.size)
               have hn4 : Has (w4.alloc (.cells (cellsN .u8 32 fun _ => 0) 23)) w4.heap.size 23 (cellsN .u8 32 fun _ => 0) := Has.new _ _ _
               clear hsum _t)
            | (refine wpList_store_rowG rfl 23 _ _ rfl w4.heap.size (cellsN .u8 32 D) rfl rfl 23 _ hn4 (by rw [cellsN_size]; exact Tryd.size23) (by simp [cellsN_size]) (cellsN_one _ _ _) ?_
               intro w5 hw5
               have hb45 : Below w4.heap.size w4 w5 := by rw [hw5]; exact below_setRow ((Below.refl _ _).alloc (Nat.le_refl _) _) (Nat.le_refl _) _
               have hD5 : Has w5 w4.heap.size 23 (cellsN .u8 32 D) := by rw [hw5]; exact hn4.setRow _
               have oo5 := own_below oo4 hb45 (fun g hg => (oo4.lt g hg).2)
               have hR5 := hR4.below hb45 hR4.lt
               have hB5 : Below wB.heap.size wB w5 := hB4.trans (hb45.mono hB4.size)
               have hDb : Bytes w5 (some ⟨w4.heap.size, 0, none⟩) 32 D := .inr ⟨w4.heap.size, 0, rfl, hD5.lt, fun j hj => by rw [Nat.zero_add]; exact hD5.num j hj⟩
               clear hw5 hn4 hb45 oo3 oo4)
            | ((at_builtin)
               (refine wpList_append_bytes rfl _ _ rfl wB.heap.size _ 64 (xorm fk 92) rfl oo5 (some ⟨w4.heap.size, 0, none⟩) 32 32 D rfl (fun e => by cases e) hDb (by omega) hB5.size ?_)
               (intro v6 w6 o6 gr6)
               (have hb6 : Below wB.heap.size wB w6 := hB5.grown gr6 hB5.size (fun k' h => (oo5.lt k' h).1))
               (have hR6 := hR.below hb6 hR.lt)
               (obtain ⟨g6, c6, rfl, hc6, hg6, hcell6⟩ := own_some o6 (by omega))
               (have hsum2 := HRS2.out w6 g6 c6 96 (cat (xorm fk 92) 64 D) hg6 hc6 (by omega) hcell6 (cat_lt _ _ _ (xorm92 hfk) hDl) rfl rfl)
               (clear gr6 hDb oo5 o6 hcell6))
            | (go_at_call 10
               refine hsum2.mono ?_
               rintro e w7 ⟨rfl, hb7⟩
               have hR7 := hR6.below hb7 hR6.lt
               have hB7 : Below wB.heap.size wB w7 := hb6.trans (hb7.mono hb6.size)
               clear hsum2)
            | (refine wpList_store_rowG rfl 23 _ _ rfl w.heap.size (cellsN .u8 32 Z) rfl rfl 23 _ hR7 (by rw [cellsN_size]; exact Tryd.size23) (by simp [cellsN_size]) (cellsN_one _ _ _) ?_
               intro w8 hw8
               have hR8 : Has w8 w.heap.size 23 (cellsN .u8 32 Z) := by rw [hw8]; exact hR7.setRow _
               have hB8 : Below w.heap.size w w8 := by rw [hw8]; exact below_setRow (hbel.trans (hB7.mono hbel.size)) (Nat.le_refl _) _
               clear hw8))
          exact bodyPost_ret (results_cell_row rfl _ _ w.heap.size 23 _ (0, 0) _ rfl hR8 Tryd.underlying23 rfl (by rw [cellsN_size]; exact Tryd.size23)) rfl ⟨by rw [HZ.out], hB8⟩

set_option maxRecDepth 100000 in
set_option maxHeartbeats 1600000 in
theorem r3_long (ka ba : Option Addr) (kl kc n bc : Nat) (kf M : Nat → Nat) (w : World) (hkf : ∀ j, kf j < 256) (hM : ∀ j, M j < 256) (hkc' : kl ≤ kc) (hkl : kl ≤ 140737488351232) (hknil : ka = none → kl = 0 ∧ kc = 0) (hkb : Bytes w ka kl kf)
    (hbc : n ≤ bc) (hn : n ≤ 140737488354000) (hbnil : ba = none → n = 0 ∧ bc = 0) (hbb' : Bytes w ba n M) (hcase : 64 < kl) :
    Calls Tryd.prog 16 #[.slice ka kl kc, .slice ba n bc] w fun e w' => e = .returned (.agg (cellsN .u8 32 (HM Hc Kc kf kl M n))) ∧ Below w.heap.size w w' := by
  obtain ⟨fk, hfke⟩ : ∃ fk, fk = fillk Hc Kc kf kl := ⟨_, rfl⟩
  have hfk : ∀ j, fk j < 256 := fun j => by rw [hfke]; exact fillk_lt _ _ _ _ hkf j
  obtain ⟨D, hDe⟩ : ∃ D, D = SHA Hc Kc (cat (xorm fk 54) 64 M) (64 + n) := ⟨_, rfl⟩
  have hDl : ∀ j, D j < 256 := fun j => by rw [hDe]; exact SHA_lt' _ _ _ _ _
  obtain ⟨Z, hZe⟩ : ∃ Z, Z = SHA Hc Kc (cat (xorm fk 92) 64 D) 96 := ⟨_, rfl⟩
  have HZ : Hid (Z = HM Hc Kc kf kl M n) := (by rw [HM_eq, hZe, hDe, hfke]; rfl : Z = HM Hc Kc kf kl M n)
  have HRS : Hid (∀ wz g c N (m : Nat → Nat), g < wz.heap.size → N ≤ c → N ≤ 140737488355000 → (∀ j, j < N → wz.cell? ⟨g, j, none⟩ = some (.int .u8 (m j : Nat))) → (∀ j, m j < 256) → m = m → N = N → Calls Tryd.prog 10 #[.slice (some ⟨g, 0, none⟩) N c] wz fun e w' => e = .returned (.agg (cellsN .u8 32 (SHA Hc Kc m N))) ∧ Below wz.heap.size wz w') :=
    fun wz g c N m hg hc hN hcell hm _ _ => rsum_any m N c (some ⟨g, 0, none⟩) wz (fun e => by cases e) (.inr ⟨g, 0, rfl, hg, fun j hj => by rw [Nat.zero_add]; exact hcell j hj⟩) hm hN hc
  have HRS2 : Hid (∀ wz g c N (m : Nat → Nat), g < wz.heap.size → N ≤ c → N ≤ 140737488355000 → (∀ j, j < N → wz.cell? ⟨g, j, none⟩ = some (.int .u8 (m j : Nat))) → (∀ j, m j < 256) → m = cat (xorm fk 92) 64 D → N = 96 → Calls Tryd.prog 10 #[.slice (some ⟨g, 0, none⟩) N c] wz fun e w' => e = .returned (.agg (cellsN .u8 32 Z)) ∧ Below wz.heap.size wz w') :=
    fun wz g c N m hg hc hN hcell hm e1 e2 => by
      have := HRS.out wz g c N m hg hc hN hcell hm rfl rfl
      rw [e1, e2, ← hZe] at this
      rw [e2]
      exact this
  have HRS1 : Hid (∀ wz g c N (m : Nat → Nat), g < wz.heap.size → N ≤ c → N ≤ 140737488355000 → (∀ j, j < N → wz.cell? ⟨g, j, none⟩ = some (.int .u8 (m j : Nat))) → (∀ j, m j < 256) → m = cat (xorm fk 54) 64 M → N = 64 + n → Calls Tryd.prog 10 #[.slice (some ⟨g, 0, none⟩) N c] wz fun e w' => e = .returned (.agg (cellsN .u8 32 D)) ∧ Below wz.heap.size wz w') :=
    fun wz g c N m hg hc hN hcell hm e1 e2 => by
      have := HRS.out wz g c N m hg hc hN hcell hm rfl rfl
      rw [e1, e2, ← hDe] at this
      rw [e2]
      exact this
  have HFK : Hid (fk = fillk Hc Kc kf kl) := hfke
  have HKS : Hid (∀ wz, Below w.heap.size w wz → Calls Tryd.prog 10 #[.slice ka kl kc] wz fun e w' => e = .returned (.agg (cellsN .u8 32 (SHA Hc Kc kf kl))) ∧ Below wz.heap.size wz w') := fun wz h => rsum_any kf kl kc ka wz hknil (hkb.below h (Nat.le_refl _)) hkf (by omega) hkc'
  clear HRS
  have HRS := HRS1
  clear HRS1 hDe hZe hfke
  obtain ⟨w0, hw0⟩ : ∃ x, x = w.alloc (.cells #[.int .u8 0, .int .u8 0, .int .u8 0, .int .u8 0, .int .u8 0, .int .u8 0, .int .u8 0, .int .u8 0, .int .u8 0, .int .u8 0, .int .u8 0, .int .u8 0, .int .u8 0, .int .u8 0, .int .u8 0, .int .u8 0, .int .u8 0, .int .u8 0, .int .u8 0, .int .u8 0, .int .u8 0, .int .u8 0, .int .u8 0, .int .u8 0, .int .u8 0, .int .u8 0, .int .u8 0, .int .u8 0, .int .u8 0, .int .u8 0, .int .u8 0, .int .u8 0] 23) := ⟨_, rfl⟩
  have hR0 : Has w0 w.heap.size 23 (cellsN .u8 32 fun _ => 0) := by rw [hw0]; exact Has.new _ _ _
  have hB0 : Below w.heap.size w w0 := by rw [hw0]; exact (Below.refl _ _).alloc (Nat.le_refl _) _
  have own0 := World.ownsRow_lit (base := w0.heap.size) (e := 5) (size := 1) w0 #[] 0 (Nat.le_refl _) (by unfold maxLen; omega) rfl
  have hbE : Below w0.heap.size w0 (w0.alloc (.cells #[] 5)) := (Below.refl _ _).alloc (Nat.le_refl _) _
  have hkb0 := (hkb.below hB0 (Nat.le_refl _)).below hbE (Nat.le_refl _)
  have e1 : w0.heap.size = w.heap.size + 1 := by rw [hw0]; simp
  have HE1 : Hid (w0.heap.size = w.heap.size + 1) := e1
  rw [e1] at own0
  rw [hw0] at own0 hkb0
  clear e1
  go_enter Tryd.func16, Tryd.ntmps16
  have i0 : (64 : Int) < (kl : Int) := by omega
  go_wp2_with (first
    | ((at_builtin)
       (have _t := own0)
       (refine wpList_append_bytes rfl _ _ rfl (w.heap.size + 1) _ 0 (fun _ => 0) rfl own0 ka kl kc kf rfl hknil hkb0 (by omega) (by simp) ?_)
       (intro v1 w1 own1 gr1)
       (rw [← hw0] at gr1)
       (have hb1 : Below w0.heap.size w0 w1 := hbE.grown gr1 (by simp) (fun k' h => (by have e := Option.some.inj (show some (w.heap.size + 1) = some k' from h); rw [HE1.out]; omega)))
       (rw [Nat.zero_add, cat_zero] at own1)
       (have hR1 := hR0.below hb1 hR0.lt)
       (have hB1 : Below w.heap.size w w1 := hB0.trans (hb1.mono hB0.size))
       (clear own0 _t gr1 hkb0 hbE)
       (obtain ⟨a1, c1, rfl, hc1, hn1, _, _⟩ := own_bytes own1)
       (have hks := HKS.out w1 hB1))
    | (go_at_call 10
       refine hks.mono ?_
       rintro e w2 ⟨rfl, hb2⟩
       have hR2 := hR1.below hb2 hR1.lt
       have hB2 : Below w.heap.size w w2 := hB1.trans (hb2.mono hB1.size)
       have hn2 : Has (w2.alloc (.cells (cellsN .u8 32 fun _ => 0) 23)) w2.heap.size 23 (cellsN .u8 32 fun _ => 0) := Has.new _ _ _
       clear hks)
    | (refine wpList_store_rowG rfl 23 _ _ rfl w2.heap.size (cellsN .u8 32 (SHA Hc Kc kf kl)) rfl rfl 23 _ hn2 (by rw [cellsN_size]; exact Tryd.size23) (by simp [cellsN_size]) (cellsN_one _ _ _) ?_
       intro w3 hw3
       have hb23 : Below w2.heap.size w2 w3 := by rw [hw3]; exact below_setRow ((Below.refl _ _).alloc (Nat.le_refl _) _) (Nat.le_refl _) _
       have hD3 : Has w3 w2.heap.size 23 (cellsN .u8 32 (SHA Hc Kc kf kl)) := by rw [hw3]; exact hn2.setRow _
       have hR3 := hR2.below hb23 hR2.lt
       have hB3 : Below w.heap.size w w3 := hB2.trans (hb23.mono hB2.size)
       have own3 := World.ownsRow_lit (base := w.heap.size + 1) (e := 5) (size := 1) w3 #[] 0 hR3.lt (by unfold maxLen; omega) rfl
       have hbE3 : Below w3.heap.size w3 (w3.alloc (.cells #[] 5)) := (Below.refl _ _).alloc (Nat.le_refl _) _
       have hDb : Bytes (w3.alloc (.cells #[] 5)) (some ⟨w2.heap.size, 0, none⟩) 32 (SHA Hc Kc kf kl) := .inr ⟨w2.heap.size, 0, rfl, (hD3.alloc _).lt, fun j hj => by rw [Nat.zero_add]; exact (hD3.alloc _).num j hj⟩
       clear hw3 hn2 hD3 hb23)
    | ((at_builtin)
       (refine wpList_append_bytes rfl _ _ rfl (w.heap.size + 1) _ 0 (fun _ => 0) rfl own3 (some ⟨w2.heap.size, 0, none⟩) 32 32 (SHA Hc Kc kf kl) rfl (fun e => by cases e) hDb (by omega) (by have := hR3.lt; simp; omega) ?_)
       (intro v4 w4 own4 gr4)
       (have hb4 : Below w3.heap.size w3 w4 := hbE3.grown gr4 (by simp) (fun k' h => (by have e := Option.some.inj (show some w3.heap.size = some k' from h); omega)))
       (rw [Nat.zero_add, cat_zero] at own4)
       (have hR4 := hR3.below hb4 hR3.lt)
       (have hB4 : Below w.heap.size w w4 := hB3.trans (hb4.mono hB3.size))
       (obtain ⟨a4, c4, rfl, hc4, hn4, _, _⟩ := own_bytes own4)
       (clear gr4 hDb hbE3 own3)))
  have own5 : w4.ownsRow (w.heap.size + 1) 5 1 (.slice a4 32 c4) 32 (bl fk 32) := by
    rw [bl_same fk (SHA Hc Kc kf kl) 32 (fun j hj => by rw [HFK.out]; unfold fillk; rw [if_pos hcase, if_pos hj])]
    exact own4
  go_loopw [5] (fun v wr => ∃ t : Nat, 32 ≤ t ∧ t ≤ 64 ∧ wr.ownsRow (w.heap.size + 1) 5 1 v t (bl fk t) ∧ Has wr w.heap.size 23 (cellsN .u8 32 fun _ => 0) ∧ Below w.heap.size w wr)
    (fun v _ => 64 - lenOf v)
  case atStart => exact ⟨32, Nat.le_refl _, by omega, own5, hR4, hB4⟩
  case round =>
    clear own1 own4 own5 hR1 hR2 hR3 hR4 hB1 hB2 hB3 hB4 hb1 hb2 hb4
    obtain ⟨t, ht0, ht, hown, hR, hbel⟩ := hrel
    have hz0 : ∀ j, 32 ≤ j → fk j = 0 := fun j hj => by rw [HFK.out]; unfold fillk; rw [if_pos hcase, if_neg (by omega)]
    by_cases hlt : t < 64
    · have i1 : (t : Int) < 64 := by omega
      obtain ⟨a5, c5, rfl, hc5, hn5, _, _⟩ := own_bytes hown
      have hsz5 : w.heap.size + 1 ≤ wr.heap.size := hR.lt
      go_wp2_with (first
        | ((at_builtin)
           (refine wpList_append_one rfl _ _ rfl (w.heap.size + 1) _ t fk rfl hown 0 rfl (hz0 t ht0) (by omega) hsz5 ?_)
           (intro g6 c6 w6 o6 gr6 at6 lt6)
           (have hx6 : Below wr.heap.size wr (wr.alloc (.cells #[.int .u8 ((0 : Nat) : Int)] 5)) := (Below.refl _ _).alloc (Nat.le_refl _) _)
           (have hlt0 : w.heap.size < w.heap.size + 1 := Nat.lt_succ_self _)
           (have hb6 : Below (w.heap.size + 1) wr w6 := (hx6.mono hsz5).grown gr6 (by simp; omega) (fun k' h => (hown.lt k' h).1))
           (have hR6 := hR.below hb6 hlt0)
           (have hB6 : Below w.heap.size w w6 := hbel.trans (hb6.mono (by omega)))
           (clear gr6 at6 hx6)))
      go_roundw
      case rel => exact ⟨t + 1, by omega, by omega, o6, hR6, hB6⟩
      case measure => simp only [lenOf]; omega
    · obtain rfl : t = 64 := by omega
      obtain ⟨gk, ck, rfl, hck, hgk, hkc⟩ := own_some hown (by omega)
      clear hown
      obtain ⟨wB, hwB⟩ : ∃ x, x = wr := ⟨_, rfl⟩
      rw [← hwB] at hR hbel hgk hkc ⊢
      clear hwB
      go_wp2
      go_loopw [7, 8, 9] (fun vi vo i wr => ∃ t : Nat, t ≤ 64 ∧ i = .int .i64 t ∧ wr.ownsRow wB.heap.size 5 1 vi t (bl (xorm fk 54) t) ∧ wr.ownsRow wB.heap.size 5 1 vo t (bl (xorm fk 92) t) ∧ (∀ g, Value.ownBlock vi = some g → Value.ownBlock vo ≠ some g) ∧ Below wB.heap.size wB wr)
        (fun _ _ i _ => 64 - (intOf i).toNat)
      case atStart => exact ⟨0, Nat.zero_le _, rfl, ⟨by simp [bl], .inl ⟨rfl, rfl⟩⟩, ⟨by simp [bl], .inl ⟨rfl, rfl⟩⟩, (fun g h => by cases h), Below.refl _ _⟩
      case round =>
        obtain ⟨t, ht, rfl, oi, oo, hap, hbb⟩ := hrel
        by_cases hlt : t < 64
        · have i1 : (t : Int) < 64 := by omega
          have i0 : (0 : Int) ≤ (t : Int) := by omega
          have hc1 : wr.cell? ⟨gk, t, none⟩ = some (.int .u8 (fk t : Nat)) := (hbb.cell hgk).trans (hkc t hlt)
          have x1 : bits .xor .u8 ((fk t : Nat) : Int) 54 = ((xorm fk 54 t : Nat) : Int) := u8_xor_nat (fk t) 54 (hfk t) (by decide)
          have x2 : bits .xor .u8 ((fk t : Nat) : Int) 92 = ((xorm fk 92 t : Nat) : Int) := u8_xor_nat (fk t) 92 (hfk t) (by decide)
          have hszB := hbb.size
          go_wp2_with (first
            | ((at_builtin)
               (have _t := oi)
               (refine wpList_append_one rfl _ _ rfl wB.heap.size _ t (xorm fk 54) rfl oi (xorm fk 54 t) rfl rfl (by omega) hszB ?_)
               (intro g1 c1 w1 o1 gr1 at1 lt1)
               (have hx1 : Below wr.heap.size wr (wr.alloc (.cells #[.int .u8 ((xorm fk 54 t : Nat) : Int)] 5)) := (Below.refl _ _).alloc (Nat.le_refl _) _)
               (have oo1 := own_grown (own_below oo hx1 (fun g hg => (oo.lt g hg).2)) gr1 (fun g hg e => hap g e hg))
               (have hb1 : Below wB.heap.size wB w1 := (hbb.trans (hx1.mono hszB)).grown gr1 (by simp; omega) (fun k' h => (oi.lt k' h).1))
               (have hap1 : ∀ g, some g1 = some g → Value.ownBlock _ ≠ some g := (fun g hg e => by
                  obtain rfl : g1 = g := Option.some.inj hg
                  rcases at1 with h | h
                  · exact hap _ h e
                  · have := (oo.lt _ e).2; omega))
               (have hc2 : w1.cell? ⟨gk, t, none⟩ = some (.int .u8 (fk t : Nat)) := (hb1.cell hgk).trans (hkc t hlt))
               (have hsz1 := hb1.size)
               (clear oi _t oo gr1 at1 hx1 hap hc1 hbb hszB))
            | ((at_builtin)
               (refine wpList_append_one rfl _ _ rfl wB.heap.size _ t (xorm fk 92) rfl oo1 (xorm fk 92 t) rfl rfl (by omega) hsz1 ?_)
               (intro g2 c2 w2 o2 gr2 at2 lt2)
               (have hx2 : Below w1.heap.size w1 (w1.alloc (.cells #[.int .u8 ((xorm fk 92 t : Nat) : Int)] 5)) := (Below.refl _ _).alloc (Nat.le_refl _) _)
               (have oi2 := own_grown (own_below o1 hx2 (fun g hg => (o1.lt g hg).2)) gr2 (fun g hg e => hap1 g hg e))
               (have hb2 : Below wB.heap.size wB w2 := (hb1.trans (hx2.mono hsz1)).grown gr2 (by simp; omega) (fun k' h => (oo1.lt k' h).1))
               (have hap2 : g1 ≠ g2 := (fun e => by
                  rcases at2 with h | h
                  · exact hap1 g1 rfl (by rw [e]; exact h)
                  · omega))
               (clear oo1 gr2 at2 hx2 hap1 hc2 hb1 hsz1 o1)))
          go_roundw
          case rel => exact ⟨t + 1, by omega, by go_num, oi2, o2, (fun g hg e => hap2 (by have e1 : g1 = g := Option.some.inj (show some g1 = some g from hg); have e2 : g2 = g := Option.some.inj (show some g2 = some g from e); omega)), hb2⟩
          case measure => simp [intOf]; omega
        · obtain rfl : t = 64 := by omega
          rw [show ((64 : Nat) : Int) = 64 from rfl]
          have hBw : Below w.heap.size w wr := hbel.trans (hbb.mono hbel.size)
          have hbM : Bytes wr ba n M := hbb'.below hBw (Nat.le_refl _)
          have hRr := hR.below hbb hR.lt
          have hszB := hbb.size
          clear hkc
          go_wp2_with (first
            | ((at_builtin)
               (have _t := oi)
               (refine wpList_append_bytes rfl _ _ rfl wB.heap.size _ 64 (xorm fk 54) rfl oi ba n bc M rfl hbnil hbM (by omega) hszB ?_)
               (intro v3 w3 o3 gr3)
               (have oo3 := own_grown oo gr3 (fun g hg e => hap g e hg))
               (have hb3 : Below wB.heap.size wB w3 := hbb.grown gr3 hszB (fun k' h => (oi.lt k' h).1))
               (have hR3 := hR.below hb3 hR.lt)
               (obtain ⟨g3, c3, rfl, hc3, hg3, hcell3⟩ := own_some o3 (by omega))
               (have hsum := HRS.out w3 g3 c3 (64 + n) (cat (xorm fk 54) 64 M) hg3 hc3 (by omega) hcell3 (cat_lt _ _ _ (xorm54 hfk) hM) rfl rfl)
               (clear oi _t gr3 hbM hRr oo o3 hcell3))
            | (go_at_call 10
               have _t := hsum
               refine hsum.mono ?_
               rintro e w4 ⟨rfl, hb4⟩
               have oo4 := own_below oo3 hb4 (fun g hg => (oo3.lt g hg).2)
               have hR4 := hR3.below hb4 hR3.lt
               have hB4 : Below wB.heap.size wB w4 := hb3.trans (hb4.mono hb3.size)
               have hn4 : Has (w4.alloc (.cells (cellsN .u8 32 fun _ => 0) 23)) w4.heap.size 23 (cellsN .u8 32 fun _ => 0) := Has.new _ _ _
               clear hsum _t)
            | (refine wpList_store_rowG rfl 23 _ _ rfl w4.heap.size (cellsN .u8 32 D) rfl rfl 23 _ hn4 (by rw [cellsN_size]; exact Tryd.size23) (by simp [cellsN_size]) (cellsN_one _ _ _) ?_
               intro w5 hw5
               have hb45 : Below w4.heap.size w4 w5 := by rw [hw5]; exact below_setRow ((Below.refl _ _).alloc (Nat.le_refl _) _) (Nat.le_refl _) _
               have hD5 : Has w5 w4.heap.size 23 (cellsN .u8 32 D) := by rw [hw5]; exact hn4.setRow _
               have oo5 := own_below oo4 hb45 (fun g hg => (oo4.lt g hg).2)
               have hR5 := hR4.below hb45 hR4.lt
               have hB5 : Below wB.heap.size wB w5 := hB4.trans (hb45.mono hB4.size)
               have hDb : Bytes w5 (some ⟨w4.heap.size, 0, none⟩) 32 D := .inr ⟨w4.heap.size, 0, rfl, hD5.lt, fun j hj => by rw [Nat.zero_add]; exact hD5.num j hj⟩
               clear hw5 hn4 hb45 oo3 oo4)
            | ((at_builtin)
               (refine wpList_append_bytes rfl _ _ rfl wB.heap.size _ 64 (xorm fk 92) rfl oo5 (some ⟨w4.heap.size, 0, none⟩) 32 32 D rfl (fun e => by cases e) hDb (by omega) hB5.size ?_)
               (intro v6 w6 o6 gr6)
               (have hb6 : Below wB.heap.size wB w6 := hB5.grown gr6 hB5.size (fun k' h => (oo5.lt k' h).1))
               (have hR6 := hR.below hb6 hR.lt)
               (obtain ⟨g6, c6, rfl, hc6, hg6, hcell6⟩ := own_some o6 (by omega))
               (have hsum2 := HRS2.out w6 g6 c6 96 (cat (xorm fk 92) 64 D) hg6 hc6 (by omega) hcell6 (cat_lt _ _ _ (xorm92 hfk) hDl) rfl rfl)
               (clear gr6 hDb oo5 o6 hcell6))
            | (go_at_call 10
               refine hsum2.mono ?_
               rintro e w7 ⟨rfl, hb7⟩
               have hR7 := hR6.below hb7 hR6.lt
               have hB7 : Below wB.heap.size wB w7 := hb6.trans (hb7.mono hb6.size)
               clear hsum2)
            | (refine wpList_store_rowG rfl 23 _ _ rfl w.heap.size (cellsN .u8 32 Z) rfl rfl 23 _ hR7 (by rw [cellsN_size]; exact Tryd.size23) (by simp [cellsN_size]) (cellsN_one _ _ _) ?_
               intro w8 hw8
               have hR8 : Has w8 w.heap.size 23 (cellsN .u8 32 Z) := by rw [hw8]; exact hR7.setRow _
               have hB8 : Below w.heap.size w w8 := by rw [hw8]; exact below_setRow (hbel.trans (hB7.mono hbel.size)) (Nat.le_refl _) _
               clear hw8))
          exact bodyPost_ret (results_cell_row rfl _ _ w.heap.size 23 _ (0, 0) _ rfl hR8 Tryd.underlying23 rfl (by rw [cellsN_size]; exact Tryd.size23)) rfl ⟨by rw [HZ.out], hB8⟩

theorem r3_any (ka ba : Option Addr) (kl kc n bc : Nat) (kf M : Nat → Nat) (w : World) (hkf : ∀ j, kf j < 256) (hM : ∀ j, M j < 256) (hkc' : kl ≤ kc) (hkl : kl ≤ 140737488351232) (hknil : ka = none → kl = 0 ∧ kc = 0) (hkb : Bytes w ka kl kf)
    (hbc : n ≤ bc) (hn : n ≤ 140737488354000) (hbnil : ba = none → n = 0 ∧ bc = 0) (hbb' : Bytes w ba n M) :
    Calls Tryd.prog 16 #[.slice ka kl kc, .slice ba n bc] w fun e w' => e = .returned (.agg (cellsN .u8 32 (HM Hc Kc kf kl M n))) ∧ Below w.heap.size w w' := by
  by_cases h : kl ≤ 64
  · exact r3_short ka ba kl kc n bc kf M w hkf hM hkc' hkl hknil hkb hbc hn hbnil hbb' h
  · exact r3_long ka ba kl kc n bc kf M w hkf hM hkc' hkl hknil hkb hbc hn hbnil hbb' (by omega)
end Go.Proofs.YtomefoijiiideaaDoor
