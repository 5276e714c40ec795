/- DevicePlays, walked. -/
import Derived.Test.YtalcalecmklcoaaRfPb
import Derived.Test.YtalcalecmklcoaaRfInM
namespace Go.Proofs.Ytalcalecmklcoaa
open Go.ChangeShapes Go.WideShapes Go.ChangeAt Go.RowKit
set_option linter.unusedVariables false

variable {D : DevRep}

set_option maxRecDepth 100000 in
set_option maxHeartbeats 40000000 in
theorem plays_yes (hD : DevOk D) (hM : DevMore D) (hT : DevTog D) (w : World) (n : Nat) (hn1 : 1 ≤ n) (hn2 : n ≤ 2048) (sa : Option Addr) (len scap : Nat) (O : Nat → OpV) (hS : Script w sa len O) (hBB : ∀ i, i < len → (O i).L ≤ 140737488351232) :
    Calls Try.prog 3 #[.int .i64 (n : Nat), .slice sa len scap] w fun e w' => e = .returned (.bool true) ∧ Below w.heap.size w w' := by
  have hnew := in_new (B := w.heap.size) (w0 := w) hD n hn1 hn2 (Below.refl _ w) (Nat.le_refl _)
  have hlen := hS.1
  unfold maxLen at hlen
  have z1 : (1 : Int) ≤ (n : Int) := by omega
  have z2 : (n : Int) ≤ 2048 := by omega
  go_enter Try.func3, Try.ntmps3
  go_wp2_with (first
    | ((go_at_call 9)
       (refine hnew.mono ?_)
       (rintro e w1 ⟨p0, c0, F0, rfl, hI, hb1, hF1, hc1⟩)
       (have hal := in_tells hD hI (dalive_any hD w1))
       (clear hnew hF1 hc1 hb1))
    | ((go_at_call 10)
       (refine hal.mono ?_)
       (rintro e w2 ⟨rfl, hb2, hI2⟩)
       (clear hal hI))
    | (refine at_dst 57 rfl ?_; refine wpList_is (some 57) (.agg (rdcells n nilS nilS nilS false 0)) rfl (by rfl) (by kernel_rfl) ?_)
    | (refine at_dst 58 rfl ?_; refine wpList_is_w (some 58) (ptr w2.heap.size) (w2.alloc (.cells (rdcells n nilS nilS nilS false 0) 32)) rfl (by rfl) (by kernel_rfl) ?_))
  obtain ⟨G0, hT0⟩ := two_new hD hI2 hn2
  clear hI2 hb2
  go_loopw [5, 8, 9] (fun dv qv iv wr => ∃ k p q : Nat, k ≤ len ∧ k ≤ 150 ∧ dv = ptr p ∧ qv = ptr q ∧ iv = .int .i64 (k : Nat) ∧ Played D k w wr p q)
    (fun _ _ iv _ => 150 - (intOf iv).toNat)
  case atStart => exact ⟨0, p0, _, Nat.zero_le _, Nat.zero_le _, rfl, rfl, rfl, _, _, _, _, _, hT0, Nat.le_refl _⟩
  case round =>
    obtain ⟨k, p, q, hkl0, hk150, rfl, rfl, rfl, hpl⟩ := hrel
    clear hT0
    obtain ⟨s, c, m, F, G, h2, hm⟩ := hpl
    by_cases hkk : k < len ∧ k < 150
    · obtain ⟨hkl, hk6⟩ := hkk
      obtain ⟨x, o, rfl, hx, hop⟩ := hS.2 k hkl
      obtain ⟨v, hv⟩ : ∃ v, v = O k := ⟨_, rfl⟩
      rw [← hv] at hop
      have hcr := hop.below hx h2.dev.below (Nat.le_refl _)
      have hlg := h2.ref.log
      have hmx := hBB k hkl
      rw [← hv] at hmx
      have i0 : (k : Int) < (len : Int) := by omega
      have i1 : (0 : Int) ≤ (k : Int) := by omega
      have i2 : (k : Int) < 150 := by omega
      clear hv hS hBB
      by_cases h1 : v.k = 1
      · as_aux_lemma =>
          obtain ⟨E, hE⟩ : ∃ E, E = wrErr s v.i v.L := ⟨_, rfl⟩
          have HE : Hid (E = wrErr s v.i v.L) := hE
          clear hE
          go_wp2_with (first
            | ((go_at_call 11)
               (refine hwr.mono ?_)
               (rintro e w6 ⟨rfl, ho6, F6, hg6, hI6⟩)
               (obtain ⟨hP6, hk6⟩ := hP5.dev hD ho6 (fun _ h => h) hg6 hI6)
               (have hs6 := hs5.kept (fun j hj => hk6 j (.inr hj)))
               (clear hwr hP5 c15 hs5 hk6 ho6 hg6 hI6))
            | (refine at_dst 74 rfl ?_; refine wpList_is (some 74) (.pointer (some ⟨x, o + k * 4, none⟩)) rfl (by rfl) (run_at_op _ _ rfl x o k len scap rfl rfl hkl _) ?_)
            | (refine at_dst 75 rfl ?_; refine wpList_is (some 75) (.agg (ocell v).toArray) rfl (by rfl) (run_load_op (.tmp 74) rfl x (o + k * 4) rfl v wr hcr) ?_)
            | (refine at_dst 10 rfl ?_; refine wpList_is_w (some 10) (.pointer (some ⟨wr.heap.size, 0, none⟩)) (wr.alloc (.cells #[.int .i64 0, .int .i64 0, .slice none 0 0, .slice none 0 0] 36)) rfl (by rfl) (by kernel_rfl) ?_)
            | ((refine at_st 36 (.tmp 10) (.tmp 75) rfl ?_)
               (refine wpList_copy_op wr v rfl (.tmp 10) (.tmp 75) rfl rfl rfl ?_)
               (intro w2 hH hB2)
               (have hP2 : Pl D k w.heap.size w w2 p q s s c m m F G (fun j => j = wr.heap.size) wr.heap.size v := Pl.start hD h2 hB2 (Nat.le_refl _) hH)
               (have hlt2 := hH.lt)
               (have c0 := hP2.c0)
               (rw [h1] at c0)
               (have own2 := World.ownsRow_lit (base := w2.heap.size) (e := 5) (size := 1) w2 #[] 0 (Nat.le_refl _) (by unfold maxLen; omega) rfl)
               (have hbE : Below w2.heap.size w2 (w2.alloc (.cells #[] 5)) := (Below.refl _ _).alloc (Nat.le_refl _) _)
               (have by2 := (hP2.bytes hop rfl).below hbE (Nat.le_refl _))
               (have c2e := (hP2.next hD hbE).c2)
               (clear hH hB2))
            | ((at_builtin)
               (refine wpList_append_bytes rfl (.tmp 80) (.tmp 82) rfl w2.heap.size _ 0 (fun _ => 0) rfl own2 v.a v.L v.C v.b rfl hop.by_.nil by2 (by omega) (by simp) ?_)
               (intro v5 w5 own5 gr5)
               (rw [Nat.zero_add, cat_zero] at own5)
               (have hb5 : Below w2.heap.size w2 w5 := hbE.grown gr5 (by simp) (fun k' h => (own2.lt k' h).1))
               (obtain ⟨a5, c5, rfl, hc5, hn5, by5, _⟩ := own_bytes own5)
               (obtain ⟨hs5, hk5⟩ := own_scr own5)
               (have hP5 := hP2.more hD hb5 (O' := fun j => j = wr.heap.size ∨ blk a5 v.L j) (fun j hj => hj.imp id (fun h => hk5 j h)) (.inl rfl))
               (have hne : ∀ j, blk a5 v.L j → j ≠ wr.heap.size := fun j hj => by have := (hk5 j hj).1; omega)
               (have c15 := hP5.c1)
               (have hwr := in_write hD hP5.two.dev v.i a5 v.L c5 v.b hop.oi (by omega) (by omega) hc5 hop.by_.max hn5 by5 hop.by_.byt (.inr trivial))
               (rw [← HE.out] at hwr)
               (clear own2 hbE by2 c2e own5 gr5 hb5 hk5 by5 hP2 c0)))
          go_loopw [13] (fun iv wz => ∃ j : Nat, j ≤ v.L ∧ iv = .int .i64 (j : Nat) ∧ Scr wz a5 v.L ∧ Only (blk a5 v.L) w6 wz) (fun iv _ => v.L - (intOf iv).toNat)
          case atStart => exact ⟨0, Nat.zero_le _, rfl, hs6, Only.refl _ _⟩
          case round =>
            rename World => wq
            obtain ⟨j, hj, rfl, hsq, hoq⟩ := hrel
            have j1 : (0 : Int) ≤ (j : Int) := by omega
            by_cases hjl : j < v.L
            · obtain ⟨g, og, hag, ⟨y, cy⟩, fz, hput⟩ := hsq.cell hjl
              subst hag
              have j0 : (j : Int) < (v.L : Int) := by omega
              clear hP6
              go_wp2
              go_roundw
              case rel => exact ⟨j + 1, by omega, by go_num, hput 99, hoq.trans ((only_setCell wq g (og + j) (.int .u8 99)).mono (fun _ h => ⟨by omega, og, by rw [h]⟩)) (fun _ _ h => h)⟩
              case measure => simp [intOf]; omega
            · have j0 : ¬ (j : Int) < (v.L : Int) := by omega
              have hPq := hP6.side hD hoq (fun j hj => ⟨.inr hj, hne j hj⟩)
              clear hsq hoq
              have c1q := hPq.c1
              have c2q := hPq.c2
              have hrw := rin_write hPq.two.ref (by omega) (by omega) v.i v.a v.L v.C v.b (hPq.bytes hop rfl) hop.by_.byt
              rw [← HE.out] at hrw
              clear hP6 hs6
              go_wp2_with (first
                | ((go_at_call 12)
                   (refine hrw.mono ?_)
                   (rintro e w8 ⟨rfl, ho8, G8, hg8, hR8⟩)
                   (have hP8 := hPq.ref hD ho8 hg8 hR8)
                   (clear hrw)))
              go_roundw
              case rel => exact ⟨k + 1, p, q, by omega, by omega, rfl, rfl, by go_num, Played.of hP8.two rfl rfl (Nat.le_refl _) (by have := wrM_le s v.i v.L m; omega)⟩
              case measure => simp [intOf]; omega
      by_cases h2' : v.k = 2
      · as_aux_lemma =>
          obtain ⟨E, hE⟩ : ∃ E : Int, E = (if s.dead then 73 else 0) := ⟨_, rfl⟩
          have HE : Hid (E = (if s.dead then 73 else 0)) := hE
          clear hE
          go_wp2_with (first
            | ((go_at_call 13)
               (refine hdv.mono ?_)
               (rintro e w6 ⟨rfl, ho6, F6, hg6, hI6⟩)
               (obtain ⟨hP6, _⟩ := hP2.dev hD ho6 (fun _ h => .inl h) hg6 hI6)
               (have d1 := hP6.c1)
               (have d2 := hP6.c2)
               (have hrf := rin_sync hP6.two.ref (by omega))
               (rw [← HE.out] at hrf)
               (clear hdv hP2 ho6 hg6 hI6))
            | ((go_at_call 14)
               (refine hrf.mono ?_)
               (rintro e w8 ⟨rfl, ho8, G8, hg8, hR8⟩)
               (have hP8 := hP6.ref hD ho8 hg8 hR8)
               (clear hrf))
            | (refine at_dst 74 rfl ?_; refine wpList_is (some 74) (.pointer (some ⟨x, o + k * 4, none⟩)) rfl (by rfl) (run_at_op _ _ rfl x o k len scap rfl rfl hkl _) ?_)
            | (refine at_dst 75 rfl ?_; refine wpList_is (some 75) (.agg (ocell v).toArray) rfl (by rfl) (run_load_op (.tmp 74) rfl x (o + k * 4) rfl v wr hcr) ?_)
            | (refine at_dst 10 rfl ?_; refine wpList_is_w (some 10) (.pointer (some ⟨wr.heap.size, 0, none⟩)) (wr.alloc (.cells #[.int .i64 0, .int .i64 0, .slice none 0 0, .slice none 0 0] 36)) rfl (by rfl) (by kernel_rfl) ?_)
            | ((refine at_st 36 (.tmp 10) (.tmp 75) rfl ?_)
               (refine wpList_copy_op wr v rfl (.tmp 10) (.tmp 75) rfl rfl rfl ?_)
               (intro w2 hH hB2)
               (have hP2 : Pl D k w.heap.size w w2 p q s s c m m F G (fun j => j = wr.heap.size) wr.heap.size v := Pl.start hD h2 hB2 (Nat.le_refl _) hH)
               (have hlt2 := hH.lt)
               (have c0 := hP2.c0)
               (rw [h2'] at c0)
               (have hdv := in_sync hD hP2.two.dev (by omega) (by omega))
               (rw [← HE.out] at hdv)
               (clear hH hB2)))
          go_roundw
          case rel => exact ⟨k + 1, p, q, by omega, by omega, rfl, rfl, by go_num, Played.of hP8.two rfl rfl (Nat.le_refl _) (by omega)⟩
          case measure => simp [intOf]; omega
      by_cases h6 : v.k = 6
      · as_aux_lemma =>
          go_wp2_with (first
            | ((go_at_call 15)
               (refine hdv.mono ?_)
               (rintro e w6 ⟨rfl, ho6, F6, hg6, hI6⟩)
               (obtain ⟨hP6, _⟩ := hP2.dev hD ho6 (fun _ h => .inl h) hg6 hI6)
               (have d1 := hP6.c1)
               (have d2 := hP6.c2)
               (have hrf := rin_spoil hP6.two.ref (by omega) v.i)
               (clear hdv hP2 ho6 hg6 hI6))
            | ((go_at_call 16)
               (refine hrf.mono ?_)
               (rintro e w8 ⟨rfl, ho8, G8, hg8, hR8⟩)
               (have hP8 := hP6.ref hD ho8 hg8 hR8)
               (clear hrf))
            | (refine at_dst 74 rfl ?_; refine wpList_is (some 74) (.pointer (some ⟨x, o + k * 4, none⟩)) rfl (by rfl) (run_at_op _ _ rfl x o k len scap rfl rfl hkl _) ?_)
            | (refine at_dst 75 rfl ?_; refine wpList_is (some 75) (.agg (ocell v).toArray) rfl (by rfl) (run_load_op (.tmp 74) rfl x (o + k * 4) rfl v wr hcr) ?_)
            | (refine at_dst 10 rfl ?_; refine wpList_is_w (some 10) (.pointer (some ⟨wr.heap.size, 0, none⟩)) (wr.alloc (.cells #[.int .i64 0, .int .i64 0, .slice none 0 0, .slice none 0 0] 36)) rfl (by rfl) (by kernel_rfl) ?_)
            | ((refine at_st 36 (.tmp 10) (.tmp 75) rfl ?_)
               (refine wpList_copy_op wr v rfl (.tmp 10) (.tmp 75) rfl rfl rfl ?_)
               (intro w2 hH hB2)
               (have hP2 : Pl D k w.heap.size w w2 p q s s c m m F G (fun j => j = wr.heap.size) wr.heap.size v := Pl.start hD h2 hB2 (Nat.le_refl _) hH)
               (have hlt2 := hH.lt)
               (have c0 := hP2.c0)
               (rw [h6] at c0)
               (have c1 := hP2.c1)
               (have hdv := in_spoil hD hP2.two.dev v.i hop.oi)
               (clear hH hB2)))
          go_roundw
          case rel => exact ⟨k + 1, p, q, by omega, by omega, rfl, rfl, by go_num, Played.of hP8.two rfl rfl (Nat.le_refl _) (by omega)⟩
          case measure => simp [intOf]; omega
      by_cases h7 : v.k = 7
      · as_aux_lemma =>
          go_wp2_with (first
            | ((go_at_call 17)
               (refine hdv.mono ?_)
               (rintro e w6 ⟨rfl, ho6, F6, hg6, hI6⟩)
               (obtain ⟨hP6, _⟩ := hP2.dev hD ho6 (fun _ h => .inl h) hg6 hI6)
               (have d4 := hP6.two.ref.cells.2.2.1)
               (have f4 := hP6.two.ref.free 4)
               (obtain ⟨hO8, hR8⟩ := rin_kill hP6.two.ref)
               (have hP8 := hP6.ref hD hO8 Grew.same hR8)
               (clear hdv hP2 ho6 hg6 hI6))
            | (refine at_dst 74 rfl ?_; refine wpList_is (some 74) (.pointer (some ⟨x, o + k * 4, none⟩)) rfl (by rfl) (run_at_op _ _ rfl x o k len scap rfl rfl hkl _) ?_)
            | (refine at_dst 75 rfl ?_; refine wpList_is (some 75) (.agg (ocell v).toArray) rfl (by rfl) (run_load_op (.tmp 74) rfl x (o + k * 4) rfl v wr hcr) ?_)
            | (refine at_dst 10 rfl ?_; refine wpList_is_w (some 10) (.pointer (some ⟨wr.heap.size, 0, none⟩)) (wr.alloc (.cells #[.int .i64 0, .int .i64 0, .slice none 0 0, .slice none 0 0] 36)) rfl (by rfl) (by kernel_rfl) ?_)
            | ((refine at_st 36 (.tmp 10) (.tmp 75) rfl ?_)
               (refine wpList_copy_op wr v rfl (.tmp 10) (.tmp 75) rfl rfl rfl ?_)
               (intro w2 hH hB2)
               (have hP2 : Pl D k w.heap.size w w2 p q s s c m m F G (fun j => j = wr.heap.size) wr.heap.size v := Pl.start hD h2 hB2 (Nat.le_refl _) hH)
               (have hlt2 := hH.lt)
               (have c0 := hP2.c0)
               (rw [h7] at c0)
               (have hdv := in_kill hD hP2.two.dev)
               (clear hH hB2)))
          go_roundw
          case rel => exact ⟨k + 1, p, q, by omega, by omega, rfl, rfl, by go_num, Played.of hP8.two rfl rfl (by omega) (by omega)⟩
          case measure => simp [intOf]; omega
      by_cases h8 : v.k = 8
      · as_aux_lemma =>
          go_wp2_with (first
            | ((go_at_call 18)
               (refine hdv.mono ?_)
               (rintro e w6 ⟨rfl, ho6, F6, hg6, hI6⟩)
               (obtain ⟨hP6, _⟩ := hP2.dev hD ho6 (fun _ h => h) hg6 hI6)
               (have d1 := hP6.c1)
               (have d2 := hP6.c2)
               (have hrf := rin_tamper hP6.two.ref (by omega) (by omega) v.i v.a v.L v.C v.b (hP6.bytes hop rfl) hop.by_.byt)
               (clear hdv hP2 ho6 hg6 hI6))
            | ((go_at_call 19)
               (refine hrf.mono ?_)
               (rintro e w8 ⟨rfl, ho8, G8, hg8, hR8⟩)
               (have hP8 := hP6.ref hD ho8 hg8 hR8)
               (clear hrf))
            | (refine at_dst 74 rfl ?_; refine wpList_is (some 74) (.pointer (some ⟨x, o + k * 4, none⟩)) rfl (by rfl) (run_at_op _ _ rfl x o k len scap rfl rfl hkl _) ?_)
            | (refine at_dst 75 rfl ?_; refine wpList_is (some 75) (.agg (ocell v).toArray) rfl (by rfl) (run_load_op (.tmp 74) rfl x (o + k * 4) rfl v wr hcr) ?_)
            | (refine at_dst 10 rfl ?_; refine wpList_is_w (some 10) (.pointer (some ⟨wr.heap.size, 0, none⟩)) (wr.alloc (.cells #[.int .i64 0, .int .i64 0, .slice none 0 0, .slice none 0 0] 36)) rfl (by rfl) (by kernel_rfl) ?_)
            | ((refine at_st 36 (.tmp 10) (.tmp 75) rfl ?_)
               (refine wpList_copy_op wr v rfl (.tmp 10) (.tmp 75) rfl rfl rfl ?_)
               (intro w2 hH hB2)
               (have hP2 : Pl D k w.heap.size w w2 p q s s c m m F G (fun j => j = wr.heap.size) wr.heap.size v := Pl.start hD h2 hB2 (Nat.le_refl _) hH)
               (have hlt2 := hH.lt)
               (have c0 := hP2.c0)
               (rw [h8] at c0)
               (have c1 := hP2.c1)
               (have c2 := hP2.c2)
               (have hdv := in_tamper hD hP2.two.dev v.i v.a v.L v.C v.b hop.oi (by omega) (by omega) hop.by_.le hop.by_.max hop.by_.nil (hP2.bytes hop rfl) hop.by_.byt (.inr trivial))
               (clear hH hB2)))
          go_roundw
          case rel => exact ⟨k + 1, p, q, by omega, by omega, rfl, rfl, by go_num, Played.of hP8.two rfl rfl (Nat.le_refl _) (by have := wrM_le s v.i v.L m; omega)⟩
          case measure => simp [intOf]; omega
      by_cases h3 : v.k = 3
      · as_aux_lemma =>
          obtain ⟨E, hE⟩ : ∃ E, E = rdErr s v.i := ⟨_, rfl⟩
          have HE : Hid (E = rdErr s v.i) := hE
          clear hE
          go_wp2_with (first
            | ((go_at_call 20)
               (refine hdv.mono ?_)
               (rintro e w6 ⟨hb6, _, v6, rfl, hv6⟩)
               (obtain ⟨a6, L6, c6, rfl, hL6, hs6, hk6⟩ := read_scr hv6)
               (have hP6 := hP2.more hD hb6 (O' := fun j => j = wr.heap.size ∨ blk a6 L6 j) (fun j hj => hj.imp id (fun h => hk6 j h)) (.inl rfl))
               (have hne : ∀ j, blk a6 L6 j → j ≠ wr.heap.size := fun j hj => by have := (hk6 j hj).1; omega)
               (have d1 := hP6.c1)
               (have hrf := rin_read hP6.two.ref (by omega) v.i)
               (rw [← HE.out] at hrf)
               (clear hdv hP2 hb6))
            | ((go_at_call 21)
               (refine hrf.mono ?_)
               (rintro e w7 ⟨hb7, v7, rfl, hv7⟩)
               (have hsm := read_same (fun j => hP6.two.ref.holds_lt v.i.toNat j) hv6 hb7 hv7)
               (have hP7 := hP6.next hD hb7)
               (have hs7 := hs6.kept (fun j hj => hb7.block j (hk6 j hj).2))
               (clear hrf hv6 hv7 hP6 hs6 hk6 hb7 d1))
            | ((go_at_call 22)
               (refine hsm.mono ?_)
               (rintro e w8 ⟨rfl, hw8⟩)
               (obtain rfl : w7 = w8 := hw8.symm)
               (clear hsm))
            | (refine at_dst 74 rfl ?_; refine wpList_is (some 74) (.pointer (some ⟨x, o + k * 4, none⟩)) rfl (by rfl) (run_at_op _ _ rfl x o k len scap rfl rfl hkl _) ?_)
            | (refine at_dst 75 rfl ?_; refine wpList_is (some 75) (.agg (ocell v).toArray) rfl (by rfl) (run_load_op (.tmp 74) rfl x (o + k * 4) rfl v wr hcr) ?_)
            | (refine at_dst 10 rfl ?_; refine wpList_is_w (some 10) (.pointer (some ⟨wr.heap.size, 0, none⟩)) (wr.alloc (.cells #[.int .i64 0, .int .i64 0, .slice none 0 0, .slice none 0 0] 36)) rfl (by rfl) (by kernel_rfl) ?_)
            | ((refine at_st 36 (.tmp 10) (.tmp 75) rfl ?_)
               (refine wpList_copy_op wr v rfl (.tmp 10) (.tmp 75) rfl rfl rfl ?_)
               (intro w2 hH hB2)
               (have hP2 : Pl D k w.heap.size w w2 p q s s c m m F G (fun j => j = wr.heap.size) wr.heap.size v := Pl.start hD h2 hB2 (Nat.le_refl _) hH)
               (have hlt2 := hH.lt)
               (have c0 := hP2.c0)
               (rw [h3] at c0)
               (have c1 := hP2.c1)
               (have hdv := in_read hD hP2.two.dev v.i hop.oi)
               (rw [← HE.out] at hdv)
               (clear hH hB2)))
          go_loopw [19] (fun iv wz => ∃ j : Nat, j ≤ L6 ∧ iv = .int .i64 (j : Nat) ∧ Scr wz a6 L6 ∧ Only (blk a6 L6) w7 wz) (fun iv _ => L6 - (intOf iv).toNat)
          case atStart => exact ⟨0, Nat.zero_le _, rfl, hs7, Only.refl _ _⟩
          case round =>
            rename World => wq
            obtain ⟨j, hj, rfl, hsq, hoq⟩ := hrel
            have j1 : (0 : Int) ≤ (j : Int) := by omega
            by_cases hjl : j < L6
            · obtain ⟨g, og, hag, ⟨y, cy⟩, fz, hput⟩ := hsq.cell hjl
              subst hag
              have j0 : (j : Int) < (L6 : Int) := by omega
              clear hP7
              go_wp2
              go_roundw
              case rel => exact ⟨j + 1, by omega, by go_num, hput 98, hoq.trans ((only_setCell wq g (og + j) (.int .u8 98)).mono (fun _ h => ⟨by omega, og, by rw [h]⟩)) (fun _ _ h => h)⟩
              case measure => simp [intOf]; omega
            · have j0 : ¬ (j : Int) < (L6 : Int) := by omega
              have hPq := hP7.side hD hoq (fun j hj => ⟨.inr hj, hne j hj⟩)
              clear hsq hoq
              clear hP7 hs7
              go_wp2
              go_roundw
              case rel => exact ⟨k + 1, p, q, by omega, by omega, rfl, rfl, by go_num, Played.of hPq.two rfl rfl (by omega) (by omega)⟩
              case measure => simp [intOf]; omega
      by_cases h10 : v.k = 10
      · as_aux_lemma =>
          go_wp2_with (first
            | ((go_at_call 23)
               (refine hdv.mono ?_)
               (rintro e w6 ⟨rfl, _, c6, F6, hT6⟩)
               (have hrf := rin_anew hT6.ref (by omega))
               (clear hdv hP2 hbT))
            | ((go_at_call 24)
               (refine hrf.mono ?_)
               (rintro e w8 ⟨rfl, ho8, hR8⟩)
               (have hT8 := hT6.refTurn hD ho8 Grew.same hR8)
               (clear hrf))
            | (refine at_dst 74 rfl ?_; refine wpList_is (some 74) (.pointer (some ⟨x, o + k * 4, none⟩)) rfl (by rfl) (run_at_op _ _ rfl x o k len scap rfl rfl hkl _) ?_)
            | (refine at_dst 75 rfl ?_; refine wpList_is (some 75) (.agg (ocell v).toArray) rfl (by rfl) (run_load_op (.tmp 74) rfl x (o + k * 4) rfl v wr hcr) ?_)
            | (refine at_dst 10 rfl ?_; refine wpList_is_w (some 10) (.pointer (some ⟨wr.heap.size, 0, none⟩)) (wr.alloc (.cells #[.int .i64 0, .int .i64 0, .slice none 0 0, .slice none 0 0] 36)) rfl (by rfl) (by kernel_rfl) ?_)
            | ((refine at_st 36 (.tmp 10) (.tmp 75) rfl ?_)
               (refine wpList_copy_op wr v rfl (.tmp 10) (.tmp 75) rfl rfl rfl ?_)
               (intro w2 hH hB2)
               (have hP2 : Pl D k w.heap.size w w2 p q s s c m m F G (fun j => j = wr.heap.size) wr.heap.size v := Pl.start hD h2 hB2 (Nat.le_refl _) hH)
               (have hlt2 := hH.lt)
               (have c0 := hP2.c0)
               (rw [h10] at c0)
               (have hbT : Below w2.heap.size w2 (w2.alloc (.cells #[.pointer none, ptr p] 23)) := (Below.refl _ _).alloc (Nat.le_refl _) _)
               (have hdv := (hP2.two.next hD hbT).tog hD hT (g := w2.heap.size) (by omega) ((Has.new _ _ _).cell 0) ((Has.new _ _ _).cell 1) ⟨fun hf => absurd (hP2.two.dev.lt hD _ hf) (Nat.lt_irrefl _), fun e => absurd (e ▸ hP2.two.dev.clt hD) (Nat.lt_irrefl _)⟩)
               (clear hH hB2)))
          go_roundw
          case rel => exact ⟨k + 1, p, q, by omega, by omega, rfl, rfl, by go_num, Played.of hT8 rfl rfl (by omega) (by omega)⟩
          case measure => simp [intOf]; omega
      by_cases h4 : v.k = 4
      · as_aux_lemma =>
          go_wp2_with (first
            | ((go_at_call 25)
               (refine hdv.mono ?_)
               (rintro e w6 ⟨hb6, _, p6, c6, F6, rfl, hJ6, hg6, hc6⟩)
               (have hP6 := hP2.next hD hb6)
               (have c36 := hP6.c3)
               (have hrf := rin_cut hP6.two.ref (by omega) v.ka v.kl v.kc v.kb (hP6.bools hop rfl))
               (clear hdv c3))
            | ((go_at_call 26)
               (refine hrf.mono ?_)
               (rintro e w7 ⟨hb7, q7, G7, rfl, hg7, hR7⟩)
               (have hP7 := hP6.next hD hb7)
               (have hN7 := hP2.two.cut hD hJ6 hg6 hc6 hb7 hR7 hg7)
               (have c07 := hP7.c0)
               (rw [h4] at c07)
               (have hsm := same_tells hD hM hP7.two.dev.dev hP7.two.ref (by omega))
               (clear hrf hP2 hP6 hb6 hJ6 hg6 hc6 hR7 hg7 c36 c0))
            | ((go_at_call 31)
               (refine hsm.mono ?_)
               (rintro e w12 ⟨rfl, hb12⟩)
               (have hN12 := hN7.next hD hb12)
               (clear hsm))
            | (refine at_dst 74 rfl ?_; refine wpList_is (some 74) (.pointer (some ⟨x, o + k * 4, none⟩)) rfl (by rfl) (run_at_op _ _ rfl x o k len scap rfl rfl hkl _) ?_)
            | (refine at_dst 75 rfl ?_; refine wpList_is (some 75) (.agg (ocell v).toArray) rfl (by rfl) (run_load_op (.tmp 74) rfl x (o + k * 4) rfl v wr hcr) ?_)
            | (refine at_dst 10 rfl ?_; refine wpList_is_w (some 10) (.pointer (some ⟨wr.heap.size, 0, none⟩)) (wr.alloc (.cells #[.int .i64 0, .int .i64 0, .slice none 0 0, .slice none 0 0] 36)) rfl (by rfl) (by kernel_rfl) ?_)
            | ((refine at_st 36 (.tmp 10) (.tmp 75) rfl ?_)
               (refine wpList_copy_op wr v rfl (.tmp 10) (.tmp 75) rfl rfl rfl ?_)
               (intro w2 hH hB2)
               (have hP2 : Pl D k w.heap.size w w2 p q s s c m m F G (fun j => j = wr.heap.size) wr.heap.size v := Pl.start hD h2 hB2 (Nat.le_refl _) hH)
               (have hlt2 := hH.lt)
               (have c0 := hP2.c0)
               (rw [h4] at c0)
               (have c3 := hP2.c3)
               (have hdv := in_cut hD hP2.two.dev v.ka v.kl v.kc v.kb (by omega) hop.bo.max hop.bo.le (hP2.bools hop rfl))
               (clear hH hB2)))
          go_roundw
          case rel => exact ⟨k + 1, _, _, by omega, by omega, rfl, rfl, by go_num, Played.of hN12 rfl rfl (by omega) (by omega)⟩
          case measure => simp [intOf]; omega
      by_cases h5 : v.k = 5
      · as_aux_lemma =>
          go_wp2_with (first
            | ((go_at_call 25)
               (refine hdv.mono ?_)
               (rintro e w6 ⟨hb6, _, p6, c6, F6, rfl, hJ6, hg6, hc6⟩)
               (have hP6 := hP2.next hD hb6)
               (have c36 := hP6.c3)
               (have hrf := rin_cut hP6.two.ref (by omega) v.ka v.kl v.kc v.kb (hP6.bools hop rfl))
               (clear hdv c3))
            | ((go_at_call 26)
               (refine hrf.mono ?_)
               (rintro e w7 ⟨hb7, q7, G7, rfl, hg7, hR7⟩)
               (have hP7 := hP6.next hD hb7)
               (have hN7 := hP2.two.cut hD hJ6 hg6 hc6 hb7 hR7 hg7)
               (have c07 := hP7.c0)
               (rw [h5] at c07)
               (have c17 := hP7.c1)
               (have c37 := hP7.c3)
               (have hdv2 := in_cutAt hD hM hP7.two.dev v.i v.ka v.kl v.kc v.kb hop.oi (by omega) hop.bo.max hop.bo.le (hP7.bools hop rfl))
               (clear hrf hP2 hP6 hb6 hJ6 hg6 hc6 hR7 hg7 c36 c0 hN7))
            | ((go_at_call 27)
               (refine hdv2.mono ?_)
               (rintro e w8 ⟨hb8, _, p8, c8, F8, rfl, hJ8, hg8, hc8⟩)
               (have hP8 := hP7.next hD hb8)
               (have c38 := hP8.c3)
               (have c18 := hP8.c1)
               (have hrf2 := rin_cutAt hP8.two.ref (by omega) v.i v.ka v.kl v.kc v.kb (hP8.bools hop rfl))
               (clear hdv2 c17 c37))
            | ((go_at_call 28)
               (refine hrf2.mono ?_)
               (rintro e w9 ⟨hb9, q9, G9, rfl, hg9, hR9⟩)
               (have hP9 := hP8.next hD hb9)
               (have hN9 := hP7.two.cut hD hJ8 hg8 hc8 hb9 hR9 hg9)
               (have c09 := hP9.c0)
               (rw [h5] at c09)
               (have hsm := same_tells hD hM hP9.two.dev.dev hP9.two.ref (by omega))
               (clear hrf2 hP7 hP8 hb8 hJ8 hg8 hc8 hR9 hg9 c38 c18))
            | ((go_at_call 31)
               (refine hsm.mono ?_)
               (rintro e w12 ⟨rfl, hb12⟩)
               (have hN12 := hN9.next hD hb12)
               (clear hsm))
            | (refine at_dst 74 rfl ?_; refine wpList_is (some 74) (.pointer (some ⟨x, o + k * 4, none⟩)) rfl (by rfl) (run_at_op _ _ rfl x o k len scap rfl rfl hkl _) ?_)
            | (refine at_dst 75 rfl ?_; refine wpList_is (some 75) (.agg (ocell v).toArray) rfl (by rfl) (run_load_op (.tmp 74) rfl x (o + k * 4) rfl v wr hcr) ?_)
            | (refine at_dst 10 rfl ?_; refine wpList_is_w (some 10) (.pointer (some ⟨wr.heap.size, 0, none⟩)) (wr.alloc (.cells #[.int .i64 0, .int .i64 0, .slice none 0 0, .slice none 0 0] 36)) rfl (by rfl) (by kernel_rfl) ?_)
            | ((refine at_st 36 (.tmp 10) (.tmp 75) rfl ?_)
               (refine wpList_copy_op wr v rfl (.tmp 10) (.tmp 75) rfl rfl rfl ?_)
               (intro w2 hH hB2)
               (have hP2 : Pl D k w.heap.size w w2 p q s s c m m F G (fun j => j = wr.heap.size) wr.heap.size v := Pl.start hD h2 hB2 (Nat.le_refl _) hH)
               (have hlt2 := hH.lt)
               (have c0 := hP2.c0)
               (rw [h5] at c0)
               (have c3 := hP2.c3)
               (have hdv := in_cut hD hP2.two.dev v.ka v.kl v.kc v.kb (by omega) hop.bo.max hop.bo.le (hP2.bools hop rfl))
               (clear hH hB2)))
          go_roundw
          case rel => exact ⟨k + 1, _, _, by omega, by omega, rfl, rfl, by go_num, Played.of hN12 rfl rfl (by omega) (by omega)⟩
          case measure => simp [intOf]; omega
      by_cases h9 : v.k = 9
      · as_aux_lemma =>
          go_wp2_with (first
            | ((go_at_call 25)
               (refine hdv.mono ?_)
               (rintro e w6 ⟨hb6, _, p6, c6, F6, rfl, hJ6, hg6, hc6⟩)
               (have hP6 := hP2.next hD hb6)
               (have c36 := hP6.c3)
               (have hrf := rin_cut hP6.two.ref (by omega) v.ka v.kl v.kc v.kb (hP6.bools hop rfl))
               (clear hdv c3))
            | ((go_at_call 26)
               (refine hrf.mono ?_)
               (rintro e w7 ⟨hb7, q7, G7, rfl, hg7, hR7⟩)
               (have hP7 := hP6.next hD hb7)
               (have hN7 := hP2.two.cut hD hJ6 hg6 hc6 hb7 hR7 hg7)
               (have c07 := hP7.c0)
               (rw [h9] at c07)
               (have c17 := hP7.c1)
               (have c37 := hP7.c3)
               (have hdv2 := in_cutMo hD hM hP7.two.dev v.i v.ka v.kl v.kc v.kb hop.oi (by omega) (by omega) hop.bo.max hop.bo.le (hP7.bools hop rfl))
               (clear hrf hP2 hP6 hb6 hJ6 hg6 hc6 hR7 hg7 c36 c0 hN7))
            | ((go_at_call 29)
               (refine hdv2.mono ?_)
               (rintro e w8 ⟨hb8, _, p8, c8, F8, rfl, hJ8, hg8, hc8⟩)
               (have hP8 := hP7.next hD hb8)
               (have c38 := hP8.c3)
               (have c18 := hP8.c1)
               (have hrf2 := rin_cutMo hP8.two.ref (by omega) v.i v.ka v.kl v.kc v.kb (hP8.bools hop rfl))
               (clear hdv2 c17 c37))
            | ((go_at_call 30)
               (refine hrf2.mono ?_)
               (rintro e w9 ⟨hb9, q9, G9, rfl, hg9, hR9⟩)
               (have hP9 := hP8.next hD hb9)
               (have hN9 := hP7.two.cut hD hJ8 hg8 hc8 hb9 hR9 hg9)
               (have c09 := hP9.c0)
               (rw [h9] at c09)
               (have hsm := same_tells hD hM hP9.two.dev.dev hP9.two.ref (by omega))
               (clear hrf2 hP7 hP8 hb8 hJ8 hg8 hc8 hR9 hg9 c38 c18))
            | ((go_at_call 31)
               (refine hsm.mono ?_)
               (rintro e w12 ⟨rfl, hb12⟩)
               (have hN12 := hN9.next hD hb12)
               (clear hsm))
            | (refine at_dst 74 rfl ?_; refine wpList_is (some 74) (.pointer (some ⟨x, o + k * 4, none⟩)) rfl (by rfl) (run_at_op _ _ rfl x o k len scap rfl rfl hkl _) ?_)
            | (refine at_dst 75 rfl ?_; refine wpList_is (some 75) (.agg (ocell v).toArray) rfl (by rfl) (run_load_op (.tmp 74) rfl x (o + k * 4) rfl v wr hcr) ?_)
            | (refine at_dst 10 rfl ?_; refine wpList_is_w (some 10) (.pointer (some ⟨wr.heap.size, 0, none⟩)) (wr.alloc (.cells #[.int .i64 0, .int .i64 0, .slice none 0 0, .slice none 0 0] 36)) rfl (by rfl) (by kernel_rfl) ?_)
            | ((refine at_st 36 (.tmp 10) (.tmp 75) rfl ?_)
               (refine wpList_copy_op wr v rfl (.tmp 10) (.tmp 75) rfl rfl rfl ?_)
               (intro w2 hH hB2)
               (have hP2 : Pl D k w.heap.size w w2 p q s s c m m F G (fun j => j = wr.heap.size) wr.heap.size v := Pl.start hD h2 hB2 (Nat.le_refl _) hH)
               (have hlt2 := hH.lt)
               (have c0 := hP2.c0)
               (rw [h9] at c0)
               (have c3 := hP2.c3)
               (have hdv := in_cut hD hP2.two.dev v.ka v.kl v.kc v.kb (by omega) hop.bo.max hop.bo.le (hP2.bools hop rfl))
               (clear hH hB2)))
          go_roundw
          case rel => exact ⟨k + 1, _, _, by omega, by omega, rfl, rfl, by go_num, Played.of hN12 rfl rfl (by omega) (by omega)⟩
          case measure => simp [intOf]; omega
      as_aux_lemma =>
        obtain ⟨z, hzz⟩ : ∃ z, z = v.k := ⟨_, rfl⟩
        rw [← hzz] at h1 h2' h6 h7 h8 h3 h10 h4 h5 h9
        have hz : Hid (z = v.k) := hzz
        clear hzz
        go_wp2_with (first
          | (refine at_dst 74 rfl ?_; refine wpList_is (some 74) (.pointer (some ⟨x, o + k * 4, none⟩)) rfl (by rfl) (run_at_op _ _ rfl x o k len scap rfl rfl hkl _) ?_)
          | (refine at_dst 75 rfl ?_; refine wpList_is (some 75) (.agg (ocell v).toArray) rfl (by rfl) (run_load_op (.tmp 74) rfl x (o + k * 4) rfl v wr hcr) ?_)
          | (refine at_dst 10 rfl ?_; refine wpList_is_w (some 10) (.pointer (some ⟨wr.heap.size, 0, none⟩)) (wr.alloc (.cells #[.int .i64 0, .int .i64 0, .slice none 0 0, .slice none 0 0] 36)) rfl (by rfl) (by kernel_rfl) ?_)
          | ((refine at_st 36 (.tmp 10) (.tmp 75) rfl ?_)
             (refine wpList_copy_op wr v rfl (.tmp 10) (.tmp 75) rfl rfl rfl ?_)
             (intro w2 hH hB2)
             (have hP2 : Pl D k w.heap.size w w2 p q s s c m m F G (fun j => j = wr.heap.size) wr.heap.size v := Pl.start hD h2 hB2 (Nat.le_refl _) hH)
             (have hlt2 := hH.lt)
             (have c0 := hP2.c0)
             (rw [← hz.out] at c0)
             (clear hH hB2)))
        go_roundw
        case rel => exact ⟨k + 1, p, q, by omega, by omega, rfl, rfl, by go_num, Played.of hP2.two rfl rfl (by omega) (by omega)⟩
        case measure => simp [intOf]; omega
    · have hsm := same_tells hD hM h2.dev.dev h2.ref (by omega)
      have hbl := h2.dev.below
      by_cases hk6 : k < len
      · have i0 : (k : Int) < (len : Int) := by omega
        have i1 : ¬ (k : Int) < 150 := by omega
        go_wp2_with (first
          | ((go_at_call 31)
             (refine hsm.mono ?_)
             (rintro e w5 ⟨rfl, hb5⟩)
             (clear hsm)))
        go_ret
        exact ⟨rfl, hbl.trans (hb5.mono h2.dev.sz)⟩
      · have i0 : ¬ (k : Int) < (len : Int) := by omega
        go_wp2_with (first
          | ((go_at_call 31)
             (refine hsm.mono ?_)
             (rintro e w5 ⟨rfl, hb5⟩)
             (clear hsm)))
        go_ret
        exact ⟨rfl, hbl.trans (hb5.mono h2.dev.sz)⟩
end Go.Proofs.Ytalcalecmklcoaa
