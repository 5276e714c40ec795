/- law04's own 'alive': the live question is answered. -/
import Derived.Test.YtcnlegnfecpdnaaAesLive
import Derived.Test.YtcnlegnfecpdnaaAesBl
namespace Go.Proofs.Ytcnlegnfecpdnaa
open Go.ChangeShapes Go.WideShapes Go.ChangeAt Go.RowKit
set_option linter.unusedVariables false

theorem run_eql_true {o : Oper} {a : Act} (x y : Operand) (ho : o.op = .binOp .eql 23 x y 23) (f : Nat → Nat) (hx : a.eval x = .agg (cellsN .u8 16 f)) (hy : a.eval y = .agg (cellsN .u8 16 f)) (hf : ∀ j, j < 16 → f j < 256) (w : World) :
    (execOp a.eval o).run Try.prog w = .ok (.value (.bool true)) w := by
  have := run_eql_block x y ho f f hx hy hf hf w
  rwa [eqB_same] at this

/-- Dots 17 j for the first k. -/
def dots (k j : Nat) : Nat := if j < k then 17 * j else 0

theorem dots_next (k : Nat) : upd (dots k) k (17 * k) = dots (k + 1) := by
  funext i
  unfold upd dots
  by_cases e : i = k
  · subst e; simp
  · have : (i < k + 1) = (i < k) := by simp; omega
    simp [e, this]

theorem dots_16 : cellsN .u8 16 (dots 16) = cellsN .u8 16 liveB := cellsN_congr _ _ _ _ (fun j hj => by simp [dots, liveB, hj])

theorem bl_id (k : Nat) : bl (cat liveK k (fun _ => k)) (k + 1) = bl liveK (k + 1) := by
  unfold bl
  apply List.map_congr_left
  intro j hj
  have : j < k + 1 := by simpa using hj
  unfold cat liveK
  by_cases h : j < k
  · rw [if_pos h]
  · rw [if_neg h, show j = k by omega]

theorem one_byte (w : World) (v : Nat) : Bytes (w.alloc (.cells #[.int .u8 (v : Nat)] 5)) (some ⟨w.heap.size, 0, none⟩) 1 (fun _ => v) := by
  refine .inr ⟨w.heap.size, 0, rfl, by simp, ?_⟩
  intro j hj
  obtain rfl : j = 0 := by omega
  exact (Has.new w 5 #[.int .u8 (v : Nat)]).cell 0

theorem own_setOther {w : World} {base n : Nat} {v : Value} {xs : List Value} (h : w.ownsRow base 5 1 v n xs) (p : Addr) (u : Value) (hp : p.block < base) : (w.setCell p u).ownsRow base 5 1 v n xs := by
  refine ⟨h.1, ?_⟩
  rcases h.2 with h0 | ⟨g, cap, cur, hv, h1, hg, r⟩
  · exact .inl h0
  · exact .inr ⟨g, cap, cur, hv, h1, (Below.heap_setCell w p u g (by omega)).trans hg, r⟩

set_option maxRecDepth 100000 in
set_option maxHeartbeats 1600000 in
theorem alive_any (w : World) : Calls Try.prog 12 #[] w fun e w' => e = .returned (.bool true) ∧ Below w.heap.size w w' := by
  have HXe : Hid (encAt (flat 4 liveK 44) 10 liveB 10 0 = 105 ∧ encAt (flat 4 liveK 44) 10 liveB 10 1 = 196 ∧ encAt (flat 4 liveK 44) 10 liveB 10 15 = 90) := live_ends
  have hfl : ∀ j, flat 4 liveK 44 j < 256 := flat_lt 4 liveK (fun j hj => by unfold liveK; omega) 44
  have HEn : Hid (∀ g w, Has w g 57 (ccells (flat 4 liveK 44) 10 IB) → Calls Try.prog 13 #[.pointer (some ⟨g, 0, none⟩), .agg (cellsN .u8 16 liveB)] w fun e w' => e = .returned (.agg (cellsN .u8 16 (encAt (flat 4 liveK 44) 10 liveB 10))) ∧ Below w.heap.size w w') :=
    fun g w h => encrypt_any _ 10 IB liveB g w (fun j _ => hfl j) (by omega) liveB_lt h
  have HDe : Hid (∀ g w, Has w g 57 (ccells (flat 4 liveK 44) 10 IB) → Calls Try.prog 15 #[.pointer (some ⟨g, 0, none⟩), .agg (cellsN .u8 16 (encAt (flat 4 liveK 44) 10 liveB 10))] w fun e w' => e = .returned (.agg (cellsN .u8 16 liveB)) ∧ Below w.heap.size w w') := by
    intro g w h
    have := decrypt_any _ 10 (encAt (flat 4 liveK 44) 10 liveB 10) g w (fun j _ => hfl j) (by omega) (encAt_lt (fun j _ => hfl j) 10 liveB_lt 10 (by omega)) h
    rwa [(dec_enc (flat 4 liveK 44) (fun j _ => hfl j) 10 (by omega) liveB liveB_lt).cells] at this
  obtain ⟨X, hX⟩ : ∃ X, X = encAt (flat 4 liveK 44) 10 liveB 10 := ⟨_, rfl⟩
  rw [← hX] at HXe HEn HDe
  obtain ⟨CC, hCC⟩ : ∃ CC, CC = ccells (flat 4 liveK 44) 10 IB := ⟨_, rfl⟩
  have HNw : Hid (∀ b o cap w, b < w.heap.size → 16 ≤ cap → (∀ j, j < 16 → w.cell? ⟨b, o + j, none⟩ = some (.int .u8 (liveK j : Nat))) → Calls Try.prog 9 #[.slice (some ⟨b, o, none⟩) 16 cap] w fun e w' => ∃ g, e = .returned (.tuple #[.pointer (some ⟨g, 0, none⟩), .int .i64 0]) ∧ w.heap.size ≤ g ∧ Has w' g 57 CC ∧ Below w.heap.size w w') := by
    intro b o cap w h1 h2 h3
    rw [hCC]
    exact new_16 liveK b o cap w (fun j hj => by unfold liveK; omega) h1 h2 h3
  rw [← hCC] at HEn HDe
  clear hX hCC hfl
  have HX := HXe
  go_enter Try.func12, Try.ntmps12
  go_wp2
  go_loopw [1, 3] (fun v i wr => ∃ k : Nat, k ≤ 16 ∧ i = .int .i64 k ∧ Has wr w.heap.size 23 (cellsN .u8 16 (dots k)) ∧ wr.ownsRow (w.heap.size + 1) 5 1 v k (bl liveK k) ∧ w.heap.size + 1 ≤ wr.heap.size ∧ Below w.heap.size w wr)
    (fun _ i _ => 16 - (intOf i).toNat)
  case atStart => exact ⟨0, Nat.zero_le _, rfl, Has.new w _ _, ⟨by simp [bl], .inl ⟨rfl, rfl⟩⟩, by simp, (Below.refl _ _).alloc (Nat.le_refl _) _⟩
  case round =>
    obtain ⟨k, hk, rfl, hB, hown, hsz, hbel⟩ := hrel
    by_cases hlt : k < 16
    · have i1 : (k : Int) < 16 := by omega
      have i0 : (0 : Int) ≤ (k : Int) := by omega
      go_wp2_with (first
        | (refine wpList_append_bytes rfl _ _ rfl (w.heap.size + 1) _ k liveK rfl (own_below hown ((Below.refl wr.heap.size wr).alloc (Nat.le_refl _) (.cells #[.int .u8 (k : Nat)] 5)) (fun g' h => (hown.lt g' h).2)) _ 1 1 (fun _ => k) rfl (fun h => by cases h) (one_byte wr k) (by omega) (by simp; omega) ?_
           intro v2 w2 hown2 hgr2
           rw [bl_id] at hown2
           have hB2 : Has w2 w.heap.size 23 (cellsN .u8 16 (dots k)) := (hgr2.block w.heap.size (by simp; omega) (fun e => by have := (hown.lt _ e.symm).1; omega)).trans (hB.alloc (.cells #[.int .u8 (k : Nat)] 5))
           have hb2 : Below w.heap.size w w2 := (hbel.alloc hbel.size _).grown hgr2 (by simp; omega) (fun k' h => by have := (hown.lt k' h).1; omega)
           have c2 := hB2.num k hlt
           have f2 := hB2.free k
           have hz2 : w.heap.size + 1 ≤ w2.heap.size := by have := hgr2.size; simp at this; omega
           clear hgr2 hown hB hbel))
      go_roundw
      case rel =>
        refine ⟨k + 1, by omega, by go_num, ?_, own_setOther hown2 _ _ (by simp), by simpa using hz2, hb2.setCell (by simp) _⟩
        have := hB2.set k (17 * k)
        rw [dots_next] at this
        rwa [Int.natCast_mul] at this
      case measure => simp [intOf]; omega
    · obtain rfl : k = 16 := by omega
      rw [dots_16] at hB
      obtain ⟨ka, kc, rfl, hkc, hkn, hby, hin⟩ := own_bytes hown
      rcases hby with h0 | ⟨kb, ko, rfl, hkb, hkc2⟩
      · exact absurd h0 (by decide)
      have hnew := HNw.out kb ko kc wr hkb hkc hkc2
      clear hown hin hkn hkc2
      go_wp2_with (first
        | (go_at_call 9; refine hnew.mono ?_; rintro e w3 ⟨gc, rfl, hgc, hC3, hb3⟩; have hB3 := hB.below hb3 hB.lt)
        | (refine wpList_load_row rfl 23 _ rfl w.heap.size rfl 23 (cellsN .u8 16 liveB) (0, 0) _ hB3 Try.underlying23 rfl (by rw [cellsN_size]; exact Try.size23) ?_)
        | (go_at_call 13; refine (HEn.out gc _ hC3).mono ?_; rintro e w4 ⟨rfl, hb4⟩; have hn4 : Has (w4.alloc (.cells (cellsN .u8 16 fun _ => 0) 23)) w4.heap.size 23 (cellsN .u8 16 fun _ => 0) := Has.new _ _ _)
        | (refine wpList_store_rowG rfl 23 _ _ rfl w4.heap.size (cellsN .u8 16 X) rfl rfl 23 _ hn4 (by rw [cellsN_size]; exact Try.size23) (by simp [cellsN_size]) (cellsN_one _ _ _) ?_
           intro w6 hw6
           have hs4 := hb4.size
           have hX6 : Has w6 w4.heap.size 23 (cellsN .u8 16 X) := by rw [hw6]; exact hn4.setRow _
           have hB6 : Has w6 w.heap.size 23 (cellsN .u8 16 liveB) := by rw [hw6]; exact ((hB3.below hb4 hB3.lt).alloc _).setRow_other (by have := hB3.lt; omega) _
           have hC6 : Has w6 gc 57 CC := by rw [hw6]; exact ((hC3.below hb4 hC3.lt).alloc _).setRow_other (by have := hC3.lt; omega) _
           have hbl6 : Below w.heap.size w w6 := by rw [hw6]; exact below_setRow (((hbel.trans (hb3.mono hbel.size)).trans (hb4.mono (Nat.le_trans hbel.size hb3.size))).alloc (by have := hbel.size; have := hb3.size; omega) _) (by have := hbel.size; have := hb3.size; omega) _
           clear hw6 hn4))
      obtain ⟨gx, hgx⟩ : ∃ gx, gx = w4.heap.size := ⟨_, rfl⟩
      rw [← hgx] at hX6 ⊢
      clear hgx
      have HD : Hid (∀ w, Has w gc 57 CC → Calls Try.prog 15 #[.pointer (some ⟨gc, 0, none⟩), .agg (cellsN .u8 16 X)] w fun e w' => e = .returned (.agg (cellsN .u8 16 liveB)) ∧ Below w.heap.size w w') := fun w h => HDe.out gc w h
      clear hb4 hs4 hC3 hB3 hb3 hnew hB
      refine wp_region_held_drew (S := fun w' => Has w' w.heap.size 23 (cellsN .u8 16 liveB) ∧ Has w' gx 23 (cellsN .u8 16 X)) (by kernel_rfl) ⟨hB6, hX6⟩ (fun hHeld => ?_)
      refine takeTo 0 (some 35) (.pointer (some ⟨gx, 0 + 0, none⟩)) rfl rfl (by kernel_rfl) (by kernel_rfl) (by kernel_rfl) (fun _ _ _ h => h) (by rfl) (fun wz _ => run_indexK .i64 23 _ _ rfl gx 0 0 16 5 rfl rfl Try.underlying23 one_u8 (by omega) wz) hHeld ?_
      simp only [Act.put, List.setIfInBounds_toArray, List.set_cons_zero, List.set_cons_succ]
      refine takeTo 1 (some 36) (.int .u8 105) rfl rfl (by kernel_rfl) (by kernel_rfl) (by kernel_rfl) (fun _ _ _ h => h) (by rfl) (fun wz hz => run_load_u8 _ rfl gx (0 + 0) rfl _ wz (by have := hz.2.num 0 (by omega); rw [HX.out.1] at this; exact this)) hHeld ?_
      simp only [Act.put, List.setIfInBounds_toArray, List.set_cons_zero, List.set_cons_succ]
      refine takeTo 2 (some 37) (.bool true) rfl rfl (by kernel_rfl) (by kernel_rfl) (by kernel_rfl) (fun _ _ _ h => h) (by rfl) (fun _ _ => rfl) hHeld ?_
      simp only [Act.put, List.setIfInBounds_toArray, List.set_cons_zero, List.set_cons_succ]
      refine takeTo 3 (some 38) (.bool true) rfl rfl (by kernel_rfl) (by kernel_rfl) (by kernel_rfl) (fun _ _ _ h => h) (by rfl) (fun _ _ => rfl) hHeld ?_
      simp only [Act.put, List.setIfInBounds_toArray, List.set_cons_zero, List.set_cons_succ]
      refine takeTo 4 (some 39) (.pointer (some ⟨gx, 0 + 1, none⟩)) rfl rfl (by kernel_rfl) (by kernel_rfl) (by kernel_rfl) (fun _ _ _ h => h) (by rfl) (fun wz _ => run_indexK .i64 23 _ _ rfl gx 0 1 16 5 rfl rfl Try.underlying23 one_u8 (by omega) wz) hHeld ?_
      simp only [Act.put, List.setIfInBounds_toArray, List.set_cons_zero, List.set_cons_succ]
      refine takeTo 5 (some 40) (.int .u8 196) rfl rfl (by kernel_rfl) (by kernel_rfl) (by kernel_rfl) (fun _ _ _ h => h) (by rfl) (fun wz hz => run_load_u8 _ rfl gx (0 + 1) rfl _ wz (by have := hz.2.num 1 (by omega); rw [HX.out.2.1] at this; exact this)) hHeld ?_
      simp only [Act.put, List.setIfInBounds_toArray, List.set_cons_zero, List.set_cons_succ]
      refine takeTo 6 (some 41) (.bool true) rfl rfl (by kernel_rfl) (by kernel_rfl) (by kernel_rfl) (fun _ _ _ h => h) (by rfl) (fun _ _ => rfl) hHeld ?_
      simp only [Act.put, List.setIfInBounds_toArray, List.set_cons_zero, List.set_cons_succ]
      refine takeTo 7 (some 42) (.bool true) rfl rfl (by kernel_rfl) (by kernel_rfl) (by kernel_rfl) (fun _ _ _ h => h) (by rfl) (fun _ _ => rfl) hHeld ?_
      simp only [Act.put, List.setIfInBounds_toArray, List.set_cons_zero, List.set_cons_succ]
      refine takeTo 8 (some 43) (.bool true) rfl rfl (by kernel_rfl) (by kernel_rfl) (by kernel_rfl) (fun _ _ _ h => h) (by rfl) (fun _ _ => rfl) hHeld ?_
      simp only [Act.put, List.setIfInBounds_toArray, List.set_cons_zero, List.set_cons_succ]
      refine takeTo 9 (some 44) (.pointer (some ⟨gx, 0 + 15, none⟩)) rfl rfl (by kernel_rfl) (by kernel_rfl) (by kernel_rfl) (fun _ _ _ h => h) (by rfl) (fun wz _ => run_indexK .i64 23 _ _ rfl gx 0 15 16 5 rfl rfl Try.underlying23 one_u8 (by omega) wz) hHeld ?_
      simp only [Act.put, List.setIfInBounds_toArray, List.set_cons_zero, List.set_cons_succ]
      refine takeTo 10 (some 45) (.int .u8 90) rfl rfl (by kernel_rfl) (by kernel_rfl) (by kernel_rfl) (fun _ _ _ h => h) (by rfl) (fun wz hz => run_load_u8 _ rfl gx (0 + 15) rfl _ wz (by have := hz.2.num 15 (by omega); rw [HX.out.2.2] at this; exact this)) hHeld ?_
      simp only [Act.put, List.setIfInBounds_toArray, List.set_cons_zero, List.set_cons_succ]
      refine takeTo 11 (some 46) (.bool true) rfl rfl (by kernel_rfl) (by kernel_rfl) (by kernel_rfl) (fun _ _ _ h => h) (by rfl) (fun _ _ => rfl) hHeld ?_
      simp only [Act.put, List.setIfInBounds_toArray, List.set_cons_zero, List.set_cons_succ]
      refine takeTo 12 (some 47) (.bool true) rfl rfl (by kernel_rfl) (by kernel_rfl) (by kernel_rfl) (fun _ _ _ h => h) (by rfl) (fun _ _ => rfl) hHeld ?_
      simp only [Act.put, List.setIfInBounds_toArray, List.set_cons_zero, List.set_cons_succ]
      refine takeTo 13 (some 48) (.bool true) rfl rfl (by kernel_rfl) (by kernel_rfl) (by kernel_rfl) (fun _ _ _ h => h) (by rfl) (fun _ _ => rfl) hHeld ?_
      simp only [Act.put, List.setIfInBounds_toArray, List.set_cons_zero, List.set_cons_succ]
      refine takeTo 14 (some 49) (.pointer (some ⟨gc, 0, none⟩)) rfl rfl (by kernel_rfl) (by kernel_rfl) (by kernel_rfl) (fun _ _ _ h => h) (by rfl) (fun _ _ => rfl) hHeld ?_
      simp only [Act.put, List.setIfInBounds_toArray, List.set_cons_zero, List.set_cons_succ]
      refine takeTo 15 (some 50) (.agg (cellsN .u8 16 X)) rfl rfl (by kernel_rfl) (by kernel_rfl) (by kernel_rfl) (fun _ _ _ h => h) (by rfl) (fun wz hz => run_load_row 23 _ rfl gx rfl _ 23 Try.underlying23 (by rw [cellsN_size]; exact Try.size23) wz hz.2) hHeld ?_
      simp only [Act.put, List.setIfInBounds_toArray, List.set_cons_zero, List.set_cons_succ]
      refine takeTo 17 (some 52) (.agg (cellsN .u8 16 liveB)) rfl rfl (by kernel_rfl) (by kernel_rfl) (by kernel_rfl) (fun _ _ _ h => h) (by rfl) (fun wz hz => run_load_row 23 _ rfl w.heap.size rfl _ 23 Try.underlying23 (by rw [cellsN_size]; exact Try.size23) wz hz.1) hHeld ?_
      simp only [Act.put, List.setIfInBounds_toArray, List.set_cons_zero, List.set_cons_succ]
      refine callTo 16 (some 51) 15 #[.pointer (some ⟨gc, 0, none⟩), .agg (cellsN .u8 16 X)] (by kernel_rfl) rfl rfl (by rfl) (by kernel_rfl) (HD.out w6.drew hC6) ?_
      rintro e w7 ⟨rfl, hb7⟩
      refine ⟨_, rfl, ⟨hB6.below (w := w6.drew) hb7 hB6.lt, hX6.below (w := w6.drew) hb7 hX6.lt⟩, ?_⟩
      clear hHeld
      have hHeld : Has w7 w.heap.size 23 (cellsN .u8 16 liveB) ∧ Has w7 gx 23 (cellsN .u8 16 X) := ⟨hB6.below (w := w6.drew) hb7 hB6.lt, hX6.below (w := w6.drew) hb7 hX6.lt⟩
      simp only [Act.put, List.setIfInBounds_toArray, List.set_cons_zero, List.set_cons_succ]
      refine takeTo 18 (some 53) (.bool true) rfl rfl (by kernel_rfl) (by kernel_rfl) (by kernel_rfl) (fun _ _ _ h => h) (by rfl) (fun wz _ => run_eql_true _ _ rfl liveB rfl rfl liveB_lt wz) hHeld ?_
      simp only [Act.put, List.setIfInBounds_toArray, List.set_cons_zero, List.set_cons_succ]
      refine takeTo 19 (some 54) (.bool true) rfl rfl (by kernel_rfl) (by kernel_rfl) (by kernel_rfl) (fun _ _ _ h => h) (by rfl) (fun _ _ => rfl) hHeld ?_
      simp only [Act.put, List.setIfInBounds_toArray, List.set_cons_zero, List.set_cons_succ]
      refine takeTo 20 (some 0) (.bool true) rfl rfl (by kernel_rfl) (by kernel_rfl) (by kernel_rfl) (fun _ _ _ h => h) (by rfl) (fun _ _ => rfl) hHeld ?_
      simp only [Act.put, List.setIfInBounds_toArray, List.set_cons_zero]
      refine wpAnyH_done (by kernel_rfl) ?_ _
      clear hHeld
      go_wp2
      go_ret
      exact ⟨rfl, hbl6.drew.trans (hb7.mono hbl6.size)⟩
end Go.Proofs.Ytcnlegnfecpdnaa
