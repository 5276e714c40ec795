/- ShaApart, walked. -/
import Derived.Test.YtcfcfchacfjmpaaDoorApOps
import Derived.Test.YtcfcfchacfjmpaaDoorShaRows
import Derived.Test.YtcfcfchacfjmpaaDoorApApp
import Derived.Test.YtcfcfchacfjmpaaDoorRegTo
namespace Go.Proofs.YtcfcfchacfjmpaaDoor
open Go.ChangeShapes Go.WideShapes Go.ChangeAt Go.RowKit
set_option linter.unusedVariables false

theorem eq_fun (f : Nat → Nat) (hf : ∀ j, j < 32 → f j < 256) : ∀ w, (Op.equalIn 10000 31 (.agg (cellsN .u8 32 f)) (.agg (cellsN .u8 32 f))).run Tryd.prog w = .ok true w := fun w => eq_digest f w hf

theorem both_sums (m : Nat → Nat) (N g : Nat) (hg : 1 < g) (hm : ∀ j, m j < 256) (hN : N < 1152921504606846000) : ∃ X : Array Value, X.size = 32 ∧ X.all (·.oneCell') = true ∧
    (∀ w, (Op.equalIn 10000 31 (.agg X) (.agg X)).run Tryd.prog w = .ok true w) ∧
    (∀ w, Glob Hc Kc w → Hash Hc Kc w g m N → Calls Tryd.prog 7 #[.pointer (some ⟨g, 0, none⟩)] w fun e w' => e = .returned (.agg X) ∧ Below w.heap.size w w') ∧
    ∀ w a cap, Glob Hc Kc w → N ≤ cap → Bytes w a N m → Calls Tryd.prog 8 #[.slice a N cap] w fun e w' => e = .returned (.agg X) ∧ Below w.heap.size w w' :=
  ⟨cellsN .u8 32 (SHA Hc Kc m N), cellsN_size _ _ _, cellsN_one _ _ _, eq_fun _ (fun j _ => SHA_lt _ _ _ _ _), fun w hG hh => hsum_any Hc Kc m g N w hG Hc_lt hm hg hN hh, fun w a cap hG hc hb => sum_any cap hG Hc_lt hm hc hN hb⟩

theorem sz_bytes : (Tryd.prog.info? 26).map (·.size) = some 1 := by kernel_rfl
theorem sz_phash : (Tryd.prog.info? 24).map (·.size) = some 1 := by kernel_rfl

theorem sz_bool : (Tryd.prog.info? 4).map (·.size) = some 1 := by kernel_rfl

theorem has_two {w : World} {g t : Nat} {a b : Value} (h : Has w g t #[a, b]) (v : Value) : Has (w.setCell ⟨g, 0, none⟩ v) g t #[v, b] ∧ Has (w.setCell ⟨g, 1, none⟩ v) g t #[a, v] := by
  have h' : w.heap[g]? = some (.cells #[a, b] t (0, 0)) := h
  constructor <;>
  · show (World.setCell w _ v).heap[g]? = _
    simp only [World.setCell, Array.getElem?_modify, h', if_pos, Option.map_some]
    rfl

def F1 (w w1 : World) : Prop := Has w1 w.heap.size 25 #[.pointer none, .pointer none] ∧ Has w1 (w.heap.size + 1) 27 #[.slice none 0 0, .slice none 0 0] ∧ Hash Hc Kc w1 (w.heap.size + 2) (fun _ => 0) 0 ∧ Glob Hc Kc w1 ∧ w1.heap.size = w.heap.size + 3 ∧ Below w.heap.size w w1
def F2 (w w2 : World) : Prop := Has w2 w.heap.size 25 #[.pointer (some ⟨w.heap.size + 2, 0, none⟩), .pointer none] ∧ Has w2 (w.heap.size + 1) 27 #[.slice none 0 0, .slice none 0 0] ∧ Hash Hc Kc w2 (w.heap.size + 2) (fun _ => 0) 0 ∧ Hash Hc Kc w2 (w.heap.size + 3) (fun _ => 0) 0 ∧ Glob Hc Kc w2 ∧ w2.heap.size = w.heap.size + 4 ∧ Below w.heap.size w w2

theorem hash_zero {w : World} {g : Nat} (h : Has w g 40 (hcells Hc (fun _ => 0) 0)) : Hash Hc Kc w g (fun _ => 0) 0 := ⟨fun _ => 0, fun _ _ => by show 0 < 256; decide, fun j hj => by omega, h⟩

theorem new_first (w : World) (hG : Glob Hc Kc w) : Calls Tryd.prog 4 #[] ((w.alloc (.cells #[.pointer none, .pointer none] 25)).alloc (.cells #[.slice none 0 0, .slice none 0 0] 27)) fun e w' => e = .returned (.pointer (some ⟨w.heap.size + 2, 0, none⟩)) ∧ F1 w w' := by
  have hb : Below w.heap.size w ((w.alloc (.cells #[.pointer none, .pointer none] 25)).alloc (.cells #[.slice none 0 0, .slice none 0 0] 27)) := ((Below.refl _ _).alloc (Nat.le_refl _) _).alloc (by simp) _
  refine (new_any Hc Kc _ (hG.below hb hG.1)).mono fun e w' ⟨he, hw⟩ => ?_
  refine ⟨by rw [he]; simp, ?_⟩
  rw [hw]
  exact ⟨((Has.new _ _ _).alloc _).alloc _, (Has.new_at (by simp)).alloc _, hash_zero (Has.new_at (by simp)), (hG.below hb hG.1).alloc _, by simp, hb.alloc (by simp; omega) _⟩

theorem new_second (w w1 : World) (h : F1 w w1) (h1 : 1 < w.heap.size) : Calls Tryd.prog 4 #[] (w1.setCell ⟨w.heap.size, 0, none⟩ (.pointer (some ⟨w.heap.size + 2, 0, none⟩))) fun e w' => e = .returned (.pointer (some ⟨w.heap.size + 3, 0, none⟩)) ∧ F2 w w' := by
  obtain ⟨a, b, c, d, s, e⟩ := h
  have hb : Below w.heap.size w1 (w1.setCell ⟨w.heap.size, 0, none⟩ (.pointer (some ⟨w.heap.size + 2, 0, none⟩))) := (Below.refl w.heap.size w1).setCell (show w.heap.size ≤ w.heap.size from Nat.le_refl _) _
  have hs : (w1.setCell ⟨w.heap.size, 0, none⟩ (.pointer (some ⟨w.heap.size + 2, 0, none⟩))).heap.size = w.heap.size + 3 := by simpa [World.setCell] using s
  refine (new_any Hc Kc _ (d.below hb h1)).mono fun e' w' ⟨he, hw⟩ => ?_
  refine ⟨by rw [he, hs], ?_⟩
  rw [hw]
  obtain ⟨rest, r1, r2, hH⟩ := c
  exact ⟨(has_two a _).1.alloc _, (b.other (show w.heap.size + 1 ≠ w.heap.size by omega) _).alloc _, ⟨rest, r1, r2, (hH.other (show w.heap.size + 2 ≠ w.heap.size by omega) _).alloc _⟩, hash_zero (Has.new_at (by rw [hs])), (d.below hb h1).alloc _, by simp [hs], (e.trans hb).alloc (by omega) _⟩

theorem F2.inv {w w2 : World} (h : F2 w w2) (h1 : 1 < w.heap.size) : AInv w (w2.setCell ⟨w.heap.size, 1, none⟩ (.pointer (some ⟨w.heap.size + 3, 0, none⟩))) (fun _ => .slice none 0 0) (fun _ _ => 0) (fun _ => 0) (fun _ => 0) := by
  obtain ⟨a, b, c, c', d, s, e⟩ := h
  have hb : Below w.heap.size w2 (w2.setCell ⟨w.heap.size, 1, none⟩ (.pointer (some ⟨w.heap.size + 3, 0, none⟩))) := (Below.refl w.heap.size w2).setCell (show w.heap.size ≤ w.heap.size from Nat.le_refl _) _
  refine ⟨(has_two a _).2, b.other (show w.heap.size + 1 ≠ w.heap.size by omega) _, fun p hp => ?_, fun p _ => World.ownsRow_nil _ _ _ _, fun g hg => by simp [Value.ownBlock] at hg, d.below hb h1, by have := hb.size; omega, e.trans hb⟩
  rcases (show p = 0 ∨ p = 1 by omega) with rfl | rfl
  · obtain ⟨rest, r1, r2, hH⟩ := c
    exact ⟨rest, r1, r2, hH.other (show w.heap.size + 2 ≠ w.heap.size by omega) _⟩
  · obtain ⟨rest, r1, r2, hH⟩ := c'
    exact ⟨rest, r1, r2, hH.other (show w.heap.size + 3 ≠ w.heap.size by omega) _⟩

theorem two_at {w : World} {g t : Nat} {V : Nat → Value} (h : Has w g t #[V 0, V 1]) (p : Nat) (hp : p < 2) : w.cell? ⟨g, 0 + p, none⟩ = some (V p) ∧ w.frozen? ⟨g, 0 + p, none⟩ = false := by
  rw [Nat.zero_add]
  refine ⟨?_, h.free p⟩
  rw [h.cell]
  rcases (show p = 0 ∨ p = 1 by omega) with rfl | rfl <;> rfl

set_option maxRecDepth 100000 in
set_option maxHeartbeats 3200000 in
theorem apart_walk (a : Option Addr) (len cap : Nat) (A : Nat → Option Addr) (L C : Nat → Nat) (M : Nat → Nat → Nat) (aa : Option Addr) (alen acap : Nat) (asks : Nat → Bool) (w : World) (hG : Glob Hc Kc w) (hlen : len ≤ maxLen) (hP : Pieces w a len A L C M) (halen : alen ≤ maxLen)
    (hasks : ∀ i, i < alen → ∃ b off, aa = some ⟨b, off, none⟩ ∧ b < w.heap.size ∧ w.cell? ⟨b, off + i, none⟩ = some (.bool (asks i))) :
    Calls Tryd.prog 3 #[.slice a len cap, .slice aa alen acap] w fun e w' => e = .returned (.bool true) ∧ Below w.heap.size w w' := by
  unfold maxLen at hlen halen
  have h1 := hG.1
  have hn1 := new_first w hG
  go_enter Tryd.func3, Tryd.ntmps3
  go_wp2_with (first
    | ((go_at_call 4)
       (have _t := hn1)
       (refine hn1.mono ?_)
       (rintro e w1 ⟨rfl, hF1⟩)
       (have hn2 := new_second w w1 hF1 h1)
       (have c1 : w1.cell? ⟨w.heap.size, 0, none⟩ = some (.pointer none) := (by rw [hF1.1.cell]; rfl))
       (have f1 := hF1.1.free 0)
       (clear hn1 _t hF1))
    | ((go_at_call 4)
       (have _t := hn2)
       (refine hn2.mono ?_)
       (rintro e w2 ⟨rfl, hF2⟩)
       (have c2 : w2.cell? ⟨w.heap.size, 1, none⟩ = some (.pointer none) := (by rw [hF2.1.cell]; rfl))
       (have f2 := hF2.1.free 1)
       (have hI2 := hF2.inv h1)
       (clear hn2 _t hF2 c1 f1))
    | ((go_at_call 5)
       (refine (alive_any _ hI2.2.2.2.2.2.1).mono ?_)
       (rintro e w3 ⟨rfl, hb3⟩)
       (have hI3 := hI2.below hb3)
       (have d0 : w3.cell? ⟨w.heap.size, 0, none⟩ = some (.pointer (some ⟨w.heap.size + 2, 0, none⟩)) := (by rw [hI3.1.cell]; rfl))
       (have d1 : w3.cell? ⟨w.heap.size, 1, none⟩ = some (.pointer (some ⟨w.heap.size + 3, 0, none⟩)) := (by rw [hI3.1.cell]; rfl))
       (clear hI2 hb3 c2 f2)))
  clear d0 d1
  go_loopw [7] (fun i wr => ∃ (k : Nat) (V : Nat → Value) (MM : Nat → Nat → Nat) (N : Nat → Nat), k ≤ len ∧ k ≤ 40 ∧ i = .int .i64 k ∧ (∀ p, N p ≤ 20000) ∧ (∀ p j, MM p j < 256) ∧ AInv w wr V MM N N)
    (fun i _ => 40 - (intOf i).toNat)
  case atStart => exact ⟨0, _, _, _, Nat.zero_le _, Nat.zero_le _, rfl, fun _ => Nat.zero_le _, fun _ _ => by show 0 < 256; decide, hI3⟩
  case round =>
    clear hI3
    obtain ⟨k, V, MM, N, hkl, hk40, rfl, hN, hMM, hI⟩ := hrel
    by_cases hk : k < len
    · by_cases hk4 : k < 40
      · obtain ⟨⟨lb, lo, rfl, hlb, hlc⟩, hLC, hnil, hBy, hMk⟩ := hP k hk
        have i0 : (k : Int) < (len : Int) := by omega
        have i1 : (k : Int) < 40 := by omega
        have i2 : (0 : Int) ≤ (k : Int) := by omega
        have hp2 : k % 2 < 2 := Nat.mod_lt _ (by decide)
        have hbel := hI.2.2.2.2.2.2.2
        obtain ⟨va, vc, hVe, hvc, hvn, hvb, hvs⟩ := own_bytes (hI.2.2.2.1 (k % 2) hp2)
        have cL : ∀ wz, Below w.heap.size w wz → wz.cell? ⟨lb, lo + k, none⟩ = some (.slice (A k) (L k) (C k)) := fun wz h => (h.cell (show lb < w.heap.size from hlb)).trans hlc
        have cB : wr.drew.cell? ⟨w.heap.size + 1, 0 + k % 2, none⟩ = some (.slice va (N (k % 2)) vc) := by
          have := (two_at (w := wr.drew) hI.2.1 (k % 2) hp2).1
          rw [hVe] at this
          exact this
        by_cases hbig : 20000 - N (k % 2) < L k
        · go_wp2_with fail
          refine wp_region_held_drew (S := fun wz => wz.cell? ⟨lb, lo + k, none⟩ = some (.slice (A k) (L k) (C k)) ∧ wz.cell? ⟨w.heap.size + 1, 0 + k % 2, none⟩ = some (.slice va (N (k % 2)) vc)) (by kernel_rfl) ⟨cL _ hbel.drew, cB⟩ (fun hHeld => ?_)
          refine takeTo 0 (some 34) (.slice (some ⟨lb, lo, none⟩) len cap) rfl rfl (by kernel_rfl) (by kernel_rfl) (by kernel_rfl) (fun _ _ _ h => h) (by rfl) (fun _ _ => rfl) hHeld ?_
          simp only [Act.put, List.setIfInBounds_toArray, List.set_cons_zero, List.set_cons_succ]
          refine takeTo 1 (some 35) (.int .i64 (k : Nat)) rfl rfl (by kernel_rfl) (by kernel_rfl) (by kernel_rfl) (fun _ _ _ h => h) (by rfl) (fun _ _ => rfl) hHeld ?_
          simp only [Act.put, List.setIfInBounds_toArray, List.set_cons_zero, List.set_cons_succ]
          refine takeTo 2 (some 36) (.pointer (some ⟨lb, lo + k, none⟩)) rfl rfl (by kernel_rfl) (by kernel_rfl) (by kernel_rfl) (fun _ _ _ h => h) (by rfl) (fun wz _ => run_at_slice 22 _ _ rfl lb lo k len cap 26 rfl rfl Tryd.underlying22 sz_bytes hk wz) hHeld ?_
          simp only [Act.put, List.setIfInBounds_toArray, List.set_cons_zero, List.set_cons_succ]
          refine takeTo 3 (some 37) (.slice (A k) (L k) (C k)) rfl rfl (by kernel_rfl) (by kernel_rfl) (by kernel_rfl) (fun _ _ _ h => h) (by rfl) (fun wz hz => run_load_row1 _ rfl ⟨lb, lo + k, none⟩ rfl _ wz hz.1) hHeld ?_
          simp only [Act.put, List.setIfInBounds_toArray, List.set_cons_zero, List.set_cons_succ]
          refine takeTo 4 (some 38) (.int .i64 (L k : Nat)) rfl rfl (by kernel_rfl) (by kernel_rfl) (by kernel_rfl) (fun _ _ _ h => h) (by rfl) (fun wz _ => run_len_of 26 5 Tryd.underlying26 _ rfl _ _ _ rfl wz) hHeld ?_
          simp only [Act.put, List.setIfInBounds_toArray, List.set_cons_zero, List.set_cons_succ]
          refine takeTo 5 (some 39) (.int .i64 (k : Nat)) rfl rfl (by kernel_rfl) (by kernel_rfl) (by kernel_rfl) (fun _ _ _ h => h) (by rfl) (fun _ _ => rfl) hHeld ?_
          simp only [Act.put, List.setIfInBounds_toArray, List.set_cons_zero, List.set_cons_succ]
          refine takeTo 6 (some 40) (.int .i64 ((k % 2 : Nat) : Int)) rfl rfl (by kernel_rfl) (by kernel_rfl) (by kernel_rfl) (fun _ _ _ h => h) (by rfl) (fun wz _ => run_rem2 _ rfl k rfl (by omega) wz) hHeld ?_
          simp only [Act.put, List.setIfInBounds_toArray, List.set_cons_zero, List.set_cons_succ]
          refine takeTo 7 (some 41) (.pointer (some ⟨w.heap.size + 1, 0 + k % 2, none⟩)) rfl rfl (by kernel_rfl) (by kernel_rfl) (by kernel_rfl) (fun _ _ _ h => h) (by rfl) (fun wz _ => run_at_array 27 _ _ rfl (w.heap.size + 1) 0 (k % 2) 2 26 rfl rfl Tryd.underlying27 sz_bytes hp2 wz) hHeld ?_
          simp only [Act.put, List.setIfInBounds_toArray, List.set_cons_zero, List.set_cons_succ]
          refine takeTo 8 (some 42) (.slice va (N (k % 2)) vc) rfl rfl (by kernel_rfl) (by kernel_rfl) (by kernel_rfl) (fun _ _ _ h => h) (by rfl) (fun wz hz => run_load_row1 _ rfl ⟨w.heap.size + 1, 0 + k % 2, none⟩ rfl _ wz hz.2) hHeld ?_
          simp only [Act.put, List.setIfInBounds_toArray, List.set_cons_zero, List.set_cons_succ]
          refine takeTo 9 (some 43) (.int .i64 (N (k % 2) : Nat)) rfl rfl (by kernel_rfl) (by kernel_rfl) (by kernel_rfl) (fun _ _ _ h => h) (by rfl) (fun wz _ => run_len_of 26 5 Tryd.underlying26 _ rfl _ _ _ rfl wz) hHeld ?_
          simp only [Act.put, List.setIfInBounds_toArray, List.set_cons_zero, List.set_cons_succ]
          refine takeTo 10 (some 44) (.int .i64 ((20000 - N (k % 2) : Nat) : Int)) rfl rfl (by kernel_rfl) (by kernel_rfl) (by kernel_rfl) (fun _ _ _ h => h) (by rfl) (fun wz _ => run_left _ rfl _ rfl (hN _) wz) hHeld ?_
          simp only [Act.put, List.setIfInBounds_toArray, List.set_cons_zero, List.set_cons_succ]
          refine takeTo 11 (some 45) (.bool true) rfl rfl (by kernel_rfl) (by kernel_rfl) (by kernel_rfl) (fun _ _ _ h => h) (by rfl) (fun wz _ => run_more _ _ rfl (L k) (20000 - N (k % 2)) rfl rfl _ (by simp; omega) wz) hHeld ?_
          simp only [Act.put, List.setIfInBounds_toArray, List.set_cons_zero, List.set_cons_succ]
          refine wpAnyH_done (by kernel_rfl) ?_ _
          go_wp2
          go_ret
          exact ⟨rfl, hbel.drew⟩
        · have hNk := hN (k % 2)
          go_wp2_with fail
          refine wp_region_held_drew (S := fun wz => wz.cell? ⟨lb, lo + k, none⟩ = some (.slice (A k) (L k) (C k)) ∧ wz.cell? ⟨w.heap.size + 1, 0 + k % 2, none⟩ = some (.slice va (N (k % 2)) vc)) (by kernel_rfl) ⟨cL _ hbel.drew, cB⟩ (fun hHeld => ?_)
          refine takeTo 0 (some 34) (.slice (some ⟨lb, lo, none⟩) len cap) rfl rfl (by kernel_rfl) (by kernel_rfl) (by kernel_rfl) (fun _ _ _ h => h) (by rfl) (fun _ _ => rfl) hHeld ?_
          simp only [Act.put, List.setIfInBounds_toArray, List.set_cons_zero, List.set_cons_succ]
          refine takeTo 1 (some 35) (.int .i64 (k : Nat)) rfl rfl (by kernel_rfl) (by kernel_rfl) (by kernel_rfl) (fun _ _ _ h => h) (by rfl) (fun _ _ => rfl) hHeld ?_
          simp only [Act.put, List.setIfInBounds_toArray, List.set_cons_zero, List.set_cons_succ]
          refine takeTo 2 (some 36) (.pointer (some ⟨lb, lo + k, none⟩)) rfl rfl (by kernel_rfl) (by kernel_rfl) (by kernel_rfl) (fun _ _ _ h => h) (by rfl) (fun wz _ => run_at_slice 22 _ _ rfl lb lo k len cap 26 rfl rfl Tryd.underlying22 sz_bytes hk wz) hHeld ?_
          simp only [Act.put, List.setIfInBounds_toArray, List.set_cons_zero, List.set_cons_succ]
          refine takeTo 3 (some 37) (.slice (A k) (L k) (C k)) rfl rfl (by kernel_rfl) (by kernel_rfl) (by kernel_rfl) (fun _ _ _ h => h) (by rfl) (fun wz hz => run_load_row1 _ rfl ⟨lb, lo + k, none⟩ rfl _ wz hz.1) hHeld ?_
          simp only [Act.put, List.setIfInBounds_toArray, List.set_cons_zero, List.set_cons_succ]
          refine takeTo 4 (some 38) (.int .i64 (L k : Nat)) rfl rfl (by kernel_rfl) (by kernel_rfl) (by kernel_rfl) (fun _ _ _ h => h) (by rfl) (fun wz _ => run_len_of 26 5 Tryd.underlying26 _ rfl _ _ _ rfl wz) hHeld ?_
          simp only [Act.put, List.setIfInBounds_toArray, List.set_cons_zero, List.set_cons_succ]
          refine takeTo 5 (some 39) (.int .i64 (k : Nat)) rfl rfl (by kernel_rfl) (by kernel_rfl) (by kernel_rfl) (fun _ _ _ h => h) (by rfl) (fun _ _ => rfl) hHeld ?_
          simp only [Act.put, List.setIfInBounds_toArray, List.set_cons_zero, List.set_cons_succ]
          refine takeTo 6 (some 40) (.int .i64 ((k % 2 : Nat) : Int)) rfl rfl (by kernel_rfl) (by kernel_rfl) (by kernel_rfl) (fun _ _ _ h => h) (by rfl) (fun wz _ => run_rem2 _ rfl k rfl (by omega) wz) hHeld ?_
          simp only [Act.put, List.setIfInBounds_toArray, List.set_cons_zero, List.set_cons_succ]
          refine takeTo 7 (some 41) (.pointer (some ⟨w.heap.size + 1, 0 + k % 2, none⟩)) rfl rfl (by kernel_rfl) (by kernel_rfl) (by kernel_rfl) (fun _ _ _ h => h) (by rfl) (fun wz _ => run_at_array 27 _ _ rfl (w.heap.size + 1) 0 (k % 2) 2 26 rfl rfl Tryd.underlying27 sz_bytes hp2 wz) hHeld ?_
          simp only [Act.put, List.setIfInBounds_toArray, List.set_cons_zero, List.set_cons_succ]
          refine takeTo 8 (some 42) (.slice va (N (k % 2)) vc) rfl rfl (by kernel_rfl) (by kernel_rfl) (by kernel_rfl) (fun _ _ _ h => h) (by rfl) (fun wz hz => run_load_row1 _ rfl ⟨w.heap.size + 1, 0 + k % 2, none⟩ rfl _ wz hz.2) hHeld ?_
          simp only [Act.put, List.setIfInBounds_toArray, List.set_cons_zero, List.set_cons_succ]
          refine takeTo 9 (some 43) (.int .i64 (N (k % 2) : Nat)) rfl rfl (by kernel_rfl) (by kernel_rfl) (by kernel_rfl) (fun _ _ _ h => h) (by rfl) (fun wz _ => run_len_of 26 5 Tryd.underlying26 _ rfl _ _ _ rfl wz) hHeld ?_
          simp only [Act.put, List.setIfInBounds_toArray, List.set_cons_zero, List.set_cons_succ]
          refine takeTo 10 (some 44) (.int .i64 ((20000 - N (k % 2) : Nat) : Int)) rfl rfl (by kernel_rfl) (by kernel_rfl) (by kernel_rfl) (fun _ _ _ h => h) (by rfl) (fun wz _ => run_left _ rfl _ rfl (hN _) wz) hHeld ?_
          simp only [Act.put, List.setIfInBounds_toArray, List.set_cons_zero, List.set_cons_succ]
          refine takeTo 11 (some 45) (.bool false) rfl rfl (by kernel_rfl) (by kernel_rfl) (by kernel_rfl) (fun _ _ _ h => h) (by rfl) (fun wz _ => run_more _ _ rfl (L k) (20000 - N (k % 2)) rfl rfl _ (by simp; omega) wz) hHeld ?_
          simp only [Act.put, List.setIfInBounds_toArray, List.set_cons_zero, List.set_cons_succ]
          refine wpAnyH_done (by kernel_rfl) ?_ _
          clear hHeld cB
          go_wp2
          have hId := hI.drew.drew
          have hcl := cat_lt (MM (k % 2)) (M k) (N (k % 2)) (hMM _) hMk
          have hIc : AInv w wr.drew.drew V (fset MM (k % 2) (cat (MM (k % 2)) (N (k % 2)) (M k))) N N := hId.congr (fun p hp j hj => by
            by_cases e : p = k % 2
            · subst e; rw [fset_at]; simp [cat, show j < N (k % 2) by omega]
            · rw [fset_ne _ _ _ _ e])
          have cH : wr.drew.drew.cell? ⟨w.heap.size, 0 + k % 2, none⟩ = some (.pointer (some ⟨w.heap.size + 2 + k % 2, 0, none⟩)) := by
            have := (two_at (V := fun p => .pointer (some ⟨w.heap.size + 2 + p, 0, none⟩)) hIc.1 (k % 2) hp2).1
            exact this
          have hBw := hBy.below hIc.2.2.2.2.2.2.2 (Nat.le_refl _)
          have hhk := hIc.2.2.1 (k % 2) hp2
          rw [fset_at] at hhk
          have hW := write_any (C k) hIc.2.2.2.2.2.1 Hc_lt hcl (show 1 < w.heap.size + 2 + k % 2 by omega) hLC (by omega) hhk (hBw.congr (fun j _ => by unfold cat; rw [if_neg (by omega), show N (k % 2) + j - N (k % 2) = j from by omega])) (by
            by_cases h0 : L k = 0
            · exact .inl h0
            · refine .inr fun b off e => ?_
              rcases hBy with h | ⟨b', o', e', hb', _⟩
              · omega
              · rw [e'] at e; simp only [Option.some.injEq, Addr.mk.injEq, and_true] at e; omega)
          refine wp_region_held_drew (S := fun wz => wz.cell? ⟨lb, lo + k, none⟩ = some (.slice (A k) (L k) (C k)) ∧ wz.cell? ⟨w.heap.size, 0 + k % 2, none⟩ = some (.pointer (some ⟨w.heap.size + 2 + k % 2, 0, none⟩))) (by kernel_rfl) ⟨cL _ hbel.drew.drew, cH⟩ (fun hHeld => ?_)
          refine takeTo 0 (some 46) (.int .i64 (k : Nat)) rfl rfl (by kernel_rfl) (by kernel_rfl) (by kernel_rfl) (fun _ _ _ h => h) (by rfl) (fun _ _ => rfl) hHeld ?_
          simp only [Act.put, List.setIfInBounds_toArray, List.set_cons_zero, List.set_cons_succ]
          refine takeTo 1 (some 47) (.int .i64 ((k % 2 : Nat) : Int)) rfl rfl (by kernel_rfl) (by kernel_rfl) (by kernel_rfl) (fun _ _ _ h => h) (by rfl) (fun wz _ => run_rem2 _ rfl k rfl (by omega) wz) hHeld ?_
          simp only [Act.put, List.setIfInBounds_toArray, List.set_cons_zero, List.set_cons_succ]
          refine takeTo 2 (some 48) (.pointer (some ⟨w.heap.size, 0 + k % 2, none⟩)) rfl rfl (by kernel_rfl) (by kernel_rfl) (by kernel_rfl) (fun _ _ _ h => h) (by rfl) (fun wz _ => run_at_array 25 _ _ rfl w.heap.size 0 (k % 2) 2 24 rfl rfl Tryd.underlying25 sz_phash hp2 wz) hHeld ?_
          simp only [Act.put, List.setIfInBounds_toArray, List.set_cons_zero, List.set_cons_succ]
          refine takeTo 3 (some 49) (.pointer (some ⟨w.heap.size + 2 + k % 2, 0, none⟩)) rfl rfl (by kernel_rfl) (by kernel_rfl) (by kernel_rfl) (fun _ _ _ h => h) (by rfl) (fun wz hz => run_load_hash _ rfl ⟨w.heap.size, 0 + k % 2, none⟩ rfl _ wz hz.2) hHeld ?_
          simp only [Act.put, List.setIfInBounds_toArray, List.set_cons_zero, List.set_cons_succ]
          refine takeTo 4 (some 50) (.slice (some ⟨lb, lo, none⟩) len cap) rfl rfl (by kernel_rfl) (by kernel_rfl) (by kernel_rfl) (fun _ _ _ h => h) (by rfl) (fun _ _ => rfl) hHeld ?_
          simp only [Act.put, List.setIfInBounds_toArray, List.set_cons_zero, List.set_cons_succ]
          refine takeTo 5 (some 51) (.int .i64 (k : Nat)) rfl rfl (by kernel_rfl) (by kernel_rfl) (by kernel_rfl) (fun _ _ _ h => h) (by rfl) (fun _ _ => rfl) hHeld ?_
          simp only [Act.put, List.setIfInBounds_toArray, List.set_cons_zero, List.set_cons_succ]
          refine takeTo 6 (some 52) (.pointer (some ⟨lb, lo + k, none⟩)) rfl rfl (by kernel_rfl) (by kernel_rfl) (by kernel_rfl) (fun _ _ _ h => h) (by rfl) (fun wz _ => run_at_slice 22 _ _ rfl lb lo k len cap 26 rfl rfl Tryd.underlying22 sz_bytes hk wz) hHeld ?_
          simp only [Act.put, List.setIfInBounds_toArray, List.set_cons_zero, List.set_cons_succ]
          refine takeTo 7 (some 53) (.slice (A k) (L k) (C k)) rfl rfl (by kernel_rfl) (by kernel_rfl) (by kernel_rfl) (fun _ _ _ h => h) (by rfl) (fun wz hz => run_load_row1 _ rfl ⟨lb, lo + k, none⟩ rfl _ wz hz.1) hHeld ?_
          simp only [Act.put, List.setIfInBounds_toArray, List.set_cons_zero, List.set_cons_succ]
          refine callTo 8 (some 54) 6 #[.pointer (some ⟨w.heap.size + 2 + k % 2, 0, none⟩), .slice (A k) (L k) (C k)] (by kernel_rfl) rfl rfl (by rfl) (by kernel_rfl) hW ?_
          rintro e w5 ⟨rfl, hh5, hb5⟩
          have hI5 := hIc.wrote (k % 2) (N (k % 2) + L k) hp2 hb5 (by rw [fset_at]; exact hh5) h1
          refine ⟨_, rfl, ⟨cL _ hI5.2.2.2.2.2.2.2, (two_at (V := fun p => .pointer (some ⟨w.heap.size + 2 + p, 0, none⟩)) hI5.1 (k % 2) hp2).1⟩, ?_⟩
          simp only [Act.put, List.setIfInBounds_toArray, List.set_cons_zero, List.set_cons_succ]
          refine wpAnyH_done (by kernel_rfl) ?_ _
          clear hHeld hW hhk hBw cH hIc hId hb5 hh5 hI hvb hvs
          go_wp2
          have hI5d := hI5.drew
          clear hI5
          have cB5 := two_at hI5d.2.1 (k % 2) hp2
          rw [hVe] at cB5
          have hown5 := hI5d.2.2.2.1 (k % 2) hp2
          rw [fset_at, hVe] at hown5
          have hBw5 := hBy.below hI5d.2.2.2.2.2.2.2 (Nat.le_refl _)
          obtain ⟨v', w6, hr6, hown6, hgr6, hwh6⟩ := append_where w5.drew (w.heap.size + 4) _ (N (k % 2)) _ hown5 (A k) (L k) (C k) (M k) hnil hBw5 (by omega) hI5d.2.2.2.2.2.2.1
          rw [cat_cat] at hown6
          obtain ⟨na, nc, hv', _, _, _, _⟩ := own_bytes hown6
          subst hv'
          have hgr6' := hgr6
          have hwh6' := hwh6
          rw [← hVe] at hgr6' hwh6'
          have hI6 := hI5d.appended (k % 2) (N (k % 2) + L k) _ hp2 hgr6' (by rw [fset_at]; exact hown6) hwh6' h1
          have hlow : w6.heap[w.heap.size + 1]? = w5.drew.heap[w.heap.size + 1]? := hgr6.block _ hI5d.2.1.lt (fun e => by have := (hown5.lt _ e.symm).1; omega)
          have hA6 : Has w6 (w.heap.size + 1) 27 #[V 0, V 1] := hlow.trans hI5d.2.1
          have cB6 := two_at hA6 (k % 2) hp2
          rw [hVe] at cB6
          have hB6 : Below w.heap.size w w6 := hI5d.2.2.2.2.2.2.2.trans ((Below.refl w5.drew.heap.size w5.drew).mono (hI5d.2.2.2.2.2.2.2.size) |>.grown hgr6 (by exact hI5d.2.2.2.2.2.2.2.size) (fun g hg => by have := (hown5.lt g hg).1; omega))
          refine lastTo (S := fun wz => wz.cell? ⟨lb, lo + k, none⟩ = some (.slice (A k) (L k) (C k)) ∧ wz.cell? ⟨w.heap.size + 1, 0 + k % 2, none⟩ = some (.slice va (N (k % 2)) vc)) 12 (by kernel_rfl) ⟨cL _ hI5d.2.2.2.2.2.2.2, cB5.1⟩ (fun hHeld => ?_)
          refine takeL 0 (some 55) (.int .i64 (k : Nat)) rfl rfl (by decide) (by kernel_rfl) (by kernel_rfl) (by kernel_rfl) (by kernel_rfl) (fun _ _ _ h => h) (by rfl) (fun _ _ => rfl) hHeld ?_
          simp only [Act.put, List.setIfInBounds_toArray, List.set_cons_zero, List.set_cons_succ]
          refine takeL 1 (some 56) (.int .i64 ((k % 2 : Nat) : Int)) rfl rfl (by decide) (by kernel_rfl) (by kernel_rfl) (by kernel_rfl) (by kernel_rfl) (fun _ _ _ h => h) (by rfl) (fun wz _ => run_rem2 _ rfl k rfl (by omega) wz) hHeld ?_
          simp only [Act.put, List.setIfInBounds_toArray, List.set_cons_zero, List.set_cons_succ]
          refine takeL 2 (some 57) (.int .i64 (k : Nat)) rfl rfl (by decide) (by kernel_rfl) (by kernel_rfl) (by kernel_rfl) (by kernel_rfl) (fun _ _ _ h => h) (by rfl) (fun _ _ => rfl) hHeld ?_
          simp only [Act.put, List.setIfInBounds_toArray, List.set_cons_zero, List.set_cons_succ]
          refine takeL 3 (some 58) (.int .i64 ((k % 2 : Nat) : Int)) rfl rfl (by decide) (by kernel_rfl) (by kernel_rfl) (by kernel_rfl) (by kernel_rfl) (fun _ _ _ h => h) (by rfl) (fun wz _ => run_rem2 _ rfl k rfl (by omega) wz) hHeld ?_
          simp only [Act.put, List.setIfInBounds_toArray, List.set_cons_zero, List.set_cons_succ]
          refine takeL 4 (some 59) (.pointer (some ⟨w.heap.size + 1, 0 + k % 2, none⟩)) rfl rfl (by decide) (by kernel_rfl) (by kernel_rfl) (by kernel_rfl) (by kernel_rfl) (fun _ _ _ h => h) (by rfl) (fun wz _ => run_at_array 27 _ _ rfl (w.heap.size + 1) 0 (k % 2) 2 26 rfl rfl Tryd.underlying27 sz_bytes hp2 wz) hHeld ?_
          simp only [Act.put, List.setIfInBounds_toArray, List.set_cons_zero, List.set_cons_succ]
          refine takeL 5 (some 60) (.slice va (N (k % 2)) vc) rfl rfl (by decide) (by kernel_rfl) (by kernel_rfl) (by kernel_rfl) (by kernel_rfl) (fun _ _ _ h => h) (by rfl) (fun wz hz => run_load_row1 _ rfl ⟨w.heap.size + 1, 0 + k % 2, none⟩ rfl _ wz hz.2) hHeld ?_
          simp only [Act.put, List.setIfInBounds_toArray, List.set_cons_zero, List.set_cons_succ]
          refine takeL 6 (some 61) (.slice (some ⟨lb, lo, none⟩) len cap) rfl rfl (by decide) (by kernel_rfl) (by kernel_rfl) (by kernel_rfl) (by kernel_rfl) (fun _ _ _ h => h) (by rfl) (fun _ _ => rfl) hHeld ?_
          simp only [Act.put, List.setIfInBounds_toArray, List.set_cons_zero, List.set_cons_succ]
          refine takeL 7 (some 62) (.int .i64 (k : Nat)) rfl rfl (by decide) (by kernel_rfl) (by kernel_rfl) (by kernel_rfl) (by kernel_rfl) (fun _ _ _ h => h) (by rfl) (fun _ _ => rfl) hHeld ?_
          simp only [Act.put, List.setIfInBounds_toArray, List.set_cons_zero, List.set_cons_succ]
          refine takeL 8 (some 63) (.pointer (some ⟨lb, lo + k, none⟩)) rfl rfl (by decide) (by kernel_rfl) (by kernel_rfl) (by kernel_rfl) (by kernel_rfl) (fun _ _ _ h => h) (by rfl) (fun wz _ => run_at_slice 22 _ _ rfl lb lo k len cap 26 rfl rfl Tryd.underlying22 sz_bytes hk wz) hHeld ?_
          simp only [Act.put, List.setIfInBounds_toArray, List.set_cons_zero, List.set_cons_succ]
          refine takeL 9 (some 64) (.slice (A k) (L k) (C k)) rfl rfl (by decide) (by kernel_rfl) (by kernel_rfl) (by kernel_rfl) (by kernel_rfl) (fun _ _ _ h => h) (by rfl) (fun wz hz => run_load_row1 _ rfl ⟨lb, lo + k, none⟩ rfl _ wz hz.1) hHeld ?_
          simp only [Act.put, List.setIfInBounds_toArray, List.set_cons_zero, List.set_cons_succ]
          refine stepL 10 (some 65) (.slice na (N (k % 2) + L k) nc) w6 (by kernel_rfl) (by decide) rfl rfl (by rfl) (run_append_op _ _ 26 26 rfl (.slice va (N (k % 2)) vc) (.slice (A k) (L k) (C k)) rfl rfl _ hr6) ⟨cL _ hB6, cB6.1⟩ ?_
          simp only [Act.put, List.setIfInBounds_toArray, List.set_cons_zero, List.set_cons_succ]
          refine takeL 11 (some 66) (.pointer (some ⟨w.heap.size + 1, 0 + k % 2, none⟩)) rfl rfl (by decide) (by kernel_rfl) (by kernel_rfl) (by kernel_rfl) (by kernel_rfl) (fun _ _ _ h => h) (by rfl) (fun wz _ => run_at_array 27 _ _ rfl (w.heap.size + 1) 0 (k % 2) 2 26 rfl rfl Tryd.underlying27 sz_bytes hp2 wz) ⟨cL _ hB6, cB6.1⟩ ?_
          simp only [Act.put, List.setIfInBounds_toArray, List.set_cons_zero, List.set_cons_succ]
          refine lastSkip 12 none (w6.setCell ⟨w.heap.size + 1, 0 + k % 2, none⟩ (.slice na (N (k % 2) + L k) nc)) (by kernel_rfl) rfl rfl (by rfl) (run_store_row1 _ _ rfl _ rfl _ _ _ rfl _ cB6.1 cB6.2) (by kernel_rfl) ?_
          rw [Nat.zero_add (k % 2)]
          obtain ⟨w7, hw7⟩ : ∃ x, x = w6.setCell ⟨w.heap.size + 1, k % 2, none⟩ (.slice na (N (k % 2) + L k) nc) := ⟨_, rfl⟩
          rw [← hw7] at hI6 ⊢
          clear hw7 hHeld cB5 cB6 hA6 hlow hB6 hwh6 hwh6' hgr6 hgr6' hr6 hown6 hown5 hBw5 hI5d
          simp only [Act.put]
          go_wp2
          have hN' : ∀ p, fset N (k % 2) (N (k % 2) + L k) p ≤ 20000 := fun p => by
            by_cases e : p = k % 2
            · subst e; rw [fset_at]; omega
            · rw [fset_ne _ _ _ _ e]; exact hN p
          have hM' : ∀ p j, fset MM (k % 2) (cat (MM (k % 2)) (N (k % 2)) (M k)) p j < 256 := fun p j => by
            by_cases e : p = k % 2
            · subst e; rw [fset_at]; exact hcl j
            · rw [fset_ne _ _ _ _ e]; exact hMM p j
          by_cases ha : k < alen
          · obtain ⟨sb, so, rfl, hsb, hsc⟩ := hasks k ha
            have cA : ∀ wz, Below w.heap.size w wz → wz.cell? ⟨sb, so + k, none⟩ = some (.bool (asks k)) := fun wz h => (h.cell (show sb < w.heap.size from hsb)).trans hsc
            cases hask : asks k with
            | false =>
              rw [hask] at cA
              refine wp_region_held_drew (S := fun wz => wz.cell? ⟨sb, so + k, none⟩ = some (.bool false)) (by kernel_rfl) (cA _ hI6.2.2.2.2.2.2.2.drew) (fun hHeld => ?_)
              refine takeTo 0 (some 67) (.int .i64 (k : Nat)) rfl rfl (by kernel_rfl) (by kernel_rfl) (by kernel_rfl) (fun _ _ _ h => h) (by rfl) (fun _ _ => rfl) hHeld ?_
              simp only [Act.put, List.setIfInBounds_toArray, List.set_cons_zero, List.set_cons_succ]
              refine takeTo 1 (some 68) (.slice (some ⟨sb, so, none⟩) alen acap) rfl rfl (by kernel_rfl) (by kernel_rfl) (by kernel_rfl) (fun _ _ _ h => h) (by rfl) (fun _ _ => rfl) hHeld ?_
              simp only [Act.put, List.setIfInBounds_toArray, List.set_cons_zero, List.set_cons_succ]
              refine takeTo 2 (some 69) (.int .i64 (alen : Nat)) rfl rfl (by kernel_rfl) (by kernel_rfl) (by kernel_rfl) (fun _ _ _ h => h) (by rfl) (fun wz _ => run_len_of 23 4 Tryd.underlying23 _ rfl _ _ _ rfl wz) hHeld ?_
              simp only [Act.put, List.setIfInBounds_toArray, List.set_cons_zero, List.set_cons_succ]
              refine takeTo 3 (some 70) (.bool true) rfl rfl (by kernel_rfl) (by kernel_rfl) (by kernel_rfl) (fun _ _ _ h => h) (by rfl) (fun wz _ => run_less _ _ rfl k alen rfl rfl _ (by simp; omega) wz) hHeld ?_
              simp only [Act.put, List.setIfInBounds_toArray, List.set_cons_zero, List.set_cons_succ]
              refine takeTo 4 (some 71) (.bool true) rfl rfl (by kernel_rfl) (by kernel_rfl) (by kernel_rfl) (fun _ _ _ h => h) (by rfl) (fun _ _ => rfl) hHeld ?_
              simp only [Act.put, List.setIfInBounds_toArray, List.set_cons_zero, List.set_cons_succ]
              refine takeTo 5 (some 72) (.slice (some ⟨sb, so, none⟩) alen acap) rfl rfl (by kernel_rfl) (by kernel_rfl) (by kernel_rfl) (fun _ _ _ h => h) (by rfl) (fun _ _ => rfl) hHeld ?_
              simp only [Act.put, List.setIfInBounds_toArray, List.set_cons_zero, List.set_cons_succ]
              refine takeTo 6 (some 73) (.int .i64 (k : Nat)) rfl rfl (by kernel_rfl) (by kernel_rfl) (by kernel_rfl) (fun _ _ _ h => h) (by rfl) (fun _ _ => rfl) hHeld ?_
              simp only [Act.put, List.setIfInBounds_toArray, List.set_cons_zero, List.set_cons_succ]
              refine takeTo 7 (some 74) (.pointer (some ⟨sb, so + k, none⟩)) rfl rfl (by kernel_rfl) (by kernel_rfl) (by kernel_rfl) (fun _ _ _ h => h) (by rfl) (fun wz _ => run_at_slice 23 _ _ rfl sb so k alen acap 4 rfl rfl Tryd.underlying23 sz_bool ha wz) hHeld ?_
              simp only [Act.put, List.setIfInBounds_toArray, List.set_cons_zero, List.set_cons_succ]
              refine takeTo 8 (some 75) (.bool false) rfl rfl (by kernel_rfl) (by kernel_rfl) (by kernel_rfl) (fun _ _ _ h => h) (by rfl) (fun wz hz => run_load_ask _ rfl ⟨sb, so + k, none⟩ rfl _ wz hz) hHeld ?_
              simp only [Act.put, List.setIfInBounds_toArray, List.set_cons_zero, List.set_cons_succ]
              refine takeTo 9 (some 76) (.bool false) rfl rfl (by kernel_rfl) (by kernel_rfl) (by kernel_rfl) (fun _ _ _ h => h) (by rfl) (fun _ _ => rfl) hHeld ?_
              simp only [Act.put, List.setIfInBounds_toArray, List.set_cons_zero, List.set_cons_succ]
              refine takeTo 10 (some 77) (.bool false) rfl rfl (by kernel_rfl) (by kernel_rfl) (by kernel_rfl) (fun _ _ _ h => h) (by rfl) (fun _ _ => rfl) hHeld ?_
              simp only [Act.put, List.setIfInBounds_toArray, List.set_cons_zero, List.set_cons_succ]
              refine skipTo 11 (some 78) rfl rfl (by kernel_rfl) (by kernel_rfl) (by kernel_rfl) (fun _ _ _ h => h) (by rfl) hHeld ?_
              simp only [Act.put, List.setIfInBounds_toArray, List.set_cons_zero, List.set_cons_succ]
              refine skipTo 12 (some 79) rfl rfl (by kernel_rfl) (by kernel_rfl) (by kernel_rfl) (fun _ _ _ h => h) (by rfl) hHeld ?_
              simp only [Act.put, List.setIfInBounds_toArray, List.set_cons_zero, List.set_cons_succ]
              refine skipTo 13 (some 80) rfl rfl (by kernel_rfl) (by kernel_rfl) (by kernel_rfl) (fun _ _ _ h => h) (by rfl) hHeld ?_
              simp only [Act.put, List.setIfInBounds_toArray, List.set_cons_zero, List.set_cons_succ]
              refine skipTo 14 (some 81) rfl rfl (by kernel_rfl) (by kernel_rfl) (by kernel_rfl) (fun _ _ _ h => h) (by rfl) hHeld ?_
              simp only [Act.put, List.setIfInBounds_toArray, List.set_cons_zero, List.set_cons_succ]
              refine skipTo 15 (some 82) rfl rfl (by kernel_rfl) (by kernel_rfl) (by kernel_rfl) (fun _ _ _ h => h) (by rfl) hHeld ?_
              simp only [Act.put, List.setIfInBounds_toArray, List.set_cons_zero, List.set_cons_succ]
              refine skipTo 16 (some 83) rfl rfl (by kernel_rfl) (by kernel_rfl) (by kernel_rfl) (fun _ _ _ h => h) (by rfl) hHeld ?_
              simp only [Act.put, List.setIfInBounds_toArray, List.set_cons_zero, List.set_cons_succ]
              refine skipTo 17 (some 84) rfl rfl (by kernel_rfl) (by kernel_rfl) (by kernel_rfl) (fun _ _ _ h => h) (by rfl) hHeld ?_
              simp only [Act.put, List.setIfInBounds_toArray, List.set_cons_zero, List.set_cons_succ]
              refine skipTo 18 (some 85) rfl rfl (by kernel_rfl) (by kernel_rfl) (by kernel_rfl) (fun _ _ _ h => h) (by rfl) hHeld ?_
              simp only [Act.put, List.setIfInBounds_toArray, List.set_cons_zero, List.set_cons_succ]
              refine skipTo 19 (some 86) rfl rfl (by kernel_rfl) (by kernel_rfl) (by kernel_rfl) (fun _ _ _ h => h) (by rfl) hHeld ?_
              simp only [Act.put, List.setIfInBounds_toArray, List.set_cons_zero, List.set_cons_succ]
              refine skipTo 20 (some 87) rfl rfl (by kernel_rfl) (by kernel_rfl) (by kernel_rfl) (fun _ _ _ h => h) (by rfl) hHeld ?_
              simp only [Act.put, List.setIfInBounds_toArray, List.set_cons_zero, List.set_cons_succ]
              refine skipTo 21 (some 88) rfl rfl (by kernel_rfl) (by kernel_rfl) (by kernel_rfl) (fun _ _ _ h => h) (by rfl) hHeld ?_
              simp only [Act.put, List.setIfInBounds_toArray, List.set_cons_zero, List.set_cons_succ]
              refine takeTo 22 (some 89) (.bool false) rfl rfl (by kernel_rfl) (by kernel_rfl) (by kernel_rfl) (fun _ _ _ h => h) (by rfl) (fun _ _ => rfl) hHeld ?_
              simp only [Act.put, List.setIfInBounds_toArray, List.set_cons_zero, List.set_cons_succ]
              refine wpAnyH_done (by kernel_rfl) ?_ _
              go_wp2
              go_roundw
              case rel => exact ⟨k + 1, _, _, _, by omega, by omega, by go_num, hN', hM', hI6.drew⟩
              case measure => simp [intOf]; omega
            | true =>
              rw [hask] at cA
              have hS7 : ∀ wz, AInv w wz (fset V (k % 2) (.slice na (N (k % 2) + L k) nc)) (fset MM (k % 2) (cat (MM (k % 2)) (N (k % 2)) (M k))) (fset N (k % 2) (N (k % 2) + L k)) (fset N (k % 2) (N (k % 2) + L k)) → wz.cell? ⟨sb, so + k, none⟩ = some (.bool true) ∧ wz.cell? ⟨w.heap.size, 0 + k % 2, none⟩ = some (.pointer (some ⟨w.heap.size + 2 + k % 2, 0, none⟩)) ∧ wz.cell? ⟨w.heap.size + 1, 0 + k % 2, none⟩ = some (.slice na (N (k % 2) + L k) nc) := fun wz h => by
                refine ⟨cA _ h.2.2.2.2.2.2.2, (two_at (V := fun p => .pointer (some ⟨w.heap.size + 2 + p, 0, none⟩)) h.1 (k % 2) hp2).1, ?_⟩
                have := (two_at h.2.1 (k % 2) hp2).1
                rw [fset_at] at this
                exact this
              obtain ⟨X, hX1, hX2, heq, hHS, hST⟩ := both_sums (cat (MM (k % 2)) (N (k % 2)) (M k)) (N (k % 2) + L k) (w.heap.size + 2 + k % 2) (by omega) hcl (by omega)
              have hId7 := hI6.drew
              refine wp_region_held_drew (S := fun wz => wz.cell? ⟨sb, so + k, none⟩ = some (.bool true) ∧ wz.cell? ⟨w.heap.size, 0 + k % 2, none⟩ = some (.pointer (some ⟨w.heap.size + 2 + k % 2, 0, none⟩)) ∧ wz.cell? ⟨w.heap.size + 1, 0 + k % 2, none⟩ = some (.slice na (N (k % 2) + L k) nc)) (by kernel_rfl) (hS7 _ hId7) (fun hHeld => ?_)
              refine takeTo 0 (some 67) (.int .i64 (k : Nat)) rfl rfl (by kernel_rfl) (by kernel_rfl) (by kernel_rfl) (fun _ _ _ h => h) (by rfl) (fun _ _ => rfl) hHeld ?_
              simp only [Act.put, List.setIfInBounds_toArray, List.set_cons_zero, List.set_cons_succ]
              refine takeTo 1 (some 68) (.slice (some ⟨sb, so, none⟩) alen acap) rfl rfl (by kernel_rfl) (by kernel_rfl) (by kernel_rfl) (fun _ _ _ h => h) (by rfl) (fun _ _ => rfl) hHeld ?_
              simp only [Act.put, List.setIfInBounds_toArray, List.set_cons_zero, List.set_cons_succ]
              refine takeTo 2 (some 69) (.int .i64 (alen : Nat)) rfl rfl (by kernel_rfl) (by kernel_rfl) (by kernel_rfl) (fun _ _ _ h => h) (by rfl) (fun wz _ => run_len_of 23 4 Tryd.underlying23 _ rfl _ _ _ rfl wz) hHeld ?_
              simp only [Act.put, List.setIfInBounds_toArray, List.set_cons_zero, List.set_cons_succ]
              refine takeTo 3 (some 70) (.bool true) rfl rfl (by kernel_rfl) (by kernel_rfl) (by kernel_rfl) (fun _ _ _ h => h) (by rfl) (fun wz _ => run_less _ _ rfl k alen rfl rfl _ (by simp; omega) wz) hHeld ?_
              simp only [Act.put, List.setIfInBounds_toArray, List.set_cons_zero, List.set_cons_succ]
              refine takeTo 4 (some 71) (.bool true) rfl rfl (by kernel_rfl) (by kernel_rfl) (by kernel_rfl) (fun _ _ _ h => h) (by rfl) (fun _ _ => rfl) hHeld ?_
              simp only [Act.put, List.setIfInBounds_toArray, List.set_cons_zero, List.set_cons_succ]
              refine takeTo 5 (some 72) (.slice (some ⟨sb, so, none⟩) alen acap) rfl rfl (by kernel_rfl) (by kernel_rfl) (by kernel_rfl) (fun _ _ _ h => h) (by rfl) (fun _ _ => rfl) hHeld ?_
              simp only [Act.put, List.setIfInBounds_toArray, List.set_cons_zero, List.set_cons_succ]
              refine takeTo 6 (some 73) (.int .i64 (k : Nat)) rfl rfl (by kernel_rfl) (by kernel_rfl) (by kernel_rfl) (fun _ _ _ h => h) (by rfl) (fun _ _ => rfl) hHeld ?_
              simp only [Act.put, List.setIfInBounds_toArray, List.set_cons_zero, List.set_cons_succ]
              refine takeTo 7 (some 74) (.pointer (some ⟨sb, so + k, none⟩)) rfl rfl (by kernel_rfl) (by kernel_rfl) (by kernel_rfl) (fun _ _ _ h => h) (by rfl) (fun wz _ => run_at_slice 23 _ _ rfl sb so k alen acap 4 rfl rfl Tryd.underlying23 sz_bool ha wz) hHeld ?_
              simp only [Act.put, List.setIfInBounds_toArray, List.set_cons_zero, List.set_cons_succ]
              refine takeTo 8 (some 75) (.bool true) rfl rfl (by kernel_rfl) (by kernel_rfl) (by kernel_rfl) (fun _ _ _ h => h) (by rfl) (fun wz hz => run_load_ask _ rfl ⟨sb, so + k, none⟩ rfl _ wz hz.1) hHeld ?_
              simp only [Act.put, List.setIfInBounds_toArray, List.set_cons_zero, List.set_cons_succ]
              refine takeTo 9 (some 76) (.bool true) rfl rfl (by kernel_rfl) (by kernel_rfl) (by kernel_rfl) (fun _ _ _ h => h) (by rfl) (fun _ _ => rfl) hHeld ?_
              simp only [Act.put, List.setIfInBounds_toArray, List.set_cons_zero, List.set_cons_succ]
              refine takeTo 10 (some 77) (.bool true) rfl rfl (by kernel_rfl) (by kernel_rfl) (by kernel_rfl) (fun _ _ _ h => h) (by rfl) (fun _ _ => rfl) hHeld ?_
              simp only [Act.put, List.setIfInBounds_toArray, List.set_cons_zero, List.set_cons_succ]
              refine takeTo 11 (some 78) (.int .i64 (k : Nat)) rfl rfl (by kernel_rfl) (by kernel_rfl) (by kernel_rfl) (fun _ _ _ h => h) (by rfl) (fun _ _ => rfl) hHeld ?_
              simp only [Act.put, List.setIfInBounds_toArray, List.set_cons_zero, List.set_cons_succ]
              refine takeTo 12 (some 79) (.int .i64 ((k % 2 : Nat) : Int)) rfl rfl (by kernel_rfl) (by kernel_rfl) (by kernel_rfl) (fun _ _ _ h => h) (by rfl) (fun wz _ => run_rem2 _ rfl k rfl (by omega) wz) hHeld ?_
              simp only [Act.put, List.setIfInBounds_toArray, List.set_cons_zero, List.set_cons_succ]
              refine takeTo 13 (some 80) (.pointer (some ⟨w.heap.size, 0 + k % 2, none⟩)) rfl rfl (by kernel_rfl) (by kernel_rfl) (by kernel_rfl) (fun _ _ _ h => h) (by rfl) (fun wz _ => run_at_array 25 _ _ rfl w.heap.size 0 (k % 2) 2 24 rfl rfl Tryd.underlying25 sz_phash hp2 wz) hHeld ?_
              simp only [Act.put, List.setIfInBounds_toArray, List.set_cons_zero, List.set_cons_succ]
              refine takeTo 14 (some 81) (.pointer (some ⟨w.heap.size + 2 + k % 2, 0, none⟩)) rfl rfl (by kernel_rfl) (by kernel_rfl) (by kernel_rfl) (fun _ _ _ h => h) (by rfl) (fun wz hz => run_load_hash _ rfl ⟨w.heap.size, 0 + k % 2, none⟩ rfl _ wz hz.2.1) hHeld ?_
              simp only [Act.put, List.setIfInBounds_toArray, List.set_cons_zero, List.set_cons_succ]
              refine takeTo 16 (some 83) (.int .i64 (k : Nat)) rfl rfl (by kernel_rfl) (by kernel_rfl) (by kernel_rfl) (fun _ _ _ h => h) (by rfl) (fun _ _ => rfl) hHeld ?_
              simp only [Act.put, List.setIfInBounds_toArray, List.set_cons_zero, List.set_cons_succ]
              refine takeTo 17 (some 84) (.int .i64 ((k % 2 : Nat) : Int)) rfl rfl (by kernel_rfl) (by kernel_rfl) (by kernel_rfl) (fun _ _ _ h => h) (by rfl) (fun wz _ => run_rem2 _ rfl k rfl (by omega) wz) hHeld ?_
              simp only [Act.put, List.setIfInBounds_toArray, List.set_cons_zero, List.set_cons_succ]
              refine takeTo 18 (some 85) (.pointer (some ⟨w.heap.size + 1, 0 + k % 2, none⟩)) rfl rfl (by kernel_rfl) (by kernel_rfl) (by kernel_rfl) (fun _ _ _ h => h) (by rfl) (fun wz _ => run_at_array 27 _ _ rfl (w.heap.size + 1) 0 (k % 2) 2 26 rfl rfl Tryd.underlying27 sz_bytes hp2 wz) hHeld ?_
              simp only [Act.put, List.setIfInBounds_toArray, List.set_cons_zero, List.set_cons_succ]
              refine takeTo 19 (some 86) (.slice na (N (k % 2) + L k) nc) rfl rfl (by kernel_rfl) (by kernel_rfl) (by kernel_rfl) (fun _ _ _ h => h) (by rfl) (fun wz hz => run_load_row1 _ rfl ⟨w.heap.size + 1, 0 + k % 2, none⟩ rfl _ wz hz.2.2) hHeld ?_
              simp only [Act.put, List.setIfInBounds_toArray, List.set_cons_zero, List.set_cons_succ]
              refine callTo 15 (some 82) 7 #[.pointer (some ⟨w.heap.size + 2 + k % 2, 0, none⟩)] (by kernel_rfl) rfl rfl (by rfl) (by kernel_rfl) (hHS _ hId7.2.2.2.2.2.1 (by have := hId7.2.2.1 (k % 2) hp2; rw [fset_at, fset_at] at this; exact this)) ?_
              rintro e w8 ⟨rfl, hb8⟩
              have hI8 := hId7.below hb8
              refine ⟨_, rfl, hS7 _ hI8, ?_⟩
              simp only [Act.put, List.setIfInBounds_toArray, List.set_cons_zero, List.set_cons_succ]
              have hrow8 := hI8.2.2.2.1 (k % 2) hp2
              rw [fset_at, fset_at, fset_at] at hrow8
              obtain ⟨na', nc', hv8, hvc8, _, hby8, _⟩ := own_bytes hrow8
              simp only [Value.slice.injEq] at hv8
              obtain ⟨rfl, _, rfl⟩ := hv8
              refine callTo 20 (some 87) 8 #[.slice na (N (k % 2) + L k) nc] (by kernel_rfl) rfl rfl (by rfl) (by kernel_rfl) (hST _ na nc hI8.2.2.2.2.2.1 hvc8 hby8) ?_
              rintro e w9 ⟨rfl, hb9⟩
              have hI9 := hI8.below hb9
              refine ⟨_, rfl, hS7 _ hI9, ?_⟩
              simp only [Act.put, List.setIfInBounds_toArray, List.set_cons_zero, List.set_cons_succ]
              have hHeld := hS7 _ hI9
              refine takeTo 21 (some 88) (.bool false) rfl rfl (by kernel_rfl) (by kernel_rfl) (by kernel_rfl) (fun _ _ _ h => h) (by rfl) (fun wz _ => run_neq_same _ _ rfl X rfl rfl heq wz) hHeld ?_
              simp only [Act.put, List.setIfInBounds_toArray, List.set_cons_zero, List.set_cons_succ]
              refine takeTo 22 (some 89) (.bool false) rfl rfl (by kernel_rfl) (by kernel_rfl) (by kernel_rfl) (fun _ _ _ h => h) (by rfl) (fun _ _ => rfl) hHeld ?_
              simp only [Act.put, List.setIfInBounds_toArray, List.set_cons_zero, List.set_cons_succ]
              refine wpAnyH_done (by kernel_rfl) ?_ _
              go_wp2
              go_roundw
              case rel => exact ⟨k + 1, _, _, _, by omega, by omega, by go_num, hN', hM', hI9⟩
              case measure => simp [intOf]; omega
          · have ha' : alen ≤ k := by omega
            clear ha
            refine wp_region_held_drew (S := fun _ => True) (by kernel_rfl) trivial (fun hHeld => ?_)
            refine takeTo 0 (some 67) (.int .i64 (k : Nat)) rfl rfl (by kernel_rfl) (by kernel_rfl) (by kernel_rfl) (fun _ _ _ h => h) (by rfl) (fun _ _ => rfl) hHeld ?_
            simp only [Act.put, List.setIfInBounds_toArray, List.set_cons_zero, List.set_cons_succ]
            refine takeTo 1 (some 68) (.slice aa alen acap) rfl rfl (by kernel_rfl) (by kernel_rfl) (by kernel_rfl) (fun _ _ _ h => h) (by rfl) (fun _ _ => rfl) hHeld ?_
            simp only [Act.put, List.setIfInBounds_toArray, List.set_cons_zero, List.set_cons_succ]
            refine takeTo 2 (some 69) (.int .i64 (alen : Nat)) rfl rfl (by kernel_rfl) (by kernel_rfl) (by kernel_rfl) (fun _ _ _ h => h) (by rfl) (fun wz _ => run_len_of 23 4 Tryd.underlying23 _ rfl _ _ _ rfl wz) hHeld ?_
            simp only [Act.put, List.setIfInBounds_toArray, List.set_cons_zero, List.set_cons_succ]
            refine takeTo 3 (some 70) (.bool false) rfl rfl (by kernel_rfl) (by kernel_rfl) (by kernel_rfl) (fun _ _ _ h => h) (by rfl) (fun wz _ => run_less _ _ rfl k alen rfl rfl _ (by simp; omega) wz) hHeld ?_
            simp only [Act.put, List.setIfInBounds_toArray, List.set_cons_zero, List.set_cons_succ]
            refine takeTo 4 (some 71) (.bool false) rfl rfl (by kernel_rfl) (by kernel_rfl) (by kernel_rfl) (fun _ _ _ h => h) (by rfl) (fun _ _ => rfl) hHeld ?_
            simp only [Act.put, List.setIfInBounds_toArray, List.set_cons_zero, List.set_cons_succ]
            refine skipTo 5 (some 72) rfl rfl (by kernel_rfl) (by kernel_rfl) (by kernel_rfl) (fun _ _ _ h => h) (by rfl) hHeld ?_
            simp only [Act.put, List.setIfInBounds_toArray, List.set_cons_zero, List.set_cons_succ]
            refine skipTo 6 (some 73) rfl rfl (by kernel_rfl) (by kernel_rfl) (by kernel_rfl) (fun _ _ _ h => h) (by rfl) hHeld ?_
            simp only [Act.put, List.setIfInBounds_toArray, List.set_cons_zero, List.set_cons_succ]
            refine skipTo 7 (some 74) rfl rfl (by kernel_rfl) (by kernel_rfl) (by kernel_rfl) (fun _ _ _ h => h) (by rfl) hHeld ?_
            simp only [Act.put, List.setIfInBounds_toArray, List.set_cons_zero, List.set_cons_succ]
            refine skipTo 8 (some 75) rfl rfl (by kernel_rfl) (by kernel_rfl) (by kernel_rfl) (fun _ _ _ h => h) (by rfl) hHeld ?_
            simp only [Act.put, List.setIfInBounds_toArray, List.set_cons_zero, List.set_cons_succ]
            refine takeTo 9 (some 76) (.bool false) rfl rfl (by kernel_rfl) (by kernel_rfl) (by kernel_rfl) (fun _ _ _ h => h) (by rfl) (fun _ _ => rfl) hHeld ?_
            simp only [Act.put, List.setIfInBounds_toArray, List.set_cons_zero, List.set_cons_succ]
            refine takeTo 10 (some 77) (.bool false) rfl rfl (by kernel_rfl) (by kernel_rfl) (by kernel_rfl) (fun _ _ _ h => h) (by rfl) (fun _ _ => rfl) hHeld ?_
            simp only [Act.put, List.setIfInBounds_toArray, List.set_cons_zero, List.set_cons_succ]
            refine skipTo 11 (some 78) rfl rfl (by kernel_rfl) (by kernel_rfl) (by kernel_rfl) (fun _ _ _ h => h) (by rfl) hHeld ?_
            simp only [Act.put, List.setIfInBounds_toArray, List.set_cons_zero, List.set_cons_succ]
            refine skipTo 12 (some 79) rfl rfl (by kernel_rfl) (by kernel_rfl) (by kernel_rfl) (fun _ _ _ h => h) (by rfl) hHeld ?_
            simp only [Act.put, List.setIfInBounds_toArray, List.set_cons_zero, List.set_cons_succ]
            refine skipTo 13 (some 80) rfl rfl (by kernel_rfl) (by kernel_rfl) (by kernel_rfl) (fun _ _ _ h => h) (by rfl) hHeld ?_
            simp only [Act.put, List.setIfInBounds_toArray, List.set_cons_zero, List.set_cons_succ]
            refine skipTo 14 (some 81) rfl rfl (by kernel_rfl) (by kernel_rfl) (by kernel_rfl) (fun _ _ _ h => h) (by rfl) hHeld ?_
            simp only [Act.put, List.setIfInBounds_toArray, List.set_cons_zero, List.set_cons_succ]
            refine skipTo 15 (some 82) rfl rfl (by kernel_rfl) (by kernel_rfl) (by kernel_rfl) (fun _ _ _ h => h) (by rfl) hHeld ?_
            simp only [Act.put, List.setIfInBounds_toArray, List.set_cons_zero, List.set_cons_succ]
            refine skipTo 16 (some 83) rfl rfl (by kernel_rfl) (by kernel_rfl) (by kernel_rfl) (fun _ _ _ h => h) (by rfl) hHeld ?_
            simp only [Act.put, List.setIfInBounds_toArray, List.set_cons_zero, List.set_cons_succ]
            refine skipTo 17 (some 84) rfl rfl (by kernel_rfl) (by kernel_rfl) (by kernel_rfl) (fun _ _ _ h => h) (by rfl) hHeld ?_
            simp only [Act.put, List.setIfInBounds_toArray, List.set_cons_zero, List.set_cons_succ]
            refine skipTo 18 (some 85) rfl rfl (by kernel_rfl) (by kernel_rfl) (by kernel_rfl) (fun _ _ _ h => h) (by rfl) hHeld ?_
            simp only [Act.put, List.setIfInBounds_toArray, List.set_cons_zero, List.set_cons_succ]
            refine skipTo 19 (some 86) rfl rfl (by kernel_rfl) (by kernel_rfl) (by kernel_rfl) (fun _ _ _ h => h) (by rfl) hHeld ?_
            simp only [Act.put, List.setIfInBounds_toArray, List.set_cons_zero, List.set_cons_succ]
            refine skipTo 20 (some 87) rfl rfl (by kernel_rfl) (by kernel_rfl) (by kernel_rfl) (fun _ _ _ h => h) (by rfl) hHeld ?_
            simp only [Act.put, List.setIfInBounds_toArray, List.set_cons_zero, List.set_cons_succ]
            refine skipTo 21 (some 88) rfl rfl (by kernel_rfl) (by kernel_rfl) (by kernel_rfl) (fun _ _ _ h => h) (by rfl) hHeld ?_
            simp only [Act.put, List.setIfInBounds_toArray, List.set_cons_zero, List.set_cons_succ]
            refine takeTo 22 (some 89) (.bool false) rfl rfl (by kernel_rfl) (by kernel_rfl) (by kernel_rfl) (fun _ _ _ h => h) (by rfl) (fun _ _ => rfl) hHeld ?_
            simp only [Act.put, List.setIfInBounds_toArray, List.set_cons_zero, List.set_cons_succ]
            refine wpAnyH_done (by kernel_rfl) ?_ _
            go_wp2
            go_roundw
            case rel => exact ⟨k + 1, _, _, _, by omega, by omega, by go_num, hN', hM', hI6.drew⟩
            case measure => simp [intOf]; omega
      · obtain rfl : k = 40 := by omega
        have i1 : (40 : Int) < (len : Int) := by omega
        go_wp2
        have hIe := hI.drew
        obtain ⟨v0, c0, hV0, _, _, _, _⟩ := own_bytes (hI.2.2.2.1 0 (by decide))
        obtain ⟨X0, hX01, hX02, heq0, hS0, hT0⟩ := both_sums (MM 0) (N 0) (w.heap.size + 2 + 0) (by omega) (hMM 0) (by have := hN 0; omega)
        obtain ⟨v1, c1, hV1, _, _, _, _⟩ := own_bytes (hI.2.2.2.1 1 (by decide))
        obtain ⟨X1, hX11, hX12, heq1, hS1, hT1⟩ := both_sums (MM 1) (N 1) (w.heap.size + 2 + 1) (by omega) (hMM 1) (by have := hN 1; omega)
        refine wp_region_held_drew (S := fun wz => AInv w wz V MM N N) (by kernel_rfl) hIe (fun hHeld => ?_)
        refine takeTo 0 (some 90) (.pointer (some ⟨w.heap.size, 0 + 0, none⟩)) rfl rfl (by kernel_rfl) (by kernel_rfl) (by kernel_rfl) (fun _ _ _ h => h) (by rfl) (fun wz _ => run_at_array 25 _ _ rfl w.heap.size 0 0 2 24 rfl rfl Tryd.underlying25 sz_phash (by decide) wz) hHeld ?_
        simp only [Act.put, List.setIfInBounds_toArray, List.set_cons_zero, List.set_cons_succ]
        refine takeTo 1 (some 91) (.pointer (some ⟨w.heap.size + 2 + 0, 0, none⟩)) rfl rfl (by kernel_rfl) (by kernel_rfl) (by kernel_rfl) (fun _ _ _ h => h) (by rfl) (fun wz hz => run_load_hash _ rfl ⟨w.heap.size, 0 + 0, none⟩ rfl _ wz (two_at (V := fun p => .pointer (some ⟨w.heap.size + 2 + p, 0, none⟩)) hz.1 0 (by decide)).1) hHeld ?_
        simp only [Act.put, List.setIfInBounds_toArray, List.set_cons_zero, List.set_cons_succ]
        refine takeTo 3 (some 93) (.pointer (some ⟨w.heap.size + 1, 0 + 0, none⟩)) rfl rfl (by kernel_rfl) (by kernel_rfl) (by kernel_rfl) (fun _ _ _ h => h) (by rfl) (fun wz _ => run_at_array 27 _ _ rfl (w.heap.size + 1) 0 0 2 26 rfl rfl Tryd.underlying27 sz_bytes (by decide) wz) hHeld ?_
        simp only [Act.put, List.setIfInBounds_toArray, List.set_cons_zero, List.set_cons_succ]
        refine takeTo 4 (some 94) (.slice v0 (N 0) c0) rfl rfl (by kernel_rfl) (by kernel_rfl) (by kernel_rfl) (fun _ _ _ h => h) (by rfl) (fun wz hz => run_load_row1 _ rfl ⟨w.heap.size + 1, 0 + 0, none⟩ rfl _ wz (by rw [← hV0]; exact (two_at hz.2.1 0 (by decide)).1)) hHeld ?_
        simp only [Act.put, List.setIfInBounds_toArray, List.set_cons_zero, List.set_cons_succ]
        refine callTo 2 (some 92) 7 #[.pointer (some ⟨w.heap.size + 2 + 0, 0, none⟩)] (by kernel_rfl) rfl rfl (by rfl) (by kernel_rfl) (hS0 _ hIe.2.2.2.2.2.1 (hIe.2.2.1 0 (by decide))) ?_
        rintro e x1 ⟨rfl, hbx1⟩
        have hx1 := hIe.below hbx1
        refine ⟨_, rfl, hx1, ?_⟩
        simp only [Act.put, List.setIfInBounds_toArray, List.set_cons_zero, List.set_cons_succ]
        have hrx1 := hx1.2.2.2.1 0 (by decide)
        rw [hV0] at hrx1
        obtain ⟨na0, nc0, hve0, hvc0, _, hby0, _⟩ := own_bytes hrx1
        simp only [Value.slice.injEq] at hve0
        obtain ⟨rfl, _, rfl⟩ := hve0
        refine callTo 5 (some 95) 8 #[.slice v0 (N 0) c0] (by kernel_rfl) rfl rfl (by rfl) (by kernel_rfl) (hT0 _ v0 c0 hx1.2.2.2.2.2.1 hvc0 hby0) ?_
        rintro e x2 ⟨rfl, hbx2⟩
        have hx2 := hx1.below hbx2
        refine ⟨_, rfl, hx2, ?_⟩
        simp only [Act.put, List.setIfInBounds_toArray, List.set_cons_zero, List.set_cons_succ]
        have hHeld := hx2
        refine takeTo 6 (some 96) (.bool true) rfl rfl (by kernel_rfl) (by kernel_rfl) (by kernel_rfl) (fun _ _ _ h => h) (by rfl) (fun wz _ => run_eql_same _ _ rfl X0 rfl rfl heq0 wz) hHeld ?_
        simp only [Act.put, List.setIfInBounds_toArray, List.set_cons_zero, List.set_cons_succ]
        refine takeTo 7 (some 97) (.bool true) rfl rfl (by kernel_rfl) (by kernel_rfl) (by kernel_rfl) (fun _ _ _ h => h) (by rfl) (fun _ _ => rfl) hHeld ?_
        simp only [Act.put, List.setIfInBounds_toArray, List.set_cons_zero, List.set_cons_succ]
        refine takeTo 8 (some 98) (.pointer (some ⟨w.heap.size, 0 + 1, none⟩)) rfl rfl (by kernel_rfl) (by kernel_rfl) (by kernel_rfl) (fun _ _ _ h => h) (by rfl) (fun wz _ => run_at_array 25 _ _ rfl w.heap.size 0 1 2 24 rfl rfl Tryd.underlying25 sz_phash (by decide) wz) hHeld ?_
        simp only [Act.put, List.setIfInBounds_toArray, List.set_cons_zero, List.set_cons_succ]
        refine takeTo 9 (some 99) (.pointer (some ⟨w.heap.size + 2 + 1, 0, none⟩)) rfl rfl (by kernel_rfl) (by kernel_rfl) (by kernel_rfl) (fun _ _ _ h => h) (by rfl) (fun wz hz => run_load_hash _ rfl ⟨w.heap.size, 0 + 1, none⟩ rfl _ wz (two_at (V := fun p => .pointer (some ⟨w.heap.size + 2 + p, 0, none⟩)) hz.1 1 (by decide)).1) hHeld ?_
        simp only [Act.put, List.setIfInBounds_toArray, List.set_cons_zero, List.set_cons_succ]
        refine takeTo 11 (some 101) (.pointer (some ⟨w.heap.size + 1, 0 + 1, none⟩)) rfl rfl (by kernel_rfl) (by kernel_rfl) (by kernel_rfl) (fun _ _ _ h => h) (by rfl) (fun wz _ => run_at_array 27 _ _ rfl (w.heap.size + 1) 0 1 2 26 rfl rfl Tryd.underlying27 sz_bytes (by decide) wz) hHeld ?_
        simp only [Act.put, List.setIfInBounds_toArray, List.set_cons_zero, List.set_cons_succ]
        refine takeTo 12 (some 102) (.slice v1 (N 1) c1) rfl rfl (by kernel_rfl) (by kernel_rfl) (by kernel_rfl) (fun _ _ _ h => h) (by rfl) (fun wz hz => run_load_row1 _ rfl ⟨w.heap.size + 1, 0 + 1, none⟩ rfl _ wz (by rw [← hV1]; exact (two_at hz.2.1 1 (by decide)).1)) hHeld ?_
        simp only [Act.put, List.setIfInBounds_toArray, List.set_cons_zero, List.set_cons_succ]
        refine callTo 10 (some 100) 7 #[.pointer (some ⟨w.heap.size + 2 + 1, 0, none⟩)] (by kernel_rfl) rfl rfl (by rfl) (by kernel_rfl) (hS1 _ hx2.2.2.2.2.2.1 (hx2.2.2.1 1 (by decide))) ?_
        rintro e x3 ⟨rfl, hbx3⟩
        have hx3 := hx2.below hbx3
        refine ⟨_, rfl, hx3, ?_⟩
        simp only [Act.put, List.setIfInBounds_toArray, List.set_cons_zero, List.set_cons_succ]
        have hrx3 := hx3.2.2.2.1 1 (by decide)
        rw [hV1] at hrx3
        obtain ⟨na1, nc1, hve1, hvc1, _, hby1, _⟩ := own_bytes hrx3
        simp only [Value.slice.injEq] at hve1
        obtain ⟨rfl, _, rfl⟩ := hve1
        refine callTo 13 (some 103) 8 #[.slice v1 (N 1) c1] (by kernel_rfl) rfl rfl (by rfl) (by kernel_rfl) (hT1 _ v1 c1 hx3.2.2.2.2.2.1 hvc1 hby1) ?_
        rintro e x4 ⟨rfl, hbx4⟩
        have hx4 := hx3.below hbx4
        refine ⟨_, rfl, hx4, ?_⟩
        simp only [Act.put, List.setIfInBounds_toArray, List.set_cons_zero, List.set_cons_succ]
        have hHeld := hx4
        refine takeTo 14 (some 104) (.bool true) rfl rfl (by kernel_rfl) (by kernel_rfl) (by kernel_rfl) (fun _ _ _ h => h) (by rfl) (fun wz _ => run_eql_same _ _ rfl X1 rfl rfl heq1 wz) hHeld ?_
        simp only [Act.put, List.setIfInBounds_toArray, List.set_cons_zero, List.set_cons_succ]
        refine takeTo 15 (some 105) (.bool true) rfl rfl (by kernel_rfl) (by kernel_rfl) (by kernel_rfl) (fun _ _ _ h => h) (by rfl) (fun _ _ => rfl) hHeld ?_
        simp only [Act.put, List.setIfInBounds_toArray, List.set_cons_zero, List.set_cons_succ]
        refine takeTo 16 (some 4) (.bool true) rfl rfl (by kernel_rfl) (by kernel_rfl) (by kernel_rfl) (fun _ _ _ h => h) (by rfl) (fun _ _ => rfl) hHeld ?_
        simp only [Act.put, List.setIfInBounds_toArray, List.set_cons_zero, List.set_cons_succ]
        refine wpAnyH_done (by kernel_rfl) ?_ _
        go_wp2
        go_ret
        exact ⟨rfl, hx4.2.2.2.2.2.2.2⟩
    · have i1 : ¬ (k : Int) < (len : Int) := by omega
      go_wp2
      have hIe := hI.drew
      obtain ⟨v0, c0, hV0, _, _, _, _⟩ := own_bytes (hI.2.2.2.1 0 (by decide))
      obtain ⟨X0, hX01, hX02, heq0, hS0, hT0⟩ := both_sums (MM 0) (N 0) (w.heap.size + 2 + 0) (by omega) (hMM 0) (by have := hN 0; omega)
      obtain ⟨v1, c1, hV1, _, _, _, _⟩ := own_bytes (hI.2.2.2.1 1 (by decide))
      obtain ⟨X1, hX11, hX12, heq1, hS1, hT1⟩ := both_sums (MM 1) (N 1) (w.heap.size + 2 + 1) (by omega) (hMM 1) (by have := hN 1; omega)
      refine wp_region_held_drew (S := fun wz => AInv w wz V MM N N) (by kernel_rfl) hIe (fun hHeld => ?_)
      refine takeTo 0 (some 90) (.pointer (some ⟨w.heap.size, 0 + 0, none⟩)) rfl rfl (by kernel_rfl) (by kernel_rfl) (by kernel_rfl) (fun _ _ _ h => h) (by rfl) (fun wz _ => run_at_array 25 _ _ rfl w.heap.size 0 0 2 24 rfl rfl Tryd.underlying25 sz_phash (by decide) wz) hHeld ?_
      simp only [Act.put, List.setIfInBounds_toArray, List.set_cons_zero, List.set_cons_succ]
      refine takeTo 1 (some 91) (.pointer (some ⟨w.heap.size + 2 + 0, 0, none⟩)) rfl rfl (by kernel_rfl) (by kernel_rfl) (by kernel_rfl) (fun _ _ _ h => h) (by rfl) (fun wz hz => run_load_hash _ rfl ⟨w.heap.size, 0 + 0, none⟩ rfl _ wz (two_at (V := fun p => .pointer (some ⟨w.heap.size + 2 + p, 0, none⟩)) hz.1 0 (by decide)).1) hHeld ?_
      simp only [Act.put, List.setIfInBounds_toArray, List.set_cons_zero, List.set_cons_succ]
      refine takeTo 3 (some 93) (.pointer (some ⟨w.heap.size + 1, 0 + 0, none⟩)) rfl rfl (by kernel_rfl) (by kernel_rfl) (by kernel_rfl) (fun _ _ _ h => h) (by rfl) (fun wz _ => run_at_array 27 _ _ rfl (w.heap.size + 1) 0 0 2 26 rfl rfl Tryd.underlying27 sz_bytes (by decide) wz) hHeld ?_
      simp only [Act.put, List.setIfInBounds_toArray, List.set_cons_zero, List.set_cons_succ]
      refine takeTo 4 (some 94) (.slice v0 (N 0) c0) rfl rfl (by kernel_rfl) (by kernel_rfl) (by kernel_rfl) (fun _ _ _ h => h) (by rfl) (fun wz hz => run_load_row1 _ rfl ⟨w.heap.size + 1, 0 + 0, none⟩ rfl _ wz (by rw [← hV0]; exact (two_at hz.2.1 0 (by decide)).1)) hHeld ?_
      simp only [Act.put, List.setIfInBounds_toArray, List.set_cons_zero, List.set_cons_succ]
      refine callTo 2 (some 92) 7 #[.pointer (some ⟨w.heap.size + 2 + 0, 0, none⟩)] (by kernel_rfl) rfl rfl (by rfl) (by kernel_rfl) (hS0 _ hIe.2.2.2.2.2.1 (hIe.2.2.1 0 (by decide))) ?_
      rintro e x1 ⟨rfl, hbx1⟩
      have hx1 := hIe.below hbx1
      refine ⟨_, rfl, hx1, ?_⟩
      simp only [Act.put, List.setIfInBounds_toArray, List.set_cons_zero, List.set_cons_succ]
      have hrx1 := hx1.2.2.2.1 0 (by decide)
      rw [hV0] at hrx1
      obtain ⟨na0, nc0, hve0, hvc0, _, hby0, _⟩ := own_bytes hrx1
      simp only [Value.slice.injEq] at hve0
      obtain ⟨rfl, _, rfl⟩ := hve0
      refine callTo 5 (some 95) 8 #[.slice v0 (N 0) c0] (by kernel_rfl) rfl rfl (by rfl) (by kernel_rfl) (hT0 _ v0 c0 hx1.2.2.2.2.2.1 hvc0 hby0) ?_
      rintro e x2 ⟨rfl, hbx2⟩
      have hx2 := hx1.below hbx2
      refine ⟨_, rfl, hx2, ?_⟩
      simp only [Act.put, List.setIfInBounds_toArray, List.set_cons_zero, List.set_cons_succ]
      have hHeld := hx2
      refine takeTo 6 (some 96) (.bool true) rfl rfl (by kernel_rfl) (by kernel_rfl) (by kernel_rfl) (fun _ _ _ h => h) (by rfl) (fun wz _ => run_eql_same _ _ rfl X0 rfl rfl heq0 wz) hHeld ?_
      simp only [Act.put, List.setIfInBounds_toArray, List.set_cons_zero, List.set_cons_succ]
      refine takeTo 7 (some 97) (.bool true) rfl rfl (by kernel_rfl) (by kernel_rfl) (by kernel_rfl) (fun _ _ _ h => h) (by rfl) (fun _ _ => rfl) hHeld ?_
      simp only [Act.put, List.setIfInBounds_toArray, List.set_cons_zero, List.set_cons_succ]
      refine takeTo 8 (some 98) (.pointer (some ⟨w.heap.size, 0 + 1, none⟩)) rfl rfl (by kernel_rfl) (by kernel_rfl) (by kernel_rfl) (fun _ _ _ h => h) (by rfl) (fun wz _ => run_at_array 25 _ _ rfl w.heap.size 0 1 2 24 rfl rfl Tryd.underlying25 sz_phash (by decide) wz) hHeld ?_
      simp only [Act.put, List.setIfInBounds_toArray, List.set_cons_zero, List.set_cons_succ]
      refine takeTo 9 (some 99) (.pointer (some ⟨w.heap.size + 2 + 1, 0, none⟩)) rfl rfl (by kernel_rfl) (by kernel_rfl) (by kernel_rfl) (fun _ _ _ h => h) (by rfl) (fun wz hz => run_load_hash _ rfl ⟨w.heap.size, 0 + 1, none⟩ rfl _ wz (two_at (V := fun p => .pointer (some ⟨w.heap.size + 2 + p, 0, none⟩)) hz.1 1 (by decide)).1) hHeld ?_
      simp only [Act.put, List.setIfInBounds_toArray, List.set_cons_zero, List.set_cons_succ]
      refine takeTo 11 (some 101) (.pointer (some ⟨w.heap.size + 1, 0 + 1, none⟩)) rfl rfl (by kernel_rfl) (by kernel_rfl) (by kernel_rfl) (fun _ _ _ h => h) (by rfl) (fun wz _ => run_at_array 27 _ _ rfl (w.heap.size + 1) 0 1 2 26 rfl rfl Tryd.underlying27 sz_bytes (by decide) wz) hHeld ?_
      simp only [Act.put, List.setIfInBounds_toArray, List.set_cons_zero, List.set_cons_succ]
      refine takeTo 12 (some 102) (.slice v1 (N 1) c1) rfl rfl (by kernel_rfl) (by kernel_rfl) (by kernel_rfl) (fun _ _ _ h => h) (by rfl) (fun wz hz => run_load_row1 _ rfl ⟨w.heap.size + 1, 0 + 1, none⟩ rfl _ wz (by rw [← hV1]; exact (two_at hz.2.1 1 (by decide)).1)) hHeld ?_
      simp only [Act.put, List.setIfInBounds_toArray, List.set_cons_zero, List.set_cons_succ]
      refine callTo 10 (some 100) 7 #[.pointer (some ⟨w.heap.size + 2 + 1, 0, none⟩)] (by kernel_rfl) rfl rfl (by rfl) (by kernel_rfl) (hS1 _ hx2.2.2.2.2.2.1 (hx2.2.2.1 1 (by decide))) ?_
      rintro e x3 ⟨rfl, hbx3⟩
      have hx3 := hx2.below hbx3
      refine ⟨_, rfl, hx3, ?_⟩
      simp only [Act.put, List.setIfInBounds_toArray, List.set_cons_zero, List.set_cons_succ]
      have hrx3 := hx3.2.2.2.1 1 (by decide)
      rw [hV1] at hrx3
      obtain ⟨na1, nc1, hve1, hvc1, _, hby1, _⟩ := own_bytes hrx3
      simp only [Value.slice.injEq] at hve1
      obtain ⟨rfl, _, rfl⟩ := hve1
      refine callTo 13 (some 103) 8 #[.slice v1 (N 1) c1] (by kernel_rfl) rfl rfl (by rfl) (by kernel_rfl) (hT1 _ v1 c1 hx3.2.2.2.2.2.1 hvc1 hby1) ?_
      rintro e x4 ⟨rfl, hbx4⟩
      have hx4 := hx3.below hbx4
      refine ⟨_, rfl, hx4, ?_⟩
      simp only [Act.put, List.setIfInBounds_toArray, List.set_cons_zero, List.set_cons_succ]
      have hHeld := hx4
      refine takeTo 14 (some 104) (.bool true) rfl rfl (by kernel_rfl) (by kernel_rfl) (by kernel_rfl) (fun _ _ _ h => h) (by rfl) (fun wz _ => run_eql_same _ _ rfl X1 rfl rfl heq1 wz) hHeld ?_
      simp only [Act.put, List.setIfInBounds_toArray, List.set_cons_zero, List.set_cons_succ]
      refine takeTo 15 (some 105) (.bool true) rfl rfl (by kernel_rfl) (by kernel_rfl) (by kernel_rfl) (fun _ _ _ h => h) (by rfl) (fun _ _ => rfl) hHeld ?_
      simp only [Act.put, List.setIfInBounds_toArray, List.set_cons_zero, List.set_cons_succ]
      refine takeTo 16 (some 4) (.bool true) rfl rfl (by kernel_rfl) (by kernel_rfl) (by kernel_rfl) (fun _ _ _ h => h) (by rfl) (fun _ _ => rfl) hHeld ?_
      simp only [Act.put, List.setIfInBounds_toArray, List.set_cons_zero, List.set_cons_succ]
      refine wpAnyH_done (by kernel_rfl) ?_ _
      go_wp2
      go_ret
      exact ⟨rfl, hx4.2.2.2.2.2.2.2⟩
end Go.Proofs.YtcfcfchacfjmpaaDoor
