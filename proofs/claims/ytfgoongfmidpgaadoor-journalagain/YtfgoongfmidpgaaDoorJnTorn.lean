/- Torn's torn, walked. -/
import Derived.Test.YtfgoongfmidpgaaDoorJnWhole
namespace Go.Proofs.YtfgoongfmidpgaaDoor
open Go.ChangeShapes Go.WideShapes Go.ChangeAt Go.RowKit
set_option linter.unusedVariables false

variable {D : DevRep}

/-- What torn answers: a device that can be read, and nothing came to it since. -/
def TornR (D : DevRep) (w : World) (e : Ending) (w' : World) : Prop := ∃ p s c F, e = .returned (ptr p) ∧ In D w.heap.size w w' p s c 0 F ∧ Able s ∧ s.log = [] ∧ s.n = 60

set_option maxRecDepth 100000 in
set_option maxHeartbeats 8000000 in
theorem torn_walk (hD : DevOk D) (hM : DevMore D) (w : World) (hG : Glob Hc Kc w) (cs : Array Value) (O : TornV) (hO : TornIn w cs O) :
    Calls Tryd.prog 31 #[.agg cs] w (TornR D w) := by
  obtain ⟨rfl, ⟨hfs, hfn⟩, ⟨hms, hmn⟩, ⟨hci, hcb⟩, hdi, hdb⟩ := hO
  have hjn := jp_nil
  have hpn := pd_nil
  have hbA : Below w.heap.size w (w.alloc (.cells #[.slice O.a O.L O.C, .slice O.b O.M O.E, .int .i64 O.c.i, .slice O.c.a O.c.L O.c.C, .int .i64 O.d.i, .slice O.d.a O.d.L O.d.C] 55)) := (Below.refl _ _).alloc (Nat.le_refl _) _
  have hGA := hG.below hbA hG.1
  have hfsA := hfs.below hbA (Nat.le_refl _)
  have hmsA := hms.below hbA (Nat.le_refl _)
  have hcbA := hcb.below hbA (Nat.le_refl _)
  have hbxA : Has (w.alloc (.cells #[.slice O.a O.L O.C, .slice O.b O.M O.E, .int .i64 O.c.i, .slice O.c.a O.c.L O.c.C, .int .i64 O.d.i, .slice O.d.a O.d.L O.d.C] 55)) w.heap.size 55 #[.slice O.a O.L O.C, .slice O.b O.M O.E, .int .i64 O.c.i, .slice O.c.a O.c.L O.c.C, .int .i64 O.d.i, .slice O.d.a O.d.L O.d.C] := Has.new _ _ _
  have hnew := in_new (B := (w.alloc (.cells #[.slice O.a O.L O.C, .slice O.b O.M O.E, .int .i64 O.c.i, .slice O.c.a O.c.L O.c.C, .int .i64 O.d.i, .slice O.d.a O.d.L O.d.C] 55)).heap.size) (w0 := w.alloc (.cells #[.slice O.a O.L O.C, .slice O.b O.M O.E, .int .i64 O.c.i, .slice O.c.a O.c.L O.c.C, .int .i64 O.d.i, .slice O.d.a O.d.L O.d.C] 55)) hD 60 (by decide) (by decide) (Below.refl _ _) (Nat.le_refl _)
  have HFN : Hid (O.L = O.rs.length) := hfn
  have HMN : Hid (O.M = O.qs.length) := hmn
  clear hfn hmn hG hfs hms hcb hdb
  go_enter Tryd.func31, Tryd.ntmps31
  go_wp2_with (first
    | ((go_at_call 9)
       (refine hnew.mono ?_)
       (rintro e w1 ⟨p, c, F, rfl, hI1, hb1, hF1, hc1⟩)
       (clear hnew hb1 hF1 hc1)
       (generalize w.alloc (.cells #[.slice O.a O.L O.C, .slice O.b O.M O.E, .int .i64 O.c.i, .slice O.c.a O.c.L O.c.C, .int .i64 O.d.i, .slice O.d.a O.d.L O.d.C] 55) = wA at hbA hGA hfsA hmsA hcbA hbxA hI1)
       (have hB1 : 1 < wA.heap.size := hGA.1)
       (have hfm := j_formatF hD hM hI1 (fine_fresh 60 (by decide) (by decide)) (by omega) (by simp [fresh]))
       (have hpn1 := hpn p)
       (clear hpn))
    | ((go_at_call 10)
       (refine Calls.mono hfm ?_)
       (rintro e w2 ⟨j, s2, m2, F2, G2, rfl, hJ2, hf2, hn2, hk2, hl2, hm2, ho2, hg2, hG2⟩)
       (clear hfm ho2 hg2 hG2)
       (have hn2' : s2.n = 60 := hn2)
       (have hl2' : s2.log.length ≤ 64 := hl2)
       (have hm2' : m2 ≤ 64 := (by have h9 : m2 ≤ 0 + (60 + 4) := hm2; omega))
       (have hjn2 := hjn j)
       (have q0 : w2.cell? ⟨w.heap.size, 0, none⟩ = some (.slice O.a O.L O.C) := (hbxA.below hJ2.dev.below hbxA.lt).cell 0)
       (have hfi := fill_c (lc := O.C) hD hGA hB1 (Nat.le_refl _) hJ2 hf2.n2 hfsA HFN.out)
       (clear hn2 hl2 hm2 hI1 hjn))
    | ((go_at_call 28)
       (first
         | (have _t := hfi
            refine Calls.mono hfi ?_
            rintro e w4 ⟨v4, rfl, G4, X4, hS4, hO4, hA4, hX4⟩
            obtain ⟨r4, hr4⟩ : ∃ r4, r4 = [] ++ filled [] (64 * s2.n) (O.rs.take 40) := ⟨_, rfl⟩
            rw [← hr4] at hS4
            have hJ4 := hS4.jin
            have hfl := j_flushF hD hM hJ4 hf2 hk2 (by omega) (by omega)
            clear hfi _t hr4 q0)
         | (have _t := hfi2
            refine Calls.mono hfi2 ?_
            rintro e w7 ⟨v7, rfl, G7, X7, hS7, hO7, hA7, hX7⟩
            obtain ⟨r7, hr7⟩ : ∃ r7, r7 = [] ++ filled [] (64 * s6.n) (O.qs.take 40) := ⟨_, rfl⟩
            rw [← hr7] at hS7
            have hJ7 := hS7.jin
            have hfl2 := j_flushF hD hM hJ7 hf6 hk6 (by omega) (by omega)
            clear hfi2 _t hr7 q6)
         | (have _t := hfi3
            refine Calls.mono hfi3 ?_
            rintro e w9 ⟨v9, rfl, G9, X9, hS9, hO9, hA9, hX9⟩
            obtain ⟨f9, hf9⟩ : ∃ f9, f9 = filled r7 (64 * s8.n) (O.rs.take 40) := ⟨_, rfl⟩
            rw [← hf9] at hS9
            have hJ9 := hS9.jin
            have hfl3 := j_flushF hD hM hJ9 hf8 (by rw [List.take_left]; exact hk8) (by omega) (by omega)
            clear hfi3 _t hf9 q8)))
    | ((go_at_call 14)
       (first
         | (have _t := hfl
            refine hfl.mono ?_
            rintro e w5 ⟨rfl, s5, m5, F5, hS5, hf5, hn5, hk5, hl5, hm5, _⟩
            have hJ5 := hS5.jin
            rw [hn2'] at hl5 hm5 hn5
            have hcl := j_clearF hD hM hJ5 hf5 (by omega) (by omega)
            clear hfl _t hS5 hS4)
         | (have _t := hfl2
            refine hfl2.mono ?_
            rintro e w8 ⟨rfl, s8, m8, F8, hS8, hf8, hn8, hk8, hl8, hm8, _⟩
            have hJ8 := hS8.jin
            rw [hn6] at hl8 hm8 hn8
            have q8 : w8.cell? ⟨w.heap.size, 0, none⟩ = some (.slice O.a O.L O.C) := (hbxA.below hJ8.dev.below hbxA.lt).cell 0
            have hfi3 := fill_c (lc := O.C) hD hGA hB1 (Nat.le_refl _) hJ8 hf8.n2 hfsA HFN.out
            clear hfl2 _t hS8 hS7)
         | (have _t := hfl3
            refine hfl3.mono ?_
            rintro e w10 ⟨rfl, s10, m10, F10, hS10, hf10, hn10, hk10, hl10, hm10, _⟩
            have hJ10 := hS10.jin
            rw [hn8] at hl10 hm10 hn10
            clear hfl3 _t hS10 hS9)))
    | ((go_at_call 16)
       (refine hcl.mono ?_)
       (rintro e w6 ⟨rfl, s6, m6, F6, hS6, hf6, hn6, hk6, hl6, hm6⟩)
       (have hJ6 := hS6.jin)
       (rw [hn5] at hl6 hm6 hn6)
       (have q6 : w6.cell? ⟨w.heap.size, 1, none⟩ = some (.slice O.b O.M O.E) := (hbxA.below hJ6.dev.below hbxA.lt).cell 1)
       (have hfi2 := fill_c (lc := O.E) hD hGA hB1 (Nat.le_refl _) hJ6 hf6.n2 hmsA HMN.out)
       (clear hcl hS6)))
  have hbx10 := hbxA.below hJ10.dev.below hbxA.lt
  have k2 : w10.cell? ⟨w.heap.size, 2, none⟩ = some (.int .i64 O.c.i) := hbx10.cell 2
  have k3 : w10.cell? ⟨w.heap.size, 3, none⟩ = some (.slice O.c.a O.c.L O.c.C) := hbx10.cell 3
  have hbw : w.heap.size < w10.heap.size := hbx10.lt
  have hSW : ∀ W : World, Below w10.heap.size w10 W → W.cell? ⟨w.heap.size, 2, none⟩ = some (.int .i64 O.c.i) ∧ W.cell? ⟨w.heap.size, 3, none⟩ = some (.slice O.c.a O.c.L O.c.C) := fun W hW => ⟨(hW.cell (p := ⟨w.heap.size, 2, none⟩) hbw).trans k2, (hW.cell (p := ⟨w.heap.size, 3, none⟩) hbw).trans k3⟩
  have bd : Below w10.heap.size w10 w10.drew := (Below.refl _ w10).drew
  have hId := hJ10.dev.next hD bd
  have hwr3 := in_tells hD hId (hD.writes w10.drew p s10 c m10 F10 hId.dev (by omega))
  have hwl : wrs s10.log ≤ s10.log.length := List.length_filter_le _ _
  obtain ⟨W10, hW10⟩ : ∃ W10, W10 = wrs s10.log := ⟨_, rfl⟩
  rw [← hW10] at hwr3 hwl
  refine wp_region_held_drew (S := fun wz => wz.cell? ⟨w.heap.size, 2, none⟩ = some (.int .i64 O.c.i) ∧ wz.cell? ⟨w.heap.size, 3, none⟩ = some (.slice O.c.a O.c.L O.c.C)) (by kernel_rfl) (hSW _ bd) (fun hHeld => ?_)
  refine takeTo 0 (some 46) (ptr p) rfl rfl (by kernel_rfl) (by kernel_rfl) (by kernel_rfl) (fun _ _ _ h => h) (by rfl) (fun _ _ => rfl) hHeld ?_
  simp only [Act.put, List.setIfInBounds_toArray, List.set_cons_zero, List.set_cons_succ]
  refine takeTo 1 (some 47) (.pointer (some ⟨w.heap.size, 2, none⟩)) rfl rfl (by kernel_rfl) (by kernel_rfl) (by kernel_rfl) (fun _ _ _ h => h) (by rfl) (fun _ _ => rfl) hHeld ?_
  simp only [Act.put, List.setIfInBounds_toArray, List.set_cons_zero, List.set_cons_succ]
  refine takeTo 2 (some 48) (.pointer (some ⟨w.heap.size, 2, none⟩)) rfl rfl (by kernel_rfl) (by kernel_rfl) (by kernel_rfl) (fun _ _ _ h => h) (by rfl) (fun _ _ => rfl) hHeld ?_
  simp only [Act.put, List.setIfInBounds_toArray, List.set_cons_zero, List.set_cons_succ]
  refine takeTo 3 (some 49) (.int .i64 O.c.i) rfl rfl (by kernel_rfl) (by kernel_rfl) (by kernel_rfl) (fun _ _ _ h => h) (by rfl) (fun wz hz => run_load_3J _ rfl _ rfl _ wz hz.1) hHeld ?_
  simp only [Act.put, List.setIfInBounds_toArray, List.set_cons_zero, List.set_cons_succ]
  refine takeTo 4 (some 50) (ptr p) rfl rfl (by kernel_rfl) (by kernel_rfl) (by kernel_rfl) (fun _ _ _ h => h) (by rfl) (fun _ _ => rfl) hHeld ?_
  simp only [Act.put, List.setIfInBounds_toArray, List.set_cons_zero, List.set_cons_succ]
  refine takeTo 8 (some 54) (.pointer (some ⟨w.heap.size, 2, none⟩)) rfl rfl (by kernel_rfl) (by kernel_rfl) (by kernel_rfl) (fun _ _ _ h => h) (by rfl) (fun _ _ => rfl) hHeld ?_
  simp only [Act.put, List.setIfInBounds_toArray, List.set_cons_zero, List.set_cons_succ]
  refine takeTo 9 (some 55) (.pointer (some ⟨w.heap.size, 3, none⟩)) rfl rfl (by kernel_rfl) (by kernel_rfl) (by kernel_rfl) (fun _ _ _ h => h) (by rfl) (fun _ _ => rfl) hHeld ?_
  simp only [Act.put, List.setIfInBounds_toArray, List.set_cons_zero, List.set_cons_succ]
  refine takeTo 10 (some 56) (.slice O.c.a O.c.L O.c.C) rfl rfl (by kernel_rfl) (by kernel_rfl) (by kernel_rfl) (fun _ _ _ h => h) (by rfl) (fun wz hz => run_load_boJ _ rfl _ rfl _ wz hz.2) hHeld ?_
  simp only [Act.put, List.setIfInBounds_toArray, List.set_cons_zero, List.set_cons_succ]
  refine callTo 5 (some 51) 29 #[ptr p] (by kernel_rfl) rfl rfl (by rfl) (by kernel_rfl) hwr3 ?_
  rintro e w13 ⟨rfl, hb13d, hI13⟩
  have hb13 : Below w10.heap.size w10 w13 := bd.trans hb13d
  refine ⟨_, rfl, hSW _ hb13, ?_⟩
  simp only [Act.put, List.setIfInBounds_toArray, List.set_cons_zero, List.set_cons_succ]
  refine takeTo 6 (some 52) (.int .i64 ((W10 + 1 : Nat) : Int)) rfl rfl (by kernel_rfl) (by kernel_rfl) (by kernel_rfl) (fun _ _ _ h => h) (by rfl) (fun wz _ => run_addJ _ rfl W10 1 rfl ⟨rfl, by omega⟩ wz) (hSW _ hb13) ?_
  simp only [Act.put, List.setIfInBounds_toArray, List.set_cons_zero, List.set_cons_succ]
  have hpk := pick_any O.c.i (W10 + 1) w13 hci (by omega) (by omega)
  refine callTo 7 (some 53) 8 #[.int .i64 O.c.i, .int .i64 ((W10 + 1 : Nat) : Int)] (by kernel_rfl) rfl rfl (by rfl) (by kernel_rfl) hpk ?_
  rintro e wz ⟨rfl, hz⟩
  obtain rfl : w13 = wz := hz.symm
  refine ⟨_, rfl, hSW _ hb13, ?_⟩
  have hpl := pickN_lt O.c.i (W10 + 1) (by omega)
  obtain ⟨K, hK⟩ : ∃ K, K = pickN O.c.i (W10 + 1) := ⟨_, rfl⟩
  rw [← hK] at hpl ⊢
  simp only [Act.put, List.setIfInBounds_toArray, List.set_cons_zero, List.set_cons_succ]
  have hca := in_cutAt hD hM hI13 (K : Nat) O.c.a O.c.L O.c.C O.c.k (by unfold i64ok; omega) (by omega) hcbA.max hcbA.le (hcbA.below hI13.below (Nat.le_refl _)).at_
  refine callTo 11 (some 57) 30 #[ptr p, .int .i64 (K : Nat), .slice O.c.a O.c.L O.c.C] (by kernel_rfl) rfl rfl (by rfl) (by kernel_rfl) hca ?_
  rintro e w14 ⟨hb14, hI14, pL2, cL2, FL2, rfl, hIL2, hgL2, hcL2⟩
  have hb14' : Below w10.heap.size w10 w14 := hb13.trans (hb14.mono hb13.size)
  refine ⟨_, rfl, hSW _ hb14', ?_⟩
  simp only [Act.put, List.setIfInBounds_toArray, List.set_cons_zero, List.set_cons_succ]
  refine takeTo 12 (some 2) (ptr pL2) rfl rfl (by kernel_rfl) (by kernel_rfl) (by kernel_rfl) (fun _ _ _ h => h) (by rfl) (fun _ _ => rfl) (hSW _ hb14') ?_
  simp only [Act.put, List.setIfInBounds_toArray, List.set_cons_zero, List.set_cons_succ]
  refine wpAnyH_done (by kernel_rfl) ?_ _
  clear hHeld hSW hwr3 hca
  go_wp2
  go_ret
  have hsA := hbA.size
  refine ⟨pL2, cutAtD s10 (K : Nat) (keepOf O.c.k O.c.L), cL2, FL2, rfl, ⟨hIL2.dev, fun k hk => Nat.le_trans hsA (hIL2.base k hk), Nat.le_trans hsA hIL2.cb, hbA.trans (hIL2.below.mono hsA), Nat.le_trans hsA hIL2.sz⟩, Able.cutAt hf10 _ _, rfl, hn10⟩
end Go.Proofs.YtfgoongfmidpgaaDoor
