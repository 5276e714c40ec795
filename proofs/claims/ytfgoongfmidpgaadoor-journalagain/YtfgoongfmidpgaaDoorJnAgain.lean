/- JournalAgain, walked. -/
import Derived.Test.YtfgoongfmidpgaaDoorJnTorn
namespace Go.Proofs.YtfgoongfmidpgaaDoor
open Go.ChangeShapes Go.WideShapes Go.ChangeAt Go.RowKit
set_option linter.unusedVariables false

variable {D : DevRep}

set_option maxRecDepth 100000 in
theorem run_load_torn {o : Oper} {a : Act} (x : Operand) (ho : o.op = .load 55 x) (g : Nat) (hx : a.eval x = .pointer (some ⟨g, 0, none⟩)) (cs : List Value) {w : World} (h : Has w g 55 cs.toArray) (hs : cs.length = 6) : (execOp a.eval o).run Tryd.prog w = .ok (.value (.agg cs.toArray)) w := by
  have hr := run_loadAt_mid (P := Tryd.prog) w g 0 55 cs _ (fun j u hu => by rw [Nat.zero_add, h.cell, List.getElem?_toArray]; exact hu) Tryd.underlying55 rfl (by rw [hs]; kernel_rfl)
  unfold execOp
  simp only [ho, hx, Sem.run_bind, hr]
  rfl

theorem j_recordsX {w : World} {j p n : Nat} {rs : List RC} {fl : Nat} {G : Nat → Prop} (h : JnAt w j p n rs fl G) (hn : n ≤ 1000) : Calls Tryd.prog 23 #[ptr j] w (RecR w rs) := by
  obtain ⟨im, C, I, rv, Cc, hX, hGl⟩ := h
  exact records_x hX hGl hn

set_option maxRecDepth 100000 in
set_option maxHeartbeats 8000000 in
theorem again_walk (hD : DevOk D) (hM : DevMore D) (w : World) (hG : Glob Hc Kc w) (cs : Array Value) (O : TornV) (hO : TornIn w cs O) :
    Calls Tryd.prog 5 #[.agg cs] w fun e w' => e = .returned (.bool true) ∧ Below w.heap.size w w' := by
  have hO' := hO
  obtain ⟨rfl, ⟨hfs, hfn⟩, ⟨hms, hmn⟩, ⟨hci, hcb⟩, hdi, hdb⟩ := hO
  have hjn := jp_nil
  have hjne := jp_ne
  have hpn := pd_nil
  have hbA : Below w.heap.size w (w.alloc (.cells #[.slice O.a O.L O.C, .slice O.b O.M O.E, .int .i64 O.c.i, .slice O.c.a O.c.L O.c.C, .int .i64 O.d.i, .slice O.d.a O.d.L O.d.C] 55)) := (Below.refl _ _).alloc (Nat.le_refl _) _
  have hGA := hG.below hbA hG.1
  have hdbA := hdb.below hbA (Nat.le_refl _)
  have hbxA : Has (w.alloc (.cells #[.slice O.a O.L O.C, .slice O.b O.M O.E, .int .i64 O.c.i, .slice O.c.a O.c.L O.c.C, .int .i64 O.d.i, .slice O.d.a O.d.L O.d.C] 55)) w.heap.size 55 #[.slice O.a O.L O.C, .slice O.b O.M O.E, .int .i64 O.c.i, .slice O.c.a O.c.L O.c.C, .int .i64 O.d.i, .slice O.d.a O.d.L O.d.C] := Has.new _ _ _
  have hOA : TornIn (w.alloc (.cells #[.slice O.a O.L O.C, .slice O.b O.M O.E, .int .i64 O.c.i, .slice O.c.a O.c.L O.c.C, .int .i64 O.d.i, .slice O.d.a O.d.L O.d.C] 55)) #[.slice O.a O.L O.C, .slice O.b O.M O.E, .int .i64 O.c.i, .slice O.c.a O.c.L O.c.C, .int .i64 O.d.i, .slice O.d.a O.d.L O.d.C] O := ⟨rfl, ⟨hfs.below hbA (Nat.le_refl _), hfn⟩, ⟨hms.below hbA (Nat.le_refl _), hmn⟩, ⟨hci, hcb.below hbA (Nat.le_refl _)⟩, hdi, hdbA⟩
  have htw := torn_walk hD hM (w.alloc (.cells #[.slice O.a O.L O.C, .slice O.b O.M O.E, .int .i64 O.c.i, .slice O.c.a O.c.L O.c.C, .int .i64 O.d.i, .slice O.d.a O.d.L O.d.C] 55)) hGA _ O hOA
  clear hfn hmn hG hfs hms hcb hdb hO' hOA
  go_enter Tryd.func5, Tryd.ntmps5
  go_wp2_with (first
    | (refine at_dst 8 rfl ?_; refine wpList_is (some 8) (.agg #[.slice O.a O.L O.C, .slice O.b O.M O.E, .int .i64 O.c.i, .slice O.c.a O.c.L O.c.C, .int .i64 O.d.i, .slice O.d.a O.d.L O.d.C]) rfl (by rfl) (run_load_torn (.tmp 1) rfl w.heap.size rfl _ hbxA rfl) ?_)
    | ((go_at_call 31)
       (refine Calls.mono htw ?_)
       (rintro e w1 ⟨p, s1, c, F, rfl, hI1, hab1, hlog1, hn1⟩)
       (clear htw)
       (generalize w.alloc (.cells #[.slice O.a O.L O.C, .slice O.b O.M O.E, .int .i64 O.c.i, .slice O.c.a O.c.L O.c.C, .int .i64 O.d.i, .slice O.d.a O.d.L O.d.C] 55) = wA at hbA hGA hdbA hbxA hI1)
       (have hB1 : 1 < wA.heap.size := hGA.1)
       (have hal := in_tells hD hI1 (alive_j hD hM w1 (hGA.below hI1.below hB1)))
       (have hpn1 := hpn p)
       (clear hpn))
    | ((go_at_call 11)
       (refine hal.mono ?_)
       (rintro e w2 ⟨rfl, hb2, hI2⟩)
       (clear hal hI1)
       (obtain ⟨ss, hssE⟩ : ∃ ss, ss = told dgS (byOf (holds s1)) (64 * s1.n) := ⟨_, rfl⟩)
       (have hss0 : rsame (told dgS (byOf (holds s1)) (64 * s1.n)) ss := (by rw [hssE]; exact rsame_refl _))
       (have hssb : ∀ r ∈ ss, ∀ k, r.f k < 256 := (by rw [hssE]; exact told_byt dgS _ _ (fun k => hab1.byt.holds _ _)))
       (have HSS : Hid (ss = told dgS (byOf (holds s1)) (64 * s1.n)) := hssE)
       (clear hssE)
       (have hop := j_openF hD hM hGA hB1 hI2 hab1 (by omega) (by rw [hlog1]; exact Nat.zero_le _) hss0 hssb))
    | ((go_at_call 18)
       (refine Calls.mono hop ?_)
       (rintro e w3 ⟨j, s3, m3, F3, G3, rfl, hJ3, hf3, hn3, hk3, hl3, hm3, hto3, ho3, hg3, hG3⟩)
       (clear hop)
       (have hjn2 := hjn j)
       (clear hjn)))
  rw [hn1] at hl3 hm3
  rw [hlog1] at hl3
  have hl3' : s3.log.length ≤ 64 := hl3
  have hbx3 := hbxA.below hJ3.dev.below hbxA.lt
  have k2 : w3.cell? ⟨w.heap.size, 4, none⟩ = some (.int .i64 O.d.i) := hbx3.cell 4
  have k3 : w3.cell? ⟨w.heap.size, 5, none⟩ = some (.slice O.d.a O.d.L O.d.C) := hbx3.cell 5
  have hbw : w.heap.size < w3.heap.size := hbx3.lt
  have hSW : ∀ W : World, Below w3.heap.size w3 W → W.cell? ⟨w.heap.size, 4, none⟩ = some (.int .i64 O.d.i) ∧ W.cell? ⟨w.heap.size, 5, none⟩ = some (.slice O.d.a O.d.L O.d.C) := fun W hW => ⟨(hW.cell (p := ⟨w.heap.size, 4, none⟩) hbw).trans k2, (hW.cell (p := ⟨w.heap.size, 5, none⟩) hbw).trans k3⟩
  have bd : Below w3.heap.size w3 w3.drew := (Below.refl _ w3).drew
  have hId := hJ3.dev.next hD bd
  have hwr3 := in_tells hD hId (hD.writes w3.drew p s3 c m3 F3 hId.dev (by omega))
  have hwl : wrs s3.log ≤ s3.log.length := List.length_filter_le _ _
  obtain ⟨W3, hW3⟩ : ∃ W3, W3 = wrs s3.log := ⟨_, rfl⟩
  rw [← hW3] at hwr3 hwl
  refine wp_region_held_drew (S := fun wz => wz.cell? ⟨w.heap.size, 4, none⟩ = some (.int .i64 O.d.i) ∧ wz.cell? ⟨w.heap.size, 5, none⟩ = some (.slice O.d.a O.d.L O.d.C)) (by kernel_rfl) (hSW _ bd) (fun hHeld => ?_)
  refine takeTo 0 (some 28) (ptr p) rfl rfl (by kernel_rfl) (by kernel_rfl) (by kernel_rfl) (fun _ _ _ h => h) (by rfl) (fun _ _ => rfl) hHeld ?_
  simp only [Act.put, List.setIfInBounds_toArray, List.set_cons_zero, List.set_cons_succ]
  refine takeTo 1 (some 29) (.pointer (some ⟨w.heap.size, 4, none⟩)) rfl rfl (by kernel_rfl) (by kernel_rfl) (by kernel_rfl) (fun _ _ _ h => h) (by rfl) (fun _ _ => rfl) hHeld ?_
  simp only [Act.put, List.setIfInBounds_toArray, List.set_cons_zero, List.set_cons_succ]
  refine takeTo 2 (some 30) (.pointer (some ⟨w.heap.size, 4, none⟩)) rfl rfl (by kernel_rfl) (by kernel_rfl) (by kernel_rfl) (fun _ _ _ h => h) (by rfl) (fun _ _ => rfl) hHeld ?_
  simp only [Act.put, List.setIfInBounds_toArray, List.set_cons_zero, List.set_cons_succ]
  refine takeTo 3 (some 31) (.int .i64 O.d.i) rfl rfl (by kernel_rfl) (by kernel_rfl) (by kernel_rfl) (fun _ _ _ h => h) (by rfl) (fun wz hz => run_load_3J _ rfl _ rfl _ wz hz.1) hHeld ?_
  simp only [Act.put, List.setIfInBounds_toArray, List.set_cons_zero, List.set_cons_succ]
  refine takeTo 4 (some 32) (ptr p) rfl rfl (by kernel_rfl) (by kernel_rfl) (by kernel_rfl) (fun _ _ _ h => h) (by rfl) (fun _ _ => rfl) hHeld ?_
  simp only [Act.put, List.setIfInBounds_toArray, List.set_cons_zero, List.set_cons_succ]
  refine takeTo 8 (some 36) (.pointer (some ⟨w.heap.size, 4, none⟩)) rfl rfl (by kernel_rfl) (by kernel_rfl) (by kernel_rfl) (fun _ _ _ h => h) (by rfl) (fun _ _ => rfl) hHeld ?_
  simp only [Act.put, List.setIfInBounds_toArray, List.set_cons_zero, List.set_cons_succ]
  refine takeTo 9 (some 37) (.pointer (some ⟨w.heap.size, 5, none⟩)) rfl rfl (by kernel_rfl) (by kernel_rfl) (by kernel_rfl) (fun _ _ _ h => h) (by rfl) (fun _ _ => rfl) hHeld ?_
  simp only [Act.put, List.setIfInBounds_toArray, List.set_cons_zero, List.set_cons_succ]
  refine takeTo 10 (some 38) (.slice O.d.a O.d.L O.d.C) rfl rfl (by kernel_rfl) (by kernel_rfl) (by kernel_rfl) (fun _ _ _ h => h) (by rfl) (fun wz hz => run_load_boJ _ rfl _ rfl _ wz hz.2) hHeld ?_
  simp only [Act.put, List.setIfInBounds_toArray, List.set_cons_zero, List.set_cons_succ]
  refine callTo 5 (some 33) 29 #[ptr p] (by kernel_rfl) rfl rfl (by rfl) (by kernel_rfl) hwr3 ?_
  rintro e w4 ⟨rfl, hb4d, hI4⟩
  have hb4 : Below w3.heap.size w3 w4 := bd.trans hb4d
  refine ⟨_, rfl, hSW _ hb4, ?_⟩
  simp only [Act.put, List.setIfInBounds_toArray, List.set_cons_zero, List.set_cons_succ]
  refine takeTo 6 (some 34) (.int .i64 ((W3 + 1 : Nat) : Int)) rfl rfl (by kernel_rfl) (by kernel_rfl) (by kernel_rfl) (fun _ _ _ h => h) (by rfl) (fun wz _ => run_addJ _ rfl W3 1 rfl ⟨rfl, by omega⟩ wz) (hSW _ hb4) ?_
  simp only [Act.put, List.setIfInBounds_toArray, List.set_cons_zero, List.set_cons_succ]
  have hpk := pick_any O.d.i (W3 + 1) w4 hdi (by omega) (by omega)
  refine callTo 7 (some 35) 8 #[.int .i64 O.d.i, .int .i64 ((W3 + 1 : Nat) : Int)] (by kernel_rfl) rfl rfl (by rfl) (by kernel_rfl) hpk ?_
  rintro e wz ⟨rfl, hz⟩
  obtain rfl : w4 = wz := hz.symm
  refine ⟨_, rfl, hSW _ hb4, ?_⟩
  have hpl := pickN_lt O.d.i (W3 + 1) (by omega)
  obtain ⟨K, hK⟩ : ∃ K, K = pickN O.d.i (W3 + 1) := ⟨_, rfl⟩
  rw [← hK] at hpl ⊢
  simp only [Act.put, List.setIfInBounds_toArray, List.set_cons_zero, List.set_cons_succ]
  have hca := in_cutAt hD hM hI4 (K : Nat) O.d.a O.d.L O.d.C O.d.k (by unfold i64ok; omega) (by omega) hdbA.max hdbA.le (hdbA.below hI4.below (Nat.le_refl _)).at_
  refine callTo 11 (some 39) 30 #[ptr p, .int .i64 (K : Nat), .slice O.d.a O.d.L O.d.C] (by kernel_rfl) rfl rfl (by rfl) (by kernel_rfl) hca ?_
  rintro e w5 ⟨hb5, hI5, pL, cL, FL, rfl, hIL, hgL, hcL⟩
  have hb5' : Below w3.heap.size w3 w5 := hb4.trans (hb5.mono hb4.size)
  refine ⟨_, rfl, hSW _ hb5', ?_⟩
  simp only [Act.put, List.setIfInBounds_toArray, List.set_cons_zero, List.set_cons_succ]
  have hssL : rsame (told dgS (byOf (holds (cutAtD s3 (K : Nat) (keepOf O.d.k O.d.L)))) (64 * (cutAtD s3 (K : Nat) (keepOf O.d.k O.d.L)).n)) ss := by
    have h9 := again_out hlog1 (fun k => hab1.byt.holds _ _) hto3 (K : Nat) (keepOf O.d.k O.d.L)
    have h8 : (cutAtD s3 (K : Nat) (keepOf O.d.k O.d.L)).n = s1.n := hn3
    rw [h8, HSS.out]
    exact h9
  have hop2 := j_openF hD hM hGA hB1 hIL (Able.cutAt hf3 _ _) (by omega) (Nat.zero_le _) hssL hssb
  refine callTo 12 (some 40) 18 #[ptr pL] (by kernel_rfl) rfl rfl (by rfl) (by kernel_rfl) hop2 ?_
  rintro e w6 ⟨k, s6, m6, F6, G6, rfl, hJ6, hf6, hn6, hk6, hl6, hm6, _, ho6, hg6, hG6⟩
  have hbx6 := hbxA.below hJ6.dev.below hbxA.lt
  have hS6 : w6.cell? ⟨w.heap.size, 4, none⟩ = some (.int .i64 O.d.i) ∧ w6.cell? ⟨w.heap.size, 5, none⟩ = some (.slice O.d.a O.d.L O.d.C) := ⟨hbx6.cell 4, hbx6.cell 5⟩
  have hj6 : JnAt w6 j p s3.n ss ss.length G3 := (hJ3.jn.kept hb5'.size (fun q hq => hb5'.block q (hJ3.lt q hq))).kept ho6.size (fun q hq => ho6.block q (Nat.lt_of_lt_of_le (hJ3.lt q hq) hb5'.size) (fun h9 => by
    have h8 := hJ3.lt q hq
    have h7 := hb4.size
    rcases h9 with h9 | h9
    · exact (hgL q h9).elim (fun h6 => hJ3.ap q hq (.inl h6)) (fun h6 => by omega)
    · omega))
  refine ⟨_, rfl, hS6, ?_⟩
  simp only [Act.put, List.setIfInBounds_toArray, List.set_cons_zero, List.set_cons_succ]
  refine takeTo 13 (some 27) (.tuple #[ptr k, .int .i64 0]) rfl rfl (by kernel_rfl) (by kernel_rfl) (by kernel_rfl) (fun _ _ _ h => h) (by rfl) (fun _ _ => rfl) hS6 ?_
  simp only [Act.put, List.setIfInBounds_toArray, List.set_cons_zero, List.set_cons_succ]
  refine takeTo 14 (some 41) (ptr k) rfl rfl (by kernel_rfl) (by kernel_rfl) (by kernel_rfl) (fun _ _ _ h => h) (by rfl) (fun _ _ => rfl) hS6 ?_
  simp only [Act.put, List.setIfInBounds_toArray, List.set_cons_zero, List.set_cons_succ]
  refine takeTo 15 (some 42) (.int .i64 0) rfl rfl (by kernel_rfl) (by kernel_rfl) (by kernel_rfl) (fun _ _ _ h => h) (by rfl) (fun _ _ => rfl) hS6 ?_
  simp only [Act.put, List.setIfInBounds_toArray, List.set_cons_zero, List.set_cons_succ]
  refine takeTo 16 (some 6) (ptr k) rfl rfl (by kernel_rfl) (by kernel_rfl) (by kernel_rfl) (fun _ _ _ h => h) (by rfl) (fun _ _ => rfl) hS6 ?_
  simp only [Act.put, List.setIfInBounds_toArray, List.set_cons_zero, List.set_cons_succ]
  refine takeTo 17 (some 7) (.int .i64 0) rfl rfl (by kernel_rfl) (by kernel_rfl) (by kernel_rfl) (fun _ _ _ h => h) (by rfl) (fun _ _ => rfl) hS6 ?_
  simp only [Act.put, List.setIfInBounds_toArray, List.set_cons_zero, List.set_cons_succ]
  refine wpAnyH_done (by kernel_rfl) ?_ _
  clear hHeld hSW hwr3 hca hop2 hssL hto3
  have hrec := j_records hD hJ6 hf6.n2
  have hjne2 := hjne k
  clear hjne
  go_wp2_with (first
    | ((go_at_call 23)
       (first
         | (have _t := hrec
            refine Calls.mono hrec ?_
            rintro e w7 ⟨hb7, a7, cp7, rfl, hr7⟩
            clear hrec _t
            have hJ7 := hJ6.next hD hb7
            have hj7 := hj6.kept hb7.size (fun q hq => hb7.block q (by obtain ⟨_, _, _, _, _, _, h2⟩ := hj6; exact h2 q hq))
            have hrec2 := j_recordsX hj7 hf3.n2)
         | (have _t := hrec2
            refine Calls.mono hrec2 ?_
            rintro e w8 ⟨hb8, a8, cp8, rfl, hr8⟩
            clear hrec2 _t
            have hJ8 := hJ7.next hD hb8
            have hsm := samer_any (c1 := cp7) (c2 := cp8) (hr7.below hb8 (Nat.le_refl _)) hr8 rfl rfl
            rw [rlikes_refl] at hsm)))
    | ((go_at_call 22)
       (refine hsm.mono ?_)
       (rintro e w9 ⟨rfl, hb9⟩)
       (clear hsm)
       (have hJ9 := hJ8.next hD hb9)))
  go_ret
  exact ⟨rfl, hbA.trans (hJ9.dev.below.mono hbA.size)⟩
end Go.Proofs.YtfgoongfmidpgaaDoor
