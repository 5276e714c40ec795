/- cache: the laws' alive. -/
import Derived.Test.YtancebpjfbbcaaaCcState
namespace Go.Proofs.Ytancebpjfbbcaaa
open Go.ChangeShapes Go.WideShapes Go.ChangeAt Go.RowKit Go.MapKept
set_option linter.unusedVariables false

variable {D : DevRep} {B : Nat} {w0 w w' : World} {cb : Nat} {P : Nat → Nat} {S : Nat → DS} {M : Nat → Nat} {l : List Wr} {L : List (List Wr)} {H : Nat → Prop}

/-- A block of the law's own. -/
def Off1 (H : Nat → Prop) (w : World) (g : Nat) : Prop := ¬ H g ∧ g < w.heap.size

theorem Off1.below {g : Nat} (h : Off1 H w g) (hb : Below w.heap.size w w') : Off1 H w' g ∧ w'.heap[g]? = w.heap[g]? := ⟨⟨h.1, Nat.lt_of_lt_of_le h.2 hb.size⟩, hb.block g h.2⟩

theorem Off1.step {g : Nat} (h : Off1 H w g) {H' : Nat → Prop} (ho : Only H w w') (hg : Grew w H H') : Off1 H' w' g ∧ w'.heap[g]? = w.heap[g]? := ⟨⟨fun e => (hg g e).elim h.1 (fun e2 => absurd h.2 (Nat.not_lt.2 e2)), Nat.lt_of_lt_of_le h.2 ho.size⟩, ho.block g h.2 h.1⟩

theorem cell_same {g j : Nat} (h : w'.heap[g]? = w.heap[g]?) : w'.cell? ⟨g, j, none⟩ = w.cell? ⟨g, j, none⟩ := World.cell?_of_block h

def zf : Nat → Nat := fun _ => 0

set_option maxRecDepth 100000 in
set_option maxHeartbeats 2000000 in
theorem alive17_c (hD : DevOk D) (hZ : DevSz D) (w : World) : Calls Try.prog 8 #[] w fun e w' => e = .returned (.bool true) ∧ Below w.heap.size w w' := by
  have HMD := hidC (cs_made hD w)
  have HE0 := hidC (show cwErr (fun _ => fresh 6) 1 2 64 = 0 by decide)
  have HE1 := hidC (show cwErr (fun _ => fresh 6) 1 2 63 = 1 by decide)
  have hn := fun cb => pc_some cb
  go_enter Try.func8, Try.ntmps8
  go_wp2_with (first
    | ((go_at_call 7)
       (refine HMD.out.mono ?_)
       (rintro e w1 ⟨hb1, gl, cl, cb, P, H, rfl, hC1, hg1, hgB, hgl, hcl⟩)
       (have q1 := hcl 1 (by decide))
       (clear hcl)
       (have hO1 : Off1 H w1 gl := ⟨hg1, hgl⟩)
       (have hnn := hn cb)
       (clear hn hg1))
    | ((with_reducible refine at_dstC 17 rfl ?_)
       (obtain ⟨W2, hH2, hb2, hr2⟩ := make_has 64 (by decide) w1)
       (refine wpList_is_w (some 17) (.slice (some ⟨w1.heap.size, 0, none⟩) 64 64) W2 rfl (by rfl) (hr2 _ _ _ _ rfl rfl rfl) ?_)
       (obtain ⟨hO2, e2⟩ := hO1.below hb2)
       (have q2 := (cell_same (j := 1) e2).trans q1)
       (have hC2 := hC1.next hD hb2)
       (have HW := hidC (cs_write hD hZ hC2 1 2 (a := some ⟨w1.heap.size, 0, none⟩) (n := 64) (cap := 64) (b := zf) hH2.bytes (fun e => by cases e) (fun _ => (by show 0 < 256; decide)) (Nat.zero_le _)))
       (rw [HE0.out, if_pos rfl] at HW)
       (clear hO1 hC1 q1 e2 hr2 hH2))
    | ((go_at_call 10)
       (refine HW.out.mono ?_)
       (rintro e w3 ⟨rfl, ho3, H3, hg3, hC3⟩)
       (obtain ⟨hO3, e3⟩ := hO2.step ho3 hg3)
       (have q3 := (cell_same (j := 1) e3).trans q2)
       (clear HW hO2 q2 e3 ho3 hg3 hC2))
    | ((with_reducible refine at_dstC 23 rfl ?_)
       (obtain ⟨W4, hH4, hb4, hr4⟩ := make_has 63 (by decide) w3)
       (refine wpList_is_w (some 23) (.slice (some ⟨w3.heap.size, 0, none⟩) 63 63) W4 rfl (by rfl) (hr4 _ _ _ _ rfl rfl rfl) ?_)
       (obtain ⟨hO4, e4⟩ := hO3.below hb4)
       (have q4 := (cell_same (j := 1) e4).trans q3)
       (have hC4 := hC3.next hD hb4)
       (have HX := hidC (cs_write hD hZ hC4 1 2 (a := some ⟨w3.heap.size, 0, none⟩) (n := 63) (cap := 63) (b := zf) hH4.bytes (fun e => by cases e) (fun _ => (by show 0 < 256; decide)) (by decide)))
       (rw [HE1.out, if_neg (by decide)] at HX)
       (clear hO3 hC3 q3 e4 hr4 hH4))
    | ((go_at_call 10)
       (refine HX.out.mono ?_)
       (rintro e w5 ⟨rfl, ho5, H5, hg5, hC5⟩)
       (obtain ⟨hO5, e5⟩ := hO4.step ho5 hg5)
       (have q5 := (cell_same (j := 1) e5).trans q4)
       (have HK := hidC (cs_keep hD hC5 (Nat.zero_le _)))
       (clear HX hO4 q4 e5 ho5 hg5 hC4))
    | ((go_at_call 15)
       (refine HK.out.mono ?_)
       (rintro e w6 ⟨rfl, ho6, H6, hg6, hC6⟩)
       (obtain ⟨hO6, e6⟩ := hO5.step ho6 hg6)
       (have q6 := (cell_same (j := 1) e6).trans q5)
       (have HC := hidC (cs_count hD hC6 (by decide) (by decide)))
       (clear HK hO5 q5 e6 ho6 hg6 hC5))
    | ((go_at_call 32)
       (refine HC.out.mono ?_)
       (rintro e w7 ⟨rfl, hb7⟩)
       (obtain ⟨hO7, e7⟩ := hO6.below hb7)
       (have q7 := (cell_same (j := 1) e7).trans q6)
       (have hC7 := hC6.next hD hb7)
       (have HA := hidC (cs_apply hD hC7 (fun i hi => ⟨by decide, by decide⟩) (by decide) (by decide)))
       (clear HC hO6 q6 e7 hC6))
    | ((go_at_call 19)
       (refine HA.out.mono ?_)
       (rintro e w8 ⟨rfl, ho8, H8, hg8, hC8⟩)
       (obtain ⟨hO8, e8⟩ := hO7.step ho8 hg8)
       (have q8 := (cell_same (j := 1) e8).trans q7)
       (have HD := hidC (cs_count hD hC8 (by decide) (by decide)))
       (clear HA hO7 q7 e8 ho8 hg8 hC7))
    | ((go_at_call 32)
       (refine HD.out.mono ?_)
       (rintro e w9 ⟨rfl, hb9⟩)
       (obtain ⟨hO9, e9⟩ := hO8.below hb9)
       (have q9 := (cell_same (j := 1) e9).trans q8)
       (have hC9 := hC8.next hD hb9)
       (have HWR := hidC (cs_writes hD hC9 (i := 1) (by decide) (by decide)))
       (clear HD hO8 q8 e9 hC8))
    | ((go_at_call 38)
       (refine HWR.out.mono ?_)
       (rintro e wa ⟨rfl, hba⟩)))
  have HWS := hidC (show wrs (apD (fun _ => fresh 6) (fun _ => 0) [putE [] 1 2 zf] 1).log = 1 from rfl)
  have HB := hidC (hC9.below.trans (hba.mono hC9.sz))
  go_ret
  refine ⟨?_, HB.out⟩
  show Ending.returned (Value.bool (((wrs (apD (fun _ => fresh 6) (fun _ => 0) [putE [] 1 2 zf] 1).log : Nat) : Int) == 1)) = _
  rw [HWS.out]
  rfl
end Go.Proofs.Ytancebpjfbbcaaa
