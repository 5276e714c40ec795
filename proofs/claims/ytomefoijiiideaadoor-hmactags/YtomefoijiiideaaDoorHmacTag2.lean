/- hmac's Tag and Right; bytes.Equal. -/
import Derived.Test.YtomefoijiiideaaDoorHmacSum
import Derived.Test.YtomefoijiiideaaDoorOctPut
import Derived.Laws.IdiomStrings
import Derived.Test.YtomefoijiiideaaDoorSameAny
namespace Go.Proofs.YtomefoijiiideaaDoor
open Go.ChangeShapes Go.WideShapes Go.ChangeAt Go.RowKit
set_option linter.unusedVariables false

theorem Tryd.size40 : (Tryd.prog.info? 40).map (·.size) = some 16 := by kernel_rfl

/-- Two pieces that lie in a block of its own. -/
theorem parts_two {w : World} {g : Nat} {a1 a2 : Option Addr} {l1 c1 l2 c2 : Nat} {f1 f2 : Nat → Nat} (hc1 : w.cell? ⟨g, 0, none⟩ = some (.slice a1 l1 c1)) (hc2 : w.cell? ⟨g, 1, none⟩ = some (.slice a2 l2 c2)) (hl1 : l1 ≤ c1) (hl2 : l2 ≤ c2) (hb1 : Bytes w a1 l1 f1) (hb2 : Bytes w a2 l2 f2) :
    Parts w (some ⟨g, 0, none⟩) 2 (fun i => if i = 0 then a1 else a2) (fun i => if i = 0 then l1 else l2) (fun i => if i = 0 then c1 else c2) (fun i => if i = 0 then 0 else if i = 1 then l1 else l1 + l2) (cat f1 l1 f2) := by
  have hg : g < w.heap.size := World.block_lt_of_cell? w ⟨g, 0, none⟩ hc1
  intro i hi
  rcases (show i = 0 ∨ i = 1 by omega) with rfl | rfl
  · exact ⟨⟨g, 0, rfl, hg, hc1⟩, hl1, by simp, hb1.congr (fun j hj => by simpa using cat_at f1 f2 l1 j hj)⟩
  · exact ⟨⟨g, 0, rfl, hg, hc2⟩, hl2, by simp, hb2.congr (fun j hj => by simpa using cat_behind f1 f2 l1 j)⟩

theorem wpList_load_sub {ops : Array Oper} {rest : List Oper} {o : Oper} {a : Act} {w : World} {Q : Exit → Act → World → Prop} (hgd : o.guard = none) (ty : TypeId) (x : Operand) (ho : o.op = .load ty x)
    (g : Nat) (hx : a.eval x = .pointer (some ⟨g, 0, none⟩)) (f : Nat → Nat) (n m t : Nat) (hg : Has w g t (cellsN .u8 n f)) (hmn : m ≤ n) {q e : Nat} (hu : Tryd.prog.underlying ty = some (.array q e)) (hi : (Tryd.prog.info? ty).map (·.size) = some m)
    (h : wpList Tryd.prog ops Q rest (a.put o.dst (.agg (cellsN .u8 m f))) w) : wpList Tryd.prog ops Q (o :: rest) a w := by
  refine wpList_load_mid hgd ty x ho g 0 hx (cellsN .u8 m f).toList _ ?_ hu rfl (by simpa [cellsN_size] using hi) (by simpa using h)
  intro j v hv
  rw [Array.getElem?_toList] at hv
  have hj : j < m := by
    have := (Array.getElem?_eq_some_iff.1 hv).1
    simpa [cellsN_size] using this
  rw [cellsN_get _ _ _ _ hj] at hv
  rw [Nat.zero_add, hg.num j (by omega)]
  exact hv

theorem arrayAt_16 (g cap : Nat) (w : World) : (Instr.arrayAt 40 (.slice (some ⟨g, 0, none⟩) 16 cap)).run Tryd.prog w = .ok (.pointer (some ⟨g, 0, none⟩)) w := by
  simp [Instr.arrayAt, run_underlying Tryd.underlying40]

/-- A sector's number, as it is taken. -/
def un (s : Int) : Int := IntKind.u64.wrap s

theorem un_bd (s : Int) : 0 ≤ un s ∧ un s ≤ 18446744073709551615 := by
  unfold un
  simp only [IntKind.wrap, IntKind.bits, IntKind.signed]
  simp
  omega

/-- A sector's tag. -/
def TG (H0 K kf : Nat → Nat) (kl : Nat) (s : Int) (D : Nat → Nat) (dl : Nat) : Nat → Nat := HM H0 K kf kl (cat (nb (un s)) 8 D) (8 + dl)

set_option maxRecDepth 100000 in
set_option maxHeartbeats 1600000 in
theorem tag_any {H0 K kf D : Nat → Nat} {w : World} {ka da : Option Addr} {dl kl : Nat} (kc dc : Nat) (s : Int) (hs : -9223372036854775808 ≤ s ∧ s ≤ 9223372036854775807) (hG : Glob H0 K w) (hH0 : ∀ j, j < 8 → H0 j < 4294967296) (hk : ∀ j, kf j < 256) (hD : ∀ j, D j < 256)
    (hkc : kl ≤ kc) (hkl : kl < 1152921504606846000) (hkb : Bytes w ka kl kf) (hdc : dl ≤ dc) (hn : dl < 1152921504606840000) (hdb : Bytes w da dl D) :
    Calls Tryd.prog 17 #[.slice ka kl kc, .int .i64 s, .slice da dl dc] w fun e w' => e = .returned (.agg (cellsN .u8 16 (TG H0 K kf kl s D dl))) ∧ Below w.heap.size w w' := by
  have hR1 : Has (w.alloc (.cells (cellsN .u8 16 fun _ => 0) 40)) w.heap.size 40 (cellsN .u8 16 fun _ => 0) := Has.new _ _ _
  have hb1 : Below w.heap.size w (w.alloc (.cells (cellsN .u8 16 fun _ => 0) 40)) := (Below.refl _ _).alloc (Nat.le_refl _) _
  obtain ⟨W1, hW1⟩ : ∃ W1, W1 = w.alloc (.cells (cellsN .u8 16 fun _ => 0) 40) := ⟨_, rfl⟩
  have hp := put8 (un s) W1 (un_bd s)
  obtain ⟨u, hu⟩ : ∃ u, u = un s := ⟨_, rfl⟩
  have hwu : IntKind.u64.wrap s = u := hu.symm
  have HU : Hid (u = un s) := hu
  rw [← hu] at hp
  rw [← hW1] at hR1 hb1
  have hsz1 : W1.heap.size = w.heap.size + 1 := by rw [hW1]; simp
  obtain ⟨f, hf⟩ : ∃ f, f = TG H0 K kf kl s D dl := ⟨_, rfl⟩
  have HF : Hid (f = TG H0 K kf kl s D dl) := hf
  have HS : Hid (∀ w' g q c, Below w.heap.size w w' → Glob H0 K w' → w'.cell? ⟨g, 0, none⟩ = some (.slice (some ⟨q, 0, none⟩) 8 8) → w'.cell? ⟨g, 1, none⟩ = some (.slice da dl dc) → Bytes w' (some ⟨q, 0, none⟩) 8 (nb u) → Calls Tryd.prog 28 #[.slice ka kl kc, .slice (some ⟨g, 0, none⟩) 2 c] w' fun e w'' => e = .returned (.agg (cellsN .u8 32 f)) ∧ Below w'.heap.size w' w'') := (by
    intro w' g q c hb' hG' h1 h2 h3
    have hsu := hsums_any (n := 2) (off := fun i => if i = 0 then 0 else if i = 1 then 8 else 8 + dl) kc c hG' hH0 hk (cat_lt (nb u) D 8 (nb_lt u) hD) hkc hkl (hkb.below hb' (Nat.le_refl _)) (by decide) rfl (parts_two h1 h2 (Nat.le_refl _) hdc h3 (hdb.below hb' (Nat.le_refl _)))
      (fun i hi => by rcases (show i = 0 ∨ i = 1 ∨ i = 2 by omega) with rfl | rfl | rfl <;> simp <;> omega)
    rw [hf]
    unfold TG
    rw [← hu]
    exact hsu)
  rw [hW1] at hp hR1 hb1
  clear hf hu hk hD hH0 hkb hdb
  go_enter Tryd.func17, Tryd.ntmps17
  rw [hW1] at hsz1
  go_wp2_with (first
    | ((go_at_call 29)
       (refine hp.mono ?_)
       (rintro e w2 ⟨rfl, hy2, hb2⟩)
       (rw [hsz1] at hy2 hb2)
       (have hR2 := hR1.below hb2 (Nat.lt_succ_self _))
       (have hB2 : Below w.heap.size w w2 := hb1.trans (hb2.mono (Nat.le_succ _)))
       (clear hp hb2))
    | ((go_at_call 28)
       (refine (HS.out (w2.alloc (.cells #[.slice (some ⟨w.heap.size + 3, 0, none⟩) 8 8, .slice da dl dc] 22)) w2.heap.size (w.heap.size + 3) 2 (hB2.alloc hB2.size _) (hG.below (hB2.alloc hB2.size _) hG.1) ((Has.new w2 22 #[.slice (some ⟨w.heap.size + 3, 0, none⟩) 8 8, .slice da dl dc]).cell 0) ((Has.new w2 22 #[.slice (some ⟨w.heap.size + 3, 0, none⟩) 8 8, .slice da dl dc]).cell 1) (hy2.below ((Below.refl w2.heap.size w2).alloc (Nat.le_refl _) _) (Nat.le_refl _))).mono ?_)
       (rintro e w4 ⟨rfl, hb4⟩)
       (have hb4' : Below w2.heap.size w2 w4 := ((Below.refl w2.heap.size w2).alloc (Nat.le_refl _) _).trans (hb4.mono (by simp)))
       (have hR4 := hR2.below hb4' hR2.lt)
       (have hB4 : Below w.heap.size w w4 := hB2.trans (hb4'.mono hB2.size))
       (have hn4 : Has (w4.alloc (.cells (cellsN .u8 32 fun _ => 0) 23)) w4.heap.size 23 (cellsN .u8 32 fun _ => 0) := Has.new _ _ _)
       (clear hb4 hb4' hy2))
    | ((refine wpList_store_rowG rfl 23 _ _ rfl (w4.heap.size) (cellsN .u8 32 f) rfl rfl 23 _ hn4 (by rw [cellsN_size]; exact Tryd.size23) (by simp [cellsN_size]) (cellsN_one _ _ _) ?_)
       (intro w5 hw5)
       (have hA5 : Has w5 w4.heap.size 23 (cellsN .u8 32 f) := (by rw [hw5]; exact hn4.setRow _))
       (have hR5 : Has w5 w.heap.size 40 (cellsN .u8 16 fun _ => 0) := (by rw [hw5]; exact (hR4.alloc _).setRow_other (by have := hR4.lt; omega) _))
       (have hB5 : Below w.heap.size w w5 := (by rw [hw5]; exact below_setRow (hB4.alloc hB4.size _) hB4.size _))
       (have hat := arrayAt_16 w4.heap.size 32 w5)
       (clear hw5 hn4))
    | (refine wpList_load_sub rfl 40 _ rfl w4.heap.size rfl f 32 16 23 hA5 (by decide) Tryd.underlying40 Tryd.size40 ?_)
    | ((refine wpList_store_rowG rfl 40 _ _ rfl (w.heap.size) (cellsN .u8 16 f) rfl rfl 40 _ hR5 (by rw [cellsN_size]; exact Tryd.size40) (by simp [cellsN_size]) (cellsN_one _ _ _) ?_)
       (intro w6 hw6)
       (have hR6 : Has w6 w.heap.size 40 (cellsN .u8 16 f) := (by rw [hw6]; exact hR5.setRow _))
       (have hB6 : Below w.heap.size w w6 := (by rw [hw6]; exact below_setRow hB5 (Nat.le_refl _) _))
       (clear hw6)))
  exact bodyPost_ret (results_cell_row rfl _ _ (w.heap.size) 40 _ (0, 0) _ rfl hR6 Tryd.underlying40 rfl (by rw [cellsN_size]; exact Tryd.size40)) rfl ⟨by rw [HF.out], hB6⟩

theorem equal_any {w : World} {a1 a2 : Option Addr} {l1 l2 : Nat} {f g : Nat → Nat} (c1 c2 : Nat) (h1 : Bytes w a1 l1 f) (h2 : Bytes w a2 l2 g) (hf : ∀ j, f j < 256) (hg : ∀ j, g j < 256) (n1 : a1 = none → l1 = 0) (n2 : a2 = none → l2 = 0) :
    Calls Tryd.prog 31 #[.slice a1 l1 c1, .slice a2 l2 c2] w fun e w' => e = .returned (.bool (strN f l1 == strN g l2)) ∧ w' = w := by
  have k1 := conv_bytesN c1 h1 hf n1
  have k2 := conv_bytesN c2 h2 hg n2
  clear h1 h2 n1 n2 hf hg
  go_enter Tryd.func31, Tryd.ntmps31
  go_wp2
  go_ret
  exact ⟨rfl, rfl⟩

theorem TG_lt (H0 K kf : Nat → Nat) (kl : Nat) (s : Int) (D : Nat → Nat) (dl j : Nat) : TG H0 K kf kl s D dl j < 256 := by
  unfold TG
  rw [HM_eq]
  exact SHA_lt' _ _ _ _ _

set_option maxRecDepth 100000 in
theorem right_tag {H0 K kf D G : Nat → Nat} {w : World} {ka da ta : Option Addr} {dl kl tl : Nat} (kc dc tc : Nat) (s : Int) (hs : -9223372036854775808 ≤ s ∧ s ≤ 9223372036854775807) (hG : Glob H0 K w) (hH0 : ∀ j, j < 8 → H0 j < 4294967296) (hk : ∀ j, kf j < 256) (hD : ∀ j, D j < 256) (hT : ∀ j, G j < 256)
    (hkc : kl ≤ kc) (hkl : kl < 1152921504606846000) (hkb : Bytes w ka kl kf) (hdc : dl ≤ dc) (hn : dl < 1152921504606840000) (hdb : Bytes w da dl D) (htb : Bytes w ta tl G) (htn : ta = none → tl = 0) :
    Calls Tryd.prog 19 #[.slice ka kl kc, .int .i64 s, .slice da dl dc, .slice ta tl tc] w fun e w' => e = .returned (.bool (strN G tl == strN (TG H0 K kf kl s D dl) 16)) ∧ Below w.heap.size w w' := by
  have htg := tag_any kc dc s hs hG hH0 hk hD hkc hkl hkb hdc hn hdb
  obtain ⟨f, hf⟩ : ∃ f, f = TG H0 K kf kl s D dl := ⟨_, rfl⟩
  have hfl : ∀ j, f j < 256 := fun j => by rw [hf]; exact TG_lt _ _ _ _ _ _ _ _
  have HF : Hid (f = TG H0 K kf kl s D dl) := hf
  rw [← hf] at htg
  have HE : Hid (∀ (w' : World) (g : Nat), Below w.heap.size w w' → Has w' g 40 (cellsN .u8 16 f) → Calls Tryd.prog 31 #[.slice ta tl tc, .slice (some ⟨g, 0, none⟩) 16 16] w' fun e w'' => e = .returned (.bool (strN G tl == strN f 16)) ∧ w'' = w') := fun w' g hb' hh =>
    equal_any tc 16 (htb.below hb' (Nat.le_refl _)) (.inr ⟨g, 0, rfl, hh.lt, fun j hj => by rw [Nat.zero_add]; exact hh.num j hj⟩) hT hfl htn (fun e => by cases e)
  clear hf hfl hk hD hT hH0 hkb hdb htb htn
  go_enter Tryd.func19, Tryd.ntmps19
  go_wp2_with (first
    | ((go_at_call 17)
       (refine htg.mono ?_)
       (rintro e w4 ⟨rfl, hB4⟩)
       (have hn4 : Has (w4.alloc (.cells (cellsN .u8 16 fun _ => 0) 40)) w4.heap.size 40 (cellsN .u8 16 fun _ => 0) := Has.new _ _ _)
       (clear htg))
    | ((refine wpList_store_rowG rfl 40 _ _ rfl (w4.heap.size) (cellsN .u8 16 f) rfl rfl 40 _ hn4 (by rw [cellsN_size]; exact Tryd.size40) (by simp [cellsN_size]) (cellsN_one _ _ _) ?_)
       (intro w5 hw5)
       (have hA5 : Has w5 w4.heap.size 40 (cellsN .u8 16 f) := (by rw [hw5]; exact hn4.setRow _))
       (have hB5 : Below w.heap.size w w5 := (by rw [hw5]; exact below_setRow (hB4.alloc hB4.size _) hB4.size _))
       (have he := HE.out w5 w4.heap.size hB5 hA5)
       (clear hw5 hn4))
    | ((go_at_call 31)
       (refine he.mono ?_)
       (rintro e w6 ⟨rfl, rfl⟩)
       (clear he)))
  go_ret
  exact ⟨by rw [← HF.out]; rfl, hB5⟩
end Go.Proofs.YtomefoijiiideaaDoor
