/- The walk of HmacOwn: a tag is its own. -/
import Derived.Test.YtpamaknclfolhaaDoorTPartsWalk
namespace Go.Proofs.YtpamaknclfolhaaDoor
open Go.ChangeShapes Go.WideShapes Go.ChangeAt Go.RowKit
set_option linter.unusedVariables false

theorem strN_len (f : Nat → Nat) (n : Nat) : (strN f n).length = n := by simp [strN]

theorem strN_other (f g : Nat → Nat) (n m : Nat) (h : n ≠ m) : (strN f n == strN g m) = false := by
  rw [beq_eq_false_iff_ne]
  intro e
  have := congrArg List.length e
  rw [strN_len, strN_len] at this
  exact h this

theorem strN_congr (f g : Nat → Nat) (n : Nat) (h : ∀ j, j < n → f j = g j) : (strN f n == strN g n) = true := by
  rw [beq_iff_eq]
  unfold strN
  apply List.map_congr_left
  intro j hj
  rw [h j (by simpa using hj)]

theorem strN_differ (f g : Nat → Nat) (n q : Nat) (hq : q < n) (hf : f q < 256) (hg : g q < 256) (h : f q ≠ g q) : (strN f n == strN g n) = false := by
  rw [beq_eq_false_iff_ne]
  intro e
  have e1 := congrArg (fun l : List UInt8 => l[q]?) e
  simp only [strN, List.getElem?_map, List.getElem?_range hq, Option.map_some, Option.some.injEq] at e1
  have e2 := congrArg UInt8.toNat e1
  simp at e2
  omega

theorem xor_ne {a b : Nat} (hb : b ≠ 0) : a ^^^ b ≠ a := by
  intro e
  have : a ^^^ (a ^^^ b) = a ^^^ a := by rw [e]
  rw [← Nat.xor_assoc, Nat.xor_self, Nat.zero_xor] at this
  exact hb this

theorem Bytes.grown {w w' : World} {a : Option Addr} {n : Nat} {f : Nat → Nat} {r : Option Nat} (h : Bytes w a n f) (gr : w.grownBy w' r) (hne : ∀ b off, a = some ⟨b, off, none⟩ → some b ≠ r) : Bytes w' a n f := by
  rcases h with h | ⟨b, off, h1, h2, h3⟩
  · exact .inl h
  · exact .inr ⟨b, off, h1, Nat.lt_of_lt_of_le h2 gr.size, fun j hj => (World.cell?_of_block (w := w) (a := ⟨b, off + j, none⟩) (gr.block b h2 (hne b off h1))).trans (h3 j hj)⟩

/-- One byte in a block of its own. -/
theorem one_byte (w : World) (b : Nat) : Bytes (w.alloc (.cells #[.int .u8 (b : Nat)] 5)) (some ⟨w.heap.size, 0, none⟩) 1 (fun _ => b) :=
  .inr ⟨w.heap.size, 0, rfl, by simp, fun j hj => by obtain rfl : j = 0 := (by omega); exact (Has.new w 5 #[.int .u8 (b : Nat)]).cell 0⟩

theorem run_store_cell {o : Oper} {a : Act} (x y : Operand) (ho : o.op = .store 5 x y) (p : Addr) (hx : a.eval x = .pointer (some p)) (k : IntKind) (n : Int) (hy : a.eval y = .int k n) (u : Value) (w : World) (hc : w.cell? p = some u) (hf : w.frozen? p = false) : (execOp a.eval o).run Tryd.prog w = .ok .skip (w.setCell p (.int k n)) := by
  unfold execOp
  simp only [ho, hx, hy]
  go_simp

theorem wpList_store_cellG {ops : Array Oper} {rest : List Oper} {o : Oper} {a : Act} {w : World} {Q : Exit → Act → World → Prop} (hgd : o.guard = none) (x y : Operand) (ho : o.op = .store 5 x y) (p : Addr) (hx : a.eval x = .pointer (some p)) (k : IntKind) (n : Int) (hy : a.eval y = .int k n) (u : Value) (hc : w.cell? p = some u) (hf : w.frozen? p = false)
    (h : ∀ w2, w2 = w.setCell p (.int k n) → wpList Tryd.prog ops Q rest (a.put o.dst undef) w2) : wpList Tryd.prog ops Q (o :: rest) a w := by
  refine wpList_plain hgd fun K hK => ?_
  have hrun := run_store_cell (o := o) (a := a) x y ho p hx k n hy u w hc hf
  unfold Oper.wp
  rw [hrun]
  exact hK _ _ (h _ rfl)

/-- The law's own facts, of every world behind its beginning: Right of the four tags. -/
def Rights (w : World) (a0 : Option Addr) (l0 c0 : Nat) (s : Int) (a1 : Option Addr) (l1 c1 : Nat) (f : Nat → Nat) : Prop :=
  ∀ (w' : World) (ta : Option Addr) (tl tc : Nat) (G : Nat → Nat) (r : Bool), Below w.heap.size w w' → (∀ j, G j < 256) → Bytes w' ta tl G → (ta = none → tl = 0) → (strN G tl == strN f 16) = r →
    Calls Tryd.prog 14 #[.slice a0 l0 c0, .int .i64 s, .slice a1 l1 c1, .slice ta tl tc] w' fun e w'' => e = .returned (.bool r) ∧ Below w'.heap.size w' w''

set_option maxRecDepth 100000 in
set_option maxHeartbeats 6400000 in
theorem own_walk (a0 : Option Addr) (l0 c0 : Nat) (kf : Nat → Nat) (s : Int) (a1 : Option Addr) (l1 c1 : Nat) (D : Nat → Nat) (v2 : Value) (at_ by_ : Int) (w : World) (hG : Glob Hc Kc w) (hk : ∀ j, kf j < 256) (hD : ∀ j, D j < 256)
    (hl0 : l0 ≤ c0) (hc0 : c0 ≤ 140737488351232) (b0 : Bytes w a0 l0 kf) (hl1 : l1 ≤ c1) (hc1 : c1 ≤ 140737488351232) (b1 : Bytes w a1 l1 D) (hs : -9223372036854775808 ≤ s ∧ s ≤ 9223372036854775807)
    (hat : -9223372036854775808 ≤ at_ ∧ at_ ≤ 9223372036854775807) (hby : 0 ≤ by_ ∧ by_ ≤ 255) :
    Calls Tryd.prog 5 #[.agg #[.slice a0 l0 c0, .int .i64 s, .slice a1 l1 c1, v2], .int .i64 at_, .int .u8 by_] w fun e w' => e = .returned (.bool true) ∧ Below w.heap.size w w' := by
  obtain ⟨b, rfl⟩ : ∃ b : Nat, by_ = (b : Int) := ⟨by_.toNat, by omega⟩
  have hb8 : b < 256 := by omega
  have hbb := hb8
  obtain ⟨f, hf⟩ : ∃ f, f = TG Hc Kc kf l0 s D l1 := ⟨_, rfl⟩
  have hfl : ∀ j, f j < 256 := fun j => by rw [hf]; exact TG_lt _ _ _ _ _ _ _ _
  have HTAG : Hid (∀ w', Below w.heap.size w w' → Calls Tryd.prog 12 #[.slice a0 l0 c0, .int .i64 s, .slice a1 l1 c1] w' fun e w'' => e = .returned (.agg (cellsN .u8 16 f)) ∧ Below w'.heap.size w' w'') := (by
    intro w' hb'
    rw [hf]
    exact tag_any c0 c1 s hs (hG.below hb' hG.1) Hc_lt hk hD hl0 (by omega) (b0.below hb' (Nat.le_refl _)) hl1 (by omega) (b1.below hb' (Nat.le_refl _)))
  have HR : Hid (Rights w a0 l0 c0 s a1 l1 c1 f) := (by
    intro w' ta tl tc G r hb' hGl hBy hn hr
    rw [hf] at hr
    rw [← hr]
    exact right_tag c0 c1 tc s hs (hG.below hb' hG.1) Hc_lt hk hD hGl hl0 (by omega) (b0.below hb' (Nat.le_refl _)) hl1 (by omega) (b1.below hb' (Nat.le_refl _)) hBy hn)
  obtain ⟨TX, hTX⟩ : ∃ TX : Array Value, TX = #[.slice a0 l0 c0, .int .i64 s, .slice a1 l1 c1, v2] := ⟨_, rfl⟩
  have HX : Hid (∀ w', Has w' w.heap.size 28 TX → w'.cell? ⟨w.heap.size, 0, none⟩ = some (.slice a0 l0 c0) ∧ w'.cell? ⟨w.heap.size, 1, none⟩ = some (.int .i64 s) ∧ w'.cell? ⟨w.heap.size, 2, none⟩ = some (.slice a1 l1 c1)) := (by
    intro w' h
    rw [h.cell, h.cell, h.cell, hTX]; exact ⟨rfl, rfl, rfl⟩)
  have h1 : Has (w.alloc (.cells #[.slice a0 l0 c0, .int .i64 s, .slice a1 l1 c1, v2] 28)) w.heap.size 28 TX := by rw [hTX]; exact Has.new _ _ _
  have hb1 : Below w.heap.size w (w.alloc (.cells #[.slice a0 l0 c0, .int .i64 s, .slice a1 l1 c1, v2] 28)) := (Below.refl _ _).alloc (Nat.le_refl _) _
  have ht1 := HTAG.out _ hb1
  obtain ⟨p, hp1, hp2, hp3⟩ : ∃ p : Nat, p ≤ 9223372036854775807 ∧ (0 ≤ at_ → at_ = (p : Int)) ∧ (at_ < 0 → -(at_ + 1) = (p : Int)) := by
    by_cases h : 0 ≤ at_
    · exact ⟨at_.toNat, by omega, fun _ => by omega, fun _ => by omega⟩
    · exact ⟨(-(at_ + 1)).toNat, by omega, fun _ => by omega, fun _ => by omega⟩
  obtain ⟨q, hq⟩ : ∃ q, p % 16 = q := ⟨_, rfl⟩
  have hq16 : q < 16 := by omega
  obtain ⟨ch, hch⟩ : ∃ ch : Bool, ch = decide (b = 0) := ⟨_, rfl⟩
  have hG2 : ∀ j, upd f q (f q ^^^ b) j < 256 := fun j => by
    unfold upd
    split
    · exact xor_lt8 (hfl q) hb8
    · exact hfl j
  have hstr : (strN (upd f q (f q ^^^ b)) 16 == strN f 16) = ch := by
    rw [hch]
    by_cases hb0 : b = 0
    · rw [decide_eq_true hb0]
      refine strN_congr _ _ _ (fun j _ => ?_)
      unfold upd
      split
      · next h => subst h; rw [hb0, Nat.xor_zero]
      · rfl
    · rw [decide_eq_false hb0]
      refine strN_differ _ _ 16 q hq16 (hG2 q) (hfl q) ?_
      unfold upd
      rw [if_pos rfl]
      exact xor_ne hb0
  have HFL : Hid _ := hfl
  have HG2 : Hid _ := hG2
  have HST : Hid _ := hstr
  have hxo := u8_xor_nat (f q) b (hfl q) hb8
  clear hf hk hD hfl hG2 hstr b0 b1 hTX
  go_enter Tryd.func5, Tryd.ntmps5
  by_cases hneg : at_ < 0
  · have hw1 : IntKind.i64.wrap (at_ + 1) = at_ + 1 := by rw [IntKind.wrap_i64]; omega
    have hw2 : IntKind.i64.wrap (-(at_ + 1)) = -(at_ + 1) := by rw [IntKind.wrap_i64]; omega
    have hpe := hp3 hneg
    rw [hpe] at hw2
    have x1 := HX.out _ h1
    have x10 := x1.1
    have x11 := x1.2.1
    have x12 := x1.2.2
    clear x1
    go_wp2_with (first
    | ((go_at_call 12)
       (refine ht1.mono ?_)
       (rintro e w2 ⟨rfl, hb2⟩)
       (have h2 := h1.below hb2 h1.lt)
       (have hB2 : Below w.heap.size w w2 := hb1.trans (hb2.mono hb1.size))
       (have hn2 : Has (w2.alloc (.cells (cellsN .u8 16 fun _ => 0) 29)) w2.heap.size 29 (cellsN .u8 16 fun _ => 0) := Has.new _ _ _)
       (clear ht1 x10 x11 x12 h1 hb1 hb2))
    | ((refine wpList_store_rowG rfl 29 _ _ rfl (w2.heap.size) (cellsN .u8 16 f) rfl rfl 29 _ hn2 (by rw [cellsN_size]; exact Tryd.size29) (by simp [cellsN_size]) (cellsN_one _ _ _) ?_)
       (intro w3 hw3)
       (have hT3 : Has w3 w2.heap.size 29 (cellsN .u8 16 f) := (by rw [hw3]; exact hn2.setRow _))
       (have h3 : Has w3 w.heap.size 28 TX := (by rw [hw3]; exact (h2.alloc _).setRow_other (by have := h2.lt; omega) _))
       (have hB3 : Below w.heap.size w w3 := (by rw [hw3]; exact below_setRow (hB2.alloc hB2.size _) hB2.size _))
       (have own3 := World.ownsRow_lit (base := w3.heap.size) (e := 5) (size := 1) w3 #[] 0 (Nat.le_refl _) (by unfold maxLen; omega) rfl)
       (have hb4 : Below w3.heap.size w3 (w3.alloc (.cells #[] 5)) := (Below.refl _ _).alloc (Nat.le_refl _) _)
       (have by3 := (has_bytes hT3 16 (Nat.le_refl _)).below hb4 (Nat.le_refl _))
       (clear hw3 hn2 h2 hB2))
    | ((at_builtin)
       (refine wpList_append_bytes rfl _ _ rfl w3.heap.size _ 0 (fun _ => 0) rfl own3 (some ⟨w2.heap.size, 0, none⟩) 16 16 f rfl (fun e => by cases e) by3 (by omega) (by simp) ?_)
       (intro v5 w5 own5 gr5)
       (rw [Nat.zero_add, cat_zero] at own5)
       (have hb5 : Below w3.heap.size w3 w5 := hb4.grown gr5 (by simp) (fun k' h => (own3.lt k' h).1))
       (have h5 := h3.below hb5 h3.lt)
       (have hT5 := hT3.below hb5 hT3.lt)
       (have hB5 : Below w.heap.size w w5 := hB3.trans (hb5.mono hB3.size))
       (obtain ⟨a5, c5, rfl, hc5, _, by5, hs5⟩ := own_bytes own5)
       (have x1 := HX.out _ h5)
       (have x10 := x1.1)
       (have x11 := x1.2.1)
       (have x12 := x1.2.2)
       (have hr5 := HR.out w5 a5 16 c5 f true hB5 HFL.out by5 (fun e => by rcases by5 with h | ⟨_, _, h, _⟩ <;> simp_all) (strN_congr _ _ _ (fun _ _ => rfl)))
       (have hT3l := hT3.lt)
       (have h3l := h3.lt)
       (clear x1 own3 by3 gr5 hb4 by5 h3 hT3))
    | ((go_at_call 14)
       (have _t := hr5)
       (refine hr5.mono ?_)
       (rintro e w6 ⟨rfl, hb6⟩)
       (have own6 := own_below own5 hb6 (fun g hg => (own5.lt g hg).2))
       (have h6 := h5.below hb6 h5.lt)
       (have hT6 := hT5.below hb6 hT5.lt)
       (have hB6 : Below w.heap.size w w6 := hB5.trans (hb6.mono hB5.size))
       (have hl6 : w3.heap.size ≤ w6.heap.size := Nat.le_trans hb5.size hb6.size)
       (have hst6 : w2.heap.size < w3.heap.size := hT3l)
       (obtain ⟨g5, rfl⟩ : ∃ g5, a5 = some ⟨g5, 0, none⟩ := (by
          rcases own6.2 with ⟨h0, h00⟩ | ⟨g, cp, cur, hv, hbg, hgg, _⟩
          · omega
          · simp only [Value.slice.injEq] at hv
            exact ⟨g, hv.1⟩))
       (have hg5 : w3.heap.size ≤ g5 := (hs5 g5 0 rfl).1)
       (have hce : w6.cell? ⟨g5, q, none⟩ = some (.int .u8 (f q : Nat)) := (by rw [own6.cellAt q (by omega)]; exact bl_get f 16 q hq16))
       (have hfz := own6.frozenAt q)
       (clear hr5 _t own5 h5 hT5 hB5 x10 x11 x12 hb6))
    | ((refine wpList_store_cellG rfl (.tmp 46) (.tmp 45) rfl ⟨g5, q, none⟩ (by rw [← hq]; rfl) .u8 ((f q ^^^ b : Nat) : Int) rfl _ hce hfz ?_)
       (intro w7 hw7)
       (have own7 : w7.ownsRow w3.heap.size 5 1 (.slice (some ⟨g5, 0, none⟩) 16 c5) 16 (bl (upd f q (f q ^^^ b)) 16) := (by rw [hw7, ← bl_set]; exact (own6.stored q _).1))
       (have h7 : Has w7 w.heap.size 28 TX := (by rw [hw7]; exact h6.other (by show w.heap.size ≠ g5; omega) _))
       (have hT7 : Has w7 w2.heap.size 29 (cellsN .u8 16 f) := (by rw [hw7]; exact hT6.other (by show w2.heap.size ≠ g5; omega) _))
       (have hB7 : Below w.heap.size w w7 := (by rw [hw7]; exact hB6.setCell (by show w.heap.size ≤ g5; omega) _))
       (have x1 := HX.out _ h7)
       (have x10 := x1.1)
       (have x11 := x1.2.1)
       (have x12 := x1.2.2)
       (obtain ⟨a7, c7, e7, _, _, by7, _⟩ := own_bytes own7)
       (obtain ⟨rfl, _, rfl⟩ := (Value.slice.injEq _ _ _ _ _ _).mp e7)
       (have hr7 := HR.out w7 (some ⟨g5, 0, none⟩) 16 c5 (upd f q (f q ^^^ b)) ch hB7 HG2.out by7 (fun e => by cases e) HST.out)
       (clear hw7 own6 own7 x1 e7 by7 hce hfz hxo h6 hT6 hB6))
    | ((go_at_call 14)
       (refine hr7.mono ?_)
       (rintro e w8 ⟨rfl, hb8⟩)
       (have h8 := h7.below hb8 h7.lt)
       (have hT8 := hT7.below hb8 hT7.lt)
       (have hB8 : Below w.heap.size w w8 := hB7.trans (hb8.mono hB7.size))
       (clear hr7 h7 hT7 hB7 x10 x11 x12 hb8)))
    have h8d : Has w8.drew w.heap.size 28 TX := h8
    have hT8d : Has w8.drew w2.heap.size 29 (cellsN .u8 16 f) := hT8
    have hB8d : Below w.heap.size w w8.drew := hB8.drew
    have hr8 := HR.out w8.drew (some ⟨w2.heap.size, 0, none⟩) 15 16 f false hB8d HFL.out (has_bytes hT8d 15 (by decide)) (fun e => by cases e) (strN_other _ _ 15 16 (by decide))
    refine wp_region_held_drew (S := fun w' => Has w' w.heap.size 28 TX) (by kernel_rfl) h8d (fun hHeld => ?_)
    refine takeTo 0 (some 55) (.pointer (some ⟨w.heap.size, 0, none⟩)) rfl rfl (by kernel_rfl) (by kernel_rfl) (by kernel_rfl) (fun _ _ _ h => h) (by rfl) (fun _ _ => by kernel_rfl) hHeld ?_
    simp only [Act.put, List.setIfInBounds_toArray, List.set_cons_zero, List.set_cons_succ]
    refine takeTo 1 (some 56) (.slice a0 l0 c0) rfl rfl (by kernel_rfl) (by kernel_rfl) (by kernel_rfl) (fun _ _ _ h => h) (by rfl) (fun wz hz => run_load_slice (.tmp 55) rfl ⟨w.heap.size, 0, none⟩ rfl _ wz (HX.out wz hz).1) hHeld ?_
    simp only [Act.put, List.setIfInBounds_toArray, List.set_cons_zero, List.set_cons_succ]
    refine takeTo 2 (some 57) (.pointer (some ⟨w.heap.size, 1, none⟩)) rfl rfl (by kernel_rfl) (by kernel_rfl) (by kernel_rfl) (fun _ _ _ h => h) (by rfl) (fun _ _ => by kernel_rfl) hHeld ?_
    simp only [Act.put, List.setIfInBounds_toArray, List.set_cons_zero, List.set_cons_succ]
    refine takeTo 3 (some 58) (.int .i64 s) rfl rfl (by kernel_rfl) (by kernel_rfl) (by kernel_rfl) (fun _ _ _ h => h) (by rfl) (fun wz hz => run_load_int (.tmp 57) rfl ⟨w.heap.size, 1, none⟩ rfl _ wz (HX.out wz hz).2.1) hHeld ?_
    simp only [Act.put, List.setIfInBounds_toArray, List.set_cons_zero, List.set_cons_succ]
    refine takeTo 4 (some 59) (.pointer (some ⟨w.heap.size, 2, none⟩)) rfl rfl (by kernel_rfl) (by kernel_rfl) (by kernel_rfl) (fun _ _ _ h => h) (by rfl) (fun _ _ => by kernel_rfl) hHeld ?_
    simp only [Act.put, List.setIfInBounds_toArray, List.set_cons_zero, List.set_cons_succ]
    refine takeTo 5 (some 60) (.slice a1 l1 c1) rfl rfl (by kernel_rfl) (by kernel_rfl) (by kernel_rfl) (fun _ _ _ h => h) (by rfl) (fun wz hz => run_load_slice (.tmp 59) rfl ⟨w.heap.size, 2, none⟩ rfl _ wz (HX.out wz hz).2.2) hHeld ?_
    simp only [Act.put, List.setIfInBounds_toArray, List.set_cons_zero, List.set_cons_succ]
    refine takeTo 6 (some 61) (.slice (some ⟨w2.heap.size, 0, none⟩) 15 16) rfl rfl (by kernel_rfl) (by kernel_rfl) (by kernel_rfl) (fun _ _ _ h => h) (by rfl) (fun _ _ => by kernel_rfl) hHeld ?_
    simp only [Act.put, List.setIfInBounds_toArray, List.set_cons_zero, List.set_cons_succ]
    refine callTo 7 (some 62) 14 #[.slice a0 l0 c0, .int .i64 s, .slice a1 l1 c1, .slice (some ⟨w2.heap.size, 0, none⟩) 15 16] (by kernel_rfl) rfl rfl (by rfl) (by kernel_rfl) hr8 ?_
    rintro e w9 ⟨rfl, hb9⟩
    have h9 := h8d.below hb9 h8d.lt
    have hT9 := hT8d.below hb9 hT8d.lt
    have hB9 : Below w.heap.size w w9 := hB8d.trans (hb9.mono hB8d.size)
    refine ⟨_, rfl, h9, ?_⟩
    clear hHeld
    have hHeld := h9
    simp only [Act.put, List.setIfInBounds_toArray, List.set_cons_zero, List.set_cons_succ]
    refine takeTo 8 (some 11) (.bool false) rfl rfl (by kernel_rfl) (by kernel_rfl) (by kernel_rfl) (fun _ _ _ h => h) (by rfl) (fun _ _ => rfl) hHeld ?_
    simp only [Act.put, List.setIfInBounds_toArray, List.set_cons_zero, List.set_cons_succ]
    refine wpAnyH_done (by kernel_rfl) ?_ _
    clear hHeld hr8 h8d hT8d hB8d h8 hT8 hB8 hb9
    go_wp2_with fail
    have h9d : Has w9.drew w.heap.size 28 TX := h9
    have hT9d : Has w9.drew w2.heap.size 29 (cellsN .u8 16 f) := hT9
    have hB9d : Below w.heap.size w w9.drew := hB9.drew
    obtain ⟨W, hW⟩ : ∃ W, W = w9.drew := ⟨_, rfl⟩
    rw [← hW] at h9d hT9d hB9d
    refine wp_region_held_drew (S := fun w' => Has w' w.heap.size 28 TX) (by kernel_rfl) (by rw [← hW]; exact h9d) (fun hHeld => ?_)
    rw [← hW] at hHeld ⊢
    clear hW h9 hT9 hB9
    refine takeTo 0 (some 63) (.pointer (some ⟨w.heap.size, 0, none⟩)) rfl rfl (by kernel_rfl) (by kernel_rfl) (by kernel_rfl) (fun _ _ _ h => h) (by rfl) (fun _ _ => by kernel_rfl) hHeld ?_
    simp only [Act.put, List.setIfInBounds_toArray, List.set_cons_zero, List.set_cons_succ]
    refine takeTo 1 (some 64) (.slice a0 l0 c0) rfl rfl (by kernel_rfl) (by kernel_rfl) (by kernel_rfl) (fun _ _ _ h => h) (by rfl) (fun wz hz => run_load_slice (.tmp 63) rfl ⟨w.heap.size, 0, none⟩ rfl _ wz (HX.out wz hz).1) hHeld ?_
    simp only [Act.put, List.setIfInBounds_toArray, List.set_cons_zero, List.set_cons_succ]
    refine takeTo 2 (some 65) (.pointer (some ⟨w.heap.size, 1, none⟩)) rfl rfl (by kernel_rfl) (by kernel_rfl) (by kernel_rfl) (fun _ _ _ h => h) (by rfl) (fun _ _ => by kernel_rfl) hHeld ?_
    simp only [Act.put, List.setIfInBounds_toArray, List.set_cons_zero, List.set_cons_succ]
    refine takeTo 3 (some 66) (.int .i64 s) rfl rfl (by kernel_rfl) (by kernel_rfl) (by kernel_rfl) (fun _ _ _ h => h) (by rfl) (fun wz hz => run_load_int (.tmp 65) rfl ⟨w.heap.size, 1, none⟩ rfl _ wz (HX.out wz hz).2.1) hHeld ?_
    simp only [Act.put, List.setIfInBounds_toArray, List.set_cons_zero, List.set_cons_succ]
    refine takeTo 4 (some 67) (.pointer (some ⟨w.heap.size, 2, none⟩)) rfl rfl (by kernel_rfl) (by kernel_rfl) (by kernel_rfl) (fun _ _ _ h => h) (by rfl) (fun _ _ => by kernel_rfl) hHeld ?_
    simp only [Act.put, List.setIfInBounds_toArray, List.set_cons_zero, List.set_cons_succ]
    refine takeTo 5 (some 68) (.slice a1 l1 c1) rfl rfl (by kernel_rfl) (by kernel_rfl) (by kernel_rfl) (fun _ _ _ h => h) (by rfl) (fun wz hz => run_load_slice (.tmp 67) rfl ⟨w.heap.size, 2, none⟩ rfl _ wz (HX.out wz hz).2.2) hHeld ?_
    simp only [Act.put, List.setIfInBounds_toArray, List.set_cons_zero, List.set_cons_succ]
    refine takeTo 7 (some 70) (.slice (some ⟨w2.heap.size, 0, none⟩) 16 16) rfl rfl (by kernel_rfl) (by kernel_rfl) (by kernel_rfl) (fun _ _ _ h => h) (by rfl) (fun _ _ => by kernel_rfl) hHeld ?_
    simp only [Act.put, List.setIfInBounds_toArray, List.set_cons_zero, List.set_cons_succ]
    refine takeTo 9 (some 72) (.int .u8 (b : Nat)) rfl rfl (by kernel_rfl) (by kernel_rfl) (by kernel_rfl) (fun _ _ _ h => h) (by rfl) (fun _ _ => rfl) hHeld ?_
    simp only [Act.put, List.setIfInBounds_toArray, List.set_cons_zero, List.set_cons_succ]
    have hb256 : b < 256 := hbb
    refine ready2 6 10 (by kernel_rfl) ?_ ?_
    · have hbE : Below W.heap.size W (W.alloc (.cells #[] 5)) := (Below.refl _ _).alloc (Nat.le_refl _) _
      have own0 := World.ownsRow_lit (base := W.heap.size) (e := 5) (size := 1) W #[] 0 (Nat.le_refl _) (by unfold maxLen; omega) rfl
      refine stepVal (some 69) (.slice (some ⟨W.heap.size, 0, none⟩) 0 0) (W.alloc (.cells #[] 5)) rfl rfl (by rfl) (by kernel_rfl) ⟨?_, ?_⟩
      · exact h9d.below hbE h9d.lt
      simp only [Act.put, List.setIfInBounds_toArray, List.set_cons_zero, List.set_cons_succ]
      refine ready2 8 10 (by kernel_rfl) ?_ ?_
      · have byT := (has_bytes hT9d 16 (Nat.le_refl _)).below hbE (Nat.le_refl _)
        obtain ⟨v8, w8', hr8, own8, gr8⟩ := run_append_bytes (W.alloc (.cells #[] 5)) W.heap.size _ 0 (fun _ => 0) own0 (some ⟨w2.heap.size, 0, none⟩) 16 16 f (fun e => by cases e) byT (by omega) (by simp)
        rw [Nat.zero_add, cat_zero] at own8
        have hb8' : Below W.heap.size W w8' := hbE.grown gr8 (by simp) (fun k' h => (own0.lt k' h).1)
        refine stepVal (some 71) v8 w8' rfl rfl (by rfl) (run_append_op (.tmp 69) (.tmp 70) 22 22 rfl _ _ rfl rfl v8 hr8) ⟨?_, ?_⟩
        · exact h9d.below hb8' h9d.lt
        simp only [Act.put, List.setIfInBounds_toArray, List.set_cons_zero, List.set_cons_succ]
        have hbL : Below w8'.heap.size w8' (w8'.alloc (.cells #[.int .u8 (b : Nat)] 5)) := (Below.refl _ _).alloc (Nat.le_refl _) _
        have own8x := own_below own8 hbL (fun g hg => (own8.lt g hg).2)
        have hb10 : Below W.heap.size W (w8'.alloc (.cells #[.int .u8 (b : Nat)] 5)) := hb8'.trans (hbL.mono hb8'.size)
        refine ready1 10 (by kernel_rfl) (stepVal (some 73) (.slice (some ⟨w8'.heap.size, 0, none⟩) 1 1) (w8'.alloc (.cells #[.int .u8 (b : Nat)] 5)) rfl rfl (by rfl) (by kernel_rfl) ⟨?_, ?_⟩)
        · exact h9d.below hb10 h9d.lt
        simp only [Act.put, List.setIfInBounds_toArray, List.set_cons_zero, List.set_cons_succ]
        obtain ⟨v11, wF, hr11, ownF, gr11⟩ := run_append_bytes (w8'.alloc (.cells #[.int .u8 (b : Nat)] 5)) W.heap.size v8 16 f own8x (some ⟨w8'.heap.size, 0, none⟩) 1 1 (fun _ => b) (fun e => by cases e) (one_byte w8' b) (by omega) hb10.size
        have hbF : Below W.heap.size W wF := hb10.grown gr11 hb10.size (fun k' h => (own8x.lt k' h).1)
        refine ready1 11 (by kernel_rfl) (stepVal (some 74) v11 wF rfl rfl (by rfl) (run_append_op (.tmp 71) (.tmp 73) 22 22 rfl _ _ rfl rfl v11 hr11) ⟨?_, ?_⟩)
        · exact h9d.below hbF h9d.lt
        simp only [Act.put, List.setIfInBounds_toArray, List.set_cons_zero, List.set_cons_succ]
        obtain ⟨aF, cF, rfl, hcF, hnF, byF, _⟩ := own_bytes ownF
        have hBF : Below w.heap.size w wF := hB9d.trans (hbF.mono hB9d.size)
        have hF := h9d.below hbF h9d.lt
        have hrF := HR.out wF aF 17 cF (cat f 16 fun _ => b) false hBF (cat_lt _ _ _ HFL.out (fun _ => hb256)) byF (fun e => (hnF e).1) (strN_other _ _ 17 16 (by decide))
        refine callTo 12 (some 75) 14 #[.slice a0 l0 c0, .int .i64 s, .slice a1 l1 c1, .slice aF 17 cF] (by kernel_rfl) rfl rfl (by rfl) (by kernel_rfl) hrF ?_
        rintro e wG ⟨rfl, hbG⟩
        have hGd := hF.below hbG hF.lt
        have hBG : Below w.heap.size w wG := hBF.trans (hbG.mono hBF.size)
        refine ⟨_, rfl, hGd, ?_⟩
        clear hHeld
        have hHeld := hGd
        simp only [Act.put, List.setIfInBounds_toArray, List.set_cons_zero, List.set_cons_succ]
        refine takeTo 13 (some 12) (.bool false) rfl rfl (by kernel_rfl) (by kernel_rfl) (by kernel_rfl) (fun _ _ _ h => h) (by rfl) (fun _ _ => rfl) hHeld ?_
        simp only [Act.put, List.setIfInBounds_toArray, List.set_cons_zero, List.set_cons_succ]
        refine wpAnyH_done (by kernel_rfl) ?_ _
        have hal := halive_any wG (hG.below hBG hG.1)
        clear hHeld hrF ownF hbF hF hGd hB9d h9d hT9d hbG hBF byF
        by_cases hb0 : b = 0
        · obtain rfl : ch = true := by rw [hch]; simp [hb0]
          have hbi : (b : Int) = 0 := by omega
          clear hch
          go_wp2_with (first
            | ((go_at_call 10)
               (refine hal.mono ?_)
               (rintro e wH ⟨rfl, hbH⟩)
               (clear hal)))
          go_ret
          exact ⟨by first | rfl | (simp [hb0]; done), hBG.trans (hbH.mono hBG.size)⟩
        · obtain rfl : ch = false := by rw [hch]; simp [hb0]
          have hbi : ¬ ((b : Int) = 0) := by omega
          clear hch
          go_wp2_with (first
            | ((go_at_call 10)
               (refine hal.mono ?_)
               (rintro e wH ⟨rfl, hbH⟩)
               (clear hal)))
          go_ret
          exact ⟨by first | rfl | (simp [hb0]; done), hBG.trans (hbH.mono hBG.size)⟩
      · have hbL : Below (W.alloc (.cells #[] 5)).heap.size (W.alloc (.cells #[] 5)) ((W.alloc (.cells #[] 5)).alloc (.cells #[.int .u8 (b : Nat)] 5)) := (Below.refl _ _).alloc (Nat.le_refl _) _
        have hbEL : Below W.heap.size W ((W.alloc (.cells #[] 5)).alloc (.cells #[.int .u8 (b : Nat)] 5)) := hbE.trans (hbL.mono hbE.size)
        have byT := (has_bytes hT9d 16 (Nat.le_refl _)).below hbEL (Nat.le_refl _)
        have own0x := own_below own0 hbL (fun g hg => (own0.lt g hg).2)
        have hsE : (W.alloc (.cells #[] 5)).heap.size = W.heap.size + 1 := by simp
        refine stepVal (some 73) (.slice (some ⟨(W.alloc (.cells #[] 5)).heap.size, 0, none⟩) 1 1) ((W.alloc (.cells #[] 5)).alloc (.cells #[.int .u8 (b : Nat)] 5)) rfl rfl (by rfl) (by kernel_rfl) ⟨?_, ?_⟩
        · exact h9d.below hbEL h9d.lt
        simp only [Act.put, List.setIfInBounds_toArray, List.set_cons_zero, List.set_cons_succ]
        have byL := one_byte (W.alloc (.cells #[] 5)) b
        obtain ⟨v8, w8', hr8, own8, gr8⟩ := run_append_bytes ((W.alloc (.cells #[] 5)).alloc (.cells #[.int .u8 (b : Nat)] 5)) W.heap.size _ 0 (fun _ => 0) own0x (some ⟨w2.heap.size, 0, none⟩) 16 16 f (fun e => by cases e) byT (by omega) hbEL.size
        rw [Nat.zero_add, cat_zero] at own8
        have hb8' : Below W.heap.size W w8' := hbEL.grown gr8 hbEL.size (fun k' h => (own0x.lt k' h).1)
        have byL8 := byL.grown gr8 (fun g' off' e => by simp [Value.ownBlock] at e ⊢; omega)
        refine ready1 8 (by kernel_rfl) (stepVal (some 71) v8 w8' rfl rfl (by rfl) (run_append_op (.tmp 69) (.tmp 70) 22 22 rfl _ _ rfl rfl v8 hr8) ⟨?_, ?_⟩)
        · exact h9d.below hb8' h9d.lt
        simp only [Act.put, List.setIfInBounds_toArray, List.set_cons_zero, List.set_cons_succ]
        have own8x := own8
        obtain ⟨v11, wF, hr11, ownF, gr11⟩ := run_append_bytes w8' W.heap.size v8 16 f own8x (some ⟨(W.alloc (.cells #[] 5)).heap.size, 0, none⟩) 1 1 (fun _ => b) (fun e => by cases e) byL8 (by omega) hb8'.size
        have hbF : Below W.heap.size W wF := hb8'.grown gr11 hb8'.size (fun k' h => (own8x.lt k' h).1)
        refine ready1 11 (by kernel_rfl) (stepVal (some 74) v11 wF rfl rfl (by rfl) (run_append_op (.tmp 71) (.tmp 73) 22 22 rfl _ _ rfl rfl v11 hr11) ⟨?_, ?_⟩)
        · exact h9d.below hbF h9d.lt
        simp only [Act.put, List.setIfInBounds_toArray, List.set_cons_zero, List.set_cons_succ]
        obtain ⟨aF, cF, rfl, hcF, hnF, byF, _⟩ := own_bytes ownF
        have hBF : Below w.heap.size w wF := hB9d.trans (hbF.mono hB9d.size)
        have hF := h9d.below hbF h9d.lt
        have hrF := HR.out wF aF 17 cF (cat f 16 fun _ => b) false hBF (cat_lt _ _ _ HFL.out (fun _ => hb256)) byF (fun e => (hnF e).1) (strN_other _ _ 17 16 (by decide))
        refine callTo 12 (some 75) 14 #[.slice a0 l0 c0, .int .i64 s, .slice a1 l1 c1, .slice aF 17 cF] (by kernel_rfl) rfl rfl (by rfl) (by kernel_rfl) hrF ?_
        rintro e wG ⟨rfl, hbG⟩
        have hGd := hF.below hbG hF.lt
        have hBG : Below w.heap.size w wG := hBF.trans (hbG.mono hBF.size)
        refine ⟨_, rfl, hGd, ?_⟩
        clear hHeld
        have hHeld := hGd
        simp only [Act.put, List.setIfInBounds_toArray, List.set_cons_zero, List.set_cons_succ]
        refine takeTo 13 (some 12) (.bool false) rfl rfl (by kernel_rfl) (by kernel_rfl) (by kernel_rfl) (fun _ _ _ h => h) (by rfl) (fun _ _ => rfl) hHeld ?_
        simp only [Act.put, List.setIfInBounds_toArray, List.set_cons_zero, List.set_cons_succ]
        refine wpAnyH_done (by kernel_rfl) ?_ _
        have hal := halive_any wG (hG.below hBG hG.1)
        clear hHeld hrF ownF hbF hF hGd hB9d h9d hT9d hbG hBF byF
        by_cases hb0 : b = 0
        · obtain rfl : ch = true := by rw [hch]; simp [hb0]
          have hbi : (b : Int) = 0 := by omega
          clear hch
          go_wp2_with (first
            | ((go_at_call 10)
               (refine hal.mono ?_)
               (rintro e wH ⟨rfl, hbH⟩)
               (clear hal)))
          go_ret
          exact ⟨by first | rfl | (simp [hb0]; done), hBG.trans (hbH.mono hBG.size)⟩
        · obtain rfl : ch = false := by rw [hch]; simp [hb0]
          have hbi : ¬ ((b : Int) = 0) := by omega
          clear hch
          go_wp2_with (first
            | ((go_at_call 10)
               (refine hal.mono ?_)
               (rintro e wH ⟨rfl, hbH⟩)
               (clear hal)))
          go_ret
          exact ⟨by first | rfl | (simp [hb0]; done), hBG.trans (hbH.mono hBG.size)⟩
    · have hbL : Below W.heap.size W (W.alloc (.cells #[.int .u8 (b : Nat)] 5)) := (Below.refl _ _).alloc (Nat.le_refl _) _
      refine stepVal (some 73) (.slice (some ⟨W.heap.size, 0, none⟩) 1 1) (W.alloc (.cells #[.int .u8 (b : Nat)] 5)) rfl rfl (by rfl) (by kernel_rfl) ⟨?_, ?_⟩
      · exact h9d.below hbL h9d.lt
      simp only [Act.put, List.setIfInBounds_toArray, List.set_cons_zero, List.set_cons_succ]
      have byL := one_byte W b
      have hbE : Below (W.alloc (.cells #[.int .u8 (b : Nat)] 5)).heap.size (W.alloc (.cells #[.int .u8 (b : Nat)] 5)) ((W.alloc (.cells #[.int .u8 (b : Nat)] 5)).alloc (.cells #[] 5)) := (Below.refl _ _).alloc (Nat.le_refl _) _
      have hbLE : Below W.heap.size W ((W.alloc (.cells #[.int .u8 (b : Nat)] 5)).alloc (.cells #[] 5)) := hbL.trans (hbE.mono hbL.size)
      have own0 := World.ownsRow_lit (base := (W.alloc (.cells #[.int .u8 (b : Nat)] 5)).heap.size) (e := 5) (size := 1) (W.alloc (.cells #[.int .u8 (b : Nat)] 5)) #[] 0 (Nat.le_refl _) (by unfold maxLen; omega) rfl
      refine ready1 6 (by kernel_rfl) (stepVal (some 69) (.slice (some ⟨(W.alloc (.cells #[.int .u8 (b : Nat)] 5)).heap.size, 0, none⟩) 0 0) ((W.alloc (.cells #[.int .u8 (b : Nat)] 5)).alloc (.cells #[] 5)) rfl rfl (by rfl) (by kernel_rfl) ⟨?_, ?_⟩)
      · exact h9d.below hbLE h9d.lt
      simp only [Act.put, List.setIfInBounds_toArray, List.set_cons_zero, List.set_cons_succ]
      have byT := (has_bytes hT9d 16 (Nat.le_refl _)).below hbLE (Nat.le_refl _)
      obtain ⟨v8, w8', hr8, own8, gr8⟩ := run_append_bytes ((W.alloc (.cells #[.int .u8 (b : Nat)] 5)).alloc (.cells #[] 5)) (W.alloc (.cells #[.int .u8 (b : Nat)] 5)).heap.size _ 0 (fun _ => 0) own0 (some ⟨w2.heap.size, 0, none⟩) 16 16 f (fun e => by cases e) byT (by omega) (by simp)
      rw [Nat.zero_add, cat_zero] at own8
      have hb8l : Below (W.alloc (.cells #[.int .u8 (b : Nat)] 5)).heap.size (W.alloc (.cells #[.int .u8 (b : Nat)] 5)) w8' := hbE.grown gr8 (by simp) (fun k' h => (own0.lt k' h).1)
      have hb8' : Below W.heap.size W w8' := hbL.trans (hb8l.mono hbL.size)
      refine ready1 8 (by kernel_rfl) (stepVal (some 71) v8 w8' rfl rfl (by rfl) (run_append_op (.tmp 69) (.tmp 70) 22 22 rfl _ _ rfl rfl v8 hr8) ⟨?_, ?_⟩)
      · exact h9d.below hb8' h9d.lt
      simp only [Act.put, List.setIfInBounds_toArray, List.set_cons_zero, List.set_cons_succ]
      have byL8 := byL.below hb8l (Nat.le_refl _)
      have own8x := own8
      obtain ⟨v11, wF, hr11, ownF, gr11⟩ := run_append_bytes w8' (W.alloc (.cells #[.int .u8 (b : Nat)] 5)).heap.size v8 16 f own8x (some ⟨W.heap.size, 0, none⟩) 1 1 (fun _ => b) (fun e => by cases e) byL8 (by omega) hb8l.size
      have hbF : Below W.heap.size W wF := hbL.trans ((hb8l.grown gr11 hb8l.size (fun k' h => (own8x.lt k' h).1)).mono hbL.size)
      refine ready1 11 (by kernel_rfl) (stepVal (some 74) v11 wF rfl rfl (by rfl) (run_append_op (.tmp 71) (.tmp 73) 22 22 rfl _ _ rfl rfl v11 hr11) ⟨?_, ?_⟩)
      · exact h9d.below hbF h9d.lt
      simp only [Act.put, List.setIfInBounds_toArray, List.set_cons_zero, List.set_cons_succ]
      obtain ⟨aF, cF, rfl, hcF, hnF, byF, _⟩ := own_bytes ownF
      have hBF : Below w.heap.size w wF := hB9d.trans (hbF.mono hB9d.size)
      have hF := h9d.below hbF h9d.lt
      have hrF := HR.out wF aF 17 cF (cat f 16 fun _ => b) false hBF (cat_lt _ _ _ HFL.out (fun _ => hb256)) byF (fun e => (hnF e).1) (strN_other _ _ 17 16 (by decide))
      refine callTo 12 (some 75) 14 #[.slice a0 l0 c0, .int .i64 s, .slice a1 l1 c1, .slice aF 17 cF] (by kernel_rfl) rfl rfl (by rfl) (by kernel_rfl) hrF ?_
      rintro e wG ⟨rfl, hbG⟩
      have hGd := hF.below hbG hF.lt
      have hBG : Below w.heap.size w wG := hBF.trans (hbG.mono hBF.size)
      refine ⟨_, rfl, hGd, ?_⟩
      clear hHeld
      have hHeld := hGd
      simp only [Act.put, List.setIfInBounds_toArray, List.set_cons_zero, List.set_cons_succ]
      refine takeTo 13 (some 12) (.bool false) rfl rfl (by kernel_rfl) (by kernel_rfl) (by kernel_rfl) (fun _ _ _ h => h) (by rfl) (fun _ _ => rfl) hHeld ?_
      simp only [Act.put, List.setIfInBounds_toArray, List.set_cons_zero, List.set_cons_succ]
      refine wpAnyH_done (by kernel_rfl) ?_ _
      have hal := halive_any wG (hG.below hBG hG.1)
      clear hHeld hrF ownF hbF hF hGd hB9d h9d hT9d hbG hBF byF
      by_cases hb0 : b = 0
      · obtain rfl : ch = true := by rw [hch]; simp [hb0]
        have hbi : (b : Int) = 0 := by omega
        clear hch
        go_wp2_with (first
          | ((go_at_call 10)
             (refine hal.mono ?_)
             (rintro e wH ⟨rfl, hbH⟩)
             (clear hal)))
        go_ret
        exact ⟨by first | rfl | (simp [hb0]; done), hBG.trans (hbH.mono hBG.size)⟩
      · obtain rfl : ch = false := by rw [hch]; simp [hb0]
        have hbi : ¬ ((b : Int) = 0) := by omega
        clear hch
        go_wp2_with (first
          | ((go_at_call 10)
             (refine hal.mono ?_)
             (rintro e wH ⟨rfl, hbH⟩)
             (clear hal)))
        go_ret
        exact ⟨by first | rfl | (simp [hb0]; done), hBG.trans (hbH.mono hBG.size)⟩
  · have hpos : 0 ≤ at_ := by omega
    obtain rfl := hp2 hpos
    have z0 : (0 : Int) ≤ (p : Int) := by omega
    have x1 := HX.out _ h1
    have x10 := x1.1
    have x11 := x1.2.1
    have x12 := x1.2.2
    clear x1
    go_wp2_with (first
    | ((go_at_call 12)
       (refine ht1.mono ?_)
       (rintro e w2 ⟨rfl, hb2⟩)
       (have h2 := h1.below hb2 h1.lt)
       (have hB2 : Below w.heap.size w w2 := hb1.trans (hb2.mono hb1.size))
       (have hn2 : Has (w2.alloc (.cells (cellsN .u8 16 fun _ => 0) 29)) w2.heap.size 29 (cellsN .u8 16 fun _ => 0) := Has.new _ _ _)
       (clear ht1 x10 x11 x12 h1 hb1 hb2))
    | ((refine wpList_store_rowG rfl 29 _ _ rfl (w2.heap.size) (cellsN .u8 16 f) rfl rfl 29 _ hn2 (by rw [cellsN_size]; exact Tryd.size29) (by simp [cellsN_size]) (cellsN_one _ _ _) ?_)
       (intro w3 hw3)
       (have hT3 : Has w3 w2.heap.size 29 (cellsN .u8 16 f) := (by rw [hw3]; exact hn2.setRow _))
       (have h3 : Has w3 w.heap.size 28 TX := (by rw [hw3]; exact (h2.alloc _).setRow_other (by have := h2.lt; omega) _))
       (have hB3 : Below w.heap.size w w3 := (by rw [hw3]; exact below_setRow (hB2.alloc hB2.size _) hB2.size _))
       (have own3 := World.ownsRow_lit (base := w3.heap.size) (e := 5) (size := 1) w3 #[] 0 (Nat.le_refl _) (by unfold maxLen; omega) rfl)
       (have hb4 : Below w3.heap.size w3 (w3.alloc (.cells #[] 5)) := (Below.refl _ _).alloc (Nat.le_refl _) _)
       (have by3 := (has_bytes hT3 16 (Nat.le_refl _)).below hb4 (Nat.le_refl _))
       (clear hw3 hn2 h2 hB2))
    | ((at_builtin)
       (refine wpList_append_bytes rfl _ _ rfl w3.heap.size _ 0 (fun _ => 0) rfl own3 (some ⟨w2.heap.size, 0, none⟩) 16 16 f rfl (fun e => by cases e) by3 (by omega) (by simp) ?_)
       (intro v5 w5 own5 gr5)
       (rw [Nat.zero_add, cat_zero] at own5)
       (have hb5 : Below w3.heap.size w3 w5 := hb4.grown gr5 (by simp) (fun k' h => (own3.lt k' h).1))
       (have h5 := h3.below hb5 h3.lt)
       (have hT5 := hT3.below hb5 hT3.lt)
       (have hB5 : Below w.heap.size w w5 := hB3.trans (hb5.mono hB3.size))
       (obtain ⟨a5, c5, rfl, hc5, _, by5, hs5⟩ := own_bytes own5)
       (have x1 := HX.out _ h5)
       (have x10 := x1.1)
       (have x11 := x1.2.1)
       (have x12 := x1.2.2)
       (have hr5 := HR.out w5 a5 16 c5 f true hB5 HFL.out by5 (fun e => by rcases by5 with h | ⟨_, _, h, _⟩ <;> simp_all) (strN_congr _ _ _ (fun _ _ => rfl)))
       (have hT3l := hT3.lt)
       (have h3l := h3.lt)
       (clear x1 own3 by3 gr5 hb4 by5 h3 hT3))
    | ((go_at_call 14)
       (have _t := hr5)
       (refine hr5.mono ?_)
       (rintro e w6 ⟨rfl, hb6⟩)
       (have own6 := own_below own5 hb6 (fun g hg => (own5.lt g hg).2))
       (have h6 := h5.below hb6 h5.lt)
       (have hT6 := hT5.below hb6 hT5.lt)
       (have hB6 : Below w.heap.size w w6 := hB5.trans (hb6.mono hB5.size))
       (have hl6 : w3.heap.size ≤ w6.heap.size := Nat.le_trans hb5.size hb6.size)
       (have hst6 : w2.heap.size < w3.heap.size := hT3l)
       (obtain ⟨g5, rfl⟩ : ∃ g5, a5 = some ⟨g5, 0, none⟩ := (by
          rcases own6.2 with ⟨h0, h00⟩ | ⟨g, cp, cur, hv, hbg, hgg, _⟩
          · omega
          · simp only [Value.slice.injEq] at hv
            exact ⟨g, hv.1⟩))
       (have hg5 : w3.heap.size ≤ g5 := (hs5 g5 0 rfl).1)
       (have hce : w6.cell? ⟨g5, q, none⟩ = some (.int .u8 (f q : Nat)) := (by rw [own6.cellAt q (by omega)]; exact bl_get f 16 q hq16))
       (have hfz := own6.frozenAt q)
       (clear hr5 _t own5 h5 hT5 hB5 x10 x11 x12 hb6))
    | ((refine wpList_store_cellG rfl (.tmp 46) (.tmp 45) rfl ⟨g5, q, none⟩ (by rw [← hq]; rfl) .u8 ((f q ^^^ b : Nat) : Int) rfl _ hce hfz ?_)
       (intro w7 hw7)
       (have own7 : w7.ownsRow w3.heap.size 5 1 (.slice (some ⟨g5, 0, none⟩) 16 c5) 16 (bl (upd f q (f q ^^^ b)) 16) := (by rw [hw7, ← bl_set]; exact (own6.stored q _).1))
       (have h7 : Has w7 w.heap.size 28 TX := (by rw [hw7]; exact h6.other (by show w.heap.size ≠ g5; omega) _))
       (have hT7 : Has w7 w2.heap.size 29 (cellsN .u8 16 f) := (by rw [hw7]; exact hT6.other (by show w2.heap.size ≠ g5; omega) _))
       (have hB7 : Below w.heap.size w w7 := (by rw [hw7]; exact hB6.setCell (by show w.heap.size ≤ g5; omega) _))
       (have x1 := HX.out _ h7)
       (have x10 := x1.1)
       (have x11 := x1.2.1)
       (have x12 := x1.2.2)
       (obtain ⟨a7, c7, e7, _, _, by7, _⟩ := own_bytes own7)
       (obtain ⟨rfl, _, rfl⟩ := (Value.slice.injEq _ _ _ _ _ _).mp e7)
       (have hr7 := HR.out w7 (some ⟨g5, 0, none⟩) 16 c5 (upd f q (f q ^^^ b)) ch hB7 HG2.out by7 (fun e => by cases e) HST.out)
       (clear hw7 own6 own7 x1 e7 by7 hce hfz hxo h6 hT6 hB6))
    | ((go_at_call 14)
       (refine hr7.mono ?_)
       (rintro e w8 ⟨rfl, hb8⟩)
       (have h8 := h7.below hb8 h7.lt)
       (have hT8 := hT7.below hb8 hT7.lt)
       (have hB8 : Below w.heap.size w w8 := hB7.trans (hb8.mono hB7.size))
       (clear hr7 h7 hT7 hB7 x10 x11 x12 hb8)))
    have h8d : Has w8.drew w.heap.size 28 TX := h8
    have hT8d : Has w8.drew w2.heap.size 29 (cellsN .u8 16 f) := hT8
    have hB8d : Below w.heap.size w w8.drew := hB8.drew
    have hr8 := HR.out w8.drew (some ⟨w2.heap.size, 0, none⟩) 15 16 f false hB8d HFL.out (has_bytes hT8d 15 (by decide)) (fun e => by cases e) (strN_other _ _ 15 16 (by decide))
    refine wp_region_held_drew (S := fun w' => Has w' w.heap.size 28 TX) (by kernel_rfl) h8d (fun hHeld => ?_)
    refine takeTo 0 (some 55) (.pointer (some ⟨w.heap.size, 0, none⟩)) rfl rfl (by kernel_rfl) (by kernel_rfl) (by kernel_rfl) (fun _ _ _ h => h) (by rfl) (fun _ _ => by kernel_rfl) hHeld ?_
    simp only [Act.put, List.setIfInBounds_toArray, List.set_cons_zero, List.set_cons_succ]
    refine takeTo 1 (some 56) (.slice a0 l0 c0) rfl rfl (by kernel_rfl) (by kernel_rfl) (by kernel_rfl) (fun _ _ _ h => h) (by rfl) (fun wz hz => run_load_slice (.tmp 55) rfl ⟨w.heap.size, 0, none⟩ rfl _ wz (HX.out wz hz).1) hHeld ?_
    simp only [Act.put, List.setIfInBounds_toArray, List.set_cons_zero, List.set_cons_succ]
    refine takeTo 2 (some 57) (.pointer (some ⟨w.heap.size, 1, none⟩)) rfl rfl (by kernel_rfl) (by kernel_rfl) (by kernel_rfl) (fun _ _ _ h => h) (by rfl) (fun _ _ => by kernel_rfl) hHeld ?_
    simp only [Act.put, List.setIfInBounds_toArray, List.set_cons_zero, List.set_cons_succ]
    refine takeTo 3 (some 58) (.int .i64 s) rfl rfl (by kernel_rfl) (by kernel_rfl) (by kernel_rfl) (fun _ _ _ h => h) (by rfl) (fun wz hz => run_load_int (.tmp 57) rfl ⟨w.heap.size, 1, none⟩ rfl _ wz (HX.out wz hz).2.1) hHeld ?_
    simp only [Act.put, List.setIfInBounds_toArray, List.set_cons_zero, List.set_cons_succ]
    refine takeTo 4 (some 59) (.pointer (some ⟨w.heap.size, 2, none⟩)) rfl rfl (by kernel_rfl) (by kernel_rfl) (by kernel_rfl) (fun _ _ _ h => h) (by rfl) (fun _ _ => by kernel_rfl) hHeld ?_
    simp only [Act.put, List.setIfInBounds_toArray, List.set_cons_zero, List.set_cons_succ]
    refine takeTo 5 (some 60) (.slice a1 l1 c1) rfl rfl (by kernel_rfl) (by kernel_rfl) (by kernel_rfl) (fun _ _ _ h => h) (by rfl) (fun wz hz => run_load_slice (.tmp 59) rfl ⟨w.heap.size, 2, none⟩ rfl _ wz (HX.out wz hz).2.2) hHeld ?_
    simp only [Act.put, List.setIfInBounds_toArray, List.set_cons_zero, List.set_cons_succ]
    refine takeTo 6 (some 61) (.slice (some ⟨w2.heap.size, 0, none⟩) 15 16) rfl rfl (by kernel_rfl) (by kernel_rfl) (by kernel_rfl) (fun _ _ _ h => h) (by rfl) (fun _ _ => by kernel_rfl) hHeld ?_
    simp only [Act.put, List.setIfInBounds_toArray, List.set_cons_zero, List.set_cons_succ]
    refine callTo 7 (some 62) 14 #[.slice a0 l0 c0, .int .i64 s, .slice a1 l1 c1, .slice (some ⟨w2.heap.size, 0, none⟩) 15 16] (by kernel_rfl) rfl rfl (by rfl) (by kernel_rfl) hr8 ?_
    rintro e w9 ⟨rfl, hb9⟩
    have h9 := h8d.below hb9 h8d.lt
    have hT9 := hT8d.below hb9 hT8d.lt
    have hB9 : Below w.heap.size w w9 := hB8d.trans (hb9.mono hB8d.size)
    refine ⟨_, rfl, h9, ?_⟩
    clear hHeld
    have hHeld := h9
    simp only [Act.put, List.setIfInBounds_toArray, List.set_cons_zero, List.set_cons_succ]
    refine takeTo 8 (some 11) (.bool false) rfl rfl (by kernel_rfl) (by kernel_rfl) (by kernel_rfl) (fun _ _ _ h => h) (by rfl) (fun _ _ => rfl) hHeld ?_
    simp only [Act.put, List.setIfInBounds_toArray, List.set_cons_zero, List.set_cons_succ]
    refine wpAnyH_done (by kernel_rfl) ?_ _
    clear hHeld hr8 h8d hT8d hB8d h8 hT8 hB8 hb9
    go_wp2_with fail
    have h9d : Has w9.drew w.heap.size 28 TX := h9
    have hT9d : Has w9.drew w2.heap.size 29 (cellsN .u8 16 f) := hT9
    have hB9d : Below w.heap.size w w9.drew := hB9.drew
    obtain ⟨W, hW⟩ : ∃ W, W = w9.drew := ⟨_, rfl⟩
    rw [← hW] at h9d hT9d hB9d
    refine wp_region_held_drew (S := fun w' => Has w' w.heap.size 28 TX) (by kernel_rfl) (by rw [← hW]; exact h9d) (fun hHeld => ?_)
    rw [← hW] at hHeld ⊢
    clear hW h9 hT9 hB9
    refine takeTo 0 (some 63) (.pointer (some ⟨w.heap.size, 0, none⟩)) rfl rfl (by kernel_rfl) (by kernel_rfl) (by kernel_rfl) (fun _ _ _ h => h) (by rfl) (fun _ _ => by kernel_rfl) hHeld ?_
    simp only [Act.put, List.setIfInBounds_toArray, List.set_cons_zero, List.set_cons_succ]
    refine takeTo 1 (some 64) (.slice a0 l0 c0) rfl rfl (by kernel_rfl) (by kernel_rfl) (by kernel_rfl) (fun _ _ _ h => h) (by rfl) (fun wz hz => run_load_slice (.tmp 63) rfl ⟨w.heap.size, 0, none⟩ rfl _ wz (HX.out wz hz).1) hHeld ?_
    simp only [Act.put, List.setIfInBounds_toArray, List.set_cons_zero, List.set_cons_succ]
    refine takeTo 2 (some 65) (.pointer (some ⟨w.heap.size, 1, none⟩)) rfl rfl (by kernel_rfl) (by kernel_rfl) (by kernel_rfl) (fun _ _ _ h => h) (by rfl) (fun _ _ => by kernel_rfl) hHeld ?_
    simp only [Act.put, List.setIfInBounds_toArray, List.set_cons_zero, List.set_cons_succ]
    refine takeTo 3 (some 66) (.int .i64 s) rfl rfl (by kernel_rfl) (by kernel_rfl) (by kernel_rfl) (fun _ _ _ h => h) (by rfl) (fun wz hz => run_load_int (.tmp 65) rfl ⟨w.heap.size, 1, none⟩ rfl _ wz (HX.out wz hz).2.1) hHeld ?_
    simp only [Act.put, List.setIfInBounds_toArray, List.set_cons_zero, List.set_cons_succ]
    refine takeTo 4 (some 67) (.pointer (some ⟨w.heap.size, 2, none⟩)) rfl rfl (by kernel_rfl) (by kernel_rfl) (by kernel_rfl) (fun _ _ _ h => h) (by rfl) (fun _ _ => by kernel_rfl) hHeld ?_
    simp only [Act.put, List.setIfInBounds_toArray, List.set_cons_zero, List.set_cons_succ]
    refine takeTo 5 (some 68) (.slice a1 l1 c1) rfl rfl (by kernel_rfl) (by kernel_rfl) (by kernel_rfl) (fun _ _ _ h => h) (by rfl) (fun wz hz => run_load_slice (.tmp 67) rfl ⟨w.heap.size, 2, none⟩ rfl _ wz (HX.out wz hz).2.2) hHeld ?_
    simp only [Act.put, List.setIfInBounds_toArray, List.set_cons_zero, List.set_cons_succ]
    refine takeTo 7 (some 70) (.slice (some ⟨w2.heap.size, 0, none⟩) 16 16) rfl rfl (by kernel_rfl) (by kernel_rfl) (by kernel_rfl) (fun _ _ _ h => h) (by rfl) (fun _ _ => by kernel_rfl) hHeld ?_
    simp only [Act.put, List.setIfInBounds_toArray, List.set_cons_zero, List.set_cons_succ]
    refine takeTo 9 (some 72) (.int .u8 (b : Nat)) rfl rfl (by kernel_rfl) (by kernel_rfl) (by kernel_rfl) (fun _ _ _ h => h) (by rfl) (fun _ _ => rfl) hHeld ?_
    simp only [Act.put, List.setIfInBounds_toArray, List.set_cons_zero, List.set_cons_succ]
    have hb256 : b < 256 := hbb
    refine ready2 6 10 (by kernel_rfl) ?_ ?_
    · have hbE : Below W.heap.size W (W.alloc (.cells #[] 5)) := (Below.refl _ _).alloc (Nat.le_refl _) _
      have own0 := World.ownsRow_lit (base := W.heap.size) (e := 5) (size := 1) W #[] 0 (Nat.le_refl _) (by unfold maxLen; omega) rfl
      refine stepVal (some 69) (.slice (some ⟨W.heap.size, 0, none⟩) 0 0) (W.alloc (.cells #[] 5)) rfl rfl (by rfl) (by kernel_rfl) ⟨?_, ?_⟩
      · exact h9d.below hbE h9d.lt
      simp only [Act.put, List.setIfInBounds_toArray, List.set_cons_zero, List.set_cons_succ]
      refine ready2 8 10 (by kernel_rfl) ?_ ?_
      · have byT := (has_bytes hT9d 16 (Nat.le_refl _)).below hbE (Nat.le_refl _)
        obtain ⟨v8, w8', hr8, own8, gr8⟩ := run_append_bytes (W.alloc (.cells #[] 5)) W.heap.size _ 0 (fun _ => 0) own0 (some ⟨w2.heap.size, 0, none⟩) 16 16 f (fun e => by cases e) byT (by omega) (by simp)
        rw [Nat.zero_add, cat_zero] at own8
        have hb8' : Below W.heap.size W w8' := hbE.grown gr8 (by simp) (fun k' h => (own0.lt k' h).1)
        refine stepVal (some 71) v8 w8' rfl rfl (by rfl) (run_append_op (.tmp 69) (.tmp 70) 22 22 rfl _ _ rfl rfl v8 hr8) ⟨?_, ?_⟩
        · exact h9d.below hb8' h9d.lt
        simp only [Act.put, List.setIfInBounds_toArray, List.set_cons_zero, List.set_cons_succ]
        have hbL : Below w8'.heap.size w8' (w8'.alloc (.cells #[.int .u8 (b : Nat)] 5)) := (Below.refl _ _).alloc (Nat.le_refl _) _
        have own8x := own_below own8 hbL (fun g hg => (own8.lt g hg).2)
        have hb10 : Below W.heap.size W (w8'.alloc (.cells #[.int .u8 (b : Nat)] 5)) := hb8'.trans (hbL.mono hb8'.size)
        refine ready1 10 (by kernel_rfl) (stepVal (some 73) (.slice (some ⟨w8'.heap.size, 0, none⟩) 1 1) (w8'.alloc (.cells #[.int .u8 (b : Nat)] 5)) rfl rfl (by rfl) (by kernel_rfl) ⟨?_, ?_⟩)
        · exact h9d.below hb10 h9d.lt
        simp only [Act.put, List.setIfInBounds_toArray, List.set_cons_zero, List.set_cons_succ]
        obtain ⟨v11, wF, hr11, ownF, gr11⟩ := run_append_bytes (w8'.alloc (.cells #[.int .u8 (b : Nat)] 5)) W.heap.size v8 16 f own8x (some ⟨w8'.heap.size, 0, none⟩) 1 1 (fun _ => b) (fun e => by cases e) (one_byte w8' b) (by omega) hb10.size
        have hbF : Below W.heap.size W wF := hb10.grown gr11 hb10.size (fun k' h => (own8x.lt k' h).1)
        refine ready1 11 (by kernel_rfl) (stepVal (some 74) v11 wF rfl rfl (by rfl) (run_append_op (.tmp 71) (.tmp 73) 22 22 rfl _ _ rfl rfl v11 hr11) ⟨?_, ?_⟩)
        · exact h9d.below hbF h9d.lt
        simp only [Act.put, List.setIfInBounds_toArray, List.set_cons_zero, List.set_cons_succ]
        obtain ⟨aF, cF, rfl, hcF, hnF, byF, _⟩ := own_bytes ownF
        have hBF : Below w.heap.size w wF := hB9d.trans (hbF.mono hB9d.size)
        have hF := h9d.below hbF h9d.lt
        have hrF := HR.out wF aF 17 cF (cat f 16 fun _ => b) false hBF (cat_lt _ _ _ HFL.out (fun _ => hb256)) byF (fun e => (hnF e).1) (strN_other _ _ 17 16 (by decide))
        refine callTo 12 (some 75) 14 #[.slice a0 l0 c0, .int .i64 s, .slice a1 l1 c1, .slice aF 17 cF] (by kernel_rfl) rfl rfl (by rfl) (by kernel_rfl) hrF ?_
        rintro e wG ⟨rfl, hbG⟩
        have hGd := hF.below hbG hF.lt
        have hBG : Below w.heap.size w wG := hBF.trans (hbG.mono hBF.size)
        refine ⟨_, rfl, hGd, ?_⟩
        clear hHeld
        have hHeld := hGd
        simp only [Act.put, List.setIfInBounds_toArray, List.set_cons_zero, List.set_cons_succ]
        refine takeTo 13 (some 12) (.bool false) rfl rfl (by kernel_rfl) (by kernel_rfl) (by kernel_rfl) (fun _ _ _ h => h) (by rfl) (fun _ _ => rfl) hHeld ?_
        simp only [Act.put, List.setIfInBounds_toArray, List.set_cons_zero, List.set_cons_succ]
        refine wpAnyH_done (by kernel_rfl) ?_ _
        have hal := halive_any wG (hG.below hBG hG.1)
        clear hHeld hrF ownF hbF hF hGd hB9d h9d hT9d hbG hBF byF
        by_cases hb0 : b = 0
        · obtain rfl : ch = true := by rw [hch]; simp [hb0]
          have hbi : (b : Int) = 0 := by omega
          clear hch
          go_wp2_with (first
            | ((go_at_call 10)
               (refine hal.mono ?_)
               (rintro e wH ⟨rfl, hbH⟩)
               (clear hal)))
          go_ret
          exact ⟨by first | rfl | (simp [hb0]; done), hBG.trans (hbH.mono hBG.size)⟩
        · obtain rfl : ch = false := by rw [hch]; simp [hb0]
          have hbi : ¬ ((b : Int) = 0) := by omega
          clear hch
          go_wp2_with (first
            | ((go_at_call 10)
               (refine hal.mono ?_)
               (rintro e wH ⟨rfl, hbH⟩)
               (clear hal)))
          go_ret
          exact ⟨by first | rfl | (simp [hb0]; done), hBG.trans (hbH.mono hBG.size)⟩
      · have hbL : Below (W.alloc (.cells #[] 5)).heap.size (W.alloc (.cells #[] 5)) ((W.alloc (.cells #[] 5)).alloc (.cells #[.int .u8 (b : Nat)] 5)) := (Below.refl _ _).alloc (Nat.le_refl _) _
        have hbEL : Below W.heap.size W ((W.alloc (.cells #[] 5)).alloc (.cells #[.int .u8 (b : Nat)] 5)) := hbE.trans (hbL.mono hbE.size)
        have byT := (has_bytes hT9d 16 (Nat.le_refl _)).below hbEL (Nat.le_refl _)
        have own0x := own_below own0 hbL (fun g hg => (own0.lt g hg).2)
        have hsE : (W.alloc (.cells #[] 5)).heap.size = W.heap.size + 1 := by simp
        refine stepVal (some 73) (.slice (some ⟨(W.alloc (.cells #[] 5)).heap.size, 0, none⟩) 1 1) ((W.alloc (.cells #[] 5)).alloc (.cells #[.int .u8 (b : Nat)] 5)) rfl rfl (by rfl) (by kernel_rfl) ⟨?_, ?_⟩
        · exact h9d.below hbEL h9d.lt
        simp only [Act.put, List.setIfInBounds_toArray, List.set_cons_zero, List.set_cons_succ]
        have byL := one_byte (W.alloc (.cells #[] 5)) b
        obtain ⟨v8, w8', hr8, own8, gr8⟩ := run_append_bytes ((W.alloc (.cells #[] 5)).alloc (.cells #[.int .u8 (b : Nat)] 5)) W.heap.size _ 0 (fun _ => 0) own0x (some ⟨w2.heap.size, 0, none⟩) 16 16 f (fun e => by cases e) byT (by omega) hbEL.size
        rw [Nat.zero_add, cat_zero] at own8
        have hb8' : Below W.heap.size W w8' := hbEL.grown gr8 hbEL.size (fun k' h => (own0x.lt k' h).1)
        have byL8 := byL.grown gr8 (fun g' off' e => by simp [Value.ownBlock] at e ⊢; omega)
        refine ready1 8 (by kernel_rfl) (stepVal (some 71) v8 w8' rfl rfl (by rfl) (run_append_op (.tmp 69) (.tmp 70) 22 22 rfl _ _ rfl rfl v8 hr8) ⟨?_, ?_⟩)
        · exact h9d.below hb8' h9d.lt
        simp only [Act.put, List.setIfInBounds_toArray, List.set_cons_zero, List.set_cons_succ]
        have own8x := own8
        obtain ⟨v11, wF, hr11, ownF, gr11⟩ := run_append_bytes w8' W.heap.size v8 16 f own8x (some ⟨(W.alloc (.cells #[] 5)).heap.size, 0, none⟩) 1 1 (fun _ => b) (fun e => by cases e) byL8 (by omega) hb8'.size
        have hbF : Below W.heap.size W wF := hb8'.grown gr11 hb8'.size (fun k' h => (own8x.lt k' h).1)
        refine ready1 11 (by kernel_rfl) (stepVal (some 74) v11 wF rfl rfl (by rfl) (run_append_op (.tmp 71) (.tmp 73) 22 22 rfl _ _ rfl rfl v11 hr11) ⟨?_, ?_⟩)
        · exact h9d.below hbF h9d.lt
        simp only [Act.put, List.setIfInBounds_toArray, List.set_cons_zero, List.set_cons_succ]
        obtain ⟨aF, cF, rfl, hcF, hnF, byF, _⟩ := own_bytes ownF
        have hBF : Below w.heap.size w wF := hB9d.trans (hbF.mono hB9d.size)
        have hF := h9d.below hbF h9d.lt
        have hrF := HR.out wF aF 17 cF (cat f 16 fun _ => b) false hBF (cat_lt _ _ _ HFL.out (fun _ => hb256)) byF (fun e => (hnF e).1) (strN_other _ _ 17 16 (by decide))
        refine callTo 12 (some 75) 14 #[.slice a0 l0 c0, .int .i64 s, .slice a1 l1 c1, .slice aF 17 cF] (by kernel_rfl) rfl rfl (by rfl) (by kernel_rfl) hrF ?_
        rintro e wG ⟨rfl, hbG⟩
        have hGd := hF.below hbG hF.lt
        have hBG : Below w.heap.size w wG := hBF.trans (hbG.mono hBF.size)
        refine ⟨_, rfl, hGd, ?_⟩
        clear hHeld
        have hHeld := hGd
        simp only [Act.put, List.setIfInBounds_toArray, List.set_cons_zero, List.set_cons_succ]
        refine takeTo 13 (some 12) (.bool false) rfl rfl (by kernel_rfl) (by kernel_rfl) (by kernel_rfl) (fun _ _ _ h => h) (by rfl) (fun _ _ => rfl) hHeld ?_
        simp only [Act.put, List.setIfInBounds_toArray, List.set_cons_zero, List.set_cons_succ]
        refine wpAnyH_done (by kernel_rfl) ?_ _
        have hal := halive_any wG (hG.below hBG hG.1)
        clear hHeld hrF ownF hbF hF hGd hB9d h9d hT9d hbG hBF byF
        by_cases hb0 : b = 0
        · obtain rfl : ch = true := by rw [hch]; simp [hb0]
          have hbi : (b : Int) = 0 := by omega
          clear hch
          go_wp2_with (first
            | ((go_at_call 10)
               (refine hal.mono ?_)
               (rintro e wH ⟨rfl, hbH⟩)
               (clear hal)))
          go_ret
          exact ⟨by first | rfl | (simp [hb0]; done), hBG.trans (hbH.mono hBG.size)⟩
        · obtain rfl : ch = false := by rw [hch]; simp [hb0]
          have hbi : ¬ ((b : Int) = 0) := by omega
          clear hch
          go_wp2_with (first
            | ((go_at_call 10)
               (refine hal.mono ?_)
               (rintro e wH ⟨rfl, hbH⟩)
               (clear hal)))
          go_ret
          exact ⟨by first | rfl | (simp [hb0]; done), hBG.trans (hbH.mono hBG.size)⟩
    · have hbL : Below W.heap.size W (W.alloc (.cells #[.int .u8 (b : Nat)] 5)) := (Below.refl _ _).alloc (Nat.le_refl _) _
      refine stepVal (some 73) (.slice (some ⟨W.heap.size, 0, none⟩) 1 1) (W.alloc (.cells #[.int .u8 (b : Nat)] 5)) rfl rfl (by rfl) (by kernel_rfl) ⟨?_, ?_⟩
      · exact h9d.below hbL h9d.lt
      simp only [Act.put, List.setIfInBounds_toArray, List.set_cons_zero, List.set_cons_succ]
      have byL := one_byte W b
      have hbE : Below (W.alloc (.cells #[.int .u8 (b : Nat)] 5)).heap.size (W.alloc (.cells #[.int .u8 (b : Nat)] 5)) ((W.alloc (.cells #[.int .u8 (b : Nat)] 5)).alloc (.cells #[] 5)) := (Below.refl _ _).alloc (Nat.le_refl _) _
      have hbLE : Below W.heap.size W ((W.alloc (.cells #[.int .u8 (b : Nat)] 5)).alloc (.cells #[] 5)) := hbL.trans (hbE.mono hbL.size)
      have own0 := World.ownsRow_lit (base := (W.alloc (.cells #[.int .u8 (b : Nat)] 5)).heap.size) (e := 5) (size := 1) (W.alloc (.cells #[.int .u8 (b : Nat)] 5)) #[] 0 (Nat.le_refl _) (by unfold maxLen; omega) rfl
      refine ready1 6 (by kernel_rfl) (stepVal (some 69) (.slice (some ⟨(W.alloc (.cells #[.int .u8 (b : Nat)] 5)).heap.size, 0, none⟩) 0 0) ((W.alloc (.cells #[.int .u8 (b : Nat)] 5)).alloc (.cells #[] 5)) rfl rfl (by rfl) (by kernel_rfl) ⟨?_, ?_⟩)
      · exact h9d.below hbLE h9d.lt
      simp only [Act.put, List.setIfInBounds_toArray, List.set_cons_zero, List.set_cons_succ]
      have byT := (has_bytes hT9d 16 (Nat.le_refl _)).below hbLE (Nat.le_refl _)
      obtain ⟨v8, w8', hr8, own8, gr8⟩ := run_append_bytes ((W.alloc (.cells #[.int .u8 (b : Nat)] 5)).alloc (.cells #[] 5)) (W.alloc (.cells #[.int .u8 (b : Nat)] 5)).heap.size _ 0 (fun _ => 0) own0 (some ⟨w2.heap.size, 0, none⟩) 16 16 f (fun e => by cases e) byT (by omega) (by simp)
      rw [Nat.zero_add, cat_zero] at own8
      have hb8l : Below (W.alloc (.cells #[.int .u8 (b : Nat)] 5)).heap.size (W.alloc (.cells #[.int .u8 (b : Nat)] 5)) w8' := hbE.grown gr8 (by simp) (fun k' h => (own0.lt k' h).1)
      have hb8' : Below W.heap.size W w8' := hbL.trans (hb8l.mono hbL.size)
      refine ready1 8 (by kernel_rfl) (stepVal (some 71) v8 w8' rfl rfl (by rfl) (run_append_op (.tmp 69) (.tmp 70) 22 22 rfl _ _ rfl rfl v8 hr8) ⟨?_, ?_⟩)
      · exact h9d.below hb8' h9d.lt
      simp only [Act.put, List.setIfInBounds_toArray, List.set_cons_zero, List.set_cons_succ]
      have byL8 := byL.below hb8l (Nat.le_refl _)
      have own8x := own8
      obtain ⟨v11, wF, hr11, ownF, gr11⟩ := run_append_bytes w8' (W.alloc (.cells #[.int .u8 (b : Nat)] 5)).heap.size v8 16 f own8x (some ⟨W.heap.size, 0, none⟩) 1 1 (fun _ => b) (fun e => by cases e) byL8 (by omega) hb8l.size
      have hbF : Below W.heap.size W wF := hbL.trans ((hb8l.grown gr11 hb8l.size (fun k' h => (own8x.lt k' h).1)).mono hbL.size)
      refine ready1 11 (by kernel_rfl) (stepVal (some 74) v11 wF rfl rfl (by rfl) (run_append_op (.tmp 71) (.tmp 73) 22 22 rfl _ _ rfl rfl v11 hr11) ⟨?_, ?_⟩)
      · exact h9d.below hbF h9d.lt
      simp only [Act.put, List.setIfInBounds_toArray, List.set_cons_zero, List.set_cons_succ]
      obtain ⟨aF, cF, rfl, hcF, hnF, byF, _⟩ := own_bytes ownF
      have hBF : Below w.heap.size w wF := hB9d.trans (hbF.mono hB9d.size)
      have hF := h9d.below hbF h9d.lt
      have hrF := HR.out wF aF 17 cF (cat f 16 fun _ => b) false hBF (cat_lt _ _ _ HFL.out (fun _ => hb256)) byF (fun e => (hnF e).1) (strN_other _ _ 17 16 (by decide))
      refine callTo 12 (some 75) 14 #[.slice a0 l0 c0, .int .i64 s, .slice a1 l1 c1, .slice aF 17 cF] (by kernel_rfl) rfl rfl (by rfl) (by kernel_rfl) hrF ?_
      rintro e wG ⟨rfl, hbG⟩
      have hGd := hF.below hbG hF.lt
      have hBG : Below w.heap.size w wG := hBF.trans (hbG.mono hBF.size)
      refine ⟨_, rfl, hGd, ?_⟩
      clear hHeld
      have hHeld := hGd
      simp only [Act.put, List.setIfInBounds_toArray, List.set_cons_zero, List.set_cons_succ]
      refine takeTo 13 (some 12) (.bool false) rfl rfl (by kernel_rfl) (by kernel_rfl) (by kernel_rfl) (fun _ _ _ h => h) (by rfl) (fun _ _ => rfl) hHeld ?_
      simp only [Act.put, List.setIfInBounds_toArray, List.set_cons_zero, List.set_cons_succ]
      refine wpAnyH_done (by kernel_rfl) ?_ _
      have hal := halive_any wG (hG.below hBG hG.1)
      clear hHeld hrF ownF hbF hF hGd hB9d h9d hT9d hbG hBF byF
      by_cases hb0 : b = 0
      · obtain rfl : ch = true := by rw [hch]; simp [hb0]
        have hbi : (b : Int) = 0 := by omega
        clear hch
        go_wp2_with (first
          | ((go_at_call 10)
             (refine hal.mono ?_)
             (rintro e wH ⟨rfl, hbH⟩)
             (clear hal)))
        go_ret
        exact ⟨by first | rfl | (simp [hb0]; done), hBG.trans (hbH.mono hBG.size)⟩
      · obtain rfl : ch = false := by rw [hch]; simp [hb0]
        have hbi : ¬ ((b : Int) = 0) := by omega
        clear hch
        go_wp2_with (first
          | ((go_at_call 10)
             (refine hal.mono ?_)
             (rintro e wH ⟨rfl, hbH⟩)
             (clear hal)))
        go_ret
        exact ⟨by first | rfl | (simp [hb0]; done), hBG.trans (hbH.mono hBG.size)⟩
end Go.Proofs.YtpamaknclfolhaaDoor
