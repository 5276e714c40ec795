/- The law's Key: 32 bytes as a key that may be. -/
import Derived.Test.YtcnlegnfecpdnaaXtsNew
namespace Go.Proofs.Ytcnlegnfecpdnaa
open Go.ChangeShapes Go.WideShapes Go.ChangeAt Go.RowKit
set_option linter.unusedVariables false

theorem strN_iff (f g : Nat → Nat) (n : Nat) (hf : ∀ j, f j < 256) (hg : ∀ j, g j < 256) : (strN f n == strN g n) = true ↔ ∀ j, j < n → f j = g j := by
  rw [beq_iff_eq]
  constructor
  · intro h j hj
    have h1 := congrArg (fun l => l[j]?) h
    simp only [strN, List.getElem?_map, List.getElem?_range hj, Option.map_some, Option.some.injEq] at h1
    have h2 := congrArg UInt8.toNat h1
    simp only [UInt8.toNat_ofNat'] at h2
    have := hf j
    have := hg j
    omega
  · intro h
    unfold strN
    apply List.map_congr_left
    intro j hj
    rw [h j (by simpa using hj)]

/-- The two halves are one. -/
def halves (f : Nat → Nat) : Bool := strN f 16 == strN (fun j => f (16 + j)) 16

def fixK (f : Nat → Nat) : Nat → Nat := if halves f = true then upd f 0 (f 0 ^^^ 1) else f

theorem xor1_ne (x : Nat) (h : x < 256) : x ^^^ 1 < 256 ∧ x ^^^ 1 ≠ x := by
  have : ∀ x : Fin 256, x.val ^^^ 1 < 256 ∧ x.val ^^^ 1 ≠ x.val := by decide +kernel
  exact this ⟨x, h⟩

theorem fixK_lt (f : Nat → Nat) (hf : ∀ j, f j < 256) (j : Nat) : fixK f j < 256 := by
  unfold fixK
  split
  · show (if j = 0 then f 0 ^^^ 1 else f j) < 256
    split
    · exact (xor1_ne _ (hf 0)).1
    · exact hf j
  · exact hf j

theorem fixK_ok (f : Nat → Nat) (hf : ∀ j, f j < 256) : (strN (fixK f) 16 == strN (fun j => fixK f (16 + j)) 16) = false := by
  by_cases h : halves f = true
  · have h0 := (strN_iff _ _ 16 hf (fun j => hf _)).1 h 0 (by decide)
    rw [Bool.eq_false_iff]
    intro h'
    have h1 := (strN_iff _ _ 16 (fixK_lt f hf) (fun j => fixK_lt f hf _)).1 h' 0 (by decide)
    unfold fixK at h1
    rw [if_pos h] at h1
    simp only [upd] at h1
    have := (xor1_ne _ (hf 0)).2
    simp at h1
    rw [h0] at h1 this
    exact this h1
  · unfold fixK
    rw [if_neg h]
    simpa [halves] using h

theorem run_conv_str {o : Oper} {a : Act} (x : Operand) (ho : o.op = .convert 22 9 x) (v : Value) (hx : a.eval x = v) (s : ByteArray) (w : World) (h : (convert 22 9 v).run Try.prog w = .ok (.string s) w) : (execOp a.eval o).run Try.prog w = .ok (.value (.string s)) w := by
  unfold execOp
  simp only [ho, hx, Sem.run_bind, h]
  rfl

theorem run_eql_strs {o : Oper} {a : Act} (x y : Operand) (ho : o.op = .binOp .eql 9 x y 9) (s t : List UInt8) (hx : a.eval x = .string ⟨s.toArray⟩) (hy : a.eval y = .string ⟨t.toArray⟩) (c : Bool) (hc : (s == t) = c) (w : World) : (execOp a.eval o).run Try.prog w = .ok (.value (.bool c)) w := by
  subst hc
  unfold execOp
  simp only [ho, hx, hy]
  go_simp

theorem has_bytes {w : World} {g t n : Nat} {f : Nat → Nat} (h : Has w g t (cellsN .u8 n f)) (m : Nat) (hm : m ≤ n) : Bytes w (some ⟨g, 0, none⟩) m f :=
  .inr ⟨g, 0, rfl, h.lt, fun j hj => by rw [Nat.zero_add]; exact h.num j (by omega)⟩

theorem own_rowX {w : World} {base n : Nat} {v : Value} {f : Nat → Nat} (h : w.ownsRow base 5 1 v n (bl f n)) (hn : 0 < n) : ∃ g c, v = .slice (some ⟨g, 0, none⟩) n c ∧ n ≤ c ∧ g < w.heap.size ∧ (∀ j, j < n → w.cell? ⟨g, j, none⟩ = some (.int .u8 (f j : Nat))) ∧ base ≤ g ∧ w.ownsRow base 5 1 (.slice (some ⟨g, 0, none⟩) n c) n (bl f n) := by
  rcases id h.2 with ⟨_, h0⟩ | ⟨g, cap, cur, rfl, hbg, hgg, hnc, hm, hs, ht⟩
  · omega
  · exact ⟨g, cap, rfl, hnc, (Array.getElem?_eq_some_iff.1 hgg).1, fun j hj => by rw [h.cellAt j (by omega)]; exact bl_get _ _ j hj, hbg, h⟩

theorem make_bytes (n : Nat) (hn : n ≤ 1000) (w : World) : ∃ w', Has w' w.heap.size 5 (cellsN .u8 n fun _ => 0) ∧ Below w.heap.size w w' ∧
    ∀ (o : Oper) (a : Act) (l c : Operand), o.op = .makeSlice 22 l c → a.eval l = .int .i64 (n : Nat) → a.eval c = .int .i64 (n : Nat) → (execOp a.eval o).run Try.prog w = .ok (.value (.slice (some ⟨w.heap.size, 0, none⟩) n n)) w' := by
  obtain ⟨i0, hi, hz0, hz1, hz2⟩ := info_parts Try.info5
  obtain ⟨w', hrun, r1, r2⟩ := run_make_full (P := Try.prog) w w.heap.size 22 5 i0 (.int .u8 0) 1 Try.underlying22 hi hz0 hz1 .i64 .i64 n (by rw [hz2]; omega) (by unfold maxLen; omega) (Nat.le_refl _)
  rw [zero_bl] at r1
  refine ⟨w', own_has r1, (Below.refl _ _).grown r2 (Nat.le_refl _) (by intro k h; cases h), ?_⟩
  intro o a l c ho hl hc
  unfold execOp
  simp [ho, hl, hc, hrun, Result.andThen]

set_option maxRecDepth 100000 in
theorem key_any (f : Nat → Nat) (w : World) (hf : ∀ j, f j < 256) :
    Calls Try.prog 24 #[.agg (cellsN .u8 32 f)] w fun e w' => ∃ q c, e = .returned (.slice (some ⟨q, 0, none⟩) 32 c) ∧ 32 ≤ c ∧ w.heap.size ≤ q ∧ Bytes w' (some ⟨q, 0, none⟩) 32 (fixK f) ∧ Below w.heap.size w w' := by
  obtain ⟨w0, hw0⟩ : ∃ x, x = w.alloc (.cells (cellsN .u8 32 f) 43) := ⟨_, rfl⟩
  have hB0 : Below w.heap.size w w0 := by rw [hw0]; exact (Below.refl _ _).alloc (Nat.le_refl _) _
  have hF0 : Has w0 w.heap.size 43 (cellsN .u8 32 f) := by rw [hw0]; exact Has.new _ _ _
  have own0 := World.ownsRow_lit (base := w0.heap.size) (e := 5) (size := 1) w0 #[] 0 (Nat.le_refl _) (by unfold maxLen; omega) rfl
  have hbE : Below w0.heap.size w0 (w0.alloc (.cells #[] 5)) := (Below.refl _ _).alloc (Nat.le_refl _) _
  have hkb0 := (has_bytes hF0 32 (Nat.le_refl _)).below hbE (Nat.le_refl _)
  have e1 : w0.heap.size = w.heap.size + 1 := by rw [hw0]; simp
  have HE1 : Hid (w0.heap.size = w.heap.size + 1) := e1
  rw [e1] at own0
  rw [hw0] at own0 hkb0
  clear e1
  go_enter Try.func24, Try.ntmps24
  go_wp2_with (first
    | ((at_builtin)
       (have _t := own0)
       (refine wpList_append_bytes rfl _ _ rfl (w.heap.size + 1) _ 0 (fun _ => 0) rfl own0 (some ⟨w.heap.size, 0, none⟩) 32 32 f rfl (fun e => by cases e) hkb0 (by omega) (by simp) ?_)
       (intro v1 w1 own1 gr1)
       (rw [← hw0] at gr1)
       (have hb1 : Below w0.heap.size w0 w1 := hbE.grown gr1 (by simp) (fun k' h => (by have e := Option.some.inj (show some (w.heap.size + 1) = some k' from h); rw [HE1.out]; omega)))
       (rw [Nat.zero_add, cat_zero] at own1)
       (obtain ⟨g, c, rfl, hc, hg, hcell, hbg, own2⟩ := own_rowX own1 (by omega))
       (have hB1 : Below w.heap.size w w1 := hB0.trans (hb1.mono hB0.size))
       (clear own0 _t gr1 hkb0 hbE own1)))
  have own3 : w1.drew.ownsRow (w.heap.size + 1) 5 1 (.slice (some ⟨g, 0, none⟩) 32 c) 32 (bl f 32) := own_below own2 ((Below.refl w1.heap.size w1).drew) (fun k hk => (own2.lt k hk).2)
  have hB2 : Below w.heap.size w w1.drew := hB1.drew
  have h16 : Bytes w1.drew (some ⟨g, 0, none⟩) 16 f := .inr ⟨g, 0, rfl, hg, fun j hj => by rw [Nat.zero_add]; exact hcell j (by omega)⟩
  have h32 : Bytes w1.drew (some ⟨g, 0 + 16, none⟩) (32 - 16) (fun j => f (16 + j)) := .inr ⟨g, 0 + 16, rfl, hg, fun j hj => by rw [Nat.zero_add]; exact hcell (16 + j) (by omega)⟩
  refine wp_region_held_drew (S := fun wz => Bytes wz (some ⟨g, 0, none⟩) 16 f ∧ Bytes wz (some ⟨g, 0 + 16, none⟩) (32 - 16) (fun j => f (16 + j))) (by kernel_rfl) ⟨h16, h32⟩ (fun hHeld => ?_)
  refine takeTo 0 (some 7) (.slice (some ⟨g, 0, none⟩) 32 c) rfl rfl (by kernel_rfl) (by kernel_rfl) (by kernel_rfl) (fun _ _ _ h => h) (by rfl) (fun _ _ => rfl) hHeld ?_
  simp only [Act.put, List.setIfInBounds_toArray, List.set_cons_zero, List.set_cons_succ]
  refine takeTo 1 (some 8) (.slice (some ⟨g, 0, none⟩) 16 c) rfl rfl (by kernel_rfl) (by kernel_rfl) (by kernel_rfl) (fun _ _ _ h => h) (by rfl) (fun wz _ => run_slice_hiX _ _ rfl g 0 32 c 16 rfl rfl (by omega) (by omega) wz) hHeld ?_
  simp only [Act.put, List.setIfInBounds_toArray, List.set_cons_zero, List.set_cons_succ]
  refine takeTo 2 (some 9) (.string ⟨(strN f 16).toArray⟩) rfl rfl (by kernel_rfl) (by kernel_rfl) (by kernel_rfl) (fun _ _ _ h => h) (by rfl) (fun wz hz => run_conv_str _ rfl (.slice (some ⟨g, 0, none⟩) 16 c) rfl _ wz (conv_bytesN c hz.1 hf (fun e => by cases e))) hHeld ?_
  simp only [Act.put, List.setIfInBounds_toArray, List.set_cons_zero, List.set_cons_succ]
  refine takeTo 3 (some 10) (.slice (some ⟨g, 0, none⟩) 32 c) rfl rfl (by kernel_rfl) (by kernel_rfl) (by kernel_rfl) (fun _ _ _ h => h) (by rfl) (fun _ _ => rfl) hHeld ?_
  simp only [Act.put, List.setIfInBounds_toArray, List.set_cons_zero, List.set_cons_succ]
  refine takeTo 4 (some 11) (.slice (some ⟨g, 0 + 16, none⟩) (32 - 16) (c - 16)) rfl rfl (by kernel_rfl) (by kernel_rfl) (by kernel_rfl) (fun _ _ _ h => h) (by rfl) (fun wz _ => run_slice_low _ _ rfl g 0 32 c 16 rfl rfl (by omega) (by omega) wz) hHeld ?_
  simp only [Act.put, List.setIfInBounds_toArray, List.set_cons_zero, List.set_cons_succ]
  refine takeTo 5 (some 12) (.string ⟨(strN (fun j => f (16 + j)) 16).toArray⟩) rfl rfl (by kernel_rfl) (by kernel_rfl) (by kernel_rfl) (fun _ _ _ h => h) (by rfl) (fun wz hz => run_conv_str _ rfl (.slice (some ⟨g, 0 + 16, none⟩) (32 - 16) (c - 16)) rfl _ wz (conv_bytesN (c - 16) hz.2 (fun j => hf _) (fun e => by cases e))) hHeld ?_
  simp only [Act.put, List.setIfInBounds_toArray, List.set_cons_zero, List.set_cons_succ]
  refine takeTo 6 (some 13) (.bool (halves f)) rfl rfl (by kernel_rfl) (by kernel_rfl) (by kernel_rfl) (fun _ _ _ h => h) (by rfl) (fun wz _ => run_eql_strs _ _ rfl _ _ rfl rfl _ rfl wz) hHeld ?_
  simp only [Act.put, List.setIfInBounds_toArray, List.set_cons_zero, List.set_cons_succ]
  refine wpAnyH_done (by kernel_rfl) ?_ _
  clear hHeld
  by_cases hh : halves f = true
  · rw [hh]
    have hc0 : w1.drew.cell? ⟨g, 0, none⟩ = some (.int .u8 (f 0 : Nat)) := hcell 0 (by decide)
    have hfz := own3.frozenAt 0
    have hx : bits .xor .u8 ((f 0 : Nat) : Int) 1 = ((f 0 ^^^ 1 : Nat) : Int) := u8_xor_nat (f 0) 1 (hf 0) (by decide)
    have R := own3.stored 0 (.int .u8 ((f 0 ^^^ 1 : Nat) : Int))
    rw [bl_set] at R
    have hfx : fixK f = upd f 0 (f 0 ^^^ 1) := by unfold fixK; rw [if_pos hh]
    rw [← hfx] at R
    obtain ⟨R1, R2⟩ := R
    have HR : Hid (Bytes (w1.drew.setCell ⟨g, 0, none⟩ (.int .u8 ((f 0 ^^^ 1 : Nat) : Int))) (some ⟨g, 0, none⟩) 32 (fixK f)) := by
      obtain ⟨a, cap, e1, e2, e3, e4, e5⟩ := own_bytes R1
      simp only [Value.slice.injEq] at e1
      obtain ⟨rfl, _, rfl⟩ := e1
      exact e4
    have HB : Hid (Below w.heap.size w (w1.drew.setCell ⟨g, 0, none⟩ (.int .u8 ((f 0 ^^^ 1 : Nat) : Int)))) := hB2.setCell (show w.heap.size ≤ g by omega) _
    clear R1 R2 hfx hh own3 own2 hB1 hB2 h16 h32 hcell
    go_wp2
    go_ret
    exact ⟨g, c, rfl, hc, by omega, HR.out, HB.out⟩
  · have hh' : halves f = false := by simpa using hh
    rw [hh']
    have hfx : fixK f = f := by unfold fixK; rw [if_neg hh]
    clear hh
    go_wp2
    go_ret
    exact ⟨g, c, rfl, hc, by omega, by rw [hfx]; exact .inr ⟨g, 0, rfl, hg, fun j hj => by rw [Nat.zero_add]; exact hcell j hj⟩, hB2⟩
end Go.Proofs.Ytcnlegnfecpdnaa
