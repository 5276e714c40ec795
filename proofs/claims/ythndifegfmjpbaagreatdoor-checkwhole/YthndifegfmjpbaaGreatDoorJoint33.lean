/- Texts that the statements of this stage share, joined. -/
import Derived.Test.YthndifegfmjpbaaGreatDoorJoint03
import Derived.Test.YthndifegfmjpbaaGreatDoorJoint21
import Derived.Test.YthndifegfmjpbaaGreatDoorJoint32
import Derived.Test.YthndifegfmjpbaaGreatDoorJoint08
namespace Go.Proofs.YthndifegfmjpbaaGreatDoor
set_option linter.unusedVariables false
set_option maxRecDepth 100000
set_option maxHeartbeats 40000000
section
open Go.ChangeShapes Go.WideShapes Go.ChangeAt Go.RowKit Go.Shelf
def R3.cells (r : R3) : Array Value := #[.int .i64 r.d, .int .i64 r.f, .int .i64 r.c]
def Rng (w : World) (a : Option Addr) (n : Nat) (F : Nat → R3) : Prop := n = 0 ∨ ∃ b off, a = some ⟨b, off, none⟩ ∧ b < w.heap.size ∧
 ∀ i, i < n → w.cell? ⟨b, off + i * 3, none⟩ = some (.int .i64 (F i).d) ∧ w.cell? ⟨b, off + i * 3 + 1, none⟩ = some (.int .i64 (F i).f) ∧ w.cell? ⟨b, off + i * 3 + 2, none⟩ = some (.int .i64 (F i).c)
theorem Rng.below {w w' : World} {a : Option Addr} {n B : Nat} {F : Nat → R3} (h : Rng w a n F) (hb : Below B w w') (hB : w.heap.size ≤ B) : Rng w' a n F := by
 rcases h with h | ⟨b, off, rfl, hlt, hc⟩
 · exact .inl h
 · refine .inr ⟨b, off, rfl, by have := hb.size; omega, fun i hi => ?_⟩
   obtain ⟨c0, c1, c2⟩ := hc i hi
   have e : ∀ o, w'.cell? ⟨b, o, none⟩ = w.cell? ⟨b, o, none⟩ := fun o => hb.cell (p := ⟨b, o, none⟩) (by show b < B; omega)
   exact ⟨by rw [e]; exact c0, by rw [e]; exact c1, by rw [e]; exact c2⟩
theorem Rng.to {w : World} {a : Option Addr} {n m : Nat} {F : Nat → R3} (h : Rng w a n F) (hm : m ≤ n) : Rng w a m F := by
 rcases h with h | ⟨b, off, rfl, hlt, hc⟩
 · exact .inl (by omega)
 · exact .inr ⟨b, off, rfl, hlt, fun i hi => hc i (by omega)⟩
theorem Rng.at {w : World} {a : Option Addr} {n : Nat} {F : Nat → R3} (h : Rng w a n F) (i : Nat) (hi : i < n) : ∃ b off, a = some ⟨b, off, none⟩ ∧ b < w.heap.size ∧
  w.cell? ⟨b, off + i * 3, none⟩ = some (.int .i64 (F i).d) ∧ w.cell? ⟨b, off + i * 3 + 1, none⟩ = some (.int .i64 (F i).f) ∧ w.cell? ⟨b, off + i * 3 + 2, none⟩ = some (.int .i64 (F i).c) := by
 rcases h with h | ⟨b, off, rfl, hlt, hc⟩
 · omega
 · exact ⟨b, off, rfl, hlt, hc i hi⟩
theorem ovl1_c (r q : R3) (bx : Nat) (W : World) (hx : Has W bx 42 q.cells) : Calls Tryz.prog 33 #[r.v, .pointer (some ⟨bx, 0, none⟩)] W fun e W' => e = .returned (.bool (shareB r q)) ∧ Below W.heap.size W W' := by
 obtain ⟨W0, hW0⟩ : ∃ W0, W0 = W.alloc (.cells #[.int .i64 r.d, .int .i64 r.f, .int .i64 r.c] 42) := ⟨_, rfl⟩
 have hB0 : Below W.heap.size W W0 := by rw [hW0]; exact (Below.refl _ W).alloc (Nat.le_refl _) _
 obtain ⟨c0, c1, c2⟩ := threeR hx
 have hlt := hx.lt
 have hs := shares_c r q W0
 obtain ⟨rd, rf, rc⟩ := r
 obtain ⟨qd, qf, qc⟩ := q
 simp only at c0 c1 c2 hW0
 simp only [R3.v] at hs ⊢
 generalize shareB _ _ = bo at hs ⊢
 clear hx
 go_enter Tryz.func33, Tryz.ntmps33
 go_wp2_with (first
  | ((go_at_call 34)
     (rw [← hW0])
     (refine hs.mono ?_)
     (rintro e w1 ⟨rfl, hb1⟩)))
 go_ret
 exact ⟨rfl, hB0.trans (hb1.mono hB0.size)⟩
def First (n : Nat) (p : Nat → Bool) (r : Int) : Prop := (r = -1 ∧ ∀ i, i < n → p i = false) ∨ ∃ k : Nat, k < n ∧ r = k ∧ p k = true ∧ ∀ i, i < k → p i = false
theorem indexR_c (g : Nat) (cb : Array Value) (a : Option Addr) (n cap : Nat) (F : Nat → R3) (p : Nat → Bool) (w : World) (eg : ∀ args w, (callFunc g args).run Tryz.prog w = .ok (.enter g args) w) (hn : n ≤ 100000) (hl : Rng w a n F)
  (hf : ∀ (i : Nat) (W : World), i < n → Below w.heap.size w W → Calls Tryz.prog g (#[(F i).v] ++ cb) W fun e W' => e = .returned (.bool (p i)) ∧ Below W.heap.size W W') :
  Calls Tryz.prog 32 #[.slice a n cap, .func (.func g) #[] cb] w fun e w' => ∃ r : Int, e = .returned (.int .i64 r) ∧ First n p r ∧ Below w.heap.size w w' := by
 have HF : Hid (∀ (i : Nat) (W : World), i < n → Below w.heap.size w W → Calls Tryz.prog g (#[(F i).v] ++ cb) W fun e W' => e = .returned (.bool (p i)) ∧ Below W.heap.size W W') := hf
 clear hf
 go_enter Tryz.func32, Tryz.ntmps32
 go_wp2
 go_loopw [8] (fun i wr => ∃ k : Nat, k ≤ n ∧ i = .int .i64 k ∧ Hid (∀ i, i < k → p i = false) ∧ Below w.heap.size w wr) (fun i _ => n - (intOf i).toNat)
 case atStart => exact ⟨0, Nat.zero_le _, rfl, (fun t ht => absurd ht (Nat.not_lt_zero _) : ∀ t, t < 0 → p t = false), Below.refl _ _⟩
 case round =>
  obtain ⟨k, hk, rfl, HA, hb⟩ := hrel
  by_cases hlt : k < n
  · obtain ⟨b, off, rfl, hbl, c0, c1, c2⟩ := (hl.below hb (Nat.le_refl _)).at k hlt
    have hc := HF.out k _ hlt hb
    simp only [R3.v] at hc
    cases hp : p k <;> rw [hp] at hc
    · have HP : Hid (p k = false) := hp
      clear hp hl
      generalize F k = r at *
      obtain ⟨rd, rf, rc⟩ := r
      simp only at c0 c1 c2 hc
      go_wp2_with (go_at_fn g; refine hc.mono ?_; rintro e w' ⟨rfl, hb2⟩)
      go_roundw
      case rel => exact ⟨k + 1, hlt, by go_num, (fun t ht => by
       by_cases e : t < k
       · exact HA.out t e
       · obtain rfl : t = k := by omega
         exact HP.out : ∀ t, t < k + 1 → p t = false), hb.trans (hb2.mono hb.size)⟩
      case measure => simp [intOf]; omega
    · have HP : Hid (p k = true) := hp
      clear hp hl
      generalize F k = r at *
      obtain ⟨rd, rf, rc⟩ := r
      simp only at c0 c1 c2 hc
      go_wp2_with (go_at_fn g; refine hc.mono ?_; rintro e w' ⟨rfl, hb2⟩)
      go_ret
      exact ⟨k, rfl, .inr ⟨k, hlt, rfl, HP.out, HA.out⟩, hb.trans (hb2.mono hb.size)⟩
  · obtain rfl : k = n := by omega
    clear hl
    go_wp2
    go_ret
    exact ⟨-1, rfl, .inl ⟨rfl, HA.out⟩, hb⟩
end
section
open Go.ChangeShapes Go.WideShapes Go.ChangeAt Go.RowKit Go.Shelf
def Ov (n : Nat) (S : Nat → Nat → Bool) (i j : Int) : Prop := (i = -1 ∧ j = -1 ∧ ∀ b, b < n → ∀ a, a < b → S a b = false) ∨
 ∃ a b : Nat, i = a ∧ j = b ∧ a < b ∧ b < n ∧ S a b = true ∧ (∀ b', b' < b → ∀ a', a' < b' → S a' b' = false) ∧ (∀ a', a' < a → S a' b = false)
theorem Ov.eq {n : Nat} {S T : Nat → Nat → Bool} {i j p q : Int} (h : Ov n S i j) (k : Ov n T p q) (hST : ∀ b, b < n → ∀ a, a < b → S a b = T a b) : i = p ∧ j = q := by
 rcases h with ⟨rfl, rfl, h⟩ | ⟨a, b, rfl, rfl, hab, hbn, hs, hl, hm⟩
 · rcases k with ⟨rfl, rfl, k⟩ | ⟨c, d, rfl, rfl, hcd, hdn, ht, kl, km⟩
   · exact ⟨rfl, rfl⟩
   · have := h d hdn c hcd
     rw [hST d hdn c hcd, ht] at this; cases this
 · rcases k with ⟨rfl, rfl, k⟩ | ⟨c, d, rfl, rfl, hcd, hdn, ht, kl, km⟩
   · have := k b hbn a hab
     rw [← hST b hbn a hab, hs] at this; cases this
   · have hbd : b = d := by
      rcases Nat.lt_trichotomy b d with e | e | e
      · have := kl b e a hab; rw [← hST b hbn a hab, hs] at this; cases this
      · exact e
      · have := hl d e c hcd; rw [hST d hdn c hcd, ht] at this; cases this
     subst hbd
     have hac : a = c := by
      rcases Nat.lt_trichotomy a c with e | e | e
      · have := km a e; rw [← hST b hbn a hab, hs] at this; cases this
      · exact e
      · have := hm c e; rw [hST b hbn c hcd, ht] at this; cases this
     subst hac
     exact ⟨rfl, rfl⟩
def SS (F : Nat → R3) (a b : Nat) : Bool := shareB (F a) (F b)
theorem Overlap_c (a : Option Addr) (n cap : Nat) (F : Nat → R3) (w : World) (hn : n ≤ 100000) (hcap : n ≤ cap) (hcm : cap ≤ 9223372036854775807) (hl : Rng w a n F) :
  Calls Tryz.prog 17 #[.slice a n cap] w fun e w' => ∃ i j : Int, e = .returned (.tuple #[.int .i64 i, .int .i64 j]) ∧ Ov n (SS F) i j ∧ Below w.heap.size w w' := by
 go_enter Tryz.func17, Tryz.ntmps17
 go_wp2
 go_loopw [9] (fun i wr => ∃ k : Nat, k ≤ n ∧ i = .int .i64 k ∧ Hid (∀ b, b < k → ∀ a, a < b → SS F a b = false) ∧ Below w.heap.size w wr) (fun i _ => n - (intOf i).toNat)
 case atStart => exact ⟨0, Nat.zero_le _, rfl, (fun t ht => absurd ht (Nat.not_lt_zero _) : ∀ t, t < 0 → ∀ a, a < t → SS F a t = false), Below.refl _ _⟩
 case round =>
  rename_i wr
  obtain ⟨k, hk, rfl, HA, hb⟩ := hrel
  by_cases hlt : k < n
  · have hlr := hl.below hb (Nat.le_refl _)
    obtain ⟨b, off, rfl, hbl, c0, c1, c2⟩ := hlr.at k hlt
    obtain ⟨W0, hW0⟩ : ∃ W0, W0 = wr.alloc (.cells #[.int .i64 (F k).d, .int .i64 (F k).f, .int .i64 (F k).c] 42) := ⟨_, rfl⟩
    have hB0 : Below wr.heap.size wr W0 := by rw [hW0]; exact (Below.refl _ wr).alloc (Nat.le_refl _) _
    have hx0 : Has W0 wr.heap.size 42 (F k).cells := by rw [hW0]; exact Has.new _ _ _
    have hI := indexR_c 33 #[.pointer (some ⟨wr.heap.size, 0, none⟩)] (some ⟨b, off, none⟩) k cap F (fun i => SS F i k) W0 (enters_of Tryz.func33 (by kernel_rfl) rfl) (by omega) ((hlr.below hB0 (Nat.le_refl _)).to (by omega))
     (fun i W hi hbW => ovl1_c (F i) (F k) wr.heap.size W (hx0.below hbW hx0.lt))
    have HI : Hid (Calls Tryz.prog 32 #[.slice (some ⟨b, off, none⟩) k cap, .func (.func 33) #[] #[.pointer (some ⟨wr.heap.size, 0, none⟩)]] W0 fun e w' => ∃ r : Int, e = .returned (.int .i64 r) ∧ First k (fun i => SS F i k) r ∧ Below W0.heap.size W0 w') := hI
    clear hI
    generalize hFk : F k = q at c0 c1 c2 hW0
    obtain ⟨qd, qf, qc⟩ := q
    simp only at c0 c1 c2 hW0
    clear hFk hlr hl
    go_wp2_with (first
     | ((go_at_call 32)
        (rw [← hW0])
        (refine HI.out.mono ?_)
        (rintro e w1 ⟨r, rfl, hF, hb1⟩)))
    · rename_i hr
      go_ret2
      have hB1 : Below w.heap.size w w1 := hb.trans ((hB0.trans (hb1.mono hB0.size)).mono hb.size)
      rcases hF with ⟨rfl, hall⟩ | ⟨m, hm, rfl, hpm, hall⟩
      · omega
      · exact ⟨m, k, rfl, .inr ⟨m, k, rfl, rfl, hm, hlt, hpm, HA.out, hall⟩, hB1⟩
    · rename_i hr
      go_roundw
      case rel =>
       have hB1 : Below w.heap.size w w1 := hb.trans ((hB0.trans (hb1.mono hB0.size)).mono hb.size)
       refine ⟨k + 1, hlt, by go_num, ?_, hB1⟩
       rcases hF with ⟨rfl, hall⟩ | ⟨m, hm, rfl, hpm, hall⟩
       · exact (fun t ht => by
          by_cases e : t < k
          · exact HA.out t e
          · obtain rfl : t = k := by omega
            exact hall : ∀ t, t < k + 1 → ∀ a, a < t → SS F a t = false)
       · exfalso; omega
      case measure => simp [intOf]; omega
  · obtain rfl : k = n := by omega
    clear hl
    go_wp2
    go_ret2
    exact ⟨-1, -1, rfl, .inl ⟨rfl, rfl, HA.out⟩, hb⟩
end
section
open Go.ChangeShapes Go.WideShapes Go.ChangeAt Go.RowKit Go.MapKept
variable {E : Nat → Prop}
def rgF (l : List R3) (k : Nat) : R3 := l.getD k ⟨0, 0, 0⟩
theorem r3l_get (l : List R3) : ∀ (k : Nat) (hk : k < l.length), (r3l l)[k * 3]? = some (.int .i64 l[k].d) ∧ (r3l l)[k * 3 + 1]? = some (.int .i64 l[k].f) ∧ (r3l l)[k * 3 + 2]? = some (.int .i64 l[k].c) := by
 induction l with
 | nil => intro k hk; cases hk
 | cons r l ih =>
   intro k hk
   cases k with
   | zero => exact ⟨rfl, rfl, rfl⟩
   | succ k =>
     have := ih k (by simpa using hk)
     have e : r3l (r :: l) = [.int .i64 r.d, .int .i64 r.f, .int .i64 r.c] ++ r3l l := rfl
     rw [e]
     refine ⟨?_, ?_, ?_⟩
     · rw [List.getElem?_append_right (by simp; omega), show (k + 1) * 3 - [Value.int .i64 r.d, .int .i64 r.f, .int .i64 r.c].length = k * 3 by simp; omega]; exact this.1
     · rw [List.getElem?_append_right (by simp; omega), show (k + 1) * 3 + 1 - [Value.int .i64 r.d, .int .i64 r.f, .int .i64 r.c].length = k * 3 + 1 by simp; omega]; exact this.2.1
     · rw [List.getElem?_append_right (by simp; omega), show (k + 1) * 3 + 2 - [Value.int .i64 r.d, .int .i64 r.f, .int .i64 r.c].length = k * 3 + 2 by simp; omega]; exact this.2.2
theorem RgAt.rng {w : World} {base : Nat} {v : Value} {l : List R3} (h : RgAt w base v l) : ∃ A C, v = .slice A l.length C ∧ l.length ≤ C ∧ C ≤ maxLen ∧ Rng w A l.length (rgF l) := by
 by_cases h0 : 0 < l.length
 · obtain ⟨g, C, e, h1, h2, h3, _, h4⟩ := row_at h h0
   refine ⟨_, C, e, h1, h2, .inr ⟨g, 0, rfl, h3, fun i hi => ?_⟩⟩
   have := r3l_get l i hi
   have eF : rgF l i = l[i] := by unfold rgF; rw [List.getD_eq_getElem?_getD, List.getElem?_eq_getElem hi]; rfl
   rw [eF, Nat.zero_add, h4 _ (by omega), h4 _ (by omega), h4 _ (by omega)]
   exact this
 · have e0 : l.length = 0 := by omega
   rcases h.2 with ⟨e, _⟩ | ⟨b, cap, cur, e, _, _, h1, h2, _⟩
   · exact ⟨none, 0, by rw [e, e0], by omega, by unfold maxLen; omega, .inl e0⟩
   · exact ⟨_, cap, e, h1, h2, .inl e0⟩
theorem overl_ov {l : List R3} {i j : Int} (h : Ov l.length (SS (rgF l)) i j) : decide (i < 0) = !overl l := by
 rcases h with ⟨rfl, _, h⟩ | ⟨a, b, rfl, _, hab, hbn, hs, _⟩
 · have : overl l = false := by
    unfold overl
    rw [List.any_eq_false]
    intro b hb
    rw [Bool.not_eq_true, List.any_eq_false]
    intro a ha
    rw [Bool.not_eq_true]
    exact h b (List.mem_range.1 hb) a (List.mem_range.1 ha)
   rw [this]
   rfl
 · have : overl l = true := by
    unfold overl
    exact List.any_eq_true.2 ⟨b, List.mem_range.2 hbn, List.any_eq_true.2 ⟨a, List.mem_range.2 hab, hs⟩⟩
   rw [this, decide_eq_false (by omega)]
   rfl
theorem CkAt.pts {w : World} {cb : Nat} {V : CV} {c : Ck} (h : CkAt E w cb V c) (hn : 0 < c.parts.length) : ∃ g off C, V.vp = .slice (some ⟨g, off, none⟩) c.parts.length C ∧ c.parts.length ≤ C ∧ C ≤ maxLen ∧ g < w.heap.size ∧ SzAt w g off c.parts ∧ PtsAt w w.heap.size (some ⟨g, off, none⟩) c.parts := by
 obtain ⟨us, e1, hp, hin⟩ := h.prts
 obtain ⟨g, C, e, h1, h2, h3, _, h4⟩ := row_at hp hn
 refine ⟨g, 0, C, e, h1, h2, h3, fun k hk => ?_, fun i hi => ⟨g, 0, us[i]'(by omega), rfl, h3, h3, fun j hj => ?_, (hin i hi (by omega)).keep (Nat.le_refl _) (fun k hk _ => ⟨rfl, hk⟩)⟩⟩
 · rw [show 0 + k * 8 + 1 = k * 8 + 1 by omega, h4 (k * 8 + 1) (by omega), ptl_get _ us e1 k hk 1 (by decide), sz_get _ hk]
   rfl
 · rw [Nat.zero_add, h4 _ (by omega), ptl_get _ us e1 i hi j hj]
theorem PtsAt.up {w w' : World} {A : Option Addr} {ps : List Pt} (h : PtsAt w w.heap.size A ps) (hb : Below w.heap.size w w') : PtsAt w' w'.heap.size A ps := fun i hi => by
 obtain ⟨g, off, u, e, a1, a2, a3, a4⟩ := (h.keep hb) i hi
 exact ⟨g, off, u, e, Nat.lt_of_lt_of_le a1 hb.size, a2, a3, a4.keep (Nat.le_refl _) (fun k hk hP => ⟨rfl, Nat.lt_of_lt_of_le hP hb.size⟩)⟩
theorem run_load_stk {o : Oper} {a : Act} (x : Operand) (ho : o.op = .load 32 x) (g : Nat) (hx : a.eval x = .pointer (some ⟨g, 0, none⟩)) {x0 x1 x2 x3 x4 x5 x6 x7 : Value} (w : World) {t : Nat} (h : Has w g t #[x0, x1, x2, x3, x4, x5, x6, x7]) : (execOp a.eval o).run Tryz.prog w = .ok (.value (.agg #[x0, x1, x2, x3, x4])) w := by
 have q0 := h.cell 0
 have q1 := h.cell 1
 have q2 := h.cell 2
 have q3 := h.cell 3
 have q4 := h.cell 4
 simp only [ga1, gz1, gs1] at q0 q1 q2 q3 q4
 unfold execOp
 simp only [ho, hx]
 go_simp
end
section
open Go.ChangeShapes Go.WideShapes Go.ChangeAt Go.RowKit Go.MapKept
variable {E : Nat → Prop}
def HRes (w : World) (R : Except Er Stk) (e : Ending) (w' : World) : Prop := Below w.heap.size w w' ∧ match R with
 | .error (ec, ek) => e = .panicked (cflt ec ek)
 | .ok _ => e = .returned (.tuple #[])
theorem whole_none {w : World} {cb : Nat} {V : CV} {c : Ck} (h : CkAt E w cb V c) (hwf : WfR c.parts) (hno : c.jour = none ∨ c.expo = none) : Calls Tryz.prog 53 #[.pointer (some ⟨cb, 0, none⟩)] w (HRes w (cwhole c)) := by
 have HR := hidI (show cwhole c = .error (138, 0) by
  unfold cwhole
  rcases hno with e | e
  · rw [e]
  · rw [e]; cases c.jour <;> rfl)
 have c1 := h.has.cell 1
 have c3 := h.has.cell 3
 have lcb := h.has.lt
 simp only [ga1, gz1, gs1] at c1 c3
 have hno' := need_no 138 0 w
 cases hj : c.jour with
 | none =>
   rw [hj] at c1
   change w.cell? ⟨cb, 1, none⟩ = some (.int .i64 (-1)) at c1
   clear hno hj
   go_enter Tryz.func53, Tryz.ntmps53
   go_wp2_with (first
    | ((go_at_call 86)
       (refine hno'.mono ?_)
       (rintro e w3 ⟨rfl, hw3⟩)
       (obtain rfl : w = w3 := hw3.symm)))
   exact ⟨rfl, Below.refl _ _, by rw [HR.out]; rfl⟩
 | some j =>
   have hx : c.expo = none := by
    rcases hno with e | e
    · rw [hj] at e; cases e
    · exact e
   rw [hj] at c1
   rw [hx] at c3
   change w.cell? ⟨cb, 1, none⟩ = some (.int .i64 (j : Nat)) at c1
   change w.cell? ⟨cb, 3, none⟩ = some (.int .i64 (-1)) at c3
   have hj1 : ¬ ((j : Nat) : Int) = -1 := by omega
   clear hno hj hx
   go_enter Tryz.func53, Tryz.ntmps53
   go_wp2_with (first
    | ((go_at_call 86)
       (refine hno'.mono ?_)
       (rintro e w3 ⟨rfl, hw3⟩)
       (obtain rfl : w = w3 := hw3.symm)))
   exact ⟨rfl, Below.refl _ _, by rw [HR.out]; rfl⟩
theorem whole_some {w : World} {cb : Nat} {V : CV} {c : Ck} (h : CkAt E w cb V c) (hwf : WfR c.parts) (j x : Nat) (hj : c.jour = some j) (hx : c.expo = some x) (hxn0 : NdOk c.parts x) : Calls Tryz.prog 53 #[.pointer (some ⟨cb, 0, none⟩)] w (HRes w (cwhole c)) := by
 have hR : cwhole c = if 256 < (Regs c.parts x 0 (sz c.parts x)).length then .error (137, c.eat) else if overl (Regs c.parts x 0 (sz c.parts x)) then .error (136, c.eat) else .ok ⟨c.devs, j, c.parts, x, c.ro⟩ := by
  unfold cwhole
  rw [hj, hx]
 obtain ⟨g, op, Cp, evp, hCp1, hCp2, hg, hSz, hPt⟩ := h.pts (by have := hxn0.1; omega)
 have c1 := h.has.cell 1
 have c2 := h.has.cell 2
 have c3 := h.has.cell 3
 have c7 := h.has.cell 7
 have lcb := h.has.lt
 have hH0 := h.has
 have s0 := hSz x hxn0.1
 rw [hj] at c1
 rw [hx] at c3
 rw [hj, hx, evp] at hH0
 simp only [List.getElem?_toArray, List.getElem?_cons_zero, List.getElem?_cons_succ, evp] at c1 c2 c3 c7
 change w.cell? ⟨cb, 1, none⟩ = some (.int .i64 (j : Nat)) at c1
 change w.cell? ⟨cb, 3, none⟩ = some (.int .i64 (x : Nat)) at c3
 have hreg := fun W (hb : Below w.heap.size w W) => regions_c (hPt.up hb) ⟨hCp1, hCp2⟩ hwf V.vd (.int .i64 (j : Nat)) (.int .i64 (x : Nat)) (.bool c.ro) (x : Nat) 0 (sz c.parts x : Nat) (by have := hxn0.1; have := h.few.1; unfold i64ok; omega) (by unfold i64ok; omega) (by have := hxn0.2.2; unfold i64ok; omega)
 obtain ⟨NP, hNP⟩ : ∃ NP, NP = c.parts.length := ⟨_, rfl⟩
 have hxn : x < NP := by rw [hNP]; exact hxn0.1
 have hH : Has w cb 68 #[V.vd, .int .i64 (j : Nat), .slice (some ⟨g, op, none⟩) NP Cp, .int .i64 (x : Nat), .bool c.ro, .map (some V.mb), V.vb, .int .i64 c.eat] := by rw [hNP]; exact hH0
 rw [← hNP] at c2 hCp1 hreg
 obtain ⟨S, hS⟩ : ∃ S, S = sz c.parts x := ⟨_, rfl⟩
 rw [← hS] at s0 hR hreg
 generalize Regs c.parts (x : Nat) 0 (S : Nat) = rg at *
 have HR := hidI hR
 have hj1 : ¬ ((j : Nat) : Int) = -1 := by omega
 have hx1 : ¬ ((x : Nat) : Int) = -1 := by omega
 have hny := need_yes 138 0 w
 clear hNP hS hR hH0 hSz hPt evp
 go_enter Tryz.func53, Tryz.ntmps53
 go_wp2_with (first
  | ((go_at_call 86)
     (refine hny.mono ?_)
     (rintro e w3 ⟨rfl, hw3⟩)
     (obtain rfl : w = w3 := hw3.symm)))
 refine wp_region_held_drew (S := fun wz => Below w.heap.size w wz) (by kernel_rfl) ((Below.refl _ w).drew) (fun hHeld => ?_)
 refine tkT 0 (some 20) (.pointer (some ⟨cb, 0, none⟩)) rfl rfl (fun _ _ => rfl) hHeld ?_
 simp only [Act.put, sb1, sz1, ss1]
 refine tkT 1 (some 21) (.pointer (some ⟨cb, 0, none⟩)) rfl rfl (fun _ _ => rfl) hHeld ?_
 simp only [Act.put, sb1, sz1, ss1]
 refine tkT 2 (some 22) (.pointer (some ⟨cb, 0, none⟩)) rfl rfl (fun _ _ => rfl) hHeld ?_
 simp only [Act.put, sb1, sz1, ss1]
 refine tkT 3 (some 23) (.agg #[V.vd, .int .i64 (j : Nat), .slice (some ⟨g, op, none⟩) NP Cp, .int .i64 (x : Nat), .bool c.ro]) rfl rfl (fun wz hz => run_load_stk _ rfl cb rfl wz (hH.below hz hH.lt)) hHeld ?_
 simp only [Act.put, sb1, sz1, ss1]
 refine tkT 4 (some 24) (.pointer (some ⟨cb, 0, none⟩)) rfl rfl (fun _ _ => rfl) hHeld ?_
 simp only [Act.put, sb1, sz1, ss1]
 refine tkT 5 (some 25) (.pointer (some ⟨cb, 0, none⟩)) rfl rfl (fun _ _ => rfl) hHeld ?_
 simp only [Act.put, sb1, sz1, ss1]
 refine tkT 6 (some 26) (.pointer (some ⟨cb, 0, none⟩)) rfl rfl (fun _ _ => rfl) hHeld ?_
 simp only [Act.put, sb1, sz1, ss1]
 refine tkT 7 (some 27) (.pointer (some ⟨cb, 3, none⟩)) rfl rfl (fun _ _ => rfl) hHeld ?_
 simp only [Act.put, sb1, sz1, ss1]
 refine tkT 8 (some 28) (.int .i64 (x : Nat)) rfl rfl (fun wz hz => by have z0 := below_some hz c3; unfold execOp; go_simp) hHeld ?_
 simp only [Act.put, sb1, sz1, ss1]
 refine tkT 9 (some 29) (.pointer (some ⟨cb, 0, none⟩)) rfl rfl (fun _ _ => rfl) hHeld ?_
 simp only [Act.put, sb1, sz1, ss1]
 refine tkT 10 (some 30) (.pointer (some ⟨cb, 0, none⟩)) rfl rfl (fun _ _ => rfl) hHeld ?_
 simp only [Act.put, sb1, sz1, ss1]
 refine tkT 11 (some 31) (.pointer (some ⟨cb, 0, none⟩)) rfl rfl (fun _ _ => rfl) hHeld ?_
 simp only [Act.put, sb1, sz1, ss1]
 refine tkT 12 (some 32) (.pointer (some ⟨cb, 2, none⟩)) rfl rfl (fun _ _ => rfl) hHeld ?_
 simp only [Act.put, sb1, sz1, ss1]
 refine tkT 13 (some 33) (.slice (some ⟨g, op, none⟩) NP Cp) rfl rfl (fun wz hz => by have z0 := below_some hz c2; unfold execOp; go_simp) hHeld ?_
 simp only [Act.put, sb1, sz1, ss1]
 refine tkT 14 (some 34) (.pointer (some ⟨cb, 0, none⟩)) rfl rfl (fun _ _ => rfl) hHeld ?_
 simp only [Act.put, sb1, sz1, ss1]
 refine tkT 15 (some 35) (.pointer (some ⟨cb, 0, none⟩)) rfl rfl (fun _ _ => rfl) hHeld ?_
 simp only [Act.put, sb1, sz1, ss1]
 refine tkT 16 (some 36) (.pointer (some ⟨cb, 0, none⟩)) rfl rfl (fun _ _ => rfl) hHeld ?_
 simp only [Act.put, sb1, sz1, ss1]
 refine tkT 17 (some 37) (.pointer (some ⟨cb, 3, none⟩)) rfl rfl (fun _ _ => rfl) hHeld ?_
 simp only [Act.put, sb1, sz1, ss1]
 refine tkT 18 (some 38) (.int .i64 (x : Nat)) rfl rfl (fun wz hz => by have z0 := below_some hz c3; unfold execOp; go_simp) hHeld ?_
 simp only [Act.put, sb1, sz1, ss1]
 refine tkT 19 (some 39) (.pointer (some ⟨g, op + x * 8, none⟩)) rfl rfl (fun wz _ => run_at_pt _ _ rfl g op x NP Cp rfl rfl hxn wz) hHeld ?_
 simp only [Act.put, sb1, sz1, ss1]
 refine tkT 20 (some 40) (.pointer (some ⟨g, op + x * 8 + 1, none⟩)) rfl rfl (fun _ _ => rfl) hHeld ?_
 simp only [Act.put, sb1, sz1, ss1]
 refine tkT 21 (some 41) (.int .i64 (S : Nat)) rfl rfl (fun wz hz => by have z0 := below_some hz s0; unfold execOp; go_simp) hHeld ?_
 simp only [Act.put, sb1, sz1, ss1]
 refine callToP 22 (some 42) 15 #[.agg #[V.vd, .int .i64 (j : Nat), .slice (some ⟨g, op, none⟩) NP Cp, .int .i64 (x : Nat), .bool c.ro], .int .i64 (x : Nat), .int .i64 0, .int .i64 (S : Nat)] (by kernel_rfl) rfl rfl (by rfl) (by kernel_rfl) (hreg _ (below_drew (Below.refl _ w))) ?_
 rintro e w4 ⟨v, rfl, hrg, hb4', hl257⟩
 have hb4 : Below w.heap.size w w4 := (below_drew (Below.refl _ w)).trans hb4'
 obtain ⟨Ar, Cr, rfl, hr1, hr2, hrn⟩ := hrg.rng
 refine .inl ⟨_, rfl, hb4, ?_⟩
 simp only [Act.put, sb1, sz1, ss1]
 refine tkT 23 (some 2) (.slice Ar rg.length Cr) rfl rfl (fun _ _ => rfl) hb4 ?_
 simp only [Act.put, sb1, sz1, ss1]
 refine wpAnyH_done (by kernel_rfl) ?_ _
 have d7 := below_some hb4 c7
 have ld : cb < w4.heap.size := Nat.lt_of_lt_of_le lcb hb4.size
 have hov := Overlap_c Ar rg.length Cr (rgF rg) w4 (by omega) hr1 hr2 hrn
 have hOV := hidI (fun i j h => overl_ov (l := rg) (i := i) (j := j) h)
 obtain ⟨RL, hRL⟩ : ∃ RL, RL = rg.length := ⟨_, rfl⟩
 rw [← hRL] at HR hr1 hl257 hov hOV ⊢
 clear hrg hb4' hHeld hrn c1 c2 c3 c7 s0 hreg hRL hny hH
 by_cases h256 : 256 < RL
 · have HR := hidI (HR.out.trans (if_pos h256))
   have hle : ¬ ((RL : Nat) : Int) ≤ 256 := by omega
   have hno := need_no 137 c.eat w4
   go_wp2_with (first
    | ((go_at_call 86)
       (refine hno.mono ?_)
       (rintro e w3 ⟨rfl, hw3⟩)
       (obtain rfl : w4 = w3 := hw3.symm)))
   exact ⟨rfl, hb4, by rw [HR.out]; rfl⟩
 · have HR := hidI (HR.out.trans (if_neg h256))
   have hle : ((RL : Nat) : Int) ≤ 256 := by omega
   cases hO : overl rg with
   | true =>
     rw [hO] at HR hOV
     have HR := hidI (HR.out.trans (if_pos rfl))
     clear hO
     go_wp2_with (first
      | ((go_at_call 86)
         (refine at_wd w4 ?_)
         (refine (need_yes 137 c.eat w4).mono ?_)
         (rintro e w3 ⟨rfl, hw3⟩)
         (obtain rfl : w4 = w3 := hw3.symm))
      | ((go_at_call 17)
         (refine hov.mono ?_)
         (rintro e w5 ⟨i, j', rfl, hi, hb5⟩)
         (have hneg : decide (i < 0) = false := hOV.out i j' hi)
         (have d75 := below_some hb5 d7)
         (have ld5 : cb < w5.heap.size := Nat.lt_of_lt_of_le ld hb5.size))
      | ((go_at_call 86)
         (refine (need_no 136 c.eat w5).mono ?_)
         (rintro e w3 ⟨rfl, hw3⟩)
         (obtain rfl : w5 = w3 := hw3.symm)))
     exact ⟨rfl, hb4.trans (hb5.mono hb4.size), by rw [HR.out]; rfl⟩
   | false =>
     rw [hO] at HR hOV
     have HR := hidI (HR.out.trans (if_neg (by decide)))
     clear hO
     go_wp2_with (first
      | ((go_at_call 86)
         (refine at_wd w4 ?_)
         (refine (need_yes 137 c.eat w4).mono ?_)
         (rintro e w3 ⟨rfl, hw3⟩)
         (obtain rfl : w4 = w3 := hw3.symm))
      | ((go_at_call 17)
         (refine hov.mono ?_)
         (rintro e w5 ⟨i, j', rfl, hi, hb5⟩)
         (have hneg : decide (i < 0) = true := hOV.out i j' hi)
         (have d75 := below_some hb5 d7)
         (have ld5 : cb < w5.heap.size := Nat.lt_of_lt_of_le ld hb5.size))
      | ((go_at_call 86)
         (refine (need_yes 136 c.eat w5).mono ?_)
         (rintro e w3 ⟨rfl, hw3⟩)
         (obtain rfl : w5 = w3 := hw3.symm)))
     go_end0
     exact ⟨hb4.trans (hb5.mono hb4.size), by rw [HR.out]⟩
theorem whole_c {w : World} {cb : Nat} {V : CV} {c : Ck} (h : CkAt E w cb V c) (hwf : WfR c.parts) (hx : ∀ x, c.expo = some x → NdOk c.parts x) : Calls Tryz.prog 53 #[.pointer (some ⟨cb, 0, none⟩)] w (HRes w (cwhole c)) := by
 cases hj : c.jour with
 | none => exact whole_none h hwf (.inl hj)
 | some j =>
   cases he : c.expo with
   | none => exact whole_none h hwf (.inr he)
   | some x => exact whole_some h hwf j x hj he (hx x he)
end
section
open Go.ChangeShapes Go.WideShapes Go.ChangeAt Go.RowKit Go.MapKept
variable {E : Nat → Prop}
theorem cstmts_snoc (l : List Nd) (x : Nd) : ∀ c, cstmts c (l ++ [x]) = match cstmts c l with
  | .error e => .error e
  | .ok c1 => cstmt c1 x := by
 induction l with
 | nil =>
   intro c
   simp only [List.nil_append, cstmts]
   cases cstmt c x <;> rfl
 | cons y l ih =>
   intro c
   simp only [List.cons_append, cstmts]
   cases cstmt c y with
   | error e => rfl
   | ok c1 => exact ih c1
theorem cstmts_err (l r : List Nd) (e : Er) : ∀ c, cstmts c l = .error e → cstmts c (l ++ r) = .error e := by
 induction l with
 | nil => intro c h; cases h
 | cons y l ih =>
   intro c h
   simp only [List.cons_append, cstmts] at h ⊢
   cases hy : cstmt c y with
   | error e' => rw [hy] at h; exact h
   | ok c1 => rw [hy] at h; exact ih c1 h
structure StkAt (w : World) (B : Nat) (s : Stk) (vd vp : Value) : Prop where
 devs : w.ownsRow B 3 1 vd s.devs.length (s.devs.map fun d => .int .i64 (d : Nat))
 prts : ∃ us, us.length = s.parts.length ∧ w.ownsRow B 47 8 vp s.parts.length (ptl s.parts us) ∧ ∀ i (h : i < s.parts.length) (h' : i < us.length), PtIn w (fun g => B ≤ g) s.parts[i] us[i]
theorem row_base {w : World} {b b' e size n : Nat} {v : Value} {xs : List Value} (h : w.ownsRow b e size v n xs) (hb : b' ≤ b) : w.ownsRow b' e size v n xs := by
 refine ⟨h.1, ?_⟩
 rcases h.2 with h | ⟨g, cap, cur, e, h1, h2⟩
 · exact .inl h
 · exact .inr ⟨g, cap, cur, e, Nat.le_trans hb h1, h2⟩
theorem CkAt.stk {w : World} {cb B : Nat} {V : CV} {c : Ck} (h : CkAt (fun g => B ≤ g) w cb V c) (hB : B ≤ cb) (s : Stk) (e1 : s.devs = c.devs) (e2 : s.parts = c.parts) : StkAt w B s V.vd V.vp := by
 obtain ⟨us, e, hr, hi⟩ := h.prts
 refine ⟨by rw [e1]; exact row_base h.devs hB, us, by rw [e2]; exact e, by rw [e2]; exact row_base hr hB, ?_⟩
 rw [e2]
 exact fun i a b => (hi i a b).keep (Nat.le_refl _) (fun k hk hP => ⟨rfl, hP.2⟩)
theorem StkAt.keep {w w' : World} {B : Nat} {s : Stk} {vd vp : Value} (h : StkAt w B s vd vp) (hs : w.heap.size ≤ w'.heap.size) (hk : ∀ k, k < w.heap.size → B ≤ k → w'.heap[k]? = w.heap[k]?) : StkAt w' B s vd vp := by
 obtain ⟨us, e, hr, hi⟩ := h.prts
 refine ⟨row_grown h.devs (fun g o e ho => (hk g (Array.getElem?_eq_some_iff.1 ho).1 (row_lt h.devs e).2).trans ho), us, e, row_grown hr (fun g o e ho => (hk g (Array.getElem?_eq_some_iff.1 ho).1 (row_lt hr e).2).trans ho), fun i a b => (hi i a b).keep hs (fun k h1 h2 => ⟨hk k h1 h2, h2⟩)⟩
theorem cks_idle (p q r : Addr) (w : World) :
  CallsD Tryz.prog 50 #[.pointer (some p), .pointer (some q), .pointer (some r)] .returning w fun e u' w' => e = .returned (.tuple #[]) ∧ u' = .returning ∧ w' = w := by
 refine callsD_of_wpS Tryz.func50 rfl fun c₀ cs hu => ?_
 apply wpS_seq
 apply wpS_region
 simp [wpOpsS, go_sem, recoverD, hu, Tryz.ntmps50, Exit.thenS]
 apply wpS_seq
 apply wpS_seq
 apply wpS_region
 simp [wpOpsS, go_sem, Exit.thenS]
 refine wpS_cond (t := true) (by simp [Act.eval, Array.replicate]) ?_
 simp only [if_true]
 refine wpS_of_wp (wp_ret ?_)
 cases c₀
 simp_all [bodyPostS, results, Tryz.results50, Exit.thenS]
theorem assert_cflt (c k : Int) (w : World) : (Instr.typeAssert (.iface 111 (.agg #[.int .i64 c, .int .i64 k])) 20 111 true).run Tryz.prog w = .ok (.tuple #[.agg #[.int .i64 c, .int .i64 k], .bool true]) w := by kernel_rfl
theorem cks_panicking (c k : Int) (p : Nat) (x0 x1 x2 x3 x4 y z : Value) (w : World) (hp : Has w p 32 #[x0, x1, x2, x3, x4]) (hq : Has w (p + 1) 25 #[y]) (hr : Has w (p + 2) 3 #[z]) :
  CallsD Tryz.prog 50 #[.pointer (some ⟨p, 0, none⟩), .pointer (some ⟨p + 1, 0, none⟩), .pointer (some ⟨p + 2, 0, none⟩)] (.panicking (cflt c k)) w fun e u' w' =>
   e = .returned (.tuple #[]) ∧ u' = .panicking [{ v := .iface 111 (.agg #[.int .i64 c, .int .i64 k]), recovered := true }] ∧
   Has w' p 32 #[.slice none 0 0, .int .i64 0, .slice none 0 0, .int .i64 0, .bool false] ∧ Has w' (p + 1) 25 #[.int .i64 c] ∧ Has w' (p + 2) 3 #[.int .i64 k] ∧ Below p w w' := by
 have hl := hr.lt
 refine callsD_of_wpS Tryz.func50 rfl fun c₀ cs hu => ?_
 have hu' : c₀.mode = .panicking [{ v := .iface 111 (.agg #[.int .i64 c, .int .i64 k]), recovered := false }] := hu
 apply wpS_seq
 apply wpS_region
 simp [wpOpsS, go_sem, recoverD, hu', Tryz.ntmps50, Exit.thenS]
 apply wpS_seq
 apply wpS_seq
 apply wpS_region
 simp [wpOpsS, go_sem, Exit.thenS]
 refine wpS_cond (t := false) (by simp [Act.eval, Array.replicate]) ?_
 simp only [Bool.false_eq_true, if_false]
 refine wpS_of_wp (wp_skip ?_)
 simp only [Exit.thenS]
 apply wpS_seq
 apply wpS_region
 simp [wpOpsS, go_sem, Exit.thenS, assert_cflt]
 apply wpS_seq
 apply wpS_seq
 apply wpS_region
 simp [wpOpsS, go_sem, Exit.thenS]
 refine wpS_cond (t := false) (by simp [Act.eval, Array.replicate]) ?_
 simp only [Bool.false_eq_true, if_false]
 refine wpS_of_wp (wp_skip ?_)
 simp only [Exit.thenS]
 have a0 := hp.cell 0
 have a1 := hp.cell 1
 have a2 := hp.cell 2
 have a3 := hp.cell 3
 have a4 := hp.cell 4
 have b0 := hp.free 0
 have b1 := hp.free 1
 have b2 := hp.free 2
 have b3 := hp.free 3
 have b4 := hp.free 4
 have c0 := hq.cell 0
 have c1 := hq.free 0
 have d0 := hr.cell 0
 have d1 := hr.free 0
 have l0 := hp.lt
 have l1 := hq.lt
 refine wpS_of_wp ?_
 go_region
 all_goals
  refine ⟨rfl, _, rfl, _, results_none rfl _ _ _, rfl, rfl, ?_⟩
  exact ⟨has_drew ((((hp.set5 _ _ _ _ _).other (p := ⟨p + 1, 0, none⟩) (by show p ≠ p + 1; omega) _).other (p := ⟨p + 2, 0, none⟩) (by show p ≠ p + 2; omega) _).alloc _),
   has_drew ((((hq.oth5 (g' := p) (by omega) _ _ _ _ _).putP 0 _).other (p := ⟨p + 2, 0, none⟩) (by show p + 1 ≠ p + 2; omega) _).alloc _),
   has_drew ((((hr.oth5 (g' := p) (by omega) _ _ _ _ _).other (p := ⟨p + 1, 0, none⟩) (by show p + 2 ≠ p + 1; omega) _).putP 0 _).alloc _),
   b5 _ _ _ _ _ _ _ _ (by omega)⟩
theorem res_ck {tmps : Array Value} {W : World} {p q r : Nat} {x0 x1 x2 x3 x4 y z : Value} (h2 : tmps[4]?.getD undef = .pointer (some ⟨p, 0, none⟩)) (h3 : tmps[5]?.getD undef = .pointer (some ⟨q, 0, none⟩)) (h4 : tmps[6]?.getD undef = .pointer (some ⟨r, 0, none⟩))
  (ha : Has W p 32 #[x0, x1, x2, x3, x4]) (hb : Has W q 25 #[y]) (hc : Has W r 3 #[z]) : (results Tryz.f24 tmps).run Tryz.prog W = .ok (.tuple #[.agg #[x0, x1, x2, x3, x4], y, z]) W := by
 have q0 := ha.cell 0
 have q1 := ha.cell 1
 have q2 := ha.cell 2
 have q3 := ha.cell 3
 have q4 := ha.cell 4
 have r0 := hb.cell 0
 have s0 := hc.cell 0
 simp only [results, Tryz.results24]
 simp [h2, h3, h4, go_sem, q0, q1, q2, q3, q4, r0, s0]
end
end Go.Proofs.YthndifegfmjpbaaGreatDoor
