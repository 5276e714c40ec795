/- Texts that the statements of this stage share, joined: JrCont, JnCat, JnMath, JnSmall, JnLayM, JnRen, JnLay. -/
import Derived.Test.YtoiaclmfljoomaaDoorJoint02
import Derived.Test.YtoiaclmfljoomaaDoorJoint01

/- The law's content: a device's bytes. -/
namespace Go.Proofs.YtoiaclmfljoomaaDoor
open Go.ChangeShapes Go.WideShapes Go.ChangeAt Go.RowKit
set_option linter.unusedVariables false

/-- A device that can be read. -/
def Sound (s : DS) : Prop := s.dead = false ∧ (∀ i, i < s.n → s.bad i = false) ∧ (∀ i j, holds s i j < 256) ∧ s.n ≤ 2048

theorem byOf_next (C : Nat → Nat → Nat) (k j : Nat) (hj : j < 64) : C k j = byOf C (64 * k + j) := by
  unfold byOf
  rw [show (64 * k + j) / 64 = k by omega, show (64 * k + j) % 64 = j by omega]

theorem bl_extJ (f g : Nat → Nat) (n l : Nat) (h : ∀ j, j < l → g j = f (n + j)) : bl (cat f n g) (n + l) = bl f (n + l) := by
  unfold bl
  apply List.map_congr_left
  intro j hj
  have hj' : j < n + l := by simpa using hj
  unfold cat
  by_cases hn : j < n
  · rw [if_pos hn]
  · rw [if_neg hn, h (j - n) (by omega), show n + (j - n) = j by omega]

theorem below_gJ {a w w' : World} {r : Option Nat} (h : Below a.heap.size a w) (hg : w.grownBy w' r) (hr : ∀ g, r = some g → a.heap.size ≤ g) : Below a.heap.size a w' :=
  h.trans ⟨hg.os, hg.tape, hg.output, hg.size, fun k hk => hg.block k (Nat.lt_of_lt_of_le hk h.size) (fun e => by have := hr k e.symm; omega)⟩

set_option maxRecDepth 100000 in
set_option maxHeartbeats 1000000 in
theorem content_any {D : DevRep} (hD : DevOk D) (hM : DevMore D) {w : World} {p c m : Nat} {s : DS} {F : Nat → Prop} (h : Dev D w p s c m F) (hs : Sound s) :
    Calls Tryd.prog 53 #[ptr p] w fun e w' => ∃ a C, e = .returned (.slice a (64 * s.n : Nat) C) ∧ ByIn w' a (64 * s.n) C (byOf (holds s)) ∧ Below w.heap.size w w' := by
  obtain ⟨h1, h2, h3, h4⟩ := hs
  go_enter Tryd.func53, Tryd.ntmps53
  go_wp2
  go_loopw [3, 4] (fun v iv wr => ∃ k : Nat, k ≤ s.n ∧ iv = .int .i64 (k : Nat) ∧ wr.ownsRow w.heap.size 5 1 v (64 * k) (bl (byOf (holds s)) (64 * k)) ∧ Below w.heap.size w wr)
    (fun _ iv _ => s.n - (intOf iv).toNat)
  case atStart => exact ⟨0, Nat.zero_le _, rfl, ⟨rfl, .inl ⟨rfl, rfl⟩⟩, Below.refl _ _⟩
  case round =>
    obtain ⟨k, hk, rfl, hown, hbel⟩ := hrel
    have hdr := h.below hD hbel (Nat.le_refl _)
    have S1 := hM.size wr p s c m F hdr
    have ki : (0 : Int) ≤ (k : Int) ∧ (k : Int) ≤ 2048 := by omega
    by_cases hlt : k < s.n
    · have i0 : (k : Int) < (s.n : Int) := by omega
      have he : rdErr s (k : Int) = 0 := by
        unfold rdErr
        rw [h1, if_neg (by simp), if_neg (by omega), Int.toNat_natCast, h2 k hlt, if_neg (by simp)]
      go_wp2_with (first
        | ((go_at_call 37)
           (refine S1.mono ?_)
           (rintro e w1 ⟨rfl, hb1⟩)
           (clear S1)
           (have R1 := hD.read w1 p s c m F (k : Int) (hdr.below hD hb1 (Nat.le_refl _)) (by unfold i64ok; omega))
           (rw [he] at R1))
        | ((go_at_call 69)
           (refine R1.mono ?_)
           (rintro e w2 ⟨hb2, v2, rfl, (⟨hv, _⟩ | ⟨_, hv2⟩)⟩)
           (case inl => exact absurd rfl hv)
           (clear R1)
           (obtain ⟨g2, o2, c2, rfl, hc2, hg2, hB2⟩ := hv2.bytes)
           (have hb12 := hb1.trans (hb2.mono hb1.size))
           (have hown2 := own_below hown hb12 (fun g hg => (hown.lt g hg).2))
           (have hbw2 := hbel.trans (hb12.mono hbel.size)))
        | ((refine at_dst 21 rfl ?_)
           (refine wpList_append_bytes rfl _ _ rfl w.heap.size _ (64 * k) (byOf (holds s)) rfl hown2 (some ⟨g2, o2, none⟩) 64 c2 _ rfl (fun e => by cases e) hB2 (by omega) hbw2.size ?_)
           (intro v3 w3 ho3 hg3)
           (rw [bl_extJ _ _ _ _ (fun j hj => by (rw [Int.toNat_natCast]; exact byOf_next (holds s) k j hj))] at ho3)
           (have hbw3 := below_gJ hbw2 hg3 (fun g e => (hown2.lt g e).1))))
      go_roundw
      case rel => exact ⟨k + 1, by omega, by go_num, by rw [show 64 * (k + 1) = 64 * k + 64 by omega]; exact ho3, hbw3⟩
      case measure => simp [intOf]; omega
    · obtain rfl : k = s.n := by omega
      go_wp2_with (first
        | ((go_at_call 37)
           (refine S1.mono ?_)
           (rintro e w1 ⟨rfl, hb1⟩)
           (clear S1)))
      go_ret
      have hown1 := own_below hown hb1 (fun g hg => (hown.lt g hg).2)
      obtain ⟨a9, c9, rfl, hl, hn, hy, _⟩ := own_bytes hown1
      exact ⟨a9, c9, rfl, ⟨hl, by unfold maxLen; omega, hn, hy, fun j => h3 _ _⟩, hbel.trans (hb1.mono hbel.size)⟩
end Go.Proofs.YtoiaclmfljoomaaDoor

/- slices.Concat, slices.Grow of bytes. -/
namespace Go.Proofs.YtoiaclmfljoomaaDoor
open Go.ChangeShapes Go.WideShapes Go.ChangeAt Go.RowKit
set_option linter.unusedVariables false

theorem own_less {w : World} {base n : Nat} {f : Nat → Nat} {a : Option Addr} {cap : Nat} (h : w.ownsRow base 5 1 (.slice a n cap) n (bl f n)) (g : Nat → Nat) : w.ownsRow base 5 1 (.slice a 0 cap) 0 (bl g 0) := by
  refine ⟨rfl, ?_⟩
  rcases h.2 with ⟨e, _⟩ | ⟨x, cap', cur, e, h1, h2, h3, h4, h5, h6⟩
  · cases e
    exact .inl ⟨rfl, rfl⟩
  · cases e
    exact .inr ⟨x, cap, cur, rfl, h1, h2, Nat.zero_le _, h4, h5, by simp [bl]⟩

set_option maxHeartbeats 1000000 in
theorem grow_c (n : Nat) (w : World) (hn : n ≤ 100000) : Calls Tryd.prog 97 #[.slice none 0 0, .int .i64 (n : Nat)] w fun e w' => Below w.heap.size w w' ∧ ∃ v, e = .returned v ∧ w'.ownsRow w.heap.size 5 1 v 0 (bl (fun _ => 0) 0) := by
  have hn1 : (n : Int) ≤ 100000 := by omega
  by_cases h0 : 0 < n
  · have i0 : (0 : Int) < (n : Int) := by omega
    obtain ⟨v', w', hr, ho, hg⟩ := run_append_noughts w w.heap.size (.slice none 0 0) 0 (fun _ => 0) ⟨rfl, .inl ⟨rfl, rfl⟩⟩ n (by omega) (Nat.le_refl _)
    have hbel : Below w.heap.size w w' := (Below.refl _ _).grown hg (Nat.le_refl _) (by intro k h; cases h)
    rw [Nat.zero_add] at ho
    obtain ⟨a, cap, rfl, hc, _⟩ := own_bytes ho
    cases a with
    | none =>
      exfalso
      rcases ho.2 with ⟨_, e⟩ | ⟨x, cap', cur, e, _⟩
      · omega
      · cases e
    | some ad =>
      have hol := own_less ho (fun _ => 0)
      have hsl : ∀ (o : Oper) (a : Act) (x h : Operand), o.op = .slice 33 x none (some h) none → a.eval x = .slice (some ad) n cap → a.eval h = .int .i64 0 → ∀ w : World, (execOp a.eval o).run Tryd.prog w = .ok (.value (.slice (some ad) 0 cap)) w := by
        intro o a x h ho hx hh w
        unfold execOp
        simp only [ho, hx, hh, Option.map_some, Option.map_none]
        simp [Instr.sliceAt, Instr.slice, Instr.sliceBounds, Instr.sliceBound, run_underlying Tryd.underlying33, go_sem, asIntOf]
      clear ho hg
      go_enter Tryd.func97, Tryd.ntmps97
      go_wp2_with (first
        | (refine at_dst 22 rfl ?_; refine wpList_is_w (some 22) (.slice (some ad) n cap) w' rfl (by rfl) (run_append_op _ _ _ _ rfl (.slice none 0 0) (.int .i64 (n : Nat)) rfl rfl _ hr) ?_)
        | (refine at_dst 25 rfl ?_; refine wpList_is (some 25) (.slice (some ad) 0 cap) rfl (by rfl) (hsl _ _ _ _ rfl rfl rfl _) ?_))
      go_ret
      exact ⟨hbel, _, rfl, hol⟩
  · obtain rfl : n = 0 := by omega
    go_enter Tryd.func97, Tryd.ntmps97
    go_wp2
    go_ret
    exact ⟨Below.refl _ _, _, rfl, rfl, .inl ⟨rfl, rfl⟩⟩

def sumL (L : Nat → Nat) : Nat → Nat
  | 0 => 0
  | k + 1 => sumL L k + L k

def catS (L : Nat → Nat) (f : Nat → Nat → Nat) : Nat → Nat → Nat
  | 0 => fun _ => 0
  | k + 1 => cat (catS L f k) (sumL L k) (f k)

theorem sumL_mono (L : Nat → Nat) : ∀ {k n : Nat}, k ≤ n → sumL L k ≤ sumL L n
  | k, n, h => by
    induction n with
    | zero => obtain rfl : k = 0 := by omega
              exact Nat.le_refl _
    | succ n ih =>
      by_cases e : k = n + 1
      · subst e
        exact Nat.le_refl _
      · have := ih (by omega)
        show sumL L k ≤ sumL L n + L n
        omega

set_option maxRecDepth 100000 in
set_option maxHeartbeats 1000000 in
theorem concat_c (n : Nat) (A : Nat → Option Addr) (L C : Nat → Nat) (f : Nat → Nat → Nat) (w : World) (x cc : Nat) (hn : n ≤ 8) (hx : x < w.heap.size) (hcell : ∀ i, i < n → w.cell? ⟨x, i, none⟩ = some (.slice (A i) (L i) (C i))) (hb : ∀ i, i < n → Bytes w (A i) (L i) (f i)) (hnil : ∀ i, i < n → A i = none → L i = 0 ∧ C i = 0) (htot : sumL L n ≤ 100000) :
    Calls Tryd.prog 67 #[.slice (some ⟨x, 0, none⟩) n cc] w fun e w' => Below w.heap.size w w' ∧ ∃ v, e = .returned v ∧ w'.ownsRow w.heap.size 5 1 v (sumL L n) (bl (catS L f n) (sumL L n)) := by
  have hn1 : (n : Int) ≤ 8 := by omega
  have hgw := grow_c (sumL L n) w htot
  go_enter Tryd.func67, Tryd.ntmps67
  go_wp2
  go_loopw [3, 11] (fun t iv wr => ∃ k : Nat, k ≤ n ∧ iv = .int .i64 (k : Nat) ∧ t = .int .i64 (sumL L k : Nat) ∧ wr = w)
    (fun _ iv _ => n - (intOf iv).toNat)
  case atStart => exact ⟨0, Nat.zero_le _, rfl, rfl, rfl⟩
  case round =>
    obtain ⟨k, hk, rfl, rfl, hwr⟩ := hrel
    obtain rfl : w = wr := hwr.symm
    by_cases hlt : k < n
    · have i0 : (k : Int) < (n : Int) := by omega
      have i1 : (0 : Int) ≤ (k : Int) := by omega
      have hc := hcell k hlt
      have hm := sumL_mono L (k := k + 1) (n := n) (by omega)
      have hm2 : sumL L k + L k ≤ 100000 := Nat.le_trans hm htot
      have e1 : ((sumL L (k + 1) : Nat) : Int) = ((sumL L k : Nat) : Int) + ((L k : Nat) : Int) := by
        show ((sumL L k + L k : Nat) : Int) = _
        omega
      have HE : Hid (((sumL L (k + 1) : Nat) : Int) = ((sumL L k : Nat) : Int) + ((L k : Nat) : Int)) := e1
      clear hm hgw hcell hb hnil htot e1
      generalize A k = Ak at hc
      generalize C k = Ck at hc
      generalize sumL L k = X at hm2 HE
      generalize L k = Lk at hc hm2 HE
      have hm3 : (X : Int) + (Lk : Int) ≤ 100000 := by omega
      have hm4 : ¬ (X : Int) + (Lk : Int) < 0 := by omega
      go_wp2
      go_roundw
      case rel => exact ⟨k + 1, by omega, by go_num, by rw [HE.out], trivial⟩
      case measure => simp [intOf]; omega
    · obtain rfl : k = n := by omega
      go_wp2_with (first
        | ((go_at_call 97)
           (refine hgw.mono ?_)
           (rintro e w1 ⟨hb1, v1, rfl, ho1⟩)
           (clear hgw)))
      go_loopw [6, 27] (fun t iv wz => ∃ i : Nat, i ≤ k ∧ iv = .int .i64 (i : Nat) ∧ wz.ownsRow w.heap.size 5 1 t (sumL L i) (bl (catS L f i) (sumL L i)) ∧ Below w.heap.size w wz)
        (fun _ iv _ => k - (intOf iv).toNat)
      case atStart => exact ⟨0, Nat.zero_le _, rfl, ho1, hb1⟩
      case round =>
        rename World => wz
        obtain ⟨i, hi, rfl, hown, hbel⟩ := hrel
        clear ho1
        by_cases hlt2 : i < k
        · have i0 : (i : Int) < (k : Int) := by omega
          have i1 : (0 : Int) ≤ (i : Int) := by omega
          have hc := (hbel.cell (p := ⟨x, i, none⟩) hx).trans (hcell i hlt2)
          have hB := (hb i hlt2).below hbel (Nat.le_refl _)
          have hm := sumL_mono L (k := i + 1) (n := k) (by omega)
          have hm2 : sumL L i + L i ≤ 100000 := Nat.le_trans hm htot
          go_wp2_with (first
            | ((refine at_dst 33 rfl ?_)
               (refine wpList_append_bytes rfl _ _ rfl w.heap.size _ (sumL L i) (catS L f i) rfl hown (A i) (L i) (C i) (f i) rfl (hnil i hlt2) hB (by omega) hbel.size ?_)
               (intro v3 w3 ho3 hg3)
               (have hb3 := below_gJ hbel hg3 (fun g e => (hown.lt g e).1))))
          go_roundw
          case rel => exact ⟨i + 1, by omega, by go_num, ho3, hb3⟩
          case measure => simp [intOf]; omega
        · obtain rfl : i = k := by omega
          go_wp2
          go_ret
          exact ⟨hbel, _, rfl, hown⟩
end Go.Proofs.YtoiaclmfljoomaaDoor

/- What a journal writes, phase by phase, and what power leaves of it: reckoning alone. -/
namespace Go.Proofs.YtoiaclmfljoomaaDoor
set_option linter.unusedVariables false

/-- Bytes up to E, noughts behind. -/
def clr (E : Nat) (I : Nat → Nat) : Nat → Nat := fun k => if k < E then I k else 0

theorem clr_lt (E : Nat) (I : Nat → Nat) (h : ∀ k, I k < 256) (k : Nat) : clr E I k < 256 := by
  unfold clr
  split
  · exact h k
  · decide

theorem stands_clr {dg : Nat → (Nat → Nat) → Nat → Nat} {I : Nat → Nat} {N : Nat} {rs ss : List RC} (h : Stands dg I N (rs ++ ss)) : Stands dg (clr (endOf 0 rs) I) N rs := by
  obtain ⟨h1, h2, h3, h4⟩ := h
  have h5 := JLaid.append.1 h1
  rw [endOf_append] at h3
  refine ⟨h5.1.congr (fun k _ hk => by unfold clr; rw [if_pos hk]), fun r hr => h2 r (List.mem_append_left _ hr), Nat.le_trans (endOf_ge _ _) h3, fun k hk _ => by unfold clr; rw [if_neg (by omega)]⟩

/-- What a phase of writes of an image's sectors a to b is. -/
def PhOk (I : Nat → Nat) (a b : Nat) (base : Nat → Nat → Nat) (ph : List AE × AE) : Prop :=
  ph.2.sync = true ∧ (∀ e ∈ ph.1, e.sync = false ∧ a ≤ e.i ∧ e.i < b ∧ ∀ j, j < 64 → e.b j = I (64 * e.i + j)) ∧ (∀ i, a ≤ i → i < b → ∀ j, j < 64 → ph.1.foldl upF base i j = I (64 * i + j)) ∧ ph.1.length ≤ b - a

def PhsOk (I : Nat → Nat) : List (Nat × Nat) → (Nat → Nat → Nat) → List (List AE × AE) → Prop
  | [], _, [] => True
  | p :: ps, base, ph :: phs => PhOk I p.1 p.2 base ph ∧ PhsOk I ps (ph.1.foldl upF base) phs
  | _, _, _ => False

theorem fold_out : ∀ (l : List AE) (base : Nat → Nat → Nat) (i : Nat), (∀ e ∈ l, e.sync = false → e.i ≠ i) → l.foldl upF base i = base i
  | [], base, i, h => rfl
  | e :: l, base, i, h => by
    rw [List.foldl_cons, fold_out l _ i (fun d hd => h d (List.mem_cons_of_mem _ hd))]
    unfold upF
    by_cases hs : e.sync = false ∧ i = e.i
    · exact absurd hs.2.symm (h e (List.mem_cons_self ..) hs.1)
    · rw [if_neg hs]

theorem PhOk.other {I : Nat → Nat} {a b : Nat} {base : Nat → Nat → Nat} {ph : List AE × AE} (h : PhOk I a b base ph) (i : Nat) (hi : ¬ (a ≤ i ∧ i < b)) : ph.1.foldl upF base i = base i :=
  fold_out _ _ _ (fun e he _ hei => hi (by have := h.2.1 e he; omega))

theorem PhsOk.sync {I : Nat → Nat} : ∀ {ps : List (Nat × Nat)} {base : Nat → Nat → Nat} {phs : List (List AE × AE)}, PhsOk I ps base phs → ∀ p ∈ phs, p.2.sync = true
  | [], base, [], h, p, hp => by cases hp
  | [], base, ph :: phs, h, p, hp => h.elim
  | q :: ps, base, [], h, p, hp => h.elim
  | q :: ps, base, ph :: phs, h, p, hp => by
    rcases List.mem_cons.1 hp with rfl | h2
    · exact h.1.1
    · exact h.2.sync p h2

/-- All phases. -/
def foldP (phs : List (List AE × AE)) (base : Nat → Nat → Nat) : Nat → Nat → Nat := (phs.flatMap phL).foldl upF base

theorem foldP_cons (ph : List AE × AE) (phs : List (List AE × AE)) (base : Nat → Nat → Nat) (h : ph.2.sync = true) : foldP (ph :: phs) base = foldP phs (ph.1.foldl upF base) := by
  unfold foldP
  rw [List.flatMap_cons, List.foldl_append]
  unfold phL
  rw [fold_snoc_sync _ _ h]

/-- Behind them: in the parts the image, else what was there. -/
theorem PhsOk.fold {I : Nat → Nat} : ∀ {ps : List (Nat × Nat)} {base : Nat → Nat → Nat} {phs : List (List AE × AE)}, PhsOk I ps base phs → ∀ i j, j < 64 → (foldP phs base i j = I (64 * i + j) ∧ (∃ p ∈ ps, p.1 ≤ i ∧ i < p.2)) ∨ (foldP phs base i j = base i j ∧ ∀ p ∈ ps, ¬ (p.1 ≤ i ∧ i < p.2))
  | [], base, [], h, i, j, hj => .inr ⟨rfl, fun p hp => by cases hp⟩
  | [], base, ph :: phs, h, i, j, hj => h.elim
  | q :: ps, base, [], h, i, j, hj => h.elim
  | q :: ps, base, ph :: phs, h, i, j, hj => by
    rw [foldP_cons ph phs base h.1.1]
    rcases h.2.fold i j hj with ⟨h1, p, hp, h2⟩ | ⟨h1, h2⟩
    · exact .inl ⟨h1, p, List.mem_cons_of_mem _ hp, h2⟩
    · by_cases hq : q.1 ≤ i ∧ i < q.2
      · exact .inl ⟨by rw [h1]; exact h.1.2.2.1 i hq.1 hq.2 j hj, q, List.mem_cons_self .., hq⟩
      · refine .inr ⟨by rw [h1, h.1.other i hq], fun p hp => ?_⟩
        rcases List.mem_cons.1 hp with rfl | h3
        · exact hq
        · exact h2 p h3

theorem PhsOk.len {I : Nat → Nat} : ∀ {ps : List (Nat × Nat)} {base : Nat → Nat → Nat} {phs : List (List AE × AE)}, PhsOk I ps base phs → (phs.flatMap phL).length ≤ (ps.map fun p => p.2 - p.1 + 1).sum
  | [], base, [], h => by simp
  | [], base, ph :: phs, h => h.elim
  | q :: ps, base, [], h => h.elim
  | q :: ps, base, ph :: phs, h => by
    have h1 := h.1.2.2.2
    have h2 := h.2.len
    rw [List.flatMap_cons, List.length_append, List.map_cons, List.sum_cons]
    unfold phL at h2 ⊢
    rw [List.length_append, List.length_singleton]
    omega

theorem safe_phases : ∀ (phs : List (List AE × AE)) (l : List AE), SafeL l → (∀ p ∈ phs, p.2.sync = true) → SafeL (l ++ phs.flatMap phL)
  | [], l, h, hp => by
    rw [List.flatMap_nil, List.append_nil]
    exact h
  | ph :: phs, l, h, hp => by
    rw [List.flatMap_cons, ← List.append_assoc]
    exact safe_phases phs _ (.inr ⟨l ++ ph.1, ph.2, by unfold phL; rw [List.append_assoc], hp ph (List.mem_cons_self ..)⟩) (fun p h2 => hp p (List.mem_cons_of_mem _ h2))

theorem safe_phases' (ph : List AE × AE) (phs : List (List AE × AE)) (l : List AE) (hp : ∀ p ∈ ph :: phs, p.2.sync = true) : SafeL (l ++ (ph :: phs).flatMap phL) := by
  rw [List.flatMap_cons, ← List.append_assoc]
  exact safe_phases phs _ (.inr ⟨l ++ ph.1, ph.2, by unfold phL; rw [List.append_assoc], hp ph (List.mem_cons_self ..)⟩) (fun p h2 => hp p (List.mem_cons_of_mem _ h2))

/-- Torn within a phase: each sector as it was, or as the image has it. -/
theorem PhOk.torn {I : Nat → Nat} {a b : Nat} {base C : Nat → Nat → Nat} {ph : List AE × AE} (h : PhOk I a b base ph) (ht : TornBy base ph.1 C) (i : Nat) : C i = base i ∨ (a ≤ i ∧ i < b ∧ ∀ j, j < 64 → C i j = I (64 * i + j)) := by
  rcases ht i with h1 | ⟨e, he, h1, h2, h3⟩
  · exact .inl h1
  · obtain ⟨_, h4, h5, h6⟩ := h.2.1 e he
    subst h2
    exact .inr ⟨h4, h5, fun j hj => by rw [h3]; exact h6 j hj⟩

/-- The sectors below n hold the image. -/
def SecEq (n : Nat) (C : Nat → Nat → Nat) (X : Nat → Nat) : Prop := ∀ i, i < n → ∀ j, j < 64 → C i j = X (64 * i + j)

theorem secEq_by {n : Nat} {C : Nat → Nat → Nat} {X : Nat → Nat} (h : SecEq n C X) (k : Nat) (hk : k < 64 * n) : byOf C k = X k := by
  unfold byOf
  rw [h (k / 64) (by omega) (k % 64) (by omega)]
  congr 1
  omega

theorem by_secEq {n : Nat} {C : Nat → Nat → Nat} {X : Nat → Nat} (h : ∀ k, k < 64 * n → byOf C k = X k) : SecEq n C X := by
  intro i hi j hj
  have := h (64 * i + j) (by omega)
  unfold byOf at this
  rwa [show (64 * i + j) / 64 = i by omega, show (64 * i + j) % 64 = j by omega] at this

theorem phOut_append {base C : Nat → Nat → Nat} : ∀ {ps qs : List (List AE × AE)}, (∀ p ∈ ps, p.2.sync = true) → PhOut base (ps ++ qs) C → (∃ p ∈ ps, True) ∧ (PhOut base ps C) ∨ PhOut (foldP ps base) qs C
  | [], qs, hp, h => .inr h
  | p :: ps, qs, hp, h => by
    rcases h with h1 | h1
    · exact .inl ⟨⟨p, List.mem_cons_self .., trivial⟩, .inl h1⟩
    · rw [foldP_cons p ps base (hp p (List.mem_cons_self ..))]
      rcases phOut_append (fun q hq => hp q (List.mem_cons_of_mem _ hq)) h1 with ⟨_, h2⟩ | h2
      · exact .inl ⟨⟨p, List.mem_cons_self .., trivial⟩, .inr h2⟩
      · exact .inr h2

/-- Phases that write what is there leave it. -/
theorem PhsOk.same {X : Nat → Nat} {n : Nat} {C : Nat → Nat → Nat} : ∀ {ps : List (Nat × Nat)} {base : Nat → Nat → Nat} {phs : List (List AE × AE)}, PhsOk X ps base phs → SecEq n base X → (PhOut base phs C → SecEq n C X) ∧ SecEq n (foldP phs base) X
  | [], base, [], h, hb => ⟨fun hc => by obtain rfl : C = base := hc; exact hb, hb⟩
  | [], base, ph :: phs, h, hb => h.elim
  | q :: ps, base, [], h, hb => h.elim
  | q :: ps, base, ph :: phs, h, hb => by
    have hb2 : SecEq n (ph.1.foldl upF base) X := by
      intro i hi j hj
      by_cases hq : q.1 ≤ i ∧ i < q.2
      · exact h.1.2.2.1 i hq.1 hq.2 j hj
      · rw [h.1.other i hq]
        exact hb i hi j hj
    obtain ⟨r1, r2⟩ := h.2.same hb2
    refine ⟨fun hc => ?_, by rw [foldP_cons ph phs base h.1.1]; exact r2⟩
    rcases hc with hc | hc
    · intro i hi j hj
      rcases h.1.torn hc i with h3 | ⟨_, _, h3⟩
      · rw [h3]
        exact hb i hi j hj
      · exact h3 j hj
    · exact r1 hc

/-- A flush that is torn: up to the first new head as it was, or all is there. -/
theorem flush_out {I : Nat → Nat} {n at_ E : Nat} {base C : Nat → Nat → Nat} {phs : List (List AE × AE)} (hE : 64 * at_ ≤ E) (hn : at_ < n) (hb : SecEq n base (clr E I)) (h : PhsOk I [(0, 0), (at_ + 1, n), (at_, at_ + 1)] base phs) (ho : PhOut base phs C) :
    (∀ i, i ≤ at_ → ∀ j, j < 64 → C i j = clr E I (64 * i + j)) ∨ SecEq n C I := by
  match phs, h, ho with
  | [p1, p2, p3], h, ho =>
    obtain ⟨h1, h2, h3, _⟩ := h
    have e1 : ∀ i, p1.1.foldl upF base i = base i := fun i => h1.other i (by show ¬ (0 ≤ i ∧ i < 0); omega)
    rcases ho with ho | ho | ho | ho
    · refine .inl fun i hi j hj => ?_
      rcases h1.torn ho i with h5 | ⟨_, h5, _⟩
      · rw [h5]
        exact hb i (by omega) j hj
      · exact absurd h5 (Nat.not_lt_zero _)
    · refine .inl fun i hi j hj => ?_
      rcases h2.torn ho i with h5 | ⟨h5, _, _⟩
      · rw [h5, e1]
        exact hb i (by omega) j hj
      · exact absurd (show at_ + 1 ≤ i from h5) (by omega)
    · have e2 : ∀ i, i ≤ at_ → p2.1.foldl upF (p1.1.foldl upF base) i = base i := fun i hi => by
        rw [h2.other i (by show ¬ (at_ + 1 ≤ i ∧ i < n); omega), e1]
      have e3 : ∀ i, at_ < i → i < n → ∀ j, j < 64 → p2.1.foldl upF (p1.1.foldl upF base) i j = I (64 * i + j) := fun i h5 h6 j hj => h2.2.2.1 i h5 h6 j hj
      rcases h3.torn ho at_ with h5 | ⟨_, _, h5⟩
      · refine .inl fun i hi j hj => ?_
        rcases h3.torn ho i with h6 | ⟨h6, h7, _⟩
        · rw [h6, e2 i hi]
          exact hb i (by omega) j hj
        · obtain rfl : i = at_ := by
            have h6' : at_ ≤ i := h6
            omega
          rw [h5, e2 i hi]
          exact hb i (by omega) j hj
      · refine .inr fun i hi j hj => ?_
        by_cases hia : i = at_
        · subst hia
          exact h5 j hj
        · rcases h3.torn ho i with h6 | ⟨_, _, h6⟩
          · rw [h6]
            by_cases hlt : i < at_
            · rw [e2 i (by omega), hb i hi j hj]
              unfold clr
              rw [if_pos (by omega)]
            · exact e3 i (by omega) hi j hj
          · exact h6 j hj
    · refine .inr fun i hi j hj => ?_
      have ho' : C = p3.1.foldl upF (p2.1.foldl upF (p1.1.foldl upF base)) := ho
      rw [ho']
      by_cases hia : i = at_
      · subst hia
        exact h3.2.2.1 i (Nat.le_refl _) (Nat.lt_succ_self _) j hj
      · rw [h3.other i (by show ¬ (at_ ≤ i ∧ i < at_ + 1); omega)]
        by_cases hlt : i < at_
        · rw [h2.other i (by show ¬ (at_ + 1 ≤ i ∧ i < n); omega), e1, hb i hi j hj]
          unfold clr
          rw [if_pos (by omega)]
        · exact h2.2.2.1 i (by show at_ + 1 ≤ i; omega) hi j hj

/-- The parts of a settling. -/
def setParts (n E : Nat) : List (Nat × Nat) := [(E / 64, min (E / 64 + 1) n), (0, E / 64), (min (E / 64 + 1) n, n)]

/-- An opening that is torn: all as it was, or blank at the end. -/
theorem open_out {B : Nat → Nat} {n E : Nat} {base C : Nat → Nat → Nat} {phs : List (List AE × AE)} (hE : E ≤ 64 * n) (hb : SecEq n base B) (h : PhsOk (clr E B) ((0, 0) :: setParts n E) base phs) (ho : PhOut base phs C) :
    SecEq n C B ∨ (∀ i, i ≤ E / 64 → i < n → ∀ j, j < 64 → C i j = clr E B (64 * i + j)) := by
  have hlow : ∀ i, i < E / 64 → ∀ j, j < 64 → B (64 * i + j) = clr E B (64 * i + j) := fun i hi j hj => by
    unfold clr
    rw [if_pos (by omega)]
  unfold setParts at h
  match phs, h, ho with
  | [p1, p2, p3, p4], h, ho =>
    obtain ⟨h1, h2, h3, h4, _⟩ := h
    have e1 : ∀ i, p1.1.foldl upF base i = base i := fun i => h1.other i (by show ¬ (0 ≤ i ∧ i < 0); omega)
    have e2 : ∀ i, i < n → i ≠ E / 64 → p2.1.foldl upF (p1.1.foldl upF base) i = base i := fun i hi hne => by
      rw [h2.other i (by show ¬ (E / 64 ≤ i ∧ i < min (E / 64 + 1) n); omega), e1]
    have e2a : E / 64 < n → ∀ j, j < 64 → p2.1.foldl upF (p1.1.foldl upF base) (E / 64) j = clr E B (64 * (E / 64) + j) := fun hlt j hj => h2.2.2.1 _ (Nat.le_refl _) (show E / 64 < min (E / 64 + 1) n by omega) j hj
    have e3 : ∀ i, i ≤ E / 64 → i < n → ∀ j, j < 64 → p3.1.foldl upF (p2.1.foldl upF (p1.1.foldl upF base)) i j = clr E B (64 * i + j) := fun i hi hlt j hj => by
      by_cases hia : i = E / 64
      · subst hia
        rw [h3.other _ (by show ¬ (0 ≤ E / 64 ∧ E / 64 < E / 64); omega)]
        exact e2a hlt j hj
      · exact h3.2.2.1 i (Nat.zero_le _) (show i < E / 64 by omega) j hj
    rcases ho with ho | ho | ho | ho | ho
    · refine .inl fun i hi j hj => ?_
      rcases h1.torn ho i with h5 | ⟨_, h5, _⟩
      · rw [h5]
        exact hb i hi j hj
      · exact absurd h5 (Nat.not_lt_zero _)
    · by_cases hlt : E / 64 < n
      · rcases h2.torn ho (E / 64) with h5 | ⟨_, _, h5⟩
        · refine .inl fun i hi j hj => ?_
          rcases h2.torn ho i with h6 | ⟨h6, h7, _⟩
          · rw [h6, e1]
            exact hb i hi j hj
          · obtain rfl : i = E / 64 := by
              have h6' : E / 64 ≤ i := h6
              have h7' : i < min (E / 64 + 1) n := h7
              omega
            rw [h5, e1]
            exact hb _ hi j hj
        · refine .inr fun i hi hin j hj => ?_
          by_cases hia : i = E / 64
          · subst hia
            exact h5 j hj
          · rcases h2.torn ho i with h6 | ⟨h6, h7, _⟩
            · rw [h6, e1, hb i hin j hj]
              exact hlow i (by omega) j hj
            · have h6' : E / 64 ≤ i := h6
              omega
      · refine .inl fun i hi j hj => ?_
        rcases h2.torn ho i with h6 | ⟨h6, h7, _⟩
        · rw [h6, e1]
          exact hb i hi j hj
        · have h6' : E / 64 ≤ i := h6
          omega
    · refine .inr fun i hi hin j hj => ?_
      rcases h3.torn ho i with h6 | ⟨_, _, h6⟩
      · rw [h6]
        by_cases hia : i = E / 64
        · subst hia
          exact e2a hin j hj
        · rw [e2 i hin hia, hb i hin j hj]
          exact hlow i (by omega) j hj
      · exact h6 j hj
    · refine .inr fun i hi hin j hj => ?_
      rcases h4.torn ho i with h6 | ⟨h6, _, _⟩
      · rw [h6]
        exact e3 i hi hin j hj
      · have h6' : min (E / 64 + 1) n ≤ i := h6
        omega
    · refine .inr fun i hi hin j hj => ?_
      have ho' : C = p4.1.foldl upF (p3.1.foldl upF (p2.1.foldl upF (p1.1.foldl upF base))) := ho
      rw [ho', h4.other i (by show ¬ (min (E / 64 + 1) n ≤ i ∧ i < n); omega)]
      exact e3 i hi hin j hj

/-- Behind a settling the device holds the image. -/
theorem set_fold {X : Nat → Nat} {n E : Nat} {base : Nat → Nat → Nat} {phs : List (List AE × AE)} (h : PhsOk X ((0, 0) :: setParts n E) base phs) : SecEq n (foldP phs base) X := by
  intro i hi j hj
  rcases h.fold i j hj with ⟨h1, _⟩ | ⟨_, h2⟩
  · exact h1
  · exfalso
    unfold setParts at h2
    have a1 := h2 (E / 64, min (E / 64 + 1) n) (by simp)
    have a2 := h2 (0, E / 64) (by simp)
    have a3 := h2 (min (E / 64 + 1) n, n) (by simp)
    have a1' : ¬ (E / 64 ≤ i ∧ i < min (E / 64 + 1) n) := a1
    have a2' : ¬ (0 ≤ i ∧ i < E / 64) := a2
    have a3' : ¬ (min (E / 64 + 1) n ≤ i ∧ i < n) := a3
    omega

/-- Behind a flush the device holds all of the image. -/
theorem flush_fold {I : Nat → Nat} {n at_ E : Nat} {base : Nat → Nat → Nat} {phs : List (List AE × AE)} (hE : 64 * at_ ≤ E) (hb : SecEq n base (clr E I)) (h : PhsOk I [(0, 0), (at_ + 1, n), (at_, at_ + 1)] base phs) : SecEq n (foldP phs base) I := by
  intro i hi j hj
  rcases h.fold i j hj with ⟨h1, _⟩ | ⟨h1, h2⟩
  · exact h1
  · have a1 := h2 (at_ + 1, n) (by simp)
    have a2 := h2 (at_, at_ + 1) (by simp)
    have a1' : ¬ (at_ + 1 ≤ i ∧ i < n) := a1
    have a2' : ¬ (at_ ≤ i ∧ i < at_ + 1) := a2
    rw [h1, hb i hi j hj]
    unfold clr
    rw [if_pos (by omega)]

/-! Lists of records that are one. -/
def rsame : List RC → List RC → Prop
  | [], [] => True
  | r :: rs, s :: ss => (r.L = s.L ∧ ∀ j, j < r.L → r.f j = s.f j) ∧ rsame rs ss
  | _, _ => False

theorem rsame_refl : ∀ rs : List RC, rsame rs rs
  | [] => trivial
  | r :: rs => ⟨⟨rfl, fun _ _ => rfl⟩, rsame_refl rs⟩

theorem rsame_symm : ∀ {rs ss : List RC}, rsame rs ss → rsame ss rs
  | [], [], h => trivial
  | r :: rs, s :: ss, h => ⟨⟨h.1.1.symm, fun j hj => (h.1.2 j (by rw [h.1.1]; exact hj)).symm⟩, rsame_symm h.2⟩
  | [], s :: ss, h => h.elim
  | r :: rs, [], h => h.elim

theorem rsame_trans : ∀ {rs ss ts : List RC}, rsame rs ss → rsame ss ts → rsame rs ts
  | [], [], [], _, _ => trivial
  | r :: rs, s :: ss, t :: ts, h, k => ⟨⟨h.1.1.trans k.1.1, fun j hj => (h.1.2 j hj).trans (k.1.2 j (by rw [← h.1.1]; exact hj))⟩, rsame_trans h.2 k.2⟩
  | [], s :: ss, _, h, _ => h.elim
  | r :: rs, [], _, h, _ => h.elim
  | r :: rs, s :: ss, [], _, k => k.elim
  | [], [], t :: ts, _, k => k.elim

theorem rsame_len : ∀ {rs ss : List RC}, rsame rs ss → rs.length = ss.length
  | [], [], _ => rfl
  | r :: rs, s :: ss, h => by simp [rsame_len h.2]
  | [], s :: ss, h => h.elim
  | r :: rs, [], h => h.elim

theorem rsame_get : ∀ {rs ss : List RC}, rsame rs ss → ∀ (i : Nat) (r s : RC), rs[i]? = some r → ss[i]? = some s → r.L = s.L ∧ ∀ j, j < r.L → r.f j = s.f j
  | r :: rs, s :: ss, h, 0, a, b, ha, hb => by
    simp at ha hb
    subst ha hb
    exact h.1
  | r :: rs, s :: ss, h, i + 1, a, b, ha, hb => rsame_get h.2 i a b (by simpa using ha) (by simpa using hb)
  | [], [], h, i, a, b, ha, hb => by simp at ha
  | [], s :: ss, h, _, _, _, _, _ => h.elim
  | r :: rs, [], h, _, _, _, _, _ => h.elim

theorem rsame_append : ∀ {rs ss ts us : List RC}, rsame rs ss → rsame ts us → rsame (rs ++ ts) (ss ++ us)
  | [], [], ts, us, _, k => k
  | r :: rs, s :: ss, ts, us, h, k => ⟨h.1, rsame_append h.2 k⟩
  | [], s :: ss, _, _, h, _ => h.elim
  | r :: rs, [], _, _, h, _ => h.elim

theorem rsame_take : ∀ {rs ss : List RC} (k : Nat), rsame rs ss → rsame (rs.take k) (ss.take k)
  | _, _, 0, _ => by simp [rsame]
  | [], [], k + 1, _ => trivial
  | r :: rs, s :: ss, k + 1, h => ⟨h.1, rsame_take k h.2⟩
  | [], s :: ss, _, h => h.elim
  | r :: rs, [], _, h => h.elim

theorem endOf_same : ∀ {rs ss : List RC} (p : Nat), rsame rs ss → endOf p rs = endOf p ss
  | [], [], p, _ => rfl
  | r :: rs, s :: ss, p, h => by
    show endOf (p + 8 + jrnd r.L) rs = endOf (p + 8 + jrnd s.L) ss
    rw [h.1.1]
    exact endOf_same _ h.2
  | [], s :: ss, _, h => h.elim
  | r :: rs, [], _, h => h.elim

theorem posOf_same : ∀ {rs ss : List RC} (p : Nat), rsame rs ss → posOf p rs = posOf p ss
  | [], [], p, _ => rfl
  | r :: rs, s :: ss, p, h => by
    show (p, r.L) :: posOf (p + 8 + jrnd r.L) rs = (p, s.L) :: posOf (p + 8 + jrnd s.L) ss
    rw [h.1.1, posOf_same _ h.2]
  | [], s :: ss, _, h => h.elim
  | r :: rs, [], _, h => h.elim

theorem JLaid.same {dg : Nat → (Nat → Nat) → Nat → Nat} (hdg : ∀ L f g, (∀ j, j < L → f j = g j) → dg L f = dg L g) {B : Nat → Nat} : ∀ {rs ss : List RC} {p : Nat}, rsame rs ss → JLaid dg B p rs → JLaid dg B p ss
  | [], [], p, _, _ => trivial
  | r :: rs, s :: ss, p, h, ⟨h1, h2, h3, h4, h5⟩ => by
    have hL := h.1.1
    refine ⟨h1.trans hL, fun j hj => ?_, fun j hj => ?_, ?_, ?_⟩
    · rw [h2 j hj, hL, hdg s.L r.f s.f (fun i hi => h.1.2 i (by rw [hL]; exact hi))]
    · rw [h3 j (by rw [hL]; exact hj)]
      exact h.1.2 j (by rw [hL]; exact hj)
    · rw [← hL]
      exact h4
    · rw [← hL]
      exact JLaid.same hdg h.2 h5
  | [], s :: ss, _, h, _ => h.elim
  | r :: rs, [], _, h, _ => h.elim

theorem sized_same {rs ss : List RC} (h : rsame rs ss) (hs : Sized rs) : Sized ss := by
  intro s hs2
  obtain ⟨i, hi⟩ := List.mem_iff_getElem?.1 hs2
  have hlt : i < rs.length := by
    rw [rsame_len h]
    exact (List.getElem?_eq_some_iff.1 hi).1
  obtain ⟨r, hr⟩ : ∃ r, rs[i]? = some r := ⟨_, List.getElem?_eq_getElem hlt⟩
  have := rsame_get h i r s hr hi
  have h2 := hs r (List.mem_of_getElem? hr)
  rw [this.1] at h2
  exact h2

theorem Stands.same {dg : Nat → (Nat → Nat) → Nat → Nat} (hdg : ∀ L f g, (∀ j, j < L → f j = g j) → dg L f = dg L g) {B : Nat → Nat} {N : Nat} {rs ss : List RC} (h : rsame rs ss) (hs : Stands dg B N rs) : Stands dg B N ss := by
  obtain ⟨h1, h2, h3, h4⟩ := hs
  rw [endOf_same 0 h] at h3 h4
  exact ⟨JLaid.same hdg h h1, sized_same h h2, h3, h4⟩

theorem Stands.congr {dg : Nat → (Nat → Nat) → Nat → Nat} {B B' : Nat → Nat} {N : Nat} {rs : List RC} (h : Stands dg B N rs) (hB : ∀ k, k < N → B' k = B k) : Stands dg B' N rs := by
  obtain ⟨h1, h2, h3, h4⟩ := h
  exact ⟨h1.congr (fun k _ hk => hB k (by omega)), h2, h3, fun k h5 h6 => (hB k h6).trans (h4 k h5 h6)⟩

/-- The records that bytes tell are those that were laid. -/
theorem recs_laid {dg : Nat → (Nat → Nat) → Nat → Nat} {B : Nat → Nat} : ∀ {rs : List RC} {p : Nat}, JLaid dg B p rs → rsame (recsOf B (posOf p rs)) rs
  | [], p, _ => trivial
  | r :: rs, p, ⟨h1, h2, h3, h4, h5⟩ => ⟨⟨rfl, h3⟩, recs_laid h5⟩

/-- The records of a device's bytes. -/
def told (dg : Nat → (Nat → Nat) → Nat → Nat) (B : Nat → Nat) (N : Nat) : List RC := recsOf B (reads dg B N 0).1
def toldEnd (dg : Nat → (Nat → Nat) → Nat → Nat) (B : Nat → Nat) (N : Nat) : Nat := (reads dg B N 0).2

theorem told_laid (dg : Nat → (Nat → Nat) → Nat → Nat) (B : Nat → Nat) (N : Nat) : JLaid dg B 0 (told dg B N) ∧ endOf 0 (told dg B N) = toldEnd dg B N ∧ Sized (told dg B N) ∧ toldEnd dg B N ≤ N := by
  obtain ⟨h1, h2, h3, h4⟩ := readF_laid (dg := dg) (B := B) (N := N) (N + 1) 0
  exact ⟨h1, h2, h3, h4 (Nat.zero_le _)⟩

theorem told_stands {dg : Nat → (Nat → Nat) → Nat → Nat} (hdg : ∀ L f g, (∀ j, j < L → f j = g j) → dg L f = dg L g) (B : Nat → Nat) (N : Nat) : Stands dg (clr (toldEnd dg B N) B) N (told dg B N) := by
  obtain ⟨h1, h2, h3, h4⟩ := told_laid dg B N
  refine ⟨h1.congr (fun k _ hk => by rw [h2] at hk; unfold clr; rw [if_pos hk]), h3, by rw [h2]; exact h4, fun k hk _ => by rw [h2] at hk; unfold clr; rw [if_neg (by omega)]⟩

theorem stands_told {dg : Nat → (Nat → Nat) → Nat → Nat} (hdg : ∀ L f g, (∀ j, j < L → f j = g j) → dg L f = dg L g) {B : Nat → Nat} {N : Nat} {rs : List RC} (h : Stands dg B N rs) (hN : N % 8 = 0) : rsame (told dg B N) rs ∧ toldEnd dg B N = endOf 0 rs := by
  have hr := stands_reads hdg h hN
  unfold told toldEnd
  rw [hr]
  exact ⟨recs_laid h.1, rfl⟩

/-- Bytes that are alike up to the end, and blank there, tell the same. -/
theorem told_torn {dg : Nat → (Nat → Nat) → Nat → Nat} (hdg : ∀ L f g, (∀ j, j < L → f j = g j) → dg L f = dg L g) {B B' : Nat → Nat} {N E : Nat} {rs : List RC} (hN : N % 8 = 0) (hs : Stands dg B N rs) (hE : E = endOf 0 rs) (h1 : ∀ k, k < E → B' k = B k) (h2 : ∀ j, j < 4 → E + j < N → B' (E + j) = 0) : rsame (told dg B' N) rs := by
  subst hE
  have hr := torn_reads hdg hs hN h1 h2
  unfold told
  rw [hr]
  exact recs_laid (hs.1.congr (fun k _ hk => h1 k hk))

theorem told_congr {dg : Nat → (Nat → Nat) → Nat → Nat} (hdg : ∀ L f g, (∀ j, j < L → f j = g j) → dg L f = dg L g) {B B' : Nat → Nat} {N : Nat} (hB : ∀ k, k < N → B' k = B k) : rsame (told dg B' N) (told dg B N) := by
  have hno : okAt dg B N (toldEnd dg B N) = false := by
    unfold toldEnd reads
    have : ∀ (fuel p : Nat), N < p + fuel → okAt dg B N (readF dg B N fuel p).2 = false := by
      intro fuel
      induction fuel with
      | zero => intro p hp; exact okAt_end (by show N < p + 8; omega)
      | succ f ih =>
        intro p hp
        by_cases hk : okAt dg B N p = true
        · rw [readF, if_pos hk]
          exact ih _ (by have := nextAt_lt B p; omega)
        · rw [readF, if_neg hk]
          simpa using hk
    exact this (N + 1) 0 (by omega)
  obtain ⟨h1, h2, h3, h4⟩ := told_laid dg B N
  have hno' : okAt dg B' N (toldEnd dg B N) = false := by
    cases hk : okAt dg B' N (toldEnd dg B N) with
    | false => rfl
    | true =>
      obtain ⟨a1, a2, a3, a4, a5, a6⟩ := (okAt_iff dg B' N _).1 hk
      generalize toldEnd dg B N = E at hno a1 a2 a3 a4 a5 a6
      have hc : cntAt B' E = cntAt B E := by
        unfold cntAt
        rw [hB E (by omega), hB (E + 1) (by omega), hB (E + 2) (by omega), hB (E + 3) (by omega)]
      have hx : nextAt B' E = nextAt B E := by unfold nextAt; rw [hc]
      rw [hc] at a2 a3 a5 a6
      rw [hx] at a4
      have hr := jrnd_ge (cntAt B E)
      have a4' : E + 8 + jrnd (cntAt B E) ≤ N := a4
      have : okAt dg B N E = true := by
        rw [okAt_iff]
        refine ⟨a1, a2, a3, a4, fun j hj => ?_, fun k hk2 => ?_⟩
        · rw [← hB (E + 4 + j) (by omega), ← a5 j hj, hdg (cntAt B E) (fun i => B (E + 8 + i)) (fun i => B' (E + 8 + i)) (fun i hi => (hB _ (by omega)).symm)]
        · rw [← hB _ (by omega)]
          exact a6 k hk2
      rw [this] at hno
      cases hno
  have hl := h1.congr (B' := B') (fun k _ hk => hB k (by rw [h2] at hk; omega))
  have hr := laid_reads hdg hl h3 (by rw [h2]; exact h4) (by rw [h2]; exact hno')
  have e : told dg B' N = recsOf B' (posOf 0 (told dg B N)) := by
    rw [show told dg B' N = recsOf B' (reads dg B' N 0).1 from rfl, hr]
  rw [e]
  exact recs_laid hl

/-! A record as it stands. -/
def formF (dg : Nat → (Nat → Nat) → Nat → Nat) (r : RC) : Nat → Nat := fun j => if j < 4 then r.L / 256 ^ (3 - j) % 256 else if j < 8 then dg r.L r.f (j - 4) else if j < 8 + r.L then r.f (j - 8) else 0

theorem cnt_form (L : Nat) (hL : L < 4294967296) : ((L / 256 ^ 3 % 256 * 256 + L / 256 ^ 2 % 256) * 256 + L / 256 ^ 1 % 256) * 256 + L / 256 ^ 0 % 256 = L := by
  simp only [Nat.reducePow, Nat.div_one]
  omega

theorem form_laid {dg : Nat → (Nat → Nat) → Nat → Nat} {I : Nat → Nat} {p : Nat} {r : RC} (hL : r.L ≤ 8192) (h : ∀ j, j < 8 + jrnd r.L → I (p + j) = formF dg r j) : JLaid dg I p [r] := by
  have hr := jrnd_ge r.L
  refine ⟨?_, fun j hj => ?_, fun j hj => ?_, fun k hk => ?_, trivial⟩
  · unfold cntAt
    have h0 := h 0 (by omega)
    have h1 := h 1 (by omega)
    have h2 := h 2 (by omega)
    have h3 := h 3 (by omega)
    rw [Nat.add_zero] at h0
    rw [h0, h1, h2, h3]
    exact cnt_form r.L (by omega)
  · rw [show p + 4 + j = p + (4 + j) by omega, h (4 + j) (by omega)]
    unfold formF
    rw [if_neg (by omega), if_pos (by omega), show 4 + j - 4 = j by omega]
  · rw [show p + 8 + j = p + (8 + j) by omega, h (8 + j) (by omega)]
    unfold formF
    rw [if_neg (by omega), if_neg (by omega), if_pos (by omega), show 8 + j - 8 = j by omega]
  · rw [show p + 8 + r.L + k = p + (8 + r.L + k) by omega, h _ (by omega)]
    unfold formF
    rw [if_neg (by omega), if_neg (by omega), if_neg (by omega)]

/-- One more. -/
theorem stands_add {dg : Nat → (Nat → Nat) → Nat → Nat} {I I' : Nat → Nat} {N : Nat} {rs : List RC} {r : RC} (h : Stands dg I N rs) (h1 : 1 ≤ r.L) (hL : r.L ≤ 8192) (hN : endOf 0 rs + 8 + jrnd r.L ≤ N) (hI : ∀ k, k < N → I' k = if endOf 0 rs ≤ k ∧ k < endOf 0 rs + (8 + jrnd r.L) then formF dg r (k - endOf 0 rs) else I k) : Stands dg I' N (rs ++ [r]) := by
  obtain ⟨a1, a2, a3, a4⟩ := h
  have he : endOf 0 (rs ++ [r]) = endOf 0 rs + 8 + jrnd r.L := by rw [endOf_append]; rfl
  refine ⟨JLaid.append.2 ⟨a1.congr (fun k _ hk => ?_), form_laid hL (fun j hj => ?_)⟩, ?_, by rw [he]; exact hN, fun k hk hkN => ?_⟩
  · rw [hI k (by omega), if_neg (by omega)]
  · rw [hI _ (by omega), if_pos (by omega), show endOf 0 rs + j - endOf 0 rs = j by omega]
  · intro q hq
    rcases List.mem_append.1 hq with h2 | h2
    · exact a2 q h2
    · obtain rfl : q = r := by simpa using h2
      exact ⟨h1, hL⟩
  · rw [he] at hk
    rw [hI k hkN, if_neg (by omega)]
    exact a4 k (by omega) hkN
end Go.Proofs.YtoiaclmfljoomaaDoor

/- journal: size and span; how records lie in rows. -/
namespace Go.Proofs.YtoiaclmfljoomaaDoor
open Go.ChangeShapes Go.WideShapes Go.ChangeAt Go.RowKit
set_option linter.unusedVariables false

theorem size_j (a : Option Addr) (L C : Nat) (w : World) (h : L ≤ 1000000) : Calls Tryd.prog 41 #[.slice a L C] w fun e w' => e = .returned (.int .i64 ((8 + jrnd L : Nat) : Int)) ∧ w' = w := by
  have e1 : ((8 + jrnd L : Nat) : Int) = (8 + (L : Int) + 8 - 1) / 8 * 8 := by unfold jrnd; omega
  rw [e1]
  have h2 : (L : Int) ≤ 1000000 := by omega
  go_enter Tryd.func41, Tryd.ntmps41
  go_wp2
  go_ret
  exact ⟨rfl, rfl⟩

/-- A row of slices, of which only the lengths matter. -/
def Sl (w : World) (a : Option Addr) (rs : List RC) : Prop := ∀ (i : Nat) (r : RC), rs[i]? = some r → ∃ x o ad C, a = some ⟨x, o, none⟩ ∧ x < w.heap.size ∧ w.cell? ⟨x, o + i, none⟩ = some (.slice ad r.L C)

theorem Rl.sl {w : World} {a : Option Addr} {rs : List RC} (h : Rl w a rs) : Sl w a rs := fun i r hi => by
  obtain ⟨x, o, ad, C, h1, h2, h3, _⟩ := h.2 i r hi
  exact ⟨x, o, ad, C, h1, h2, h3⟩

set_option maxRecDepth 100000 in
set_option maxHeartbeats 1000000 in
theorem span_j {w : World} {a : Option Addr} {n c : Nat} {rs : List RC} (h : Sl w a rs) (e : n = rs.length) (hn : n ≤ 1000000) (hs : Sized rs) (hE : endOf 0 rs ≤ 1000000) :
    Calls Tryd.prog 42 #[.slice a n c] w fun e w' => e = .returned (.int .i64 (endOf 0 rs : Nat)) ∧ w' = w := by
  have E : Hid (n = rs.length) := e
  clear e
  go_enter Tryd.func42, Tryd.ntmps42
  go_wp2
  go_loopw [3, 8] (fun t iv wr => ∃ k : Nat, k ≤ n ∧ iv = .int .i64 (k : Nat) ∧ t = .int .i64 (endOf 0 (rs.take k) : Nat) ∧ wr = w)
    (fun _ iv _ => n - (intOf iv).toNat)
  case atStart => exact ⟨0, Nat.zero_le _, rfl, rfl, rfl⟩
  case round =>
    obtain ⟨k, hk, rfl, rfl, hwr⟩ := hrel
    obtain rfl : w = wr := hwr.symm
    by_cases hlt : k < n
    · obtain ⟨r, hr⟩ : ∃ r, rs[k]? = some r := ⟨_, List.getElem?_eq_getElem (by rw [← E.out]; exact hlt)⟩
      obtain ⟨x, o, A1, C1, rfl, hx, x2⟩ := h k r hr
      have i0 : (k : Int) < (n : Int) := by omega
      have i1 : (0 : Int) ≤ (k : Int) := by omega
      have hle := endOf_take_le rs 0 (k + 1)
      have hst := endOf_take rs 0 k r hr
      have hrn := size_j A1 r.L C1 w (by have := hs r (List.mem_of_getElem? hr); omega)
      have hrd : r.L ≤ 8192 := (hs r (List.mem_of_getElem? hr)).2
      have hri : ((8 + jrnd r.L : Nat) : Int) ≤ 8208 := by have := jrnd_lt r.L; omega
      have HS : Hid (endOf 0 (rs.take (k + 1)) = endOf 0 (rs.take k) + (8 + jrnd r.L)) := by show endOf 0 (rs.take (k + 1)) = endOf 0 (rs.take k) + (8 + jrnd r.L); omega
      have hE2 : ((endOf 0 (rs.take k) : Nat) : Int) ≤ 1000000 := by omega
      clear hst hle h hs
      generalize hX : endOf 0 (rs.take k) = X at hE2 HS
      generalize hY : 8 + jrnd r.L = Y at hri HS hrn
      generalize r.L = L1 at x2 hrn hrd
      go_wp2_with (first
        | ((go_at_call 41)
           (refine hrn.mono ?_)
           (rintro e wz ⟨rfl, hz⟩)
           (obtain rfl : w = wz := hz.symm)))
      go_roundw
      case rel => exact ⟨k + 1, by omega, by go_num, by rw [HS.out]; simp, trivial⟩
      case measure => simp [intOf]; omega
    · obtain rfl : k = n := by omega
      go_wp2
      go_ret
      refine ⟨?_, rfl⟩
      rw [E.out, List.take_length]
      rfl

theorem equal_j {w : World} {a1 a2 : Option Addr} {l1 l2 : Nat} {f g : Nat → Nat} (c1 c2 : Nat) (h1 : Bytes w a1 l1 f) (h2 : Bytes w a2 l2 g) (hf : ∀ j, f j < 256) (hg : ∀ j, g j < 256) (n1 : a1 = none → l1 = 0) (n2 : a2 = none → l2 = 0) :
    Calls Tryd.prog 70 #[.slice a1 l1 c1, .slice a2 l2 c2] w fun e w' => e = .returned (.bool (strN f l1 == strN g l2)) ∧ w' = w := by
  have k1 := conv_bytesN c1 h1 hf n1
  have k2 := conv_bytesN c2 h2 hg n2
  clear h1 h2 n1 n2 hf hg
  go_enter Tryd.func70, Tryd.ntmps70
  go_wp2
  go_ret
  exact ⟨rfl, rfl⟩

/-- Does f begin with g? -/
def prefB (f : Nat → Nat) (n : Nat) (g : Nat → Nat) (m : Nat) : Bool := decide (m ≤ n) && (strN f m == strN g m)

theorem prefix_j {w : World} {b o : Nat} {l1 l2 c1 c2 : Nat} {a2 : Option Addr} {f g : Nat → Nat} (h1 : Bytes w (some ⟨b, o, none⟩) l1 f) (hc : l1 ≤ c1) (h2 : Bytes w a2 l2 g) (hf : ∀ j, f j < 256) (hg : ∀ j, g j < 256) (n2 : a2 = none → l2 = 0) (hl : l1 ≤ 1000000) :
    Calls Tryd.prog 115 #[.slice (some ⟨b, o, none⟩) l1 c1, .slice a2 l2 c2] w fun e w' => e = .returned (.bool (prefB f l1 g l2)) ∧ w' = w := by
  unfold prefB
  by_cases hle : l2 ≤ l1
  · have hB : Bytes w (some ⟨b, o, none⟩) l2 f := by
      have := h1.part 0 l2 (by omega)
      simpa using this
    have E1 := equal_j c1 c2 hB h2 hf hg (fun e => by cases e) n2
    have i0 : (l2 : Int) ≤ (l1 : Int) := by omega
    have d1 : decide (l2 ≤ l1) = true := decide_eq_true hle
    rw [d1]
    have i1 : l2 ≤ c1 := by omega
    clear d1 h1 h2 hf hg n2 hB
    generalize (strN f l2 == strN g l2) = R at E1
    go_enter Tryd.func115, Tryd.ntmps115
    go_wp2_with (first
      | ((go_at_call 70)
         (refine E1.mono ?_)
         (rintro e wz ⟨rfl, hz⟩)
         (obtain rfl : w = wz := hz.symm)))
    go_ret
    exact ⟨by simp, rfl⟩
  · have i0 : ¬ (l2 : Int) ≤ (l1 : Int) := by omega
    have d1 : decide (l2 ≤ l1) = false := decide_eq_false hle
    rw [d1]
    clear d1 h1 h2 hf hg n2
    go_enter Tryd.func115, Tryd.ntmps115
    go_wp2
    go_ret
    exact ⟨rfl, rfl⟩
end Go.Proofs.YtoiaclmfljoomaaDoor

/- What lay leaves on a device: reckoning alone. -/
namespace Go.Proofs.YtoiaclmfljoomaaDoor
set_option linter.unusedVariables false

/-- All that came are bytes. -/
def Byt (s : DS) : Prop := (∀ i j, s.fst i j < 256) ∧ ∀ e ∈ s.log, ∀ j, e.b j < 256

theorem fold_byt : ∀ (l : List AE) (f : Nat → Nat → Nat), (∀ i j, f i j < 256) → (∀ e ∈ l, ∀ j, e.b j < 256) → ∀ i j, l.foldl upF f i j < 256
  | [], f, hf, hl, i, j => hf i j
  | e :: l, f, hf, hl, i, j => by
    rw [List.foldl_cons]
    refine fold_byt l _ (fun i j => ?_) (fun d hd => hl d (List.mem_cons_of_mem _ hd)) i j
    unfold upF
    split
    · exact hl e (List.mem_cons_self ..) j
    · exact hf i j

theorem Byt.holds {s : DS} (h : Byt s) (i j : Nat) : holds s i j < 256 := fold_byt s.log s.fst h.1 h.2 i j

theorem left_byt (keep : Nat → Bool) (l : List AE) (f : Nat → Nat → Nat) (hf : ∀ i j, f i j < 256) (hl : ∀ e ∈ l, ∀ j, e.b j < 256) (i j : Nat) : left keep 0 l f i j < 256 := by
  rcases left_or keep l 0 f i with h | ⟨e, he, _, _, h⟩
  · rw [h]
    exact hf i j
  · rw [h]
    exact hl e he j

theorem Byt.cut {s : DS} (h : Byt s) (keep : Nat → Bool) : Byt (cutD s keep) := ⟨left_byt keep s.log s.fst h.1 h.2, fun e he => by cases he⟩

theorem Byt.cutAt {s : DS} (h : Byt s) (n : Int) (keep : Nat → Bool) : Byt (cutAtD s n keep) := ⟨left_byt keep _ s.fst h.1 (fun e he => h.2 e (upTo_mem _ _ e he)), fun e he => by cases he⟩

theorem byt_fresh (n : Nat) : Byt (fresh n) := ⟨fun _ _ => Nat.zero_lt_succ _, fun e he => by cases he⟩

/-- A device behind a lay of parts of an image. -/
def LayD (s s' : DS) (m m' : Nat) (I : Nat → Nat) (parts : List (Nat × Nat)) : Prop :=
  ∃ phs, PhsOk I ((0, 0) :: parts) (holds s) phs ∧ s'.n = s.n ∧ s'.fst = s.fst ∧ s'.dead = s.dead ∧ s'.log = s.log ++ phs.flatMap phL ∧ (∀ i, s'.bad i = true → s.bad i = true) ∧ (∀ q ∈ parts, ∀ i, q.1 ≤ i → i < q.2 → s'.bad i = false) ∧ (Byt s → Byt s') ∧ m' ≤ m + (parts.map fun q => q.2 - q.1).sum

/-- Within a part: the sectors from a up to i. -/
def Part (s s' : DS) (m m' : Nat) (I : Nat → Nat) (a i : Nat) (l : List AE) : Prop :=
  s'.n = s.n ∧ s'.fst = s.fst ∧ s'.dead = s.dead ∧ s'.log = s.log ++ l ∧ (∀ e ∈ l, (e.sync = false ∧ a ≤ e.i ∧ e.i < i ∧ ∀ j, j < 64 → e.b j = I (64 * e.i + j)) ∧ ∀ j, e.b j < 256) ∧ (∀ i', a ≤ i' → i' < i → ∀ j, j < 64 → l.foldl upF (holds s) i' j = I (64 * i' + j)) ∧ l.length ≤ i - a ∧ (∀ i', s'.bad i' = true → s.bad i' = true) ∧ (∀ i', a ≤ i' → i' < i → s'.bad i' = false) ∧ m' ≤ m + (i - a)

/-- What a writer leaves: the sector written, or as it was where it holds that already. -/
def Wrote (s s' : DS) (m m' i : Nat) (b : Nat → Nat) : Prop := (s' = s ∧ m' = m ∧ s.bad i = false ∧ ∀ j, j < 64 → holds s i j = b j) ∨ (s' = wroteD s i (full b 64) (m + 1) ∧ m' = m + 1)

theorem holds_of_log {s s' : DS} {l : List AE} (h1 : s'.fst = s.fst) (h2 : s'.log = s.log ++ l) : holds s' = l.foldl upF (holds s) := by
  unfold holds
  rw [h1, h2, List.foldl_append]

theorem Part.start (s : DS) (m : Nat) (I : Nat → Nat) (a : Nat) : Part s s m m I a a [] :=
  ⟨rfl, rfl, rfl, (List.append_nil _).symm, fun e he => (by cases he), fun i h1 h2 => (by omega), Nat.zero_le _, fun i h => h, fun i h1 h2 => (by omega), by omega⟩

theorem Part.step {s s1 s2 : DS} {m m1 m2 : Nat} {I : Nat → Nat} {a i : Nat} {l : List AE} (h : Part s s1 m m1 I a i l) (hi : a ≤ i) (hw : Wrote s1 s2 m1 m2 i (fun j => I (64 * i + j))) (hI : ∀ k, I k < 256) : ∃ l', Part s s2 m m2 I a (i + 1) l' := by
  obtain ⟨h1, h2, h3, h4, h5, h6, h7, h8, h9, h10⟩ := h
  rcases hw with ⟨rfl, rfl, hb, hh⟩ | ⟨rfl, rfl⟩
  · rw [holds_of_log h2 h4] at hh
    refine ⟨l, h1, h2, h3, h4, fun e he => ⟨⟨(h5 e he).1.1, (h5 e he).1.2.1, by have := (h5 e he).1.2.2.1; omega, (h5 e he).1.2.2.2⟩, (h5 e he).2⟩, fun i' ha hi' j hj => ?_, by omega, h8, fun i' ha hi' => ?_, by omega⟩
    · by_cases hii : i' = i
      · subst hii
        exact hh j hj
      · exact h6 i' ha (by omega) j hj
    · by_cases hii : i' = i
      · subst hii
        exact hb
      · exact h9 i' ha (by omega)
  · refine ⟨l ++ [⟨i, full (fun j => I (64 * i + j)) 64, false, false, (m1 : Nat) + 1⟩], h1, h2, h3, ?_, fun e he => ?_, fun i' ha hi' j hj => ?_, ?_, fun i' hb => ?_, fun i' ha hi' => ?_, by omega⟩
    · show s1.log ++ [_] = _
      rw [h4, List.append_assoc]
    · rcases List.mem_append.1 he with h | h
      · exact ⟨⟨(h5 e h).1.1, (h5 e h).1.2.1, by have := (h5 e h).1.2.2.1; omega, (h5 e h).1.2.2.2⟩, (h5 e h).2⟩
      · obtain rfl : e = ⟨i, full (fun j => I (64 * i + j)) 64, false, false, (m1 : Nat) + 1⟩ := by simpa using h
        refine ⟨⟨rfl, hi, Nat.lt_succ_self _, fun j hj => ?_⟩, full_lt _ _ (fun j => hI _)⟩
        show full (fun j => I (64 * i + j)) 64 j = _
        unfold full
        rw [if_pos hj]
    · rw [List.foldl_append]
      show upF (l.foldl upF (holds s)) ⟨i, full (fun j => I (64 * i + j)) 64, false, false, (m1 : Nat) + 1⟩ i' j = _
      unfold upF
      by_cases hii : i' = i
      · subst hii
        rw [if_pos ⟨rfl, rfl⟩]
        show full (fun j => I (64 * i' + j)) 64 j = _
        unfold full
        rw [if_pos hj]
      · rw [if_neg (fun h => hii h.2)]
        exact h6 i' ha (by omega) j hj
    · rw [List.length_append, List.length_singleton]
      omega
    · have hb' : (if i' = i then false else s1.bad i') = true := hb
      split at hb'
      · cases hb'
      · exact h8 i' hb'
    · show (if i' = i then false else s1.bad i') = false
      split
      · rfl
      · exact h9 i' ha (by omega)

theorem Part.bad {s s' : DS} {m m' : Nat} {I : Nat → Nat} {a i : Nat} {l : List AE} (h : Part s s' m m' I a i l) : s'.n = s.n ∧ s'.dead = s.dead := ⟨h.1, h.2.2.1⟩

theorem Part.byt {s s' : DS} {m m' : Nat} {I : Nat → Nat} {a i : Nat} {l : List AE} (h : Part s s' m m' I a i l) (hb : Byt s) : Byt s' := by
  obtain ⟨h1, h2, h3, h4, h5, _⟩ := h
  refine ⟨by rw [h2]; exact hb.1, fun e he => ?_⟩
  rw [h4] at he
  rcases List.mem_append.1 he with h | h
  · exact hb.2 e h
  · exact (h5 e h).2

theorem PhsOk.snoc {I : Nat → Nat} {p : Nat × Nat} {ph : List AE × AE} : ∀ {ps : List (Nat × Nat)} {base : Nat → Nat → Nat} {phs : List (List AE × AE)}, PhsOk I ps base phs → PhOk I p.1 p.2 (foldP phs base) ph → PhsOk I (ps ++ [p]) base (phs ++ [ph])
  | [], base, [], h, hp => ⟨hp, trivial⟩
  | [], base, ph' :: phs, h, hp => h.elim
  | q :: ps, base, [], h, hp => h.elim
  | q :: ps, base, ph' :: phs, h, hp => ⟨h.1, h.2.snoc (by rw [foldP_cons ph' phs base h.1.1] at hp; exact hp)⟩

theorem LayD.start (s : DS) (m : Nat) (I : Nat → Nat) (mo : Int) : LayD s (syncD s mo) m m I [] := by
  refine ⟨[([], ⟨0, fun _ => 0, true, false, mo⟩)], ⟨⟨rfl, fun e he => (by cases he), fun i h1 h2 => absurd h2 (Nat.not_lt_zero _), Nat.le_refl _⟩, trivial⟩, rfl, rfl, rfl, rfl, fun i h => h, fun q hq => (by cases hq), fun hb => ⟨hb.1, fun e he => ?_⟩, by simp⟩
  rcases List.mem_append.1 (show e ∈ s.log ++ [_] from he) with h | h
  · exact hb.2 e h
  · obtain rfl : e = ⟨0, fun _ => 0, true, false, mo⟩ := by simpa using h
    intro j
    exact Nat.zero_lt_succ _

theorem LayD.next {s s1 s2 : DS} {m m1 m2 : Nat} {I : Nat → Nat} {ps : List (Nat × Nat)} {a b : Nat} {l : List AE} (h : LayD s s1 m m1 I ps) (hp : Part s1 s2 m1 m2 I a b l) (mo : Int) : LayD s (syncD s2 mo) m m2 I (ps ++ [(a, b)]) := by
  obtain ⟨phs, g1, g2, g3, g4, g5, g6, g7, g8, g9⟩ := h
  have hb0 := fun hb => hp.byt hb
  obtain ⟨h1, h2, h3, h4, h5, h6, h7, h8, h9, h10⟩ := hp
  have hh : holds s1 = foldP phs (holds s) := holds_of_log g3 g5
  refine ⟨phs ++ [(l, ⟨0, fun _ => 0, true, false, mo⟩)], g1.snoc ⟨rfl, fun e he => (h5 e he).1, fun i ha hi j hj => ?_, h7⟩, h1.trans g2, h2.trans g3, h3.trans g4, ?_, fun i hi => g6 i (h8 i hi), fun q hq i hqa hqb => ?_, fun hb => ?_, ?_⟩
  · rw [← hh]
    exact h6 i ha hi j hj
  · show s2.log ++ [_] = _
    rw [h4, g5, List.flatMap_append, List.flatMap_cons, List.flatMap_nil, List.append_nil]
    unfold phL
    simp only [List.append_assoc]
  · show s2.bad i = false
    rcases List.mem_append.1 hq with h | h
    · have := g7 q h i hqa hqb
      cases hx : s2.bad i with
      | false => rfl
      | true => rw [h8 i hx] at this; cases this
    · obtain rfl : q = (a, b) := by simpa using h
      exact h9 i hqa hqb
  · have hb2 := hb0 (g8 hb)
    refine ⟨hb2.1, fun e he => ?_⟩
    rcases List.mem_append.1 (show e ∈ s2.log ++ [_] from he) with h | h
    · exact hb2.2 e h
    · obtain rfl : e = ⟨0, fun _ => 0, true, false, mo⟩ := by simpa using h
      intro j
      exact Nat.zero_lt_succ _
  · rw [List.map_append, List.sum_append]
    simp
    omega

theorem LayD.n {s s' : DS} {m m' : Nat} {I : Nat → Nat} {ps : List (Nat × Nat)} (h : LayD s s' m m' I ps) : s'.n = s.n ∧ s'.dead = s.dead ∧ (Byt s → Byt s') := by
  obtain ⟨phs, g1, g2, g3, g4, g5, g6, g7, g8, g9⟩ := h
  exact ⟨g2, g4, g8⟩

theorem sum_take_le : ∀ (l : List (Nat × Nat)) (f : Nat × Nat → Nat) (q : Nat), ((l.take q).map f).sum ≤ (l.map f).sum
  | [], f, q => by simp
  | x :: l, f, 0 => by simp
  | x :: l, f, q + 1 => by
    have := sum_take_le l f q
    simp only [List.take_succ_cons, List.map_cons, List.sum_cons]
    omega

/-- What it takes, at the most. -/
def costP (ps : List (Nat × Nat)) : Nat := (ps.map fun p => p.2 - p.1 + 1).sum

theorem LayD.cost {s s' : DS} {m m' : Nat} {I : Nat → Nat} {ps : List (Nat × Nat)} (h : LayD s s' m m' I ps) : s'.log.length ≤ s.log.length + 1 + costP ps ∧ m' ≤ m + costP ps := by
  obtain ⟨phs, g1, g2, g3, g4, g5, g6, g7, g8, g9⟩ := h
  have := g1.len
  rw [List.map_cons, List.sum_cons] at this
  have this' : (phs.flatMap phL).length ≤ 1 + costP ps := by
    unfold costP
    omega
  refine ⟨by rw [g5, List.length_append]; omega, ?_⟩
  have hle : ∀ l : List (Nat × Nat), (l.map fun q => q.2 - q.1).sum ≤ (l.map fun q => q.2 - q.1 + 1).sum := by
    intro l
    induction l with
    | nil => simp
    | cons x l ih => simp only [List.map_cons, List.sum_cons]; omega
  have := hle ps
  unfold costP
  omega

theorem costP_take (ps : List (Nat × Nat)) (q : Nat) : costP (ps.take q) ≤ costP ps := sum_take_le ps _ q

/-- The cells of a list of parts. -/
def pcells (ps : List (Nat × Nat)) : List Value := ps.flatMap fun p => [.int .i64 (p.1 : Nat), .int .i64 (p.2 : Nat)]

theorem pcells_get : ∀ (ps : List (Nat × Nat)) (q : Nat) (x : Nat × Nat), ps[q]? = some x → (pcells ps)[q * 2]? = some (.int .i64 (x.1 : Nat)) ∧ (pcells ps)[q * 2 + 1]? = some (.int .i64 (x.2 : Nat))
  | [], q, x, h => by simp at h
  | p :: ps, 0, x, h => by
    obtain rfl : p = x := by simpa using h
    exact ⟨rfl, rfl⟩
  | p :: ps, q + 1, x, h => by
    have := pcells_get ps q x (by simpa using h)
    rw [show (q + 1) * 2 = q * 2 + 1 + 1 by omega]
    exact this
end Go.Proofs.YtoiaclmfljoomaaDoor

/- journal: renewer, and what writes a sector. -/
namespace Go.Proofs.YtoiaclmfljoomaaDoor
open Go.ChangeShapes Go.WideShapes Go.ChangeAt Go.RowKit
set_option linter.unusedVariables false

variable {D : DevRep} {B : Nat} {w0 w w' : World} {p c m : Nat} {s : DS} {F : Nat → Prop}

theorem wr_ok {s : DS} {i : Nat} (hd : s.dead = false) (hi : i < s.n) : wrErr s (i : Int) 64 = 0 := by
  unfold wrErr
  rw [hd, if_neg (by simp), if_neg (by omega), if_neg (by omega)]

theorem box_only {G : Nat → Prop} {b : Nat} {t : Nat} {cs : Array Value} (h : Has w b t cs) (ho : Only G w w') (hn : ¬ G b) : Has w' b t cs := (ho.block b h.lt hn).trans h

set_option maxRecDepth 100000 in
set_option maxHeartbeats 1000000 in
theorem renew_c (hD : DevOk D) (h : In D B w0 w p s c m F) {b : Nat} (hb : Has w b 24 #[ptr p]) (i : Nat) (hi : i < s.n) (hn : s.n ≤ 2048) (hd : s.dead = false) (hm : m ≤ 100000) (hl : s.log.length ≤ 100000) (a : Option Addr) (C : Nat) (f : Nat → Nat) (hC : 64 ≤ C) (ha : a ≠ none) (hB : Bytes w a 64 f) (hf : ∀ j, f j < 256) (hh : ∀ i j, holds s i j < 256) :
    Calls Tryd.prog 68 #[.int .i64 (i : Nat), .slice a 64 C, ptr b] w fun e w' => e = .returned (.int .i64 0) ∧ Only (fun k => F k ∨ k = c) w w' ∧ ∃ s' m' F', Grew w F F' ∧ In D B w0 w' p s' c m' F' ∧ Wrote s s' m m' i f := by
  have hr := in_read hD h (i : Int) (by unfold i64ok; omega)
  have hc0 := hb.cell 0
  have hz := wr_ok hd hi
  by_cases hbad : s.bad i = true
  · have he : rdErr s (i : Int) = 72 := by
      unfold rdErr
      rw [hd, if_neg (by simp), if_neg (by omega), if_pos (by simpa using hbad)]
    rw [he] at hr
    clear he
    go_enter Tryd.func68, Tryd.ntmps68
    go_wp2_with (first
      | ((go_at_call 69)
         (refine hr.mono ?_)
         (rintro e w1 ⟨hb1, hI1, v1, rfl, (⟨_, hv1⟩ | ⟨hv, _⟩)⟩)
         (case inr => exact absurd hv (by decide))
         (obtain ⟨a1, c1, rfl⟩ := hv1)
         (have hc1 := ((hb.below hb1 hb.lt).cell 0))
         (have hw := in_write hD hI1 (i : Int) a 64 C f (by unfold i64ok; omega) hm hl hC (by unfold maxLen; omega) (fun e => absurd e ha) (hB.below hb1 (Nat.le_refl _)) hf (.inr trivial))
         (rw [hz] at hw)
         (clear hr hc0))
      | ((go_at_call 39)
         (refine hw.mono ?_)
         (rintro e w2 ⟨rfl, ho2, F2, hg2, hI2⟩)
         (clear hw)))
    go_ret
    refine ⟨rfl, (Only.of_below hb1 (Nat.le_refl _)).trans ho2 (fun x _ hx => hx), _, _, F2, fun k hk => (hg2 k hk).imp id (fun h9 => Nat.le_trans hb1.size h9), hI2, .inr ⟨?_, ?_⟩⟩
    · unfold wrS
      rw [if_pos hz, Int.toNat_natCast]
    · unfold wrM
      rw [if_pos hz]
  · have hbad' : s.bad i = false := by simpa using hbad
    have he : rdErr s (i : Int) = 0 := by
      unfold rdErr
      rw [hd, if_neg (by simp), if_neg (by omega), if_neg (by simp [hbad'])]
    rw [he] at hr
    clear he hbad
    by_cases hq : strN (holds s i) 64 = strN f 64
    · have HQ : Hid (strN (holds s i) 64 = strN f 64) := hq
      clear hq
      go_enter Tryd.func68, Tryd.ntmps68
      go_wp2_with (first
        | ((go_at_call 69)
           (refine hr.mono ?_)
           (rintro e w1 ⟨hb1, hI1, v1, rfl, (⟨hv, _⟩ | ⟨_, hv1⟩)⟩)
           (case inl => exact absurd rfl hv)
           (obtain ⟨g1, o1, c1, rfl, hc1, hg1, hB1⟩ := hv1.bytes)
           (rw [Int.toNat_natCast] at hB1)
           (have hE := equal_j c1 C hB1 (hB.below hb1 (Nat.le_refl _)) (hh i) hf (fun e => by cases e) (fun e => absurd e ha))
           (rw [HQ.out, beq_self_eq_true] at hE)
           (clear hr hc0))
        | ((go_at_call 70)
           (refine hE.mono ?_)
           (rintro e wz ⟨rfl, hz9⟩)
           (obtain rfl : w1 = wz := hz9.symm)
           (clear hE)))
      go_ret
      exact ⟨rfl, Only.of_below hb1 (Nat.le_refl _), s, m, F, fun k hk => .inl hk, hI1, .inl ⟨rfl, rfl, hbad', ((strN_eq (hh i) hf).1 HQ.out).2⟩⟩
    · have HQ : Hid ((strN (holds s i) 64 == strN f 64) = false) := by show (strN (holds s i) 64 == strN f 64) = false; simpa using hq
      clear hq
      go_enter Tryd.func68, Tryd.ntmps68
      go_wp2_with (first
        | ((go_at_call 69)
           (refine hr.mono ?_)
           (rintro e w1 ⟨hb1, hI1, v1, rfl, (⟨hv, _⟩ | ⟨_, hv1⟩)⟩)
           (case inl => exact absurd rfl hv)
           (obtain ⟨g1, o1, c1, rfl, hc1, hg1, hB1⟩ := hv1.bytes)
           (rw [Int.toNat_natCast] at hB1)
           (have hE := equal_j c1 C hB1 (hB.below hb1 (Nat.le_refl _)) (hh i) hf (fun e => by cases e) (fun e => absurd e ha))
           (rw [HQ.out] at hE)
           (have hc1 := ((hb.below hb1 hb.lt).cell 0))
           (have hw := in_write hD hI1 (i : Int) a 64 C f (by unfold i64ok; omega) hm hl hC (by unfold maxLen; omega) (fun e => absurd e ha) (hB.below hb1 (Nat.le_refl _)) hf (.inr trivial))
           (rw [hz] at hw)
           (clear hr hc0))
        | ((go_at_call 70)
           (refine hE.mono ?_)
           (rintro e wz ⟨rfl, hz9⟩)
           (obtain rfl : w1 = wz := hz9.symm)
           (clear hE))
        | ((go_at_call 39)
           (refine hw.mono ?_)
           (rintro e w2 ⟨rfl, ho2, F2, hg2, hI2⟩)
           (clear hw)))
      go_ret
      refine ⟨rfl, (Only.of_below hb1 (Nat.le_refl _)).trans ho2 (fun x _ hx => hx), _, _, F2, fun k hk => (hg2 k hk).imp id (fun h9 => Nat.le_trans hb1.size h9), hI2, .inr ⟨?_, ?_⟩⟩
      · unfold wrS
        rw [if_pos hz, Int.toNat_natCast]
      · unfold wrM
        rw [if_pos hz]

theorem jwrite_c (hD : DevOk D) (h : In D B w0 w p s c m F) (i : Nat) (hi : i < s.n) (hn : s.n ≤ 2048) (hd : s.dead = false) (hm : m ≤ 100000) (hl : s.log.length ≤ 100000) (a : Option Addr) (C : Nat) (f : Nat → Nat) (hC : 64 ≤ C) (ha : a ≠ none) (hB : Bytes w a 64 f) (hf : ∀ j, f j < 256) :
    Calls Tryd.prog 39 #[ptr p, .int .i64 (i : Nat), .slice a 64 C] w fun e w' => e = .returned (.int .i64 0) ∧ Only (fun k => F k ∨ k = c) w w' ∧ ∃ s' m' F', Grew w F F' ∧ In D B w0 w' p s' c m' F' ∧ Wrote s s' m m' i f := by
  have hz := wr_ok hd hi
  have hw := in_write hD h (i : Int) a 64 C f (by unfold i64ok; omega) hm hl hC (by unfold maxLen; omega) (fun e => absurd e ha) hB hf (.inr trivial)
  rw [hz] at hw
  refine hw.mono ?_
  rintro e w2 ⟨rfl, ho2, F2, hg2, hI2⟩
  refine ⟨rfl, ho2, _, _, F2, hg2, hI2, .inr ⟨?_, ?_⟩⟩
  · unfold wrS
    rw [if_pos hz, Int.toNat_natCast]
  · unfold wrM
    rw [if_pos hz]

theorem renewer_c (p : Nat) (w : World) : Calls Tryd.prog 45 #[ptr p] w fun e w' => e = .returned (.func (.func 68) #[] #[ptr w.heap.size]) ∧ w' = w.alloc (.cells #[ptr p] 24) := by
  have hmf : ∀ (fn : Fn) (first cap : Array Value) (w : World), (Instr.makeFunc fn first cap).run Tryd.prog w = .ok (.func fn first cap) w := fun _ _ _ _ => rfl
  go_enter Tryd.func45, Tryd.ntmps45
  go_wp2
  go_ret
  exact ⟨rfl, rfl⟩
end Go.Proofs.YtoiaclmfljoomaaDoor

/- journal: lay. -/
namespace Go.Proofs.YtoiaclmfljoomaaDoor
open Go.ChangeShapes Go.WideShapes Go.ChangeAt Go.RowKit
set_option linter.unusedVariables false

variable {D : DevRep} {B : Nat} {w0 w w' : World} {p c m : Nat} {s : DS} {F : Nat → Prop}

theorem at_storeJ {ops : Array Oper} {rest : List Oper} {o : Oper} {a : Act} {w : World} {Q : Exit → Act → World → Prop} (t : TypeId) (x y : Operand) (h : o.op = .store t x y) (k : wpList Tryd.prog ops Q (o :: rest) a w) : wpList Tryd.prog ops Q (o :: rest) a w := k

theorem run_at_pair {o : Oper} {a : Act} (x i : Operand) (ho : o.op = .indexAddr 113 x i) (g off k n cap : Nat) (hx : a.eval x = .slice (some ⟨g, off, none⟩) n cap) (hi : a.eval i = .int .i64 (k : Nat)) (hk : k < n) (w : World) : (execOp a.eval o).run Tryd.prog w = .ok (.value (.pointer (some ⟨g, off + k * 2, none⟩))) w := by
  unfold execOp
  cases hq : Tryd.prog.info? 71 with
  | none => exact absurd hq (by have h : (Tryd.prog.info? 71).isSome = true := (by kernel_rfl); intro e; rw [e] at h; cases h)
  | some inf =>
    have hz : inf.size = 2 := by
      have h : (Tryd.prog.info? 71).map (·.size) = some 2 := by kernel_rfl
      simpa [hq] using h
    simp only [ho, hx, hi]
    simp [Instr.indexAt, Instr.sureAddr, run_underlying Tryd.underlying113, asIntOf, sizeOf, typeInfo, hq, hz, Addr.add_mid, go_sem]
    intro h
    omega

theorem Tryd.sizePair : (Tryd.prog.info? 71).map (·.size) = some 2 := by kernel_rfl

theorem run_load_pair {o : Oper} {a : Act} (x : Operand) (ho : o.op = .load 71 x) (b off : Nat) (hx : a.eval x = .pointer (some ⟨b, off, none⟩)) (u v : Value) (w : World) (h1 : w.cell? ⟨b, off, none⟩ = some u) (h2 : w.cell? ⟨b, off + 1, none⟩ = some v) : (execOp a.eval o).run Tryd.prog w = .ok (.value (.agg #[u, v])) w := by
  have hr := run_loadAt_mid (P := Tryd.prog) w b off 71 [u, v] _ (fun j u' hu => by
    rcases (show j = 0 ∨ j = 1 ∨ 2 ≤ j by omega) with rfl | rfl | hj
    · rw [← hu]; exact h1
    · rw [← hu]; exact h2
    · rw [List.getElem?_eq_none (by simpa using hj)] at hu
      cases hu) Tryd.underlying71 rfl Tryd.sizePair
  unfold execOp
  simp only [ho, hx, Sem.run_bind, hr]
  rfl

theorem wpList_copyL {ops : Array Oper} {rest : List Oper} {o : Oper} {a : Act} {Q : Exit → Act → World → Prop} (wr : World) (t : TypeId) (Z X : Array Value) (hgd : o.guard = none) (x y : Operand) (ho : o.op = .store t x y)
    (hx : a.eval x = .pointer (some ⟨wr.heap.size, 0, none⟩)) (hy : a.eval y = .agg X) (hi : (Tryd.prog.info? t).map (·.size) = some X.size) (hs : Z.size = X.size) (h1 : X.all (·.oneCell') = true)
    (h : ∀ w2, Has w2 wr.heap.size t X → Below wr.heap.size wr w2 → wpList Tryd.prog ops Q rest (a.put o.dst undef) w2) : wpList Tryd.prog ops Q (o :: rest) a (wr.alloc (.cells Z t)) := by
  have hZ : Has (wr.alloc (.cells Z t)) wr.heap.size t Z := Has.new_at rfl
  refine wpList_store_rowG hgd t x y ho wr.heap.size X hx hy t Z hZ hi hs h1 ?_
  intro w2 hw2
  refine h w2 ?_ ?_
  · rw [hw2]
    exact hZ.setRow _
  · rw [hw2]
    exact below_setRow ((Below.refl _ _).alloc (Nat.le_refl _) _) (Nat.le_refl _) _

theorem Bytes.only {G : Nat → Prop} {a : Option Addr} {L : Nat} {f : Nat → Nat} (h : Bytes w a L f) (ho : Only G w w') (hn : ∀ b o, a = some ⟨b, o, none⟩ → ¬ G b) : Bytes w' a L f := by
  rcases h with h | ⟨b, o, rfl, hlt, hc⟩
  · exact .inl h
  · exact .inr ⟨b, o, rfl, Nat.lt_of_lt_of_le hlt ho.size, fun j hj => (ho.cell (p := ⟨b, o + j, none⟩) hlt (hn b o rfl)).trans (hc j hj)⟩

/-- A slice of bytes within one, both ends told. -/
theorem run_slice_in {o : Oper} {a : Act} (x l h : Operand) (ho : o.op = .slice 33 x (some l) (some h) none) (b off L cap i : Nat) (hx : a.eval x = .slice (some ⟨b, off, none⟩) L cap) (hl : a.eval l = .int .i64 ((i : Int) * 64)) (hh : a.eval h = .int .i64 (((i : Int) + 1) * 64)) (h2 : 64 * i + 64 ≤ cap) (w : World) :
    (execOp a.eval o).run Tryd.prog w = .ok (.value (.slice (some ⟨b, off + 64 * i, none⟩) 64 (cap - 64 * i))) w := by
  have e1 : (i : Int) * 64 = ((64 * i : Nat) : Int) := by omega
  have e2 : ((i : Int) + 1) * 64 = ((64 * i + 64 : Nat) : Int) := by omega
  rw [e1] at hl
  rw [e2] at hh
  have h1 : 64 * i ≤ 64 * i + 64 := by omega
  have h3 : ¬ cap = 64 * i := by omega
  have h4 : 64 * i + 64 - 64 * i = 64 := by omega
  generalize 64 * i + 64 = q at hh h1 h2 h4
  generalize 64 * i = r at hl h1 h3 h4 ⊢
  unfold execOp
  simp only [ho, hx, hl, hh, Option.map_some, Option.map_none]
  simp [Instr.sliceAt, Instr.slice, Instr.sliceBounds, Instr.sliceBound, run_underlying Tryd.underlying33, go_sem, asIntOf, h1, h2, h3, h4]

/-- Where a writer may stand: neither in the device nor at its clock. -/
def Off (F : Nat → Prop) (c : Nat) (k : Nat) : Prop := ¬ (F k ∨ k = c)

theorem Off.grew {F F' : Nat → Prop} {c k : Nat} (h : Off F c k) (hg : Grew w F F') (hk : k < w.heap.size) : Off F' c k := by
  rintro (h1 | h1)
  · rcases hg k h1 with h2 | h2
    · exact h (.inl h2)
    · omega
  · exact h (.inr h1)

/-- What lay holds between its writes. -/
structure LayAt (D : DevRep) (B : Nat) (w0 w wr : World) (p : Nat) (s1 : DS) (c m1 : Nat) (F F1 : Nat → Prop) : Prop where
  only : Only (fun k => F k ∨ k = c) w wr
  grew : Grew w F F1
  dev : In D B w0 wr p s1 c m1 F1

theorem LayAt.next {wr wz : World} {s1 : DS} {m1 : Nat} {F1 : Nat → Prop} (h : LayAt D B w0 w wr p s1 c m1 F F1) (hD : DevOk D) (hb : Below wr.heap.size wr wz) : LayAt D B w0 w wz p s1 c m1 F F1 :=
  ⟨h.only.trans (Only.of_below (F := fun k => F k ∨ k = c) hb (Nat.le_refl _)) (fun _ _ h => h), h.grew, h.dev.next hD hb⟩

theorem LayAt.step {wr wz : World} {s1 s2 : DS} {m1 m2 : Nat} {F1 F2 : Nat → Prop} (h : LayAt D B w0 w wr p s1 c m1 F F1) (ho : Only (fun k => F1 k ∨ k = c) wr wz) (hg : Grew wr F1 F2) (hI : In D B w0 wz p s2 c m2 F2) : LayAt D B w0 w wz p s2 c m2 F F2 :=
  ⟨h.only.trans ho (fun x hx hx1 => by
      rcases hx1 with h1 | h1
      · rcases h.grew x h1 with h2 | h2
        · exact .inl h2
        · omega
      · exact .inr h1), fun k hk => (hg k hk).elim (fun h1 => h.grew k h1) (fun h1 => .inr (Nat.le_trans h.only.size h1)), hI⟩

theorem LayAt.has {wr : World} {s1 : DS} {m1 : Nat} {F1 : Nat → Prop} (h : LayAt D B w0 w wr p s1 c m1 F F1) {b t : Nat} {cs : Array Value} (hb : Has w b t cs) (hn : Off F c b) : Has wr b t cs := box_only hb h.only hn

theorem LayAt.bytes {wr : World} {s1 : DS} {m1 : Nat} {F1 : Nat → Prop} (h : LayAt D B w0 w wr p s1 c m1 F F1) {b o L : Nat} {f : Nat → Nat} (hb : Bytes w (some ⟨b, o, none⟩) L f) (hn : Off F c b) : Bytes wr (some ⟨b, o, none⟩) L f := hb.only h.only (fun b' o' e => by cases e; exact hn)

theorem off_new (hD : DevOk D) {wr : World} {s1 : DS} {m1 : Nat} {F1 : Nat → Prop} (h : LayAt D B w0 w wr p s1 c m1 F F1) : Off F1 c wr.heap.size := by
  rintro (h1 | h1)
  · exact absurd (h.dev.lt hD _ h1) (by omega)
  · exact absurd (h.dev.clt hD) (by omega)

/-- What lay answers. -/
def LayPost (D : DevRep) (B : Nat) (w0 w : World) (p : Nat) (s : DS) (c m : Nat) (F : Nat → Prop) (I : Nat → Nat) (parts : List (Nat × Nat)) (e : Ending) (w' : World) : Prop :=
  (s.dead = true ∧ e = .returned (.int .i64 73) ∧ Below w.heap.size w w') ∨ (s.dead = false ∧ e = .returned (.int .i64 0) ∧ ∃ s' m' F', LayAt D B w0 w w' p s' c m' F F' ∧ LayD s s' m m' I parts)

/-- What the round of the inner loop, of the outer one hold. -/
def InnerR (D : DevRep) (B : Nat) (w0 w : World) (p c : Nat) (F : Nat → Prop) (s1 : DS) (m1 : Nat) (I : Nat → Nat) (a i g : Nat) (b : Nat) (wr : World) : Prop :=
  ∃ s2 m2 F2 l, LayAt D B w0 w wr p s2 c m2 F F2 ∧ Part s1 s2 m1 m2 I a i l ∧ Has wr g 71 #[.int .i64 (a : Nat), .int .i64 (b : Nat)] ∧ Off F2 c g

def OuterR (D : DevRep) (B : Nat) (w0 w : World) (p : Nat) (s : DS) (c m : Nat) (F : Nat → Prop) (I : Nat → Nat) (parts : List (Nat × Nat)) (q : Nat) (wr : World) : Prop :=
  ∃ s1 m1 F1, LayAt D B w0 w wr p s1 c m1 F F1 ∧ LayD s s1 m m1 I (parts.take q)

theorem take_snoc {parts : List (Nat × Nat)} {q : Nat} {x : Nat × Nat} (h : parts[q]? = some x) : parts.take (q + 1) = parts.take q ++ [x] := by
  rw [List.take_add_one, h]
  rfl

set_option maxRecDepth 100000 in
set_option maxHeartbeats 1000000 in
theorem lay_r (hD : DevOk D) (h : In D B w0 w p s c m F) (hbt : Byt s) (hn : s.n ≤ 1000) (hm : m ≤ 95000) (hl : s.log.length ≤ 95000) {im io C g cap : Nat} {I : Nat → Nat} (hI : ∀ k, I k < 256) (hB : Bytes w (some ⟨im, io, none⟩) (64 * s.n) I) (hio : Off F c im) (hC : 64 * s.n ≤ C) {parts : List (Nat × Nat)} {np : Nat} (hnp : np = parts.length) (hnp2 : np ≤ 4)
    (hp : Has w g 71 (pcells parts).toArray) (hgo : Off F c g) (hq : ∀ q ∈ parts, q.1 ≤ q.2 ∧ q.2 ≤ s.n) (hcost : costP parts ≤ 4000) {b : Nat} (hbx : Has w b 24 #[ptr p]) (hbo : Off F c b) :
    Calls Tryd.prog 46 #[ptr p, .slice (some ⟨im, io, none⟩) (64 * s.n) C, .func (.func 68) #[] #[ptr b], .slice (some ⟨g, 0, none⟩) np cap] w (LayPost D B w0 w p s c m F I parts) := by
  have hsy := hD.sync w p s c m F h.dev (by omega) (by omega)
  obtain ⟨N, hN⟩ : ∃ N, N = 64 * s.n := ⟨_, rfl⟩
  rw [← hN] at hC hB ⊢
  have HN : Hid (N = 64 * s.n) := hN
  have HNP : Hid (np = parts.length) := hnp
  clear hN hnp
  cases hd : s.dead with
  | true =>
    rw [hd, if_pos rfl] at hsy
    have HD : Hid (s.dead = true) := hd
    clear hd
    go_enter Tryd.func46, Tryd.ntmps46
    go_wp2_with (first
      | ((go_at_call 71)
         (refine hsy.mono ?_)
         (rintro e w1 ⟨rfl, (⟨_, hb1⟩ | ⟨hx, _⟩)⟩)
         (case inr => cases hx)
         (clear hsy)))
    go_ret
    exact .inl ⟨HD.out, rfl, hb1⟩
  | false =>
    rw [hd, if_neg (by simp)] at hsy
    have HD : Hid (s.dead = false) := hd
    clear hd
    go_enter Tryd.func46, Tryd.ntmps46
    go_wp2_with (first
      | ((go_at_call 71)
         (refine hsy.mono ?_)
         (rintro e w1 ⟨rfl, (⟨hx, _⟩ | ⟨_, ho1, F1, hg1, hd1⟩)⟩)
         (case inl => cases hx)
         (have hI1 : In D B w0 w1 p (syncD s m) c m F1 := h.grew ho1 (fun _ hk => .inl hk) hg1 hd1)
         (have hL1 : LayAt D B w0 w w1 p (syncD s m) c m F F1 := ⟨ho1.mono (fun _ hk => .inl hk), hg1, hI1⟩)
         (clear hsy ho1 hg1 hd1 hI1)))
    go_loopw [22] (fun iv wr => ∃ q : Nat, q ≤ np ∧ iv = .int .i64 (q : Nat) ∧ OuterR D B w0 w p s c m F I parts q wr)
      (fun iv _ => np - (intOf iv).toNat)
    case atStart => exact ⟨0, Nat.zero_le _, rfl, _, _, _, hL1, LayD.start s m I m⟩
    case round =>
      obtain ⟨q, hqn, rfl, hO⟩ := hrel
      clear hL1
      obtain ⟨s1, m1, F2, hL2, hlaid⟩ := hO
      by_cases hlt : q < np
      · have i0 : (q : Int) < (np : Int) := by omega
        have i1 : (0 : Int) ≤ (q : Int) := by omega
        obtain ⟨x, hx⟩ : ∃ x, parts[q]? = some x := ⟨_, List.getElem?_eq_getElem (by rw [← HNP.out]; exact hlt)⟩
        obtain ⟨xa, xb⟩ := x
        obtain ⟨hxab, hxn⟩ := hq _ (List.mem_of_getElem? hx)
        have hpc := pcells_get parts q _ hx
        have hpw := hL2.has hp hgo
        have k1 : wr.cell? ⟨g, 0 + q * 2, none⟩ = some (.int .i64 (xa : Nat)) := by
          rw [hpw.cell, Nat.zero_add, List.getElem?_toArray]
          exact hpc.1
        have k2 : wr.cell? ⟨g, 0 + q * 2 + 1, none⟩ = some (.int .i64 (xb : Nat)) := by
          rw [hpw.cell, Nat.zero_add, List.getElem?_toArray]
          exact hpc.2
        have hxab' : xa ≤ xb := hxab
        have hxn' : xb ≤ s.n := hxn
        have hn1 := hlaid.n
        have hd1 : s1.dead = false := hn1.2.1.trans HD.out
        have hbt1 := hn1.2.2 hbt
        have hco := hlaid.cost
        have hct := costP_take parts q
        have hct2 := costP_take parts (q + 1)
        have hsn : costP (parts.take (q + 1)) = costP (parts.take q) + (xb - xa + 1) := by
          rw [take_snoc hx]
          unfold costP
          simp
        have b1 : s1.log.length + (xb - xa) ≤ 99500 := by omega
        have b2 : m1 + (xb - xa) ≤ 99500 := by omega
        have b3 : s1.n = s.n := hn1.1
        have b4 : xb ≤ 1000 := by omega
        clear hpc hpw hco hct hct2 hsn hn1 hxab hxn
        go_wp2_with (first
          | (refine at_dst 24 rfl ?_; refine wpList_is (some 24) (.pointer (some ⟨g, 0 + q * 2, none⟩)) rfl (by rfl) (run_at_pair _ _ rfl g 0 q np cap rfl rfl hlt _) ?_)
          | (refine at_dst 25 rfl ?_; refine wpList_is (some 25) (.agg #[.int .i64 (xa : Nat), .int .i64 (xb : Nat)]) rfl (by rfl) (run_load_pair _ rfl g (0 + q * 2) rfl _ _ wr k1 k2) ?_)
          | (refine at_dst 11 rfl ?_; refine wpList_is_w (some 11) (.pointer (some ⟨wr.heap.size, 0, none⟩)) (wr.alloc (.cells #[.int .i64 0, .int .i64 0] 71)) rfl (by rfl) (by kernel_rfl) ?_)
          | ((refine at_storeJ 71 (.tmp 11) (.tmp 25) rfl ?_)
             (refine wpList_copyL wr _ _ _ rfl (.tmp 11) (.tmp 25) rfl rfl rfl Tryd.sizePair rfl (by simp [Value.oneCell']) ?_)
             (intro w2 hH2 hb2)
             (have hL3 := hL2.next hD hb2)
             (have c0 : w2.cell? ⟨wr.heap.size, 0, none⟩ = some (.int .i64 (xa : Nat)) := hH2.cell 0)
             (have hoff : Off F2 c wr.heap.size := off_new hD hL2)
             (clear k1 k2)))
        go_loopw [12] (fun iv wz => ∃ i : Nat, xa ≤ i ∧ i ≤ xb ∧ iv = .int .i64 (i : Nat) ∧ InnerR D B w0 w p c F s1 m1 I xa i wr.heap.size xb wz)
          (fun iv _ => xb - (intOf iv).toNat)
        case atStart => exact ⟨xa, Nat.le_refl _, hxab', rfl, s1, m1, F2, [], hL3, Part.start _ _ _ _, hH2, hoff⟩
        case round =>
          rename World => wz
          obtain ⟨i, hia, hib, rfl, hR⟩ := hrel
          obtain ⟨s2, m2, F3, l, hL2, hp2, hH3, hof⟩ := hR
          have d1 : wz.cell? ⟨wr.heap.size, 1, none⟩ = some (.int .i64 (xb : Nat)) := hH3.cell 1
          have hn2 := hp2.bad
          have hB2 := hL2.bytes hB hio
          rw [HN.out] at hB2
          have hlg2 : s2.log.length ≤ s1.log.length + (i - xa) := by
            obtain ⟨_, _, _, e1, _, _, e2, _⟩ := hp2
            rw [e1, List.length_append]
            omega
          have hm2 : m2 ≤ m1 + (i - xa) := hp2.2.2.2.2.2.2.2.2.2
          clear hL3 c0
          have hCN := HN.out
          by_cases hlt2 : i < xb
          · have j0 : (i : Int) < (xb : Int) := by omega
            have j1 : (i : Int) ≤ 1000 := by omega
            have hW := renew_c hD hL2.dev (hL2.has hbx hbo) i (by omega) (by omega) (by rw [hn2.2]; exact hd1) (by omega) (by omega) _ (C - 64 * i) (fun j => I (64 * i + j)) (by omega) (by simp) (hB2.part (64 * i) 64 (by omega)) (fun j => hI _) (hp2.byt hbt1).holds
            have hCi : 64 * i + 64 ≤ C := by omega
            clear hCN
            go_wp2_with (first
              | ((go_at_call 68)
                 (refine hW.mono ?_)
                 (rintro e w3 ⟨rfl, ho3, s3, m3, F4, hg3, hI3, hwr3⟩)
                 (clear hW))
              | (refine at_dst 42 rfl ?_; refine wpList_is (some 42) (.slice (some ⟨im, io + 64 * i, none⟩) 64 (C - 64 * i)) rfl (by rfl) (run_slice_in _ _ _ rfl im io N C i rfl rfl rfl hCi _) ?_))
            go_roundw
            case rel =>
              obtain ⟨l', hp3⟩ := hp2.step hia hwr3 hI
              exact ⟨i + 1, by omega, by omega, by go_num, s3, m3, F4, l', hL2.step ho3 hg3 hI3, hp3, box_only hH3 ho3 hof, hof.grew hg3 hH3.lt⟩
            case measure => simp [intOf]; omega
          · obtain rfl : i = xb := by omega
            have hsy2 := hD.sync wz p s2 c m2 F3 hL2.dev.dev (by omega) (by omega)
            rw [show s2.dead = false from hn2.2.trans hd1, if_neg (by simp)] at hsy2
            clear hCN
            go_wp2_with (first
              | ((go_at_call 71)
                 (refine hsy2.mono ?_)
                 (rintro e w3 ⟨rfl, (⟨hx3, _⟩ | ⟨_, ho3, F4, hg3, hd3⟩)⟩)
                 (case inl => cases hx3)
                 (have hI3 : In D B w0 w3 p (syncD s2 m2) c m2 F4 := hL2.dev.grew ho3 (fun _ hk => .inl hk) hg3 hd3)
                 (clear hsy2)))
            go_roundw
            case rel =>
              refine ⟨q + 1, by omega, by go_num, syncD s2 m2, m2, F4, hL2.step (ho3.mono (fun _ hk => .inl hk)) hg3 hI3, ?_⟩
              rw [take_snoc hx]
              exact hlaid.next hp2 m2
            case measure => simp [intOf]; omega
      · obtain rfl : q = np := by omega
        rw [HNP.out, List.take_length] at hlaid
        go_wp2
        go_ret
        exact .inr ⟨HD.out, rfl, s1, m1, F2, hL2, hlaid⟩

set_option maxRecDepth 100000 in
set_option maxHeartbeats 1000000 in
theorem lay_w (hD : DevOk D) (h : In D B w0 w p s c m F) (hbt : Byt s) (hn : s.n ≤ 1000) (hm : m ≤ 95000) (hl : s.log.length ≤ 95000) {im io C g cap : Nat} {I : Nat → Nat} (hI : ∀ k, I k < 256) (hB : Bytes w (some ⟨im, io, none⟩) (64 * s.n) I) (hio : Off F c im) (hC : 64 * s.n ≤ C) {parts : List (Nat × Nat)} {np : Nat} (hnp : np = parts.length) (hnp2 : np ≤ 4)
    (hp : Has w g 71 (pcells parts).toArray) (hgo : Off F c g) (hq : ∀ q ∈ parts, q.1 ≤ q.2 ∧ q.2 ≤ s.n) (hcost : costP parts ≤ 4000) :
    Calls Tryd.prog 46 #[ptr p, .slice (some ⟨im, io, none⟩) (64 * s.n) C, .func (.func 39) #[ptr p] #[], .slice (some ⟨g, 0, none⟩) np cap] w (LayPost D B w0 w p s c m F I parts) := by
  have hsy := hD.sync w p s c m F h.dev (by omega) (by omega)
  obtain ⟨N, hN⟩ : ∃ N, N = 64 * s.n := ⟨_, rfl⟩
  rw [← hN] at hC hB ⊢
  have HN : Hid (N = 64 * s.n) := hN
  have HNP : Hid (np = parts.length) := hnp
  clear hN hnp
  cases hd : s.dead with
  | true =>
    rw [hd, if_pos rfl] at hsy
    have HD : Hid (s.dead = true) := hd
    clear hd
    go_enter Tryd.func46, Tryd.ntmps46
    go_wp2_with (first
      | ((go_at_call 71)
         (refine hsy.mono ?_)
         (rintro e w1 ⟨rfl, (⟨_, hb1⟩ | ⟨hx, _⟩)⟩)
         (case inr => cases hx)
         (clear hsy)))
    go_ret
    exact .inl ⟨HD.out, rfl, hb1⟩
  | false =>
    rw [hd, if_neg (by simp)] at hsy
    have HD : Hid (s.dead = false) := hd
    clear hd
    go_enter Tryd.func46, Tryd.ntmps46
    go_wp2_with (first
      | ((go_at_call 71)
         (refine hsy.mono ?_)
         (rintro e w1 ⟨rfl, (⟨hx, _⟩ | ⟨_, ho1, F1, hg1, hd1⟩)⟩)
         (case inl => cases hx)
         (have hI1 : In D B w0 w1 p (syncD s m) c m F1 := h.grew ho1 (fun _ hk => .inl hk) hg1 hd1)
         (have hL1 : LayAt D B w0 w w1 p (syncD s m) c m F F1 := ⟨ho1.mono (fun _ hk => .inl hk), hg1, hI1⟩)
         (clear hsy ho1 hg1 hd1 hI1)))
    go_loopw [22] (fun iv wr => ∃ q : Nat, q ≤ np ∧ iv = .int .i64 (q : Nat) ∧ OuterR D B w0 w p s c m F I parts q wr)
      (fun iv _ => np - (intOf iv).toNat)
    case atStart => exact ⟨0, Nat.zero_le _, rfl, _, _, _, hL1, LayD.start s m I m⟩
    case round =>
      obtain ⟨q, hqn, rfl, hO⟩ := hrel
      clear hL1
      obtain ⟨s1, m1, F2, hL2, hlaid⟩ := hO
      by_cases hlt : q < np
      · have i0 : (q : Int) < (np : Int) := by omega
        have i1 : (0 : Int) ≤ (q : Int) := by omega
        obtain ⟨x, hx⟩ : ∃ x, parts[q]? = some x := ⟨_, List.getElem?_eq_getElem (by rw [← HNP.out]; exact hlt)⟩
        obtain ⟨xa, xb⟩ := x
        obtain ⟨hxab, hxn⟩ := hq _ (List.mem_of_getElem? hx)
        have hpc := pcells_get parts q _ hx
        have hpw := hL2.has hp hgo
        have k1 : wr.cell? ⟨g, 0 + q * 2, none⟩ = some (.int .i64 (xa : Nat)) := by
          rw [hpw.cell, Nat.zero_add, List.getElem?_toArray]
          exact hpc.1
        have k2 : wr.cell? ⟨g, 0 + q * 2 + 1, none⟩ = some (.int .i64 (xb : Nat)) := by
          rw [hpw.cell, Nat.zero_add, List.getElem?_toArray]
          exact hpc.2
        have hxab' : xa ≤ xb := hxab
        have hxn' : xb ≤ s.n := hxn
        have hn1 := hlaid.n
        have hd1 : s1.dead = false := hn1.2.1.trans HD.out
        have hbt1 := hn1.2.2 hbt
        have hco := hlaid.cost
        have hct := costP_take parts q
        have hct2 := costP_take parts (q + 1)
        have hsn : costP (parts.take (q + 1)) = costP (parts.take q) + (xb - xa + 1) := by
          rw [take_snoc hx]
          unfold costP
          simp
        have b1 : s1.log.length + (xb - xa) ≤ 99500 := by omega
        have b2 : m1 + (xb - xa) ≤ 99500 := by omega
        have b3 : s1.n = s.n := hn1.1
        have b4 : xb ≤ 1000 := by omega
        clear hpc hpw hco hct hct2 hsn hn1 hxab hxn
        go_wp2_with (first
          | (refine at_dst 24 rfl ?_; refine wpList_is (some 24) (.pointer (some ⟨g, 0 + q * 2, none⟩)) rfl (by rfl) (run_at_pair _ _ rfl g 0 q np cap rfl rfl hlt _) ?_)
          | (refine at_dst 25 rfl ?_; refine wpList_is (some 25) (.agg #[.int .i64 (xa : Nat), .int .i64 (xb : Nat)]) rfl (by rfl) (run_load_pair _ rfl g (0 + q * 2) rfl _ _ wr k1 k2) ?_)
          | (refine at_dst 11 rfl ?_; refine wpList_is_w (some 11) (.pointer (some ⟨wr.heap.size, 0, none⟩)) (wr.alloc (.cells #[.int .i64 0, .int .i64 0] 71)) rfl (by rfl) (by kernel_rfl) ?_)
          | ((refine at_storeJ 71 (.tmp 11) (.tmp 25) rfl ?_)
             (refine wpList_copyL wr _ _ _ rfl (.tmp 11) (.tmp 25) rfl rfl rfl Tryd.sizePair rfl (by simp [Value.oneCell']) ?_)
             (intro w2 hH2 hb2)
             (have hL3 := hL2.next hD hb2)
             (have c0 : w2.cell? ⟨wr.heap.size, 0, none⟩ = some (.int .i64 (xa : Nat)) := hH2.cell 0)
             (have hoff : Off F2 c wr.heap.size := off_new hD hL2)
             (clear k1 k2)))
        go_loopw [12] (fun iv wz => ∃ i : Nat, xa ≤ i ∧ i ≤ xb ∧ iv = .int .i64 (i : Nat) ∧ InnerR D B w0 w p c F s1 m1 I xa i wr.heap.size xb wz)
          (fun iv _ => xb - (intOf iv).toNat)
        case atStart => exact ⟨xa, Nat.le_refl _, hxab', rfl, s1, m1, F2, [], hL3, Part.start _ _ _ _, hH2, hoff⟩
        case round =>
          rename World => wz
          obtain ⟨i, hia, hib, rfl, hR⟩ := hrel
          obtain ⟨s2, m2, F3, l, hL2, hp2, hH3, hof⟩ := hR
          have d1 : wz.cell? ⟨wr.heap.size, 1, none⟩ = some (.int .i64 (xb : Nat)) := hH3.cell 1
          have hn2 := hp2.bad
          have hB2 := hL2.bytes hB hio
          rw [HN.out] at hB2
          have hlg2 : s2.log.length ≤ s1.log.length + (i - xa) := by
            obtain ⟨_, _, _, e1, _, _, e2, _⟩ := hp2
            rw [e1, List.length_append]
            omega
          have hm2 : m2 ≤ m1 + (i - xa) := hp2.2.2.2.2.2.2.2.2.2
          clear hL3 c0
          have hCN := HN.out
          by_cases hlt2 : i < xb
          · have j0 : (i : Int) < (xb : Int) := by omega
            have j1 : (i : Int) ≤ 1000 := by omega
            have hW := jwrite_c hD hL2.dev i (by omega) (by omega) (by rw [hn2.2]; exact hd1) (by omega) (by omega) _ (C - 64 * i) (fun j => I (64 * i + j)) (by omega) (by simp) (hB2.part (64 * i) 64 (by omega)) (fun j => hI _)
            have hCi : 64 * i + 64 ≤ C := by omega
            clear hCN
            go_wp2_with (first
              | ((go_at_call 39)
                 (refine hW.mono ?_)
                 (rintro e w3 ⟨rfl, ho3, s3, m3, F4, hg3, hI3, hwr3⟩)
                 (clear hW))
              | (refine at_dst 42 rfl ?_; refine wpList_is (some 42) (.slice (some ⟨im, io + 64 * i, none⟩) 64 (C - 64 * i)) rfl (by rfl) (run_slice_in _ _ _ rfl im io N C i rfl rfl rfl hCi _) ?_))
            go_roundw
            case rel =>
              obtain ⟨l', hp3⟩ := hp2.step hia hwr3 hI
              exact ⟨i + 1, by omega, by omega, by go_num, s3, m3, F4, l', hL2.step ho3 hg3 hI3, hp3, box_only hH3 ho3 hof, hof.grew hg3 hH3.lt⟩
            case measure => simp [intOf]; omega
          · obtain rfl : i = xb := by omega
            have hsy2 := hD.sync wz p s2 c m2 F3 hL2.dev.dev (by omega) (by omega)
            rw [show s2.dead = false from hn2.2.trans hd1, if_neg (by simp)] at hsy2
            clear hCN
            go_wp2_with (first
              | ((go_at_call 71)
                 (refine hsy2.mono ?_)
                 (rintro e w3 ⟨rfl, (⟨hx3, _⟩ | ⟨_, ho3, F4, hg3, hd3⟩)⟩)
                 (case inl => cases hx3)
                 (have hI3 : In D B w0 w3 p (syncD s2 m2) c m2 F4 := hL2.dev.grew ho3 (fun _ hk => .inl hk) hg3 hd3)
                 (clear hsy2)))
            go_roundw
            case rel =>
              refine ⟨q + 1, by omega, by go_num, syncD s2 m2, m2, F4, hL2.step (ho3.mono (fun _ hk => .inl hk)) hg3 hI3, ?_⟩
              rw [take_snoc hx]
              exact hlaid.next hp2 m2
            case measure => simp [intOf]; omega
      · obtain rfl : q = np := by omega
        rw [HNP.out, List.take_length] at hlaid
        go_wp2
        go_ret
        exact .inr ⟨HD.out, rfl, s1, m1, F2, hL2, hlaid⟩

end Go.Proofs.YtoiaclmfljoomaaDoor
