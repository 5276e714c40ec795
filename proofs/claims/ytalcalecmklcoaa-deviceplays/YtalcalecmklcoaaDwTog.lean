/- device: countBy, Together. -/
import Derived.Test.YtalcalecmklcoaaDwCutM
import Derived.Test.YtalcalecmklcoaaDvTogM
namespace Go.Proofs.Ytalcalecmklcoaa
open Go.ChangeShapes Go.WideShapes Go.ChangeAt Go.RowKit
set_option linter.unusedVariables false

/-- A cell of a row of one's own is set. -/
theorem own_setAt {w : World} {e size n g cap j : Nat} {xs : List Value} (h : w.ownsRow 0 e size (.slice (some ⟨g, 0, none⟩) n cap) n xs) (hj : j < n * size) (u : Value) : (w.setCell ⟨g, j, none⟩ u).ownsRow 0 e size (.slice (some ⟨g, 0, none⟩) n cap) n (xs.set j u) := by
  refine ⟨by rw [List.length_set]; exact h.1, ?_⟩
  rcases h.2 with ⟨e0, _⟩ | ⟨g', cap', cur, e0, hb, hg, hn, hm, hs, ht⟩
  · cases e0
  · injection e0 with e1 _ e3
    injection e1 with e1
    injection e1 with e1
    subst e1 e3
    refine .inr ⟨g, cap, cur.setIfInBounds j u, rfl, hb, ?_, hn, hm, by simpa using hs, ?_⟩
    · have hg' : Has w g e cur := hg
      exact hg'.setV j u
    · rw [Array.toList_setIfInBounds, ← ht]
      apply List.ext_getElem?
      intro i
      rw [List.getElem?_take, List.getElem?_set, List.getElem?_set, List.getElem?_take]
      by_cases hi : i < n * size
      · rw [if_pos hi]
        by_cases hji : j = i
        · subst hji
          have hl : (cur.toList.take (n * size)).length = n * size := by rw [ht]; exact h.1
          rw [List.length_take] at hl ⊢
          rw [if_pos rfl, if_pos rfl]
          have : j < cur.toList.length := by omega
          rw [if_pos this, if_pos (by omega)]
        · rw [if_neg hji, if_neg hji, if_pos hi]
      · rw [if_neg hi, if_neg hi, if_neg (by omega)]

theorem flat_set {α : Type} (g : α → List Value) (K : Nat) (hg : ∀ a, (g a).length = K) (l1 : List α) (a a' : α) (l2 : List α) (j : Nat) (hj : j < K) (v : Value) (hs : (g a).set j v = g a') :
    ((l1 ++ a :: l2).flatMap g).set (l1.length * K + j) v = (l1 ++ a' :: l2).flatMap g := by
  rw [List.flatMap_append, List.flatMap_append, List.flatMap_cons, List.flatMap_cons]
  have hl : (l1.flatMap g).length = l1.length * K := flat_len g K hg l1
  rw [List.set_append_right _ _ (by rw [hl]; omega), hl, show l1.length * K + j - l1.length * K = j by omega, List.set_append_left _ _ (by rw [hg]; exact hj), hs]

theorem wcells_set (e : AE) (hs : e.sync = false) : (wcells e).set 65 (.int .i64 0) = wcells (anewE e) := by
  have hl : (bl e.b 64).length = 64 := by simp [bl]
  unfold wcells anewE
  rw [hs, show (65 : Nat) = 64 + 1 from rfl, List.set_cons_succ, List.set_append_right _ _ (by omega), hl]
  rfl

/-- The first k of some are done. -/
def upK {α : Type} (g : α → α) (l : List α) (k : Nat) : List α := (l.take k).map g ++ l.drop k
theorem upK_zero {α : Type} (g : α → α) (l : List α) : upK g l 0 = l := by simp [upK]
theorem upK_all {α : Type} (g : α → α) (l : List α) : upK g l l.length = l.map g := by simp [upK]
theorem upK_at {α : Type} (g : α → α) (l : List α) (k : Nat) (a : α) (h : l[k]? = some a) : upK g l k = (l.take k).map g ++ a :: l.drop (k + 1) ∧ upK g l (k + 1) = (l.take k).map g ++ g a :: l.drop (k + 1) := by
  have hk := (List.getElem?_eq_some_iff.1 h).1
  constructor
  · unfold upK
    rw [List.drop_eq_getElem_cons hk, (List.getElem?_eq_some_iff.1 h).2]
  · unfold upK
    rw [List.take_add_one, h]
    simp
theorem upK_len {α : Type} (g : α → α) (l : List α) (k : Nat) (h : k ≤ l.length) : ((l.take k).map g).length = k := by
  rw [List.length_map, List.length_take]
  omega

theorem own_cellAt {w : World} {e size n g cap : Nat} {xs : List Value} (h : w.ownsRow 0 e size (.slice (some ⟨g, 0, none⟩) n cap) n xs) (j : Nat) (v : Value) (hv : xs[j]? = some v) : w.cell? ⟨g, j, none⟩ = some v ∧ w.frozen? ⟨g, j, none⟩ = false := by
  rcases h.2 with ⟨e0, _⟩ | ⟨g', cap', cur, e0, hb, hg, hn, hm, hs, ht⟩
  · cases e0
  · injection e0 with e1 _ e3
    injection e1 with e1
    injection e1 with e1
    subst e1 e3
    have hg' : Has w g e cur := hg
    refine ⟨?_, hg'.free j⟩
    have hj : j < n * size := by rw [← h.1]; exact (List.getElem?_eq_some_iff.1 hv).1
    rw [hg'.cell, ← Array.getElem?_toList]
    rw [← ht, List.getElem?_take_of_lt hj] at hv
    exact hv

variable {w w' : World} {p c bb bs bc : Nat} {s : DS} {vw vs : Value}

def anewX (x : Nat × Int) : Nat × Int := (x.1, -1)

theorem own_nil {w : World} {e size n : Nat} {v : Value} {xs : List Value} (h : w.ownsRow 0 e size v n xs) : ∃ a cap, v = .slice a n cap ∧ (a = none → n = 0) ∧ (∀ ad, a = some ad → ∃ g, ad = ⟨g, 0, none⟩) := by
  obtain ⟨a, cap, h1, _, h2, h3, _⟩ := own_slice h
  exact ⟨a, cap, h1, fun e => (h2 e).1, h3⟩

set_option maxRecDepth 100000 in
set_option maxHeartbeats 4000000 in
theorem countBy_r (h : RepAt w p s c bb bs bc vw vs) (c' : Nat) (hlen : s.log.length ≤ 100000) :
    Calls Try.prog 47 #[ptr p, .pointer (some ⟨c', 0, none⟩)] w fun e w' => e = .returned (.tuple #[]) ∧ Only (fun k => k = p ∨ vw.ownBlock = some k ∨ vs.ownBlock = some k) w w' ∧ RepAt w' p (anewD s) c' bb bs bc vw vs := by
  have hwl : wrs s.log ≤ s.log.length := List.length_filter_le _ _
  have hsl := sy_len_le s.log
  have HR : Hid (RepAt w p s c bb bs bc vw vs) := h
  have h8 : w.cell? ⟨p, 8, none⟩ = some (.pointer (some ⟨c, 0, none⟩)) := h.cell 8
  have h8f := h.has.free 8
  have hO1 := only_setCell w p 8 (.pointer (some ⟨c', 0, none⟩))
  have hH1 : Has (w.setCell ⟨p, 8, none⟩ (.pointer (some ⟨c', 0, none⟩))) p 76 (dcells s.n s.dead bb bs bc vw vs (pend s.log) c') := h.has.setV 8 _
  have hW1 : (w.setCell ⟨p, 8, none⟩ (.pointer (some ⟨c', 0, none⟩))).ownsRow 0 98 67 vw (wrs s.log) (Wc s.log) := own_kept h.wr (fun g hg => hO1.block g (h.wr.lt g hg).2 (fun e => h.wr_p (e ▸ hg)))
  have hY1 : (w.setCell ⟨p, 8, none⟩ (.pointer (some ⟨c', 0, none⟩))).ownsRow 0 82 2 vs (syOf s.log).length (Sc s.log) := own_kept h.sy (fun g hg => hO1.block g (h.sy.lt g hg).2 (fun e => h.sy_p (e ▸ hg)))
  have hwp := h.wr_p
  have hsp := h.sy_p
  have hws := fun g => h.wr_sy (g := g)
  obtain ⟨aw, capw, rfl, hnilw, hsomew⟩ := own_nil h.wr
  obtain ⟨ay, capy, rfl, hnily, hsomey⟩ := own_nil h.sy
  have k5 := hH1.cell 5
  have k6 := hH1.cell 6
  have k5' : (w.setCell ⟨p, 8, none⟩ (.pointer (some ⟨c', 0, none⟩))).cell? ⟨p, 5, none⟩ = some (.slice aw (wrs s.log) capw) := k5
  clear h k5 k6
  go_enter Try.func47, Try.ntmps47
  go_wp2
  obtain ⟨w1, hw1⟩ : ∃ w1, w1 = w.setCell ⟨p, 8, none⟩ (.pointer (some ⟨c', 0, none⟩)) := ⟨_, rfl⟩
  rw [← hw1] at hO1 hH1 hW1 hY1 k5' ⊢
  clear hw1
  obtain ⟨nw, hnw⟩ : ∃ nw, nw = wrs s.log := ⟨_, rfl⟩
  have hnwl : (ws s.log).length = nw := by rw [hnw]; rfl
  rw [← hnw] at hW1 k5' hwl hnilw ⊢
  rw [← hnw] at hH1 hwp hws
  go_loopw [15] (fun iv wr => ∃ k : Nat, k ≤ nw ∧ iv = .int .i64 (k : Nat) ∧ wr.ownsRow 0 98 67 (.slice aw nw capw) nw ((upK anewE (ws s.log) k).flatMap wcells) ∧ Only (fun q => (Value.slice aw nw capw).ownBlock = some q) w1 wr)
    (fun iv _ => nw - (intOf iv).toNat)
  case atStart => exact ⟨0, Nat.zero_le _, rfl, by rw [upK_zero]; exact hW1, Only.refl _ _⟩
  case round =>
    obtain ⟨k, hk, rfl, hrow, hon⟩ := hrel
    have i1 : (0 : Int) ≤ (k : Int) := by omega
    by_cases hlt : k < nw
    · obtain ⟨e, he⟩ : ∃ e, (ws s.log)[k]? = some e := ⟨_, List.getElem?_eq_getElem (by rw [hnwl]; exact hlt)⟩
      have hns : e.sync = false := by
        have := (List.mem_filter.1 (List.mem_of_getElem? he)).2
        simpa using this
      have hnn : ∃ g, aw = some ⟨g, 0, none⟩ := by
        cases aw with
        | none => have := hnilw rfl; omega
        | some ad => obtain ⟨g, rfl⟩ := hsomew ad rfl; exact ⟨g, rfl⟩
      obtain ⟨g, rfl⟩ := hnn
      obtain ⟨u1, u2⟩ := upK_at anewE (ws s.log) k e he
      have hul := upK_len anewE (ws s.log) k (by omega)
      have hcv : ((upK anewE (ws s.log) k).flatMap wcells)[k * 67 + 65]? = some (.int .i64 e.mo) := by
        rw [u1, flat_at wcells 67 wcells_len _ k 65 e (by rw [List.getElem?_append_right (by omega), hul]; simp) (by decide)]
        exact wcells_mo e
      obtain ⟨c1, f1⟩ := own_cellAt hrow _ _ hcv
      have k5r : wr.cell? ⟨p, 5, none⟩ = some (.slice (some ⟨g, 0, none⟩) nw capw) := (hon.cell (p := ⟨p, 5, none⟩) hH1.lt hwp).trans k5'
      have hrow2 := own_setAt hrow (j := k * 67 + 65) (by omega) (.int .i64 0)
      have hset := flat_set wcells 67 wcells_len ((ws s.log).take k |>.map anewE) e (anewE e) ((ws s.log).drop (k + 1)) 65 (by decide) (.int .i64 0) (wcells_set e hns)
      rw [hul, ← u1, ← u2] at hset
      rw [hset] at hrow2
      have i0 : (k : Int) < (nw : Int) := by omega
      clear hrow hset u1 u2 hcv
      go_wp2
      go_roundw
      case rel => exact ⟨k + 1, by omega, by go_num, hrow2, hon.trans (only_setCell _ _ _ _) (fun x _ hx => by rw [hx]; rfl)⟩
      case measure => simp [intOf]; omega
    · obtain rfl : k = nw := by omega
      have hfin : (upK anewE (ws s.log) k).flatMap wcells = Wc (s.log.map anewE) := by
        unfold Wc
        rw [anew_ws, ← hnwl, upK_all]
      rw [hfin] at hrow
      have hH2 : Has wr p 76 (dcells s.n s.dead bb bs bc (.slice aw k capw) (.slice ay (syOf s.log).length capy) (pend s.log) c') := (hon.block p hH1.lt hwp).trans hH1
      have hY2 : wr.ownsRow 0 82 2 (.slice ay (syOf s.log).length capy) (syOf s.log).length (Sc s.log) := own_kept hY1 (fun g hg => hon.block g (hY1.lt g hg).2 (fun e => hws g e hg))
      have k6r : wr.cell? ⟨p, 6, none⟩ = some (.slice ay (syOf s.log).length capy) := hH2.cell 6
      obtain ⟨ny, hny⟩ : ∃ ny, ny = (syOf s.log).length := ⟨_, rfl⟩
      rw [← hny] at hY2 k6r hnily hsl hsp hws hH2
      obtain ⟨w2, hw2⟩ : ∃ w2, w2 = wr := ⟨_, rfl⟩
      rw [← hw2] at hrow hon hH2 hY2 k6r ⊢
      clear hw2 k5' hW1 hY1
      go_wp2
      go_loopw [31] (fun iv wr => ∃ q : Nat, q ≤ ny ∧ iv = .int .i64 (q : Nat) ∧ wr.ownsRow 0 82 2 (.slice ay ny capy) ny ((upK anewX (syOf s.log) q).flatMap scells) ∧ Only (fun q => (Value.slice ay ny capy).ownBlock = some q) w2 wr)
        (fun iv _ => ny - (intOf iv).toNat)
      case atStart => exact ⟨0, Nat.zero_le _, rfl, by rw [upK_zero]; exact hY2, Only.refl _ _⟩
      case round =>
        obtain ⟨q, hq, rfl, hrowY, honY⟩ := hrel
        have i1 : (0 : Int) ≤ (q : Int) := by omega
        by_cases hlt : q < ny
        · obtain ⟨x, hx⟩ : ∃ x, (syOf s.log)[q]? = some x := ⟨_, List.getElem?_eq_getElem (by rw [← hny]; exact hlt)⟩
          have hnn : ∃ g, ay = some ⟨g, 0, none⟩ := by
            cases ay with
            | none => have := hnily rfl; omega
            | some ad => obtain ⟨g, rfl⟩ := hsomey ad rfl; exact ⟨g, rfl⟩
          obtain ⟨g, rfl⟩ := hnn
          obtain ⟨u1, u2⟩ := upK_at anewX (syOf s.log) q x hx
          have hul := upK_len anewX (syOf s.log) q (by omega)
          have hcv : ((upK anewX (syOf s.log) q).flatMap scells)[q * 2 + 1]? = some (.int .i64 x.2) := by
            rw [u1, flat_at scells 2 (fun _ => rfl) _ q 1 x (by rw [List.getElem?_append_right (by omega), hul]; simp) (by decide)]
            rfl
          obtain ⟨c1, f1⟩ := own_cellAt hrowY _ _ hcv
          have k6q : wr.cell? ⟨p, 6, none⟩ = some (.slice (some ⟨g, 0, none⟩) ny capy) := (honY.cell (p := ⟨p, 6, none⟩) hH2.lt hsp).trans k6r
          have hrow2 := own_setAt hrowY (j := q * 2 + 1) (by omega) (.int .i64 (-1))
          have hset := flat_set scells 2 (fun _ => rfl) ((syOf s.log).take q |>.map anewX) x (anewX x) ((syOf s.log).drop (q + 1)) 1 (by decide) (.int .i64 (-1)) rfl
          rw [hul, ← u1, ← u2] at hset
          rw [hset] at hrow2
          have i0 : (q : Int) < (ny : Int) := by omega
          clear hrowY hset u1 u2 hcv
          go_wp2
          go_roundw
          case rel => exact ⟨q + 1, by omega, by go_num, hrow2, honY.trans (only_setCell _ _ _ _) (fun x _ hx => by rw [hx]; rfl)⟩
          case measure => simp [intOf]; omega
        · obtain rfl : q = ny := by omega
          have hfinY : (upK anewX (syOf s.log) q).flatMap scells = Sc (s.log.map anewE) := by
            have hs : syOf (s.log.map anewE) = (syOf s.log).map anewX := anew_sy s.log 0 0
            unfold Sc
            rw [hs, hny, upK_all]
          rw [hfinY] at hrowY
          have h := HR.out
          go_wp2
          go_end0
          have hAll : Only (fun x => x = p ∨ (Value.slice aw k capw).ownBlock = some x ∨ (Value.slice ay q capy).ownBlock = some x) w wr :=
            ((hO1.mono (G := fun x => x = p ∨ (Value.slice aw k capw).ownBlock = some x ∨ (Value.slice ay q capy).ownBlock = some x) (fun _ hx => .inl hx)).trans hon (fun x _ hx => .inr (.inl hx))).trans honY (fun x _ hx => .inr (.inr hx))
          have e1 : pend (anewD s).log = pend s.log := anew_pend s.log
          have e2 : wrs (anewD s).log = k := by
            show (ws (s.log.map anewE)).length = k
            rw [anew_ws, List.length_map, hnwl]
          have e4 : (syOf (anewD s).log).length = q := by
            show (syOf (s.log.map anewE)).length = q
            unfold syOf
            rw [anew_sy, List.length_map, hny]
            rfl
          rw [← hnw, ← hny]
          rw [← hnw, ← hny] at h
          have hnowN : SecMap wr bc s.n (holds s) := h.now.kept (hAll.block _ h.now.lt (by
            rintro (r | r | r)
            · exact h.bc_p r
            · exact h.wr_bc r
            · exact h.sy_bc r))
          refine ⟨rfl, hAll, ⟨by rw [e1]; exact (honY.block p hH2.lt hsp).trans hH2, h.n1, h.n2, h.bad.kept (hAll.block _ h.bad.lt ?_), h.fst.kept (hAll.block _ h.fst.lt ?_), by rw [anew_holds]; exact hnowN, ?_, ?_, h.d1, h.d2, h.d3, anew_rise s.log⟩⟩
          · rintro (r | r | r)
            · exact h.bb_p r
            · exact h.wr_bb r
            · exact h.sy_bb r
          · rintro (r | r | r)
            · exact h.bs_p r
            · exact h.wr_bs r
            · exact h.sy_bs r
          · rw [e2]
            exact own_kept hrow (fun g hg => honY.block g (hrow.lt g hg).2 (fun e => hws g hg e))
          · rw [e4]
            exact hrowY

theorem foot_own {p bb bs bc : Nat} {vw vs : Value} (k : Nat) (h : k = p ∨ vw.ownBlock = some k ∨ vs.ownBlock = some k) : Foot p bb bs bc vw vs k := by
  rcases h with h | h | h
  · exact .inl h
  · exact .inr (.inr (.inr (.inr (.inl h))))
  · exact .inr (.inr (.inr (.inr (.inr h))))

theorem past_anew (s : DS) : Past (anewD s) 0 := by
  intro e he
  obtain ⟨d, _, rfl⟩ := List.mem_map.1 he
  show (if d.sync then (-1 : Int) else 0) ≤ ((0 : Nat) : Int)
  split <;> omega

theorem rep_grow (h : RepAt w p s c bb bs bc vw vs) (k : Nat) (hk : w.heap.size ≤ k) : ¬ Foot p bb bs bc vw vs k := fun hf => by have := h.lt k hf; omega

set_option maxRecDepth 100000 in
set_option maxHeartbeats 2000000 in
theorem tog1_r (h : RepAt w p s c bb bs bc vw vs) (g : Nat) (hlen : s.log.length ≤ 100000) (g0 : w.cell? ⟨g, 0, none⟩ = some (.pointer none)) (g1 : w.cell? ⟨g, 1, none⟩ = some (ptr p)) :
    Calls Try.prog 23 #[.slice (some ⟨g, 0, none⟩) 2 2] w fun e w' => e = .returned (.tuple #[]) ∧ Only (Foot p bb bs bc vw vs) w w' ∧ Has w' w.heap.size 80 #[.int .i64 ((0 : Nat) : Int)] ∧ RepAt w' p (anewD s) w.heap.size bb bs bc vw vs := by
  have hb1 : Below w.heap.size w (w.alloc (.cells #[.int .i64 0] 80)) := (Below.refl _ _).alloc (Nat.le_refl _) _
  have hC1 : Has (w.alloc (.cells #[.int .i64 0] 80)) w.heap.size 80 #[.int .i64 ((0 : Nat) : Int)] := Has.new_at rfl
  have hR1 := h.below hb1
  have hglt : g < w.heap.size := World.block_lt_of_cell? w ⟨g, 0, none⟩ g0
  have k0 : (w.alloc (.cells #[.int .i64 0] 80)).cell? ⟨g, 0, none⟩ = some (.pointer none) := (hb1.cell (p := ⟨g, 0, none⟩) hglt).trans g0
  have k1 : (w.alloc (.cells #[.int .i64 0] 80)).cell? ⟨g, 1, none⟩ = some (ptr p) := (hb1.cell (p := ⟨g, 1, none⟩) hglt).trans g1
  have hcb := countBy_r hR1 w.heap.size hlen
  have hFb := rep_grow h w.heap.size (Nat.le_refl _)
  clear h hR1 g0 g1
  go_enter Try.func23, Try.ntmps23
  go_wp2
  obtain ⟨w1, hw1⟩ : ∃ w1, w1 = w.alloc (.cells #[.int .i64 0] 80) := ⟨_, rfl⟩
  rw [← hw1] at hb1 hC1 k0 k1 hcb ⊢
  clear hw1
  go_loopw [9] (fun iv wr => (iv = .int .i64 ((0 : Nat) : Int) ∧ wr = w1) ∨ (iv = .int .i64 ((1 : Nat) : Int) ∧ wr = w1) ∨ (iv = .int .i64 ((2 : Nat) : Int) ∧ Only (fun k => k = p ∨ vw.ownBlock = some k ∨ vs.ownBlock = some k) w1 wr ∧ RepAt wr p (anewD s) w.heap.size bb bs bc vw vs))
    (fun iv _ => 2 - (intOf iv).toNat)
  case atStart => exact .inl ⟨rfl, rfl⟩
  case round =>
    rcases hrel with ⟨rfl, hw⟩ | ⟨rfl, hw⟩ | ⟨rfl, hon, hrep⟩
    · obtain rfl : w1 = wr := hw.symm
      go_wp2
      go_roundw
      case rel => exact .inr (.inl ⟨by go_num, by trivial⟩)
      case measure => simp [intOf]
    · obtain rfl : w1 = wr := hw.symm
      go_wp2_with (first
        | ((go_at_call 47)
           (refine hcb.mono ?_)
           (rintro e w2 ⟨rfl, hon, hrep⟩)))
      go_roundw
      case rel => exact .inr (.inr ⟨by go_num, hon, hrep⟩)
      case measure => simp [intOf]
    · go_wp2
      go_end0
      refine ⟨rfl, ⟨hon.os.trans hb1.os, hon.tape.trans hb1.tape, hon.output.trans hb1.output, Nat.le_trans hb1.size hon.size, fun k hk hn => (hon.block k (Nat.lt_of_lt_of_le hk hb1.size) (fun e => hn (foot_own k e))).trans (hb1.block k hk)⟩, ?_, hrep⟩
      exact (hon.block _ hC1.lt (fun e => hFb (foot_own _ e))).trans hC1

set_option maxRecDepth 100000 in
set_option maxHeartbeats 2000000 in
theorem tog2_r {p2 c2 bb2 bs2 bc2 : Nat} {s2 : DS} {vw2 vs2 : Value} (h : RepAt w p s c bb bs bc vw vs) (h2 : RepAt w p2 s2 c2 bb2 bs2 bc2 vw2 vs2) (hap : ∀ k, Foot p bb bs bc vw vs k → ¬ Foot p2 bb2 bs2 bc2 vw2 vs2 k) (g : Nat) (hlen : s.log.length ≤ 100000) (hlen2 : s2.log.length ≤ 100000) (g0 : w.cell? ⟨g, 0, none⟩ = some (ptr p)) (g1 : w.cell? ⟨g, 1, none⟩ = some (ptr p2)) (hg : ¬ Foot p bb bs bc vw vs g) :
    Calls Try.prog 23 #[.slice (some ⟨g, 0, none⟩) 2 2] w fun e w' => e = .returned (.tuple #[]) ∧ Only (fun k => Foot p bb bs bc vw vs k ∨ Foot p2 bb2 bs2 bc2 vw2 vs2 k) w w' ∧ Has w' w.heap.size 80 #[.int .i64 ((0 : Nat) : Int)] ∧ RepAt w' p (anewD s) w.heap.size bb bs bc vw vs ∧ RepAt w' p2 (anewD s2) w.heap.size bb2 bs2 bc2 vw2 vs2 := by
  have hb1 : Below w.heap.size w (w.alloc (.cells #[.int .i64 0] 80)) := (Below.refl _ _).alloc (Nat.le_refl _) _
  have hC1 : Has (w.alloc (.cells #[.int .i64 0] 80)) w.heap.size 80 #[.int .i64 ((0 : Nat) : Int)] := Has.new_at rfl
  have hR1 := h.below hb1
  have hR2 := h2.below hb1
  have hglt : g < w.heap.size := World.block_lt_of_cell? w ⟨g, 0, none⟩ g0
  have k0 : (w.alloc (.cells #[.int .i64 0] 80)).cell? ⟨g, 0, none⟩ = some (ptr p) := (hb1.cell (p := ⟨g, 0, none⟩) hglt).trans g0
  have k1 : (w.alloc (.cells #[.int .i64 0] 80)).cell? ⟨g, 1, none⟩ = some (ptr p2) := (hb1.cell (p := ⟨g, 1, none⟩) hglt).trans g1
  have hcb := countBy_r hR1 w.heap.size hlen
  have hFb := rep_grow h w.heap.size (Nat.le_refl _)
  have hFb2 := rep_grow h2 w.heap.size (Nat.le_refl _)
  have HR2 : Hid (RepAt (w.alloc (.cells #[.int .i64 0] 80)) p2 s2 c2 bb2 bs2 bc2 vw2 vs2) := hR2
  clear h h2 hR1 hR2 g0 g1
  go_enter Try.func23, Try.ntmps23
  go_wp2
  obtain ⟨w1, hw1⟩ : ∃ w1, w1 = w.alloc (.cells #[.int .i64 0] 80) := ⟨_, rfl⟩
  rw [← hw1] at hb1 hC1 k0 k1 hcb HR2 ⊢
  have hglt1 : g < w1.heap.size := Nat.lt_of_lt_of_le hglt hb1.size
  clear hw1
  go_loopw [9] (fun iv wr => (iv = .int .i64 ((0 : Nat) : Int) ∧ wr = w1) ∨ (iv = .int .i64 ((1 : Nat) : Int) ∧ Only (Foot p bb bs bc vw vs) w1 wr ∧ RepAt wr p (anewD s) w.heap.size bb bs bc vw vs) ∨ (iv = .int .i64 ((2 : Nat) : Int) ∧ Only (fun k => Foot p bb bs bc vw vs k ∨ Foot p2 bb2 bs2 bc2 vw2 vs2 k) w1 wr ∧ RepAt wr p (anewD s) w.heap.size bb bs bc vw vs ∧ RepAt wr p2 (anewD s2) w.heap.size bb2 bs2 bc2 vw2 vs2))
    (fun iv _ => 2 - (intOf iv).toNat)
  case atStart => exact .inl ⟨rfl, rfl⟩
  case round =>
    rcases hrel with ⟨rfl, hw⟩ | ⟨rfl, hon, hrep⟩ | ⟨rfl, hon, hrep, hrep2⟩
    · obtain rfl : w1 = wr := hw.symm
      go_wp2_with (first
        | ((go_at_call 47)
           (refine hcb.mono ?_)
           (rintro e w2 ⟨rfl, hon, hrep⟩)))
      go_roundw
      case rel => exact .inr (.inl ⟨by go_num, hon.mono foot_own, hrep⟩)
      case measure => simp [intOf]
    · have k1r : wr.cell? ⟨g, 1, none⟩ = some (ptr p2) := (hon.cell (p := ⟨g, 1, none⟩) hglt1 hg).trans k1
      have hR2r := HR2.out.kept (fun k hk => hon.block k (HR2.out.lt k hk) (fun e => hap k e hk))
      have hcb2 := countBy_r hR2r w.heap.size hlen2
      clear hcb k0 k1
      go_wp2_with (first
        | ((go_at_call 47)
           (refine hcb2.mono ?_)
           (rintro e w2 ⟨rfl, hon2, hrep2⟩)))
      go_roundw
      case rel => exact .inr (.inr ⟨by go_num, (hon.mono (G := fun k => Foot p bb bs bc vw vs k ∨ Foot p2 bb2 bs2 bc2 vw2 vs2 k) (fun _ h => .inl h)).trans hon2 (fun x _ hx => .inr (foot_own x hx)), hrep.kept (fun k hk => hon2.block k (hrep.lt k hk) (fun e => hap k hk (foot_own k e))), hrep2⟩)
      case measure => simp [intOf]
    · go_wp2
      go_end0
      refine ⟨rfl, ⟨hon.os.trans hb1.os, hon.tape.trans hb1.tape, hon.output.trans hb1.output, Nat.le_trans hb1.size hon.size, fun k hk hn => (hon.block k (Nat.lt_of_lt_of_le hk hb1.size) hn).trans (hb1.block k hk)⟩, ?_, hrep, hrep2⟩
      exact (hon.block _ hC1.lt (fun e => e.elim hFb hFb2)).trans hC1
end Go.Proofs.Ytalcalecmklcoaa
