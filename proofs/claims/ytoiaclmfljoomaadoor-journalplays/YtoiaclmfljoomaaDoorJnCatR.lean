/- The law's own lists: one behind the other. -/
import Derived.Test.YtoiaclmfljoomaaDoorJnOwnR
namespace Go.Proofs.YtoiaclmfljoomaaDoor
open Go.ChangeShapes Go.WideShapes Go.ChangeAt Go.RowKit
set_option linter.unusedVariables false

variable {D : DevRep} {B : Nat} {w0 w w' : World} {j p c m n : Nat} {s : DS} {F : Nat → Prop} {rs qs : List RC} {fl : Nat} {G : Nat → Prop} {X Y : Nat → Prop} {v u : Value}

theorem own_uniq {b e b' e' n : Nat} {v : Value} {xs ys : List Value} (h : w.ownsRow b e 1 v n xs) (h' : w.ownsRow b' e' 1 v n ys) : xs = ys := by
  rcases h.2 with ⟨rfl, h0⟩ | ⟨g, cap, cur, rfl, _, hg, _, _, _, ht⟩
  · have h1 := h.1
    have h2 := h'.1
    rw [h0] at h1 h2
    rw [List.eq_nil_of_length_eq_zero (show xs.length = 0 by omega), List.eq_nil_of_length_eq_zero (show ys.length = 0 by omega)]
  · rcases h'.2 with ⟨e1, _⟩ | ⟨g', cap', cur', e1, _, hg', _, _, _, ht'⟩
    · cases e1
    · cases e1
      rw [hg] at hg'
      injection hg' with h3
      injection h3 with h4
      subst h4
      rw [← ht, ← ht']

/-- A row of slices appended to another: the run alone. -/
theorem run_append_recs (base : Nat) {xs : List Value} (hv : w.ownsRow base 33 1 v n xs) {base2 n2 : Nat} {ys : List Value} (hu : w.ownsRow base2 33 1 u n2 ys) (h1 : ∀ y ∈ ys, y.oneCell' = true) (hn : n + n2 ≤ 100000) (hbase : base ≤ w.heap.size) :
    ∃ v' w', (∀ ty, (Builtin.append_ #[32, 32] ty #[v, u]).run Tryd.prog w = .ok v' w') ∧ w'.ownsRow base 33 1 v' (n + n2) (xs ++ ys) ∧ w.grownBy w' v.ownBlock ∧ ∀ g, v'.ownBlock = some g → v.ownBlock = some g ∨ g = w.heap.size := by
  obtain ⟨i0, hi, hz0, hz1, hz2⟩ := info_parts Tryd.infoBy
  rcases hu.2 with ⟨rfl, h0⟩ | ⟨g2, cap2, cur2, rfl, hb2, hg2, hn2, hm2, hs2, ht2⟩
  · have hy0 : ys = [] := List.eq_nil_of_length_eq_zero (by have := hu.1; omega)
    subst h0 hy0
    refine ⟨v, w, fun ty => ?_, by rw [List.append_nil]; exact hv, grownBy_refl _ _, fun g e => .inl e⟩
    rcases hv.2 with ⟨rfl, rfl⟩ | ⟨g', cap, cur, rfl, hbg, hg, hnc, hcm, hcs, htake⟩
    · simp [Builtin.append_, run_underlying Tryd.underlying32, sizeOf, typeInfo, hi, Builtin.lenOf, Builtin.firstCells]
    · simp [Builtin.append_, run_underlying Tryd.underlying32, sizeOf, typeInfo, hi, Builtin.lenOf, Builtin.firstCells, hnc, storeCells]
  · obtain ⟨v', w', hr, h2, h3, _, h5⟩ := run_append_own_at (P := Tryd.prog) w base 32 0 33 i0 _ 1 24 Tryd.underlying32 hi hz0 hz1 hz2 rfl (by decide) v n xs hv ⟨g2, 0, none⟩ n2 cap2 ys hu.1 (fun j y hj => by
      rw [Addr.add_mid, Nat.zero_add]
      obtain ⟨g9, e9, _, _, hc9⟩ := row_cell hu j y hj
      cases e9
      exact hc9) h1 (by unfold maxLen; omega) (by omega) hbase
    refine ⟨v', w', fun ty => hr, h2, h3, fun g e => ?_⟩
    rcases h5 with h5 | h5
    · exact .inl (h5 ▸ e)
    · rw [h5] at e
      cases e
      exact .inr rfl

theorem OwnR.cells1 {cells : List Value} (h : OwnR B w v rs X) (hr : w.ownsRow B 33 1 v rs.length cells) : ∀ y ∈ cells, y.oneCell' = true := by
  obtain ⟨cells', h1, _, h3⟩ := h.row
  rw [own_uniq hr h1]
  intro y hy
  obtain ⟨i, hi⟩ := List.mem_iff_getElem?.1 hy
  have hil : i < rs.length := by
    have := (List.getElem?_eq_some_iff.1 hi).1
    have := h1.1
    omega
  obtain ⟨ad, C, e1, _⟩ := h3 i _ (List.getElem?_eq_getElem hil)
  rw [hi] at e1
  cases e1
  rfl

theorem OwnR.blk (h : OwnR B w v rs X) {k : Nat} (hk : v.ownBlock = some k) : X k := by
  obtain ⟨_, _, h2, _⟩ := h.row
  exact h2 k hk

/-- One list behind another. -/
theorem OwnR.cat (h : OwnR B w v rs X) (k : OwnR B w u qs Y) (hl : rs.length + qs.length ≤ 99999) : ∃ v' w' , (∀ ty, (Builtin.append_ #[32, 32] ty #[v, u]).run Tryd.prog w = .ok v' w') ∧ Only (fun x => v.ownBlock = some x) w w' ∧
    OwnR B w' v' (rs ++ qs) (fun x => (X x ∨ Y x) ∨ v'.ownBlock = some x) ∧ ∀ g, v'.ownBlock = some g → X g ∨ w.heap.size ≤ g := by
  obtain ⟨cells, h1, h2, h3⟩ := h.row
  obtain ⟨celk, k1, k2, k3⟩ := k.row
  obtain ⟨v', w', hr, ho, hg, hb⟩ := run_append_recs B h1 k1 (k.cells1 k1) (by omega) h.sz
  have hsz : w.heap.size ≤ w'.heap.size := hg.size
  have hkb : ∀ x, x < w.heap.size → v.ownBlock ≠ some x → w'.heap[x]? = w.heap[x]? := fun x hx hn => hg.block x hx (fun e => hn e.symm)
  have hne : ∀ b, b < B ∨ ((X b ∨ Y b) ∧ ∃ cur, w.heap[b]? = some (.cells cur 5 (0, 0))) → v.ownBlock ≠ some b := by
    rintro b (h4 | ⟨_, cur, h4⟩) e
    · have := (h1.lt b e).1
      omega
    · exact own_has_ne h1 (show Has w b 5 cur from h4) (by decide) e
  have hel : ∀ {a : Option Addr} {L C : Nat} {f : Nat → Nat}, ByIn w a L C f → (∀ b o, a = some ⟨b, o, none⟩ → b < B ∨ ((X b ∨ Y b) ∧ ∃ cur, w.heap[b]? = some (.cells cur 5 (0, 0)))) → ByIn w' a L C f := by
    intro a L C f hby hx
    refine ⟨hby.le, hby.max, hby.nil, ?_, hby.byt⟩
    rcases hby.at_ with h0 | ⟨b, o, rfl, hlt, hc⟩
    · exact .inl h0
    · refine .inr ⟨b, o, rfl, by omega, fun q hq => ?_⟩
      rw [← hc q hq]
      exact World.cell?_of_block (hkb b hlt (hne b (hx b o rfl)))
  have hco : ∀ b, b < B ∨ ((X b ∨ Y b) ∧ ∃ cur, w.heap[b]? = some (.cells cur 5 (0, 0))) → b < B ∨ (((X b ∨ Y b) ∨ v'.ownBlock = some b) ∧ ∃ cur, w'.heap[b]? = some (.cells cur 5 (0, 0))) := by
    rintro b (h4 | ⟨h4, cur, h5⟩)
    · exact .inl h4
    · exact .inr ⟨.inl h4, cur, (hkb b (h4.elim (fun h6 => (h.lt b h6).2) (fun h6 => (k.lt b h6).2)) (hne b (.inr ⟨h4, cur, h5⟩))).trans h5⟩
  have hcl : cells.length = rs.length := by have := h1.1; omega
  refine ⟨v', w', hr, ⟨hg.os, hg.tape, hg.output, hg.size, fun x hx hn => hkb x hx hn⟩, ⟨by rw [List.length_append]; omega, ?_, Nat.le_trans h.sz hsz, cells ++ celk, by rw [List.length_append]; exact ho, fun g e => .inr e, fun i r hr' => ?_⟩, fun g e => (hb g e).imp (h2 g) (fun e2 => by rw [e2]; exact Nat.le_refl _)⟩
  · rintro x ((hx | hx) | hx)
    · exact ⟨(h.lt x hx).1, by have := (h.lt x hx).2; omega⟩
    · exact ⟨(k.lt x hx).1, by have := (k.lt x hx).2; omega⟩
    · exact ho.lt x hx
  · by_cases hi : i < rs.length
    · rw [List.getElem?_append_left hi] at hr'
      obtain ⟨a2, C2, e1, e2, e3⟩ := h3 i r hr'
      have e3' := fun b o e => (e3 b o e).imp id (fun h9 : X b ∧ _ => (⟨.inl h9.1, h9.2⟩ : (X b ∨ Y b) ∧ _))
      exact ⟨a2, C2, by rw [List.getElem?_append_left (by omega)]; exact e1, hel e2 e3', fun b o e => hco b (e3' b o e)⟩
    · rw [List.getElem?_append_right (by omega)] at hr'
      obtain ⟨a2, C2, e1, e2, e3⟩ := k3 _ r hr'
      have e3' := fun b o e => (e3 b o e).imp id (fun h9 : Y b ∧ _ => (⟨.inr h9.1, h9.2⟩ : (X b ∨ Y b) ∧ _))
      exact ⟨a2, C2, by rw [List.getElem?_append_right (by omega), hcl]; exact e1, hel e2 e3', fun b o e => hco b (e3' b o e)⟩

/-- An empty list that was just made. -/
theorem OwnR.empty (hB : B ≤ w.heap.size) : OwnR B (w.alloc (.cells #[] 33)) (.slice (some ⟨w.heap.size, 0, none⟩) 0 0) [] (fun k => k = w.heap.size) :=
  ⟨Nat.zero_le _, fun k hk => by rw [hk]; exact ⟨hB, by simp⟩, Nat.le_trans hB (by simp), [], ⟨rfl, .inr ⟨w.heap.size, 0, #[], rfl, hB, heap_alloc_new w _, Nat.le_refl _, Nat.zero_le _, rfl, rfl⟩⟩, fun g e => (by cases e; rfl), fun i r hr => (by simp at hr)⟩
end Go.Proofs.YtoiaclmfljoomaaDoor
