/- The law's own lists of records. -/
import Derived.Test.YtoiaclmfljoomaaDoorJoint09
namespace Go.Proofs.YtoiaclmfljoomaaDoor
open Go.ChangeShapes Go.WideShapes Go.ChangeAt Go.RowKit
set_option linter.unusedVariables false

variable {D : DevRep} {B : Nat} {w0 w w' : World} {j p c m n : Nat} {s s' : DS} {m' : Nat} {F F' : Nat → Prop} {rs rs' : List RC} {fl fl' : Nat} {G G' : Nat → Prop} {X Y : Nat → Prop} {v : Value}

/-- A list of records of the call's own: its row in blocks X, each record in what came in or in X. -/
structure OwnR (B : Nat) (w : World) (v : Value) (rs : List RC) (X : Nat → Prop) : Prop where
  len : rs.length ≤ 100000
  lt : ∀ k, X k → B ≤ k ∧ k < w.heap.size
  sz : B ≤ w.heap.size
  row : ∃ cells, w.ownsRow B 33 1 v rs.length cells ∧ (∀ g, v.ownBlock = some g → X g) ∧ ∀ (i : Nat) (r : RC), rs[i]? = some r → ∃ ad C, cells[i]? = some (.slice ad r.L C) ∧ ByIn w ad r.L C r.f ∧ ∀ b o, ad = some ⟨b, o, none⟩ → b < B ∨ (X b ∧ ∃ cur, w.heap[b]? = some (.cells cur 5 (0, 0)))

theorem ByIn.only {a : Option Addr} {L C : Nat} {f : Nat → Nat} {H : Nat → Prop} (h : ByIn w a L C f) (ho : Only H w w') (hn : ∀ b o, a = some ⟨b, o, none⟩ → ¬ H b) : ByIn w' a L C f := ⟨h.le, h.max, h.nil, h.at_.only ho hn, h.byt⟩

theorem OwnR.only (h : OwnR B w v rs X) {H : Nat → Prop} (ho : Only H w w') (hH : ∀ k, H k → B ≤ k) (hX : ∀ k, X k → ¬ H k) : OwnR B w' v rs X := by
  obtain ⟨cells, h1, h2, h3⟩ := h.row
  refine ⟨h.len, fun k hk => ⟨(h.lt k hk).1, Nat.lt_of_lt_of_le (h.lt k hk).2 ho.size⟩, Nat.le_trans h.sz ho.size, cells, own_only h1 ho (fun g e => hX g (h2 g e)), h2, fun i r hr => ?_⟩
  obtain ⟨ad, C, e1, e2, e3⟩ := h3 i r hr
  exact ⟨ad, C, e1, e2.only ho (fun b o e hb => (e3 b o e).elim (fun h4 => by have := hH b hb; omega) (fun h4 => hX b h4.1 hb)), fun b o e => (e3 b o e).imp id (fun ⟨h4, cur, h5⟩ => ⟨h4, cur, (ho.block b (h.lt b h4).2 (hX b h4)).trans h5⟩)⟩

theorem OwnR.below (h : OwnR B w v rs X) (hb : Below w.heap.size w w') : OwnR B w' v rs X := h.only (H := fun k => w.heap.size ≤ k) (Only.of_below hb (Nat.le_refl _)) (fun k hk => Nat.le_trans h.sz hk) (fun k hk h2 => by have := (h.lt k hk).2; omega)

theorem OwnR.nil (hB : B ≤ w.heap.size) : OwnR B w (.slice none 0 0) [] (fun _ => False) := ⟨Nat.zero_le _, fun k hk => hk.elim, hB, [], ⟨rfl, .inl ⟨rfl, rfl⟩⟩, fun g e => (by cases e), fun i r hr => (by simp at hr)⟩

theorem OwnR.mono (h : OwnR B w v rs X) (hXY : ∀ k, X k → Y k) (hY : ∀ k, Y k → B ≤ k ∧ k < w.heap.size) : OwnR B w v rs Y := by
  obtain ⟨cells, h1, h2, h3⟩ := h.row
  exact ⟨h.len, hY, h.sz, cells, h1, fun g e => hXY g (h2 g e), fun i r hr => by
    obtain ⟨ad, C, e1, e2, e3⟩ := h3 i r hr
    exact ⟨ad, C, e1, e2, fun b o e => (e3 b o e).imp id (fun h4 => ⟨hXY b h4.1, h4.2⟩)⟩⟩

theorem OwnR.rl (h : OwnR B w v rs X) : ∃ a cp, v = .slice a rs.length cp ∧ Rl w a rs := by
  obtain ⟨cells, h1, h2, h3⟩ := h.row
  obtain ⟨a, cp, rfl, _⟩ := own_slJ h1
  refine ⟨a, cp, rfl, by have := h.len; unfold maxLen; omega, fun i r hi => ?_⟩
  obtain ⟨ad, C, e1, e2, _⟩ := h3 i r hi
  obtain ⟨g, rfl, _, hg, hc⟩ := row_cell h1 i _ e1
  exact ⟨g, 0, ad, C, rfl, hg, by rw [Nat.zero_add]; exact hc, e2⟩

/-- One more behind it. -/
theorem OwnR.push (h : OwnR B w v rs X) {w1 : World} {ad : Option Addr} {L C : Nat} {f : Nat → Nat} (hb : ByIn w ad L C f) (hbX : ∀ b o, ad = some ⟨b, o, none⟩ → b < B ∨ (X b ∧ ∃ cur, w.heap[b]? = some (.cells cur 5 (0, 0)))) (hl : rs.length ≤ 99999) {v' : Value}
    (hg : (w.alloc (.cells #[.slice ad L C] 33)).grownBy w1 v.ownBlock) (ho : ∀ xs, w.ownsRow B 33 1 v rs.length xs → w1.ownsRow B 33 1 v' (rs.length + 1) (xs ++ [.slice ad L C])) :
    Only X w w1 ∧ OwnR B w1 v' (rs ++ [⟨L, f⟩]) (fun k => X k ∨ (w.heap.size ≤ k ∧ k < w1.heap.size) ∨ v'.ownBlock = some k) := by
  obtain ⟨cells, h1, h2, h3⟩ := h.row
  have h1' := ho cells h1
  have hsz : w.heap.size + 1 ≤ w1.heap.size := by have := hg.size; simpa using this
  have hBs := h.sz
  have hkb : ∀ k, k < w.heap.size → v.ownBlock ≠ some k → w1.heap[k]? = w.heap[k]? := fun k hk hn => (hg.block k (by simp; omega) (fun e => hn e.symm)).trans (by simp only [World.alloc, Array.getElem?_push]; rw [if_neg (by omega)])
  have hon : Only X w w1 := ⟨hg.os, hg.tape, hg.output, by omega, fun k hk hn => hkb k hk (fun e => hn (h2 k e))⟩
  have hcl : cells.length = rs.length := by have := h1.1; omega
  have hne : ∀ b, b < B ∨ (X b ∧ ∃ cur, w.heap[b]? = some (.cells cur 5 (0, 0))) → v.ownBlock ≠ some b := by
    rintro b (h4 | ⟨_, cur, h4⟩) e
    · have := (h1.lt b e).1
      omega
    · exact own_has_ne h1 (show Has w b 5 cur from h4) (by decide) e
  have hel : ∀ {a : Option Addr} {L C : Nat} {f : Nat → Nat}, ByIn w a L C f → (∀ b o, a = some ⟨b, o, none⟩ → b < B ∨ (X b ∧ ∃ cur, w.heap[b]? = some (.cells cur 5 (0, 0)))) → ByIn w1 a L C f := by
    intro a L C f hby hx
    refine ⟨hby.le, hby.max, hby.nil, ?_, hby.byt⟩
    rcases hby.at_ with h0 | ⟨b, o, rfl, hlt, hc⟩
    · exact .inl h0
    · refine .inr ⟨b, o, rfl, by omega, fun k hk => ?_⟩
      rw [← hc k hk]
      exact World.cell?_of_block (hkb b hlt (hne b (hx b o rfl)))
  have hco : ∀ b, b < B ∨ (X b ∧ ∃ cur, w.heap[b]? = some (.cells cur 5 (0, 0))) → b < B ∨ ((X b ∨ (w.heap.size ≤ b ∧ b < w1.heap.size) ∨ v'.ownBlock = some b) ∧ ∃ cur, w1.heap[b]? = some (.cells cur 5 (0, 0))) := by
    rintro b (h4 | ⟨h4, cur, h5⟩)
    · exact .inl h4
    · exact .inr ⟨.inl h4, cur, (hkb b (h.lt b h4).2 (hne b (.inr ⟨h4, cur, h5⟩))).trans h5⟩
  refine ⟨hon, by rw [List.length_append, List.length_singleton]; omega, ?_, by omega, cells ++ [.slice ad L C], by rw [List.length_append, List.length_singleton]; exact h1', fun g e => .inr (.inr e), fun i r' hr' => ?_⟩
  · rintro k (hk | ⟨hk1, hk2⟩ | hk)
    · exact ⟨(h.lt k hk).1, by have := (h.lt k hk).2; omega⟩
    · exact ⟨by omega, hk2⟩
    · exact h1'.lt k hk
  · by_cases hi : i < rs.length
    · rw [List.getElem?_append_left hi] at hr'
      obtain ⟨a2, C2, e1, e2, e3⟩ := h3 i r' hr'
      exact ⟨a2, C2, by rw [List.getElem?_append_left (by omega)]; exact e1, hel e2 e3, fun b o e => hco b (e3 b o e)⟩
    · have hil : i < (rs ++ [(⟨L, f⟩ : RC)]).length := (List.getElem?_eq_some_iff.1 hr').1
      rw [List.length_append, List.length_singleton] at hil
      obtain rfl : i = rs.length := by omega
      rw [List.getElem?_append_right (Nat.le_refl _)] at hr'
      obtain rfl : (⟨L, f⟩ : RC) = r' := by simpa using hr'
      exact ⟨ad, C, by rw [List.getElem?_append_right (by omega)]; simp [hcl], hel hb hbX, fun b o e => hco b (hbX b o e)⟩

/-- Apart from a journal and its device. -/
def Apt (F : Nat → Prop) (c : Nat) (G X : Nat → Prop) : Prop := ∀ k, X k → Off F c k ∧ ¬ G k

theorem Apt.step (h : Apt F c G X) (hX : ∀ k, X k → k < w.heap.size) (hF : Grew w F F') (hG : Grew w G G') : Apt F' c G' X := fun k hk => ⟨(h k hk).1.grew hF (hX k hk), fun hg => (hG k hg).elim (h k hk).2 (fun h2 => by have := hX k hk; omega)⟩

theorem JStep.row (h : JStep D B w0 w w' j p s' c m' F F' rs' fl' G G') (hF : ∀ k, F k → B ≤ k) (hc : B ≤ c) (hG : ∀ k, G k → B ≤ k) {ls : List RC} (hr : OwnR B w v ls X) (ha : Apt F c G X) : OwnR B w' v ls X ∧ Apt F' c G' X :=
  ⟨hr.only h.only (fun k hk => by
      rcases hk with (h1 | h1) | h1
      · exact hF k h1
      · rw [h1]; exact hc
      · exact hG k h1) (fun k hk hn => by
      rcases hn with h1 | h1
      · exact (ha k hk).1 h1
      · exact (ha k hk).2 h1), ha.step (fun k hk => (hr.lt k hk).2) h.grewF h.grewG⟩

/-- What the law's own lists turn leaves the journal. -/
theorem JIn.own (h : JIn D B w0 w j p s c m F rs fl G) (hD : DevOk D) (ho : Only X w w') (hX : ∀ k, X k → B ≤ k) (ha : Apt F c G X) : JIn D B w0 w' j p s c m F rs fl G :=
  h.only hD ho (fun k hk hx => (ha k hx).1 (.inl hk)) (fun hx => (ha c hx).1 (.inr rfl)) (fun k hk hx => (ha k hx).2 hk) hX

theorem apt_new (h : JIn D B w0 w j p s c m F rs fl G) (hD : DevOk D) (ha : Apt F c G X) (hY : ∀ k, Y k → X k ∨ w.heap.size ≤ k) : Apt F c G Y := fun k hk => (hY k hk).elim (ha k) (fun h2 => ⟨in_offs hD h.dev k h2, fun hg => by have := h.lt k hg; omega⟩)
end Go.Proofs.YtoiaclmfljoomaaDoor
