/- Lists of sectors, one for each number: rows of slices of the call's own. -/
import Derived.Test.YtalcalecmklcoaaDvSafeM
import Derived.Deep.AppendLies
namespace Go.Proofs.Ytalcalecmklcoaa
open Go.ChangeShapes Go.WideShapes Go.ChangeAt Go.RowKit
set_option linter.unusedVariables false

def rowsV (l : List (Nat × (Nat → Nat))) : List Value := l.map fun x => .slice (some ⟨x.1, 0, none⟩) 64 64

theorem size_set (W : World) (p : Addr) (v : Value) : (W.setCell p v).heap.size = W.heap.size := by simp [World.setCell]

theorem grown_set1 (W : World) (b j : Nat) (v : Value) : W.grownBy (W.setCell ⟨b, j, none⟩ v) (some b) :=
  ⟨rfl, rfl, rfl, by simp [World.setCell], fun k hk hne => by simp only [World.setCell, Array.getElem?_modify]; rw [if_neg (fun e => hne (by rw [← e]))]⟩

theorem only_set (W : World) (b j : Nat) (v : Value) : Only (fun k => k = b) W (W.setCell ⟨b, j, none⟩ v) :=
  ⟨rfl, rfl, rfl, by simp [World.setCell], fun k hk hne => Below.heap_setCell W ⟨b, j, none⟩ v k hne⟩

structure May (w : World) (F : Nat → Prop) (c base gm : Nat) (V : Nat → Value) (Ls : Nat → List (Nat × (Nat → Nat))) : Prop where
  has : Has w gm 54 (cells8 V)
  out : Out F c gm
  row : ∀ i, i < 8 → w.ownsRow base 33 1 (V i) (Ls i).length (rowsV (Ls i))
  rout : ∀ i, i < 8 → ∀ g, (V i).ownBlock = some g → Out F c g
  apart : ∀ i j, i < 8 → j < 8 → i ≠ j → ∀ g, (V i).ownBlock = some g → (V j).ownBlock ≠ some g
  sec : ∀ i, i < 8 → ∀ x, x ∈ Ls i → Has w x.1 5 (cellsN .u8 64 x.2) ∧ Out F c x.1 ∧ ∀ j, x.2 j < 256

theorem ownV_kept {w w' : World} {base n : Nat} {v : Value} {xs : List Value} (h : w.ownsRow base 33 1 v n xs) (hs : w.heap.size ≤ w'.heap.size) (hB : ∀ g, v.ownBlock = some g → w'.heap[g]? = w.heap[g]?) : w'.ownsRow base 33 1 v n xs := by
  refine ⟨h.1, ?_⟩
  rcases h.2 with h0 | ⟨g, cap, cur, hv, h1, hg, r⟩
  · exact .inl h0
  · exact .inr ⟨g, cap, cur, hv, h1, (hB g (by rw [hv]; rfl)).trans hg, r⟩

theorem May.only {w w' : World} {F F' : Nat → Prop} {c base gm : Nat} {V : Nat → Value} {Ls : Nat → List (Nat × (Nat → Nat))} (h : May w F c base gm V Ls) (ho : Only (fun k => F k ∨ k = c) w w') (hg : Grew w F F') : May w' F' c base gm V Ls :=
  ⟨h.has.only ho h.out, h.out.grew hg h.has.lt, fun i hi => ownV_kept (h.row i hi) ho.size (fun g e => ho.block g ((h.row i hi).lt g e).2 (fun hh => hh.elim (h.rout i hi g e).1 (h.rout i hi g e).2)), fun i hi g e => (h.rout i hi g e).grew hg ((h.row i hi).lt g e).2, h.apart, fun i hi x hx => ⟨(h.sec i hi x hx).1.only ho (h.sec i hi x hx).2.1, (h.sec i hi x hx).2.1.grew hg (h.sec i hi x hx).1.lt, (h.sec i hi x hx).2.2⟩⟩

theorem May.below {w w' : World} {F : Nat → Prop} {c base gm : Nat} {V : Nat → Value} {Ls : Nat → List (Nat × (Nat → Nat))} (h : May w F c base gm V Ls) (hb : Below w.heap.size w w') : May w' F c base gm V Ls :=
  ⟨h.has.below hb h.has.lt, h.out, fun i hi => ownV_kept (h.row i hi) hb.size (fun g e => hb.block g ((h.row i hi).lt g e).2), h.rout, h.apart, fun i hi x hx => ⟨(h.sec i hi x hx).1.below hb (h.sec i hi x hx).1.lt, (h.sec i hi x hx).2⟩⟩

def updL (Ls : Nat → List (Nat × (Nat → Nat))) (i : Nat) (x : Nat × (Nat → Nat)) : Nat → List (Nat × (Nat → Nat)) := fun j => if j = i then Ls i ++ [x] else Ls j

theorem infoV : (Try.prog.info? 33).map (fun i => (i.zero, i.size, i.bytes)) = some (some (.slice none 0 0), 1, 24) := by kernel_rfl

/-- A sector that was made is appended to one of the lists: the append itself. -/
theorem may_append {w : World} {F : Nat → Prop} {c base gm : Nat} {V : Nat → Value} {Ls : Nat → List (Nat × (Nat → Nat))} (h : May w F c base gm V Ls) (i : Nat) (hi : i < 8) (gs : Nat) (f : Nat → Nat) (hn : (Ls i).length ≤ 1000) (hbase : base ≤ w.heap.size) (ty : TypeId) :
    ∃ g cap w', (Builtin.append_ #[53, 53] ty #[V i, .slice (some ⟨w.heap.size, 0, none⟩) 1 1]).run Try.prog (w.alloc (.cells #[.slice (some ⟨gs, 0, none⟩) 64 64] 33)) = .ok (.slice (some ⟨g, 0, none⟩) ((Ls i).length + 1) cap) w' ∧
      w'.ownsRow base 33 1 (.slice (some ⟨g, 0, none⟩) ((Ls i).length + 1) cap) ((Ls i).length + 1) (rowsV (Ls i ++ [(gs, f)])) ∧ (w.alloc (.cells #[.slice (some ⟨gs, 0, none⟩) 64 64] 33)).grownBy w' (V i).ownBlock ∧ ((V i).ownBlock = some g ∨ g = w.heap.size + 1) := by
  obtain ⟨i0, hi0, hz0, hz1, hz2⟩ := info_parts infoV
  have hb : Below w.heap.size w (w.alloc (.cells #[.slice (some ⟨gs, 0, none⟩) 64 64] 33)) := (Below.refl _ _).alloc (Nat.le_refl _) _
  have hown := (h.below hb).row i hi
  obtain ⟨g, cap, w', h1, h2, h3, h4, _⟩ := run_append_lies (P := Try.prog) (w.alloc (.cells #[.slice (some ⟨gs, 0, none⟩) 64 64] 33)) 53 ty base 33 i0 (.slice none 0 0) 1 24 Try.underlying53 hi0 hz0 hz1 hz2 rfl (by decide) (V i) (Ls i).length _ hown ⟨w.heap.size, 0, none⟩ 1 1 [.slice (some ⟨gs, 0, none⟩) 64 64] rfl (World.news_of_block (cs := #[.slice (some ⟨gs, 0, none⟩) 64 64]) (Has.new w 33 #[.slice (some ⟨gs, 0, none⟩) 64 64])) (by simp [Value.oneCell']) (by decide) (by unfold maxLen; omega) (by omega) (by simp; omega) (w.heap.size + 1) (by simp)
  refine ⟨g, cap, w', h1, ?_, h3, h4⟩
  rw [show rowsV (Ls i ++ [(gs, f)]) = rowsV (Ls i) ++ [.slice (some ⟨gs, 0, none⟩) 64 64] from by simp [rowsV]]
  exact h2

/-- A block of another type than the row's. -/
theorem ne_row {w : World} {base n g t : Nat} {v : Value} {xs : List Value} {cs : Array Value} (h : w.ownsRow base 33 1 v n xs) (hg : Has w g t cs) (ht : t ≠ 33) : v.ownBlock ≠ some g := by
  intro e
  rcases h.2 with ⟨rfl, _⟩ | ⟨g', cap, cur, rfl, _, hgb, _⟩
  · simp [Value.ownBlock] at e
  · obtain rfl : g' = g := by simpa [Value.ownBlock] using e
    have h' : w.heap[g']? = some (.cells cs t (0, 0)) := hg
    rw [h'] at hgb
    injection hgb with hgb
    injection hgb with _ h2
    exact ht h2

/-- What is turned behind the append and the store. -/
theorem may_only {w w1 : World} {gm i : Nat} {V : Nat → Value} {x : Value} (o : Obj) (hgr : (w.alloc o).grownBy w1 (V i).ownBlock) : Only (fun k => k = gm ∨ (V i).ownBlock = some k) w (w1.setCell ⟨gm, i, none⟩ x) := by
  have hb : Below w.heap.size w (w.alloc o) := (Below.refl _ _).alloc (Nat.le_refl _) _
  refine ⟨hgr.os.trans hb.os, hgr.tape.trans hb.tape, hgr.output.trans hb.output, Nat.le_trans hb.size (by rw [size_set]; exact hgr.size), fun k hk hn => ?_⟩
  rw [Below.heap_setCell w1 ⟨gm, i, none⟩ x k (fun e => hn (.inl e)), hgr.block k (Nat.lt_of_lt_of_le hk hb.size) (fun e => hn (.inr e.symm)), hb.block k hk]

/-- Behind the append and the store. -/
theorem May.put {w w1 : World} {F : Nat → Prop} {c base gm : Nat} {V : Nat → Value} {Ls : Nat → List (Nat × (Nat → Nat))} {i gs g cap : Nat} {f : Nat → Nat} (h : May w F c base gm V Ls) (hi : i < 8) (hF : ∀ k, F k → k < w.heap.size) (hc : c < w.heap.size)
    (hs : Has w gs 5 (cellsN .u8 64 f)) (hso : Out F c gs) (hf : ∀ j, f j < 256)
    (hown : w1.ownsRow base 33 1 (.slice (some ⟨g, 0, none⟩) ((Ls i).length + 1) cap) ((Ls i).length + 1) (rowsV (Ls i ++ [(gs, f)]))) (hgr : (w.alloc (.cells #[.slice (some ⟨gs, 0, none⟩) 64 64] 33)).grownBy w1 (V i).ownBlock) (hl : (V i).ownBlock = some g ∨ g = w.heap.size + 1) :
    Has w1 gm 54 (cells8 V) ∧ May (w1.setCell ⟨gm, i, none⟩ (.slice (some ⟨g, 0, none⟩) ((Ls i).length + 1) cap)) F c base gm (updV V i (.slice (some ⟨g, 0, none⟩) ((Ls i).length + 1) cap)) (updL Ls i (gs, f)) := by
  have hb : Below w.heap.size w (w.alloc (.cells #[.slice (some ⟨gs, 0, none⟩) 64 64] 33)) := (Below.refl _ _).alloc (Nat.le_refl _) _
  have ha := h.below hb
  have keep : ∀ {k t : Nat} {cs : Array Value}, Has (w.alloc (.cells #[.slice (some ⟨gs, 0, none⟩) 64 64] 33)) k t cs → t ≠ 33 → Has w1 k t cs := fun {k t cs} hk ht => (hgr.block k hk.lt (fun e => ne_row (ha.row i hi) hk ht e.symm)).trans hk
  have hgm := keep ha.has (by decide)
  have hgg : ∀ k, k ≠ gm → (w1.setCell ⟨gm, i, none⟩ (.slice (some ⟨g, 0, none⟩) ((Ls i).length + 1) cap)).heap[k]? = w1.heap[k]? := fun k hk => Below.heap_setCell w1 ⟨gm, i, none⟩ _ k hk
  have hsz : w1.heap.size ≤ (w1.setCell ⟨gm, i, none⟩ (.slice (some ⟨g, 0, none⟩) ((Ls i).length + 1) cap)).heap.size := by rw [size_set]; exact Nat.le_refl _
  have hgne : g ≠ gm := fun e => ne_row hown hgm (by decide) (by rw [e]; rfl)
  refine ⟨hgm, hgm.set8 i _, h.out, ?_, ?_, ?_, ?_⟩
  · intro j hj
    unfold updV updL
    by_cases e : j = i
    · subst e
      rw [if_pos rfl, if_pos rfl, List.length_append]
      exact ownV_kept hown hsz (fun k hk => hgg k (by cases hk; exact hgne))
    · rw [if_neg e, if_neg e]
      refine ownV_kept (ownV_kept (ha.row j hj) hgr.size (fun k hk => hgr.block k ((ha.row j hj).lt k hk).2 (fun e2 => h.apart i j hi hj (fun e3 => e e3.symm) k e2.symm hk))) hsz (fun k hk => hgg k (fun e2 => ?_))
      exact ne_row (ha.row j hj) ha.has (by decide) (by rw [hk, e2])
  · intro j hj k hk
    unfold updV at hk
    by_cases e : j = i
    · rw [if_pos e] at hk
      have e2 : g = k := by simpa [Value.ownBlock] using hk
      rw [← e2]
      rcases hl with hl | hl
      · exact h.rout i hi g hl
      · exact ⟨fun hf' => absurd (hF g hf') (by omega), by omega⟩
    · rw [if_neg e] at hk
      exact h.rout j hj k hk
  · intro j j' hj hj' hne k hk hk'
    unfold updV at hk hk'
    by_cases e : j = i
    · rw [if_pos e] at hk
      rw [if_neg (fun e2 => hne (e.trans e2.symm))] at hk'
      have e2 : g = k := by simpa [Value.ownBlock] using hk
      rw [← e2] at hk'
      rcases hl with hl | hl
      · exact h.apart i j' hi hj' (fun e2 => hne (e.trans e2)) g hl hk'
      · have := ((h.row j' hj').lt g hk').2
        omega
    · rw [if_neg e] at hk
      by_cases e' : j' = i
      · rw [if_pos e'] at hk'
        have e2 : g = k := by simpa [Value.ownBlock] using hk'
        rw [← e2] at hk
        rcases hl with hl | hl
        · exact h.apart j i hj hi (fun e2 => e e2) g hk hl
        · have := ((h.row j hj).lt g hk).2
          omega
      · rw [if_neg e'] at hk'
        exact h.apart j j' hj hj' hne k hk hk'
  · have old : ∀ x : Nat × (Nat → Nat), Has w x.1 5 (cellsN .u8 64 x.2) → Has (w1.setCell ⟨gm, i, none⟩ (.slice (some ⟨g, 0, none⟩) ((Ls i).length + 1) cap)) x.1 5 (cellsN .u8 64 x.2) := fun x hx => by
      have h1 := keep (hx.below hb hx.lt) (by decide)
      refine (hgg x.1 (fun e => ?_)).trans h1
      have h2 : w1.heap[x.1]? = some (.cells (cellsN .u8 64 x.2) 5 (0, 0)) := h1
      have h3 : w1.heap[gm]? = some (.cells (cells8 V) 54 (0, 0)) := hgm
      rw [e, h3] at h2
      injection h2 with h2
      injection h2 with _ h2
      exact absurd h2 (by decide)
    intro j hj x hx
    unfold updL at hx
    by_cases e : j = i
    · rw [if_pos e] at hx
      rcases List.mem_append.1 hx with hx | hx
      · exact ⟨old x (h.sec i hi x hx).1, (h.sec i hi x hx).2⟩
      · obtain rfl := List.mem_singleton.1 hx
        exact ⟨old _ hs, hso, hf⟩
    · rw [if_neg e] at hx
      exact ⟨old x (h.sec j hj x hx).1, (h.sec j hj x hx).2⟩
end Go.Proofs.Ytalcalecmklcoaa
