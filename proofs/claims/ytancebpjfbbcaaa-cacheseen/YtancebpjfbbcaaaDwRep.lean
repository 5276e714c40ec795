/- How a device of the program lies in memory. -/
import Derived.Test.YtancebpjfbbcaaaDwMap
import Derived.Test.YtancebpjfbbcaaaDwMath
import Derived.Test.YtancebpjfbbcaaaDvIn
namespace Go.Proofs.Ytancebpjfbbcaaa
open Go.ChangeShapes Go.WideShapes Go.ChangeAt Go.RowKit
set_option linter.unusedVariables false

/-- The cells of a write, of a Sync. -/
def wcells (e : AE) : List Value := .int .i64 (e.i : Nat) :: (bl e.b 64 ++ [.int .i64 e.mo, .bool e.sure])
def scells (x : Nat × Int) : List Value := [.int .i64 (x.1 : Nat), .int .i64 x.2]
def Wc (l : List AE) : List Value := (ws l).flatMap wcells
def Sc (l : List AE) : List Value := (syOf l).flatMap scells

theorem wcells_len (e : AE) : (wcells e).length = 67 := by simp [wcells, bl]
theorem wcells_mo (e : AE) : (wcells e)[65]? = some (.int .i64 e.mo) := by
  unfold wcells
  rw [show (65 : Nat) = 64 + 1 from rfl, List.getElem?_cons_succ, List.getElem?_append_right (by simp [bl])]
  simp [bl]

theorem wcells_su (e : AE) : (wcells e)[66]? = some (.bool e.sure) := by
  unfold wcells
  rw [show (66 : Nat) = 65 + 1 from rfl, List.getElem?_cons_succ, List.getElem?_append_right (by simp [bl])]
  simp [bl]

theorem wcells_i (e : AE) : (wcells e)[0]? = some (.int .i64 (e.i : Nat)) := rfl

theorem flat_len {α : Type} (g : α → List Value) (k : Nat) (hg : ∀ a, (g a).length = k) (l : List α) : (l.flatMap g).length = l.length * k := by
  induction l with
  | nil => simp
  | cons a l ih => rw [List.flatMap_cons, List.length_append, hg, ih, List.length_cons, Nat.succ_mul]; omega

theorem flat_at {α : Type} (g : α → List Value) (k : Nat) (hg : ∀ a, (g a).length = k) (l : List α) : ∀ (i j : Nat) (a : α), l[i]? = some a → j < k → (l.flatMap g)[i * k + j]? = (g a)[j]? := by
  induction l with
  | nil => intro i j a h; simp at h
  | cons b l ih =>
    intro i j a h hj
    rw [List.flatMap_cons]
    cases i with
    | zero =>
      simp only [List.getElem?_cons_zero, Option.some.injEq] at h
      subst h
      rw [Nat.zero_mul, Nat.zero_add, List.getElem?_append_left (by rw [hg]; exact hj)]
    | succ i =>
      rw [List.getElem?_append_right (by rw [hg, Nat.succ_mul]; omega), hg]
      rw [show (i + 1) * k + j - k = i * k + j by rw [Nat.succ_mul]; omega]
      exact ih i j a (by simpa using h) hj

theorem Wc_at (l : List AE) (i j : Nat) (e : AE) (h : (ws l)[i]? = some e) (hj : j < 67) : (Wc l)[i * 67 + j]? = (wcells e)[j]? := flat_at wcells 67 wcells_len (ws l) i j e h hj
theorem Sc_at (l : List AE) (i j : Nat) (x : Nat × Int) (h : (syOf l)[i]? = some x) (hj : j < 2) : (Sc l)[i * 2 + j]? = (scells x)[j]? := flat_at scells 2 (fun _ => rfl) (syOf l) i j x h hj

theorem Try.size99 : (Try.prog.info? 99).map (·.size) = some 64 := by kernel_rfl
theorem Try.size116 : (Try.prog.info? 116).map (·.size) = some 67 := by kernel_rfl
theorem Try.size114 : (Try.prog.info? 114).map (·.size) = some 2 := by kernel_rfl
theorem Try.size92 : (Try.prog.info? 92).map (·.size) = some 9 := by kernel_rfl

def zsec : Value := .agg (cellsN .u8 64 fun _ => 0)
theorem zero_sec (w : World) : (zeroValue 99).run Try.prog w = .ok zsec w := by kernel_rfl
theorem zero_unit (w : World) : (zeroValue 85).run Try.prog w = .ok (.agg #[]) w := by kernel_rfl

/-- Block b is a map of sectors: as far as n goes it tells g. -/
def SecMap (w : World) (b n : Nat) (g : Nat → Nat → Nat) : Prop := ∃ f, MapIs w b f ∧ ∀ i, i < n → (f (i : Nat)).getD zsec = .agg (cellsN .u8 64 (g i))

/-- Block b is the set of those that are bad. -/
def BadMap (w : World) (b n : Nat) (g : Nat → Bool) : Prop := ∃ f, MapIs w b f ∧ ∀ a : Int, (f a).isSome = (decide (0 ≤ a ∧ a < n) && g a.toNat) ∧ (f a).getD (.agg #[]) = .agg #[]

theorem SecMap.lt {w : World} {b n : Nat} {g : Nat → Nat → Nat} (h : SecMap w b n g) : b < w.heap.size := by obtain ⟨f, h, _⟩ := h; exact h.lt
theorem BadMap.lt {w : World} {b n : Nat} {g : Nat → Bool} (h : BadMap w b n g) : b < w.heap.size := by obtain ⟨f, h, _⟩ := h; exact h.lt
theorem SecMap.kept {w w' : World} {b n : Nat} {g : Nat → Nat → Nat} (h : SecMap w b n g) (hb : w'.heap[b]? = w.heap[b]?) : SecMap w' b n g := by obtain ⟨f, h, r⟩ := h; exact ⟨f, h.kept hb, r⟩
theorem BadMap.kept {w w' : World} {b n : Nat} {g : Nat → Bool} (h : BadMap w b n g) (hb : w'.heap[b]? = w.heap[b]?) : BadMap w' b n g := by obtain ⟨f, h, r⟩ := h; exact ⟨f, h.kept hb, r⟩
theorem SecMap.below {w w' : World} {b n B : Nat} {g : Nat → Nat → Nat} (h : SecMap w b n g) (hb : Below B w w') (hB : b < B) : SecMap w' b n g := h.kept (hb.block b hB)
theorem SecMap.congr {w : World} {b n : Nat} {g g' : Nat → Nat → Nat} (h : SecMap w b n g) (hg : ∀ i, i < n → ∀ j, j < 64 → g i j = g' i j) : SecMap w b n g' := by
  obtain ⟨f, h, r⟩ := h
  exact ⟨f, h, fun i hi => by rw [r i hi, cellsN_congr .u8 64 (g i) (g' i) (hg i hi)]⟩

theorem SecMap.made (w : World) (n : Nat) : SecMap (w.alloc (.map #[] 0)) w.heap.size n (fun _ _ => 0) := ⟨_, MapIs.made w, fun _ _ => rfl⟩
theorem BadMap.made (w : World) (n : Nat) : BadMap (w.alloc (.map #[] 0)) w.heap.size n (fun _ => false) := ⟨_, MapIs.made w, fun _ => ⟨by simp, rfl⟩⟩

/-- The cells of a device. -/
def dcells (n : Nat) (dead : Bool) (bb bs bc : Nat) (vw vs : Value) (pd c : Nat) : Array Value :=
  #[.int .i64 (n : Nat), .bool dead, .map (some bb), .map (some bs), .map (some bc), vw, vs, .int .i64 (pd : Nat), .pointer (some ⟨c, 0, none⟩)]

/-- All blocks that a device hangs on. -/
def Foot (p bb bs bc : Nat) (vw vs : Value) (k : Nat) : Prop := k = p ∨ k = bb ∨ k = bs ∨ k = bc ∨ vw.ownBlock = some k ∨ vs.ownBlock = some k

structure RepAt (w : World) (p : Nat) (s : DS) (c bb bs bc : Nat) (vw vs : Value) : Prop where
  has : Has w p 92 (dcells s.n s.dead bb bs bc vw vs (pend s.log) c)
  n1 : 1 ≤ s.n
  n2 : s.n ≤ 2048
  bad : BadMap w bb s.n s.bad
  fst : SecMap w bs s.n s.fst
  now : SecMap w bc s.n (holds s)
  wr : w.ownsRow 0 116 67 vw (wrs s.log) (Wc s.log)
  sy : w.ownsRow 0 114 2 vs (syOf s.log).length (Sc s.log)
  d1 : bb ≠ bs
  d2 : bb ≠ bc
  d3 : bs ≠ bc
  rise : Rise s.log

def theRep : DevRep where
  R w p s c F := ∃ bb bs bc vw vs, RepAt w p s c bb bs bc vw vs ∧ ∀ k, F k ↔ Foot p bb bs bc vw vs k
  C w c m := Has w c 112 #[.int .i64 (m : Nat)]

theorem own_kept {w w' : World} {e size n : Nat} {v : Value} {xs : List Value} (h : w.ownsRow 0 e size v n xs) (hb : ∀ g, v.ownBlock = some g → w'.heap[g]? = w.heap[g]?) : w'.ownsRow 0 e size v n xs := by
  refine ⟨h.1, ?_⟩
  rcases h.2 with h0 | ⟨g, cap, cur, hv, h1, hg, r⟩
  · exact .inl h0
  · exact .inr ⟨g, cap, cur, hv, h1, (hb g (by rw [hv]; rfl)).trans hg, r⟩

theorem own_block {w : World} {e size n : Nat} {v : Value} {xs : List Value} (h : w.ownsRow 0 e size v n xs) {g : Nat} (hg : v.ownBlock = some g) : ∃ cur, w.heap[g]? = some (.cells cur e (0, 0)) := by
  rcases h.2 with ⟨rfl, _⟩ | ⟨g', cap, cur, rfl, h1, hh, r⟩
  · cases hg
  · injection hg with hg
    subst hg
    exact ⟨cur, hh⟩

/-- A row of the call's or of a device's own, as a slice. -/
theorem own_slice {w : World} {e size n : Nat} {v : Value} {xs : List Value} (h : w.ownsRow 0 e size v n xs) : ∃ a cap, v = .slice a n cap ∧ n ≤ cap ∧ (a = none → n = 0 ∧ cap = 0) ∧ (∀ ad, a = some ad → ∃ g, ad = ⟨g, 0, none⟩) ∧ ∀ g, a = some ⟨g, 0, none⟩ → ∀ j v, xs[j]? = some v → w.cell? ⟨g, j, none⟩ = some v := by
  rcases h.2 with ⟨rfl, rfl⟩ | ⟨g, cap, cur, rfl, hb, hg, hn, hm, hs, ht⟩
  · exact ⟨none, 0, rfl, Nat.le_refl _, fun _ => ⟨rfl, rfl⟩, (fun _ h => by cases h), (fun g h => by cases h)⟩
  · refine ⟨some ⟨g, 0, none⟩, cap, rfl, hn, (fun e => by cases e), (fun ad q => ⟨g, (Option.some.inj q).symm⟩), fun g' q j v hv => ?_⟩
    injection q with q
    injection q with q
    subst q
    have hj : j < n * size := by rw [← h.1]; exact (List.getElem?_eq_some_iff.1 hv).1
    rw [cell_of_row w g j cur e (0, 0) hg, ← Array.getElem?_toList]
    rw [← ht, List.getElem?_take_of_lt hj] at hv
    exact hv

variable {w w' : World} {p c bb bs bc : Nat} {s : DS} {vw vs : Value}

theorem RepAt.lt (h : RepAt w p s c bb bs bc vw vs) (k : Nat) (hk : Foot p bb bs bc vw vs k) : k < w.heap.size := by
  rcases hk with rfl | rfl | rfl | rfl | hk | hk
  · exact h.has.lt
  · exact h.bad.lt
  · exact h.fst.lt
  · exact h.now.lt
  · exact (h.wr.lt k hk).2
  · exact (h.sy.lt k hk).2

theorem RepAt.kept (h : RepAt w p s c bb bs bc vw vs) (hb : ∀ k, Foot p bb bs bc vw vs k → w'.heap[k]? = w.heap[k]?) : RepAt w' p s c bb bs bc vw vs :=
  ⟨(hb p (.inl rfl)).trans h.has, h.n1, h.n2, h.bad.kept (hb bb (.inr (.inl rfl))), h.fst.kept (hb bs (.inr (.inr (.inl rfl)))), h.now.kept (hb bc (.inr (.inr (.inr (.inl rfl))))),
    own_kept h.wr (fun g hg => hb g (.inr (.inr (.inr (.inr (.inl hg)))))), own_kept h.sy (fun g hg => hb g (.inr (.inr (.inr (.inr (.inr hg)))))), h.d1, h.d2, h.d3, h.rise⟩

/-! Blocks that are none of one another. -/
theorem cells_ne {g g' t t' : Nat} {cs cs' : Array Value} {fr fr' : Nat × Nat} (h : w.heap[g]? = some (.cells cs t fr)) (h' : w.heap[g']? = some (.cells cs' t' fr')) (hne : t ≠ t') : g ≠ g' := by
  rintro rfl
  rw [h] at h'
  injection h' with h'
  injection h' with _ h'
  exact hne h'

theorem BadMap.ne {b n g t : Nat} {f : Nat → Bool} {cs : Array Value} {fr : Nat × Nat} (h : BadMap w b n f) (hg : w.heap[g]? = some (.cells cs t fr)) : b ≠ g := by obtain ⟨f, h, _⟩ := h; exact h.ne hg
theorem SecMap.ne {b n g t : Nat} {f : Nat → Nat → Nat} {cs : Array Value} {fr : Nat × Nat} (h : SecMap w b n f) (hg : w.heap[g]? = some (.cells cs t fr)) : b ≠ g := by obtain ⟨f, h, _⟩ := h; exact h.ne hg

theorem RepAt.wr_p (h : RepAt w p s c bb bs bc vw vs) : vw.ownBlock ≠ some p := fun hg => by
  obtain ⟨cur, hc⟩ := own_block h.wr hg
  exact cells_ne hc h.has (by decide) rfl
theorem RepAt.sy_p (h : RepAt w p s c bb bs bc vw vs) : vs.ownBlock ≠ some p := fun hg => by
  obtain ⟨cur, hc⟩ := own_block h.sy hg
  exact cells_ne hc h.has (by decide) rfl
theorem RepAt.wr_sy (h : RepAt w p s c bb bs bc vw vs) {g : Nat} (h1 : vw.ownBlock = some g) : vs.ownBlock ≠ some g := fun hg => by
  obtain ⟨cur, hc⟩ := own_block h.wr h1
  obtain ⟨cur', hc'⟩ := own_block h.sy hg
  exact cells_ne hc hc' (by decide) rfl
theorem RepAt.wr_bb (h : RepAt w p s c bb bs bc vw vs) : vw.ownBlock ≠ some bb := fun hg => by obtain ⟨cur, hc⟩ := own_block h.wr hg; exact h.bad.ne hc rfl
theorem RepAt.wr_bs (h : RepAt w p s c bb bs bc vw vs) : vw.ownBlock ≠ some bs := fun hg => by obtain ⟨cur, hc⟩ := own_block h.wr hg; exact h.fst.ne hc rfl
theorem RepAt.wr_bc (h : RepAt w p s c bb bs bc vw vs) : vw.ownBlock ≠ some bc := fun hg => by obtain ⟨cur, hc⟩ := own_block h.wr hg; exact h.now.ne hc rfl
theorem RepAt.sy_bb (h : RepAt w p s c bb bs bc vw vs) : vs.ownBlock ≠ some bb := fun hg => by obtain ⟨cur, hc⟩ := own_block h.sy hg; exact h.bad.ne hc rfl
theorem RepAt.sy_bs (h : RepAt w p s c bb bs bc vw vs) : vs.ownBlock ≠ some bs := fun hg => by obtain ⟨cur, hc⟩ := own_block h.sy hg; exact h.fst.ne hc rfl
theorem RepAt.sy_bc (h : RepAt w p s c bb bs bc vw vs) : vs.ownBlock ≠ some bc := fun hg => by obtain ⟨cur, hc⟩ := own_block h.sy hg; exact h.now.ne hc rfl
theorem RepAt.bb_p (h : RepAt w p s c bb bs bc vw vs) : bb ≠ p := h.bad.ne h.has
theorem RepAt.bs_p (h : RepAt w p s c bb bs bc vw vs) : bs ≠ p := h.fst.ne h.has
theorem RepAt.bc_p (h : RepAt w p s c bb bs bc vw vs) : bc ≠ p := h.now.ne h.has

/-- The cells, one by one. -/
theorem RepAt.cell (h : RepAt w p s c bb bs bc vw vs) (j : Nat) : w.cell? ⟨p, j, none⟩ = (dcells s.n s.dead bb bs bc vw vs (pend s.log) c)[j]? := h.has.cell j

theorem Has.setV {w : World} {g t : Nat} {cs : Array Value} (h : Has w g t cs) (j : Nat) (v : Value) : Has (w.setCell ⟨g, j, none⟩ v) g t (cs.setIfInBounds j v) := by
  have h' : w.heap[g]? = some (.cells cs t (0, 0)) := h
  show (w.setCell ⟨g, j, none⟩ _).heap[g]? = _
  simp only [World.setCell, Array.getElem?_modify, h', if_pos, Option.map_some]
  rfl

theorem only_setCell (w : World) (g j : Nat) (v : Value) : Only (fun k => k = g) w (w.setCell ⟨g, j, none⟩ v) :=
  ⟨rfl, rfl, rfl, by simp [World.setCell], fun k hk hn => Below.heap_setCell w _ v k hn⟩
end Go.Proofs.Ytancebpjfbbcaaa
