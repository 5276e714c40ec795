/- Two devices that count together, step by step; what DeviceTogether lays by. -/
import Derived.Test.YtalcalecmklcoaaDvTogM
import Derived.Test.YtalcalecmklcoaaDvSafeR
namespace Go.Proofs.Ytalcalecmklcoaa
open Go.ChangeShapes Go.WideShapes Go.ChangeAt Go.RowKit
set_option linter.unusedVariables false

variable {D : DevRep} {B : Nat} {w0 w w' : World} {p1 p2 c m : Nat} {s1 s2 : DS} {F1 F2 : Nat → Prop}

/-- Two devices that count together. -/
structure Duo (D : DevRep) (B : Nat) (w0 w : World) (p1 p2 : Nat) (s1 s2 : DS) (c m : Nat) (F1 F2 : Nat → Prop) : Prop where
  a : In D B w0 w p1 s1 c m F1
  b : In D B w0 w p2 s2 c m F2
  ap : ∀ k, F1 k → ¬ F2 k

theorem Duo.swap (h : Duo D B w0 w p1 p2 s1 s2 c m F1 F2) : Duo D B w0 w p2 p1 s2 s1 c m F2 F1 := ⟨h.b, h.a, fun k h2 h1 => h.ap k h1 h2⟩

theorem Duo.next (h : Duo D B w0 w p1 p2 s1 s2 c m F1 F2) (hD : DevOk D) (hb : Below w.heap.size w w') : Duo D B w0 w' p1 p2 s1 s2 c m F1 F2 := ⟨h.a.next hD hb, h.b.next hD hb, h.ap⟩

theorem le_wrM (s : DS) (i : Int) (L m : Nat) : m ≤ wrM s i L m := by
  unfold wrM
  split <;> omega

/-- The first one turned: the other one sees the clock alone. -/
theorem Duo.turn (h : Duo D B w0 w p1 p2 s1 s2 c m F1 F2) (hD : DevOk D) {s' : DS} {m' : Nat} {F' : Nat → Prop} (ho : Only (fun k => F1 k ∨ k = c) w w') (hg : Grew w F1 F') (hi : In D B w0 w' p1 s' c m' F') (hmm : m ≤ m') : Duo D B w0 w' p1 p2 s' s2 c m' F' F2 :=
  ⟨hi, ⟨⟨hD.kept h.b.dev.1 ho.size (fun k hk => ho.block k (h.b.lt hD k hk) (fun e => e.elim (fun h1 => h.ap k h1 hk) (fun e => h.b.dev.2.2.1 (e ▸ hk)))), hi.dev.2.1, h.b.dev.2.2.1, fun e he => by have := h.b.dev.2.2.2 e he; omega⟩, h.b.base, h.b.cb, hi.below, hi.sz⟩,
    fun k h1 h2 => (hg k h1).elim (fun h3 => h.ap k h3 h2) (fun h3 => absurd (h.b.lt hD k h2) (Nat.not_lt.2 h3))⟩

/-- All that the two hang on. -/
def Both (F1 F2 : Nat → Prop) (c k : Nat) : Prop := F1 k ∨ F2 k ∨ k = c

theorem Both.lt (h : Duo D B w0 w p1 p2 s1 s2 c m F1 F2) (hD : DevOk D) (k : Nat) (hk : Both F1 F2 c k) : k < w.heap.size := by
  rcases hk with hk | hk | rfl
  · exact h.a.lt hD k hk
  · exact h.b.lt hD k hk
  · exact h.a.clt hD

theorem Both.base (h : Duo D B w0 w p1 p2 s1 s2 c m F1 F2) (k : Nat) (hk : Both F1 F2 c k) : B ≤ k := by
  rcases hk with hk | hk | rfl
  · exact h.a.base k hk
  · exact h.b.base k hk
  · exact h.a.cb

theorem Both.swap (k : Nat) (h : Both F1 F2 c k) : Both F2 F1 c k := by
  rcases h with h | h | h
  · exact .inr (.inl h)
  · exact .inl h
  · exact .inr (.inr h)

theorem Duo.only (h : Duo D B w0 w p1 p2 s1 s2 c m F1 F2) (hD : DevOk D) {G : Nat → Prop} (hb : Only G w w') (hF : ∀ k, G k → ¬ Both F1 F2 c k) (hG : ∀ k, G k → B ≤ k) : Duo D B w0 w' p1 p2 s1 s2 c m F1 F2 :=
  ⟨h.a.only hD hb (fun k hk hg => hF k hg (.inl hk)) (fun hg => hF c hg (.inr (.inr rfl))) hG, h.b.only hD hb (fun k hk hg => hF k hg (.inr (.inl hk))) (fun hg => hF c hg (.inr (.inr rfl))) hG, h.ap⟩

/-- Together, of two of the call's own. -/
theorem duo_together (hD : DevOk D) (hT : DevTog D) {c1 m1 c2 m2 g : Nat} (h1 : In D B w0 w p1 s1 c1 m1 F1) (h2 : In D B w0 w p2 s2 c2 m2 F2) (hap : ∀ k, F1 k → ¬ F2 k) (hl1 : s1.log.length ≤ 100000) (hl2 : s2.log.length ≤ 100000) (g1 : w.cell? ⟨g, 0, none⟩ = some (ptr p1)) (g2 : w.cell? ⟨g, 1, none⟩ = some (ptr p2)) (o1 : Out2 F1 c1 g) (o2 : Out2 F2 c2 g) :
    Calls Try.prog 23 #[.slice (some ⟨g, 0, none⟩) 2 2] w fun e w' => e = .returned (.tuple #[]) ∧ ∃ c' F1' F2', Duo D B w0 w' p1 p2 (anewD s1) (anewD s2) c' 0 F1' F2' := by
  refine (hT.two w p1 p2 s1 s2 c1 m1 c2 m2 F1 F2 g h1.dev h2.dev hap hl1 hl2 g1 g2 o1 o2).mono ?_
  rintro e w' ⟨rfl, ho, c', F1', F2', hg1, hg2, hap', hc', hd1, hd2⟩
  have hb : Below B w0 w' := h1.below.trans (ho.below (fun k hk => hk.elim (h1.base k) (h2.base k)) h1.sz)
  have hs : B ≤ w'.heap.size := Nat.le_trans h1.sz ho.size
  exact ⟨rfl, c', F1', F2', ⟨hd1, fun k hk => (hg1 k hk).elim (h1.base k) (fun h => Nat.le_trans h1.sz h), Nat.le_trans h1.sz hc', hb, hs⟩, ⟨hd2, fun k hk => (hg2 k hk).elim (h2.base k) (fun h => Nat.le_trans h1.sz h), Nat.le_trans h1.sz hc', hb, hs⟩, hap'⟩

/-- A slice of bytes that was laid by: nothing, or a whole sector apart from the devices. -/
def SecV (w : World) (G : Nat → Prop) (v : Value) (f : Nat → Nat) : Prop := (v = .slice none 0 0 ∧ ∀ j, f j = 0) ∨ ∃ b, v = .slice (some ⟨b, 0, none⟩) 64 64 ∧ ¬ G b ∧ Has w b 5 (cellsN .u8 64 f)

/-- Eight of them in a block. -/
structure Row8 (w : World) (G : Nat → Prop) (g : Nat) (W : Nat → Value) (f : Nat → Nat → Nat) : Prop where
  has : Has w g 63 (cells8 W)
  out : ¬ G g
  at_ : ∀ j, j < 8 → SecV w G (W j) (f j)

theorem SecV.sl {G : Nat → Prop} {v : Value} {f : Nat → Nat} (h : SecV w G v f) : ∃ a l q, v = .slice a l q := by
  rcases h with ⟨rfl, _⟩ | ⟨b, rfl, _⟩ <;> exact ⟨_, _, _, rfl⟩

theorem SecV.only {G G' : Nat → Prop} {v : Value} {f : Nat → Nat} (h : SecV w G v f) (ho : Only G w w') (hg : Grew w G G') : SecV w' G' v f := by
  rcases h with h | ⟨b, rfl, hn, hb⟩
  · exact .inl h
  · exact .inr ⟨b, rfl, fun hk => (hg b hk).elim hn (fun h2 => absurd hb.lt (Nat.not_lt.2 h2)), (ho.block b hb.lt hn).trans hb⟩

theorem SecV.below {G : Nat → Prop} {v : Value} {f : Nat → Nat} (h : SecV w G v f) (hb : Below w.heap.size w w') : SecV w' G v f := by
  rcases h with h | ⟨b, rfl, hn, hh⟩
  · exact .inl h
  · exact .inr ⟨b, rfl, hn, hh.below hb hh.lt⟩

/-- A block of slices that turns is none of theirs. -/
theorem SecV.rows {G : Nat → Prop} {v : Value} {f : Nat → Nat} (h : SecV w G v f) {g : Nat} {cs : Array Value} (hg : Has w g 63 cs) (ho : Only (fun k => k = g) w w') : SecV w' G v f := by
  rcases h with h | ⟨b, rfl, hn, hh⟩
  · exact .inl h
  · refine .inr ⟨b, rfl, hn, (ho.block b hh.lt (fun e => ?_)).trans hh⟩
    have h1 : w.heap[b]? = some (.cells (cellsN .u8 64 f) 5 (0, 0)) := hh
    have h2 : w.heap[g]? = some (.cells cs 63 (0, 0)) := hg
    rw [e, h2] at h1
    injection h1 with h1
    injection h1 with _ h1
    exact absurd h1 (by decide)

theorem Row8.only {G G' : Nat → Prop} {g : Nat} {W : Nat → Value} {f : Nat → Nat → Nat} (h : Row8 w G g W f) (ho : Only G w w') (hg : Grew w G G') : Row8 w' G' g W f :=
  ⟨(ho.block g h.has.lt h.out).trans h.has, fun hk => (hg g hk).elim h.out (fun h2 => absurd h.has.lt (Nat.not_lt.2 h2)), fun j hj => (h.at_ j hj).only ho hg⟩

theorem Row8.below {G : Nat → Prop} {g : Nat} {W : Nat → Value} {f : Nat → Nat → Nat} (h : Row8 w G g W f) (hb : Below w.heap.size w w') : Row8 w' G g W f :=
  ⟨h.has.below hb h.has.lt, h.out, fun j hj => (h.at_ j hj).below hb⟩

/-- The other row turns. -/
theorem Row8.rows {G : Nat → Prop} {g g' : Nat} {W : Nat → Value} {f : Nat → Nat → Nat} (h : Row8 w G g W f) {cs : Array Value} (hg : Has w g' 63 cs) (hne : g ≠ g') (ho : Only (fun k => k = g') w w') : Row8 w' G g W f :=
  ⟨(ho.block g h.has.lt hne).trans h.has, h.out, fun j hj => (h.at_ j hj).rows hg ho⟩

def upd8 (f : Nat → Nat → Nat) (i : Nat) (b : Nat → Nat) : Nat → Nat → Nat := fun j => if j = i then b else f j

/-- One of them is laid by. -/
theorem Row8.put {G : Nat → Prop} {g : Nat} {W : Nat → Value} {f : Nat → Nat → Nat} (h : Row8 w G g W f) (i : Nat) {v : Value} {b : Nat → Nat} (hv : SecV w G v b) : Row8 (w.setCell ⟨g, i, none⟩ v) G g (updV W i v) (upd8 f i b) := by
  refine ⟨h.has.set8 i v, h.out, fun j hj => ?_⟩
  unfold updV upd8
  by_cases e : j = i
  · rw [if_pos e, if_pos e]
    exact hv.rows h.has (only_set w g i v)
  · rw [if_neg e, if_neg e]
    exact (h.at_ j hj).rows h.has (only_set w g i v)

theorem Row8.congr {G : Nat → Prop} {g : Nat} {W : Nat → Value} {f f' : Nat → Nat → Nat} (h : Row8 w G g W f) (hf : ∀ j, j < 8 → f j = f' j) : Row8 w G g W f' := ⟨h.has, h.out, fun j hj => hf j hj ▸ h.at_ j hj⟩
theorem Row8.to {G G' : Nat → Prop} {g : Nat} {W : Nat → Value} {f : Nat → Nat → Nat} (h : Row8 w G g W f) (hG : ∀ k, G' k → G k) : Row8 w G' g W f :=
  ⟨h.has, fun hk => h.out (hG g hk), fun j hj => (h.at_ j hj).elim .inl (fun ⟨b, e, hn, hb⟩ => .inr ⟨b, e, fun hk => hn (hG b hk), hb⟩)⟩

/-- The two of them, each by its side. -/
structure Tw (D : DevRep) (B : Nat) (w0 w : World) (P : Bool → Nat) (S : Bool → DS) (c m : Nat) (F : Bool → Nat → Prop) : Prop where
  at_ : ∀ q, In D B w0 w (P q) (S q) c m (F q)
  ap : ∀ k, F false k → ¬ F true k

def sw {α : Type} (f : Bool → α) (q : Bool) (x : α) : Bool → α := fun r => if r = q then x else f r

variable {P : Bool → Nat} {S : Bool → DS} {F : Bool → Nat → Prop}

theorem Tw.next (h : Tw D B w0 w P S c m F) (hD : DevOk D) (hb : Below w.heap.size w w') : Tw D B w0 w' P S c m F := ⟨fun q => (h.at_ q).next hD hb, h.ap⟩

theorem Tw.duo (h : Tw D B w0 w P S c m F) : Duo D B w0 w (P false) (P true) (S false) (S true) c m (F false) (F true) := ⟨h.at_ false, h.at_ true, h.ap⟩
theorem Duo.tw (h : Duo D B w0 w (P false) (P true) (S false) (S true) c m (F false) (F true)) : Tw D B w0 w P S c m F := ⟨fun q => by cases q; exact h.a; exact h.b, h.ap⟩

theorem Tw.turn (h : Tw D B w0 w P S c m F) (hD : DevOk D) (q : Bool) {s' : DS} {m' : Nat} {F' : Nat → Prop} (ho : Only (fun k => F q k ∨ k = c) w w') (hg : Grew w (F q) F') (hi : In D B w0 w' (P q) s' c m' F') (hmm : m ≤ m') : Tw D B w0 w' P (sw S q s') c m' (sw F q F') := by
  cases q
  · have := h.duo.turn hD ho hg hi hmm
    exact Duo.tw (S := sw S false s') (F := sw F false F') this
  · have := (h.duo.swap.turn hD ho hg hi hmm).swap
    exact Duo.tw (S := sw S true s') (F := sw F true F') this

def Al (F : Bool → Nat → Prop) (c : Nat) : Nat → Prop := Both (F false) (F true) c

theorem Al.of (q : Bool) (k : Nat) (h : F q k ∨ k = c) : Al F c k := by
  rcases h with h | h
  · cases q
    · exact .inl h
    · exact .inr (.inl h)
  · exact .inr (.inr h)

theorem Al.grew (q : Bool) {F' : Nat → Prop} (hg : Grew w (F q) F') : Grew w (Al F c) (Al (sw F q F') c) := by
  intro k hk
  have hq : ∀ r, sw F q F' r k → Al F c k ∨ w.heap.size ≤ k := by
    intro r hr
    unfold sw at hr
    by_cases e : r = q
    · rw [if_pos e] at hr
      exact (hg k hr).imp (fun h => Al.of q k (.inl h)) id
    · rw [if_neg e] at hr
      exact .inl (Al.of r k (.inl hr))
  rcases hk with h | h | h
  · exact hq false h
  · exact hq true h
  · exact .inl (.inr (.inr h))

/-- Eight rows, four of a side. -/
def rowF (N : Bool → Nat → Nat → Nat) : Nat → Nat → Nat := fun j => N (decide (4 ≤ j)) (j % 4)
def plc (q : Bool) (i : Nat) : Nat := (cond q 4 0) + i

theorem rowF_at (N : Bool → Nat → Nat → Nat) (q : Bool) (i : Nat) (hi : i < 4) : rowF N (plc q i) = N q i := by
  unfold rowF plc
  cases q
  · have h1 : decide (4 ≤ cond false 4 0 + i) = false := by simp; omega
    have h2 : (cond false 4 0 + i) % 4 = i := by show (0 + i) % 4 = i; omega
    rw [h1, h2]
  · have h1 : decide (4 ≤ cond true 4 0 + i) = true := by simp
    have h2 : (cond true 4 0 + i) % 4 = i := by show (4 + i) % 4 = i; omega
    rw [h1, h2]

theorem rowF_ext (f : Nat → Nat → Nat) (N : Bool → Nat → Nat → Nat) (h : ∀ q i, i < 4 → f (plc q i) = N q i) : ∀ j, j < 8 → f j = rowF N j := by
  intro j hj
  unfold rowF
  by_cases e : 4 ≤ j
  · have := h true (j - 4) (by omega)
    unfold plc at this
    rw [show cond true 4 0 + (j - 4) = j from by show 4 + (j - 4) = j; omega] at this
    rw [this, decide_eq_true e, show j % 4 = j - 4 from by omega]
  · have := h false j (by omega)
    unfold plc at this
    rw [show cond false 4 0 + j = j from by show 0 + j = j; omega] at this
    rw [this, decide_eq_false e, show j % 4 = j from by omega]
end Go.Proofs.Ytalcalecmklcoaa
