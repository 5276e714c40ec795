/- Texts that the statements of this stage share, joined: DvSays, JrMath, BasSame, JrIn, JrSmall, JrTorn, DvIn, DvSaysM. -/
import Derived.Test.YtoiaclmfljoomaaDoorJoint00
import Derived.Test.YtoiaclmfljoomaaDoorJoint01
import Derived.WalkKit
import Derived.Deep.Slices
import Derived.Deep.Grids

/- What the calls of device are to answer: as words about a device in memory, whatever it is made of. -/
namespace Go.Proofs.YtoiaclmfljoomaaDoor
open Go.ChangeShapes Go.WideShapes Go.ChangeAt Go.RowKit
set_option linter.unusedVariables false

/-- But for the blocks F all that was there is as it was. -/
structure Only (F : Nat → Prop) (w w' : World) : Prop where
  os : w'.os = w.os
  tape : w'.tape = w.tape
  output : w'.output = w.output
  size : w.heap.size ≤ w'.heap.size
  block : ∀ k, k < w.heap.size → ¬ F k → w'.heap[k]? = w.heap[k]?

theorem Only.refl (F : Nat → Prop) (w : World) : Only F w w := ⟨rfl, rfl, rfl, Nat.le_refl _, fun _ _ _ => rfl⟩
theorem Only.of_below {F : Nat → Prop} {w w' : World} {B : Nat} (h : Below B w w') (hB : w.heap.size ≤ B) : Only F w w' := ⟨h.os, h.tape, h.output, h.size, fun k hk _ => h.block k (by omega)⟩
theorem Only.below {F : Nat → Prop} {w w' : World} {B : Nat} (h : Only F w w') (hF : ∀ k, F k → B ≤ k) (hB : B ≤ w.heap.size) : Below B w w' := ⟨h.os, h.tape, h.output, h.size, fun k hk => h.block k (by omega) (fun hf => by have := hF k hf; omega)⟩
theorem Only.mono {F G : Nat → Prop} {w w' : World} (h : Only F w w') (hFG : ∀ k, F k → G k) : Only G w w' := ⟨h.os, h.tape, h.output, h.size, fun k hk hn => h.block k hk (fun hf => hn (hFG k hf))⟩
/-- One behind the other; what is new in between is free. -/
theorem Only.trans {F G : Nat → Prop} {a b c : World} (h : Only F a b) (k : Only G b c) (hG : ∀ x, x < a.heap.size → G x → F x) : Only F a c := ⟨k.os.trans h.os, k.tape.trans h.tape, k.output.trans h.output, Nat.le_trans h.size k.size, fun x hx hn => (k.block x (Nat.lt_of_lt_of_le hx h.size) (fun hg => hn (hG x hx hg))).trans (h.block x hx hn)⟩
theorem Only.cell {F : Nat → Prop} {w w' : World} (h : Only F w w') {p : Addr} (hp : p.block < w.heap.size) (hn : ¬ F p.block) : w'.cell? p = w.cell? p := World.cell?_of_block (h.block p.block hp hn)

def i64ok (n : Int) : Prop := -9223372036854775808 ≤ n ∧ n ≤ 9223372036854775807

/-- A slice of bools. -/
def Bools (w : World) (a : Option Addr) (len : Nat) (m : Nat → Bool) : Prop := len = 0 ∨ ∃ b off, a = some ⟨b, off, none⟩ ∧ b < w.heap.size ∧ ∀ j, j < len → w.cell? ⟨b, off + j, none⟩ = some (.bool (m j))

/-- A whole sector in new memory. -/
def NewSec (w w' : World) (v : Value) (f : Nat → Nat) : Prop := ∃ g o c t cur, v = .slice (some ⟨g, o, none⟩) 64 c ∧ 64 ≤ c ∧ w.heap.size ≤ g ∧ w'.heap[g]? = some (.cells cur t (0, 0)) ∧ ∀ j, j < 64 → cur[o + j]? = some (.int .u8 (f j : Nat))

theorem NewSec.bytes {w w' : World} {v : Value} {f : Nat → Nat} (h : NewSec w w' v f) : ∃ g o c, v = .slice (some ⟨g, o, none⟩) 64 c ∧ 64 ≤ c ∧ w.heap.size ≤ g ∧ Bytes w' (some ⟨g, o, none⟩) 64 f := by
  obtain ⟨g, o, c, t, cur, rfl, hc, hg, hh, hv⟩ := h
  exact ⟨g, o, c, rfl, hc, hg, .inr ⟨g, o, rfl, (Array.getElem?_eq_some_iff.1 hh).1, fun j hj => by rw [← hv j hj]; simp [World.cell?, hh]⟩⟩

/-- Nothing. -/
def NoSec (v : Value) : Prop := ∃ a c, v = .slice a 0 c

/-- How a device lies in memory: R w p s c F: at p there is a device whose state is s, its clock is c, all else that it hangs on lies in the blocks F; C w c m: the clock c shows m. -/
structure DevRep where
  R : World → Nat → DS → Nat → (Nat → Prop) → Prop
  C : World → Nat → Nat → Prop

/-- No moment of what came lies ahead of the clock. -/
def Past (s : DS) (m : Nat) : Prop := ∀ e ∈ s.log, e.mo ≤ (m : Int)

/-- A device and its clock. -/
def Dev (D : DevRep) (w : World) (p : Nat) (s : DS) (c m : Nat) (F : Nat → Prop) : Prop := D.R w p s c F ∧ D.C w c m ∧ ¬ F c ∧ Past s m

abbrev ptr (p : Nat) : Value := .pointer (some ⟨p, 0, none⟩)

/-- The blocks of one that has grown. -/
def Grew (w : World) (F F' : Nat → Prop) : Prop := ∀ k, F' k → F k ∨ w.heap.size ≤ k

def apartOf (F : Nat → Prop) (c : Nat) (a : Option Addr) : Prop := True

/-- What is asked of the calls on a device. -/
structure DevOk (D : DevRep) : Prop where
  lt : ∀ {w p s c F}, D.R w p s c F → ∀ k, F k → k < w.heap.size
  clt : ∀ {w c m}, D.C w c m → c < w.heap.size
  kept : ∀ {w w' p s c F}, D.R w p s c F → w.heap.size ≤ w'.heap.size → (∀ k, F k → w'.heap[k]? = w.heap[k]?) → D.R w' p s c F
  ckept : ∀ {w w' c m}, D.C w c m → w'.heap[c]? = w.heap[c]? → D.C w' c m
  new : ∀ (n : Nat) (w : World), 1 ≤ n → n ≤ 2048 → Calls Tryd.prog 10 #[.int .i64 (n : Nat)] w fun e w' => ∃ p c F, e = .returned (.tuple #[ptr p, .int .i64 0]) ∧ Dev D w' p (fresh n) c 0 F ∧ (∀ k, F k → w.heap.size ≤ k) ∧ w.heap.size ≤ c ∧ Below w.heap.size w w'
  newNo : ∀ (n : Int) (w : World), i64ok n → ¬ (1 ≤ n ∧ n ≤ 2048) → Calls Tryd.prog 10 #[.int .i64 n] w fun e w' => e = .returned (.tuple #[.pointer none, .int .i64 1]) ∧ Below w.heap.size w w'
  write : ∀ (w : World) (p : Nat) (s : DS) (c m : Nat) (F : Nat → Prop) (i : Int) (a : Option Addr) (L cap : Nat) (b : Nat → Nat), Dev D w p s c m F → i64ok i → m ≤ 100000 → s.log.length ≤ 100000 → L ≤ cap → L ≤ maxLen → (a = none → L = 0 ∧ cap = 0) → Bytes w a L b → (∀ j, b j < 256) → (L = 0 ∨ apartOf F c a) →
    Calls Tryd.prog 39 #[ptr p, .int .i64 i, .slice a L cap] w fun e w' => e = .returned (.int .i64 (wrErr s i L)) ∧ ((wrErr s i L ≠ 0 ∧ Below w.heap.size w w') ∨ (wrErr s i L = 0 ∧ Only (fun k => F k ∨ k = c) w w' ∧ ∃ F', Grew w F F' ∧ Dev D w' p (wroteD s i.toNat (full b L) (m + 1)) c (m + 1) F'))
  sync : ∀ (w : World) (p : Nat) (s : DS) (c m : Nat) (F : Nat → Prop), Dev D w p s c m F → m ≤ 100000 → s.log.length ≤ 100000 →
    Calls Tryd.prog 71 #[ptr p] w fun e w' => e = .returned (.int .i64 (if s.dead then 73 else 0)) ∧ ((s.dead = true ∧ Below w.heap.size w w') ∨ (s.dead = false ∧ Only F w w' ∧ ∃ F', Grew w F F' ∧ Dev D w' p (syncD s m) c m F'))
  read : ∀ (w : World) (p : Nat) (s : DS) (c m : Nat) (F : Nat → Prop) (i : Int), Dev D w p s c m F → i64ok i →
    Calls Tryd.prog 69 #[ptr p, .int .i64 i] w fun e w' => Below w.heap.size w w' ∧ ∃ v, e = .returned (.tuple #[v, .int .i64 (rdErr s i)]) ∧ ((rdErr s i ≠ 0 ∧ NoSec v) ∨ (rdErr s i = 0 ∧ NewSec w w' v (holds s i.toNat)))
  spoil : ∀ (w : World) (p : Nat) (s : DS) (c m : Nat) (F : Nat → Prop) (i : Int), Dev D w p s c m F → i64ok i →
    Calls Tryd.prog 22 #[ptr p, .int .i64 i] w fun e w' => e = .returned (.tuple #[]) ∧ ((¬ (s.dead = false ∧ 0 ≤ i ∧ i < s.n) ∧ Below w.heap.size w w') ∨ ((s.dead = false ∧ 0 ≤ i ∧ i < s.n) ∧ Only F w w' ∧ ∃ F', Grew w F F' ∧ Dev D w' p (spoilD s i.toNat) c m F'))
  kill : ∀ (w : World) (p : Nat) (s : DS) (c m : Nat) (F : Nat → Prop), Dev D w p s c m F →
    Calls Tryd.prog 21 #[ptr p] w fun e w' => e = .returned (.tuple #[]) ∧ Only F w w' ∧ ∃ F', Grew w F F' ∧ Dev D w' p (killD s) c m F'
  isDead : ∀ (w : World) (p : Nat) (s : DS) (c m : Nat) (F : Nat → Prop), Dev D w p s c m F → Calls Tryd.prog 16 #[ptr p] w fun e w' => e = .returned (.bool s.dead) ∧ Below w.heap.size w w'
  pending : ∀ (w : World) (p : Nat) (s : DS) (c m : Nat) (F : Nat → Prop), Dev D w p s c m F → s.log.length ≤ 100000 → Calls Tryd.prog 56 #[ptr p] w fun e w' => e = .returned (.int .i64 (pend s.log : Nat)) ∧ Below w.heap.size w w'
  cut : ∀ (w : World) (p : Nat) (s : DS) (c m : Nat) (F : Nat → Prop) (a : Option Addr) (L cap : Nat) (k : Nat → Bool), Dev D w p s c m F → s.log.length ≤ 100000 → L ≤ maxLen → L ≤ cap → Bools w a L k →
    Calls Tryd.prog 18 #[ptr p, .slice a L cap] w fun e w' => Below w.heap.size w w' ∧ ∃ p' c' F', e = .returned (ptr p') ∧ Grew w F F' ∧ w.heap.size ≤ c' ∧ Dev D w' p' (cutD s (keepOf k L)) c' 0 F'

theorem Dev.below {D : DevRep} (hD : DevOk D) {w w' : World} {p c m B : Nat} {s : DS} {F : Nat → Prop} (h : Dev D w p s c m F) (hb : Below B w w') (hB : w.heap.size ≤ B) : Dev D w' p s c m F :=
  ⟨hD.kept h.1 hb.size (fun k hk => hb.block k (by have := hD.lt h.1 k hk; omega)), hD.ckept h.2.1 (hb.block c (by have := hD.clt h.2.1; omega)), h.2.2⟩

theorem Dev.only {D : DevRep} (hD : DevOk D) {w w' : World} {p c m : Nat} {s : DS} {F G : Nat → Prop} (h : Dev D w p s c m F) (hb : Only G w w') (hF : ∀ k, F k → ¬ G k) (hc : ¬ G c) : Dev D w' p s c m F :=
  ⟨hD.kept h.1 hb.size (fun k hk => hb.block k (hD.lt h.1 k hk) (hF k hk)), hD.ckept h.2.1 (hb.block c (hD.clt h.2.1) hc), h.2.2⟩
end Go.Proofs.YtoiaclmfljoomaaDoor

/- Records in a device's bytes, as the chapter has them: reckoning alone. -/
namespace Go.Proofs.YtoiaclmfljoomaaDoor
set_option linter.unusedVariables false

/-- A record: how many bytes, and they. -/
structure RC where
  L : Nat
  f : Nat → Nat

def jrnd (n : Nat) : Nat := (n + 7) / 8 * 8
def cntAt (B : Nat → Nat) (p : Nat) : Nat := ((B p * 256 + B (p + 1)) * 256 + B (p + 2)) * 256 + B (p + 3)
def nextAt (B : Nat → Nat) (p : Nat) : Nat := p + 8 + jrnd (cntAt B p)

/-- Does a record begin at p? -/
def okAt (dg : Nat → (Nat → Nat) → Nat → Nat) (B : Nat → Nat) (N p : Nat) : Bool :=
  decide (p + 8 ≤ N) && decide (1 ≤ cntAt B p) && decide (cntAt B p ≤ 8192) && decide (nextAt B p ≤ N) && (List.range 4).all (fun j => dg (cntAt B p) (fun i => B (p + 8 + i)) j == B (p + 4 + j)) && (List.range (jrnd (cntAt B p) - cntAt B p)).all (fun k => B (p + 8 + cntAt B p + k) == 0)

theorem okAt_iff (dg : Nat → (Nat → Nat) → Nat → Nat) (B : Nat → Nat) (N p : Nat) : okAt dg B N p = true ↔ p + 8 ≤ N ∧ 1 ≤ cntAt B p ∧ cntAt B p ≤ 8192 ∧ nextAt B p ≤ N ∧ (∀ j, j < 4 → dg (cntAt B p) (fun i => B (p + 8 + i)) j = B (p + 4 + j)) ∧ ∀ k, k < jrnd (cntAt B p) - cntAt B p → B (p + 8 + cntAt B p + k) = 0 := by
  unfold okAt
  simp only [Bool.and_eq_true, decide_eq_true_eq, List.all_eq_true, List.mem_range, beq_iff_eq, and_assoc]

theorem jrnd_ge (n : Nat) : n ≤ jrnd n := by unfold jrnd; omega
theorem jrnd_lt (n : Nat) : jrnd n < n + 8 := by unfold jrnd; omega
theorem nextAt_lt (B : Nat → Nat) (p : Nat) : p < nextAt B p := by unfold nextAt; omega

def readF (dg : Nat → (Nat → Nat) → Nat → Nat) (B : Nat → Nat) (N : Nat) : Nat → Nat → List (Nat × Nat) × Nat
  | 0, p => ([], p)
  | fuel + 1, p => if okAt dg B N p then ((p, cntAt B p) :: (readF dg B N fuel (nextAt B p)).1, (readF dg B N fuel (nextAt B p)).2) else ([], p)

theorem readF_more (dg : Nat → (Nat → Nat) → Nat → Nat) (B : Nat → Nat) (N : Nat) : ∀ (fuel p : Nat), N < p + fuel → readF dg B N (fuel + 1) p = readF dg B N fuel p
  | 0, p, h => by
    have hno : okAt dg B N p = false := by
      cases hk : okAt dg B N p with
      | false => rfl
      | true => have := ((okAt_iff dg B N p).1 hk).1; omega
    simp [readF, hno]
  | fuel + 1, p, h => by
    have hn := nextAt_lt B p
    have ih := readF_more dg B N fuel (nextAt B p) (by omega)
    by_cases hk : okAt dg B N p = true
    · have e1 : ∀ k, readF dg B N (k + 1) p = ((p, cntAt B p) :: (readF dg B N k (nextAt B p)).1, (readF dg B N k (nextAt B p)).2) := fun k => by rw [readF, if_pos hk]
      rw [e1, e1, ih]
    · have e1 : ∀ k, readF dg B N (k + 1) p = ([], p) := fun k => by rw [readF, if_neg hk]
      rw [e1, e1]

/-- The records' places and lengths from p on, and where they end. -/
def reads (dg : Nat → (Nat → Nat) → Nat → Nat) (B : Nat → Nat) (N p : Nat) : List (Nat × Nat) × Nat := readF dg B N (N + 1) p

theorem reads_no {dg : Nat → (Nat → Nat) → Nat → Nat} {B : Nat → Nat} {N p : Nat} (h : okAt dg B N p = false) : reads dg B N p = ([], p) := by
  unfold reads
  rw [readF, if_neg (by rw [h]; decide)]

theorem reads_yes {dg : Nat → (Nat → Nat) → Nat → Nat} {B : Nat → Nat} {N p : Nat} (h : okAt dg B N p = true) : reads dg B N p = ((p, cntAt B p) :: (reads dg B N (nextAt B p)).1, (reads dg B N (nextAt B p)).2) := by
  have hn := nextAt_lt B p
  unfold reads
  rw [readF, if_pos h, ← readF_more dg B N N (nextAt B p) (by omega)]

/-- Records laid one behind the other. -/
def JLaid (dg : Nat → (Nat → Nat) → Nat → Nat) (B : Nat → Nat) : Nat → List RC → Prop
  | _, [] => True
  | p, r :: rs => cntAt B p = r.L ∧ (∀ j, j < 4 → B (p + 4 + j) = dg r.L r.f j) ∧ (∀ j, j < r.L → B (p + 8 + j) = r.f j) ∧ (∀ k, k < jrnd r.L - r.L → B (p + 8 + r.L + k) = 0) ∧ JLaid dg B (p + 8 + jrnd r.L) rs

def endOf : Nat → List RC → Nat
  | p, [] => p
  | p, r :: rs => endOf (p + 8 + jrnd r.L) rs

def posOf : Nat → List RC → List (Nat × Nat)
  | _, [] => []
  | p, r :: rs => (p, r.L) :: posOf (p + 8 + jrnd r.L) rs

theorem endOf_ge : ∀ (rs : List RC) (p : Nat), p ≤ endOf p rs
  | [], p => Nat.le_refl _
  | r :: rs, p => by
    have := endOf_ge rs (p + 8 + jrnd r.L)
    unfold endOf
    omega

theorem endOf_append : ∀ (rs ss : List RC) (p : Nat), endOf p (rs ++ ss) = endOf (endOf p rs) ss
  | [], ss, p => rfl
  | r :: rs, ss, p => endOf_append rs ss _

theorem posOf_append : ∀ (rs ss : List RC) (p : Nat), posOf p (rs ++ ss) = posOf p rs ++ posOf (endOf p rs) ss
  | [], ss, p => rfl
  | r :: rs, ss, p => by
    show (p, r.L) :: posOf _ (rs ++ ss) = (p, r.L) :: (posOf _ rs ++ _)
    rw [posOf_append rs ss]
    rfl

theorem posOf_len : ∀ (rs : List RC) (p : Nat), (posOf p rs).length = rs.length
  | [], p => rfl
  | r :: rs, p => by
    show (posOf _ rs).length + 1 = rs.length + 1
    rw [posOf_len rs]

theorem JLaid.append {dg : Nat → (Nat → Nat) → Nat → Nat} {B : Nat → Nat} : ∀ {rs ss : List RC} {p : Nat}, JLaid dg B p (rs ++ ss) ↔ JLaid dg B p rs ∧ JLaid dg B (endOf p rs) ss
  | [], ss, p => by simp [JLaid, endOf]
  | r :: rs, ss, p => by
    show (_ ∧ _ ∧ _ ∧ _ ∧ JLaid dg B _ (rs ++ ss)) ↔ (_ ∧ _ ∧ _ ∧ _ ∧ JLaid dg B _ rs) ∧ _
    rw [JLaid.append (rs := rs)]
    simp only [endOf, and_assoc]

/-- Only the bytes up to the end matter. -/
theorem JLaid.congr {dg : Nat → (Nat → Nat) → Nat → Nat} {B B' : Nat → Nat} : ∀ {rs : List RC} {p : Nat}, JLaid dg B p rs → (∀ k, p ≤ k → k < endOf p rs → B' k = B k) → JLaid dg B' p rs
  | [], p, _, _ => trivial
  | r :: rs, p, ⟨h1, h2, h3, h4, h5⟩, hB => by
    have he := endOf_ge rs (p + 8 + jrnd r.L)
    have hr := jrnd_ge r.L
    have hB' : ∀ k, p ≤ k → k < endOf (p + 8 + jrnd r.L) rs → B' k = B k := hB
    refine ⟨?_, fun j hj => ?_, fun j hj => ?_, fun k hk => ?_, h5.congr (fun k h1 h2 => hB' k (by omega) h2)⟩
    · rw [← h1]
      unfold cntAt
      rw [hB' p (by omega) (by omega), hB' (p + 1) (by omega) (by omega), hB' (p + 2) (by omega) (by omega), hB' (p + 3) (by omega) (by omega)]
    · rw [hB' _ (by omega) (by omega)]
      exact h2 j hj
    · rw [hB' _ (by omega) (by omega)]
      exact h3 j hj
    · rw [hB' _ (by omega) (by omega)]
      exact h4 k hk

def Sized (rs : List RC) : Prop := ∀ r ∈ rs, 1 ≤ r.L ∧ r.L ≤ 8192

/-- What is laid is read, if nothing follows. -/
theorem laid_reads {dg : Nat → (Nat → Nat) → Nat → Nat} (hdg : ∀ L f g, (∀ j, j < L → f j = g j) → dg L f = dg L g) {B : Nat → Nat} {N : Nat} : ∀ {rs : List RC} {p : Nat}, JLaid dg B p rs → Sized rs → endOf p rs ≤ N → okAt dg B N (endOf p rs) = false → reads dg B N p = (posOf p rs, endOf p rs)
  | [], p, _, _, _, h => reads_no h
  | r :: rs, p, ⟨h1, h2, h3, h4, h5⟩, hs, hN, h => by
    have he := endOf_ge rs (p + 8 + jrnd r.L)
    have hr := jrnd_ge r.L
    have hN' : endOf (p + 8 + jrnd r.L) rs ≤ N := hN
    have hsr := hs r (List.mem_cons_self ..)
    have hnx : nextAt B p = p + 8 + jrnd r.L := by unfold nextAt; rw [h1]
    have hok : okAt dg B N p = true := by
      rw [okAt_iff, hnx, h1]
      refine ⟨by omega, hsr.1, hsr.2, by omega, fun j hj => ?_, h4⟩
      rw [h2 j hj, hdg r.L (fun i => B (p + 8 + i)) r.f h3]
    have ih := laid_reads hdg h5 (fun q hq => hs q (List.mem_cons_of_mem _ hq)) hN' h
    rw [reads_yes hok, hnx, ih, h1]
    rfl

/-- Where the count is 0 no record begins. -/
theorem okAt_zero {dg : Nat → (Nat → Nat) → Nat → Nat} {B : Nat → Nat} {N p : Nat} (h : ∀ j, j < 4 → B (p + j) = 0) : okAt dg B N p = false := by
  cases hk : okAt dg B N p with
  | false => rfl
  | true =>
    have h1 := ((okAt_iff dg B N p).1 hk).2.1
    have h0 := h 0 (by decide)
    have h2 := h 1 (by decide)
    have h3 := h 2 (by decide)
    have h4 := h 3 (by decide)
    unfold cntAt at h1
    rw [Nat.add_zero] at h0
    rw [h0, h2, h3, h4] at h1
    omega

theorem okAt_end {dg : Nat → (Nat → Nat) → Nat → Nat} {B : Nat → Nat} {N p : Nat} (h : N < p + 8) : okAt dg B N p = false := by
  cases hk : okAt dg B N p with
  | false => rfl
  | true => have := ((okAt_iff dg B N p).1 hk).1; omega

/-- What a device holds: the records, and noughts behind them. -/
def Stands (dg : Nat → (Nat → Nat) → Nat → Nat) (B : Nat → Nat) (N : Nat) (rs : List RC) : Prop := JLaid dg B 0 rs ∧ Sized rs ∧ endOf 0 rs ≤ N ∧ ∀ k, endOf 0 rs ≤ k → k < N → B k = 0

theorem endOf_mod : ∀ (rs : List RC) (p : Nat), p % 8 = 0 → endOf p rs % 8 = 0
  | [], p, h => h
  | r :: rs, p, h => endOf_mod rs _ (by unfold jrnd; omega)

theorem stands_no {dg : Nat → (Nat → Nat) → Nat → Nat} {B : Nat → Nat} {N : Nat} {rs : List RC} (h : Stands dg B N rs) (hN : N % 8 = 0) : okAt dg B N (endOf 0 rs) = false := by
  by_cases he : N < endOf 0 rs + 8
  · exact okAt_end he
  · exact okAt_zero (fun j hj => h.2.2.2 _ (by omega) (by omega))

theorem stands_reads {dg : Nat → (Nat → Nat) → Nat → Nat} (hdg : ∀ L f g, (∀ j, j < L → f j = g j) → dg L f = dg L g) {B : Nat → Nat} {N : Nat} {rs : List RC} (h : Stands dg B N rs) (hN : N % 8 = 0) : reads dg B N 0 = (posOf 0 rs, endOf 0 rs) :=
  laid_reads hdg h.1 h.2.1 h.2.2.1 (stands_no h hN)

/-- Torn: up to the end as it was, and the next head's count 0: the old records are read. -/
theorem torn_reads {dg : Nat → (Nat → Nat) → Nat → Nat} (hdg : ∀ L f g, (∀ j, j < L → f j = g j) → dg L f = dg L g) {B B' : Nat → Nat} {N : Nat} {rs : List RC} (h : Stands dg B N rs) (hN : N % 8 = 0) (h1 : ∀ k, k < endOf 0 rs → B' k = B k) (h2 : ∀ j, j < 4 → endOf 0 rs + j < N → B' (endOf 0 rs + j) = 0) : reads dg B' N 0 = (posOf 0 rs, endOf 0 rs) := by
  refine laid_reads hdg (h.1.congr (fun k _ hk => h1 k hk)) h.2.1 h.2.2.1 ?_
  by_cases he : N < endOf 0 rs + 8
  · exact okAt_end he
  · exact okAt_zero (fun j hj => h2 j hj (by omega))

/-! What is read is laid: bytes tell their own records. -/
def recsOf (B : Nat → Nat) (l : List (Nat × Nat)) : List RC := l.map fun q => ⟨q.2, fun j => B (q.1 + 8 + j)⟩

theorem readF_laid {dg : Nat → (Nat → Nat) → Nat → Nat} {B : Nat → Nat} {N : Nat} : ∀ (fuel p : Nat), JLaid dg B p (recsOf B (readF dg B N fuel p).1) ∧ endOf p (recsOf B (readF dg B N fuel p).1) = (readF dg B N fuel p).2 ∧ Sized (recsOf B (readF dg B N fuel p).1) ∧ (p ≤ N → (readF dg B N fuel p).2 ≤ N)
  | 0, p => ⟨trivial, rfl, fun r hr => (by cases hr), fun h => h⟩
  | fuel + 1, p => by
    by_cases hk : okAt dg B N p = true
    · obtain ⟨h1, h2, h3, h4⟩ := readF_laid (dg := dg) (B := B) (N := N) fuel (nextAt B p)
      obtain ⟨a1, a2, a3, a4, a5, a6⟩ := (okAt_iff dg B N p).1 hk
      rw [readF, if_pos hk]
      refine ⟨⟨rfl, fun j hj => (a5 j hj).symm, fun j hj => rfl, a6, h1⟩, h2, ?_, fun _ => h4 a4⟩
      intro r hr
      rcases List.mem_cons.1 hr with rfl | hr
      · exact ⟨a2, a3⟩
      · exact h3 r hr
    · rw [readF, if_neg hk]
      exact ⟨trivial, rfl, fun r hr => (by cases hr), fun h => h⟩

theorem posOf_recs {dg : Nat → (Nat → Nat) → Nat → Nat} {B : Nat → Nat} {N : Nat} : ∀ (fuel p : Nat), posOf p (recsOf B (readF dg B N fuel p).1) = (readF dg B N fuel p).1
  | 0, p => rfl
  | fuel + 1, p => by
    by_cases hk : okAt dg B N p = true
    · rw [readF, if_pos hk]
      have ih := posOf_recs (dg := dg) (B := B) (N := N) fuel (nextAt B p)
      show (p, cntAt B p) :: posOf (nextAt B p) (recsOf B (readF dg B N fuel (nextAt B p)).1) = (p, cntAt B p) :: (readF dg B N fuel (nextAt B p)).1
      rw [ih]
    · rw [readF, if_neg hk]
      rfl
end Go.Proofs.YtoiaclmfljoomaaDoor

/- Bytes as strings; the reference's Same. -/
namespace Go.Proofs.YtoiaclmfljoomaaDoor
open Go.ChangeShapes Go.WideShapes Go.ChangeAt Go.RowKit
set_option linter.unusedVariables false

def strN (f : Nat → Nat) (n : Nat) : List UInt8 := (List.range n).map fun j => UInt8.ofNat (f j)

theorem conv_bytesN {w : World} {a : Option Addr} {len : Nat} {f : Nat → Nat} (cap : Nat) (h : Bytes w a len f) (hf : ∀ j, f j < 256) (hn : a = none → len = 0) :
    (convert 33 9 (.slice a len cap)).run Tryd.prog w = .ok (.string ⟨(strN f len).toArray⟩) w := by
  have hl : (strN f len).length = len := by simp [strN]
  cases a with
  | none =>
    obtain rfl := hn rfl
    rw [run_convert_bytes_string w 33 9 5 none 0 cap Tryd.underlying33 Tryd.underlying5 Tryd.underlying9]
    rfl
  | some x =>
    have h' := run_convert_bytes_back (P := Tryd.prog) w 33 9 5 x cap (strN f len) Tryd.underlying33 Tryd.underlying5 Tryd.underlying9 (by
      intro j hj
      rw [hl] at hj
      rcases h with h0 | ⟨b, off, e, _, hc⟩
      · omega
      · obtain rfl : x = ⟨b, off, none⟩ := Option.some.inj e
        rw [show (⟨b, off, none⟩ : Addr).add j = ⟨b, off + j, none⟩ from by simp [Addr.add], hc j hj]
        simp only [strN, List.getElem_map, List.getElem_range]
        have := hf j
        simp
        omega)
    rw [hl] at h'
    exact h'



theorem strN_same {f g : Nat → Nat} {n : Nat} (h : ∀ j, j < n → f j = g j) : strN f n = strN g n := by
  unfold strN
  apply List.map_congr_left
  intro j hj
  rw [h j (by simpa using hj)]

theorem strN_eq {f g : Nat → Nat} {n m : Nat} (hf : ∀ j, f j < 256) (hg : ∀ j, g j < 256) : strN f n = strN g m ↔ n = m ∧ ∀ j, j < n → f j = g j := by
  constructor
  · intro h
    have hl : (strN f n).length = (strN g m).length := by rw [h]
    have hl' : n = m := by simpa [strN] using hl
    refine ⟨hl', fun j hj => ?_⟩
    have h1 : (strN f n)[j]? = (strN g m)[j]? := by rw [h]
    have h2 : UInt8.ofNat (f j) = UInt8.ofNat (g j) := by simpa [strN, hj, ← hl'] using h1
    have h3 := congrArg UInt8.toNat h2
    have a1 := hf j
    have a2 := hg j
    simpa [UInt8.toNat_ofNat', Nat.mod_eq_of_lt a1, Nat.mod_eq_of_lt a2] using h3
  · rintro ⟨rfl, h⟩
    exact strN_same h

end Go.Proofs.YtoiaclmfljoomaaDoor

/- Lists of records in memory: slices of slices of bytes. -/
namespace Go.Proofs.YtoiaclmfljoomaaDoor
open Go.ChangeShapes Go.WideShapes Go.ChangeAt Go.RowKit
set_option linter.unusedVariables false

theorem at_dst {ops : Array Oper} {rest : List Oper} {o : Oper} {a : Act} {w : World} {Q : Exit → Act → World → Prop} (d : Tmp) (h : o.dst = some d) (k : wpList Tryd.prog ops Q (o :: rest) a w) : wpList Tryd.prog ops Q (o :: rest) a w := k

/-- Bytes that came in. -/
structure ByIn (w : World) (a : Option Addr) (L C : Nat) (b : Nat → Nat) : Prop where
  le : L ≤ C
  max : L ≤ maxLen
  nil : a = none → L = 0 ∧ C = 0
  at_ : Bytes w a L b
  byt : ∀ j, b j < 256

/-- Bools that came in. -/
structure BoIn (w : World) (a : Option Addr) (L C : Nat) (b : Nat → Bool) : Prop where
  le : L ≤ C
  max : L ≤ maxLen
  at_ : Bools w a L b

theorem ByIn.below {w w' : World} {a : Option Addr} {L C B : Nat} {b : Nat → Nat} (h : ByIn w a L C b) (hb : Below B w w') (hB : w.heap.size ≤ B) : ByIn w' a L C b := ⟨h.le, h.max, h.nil, h.at_.below hb hB, h.byt⟩

theorem Bools.below {w w' : World} {a : Option Addr} {len B : Nat} {m : Nat → Bool} (h : Bools w a len m) (hb : Below B w w') (hB : w.heap.size ≤ B) : Bools w' a len m := by
  rcases h with h | ⟨b, off, h1, h2, h3⟩
  · exact .inl h
  · exact .inr ⟨b, off, h1, Nat.lt_of_lt_of_le h2 hb.size, fun j hj => (hb.cell (show b < B by omega)).trans (h3 j hj)⟩

theorem BoIn.below {w w' : World} {a : Option Addr} {L C B : Nat} {b : Nat → Bool} (h : BoIn w a L C b) (hb : Below B w w') (hB : w.heap.size ≤ B) : BoIn w' a L C b := ⟨h.le, h.max, h.at_.below hb hB⟩

/-- A list of records in memory. -/
def Rl (w : World) (a : Option Addr) (rs : List RC) : Prop := rs.length ≤ maxLen ∧ ∀ (i : Nat) (r : RC), rs[i]? = some r → ∃ x o ad C, a = some ⟨x, o, none⟩ ∧ x < w.heap.size ∧ w.cell? ⟨x, o + i, none⟩ = some (.slice ad r.L C) ∧ ByIn w ad r.L C r.f

theorem Rl.below {w w' : World} {a : Option Addr} {rs : List RC} {B : Nat} (h : Rl w a rs) (hb : Below B w w') (hB : w.heap.size ≤ B) : Rl w' a rs := by
  refine ⟨h.1, fun i r hi => ?_⟩
  obtain ⟨x, o, ad, C, e, hx, hc, hin⟩ := h.2 i r hi
  exact ⟨x, o, ad, C, e, Nat.lt_of_lt_of_le hx hb.size, (hb.cell (show x < B by omega)).trans hc, hin.below hb hB⟩

theorem Rl.nil (w : World) (a : Option Addr) : Rl w a [] := ⟨Nat.zero_le _, fun i r hi => by simp at hi⟩

/-- Are two records one? -/
def rlike (r s : RC) : Bool := strN r.f r.L == strN s.f s.L

def rlikes : List RC → List RC → Bool
  | [], [] => true
  | r :: rs, s :: ss => rlike r s && rlikes rs ss
  | _, _ => false

theorem rlikes_iff : ∀ (rs ss : List RC), rlikes rs ss = true ↔ rs.length = ss.length ∧ ∀ (i : Nat) (r s : RC), rs[i]? = some r → ss[i]? = some s → rlike r s = true
  | [], [] => by simp [rlikes]
  | [], s :: ss => by simp [rlikes]
  | r :: rs, [] => by simp [rlikes]
  | r :: rs, s :: ss => by
    unfold rlikes
    rw [Bool.and_eq_true, rlikes_iff rs ss]
    constructor
    · rintro ⟨h1, h2, h3⟩
      refine ⟨by simp [h2], fun i a b ha hb => ?_⟩
      cases i with
      | zero =>
        simp at ha hb
        subst ha hb
        exact h1
      | succ i => exact h3 i a b (by simpa using ha) (by simpa using hb)
    · rintro ⟨h1, h2⟩
      exact ⟨h2 0 r s rfl rfl, by simpa using h1, fun i a b ha hb => h2 (i + 1) a b (by simpa using ha) (by simpa using hb)⟩

theorem rlikes_refl (rs : List RC) : rlikes rs rs = true := by
  rw [rlikes_iff]
  refine ⟨rfl, fun i r s h1 h2 => ?_⟩
  rw [h1] at h2
  obtain rfl := Option.some.inj h2
  unfold rlike
  simp

theorem below_drewN {B : Nat} {a w : World} (h : Below B a w) (n : Nat) : Below B a (w.drewN n) := ⟨h.os, h.tape, h.output, h.size, h.block⟩
theorem Bytes.drewN {w : World} {a : Option Addr} {L : Nat} {f : Nat → Nat} (h : Bytes w a L f) (n : Nat) : Bytes (w.drewN n) a L f := h

set_option maxRecDepth 100000 in
set_option maxHeartbeats 2000000 in
theorem samer_any {w : World} {a1 a2 : Option Addr} {c1 c2 n1 n2 : Nat} {rs ss : List RC} (h1 : Rl w a1 rs) (h2 : Rl w a2 ss) (e1 : n1 = rs.length) (e2 : n2 = ss.length) :
    Calls Tryd.prog 23 #[.slice a1 n1 c1, .slice a2 n2 c2] w fun e w' => e = .returned (.bool (rlikes rs ss)) ∧ Below w.heap.size w w' := by
  have hm1 := h1.1
  have hm2 := h2.1
  unfold maxLen at hm1 hm2
  have E1 : Hid (n1 = rs.length) := e1
  have E2 : Hid (n2 = ss.length) := e2
  have hn1 : n1 ≤ 9223372036854775807 := by omega
  have hn2 : n2 ≤ 9223372036854775807 := by omega
  clear hm1 hm2 e1 e2
  obtain ⟨R, hR⟩ : ∃ R, R = rlikes rs ss := ⟨_, rfl⟩
  have HR : Hid (R = rlikes rs ss) := hR
  rw [← hR]
  clear hR
  by_cases hn : n1 = n2
  · subst hn
    go_enter Tryd.func23, Tryd.ntmps23
    go_wp2
    go_loopw [5] (fun iv wr => ∃ k : Nat, k ≤ n1 ∧ iv = .int .i64 (k : Nat) ∧ Below w.heap.size w wr ∧ ∀ (i : Nat) (r s : RC), i < k → rs[i]? = some r → ss[i]? = some s → rlike r s = true)
      (fun iv _ => n1 - (intOf iv).toNat)
    case atStart => exact ⟨0, Nat.zero_le _, rfl, Below.refl _ _, fun i r s hi => by omega⟩
    case round =>
      obtain ⟨k, hk, rfl, hbel, hall⟩ := hrel
      by_cases hlt : k < n1
      · have hk1 : k < rs.length := by rw [← E1.out]; exact hlt
        have hk2 : k < ss.length := by rw [← E2.out]; exact hlt
        obtain ⟨r, hr⟩ : ∃ r, rs[k]? = some r := ⟨_, List.getElem?_eq_getElem hk1⟩
        obtain ⟨s, hs⟩ : ∃ s, ss[k]? = some s := ⟨_, List.getElem?_eq_getElem hk2⟩
        obtain ⟨x, o, A1, C1, rfl, hx, x2, hi⟩ := (h1.below hbel (Nat.le_refl _)).2 k r hr
        obtain ⟨y, p, A2, C2, rfl, hy, y2, hj⟩ := (h2.below hbel (Nat.le_refl _)).2 k s hs
        have k1 := fun m => conv_bytesN C1 (hi.at_.drewN m) hi.byt (fun e => (hi.nil e).1)
        have k2 := fun m => conv_bytesN C2 (hj.at_.drewN m) hj.byt (fun e => (hj.nil e).1)
        have i0 : (k : Int) < (n1 : Int) := by omega
        have i1 : (0 : Int) ≤ (k : Int) := by omega
        by_cases hlk : rlike r s = true
        · have he : strN r.f r.L = strN s.f s.L := by simpa [rlike] using hlk
          rw [he] at k1
          have HL : Hid (rlike r s = true) := hlk
          generalize strN s.f s.L = T at k1 k2
          generalize r.L = L1 at x2 k1
          generalize s.L = L2 at y2 k2
          clear hi hj h1 h2 he hlk
          go_wp2
          go_quiet (fail)
          go_wp2
          go_roundw
          case rel =>
            refine ⟨k + 1, by omega, by go_num, below_drewN hbel nq, fun i r' s' hi hr' hs' => ?_⟩
            by_cases hik : i = k
            · subst hik
              rw [hr] at hr'
              rw [hs] at hs'
              obtain rfl := Option.some.inj hr'
              obtain rfl := Option.some.inj hs'
              exact HL.out
            · exact hall i r' s' (by omega) hr' hs'
          case measure => simp [intOf]; omega
        · have hne : ¬ strN r.f r.L = strN s.f s.L := fun e => hlk (by simp [rlike, e])
          have HF : Hid (R = false) := by
            show R = false
            rw [HR.out]
            cases hq : rlikes rs ss with
            | false => rfl
            | true => exact absurd (((rlikes_iff rs ss).1 hq).2 k r s hr hs) hlk
          generalize strN r.f r.L = T1 at k1 hne
          generalize strN s.f s.L = T2 at k2 hne
          have q1 : (T1 == T2) = false := by simp; exact hne
          have q2 : (T1 != T2) = true := by simp; exact hne
          generalize r.L = L1 at x2 k1
          generalize s.L = L2 at y2 k2
          clear hi hj h1 h2 hlk
          go_wp2
          go_quiet (fail)
          go_wp2
          go_ret
          exact ⟨by rw [HF.out]; rfl, below_drewN hbel nq⟩
      · obtain rfl : k = n1 := by omega
        go_wp2
        go_ret
        refine ⟨?_, hbel⟩
        have : R = true := by
          rw [HR.out, rlikes_iff]
          refine ⟨by rw [← E1.out, ← E2.out], fun i r s hr hs => hall i r s ?_ hr hs⟩
          rw [E1.out]
          exact (List.getElem?_eq_some_iff.1 hr).1
        rw [this]
        rfl
  · have hni : ¬ (n1 : Int) = (n2 : Int) := by omega
    have hF : R = false := by
      rw [HR.out]
      cases hq : rlikes rs ss with
      | false => rfl
      | true => exact absurd (((rlikes_iff rs ss).1 hq).1) (by rw [← E1.out, ← E2.out]; exact hn)
    rw [hF]
    clear hF hn
    go_enter Tryd.func23, Tryd.ntmps23
    go_wp2
    go_ret
    exact ⟨rfl, Below.refl _ _⟩
end Go.Proofs.YtoiaclmfljoomaaDoor

/- The reference's Round and Size. -/
namespace Go.Proofs.YtoiaclmfljoomaaDoor
open Go.ChangeShapes Go.WideShapes Go.ChangeAt Go.RowKit
set_option linter.unusedVariables false

theorem round_any (n : Nat) (w : World) (h : n ≤ 1000000) : Calls Tryd.prog 40 #[.int .i64 (n : Nat)] w fun e w' => e = .returned (.int .i64 (jrnd n : Nat)) ∧ w' = w := by
  have e1 : ((jrnd n : Nat) : Int) = ((n : Int) + 7) / 8 * 8 := by unfold jrnd; omega
  rw [e1]
  have h1 : (0 : Int) ≤ (n : Int) := by omega
  have h2 : (n : Int) ≤ 1000000 := by omega
  generalize (n : Int) = x at h1 h2 ⊢
  go_enter Tryd.func40, Tryd.ntmps40
  go_wp2
  go_ret
  exact ⟨rfl, rfl⟩

theorem endOf_take (rs : List RC) (p k : Nat) (r : RC) (h : rs[k]? = some r) : endOf p (rs.take (k + 1)) = endOf p (rs.take k) + 8 + jrnd r.L := by
  have e : rs.take (k + 1) = rs.take k ++ [r] := by
    rw [List.take_add_one, h]
    rfl
  rw [e, endOf_append]
  rfl

theorem endOf_take_le (rs : List RC) (p k : Nat) : endOf p (rs.take k) ≤ endOf p rs := by
  have e : rs = rs.take k ++ rs.drop k := (List.take_append_drop k rs).symm
  have h2 := endOf_append (rs.take k) (rs.drop k) p
  rw [← e] at h2
  rw [h2]
  exact endOf_ge _ _

set_option maxRecDepth 100000 in
set_option maxHeartbeats 1000000 in
theorem size_any {w : World} {a : Option Addr} {n c : Nat} {rs : List RC} (h : Rl w a rs) (e : n = rs.length) (hs : Sized rs) (hE : endOf 0 rs ≤ 1000000) :
    Calls Tryd.prog 27 #[.slice a n c] w fun e w' => e = .returned (.int .i64 (endOf 0 rs : Nat)) ∧ Below w.heap.size w w' := by
  have hm := h.1
  unfold maxLen at hm
  have E : Hid (n = rs.length) := e
  have hn : n ≤ 9223372036854775807 := by omega
  clear hm e
  go_enter Tryd.func27, Tryd.ntmps27
  go_wp2
  go_loopw [3, 4] (fun t iv wr => ∃ k : Nat, k ≤ n ∧ iv = .int .i64 (k : Nat) ∧ t = .int .i64 (endOf 0 (rs.take k) : Nat) ∧ wr = w)
    (fun _ iv _ => n - (intOf iv).toNat)
  case atStart => exact ⟨0, Nat.zero_le _, rfl, rfl, rfl⟩
  case round =>
    obtain ⟨k, hk, rfl, rfl, hwr⟩ := hrel
    obtain rfl : w = wr := hwr.symm
    by_cases hlt : k < n
    · obtain ⟨r, hr⟩ : ∃ r, rs[k]? = some r := ⟨_, List.getElem?_eq_getElem (by rw [← E.out]; exact hlt)⟩
      obtain ⟨x, o, A1, C1, rfl, hx, x2, hi⟩ := h.2 k r hr
      have i0 : (k : Int) < (n : Int) := by omega
      have i1 : (0 : Int) ≤ (k : Int) := by omega
      have hle := endOf_take_le rs 0 (k + 1)
      have hst := endOf_take rs 0 k r hr
      have hrn := round_any r.L w (by have := hs r (List.mem_of_getElem? hr); omega)
      have hrd : r.L ≤ 8192 := (hs r (List.mem_of_getElem? hr)).2
      have hri : ((jrnd r.L : Nat) : Int) ≤ 8200 := by have := jrnd_lt r.L; omega
      have HS : Hid (endOf 0 (rs.take (k + 1)) = endOf 0 (rs.take k) + 8 + jrnd r.L) := hst
      have hE2 : ((endOf 0 (rs.take k) : Nat) : Int) ≤ 1000000 := by omega
      clear hst hle hi h hs
      generalize hX : endOf 0 (rs.take k) = X at hE2 HS
      generalize hY : jrnd r.L = Y at hri HS hrn
      generalize r.L = L1 at x2 hrn hrd
      go_wp2_with (first
        | ((go_at_call 40)
           (refine hrn.mono ?_)
           (rintro e wz ⟨rfl, hz⟩)
           (obtain rfl : w = wz := hz.symm)))
      go_roundw
      case rel => exact ⟨k + 1, by omega, by go_num, by rw [HS.out]; simp, trivial⟩
      case measure => simp [intOf]; omega
    · obtain rfl : k = n := by omega
      go_wp2
      go_ret
      refine ⟨?_, Below.refl _ _⟩
      rw [E.out, List.take_length]
      rfl

/-- Which of n things a raw number speaks of. -/
def pickN (c : Int) (n : Nat) : Nat := (if c < 0 then -(c + 1) else c).toNat % n

theorem pickN_lt (c : Int) (n : Nat) (h : 0 < n) : pickN c n < n := Nat.mod_lt _ h

theorem pick_any (c : Int) (n : Nat) (w : World) (hc : i64ok c) (hn : 1 ≤ n) (hn2 : n ≤ 1000000) : Calls Tryd.prog 9 #[.int .i64 c, .int .i64 (n : Nat)] w fun e w' => e = .returned (.int .i64 (pickN c n : Nat)) ∧ w' = w := by
  obtain ⟨h1, h2⟩ := hc
  have hn0 : ¬ (n : Int) = 0 := by omega
  have hn1 : (1 : Int) ≤ (n : Int) := by omega
  have hn3 : (n : Int) ≤ 1000000 := by omega
  by_cases h0 : c < 0
  · have e : -(c + 1).tmod (n : Int) = ((pickN c n : Nat) : Int) := by
      have h3 : (c + 1) = -(-(c + 1)) := by omega
      unfold pickN
      rw [if_pos h0, h3, Int.neg_tmod, Int.tmod_eq_emod_of_nonneg (by omega), Int.natCast_emod, Int.toNat_of_nonneg (by omega)]
      simp
    rw [← e]
    clear e hn hn2
    generalize (n : Int) = N at hn0 hn1 hn3 ⊢
    go_enter Tryd.func9, Tryd.ntmps9
    go_wp2
    go_ret
    exact ⟨by simp, rfl⟩
  · have e : c.tmod (n : Int) = ((pickN c n : Nat) : Int) := by
      unfold pickN
      rw [if_neg h0, Int.tmod_eq_emod_of_nonneg (by omega), Int.natCast_emod, Int.toNat_of_nonneg (by omega)]
    rw [← e]
    clear e hn hn2
    generalize (n : Int) = N at hn0 hn1 hn3 ⊢
    go_enter Tryd.func9, Tryd.ntmps9
    go_wp2
    go_ret
    exact ⟨by simp; exact (Int.tmod_eq_emod_of_nonneg (by omega)).symm, rfl⟩

/-- Are all bytes from p on noughts? -/
def blankB (B : Nat → Nat) (N p : Nat) : Bool := (List.range (N - p)).all fun k => B (p + k) == 0

theorem blankB_iff (B : Nat → Nat) (N p : Nat) : blankB B N p = true ↔ ∀ k, p ≤ k → k < N → B k = 0 := by
  unfold blankB
  simp only [List.all_eq_true, List.mem_range, beq_iff_eq]
  constructor
  · intro h k h1 h2
    have := h (k - p) (by omega)
    rwa [show p + (k - p) = k by omega] at this
  · intro h k hk
    exact h _ (by omega) (by omega)

set_option maxRecDepth 100000 in
set_option maxHeartbeats 1000000 in
theorem blank_any {w : World} {a : Option Addr} {N C p : Nat} {B : Nat → Nat} (h : ByIn w a N C B) (hN : N ≤ 1000000) (hp : p ≤ 1000000) : Calls Tryd.prog 55 #[.slice a N C, .int .i64 (p : Nat)] w fun e w' => e = .returned (.bool (blankB B N p)) ∧ w' = w := by
  obtain ⟨R, hR⟩ : ∃ R, R = blankB B N p := ⟨_, rfl⟩
  have HR : Hid (R = blankB B N p) := hR
  rw [← hR]
  clear hR
  go_enter Tryd.func55, Tryd.ntmps55
  go_wp2
  go_loopw [5] (fun iv wr => ∃ k : Nat, p ≤ k ∧ k ≤ 1000000 ∧ iv = .int .i64 (k : Nat) ∧ wr = w ∧ ∀ j, p ≤ j → j < k → j < N → B j = 0)
    (fun iv _ => N - (intOf iv).toNat)
  case atStart => exact ⟨p, Nat.le_refl _, hp, rfl, rfl, fun j h1 h2 => by omega⟩
  case round =>
    obtain ⟨k, hpk, hk, rfl, hwr, hall⟩ := hrel
    obtain rfl : w = wr := hwr.symm
    by_cases hlt : k < N
    · obtain ⟨b, off, rfl, _, hc⟩ := h.at_.resolve_left (by omega)
      have c0 := hc k hlt
      have i0 : (k : Int) < (N : Int) := by omega
      have i1 : (0 : Int) ≤ (k : Int) := by omega
      have i2 : (k : Int) ≤ 1000000 := by omega
      have hbk := h.byt k
      by_cases hz : B k = 0
      · rw [hz] at c0
        have HZ : Hid (B k = 0) := hz
        clear hz hc h
        go_wp2
        go_roundw
        case rel =>
          refine ⟨k + 1, by omega, by omega, by go_num, trivial, fun j h1 h2 h3 => ?_⟩
          by_cases hjk : j = k
          · subst hjk
            exact HZ.out
          · exact hall j h1 (by omega) h3
        case measure => simp [intOf]; omega
      · have hzi : ¬ ((B k : Nat) : Int) = 0 := by omega
        have HF : Hid (R = false) := by
          show R = false
          rw [HR.out]
          cases hq : blankB B N p with
          | false => rfl
          | true => exact absurd ((blankB_iff B N p).1 hq k hpk hlt) hz
        clear hz hc h
        generalize ((B k : Nat) : Int) = Z at c0 hzi
        go_wp2
        go_ret
        exact ⟨by rw [HF.out]; rfl, rfl⟩
    · have i0 : ¬ (k : Int) < (N : Int) := by omega
      go_wp2
      go_ret
      refine ⟨?_, rfl⟩
      have : R = true := by
        rw [HR.out, blankB_iff]
        exact fun j h1 h2 => hall j h1 (by omega) h2
      rw [this]
      rfl
end Go.Proofs.YtoiaclmfljoomaaDoor

/- Power that goes within phases of writes, each ended by a Sync: reckoning alone. -/
namespace Go.Proofs.YtoiaclmfljoomaaDoor
set_option linter.unusedVariables false

/-- A log behind which all is safe: none, or one that ends in a Sync. -/
def SafeL (l : List AE) : Prop := l = [] ∨ ∃ m e, l = m ++ [e] ∧ e.sync = true

theorem left_safe (keep : Nat → Bool) (k : Nat) {l m : List AE} (h : SafeL l) (f : Nat → Nat → Nat) : left keep k (l ++ m) f = left keep k m (l.foldl upF f) := by
  rcases h with rfl | ⟨q, e, rfl, he⟩
  · rfl
  · rw [List.append_assoc]
    show left keep k (q ++ e :: m) f = _
    rw [left_ahead keep k q m f e he, List.foldl_append]
    show left keep k m (q.foldl upF f) = left keep k m (upF (q.foldl upF f) e)
    rw [upF_sync _ e he]

theorem left_safe_all (keep : Nat → Bool) (k : Nat) {l : List AE} (h : SafeL l) (f : Nat → Nat → Nat) : left keep k l f = l.foldl upF f := by
  have := left_safe keep k (m := []) h f
  rwa [List.append_nil] at this

theorem upTo_le : ∀ (A B : List AE) (n : Nat), n ≤ wrs A → upTo n (A ++ B) = upTo n A
  | [], B, n, h => by
    obtain rfl : n = 0 := by simpa [wrs] using h
    cases B <;> rfl
  | e :: A, B, 0, h => rfl
  | e :: A, B, n + 1, h => by
    rw [wrs_cons] at h
    show e :: upTo _ (A ++ B) = e :: upTo _ A
    by_cases he : e.sync = true
    · rw [if_pos he] at h
      rw [if_pos he, upTo_le A B (n + 1) (by omega)]
    · rw [if_neg he] at h
      rw [if_neg he, upTo_le A B n (by omega)]

theorem upTo_gt : ∀ (A B : List AE) (n : Nat), wrs A < n → upTo n (A ++ B) = A ++ upTo (n - wrs A) B
  | [], B, n, h => by
    show upTo n B = upTo (n - 0) B
    rfl
  | e :: A, B, 0, h => by omega
  | e :: A, B, n + 1, h => by
    rw [wrs_cons] at h ⊢
    show e :: upTo _ (A ++ B) = e :: (A ++ _)
    by_cases he : e.sync = true
    · rw [if_pos he] at h
      rw [if_pos he, if_pos he, upTo_gt A B (n + 1) (by omega), show n + 1 - (0 + wrs A) = n + 1 - wrs A by omega]
    · rw [if_neg he] at h
      rw [if_neg he, if_neg he, upTo_gt A B n (by omega), show n + 1 - (1 + wrs A) = n - wrs A by omega]

theorem upTo_mem : ∀ (A : List AE) (n : Nat) (e : AE), e ∈ upTo n A → e ∈ A
  | [], 0, e, h => h
  | [], n + 1, e, h => h
  | d :: A, 0, e, h => by cases h
  | d :: A, n + 1, e, h => by
    have h' : e ∈ d :: upTo (if d.sync then n + 1 else n) A := h
    rcases List.mem_cons.1 h' with rfl | h2
    · exact List.mem_cons_self ..
    · exact List.mem_cons_of_mem _ (upTo_mem A _ e h2)

/-- Some of the writes have come through: each sector holds what it held, or what one of them left. -/
def TornBy (base : Nat → Nat → Nat) (ws : List AE) (C : Nat → Nat → Nat) : Prop := ∀ i, C i = base i ∨ ∃ e ∈ ws, e.sync = false ∧ e.i = i ∧ C i = e.b

/-- A phase: writes, and the Sync behind them. -/
def phL (p : List AE × AE) : List AE := p.1 ++ [p.2]

/-- What power may leave of phases. -/
def PhOut : (Nat → Nat → Nat) → List (List AE × AE) → (Nat → Nat → Nat) → Prop
  | base, [], C => C = base
  | base, p :: ps, C => TornBy base p.1 C ∨ PhOut (p.1.foldl upF base) ps C

theorem fold_snoc_sync (l : List AE) (e : AE) (h : e.sync = true) (f : Nat → Nat → Nat) : (l ++ [e]).foldl upF f = l.foldl upF f := by
  rw [List.foldl_append]
  show upF (l.foldl upF f) e = _
  rw [upF_sync _ e h]

theorem wrs_phL (p : List AE × AE) (h : p.2.sync = true) : wrs (phL p) = wrs p.1 := by
  unfold phL
  rw [wrs_snoc, if_pos h]
  omega

theorem cut_phases (keep : Nat → Bool) : ∀ (ps : List (List AE × AE)) (l0 : List AE) (f : Nat → Nat → Nat) (n : Nat), SafeL l0 → (∀ p ∈ ps, p.2.sync = true) → wrs l0 < n →
    PhOut (l0.foldl upF f) ps (left keep 0 (upTo n (l0 ++ ps.flatMap phL)) f)
  | [], l0, f, n, hs, hp, hn => by
    show left keep 0 (upTo n (l0 ++ [])) f = l0.foldl upF f
    rw [upTo_gt l0 [] n hn, upTo_nil, List.append_nil]
    exact left_safe_all keep 0 hs f
  | p :: ps, l0, f, n, hs, hp, hn => by
    have hsy := hp p (List.mem_cons_self ..)
    rw [List.flatMap_cons, ← List.append_assoc]
    have hw : wrs (l0 ++ phL p) = wrs l0 + wrs p.1 := by
      rw [← wrs_phL p hsy]
      unfold wrs
      rw [List.filter_append, List.length_append]
    by_cases hle : n ≤ wrs (l0 ++ phL p)
    · refine .inl ?_
      rw [upTo_le _ _ n hle, upTo_gt l0 _ n hn, left_safe keep 0 hs]
      intro i
      rcases left_or keep (upTo (n - wrs l0) (phL p)) 0 (l0.foldl upF f) i with h | ⟨e, he, h1, h2, h3⟩
      · exact .inl h
      · refine .inr ⟨e, ?_, h1, h2, h3⟩
        have he' : e ∈ p.1 ++ [p.2] := upTo_mem _ _ e he
        rcases List.mem_append.1 he' with h4 | h4
        · exact h4
        · obtain rfl : e = p.2 := by simpa using h4
          rw [hsy] at h1
          cases h1
    · refine .inr ?_
      have hs2 : SafeL (l0 ++ phL p) := .inr ⟨l0 ++ p.1, p.2, by unfold phL; rw [List.append_assoc], hsy⟩
      have ih := cut_phases keep ps (l0 ++ phL p) f n hs2 (fun q hq => hp q (List.mem_cons_of_mem _ hq)) (by omega)
      have e1 : (l0 ++ phL p).foldl upF f = p.1.foldl upF (l0.foldl upF f) := by
        rw [List.foldl_append]
        unfold phL
        exact fold_snoc_sync p.1 p.2 hsy _
      rw [e1] at ih
      exact ih

/-- A device's bytes. -/
def byOf (C : Nat → Nat → Nat) (k : Nat) : Nat := C (k / 64) (k % 64)

/-- All that power leaves of phases, as bytes: each byte is what it was, or what a write has left there. -/
theorem torn_byte {base C : Nat → Nat → Nat} {ws : List AE} (h : TornBy base ws C) (k : Nat) : byOf C k = byOf base k ∨ ∃ e ∈ ws, e.sync = false ∧ e.i = k / 64 ∧ byOf C k = e.b (k % 64) := by
  unfold byOf
  rcases h (k / 64) with h1 | ⟨e, he, h1, h2, h3⟩
  · exact .inl (by rw [h1])
  · exact .inr ⟨e, he, h1, h2, by rw [h3]⟩
end Go.Proofs.YtoiaclmfljoomaaDoor

/- A device of a call's own: all that it hangs on was made since; step by step. -/
namespace Go.Proofs.YtoiaclmfljoomaaDoor
open Go.ChangeShapes Go.WideShapes Go.ChangeAt Go.RowKit
set_option linter.unusedVariables false

/-- At p there is a device of the call's own (the call began in w0, B blocks being there). -/
structure In (D : DevRep) (B : Nat) (w0 w : World) (p : Nat) (s : DS) (c m : Nat) (F : Nat → Prop) : Prop where
  dev : Dev D w p s c m F
  base : ∀ k, F k → B ≤ k
  cb : B ≤ c
  below : Below B w0 w
  sz : B ≤ w.heap.size

variable {D : DevRep} {B : Nat} {w0 w w' : World} {p c m : Nat} {s : DS} {F : Nat → Prop}

theorem In.lt (h : In D B w0 w p s c m F) (hD : DevOk D) (k : Nat) (hk : F k) : k < w.heap.size := hD.lt h.dev.1 k hk
theorem In.clt (h : In D B w0 w p s c m F) (hD : DevOk D) : c < w.heap.size := hD.clt h.dev.2.1

/-- Whatever is only new. -/
theorem In.next (h : In D B w0 w p s c m F) (hD : DevOk D) (hb : Below w.heap.size w w') : In D B w0 w' p s c m F :=
  ⟨h.dev.below hD hb (Nat.le_refl _), h.base, h.cb, h.below.trans (hb.mono h.sz), Nat.le_trans h.sz hb.size⟩

theorem In.alloc (h : In D B w0 w p s c m F) (hD : DevOk D) (o : Obj) : In D B w0 (w.alloc o) p s c m F := h.next hD ((Below.refl _ _).alloc (Nat.le_refl _) o)

/-- What another one of the call's own may turn. -/
theorem In.only (h : In D B w0 w p s c m F) (hD : DevOk D) {G : Nat → Prop} (hb : Only G w w') (hF : ∀ k, F k → ¬ G k) (hc : ¬ G c) (hG : ∀ k, G k → B ≤ k) : In D B w0 w' p s c m F :=
  ⟨h.dev.only hD hb hF hc, h.base, h.cb, h.below.trans (hb.below hG h.sz), Nat.le_trans h.sz hb.size⟩

theorem In.grew (h : In D B w0 w p s c m F) {G F' : Nat → Prop} {s' : DS} {m' : Nat} (hb : Only G w w') (hG : ∀ k, G k → F k ∨ k = c) (hg : Grew w F F') (hd : Dev D w' p s' c m' F') : In D B w0 w' p s' c m' F' :=
  ⟨hd, fun k hk => (hg k hk).elim (h.base k) (fun h1 => Nat.le_trans h.sz h1), h.cb, h.below.trans (hb.below (fun k hk => (hG k hk).elim (h.base k) (fun h1 => h1 ▸ h.cb)) h.sz), Nat.le_trans h.sz hb.size⟩

/-- Memory that was there is no part of it. -/
theorem In.apart (h : In D B w0 w p s c m F) {a : Option Addr} (ha : True) : apartOf F c a := trivial

/-- Nor is memory that is newer. -/
theorem In.apartNew (h : In D B w0 w p s c m F) (hD : DevOk D) {a : Option Addr} (ha : ∀ b o, a = some ⟨b, o, none⟩ → w.heap.size ≤ b) : apartOf F c a := trivial

theorem in_new (hD : DevOk D) (n : Nat) (h1 : 1 ≤ n) (h2 : n ≤ 2048) (hb : Below B w0 w) (hs : B ≤ w.heap.size) : Calls Tryd.prog 10 #[.int .i64 (n : Nat)] w fun e w' => ∃ p c F, e = .returned (.tuple #[ptr p, .int .i64 0]) ∧ In D B w0 w' p (fresh n) c 0 F ∧ Below w.heap.size w w' ∧ (∀ k, F k → w.heap.size ≤ k) ∧ w.heap.size ≤ c := by
  refine (hD.new n w h1 h2).mono ?_
  rintro e w' ⟨p, c, F, rfl, hd, hF, hc, hb'⟩
  exact ⟨p, c, F, rfl, ⟨hd, fun k hk => Nat.le_trans hs (hF k hk), Nat.le_trans hs hc, hb.trans (hb'.mono hs), Nat.le_trans hs hb'.size⟩, hb', hF, hc⟩

/-- The state, the clock behind a write. -/
def wrS (s : DS) (i : Int) (b : Nat → Nat) (L m : Nat) : DS := if wrErr s i L = 0 then wroteD s i.toNat (full b L) (m + 1) else s
def tpS (s : DS) (i : Int) (b : Nat → Nat) (L m : Nat) : DS := if wrErr s i L = 0 then tampD s i.toNat (full b L) (m + 1) else s
def wrM (s : DS) (i : Int) (L m : Nat) : Nat := if wrErr s i L = 0 then m + 1 else m
def syS (s : DS) (m : Nat) : DS := if s.dead then s else syncD s m
def spS (s : DS) (i : Int) : DS := if s.dead = false ∧ 0 ≤ i ∧ i < s.n then spoilD s i.toNat else s

theorem in_write (hD : DevOk D) (h : In D B w0 w p s c m F) (i : Int) (a : Option Addr) (L cap : Nat) (b : Nat → Nat) (hi : i64ok i) (hm : m ≤ 100000) (hl : s.log.length ≤ 100000) (hc : L ≤ cap) (hL : L ≤ maxLen) (hn : a = none → L = 0 ∧ cap = 0) (hb : Bytes w a L b) (hb2 : ∀ j, b j < 256) (hap : L = 0 ∨ apartOf F c a) :
    Calls Tryd.prog 39 #[ptr p, .int .i64 i, .slice a L cap] w fun e w' => e = .returned (.int .i64 (wrErr s i L)) ∧ Only (fun k => F k ∨ k = c) w w' ∧ ∃ F', Grew w F F' ∧ In D B w0 w' p (wrS s i b L m) c (wrM s i L m) F' := by
  refine (hD.write w p s c m F i a L cap b h.dev hi hm hl hc hL hn hb hb2 hap).mono ?_
  rintro e w' ⟨rfl, (⟨he, hbl⟩ | ⟨he, ho, F', hg, hd⟩)⟩
  · refine ⟨rfl, Only.of_below hbl (Nat.le_refl _), F, fun k hk => .inl hk, ?_⟩
    unfold wrS wrM
    rw [if_neg he, if_neg he]
    exact h.next hD hbl
  · refine ⟨rfl, ho, F', hg, ?_⟩
    unfold wrS wrM
    rw [if_pos he, if_pos he]
    exact h.grew ho (fun _ hk => hk) hg hd


theorem in_sync (hD : DevOk D) (h : In D B w0 w p s c m F) (hm : m ≤ 100000) (hl : s.log.length ≤ 100000) :
    Calls Tryd.prog 71 #[ptr p] w fun e w' => e = .returned (.int .i64 (if s.dead then 73 else 0)) ∧ Only F w w' ∧ ∃ F', Grew w F F' ∧ In D B w0 w' p (syS s m) c m F' := by
  refine (hD.sync w p s c m F h.dev hm hl).mono ?_
  rintro e w' ⟨rfl, (⟨he, hbl⟩ | ⟨he, ho, F', hg, hd⟩)⟩
  · refine ⟨rfl, Only.of_below hbl (Nat.le_refl _), F, fun k hk => .inl hk, ?_⟩
    unfold syS
    rw [if_pos he]
    exact h.next hD hbl
  · refine ⟨rfl, ho, F', hg, ?_⟩
    unfold syS
    rw [if_neg (by rw [he]; simp)]
    exact h.grew ho (fun _ hk => .inl hk) hg hd

theorem in_spoil (hD : DevOk D) (h : In D B w0 w p s c m F) (i : Int) (hi : i64ok i) :
    Calls Tryd.prog 22 #[ptr p, .int .i64 i] w fun e w' => e = .returned (.tuple #[]) ∧ Only F w w' ∧ ∃ F', Grew w F F' ∧ In D B w0 w' p (spS s i) c m F' := by
  refine (hD.spoil w p s c m F i h.dev hi).mono ?_
  rintro e w' ⟨rfl, (⟨he, hbl⟩ | ⟨he, ho, F', hg, hd⟩)⟩
  · refine ⟨rfl, Only.of_below hbl (Nat.le_refl _), F, fun k hk => .inl hk, ?_⟩
    unfold spS
    rw [if_neg he]
    exact h.next hD hbl
  · refine ⟨rfl, ho, F', hg, ?_⟩
    unfold spS
    rw [if_pos he]
    exact h.grew ho (fun _ hk => .inl hk) hg hd

theorem in_kill (hD : DevOk D) (h : In D B w0 w p s c m F) :
    Calls Tryd.prog 21 #[ptr p] w fun e w' => e = .returned (.tuple #[]) ∧ Only F w w' ∧ ∃ F', Grew w F F' ∧ In D B w0 w' p (killD s) c m F' := by
  refine (hD.kill w p s c m F h.dev).mono ?_
  rintro e w' ⟨rfl, ho, F', hg, hd⟩
  exact ⟨rfl, ho, F', hg, h.grew ho (fun _ hk => .inl hk) hg hd⟩

theorem in_read (hD : DevOk D) (h : In D B w0 w p s c m F) (i : Int) (hi : i64ok i) :
    Calls Tryd.prog 69 #[ptr p, .int .i64 i] w fun e w' => Below w.heap.size w w' ∧ In D B w0 w' p s c m F ∧ ∃ v, e = .returned (.tuple #[v, .int .i64 (rdErr s i)]) ∧ ((rdErr s i ≠ 0 ∧ NoSec v) ∨ (rdErr s i = 0 ∧ NewSec w w' v (holds s i.toNat))) := by
  refine (hD.read w p s c m F i h.dev hi).mono ?_
  rintro e w' ⟨hb, v, rfl, hv⟩
  exact ⟨hb, h.next hD hb, v, rfl, hv⟩

theorem in_cut (hD : DevOk D) (h : In D B w0 w p s c m F) (a : Option Addr) (L cap : Nat) (k : Nat → Bool) (hl : s.log.length ≤ 100000) (hL : L ≤ maxLen) (hc : L ≤ cap) (hk : Bools w a L k) :
    Calls Tryd.prog 18 #[ptr p, .slice a L cap] w fun e w' => Below w.heap.size w w' ∧ In D B w0 w' p s c m F ∧ ∃ p' c' F', e = .returned (ptr p') ∧ In D B w0 w' p' (cutD s (keepOf k L)) c' 0 F' ∧ Grew w F F' ∧ w.heap.size ≤ c' := by
  refine (hD.cut w p s c m F a L cap k h.dev hl hL hc hk).mono ?_
  rintro e w' ⟨hb, p', c', F', rfl, hg, hc', hd⟩
  exact ⟨hb, h.next hD hb, p', c', F', rfl, ⟨hd, fun k hk => (hg k hk).elim (h.base k) (fun h1 => Nat.le_trans h.sz h1), Nat.le_trans h.sz hc', h.below.trans (hb.mono h.sz), Nat.le_trans h.sz hb.size⟩, hg, hc'⟩

/-- A call that only tells. -/
theorem in_tells {f : FuncId} {args : Array Value} {v : Value} (hD : DevOk D) (h : In D B w0 w p s c m F) (hc : Calls Tryd.prog f args w fun e w' => e = .returned v ∧ Below w.heap.size w w') : Calls Tryd.prog f args w fun e w' => e = .returned v ∧ Below w.heap.size w w' ∧ In D B w0 w' p s c m F :=
  hc.mono fun e w' h' => ⟨h'.1, h'.2, h.next hD h'.2⟩

theorem wrS_len (s : DS) (i : Int) (b : Nat → Nat) (L m : Nat) : (wrS s i b L m).log.length ≤ s.log.length + 1 := by
  unfold wrS
  split
  · simp [wroteD, addD]
  · omega

theorem tpS_len (s : DS) (i : Int) (b : Nat → Nat) (L m : Nat) : (tpS s i b L m).log.length ≤ s.log.length + 1 := by
  unfold tpS
  split
  · simp [tampD, addD]
  · omega

theorem syS_len (s : DS) (m : Nat) : (syS s m).log.length ≤ s.log.length + 1 := by
  unfold syS
  split
  · omega
  · simp [syncD, addD]

theorem wrM_le (s : DS) (i : Int) (L m : Nat) : wrM s i L m ≤ m + 1 := by
  unfold wrM
  split <;> omega

theorem In.congr (h : In D B w0 w p s c m F) {s' : DS} {m' : Nat} (hs : s = s') (hm : m = m') : In D B w0 w p s' c m' F := by subst hs hm; exact h
end Go.Proofs.YtoiaclmfljoomaaDoor

/- What the other calls of device are to answer: Size, Bad, Moment, CutAt, CutMoment. -/
namespace Go.Proofs.YtoiaclmfljoomaaDoor
open Go.ChangeShapes Go.WideShapes Go.ChangeAt Go.RowKit
set_option linter.unusedVariables false

/-- What is asked of the others. -/
structure DevMore (D : DevRep) : Prop where
  size : ∀ (w : World) (p : Nat) (s : DS) (c m : Nat) (F : Nat → Prop), Dev D w p s c m F → Calls Tryd.prog 37 #[ptr p] w fun e w' => e = .returned (.int .i64 (s.n : Nat)) ∧ Below w.heap.size w w'
  isBad : ∀ (w : World) (p : Nat) (s : DS) (c m : Nat) (F : Nat → Prop) (i : Int), Dev D w p s c m F → i64ok i → Calls Tryd.prog 20 #[ptr p, .int .i64 i] w fun e w' => e = .returned (.bool (decide (0 ≤ i ∧ i < s.n) && s.bad i.toNat)) ∧ Below w.heap.size w w'

variable {D : DevRep} {B : Nat} {w0 w w' : World} {p c m : Nat} {s : DS} {F : Nat → Prop}


end Go.Proofs.YtoiaclmfljoomaaDoor
