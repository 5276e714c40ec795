/- What the calls of device are to answer: as words about a device in memory, whatever it is made of. -/
import Derived.Test.YtancebpjfbbcaaaBas
import Derived.Test.YtancebpjfbbcaaaDvMath
namespace Go.Proofs.Ytancebpjfbbcaaa
open Go.ChangeShapes Go.WideShapes Go.ChangeAt Go.RowKit
set_option linter.unusedVariables false

/-- But for the blocks F all that was there is as it was. -/
structure Only (F : Nat → Prop) (w w' : World) : Prop where
  os : w'.os = w.os
  tape : w'.tape = w.tape
  output : w'.output = w.output
  size : w.heap.size ≤ w'.heap.size
  block : ∀ k, k < w.heap.size → ¬ F k → w'.heap[k]? = w.heap[k]?

theorem Only.refl (F : Nat → Prop) (w : World) : Only F w w := ⟨rfl, rfl, rfl, Nat.le_refl _, fun _ _ _ => rfl⟩
theorem Only.of_below {F : Nat → Prop} {w w' : World} {B : Nat} (h : Below B w w') (hB : w.heap.size ≤ B) : Only F w w' := ⟨h.os, h.tape, h.output, h.size, fun k hk _ => h.block k (by omega)⟩
theorem Only.below {F : Nat → Prop} {w w' : World} {B : Nat} (h : Only F w w') (hF : ∀ k, F k → B ≤ k) (hB : B ≤ w.heap.size) : Below B w w' := ⟨h.os, h.tape, h.output, h.size, fun k hk => h.block k (by omega) (fun hf => by have := hF k hf; omega)⟩
theorem Only.mono {F G : Nat → Prop} {w w' : World} (h : Only F w w') (hFG : ∀ k, F k → G k) : Only G w w' := ⟨h.os, h.tape, h.output, h.size, fun k hk hn => h.block k hk (fun hf => hn (hFG k hf))⟩
/-- One behind the other; what is new in between is free. -/
theorem Only.trans {F G : Nat → Prop} {a b c : World} (h : Only F a b) (k : Only G b c) (hG : ∀ x, x < a.heap.size → G x → F x) : Only F a c := ⟨k.os.trans h.os, k.tape.trans h.tape, k.output.trans h.output, Nat.le_trans h.size k.size, fun x hx hn => (k.block x (Nat.lt_of_lt_of_le hx h.size) (fun hg => hn (hG x hx hg))).trans (h.block x hx hn)⟩
theorem Only.cell {F : Nat → Prop} {w w' : World} (h : Only F w w') {p : Addr} (hp : p.block < w.heap.size) (hn : ¬ F p.block) : w'.cell? p = w.cell? p := World.cell?_of_block (h.block p.block hp hn)

def i64ok (n : Int) : Prop := -9223372036854775808 ≤ n ∧ n ≤ 9223372036854775807

/-- A slice of bools. -/
def Bools (w : World) (a : Option Addr) (len : Nat) (m : Nat → Bool) : Prop := len = 0 ∨ ∃ b off, a = some ⟨b, off, none⟩ ∧ b < w.heap.size ∧ ∀ j, j < len → w.cell? ⟨b, off + j, none⟩ = some (.bool (m j))

/-- A whole sector in new memory. -/
def NewSec (w w' : World) (v : Value) (f : Nat → Nat) : Prop := ∃ g o c t cur, v = .slice (some ⟨g, o, none⟩) 64 c ∧ 64 ≤ c ∧ w.heap.size ≤ g ∧ w'.heap[g]? = some (.cells cur t (0, 0)) ∧ ∀ j, j < 64 → cur[o + j]? = some (.int .u8 (f j : Nat))

theorem NewSec.bytes {w w' : World} {v : Value} {f : Nat → Nat} (h : NewSec w w' v f) : ∃ g o c, v = .slice (some ⟨g, o, none⟩) 64 c ∧ 64 ≤ c ∧ w.heap.size ≤ g ∧ Bytes w' (some ⟨g, o, none⟩) 64 f := by
  obtain ⟨g, o, c, t, cur, rfl, hc, hg, hh, hv⟩ := h
  exact ⟨g, o, c, rfl, hc, hg, .inr ⟨g, o, rfl, (Array.getElem?_eq_some_iff.1 hh).1, fun j hj => by rw [← hv j hj]; simp [World.cell?, hh]⟩⟩

/-- Nothing. -/
def NoSec (v : Value) : Prop := ∃ a c, v = .slice a 0 c

/-- How a device lies in memory: R w p s c F: at p there is a device whose state is s, its clock is c, all else that it hangs on lies in the blocks F; C w c m: the clock c shows m. -/
structure DevRep where
  R : World → Nat → DS → Nat → (Nat → Prop) → Prop
  C : World → Nat → Nat → Prop

/-- No moment of what came lies ahead of the clock. -/
def Past (s : DS) (m : Nat) : Prop := ∀ e ∈ s.log, e.mo ≤ (m : Int)

/-- A device and its clock. -/
def Dev (D : DevRep) (w : World) (p : Nat) (s : DS) (c m : Nat) (F : Nat → Prop) : Prop := D.R w p s c F ∧ D.C w c m ∧ ¬ F c ∧ Past s m

abbrev ptr (p : Nat) : Value := .pointer (some ⟨p, 0, none⟩)

/-- The blocks of one that has grown. -/
def Grew (w : World) (F F' : Nat → Prop) : Prop := ∀ k, F' k → F k ∨ w.heap.size ≤ k

def apartOf (F : Nat → Prop) (c : Nat) (a : Option Addr) : Prop := True

/-- What is asked of the calls on a device. -/
structure DevOk (D : DevRep) : Prop where
  lt : ∀ {w p s c F}, D.R w p s c F → ∀ k, F k → k < w.heap.size
  clt : ∀ {w c m}, D.C w c m → c < w.heap.size
  kept : ∀ {w w' p s c F}, D.R w p s c F → w.heap.size ≤ w'.heap.size → (∀ k, F k → w'.heap[k]? = w.heap[k]?) → D.R w' p s c F
  ckept : ∀ {w w' c m}, D.C w c m → w'.heap[c]? = w.heap[c]? → D.C w' c m
  new : ∀ (n : Nat) (w : World), 1 ≤ n → n ≤ 2048 → Calls Try.prog 40 #[.int .i64 (n : Nat)] w fun e w' => ∃ p c F, e = .returned (.tuple #[ptr p, .int .i64 0]) ∧ Dev D w' p (fresh n) c 0 F ∧ (∀ k, F k → w.heap.size ≤ k) ∧ w.heap.size ≤ c ∧ Below w.heap.size w w'
  newNo : ∀ (n : Int) (w : World), i64ok n → ¬ (1 ≤ n ∧ n ≤ 2048) → Calls Try.prog 40 #[.int .i64 n] w fun e w' => e = .returned (.tuple #[.pointer none, .int .i64 1]) ∧ Below w.heap.size w w'
  write : ∀ (w : World) (p : Nat) (s : DS) (c m : Nat) (F : Nat → Prop) (i : Int) (a : Option Addr) (L cap : Nat) (b : Nat → Nat), Dev D w p s c m F → i64ok i → m ≤ 100000 → s.log.length ≤ 100000 → L ≤ cap → L ≤ maxLen → (a = none → L = 0 ∧ cap = 0) → Bytes w a L b → (∀ j, b j < 256) → (L = 0 ∨ apartOf F c a) →
    Calls Try.prog 26 #[ptr p, .int .i64 i, .slice a L cap] w fun e w' => e = .returned (.int .i64 (wrErr s i L)) ∧ ((wrErr s i L ≠ 0 ∧ Below w.heap.size w w') ∨ (wrErr s i L = 0 ∧ Only (fun k => F k ∨ k = c) w w' ∧ ∃ F', Grew w F F' ∧ Dev D w' p (wroteD s i.toNat (full b L) (m + 1)) c (m + 1) F'))
  sync : ∀ (w : World) (p : Nat) (s : DS) (c m : Nat) (F : Nat → Prop), Dev D w p s c m F → m ≤ 100000 → s.log.length ≤ 100000 →
    Calls Try.prog 51 #[ptr p] w fun e w' => e = .returned (.int .i64 (if s.dead then 73 else 0)) ∧ ((s.dead = true ∧ Below w.heap.size w w') ∨ (s.dead = false ∧ Only F w w' ∧ ∃ F', Grew w F F' ∧ Dev D w' p (syncD s m) c m F'))
  read : ∀ (w : World) (p : Nat) (s : DS) (c m : Nat) (F : Nat → Prop) (i : Int), Dev D w p s c m F → i64ok i →
    Calls Try.prog 34 #[ptr p, .int .i64 i] w fun e w' => Below w.heap.size w w' ∧ ∃ v, e = .returned (.tuple #[v, .int .i64 (rdErr s i)]) ∧ ((rdErr s i ≠ 0 ∧ NoSec v) ∨ (rdErr s i = 0 ∧ NewSec w w' v (holds s i.toNat)))
  spoil : ∀ (w : World) (p : Nat) (s : DS) (c m : Nat) (F : Nat → Prop) (i : Int), Dev D w p s c m F → i64ok i →
    Calls Try.prog 21 #[ptr p, .int .i64 i] w fun e w' => e = .returned (.tuple #[]) ∧ ((¬ (s.dead = false ∧ 0 ≤ i ∧ i < s.n) ∧ Below w.heap.size w w') ∨ ((s.dead = false ∧ 0 ≤ i ∧ i < s.n) ∧ Only F w w' ∧ ∃ F', Grew w F F' ∧ Dev D w' p (spoilD s i.toNat) c m F'))
  kill : ∀ (w : World) (p : Nat) (s : DS) (c m : Nat) (F : Nat → Prop), Dev D w p s c m F →
    Calls Try.prog 23 #[ptr p] w fun e w' => e = .returned (.tuple #[]) ∧ Only F w w' ∧ ∃ F', Grew w F F' ∧ Dev D w' p (killD s) c m F'
  tamper : ∀ (w : World) (p : Nat) (s : DS) (c m : Nat) (F : Nat → Prop) (i : Int) (a : Option Addr) (L cap : Nat) (b : Nat → Nat), Dev D w p s c m F → i64ok i → m ≤ 100000 → s.log.length ≤ 100000 → L ≤ cap → L ≤ maxLen → (a = none → L = 0 ∧ cap = 0) → Bytes w a L b → (∀ j, b j < 256) → (L = 0 ∨ apartOf F c a) →
    Calls Try.prog 24 #[ptr p, .int .i64 i, .slice a L cap] w fun e w' => e = .returned (.tuple #[]) ∧ ((wrErr s i L ≠ 0 ∧ Below w.heap.size w w') ∨ (wrErr s i L = 0 ∧ Only (fun k => F k ∨ k = c) w w' ∧ ∃ F', Grew w F F' ∧ Dev D w' p (tampD s i.toNat (full b L) (m + 1)) c (m + 1) F'))
  isDead : ∀ (w : World) (p : Nat) (s : DS) (c m : Nat) (F : Nat → Prop), Dev D w p s c m F → Calls Try.prog 44 #[ptr p] w fun e w' => e = .returned (.bool s.dead) ∧ Below w.heap.size w w'
  writes : ∀ (w : World) (p : Nat) (s : DS) (c m : Nat) (F : Nat → Prop), Dev D w p s c m F → s.log.length ≤ 100000 → Calls Try.prog 38 #[ptr p] w fun e w' => e = .returned (.int .i64 (wrs s.log : Nat)) ∧ Below w.heap.size w w'
  pending : ∀ (w : World) (p : Nat) (s : DS) (c m : Nat) (F : Nat → Prop), Dev D w p s c m F → s.log.length ≤ 100000 → Calls Try.prog 36 #[ptr p] w fun e w' => e = .returned (.int .i64 (pend s.log : Nat)) ∧ Below w.heap.size w w'

theorem Dev.below {D : DevRep} (hD : DevOk D) {w w' : World} {p c m B : Nat} {s : DS} {F : Nat → Prop} (h : Dev D w p s c m F) (hb : Below B w w') (hB : w.heap.size ≤ B) : Dev D w' p s c m F :=
  ⟨hD.kept h.1 hb.size (fun k hk => hb.block k (by have := hD.lt h.1 k hk; omega)), hD.ckept h.2.1 (hb.block c (by have := hD.clt h.2.1; omega)), h.2.2⟩

theorem Dev.only {D : DevRep} (hD : DevOk D) {w w' : World} {p c m : Nat} {s : DS} {F G : Nat → Prop} (h : Dev D w p s c m F) (hb : Only G w w') (hF : ∀ k, F k → ¬ G k) (hc : ¬ G c) : Dev D w' p s c m F :=
  ⟨hD.kept h.1 hb.size (fun k hk => hb.block k (hD.lt h.1 k hk) (hF k hk)), hD.ckept h.2.1 (hb.block c (hD.clt h.2.1) hc), h.2.2⟩
end Go.Proofs.Ytancebpjfbbcaaa
