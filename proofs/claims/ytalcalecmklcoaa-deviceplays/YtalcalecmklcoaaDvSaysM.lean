/- What the other calls of device are to answer: Size, Bad, Moment, CutAt, CutMoment. -/
import Derived.Test.YtalcalecmklcoaaDvIn
namespace Go.Proofs.Ytalcalecmklcoaa
open Go.ChangeShapes Go.WideShapes Go.ChangeAt Go.RowKit
set_option linter.unusedVariables false

/-- What is asked of the others. -/
structure DevMore (D : DevRep) : Prop where
  size : ∀ (w : World) (p : Nat) (s : DS) (c m : Nat) (F : Nat → Prop), Dev D w p s c m F → Calls Try.prog 35 #[ptr p] w fun e w' => e = .returned (.int .i64 (s.n : Nat)) ∧ Below w.heap.size w w'
  isBad : ∀ (w : World) (p : Nat) (s : DS) (c m : Nat) (F : Nat → Prop) (i : Int), Dev D w p s c m F → i64ok i → Calls Try.prog 37 #[ptr p, .int .i64 i] w fun e w' => e = .returned (.bool (decide (0 ≤ i ∧ i < s.n) && s.bad i.toNat)) ∧ Below w.heap.size w w'
  moment : ∀ (w : World) (p : Nat) (s : DS) (c m : Nat) (F : Nat → Prop), Dev D w p s c m F → Calls Try.prog 38 #[ptr p] w fun e w' => e = .returned (.int .i64 (m : Nat)) ∧ Below w.heap.size w w'
  cutAt : ∀ (w : World) (p : Nat) (s : DS) (c m : Nat) (F : Nat → Prop) (i : Int) (a : Option Addr) (L cap : Nat) (k : Nat → Bool), Dev D w p s c m F → i64ok i → s.log.length ≤ 100000 → L ≤ maxLen → L ≤ cap → Bools w a L k →
    Calls Try.prog 27 #[ptr p, .int .i64 i, .slice a L cap] w fun e w' => Below w.heap.size w w' ∧ ∃ p' c' F', e = .returned (ptr p') ∧ Grew w F F' ∧ w.heap.size ≤ c' ∧ Dev D w' p' (cutAtD s i (keepOf k L)) c' 0 F'
  cutMo : ∀ (w : World) (p : Nat) (s : DS) (c m : Nat) (F : Nat → Prop) (i : Int) (a : Option Addr) (L cap : Nat) (k : Nat → Bool), Dev D w p s c m F → i64ok i → m ≤ 100000 → s.log.length ≤ 100000 → L ≤ maxLen → L ≤ cap → Bools w a L k →
    Calls Try.prog 29 #[ptr p, .int .i64 i, .slice a L cap] w fun e w' => Below w.heap.size w w' ∧ ∃ p' c' F', e = .returned (ptr p') ∧ Grew w F F' ∧ w.heap.size ≤ c' ∧ Dev D w' p' (cutMoD s m i (keepOf k L)) c' 0 F'

variable {D : DevRep} {B : Nat} {w0 w w' : World} {p c m : Nat} {s : DS} {F : Nat → Prop}

theorem in_cutAt (hD : DevOk D) (hM : DevMore D) (h : In D B w0 w p s c m F) (i : Int) (a : Option Addr) (L cap : Nat) (k : Nat → Bool) (hi : i64ok i) (hl : s.log.length ≤ 100000) (hL : L ≤ maxLen) (hc : L ≤ cap) (hk : Bools w a L k) :
    Calls Try.prog 27 #[ptr p, .int .i64 i, .slice a L cap] w fun e w' => Below w.heap.size w w' ∧ In D B w0 w' p s c m F ∧ ∃ p' c' F', e = .returned (ptr p') ∧ In D B w0 w' p' (cutAtD s i (keepOf k L)) c' 0 F' ∧ Grew w F F' ∧ w.heap.size ≤ c' := by
  refine (hM.cutAt w p s c m F i a L cap k h.dev hi hl hL hc hk).mono ?_
  rintro e w' ⟨hb, p', c', F', rfl, hg, hc', hd⟩
  exact ⟨hb, h.next hD hb, p', c', F', rfl, ⟨hd, fun k hk => (hg k hk).elim (h.base k) (fun h1 => Nat.le_trans h.sz h1), Nat.le_trans h.sz hc', h.below.trans (hb.mono h.sz), Nat.le_trans h.sz hb.size⟩, hg, hc'⟩

theorem in_cutMo (hD : DevOk D) (hM : DevMore D) (h : In D B w0 w p s c m F) (i : Int) (a : Option Addr) (L cap : Nat) (k : Nat → Bool) (hi : i64ok i) (hm : m ≤ 100000) (hl : s.log.length ≤ 100000) (hL : L ≤ maxLen) (hc : L ≤ cap) (hk : Bools w a L k) :
    Calls Try.prog 29 #[ptr p, .int .i64 i, .slice a L cap] w fun e w' => Below w.heap.size w w' ∧ In D B w0 w' p s c m F ∧ ∃ p' c' F', e = .returned (ptr p') ∧ In D B w0 w' p' (cutMoD s m i (keepOf k L)) c' 0 F' ∧ Grew w F F' ∧ w.heap.size ≤ c' := by
  refine (hM.cutMo w p s c m F i a L cap k h.dev hi hm hl hL hc hk).mono ?_
  rintro e w' ⟨hb, p', c', F', rfl, hg, hc', hd⟩
  exact ⟨hb, h.next hD hb, p', c', F', rfl, ⟨hd, fun k hk => (hg k hk).elim (h.base k) (fun h1 => Nat.le_trans h.sz h1), Nat.le_trans h.sz hc', h.below.trans (hb.mono h.sz), Nat.le_trans h.sz hb.size⟩, hg, hc'⟩
end Go.Proofs.Ytalcalecmklcoaa
