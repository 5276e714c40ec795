/- A Shown that came in, for stage 6. -/
import Derived.Test.YtoeanaadlihkeaaDoorMkOpen
namespace Go.Proofs.YtoeanaadlihkeaaDoor
open Go.ChangeShapes Go.WideShapes Go.ChangeAt Go.RowKit
set_option linter.unusedVariables false

def Showd (W : World) (TX : Array Value) (sn si : Int) (xa : Option Addr) (xl xc : Nat) (xz : List Int) (pa : Option Addr) (pn pc : Nat) (A : Nat → Option Addr) (Lp Cp : Nat → Nat) (M : Nat → Nat → Nat) (ra : Option Addr) (rl rc : Nat) (rz : List Int) : Prop :=
  TX = #[.int .i64 sn, .int .i64 si, .slice xa xl xc, .slice pa pn pc, .slice ra rl rc] ∧ (Lit.int .i64 sn).wf = true ∧ (Lit.int .i64 si).wf = true ∧ IsRow .u8 W xa xl xc xz ∧ pn ≤ maxLen ∧ Pieces W pa pn A Lp Cp M ∧ IsRow .u8 W ra rl rc rz

theorem array5 {α : Type} {cs : Array α} (h : cs.size = 5) : ∃ c0 c1 c2 c3 c4, cs = #[c0, c1, c2, c3, c4] := by
  obtain ⟨l⟩ := cs
  match l, h with
  | [a, b, c, d, e], _ => exact ⟨a, b, c, d, e, rfl⟩

theorem trod_struct5 {H : Type} {enc : TypeId × Value → H} {P : Program} {w : World} {base : Nat} {spare : Nat → Bool} {held : Bool} {t : TypeId} {f0 f1 f2 f3 f4 : Field} {fuel : Nat} {cs : List Value} {x : DataW H × List MemPlace} (ht : P.underlying t = some (.struct #[f0, f1, f2, f3, f4])) (h : DataW.trod enc P w base spare held fuel t cs = some x) :
    ∃ y0 y1 y2 y3 y4 n, DataW.trod enc P w base spare held n f0.type ((cs.drop f0.offset).take (P.cellsOf f0.type)) = some y0 ∧ DataW.trod enc P w base spare held n f1.type ((cs.drop f1.offset).take (P.cellsOf f1.type)) = some y1 ∧
      DataW.trod enc P w base spare held n f2.type ((cs.drop f2.offset).take (P.cellsOf f2.type)) = some y2 ∧ DataW.trod enc P w base spare held n f3.type ((cs.drop f3.offset).take (P.cellsOf f3.type)) = some y3 ∧ DataW.trod enc P w base spare held n f4.type ((cs.drop f4.offset).take (P.cellsOf f4.type)) = some y4 := by
  obtain ⟨xs, n, _, rfl, hl, hlen, hf⟩ := DataW.trod_struct ht h
  match xs, hlen with
  | [y0, y1, y2, y3, y4], _ => exact ⟨y0, y1, y2, y3, y4, n, by simpa using hf 0 f0 rfl, by simpa using hf 1 f1 rfl, by simpa using hf 2 f2 rfl, by simpa using hf 3 f3 rfl, by simpa using hf 4 f4 rfl⟩

theorem open_shown {H : Type} {enc : TypeId × Value → H} {W : World} {fuel : Nat} {cs : Array Value} {y : DataW H × List MemPlace} (hs : cs.size = 5) (hf : DataW.trod enc Tryd.prog W 0 (fun _ => true) true fuel 36 cs.toList = some y) :
    ∃ sn si xa xl xc xz pa pn pc A Lp Cp M ra rl rc rz, Showd W cs sn si xa xl xc xz pa pn pc A Lp Cp M ra rl rc rz := by
  obtain ⟨v0, v1, v2, v3, v4, rfl⟩ := array5 hs
  obtain ⟨y0, y1, y2, y3, y4, n, h0, h1, h2, h3, h4⟩ := trod_struct5 Tryd.underlying36 hf
  have e0 : DataW.trod enc Tryd.prog W 0 (fun _ => true) true n 3 [v0] = some y0 := h0
  have e1 : DataW.trod enc Tryd.prog W 0 (fun _ => true) true n 3 [v1] = some y1 := h1
  have e2 : DataW.trod enc Tryd.prog W 0 (fun _ => true) true n 27 [v2] = some y2 := h2
  have e3 : DataW.trod enc Tryd.prog W 0 (fun _ => true) true n 34 [v3] = some y3 := h3
  have e4 : DataW.trod enc Tryd.prog W 0 (fun _ => true) true n 27 [v4] = some y4 := h4
  obtain ⟨sn, s1, _, s2⟩ := DataW.trod_int Tryd.underlying3 e0
  simp only [List.cons.injEq, and_true] at s1
  obtain ⟨si, s3, _, s4⟩ := DataW.trod_int Tryd.underlying3 e1
  simp only [List.cons.injEq, and_true] at s3
  obtain ⟨xa, xl, xc, xz, rfl, hx⟩ := any_row e2
  obtain ⟨pa, pn, pc, rfl⟩ := any_rows e3
  obtain ⟨hpn, A, Lp, Cp, M, hP⟩ := rows_of_trod Tryd.underlying34 (by kernel_rfl) (by kernel_rfl) e3
  obtain ⟨ra, rl, rc, rz, rfl, hr⟩ := any_row e4
  subst s1 s3
  exact ⟨sn, si, xa, xl, xc, xz, pa, pn, pc, A, Lp, Cp, M, ra, rl, rc, rz, rfl, s2, s4, hx, hpn, hP, hr⟩
end Go.Proofs.YtoeanaadlihkeaaDoor
