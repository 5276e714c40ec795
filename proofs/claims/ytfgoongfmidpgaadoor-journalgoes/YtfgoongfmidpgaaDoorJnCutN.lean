/- What a cut leaves is new. -/
import Derived.Test.YtfgoongfmidpgaaDoorJoint12
import Derived.Test.YtfgoongfmidpgaaDoorJoint02
namespace Go.Proofs.YtfgoongfmidpgaaDoor
open Go.ChangeShapes Go.WideShapes Go.ChangeAt Go.RowKit
set_option linter.unusedVariables false

/-- A cut's device lies in new memory alone. -/
def DevCutN (D : DevRep) : Prop := ∀ (w : World) (p : Nat) (s : DS) (c m : Nat) (F : Nat → Prop) (a : Option Addr) (L cap : Nat) (k : Nat → Bool), Dev D w p s c m F → s.log.length ≤ 100000 → L ≤ maxLen → L ≤ cap → Bools w a L k →
    Calls Tryd.prog 17 #[ptr p, .slice a L cap] w fun e w' => Below w.heap.size w w' ∧ ∃ p' c' F', e = .returned (ptr p') ∧ (∀ k, F' k → w.heap.size ≤ k) ∧ w.heap.size ≤ c' ∧ Dev D w' p' (cutD s (keepOf k L)) c' 0 F'

theorem theCutN : DevCutN theRep := by
  rintro w p s c m F a L cap k ⟨⟨bb, bs, bc, vw, vs, h, hF⟩, hc, hcF, hp⟩ hl hL hLc hk
  refine (cut_r h a L cap k hk hl).mono fun e w' hpost => ?_
  obtain ⟨h1, p', c', F', h2, h3, h4, h5⟩ := dev_of_left (F := fun _ => False) rfl hpost
  exact ⟨h1, p', c', F', h2, fun q hq => (h3 q hq).elim (fun h9 => h9.elim) id, h4, h5⟩

theorem in_cutN {D : DevRep} {B : Nat} {w0 w : World} {p c m : Nat} {s : DS} {F : Nat → Prop} (hD : DevOk D) (hN : DevCutN D) (h : In D B w0 w p s c m F) (a : Option Addr) (L cap : Nat) (k : Nat → Bool) (hl : s.log.length ≤ 100000) (hL : L ≤ maxLen) (hc : L ≤ cap) (hk : Bools w a L k) :
    Calls Tryd.prog 17 #[ptr p, .slice a L cap] w fun e w' => Below w.heap.size w w' ∧ In D B w0 w' p s c m F ∧ ∃ p' c' F', e = .returned (ptr p') ∧ In D B w0 w' p' (cutD s (keepOf k L)) c' 0 F' ∧ (∀ k, F' k → w.heap.size ≤ k) ∧ w.heap.size ≤ c' := by
  refine (hN w p s c m F a L cap k h.dev hl hL hc hk).mono ?_
  rintro e w' ⟨hb, p', c', F', rfl, hg, hc', hd⟩
  exact ⟨hb, h.next hD hb, p', c', F', rfl, ⟨hd, fun k hk => Nat.le_trans h.sz (hg k hk), Nat.le_trans h.sz hc', h.below.trans (hb.mono h.sz), Nat.le_trans h.sz hb.size⟩, hg, hc'⟩
end Go.Proofs.YtfgoongfmidpgaaDoor
