/- cache: last. -/
import Derived.Test.YtancebpjfbbcaaaCcFence
import Derived.Test.YtancebpjfbbcaaaCcHas
namespace Go.Proofs.Ytancebpjfbbcaaa
open Go.ChangeShapes Go.WideShapes Go.ChangeAt Go.RowKit Go.MapKept
set_option linter.unusedVariables false

variable {w w' : World} {cb : Nat} {P : Nat → Nat} {dv kv : Value} {o : GV} {ks : List GV} {GO GK : Nat → Prop}

theorem results_cell2 {fn : Func} {p q : Tmp} {ty : TypeId} (h : fn.results = #[.cell p ty, .cell q 4]) (tmps : Array Value) (w : World) (g g2 : Nat) (t : TypeId) (cs : Array Value) (fr : Nat × Nat) (fs : Array Field) (b : Bool)
    (hp : tmps.getD p undef = .pointer (some ⟨g, 0, none⟩)) (hg : w.heap[g]? = some (.cells cs t fr))
    (hu : Try.prog.underlying ty = some (.struct fs)) (hi : (Try.prog.info? ty).map (·.size) = some cs.size) (hq : tmps.getD q undef = .pointer (some ⟨g2, 0, none⟩)) (hb : w.cell? ⟨g2, 0, none⟩ = some (.bool b)) :
    (results fn tmps).run Try.prog w = .ok (.tuple #[.agg cs, .bool b]) w := by
  have hp' : tmps[p]?.getD undef = .pointer (some ⟨g, 0, none⟩) := by simpa using hp
  have hq' : tmps[q]?.getD undef = .pointer (some ⟨g2, 0, none⟩) := by simpa using hq
  have hr := run_loadVar_row (P := Try.prog) w g t ty cs fr _ hg hu rfl hi
  simp only [results, h]
  simp [hp', hq', asAddr, hr, Result.andThen]
  go_simp

end Go.Proofs.Ytancebpjfbbcaaa
