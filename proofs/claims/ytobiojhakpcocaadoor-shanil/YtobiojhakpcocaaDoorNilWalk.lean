/- The walk of ShaNil: a hash that is nil takes nothing in, and tells noughts. -/
import Derived.Test.YtobiojhakpcocaaDoorShaEq
namespace Go.Proofs.YtobiojhakpcocaaDoor
open Go.ChangeShapes Go.WideShapes Go.ChangeAt Go.RowKit

theorem noughts (w : World) : (Op.equalIn 10000 23 (.agg (cellsN .u8 32 fun _ => 0)) (.agg #[Value.int .u8 0, Value.int .u8 0, Value.int .u8 0, Value.int .u8 0, Value.int .u8 0, Value.int .u8 0, Value.int .u8 0, Value.int .u8 0, Value.int .u8 0, Value.int .u8 0, Value.int .u8 0, Value.int .u8 0, Value.int .u8 0, Value.int .u8 0, Value.int .u8 0, Value.int .u8 0, Value.int .u8 0, Value.int .u8 0, Value.int .u8 0, Value.int .u8 0, Value.int .u8 0, Value.int .u8 0, Value.int .u8 0, Value.int .u8 0, Value.int .u8 0, Value.int .u8 0, Value.int .u8 0, Value.int .u8 0, Value.int .u8 0, Value.int .u8 0, Value.int .u8 0, Value.int .u8 0])).run Tryd.prog w = .ok true w :=
  eq_digest (fun _ => 0) w (fun _ _ => by show 0 < 256; decide)

theorem nil_walk (a : Option Addr) (len cap : Nat) (w : World) (hG : Glob Hc Kc w) :
    Calls Tryd.prog 5 #[.slice a len cap] w fun e w' => e = .returned (.bool true) ∧ Below w.heap.size w w' := by
  have hw := write_nil (.slice a len cap) w
  have ha := alive_any w hG
  have hz := noughts
  go_enter Tryd.func5, Tryd.ntmps5
  go_wp2_with (first
    | ((go_at_call 12)
       (refine hw.mono ?_)
       (rintro e w' ⟨rfl, rfl⟩)
       (clear hw))
    | ((go_at_call 9)
       (refine ha.mono ?_)
       (rintro e w1 ⟨rfl, hb1⟩)
       (clear ha))
    | ((go_at_call 13)
       (refine (sum_nil w1).mono ?_)
       (rintro e w2 ⟨rfl, hb2⟩)))
  go_ret
  exact ⟨rfl, hb1.trans (hb2.mono hb1.size)⟩
end Go.Proofs.YtobiojhakpcocaaDoor
