/- The program's put and get, that give up by a panic; bytes.Clone. -/
import Derived.Test.YtbiicdehgogikaaCdNum
import Derived.Defers
import Derived.Recover
namespace Go.Proofs.Ytbiicdehgogikaa
open Go.ChangeShapes Go.WideShapes Go.ChangeAt Go.RowKit
set_option linter.unusedVariables false

/-- Only where the operation's slot is d. -/
theorem at_dst {ops : Array Oper} {rest : List Oper} {o : Oper} {a : Act} {w : World} {Q : Exit → Act → World → Prop} (d : Tmp) (h : o.dst = some d) (k : wpList Try.prog ops Q (o :: rest) a w) : wpList Try.prog ops Q (o :: rest) a w := k

/-- Only where the call's i-th argument is v. -/
theorem at_arg {f : FuncId} {args : Array Value} {w : World} {R : Ending → World → Prop} (i : Nat) (v : Value) (h : args[i]? = some v) (k : Calls Try.prog f args w R) : Calls Try.prog f args w R := k

/-- What gives up. -/
def ngp : List PanicEntry := [{ v := .iface 57 (.agg #[]), recovered := false }]

theorem conv_u64 (n : Nat) (h : n ≤ 9223372036854775807) (w : World) : (convert 3 47 (.int .i64 (n : Nat))).run Try.prog w = .ok (.int .u64 (n : Nat)) w := by
  have h1 : (0 : Int) ≤ (n : Int) := by omega
  have h2 : (n : Int) ≤ 9223372036854775807 := by omega
  generalize (n : Int) = x at h1 h2 ⊢
  go_simp
  have := IntWalk.u64_in x ⟨h1, by omega⟩
  simp [this]

theorem cput_ok (n s : Nat) (E : Int) (w : World) (h1 : 1 ≤ s) (h2 : s ≤ 8) (hn : (n : Int) < E) (hm : n ≤ 9223372036854775807) (hh : hold n s = true) :
    Calls Try.prog 37 #[.int .i64 (n : Nat), .int .i64 E, .int .i64 (s : Nat)] w fun e w' => e = .returned (.slice (some ⟨w.heap.size + 2, 0, none⟩) s s) ∧ w'.ownsRow (w.heap.size + 2) 5 1 (.slice (some ⟨w.heap.size + 2, 0, none⟩) s s) s (bl (nbs n s) s) ∧ Below w.heap.size w w' := by
  have hp := put_s s (n : Int) w h1 h2 hh
  have hc := conv_u64 n hm w
  have h0 : (0 : Int) ≤ (n : Int) := by omega
  go_enter Try.func37, Try.ntmps37
  go_wp2_with (first
    | ((go_at_call 35)
       (refine hp.mono ?_)
       (rintro e w1 ⟨rfl, ho, hb⟩)
       (clear hp)))
  go_ret
  exact ⟨rfl, ho, hb⟩

theorem cput_no (n E s : Int) (w : World) (h : n < 0 ∨ E ≤ n) :
    Calls Try.prog 37 #[.int .i64 n, .int .i64 E, .int .i64 s] w fun e w' => e = .panicked ngp ∧ w' = w := by
  by_cases h0 : n < 0
  · clear h
    go_enter Try.func37, Try.ntmps37
    go_wp2
    exact ⟨rfl, rfl, rfl⟩
  · have h1 : E ≤ n := by omega
    clear h
    go_enter Try.func37, Try.ntmps37
    go_wp2
    exact ⟨rfl, rfl, rfl⟩

theorem cget_ok {w : World} {a : Option Addr} {f : Nat → Nat} (s cap E : Nat) (h1 : 1 ≤ s) (h2 : s ≤ 8) (h : Bytes w a s f) (hf : ∀ j, f j < 256) (hE : vn f s < E) (hm : E ≤ 9223372036854775807) :
    Calls Try.prog 40 #[.slice a s cap, .int .i64 (E : Nat)] w fun e w' => e = .returned (.int .i64 (vn f s : Nat)) ∧ w' = w := by
  have hg := get_s s cap h1 h2 h hf
  have hc := conv_u64 E hm w
  obtain ⟨V, hV⟩ : ∃ V, V = vn f s := ⟨_, rfl⟩
  rw [← hV] at hg hE ⊢
  have k1 : (0 : Int) ≤ (V : Int) := by omega
  have k2 : (V : Int) < (E : Int) := by omega
  have k3 : (V : Int) ≤ 9223372036854775807 := by omega
  clear h hf hV
  go_enter Try.func40, Try.ntmps40
  go_wp2_with (first
    | ((go_at_call 34)
       (refine hg.mono ?_)
       (rintro e w1 ⟨rfl, rfl⟩)
       (clear hg)))
  go_ret
  exact ⟨rfl, rfl⟩

theorem cget_no {w : World} {a : Option Addr} {f : Nat → Nat} (s cap E : Nat) (h1 : 1 ≤ s) (h2 : s ≤ 8) (h : Bytes w a s f) (hf : ∀ j, f j < 256) (hE : E ≤ vn f s) (hm : E ≤ 9223372036854775807) :
    Calls Try.prog 40 #[.slice a s cap, .int .i64 (E : Nat)] w fun e w' => e = .panicked ngp ∧ w' = w := by
  have hg := get_s s cap h1 h2 h hf
  have hc := conv_u64 E hm w
  obtain ⟨V, hV⟩ : ∃ V, V = vn f s := ⟨_, rfl⟩
  rw [← hV] at hg hE
  have k1 : (0 : Int) ≤ (V : Int) := by omega
  have k2 : (E : Int) ≤ (V : Int) := by omega
  clear h hf hV
  go_enter Try.func40, Try.ntmps40
  go_wp2_with (first
    | ((go_at_call 34)
       (refine hg.mono ?_)
       (rintro e w1 ⟨rfl, rfl⟩)
       (clear hg)))
  exact ⟨rfl, rfl, rfl⟩
end Go.Proofs.Ytbiicdehgogikaa
