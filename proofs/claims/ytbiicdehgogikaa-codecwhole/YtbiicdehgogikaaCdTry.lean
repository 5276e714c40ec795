/- tried: what gives up is caught. -/
import Derived.Test.YtbiicdehgogikaaCdPut
namespace Go.Proofs.Ytbiicdehgogikaa
open Go.ChangeShapes Go.WideShapes Go.ChangeAt Go.RowKit
set_option linter.unusedVariables false

theorem catch_idle (p : Addr) (w : World) :
    CallsD Try.prog 36 #[.pointer (some p)] .returning w fun e u' w' => e = .returned (.tuple #[]) ∧ u' = .returning ∧ w' = w := by
  refine callsD_of_wpS Try.func36 rfl fun c₀ cs hu => ?_
  apply wpS_seq
  apply wpS_region
  simp [wpOpsS, go_sem, recoverD, hu, Try.ntmps36, Exit.thenS]
  apply wpS_seq
  apply wpS_seq
  apply wpS_region
  simp [wpOpsS, go_sem, Exit.thenS]
  refine wpS_cond (t := true) (by simp [Act.eval, Array.replicate]) ?_
  simp only [if_true]
  refine wpS_of_wp (wp_ret ?_)
  cases c₀
  simp_all [bodyPostS, results, Try.results36, Exit.thenS]

theorem assert_ng (w : World) : (Instr.typeAssert (.iface 57 (.agg #[])) 20 57 true).run Try.prog w = .ok (.tuple #[.agg #[], .bool true]) w := by kernel_rfl

set_option maxHeartbeats 1000000 in
theorem catch_panicking (p : Nat) (x : Value) (w : World) (hc : Has w p 24 #[x]) :
    CallsD Try.prog 36 #[.pointer (some ⟨p, 0, none⟩)] (.panicking ngp) w fun e u' w' =>
      e = .returned (.tuple #[]) ∧ u' = .panicking [{ v := .iface 57 (.agg #[]), recovered := true }] ∧ w' = (w.alloc (.cells #[] 57)).setCell ⟨p, 0, none⟩ (.int .i64 81) := by
  have hl := hc.lt
  have hc2 := (hc.alloc (.cells #[] 57)).cell 0
  have hz2 := (hc.alloc (.cells #[] 57)).free 0
  refine callsD_of_wpS Try.func36 rfl fun c₀ cs hu => ?_
  have hu' : c₀.mode = .panicking [{ v := .iface 57 (.agg #[]), recovered := false }] := hu
  apply wpS_seq
  apply wpS_region
  simp [wpOpsS, go_sem, recoverD, hu', Try.ntmps36, Exit.thenS]
  apply wpS_seq
  apply wpS_seq
  apply wpS_region
  simp [wpOpsS, go_sem, Exit.thenS]
  refine wpS_cond (t := false) (by simp [Act.eval, Array.replicate]) ?_
  simp only [Bool.false_eq_true, if_false]
  refine wpS_of_wp (wp_skip ?_)
  simp only [Exit.thenS]
  apply wpS_seq
  apply wpS_seq
  apply wpS_region
  simp [wpOpsS, go_sem, Exit.thenS, assert_ng]
  apply wpS_seq
  apply wpS_region
  simp [wpOpsS, go_sem, Exit.thenS]
  refine wpS_cond (t := false) (by simp [Act.eval, Array.replicate]) ?_
  simp only [Bool.false_eq_true, if_false]
  refine wpS_of_wp (wp_skip ?_)
  simp only [Exit.thenS]
  apply wpS_region
  simp [wpOpsS, go_sem, hc2, hz2, bodyPostS, results, Try.results36]

theorem Has.put {w : World} {g t : Nat} {cs : Array Value} (h : Has w g t cs) (j : Nat) (v : Value) : Has (w.setCell ⟨g, j, none⟩ v) g t (cs.setIfInBounds j v) := by
  have h' : w.heap[g]? = some (.cells cs t (0, 0)) := h
  show (w.setCell ⟨g, j, none⟩ _).heap[g]? = _
  simp only [World.setCell, Array.getElem?_modify, h', if_pos, Option.map_some]
  rfl

def tcell (w : World) : World := w.alloc (.cells #[.int .i64 0] 24)

theorem tried_ok (f p q : Nat) (hf : f = 25 ∨ f = 28) (R : World → Prop) (w : World) (h : Calls Try.prog f #[.pointer (some ⟨p, 0, none⟩), .pointer (some ⟨q, 0, none⟩)] (tcell w) fun e w' => e = .returned (.tuple #[]) ∧ R w') (hR : ∀ w', R w' → Has w' w.heap.size 24 #[.int .i64 0]) :
    Calls Try.prog 24 #[.func (.func f) #[] #[.pointer (some ⟨p, 0, none⟩), .pointer (some ⟨q, 0, none⟩)]] w fun e w' => e = .returned (.int .i64 0) ∧ ∃ w1, R w1 ∧ w' = w1.setCell ⟨w.heap.size, 0, none⟩ (.int .i64 0) := by
  unfold tcell at h
  have hmf : ∀ (fn : Fn) (first cap : Array Value) (w : World), (Instr.makeFunc fn first cap).run Try.prog w = .ok (.func fn first cap) w := fun _ _ _ _ => rfl
  rcases hf with rfl | rfl
  all_goals
    go_enter_defers Try.func24, Try.ntmps24
    go_wp2_with (first
      | ((first | go_at_call 25 | go_at_call 28)
         (refine h.mono ?_)
         (rintro e w1 ⟨rfl, hr⟩)
         (have hc := (hR _ hr).cell 0)
         (have hz := (hR _ hr).free 0)))
    refine leaves_cons (f := 36) (args := #[.pointer (some ⟨w.heap.size, 0, none⟩)]) (by simp) (by simp [go_sem]) ?_
    refine (catch_idle ⟨w.heap.size, 0, none⟩ _).mono ?_
    rintro e u' w'' ⟨rfl, rfl, rfl⟩
    have hh := ((hR _ hr).cell 0)
    have hlt := (hR _ hr).lt
    refine ⟨.int .i64 0, ?_, rfl, w1, hr, rfl⟩
    have hcell := ((hR _ hr).put 0 (.int .i64 0)).cell 0
    simp [results, Try.results24, go_sem, hcell]

theorem tried_no (f p q : Nat) (hf : f = 25 ∨ f = 28) (R : World → Prop) (w : World) (h : Calls Try.prog f #[.pointer (some ⟨p, 0, none⟩), .pointer (some ⟨q, 0, none⟩)] (tcell w) fun e w' => e = .panicked ngp ∧ R w') (hR : ∀ w', R w' → Has w' w.heap.size 24 #[.int .i64 0]) :
    Calls Try.prog 24 #[.func (.func f) #[] #[.pointer (some ⟨p, 0, none⟩), .pointer (some ⟨q, 0, none⟩)]] w fun e w' => e = .returned (.int .i64 81) ∧ ∃ w1, R w1 ∧ w' = (w1.alloc (.cells #[] 57)).setCell ⟨w.heap.size, 0, none⟩ (.int .i64 81) := by
  unfold tcell at h
  have hmf : ∀ (fn : Fn) (first cap : Array Value) (w : World), (Instr.makeFunc fn first cap).run Try.prog w = .ok (.func fn first cap) w := fun _ _ _ _ => rfl
  rcases hf with rfl | rfl
  all_goals
    go_enter_defers Try.func24, Try.ntmps24
    go_wp2_with (first
      | ((first | go_at_call 25 | go_at_call 28)
         (refine h.mono ?_)
         (rintro e w1 ⟨rfl, hr⟩)))
    refine leaves_cons (f := 36) (args := #[.pointer (some ⟨w.heap.size, 0, none⟩)]) (by simp) (by simp [go_sem]) ?_
    refine (catch_panicking w.heap.size _ _ (hR _ hr)).mono ?_
    rintro e u' w'' ⟨rfl, rfl, rfl⟩
    have hcell := (((hR _ hr).alloc (.cells #[] 57)).put 0 (.int .i64 81)).cell 0
    simp [Leaves, settle, results, Try.results24, go_sem, hcell]
    exact ⟨w1, hr, rfl⟩
end Go.Proofs.Ytbiicdehgogikaa
