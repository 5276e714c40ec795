/- The program and the reference answer alike: groups. -/
import Derived.Test.YtbiicdehgogikaaCdBoth
import Derived.Test.YtbiicdehgogikaaCdUgr
import Derived.Test.YtbiicdehgogikaaCdRUng
namespace Go.Proofs.Ytbiicdehgogikaa
open Go.ChangeShapes Go.WideShapes Go.ChangeAt Go.RowKit
set_option linter.unusedVariables false

/-- Writes and an error, told. -/
def TellsW (F : Nat) (args : Array Value) (w : World) (n : Nat) (B : Nat → Nat) (E : Int) : Prop :=
  Calls Try.prog F args w fun e w' => ∃ A Cc a c, e = .returned (.tuple #[.slice a n c, .int .i64 E]) ∧ Wl w' a n (uV B A Cc) ∧ Below w.heap.size w w'

theorem uV_alike (B : Nat → Nat) (A A' : Nat → Option Addr) (Cc Cc' : Nat → Nat) (i : Nat) : AlikeW (uV B A Cc i) (uV B A' Cc' i) := ⟨rfl, rfl, rfl, fun _ _ => rfl⟩

theorem Wl.congr {w : World} {a : Option Addr} {n : Nat} {V V' : Nat → WV} (h : Wl w a n V) (hv : ∀ i, i < n → V i = V' i) : Wl w a n V' := by
  refine ⟨h.1, fun i hi => ?_⟩
  obtain ⟨x, o, e, hx, hw⟩ := h.2 i hi
  exact ⟨x, o, e, hx, by rw [← hv i hi]; exact hw⟩

/-- Behind the list's end nothing is asked: be it noughts. -/
theorem Wl.tame {w : World} {a : Option Addr} {n : Nat} {V : Nat → WV} (h : Wl w a n V) : ∃ V', Wl w a n V' ∧ ∀ i j, (V' i).b j < 256 := by
  refine ⟨fun i => if i < n then V i else ⟨0, 0, none, 0, 0, fun _ => 0⟩, h.congr (fun i hi => by rw [if_pos hi]), fun i j => ?_⟩
  by_cases hi : i < n
  · obtain ⟨x, o, e, hx, hw⟩ := h.2 i hi
    simp only [if_pos hi]
    exact hw.by_.byt j
  · simp only [if_neg hi]
    exact Nat.succ_pos 255

theorem group_both (n : Nat) (V : Nat → WV) (hV : ∀ i j, (V i).b j < 256) : ∃ (l : Nat) (h : Nat → Nat) (E : Int), (∀ j, h j < 256) ∧
    (∀ (w : World) (a : Option Addr) (c : Nat), Wl w a n V → Tells 9 #[.slice a n c] w l h E) ∧
    (∀ (w : World) (a : Option Addr) (c : Nat), Wl w a n V → Tells 10 #[.slice a n c] w l h E) := by
  by_cases hok : okG n V
  · refine ⟨2 + 69 * n, gb n V, 0, gb_lt n V hV, fun w a c h => tells_own (group_ok n c V a w h hok), fun w a c h => tells_own ((rgroup_any n c V a w h).mono ?_)⟩
    rintro e w' ⟨hb, ⟨_, v, rfl, ho⟩ | ⟨hn, _⟩⟩
    · exact ⟨hb, v, rfl, ho⟩
    · exact absurd hok hn
  · refine ⟨0, fun _ => 0, 81, fun _ => Nat.succ_pos 255, fun w a c h => tells_none (group_no n c V a w h hok), fun w a c h => tells_none ((rgroup_any n c V a w h).mono ?_)⟩
    rintro e w' ⟨hb, ⟨ho, _⟩ | ⟨hn, rfl⟩⟩
    · exact absurd ho hok
    · exact ⟨hb, rfl⟩

theorem tellsW_none {F : Nat} {args : Array Value} {w : World} {B : Nat → Nat} (hc : Calls Try.prog F args w fun e w' => Below w.heap.size w w' ∧ e = .returned (.tuple #[.slice none 0 0, .int .i64 81])) : TellsW F args w 0 B 81 := by
  refine hc.mono ?_
  rintro e w' ⟨hb, rfl⟩
  exact ⟨fun _ => none, fun _ => 0, none, 0, rfl, ⟨Nat.zero_le _, fun i hi => by omega⟩, hb⟩

theorem ungroup_yes {L C : Nat} {B : Nat → Nat} {a : Option Addr} {w : World} (h : ByIn w a L C B) (hok : okU L B) : TellsW 11 #[.slice a L C] w (uN B) B 0 := by
  refine (ungroup_ok L C B a w h hok).mono ?_
  rintro e w' ⟨v, rfl, A, Cc, g, rfl, hwl, hb⟩
  exact ⟨A, Cc, _, _, rfl, hwl, hb⟩

theorem ungroup_both (L : Nat) (B : Nat → Nat) : ∃ (n : Nat) (E : Int),
    (∀ (w : World) (a : Option Addr) (C : Nat), ByIn w a L C B → TellsW 11 #[.slice a L C] w n B E) ∧
    (∀ (w : World) (a : Option Addr) (C : Nat), ByIn w a L C B → TellsW 12 #[.slice a L C] w n B E) := by
  by_cases hok : okU L B
  · refine ⟨uN B, 0, fun w a C h => ungroup_yes h hok, fun w a C h => (rungroup_any L C B a w h).mono ?_⟩
    rintro e w' ⟨hb, ⟨_, A, Cc, a', c', rfl, hwl⟩ | ⟨hn, _⟩⟩
    · exact ⟨A, Cc, a', c', rfl, hwl, hb⟩
    · exact absurd hok hn
  · refine ⟨0, 81, fun w a C h => tellsW_none (ungroup_no L C B a w h hok), fun w a C h => tellsW_none ((rungroup_any L C B a w h).mono ?_)⟩
    rintro e w' ⟨hb, ⟨ho, _⟩ | ⟨hn, rfl⟩⟩
    · exact absurd ho hok
    · exact ⟨hb, rfl⟩
end Go.Proofs.Ytbiicdehgogikaa
