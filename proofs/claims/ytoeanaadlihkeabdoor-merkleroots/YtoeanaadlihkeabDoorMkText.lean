/- Two digests held against each other; the texts on the way up. -/
import Derived.Test.YtoeanaadlihkeabDoorMkPath
import Derived.Test.YtoeanaadlihkeabDoorMkPick
namespace Go.Proofs.YtoeanaadlihkeabDoor
open Go.ChangeShapes Go.WideShapes Go.ChangeAt Go.RowKit
set_option linter.unusedVariables false

theorem lits_iff (f g : Nat → Nat) : ((List.range 32).map fun i => [Lit.int .u8 (f i : Nat)]).flatten = ((List.range 32).map fun i => [Lit.int .u8 (g i : Nat)]).flatten ↔ ∀ j, j < 32 → f j = g j := by
  constructor
  · intro h j hj
    have e : ∀ f : Nat → Nat, ((List.range 32).map fun i => [Lit.int .u8 (f i : Nat)]).flatten = (List.range 32).map fun i => Lit.int .u8 (f i : Nat) := fun f => rfl
    rw [e, e] at h
    have := congrArg (fun l => l[j]?) h
    simp [hj] at this
    omega
  · intro h
    congr 1
    apply List.map_congr_left
    intro j hj
    rw [h j (by simpa using hj)]

/-- Whether two blocks are one. -/
def eqB (f g : Nat → Nat) : Bool := (List.range 32).all fun j => f j == g j

theorem eqB_iff (f g : Nat → Nat) : eqB f g = true ↔ ∀ j, j < 32 → f j = g j := by simp [eqB]

theorem eq_digests (f g : Nat → Nat) (w : World) (hf : ∀ j, j < 32 → f j < 256) (hg : ∀ j, j < 32 → g j < 256) : (Op.equalIn 10000 24 (.agg (cellsN .u8 32 f)) (.agg (cellsN .u8 32 g))).run Tryd.prog w = .ok (eqB f g) w := by
  obtain ⟨r, hr, hiff⟩ := run_equalIn_deep (P := Tryd.prog) 9998 2 24 (by kernel_rfl) w 2 2 (.agg (cellsN .u8 32 f)) (.agg (cellsN .u8 32 g)) _ _ (formed_digest f) (formed_digest g) (key_digest f hf) (key_digest g hg)
  rw [hr]
  congr 1
  rw [Bool.eq_iff_iff, hiff, eqB_iff, lits_iff]

/-- The program's digest of a sector's text. -/
theorem sum_text (kdv : Nat) (X : Nat → Nat) (a : Option Addr) (c : Nat) (w : World) (hG : Glob Hc Kc w) (hk : kdv < 256) (hX : ∀ j, X j < 256) (hb : Bytes w a 65 (cat (fun _ => kdv) 1 X)) (hc : 65 ≤ c) :
    Calls Tryd.prog 9 #[.slice a (65 : Nat) c] w fun e w' => e = .returned (.agg (cellsN .u8 32 (hsh kdv X))) ∧ Below w.heap.size w w' :=
  sum_any c hG Hc_lt6 (cat_lt _ _ _ (fun _ => hk) hX) hc (by decide) hb

/-- A text is laid: its kind, and a sector. -/
theorem text_own (w : World) (kdv : Nat) (X : Nat → Nat) (a : Option Addr) (c : Nat) (hb : Bytes w a 64 X) : ∃ g c' w', (∀ ty, (Builtin.append_ #[22, 22] ty #[.slice (some ⟨w.heap.size, 0, none⟩) 1 1, .slice a 64 c]).run Tryd.prog (w.alloc (.cells #[.int .u8 (kdv : Nat)] 5)) = .ok (.slice (some ⟨g, 0, none⟩) 65 c') w') ∧
    65 ≤ c' ∧ Bytes w' (some ⟨g, 0, none⟩) 65 (cat (fun _ => kdv) 1 X) ∧ Below w.heap.size w w' := by
  have own1 : (w.alloc (.cells #[.int .u8 (kdv : Nat)] 5)).ownsRow w.heap.size 5 1 (.slice (some ⟨w.heap.size, 0, none⟩) 1 1) 1 (bl (fun _ => kdv) 1) := World.ownsRow_lit (base := w.heap.size) (e := 5) (size := 1) w #[.int .u8 (kdv : Nat)] 1 (Nat.le_refl _) (by unfold maxLen; omega) rfl
  have hb1 : Below w.heap.size w (w.alloc (.cells #[.int .u8 (kdv : Nat)] 5)) := (Below.refl _ _).alloc (Nat.le_refl _) _
  have hnil : a = none → (64 : Nat) = 0 ∧ c = 0 := by
    intro e
    rcases hb with h | ⟨b, off, e2, _⟩
    · omega
    · rw [e] at e2; cases e2
  obtain ⟨v', w', hr, own, gr⟩ := run_append_bytes (w.alloc (.cells #[.int .u8 (kdv : Nat)] 5)) w.heap.size _ 1 (fun _ => kdv) own1 a 64 c X hnil (hb.below hb1 (Nat.le_refl _)) (by decide) (by simp)
  obtain ⟨a2, c', rfl, h1, h2, h3, _⟩ := own_bytes own
  obtain ⟨g, rfl⟩ : ∃ g, a2 = some ⟨g, 0, none⟩ := by
    rcases own.2 with ⟨e, e2⟩ | ⟨g, cap, cur, e, _⟩
    · omega
    · injection e with e1
      exact ⟨g, e1⟩
  exact ⟨g, c', w', hr, h1, h3, hb1.grown gr (by simp) (fun k' h => (own1.lt k' h).1)⟩

/-- Both texts at step k: what is shown, and what the tree holds. -/
def txt (X0 : Nat → Nat) (Q : Nat → Nat → Nat) : Nat → Nat → Nat
  | 0 => X0
  | k + 1 => Q k

theorem up_txt (x : Nat → Nat) (P : Nat → Nat → Nat) (k : Nat) : up x P k = hsh (kd k) (txt x P k) := by
  cases k with
  | zero => rfl
  | succ k => rfl
end Go.Proofs.YtoeanaadlihkeabDoor
