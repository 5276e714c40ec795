/- Two digests that are the same are equal. -/
import Derived.Test.YtoeanaadlihkeabDoorShaSum
import Derived.DeepKeys
namespace Go.Proofs.YtoeanaadlihkeabDoor
open Go.ChangeShapes Go.WideShapes Go.ChangeAt Go.RowKit

theorem mapM_some {α β : Type} (F : α → Option β) (G : α → β) : ∀ l : List α, (∀ x ∈ l, F x = some (G x)) → l.mapM F = some (l.map G) := by
  intro l
  induction l with
  | nil => intro _; simp
  | cons x l ih =>
    intro h
    rw [List.mapM_cons, h x (by simp), ih (fun y hy => h y (by simp [hy]))]
    rfl

theorem Tryd.cells24 : Tryd.prog.cellsOf 24 = 32 := by kernel_rfl
theorem Tryd.cells5 : Tryd.prog.cellsOf 5 = 1 := by kernel_rfl

theorem one_at (f : Nat → Nat) (i : Nat) (h : i < 32) : ((cellsN .u8 32 f).toList.drop (i * 1)).take 1 = [Value.int .u8 (f i : Nat)] := by
  have hl : i < (cellsN .u8 32 f).toList.length := by simp [cellsN_size, h]
  rw [Nat.mul_one, List.drop_eq_getElem_cons hl, List.take_succ_cons, List.take_zero]
  have := cellsN_get .u8 32 f i h
  rw [← Array.getElem?_toList, List.getElem?_eq_getElem hl] at this
  rw [Option.some.inj this]

theorem key_digest (f : Nat → Nat) (hf : ∀ j, j < 32 → f j < 256) : Tryd.prog.keyLits 2 24 (cellsN .u8 32 f).toList = some ((List.range 32).map fun i => [Lit.int .u8 (f i : Nat)]).flatten := by
  unfold Program.keyLits
  rw [Tryd.underlying24]
  simp only [Tryd.cells24, Tryd.cells5]
  rw [if_pos (by simp [cellsN_size]), mapM_some _ (fun i => [Lit.int .u8 (f i : Nat)]) (List.range 32) ?_]
  · rfl
  · intro i hi
    have hi' : i < 32 := by simpa using hi
    have hb := hf i hi'
    rw [one_at f i hi']
    unfold Program.keyLits
    rw [Tryd.underlying5]
    simp [Lit.wf, IntKind.min, IntKind.max, IntKind.signed, IntKind.bits]
    omega

theorem formed_digest (f : Nat → Nat) : (Value.agg (cellsN .u8 32 f)).formed Tryd.prog 24 = true := by
  unfold Value.formed
  simp only [Tryd.underlying24, Tryd.cells24, cellsN_size]
  rfl

theorem eq_digest (f : Nat → Nat) (w : World) (hf : ∀ j, j < 32 → f j < 256) : (Op.equalIn 10000 24 (.agg (cellsN .u8 32 f)) (.agg (cellsN .u8 32 f))).run Tryd.prog w = .ok true w := by
  obtain ⟨r, hr, hiff⟩ := run_equalIn_deep (P := Tryd.prog) 9998 2 24 (by kernel_rfl) w 2 2 (.agg (cellsN .u8 32 f)) (.agg (cellsN .u8 32 f)) _ _ (formed_digest f) (formed_digest f) (key_digest f hf) (key_digest f hf)
  rw [hiff.2 rfl] at hr
  exact hr

theorem SHA_lt (H0 K m : Nat → Nat) (N j : Nat) : SHA H0 K m N j < 256 := Nat.mod_lt _ (by decide)
end Go.Proofs.YtoeanaadlihkeabDoor
