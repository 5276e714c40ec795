/- Which words are reserved. -/
import Derived.Test.YtefjfjjoghikeaaDoorJoint03
namespace Go.Proofs.YtefjfjjoghikeaaDoor
open Go.ChangeShapes Go.WideShapes Go.ChangeAt Go.RowKit
set_option linter.unusedVariables false

def RW : List (List UInt8) := [[100, 101, 118, 105, 99, 101], [106, 111, 117, 114, 110, 97, 108], [107, 101, 121], [114, 111, 111, 116], [118, 111, 108, 117, 109, 101], [101, 120, 112, 111, 114, 116], [114, 101, 97, 100, 111, 110, 108, 121], [108, 105, 110, 101, 97, 114], [99, 111, 110, 99, 97, 116], [109, 105, 114, 114, 111, 114], [115, 110, 97, 112, 115, 104, 111, 116], [99, 114, 121, 112, 116], [105, 110, 116, 101, 103, 114, 105, 116, 121], [118, 101, 114, 105, 116, 121]]

def resv (x : List UInt8) : Bool := (x == [100, 101, 118, 105, 99, 101]) || (x == [106, 111, 117, 114, 110, 97, 108]) || (x == [107, 101, 121]) || (x == [114, 111, 111, 116]) || (x == [118, 111, 108, 117, 109, 101]) || (x == [101, 120, 112, 111, 114, 116]) || (x == [114, 101, 97, 100, 111, 110, 108, 121]) || (x == [108, 105, 110, 101, 97, 114]) || (x == [99, 111, 110, 99, 97, 116]) || (x == [109, 105, 114, 114, 111, 114]) || (x == [115, 110, 97, 112, 115, 104, 111, 116]) || (x == [99, 114, 121, 112, 116]) || (x == [105, 110, 116, 101, 103, 114, 105, 116, 121]) || (x == [118, 101, 114, 105, 116, 121])

set_option maxRecDepth 100000 in
set_option maxHeartbeats 2000000 in
theorem reserved_c (x : List UInt8) (w : World) : Calls Tryd.prog 9 #[.string (bs x)] w fun e w' => e = .returned (.bool (resv x)) ∧ w' = w := by
  have ht := bs_toList x
  go_enter Tryd.func9, Tryd.ntmps9
  go_wp2
  all_goals
    go_ret
    refine ⟨ret_bool ?_, rfl⟩
    symm
    simp_all only [resv, Bool.true_or, Bool.or_true, Bool.or_false, Bool.false_eq_true]

theorem RW_get (k : Nat) (h : k < 14) : RW[k]? = some (RW[k]'h) := List.getElem?_eq_getElem h

/-- One of the first k. -/
def resvTo (x : List UInt8) (k : Nat) : Bool := (RW.take k).any fun y => y == x

theorem resvTo_succ (x : List UInt8) (k : Nat) (h : k < 14) : resvTo x (k + 1) = (resvTo x k || (RW[k]'h == x)) := by
  unfold resvTo
  rw [List.take_succ_eq_append_getElem h, List.any_append]
  simp

theorem resvTo_all (x : List UInt8) : resvTo x 14 = resv x := by
  unfold resvTo resv
  have e : ∀ y : List UInt8, (y == x) = (x == y) := fun y => BEq.comm
  simp only [RW, List.take_succ_cons, List.take_zero, List.any_cons, List.any_nil, Bool.or_false, Bool.or_assoc, e]

theorem resvTo_yes (x : List UInt8) (k : Nat) (h : k < 14) (e : (RW[k]'h == x) = true) : resv x = true := by
  rw [← resvTo_all]
  unfold resvTo
  exact List.any_eq_true.2 ⟨_, List.mem_take_iff_getElem.2 ⟨k, by simp [RW]; omega, rfl⟩, e⟩

def rwCells : Array Value := #[.string ⟨#[100, 101, 118, 105, 99, 101]⟩, .string ⟨#[106, 111, 117, 114, 110, 97, 108]⟩, .string ⟨#[107, 101, 121]⟩, .string ⟨#[114, 111, 111, 116]⟩, .string ⟨#[118, 111, 108, 117, 109, 101]⟩, .string ⟨#[101, 120, 112, 111, 114, 116]⟩, .string ⟨#[114, 101, 97, 100, 111, 110, 108, 121]⟩, .string ⟨#[108, 105, 110, 101, 97, 114]⟩, .string ⟨#[99, 111, 110, 99, 97, 116]⟩, .string ⟨#[109, 105, 114, 114, 111, 114]⟩, .string ⟨#[115, 110, 97, 112, 115, 104, 111, 116]⟩, .string ⟨#[99, 114, 121, 112, 116]⟩, .string ⟨#[105, 110, 116, 101, 103, 114, 105, 116, 121]⟩, .string ⟨#[118, 101, 114, 105, 116, 121]⟩]

theorem rwCells_get (k : Nat) (h : k < 14) : rwCells[k]? = some (.string (bs (RW[k]'h))) := by
  match k, h with
  | 0, _ => rfl
  | 1, _ => rfl
  | 2, _ => rfl
  | 3, _ => rfl
  | 4, _ => rfl
  | 5, _ => rfl
  | 6, _ => rfl
  | 7, _ => rfl
  | 8, _ => rfl
  | 9, _ => rfl
  | 10, _ => rfl
  | 11, _ => rfl
  | 12, _ => rfl
  | 13, _ => rfl

set_option maxRecDepth 100000 in
set_option maxHeartbeats 2000000 in
theorem rreserved_c (x : List UInt8) (w : World) : Calls Tryd.prog 10 #[.string (bs x)] w fun e w' => e = .returned (.bool (resv x)) ∧ Below w.heap.size w w' := by
  have ht := bs_toList x
  have hH : Has (w.alloc (.cells rwCells 9)) w.heap.size 9 rwCells := Has.new _ _ _
  have hB : Below w.heap.size w (w.alloc (.cells rwCells 9)) := (Below.refl _ _).alloc (Nat.le_refl _) _
  obtain ⟨W, hW⟩ : ∃ W, W = w.alloc (.cells rwCells 9) := ⟨_, rfl⟩
  rw [← hW] at hH hB
  have HW : Hid (W = w.alloc (.cells rwCells 9)) := hW
  clear hW
  go_enter Tryd.func10, Tryd.ntmps10
  go_wp2_with (first
    | (refine at_dstL 5 rfl ?_
       refine wpList_is_w (some 5) (.slice (some ⟨w.heap.size, 0, none⟩) 14 14) W rfl (by rfl) (by rw [HW.out]; kernel_rfl) ?_))
  go_loop [4] (fun z => ∃ k : Nat, k ≤ 14 ∧ z = .int .i64 (k : Nat) ∧ resvTo x k = false) (fun z => 14 - (intOf z).toNat)
  case atStart => exact ⟨0, Nat.zero_le _, rfl, rfl⟩
  case round =>
    obtain ⟨k, hk, rfl, hr⟩ := hrel
    have HR : Hid (resvTo x k = false) := hr
    clear hr
    by_cases hlt : k < 14
    · have hc : W.cell? ⟨w.heap.size, k, none⟩ = some (.string (bs (RW[k]'hlt))) := by rw [hH.cell]; exact rwCells_get k hlt
      have ht2 := bs_toList (RW[k]'hlt)
      have hy := resvTo_yes x k hlt
      have hn := resvTo_succ x k hlt
      generalize RW[k]'hlt = y at hc ht2 hy hn
      have HN : Hid (resvTo x (k + 1) = (resvTo x k || (y == x))) := hn
      have HY : Hid ((y == x) = true → resv x = true) := hy
      clear hy hn
      cases e : (y == x)
      · go_wp2
        go_round
        case rel => exact ⟨k + 1, by omega, by go_num, by rw [HN.out, HR.out, e]; rfl⟩
        case measure => simp [intOf]; omega
      · go_wp2
        go_ret
        exact ⟨ret_bool (HY.out e).symm, hB⟩
    · have hk14 : k = 14 := by omega
      subst hk14
      go_wp2
      go_ret
      exact ⟨ret_bool (by rw [← resvTo_all, HR.out]), hB⟩
end Go.Proofs.YtefjfjjoghikeaaDoor
