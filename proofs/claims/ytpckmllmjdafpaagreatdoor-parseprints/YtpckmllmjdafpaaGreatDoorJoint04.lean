/- Texts that the statements of this stage share, joined: LxAlive, LxReserved, PsSmall, LxCalls, PsTake, PsTake2, PsNode, PsPart. -/
import Derived.Test.YtpckmllmjdafpaaGreatDoorJoint03
import Derived.Test.YtpckmllmjdafpaaGreatDoorJoint00

/- The live question. -/
namespace Go.Proofs.YtpckmllmjdafpaaGreatDoor
open Go.ChangeShapes Go.WideShapes Go.ChangeAt Go.RowKit
set_option linter.unusedVariables false

theorem scan_any (w : World) (l : List UInt8) (hm : l.length ≤ maxLen) : Calls Tryz.prog 18 #[.string (bs l)] w (ScanR w (Scan l)) := by
  by_cases h : 2000 < l.length
  · exact scan_long w l h hm
  · exact scan_c w l h

/-- Tokens that are there: where they lie. -/
theorem TokRow.lies {w : World} {base : Nat} {v : Value} {ts : Toks} (h : TokRow w base v ts) (hne : ts ≠ []) : ∃ g C, v = .slice (some ⟨g, 0, none⟩) ts.length C ∧ base ≤ g ∧ g < w.heap.size ∧ ts.length ≤ C ∧ C ≤ maxLen ∧
    (∃ cur, Has w g 58 cur ∧ cur.size = C * 4 ∧ cur.toList.take (ts.length * 4) = tkl ts) ∧ ∀ i (hi : i < ts.length) j, j < 4 → w.cell? ⟨g, i * 4 + j, none⟩ = (tkv ts[i].1 ts[i].2)[j]? := by
  rcases h.2 with ⟨rfl, h0⟩ | ⟨g, cap, cur, rfl, h1, hg, hn, hm, hs, ht⟩
  · exact absurd (List.length_eq_zero_iff.1 h0) hne
  · refine ⟨g, cap, rfl, h1, (Array.getElem?_eq_some_iff.1 hg).1, hn, hm, ⟨cur, hg, hs, ht⟩, fun i hi j hj => ?_⟩
    rw [← tkl_get ts i hi j hj, ← ht, List.getElem?_take_of_lt (by omega), Array.getElem?_toList]
    exact cell_of_row w g (i * 4 + j) cur _ _ hg

end Go.Proofs.YtpckmllmjdafpaaGreatDoor

/- Which words are reserved. -/
namespace Go.Proofs.YtpckmllmjdafpaaGreatDoor
open Go.ChangeShapes Go.WideShapes Go.ChangeAt Go.RowKit
set_option linter.unusedVariables false

set_option maxRecDepth 100000 in
set_option maxHeartbeats 2000000 in
theorem reserved_c (x : List UInt8) (w : World) : Calls Tryz.prog 56 #[.string (bs x)] w fun e w' => e = .returned (.bool (resv x)) ∧ w' = w := by
  have ht := bs_toList x
  go_enter Tryz.func56, Tryz.ntmps56
  go_wp2
  all_goals
    go_ret
    refine ⟨ret_bool ?_, rfl⟩
    symm
    simp_all only [resv, Bool.true_or, Bool.or_true, Bool.or_false, Bool.false_eq_true]

theorem RW_get (k : Nat) (h : k < 14) : RW[k]? = some (RW[k]'h) := List.getElem?_eq_getElem h

/-- One of the first k. -/
def resvTo (x : List UInt8) (k : Nat) : Bool := (RW.take k).any fun y => y == x

theorem resvTo_succ (x : List UInt8) (k : Nat) (h : k < 14) : resvTo x (k + 1) = (resvTo x k || (RW[k]'h == x)) := by
  unfold resvTo
  rw [List.take_succ_eq_append_getElem h, List.any_append]
  simp

theorem resvTo_all (x : List UInt8) : resvTo x 14 = resv x := by
  unfold resvTo resv
  have e : ∀ y : List UInt8, (y == x) = (x == y) := fun y => BEq.comm
  simp only [RW, List.take_succ_cons, List.take_zero, List.any_cons, List.any_nil, Bool.or_false, Bool.or_assoc, e]

theorem resvTo_yes (x : List UInt8) (k : Nat) (h : k < 14) (e : (RW[k]'h == x) = true) : resv x = true := by
  rw [← resvTo_all]
  unfold resvTo
  exact List.any_eq_true.2 ⟨_, List.mem_take_iff_getElem.2 ⟨k, by simp [RW]; omega, rfl⟩, e⟩

def rwCells : Array Value := #[.string ⟨#[100, 101, 118, 105, 99, 101]⟩, .string ⟨#[106, 111, 117, 114, 110, 97, 108]⟩, .string ⟨#[107, 101, 121]⟩, .string ⟨#[114, 111, 111, 116]⟩, .string ⟨#[118, 111, 108, 117, 109, 101]⟩, .string ⟨#[101, 120, 112, 111, 114, 116]⟩, .string ⟨#[114, 101, 97, 100, 111, 110, 108, 121]⟩, .string ⟨#[108, 105, 110, 101, 97, 114]⟩, .string ⟨#[99, 111, 110, 99, 97, 116]⟩, .string ⟨#[109, 105, 114, 114, 111, 114]⟩, .string ⟨#[115, 110, 97, 112, 115, 104, 111, 116]⟩, .string ⟨#[99, 114, 121, 112, 116]⟩, .string ⟨#[105, 110, 116, 101, 103, 114, 105, 116, 121]⟩, .string ⟨#[118, 101, 114, 105, 116, 121]⟩]

theorem rwCells_get (k : Nat) (h : k < 14) : rwCells[k]? = some (.string (bs (RW[k]'h))) := by
  match k, h with
  | 0, _ => rfl
  | 1, _ => rfl
  | 2, _ => rfl
  | 3, _ => rfl
  | 4, _ => rfl
  | 5, _ => rfl
  | 6, _ => rfl
  | 7, _ => rfl
  | 8, _ => rfl
  | 9, _ => rfl
  | 10, _ => rfl
  | 11, _ => rfl
  | 12, _ => rfl
  | 13, _ => rfl

set_option maxRecDepth 100000 in
set_option maxHeartbeats 2000000 in
theorem rreserved_c (x : List UInt8) (w : World) : Calls Tryz.prog 41 #[.string (bs x)] w fun e w' => e = .returned (.bool (resv x)) ∧ Below w.heap.size w w' := by
  have ht := bs_toList x
  have hH : Has (w.alloc (.cells rwCells 9)) w.heap.size 9 rwCells := Has.new _ _ _
  have hB : Below w.heap.size w (w.alloc (.cells rwCells 9)) := (Below.refl _ _).alloc (Nat.le_refl _) _
  obtain ⟨W, hW⟩ : ∃ W, W = w.alloc (.cells rwCells 9) := ⟨_, rfl⟩
  rw [← hW] at hH hB
  have HW : Hid (W = w.alloc (.cells rwCells 9)) := hW
  clear hW
  go_enter Tryz.func41, Tryz.ntmps41
  go_wp2_with (first
    | (refine at_dstL 5 rfl ?_
       refine wpList_is_w (some 5) (.slice (some ⟨w.heap.size, 0, none⟩) 14 14) W rfl (by rfl) (by rw [HW.out]; kernel_rfl) ?_))
  go_loop [4] (fun z => ∃ k : Nat, k ≤ 14 ∧ z = .int .i64 (k : Nat) ∧ resvTo x k = false) (fun z => 14 - (intOf z).toNat)
  case atStart => exact ⟨0, Nat.zero_le _, rfl, rfl⟩
  case round =>
    obtain ⟨k, hk, rfl, hr⟩ := hrel
    have HR : Hid (resvTo x k = false) := hr
    clear hr
    by_cases hlt : k < 14
    · have hc : W.cell? ⟨w.heap.size, k, none⟩ = some (.string (bs (RW[k]'hlt))) := by rw [hH.cell]; exact rwCells_get k hlt
      have ht2 := bs_toList (RW[k]'hlt)
      have hy := resvTo_yes x k hlt
      have hn := resvTo_succ x k hlt
      generalize RW[k]'hlt = y at hc ht2 hy hn
      have HN : Hid (resvTo x (k + 1) = (resvTo x k || (y == x))) := hn
      have HY : Hid ((y == x) = true → resv x = true) := hy
      clear hy hn
      cases e : (y == x)
      · go_wp2
        go_round
        case rel => exact ⟨k + 1, by omega, by go_num, by rw [HN.out, HR.out, e]; rfl⟩
        case measure => simp [intOf]; omega
      · go_wp2
        go_ret
        exact ⟨ret_bool (HY.out e).symm, hB⟩
    · have hk14 : k = 14 := by omega
      subst hk14
      go_wp2
      go_ret
      exact ⟨ret_bool (by rw [← resvTo_all, HR.out]), hB⟩
end Go.Proofs.YtpckmllmjdafpaaGreatDoor

/- What may come, and what stands in parentheses. -/
namespace Go.Proofs.YtpckmllmjdafpaaGreatDoor
open Go.ChangeShapes Go.WideShapes Go.ChangeAt Go.RowKit
set_option linter.unusedVariables false

/-- Texts in a block of their own. -/
def Strs (w : World) (v : Value) (l : List (List UInt8)) : Prop := (l = [] ∧ v = .slice none 0 0) ∨ ∃ g, v = .slice (some ⟨g, 0, none⟩) l.length l.length ∧ Has w g 9 (l.map fun x => Value.string (bs x)).toArray

def kw (ks : List Kd) : List (List UInt8) := ks.map Kd.w

theorem Strs.below {w w' : World} {v : Value} {l : List (List UInt8)} (h : Strs w v l) (hb : Below w.heap.size w w') : Strs w' v l := by
  rcases h with h | ⟨g, rfl, h⟩
  · exact .inl h
  · exact .inr ⟨g, rfl, h.below hb h.lt⟩

theorem insideLinear {x : List UInt8} (h : (x == [108, 105, 110, 101, 97, 114]) = true) : inside x = ([.ex, .nu, .nu], false) := by
  rw [eq_of_beq h]; rfl

theorem insideConcat {x : List UInt8} (h : (x == [99, 111, 110, 99, 97, 116]) = true) : inside x = ([.ex], true) := by
  rw [eq_of_beq h]; rfl

theorem insideMirror {x : List UInt8} (h : (x == [109, 105, 114, 114, 111, 114]) = true) : inside x = ([.ex], true) := by
  rw [eq_of_beq h]; rfl

theorem insideSnapshot {x : List UInt8} (h : (x == [115, 110, 97, 112, 115, 104, 111, 116]) = true) : inside x = ([.ex, .ex, .nu], false) := by
  rw [eq_of_beq h]; rfl

theorem insideCrypt {x : List UInt8} (h : (x == [99, 114, 121, 112, 116]) = true) : inside x = ([.ex, .na], false) := by
  rw [eq_of_beq h]; rfl

theorem insideIntegrity {x : List UInt8} (h : (x == [105, 110, 116, 101, 103, 114, 105, 116, 121]) = true) : inside x = ([.ex, .na], false) := by
  rw [eq_of_beq h]; rfl

theorem insideVerity {x : List UInt8} (h : (x == [118, 101, 114, 105, 116, 121]) = true) : inside x = ([.ex, .na], false) := by
  rw [eq_of_beq h]; rfl

theorem insideNone {x : List UInt8} (hLinear : (x == [108, 105, 110, 101, 97, 114]) = false) (hConcat : (x == [99, 111, 110, 99, 97, 116]) = false) (hMirror : (x == [109, 105, 114, 114, 111, 114]) = false) (hSnapshot : (x == [115, 110, 97, 112, 115, 104, 111, 116]) = false) (hCrypt : (x == [99, 114, 121, 112, 116]) = false) (hIntegrity : (x == [105, 110, 116, 101, 103, 114, 105, 116, 121]) = false) (hVerity : (x == [118, 101, 114, 105, 116, 121]) = false) : inside x = ([], false) := by
  simp only [beq_eq_false_iff_ne] at *
  unfold inside
  rw [if_neg (show ¬ x = wLinear from hLinear), if_neg (show ¬ (x = wConcat ∨ x = wMirror) by (rintro (h | h); exact hConcat h; exact hMirror h)), if_neg (show ¬ x = wSnapshot from hSnapshot), if_neg (show ¬ (x = wCrypt ∨ x = wIntegrity ∨ x = wVerity) by (rintro (h | h | h); exact hCrypt h; exact hIntegrity h; exact hVerity h))]

set_option maxRecDepth 100000 in
set_option maxHeartbeats 2000000 in
theorem inside_c (x : List UInt8) (w : World) : Calls Tryz.prog 57 #[.string (bs x)] w fun e w' => ∃ v, e = .returned (.tuple #[v, .bool (inside x).2]) ∧ Below w.heap.size w w' ∧ Strs w' v (kw (inside x).1) := by
  have ht := bs_toList x
  go_enter Tryz.func57, Tryz.ntmps57
  go_wp2
  all_goals
    go_ret2
    first
      | (rw [insideLinear (by assumption)]; exact ⟨_, rfl, (Below.refl _ _).alloc (Nat.le_refl _) _, .inr ⟨w.heap.size, rfl, Has.new _ _ _⟩⟩)
      | (rw [insideConcat (by assumption)]; exact ⟨_, rfl, (Below.refl _ _).alloc (Nat.le_refl _) _, .inr ⟨w.heap.size, rfl, Has.new _ _ _⟩⟩)
      | (rw [insideMirror (by assumption)]; exact ⟨_, rfl, (Below.refl _ _).alloc (Nat.le_refl _) _, .inr ⟨w.heap.size, rfl, Has.new _ _ _⟩⟩)
      | (rw [insideSnapshot (by assumption)]; exact ⟨_, rfl, (Below.refl _ _).alloc (Nat.le_refl _) _, .inr ⟨w.heap.size, rfl, Has.new _ _ _⟩⟩)
      | (rw [insideCrypt (by assumption)]; exact ⟨_, rfl, (Below.refl _ _).alloc (Nat.le_refl _) _, .inr ⟨w.heap.size, rfl, Has.new _ _ _⟩⟩)
      | (rw [insideIntegrity (by assumption)]; exact ⟨_, rfl, (Below.refl _ _).alloc (Nat.le_refl _) _, .inr ⟨w.heap.size, rfl, Has.new _ _ _⟩⟩)
      | (rw [insideVerity (by assumption)]; exact ⟨_, rfl, (Below.refl _ _).alloc (Nat.le_refl _) _, .inr ⟨w.heap.size, rfl, Has.new _ _ _⟩⟩)
      | (rw [insideNone (by assumption) (by assumption) (by assumption) (by assumption) (by assumption) (by assumption) (by assumption)]; exact ⟨_, rfl, Below.refl _ _, .inl ⟨rfl, rfl⟩⟩)
      | (exfalso; simp_all only [Bool.false_eq_true])

theorem nm_c (t : Tk) (q : Nat) (w : World) : Calls Tryz.prog 38 #[.agg (tkv t q)] w fun e w' => e = .returned (.bool (isNm t)) ∧ Below w.heap.size w w' := by
  have hr := reserved_c t.s
  unfold isNm
  by_cases h0 : t.kind = 0
  · have h1 : ((t.kind : Nat) : Int) = 0 := by omega
    cases e : resv t.s
    all_goals
      rw [e] at hr
      unfold tkv
      clear e
      go_enter Tryz.func38, Tryz.ntmps38
      go_wp2_with (go_at_call 56; refine (hr _).mono ?_; rintro e w' ⟨rfl, rfl⟩)
      go_ret
      exact ⟨by simp [h0], (Below.refl _ _).alloc (Nat.le_refl _) _⟩
  · have h1 : ¬ ((t.kind : Nat) : Int) = 0 := by omega
    unfold tkv
    go_enter Tryz.func38, Tryz.ntmps38
    go_wp2
    go_ret
    exact ⟨by simp [h0], (Below.refl _ _).alloc (Nat.le_refl _) _⟩

theorem anyTo_succ (l : List (List UInt8)) (x : List UInt8) (k : Nat) (h : k < l.length) : (l.take (k + 1)).any (fun y => x == y) = ((l.take k).any (fun y => x == y) || (x == l[k])) := by
  rw [List.take_succ_eq_append_getElem h, List.any_append]
  simp

theorem any_yes (l : List (List UInt8)) (x : List UInt8) (k : Nat) (h : k < l.length) (e : (x == l[k]) = true) : l.any (fun y => x == y) = true :=
  List.any_eq_true.2 ⟨_, List.getElem_mem h, e⟩

set_option maxRecDepth 100000 in
set_option maxHeartbeats 2000000 in
theorem index_c (l : List (List UInt8)) (x : List UInt8) (w : World) (v : Value) (h : Strs w v l) (hl : l.length ≤ 100) : Calls Tryz.prog 103 #[v, .string (bs x)] w fun e w' => ∃ i : Int, e = .returned (.int .i64 i) ∧ decide (0 ≤ i) = l.any (fun y => x == y) ∧ w' = w := by
  have ht := bs_toList x
  rcases h with ⟨rfl, rfl⟩ | ⟨g, rfl, hH⟩
  · go_enter Tryz.func103, Tryz.ntmps103
    go_wp2
    go_loop [8] (fun z => z = .int .i64 0) (fun _ => 0)
    case atStart => rfl
    case round =>
      subst hrel
      go_wp2
      go_ret
      exact ⟨-1, rfl, by simp, rfl⟩
  · obtain ⟨n, hn⟩ : ∃ n, n = l.length := ⟨_, rfl⟩
    have HN : Hid (n = l.length) := hn
    have hn2 : n ≤ 100 := by omega
    rw [← hn]
    clear hn
    go_enter Tryz.func103, Tryz.ntmps103
    go_wp2
    go_loop [8] (fun z => ∃ k : Nat, k ≤ n ∧ z = .int .i64 (k : Nat) ∧ (l.take k).any (fun y => x == y) = false) (fun z => n - (intOf z).toNat)
    case atStart => exact ⟨0, Nat.zero_le _, rfl, rfl⟩
    case round =>
      obtain ⟨k, hk, rfl, hr⟩ := hrel
      have HR : Hid ((l.take k).any (fun y => x == y) = false) := hr
      clear hr
      by_cases hlt : k < n
      · have hlt' : k < l.length := by rw [← HN.out]; exact hlt
        have h2 : (k : Int) < (n : Int) := by omega
        have hc : w.cell? ⟨g, k, none⟩ = some (.string (bs (l[k]'hlt'))) := by rw [hH.cell]; simp [hlt']
        have ht2 := bs_toList (l[k]'hlt')
        have hy := any_yes l x k hlt'
        have hs := anyTo_succ l x k hlt'
        generalize l[k]'hlt' = y at hc ht2 hy hs
        have HS : Hid ((l.take (k + 1)).any (fun y => x == y) = ((l.take k).any (fun y => x == y) || (x == y))) := hs
        have HY : Hid ((x == y) = true → l.any (fun y => x == y) = true) := hy
        clear hy hs hlt'
        cases e : (x == y)
        · go_wp2
          go_round
          case rel => exact ⟨k + 1, by omega, by go_num, by rw [HS.out, HR.out, e]; rfl⟩
          case measure => simp [intOf]; omega
        · go_wp2
          go_ret
          exact ⟨_, rfl, by rw [HY.out e]; simp, rfl⟩
      · have hk2 : k = n := by omega
        subst hk2
        go_wp2
        go_ret
        refine ⟨-1, rfl, ?_, rfl⟩
        have := HR.out
        rw [HN.out, List.take_length] at this
        rw [this]
        rfl

theorem contains_c (l : List (List UInt8)) (x : List UInt8) (w : World) (v : Value) (h : Strs w v l) (hl : l.length ≤ 100) : Calls Tryz.prog 85 #[v, .string (bs x)] w fun e w' => e = .returned (.bool (l.any (fun y => x == y))) ∧ w' = w := by
  have hi := index_c l x w v h hl
  go_enter Tryz.func85, Tryz.ntmps85
  go_wp2_with (go_at_call 103; refine hi.mono ?_; rintro e w' ⟨i, rfl, hd, rfl⟩)
  go_ret
  exact ⟨ret_bool (by rw [← hd]), rfl⟩

theorem sign_c (x : List UInt8) (t : Tk) (q p : Nat) (w : World) (h : Has w p 9 #[.string (bs x)]) : Calls Tryz.prog 87 #[.agg (tkv t q), .pointer (some ⟨p, 0, none⟩)] w fun e w' => e = .returned (.bool (isSg x t)) ∧ Below w.heap.size w w' := by
  have c0 := h.cell 0
  have hl := h.lt
  have ht := bs_toList x
  have ht2 := bs_toList t.s
  unfold isSg
  by_cases h0 : t.kind = 3
  · have h1 : ((t.kind : Nat) : Int) = 3 := by omega
    unfold tkv
    go_enter Tryz.func87, Tryz.ntmps87
    go_wp2
    go_ret
    exact ⟨ret_bool (by simp [h0]), (Below.refl _ _).alloc (Nat.le_refl _) _⟩
  · have h1 : ¬ ((t.kind : Nat) : Int) = 3 := by omega
    unfold tkv
    go_enter Tryz.func87, Tryz.ntmps87
    go_wp2
    go_ret
    exact ⟨ret_bool (by simp [h0]), (Below.refl _ _).alloc (Nat.le_refl _) _⟩

theorem kind_c (k : Nat) (t : Tk) (q p : Nat) (w : World) (h : Has w p 56 #[.int .i64 (k : Nat)]) : Calls Tryz.prog 86 #[.agg (tkv t q), .pointer (some ⟨p, 0, none⟩)] w fun e w' => e = .returned (.bool (isKi k t)) ∧ Below w.heap.size w w' := by
  have c0 := h.cell 0
  have hl := h.lt
  unfold isKi
  by_cases h0 : t.kind = k
  · have h1 : ((t.kind : Nat) : Int) = (k : Int) := by omega
    unfold tkv
    go_enter Tryz.func86, Tryz.ntmps86
    go_wp2
    go_ret
    refine ⟨ret_bool ?_, (Below.refl _ _).alloc (Nat.le_refl _) _⟩
    rw [Bool.eq_iff_iff]
    simp
    try omega
  · have h1 : ¬ ((t.kind : Nat) : Int) = (k : Int) := by omega
    unfold tkv
    go_enter Tryz.func86, Tryz.ntmps86
    go_wp2
    go_ret
    refine ⟨ret_bool ?_, (Below.refl _ _).alloc (Nat.le_refl _) _⟩
    rw [Bool.eq_iff_iff]
    simp
    try omega

theorem word_c (l : List (List UInt8)) (t : Tk) (q p : Nat) (w : World) (v : Value) (hs : Strs w v l) (hl : l.length ≤ 100) (h : Has w p 67 #[v]) : Calls Tryz.prog 84 #[.agg (tkv t q), .pointer (some ⟨p, 0, none⟩)] w fun e w' => e = .returned (.bool (isWd l t)) ∧ Below w.heap.size w w' := by
  have c0 := h.cell 0
  have hlt := h.lt
  obtain ⟨A, L, C, rfl⟩ : ∃ A L C, v = .slice A L C := by rcases hs with ⟨_, rfl⟩ | ⟨g, rfl, _⟩ <;> exact ⟨_, _, _, rfl⟩
  have hcn := fun W (hW : Below w.heap.size w W) => contains_c l t.s W _ (hs.below hW) hl
  unfold isWd
  by_cases h0 : t.kind = 0
  · have h1 : ((t.kind : Nat) : Int) = 0 := by omega
    unfold tkv
    go_enter Tryz.func84, Tryz.ntmps84
    go_wp2_with (go_at_call 85; refine (hcn _ ((Below.refl _ _).alloc (Nat.le_refl _) _)).mono ?_; rintro e w' ⟨rfl, rfl⟩)
    go_ret
    exact ⟨ret_bool (by simp [h0]), (Below.refl _ _).alloc (Nat.le_refl _) _⟩
  · have h1 : ¬ ((t.kind : Nat) : Int) = 0 := by omega
    unfold tkv
    go_enter Tryz.func84, Tryz.ntmps84
    go_wp2
    go_ret
    exact ⟨ret_bool (by simp [h0]), (Below.refl _ _).alloc (Nat.le_refl _) _⟩

set_option maxRecDepth 100000 in
set_option maxHeartbeats 2000000 in
theorem begins_c (t : Tk) (q : Nat) (w : World) : Calls Tryz.prog 88 #[.agg (tkv t q)] w fun e w' => e = .returned (.bool (begins t)) ∧ Below w.heap.size w w' := by
  have hin := inside_c t.s
  have hnm := nm_c t q
  unfold begins
  have hk : ∃ L, L = (kw (inside t.s).1).length ∧ L = (inside t.s).1.length := ⟨_, rfl, by simp [kw]⟩
  have hS : ∀ w v, Strs w v (kw (inside t.s).1) → ∃ A C, v = .slice A (kw (inside t.s).1).length C := by
    rintro w v (⟨h, rfl⟩ | ⟨g, rfl, _⟩)
    · exact ⟨none, 0, by rw [h]; rfl⟩
    · exact ⟨_, _, rfl⟩
  obtain ⟨L, hL, hL2⟩ := hk
  rw [← hL2]
  rw [← hL] at hS
  have HL : Hid (L = (kw (inside t.s).1).length) := hL
  clear hL hL2
  have b1 : ∀ {w1 w2 : World} {o : Obj}, Below (w.alloc o).heap.size (w.alloc o) w1 → Below w1.heap.size w1 w2 → Below w.heap.size w w2 := fun h1 h2 => (((Below.refl _ _).alloc (Nat.le_refl _) _).trans (h1.mono (by simp))).trans (h2.mono (by have := h1.size; simp at this; omega))
  cases en : isNm t
  · rw [en] at hnm
    clear en
    by_cases h0 : t.kind = 0
    · obtain ⟨K, S, N⟩ := t
      simp only at h0 hin HL
      subst h0
      have hnm' : ∀ w, Calls Tryz.prog 38 #[.agg #[.int .i64 0, .string (bs S), .int .i64 (N : Nat), .int .i64 (q : Nat)]] w fun e w' => e = .returned (.bool false) ∧ Below w.heap.size w w' := hnm
      have hg : ∀ w R, Calls Tryz.prog 88 #[.agg #[.int .i64 0, .string (bs S), .int .i64 (N : Nat), .int .i64 (q : Nat)]] w R → Calls Tryz.prog 88 #[.agg (tkv ⟨0, S, N⟩ q)] w R := fun w R h => h
      refine hg _ _ ?_
      clear hg hnm
      by_cases hL0 : 0 < L
      · have hL1 : (0 : Int) < (L : Int) := by omega
        have hv : (false || ((⟨0, S, N⟩ : Tk).kind == 0 && decide (0 < L))) = true := by simp [hL0]
        rw [hv]
        clear hv
        go_enter Tryz.func88, Tryz.ntmps88
        go_wp2_with (first
          | (go_at_call 57; refine (hin _).mono ?_; rintro e w1 ⟨v, rfl, hb1, hs1⟩; obtain ⟨A, C, rfl⟩ := hS _ _ hs1; have hh := (Has.new w _ _).below hb1 (by simp); have c0 := hh.cell 0; have c1 := hh.cell 1; have c2 := hh.cell 2; have c3 := hh.cell 3)
          | (go_at_call 38; refine (hnm' _).mono ?_; rintro e w2 ⟨rfl, hb2⟩; have hh2 := hh.below hb2 hh.lt; have d0 := hh2.cell 0))
        go_ret
        exact ⟨rfl, b1 hb1 hb2⟩
      · have hL1 : ¬ (0 : Int) < (L : Int) := by omega
        have hv : (false || ((⟨0, S, N⟩ : Tk).kind == 0 && decide (0 < L))) = false := by simp [hL0]
        rw [hv]
        clear hv
        go_enter Tryz.func88, Tryz.ntmps88
        go_wp2_with (first
          | (go_at_call 57; refine (hin _).mono ?_; rintro e w1 ⟨v, rfl, hb1, hs1⟩; obtain ⟨A, C, rfl⟩ := hS _ _ hs1; have hh := (Has.new w _ _).below hb1 (by simp); have c0 := hh.cell 0; have c1 := hh.cell 1; have c2 := hh.cell 2; have c3 := hh.cell 3)
          | (go_at_call 38; refine (hnm' _).mono ?_; rintro e w2 ⟨rfl, hb2⟩; have hh2 := hh.below hb2 hh.lt; have d0 := hh2.cell 0))
        go_ret
        exact ⟨rfl, b1 hb1 hb2⟩
    · have h1 : ¬ ((t.kind : Nat) : Int) = 0 := by omega
      have hv : (false || (t.kind == 0 && decide (0 < L))) = false := by simp [h0]
      rw [hv]
      clear hv
      unfold tkv at hnm ⊢
      go_enter Tryz.func88, Tryz.ntmps88
      go_wp2_with (first
        | (go_at_call 57; refine (hin _).mono ?_; rintro e w1 ⟨v, rfl, hb1, hs1⟩; obtain ⟨A, C, rfl⟩ := hS _ _ hs1; have hh := (Has.new w _ _).below hb1 (by simp); have c0 := hh.cell 0; have c1 := hh.cell 1; have c2 := hh.cell 2; have c3 := hh.cell 3)
        | (go_at_call 38; refine (hnm _).mono ?_; rintro e w2 ⟨rfl, hb2⟩; have hh2 := hh.below hb2 hh.lt; have d0 := hh2.cell 0))
      go_ret
      exact ⟨rfl, b1 hb1 hb2⟩
  · rw [en] at hnm
    clear en
    rw [Bool.true_or]
    unfold tkv at hnm ⊢
    go_enter Tryz.func88, Tryz.ntmps88
    go_wp2_with (first
      | (go_at_call 57; refine (hin _).mono ?_; rintro e w1 ⟨v, rfl, hb1, hs1⟩; obtain ⟨A, C, rfl⟩ := hS _ _ hs1; have hh := (Has.new w _ _).below hb1 (by simp); have c0 := hh.cell 0; have c1 := hh.cell 1; have c2 := hh.cell 2; have c3 := hh.cell 3)
      | (go_at_call 38; refine (hnm _).mono ?_; rintro e w2 ⟨rfl, hb2⟩))
    go_ret
    exact ⟨rfl, b1 hb1 hb2⟩
end Go.Proofs.YtpckmllmjdafpaaGreatDoor

/- What Scan answers, to call. -/
namespace Go.Proofs.YtpckmllmjdafpaaGreatDoor
open Go.ChangeShapes Go.WideShapes Go.ChangeAt Go.RowKit
set_option linter.unusedVariables false

theorem bs_cat (a b : List UInt8) : bs a ++ bs b = bs (a ++ b) := by
  apply ByteArray.ext
  simp [bs]

theorem ScanR.weak {w w' : World} {R : Except (Nat × Nat) Toks} {e : Ending} (h : ScanR w R e w') : Below w.heap.size w w' ∧ ∃ v er o, e = .returned (.tuple #[v, .int .i64 er, .int .i64 o]) := by
  obtain ⟨hb, h⟩ := h
  refine ⟨hb, ?_⟩
  cases R with
  | error r => obtain ⟨er, o⟩ := r; exact ⟨_, _, _, h⟩
  | ok ts => obtain ⟨v, rfl, _⟩ := h; exact ⟨_, _, _, rfl⟩

/-- What a scan that fails answers. -/
theorem scan_err_c (w : World) (l : List UInt8) (hm : l.length ≤ maxLen) {er o : Nat} (h : Scan l = .error (er, o)) : Calls Tryz.prog 18 #[.string (bs l)] w fun e w' => e = .returned (.tuple #[.slice none 0 0, .int .i64 (er : Nat), .int .i64 (o : Nat)]) ∧ Below w.heap.size w w' := by
  have := scan_any w l hm
  rw [h] at this
  exact this.mono fun e w' hr => ⟨hr.2, hr.1⟩

theorem scan_ok_c (w : World) (l : List UInt8) (hm : l.length ≤ maxLen) {ts : Toks} (h : Scan l = .ok ts) : Calls Tryz.prog 18 #[.string (bs l)] w fun e w' => ∃ A C, e = .returned (.tuple #[.slice A ts.length C, .int .i64 0, .int .i64 (-1)]) ∧ Below w.heap.size w w' ∧ TokRow w' w.heap.size (.slice A ts.length C) ts := by
  have := scan_any w l hm
  rw [h] at this
  refine this.mono ?_
  rintro e w' ⟨hb, v, rfl, hr⟩
  obtain ⟨A, C, rfl⟩ := row_slice hr
  exact ⟨A, C, rfl, hb, hr⟩

theorem scan_weak_c (w : World) (l : List UInt8) (hm : l.length ≤ maxLen) : Calls Tryz.prog 18 #[.string (bs l)] w fun e w' => ∃ v er o, e = .returned (.tuple #[v, .int .i64 er, .int .i64 o]) ∧ Below w.heap.size w w' :=
  (scan_any w l hm).mono fun e w' hr => by obtain ⟨hb, v, er, o, rfl⟩ := hr.weak; exact ⟨v, er, o, rfl, hb⟩

theorem below3 {w a b c : World} (h1 : Below w.heap.size w a) (h2 : Below a.heap.size a b) (h3 : Below b.heap.size b c) : Below w.heap.size w c :=
  (h1.trans (h2.mono h1.size)).trans (h3.mono (by have := h1.size; have := h2.size; omega))

theorem below2 {w a b : World} (h1 : Below w.heap.size w a) (h2 : Below a.heap.size a b) : Below w.heap.size w b := h1.trans (h2.mono h1.size)
end Go.Proofs.YtpckmllmjdafpaaGreatDoor

/- The parser in memory; tokens taken. -/
namespace Go.Proofs.YtpckmllmjdafpaaGreatDoor
open Go.ChangeShapes Go.WideShapes Go.ChangeAt Go.RowKit
set_option linter.unusedVariables false

theorem at_argP {f : FuncId} {args : Array Value} {w : World} {R : Ending → World → Prop} (i : Nat) (v : Value) (h : args[i]? = some v) (k : Calls Tryz.prog f args w R) : Calls Tryz.prog f args w R := k

/-- What changes nothing that was there but the parser. -/
abbrev Kp (p : Nat) (w w' : World) : Prop := w.grownBy w' (some p)

theorem Kp.refl (p : Nat) (w : World) : Kp p w w := ⟨rfl, rfl, rfl, Nat.le_refl _, fun _ _ _ => rfl⟩

theorem Kp.trans {p : Nat} {a b c : World} (h : Kp p a b) (k : Kp p b c) : Kp p a c :=
  ⟨k.os.trans h.os, k.tape.trans h.tape, k.output.trans h.output, Nat.le_trans h.size k.size, fun i hi hn => (k.block i (Nat.lt_of_lt_of_le hi h.size) hn).trans (h.block i hi hn)⟩

theorem Kp.of {p : Nat} {w w' : World} (h : Below w.heap.size w w') : Kp p w w' := ⟨h.os, h.tape, h.output, h.size, fun i hi _ => h.block i hi⟩

theorem Kp.alloc {p : Nat} {w w' : World} (h : Kp p w w') (o : Obj) : Kp p w (w'.alloc o) := h.trans (Kp.of ((Below.refl _ _).alloc (Nat.le_refl _) o))

theorem Kp.below {p : Nat} {w w' : World} (h : Kp p w w') (hp : p < w.heap.size) : Below p w w' := ⟨h.os, h.tape, h.output, h.size, fun k hk => h.block k (by omega) (fun e => by cases e; omega)⟩

theorem Has.kp {p : Nat} {w w' : World} {g t : Nat} {cs : Array Value} (h : Has w g t cs) (hk : Kp p w w') (hne : g ≠ p) : Has w' g t cs := h.grown hk hne

/-- Tokens that lie at a place of a block. -/
def TkIn (w : World) (g off : Nat) (ts : Toks) : Prop := ∀ i (hi : i < ts.length) j, j < 4 → w.cell? ⟨g, off + i * 4 + j, none⟩ = (tkv ts[i].1 ts[i].2)[j]?

/-- A parser, with the tokens that are left. -/
def PAt (w : World) (p : Nat) (ts : Toks) (en : Nat) : Prop := ∃ A C, Has w p 50 #[.slice A ts.length C, .int .i64 (en : Nat)] ∧ ts.length ≤ C ∧ C ≤ 9223372036854775807 ∧ ts.length ≤ 500 ∧ (ts ≠ [] → ∃ g off, A = some ⟨g, off, none⟩ ∧ g < p ∧ TkIn w g off ts)

theorem PAt.lt {w : World} {p en : Nat} {ts : Toks} (h : PAt w p ts en) : p < w.heap.size := by obtain ⟨A, C, h, _⟩ := h; exact h.lt

theorem PAt.len {w : World} {p en : Nat} {ts : Toks} (h : PAt w p ts en) : ts.length ≤ 500 := by obtain ⟨A, C, _, _, _, h, _⟩ := h; exact h

theorem PAt.below {w w' : World} {p en : Nat} {ts : Toks} (h : PAt w p ts en) (hb : Below w.heap.size w w') : PAt w' p ts en := by
  obtain ⟨A, C, hH, h1, h2, h3, h4⟩ := h
  refine ⟨A, C, hH.below hb hH.lt, h1, h2, h3, fun hne => ?_⟩
  obtain ⟨g, off, e, hg, ht⟩ := h4 hne
  have := hH.lt
  exact ⟨g, off, e, hg, fun i hi j hj => (hb.cell (p := ⟨g, off + i * 4 + j, none⟩) (by show g < _; omega)).trans (ht i hi j hj)⟩

/-- What asks whether a token may come. -/
inductive Ask (w : World) (pb : Nat) : Value → (Tk → Bool) → Prop where
  | nm : Ask w pb (.func (.func 38) #[] #[]) isNm
  | be : Ask w pb (.func (.func 88) #[] #[]) begins
  | sg (q : Nat) (x : List UInt8) : q ≠ pb → Has w q 9 #[.string (bs x)] → Ask w pb (.func (.func 87) #[] #[.pointer (some ⟨q, 0, none⟩)]) (isSg x)
  | ki (q k : Nat) : q ≠ pb → Has w q 56 #[.int .i64 (k : Nat)] → Ask w pb (.func (.func 86) #[] #[.pointer (some ⟨q, 0, none⟩)]) (isKi k)
  | wd (q : Nat) (v : Value) (l : List (List UInt8)) : q ≠ pb → Has w q 67 #[v] → Strs w v l → v.ownBlock ≠ some pb → l.length ≤ 100 → Ask w pb (.func (.func 84) #[] #[.pointer (some ⟨q, 0, none⟩)]) (isWd l)

theorem Strs.kp {p : Nat} {w w' : World} {v : Value} {l : List (List UInt8)} (h : Strs w v l) (hk : Kp p w w') (hne : v.ownBlock ≠ some p) : Strs w' v l := by
  rcases h with h | ⟨g, rfl, h⟩
  · exact .inl h
  · exact .inr ⟨g, rfl, h.kp hk (fun e => hne (by rw [← e]; rfl))⟩

theorem Ask.kp {w w' : World} {pb : Nat} {v : Value} {p : Tk → Bool} (h : Ask w pb v p) (hk : Kp pb w w') : Ask w' pb v p := by
  cases h with
  | nm => exact .nm
  | be => exact .be
  | sg q x h1 h2 => exact .sg q x h1 (h2.kp hk h1)
  | ki q k h1 h2 => exact .ki q k h1 (h2.kp hk h1)
  | wd q v l h1 h2 h3 h4 h5 => exact .wd q v l h1 (h2.kp hk h1) (h3.kp hk h4) h4 h5

theorem place_c {w : World} {p en : Nat} {ts : Toks} (h : PAt w p ts en) : Calls Tryz.prog 83 #[.pointer (some ⟨p, 0, none⟩)] w fun e w' => e = .returned (.int .i64 (place en ts : Nat)) ∧ w' = w := by
  obtain ⟨A, C, hH, h1, h2, h3, h4⟩ := h
  have c0 := hH.cell 0
  have c1 := hH.cell 1
  cases ts with
  | nil =>
    simp only [place]
    clear h4
    go_enter Tryz.func83, Tryz.ntmps83
    go_wp2
    go_ret
    exact ⟨rfl, rfl⟩
  | cons t r =>
    obtain ⟨g, off, rfl, hg, ht⟩ := h4 (by simp)
    have d3 : w.cell? ⟨g, off + 3, none⟩ = some (.int .i64 (t.2 : Nat)) := by have := ht 0 (by simp) 3 (by decide); simpa [tkv] using this
    simp only [place, List.length_cons] at *
    obtain ⟨L, hL⟩ : ∃ L, L = r.length := ⟨_, rfl⟩
    rw [← hL] at *
    clear hL ht h4
    go_enter Tryz.func83, Tryz.ntmps83
    go_wp2
    go_ret
    exact ⟨rfl, rfl⟩

set_option maxRecDepth 100000 in
set_option maxHeartbeats 2000000 in
theorem comes_c {w : World} {pb en : Nat} {ts : Toks} (h : PAt w pb ts en) {v : Value} {p : Tk → Bool} (ha : Ask w pb v p) : Calls Tryz.prog 71 #[.pointer (some ⟨pb, 0, none⟩), v] w fun e w' => e = .returned (.bool (pcomes p ts)) ∧ Below w.heap.size w w' := by
  obtain ⟨A, C, hH, h1, h2, h3, h4⟩ := h
  have c0 := hH.cell 0
  have c1 := hH.cell 1
  cases ts with
  | nil =>
    simp only [pcomes]
    clear h4
    cases ha
    all_goals
      go_enter Tryz.func71, Tryz.ntmps71
      go_wp2
      go_ret
      exact ⟨rfl, Below.refl _ _⟩
  | cons t r =>
    obtain ⟨g, off, rfl, hg, ht⟩ := h4 (by simp)
    have d0 : w.cell? ⟨g, off, none⟩ = some (.int .i64 (t.1.kind : Nat)) := by have := ht 0 (by simp) 0 (by decide); simpa [tkv] using this
    have d1 : w.cell? ⟨g, off + 1, none⟩ = some (.string (bs t.1.s)) := by have := ht 0 (by simp) 1 (by decide); simpa [tkv] using this
    have d2 : w.cell? ⟨g, off + 2, none⟩ = some (.int .i64 (t.1.n : Nat)) := by have := ht 0 (by simp) 2 (by decide); simpa [tkv] using this
    have d3 : w.cell? ⟨g, off + 3, none⟩ = some (.int .i64 (t.2 : Nat)) := by have := ht 0 (by simp) 3 (by decide); simpa [tkv] using this
    simp only [pcomes, List.length_cons] at *
    obtain ⟨L, hL⟩ : ∃ L, L = r.length := ⟨_, rfl⟩
    rw [← hL] at *
    clear hL ht h4
    cases ha with
    | nm =>
      have hc := nm_c t.1 t.2 w
      generalize isNm t.1 = B at hc ⊢
      go_enter Tryz.func71, Tryz.ntmps71
      go_wp2_with (go_at_call 38; refine hc.mono ?_; rintro e w1 ⟨rfl, hb⟩)
      go_ret
      exact ⟨rfl, hb⟩
    | be =>
      have hc := begins_c t.1 t.2 w
      generalize begins t.1 = B at hc ⊢
      go_enter Tryz.func71, Tryz.ntmps71
      go_wp2_with (go_at_call 88; refine hc.mono ?_; rintro e w1 ⟨rfl, hb⟩)
      go_ret
      exact ⟨rfl, hb⟩
    | sg q x hq hx =>
      have hc := sign_c x t.1 t.2 q w hx
      generalize isSg x t.1 = B at hc ⊢
      go_enter Tryz.func71, Tryz.ntmps71
      go_wp2_with (go_at_call 87; refine hc.mono ?_; rintro e w1 ⟨rfl, hb⟩)
      go_ret
      exact ⟨rfl, hb⟩
    | ki q k hq hx =>
      have hc := kind_c k t.1 t.2 q w hx
      generalize isKi k t.1 = B at hc ⊢
      go_enter Tryz.func71, Tryz.ntmps71
      go_wp2_with (go_at_call 86; refine hc.mono ?_; rintro e w1 ⟨rfl, hb⟩)
      go_ret
      exact ⟨rfl, hb⟩
    | wd q v l hq hx hs hv hl =>
      have hc := word_c l t.1 t.2 q w v hs hl hx
      generalize isWd l t.1 = B at hc ⊢
      go_enter Tryz.func71, Tryz.ntmps71
      go_wp2_with (go_at_call 84; refine hc.mono ?_; rintro e w1 ⟨rfl, hb⟩)
      go_ret
      exact ⟨rfl, hb⟩
end Go.Proofs.YtpckmllmjdafpaaGreatDoor

/- A token taken, or a fault. -/
namespace Go.Proofs.YtpckmllmjdafpaaGreatDoor
open Go.ChangeShapes Go.WideShapes Go.ChangeAt Go.RowKit
set_option linter.unusedVariables false

/-- What panics where a text is no file. -/
def flt (c k : Nat) : List PanicEntry := [{ v := .iface 62 (.agg #[.int .i64 (c : Nat), .int .i64 (k : Nat)]), recovered := false }]

theorem run_slice_one {o : Oper} {a : Act} (x l : Operand) (ho : o.op = .slice 44 x (some l) none none) (b off L cap : Nat) (hx : a.eval x = .slice (some ⟨b, off, none⟩) L cap) (hl : a.eval l = .int .i64 1) (h1 : 1 ≤ L) (w : World) :
    (execOp a.eval o).run Tryz.prog w = .ok (.value (.slice (some (if cap = 1 then ⟨b, off, none⟩ else ⟨b, off + 4, none⟩)) (L - 1) (cap - 1))) w := by
  unfold execOp
  simp only [ho, hx, hl, Option.map_some, Option.map_none]
  obtain ⟨i0, hi, hz0, hz1, hz2⟩ := info_parts Tryz.infoTok
  have h1' : (1 : Int) ≤ (L : Int) := by omega
  simp [Instr.sliceAt, Instr.slice, Instr.sliceBounds, Instr.sliceBound, run_underlying Tryz.underlying44, go_sem, asIntOf, h1', sizeOf, typeInfo, hi, hz1]
  split <;> rfl

theorem Kp.setNew {p : Nat} {w w' : World} (h : Kp p w w') {q : Addr} (hq : w.heap.size ≤ q.block) (v : Value) : Kp p w (w'.setCell q v) :=
  ⟨h.os, h.tape, h.output, by have := h.size; simpa using this, fun k hk hn => (Below.heap_setCell w' q v k (by omega)).trans (h.block k hk hn)⟩

theorem Kp.setP {p : Nat} {w w' : World} (h : Kp p w w') (j : Nat) (v : Value) : Kp p w (w'.setCell ⟨p, j, none⟩ v) :=
  ⟨h.os, h.tape, h.output, by have := h.size; simpa using this, fun k hk hn => (Below.heap_setCell w' ⟨p, j, none⟩ v k (fun e => hn (by rw [e]))).trans (h.block k hk hn)⟩

theorem Has.putP {w : World} {g t : Nat} {cs : Array Value} (h : Has w g t cs) (j : Nat) (v : Value) : Has (w.setCell ⟨g, j, none⟩ v) g t (cs.setIfInBounds j v) := by
  have h' : w.heap[g]? = some (.cells cs t (0, 0)) := h
  show (w.setCell ⟨g, j, none⟩ _).heap[g]? = _
  simp only [World.setCell, Array.getElem?_modify, h', if_pos, Option.map_some]
  rfl

theorem ret_tok {fn : Func} {R : Ending → World → Prop} {a : Act} {W : World} {s g : Nat} {x0 x1 x2 x3 : Value} (hr : fn.results = #[.cell s 58]) (hs : a.tmps[s]?.getD undef = .pointer (some ⟨g, 0, none⟩)) (hH : Has W g 58 #[x0, x1, x2, x3]) (hd : a.defers = []) (h : R (.returned (.agg #[x0, x1, x2, x3])) W) : bodyPost Tryz.prog fn R .ret a W := by
  have q0 := hH.cell 0
  have q1 := hH.cell 1
  have q2 := hH.cell 2
  have q3 := hH.cell 3
  exact bodyPost_ret (by simp only [results, hr]; simp [hs, go_sem, q0, q1, q2, q3]) hd h

theorem ret_node {fn : Func} {R : Ending → World → Prop} {a : Act} {W : World} {s g : Nat} {x0 x1 x2 x3 x4 : Value} (hr : fn.results = #[.cell s 24]) (hs : a.tmps[s]?.getD undef = .pointer (some ⟨g, 0, none⟩)) (hH : Has W g 24 #[x0, x1, x2, x3, x4]) (hd : a.defers = []) (h : R (.returned (.agg #[x0, x1, x2, x3, x4])) W) : bodyPost Tryz.prog fn R .ret a W := by
  have q0 := hH.cell 0
  have q1 := hH.cell 1
  have q2 := hH.cell 2
  have q3 := hH.cell 3
  have q4 := hH.cell 4
  exact bodyPost_ret (by simp only [results, hr]; simp [hs, go_sem, q0, q1, q2, q3, q4]) hd h

theorem Has.set4 {w : World} {g t : Nat} {a b c d : Value} (h : Has w g t #[a, b, c, d]) (x0 x1 x2 x3 : Value) : Has ((((w.setCell ⟨g, 0, none⟩ x0).setCell ⟨g, 1, none⟩ x1).setCell ⟨g, 2, none⟩ x2).setCell ⟨g, 3, none⟩ x3) g t #[x0, x1, x2, x3] := by
  have := (((h.putP 0 x0).putP 1 x1).putP 2 x2).putP 3 x3
  simpa using this

theorem Has.set5 {w : World} {g t : Nat} {a b c d e : Value} (h : Has w g t #[a, b, c, d, e]) (x0 x1 x2 x3 x4 : Value) : Has (((((w.setCell ⟨g, 0, none⟩ x0).setCell ⟨g, 1, none⟩ x1).setCell ⟨g, 2, none⟩ x2).setCell ⟨g, 3, none⟩ x3).setCell ⟨g, 4, none⟩ x4) g t #[x0, x1, x2, x3, x4] := by
  have := ((((h.putP 0 x0).putP 1 x1).putP 2 x2).putP 3 x3).putP 4 x4
  simpa using this

theorem TkIn.kp {w w' : World} {p g off : Nat} {ts : Toks} (h : TkIn w g off ts) (hk : Kp p w w') (hg : g ≠ p) (hl : g < w.heap.size) : TkIn w' g off ts :=
  fun i hi j hj => (World.cell?_of_block (hk.block g hl (fun e => hg (by cases e; rfl)))).trans (h i hi j hj)

theorem TkIn.tail {w : World} {g off : Nat} {t : Tk × Nat} {ts : Toks} (h : TkIn w g off (t :: ts)) : TkIn w g (off + 4) ts := by
  intro i hi j hj
  have := h (i + 1) (by simp; omega) j hj
  rw [show off + 4 + i * 4 + j = off + (i + 1) * 4 + j by omega]
  exact this

/-- What taking the next token leaves. -/
def TookR (w : World) (pb en : Nat) (t : Tk × Nat) (r : Toks) (e : Ending) (w' : World) : Prop := e = .returned (.agg (tkv t.1 t.2)) ∧ PAt w' pb r en ∧ Kp pb w w'

set_option maxRecDepth 100000 in
set_option maxHeartbeats 2000000 in
theorem take_ok {w : World} {pb en : Nat} {t : Tk × Nat} {r : Toks} (h : PAt w pb (t :: r) en) {v : Value} {p : Tk → Bool} (ha : Ask w pb v p) (hp : p t.1 = true) : Calls Tryz.prog 66 #[.pointer (some ⟨pb, 0, none⟩), v] w (TookR w pb en t r) := by
  have hcm := fun o => comes_c (h.below ((Below.refl w.heap.size w).alloc (Nat.le_refl _) o)) (ha.kp (Kp.of ((Below.refl w.heap.size w).alloc (Nat.le_refl _) o)))
  simp only [pcomes, hp] at hcm
  obtain ⟨A, C, hH, h1, h2, h3, h4⟩ := h
  have hlt := hH.lt
  obtain ⟨g, off, rfl, hg, ht⟩ := h4 (by simp)
  have d0 : w.cell? ⟨g, off, none⟩ = some (.int .i64 (t.1.kind : Nat)) := by have := ht 0 (by simp) 0 (by decide); simpa [tkv] using this
  have d1 : w.cell? ⟨g, off + 1, none⟩ = some (.string (bs t.1.s)) := by have := ht 0 (by simp) 1 (by decide); simpa [tkv] using this
  have d2 : w.cell? ⟨g, off + 2, none⟩ = some (.int .i64 (t.1.n : Nat)) := by have := ht 0 (by simp) 2 (by decide); simpa [tkv] using this
  have d3 : w.cell? ⟨g, off + 3, none⟩ = some (.int .i64 (t.2 : Nat)) := by have := ht 0 (by simp) 3 (by decide); simpa [tkv] using this
  simp only [List.length_cons] at *
  obtain ⟨L, hL⟩ : ∃ L, L = r.length := ⟨_, rfl⟩
  rw [← hL] at hH h1 h3
  obtain ⟨R, hR⟩ : ∃ R : Addr, R = if C = 1 then (⟨g, off, none⟩ : Addr) else ⟨g, off + 4, none⟩ := ⟨_, rfl⟩
  have HR : Hid (R = if C = 1 then (⟨g, off, none⟩ : Addr) else ⟨g, off + 4, none⟩) := hR
  have HT : Hid (TkIn w g off (t :: r)) := ht
  have HL : Hid (L = r.length) := hL
  clear hL ht h4 hR hp
  have hv : ∃ fn fs cs, v = .func fn fs cs := by cases ha <;> exact ⟨_, _, _, rfl⟩
  obtain ⟨fn, fs, cs, rfl⟩ := hv
  clear ha
  have hz : w.heap.size ≠ pb := by omega
  have hz' : pb ≠ w.heap.size := by omega
  go_enter Tryz.func66, Tryz.ntmps66
  go_wp2_with (first
    | ((go_at_call 71)
       (refine (hcm _).mono ?_)
       (rintro e w1 ⟨rfl, hb⟩)
       (have hbw : Below w.heap.size w w1 := ((Below.refl _ _).alloc (Nat.le_refl _) _).trans (hb.mono (by simp)))
       (have hr4 : Has w1 w.heap.size 58 #[.int .i64 0, .string ⟨#[]⟩, .int .i64 0, .int .i64 0] := (Has.new w _ _).below hb (by simp))
       (have r0 := hr4.cell 0)
       (have r1 := hr4.cell 1)
       (have r2 := hr4.cell 2)
       (have r3 := hr4.cell 3)
       (have f0 := hr4.free 0)
       (have f1 := hr4.free 1)
       (have f2 := hr4.free 2)
       (have f3 := hr4.free 3)
       (have hH1 := hH.below hbw hlt)
       (have hlt1 := hH1.lt)
       (have hlt4 := hr4.lt)
       (have c0 := hH1.cell 0)
       (have c1 := hH1.cell 1)
       (have z0 := hH1.free 0)
       (have e0 := (hbw.cell (p := ⟨g, off, none⟩) (by show g < _; omega)).trans d0)
       (have e1 := (hbw.cell (p := ⟨g, off + 1, none⟩) (by show g < _; omega)).trans d1)
       (have e2 := (hbw.cell (p := ⟨g, off + 2, none⟩) (by show g < _; omega)).trans d2)
       (have e3 := (hbw.cell (p := ⟨g, off + 3, none⟩) (by show g < _; omega)).trans d3)
       (have hgp : g ≠ pb := by omega))
    | ((refine at_dstL 25 rfl ?_)
       (refine wpList_is (some 25) (.slice (some R) L (C - 1)) rfl rfl (by rw [HR.out]; exact run_slice_one _ _ rfl g off (L + 1) C rfl rfl (by omega) _) ?_)))
  have hk : Kp pb w w1 := Kp.of hbw
  refine ret_tok rfl rfl (((hr4.other hz _).set4 _ _ _ _).alloc _) rfl ⟨rfl, ?_, ((((((hk.setP 0 _).setNew (Nat.le_refl _) _).setNew (Nat.le_refl _) _).setNew (Nat.le_refl _) _).setNew (Nat.le_refl _) _).alloc _)⟩
  refine ⟨some R, C - 1, ?_, by rw [← HL.out]; omega, by omega, by rw [← HL.out]; omega, fun hne => ?_⟩
  · rw [← HL.out]
    exact (((((hH1.putP 0 _).other hz' _).other hz' _).other hz' _).other hz' _).alloc _
  · have hL0 : L ≠ 0 := by rw [HL.out]; intro e; exact hne (List.length_eq_zero_iff.1 e)
    refine ⟨g, off + 4, by rw [HR.out, if_neg (by omega)], hg, (HT.out.tail).kp ((((((hk.setP 0 _).setNew (Nat.le_refl _) _).setNew (Nat.le_refl _) _).setNew (Nat.le_refl _) _).setNew (Nat.le_refl _) _).alloc _) hgp (by omega)⟩

set_option maxRecDepth 100000 in
set_option maxHeartbeats 2000000 in
theorem take_no {w : World} {pb en : Nat} {ts : Toks} (h : PAt w pb ts en) {v : Value} {p : Tk → Bool} (ha : Ask w pb v p) (hp : pcomes p ts = false) : Calls Tryz.prog 66 #[.pointer (some ⟨pb, 0, none⟩), v] w fun e w' => e = .panicked (flt 111 (place en ts)) ∧ Below w.heap.size w w' := by
  have hcm := fun o => comes_c (h.below ((Below.refl w.heap.size w).alloc (Nat.le_refl _) o)) (ha.kp (Kp.of ((Below.refl w.heap.size w).alloc (Nat.le_refl _) o)))
  rw [hp] at hcm
  have hpl := fun W (hW : Below w.heap.size w W) => place_c (h.below hW)
  have hv : ∃ fn fs cs, v = .func fn fs cs := by cases ha <;> exact ⟨_, _, _, rfl⟩
  obtain ⟨fn, fs, cs, rfl⟩ := hv
  obtain ⟨k, hk⟩ : ∃ k, k = place en ts := ⟨_, rfl⟩
  rw [← hk] at hpl ⊢
  clear ha hp h hk
  go_enter Tryz.func66, Tryz.ntmps66
  go_wp2_with (first
    | ((go_at_call 71)
       (refine (hcm _).mono ?_)
       (rintro e w1 ⟨rfl, hb⟩)
       (have hbw : Below w.heap.size w w1 := ((Below.refl _ _).alloc (Nat.le_refl _) _).trans (hb.mono (by simp))))
    | ((go_at_call 83)
       (refine (hpl _ hbw).mono ?_)
       (rintro e w2 ⟨rfl, hw2⟩)
       (obtain rfl : w1 = w2 := hw2.symm)))
  exact ⟨rfl, rfl, hbw⟩

theorem isSign_c (x : List UInt8) (w : World) : Calls Tryz.prog 69 #[.string (bs x)] w fun e w' => e = .returned (.func (.func 87) #[] #[.pointer (some ⟨w.heap.size, 0, none⟩)]) ∧ w' = w.alloc (.cells #[.string (bs x)] 9) := by
  go_enter Tryz.func69, Tryz.ntmps69
  go_wp2
  go_ret
  exact ⟨rfl, rfl⟩

theorem isKind_c (k : Nat) (w : World) : Calls Tryz.prog 68 #[.int .i64 (k : Nat)] w fun e w' => e = .returned (.func (.func 86) #[] #[.pointer (some ⟨w.heap.size, 0, none⟩)]) ∧ w' = w.alloc (.cells #[.int .i64 (k : Nat)] 56) := by
  go_enter Tryz.func68, Tryz.ntmps68
  go_wp2
  go_ret
  exact ⟨rfl, rfl⟩

theorem isWord_c (A : Option Addr) (L C : Nat) (w : World) : Calls Tryz.prog 67 #[.slice A L C] w fun e w' => e = .returned (.func (.func 84) #[] #[.pointer (some ⟨w.heap.size, 0, none⟩)]) ∧ w' = w.alloc (.cells #[.slice A L C] 67) := by
  go_enter Tryz.func67, Tryz.ntmps67
  go_wp2
  go_ret
  exact ⟨rfl, rfl⟩
end Go.Proofs.YtpckmllmjdafpaaGreatDoor

/- Trees in memory. -/
namespace Go.Proofs.YtpckmllmjdafpaaGreatDoor
open Go.ChangeShapes Go.WideShapes Go.ChangeAt Go.RowKit
set_option linter.unusedVariables false

/-- A node, cell by cell; v: where its parts lie. -/
def ndc (n : Nd) (v : Value) : Array Value := #[.string (bs n.op), .string (bs n.s), .int .i64 n.n, .int .i64 n.a, v]

def ndl (l : List Nd) (vs : List Value) : List Value := (l.zip vs).flatMap fun x => (ndc x.1 x.2).toList

/-- Nodes in rows of their own, all in blocks that meet P. -/
inductive NdR (w : World) (P : Nat → Prop) : List Nd → Value → Prop where
  | mk (l : List Nd) (vs : List Value) (v : Value) : vs.length = l.length → w.ownsRow 0 24 5 v l.length (ndl l vs) → (∀ g, v.ownBlock = some g → P g) →
      (∀ i (h : i < l.length) (h' : i < vs.length), NdR w P l[i].l vs[i]) → NdR w P l v

theorem NdR.keep {w w' : World} {P : Nat → Prop} {l : List Nd} {v : Value} (h : NdR w P l v) (hk : ∀ g o, P g → w.heap[g]? = some o → w'.heap[g]? = some o) : NdR w' P l v := by
  induction h with
  | mk l vs v h1 h2 h3 h4 ih => exact .mk l vs v h1 (row_grown h2 (fun g o e ho => hk g o (h3 g e) ho)) h3 ih

theorem NdR.mono {w : World} {P Q : Nat → Prop} {l : List Nd} {v : Value} (h : NdR w P l v) (hk : ∀ g, P g → Q g) : NdR w Q l v := by
  induction h with
  | mk l vs v h1 h2 h3 h4 ih => exact .mk l vs v h1 h2 (fun g e => hk g (h3 g e)) ih

theorem NdR.imp {w : World} {P Q : Nat → Prop} {l : List Nd} {v : Value} (h : NdR w P l v) (hk : ∀ g, P g → g < w.heap.size → Q g) : NdR w Q l v := by
  induction h with
  | mk l vs v h1 h2 h3 h4 ih => exact .mk l vs v h1 h2 (fun g e => hk g (h3 g e) (row_lt h2 e).1) ih

theorem NdR.grow {w w' : World} {P : Nat → Prop} {l : List Nd} {v : Value} (h : NdR w P l v) (hb : Below w.heap.size w w') : NdR w' P l v :=
  h.keep fun g o _ ho => (hb.block g (Array.getElem?_eq_some_iff.1 ho).1).trans ho

theorem NdR.kp {w w' : World} {P : Nat → Prop} {l : List Nd} {v : Value} {p : Nat} (h : NdR w P l v) (hb : Kp p w w') (hp : ∀ g, P g → g ≠ p) : NdR w' P l v :=
  h.keep fun g o hg ho => (hb.block g (Array.getElem?_eq_some_iff.1 ho).1 (fun e => hp g hg (by cases e; rfl))).trans ho

theorem NdR.nil (w : World) (P : Nat → Prop) : NdR w P [] (.slice none 0 0) := .mk [] [] _ rfl ⟨rfl, .inl ⟨rfl, rfl⟩⟩ (fun g e => by cases e) (fun i h => by simp at h)

theorem NdR.slice {w : World} {P : Nat → Prop} {l : List Nd} {v : Value} (h : NdR w P l v) : ∃ A C, v = .slice A l.length C := by
  cases h with
  | mk l vs v h1 h2 h3 h4 =>
    rcases h2.2 with ⟨rfl, h0⟩ | ⟨g, cap, cur, rfl, _⟩
    · exact ⟨none, 0, by rw [h0]⟩
    · exact ⟨_, _, rfl⟩

theorem ndl_nil (vs : List Value) : ndl [] vs = [] := rfl

theorem ndl_cons (n : Nd) (l : List Nd) (v : Value) (vs : List Value) : ndl (n :: l) (v :: vs) = (ndc n v).toList ++ ndl l vs := by simp [ndl]

theorem ndl_append (l m : List Nd) (vs us : List Value) (h : vs.length = l.length) : ndl (l ++ m) (vs ++ us) = ndl l vs ++ ndl m us := by
  unfold ndl
  rw [List.zip_append h.symm, List.flatMap_append]

theorem ndl_one (n : Nd) (v : Value) : ndl [n] [v] = (ndc n v).toList := by simp [ndl]

theorem ndl_get (l : List Nd) : ∀ (vs : List Value) (i : Nat) (h : i < l.length) (h' : i < vs.length) (j : Nat), j < 5 → (ndl l vs)[i * 5 + j]? = (ndc l[i] vs[i])[j]? := by
  induction l with
  | nil => intro vs i h; simp at h
  | cons n l ih =>
    intro vs i h h' j hj
    cases vs with
    | nil => simp at h'
    | cons v vs =>
      rw [ndl_cons]
      have e5 : (ndc n v).toList.length = 5 := rfl
      cases i with
      | zero => rw [List.getElem?_append_left (by rw [e5]; omega)]; simp
      | succ i =>
        simp only [List.length_cons] at h h'
        rw [List.getElem?_append_right (by rw [e5]; omega), e5, show (i + 1) * 5 + j - 5 = i * 5 + j by omega, ih vs i (by omega) (by omega) j hj]
        simp

theorem ndc_cells (n : Nd) (A : Option Addr) (L C : Nat) : ∀ u ∈ (ndc n (.slice A L C)).toList, u.oneCell' = true := by
  intro u hu
  simp [ndc] at hu
  rcases hu with rfl | rfl | rfl | rfl | rfl <;> rfl

/-- Nodes under way: the row in which they lie, and their parts. -/
def NRow (w : World) (base : Nat) (l : List Nd) (v : Value) : Prop := ∃ vs, vs.length = l.length ∧ w.ownsRow base 24 5 v l.length (ndl l vs) ∧ ∀ i (h : i < l.length) (h' : i < vs.length), NdR w (fun g => base ≤ g ∧ v.ownBlock ≠ some g) l[i].l vs[i]

theorem NRow.nil (w : World) (base : Nat) : NRow w base [] (.slice none 0 0) := ⟨[], rfl, ⟨rfl, .inl ⟨rfl, rfl⟩⟩, fun i h => by simp at h⟩

theorem NRow.done {w : World} {base : Nat} {l : List Nd} {v : Value} (h : NRow w base l v) : NdR w (fun g => base ≤ g) l v := by
  obtain ⟨vs, h1, h2, h3⟩ := h
  refine .mk l vs v h1 ⟨h2.1, ?_⟩ (fun g e => (row_lt h2 e).2) (fun i h h' => (h3 i h h').mono fun g hg => hg.1)
  rcases h2.2 with h0 | ⟨g, cap, cur, hv, hb, r⟩
  · exact .inl h0
  · exact .inr ⟨g, cap, cur, hv, Nat.zero_le _, r⟩

theorem NRow.slice {w : World} {base : Nat} {l : List Nd} {v : Value} (h : NRow w base l v) : ∃ A C, v = .slice A l.length C := h.done.slice

/-- What grows, but for the parser, leaves a row as it was. -/
theorem NRow.kp {w w' : World} {base p : Nat} {l : List Nd} {v : Value} (h : NRow w base l v) (hk : Kp p w w') (hp : p < base) : NRow w' base l v := by
  obtain ⟨vs, h1, h2, h3⟩ := h
  exact ⟨vs, h1, row_grown h2 (fun g o e ho => (hk.block g (row_lt h2 e).1 (fun e' => by have := (row_lt h2 e).2; cases e'; omega)).trans ho), fun i h h' => (h3 i h h').kp hk (fun g hg => by omega)⟩

theorem Tryz.infoNode : (Tryz.prog.info? 24).map (fun i => (i.zero, i.size, i.bytes)) = some (some (.agg #[.string ⟨#[]⟩, .string ⟨#[]⟩, .int .i64 0, .int .i64 0, .slice none 0 0]), 5, 72) := by kernel_rfl

/-- Where an appended row lies: as before, or anew. -/
theorem append_where {P : Program} {w : World} {base : Nat} {t ty e : TypeId} {i : TypeInfo} {z : Value} {size : Nat} (ht : P.underlying t = some (.slice e)) (hi : P.info? e = some i) (hz : i.zero = some z) (hsize : i.size = size) (hsz : 0 < size)
    {v : Value} {n : Nat} {xs : List Value} (hown : w.ownsRow base e size v n xs) {ad : Addr} {m c : Nat} {news : List Value} (hl : news.length = m * size) (hnews : ∀ j u, news[j]? = some u → w.cell? (ad.add j) = some u) (h1 : ∀ u ∈ news, u.oneCell' = true)
    (h63 : n + m ≤ maxLen) (hbytes : (n + m) * i.bytes ≤ 140737488355328) (hm : 0 < m) {v' : Value} {w' : World} (hr : (Builtin.append_ #[t, t] ty #[v, .slice (some ad) m c]).run P w = .ok v' w') : v'.ownBlock = v.ownBlock ∨ v'.ownBlock = some w.heap.size := by
  subst hsize
  have hsmall : n + m ≤ 9223372036854775807 := by simp only [maxLen] at h63; omega
  rcases hown.2 with ⟨rfl, rfl⟩ | ⟨g, cap, cur, rfl, hbg, hg, hnc, hcm, hcs, htake⟩
  · have hr2 := run_append_nil (P := P) w t ty e i z ht hi hz ad m c news hl hnews (by omega) (by omega) (by have hb := hbytes; simp only [Nat.zero_add] at hb; omega)
    rw [hr2] at hr
    cases hr
    exact .inr rfl
  · by_cases hroom : n + m ≤ cap
    · have hfit : n * i.size + news.length ≤ cur.size := by rw [hl, hcs, ← Nat.add_mul]; exact Nat.mul_le_mul_right _ hroom
      have hr2 := run_append_room (P := P) w t ty e i ht hi g n cap cur hg ad m c news hl hnews h1 hroom hfit
      rw [hr2] at hr
      cases hr
      exact .inl rfl
    · have holds : ∀ j u, xs[j]? = some u → w.cell? ((⟨g, 0, none⟩ : Addr).add j) = some u := hown.cells (g := g) rfl
      have hr2 := run_append_grow (P := P) w t ty e i z ht hi hz ⟨g, 0, none⟩ n cap xs hown.1 holds ad m c news hl hnews (by omega) (by omega) (growslice_fits (by omega) hbytes)
      rw [hr2] at hr
      cases hr
      exact .inr rfl

/-- One node is appended. -/
theorem run_append_node {ty : TypeId} (w : World) (base : Nat) (l : List Nd) (v : Value) (hrow : NRow w base l v) (hbase : base ≤ w.heap.size) (hlen : l.length ≤ 1000) (n : Nd) (A : Option Addr) (L C : Nat) (hn : NdR w (fun g => base ≤ g ∧ v.ownBlock ≠ some g) n.l (.slice A L C)) (G : Nat) (hG : Has w G 24 (ndc n (.slice A L C))) :
    ∃ v' w', (Builtin.append_ #[22, 22] ty #[v, .slice (some ⟨G, 0, none⟩) 1 1]).run Tryz.prog w = .ok v' w' ∧ NRow w' base (l ++ [n]) v' ∧ Below base w w' ∧ w.grownBy w' v.ownBlock := by
  obtain ⟨i0, hi, hz0, hz1, hz2⟩ := info_parts Tryz.infoNode
  obtain ⟨vs, e1, hown, hk⟩ := hrow
  have hnews : ∀ j u, (ndc n (.slice A L C)).toList[j]? = some u → w.cell? ((⟨G, 0, none⟩ : Addr).add j) = some u := by
    intro j u hj
    have := hG.cell j
    rw [show (⟨G, 0, none⟩ : Addr).add j = ⟨G, j, none⟩ by simp [Addr.add]; omega]
    rw [this]
    simpa using hj
  obtain ⟨v', w', hr, h2, h3, h4⟩ := run_append_own (P := Tryz.prog) w base 22 ty 24 i0 _ 5 72 Tryz.underlying22 hi hz0 hz1 hz2 rfl (by decide) v l.length (ndl l vs) hown ⟨G, 0, none⟩ 1 1 (ndc n (.slice A L C)).toList rfl hnews (ndc_cells n A L C) (by unfold maxLen; omega) (by omega) hbase
  have hwh := append_where (P := Tryz.prog) Tryz.underlying22 hi hz0 hz1 (by decide) hown (ad := ⟨G, 0, none⟩) (m := 1) (c := 1) (news := (ndc n (.slice A L C)).toList) rfl hnews (ndc_cells n A L C) (by unfold maxLen; omega) (by rw [hz2]; omega) (by decide) hr
  refine ⟨v', w', hr, ?_, grown_own hown h3 hbase, h3⟩
  have keep : ∀ {l' : List Nd} {x : Value}, NdR w (fun g => base ≤ g ∧ v.ownBlock ≠ some g) l' x → NdR w' (fun g => base ≤ g ∧ v'.ownBlock ≠ some g) l' x := by
    intro l' x h
    have h5 : NdR w (fun g => (base ≤ g ∧ v.ownBlock ≠ some g) ∧ v'.ownBlock ≠ some g) l' x := h.imp fun g hg hlt => ⟨hg, by
      rcases hwh with e | e
      · rw [e]; exact hg.2
      · rw [e]; intro e'; cases e'; omega⟩
    exact (h5.keep (w' := w') fun g o hg ho => (h3.block g (Array.getElem?_eq_some_iff.1 ho).1 (fun e => hg.1.2 e.symm)).trans ho).mono fun g hg => ⟨hg.1.1, hg.2⟩
  refine ⟨vs ++ [.slice A L C], by simp [e1], ?_, ?_⟩
  · rw [ndl_append l [n] vs _ e1, ndl_one, List.length_append]
    exact h2
  · intro i h h'
    by_cases hi : i < l.length
    · rw [List.getElem_append_left hi, List.getElem_append_left (by omega)]
      exact keep (hk i hi (by omega))
    · have : i = l.length := by simp at h; omega
      subst this
      simp only [List.getElem_append_right (Nat.le_refl _), Nat.sub_self, List.getElem_cons_zero]
      have e2 : (vs ++ [Value.slice A L C])[l.length]'h' = .slice A L C := by rw [List.getElem_append_right (by omega)]; simp [e1]
      rw [e2]
      exact keep hn

theorem wpList_append_node {ops : Array Oper} {rest : List Oper} {o : Oper} {a : Act} {w : World} {Q : Exit → Act → World → Prop} (hgd : o.guard = none) (s x : Operand)
    (ho : o.op = .call { callee := .builtin .append, args := #[s, x], argTypes := #[22, 22] }) (base : Nat) (l : List Nd) (v : Value) (hs : a.eval s = v) (hrow : NRow w base l v) (hbase : base ≤ w.heap.size) (hlen : l.length ≤ 1000)
    (n : Nd) (A : Option Addr) (L C : Nat) (hn : NdR w (fun g => base ≤ g ∧ v.ownBlock ≠ some g) n.l (.slice A L C)) (G : Nat) (hx : a.eval x = .slice (some ⟨G, 0, none⟩) 1 1) (hG : Has w G 24 (ndc n (.slice A L C)))
    (h : ∀ v' w', NRow w' base (l ++ [n]) v' → Below base w w' → w.grownBy w' v.ownBlock → wpList Tryz.prog ops Q rest (a.put o.dst v') w') : wpList Tryz.prog ops Q (o :: rest) a w := by
  obtain ⟨v', w', hr, h2, h3, h4⟩ := run_append_node (ty := o.type) w base l v hrow hbase hlen n A L C hn G hG
  refine wpList_plain hgd fun K hK => ?_
  unfold Oper.wp execOp
  simp only [ho, resolve, invoke, builtin, Sem.run_bind, Sem.run_pure, Result.andThen_ok, List.map_toArray, List.map_cons, List.map_nil, hs, hx, hr]
  exact hK _ _ (h v' w' h2 h3 h4)

theorem NRow.ne {w : World} {base : Nat} {l : List Nd} {v : Value} (h : NRow w base l v) {q t : Nat} {cs : Array Value} (hq : Has w q t cs) (ht : t ≠ 24) : v.ownBlock ≠ some q := by
  obtain ⟨vs, h1, h2, h3⟩ := h
  rcases h2.2 with ⟨rfl, _⟩ | ⟨g, cap, cur, rfl, _, hg, _⟩
  · intro e; cases e
  · intro e
    have e' : g = q := by cases e; rfl
    subst e'
    have hq' : w.heap[g]? = some (.cells cs t (0, 0)) := hq
    rw [hg] at hq'
    cases hq'
    exact ht rfl

theorem Has.ne {w : World} {g q t u : Nat} {cs ds : Array Value} (h : Has w g t cs) (k : Has w q u ds) (ht : t ≠ u) : g ≠ q := by
  rintro rfl
  have h' : w.heap[g]? = some (.cells cs t (0, 0)) := h
  have k' : w.heap[g]? = some (.cells ds u (0, 0)) := k
  rw [h'] at k'
  cases k'
  exact ht rfl

theorem NRow.lt {w : World} {base : Nat} {l : List Nd} {v : Value} (h : NRow w base l v) {g : Nat} (e : v.ownBlock = some g) : g < w.heap.size := by
  obtain ⟨vs, h1, h2, h3⟩ := h
  exact (row_lt h2 e).1

/-- A row and a new node's parts, ahead of appending it. -/
theorem row_then {wr w5 : World} {base pb : Nat} {l : List Nd} {v : Value} {n : Nd} {A : Option Addr} {L C : Nat} (row : NRow wr base l v) (hk : Kp pb wr w5) (hpb : pb < base) (hbase : base ≤ wr.heap.size) (hn : NdR w5 (fun g => wr.heap.size ≤ g) n.l (.slice A L C)) (o : Obj) :
    NRow (w5.alloc o) base l v ∧ NdR (w5.alloc o) (fun g => base ≤ g ∧ v.ownBlock ≠ some g) n.l (.slice A L C) ∧ base ≤ (w5.alloc o).heap.size := by
  have hz := hk.size
  have hz2 : (w5.alloc o).heap.size = w5.heap.size + 1 := by simp
  refine ⟨(row.kp hk hpb).kp (Kp.of ((Below.refl _ _).alloc (Nat.le_refl _) o)) hpb, (hn.mono fun g hg => ⟨by omega, ?_⟩).grow ((Below.refl _ _).alloc (Nat.le_refl _) o), by omega⟩
  intro e
  have := row.lt e
  omega

theorem NdR.single {W : World} {P : Nat → Prop} {n : Nd} {v : Value} {G : Nat} (hG : Has W G 24 (ndc n v)) (hP : P G) (hn : NdR W P n.l v) : NdR W P [n] (.slice (some ⟨G, 0, none⟩) 1 1) := by
  refine .mk [n] [v] _ rfl ⟨by rw [ndl_one]; rfl, .inr ⟨G, 1, _, rfl, Nat.zero_le _, hG, Nat.le_refl _, by decide, rfl, ?_⟩⟩ (fun g e => by cases e; exact hP) (fun i h h' => ?_)
  · rw [ndl_one]; rfl
  · have : i = 0 := by simp at h; omega
    subst this
    exact hn

theorem kp_below {p : Nat} {w1 W W' : World} (h : Kp p w1 W) (hb : Below w1.heap.size W W') : Kp p w1 W' :=
  ⟨hb.os.trans h.os, hb.tape.trans h.tape, hb.output.trans h.output, Nat.le_trans h.size hb.size, fun k hk hn => (hb.block k hk).trans (h.block k hk hn)⟩
end Go.Proofs.YtpckmllmjdafpaaGreatDoor

/- What stands in parentheses, taken. -/
namespace Go.Proofs.YtpckmllmjdafpaaGreatDoor
open Go.ChangeShapes Go.WideShapes Go.ChangeAt Go.RowKit
set_option linter.unusedVariables false

def TRes (w : World) (pb en : Nat) (R : PR (Tk × Nat)) (e : Ending) (w' : World) : Prop := Kp pb w w' ∧ match R with
  | .error (c, k) => e = .panicked (flt c k)
  | .ok (t, r) => e = .returned (.agg (tkv t.1 t.2)) ∧ PAt w' pb r en

theorem take_c {w : World} {pb en : Nat} {ts : Toks} (h : PAt w pb ts en) {v : Value} {p : Tk → Bool} (ha : Ask w pb v p) : Calls Tryz.prog 66 #[.pointer (some ⟨pb, 0, none⟩), v] w (TRes w pb en (ptake p en ts)) := by
  cases ts with
  | nil => exact (take_no h ha rfl).mono fun e w' ⟨h1, h2⟩ => ⟨Kp.of h2, h1⟩
  | cons t r =>
    cases hp : p t.1
    · refine (take_no h ha hp).mono fun e w' ⟨h1, h2⟩ => ⟨Kp.of h2, ?_⟩
      simp only [ptake, hp]
      exact h1
    · refine (take_ok h ha hp).mono fun e w' ⟨h1, h2, h3⟩ => ⟨h3, ?_⟩
      simp only [ptake, hp, if_true]
      exact ⟨h1, h2⟩

/-- What a function answers that takes an expr. -/
def PRes (w : World) (pb en : Nat) (R : PR Nd) (e : Ending) (w' : World) : Prop := Kp pb w w' ∧ match R with
  | .error (c, k) => e = .panicked (flt c k)
  | .ok (n, r) => ∃ A C, e = .returned (.agg (ndc n (.slice A n.l.length C))) ∧ NdR w' (fun g => w.heap.size ≤ g) n.l (.slice A n.l.length C) ∧ PAt w' pb r en

/-- What a function answers that takes a list of exprs. -/
def LRes (w : World) (pb en : Nat) (R : PR (List Nd)) (e : Ending) (w' : World) : Prop := Kp pb w w' ∧ match R with
  | .error (c, k) => e = .panicked (flt c k)
  | .ok (l, r) => ∃ A C, e = .returned (.slice A l.length C) ∧ NdR w' (fun g => w.heap.size ≤ g) l (.slice A l.length C) ∧ PAt w' pb r en

theorem kp_new {p : Nat} {w W w' : World} (h1 : Below w.heap.size w W) (h2 : Kp p W w') : Kp p w w' := (Kp.of h1).trans h2

theorem PAt.set {W : World} {pb en : Nat} {r : Toks} (h : PAt W pb r en) {q : Addr} (hq : pb < q.block) (v : Value) : PAt (W.setCell q v) pb r en := by
  obtain ⟨A, C, hH, h1, h2, h3, h4⟩ := h
  refine ⟨A, C, hH.other (by omega) v, h1, h2, h3, fun hne => ?_⟩
  obtain ⟨g, off, e, hg, ht⟩ := h4 hne
  exact ⟨g, off, e, hg, fun i hi j hj => (World.cell?_of_block (Below.heap_setCell W q v g (by omega))).trans (ht i hi j hj)⟩

theorem PAt.low {W W' : World} {pb en B : Nat} {r : Toks} (h : PAt W pb r en) (hb : Below B W W') (hB : pb < B) : PAt W' pb r en := by
  obtain ⟨A, C, hH, h1, h2, h3, h4⟩ := h
  refine ⟨A, C, hH.below hb hB, h1, h2, h3, fun hne => ?_⟩
  obtain ⟨g, off, e, hg, ht⟩ := h4 hne
  exact ⟨g, off, e, hg, fun i hi j hj => (hb.cell (p := ⟨g, off + i * 4 + j, none⟩) (by show g < _; omega)).trans (ht i hi j hj)⟩

theorem PAt.has {W : World} {pb en : Nat} {r : Toks} (h : PAt W pb r en) : ∃ cs, Has W pb 50 cs := by obtain ⟨A, C, hH, _⟩ := h; exact ⟨_, hH⟩

theorem PAt.new {W : World} {pb en : Nat} {r : Toks} (h : PAt W pb r en) (o : Obj) : PAt (W.alloc o) pb r en := h.below ((Below.refl _ _).alloc (Nat.le_refl _) _)

abbrev put5 (W : World) (g : Nat) (x0 x1 x2 x3 x4 : Value) : World := ((((W.setCell ⟨g, 0, none⟩ x0).setCell ⟨g, 1, none⟩ x1).setCell ⟨g, 2, none⟩ x2).setCell ⟨g, 3, none⟩ x3).setCell ⟨g, 4, none⟩ x4

theorem PAt.set5 {W : World} {pb en : Nat} {r : Toks} (h : PAt W pb r en) {g : Nat} (hq : pb < g) (x0 x1 x2 x3 x4 : Value) : PAt (put5 W g x0 x1 x2 x3 x4) pb r en :=
  ((((h.set (q := ⟨g, 0, none⟩) hq x0).set (q := ⟨g, 1, none⟩) hq x1).set (q := ⟨g, 2, none⟩) hq x2).set (q := ⟨g, 3, none⟩) hq x3).set (q := ⟨g, 4, none⟩) hq x4

theorem Kp.set5 {w W : World} {pb : Nat} (h : Kp pb w W) {g : Nat} (hq : w.heap.size ≤ g) (x0 x1 x2 x3 x4 : Value) : Kp pb w (put5 W g x0 x1 x2 x3 x4) :=
  ((((h.setNew (q := ⟨g, 0, none⟩) hq x0).setNew (q := ⟨g, 1, none⟩) hq x1).setNew (q := ⟨g, 2, none⟩) hq x2).setNew (q := ⟨g, 3, none⟩) hq x3).setNew (q := ⟨g, 4, none⟩) hq x4

theorem NdR.set5 {w : World} {P : Nat → Prop} {l : List Nd} {v : Value} (h : NdR w P l v) {g : Nat} (hq : ∀ k, P k → k ≠ g) (x0 x1 x2 x3 x4 : Value) : NdR (put5 w g x0 x1 x2 x3 x4) P l v :=
  h.keep fun k o hk ho => by
    have hne := hq k hk
    rw [Below.heap_setCell _ _ _ k hne, Below.heap_setCell _ _ _ k hne, Below.heap_setCell _ _ _ k hne, Below.heap_setCell _ _ _ k hne, Below.heap_setCell _ _ _ k hne]
    exact ho

theorem b_one (w : World) (o : Obj) : Below w.heap.size w (w.alloc o) := (Below.refl _ _).alloc (Nat.le_refl _) _
theorem b_two (w : World) (o o' : Obj) : Below w.heap.size w ((w.alloc o).alloc o') := ((Below.refl _ _).alloc (Nat.le_refl _) _).alloc (by simp) _

set_option maxRecDepth 100000 in
set_option maxHeartbeats 2000000 in
theorem part_c (d N : Nat) (pb en : Nat) (k : Kd) (w : World) (ts : Toks) (h : PAt w pb ts en) (hN : N ≤ 13)
    (hx : ∀ W ts, PAt W pb ts en → Calls Tryz.prog 70 #[.pointer (some ⟨pb, 0, none⟩), .int .i64 (N : Nat)] W (PRes W pb en (pexpr d en ts))) :
    Calls Tryz.prog 104 #[.pointer (some ⟨pb, 0, none⟩), .string (bs k.w), .int .i64 (N : Nat)] w (PRes w pb en (ppart (pexpr d) k en ts)) := by
  have hlt := h.lt
  cases k with
  | nu =>
    have hki : ∀ W, Calls Tryz.prog 68 #[.int .i64 1] W fun e w' => e = .returned (.func (.func 86) #[] #[.pointer (some ⟨W.heap.size, 0, none⟩)]) ∧ w' = W.alloc (.cells #[.int .i64 1] 56) := fun W => isKind_c 1 W
    have htk : ∀ o1, Calls Tryz.prog 66 #[.pointer (some ⟨pb, 0, none⟩), .func (.func 86) #[] #[.pointer (some ⟨w.heap.size + 1, 0, none⟩)]] ((w.alloc o1).alloc (.cells #[.int .i64 1] 56)) (TRes ((w.alloc o1).alloc (.cells #[.int .i64 1] 56)) pb en (ptake (isKi 1) en ts)) := by
      intro o1
      have hb : Below w.heap.size w ((w.alloc o1).alloc (.cells #[.int .i64 1] 56)) := ((Below.refl _ _).alloc (Nat.le_refl _) _).alloc (by simp) _
      refine take_c (h.below hb) (Ask.ki _ 1 (by omega) ?_)
      have := Has.new (w.alloc o1) 56 #[.int .i64 1]
      simpa using this
    show Calls Tryz.prog 104 #[.pointer (some ⟨pb, 0, none⟩), .string ⟨#[110, 117, 109]⟩, .int .i64 (N : Nat)] w _
    simp only [ppart, pbind]
    cases hT : ptake (isKi 1) en ts with
    | error r =>
      obtain ⟨c, q⟩ := r
      rw [hT] at htk
      clear hT h hx
      go_enter Tryz.func104, Tryz.ntmps104
      go_wp2_with (first
        | (go_at_call 68; refine (hki _).mono ?_; rintro e w1 ⟨rfl, rfl⟩)
        | (go_at_call 66; refine (htk _).mono ?_; rintro e w2 ⟨hk2, rfl⟩))
      exact ⟨rfl, kp_new (b_two _ _ _) hk2, rfl⟩
    | ok r =>
      obtain ⟨t, r⟩ := r
      rw [hT] at htk
      clear hT h hx
      go_enter Tryz.func104, Tryz.ntmps104
      go_wp2_with (first
        | (go_at_call 68; refine (hki _).mono ?_; rintro e w1 ⟨rfl, rfl⟩)
        | ((go_at_call 66)
           (refine (htk _).mono ?_)
           (rintro e w2 ⟨hk2, rfl, hp2⟩)
           (have hr0 : Has w2 w.heap.size 24 #[.string ⟨#[]⟩, .string ⟨#[]⟩, .int .i64 0, .int .i64 0, .slice none 0 0] := ((Has.new w _ _).alloc _).kp hk2 (by omega))
           (have r0 := hr0.cell 0)
           (have r1 := hr0.cell 1)
           (have r2 := hr0.cell 2)
           (have r3 := hr0.cell 3)
           (have r4 := hr0.cell 4)
           (have f0 := hr0.free 0)
           (have f1 := hr0.free 1)
           (have f2 := hr0.free 2)
           (have f3 := hr0.free 3)
           (have f4 := hr0.free 4)
           (have hlt2 := hr0.lt)
           (unfold tkv)))
      refine ret_node rfl rfl ((hr0.set5 _ _ _ _ _).alloc _) rfl ⟨((kp_new (b_two _ _ _) hk2).set5 (Nat.le_refl _) _ _ _ _ _).alloc _, none, 0, rfl, NdR.nil _ _, (hp2.set5 hlt _ _ _ _ _).new _⟩
  | na =>
    have htk : ∀ o1, Calls Tryz.prog 66 #[.pointer (some ⟨pb, 0, none⟩), .func (.func 38) #[] #[]] (w.alloc o1) (TRes (w.alloc o1) pb en (ptake isNm en ts)) := fun o1 => take_c (h.new o1) Ask.nm
    show Calls Tryz.prog 104 #[.pointer (some ⟨pb, 0, none⟩), .string ⟨#[110, 97, 109, 101]⟩, .int .i64 (N : Nat)] w _
    simp only [ppart, pbind]
    cases hT : ptake isNm en ts with
    | error r =>
      obtain ⟨c, q⟩ := r
      rw [hT] at htk
      clear hT h hx
      go_enter Tryz.func104, Tryz.ntmps104
      go_wp2_with (go_at_call 66; refine (htk _).mono ?_; rintro e w2 ⟨hk2, rfl⟩)
      exact ⟨rfl, kp_new (b_one _ _) hk2, rfl⟩
    | ok r =>
      obtain ⟨t, r⟩ := r
      rw [hT] at htk
      clear hT h hx
      go_enter Tryz.func104, Tryz.ntmps104
      go_wp2_with (first
        | ((go_at_call 66)
           (refine (htk _).mono ?_)
           (rintro e w2 ⟨hk2, rfl, hp2⟩)
           (have hr0 : Has w2 w.heap.size 24 #[.string ⟨#[]⟩, .string ⟨#[]⟩, .int .i64 0, .int .i64 0, .slice none 0 0] := (Has.new w _ _).kp hk2 (by omega))
           (have r0 := hr0.cell 0)
           (have r1 := hr0.cell 1)
           (have r2 := hr0.cell 2)
           (have r3 := hr0.cell 3)
           (have r4 := hr0.cell 4)
           (have f0 := hr0.free 0)
           (have f1 := hr0.free 1)
           (have f2 := hr0.free 2)
           (have f3 := hr0.free 3)
           (have f4 := hr0.free 4)
           (have hlt2 := hr0.lt)
           (unfold tkv)))
      refine ret_node rfl rfl ((hr0.set5 _ _ _ _ _).alloc _) rfl ⟨((kp_new (b_one _ _) hk2).set5 (Nat.le_refl _) _ _ _ _ _).alloc _, none, 0, rfl, NdR.nil _ _, (hp2.set5 hlt _ _ _ _ _).new _⟩
  | ex =>
    have hx' := fun o => hx (w.alloc o) ts (h.new o)
    show Calls Tryz.prog 104 #[.pointer (some ⟨pb, 0, none⟩), .string ⟨#[101, 120, 112, 114]⟩, .int .i64 (N : Nat)] w _
    simp only [ppart]
    cases hE : pexpr d en ts with
    | error r =>
      obtain ⟨c, q⟩ := r
      rw [hE] at hx'
      clear hE h hx
      go_enter Tryz.func104, Tryz.ntmps104
      go_wp2_with (go_at_call 70; refine (hx' _).mono ?_; rintro e w2 ⟨hk2, rfl⟩)
      exact ⟨rfl, kp_new (b_one _ _) hk2, rfl⟩
    | ok r =>
      obtain ⟨n, r⟩ := r
      rw [hE] at hx'
      clear hE h hx
      go_enter Tryz.func104, Tryz.ntmps104
      go_wp2_with (first
        | ((go_at_call 70)
           (refine (hx' _).mono ?_)
           (rintro e w2 ⟨hk2, A, C, rfl, hn2, hp2⟩)
           (have hr0 : Has w2 w.heap.size 24 #[.string ⟨#[]⟩, .string ⟨#[]⟩, .int .i64 0, .int .i64 0, .slice none 0 0] := (Has.new w _ _).kp hk2 (by omega))
           (have r0 := hr0.cell 0)
           (have r1 := hr0.cell 1)
           (have r2 := hr0.cell 2)
           (have r3 := hr0.cell 3)
           (have r4 := hr0.cell 4)
           (have f0 := hr0.free 0)
           (have f1 := hr0.free 1)
           (have f2 := hr0.free 2)
           (have f3 := hr0.free 3)
           (have f4 := hr0.free 4)
           (have hlt2 := hr0.lt)
           (unfold ndc)))
      refine ret_node rfl rfl (hr0.set5 _ _ _ _ _) rfl ⟨(kp_new (b_one _ _) hk2).set5 (Nat.le_refl _) _ _ _ _ _, A, C, rfl, (hn2.set5 (g := w.heap.size) (fun k hk => by simp at hk; omega) _ _ _ _ _).mono (fun g hg => by simp at hg; omega), hp2.set5 hlt _ _ _ _ _⟩
end Go.Proofs.YtpckmllmjdafpaaGreatDoor
