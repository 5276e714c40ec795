/- The reference's rightExpr, whole. -/
import Derived.Test.YtpckmllmjdafpaaGreatDoorPrExpr
namespace Go.Proofs.YtpckmllmjdafpaaGreatDoor
open Go.ChangeShapes Go.WideShapes Go.ChangeAt Go.RowKit
set_option linter.unusedVariables false

set_option maxRecDepth 100000 in
set_option maxHeartbeats 2000000 in
theorem rex_deep (n : Nd) (A : Option Addr) (C : Nat) (w : World) (h : RdN w n A C) : Calls Tryz.prog 29 #[nval n A C, .int .i64 13] w (Yes w false) := by
  have hlen := h.len
  have hU := fun W => leafUse_c n A n.l.length C W h.s rfl (by omega)
  have hU : ∀ W, Calls Tryz.prog 28 #[.agg #[.string (bs n.op), .string (bs n.s), .int .i64 n.n, .int .i64 n.a, .slice A n.l.length C], .string ⟨#[117, 115, 101]⟩] W (Yes W (useOk n)) := hU
  unfold nval
  generalize useOk n = U at hU
  generalize n.l.length = L at *
  clear hlen h
  cases U
  · go_enter Tryz.func29, Tryz.ntmps29
    go_wp2_with (first
      | ((go_at_call 28)
         (refine (hU _).mono ?_)
         (rintro e w1 ⟨rfl, bk1⟩)))
    go_ret
    exact ⟨rfl, bel_pa0 bk1⟩
  · go_enter Tryz.func29, Tryz.ntmps29
    go_wp2_with (first
      | ((go_at_call 28)
         (refine (hU _).mono ?_)
         (rintro e w1 ⟨rfl, bk1⟩)))
    go_ret
    exact ⟨rfl, bel_pa0 bk1⟩

set_option maxRecDepth 100000 in
set_option maxHeartbeats 2000000 in
theorem rex_use (N : Nat) (n : Nd) (A : Option Addr) (C : Nat) (w : World) (h : RdN w n A C) (hN : N ≤ 12) (hu : useOk n = true) : Calls Tryz.prog 29 #[nval n A C, .int .i64 (N : Nat)] w (Yes w true) := by
  have hlen := h.len
  have hU := fun W => leafUse_c n A n.l.length C W h.s rfl (by omega)
  rw [hu] at hU
  have hU : ∀ W, Calls Tryz.prog 28 #[.agg #[.string (bs n.op), .string (bs n.s), .int .i64 n.n, .int .i64 n.a, .slice A n.l.length C], .string ⟨#[117, 115, 101]⟩] W (Yes W true) := hU
  unfold nval
  have hNi : (N : Int) ≤ 12 := by omega
  generalize n.l.length = L at *
  clear hlen h hu
  go_enter Tryz.func29, Tryz.ntmps29
  go_wp2_with (first
    | ((go_at_call 28)
       (refine (hU _).mono ?_)
       (rintro e w1 ⟨rfl, bk1⟩)))
  go_ret
  exact ⟨rfl, bel_pa0 bk1⟩

set_option maxRecDepth 100000 in
set_option maxHeartbeats 2000000 in
theorem rex_not (N : Nat) (n : Nd) (A : Option Addr) (C : Nat) (w : World) (h : RdN w n A C) (hN : N ≤ 12) (hu : useOk n = false) (hc : n.s ≠ [] ∨ (n.s = [] ∧ n.n ≠ 0) ∨ (n.s = [] ∧ n.n = 0 ∧ n.l.length = 0) ∨ (n.s = [] ∧ n.n = 0 ∧ 1 ≤ n.l.length ∧ (n.op ≠ wLinear ∧ n.op ≠ wSnapshot ∧ n.op ≠ wCrypt ∧ n.op ≠ wIntegrity ∧ n.op ≠ wVerity ∧ n.op ≠ wConcat ∧ n.op ≠ wMirror))) : Calls Tryz.prog 29 #[nval n A C, .int .i64 (N : Nat)] w (Yes w false) := by
  have hlen := h.len
  have hU := fun W => leafUse_c n A n.l.length C W h.s rfl (by omega)
  rw [hu] at hU
  have hU : ∀ W, Calls Tryz.prog 28 #[.agg #[.string (bs n.op), .string (bs n.s), .int .i64 n.n, .int .i64 n.a, .slice A n.l.length C], .string ⟨#[117, 115, 101]⟩] W (Yes W false) := hU
  unfold nval
  have hNi : ¬ (12 : Int) < (N : Int) := by omega
  have hot := bs_toList n.op
  have hst := bs_toList n.s
  have hLm : n.l.length ≤ 9223372036854775807 := by omega
  rcases hc with h1 | ⟨h1, h2⟩ | ⟨h1, h2, h3⟩ | ⟨h1, h2, h3, h4⟩
  · have h1' : (n.s == []) = false := by simpa using h1
    generalize n.l.length = L at *
    clear hlen h hu h1
    go_enter Tryz.func29, Tryz.ntmps29
    go_wp2_with (first
      | ((go_at_call 28)
         (refine (hU _).mono ?_)
         (rintro e w1 ⟨rfl, bk1⟩)
         (obtain ⟨p0, p1, p2, p3, p4⟩ := five ((Has.new w _ _).below bk1 (by simp)))))
    go_ret
    exact ⟨rfl, bel_pa0 bk1⟩
  · rw [h1, show bs [] = (⟨#[]⟩ : ByteArray) from rfl] at hU ⊢
    generalize n.l.length = L at *
    generalize n.n = M at *
    clear hlen h hu h1 hst
    go_enter Tryz.func29, Tryz.ntmps29
    go_wp2_with (first
      | ((go_at_call 28)
         (refine (hU _).mono ?_)
         (rintro e w1 ⟨rfl, bk1⟩)
         (obtain ⟨p0, p1, p2, p3, p4⟩ := five ((Has.new w _ _).below bk1 (by simp)))))
    go_ret
    exact ⟨rfl, bel_pa0 bk1⟩
  · rw [h1, h2, h3, show bs [] = (⟨#[]⟩ : ByteArray) from rfl] at hU ⊢
    clear hlen h hu h1 h2 h3 hst hLm
    go_enter Tryz.func29, Tryz.ntmps29
    go_wp2_with (first
      | ((go_at_call 28)
         (refine (hU _).mono ?_)
         (rintro e w1 ⟨rfl, bk1⟩)
         (obtain ⟨p0, p1, p2, p3, p4⟩ := five ((Has.new w _ _).below bk1 (by simp)))))
    go_ret
    exact ⟨rfl, bel_pa0 bk1⟩
  · rw [h1, h2, show bs [] = (⟨#[]⟩ : ByteArray) from rfl] at hU ⊢
    obtain ⟨o1, o2, o3, o4, o5, o6, o7⟩ := h4
    have f0 : (n.op == [108, 105, 110, 101, 97, 114]) = false := by simpa [wLinear] using o1
    have f1 : (n.op == [115, 110, 97, 112, 115, 104, 111, 116]) = false := by simpa [wSnapshot] using o2
    have f2 : (n.op == [99, 114, 121, 112, 116]) = false := by simpa [wCrypt] using o3
    have f3 : (n.op == [105, 110, 116, 101, 103, 114, 105, 116, 121]) = false := by simpa [wIntegrity] using o4
    have f4 : (n.op == [118, 101, 114, 105, 116, 121]) = false := by simpa [wVerity] using o5
    have f5 : (n.op == [99, 111, 110, 99, 97, 116]) = false := by simpa [wConcat] using o6
    have f6 : (n.op == [109, 105, 114, 114, 111, 114]) = false := by simpa [wMirror] using o7
    have hLi : ¬ (n.l.length : Int) < 1 := by omega
    generalize n.l.length = L at *
    clear hlen h hu h1 h2 hst o1 o2 o3 o4 o5 o6 o7 h3
    go_enter Tryz.func29, Tryz.ntmps29
    go_wp2_with (first
      | ((go_at_call 28)
         (refine (hU _).mono ?_)
         (rintro e w1 ⟨rfl, bk1⟩)
         (obtain ⟨p0, p1, p2, p3, p4⟩ := five ((Has.new w _ _).below bk1 (by simp)))))
    go_ret
    exact ⟨rfl, bel_pa0 bk1⟩

/-- rightExpr, where d nestings are left. -/
theorem rex_c (d : Nat) : ∀ (N : Nat) (n : Nd) (A : Option Addr) (C : Nat) (w : World), N + d = 13 → RdN w n A C → Calls Tryz.prog 29 #[nval n A C, .int .i64 (N : Nat)] w (Yes w (rightE d n)) := by
  induction d with
  | zero =>
    intro N n A C w hN h
    obtain rfl : N = 13 := by omega
    exact rex_deep n A C w h
  | succ d ih =>
    intro N n A C w hN h
    have hIH : ∀ m A' C' W, RdN W m A' C' → Calls Tryz.prog 29 #[nval m A' C', .int .i64 ((N : Int) + 1)] W (Yes W (rightE d m)) := fun m A' C' W hW => by
      have := ih (N + 1) m A' C' W (by omega) hW
      rw [show ((N + 1 : Nat) : Int) = (N : Int) + 1 by omega] at this
      exact this
    cases hu : useOk n with
    | true => rw [re_use hu]; exact rex_use N n A C w h (by omega) hu
    | false =>
      by_cases h1 : n.s = []
      · by_cases h2 : n.n = 0
        · by_cases h3 : n.l.length = 0
          · rw [re_parts hu (pk_short h3)]
            exact rex_not N n A C w h (by omega) hu (.inr (.inr (.inl ⟨h1, h2, h3⟩)))
          · have h3' : 1 ≤ n.l.length := by omega
            by_cases o1 : n.op = wLinear
            · exact rexLinear_c d N n A C w h (by omega) hIH h1 h2 h3' o1
            by_cases o2 : n.op = wSnapshot
            · exact rexSnapshot_c d N n A C w h (by omega) hIH h1 h2 h3' o2
            by_cases o3 : n.op = wCrypt
            · exact rexCrypt_c d N n A C w h (by omega) hIH h1 h2 h3' o3
            by_cases o4 : n.op = wIntegrity
            · exact rexIntegrity_c d N n A C w h (by omega) hIH h1 h2 h3' o4
            by_cases o5 : n.op = wVerity
            · exact rexVerity_c d N n A C w h (by omega) hIH h1 h2 h3' o5
            by_cases o6 : n.op = wConcat
            · exact rexConcat_c d N n A C w h (by omega) hIH h1 h2 h3' o6
            by_cases o7 : n.op = wMirror
            · exact rexMirror_c d N n A C w h (by omega) hIH h1 h2 h3' o7
            rw [re_parts hu (pk_none (no_op ⟨o1, o2, o3, o4, o5, o6, o7⟩))]
            exact rex_not N n A C w h (by omega) hu (.inr (.inr (.inr ⟨h1, h2, h3', o1, o2, o3, o4, o5, o6, o7⟩)))
        · rw [re_n h2]
          exact rex_not N n A C w h (by omega) hu (.inr (.inl ⟨h1, h2⟩))
      · rw [re_s hu h1]
        exact rex_not N n A C w h (by omega) hu (.inl h1)
end Go.Proofs.YtpckmllmjdafpaaGreatDoor
