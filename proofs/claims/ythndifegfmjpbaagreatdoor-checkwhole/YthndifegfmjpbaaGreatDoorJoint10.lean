/- Texts that the statements of this stage share, joined. -/
import Derived.Test.YthndifegfmjpbaaGreatDoorJoint09
import Derived.Test.YthndifegfmjpbaaGreatDoorJoint08
namespace Go.Proofs.YthndifegfmjpbaaGreatDoor
set_option linter.unusedVariables false
set_option maxRecDepth 100000
set_option maxHeartbeats 40000000
section
open Go.ChangeShapes Go.WideShapes Go.ChangeAt Go.RowKit
def rightR (n : Nd) : Bool :=
 (if n.op = wDevice ∨ n.op = wJournal then numOk n.n && decide (n.l.length = 0)
  else if n.op = wKey ∨ n.op = wRoot then decide (n.n = 0) && decide (n.l.length = 1) && hexOk (n.l.getD 0 (.mk [] [] 0 0 []))
  else if n.op = wVolume then decide (n.n = 0) && decide (n.l.length = 1) && rightE 12 (n.l.getD 0 (.mk [] [] 0 0 []))
  else if n.op = wExport then (decide (n.n = 0) || decide (n.n = 1)) && decide (n.l.length = 0)
  else false)
theorem rightS_eq (n : Nd) : rightS n = (hasNm n.s && rightR n) := rfl
theorem isStDevice_c (s : List UInt8) (M at_ : Int) (l : List Nd) (A : Option Addr) (C : Nat) (w : World) (h : RdN w (.mk wDevice s M at_ l) A C) (hname : hasNm s = true) :
  Calls Tryz.prog 49 #[.agg (ndc (.mk wDevice s M at_ l) (.slice A l.length C))] w (Yes w (rightR (.mk wDevice s M at_ l))) := by
 have hlen := h.len
 have hnam := fun W => hasName_c (.mk wDevice s M at_ l) A l.length C W (by have := h.s; omega)
 have hl2 : ((l.length : Nat) : Int) ≤ 9223372036854775807 := by have h1 := hlen.1; have h2 := hlen.2; simp only [Nd.l] at h1; omega
 simp only [Nd.s, hname] at hnam
 have hnum := fun W => hasNumber_c (.mk wDevice s M at_ l) A l.length C W
 have hR : rightR (.mk wDevice s M at_ l) = (numOk M && decide (l.length = 0)) := if_pos (by first | exact .inl rfl | exact .inr rfl)
 rw [hR]
 unfold ndc at hnum
 simp only [Nd.op, Nd.s, Nd.n, Nd.a, bsDevice] at hnum
 unfold ndc at hnam ⊢
 simp only [Nd.op, Nd.s, Nd.n, Nd.a, bsDevice] at hnam ⊢
 clear h hlen hR
 generalize numOk M = B at *
 generalize l.length = L at *
 cases B
 · go_enter Tryz.func49, Tryz.ntmps49
   go_wp2_with (first
    | (go_at_call 80; refine (hnam _).mono ?_; rintro e w1 ⟨rfl, hb1⟩; have hN1 := (Has.new w _ _).below hb1 (by simp); have n0 := hN1.cell 0; have n2 := hN1.cell 2; have n4 := hN1.cell 4; have q0 := hN1.cell 1; have q3 := hN1.cell 3; have hlN := hN1.lt)
    | (go_at_call 81; refine (hnum _).mono ?_; rintro e w2 ⟨rfl, hb2⟩))
   go_ret
   exact ⟨rfl, ((b_one w _).trans (hb1.mono (by simp))).trans (hb2.mono (by have := hb1.size; simp at this; omega))⟩
 · by_cases hL0 : L = 0
   · subst hL0
     go_enter Tryz.func49, Tryz.ntmps49
     go_wp2_with (first
      | (go_at_call 80; refine (hnam _).mono ?_; rintro e w1 ⟨rfl, hb1⟩; have hN1 := (Has.new w _ _).below hb1 (by simp); have n0 := hN1.cell 0; have n2 := hN1.cell 2; have n4 := hN1.cell 4; have q0 := hN1.cell 1; have q3 := hN1.cell 3; have hlN := hN1.lt)
      | (go_at_call 81; refine (hnum _).mono ?_; rintro e w2 ⟨rfl, hb2⟩; have m4 := (hN1.below hb2 hlN).cell 4))
     go_ret
     exact ⟨rfl, ((b_one w _).trans (hb1.mono (by simp))).trans (hb2.mono (by have := hb1.size; simp at this; omega))⟩
   · have hL0' : ¬ (L : Int) = 0 := by omega
     go_enter Tryz.func49, Tryz.ntmps49
     go_wp2_with (first
      | (go_at_call 80; refine (hnam _).mono ?_; rintro e w1 ⟨rfl, hb1⟩; have hN1 := (Has.new w _ _).below hb1 (by simp); have n0 := hN1.cell 0; have n2 := hN1.cell 2; have n4 := hN1.cell 4; have q0 := hN1.cell 1; have q3 := hN1.cell 3; have hlN := hN1.lt)
      | (go_at_call 81; refine (hnum _).mono ?_; rintro e w2 ⟨rfl, hb2⟩; have m4 := (hN1.below hb2 hlN).cell 4))
     go_ret
     exact ⟨by simp [hL0], ((b_one w _).trans (hb1.mono (by simp))).trans (hb2.mono (by have := hb1.size; simp at this; omega))⟩
theorem isStJournal_c (s : List UInt8) (M at_ : Int) (l : List Nd) (A : Option Addr) (C : Nat) (w : World) (h : RdN w (.mk wJournal s M at_ l) A C) (hname : hasNm s = true) :
  Calls Tryz.prog 49 #[.agg (ndc (.mk wJournal s M at_ l) (.slice A l.length C))] w (Yes w (rightR (.mk wJournal s M at_ l))) := by
 have hlen := h.len
 have hnam := fun W => hasName_c (.mk wJournal s M at_ l) A l.length C W (by have := h.s; omega)
 have hl2 : ((l.length : Nat) : Int) ≤ 9223372036854775807 := by have h1 := hlen.1; have h2 := hlen.2; simp only [Nd.l] at h1; omega
 simp only [Nd.s, hname] at hnam
 have hnum := fun W => hasNumber_c (.mk wJournal s M at_ l) A l.length C W
 have hR : rightR (.mk wJournal s M at_ l) = (numOk M && decide (l.length = 0)) := if_pos (by first | exact .inl rfl | exact .inr rfl)
 rw [hR]
 unfold ndc at hnum
 simp only [Nd.op, Nd.s, Nd.n, Nd.a, bsJournal] at hnum
 unfold ndc at hnam ⊢
 simp only [Nd.op, Nd.s, Nd.n, Nd.a, bsJournal] at hnam ⊢
 clear h hlen hR
 generalize numOk M = B at *
 generalize l.length = L at *
 cases B
 · go_enter Tryz.func49, Tryz.ntmps49
   go_wp2_with (first
    | (go_at_call 80; refine (hnam _).mono ?_; rintro e w1 ⟨rfl, hb1⟩; have hN1 := (Has.new w _ _).below hb1 (by simp); have n0 := hN1.cell 0; have n2 := hN1.cell 2; have n4 := hN1.cell 4; have q0 := hN1.cell 1; have q3 := hN1.cell 3; have hlN := hN1.lt)
    | (go_at_call 81; refine (hnum _).mono ?_; rintro e w2 ⟨rfl, hb2⟩))
   go_ret
   exact ⟨rfl, ((b_one w _).trans (hb1.mono (by simp))).trans (hb2.mono (by have := hb1.size; simp at this; omega))⟩
 · by_cases hL0 : L = 0
   · subst hL0
     go_enter Tryz.func49, Tryz.ntmps49
     go_wp2_with (first
      | (go_at_call 80; refine (hnam _).mono ?_; rintro e w1 ⟨rfl, hb1⟩; have hN1 := (Has.new w _ _).below hb1 (by simp); have n0 := hN1.cell 0; have n2 := hN1.cell 2; have n4 := hN1.cell 4; have q0 := hN1.cell 1; have q3 := hN1.cell 3; have hlN := hN1.lt)
      | (go_at_call 81; refine (hnum _).mono ?_; rintro e w2 ⟨rfl, hb2⟩; have m4 := (hN1.below hb2 hlN).cell 4))
     go_ret
     exact ⟨rfl, ((b_one w _).trans (hb1.mono (by simp))).trans (hb2.mono (by have := hb1.size; simp at this; omega))⟩
   · have hL0' : ¬ (L : Int) = 0 := by omega
     go_enter Tryz.func49, Tryz.ntmps49
     go_wp2_with (first
      | (go_at_call 80; refine (hnam _).mono ?_; rintro e w1 ⟨rfl, hb1⟩; have hN1 := (Has.new w _ _).below hb1 (by simp); have n0 := hN1.cell 0; have n2 := hN1.cell 2; have n4 := hN1.cell 4; have q0 := hN1.cell 1; have q3 := hN1.cell 3; have hlN := hN1.lt)
      | (go_at_call 81; refine (hnum _).mono ?_; rintro e w2 ⟨rfl, hb2⟩; have m4 := (hN1.below hb2 hlN).cell 4))
     go_ret
     exact ⟨by simp [hL0], ((b_one w _).trans (hb1.mono (by simp))).trans (hb2.mono (by have := hb1.size; simp at this; omega))⟩
theorem isStKey_c (s : List UInt8) (M at_ : Int) (l : List Nd) (A : Option Addr) (C : Nat) (w : World) (h : RdN w (.mk wKey s M at_ l) A C) (hname : hasNm s = true) :
  Calls Tryz.prog 49 #[.agg (ndc (.mk wKey s M at_ l) (.slice A l.length C))] w (Yes w (rightR (.mk wKey s M at_ l))) := by
 have hlen := h.len
 have hnam := fun W => hasName_c (.mk wKey s M at_ l) A l.length C W (by have := h.s; omega)
 have hl2 : ((l.length : Nat) : Int) ≤ 9223372036854775807 := by have h1 := hlen.1; have h2 := hlen.2; simp only [Nd.l] at h1; omega
 simp only [Nd.s, hname] at hnam
 have hR : rightR (.mk wKey s M at_ l) = (decide (M = 0) && decide (l.length = 1) && hexOk (l.getD 0 (.mk [] [] 0 0 []))) := (if_neg (by show ¬ (wKey = wDevice ∨ wKey = wJournal); decide)).trans (if_pos (by first | exact .inl rfl | exact .inr rfl))
 rw [hR]
 unfold ndc at hnam ⊢
 simp only [Nd.op, Nd.s, Nd.n, Nd.a, bsKey] at hnam ⊢
 by_cases hM : M = 0
 · subst hM
   by_cases hL1 : l.length = 1
   · obtain ⟨m, rfl⟩ := List.length_eq_one_iff.1 hL1
     obtain ⟨g, off, u, rfl, hg, hc, hru, hsu, hou⟩ := h.rd.get 0 (by simp [Nd.l])
     simp only [Nd.l, List.getElem_cons_zero] at hc hru hsu hou
     obtain ⟨Au, Cu, rfl, hu1, hu2⟩ := hru.slice
     have d0 := hc 0 (by decide)
     have d1 := hc 1 (by decide)
     have d2 := hc 2 (by decide)
     have d3 := hc 3 (by decide)
     have d4 := hc 4 (by decide)
     simp only [ndc, Nat.zero_mul, Nat.add_zero] at d0 d1 d2 d3 d4
     have hgu : ∀ W, Below w.heap.size w W → RdN W m Au Cu := fun W hW => RdN.grow (w := w) ⟨hru, hsu, hou⟩ hW
     have hsub : ∀ W, Below w.heap.size w W → Calls Tryz.prog 82 #[.agg #[.string (bs m.op), .string (bs m.s), .int .i64 m.n, .int .i64 m.a, .slice Au m.l.length Cu]] W (Yes W (hexOk m)) := fun W hW => isHex_c m Au m.l.length Cu W hsu rfl (Nat.le_trans hu1 hu2)
     obtain ⟨B, hB⟩ : ∃ B, B = hexOk m := ⟨_, rfl⟩
     have hV : (decide ((0 : Int) = 0) && decide (([m] : List Nd).length = 1) && hexOk (([m] : List Nd).getD 0 (.mk [] [] 0 0 []))) = B := by rw [hB]; simp
     rw [← hB] at hsub
     rw [hV]
     clear hV hB
     show Calls _ _ _ _ (Yes w B)
     rw [show ([m] : List Nd).length = 1 from rfl] at hnam ⊢
     clear h hlen hR hc hL1 hl2
     go_enter Tryz.func49, Tryz.ntmps49
     go_wp2_with (first
      | ((go_at_call 80)
         (refine (hnam _).mono ?_)
         (rintro e w1 ⟨rfl, hb1⟩)
         (have hN1 := (Has.new w _ _).below hb1 (by simp))
         (have n0 := hN1.cell 0)
         (have n2 := hN1.cell 2)
         (have n4 := hN1.cell 4)
         (have hlN := hN1.lt)
         (have hbw : Below w.heap.size w w1 := (b_one w _).trans (hb1.mono (by simp)))
         (have e0 := below_some hbw d0)
         (have e1 := below_some hbw d1)
         (have e2 := below_some hbw d2)
         (have e3 := below_some hbw d3)
         (have e4 := below_some hbw d4))
      | (go_at_call 82; refine (hsub _ hbw).mono ?_; rintro e w2 ⟨rfl, hb2⟩))
     go_ret
     exact ⟨rfl, hbw.trans (hb2.mono hbw.size)⟩
   · have hL1' : ¬ ((l.length : Nat) : Int) = 1 := by omega
     have hD : decide (l.length = 1) = false := by simp [hL1]
     rw [hD, Bool.and_false, Bool.false_and]
     clear h hlen hR hD
     generalize l.length = L at *
     go_enter Tryz.func49, Tryz.ntmps49
     go_wp2_with (go_at_call 80; refine (hnam _).mono ?_; rintro e w1 ⟨rfl, hb1⟩; have hN1 := (Has.new w _ _).below hb1 (by simp); have n0 := hN1.cell 0; have n2 := hN1.cell 2; have n4 := hN1.cell 4; have q0 := hN1.cell 1; have q3 := hN1.cell 3; have hlN := hN1.lt)
     go_ret
     exact ⟨rfl, (b_one w _).trans (hb1.mono (by simp))⟩
 · have hD : decide (M = 0) = false := by simp [hM]
   rw [hD, Bool.false_and, Bool.false_and]
   clear h hlen hR hD
   generalize l.length = L at *
   go_enter Tryz.func49, Tryz.ntmps49
   go_wp2_with (go_at_call 80; refine (hnam _).mono ?_; rintro e w1 ⟨rfl, hb1⟩; have hN1 := (Has.new w _ _).below hb1 (by simp); have n0 := hN1.cell 0; have n2 := hN1.cell 2; have n4 := hN1.cell 4; have q0 := hN1.cell 1; have q3 := hN1.cell 3; have hlN := hN1.lt)
   go_ret
   exact ⟨rfl, (b_one w _).trans (hb1.mono (by simp))⟩
theorem isStRoot_c (s : List UInt8) (M at_ : Int) (l : List Nd) (A : Option Addr) (C : Nat) (w : World) (h : RdN w (.mk wRoot s M at_ l) A C) (hname : hasNm s = true) :
  Calls Tryz.prog 49 #[.agg (ndc (.mk wRoot s M at_ l) (.slice A l.length C))] w (Yes w (rightR (.mk wRoot s M at_ l))) := by
 have hlen := h.len
 have hnam := fun W => hasName_c (.mk wRoot s M at_ l) A l.length C W (by have := h.s; omega)
 have hl2 : ((l.length : Nat) : Int) ≤ 9223372036854775807 := by have h1 := hlen.1; have h2 := hlen.2; simp only [Nd.l] at h1; omega
 simp only [Nd.s, hname] at hnam
 have hR : rightR (.mk wRoot s M at_ l) = (decide (M = 0) && decide (l.length = 1) && hexOk (l.getD 0 (.mk [] [] 0 0 []))) := (if_neg (by show ¬ (wRoot = wDevice ∨ wRoot = wJournal); decide)).trans (if_pos (by first | exact .inl rfl | exact .inr rfl))
 rw [hR]
 unfold ndc at hnam ⊢
 simp only [Nd.op, Nd.s, Nd.n, Nd.a, bsRoot] at hnam ⊢
 by_cases hM : M = 0
 · subst hM
   by_cases hL1 : l.length = 1
   · obtain ⟨m, rfl⟩ := List.length_eq_one_iff.1 hL1
     obtain ⟨g, off, u, rfl, hg, hc, hru, hsu, hou⟩ := h.rd.get 0 (by simp [Nd.l])
     simp only [Nd.l, List.getElem_cons_zero] at hc hru hsu hou
     obtain ⟨Au, Cu, rfl, hu1, hu2⟩ := hru.slice
     have d0 := hc 0 (by decide)
     have d1 := hc 1 (by decide)
     have d2 := hc 2 (by decide)
     have d3 := hc 3 (by decide)
     have d4 := hc 4 (by decide)
     simp only [ndc, Nat.zero_mul, Nat.add_zero] at d0 d1 d2 d3 d4
     have hgu : ∀ W, Below w.heap.size w W → RdN W m Au Cu := fun W hW => RdN.grow (w := w) ⟨hru, hsu, hou⟩ hW
     have hsub : ∀ W, Below w.heap.size w W → Calls Tryz.prog 82 #[.agg #[.string (bs m.op), .string (bs m.s), .int .i64 m.n, .int .i64 m.a, .slice Au m.l.length Cu]] W (Yes W (hexOk m)) := fun W hW => isHex_c m Au m.l.length Cu W hsu rfl (Nat.le_trans hu1 hu2)
     obtain ⟨B, hB⟩ : ∃ B, B = hexOk m := ⟨_, rfl⟩
     have hV : (decide ((0 : Int) = 0) && decide (([m] : List Nd).length = 1) && hexOk (([m] : List Nd).getD 0 (.mk [] [] 0 0 []))) = B := by rw [hB]; simp
     rw [← hB] at hsub
     rw [hV]
     clear hV hB
     show Calls _ _ _ _ (Yes w B)
     rw [show ([m] : List Nd).length = 1 from rfl] at hnam ⊢
     clear h hlen hR hc hL1 hl2
     go_enter Tryz.func49, Tryz.ntmps49
     go_wp2_with (first
      | ((go_at_call 80)
         (refine (hnam _).mono ?_)
         (rintro e w1 ⟨rfl, hb1⟩)
         (have hN1 := (Has.new w _ _).below hb1 (by simp))
         (have n0 := hN1.cell 0)
         (have n2 := hN1.cell 2)
         (have n4 := hN1.cell 4)
         (have hlN := hN1.lt)
         (have hbw : Below w.heap.size w w1 := (b_one w _).trans (hb1.mono (by simp)))
         (have e0 := below_some hbw d0)
         (have e1 := below_some hbw d1)
         (have e2 := below_some hbw d2)
         (have e3 := below_some hbw d3)
         (have e4 := below_some hbw d4))
      | (go_at_call 82; refine (hsub _ hbw).mono ?_; rintro e w2 ⟨rfl, hb2⟩))
     go_ret
     exact ⟨rfl, hbw.trans (hb2.mono hbw.size)⟩
   · have hL1' : ¬ ((l.length : Nat) : Int) = 1 := by omega
     have hD : decide (l.length = 1) = false := by simp [hL1]
     rw [hD, Bool.and_false, Bool.false_and]
     clear h hlen hR hD
     generalize l.length = L at *
     go_enter Tryz.func49, Tryz.ntmps49
     go_wp2_with (go_at_call 80; refine (hnam _).mono ?_; rintro e w1 ⟨rfl, hb1⟩; have hN1 := (Has.new w _ _).below hb1 (by simp); have n0 := hN1.cell 0; have n2 := hN1.cell 2; have n4 := hN1.cell 4; have q0 := hN1.cell 1; have q3 := hN1.cell 3; have hlN := hN1.lt)
     go_ret
     exact ⟨rfl, (b_one w _).trans (hb1.mono (by simp))⟩
 · have hD : decide (M = 0) = false := by simp [hM]
   rw [hD, Bool.false_and, Bool.false_and]
   clear h hlen hR hD
   generalize l.length = L at *
   go_enter Tryz.func49, Tryz.ntmps49
   go_wp2_with (go_at_call 80; refine (hnam _).mono ?_; rintro e w1 ⟨rfl, hb1⟩; have hN1 := (Has.new w _ _).below hb1 (by simp); have n0 := hN1.cell 0; have n2 := hN1.cell 2; have n4 := hN1.cell 4; have q0 := hN1.cell 1; have q3 := hN1.cell 3; have hlN := hN1.lt)
   go_ret
   exact ⟨rfl, (b_one w _).trans (hb1.mono (by simp))⟩
theorem isStVolume_c (s : List UInt8) (M at_ : Int) (l : List Nd) (A : Option Addr) (C : Nat) (w : World) (h : RdN w (.mk wVolume s M at_ l) A C) (hname : hasNm s = true) :
  Calls Tryz.prog 49 #[.agg (ndc (.mk wVolume s M at_ l) (.slice A l.length C))] w (Yes w (rightR (.mk wVolume s M at_ l))) := by
 have hlen := h.len
 have hnam := fun W => hasName_c (.mk wVolume s M at_ l) A l.length C W (by have := h.s; omega)
 have hl2 : ((l.length : Nat) : Int) ≤ 9223372036854775807 := by have h1 := hlen.1; have h2 := hlen.2; simp only [Nd.l] at h1; omega
 simp only [Nd.s, hname] at hnam
 have hR : rightR (.mk wVolume s M at_ l) = (decide (M = 0) && decide (l.length = 1) && rightE 12 (l.getD 0 (.mk [] [] 0 0 []))) := (if_neg (by show ¬ (wVolume = wDevice ∨ wVolume = wJournal); decide)).trans ((if_neg (by show ¬ (wVolume = wKey ∨ wVolume = wRoot); decide)).trans (if_pos rfl))
 rw [hR]
 unfold ndc at hnam ⊢
 simp only [Nd.op, Nd.s, Nd.n, Nd.a, bsVolume] at hnam ⊢
 by_cases hM : M = 0
 · subst hM
   by_cases hL1 : l.length = 1
   · obtain ⟨m, rfl⟩ := List.length_eq_one_iff.1 hL1
     obtain ⟨g, off, u, rfl, hg, hc, hru, hsu, hou⟩ := h.rd.get 0 (by simp [Nd.l])
     simp only [Nd.l, List.getElem_cons_zero] at hc hru hsu hou
     obtain ⟨Au, Cu, rfl, hu1, hu2⟩ := hru.slice
     have d0 := hc 0 (by decide)
     have d1 := hc 1 (by decide)
     have d2 := hc 2 (by decide)
     have d3 := hc 3 (by decide)
     have d4 := hc 4 (by decide)
     simp only [ndc, Nat.zero_mul, Nat.add_zero] at d0 d1 d2 d3 d4
     have hgu : ∀ W, Below w.heap.size w W → RdN W m Au Cu := fun W hW => RdN.grow (w := w) ⟨hru, hsu, hou⟩ hW
     have hsub : ∀ W, Below w.heap.size w W → Calls Tryz.prog 83 #[.agg #[.string (bs m.op), .string (bs m.s), .int .i64 m.n, .int .i64 m.a, .slice Au m.l.length Cu], .int .i64 1] W (Yes W (rightE 12 m)) := fun W hW => isExpr_c 12 1 m Au Cu W rfl (hgu W hW)
     obtain ⟨B, hB⟩ : ∃ B, B = rightE 12 m := ⟨_, rfl⟩
     have hV : (decide ((0 : Int) = 0) && decide (([m] : List Nd).length = 1) && rightE 12 (([m] : List Nd).getD 0 (.mk [] [] 0 0 []))) = B := by rw [hB]; simp
     rw [← hB] at hsub
     rw [hV]
     clear hV hB
     show Calls _ _ _ _ (Yes w B)
     rw [show ([m] : List Nd).length = 1 from rfl] at hnam ⊢
     clear h hlen hR hc hL1 hl2
     go_enter Tryz.func49, Tryz.ntmps49
     go_wp2_with (first
      | ((go_at_call 80)
         (refine (hnam _).mono ?_)
         (rintro e w1 ⟨rfl, hb1⟩)
         (have hN1 := (Has.new w _ _).below hb1 (by simp))
         (have n0 := hN1.cell 0)
         (have n2 := hN1.cell 2)
         (have n4 := hN1.cell 4)
         (have hlN := hN1.lt)
         (have hbw : Below w.heap.size w w1 := (b_one w _).trans (hb1.mono (by simp)))
         (have e0 := below_some hbw d0)
         (have e1 := below_some hbw d1)
         (have e2 := below_some hbw d2)
         (have e3 := below_some hbw d3)
         (have e4 := below_some hbw d4))
      | (go_at_call 83; refine (hsub _ hbw).mono ?_; rintro e w2 ⟨rfl, hb2⟩))
     go_ret
     exact ⟨rfl, hbw.trans (hb2.mono hbw.size)⟩
   · have hL1' : ¬ ((l.length : Nat) : Int) = 1 := by omega
     have hD : decide (l.length = 1) = false := by simp [hL1]
     rw [hD, Bool.and_false, Bool.false_and]
     clear h hlen hR hD
     generalize l.length = L at *
     go_enter Tryz.func49, Tryz.ntmps49
     go_wp2_with (go_at_call 80; refine (hnam _).mono ?_; rintro e w1 ⟨rfl, hb1⟩; have hN1 := (Has.new w _ _).below hb1 (by simp); have n0 := hN1.cell 0; have n2 := hN1.cell 2; have n4 := hN1.cell 4; have q0 := hN1.cell 1; have q3 := hN1.cell 3; have hlN := hN1.lt)
     go_ret
     exact ⟨rfl, (b_one w _).trans (hb1.mono (by simp))⟩
 · have hD : decide (M = 0) = false := by simp [hM]
   rw [hD, Bool.false_and, Bool.false_and]
   clear h hlen hR hD
   generalize l.length = L at *
   go_enter Tryz.func49, Tryz.ntmps49
   go_wp2_with (go_at_call 80; refine (hnam _).mono ?_; rintro e w1 ⟨rfl, hb1⟩; have hN1 := (Has.new w _ _).below hb1 (by simp); have n0 := hN1.cell 0; have n2 := hN1.cell 2; have n4 := hN1.cell 4; have q0 := hN1.cell 1; have q3 := hN1.cell 3; have hlN := hN1.lt)
   go_ret
   exact ⟨rfl, (b_one w _).trans (hb1.mono (by simp))⟩
theorem isStExport_c (s : List UInt8) (M at_ : Int) (l : List Nd) (A : Option Addr) (C : Nat) (w : World) (h : RdN w (.mk wExport s M at_ l) A C) (hname : hasNm s = true) :
  Calls Tryz.prog 49 #[.agg (ndc (.mk wExport s M at_ l) (.slice A l.length C))] w (Yes w (rightR (.mk wExport s M at_ l))) := by
 have hlen := h.len
 have hnam := fun W => hasName_c (.mk wExport s M at_ l) A l.length C W (by have := h.s; omega)
 have hl2 : ((l.length : Nat) : Int) ≤ 9223372036854775807 := by have h1 := hlen.1; have h2 := hlen.2; simp only [Nd.l] at h1; omega
 simp only [Nd.s, hname] at hnam
 have hR : rightR (.mk wExport s M at_ l) = ((decide (M = 0) || decide (M = 1)) && decide (l.length = 0)) := (if_neg (by show ¬ (wExport = wDevice ∨ wExport = wJournal); decide)).trans ((if_neg (by show ¬ (wExport = wKey ∨ wExport = wRoot); decide)).trans ((if_neg (by show ¬ wExport = wVolume; decide)).trans (if_pos rfl)))
 rw [hR]
 unfold ndc at hnam ⊢
 simp only [Nd.op, Nd.s, Nd.n, Nd.a, bsExport] at hnam ⊢
 clear h hlen hR
 generalize l.length = L at *
 by_cases hM : M = 0
 · subst hM
   by_cases hL0 : L = 0
   · subst hL0
     go_enter Tryz.func49, Tryz.ntmps49
     go_wp2_with (go_at_call 80; refine (hnam _).mono ?_; rintro e w1 ⟨rfl, hb1⟩; have hN1 := (Has.new w _ _).below hb1 (by simp); have n0 := hN1.cell 0; have n2 := hN1.cell 2; have n4 := hN1.cell 4; have q0 := hN1.cell 1; have q3 := hN1.cell 3; have hlN := hN1.lt)
     go_ret
     exact ⟨rfl, (b_one w _).trans (hb1.mono (by simp))⟩
   · have hL0' : ¬ (L : Int) = 0 := by omega
     go_enter Tryz.func49, Tryz.ntmps49
     go_wp2_with (go_at_call 80; refine (hnam _).mono ?_; rintro e w1 ⟨rfl, hb1⟩; have hN1 := (Has.new w _ _).below hb1 (by simp); have n0 := hN1.cell 0; have n2 := hN1.cell 2; have n4 := hN1.cell 4; have q0 := hN1.cell 1; have q3 := hN1.cell 3; have hlN := hN1.lt)
     go_ret
     exact ⟨by simp [hL0], (b_one w _).trans (hb1.mono (by simp))⟩
 · by_cases hM1 : M = 1
   · subst hM1
     by_cases hL0 : L = 0
     · subst hL0
       go_enter Tryz.func49, Tryz.ntmps49
       go_wp2_with (go_at_call 80; refine (hnam _).mono ?_; rintro e w1 ⟨rfl, hb1⟩; have hN1 := (Has.new w _ _).below hb1 (by simp); have n0 := hN1.cell 0; have n2 := hN1.cell 2; have n4 := hN1.cell 4; have q0 := hN1.cell 1; have q3 := hN1.cell 3; have hlN := hN1.lt)
       go_ret
       exact ⟨rfl, (b_one w _).trans (hb1.mono (by simp))⟩
     · have hL0' : ¬ (L : Int) = 0 := by omega
       go_enter Tryz.func49, Tryz.ntmps49
       go_wp2_with (go_at_call 80; refine (hnam _).mono ?_; rintro e w1 ⟨rfl, hb1⟩; have hN1 := (Has.new w _ _).below hb1 (by simp); have n0 := hN1.cell 0; have n2 := hN1.cell 2; have n4 := hN1.cell 4; have q0 := hN1.cell 1; have q3 := hN1.cell 3; have hlN := hN1.lt)
       go_ret
       exact ⟨by simp [hL0], (b_one w _).trans (hb1.mono (by simp))⟩
   · go_enter Tryz.func49, Tryz.ntmps49
     go_wp2_with (go_at_call 80; refine (hnam _).mono ?_; rintro e w1 ⟨rfl, hb1⟩; have hN1 := (Has.new w _ _).below hb1 (by simp); have n0 := hN1.cell 0; have n2 := hN1.cell 2; have n4 := hN1.cell 4; have q0 := hN1.cell 1; have q3 := hN1.cell 3; have hlN := hN1.lt)
     go_ret
     exact ⟨by simp [hM, hM1], (b_one w _).trans (hb1.mono (by simp))⟩
theorem isStatement_c (n : Nd) (A : Option Addr) (C : Nat) (w : World) (h : RdN w n A C) : Calls Tryz.prog 49 #[.agg (ndc n (.slice A n.l.length C))] w (Yes w (rightS n)) := by
 rw [rightS_eq]
 cases hname : hasNm n.s with
 | false =>
   have hnam := fun W => hasName_c n A n.l.length C W (by have := h.s; omega)
   rw [hname] at hnam
   unfold ndc at *
   clear hname
   go_enter Tryz.func49, Tryz.ntmps49
   go_wp2_with (go_at_call 80; refine (hnam _).mono ?_; rintro e w1 ⟨rfl, hb1⟩)
   go_ret
   exact ⟨rfl, (b_one w _).trans (hb1.mono (by simp))⟩
 | true =>
   rw [Bool.true_and]
   obtain ⟨op, s, M, at_, l⟩ := n
   simp only [Nd.s] at hname
   by_cases h1 : op = wDevice
   · subst h1; exact isStDevice_c s M at_ l A C w h hname
   by_cases h2 : op = wJournal
   · subst h2; exact isStJournal_c s M at_ l A C w h hname
   by_cases h3 : op = wKey
   · subst h3; exact isStKey_c s M at_ l A C w h hname
   by_cases h4 : op = wRoot
   · subst h4; exact isStRoot_c s M at_ l A C w h hname
   by_cases h5 : op = wVolume
   · subst h5; exact isStVolume_c s M at_ l A C w h hname
   by_cases h6 : op = wExport
   · subst h6; exact isStExport_c s M at_ l A C w h hname
   have hR : rightR (.mk op s M at_ l) = false := (if_neg (by show ¬ (op = wDevice ∨ op = wJournal); simp [h1, h2])).trans ((if_neg (by show ¬ (op = wKey ∨ op = wRoot); simp [h3, h4])).trans ((if_neg h5).trans (if_neg h6)))
   rw [hR]
   have hnam := fun W => hasName_c (.mk op s M at_ l) A l.length C W (by have := h.s; omega)
   simp only [Nd.s, hname] at hnam
   have ho := bs_toList op
   have t1 : (op == [100, 101, 118, 105, 99, 101]) = false := by rw [beq_eq_false_iff_ne]; exact h1
   have t2 : (op == [106, 111, 117, 114, 110, 97, 108]) = false := by rw [beq_eq_false_iff_ne]; exact h2
   have t3 : (op == [107, 101, 121]) = false := by rw [beq_eq_false_iff_ne]; exact h3
   have t4 : (op == [114, 111, 111, 116]) = false := by rw [beq_eq_false_iff_ne]; exact h4
   have t5 : (op == [118, 111, 108, 117, 109, 101]) = false := by rw [beq_eq_false_iff_ne]; exact h5
   have t6 : (op == [101, 120, 112, 111, 114, 116]) = false := by rw [beq_eq_false_iff_ne]; exact h6
   unfold ndc at *
   simp only [Nd.op, Nd.s, Nd.n, Nd.a, Nd.l] at *
   generalize l.length = L at *
   clear hR hname h1 h2 h3 h4 h5 h6
   go_enter Tryz.func49, Tryz.ntmps49
   go_wp2_with (go_at_call 80; refine (hnam _).mono ?_; rintro e w1 ⟨rfl, hb1⟩; have hN1 := (Has.new w _ _).below hb1 (by simp); have n0 := hN1.cell 0)
   go_ret
   exact ⟨rfl, (b_one w _).trans (hb1.mono (by simp))⟩
theorem right_c (n : Nd) (A : Option Addr) (C : Nat) (w : World) (h : RdN w n A C) : Calls Tryz.prog 23 #[.agg (ndc n (.slice A n.l.length C))] w (Yes w (Right n)) := by
 have hlen := h.len
 have ho := bs_toList n.op
 have hs := bs_toList n.s
 have hst := fun m Au Cu W (hr : RdN W m Au Cu) => isStatement_c m Au Cu W hr
 obtain ⟨L, hL⟩ : ∃ L, L = n.l.length := ⟨_, rfl⟩
 have HL : Hid (L = n.l.length) := hL
 have hL2 : L ≤ 9223372036854775807 := by omega
 have hE : Right n = ((List.range L).all (fun i => rightS (n.l.getD i (.mk [] [] 0 0 []))) && (n.op == wFile && (n.s == [] && decide (n.n = 0)))) := by
  unfold Right
  rw [hL, Bool.and_assoc, Bool.and_assoc]
  congr 1
  rw [Bool.eq_iff_iff, List.all_eq_true, List.all_eq_true]
  constructor
  · intro hh i hi
    have hi' := List.mem_range.1 hi
    rw [List.getD_eq_getElem?_getD, List.getElem?_eq_getElem hi']
    exact hh _ (List.getElem_mem hi')
  · intro hh x hx
    obtain ⟨i, hi, rfl⟩ := List.getElem_of_mem hx
    have := hh i (List.mem_range.2 hi)
    rw [List.getD_eq_getElem?_getD, List.getElem?_eq_getElem hi] at this
    exact this
 rw [hE, ← hL]
 generalize hp : (fun i => rightS (n.l.getD i (.mk [] [] 0 0 []))) = p
 have HP : Hid (∀ i, p i = rightS (n.l.getD i (.mk [] [] 0 0 []))) := fun i => by rw [← hp]
 have hrd := h
 clear hp hE hL hlen
 rw [show (ndc n (.slice A L C)) = #[.string (bs n.op), .string (bs n.s), .int .i64 n.n, .int .i64 n.a, .slice A L C] from rfl]
 go_enter Tryz.func23, Tryz.ntmps23
 go_wp2
 obtain ⟨W1, hW1⟩ : ∃ W, W = w.alloc (.cells #[.string (bs n.op), .string (bs n.s), .int .i64 n.n, .int .i64 n.a, .slice A L C] 24) := ⟨_, rfl⟩
 have hb1 : Below w.heap.size w W1 := by rw [hW1]; exact b_one _ _
 have hN1 : Has W1 w.heap.size 24 #[.string (bs n.op), .string (bs n.s), .int .i64 n.n, .int .i64 n.a, .slice A L C] := by rw [hW1]; exact Has.new _ _ _
 rw [← hW1]
 clear hW1
 have hA0 : (List.range 0).all p = true := rfl
 go_loopw [8] (fun z wz => ∃ i : Nat, i ≤ L ∧ z = .int .i64 (i : Nat) ∧ Below W1.heap.size W1 wz ∧ (List.range i).all p = true) (fun z _ => L - (intOf z).toNat)
 case atStart => exact ⟨0, Nat.zero_le _, rfl, Below.refl _ _, hA0⟩
 case round =>
  clear hA0
  obtain ⟨i, hi, rfl, hbz, hall⟩ := hrel
  have HA : Hid ((List.range i).all p = true) := hall
  clear hall
  have hbwr : Below w.heap.size w wr := hb1.trans (hbz.mono hb1.size)
  by_cases hiL : i < L
  · have hiL2 : (i : Int) < (L : Int) := by omega
    have hiL' : i < n.l.length := by rw [← HL.out]; exact hiL
    have hR := (hrd.grow hbwr).rd
    rw [← HL.out] at hR
    obtain ⟨g, off, u, rfl, hg, hc, hru, hsu, hou⟩ := hR.get i hiL'
    obtain ⟨m, hm⟩ : ∃ m, m = n.l[i] := ⟨_, rfl⟩
    rw [← hm] at hc hru hsu hou
    obtain ⟨Au, Cu, rfl, -, -⟩ := hru.slice
    have d0 := hc 0 (by decide)
    have d1 := hc 1 (by decide)
    have d2 := hc 2 (by decide)
    have d3 := hc 3 (by decide)
    have d4 := hc 4 (by decide)
    simp only [Nat.add_zero] at d0
    simp only [ndc] at d0 d1 d2 d3 d4
    have hp1 : p i = rightS m := by rw [HP.out i, hm, List.getD_eq_getElem?_getD, List.getElem?_eq_getElem hiL']; rfl
    have HP1 : Hid (p i = rightS m) := hp1
    have hpm := fun W hW => hst m Au Cu W (RdN.grow (w := wr) ⟨hru, hsu, hou⟩ hW)
    unfold ndc at hpm
    generalize rightS m = V at hpm HP1
    clear hp1 hm hc hR hst
    cases V with
    | true =>
      go_wp2_with (go_at_call 49; refine (hpm _ (b_one _ _)).mono ?_; rintro e w4 ⟨rfl, hb4⟩)
      go_roundw
      case rel => exact ⟨i + 1, by omega, by go_num, hbz.trans (((b_one wr _).trans (hb4.mono (by simp))).mono hbz.size), by rw [allTo_succ, HA.out, HP1.out]; rfl⟩
      case measure => simp [intOf]; omega
    | false =>
      go_wp2_with (go_at_call 49; refine (hpm _ (b_one _ _)).mono ?_; rintro e w4 ⟨rfl, hb4⟩)
      go_ret
      refine ⟨ret_bool ?_, hbwr.trans (((b_one wr _).trans (hb4.mono (by simp))).mono hbwr.size)⟩
      symm
      have : (List.range L).all p = false := by
       rw [List.all_eq_false]
       exact ⟨i, List.mem_range.2 hiL, by rw [HP1.out]; decide⟩
      rw [this, Bool.false_and]
  · have hiL2 : i = L := by omega
    subst hiL2
    have hN2 := hN1.below hbz hN1.lt
    have x0 := hN2.cell 0
    have x1 := hN2.cell 1
    have x2 := hN2.cell 2
    clear hst
    generalize n.n = M at *
    cases e1 : (n.op == wFile)
    · have e1' : (n.op == [102, 105, 108, 101]) = false := e1
      go_wp2
      go_ret
      exact ⟨ret_bool (by rw [HA.out, e1]; rfl), hbwr⟩
    · have e1' : (n.op == [102, 105, 108, 101]) = true := e1
      cases e2 : (n.s == [])
      · go_wp2
        go_ret
        exact ⟨ret_bool (by rw [HA.out, e1, e2]; rfl), hbwr⟩
      · by_cases hM : M = 0
        · subst hM
          go_wp2
          go_ret
          exact ⟨ret_bool (by rw [HA.out]), hbwr⟩
        · go_wp2
          go_ret
          exact ⟨ret_bool (by rw [HA.out, e1, e2]; simp [hM]), hbwr⟩
end
section
open Go.ChangeShapes Go.WideShapes Go.ChangeAt Go.RowKit
def RTok (w : World) (rb : Nat) (A : Option Addr) (C : Nat) (ts : Toks) (i en : Nat) (bad : Int) (p : Tk → Bool) (e : Ending) (w' : World) : Prop := ∃ (i' : Nat) (bad' : Int) (x : Tk × Nat), e = .returned (.agg (tkv x.1 x.2)) ∧ Rst w rb A C ts i en w' i' bad' ∧ Tell bad (ptake p en (ts.drop i)) ts x i' bad' ∧ (x ∈ ts ∨ x = (⟨0, [], 0⟩, 0))
theorem Kp.drew {p : Nat} {w w' : World} (h : Kp p w w') : Kp p w w'.drew := ⟨h.os, h.tape, h.output, h.size, h.block⟩
theorem Has.oth4 {w : World} {g g' t : Nat} {cs : Array Value} (h : Has w g t cs) (hne : g ≠ g') (x0 x1 x2 x3 : Value) : Has ((((w.setCell ⟨g', 0, none⟩ x0).setCell ⟨g', 1, none⟩ x1).setCell ⟨g', 2, none⟩ x2).setCell ⟨g', 3, none⟩ x3) g t cs :=
 (((h.other (p := ⟨g', 0, none⟩) hne x0).other (p := ⟨g', 1, none⟩) hne x1).other (p := ⟨g', 2, none⟩) hne x2).other (p := ⟨g', 3, none⟩) hne x3
theorem rtoken_c {w : World} {rb : Nat} {A : Option Addr} {C : Nat} {ts : Toks} {i en : Nat} {bad k : Int} (h : RdrAt w rb A C ts i en bad k) (K : Nat) : Calls Tryz.prog 46 #[.pointer (some ⟨rb, 0, none⟩), .int .i64 (K : Nat)] w (RTok w rb A C ts i en bad (isKi K)) := by
 have c0 := h.has.cell 0
 have c1 := h.has.cell 1
 have c3 := h.has.cell 3
 simp only [ga1, gz1, gs1] at c0 c1 c3
 have hlt := h.has.lt
 have hf := h.few
 have hle := h.le
 have h' := h.kp (b_one w (.cells #[.int .i64 0, .string ⟨#[]⟩, .int .i64 0, .int .i64 0] 100))
 have hT := Has.new w 100 #[.int .i64 0, .string ⟨#[]⟩, .int .i64 0, .int .i64 0]
 have fin : ∀ (w1 : World) (bad' : Int) (k' : Int), bad' ≠ 0 → (bad ≠ 0 ∨ pcomes (isKi K) (ts.drop i) = false) → RdrAt w1 rb A C ts i en bad' k' → Kp rb (w.alloc (.cells #[.int .i64 0, .string ⟨#[]⟩, .int .i64 0, .int .i64 0] 100)) w1 → RTok w rb A C ts i en bad (isKi K) (.returned (.agg (tkv (⟨0, [], 0⟩ : Tk) 0))) w1 := fun w1 bad' k' hb hc hr hk => ⟨i, bad', (⟨0, [], 0⟩, 0), rfl, Rst.of (Nat.le_refl _) (kp_alloc_left hk) hr, take_fail hc hb _ _, .inr rfl⟩
 have c0' := below_some (b_one w (.cells #[.int .i64 0, .string ⟨#[]⟩, .int .i64 0, .int .i64 0] 100)) c0
 have c1' := below_some (b_one w (.cells #[.int .i64 0, .string ⟨#[]⟩, .int .i64 0, .int .i64 0] 100)) c1
 have c3' := below_some (b_one w (.cells #[.int .i64 0, .string ⟨#[]⟩, .int .i64 0, .int .i64 0] 100)) c3
 by_cases hs : bad = 0 ∧ ∃ hi : i < ts.length, ts[i].1.kind = K
 · obtain ⟨rfl, hi, hk⟩ := hs
   obtain ⟨g, off, rfl, hg, hne, htk0⟩ := h.tok i hi
   have htk := htk0.kp (Kp.of (p := rb) (b_one w (.cells #[.int .i64 0, .string ⟨#[]⟩, .int .i64 0, .int .i64 0] 100))) hne hg
   have t0 := htk i hi 0 (by decide)
   have t1 := htk i hi 1 (by decide)
   have t2 := htk i hi 2 (by decide)
   have t3 := htk i hi 3 (by decide)
   have hx : ts[i] ∈ ts := List.getElem_mem hi
   have hp : isKi K ts[i].1 = true := by simp [isKi, hk]
   have hTell := take_tell (en := en) hi hp
   have hq : ∀ W, Has W rb 61 #[.slice (some ⟨g, off, none⟩) ts.length C, .int .i64 ((i : Int) + 1), .int .i64 (en : Nat), .int .i64 0, .int .i64 k] → Kp rb w W → RTok w rb (some ⟨g, off, none⟩) C ts i en 0 (isKi K) (.returned (.agg (tkv ts[i].1 ts[i].2))) W := fun W hW hkp => ⟨i + 1, 0, ts[i], rfl, ⟨by omega, by omega, hkp, k, hW⟩, hTell, .inl hx⟩
   have hH := h'.has
   clear hTell hp h fin c0 c1 c3 htk htk0 hx h'
   generalize ts[i] = t at *
   generalize ts.length = L at *
   have hii : (i : Int) < (L : Int) := by omega
   have hi5 : (i : Int) ≤ 500 := by omega
   obtain ⟨⟨tk, tss, tn⟩, ta⟩ := t
   obtain rfl : tk = K := hk
   simp only [tkv, List.getElem?_toArray, List.getElem?_cons_zero, List.getElem?_cons_succ, Nat.add_zero] at t0 t1 t2 t3
   have hg2 : g ≠ w.heap.size := by omega
   have f1 := hH.free 1
   have a0 := hT.cell 0
   have a1 := hT.cell 1
   have a2 := hT.cell 2
   have a3 := hT.cell 3
   have b0 := hT.free 0
   have b1 := hT.free 1
   have b2 := hT.free 2
   have b3 := hT.free 3
   go_enter Tryz.func46, Tryz.ntmps46
   go_wp2
   go_quiet (fail)
   go_wp2
   go_region
   go_wp2
   have hT1 : Has (((w.alloc (.cells #[.int .i64 0, .string ⟨#[]⟩, .int .i64 0, .int .i64 0] 100)).drewN nq).setCell ⟨rb, 1, none⟩ (.int .i64 ((i : Int) + 1))) w.heap.size 100 #[.int .i64 0, .string ⟨#[]⟩, .int .i64 0, .int .i64 0] := (hT.drewN nq).other (by show w.heap.size ≠ rb; omega) _
   refine ret_tok rfl rfl (has_drew (hT1.set4 _ _ _ _)) rfl (hq _ ?_ ?_)
   · have hh := (hH.drewN nq).putP 1 (.int .i64 ((i : Int) + 1))
     have hh2 := hh.oth4 (g' := w.heap.size) (by omega) (.int .i64 (tk : Nat)) (.string (bs tss)) (.int .i64 (tn : Nat)) (.int .i64 (ta : Nat))
     exact has_drew hh2
   · have hk1 : Kp rb w (w.alloc (.cells #[.int .i64 0, .string ⟨#[]⟩, .int .i64 0, .int .i64 0] 100)) := Kp.of (b_one w _)
     exact Kp.drew ((((((hk1.drewN nq).setP 1 _).setNew (q := ⟨w.heap.size, 0, none⟩) (Nat.le_refl _) _).setNew (q := ⟨w.heap.size, 1, none⟩) (Nat.le_refl _) _).setNew (q := ⟨w.heap.size, 2, none⟩) (Nat.le_refl _) _).setNew (q := ⟨w.heap.size, 3, none⟩) (Nat.le_refl _) _)
 · have hcase : bad ≠ 0 ∨ pcomes (isKi K) (ts.drop i) = false := by
    by_cases hb : bad = 0
    · right
      by_cases hi : i < ts.length
      · rw [comes_at hi]
        simp only [isKi, beq_eq_false_iff_ne]
        exact fun e => hs ⟨hb, hi, e⟩
      · exact comes_end hi
    · exact .inl hb
   have go := fun w1 bad' k' hb hr hk => fin w1 bad' k' hb hcase hr hk
   have done : ∀ (w1 : World) (bad' k' : Int) (a : Act), bad' ≠ 0 → RdrAt w1 rb A C ts i en bad' k' → Kp rb (w.alloc (.cells #[.int .i64 0, .string ⟨#[]⟩, .int .i64 0, .int .i64 0] 100)) w1 → a.tmps[4]?.getD undef = .pointer (some ⟨w.heap.size, 0, none⟩) → a.defers = [] → bodyPost Tryz.prog Tryz.f46 (RTok w rb A C ts i en bad (isKi K)) .ret a ((((w1.setCell ⟨w.heap.size, 0, none⟩ (.int .i64 0)).setCell ⟨w.heap.size, 1, none⟩ (.string ⟨#[]⟩)).setCell ⟨w.heap.size, 2, none⟩ (.int .i64 0)).setCell ⟨w.heap.size, 3, none⟩ (.int .i64 0)) := by
    intro w1 bad' k' a hb hr hk ht hd
    have hT2 : Has w1 w.heap.size 100 #[.int .i64 0, .string ⟨#[]⟩, .int .i64 0, .int .i64 0] := (hk.block _ hT.lt (fun e => by cases e; omega)).trans hT
    refine ret_tok rfl ht (hT2.set4 _ _ _ _) hd ?_
    refine ⟨i, bad', (⟨0, [], 0⟩, 0), rfl, ?_, take_fail hcase hb _ _, .inr rfl⟩
    have h0 : Rst w rb A C ts i en w1 i bad' := Rst.of (Nat.le_refl _) (kp_alloc_left hk) hr
    exact (((h0.new (q := ⟨w.heap.size, 0, none⟩) (Nat.le_refl _) hlt _).new (q := ⟨w.heap.size, 1, none⟩) (Nat.le_refl _) hlt _).new (q := ⟨w.heap.size, 2, none⟩) (Nat.le_refl _) hlt _).new (q := ⟨w.heap.size, 3, none⟩) (Nat.le_refl _) hlt _
   have hF := fun q => rfail_c (h'.drewN q) 111 (by decide)
   clear fin go c0 c1 c3
   have hd0 : ∀ b : Int, b ≠ 0 → decide (b = 0) = false := fun b h => decide_eq_false h
   by_cases hb : bad = 0
   · subst hb
     by_cases hi : i < ts.length
     · obtain ⟨g, off, rfl, hg, hne, htk0⟩ := h.tok i hi
       have htk := htk0.kp (Kp.of (p := rb) (b_one w (.cells #[.int .i64 0, .string ⟨#[]⟩, .int .i64 0, .int .i64 0] 100))) hne hg
       have t0 := htk i hi 0 (by decide)
       have hkk : ¬ ts[i].1.kind = K := fun e => hs ⟨rfl, hi, e⟩
       clear hs hcase h htk htk0 hd0
       generalize ts[i] = t at *
       obtain ⟨⟨tk, tss, tn⟩, ta⟩ := t
       simp only [tkv, List.getElem?_toArray, List.getElem?_cons_zero, Nat.add_zero] at t0 hkk
       have hki : decide ((tk : Int) = (K : Int)) = false := decide_eq_false (by omega)
       have hkj : (tk == K) = false := by rw [beq_eq_false_iff_ne]; omega
       have hkl : decide (tk = K) = false := decide_eq_false hkk
       have hkm : ((tk : Int) != (K : Int)) = true := by rw [bne_iff_ne]; omega
       clear h'
       generalize ts.length = L at *
       have hii : (i : Int) < (L : Int) := by omega
       go_enter Tryz.func46, Tryz.ntmps46
       go_wp2
       go_quiet (fail)
       go_wp2_with (first
        | ((go_at_call 44)
           (refine (hF _).mono ?_)
           (rintro e w1 ⟨rfl, bad', k', hb', h', hk⟩)
           (have hT2 : Has w1 w.heap.size 100 #[.int .i64 0, .string ⟨#[]⟩, .int .i64 0, .int .i64 0] := (hk.block _ hT.lt (fun e => by cases e; omega)).trans hT)
           (have a0 := hT2.cell 0)
           (have a1 := hT2.cell 1)
           (have a2 := hT2.cell 2)
           (have a3 := hT2.cell 3)
           (have b0 := hT2.free 0)
           (have b1 := hT2.free 1)
           (have b2 := hT2.free 2)
           (have b3 := hT2.free 3)
           (have lt2 := hT2.lt)))
       exact done w1 bad' k' _ hb' h' ⟨hk.os, hk.tape, hk.output, hk.size, hk.block⟩ rfl rfl
     · clear hs hcase h hd0 h'
       generalize ts.length = L at *
       have hii : ¬ (i : Int) < (L : Int) := by omega
       go_enter Tryz.func46, Tryz.ntmps46
       go_wp2
       go_quiet (fail)
       go_wp2_with (first
        | ((go_at_call 44)
           (refine (hF _).mono ?_)
           (rintro e w1 ⟨rfl, bad', k', hb', h', hk⟩)
           (have hT2 : Has w1 w.heap.size 100 #[.int .i64 0, .string ⟨#[]⟩, .int .i64 0, .int .i64 0] := (hk.block _ hT.lt (fun e => by cases e; omega)).trans hT)
           (have a0 := hT2.cell 0)
           (have a1 := hT2.cell 1)
           (have a2 := hT2.cell 2)
           (have a3 := hT2.cell 3)
           (have b0 := hT2.free 0)
           (have b1 := hT2.free 1)
           (have b2 := hT2.free 2)
           (have b3 := hT2.free 3)
           (have lt2 := hT2.lt)))
       exact done w1 bad' k' _ hb' h' ⟨hk.os, hk.tape, hk.output, hk.size, hk.block⟩ rfl rfl
   · have hd := hd0 bad hb
     have hd2 : (bad == 0) = false := by simpa using hb
     have hd3 : (bad != 0) = true := by rw [bne, hd2]; rfl
     clear hs hcase h hd0 h'
     generalize ts.length = L at *
     go_enter Tryz.func46, Tryz.ntmps46
     go_wp2
     go_quiet (fail)
     go_wp2_with (first
      | ((go_at_call 44)
         (refine (hF _).mono ?_)
         (rintro e w1 ⟨rfl, bad', k', hb', h', hk⟩)
         (have hT2 : Has w1 w.heap.size 100 #[.int .i64 0, .string ⟨#[]⟩, .int .i64 0, .int .i64 0] := (hk.block _ hT.lt (fun e => by cases e; omega)).trans hT)
         (have a0 := hT2.cell 0)
         (have a1 := hT2.cell 1)
         (have a2 := hT2.cell 2)
         (have a3 := hT2.cell 3)
         (have b0 := hT2.free 0)
         (have b1 := hT2.free 1)
         (have b2 := hT2.free 2)
         (have b3 := hT2.free 3)
         (have lt2 := hT2.lt)))
     exact done w1 bad' k' _ hb' h' ⟨hk.os, hk.tape, hk.output, hk.size, hk.block⟩ rfl rfl
end
end Go.Proofs.YthndifegfmjpbaaGreatDoor
