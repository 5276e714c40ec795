/- Texts that the statements of this stage share, joined. -/
import Derived.Test.YthndifegfmjpbaaGreatDoorJoint14
namespace Go.Proofs.YthndifegfmjpbaaGreatDoor
set_option linter.unusedVariables false
set_option maxRecDepth 100000
set_option maxHeartbeats 40000000
section
open Go.ChangeShapes Go.WideShapes Go.ChangeAt Go.RowKit
theorem rst_Key {w : World} {rb : Nat} {A : Option Addr} {C : Nat} {ts : Toks} {i en : Nat} {k : Int} (h : RdrAt w rb A C ts i en 0 k) (hG : Goodt ts) (hi : i < ts.length) (hk : ts[i].1.kind = 0) (hs : ts[i].1.s = wKey) : Calls Tryz.prog 22 #[.pointer (some ⟨rb, 0, none⟩)] w (RNode w rb A C ts i en 0 pstmt) := by
 have hpx := ps_op (en := en) hi hk hs (by decide)
 have hlt := h.has.lt
 have hf := h.few
 have hR := h
 have hB : ∀ s, isB 0 ts i s = (wKey == s) := by
  intro s
  unfold isB
  rw [comes_at hi]
  unfold isWS
  rw [hk, hs]
  rfl
 have hIs : ∀ (W : World) (k : Int) (s : List UInt8) (b : Bool), RdrAt W rb A C ts i en 0 k → (wKey == s) = b → Calls Tryz.prog 43 #[.pointer (some ⟨rb, 0, none⟩), .string (bs s)] W fun e w' => e = .returned (.bool b) ∧ ∃ q, w' = W.drewN q := by
  intro W k s b h hb
  have := ris_any h s
  rw [hB, hb] at this
  exact this
 have hpl : ∀ W k, RdrAt W rb A C ts i en 0 k → Calls Tryz.prog 42 #[.pointer (some ⟨rb, 0, none⟩)] W fun e w' => e = .returned (.int .i64 (ts[i].2 : Nat)) ∧ Below W.heap.size W w' := by
  intro W k h
  refine (rplace_c h).mono ?_
  rintro e w' ⟨rfl, q, rfl⟩
  rw [place_at hi]
  exact ⟨rfl, bel_dn (Below.refl _ _) _⟩
 have h0 := h.kp (b_one w (.cells #[.string ⟨#[]⟩, .string ⟨#[]⟩, .int .i64 0, .int .i64 0, .slice none 0 0] 24))
 have fin : ∀ (e : Ending) (w' : World), RNode w rb A C ts i en 0 (fun _ _ => pstmt en (ts.drop i)) e w' → RNode w rb A C ts i en 0 pstmt e w' := fun e w' h => h
 rw [hpx] at fin
 generalize ts[i].2 = at_ at hpl fin
 clear hpx hs hk hB
 have hi5 : (i : Int) ≤ 500 := by omega
 go_enter Tryz.func22, Tryz.ntmps22
 go_wp2_with (first
  | ((go_at_call 42)
     (refine (hpl _ _ h0).mono ?_)
     (rintro e w2 ⟨rfl, hb2⟩)
     (have S3 := (st_start (at_ := ((at_ : Nat) : Int)) hR hb2 hlt).alloc (.cells #[.string ⟨#[100, 101, 118, 105, 99, 101]⟩, .string ⟨#[106, 111, 117, 114, 110, 97, 108]⟩, .string ⟨#[107, 101, 121]⟩, .string ⟨#[114, 111, 111, 116]⟩, .string ⟨#[118, 111, 108, 117, 109, 101]⟩, .string ⟨#[101, 120, 112, 111, 114, 116]⟩] 9))
     (have pq := S3.pq)
     (have G3 : Has ((w2.alloc (.cells #[.string ⟨#[]⟩, .string ⟨#[]⟩, .int .i64 0, .int .i64 (at_ : Nat), .slice none 0 0] 24)).alloc (.cells #[.string ⟨#[100, 101, 118, 105, 99, 101]⟩, .string ⟨#[106, 111, 117, 114, 110, 97, 108]⟩, .string ⟨#[107, 101, 121]⟩, .string ⟨#[114, 111, 111, 116]⟩, .string ⟨#[118, 111, 108, 117, 109, 101]⟩, .string ⟨#[101, 120, 112, 111, 114, 116]⟩] 9)) (w2.heap.size + 1) 9 #[.string ⟨#[100, 101, 118, 105, 99, 101]⟩, .string ⟨#[106, 111, 117, 114, 110, 97, 108]⟩, .string ⟨#[107, 101, 121]⟩, .string ⟨#[114, 111, 111, 116]⟩, .string ⟨#[118, 111, 108, 117, 109, 101]⟩, .string ⟨#[101, 120, 112, 111, 114, 116]⟩] := Has.new_at (by simp))))
 go_loopw [5] (fun z wr => ∃ k : Nat, z = .int .i64 (k : Nat) ∧ Has wr (w2.heap.size + 1) 9 #[.string ⟨#[100, 101, 118, 105, 99, 101]⟩, .string ⟨#[106, 111, 117, 114, 110, 97, 108]⟩, .string ⟨#[107, 101, 121]⟩, .string ⟨#[114, 111, 111, 116]⟩, .string ⟨#[118, 111, 108, 117, 109, 101]⟩, .string ⟨#[101, 120, 112, 111, 114, 116]⟩] ∧ ((k ≤ 2 ∧ SAt w rb A C ts i en w2.heap.size #[.string ⟨#[]⟩, .string ⟨#[]⟩, .int .i64 0, .int .i64 (at_ : Nat), .slice none 0 0] wr i 0) ∨ (k = 3 ∧ SAt w rb A C ts i en w2.heap.size #[.string ⟨#[107, 101, 121]⟩, .string ⟨#[]⟩, .int .i64 0, .int .i64 (at_ : Nat), .slice none 0 0] wr i 0))) (fun z _ => 7 - (intOf z).toNat)
 case atStart => exact ⟨0, rfl, G3, .inl ⟨Nat.zero_le _, S3⟩⟩
 case round =>
  obtain ⟨k, rfl, G4, hS⟩ := hrel
  have lG4 := G4.lt
  rcases hS with ⟨hk, S4⟩ | ⟨rfl, S4⟩
  · obtain ⟨k4, h4⟩ := S4.at hR
    have q0 := S4.hq.cell 0
    have f0 := S4.hq.free 0
    have lq := S4.hq.lt
    rcases (by omega : k = 0 ∨ k = 1 ∨ k = 2) with rfl | rfl | rfl
    · have g0 := G4.cell 0
      have hI := hIs wr k4 wDevice false h4 rfl
      rw [show bs wDevice = ⟨#[100, 101, 118, 105, 99, 101]⟩ from rfl] at hI
      go_wp2_with (first
       | ((go_at_call 43)
          (refine hI.mono ?_)
          (rintro e w5 ⟨rfl, q5, rfl⟩)))
      go_roundw
      case rel => exact ⟨1, rfl, G4.drewN q5, .inl ⟨by omega, S4.drewN q5⟩⟩
      case measure => simp [intOf]
    · have g0 := G4.cell 1
      have hI := hIs wr k4 wJournal false h4 rfl
      rw [show bs wJournal = ⟨#[106, 111, 117, 114, 110, 97, 108]⟩ from rfl] at hI
      go_wp2_with (first
       | ((go_at_call 43)
          (refine hI.mono ?_)
          (rintro e w5 ⟨rfl, q5, rfl⟩)))
      go_roundw
      case rel => exact ⟨2, rfl, G4.drewN q5, .inl ⟨by omega, S4.drewN q5⟩⟩
      case measure => simp [intOf]
    · have g0 := G4.cell 2
      have hI := hIs wr k4 wKey true h4 rfl
      rw [show bs wKey = ⟨#[107, 101, 121]⟩ from rfl] at hI
      go_wp2_with (first
       | ((go_at_call 43)
          (refine hI.mono ?_)
          (rintro e w5 ⟨rfl, q5, rfl⟩)))
      go_roundw
      case rel => exact ⟨3, rfl, (G4.drewN q5).other (by show w2.heap.size + 1 ≠ w2.heap.size; omega) _, .inr ⟨rfl, (S4.drewN q5).put 0 _ _ rfl⟩⟩
      case measure => simp [intOf]
  · obtain ⟨k4, h4⟩ := S4.at hR
    have q0 := S4.hq.cell 0
    have lq := S4.hq.lt
    have S5 := S4.step hi
    obtain ⟨k5, h5⟩ := S5.at hR
    have c4 := h4.has.cell 1
    have d4 := h4.has.free 1
    have l4 := h4.has.lt
    simp only [ga1, gz1, gs1] at c4
    go_wp2_with (first
     | ((go_at_call 45)
        (refine at_wd (wr.setCell ⟨rb, 1, none⟩ (.int .i64 ((i : Int) + 1))) ?_)
        (refine (rname_c' h5).mono ?_)
        (rintro e w5 ⟨i5, b5, ⟨⟨tk5, ts5, tn5⟩, ta5⟩, rfl, s5, T5, x5⟩)
        (have S6 := ((S5.rst s5).put 1 (.string (bs ts5)) #[.string ⟨#[107, 101, 121]⟩, .string (bs ts5), .int .i64 0, .int .i64 (at_ : Nat), .slice none 0 0] rfl).alloc (.cells #[.int .i64 (tk5 : Nat), .string (bs ts5), .int .i64 (tn5 : Nat), .int .i64 (ta5 : Nat)] 100))
        (obtain ⟨k6, h6⟩ := S6.at hR)
        (have q5 := (S5.rst s5).hq.cell 0)
        (have q51 := (S5.rst s5).hq.cell 1)
        (have q52 := (S5.rst s5).hq.cell 2)
        (have q54 := (S5.rst s5).hq.cell 4)
        (have f51 := (S5.rst s5).hq.free 1)
        (have f52 := (S5.rst s5).hq.free 2)
        (have f54 := (S5.rst s5).hq.free 4)
        (have l5 := (S5.rst s5).hq.lt)
        (have m5 : w2.heap.size ≠ w5.heap.size := by omega)
        (simp only [tkv]))
     | ((go_at_call 46)
        (refine at_wd ((w5.setCell ⟨w2.heap.size, 1, none⟩ (.string (bs ts5))).alloc (.cells #[.int .i64 (tk5 : Nat), .string (bs ts5), .int .i64 (tn5 : Nat), .int .i64 (ta5 : Nat)] 100)) ?_)
        (refine (rtoken_c h6 2).mono ?_)
        (rintro e w7 ⟨i7, b7, ⟨⟨tk7, ts7, tn7⟩, ta7⟩, rfl, s7, T7, x7⟩)
        (have S8 := (((S6.rst s7).put 4 (.slice (some ⟨w7.heap.size + 1, 0, none⟩) 1 1) #[.string ⟨#[107, 101, 121]⟩, .string (bs ts5), .int .i64 0, .int .i64 (at_ : Nat), .slice (some ⟨w7.heap.size + 1, 0, none⟩) 1 1] rfl).alloc (.cells #[.int .i64 (tk7 : Nat), .string (bs ts7), .int .i64 (tn7 : Nat), .int .i64 (ta7 : Nat)] 100)).alloc (.cells #[.string ⟨#[104, 101, 120]⟩, .string (bs ts7), .int .i64 0, .int .i64 (ta7 : Nat), .slice none 0 0] 24))
        (obtain ⟨k8, h8⟩ := S8.at hR)
        (have H8 : Has (((w7.setCell ⟨w2.heap.size, 4, none⟩ (.slice (some ⟨w7.heap.size + 1, 0, none⟩) 1 1)).alloc (.cells #[.int .i64 (tk7 : Nat), .string (bs ts7), .int .i64 (tn7 : Nat), .int .i64 (ta7 : Nat)] 100)).alloc (.cells #[.string ⟨#[104, 101, 120]⟩, .string (bs ts7), .int .i64 0, .int .i64 (ta7 : Nat), .slice none 0 0] 24)) (w7.heap.size + 1) 24 #[.string ⟨#[104, 101, 120]⟩, .string (bs ts7), .int .i64 0, .int .i64 (ta7 : Nat), .slice none 0 0] := Has.new_at (by simp))
        (have q74 := (S6.rst s7).hq.cell 4)
        (have f74 := (S6.rst s7).hq.free 4)
        (have l7 := (S6.rst s7).hq.lt)
        (have m7 : w2.heap.size ≠ w7.heap.size := by omega)
        (have n7 : w2.heap.size ≠ w7.heap.size + 1 := by omega)
        (simp only [tkv]))
     | ((go_at_call 47)
        (refine at_wd ((((w7.setCell ⟨w2.heap.size, 4, none⟩ (.slice (some ⟨w7.heap.size + 1, 0, none⟩) 1 1)).alloc (.cells #[.int .i64 (tk7 : Nat), .string (bs ts7), .int .i64 (tn7 : Nat), .int .i64 (ta7 : Nat)] 100)).alloc (.cells #[.string ⟨#[104, 101, 120]⟩, .string (bs ts7), .int .i64 0, .int .i64 (ta7 : Nat), .slice none 0 0] 24))) ?_)
        (refine (rmust_c h8 [59]).mono ?_)
        (rintro e w9 ⟨rfl, i9, b9, s9, t9, T9⟩)
        (rw [sg_eq hG (by decide)] at T9)
        (have S9 := S8.rst s9)
        (have p9 := S9.hp.lt)
        (have r9 := S9.hq.lt)
        (have ca0 := S9.hp.cell 0)
        (have ca1 := S9.hp.cell 1)
        (have ca2 := S9.hp.cell 2)
        (have ca3 := S9.hp.cell 3)
        (have ca4 := S9.hp.cell 4)
        (have fa0 := S9.hp.free 0)
        (have fa1 := S9.hp.free 1)
        (have fa2 := S9.hp.free 2)
        (have fa3 := S9.hp.free 3)
        (have fa4 := S9.hp.free 4)
        (have cb0 := S9.hq.cell 0)
        (have cb1 := S9.hq.cell 1)
        (have cb2 := S9.hq.cell 2)
        (have cb3 := S9.hq.cell 3)
        (have cb4 := S9.hq.cell 4))
     )
    refine ret_node rfl rfl (S9.hp.set5 _ _ _ _ _) rfl (fin _ _ ?_)
    refine ⟨i9, b9, .mk wKey ts5 0 (at_ : Nat) [.mk wHex ts7 0 (ta7 : Nat) []], some ⟨w7.heap.size + 1, 0, none⟩, 1, rfl, ?_, Rst.set5 S9.st (Nat.le_refl _) hlt _ _ _ _ _, T5.bind ((show Tell b5 (prest wKey en (ts.drop i5)) ts ((0 : Int), [Nd.mk wHex ts7 0 (ta7 : Nat) []]) i7 b7 from T7.map (fun t : Tk × Nat => ((0 : Int), [Nd.mk wHex t.1.s 0 ((t.2 : Nat) : Int) []]))).bind (T9.map (fun _ => Nd.mk wKey ts5 0 (at_ : Nat) [.mk wHex ts7 0 (ta7 : Nat) []]))), Nat.le_of_ble_eq_true rfl⟩
    exact (NdR.single (n := .mk wHex ts7 0 (ta7 : Nat) []) (P := fun g => w.heap.size ≤ g ∧ g ≠ w.heap.size) (H8.kp s9.2.2.1 (by omega)) (by omega) (NdR.nil _ _)).set5 (fun g hg => hg.2) _ _ _ _ _ |>.mono fun g hg => hg.1
end
section
open Go.ChangeShapes Go.WideShapes Go.ChangeAt Go.RowKit
theorem rst_Root {w : World} {rb : Nat} {A : Option Addr} {C : Nat} {ts : Toks} {i en : Nat} {k : Int} (h : RdrAt w rb A C ts i en 0 k) (hG : Goodt ts) (hi : i < ts.length) (hk : ts[i].1.kind = 0) (hs : ts[i].1.s = wRoot) : Calls Tryz.prog 22 #[.pointer (some ⟨rb, 0, none⟩)] w (RNode w rb A C ts i en 0 pstmt) := by
 have hpx := ps_op (en := en) hi hk hs (by decide)
 have hlt := h.has.lt
 have hf := h.few
 have hR := h
 have hB : ∀ s, isB 0 ts i s = (wRoot == s) := by
  intro s
  unfold isB
  rw [comes_at hi]
  unfold isWS
  rw [hk, hs]
  rfl
 have hIs : ∀ (W : World) (k : Int) (s : List UInt8) (b : Bool), RdrAt W rb A C ts i en 0 k → (wRoot == s) = b → Calls Tryz.prog 43 #[.pointer (some ⟨rb, 0, none⟩), .string (bs s)] W fun e w' => e = .returned (.bool b) ∧ ∃ q, w' = W.drewN q := by
  intro W k s b h hb
  have := ris_any h s
  rw [hB, hb] at this
  exact this
 have hpl : ∀ W k, RdrAt W rb A C ts i en 0 k → Calls Tryz.prog 42 #[.pointer (some ⟨rb, 0, none⟩)] W fun e w' => e = .returned (.int .i64 (ts[i].2 : Nat)) ∧ Below W.heap.size W w' := by
  intro W k h
  refine (rplace_c h).mono ?_
  rintro e w' ⟨rfl, q, rfl⟩
  rw [place_at hi]
  exact ⟨rfl, bel_dn (Below.refl _ _) _⟩
 have h0 := h.kp (b_one w (.cells #[.string ⟨#[]⟩, .string ⟨#[]⟩, .int .i64 0, .int .i64 0, .slice none 0 0] 24))
 have fin : ∀ (e : Ending) (w' : World), RNode w rb A C ts i en 0 (fun _ _ => pstmt en (ts.drop i)) e w' → RNode w rb A C ts i en 0 pstmt e w' := fun e w' h => h
 rw [hpx] at fin
 generalize ts[i].2 = at_ at hpl fin
 clear hpx hs hk hB
 have hi5 : (i : Int) ≤ 500 := by omega
 go_enter Tryz.func22, Tryz.ntmps22
 go_wp2_with (first
  | ((go_at_call 42)
     (refine (hpl _ _ h0).mono ?_)
     (rintro e w2 ⟨rfl, hb2⟩)
     (have S3 := (st_start (at_ := ((at_ : Nat) : Int)) hR hb2 hlt).alloc (.cells #[.string ⟨#[100, 101, 118, 105, 99, 101]⟩, .string ⟨#[106, 111, 117, 114, 110, 97, 108]⟩, .string ⟨#[107, 101, 121]⟩, .string ⟨#[114, 111, 111, 116]⟩, .string ⟨#[118, 111, 108, 117, 109, 101]⟩, .string ⟨#[101, 120, 112, 111, 114, 116]⟩] 9))
     (have pq := S3.pq)
     (have G3 : Has ((w2.alloc (.cells #[.string ⟨#[]⟩, .string ⟨#[]⟩, .int .i64 0, .int .i64 (at_ : Nat), .slice none 0 0] 24)).alloc (.cells #[.string ⟨#[100, 101, 118, 105, 99, 101]⟩, .string ⟨#[106, 111, 117, 114, 110, 97, 108]⟩, .string ⟨#[107, 101, 121]⟩, .string ⟨#[114, 111, 111, 116]⟩, .string ⟨#[118, 111, 108, 117, 109, 101]⟩, .string ⟨#[101, 120, 112, 111, 114, 116]⟩] 9)) (w2.heap.size + 1) 9 #[.string ⟨#[100, 101, 118, 105, 99, 101]⟩, .string ⟨#[106, 111, 117, 114, 110, 97, 108]⟩, .string ⟨#[107, 101, 121]⟩, .string ⟨#[114, 111, 111, 116]⟩, .string ⟨#[118, 111, 108, 117, 109, 101]⟩, .string ⟨#[101, 120, 112, 111, 114, 116]⟩] := Has.new_at (by simp))))
 go_loopw [5] (fun z wr => ∃ k : Nat, z = .int .i64 (k : Nat) ∧ Has wr (w2.heap.size + 1) 9 #[.string ⟨#[100, 101, 118, 105, 99, 101]⟩, .string ⟨#[106, 111, 117, 114, 110, 97, 108]⟩, .string ⟨#[107, 101, 121]⟩, .string ⟨#[114, 111, 111, 116]⟩, .string ⟨#[118, 111, 108, 117, 109, 101]⟩, .string ⟨#[101, 120, 112, 111, 114, 116]⟩] ∧ ((k ≤ 3 ∧ SAt w rb A C ts i en w2.heap.size #[.string ⟨#[]⟩, .string ⟨#[]⟩, .int .i64 0, .int .i64 (at_ : Nat), .slice none 0 0] wr i 0) ∨ (k = 4 ∧ SAt w rb A C ts i en w2.heap.size #[.string ⟨#[114, 111, 111, 116]⟩, .string ⟨#[]⟩, .int .i64 0, .int .i64 (at_ : Nat), .slice none 0 0] wr i 0))) (fun z _ => 7 - (intOf z).toNat)
 case atStart => exact ⟨0, rfl, G3, .inl ⟨Nat.zero_le _, S3⟩⟩
 case round =>
  obtain ⟨k, rfl, G4, hS⟩ := hrel
  have lG4 := G4.lt
  rcases hS with ⟨hk, S4⟩ | ⟨rfl, S4⟩
  · obtain ⟨k4, h4⟩ := S4.at hR
    have q0 := S4.hq.cell 0
    have f0 := S4.hq.free 0
    have lq := S4.hq.lt
    rcases (by omega : k = 0 ∨ k = 1 ∨ k = 2 ∨ k = 3) with rfl | rfl | rfl | rfl
    · have g0 := G4.cell 0
      have hI := hIs wr k4 wDevice false h4 rfl
      rw [show bs wDevice = ⟨#[100, 101, 118, 105, 99, 101]⟩ from rfl] at hI
      go_wp2_with (first
       | ((go_at_call 43)
          (refine hI.mono ?_)
          (rintro e w5 ⟨rfl, q5, rfl⟩)))
      go_roundw
      case rel => exact ⟨1, rfl, G4.drewN q5, .inl ⟨by omega, S4.drewN q5⟩⟩
      case measure => simp [intOf]
    · have g0 := G4.cell 1
      have hI := hIs wr k4 wJournal false h4 rfl
      rw [show bs wJournal = ⟨#[106, 111, 117, 114, 110, 97, 108]⟩ from rfl] at hI
      go_wp2_with (first
       | ((go_at_call 43)
          (refine hI.mono ?_)
          (rintro e w5 ⟨rfl, q5, rfl⟩)))
      go_roundw
      case rel => exact ⟨2, rfl, G4.drewN q5, .inl ⟨by omega, S4.drewN q5⟩⟩
      case measure => simp [intOf]
    · have g0 := G4.cell 2
      have hI := hIs wr k4 wKey false h4 rfl
      rw [show bs wKey = ⟨#[107, 101, 121]⟩ from rfl] at hI
      go_wp2_with (first
       | ((go_at_call 43)
          (refine hI.mono ?_)
          (rintro e w5 ⟨rfl, q5, rfl⟩)))
      go_roundw
      case rel => exact ⟨3, rfl, G4.drewN q5, .inl ⟨by omega, S4.drewN q5⟩⟩
      case measure => simp [intOf]
    · have g0 := G4.cell 3
      have hI := hIs wr k4 wRoot true h4 rfl
      rw [show bs wRoot = ⟨#[114, 111, 111, 116]⟩ from rfl] at hI
      go_wp2_with (first
       | ((go_at_call 43)
          (refine hI.mono ?_)
          (rintro e w5 ⟨rfl, q5, rfl⟩)))
      go_roundw
      case rel => exact ⟨4, rfl, (G4.drewN q5).other (by show w2.heap.size + 1 ≠ w2.heap.size; omega) _, .inr ⟨rfl, (S4.drewN q5).put 0 _ _ rfl⟩⟩
      case measure => simp [intOf]
  · obtain ⟨k4, h4⟩ := S4.at hR
    have q0 := S4.hq.cell 0
    have lq := S4.hq.lt
    have S5 := S4.step hi
    obtain ⟨k5, h5⟩ := S5.at hR
    have c4 := h4.has.cell 1
    have d4 := h4.has.free 1
    have l4 := h4.has.lt
    simp only [ga1, gz1, gs1] at c4
    go_wp2_with (first
     | ((go_at_call 45)
        (refine at_wd (wr.setCell ⟨rb, 1, none⟩ (.int .i64 ((i : Int) + 1))) ?_)
        (refine (rname_c' h5).mono ?_)
        (rintro e w5 ⟨i5, b5, ⟨⟨tk5, ts5, tn5⟩, ta5⟩, rfl, s5, T5, x5⟩)
        (have S6 := ((S5.rst s5).put 1 (.string (bs ts5)) #[.string ⟨#[114, 111, 111, 116]⟩, .string (bs ts5), .int .i64 0, .int .i64 (at_ : Nat), .slice none 0 0] rfl).alloc (.cells #[.int .i64 (tk5 : Nat), .string (bs ts5), .int .i64 (tn5 : Nat), .int .i64 (ta5 : Nat)] 100))
        (obtain ⟨k6, h6⟩ := S6.at hR)
        (have q5 := (S5.rst s5).hq.cell 0)
        (have q51 := (S5.rst s5).hq.cell 1)
        (have q52 := (S5.rst s5).hq.cell 2)
        (have q54 := (S5.rst s5).hq.cell 4)
        (have f51 := (S5.rst s5).hq.free 1)
        (have f52 := (S5.rst s5).hq.free 2)
        (have f54 := (S5.rst s5).hq.free 4)
        (have l5 := (S5.rst s5).hq.lt)
        (have m5 : w2.heap.size ≠ w5.heap.size := by omega)
        (simp only [tkv]))
     | ((go_at_call 46)
        (refine at_wd ((w5.setCell ⟨w2.heap.size, 1, none⟩ (.string (bs ts5))).alloc (.cells #[.int .i64 (tk5 : Nat), .string (bs ts5), .int .i64 (tn5 : Nat), .int .i64 (ta5 : Nat)] 100)) ?_)
        (refine (rtoken_c h6 2).mono ?_)
        (rintro e w7 ⟨i7, b7, ⟨⟨tk7, ts7, tn7⟩, ta7⟩, rfl, s7, T7, x7⟩)
        (have S8 := (((S6.rst s7).put 4 (.slice (some ⟨w7.heap.size + 1, 0, none⟩) 1 1) #[.string ⟨#[114, 111, 111, 116]⟩, .string (bs ts5), .int .i64 0, .int .i64 (at_ : Nat), .slice (some ⟨w7.heap.size + 1, 0, none⟩) 1 1] rfl).alloc (.cells #[.int .i64 (tk7 : Nat), .string (bs ts7), .int .i64 (tn7 : Nat), .int .i64 (ta7 : Nat)] 100)).alloc (.cells #[.string ⟨#[104, 101, 120]⟩, .string (bs ts7), .int .i64 0, .int .i64 (ta7 : Nat), .slice none 0 0] 24))
        (obtain ⟨k8, h8⟩ := S8.at hR)
        (have H8 : Has (((w7.setCell ⟨w2.heap.size, 4, none⟩ (.slice (some ⟨w7.heap.size + 1, 0, none⟩) 1 1)).alloc (.cells #[.int .i64 (tk7 : Nat), .string (bs ts7), .int .i64 (tn7 : Nat), .int .i64 (ta7 : Nat)] 100)).alloc (.cells #[.string ⟨#[104, 101, 120]⟩, .string (bs ts7), .int .i64 0, .int .i64 (ta7 : Nat), .slice none 0 0] 24)) (w7.heap.size + 1) 24 #[.string ⟨#[104, 101, 120]⟩, .string (bs ts7), .int .i64 0, .int .i64 (ta7 : Nat), .slice none 0 0] := Has.new_at (by simp))
        (have q74 := (S6.rst s7).hq.cell 4)
        (have f74 := (S6.rst s7).hq.free 4)
        (have l7 := (S6.rst s7).hq.lt)
        (have m7 : w2.heap.size ≠ w7.heap.size := by omega)
        (have n7 : w2.heap.size ≠ w7.heap.size + 1 := by omega)
        (simp only [tkv]))
     | ((go_at_call 47)
        (refine at_wd ((((w7.setCell ⟨w2.heap.size, 4, none⟩ (.slice (some ⟨w7.heap.size + 1, 0, none⟩) 1 1)).alloc (.cells #[.int .i64 (tk7 : Nat), .string (bs ts7), .int .i64 (tn7 : Nat), .int .i64 (ta7 : Nat)] 100)).alloc (.cells #[.string ⟨#[104, 101, 120]⟩, .string (bs ts7), .int .i64 0, .int .i64 (ta7 : Nat), .slice none 0 0] 24))) ?_)
        (refine (rmust_c h8 [59]).mono ?_)
        (rintro e w9 ⟨rfl, i9, b9, s9, t9, T9⟩)
        (rw [sg_eq hG (by decide)] at T9)
        (have S9 := S8.rst s9)
        (have p9 := S9.hp.lt)
        (have r9 := S9.hq.lt)
        (have ca0 := S9.hp.cell 0)
        (have ca1 := S9.hp.cell 1)
        (have ca2 := S9.hp.cell 2)
        (have ca3 := S9.hp.cell 3)
        (have ca4 := S9.hp.cell 4)
        (have fa0 := S9.hp.free 0)
        (have fa1 := S9.hp.free 1)
        (have fa2 := S9.hp.free 2)
        (have fa3 := S9.hp.free 3)
        (have fa4 := S9.hp.free 4)
        (have cb0 := S9.hq.cell 0)
        (have cb1 := S9.hq.cell 1)
        (have cb2 := S9.hq.cell 2)
        (have cb3 := S9.hq.cell 3)
        (have cb4 := S9.hq.cell 4))
     )
    refine ret_node rfl rfl (S9.hp.set5 _ _ _ _ _) rfl (fin _ _ ?_)
    refine ⟨i9, b9, .mk wRoot ts5 0 (at_ : Nat) [.mk wHex ts7 0 (ta7 : Nat) []], some ⟨w7.heap.size + 1, 0, none⟩, 1, rfl, ?_, Rst.set5 S9.st (Nat.le_refl _) hlt _ _ _ _ _, T5.bind ((show Tell b5 (prest wRoot en (ts.drop i5)) ts ((0 : Int), [Nd.mk wHex ts7 0 (ta7 : Nat) []]) i7 b7 from T7.map (fun t : Tk × Nat => ((0 : Int), [Nd.mk wHex t.1.s 0 ((t.2 : Nat) : Int) []]))).bind (T9.map (fun _ => Nd.mk wRoot ts5 0 (at_ : Nat) [.mk wHex ts7 0 (ta7 : Nat) []]))), Nat.le_of_ble_eq_true rfl⟩
    exact (NdR.single (n := .mk wHex ts7 0 (ta7 : Nat) []) (P := fun g => w.heap.size ≤ g ∧ g ≠ w.heap.size) (H8.kp s9.2.2.1 (by omega)) (by omega) (NdR.nil _ _)).set5 (fun g hg => hg.2) _ _ _ _ _ |>.mono fun g hg => hg.1
end
section
open Go.ChangeShapes Go.WideShapes Go.ChangeAt Go.RowKit
theorem rst_Volume {w : World} {rb : Nat} {A : Option Addr} {C : Nat} {ts : Toks} {i en : Nat} {k : Int} (h : RdrAt w rb A C ts i en 0 k) (hG : Goodt ts) (hi : i < ts.length) (hk : ts[i].1.kind = 0) (hs : ts[i].1.s = wVolume) : Calls Tryz.prog 22 #[.pointer (some ⟨rb, 0, none⟩)] w (RNode w rb A C ts i en 0 pstmt) := by
 have hpx := ps_op (en := en) hi hk hs (by decide)
 have hlt := h.has.lt
 have hf := h.few
 have hR := h
 have hB : ∀ s, isB 0 ts i s = (wVolume == s) := by
  intro s
  unfold isB
  rw [comes_at hi]
  unfold isWS
  rw [hk, hs]
  rfl
 have hIs : ∀ (W : World) (k : Int) (s : List UInt8) (b : Bool), RdrAt W rb A C ts i en 0 k → (wVolume == s) = b → Calls Tryz.prog 43 #[.pointer (some ⟨rb, 0, none⟩), .string (bs s)] W fun e w' => e = .returned (.bool b) ∧ ∃ q, w' = W.drewN q := by
  intro W k s b h hb
  have := ris_any h s
  rw [hB, hb] at this
  exact this
 have hpl : ∀ W k, RdrAt W rb A C ts i en 0 k → Calls Tryz.prog 42 #[.pointer (some ⟨rb, 0, none⟩)] W fun e w' => e = .returned (.int .i64 (ts[i].2 : Nat)) ∧ Below W.heap.size W w' := by
  intro W k h
  refine (rplace_c h).mono ?_
  rintro e w' ⟨rfl, q, rfl⟩
  rw [place_at hi]
  exact ⟨rfl, bel_dn (Below.refl _ _) _⟩
 have h0 := h.kp (b_one w (.cells #[.string ⟨#[]⟩, .string ⟨#[]⟩, .int .i64 0, .int .i64 0, .slice none 0 0] 24))
 have fin : ∀ (e : Ending) (w' : World), RNode w rb A C ts i en 0 (fun _ _ => pstmt en (ts.drop i)) e w' → RNode w rb A C ts i en 0 pstmt e w' := fun e w' h => h
 rw [hpx] at fin
 generalize ts[i].2 = at_ at hpl fin
 clear hpx hs hk hB
 have hi5 : (i : Int) ≤ 500 := by omega
 go_enter Tryz.func22, Tryz.ntmps22
 go_wp2_with (first
  | ((go_at_call 42)
     (refine (hpl _ _ h0).mono ?_)
     (rintro e w2 ⟨rfl, hb2⟩)
     (have S3 := (st_start (at_ := ((at_ : Nat) : Int)) hR hb2 hlt).alloc (.cells #[.string ⟨#[100, 101, 118, 105, 99, 101]⟩, .string ⟨#[106, 111, 117, 114, 110, 97, 108]⟩, .string ⟨#[107, 101, 121]⟩, .string ⟨#[114, 111, 111, 116]⟩, .string ⟨#[118, 111, 108, 117, 109, 101]⟩, .string ⟨#[101, 120, 112, 111, 114, 116]⟩] 9))
     (have pq := S3.pq)
     (have G3 : Has ((w2.alloc (.cells #[.string ⟨#[]⟩, .string ⟨#[]⟩, .int .i64 0, .int .i64 (at_ : Nat), .slice none 0 0] 24)).alloc (.cells #[.string ⟨#[100, 101, 118, 105, 99, 101]⟩, .string ⟨#[106, 111, 117, 114, 110, 97, 108]⟩, .string ⟨#[107, 101, 121]⟩, .string ⟨#[114, 111, 111, 116]⟩, .string ⟨#[118, 111, 108, 117, 109, 101]⟩, .string ⟨#[101, 120, 112, 111, 114, 116]⟩] 9)) (w2.heap.size + 1) 9 #[.string ⟨#[100, 101, 118, 105, 99, 101]⟩, .string ⟨#[106, 111, 117, 114, 110, 97, 108]⟩, .string ⟨#[107, 101, 121]⟩, .string ⟨#[114, 111, 111, 116]⟩, .string ⟨#[118, 111, 108, 117, 109, 101]⟩, .string ⟨#[101, 120, 112, 111, 114, 116]⟩] := Has.new_at (by simp))))
 go_loopw [5] (fun z wr => ∃ k : Nat, z = .int .i64 (k : Nat) ∧ Has wr (w2.heap.size + 1) 9 #[.string ⟨#[100, 101, 118, 105, 99, 101]⟩, .string ⟨#[106, 111, 117, 114, 110, 97, 108]⟩, .string ⟨#[107, 101, 121]⟩, .string ⟨#[114, 111, 111, 116]⟩, .string ⟨#[118, 111, 108, 117, 109, 101]⟩, .string ⟨#[101, 120, 112, 111, 114, 116]⟩] ∧ ((k ≤ 4 ∧ SAt w rb A C ts i en w2.heap.size #[.string ⟨#[]⟩, .string ⟨#[]⟩, .int .i64 0, .int .i64 (at_ : Nat), .slice none 0 0] wr i 0) ∨ (k = 5 ∧ SAt w rb A C ts i en w2.heap.size #[.string ⟨#[118, 111, 108, 117, 109, 101]⟩, .string ⟨#[]⟩, .int .i64 0, .int .i64 (at_ : Nat), .slice none 0 0] wr i 0))) (fun z _ => 7 - (intOf z).toNat)
 case atStart => exact ⟨0, rfl, G3, .inl ⟨Nat.zero_le _, S3⟩⟩
 case round =>
  obtain ⟨k, rfl, G4, hS⟩ := hrel
  have lG4 := G4.lt
  rcases hS with ⟨hk, S4⟩ | ⟨rfl, S4⟩
  · obtain ⟨k4, h4⟩ := S4.at hR
    have q0 := S4.hq.cell 0
    have f0 := S4.hq.free 0
    have lq := S4.hq.lt
    rcases (by omega : k = 0 ∨ k = 1 ∨ k = 2 ∨ k = 3 ∨ k = 4) with rfl | rfl | rfl | rfl | rfl
    · have g0 := G4.cell 0
      have hI := hIs wr k4 wDevice false h4 rfl
      rw [show bs wDevice = ⟨#[100, 101, 118, 105, 99, 101]⟩ from rfl] at hI
      go_wp2_with (first
       | ((go_at_call 43)
          (refine hI.mono ?_)
          (rintro e w5 ⟨rfl, q5, rfl⟩)))
      go_roundw
      case rel => exact ⟨1, rfl, G4.drewN q5, .inl ⟨by omega, S4.drewN q5⟩⟩
      case measure => simp [intOf]
    · have g0 := G4.cell 1
      have hI := hIs wr k4 wJournal false h4 rfl
      rw [show bs wJournal = ⟨#[106, 111, 117, 114, 110, 97, 108]⟩ from rfl] at hI
      go_wp2_with (first
       | ((go_at_call 43)
          (refine hI.mono ?_)
          (rintro e w5 ⟨rfl, q5, rfl⟩)))
      go_roundw
      case rel => exact ⟨2, rfl, G4.drewN q5, .inl ⟨by omega, S4.drewN q5⟩⟩
      case measure => simp [intOf]
    · have g0 := G4.cell 2
      have hI := hIs wr k4 wKey false h4 rfl
      rw [show bs wKey = ⟨#[107, 101, 121]⟩ from rfl] at hI
      go_wp2_with (first
       | ((go_at_call 43)
          (refine hI.mono ?_)
          (rintro e w5 ⟨rfl, q5, rfl⟩)))
      go_roundw
      case rel => exact ⟨3, rfl, G4.drewN q5, .inl ⟨by omega, S4.drewN q5⟩⟩
      case measure => simp [intOf]
    · have g0 := G4.cell 3
      have hI := hIs wr k4 wRoot false h4 rfl
      rw [show bs wRoot = ⟨#[114, 111, 111, 116]⟩ from rfl] at hI
      go_wp2_with (first
       | ((go_at_call 43)
          (refine hI.mono ?_)
          (rintro e w5 ⟨rfl, q5, rfl⟩)))
      go_roundw
      case rel => exact ⟨4, rfl, G4.drewN q5, .inl ⟨by omega, S4.drewN q5⟩⟩
      case measure => simp [intOf]
    · have g0 := G4.cell 4
      have hI := hIs wr k4 wVolume true h4 rfl
      rw [show bs wVolume = ⟨#[118, 111, 108, 117, 109, 101]⟩ from rfl] at hI
      go_wp2_with (first
       | ((go_at_call 43)
          (refine hI.mono ?_)
          (rintro e w5 ⟨rfl, q5, rfl⟩)))
      go_roundw
      case rel => exact ⟨5, rfl, (G4.drewN q5).other (by show w2.heap.size + 1 ≠ w2.heap.size; omega) _, .inr ⟨rfl, (S4.drewN q5).put 0 _ _ rfl⟩⟩
      case measure => simp [intOf]
  · obtain ⟨k4, h4⟩ := S4.at hR
    have q0 := S4.hq.cell 0
    have lq := S4.hq.lt
    have S5 := S4.step hi
    obtain ⟨k5, h5⟩ := S5.at hR
    have c4 := h4.has.cell 1
    have d4 := h4.has.free 1
    have l4 := h4.has.lt
    simp only [ga1, gz1, gs1] at c4
    go_wp2_with (first
     | ((go_at_call 45)
        (refine at_wd (wr.setCell ⟨rb, 1, none⟩ (.int .i64 ((i : Int) + 1))) ?_)
        (refine (rname_c' h5).mono ?_)
        (rintro e w5 ⟨i5, b5, ⟨⟨tk5, ts5, tn5⟩, ta5⟩, rfl, s5, T5, x5⟩)
        (have S6 := ((S5.rst s5).put 1 (.string (bs ts5)) #[.string ⟨#[118, 111, 108, 117, 109, 101]⟩, .string (bs ts5), .int .i64 0, .int .i64 (at_ : Nat), .slice none 0 0] rfl).alloc (.cells #[.int .i64 (tk5 : Nat), .string (bs ts5), .int .i64 (tn5 : Nat), .int .i64 (ta5 : Nat)] 100))
        (obtain ⟨k6, h6⟩ := S6.at hR)
        (have q5 := (S5.rst s5).hq.cell 0)
        (have q51 := (S5.rst s5).hq.cell 1)
        (have q52 := (S5.rst s5).hq.cell 2)
        (have q54 := (S5.rst s5).hq.cell 4)
        (have f51 := (S5.rst s5).hq.free 1)
        (have f52 := (S5.rst s5).hq.free 2)
        (have f54 := (S5.rst s5).hq.free 4)
        (have l5 := (S5.rst s5).hq.lt)
        (have m5 : w2.heap.size ≠ w5.heap.size := by omega)
        (simp only [tkv]))
     | ((go_at_call 47)
        (refine at_wd ((w5.setCell ⟨w2.heap.size, 1, none⟩ (.string (bs ts5))).alloc (.cells #[.int .i64 (tk5 : Nat), .string (bs ts5), .int .i64 (tn5 : Nat), .int .i64 (ta5 : Nat)] 100)) ?_)
        (refine (rmust_c h6 [61]).mono ?_)
        (rintro e w7 ⟨rfl, i7, b7, s7, t7, T7⟩)
        (rw [sg_eq hG (by decide)] at T7)
        (have S7 := S6.rst s7)
        (obtain ⟨k7, h7⟩ := S7.at hR))
     | ((go_at_call 48)
        (refine at_wd (w7) ?_)
        (refine (rexpr_c hG 12 1 _ _ _ _ rfl h7).mono ?_)
        (rintro e w8 ⟨i8, b8, x8, A8, C8, rfl, N8, s8, T8, l8⟩)
        (have S9 := (((S7.rst s8).put 4 (.slice (some ⟨w8.heap.size + 1, 0, none⟩) 1 1) #[.string ⟨#[118, 111, 108, 117, 109, 101]⟩, .string (bs ts5), .int .i64 0, .int .i64 (at_ : Nat), .slice (some ⟨w8.heap.size + 1, 0, none⟩) 1 1] rfl).alloc (.cells #[.string (bs x8.op), .string (bs x8.s), .int .i64 x8.n, .int .i64 x8.a, .slice A8 x8.l.length C8] 24)).alloc (.cells #[.string (bs x8.op), .string (bs x8.s), .int .i64 x8.n, .int .i64 x8.a, .slice A8 x8.l.length C8] 24))
        (obtain ⟨k9, h9⟩ := S9.at hR)
        (have H9 : Has (((w8.setCell ⟨w2.heap.size, 4, none⟩ (.slice (some ⟨w8.heap.size + 1, 0, none⟩) 1 1)).alloc (.cells #[.string (bs x8.op), .string (bs x8.s), .int .i64 x8.n, .int .i64 x8.a, .slice A8 x8.l.length C8] 24)).alloc (.cells #[.string (bs x8.op), .string (bs x8.s), .int .i64 x8.n, .int .i64 x8.a, .slice A8 x8.l.length C8] 24)) (w8.heap.size + 1) 24 #[.string (bs x8.op), .string (bs x8.s), .int .i64 x8.n, .int .i64 x8.a, .slice A8 x8.l.length C8] := Has.new_at (by simp))
        (have q84 := (S7.rst s8).hq.cell 4)
        (have f84 := (S7.rst s8).hq.free 4)
        (have l8q := (S7.rst s8).hq.lt)
        (have l7q := S7.hq.lt)
        (have z8 := s8.2.2.1.size)
        (have m8 : w2.heap.size ≠ w8.heap.size := by omega)
        (have n8 : w2.heap.size ≠ w8.heap.size + 1 := by omega)
        (simp only [ndc]))
     | ((go_at_call 47)
        (refine at_wd ((((w8.setCell ⟨w2.heap.size, 4, none⟩ (.slice (some ⟨w8.heap.size + 1, 0, none⟩) 1 1)).alloc (.cells #[.string (bs x8.op), .string (bs x8.s), .int .i64 x8.n, .int .i64 x8.a, .slice A8 x8.l.length C8] 24)).alloc (.cells #[.string (bs x8.op), .string (bs x8.s), .int .i64 x8.n, .int .i64 x8.a, .slice A8 x8.l.length C8] 24))) ?_)
        (refine (rmust_c h9 [59]).mono ?_)
        (rintro e w10 ⟨rfl, i10, b10, s10, t10, T10⟩)
        (rw [sg_eq hG (by decide)] at T10)
        (have S10 := S9.rst s10)
        (have p10 := S10.hp.lt)
        (have r10 := S10.hq.lt)
        (have ca0 := S10.hp.cell 0)
        (have ca1 := S10.hp.cell 1)
        (have ca2 := S10.hp.cell 2)
        (have ca3 := S10.hp.cell 3)
        (have ca4 := S10.hp.cell 4)
        (have fa0 := S10.hp.free 0)
        (have fa1 := S10.hp.free 1)
        (have fa2 := S10.hp.free 2)
        (have fa3 := S10.hp.free 3)
        (have fa4 := S10.hp.free 4)
        (have cb0 := S10.hq.cell 0)
        (have cb1 := S10.hq.cell 1)
        (have cb2 := S10.hq.cell 2)
        (have cb3 := S10.hq.cell 3)
        (have cb4 := S10.hq.cell 4))
     )
    refine ret_node rfl rfl (S10.hp.set5 _ _ _ _ _) rfl (fin _ _ ?_)
    refine ⟨i10, b10, .mk wVolume ts5 0 (at_ : Nat) [x8], some ⟨w8.heap.size + 1, 0, none⟩, 1, rfl, ?_, Rst.set5 S10.st (Nat.le_refl _) hlt _ _ _ _ _, T5.bind ((show Tell b5 (prest wVolume en (ts.drop i5)) ts ((0 : Int), [x8]) i8 b8 from T7.bind (f := fun _ => pbind (pexpr 12) fun n => pret ((0 : Int), [n])) (T8.map (fun n => ((0 : Int), [n])))).bind (T10.map (fun _ => Nd.mk wVolume ts5 0 (at_ : Nat) [x8]))), Nat.le_of_ble_eq_true rfl⟩
    exact vol_fin N8 H9 s10.2.2.1 (by omega) (by omega) (by omega) (by omega)
end
section
open Go.ChangeShapes Go.WideShapes Go.ChangeAt Go.RowKit
theorem rst_Export {w : World} {rb : Nat} {A : Option Addr} {C : Nat} {ts : Toks} {i en : Nat} {k : Int} (h : RdrAt w rb A C ts i en 0 k) (hG : Goodt ts) (hi : i < ts.length) (hk : ts[i].1.kind = 0) (hs : ts[i].1.s = wExport) : Calls Tryz.prog 22 #[.pointer (some ⟨rb, 0, none⟩)] w (RNode w rb A C ts i en 0 pstmt) := by
 have hpx := ps_op (en := en) hi hk hs (by decide)
 have hlt := h.has.lt
 have hf := h.few
 have hR := h
 have hB : ∀ s, isB 0 ts i s = (wExport == s) := by
  intro s
  unfold isB
  rw [comes_at hi]
  unfold isWS
  rw [hk, hs]
  rfl
 have hIs : ∀ (W : World) (k : Int) (s : List UInt8) (b : Bool), RdrAt W rb A C ts i en 0 k → (wExport == s) = b → Calls Tryz.prog 43 #[.pointer (some ⟨rb, 0, none⟩), .string (bs s)] W fun e w' => e = .returned (.bool b) ∧ ∃ q, w' = W.drewN q := by
  intro W k s b h hb
  have := ris_any h s
  rw [hB, hb] at this
  exact this
 have hpl : ∀ W k, RdrAt W rb A C ts i en 0 k → Calls Tryz.prog 42 #[.pointer (some ⟨rb, 0, none⟩)] W fun e w' => e = .returned (.int .i64 (ts[i].2 : Nat)) ∧ Below W.heap.size W w' := by
  intro W k h
  refine (rplace_c h).mono ?_
  rintro e w' ⟨rfl, q, rfl⟩
  rw [place_at hi]
  exact ⟨rfl, bel_dn (Below.refl _ _) _⟩
 have h0 := h.kp (b_one w (.cells #[.string ⟨#[]⟩, .string ⟨#[]⟩, .int .i64 0, .int .i64 0, .slice none 0 0] 24))
 have fin : ∀ (e : Ending) (w' : World), RNode w rb A C ts i en 0 (fun _ _ => pstmt en (ts.drop i)) e w' → RNode w rb A C ts i en 0 pstmt e w' := fun e w' h => h
 rw [hpx] at fin
 generalize ts[i].2 = at_ at hpl fin
 clear hpx hs hk hB
 have hi5 : (i : Int) ≤ 500 := by omega
 go_enter Tryz.func22, Tryz.ntmps22
 go_wp2_with (first
  | ((go_at_call 42)
     (refine (hpl _ _ h0).mono ?_)
     (rintro e w2 ⟨rfl, hb2⟩)
     (have S3 := (st_start (at_ := ((at_ : Nat) : Int)) hR hb2 hlt).alloc (.cells #[.string ⟨#[100, 101, 118, 105, 99, 101]⟩, .string ⟨#[106, 111, 117, 114, 110, 97, 108]⟩, .string ⟨#[107, 101, 121]⟩, .string ⟨#[114, 111, 111, 116]⟩, .string ⟨#[118, 111, 108, 117, 109, 101]⟩, .string ⟨#[101, 120, 112, 111, 114, 116]⟩] 9))
     (have pq := S3.pq)
     (have G3 : Has ((w2.alloc (.cells #[.string ⟨#[]⟩, .string ⟨#[]⟩, .int .i64 0, .int .i64 (at_ : Nat), .slice none 0 0] 24)).alloc (.cells #[.string ⟨#[100, 101, 118, 105, 99, 101]⟩, .string ⟨#[106, 111, 117, 114, 110, 97, 108]⟩, .string ⟨#[107, 101, 121]⟩, .string ⟨#[114, 111, 111, 116]⟩, .string ⟨#[118, 111, 108, 117, 109, 101]⟩, .string ⟨#[101, 120, 112, 111, 114, 116]⟩] 9)) (w2.heap.size + 1) 9 #[.string ⟨#[100, 101, 118, 105, 99, 101]⟩, .string ⟨#[106, 111, 117, 114, 110, 97, 108]⟩, .string ⟨#[107, 101, 121]⟩, .string ⟨#[114, 111, 111, 116]⟩, .string ⟨#[118, 111, 108, 117, 109, 101]⟩, .string ⟨#[101, 120, 112, 111, 114, 116]⟩] := Has.new_at (by simp))))
 go_loopw [5] (fun z wr => ∃ k : Nat, z = .int .i64 (k : Nat) ∧ Has wr (w2.heap.size + 1) 9 #[.string ⟨#[100, 101, 118, 105, 99, 101]⟩, .string ⟨#[106, 111, 117, 114, 110, 97, 108]⟩, .string ⟨#[107, 101, 121]⟩, .string ⟨#[114, 111, 111, 116]⟩, .string ⟨#[118, 111, 108, 117, 109, 101]⟩, .string ⟨#[101, 120, 112, 111, 114, 116]⟩] ∧ ((k ≤ 5 ∧ SAt w rb A C ts i en w2.heap.size #[.string ⟨#[]⟩, .string ⟨#[]⟩, .int .i64 0, .int .i64 (at_ : Nat), .slice none 0 0] wr i 0) ∨ (k = 6 ∧ SAt w rb A C ts i en w2.heap.size #[.string ⟨#[101, 120, 112, 111, 114, 116]⟩, .string ⟨#[]⟩, .int .i64 0, .int .i64 (at_ : Nat), .slice none 0 0] wr i 0))) (fun z _ => 7 - (intOf z).toNat)
 case atStart => exact ⟨0, rfl, G3, .inl ⟨Nat.zero_le _, S3⟩⟩
 case round =>
  obtain ⟨k, rfl, G4, hS⟩ := hrel
  have lG4 := G4.lt
  rcases hS with ⟨hk, S4⟩ | ⟨rfl, S4⟩
  · obtain ⟨k4, h4⟩ := S4.at hR
    have q0 := S4.hq.cell 0
    have f0 := S4.hq.free 0
    have lq := S4.hq.lt
    rcases (by omega : k = 0 ∨ k = 1 ∨ k = 2 ∨ k = 3 ∨ k = 4 ∨ k = 5) with rfl | rfl | rfl | rfl | rfl | rfl
    · have g0 := G4.cell 0
      have hI := hIs wr k4 wDevice false h4 rfl
      rw [show bs wDevice = ⟨#[100, 101, 118, 105, 99, 101]⟩ from rfl] at hI
      go_wp2_with (first
       | ((go_at_call 43)
          (refine hI.mono ?_)
          (rintro e w5 ⟨rfl, q5, rfl⟩)))
      go_roundw
      case rel => exact ⟨1, rfl, G4.drewN q5, .inl ⟨by omega, S4.drewN q5⟩⟩
      case measure => simp [intOf]
    · have g0 := G4.cell 1
      have hI := hIs wr k4 wJournal false h4 rfl
      rw [show bs wJournal = ⟨#[106, 111, 117, 114, 110, 97, 108]⟩ from rfl] at hI
      go_wp2_with (first
       | ((go_at_call 43)
          (refine hI.mono ?_)
          (rintro e w5 ⟨rfl, q5, rfl⟩)))
      go_roundw
      case rel => exact ⟨2, rfl, G4.drewN q5, .inl ⟨by omega, S4.drewN q5⟩⟩
      case measure => simp [intOf]
    · have g0 := G4.cell 2
      have hI := hIs wr k4 wKey false h4 rfl
      rw [show bs wKey = ⟨#[107, 101, 121]⟩ from rfl] at hI
      go_wp2_with (first
       | ((go_at_call 43)
          (refine hI.mono ?_)
          (rintro e w5 ⟨rfl, q5, rfl⟩)))
      go_roundw
      case rel => exact ⟨3, rfl, G4.drewN q5, .inl ⟨by omega, S4.drewN q5⟩⟩
      case measure => simp [intOf]
    · have g0 := G4.cell 3
      have hI := hIs wr k4 wRoot false h4 rfl
      rw [show bs wRoot = ⟨#[114, 111, 111, 116]⟩ from rfl] at hI
      go_wp2_with (first
       | ((go_at_call 43)
          (refine hI.mono ?_)
          (rintro e w5 ⟨rfl, q5, rfl⟩)))
      go_roundw
      case rel => exact ⟨4, rfl, G4.drewN q5, .inl ⟨by omega, S4.drewN q5⟩⟩
      case measure => simp [intOf]
    · have g0 := G4.cell 4
      have hI := hIs wr k4 wVolume false h4 rfl
      rw [show bs wVolume = ⟨#[118, 111, 108, 117, 109, 101]⟩ from rfl] at hI
      go_wp2_with (first
       | ((go_at_call 43)
          (refine hI.mono ?_)
          (rintro e w5 ⟨rfl, q5, rfl⟩)))
      go_roundw
      case rel => exact ⟨5, rfl, G4.drewN q5, .inl ⟨by omega, S4.drewN q5⟩⟩
      case measure => simp [intOf]
    · have g0 := G4.cell 5
      have hI := hIs wr k4 wExport true h4 rfl
      rw [show bs wExport = ⟨#[101, 120, 112, 111, 114, 116]⟩ from rfl] at hI
      go_wp2_with (first
       | ((go_at_call 43)
          (refine hI.mono ?_)
          (rintro e w5 ⟨rfl, q5, rfl⟩)))
      go_roundw
      case rel => exact ⟨6, rfl, (G4.drewN q5).other (by show w2.heap.size + 1 ≠ w2.heap.size; omega) _, .inr ⟨rfl, (S4.drewN q5).put 0 _ _ rfl⟩⟩
      case measure => simp [intOf]
  · obtain ⟨k4, h4⟩ := S4.at hR
    have q0 := S4.hq.cell 0
    have lq := S4.hq.lt
    have S5 := S4.step hi
    obtain ⟨k5, h5⟩ := S5.at hR
    have c4 := h4.has.cell 1
    have d4 := h4.has.free 1
    have l4 := h4.has.lt
    simp only [ga1, gz1, gs1] at c4
    go_wp2_with (first
     | ((go_at_call 45)
        (refine at_wd (wr.setCell ⟨rb, 1, none⟩ (.int .i64 ((i : Int) + 1))) ?_)
        (refine (rname_c' h5).mono ?_)
        (rintro e w5 ⟨i5, b5, ⟨⟨tk5, ts5, tn5⟩, ta5⟩, rfl, s5, T5, x5⟩)
        (have S6 := ((S5.rst s5).put 1 (.string (bs ts5)) #[.string ⟨#[101, 120, 112, 111, 114, 116]⟩, .string (bs ts5), .int .i64 0, .int .i64 (at_ : Nat), .slice none 0 0] rfl).alloc (.cells #[.int .i64 (tk5 : Nat), .string (bs ts5), .int .i64 (tn5 : Nat), .int .i64 (ta5 : Nat)] 100))
        (obtain ⟨k6, h6⟩ := S6.at hR)
        (have q5 := (S5.rst s5).hq.cell 0)
        (have q51 := (S5.rst s5).hq.cell 1)
        (have q52 := (S5.rst s5).hq.cell 2)
        (have q54 := (S5.rst s5).hq.cell 4)
        (have f51 := (S5.rst s5).hq.free 1)
        (have f52 := (S5.rst s5).hq.free 2)
        (have f54 := (S5.rst s5).hq.free 4)
        (have l5 := (S5.rst s5).hq.lt)
        (have m5 : w2.heap.size ≠ w5.heap.size := by omega)
        (simp only [tkv]))
     )
    have HE := ris_any h6 wReadonly
    refine HE.mono ?_
    rintro e w7 ⟨rfl, q7, rfl⟩
    have S7 := S6.drewN q7
    generalize ((w5.setCell ⟨w2.heap.size, 1, none⟩ (.string (bs ts5))).alloc (.cells #[.int .i64 (tk5 : Nat), .string (bs ts5), .int .i64 (tn5 : Nat), .int .i64 (ta5 : Nat)] 100)).drewN q7 = W7 at S7 ⊢
    obtain ⟨k7, h7⟩ := S7.at hR
    have lq7 := S7.hq.lt
    have q72 := S7.hq.cell 2
    have f72 := S7.hq.free 2
    clear HE
    cases hc : isB b5 ts i5 wReadonly
    · have T8 : Tell b5 (prest wExport en (ts.drop i5)) ts ((0 : Int), []) i5 b5 := by
       show Tell b5 (pif (isWd [wReadonly]) _ _ en (ts.drop i5)) _ _ _ _
       rcases isB_false hc with e | e
       · exact Tell.bad e e _ _ _ _
       · unfold pif
         rw [if_neg]
         · exact Tell.ret _ _ _ _ _
         · intro e2
           by_cases hj : i5 < ts.length
           · rw [comes_at hj] at e e2
             unfold isWd at e2
             unfold isWS at e
             simp only [Bool.and_eq_true, beq_iff_eq, List.any_cons, List.any_nil, Bool.or_false] at e2
             rw [e2.1, e2.2] at e
             simp at e
           · rw [comes_end hj] at e2
             cases e2
      go_wp2_with (first
       | ((go_at_call 47)
          (refine at_wd (W7) ?_)
          (refine (rmust_c h7 [59]).mono ?_)
          (rintro e w9 ⟨rfl, i9, b9, s9, t9, T9⟩)
          (rw [sg_eq hG (by decide)] at T9)
          (have S9 := S7.rst s9)
          (have p9 := S9.hp.lt)
          (have r9 := S9.hq.lt)
          (have ca0 := S9.hp.cell 0)
          (have ca1 := S9.hp.cell 1)
          (have ca2 := S9.hp.cell 2)
          (have ca3 := S9.hp.cell 3)
          (have ca4 := S9.hp.cell 4)
          (have fa0 := S9.hp.free 0)
          (have fa1 := S9.hp.free 1)
          (have fa2 := S9.hp.free 2)
          (have fa3 := S9.hp.free 3)
          (have fa4 := S9.hp.free 4)
          (have cb0 := S9.hq.cell 0)
          (have cb1 := S9.hq.cell 1)
          (have cb2 := S9.hq.cell 2)
          (have cb3 := S9.hq.cell 3)
          (have cb4 := S9.hq.cell 4))
       )
      refine ret_node rfl rfl (S9.hp.set5 _ _ _ _ _) rfl (fin _ _ ?_)
      refine ⟨i9, b9, .mk wExport ts5 0 (at_ : Nat) [], none, 0, rfl, NdR.nil _ _, Rst.set5 S9.st (Nat.le_refl _) hlt _ _ _ _ _, T5.bind (T8.bind (T9.map (fun _ => Nd.mk wExport ts5 0 (at_ : Nat) []))), Nat.le_of_ble_eq_true rfl⟩
    · obtain ⟨rfl, hj, hp⟩ := isB_true hc
      have S8 := (S7.step hj).put 2 (.int .i64 1) #[.string ⟨#[101, 120, 112, 111, 114, 116]⟩, .string (bs ts5), .int .i64 1, .int .i64 (at_ : Nat), .slice none 0 0] rfl
      obtain ⟨k8, h8⟩ := S8.at hR
      have T8 : Tell 0 (prest wExport en (ts.drop i5)) ts ((1 : Int), []) (i5 + 1) 0 := by
       show Tell 0 (pif (isWd [wReadonly]) _ _ en (ts.drop i5)) _ _ _ _
       obtain ⟨e1, e2⟩ := wd_kind hG hj (by intro c e; cases e) hp
       have hw : isWd [wReadonly] ts[i5].1 = true := by unfold isWd; rw [e1, e2]; rfl
       unfold pif
       rw [if_pos (by rw [comes_at hj]; exact hw)]
       exact (take_tell hj hw).map (fun _ => ((1 : Int), ([] : List Nd)))
      have c7 := h7.has.cell 1
      have d7 := h7.has.free 1
      have l7 := h7.has.lt
      simp only [ga1, gz1, gs1] at c7
      have hi7 : (i5 : Int) ≤ 500 := by omega
      go_wp2_with (first
       | ((go_at_call 47)
          (refine at_wd ((W7.setCell ⟨rb, 1, none⟩ (.int .i64 ((i5 : Int) + 1))).setCell ⟨w2.heap.size, 2, none⟩ (.int .i64 1)) ?_)
          (refine (rmust_c h8 [59]).mono ?_)
          (rintro e w9 ⟨rfl, i9, b9, s9, t9, T9⟩)
          (rw [sg_eq hG (by decide)] at T9)
          (have S9 := S8.rst s9)
          (have p9 := S9.hp.lt)
          (have r9 := S9.hq.lt)
          (have ca0 := S9.hp.cell 0)
          (have ca1 := S9.hp.cell 1)
          (have ca2 := S9.hp.cell 2)
          (have ca3 := S9.hp.cell 3)
          (have ca4 := S9.hp.cell 4)
          (have fa0 := S9.hp.free 0)
          (have fa1 := S9.hp.free 1)
          (have fa2 := S9.hp.free 2)
          (have fa3 := S9.hp.free 3)
          (have fa4 := S9.hp.free 4)
          (have cb0 := S9.hq.cell 0)
          (have cb1 := S9.hq.cell 1)
          (have cb2 := S9.hq.cell 2)
          (have cb3 := S9.hq.cell 3)
          (have cb4 := S9.hq.cell 4))
       )
      refine ret_node rfl rfl (S9.hp.set5 _ _ _ _ _) rfl (fin _ _ ?_)
      refine ⟨i9, b9, .mk wExport ts5 1 (at_ : Nat) [], none, 0, rfl, NdR.nil _ _, Rst.set5 S9.st (Nat.le_refl _) hlt _ _ _ _ _, T5.bind (T8.bind (T9.map (fun _ => Nd.mk wExport ts5 1 (at_ : Nat) []))), Nat.le_of_ble_eq_true rfl⟩
end
end Go.Proofs.YthndifegfmjpbaaGreatDoor
