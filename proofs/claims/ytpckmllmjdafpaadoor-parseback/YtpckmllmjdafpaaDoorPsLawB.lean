/- ParseBack, walked. -/
import Derived.Test.YtpckmllmjdafpaaDoorPsLawJ
import Derived.Test.YtpckmllmjdafpaaDoorPsBackS
namespace Go.Proofs.YtpckmllmjdafpaaDoor
open Go.ChangeShapes Go.WideShapes Go.ChangeAt Go.RowKit
set_option linter.unusedVariables false

/-- A file's node. -/
abbrev fileV (A : Option Addr) (L C : Nat) : Value := .agg #[.string ⟨#[102, 105, 108, 101]⟩, .string ⟨#[]⟩, .int .i64 0, .int .i64 0, .slice A L C]

theorem back_err (x : List UInt8) (w : World) (hx : x.length ≤ maxLen) (ht : Tab w) {c k : Nat} (hP : Parse x = .error (c, k)) : Calls Tryd.prog 3 #[.string (bs x)] w fun e w' => e = .returned (.bool true) ∧ Below w.heap.size w w' := by
  have hal := fun W (hb : Below w.heap.size w W) => alive_c W (ht.below hb)
  have hpa := parse_err_c x w hx hP
  obtain ⟨hk, hc0⟩ := Parse_place hP
  have hc0' : ¬ ((c : Nat) : Int) = 0 := by omega
  have hs0 : w.heap.size ≤ w.heap.size := Nat.le_refl _
  clear hP hc0 hk
  go_enter Tryd.func3, Tryd.ntmps3
  go_wp2_with (first
    | (go_at_call 4; refine hpa.mono ?_; rintro e w1 ⟨rfl, hb1⟩)
    | (go_at_call 5; refine (hal _ (hb1.alloc hb1.size _)).mono ?_; rintro e w2 ⟨rfl, hb2⟩; have hN := (Has.new w1 24 #[.string ⟨#[]⟩, .string ⟨#[]⟩, .int .i64 0, .int .i64 0, .slice none 0 0]).below hb2 (by simp); have n0 := hN.cell 0; have n4 := hN.cell 4))
  go_ret
  exact ⟨rfl, bel_pa hb1 hb2⟩

set_option maxRecDepth 100000 in
set_option maxHeartbeats 2000000 in
theorem back_long (x : List UInt8) (w : World) (hx : x.length ≤ maxLen) (ht : Tab w) {l : List Nd} (hP : Parse x = .ok (.mk wFile [] 0 0 l)) (hz : 2000 < (printed (.mk wFile [] 0 0 l)).length) : Calls Tryd.prog 3 #[.string (bs x)] w fun e w' => e = .returned (.bool true) ∧ Below w.heap.size w w' := by
  have hal := fun W (hb : Below w.heap.size w W) => alive_c W (ht.below hb)
  obtain ⟨hR, hLn, hlen⟩ := Parse_right hP
  have sml := Parse_sml hP
  have hX : Calls Tryd.prog 4 #[.string (bs x)] w fun e w' => ∃ A C, e = .returned (.tuple #[fileV A l.length C, .int .i64 0, .int .i64 (-1)]) ∧ NdR w' (fun g => w.heap.size ≤ g) l (.slice A l.length C) ∧ Below w.heap.size w w' := parse_ok_c x w hx hP
  have hPr : ∀ W A C, Tab W → NdR W (fun _ => True) l (.slice A l.length C) → Calls Tryd.prog 6 #[fileV A l.length C] W fun e w' => e = .returned (.tuple #[.string (bs (printed (.mk wFile [] 0 0 l))), .int .i64 0]) ∧ Below W.heap.size W w' := fun W A C hT hn => print_ok (.mk wFile [] 0 0 l) A C W (NdR.node (n := .mk wFile [] 0 0 l) hn sml) hT hR hLn (by omega)
  have hRt : ∀ W A C, NdR W (fun _ => True) l (.slice A l.length C) → Calls Tryd.prog 7 #[fileV A l.length C] W (Yes W true) := fun W A C hn => by rw [← hR]; exact right_c (.mk wFile [] 0 0 l) A C W (NdR.node (n := .mk wFile [] 0 0 l) hn sml)
  have hE : Parse (printed (.mk wFile [] 0 0 l)) = .error (103, 0) := by
    unfold Parse Scan
    rw [if_pos hz]
  generalize printed (.mk wFile [] 0 0 l) = S at *
  have hQ := fun W => parse_err_c S W (by unfold maxLen; omega) hE
  have hQ : ∀ W, Calls Tryd.prog 4 #[.string (bs S)] W fun e w' => e = .returned (.tuple #[.agg #[.string ⟨#[]⟩, .string ⟨#[]⟩, .int .i64 0, .int .i64 0, .slice none 0 0], .int .i64 103, .int .i64 0]) ∧ Below W.heap.size W w' := hQ
  have hsz : (2000 : Int) < ((bs S).size : Int) := by rw [bs_size]; omega
  have hsz2 : ((bs S).size : Int) ≤ 1000000 := by rw [bs_size]; omega
  obtain ⟨L, hL⟩ : ∃ L, L = l.length := ⟨_, rfl⟩
  rw [← hL] at hX hPr hRt
  clear hP hR hLn hlen hE hz hL sml
  go_enter Tryd.func3, Tryd.ntmps3
  go_wp2_with (first
    | ((go_at_call 4)
       (refine at_argP 0 (.string (bs x)) rfl ?_)
       (refine hX.mono ?_)
       (rintro e w1 ⟨A, C, rfl, hn1, hb1⟩)
       (clear hX))
    | ((go_at_call 6)
       (refine (hPr _ A C (ht.below (hb1.alloc hb1.size _)) ((hn1.imp fun g _ _ => trivial).grow (b_one _ _))).mono ?_)
       (rintro e w2 ⟨rfl, hb2⟩)
       (have hN2 := (Has.new w1 24 #[.string ⟨#[102, 105, 108, 101]⟩, .string ⟨#[]⟩, .int .i64 0, .int .i64 0, .slice A L C]).below hb2 (by simp))
       (have hd2 := ((hn1.imp fun g _ _ => trivial).grow (b_one _ _)).grow hb2)
       (have bw2 : Below w.heap.size w w2 := bel_pa hb1 hb2)
       (have p0 := hN2.cell 0)
       (have p1 := hN2.cell 1)
       (have p2 := hN2.cell 2)
       (have p3 := hN2.cell 3)
       (have p4 := hN2.cell 4))
    | ((go_at_call 7)
       (refine (hRt _ A C hd2).mono ?_)
       (rintro e w3 ⟨rfl, hb3⟩)
       (have bw3 : Below w.heap.size w w3 := bw2.trans (hb3.mono bw2.size)))
    | ((go_at_call 4)
       (refine at_argP 0 (.string (bs S)) rfl ?_)
       (refine (hQ _).mono ?_)
       (rintro e w4 ⟨rfl, hb4⟩)
       (have bw4 : Below w.heap.size w w4 := bw3.trans (hb4.mono bw3.size)))
    | ((go_at_call 5)
       (refine (hal _ (bw4.alloc bw4.size _)).mono ?_)
       (rintro e w5 ⟨rfl, hb5⟩)))
  go_ret
  exact ⟨rfl, bel_pa bw4 hb5⟩

set_option maxRecDepth 100000 in
set_option maxHeartbeats 2000000 in
theorem back_ok (x : List UInt8) (w : World) (hx : x.length ≤ maxLen) (ht : Tab w) {l : List Nd} (hP : Parse x = .ok (.mk wFile [] 0 0 l)) (hz : (printed (.mk wFile [] 0 0 l)).length ≤ 2000) : Calls Tryd.prog 3 #[.string (bs x)] w fun e w' => e = .returned (.bool true) ∧ Below w.heap.size w w' := by
  have hal := fun W (hb : Below w.heap.size w W) => alive_c W (ht.below hb)
  obtain ⟨hR, hLn, hlen⟩ := Parse_right hP
  have sml := Parse_sml hP
  obtain ⟨m, hM, hAl, hpm⟩ := Parse_back hP hz
  obtain ⟨_, ml, _, _, rfl⟩ := Parse_ok hM
  obtain ⟨hR2, hLn2, hlen2⟩ := Parse_right hM
  have sml2 := Parse_sml hM
  have hX : Calls Tryd.prog 4 #[.string (bs x)] w fun e w' => ∃ A C, e = .returned (.tuple #[fileV A l.length C, .int .i64 0, .int .i64 (-1)]) ∧ NdR w' (fun g => w.heap.size ≤ g) l (.slice A l.length C) ∧ Below w.heap.size w w' := parse_ok_c x w hx hP
  have hPr : ∀ W A C, Tab W → NdR W (fun _ => True) l (.slice A l.length C) → Calls Tryd.prog 6 #[fileV A l.length C] W fun e w' => e = .returned (.tuple #[.string (bs (printed (.mk wFile [] 0 0 l))), .int .i64 0]) ∧ Below W.heap.size W w' := fun W A C hT hn => print_ok (.mk wFile [] 0 0 l) A C W (NdR.node (n := .mk wFile [] 0 0 l) hn sml) hT hR hLn (by omega)
  have hPm : ∀ W A C, Tab W → NdR W (fun _ => True) ml (.slice A ml.length C) → Calls Tryd.prog 6 #[fileV A ml.length C] W fun e w' => e = .returned (.tuple #[.string (bs (printed (.mk wFile [] 0 0 l))), .int .i64 0]) ∧ Below W.heap.size W w' := fun W A C hT hn => by rw [← hpm]; exact print_ok (.mk wFile [] 0 0 ml) A C W (NdR.node (n := .mk wFile [] 0 0 ml) hn sml2) hT hR2 hLn2 (by omega)
  have hRt : ∀ W A C, NdR W (fun _ => True) l (.slice A l.length C) → Calls Tryd.prog 7 #[fileV A l.length C] W (Yes W true) := fun W A C hn => by rw [← hR]; exact right_c (.mk wFile [] 0 0 l) A C W (NdR.node (n := .mk wFile [] 0 0 l) hn sml)
  have hSm : ∀ W A C A' C', NdR W (fun _ => True) l (.slice A l.length C) → NdR W (fun _ => True) ml (.slice A' ml.length C') → Calls Tryd.prog 8 #[fileV A l.length C, fileV A' ml.length C', .bool false] W (Yes W true) := fun W A C A' C' h1 h2 => same_c hAl W A A' C C' (NdR.node (n := .mk wFile [] 0 0 l) h1 sml) (NdR.node (n := .mk wFile [] 0 0 ml) h2 sml2)
  have hQ := fun W => parse_ok_c (printed (.mk wFile [] 0 0 l)) W (by unfold maxLen; omega) hM
  have hQ : ∀ W, Calls Tryd.prog 4 #[.string (bs (printed (.mk wFile [] 0 0 l)))] W fun e w' => ∃ A C, e = .returned (.tuple #[fileV A ml.length C, .int .i64 0, .int .i64 (-1)]) ∧ NdR w' (fun g => W.heap.size ≤ g) ml (.slice A ml.length C) ∧ Below W.heap.size W w' := hQ
  generalize printed (.mk wFile [] 0 0 l) = S at *
  have hsz : ((bs S).size : Int) ≤ 2000 := by rw [bs_size]; omega
  obtain ⟨L, hL⟩ : ∃ L, L = l.length := ⟨_, rfl⟩
  obtain ⟨M, hM'⟩ : ∃ L, L = ml.length := ⟨_, rfl⟩
  rw [← hL] at hX hPr hRt hSm
  rw [← hM'] at hPm hSm hQ
  clear hP hR hLn hlen hz hL hM' sml hM hAl hpm hR2 hLn2 hlen2 sml2
  have hP0 : Hid True := trivial
  go_enter Tryd.func3, Tryd.ntmps3
  go_wp2_with (first
    | ((go_at_call 4)
       (refine at_argP 0 (.string (bs x)) rfl ?_)
       (refine hX.mono ?_)
       (rintro e w1 ⟨A, C, rfl, hn1, hb1⟩)
       (clear hX))
    | ((go_at_call 6)
       (refine at_argP 0 (fileV A L C) rfl ?_)
       (have _t := hP0)
       (refine (hPr _ A C (ht.below (hb1.alloc hb1.size _)) ((hn1.imp fun g _ _ => trivial).grow (b_one _ _))).mono ?_)
       (rintro e w2 ⟨rfl, hb2⟩)
       (clear hP0 _t)
       (have hN2 := (Has.new w1 24 #[.string ⟨#[102, 105, 108, 101]⟩, .string ⟨#[]⟩, .int .i64 0, .int .i64 0, .slice A L C]).below hb2 (by simp))
       (have hd2 := ((hn1.imp fun g _ _ => trivial).grow (b_one _ _)).grow hb2)
       (have bw2 : Below w.heap.size w w2 := bel_pa hb1 hb2)
       (have p0 := hN2.cell 0)
       (have p1 := hN2.cell 1)
       (have p2 := hN2.cell 2)
       (have p3 := hN2.cell 3)
       (have p4 := hN2.cell 4))
    | ((go_at_call 7)
       (refine (hRt _ A C hd2).mono ?_)
       (rintro e w3 ⟨rfl, hb3⟩)
       (have bw3 : Below w.heap.size w w3 := bw2.trans (hb3.mono bw2.size)))
    | ((go_at_call 4)
       (refine at_argP 0 (.string (bs S)) rfl ?_)
       (refine (hQ _).mono ?_)
       (rintro e w4 ⟨A4, C4, rfl, hn4, hb4⟩)
       (have bw4 : Below w.heap.size w w4 := bw3.trans (hb4.mono bw3.size))
       (have hN4 := (hN2.below hb3 hN2.lt).below hb4 (hN2.below hb3 hN2.lt).lt)
       (have hd4 := ((hd2.grow hb3).grow hb4).grow (b_one w4 (.cells #[.string ⟨#[102, 105, 108, 101]⟩, .string ⟨#[]⟩, .int .i64 0, .int .i64 0, .slice A4 M C4] 24)))
       (have he4 := (hn4.imp fun g _ _ => trivial).grow (b_one w4 (.cells #[.string ⟨#[102, 105, 108, 101]⟩, .string ⟨#[]⟩, .int .i64 0, .int .i64 0, .slice A4 M C4] 24)))
       (have hlt4 := hN4.lt)
       (have q0 := hN4.cell 0)
       (have q1 := hN4.cell 1)
       (have q2 := hN4.cell 2)
       (have q3 := hN4.cell 3)
       (have q4 := hN4.cell 4))
    | ((go_at_call 8)
       (refine (hSm _ A C A4 C4 hd4 he4).mono ?_)
       (rintro e w5 ⟨rfl, hb5⟩)
       (have bw5 : Below w.heap.size w w5 := bel_pa bw4 hb5)
       (have hN5 := (Has.new w4 24 #[.string ⟨#[102, 105, 108, 101]⟩, .string ⟨#[]⟩, .int .i64 0, .int .i64 0, .slice A4 M C4]).below hb5 (by simp))
       (have he5 := he4.grow hb5)
       (have r0 := hN5.cell 0)
       (have r1 := hN5.cell 1)
       (have r2 := hN5.cell 2)
       (have r3 := hN5.cell 3)
       (have r4 := hN5.cell 4))
    | ((go_at_call 6)
       (refine (hPm _ A4 C4 (ht.below bw5) he5).mono ?_)
       (rintro e w6 ⟨rfl, hb6⟩)
       (have bw6 : Below w.heap.size w w6 := bw5.trans (hb6.mono bw5.size)))
    | ((go_at_call 5)
       (refine (hal _ bw6).mono ?_)
       (rintro e w7 ⟨rfl, hb7⟩)))
  go_ret
  exact ⟨rfl, bw6.trans (hb7.mono bw6.size)⟩

theorem back_walk (x : List UInt8) (w : World) (hx : x.length ≤ maxLen) (ht : Tab w) : Calls Tryd.prog 3 #[.string (bs x)] w fun e w' => e = .returned (.bool true) ∧ Below w.heap.size w w' := by
  cases hP : Parse x with
  | error r => obtain ⟨c, k⟩ := r; exact back_err x w hx ht hP
  | ok n =>
    obtain ⟨_, l, _, _, rfl⟩ := Parse_ok hP
    rcases Nat.lt_or_ge 2000 (printed (.mk wFile [] 0 0 l)).length with h | h
    · exact back_long x w hx ht hP h
    · exact back_ok x w hx ht hP h
end Go.Proofs.YtpckmllmjdafpaaDoor
