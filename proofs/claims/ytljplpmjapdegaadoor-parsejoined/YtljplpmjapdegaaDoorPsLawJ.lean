/- ParseJoined, walked. -/
import Derived.Test.YtljplpmjapdegaaDoorPsLawC
import Derived.Test.YtljplpmjapdegaaDoorPsGood
import Derived.Test.YtljplpmjapdegaaDoorPsCat
namespace Go.Proofs.YtljplpmjapdegaaDoor
open Go.ChangeShapes Go.WideShapes Go.ChangeAt Go.RowKit
set_option linter.unusedVariables false

/-- What Parse answers, whatever it is. -/
def PWeak (W : World) (e : Ending) (w' : World) : Prop := ∃ (o s : List UInt8) (i j : Int) (A : Option Addr) (L C : Nat) (er k : Int), e = .returned (.tuple #[.agg #[.string (bs o), .string (bs s), .int .i64 i, .int .i64 j, .slice A L C], .int .i64 er, .int .i64 k]) ∧ Below W.heap.size W w'

theorem parse_weak (x : List UInt8) (W : World) (hm : x.length ≤ maxLen) : Calls Tryd.prog 6 #[.string (bs x)] W (PWeak W) := by
  refine (parse_c x W hm).mono ?_
  rintro e w' ⟨hb, h⟩
  cases hP : Parse x with
  | error r => obtain ⟨c, k⟩ := r; rw [hP] at h; exact ⟨[], [], 0, 0, none, 0, 0, c, k, h, hb⟩
  | ok n => rw [hP] at h; obtain ⟨A, C, he, _⟩ := h; exact ⟨n.op, n.s, n.n, n.a, A, n.l.length, C, 0, -1, he, hb⟩

theorem bel_pa2 {w w1 w2 : World} {o : Obj} (h1 : Below w.heap.size w w1) (h2 : Below (w1.alloc o).heap.size (w1.alloc o) w2) : Below w.heap.size w w2 := bel_pa h1 h2

set_option maxRecDepth 100000 in
set_option maxHeartbeats 2000000 in
theorem joined_far (x y : List UInt8) (w : World) (hx : x.length ≤ maxLen) (hy : y.length ≤ maxLen) (ht : Tab w) (h : 2000 < x.length ∨ 2000 < x.length + y.length) : Calls Tryd.prog 5 #[.string (bs x), .string (bs y)] w fun e w' => e = .returned (.bool true) ∧ Below w.heap.size w w' := by
  unfold maxLen at hx hy
  have sa := bs_size x
  have sb := bs_size y
  have hal := alive_c w ht
  by_cases h1 : 2000 < x.length
  · have h2 : (2000 : Int) < ((bs x).size : Int) := by omega
    clear h
    go_enter Tryd.func5, Tryd.ntmps5
    go_wp2_with (go_at_call 7; refine hal.mono ?_; rintro e w1 ⟨rfl, hb1⟩)
    go_ret
    exact ⟨rfl, hb1⟩
  · have h2 : ((bs x).size : Int) ≤ 2000 := by omega
    have h3 : (2000 : Int) - ((bs x).size : Int) < ((bs y).size : Int) := by omega
    have h0 : (0 : Int) ≤ ((bs x).size : Int) := by omega
    clear h
    go_enter Tryd.func5, Tryd.ntmps5
    go_wp2_with (go_at_call 7; refine hal.mono ?_; rintro e w1 ⟨rfl, hb1⟩)
    go_ret
    exact ⟨rfl, hb1⟩

set_option maxRecDepth 100000 in
set_option maxHeartbeats 2000000 in
theorem joined_errs (x y : List UInt8) (w : World) (ht : Tab w) (h : x.length + y.length ≤ 2000) (he : (∃ c k, Parse x = .error (c, k)) ∨ ((∃ n, Parse x = .ok n) ∧ ∃ c k, Parse y = .error (c, k))) : Calls Tryd.prog 5 #[.string (bs x), .string (bs y)] w fun e w' => e = .returned (.bool true) ∧ Below w.heap.size w w' := by
  have sa := bs_size x
  have sb := bs_size y
  have hal := fun W (hb : Below w.heap.size w W) => alive_c W (ht.below hb)
  have h2 : ((bs x).size : Int) ≤ 2000 := by omega
  have h3 : ((bs y).size : Int) ≤ (2000 : Int) - ((bs x).size : Int) := by omega
  have h0 : (0 : Int) ≤ ((bs x).size : Int) := by omega
  have mx : x.length ≤ maxLen := by unfold maxLen; omega
  have my : y.length ≤ maxLen := by unfold maxLen; omega
  obtain ⟨P, hPe⟩ : ∃ P, P = x ++ [10] := ⟨_, rfl⟩
  obtain ⟨Z, hZe⟩ : ∃ Z, Z = P ++ y := ⟨_, rfl⟩
  have hPl : (bs P).size ≤ 2001 := by rw [bs_size, hPe]; simp; omega
  have hyl : (bs y).size ≤ 2000 := by omega
  have hxl : (bs x).size ≤ 2000 := by omega
  have mz : Z.length ≤ maxLen := by rw [hZe, hPe]; unfold maxLen; simp; omega
  have E1 : Hid (bs x ++ (⟨#[10]⟩ : ByteArray) = bs P) := by show _ = _; rw [show (⟨#[10]⟩ : ByteArray) = bs [10] from rfl, bs_cat, ← hPe]
  have E2 : Hid (bs P ++ bs y = bs Z) := by show _ = _; rw [bs_cat, ← hZe]
  have hZ := fun W => parse_weak Z W mz
  have hY := fun W => parse_weak y W my
  clear hPe hZe
  rcases he with ⟨c, k, hP⟩ | ⟨⟨n, hP⟩, c, k, hQ⟩
  · have hX := parse_err_c x w mx hP
    have hc := (Parse_place hP).2
    have hc' : ¬ ((c : Nat) : Int) = 0 := by omega
    clear hP hc
    go_enter Tryd.func5, Tryd.ntmps5
    go_wp2_with (first
      | (go_at_call 6; refine at_argP 0 (.string (bs x)) rfl ?_; refine hX.mono ?_; rintro e w1 ⟨rfl, hb1⟩; clear hX)
      | (go_at_call 6; refine at_argP 0 (.string (bs y)) rfl ?_; refine (hY _).mono ?_; rintro e w2 ⟨o2, s2, i2, j2, A2, L2, C2, er2, k2, rfl, hb2⟩; have hbb2 := bel_pa hb1 hb2; clear hY)
      | (go_at_call 6; refine at_argP 0 (.string (bs Z)) rfl ?_; refine (hZ _).mono ?_; rintro e w3 ⟨o3, s3, i3, j3, A3, L3, C3, er3, k3, rfl, hb3⟩; have hbb3 := bel_pa hbb2 hb3; clear hZ)
      | (refine at_dstL 41 rfl ?_; refine wpList_is (some 41) (.string (bs P)) rfl rfl (by rw [← E1.out]; exact run_add_str _ _ rfl _ _ rfl rfl (by show _ + 1 ≤ _; omega) _) ?_)
      | (refine at_dstL 43 rfl ?_; refine wpList_is (some 43) (.string (bs Z)) rfl rfl (by rw [← E2.out]; exact run_add_str _ _ rfl _ _ rfl rfl (by omega) _) ?_)
      | (go_at_call 7; refine (hal _ (hbb3.alloc hbb3.size _)).mono ?_; rintro e w4 ⟨rfl, hb4⟩))
    go_ret
    exact ⟨rfl, bel_pa hbb3 hb4⟩
  · have hX := (parse_ok_c x w mx hP).mono (R' := fun e w' => ∃ A C, e = .returned (.tuple #[.agg #[.string (bs n.op), .string (bs n.s), .int .i64 n.n, .int .i64 n.a, .slice A n.l.length C], .int .i64 0, .int .i64 (-1)]) ∧ Below w.heap.size w w') fun e w' ⟨A, C, h1, _, h3⟩ => ⟨A, C, h1, h3⟩
    have hY := fun W => parse_err_c y W my hQ
    have hc := (Parse_place hQ).2
    have hc' : ¬ ((c : Nat) : Int) = 0 := by omega
    clear hP hQ hc
    go_enter Tryd.func5, Tryd.ntmps5
    go_wp2_with (first
      | (go_at_call 6; refine at_argP 0 (.string (bs x)) rfl ?_; refine hX.mono ?_; rintro e w1 ⟨A1, C1, rfl, hb1⟩; clear hX)
      | (go_at_call 6; refine at_argP 0 (.string (bs y)) rfl ?_; refine (hY _).mono ?_; rintro e w2 ⟨rfl, hb2⟩; have hbb2 := bel_pa hb1 hb2; clear hY)
      | (go_at_call 6; refine at_argP 0 (.string (bs Z)) rfl ?_; refine (hZ _).mono ?_; rintro e w3 ⟨o3, s3, i3, j3, A3, L3, C3, er3, k3, rfl, hb3⟩; have hbb3 := bel_pa hbb2 hb3; clear hZ)
      | (refine at_dstL 41 rfl ?_; refine wpList_is (some 41) (.string (bs P)) rfl rfl (by rw [← E1.out]; exact run_add_str _ _ rfl _ _ rfl rfl (by show _ + 1 ≤ _; omega) _) ?_)
      | (refine at_dstL 43 rfl ?_; refine wpList_is (some 43) (.string (bs Z)) rfl rfl (by rw [← E2.out]; exact run_add_str _ _ rfl _ _ rfl rfl (by omega) _) ?_)
      | (go_at_call 7; refine (hal _ (hbb3.alloc hbb3.size _)).mono ?_; rintro e w4 ⟨rfl, hb4⟩))
    go_ret
    exact ⟨rfl, bel_pa hbb3 hb4⟩

theorem Alike.refl {n : Nd} (h : Sml n) : Alike n n := by
  induction h with
  | mk op s n a l h1 h2 h3 ih => exact .mk op s n a a l l rfl (fun i h h' => ih _ (List.getElem_mem h))

theorem AL.refl {l : List Nd} (h : SmlL l) : AL l l := AL.of_get rfl (fun i h1 h2 => Alike.refl (h _ (List.getElem_mem h1)))

theorem NdR.drew {w : World} {P : Nat → Prop} {l : List Nd} {v : Value} (h : NdR w P l v) : NdR w.drew P l v := h.keep fun g o _ ho => ho

set_option maxRecDepth 100000 in
set_option maxHeartbeats 4000000 in
theorem joined_many (x y : List UInt8) (w : World) (ht : Tab w) (h : x.length + y.length ≤ 2000) {n m : Nd} (hn : Parse x = .ok n) (hm : Parse y = .ok m) {o : Nat} (hz : Parse (x ++ 10 :: y) = .error (103, o)) : Calls Tryd.prog 5 #[.string (bs x), .string (bs y)] w fun e w' => e = .returned (.bool true) ∧ Below w.heap.size w w' := by
  have sa := bs_size x
  have sb := bs_size y
  have hal := fun W (hb : Below w.heap.size w W) => alive_c W (ht.below hb)
  have h2 : ((bs x).size : Int) ≤ 2000 := by omega
  have h3 : ((bs y).size : Int) ≤ (2000 : Int) - ((bs x).size : Int) := by omega
  have h0 : (0 : Int) ≤ ((bs x).size : Int) := by omega
  have mx : x.length ≤ maxLen := by unfold maxLen; omega
  have my : y.length ≤ maxLen := by unfold maxLen; omega
  obtain ⟨P, hPe⟩ : ∃ P, P = x ++ [10] := ⟨_, rfl⟩
  obtain ⟨Z, hZe⟩ : ∃ Z, Z = P ++ y := ⟨_, rfl⟩
  have hPl : (bs P).size ≤ 2001 := by rw [bs_size, hPe]; simp; omega
  have hyl : (bs y).size ≤ 2000 := by omega
  have hxl : (bs x).size ≤ 2000 := by omega
  have mz : Z.length ≤ maxLen := by rw [hZe, hPe]; unfold maxLen; simp; omega
  have eZ : Z = x ++ 10 :: y := by rw [hZe, hPe]; simp
  rw [← eZ] at hz
  have E1 : Hid (bs x ++ (⟨#[10]⟩ : ByteArray) = bs P) := by show _ = _; rw [show (⟨#[10]⟩ : ByteArray) = bs [10] from rfl, bs_cat, ← hPe]
  have E2 : Hid (bs P ++ bs y = bs Z) := by show _ = _; rw [bs_cat, ← hZe]
  have hX := (parse_ok_c x w mx hn).mono (R' := fun e w' => ∃ A C, e = .returned (.tuple #[.agg #[.string (bs n.op), .string (bs n.s), .int .i64 n.n, .int .i64 n.a, .slice A n.l.length C], .int .i64 0, .int .i64 (-1)]) ∧ Below w.heap.size w w') fun e w' ⟨A, C, h1, _, h3⟩ => ⟨A, C, h1, h3⟩
  have hY := fun W => (parse_ok_c y W my hm).mono (R' := fun e w' => ∃ A C, e = .returned (.tuple #[.agg #[.string (bs m.op), .string (bs m.s), .int .i64 m.n, .int .i64 m.a, .slice A m.l.length C], .int .i64 0, .int .i64 (-1)]) ∧ Below W.heap.size W w') fun e w' ⟨A, C, h1, _, h3⟩ => ⟨A, C, h1, h3⟩
  have hZ : ∀ W, Calls Tryd.prog 6 #[.string (bs Z)] W fun e w' => e = .returned (.tuple #[.agg #[.string ⟨#[]⟩, .string ⟨#[]⟩, .int .i64 0, .int .i64 0, .slice none 0 0], .int .i64 103, .int .i64 (o : Nat)]) ∧ Below W.heap.size W w' := fun W => parse_err_c Z W mz hz
  clear hPe hZe hn hm hz eZ
  go_enter Tryd.func5, Tryd.ntmps5
  go_wp2_with (first
    | (go_at_call 6; refine at_argP 0 (.string (bs x)) rfl ?_; refine hX.mono ?_; rintro e w1 ⟨A1, C1, rfl, hb1⟩; clear hX)
    | (go_at_call 6; refine at_argP 0 (.string (bs y)) rfl ?_; refine (hY _).mono ?_; rintro e w2 ⟨A2, C2, rfl, hb2⟩; have hbb2 := bel_pa hb1 hb2; clear hY)
    | (go_at_call 6; refine at_argP 0 (.string (bs Z)) rfl ?_; refine (hZ _).mono ?_; rintro e w3 ⟨rfl, hb3⟩; have hbb3 := bel_pa hbb2 hb3; clear hZ)
    | (refine at_dstL 41 rfl ?_; refine wpList_is (some 41) (.string (bs P)) rfl rfl (by rw [← E1.out]; exact run_add_str _ _ rfl _ _ rfl rfl (by show _ + 1 ≤ _; omega) _) ?_)
    | (refine at_dstL 43 rfl ?_; refine wpList_is (some 43) (.string (bs Z)) rfl rfl (by rw [← E2.out]; exact run_add_str _ _ rfl _ _ rfl rfl (by omega) _) ?_)
    | (go_at_call 7; refine (hal _ (hbb3.alloc hbb3.size _)).mono ?_; rintro e w4 ⟨rfl, hb4⟩))
  go_ret
  exact ⟨rfl, bel_pa hbb3 hb4⟩

set_option maxRecDepth 100000 in
set_option maxHeartbeats 4000000 in
theorem joined_ok (x y : List UInt8) (w : World) (ht : Tab w) (h : x.length + y.length ≤ 2000) {l ml m' : List Nd} (hn : Parse x = .ok (.mk wFile [] 0 0 l)) (hm : Parse y = .ok (.mk wFile [] 0 0 ml)) (hal2 : AL ml m') (hz : Parse (x ++ 10 :: y) = .ok (.mk wFile [] 0 0 (l ++ m'))) : Calls Tryd.prog 5 #[.string (bs x), .string (bs y)] w fun e w' => e = .returned (.bool true) ∧ Below w.heap.size w w' := by
  have sa := bs_size x
  have sb := bs_size y
  have hal := fun W (hb : Below w.heap.size w W) => alive_c W (ht.below hb)
  have h2 : ((bs x).size : Int) ≤ 2000 := by omega
  have h3 : ((bs y).size : Int) ≤ (2000 : Int) - ((bs x).size : Int) := by omega
  have h0 : (0 : Int) ≤ ((bs x).size : Int) := by omega
  have mx : x.length ≤ maxLen := by unfold maxLen; omega
  have my : y.length ≤ maxLen := by unfold maxLen; omega
  obtain ⟨P, hPe⟩ : ∃ P, P = x ++ [10] := ⟨_, rfl⟩
  obtain ⟨Z, hZe⟩ : ∃ Z, Z = P ++ y := ⟨_, rfl⟩
  have hPl : (bs P).size ≤ 2001 := by rw [bs_size, hPe]; simp; omega
  have hyl : (bs y).size ≤ 2000 := by omega
  have hxl : (bs x).size ≤ 2000 := by omega
  have mz : Z.length ≤ maxLen := by rw [hZe, hPe]; unfold maxLen; simp; omega
  have eZ : Z = x ++ 10 :: y := by rw [hZe, hPe]; simp
  rw [← eZ] at hz
  have E1 : Hid (bs x ++ (⟨#[10]⟩ : ByteArray) = bs P) := by show _ = _; rw [show (⟨#[10]⟩ : ByteArray) = bs [10] from rfl, bs_cat, ← hPe]
  have E2 : Hid (bs P ++ bs y = bs Z) := by show _ = _; rw [bs_cat, ← hZe]
  have sml1 := Parse_sml hn
  have sml2 := Parse_sml hm
  have sml3 := Parse_sml hz
  have sh1 : l.length ≤ 500 := Parse_short hn
  have sh2 : ml.length ≤ 500 := Parse_short hm
  have hX : Calls Tryd.prog 6 #[.string (bs x)] w fun e w' => ∃ A C, e = .returned (.tuple #[.agg #[.string ⟨#[102, 105, 108, 101]⟩, .string ⟨#[]⟩, .int .i64 0, .int .i64 0, .slice A l.length C], .int .i64 0, .int .i64 (-1)]) ∧ NdR w' (fun g => w.heap.size ≤ g) l (.slice A l.length C) ∧ Below w.heap.size w w' := parse_ok_c x w mx hn
  have hY : ∀ W, Calls Tryd.prog 6 #[.string (bs y)] W fun e w' => ∃ A C, e = .returned (.tuple #[.agg #[.string ⟨#[102, 105, 108, 101]⟩, .string ⟨#[]⟩, .int .i64 0, .int .i64 0, .slice A ml.length C], .int .i64 0, .int .i64 (-1)]) ∧ NdR w' (fun g => W.heap.size ≤ g) ml (.slice A ml.length C) ∧ Below W.heap.size W w' := fun W => parse_ok_c y W my hm
  have hZ : ∀ W, Calls Tryd.prog 6 #[.string (bs Z)] W fun e w' => ∃ A C, e = .returned (.tuple #[.agg #[.string ⟨#[102, 105, 108, 101]⟩, .string ⟨#[]⟩, .int .i64 0, .int .i64 0, .slice A (l ++ m').length C], .int .i64 0, .int .i64 (-1)]) ∧ NdR w' (fun g => W.heap.size ≤ g) (l ++ m') (.slice A (l ++ m').length C) ∧ Below W.heap.size W w' := fun W => parse_ok_c Z W mz hz
  have hlz : (l ++ m').length = (l ++ ml).length := by rw [List.length_append, List.length_append, hal2.len]
  obtain ⟨LZ, hLZ⟩ : ∃ LZ, LZ = (l ++ m').length := ⟨_, rfl⟩
  rw [← hLZ] at hZ
  have HLZ : Hid (LZ = (l ++ m').length) := hLZ
  obtain ⟨L1, hL1⟩ : ∃ L, L = l.length := ⟨_, rfl⟩
  rw [← hL1] at hX
  have HL1 : Hid (L1 = l.length) := hL1
  obtain ⟨L2, hL2⟩ : ∃ L, L = ml.length := ⟨_, rfl⟩
  rw [← hL2] at hY
  have HL2 : Hid (L2 = ml.length) := hL2
  clear hPe hZe hn hm hz eZ hLZ hL1 hL2 hlz
  go_enter Tryd.func5, Tryd.ntmps5
  go_wp2_with (first
    | (go_at_call 6; refine at_argP 0 (.string (bs x)) rfl ?_; refine hX.mono ?_; rintro e w1 ⟨A1, C1, rfl, hn1, hb1⟩; clear hX)
    | (go_at_call 6; refine at_argP 0 (.string (bs y)) rfl ?_; refine (hY _).mono ?_; rintro e w2 ⟨A2, C2, rfl, hn2, hb2⟩; have hbb2 := bel_pa hb1 hb2; clear hY)
    | (go_at_call 6; refine at_argP 0 (.string (bs Z)) rfl ?_; refine (hZ _).mono ?_; rintro e w3 ⟨A3, C3, rfl, hn3, hb3⟩; have hbb3 := bel_pa hbb2 hb3; clear hZ)
    | (refine at_dstL 41 rfl ?_; refine wpList_is (some 41) (.string (bs P)) rfl rfl (by rw [← E1.out]; exact run_add_str _ _ rfl _ _ rfl rfl (by show _ + 1 ≤ _; omega) _) ?_)
    | (refine at_dstL 43 rfl ?_; refine wpList_is (some 43) (.string (bs Z)) rfl rfl (by rw [← E2.out]; exact run_add_str _ _ rfl _ _ rfl rfl (by omega) _) ?_))
  obtain ⟨o1, ho1⟩ : ∃ o, o = Obj.cells #[.string ⟨#[102, 105, 108, 101]⟩, .string ⟨#[]⟩, .int .i64 0, .int .i64 0, .slice A1 L1 C1] 24 := ⟨_, rfl⟩
  obtain ⟨o2, ho2⟩ : ∃ o, o = Obj.cells #[.string ⟨#[102, 105, 108, 101]⟩, .string ⟨#[]⟩, .int .i64 0, .int .i64 0, .slice A2 L2 C2] 24 := ⟨_, rfl⟩
  have z2 : w1.heap.size + 1 ≤ w2.heap.size := by have := hb2.size; simpa using this
  have z3 : w2.heap.size + 1 ≤ w3.heap.size := by have := hb3.size; simpa using this
  obtain ⟨W0, hW0⟩ : ∃ W, W = (w3.alloc (.cells #[.string ⟨#[102, 105, 108, 101]⟩, .string ⟨#[]⟩, .int .i64 0, .int .i64 0, .slice A3 LZ C3] 24)).drew := ⟨_, rfl⟩
  have b30 : Below w3.heap.size w3 W0 := by rw [hW0]; exact below_drew (b_one _ _)
  have b20 : Below w2.heap.size w2 W0 := ((b_one w2 _).trans (hb3.mono (by simp))).trans (b30.mono (by omega))
  have b10 : Below w1.heap.size w1 W0 := ((b_one w1 _).trans (hb2.mono (by simp))).trans (b20.mono (by omega))
  have z0 : W0.heap.size = w3.heap.size + 1 := by rw [hW0]; show (w3.alloc _).heap.size = _; simp
  have H1 : Has W0 w1.heap.size 24 #[.string ⟨#[102, 105, 108, 101]⟩, .string ⟨#[]⟩, .int .i64 0, .int .i64 0, .slice A1 L1 C1] := (((Has.new w1 _ _).below hb2 (by simp))).below b20 (by omega)
  have H2 : Has W0 w2.heap.size 24 #[.string ⟨#[102, 105, 108, 101]⟩, .string ⟨#[]⟩, .int .i64 0, .int .i64 0, .slice A2 L2 C2] := ((Has.new w2 _ _).below hb3 (by simp)).below b30 (by omega)
  have H3 : Has W0 w3.heap.size 24 #[.string ⟨#[102, 105, 108, 101]⟩, .string ⟨#[]⟩, .int .i64 0, .int .i64 0, .slice A3 LZ C3] := by rw [hW0]; exact has_drew (Has.new w3 _ _)
  have K1 : NdR W0 (fun g => g ≠ w1.heap.size) l (.slice A1 L1 C1) := by rw [HL1.out]; rw [HL1.out] at hn1; exact (hn1.imp fun g _ hlt => by omega).grow b10
  have K2 : NdR W0 (fun g => g ≠ w1.heap.size) ml (.slice A2 L2 C2) := by
    rw [HL2.out]
    rw [HL2.out] at hn2
    exact (hn2.imp fun g hg _ => by have hg' : (w1.alloc _).heap.size ≤ g := hg; simp at hg'; omega).grow b20
  have K3 : NdR W0 (fun g => g ≠ w1.heap.size) (l ++ m') (.slice A3 LZ C3) := by
    rw [HLZ.out]
    rw [HLZ.out] at hn3
    exact (hn3.imp fun g hg _ => by have hg' : (w2.alloc _).heap.size ≤ g := hg; simp at hg'; omega).grow b30
  have bw0 : Below w.heap.size w W0 := hbb3.trans (b30.mono hbb3.size)
  clear hn1 hn2 hn3 ho1 ho2
  refine lastTo (S := fun W => Has W w1.heap.size 24 #[.string ⟨#[102, 105, 108, 101]⟩, .string ⟨#[]⟩, .int .i64 0, .int .i64 0, .slice A1 L1 C1] ∧ Has W w2.heap.size 24 #[.string ⟨#[102, 105, 108, 101]⟩, .string ⟨#[]⟩, .int .i64 0, .int .i64 0, .slice A2 L2 C2]) 8 (by kernel_rfl) (by rw [← hW0]; exact ⟨H1, H2⟩) (fun hHeld => ?_)
  rw [← hW0] at hHeld ⊢
  clear hW0
  refine takeL 1 (some 59) (.pointer (some ⟨w1.heap.size, 4, none⟩)) rfl rfl (by decide) (by kernel_rfl) (by kernel_rfl) (by kernel_rfl) (by kernel_rfl) (fun _ _ _ h => h) (by rfl) (fun _ _ => run_nodeField _ rfl _ rfl _) hHeld ?_
  simp only [Act.put, List.setIfInBounds_toArray, List.set_cons_zero, List.set_cons_succ]
  refine takeL 2 (some 60) (.slice A1 L1 C1) rfl rfl (by decide) (by kernel_rfl) (by kernel_rfl) (by kernel_rfl) (by kernel_rfl) (fun _ _ _ h => h) (by rfl) (fun wz hz => run_load_nodes _ rfl _ rfl _ _ (hz.1.cell 4)) hHeld ?_
  simp only [Act.put, List.setIfInBounds_toArray, List.set_cons_zero, List.set_cons_succ]
  refine takeL 4 (some 62) (.pointer (some ⟨w2.heap.size, 4, none⟩)) rfl rfl (by decide) (by kernel_rfl) (by kernel_rfl) (by kernel_rfl) (by kernel_rfl) (fun _ _ _ h => h) (by rfl) (fun _ _ => run_nodeField _ rfl _ rfl _) hHeld ?_
  simp only [Act.put, List.setIfInBounds_toArray, List.set_cons_zero, List.set_cons_succ]
  refine takeL 5 (some 63) (.slice A2 L2 C2) rfl rfl (by decide) (by kernel_rfl) (by kernel_rfl) (by kernel_rfl) (by kernel_rfl) (fun _ _ _ h => h) (by rfl) (fun wz hz => run_load_nodes _ rfl _ rfl _ _ (hz.2.cell 4)) hHeld ?_
  simp only [Act.put, List.setIfInBounds_toArray, List.set_cons_zero, List.set_cons_succ]
  refine valL 0 (some 58) (.slice (some ⟨W0.heap.size, 0, none⟩) 0 0) (W0.alloc (.cells #[] 24)) (by kernel_rfl) rfl rfl (by rfl) (by kernel_rfl) ⟨H1.alloc _, H2.alloc _⟩ ?_
  simp only [Act.put, List.setIfInBounds_toArray, List.set_cons_zero, List.set_cons_succ]
  have R0 := rowK_new W0 (fun g => g ≠ w1.heap.size)
  obtain ⟨v1, V1, run1, R1⟩ := run_append_cat (ty := 22) R0 K1 (by simp) (by omega)
  have G1 : Has V1 w1.heap.size 24 #[.string ⟨#[102, 105, 108, 101]⟩, .string ⟨#[]⟩, .int .i64 0, .int .i64 0, .slice A1 L1 C1] ∧ Has V1 w2.heap.size 24 #[.string ⟨#[102, 105, 108, 101]⟩, .string ⟨#[]⟩, .int .i64 0, .int .i64 0, .slice A2 L2 C2] := by
    obtain ⟨_, _, _, _, hb⟩ := R1
    exact ⟨H1.below hb H1.lt, H2.below hb H2.lt⟩
  refine valL 3 (some 61) v1 V1 (by kernel_rfl) rfl rfl (by rfl) (run_append_of _ _ rfl (.slice (some ⟨W0.heap.size, 0, none⟩) 0 0) (.slice A1 L1 C1) rfl rfl _ 22 (by rfl) run1) G1 ?_
  simp only [Act.put, List.setIfInBounds_toArray, List.set_cons_zero, List.set_cons_succ]
  rw [List.nil_append] at R1
  obtain ⟨v2, V2, run2, R2⟩ := run_append_cat (ty := 22) R1 K2 (by omega) (by omega)
  obtain ⟨A5, C5, rfl⟩ := R2.slice
  have hb2' : Below W0.heap.size W0 V2 := by obtain ⟨_, _, _, _, hb⟩ := R2; exact hb
  have G2 : Has V2 w1.heap.size 24 #[.string ⟨#[102, 105, 108, 101]⟩, .string ⟨#[]⟩, .int .i64 0, .int .i64 0, .slice A1 L1 C1] ∧ Has V2 w2.heap.size 24 #[.string ⟨#[102, 105, 108, 101]⟩, .string ⟨#[]⟩, .int .i64 0, .int .i64 0, .slice A2 L2 C2] := ⟨H1.below hb2' H1.lt, H2.below hb2' H2.lt⟩
  refine valL 6 (some 64) (.slice A5 (l ++ ml).length C5) V2 (by kernel_rfl) rfl rfl (by rfl) (run_append_of _ _ rfl v1 (.slice A2 L2 C2) rfl rfl _ 22 (by rfl) run2) G2 ?_
  simp only [Act.put, List.setIfInBounds_toArray, List.set_cons_zero, List.set_cons_succ]
  refine takeL 7 (some 65) (.pointer (some ⟨w1.heap.size, 4, none⟩)) rfl rfl (by decide) (by kernel_rfl) (by kernel_rfl) (by kernel_rfl) (by kernel_rfl) (fun _ _ _ h => h) (by rfl) (fun _ _ => run_nodeField _ rfl _ rfl _) G2 ?_
  simp only [Act.put, List.setIfInBounds_toArray, List.set_cons_zero, List.set_cons_succ]
  refine lastSkip 8 none (V2.setCell ⟨w1.heap.size, 4, none⟩ (.slice A5 (l ++ ml).length C5)) (by kernel_rfl) rfl rfl (by rfl) (run_store_nodes _ _ rfl _ rfl _ _ _ rfl _ _ (G2.1.cell 4) (G2.1.free 4)) (by kernel_rfl) ?_
  obtain ⟨W5, hW5⟩ : ∃ W, W = V2.setCell ⟨w1.heap.size, 4, none⟩ (.slice A5 (l ++ ml).length C5) := ⟨_, rfl⟩
  have keep : ∀ g o, g ≠ w1.heap.size → W0.heap[g]? = some o → W5.heap[g]? = some o := by
    intro g o hg ho
    rw [hW5]
    exact (Below.heap_setCell V2 _ _ g hg).trans ((hb2'.block g (Array.getElem?_eq_some_iff.1 ho).1).trans ho)
  have D2 : NdR W5 (fun _ => True) (l ++ ml) (.slice A5 (l ++ ml).length C5) := R2.done keep (fun g o hg ho => by
    rw [hW5]
    exact (Below.heap_setCell V2 _ _ g (by show g ≠ w1.heap.size; omega)).trans ho)
  have D3 : NdR W5 (fun g => g ≠ w1.heap.size) (l ++ m') (.slice A3 LZ C3) := K3.keep keep
  have J1 : Has W5 w1.heap.size 24 #[.string ⟨#[102, 105, 108, 101]⟩, .string ⟨#[]⟩, .int .i64 0, .int .i64 0, .slice A5 (l ++ ml).length C5] := by rw [hW5]; exact G2.1.putP 4 _
  have J3 : Has W5 w3.heap.size 24 #[.string ⟨#[102, 105, 108, 101]⟩, .string ⟨#[]⟩, .int .i64 0, .int .i64 0, .slice A3 LZ C3] := keep _ _ (by omega) H3
  have bw5 : Below w.heap.size w W5 := by
    rw [hW5]
    exact (bw0.trans (hb2'.mono bw0.size)).setCell (by show w.heap.size ≤ w1.heap.size; exact hb1.size) _
  rw [← hW5]
  have sm1 := sml1.l
  have sm2 := sml2.l
  simp only [Nd.l] at sm1 sm2
  have smlC : Sml (.mk wFile [] 0 0 (l ++ ml)) := .mk _ _ _ _ _ (by decide) (by decide) (SmlL.append sm1 sm2)
  have X3 : RdN W5 (.mk wFile [] 0 0 (l ++ m')) A3 C3 := by rw [HLZ.out] at D3; exact NdR.node (n := .mk wFile [] 0 0 (l ++ m')) D3 sml3
  have X1 : RdN W5 (.mk wFile [] 0 0 (l ++ ml)) A5 C5 := NdR.node (n := .mk wFile [] 0 0 (l ++ ml)) D2 smlC
  have hlike : Alike (.mk wFile [] 0 0 (l ++ m')) (.mk wFile [] 0 0 (l ++ ml)) := Alike.of ((AL.refl sm1).append hal2.symm)
  have hsame := same_c hlike W5 A3 A5 C3 C5 X3 X1
  have hsame : Calls Tryd.prog 10 #[.agg #[.string ⟨#[102, 105, 108, 101]⟩, .string ⟨#[]⟩, .int .i64 0, .int .i64 0, .slice A3 LZ C3], .agg #[.string ⟨#[102, 105, 108, 101]⟩, .string ⟨#[]⟩, .int .i64 0, .int .i64 0, .slice A5 (l ++ ml).length C5], .bool false] W5 (Yes W5 true) := by rw [HLZ.out]; exact hsame
  have p0 := J3.cell 0
  have p1 := J3.cell 1
  have p2 := J3.cell 2
  have p3 := J3.cell 3
  have p4 := J3.cell 4
  have q0 := J1.cell 0
  have q1 := J1.cell 1
  have q2 := J1.cell 2
  have q3 := J1.cell 3
  have q4 := J1.cell 4
  generalize (l ++ ml).length = LC at hsame q4 ⊢
  clear hW5 keep D2 D3 X1 X3 hlike smlC sm1 sm2 J1 J3 R0 R1 R2 run1 run2 K1 K2 K3 G1 G2 H1 H2 H3 hHeld sml1 sml2 sml3 hal2
  go_wp2_with (first
    | (go_at_call 10; refine hsame.mono ?_; rintro e w6 ⟨rfl, hb6⟩; have bw6 := bw5.trans (hb6.mono bw5.size))
    | (go_at_call 7; refine (hal _ bw6).mono ?_; rintro e w7 ⟨rfl, hb7⟩))
  go_ret
  exact ⟨rfl, bw6.trans (hb7.mono bw6.size)⟩

theorem joined_walk (x y : List UInt8) (w : World) (hx : x.length ≤ maxLen) (hy : y.length ≤ maxLen) (ht : Tab w) : Calls Tryd.prog 5 #[.string (bs x), .string (bs y)] w fun e w' => e = .returned (.bool true) ∧ Below w.heap.size w w' := by
  by_cases h : 2000 < x.length ∨ 2000 < x.length + y.length
  · exact joined_far x y w hx hy ht h
  · have h' : x.length + y.length ≤ 2000 := by omega
    cases hP : Parse x with
    | error r => obtain ⟨c, k⟩ := r; exact joined_errs x y w ht h' (.inl ⟨c, k, hP⟩)
    | ok n =>
      cases hQ : Parse y with
      | error r => obtain ⟨c, k⟩ := r; exact joined_errs x y w ht h' (.inr ⟨⟨n, hP⟩, c, k, hQ⟩)
      | ok m =>
        rcases Parse_joined hP hQ with ⟨o, ho⟩ | ⟨l, m', e1, hal, hz⟩
        · exact joined_many x y w ht h' hP hQ ho
        · obtain ⟨_, ml, _, _, e2⟩ := Parse_ok hQ
          subst e1 e2
          exact joined_ok x y w ht h' hP hQ hal hz
end Go.Proofs.YtljplpmjapdegaaDoor
