/- The reference's Print. -/
import Derived.Test.YtpckmllmjdafpaaGreatDoorPrText
namespace Go.Proofs.YtpckmllmjdafpaaGreatDoor
open Go.ChangeShapes Go.WideShapes Go.ChangeAt Go.RowKit
set_option linter.unusedVariables false

/-- What a line of the reference's may be of. -/
structure LnR (n : Nd) : Prop where
  op : n.op = wDevice ∨ n.op = wJournal ∨ n.op = wKey ∨ n.op = wRoot ∨ n.op = wVolume ∨ n.op = wExport
  num : (n.op = wDevice ∨ n.op = wJournal) → numOk n.n = true
  hex : (n.op = wKey ∨ n.op = wRoot) → n.l.length = 1 ∧ (nth n.l 0).op = wHex
  vol : n.op = wVolume → n.l.length = 1 ∧ TxR 13 (nth n.l 0) ∧ Few 13 (nth n.l 0)

set_option maxRecDepth 100000 in
set_option maxHeartbeats 2000000 in
theorem rtext_hex (n : Nd) (A : Option Addr) (C : Nat) (w : World) (ho : n.op = wHex) (hz : n.s.length ≤ 1000000000) : Calls Tryz.prog 15 #[nval n A C] w fun e w' => e = .returned (.string (bs (36 :: n.s))) ∧ Below w.heap.size w w' := by
  have hot := bs_toList n.op
  have f0 : (n.op == [117, 115, 101]) = false := by rw [ho]; decide
  have f1 : (n.op == [110, 97, 109, 101]) = false := by rw [ho]; decide
  have f2 : (n.op == [110, 117, 109]) = false := by rw [ho]; decide
  have f3 : (n.op == [104, 101, 120]) = true := by rw [ho]; decide
  have hsz : (bs n.s).size ≤ 1000000000 := by rw [bs_size]; exact hz
  have E21 : Hid ((⟨#[36]⟩ : ByteArray) ++ bs n.s = bs (36 :: n.s)) := (by rw [show (⟨#[36]⟩ : ByteArray) = bs [36] from rfl, bs_cat]; rfl : (⟨#[36]⟩ : ByteArray) ++ bs n.s = bs (36 :: n.s))
  unfold nval
  generalize n.l.length = L at *
  clear ho hz
  go_enter Tryz.func15, Tryz.ntmps15
  go_wp2_with (first
    | (refine at_dstL 21 rfl ?_; refine wpList_is (some 21) (.string (bs (36 :: n.s))) rfl rfl (by rw [← E21.out]; exact run_add_str _ _ rfl _ _ rfl rfl (by show 1 + _ ≤ _; omega) _) ?_))
  go_ret
  exact ⟨rfl, b_one _ _⟩

/-- The first k lines. -/
def pn (l : List Nd) (k : Nat) : List UInt8 := (l.take k).flatMap lineS

theorem pn_succ (l : List Nd) (k : Nat) (h : k < l.length) : pn l (k + 1) = pn l k ++ lineS (nth l k) := by
  unfold pn
  rw [List.take_succ_eq_append_getElem h, List.flatMap_append, nth_get h]
  simp

theorem pn_le (l : List Nd) (k : Nat) : (pn l k).length ≤ (l.flatMap lineS).length := by
  unfold pn
  conv => rhs; rw [← List.take_append_drop k l, List.flatMap_append, List.length_append]
  omega

theorem rprint_no (n : Nd) (A : Option Addr) (C : Nat) (w : World) (h : RdN w n A C) (hR : Right n = false) : Calls Tryz.prog 7 #[nval n A C] w fun e w' => e = .returned (.tuple #[.string ⟨#[]⟩, .int .i64 111]) ∧ Below w.heap.size w w' := by
  have hrt := fun W hW => rright_c n A C W (h.grow hW)
  rw [hR] at hrt
  unfold nval at *
  clear hR
  go_enter Tryz.func7, Tryz.ntmps7
  go_wp2_with (first
    | ((go_at_call 9)
       (refine (hrt _ (b_one _ _)).mono ?_)
       (rintro e w1 ⟨rfl, hb1⟩)))
  go_ret2
  exact ⟨rfl, bel_pa0 hb1⟩

set_option maxRecDepth 100000 in
set_option maxHeartbeats 8000000 in
theorem rprint_ok (n : Nd) (A : Option Addr) (C : Nat) (w : World) (h : RdN w n A C) (hR : Right n = true) (hk : ∀ x ∈ n.l, LnR x) (hz : (printed n).length ≤ 1000000000) : Calls Tryz.prog 7 #[nval n A C] w fun e w' => e = .returned (.tuple #[.string (bs (printed n)), .int .i64 0]) ∧ Below w.heap.size w w' := by
  have hrt := fun W hW => rright_c n A C W (h.grow hW)
  rw [hR] at hrt
  have hlen := h.len
  have hpa := fun hpos => parts_at h hpos
  have hpr : printed n = pn n.l n.l.length := by unfold pn printed; rw [List.take_length]
  have hple : ∀ k, (pn n.l k).length ≤ 1000000000 := fun k => by have := pn_le n.l k; unfold printed at hz; omega
  unfold nval at *
  rw [hpr]
  obtain ⟨L, hL⟩ : ∃ L, L = n.l.length := ⟨_, rfl⟩
  rw [← hL] at hrt hlen hpa ⊢
  have hLm : L ≤ 9223372036854775807 := by omega
  obtain ⟨V0, hV0⟩ : ∃ V, V = w.alloc (.cells #[.string (bs n.op), .string (bs n.s), .int .i64 n.n, .int .i64 n.a, .slice A L C] 24) := ⟨_, rfl⟩
  have hbV : Below w.heap.size w V0 := by rw [hV0]; exact b_one _ _
  have hVs : V0.heap.size = w.heap.size + 1 := by rw [hV0]; simp
  have HB : Hid (∀ W, Below V0.heap.size V0 W → Has W w.heap.size 24 #[.string (bs n.op), .string (bs n.s), .int .i64 n.n, .int .i64 n.a, .slice A L C]) := fun W hW => Has.below (by rw [hV0]; exact Has.new _ _ _) hW (by omega)
  have hc := hrt V0 hbV
  have HPS : Hid (∀ k, k < L → pn n.l (k + 1) = pn n.l k ++ lineS (nth n.l k)) := fun k a => pn_succ n.l k (by omega)
  have HLN : Hid (∀ k, k < L → LnR (nth n.l k)) := fun k a => hk _ (by rw [nth_get (by omega)]; exact List.getElem_mem _)
  have HPL : Hid (∀ k, (pn n.l k).length ≤ 1000000000) := hple
  clear hR hrt hpr hple hz hk h hL hlen
  go_enter Tryz.func7, Tryz.ntmps7
  go_wp2_with (first
    | ((go_at_call 9)
       (rw [← hV0])
       (refine hc.mono ?_)
       (rintro e w1 ⟨rfl, hb1⟩)))
  go_loopw [5, 6] (fun s i wr => ∃ k : Nat, k ≤ L ∧ i = .int .i64 k ∧ Below V0.heap.size V0 wr ∧ s = .string (bs (pn n.l k))) (fun _ i _ => L - (intOf i).toNat)
  case atStart => exact ⟨0, Nat.zero_le _, rfl, hb1, rfl⟩
  case round =>
    obtain ⟨k, hkk, rfl, bz, rfl⟩ := hrel
    obtain ⟨p0, p1, p2, p3, p4⟩ := five (HB.out _ bz)
    have hszr := bz.size
    by_cases hlt : k < L
    · obtain ⟨g, off, Au, Cu, rfl, hg, hat⟩ := hpa (by omega)
      obtain ⟨q1, q2⟩ := hat k hlt
      have hX := (q2.grow hbV).grow bz
      have hq : ∀ (o : Oper) (a : Act) (x : Operand), o.op = .load 24 x → a.eval x = .pointer (some ⟨g, off + k * 5, none⟩) → (execOp a.eval o).run Tryz.prog wr = .ok (.value (nval (nth n.l k) (Au k) (Cu k))) wr := fun o a x h1 h2 => run_load_nd x h1 g _ h2 wr ((q1.grow hbV hg).grow bz (by omega))
      have hpk := HPS.out k hlt
      have hln := HLN.out k hlt
      have hPl := HPL.out (k + 1)
      have hPk := HPL.out k
      rw [hpk] at hPl
      unfold nval at hq
      generalize Au k = AX at hX hq
      generalize Cu k = CX at hX hq
      generalize nth n.l k = X at hX hq hpk hln hPl
      obtain ⟨LX, hLX⟩ : ∃ LX, LX = X.l.length := ⟨_, rfl⟩
      rw [← hLX] at hq
      have HLX : Hid (LX = X.l.length) := hLX
      have hlX := hX.len
      have hLXm : LX ≤ 9223372036854775807 := by omega
      have HQ : Hid _ := hq
      have hot := bs_toList X.op
      obtain ⟨S, hS⟩ : ∃ S, S = pn n.l k := ⟨_, rfl⟩
      rw [← hS] at hpk hPl hPk ⊢
      have zS : (bs S).size ≤ 2000000000 := by rw [bs_size]; omega
      have zo : (bs X.op).size ≤ 2000000000 := by rw [bs_size]; unfold lineS at hPl; simp only [List.length_append] at hPl; omega
      have zs : (bs X.s).size ≤ 2000000000 := by rw [bs_size]; unfold lineS at hPl; simp only [List.length_append] at hPl; omega
      clear hq hpa hat q1 q2 hS hLX hlX
      rcases hln.op with ho | ho | ho | ho | ho | ho
      · skip
        have f0 : (X.op == [100, 101, 118, 105, 99, 101]) = true := by rw [ho]; decide
        have f1 : (X.op == [106, 111, 117, 114, 110, 97, 108]) = false := by rw [ho]; decide
        have f2 : (X.op == [107, 101, 121]) = false := by rw [ho]; decide
        have f3 : (X.op == [114, 111, 111, 116]) = false := by rw [ho]; decide
        have f4 : (X.op == [118, 111, 108, 117, 109, 101]) = false := by rw [ho]; decide
        have f5 : (X.op == [101, 120, 112, 111, 114, 116]) = false := by rw [ho]; decide
        obtain ⟨S1, hS1⟩ : ∃ Sx, Sx = S ++ X.op := ⟨_, rfl⟩
        obtain ⟨S2, hS2⟩ : ∃ Sx, Sx = S1 ++ [32] := ⟨_, rfl⟩
        obtain ⟨S3, hS3⟩ : ∃ Sx, Sx = S2 ++ X.s := ⟨_, rfl⟩
        have E27 : Hid (bs S ++ bs X.op = bs S1) := (by rw [bs_cat, hS1] : bs S ++ bs X.op = bs S1)
        have E28 : Hid (bs S1 ++ (⟨#[32]⟩ : ByteArray) = bs S2) := (by rw [show (⟨#[32]⟩ : ByteArray) = bs [32] from rfl, bs_cat, hS2] : bs S1 ++ (⟨#[32]⟩ : ByteArray) = bs S2)
        have E31 : Hid (bs S2 ++ bs X.s = bs S3) := (by rw [bs_cat, hS3] : bs S2 ++ bs X.s = bs S3)
        obtain ⟨S4, hS4⟩ : ∃ Sx, Sx = S3 ++ [32] := ⟨_, rfl⟩
        have E38 : Hid (bs S3 ++ (⟨#[32]⟩ : ByteArray) = bs S4) := (by rw [show (⟨#[32]⟩ : ByteArray) = bs [32] from rfl, bs_cat, hS4] : bs S3 ++ (⟨#[32]⟩ : ByteArray) = bs S4)
        obtain ⟨T, hT⟩ : ∃ Sx, Sx = Lib.itoa X.n := ⟨_, rfl⟩
        obtain ⟨S5, hS5⟩ : ∃ Sx, Sx = S4 ++ T := ⟨_, rfl⟩
        have E42 : Hid (bs S4 ++ bs T = bs S5) := (by rw [bs_cat, hS5] : bs S4 ++ bs T = bs S5)
        have hno : 0 ≤ X.n ∧ X.n ≤ 999999999 := by have := hln.num (.inl ho); unfold numOk at this; simpa using this
        have hd : ∀ W, Calls Tryz.prog 14 #[.int .i64 X.n] W fun e w' => e = .returned (.string (bs T)) ∧ w' = W := fun W => by
          obtain ⟨M, hM⟩ : ∃ M : Nat, X.n = M := ⟨X.n.toNat, by omega⟩
          have := rdigits_c M (by omega) W
          rw [hT, hM, itoa_dg]
          exact this
        have hline : S ++ lineS X = S5 ++ [59, 10] := by
          have : lineR X = 32 :: Lib.itoa X.n := if_pos (.inl ho)
          rw [hS5, hS4, hS3, hS2, hS1, hT]; unfold lineS; rw [this]; simp
        obtain ⟨S9, hS9⟩ : ∃ Sx, Sx = S5 ++ [59, 10] := ⟨_, rfl⟩
        have E72 : Hid (bs S5 ++ (⟨#[59, 10]⟩ : ByteArray) = bs S9) := (by rw [show (⟨#[59, 10]⟩ : ByteArray) = bs [59, 10] from rfl, bs_cat, hS9] : bs S5 ++ (⟨#[59, 10]⟩ : ByteArray) = bs S9)
        have lS1 := congrArg List.length hS1
        simp only [List.length_append] at lS1
        have lS2 := congrArg List.length hS2
        simp only [List.length_append, List.length_cons, List.length_nil] at lS2
        have lS3 := congrArg List.length hS3
        simp only [List.length_append] at lS3
        have lS4 := congrArg List.length hS4
        simp only [List.length_append, List.length_cons, List.length_nil] at lS4
        have lS5 := congrArg List.length hS5
        simp only [List.length_append] at lS5
        have lS9 := congrArg List.length hS9
        simp only [List.length_append, List.length_cons, List.length_nil] at lS9
        have HP : Hid (pn n.l (k + 1) = S9) := (by rw [hpk, hline, hS9] : pn n.l (k + 1) = S9)
        have hl9 : S9.length ≤ 1000000000 := by rw [hS9, ← hline]; exact hPl
        have zS1 : (bs S1).size ≤ 2000000000 := by rw [bs_size]; omega
        have zS2 : (bs S2).size ≤ 2000000000 := by rw [bs_size]; omega
        have zS3 : (bs S3).size ≤ 2000000000 := by rw [bs_size]; omega
        have zS4 : (bs S4).size ≤ 2000000000 := by rw [bs_size]; omega
        have zT : (bs T).size ≤ 2000000000 := by rw [bs_size]; omega
        have zS5 : (bs S5).size ≤ 2000000000 := by rw [bs_size]; omega
        clear hS1 lS1 hS2 lS2 hS3 lS3 hS4 lS4 hS5 lS5 hS9 lS9 hT hline hpk ho hln hX hPl
        go_wp2_with (first
          | (refine at_dstL 22 rfl ?_; refine wpList_is (some 22) (.pointer (some ⟨g, off + k * 5, none⟩)) rfl (by rfl) (run_at_nd _ _ rfl g off k _ C rfl rfl (by omega) _) ?_)
          | (refine at_dstL 23 rfl ?_; refine wpList_is (some 23) (.agg #[.string (bs X.op), .string (bs X.s), .int .i64 X.n, .int .i64 X.a, .slice AX LX CX]) rfl (by rfl) (HQ.out _ _ _ rfl rfl) ?_)
          | (refine at_dstL 27 rfl ?_; refine wpList_is (some 27) (.string (bs S1)) rfl rfl (by rw [← E27.out]; exact run_add_str _ _ rfl _ _ rfl rfl (by omega) _) ?_)
          | (refine at_dstL 28 rfl ?_; refine wpList_is (some 28) (.string (bs S2)) rfl rfl (by rw [← E28.out]; exact run_add_str _ _ rfl _ _ rfl rfl (by show _ + 1 ≤ _; omega) _) ?_)
          | (refine at_dstL 31 rfl ?_; refine wpList_is (some 31) (.string (bs S3)) rfl rfl (by rw [← E31.out]; exact run_add_str _ _ rfl _ _ rfl rfl (by omega) _) ?_)
          | (refine at_dstL 38 rfl ?_; refine wpList_is (some 38) (.string (bs S4)) rfl rfl (by rw [← E38.out]; exact run_add_str _ _ rfl _ _ rfl rfl (by show _ + 1 ≤ _; omega) _) ?_)
          | ((go_at_call 14)
             (refine (hd _).mono ?_)
             (rintro e w2 ⟨rfl, rfl⟩))
          | (refine at_dstL 42 rfl ?_; refine wpList_is (some 42) (.string (bs S5)) rfl rfl (by rw [← E42.out]; exact run_add_str _ _ rfl _ _ rfl rfl (by omega) _) ?_)
          | (refine at_dstL 72 rfl ?_; refine wpList_is (some 72) (.string (bs S9)) rfl rfl (by rw [← E72.out]; exact run_add_str _ _ rfl _ _ rfl rfl (by show _ + 2 ≤ _; omega) _) ?_))
        go_roundw
        case rel => exact ⟨k + 1, hlt, by go_num, (bz.alloc (by have := bz.size; omega) _), by rw [HP.out]⟩
        case measure => simp [intOf]; omega
      · skip
        have f0 : (X.op == [100, 101, 118, 105, 99, 101]) = false := by rw [ho]; decide
        have f1 : (X.op == [106, 111, 117, 114, 110, 97, 108]) = true := by rw [ho]; decide
        have f2 : (X.op == [107, 101, 121]) = false := by rw [ho]; decide
        have f3 : (X.op == [114, 111, 111, 116]) = false := by rw [ho]; decide
        have f4 : (X.op == [118, 111, 108, 117, 109, 101]) = false := by rw [ho]; decide
        have f5 : (X.op == [101, 120, 112, 111, 114, 116]) = false := by rw [ho]; decide
        obtain ⟨S1, hS1⟩ : ∃ Sx, Sx = S ++ X.op := ⟨_, rfl⟩
        obtain ⟨S2, hS2⟩ : ∃ Sx, Sx = S1 ++ [32] := ⟨_, rfl⟩
        obtain ⟨S3, hS3⟩ : ∃ Sx, Sx = S2 ++ X.s := ⟨_, rfl⟩
        have E27 : Hid (bs S ++ bs X.op = bs S1) := (by rw [bs_cat, hS1] : bs S ++ bs X.op = bs S1)
        have E28 : Hid (bs S1 ++ (⟨#[32]⟩ : ByteArray) = bs S2) := (by rw [show (⟨#[32]⟩ : ByteArray) = bs [32] from rfl, bs_cat, hS2] : bs S1 ++ (⟨#[32]⟩ : ByteArray) = bs S2)
        have E31 : Hid (bs S2 ++ bs X.s = bs S3) := (by rw [bs_cat, hS3] : bs S2 ++ bs X.s = bs S3)
        obtain ⟨S4, hS4⟩ : ∃ Sx, Sx = S3 ++ [32] := ⟨_, rfl⟩
        have E38 : Hid (bs S3 ++ (⟨#[32]⟩ : ByteArray) = bs S4) := (by rw [show (⟨#[32]⟩ : ByteArray) = bs [32] from rfl, bs_cat, hS4] : bs S3 ++ (⟨#[32]⟩ : ByteArray) = bs S4)
        obtain ⟨T, hT⟩ : ∃ Sx, Sx = Lib.itoa X.n := ⟨_, rfl⟩
        obtain ⟨S5, hS5⟩ : ∃ Sx, Sx = S4 ++ T := ⟨_, rfl⟩
        have E42 : Hid (bs S4 ++ bs T = bs S5) := (by rw [bs_cat, hS5] : bs S4 ++ bs T = bs S5)
        have hno : 0 ≤ X.n ∧ X.n ≤ 999999999 := by have := hln.num (.inr ho); unfold numOk at this; simpa using this
        have hd : ∀ W, Calls Tryz.prog 14 #[.int .i64 X.n] W fun e w' => e = .returned (.string (bs T)) ∧ w' = W := fun W => by
          obtain ⟨M, hM⟩ : ∃ M : Nat, X.n = M := ⟨X.n.toNat, by omega⟩
          have := rdigits_c M (by omega) W
          rw [hT, hM, itoa_dg]
          exact this
        have hline : S ++ lineS X = S5 ++ [59, 10] := by
          have : lineR X = 32 :: Lib.itoa X.n := if_pos (.inr ho)
          rw [hS5, hS4, hS3, hS2, hS1, hT]; unfold lineS; rw [this]; simp
        obtain ⟨S9, hS9⟩ : ∃ Sx, Sx = S5 ++ [59, 10] := ⟨_, rfl⟩
        have E72 : Hid (bs S5 ++ (⟨#[59, 10]⟩ : ByteArray) = bs S9) := (by rw [show (⟨#[59, 10]⟩ : ByteArray) = bs [59, 10] from rfl, bs_cat, hS9] : bs S5 ++ (⟨#[59, 10]⟩ : ByteArray) = bs S9)
        have lS1 := congrArg List.length hS1
        simp only [List.length_append] at lS1
        have lS2 := congrArg List.length hS2
        simp only [List.length_append, List.length_cons, List.length_nil] at lS2
        have lS3 := congrArg List.length hS3
        simp only [List.length_append] at lS3
        have lS4 := congrArg List.length hS4
        simp only [List.length_append, List.length_cons, List.length_nil] at lS4
        have lS5 := congrArg List.length hS5
        simp only [List.length_append] at lS5
        have lS9 := congrArg List.length hS9
        simp only [List.length_append, List.length_cons, List.length_nil] at lS9
        have HP : Hid (pn n.l (k + 1) = S9) := (by rw [hpk, hline, hS9] : pn n.l (k + 1) = S9)
        have hl9 : S9.length ≤ 1000000000 := by rw [hS9, ← hline]; exact hPl
        have zS1 : (bs S1).size ≤ 2000000000 := by rw [bs_size]; omega
        have zS2 : (bs S2).size ≤ 2000000000 := by rw [bs_size]; omega
        have zS3 : (bs S3).size ≤ 2000000000 := by rw [bs_size]; omega
        have zS4 : (bs S4).size ≤ 2000000000 := by rw [bs_size]; omega
        have zT : (bs T).size ≤ 2000000000 := by rw [bs_size]; omega
        have zS5 : (bs S5).size ≤ 2000000000 := by rw [bs_size]; omega
        clear hS1 lS1 hS2 lS2 hS3 lS3 hS4 lS4 hS5 lS5 hS9 lS9 hT hline hpk ho hln hX hPl
        go_wp2_with (first
          | (refine at_dstL 22 rfl ?_; refine wpList_is (some 22) (.pointer (some ⟨g, off + k * 5, none⟩)) rfl (by rfl) (run_at_nd _ _ rfl g off k _ C rfl rfl (by omega) _) ?_)
          | (refine at_dstL 23 rfl ?_; refine wpList_is (some 23) (.agg #[.string (bs X.op), .string (bs X.s), .int .i64 X.n, .int .i64 X.a, .slice AX LX CX]) rfl (by rfl) (HQ.out _ _ _ rfl rfl) ?_)
          | (refine at_dstL 27 rfl ?_; refine wpList_is (some 27) (.string (bs S1)) rfl rfl (by rw [← E27.out]; exact run_add_str _ _ rfl _ _ rfl rfl (by omega) _) ?_)
          | (refine at_dstL 28 rfl ?_; refine wpList_is (some 28) (.string (bs S2)) rfl rfl (by rw [← E28.out]; exact run_add_str _ _ rfl _ _ rfl rfl (by show _ + 1 ≤ _; omega) _) ?_)
          | (refine at_dstL 31 rfl ?_; refine wpList_is (some 31) (.string (bs S3)) rfl rfl (by rw [← E31.out]; exact run_add_str _ _ rfl _ _ rfl rfl (by omega) _) ?_)
          | (refine at_dstL 38 rfl ?_; refine wpList_is (some 38) (.string (bs S4)) rfl rfl (by rw [← E38.out]; exact run_add_str _ _ rfl _ _ rfl rfl (by show _ + 1 ≤ _; omega) _) ?_)
          | ((go_at_call 14)
             (refine (hd _).mono ?_)
             (rintro e w2 ⟨rfl, rfl⟩))
          | (refine at_dstL 42 rfl ?_; refine wpList_is (some 42) (.string (bs S5)) rfl rfl (by rw [← E42.out]; exact run_add_str _ _ rfl _ _ rfl rfl (by omega) _) ?_)
          | (refine at_dstL 72 rfl ?_; refine wpList_is (some 72) (.string (bs S9)) rfl rfl (by rw [← E72.out]; exact run_add_str _ _ rfl _ _ rfl rfl (by show _ + 2 ≤ _; omega) _) ?_))
        go_roundw
        case rel => exact ⟨k + 1, hlt, by go_num, (bz.alloc (by have := bz.size; omega) _), by rw [HP.out]⟩
        case measure => simp [intOf]; omega
      · skip
        have f0 : (X.op == [100, 101, 118, 105, 99, 101]) = false := by rw [ho]; decide
        have f1 : (X.op == [106, 111, 117, 114, 110, 97, 108]) = false := by rw [ho]; decide
        have f2 : (X.op == [107, 101, 121]) = true := by rw [ho]; decide
        have f3 : (X.op == [114, 111, 111, 116]) = false := by rw [ho]; decide
        have f4 : (X.op == [118, 111, 108, 117, 109, 101]) = false := by rw [ho]; decide
        have f5 : (X.op == [101, 120, 112, 111, 114, 116]) = false := by rw [ho]; decide
        obtain ⟨S1, hS1⟩ : ∃ Sx, Sx = S ++ X.op := ⟨_, rfl⟩
        obtain ⟨S2, hS2⟩ : ∃ Sx, Sx = S1 ++ [32] := ⟨_, rfl⟩
        obtain ⟨S3, hS3⟩ : ∃ Sx, Sx = S2 ++ X.s := ⟨_, rfl⟩
        have E27 : Hid (bs S ++ bs X.op = bs S1) := (by rw [bs_cat, hS1] : bs S ++ bs X.op = bs S1)
        have E28 : Hid (bs S1 ++ (⟨#[32]⟩ : ByteArray) = bs S2) := (by rw [show (⟨#[32]⟩ : ByteArray) = bs [32] from rfl, bs_cat, hS2] : bs S1 ++ (⟨#[32]⟩ : ByteArray) = bs S2)
        have E31 : Hid (bs S2 ++ bs X.s = bs S3) := (by rw [bs_cat, hS3] : bs S2 ++ bs X.s = bs S3)
        obtain ⟨S4, hS4⟩ : ∃ Sx, Sx = S3 ++ [32] := ⟨_, rfl⟩
        have E38 : Hid (bs S3 ++ (⟨#[32]⟩ : ByteArray) = bs S4) := (by rw [show (⟨#[32]⟩ : ByteArray) = bs [32] from rfl, bs_cat, hS4] : bs S3 ++ (⟨#[32]⟩ : ByteArray) = bs S4)
        obtain ⟨T, hT⟩ : ∃ Sx, Sx = 36 :: (nth X.l 0).s := ⟨_, rfl⟩
        obtain ⟨S5, hS5⟩ : ∃ Sx, Sx = S4 ++ T := ⟨_, rfl⟩
        have E42 : Hid (bs S4 ++ bs T = bs S5) := (by rw [bs_cat, hS5] : bs S4 ++ bs T = bs S5)
        obtain ⟨hx1, hx2⟩ := hln.hex (.inl ho)
        have hline : S ++ lineS X = S5 ++ [59, 10] := by
          have : lineR X = [32, 36] ++ (nth X.l 0).s := (if_neg (by rw [ho]; decide)).trans (if_pos (.inl ho))
          rw [hS5, hS4, hS3, hS2, hS1, hT]; unfold lineS; rw [this]; simp
        obtain ⟨g2, off2, Av, Cv, rfl, hg2, hat2⟩ := parts_at hX (by omega)
        obtain ⟨r1, r2⟩ := hat2 0 (by omega)
        rw [hx1] at HLX
        have hlx1 : LX = 1 := HLX.out
        have hTl : T.length ≤ 1000000000 := by
          have := congrArg List.length hline
          rw [hS5] at this
          simp only [List.length_append] at this hPl
          omega
        have HT : Hid (∀ W, Below wr.heap.size wr W → Calls Tryz.prog 15 #[nval (nth X.l 0) (Av 0) (Cv 0)] W fun e w' => e = .returned (.string (bs T)) ∧ Below W.heap.size W w') := fun W hW => by
          rw [hT]
          exact rtext_hex (nth X.l 0) (Av 0) (Cv 0) W hx2 (by rw [hT] at hTl; simp at hTl; omega)
        have HLD : Hid (∀ W, Below wr.heap.size wr W → NdAt W g2 (off2 + 0 * 5) (nth X.l 0) (Av 0) (Cv 0)) := fun W hW => r1.grow hW hg2
        clear hat2 r1 r2 hx1 hx2
        obtain ⟨S9, hS9⟩ : ∃ Sx, Sx = S5 ++ [59, 10] := ⟨_, rfl⟩
        have E72 : Hid (bs S5 ++ (⟨#[59, 10]⟩ : ByteArray) = bs S9) := (by rw [show (⟨#[59, 10]⟩ : ByteArray) = bs [59, 10] from rfl, bs_cat, hS9] : bs S5 ++ (⟨#[59, 10]⟩ : ByteArray) = bs S9)
        have lS1 := congrArg List.length hS1
        simp only [List.length_append] at lS1
        have lS2 := congrArg List.length hS2
        simp only [List.length_append, List.length_cons, List.length_nil] at lS2
        have lS3 := congrArg List.length hS3
        simp only [List.length_append] at lS3
        have lS4 := congrArg List.length hS4
        simp only [List.length_append, List.length_cons, List.length_nil] at lS4
        have lS5 := congrArg List.length hS5
        simp only [List.length_append] at lS5
        have lS9 := congrArg List.length hS9
        simp only [List.length_append, List.length_cons, List.length_nil] at lS9
        have HP : Hid (pn n.l (k + 1) = S9) := (by rw [hpk, hline, hS9] : pn n.l (k + 1) = S9)
        have hl9 : S9.length ≤ 1000000000 := by rw [hS9, ← hline]; exact hPl
        have zS1 : (bs S1).size ≤ 2000000000 := by rw [bs_size]; omega
        have zS2 : (bs S2).size ≤ 2000000000 := by rw [bs_size]; omega
        have zS3 : (bs S3).size ≤ 2000000000 := by rw [bs_size]; omega
        have zS4 : (bs S4).size ≤ 2000000000 := by rw [bs_size]; omega
        have zT : (bs T).size ≤ 2000000000 := by rw [bs_size]; omega
        have zS5 : (bs S5).size ≤ 2000000000 := by rw [bs_size]; omega
        clear hS1 lS1 hS2 lS2 hS3 lS3 hS4 lS4 hS5 lS5 hS9 lS9 hT hline hpk ho hln hX hPl
        go_wp2_with (first
          | (refine at_dstL 22 rfl ?_; refine wpList_is (some 22) (.pointer (some ⟨g, off + k * 5, none⟩)) rfl (by rfl) (run_at_nd _ _ rfl g off k _ C rfl rfl (by omega) _) ?_)
          | (refine at_dstL 23 rfl ?_; refine wpList_is (some 23) (.agg #[.string (bs X.op), .string (bs X.s), .int .i64 X.n, .int .i64 X.a, .slice (some ⟨g2, off2, none⟩) LX CX]) rfl (by rfl) (HQ.out _ _ _ rfl rfl) ?_)
          | (refine at_dstL 27 rfl ?_; refine wpList_is (some 27) (.string (bs S1)) rfl rfl (by rw [← E27.out]; exact run_add_str _ _ rfl _ _ rfl rfl (by omega) _) ?_)
          | (refine at_dstL 28 rfl ?_; refine wpList_is (some 28) (.string (bs S2)) rfl rfl (by rw [← E28.out]; exact run_add_str _ _ rfl _ _ rfl rfl (by show _ + 1 ≤ _; omega) _) ?_)
          | (refine at_dstL 31 rfl ?_; refine wpList_is (some 31) (.string (bs S3)) rfl rfl (by rw [← E31.out]; exact run_add_str _ _ rfl _ _ rfl rfl (by omega) _) ?_)
          | (refine at_dstL 47 rfl ?_; refine wpList_is (some 47) (.string (bs S4)) rfl rfl (by rw [← E38.out]; exact run_add_str _ _ rfl _ _ rfl rfl (by show _ + 1 ≤ _; omega) _) ?_)
          | (refine at_dstL 50 rfl ?_; refine wpList_is (some 50) (.pointer (some ⟨g2, off2 + 0 * 5, none⟩)) rfl (by rfl) (run_at_nd _ _ rfl g2 off2 0 _ CX rfl rfl (by omega) _) ?_)
          | (refine at_dstL 51 rfl ?_; refine wpList_is (some 51) (nval (nth X.l 0) (Av 0) (Cv 0)) rfl (by rfl) (run_load_nd _ rfl g2 _ rfl _ (HLD.out _ (b_one _ _))) ?_)
          | ((go_at_call 15)
             (refine (HT.out _ (b_one _ _)).mono ?_)
             (rintro e w2 ⟨rfl, hb2⟩))
          | (refine at_dstL 53 rfl ?_; refine wpList_is (some 53) (.string (bs S5)) rfl rfl (by rw [← E42.out]; exact run_add_str _ _ rfl _ _ rfl rfl (by omega) _) ?_)
          | (refine at_dstL 72 rfl ?_; refine wpList_is (some 72) (.string (bs S9)) rfl rfl (by rw [← E72.out]; exact run_add_str _ _ rfl _ _ rfl rfl (by show _ + 2 ≤ _; omega) _) ?_))
        go_roundw
        case rel => exact ⟨k + 1, hlt, by go_num, (bz.alloc (by have := bz.size; omega) _).trans (hb2.mono (by have := bz.size; simp; omega)), by rw [HP.out]⟩
        case measure => simp [intOf]; omega
      · skip
        have f0 : (X.op == [100, 101, 118, 105, 99, 101]) = false := by rw [ho]; decide
        have f1 : (X.op == [106, 111, 117, 114, 110, 97, 108]) = false := by rw [ho]; decide
        have f2 : (X.op == [107, 101, 121]) = false := by rw [ho]; decide
        have f3 : (X.op == [114, 111, 111, 116]) = true := by rw [ho]; decide
        have f4 : (X.op == [118, 111, 108, 117, 109, 101]) = false := by rw [ho]; decide
        have f5 : (X.op == [101, 120, 112, 111, 114, 116]) = false := by rw [ho]; decide
        obtain ⟨S1, hS1⟩ : ∃ Sx, Sx = S ++ X.op := ⟨_, rfl⟩
        obtain ⟨S2, hS2⟩ : ∃ Sx, Sx = S1 ++ [32] := ⟨_, rfl⟩
        obtain ⟨S3, hS3⟩ : ∃ Sx, Sx = S2 ++ X.s := ⟨_, rfl⟩
        have E27 : Hid (bs S ++ bs X.op = bs S1) := (by rw [bs_cat, hS1] : bs S ++ bs X.op = bs S1)
        have E28 : Hid (bs S1 ++ (⟨#[32]⟩ : ByteArray) = bs S2) := (by rw [show (⟨#[32]⟩ : ByteArray) = bs [32] from rfl, bs_cat, hS2] : bs S1 ++ (⟨#[32]⟩ : ByteArray) = bs S2)
        have E31 : Hid (bs S2 ++ bs X.s = bs S3) := (by rw [bs_cat, hS3] : bs S2 ++ bs X.s = bs S3)
        obtain ⟨S4, hS4⟩ : ∃ Sx, Sx = S3 ++ [32] := ⟨_, rfl⟩
        have E38 : Hid (bs S3 ++ (⟨#[32]⟩ : ByteArray) = bs S4) := (by rw [show (⟨#[32]⟩ : ByteArray) = bs [32] from rfl, bs_cat, hS4] : bs S3 ++ (⟨#[32]⟩ : ByteArray) = bs S4)
        obtain ⟨T, hT⟩ : ∃ Sx, Sx = 36 :: (nth X.l 0).s := ⟨_, rfl⟩
        obtain ⟨S5, hS5⟩ : ∃ Sx, Sx = S4 ++ T := ⟨_, rfl⟩
        have E42 : Hid (bs S4 ++ bs T = bs S5) := (by rw [bs_cat, hS5] : bs S4 ++ bs T = bs S5)
        obtain ⟨hx1, hx2⟩ := hln.hex (.inr ho)
        have hline : S ++ lineS X = S5 ++ [59, 10] := by
          have : lineR X = [32, 36] ++ (nth X.l 0).s := (if_neg (by rw [ho]; decide)).trans (if_pos (.inr ho))
          rw [hS5, hS4, hS3, hS2, hS1, hT]; unfold lineS; rw [this]; simp
        obtain ⟨g2, off2, Av, Cv, rfl, hg2, hat2⟩ := parts_at hX (by omega)
        obtain ⟨r1, r2⟩ := hat2 0 (by omega)
        rw [hx1] at HLX
        have hlx1 : LX = 1 := HLX.out
        have hTl : T.length ≤ 1000000000 := by
          have := congrArg List.length hline
          rw [hS5] at this
          simp only [List.length_append] at this hPl
          omega
        have HT : Hid (∀ W, Below wr.heap.size wr W → Calls Tryz.prog 15 #[nval (nth X.l 0) (Av 0) (Cv 0)] W fun e w' => e = .returned (.string (bs T)) ∧ Below W.heap.size W w') := fun W hW => by
          rw [hT]
          exact rtext_hex (nth X.l 0) (Av 0) (Cv 0) W hx2 (by rw [hT] at hTl; simp at hTl; omega)
        have HLD : Hid (∀ W, Below wr.heap.size wr W → NdAt W g2 (off2 + 0 * 5) (nth X.l 0) (Av 0) (Cv 0)) := fun W hW => r1.grow hW hg2
        clear hat2 r1 r2 hx1 hx2
        obtain ⟨S9, hS9⟩ : ∃ Sx, Sx = S5 ++ [59, 10] := ⟨_, rfl⟩
        have E72 : Hid (bs S5 ++ (⟨#[59, 10]⟩ : ByteArray) = bs S9) := (by rw [show (⟨#[59, 10]⟩ : ByteArray) = bs [59, 10] from rfl, bs_cat, hS9] : bs S5 ++ (⟨#[59, 10]⟩ : ByteArray) = bs S9)
        have lS1 := congrArg List.length hS1
        simp only [List.length_append] at lS1
        have lS2 := congrArg List.length hS2
        simp only [List.length_append, List.length_cons, List.length_nil] at lS2
        have lS3 := congrArg List.length hS3
        simp only [List.length_append] at lS3
        have lS4 := congrArg List.length hS4
        simp only [List.length_append, List.length_cons, List.length_nil] at lS4
        have lS5 := congrArg List.length hS5
        simp only [List.length_append] at lS5
        have lS9 := congrArg List.length hS9
        simp only [List.length_append, List.length_cons, List.length_nil] at lS9
        have HP : Hid (pn n.l (k + 1) = S9) := (by rw [hpk, hline, hS9] : pn n.l (k + 1) = S9)
        have hl9 : S9.length ≤ 1000000000 := by rw [hS9, ← hline]; exact hPl
        have zS1 : (bs S1).size ≤ 2000000000 := by rw [bs_size]; omega
        have zS2 : (bs S2).size ≤ 2000000000 := by rw [bs_size]; omega
        have zS3 : (bs S3).size ≤ 2000000000 := by rw [bs_size]; omega
        have zS4 : (bs S4).size ≤ 2000000000 := by rw [bs_size]; omega
        have zT : (bs T).size ≤ 2000000000 := by rw [bs_size]; omega
        have zS5 : (bs S5).size ≤ 2000000000 := by rw [bs_size]; omega
        clear hS1 lS1 hS2 lS2 hS3 lS3 hS4 lS4 hS5 lS5 hS9 lS9 hT hline hpk ho hln hX hPl
        go_wp2_with (first
          | (refine at_dstL 22 rfl ?_; refine wpList_is (some 22) (.pointer (some ⟨g, off + k * 5, none⟩)) rfl (by rfl) (run_at_nd _ _ rfl g off k _ C rfl rfl (by omega) _) ?_)
          | (refine at_dstL 23 rfl ?_; refine wpList_is (some 23) (.agg #[.string (bs X.op), .string (bs X.s), .int .i64 X.n, .int .i64 X.a, .slice (some ⟨g2, off2, none⟩) LX CX]) rfl (by rfl) (HQ.out _ _ _ rfl rfl) ?_)
          | (refine at_dstL 27 rfl ?_; refine wpList_is (some 27) (.string (bs S1)) rfl rfl (by rw [← E27.out]; exact run_add_str _ _ rfl _ _ rfl rfl (by omega) _) ?_)
          | (refine at_dstL 28 rfl ?_; refine wpList_is (some 28) (.string (bs S2)) rfl rfl (by rw [← E28.out]; exact run_add_str _ _ rfl _ _ rfl rfl (by show _ + 1 ≤ _; omega) _) ?_)
          | (refine at_dstL 31 rfl ?_; refine wpList_is (some 31) (.string (bs S3)) rfl rfl (by rw [← E31.out]; exact run_add_str _ _ rfl _ _ rfl rfl (by omega) _) ?_)
          | (refine at_dstL 47 rfl ?_; refine wpList_is (some 47) (.string (bs S4)) rfl rfl (by rw [← E38.out]; exact run_add_str _ _ rfl _ _ rfl rfl (by show _ + 1 ≤ _; omega) _) ?_)
          | (refine at_dstL 50 rfl ?_; refine wpList_is (some 50) (.pointer (some ⟨g2, off2 + 0 * 5, none⟩)) rfl (by rfl) (run_at_nd _ _ rfl g2 off2 0 _ CX rfl rfl (by omega) _) ?_)
          | (refine at_dstL 51 rfl ?_; refine wpList_is (some 51) (nval (nth X.l 0) (Av 0) (Cv 0)) rfl (by rfl) (run_load_nd _ rfl g2 _ rfl _ (HLD.out _ (b_one _ _))) ?_)
          | ((go_at_call 15)
             (refine (HT.out _ (b_one _ _)).mono ?_)
             (rintro e w2 ⟨rfl, hb2⟩))
          | (refine at_dstL 53 rfl ?_; refine wpList_is (some 53) (.string (bs S5)) rfl rfl (by rw [← E42.out]; exact run_add_str _ _ rfl _ _ rfl rfl (by omega) _) ?_)
          | (refine at_dstL 72 rfl ?_; refine wpList_is (some 72) (.string (bs S9)) rfl rfl (by rw [← E72.out]; exact run_add_str _ _ rfl _ _ rfl rfl (by show _ + 2 ≤ _; omega) _) ?_))
        go_roundw
        case rel => exact ⟨k + 1, hlt, by go_num, (bz.alloc (by have := bz.size; omega) _).trans (hb2.mono (by have := bz.size; simp; omega)), by rw [HP.out]⟩
        case measure => simp [intOf]; omega
      · skip
        have f0 : (X.op == [100, 101, 118, 105, 99, 101]) = false := by rw [ho]; decide
        have f1 : (X.op == [106, 111, 117, 114, 110, 97, 108]) = false := by rw [ho]; decide
        have f2 : (X.op == [107, 101, 121]) = false := by rw [ho]; decide
        have f3 : (X.op == [114, 111, 111, 116]) = false := by rw [ho]; decide
        have f4 : (X.op == [118, 111, 108, 117, 109, 101]) = true := by rw [ho]; decide
        have f5 : (X.op == [101, 120, 112, 111, 114, 116]) = false := by rw [ho]; decide
        obtain ⟨S1, hS1⟩ : ∃ Sx, Sx = S ++ X.op := ⟨_, rfl⟩
        obtain ⟨S2, hS2⟩ : ∃ Sx, Sx = S1 ++ [32] := ⟨_, rfl⟩
        obtain ⟨S3, hS3⟩ : ∃ Sx, Sx = S2 ++ X.s := ⟨_, rfl⟩
        have E27 : Hid (bs S ++ bs X.op = bs S1) := (by rw [bs_cat, hS1] : bs S ++ bs X.op = bs S1)
        have E28 : Hid (bs S1 ++ (⟨#[32]⟩ : ByteArray) = bs S2) := (by rw [show (⟨#[32]⟩ : ByteArray) = bs [32] from rfl, bs_cat, hS2] : bs S1 ++ (⟨#[32]⟩ : ByteArray) = bs S2)
        have E31 : Hid (bs S2 ++ bs X.s = bs S3) := (by rw [bs_cat, hS3] : bs S2 ++ bs X.s = bs S3)
        obtain ⟨S4, hS4⟩ : ∃ Sx, Sx = S3 ++ [32, 61, 32] := ⟨_, rfl⟩
        have E38 : Hid (bs S3 ++ (⟨#[32, 61, 32]⟩ : ByteArray) = bs S4) := (by rw [show (⟨#[32, 61, 32]⟩ : ByteArray) = bs [32, 61, 32] from rfl, bs_cat, hS4] : bs S3 ++ (⟨#[32, 61, 32]⟩ : ByteArray) = bs S4)
        obtain ⟨T, hT⟩ : ∃ Sx, Sx = textE 13 (nth X.l 0) := ⟨_, rfl⟩
        obtain ⟨S5, hS5⟩ : ∃ Sx, Sx = S4 ++ T := ⟨_, rfl⟩
        have E42 : Hid (bs S4 ++ bs T = bs S5) := (by rw [bs_cat, hS5] : bs S4 ++ bs T = bs S5)
        obtain ⟨hx1, hx2, hx3⟩ := hln.vol ho
        have hline : S ++ lineS X = S5 ++ [59, 10] := by
          have : lineR X = [32, 61, 32] ++ textE 13 (nth X.l 0) := (if_neg (by rw [ho]; decide)).trans ((if_neg (by rw [ho]; decide)).trans (if_pos ho))
          rw [hS5, hS4, hS3, hS2, hS1, hT]; unfold lineS; rw [this]; simp
        obtain ⟨g2, off2, Av, Cv, rfl, hg2, hat2⟩ := parts_at hX (by omega)
        obtain ⟨r1, r2⟩ := hat2 0 (by omega)
        rw [hx1] at HLX
        have hlx1 : LX = 1 := HLX.out
        have hTl : T.length ≤ 1000000000 := by
          have := congrArg List.length hline
          rw [hS5] at this
          simp only [List.length_append] at this hPl
          omega
        have HT : Hid (∀ W, Below wr.heap.size wr W → Calls Tryz.prog 15 #[nval (nth X.l 0) (Av 0) (Cv 0)] W fun e w' => e = .returned (.string (bs T)) ∧ Below W.heap.size W w') := fun W hW => by
          rw [hT]
          exact rtext_c 13 (nth X.l 0) (Av 0) (Cv 0) W (r2.grow hW) hx2 (by rw [← hT]; exact hTl) hx3
        have HLD : Hid (∀ W, Below wr.heap.size wr W → NdAt W g2 (off2 + 0 * 5) (nth X.l 0) (Av 0) (Cv 0)) := fun W hW => r1.grow hW hg2
        clear hat2 r1 r2 hx1 hx2 hx3
        obtain ⟨S9, hS9⟩ : ∃ Sx, Sx = S5 ++ [59, 10] := ⟨_, rfl⟩
        have E72 : Hid (bs S5 ++ (⟨#[59, 10]⟩ : ByteArray) = bs S9) := (by rw [show (⟨#[59, 10]⟩ : ByteArray) = bs [59, 10] from rfl, bs_cat, hS9] : bs S5 ++ (⟨#[59, 10]⟩ : ByteArray) = bs S9)
        have lS1 := congrArg List.length hS1
        simp only [List.length_append] at lS1
        have lS2 := congrArg List.length hS2
        simp only [List.length_append, List.length_cons, List.length_nil] at lS2
        have lS3 := congrArg List.length hS3
        simp only [List.length_append] at lS3
        have lS4 := congrArg List.length hS4
        simp only [List.length_append, List.length_cons, List.length_nil] at lS4
        have lS5 := congrArg List.length hS5
        simp only [List.length_append] at lS5
        have lS9 := congrArg List.length hS9
        simp only [List.length_append, List.length_cons, List.length_nil] at lS9
        have HP : Hid (pn n.l (k + 1) = S9) := (by rw [hpk, hline, hS9] : pn n.l (k + 1) = S9)
        have hl9 : S9.length ≤ 1000000000 := by rw [hS9, ← hline]; exact hPl
        have zS1 : (bs S1).size ≤ 2000000000 := by rw [bs_size]; omega
        have zS2 : (bs S2).size ≤ 2000000000 := by rw [bs_size]; omega
        have zS3 : (bs S3).size ≤ 2000000000 := by rw [bs_size]; omega
        have zS4 : (bs S4).size ≤ 2000000000 := by rw [bs_size]; omega
        have zT : (bs T).size ≤ 2000000000 := by rw [bs_size]; omega
        have zS5 : (bs S5).size ≤ 2000000000 := by rw [bs_size]; omega
        clear hS1 lS1 hS2 lS2 hS3 lS3 hS4 lS4 hS5 lS5 hS9 lS9 hT hline hpk ho hln hX hPl
        go_wp2_with (first
          | (refine at_dstL 22 rfl ?_; refine wpList_is (some 22) (.pointer (some ⟨g, off + k * 5, none⟩)) rfl (by rfl) (run_at_nd _ _ rfl g off k _ C rfl rfl (by omega) _) ?_)
          | (refine at_dstL 23 rfl ?_; refine wpList_is (some 23) (.agg #[.string (bs X.op), .string (bs X.s), .int .i64 X.n, .int .i64 X.a, .slice (some ⟨g2, off2, none⟩) LX CX]) rfl (by rfl) (HQ.out _ _ _ rfl rfl) ?_)
          | (refine at_dstL 27 rfl ?_; refine wpList_is (some 27) (.string (bs S1)) rfl rfl (by rw [← E27.out]; exact run_add_str _ _ rfl _ _ rfl rfl (by omega) _) ?_)
          | (refine at_dstL 28 rfl ?_; refine wpList_is (some 28) (.string (bs S2)) rfl rfl (by rw [← E28.out]; exact run_add_str _ _ rfl _ _ rfl rfl (by show _ + 1 ≤ _; omega) _) ?_)
          | (refine at_dstL 31 rfl ?_; refine wpList_is (some 31) (.string (bs S3)) rfl rfl (by rw [← E31.out]; exact run_add_str _ _ rfl _ _ rfl rfl (by omega) _) ?_)
          | (refine at_dstL 57 rfl ?_; refine wpList_is (some 57) (.string (bs S4)) rfl rfl (by rw [← E38.out]; exact run_add_str _ _ rfl _ _ rfl rfl (by show _ + 3 ≤ _; omega) _) ?_)
          | (refine at_dstL 60 rfl ?_; refine wpList_is (some 60) (.pointer (some ⟨g2, off2 + 0 * 5, none⟩)) rfl (by rfl) (run_at_nd _ _ rfl g2 off2 0 _ CX rfl rfl (by omega) _) ?_)
          | (refine at_dstL 61 rfl ?_; refine wpList_is (some 61) (nval (nth X.l 0) (Av 0) (Cv 0)) rfl (by rfl) (run_load_nd _ rfl g2 _ rfl _ (HLD.out _ (b_one _ _))) ?_)
          | ((go_at_call 15)
             (refine (HT.out _ (b_one _ _)).mono ?_)
             (rintro e w2 ⟨rfl, hb2⟩))
          | (refine at_dstL 63 rfl ?_; refine wpList_is (some 63) (.string (bs S5)) rfl rfl (by rw [← E42.out]; exact run_add_str _ _ rfl _ _ rfl rfl (by omega) _) ?_)
          | (refine at_dstL 72 rfl ?_; refine wpList_is (some 72) (.string (bs S9)) rfl rfl (by rw [← E72.out]; exact run_add_str _ _ rfl _ _ rfl rfl (by show _ + 2 ≤ _; omega) _) ?_))
        go_roundw
        case rel => exact ⟨k + 1, hlt, by go_num, (bz.alloc (by have := bz.size; omega) _).trans (hb2.mono (by have := bz.size; simp; omega)), by rw [HP.out]⟩
        case measure => simp [intOf]; omega
      · skip
        have f0 : (X.op == [100, 101, 118, 105, 99, 101]) = false := by rw [ho]; decide
        have f1 : (X.op == [106, 111, 117, 114, 110, 97, 108]) = false := by rw [ho]; decide
        have f2 : (X.op == [107, 101, 121]) = false := by rw [ho]; decide
        have f3 : (X.op == [114, 111, 111, 116]) = false := by rw [ho]; decide
        have f4 : (X.op == [118, 111, 108, 117, 109, 101]) = false := by rw [ho]; decide
        have f5 : (X.op == [101, 120, 112, 111, 114, 116]) = true := by rw [ho]; decide
        obtain ⟨S1, hS1⟩ : ∃ Sx, Sx = S ++ X.op := ⟨_, rfl⟩
        obtain ⟨S2, hS2⟩ : ∃ Sx, Sx = S1 ++ [32] := ⟨_, rfl⟩
        obtain ⟨S3, hS3⟩ : ∃ Sx, Sx = S2 ++ X.s := ⟨_, rfl⟩
        have E27 : Hid (bs S ++ bs X.op = bs S1) := (by rw [bs_cat, hS1] : bs S ++ bs X.op = bs S1)
        have E28 : Hid (bs S1 ++ (⟨#[32]⟩ : ByteArray) = bs S2) := (by rw [show (⟨#[32]⟩ : ByteArray) = bs [32] from rfl, bs_cat, hS2] : bs S1 ++ (⟨#[32]⟩ : ByteArray) = bs S2)
        have E31 : Hid (bs S2 ++ bs X.s = bs S3) := (by rw [bs_cat, hS3] : bs S2 ++ bs X.s = bs S3)
        by_cases hN1 : X.n = 1
        · skip
          obtain ⟨S4, hS4⟩ : ∃ Sx, Sx = S3 ++ [32, 114, 101, 97, 100, 111, 110, 108, 121] := ⟨_, rfl⟩
          have E38 : Hid (bs S3 ++ (⟨#[32, 114, 101, 97, 100, 111, 110, 108, 121]⟩ : ByteArray) = bs S4) := (by rw [show (⟨#[32, 114, 101, 97, 100, 111, 110, 108, 121]⟩ : ByteArray) = bs [32, 114, 101, 97, 100, 111, 110, 108, 121] from rfl, bs_cat, hS4] : bs S3 ++ (⟨#[32, 114, 101, 97, 100, 111, 110, 108, 121]⟩ : ByteArray) = bs S4)
          have hline : S ++ lineS X = S4 ++ [59, 10] := by
            have : lineR X = 32 :: wReadonly := (if_neg (by rw [ho]; decide)).trans ((if_neg (by rw [ho]; decide)).trans ((if_neg (by rw [ho]; decide)).trans (if_pos ⟨ho, hN1⟩)))
            rw [hS4, hS3, hS2, hS1]; unfold lineS; rw [this]; simp [wReadonly]
          have hNb : (X.n == 1) = true := by simpa using hN1
          clear hN1
          obtain ⟨S9, hS9⟩ : ∃ Sx, Sx = S4 ++ [59, 10] := ⟨_, rfl⟩
          have E72 : Hid (bs S4 ++ (⟨#[59, 10]⟩ : ByteArray) = bs S9) := (by rw [show (⟨#[59, 10]⟩ : ByteArray) = bs [59, 10] from rfl, bs_cat, hS9] : bs S4 ++ (⟨#[59, 10]⟩ : ByteArray) = bs S9)
          have lS1 := congrArg List.length hS1
          simp only [List.length_append] at lS1
          have lS2 := congrArg List.length hS2
          simp only [List.length_append, List.length_cons, List.length_nil] at lS2
          have lS3 := congrArg List.length hS3
          simp only [List.length_append] at lS3
          have lS4 := congrArg List.length hS4
          simp only [List.length_append, List.length_cons, List.length_nil] at lS4
          have lS9 := congrArg List.length hS9
          simp only [List.length_append, List.length_cons, List.length_nil] at lS9
          have HP : Hid (pn n.l (k + 1) = S9) := (by rw [hpk, hline, hS9] : pn n.l (k + 1) = S9)
          have hl9 : S9.length ≤ 1000000000 := by rw [hS9, ← hline]; exact hPl
          have zS1 : (bs S1).size ≤ 2000000000 := by rw [bs_size]; omega
          have zS2 : (bs S2).size ≤ 2000000000 := by rw [bs_size]; omega
          have zS3 : (bs S3).size ≤ 2000000000 := by rw [bs_size]; omega
          have zS4 : (bs S4).size ≤ 2000000000 := by rw [bs_size]; omega
          clear hS1 lS1 hS2 lS2 hS3 lS3 hS4 lS4 hS9 lS9 hline hpk ho hln hX hPl
          go_wp2_with (first
            | (refine at_dstL 22 rfl ?_; refine wpList_is (some 22) (.pointer (some ⟨g, off + k * 5, none⟩)) rfl (by rfl) (run_at_nd _ _ rfl g off k _ C rfl rfl (by omega) _) ?_)
            | (refine at_dstL 23 rfl ?_; refine wpList_is (some 23) (.agg #[.string (bs X.op), .string (bs X.s), .int .i64 X.n, .int .i64 X.a, .slice AX LX CX]) rfl (by rfl) (HQ.out _ _ _ rfl rfl) ?_)
            | (refine at_dstL 27 rfl ?_; refine wpList_is (some 27) (.string (bs S1)) rfl rfl (by rw [← E27.out]; exact run_add_str _ _ rfl _ _ rfl rfl (by omega) _) ?_)
            | (refine at_dstL 28 rfl ?_; refine wpList_is (some 28) (.string (bs S2)) rfl rfl (by rw [← E28.out]; exact run_add_str _ _ rfl _ _ rfl rfl (by show _ + 1 ≤ _; omega) _) ?_)
            | (refine at_dstL 31 rfl ?_; refine wpList_is (some 31) (.string (bs S3)) rfl rfl (by rw [← E31.out]; exact run_add_str _ _ rfl _ _ rfl rfl (by omega) _) ?_)
            | (refine at_dstL 70 rfl ?_; refine wpList_is (some 70) (.string (bs S4)) rfl rfl (by rw [← E38.out]; exact run_add_str _ _ rfl _ _ rfl rfl (by show _ + 9 ≤ _; omega) _) ?_)
            | (refine at_dstL 72 rfl ?_; refine wpList_is (some 72) (.string (bs S9)) rfl rfl (by rw [← E72.out]; exact run_add_str _ _ rfl _ _ rfl rfl (by show _ + 2 ≤ _; omega) _) ?_))
          go_roundw
          case rel => exact ⟨k + 1, hlt, by go_num, (bz.alloc (by have := bz.size; omega) _), by rw [HP.out]⟩
          case measure => simp [intOf]; omega
        · skip
          have hline : S ++ lineS X = S3 ++ [59, 10] := by
            have : lineR X = [] := (if_neg (by rw [ho]; decide)).trans ((if_neg (by rw [ho]; decide)).trans ((if_neg (by rw [ho]; decide)).trans (if_neg (fun h => hN1 h.2))))
            rw [hS3, hS2, hS1]; unfold lineS; rw [this]; simp
          have hNb : (X.n == 1) = false := by simpa using hN1
          obtain ⟨S9, hS9⟩ : ∃ Sx, Sx = S3 ++ [59, 10] := ⟨_, rfl⟩
          have E72 : Hid (bs S3 ++ (⟨#[59, 10]⟩ : ByteArray) = bs S9) := (by rw [show (⟨#[59, 10]⟩ : ByteArray) = bs [59, 10] from rfl, bs_cat, hS9] : bs S3 ++ (⟨#[59, 10]⟩ : ByteArray) = bs S9)
          have lS1 := congrArg List.length hS1
          simp only [List.length_append] at lS1
          have lS2 := congrArg List.length hS2
          simp only [List.length_append, List.length_cons, List.length_nil] at lS2
          have lS3 := congrArg List.length hS3
          simp only [List.length_append] at lS3
          have lS9 := congrArg List.length hS9
          simp only [List.length_append, List.length_cons, List.length_nil] at lS9
          have HP : Hid (pn n.l (k + 1) = S9) := (by rw [hpk, hline, hS9] : pn n.l (k + 1) = S9)
          have hl9 : S9.length ≤ 1000000000 := by rw [hS9, ← hline]; exact hPl
          have zS1 : (bs S1).size ≤ 2000000000 := by rw [bs_size]; omega
          have zS2 : (bs S2).size ≤ 2000000000 := by rw [bs_size]; omega
          have zS3 : (bs S3).size ≤ 2000000000 := by rw [bs_size]; omega
          clear hS1 lS1 hS2 lS2 hS3 lS3 hS9 lS9 hline hpk ho hln hX hPl
          go_wp2_with (first
            | (refine at_dstL 22 rfl ?_; refine wpList_is (some 22) (.pointer (some ⟨g, off + k * 5, none⟩)) rfl (by rfl) (run_at_nd _ _ rfl g off k _ C rfl rfl (by omega) _) ?_)
            | (refine at_dstL 23 rfl ?_; refine wpList_is (some 23) (.agg #[.string (bs X.op), .string (bs X.s), .int .i64 X.n, .int .i64 X.a, .slice AX LX CX]) rfl (by rfl) (HQ.out _ _ _ rfl rfl) ?_)
            | (refine at_dstL 27 rfl ?_; refine wpList_is (some 27) (.string (bs S1)) rfl rfl (by rw [← E27.out]; exact run_add_str _ _ rfl _ _ rfl rfl (by omega) _) ?_)
            | (refine at_dstL 28 rfl ?_; refine wpList_is (some 28) (.string (bs S2)) rfl rfl (by rw [← E28.out]; exact run_add_str _ _ rfl _ _ rfl rfl (by show _ + 1 ≤ _; omega) _) ?_)
            | (refine at_dstL 31 rfl ?_; refine wpList_is (some 31) (.string (bs S3)) rfl rfl (by rw [← E31.out]; exact run_add_str _ _ rfl _ _ rfl rfl (by omega) _) ?_)
            | (refine at_dstL 72 rfl ?_; refine wpList_is (some 72) (.string (bs S9)) rfl rfl (by rw [← E72.out]; exact run_add_str _ _ rfl _ _ rfl rfl (by show _ + 2 ≤ _; omega) _) ?_))
          go_roundw
          case rel => exact ⟨k + 1, hlt, by go_num, (bz.alloc (by have := bz.size; omega) _), by rw [HP.out]⟩
          case measure => simp [intOf]; omega
    · obtain rfl : k = L := by omega
      clear hpa
      go_wp2
      go_ret2
      exact ⟨rfl, hbV.trans (bz.mono (by omega))⟩
end Go.Proofs.YtpckmllmjdafpaaGreatDoor
