/- The reference's text. -/
import Derived.Test.YtpckmllmjdafpaaGreatDoorPrDigits
import Derived.Test.YtpckmllmjdafpaaGreatDoorJoint09
namespace Go.Proofs.YtpckmllmjdafpaaGreatDoor
open Go.ChangeShapes Go.WideShapes Go.ChangeAt Go.RowKit
set_option linter.unusedVariables false

theorem dec_dgR (n : Nat) : Lib.decDigits n = dg n := by
  induction n using Nat.strongRecOn with
  | _ n ih =>
    rw [Lib.decDigits]
    split
    · rename_i h; rw [dg_small h]
    · rename_i h; rw [ih (n / 10) (by omega), ← dg_great h]

theorem itoa_dg {n : Nat} : Lib.itoa (n : Int) = dg n := by
  unfold Lib.itoa
  rw [if_neg (by omega), Int.toNat_natCast, dec_dgR]

/-- A text that the reference tells, too. -/
def TxR : Nat → Nd → Prop
  | 0, _ => False
  | f + 1, n => (n.op = wUse ∨ n.op = wName) ∨ (¬ (n.op = wUse ∨ n.op = wName) ∧ n.op = wNum ∧ numOk n.n = true) ∨ (¬ (n.op = wUse ∨ n.op = wName) ∧ n.op ≠ wNum ∧ n.op ≠ wHex ∧ ∀ x ∈ n.l, TxR f x)

theorem join_snoc (sep y : List UInt8) (xs : List (List UInt8)) (h : xs ≠ []) : Lib.join (xs ++ [y]) sep = Lib.join xs sep ++ sep ++ y := by
  cases xs with
  | nil => exact absurd rfl h
  | cons x r =>
    rw [List.cons_append, Lib.join_cons, Lib.join_cons]
    simp [Lib.joinTail]

theorem join_one (sep y : List UInt8) : Lib.join [y] sep = y := by
  rw [Lib.join_cons]
  simp [Lib.joinTail]

/-- The first k texts. -/
def jn (f : Nat) (l : List Nd) (k : Nat) : List UInt8 := Lib.join ((l.take k).map (textE f)) [44, 32]

theorem jn_one (f : Nat) (l : List Nd) (h : 0 < l.length) : jn f l 1 = textE f (nth l 0) := by
  unfold jn
  rw [nth_get h]
  cases l with
  | nil => simp at h
  | cons x l => simp only [List.take_succ_cons, List.take_zero, List.map_cons, List.map_nil, join_one, List.getElem_cons_zero]

theorem jn_succ (f : Nat) (l : List Nd) (k : Nat) (h0 : 0 < k) (h : k < l.length) : jn f l (k + 1) = jn f l k ++ [44, 32] ++ textE f (nth l k) := by
  unfold jn
  rw [List.take_succ_eq_append_getElem h, List.map_append, nth_get h]
  exact join_snoc _ _ _ (by
    intro e
    have := congrArg List.length e
    simp only [List.length_map, List.length_take, List.length_nil] at this
    omega)

theorem jn_le (f : Nat) (l : List Nd) (k : Nat) : ∀ m, k + m ≤ l.length → (jn f l k).length ≤ (jn f l (k + m)).length := by
  intro m
  induction m with
  | zero => intro _; exact Nat.le_refl _
  | succ m ih =>
    intro h
    have h1 := ih (by omega)
    by_cases h0 : k + m = 0
    · have : k = 0 := by omega
      subst this
      have : jn f l 0 = [] := by unfold jn; simp [Lib.join]
      rw [this]; simp
    · rw [show k + (m + 1) = k + m + 1 by omega, jn_succ f l (k + m) (by omega) (by omega)]
      simp only [List.length_append]
      omega

theorem jn_all (f : Nat) (l : List Nd) : jn f l l.length = Lib.join (l.map (textE f)) [44, 32] := by
  unfold jn
  rw [List.take_length]

set_option maxRecDepth 100000 in
set_option maxHeartbeats 4000000 in
theorem rtext_c (f : Nat) : ∀ (n : Nd) (A : Option Addr) (C : Nat) (w : World), RdN w n A C → TxR f n → (textE f n).length ≤ 1000000000 → Few f n → Calls Tryz.prog 15 #[nval n A C] w fun e w' => e = .returned (.string (bs (textE f n))) ∧ Below w.heap.size w w' := by
  induction f with
  | zero => intro n A C w h hx; exact absurd hx (by simp [TxR])
  | succ f ih =>
    intro n A C w h hx hz hfw
    have hot := bs_toList n.op
    have hlen := h.len
    rcases hx with h1 | ⟨h1, h2, h3⟩ | ⟨h1, h2, h3, h4⟩
    · have he : textE (f + 1) n = n.s := if_pos h1
      rw [he]
      unfold nval
      generalize n.l.length = L at *
      rcases h1 with h1 | h1
      · have f0 : (n.op == [117, 115, 101]) = true := by rw [h1]; decide
        clear h1 he hz hfw ih h hlen
        go_enter Tryz.func15, Tryz.ntmps15
        go_wp2
        go_ret
        exact ⟨rfl, b_one _ _⟩
      · have f0 : (n.op == [117, 115, 101]) = false := by rw [h1]; decide
        have f1 : (n.op == [110, 97, 109, 101]) = true := by rw [h1]; decide
        clear h1 he hz hfw ih h hlen
        go_enter Tryz.func15, Tryz.ntmps15
        go_wp2
        go_ret
        exact ⟨rfl, b_one _ _⟩
    · have he : textE (f + 1) n = Lib.itoa n.n := (if_neg h1).trans (if_pos h2)
      rw [he]
      unfold nval
      have f0 : (n.op == [117, 115, 101]) = false := by rw [h2]; decide
      have f1 : (n.op == [110, 97, 109, 101]) = false := by rw [h2]; decide
      have f2 : (n.op == [110, 117, 109]) = true := by rw [h2]; decide
      have hno : 0 ≤ n.n ∧ n.n ≤ 999999999 := by unfold numOk at h3; simpa using h3
      obtain ⟨M, hM⟩ : ∃ M : Nat, n.n = M := ⟨n.n.toNat, by omega⟩
      have hd := fun W => rdigits_c M (by omega) W
      rw [hM, itoa_dg]
      generalize n.l.length = L at *
      generalize ((M : Nat) : Int) = MI at *
      clear h1 h2 h3 he hz hfw ih h hlen hno hM
      go_enter Tryz.func15, Tryz.ntmps15
      go_wp2_with (first
        | ((go_at_call 14)
           (refine (hd _).mono ?_)
           (rintro e w1 ⟨rfl, rfl⟩)))
      go_ret
      exact ⟨rfl, b_one _ _⟩
    · have he : textE (f + 1) n = n.op ++ [40] ++ Lib.join (n.l.map (textE f)) [44, 32] ++ [41] := (if_neg h1).trans (if_neg h2)
      have f0 : (n.op == [117, 115, 101]) = false := by simpa [wUse] using fun e => h1 (.inl e)
      have f1 : (n.op == [110, 97, 109, 101]) = false := by simpa [wName] using fun e => h1 (.inr e)
      have f2 : (n.op == [110, 117, 109]) = false := by simpa [wNum] using h2
      have f3 : (n.op == [104, 101, 120]) = false := by simpa [wHex] using h3
      rw [he] at hz ⊢
      have hpa := fun hpos => parts_at h hpos
      have hal := jn_all f n.l
      obtain ⟨L, hL⟩ : ∃ L, L = n.l.length := ⟨_, rfl⟩
      have hle : ∀ k, k ≤ L → (jn f n.l k).length ≤ (jn f n.l L).length := fun k hk => by
        have := jn_le f n.l k (L - k) (by omega)
        rwa [show k + (L - k) = L by omega] at this
      rw [← hal, ← hL] at hz ⊢
      simp only [List.length_append, List.length_cons, List.length_nil] at hz
      have HLE : Hid (∀ k, k ≤ L → (jn f n.l k).length ≤ (jn f n.l L).length) := hle
      have IHX : Hid (∀ k, k < L → ∀ A' C' W, RdN W (nth n.l k) A' C' → Calls Tryz.prog 15 #[nval (nth n.l k) A' C'] W fun e w' => e = .returned (.string (bs (textE f (nth n.l k)))) ∧ Below W.heap.size W w') := fun k hk A' C' W hW => by
        have hm : nth n.l k ∈ n.l := by rw [nth_get (by omega)]; exact List.getElem_mem _
        refine ih (nth n.l k) A' C' W hW (h4 _ hm) ?_ (hfw.2 _ hm)
        have hk1 := hle (k + 1) (by omega)
        by_cases h0 : k = 0
        · subst h0
          rw [jn_one f n.l (by omega)] at hk1
          omega
        · rw [jn_succ f n.l k (by omega) (by omega)] at hk1
          simp only [List.length_append] at hk1
          omega
      unfold nval
      rw [← hL] at hlen hpa ⊢
      have hLm : L ≤ 9223372036854775807 := by omega
      obtain ⟨V0, hV0⟩ : ∃ V, V = w.alloc (.cells #[.string (bs n.op), .string (bs n.s), .int .i64 n.n, .int .i64 n.a, .slice A L C] 24) := ⟨_, rfl⟩
      have hbV : Below w.heap.size w V0 := by rw [hV0]; exact b_one _ _
      have hVs : V0.heap.size = w.heap.size + 1 := by rw [hV0]; simp
      have HB : Hid (∀ W, Below V0.heap.size V0 W → Has W w.heap.size 24 #[.string (bs n.op), .string (bs n.s), .int .i64 n.n, .int .i64 n.a, .slice A L C]) := fun W hW => Has.below (by rw [hV0]; exact Has.new _ _ _) hW (by omega)
      obtain ⟨S0, hS0⟩ : ∃ S, S = n.op ++ [40] := ⟨_, rfl⟩
      have E24 : Hid (bs n.op ++ (⟨#[40]⟩ : ByteArray) = bs S0) := (by rw [show (⟨#[40]⟩ : ByteArray) = bs [40] from rfl, bs_cat, hS0] : bs n.op ++ (⟨#[40]⟩ : ByteArray) = bs S0)
      have hos : (bs n.op).size ≤ 1000000000 := by rw [bs_size]; omega
      have hS0l : S0.length + (jn f n.l L).length + 1 ≤ 1000000001 := by rw [hS0]; simp; omega
      rw [← hS0]
      have HJ0 : Hid (jn f n.l 0 = []) := (by unfold jn; simp [Lib.join] : jn f n.l 0 = [])
      have HJ1 : Hid (0 < L → jn f n.l 1 = textE f (nth n.l 0)) := fun h => jn_one f n.l (by omega)
      have HJS : Hid (∀ k, 0 < k → k < L → jn f n.l (k + 1) = jn f n.l k ++ [44, 32] ++ textE f (nth n.l k)) := fun k a b => jn_succ f n.l k a (by omega)
      clear h1 h2 h3 h4 he hz hfw ih h hlen hS0 hle hal hL
      go_enter Tryz.func15, Tryz.ntmps15
      go_wp2_with (first
        | (refine at_dstL 24 rfl ?_; refine wpList_is (some 24) (.string (bs S0)) rfl rfl (by rw [← E24.out]; exact run_add_str _ _ rfl _ _ rfl rfl (by show _ + 1 ≤ _; omega) _) ?_))
      rw [← hV0]
      go_loopw [3, 4] (fun s i wr => ∃ k : Nat, k ≤ L ∧ i = .int .i64 k ∧ Below V0.heap.size V0 wr ∧ s = .string (bs (S0 ++ jn f n.l k))) (fun _ i _ => L - (intOf i).toNat)
      case atStart => exact ⟨0, Nat.zero_le _, rfl, Below.refl _ _, by rw [HJ0.out, List.append_nil]⟩
      case round =>
        obtain ⟨k, hk, rfl, bz, rfl⟩ := hrel
        obtain ⟨p0, p1, p2, p3, p4⟩ := five (HB.out _ bz)
        have hjk := HLE.out k hk
        by_cases hlt : k < L
        · obtain ⟨g, off, Au, Cu, rfl, hg, hat⟩ := hpa (by omega)
          obtain ⟨q1, q2⟩ := hat k hlt
          have hq1 : NdAt wr g (off + k * 5) (nth n.l k) (Au k) (Cu k) := (q1.grow hbV hg).grow bz (by omega)
          have hc := IHX.out k hlt (Au k) (Cu k) wr ((q2.grow hbV).grow bz)
          have HQ : Hid _ := hq1
          have hj1 := HLE.out (k + 1) (by omega)
          clear hpa hat q1 q2 hq1
          by_cases h0 : k = 0
          · subst h0
            have e1 := HJ1.out hlt
            obtain ⟨S1, hS1⟩ : ∃ S, S = S0 ++ jn f n.l 0 := ⟨_, rfl⟩
            have HS1 : Hid (S1 = S0 ++ jn f n.l 0) := hS1
            obtain ⟨T, hT⟩ : ∃ T, T = textE f (nth n.l 0) := ⟨_, rfl⟩
            rw [← hT] at hc
            have hl1 : (bs S1).size ≤ 1000000001 := by rw [bs_size, hS1, HJ0.out]; simp; omega
            have hj1' : (jn f n.l 1).length ≤ (jn f n.l L).length := hj1
            have hl2 : (bs T).size ≤ 1000000001 := by rw [bs_size, hT, ← e1]; omega
            have E43 : Hid (bs S1 ++ bs T = bs (S0 ++ jn f n.l (0 + 1))) := (by rw [bs_cat, hS1, HJ0.out, hT, ← e1, List.append_nil] : bs S1 ++ bs T = bs (S0 ++ jn f n.l (0 + 1)))
            rw [← hS1]
            clear hS1 hT e1
            go_wp2_with (first
              | (refine at_dstL 40 rfl ?_; refine wpList_is (some 40) (.pointer (some ⟨g, off + 0 * 5, none⟩)) rfl (by rfl) (run_at_nd _ _ rfl g off 0 _ C rfl rfl (by omega) _) ?_)
              | (refine at_dstL 41 rfl ?_; refine wpList_is (some 41) (nval (nth n.l 0) (Au 0) (Cu 0)) rfl (by rfl) (run_load_nd _ rfl g _ rfl _ HQ.out) ?_)
              | ((go_at_call 15)
                 (refine hc.mono ?_)
                 (rintro e w9 ⟨rfl, hb9⟩))
              | (refine at_dstL 43 rfl ?_; refine wpList_is (some 43) (.string (bs (S0 ++ jn f n.l (0 + 1)))) rfl rfl (by rw [← E43.out]; exact run_add_str _ _ rfl _ _ rfl rfl (by omega) _) ?_))
            go_roundw
            case rel => exact ⟨0 + 1, hlt, by go_num, bz.trans (hb9.mono bz.size), rfl⟩
            case measure => simp [intOf]; omega
          · have e1 := HJS.out k (by omega) hlt
            have hki : (0 : Int) < (k : Int) := by omega
            obtain ⟨S1, hS1⟩ : ∃ S, S = S0 ++ jn f n.l k := ⟨_, rfl⟩
            obtain ⟨S2, hS2⟩ : ∃ S, S = S1 ++ [44, 32] := ⟨_, rfl⟩
            obtain ⟨T, hT⟩ : ∃ T, T = textE f (nth n.l k) := ⟨_, rfl⟩
            rw [← hT] at hc e1
            have hl0 : (bs S1).size ≤ 1000000001 := by rw [bs_size, hS1]; simp; omega
            have hl1 : (bs S2).size ≤ 1000000003 := by rw [bs_size, hS2, hS1]; simp; omega
            have hl2 : (bs T).size ≤ 1000000001 := by
              rw [bs_size]
              have := congrArg List.length e1
              simp only [List.length_append] at this
              omega
            have E35 : Hid (bs S1 ++ (⟨#[44, 32]⟩ : ByteArray) = bs S2) := (by rw [show (⟨#[44, 32]⟩ : ByteArray) = bs [44, 32] from rfl, bs_cat, hS2] : bs S1 ++ (⟨#[44, 32]⟩ : ByteArray) = bs S2)
            have E43 : Hid (bs S2 ++ bs T = bs (S0 ++ jn f n.l (k + 1))) := (by rw [bs_cat, hS2, hS1, e1]; simp : bs S2 ++ bs T = bs (S0 ++ jn f n.l (k + 1)))
            rw [← hS1]
            clear hS1 hS2 hT e1
            go_wp2_with (first
              | (refine at_dstL 35 rfl ?_; refine wpList_is (some 35) (.string (bs S2)) rfl rfl (by rw [← E35.out]; exact run_add_str _ _ rfl _ _ rfl rfl (by show _ + 2 ≤ _; omega) _) ?_)
              | (refine at_dstL 40 rfl ?_; refine wpList_is (some 40) (.pointer (some ⟨g, off + k * 5, none⟩)) rfl (by rfl) (run_at_nd _ _ rfl g off k _ C rfl rfl (by omega) _) ?_)
              | (refine at_dstL 41 rfl ?_; refine wpList_is (some 41) (nval (nth n.l k) (Au k) (Cu k)) rfl (by rfl) (run_load_nd _ rfl g _ rfl _ HQ.out) ?_)
              | ((go_at_call 15)
                 (refine hc.mono ?_)
                 (rintro e w9 ⟨rfl, hb9⟩))
              | (refine at_dstL 43 rfl ?_; refine wpList_is (some 43) (.string (bs (S0 ++ jn f n.l (k + 1)))) rfl rfl (by rw [← E43.out]; exact run_add_str _ _ rfl _ _ rfl rfl (by omega) _) ?_))
            go_roundw
            case rel => exact ⟨k + 1, hlt, by go_num, bz.trans (hb9.mono bz.size), rfl⟩
            case measure => simp [intOf]; omega
        · obtain rfl : k = L := by omega
          obtain ⟨S1, hS1⟩ : ∃ S, S = S0 ++ jn f n.l k := ⟨_, rfl⟩
          have hl0 : (bs S1).size ≤ 1000000001 := by rw [bs_size, hS1]; simp; omega
          have E45 : Hid (bs S1 ++ (⟨#[41]⟩ : ByteArray) = bs (S1 ++ [41])) := (by rw [show (⟨#[41]⟩ : ByteArray) = bs [41] from rfl, bs_cat] : bs S1 ++ (⟨#[41]⟩ : ByteArray) = bs (S1 ++ [41]))
          rw [← hS1]
          have HS1 : Hid (S1 = S0 ++ jn f n.l k) := hS1
          clear hS1 hpa
          go_wp2_with (first
            | (refine at_dstL 45 rfl ?_; refine wpList_is (some 45) (.string (bs (S1 ++ [41]))) rfl rfl (by rw [← E45.out]; exact run_add_str _ _ rfl _ _ rfl rfl (by show _ + 1 ≤ _; omega) _) ?_))
          go_ret
          rw [← HS1.out]
          exact ⟨rfl, hbV.trans (bz.mono (by omega))⟩
end Go.Proofs.YtpckmllmjdafpaaGreatDoor
