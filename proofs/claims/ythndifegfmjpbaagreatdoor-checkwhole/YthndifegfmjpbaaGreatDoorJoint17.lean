/- Texts that the statements of this stage share, joined. -/
import Derived.Test.YthndifegfmjpbaaGreatDoorJoint16
import Derived.Test.YthndifegfmjpbaaGreatDoorJoint06
import Derived.Test.YthndifegfmjpbaaGreatDoorJoint07
namespace Go.Proofs.YthndifegfmjpbaaGreatDoor
set_option linter.unusedVariables false
set_option maxRecDepth 100000
set_option maxHeartbeats 40000000
section
open Go.ChangeShapes Go.WideShapes Go.ChangeAt Go.RowKit
theorem rone_hex {w : World} {l : List UInt8} {i : Nat} (hi : i < l.length) (hl : l.length ≤ 2000) (k4 : l[i] = 36) (h0 : cnt isHxy (l.drop (i + 1)) ≠ 0) (h : ¬ 128 < cnt isHxy (l.drop (i + 1))) (k3 : letAt (l.drop (i + 1 + cnt isHxy (l.drop (i + 1)))) = false) :
  Calls Tryz.prog 41 #[.string (bs l), .int .i64 (i : Nat)] w (ROneR w i ⟨2, (l.drop (i + 1)).take (cnt isHxy (l.drop (i + 1))), 0⟩ (i + 1 + cnt isHxy (l.drop (i + 1))) 0 (-1)) := by
 have hsz := bs_size l
 have h1 : i < (bs l).size := by omega
 have h2 : ((i : Nat) : Int) < ((bs l).size : Int) := by omega
 have hi2 : i ≤ 2000 := by omega
 have hz2 : (bs l).size ≤ 2000 := by omega
 have k4' : (bs l)[i]'h1 = 36 := by rw [bs_get]; exact k4
 have k1 : isSml ((bs l)[i]'h1) = false := by rw [k4']; decide
 have k2 : isFig ((bs l)[i]'h1) = false := by rw [k4']; decide
 have hs1 := rletter_tells ((bs l)[i]'h1)
 rw [k1] at hs1
 have hs2 := rfigure_tells ((bs l)[i]'h1)
 rw [k2] at hs2
 have hv : ((((bs l)[i]'h1).toNat : Nat) : Int) = 36 := by rw [k4']; rfl
 rw [hv] at hs1 hs2
 clear k1 k2 k4 k4'
 have hen := fun W => rend_hex l (i + 1) W hl (by omega)
 obtain ⟨J, hJ⟩ : ∃ J, J = (i + 1 + cnt isHxy (l.drop (i + 1))) := ⟨_, rfl⟩
 rw [← hJ] at hen ⊢
 have hJl : J ≤ l.length := by
  have := cnt_le isHxy (l.drop (i + 1))
  rw [List.length_drop] at this
  omega
 have hJ2 : J ≤ 2000 := by omega
 have ei : (((i + 1 : Nat) : Nat) : Int) = ((i : Nat) : Int) + 1 := by omega
 rw [ei] at hen
 have hba := fun W => rbare_c l J W hl hJl
 rw [show letAt (l.drop J) = false by rw [hJ]; exact k3] at hba
 have g1 : ¬ ((J : Nat) : Int) = ((i : Nat) : Int) + 1 := by omega
 have g2 : ¬ (128 : Int) < ((J : Nat) : Int) - ((i : Nat) : Int) - 1 := by omega
 have g3 : ((i : Nat) : Int) + 1 ≤ ((J : Nat) : Int) := by omega
 have g4 : ((J : Nat) : Int) ≤ ((bs l).size : Int) := by omega
 have hx : (bs l).extract (i + 1) J = bs ((l.drop (i + 1)).take (cnt isHxy (l.drop (i + 1)))) := by rw [bs_extract, hJ, Nat.add_sub_cancel_left]
 generalize (l.drop (i + 1)).take (cnt isHxy (l.drop (i + 1))) = X at hx ⊢
 clear hJ k3
 have HS : Hid ((bs l).size = l.length) := hsz
 clear hsz
 go_enter Tryz.func41, Tryz.ntmps41
 go_wp2_with (first
  | (go_at_call 72; refine (hs1 _).mono ?_; rintro e w' ⟨rfl, rfl⟩)
  | (go_at_call 73; refine (hs2 _).mono ?_; rintro e w' ⟨rfl, rfl⟩)
  | (go_at_call 74; refine (hen _).mono ?_; rintro e w' ⟨rfl, rfl⟩)
  | (go_at_call 75; refine (hba _).mono ?_; rintro e w' ⟨rfl, rfl⟩))
 exact bodyPost_ret (v := .tuple #[.agg (rtkv ⟨2, X, 0⟩ i), .int .i64 ((J : Nat) : Int), .int .i64 0, .int .i64 (-1)]) (by simp [results, Tryz.results41, go_sem, rtkv]) rfl ⟨rfl, two_below _⟩
theorem rone_sign40 {w : World} {l : List UInt8} {i : Nat} (hi : i < l.length) (hl : l.length ≤ 2000) (k4 : l[i] = 40) :
  Calls Tryz.prog 41 #[.string (bs l), .int .i64 (i : Nat)] w (ROneR w i ⟨3, [40], 0⟩ (i + 1) 0 (-1)) := by
 have hsz := bs_size l
 have h1 : i < (bs l).size := by omega
 have h2 : ((i : Nat) : Int) < ((bs l).size : Int) := by omega
 have hi2 : i ≤ 2000 := by omega
 have hz2 : (bs l).size ≤ 2000 := by omega
 have k4' : (bs l)[i]'h1 = 40 := by rw [bs_get]; exact k4
 have k1 : isSml ((bs l)[i]'h1) = false := by rw [k4']; decide
 have k2 : isFig ((bs l)[i]'h1) = false := by rw [k4']; decide
 have hs1 := rletter_tells ((bs l)[i]'h1)
 rw [k1] at hs1
 have hs2 := rfigure_tells ((bs l)[i]'h1)
 rw [k2] at hs2
 have hv : ((((bs l)[i]'h1).toNat : Nat) : Int) = 40 := by rw [k4']; rfl
 rw [hv] at hs1 hs2
 have hx : (bs l).extract i (i + 1) = bs [40] := by
  rw [bs_extract, List.drop_eq_getElem_cons hi, k4, Nat.add_sub_cancel_left]; rfl
 have hb1 : ((i : Nat) : Int) + 1 ≤ ((bs l).size : Int) := by omega
 clear k1 k2 k4 k4'
 have HS : Hid ((bs l).size = l.length) := hsz
 clear hsz
 go_enter Tryz.func41, Tryz.ntmps41
 go_wp2_with (first
  | (go_at_call 72; refine (hs1 _).mono ?_; rintro e w' ⟨rfl, rfl⟩)
  | (go_at_call 73; refine (hs2 _).mono ?_; rintro e w' ⟨rfl, rfl⟩))
 exact bodyPost_ret (v := .tuple #[.agg (rtkv ⟨3, [40], 0⟩ i), .int .i64 (((i + 1) : Nat) : Int), .int .i64 0, .int .i64 (-1)]) (by simp [results, Tryz.results41, go_sem, rtkv]) rfl ⟨rfl, two_below _⟩
theorem rone_sign41 {w : World} {l : List UInt8} {i : Nat} (hi : i < l.length) (hl : l.length ≤ 2000) (k4 : l[i] = 41) :
  Calls Tryz.prog 41 #[.string (bs l), .int .i64 (i : Nat)] w (ROneR w i ⟨3, [41], 0⟩ (i + 1) 0 (-1)) := by
 have hsz := bs_size l
 have h1 : i < (bs l).size := by omega
 have h2 : ((i : Nat) : Int) < ((bs l).size : Int) := by omega
 have hi2 : i ≤ 2000 := by omega
 have hz2 : (bs l).size ≤ 2000 := by omega
 have k4' : (bs l)[i]'h1 = 41 := by rw [bs_get]; exact k4
 have k1 : isSml ((bs l)[i]'h1) = false := by rw [k4']; decide
 have k2 : isFig ((bs l)[i]'h1) = false := by rw [k4']; decide
 have hs1 := rletter_tells ((bs l)[i]'h1)
 rw [k1] at hs1
 have hs2 := rfigure_tells ((bs l)[i]'h1)
 rw [k2] at hs2
 have hv : ((((bs l)[i]'h1).toNat : Nat) : Int) = 41 := by rw [k4']; rfl
 rw [hv] at hs1 hs2
 have hx : (bs l).extract i (i + 1) = bs [41] := by
  rw [bs_extract, List.drop_eq_getElem_cons hi, k4, Nat.add_sub_cancel_left]; rfl
 have hb1 : ((i : Nat) : Int) + 1 ≤ ((bs l).size : Int) := by omega
 clear k1 k2 k4 k4'
 have HS : Hid ((bs l).size = l.length) := hsz
 clear hsz
 go_enter Tryz.func41, Tryz.ntmps41
 go_wp2_with (first
  | (go_at_call 72; refine (hs1 _).mono ?_; rintro e w' ⟨rfl, rfl⟩)
  | (go_at_call 73; refine (hs2 _).mono ?_; rintro e w' ⟨rfl, rfl⟩))
 exact bodyPost_ret (v := .tuple #[.agg (rtkv ⟨3, [41], 0⟩ i), .int .i64 (((i + 1) : Nat) : Int), .int .i64 0, .int .i64 (-1)]) (by simp [results, Tryz.results41, go_sem, rtkv]) rfl ⟨rfl, two_below _⟩
end
section
open Go.ChangeShapes Go.WideShapes Go.ChangeAt Go.RowKit
theorem rone_sign44 {w : World} {l : List UInt8} {i : Nat} (hi : i < l.length) (hl : l.length ≤ 2000) (k4 : l[i] = 44) :
  Calls Tryz.prog 41 #[.string (bs l), .int .i64 (i : Nat)] w (ROneR w i ⟨3, [44], 0⟩ (i + 1) 0 (-1)) := by
 have hsz := bs_size l
 have h1 : i < (bs l).size := by omega
 have h2 : ((i : Nat) : Int) < ((bs l).size : Int) := by omega
 have hi2 : i ≤ 2000 := by omega
 have hz2 : (bs l).size ≤ 2000 := by omega
 have k4' : (bs l)[i]'h1 = 44 := by rw [bs_get]; exact k4
 have k1 : isSml ((bs l)[i]'h1) = false := by rw [k4']; decide
 have k2 : isFig ((bs l)[i]'h1) = false := by rw [k4']; decide
 have hs1 := rletter_tells ((bs l)[i]'h1)
 rw [k1] at hs1
 have hs2 := rfigure_tells ((bs l)[i]'h1)
 rw [k2] at hs2
 have hv : ((((bs l)[i]'h1).toNat : Nat) : Int) = 44 := by rw [k4']; rfl
 rw [hv] at hs1 hs2
 have hx : (bs l).extract i (i + 1) = bs [44] := by
  rw [bs_extract, List.drop_eq_getElem_cons hi, k4, Nat.add_sub_cancel_left]; rfl
 have hb1 : ((i : Nat) : Int) + 1 ≤ ((bs l).size : Int) := by omega
 clear k1 k2 k4 k4'
 have HS : Hid ((bs l).size = l.length) := hsz
 clear hsz
 go_enter Tryz.func41, Tryz.ntmps41
 go_wp2_with (first
  | (go_at_call 72; refine (hs1 _).mono ?_; rintro e w' ⟨rfl, rfl⟩)
  | (go_at_call 73; refine (hs2 _).mono ?_; rintro e w' ⟨rfl, rfl⟩))
 exact bodyPost_ret (v := .tuple #[.agg (rtkv ⟨3, [44], 0⟩ i), .int .i64 (((i + 1) : Nat) : Int), .int .i64 0, .int .i64 (-1)]) (by simp [results, Tryz.results41, go_sem, rtkv]) rfl ⟨rfl, two_below _⟩
theorem rone_sign61 {w : World} {l : List UInt8} {i : Nat} (hi : i < l.length) (hl : l.length ≤ 2000) (k4 : l[i] = 61) :
  Calls Tryz.prog 41 #[.string (bs l), .int .i64 (i : Nat)] w (ROneR w i ⟨3, [61], 0⟩ (i + 1) 0 (-1)) := by
 have hsz := bs_size l
 have h1 : i < (bs l).size := by omega
 have h2 : ((i : Nat) : Int) < ((bs l).size : Int) := by omega
 have hi2 : i ≤ 2000 := by omega
 have hz2 : (bs l).size ≤ 2000 := by omega
 have k4' : (bs l)[i]'h1 = 61 := by rw [bs_get]; exact k4
 have k1 : isSml ((bs l)[i]'h1) = false := by rw [k4']; decide
 have k2 : isFig ((bs l)[i]'h1) = false := by rw [k4']; decide
 have hs1 := rletter_tells ((bs l)[i]'h1)
 rw [k1] at hs1
 have hs2 := rfigure_tells ((bs l)[i]'h1)
 rw [k2] at hs2
 have hv : ((((bs l)[i]'h1).toNat : Nat) : Int) = 61 := by rw [k4']; rfl
 rw [hv] at hs1 hs2
 have hx : (bs l).extract i (i + 1) = bs [61] := by
  rw [bs_extract, List.drop_eq_getElem_cons hi, k4, Nat.add_sub_cancel_left]; rfl
 have hb1 : ((i : Nat) : Int) + 1 ≤ ((bs l).size : Int) := by omega
 clear k1 k2 k4 k4'
 have HS : Hid ((bs l).size = l.length) := hsz
 clear hsz
 go_enter Tryz.func41, Tryz.ntmps41
 go_wp2_with (first
  | (go_at_call 72; refine (hs1 _).mono ?_; rintro e w' ⟨rfl, rfl⟩)
  | (go_at_call 73; refine (hs2 _).mono ?_; rintro e w' ⟨rfl, rfl⟩))
 exact bodyPost_ret (v := .tuple #[.agg (rtkv ⟨3, [61], 0⟩ i), .int .i64 (((i + 1) : Nat) : Int), .int .i64 0, .int .i64 (-1)]) (by simp [results, Tryz.results41, go_sem, rtkv]) rfl ⟨rfl, two_below _⟩
theorem rone_sign59 {w : World} {l : List UInt8} {i : Nat} (hi : i < l.length) (hl : l.length ≤ 2000) (k4 : l[i] = 59) :
  Calls Tryz.prog 41 #[.string (bs l), .int .i64 (i : Nat)] w (ROneR w i ⟨3, [59], 0⟩ (i + 1) 0 (-1)) := by
 have hsz := bs_size l
 have h1 : i < (bs l).size := by omega
 have h2 : ((i : Nat) : Int) < ((bs l).size : Int) := by omega
 have hi2 : i ≤ 2000 := by omega
 have hz2 : (bs l).size ≤ 2000 := by omega
 have k4' : (bs l)[i]'h1 = 59 := by rw [bs_get]; exact k4
 have k1 : isSml ((bs l)[i]'h1) = false := by rw [k4']; decide
 have k2 : isFig ((bs l)[i]'h1) = false := by rw [k4']; decide
 have hs1 := rletter_tells ((bs l)[i]'h1)
 rw [k1] at hs1
 have hs2 := rfigure_tells ((bs l)[i]'h1)
 rw [k2] at hs2
 have hv : ((((bs l)[i]'h1).toNat : Nat) : Int) = 59 := by rw [k4']; rfl
 rw [hv] at hs1 hs2
 have hx : (bs l).extract i (i + 1) = bs [59] := by
  rw [bs_extract, List.drop_eq_getElem_cons hi, k4, Nat.add_sub_cancel_left]; rfl
 have hb1 : ((i : Nat) : Int) + 1 ≤ ((bs l).size : Int) := by omega
 clear k1 k2 k4 k4'
 have HS : Hid ((bs l).size = l.length) := hsz
 clear hsz
 go_enter Tryz.func41, Tryz.ntmps41
 go_wp2_with (first
  | (go_at_call 72; refine (hs1 _).mono ?_; rintro e w' ⟨rfl, rfl⟩)
  | (go_at_call 73; refine (hs2 _).mono ?_; rintro e w' ⟨rfl, rfl⟩))
 exact bodyPost_ret (v := .tuple #[.agg (rtkv ⟨3, [59], 0⟩ i), .int .i64 (((i + 1) : Nat) : Int), .int .i64 0, .int .i64 (-1)]) (by simp [results, Tryz.results41, go_sem, rtkv]) rfl ⟨rfl, two_below _⟩
theorem rone_none {w : World} {l : List UInt8} {i : Nat} (hi : i < l.length) (hl : l.length ≤ 2000) (k1 : isSml l[i] = false) (k2 : isFig l[i] = false) (d1 : l[i] ≠ 36) (d2 : l[i] ≠ 40) (d3 : l[i] ≠ 41) (d4 : l[i] ≠ 44) (d5 : l[i] ≠ 61) (d6 : l[i] ≠ 59) :
  Calls Tryz.prog 41 #[.string (bs l), .int .i64 (i : Nat)] w (ROneR w i ⟨0, [], 0⟩ i 101 (i : Nat)) := by
 have hsz := bs_size l
 have h1 : i < (bs l).size := by omega
 have h2 : ((i : Nat) : Int) < ((bs l).size : Int) := by omega
 have hi2 : i ≤ 2000 := by omega
 have hz2 : (bs l).size ≤ 2000 := by omega
 have hc1 : isSml ((bs l)[i]'h1) = false := by rw [bs_get]; exact k1
 have hs1 := rletter_tells ((bs l)[i]'h1)
 rw [hc1] at hs1
 clear hc1 k1
 have hc2 : isFig ((bs l)[i]'h1) = false := by rw [bs_get]; exact k2
 have hs2 := rfigure_tells ((bs l)[i]'h1)
 rw [hc2] at hs2
 clear hc2 k2
 have hv : ∀ k : Nat, k < 256 → l[i] ≠ UInt8.ofNat k → (((((bs l)[i]'h1).toNat : Nat) : Int) == (k : Int)) = false := by
  intro k hk hne
  rw [← Bool.not_eq_true]
  intro e
  apply hne
  have e := eq_of_beq e
  rw [bs_get] at e
  exact val_of (by omega)
 have v1 : (((((bs l)[i]'h1).toNat : Nat) : Int) == 36) = false := hv 36 (by decide) d1
 have v2 : (((((bs l)[i]'h1).toNat : Nat) : Int) == 40) = false := hv 40 (by decide) d2
 have v3 : (((((bs l)[i]'h1).toNat : Nat) : Int) == 41) = false := hv 41 (by decide) d3
 have v4 : (((((bs l)[i]'h1).toNat : Nat) : Int) == 44) = false := hv 44 (by decide) d4
 have v5 : (((((bs l)[i]'h1).toNat : Nat) : Int) == 61) = false := hv 61 (by decide) d5
 have v6 : (((((bs l)[i]'h1).toNat : Nat) : Int) == 59) = false := hv 59 (by decide) d6
 have u1 : ¬ ((((bs l)[i]'h1).toNat : Nat) : Int) = 36 := by simpa using v1
 have u2 : ¬ ((((bs l)[i]'h1).toNat : Nat) : Int) = 40 := by simpa using v2
 have u3 : ¬ ((((bs l)[i]'h1).toNat : Nat) : Int) = 41 := by simpa using v3
 have u4 : ¬ ((((bs l)[i]'h1).toNat : Nat) : Int) = 44 := by simpa using v4
 have u5 : ¬ ((((bs l)[i]'h1).toNat : Nat) : Int) = 61 := by simpa using v5
 have u6 : ¬ ((((bs l)[i]'h1).toNat : Nat) : Int) = 59 := by simpa using v6
 clear hv
 have HS : Hid ((bs l).size = l.length) := hsz
 clear hsz
 go_enter Tryz.func41, Tryz.ntmps41
 go_wp2_with (first
  | (go_at_call 72; refine (hs1 _).mono ?_; rintro e w' ⟨rfl, rfl⟩)
  | (go_at_call 73; refine (hs2 _).mono ?_; rintro e w' ⟨rfl, rfl⟩))
 exact bodyPost_ret (v := .tuple #[.agg (rtkv ⟨0, [], 0⟩ i), .int .i64 ((i : Nat) : Int), .int .i64 101, .int .i64 (i : Nat)]) (by simp [results, Tryz.results41, go_sem, rtkv, rbs_nil]) rfl ⟨rfl, two_below _⟩
end
section
open Go.ChangeShapes Go.WideShapes Go.ChangeAt Go.RowKit
theorem rfig_get {l : List UInt8} {p j : Nat} (hj : j < cnt isFig (l.drop p)) : ∃ h : p + j < l.length, isFig (l[p + j]) = true := by
 have hl := cnt_le isFig (l.drop p)
 rw [List.length_drop] at hl
 have h : p + j < l.length := by omega
 exact ⟨h, (cnt_at (by omega) h).1 hj⟩
theorem rval_next {l : List UInt8} {p j : Nat} (h : p + j < l.length) : val ((l.drop p).take (j + 1)) = 10 * val ((l.drop p).take j) + (l[p + j].toNat - 48) := by
 have h2 : j < (l.drop p).length := by rw [List.length_drop]; omega
 rw [List.take_succ_eq_append_getElem h2, val_snoc]
 simp
theorem rval_lt {l : List UInt8} {p j : Nat} (hj : j ≤ cnt isFig (l.drop p)) (h9 : ¬ 9 < cnt isFig (l.drop p)) : val ((l.drop p).take j) < 1000000000 := by
 have h1 := val_bound ((l.drop p).take j) (fun c hc => mem_cnt (p := isFig) (x := l.drop p) c (by
  have : (l.drop p).take j = ((l.drop p).take (cnt isFig (l.drop p))).take j := by rw [List.take_take, Nat.min_eq_left hj]
  rw [this] at hc
  exact List.mem_of_mem_take hc))
 have h2 : 10 ^ ((l.drop p).take j).length ≤ 10 ^ 9 := Nat.pow_le_pow_right (by decide) (by rw [List.length_take]; omega)
 exact Nat.lt_of_lt_of_le h1 h2
structure RNum (w wr : World) (V i : Nat) : Prop where
 tok : Has wr (w.heap.size + 1) 100 #[.int .i64 1, .string ⟨#[]⟩, .int .i64 (V : Nat), .int .i64 (i : Nat)]
 res : Has wr w.heap.size 100 #[.int .i64 0, .string ⟨#[]⟩, .int .i64 0, .int .i64 0]
 below : Below w.heap.size w wr
theorem RNum.step {w wr : World} {V i : Nat} (h : RNum w wr V i) {V' : Nat} {z : Int} (hz : z = (V' : Nat)) : RNum w (wr.setCell ⟨w.heap.size + 1, 2, none⟩ (.int .i64 z)) V' i := by
 subst hz
 have h' : wr.heap[w.heap.size + 1]? = some (.cells #[.int .i64 1, .string ⟨#[]⟩, .int .i64 (V : Nat), .int .i64 (i : Nat)] 100 (0, 0)) := h.tok
 refine ⟨?_, h.res.other (show w.heap.size ≠ w.heap.size + 1 by omega) _, h.below.setCell (p := ⟨w.heap.size + 1, 2, none⟩) (by simp) _⟩
 show (wr.setCell ⟨w.heap.size + 1, 2, none⟩ (.int .i64 (V' : Nat))).heap[w.heap.size + 1]? = _
 simp [World.setCell, Array.getElem?_modify, h']
theorem RNum.drew {w wr : World} {V i : Nat} (h : RNum w wr V i) : RNum w wr.drew V i := ⟨h.tok, h.res, ⟨h.below.os, h.below.tape, h.below.output, h.below.size, h.below.block⟩⟩
theorem RNum.last {w wr : World} {V i : Nat} (h : RNum w wr V i) {v0 v1 v2 v3 : Value} : Below w.heap.size w ((((wr.setCell ⟨w.heap.size, 0, none⟩ v0).setCell ⟨w.heap.size, 1, none⟩ v1).setCell ⟨w.heap.size, 2, none⟩ v2).setCell ⟨w.heap.size, 3, none⟩ v3) :=
 (((h.below.setCell (p := ⟨w.heap.size, 0, none⟩) (Nat.le_refl _) v0).setCell (p := ⟨w.heap.size, 1, none⟩) (Nat.le_refl _) v1).setCell (p := ⟨w.heap.size, 2, none⟩) (Nat.le_refl _) v2).setCell (p := ⟨w.heap.size, 3, none⟩) (Nat.le_refl _) v3
theorem rone_num {w : World} {l : List UInt8} {i : Nat} (hi : i < l.length) (hl : l.length ≤ 2000) (k1 : isSml l[i] = false) (k2 : isFig l[i] = true) (h : ¬ 9 < cnt isFig (l.drop i)) (k3 : letAt (l.drop (i + cnt isFig (l.drop i))) = false) :
  Calls Tryz.prog 41 #[.string (bs l), .int .i64 (i : Nat)] w (ROneR w i ⟨1, [], val ((l.drop i).take (cnt isFig (l.drop i)))⟩ (i + cnt isFig (l.drop i)) 0 (-1)) := by
 have hsz := bs_size l
 have h1 : i < (bs l).size := by omega
 have h2 : ((i : Nat) : Int) < ((bs l).size : Int) := by omega
 have hi2 : i ≤ 2000 := by omega
 have hz2 : (bs l).size ≤ 2000 := by omega
 have hc1 : isSml ((bs l)[i]'h1) = false := by rw [bs_get]; exact k1
 have hs1 := rletter_tells ((bs l)[i]'h1)
 rw [hc1] at hs1
 have hc2 : isFig ((bs l)[i]'h1) = true := by rw [bs_get]; exact k2
 have hs2 := rfigure_tells ((bs l)[i]'h1)
 rw [hc2] at hs2
 have hen := fun W => rend_figure l i W hl (by omega)
 have hfg : ∀ j, j < cnt isFig (l.drop i) → ∃ h : i + j < l.length, isFig (l[i + j]) = true := fun j hj => rfig_get hj
 have hvl : ∀ j, j ≤ cnt isFig (l.drop i) → val ((l.drop i).take j) < 1000000000 := fun j hj => rval_lt hj h
 obtain ⟨n, hn⟩ : ∃ n, n = cnt isFig (l.drop i) := ⟨_, rfl⟩
 rw [← hn] at hen hfg hvl h k3 ⊢
 obtain ⟨J, hJ⟩ : ∃ J, J = i + n := ⟨_, rfl⟩
 have hJl : J ≤ l.length := by
  have := cnt_le isFig (l.drop i)
  rw [List.length_drop] at this
  omega
 rw [← hJ] at hen ⊢
 have hJ2 : J ≤ 2000 := by omega
 have hba := fun W => rbare_c l J W hl hJl
 rw [show letAt (l.drop J) = false by rw [hJ]; exact k3] at hba
 have g1 : ¬ (9 : Int) < ((J : Nat) : Int) - ((i : Nat) : Int) := by omega
 have HS : Hid ((bs l).size = l.length) := hsz
 have HJ : Hid (J = i + n) := hJ
 clear hsz hc1 hc2 k1 k2 k3 hn hJ
 go_enter Tryz.func41, Tryz.ntmps41
 go_wp2_with (first
  | (go_at_call 72; refine (hs1 _).mono ?_; rintro e w' ⟨rfl, rfl⟩)
  | (go_at_call 73; refine (hs2 _).mono ?_; rintro e w' ⟨rfl, rfl⟩)
  | (go_at_call 74; refine (hen _).mono ?_; rintro e w' ⟨rfl, rfl⟩)
  | (go_at_call 75; refine (hba _).mono ?_; rintro e w' ⟨rfl, rfl⟩))
 go_loopw [15] (fun z wr => ∃ k : Nat, k ≤ n ∧ z = .int .i64 ((i + k : Nat) : Int) ∧ RNum w wr (val ((l.drop i).take k)) i) (fun z _ => 2000 - (intOf z).toNat)
 case atStart => exact ⟨0, Nat.zero_le _, rfl, Has.new_at (by simp), (Has.new_at rfl).alloc _, two_below _⟩
 case round =>
  obtain ⟨k, hk, rfl, hN⟩ := hrel
  have hv9 := hvl k hk
  obtain ⟨P, hP⟩ : ∃ P, P = i + k := ⟨_, rfl⟩
  rw [← hP]
  have HP : Hid (P = i + k) := hP
  have hP2 : P ≤ 2000 := by have := HJ.out; omega
  clear hP
  by_cases hlt : k < n
  · obtain ⟨x1, x2⟩ := hfg k hlt
    have a1 : P < (bs l).size := by rw [HS.out, HP.out]; exact x1
    have a2 : ((P : Nat) : Int) < ((bs l).size : Int) := by omega
    have a3 : ((P : Nat) : Int) < ((J : Nat) : Int) := by have h8 := HP.out; have h9 := HJ.out; omega
    have y3 : (bs l)[P]'a1 = l[i + k] := by rw [bs_get]; simp only [HP.out]
    rw [isFig_eq, Bool.and_eq_true, decide_eq_true_eq, decide_eq_true_eq] at x2
    have x3 : 48 ≤ ((((bs l)[P]'a1).toNat : Nat) : Int) ∧ ((((bs l)[P]'a1).toNat : Nat) : Int) ≤ 57 := by rw [y3]; exact x2
    have hvn := rval_next x1
    have HVN : Hid (((val ((l.drop i).take (k + 1)) : Nat) : Int) = 10 * ((val ((l.drop i).take k) : Nat) : Int) + (((((bs l)[P]'a1).toNat : Nat) : Int) - 48)) := by
     show _ = _
     rw [hvn, y3]
     omega
    have hstep := fun z hz => hN.step (V' := val ((l.drop i).take (k + 1))) (z := z) hz
    generalize val ((l.drop i).take k) = V at hv9 HVN hN hstep
    have c2 : wr.cell? ⟨w.heap.size + 1, 2, none⟩ = some (.int .i64 (V : Nat)) := hN.tok.cell 2
    have f2 := hN.tok.free 2
    obtain ⟨x4, x5⟩ := x3
    clear hvn y3 x2 hfg hvl
    go_wp2
    go_region
    all_goals
     go_wp2
     go_roundw
     case rel => exact ⟨k + 1, by omega, by have := HP.out; go_num, (hstep _ HVN.out.symm).drew⟩
     case measure => simp [intOf]; omega
  · have hkn : k = n := by omega
    subst hkn
    have a3 : ¬ ((P : Nat) : Int) < ((J : Nat) : Int) := by have h8 := HP.out; have h9 := HJ.out; omega
    obtain ⟨V, hV⟩ : ∃ V, V = val ((l.drop i).take k) := ⟨_, rfl⟩
    rw [← hV] at hv9 hN
    have HV : Hid (V = val ((l.drop i).take k)) := hV
    clear hV
    have c0 : wr.cell? ⟨w.heap.size + 1, 0, none⟩ = some (.int .i64 1) := hN.tok.cell 0
    have c1 : wr.cell? ⟨w.heap.size + 1, 1, none⟩ = some (.string ⟨#[]⟩) := hN.tok.cell 1
    have c2 : wr.cell? ⟨w.heap.size + 1, 2, none⟩ = some (.int .i64 (V : Nat)) := hN.tok.cell 2
    have c3 : wr.cell? ⟨w.heap.size + 1, 3, none⟩ = some (.int .i64 (i : Nat)) := hN.tok.cell 3
    have r0 : wr.cell? ⟨w.heap.size, 0, none⟩ = some (.int .i64 0) := hN.res.cell 0
    have r1 : wr.cell? ⟨w.heap.size, 1, none⟩ = some (.string ⟨#[]⟩) := hN.res.cell 1
    have r2 : wr.cell? ⟨w.heap.size, 2, none⟩ = some (.int .i64 0) := hN.res.cell 2
    have r3 : wr.cell? ⟨w.heap.size, 3, none⟩ = some (.int .i64 0) := hN.res.cell 3
    have f0 := hN.res.free 0
    have f1 := hN.res.free 1
    have f2 := hN.res.free 2
    have f3 := hN.res.free 3
    clear hfg hvl
    go_wp2
    exact bodyPost_ret (v := .tuple #[.agg (rtkv ⟨1, [], V⟩ i), .int .i64 ((J : Nat) : Int), .int .i64 0, .int .i64 (-1)]) (by simp [results, Tryz.results41, go_sem, rtkv, rbs_nil, r0, r1, r2, r3]) rfl ⟨by rw [HV.out], hN.last⟩
end
section
open Go.ChangeShapes Go.WideShapes Go.ChangeAt Go.RowKit
theorem rone_ok {w : World} {l : List UInt8} {i n : Nat} {t : Tk} (hi : i < l.length) (hl : l.length ≤ 2000) (h : one (l.drop i) = .ok (t, n)) :
  Calls Tryz.prog 41 #[.string (bs l), .int .i64 (i : Nat)] w (ROneR w i t (i + n) 0 (-1)) := by
 rw [one_at hi] at h
 split at h
 · rename_i k1
   split at h
   · cases h
   · rename_i hn
     cases h
     exact rone_word hi hl k1 hn
 · rename_i k1
   have k1 : isSml l[i] = false := by simpa using k1
   split at h
   · rename_i k2
     split at h
     · cases h
     · rename_i hn
       split at h
       · cases h
       · rename_i hla
         cases h
         exact rone_num hi hl k1 k2 hn (by simpa using hla)
   · rename_i k2
     split at h
     · rename_i k4
       have k4 := eq_of_beq k4
       split at h
       · cases h
       · rename_i h0
         split at h
         · cases h
         · rename_i hn
           split at h
           · cases h
           · rename_i hla
             cases h
             rw [show i + (cnt isHxy (l.drop (i + 1)) + 1) = i + 1 + cnt isHxy (l.drop (i + 1)) by omega]
             exact rone_hex hi hl k4 h0 hn (by simpa using hla)
     · split at h
       · rename_i k5
         cases h
         rcases sgn_cases k5 with e | e | e | e | e
         · rw [e]; exact rone_sign40 hi hl e
         · rw [e]; exact rone_sign41 hi hl e
         · rw [e]; exact rone_sign44 hi hl e
         · rw [e]; exact rone_sign61 hi hl e
         · rw [e]; exact rone_sign59 hi hl e
       · cases h
def ROneF (w : World) (i er o : Nat) (e : Ending) (w' : World) : Prop := ∃ t E, ROneR w i t E (er : Nat) ((i + o : Nat) : Int) e w'
theorem rone_bad {w : World} {l : List UInt8} {i er o : Nat} (hi : i < l.length) (hl : l.length ≤ 2000) (h : one (l.drop i) = .error (er, o)) :
  Calls Tryz.prog 41 #[.string (bs l), .int .i64 (i : Nat)] w (ROneF w i er o) := by
 rw [one_at hi] at h
 split at h
 · rename_i k1
   split at h
   · rename_i hn
     cases h
     exact (rone_wordL hi hl k1 hn).mono fun e w' hr => ⟨_, _, hr⟩
   · cases h
 · rename_i k1
   have k1 : isSml l[i] = false := by simpa using k1
   split at h
   · rename_i k2
     split at h
     · rename_i hn
       cases h
       exact (rone_numL hi hl k1 k2 hn).mono fun e w' hr => ⟨_, _, hr⟩
     · rename_i hn
       split at h
       · rename_i hla
         cases h
         exact (rone_numB hi hl k1 k2 hn hla).mono fun e w' hr => ⟨_, _, hr⟩
       · cases h
   · rename_i k2
     have k2 : isFig l[i] = false := by simpa using k2
     split at h
     · rename_i k4
       have k4 := eq_of_beq k4
       split at h
       · rename_i h0
         cases h
         exact (rone_hexN hi hl k4 h0).mono fun e w' hr => ⟨_, _, hr⟩
       · rename_i h0
         split at h
         · rename_i hn
           cases h
           exact (rone_hexL hi hl k4 hn).mono fun e w' hr => ⟨_, _, hr⟩
         · rename_i hn
           split at h
           · rename_i hla
             cases h
             rw [show cnt isHxy (l.drop (i + 1)) + 1 = 1 + cnt isHxy (l.drop (i + 1)) by omega]
             have hb := rone_hexB (w := w) hi hl k4 h0 hn hla
             rw [show i + 1 + cnt isHxy (l.drop (i + 1)) = i + (1 + cnt isHxy (l.drop (i + 1))) by omega] at hb
             exact hb.mono fun e w' hr => ⟨_, _, hr⟩
           · cases h
     · rename_i d1
       split at h
       · cases h
       · rename_i d2
         cases h
         simp [isSgn] at d2
         exact (rone_none hi hl k1 k2 (by simpa using d1) d2.1.1.1.1 d2.1.1.1.2 d2.1.1.2 d2.1.2 d2.2).mono fun e w' hr => ⟨_, _, hr⟩
end
section
open Go.ChangeShapes Go.WideShapes Go.ChangeAt Go.RowKit
def scanR : Nat → List UInt8 → Nat → Nat → Except (Nat × Nat) Toks
 | 0, _, _, _ => .ok []
 | f + 1, x, a, k =>
   if x.drop (skp false x) = [] then .ok [] else
   if k = 500 then .error (103, a + skp false x) else
   match one (x.drop (skp false x)) with
   | .error (e, o) => .error (e, a + skp false x + o)
   | .ok (t, n) => ahead [(t, a + skp false x)] (scanR f (x.drop (skp false x + n)) (a + skp false x + n) (k + 1))
def ScanRef (l : List UInt8) : Except (Nat × Nat) Toks := if 2000 < l.length then .error (103, 0) else scanR (l.length + 1) l 0 0
theorem scanR_ok (f : Nat) : ∀ (x : List UInt8) (a k : Nat) (ts : Toks), scanR f x a k = .ok ts ↔ scan f x a k = .ok ts := by
 induction f with
 | zero => intro x a k ts; exact Iff.rfl
 | succ f ih =>
   intro x a k ts
   by_cases hne : x.drop (skp false x) = []
   · rw [scan_end hne, scanR, if_pos hne]
   · rw [scanR, if_neg hne]
     by_cases h5 : k = 500
     · subst h5
       rw [if_pos rfl]
       cases hr : one (x.drop (skp false x)) with
       | error e => obtain ⟨e, o⟩ := e; rw [scan_bad hne hr]; constructor <;> intro h <;> cases h
       | ok r => obtain ⟨t, n⟩ := r; rw [scan_many hne hr]
     · rw [if_neg h5]
       cases hr : one (x.drop (skp false x)) with
       | error e => obtain ⟨e, o⟩ := e; rw [scan_bad hne hr]
       | ok r =>
         obtain ⟨t, n⟩ := r
         rw [scan_next hne hr h5]
         have hi := ih (x.drop (skp false x + n)) (a + skp false x + n) (k + 1)
         simp only
         generalize scanR f (x.drop (skp false x + n)) (a + skp false x + n) (k + 1) = A at hi ⊢
         generalize scan f (x.drop (skp false x + n)) (a + skp false x + n) (k + 1) = C at hi ⊢
         cases A with
         | ok us => rw [(hi us).1 rfl]
         | error e =>
           cases C with
           | ok us => have := (hi us).2 rfl; cases this
           | error e' => constructor <;> intro h <;> cases h
theorem ScanRef_ok (l : List UInt8) (ts : Toks) : ScanRef l = .ok ts ↔ Scan l = .ok ts := by
 unfold ScanRef Scan
 split
 · constructor <;> intro h <;> cases h
 · exact scanR_ok _ _ _ _ _
theorem scanR_end {f : Nat} {x : List UInt8} {a k : Nat} (h : x.drop (skp false x) = []) : scanR (f + 1) x a k = .ok [] := by rw [scanR, if_pos h]
theorem scanR_many {f : Nat} {x : List UInt8} {a : Nat} (h : x.drop (skp false x) ≠ []) : scanR (f + 1) x a 500 = .error (103, a + skp false x) := by rw [scanR, if_neg h, if_pos rfl]
theorem scanR_bad {f : Nat} {x : List UInt8} {a k e o : Nat} (h : x.drop (skp false x) ≠ []) (hk : k ≠ 500) (ho : one (x.drop (skp false x)) = .error (e, o)) : scanR (f + 1) x a k = .error (e, a + skp false x + o) := by simp only [scanR, if_neg h, if_neg hk, ho]
theorem scanR_next {f : Nat} {x : List UInt8} {a k : Nat} {t : Tk} {n : Nat} (h : x.drop (skp false x) ≠ []) (hk : k ≠ 500) (ho : one (x.drop (skp false x)) = .ok (t, n)) :
  scanR (f + 1) x a k = ahead [(t, a + skp false x)] (scanR f (x.drop (skp false x + n)) (a + skp false x + n) (k + 1)) := by simp only [scanR, if_neg h, if_neg hk, ho]
def RScanAt (w wr : World) (l : List UInt8) (v : Value) (i : Nat) (ts : Toks) : Prop := i ≤ l.length ∧ Below w.heap.size w wr ∧ TokRow wr w.heap.size v ts ∧ ts.length ≤ 500 ∧ ∃ f, l.length - i ≤ f ∧ ScanRef l = ahead ts (scanR (f + 1) (l.drop i) i ts.length)
theorem rscan_long (w : World) (l : List UInt8) (h : 2000 < l.length) (hm : l.length ≤ maxLen) : Calls Tryz.prog 21 #[.string (bs l)] w (ScanR w (ScanRef l)) := by
 unfold maxLen at hm
 have hsz := bs_size l
 have h1 : (2000 : Int) < ((bs l).size : Int) := by omega
 have HR : Hid (ScanRef l = .error (103, 0)) := by show ScanRef l = _; unfold ScanRef; rw [if_pos h]
 clear hsz
 go_enter Tryz.func21, Tryz.ntmps21
 go_wp2
 go_ret3
 exact ⟨Below.refl _ _, by rw [HR.out]; rfl⟩
theorem rscan_c (w : World) (l : List UInt8) (h : ¬ 2000 < l.length) : Calls Tryz.prog 21 #[.string (bs l)] w (ScanR w (ScanRef l)) := by
 have hl : l.length ≤ 2000 := by omega
 have hsz := bs_size l
 have h1 : ¬ (2000 : Int) < ((bs l).size : Int) := by omega
 have HS : Hid ((bs l).size = l.length) := hsz
 have hp := fun W => rskip_c l 0 W hl (Nat.zero_le _)
 clear hsz
 simp only [Nat.zero_add] at hp
 go_enter Tryz.func21, Tryz.ntmps21
 go_wp2_with (go_at_call 40; refine (hp _).mono ?_; rintro e w1 ⟨rfl, hw1⟩; obtain rfl : w = w1 := hw1.symm)
 go_loopw [5, 6] (fun v z wr => ∃ (i : Nat) (ts : Toks), RScanAt w wr l v i ts ∧ z = .int .i64 ((i + skp false (l.drop i) : Nat) : Int)) (fun _ z _ => 2000 - (intOf z).toNat)
 case atStart => exact ⟨0, [], ⟨Nat.zero_le _, Below.refl _ _, TokRow.empty _ _, by simp, l.length, by omega, by rw [ahead_nil]; unfold ScanRef; rw [if_neg h]; rfl⟩, by simp⟩
 case round =>
  clear hp
  obtain ⟨i, ts, hA, rfl⟩ := hrel
  have hle := skp_le false (l.drop i)
  rw [List.length_drop] at hle
  obtain ⟨hi, hbw, hrow, h500, f, hf, heq⟩ := hA
  obtain ⟨A, C, rfl⟩ := row_slice hrow
  obtain ⟨J, hJ⟩ : ∃ J, J = i + skp false (l.drop i) := ⟨_, rfl⟩
  have hJ2 : J ≤ 2000 := by omega
  have HJ : Hid (J = i + skp false (l.drop i)) := hJ
  rw [← hJ]
  obtain ⟨M, hM⟩ : ∃ M, M = ts.length := ⟨_, rfl⟩
  have HM : Hid (M = ts.length) := hM
  rw [← hM] at h500 hrow heq ⊢
  have hM2 : M ≤ 500 := h500
  clear hM h500 hle
  have hdd : (l.drop i).drop (skp false (l.drop i)) = l.drop J := by rw [List.drop_drop, ← hJ]
  by_cases hlt : J < l.length
  · have h2 : ((J : Nat) : Int) < ((bs l).size : Int) := by rw [HS.out]; omega
    have hne : (l.drop i).drop (skp false (l.drop i)) ≠ [] := by
     rw [hdd]; intro e; have := congrArg List.length e; simp at this; omega
    by_cases h5 : M = 500
    · subst h5
      rw [scanR_many hne, ← hJ] at heq
      have HB : Hid (ScanRef l = .error (103, J)) := heq
      clear heq hne hdd hJ
      go_wp2
      go_ret3
      exact ⟨hbw, by rw [HB.out]; rfl⟩
    · have h5' : ¬ ((M : Nat) : Int) = 500 := by omega
      cases ho : one (l.drop J) with
      | error r =>
        obtain ⟨er, o⟩ := r
        rw [scanR_bad hne h5 (by rw [hdd]; exact ho), ← hJ] at heq
        have HB : Hid (ScanRef l = .error (er, J + o)) := heq
        have ht := fun W => rone_bad (w := W) hlt hl ho
        have her : ¬ ((er : Nat) : Int) = 0 := by rcases one_err ho with e | ⟨e, _⟩ <;> omega
        obtain ⟨Z, hZ⟩ : ∃ Z, Z = J + o := ⟨_, rfl⟩
        unfold ROneF at ht
        rw [← hZ] at ht
        have HZ : Hid (Z = J + o) := hZ
        clear heq hne hdd hJ ho hZ
        go_wp2_with (go_at_call 41; refine (ht _).mono ?_; rintro e w2 ⟨t, E, rfl, hb2⟩; simp only [rtkv])
        go_ret3
        exact ⟨scan_b1 hbw hb2 _, by rw [HB.out, ← HZ.out]; rfl⟩
      | ok r =>
        obtain ⟨t, n⟩ := r
        have hn := one_len ho
        rw [List.length_drop] at hn
        rw [scanR_next hne h5 (by rw [hdd]; exact ho), ← hJ, ahead_ahead, List.drop_drop, show i + (skp false (l.drop i) + n) = J + n by omega] at heq
        have ht := fun W => rone_ok (w := W) hlt hl ho
        have hp := fun W => rskip_c l (J + n) W hl (by omega)
        obtain ⟨E, hE⟩ : ∃ E, E = J + n := ⟨_, rfl⟩
        rw [← hE] at hp ht heq
        have hE1 : J < E := by omega
        have hE2 : E ≤ 2000 := by omega
        have hEl : E ≤ l.length := by omega
        have HQ : Hid (ScanRef l = ahead (ts ++ [(t, J)]) (scanR f (l.drop E) E (M + 1))) := heq
        clear heq hne hdd hJ ho hE
        go_wp2_with (first
         | (go_at_call 41; refine (ht _).mono ?_; rintro e w2 ⟨rfl, hb2⟩; simp only [rtkv])
         | (go_at_call 40; refine (hp _).mono ?_; rintro e w4 ⟨rfl, hw4⟩; obtain rfl : w3 = w4 := hw4.symm)
         | (refine at_dstL 39 rfl ?_
            refine wpList_append_tok rfl _ _ rfl w.heap.size _ ts rfl (((hrow.below hb2).below ((Below.refl _ _).alloc (Nat.le_refl _) _)).below ((Below.refl _ _).alloc (Nat.le_refl _) _)) (w2.heap.size + 1) t J rfl (Has.new_at (by simp)) (by rw [← HM.out]; exact hM2) (by have := hbw.size; have := hb2.size; simp; omega) ?_
            intro v' w3 hr3 hb3))
        go_roundw
        case rel =>
         have hJi : i ≤ J := by have := HJ.out; omega
         refine ⟨E, ts ++ [(t, J)], ⟨hEl, scan_b2 hbw hb2 hb3 (Below.refl _ _), hr3, by rw [List.length_append, ← HM.out]; simp; omega, f - 1, by omega, ?_⟩, rfl⟩
         rw [HQ.out, List.length_append, ← HM.out, show f - 1 + 1 = f by omega]
         rfl
        case measure => simp [intOf]; omega
  · have h2 : ¬ ((J : Nat) : Int) < ((bs l).size : Int) := by rw [HS.out]; omega
    rw [scanR_end (by rw [hdd]; exact List.drop_eq_nil_of_le (by omega))] at heq
    have HB : Hid (ScanRef l = .ok ts) := by show ScanRef l = _; rw [heq]; simp [ahead]
    clear heq hJ hdd
    go_wp2
    go_ret3
    exact ⟨hbw, by rw [HB.out]; exact ⟨_, rfl, hrow⟩⟩
end
end Go.Proofs.YthndifegfmjpbaaGreatDoor
