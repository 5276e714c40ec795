/- LexJoined, walked. -/
import Derived.Test.YtefjfjjoghikeaaDoorLxSet
namespace Go.Proofs.YtefjfjjoghikeaaDoor
open Go.ChangeShapes Go.WideShapes Go.ChangeAt Go.RowKit
set_option linter.unusedVariables false

theorem bs_cat (a b : List UInt8) : bs a ++ bs b = bs (a ++ b) := by
  apply ByteArray.ext
  simp [bs]

theorem ScanR.weak {w w' : World} {R : Except (Nat × Nat) Toks} {e : Ending} (h : ScanR w R e w') : Below w.heap.size w w' ∧ ∃ v er o, e = .returned (.tuple #[v, .int .i64 er, .int .i64 o]) := by
  obtain ⟨hb, h⟩ := h
  refine ⟨hb, ?_⟩
  cases R with
  | error r => obtain ⟨er, o⟩ := r; exact ⟨_, _, _, h⟩
  | ok ts => obtain ⟨v, rfl, _⟩ := h; exact ⟨_, _, _, rfl⟩

/-- What a scan that fails answers. -/
theorem scan_err_c (w : World) (l : List UInt8) (hm : l.length ≤ maxLen) {er o : Nat} (h : Scan l = .error (er, o)) : Calls Tryd.prog 11 #[.string (bs l)] w fun e w' => e = .returned (.tuple #[.slice none 0 0, .int .i64 (er : Nat), .int .i64 (o : Nat)]) ∧ Below w.heap.size w w' := by
  have := scan_any w l hm
  rw [h] at this
  exact this.mono fun e w' hr => ⟨hr.2, hr.1⟩

theorem scan_ok_c (w : World) (l : List UInt8) (hm : l.length ≤ maxLen) {ts : Toks} (h : Scan l = .ok ts) : Calls Tryd.prog 11 #[.string (bs l)] w fun e w' => ∃ A C, e = .returned (.tuple #[.slice A ts.length C, .int .i64 0, .int .i64 (-1)]) ∧ Below w.heap.size w w' ∧ TokRow w' w.heap.size (.slice A ts.length C) ts := by
  have := scan_any w l hm
  rw [h] at this
  refine this.mono ?_
  rintro e w' ⟨hb, v, rfl, hr⟩
  obtain ⟨A, C, rfl⟩ := row_slice hr
  exact ⟨A, C, rfl, hb, hr⟩

theorem scan_weak_c (w : World) (l : List UInt8) (hm : l.length ≤ maxLen) : Calls Tryd.prog 11 #[.string (bs l)] w fun e w' => ∃ v er o, e = .returned (.tuple #[v, .int .i64 er, .int .i64 o]) ∧ Below w.heap.size w w' :=
  (scan_any w l hm).mono fun e w' hr => by obtain ⟨hb, v, er, o, rfl⟩ := hr.weak; exact ⟨v, er, o, rfl, hb⟩

theorem below3 {w a b c : World} (h1 : Below w.heap.size w a) (h2 : Below a.heap.size a b) (h3 : Below b.heap.size b c) : Below w.heap.size w c :=
  (h1.trans (h2.mono h1.size)).trans (h3.mono (by have := h1.size; have := h2.size; omega))

theorem below2 {w a b : World} (h1 : Below w.heap.size w a) (h2 : Below a.heap.size a b) : Below w.heap.size w b := h1.trans (h2.mono h1.size)

set_option maxRecDepth 100000 in
set_option maxHeartbeats 2000000 in
theorem joined_long (a b : List UInt8) (w : World) (ha : a.length ≤ maxLen) (hb : b.length ≤ maxLen) (h : 2000 < a.length ∨ 2000 < a.length + b.length) : Calls Tryd.prog 6 #[.string (bs a), .string (bs b)] w fun e w' => e = .returned (.bool true) ∧ Below w.heap.size w w' := by
  unfold maxLen at ha hb
  have sa := bs_size a
  have sb := bs_size b
  have hal := alive_c w
  by_cases h1 : 2000 < a.length
  · have h2 : (2000 : Int) < ((bs a).size : Int) := by omega
    clear h
    go_enter Tryd.func6, Tryd.ntmps6
    go_wp2_with (go_at_call 8; refine hal.mono ?_; rintro e w1 ⟨rfl, hb1⟩)
    go_ret
    exact ⟨rfl, hb1⟩
  · have h2 : ((bs a).size : Int) ≤ 2000 := by omega
    have h3 : (2000 : Int) - ((bs a).size : Int) < ((bs b).size : Int) := by omega
    have h0 : (0 : Int) ≤ ((bs a).size : Int) := by omega
    clear h
    go_enter Tryd.func6, Tryd.ntmps6
    go_wp2_with (go_at_call 8; refine hal.mono ?_; rintro e w1 ⟨rfl, hb1⟩)
    go_ret
    exact ⟨rfl, hb1⟩

set_option maxRecDepth 100000 in
set_option maxHeartbeats 2000000 in
theorem joined_errA (a b : List UInt8) (w : World) (h : a.length + b.length ≤ 2000) {er o : Nat} (he : Scan a = .error (er, o)) : Calls Tryd.prog 6 #[.string (bs a), .string (bs b)] w fun e w' => e = .returned (.bool true) ∧ Below w.heap.size w w' := by
  have sa := bs_size a
  have sb := bs_size b
  have hal := fun W => alive_c W
  have hA := fun W => scan_err_c W a (by unfold maxLen; omega) he
  have her := (Scan_err he).1
  have hx : bs a ++ ⟨#[10]⟩ ++ bs b = bs (a ++ [10] ++ b) := by rw [show (⟨#[10]⟩ : ByteArray) = bs [10] from rfl, bs_cat, bs_cat]
  have hB := fun W => scan_weak_c W b (by unfold maxLen; omega)
  have hN := fun W => scan_weak_c W (a ++ [10] ++ b) (by unfold maxLen; simp; omega)
  rw [← hx] at hN
  have h2 : ((bs a).size : Int) ≤ 2000 := by omega
  have h3 : ((bs b).size : Int) ≤ (2000 : Int) - ((bs a).size : Int) := by omega
  have h0 : (0 : Int) ≤ ((bs a).size : Int) := by omega
  have her' : ¬ ((er : Nat) : Int) = 0 := by omega
  clear hx he her
  go_enter Tryd.func6, Tryd.ntmps6
  go_wp2_with (first
    | (go_at_call 8; refine (hal _).mono ?_; rintro e w4 ⟨rfl, hb4⟩)
    | (go_at_call 11; refine at_argL 0 (.string (bs a)) rfl ?_; refine (hA _).mono ?_; rintro e w1 ⟨rfl, hb1⟩)
    | (go_at_call 11; refine at_argL 0 (.string (bs b)) rfl ?_; refine (hB _).mono ?_; rintro e w2 ⟨v, e2, o2, rfl, hb2⟩)
    | (go_at_call 11; refine (hN _).mono ?_; rintro e w3 ⟨v, e2, o2, rfl, hb3⟩))
  go_ret
  exact ⟨rfl, below2 (below3 hb1 hb2 hb3) hb4⟩
set_option maxRecDepth 100000 in
set_option maxHeartbeats 2000000 in
theorem joined_errB (a b : List UInt8) (w : World) (h : a.length + b.length ≤ 2000) {ts : Toks} (ea : Scan a = .ok ts) {er o : Nat} (he : Scan b = .error (er, o)) : Calls Tryd.prog 6 #[.string (bs a), .string (bs b)] w fun e w' => e = .returned (.bool true) ∧ Below w.heap.size w w' := by
  have sa := bs_size a
  have sb := bs_size b
  have hal := fun W => alive_c W
  have hx : bs a ++ ⟨#[10]⟩ ++ bs b = bs (a ++ [10] ++ b) := by rw [show (⟨#[10]⟩ : ByteArray) = bs [10] from rfl, bs_cat, bs_cat]
  have h2 : ((bs a).size : Int) ≤ 2000 := by omega
  have h3 : ((bs b).size : Int) ≤ (2000 : Int) - ((bs a).size : Int) := by omega
  have h0 : (0 : Int) ≤ ((bs a).size : Int) := by omega
  have hA := fun W => scan_ok_c W a (by unfold maxLen; omega) ea
  have hB := fun W => scan_err_c W b (by unfold maxLen; omega) he
  have her := (Scan_err he).1
  have hN := fun W => scan_weak_c W (a ++ [10] ++ b) (by unfold maxLen; simp; omega)
  rw [← hx] at hN
  have her' : ¬ ((er : Nat) : Int) = 0 := by omega
  clear hx he her ea
  go_enter Tryd.func6, Tryd.ntmps6
  go_wp2_with (first
    | (go_at_call 8; refine (hal _).mono ?_; rintro e w4 ⟨rfl, hb4⟩)
    | (go_at_call 11; refine at_argL 0 (.string (bs a)) rfl ?_; refine (hA _).mono ?_; rintro e w1 ⟨A1, C1, rfl, hb1, hr1⟩)
    | (go_at_call 11; refine at_argL 0 (.string (bs b)) rfl ?_; refine (hB _).mono ?_; rintro e w2 ⟨rfl, hb2⟩)
    | (go_at_call 11; refine (hN _).mono ?_; rintro e w3 ⟨v, e2, o2, rfl, hb3⟩))
  go_ret
  exact ⟨rfl, below2 (below3 hb1 hb2 hb3) hb4⟩

set_option maxRecDepth 100000 in
set_option maxHeartbeats 2000000 in
theorem joined_full (a b : List UInt8) (w : World) (h : a.length + b.length = 2000) {ts us : Toks} (ea : Scan a = .ok ts) (eb : Scan b = .ok us) : Calls Tryd.prog 6 #[.string (bs a), .string (bs b)] w fun e w' => e = .returned (.bool true) ∧ Below w.heap.size w w' := by
  have sa := bs_size a
  have sb := bs_size b
  have hal := fun W => alive_c W
  have hx : bs a ++ ⟨#[10]⟩ ++ bs b = bs (a ++ [10] ++ b) := by rw [show (⟨#[10]⟩ : ByteArray) = bs [10] from rfl, bs_cat, bs_cat]
  have h2 : ((bs a).size : Int) ≤ 2000 := by omega
  have h3 : ((bs b).size : Int) ≤ (2000 : Int) - ((bs a).size : Int) := by omega
  have h0 : (0 : Int) ≤ ((bs a).size : Int) := by omega
  have hA := fun W => scan_ok_c W a (by unfold maxLen; omega) ea
  have hB := fun W => scan_ok_c W b (by unfold maxLen; omega) eb
  have hN := fun W => scan_weak_c W (a ++ [10] ++ b) (by unfold maxLen; simp; omega)
  rw [← hx] at hN
  obtain ⟨M, hM⟩ : ∃ M, M = ts.length := ⟨_, rfl⟩
  obtain ⟨M2, hM2⟩ : ∃ M2, M2 = us.length := ⟨_, rfl⟩
  rw [← hM] at hA
  rw [← hM2] at hB
  have hm1 : M ≤ 500 := by rw [hM]; exact (Scan_len ea).1
  have hm2 : M2 ≤ 500 := by rw [hM2]; exact (Scan_len eb).1
  have hf : ((bs a).size : Int) + ((bs b).size : Int) = 2000 := by omega
  clear hx ea eb hM hM2
  go_enter Tryd.func6, Tryd.ntmps6
  go_wp2_with (first
    | (go_at_call 8; refine (hal _).mono ?_; rintro e w4 ⟨rfl, hb4⟩)
    | (go_at_call 11; refine at_argL 0 (.string (bs a)) rfl ?_; refine (hA _).mono ?_; rintro e w1 ⟨A1, C1, rfl, hb1, hr1⟩)
    | (go_at_call 11; refine at_argL 0 (.string (bs b)) rfl ?_; refine (hB _).mono ?_; rintro e w2 ⟨A2, C2, rfl, hb2, hr2⟩)
    | (go_at_call 11; refine (hN _).mono ?_; rintro e w3 ⟨v, e2, o2, rfl, hb3⟩))
  go_ret
  exact ⟨rfl, below2 (below3 hb1 hb2 hb3) hb4⟩

set_option maxRecDepth 100000 in
set_option maxHeartbeats 2000000 in
theorem joined_many (a b : List UInt8) (w : World) (h : a.length + b.length < 2000) {ts us : Toks} (ea : Scan a = .ok ts) (eb : Scan b = .ok us) (hn : 500 < ts.length + us.length) : Calls Tryd.prog 6 #[.string (bs a), .string (bs b)] w fun e w' => e = .returned (.bool true) ∧ Below w.heap.size w w' := by
  have sa := bs_size a
  have sb := bs_size b
  have hal := fun W => alive_c W
  have hx : bs a ++ ⟨#[10]⟩ ++ bs b = bs (a ++ [10] ++ b) := by rw [show (⟨#[10]⟩ : ByteArray) = bs [10] from rfl, bs_cat, bs_cat]
  have h2 : ((bs a).size : Int) ≤ 2000 := by omega
  have h3 : ((bs b).size : Int) ≤ (2000 : Int) - ((bs a).size : Int) := by omega
  have h0 : (0 : Int) ≤ ((bs a).size : Int) := by omega
  have hA := fun W => scan_ok_c W a (by unfold maxLen; omega) ea
  have hB := fun W => scan_ok_c W b (by unfold maxLen; omega) eb
  have hN := fun W => scan_weak_c W (a ++ [10] ++ b) (by unfold maxLen; simp; omega)
  rw [← hx] at hN
  obtain ⟨M, hM⟩ : ∃ M, M = ts.length := ⟨_, rfl⟩
  obtain ⟨M2, hM2⟩ : ∃ M2, M2 = us.length := ⟨_, rfl⟩
  rw [← hM] at hA
  rw [← hM2] at hB
  have hm1 : M ≤ 500 := by rw [hM]; exact (Scan_len ea).1
  have hm2 : M2 ≤ 500 := by rw [hM2]; exact (Scan_len eb).1
  have hf : ¬ ((bs a).size : Int) + ((bs b).size : Int) = 2000 := by omega
  have hg : (500 : Int) < ((M : Nat) : Int) + ((M2 : Nat) : Int) := by omega
  clear hx ea eb hM hM2
  go_enter Tryd.func6, Tryd.ntmps6
  go_wp2_with (first
    | (go_at_call 8; refine (hal _).mono ?_; rintro e w4 ⟨rfl, hb4⟩)
    | (go_at_call 11; refine at_argL 0 (.string (bs a)) rfl ?_; refine (hA _).mono ?_; rintro e w1 ⟨A1, C1, rfl, hb1, hr1⟩)
    | (go_at_call 11; refine at_argL 0 (.string (bs b)) rfl ?_; refine (hB _).mono ?_; rintro e w2 ⟨A2, C2, rfl, hb2, hr2⟩)
    | (go_at_call 11; refine (hN _).mono ?_; rintro e w3 ⟨v, e2, o2, rfl, hb3⟩))
  go_ret
  exact ⟨rfl, below2 (below3 hb1 hb2 hb3) hb4⟩
end Go.Proofs.YtefjfjjoghikeaaDoor
