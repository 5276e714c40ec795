/- hmac's digest: that of a key and of pieces behind it. -/
import Derived.Test.YtomefoijiiideaaDoorHmacMask
namespace Go.Proofs.YtomefoijiiideaaDoor
open Go.ChangeShapes Go.WideShapes Go.ChangeAt Go.RowKit
set_option linter.unusedVariables false

/-- Pieces of the message m, one behind the other: the piece i from place off i on. -/
def Parts (w : World) (pa : Option Addr) (n : Nat) (A : Nat → Option Addr) (L C off m : Nat → Nat) : Prop :=
  ∀ i, i < n → (∃ b o, pa = some ⟨b, o, none⟩ ∧ b < w.heap.size ∧ w.cell? ⟨b, o + i, none⟩ = some (.slice (A i) (L i) (C i))) ∧ L i ≤ C i ∧ off (i + 1) = off i + L i ∧ Bytes w (A i) (L i) fun j => m (off i + j)

theorem But.has {g k t : Nat} {w w' : World} {cs : Array Value} (h : But g w w') (hk : Has w k t cs) (hne : k ≠ g) : Has w' k t cs := (h.2.2.2.2 k hk.lt hne).trans hk

/-- What holds of the world while pieces are taken in. -/
def DInv (H0 K : Nat → Nat) (w wr : World) (m : Nat → Nat) (N : Nat) : Prop :=
  Has wr w.heap.size 23 (cellsN .u8 32 fun _ => 0) ∧ Hash H0 K wr (w.heap.size + 1) m N ∧ Below w.heap.size w wr ∧ Glob H0 K wr

theorem DInv.wrote {H0 K m : Nat → Nat} {w wr w' : World} {N N' : Nat} (h : DInv H0 K w wr m N) (h1 : 1 < w.heap.size) (hb : But (w.heap.size + 1) wr w') (hh : Hash H0 K w' (w.heap.size + 1) m N') : DInv H0 K w w' m N' := by
  obtain ⟨a, b, c, d⟩ := h
  exact ⟨hb.has a (by omega), hh, c.trans (hb.below (Nat.le_succ _) c.size), d.but hb (by omega)⟩

set_option maxRecDepth 100000 in
set_option maxHeartbeats 1600000 in
theorem hdig_any {H0 K m off : Nat → Nat} {w : World} {ka pa : Option Addr} {A : Nat → Option Addr} {L C : Nat → Nat} {n : Nat} (kc pc : Nat) (hG : Glob H0 K w) (hH0 : ∀ j, j < 8 → H0 j < 4294967296) (hm : ∀ j, m j < 256)
    (hkc : 64 ≤ kc) (hkb : Bytes w ka 64 m) (hn : n ≤ 1000) (h0 : off 0 = 64) (hP : Parts w pa n A L C off m) (hoff : ∀ i, i ≤ n → off i < 1152921504606846000) :
    Calls Tryd.prog 35 #[.slice ka 64 kc, .slice pa n pc] w fun e w' => e = .returned (.agg (cellsN .u8 32 (SHA H0 K m (off n)))) ∧ Below w.heap.size w w' := by
  have hnew := new_sum m hG
  have h1 := hG.1
  go_enter Tryd.func35, Tryd.ntmps35
  go_wp2_with (first
    | ((go_at_call 11)
       (refine hnew.mono ?_)
       (rintro e w1 ⟨rfl, hS1⟩)
       (have hI1 : DInv H0 K w w1 m 0 := ⟨hS1.1, hS1.2.1, hS1.2.2.1, hS1.2.2.2.1⟩)
       (have hwr := write_any kc hS1.2.2.2.1 hH0 hm (by omega) hkc (by omega) hS1.2.1 (by simpa using hkb.below hS1.2.2.1 (Nat.le_refl _)) (hkb.apart (by omega)))
       (clear hnew))
    | ((go_at_call 12)
       (refine hwr.mono ?_)
       (rintro e w2 ⟨rfl, hh2, hb2⟩)
       (have hI2 := hI1.wrote h1 hb2 hh2)
       (clear hwr hb2 hh2 hI1 hS1)))
  go_loopw [14] (fun i wr => ∃ k : Nat, k ≤ n ∧ i = .int .i64 k ∧ DInv H0 K w wr m (off k))
    (fun i _ => n - (intOf i).toNat)
  case atStart => exact ⟨0, Nat.zero_le _, rfl, by rw [h0]; simpa using hI2⟩
  case round =>
    clear hI2
    obtain ⟨k, hk, rfl, hI⟩ := hrel
    by_cases hkn : k < n
    · obtain ⟨⟨b, o, rfl, hb, hc⟩, hLC, hof, hBy⟩ := hP k hkn
      have hbel := hI.2.2.1
      have i0 : (k : Int) < (n : Int) := by omega
      have i1 : (0 : Int) ≤ (k : Int) := by omega
      have c1 : wr.cell? ⟨b, o + k, none⟩ = some (.slice (A k) (L k) (C k)) := (hbel.cell hb).trans hc
      have hb1 := hoff (k + 1) (by omega)
      have hwr := write_any (C k) hI.2.2.2 hH0 hm (by omega) hLC (by omega) hI.2.1 (hBy.below hbel (Nat.le_refl _)) (hBy.apart (by omega))
      rw [← hof] at hwr
      clear hP hoff hof hBy h0 hkb hb1
      go_wp2_with fail
      refine hwr.mono ?_
      rintro e w3 ⟨rfl, hh3, hb3⟩
      have hI3 := hI.wrote h1 hb3 hh3
      clear hwr hb3 hh3 hI c1 hbel
      go_wp2
      go_roundw
      case rel => exact ⟨k + 1, by omega, by go_num, hI3⟩
      case measure => simp [intOf]; omega
    · obtain rfl : k = n := by omega
      have hs := hsum_any H0 K m (w.heap.size + 1) (off k) wr hI.2.2.2 hH0 hm (by omega) (hoff k (Nat.le_refl _)) hI.2.1
      obtain ⟨f, hf⟩ : ∃ f, f = SHA H0 K m (off k) := ⟨_, rfl⟩
      have HF : Hid (f = SHA H0 K m (off k)) := hf
      rw [← hf] at hs
      clear hf hP hoff h0 hkb
      go_wp2_with (first
        | ((go_at_call 13)
           (refine hs.mono ?_)
           (rintro e w3 ⟨rfl, hb3⟩)
           (have hR3 : Has w3 w.heap.size 23 (cellsN .u8 32 fun _ => 0) := hI.1.below hb3 hI.1.lt)
           (have hB3 : Below w.heap.size w w3 := hI.2.2.1.trans (hb3.mono hI.2.2.1.size))
           (clear hb3 hs))
        | ((refine wpList_store_rowG rfl 23 _ _ rfl (w.heap.size) (cellsN .u8 32 f) rfl rfl 23 _ hR3 (by rw [cellsN_size]; exact Tryd.size23) (by simp [cellsN_size]) (cellsN_one _ _ _) ?_)
           (intro w6 hw6)
           (have hR6 : Has w6 w.heap.size 23 (cellsN .u8 32 f) := (by rw [hw6]; exact hR3.setRow _))
           (have hB6 : Below w.heap.size w w6 := (by rw [hw6]; exact below_setRow hB3 (Nat.le_refl _) _))
           (clear hw6)))
      exact bodyPost_ret (results_cell_row rfl _ _ (w.heap.size) 23 _ (0, 0) _ rfl hR6 Tryd.underlying23 rfl (by rw [cellsN_size]; exact Tryd.size23)) rfl ⟨by rw [HF.out], hB6⟩
end Go.Proofs.YtomefoijiiideaaDoor
