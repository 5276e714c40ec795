/- xts: a cipher's block; the first tweak of a sector. -/
import Derived.Test.YtcnlegnfecpdnaaXtsSmall
import Derived.Test.YtcnlegnfecpdnaaAesDec
import Derived.Test.YtcnlegnfecpdnaaAesNew16
import Derived.Test.YtcnlegnfecpdnaaAesNew32
import Derived.Test.YtcnlegnfecpdnaaAesInv
namespace Go.Proofs.Ytcnlegnfecpdnaa
open Go.ChangeShapes Go.WideShapes Go.ChangeAt Go.RowKit
set_option linter.unusedVariables false

/-- The words of a key of n bytes, and its rounds. -/
def KS (n : Nat) (key : Nat → Nat) : Nat → Nat := if n = 16 then flat 4 key 44 else flat 8 key 60
def RN (n : Nat) : Nat := if n = 16 then 10 else 14

theorem RN_le (n : Nat) : RN n ≤ 14 := by unfold RN; split <;> omega

theorem KS_lt (n : Nat) (hn : n = 16 ∨ n = 32) (key : Nat → Nat) (hk : ∀ j, key j < 256) (j : Nat) : KS n key j < 256 := by
  rcases hn with rfl | rfl
  · exact flat_lt 4 key (fun j _ => hk j) 44 j
  · exact flat_lt 8 key (fun j _ => hk j) 60 j

theorem new_both (n : Nat) (hn : n = 16 ∨ n = 32) (key : Nat → Nat) (b o cap : Nat) (w : World) (hk : ∀ j, key j < 256) (hb : b < w.heap.size) (hcap : n ≤ cap) (hc : ∀ j, j < n → w.cell? ⟨b, o + j, none⟩ = some (.int .u8 (key j : Nat))) :
    Calls Try.prog 9 #[.slice (some ⟨b, o, none⟩) n cap] w fun e w' => ∃ g, e = .returned (.tuple #[.pointer (some ⟨g, 0, none⟩), .int .i64 0]) ∧ w.heap.size ≤ g ∧ Has w' g 57 (ccells (KS n key) (RN n) IB) ∧ Below w.heap.size w w' := by
  rcases hn with rfl | rfl
  · exact new_16 key b o cap w (fun j _ => hk j) hb hcap hc
  · exact new_32 key b o cap w (fun j _ => hk j) hb hcap hc

def xcells (gk gl : Nat) : Array Value := #[.pointer (some ⟨gk, 0, none⟩), .pointer (some ⟨gl, 0, none⟩)]

/-- A cipher of two keys' words. -/
def XC (w : World) (g gk gl n : Nat) (k l : Nat → Nat) : Prop :=
  Has w g 70 (xcells gk gl) ∧ Has w gk 57 (ccells (KS n k) (RN n) IB) ∧ Has w gl 57 (ccells (KS n l) (RN n) IB)

theorem XC.lt {w : World} {g gk gl n : Nat} {k l : Nat → Nat} (h : XC w g gk gl n k l) : g < w.heap.size ∧ gk < w.heap.size ∧ gl < w.heap.size := ⟨h.1.lt, h.2.1.lt, h.2.2.lt⟩

theorem XC.below {w w' : World} {g gk gl n B : Nat} {k l : Nat → Nat} (h : XC w g gk gl n k l) (hb : Below B w w') (hB : w.heap.size ≤ B) : XC w' g gk gl n k l := by
  have := h.lt
  exact ⟨h.1.below hb (by omega), h.2.1.below hb (by omega), h.2.2.below hb (by omega)⟩

theorem XC.below' {w w' : World} {g gk gl n B : Nat} {k l : Nat → Nat} (h : XC w g gk gl n k l) (hb : Below B w w') (hB : g < B ∧ gk < B ∧ gl < B) : XC w' g gk gl n k l :=
  ⟨h.1.below hb hB.1, h.2.1.below hb hB.2.1, h.2.2.below hb hB.2.2⟩

theorem xfield0 (g : Nat) (w : World) : (Instr.fieldAt 70 (.pointer (some ⟨g, 0, none⟩)) 0).run Try.prog w = .ok (.pointer (some ⟨g, 0, none⟩)) w := by
  simp [Instr.fieldAt, Instr.sureAddr, run_underlying Try.underlying70, go_sem]
theorem xfield1 (g : Nat) (w : World) : (Instr.fieldAt 70 (.pointer (some ⟨g, 0, none⟩)) 1).run Try.prog w = .ok (.pointer (some ⟨g, 1, none⟩)) w := by
  simp [Instr.fieldAt, Instr.sureAddr, run_underlying Try.underlying70, go_sem]

theorem run_load_ptr {o : Oper} {a : Act} (x : Operand) (ho : o.op = .load 24 x) (p : Addr) (hx : a.eval x = .pointer (some p)) (v : Value) (w : World) (h : w.cell? p = some v) : (execOp a.eval o).run Try.prog w = .ok (.value v) w := by
  unfold execOp
  simp only [ho, hx]
  go_simp

/-- A sector's number, as the bytes of a block. -/
def numB (s : Nat) : Nat → Nat := upTo (fun _ => 0) (fun j => s / 2 ^ (8 * j) % 256) 8

theorem numT_lt (s k j : Nat) : upTo (fun _ => 0) (fun j => s / 2 ^ (8 * j) % 256) k j < 256 := by
  unfold upTo
  split
  · exact Nat.mod_lt _ (by decide)
  · show 0 < 256
    decide

/-- The first tweak. -/
def tw0 (n : Nat) (l : Nat → Nat) (s : Nat) : Nat → Nat := encAt (KS n l) (RN n) (numB s) (RN n)

theorem tw0_lt (n : Nat) (hn : n = 16 ∨ n = 32) (l : Nat → Nat) (hl : ∀ j, l j < 256) (s : Nat) : Byt (tw0 n l s) :=
  encAt_lt (fun j _ => KS_lt n hn l hl j) _ (fun j _ => numT_lt s 8 j) _ (RN_le n)

set_option maxRecDepth 100000 in
theorem first_any (n : Nat) (hn : n = 16 ∨ n = 32) (k l : Nat → Nat) (g gk gl s : Nat) (w : World) (hl : ∀ j, l j < 256) (hs : s < 18446744073709551616) (hC : XC w g gk gl n k l) :
    Calls Try.prog 45 #[.pointer (some ⟨g, 0, none⟩), .int .u64 (s : Nat)] w fun e w' => e = .returned (.agg (cellsN .u8 16 (tw0 n l s))) ∧ Below w.heap.size w w' := by
  go_enter Try.func45, Try.ntmps45
  go_wp2
  go_loopw [7] (fun i wr => ∃ k : Nat, k ≤ 8 ∧ i = .int .i64 k ∧ Has wr w.heap.size 23 (cellsN .u8 16 fun _ => 0) ∧ Has wr (w.heap.size + 1) 23 (cellsN .u8 16 (upTo (fun _ => 0) (fun j => s / 2 ^ (8 * j) % 256) k)) ∧ Below w.heap.size w wr)
    (fun i _ => 8 - (intOf i).toNat)
  case atStart => exact ⟨0, Nat.zero_le _, rfl, (Has.new w _ _).alloc _, by rw [upTo_zero]; exact Has.new_at (by simp), two_below _ _ _⟩
  case round =>
    obtain ⟨q, hq, rfl, hR, hS, hbel⟩ := hrel
    by_cases hlt : q < 8
    · have hc := hS.num q (by omega)
      rw [upTo_at] at hc
      have hfr := hS.free q
      have i1 : (q : Int) < 8 := by omega
      have i0 : (0 : Int) ≤ (q : Int) := by omega
      go_wp2
      go_roundw
      case rel =>
        refine ⟨q + 1, by omega, by go_num, hR.other (by simp) _, ?_, hbel.setCell (by simp) _⟩
        have := hS.set q (s / 2 ^ (8 * q) % 256)
        rw [upTo_next] at this
        exact this
      case measure => simp [intOf]; omega
    · obtain rfl : q = 8 := by omega
      have hbd := hbel.drew
      have hCd : XC wr.drew g gk gl n k l := hC.below hbd (Nat.le_refl _)
      have hSd : Has wr.drew (w.heap.size + 1) 23 (cellsN .u8 16 (numB s)) := hS
      have hRd : Has wr.drew w.heap.size 23 (cellsN .u8 16 fun _ => 0) := hR
      have hnb : Byt (numB s) := fun j _ => numT_lt s 8 j
      have hcall : ∀ wz, XC wz g gk gl n k l → Calls Try.prog 13 #[.pointer (some ⟨gl, 0, none⟩), .agg (cellsN .u8 16 (numB s))] wz fun e w' => e = .returned (.agg (cellsN .u8 16 (tw0 n l s))) ∧ Below wz.heap.size wz w' := fun wz h => encrypt_any (KS n l) (RN n) IB (numB s) gl wz (fun j _ => KS_lt n hn l hl j) (RN_le n) hnb h.2.2
      go_wp2
      refine wp_region_held_drew (S := fun wz => XC wz g gk gl n k l ∧ Has wz (w.heap.size + 1) 23 (cellsN .u8 16 (numB s))) (by kernel_rfl) ⟨hCd, hSd⟩ (fun hHeld => ?_)
      refine takeTo 0 (some 18) (.pointer (some ⟨g, 0, none⟩)) rfl rfl (by kernel_rfl) (by kernel_rfl) (by kernel_rfl) (fun _ _ _ h => h) (by rfl) (fun _ _ => rfl) hHeld ?_
      simp only [Act.put, List.setIfInBounds_toArray, List.set_cons_zero, List.set_cons_succ]
      refine takeTo 1 (some 19) (.pointer (some ⟨g, 0, none⟩)) rfl rfl (by kernel_rfl) (by kernel_rfl) (by kernel_rfl) (fun _ _ _ h => h) (by rfl) (fun _ _ => rfl) hHeld ?_
      simp only [Act.put, List.setIfInBounds_toArray, List.set_cons_zero, List.set_cons_succ]
      refine takeTo 2 (some 20) (.pointer (some ⟨g, 1, none⟩)) rfl rfl (by kernel_rfl) (by kernel_rfl) (by kernel_rfl) (fun _ _ _ h => h) (by rfl) (fun wz _ => run_fieldAddr 70 _ 1 rfl (.pointer (some ⟨g, 0, none⟩)) (.pointer (some ⟨g, 1, none⟩)) rfl (xfield1 g) wz) hHeld ?_
      simp only [Act.put, List.setIfInBounds_toArray, List.set_cons_zero, List.set_cons_succ]
      refine takeTo 3 (some 21) (.pointer (some ⟨gl, 0, none⟩)) rfl rfl (by kernel_rfl) (by kernel_rfl) (by kernel_rfl) (fun _ _ _ h => h) (by rfl) (fun wz hz => run_load_ptr _ rfl ⟨g, 1, none⟩ rfl _ wz (by rw [hz.1.1.cell]; rfl)) hHeld ?_
      simp only [Act.put, List.setIfInBounds_toArray, List.set_cons_zero, List.set_cons_succ]
      refine takeTo 4 (some 22) (.agg (cellsN .u8 16 (numB s))) rfl rfl (by kernel_rfl) (by kernel_rfl) (by kernel_rfl) (fun _ _ _ h => h) (by rfl) (fun wz hz => run_load_row 23 _ rfl (w.heap.size + 1) rfl _ 23 Try.underlying23 (by rw [cellsN_size]; exact Try.size23) wz hz.2) hHeld ?_
      simp only [Act.put, List.setIfInBounds_toArray, List.set_cons_zero, List.set_cons_succ]
      refine callTo 5 (some 23) 13 #[.pointer (some ⟨gl, 0, none⟩), .agg (cellsN .u8 16 (numB s))] (by kernel_rfl) rfl rfl (by rfl) (by kernel_rfl) (hcall _ hCd) ?_
      rintro e w3 ⟨rfl, hb3⟩
      have hz3 : w.heap.size + 1 < wr.drew.heap.size := hS.lt
      have hR3 : Has w3 w.heap.size 23 (cellsN .u8 16 fun _ => 0) := hRd.below hb3 hRd.lt
      have hS3 : Has w3 (w.heap.size + 1) 23 (cellsN .u8 16 (numB s)) := hSd.below hb3 hSd.lt
      have hC3 : XC w3 g gk gl n k l := hCd.below hb3 (Nat.le_refl _)
      have hB3 : Below w.heap.size w w3 := hbd.trans (hb3.mono (by omega))
      refine ⟨_, rfl, ⟨hC3, hS3⟩, ?_⟩
      simp only [Act.put, List.setIfInBounds_toArray, List.set_cons_zero, List.set_cons_succ]
      have hB4 : Below w.heap.size w (w3.setRow w.heap.size (cellsN .u8 16 (tw0 n l s))) := below_setRow hB3 (Nat.le_refl _) _
      have hR4 : Has (w3.setRow w.heap.size (cellsN .u8 16 (tw0 n l s))) w.heap.size 23 (cellsN .u8 16 (tw0 n l s)) := hR3.setRow _
      refine ready1 6 (by kernel_rfl) (stepSkip none (w3.setRow w.heap.size (cellsN .u8 16 (tw0 n l s))) rfl rfl (by rfl) (run_store_row 23 _ _ rfl w.heap.size rfl _ rfl 23 (by rw [cellsN_size]; exact Try.size23) _ hR3 (by simp [cellsN_size]) (cellsN_one _ _ _)) ⟨⟨hC.below hB4 (Nat.le_refl _), hS3.setRow_other (by omega) _⟩, ?_⟩)
      simp only [Act.put]
      refine wpAnyH_done (by kernel_rfl) ?_ _
      go_wp2
      exact bodyPost_ret (results_cell_row rfl _ _ w.heap.size 23 _ (0, 0) _ rfl hR4 Try.underlying23 rfl (by rw [cellsN_size]; exact Try.size23)) rfl ⟨rfl, hB4⟩
end Go.Proofs.Ytcnlegnfecpdnaa
