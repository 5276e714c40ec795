/- The law's own question 'alive' answers true, in this seat's program. -/
import Derived.Test.YtcgoepbmbeimmabBase
import Derived.Laws.IdiomStrings
namespace Go.Proofs.Ytcgoepbmbeimmab
open Go.ChangeShapes Go.WideShapes Go.ChangeAt Go.RowKit

def byteList (f : Nat → Int) (s : Nat) : List UInt8 := (List.range s).map fun j => UInt8.ofNat (f j).toNat

theorem conv_bytes (f : Nat → Int) (w : World) (b off len cap : Nat) (hf : ∀ j, j < len → 0 ≤ f j ∧ f j ≤ 255)
    (hc : ∀ j, j < len → w.cell? ⟨b, off + j, none⟩ = some (.int .u8 (f j))) :
    (convert 27 9 (.slice (some ⟨b, off, none⟩) len cap)).run Try.prog w = .ok (.string ⟨(byteList f len).toArray⟩) w := by
  have hl : (byteList f len).length = len := by simp [byteList]
  have h := run_convert_bytes_back (P := Try.prog) w 27 9 5 ⟨b, off, none⟩ cap (byteList f len) Try.underlying27 Try.underlying5 Try.underlying9 (by
    intro j hj
    rw [hl] at hj
    have g := hf j hj
    have hx : w.cell? ⟨b, off + j, none⟩ = some (.int .u8 (f j)) := hc j hj
    have e1 : (⟨b, off, none⟩ : Addr).add j = ⟨b, off + j, none⟩ := by simp [Addr.add]
    rw [e1, hx]
    simp only [byteList, List.getElem_map, List.getElem_range]
    have : (UInt8.ofNat (f j).toNat).toNat = (f j).toNat := by simp; omega
    rw [this, Int.toNat_of_nonneg g.1])
  rw [hl] at h
  exact h

theorem own_cells {w : World} {base e g n cap : Nat} {f : Nat → Int} (h : w.ownsRow base e 1 (.slice (some ⟨g, 0, none⟩) n cap) n (fill f n n)) :
    ∀ j, j < n → w.cell? ⟨g, 0 + j, none⟩ = some (.int .u8 (f j)) := by
  intro j hj
  rw [Nat.zero_add, h.cellAt j (by omega)]
  simp [fill, hj]

theorem get_two (w : World) : Calls Try.prog 9 #[.slice (some ⟨w.heap.size, 0, none⟩) 2 2] (w.alloc (.cells #[.int .u8 255, .int .u8 254] 5)) fun e w' =>
    e = .returned (.tuple #[.int .u64 65534, .int .i64 0]) ∧ w' = w.alloc (.cells #[.int .u8 255, .int .u8 254] 5) := by
  have h := get_ok 2 2 w.heap.size 0 (fun j => if j = 0 then 255 else 254) (w.alloc (.cells #[.int .u8 255, .int .u8 254] 5)) (by omega) (by omega) (by intro j hj; split <;> omega) (by
    intro j hj
    have : j = 0 ∨ j = 1 := by omega
    rcases this with rfl | rfl <;> simp)
  exact h

theorem str3 : byteList (byteAt 258 3) 3 = [0, 1, 2] := by decide

theorem put_bytes : ∀ j, j < 3 → 0 ≤ byteAt 258 3 j ∧ byteAt 258 3 j ≤ 255 := by decide

theorem alive_any (w : World) : Calls Try.prog 6 #[] w fun e w' => e = .returned (.bool true) ∧ Below w.heap.size w w' := by
  have hp := put_ok 3 258 w (by omega) (by omega) (by decide)
  go_enter Try.func6, Try.ntmps6
  go_wp2_with (first
    | (go_at_call 8; go_must (refine hp.mono ?_; rintro e w1 ⟨rfl, ho, hb⟩; have hg := get_two w1; have hcv := conv_bytes (byteAt 258 3) (w1.alloc (.cells #[.int .u8 255, .int .u8 254] 5)) (w.heap.size + 2) 0 3 3 put_bytes (own_cells (ho.alloc _)); rw [str3] at hcv; clear hp))
    | (go_at_call 9; go_must (refine hg.mono ?_; rintro e w2 ⟨rfl, rfl⟩; clear hg)))
  go_ret
  exact ⟨rfl, hb.alloc hb.size _⟩
end Go.Proofs.Ytcgoepbmbeimmab
