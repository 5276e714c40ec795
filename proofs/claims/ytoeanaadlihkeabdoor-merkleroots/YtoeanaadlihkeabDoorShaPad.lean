/- sha's padding: what stands behind a message of so many bytes. -/
import Derived.Test.YtoeanaadlihkeabDoorShaMem
namespace Go.Proofs.YtoeanaadlihkeabDoor
open Go.ChangeShapes Go.WideShapes Go.ChangeAt Go.RowKit

def plen (n : Nat) : Nat := 1 + (64 - (n + 9) % 64) % 64 + 8

/-- The byte at place j of the padding of n bytes. -/
def padB (n j : Nat) : Nat := if j = 0 then 128 else if j + 8 < plen n then 0 else n * 8 / 2 ^ (8 * (plen n - 1 - j)) % 256

/-- The row behind the first k of the number's bytes, the last one first. -/
def padK (L n k : Nat) : Nat → Nat := fun j => if j = 0 then 128 else if L ≤ j + k then n * 8 / 2 ^ (8 * (L - 1 - j)) % 256 else 0

theorem padK_next (L n k : Nat) (hL : 9 ≤ L) (hk : k < 8) : upd (padK L n k) (L - 1 - k) (n * 8 / 2 ^ (8 * k) % 256) = padK L n (k + 1) := by
  funext i
  unfold upd padK
  by_cases e : i = L - 1 - k
  · have h0 : ¬ i = 0 := by omega
    have h1 : L ≤ i + (k + 1) := by omega
    rw [if_pos e, if_neg h0, if_pos h1, show L - 1 - i = k from by omega]
  · rw [if_neg e]
    by_cases h0 : i = 0
    · rw [if_pos h0, if_pos h0]
    · rw [if_neg h0, if_neg h0]
      by_cases h1 : L ≤ i + k
      · rw [if_pos h1, if_pos (by omega)]
      · rw [if_neg h1, if_neg (by omega)]

theorem Tryd.info5 : (Tryd.prog.info? 5).map (fun i => (i.zero, i.size, i.bytes)) = some (some (.int .u8 0), 1, 1) := by kernel_rfl

theorem made_zero (s : Nat) : (madeCells (Value.int .u8 0).cells (s * 1)).toList = (cellsN .u8 s fun _ => 0).toList := by
  apply List.ext_getElem?
  intro i
  simp only [cellsN, madeCells, Value.cells, Array.toList_map, Array.toList_range, List.getElem?_map, Nat.mul_one]
  cases (List.range s)[i]? with
  | none => rfl
  | some x => simp [Nat.mod_one]

theorem own_has {w : World} {base e g n : Nat} {f : Nat → Nat} (h : w.ownsRow base e 1 (.slice (some ⟨g, 0, none⟩) n n) n (cellsN .u8 n f).toList) : Has w g e (cellsN .u8 n f) := by
  rcases h.2 with ⟨h0, _⟩ | ⟨g', cap, cur, hv, hb, hg, hn, hm, hs, ht⟩
  · simp at h0
  · simp only [Value.slice.injEq, Option.some.injEq, Addr.mk.injEq, true_and, and_true] at hv
    obtain ⟨rfl, rfl⟩ := hv
    have e : cur = cellsN .u8 n f := by
      apply Array.toList_inj.1
      rw [← ht, List.take_of_length_le (by simp [hs])]
    subst e
    exact hg

theorem plen_ge (n : Nat) : 9 ≤ plen n ∧ plen n ≤ 72 := by unfold plen; omega

theorem padding_any (n : Nat) (w : World) (hn : n < 1152921504606846976) :
    Calls Tryd.prog 26 #[.int .u64 n] w fun e w' => e = .returned (.slice (some ⟨w.heap.size, 0, none⟩) (plen n) (plen n)) ∧ Has w' w.heap.size 5 (cellsN .u8 (plen n) (padB n)) ∧ Below w.heap.size w w' := by
  obtain ⟨i0, hi, hz0, hz1, hz2⟩ := info_parts Tryd.info5
  have hp := plen_ge n
  obtain ⟨L, hL⟩ : ∃ L, L = plen n := ⟨_, rfl⟩
  have HL : Hid (L = plen n) := hL
  have hr : (1 : Int) + -(((n : Int) + 1 + 8) % 64) % 64 + 8 = (L : Int) := by rw [hL]; unfold plen; omega
  rw [← hL] at hp ⊢
  clear hL
  go_enter Tryd.func26, Tryd.ntmps26
  go_wp2_with (at_make; refine wpList_make_full _ rfl _ _ 22 rfl w.heap.size 5 i0 (.int .u8 0) 1 Tryd.underlying22 hi hz0 hz1 .u64 .u64 _ _ L rfl rfl rfl rfl (by rw [hz2]; omega) (by unfold maxLen; omega) (Nat.le_refl _) ?_; intro w1 hown hgr; rw [made_zero] at hown; have hH := own_has hown; have hb0 : Below w.heap.size w w1 := (Below.refl _ _).grown hgr (Nat.le_refl _) (by intro k h; cases h); clear hown hgr; have hc0 := hH.num 0 (by omega); have hf0 := hH.free 0)
  clear hi hz0 hz1 hz2 hc0 hf0
  go_loopw [20] (fun i wr => ∃ k : Nat, k ≤ 8 ∧ i = .int .i64 k ∧ Has wr w.heap.size 5 (cellsN .u8 L (padK L n k)) ∧ Below w.heap.size w wr)
    (fun i _ => 8 - (intOf i).toNat)
  case atStart =>
    refine ⟨0, Nat.zero_le _, rfl, ?_, hb0.setCell (by simp) _⟩
    have := hH.set 0 128
    rw [cellsN_congr .u8 L _ (padK L n 0) (fun j hj => by
      unfold upd padK
      by_cases h0 : j = 0
      · rw [if_pos h0, if_pos h0]
      · rw [if_neg h0, if_neg h0, if_neg (by omega)])] at this
    exact this
  case round =>
    clear hH hb0
    obtain ⟨k, hk, rfl, hH, hbel⟩ := hrel
    by_cases hlt : k < 8
    · obtain ⟨q, hq⟩ : ∃ q, q = L - 1 - k := ⟨_, rfl⟩
      have hc := hH.num q (by omega)
      have hf := hH.free q
      have hqi : (L : Int) - 1 - (k : Int) = (q : Int) := by omega
      have hn8 : IntKind.u64.wrap ((n : Int) * 8) = (n : Int) * 8 := IntWalk.u64_in _ ⟨by omega, by omega⟩
      have HQ : Hid (q = L - 1 - k) := hq
      clear hq
      go_wp2
      go_roundw
      case rel =>
        have e : (n : Int) * 8 / 2 ^ (8 * k) % 256 = ((n * 8 / 2 ^ (8 * k) % 256 : Nat) : Int) := by rw [Int.natCast_emod, Int.natCast_ediv, Int.natCast_pow, Int.natCast_mul]; rfl
        rw [e]
        refine ⟨k + 1, by omega, by go_num, ?_, hbel.setCell (by simp) _⟩
        have := hH.set q (n * 8 / 2 ^ (8 * k) % 256)
        rw [HQ.out, padK_next L n k hp.1 hlt, ← HQ.out] at this
        exact this
      case measure => simp [intOf]; omega
    · obtain rfl : k = 8 := by omega
      go_wp2
      go_ret
      refine ⟨rfl, ?_, hbel⟩
      rw [← cellsN_congr .u8 L (padK L n 8) (padB n) (fun j hj => by
        unfold padK padB
        rw [← HL.out]
        by_cases h0 : j = 0
        · rw [if_pos h0, if_pos h0]
        · rw [if_neg h0, if_neg h0]
          by_cases h1 : L ≤ j + 8
          · rw [if_pos h1, if_neg (by omega)]
          · rw [if_neg h1, if_pos (by omega)])]
      exact hH
end Go.Proofs.YtoeanaadlihkeabDoor
