/- device: writesUpTo. -/
import Derived.Test.YtalcalecmklcoaaDwSync
namespace Go.Proofs.Ytalcalecmklcoaa
open Go.ChangeShapes Go.WideShapes Go.ChangeAt Go.RowKit
set_option linter.unusedVariables false

variable {w w' : World} {p c bb bs bc : Nat} {s : DS} {vw vs : Value}

set_option maxRecDepth 100000 in
set_option maxHeartbeats 2000000 in
theorem upTo_r (h : RepAt w p s c bb bs bc vw vs) (m : Nat) (hlen : s.log.length ≤ 100000) : Calls Try.prog 56 #[ptr p, .int .i64 (m : Nat)] w fun e w' => e = .returned (.int .i64 (wrs (momL (m : Nat) s.log) : Nat)) ∧ w' = w := by
  have h5 : w.cell? ⟨p, 5, none⟩ = some vw := h.cell 5
  have hwl : wrs s.log ≤ s.log.length := List.length_filter_le _ _
  have hfirst := mo_first s.log (m : Nat) (by omega) h.rise
  have hml : wrs (momL (m : Nat) s.log) ≤ wrs s.log := by
    obtain ⟨r, hr, _⟩ := rise_split (m : Nat) (by omega) s.log h.rise
    rw [hr, wrs_append, ← hr]
    omega
  have hWc := fun i j e he hj => Wc_at s.log i j e he hj
  obtain ⟨aw, capw, rfl, hcap, hnil, hsome, hcell⟩ := own_slice h.wr
  have hget : ∀ k, k < wrs s.log → ∃ e, (ws s.log)[k]? = some e := fun k hk => ⟨_, List.getElem?_eq_getElem hk⟩
  obtain ⟨N, hN⟩ : ∃ N, N = wrs (momL (m : Nat) s.log) := ⟨_, rfl⟩
  rw [← hN] at hfirst hml ⊢
  clear h hN hcap
  obtain ⟨n, hn⟩ : ∃ n, n = wrs s.log := ⟨_, rfl⟩
  rw [← hn] at h5 hwl hml hnil hget
  clear hn
  go_enter Try.func56, Try.ntmps56
  go_wp2
  go_loopw [5] (fun iv wr => ∃ k : Nat, k ≤ N ∧ iv = .int .i64 (k : Nat) ∧ wr = w)
    (fun iv _ => N - (intOf iv).toNat)
  case atStart => exact ⟨0, Nat.zero_le _, rfl, rfl⟩
  case round =>
    obtain ⟨k, hk, rfl, rfl⟩ := hrel
    have i1 : (0 : Int) ≤ (k : Int) := by omega
    by_cases hlt : k < n
    · obtain ⟨e, he⟩ := hget k hlt
      have hnn : ∃ g, aw = some ⟨g, 0, none⟩ := by
        cases aw with
        | none => have := (hnil rfl).1; omega
        | some ad => obtain ⟨g, rfl⟩ := hsome ad rfl; exact ⟨g, rfl⟩
      obtain ⟨g, rfl⟩ := hnn
      have c65 : wr.cell? ⟨g, k * 67 + 65, none⟩ = some (.int .i64 e.mo) := hcell g rfl (k * 67 + 65) _ (by rw [hWc k 65 e he (by decide)]; exact wcells_mo e)
      have hf := hfirst k e he
      have i0 : (k : Int) < (n : Int) := by omega
      by_cases hkN : k < N
      · have hmo : e.mo ≤ (m : Int) := hf.2 hkN
        clear hcell hWc hget hfirst hnil hsome
        go_wp2
        go_roundw
        case rel => exact ⟨k + 1, by omega, by go_num, trivial⟩
        case measure => simp [intOf]; omega
      · have hmo : ¬ e.mo ≤ (m : Int) := fun h => hkN (hf.1 h)
        obtain rfl : k = N := by omega
        clear hcell hWc hget hfirst hnil hsome
        go_wp2
        go_ret
        exact ⟨rfl, rfl⟩
    · obtain rfl : k = N := by omega
      obtain rfl : n = k := by omega
      clear hcell hWc hget hfirst hnil hsome
      go_wp2
      go_ret
      exact ⟨rfl, rfl⟩
end Go.Proofs.Ytalcalecmklcoaa
