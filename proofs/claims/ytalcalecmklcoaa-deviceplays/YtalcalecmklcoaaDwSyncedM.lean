/- device: synced, of what CutAt and CutMoment ask. -/
import Derived.Test.YtalcalecmklcoaaDwSynced
namespace Go.Proofs.Ytalcalecmklcoaa
open Go.ChangeShapes Go.WideShapes Go.ChangeAt Go.RowKit
set_option linter.unusedVariables false

variable {w w' : World} {p c bb bs bc : Nat} {s : DS} {vw vs : Value}

set_option maxRecDepth 100000 in
theorem cutAt1_c (x : Nat × Int) (w : World) (gn n : Nat) (hg : w.cell? ⟨gn, 0, none⟩ = some (.int .i64 (n : Nat))) (hlt : gn < w.heap.size) : Calls Try.prog 52 #[sagg x, .pointer (some ⟨gn, 0, none⟩)] w fun e w' => e = .returned (.bool (decide (x.1 < n))) ∧ Below w.heap.size w w' := by
  have h2 : (w.alloc (.cells #[.int .i64 (x.1 : Nat), .int .i64 x.2] 82)).cell? ⟨gn, 0, none⟩ = some (.int .i64 (n : Nat)) := ((Below.refl w.heap.size w).alloc (Nat.le_refl _) _).cell (p := ⟨gn, 0, none⟩) hlt |>.trans hg
  have hq : decide (x.1 < n) = decide ((x.1 : Int) < (n : Int)) := by simp
  rw [hq]
  generalize ((n : Nat) : Int) = N at hg h2 ⊢
  go_enter Try.func52, Try.ntmps52
  go_wp2
  go_ret
  exact ⟨rfl, (Below.refl _ _).alloc (Nat.le_refl _) _⟩

set_option maxRecDepth 100000 in
theorem cutMo1_c (x : Nat × Int) (w : World) (gn n : Nat) (hg : w.cell? ⟨gn, 0, none⟩ = some (.int .i64 (n : Nat))) (hlt : gn < w.heap.size) : Calls Try.prog 55 #[sagg x, .pointer (some ⟨gn, 0, none⟩)] w fun e w' => e = .returned (.bool (decide (x.2 < (n : Nat)))) ∧ Below w.heap.size w w' := by
  have h2 : (w.alloc (.cells #[.int .i64 (x.1 : Nat), .int .i64 x.2] 82)).cell? ⟨gn, 0, none⟩ = some (.int .i64 (n : Nat)) := ((Below.refl w.heap.size w).alloc (Nat.le_refl _) _).cell (p := ⟨gn, 0, none⟩) hlt |>.trans hg
  generalize ((n : Nat) : Int) = N at hg h2 ⊢
  go_enter Try.func55, Try.ntmps55
  go_wp2
  go_ret
  exact ⟨rfl, (Below.refl _ _).alloc (Nat.le_refl _) _⟩

set_option maxRecDepth 100000 in
set_option maxHeartbeats 2000000 in
theorem synced_at (h : RepAt w p s c bb bs bc vw vs) (gn n : Nat) (hgn : w.cell? ⟨gn, 0, none⟩ = some (.int .i64 (n : Nat))) (hgl : gn < w.heap.size) (hlen : s.log.length ≤ 100000) : Calls Try.prog 48 #[ptr p, .func (.func 52) #[] #[.pointer (some ⟨gn, 0, none⟩)]] w fun e w' => e = .returned (.int .i64 (lastS ((syOf s.log).filter (fun x => decide (x.1 < n))) : Nat)) ∧ Below w.heap.size w w' := by
  have h6 : w.cell? ⟨p, 6, none⟩ = some vs := h.cell 6
  have hlen' := Nat.le_trans (sy_len_le s.log) hlen
  have hSc := fun i j x hx hj => Sc_at s.log i j x hx hj
  obtain ⟨asx, caps, rfl, hcap, hnil, hsome, hcell⟩ := own_slice h.sy
  have hslt : ∀ g, asx = some ⟨g, 0, none⟩ → g < w.heap.size := fun g hg => (h.sy.lt g (by rw [hg]; rfl)).2
  obtain ⟨len, hl⟩ : ∃ len, len = (syOf s.log).length := ⟨_, rfl⟩
  have hle := last_le s.log (fun x => decide (x.1 < n))
  have hwl : wrs s.log ≤ s.log.length := List.length_filter_le _ _
  have hfin : (syOf s.log).take len = syOf s.log := by rw [hl, List.take_length]
  have hstep := fun k x => last_take (fun x => decide (x.1 < n)) (syOf s.log) k x
  have hget : ∀ k, k < len → ∃ x, (syOf s.log)[k]? = some x := fun k hk => by rw [hl] at hk; exact ⟨_, List.getElem?_eq_getElem hk⟩
  rw [← hl] at h6 hlen' hnil
  clear h hl hcap
  obtain ⟨L, hL⟩ : ∃ L, L = syOf s.log := ⟨_, rfl⟩
  obtain ⟨SC, hSCe⟩ : ∃ SC, SC = Sc s.log := ⟨_, rfl⟩
  rw [← hL] at hSc hle hfin hstep hget ⊢
  rw [← hSCe] at hSc hcell
  clear hL hSCe
  go_enter Try.func48, Try.ntmps48
  go_wp2
  go_loopw [5, 13] (fun nv iv wr => ∃ k : Nat, k ≤ len ∧ iv = .int .i64 (k : Nat) ∧ nv = .int .i64 (lastS ((L.take k).filter (fun x => decide (x.1 < n))) : Nat) ∧ Below w.heap.size w wr)
    (fun _ iv _ => len - (intOf iv).toNat)
  case atStart => exact ⟨0, Nat.zero_le _, rfl, rfl, Below.refl _ _⟩
  case round =>
    obtain ⟨k, hk, rfl, rfl, hbel⟩ := hrel
    by_cases hlt : k < len
    · obtain ⟨x, hx⟩ := hget k hlt
      have hnn : ∃ g, asx = some ⟨g, 0, none⟩ := by
        cases asx with
        | none => have := (hnil rfl).1; omega
        | some ad => obtain ⟨g, rfl⟩ := hsome ad rfl; exact ⟨g, rfl⟩
      obtain ⟨g, rfl⟩ := hnn
      have hglt := hslt g rfl
      have c0 : wr.cell? ⟨g, k * 2, none⟩ = some (.int .i64 (x.1 : Nat)) := (hbel.cell (p := ⟨g, k * 2, none⟩) hglt).trans (hcell g rfl (k * 2) _ (by rw [show k * 2 = k * 2 + 0 from rfl, hSc k 0 x hx (by decide)]; rfl))
      have c1 : wr.cell? ⟨g, k * 2 + 1, none⟩ = some (.int .i64 x.2) := (hbel.cell (p := ⟨g, k * 2 + 1, none⟩) hglt).trans (hcell g rfl (k * 2 + 1) _ (by rw [hSc k 1 x hx (by decide)]; rfl))
      have hrange : wr.rangeAt g (k * 2) [.int .i64 (x.1 : Nat), .int .i64 x.2] := fun j v hv => by
        match j, hv with
        | 0, hv => simp at hv; rw [← hv]; exact c0
        | 1, hv => simp at hv; rw [← hv]; exact c1
        | j + 2, hv => simp at hv
      have hst := hstep k x hx
      have hl1 := hle k
      have hl2 := hle (k + 1)
      have i0 : (k : Int) < (len : Int) := by omega
      have i1 : (0 : Int) ≤ (k : Int) := by omega
      have hcall := fun w2 (hb : Below wr.heap.size wr w2) => cutAt1_c x w2 gn n ((hb.cell (p := ⟨gn, 0, none⟩) (Nat.lt_of_lt_of_le hgl hbel.size)).trans ((hbel.cell (p := ⟨gn, 0, none⟩) hgl).trans hgn)) (Nat.lt_of_lt_of_le (Nat.lt_of_lt_of_le hgl hbel.size) hb.size)
      clear hcell hSc hget hstep hnil hsome hslt hle hfin
      have hB2 : Below wr.heap.size wr (wr.alloc (.cells #[.int .i64 (x.1 : Nat), .int .i64 x.2] 82)) := (Below.refl _ _).alloc (Nat.le_refl _) _
      have hH : Has (wr.alloc (.cells #[.int .i64 (x.1 : Nat), .int .i64 x.2] 82)) wr.heap.size 82 #[.int .i64 (x.1 : Nat), .int .i64 x.2] := Has.new_at rfl
      have hc2 := hcall _ hB2
      clear hcall
      cases hq : decide (x.1 < n)
      · rw [hq] at hc2
        rw [if_neg (by rw [hq]; simp)] at hst
        go_wp2_with (first
          | (refine wpList_load_mid rfl 82 (.tmp 15) rfl g (k * 2) rfl [.int .i64 (x.1 : Nat), .int .i64 x.2] _ hrange Try.underlying82 rfl Try.size82 ?_)
          | ((go_at_call 52)
             (refine hc2.mono ?_)
             (rintro e w3 ⟨rfl, hb3⟩)
             (have hB3 : Below w.heap.size w w3 := hbel.trans ((hB2.mono hbel.size).trans (hb3.mono (Nat.le_trans hbel.size hB2.size))))
             (clear hc2)))
        go_roundw
        case rel => exact ⟨k + 1, by omega, by go_num, by rw [hst], hB3⟩
        case measure => simp [intOf]; omega
      · rw [hq] at hc2
        rw [if_pos (by exact hq)] at hst
        go_wp2_with (first
          | (refine wpList_load_mid rfl 82 (.tmp 15) rfl g (k * 2) rfl [.int .i64 (x.1 : Nat), .int .i64 x.2] _ hrange Try.underlying82 rfl Try.size82 ?_)
          | ((go_at_call 52)
             (refine hc2.mono ?_)
             (rintro e w3 ⟨rfl, hb3⟩)
             (have hB3 : Below w.heap.size w w3 := hbel.trans ((hB2.mono hbel.size).trans (hb3.mono (Nat.le_trans hbel.size hB2.size))))
             (have q0 : w3.cell? ⟨wr.heap.size, 0, none⟩ = some (.int .i64 (x.1 : Nat)) := (hb3.cell (p := ⟨wr.heap.size, 0, none⟩) hH.lt).trans (hH.cell 0))
             (clear hc2)))
        go_roundw
        case rel => exact ⟨k + 1, by omega, by go_num, by rw [hst], hB3⟩
        case measure => simp [intOf]; omega
    · obtain rfl : k = len := by omega
      rw [hfin]
      go_wp2
      go_ret
      exact ⟨rfl, hbel⟩

set_option maxRecDepth 100000 in
set_option maxHeartbeats 2000000 in
theorem synced_mo (h : RepAt w p s c bb bs bc vw vs) (gn n : Nat) (hgn : w.cell? ⟨gn, 0, none⟩ = some (.int .i64 (n : Nat))) (hgl : gn < w.heap.size) (hlen : s.log.length ≤ 100000) : Calls Try.prog 48 #[ptr p, .func (.func 55) #[] #[.pointer (some ⟨gn, 0, none⟩)]] w fun e w' => e = .returned (.int .i64 (lastS ((syOf s.log).filter (fun x => decide (x.2 < (n : Nat)))) : Nat)) ∧ Below w.heap.size w w' := by
  have h6 : w.cell? ⟨p, 6, none⟩ = some vs := h.cell 6
  have hlen' := Nat.le_trans (sy_len_le s.log) hlen
  have hSc := fun i j x hx hj => Sc_at s.log i j x hx hj
  obtain ⟨asx, caps, rfl, hcap, hnil, hsome, hcell⟩ := own_slice h.sy
  have hslt : ∀ g, asx = some ⟨g, 0, none⟩ → g < w.heap.size := fun g hg => (h.sy.lt g (by rw [hg]; rfl)).2
  obtain ⟨len, hl⟩ : ∃ len, len = (syOf s.log).length := ⟨_, rfl⟩
  have hle := last_le s.log (fun x => decide (x.2 < (n : Nat)))
  have hwl : wrs s.log ≤ s.log.length := List.length_filter_le _ _
  have hfin : (syOf s.log).take len = syOf s.log := by rw [hl, List.take_length]
  have hstep := fun k x => last_take (fun x => decide (x.2 < (n : Nat))) (syOf s.log) k x
  have hget : ∀ k, k < len → ∃ x, (syOf s.log)[k]? = some x := fun k hk => by rw [hl] at hk; exact ⟨_, List.getElem?_eq_getElem hk⟩
  rw [← hl] at h6 hlen' hnil
  clear h hl hcap
  obtain ⟨L, hL⟩ : ∃ L, L = syOf s.log := ⟨_, rfl⟩
  obtain ⟨SC, hSCe⟩ : ∃ SC, SC = Sc s.log := ⟨_, rfl⟩
  rw [← hL] at hSc hle hfin hstep hget ⊢
  rw [← hSCe] at hSc hcell
  clear hL hSCe
  go_enter Try.func48, Try.ntmps48
  go_wp2
  go_loopw [5, 13] (fun nv iv wr => ∃ k : Nat, k ≤ len ∧ iv = .int .i64 (k : Nat) ∧ nv = .int .i64 (lastS ((L.take k).filter (fun x => decide (x.2 < (n : Nat)))) : Nat) ∧ Below w.heap.size w wr)
    (fun _ iv _ => len - (intOf iv).toNat)
  case atStart => exact ⟨0, Nat.zero_le _, rfl, rfl, Below.refl _ _⟩
  case round =>
    obtain ⟨k, hk, rfl, rfl, hbel⟩ := hrel
    by_cases hlt : k < len
    · obtain ⟨x, hx⟩ := hget k hlt
      have hnn : ∃ g, asx = some ⟨g, 0, none⟩ := by
        cases asx with
        | none => have := (hnil rfl).1; omega
        | some ad => obtain ⟨g, rfl⟩ := hsome ad rfl; exact ⟨g, rfl⟩
      obtain ⟨g, rfl⟩ := hnn
      have hglt := hslt g rfl
      have c0 : wr.cell? ⟨g, k * 2, none⟩ = some (.int .i64 (x.1 : Nat)) := (hbel.cell (p := ⟨g, k * 2, none⟩) hglt).trans (hcell g rfl (k * 2) _ (by rw [show k * 2 = k * 2 + 0 from rfl, hSc k 0 x hx (by decide)]; rfl))
      have c1 : wr.cell? ⟨g, k * 2 + 1, none⟩ = some (.int .i64 x.2) := (hbel.cell (p := ⟨g, k * 2 + 1, none⟩) hglt).trans (hcell g rfl (k * 2 + 1) _ (by rw [hSc k 1 x hx (by decide)]; rfl))
      have hrange : wr.rangeAt g (k * 2) [.int .i64 (x.1 : Nat), .int .i64 x.2] := fun j v hv => by
        match j, hv with
        | 0, hv => simp at hv; rw [← hv]; exact c0
        | 1, hv => simp at hv; rw [← hv]; exact c1
        | j + 2, hv => simp at hv
      have hst := hstep k x hx
      have hl1 := hle k
      have hl2 := hle (k + 1)
      have i0 : (k : Int) < (len : Int) := by omega
      have i1 : (0 : Int) ≤ (k : Int) := by omega
      have hcall := fun w2 (hb : Below wr.heap.size wr w2) => cutMo1_c x w2 gn n ((hb.cell (p := ⟨gn, 0, none⟩) (Nat.lt_of_lt_of_le hgl hbel.size)).trans ((hbel.cell (p := ⟨gn, 0, none⟩) hgl).trans hgn)) (Nat.lt_of_lt_of_le (Nat.lt_of_lt_of_le hgl hbel.size) hb.size)
      clear hcell hSc hget hstep hnil hsome hslt hle hfin
      have hB2 : Below wr.heap.size wr (wr.alloc (.cells #[.int .i64 (x.1 : Nat), .int .i64 x.2] 82)) := (Below.refl _ _).alloc (Nat.le_refl _) _
      have hH : Has (wr.alloc (.cells #[.int .i64 (x.1 : Nat), .int .i64 x.2] 82)) wr.heap.size 82 #[.int .i64 (x.1 : Nat), .int .i64 x.2] := Has.new_at rfl
      have hc2 := hcall _ hB2
      clear hcall
      cases hq : decide (x.2 < (n : Nat))
      · rw [hq] at hc2
        rw [if_neg (by rw [hq]; simp)] at hst
        go_wp2_with (first
          | (refine wpList_load_mid rfl 82 (.tmp 15) rfl g (k * 2) rfl [.int .i64 (x.1 : Nat), .int .i64 x.2] _ hrange Try.underlying82 rfl Try.size82 ?_)
          | ((go_at_call 55)
             (refine hc2.mono ?_)
             (rintro e w3 ⟨rfl, hb3⟩)
             (have hB3 : Below w.heap.size w w3 := hbel.trans ((hB2.mono hbel.size).trans (hb3.mono (Nat.le_trans hbel.size hB2.size))))
             (clear hc2)))
        go_roundw
        case rel => exact ⟨k + 1, by omega, by go_num, by rw [hst], hB3⟩
        case measure => simp [intOf]; omega
      · rw [hq] at hc2
        rw [if_pos (by exact hq)] at hst
        go_wp2_with (first
          | (refine wpList_load_mid rfl 82 (.tmp 15) rfl g (k * 2) rfl [.int .i64 (x.1 : Nat), .int .i64 x.2] _ hrange Try.underlying82 rfl Try.size82 ?_)
          | ((go_at_call 55)
             (refine hc2.mono ?_)
             (rintro e w3 ⟨rfl, hb3⟩)
             (have hB3 : Below w.heap.size w w3 := hbel.trans ((hB2.mono hbel.size).trans (hb3.mono (Nat.le_trans hbel.size hB2.size))))
             (have q0 : w3.cell? ⟨wr.heap.size, 0, none⟩ = some (.int .i64 (x.1 : Nat)) := (hb3.cell (p := ⟨wr.heap.size, 0, none⟩) hH.lt).trans (hH.cell 0))
             (clear hc2)))
        go_roundw
        case rel => exact ⟨k + 1, by omega, by go_num, by rw [hst], hB3⟩
        case measure => simp [intOf]; omega
    · obtain rfl : k = len := by omega
      rw [hfin]
      go_wp2
      go_ret
      exact ⟨rfl, hbel⟩

end Go.Proofs.Ytalcalecmklcoaa
