/- The walk of OctetsNumbers: for every byte slice, uint64 and int it returns true and writes nothing that was there. -/
import Derived.Test.YtcgoepbmbeimmaaRNum
import Derived.Laws.AppendOwnNone
import Derived.Deep.AppendLies
namespace Go.Proofs.Ytcgoepbmbeimmaa
open Go.ChangeShapes Go.WideShapes Go.ChangeAt Go.RowKit

theorem get_both (len : Nat) (f : Nat → Int) (hm : len ≤ maxLen) : ∃ X E : Int,
    (∀ (w : World) (a : Option Addr) (cap : Nat), Row w a len f → Calls Try.prog 9 #[.slice a len cap] w fun e w' => e = .returned (.tuple #[.int .u64 X, .int .i64 E]) ∧ w' = w) ∧
    (∀ (w : World) (a : Option Addr) (cap : Nat), Row w a len f → Calls Try.prog 10 #[.slice a len cap] w fun e w' => e = .returned (.tuple #[.int .u64 X, .int .i64 E]) ∧ w' = w) := by
  by_cases h : 1 ≤ len ∧ len ≤ 8
  · exact ⟨val f len, 0, fun w a cap hR => get_row cap h.1 h.2 hR, fun w a cap hR => rget_row cap h.1 h.2 hR⟩
  · exact ⟨0, 1, fun w a cap _ => get_err a len cap w (by omega) hm, fun w a cap _ => rget_err a len cap w (by omega)⟩

theorem put_both (n s : Int) (hn : 0 ≤ n ∧ n ≤ 18446744073709551615) : ∃ (E : Int) (l : Nat) (h : Nat → Int),
    (∀ w : World, Calls Try.prog 11 #[.int .u64 n, .int .i64 s] w fun e w' => ∃ a c, e = .returned (.tuple #[.slice a l c, .int .i64 E]) ∧ Row w' a l h ∧ (a = none → l = 0) ∧ Below w.heap.size w w') ∧
    (∀ w : World, Calls Try.prog 12 #[.int .u64 n, .int .i64 s] w fun e w' => ∃ a c, e = .returned (.tuple #[.slice a l c, .int .i64 E]) ∧ Row w' a l h ∧ (a = none → l = 0) ∧ Below w.heap.size w w') := by
  by_cases c : s < 1 ∨ 8 < s
  · refine ⟨1, 0, fun _ => 0, fun w => (put_err s n w ?_).mono ?_, fun w => (rput_size s n w c).mono ?_⟩
    · rcases c with c | c
      · exact .inl c
      · exact .inr (.inl c)
    · rintro e w' ⟨rfl, hb⟩
      exact ⟨none, 0, rfl, fun j hj => by omega, fun _ => rfl, hb⟩
    · rintro e w' ⟨rfl, rfl⟩
      exact ⟨none, 0, rfl, fun j hj => by omega, fun _ => rfl, Below.refl _ _⟩
  · obtain ⟨k, rfl⟩ : ∃ k : Nat, s = (k : Int) := ⟨s.toNat, by omega⟩
    by_cases hh : hold n k = true
    · refine ⟨0, k, byteAt n k, fun w => (put_ok k n w (by omega) (by omega) hh).mono ?_, fun w => (rput_any k n w (by omega) (by omega) hn).mono ?_⟩
      · rintro e w' ⟨rfl, ho, hb⟩
        exact ⟨_, _, rfl, row_own ho (fun j _ => byteAt_bd n k j), by simp, hb⟩
      · rintro e w' ⟨hb, ⟨_, rfl, hr⟩ | ⟨h0, _⟩⟩
        · exact ⟨_, _, rfl, hr, by simp, hb⟩
        · rw [hh] at h0
          cases h0
    · have hh : hold n k = false := by simpa using hh
      refine ⟨1, 0, fun _ => 0, fun w => (put_err k n w (.inr (.inr hh))).mono ?_, fun w => (rput_any k n w (by omega) (by omega) hn).mono ?_⟩
      · rintro e w' ⟨rfl, hb⟩
        exact ⟨none, 0, rfl, fun j hj => by omega, fun _ => rfl, hb⟩
      · rintro e w' ⟨hb, ⟨h0, _⟩ | ⟨_, rfl⟩⟩
        · rw [hh] at h0
          cases h0
        · exact ⟨none, 0, rfl, fun j hj => by omega, fun _ => rfl, hb⟩

theorem fill_cells (f : Nat → Int) (n : Nat) : ∀ j u, (fill f n n)[j]? = some u → j < n ∧ u = .int .u8 (f j) := by
  intro j u h
  unfold fill at h
  rw [List.getElem?_map] at h
  by_cases hj : j < n
  · rw [List.getElem?_range hj] at h
    simp [hj] at h
    exact ⟨hj, h.symm⟩
  · have : (List.range n)[j]? = none := by simp; omega
    rw [this] at h
    cases h

theorem fill_one (f : Nat → Int) (n : Nat) : ∀ u ∈ fill f n n, u.oneCell' = true := by
  intro u hu
  unfold fill at hu
  obtain ⟨j, _, rfl⟩ := List.mem_map.1 hu
  rfl

theorem fill_len (f : Nat → Int) (n : Nat) : (fill f n n).length = n * 1 := by simp [fill]

theorem own_cap {w : World} {base e n c : Nat} {a : Option Addr} {xs : List Value} (h : w.ownsRow base e 1 (.slice a n c) n xs) : n ≤ c := by
  rcases h.2 with ⟨h0, rfl⟩ | ⟨g, cap, cur, h0, _, _, h3, _⟩
  · omega
  · simp only [Value.slice.injEq] at h0
    omega

theorem row_part {w : World} {base e g n cap : Nat} {f : Nat → Int} {x : Value} (h : w.ownsRow base e 1 (.slice (some ⟨g, 0, none⟩) (n + 1) cap) (n + 1) (fill f n n ++ [x])) (hf : ∀ j, j < n → 0 ≤ f j ∧ f j ≤ 255) :
    Row w (some ⟨g, 0, none⟩) n f := by
  intro j hj
  refine ⟨hf j hj, g, 0, rfl, (h.lt g rfl).2, ?_⟩
  rw [Nat.zero_add, h.cellAt j (by omega), List.getElem?_append_left (by simp [fill]; exact hj)]
  simp [fill, hj]

theorem cell_last {w : World} {base e g n cap : Nat} {f : Nat → Int} {x : Value} (h : w.ownsRow base e 1 (.slice (some ⟨g, 0, none⟩) (n + 1) cap) (n + 1) (fill f n n ++ [x])) :
    w.cell? ⟨g, n, none⟩ = some x := by
  have hl : (fill f n n).length = n := by simp [fill]
  rw [h.cellAt n (by omega), List.getElem?_append_right (by omega), hl, Nat.sub_self]
  rfl

set_option maxHeartbeats 1600000 in
theorem num_some (x : Addr) (len cap : Nat) (n s : Int) (f : Nat → Int) (w : World) (hn : 0 ≤ n ∧ n ≤ 18446744073709551615)
    (hm : len ≤ 140737488351232) (hR : Row w (some x) len f) (hnil : (some x) = none → len = 0) (hnews : ∀ j u, (fill f len len)[j]? = some u → (w.alloc (.cells #[] 5)).cell? (x.add j) = some u) :
    Calls Try.prog 3 #[.slice (some x) len cap, .int .u64 n, .int .i64 s] w fun e w' => e = .returned (.bool true) ∧ Below w.heap.size w w' := by
  obtain ⟨i0, hi, hz0, hz1, hz2⟩ := info_parts Try.info5
  obtain ⟨X, E, g1, g2⟩ := get_both len f (by unfold maxLen; omega)
  obtain ⟨E', l', h', p1, p2⟩ := put_both n s hn
  have own0 := World.ownsRow_lit (base := w.heap.size) (e := 5) (size := 1) w #[] 0 (Nat.le_refl _) (by unfold maxLen; omega) rfl
  go_enter Try.func3, Try.ntmps3
  go_wp2_with (first
    | (at_builtin; have _t := own0; refine wpList_append_own _ rfl _ _ 22 rfl w.heap.size 5 i0 (.int .u8 0) 1 1 Try.underlying22 hi hz0 hz1 hz2 rfl (by decide) _ 0 _ rfl own0 x len cap (fill f len len) rfl (fill_len f len) hnews (fill_one f len) (by unfold maxLen; omega) (by omega) (by simp) ?_
       intro v1 w1 own1 gr1 _
       simp only [Nat.zero_add, List.nil_append] at own1
       have bel1 : Below w.heap.size w w1 := ((Below.refl _ _).alloc (Nat.le_refl _) _).grown gr1 (by simp) (fun k' h => (own0.lt k' h).1)
       clear own0 _t gr1 hnews)
    | (at_builtin; have _t := own1; (refine wpList_append_lies _ rfl _ _ 22 rfl w.heap.size 5 i0 (.int .u8 0) 1 1 Try.underlying22 hi hz0 hz1 hz2 rfl (by decide) _ len _ rfl (own1.alloc _) ⟨w1.heap.size, 0, none⟩ 1 1 [.int .u8 77] rfl rfl (World.news_of_block (cs := #[.int .u8 77]) (t := 5) (fr := (0, 0)) (heap_alloc_new w1 _)) (by simp [Value.oneCell']) (by decide) (by unfold maxLen; omega) (by omega) (by simp only [World.size_alloc]; exact Nat.le_succ_of_le bel1.size) _ rfl ?_)
       intro g cp w2 own2 gr2 hat hlt2
       have bel2 : Below w.heap.size w w2 := (bel1.alloc bel1.size _).grown gr2 (by simp only [World.size_alloc]; exact Nat.le_succ_of_le bel1.size) (fun k' h => (own1.lt k' h).1)
       have hcp := own_cap own2
       have rown : Row w2 (some ⟨g, 0, none⟩) len f := row_part own2 (fun j hj => (hR j hj).1)
       have c77 : w2.cell? ⟨g, len, none⟩ = some (.int .u8 77) := cell_last own2
       have k1 := g1 w2 _ cp rown
       have hR2 := hR.below bel2 (Nat.le_refl _)
       have k2 := g2 w2 _ cap hR2
       have k3 := p1 w2
       clear own1 own2 _t gr2 bel1 g1 g2 p1 hR hi hz0 hz1 hz2)
    | (go_at_call 9; refine k1.mono ?_; rintro e w3 ⟨rfl, rfl⟩; clear k1)
    | (go_at_call 10; refine k2.mono ?_; rintro e w3 ⟨rfl, rfl⟩; clear k2)
    | (go_at_call 11; refine k3.mono ?_; rintro e w4 ⟨pa, pc, rfl, pr, pn, pb⟩; have k4 := p2 w4; clear k3 p2)
    | (go_at_call 12; refine k4.mono ?_; rintro e w5 ⟨qa, qc, rfl, qr, qn, qb⟩
       have b25 := pb.trans (qb.mono pb.size)
       have s1 := same_any pc qc (pr.below qb (Nat.le_refl _)) qr pn qn
       rw [beq_self_eq_true] at s1
       have s2 := same_any cp cap (rown.below b25 (Nat.le_refl _)) (hR2.below b25 (Nat.le_refl _)) (by simp) hnil
       rw [beq_self_eq_true] at s2
       have c75 := (b25.cell (p := ⟨g, len, none⟩) hlt2).trans c77
       have hal := alive_any w5
       have b05 := bel2.trans (b25.mono bel2.size)
       have hl5 : g < w5.heap.size := Nat.lt_of_lt_of_le hlt2 b25.size
       clear k4 pr qr pn qn rown hR2 c77 b25 bel2 pb qb)
    | (go_at_call 13; have _t := s1; refine s1.mono ?_; rintro e w6 ⟨rfl, rfl⟩; clear s1 _t)
    | (go_at_call 13; have _t := s2; refine s2.mono ?_; rintro e w6 ⟨rfl, rfl⟩; clear s2 _t)
    | (go_at_call 14; refine hal.mono ?_; rintro e w7 ⟨rfl, b7⟩
       have c77 := (b7.cell (p := ⟨g, len, none⟩) hl5).trans c75
       clear hal c75))
  go_ret
  exact ⟨rfl, b05.trans (b7.mono b05.size)⟩

set_option maxHeartbeats 1600000 in
theorem num_none (n s : Int) (f : Nat → Int) (w : World) (hn : 0 ≤ n ∧ n ≤ 18446744073709551615)
    (hR : Row w none 0 f) :
    Calls Try.prog 3 #[.slice none 0 0, .int .u64 n, .int .i64 s] w fun e w' => e = .returned (.bool true) ∧ Below w.heap.size w w' := by
  obtain ⟨i0, hi, hz0, hz1, hz2⟩ := info_parts Try.info5
  obtain ⟨X, E, g1, g2⟩ := get_both 0 f (by unfold maxLen; omega)
  obtain ⟨E', l', h', p1, p2⟩ := put_both n s hn
  have own0 := World.ownsRow_lit (base := w.heap.size) (e := 5) (size := 1) w #[] 0 (Nat.le_refl _) (by unfold maxLen; omega) rfl
  have hnew : ((w.alloc (.cells #[] 5)).alloc (.cells #[.int .u8 77] 5)).heap[w.heap.size + 1]? = some (.cells #[.int .u8 77] 5 (0, 0)) := by
    have h := heap_alloc_new (w.alloc (.cells #[] 5)) (.cells #[.int .u8 77] 5)
    rwa [World.size_alloc] at h
  go_enter Try.func3, Try.ntmps3
  go_wp2_with (first
    | (at_builtin; have _t := own0; refine wpList_append_own_none rfl _ _ 22 rfl w.heap.size 5 i0 1 Try.underlying22 hi _ 0 _ rfl own0 rfl ?_
       have own1 : (w.alloc (.cells #[] 5)).ownsRow w.heap.size 5 1 (.slice (some ⟨w.heap.size, 0, none⟩) 0 0) 0 (fill f 0 0) := own0
       have bel1 : Below w.heap.size w (w.alloc (.cells #[] 5)) := (Below.refl _ _).alloc (Nat.le_refl _) _
       clear own0 _t)
    | (at_builtin; have _t := own1; (refine wpList_append_lies _ rfl _ _ 22 rfl w.heap.size 5 i0 (.int .u8 0) 1 1 Try.underlying22 hi hz0 hz1 hz2 rfl (by decide) _ 0 _ rfl (own1.alloc _) ⟨w.heap.size + 1, 0, none⟩ 1 1 [.int .u8 77] rfl rfl (World.news_of_block (cs := #[.int .u8 77]) (t := 5) (fr := (0, 0)) hnew) (by simp [Value.oneCell']) (by decide) (by unfold maxLen; omega) (by omega) (by simp only [World.size_alloc]; omega) _ rfl ?_)
       intro g cp w2 own2 gr2 hat hlt2
       have bel2 : Below w.heap.size w w2 := (bel1.alloc bel1.size _).grown gr2 (by simp only [World.size_alloc]; omega) (fun k' h => (own1.lt k' h).1)
       have hcp := own_cap own2
       have rown : Row w2 (some ⟨g, 0, none⟩) 0 f := row_part own2 (fun j hj => (hR j hj).1)
       have c77 : w2.cell? ⟨g, 0, none⟩ = some (.int .u8 77) := cell_last own2
       have k1 := g1 w2 _ cp rown
       have hR2 := hR.below bel2 (Nat.le_refl _)
       have k2 := g2 w2 _ 0 hR2
       have k3 := p1 w2
       clear own1 own2 _t gr2 bel1 g1 g2 p1 hR hi hz0 hz1 hz2)
    | (go_at_call 9; refine k1.mono ?_; rintro e w3 ⟨rfl, rfl⟩; clear k1)
    | (go_at_call 10; refine k2.mono ?_; rintro e w3 ⟨rfl, rfl⟩; clear k2)
    | (go_at_call 11; refine k3.mono ?_; rintro e w4 ⟨pa, pc, rfl, pr, pn, pb⟩; have k4 := p2 w4; clear k3 p2)
    | (go_at_call 12; refine k4.mono ?_; rintro e w5 ⟨qa, qc, rfl, qr, qn, qb⟩
       have b25 := pb.trans (qb.mono pb.size)
       have s1 := same_any pc qc (pr.below qb (Nat.le_refl _)) qr pn qn
       rw [beq_self_eq_true] at s1
       have s2 := same_any cp 0 (rown.below b25 (Nat.le_refl _)) (hR2.below b25 (Nat.le_refl _)) (by simp) (fun _ => rfl)
       rw [beq_self_eq_true] at s2
       have c75 := (b25.cell (p := ⟨g, 0, none⟩) hlt2).trans c77
       have hal := alive_any w5
       have b05 := bel2.trans (b25.mono bel2.size)
       have hl5 : g < w5.heap.size := Nat.lt_of_lt_of_le hlt2 b25.size
       clear k4 pr qr pn qn rown hR2 c77 b25 bel2 pb qb)
    | (go_at_call 13; have _t := s1; refine s1.mono ?_; rintro e w6 ⟨rfl, rfl⟩; clear s1 _t)
    | (go_at_call 13; have _t := s2; refine s2.mono ?_; rintro e w6 ⟨rfl, rfl⟩; clear s2 _t)
    | (go_at_call 14; refine hal.mono ?_; rintro e w7 ⟨rfl, b7⟩
       have c77 := (b7.cell (p := ⟨g, 0, none⟩) hl5).trans c75
       clear hal c75))
  go_ret
  exact ⟨rfl, b05.trans (b7.mono b05.size)⟩

theorem num_walk (a : Option Addr) (len cap : Nat) (zs : List Int) (n s : Int) (w : World) (w0 : IsRow .u8 w a len cap zs) (wn : (Lit.int .u64 n).wf = true) (_ws : (Lit.int .i64 s).wf = true) (rc : cap ≤ 140737488351232) :
    Calls Try.prog 3 #[.slice a len cap, .int .u64 n, .int .i64 s] w fun e w' => e = .returned (.bool true) ∧ Below w.heap.size w w' := by
  have hn := bounds_u64 wn
  have hR := row_of_isRow w0
  rcases w0 with ⟨rfl, rfl, rfl, rfl⟩ | ⟨x, rfl, hl, hm, hz, hc, hw⟩
  · exact num_none n s _ w hn hR
  · refine num_some x len cap n s _ w hn (by omega) hR (by simp) ?_
    intro j u h
    obtain ⟨hj, rfl⟩ := fill_cells _ _ j u h
    have hcj := hc j (by omega)
    have hlt := cell_lt hcj
    rw [World.cell?_alloc_lt (h := hlt)]
    exact hcj
end Go.Proofs.Ytcgoepbmbeimmaa
