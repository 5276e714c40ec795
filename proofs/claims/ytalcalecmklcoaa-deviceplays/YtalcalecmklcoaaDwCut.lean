/- device: Cut. -/
import Derived.Test.YtalcalecmklcoaaDwLeft
namespace Go.Proofs.Ytalcalecmklcoaa
open Go.ChangeShapes Go.WideShapes Go.ChangeAt Go.RowKit
set_option linter.unusedVariables false

variable {w w' : World} {p c bb bs bc : Nat} {s : DS} {vw vs : Value}

theorem RepAt.below (h : RepAt w p s c bb bs bc vw vs) (hb : Below w.heap.size w w') : RepAt w' p s c bb bs bc vw vs := h.kept (fun k hk => hb.block k (h.lt k hk))

theorem Bools.down {a : Option Addr} {L : Nat} {kf : Nat → Bool} (h : Bools w a L kf) (hb : Below w.heap.size w w') : Bools w' a L kf := by
  rcases h with h | ⟨b, o, h1, h2, h3⟩
  · exact .inl h
  · exact .inr ⟨b, o, h1, Nat.lt_of_lt_of_le h2 hb.size, fun j hj => (hb.cell (p := ⟨b, o + j, none⟩) h2).trans (h3 j hj)⟩

theorem LeftPost.up {w1 : World} {e : Ending} {s' s'' : DS} (h : LeftPost w1 w' e s') (hb : Below w.heap.size w w1) (hs : s' = s'') : LeftPost w w' e s'' := by
  subst hs
  obtain ⟨q, c', b1, b2, b3, h1, h2, h3, h4, h5, h6, h7⟩ := h
  exact ⟨q, c', b1, b2, b3, h1, h2, h3, fun k hk => Nat.le_trans hb.size (h4 k hk), Nat.le_trans hb.size h5, h6, hb.trans (h7.mono hb.size)⟩

theorem filter_all (l : List (Nat × Int)) : l.filter (fun _ => true) = l := by simp

set_option maxRecDepth 100000 in
set_option maxHeartbeats 2000000 in
theorem cut_r (h : RepAt w p s c bb bs bc vw vs) (a : Option Addr) (L C : Nat) (kf : Nat → Bool) (hk : Bools w a L kf) (hlen : s.log.length ≤ 100000) :
    Calls Try.prog 25 #[ptr p, .slice a L C] w fun e w' => LeftPost w w' e (cutD s (keepOf kf L)) := by
  have hwl : wrs s.log ≤ s.log.length := List.length_filter_le _ _
  have hsy := synced_all h hlen
  rw [filter_all] at hsy
  have hle : lastS (syOf s.log) ≤ 100000 := by
    have := last_le s.log (fun _ => true) (syOf s.log).length
    rw [filter_all, List.take_length] at this
    omega
  have hfin : (⟨s.n, clo (keepOf kf L) (lastS (syOf s.log)) 0 0 ((ws s.log).take (wrs s.log)) s.fst, [], s.bad, s.dead⟩ : DS) = cutD s (keepOf kf L) := by
    unfold cutD cutL
    rw [left_prog, ← ws_len, List.take_length]
  have h5 : w.cell? ⟨p, 5, none⟩ = some vw := h.cell 5
  have hplt := h.has.lt
  have hlf := fun w1 (hb : Below w.heap.size w w1) => left_r (h.below hb) (wrs s.log) (lastS (syOf s.log)) (Nat.le_refl _) hle a L C kf (hk.down hb) hlen
  obtain ⟨aw, capw, rfl, _⟩ := own_slice h.wr
  clear h hk
  go_enter Try.func25, Try.ntmps25
  go_wp2_with (first
    | ((go_at_call 48)
       (refine hsy.mono ?_)
       (rintro e w1 ⟨rfl, hb1⟩)
       (have k5 : w1.cell? ⟨p, 5, none⟩ = some (.slice aw (wrs s.log) capw) := (hb1.cell (p := ⟨p, 5, none⟩) hplt).trans h5)
       (have hl1 := hlf w1 hb1)
       (clear hlf))
    | ((go_at_call 50)
       (refine hl1.mono ?_)
       (intro e w2 hpost)
       (obtain ⟨q, c', b1, b2, b3, rfl, r2⟩ := hpost)))
  go_ret
  exact LeftPost.up (w1 := w1) ⟨q, c', b1, b2, b3, rfl, r2⟩ hb1 hfin

end Go.Proofs.Ytalcalecmklcoaa
