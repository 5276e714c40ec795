/- device: fresh, New. -/
import Derived.Test.YtancebpjfbbcaaaDwSmall
namespace Go.Proofs.Ytancebpjfbbcaaa
open Go.ChangeShapes Go.WideShapes Go.ChangeAt Go.RowKit
set_option linter.unusedVariables false

abbrev nilS : Value := .slice none 0 0

set_option maxRecDepth 100000 in
set_option maxHeartbeats 2000000 in
theorem fresh_r (w : World) (n bs : Nat) (f : Int → Option Value) (h : MapIs w bs f) : Calls Try.prog 63 #[.int .i64 (n : Nat), .map (some bs)] w fun e w' =>
    ∃ p bb bc c, e = .returned (ptr p) ∧ Has w' p 92 (dcells n false bb bs bc nilS nilS 0 c) ∧ MapIs w' bb (fun _ => none) ∧ MapIs w' bs f ∧ MapIs w' bc f ∧ Has w' c 112 #[.int .i64 (0 : Nat)] ∧ w.heap.size ≤ p ∧ w.heap.size ≤ bb ∧ w.heap.size ≤ bc ∧ w.heap.size ≤ c ∧ bb ≠ bc ∧ Below w.heap.size w w' := by
  have hmm := @run_makeMap Try.prog
  have hlt := h.lt
  have hb1 : Below w.heap.size w (w.alloc (.map #[] 0)) := (Below.refl _ _).alloc (Nat.le_refl _) _
  have hcl := clone_sec bs f (w.alloc (.map #[] 0)) (h.alloc _)
  have hm1 : MapIs (w.alloc (.map #[] 0)) w.heap.size (fun _ => none) := MapIs.made w
  go_enter Try.func63, Try.ntmps63
  go_wp2_with (first
    | ((go_at_call 70)
       (refine hcl.mono ?_)
       (rintro e w2 ⟨rfl, hm2, hb2⟩))
    | (refine wpList_is (some 10) (.agg #[.int .i64 (0 : Nat)]) rfl (by rfl) (by kernel_rfl) ?_)
    | (refine wpList_is_w (some 11) (.pointer (some ⟨w2.heap.size, 0, none⟩)) (w2.alloc (.cells #[.int .i64 (0 : Nat)] 112)) rfl (by rfl) (by kernel_rfl) ?_)
    | (refine wpList_is (some 12) (.agg (dcells n false w.heap.size bs (w.heap.size + 1) nilS nilS 0 w2.heap.size)) rfl (by rfl) (by kernel_rfl) ?_)
    | (refine wpList_is_w (some 13) (.pointer (some ⟨(w2.alloc (.cells #[.int .i64 (0 : Nat)] 112)).heap.size, 0, none⟩)) ((w2.alloc (.cells #[.int .i64 (0 : Nat)] 112)).alloc (.cells (dcells n false w.heap.size bs (w.heap.size + 1) nilS nilS 0 w2.heap.size) 92)) rfl (by rfl) (by kernel_rfl) ?_))
  go_ret
  have hsz : (w.alloc (.map #[] 0)).heap.size = w.heap.size + 1 := by simp
  have hs2 := hb2.size
  have hlt2 := hm2.lt
  rw [hsz] at hb2 hm2 hs2 hlt2
  have hB : Below w.heap.size w w2 := hb1.trans (hb2.mono (by omega))
  refine ⟨w2.heap.size + 1, w.heap.size, w.heap.size + 1, w2.heap.size, rfl, Has.new_at (by simp), ((hm1.below hb2 (by omega)).alloc _).alloc _, (((h.alloc _).below hb2 (by omega)).alloc _).alloc _, (hm2.alloc _).alloc _, (Has.new_at rfl).alloc _, by omega, by omega, by omega, by omega, by omega, (hB.alloc hB.size _).alloc (by simp; omega) _⟩

theorem of_fresh {w : World} {p bb bs bc c n : Nat} {fs fc : Nat → Nat → Nat} (h : Has w p 92 (dcells n false bb bs bc nilS nilS 0 c)) (hb : MapIs w bb fun _ => none) (h1 : 1 ≤ n) (h2 : n ≤ 2048) (hs : SecMap w bs n fs) (hc : SecMap w bc n fs) (d1 : bb ≠ bs) (d2 : bb ≠ bc) (d3 : bs ≠ bc) :
    RepAt w p ⟨n, fs, [], fun _ => false, false⟩ c bb bs bc nilS nilS :=
  ⟨h, h1, h2, ⟨_, hb, fun _ => ⟨by simp, rfl⟩⟩, hs, hc, World.ownsRow_nil _ _ _ _, World.ownsRow_nil _ _ _ _, d1, d2, d3, List.Pairwise.nil⟩

theorem foot_new {w : World} {p bb bs bc : Nat} (h1 : w.heap.size ≤ p) (h2 : w.heap.size ≤ bb) (h3 : w.heap.size ≤ bs) (h4 : w.heap.size ≤ bc) (k : Nat) (hk : Foot p bb bs bc nilS nilS k) : w.heap.size ≤ k := by
  rcases hk with rfl | rfl | rfl | rfl | hk | hk
  · exact h1
  · exact h2
  · exact h3
  · exact h4
  · cases hk
  · cases hk

set_option maxRecDepth 100000 in
set_option maxHeartbeats 2000000 in
theorem new_r (n : Nat) (w : World) (h1 : 1 ≤ n) (h2 : n ≤ 2048) : Calls Try.prog 40 #[.int .i64 (n : Nat)] w fun e w' => ∃ p c F, e = .returned (.tuple #[ptr p, .int .i64 0]) ∧ Dev theRep w' p (fresh n) c 0 F ∧ (∀ k, F k → w.heap.size ≤ k) ∧ w.heap.size ≤ c ∧ Below w.heap.size w w' := by
  have hmm := @run_makeMap Try.prog
  have hm1 : MapIs (w.alloc (.map #[] 0)) w.heap.size (fun _ => none) := MapIs.made w
  have hb1 : Below w.heap.size w (w.alloc (.map #[] 0)) := (Below.refl _ _).alloc (Nat.le_refl _) _
  have hfr := fresh_r (w.alloc (.map #[] 0)) n w.heap.size _ hm1
  have i1 : ¬ ((n : Int) < 1) := by omega
  have i2 : ¬ ((2048 : Int) < (n : Int)) := by omega
  generalize ((n : Nat) : Int) = x at hfr i1 i2 ⊢
  go_enter Try.func40, Try.ntmps40
  go_wp2_with (first
    | ((go_at_call 63)
       (refine hfr.mono ?_)
       (rintro e w2 ⟨p, bb, bc, c, rfl, g1, g2, g3, g4, g5, q1, q2, q3, q4, q5, hb2⟩)))
  go_ret2
  have hsz : (w.alloc (.map #[] 0)).heap.size = w.heap.size + 1 := by simp
  rw [hsz] at q1 q2 q3 q4 hb2
  have hr := of_fresh (fs := fun _ _ => 0) (fc := fun _ _ => 0) g1 g2 h1 h2 ⟨_, g3, fun _ _ => rfl⟩ ⟨_, g4, fun _ _ => rfl⟩ (by omega) q5 (by omega)
  refine ⟨p, c, Foot p bb w.heap.size bc nilS nilS, rfl, ⟨⟨bb, w.heap.size, bc, nilS, nilS, hr, fun _ => Iff.rfl⟩, g5, ?_, fun e he => by cases he⟩, foot_new (by omega) (by omega) (Nat.le_refl _) (by omega), by omega, hb1.trans (hb2.mono (by omega))⟩
  rintro (e | e | e | e | e | e)
  · exact cells_ne g5 g1 (by decide) e
  · exact g2.ne g5 e.symm
  · exact g3.ne g5 e.symm
  · exact g4.ne g5 e.symm
  · cases e
  · cases e

set_option maxRecDepth 100000 in
set_option maxHeartbeats 1000000 in
theorem newNo_r (n : Int) (w : World) (hn : i64ok n) (h : ¬ (1 ≤ n ∧ n ≤ 2048)) : Calls Try.prog 40 #[.int .i64 n] w fun e w' => e = .returned (.tuple #[.pointer none, .int .i64 1]) ∧ Below w.heap.size w w' := by
  by_cases h1 : n < 1
  · go_enter Try.func40, Try.ntmps40
    go_wp2
    go_ret2
    exact ⟨rfl, Below.refl _ _⟩
  · have h2 : (2048 : Int) < n := by omega
    go_enter Try.func40, Try.ntmps40
    go_wp2
    go_ret2
    exact ⟨rfl, Below.refl _ _⟩
end Go.Proofs.Ytancebpjfbbcaaa
