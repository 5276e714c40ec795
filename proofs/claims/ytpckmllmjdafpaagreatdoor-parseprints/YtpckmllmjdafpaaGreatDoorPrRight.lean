/- The reference's Right. -/
import Derived.Test.YtpckmllmjdafpaaGreatDoorPrStmt
namespace Go.Proofs.YtpckmllmjdafpaaGreatDoor
open Go.ChangeShapes Go.WideShapes Go.ChangeAt Go.RowKit
set_option linter.unusedVariables false

theorem right_eq (n : Nd) : Right n = (n.l.all rightS && n.op == wFile && n.s == [] && decide (n.n = 0)) := rfl

theorem all_nth (l : List Nd) (p : Nd → Bool) : l.all p = (List.range l.length).all (fun j => p (nth l j)) := by
  rw [Bool.eq_iff_iff, List.all_eq_true, List.all_eq_true]
  constructor
  · intro h j hj
    have hj := List.mem_range.1 hj
    rw [nth_get hj]
    exact h _ (List.getElem_mem hj)
  · intro h x hx
    obtain ⟨i, hi, rfl⟩ := List.getElem_of_mem hx
    have := h i (List.mem_range.2 hi)
    rw [nth_get hi] at this
    exact this

set_option maxRecDepth 100000 in
set_option maxHeartbeats 2000000 in
theorem rright_no (n : Nd) (A : Option Addr) (C : Nat) (w : World) (hLm : n.l.length ≤ 9223372036854775807) (hc : n.op ≠ wFile ∨ (n.op = wFile ∧ n.s ≠ []) ∨ (n.op = wFile ∧ n.s = [] ∧ n.n ≠ 0)) : Calls Tryz.prog 9 #[nval n A C] w (Yes w false) := by
  have hot := bs_toList n.op
  have hst := bs_toList n.s
  unfold nval
  generalize n.l.length = L at *
  rcases hc with h1 | ⟨h1, h2⟩ | ⟨h1, h2, h3⟩
  · have f : (n.op == [102, 105, 108, 101]) = false := by simpa [wFile] using h1
    clear h1
    go_enter Tryz.func9, Tryz.ntmps9
    go_wp2
    go_ret
    exact ⟨rfl, b_one _ _⟩
  · have f : (n.op == [102, 105, 108, 101]) = true := by simpa [wFile] using h1
    have f2 : (n.s == []) = false := by simpa using h2
    clear h1 h2
    go_enter Tryz.func9, Tryz.ntmps9
    go_wp2
    go_ret
    exact ⟨rfl, b_one _ _⟩
  · have f : (n.op == [102, 105, 108, 101]) = true := by simpa [wFile] using h1
    rw [h2, show bs [] = (⟨#[]⟩ : ByteArray) from rfl]
    generalize n.n = M at *
    clear h1 h2 hst
    go_enter Tryz.func9, Tryz.ntmps9
    go_wp2
    go_ret
    exact ⟨rfl, b_one _ _⟩

set_option maxRecDepth 100000 in
set_option maxHeartbeats 2000000 in
theorem rright_c (n : Nd) (A : Option Addr) (C : Nat) (w : World) (h : RdN w n A C) : Calls Tryz.prog 9 #[nval n A C] w (Yes w (Right n)) := by
  have hlen := h.len
  by_cases o1 : n.op = wFile
  · by_cases o2 : n.s = []
    · by_cases o3 : n.n = 0
      · have hR : Right n = (List.range n.l.length).all (fun j => rightS (nth n.l j)) := by
          rw [right_eq, o1, o2, o3, all_nth]
          simp
        have hot := bs_toList n.op
        have f : (n.op == [102, 105, 108, 101]) = true := by simpa [wFile] using o1
        have hpa := fun hpos => parts_at h hpos
        unfold nval
        rw [o2, o3, show bs [] = (⟨#[]⟩ : ByteArray) from rfl]
        obtain ⟨L, hL⟩ : ∃ L, L = n.l.length := ⟨_, rfl⟩
        rw [← hL] at hR hlen hpa ⊢
        rw [hR]
        have HF : Hid (∀ B, B = (List.range L).all (fun j => rightS (nth n.l j)) → B = (List.range L).all (fun j => rightS (nth n.l j))) := fun _ h => h
        have hLm : L ≤ 9223372036854775807 := by omega
        obtain ⟨V0, hV0⟩ : ∃ V, V = w.alloc (.cells #[.string (bs n.op), .string ⟨#[]⟩, .int .i64 0, .int .i64 n.a, .slice A L C] 24) := ⟨_, rfl⟩
        have hbV : Below w.heap.size w V0 := by rw [hV0]; exact b_one _ _
        have hVs : V0.heap.size = w.heap.size + 1 := by rw [hV0]; simp
        have HB : Hid (∀ W, Below V0.heap.size V0 W → Has W w.heap.size 24 #[.string (bs n.op), .string ⟨#[]⟩, .int .i64 0, .int .i64 n.a, .slice A L C]) := fun W hW => Has.below (by rw [hV0]; exact Has.new _ _ _) hW (by omega)
        generalize hRES : ((List.range L).all fun i => rightS (nth n.l i)) = RES
        have HR : Hid ((List.range L).all (fun j => rightS (nth n.l j)) = RES) := hRES
        clear hR hRES o1 o2 o3 HF h hL
        go_enter Tryz.func9, Tryz.ntmps9
        go_wp2
        rw [← hV0]
        go_loopw [3] (fun i wr => ∃ k : Nat, k ≤ L ∧ i = .int .i64 k ∧ Below V0.heap.size V0 wr ∧ Hid (∀ j, j < k → rightS (nth n.l j) = true)) (fun i _ => L - (intOf i).toNat)
        case atStart => exact ⟨0, Nat.zero_le _, rfl, Below.refl _ _, (fun j hj => absurd hj (Nat.not_lt_zero _) : ∀ j, j < 0 → rightS (nth n.l j) = true)⟩
        case round =>
          obtain ⟨k, hk, rfl, bz, HA2⟩ := hrel
          obtain ⟨p0, p1, p2, p3, p4⟩ := five (HB.out _ bz)
          by_cases hlt : k < L
          · obtain ⟨g, off, Au, Cu, rfl, hg, hat⟩ := hpa (by omega)
            obtain ⟨q1, q2⟩ := hat k hlt
            have hq1 : NdAt wr g (off + k * 5) (nth n.l k) (Au k) (Cu k) := (q1.grow hbV hg).grow bz (by omega)
            have hc := rst_c (nth n.l k) (Au k) (Cu k) wr ((q2.grow hbV).grow bz)
            have HQ : Hid _ := hq1
            clear hpa hat q1 q2 hq1
            cases hr : rightS (nth n.l k) <;> rw [hr] at hc
            · have HR2 : Hid (rightS (nth n.l k) = false) := hr
              clear hr
              go_wp2_with (first
                | (refine at_dstL 28 rfl ?_; refine wpList_is (some 28) (.pointer (some ⟨g, off + k * 5, none⟩)) rfl (by rfl) (run_at_nd _ _ rfl g off k _ C rfl rfl (by omega) _) ?_)
                | (refine at_dstL 29 rfl ?_; refine wpList_is (some 29) (nval (nth n.l k) (Au k) (Cu k)) rfl (by rfl) (run_load_nd _ rfl g _ rfl _ HQ.out) ?_)
                | ((go_at_call 17)
                   (refine hc.mono ?_)
                   (rintro e w9 ⟨rfl, hb9⟩)))
              go_ret
              refine ⟨?_, hbV.trans ((bz.trans (hb9.mono bz.size)).mono (by omega))⟩
              rw [← HR.out, all_not hlt HR2.out]
              rfl
            · have HR2 : Hid (rightS (nth n.l k) = true) := hr
              clear hr
              go_wp2_with (first
                | (refine at_dstL 28 rfl ?_; refine wpList_is (some 28) (.pointer (some ⟨g, off + k * 5, none⟩)) rfl (by rfl) (run_at_nd _ _ rfl g off k _ C rfl rfl (by omega) _) ?_)
                | (refine at_dstL 29 rfl ?_; refine wpList_is (some 29) (nval (nth n.l k) (Au k) (Cu k)) rfl (by rfl) (run_load_nd _ rfl g _ rfl _ HQ.out) ?_)
                | ((go_at_call 17)
                   (refine hc.mono ?_)
                   (rintro e w9 ⟨rfl, hb9⟩)))
              go_roundw
              case rel => exact ⟨k + 1, hlt, by go_num, bz.trans (hb9.mono bz.size), (fun j hj => by
                by_cases e : j < k
                · exact HA2.out j e
                · obtain rfl : j = k := by omega
                  exact HR2.out : ∀ j, j < k + 1 → rightS (nth n.l j) = true)⟩
              case measure => simp [intOf]; omega
          · obtain rfl : k = L := by omega
            clear hpa
            go_wp2
            go_ret
            refine ⟨?_, hbV.trans (bz.mono (by omega))⟩
            rw [← HR.out, all_upto HA2.out]
            rfl
      · rw [show Right n = false by rw [right_eq, decide_eq_false o3, Bool.and_false]]
        exact rright_no n A C w (by omega) (.inr (.inr ⟨o1, o2, o3⟩))
    · rw [show Right n = false by rw [right_eq, show (n.s == []) = false by simpa using o2]; simp]
      exact rright_no n A C w (by omega) (.inr (.inl ⟨o1, o2⟩))
  · rw [show Right n = false by rw [right_eq, show (n.op == wFile) = false by simpa using o1]; simp]
    exact rright_no n A C w (by omega) (.inl o1)
end Go.Proofs.YtpckmllmjdafpaaGreatDoor
