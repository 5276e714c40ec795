/- The law's count of a tree's parts. -/
import Derived.Test.YtpckmllmjdafpaaGreatDoorPrPrint
namespace Go.Proofs.YtpckmllmjdafpaaGreatDoor
open Go.ChangeShapes Go.WideShapes Go.ChangeAt Go.RowKit
set_option linter.unusedVariables false

/-- How many parts, so deep. -/
def szF : Nat → Nd → Nat
  | 0, _ => 0
  | f + 1, n => 1 + (n.l.map (szF f)).sum

/-- The first k ones'. -/
def szT (f : Nat) (l : List Nd) (k : Nat) : Nat := ((l.take k).map (szF f)).sum

theorem szT_succ (f : Nat) (l : List Nd) (k : Nat) (h : k < l.length) : szT f l (k + 1) = szT f l k + szF f (nth l k) := by
  unfold szT
  rw [List.take_succ_eq_append_getElem h, List.map_append, List.sum_append, nth_get h]
  simp

theorem szT_all (f : Nat) (l : List Nd) : szT f l l.length = (l.map (szF f)).sum := by
  unfold szT
  rw [List.take_length]

/-- What parts tells. -/
def PCount (W : World) (n : Nd) (left : Nat) (e : Ending) (w' : World) : Prop := ∃ r : Nat, e = .returned (.int .i64 (r : Nat)) ∧ 1 ≤ r ∧ r ≤ left + 1 ∧ (r ≤ left → ∀ f, szF f n ≤ r) ∧ Below W.heap.size W w'

set_option maxRecDepth 100000 in
set_option maxHeartbeats 4000000 in
theorem parts_rd {w : World} {l : List Nd} {v : Value} (h : Rd w l v) : ∀ (n : Nd) (A : Option Addr) (C : Nat) (W : World) (left : Nat), n.l = l → v = .slice A l.length C → Below w.heap.size w W → left ≤ 300 → Calls Tryz.prog 4 #[nval n A C, .int .i64 (left : Nat)] W (PCount W n left) := by
  induction h with
  | mk l vs A0 C0 h1 h2 h3 h4 h5 h6 ih =>
    intro n A C W left hl hv hW hleft
    simp only [Value.slice.injEq] at hv
    obtain ⟨rfl, -, rfl⟩ := hv
    subst hl
    have hkid : ∀ k, k < n.l.length → ∃ g off Ak Ck, A0 = some ⟨g, off, none⟩ ∧ g < w.heap.size ∧ NdAt w g (off + k * 5) (nth n.l k) Ak Ck ∧ (∀ W' left', Below w.heap.size w W' → left' ≤ 300 → Calls Tryz.prog 4 #[nval (nth n.l k) Ak Ck, .int .i64 (left' : Nat)] W' (PCount W' (nth n.l k) left')) := fun k hk => by
      obtain ⟨g, off, e, hg, hc⟩ := h4 k hk (by omega)
      obtain ⟨Ak, Ck, e2, _, _⟩ := (h5 k hk (by omega)).slice
      rw [e2] at hc
      refine ⟨g, off, Ak, Ck, e, hg, ?_, fun W' left' hW' hl' => ?_⟩
      · rw [nth_get hk]; exact hc
      · rw [nth_get hk]
        exact ih k hk (by omega) n.l[k] Ak Ck W' left' rfl e2 hW' hl'
    have hsc : ∀ f k, k < n.l.length → szT f n.l (k + 1) = szT f n.l k + szF f (nth n.l k) := fun f k hk => szT_succ f n.l k hk
    have hall : ∀ f, szF (f + 1) n = 1 + szT f n.l n.l.length := fun f => by rw [szT_all]; rfl
    unfold nval
    obtain ⟨L, hL⟩ : ∃ L, L = n.l.length := ⟨_, rfl⟩
    rw [← hL] at h2 hkid hsc hall ⊢
    have hLm : L ≤ 9223372036854775807 := by omega
    obtain ⟨V0, hV0⟩ : ∃ V, V = W.alloc (.cells #[.string (bs n.op), .string (bs n.s), .int .i64 n.n, .int .i64 n.a, .slice A0 L C0] 24) := ⟨_, rfl⟩
    have hbV : Below W.heap.size W V0 := by rw [hV0]; exact b_one _ _
    have hVs : V0.heap.size = W.heap.size + 1 := by rw [hV0]; simp
    have HB : Hid (∀ W', Below V0.heap.size V0 W' → Has W' W.heap.size 24 #[.string (bs n.op), .string (bs n.s), .int .i64 n.n, .int .i64 n.a, .slice A0 L C0]) := fun W' hW' => Has.below (by rw [hV0]; exact Has.new _ _ _) hW' (by omega)
    have HKID : Hid _ := hkid
    have HSC : Hid _ := hsc
    have HALL : Hid _ := hall
    have HW : Hid (Below w.heap.size w W) := hW
    have hws := hW.size
    clear hkid hsc hall h1 h2 h3 h4 h5 h6 ih hL hW
    go_enter Tryz.func4, Tryz.ntmps4
    go_wp2
    rw [← hV0]
    go_loopw [5, 6] (fun s i wr => ∃ k r : Nat, k ≤ L ∧ i = .int .i64 k ∧ s = .int .i64 (r : Nat) ∧ 1 ≤ r ∧ r ≤ left + 1 ∧ Below V0.heap.size V0 wr ∧ Hid (r ≤ left → ∀ f, 1 + szT f n.l k ≤ r)) (fun _ i _ => L - (intOf i).toNat)
    case atStart => exact ⟨0, 1, Nat.zero_le _, rfl, rfl, Nat.le_refl _, by omega, Below.refl _ _, (fun _ f => by unfold szT; simp : 1 ≤ left → ∀ f, 1 + szT f n.l 0 ≤ 1)⟩
    case round =>
      obtain ⟨k, r, hk, rfl, rfl, hr1, hr2, bz, HI⟩ := hrel
      obtain ⟨p0, p1, p2, p3, p4⟩ := five (HB.out _ bz)
      have hbw : Below W.heap.size W wr := hbV.trans (bz.mono (by omega))
      by_cases hlt : k < L
      · by_cases hrl : r ≤ left
        · have hrli : (r : Int) ≤ (left : Int) := by omega
          obtain ⟨g, off, Ak, Ck, rfl, hg, hnd, hcl⟩ := HKID.out k hlt
          have hww := HW.out.trans (hbw.mono hws)
          have hc := hcl wr (left - r) hww (by omega)
          have hsub : ((left - r : Nat) : Int) = (left : Int) - (r : Int) := by omega
          rw [hsub] at hc
          have HQ : Hid (NdAt wr g (off + k * 5) (nth n.l k) Ak Ck) := hnd.grow hww hg
          have hsk := fun f => HSC.out f k hlt
          have HSK : Hid _ := hsk
          clear hcl hnd hsk hww hsub
          have hl300 : (left : Int) ≤ 300 := by omega
          have hr0 : (0 : Int) ≤ (r : Int) := by omega
          go_wp2_with (first
            | (refine at_dstL 23 rfl ?_; refine wpList_is (some 23) (.pointer (some ⟨g, off + k * 5, none⟩)) rfl (by rfl) (run_at_nd _ _ rfl g off k _ C0 rfl rfl (by omega) _) ?_)
            | (refine at_dstL 24 rfl ?_; refine wpList_is (some 24) (nval (nth n.l k) Ak Ck) rfl (by rfl) (run_load_nd _ rfl g _ rfl _ HQ.out) ?_)
            | ((go_at_call 4)
               (refine hc.mono ?_)
               (rintro e w9 ⟨r2, rfl, t1, t2, t3, hb9⟩)
               (have T3 : Hid (r2 ≤ left - r → ∀ f, szF f (nth n.l k) ≤ r2) := t3)
               (clear t3)
               (have t4 : (r2 : Int) ≤ 301 := by omega)))
          go_roundw
          case rel => exact ⟨k + 1, r + r2, hlt, by go_num, by go_num, by omega, by omega, bz.trans (hb9.mono bz.size), (fun hle f => by
            have a1 := HI.out (by omega) f
            have a2 := T3.out (by omega) f
            rw [HSK.out f]
            omega : r + r2 ≤ left → ∀ f, 1 + szT f n.l (k + 1) ≤ r + r2)⟩
          case measure => simp [intOf]; omega
        · have hrli : ¬ (r : Int) ≤ (left : Int) := by omega
          go_wp2
          go_ret
          exact ⟨r, rfl, hr1, hr2, fun h => absurd h hrl, hbw⟩
      · obtain rfl : k = L := by omega
        go_wp2
        go_ret
        refine ⟨r, rfl, hr1, hr2, fun h f => ?_, hbw⟩
        cases f with
        | zero => exact Nat.zero_le _
        | succ f => rw [HALL.out f]; exact HI.out h f

theorem lparts_c (n : Nd) (A : Option Addr) (C : Nat) (w : World) (h : RdN w n A C) : Calls Tryz.prog 4 #[nval n A C, .int .i64 300] w (PCount w n 300) := parts_rd h.rd n A C w 300 rfl rfl (Below.refl _ _) (by omega)
end Go.Proofs.YtpckmllmjdafpaaGreatDoor
