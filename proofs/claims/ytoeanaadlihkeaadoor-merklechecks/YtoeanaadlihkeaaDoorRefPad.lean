/- The reference's Padded: the padded message. -/
import Derived.Test.YtoeanaadlihkeaaDoorShaBl
import Derived.Test.YtoeanaadlihkeaaDoorShaEval
namespace Go.Proofs.YtoeanaadlihkeaaDoor
open Go.ChangeShapes Go.WideShapes Go.ChangeAt Go.RowKit
set_option linter.unusedVariables false

theorem one_of (w : World) (b : Nat) : Bytes (w.alloc (.cells #[.int .u8 (b : Nat)] 5)) (some ⟨w.heap.size, 0, none⟩) 1 (fun _ => b) :=
  .inr ⟨w.heap.size, 0, rfl, by simp, fun j hj => by obtain rfl : j = 0 := (by omega); exact (Has.new w 5 #[.int .u8 (b : Nat)]).cell 0⟩

theorem bl_more (f : Nat → Nat) (L v : Nat) (h : v = f L) : bl (cat f L fun _ => v) (L + 1) = bl f (L + 1) := by
  unfold bl
  apply List.map_congr_left
  intro j hj
  have hj' : j < L + 1 := by simpa using hj
  unfold cat
  by_cases h1 : j < L
  · rw [if_pos h1]
  · rw [if_neg h1, h, show L = j from by omega]

theorem bl_same (f g : Nat → Nat) (n : Nat) (h : ∀ j, j < n → f j = g j) : bl f n = bl g n := by
  unfold bl
  apply List.map_congr_left
  intro j hj
  rw [h j (by simpa using hj)]

/-- How many noughts stand behind the 128. -/
def zs (n : Nat) : Nat := (64 - (n + 9) % 64) % 64

theorem plen_zs (n : Nat) : plen n = 1 + zs n + 8 := rfl

theorem padm_at (m : Nat → Nat) (n j : Nat) : padm m n (n + j) = padB n j := by
  unfold padm
  rw [if_neg (by omega), Nat.add_sub_cancel_left]

theorem padB_mid (n j : Nat) (h1 : 1 ≤ j) (h2 : j < 1 + zs n) : padB n j = 0 := by
  unfold padB
  rw [if_neg (by omega), if_pos (by rw [plen_zs]; omega)]

theorem padB_num (n t : Nat) (h : t < 8) : padB n (1 + zs n + t) = n * 8 / 2 ^ (56 - 8 * t) % 256 := by
  unfold padB
  rw [if_neg (by omega), if_neg (by rw [plen_zs]; omega), show 8 * (plen n - 1 - (1 + zs n + t)) = 56 - 8 * t from by rw [plen_zs]; omega]

set_option maxRecDepth 100000 in
set_option maxHeartbeats 1600000 in
theorem rpad_any (m : Nat → Nat) (n c : Nat) (a : Option Addr) (w : World) (hnil : a = none → n = 0 ∧ c = 0) (hb : Bytes w a n m) (hn : n ≤ 140737488355000) (hc : n ≤ c) :
    Calls Tryd.prog 39 #[.slice a n c] w fun e w' => ∃ v, e = .returned v ∧ w'.ownsRow w.heap.size 5 1 v (n + plen n) (bl (padm m n) (n + plen n)) ∧ Below w.heap.size w w' := by
  have own0 := World.ownsRow_lit (base := w.heap.size) (e := 5) (size := 1) w #[] 0 (Nat.le_refl _) (by unfold maxLen; omega) rfl
  have hbE : Below w.heap.size w (w.alloc (.cells #[] 5)) := (Below.refl _ _).alloc (Nat.le_refl _) _
  have hB0 := hb.below hbE (Nat.le_refl _)
  go_enter Tryd.func39, Tryd.ntmps39
  go_wp2_with (first
    | ((at_builtin)
       (have _t := own0)
       (refine wpList_append_bytes rfl _ _ rfl w.heap.size _ 0 (fun _ => 0) rfl own0 a n c m rfl hnil hB0 (by omega) (by simp) ?_)
       (intro v1 w1 own1 gr1)
       (have hb1 : Below w.heap.size w w1 := hbE.grown gr1 (by simp) (fun k' h => (own0.lt k' h).1))
       (rw [Nat.zero_add, cat_zero] at own1)
       (have hbL : Below w1.heap.size w1 (w1.alloc (.cells #[.int .u8 ((128 : Nat) : Int)] 5)) := (Below.refl _ _).alloc (Nat.le_refl _) _)
       (have own1x := own_below own1 hbL (fun g hg => (own1.lt g hg).2))
       (have hb1x : Below w.heap.size w (w1.alloc (.cells #[.int .u8 ((128 : Nat) : Int)] 5)) := hb1.trans (hbL.mono hb1.size))
       (clear own0 _t gr1 hB0 hbE own1 hbL))
    | ((at_builtin)
       (refine wpList_append_bytes rfl _ _ rfl w.heap.size _ n m rfl own1x (some ⟨w1.heap.size, 0, none⟩) 1 1 (fun _ => 128) rfl (fun e => by cases e) (one_of w1 128) (by omega) hb1x.size ?_)
       (intro v2 w2 own2 gr2)
       (have hb2 : Below w.heap.size w w2 := hb1x.grown gr2 hb1x.size (fun k' h => (own1x.lt k' h).1))
       (rw [bl_same _ (padm m n) (n + 1) (fun j hj => by
          unfold cat padm
          by_cases h : j < n
          · rw [if_pos h, if_pos h]
          · rw [if_neg h, if_neg h, show j - n = 0 from by omega]; rfl)] at own2)
       (clear own1x gr2 hb1x)))
  go_loopw [3] (fun v wr => ∃ t : Nat, t ≤ zs n ∧ wr.ownsRow w.heap.size 5 1 v (n + 1 + t) (bl (padm m n) (n + 1 + t)) ∧ Below w.heap.size w wr)
    (fun v _ => n + 1 + zs n - lenOf v)
  case atStart => exact ⟨0, Nat.zero_le _, own2, hb2⟩
  case round =>
    clear own2 hb2
    obtain ⟨t, ht, own, hbel⟩ := hrel
    obtain ⟨va, vc, rfl, hvc, _, _, _⟩ := own_bytes own
    obtain ⟨L, hL⟩ : ∃ L, L = n + 1 + t := ⟨_, rfl⟩
    have hLb : L ≤ 140737488355100 := by unfold zs at ht; omega
    by_cases hlt : t < zs n
    · have hne : ¬ ((L : Int) % 64 = 56) := by unfold zs at hlt; omega
      have hpz : (0 : Nat) = padm m n L := by
        rw [hL, show n + 1 + t = n + (1 + t) from by omega, padm_at, padB_mid n (1 + t) (by omega) (by omega)]
      rw [← hL] at own hvc ⊢
      have hbL : Below wr.heap.size wr (wr.alloc (.cells #[.int .u8 ((0 : Nat) : Int)] 5)) := (Below.refl _ _).alloc (Nat.le_refl _) _
      have ownx := own_below own hbL (fun g hg => (own.lt g hg).2)
      have hbx : Below w.heap.size w (wr.alloc (.cells #[.int .u8 ((0 : Nat) : Int)] 5)) := hbel.trans (hbL.mono hbel.size)
      have HL : Hid (L = n + 1 + t) := hL
      have HZ : Hid (0 = padm m n L) := hpz
      have HT : Hid (t < zs n) := hlt
      clear hL hpz hlt hb hnil own hbL ht
      go_wp2_with (first
        | ((at_builtin)
           (refine wpList_append_bytes rfl _ _ rfl w.heap.size _ L (padm m n) rfl ownx (some ⟨wr.heap.size, 0, none⟩) 1 1 (fun _ => 0) rfl (fun e => by cases e) (one_of wr 0) (by omega) hbx.size ?_)
           (intro v2 w2 own2 gr2)
           (have hb2 : Below w.heap.size w w2 := hbx.grown gr2 hbx.size (fun k' h => (ownx.lt k' h).1))
           (rw [bl_more _ _ _ HZ.out] at own2)
           (obtain ⟨va2, vc2, rfl, hvc2, _, _, _⟩ := own_bytes own2)
           (clear ownx gr2 hbx)))
      go_roundw
      case rel =>
        have e := HL.out
        have e2 := HT.out
        refine ⟨t + 1, by omega, ?_, hb2⟩
        rw [show n + 1 + (t + 1) = L + 1 from by omega]
        exact own2
      case measure => have := HL.out; have := HT.out; simp [lenOf]; omega
    · obtain rfl : t = zs n := by omega
      have heq : (L : Int) % 64 = 56 := by rw [hL]; unfold zs; omega
      obtain ⟨e8, he8⟩ : ∃ e, e = n * 8 := ⟨_, rfl⟩
      have wu : IntKind.u64.wrap (n : Int) = (n : Int) := by simp only [IntKind.wrap, IntKind.bits, IntKind.signed]; simp; omega
      have wm : IntKind.u64.wrap (8 * (n : Int)) = (e8 : Int) := by simp only [IntKind.wrap, IntKind.bits, IntKind.signed]; simp; omega
      have hnum : ∀ t, t < 8 → e8 / 2 ^ (56 - 8 * t) % 256 = padm m n (L + t) := fun t ht => by
        rw [hL, show n + 1 + zs n + t = n + (1 + zs n + t) from by omega, padm_at, padB_num n t ht, he8]
      have hend : n + plen n = L + 8 := by rw [plen_zs, hL]; omega
      have he8b : e8 < 18446744073709551616 := by omega
      rw [← hL] at own hvc ⊢
      have HE : Hid (n + plen n = L + 8) := hend
      have HN : Hid _ := hnum
      clear hL he8 hnum hend hb hnil ht hlt
      go_wp2
      clear heq wu wm
      go_loopw [3, 5] (fun v i wr => ∃ t : Nat, t ≤ 8 ∧ i = .int .i64 (56 - 8 * (t : Int)) ∧ wr.ownsRow w.heap.size 5 1 v (L + t) (bl (padm m n) (L + t)) ∧ Below w.heap.size w wr)
        (fun _ i _ => (intOf i + 8).toNat)
      case atStart => exact ⟨0, Nat.zero_le _, rfl, own, hbel⟩
      case round =>
        clear own hbel hvc
        obtain ⟨t, ht, rfl, own, hbel⟩ := hrel
        obtain ⟨va, vc, rfl, hvc, _, _, _⟩ := own_bytes own
        by_cases ht8 : t = 8
        · subst ht8
          rw [show (56 - 8 * ((8 : Nat) : Int)) = -8 from rfl]
          go_wp2
          go_ret
          exact ⟨_, rfl, by rw [HE.out]; exact own, hbel⟩
        · obtain ⟨y, hy⟩ : ∃ y, y = e8 / 2 ^ (56 - 8 * t) % 256 := ⟨_, rfl⟩
          have hyp := HN.out t (by omega)
          rw [← hy] at hyp
          have hbL : Below wr.heap.size wr (wr.alloc (.cells #[.int .u8 (y : Nat)] 5)) := (Below.refl _ _).alloc (Nat.le_refl _) _
          have ownx := own_below own hbL (fun g hg => (own.lt g hg).2)
          have hbx : Below w.heap.size w (wr.alloc (.cells #[.int .u8 (y : Nat)] 5)) := hbel.trans (hbL.mono hbel.size)
          have HY : Hid (y = padm m n (L + t)) := hyp
          have hyi : (e8 : Int) / 2 ^ (56 - 8 * t) % 256 = (y : Int) := by rw [hy, Int.natCast_emod, Int.natCast_ediv, Int.natCast_pow]; rfl
          obtain ⟨K, hK⟩ : ∃ K, K = L + t := ⟨_, rfl⟩
          rw [← hK] at ownx own hvc ⊢
          have HK : Hid (K = L + t) := hK
          have hKb : K ≤ 140737488355200 := by omega
          clear hy hyp own hbL hK
          rcases (show t = 0 ∨ t = 1 ∨ t = 2 ∨ t = 3 ∨ t = 4 ∨ t = 5 ∨ t = 6 ∨ t = 7 by omega) with rfl | rfl | rfl | rfl | rfl | rfl | rfl | rfl
          · simp at hyi
            have hyi' : (e8 : Int) / 72057594037927936 = (y : Int) := by omega
            rw [show (56 - 8 * ((0 : Nat) : Int)) = 56 from rfl]
            go_wp2_with (first
              | ((at_builtin)
                 (refine wpList_append_bytes rfl _ _ rfl w.heap.size _ K (padm m n) rfl ownx (some ⟨wr.heap.size, 0, none⟩) 1 1 (fun _ => y) rfl (fun e => by cases e) (one_of wr y) (by omega) hbx.size ?_)
                 (intro v2 w2 own2 gr2)
                 (have hb2 : Below w.heap.size w w2 := hbx.grown gr2 hbx.size (fun k' h => (ownx.lt k' h).1))
                 (rw [bl_more _ _ _ (by rw [HY.out, HK.out])] at own2)
                 (clear ownx gr2 hbx)))
            go_roundw
            case rel =>
              have e := HK.out
              exact ⟨1, by decide, rfl, by rw [show L + 1 = K + 1 from by omega]; exact own2, hb2⟩
            case measure => simp [intOf]
          · simp at hyi
            rw [show (56 - 8 * ((1 : Nat) : Int)) = 48 from rfl]
            go_wp2_with (first
              | ((at_builtin)
                 (refine wpList_append_bytes rfl _ _ rfl w.heap.size _ K (padm m n) rfl ownx (some ⟨wr.heap.size, 0, none⟩) 1 1 (fun _ => y) rfl (fun e => by cases e) (one_of wr y) (by omega) hbx.size ?_)
                 (intro v2 w2 own2 gr2)
                 (have hb2 : Below w.heap.size w w2 := hbx.grown gr2 hbx.size (fun k' h => (ownx.lt k' h).1))
                 (rw [bl_more _ _ _ (by rw [HY.out, HK.out])] at own2)
                 (clear ownx gr2 hbx)))
            go_roundw
            case rel =>
              have e := HK.out
              exact ⟨2, by decide, rfl, by rw [show L + 2 = K + 1 from by omega]; exact own2, hb2⟩
            case measure => simp [intOf]
          · simp at hyi
            rw [show (56 - 8 * ((2 : Nat) : Int)) = 40 from rfl]
            go_wp2_with (first
              | ((at_builtin)
                 (refine wpList_append_bytes rfl _ _ rfl w.heap.size _ K (padm m n) rfl ownx (some ⟨wr.heap.size, 0, none⟩) 1 1 (fun _ => y) rfl (fun e => by cases e) (one_of wr y) (by omega) hbx.size ?_)
                 (intro v2 w2 own2 gr2)
                 (have hb2 : Below w.heap.size w w2 := hbx.grown gr2 hbx.size (fun k' h => (ownx.lt k' h).1))
                 (rw [bl_more _ _ _ (by rw [HY.out, HK.out])] at own2)
                 (clear ownx gr2 hbx)))
            go_roundw
            case rel =>
              have e := HK.out
              exact ⟨3, by decide, rfl, by rw [show L + 3 = K + 1 from by omega]; exact own2, hb2⟩
            case measure => simp [intOf]
          · simp at hyi
            rw [show (56 - 8 * ((3 : Nat) : Int)) = 32 from rfl]
            go_wp2_with (first
              | ((at_builtin)
                 (refine wpList_append_bytes rfl _ _ rfl w.heap.size _ K (padm m n) rfl ownx (some ⟨wr.heap.size, 0, none⟩) 1 1 (fun _ => y) rfl (fun e => by cases e) (one_of wr y) (by omega) hbx.size ?_)
                 (intro v2 w2 own2 gr2)
                 (have hb2 : Below w.heap.size w w2 := hbx.grown gr2 hbx.size (fun k' h => (ownx.lt k' h).1))
                 (rw [bl_more _ _ _ (by rw [HY.out, HK.out])] at own2)
                 (clear ownx gr2 hbx)))
            go_roundw
            case rel =>
              have e := HK.out
              exact ⟨4, by decide, rfl, by rw [show L + 4 = K + 1 from by omega]; exact own2, hb2⟩
            case measure => simp [intOf]
          · simp at hyi
            rw [show (56 - 8 * ((4 : Nat) : Int)) = 24 from rfl]
            go_wp2_with (first
              | ((at_builtin)
                 (refine wpList_append_bytes rfl _ _ rfl w.heap.size _ K (padm m n) rfl ownx (some ⟨wr.heap.size, 0, none⟩) 1 1 (fun _ => y) rfl (fun e => by cases e) (one_of wr y) (by omega) hbx.size ?_)
                 (intro v2 w2 own2 gr2)
                 (have hb2 : Below w.heap.size w w2 := hbx.grown gr2 hbx.size (fun k' h => (ownx.lt k' h).1))
                 (rw [bl_more _ _ _ (by rw [HY.out, HK.out])] at own2)
                 (clear ownx gr2 hbx)))
            go_roundw
            case rel =>
              have e := HK.out
              exact ⟨5, by decide, rfl, by rw [show L + 5 = K + 1 from by omega]; exact own2, hb2⟩
            case measure => simp [intOf]
          · simp at hyi
            rw [show (56 - 8 * ((5 : Nat) : Int)) = 16 from rfl]
            go_wp2_with (first
              | ((at_builtin)
                 (refine wpList_append_bytes rfl _ _ rfl w.heap.size _ K (padm m n) rfl ownx (some ⟨wr.heap.size, 0, none⟩) 1 1 (fun _ => y) rfl (fun e => by cases e) (one_of wr y) (by omega) hbx.size ?_)
                 (intro v2 w2 own2 gr2)
                 (have hb2 : Below w.heap.size w w2 := hbx.grown gr2 hbx.size (fun k' h => (ownx.lt k' h).1))
                 (rw [bl_more _ _ _ (by rw [HY.out, HK.out])] at own2)
                 (clear ownx gr2 hbx)))
            go_roundw
            case rel =>
              have e := HK.out
              exact ⟨6, by decide, rfl, by rw [show L + 6 = K + 1 from by omega]; exact own2, hb2⟩
            case measure => simp [intOf]
          · simp at hyi
            rw [show (56 - 8 * ((6 : Nat) : Int)) = 8 from rfl]
            go_wp2_with (first
              | ((at_builtin)
                 (refine wpList_append_bytes rfl _ _ rfl w.heap.size _ K (padm m n) rfl ownx (some ⟨wr.heap.size, 0, none⟩) 1 1 (fun _ => y) rfl (fun e => by cases e) (one_of wr y) (by omega) hbx.size ?_)
                 (intro v2 w2 own2 gr2)
                 (have hb2 : Below w.heap.size w w2 := hbx.grown gr2 hbx.size (fun k' h => (ownx.lt k' h).1))
                 (rw [bl_more _ _ _ (by rw [HY.out, HK.out])] at own2)
                 (clear ownx gr2 hbx)))
            go_roundw
            case rel =>
              have e := HK.out
              exact ⟨7, by decide, rfl, by rw [show L + 7 = K + 1 from by omega]; exact own2, hb2⟩
            case measure => simp [intOf]
          · simp at hyi
            rw [show (56 - 8 * ((7 : Nat) : Int)) = 0 from rfl]
            go_wp2_with (first
              | ((at_builtin)
                 (refine wpList_append_bytes rfl _ _ rfl w.heap.size _ K (padm m n) rfl ownx (some ⟨wr.heap.size, 0, none⟩) 1 1 (fun _ => y) rfl (fun e => by cases e) (one_of wr y) (by omega) hbx.size ?_)
                 (intro v2 w2 own2 gr2)
                 (have hb2 : Below w.heap.size w w2 := hbx.grown gr2 hbx.size (fun k' h => (ownx.lt k' h).1))
                 (rw [bl_more _ _ _ (by rw [HY.out, HK.out])] at own2)
                 (clear ownx gr2 hbx)))
            go_roundw
            case rel =>
              have e := HK.out
              exact ⟨8, by decide, rfl, by rw [show L + 8 = K + 1 from by omega]; exact own2, hb2⟩
            case measure => simp [intOf]
end Go.Proofs.YtoeanaadlihkeaaDoor
