/- Overlap, and the document's. -/
import Derived.Test.YtacllicemnmpmaaArOvl
namespace Go.Proofs.Ytacllicemnmpmaa
open Go.ChangeShapes Go.WideShapes Go.ChangeAt Go.RowKit Go.Shelf
set_option linter.unusedVariables false

/-- The two that share, the least j, and for that the least i. -/
def Ov (n : Nat) (S : Nat → Nat → Bool) (i j : Int) : Prop := (i = -1 ∧ j = -1 ∧ ∀ b, b < n → ∀ a, a < b → S a b = false) ∨
  ∃ a b : Nat, i = a ∧ j = b ∧ a < b ∧ b < n ∧ S a b = true ∧ (∀ b', b' < b → ∀ a', a' < b' → S a' b' = false) ∧ (∀ a', a' < a → S a' b = false)

theorem Ov.eq {n : Nat} {S T : Nat → Nat → Bool} {i j p q : Int} (h : Ov n S i j) (k : Ov n T p q) (hST : ∀ b, b < n → ∀ a, a < b → S a b = T a b) : i = p ∧ j = q := by
  rcases h with ⟨rfl, rfl, h⟩ | ⟨a, b, rfl, rfl, hab, hbn, hs, hl, hm⟩
  · rcases k with ⟨rfl, rfl, k⟩ | ⟨c, d, rfl, rfl, hcd, hdn, ht, kl, km⟩
    · exact ⟨rfl, rfl⟩
    · have := h d hdn c hcd
      rw [hST d hdn c hcd, ht] at this; cases this
  · rcases k with ⟨rfl, rfl, k⟩ | ⟨c, d, rfl, rfl, hcd, hdn, ht, kl, km⟩
    · have := k b hbn a hab
      rw [← hST b hbn a hab, hs] at this; cases this
    · have hbd : b = d := by
        rcases Nat.lt_trichotomy b d with e | e | e
        · have := kl b e a hab; rw [← hST b hbn a hab, hs] at this; cases this
        · exact e
        · have := hl d e c hcd; rw [hST d hdn c hcd, ht] at this; cases this
      subst hbd
      have hac : a = c := by
        rcases Nat.lt_trichotomy a c with e | e | e
        · have := km a e; rw [← hST b hbn a hab, hs] at this; cases this
        · exact e
        · have := hm c e; rw [hST b hbn c hcd, ht] at this; cases this
      subst hac
      exact ⟨rfl, rfl⟩

theorem Ov.less {n : Nat} {S : Nat → Nat → Bool} {i j : Int} (h : Ov n S i j) : -1 ≤ j ∧ (0 ≤ j → i < j) ∧ (j < 0 → i = -1) ∧ j < n := by
  rcases h with ⟨rfl, rfl, h⟩ | ⟨a, b, rfl, rfl, hab, hbn, hs, hl, hm⟩
  · omega
  · omega

/-- Which of a list's ranges share. -/
def SS (F : Nat → R3) (a b : Nat) : Bool := shareB (F a) (F b)

set_option maxRecDepth 100000 in
set_option maxHeartbeats 2000000 in
theorem Overlap_c (a : Option Addr) (n cap : Nat) (F : Nat → R3) (w : World) (hn : n ≤ 100000) (hcap : n ≤ cap) (hcm : cap ≤ 9223372036854775807) (hl : Rng w a n F) :
    Calls Try.prog 15 #[.slice a n cap] w fun e w' => ∃ i j : Int, e = .returned (.tuple #[.int .i64 i, .int .i64 j]) ∧ Ov n (SS F) i j ∧ Below w.heap.size w w' := by
  go_enter Try.func15, Try.ntmps15
  go_wp2
  go_loopw [9] (fun i wr => ∃ k : Nat, k ≤ n ∧ i = .int .i64 k ∧ Hid (∀ b, b < k → ∀ a, a < b → SS F a b = false) ∧ Below w.heap.size w wr) (fun i _ => n - (intOf i).toNat)
  case atStart => exact ⟨0, Nat.zero_le _, rfl, (fun t ht => absurd ht (Nat.not_lt_zero _) : ∀ t, t < 0 → ∀ a, a < t → SS F a t = false), Below.refl _ _⟩
  case round =>
    rename_i wr
    obtain ⟨k, hk, rfl, HA, hb⟩ := hrel
    by_cases hlt : k < n
    · have hlr := hl.below hb (Nat.le_refl _)
      obtain ⟨b, off, rfl, hbl, c0, c1, c2⟩ := hlr.at k hlt
      obtain ⟨W0, hW0⟩ : ∃ W0, W0 = wr.alloc (.cells #[.int .i64 (F k).d, .int .i64 (F k).f, .int .i64 (F k).c] 33) := ⟨_, rfl⟩
      have hB0 : Below wr.heap.size wr W0 := by rw [hW0]; exact (Below.refl _ wr).alloc (Nat.le_refl _) _
      have hx0 : Has W0 wr.heap.size 33 (F k).cells := by rw [hW0]; exact Has.new _ _ _
      have hI := index_c 27 #[.pointer (some ⟨wr.heap.size, 0, none⟩)] (some ⟨b, off, none⟩) k cap F (fun i => SS F i k) W0 (enters_of Try.func27 (by kernel_rfl) rfl) (by omega) ((hlr.below hB0 (Nat.le_refl _)).to (by omega))
        (fun i W hi hbW => ovl1_c (F i) (F k) wr.heap.size W (hx0.below hbW hx0.lt))
      have HI : Hid (Calls Try.prog 26 #[.slice (some ⟨b, off, none⟩) k cap, .func (.func 27) #[] #[.pointer (some ⟨wr.heap.size, 0, none⟩)]] W0 fun e w' => ∃ r : Int, e = .returned (.int .i64 r) ∧ First k (fun i => SS F i k) r ∧ Below W0.heap.size W0 w') := hI
      clear hI
      generalize hFk : F k = q at c0 c1 c2 hW0
      obtain ⟨qd, qf, qc⟩ := q
      simp only at c0 c1 c2 hW0
      clear hFk hlr hl
      go_wp2_with (first
        | ((go_at_call 26)
           (rw [← hW0])
           (refine HI.out.mono ?_)
           (rintro e w1 ⟨r, rfl, hF, hb1⟩)))
      · rename_i hr
        go_ret2
        have hB1 : Below w.heap.size w w1 := hb.trans ((hB0.trans (hb1.mono hB0.size)).mono hb.size)
        rcases hF with ⟨rfl, hall⟩ | ⟨m, hm, rfl, hpm, hall⟩
        · omega
        · exact ⟨m, k, rfl, .inr ⟨m, k, rfl, rfl, hm, hlt, hpm, HA.out, hall⟩, hB1⟩
      · rename_i hr
        go_roundw
        case rel =>
          have hB1 : Below w.heap.size w w1 := hb.trans ((hB0.trans (hb1.mono hB0.size)).mono hb.size)
          refine ⟨k + 1, hlt, by go_num, ?_, hB1⟩
          rcases hF with ⟨rfl, hall⟩ | ⟨m, hm, rfl, hpm, hall⟩
          · exact (fun t ht => by
              by_cases e : t < k
              · exact HA.out t e
              · obtain rfl : t = k := by omega
                exact hall : ∀ t, t < k + 1 → ∀ a, a < t → SS F a t = false)
          · exfalso; omega
        case measure => simp [intOf]; omega
    · obtain rfl : k = n := by omega
      clear hl
      go_wp2
      go_ret2
      exact ⟨-1, -1, rfl, .inl ⟨rfl, rfl, HA.out⟩, hb⟩

theorem share_iff (a b : R3) : shareB a b = true ↔ (liesB a.f a.c = true ∧ liesB b.f b.c = true ∧ a.d = b.d ∧ a.f < b.f + b.c ∧ b.f < a.f + a.c) := by unfold shareB; simp

theorem below_drewN {B : Nat} {w w' : World} (h : Below B w w') (n : Nat) : Below B w (w'.drewN n) := ⟨h.os, h.tape, h.output, h.size, h.block⟩

/-- Only in this world. -/
theorem at_world {f : FuncId} {args : Array Value} (w : World) {R : Ending → World → Prop} (k : Calls Try.prog f args w R) : Calls Try.prog f args w R := k

set_option maxRecDepth 100000 in
set_option maxHeartbeats 8000000 in
theorem rOverlap_c (a : Option Addr) (n cap : Nat) (F : Nat → R3) (w : World) (hn : n ≤ 100000) (hl : Rng w a n F) :
    Calls Try.prog 16 #[.slice a n cap] w fun e w' => ∃ i j : Int, e = .returned (.tuple #[.int .i64 i, .int .i64 j]) ∧ Ov n (SS F) i j ∧ Below w.heap.size w w' := by
  go_enter Try.func16, Try.ntmps16
  go_wp2
  go_loopw [4] (fun i wr => ∃ k : Nat, k ≤ n ∧ i = .int .i64 k ∧ Hid (∀ b, b < k → ∀ a, a < b → SS F a b = false) ∧ Below w.heap.size w wr) (fun i _ => n - (intOf i).toNat)
  case atStart => exact ⟨0, Nat.zero_le _, rfl, (fun t ht => absurd ht (Nat.not_lt_zero _) : ∀ t, t < 0 → ∀ a, a < t → SS F a t = false), Below.refl _ _⟩
  case round =>
    obtain ⟨k, hk, rfl, HA, hb⟩ := hrel
    by_cases hlt : k < n
    · go_wp2
      go_loopw [5] (fun i wz => ∃ m : Nat, m ≤ k ∧ i = .int .i64 m ∧ Hid (∀ a, a < m → SS F a k = false) ∧ Below w.heap.size w wz) (fun i _ => n - (intOf i).toNat)
      case atStart => exact ⟨0, Nat.zero_le _, rfl, (fun t ht => absurd ht (Nat.not_lt_zero _) : ∀ t, t < 0 → SS F t k = false), hb⟩
      case round =>
        obtain ⟨m, hm, rfl, HM, hbz⟩ := hrel
        by_cases hmk : m < k
        · have hlz := hl.below hbz (Nat.le_refl _)
          obtain ⟨b, off, rfl, hbl, -⟩ := hlz.at k hlt
          have HC : Hid (∀ W, Below w.heap.size w W → (W.cell? ⟨b, off + m * 3, none⟩ = some (.int .i64 (F m).d) ∧ W.cell? ⟨b, off + m * 3 + 1, none⟩ = some (.int .i64 (F m).f) ∧ W.cell? ⟨b, off + m * 3 + 2, none⟩ = some (.int .i64 (F m).c)) ∧
              (W.cell? ⟨b, off + k * 3, none⟩ = some (.int .i64 (F k).d) ∧ W.cell? ⟨b, off + k * 3 + 1, none⟩ = some (.int .i64 (F k).f) ∧ W.cell? ⟨b, off + k * 3 + 2, none⟩ = some (.int .i64 (F k).c))) := fun W hW => by
            rcases hl.below hW (Nat.le_refl _) with h0 | ⟨b', off', e, _, hc⟩
            · omega
            · cases e
              exact ⟨hc m (by omega), hc k hlt⟩
          have HX : Hid (∀ W, Calls Try.prog 29 #[.agg #[.int .i64 (F m).d, .int .i64 (F m).f, .int .i64 (F m).c]] W fun e w' => e = .returned (.bool (liesB (F m).f (F m).c)) ∧ Below W.heap.size W w') := fun W => real_c _ _ _ W
          have HY : Hid (∀ W, Calls Try.prog 29 #[.agg #[.int .i64 (F k).d, .int .i64 (F k).f, .int .i64 (F k).c]] W fun e w' => e = .returned (.bool (liesB (F k).f (F k).c)) ∧ Below W.heap.size W w') := fun W => real_c _ _ _ W
          have HS : Hid (SS F m k = true ↔ (liesB (F m).f (F m).c = true ∧ liesB (F k).f (F k).c = true ∧ (F m).d = (F k).d ∧ (F m).f < (F k).f + (F k).c ∧ (F k).f < (F m).f + (F m).c)) := share_iff (F m) (F k)
          have HL1 : Hid (liesB (F m).f (F m).c = true → (0 < (F m).c ∧ 0 ≤ (F m).f ∧ (F m).c ≤ 2147483647 ∧ (F m).f ≤ 2147483647 - (F m).c)) := (lies_iff _ _).1
          have HL2 : Hid (liesB (F k).f (F k).c = true → (0 < (F k).c ∧ 0 ≤ (F k).f ∧ (F k).c ≤ 2147483647 ∧ (F k).f ≤ 2147483647 - (F k).c)) := (lies_iff _ _).1
          have hmn : m < n := by omega
          obtain ⟨⟨z0, z1, z2⟩, ⟨z3, z4, z5⟩⟩ := HC.out _ hbz
          clear hlz hl
          generalize liesB (F m).f (F m).c = B1 at *
          generalize liesB (F k).f (F k).c = B2 at *
          generalize (F m).d = xd at *
          generalize (F m).f = xf at *
          generalize (F m).c = xc at *
          generalize (F k).d = yd at *
          generalize (F k).f = yf at *
          generalize (F k).c = yc at *
          go_wp2_with (first
            | ((go_at_call 29)
               (refine at_world wr ?_)
               (refine (HX.out _).mono ?_)
               (rintro e w1 ⟨rfl, hb1⟩)
               (have hbw1 : Below w.heap.size w w1 := hbz.trans (hb1.mono hbz.size))
               (obtain ⟨⟨x0, x1, x2⟩, ⟨y0, y1, y2⟩⟩ := HC.out w1 hbw1))
            | ((go_at_call 29)
               (refine (HY.out _).mono ?_)
               (rintro e w2 ⟨rfl, hb2⟩)
               (have hbw2 : Below w.heap.size w w2 := hbw1.trans (hb2.mono hbw1.size))
               (obtain ⟨⟨p0, p1, p2⟩, ⟨q0, q1, q2⟩⟩ := HC.out w2 hbw2)))
          clear z0 z1 z2 z3 z4 z5 x0 x1 x2 y0 y1 y2 HX HY
          have hno : ∀ P : Prop, (SS F m k = true ↔ P) → ¬ P → SS F m k = false := fun P h hn => by
            cases e : SS F m k with
            | false => rfl
            | true => exact absurd (h.1 e) hn
          have HNO : Hid (∀ P : Prop, (SS F m k = true ↔ P) → ¬ P → SS F m k = false) := hno
          clear hno
          cases B1
          · have HN : Hid (SS F m k = false) := (HNO.out _ HS.out (fun h => by cases h.1) : SS F m k = false)
            clear HL1 HL2 HS HNO HC
            go_quiet (fail)
            go_wp2
            go_roundw
            case rel => exact ⟨m + 1, hmk, by go_num, (fun t ht => by
              by_cases e : t < m
              · exact HM.out t e
              · obtain rfl : t = m := by omega
                exact HN.out : ∀ t, t < m + 1 → SS F t k = false), below_drewN hbw2 _⟩
            case measure => simp [intOf]; omega
          · cases B2
            · have HN : Hid (SS F m k = false) := (HNO.out _ HS.out (fun h => by cases h.2.1) : SS F m k = false)
              clear HL1 HL2 HS HNO HC
              go_quiet (fail)
              go_wp2
              go_roundw
              case rel => exact ⟨m + 1, hmk, by go_num, (fun t ht => by
                by_cases e : t < m
                · exact HM.out t e
                · obtain rfl : t = m := by omega
                  exact HN.out : ∀ t, t < m + 1 → SS F t k = false), below_drewN hbw2 _⟩
              case measure => simp [intOf]; omega
            · obtain ⟨l1, l2, l3, l4⟩ := HL1.out rfl
              obtain ⟨m1, m2, m3, m4⟩ := HL2.out rfl
              clear HL1 HL2 HC
              by_cases hd : xd = yd
              · by_cases h4 : xf < yf + yc
                · by_cases h5 : yf < xf + xc
                  · have HN : Hid (SS F m k = true) := (HS.out.2 ⟨rfl, rfl, hd, h4, h5⟩ : SS F m k = true)
                    subst hd
                    clear HS HNO
                    go_quiet (fail)
                    go_wp2
                    go_ret2
                    exact ⟨m, k, rfl, .inr ⟨m, k, rfl, rfl, hmk, hlt, HN.out, HA.out, HM.out⟩, below_drewN hbw2 _⟩
                  · have HN : Hid (SS F m k = false) := (HNO.out _ HS.out (fun h => h5 h.2.2.2.2) : SS F m k = false)
                    have h6 := decide_eq_false h5
                    subst hd
                    clear HS HNO
                    go_quiet (fail)
                    go_wp2
                    go_roundw
                    case rel => exact ⟨m + 1, hmk, by go_num, (fun t ht => by
                      by_cases e : t < m
                      · exact HM.out t e
                      · obtain rfl : t = m := by omega
                        exact HN.out : ∀ t, t < m + 1 → SS F t k = false), below_drewN hbw2 _⟩
                    case measure => simp [intOf]; omega
                · have HN : Hid (SS F m k = false) := (HNO.out _ HS.out (fun h => h4 h.2.2.2.1) : SS F m k = false)
                  have h6 := decide_eq_false h4
                  subst hd
                  clear HS HNO
                  go_quiet (fail)
                  go_wp2
                  go_roundw
                  case rel => exact ⟨m + 1, hmk, by go_num, (fun t ht => by
                    by_cases e : t < m
                    · exact HM.out t e
                    · obtain rfl : t = m := by omega
                      exact HN.out : ∀ t, t < m + 1 → SS F t k = false), below_drewN hbw2 _⟩
                  case measure => simp [intOf]; omega
              · have HN : Hid (SS F m k = false) := (HNO.out _ HS.out (fun h => hd h.2.2.1) : SS F m k = false)
                have h6 : (xd == yd) = false := by simpa using hd
                clear HS HNO
                go_quiet (fail)
                go_wp2
                go_roundw
                case rel => exact ⟨m + 1, hmk, by go_num, (fun t ht => by
                  by_cases e : t < m
                  · exact HM.out t e
                  · obtain rfl : t = m := by omega
                    exact HN.out : ∀ t, t < m + 1 → SS F t k = false), below_drewN hbw2 _⟩
                case measure => simp [intOf]; omega
        · obtain rfl : m = k := by omega
          clear hl
          go_wp2
          go_roundw
          case rel => exact ⟨m + 1, hlt, by go_num, (fun t ht => by
              by_cases e : t < m
              · exact HA.out t e
              · obtain rfl : t = m := by omega
                exact HM.out : ∀ t, t < m + 1 → ∀ a, a < t → SS F a t = false), hbz⟩
          case measure => simp [intOf]; omega
    · obtain rfl : k = n := by omega
      clear hl
      go_wp2
      go_ret2
      exact ⟨-1, -1, rfl, .inl ⟨rfl, rfl, HA.out⟩, hb⟩
end Go.Proofs.Ytacllicemnmpmaa
