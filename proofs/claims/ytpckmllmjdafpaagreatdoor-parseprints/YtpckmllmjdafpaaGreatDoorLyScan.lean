/- The reference of layer 10: a text as tokens. -/
import Derived.Test.YtpckmllmjdafpaaGreatDoorLyOne
import Derived.Test.YtpckmllmjdafpaaGreatDoorJoint03
namespace Go.Proofs.YtpckmllmjdafpaaGreatDoor
open Go.ChangeShapes Go.WideShapes Go.ChangeAt Go.RowKit
set_option linter.unusedVariables false

/-- What the reference reads: that there are 500 is asked ahead of what stands next. -/
def scanR : Nat → List UInt8 → Nat → Nat → Except (Nat × Nat) Toks
  | 0, _, _, _ => .ok []
  | f + 1, x, a, k =>
    if x.drop (skp false x) = [] then .ok [] else
    if k = 500 then .error (103, a + skp false x) else
    match one (x.drop (skp false x)) with
    | .error (e, o) => .error (e, a + skp false x + o)
    | .ok (t, n) => ahead [(t, a + skp false x)] (scanR f (x.drop (skp false x + n)) (a + skp false x + n) (k + 1))

def ScanRef (l : List UInt8) : Except (Nat × Nat) Toks := if 2000 < l.length then .error (103, 0) else scanR (l.length + 1) l 0 0

theorem scanR_ok (f : Nat) : ∀ (x : List UInt8) (a k : Nat) (ts : Toks), scanR f x a k = .ok ts ↔ scan f x a k = .ok ts := by
  induction f with
  | zero => intro x a k ts; exact Iff.rfl
  | succ f ih =>
    intro x a k ts
    by_cases hne : x.drop (skp false x) = []
    · rw [scan_end hne, scanR, if_pos hne]
    · rw [scanR, if_neg hne]
      by_cases h5 : k = 500
      · subst h5
        rw [if_pos rfl]
        cases hr : one (x.drop (skp false x)) with
        | error e => obtain ⟨e, o⟩ := e; rw [scan_bad hne hr]; constructor <;> intro h <;> cases h
        | ok r => obtain ⟨t, n⟩ := r; rw [scan_many hne hr]
      · rw [if_neg h5]
        cases hr : one (x.drop (skp false x)) with
        | error e => obtain ⟨e, o⟩ := e; rw [scan_bad hne hr]
        | ok r =>
          obtain ⟨t, n⟩ := r
          rw [scan_next hne hr h5]
          have hi := ih (x.drop (skp false x + n)) (a + skp false x + n) (k + 1)
          simp only
          generalize scanR f (x.drop (skp false x + n)) (a + skp false x + n) (k + 1) = A at hi ⊢
          generalize scan f (x.drop (skp false x + n)) (a + skp false x + n) (k + 1) = C at hi ⊢
          cases A with
          | ok us => rw [(hi us).1 rfl]
          | error e =>
            cases C with
            | ok us => have := (hi us).2 rfl; cases this
            | error e' => constructor <;> intro h <;> cases h

/-- The reference's tokens are the program's. -/
theorem ScanRef_ok (l : List UInt8) (ts : Toks) : ScanRef l = .ok ts ↔ Scan l = .ok ts := by
  unfold ScanRef Scan
  split
  · constructor <;> intro h <;> cases h
  · exact scanR_ok _ _ _ _ _

theorem scanR_end {f : Nat} {x : List UInt8} {a k : Nat} (h : x.drop (skp false x) = []) : scanR (f + 1) x a k = .ok [] := by rw [scanR, if_pos h]
theorem scanR_many {f : Nat} {x : List UInt8} {a : Nat} (h : x.drop (skp false x) ≠ []) : scanR (f + 1) x a 500 = .error (103, a + skp false x) := by rw [scanR, if_neg h, if_pos rfl]
theorem scanR_bad {f : Nat} {x : List UInt8} {a k e o : Nat} (h : x.drop (skp false x) ≠ []) (hk : k ≠ 500) (ho : one (x.drop (skp false x)) = .error (e, o)) : scanR (f + 1) x a k = .error (e, a + skp false x + o) := by simp only [scanR, if_neg h, if_neg hk, ho]
theorem scanR_next {f : Nat} {x : List UInt8} {a k : Nat} {t : Tk} {n : Nat} (h : x.drop (skp false x) ≠ []) (hk : k ≠ 500) (ho : one (x.drop (skp false x)) = .ok (t, n)) :
    scanR (f + 1) x a k = ahead [(t, a + skp false x)] (scanR f (x.drop (skp false x + n)) (a + skp false x + n) (k + 1)) := by simp only [scanR, if_neg h, if_neg hk, ho]

/-- Where the reference's Scan stands. -/
def RScanAt (w wr : World) (l : List UInt8) (v : Value) (i : Nat) (ts : Toks) : Prop := i ≤ l.length ∧ Below w.heap.size w wr ∧ TokRow wr w.heap.size v ts ∧ ts.length ≤ 500 ∧ ∃ f, l.length - i ≤ f ∧ ScanRef l = ahead ts (scanR (f + 1) (l.drop i) i ts.length)

set_option maxRecDepth 100000 in
theorem rscan_long (w : World) (l : List UInt8) (h : 2000 < l.length) (hm : l.length ≤ maxLen) : Calls Tryz.prog 40 #[.string (bs l)] w (ScanR w (ScanRef l)) := by
  unfold maxLen at hm
  have hsz := bs_size l
  have h1 : (2000 : Int) < ((bs l).size : Int) := by omega
  have HR : Hid (ScanRef l = .error (103, 0)) := by show ScanRef l = _; unfold ScanRef; rw [if_pos h]
  clear hsz
  go_enter Tryz.func40, Tryz.ntmps40
  go_wp2
  go_ret3
  exact ⟨Below.refl _ _, by rw [HR.out]; rfl⟩

set_option maxRecDepth 100000 in
set_option maxHeartbeats 2000000 in
theorem rscan_c (w : World) (l : List UInt8) (h : ¬ 2000 < l.length) : Calls Tryz.prog 40 #[.string (bs l)] w (ScanR w (ScanRef l)) := by
  have hl : l.length ≤ 2000 := by omega
  have hsz := bs_size l
  have h1 : ¬ (2000 : Int) < ((bs l).size : Int) := by omega
  have HS : Hid ((bs l).size = l.length) := hsz
  have hp := fun W => rskip_c l 0 W hl (Nat.zero_le _)
  clear hsz
  simp only [Nat.zero_add] at hp
  go_enter Tryz.func40, Tryz.ntmps40
  go_wp2_with (go_at_call 59; refine (hp _).mono ?_; rintro e w1 ⟨rfl, hw1⟩; obtain rfl : w = w1 := hw1.symm)
  go_loopw [5, 6] (fun v z wr => ∃ (i : Nat) (ts : Toks), RScanAt w wr l v i ts ∧ z = .int .i64 ((i + skp false (l.drop i) : Nat) : Int)) (fun _ z _ => 2000 - (intOf z).toNat)
  case atStart => exact ⟨0, [], ⟨Nat.zero_le _, Below.refl _ _, TokRow.empty _ _, by simp, l.length, by omega, by rw [ahead_nil]; unfold ScanRef; rw [if_neg h]; rfl⟩, by simp⟩
  case round =>
    clear hp
    obtain ⟨i, ts, hA, rfl⟩ := hrel
    have hle := skp_le false (l.drop i)
    rw [List.length_drop] at hle
    obtain ⟨hi, hbw, hrow, h500, f, hf, heq⟩ := hA
    obtain ⟨A, C, rfl⟩ := row_slice hrow
    obtain ⟨J, hJ⟩ : ∃ J, J = i + skp false (l.drop i) := ⟨_, rfl⟩
    have hJ2 : J ≤ 2000 := by omega
    have HJ : Hid (J = i + skp false (l.drop i)) := hJ
    rw [← hJ]
    obtain ⟨M, hM⟩ : ∃ M, M = ts.length := ⟨_, rfl⟩
    have HM : Hid (M = ts.length) := hM
    rw [← hM] at h500 hrow heq ⊢
    have hM2 : M ≤ 500 := h500
    clear hM h500 hle
    have hdd : (l.drop i).drop (skp false (l.drop i)) = l.drop J := by rw [List.drop_drop, ← hJ]
    by_cases hlt : J < l.length
    · have h2 : ((J : Nat) : Int) < ((bs l).size : Int) := by rw [HS.out]; omega
      have hne : (l.drop i).drop (skp false (l.drop i)) ≠ [] := by
        rw [hdd]; intro e; have := congrArg List.length e; simp at this; omega
      by_cases h5 : M = 500
      · subst h5
        rw [scanR_many hne, ← hJ] at heq
        have HB : Hid (ScanRef l = .error (103, J)) := heq
        clear heq hne hdd hJ
        go_wp2
        go_ret3
        exact ⟨hbw, by rw [HB.out]; rfl⟩
      · have h5' : ¬ ((M : Nat) : Int) = 500 := by omega
        cases ho : one (l.drop J) with
        | error r =>
          obtain ⟨er, o⟩ := r
          rw [scanR_bad hne h5 (by rw [hdd]; exact ho), ← hJ] at heq
          have HB : Hid (ScanRef l = .error (er, J + o)) := heq
          have ht := fun W => rone_bad (w := W) hlt hl ho
          have her : ¬ ((er : Nat) : Int) = 0 := by rcases one_err ho with e | ⟨e, _⟩ <;> omega
          obtain ⟨Z, hZ⟩ : ∃ Z, Z = J + o := ⟨_, rfl⟩
          unfold ROneF at ht
          rw [← hZ] at ht
          have HZ : Hid (Z = J + o) := hZ
          clear heq hne hdd hJ ho hZ
          go_wp2_with (go_at_call 60; refine (ht _).mono ?_; rintro e w2 ⟨t, E, rfl, hb2⟩; simp only [rtkv])
          go_ret3
          exact ⟨scan_b1 hbw hb2 _, by rw [HB.out, ← HZ.out]; rfl⟩
        | ok r =>
          obtain ⟨t, n⟩ := r
          have hn := one_len ho
          rw [List.length_drop] at hn
          rw [scanR_next hne h5 (by rw [hdd]; exact ho), ← hJ, ahead_ahead, List.drop_drop, show i + (skp false (l.drop i) + n) = J + n by omega] at heq
          have ht := fun W => rone_ok (w := W) hlt hl ho
          have hp := fun W => rskip_c l (J + n) W hl (by omega)
          obtain ⟨E, hE⟩ : ∃ E, E = J + n := ⟨_, rfl⟩
          rw [← hE] at hp ht heq
          have hE1 : J < E := by omega
          have hE2 : E ≤ 2000 := by omega
          have hEl : E ≤ l.length := by omega
          have HQ : Hid (ScanRef l = ahead (ts ++ [(t, J)]) (scanR f (l.drop E) E (M + 1))) := heq
          clear heq hne hdd hJ ho hE
          go_wp2_with (first
            | (go_at_call 60; refine (ht _).mono ?_; rintro e w2 ⟨rfl, hb2⟩; simp only [rtkv])
            | (go_at_call 59; refine (hp _).mono ?_; rintro e w4 ⟨rfl, hw4⟩; obtain rfl : w3 = w4 := hw4.symm)
            | (refine at_dstL 39 rfl ?_
               refine wpList_append_tok rfl _ _ rfl w.heap.size _ ts rfl (((hrow.below hb2).below ((Below.refl _ _).alloc (Nat.le_refl _) _)).below ((Below.refl _ _).alloc (Nat.le_refl _) _)) (w2.heap.size + 1) t J rfl (Has.new_at (by simp)) (by rw [← HM.out]; exact hM2) (by have := hbw.size; have := hb2.size; simp; omega) ?_
               intro v' w3 hr3 hb3))
          go_roundw
          case rel =>
            have hJi : i ≤ J := by have := HJ.out; omega
            refine ⟨E, ts ++ [(t, J)], ⟨hEl, scan_b2 hbw hb2 hb3 (Below.refl _ _), hr3, by rw [List.length_append, ← HM.out]; simp; omega, f - 1, by omega, ?_⟩, rfl⟩
            rw [HQ.out, List.length_append, ← HM.out, show f - 1 + 1 = f by omega]
            rfl
          case measure => simp [intOf]; omega
    · have h2 : ¬ ((J : Nat) : Int) < ((bs l).size : Int) := by rw [HS.out]; omega
      rw [scanR_end (by rw [hdd]; exact List.drop_eq_nil_of_le (by omega))] at heq
      have HB : Hid (ScanRef l = .ok ts) := by show ScanRef l = _; rw [heq]; simp [ahead]
      clear heq hJ hdd
      go_wp2
      go_ret3
      exact ⟨hbw, by rw [HB.out]; exact ⟨_, rfl, hrow⟩⟩
end Go.Proofs.YtpckmllmjdafpaaGreatDoor
