/- The reference of layer 10: the token at a place. -/
import Derived.Test.YtpckmllmjdafpaaGreatDoorLyOneC1
import Derived.Test.YtpckmllmjdafpaaGreatDoorLyOneC2
import Derived.Test.YtpckmllmjdafpaaGreatDoorLyOneC3
import Derived.Test.YtpckmllmjdafpaaGreatDoorLyOneC4
import Derived.Test.YtpckmllmjdafpaaGreatDoorLyOneC5
import Derived.Test.YtpckmllmjdafpaaGreatDoorLyOneN
import Derived.Test.YtpckmllmjdafpaaGreatDoorJoint03
namespace Go.Proofs.YtpckmllmjdafpaaGreatDoor
open Go.ChangeShapes Go.WideShapes Go.ChangeAt Go.RowKit
set_option linter.unusedVariables false

theorem rone_ok {w : World} {l : List UInt8} {i n : Nat} {t : Tk} (hi : i < l.length) (hl : l.length ≤ 2000) (h : one (l.drop i) = .ok (t, n)) :
    Calls Tryz.prog 60 #[.string (bs l), .int .i64 (i : Nat)] w (ROneR w i t (i + n) 0 (-1)) := by
  rw [one_at hi] at h
  split at h
  · rename_i k1
    split at h
    · cases h
    · rename_i hn
      cases h
      exact rone_word hi hl k1 hn
  · rename_i k1
    have k1 : isSml l[i] = false := by simpa using k1
    split at h
    · rename_i k2
      split at h
      · cases h
      · rename_i hn
        split at h
        · cases h
        · rename_i hla
          cases h
          exact rone_num hi hl k1 k2 hn (by simpa using hla)
    · rename_i k2
      split at h
      · rename_i k4
        have k4 := eq_of_beq k4
        split at h
        · cases h
        · rename_i h0
          split at h
          · cases h
          · rename_i hn
            split at h
            · cases h
            · rename_i hla
              cases h
              rw [show i + (cnt isHxy (l.drop (i + 1)) + 1) = i + 1 + cnt isHxy (l.drop (i + 1)) by omega]
              exact rone_hex hi hl k4 h0 hn (by simpa using hla)
      · split at h
        · rename_i k5
          cases h
          rcases sgn_cases k5 with e | e | e | e | e
          · rw [e]; exact rone_sign40 hi hl e
          · rw [e]; exact rone_sign41 hi hl e
          · rw [e]; exact rone_sign44 hi hl e
          · rw [e]; exact rone_sign61 hi hl e
          · rw [e]; exact rone_sign59 hi hl e
        · cases h

/-- What the reference's one answers where there is a fault. -/
def ROneF (w : World) (i er o : Nat) (e : Ending) (w' : World) : Prop := ∃ t E, ROneR w i t E (er : Nat) ((i + o : Nat) : Int) e w'

theorem rone_bad {w : World} {l : List UInt8} {i er o : Nat} (hi : i < l.length) (hl : l.length ≤ 2000) (h : one (l.drop i) = .error (er, o)) :
    Calls Tryz.prog 60 #[.string (bs l), .int .i64 (i : Nat)] w (ROneF w i er o) := by
  rw [one_at hi] at h
  split at h
  · rename_i k1
    split at h
    · rename_i hn
      cases h
      exact (rone_wordL hi hl k1 hn).mono fun e w' hr => ⟨_, _, hr⟩
    · cases h
  · rename_i k1
    have k1 : isSml l[i] = false := by simpa using k1
    split at h
    · rename_i k2
      split at h
      · rename_i hn
        cases h
        exact (rone_numL hi hl k1 k2 hn).mono fun e w' hr => ⟨_, _, hr⟩
      · rename_i hn
        split at h
        · rename_i hla
          cases h
          exact (rone_numB hi hl k1 k2 hn hla).mono fun e w' hr => ⟨_, _, hr⟩
        · cases h
    · rename_i k2
      have k2 : isFig l[i] = false := by simpa using k2
      split at h
      · rename_i k4
        have k4 := eq_of_beq k4
        split at h
        · rename_i h0
          cases h
          exact (rone_hexN hi hl k4 h0).mono fun e w' hr => ⟨_, _, hr⟩
        · rename_i h0
          split at h
          · rename_i hn
            cases h
            exact (rone_hexL hi hl k4 hn).mono fun e w' hr => ⟨_, _, hr⟩
          · rename_i hn
            split at h
            · rename_i hla
              cases h
              rw [show cnt isHxy (l.drop (i + 1)) + 1 = 1 + cnt isHxy (l.drop (i + 1)) by omega]
              have hb := rone_hexB (w := w) hi hl k4 h0 hn hla
              rw [show i + 1 + cnt isHxy (l.drop (i + 1)) = i + (1 + cnt isHxy (l.drop (i + 1))) by omega] at hb
              exact hb.mono fun e w' hr => ⟨_, _, hr⟩
            · cases h
      · rename_i d1
        split at h
        · cases h
        · rename_i d2
          cases h
          simp [isSgn] at d2
          exact (rone_none hi hl k1 k2 (by simpa using d1) d2.1.1.1.1 d2.1.1.1.2 d2.1.1.2 d2.1.2 d2.2).mono fun e w' hr => ⟨_, _, hr⟩
end Go.Proofs.YtpckmllmjdafpaaGreatDoor
