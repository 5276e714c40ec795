/- The walk of OctetsXor: for every two byte slices it returns true and writes nothing that was there. -/
import Derived.Test.YtcgoepbmbeimmaaRXor
namespace Go.Proofs.Ytcgoepbmbeimmaa
open Go.ChangeShapes Go.WideShapes Go.ChangeAt Go.RowKit

theorem isRow_nil {w : World} {a : Option Addr} {len cap : Nat} {zs : List Int} (h : IsRow .u8 w a len cap zs) : len ≤ cap ∧ (a = none → len = 0) := by
  rcases h with ⟨_, rfl, _, _⟩ | ⟨x, rfl, hl, hm, _⟩
  · exact ⟨by omega, fun _ => rfl⟩
  · exact ⟨hl, by simp⟩

theorem xor_apart (a1 a2 : Option Addr) (l1 l2 c1 c2 : Nat) (w : World) (hne : l1 ≠ l2) :
    Calls Try.prog 4 #[.slice a1 l1 c1, .slice a2 l2 c2] w fun e w' => e = .returned (.bool true) ∧ Below w.heap.size w w' := by
  have x1 := xor_err a1 a2 l1 l2 c1 c2 w hne
  go_enter Try.func4, Try.ntmps4
  go_wp2_with (first
    | (go_at_call 15; refine x1.mono ?_; rintro e w1 ⟨rfl, b1⟩; have x2 := rxor_err a1 a2 l1 l2 c1 c2 w1 hne; have s1 := same_any (w := w1) (a1 := none) (a2 := none) (l1 := 0) (l2 := 0) (f := fun _ => 0) (g := fun _ => 0) 0 0 (fun j hj => by omega) (fun j hj => by omega) (fun _ => rfl) (fun _ => rfl); have hal := alive_any w1; clear x1)
    | (go_at_call 16; refine x2.mono ?_; rintro e w2 ⟨rfl, rfl⟩; clear x2)
    | (go_at_call 13; refine s1.mono ?_; rintro e w2 ⟨rfl, rfl⟩; clear s1)
    | (go_at_call 14; refine hal.mono ?_; rintro e w3 ⟨rfl, b3⟩; clear hal))
  go_ret
  exact ⟨rfl, b1.trans (b3.mono b1.size)⟩

theorem xor_alike (a1 a2 : Option Addr) (len c1 c2 : Nat) (f g : Nat → Int) (w : World) (hm : len ≤ 140737488351232) (h1 : Row w a1 len f) (h2 : Row w a2 len g) (n1 : a1 = none → len = 0) :
    Calls Try.prog 4 #[.slice a1 len c1, .slice a2 len c2] w fun e w' => e = .returned (.bool true) ∧ Below w.heap.size w w' := by
  have x1 := xor_ok a1 a2 len c1 c2 f g w hm h1 h2
  have hxx : (byteList (fun j => xorB (f j) (g j)) len == byteList (fun j => xorB (f j) (g j)) len) = true := by simp
  have hxb : (byteList (fun j => xorB (xorB (f j) (g j)) (g j)) len == byteList f len) = true := by
    rw [byteList_eq _ f _ (fun j hj => xorB_back (f j) (g j) (h1 j hj).1 (h2 j hj).1)]
    simp
  go_enter Try.func4, Try.ntmps4
  go_wp2_with (first
    | (go_at_call 15; have _t := x1; refine x1.mono ?_; rintro e w1 ⟨rfl, o1, b1⟩
       have r1 := row_own o1 (fun j _ => xorB_bd (f j) (g j))
       have x2 := rxor_ok a1 a2 len c1 c2 f g w1 hm (h1.below b1 (Nat.le_refl _)) (h2.below b1 (Nat.le_refl _))
       clear x1 _t o1)
    | (go_at_call 16; refine x2.mono ?_; rintro e w2 ⟨qa, qc, rfl, r2, nq, b2⟩
       have r1' := r1.below b2 (Nat.le_refl _)
       have s1 := same_any len qc r1' r2 (by simp) nq
       rw [hxx] at s1
       have b12 := b1.trans (b2.mono b1.size)
       have x3 := xor_ok _ a2 len len c2 _ g w2 hm r1' (h2.below b12 (Nat.le_refl _))
       clear x2 r1 r1' nq r2)
    | (go_at_call 13; have _t := s1; refine s1.mono ?_; rintro e w3 ⟨rfl, rfl⟩; clear s1 _t)
    | (go_at_call 15; have _t := x3; refine x3.mono ?_; rintro e w4 ⟨rfl, o4, b4⟩
       have b14 := b12.trans (b4.mono b12.size)
       have s2 := same_any len c1 (row_own o4 (fun j _ => xorB_bd (xorB (f j) (g j)) (g j))) (h1.below b14 (Nat.le_refl _)) (by simp) n1
       rw [hxb] at s2
       have hal := alive_any w4
       clear x3 _t o4 h1 h2)
    | (go_at_call 13; have _t := s2; refine s2.mono ?_; rintro e w5 ⟨rfl, rfl⟩; clear s2 _t)
    | (go_at_call 14; refine hal.mono ?_; rintro e w6 ⟨rfl, b6⟩; clear hal))
  go_ret
  exact ⟨rfl, b14.trans (b6.mono b14.size)⟩

theorem xor_walk (a1 : Option Addr) (l1 c1 : Nat) (z1 : List Int) (a2 : Option Addr) (l2 c2 : Nat) (z2 : List Int) (w : World) (w1 : IsRow .u8 w a1 l1 c1 z1) (w2 : IsRow .u8 w a2 l2 c2 z2)
    (r1 : c1 ≤ 140737488351232) (_r2 : c2 ≤ 140737488351232) :
    Calls Try.prog 4 #[.slice a1 l1 c1, .slice a2 l2 c2] w fun e w' => e = .returned (.bool true) ∧ Below w.heap.size w w' := by
  obtain ⟨k1, n1⟩ := isRow_nil w1
  by_cases h : l1 = l2
  · subst h
    exact xor_alike a1 a2 l1 c1 c2 _ _ w (by omega) (row_of_isRow w1) (row_of_isRow w2) n1
  · exact xor_apart a1 a2 l1 l2 c1 c2 w h
end Go.Proofs.Ytcgoepbmbeimmaa
