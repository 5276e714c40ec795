/- There and back: a group's bytes are read as the writes. -/
import Derived.Test.YtbiicdehgogikaaCdGBoth
import Derived.Test.YtbiicdehgogikaaCdLawN
namespace Go.Proofs.Ytbiicdehgogikaa
open Go.ChangeShapes Go.WideShapes Go.ChangeAt Go.RowKit
set_option linter.unusedVariables false

theorem uN_gb (n : Nat) (V : Nat → WV) (h : n ≤ 100) : uN (gb n V) = n := by
  unfold uN
  simp only [vn, Nat.zero_add]
  rw [← gb_cnt n V 0 (by decide), ← gb_cnt n V 1 (by decide), nbs_nat, nbs_nat]
  show (0 * 256 + n / 256 % 256) * 256 + n / 1 % 256 = n
  omega

theorem uD_gb (n : Nat) (V : Nat → WV) (i : Nat) (h : okW (V i)) : ((uD (gb n V) i : Nat) : Int) = (V i).dev := by
  obtain ⟨⟨h1, h2⟩, _⟩ := h
  rw [uD_eq]
  have e := gb_dev n V i 0 (by decide)
  rw [Nat.add_zero] at e
  obtain ⟨D, hD⟩ : ∃ D : Nat, (V i).dev = (D : Int) := ⟨(V i).dev.toNat, by omega⟩
  rw [← e, hD, nbs_one D (by omega)]

theorem uS_gb (n : Nat) (V : Nat → WV) (i : Nat) (h : okW (V i)) : ((uS (gb n V) i : Nat) : Int) = (V i).sec := by
  obtain ⟨_, ⟨h1, h2⟩, _⟩ := h
  obtain ⟨S, hS⟩ : ∃ S : Nat, (V i).sec = (S : Int) := ⟨(V i).sec.toNat, by omega⟩
  unfold uS
  rw [vn_congr _ (nbs (S : Int) 4) 4 (fun j hj => by rw [← gb_sec n V i j hj, hS]), vn_nbs4 S (by omega), hS]

theorem uV_gb (n : Nat) (V : Nat → WV) (A : Nat → Option Addr) (Cc : Nat → Nat) (i : Nat) (h : okW (V i)) : AlikeW (uV (gb n V) A Cc i) (V i) := by
  refine ⟨uD_gb n V i h, uS_gb n V i h, h.2.2.symm, fun j hj => ?_⟩
  have hj' : j < 64 := hj
  exact (gb_dat n V i j hj').symm

/-- A group's bytes are a group's. -/
theorem okU_gb (n : Nat) (V : Nat → WV) (h : okG n V) : okU (2 + 69 * n) (gb n V) := by
  have hN := uN_gb n V h.1
  refine ⟨by omega, by rw [hN]; exact h.1, by rw [hN], fun i hi => ?_⟩
  have hi' : i < n := by omega
  have hd := uD_gb n V i (h.2 i hi')
  have hs := uS_gb n V i (h.2 i hi')
  obtain ⟨⟨h1, h2⟩, ⟨h3, h4⟩, _⟩ := h.2 i hi'
  omega

theorem okU_zero (B : Nat → Nat) : ¬ okU 0 B := fun h => by have := h.1; omega

theorem wl_zero (w : World) (V : Nat → WV) : Wl w none 0 V := ⟨Nat.zero_le _, fun i hi => by omega⟩

theorem by_zero (w : World) : ByIn w none 0 0 (fun _ => 0) := ⟨Nat.le_refl _, Nat.zero_le _, fun _ => ⟨rfl, rfl⟩, .inl rfl, fun _ => Nat.succ_pos 255⟩

theorem okG_zero (V : Nat → WV) : okG 0 V := ⟨by omega, fun i hi => by omega⟩
end Go.Proofs.Ytbiicdehgogikaa
