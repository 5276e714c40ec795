/- What the laws of xts share: their key, a cipher of it, their data. -/
import Derived.Test.YtcnlegnfecpdnaaXtsAlive
import Derived.Test.YtcnlegnfecpdnaaAesOpen
namespace Go.Proofs.Ytcnlegnfecpdnaa
open Go.ChangeShapes Go.WideShapes Go.ChangeAt Go.RowKit
set_option linter.unusedVariables false

theorem Try.size32 : (Try.prog.info? 43).map (·.size) = some 32 := by kernel_rfl

theorem all32 (f : Nat → Nat) (hf : ∀ j, j < 32 → f j < 256) : ∃ g : Nat → Nat, (∀ j, g j < 256) ∧ cellsN .u8 32 f = cellsN .u8 32 g :=
  ⟨fun j => if j < 32 then f j else 0, fun j => by
    show (if j < 32 then f j else 0) < 256
    split
    · exact hf j (by assumption)
    · decide, cellsN_congr _ _ _ _ (fun j hj => by rw [if_pos hj])⟩

theorem u64_nat {n : Int} (h : (Lit.int .u64 n).wf = true) : ∃ s : Nat, n = (s : Int) ∧ s < 18446744073709551616 := by
  simp [Lit.wf, IntKind.min, IntKind.max, IntKind.signed, IntKind.bits] at h
  exact ⟨n.toNat, by omega, by omega⟩

/-- A cipher of the law's key. -/
def XK (w : World) (g gk gl : Nat) (f : Nat → Nat) : Prop := XC w g gk gl 16 (fixK f) (fun j => fixK f (16 + j))

theorem XK.below {w w' : World} {g gk gl B : Nat} {f : Nat → Nat} (h : XK w g gk gl f) (hb : Below B w w') (hB : w.heap.size ≤ B) : XK w' g gk gl f := XC.below h hb hB

theorem new_law (f : Nat → Nat) (hf : ∀ j, f j < 256) (q c : Nat) (w : World) (hc : 32 ≤ c) (hb : Bytes w (some ⟨q, 0, none⟩) 32 (fixK f)) :
    Calls Try.prog 18 #[.slice (some ⟨q, 0, none⟩) 32 c] w fun e w' => ∃ g gk gl, e = .returned (.tuple #[.pointer (some ⟨g, 0, none⟩), .int .i64 0]) ∧ XK w' g gk gl f ∧ Below w.heap.size w w' := by
  rcases hb with h | ⟨b, o, e, h1, h2⟩
  · omega
  · simp only [Option.some.injEq, Addr.mk.injEq, and_true] at e
    obtain ⟨rfl, rfl⟩ := e
    exact xnew_ok 16 (.inl rfl) (fixK f) q 0 c w (fixK_lt f hf) h1 hc h2 (fixK_ok f hf)

/-- What Seal and Open make of D in sector s. -/
def sealF (f : Nat → Nat) (s : Nat) (D : Nat → Nat) : Nat → Nat := sealB (encX 16 (fixK f)) (tw0 16 (fun j => fixK f (16 + j)) s) D
def openF (f : Nat → Nat) (s : Nat) (D : Nat → Nat) : Nat → Nat := sealB (decX 16 (fixK f)) (tw0 16 (fun j => fixK f (16 + j)) s) D

theorem tweak_lt (f : Nat → Nat) (hf : ∀ j, f j < 256) (s : Nat) : Byt (tw0 16 (fun j => fixK f (16 + j)) s) := tw0_lt 16 (.inl rfl) _ (fun j => fixK_lt f hf _) s

theorem sealF_lt (f : Nat → Nat) (hf : ∀ j, f j < 256) (s : Nat) (D : Nat → Nat) (hD : ∀ j, D j < 256) (j : Nat) : sealF f s D j < 256 :=
  sealB_lt (fun g hg => encX_lt 16 (.inl rfl) _ (fixK_lt f hf) hg) (tweak_lt f hf s) hD j
theorem openF_lt (f : Nat → Nat) (hf : ∀ j, f j < 256) (s : Nat) (D : Nat → Nat) (hD : ∀ j, D j < 256) (j : Nat) : openF f s D j < 256 :=
  sealB_lt (fun g hg => decX_lt 16 (.inl rfl) _ (fixK_lt f hf) hg) (tweak_lt f hf s) hD j

theorem openF_sealF (f : Nat → Nat) (hf : ∀ j, f j < 256) (s : Nat) (D : Nat → Nat) (hD : ∀ j, D j < 256) : openF f s (sealF f s D) = D := open_seal 16 (.inl rfl) _ (fixK_lt f hf) (tweak_lt f hf s) hD
theorem sealF_openF (f : Nat → Nat) (hf : ∀ j, f j < 256) (s : Nat) (D : Nat → Nat) (hD : ∀ j, D j < 256) : sealF f s (openF f s D) = D := seal_open 16 (.inl rfl) _ (fixK_lt f hf) (tweak_lt f hf s) hD

theorem seal_law (f : Nat → Nat) (hf : ∀ j, f j < 256) (g gk gl s b o cap N : Nat) (D : Nat → Nat) (w : World) (hs : s < 18446744073709551616) (hD : ∀ j, D j < 256) (hN : 0 < N) (h16 : N % 16 = 0) (hN2 : N ≤ 1000) (hcap : N ≤ cap) (hcap2 : cap ≤ 140737488351232) (hC : XK w g gk gl f) (hb : Bytes w (some ⟨b, o, none⟩) N D) :
    Calls Try.prog 20 #[.pointer (some ⟨g, 0, none⟩), .int .u64 (s : Nat), .slice (some ⟨b, o, none⟩) N cap] w fun e w' => ∃ q, e = .returned (.tuple #[.slice (some ⟨q, 0, none⟩) N N, .int .i64 0]) ∧ w.heap.size ≤ q ∧ Has w' q 5 (cellsN .u8 N (sealF f s D)) ∧ Below w.heap.size w w' := by
  obtain ⟨M, rfl⟩ : ∃ M, N = 16 * M := ⟨N / 16, by omega⟩
  exact seal_ok 16 (.inl rfl) _ _ g gk gl s b o cap M D w (fixK_lt f hf) (fun j => fixK_lt f hf _) hs hD (by omega) hN2 hcap hC hb

theorem open_law (f : Nat → Nat) (hf : ∀ j, f j < 256) (g gk gl s b o cap N : Nat) (D : Nat → Nat) (w : World) (hs : s < 18446744073709551616) (hD : ∀ j, D j < 256) (hN : 0 < N) (h16 : N % 16 = 0) (hN2 : N ≤ 1000) (hcap : N ≤ cap) (hcap2 : cap ≤ 140737488351232) (hC : XK w g gk gl f) (hb : Bytes w (some ⟨b, o, none⟩) N D) :
    Calls Try.prog 22 #[.pointer (some ⟨g, 0, none⟩), .int .u64 (s : Nat), .slice (some ⟨b, o, none⟩) N cap] w fun e w' => ∃ q, e = .returned (.tuple #[.slice (some ⟨q, 0, none⟩) N N, .int .i64 0]) ∧ w.heap.size ≤ q ∧ Has w' q 5 (cellsN .u8 N (openF f s D)) ∧ Below w.heap.size w w' := by
  obtain ⟨M, rfl⟩ : ∃ M, N = 16 * M := ⟨N / 16, by omega⟩
  exact open_ok 16 (.inl rfl) _ _ g gk gl s b o cap M D w (fixK_lt f hf) (fun j => fixK_lt f hf _) hs hD (by omega) hN2 hcap hC hb

theorem seal_lawX (f : Nat → Nat) (hf : ∀ j, f j < 256) (g gk gl s b o cap N : Nat) (D : Nat → Nat) (w : World) (hs : s < 18446744073709551616) (hD : ∀ j, D j < 256) (hN : 0 < N) (h16 : N % 16 = 0) (hN2 : N ≤ 1000) (hcap : N ≤ cap) (hC : XK w g gk gl f) (hb : Bytes w (some ⟨b, o, none⟩) N D) :
    Calls Try.prog 20 #[.pointer (some ⟨g, 0, none⟩), .int .u64 (s : Nat), .slice (some ⟨b, o, none⟩) N cap] w fun e w' => ∃ q, e = .returned (.tuple #[.slice (some ⟨q, 0, none⟩) N N, .int .i64 0]) ∧ w.heap.size ≤ q ∧ Has w' q 5 (cellsN .u8 N (sealF f s D)) ∧ Below w.heap.size w w' := by
  obtain ⟨M, rfl⟩ : ∃ M, N = 16 * M := ⟨N / 16, by omega⟩
  exact seal_ok 16 (.inl rfl) _ _ g gk gl s b o cap M D w (fixK_lt f hf) (fun j => fixK_lt f hf _) hs hD (by omega) hN2 hcap hC hb

theorem open_lawX (f : Nat → Nat) (hf : ∀ j, f j < 256) (g gk gl s b o cap N : Nat) (D : Nat → Nat) (w : World) (hs : s < 18446744073709551616) (hD : ∀ j, D j < 256) (hN : 0 < N) (h16 : N % 16 = 0) (hN2 : N ≤ 1000) (hcap : N ≤ cap) (hC : XK w g gk gl f) (hb : Bytes w (some ⟨b, o, none⟩) N D) :
    Calls Try.prog 22 #[.pointer (some ⟨g, 0, none⟩), .int .u64 (s : Nat), .slice (some ⟨b, o, none⟩) N cap] w fun e w' => ∃ q, e = .returned (.tuple #[.slice (some ⟨q, 0, none⟩) N N, .int .i64 0]) ∧ w.heap.size ≤ q ∧ Has w' q 5 (cellsN .u8 N (openF f s D)) ∧ Below w.heap.size w w' := by
  obtain ⟨M, rfl⟩ : ∃ M, N = 16 * M := ⟨N / 16, by omega⟩
  exact open_ok 16 (.inl rfl) _ _ g gk gl s b o cap M D w (fixK_lt f hf) (fun j => fixK_lt f hf _) hs hD (by omega) hN2 hcap hC hb
end Go.Proofs.Ytcnlegnfecpdnaa
