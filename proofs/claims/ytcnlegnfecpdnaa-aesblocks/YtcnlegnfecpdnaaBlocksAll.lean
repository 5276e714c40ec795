/- AesBlocks, walked, whatever the key's length. -/
import Derived.Test.YtcnlegnfecpdnaaBlocksWalk
import Derived.Test.YtcnlegnfecpdnaaAesOpen
namespace Go.Proofs.Ytcnlegnfecpdnaa
open Go.ChangeShapes Go.WideShapes Go.ChangeAt Go.RowKit

theorem blocks_all (a : Option Addr) (len cap : Nat) (zs : List Int) (f : Nat → Nat) (w : World) (ht : IsRow .u8 w a len cap zs) (hc : cap ≤ 140737488351232) (hf : ∀ j, j < 16 → f j < 256) :
    Calls Try.prog 3 #[.slice a len cap, .agg (cellsN .u8 16 f)] w fun e w' => e = .returned (.bool true) ∧ Below w.heap.size w w' := by
  obtain ⟨hl, _, hnil⟩ := isRow_facts ht
  have hb := bytes_of_isRow ht
  by_cases h1 : len = 16
  · subst h1
    rcases id hb with h | ⟨b, o, rfl, _, _⟩
    · omega
    · exact blocks_16 b o cap (bn zs) f w (bn_lt zs) hf hl hb
  · by_cases h2 : len = 32
    · subst h2
      rcases id hb with h | ⟨b, o, rfl, _, _⟩
      · omega
      · exact blocks_32 b o cap (bn zs) f w (bn_lt zs) hf hl hb
    · exact blocks_bad a len cap (bn zs) f w (bn_lt zs) hf hl (by omega) hnil hb h1 h2
end Go.Proofs.Ytcnlegnfecpdnaa
