/- What the xts reference's turn calls, at both lengths of key; rows that grow. -/
import Derived.Test.YtcnlegnfecpdnaaRef5Dbl
import Derived.Test.YtcnlegnfecpdnaaXApM
import Derived.Test.YtcnlegnfecpdnaaRef4Keys8
import Derived.Test.YtcnlegnfecpdnaaRef4Dec
namespace Go.Proofs.Ytcnlegnfecpdnaa
open Go.ChangeShapes Go.WideShapes Go.ChangeAt Go.RowKit
set_option linter.unusedVariables false

def KN (n : Nat) : Nat := if n = 16 then 176 else 240

/-- The words of a key, in memory. -/
def RK (w : World) (g n : Nat) (key : Nat → Nat) : Prop := g < w.heap.size ∧ ∀ j, j < KN n → w.cell? ⟨g, j, none⟩ = some (.int .u8 (KS n key j : Nat))

theorem RK.below {w w' : World} {g n B : Nat} {key : Nat → Nat} (h : RK w g n key) (hb : Below B w w') (hB : w.heap.size ≤ B) : RK w' g n key :=
  ⟨Nat.lt_of_lt_of_le h.1 hb.size, fun j hj => (hb.cell (show g < B from Nat.lt_of_lt_of_le h.1 hB)).trans (h.2 j hj)⟩

theorem rkeys_both (n : Nat) (hn : n = 16 ∨ n = 32) (key : Nat → Nat) (b o cap : Nat) (w : World) (hk : ∀ j, key j < 256) (hb : b < w.heap.size) (hc : ∀ j, j < n → w.cell? ⟨b, o + j, none⟩ = some (.int .u8 (key j : Nat))) :
    Calls Try.prog 10 #[.slice (some ⟨b, o, none⟩) n cap] w fun e w' => ∃ g c, e = .returned (.slice (some ⟨g, 0, none⟩) (KN n) c) ∧ w.heap.size ≤ g ∧ RK w' g n key ∧ Below w.heap.size w w' := by
  rcases hn with rfl | rfl
  · exact (rkeys_4 key b o cap w (fun j _ => hk j) hb hc).mono fun e w' ⟨g, c, h1, h2, h3, h4, h5⟩ => ⟨g, c, h1, h2, ⟨h3, h4⟩, h5⟩
  · exact (rkeys_8 key b o cap w (fun j _ => hk j) hb hc).mono fun e w' ⟨g, c, h1, h2, h3, h4, h5⟩ => ⟨g, c, h1, h2, ⟨h3, h4⟩, h5⟩

theorem renc_both (n : Nat) (hn : n = 16 ∨ n = 32) (key : Nat → Nat) (g c : Nat) (w : World) (f : Nat → Nat) (hk : ∀ j, key j < 256) (h : RK w g n key) (hf : Byt f) :
    Calls Try.prog 14 #[.slice (some ⟨g, 0, none⟩) (KN n) c, .agg (cellsN .u8 16 f)] w fun e w' => e = .returned (.agg (cellsN .u8 16 (encX n key f))) ∧ Below w.heap.size w w' := by
  have hl := KS_lt n hn key hk
  rcases hn with rfl | rfl
  · exact renc_10 _ f g c w hf hl h.1 h.2
  · exact renc_14 _ f g c w hf hl h.1 h.2

theorem rdec_both (n : Nat) (hn : n = 16 ∨ n = 32) (key : Nat → Nat) (g c : Nat) (w : World) (f : Nat → Nat) (hk : ∀ j, key j < 256) (h : RK w g n key) (hf : Byt f) :
    Calls Try.prog 16 #[.slice (some ⟨g, 0, none⟩) (KN n) c, .agg (cellsN .u8 16 f)] w fun e w' => e = .returned (.agg (cellsN .u8 16 (decX n key f))) ∧ Below w.heap.size w w' := by
  have hl := KS_lt n hn key hk
  rcases hn with rfl | rfl
  · exact rdec_10 _ f g c w hf hl h.1 h.2
  · exact rdec_14 _ f g c w hf hl h.1 h.2

theorem Has.grown {w w' : World} {g t : Nat} {cs : Array Value} {r : Option Nat} (h : Has w g t cs) (hg : w.grownBy w' r) (hne : r ≠ some g) : Has w' g t cs := (hg.block g h.lt (fun e => hne e.symm)).trans h

/-- A row of bytes lies in no array. -/
theorem own_ne {w : World} {base n g t : Nat} {v : Value} {xs : List Value} {cs : Array Value} (h : w.ownsRow base 5 1 v n xs) (hh : Has w g t cs) (ht : t ≠ 5) : v.ownBlock ≠ some g := by
  intro e
  rcases h.2 with ⟨rfl, _⟩ | ⟨g', cap, cur, rfl, _, hg, _⟩
  · cases e
  · obtain rfl : g' = g := Option.some.inj e
    have h2 : w.heap[g']? = some (.cells cs t (0, 0)) := hh
    rw [hg] at h2
    simp at h2
    exact ht h2.2.symm

theorem RK.below' {w w' : World} {g n B : Nat} {key : Nat → Nat} (h : RK w g n key) (hb : Below B w w') (hB : g < B) : RK w' g n key :=
  ⟨Nat.lt_of_lt_of_le h.1 hb.size, fun j hj => (hb.cell (show g < B from hB)).trans (h.2 j hj)⟩

theorem own_setRow {w : World} {base n : Nat} {v : Value} {xs : List Value} (h : w.ownsRow base 5 1 v n xs) (g : Nat) (cs : Array Value) (hne : v.ownBlock ≠ some g) : (w.setRow g cs).ownsRow base 5 1 v n xs := by
  refine ⟨h.1, ?_⟩
  rcases h.2 with h0 | ⟨g', cap, cur, hv, h1, hg, r⟩
  · exact .inl h0
  · refine .inr ⟨g', cap, cur, hv, h1, Has.setRow_other (show Has w g' 5 cur from hg) (fun e => hne (by rw [hv, ← e]; rfl)) _, r⟩

/-- One byte appended to a row of the call's own, nil or not. -/
theorem append_one (w : World) (base : Nat) (v : Value) (n : Nat) (f : Nat → Nat) (hown : w.ownsRow base 5 1 v n (bl f n)) (gx y : Nat) (hy : w.cell? ⟨gx, 0, none⟩ = some (.int .u8 (y : Nat))) (hf : f n = y) (h63 : n + 1 ≤ 1000) (hbase : base ≤ w.heap.size) :
    ∃ v' w', (∀ (o : Oper) (a : Act) (s x : Operand), o.op = .call { callee := .builtin .append, args := #[s, x], argTypes := #[22, 22] } → a.eval s = v → a.eval x = .slice (some ⟨gx, 0, none⟩) 1 1 → (execOp a.eval o).run Try.prog w = .ok (.value v') w') ∧ w'.ownsRow base 5 1 v' (n + 1) (bl f (n + 1)) ∧ w.grownBy w' v.ownBlock := by
  obtain ⟨i, hi, hz, hsize, hby⟩ := info_parts Try.info5
  have hnews : ∀ j u, [Value.int .u8 (y : Nat)][j]? = some u → w.cell? ((⟨gx, 0, none⟩ : Addr).add j) = some u := by
    intro j u hj
    cases j with
    | zero =>
      simp at hj
      subst hj
      simpa [Addr.add] using hy
    | succ j => simp at hj
  have h1 : ∀ u ∈ [Value.int .u8 (y : Nat)], u.oneCell' = true := by
    intro u hu
    simp at hu
    subst hu
    rfl
  obtain ⟨v', w', hr, h2, h3, _⟩ := run_append_own (P := Try.prog) w base 22 0 5 i (.int .u8 0) 1 1 Try.underlying22 hi hz hsize hby rfl (by decide) v n _ hown ⟨gx, 0, none⟩ 1 1 [.int .u8 (y : Nat)] rfl hnews h1 (by unfold maxLen; omega) (by omega) hbase
  rw [bl_snocF f n y hf] at h2
  refine ⟨v', w', ?_, h2, h3⟩
  intro o a s x ho hs hx
  have hr' : ∀ ty, (Builtin.append_ #[22, 22] ty #[v, .slice (some ⟨gx, 0, none⟩) 1 1]).run Try.prog w = .ok v' w' := fun ty => hr
  unfold execOp
  simp only [ho, resolve, invoke, builtin, Sem.run_bind, Sem.run_pure, Result.andThen_ok, List.map_toArray, List.map_cons, List.map_nil, hs, hx, hr']
end Go.Proofs.Ytcnlegnfecpdnaa
