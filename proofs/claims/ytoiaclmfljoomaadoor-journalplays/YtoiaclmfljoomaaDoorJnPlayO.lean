/- JournalPlays: power that goes, records that are added. -/
import Derived.Test.YtoiaclmfljoomaaDoorJnPlayN
namespace Go.Proofs.YtoiaclmfljoomaaDoor
open Go.ChangeShapes Go.WideShapes Go.ChangeAt Go.RowKit
set_option linter.unusedVariables false

variable {D : DevRep} {B : Nat} {w0 w w' w1 w2 w3 : World} {j p c m n : Nat} {s s' : DS} {F F' FL F2 : Nat → Prop} {rs : List RC} {fl : Nat} {G G2 X : Nat → Prop} {v : Value} {cL pL : Nat}

theorem in_dead (hD : DevOk D) (h : In D B w0 w p s c m F) {b : Bool} (hb : s.dead = b) : Calls Tryd.prog 16 #[ptr p] w fun e w' => e = .returned (.bool b) ∧ Below w.heap.size w w' := by
  subst hb
  exact hD.isDead w p s c m F h.dev

theorem in_bad (hM : DevMore D) (h : In D B w0 w p s c m F) (k : Nat) (hk : k < s.n) (hn : s.n ≤ 1000) {b : Bool} (hb : s.bad k = b) : Calls Tryd.prog 20 #[ptr p, .int .i64 (k : Nat)] w fun e w' => e = .returned (.bool b) ∧ Below w.heap.size w w' := by
  have := hM.isBad w p s c m F (k : Int) h.dev (by unfold i64ok; omega)
  have e1 : decide ((0 : Int) ≤ (k : Int) ∧ (k : Int) < (s.n : Int)) = true := decide_eq_true ⟨by omega, by omega⟩
  rw [e1, Bool.true_and, Int.toNat_natCast, hb] at this
  exact this

/-- The law's list beside a device that power left. -/
theorem cut_parts (hR : OwnR B w v rs X) (hA : Apt F c G X) (hb : Below w.heap.size w w1) (hFL : Grew w F FL) (hcL : w.heap.size ≤ cL) (hI : In D B w0 w1 pL s cL m FL) (ho : Only (fun k => FL k ∨ k = cL) w1 w2) (hg : Grew w1 FL F2) (hG2 : ∀ k, G2 k → w1.heap.size ≤ k) :
    OwnR B w2 v rs X ∧ Apt F2 cL G2 X := by
  have hoff : ∀ q, X q → ¬ (FL q ∨ q = cL) := by
    intro q hq h9
    have hlt := (hR.lt q hq).2
    rcases h9 with h9 | h9
    · rcases hFL q h9 with h8 | h8
      · exact (hA q hq).1 (.inl h8)
      · omega
    · omega
  have hs := hb.size
  refine ⟨(hR.below hb).only ho (fun q hq => hq.elim (hI.base q) (fun e9 => by rw [e9]; exact hI.cb)) (fun q hq => hoff q hq), fun q hq => ⟨?_, fun h9 => by have := hG2 q h9; have := (hR.lt q hq).2; omega⟩⟩
  rintro (h9 | h9)
  · rcases hg q h9 with h8 | h8
    · exact hoff q hq (.inl h8)
    · have := (hR.lt q hq).2
      omega
  · exact hoff q hq (.inr h9)

theorem Rest.ableCut (hf : Rest s) (hd : s.dead = false) (hb : anyBad s n = false) (hn : s.n = n) (keep : Nat → Bool) : Able (cutD s keep) :=
  ⟨hd, fun i hi => anyBad_no hb i (by rw [← hn]; exact hi), (hf.cut keep).byt, hf.n1, hf.n2⟩

theorem in_openC (hD : DevOk D) (hM : DevMore D) (hG : Glob Hc Kc w0) (hB1 : 1 < B) {keep : Nat → Bool} (h : In D B w0 w pL (cutD s keep) cL 0 FL) (hf : Rest s) (hd : s.dead = false) (hb : anyBad s n = false) (hn : s.n = n) (hk : Keeps s (rs.take fl)) (hfl : fl ≤ rs.length) (hbt : ∀ r ∈ rs, ∀ k, r.f k < 256) :
    Calls Tryd.prog 19 #[ptr pL] w fun e w' => ∃ j s' m' F' G, e = .returned (.tuple #[ptr j, .int .i64 0]) ∧ JIn D B w0 w' j pL s' cL m' F' (rs.take fl) fl G ∧ Fine s' ∧ s'.n = n ∧ Keeps s' (rs.take fl) ∧ s'.log.length ≤ 0 + (n + 4) ∧ m' ≤ 0 + (n + 4) ∧ Only (fun k => FL k ∨ k = cL) w w' ∧ Grew w FL F' ∧ ∀ k, G k → w.heap.size ≤ k := by
  have hss := (hk.cut hf.safe keep).told
  have hlen : (rs.take fl).length = fl := by rw [List.length_take]; omega
  have hop := j_openF hD hM hG hB1 h (hf.ableCut hd hb hn keep) (by omega) (Nat.zero_le _) hss (fun r hr => hbt r (List.mem_of_mem_take hr))
  rw [hlen] at hop
  refine hop.mono ?_
  rintro e w' ⟨k6, s6, m6, F6, G6, rfl, a1, a2, a3, a4, a5, a6, _, a7, a8, a9⟩
  have e3 : s6.n = n := a3.trans hn
  refine ⟨k6, s6, m6, F6, G6, rfl, a1, a2, e3, a4, ?_, ?_, a7, a8, a9⟩
  · have h5 : s6.log.length ≤ 0 + (s.n + 4) := a5
    omega
  · have h6 : m6 ≤ 0 + (s.n + 4) := a6
    omega

theorem Fine.badNo (h : Fine s) (hn : s.n = n) (k : Nat) (hk : k < n) : s.bad k = false := h.good k (by omega)

/-- A clone of bytes, put behind the law's list. -/
theorem OwnR.clone {va : Option Addr} {M vc : Nat} (hR : OwnR B w (.slice va M vc) rs X) (hM : M = rs.length) (hl : rs.length ≤ 90000) {ad : Option Addr} {L C : Nat} {f : Nat → Nat} (hB : B ≤ w.heap.size)
    (hg : (w.alloc (.cells #[] 5)).grownBy w1 (some w.heap.size)) (ho : w1.ownsRow w.heap.size 5 1 (.slice ad L C) L (bl f L)) (hL : 1 ≤ L) (hLm : L ≤ maxLen) (hby : ∀ k, f k < 256) :
    OwnR B w1 (.slice va M vc) rs (fun k => X k ∨ (w.heap.size ≤ k ∧ k < w1.heap.size)) ∧ Below w.heap.size w w1 ∧ ByIn w1 ad L C f ∧ ∃ b, ad = some ⟨b, 0, none⟩ ∧ w.heap.size ≤ b ∧ b < w1.heap.size ∧ ∃ cur, w1.heap[b]? = some (.cells cur 5 (0, 0)) := by
  have hbel : Below w.heap.size w w1 := ⟨hg.os, hg.tape, hg.output, Nat.le_trans (by simp) hg.size, fun k hk => (hg.block k (by simp; omega) (fun e => by injection e; omega)).trans (Below.heap_alloc w _ k hk)⟩
  have hs := hbel.size
  obtain ⟨a, cap, e, h1, h2, h3, h4⟩ := own_bytes ho
  injection e with e1 _ e3
  subst e1 e3
  refine ⟨(hR.below hbel).mono (fun k hk => .inl hk) (fun k hk => hk.elim (fun h5 => ⟨(hR.lt k h5).1, Nat.lt_of_lt_of_le (hR.lt k h5).2 hs⟩) (fun h5 => ⟨Nat.le_trans hB h5.1, h5.2⟩)), hbel, ⟨h1, hLm, h2, h3, hby⟩, ?_⟩
  rcases ho.2 with ⟨e, h0⟩ | ⟨g, cap', cur, e, hb, hg', _⟩
  · omega
  · injection e with e1 _ _
    exact ⟨g, e1, hb, (Array.getElem?_eq_some_iff.1 hg').1, cur, hg'⟩

theorem own_emptyP (w : World) (f : Nat → Nat) : (w.alloc (.cells #[] 5)).ownsRow w.heap.size 5 1 (.slice (some ⟨w.heap.size, 0, none⟩) 0 0) 0 (bl f 0) :=
  ⟨rfl, .inr ⟨w.heap.size, 0, #[], rfl, Nat.le_refl _, heap_alloc_new w _, Nat.le_refl _, Nat.zero_le _, rfl, rfl⟩⟩

theorem bl_cat0 (f g : Nat → Nat) (L : Nat) : bl (cat f 0 g) (0 + L) = bl g L := by
  rw [← bl_cat f g 0 L]
  simp [bl]

theorem sized_more {N L : Nat} {f : Nat → Nat} (h : Sized rs) (hz : addErr rs N L = 0) : Sized (rs ++ [⟨L, f⟩]) ∧ endOf 0 (rs ++ [⟨L, f⟩]) ≤ N := by
  obtain ⟨h1, h2, h3⟩ := addErr_zero hz
  refine ⟨fun r hr => ?_, ?_⟩
  · rcases List.mem_append.1 hr with hr | hr
    · exact h r hr
    · rw [List.mem_singleton.1 hr]; exact ⟨h1, h2⟩
  · rw [endOf_append]
    show endOf 0 rs + 8 + jrnd L ≤ N
    exact h3
end Go.Proofs.YtoiaclmfljoomaaDoor
