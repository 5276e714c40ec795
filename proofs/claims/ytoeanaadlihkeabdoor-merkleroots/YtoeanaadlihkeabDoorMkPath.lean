/- The law's path: the sectors of a tree above a data sector. -/
import Derived.Test.YtoeanaadlihkeabDoorMkAlive
import Derived.Test.YtoeanaadlihkeabDoorMkApp
import Derived.Deep.Onto
namespace Go.Proofs.YtoeanaadlihkeabDoor
open Go.ChangeShapes Go.WideShapes Go.ChangeAt Go.RowKit
set_option linter.unusedVariables false

def vl (V : Nat → Value) (n : Nat) : List Value := (List.range n).map V

theorem vl_get (V : Nat → Value) (n j : Nat) (h : j < n) : (vl V n)[j]? = some (V j) := by simp [vl, h]

theorem infoB : (Tryd.prog.info? 22).map (fun i => (i.zero, i.size, i.bytes)) = some (some (.slice none 0 0), 1, 24) := by kernel_rfl

/-- One row that was just laid is appended. -/
theorem wpList_append_rowv {ops : Array Oper} {rest : List Oper} {o : Oper} {a : Act} {w0 : World} {Q : Exit → Act → World → Prop} (hgd : o.guard = none) (s x : Operand)
    (ho : o.op = .call { callee := .builtin .append, args := #[s, x], argTypes := #[29, 29] }) (base : Nat) (v : Value) (n : Nat) (V : Nat → Value) (hs : a.eval s = v) (hown : w0.ownsRow base 22 1 v n (vl V n))
    (z : Value) (hx : a.eval x = .slice (some ⟨w0.heap.size, 0, none⟩) 1 1) (hV : z = V n) (h1 : z.oneCell' = true) (h63 : n + 1 ≤ 100000) (hbase : base ≤ w0.heap.size)
    (h : ∀ g cap w', w'.ownsRow base 22 1 (.slice (some ⟨g, 0, none⟩) (n + 1) cap) (n + 1) (vl V (n + 1)) → (w0.alloc (.cells #[z] 22)).grownBy w' v.ownBlock → (v.ownBlock = some g ∨ g = w0.heap.size + 1) → g < w'.heap.size → wpList Tryd.prog ops Q rest (a.put o.dst (.slice (some ⟨g, 0, none⟩) (n + 1) cap)) w') :
    wpList Tryd.prog ops Q (o :: rest) a (w0.alloc (.cells #[z] 22)) := by
  subst hV
  obtain ⟨i0, hi, hz0, hz1, hz2⟩ := info_parts infoB
  have hb : Below w0.heap.size w0 (w0.alloc (.cells #[V n] 22)) := (Below.refl _ _).alloc (Nat.le_refl _) _
  refine wpList_append_lies _ hgd s x 29 ho base 22 i0 (.slice none 0 0) 1 24 Tryd.underlying29 hi hz0 hz1 hz2 rfl (by decide) v n _ hs (ownT_below hown hb (fun g hg => (hown.lt g hg).2)) ⟨w0.heap.size, 0, none⟩ 1 1 [V n] hx (by rfl) ?_ (by simpa using h1) (by decide) (by unfold maxLen; omega) (by omega) (by simp; omega) (w0.heap.size + 1) (by simp) ?_
  · intro j u hj
    have hj0 : j = 0 := by
      rcases j with _ | j
      · rfl
      · simp at hj
    subst hj0
    have e : (⟨w0.heap.size, 0, none⟩ : Addr).add 0 = ⟨w0.heap.size, 0, none⟩ := by simp [Addr.add]
    rw [e, (Has.new w0 22 #[V n]).cell 0]
    simpa using hj
  · intro g cap w' h1 h2 h3 h4
    rw [show vl V n ++ [V n] = vl V (n + 1) from by unfold vl; rw [List.range_succ, List.map_append]; rfl] at h1
    exact h g cap w' h1 h2 h3 h4

theorem own_rows {w : World} {base n : Nat} {v : Value} {V : Nat → Value} (h : w.ownsRow base 22 1 v n (vl V n)) : ∃ a cap, v = .slice a n cap ∧ n ≤ cap ∧ (a = none → n = 0 ∧ cap = 0) ∧ ∀ j, j < n → ∃ b, a = some ⟨b, 0, none⟩ ∧ base ≤ b ∧ b < w.heap.size ∧ w.cell? ⟨b, 0 + j, none⟩ = some (V j) := by
  rcases h.2 with ⟨rfl, rfl⟩ | ⟨g, cap, cur, rfl, hb, hg, hn, hm, hs, ht⟩
  · exact ⟨none, 0, rfl, Nat.le_refl _, fun _ => ⟨rfl, rfl⟩, fun j hj => by omega⟩
  · have hlt : g < w.heap.size := (Array.getElem?_eq_some_iff.1 hg).1
    refine ⟨some ⟨g, 0, none⟩, cap, rfl, hn, (fun e => by cases e), fun j hj => ⟨g, rfl, hb, hlt, ?_⟩⟩
    rw [Nat.zero_add, h.cellAt j (by omega)]
    exact vl_get V n j hj

set_option maxRecDepth 100000 in
set_option maxHeartbeats 3200000 in
theorem path_any (hM : MerkleOk) (N I : Nat) (hI : I < N) (h2 : N ≤ 2048) (tb to_ tc : Nat) (F : Nat → Nat) (w : World) (hT : Bytes w (some ⟨tb, to_, none⟩) (64 * off N (dep N)) F) (htc : 64 * off N (dep N) ≤ tc) (hF : ∀ j, F j < 256) :
    Calls Tryd.prog 8 #[.slice (some ⟨tb, to_, none⟩) (64 * off N (dep N) : Nat) tc, .int .i64 (N : Nat), .int .i64 (I : Nat)] w fun e w' =>
      ∃ oa oc, e = .returned (.slice oa (dep N) oc) ∧ dep N ≤ oc ∧ oa ≠ none ∧
        Pieces w' oa (dep N) (fun k => some ⟨tb, to_ + (off N k + pl I (k + 1)) * 64, none⟩) (fun _ => 64) (fun k => tc - (off N k + pl I (k + 1)) * 64) (fun k => sec F (off N k + pl I (k + 1))) ∧ Below w.heap.size w w' := by
  have h1 : 1 ≤ N := by omega
  have k1 := hM.2.1 N I w ⟨by omega, by omega⟩ ⟨by omega, by omega⟩
  rw [patN_in ⟨by omega, by omega, by omega⟩, Int.toNat_natCast, Int.toNat_natCast] at k1
  have hD1 := dep_pos N
  have hD11 := dep_11 N h2
  have HS : Hid (∀ k, k < dep N → off N k + pl I (k + 1) + 1 ≤ off N (dep N)) := fun k hk => by
    have a1 := pl_lt N I (k + 1) hI
    have a2 := off_mono N (k + 1) (dep N) hk
    have a3 : off N (k + 1) = off N k + lv N (k + 1) := rfl
    omega
  have ho := off_max N (dep N) h1 h2 hD11
  obtain ⟨TL, hTL⟩ : ∃ TL, TL = 64 * off N (dep N) := ⟨_, rfl⟩
  rw [← hTL] at htc ⊢
  have HTL : Hid (TL = 64 * off N (dep N)) := hTL
  have hTLb : TL ≤ 2000000 := by omega
  obtain ⟨D, hD⟩ : ∃ D, D = dep N := ⟨_, rfl⟩
  rw [← hD] at k1 hD1 hD11 HS HTL hT ⊢
  clear hD hTL ho
  obtain ⟨q, hq⟩ : ∃ q : Nat → Nat, q = fun k => off N k + pl I (k + 1) := ⟨_, rfl⟩
  have hfin : ∀ (w' : World) v, w'.ownsRow w.heap.size 22 1 v D (vl (fun k => .slice (some ⟨tb, to_ + q k * 64, none⟩) 64 (tc - q k * 64)) D) → Below w.heap.size w w' → ∃ oa oc, v = .slice oa D oc ∧ D ≤ oc ∧ oa ≠ none ∧
        Pieces w' oa D (fun k => some ⟨tb, to_ + (off N k + pl I (k + 1)) * 64, none⟩) (fun _ => 64) (fun k => tc - (off N k + pl I (k + 1)) * 64) (fun k => sec F (off N k + pl I (k + 1))) := by
    intro w' v own hb
    obtain ⟨oa, oc, rfl, e1, e2, e3⟩ := own_rows own
    refine ⟨oa, oc, rfl, e1, fun e => by have := e2 e; omega, ?_⟩
    intro k hk
    obtain ⟨b, rfl, _, hlt, hc⟩ := e3 k hk
    have hs := HS.out k hk
    have ht := HTL.out
    subst hq
    refine ⟨⟨b, 0, rfl, hlt, hc⟩, by show 64 ≤ tc - (off N k + pl I (k + 1)) * 64; omega, (fun e => by cases e), ?_, fun j => hF _⟩
    have hp := (hT.below hb (Nat.le_refl _)).part ((off N k + pl I (k + 1)) * 64) 64 (by omega)
    exact hp.congr (fun j _ => by show F (64 * (off N k + pl I (k + 1)) + j) = _; rw [Nat.mul_comm])
  have HFin : Hid _ := hfin
  rw [← hq] at k1
  have HQ : Hid (∀ k, k < D → q k + 1 ≤ off N D) := fun k hk => by rw [hq]; exact HS.out k hk
  have hTL2 : Hid (TL = 64 * off N D) := HTL.out
  clear hfin hq hT
  go_enter Tryd.func8, Tryd.ntmps8
  go_wp2_with (first
    | ((go_at_call 16)
       (refine k1.mono ?_)
       (rintro e w1 ⟨pa, pc, rfl, hpc, _, hp1, hb1⟩)
       (obtain ⟨pb, po, rfl, hpb, hpcell⟩ := hp1.resolve_left (by omega))
       (clear k1)))
  go_loopw [7, 9] (fun v kv wr => ∃ k : Nat, k ≤ D ∧ kv = .int .i64 (k : Nat) ∧ wr.ownsRow w1.heap.size 22 1 v k (vl (fun k => .slice (some ⟨tb, to_ + q k * 64, none⟩) 64 (tc - q k * 64)) k) ∧ Below w1.heap.size w1 wr)
    (fun _ kv _ => D - (intOf kv).toNat)
  case atStart => exact ⟨0, Nat.zero_le _, rfl, World.ownsRow_nil _ _ _ _, Below.refl _ _⟩
  case round =>
    obtain ⟨k, hk, rfl, own, hbel⟩ := hrel
    by_cases hlt : k < D
    · have c1 := (hbel.cell (p := ⟨pb, po + k, none⟩) hpb).trans (hpcell k hlt)
      have hk1 : (k : Int) < (D : Int) := by omega
      have hqk := HQ.out k hlt
      have ht2 := hTL2.out
      have hsz := hbel.size
      obtain ⟨va, vc, rfl, hvc, _, _⟩ := own_rows own
      obtain ⟨s, hs⟩ : ∃ s, s = q k := ⟨_, rfl⟩
      have HE : Hid (s = q k) := hs
      rw [← hs] at c1 hqk
      have hs1 : 64 * s + 64 ≤ TL := by omega
      have hs1i : (s : Int) * 64 + 64 ≤ TL := by omega
      have hs2 : (s : Int) * 64 + 64 ≤ tc := by omega
      clear hs hpcell hqk ht2
      go_wp2_with (first
        | ((at_builtin)
           (refine wpList_append_rowv rfl _ _ rfl w1.heap.size _ k (fun k => .slice (some ⟨tb, to_ + q k * 64, none⟩) 64 (tc - q k * 64)) rfl own _ rfl (by rw [HE.out]) rfl (by omega) hbel.size ?_)
           (intro g cap w2 own2 gr2 _ _)
           (have hb2 : Below w1.heap.size w1 w2 := (hbel.alloc hbel.size _).grown gr2 (by simp; omega) (fun k' h => (own.lt k' h).1))
           (clear gr2)))
      go_roundw
      case rel => exact ⟨k + 1, by omega, rfl, own2, hb2⟩
      case measure => simp [intOf]; omega
    · obtain rfl : k = D := by omega
      have hBw := hb1.trans (hbel.mono hb1.size)
      obtain ⟨oa, oc, rfl, e1, e2, e3⟩ := HFin.out wr _ (own.mono hb1.size) hBw
      go_wp2
      refine bodyPost_ret (results_tmp rfl _ _ _) rfl ⟨oa, oc, rfl, e1, e2, e3, hBw⟩
end Go.Proofs.YtoeanaadlihkeabDoor
