/- cache: New. -/
import Derived.Test.YtancebpjfbbcaaaCcApply
namespace Go.Proofs.Ytancebpjfbbcaaa
open Go.ChangeShapes Go.WideShapes Go.ChangeAt Go.RowKit Go.MapKept
set_option linter.unusedVariables false

variable {w w' : World}

/-- A row grows by some. -/
theorem append_manyC {t e size bytes : Nat} (K : KindC t e size bytes) {ty : TypeId} (w : World) (base n : Nat) (v : Value) (xs : List Value) (hrow : w.ownsRow base e size v n xs) (hbase : base ≤ w.heap.size) (hlen : n ≤ 1000000) (ad : Addr) (m c : Nat) (hm : 0 < m) (hmb : m ≤ 1000000) (news : List Value) (hl : news.length = m * size) (h1 : ∀ u ∈ news, u.oneCell' = true) (hnews : ∀ j u, news[j]? = some u → w.cell? (ad.add j) = some u) :
    ∃ A' C' w', (Builtin.append_ #[t, t] ty #[v, .slice (some ad) m c]).run Try.prog w = .ok (.slice A' (n + m) C') w' ∧ w'.ownsRow base e size (.slice A' (n + m) C') (n + m) (xs ++ news) ∧ w.grownBy w' v.ownBlock ∧ ((Value.slice A' (n + m) C').ownBlock = v.ownBlock ∨ (Value.slice A' (n + m) C').ownBlock = some w.heap.size) := by
  obtain ⟨z, hz, hzs⟩ := K.info
  obtain ⟨i0, hi, hz0, hz1, hz2⟩ := info_parts hz
  have hp := K.pos
  have hsm : (n + m) * bytes ≤ 140737488355328 := by
    have : (n + m) * bytes ≤ 2000000 * 1000 := Nat.mul_le_mul (by omega) K.small
    omega
  obtain ⟨v', w', hr, h2, h3, h4⟩ := run_append_own (P := Try.prog) w base t ty e i0 z size bytes K.ut hi hz0 hz1 hz2 hzs hp v n xs hrow ad m c news hl hnews h1 (by unfold maxLen; omega) hsm hbase
  have hwh := append_whereC (P := Try.prog) K.ut hi hz0 hz1 hp hrow (ad := ad) (m := m) (c := c) (news := news) hl hnews h1 (by unfold maxLen; omega) (by rw [hz2]; exact hsm) hm hr
  obtain ⟨A', C', e'⟩ : ∃ A' C', v' = .slice A' (n + m) C' := by
    rcases h2.2 with ⟨_, h0⟩ | ⟨g, cap, cur, rfl, _⟩
    · omega
    · exact ⟨_, _, rfl⟩
  subst e'
  exact ⟨A', C', w', hr, h2, h3, hwh⟩

theorem eql_nil_pd (p : Option Addr) (w : World) : (binOp .eql 42 (.pointer none) (.pointer p)).run Try.prog w = .ok (.bool p.isNone) w := by
  have h1 : ∀ d, (Op.equalIn (d + 1) 42 (.pointer none) (.pointer p)).run Try.prog w = .ok p.isNone w := fun d => by cases p <;> simp [Op.equalIn, run_underlying Try.underlying42]
  simp only [binOp]
  simp [show Op.equal 42 (.pointer none) (.pointer p) = Op.equalIn (9999 + 1) 42 (.pointer none) (.pointer p) from rfl, h1 9999]

theorem run_at_pdo {o : Oper} {a : Act} (x i : Operand) (ho : o.op = .indexAddr 23 x i) (g off k n cap : Nat) (hx : a.eval x = .slice (some ⟨g, off, none⟩) n cap) (hi : a.eval i = .int .i64 (k : Nat)) (hk : k < n) (w : World) : (execOp a.eval o).run Try.prog w = .ok (.value (.pointer (some ⟨g, off + k, none⟩))) w := by
  unfold execOp
  cases hq : Try.prog.info? 42 with
  | none => exact absurd hq (by have h : (Try.prog.info? 42).isSome = true := (by kernel_rfl); intro e; rw [e] at h; cases h)
  | some inf =>
    have hz : inf.size = 1 := by
      have h : (Try.prog.info? 42).map (·.size) = some 1 := by kernel_rfl
      simpa [hq] using h
    simp only [ho, hx, hi]
    simp [Instr.indexAt, Instr.sureAddr, run_underlying Try.underlying23, asIntOf, sizeOf, typeInfo, hq, hz, Addr.add_mid, go_sem]
    intro h
    omega

/-- Pointers in a row of one's own. -/
abbrev PRow (w : World) (b : Nat) (v : Value) (ps : List (Option Addr)) : Prop := w.ownsRow b 42 1 v ps.length (ps.map Value.pointer)

theorem PRow.at_ {v : Value} {ps : List (Option Addr)} {b : Nat} (h : PRow w b v ps) : ∃ a c, v = .slice a ps.length c ∧ (a = none → ps = [] ∧ c = 0) ∧ ∀ i p, ps[i]? = some p → ∃ g, a = some ⟨g, 0, none⟩ ∧ w.cell? ⟨g, i, none⟩ = some (.pointer p) := by
  obtain ⟨a, c, e, h1, h2, h3, h4⟩ := own_slice (own_low h (Nat.zero_le _))
  refine ⟨a, c, e, fun e => ⟨List.length_eq_zero_iff.1 (h2 e).1, (h2 e).2⟩, fun i p hp => ?_⟩
  cases a with
  | none =>
    have h5 := (h2 rfl).1
    have := (List.getElem?_eq_some_iff.1 hp).1
    omega
  | some ad =>
    obtain ⟨g, rfl⟩ := h3 ad rfl
    exact ⟨g, rfl, h4 g rfl i _ (by rw [List.getElem?_map, hp]; rfl)⟩

set_option maxRecDepth 100000 in
set_option maxHeartbeats 1000000 in
/-- Is nil among them? -/
theorem index_nil {v : Value} {ps : List (Option Addr)} {b : Nat} (h : PRow w b v ps) (hl : ps.length ≤ 1000) : Calls Try.prog 67 #[v, .pointer none] w fun e w' => (∃ z : Int, e = .returned (.int .i64 z) ∧ (decide (0 ≤ z) = ps.any (·.isNone))) ∧ w' = w := by
  obtain ⟨a, c, rfl, _, hc⟩ := h.at_
  have HC := hidC hc
  obtain ⟨N, hN⟩ : ∃ N, N = ps.length := ⟨_, rfl⟩
  rw [← hN]
  have hNb : N ≤ 1000 := by omega
  have HN := hidC hN
  have hq := fun (p : Option Addr) w => eql_nil_pd p w
  have HQ := hidC hq
  clear hc h hN hq hl
  go_enter Try.func67, Try.ntmps67
  go_wp2
  go_loopw [8] (fun iv wr => ∃ k : Nat, k ≤ N ∧ iv = .int .i64 (k : Nat) ∧ wr = w ∧ (ps.take k).any (·.isNone) = false)
    (fun iv _ => N - (intOf iv).toNat)
  case atStart => exact ⟨0, Nat.zero_le _, rfl, rfl, by simp⟩
  case round =>
    obtain ⟨k, hk, rfl, rfl, hany⟩ := hrel
    by_cases hlt : k < N
    · obtain ⟨p, hp⟩ : ∃ p, ps[k]? = some p := ⟨_, List.getElem?_eq_getElem (by rw [← HN.out]; exact hlt)⟩
      obtain ⟨g, rfl, ck⟩ := HC.out k p hp
      have HNX := hidC (show (ps.take (k + 1)).any (·.isNone) = p.isNone by rw [List.take_add_one, hp, List.any_append, hany]; simp)
      have HALL := hidC (show p.isNone = true → ps.any (·.isNone) = true from fun e => List.any_eq_true.2 ⟨p, List.mem_of_getElem? hp, e⟩)
      have qk := HQ.out p wr
      have i0 : (k : Int) < (N : Int) := by omega
      have i1 : (0 : Int) ≤ (k : Int) := by omega
      have HLT := hidC hlt
      have HANY := hidC hany
      have HP := hidC hp
      clear hany hp
      cases hd : p.isNone with
      | true =>
        have HZ := hidC (HALL.out hd)
        rw [hd] at qk
        clear hd
        go_wp2_with (first
          | ((with_reducible refine at_dstC 14 rfl ?_)
             (refine wpList_is (some 14) (.pointer (some ⟨g, 0 + k, none⟩)) rfl (by rfl) (run_at_pdo _ _ rfl g 0 k N c rfl rfl hlt _) ?_)
             (rw [Nat.zero_add])))
        go_ret
        exact ⟨⟨_, rfl, by rw [HZ.out]; exact decide_eq_true (by omega)⟩, rfl⟩
      | false =>
        have HD := hidC hd
        rw [hd] at qk
        clear hd
        go_wp2_with (first
          | ((with_reducible refine at_dstC 14 rfl ?_)
             (refine wpList_is (some 14) (.pointer (some ⟨g, 0 + k, none⟩)) rfl (by rfl) (run_at_pdo _ _ rfl g 0 k N c rfl rfl hlt _) ?_)
             (rw [Nat.zero_add])))
        go_roundw
        case rel => exact ⟨k + 1, HLT.out, by go_num, by first | rfl | trivial, by rw [HNX.out]; exact HD.out⟩
        case measure => have := HLT.out; simp [intOf]; omega
    · obtain rfl : k = N := by omega
      have HZ := hidC (show ps.any (·.isNone) = false by rw [← hany, HN.out, List.take_length])
      clear hany
      go_wp2
      go_ret
      exact ⟨⟨_, rfl, by rw [HZ.out]; rfl⟩, rfl⟩

set_option maxRecDepth 100000 in
set_option maxHeartbeats 1000000 in
theorem contains_nil {v : Value} {ps : List (Option Addr)} {b : Nat} (h : PRow w b v ps) (hl : ps.length ≤ 1000) : Calls Try.prog 64 #[v, .pointer none] w fun e w' => e = .returned (.bool (ps.any (·.isNone))) ∧ w' = w := by
  have hI := index_nil h hl
  generalize ps.any (·.isNone) = bb at *
  clear h
  go_enter Try.func64, Try.ntmps64
  go_wp2_with (first
    | ((go_at_call 67)
       (refine hI.mono ?_)
       (rintro e w1 ⟨⟨z, rfl, hz⟩, hw1⟩)
       (obtain rfl : w = w1 := hw1.symm)
       (have HZ := hidC hz)
       (clear hI hz)))
  go_ret
  exact ⟨by rw [← HZ.out]; rfl, rfl⟩

set_option maxRecDepth 100000 in
set_option maxHeartbeats 1000000 in
theorem clone_pds {v : Value} {ps : List (Option Addr)} {b : Nat} (h : PRow w b v ps) (h1 : 1 ≤ ps.length) (hl : ps.length ≤ 1000) : Calls Try.prog 65 #[v] w fun e w' => ∃ v', e = .returned v' ∧ PRow w' w.heap.size v' ps ∧ Below w.heap.size w w' := by
  obtain ⟨a, c, rfl, hn, hc⟩ := h.at_
  obtain ⟨g, rfl⟩ : ∃ g, a = some ⟨g, 0, none⟩ := by
    obtain ⟨p, hp⟩ : ∃ p, ps[0]? = some p := ⟨_, List.getElem?_eq_getElem (by omega)⟩
    obtain ⟨g, e, _⟩ := hc 0 p hp
    exact ⟨g, e⟩
  have hgl : g < w.heap.size := (h.lt g rfl).2
  have hba : Below w.heap.size w (w.alloc (.cells #[] 42)) := (Below.refl _ _).alloc (Nat.le_refl _) _
  have hown : (w.alloc (.cells #[] 42)).ownsRow w.heap.size 42 1 (.slice (some ⟨w.heap.size, 0, none⟩) 0 0) 0 [] := ⟨rfl, .inr ⟨w.heap.size, 0, #[], rfl, Nat.le_refl _, heap_alloc_new w _, Nat.le_refl _, Nat.zero_le _, rfl, rfl⟩⟩
  obtain ⟨A', C', w2, hr2, ho2, hg2, _⟩ := append_manyC kPdC (ty := 23) (w.alloc (.cells #[] 42)) w.heap.size 0 _ [] hown hba.size (by omega) ⟨g, 0, none⟩ ps.length c (by omega) (by omega) (ps.map Value.pointer) (by simp) (fun u hu => by obtain ⟨p, _, rfl⟩ := List.mem_map.1 hu; rfl) (fun j u hu => by
    rw [List.getElem?_map] at hu
    cases hp : ps[j]? with
    | none => rw [hp] at hu; cases hu
    | some p =>
      rw [hp] at hu
      cases hu
      obtain ⟨g', e, hcell⟩ := hc j p hp
      cases e
      rw [Addr.add_mid, Nat.zero_add, hba.cell (p := ⟨g, j, none⟩) hgl]
      exact hcell)
  rw [Nat.zero_add] at hr2 ho2
  have HF := hidC (show PRow w2 w.heap.size (.slice A' ps.length C') ps from ho2)
  have HB := hidC (below_gC hba hg2 (fun g e => by cases e; exact Nat.le_refl _))
  have HR := hidC hr2
  have hnil : ∀ w : World, (binOp BinOp.eql 23 (.slice (some ⟨g, 0, none⟩) ps.length c) (.slice none 0 0)).run Try.prog w = .ok (.bool false) w := fun _ => by kernel_rfl
  clear h hc hn hba hown ho2 hg2 hr2
  go_enter Try.func65, Try.ntmps65
  go_wp2_with (first
    | ((with_reducible refine at_dstC 7 rfl ?_)
       (refine wpList_is_w (some 7) (.slice A' ps.length C') w2 rfl (by rfl) (run_app_isC _ _ rfl rfl rfl HR.out) ?_)))
  go_ret
  exact ⟨_, rfl, HF.out, HB.out⟩

/-- What New answers. -/
def NewR (w : World) (ps : List (Option Addr)) (e : Ending) (w' : World) : Prop := Below w.heap.size w w' ∧ if 1 ≤ ps.length ∧ ps.length ≤ 8 ∧ ps.any (·.isNone) = false then ∃ cb dv, e = .returned (.tuple #[ptr cb, .int .i64 0]) ∧ Has w' cb 73 #[dv, .map none, .slice none 0 0, .slice none 0 0] ∧ w.heap.size ≤ cb ∧ PRow w' w.heap.size dv ps else e = .returned (.tuple #[.pointer none, .int .i64 1])

set_option maxRecDepth 100000 in
set_option maxHeartbeats 1000000 in
theorem ccnew_c {v : Value} {ps : List (Option Addr)} {b : Nat} (h : PRow w b v ps) (hl : ps.length ≤ 1000) : Calls Try.prog 41 #[v] w (NewR w ps) := by
  obtain ⟨a, c, hv, _, _⟩ := h.at_
  have HI := hidC (contains_nil h hl)
  have HCL := hidC (fun h1 => clone_pds h h1 hl)
  by_cases h1 : ps.length < 1
  · have HF := hidC (show NewR w ps (.returned (.tuple #[.pointer none, .int .i64 1])) w from ⟨Below.refl _ _, by rw [if_neg (by omega)]⟩)
    have i1 : (ps.length : Int) < 1 := by omega
    subst hv
    clear h HI HCL
    go_enter Try.func41, Try.ntmps41
    go_wp2
    go_ret2
    exact HF.out
  have i1 : ¬ (ps.length : Int) < 1 := by omega
  by_cases h8 : 8 < ps.length
  · have HF := hidC (show NewR w ps (.returned (.tuple #[.pointer none, .int .i64 1])) w from ⟨Below.refl _ _, by rw [if_neg (by omega)]⟩)
    have i8 : (8 : Int) < (ps.length : Int) := by omega
    subst hv
    clear h HI HCL
    go_enter Try.func41, Try.ntmps41
    go_wp2
    go_ret2
    exact HF.out
  have i8 : ¬ (8 : Int) < (ps.length : Int) := by omega
  cases hn : ps.any (·.isNone) with
  | true =>
    have HF := hidC (show NewR w ps (.returned (.tuple #[.pointer none, .int .i64 1])) w from ⟨Below.refl _ _, by rw [if_neg (by rw [hn]; simp)]⟩)
    rw [hn] at HI
    subst hv
    clear h HCL hn
    go_enter Try.func41, Try.ntmps41
    go_wp2_with (first
      | ((go_at_call 64)
         (refine HI.out.mono ?_)
         (rintro e w1 ⟨rfl, hw1⟩)
         (obtain rfl : w = w1 := hw1.symm)))
    go_ret2
    exact HF.out
  | false =>
    have HF := hidC (fun w1 v1 (hb : Below w.heap.size w w1) (hr : PRow w1 w.heap.size v1 ps) => (show NewR w ps (.returned (.tuple #[ptr w1.heap.size, .int .i64 0])) (w1.alloc (.cells #[v1, .map none, .slice none 0 0, .slice none 0 0] 73)) from ⟨hb.trans ((Below.refl w.heap.size w1).alloc hb.size _), by
      rw [if_pos ⟨by omega, by omega, hn⟩]
      have hba : Below w1.heap.size w1 (w1.alloc (.cells #[v1, .map none, .slice none 0 0, .slice none 0 0] 73)) := (Below.refl _ _).alloc (Nat.le_refl _) _
      exact ⟨_, v1, rfl, Has.new w1 _ _, hb.size, own_keptC hr (fun g e => hba.block g (hr.lt g e).2)⟩⟩))
    have HC1 := hidC (HCL.out (by omega))
    rw [hn] at HI
    subst hv
    clear h HCL hn
    go_enter Try.func41, Try.ntmps41
    go_wp2_with (first
      | ((go_at_call 64)
         (refine HI.out.mono ?_)
         (rintro e w1 ⟨rfl, hw1⟩)
         (obtain rfl : w = w1 := hw1.symm))
      | ((go_at_call 65)
         (refine HC1.out.mono ?_)
         (rintro e w1 ⟨v1, rfl, hr1, hb1⟩)
         (obtain ⟨a1, c1, hv1, _, _⟩ := hr1.at_)
         (have HV := hidC (HF.out w1 v1 hb1 hr1))
         (subst hv1)
         (clear hr1)))
    go_ret2
    exact HV.out
end Go.Proofs.Ytancebpjfbbcaaa
