/- cache: Count, Apply. -/
import Derived.Test.YtancebpjfbbcaaaCcKeep
namespace Go.Proofs.Ytancebpjfbbcaaa
open Go.ChangeShapes Go.WideShapes Go.ChangeAt Go.RowKit Go.MapKept
set_option linter.unusedVariables false

variable {D : DevRep} {B : Nat} {w0 w w' wr : World} {P : Nat → Nat} {S : Nat → DS} {C M : Nat → Nat} {F : Nat → Nat → Prop} {cb : Nat} {dv kv : Value} {o : GV} {ks : List GV} {GO GK : Nat → Prop}

theorem wpList_copyC {ops : Array Oper} {rest : List Oper} {o : Oper} {a : Act} {Q : Exit → Act → World → Prop} (wr : World) (t : TypeId) (Z X : Array Value) (hgd : o.guard = none) (x y : Operand) (ho : o.op = .store t x y)
    (hx : a.eval x = .pointer (some ⟨wr.heap.size, 0, none⟩)) (hy : a.eval y = .agg X) (hi : (Try.prog.info? t).map (·.size) = some X.size) (hs : Z.size = X.size) (h1 : X.all (·.oneCell') = true)
    (h : ∀ w2, Has w2 wr.heap.size t X → Below wr.heap.size wr w2 → wpList Try.prog ops Q rest (a.put o.dst undef) w2) : wpList Try.prog ops Q (o :: rest) a (wr.alloc (.cells Z t)) := by
  have hZ : Has (wr.alloc (.cells Z t)) wr.heap.size t Z := Has.new_at rfl
  refine wpList_store_rowG hgd t x y ho wr.heap.size X hx hy t Z hZ hi hs h1 ?_
  intro w2 hw2
  refine h w2 ?_ ?_
  · rw [hw2]
    exact hZ.setRow _
  · rw [hw2]
    exact below_setRow ((Below.refl _ _).alloc (Nat.le_refl _) _) (Nat.le_refl _) _

/-- How many writes groups have. -/
def cnt (ks : List GV) : Nat := (ks.map (fun g => g.rows.length)).sum

theorem cnt_take (ks : List GV) (k : Nat) {gv : GV} (hk : ks[k]? = some gv) : cnt (ks.take (k + 1)) = cnt (ks.take k) + gv.rows.length := by
  unfold cnt
  rw [List.take_add_one, hk, List.map_append, List.sum_append]
  simp

theorem cnt_le (ks : List GV) (k : Nat) : cnt (ks.take k) ≤ cnt ks := by
  unfold cnt
  have h : ks = ks.take k ++ ks.drop k := (List.take_append_drop k ks).symm
  have h2 := congrArg (fun l : List GV => (l.map (fun g => g.rows.length)).sum) h
  simp only [List.map_append, List.sum_append] at h2
  omega

/-- Group number k, in memory. -/
theorem CAt.kept_at (h : CAt w cb P dv o kv ks GO GK) {k : Nat} {gv : GV} (hk' : ks[k]? = some gv) : ∃ g c, kv = .slice (some ⟨g, 0, none⟩) ks.length c ∧ g < w.heap.size ∧ w.cell? ⟨g, k * 2, none⟩ = some gv.mv ∧ w.cell? ⟨g, k * 2 + 1, none⟩ = some gv.lv := by
  have hk : k < ks.length := (List.getElem?_eq_some_iff.1 hk').1
  obtain ⟨a, c, e, h1, h2, h3, h4⟩ := own_slice h.krow
  cases a with
  | none => have := (h2 rfl).1; omega
  | some ad =>
    obtain ⟨g, rfl⟩ := h3 ad rfl
    have hf := fun j hj => flat_at gcl 2 (fun _ => rfl) ks k j gv hk' hj
    exact ⟨g, c, e, (h.krow.lt g (by rw [e]; rfl)).2, h4 g rfl _ _ (hf 0 (by decide)), h4 g rfl _ _ (hf 1 (by decide))⟩

theorem Grp.one2 {G : Nat → Prop} {mv lv : Value} {l : List Rw} (h : Grp w G mv lv l) : (#[mv, lv] : Array Value).all (·.oneCell') = true := by
  obtain ⟨a, c, e, _⟩ := h.sl
  rcases h.mp with ⟨_, e2⟩ | ⟨mb, e2, _⟩ <;> (rw [e, e2]; simp [Value.oneCell'])

set_option maxRecDepth 100000 in
set_option maxHeartbeats 2000000 in
theorem cccount_c (hD : DevOk D) (h : CI D B w0 w cb P S C M F dv o kv ks GO GK) (hlen : ks.length ≤ 1000) (htot : cnt ks ≤ 100000) : Calls Try.prog 32 #[ptr cb] w fun e w' => e = .returned (.int .i64 (cnt ks : Nat)) ∧ Below w.heap.size w w' := by
  have hn := pc_some cb
  obtain ⟨aK, cK, hkv, _, _, _, _⟩ := own_slice h.c.krow
  have c3 := h.c.str.cell 3
  simp only [List.getElem?_toArray, List.getElem?_cons_zero, List.getElem?_cons_succ] at c3
  rw [hkv] at c3
  have HCI := hidC h.c
  have HKV := hidC hkv
  obtain ⟨NK, hNK⟩ : ∃ NK, NK = ks.length := ⟨_, rfl⟩
  rw [← hNK] at c3
  have HNK := hidC hNK
  have hNb : NK ≤ 1000 := by omega
  clear h hkv hNK
  go_enter Try.func32, Try.ntmps32
  go_wp2
  go_loopw [3, 13] (fun nv iv wr => ∃ k : Nat, k ≤ NK ∧ iv = .int .i64 (k : Nat) ∧ nv = .int .i64 (cnt (ks.take k) : Nat) ∧ Below w.heap.size w wr)
    (fun nv iv _ => NK - (intOf iv).toNat)
  case atStart => exact ⟨0, Nat.zero_le _, rfl, rfl, Below.refl _ _⟩
  case round =>
    obtain ⟨k, hk, rfl, rfl, hbel⟩ := hrel
    by_cases hlt : k < NK
    · have hC := HCI.out.next hbel
      obtain ⟨gv, hk3⟩ : ∃ gv, ks[k]? = some gv := ⟨_, List.getElem?_eq_getElem (by rw [← HNK.out]; exact hlt)⟩
      obtain ⟨gk, cK', e, _, ck0, ck1⟩ := hC.kept_at hk3
      have e' := HKV.out.symm.trans e
      injection e' with e1 _ e3
      subst e1 e3
      have hgrp := hC.kgs gv (List.mem_of_getElem? hk3)
      obtain ⟨aL, cL, hlv, _, _⟩ := hgrp.sl
      have HONE := hidC hgrp.one2
      have HCT := hidC (cnt_take ks k hk3)
      have hle := cnt_le ks k
      have hle2 := cnt_le ks (k + 1)
      rw [HCT.out] at hle2
      rw [hlv] at ck1 HONE
      generalize gv.mv = mv at *
      clear hC hgrp e hlv
      generalize hNL : gv.rows.length = NL at *
      clear hNL
      generalize hcn : cnt (ks.take k) = CN at *
      clear hcn
      have i0 : (k : Int) < (NK : Int) := by omega
      have i1 : (0 : Int) ≤ (k : Int) := by omega
      go_wp2_with (first
        | ((with_reducible refine at_dstC 15 rfl ?_)
           (refine wpList_is (some 15) (.pointer (some ⟨gk, k * 2, none⟩)) rfl (by rfl) (run_at_gr _ _ rfl gk k NK cK rfl rfl hlt _) ?_))
        | ((with_reducible refine at_dstC 16 rfl ?_)
           (refine wpList_is (some 16) (.agg #[mv, .slice aL NL cL]) rfl (by rfl) (run_load_gr _ rfl gk (k * 2) rfl _ _ _ ck0 ck1) ?_))
        | (refine wpList_copyC wr 70 _ #[mv, .slice aL NL cL] rfl _ _ rfl rfl rfl Try.size70 rfl HONE.out ?_; intro W3 hH3 hb3; have c31 := hH3.cell 1; simp only [List.getElem?_toArray, List.getElem?_cons_zero, List.getElem?_cons_succ] at c31)
)
      go_roundw
      case rel => exact ⟨k + 1, by omega, by go_num, by rw [HCT.out]; go_num, hbel.trans (hb3.mono hbel.size)⟩
      case measure => simp [intOf]; omega
    · obtain rfl : k = NK := by omega
      have HC := hidC (show cnt (ks.take k) = cnt ks by rw [HNK.out, List.take_length])
      rw [HC.out]
      go_wp2
      go_ret
      exact ⟨rfl, hbel⟩

set_option maxRecDepth 100000 in
set_option maxHeartbeats 1000000 in
theorem cccount_nil (w : World) : Calls Try.prog 32 #[.pointer none] w fun e w' => e = .returned (.int .i64 0) ∧ w' = w := by
  have hn := pc_none
  go_enter Try.func32, Try.ntmps32
  go_wp2
  go_ret
  exact ⟨rfl, rfl⟩
end Go.Proofs.Ytancebpjfbbcaaa
