/- The reference's added and mixed. -/
import Derived.Test.YtcnlegnfecpdnaaRefS2
import Derived.Test.YtcnlegnfecpdnaaAesWords
import Derived.Test.YtcnlegnfecpdnaaAesEnc
namespace Go.Proofs.Ytcnlegnfecpdnaa
open Go.ChangeShapes Go.WideShapes Go.ChangeAt Go.RowKit
set_option linter.unusedVariables false

section
variable {P : Program} {ops : Array Oper} {Q : Exit → Act → World → Prop} {md : Region.Mode} {S : World → Prop} {m : Nat}
/-- A call by its contract, where nothing else may come up. -/
theorem callL {oi : Oper} (i : Nat) (d : Option Tmp) (f : FuncId) (args : Array Value) {n : Nat} {listed : Array Bool} {a : Act} {w : World} {Post : Ending → World → Prop}
    (hr : Region.ready md ops listed = [i]) (hi : ops[i]? = some oi) (hd : oi.dst = d) (him : i ≠ m) (hw : Region.wanted oi (yielded ops a.tmps) = true)
    (hrun : (execOp a.eval oi).run P w = .ok (.enter f args) w) (hc : Calls P f args w Post)
    (h : ∀ e w', Post e w' → ∃ v, e = .returned v ∧ S w' ∧ AnyL P md ops Q S m n (listed.setIfInBounds i true) (a.put d v) w') : AnyL P md ops Q S m (n + 1) listed a w := by
  subst hd
  refine ⟨fun h0 => absurd (hr ▸ h0) (by simp), fun j hj => ?_⟩
  obtain rfl : j = i := by rw [hr] at hj; simpa using hj
  refine wpOp_step hi (fun K hK => ?_)
  rw [if_pos hw]
  unfold Oper.wp
  rw [hrun, Oper.upon_enter]
  refine hc.mono fun e w' hh => ?_
  obtain ⟨v, rfl, hS, hrest⟩ := h e w' hh
  exact hK _ _ ⟨fun _ => hS, hrest⟩
end

theorem run_4mul {o : Oper} {a : Act} (x : Operand) (ho : o.op = .binOp .mul 3 (.const (.int .i64 4)) x 3) (k : Nat) (hx : a.eval x = .int .i64 (k : Nat)) (h : k ≤ 60) (w : World) :
    (execOp a.eval o).run Try.prog w = .ok (.value (.int .i64 ((4 * k : Nat) : Int))) w := by
  have hw : IntKind.i64.wrap (4 * (k : Int)) = 4 * (k : Int) := by rw [IntKind.wrap_i64]; omega
  unfold execOp
  simp only [ho, hx]
  go_simp

theorem run_addN {o : Oper} {a : Act} (x y : Operand) (ho : o.op = .binOp .add 3 x y 3) (p q : Nat) (hx : a.eval x = .int .i64 (p : Nat)) (hy : a.eval y = .int .i64 (q : Nat)) (hp : p ≤ 1000) (hq : q ≤ 1000) (w : World) :
    (execOp a.eval o).run Try.prog w = .ok (.value (.int .i64 ((p + q : Nat) : Int))) w := by
  have hw : IntKind.i64.wrap ((p : Int) + (q : Int)) = (p : Int) + (q : Int) := by rw [IntKind.wrap_i64]; omega
  unfold execOp
  simp only [ho, hx, hy]
  go_simp

theorem run_subN {o : Oper} {a : Act} (x y : Operand) (ho : o.op = .binOp .sub 3 x y 3) (p q : Nat) (hx : a.eval x = .int .i64 (p : Nat)) (hy : a.eval y = .int .i64 (q : Nat)) (hp : p ≤ 1000) (hq : q ≤ p) (w : World) :
    (execOp a.eval o).run Try.prog w = .ok (.value (.int .i64 ((p - q : Nat) : Int))) w := by
  have hw : IntKind.i64.wrap ((p : Int) - (q : Int)) = (p : Int) - (q : Int) := by rw [IntKind.wrap_i64]; omega
  have he : ((p - q : Nat) : Int) = (p : Int) - (q : Int) := by omega
  rw [he]
  unfold execOp
  simp only [ho, hx, hy]
  go_simp

theorem run_remR {o : Oper} {a : Act} (x : Operand) (ho : o.op = .binOp .rem 3 x (.const (.int .i64 4)) 3) (k : Nat) (hx : a.eval x = .int .i64 (k : Nat)) (h : k ≤ 60) (w : World) :
    (execOp a.eval o).run Try.prog w = .ok (.value (.int .i64 ((k % 4 : Nat) : Int))) w := by
  have h0 : (0 : Int) ≤ (k : Int) := by omega
  unfold execOp
  simp only [ho, hx]
  go_simp
  exact Int.tmod_eq_emod_of_nonneg h0

theorem run_store_u8 {o : Oper} {a : Act} (x y : Operand) (ho : o.op = .store 5 x y) (g off : Nat) (hx : a.eval x = .pointer (some ⟨g, off, none⟩)) (p : Nat) (hy : a.eval y = .int .u8 (p : Nat)) (w : World) {v : Value} (h : w.cell? ⟨g, off, none⟩ = some v) (hf : w.frozen? ⟨g, off, none⟩ = false) :
    (execOp a.eval o).run Try.prog w = .ok .skip (w.setCell ⟨g, off, none⟩ (.int .u8 (p : Nat))) := by
  unfold execOp
  simp only [ho, hx, hy]
  go_simp

set_option maxRecDepth 100000 in
theorem added_any (s K : Nat → Nat) (g n c k : Nat) (w : World) (hs : Byt s) (hK : ∀ j, K j < 256) (hg : g < w.heap.size) (hk : k ≤ 14) (hn : 16 * k + 16 ≤ n) (hc : ∀ j, j < n → w.cell? ⟨g, j, none⟩ = some (.int .u8 (K j : Nat))) :
    Calls Try.prog 35 #[.agg (cellsN .u8 16 s), .slice (some ⟨g, 0, none⟩) n c, .int .i64 k] w fun e w' => e = .returned (.agg (cellsN .u8 16 (xorS s (rk K k)))) ∧ Below w.heap.size w w' := by
  go_enter Try.func35, Try.ntmps35
  go_wp2
  go_loopw [7] (fun i wr => ∃ t : Nat, t ≤ 16 ∧ i = .int .i64 t ∧ Has wr w.heap.size 23 (cellsN .u8 16 (upTo s (xorS s (rk K k)) t)) ∧ Has wr (w.heap.size + 1) 23 (cellsN .u8 16 fun _ => 0) ∧ Below w.heap.size w wr)
    (fun i _ => 16 - (intOf i).toNat)
  case atStart => exact ⟨0, Nat.zero_le _, rfl, by rw [upTo_zero]; exact (Has.new w _ _).alloc _, Has.new_at (by simp), two_below _ _ _⟩
  case round =>
    obtain ⟨t, ht, rfl, hS, hR, hbel⟩ := hrel
    by_cases hlt : t < 16
    · have c1 := hS.num t hlt
      rw [upTo_at] at c1
      have f1 := hS.free t
      have c2 := (hbel.cell (p := ⟨g, 16 * k + t, none⟩) hg).trans (hc (16 * k + t) (by omega))
      have hx := x8 (hs t hlt) (hK (16 * k + t))
      have i1 : (t : Int) < 16 := by omega
      have i0 : (0 : Int) ≤ (t : Int) := by omega
      have i2 : (16 : Int) * (k : Int) + (t : Int) < (n : Int) := by omega
      have i3 : (0 : Int) ≤ (16 : Int) * (k : Int) + (t : Int) := by omega
      go_wp2_with fail
      go_region
      go_wp2
      go_roundw
      case rel =>
        refine ⟨t + 1, by omega, by go_num, ?_, hR.other (by simp) _, (hbel.setCell (by simp) _).drew⟩
        have := hS.set t (xorS s (rk K k) t)
        rw [upTo_next] at this
        exact this
      case measure => simp [intOf]; omega
    · obtain rfl : t = 16 := by omega
      have hN := hR.setRow (cellsN .u8 16 (upTo s (xorS s (rk K k)) 16))
      go_wp2_with (first
        | (refine wpList_load_row rfl 23 _ rfl w.heap.size rfl 23 _ (0, 0) _ hS Try.underlying23 rfl (by rw [cellsN_size]; exact Try.size23) ?_)
        | (refine wpList_store_row rfl 23 _ _ rfl (w.heap.size + 1) (cellsN .u8 16 (upTo s (xorS s (rk K k)) 16)) rfl rfl 23 _ hR (by rw [cellsN_size]; exact Try.size23) (by simp [cellsN_size]) (cellsN_one _ _ _) ?_))
      refine bodyPost_ret (results_cell_row rfl _ _ (w.heap.size + 1) 23 _ (0, 0) _ rfl hN Try.underlying23 rfl (by rw [cellsN_size]; exact Try.size23)) rfl ⟨?_, below_setRow hbel (by omega) _⟩
      rw [upTo_all]

/-- The first k products, summed. -/
def pacc (F v : Nat → Nat) (r : Nat) : Nat → Nat
  | 0 => 0
  | k + 1 => pacc F v r k ^^^ mulN (F ((k + 4 - r) % 4)) (v k)

theorem pacc_4 (F v : Nat → Nat) (r : Nat) : pacc F v r 4 = mixF F v r := rfl

/-- What mixed has laid at (c, r, k). -/
def outS (F s : Nat → Nat) (c r k j : Nat) : Nat := if j < 4 * c + r then colS (mixF F) s j else if j = 4 * c + r then pacc F (fun i => s (4 * c + i)) r k else 0

theorem outS_r (F s : Nat → Nat) (c r : Nat) (hr : r < 4) : outS F s c r 4 = outS F s c (r + 1) 0 := by
  funext j
  unfold outS
  by_cases h1 : j < 4 * c + r
  · rw [if_pos h1, if_pos (by omega)]
  · rw [if_neg h1]
    by_cases h2 : j = 4 * c + r
    · rw [if_pos h2, if_pos (by omega), pacc_4]
      unfold colS
      rw [show j / 4 = c by omega, show j % 4 = r by omega]
    · rw [if_neg h2, if_neg (by omega)]
      by_cases h3 : j = 4 * c + (r + 1)
      · rw [if_pos h3]; rfl
      · rw [if_neg h3]

theorem outS_c (F s : Nat → Nat) (c : Nat) : outS F s c 4 0 = outS F s (c + 1) 0 0 := by
  funext j
  unfold outS
  rw [show 4 * c + 4 = 4 * (c + 1) + 0 by omega]
  split
  · rfl
  · split <;> rfl

theorem outS_k (F s : Nat → Nat) (c r k : Nat) : upd (outS F s c r k) (4 * c + r) (pacc F (fun i => s (4 * c + i)) r k ^^^ mulN (F ((k + 4 - r) % 4)) (s (4 * c + k))) = outS F s c r (k + 1) := by
  funext j
  unfold upd outS
  by_cases e : j = 4 * c + r
  · rw [if_pos e, if_neg (by omega), if_pos e]; rfl
  · rw [if_neg e, if_neg e, if_neg e]

theorem outS_0 (F s : Nat → Nat) : outS F s 0 0 0 = fun _ => 0 := by
  funext j
  unfold outS
  rw [if_neg (by omega)]
  split <;> rfl

theorem outS_at (F s : Nat → Nat) (c r k : Nat) : outS F s c r k (4 * c + r) = pacc F (fun i => s (4 * c + i)) r k := by
  unfold outS
  rw [if_neg (by omega), if_pos rfl]

theorem pacc_lt (F v : Nat → Nat) (hF : ∀ j, j < 4 → F j < 256) (hv : ∀ j, j < 4 → v j < 256) (r : Nat) (hr : r < 4) : ∀ k, k ≤ 4 → pacc F v r k < 256
  | 0, _ => by show 0 < 256; decide
  | k + 1, h => xor8 (pacc_lt F v hF hv r hr k (by omega)) (mulN_lt _ _ (hF _ (Nat.mod_lt _ (by decide))) (hv k (by omega)))

def MIn (w : World) (s F : Nat → Nat) (c r k : Nat) (wr : World) : Prop :=
  Has wr w.heap.size 23 (cellsN .u8 16 s) ∧ Has wr (w.heap.size + 1) 58 (cellsN .u8 4 F) ∧ Has wr (w.heap.size + 1 + 1) 23 (cellsN .u8 16 fun _ => 0) ∧ Has wr (w.heap.size + 1 + 1 + 1) 23 (cellsN .u8 16 (outS F s c r k)) ∧ Below w.heap.size w wr

set_option maxRecDepth 100000 in
set_option maxHeartbeats 1600000 in
theorem mixed_any (s F : Nat → Nat) (w : World) (hs : Byt s) (hF : ∀ j, j < 4 → F j < 256) :
    Calls Try.prog 36 #[.agg (cellsN .u8 16 s), .agg (cellsN .u8 4 F)] w fun e w' => e = .returned (.agg (cellsN .u8 16 (colS (mixF F) s))) ∧ Below w.heap.size w w' := by
  go_enter Try.func36, Try.ntmps36
  go_wp2
  go_loopw [6] (fun i wr => ∃ c : Nat, c ≤ 4 ∧ i = .int .i64 c ∧ MIn w s F c 0 0 wr)
    (fun i _ => 4 - (intOf i).toNat)
  case atStart => exact ⟨0, Nat.zero_le _, rfl, (((Has.new w _ _).alloc _).alloc _).alloc _, ((Has.new_at (by simp)).alloc _).alloc _, (Has.new_at (by simp)).alloc _, by rw [outS_0]; exact Has.new_at (by simp), (three_below w _ _ _).alloc (by simp; omega) _⟩
  case round =>
    obtain ⟨c, hc, rfl, hI⟩ := hrel
    by_cases hcl : c < 4
    · have ic : (c : Int) < 4 := by omega
      go_wp2
      go_loopw [7] (fun i wr => ∃ r : Nat, r ≤ 4 ∧ i = .int .i64 r ∧ MIn w s F c r 0 wr)
        (fun i _ => 4 - (intOf i).toNat)
      case atStart => exact ⟨0, Nat.zero_le _, rfl, hI⟩
      case round =>
        clear hI
        obtain ⟨r, hr, rfl, hI⟩ := hrel
        by_cases hrl : r < 4
        · have ir : (r : Int) < 4 := by omega
          go_wp2
          go_loopw [8] (fun i wr => ∃ k : Nat, k ≤ 4 ∧ i = .int .i64 k ∧ MIn w s F c r k wr)
            (fun i _ => 4 - (intOf i).toNat)
          case atStart => exact ⟨0, Nat.zero_le _, rfl, hI⟩
          case round =>
            clear hI
            obtain ⟨k, hk, rfl, hI⟩ := hrel
            by_cases hkl : k < 4
            · have ik : (k : Int) < 4 := by omega
              obtain ⟨acc, hacce⟩ : ∃ acc, acc = pacc F (fun i => s (4 * c + i)) r k := ⟨_, rfl⟩
              have hacc : acc < 256 := by rw [hacce]; exact pacc_lt F _ hF (fun j hj => hs _ (by omega)) r hrl k (by omega)
              have d1 : wr.drew.cell? ⟨w.heap.size + 1 + 1 + 1, r + 4 * c, none⟩ = some (.int .u8 (acc : Nat)) := by
                have := Has.num (w := wr.drew) hI.2.2.2.1 (4 * c + r) (by omega)
                rw [outS_at, ← hacce] at this
                rw [Nat.add_comm r (4 * c)]
                exact this
              have d2 := Has.num (w := wr.drew) hI.2.1 ((k + 4 - r) % 4) (Nat.mod_lt _ (by decide))
              have d3 := Has.num (w := wr.drew) hI.1 (k + 4 * c) (by omega)
              have d4 := Has.free (w := wr.drew) hI.2.2.2.1 (r + 4 * c)
              go_wp2_with fail
              refine lastTo (S := fun w' => w'.cell? ⟨w.heap.size + 1 + 1 + 1, r + 4 * c, none⟩ = some (.int .u8 (acc : Nat)) ∧ w'.cell? ⟨w.heap.size + 1, (k + 4 - r) % 4, none⟩ = some (.int .u8 (F ((k + 4 - r) % 4) : Nat)) ∧ w'.cell? ⟨w.heap.size, k + 4 * c, none⟩ = some (.int .u8 (s (k + 4 * c) : Nat))) 26 (by kernel_rfl) ⟨d1, d2, d3⟩ (fun hHeld => ?_)
              refine takeL 0 (some 21) (.int .i64 ((r : Nat) : Int)) rfl rfl (by decide) (by kernel_rfl) (by kernel_rfl) (by kernel_rfl) (by kernel_rfl) (fun _ _ _ h => h) (by rfl) (fun _ _ => rfl) hHeld ?_
              simp only [Act.put, List.setIfInBounds_toArray, List.set_cons_zero, List.set_cons_succ]
              refine takeL 1 (some 22) (.int .i64 ((c : Nat) : Int)) rfl rfl (by decide) (by kernel_rfl) (by kernel_rfl) (by kernel_rfl) (by kernel_rfl) (fun _ _ _ h => h) (by rfl) (fun _ _ => rfl) hHeld ?_
              simp only [Act.put, List.setIfInBounds_toArray, List.set_cons_zero, List.set_cons_succ]
              refine takeL 2 (some 23) (.int .i64 ((4 * c : Nat) : Int)) rfl rfl (by decide) (by kernel_rfl) (by kernel_rfl) (by kernel_rfl) (by kernel_rfl) (fun _ _ _ h => h) (by rfl) (fun wz _ => run_4mul _ rfl c rfl (by omega) wz) hHeld ?_
              simp only [Act.put, List.setIfInBounds_toArray, List.set_cons_zero, List.set_cons_succ]
              refine takeL 3 (some 24) (.int .i64 ((r + 4 * c : Nat) : Int)) rfl rfl (by decide) (by kernel_rfl) (by kernel_rfl) (by kernel_rfl) (by kernel_rfl) (fun _ _ _ h => h) (by rfl) (fun wz _ => run_addN _ _ rfl r (4 * c) rfl rfl (by omega) (by omega) wz) hHeld ?_
              simp only [Act.put, List.setIfInBounds_toArray, List.set_cons_zero, List.set_cons_succ]
              refine takeL 4 (some 25) (.int .i64 ((r : Nat) : Int)) rfl rfl (by decide) (by kernel_rfl) (by kernel_rfl) (by kernel_rfl) (by kernel_rfl) (fun _ _ _ h => h) (by rfl) (fun _ _ => rfl) hHeld ?_
              simp only [Act.put, List.setIfInBounds_toArray, List.set_cons_zero, List.set_cons_succ]
              refine takeL 5 (some 26) (.int .i64 ((c : Nat) : Int)) rfl rfl (by decide) (by kernel_rfl) (by kernel_rfl) (by kernel_rfl) (by kernel_rfl) (fun _ _ _ h => h) (by rfl) (fun _ _ => rfl) hHeld ?_
              simp only [Act.put, List.setIfInBounds_toArray, List.set_cons_zero, List.set_cons_succ]
              refine takeL 6 (some 27) (.int .i64 ((4 * c : Nat) : Int)) rfl rfl (by decide) (by kernel_rfl) (by kernel_rfl) (by kernel_rfl) (by kernel_rfl) (fun _ _ _ h => h) (by rfl) (fun wz _ => run_4mul _ rfl c rfl (by omega) wz) hHeld ?_
              simp only [Act.put, List.setIfInBounds_toArray, List.set_cons_zero, List.set_cons_succ]
              refine takeL 7 (some 28) (.int .i64 ((r + 4 * c : Nat) : Int)) rfl rfl (by decide) (by kernel_rfl) (by kernel_rfl) (by kernel_rfl) (by kernel_rfl) (fun _ _ _ h => h) (by rfl) (fun wz _ => run_addN _ _ rfl r (4 * c) rfl rfl (by omega) (by omega) wz) hHeld ?_
              simp only [Act.put, List.setIfInBounds_toArray, List.set_cons_zero, List.set_cons_succ]
              refine takeL 8 (some 29) (.pointer (some ⟨w.heap.size + 1 + 1 + 1, 0 + (r + 4 * c), none⟩)) rfl rfl (by decide) (by kernel_rfl) (by kernel_rfl) (by kernel_rfl) (by kernel_rfl) (fun _ _ _ h => h) (by rfl) (fun wz _ => run_indexK .i64 23 _ _ rfl (w.heap.size + 1 + 1 + 1) 0 (r + 4 * c) 16 5 rfl rfl Try.underlying23 one_u8 (by omega) wz) hHeld ?_
              simp only [Act.put, List.setIfInBounds_toArray, List.set_cons_zero, List.set_cons_succ]
              refine takeL 9 (some 30) (.int .u8 (acc : Nat)) rfl rfl (by decide) (by kernel_rfl) (by kernel_rfl) (by kernel_rfl) (by kernel_rfl) (fun _ _ _ h => h) (by rfl) (fun wz hz => run_load_u8 _ rfl (w.heap.size + 1 + 1 + 1) (0 + (r + 4 * c)) rfl _ wz (by rw [Nat.zero_add]; exact hz.1)) hHeld ?_
              simp only [Act.put, List.setIfInBounds_toArray, List.set_cons_zero, List.set_cons_succ]
              refine takeL 10 (some 31) (.int .i64 ((k : Nat) : Int)) rfl rfl (by decide) (by kernel_rfl) (by kernel_rfl) (by kernel_rfl) (by kernel_rfl) (fun _ _ _ h => h) (by rfl) (fun _ _ => rfl) hHeld ?_
              simp only [Act.put, List.setIfInBounds_toArray, List.set_cons_zero, List.set_cons_succ]
              refine takeL 11 (some 32) (.int .i64 ((k + 4 : Nat) : Int)) rfl rfl (by decide) (by kernel_rfl) (by kernel_rfl) (by kernel_rfl) (by kernel_rfl) (fun _ _ _ h => h) (by rfl) (fun wz _ => run_addN _ _ rfl k 4 rfl rfl (by omega) (by omega) wz) hHeld ?_
              simp only [Act.put, List.setIfInBounds_toArray, List.set_cons_zero, List.set_cons_succ]
              refine takeL 12 (some 33) (.int .i64 ((r : Nat) : Int)) rfl rfl (by decide) (by kernel_rfl) (by kernel_rfl) (by kernel_rfl) (by kernel_rfl) (fun _ _ _ h => h) (by rfl) (fun _ _ => rfl) hHeld ?_
              simp only [Act.put, List.setIfInBounds_toArray, List.set_cons_zero, List.set_cons_succ]
              refine takeL 13 (some 34) (.int .i64 ((k + 4 - r : Nat) : Int)) rfl rfl (by decide) (by kernel_rfl) (by kernel_rfl) (by kernel_rfl) (by kernel_rfl) (fun _ _ _ h => h) (by rfl) (fun wz _ => run_subN _ _ rfl (k + 4) r rfl rfl (by omega) (by omega) wz) hHeld ?_
              simp only [Act.put, List.setIfInBounds_toArray, List.set_cons_zero, List.set_cons_succ]
              refine takeL 14 (some 35) (.int .i64 (((k + 4 - r) % 4 : Nat) : Int)) rfl rfl (by decide) (by kernel_rfl) (by kernel_rfl) (by kernel_rfl) (by kernel_rfl) (fun _ _ _ h => h) (by rfl) (fun wz _ => run_remR _ rfl (k + 4 - r) rfl (by omega) wz) hHeld ?_
              simp only [Act.put, List.setIfInBounds_toArray, List.set_cons_zero, List.set_cons_succ]
              refine takeL 15 (some 36) (.pointer (some ⟨w.heap.size + 1, 0 + (k + 4 - r) % 4, none⟩)) rfl rfl (by decide) (by kernel_rfl) (by kernel_rfl) (by kernel_rfl) (by kernel_rfl) (fun _ _ _ h => h) (by rfl) (fun wz _ => run_indexK .i64 58 _ _ rfl (w.heap.size + 1) 0 ((k + 4 - r) % 4) 4 5 rfl rfl Try.underlying58 one_u8 (by omega) wz) hHeld ?_
              simp only [Act.put, List.setIfInBounds_toArray, List.set_cons_zero, List.set_cons_succ]
              refine takeL 16 (some 37) (.int .u8 (F ((k + 4 - r) % 4) : Nat)) rfl rfl (by decide) (by kernel_rfl) (by kernel_rfl) (by kernel_rfl) (by kernel_rfl) (fun _ _ _ h => h) (by rfl) (fun wz hz => run_load_u8 _ rfl (w.heap.size + 1) (0 + (k + 4 - r) % 4) rfl _ wz (by rw [Nat.zero_add]; exact hz.2.1)) hHeld ?_
              simp only [Act.put, List.setIfInBounds_toArray, List.set_cons_zero, List.set_cons_succ]
              refine takeL 17 (some 38) (.int .i64 ((k : Nat) : Int)) rfl rfl (by decide) (by kernel_rfl) (by kernel_rfl) (by kernel_rfl) (by kernel_rfl) (fun _ _ _ h => h) (by rfl) (fun _ _ => rfl) hHeld ?_
              simp only [Act.put, List.setIfInBounds_toArray, List.set_cons_zero, List.set_cons_succ]
              refine takeL 18 (some 39) (.int .i64 ((c : Nat) : Int)) rfl rfl (by decide) (by kernel_rfl) (by kernel_rfl) (by kernel_rfl) (by kernel_rfl) (fun _ _ _ h => h) (by rfl) (fun _ _ => rfl) hHeld ?_
              simp only [Act.put, List.setIfInBounds_toArray, List.set_cons_zero, List.set_cons_succ]
              refine takeL 19 (some 40) (.int .i64 ((4 * c : Nat) : Int)) rfl rfl (by decide) (by kernel_rfl) (by kernel_rfl) (by kernel_rfl) (by kernel_rfl) (fun _ _ _ h => h) (by rfl) (fun wz _ => run_4mul _ rfl c rfl (by omega) wz) hHeld ?_
              simp only [Act.put, List.setIfInBounds_toArray, List.set_cons_zero, List.set_cons_succ]
              refine takeL 20 (some 41) (.int .i64 ((k + 4 * c : Nat) : Int)) rfl rfl (by decide) (by kernel_rfl) (by kernel_rfl) (by kernel_rfl) (by kernel_rfl) (fun _ _ _ h => h) (by rfl) (fun wz _ => run_addN _ _ rfl k (4 * c) rfl rfl (by omega) (by omega) wz) hHeld ?_
              simp only [Act.put, List.setIfInBounds_toArray, List.set_cons_zero, List.set_cons_succ]
              refine takeL 21 (some 42) (.pointer (some ⟨w.heap.size, 0 + (k + 4 * c), none⟩)) rfl rfl (by decide) (by kernel_rfl) (by kernel_rfl) (by kernel_rfl) (by kernel_rfl) (fun _ _ _ h => h) (by rfl) (fun wz _ => run_indexK .i64 23 _ _ rfl w.heap.size 0 (k + 4 * c) 16 5 rfl rfl Try.underlying23 one_u8 (by omega) wz) hHeld ?_
              simp only [Act.put, List.setIfInBounds_toArray, List.set_cons_zero, List.set_cons_succ]
              refine takeL 22 (some 43) (.int .u8 (s (k + 4 * c) : Nat)) rfl rfl (by decide) (by kernel_rfl) (by kernel_rfl) (by kernel_rfl) (by kernel_rfl) (fun _ _ _ h => h) (by rfl) (fun wz hz => run_load_u8 _ rfl w.heap.size (0 + (k + 4 * c)) rfl _ wz (by rw [Nat.zero_add]; exact hz.2.2)) hHeld ?_
              simp only [Act.put, List.setIfInBounds_toArray, List.set_cons_zero, List.set_cons_succ]
              refine callL 23 (some 44) 29 #[.int .u8 (F ((k + 4 - r) % 4) : Nat), .int .u8 (s (k + 4 * c) : Nat)] (by kernel_rfl) rfl rfl (by decide) (by rfl) (by kernel_rfl) (mul_any _ _ _ (hF _ (by omega)) (hs _ (by omega))) ?_
              rintro e w' ⟨rfl, rfl⟩
              refine ⟨_, rfl, hHeld, ?_⟩
              simp only [Act.put, List.setIfInBounds_toArray, List.set_cons_zero, List.set_cons_succ]
              refine takeL 24 (some 45) (.int .u8 ((acc ^^^ mulN (F ((k + 4 - r) % 4)) (s (k + 4 * c)) : Nat) : Int)) rfl rfl (by decide) (by kernel_rfl) (by kernel_rfl) (by kernel_rfl) (by kernel_rfl) (fun _ _ _ h => h) (by rfl) (fun wz _ => run_xor8 _ _ rfl acc _ rfl rfl hacc (mulN_lt _ _ (hF _ (by omega)) (hs _ (by omega))) wz) hHeld ?_
              simp only [Act.put, List.setIfInBounds_toArray, List.set_cons_zero, List.set_cons_succ]
              refine takeL 25 (some 46) (.pointer (some ⟨w.heap.size + 1 + 1 + 1, 0 + (r + 4 * c), none⟩)) rfl rfl (by decide) (by kernel_rfl) (by kernel_rfl) (by kernel_rfl) (by kernel_rfl) (fun _ _ _ h => h) (by rfl) (fun wz _ => run_indexK .i64 23 _ _ rfl (w.heap.size + 1 + 1 + 1) 0 (r + 4 * c) 16 5 rfl rfl Try.underlying23 one_u8 (by omega) wz) hHeld ?_
              simp only [Act.put, List.setIfInBounds_toArray, List.set_cons_zero, List.set_cons_succ]
              refine lastSkip 26 none (wr.drew.setCell ⟨w.heap.size + 1 + 1 + 1, 0 + (r + 4 * c), none⟩ (.int .u8 ((acc ^^^ mulN (F ((k + 4 - r) % 4)) (s (k + 4 * c)) : Nat) : Int))) (by kernel_rfl) rfl rfl (by rfl) (run_store_u8 _ _ rfl (w.heap.size + 1 + 1 + 1) (0 + (r + 4 * c)) rfl _ rfl _ (by rw [Nat.zero_add]; exact d1) (by rw [Nat.zero_add]; exact d4)) (by kernel_rfl) ?_
              rw [Nat.zero_add (r + 4 * c)]
              simp only [Act.put]
              have hI2 : MIn w s F c r (k + 1) (wr.drew.setCell ⟨w.heap.size + 1 + 1 + 1, r + 4 * c, none⟩ (.int .u8 ((acc ^^^ mulN (F ((k + 4 - r) % 4)) (s (k + 4 * c)) : Nat) : Int))) := by
                refine ⟨Has.other (w := wr.drew) hI.1 (by show w.heap.size ≠ w.heap.size + 1 + 1 + 1; omega) _, Has.other (w := wr.drew) hI.2.1 (by show w.heap.size + 1 ≠ w.heap.size + 1 + 1 + 1; omega) _, Has.other (w := wr.drew) hI.2.2.1 (by show w.heap.size + 1 + 1 ≠ w.heap.size + 1 + 1 + 1; omega) _, ?_, (hI.2.2.2.2.drew).setCell (by show w.heap.size ≤ w.heap.size + 1 + 1 + 1; omega) _⟩
                have := Has.set (w := wr.drew) hI.2.2.2.1 (4 * c + r) (acc ^^^ mulN (F ((k + 4 - r) % 4)) (s (4 * c + k)))
                rw [hacce, outS_k] at this
                rw [Nat.add_comm r (4 * c), Nat.add_comm k (4 * c), hacce]
                exact this
              obtain ⟨w9, hw9⟩ : ∃ x, x = wr.drew.setCell ⟨w.heap.size + 1 + 1 + 1, r + 4 * c, none⟩ (.int .u8 ((acc ^^^ mulN (F ((k + 4 - r) % 4)) (s (k + 4 * c)) : Nat) : Int)) := ⟨_, rfl⟩
              rw [← hw9] at hI2 ⊢
              clear hw9 d1 d2 d3 d4 hHeld hI hacce
              go_wp2
              go_roundw
              case rel => exact ⟨k + 1, by omega, by go_num, hI2⟩
              case measure => simp [intOf]; omega
            · obtain rfl : k = 4 := by omega
              have hI2 : MIn w s F c (r + 1) 0 wr := by unfold MIn at hI ⊢; rw [← outS_r F s c r hrl]; exact hI
              go_wp2
              go_roundw
              case rel => exact ⟨r + 1, by omega, by go_num, hI2⟩
              case measure => simp [intOf]; omega
        · obtain rfl : r = 4 := by omega
          have hI2 : MIn w s F (c + 1) 0 0 wr := by unfold MIn at hI ⊢; rw [← outS_c F s c]; exact hI
          go_wp2
          go_roundw
          case rel => exact ⟨c + 1, by omega, by go_num, hI2⟩
          case measure => simp [intOf]; omega
    · obtain rfl : c = 4 := by omega
      obtain ⟨_, _, hR, hO, hbel⟩ := hI
      rw [cellsN_congr .u8 16 (outS F s 4 0 0) (colS (mixF F) s) (fun j hj => by unfold outS; rw [if_pos (by omega)])] at hO
      have hN := hR.setRow (cellsN .u8 16 (colS (mixF F) s))
      go_wp2_with (first
        | (refine wpList_load_row rfl 23 _ rfl (w.heap.size + 1 + 1 + 1) rfl 23 _ (0, 0) _ hO Try.underlying23 rfl (by rw [cellsN_size]; exact Try.size23) ?_)
        | (refine wpList_store_row rfl 23 _ _ rfl (w.heap.size + 1 + 1) (cellsN .u8 16 (colS (mixF F) s)) rfl rfl 23 _ hR (by rw [cellsN_size]; exact Try.size23) (by simp [cellsN_size]) (cellsN_one _ _ _) ?_))
      exact bodyPost_ret (results_cell_row rfl _ _ (w.heap.size + 1 + 1) 23 _ (0, 0) _ rfl hN Try.underlying23 rfl (by rw [cellsN_size]; exact Try.size23)) rfl ⟨rfl, below_setRow hbel (by omega) _⟩
end Go.Proofs.Ytcnlegnfecpdnaa
