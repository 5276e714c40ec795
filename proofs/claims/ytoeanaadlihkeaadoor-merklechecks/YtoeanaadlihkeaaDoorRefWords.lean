/- The reference's words: the schedule of a block. -/
import Derived.Test.YtoeanaadlihkeaaDoorRefTurn
import Derived.Test.YtoeanaadlihkeaaDoorShaBl
import Derived.Deep.RegionHeld3
namespace Go.Proofs.YtoeanaadlihkeaaDoor
open Go.ChangeShapes Go.WideShapes Go.ChangeAt Go.RowKit
set_option linter.unusedVariables false

def wl (f : Nat → Nat) (n : Nat) : List Value := (List.range n).map fun j => Value.int .u32 (f j : Nat)

theorem wl_len (f : Nat → Nat) (n : Nat) : (wl f n).length = n * 1 := by simp [wl]
theorem wl_get (f : Nat → Nat) (n j : Nat) (h : j < n) : (wl f n)[j]? = some (.int .u32 (f j : Nat)) := by simp [wl, h]

theorem wl_snoc (f : Nat → Nat) (n y : Nat) : wl f n ++ [.int .u32 (y : Nat)] = wl (upd f n y) (n + 1) := by
  unfold wl
  rw [List.range_succ, List.map_append]
  congr 1
  · apply List.map_congr_left
    intro j hj
    have : j < n := by simpa using hj
    simp [upd, show ¬ j = n from by omega]
  · simp [upd]

theorem wl_congr (f g : Nat → Nat) (n : Nat) (h : ∀ j, j < n → f j = g j) : wl f n = wl g n := by
  unfold wl
  apply List.map_congr_left
  intro j hj
  rw [h j (by simpa using hj)]

theorem Tryd.info57 : (Tryd.prog.info? 57).map (fun i => (i.zero, i.size, i.bytes)) = some (some (.int .u32 0), 1, 4) := by kernel_rfl

/-- One word appended: the row grows by it, and what it held stays. -/
theorem run_append_word (w : World) (base : Nat) (v : Value) (n : Nat) (f : Nat → Nat) (hown : w.ownsRow base 57 1 v n (wl f n)) (gx c y : Nat) (hy : w.cell? ⟨gx, 0, none⟩ = some (.int .u32 (y : Nat))) (h63 : n + 1 ≤ 1000) (hbase : base ≤ w.heap.size) :
    ∃ v' w', (∀ ty, (Builtin.append_ #[69, 69] ty #[v, .slice (some ⟨gx, 0, none⟩) 1 c]).run Tryd.prog w = .ok v' w') ∧ w'.ownsRow base 57 1 v' (n + 1) (wl (upd f n y) (n + 1)) ∧ w.grownBy w' v.ownBlock ∧
      ∀ g a, v.ownBlock = some g → a < n → w'.cell? ⟨g, a, none⟩ = some (.int .u32 (f a : Nat)) := by
  obtain ⟨i, hi, hz, hsize, hby⟩ := info_parts Tryd.info57
  have hl : [Value.int .u32 (y : Nat)].length = 1 * 1 := rfl
  have hnews : ∀ j u, [Value.int .u32 (y : Nat)][j]? = some u → w.cell? ((⟨gx, 0, none⟩ : Addr).add j) = some u := by
    intro j u hj
    cases j with
    | zero =>
      simp at hj
      subst hj
      simpa [Addr.add] using hy
    | succ j => simp at hj
  have h1 : ∀ u ∈ [Value.int .u32 (y : Nat)], u.oneCell' = true := by
    intro u hu
    simp at hu
    subst hu
    rfl
  obtain ⟨v', w', hr, h2, h3, _⟩ := run_append_own (P := Tryd.prog) w base 69 0 57 i (.int .u32 0) 1 4 Tryd.underlying69 hi hz hsize hby rfl (by decide) v n _ hown ⟨gx, 0, none⟩ 1 c [.int .u32 (y : Nat)] hl hnews h1 (by unfold maxLen; omega) (by omega) hbase
  rw [wl_snoc] at h2
  refine ⟨v', w', fun ty => hr, h2, h3, ?_⟩
  intro g a hg ha
  rcases hown.2 with ⟨rfl, rfl⟩ | ⟨g0, cap, cur, rfl, hbg, hgg, hnc, hcm, hcs, htake⟩
  · cases hg
  · obtain rfl : g0 = g := Option.some.inj hg
    have hold : w.cell? ⟨g0, a, none⟩ = some (.int .u32 (f a : Nat)) := by rw [hown.cellAt a (by omega)]; exact wl_get f n a ha
    by_cases hroom : n + 1 ≤ cap
    · have hfit : n * i.size + [Value.int .u32 (y : Nat)].length ≤ cur.size := by rw [hsize, hcs]; simp; omega
      have hr2 := run_append_room (P := Tryd.prog) w 69 0 57 i Tryd.underlying69 hi g0 n cap cur hgg ⟨gx, 0, none⟩ 1 c [.int .u32 (y : Nat)] (by rw [hsize]; rfl) hnews h1 hroom hfit
      rw [hr2] at hr
      obtain ⟨rfl, rfl⟩ : _ ∧ _ := by simpa using hr
      rw [h2.cellAt a (by omega)]
      rw [wl_get _ _ _ (by omega)]
      simp [upd, show ¬ a = n from by omega]
    · have holds : ∀ j u, (wl f n)[j]? = some u → w.cell? ((⟨g0, 0, none⟩ : Addr).add j) = some u := hown.cells (g := g0) rfl
      have hr2 := run_append_grow (P := Tryd.prog) w 69 0 57 i (.int .u32 0) Tryd.underlying69 hi hz ⟨g0, 0, none⟩ n cap (wl f n) (by rw [hsize]; exact hown.1) holds ⟨gx, 0, none⟩ 1 c [.int .u32 (y : Nat)] (by rw [hsize]; rfl) hnews (by omega) (by omega) (growslice_fits (by omega) (by rw [hby]; omega))
      rw [hr2] at hr
      obtain ⟨rfl, rfl⟩ : _ ∧ _ := by simpa using hr
      have hlt : g0 < w.heap.size := (Array.getElem?_eq_some_iff.1 hgg).1
      exact (((Below.refl w.heap.size w).drew.alloc (Nat.le_refl _) _).cell (show (⟨g0, a, none⟩ : Addr).block < w.heap.size from hlt)).trans hold

/-- One word appended, as a step of a region that draws its order. -/
theorem step_append_word {ops : Array Oper} {o : Oper} {a : Act} {w : World} {F : Act → World → Prop} {Q : Exit → Act → World → Prop} {E : Prop} (hgd : o.guard = none) (s x : Operand)
    (ho : o.op = .call { callee := .builtin .append, args := #[s, x], argTypes := #[69, 69] }) (base : Nat) (v : Value) (n : Nat) (f : Nat → Nat) (hs : a.eval s = v) (hown : w.ownsRow base 57 1 v n (wl f n))
    (g c : Nat) (hx : a.eval x = .slice (some ⟨g, 0, none⟩) 1 c) (y : Nat) (hy : w.cell? ⟨g, 0, none⟩ = some (.int .u32 (y : Nat))) (h63 : n + 1 ≤ 1000) (hbase : base ≤ w.heap.size)
    (h : ∀ v' w', w'.ownsRow base 57 1 v' (n + 1) (wl (upd f n y) (n + 1)) → w.grownBy w' v.ownBlock → (∀ g a, v.ownBlock = some g → a < n → w'.cell? ⟨g, a, none⟩ = some (.int .u32 (f a : Nat))) → F (a.put o.dst v') w') : if Region.wanted o (yielded ops a.tmps) = true then Oper.wp Tryd.prog o a w F Q else E := by
  have hw : Region.wanted o (yielded ops a.tmps) = true := by simp [Region.wanted, hgd]
  rw [if_pos hw]
  obtain ⟨v', w', hr, h1, h2, h3⟩ := run_append_word w base v n f hown g c y hy h63 hbase
  unfold Oper.wp execOp
  simp only [ho, resolve, invoke, builtin, Sem.run_bind, Sem.run_pure, Result.andThen_ok, List.map_toArray, List.map_cons, List.map_nil, hs, hx, hr]
  exact h v' w' h1 h2 h3

/-- A word, out of its four bytes, as the reference makes it. -/
theorem word4 (b0 b1 b2 b3 : Nat) (h0 : b0 < 256) (h1 : b1 < 256) (h2 : b2 < 256) (h3 : b3 < 256) :
    ((b0 * 2 ^ 24 % 4294967296 ||| b1 * 2 ^ 16 % 4294967296) ||| b2 * 2 ^ 8 % 4294967296) ||| b3 = (((0 * 256 % 4294967296 ||| b0) * 256 % 4294967296 ||| b1) * 256 % 4294967296 ||| b2) * 256 % 4294967296 ||| b3 := by
  have key : ∀ x y k : Nat, y < 2 ^ k → x * 2 ^ k ||| y = x * 2 ^ k + y := fun x y k h => by
    rw [Nat.mul_comm]
    exact (Nat.two_pow_add_eq_or_of_lt h x).symm
  have e0 : (0 * 256 % 4294967296 ||| b0) = b0 := by simp
  rw [e0]
  have r1 : b0 * 256 % 4294967296 ||| b1 = b0 * 256 + b1 := by
    rw [Nat.mod_eq_of_lt (by omega)]
    exact key b0 b1 8 h1
  have r2 : (b0 * 256 + b1) * 256 % 4294967296 ||| b2 = (b0 * 256 + b1) * 256 + b2 := by
    rw [Nat.mod_eq_of_lt (by omega)]
    exact key (b0 * 256 + b1) b2 8 h2
  have r3 : ((b0 * 256 + b1) * 256 + b2) * 256 % 4294967296 ||| b3 = ((b0 * 256 + b1) * 256 + b2) * 256 + b3 := by
    rw [Nat.mod_eq_of_lt (by omega)]
    exact key ((b0 * 256 + b1) * 256 + b2) b3 8 h3
  rw [r1, r2, r3]
  have l1 : b0 * 2 ^ 24 % 4294967296 ||| b1 * 2 ^ 16 % 4294967296 = b0 * 2 ^ 24 + b1 * 2 ^ 16 := by
    rw [Nat.mod_eq_of_lt (by omega), Nat.mod_eq_of_lt (by omega)]
    exact key b0 (b1 * 2 ^ 16) 24 (by omega)
  have l2 : b0 * 2 ^ 24 + b1 * 2 ^ 16 ||| b2 * 2 ^ 8 % 4294967296 = b0 * 2 ^ 24 + b1 * 2 ^ 16 + b2 * 2 ^ 8 := by
    rw [Nat.mod_eq_of_lt (by omega)]
    have := key (b0 * 256 + b1) (b2 * 2 ^ 8) 16 (by omega)
    rw [show b0 * 2 ^ 24 + b1 * 2 ^ 16 = (b0 * 256 + b1) * 2 ^ 16 from by omega]
    exact this
  have l3 : b0 * 2 ^ 24 + b1 * 2 ^ 16 + b2 * 2 ^ 8 ||| b3 = b0 * 2 ^ 24 + b1 * 2 ^ 16 + b2 * 2 ^ 8 + b3 := by
    have := key (b0 * 65536 + b1 * 256 + b2) b3 8 h3
    rw [show b0 * 2 ^ 24 + b1 * 2 ^ 16 + b2 * 2 ^ 8 = (b0 * 65536 + b1 * 256 + b2) * 2 ^ 8 from by omega]
    exact this
  rw [l1, l2, l3]
  omega
end Go.Proofs.YtoeanaadlihkeaaDoor
