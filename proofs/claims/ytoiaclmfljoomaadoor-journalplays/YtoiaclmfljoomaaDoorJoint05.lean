/- Texts that the statements of this stage share, joined: ObRefWords, ObRefSched, ObRefPad, ObRefOps. -/
import Derived.Test.YtoiaclmfljoomaaDoorJoint04
import Derived.Test.YtoiaclmfljoomaaDoorJoint01
import Derived.Deep.RegionHeld3
import Derived.Test.YtoiaclmfljoomaaDoorJoint00

/- The reference's words: the schedule of a block. -/
namespace Go.Proofs.YtoiaclmfljoomaaDoor
open Go.ChangeShapes Go.WideShapes Go.ChangeAt Go.RowKit
set_option linter.unusedVariables false

def wl (f : Nat → Nat) (n : Nat) : List Value := (List.range n).map fun j => Value.int .u32 (f j : Nat)

theorem wl_len (f : Nat → Nat) (n : Nat) : (wl f n).length = n * 1 := by simp [wl]
theorem wl_get (f : Nat → Nat) (n j : Nat) (h : j < n) : (wl f n)[j]? = some (.int .u32 (f j : Nat)) := by simp [wl, h]

theorem wl_snoc (f : Nat → Nat) (n y : Nat) : wl f n ++ [.int .u32 (y : Nat)] = wl (upd f n y) (n + 1) := by
  unfold wl
  rw [List.range_succ, List.map_append]
  congr 1
  · apply List.map_congr_left
    intro j hj
    have : j < n := by simpa using hj
    simp [upd, show ¬ j = n from by omega]
  · simp [upd]

theorem wl_congr (f g : Nat → Nat) (n : Nat) (h : ∀ j, j < n → f j = g j) : wl f n = wl g n := by
  unfold wl
  apply List.map_congr_left
  intro j hj
  rw [h j (by simpa using hj)]

theorem Tryd.info141 : (Tryd.prog.info? 141).map (fun i => (i.zero, i.size, i.bytes)) = some (some (.int .u32 0), 1, 4) := by kernel_rfl

/-- One word appended: the row grows by it, and what it held stays. -/
theorem run_append_word (w : World) (base : Nat) (v : Value) (n : Nat) (f : Nat → Nat) (hown : w.ownsRow base 141 1 v n (wl f n)) (gx c y : Nat) (hy : w.cell? ⟨gx, 0, none⟩ = some (.int .u32 (y : Nat))) (h63 : n + 1 ≤ 1000) (hbase : base ≤ w.heap.size) :
    ∃ v' w', (∀ ty, (Builtin.append_ #[145, 145] ty #[v, .slice (some ⟨gx, 0, none⟩) 1 c]).run Tryd.prog w = .ok v' w') ∧ w'.ownsRow base 141 1 v' (n + 1) (wl (upd f n y) (n + 1)) ∧ w.grownBy w' v.ownBlock ∧
      ∀ g a, v.ownBlock = some g → a < n → w'.cell? ⟨g, a, none⟩ = some (.int .u32 (f a : Nat)) := by
  obtain ⟨i, hi, hz, hsize, hby⟩ := info_parts Tryd.info141
  have hl : [Value.int .u32 (y : Nat)].length = 1 * 1 := rfl
  have hnews : ∀ j u, [Value.int .u32 (y : Nat)][j]? = some u → w.cell? ((⟨gx, 0, none⟩ : Addr).add j) = some u := by
    intro j u hj
    cases j with
    | zero =>
      simp at hj
      subst hj
      simpa [Addr.add] using hy
    | succ j => simp at hj
  have h1 : ∀ u ∈ [Value.int .u32 (y : Nat)], u.oneCell' = true := by
    intro u hu
    simp at hu
    subst hu
    rfl
  obtain ⟨v', w', hr, h2, h3, _⟩ := run_append_own (P := Tryd.prog) w base 145 0 141 i (.int .u32 0) 1 4 Tryd.underlying145 hi hz hsize hby rfl (by decide) v n _ hown ⟨gx, 0, none⟩ 1 c [.int .u32 (y : Nat)] hl hnews h1 (by unfold maxLen; omega) (by omega) hbase
  rw [wl_snoc] at h2
  refine ⟨v', w', fun ty => hr, h2, h3, ?_⟩
  intro g a hg ha
  rcases hown.2 with ⟨rfl, rfl⟩ | ⟨g0, cap, cur, rfl, hbg, hgg, hnc, hcm, hcs, htake⟩
  · cases hg
  · obtain rfl : g0 = g := Option.some.inj hg
    have hold : w.cell? ⟨g0, a, none⟩ = some (.int .u32 (f a : Nat)) := by rw [hown.cellAt a (by omega)]; exact wl_get f n a ha
    by_cases hroom : n + 1 ≤ cap
    · have hfit : n * i.size + [Value.int .u32 (y : Nat)].length ≤ cur.size := by rw [hsize, hcs]; simp; omega
      have hr2 := run_append_room (P := Tryd.prog) w 145 0 141 i Tryd.underlying145 hi g0 n cap cur hgg ⟨gx, 0, none⟩ 1 c [.int .u32 (y : Nat)] (by rw [hsize]; rfl) hnews h1 hroom hfit
      rw [hr2] at hr
      obtain ⟨rfl, rfl⟩ : _ ∧ _ := by simpa using hr
      rw [h2.cellAt a (by omega)]
      rw [wl_get _ _ _ (by omega)]
      simp [upd, show ¬ a = n from by omega]
    · have holds : ∀ j u, (wl f n)[j]? = some u → w.cell? ((⟨g0, 0, none⟩ : Addr).add j) = some u := hown.cells (g := g0) rfl
      have hr2 := run_append_grow (P := Tryd.prog) w 145 0 141 i (.int .u32 0) Tryd.underlying145 hi hz ⟨g0, 0, none⟩ n cap (wl f n) (by rw [hsize]; exact hown.1) holds ⟨gx, 0, none⟩ 1 c [.int .u32 (y : Nat)] (by rw [hsize]; rfl) hnews (by omega) (by omega) (growslice_fits (by omega) (by rw [hby]; omega))
      rw [hr2] at hr
      obtain ⟨rfl, rfl⟩ : _ ∧ _ := by simpa using hr
      have hlt : g0 < w.heap.size := (Array.getElem?_eq_some_iff.1 hgg).1
      exact (((Below.refl w.heap.size w).drew.alloc (Nat.le_refl _) _).cell (show (⟨g0, a, none⟩ : Addr).block < w.heap.size from hlt)).trans hold

/-- One word appended, as a step of a region that draws its order. -/
theorem step_append_word {ops : Array Oper} {o : Oper} {a : Act} {w : World} {F : Act → World → Prop} {Q : Exit → Act → World → Prop} {E : Prop} (hgd : o.guard = none) (s x : Operand)
    (ho : o.op = .call { callee := .builtin .append, args := #[s, x], argTypes := #[145, 145] }) (base : Nat) (v : Value) (n : Nat) (f : Nat → Nat) (hs : a.eval s = v) (hown : w.ownsRow base 141 1 v n (wl f n))
    (g c : Nat) (hx : a.eval x = .slice (some ⟨g, 0, none⟩) 1 c) (y : Nat) (hy : w.cell? ⟨g, 0, none⟩ = some (.int .u32 (y : Nat))) (h63 : n + 1 ≤ 1000) (hbase : base ≤ w.heap.size)
    (h : ∀ v' w', w'.ownsRow base 141 1 v' (n + 1) (wl (upd f n y) (n + 1)) → w.grownBy w' v.ownBlock → (∀ g a, v.ownBlock = some g → a < n → w'.cell? ⟨g, a, none⟩ = some (.int .u32 (f a : Nat))) → F (a.put o.dst v') w') : if Region.wanted o (yielded ops a.tmps) = true then Oper.wp Tryd.prog o a w F Q else E := by
  have hw : Region.wanted o (yielded ops a.tmps) = true := by simp [Region.wanted, hgd]
  rw [if_pos hw]
  obtain ⟨v', w', hr, h1, h2, h3⟩ := run_append_word w base v n f hown g c y hy h63 hbase
  unfold Oper.wp execOp
  simp only [ho, resolve, invoke, builtin, Sem.run_bind, Sem.run_pure, Result.andThen_ok, List.map_toArray, List.map_cons, List.map_nil, hs, hx, hr]
  exact h v' w' h1 h2 h3

/-- A word, out of its four bytes, as the reference makes it. -/
theorem word4 (b0 b1 b2 b3 : Nat) (h0 : b0 < 256) (h1 : b1 < 256) (h2 : b2 < 256) (h3 : b3 < 256) :
    ((b0 * 2 ^ 24 % 4294967296 ||| b1 * 2 ^ 16 % 4294967296) ||| b2 * 2 ^ 8 % 4294967296) ||| b3 = (((0 * 256 % 4294967296 ||| b0) * 256 % 4294967296 ||| b1) * 256 % 4294967296 ||| b2) * 256 % 4294967296 ||| b3 := by
  have key : ∀ x y k : Nat, y < 2 ^ k → x * 2 ^ k ||| y = x * 2 ^ k + y := fun x y k h => by
    rw [Nat.mul_comm]
    exact (Nat.two_pow_add_eq_or_of_lt h x).symm
  have e0 : (0 * 256 % 4294967296 ||| b0) = b0 := by simp
  rw [e0]
  have r1 : b0 * 256 % 4294967296 ||| b1 = b0 * 256 + b1 := by
    rw [Nat.mod_eq_of_lt (by omega)]
    exact key b0 b1 8 h1
  have r2 : (b0 * 256 + b1) * 256 % 4294967296 ||| b2 = (b0 * 256 + b1) * 256 + b2 := by
    rw [Nat.mod_eq_of_lt (by omega)]
    exact key (b0 * 256 + b1) b2 8 h2
  have r3 : ((b0 * 256 + b1) * 256 + b2) * 256 % 4294967296 ||| b3 = ((b0 * 256 + b1) * 256 + b2) * 256 + b3 := by
    rw [Nat.mod_eq_of_lt (by omega)]
    exact key ((b0 * 256 + b1) * 256 + b2) b3 8 h3
  rw [r1, r2, r3]
  have l1 : b0 * 2 ^ 24 % 4294967296 ||| b1 * 2 ^ 16 % 4294967296 = b0 * 2 ^ 24 + b1 * 2 ^ 16 := by
    rw [Nat.mod_eq_of_lt (by omega), Nat.mod_eq_of_lt (by omega)]
    exact key b0 (b1 * 2 ^ 16) 24 (by omega)
  have l2 : b0 * 2 ^ 24 + b1 * 2 ^ 16 ||| b2 * 2 ^ 8 % 4294967296 = b0 * 2 ^ 24 + b1 * 2 ^ 16 + b2 * 2 ^ 8 := by
    rw [Nat.mod_eq_of_lt (by omega)]
    have := key (b0 * 256 + b1) (b2 * 2 ^ 8) 16 (by omega)
    rw [show b0 * 2 ^ 24 + b1 * 2 ^ 16 = (b0 * 256 + b1) * 2 ^ 16 from by omega]
    exact this
  have l3 : b0 * 2 ^ 24 + b1 * 2 ^ 16 + b2 * 2 ^ 8 ||| b3 = b0 * 2 ^ 24 + b1 * 2 ^ 16 + b2 * 2 ^ 8 + b3 := by
    have := key (b0 * 65536 + b1 * 256 + b2) b3 8 h3
    rw [show b0 * 2 ^ 24 + b1 * 2 ^ 16 + b2 * 2 ^ 8 = (b0 * 65536 + b1 * 256 + b2) * 2 ^ 8 from by omega]
    exact this
  rw [l1, l2, l3]
  omega
end Go.Proofs.YtoiaclmfljoomaaDoor

/- The reference's words: the walk. -/
namespace Go.Proofs.YtoiaclmfljoomaaDoor
open Go.ChangeShapes Go.WideShapes Go.ChangeAt Go.RowKit
set_option linter.unusedVariables false

theorem word_lt (blk : Nat → Nat) (j : Nat) (h : ∀ j, blk j < 256) : word blk j < 4294967296 := by
  unfold word
  exact or_lt (Nat.mod_lt _ (by decide)) (Nat.lt_trans (h _) (by decide))

theorem wrap_small (x : Nat) (h : x < 256) : IntKind.u32.wrap (x : Int) = (x : Int) := by
  rw [wrap_u32, Nat.mod_eq_of_lt (by omega)]

theorem wrap_shift (x k : Nat) : IntKind.u32.wrap ((x : Int) * (k : Int)) = ((x * k % 4294967296 : Nat) : Int) := by
  rw [← Int.natCast_mul, wrap_u32]

set_option maxRecDepth 100000 in
set_option maxHeartbeats 3200000 in
theorem words_low (blk : Nat → Nat) (b o c : Nat) (w : World) (hc : 64 ≤ c) (hblk : ∀ j, blk j < 256) (hb : b < w.heap.size) (hcell : ∀ j, j < 64 → w.cell? ⟨b, o + j, none⟩ = some (.int .u8 (blk j : Nat))) :
    Calls Tryd.prog 102 #[.slice (some ⟨b, o, none⟩) 64 c] w fun e w' => ∃ v, e = .returned v ∧ w'.ownsRow w.heap.size 141 1 v 64 (wl (sched blk) 64) ∧ Below w.heap.size w w' := by
  go_enter Tryd.func102, Tryd.ntmps102
  go_wp2
  go_loopw [3, 4] (fun v i wr => ∃ k : Nat, k ≤ 16 ∧ i = .int .i64 ((4 * k : Nat) : Int) ∧ wr.ownsRow w.heap.size 141 1 v k (wl (sched blk) k) ∧ Below w.heap.size w wr)
    (fun _ i _ => 64 - (intOf i).toNat)
  case atStart => exact ⟨0, Nat.zero_le _, rfl, World.ownsRow_nil _ _ _ _, Below.refl _ _⟩
  case round =>
    obtain ⟨k, hk, rfl, own, hbel⟩ := hrel
    obtain ⟨va, vc, rfl⟩ : ∃ va vc, u3 = .slice va k vc := by
      rcases own.2 with ⟨rfl, rfl⟩ | ⟨g, cap, cur, rfl, _⟩
      · exact ⟨none, 0, rfl⟩
      · exact ⟨_, _, rfl⟩
    by_cases hlt : k < 16
    · have c0 : wr.cell? ⟨b, o + 4 * k, none⟩ = some (.int .u8 (blk (4 * k) : Nat)) := (hbel.cell hb).trans (hcell (4 * k) (by omega))
      have c1 : wr.cell? ⟨b, o + (4 * k + 1), none⟩ = some (.int .u8 (blk (4 * k + 1) : Nat)) := (hbel.cell hb).trans (hcell (4 * k + 1) (by omega))
      have c2 : wr.cell? ⟨b, o + (4 * k + 2), none⟩ = some (.int .u8 (blk (4 * k + 2) : Nat)) := (hbel.cell hb).trans (hcell (4 * k + 2) (by omega))
      have c3 : wr.cell? ⟨b, o + (4 * k + 3), none⟩ = some (.int .u8 (blk (4 * k + 3) : Nat)) := (hbel.cell hb).trans (hcell (4 * k + 3) (by omega))
      have hsl := sched_low blk k hlt
      obtain ⟨i, hi⟩ : ∃ i, i = 4 * k := ⟨_, rfl⟩
      obtain ⟨b0, e0⟩ : ∃ x, x = blk (4 * k) := ⟨_, rfl⟩
      obtain ⟨b1, e1⟩ : ∃ x, x = blk (4 * k + 1) := ⟨_, rfl⟩
      obtain ⟨b2, e2⟩ : ∃ x, x = blk (4 * k + 2) := ⟨_, rfl⟩
      obtain ⟨b3, e3⟩ : ∃ x, x = blk (4 * k + 3) := ⟨_, rfl⟩
      have l0 : b0 < 256 := by rw [e0]; exact hblk _
      have l1 : b1 < 256 := by rw [e1]; exact hblk _
      have l2 : b2 < 256 := by rw [e2]; exact hblk _
      have l3 : b3 < 256 := by rw [e3]; exact hblk _
      have hw4 := word4 b0 b1 b2 b3 l0 l1 l2 l3
      have m0 := wrap_small b0 l0
      have m1 := wrap_small b1 l1
      have m2 := wrap_small b2 l2
      have m3 := wrap_small b3 l3
      have s0 : IntKind.u32.wrap ((b0 : Int) * 16777216) = ((b0 * 16777216 % 4294967296 : Nat) : Int) := wrap_shift b0 16777216
      have s1 : IntKind.u32.wrap ((b1 : Int) * 65536) = ((b1 * 65536 % 4294967296 : Nat) : Int) := wrap_shift b1 65536
      have s2 : IntKind.u32.wrap ((b2 : Int) * 256) = ((b2 * 256 % 4294967296 : Nat) : Int) := wrap_shift b2 256
      obtain ⟨x0, hx0⟩ : ∃ x, x = b0 * 16777216 % 4294967296 := ⟨_, rfl⟩
      obtain ⟨x1, hx1⟩ : ∃ x, x = b1 * 65536 % 4294967296 := ⟨_, rfl⟩
      obtain ⟨x2, hx2⟩ : ∃ x, x = b2 * 256 % 4294967296 := ⟨_, rfl⟩
      have k0 : x0 < 4294967296 := by rw [hx0]; exact Nat.mod_lt _ (by decide)
      have k1 : x1 < 4294967296 := by rw [hx1]; exact Nat.mod_lt _ (by decide)
      have k2 : x2 < 4294967296 := by rw [hx2]; exact Nat.mod_lt _ (by decide)
      have o1 := u32_or_nat x0 x1 k0 k1
      have o2 := u32_or_nat (x0 ||| x1) x2 (or_lt k0 k1) k2
      have o3 := u32_or_nat (x0 ||| x1 ||| x2) b3 (or_lt (or_lt k0 k1) k2) (by omega)
      rw [← hx0] at s0
      rw [← hx1] at s1
      rw [← hx2] at s2
      obtain ⟨y, hy⟩ : ∃ y, y = x0 ||| x1 ||| x2 ||| b3 := ⟨_, rfl⟩
      have hys : sched blk k = y := by
        rw [hsl, hy, hx0, hx1, hx2]
        unfold word
        rw [← e0, ← e1, ← e2, ← e3]
        exact hw4.symm
      rw [← hy] at o3
      rw [← e0] at c0
      rw [← e1] at c1
      rw [← e2] at c2
      rw [← e3] at c3
      rw [← hi] at c0 c1 c2 c3 ⊢
      have i64 : (i : Int) < 64 := by omega
      have j0 : (0 : Int) ≤ (i : Int) := by omega
      have j1 : (i : Int) + 1 < 64 := by omega
      have j2 : (i : Int) + 2 < 64 := by omega
      have j3 : (i : Int) + 3 < 64 := by omega
      have j1' : (i : Int) < 63 := by omega
      have j2' : (i : Int) < 62 := by omega
      have j3' : (i : Int) < 61 := by omega
      have z1' : (-1 : Int) ≤ (i : Int) := by omega
      have z2' : (-2 : Int) ≤ (i : Int) := by omega
      have z3' : (-3 : Int) ≤ (i : Int) := by omega
      have wr1 : IntKind.i64.wrap ((i : Int) + 1) = (i : Int) + 1 := by rw [IntKind.wrap_i64]; omega
      have wr2 : IntKind.i64.wrap ((i : Int) + 2) = (i : Int) + 2 := by rw [IntKind.wrap_i64]; omega
      have wr3 : IntKind.i64.wrap ((i : Int) + 3) = (i : Int) + 3 := by rw [IntKind.wrap_i64]; omega
      have z1 : (0 : Int) ≤ (i : Int) + 1 := by omega
      have z2 : (0 : Int) ≤ (i : Int) + 2 := by omega
      have z3 : (0 : Int) ≤ (i : Int) + 3 := by omega
      have t1 : ((i : Int) + 1).toNat = i + 1 := by omega
      have t2 : ((i : Int) + 2).toNat = i + 2 := by omega
      have t3 : ((i : Int) + 3).toNat = i + 3 := by omega
      have HY : Hid (sched blk k = y) := hys
      have HI : Hid (i = 4 * k) := hi
      have q0 : w.cell? ⟨b, o + i, none⟩ = some (.int .u8 (b0 : Nat)) := (hbel.cell hb).symm.trans c0
      have q1 : w.cell? ⟨b, o + (i + 1), none⟩ = some (.int .u8 (b1 : Nat)) := (hbel.cell hb).symm.trans c1
      have q2 : w.cell? ⟨b, o + (i + 2), none⟩ = some (.int .u8 (b2 : Nat)) := (hbel.cell hb).symm.trans c2
      have q3 : w.cell? ⟨b, o + (i + 3), none⟩ = some (.int .u8 (b3 : Nat)) := (hbel.cell hb).symm.trans c3
      clear hcell hys hi hy hw4 hsl e0 e1 e2 e3 hx0 hx1 hx2 k0 k1 k2
      go_wp2_with fail
      have c0d : wr.drew.cell? ⟨b, o + i, none⟩ = some (.int .u8 (b0 : Nat)) := c0
      have c1d : wr.drew.cell? ⟨b, o + (i + 1), none⟩ = some (.int .u8 (b1 : Nat)) := c1
      have c2d : wr.drew.cell? ⟨b, o + (i + 2), none⟩ = some (.int .u8 (b2 : Nat)) := c2
      have c3d : wr.drew.cell? ⟨b, o + (i + 3), none⟩ = some (.int .u8 (b3 : Nat)) := c3
      have ownd : wr.drew.ownsRow w.heap.size 141 1 (.slice va k vc) k (wl (sched blk) k) := own
      have hbs : w.heap.size ≤ (wr.drew.alloc (.cells #[.int .u32 (y : Nat)] 141)).heap.size := by simp; exact Nat.le_succ_of_le hbel.size
      have hbne : wr.drew.heap.size ≠ b := by have := hbel.size; show wr.heap.size ≠ b; omega
      go_region_held3 (fun w' => w'.cell? ⟨b, o + i, none⟩ = some (.int .u8 (b0 : Nat)) ∧ w'.cell? ⟨b, o + (i + 1), none⟩ = some (.int .u8 (b1 : Nat)) ∧ w'.cell? ⟨b, o + (i + 2), none⟩ = some (.int .u8 (b2 : Nat)) ∧ w'.cell? ⟨b, o + (i + 3), none⟩ = some (.int .u8 (b3 : Nat)))
        (first | exact ⟨c0d, c1d, c2d, c3d⟩ | exact ⟨c0e, c1e, c2e, c3e⟩ | go_keep)
        (first
          | ((go_loud (refine step_append_word rfl (.tmp 12) (.tmp 42) rfl w.heap.size _ k (sched blk) rfl (ownd.alloc _) wr.drew.heap.size 1 rfl y ((Has.new wr.drew 141 #[.int .u32 (y : Nat)]).cell 0) (by omega) hbs ?_))
             (intro v7 w7 own7 gr7 old7)
             (clear old7)
             (have hb7 : Below w.heap.size w w7 := (hbel.drew.alloc hbel.size _).grown gr7 hbs (fun k' h => (ownd.lt k' h).1))
             (have c0e := (hb7.cell hb).trans q0)
             (have c1e := (hb7.cell hb).trans q1)
             (have c2e := (hb7.cell hb).trans q2)
             (have c3e := (hb7.cell hb).trans q3)))
      go_wp2
      go_roundw
      case rel =>
        refine ⟨k + 1, by omega, ?_, ?_, hb7⟩
        · rw [HI.out]; go_num
        · rw [wl_congr (sched blk) (upd (sched blk) k y) (k + 1) (fun j hj => by
            unfold upd
            split
            · next h => rw [h, HY.out]
            · rfl)]
          exact own7
      case measure => simp [intOf]; have := HI.out; omega
    · obtain rfl : k = 16 := by omega
      obtain ⟨f, hf⟩ : ∃ f, f = sched blk := ⟨_, rfl⟩
      have hfl : ∀ j, f j < 4294967296 ∨ True := fun _ => .inr trivial
      clear hcell hfl
      rw [show ((4 * 16 : Nat) : Int) = 64 from rfl]
      go_wp2
      go_loopw [3, 5] (fun v i wr => ∃ k : Nat, 16 ≤ k ∧ k ≤ 64 ∧ i = .int .i64 ((k : Nat) : Int) ∧ wr.ownsRow w.heap.size 141 1 v k (wl (sched blk) k) ∧ Below w.heap.size w wr)
        (fun _ i _ => 64 - (intOf i).toNat)
      case atStart => exact ⟨16, Nat.le_refl _, by decide, rfl, own, hbel⟩
      case round =>
        clear own hbel
        obtain ⟨k, hk1, hk2, rfl, own, hbel⟩ := hrel
        obtain ⟨g, vc, rfl, hvc, hgb, hgl⟩ : ∃ g vc, u3 = .slice (some ⟨g, 0, none⟩) k vc ∧ k ≤ vc ∧ w.heap.size ≤ g ∧ g < wr.heap.size := by
          rcases own.2 with ⟨rfl, rfl⟩ | ⟨g, cap, cur, rfl, hbg, hgg, hn, _⟩
          · omega
          · exact ⟨g, cap, rfl, hn, hbg, (Array.getElem?_eq_some_iff.1 hgg).1⟩
        by_cases hlt : k < 64
        · have hrec := sched_rec blk k hk1 hlt
          rw [← hf] at own hrec
          have hcl : ∀ a, a < k → wr.cell? ⟨g, a, none⟩ = some (.int .u32 (f a : Nat)) := fun a ha => by rw [own.cellAt a (by omega)]; exact wl_get f k a ha
          have hfb : ∀ j, j < 64 → f j < 4294967296 := fun j hj => by
            rw [hf]
            by_cases h : j < 16
            · rw [sched_low blk j h]
              exact word_lt blk j hblk
            · rw [sched_rec blk j (by omega) hj]
              exact add32_lt _ _
          obtain ⟨a2, ha2⟩ : ∃ a, a = k - 2 := ⟨_, rfl⟩
          obtain ⟨a7, ha7⟩ : ∃ a, a = k - 7 := ⟨_, rfl⟩
          obtain ⟨a15, ha15⟩ : ∃ a, a = k - 15 := ⟨_, rfl⟩
          obtain ⟨a16, ha16⟩ : ∃ a, a = k - 16 := ⟨_, rfl⟩
          obtain ⟨y, hy⟩ : ∃ y, y = f a2 := ⟨_, rfl⟩
          obtain ⟨x, hx⟩ : ∃ y, y = f a15 := ⟨_, rfl⟩
          obtain ⟨p7, hp7⟩ : ∃ y, y = f a7 := ⟨_, rfl⟩
          obtain ⟨p16, hp16⟩ : ∃ y, y = f a16 := ⟨_, rfl⟩
          have q2 := hcl a2 (by omega)
          have q7 := hcl a7 (by omega)
          have q15 := hcl a15 (by omega)
          have q16 := hcl a16 (by omega)
          rw [← hy] at q2
          rw [← hx] at q15
          rw [← hp7] at q7
          rw [← hp16] at q16
          have by_ : y < 4294967296 := by rw [hy]; exact hfb _ (by omega)
          have bx : x < 4294967296 := by rw [hx]; exact hfb _ (by omega)
          have w2 : IntKind.i64.wrap ((k : Int) - 2) = (a2 : Int) := by rw [IntKind.wrap_i64]; omega
          have w7 : IntKind.i64.wrap ((k : Int) - 7) = (a7 : Int) := by rw [IntKind.wrap_i64]; omega
          have w15 : IntKind.i64.wrap ((k : Int) - 15) = (a15 : Int) := by rw [IntKind.wrap_i64]; omega
          have w16 : IntKind.i64.wrap ((k : Int) - 16) = (a16 : Int) := by rw [IntKind.wrap_i64]; omega
          have g2 : (a2 : Int) < (k : Int) := by omega
          have g7 : (a7 : Int) < (k : Int) := by omega
          have g15 : (a15 : Int) < (k : Int) := by omega
          have g16 : (a16 : Int) < (k : Int) := by omega
          have i1 : (k : Int) < 64 := by omega
          obtain ⟨r17, h17⟩ : ∃ r, r = rotr 17 y := ⟨_, rfl⟩
          obtain ⟨r19, h19⟩ : ∃ r, r = rotr 19 y := ⟨_, rfl⟩
          obtain ⟨r7, h7⟩ : ∃ r, r = rotr 7 x := ⟨_, rfl⟩
          obtain ⟨r18, h18⟩ : ∃ r, r = rotr 18 x := ⟨_, rfl⟩
          obtain ⟨d10, hd10⟩ : ∃ r, r = y / 2 ^ 10 := ⟨_, rfl⟩
          obtain ⟨d3, hd3⟩ : ∃ r, r = x / 2 ^ 3 := ⟨_, rfl⟩
          have b17 : r17 < 4294967296 := by rw [h17]; exact rotr_lt _ _ by_
          have b19 : r19 < 4294967296 := by rw [h19]; exact rotr_lt _ _ by_
          have b7 : r7 < 4294967296 := by rw [h7]; exact rotr_lt _ _ bx
          have b18 : r18 < 4294967296 := by rw [h18]; exact rotr_lt _ _ bx
          have bd10 : d10 < 4294967296 := by rw [hd10]; exact Nat.lt_of_le_of_lt (Nat.div_le_self _ _) by_
          have bd3 : d3 < 4294967296 := by rw [hd3]; exact Nat.lt_of_le_of_lt (Nat.div_le_self _ _) bx
          have e10 : (y : Int) / 1024 = (d10 : Int) := by rw [hd10]; rfl
          have e3 : (x : Int) / 8 = (d3 : Int) := by rw [hd3]; rfl
          have x1 := u32_xor_nat r17 r19 b17 b19
          have x2 := u32_xor_nat (r17 ^^^ r19) d10 (xor_lt b17 b19) bd10
          have x3 := u32_xor_nat r7 r18 b7 b18
          have x4 := u32_xor_nat (r7 ^^^ r18) d3 (xor_lt b7 b18) bd3
          obtain ⟨z1, hz1⟩ : ∃ r, r = r17 ^^^ r19 ^^^ d10 := ⟨_, rfl⟩
          obtain ⟨z2, hz2⟩ : ∃ r, r = r7 ^^^ r18 ^^^ d3 := ⟨_, rfl⟩
          rw [← hz1] at x2
          rw [← hz2] at x4
          have s1 : IntKind.u32.wrap ((z1 : Int) + (p7 : Int)) = ((add32 z1 p7 : Nat) : Int) := by rw [← Int.natCast_add, wrap_u32]; rfl
          obtain ⟨t1, ht1⟩ : ∃ r, r = add32 z1 p7 := ⟨_, rfl⟩
          rw [← ht1] at s1
          have s2 : IntKind.u32.wrap ((t1 : Int) + (z2 : Int)) = ((add32 t1 z2 : Nat) : Int) := by rw [← Int.natCast_add, wrap_u32]; rfl
          obtain ⟨t2, ht2⟩ : ∃ r, r = add32 t1 z2 := ⟨_, rfl⟩
          rw [← ht2] at s2
          have s3 : IntKind.u32.wrap ((t2 : Int) + (p16 : Int)) = ((add32 t2 p16 : Nat) : Int) := by rw [← Int.natCast_add, wrap_u32]; rfl
          obtain ⟨t3, ht3⟩ : ∃ r, r = add32 t2 p16 := ⟨_, rfl⟩
          rw [← ht3] at s3
          have hval : f k = t3 := by
            rw [hrec, ht3, ht2, ht1, hz1, hz2, h17, h19, h7, h18, hd10, hd3, hy, hx, hp7, hp16, ha2, ha7, ha15, ha16]
            rfl
          have T17 : ∀ W, Calls Tryd.prog 103 #[.int .u32 (y : Nat), .int .u32 17] W fun e w' => e = .returned (.int .u32 (r17 : Nat)) ∧ w' = W := fun W => by rw [h17]; exact rturn_any y 17 W by_ (by decide) (by decide)
          have T19 : ∀ W, Calls Tryd.prog 103 #[.int .u32 (y : Nat), .int .u32 19] W fun e w' => e = .returned (.int .u32 (r19 : Nat)) ∧ w' = W := fun W => by rw [h19]; exact rturn_any y 19 W by_ (by decide) (by decide)
          have T7 : ∀ W, Calls Tryd.prog 103 #[.int .u32 (x : Nat), .int .u32 7] W fun e w' => e = .returned (.int .u32 (r7 : Nat)) ∧ w' = W := fun W => by rw [h7]; exact rturn_any x 7 W bx (by decide) (by decide)
          have T18 : ∀ W, Calls Tryd.prog 103 #[.int .u32 (x : Nat), .int .u32 18] W fun e w' => e = .returned (.int .u32 (r18 : Nat)) ∧ w' = W := fun W => by rw [h18]; exact rturn_any x 18 W bx (by decide) (by decide)
          have HT : Hid ((∀ W, Calls Tryd.prog 103 #[.int .u32 (y : Nat), .int .u32 17] W fun e w' => e = .returned (.int .u32 (r17 : Nat)) ∧ w' = W) ∧ (∀ W, Calls Tryd.prog 103 #[.int .u32 (y : Nat), .int .u32 19] W fun e w' => e = .returned (.int .u32 (r19 : Nat)) ∧ w' = W) ∧
            (∀ W, Calls Tryd.prog 103 #[.int .u32 (x : Nat), .int .u32 7] W fun e w' => e = .returned (.int .u32 (r7 : Nat)) ∧ w' = W) ∧ (∀ W, Calls Tryd.prog 103 #[.int .u32 (x : Nat), .int .u32 18] W fun e w' => e = .returned (.int .u32 (r18 : Nat)) ∧ w' = W)) := ⟨T17, T19, T7, T18⟩
          have HV : Hid (f k = t3) := hval
          have HP : Hid (p7 = f a7 ∧ p16 = f a16) := ⟨hp7, hp16⟩
          have HA : Hid (a7 < k ∧ a16 < k) := ⟨by omega, by omega⟩
          have HF : Hid (f = sched blk) := hf
          have q7d : wr.drew.cell? ⟨g, a7, none⟩ = some (.int .u32 (p7 : Nat)) := q7
          have q16d : wr.drew.cell? ⟨g, a16, none⟩ = some (.int .u32 (p16 : Nat)) := q16
          have ownd : wr.drew.ownsRow w.heap.size 141 1 (.slice (some ⟨g, 0, none⟩) k vc) k (wl f k) := own
          have hbs : w.heap.size ≤ (wr.drew.alloc (.cells #[.int .u32 (t3 : Nat)] 141)).heap.size := by simp; exact Nat.le_succ_of_le hbel.size
          have hgne : wr.drew.heap.size ≠ g := by show wr.heap.size ≠ g; omega
          clear hrec hcl hfb hy hx hp7 hp16 ha2 ha7 ha15 ha16 h17 h19 h7 h18 hd10 hd3 hz1 hz2 ht1 ht2 ht3 hval T17 T19 T7 T18 hf hblk b17 b19 b7 b18 bd10 bd3 by_ bx
          go_wp2_with fail
          go_region_held3 (fun w' => w'.cell? ⟨g, a7, none⟩ = some (.int .u32 (p7 : Nat)) ∧ w'.cell? ⟨g, a16, none⟩ = some (.int .u32 (p16 : Nat)))
            (first | exact ⟨q7d, q16d⟩ | exact ⟨q7e, q16e⟩ | go_keep)
            (first
              | (go_at_call_of 103 (Value.int .u32 17); refine (HT.out.1 _).mono ?_; rintro e w' ⟨rfl, rfl⟩)
              | (go_at_call_of 103 (Value.int .u32 19); refine (HT.out.2.1 _).mono ?_; rintro e w' ⟨rfl, rfl⟩)
              | (go_at_call_of 103 (Value.int .u32 7); refine (HT.out.2.2.1 _).mono ?_; rintro e w' ⟨rfl, rfl⟩)
              | (go_at_call_of 103 (Value.int .u32 18); refine (HT.out.2.2.2 _).mono ?_; rintro e w' ⟨rfl, rfl⟩)
              | ((refine step_append_word rfl (.tmp 58) (.tmp 88) rfl w.heap.size _ k f rfl (ownd.alloc _) wr.drew.heap.size 1 rfl t3 ((Has.new wr.drew 141 #[.int .u32 (t3 : Nat)]).cell 0) (by omega) hbs ?_)
                 (intro v7 w7 own7 gr7 old7)
                 (have hb7 : Below w.heap.size w w7 := (hbel.drew.alloc hbel.size _).grown gr7 hbs (fun k' h => (ownd.lt k' h).1))
                 (have q7e : w7.cell? ⟨g, a7, none⟩ = some (.int .u32 (p7 : Nat)) := (by rw [HP.out.1]; exact old7 g a7 rfl HA.out.1))
                 (have q16e : w7.cell? ⟨g, a16, none⟩ = some (.int .u32 (p16 : Nat)) := (by rw [HP.out.2]; exact old7 g a16 rfl HA.out.2))
                 (clear old7)))
          go_wp2
          go_roundw
          case rel =>
            refine ⟨k + 1, by omega, by omega, by go_num, ?_, hb7⟩
            rw [← HF.out, wl_congr f (upd f k t3) (k + 1) (fun j hj => by
              unfold upd
              split
              · next h => rw [h, HV.out]
              · rfl)]
            exact own7
          case measure => simp [intOf]; omega
        · obtain rfl : k = 64 := by omega
          go_wp2
          go_ret
          exact ⟨_, rfl, own, hbel⟩
end Go.Proofs.YtoiaclmfljoomaaDoor

/- The reference's Padded: the padded message. -/
namespace Go.Proofs.YtoiaclmfljoomaaDoor
open Go.ChangeShapes Go.WideShapes Go.ChangeAt Go.RowKit
set_option linter.unusedVariables false

theorem one_of (w : World) (b : Nat) : Bytes (w.alloc (.cells #[.int .u8 (b : Nat)] 5)) (some ⟨w.heap.size, 0, none⟩) 1 (fun _ => b) :=
  .inr ⟨w.heap.size, 0, rfl, by simp, fun j hj => by obtain rfl : j = 0 := (by omega); exact (Has.new w 5 #[.int .u8 (b : Nat)]).cell 0⟩

theorem bl_more (f : Nat → Nat) (L v : Nat) (h : v = f L) : bl (cat f L fun _ => v) (L + 1) = bl f (L + 1) := by
  unfold bl
  apply List.map_congr_left
  intro j hj
  have hj' : j < L + 1 := by simpa using hj
  unfold cat
  by_cases h1 : j < L
  · rw [if_pos h1]
  · rw [if_neg h1, h, show L = j from by omega]

theorem bl_same (f g : Nat → Nat) (n : Nat) (h : ∀ j, j < n → f j = g j) : bl f n = bl g n := by
  unfold bl
  apply List.map_congr_left
  intro j hj
  rw [h j (by simpa using hj)]

/-- How many noughts stand behind the 128. -/
def zs (n : Nat) : Nat := (64 - (n + 9) % 64) % 64

theorem plen_zs (n : Nat) : plen n = 1 + zs n + 8 := rfl

theorem padm_at (m : Nat → Nat) (n j : Nat) : padm m n (n + j) = padB n j := by
  unfold padm
  rw [if_neg (by omega), Nat.add_sub_cancel_left]

theorem padB_mid (n j : Nat) (h1 : 1 ≤ j) (h2 : j < 1 + zs n) : padB n j = 0 := by
  unfold padB
  rw [if_neg (by omega), if_pos (by rw [plen_zs]; omega)]

theorem padB_num (n t : Nat) (h : t < 8) : padB n (1 + zs n + t) = n * 8 / 2 ^ (56 - 8 * t) % 256 := by
  unfold padB
  rw [if_neg (by omega), if_neg (by rw [plen_zs]; omega), show 8 * (plen n - 1 - (1 + zs n + t)) = 56 - 8 * t from by rw [plen_zs]; omega]

set_option maxRecDepth 100000 in
set_option maxHeartbeats 1600000 in
theorem rpad_any (m : Nat → Nat) (n c : Nat) (a : Option Addr) (w : World) (hnil : a = none → n = 0 ∧ c = 0) (hb : Bytes w a n m) (hn : n ≤ 140737488355000) (hc : n ≤ c) :
    Calls Tryd.prog 101 #[.slice a n c] w fun e w' => ∃ v, e = .returned v ∧ w'.ownsRow w.heap.size 5 1 v (n + plen n) (bl (padm m n) (n + plen n)) ∧ Below w.heap.size w w' := by
  have own0 := World.ownsRow_lit (base := w.heap.size) (e := 5) (size := 1) w #[] 0 (Nat.le_refl _) (by unfold maxLen; omega) rfl
  have hbE : Below w.heap.size w (w.alloc (.cells #[] 5)) := (Below.refl _ _).alloc (Nat.le_refl _) _
  have hB0 := hb.below hbE (Nat.le_refl _)
  go_enter Tryd.func101, Tryd.ntmps101
  go_wp2_with (first
    | ((at_builtin)
       (have _t := own0)
       (refine wpList_append_bytes rfl _ _ rfl w.heap.size _ 0 (fun _ => 0) rfl own0 a n c m rfl hnil hB0 (by omega) (by simp) ?_)
       (intro v1 w1 own1 gr1)
       (have hb1 : Below w.heap.size w w1 := hbE.grown gr1 (by simp) (fun k' h => (own0.lt k' h).1))
       (rw [Nat.zero_add, cat_zero] at own1)
       (have hbL : Below w1.heap.size w1 (w1.alloc (.cells #[.int .u8 ((128 : Nat) : Int)] 5)) := (Below.refl _ _).alloc (Nat.le_refl _) _)
       (have own1x := own_below own1 hbL (fun g hg => (own1.lt g hg).2))
       (have hb1x : Below w.heap.size w (w1.alloc (.cells #[.int .u8 ((128 : Nat) : Int)] 5)) := hb1.trans (hbL.mono hb1.size))
       (clear own0 _t gr1 hB0 hbE own1 hbL))
    | ((at_builtin)
       (refine wpList_append_bytes rfl _ _ rfl w.heap.size _ n m rfl own1x (some ⟨w1.heap.size, 0, none⟩) 1 1 (fun _ => 128) rfl (fun e => by cases e) (one_of w1 128) (by omega) hb1x.size ?_)
       (intro v2 w2 own2 gr2)
       (have hb2 : Below w.heap.size w w2 := hb1x.grown gr2 hb1x.size (fun k' h => (own1x.lt k' h).1))
       (rw [bl_same _ (padm m n) (n + 1) (fun j hj => by
          unfold cat padm
          by_cases h : j < n
          · rw [if_pos h, if_pos h]
          · rw [if_neg h, if_neg h, show j - n = 0 from by omega]; rfl)] at own2)
       (clear own1x gr2 hb1x)))
  go_loopw [3] (fun v wr => ∃ t : Nat, t ≤ zs n ∧ wr.ownsRow w.heap.size 5 1 v (n + 1 + t) (bl (padm m n) (n + 1 + t)) ∧ Below w.heap.size w wr)
    (fun v _ => n + 1 + zs n - lenOf v)
  case atStart => exact ⟨0, Nat.zero_le _, own2, hb2⟩
  case round =>
    clear own2 hb2
    obtain ⟨t, ht, own, hbel⟩ := hrel
    obtain ⟨va, vc, rfl, hvc, _, _, _⟩ := own_bytes own
    obtain ⟨L, hL⟩ : ∃ L, L = n + 1 + t := ⟨_, rfl⟩
    have hLb : L ≤ 140737488355100 := by unfold zs at ht; omega
    by_cases hlt : t < zs n
    · have hne : ¬ ((L : Int) % 64 = 56) := by unfold zs at hlt; omega
      have hpz : (0 : Nat) = padm m n L := by
        rw [hL, show n + 1 + t = n + (1 + t) from by omega, padm_at, padB_mid n (1 + t) (by omega) (by omega)]
      rw [← hL] at own hvc ⊢
      have hbL : Below wr.heap.size wr (wr.alloc (.cells #[.int .u8 ((0 : Nat) : Int)] 5)) := (Below.refl _ _).alloc (Nat.le_refl _) _
      have ownx := own_below own hbL (fun g hg => (own.lt g hg).2)
      have hbx : Below w.heap.size w (wr.alloc (.cells #[.int .u8 ((0 : Nat) : Int)] 5)) := hbel.trans (hbL.mono hbel.size)
      have HL : Hid (L = n + 1 + t) := hL
      have HZ : Hid (0 = padm m n L) := hpz
      have HT : Hid (t < zs n) := hlt
      clear hL hpz hlt hb hnil own hbL ht
      go_wp2_with (first
        | ((at_builtin)
           (refine wpList_append_bytes rfl _ _ rfl w.heap.size _ L (padm m n) rfl ownx (some ⟨wr.heap.size, 0, none⟩) 1 1 (fun _ => 0) rfl (fun e => by cases e) (one_of wr 0) (by omega) hbx.size ?_)
           (intro v2 w2 own2 gr2)
           (have hb2 : Below w.heap.size w w2 := hbx.grown gr2 hbx.size (fun k' h => (ownx.lt k' h).1))
           (rw [bl_more _ _ _ HZ.out] at own2)
           (obtain ⟨va2, vc2, rfl, hvc2, _, _, _⟩ := own_bytes own2)
           (clear ownx gr2 hbx)))
      go_roundw
      case rel =>
        have e := HL.out
        have e2 := HT.out
        refine ⟨t + 1, by omega, ?_, hb2⟩
        rw [show n + 1 + (t + 1) = L + 1 from by omega]
        exact own2
      case measure => have := HL.out; have := HT.out; simp [lenOf]; omega
    · obtain rfl : t = zs n := by omega
      have heq : (L : Int) % 64 = 56 := by rw [hL]; unfold zs; omega
      obtain ⟨e8, he8⟩ : ∃ e, e = n * 8 := ⟨_, rfl⟩
      have wu : IntKind.u64.wrap (n : Int) = (n : Int) := by simp only [IntKind.wrap, IntKind.bits, IntKind.signed]; simp; omega
      have wm : IntKind.u64.wrap (8 * (n : Int)) = (e8 : Int) := by simp only [IntKind.wrap, IntKind.bits, IntKind.signed]; simp; omega
      have hnum : ∀ t, t < 8 → e8 / 2 ^ (56 - 8 * t) % 256 = padm m n (L + t) := fun t ht => by
        rw [hL, show n + 1 + zs n + t = n + (1 + zs n + t) from by omega, padm_at, padB_num n t ht, he8]
      have hend : n + plen n = L + 8 := by rw [plen_zs, hL]; omega
      have he8b : e8 < 18446744073709551616 := by omega
      rw [← hL] at own hvc ⊢
      have HE : Hid (n + plen n = L + 8) := hend
      have HN : Hid _ := hnum
      clear hL he8 hnum hend hb hnil ht hlt
      go_wp2
      clear heq wu wm
      go_loopw [3, 5] (fun v i wr => ∃ t : Nat, t ≤ 8 ∧ i = .int .i64 (56 - 8 * (t : Int)) ∧ wr.ownsRow w.heap.size 5 1 v (L + t) (bl (padm m n) (L + t)) ∧ Below w.heap.size w wr)
        (fun _ i _ => (intOf i + 8).toNat)
      case atStart => exact ⟨0, Nat.zero_le _, rfl, own, hbel⟩
      case round =>
        clear own hbel hvc
        obtain ⟨t, ht, rfl, own, hbel⟩ := hrel
        obtain ⟨va, vc, rfl, hvc, _, _, _⟩ := own_bytes own
        by_cases ht8 : t = 8
        · subst ht8
          rw [show (56 - 8 * ((8 : Nat) : Int)) = -8 from rfl]
          go_wp2
          go_ret
          exact ⟨_, rfl, by rw [HE.out]; exact own, hbel⟩
        · obtain ⟨y, hy⟩ : ∃ y, y = e8 / 2 ^ (56 - 8 * t) % 256 := ⟨_, rfl⟩
          have hyp := HN.out t (by omega)
          rw [← hy] at hyp
          have hbL : Below wr.heap.size wr (wr.alloc (.cells #[.int .u8 (y : Nat)] 5)) := (Below.refl _ _).alloc (Nat.le_refl _) _
          have ownx := own_below own hbL (fun g hg => (own.lt g hg).2)
          have hbx : Below w.heap.size w (wr.alloc (.cells #[.int .u8 (y : Nat)] 5)) := hbel.trans (hbL.mono hbel.size)
          have HY : Hid (y = padm m n (L + t)) := hyp
          have hyi : (e8 : Int) / 2 ^ (56 - 8 * t) % 256 = (y : Int) := by rw [hy, Int.natCast_emod, Int.natCast_ediv, Int.natCast_pow]; rfl
          obtain ⟨K, hK⟩ : ∃ K, K = L + t := ⟨_, rfl⟩
          rw [← hK] at ownx own hvc ⊢
          have HK : Hid (K = L + t) := hK
          have hKb : K ≤ 140737488355200 := by omega
          clear hy hyp own hbL hK
          rcases (show t = 0 ∨ t = 1 ∨ t = 2 ∨ t = 3 ∨ t = 4 ∨ t = 5 ∨ t = 6 ∨ t = 7 by omega) with rfl | rfl | rfl | rfl | rfl | rfl | rfl | rfl
          · simp at hyi
            have hyi' : (e8 : Int) / 72057594037927936 = (y : Int) := by omega
            rw [show (56 - 8 * ((0 : Nat) : Int)) = 56 from rfl]
            go_wp2_with (first
              | ((at_builtin)
                 (refine wpList_append_bytes rfl _ _ rfl w.heap.size _ K (padm m n) rfl ownx (some ⟨wr.heap.size, 0, none⟩) 1 1 (fun _ => y) rfl (fun e => by cases e) (one_of wr y) (by omega) hbx.size ?_)
                 (intro v2 w2 own2 gr2)
                 (have hb2 : Below w.heap.size w w2 := hbx.grown gr2 hbx.size (fun k' h => (ownx.lt k' h).1))
                 (rw [bl_more _ _ _ (by rw [HY.out, HK.out])] at own2)
                 (clear ownx gr2 hbx)))
            go_roundw
            case rel =>
              have e := HK.out
              exact ⟨1, by decide, rfl, by rw [show L + 1 = K + 1 from by omega]; exact own2, hb2⟩
            case measure => simp [intOf]
          · simp at hyi
            rw [show (56 - 8 * ((1 : Nat) : Int)) = 48 from rfl]
            go_wp2_with (first
              | ((at_builtin)
                 (refine wpList_append_bytes rfl _ _ rfl w.heap.size _ K (padm m n) rfl ownx (some ⟨wr.heap.size, 0, none⟩) 1 1 (fun _ => y) rfl (fun e => by cases e) (one_of wr y) (by omega) hbx.size ?_)
                 (intro v2 w2 own2 gr2)
                 (have hb2 : Below w.heap.size w w2 := hbx.grown gr2 hbx.size (fun k' h => (ownx.lt k' h).1))
                 (rw [bl_more _ _ _ (by rw [HY.out, HK.out])] at own2)
                 (clear ownx gr2 hbx)))
            go_roundw
            case rel =>
              have e := HK.out
              exact ⟨2, by decide, rfl, by rw [show L + 2 = K + 1 from by omega]; exact own2, hb2⟩
            case measure => simp [intOf]
          · simp at hyi
            rw [show (56 - 8 * ((2 : Nat) : Int)) = 40 from rfl]
            go_wp2_with (first
              | ((at_builtin)
                 (refine wpList_append_bytes rfl _ _ rfl w.heap.size _ K (padm m n) rfl ownx (some ⟨wr.heap.size, 0, none⟩) 1 1 (fun _ => y) rfl (fun e => by cases e) (one_of wr y) (by omega) hbx.size ?_)
                 (intro v2 w2 own2 gr2)
                 (have hb2 : Below w.heap.size w w2 := hbx.grown gr2 hbx.size (fun k' h => (ownx.lt k' h).1))
                 (rw [bl_more _ _ _ (by rw [HY.out, HK.out])] at own2)
                 (clear ownx gr2 hbx)))
            go_roundw
            case rel =>
              have e := HK.out
              exact ⟨3, by decide, rfl, by rw [show L + 3 = K + 1 from by omega]; exact own2, hb2⟩
            case measure => simp [intOf]
          · simp at hyi
            rw [show (56 - 8 * ((3 : Nat) : Int)) = 32 from rfl]
            go_wp2_with (first
              | ((at_builtin)
                 (refine wpList_append_bytes rfl _ _ rfl w.heap.size _ K (padm m n) rfl ownx (some ⟨wr.heap.size, 0, none⟩) 1 1 (fun _ => y) rfl (fun e => by cases e) (one_of wr y) (by omega) hbx.size ?_)
                 (intro v2 w2 own2 gr2)
                 (have hb2 : Below w.heap.size w w2 := hbx.grown gr2 hbx.size (fun k' h => (ownx.lt k' h).1))
                 (rw [bl_more _ _ _ (by rw [HY.out, HK.out])] at own2)
                 (clear ownx gr2 hbx)))
            go_roundw
            case rel =>
              have e := HK.out
              exact ⟨4, by decide, rfl, by rw [show L + 4 = K + 1 from by omega]; exact own2, hb2⟩
            case measure => simp [intOf]
          · simp at hyi
            rw [show (56 - 8 * ((4 : Nat) : Int)) = 24 from rfl]
            go_wp2_with (first
              | ((at_builtin)
                 (refine wpList_append_bytes rfl _ _ rfl w.heap.size _ K (padm m n) rfl ownx (some ⟨wr.heap.size, 0, none⟩) 1 1 (fun _ => y) rfl (fun e => by cases e) (one_of wr y) (by omega) hbx.size ?_)
                 (intro v2 w2 own2 gr2)
                 (have hb2 : Below w.heap.size w w2 := hbx.grown gr2 hbx.size (fun k' h => (ownx.lt k' h).1))
                 (rw [bl_more _ _ _ (by rw [HY.out, HK.out])] at own2)
                 (clear ownx gr2 hbx)))
            go_roundw
            case rel =>
              have e := HK.out
              exact ⟨5, by decide, rfl, by rw [show L + 5 = K + 1 from by omega]; exact own2, hb2⟩
            case measure => simp [intOf]
          · simp at hyi
            rw [show (56 - 8 * ((5 : Nat) : Int)) = 16 from rfl]
            go_wp2_with (first
              | ((at_builtin)
                 (refine wpList_append_bytes rfl _ _ rfl w.heap.size _ K (padm m n) rfl ownx (some ⟨wr.heap.size, 0, none⟩) 1 1 (fun _ => y) rfl (fun e => by cases e) (one_of wr y) (by omega) hbx.size ?_)
                 (intro v2 w2 own2 gr2)
                 (have hb2 : Below w.heap.size w w2 := hbx.grown gr2 hbx.size (fun k' h => (ownx.lt k' h).1))
                 (rw [bl_more _ _ _ (by rw [HY.out, HK.out])] at own2)
                 (clear ownx gr2 hbx)))
            go_roundw
            case rel =>
              have e := HK.out
              exact ⟨6, by decide, rfl, by rw [show L + 6 = K + 1 from by omega]; exact own2, hb2⟩
            case measure => simp [intOf]
          · simp at hyi
            rw [show (56 - 8 * ((6 : Nat) : Int)) = 8 from rfl]
            go_wp2_with (first
              | ((at_builtin)
                 (refine wpList_append_bytes rfl _ _ rfl w.heap.size _ K (padm m n) rfl ownx (some ⟨wr.heap.size, 0, none⟩) 1 1 (fun _ => y) rfl (fun e => by cases e) (one_of wr y) (by omega) hbx.size ?_)
                 (intro v2 w2 own2 gr2)
                 (have hb2 : Below w.heap.size w w2 := hbx.grown gr2 hbx.size (fun k' h => (ownx.lt k' h).1))
                 (rw [bl_more _ _ _ (by rw [HY.out, HK.out])] at own2)
                 (clear ownx gr2 hbx)))
            go_roundw
            case rel =>
              have e := HK.out
              exact ⟨7, by decide, rfl, by rw [show L + 7 = K + 1 from by omega]; exact own2, hb2⟩
            case measure => simp [intOf]
          · simp at hyi
            rw [show (56 - 8 * ((7 : Nat) : Int)) = 0 from rfl]
            go_wp2_with (first
              | ((at_builtin)
                 (refine wpList_append_bytes rfl _ _ rfl w.heap.size _ K (padm m n) rfl ownx (some ⟨wr.heap.size, 0, none⟩) 1 1 (fun _ => y) rfl (fun e => by cases e) (one_of wr y) (by omega) hbx.size ?_)
                 (intro v2 w2 own2 gr2)
                 (have hb2 : Below w.heap.size w w2 := hbx.grown gr2 hbx.size (fun k' h => (ownx.lt k' h).1))
                 (rw [bl_more _ _ _ (by rw [HY.out, HK.out])] at own2)
                 (clear ownx gr2 hbx)))
            go_roundw
            case rel =>
              have e := HK.out
              exact ⟨8, by decide, rfl, by rw [show L + 8 = K + 1 from by omega]; exact own2, hb2⟩
            case measure => simp [intOf]
end Go.Proofs.YtoiaclmfljoomaaDoor

/- Operations on words of 32 bits, said outright. -/
namespace Go.Proofs.YtoiaclmfljoomaaDoor
open Go.ChangeShapes Go.WideShapes Go.ChangeAt Go.RowKit
set_option linter.unusedVariables false

theorem one_u32 : (Tryd.prog.info? 141).map (·.size) = some 1 := by kernel_rfl

theorem add_mid (b o j : Nat) : (⟨b, o, none⟩ : Addr).add j = ⟨b, o + j, none⟩ := by unfold Addr.add; split <;> simp_all

theorem run_indexA {o : Oper} {a : Act} (ty : TypeId) (x i : Operand) (ho : o.op = .indexAddr ty x i) (g off k n : Nat) (e : TypeId) (hx : a.eval x = .pointer (some ⟨g, off, none⟩)) (hi : a.eval i = .int .i64 (k : Nat))
    (hu : Tryd.prog.underlying ty = some (.array n e)) (hs : (Tryd.prog.info? e).map (·.size) = some 1) (hk : k < n) (w : World) : (execOp a.eval o).run Tryd.prog w = .ok (.value (.pointer (some ⟨g, off + k, none⟩))) w := by
  unfold execOp
  cases hq : Tryd.prog.info? e with
  | none => simp [hq] at hs
  | some inf =>
    have hz : inf.size = 1 := by simpa [hq] using hs
    simp only [ho, hx, hi]
    simp [Instr.indexAt, Instr.sureAddr, run_underlying hu, asIntOf, sizeOf, typeInfo, hq, hz, add_mid, go_sem]
    intro h
    omega

theorem run_indexS {o : Oper} {a : Act} (ty : TypeId) (x i : Operand) (ho : o.op = .indexAddr ty x i) (g off k n cap : Nat) (e : TypeId) (hx : a.eval x = .slice (some ⟨g, off, none⟩) n cap) (hi : a.eval i = .int .i64 (k : Nat))
    (hu : Tryd.prog.underlying ty = some (.slice e)) (hs : (Tryd.prog.info? e).map (·.size) = some 1) (hk : k < n) (w : World) : (execOp a.eval o).run Tryd.prog w = .ok (.value (.pointer (some ⟨g, off + k, none⟩))) w := by
  unfold execOp
  cases hq : Tryd.prog.info? e with
  | none => simp [hq] at hs
  | some inf =>
    have hz : inf.size = 1 := by simpa [hq] using hs
    simp only [ho, hx, hi]
    simp [Instr.indexAt, Instr.sureAddr, run_underlying hu, asIntOf, sizeOf, typeInfo, hq, hz, add_mid, go_sem]
    intro h
    omega

theorem run_load_u32 {o : Oper} {a : Act} (x : Operand) (ho : o.op = .load 141 x) (g off : Nat) (hx : a.eval x = .pointer (some ⟨g, off, none⟩)) (v : Value) (w : World) (h : w.cell? ⟨g, off, none⟩ = some v) : (execOp a.eval o).run Tryd.prog w = .ok (.value v) w := by
  unfold execOp
  simp only [ho, hx]
  go_simp

theorem run_xor32 {o : Oper} {a : Act} (x y : Operand) (ho : o.op = .binOp .xor 141 x y 141) (p q : Nat) (hx : a.eval x = .int .u32 (p : Nat)) (hy : a.eval y = .int .u32 (q : Nat)) (hp : p < 4294967296) (hq : q < 4294967296) (w : World) : (execOp a.eval o).run Tryd.prog w = .ok (.value (.int .u32 ((p ^^^ q : Nat) : Int))) w := by
  have e := u32_xor_nat p q hp hq
  unfold execOp
  simp only [ho, hx, hy]
  go_simp

theorem run_and32 {o : Oper} {a : Act} (x y : Operand) (ho : o.op = .binOp .and 141 x y 141) (p q : Nat) (hx : a.eval x = .int .u32 (p : Nat)) (hy : a.eval y = .int .u32 (q : Nat)) (hp : p < 4294967296) (hq : q < 4294967296) (w : World) : (execOp a.eval o).run Tryd.prog w = .ok (.value (.int .u32 ((p &&& q : Nat) : Int))) w := by
  have e := u32_and_nat p q hp hq
  unfold execOp
  simp only [ho, hx, hy]
  go_simp

theorem run_add32 {o : Oper} {a : Act} (x y : Operand) (ho : o.op = .binOp .add 141 x y 141) (p q : Nat) (hx : a.eval x = .int .u32 (p : Nat)) (hy : a.eval y = .int .u32 (q : Nat)) (hp : p < 4294967296) (hq : q < 4294967296) (w : World) : (execOp a.eval o).run Tryd.prog w = .ok (.value (.int .u32 ((add32 p q : Nat) : Int))) w := by
  unfold execOp
  simp only [ho, hx, hy]
  go_simp
  rw [← Int.natCast_add, wrap_u32]
  rfl

theorem run_build8 {o : Oper} {a : Act} (x0 x1 x2 x3 x4 x5 x6 x7 : Operand) (ho : o.op = .build 142 #[(0, x0), (1, x1), (2, x2), (3, x3), (4, x4), (5, x5), (6, x6), (7, x7)]) (f : Nat → Nat)
    (h0 : a.eval x0 = .int .u32 (f 0 : Nat)) (h1 : a.eval x1 = .int .u32 (f 1 : Nat)) (h2 : a.eval x2 = .int .u32 (f 2 : Nat)) (h3 : a.eval x3 = .int .u32 (f 3 : Nat)) (h4 : a.eval x4 = .int .u32 (f 4 : Nat)) (h5 : a.eval x5 = .int .u32 (f 5 : Nat)) (h6 : a.eval x6 = .int .u32 (f 6 : Nat)) (h7 : a.eval x7 = .int .u32 (f 7 : Nat)) (w : World) :
    (execOp a.eval o).run Tryd.prog w = .ok (.value (.agg (cellsN .u32 8 f))) w := by
  rw [show cellsN .u32 8 f = #[.int .u32 (f 0 : Nat), .int .u32 (f 1 : Nat), .int .u32 (f 2 : Nat), .int .u32 (f 3 : Nat), .int .u32 (f 4 : Nat), .int .u32 (f 5 : Nat), .int .u32 (f 6 : Nat), .int .u32 (f 7 : Nat)] from rfl]
  unfold execOp
  simp only [ho, h0, h1, h2, h3, h4, h5, h6, h7, List.map_toArray, List.map_cons, List.map_nil]
  go_simp

/-- One that yields, guarded or not. -/
theorem wpList_val {ops : Array Oper} {rest : List Oper} {o : Oper} {a : Act} {w : World} {Q : Exit → Act → World → Prop} (d : Option Tmp) (v : Value) (hd : o.dst = d) (hw : Region.wanted o (yielded ops a.tmps) = true)
    (hrun : (execOp a.eval o).run Tryd.prog w = .ok (.value v) w) (h : wpList Tryd.prog ops Q rest (a.put d v) w) : wpList Tryd.prog ops Q (o :: rest) a w :=
  wpList_step fun K hK => by
    subst hd
    rw [if_pos hw]
    unfold Oper.wp
    rw [hrun]
    exact hK _ _ h

theorem not32 (e : Nat) (he : e < 4294967296) : e ^^^ 4294967295 = 4294967295 - e := by
  rw [Nat.xor_comm, show (4294967295 : Nat) = 2 ^ 32 - 1 from rfl]
  apply Nat.eq_of_testBit_eq
  intro i
  rw [Nat.testBit_xor, Nat.testBit_two_pow_sub_one, show 2 ^ 32 - 1 - e = 2 ^ 32 - (e + 1) from by omega, Nat.testBit_two_pow_sub_succ (by omega)]
  by_cases hi : i < 32
  · simp [hi]
  · simp [hi]
    exact Nat.testBit_lt_two_pow (Nat.lt_of_lt_of_le (show e < 2 ^ 32 from he) (Nat.pow_le_pow_right (by decide) (by omega)))

theorem run_not32 {o : Oper} {a : Act} (x : Operand) (ho : o.op = .binOp .xor 141 x (.const (.int .u32 4294967295)) 141) (p : Nat) (hx : a.eval x = .int .u32 (p : Nat)) (hp : p < 4294967296) (w : World) : (execOp a.eval o).run Tryd.prog w = .ok (.value (.int .u32 ((4294967295 - p : Nat) : Int))) w := by
  have := run_xor32 x (.const (.int .u32 4294967295)) ho p 4294967295 hx rfl hp (by omega) w
  rwa [not32 p hp] at this
end Go.Proofs.YtoiaclmfljoomaaDoor
