/- The walk of HmacKeys: a key of more than 64 bytes does what its digest does, a shorter one what it does with noughts behind it. -/
import Derived.Test.YtpamaknclfolhaaDoorHmacAlive
import Derived.Test.YtpamaknclfolhaaDoorBlMore
namespace Go.Proofs.YtpamaknclfolhaaDoor
open Go.ChangeShapes Go.WideShapes Go.ChangeAt Go.RowKit
set_option linter.unusedVariables false

theorem HM_congr {H0 K kf kf' M : Nat → Nat} {kl kl' N : Nat} (h : fillk H0 K kf' kl' = fillk H0 K kf kl) : HM H0 K kf' kl' M N = HM H0 K kf kl M N := by
  unfold HM omsg imsg
  rw [h]

theorem fillk_digest (H0 K kf : Nat → Nat) (kl : Nat) (h : 64 < kl) : fillk H0 K (SHA H0 K kf kl) 32 = fillk H0 K kf kl := by
  funext j
  unfold fillk
  rw [if_neg (by decide), if_pos h]

theorem fillk_longer (H0 K kf : Nat → Nat) (kl r : Nat) (h : kl + r ≤ 64) : fillk H0 K (cat kf kl fun _ => 0) (kl + r) = fillk H0 K kf kl := by
  funext j
  have h2 : ¬ 64 < kl + r := by omega
  have h3 : ¬ 64 < kl := by omega
  unfold fillk
  rw [if_neg h2, if_neg h3]
  by_cases h1 : j < kl
  · have h4 : j < kl + r := by omega
    rw [if_pos h4, if_pos h1, cat_at _ _ _ _ h1]
  · rw [if_neg h1]
    unfold cat
    rw [if_neg h1]
    split <;> rfl

theorem eq_fun (f : Nat → Nat) (hf : ∀ j, j < 32 → f j < 256) : ∀ w, (Op.equalIn 10000 23 (.agg (cellsN .u8 32 f)) (.agg (cellsN .u8 32 f))).run Tryd.prog w = .ok true w := fun w => eq_digest f w hf

theorem run_rem_nat {o : Oper} {a : Act} (x y : Operand) (ho : o.op = .binOp .rem 3 x y 3) (p q : Nat) (hx : a.eval x = .int .i64 p) (hy : a.eval y = .int .i64 q) (hq : 0 < q) (hp : p ≤ 9223372036854775807) (w : World) :
    (execOp a.eval o).run Tryd.prog w = .ok (.value (.int .i64 ((p % q : Nat) : Int))) w := by
  have hq0 : ¬ ((q : Int) = 0) := by omega
  have e : Int.tmod (p : Int) (q : Int) = ((p % q : Nat) : Int) := by rw [Int.tmod_eq_emod_of_nonneg (by omega)]; rfl
  have hlt : p % q ≤ p := Nat.mod_le _ _
  have hw : IntKind.i64.wrap ((p % q : Nat) : Int) = ((p % q : Nat) : Int) := by rw [IntKind.wrap_i64]; omega
  unfold execOp
  simp only [ho, hx, hy]
  go_simp
  omega

theorem run_sub_nat {o : Oper} {a : Act} (x y : Operand) (ho : o.op = .binOp .sub 3 x y 3) (l q : Nat) (hx : a.eval x = .int .i64 65) (hy : a.eval y = .int .i64 l) (hq : q = 65 - l) (hl : l ≤ 64) (w : World) :
    (execOp a.eval o).run Tryd.prog w = .ok (.value (.int .i64 ((q : Nat) : Int))) w := by
  have hw : IntKind.i64.wrap ((65 : Int) - (l : Int)) = (q : Int) := by rw [IntKind.wrap_i64]; omega
  unfold execOp
  simp only [ho, hx, hy]
  go_simp

/-- All that the law asks of the sum: it is that of a key that fills a block alike. -/
theorem same_sums (kf M : Nat → Nat) (l0 l1 c1 : Nat) (a1 : Option Addr) (hM : ∀ j, M j < 256) (hl1 : l1 ≤ c1) (hn1 : l1 < 1152921504606845000) : ∃ X : Array Value, X.size = 32 ∧ X.all (·.oneCell') = true ∧ (∀ w, (Op.equalIn 10000 23 (.agg X) (.agg X)).run Tryd.prog w = .ok true w) ∧
    ∀ (w : World) (a : Option Addr) (kl cap : Nat) (kg : Nat → Nat), Glob Hc Kc w → (∀ j, kg j < 256) → kl ≤ cap → kl < 1152921504606846000 → Bytes w a kl kg → fillk Hc Kc kg kl = fillk Hc Kc kf l0 → Bytes w a1 l1 M →
      Calls Tryd.prog 8 #[.slice a kl cap, .slice a1 l1 c1] w fun e w' => e = .returned (.agg X) ∧ Below w.heap.size w w' := by
  refine ⟨cellsN .u8 32 (HM Hc Kc kf l0 M l1), cellsN_size _ _ _, cellsN_one _ _ _, eq_fun _ (fun j _ => by rw [HM_eq]; exact SHA_lt' _ _ _ _ _), ?_⟩
  intro w a kl cap kg hG hkg hcap hkl hb hfe hb1
  have h := hsum_one cap c1 hG Hc_lt hkg hM hcap hkl hb hl1 hn1 hb1
  rw [HM_congr hfe] at h
  exact h

set_option maxRecDepth 100000 in
set_option maxHeartbeats 3200000 in
theorem keys_walk (a0 : Option Addr) (l0 c0 : Nat) (kf : Nat → Nat) (a1 : Option Addr) (l1 c1 : Nat) (M : Nat → Nat) (more : Int) (w : World) (hG : Glob Hc Kc w) (hk : ∀ j, kf j < 256) (hM : ∀ j, M j < 256)
    (hl0 : l0 ≤ c0) (hc0 : c0 ≤ 140737488351232) (n0 : a0 = none → l0 = 0 ∧ c0 = 0) (b0 : Bytes w a0 l0 kf) (hl1 : l1 ≤ c1) (hc1 : c1 ≤ 140737488351232) (b1 : Bytes w a1 l1 M) (hm1 : -9223372036854775808 ≤ more) (hm2 : more ≤ 9223372036854775807) :
    Calls Tryd.prog 6 #[.slice a0 l0 c0, .slice a1 l1 c1, .int .i64 more] w fun e w' => e = .returned (.bool true) ∧ Below w.heap.size w w' := by
  obtain ⟨X, hX1, hX2, heq, hsum⟩ := same_sums kf M l0 l1 c1 a1 hM hl1 (by omega)
  have hXi : (Tryd.prog.info? 23).map (·.size) = some X.size := by rw [hX1]; exact Tryd.size23
  have hs1 := hsum w a0 l0 c0 kf hG hk hl0 (by omega) b0 rfl b1
  have HSUM : Hid _ := hsum
  have HK : Hid _ := hk
  clear hsum hk
  go_enter Tryd.func6, Tryd.ntmps6
  by_cases hlong : 64 < l0
  · have i0 : (64 : Int) < (l0 : Int) := by omega
    obtain ⟨f, hf⟩ : ∃ f, f = SHA Hc Kc kf l0 := ⟨_, rfl⟩
    have hfl : ∀ j, f j < 256 := fun j => by rw [hf]; exact SHA_lt' _ _ _ _ _
    have hfe : fillk Hc Kc f 32 = fillk Hc Kc kf l0 := by rw [hf]; exact fillk_digest _ _ _ _ hlong
    have hsh : Hid (∀ w', Glob Hc Kc w' → Bytes w' a0 l0 kf → Calls Tryd.prog 16 #[.slice a0 l0 c0] w' fun e w'' => e = .returned (.agg (cellsN .u8 32 f)) ∧ Below w'.heap.size w' w'') := fun w' hG' hb' => by rw [hf]; exact sum_any c0 hG' Hc_lt HK.out hl0 (by omega) hb'
    have HFL : Hid _ := hfl
    have HFE : Hid _ := hfe
    clear hf hfl hfe
    go_wp2_with (first
      | ((go_at_call 8)
         (have _t := hs1)
         (refine hs1.mono ?_)
         (rintro e w1 ⟨rfl, hb1⟩)
         (have hn1 : Has (w1.alloc (.cells (cellsN .u8 32 fun _ => 0) 23)) w1.heap.size 23 (cellsN .u8 32 fun _ => 0) := Has.new _ _ _)
         (clear hs1 _t))
      | ((refine wpList_store_rowG rfl 23 _ _ rfl (w1.heap.size) X rfl rfl 23 _ hn1 hXi (by rw [hX1, cellsN_size]) hX2 ?_)
         (intro w2 hw2)
         (have hA2 : Has w2 w1.heap.size 23 X := (by rw [hw2]; exact hn1.setRow _))
         (have hB2 : Below w.heap.size w w2 := (by rw [hw2]; exact below_setRow (hb1.alloc hb1.size _) hb1.size _))
         (have hsh2 := hsh.out w2 (hG.below hB2 hG.1) (b0.below hB2 (Nat.le_refl _)))
         (clear hw2 hn1 hb1))
      | ((go_at_call 16)
         (have _t := hsh2)
         (refine hsh2.mono ?_)
         (rintro e w3 ⟨rfl, hb3⟩)
         (have hA3 := hA2.below hb3 hA2.lt)
         (have hB3 : Below w.heap.size w w3 := hB2.trans (hb3.mono hB2.size))
         (have hn3 : Has (w3.alloc (.cells (cellsN .u8 32 fun _ => 0) 23)) w3.heap.size 23 (cellsN .u8 32 fun _ => 0) := Has.new _ _ _)
         (clear hsh2 _t hA2 hB2 hb3))
      | ((refine wpList_store_rowG rfl 23 _ _ rfl (w3.heap.size) (cellsN .u8 32 f) rfl rfl 23 _ hn3 (by rw [cellsN_size]; exact Tryd.size23) (by simp [cellsN_size]) (cellsN_one _ _ _) ?_)
         (intro w4 hw4)
         (have hA4 : Has w4 w1.heap.size 23 X := (by rw [hw4]; exact (hA3.alloc _).setRow_other (by have := hA3.lt; omega) _))
         (have hD4 : Has w4 w3.heap.size 23 (cellsN .u8 32 f) := (by rw [hw4]; exact hn3.setRow _))
         (have hB4 : Below w.heap.size w w4 := (by rw [hw4]; exact below_setRow (hB3.alloc hB3.size _) hB3.size _))
         (clear hw4 hn3 hA3 hB3)))
    have hAd : Has w4.drew w1.heap.size 23 X := hA4
    have hDd : Has w4.drew w3.heap.size 23 (cellsN .u8 32 f) := hD4
    have hBd : Below w.heap.size w w4.drew := hB4.drew
    have hal := halive_any w4.drew (hG.below hBd hG.1)
    refine wp_region_held_drew (S := fun w' => Has w' w1.heap.size 23 X) (by kernel_rfl) hAd (fun hHeld => ?_)
    refine callTo 0 (some 18) 10 #[] (by kernel_rfl) rfl rfl (by rfl) (by kernel_rfl) hal ?_
    rintro e wa ⟨rfl, hba⟩
    have hHa := hAd.below hba hAd.lt
    have hDa := hDd.below hba hDd.lt
    have hBa : Below w.heap.size w wa := hBd.trans (hba.mono hBd.size)
    have hca := HSUM.out wa (some ⟨w3.heap.size, 0, none⟩) 32 32 f (hG.below hBa hG.1) HFL.out (Nat.le_refl _) (by decide) (.inr ⟨_, _, rfl, hDa.lt, fun j hj => by rw [Nat.zero_add]; exact hDa.num j hj⟩) HFE.out (b1.below hBa (Nat.le_refl _))
    refine ⟨_, rfl, hHa, ?_⟩
    clear hHeld
    have hHeld := hHa
    simp only [Act.put, List.setIfInBounds_toArray, List.set_cons_zero, List.set_cons_succ]
    refine takeTo 1 (some 19) (.bool true) rfl rfl (by kernel_rfl) (by kernel_rfl) (by kernel_rfl) (fun _ _ _ h => h) (by rfl) (fun _ _ => rfl) hHeld ?_
    simp only [Act.put, List.setIfInBounds_toArray, List.set_cons_zero, List.set_cons_succ]
    refine takeTo 2 (some 20) (.agg X) rfl rfl (by kernel_rfl) (by kernel_rfl) (by kernel_rfl) (fun _ _ _ h => h) (by rfl) (fun wz hz => run_load_row 23 (.tmp 7) rfl w1.heap.size rfl X 23 Tryd.underlying23 hXi wz hz) hHeld ?_
    simp only [Act.put, List.setIfInBounds_toArray, List.set_cons_zero, List.set_cons_succ]
    refine takeTo 3 (some 21) (.slice (some ⟨w3.heap.size, 0, none⟩) 32 32) rfl rfl (by kernel_rfl) (by kernel_rfl) (by kernel_rfl) (fun _ _ _ h => h) (by rfl) (fun _ _ => by kernel_rfl) hHeld ?_
    simp only [Act.put, List.setIfInBounds_toArray, List.set_cons_zero, List.set_cons_succ]
    refine takeTo 4 (some 22) (.slice a1 l1 c1) rfl rfl (by kernel_rfl) (by kernel_rfl) (by kernel_rfl) (fun _ _ _ h => h) (by rfl) (fun _ _ => rfl) hHeld ?_
    simp only [Act.put, List.setIfInBounds_toArray, List.set_cons_zero, List.set_cons_succ]
    refine callTo 5 (some 23) 8 #[.slice (some ⟨w3.heap.size, 0, none⟩) 32 32, .slice a1 l1 c1] (by kernel_rfl) rfl rfl (by rfl) (by kernel_rfl) hca ?_
    rintro e wb ⟨rfl, hbb⟩
    have hHb := hHa.below hbb hHa.lt
    refine ⟨_, rfl, hHb, ?_⟩
    clear hHeld
    have hHeld := hHb
    simp only [Act.put, List.setIfInBounds_toArray, List.set_cons_zero, List.set_cons_succ]
    refine takeTo 6 (some 24) (.bool true) rfl rfl (by kernel_rfl) (by kernel_rfl) (by kernel_rfl) (fun _ _ _ h => h) (by rfl) (fun wz _ => run_eql_same (.tmp 20) (.tmp 23) rfl X rfl rfl heq wz) hHeld ?_
    simp only [Act.put, List.setIfInBounds_toArray, List.set_cons_zero, List.set_cons_succ]
    refine takeTo 7 (some 25) (.bool true) rfl rfl (by kernel_rfl) (by kernel_rfl) (by kernel_rfl) (fun _ _ _ h => h) (by rfl) (fun _ _ => rfl) hHeld ?_
    simp only [Act.put, List.setIfInBounds_toArray, List.set_cons_zero, List.set_cons_succ]
    refine takeTo 8 (some 6) (.bool true) rfl rfl (by kernel_rfl) (by kernel_rfl) (by kernel_rfl) (fun _ _ _ h => h) (by rfl) (fun _ _ => rfl) hHeld ?_
    simp only [Act.put, List.setIfInBounds_toArray, List.set_cons_zero, List.set_cons_succ]
    refine wpAnyH_done (by kernel_rfl) ?_ _
    go_wp2
    go_ret
    exact ⟨rfl, hBa.trans (hbb.mono hBa.size)⟩
  · have i0 : (l0 : Int) ≤ (64 : Int) := by omega
    obtain ⟨p, hp1, hp2, hp3⟩ : ∃ p : Nat, p ≤ 9223372036854775807 ∧ (0 ≤ more → more = (p : Int)) ∧ (more < 0 → -(more + 1) = (p : Int)) := by
      by_cases h : 0 ≤ more
      · exact ⟨more.toNat, by omega, fun _ => by omega, fun _ => by omega⟩
      · exact ⟨(-(more + 1)).toNat, by omega, fun _ => by omega, fun _ => by omega⟩
    obtain ⟨q, hq⟩ : ∃ q, q = 65 - l0 := ⟨_, rfl⟩
    obtain ⟨r, hr⟩ : ∃ r, r = p % q := ⟨_, rfl⟩
    have hrq : r < q := by rw [hr]; exact Nat.mod_lt _ (by omega)
    by_cases hneg : more < 0
    · have hw1 : IntKind.i64.wrap (more + 1) = more + 1 := by rw [IntKind.wrap_i64]; omega
      have hw2 : IntKind.i64.wrap (-(more + 1)) = -(more + 1) := by rw [IntKind.wrap_i64]; omega
      have hpe := hp3 hneg
      rw [hpe] at hw2
      go_wp2_with (first
      | ((go_at_call 8)
         (have _t := hs1)
         (refine hs1.mono ?_)
         (rintro e w1 ⟨rfl, hb1⟩)
         (have hn1 : Has (w1.alloc (.cells (cellsN .u8 32 fun _ => 0) 23)) w1.heap.size 23 (cellsN .u8 32 fun _ => 0) := Has.new _ _ _)
         (clear hs1 _t))
      | ((refine wpList_store_rowG rfl 23 _ _ rfl (w1.heap.size) X rfl rfl 23 _ hn1 hXi (by rw [hX1, cellsN_size]) hX2 ?_)
         (intro w2 hw2)
         (have hA2 : Has w2 w1.heap.size 23 X := (by rw [hw2]; exact hn1.setRow _))
         (have hB2 : Below w.heap.size w w2 := (by rw [hw2]; exact below_setRow (hb1.alloc hb1.size _) hb1.size _))
         (clear hw2 hn1 hb1)))
      try rw [hpe]
      refine wp_region_held_drew (S := fun _ => True) (by kernel_rfl) trivial (fun hHeld => ?_)
      refine takeTo 1 (some 32) (.slice a0 l0 c0) rfl rfl (by kernel_rfl) (by kernel_rfl) (by kernel_rfl) (fun _ _ _ h => h) (by rfl) (fun _ _ => rfl) hHeld ?_
      simp only [Act.put, List.setIfInBounds_toArray, List.set_cons_zero, List.set_cons_succ]
      refine takeTo 3 (some 34) (.int .i64 (p : Nat)) rfl rfl (by kernel_rfl) (by kernel_rfl) (by kernel_rfl) (fun _ _ _ h => h) (by rfl) (fun _ _ => rfl) hHeld ?_
      simp only [Act.put, List.setIfInBounds_toArray, List.set_cons_zero, List.set_cons_succ]
      refine takeTo 4 (some 35) (.slice a0 l0 c0) rfl rfl (by kernel_rfl) (by kernel_rfl) (by kernel_rfl) (fun _ _ _ h => h) (by rfl) (fun _ _ => rfl) hHeld ?_
      simp only [Act.put, List.setIfInBounds_toArray, List.set_cons_zero, List.set_cons_succ]
      refine takeTo 5 (some 36) (.int .i64 (l0 : Nat)) rfl rfl (by kernel_rfl) (by kernel_rfl) (by kernel_rfl) (fun _ _ _ h => h) (by rfl) (fun _ _ => by kernel_rfl) hHeld ?_
      simp only [Act.put, List.setIfInBounds_toArray, List.set_cons_zero, List.set_cons_succ]
      refine takeTo 6 (some 37) (.int .i64 (q : Nat)) rfl rfl (by kernel_rfl) (by kernel_rfl) (by kernel_rfl) (fun _ _ _ h => h) (by rfl) (fun wz _ => run_sub_nat (.const (.int .i64 65)) (.tmp 36) rfl l0 q rfl rfl hq (by omega) wz) hHeld ?_
      simp only [Act.put, List.setIfInBounds_toArray, List.set_cons_zero, List.set_cons_succ]
      refine takeTo 7 (some 38) (.int .i64 (r : Nat)) rfl rfl (by kernel_rfl) (by kernel_rfl) (by kernel_rfl) (fun _ _ _ h => h) (by rfl) (fun wz _ => by rw [hr]; exact run_rem_nat (.tmp 34) (.tmp 37) rfl p q rfl rfl (by omega) hp1 wz) hHeld ?_
      simp only [Act.put, List.setIfInBounds_toArray, List.set_cons_zero, List.set_cons_succ]
      have own0 := World.ownsRow_lit (base := w2.drew.heap.size) (e := 5) (size := 1) w2.drew #[] 0 (Nat.le_refl _) (by unfold maxLen; omega) rfl
      refine ready1 0 (by kernel_rfl) (stepVal (some 31) (.slice (some ⟨w2.drew.heap.size, 0, none⟩) 0 0) (w2.drew.alloc (.cells #[] 5)) rfl rfl (by rfl) (by kernel_rfl) ⟨trivial, ?_⟩)
      simp only [Act.put, List.setIfInBounds_toArray, List.set_cons_zero, List.set_cons_succ]
      have hBd : Below w.heap.size w w2.drew := hB2.drew
      have hb3 : Below w2.drew.heap.size w2.drew (w2.drew.alloc (.cells #[] 5)) := (Below.refl _ _).alloc (Nat.le_refl _) _
      obtain ⟨v4, w4, hr4, own4, gr4⟩ := run_append_bytes (w2.drew.alloc (.cells #[] 5)) w2.drew.heap.size _ 0 (fun _ => 0) own0 a0 l0 c0 kf n0 ((b0.below hBd (Nat.le_refl _)).below hb3 (by have := hBd.size; omega)) (by omega) (by simp)
      have hb4 : Below w2.drew.heap.size w2.drew w4 := hb3.grown gr4 (by simp) (fun k' h => (own0.lt k' h).1)
      rw [Nat.zero_add, cat_zero] at own4
      refine ready1 2 (by kernel_rfl) (stepVal (some 33) v4 w4 rfl rfl (by rfl) (run_append_op (.tmp 31) (.tmp 32) 22 22 rfl _ _ rfl rfl v4 hr4) ⟨trivial, ?_⟩)
      simp only [Act.put, List.setIfInBounds_toArray, List.set_cons_zero, List.set_cons_succ]
      obtain ⟨v5, w5, hr5, own5, gr5⟩ := run_append_noughts w4 w2.drew.heap.size v4 l0 kf own4 r (by omega) hb4.size
      have hb5 : Below w2.drew.heap.size w2.drew w5 := hb4.grown gr5 hb4.size (fun k' h => (own4.lt k' h).1)
      refine ready1 8 (by kernel_rfl) (stepVal (some 39) v5 w5 rfl rfl (by rfl) (run_append_op (.tmp 33) (.tmp 38) 22 3 rfl _ _ rfl rfl v5 hr5) ⟨trivial, ?_⟩)
      simp only [Act.put, List.setIfInBounds_toArray, List.set_cons_zero, List.set_cons_succ]
      refine takeTo 9 (some 9) (v5) rfl rfl (by kernel_rfl) (by kernel_rfl) (by kernel_rfl) (fun _ _ _ h => h) (by rfl) (fun _ _ => rfl) hHeld ?_
      simp only [Act.put, List.setIfInBounds_toArray, List.set_cons_zero, List.set_cons_succ]
      refine wpAnyH_done (by kernel_rfl) ?_ _
      obtain ⟨a5, c5, rfl, hc5, _, by5, _⟩ := own_bytes own5
      have hA2d : Has w2.drew w1.heap.size 23 X := hA2
      have hA5 : Has w5 w1.heap.size 23 X := hA2d.below hb5 hA2d.lt
      have hB5 : Below w.heap.size w w5 := hBd.trans (hb5.mono hBd.size)
      clear own0 own4 own5 hr4 hr5 gr4 gr5 hA2 hB2 hBd hHeld hb3 hb4 hb5
      go_wp2_with fail
      have hAd : Has w5.drew w1.heap.size 23 X := hA5
      have hBd : Below w.heap.size w w5.drew := hB5.drew
      have hal := halive_any w5.drew (hG.below hBd hG.1)
      have by5d : Bytes w5.drew a5 (l0 + r) (cat kf l0 fun _ => 0) := by5
      refine wp_region_held_drew (S := fun w' => Has w' w1.heap.size 23 X) (by kernel_rfl) hAd (fun hHeld => ?_)
      refine callTo 0 (some 40) 10 #[] (by kernel_rfl) rfl rfl (by rfl) (by kernel_rfl) hal ?_
      rintro e wa ⟨rfl, hba⟩
      have hHa := hAd.below hba hAd.lt
      have hBa : Below w.heap.size w wa := hBd.trans (hba.mono hBd.size)
      have hca := HSUM.out wa a5 (l0 + r) c5 (cat kf l0 fun _ => 0) (hG.below hBa hG.1) (cat_lt _ _ _ HK.out (fun _ => by show 0 < 256; decide)) hc5 (by omega) (by5d.below hba (Nat.le_refl _)) (fillk_longer _ _ _ _ _ (by omega)) (b1.below hBa (Nat.le_refl _))
      refine ⟨_, rfl, hHa, ?_⟩
      clear hHeld
      have hHeld := hHa
      simp only [Act.put, List.setIfInBounds_toArray, List.set_cons_zero, List.set_cons_succ]
      refine takeTo 1 (some 41) (.bool true) rfl rfl (by kernel_rfl) (by kernel_rfl) (by kernel_rfl) (fun _ _ _ h => h) (by rfl) (fun _ _ => rfl) hHeld ?_
      simp only [Act.put, List.setIfInBounds_toArray, List.set_cons_zero, List.set_cons_succ]
      refine takeTo 2 (some 42) (.agg X) rfl rfl (by kernel_rfl) (by kernel_rfl) (by kernel_rfl) (fun _ _ _ h => h) (by rfl) (fun wz hz => run_load_row 23 (.tmp 7) rfl w1.heap.size rfl X 23 Tryd.underlying23 hXi wz hz) hHeld ?_
      simp only [Act.put, List.setIfInBounds_toArray, List.set_cons_zero, List.set_cons_succ]
      refine takeTo 3 (some 43) (.slice a5 (l0 + r) c5) rfl rfl (by kernel_rfl) (by kernel_rfl) (by kernel_rfl) (fun _ _ _ h => h) (by rfl) (fun _ _ => rfl) hHeld ?_
      simp only [Act.put, List.setIfInBounds_toArray, List.set_cons_zero, List.set_cons_succ]
      refine takeTo 4 (some 44) (.slice a1 l1 c1) rfl rfl (by kernel_rfl) (by kernel_rfl) (by kernel_rfl) (fun _ _ _ h => h) (by rfl) (fun _ _ => rfl) hHeld ?_
      simp only [Act.put, List.setIfInBounds_toArray, List.set_cons_zero, List.set_cons_succ]
      refine callTo 5 (some 45) 8 #[.slice a5 (l0 + r) c5, .slice a1 l1 c1] (by kernel_rfl) rfl rfl (by rfl) (by kernel_rfl) hca ?_
      rintro e wb ⟨rfl, hbb⟩
      have hHb := hHa.below hbb hHa.lt
      refine ⟨_, rfl, hHb, ?_⟩
      clear hHeld
      have hHeld := hHb
      simp only [Act.put, List.setIfInBounds_toArray, List.set_cons_zero, List.set_cons_succ]
      refine takeTo 6 (some 46) (.bool true) rfl rfl (by kernel_rfl) (by kernel_rfl) (by kernel_rfl) (fun _ _ _ h => h) (by rfl) (fun wz _ => run_eql_same (.tmp 42) (.tmp 45) rfl X rfl rfl heq wz) hHeld ?_
      simp only [Act.put, List.setIfInBounds_toArray, List.set_cons_zero, List.set_cons_succ]
      refine takeTo 7 (some 47) (.bool true) rfl rfl (by kernel_rfl) (by kernel_rfl) (by kernel_rfl) (fun _ _ _ h => h) (by rfl) (fun _ _ => rfl) hHeld ?_
      simp only [Act.put, List.setIfInBounds_toArray, List.set_cons_zero, List.set_cons_succ]
      refine takeTo 8 (some 6) (.bool true) rfl rfl (by kernel_rfl) (by kernel_rfl) (by kernel_rfl) (fun _ _ _ h => h) (by rfl) (fun _ _ => rfl) hHeld ?_
      simp only [Act.put, List.setIfInBounds_toArray, List.set_cons_zero, List.set_cons_succ]
      refine wpAnyH_done (by kernel_rfl) ?_ _
      go_wp2
      go_ret
      exact ⟨rfl, hBa.trans (hbb.mono hBa.size)⟩
    · have hpos : 0 ≤ more := by omega
      obtain rfl := hp2 hpos
      go_wp2_with (first
      | ((go_at_call 8)
         (have _t := hs1)
         (refine hs1.mono ?_)
         (rintro e w1 ⟨rfl, hb1⟩)
         (have hn1 : Has (w1.alloc (.cells (cellsN .u8 32 fun _ => 0) 23)) w1.heap.size 23 (cellsN .u8 32 fun _ => 0) := Has.new _ _ _)
         (clear hs1 _t))
      | ((refine wpList_store_rowG rfl 23 _ _ rfl (w1.heap.size) X rfl rfl 23 _ hn1 hXi (by rw [hX1, cellsN_size]) hX2 ?_)
         (intro w2 hw2)
         (have hA2 : Has w2 w1.heap.size 23 X := (by rw [hw2]; exact hn1.setRow _))
         (have hB2 : Below w.heap.size w w2 := (by rw [hw2]; exact below_setRow (hb1.alloc hb1.size _) hb1.size _))
         (clear hw2 hn1 hb1)))
      refine wp_region_held_drew (S := fun _ => True) (by kernel_rfl) trivial (fun hHeld => ?_)
      refine takeTo 1 (some 32) (.slice a0 l0 c0) rfl rfl (by kernel_rfl) (by kernel_rfl) (by kernel_rfl) (fun _ _ _ h => h) (by rfl) (fun _ _ => rfl) hHeld ?_
      simp only [Act.put, List.setIfInBounds_toArray, List.set_cons_zero, List.set_cons_succ]
      refine takeTo 3 (some 34) (.int .i64 (p : Nat)) rfl rfl (by kernel_rfl) (by kernel_rfl) (by kernel_rfl) (fun _ _ _ h => h) (by rfl) (fun _ _ => rfl) hHeld ?_
      simp only [Act.put, List.setIfInBounds_toArray, List.set_cons_zero, List.set_cons_succ]
      refine takeTo 4 (some 35) (.slice a0 l0 c0) rfl rfl (by kernel_rfl) (by kernel_rfl) (by kernel_rfl) (fun _ _ _ h => h) (by rfl) (fun _ _ => rfl) hHeld ?_
      simp only [Act.put, List.setIfInBounds_toArray, List.set_cons_zero, List.set_cons_succ]
      refine takeTo 5 (some 36) (.int .i64 (l0 : Nat)) rfl rfl (by kernel_rfl) (by kernel_rfl) (by kernel_rfl) (fun _ _ _ h => h) (by rfl) (fun _ _ => by kernel_rfl) hHeld ?_
      simp only [Act.put, List.setIfInBounds_toArray, List.set_cons_zero, List.set_cons_succ]
      refine takeTo 6 (some 37) (.int .i64 (q : Nat)) rfl rfl (by kernel_rfl) (by kernel_rfl) (by kernel_rfl) (fun _ _ _ h => h) (by rfl) (fun wz _ => run_sub_nat (.const (.int .i64 65)) (.tmp 36) rfl l0 q rfl rfl hq (by omega) wz) hHeld ?_
      simp only [Act.put, List.setIfInBounds_toArray, List.set_cons_zero, List.set_cons_succ]
      refine takeTo 7 (some 38) (.int .i64 (r : Nat)) rfl rfl (by kernel_rfl) (by kernel_rfl) (by kernel_rfl) (fun _ _ _ h => h) (by rfl) (fun wz _ => by rw [hr]; exact run_rem_nat (.tmp 34) (.tmp 37) rfl p q rfl rfl (by omega) hp1 wz) hHeld ?_
      simp only [Act.put, List.setIfInBounds_toArray, List.set_cons_zero, List.set_cons_succ]
      have own0 := World.ownsRow_lit (base := w2.drew.heap.size) (e := 5) (size := 1) w2.drew #[] 0 (Nat.le_refl _) (by unfold maxLen; omega) rfl
      refine ready1 0 (by kernel_rfl) (stepVal (some 31) (.slice (some ⟨w2.drew.heap.size, 0, none⟩) 0 0) (w2.drew.alloc (.cells #[] 5)) rfl rfl (by rfl) (by kernel_rfl) ⟨trivial, ?_⟩)
      simp only [Act.put, List.setIfInBounds_toArray, List.set_cons_zero, List.set_cons_succ]
      have hBd : Below w.heap.size w w2.drew := hB2.drew
      have hb3 : Below w2.drew.heap.size w2.drew (w2.drew.alloc (.cells #[] 5)) := (Below.refl _ _).alloc (Nat.le_refl _) _
      obtain ⟨v4, w4, hr4, own4, gr4⟩ := run_append_bytes (w2.drew.alloc (.cells #[] 5)) w2.drew.heap.size _ 0 (fun _ => 0) own0 a0 l0 c0 kf n0 ((b0.below hBd (Nat.le_refl _)).below hb3 (by have := hBd.size; omega)) (by omega) (by simp)
      have hb4 : Below w2.drew.heap.size w2.drew w4 := hb3.grown gr4 (by simp) (fun k' h => (own0.lt k' h).1)
      rw [Nat.zero_add, cat_zero] at own4
      refine ready1 2 (by kernel_rfl) (stepVal (some 33) v4 w4 rfl rfl (by rfl) (run_append_op (.tmp 31) (.tmp 32) 22 22 rfl _ _ rfl rfl v4 hr4) ⟨trivial, ?_⟩)
      simp only [Act.put, List.setIfInBounds_toArray, List.set_cons_zero, List.set_cons_succ]
      obtain ⟨v5, w5, hr5, own5, gr5⟩ := run_append_noughts w4 w2.drew.heap.size v4 l0 kf own4 r (by omega) hb4.size
      have hb5 : Below w2.drew.heap.size w2.drew w5 := hb4.grown gr5 hb4.size (fun k' h => (own4.lt k' h).1)
      refine ready1 8 (by kernel_rfl) (stepVal (some 39) v5 w5 rfl rfl (by rfl) (run_append_op (.tmp 33) (.tmp 38) 22 3 rfl _ _ rfl rfl v5 hr5) ⟨trivial, ?_⟩)
      simp only [Act.put, List.setIfInBounds_toArray, List.set_cons_zero, List.set_cons_succ]
      refine takeTo 9 (some 9) (v5) rfl rfl (by kernel_rfl) (by kernel_rfl) (by kernel_rfl) (fun _ _ _ h => h) (by rfl) (fun _ _ => rfl) hHeld ?_
      simp only [Act.put, List.setIfInBounds_toArray, List.set_cons_zero, List.set_cons_succ]
      refine wpAnyH_done (by kernel_rfl) ?_ _
      obtain ⟨a5, c5, rfl, hc5, _, by5, _⟩ := own_bytes own5
      have hA2d : Has w2.drew w1.heap.size 23 X := hA2
      have hA5 : Has w5 w1.heap.size 23 X := hA2d.below hb5 hA2d.lt
      have hB5 : Below w.heap.size w w5 := hBd.trans (hb5.mono hBd.size)
      clear own0 own4 own5 hr4 hr5 gr4 gr5 hA2 hB2 hBd hHeld hb3 hb4 hb5
      go_wp2_with fail
      have hAd : Has w5.drew w1.heap.size 23 X := hA5
      have hBd : Below w.heap.size w w5.drew := hB5.drew
      have hal := halive_any w5.drew (hG.below hBd hG.1)
      have by5d : Bytes w5.drew a5 (l0 + r) (cat kf l0 fun _ => 0) := by5
      refine wp_region_held_drew (S := fun w' => Has w' w1.heap.size 23 X) (by kernel_rfl) hAd (fun hHeld => ?_)
      refine callTo 0 (some 40) 10 #[] (by kernel_rfl) rfl rfl (by rfl) (by kernel_rfl) hal ?_
      rintro e wa ⟨rfl, hba⟩
      have hHa := hAd.below hba hAd.lt
      have hBa : Below w.heap.size w wa := hBd.trans (hba.mono hBd.size)
      have hca := HSUM.out wa a5 (l0 + r) c5 (cat kf l0 fun _ => 0) (hG.below hBa hG.1) (cat_lt _ _ _ HK.out (fun _ => by show 0 < 256; decide)) hc5 (by omega) (by5d.below hba (Nat.le_refl _)) (fillk_longer _ _ _ _ _ (by omega)) (b1.below hBa (Nat.le_refl _))
      refine ⟨_, rfl, hHa, ?_⟩
      clear hHeld
      have hHeld := hHa
      simp only [Act.put, List.setIfInBounds_toArray, List.set_cons_zero, List.set_cons_succ]
      refine takeTo 1 (some 41) (.bool true) rfl rfl (by kernel_rfl) (by kernel_rfl) (by kernel_rfl) (fun _ _ _ h => h) (by rfl) (fun _ _ => rfl) hHeld ?_
      simp only [Act.put, List.setIfInBounds_toArray, List.set_cons_zero, List.set_cons_succ]
      refine takeTo 2 (some 42) (.agg X) rfl rfl (by kernel_rfl) (by kernel_rfl) (by kernel_rfl) (fun _ _ _ h => h) (by rfl) (fun wz hz => run_load_row 23 (.tmp 7) rfl w1.heap.size rfl X 23 Tryd.underlying23 hXi wz hz) hHeld ?_
      simp only [Act.put, List.setIfInBounds_toArray, List.set_cons_zero, List.set_cons_succ]
      refine takeTo 3 (some 43) (.slice a5 (l0 + r) c5) rfl rfl (by kernel_rfl) (by kernel_rfl) (by kernel_rfl) (fun _ _ _ h => h) (by rfl) (fun _ _ => rfl) hHeld ?_
      simp only [Act.put, List.setIfInBounds_toArray, List.set_cons_zero, List.set_cons_succ]
      refine takeTo 4 (some 44) (.slice a1 l1 c1) rfl rfl (by kernel_rfl) (by kernel_rfl) (by kernel_rfl) (fun _ _ _ h => h) (by rfl) (fun _ _ => rfl) hHeld ?_
      simp only [Act.put, List.setIfInBounds_toArray, List.set_cons_zero, List.set_cons_succ]
      refine callTo 5 (some 45) 8 #[.slice a5 (l0 + r) c5, .slice a1 l1 c1] (by kernel_rfl) rfl rfl (by rfl) (by kernel_rfl) hca ?_
      rintro e wb ⟨rfl, hbb⟩
      have hHb := hHa.below hbb hHa.lt
      refine ⟨_, rfl, hHb, ?_⟩
      clear hHeld
      have hHeld := hHb
      simp only [Act.put, List.setIfInBounds_toArray, List.set_cons_zero, List.set_cons_succ]
      refine takeTo 6 (some 46) (.bool true) rfl rfl (by kernel_rfl) (by kernel_rfl) (by kernel_rfl) (fun _ _ _ h => h) (by rfl) (fun wz _ => run_eql_same (.tmp 42) (.tmp 45) rfl X rfl rfl heq wz) hHeld ?_
      simp only [Act.put, List.setIfInBounds_toArray, List.set_cons_zero, List.set_cons_succ]
      refine takeTo 7 (some 47) (.bool true) rfl rfl (by kernel_rfl) (by kernel_rfl) (by kernel_rfl) (fun _ _ _ h => h) (by rfl) (fun _ _ => rfl) hHeld ?_
      simp only [Act.put, List.setIfInBounds_toArray, List.set_cons_zero, List.set_cons_succ]
      refine takeTo 8 (some 6) (.bool true) rfl rfl (by kernel_rfl) (by kernel_rfl) (by kernel_rfl) (fun _ _ _ h => h) (by rfl) (fun _ _ => rfl) hHeld ?_
      simp only [Act.put, List.setIfInBounds_toArray, List.set_cons_zero, List.set_cons_succ]
      refine wpAnyH_done (by kernel_rfl) ?_ _
      go_wp2
      go_ret
      exact ⟨rfl, hBa.trans (hbb.mono hBa.size)⟩
end Go.Proofs.YtpamaknclfolhaaDoor
