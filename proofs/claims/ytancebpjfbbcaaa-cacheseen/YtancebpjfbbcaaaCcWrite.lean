/- cache: Write. -/
import Derived.Test.YtancebpjfbbcaaaCcHas
namespace Go.Proofs.Ytancebpjfbbcaaa
open Go.ChangeShapes Go.WideShapes Go.ChangeAt Go.RowKit Go.MapKept
set_option linter.unusedVariables false

theorem own_low {w : World} {b b' e sz n : Nat} {v : Value} {xs : List Value} (h : w.ownsRow b e sz v n xs) (hb : b' ≤ b) : w.ownsRow b' e sz v n xs := by
  refine ⟨h.1, ?_⟩
  rcases h.2 with h0 | ⟨g, cap, cur, rfl, h1, r⟩
  · exact .inl h0
  · exact .inr ⟨g, cap, cur, rfl, Nat.le_trans hb h1, r⟩

variable {D : DevRep} {B : Nat} {w0 w w' : World} {P : Nat → Nat} {S : Nat → DS} {C M : Nat → Nat} {F : Nat → Nat → Prop} {cb : Nat} {dv kv : Value} {o : GV} {ks : List GV} {GO GK : Nat → Prop}

/-- What Write answers. -/
def cwErr (S : Nat → DS) (d s : Int) (L : Nat) : Int := if inC d s = false ∨ L ≠ 64 then 1 else if (S d.toNat).dead then 142 else 0

/-- The open group alone was turned. -/
def OpenR (D : DevRep) (B : Nat) (w0 w : World) (cb : Nat) (P : Nat → Nat) (S : Nat → DS) (C M : Nat → Nat) (F : Nat → Nat → Prop) (dv : Value) (kv : Value) (ks : List GV) (GO GK : Nat → Prop) (Q : List Rw → Prop) (w' : World) : Prop := ∃ o' GO', CI D B w0 w' cb P S C M F dv o' kv ks GO' GK ∧ Q o'.rows ∧ Only (fun k => GO k ∨ GK k) w w' ∧ ∀ k, GO' k → GO k ∨ w.heap.size ≤ k

theorem Fam.only (hD : DevOk D) (h : Fam D B w0 w P S C M F) {X : Nat → Prop} (ho : Only X w w') (hX : ∀ k, X k → ¬ FamB C F k) (hB : ∀ k, X k → B ≤ k) : Fam D B w0 w' P S C M F :=
  ⟨fun i hi => (h.dev i hi).only hD ho (fun k hk hx => hX k hx ⟨i, hi, .inl hk⟩) (fun hx => hX _ hx ⟨i, hi, .inr rfl⟩) hB, h.n, h.ap⟩

theorem CI.put (hD : DevOk D) (h : CI D B w0 w cb P S C M F dv o kv ks GO GK) {w3 : World} {l : List Rw} {GN : Nat → Prop} (hb : Below w.heap.size w w3) (hN : ∀ k, GN k → w.heap.size ≤ k) (hp : PutR w3 cb P dv l kv ks GO GK GN w') : OpenR D B w0 w cb P S C M F dv kv ks GO GK (fun r => r = l) w' := by
  obtain ⟨o', GO', h1, h2, h3, h4⟩ := hp
  have hg : ∀ k, GO' k → GO k ∨ w.heap.size ≤ k := fun k hk => (h4 k hk).imp id (fun h => h.elim (hN k) (fun h => Nat.le_trans hb.size h))
  have ho : Only (fun k => GO k ∨ GK k) w w' := (Only.of_below hb (Nat.le_refl _)).trans (h3.mono (fun k hk => hk.imp id (fun e => e ▸ h.c.gcb))) (fun _ _ h => h)
  have hB := (h.fam.dev 0 (by decide)).sz
  refine ⟨o', GO', ⟨h.fam.only hD ho (fun k hk => h.sep k hk) (fun k hk => h.base k hk), h1, ?_, ?_⟩, h2, ho, hg⟩
  · rintro k (hk | hk) hf
    · rcases hg k hk with h5 | h5
      · exact h.sep k (.inl h5) hf
      · exact absurd (h.lt hD k (.inr hf)) (Nat.not_lt.2 h5)
    · exact h.sep k (.inr hk) hf
  · rintro k (hk | hk)
    · exact (hg k hk).elim (fun h5 => h.base k (.inl h5)) (fun h5 => Nat.le_trans hB h5)
    · exact h.base k (.inr hk)

set_option maxRecDepth 100000 in
set_option maxHeartbeats 1000000 in
theorem ccwrite_nil (d s : Int) (a : Option Addr) (L cap : Nat) (w : World) : Calls Try.prog 10 #[.pointer none, .int .i64 d, .int .i64 s, .slice a L cap] w fun e w' => e = .returned (.int .i64 1) ∧ Below w.heap.size w w' := by
  have hh := has_nil d s w
  go_enter Try.func10, Try.ntmps10
  go_wp2_with (first
    | ((go_at_call 43)
       (refine hh.mono ?_)
       (rintro e w1 ⟨rfl, hb1⟩)
       (clear hh)))
  go_ret
  exact ⟨rfl, hb1⟩

set_option maxRecDepth 100000 in
set_option maxHeartbeats 2000000 in
theorem ccwrite_c (hD : DevOk D) (hZ : DevSz D) (h : CI D B w0 w cb P S C M F dv o kv ks GO GK) (d s : Int) {a : Option Addr} {L cap : Nat} {b : Nat → Nat} (hb : Bytes w a L b) (hn : a = none → L = 0 ∧ cap = 0) (hb2 : ∀ j, b j < 256) (hlen : o.rows.length ≤ 1000) :
    Calls Try.prog 10 #[ptr cb, .int .i64 d, .int .i64 s, .slice a L cap] w fun e w' => e = .returned (.int .i64 (cwErr S d s L)) ∧ ((cwErr S d s L ≠ 0 ∧ Below w.heap.size w w') ∨ (cwErr S d s L = 0 ∧ OpenR D B w0 w cb P S C M F dv kv ks GO GK (fun r => ∃ v, r = putW o.rows d.toNat s.toNat b v) w')) := by
  have hh := has_cC hZ h d s
  cases hi : inC d s with
  | false =>
    have he : cwErr S d s L = 1 := if_pos (.inl hi)
    rw [hi] at hh
    have HE := hidC he
    clear h hb hn hb2 hi he
    rw [HE.out]
    go_enter Try.func10, Try.ntmps10
    go_wp2_with (first
      | ((go_at_call 43)
         (refine hh.mono ?_)
         (rintro e w1 ⟨rfl, hb1⟩)
         (clear hh)))
    go_ret
    exact ⟨rfl, .inl ⟨by decide, hb1⟩⟩
  | true =>
    rw [hi] at hh
    by_cases hL : L = 64
    · subst hL
      have hi' := of_decide_eq_true hi
      obtain ⟨d, rfl⟩ : ∃ q : Nat, d = (q : Int) := ⟨d.toNat, by omega⟩
      obtain ⟨s, rfl⟩ : ∃ q : Nat, s = (q : Int) := ⟨s.toNat, by omega⟩
      have hd : d < 3 := by omega
      have hs : s < 6 := by omega
      simp only [Int.toNat_natCast]
      have HDE := hidC (fun w1 (hb1 : Below w.heap.size w w1) => hD.isDead w1 (P d) (S d) (C d) (M d) (F d) ((h.next hD hb1).fam.dev d hd).dev)
      obtain ⟨g, c, hdv, _, hgl, hc⟩ := h.c.devs
      have hcd := hc d hd
      have c0 := h.c.str.cell 0
      simp only [List.getElem?_toArray, List.getElem?_cons_zero] at c0
      rw [hdv] at c0
      have hcb := h.c.lt cb (.inr h.c.gcb)
      have i2 : (d : Int) < 3 := by omega
      have i3 : (0 : Int) ≤ (d : Int) := by omega
      cases hdead : (S d).dead with
      | true =>
        have he : cwErr S d s 64 = 142 := by unfold cwErr; rw [if_neg (by rw [hi]; simp), if_pos (by simpa using hdead)]
        rw [hdead] at HDE
        have HE := hidC he
        clear h hb hn hb2 hi he hc hdv hi'
        rw [HE.out]
        go_enter Try.func10, Try.ntmps10
        go_wp2_with (first
          | ((go_at_call 43)
             (refine hh.mono ?_)
             (rintro e w1 ⟨rfl, hb1⟩)
             (have c1 := (hb1.cell (p := ⟨cb, 0, none⟩) hcb).trans c0)
             (have cd1 := (hb1.cell (p := ⟨g, d, none⟩) hgl).trans hcd)
             (clear hh c0 hcd))
          | ((go_at_call 44)
             (refine (HDE.out w1 hb1).mono ?_)
             (rintro e w2 ⟨rfl, hb2⟩)))
        go_ret
        exact ⟨rfl, .inl ⟨by decide, hb1.trans (hb2.mono hb1.size)⟩⟩
      | false =>
        have he : cwErr S d s 64 = 0 := by unfold cwErr; rw [if_neg (by rw [hi]; simp), if_neg (by simp [hdead])]
        rw [hdead] at HDE
        have HE := hidC he
        have HPL := hidC (fun w1 (hb1 : Below w.heap.size w w1) => placeOf_c hD hZ (h.next hD hb1) (s := s) hd)
        have HCL := hidC (fun w1 (hb1 : Below w.heap.size w w1) => clone_anyC (C := cap) (hb.below hb1 (Nat.le_refl _)) hn (by omega))
        have HPU := hidC (fun w3 v (hb3 : Below w.heap.size w w3) (hr : ∃ wa, w.heap.size ≤ wa ∧ w3.ownsRow wa 5 1 v 64 (bl b 64)) => put_c (f := b) (v := v) (GN := fun k => v.ownBlock = some k ∧ w.heap.size ≤ k) (h.next hD hb3).c hd hs
          (by obtain ⟨wa, h1, h2⟩ := hr; exact ⟨hb2, (own_low h2 (Nat.zero_le _)), fun k e => ⟨e, Nat.le_trans h1 (h2.lt k e).1⟩⟩)
          (by obtain ⟨wa, h1, h2⟩ := hr; exact fun k e => ⟨(h2.lt k e.1).2, fun e2 => absurd (h.c.lt k (.inr e2)) (Nat.not_lt.2 e.2)⟩) hlen)
        have HFIN := hidC (fun w3 v (hb3 : Below w.heap.size w w3) w4 (hp : PutR w3 cb P dv (putW o.rows d s b v) kv ks GO GK (fun k => v.ownBlock = some k ∧ w.heap.size ≤ k) w4) => (CI.put hD h hb3 (fun k e => e.2) hp))
        clear h hb hn hb2 hi he hc hdv hi'
        rw [HE.out]
        go_enter Try.func10, Try.ntmps10
        go_wp2_with (first
          | ((go_at_call 43)
             (refine hh.mono ?_)
             (rintro e w1 ⟨rfl, hb1⟩)
             (have c1 := (hb1.cell (p := ⟨cb, 0, none⟩) hcb).trans c0)
             (have cd1 := (hb1.cell (p := ⟨g, d, none⟩) hgl).trans hcd)
             (clear hh c0 hcd))
          | ((go_at_call 44)
             (refine (HDE.out w1 hb1).mono ?_)
             (rintro e w2 ⟨rfl, hb2⟩)))
        have hbX : Below w.heap.size w w2.drew := (hb1.trans (hb2.mono hb1.size)).drew
        refine wp_region_held_drew (S := fun wz => True) (by kernel_rfl) (trivial) (fun hHeld => ?_)
        refine takeTo 0 (some 29) (.pointer (some ⟨cb, 0, none⟩)) rfl rfl (by kernel_rfl) (by kernel_rfl) (by kernel_rfl) (fun _ _ _ h => h) (by rfl) (fun _ _ => rfl) hHeld ?_
        simp only [Act.put, List.setIfInBounds_toArray, List.set_cons_zero, List.set_cons_succ]
        refine takeTo 1 (some 30) (.pointer (some ⟨cb, 0, none⟩)) rfl rfl (by kernel_rfl) (by kernel_rfl) (by kernel_rfl) (fun _ _ _ h => h) (by rfl) (fun _ _ => rfl) hHeld ?_
        simp only [Act.put, List.setIfInBounds_toArray, List.set_cons_zero, List.set_cons_succ]
        refine takeTo 2 (some 31) (.pointer (some ⟨cb, 1, none⟩)) rfl rfl (by kernel_rfl) (by kernel_rfl) (by kernel_rfl) (fun _ _ _ h => h) (by rfl) (fun _ _ => rfl) hHeld ?_
        simp only [Act.put, List.setIfInBounds_toArray, List.set_cons_zero, List.set_cons_succ]
        refine takeTo 3 (some 32) (.pointer (some ⟨cb, 0, none⟩)) rfl rfl (by kernel_rfl) (by kernel_rfl) (by kernel_rfl) (fun _ _ _ h => h) (by rfl) (fun _ _ => rfl) hHeld ?_
        simp only [Act.put, List.setIfInBounds_toArray, List.set_cons_zero, List.set_cons_succ]
        refine takeTo 4 (some 33) (.int .i64 (d : Nat)) rfl rfl (by kernel_rfl) (by kernel_rfl) (by kernel_rfl) (fun _ _ _ h => h) (by rfl) (fun _ _ => rfl) hHeld ?_
        simp only [Act.put, List.setIfInBounds_toArray, List.set_cons_zero, List.set_cons_succ]
        refine takeTo 5 (some 34) (.int .i64 (s : Nat)) rfl rfl (by kernel_rfl) (by kernel_rfl) (by kernel_rfl) (fun _ _ _ h => h) (by rfl) (fun _ _ => rfl) hHeld ?_
        simp only [Act.put, List.setIfInBounds_toArray, List.set_cons_zero, List.set_cons_succ]
        refine takeTo 7 (some 36) (.int .i64 (d : Nat)) rfl rfl (by kernel_rfl) (by kernel_rfl) (by kernel_rfl) (fun _ _ _ h => h) (by rfl) (fun _ _ => rfl) hHeld ?_
        simp only [Act.put, List.setIfInBounds_toArray, List.set_cons_zero, List.set_cons_succ]
        refine takeTo 8 (some 37) (.int .i64 (s : Nat)) rfl rfl (by kernel_rfl) (by kernel_rfl) (by kernel_rfl) (fun _ _ _ h => h) (by rfl) (fun _ _ => rfl) hHeld ?_
        simp only [Act.put, List.setIfInBounds_toArray, List.set_cons_zero, List.set_cons_succ]
        refine takeTo 9 (some 38) (.slice a 64 cap) rfl rfl (by kernel_rfl) (by kernel_rfl) (by kernel_rfl) (fun _ _ _ h => h) (by rfl) (fun _ _ => rfl) hHeld ?_
        simp only [Act.put, List.setIfInBounds_toArray, List.set_cons_zero, List.set_cons_succ]
        refine callTo 6 (some 35) 46 #[ptr cb, .int .i64 (d : Nat), .int .i64 (s : Nat)] (by kernel_rfl) rfl rfl (by rfl) (by kernel_rfl) (HPL.out w2.drew hbX) ?_
        rintro e wa ⟨rfl, hbwa⟩
        refine ⟨_, rfl, trivial, ?_⟩
        simp only [Act.put, List.setIfInBounds_toArray, List.set_cons_zero, List.set_cons_succ]
        have hbA : Below w.heap.size w wa := hbX.trans (hbwa.mono hbX.size)
        refine callTo 10 (some 39) 47 #[.slice a 64 cap] (by kernel_rfl) rfl rfl (by rfl) (by kernel_rfl) (HCL.out wa hbA) ?_
        rintro e w3 ⟨hbw3, v, rfl, how3⟩
        obtain ⟨vA, vC, hvE, _⟩ := own_slice (own_low how3 (Nat.zero_le _))
        subst hvE
        refine ⟨_, rfl, trivial, ?_⟩
        simp only [Act.put, List.setIfInBounds_toArray, List.set_cons_zero, List.set_cons_succ]
        have hbw3x : Below w.heap.size w w3 := hbA.trans (hbw3.mono hbA.size)
        refine takeTo 11 (some 40) (.agg #[.int .i64 (d : Nat), .int .i64 (s : Nat), .slice vA 64 vC]) rfl rfl (by kernel_rfl) (by kernel_rfl) (by kernel_rfl) (fun _ _ _ h => h) (by rfl) (fun wz _ => by unfold execOp; go_simp) trivial ?_
        simp only [Act.put, List.setIfInBounds_toArray, List.set_cons_zero, List.set_cons_succ]
        refine callTo 12 (some 41) 45 #[.pointer (some ⟨cb, 1, none⟩), plv d s, .agg #[.int .i64 (d : Nat), .int .i64 (s : Nat), .slice vA 64 vC]] (by kernel_rfl) rfl rfl (by rfl) (by kernel_rfl) (HPU.out w3 (.slice vA 64 vC) hbw3x ⟨_, hbA.size, how3⟩) ?_
        rintro e w4 ⟨rfl, hw4⟩
        refine ⟨_, rfl, trivial, ?_⟩
        simp only [Act.put, List.setIfInBounds_toArray, List.set_cons_zero, List.set_cons_succ]
        refine wpAnyH_done (by kernel_rfl) ?_ _
        clear hHeld
        go_wp2
        go_ret
        exact ⟨by first | rfl | trivial, .inr ⟨by first | rfl | trivial, by obtain ⟨o4, GO4, q1, q2, q3, q4⟩ := HFIN.out w3 (.slice vA 64 vC) hbw3x w4 hw4; exact ⟨o4, GO4, q1, ⟨_, q2⟩, q3, q4⟩⟩⟩
    · have he : cwErr S d s L = 1 := if_pos (.inr hL)
      have hL' : ¬ (L : Int) = 64 := by omega
      have HE := hidC he
      clear h hb hn hb2 hi he
      rw [HE.out]
      go_enter Try.func10, Try.ntmps10
      go_wp2_with (first
        | ((go_at_call 43)
           (refine hh.mono ?_)
           (rintro e w1 ⟨rfl, hb1⟩)
           (clear hh)))
      go_ret
      exact ⟨rfl, .inl ⟨by decide, hb1⟩⟩
end Go.Proofs.Ytancebpjfbbcaaa
