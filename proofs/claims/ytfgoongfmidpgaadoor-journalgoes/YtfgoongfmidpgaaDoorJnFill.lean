/- The law's fill. -/
import Derived.Test.YtfgoongfmidpgaaDoorJnCatR
namespace Go.Proofs.YtfgoongfmidpgaaDoor
open Go.ChangeShapes Go.WideShapes Go.ChangeAt Go.RowKit
set_option linter.unusedVariables false

variable {D : DevRep} {B : Nat} {w0 w w' : World} {j p c m n : Nat} {s : DS} {F : Nat → Prop} {rs : List RC} {fl : Nat} {G : Nat → Prop}

/-- Those of some records that are added. -/
def filled : List RC → Nat → List RC → List RC
  | _, _, [] => []
  | rs, N, l :: ls => if addErr rs N l.L = 0 then l :: filled (rs ++ [l]) N ls else filled rs N ls

theorem filled_snoc : ∀ (ls rs : List RC) (N : Nat) (x : RC), filled rs N (ls ++ [x]) = filled rs N ls ++ (if addErr (rs ++ filled rs N ls) N x.L = 0 then [x] else [])
  | [], rs, N, x => by
    show (if addErr rs N x.L = 0 then x :: [] else []) = [] ++ (if addErr (rs ++ []) N x.L = 0 then [x] else [])
    rw [List.append_nil, List.nil_append]
  | l :: ls, rs, N, x => by
    show (if addErr rs N l.L = 0 then l :: filled (rs ++ [l]) N (ls ++ [x]) else filled rs N (ls ++ [x])) = (if addErr rs N l.L = 0 then l :: filled (rs ++ [l]) N ls else filled rs N ls) ++ (if addErr (rs ++ (if addErr rs N l.L = 0 then l :: filled (rs ++ [l]) N ls else filled rs N ls)) N x.L = 0 then [x] else [])
    by_cases h : addErr rs N l.L = 0
    · rw [if_pos h, if_pos h, filled_snoc ls (rs ++ [l]) N x, List.append_assoc]
      rfl
    · rw [if_neg h, if_neg h, filled_snoc ls rs N x]

theorem filled_len : ∀ (ls rs : List RC) (N : Nat), (filled rs N ls).length ≤ ls.length
  | [], rs, N => Nat.le_refl _
  | l :: ls, rs, N => by
    unfold filled
    split
    · have := filled_len ls (rs ++ [l]) N
      simp only [List.length_cons]
      omega
    · have := filled_len ls rs N
      simp only [List.length_cons]
      omega

theorem filled_mem : ∀ (ls rs : List RC) (N : Nat) (r : RC), r ∈ filled rs N ls → r ∈ ls
  | [], rs, N, r, h => h
  | l :: ls, rs, N, r, h => by
    unfold filled at h
    split at h
    · rcases List.mem_cons.1 h with rfl | h2
      · exact List.mem_cons_self ..
      · exact List.mem_cons_of_mem _ (filled_mem ls _ N r h2)
    · exact List.mem_cons_of_mem _ (filled_mem ls rs N r h)

theorem addErr_bd (rs : List RC) (N L : Nat) : addErr rs N L = 91 ∨ addErr rs N L = 92 ∨ addErr rs N L = 0 := by
  unfold addErr
  split
  · exact .inl rfl
  · split
    · exact .inr (.inl rfl)
    · exact .inr (.inr rfl)

theorem addErr_zero {rs : List RC} {N L : Nat} (h : addErr rs N L = 0) : 1 ≤ L ∧ L ≤ 8192 ∧ endOf 0 rs + 8 + jrnd L ≤ N := by
  unfold addErr at h
  split at h
  · cases h
  · split at h
    · cases h
    · omega

/-- What fill holds behind i of them. -/
def FillI (D : DevRep) (B : Nat) (w0 w : World) (j p : Nat) (s : DS) (c m : Nat) (F : Nat → Prop) (rs : List RC) (fl : Nat) (G : Nat → Prop) (ls : List RC) (i : Nat) (v : Value) (wr : World) : Prop :=
  ∃ G1 X, JStep D B w0 w wr j p s c m F F (rs ++ filled rs (64 * s.n) (ls.take i)) fl G G1 ∧ OwnR B wr v (filled rs (64 * s.n) (ls.take i)) X ∧ Apt F c G1 X ∧ ∀ k, X k → w.heap.size ≤ k

theorem JStep.trans {w1 w2 : World} {s1 s2 : DS} {m1 m2 : Nat} {F1 F2 : Nat → Prop} {rs1 rs2 : List RC} {fl1 fl2 : Nat} {G1 G2 : Nat → Prop} (h1 : JStep D B w0 w w1 j p s1 c m1 F F1 rs1 fl1 G G1) (h2 : JStep D B w0 w1 w2 j p s2 c m2 F1 F2 rs2 fl2 G1 G2) : JStep D B w0 w w2 j p s2 c m2 F F2 rs2 fl2 G G2 :=
  ⟨h2.jin, h1.only.trans h2.only (fun x hx h => by
      rcases h with (h3 | h3) | h3
      · exact (h1.grewF x h3).elim (fun h4 => .inl (.inl h4)) (fun h4 => by omega)
      · exact .inl (.inr h3)
      · exact (h1.grewG x h3).elim (fun h4 => .inr h4) (fun h4 => by omega)),
    fun k hk => (h2.grewF k hk).elim (fun h3 => h1.grewF k h3) (fun h3 => .inr (Nat.le_trans h1.only.size h3)), fun k hk => (h2.grewG k hk).elim (fun h3 => h1.grewG k h3) (fun h3 => .inr (Nat.le_trans h1.only.size h3))⟩

/-- Behind a step, what the law's own lists turn. -/
theorem JStep.own {w1 w2 : World} {s1 : DS} {m1 : Nat} {F1 : Nat → Prop} {rs1 : List RC} {fl1 : Nat} {G1 X : Nat → Prop} (h1 : JStep D B w0 w w1 j p s1 c m1 F F1 rs1 fl1 G G1) (hD : DevOk D) (ho : Only X w1 w2) (hX : ∀ k, X k → w.heap.size ≤ k) (hB : B ≤ w.heap.size) (ha : Apt F1 c G1 X) : JStep D B w0 w w2 j p s1 c m1 F F1 rs1 fl1 G G1 :=
  ⟨h1.jin.own hD ho (fun k hk => Nat.le_trans hB (hX k hk)) ha, h1.only.trans ho (fun x hx h => by have := hX x h; omega), h1.grewF, h1.grewG⟩

/-- What fill answers and leaves. -/
def FillR (D : DevRep) (B : Nat) (w0 w : World) (j p : Nat) (s : DS) (c m : Nat) (F : Nat → Prop) (rs : List RC) (fl : Nat) (G : Nat → Prop) (ls : List RC) (e : Ending) (w' : World) : Prop :=
  ∃ v, e = .returned v ∧ FillI D B w0 w j p s c m F rs fl G ls 40 v w'

set_option maxRecDepth 100000 in
set_option maxHeartbeats 4000000 in
theorem fill_c (hD : DevOk D) (hG : Glob Hc Kc w0) (hB1 : 1 < B) (hB : w0.heap.size ≤ B) (h : JIn D B w0 w j p s c m F rs fl G) (hn : s.n ≤ 1000) {la : Option Addr} {n lc : Nat} {ls : List RC} (hl : Rl w0 la ls) (hln : n = ls.length) :
    Calls Tryd.prog 28 #[ptr j, .slice la n lc] w (FillR D B w0 w j p s c m F rs fl G ls) := by
  have HLN : Hid (n = ls.length) := hln
  have hnm : n ≤ 9223372036854775807 := by have := hl.1; unfold maxLen at this; omega
  clear hln
  go_enter Tryd.func28, Tryd.ntmps28
  go_wp2
  go_loopw [5, 6] (fun v iv wr => ∃ (i : Nat) (y : Value), i ≤ n ∧ i ≤ 40 ∧ iv = .int .i64 (i : Nat) ∧ v = y ∧ FillI D B w0 w j p s c m F rs fl G ls i y wr) (fun _ iv _ => 40 - (intOf iv).toNat)
  case atStart => exact ⟨0, _, Nat.zero_le _, Nat.zero_le _, rfl, rfl, G, fun _ => False, by rw [List.take_zero]; show JStep D B w0 w w j p s c m F F (rs ++ []) fl G G; rw [List.append_nil]; exact JStep.refl h hD (Below.refl _ _), OwnR.nil h.dev.sz, fun k hk => hk.elim, fun k hk => hk.elim⟩
  case round =>
    obtain ⟨i, v3, hin, hi40, rfl, e3, hF⟩ := hrel
    obtain rfl := e3.symm
    by_cases hlt : i < n ∧ i < 40
    · obtain ⟨G1, X, hS, hO, hA, hXw⟩ := hF
      have i0 : (i : Int) < (n : Int) := by omega
      have i1 : (i : Int) < 40 := by omega
      have i2 : (0 : Int) ≤ (i : Int) := by omega
      obtain ⟨r, hr⟩ : ∃ r, ls[i]? = some r := ⟨_, List.getElem?_eq_getElem (by rw [← HLN.out]; exact hlt.1)⟩
      have hbw : Below B w0 wr := hS.jin.dev.below
      obtain ⟨x, o, ad, C, e9, hx, hc, hby⟩ := hl.2 i r hr
      subst e9
      have hcw : wr.cell? ⟨x, o + i, none⟩ = some (.slice ad r.L C) := (hbw.cell (p := ⟨x, o + i, none⟩) (show x < B by omega)).trans hc
      have hbyw := hby.below hbw hB
      have hadd := j_add hD hG hB1 hS.jin hn hbyw
      have HS : Hid (ls.take (i + 1) = ls.take i ++ [r]) := by show ls.take (i + 1) = ls.take i ++ [r]; rw [List.take_add_one, hr]; rfl
      have hadB : ∀ b o, ad = some ⟨b, o, none⟩ → r.L ≠ 0 → b < B := by
        intro b o e hL
        rcases hby.at_ with h0 | ⟨b', o', e', hlt', _⟩
        · exact absurd h0 hL
        · rw [e] at e'
          cases e'
          omega
      obtain ⟨Q, hQ⟩ : ∃ Q, Q = filled rs (64 * s.n) (ls.take i) := ⟨_, rfl⟩
      have HQ : Hid (Q = filled rs (64 * s.n) (ls.take i)) := hQ
      have hQl : Q.length ≤ 40 := by rw [hQ]; have := filled_len (ls.take i) rs (64 * s.n); rw [List.length_take] at this; omega
      rw [← hQ] at hS hO hadd
      have HFS : Hid (filled rs (64 * s.n) (ls.take (i + 1)) = Q ++ (if addErr (rs ++ Q) (64 * s.n) r.L = 0 then [r] else [])) := by
        show filled rs (64 * s.n) (ls.take (i + 1)) = Q ++ (if addErr (rs ++ Q) (64 * s.n) r.L = 0 then [r] else [])
        rw [HS.out, filled_snoc, ← hQ]
      obtain ⟨E, hE⟩ : ∃ E, E = addErr (rs ++ Q) (64 * s.n) r.L := ⟨_, rfl⟩
      have HE : Hid (E = addErr (rs ++ Q) (64 * s.n) r.L) := hE
      rw [← hE] at hadd
      have hEb := addErr_bd (rs ++ Q) (64 * s.n) r.L
      rw [← hE] at hEb
      obtain ⟨L, hL⟩ : ∃ L, L = r.L := ⟨_, rfl⟩
      have HL : Hid (L = r.L) := hL
      rw [← hL] at hcw hadd
      have hc0 : w0.cell? ⟨x, o + i, none⟩ = some (.slice ad L C) := by rw [hL]; exact hc
      clear hQ hE hc hL
      by_cases hE0 : E = 0
      · subst hE0
        have HA : Hid (addRs (rs ++ Q) (64 * s.n) r.L r.f = rs ++ Q ++ [r]) := by
          show addRs (rs ++ Q) (64 * s.n) r.L r.f = rs ++ Q ++ [r]
          unfold addRs
          rw [if_pos HE.out.symm]
        go_wp2_with (first
          | ((go_at_call 13)
             (refine hadd.mono ?_)
             (rintro e w1 ⟨rfl, G2, hS2⟩)
             (clear hadd)
             (rw [HL.out, HA.out] at hS2)
             (have hS12 := hS.trans hS2)
             (obtain ⟨hO1, hA1⟩ := hS2.row hS.jin.dev.base hS.jin.dev.cb hS.jin.base hO hA)
             (have hbw1 : Below B w0 w1 := hS2.jin.dev.below)
             (have hcw1 : w1.cell? ⟨x, o + i, none⟩ = some (.slice ad L C) := (hbw1.cell (p := ⟨x, o + i, none⟩) (show x < B by omega)).trans hc0)
             (obtain ⟨cells, hrow, hrb, hre⟩ := hO1.row)
             (have hrowA := own_belowJ hrow (show Below w1.heap.size w1 (w1.alloc (.cells #[.slice ad L C] 33)) from (Below.refl _ _).alloc (Nat.le_refl _) _))
             (have hnc : Has (w1.alloc (.cells #[.slice ad L C] 33)) w1.heap.size 33 #[.slice ad L C] := Has.new _ _ _)
             (have hszA : B ≤ (w1.alloc (.cells #[.slice ad L C] 33)).heap.size := Nat.le_trans hO1.sz ((Below.refl w1.heap.size w1).alloc (Nat.le_refl _) _).size)
             (obtain ⟨g2, c2, w2, hap, ho2, hg2, hx2, hl2⟩ := run_append_rec B v3 Q.length _ hrowA w1.heap.size _ (hnc.cell 0) rfl (by omega) hszA))
          | (refine at_dst 30 rfl ?_; refine wpList_is_w (some 30) (.slice (some ⟨g2, 0, none⟩) (Q.length + 1) c2) w2 rfl (by rfl) (run_append_op _ _ _ _ rfl v3 (.slice (some ⟨w1.heap.size, 0, none⟩) 1 1) rfl rfl _ hap) ?_))
        obtain ⟨v4, hv4⟩ : ∃ v4, v4 = Value.slice (some ⟨g2, 0, none⟩) (Q.length + 1) c2 := ⟨_, rfl⟩
        rw [← hv4] at ho2 ⊢
        have HV4 : Hid (v4.ownBlock = some g2) := by rw [hv4]; exact rfl
        clear hv4 hap
        have hfin : FillI D B w0 w j p s c m F rs fl G ls (i + 1) v4 w2 := by
          have hL1 := addErr_zero HE.out.symm
          have hby1 : ByIn w1 ad L C r.f := by rw [HL.out]; exact hby.below hbw1 hB
          obtain ⟨hon, hO2⟩ := hO1.push hby1 (fun b o e => .inl (hadB b o e (by omega))) (by omega) hg2 (fun xs hxs => by rw [own_uniq hxs hrow]; exact ho2)
          have hX2 : ∀ k, X k ∨ (w1.heap.size ≤ k ∧ k < w2.heap.size) ∨ v4.ownBlock = some k → X k ∨ w1.heap.size ≤ k := by
            rintro k (h4 | h4 | h4)
            · exact .inl h4
            · exact .inr h4.1
            · rw [HV4.out] at h4
              cases h4
              rcases hx2 with h5 | h5
              · exact .inl (hrb _ h5)
              · exact .inr (by rw [h5]; simp)
          refine ⟨G2, (fun k => X k ∨ (w1.heap.size ≤ k ∧ k < w2.heap.size) ∨ v4.ownBlock = some k), ?_, ?_, ?_, ?_⟩
          · rw [HFS.out, ← HE.out, if_pos rfl, ← List.append_assoc]
            exact hS12.own hD hon hXw h.dev.sz hA1
          · rw [HFS.out, ← HE.out, if_pos rfl]
            have e5 : r = ⟨L, r.f⟩ := by rw [HL.out]
            rw [e5]
            exact hO2
          · exact apt_new hS2.jin hD hA1 hX2
          · exact fun k hk => (hX2 k hk).elim (hXw k) (fun h4 => Nat.le_trans hS12.only.size h4)
        have HF : Hid (FillI D B w0 w j p s c m F rs fl G ls (i + 1) v4 w2) := hfin
        clear hfin ho2 hg2 hrowA hrow hre
        go_roundw
        case rel => exact ⟨i + 1, _, by omega, by omega, by go_num, rfl, HF.out⟩
        case measure => simp [intOf]; omega
      · have hE1 : ¬ E = 0 := hE0
        go_wp2_with (first
          | ((go_at_call 13)
             (refine hadd.mono ?_)
             (rintro e w1 ⟨rfl, G2, hS2⟩)
             (clear hadd)))
        have hfin : FillI D B w0 w j p s c m F rs fl G ls (i + 1) v3 w1 := by
          obtain ⟨hO1, hA1⟩ := hS2.row hS.jin.dev.base hS.jin.dev.cb hS.jin.base hO hA
          have hne : ¬ addErr (rs ++ Q) (64 * s.n) r.L = 0 := by rw [← HE.out]; exact hE1
          have e1 : addRs (rs ++ Q) (64 * s.n) L r.f = rs ++ Q := by
            unfold addRs
            rw [HL.out, if_neg hne]
          rw [e1] at hS2
          refine ⟨G2, X, ?_, ?_, hA1, hXw⟩
          · rw [HFS.out, if_neg hne, List.append_nil]
            exact hS.trans hS2
          · rw [HFS.out, if_neg hne, List.append_nil]
            exact hO1
        have HF : Hid (FillI D B w0 w j p s c m F rs fl G ls (i + 1) v3 w1) := hfin
        clear hfin
        go_roundw
        case rel => exact ⟨i + 1, _, by omega, by omega, by go_num, rfl, HF.out⟩
        case measure => simp [intOf]; omega
    · have hd : decide ((i : Int) < (n : Int)) = decide (i < n) := by simp
      have HF : Hid (FillI D B w0 w j p s c m F rs fl G ls i v3 wr) := hF
      clear hF
      by_cases h1 : i < n
      · have i0 : (i : Int) < (n : Int) := by omega
        have i1 : ¬ (i : Int) < 40 := by omega
        go_wp2
        go_ret
        refine ⟨v3, rfl, ?_⟩
        obtain rfl : i = 40 := by omega
        exact HF.out
      · have i0 : ¬ (i : Int) < (n : Int) := by omega
        go_wp2
        go_ret
        refine ⟨v3, rfl, ?_⟩
        have h2 := HF.out
        unfold FillI at h2 ⊢
        rw [List.take_of_length_le (by rw [← HLN.out]; omega)] at h2
        rw [List.take_of_length_le (by rw [← HLN.out]; omega)]
        exact h2
end Go.Proofs.YtfgoongfmidpgaaDoor
