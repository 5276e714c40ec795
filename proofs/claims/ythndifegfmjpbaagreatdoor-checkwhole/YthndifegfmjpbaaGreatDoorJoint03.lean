/- Texts that the statements of this stage share, joined. -/
import Derived.Test.YthndifegfmjpbaaGreatDoorJoint02
import Derived.Deep.LoopGhost
import Derived.Shelf.Abstract
import Derived.BigQuiet
import Derived.Deep.QuietTactic
namespace Go.Proofs.YthndifegfmjpbaaGreatDoor
set_option linter.unusedVariables false
set_option maxRecDepth 100000
set_option maxHeartbeats 40000000
section
open Go.RowKit Go.Shelf
theorem within_yes (a b c : Int) (w : World) (h : b ≤ a ∧ a ≤ c) : Calls Tryz.prog 179 #[.int .i64 a, .int .i64 b, .int .i64 c] w fun e w' => e = .returned (.bool true) ∧ w' = w := by
 obtain ⟨h1, h2⟩ := h
 go_enter Tryz.func179, Tryz.ntmps179
 go_wp2
 go_ret
 exact ⟨rfl, rfl⟩
theorem within_no (a b c : Int) (w : World) (h : ¬ (b ≤ a ∧ a ≤ c)) : Calls Tryz.prog 179 #[.int .i64 a, .int .i64 b, .int .i64 c] w fun e w' => e = .returned (.bool false) ∧ w' = w := by
 by_cases h1 : b ≤ a
 · have h2 : ¬ a ≤ c := fun h2 => h ⟨h1, h2⟩
   clear h
   go_enter Tryz.func179, Tryz.ntmps179
   go_wp2
   go_ret
   exact ⟨rfl, rfl⟩
 · clear h
   go_enter Tryz.func179, Tryz.ntmps179
   go_wp2
   go_ret
   exact ⟨rfl, rfl⟩
theorem groups_c (x s : Nat) (w : World) (hx : x ≤ 100000) (h1 : 1 ≤ s) (h2 : s ≤ 100000) : Calls Tryz.prog 180 #[.int .i64 (x : Nat), .int .i64 (s : Nat)] w fun e w' => e = .returned (.int .i64 (((x + s - 1) / s : Nat) : Int)) ∧ w' = w := by
 have HE : Hid (((x : Int) + (s : Int) - 1) / (s : Int) = (((x + s - 1) / s : Nat) : Int)) := (by
  rw [Int.natCast_ediv]; congr 1; omega : ((x : Int) + (s : Int) - 1) / (s : Int) = (((x + s - 1) / s : Nat) : Int))
 generalize (((x + s - 1) / s : Nat) : Int) = q at HE ⊢
 generalize hX : (x : Int) = X at HE ⊢
 generalize hS : (s : Int) = S at HE ⊢
 have a1 : 0 ≤ X := by omega
 have a2 : X ≤ 100000 := by omega
 have a3 : 1 ≤ S := by omega
 have a4 : S ≤ 100000 := by omega
 clear hX hS hx h1 h2
 have a5 : ¬ S = 0 := by omega
 have a6 : ¬ S = -1 := by omega
 go_enter Tryz.func180, Tryz.ntmps180
 go_wp2
 go_ret
 rw [HE.out]
 exact ⟨rfl, rfl⟩
theorem tags_c (d : Nat) (w : World) (h : d ≤ 8192) : Calls Tryz.prog 195 #[.int .i64 (d : Nat)] w fun e w' => e = .returned (.int .i64 (tg d : Nat)) ∧ w' = w := by
 have hg := groups_c d 4 w (by omega) (by omega) (by omega)
 rw [show (d + 4 - 1) / 4 = tg d by unfold tg; omega] at hg
 generalize ((tg d : Nat) : Int) = q at hg ⊢
 generalize ((d : Nat) : Int) = D at hg ⊢
 clear h
 go_enter Tryz.func195, Tryz.ntmps195
 go_wp2_with (first
  | ((go_at_call 180)
     (refine hg.mono ?_)
     (rintro e w1 ⟨rfl, rfl⟩)))
 go_ret
 exact ⟨rfl, rfl⟩
theorem ints_at {w : World} {a : Option Addr} {n : Nat} {f : Nat → Nat} (h : Ints w a n f) (k : Nat) (hk : k < n) : ∃ b off, a = some ⟨b, off, none⟩ ∧ b < w.heap.size ∧ w.cell? ⟨b, off + k, none⟩ = some (.int .i64 (f k : Nat)) := by
 rcases h with h | ⟨b, off, rfl, hb, hc⟩
 · omega
 · exact ⟨b, off, rfl, hb, hc k hk⟩
theorem hashes_c (n : Nat) (w : World) (hn : n ≤ 8192) : Calls Tryz.prog 196 #[.int .i64 (n : Nat)] w fun e w' => e = .returned (.int .i64 (hs n : Nat)) ∧ Below w.heap.size w w' := by
 have hL := Levels_ok (n : Int) w ⟨by omega, by omega⟩
 rw [Int.toNat_natCast] at hL
 have HP : Hid (∀ k, k ≤ levN (n : Int) → off n k ≤ 2058) := fun k hk => Nat.le_trans (off_part n k hk) (hs_le n)
 have HE : Hid (off n (levN (n : Int)) = hs n) := rfl
 have h11 := levN_11 (n : Int)
 generalize levN (n : Int) = m at hL HP HE h11
 generalize (n : Int) = N at hL ⊢
 clear hn
 go_enter Tryz.func196, Tryz.ntmps196
 go_wp2_with (first
  | ((go_at_call 198)
     (refine hL.mono ?_)
     (rintro e w1 ⟨a, c, rfl, hc1, hc2, hints, hb⟩)))
 go_loop [3, 9] (fun s i => ∃ k : Nat, k ≤ m ∧ i = .int .i64 k ∧ s = .int .i64 (off n k : Nat)) (fun _ i => m - (intOf i).toNat)
 case atStart => exact ⟨0, Nat.zero_le _, rfl, rfl⟩
 case round =>
  obtain ⟨k, hk, rfl, rfl⟩ := hrel
  have hp := HP.out k hk
  by_cases hlt : k < m
  · have hp2 := HP.out (k + 1) hlt
    have HS : Hid ((off n k : Int) + (lv n (k + 1) : Int) = ((off n (k + 1) : Nat) : Int)) := (by simp only [off]; omega : (off n k : Int) + (lv n (k + 1) : Int) = ((off n (k + 1) : Nat) : Int))
    obtain ⟨b, o, rfl, hbl, hcell⟩ := ints_at hints k hlt
    have hv : lv n (k + 1) ≤ 2058 := by simp only [off] at hp2; omega
    clear hL hp2
    generalize lv n (k + 1) = v at *
    generalize off n k = s at *
    go_wp2
    go_round
    case rel => exact ⟨k + 1, hlt, by go_num, by rw [HS.out]⟩
    case measure => simp [intOf]; omega
  · obtain rfl : k = m := by omega
    clear hL
    go_wp2
    go_ret
    rw [HE.out]
    exact ⟨rfl, hb⟩
end
section
open Go.RowKit Go.Shelf
theorem search_c (g : Nat) (cb : Array Value) (n : Nat) (p : Nat → Bool) (w : World) (eg : ∀ args w, (callFunc g args).run Tryz.prog w = .ok (.enter g args) w) (hn : n ≤ 10000)
  (hf : ∀ (i : Nat) (W : World), i < n → Below w.heap.size w W → Calls Tryz.prog g (#[.int .i64 i] ++ cb) W fun e W' => e = .returned (.bool (p i)) ∧ Below w.heap.size w W')
  (hmono : ∀ a b, a ≤ b → b < n → p a = true → p b = true) :
  Calls Tryz.prog 191 #[.int .i64 n, .func (.func g) #[] cb] w fun e w' => ∃ r : Nat, e = .returned (.int .i64 (r : Nat)) ∧ r ≤ n ∧ (∀ t, t < r → p t = false) ∧ (∀ t, r ≤ t → t < n → p t = true) ∧ Below w.heap.size w w' := by
 have HF : Hid (∀ (i : Nat) (W : World), i < n → Below w.heap.size w W → Calls Tryz.prog g (#[.int .i64 i] ++ cb) W fun e W' => e = .returned (.bool (p i)) ∧ Below w.heap.size w W') := hf
 have M : Hid (∀ a b, a ≤ b → b < n → p a = true → p b = true) := hmono
 clear hf hmono
 go_enter Tryz.func191, Tryz.ntmps191
 go_wp2
 go_loopg [5, 6] n (fun kx s5 s6 wr => ∃ (lo hi : Nat), s5 = .int .i64 lo ∧ s6 = .int .i64 hi ∧ lo ≤ hi ∧ hi ≤ n ∧ hi - lo ≤ kx ∧ Below w.heap.size w wr ∧
  Hid ((∀ t, t < lo → p t = false) ∧ (∀ t, hi ≤ t → t < n → p t = true)))
 case atStart => exact ⟨0, n, rfl, rfl, Nat.zero_le _, Nat.le_refl _, by omega, Below.refl _ _, (⟨fun t ht => absurd ht (Nat.not_lt_zero _), fun t h1 h2 => by omega⟩ : (∀ t, t < 0 → p t = false) ∧ (∀ t, n ≤ t → t < n → p t = true))⟩
 case round =>
  obtain ⟨lo, hi, rfl, rfl, hlh, hin, hg, hb, I⟩ := hrel
  by_cases hlt : lo < hi
  · have hc := HF.out ((lo + hi) / 2) _ (by omega) hb
    rw [show (((lo + hi) / 2 : Nat) : Int) = ((lo : Int) + (hi : Int)) / 2 by omega] at hc
    cases hp : p ((lo + hi) / 2) <;> rw [hp] at hc
    · have HP : Hid (p ((lo + hi) / 2) = false) := hp
      clear hp
      go_wp2_with (go_at_fn g; refine hc.mono ?_; rintro e w' ⟨rfl, hb2⟩)
      go_roundg (hi - ((lo + hi) / 2 + 1))
      case measure => omega
      case rel =>
       have I2 : Hid ((∀ t, t < (lo + hi) / 2 + 1 → p t = false) ∧ (∀ t, hi ≤ t → t < n → p t = true)) := ⟨fun t ht => (by
        cases h : p t with
        | false => rfl
        | true => have := M.out t ((lo + hi) / 2) (by omega) (by omega) h; rw [HP.out] at this; cases this), I.out.2⟩
       exact ⟨(lo + hi) / 2 + 1, hi, by rw [show ((lo : Int) + (hi : Int)) / 2 + 1 = (((lo + hi) / 2 + 1 : Nat) : Int) by omega], rfl, by omega, hin, Nat.le_refl _, hb2, I2⟩
    · have HP : Hid (p ((lo + hi) / 2) = true) := hp
      clear hp
      go_wp2_with (go_at_fn g; refine hc.mono ?_; rintro e w' ⟨rfl, hb2⟩)
      go_roundg ((lo + hi) / 2 - lo)
      case measure => omega
      case rel =>
       have I2 : Hid ((∀ t, t < lo → p t = false) ∧ (∀ t, (lo + hi) / 2 ≤ t → t < n → p t = true)) := ⟨I.out.1, fun t ht htn => M.out ((lo + hi) / 2) t ht htn HP.out⟩
       exact ⟨lo, (lo + hi) / 2, rfl, by rw [show ((lo : Int) + (hi : Int)) / 2 = (((lo + hi) / 2 : Nat) : Int) by omega], by omega, by omega, Nat.le_refl _, hb2, I2⟩
  · obtain rfl : hi = lo := by omega
    go_wp2
    go_ret
    exact ⟨hi, rfl, hin, I.out.1, I.out.2, hb⟩
theorem great1_c (g bx : Nat) (cb : Array Value) (i : Nat) (b : Bool) (W : World) (B : Nat) (w : World) (hi : i ≤ 10000) (eg : ∀ args w, (callFunc g args).run Tryz.prog w = .ok (.enter g args) w)
  (hx : W.cell? ⟨bx, 0, none⟩ = some (.func (.func g) #[] cb))
  (hf : Calls Tryz.prog g (#[.int .i64 ((i + 1 : Nat) : Int)] ++ cb) W fun e W' => e = .returned (.bool b) ∧ Below B w W') :
  Calls Tryz.prog 192 #[.int .i64 i, .pointer (some ⟨bx, 0, none⟩)] W fun e W' => e = .returned (.bool !b) ∧ Below B w W' := by
 rw [show ((i + 1 : Nat) : Int) = (i : Int) + 1 by omega] at hf
 go_enter Tryz.func192, Tryz.ntmps192
 go_wp2_with (go_at_fn g; refine hf.mono ?_; rintro e w' ⟨rfl, hb2⟩)
 go_ret
 exact ⟨rfl, hb2⟩
theorem greatest_c (g : Nat) (cb : Array Value) (L : Nat) (F : Nat → Bool) (w : World) (eg : ∀ args w, (callFunc g args).run Tryz.prog w = .ok (.enter g args) w) (hn : L ≤ 10000)
  (hf : ∀ (d : Nat) (W : World), d ≤ L → Below w.heap.size w W → Calls Tryz.prog g (#[.int .i64 (d : Nat)] ++ cb) W fun e W' => e = .returned (.bool (F d)) ∧ Below W.heap.size W W')
  (hanti : ∀ a b, a ≤ b → b ≤ L → F b = true → F a = true) :
  Calls Tryz.prog 181 #[.int .i64 L, .func (.func g) #[] cb] w fun e w' => ∃ r : Nat, e = .returned (.int .i64 (r : Nat)) ∧ Great L F r ∧ Below w.heap.size w w' := by
 obtain ⟨W0, hW0⟩ : ∃ W0, W0 = w.alloc (.cells #[.func (.func g) #[] cb] 158) := ⟨_, rfl⟩
 have hs0 : W0.heap.size = w.heap.size + 1 := by rw [hW0]; simp
 have hx0 : Has W0 w.heap.size 158 #[.func (.func g) #[] cb] := by rw [hW0]; exact Has.new _ _ _
 have hB0 : Below w.heap.size w W0 := by rw [hW0]; exact (Below.refl _ w).alloc (Nat.le_refl _) _
 have hS := search_c 192 #[.pointer (some ⟨w.heap.size, 0, none⟩)] L (fun i => !F (i + 1)) W0 (enters_of Tryz.func192 (by kernel_rfl) rfl) hn
  (fun i W hi hb => by
    refine (great1_c g w.heap.size cb i (F (i + 1)) W W0.heap.size W0 (by omega) eg (by rw [(hx0.below hb (by omega)).cell 0]; rfl) ?_)
    refine (hf (i + 1) W (by omega) (hB0.trans (hb.mono (by omega)))).mono ?_
    rintro e W' ⟨rfl, h⟩
    exact ⟨rfl, hb.trans (h.mono hb.size)⟩)
  (fun a b hab hb h => by
    cases hq : F (b + 1) with
    | false => rfl
    | true => rw [hanti (a + 1) (b + 1) (by omega) (by omega) hq] at h; cases h)
 have HS : Hid (Calls Tryz.prog 191 #[.int .i64 L, .func (.func 192) #[] #[.pointer (some ⟨w.heap.size, 0, none⟩)]] W0 fun e w' => ∃ r : Nat, e = .returned (.int .i64 (r : Nat)) ∧ r ≤ L ∧ (∀ t, t < r → (!F (t + 1)) = false) ∧ (∀ t, r ≤ t → t < L → (!F (t + 1)) = true) ∧ Below W0.heap.size W0 w') := hS
 clear hS hf hanti
 go_enter Tryz.func181, Tryz.ntmps181
 go_wp2_with (first
  | ((go_at_call 191)
     (rw [← hW0])
     (refine HS.out.mono ?_)
     (rintro e w1 ⟨r, rfl, h1, h2, h3, h4⟩)))
 go_ret
 exact ⟨r, rfl, ⟨h1, fun t ht => by have := h2 t ht; simpa using this, fun h => by have := h3 r (Nat.le_refl _) h; simpa using this⟩, hB0.trans (h4.mono (by omega))⟩
end
section
open Go.ChangeShapes Go.WideShapes Go.ChangeAt Go.RowKit Go.Shelf
theorem run_load_f {o : Oper} {a : Act} (x : Operand) (ho : o.op = .load 117 x) (p : Addr) (hx : a.eval x = .pointer (some p)) (v : Value) (w : World) (h : w.cell? p = some v) : (execOp a.eval o).run Tryz.prog w = .ok (.value v) w := by
 unfold execOp
 simp only [ho, hx]
 simp [go_sem, h]
theorem run_leqN {o : Oper} {a : Act} (x y : Operand) (ho : o.op = .binOp .leq 3 x y 3) (p q : Int) (hx : a.eval x = .int .i64 p) (hy : a.eval y = .int .i64 q) (c : Bool) (hc : decide (p ≤ q) = c) (w : World) :
  (execOp a.eval o).run Tryz.prog w = .ok (.value (.bool c)) w := by
 unfold execOp
 simp only [ho, hx, hy]
 subst hc
 go_simp
theorem share1_c (g bf bn : Nat) (rest : Nat → Nat) (d n : Nat) (W : World) (hn : n ≤ 8192) (hd : d ≤ 8192) (hr : rest d ≤ 100000)
  (eg : ∀ args w, (callFunc g args).run Tryz.prog w = .ok (.enter g args) w)
  (hx : Has W bf 117 #[.func (.func g) #[] #[]]) (hy : Has W bn 3 #[.int .i64 (n : Nat)])
  (hf : ∀ W : World, Calls Tryz.prog g #[.int .i64 (d : Nat)] W fun e W' => e = .returned (.int .i64 (rest d : Nat)) ∧ Below W.heap.size W W') :
  Calls Tryz.prog 197 #[.int .i64 (d : Nat), .pointer (some ⟨bf, 0, none⟩), .pointer (some ⟨bn, 0, none⟩)] W fun e W' => e = .returned (.bool (fit rest n d)) ∧ Below W.heap.size W W' := by
 have HF : decide (((d + rest d : Nat) : Int) ≤ (n : Int)) = fit rest n d := by unfold fit; exact decide_eq_decide.2 (by omega)
 generalize rest d = q at hf hr HF
 generalize fit rest n d = bo at HF ⊢
 have HH : Hid (decide (((d + q : Nat) : Int) ≤ (n : Int)) = bo) := HF
 clear HF
 go_enter Tryz.func197, Tryz.ntmps197
 go_wp2
 refine wp_region_held_drew (S := fun w' => Has w' bf 117 #[.func (.func g) #[] #[]] ∧ Has w' bn 3 #[.int .i64 (n : Nat)] ∧ Below W.heap.size W w') (by kernel_rfl) ⟨hx, hy, (Below.refl _ W).drew⟩ (fun hHeld => ?_)
 refine tkT 0 (some 5) (.int .i64 (d : Nat)) rfl rfl (fun _ _ => rfl) hHeld ?_
 simp only [Act.put, sb1, sz1, ss1]
 refine tkT 1 (some 6) (.func (.func g) #[] #[]) rfl rfl (fun wz hz => run_load_f _ rfl ⟨bf, 0, none⟩ rfl _ wz (by rw [hz.1.cell 0]; rfl)) hHeld ?_
 simp only [Act.put, sb1, sz1, ss1]
 refine tkT 2 (some 7) (.int .i64 (d : Nat)) rfl rfl (fun _ _ => rfl) hHeld ?_
 simp only [Act.put, sb1, sz1, ss1]
 refine tkT 5 (some 10) (.int .i64 (n : Nat)) rfl rfl (fun wz hz => run_load_3 _ rfl ⟨bn, 0, none⟩ rfl _ wz (by rw [hz.2.1.cell 0]; rfl)) hHeld ?_
 simp only [Act.put, sb1, sz1, ss1]
 refine callTo 3 (some 8) g #[.int .i64 (d : Nat)] (by kernel_rfl) rfl rfl (by rfl) (by unfold execOp; simp [Act.eval, go_sem, eg]) (hf _) ?_
 rintro e w1 ⟨rfl, hb1⟩
 have hb1' : Below W.heap.size W w1 := hHeld.2.2.trans hb1
 have hH1 : Has w1 bf 117 #[.func (.func g) #[] #[]] ∧ Has w1 bn 3 #[.int .i64 (n : Nat)] ∧ Below W.heap.size W w1 := ⟨hx.below hb1' hx.lt, hy.below hb1' hy.lt, hb1'⟩
 refine ⟨_, rfl, hH1, ?_⟩
 simp only [Act.put, sb1, sz1, ss1]
 refine tkT 4 (some 9) (.int .i64 ((d + q : Nat) : Int)) rfl rfl (fun wz hz => run_addN _ _ rfl d q rfl rfl (by omega) (by omega) wz) hH1 ?_
 simp only [Act.put, sb1, sz1, ss1]
 refine tkT 6 (some 11) (.bool bo) rfl rfl (fun wz hz => run_leqN _ _ rfl _ _ rfl rfl bo HH.out wz) hH1 ?_
 simp only [Act.put, sb1, sz1, ss1]
 refine tkT 7 (some 4) (.bool bo) rfl rfl (fun _ _ => rfl) hH1 ?_
 simp only [Act.put, sb1, sz1, ss1]
 refine wpAnyH_done (by kernel_rfl) ?_ _
 go_wp2
 go_ret
 exact ⟨rfl, hb1'⟩
theorem share_c (g : Nat) (rest : Nat → Nat) (n L : Nat) (w : World) (hn : n ≤ 8192) (hL : L ≤ 8192) (hr : ∀ d, d ≤ L → rest d ≤ 100000) (hm : ∀ a b, a ≤ b → b ≤ L → rest a ≤ rest b)
  (eg : ∀ args w, (callFunc g args).run Tryz.prog w = .ok (.enter g args) w)
  (hf : ∀ (d : Nat) (W : World), d ≤ L → Calls Tryz.prog g #[.int .i64 (d : Nat)] W fun e W' => e = .returned (.int .i64 (rest d : Nat)) ∧ Below W.heap.size W W') :
  Calls Tryz.prog 194 #[.int .i64 (n : Nat), .int .i64 (L : Nat), .func (.func g) #[] #[]] w fun e w' => ∃ r : Nat, e = .returned (.tuple #[.int .i64 (r : Nat), .int .i64 (rest r : Nat)]) ∧ Great L (fit rest n) r ∧ Below w.heap.size w w' := by
 obtain ⟨W0, hW0⟩ : ∃ W0, W0 = (w.alloc (.cells #[.int .i64 (n : Nat)] 3)).alloc (.cells #[.func (.func g) #[] #[]] 117) := ⟨_, rfl⟩
 have hs0 : W0.heap.size = w.heap.size + 2 := by rw [hW0]; simp
 have hy0 : Has W0 w.heap.size 3 #[.int .i64 (n : Nat)] := by rw [hW0]; exact (Has.new _ _ _).alloc _
 have hx0 : Has W0 (w.heap.size + 1) 117 #[.func (.func g) #[] #[]] := by rw [hW0]; exact Has.new_at (by simp)
 have hB0 : Below w.heap.size w W0 := by rw [hW0]; exact ((Below.refl _ w).alloc (Nat.le_refl _) _).alloc (by simp) _
 have hG := greatest_c 197 #[.pointer (some ⟨w.heap.size + 1, 0, none⟩), .pointer (some ⟨w.heap.size, 0, none⟩)] L (fit rest n) W0 (enters_of Tryz.func197 (by kernel_rfl) rfl) (by omega)
  (fun d W hd hb => share1_c g (w.heap.size + 1) w.heap.size rest d n W hn (by omega) (hr d hd) eg (hx0.below hb (by omega)) (hy0.below hb (by omega)) (fun W => hf d W hd))
  (fun a b hab hb h => fit_anti hm a b hab hb h)
 have HG : Hid (Calls Tryz.prog 181 #[.int .i64 (L : Nat), .func (.func 197) #[] #[.pointer (some ⟨w.heap.size + 1, 0, none⟩), .pointer (some ⟨w.heap.size, 0, none⟩)]] W0 fun e w' => ∃ r : Nat, e = .returned (.int .i64 (r : Nat)) ∧ Great L (fit rest n) r ∧ Below W0.heap.size W0 w') := hG
 have hy0c := hy0.cell 0
 simp only [List.getElem?_toArray, List.getElem?_cons_zero] at hy0c
 have HF : Hid (∀ (d : Nat) (W : World), d ≤ L → Calls Tryz.prog g #[.int .i64 (d : Nat)] W fun e W' => e = .returned (.int .i64 (rest d : Nat)) ∧ Below W.heap.size W W') := hf
 clear hG hf hr hm
 go_enter Tryz.func194, Tryz.ntmps194
 go_wp2_with (first
  | ((go_at_call 179)
     (refine (within_yes _ _ _ _ ⟨by omega, by omega⟩).mono ?_)
     (rintro e w1 ⟨rfl, rfl⟩))
  | ((go_at_call 181)
     (rw [← hW0])
     (refine HG.out.mono ?_)
     (rintro e w1 ⟨r, rfl, h1, h4⟩)
     (have hxc := (hx0.below h4 hx0.lt).cell 0))
  | ((go_at_fn g)
     (refine (HF.out r _ h1.1).mono ?_)
     (rintro e w2 ⟨rfl, h5⟩)))
 go_ret2
 exact ⟨r, rfl, h1, (hB0.trans (h4.mono (by omega))).trans (h5.mono (by have := h4.size; omega))⟩
theorem Integrity_c (n : Nat) (w : World) (h : n ≤ 8192) : Calls Tryz.prog 185 #[.int .i64 (n : Nat)] w fun e w' => ∃ r : Nat, e = .returned (.tuple #[.int .i64 (r : Nat), .int .i64 (tg r : Nat)]) ∧ Great 8192 (fit tg n) r ∧ Below w.heap.size w w' := by
 have hs := share_c 195 tg n 8192 w h (by omega) (fun d hd => by unfold tg; omega) (fun a b hab _ => tg_mono a b hab) (enters_of Tryz.func195 (by kernel_rfl) rfl)
  (fun d W hd => (tags_c d W hd).mono (by rintro e W' ⟨rfl, rfl⟩; exact ⟨rfl, Below.refl _ _⟩))
 generalize ((n : Nat) : Int) = N at hs ⊢
 clear h
 go_enter Tryz.func185, Tryz.ntmps185
 go_wp2_with (first
  | ((go_at_call 194)
     (refine hs.mono ?_)
     (rintro e w1 ⟨r, rfl, h1, hb⟩)))
 go_ret2
 exact ⟨r, rfl, h1, hb⟩
theorem Verity_c (n : Nat) (w : World) (h : n ≤ 8192) : Calls Tryz.prog 186 #[.int .i64 (n : Nat)] w fun e w' => ∃ r : Nat, e = .returned (.tuple #[.int .i64 (r : Nat), .int .i64 (hs r : Nat)]) ∧ Great 2048 (fit hs n) r ∧ Below w.heap.size w w' := by
 have hs := share_c 196 hs n 2048 w h (by omega) (fun d hd => by have := hs_le d; omega) (fun a b hab hb => hs_mono hab hb) (enters_of Tryz.func196 (by kernel_rfl) rfl)
  (fun d W hd => hashes_c d W (by omega))
 generalize ((n : Nat) : Int) = N at hs ⊢
 clear h
 go_enter Tryz.func186, Tryz.ntmps186
 go_wp2_with (first
  | ((go_at_call 194)
     (refine hs.mono ?_)
     (rintro e w1 ⟨r, rfl, h1, hb⟩)))
 go_ret2
 exact ⟨r, rfl, h1, hb⟩
end
section
open Go.ChangeShapes Go.WideShapes Go.ChangeAt Go.RowKit Go.Shelf
theorem at_arg {f : FuncId} {args : Array Value} {w : World} {R : Ending → World → Prop} (i : Nat) (v : Value) (h : args[i]? = some v) (k : Calls Tryz.prog f args w R) : Calls Tryz.prog f args w R := k
theorem store1_c (s table chunk n b1 b2 b3 : Nat) (W : World) (h1 : s ≤ 8192) (h2 : table ≤ 8192) (h3 : chunk ≤ 16) (c1 : W.cell? ⟨b1, 0, none⟩ = some (.int .i64 (table : Nat))) (c2 : W.cell? ⟨b2, 0, none⟩ = some (.int .i64 (chunk : Nat))) (c3 : W.cell? ⟨b3, 0, none⟩ = some (.int .i64 (n : Nat))) :
  Calls Tryz.prog 182 #[.int .i64 (s : Nat), .pointer (some ⟨b1, 0, none⟩), .pointer (some ⟨b2, 0, none⟩), .pointer (some ⟨b3, 0, none⟩)] W fun e W' => e = .returned (.bool (sfit table chunk n s)) ∧ Below W.heap.size W W' := by
 have hm : s * chunk ≤ 8192 * 16 := Nat.mul_le_mul h1 h3
 have HF : Hid (decide ((table : Int) + (s : Int) * (chunk : Int) ≤ (n : Int)) = sfit table chunk n s) := (by unfold sfit; exact decide_eq_decide.2 (by rw [← Int.natCast_mul]; omega) : decide ((table : Int) + (s : Int) * (chunk : Int) ≤ (n : Int)) = sfit table chunk n s)
 have hm2 : (s : Int) * (chunk : Int) ≤ 131072 := by rw [← Int.natCast_mul]; omega
 have hm3 : 0 ≤ (s : Int) * (chunk : Int) := by rw [← Int.natCast_mul]; omega
 generalize sfit table chunk n s = bo at HF ⊢
 have ht1 : 0 ≤ (table : Int) := by omega
 have ht2 : (table : Int) ≤ 8192 := by omega
 generalize (table : Int) = T at *
 generalize (s : Int) = S at *
 generalize (chunk : Int) = C at *
 generalize (n : Int) = N at *
 clear h1 h2 h3 hm
 go_enter Tryz.func182, Tryz.ntmps182
 go_wp2
 go_ret
 rw [HF.out]
 exact ⟨rfl, Below.refl _ _⟩
def stA (table s : Nat) : Nat := if s = 0 then 0 else table
def chunksOf (origin chunk : Nat) : Nat := (origin + chunk - 1) / chunk
def tableOf (origin chunk : Nat) : Nat := (chunksOf origin chunk + 15) / 16
theorem chunks_le {origin chunk : Nat} (h1 : 1 ≤ origin) (h2 : origin ≤ 8192) (h3 : 1 ≤ chunk) : 1 ≤ chunksOf origin chunk ∧ chunksOf origin chunk ≤ 8192 := by
 unfold chunksOf
 constructor
 · exact (Nat.le_div_iff_mul_le (by omega)).2 (by omega)
 · refine Nat.div_le_of_le_mul ?_
   have := Nat.mul_le_mul_right (chunk - 1) h1
   have e : chunk * 8192 = 8192 * (chunk - 1) + 8192 := by
    obtain ⟨k, rfl⟩ : ∃ k, chunk = k + 1 := ⟨chunk - 1, by omega⟩
    simp only [Nat.add_sub_cancel]; omega
   omega
theorem Store_no (n o c : Int) (w : World) (h : ¬ ((1 ≤ n ∧ n ≤ 8192) ∧ (1 ≤ o ∧ o ≤ 8192) ∧ (1 ≤ c ∧ c ≤ 16))) :
  Calls Tryz.prog 162 #[.int .i64 n, .int .i64 o, .int .i64 c] w fun e w' => e = .returned (.tuple #[.int .i64 0, .int .i64 0]) ∧ Below w.heap.size w w' := by
 have hb : ∀ a b, Below w.heap.size w ((w.alloc a).alloc b) := fun a b => ((Below.refl _ w).alloc (Nat.le_refl _) _).alloc (by simp) _
 by_cases h1 : 1 ≤ n ∧ n ≤ 8192
 · by_cases h2 : 1 ≤ o ∧ o ≤ 8192
   · have h3 : ¬ (1 ≤ c ∧ c ≤ 16) := fun h3 => h ⟨h1, h2, h3⟩
     clear h
     have H1 : Hid (1 ≤ n ∧ n ≤ 8192) := h1
     have H2 : Hid (1 ≤ o ∧ o ≤ 8192) := h2
     have H3 : Hid (¬ (1 ≤ c ∧ c ≤ 16)) := h3
     clear h1 h2 h3
     go_enter Tryz.func162, Tryz.ntmps162
     go_wp2_with (first
      | ((go_at_call 179)
         (refine at_arg 0 (.int .i64 n) rfl ?_)
         (refine (within_yes _ _ _ _ H1.out).mono ?_)
         (rintro e w1 ⟨rfl, rfl⟩))
      | ((go_at_call 179)
         (refine at_arg 0 (.int .i64 o) rfl ?_)
         (refine (within_yes _ _ _ _ H2.out).mono ?_)
         (rintro e w1 ⟨rfl, rfl⟩))
      | ((go_at_call 179)
         (refine (within_no _ _ _ _ H3.out).mono ?_)
         (rintro e w1 ⟨rfl, rfl⟩)))
     go_ret2
     exact ⟨rfl, hb _ _⟩
   · clear h
     have H1 : Hid (1 ≤ n ∧ n ≤ 8192) := h1
     have H2 : Hid (¬ (1 ≤ o ∧ o ≤ 8192)) := h2
     clear h1 h2
     go_enter Tryz.func162, Tryz.ntmps162
     go_wp2_with (first
      | ((go_at_call 179)
         (refine at_arg 0 (.int .i64 n) rfl ?_)
         (refine (within_yes _ _ _ _ H1.out).mono ?_)
         (rintro e w1 ⟨rfl, rfl⟩))
      | ((go_at_call 179)
         (refine at_arg 0 (.int .i64 o) rfl ?_)
         (refine (within_no _ _ _ _ H2.out).mono ?_)
         (rintro e w1 ⟨rfl, rfl⟩)))
     go_ret2
     exact ⟨rfl, hb _ _⟩
 · clear h
   have H1 : Hid (¬ (1 ≤ n ∧ n ≤ 8192)) := h1
   clear h1
   go_enter Tryz.func162, Tryz.ntmps162
   go_wp2_with (first
    | ((go_at_call 179)
       (refine (within_no _ _ _ _ H1.out).mono ?_)
       (rintro e w1 ⟨rfl, rfl⟩)))
   go_ret2
   exact ⟨rfl, hb _ _⟩
theorem Store_c (n o c : Nat) (w : World) (h1 : 1 ≤ n ∧ n ≤ 8192) (h2 : 1 ≤ o ∧ o ≤ 8192) (h3 : 1 ≤ c ∧ c ≤ 16) :
  Calls Tryz.prog 162 #[.int .i64 (n : Nat), .int .i64 (o : Nat), .int .i64 (c : Nat)] w fun e w' => ∃ s : Nat, e = .returned (.tuple #[.int .i64 (stA (tableOf o c) s : Nat), .int .i64 (s : Nat)]) ∧ Great (chunksOf o c) (sfit (tableOf o c) c n) s ∧ Below w.heap.size w w' := by
 have hcl := chunks_le h2.1 h2.2 h3.1
 have H1 : Hid ((1 : Int) ≤ (n : Int) ∧ (n : Int) ≤ 8192) := (by omega : (1 : Int) ≤ (n : Int) ∧ (n : Int) ≤ 8192)
 have H2 : Hid ((1 : Int) ≤ (o : Int) ∧ (o : Int) ≤ 8192) := (by omega : (1 : Int) ≤ (o : Int) ∧ (o : Int) ≤ 8192)
 have H3 : Hid ((1 : Int) ≤ (c : Int) ∧ (c : Int) ≤ 16) := (by omega : (1 : Int) ≤ (c : Int) ∧ (c : Int) ≤ 16)
 have g1 := fun W => groups_c o c W (by omega) (by omega) (by omega)
 have g2 := fun W => groups_c (chunksOf o c) 16 W (by omega) (by omega) (by omega)
 rw [show (o + c - 1) / c = chunksOf o c from rfl] at g1
 rw [show (chunksOf o c + 16 - 1) / 16 = tableOf o c from rfl] at g2
 have ht : tableOf o c ≤ 8192 := by unfold tableOf; omega
 generalize tableOf o c = T at *
 generalize chunksOf o c = K at *
 obtain ⟨W0, hW0⟩ : ∃ W0, W0 = ((w.alloc (.cells #[.int .i64 (n : Nat)] 3)).alloc (.cells #[.int .i64 (c : Nat)] 3)).alloc (.cells #[.int .i64 (T : Nat)] 3) := ⟨_, rfl⟩
 have hs0 : W0.heap.size = w.heap.size + 3 := by rw [hW0]; simp
 have c1 : W0.cell? ⟨w.heap.size + 1 + 1, 0, none⟩ = some (.int .i64 (T : Nat)) := by rw [hW0]; simp [go_sem]
 have c2 : W0.cell? ⟨w.heap.size + 1, 0, none⟩ = some (.int .i64 (c : Nat)) := by rw [hW0]; simp [go_sem]
 have c3 : W0.cell? ⟨w.heap.size, 0, none⟩ = some (.int .i64 (n : Nat)) := by rw [hW0]; simp [go_sem]
 have hB0 : Below w.heap.size w W0 := by rw [hW0]; exact (((Below.refl _ w).alloc (Nat.le_refl _) _).alloc (by simp) _).alloc (by simp; omega) _
 have hG := greatest_c 182 #[.pointer (some ⟨w.heap.size + 1 + 1, 0, none⟩), .pointer (some ⟨w.heap.size + 1, 0, none⟩), .pointer (some ⟨w.heap.size, 0, none⟩)] K (sfit T c n) W0 (enters_of Tryz.func182 (by kernel_rfl) rfl) (by omega)
  (fun d W hd hb => store1_c d T c n _ _ _ W (by omega) ht h3.2 (by rw [← c1]; exact hb.cell (p := ⟨w.heap.size + 1 + 1, 0, none⟩) (by show w.heap.size + 1 + 1 < _; omega)) (by rw [← c2]; exact hb.cell (p := ⟨w.heap.size + 1, 0, none⟩) (by show w.heap.size + 1 < _; omega)) (by rw [← c3]; exact hb.cell (p := ⟨w.heap.size, 0, none⟩) (by show w.heap.size < _; omega)))
  (fun a b hab hb h => sfit_anti a b hab h)
 have HG : Hid (Calls Tryz.prog 181 #[.int .i64 (K : Nat), .func (.func 182) #[] #[.pointer (some ⟨w.heap.size + 1 + 1, 0, none⟩), .pointer (some ⟨w.heap.size + 1, 0, none⟩), .pointer (some ⟨w.heap.size, 0, none⟩)]] W0 fun e w' => ∃ r : Nat, e = .returned (.int .i64 (r : Nat)) ∧ Great K (sfit T c n) r ∧ Below W0.heap.size W0 w') := hG
 clear hG
 have C1 : Hid (W0.cell? ⟨w.heap.size + 1 + 1, 0, none⟩ = some (.int .i64 (T : Nat))) := c1
 have G1 : Hid (∀ W, Calls Tryz.prog 180 #[.int .i64 (o : Nat), .int .i64 (c : Nat)] W fun e w' => e = .returned (.int .i64 (K : Nat)) ∧ w' = W) := g1
 have G2 : Hid (∀ W, Calls Tryz.prog 180 #[.int .i64 (K : Nat), .int .i64 16] W fun e w' => e = .returned (.int .i64 (T : Nat)) ∧ w' = W) := g2
 clear c1 c2 c3 h1 h2 h3 hcl g1 g2
 go_enter Tryz.func162, Tryz.ntmps162
 go_wp2_with (first
  | ((go_at_call 179)
     (refine at_arg 0 (.int .i64 (n : Nat)) rfl ?_)
     (refine (within_yes _ _ _ _ H1.out).mono ?_)
     (rintro e w1 ⟨rfl, rfl⟩))
  | ((go_at_call 179)
     (refine at_arg 0 (.int .i64 (o : Nat)) rfl ?_)
     (refine (within_yes _ _ _ _ H2.out).mono ?_)
     (rintro e w1 ⟨rfl, rfl⟩))
  | ((go_at_call 179)
     (refine (within_yes _ _ _ _ H3.out).mono ?_)
     (rintro e w1 ⟨rfl, rfl⟩))
  | ((go_at_call 180)
     (refine at_arg 1 (.int .i64 16) rfl ?_)
     (refine (G2.out _).mono ?_)
     (rintro e w1 ⟨rfl, rfl⟩))
  | ((go_at_call 180)
     (refine (G1.out _).mono ?_)
     (rintro e w1 ⟨rfl, rfl⟩))
  | ((go_at_call 181)
     (rw [← hW0])
     (refine HG.out.mono ?_)
     (rintro e w1 ⟨r, rfl, h1, h4⟩)
     (have c1 : w1.cell? ⟨w.heap.size + 1 + 1, 0, none⟩ = some (.int .i64 (T : Nat)) := (h4.cell (p := ⟨w.heap.size + 1 + 1, 0, none⟩) (by show w.heap.size + 1 + 1 < _; omega)).trans C1.out)
     (clear HG hW0)))
 all_goals go_ret2
 · rename_i hz
   obtain rfl : r = 0 := by simpa using hz
   exact ⟨0, rfl, h1, hB0.trans (h4.mono (by omega))⟩
 · rename_i hz
   have hz' : ¬ r = 0 := by simpa using hz
   refine ⟨r, ?_, h1, hB0.trans (h4.mono (by omega))⟩
   unfold stA
   rw [if_neg hz']
   rfl
end
section
open Go.ChangeShapes Go.WideShapes Go.ChangeAt Go.RowKit Go.Shelf
structure R3 where
 d : Int
 f : Int
 c : Int
def R3.v (r : R3) : Value := .agg #[.int .i64 r.d, .int .i64 r.f, .int .i64 r.c]
def liesB (f c : Int) : Bool := decide (0 < c ∧ 0 ≤ f ∧ c ≤ 2147483647 ∧ f ≤ 2147483647 - c)
theorem lies_iff (f c : Int) : liesB f c = true ↔ (0 < c ∧ 0 ≤ f ∧ c ≤ 2147483647 ∧ f ≤ 2147483647 - c) := by unfold liesB; simp
theorem lies_not (f c : Int) : liesB f c = false ↔ ¬ (0 < c ∧ 0 ≤ f ∧ c ≤ 2147483647 ∧ f ≤ 2147483647 - c) := by unfold liesB; simp
def shareB (a b : R3) : Bool := decide (liesB a.f a.c = true ∧ liesB b.f b.c = true ∧ a.d = b.d ∧ a.f < b.f + b.c ∧ b.f < a.f + a.c)
theorem fits_yes (a n : Int) (w : World) (h : 0 ≤ a ∧ 0 ≤ n ∧ n ≤ 2147483647 ∧ a ≤ 2147483647 - n) : Calls Tryz.prog 95 #[.int .i64 a, .int .i64 n, .int .i64 2147483647] w fun e w' => e = .returned (.bool true) ∧ w' = w := by
 obtain ⟨h1, h2, h3, h4⟩ := h
 go_enter Tryz.func95, Tryz.ntmps95
 go_wp2
 go_ret
 exact ⟨rfl, rfl⟩
theorem fits_no (a n : Int) (w : World) (h : ¬ (0 ≤ a ∧ 0 ≤ n ∧ n ≤ 2147483647 ∧ a ≤ 2147483647 - n)) : Calls Tryz.prog 95 #[.int .i64 a, .int .i64 n, .int .i64 2147483647] w fun e w' => e = .returned (.bool false) ∧ w' = w := by
 rcases (by omega : a < 0 ∨ (0 ≤ a ∧ n < 0) ∨ (0 ≤ a ∧ 0 ≤ n ∧ 2147483647 < n) ∨ (0 ≤ a ∧ 0 ≤ n ∧ n ≤ 2147483647 ∧ ¬ a ≤ 2147483647 - n)) with h1 | ⟨h1, h2⟩ | ⟨h1, h2, h3⟩ | ⟨h1, h2, h3, h4⟩
 case inr.inr.inr => have h5 := decide_eq_false h4
                     clear h
                     go_enter Tryz.func95, Tryz.ntmps95
                     go_wp2
                     go_ret
                     exact ⟨rfl, rfl⟩
 all_goals
  clear h
  go_enter Tryz.func95, Tryz.ntmps95
  go_wp2
  go_ret
  exact ⟨rfl, rfl⟩
theorem lies_c (d f c : Int) (w : World) : Calls Tryz.prog 64 #[.agg #[.int .i64 d, .int .i64 f, .int .i64 c]] w fun e w' => e = .returned (.bool (liesB f c)) ∧ Below w.heap.size w w' := by
 have hb : ∀ a, Below w.heap.size w (w.alloc a) := fun a => (Below.refl _ w).alloc (Nat.le_refl _) _
 by_cases h0 : 0 < c
 · by_cases h : 0 ≤ f ∧ 0 ≤ c ∧ c ≤ 2147483647 ∧ f ≤ 2147483647 - c
   · have hl : liesB f c = true := (lies_iff f c).2 ⟨h0, h.1, h.2.2.1, h.2.2.2⟩
     have H : Hid (0 ≤ f ∧ 0 ≤ c ∧ c ≤ 2147483647 ∧ f ≤ 2147483647 - c) := h
     rw [hl]
     clear h hl
     go_enter Tryz.func64, Tryz.ntmps64
     go_wp2_with (first
      | ((go_at_call 95)
         (refine (fits_yes _ _ _ H.out).mono ?_)
         (rintro e w1 ⟨rfl, rfl⟩)))
     go_ret
     exact ⟨rfl, hb _⟩
   · have hl : liesB f c = false := (lies_not f c).2 (fun k => h ⟨k.2.1, by omega, k.2.2.1, k.2.2.2⟩)
     have H : Hid (¬ (0 ≤ f ∧ 0 ≤ c ∧ c ≤ 2147483647 ∧ f ≤ 2147483647 - c)) := h
     rw [hl]
     clear h hl
     go_enter Tryz.func64, Tryz.ntmps64
     go_wp2_with (first
      | ((go_at_call 95)
         (refine (fits_no _ _ _ H.out).mono ?_)
         (rintro e w1 ⟨rfl, rfl⟩)))
     go_ret
     exact ⟨rfl, hb _⟩
 · have hl : liesB f c = false := (lies_not f c).2 (fun k => h0 k.1)
   rw [hl]
   clear hl
   go_enter Tryz.func64, Tryz.ntmps64
   go_wp2
   go_ret
   exact ⟨rfl, hb _⟩
theorem share_not {a b : R3} (h : ¬ (liesB a.f a.c = true ∧ liesB b.f b.c = true ∧ a.d = b.d ∧ a.f < b.f + b.c ∧ b.f < a.f + a.c)) : shareB a b = false := by
 unfold shareB; exact decide_eq_false h
theorem share_is {a b : R3} (h : liesB a.f a.c = true ∧ liesB b.f b.c = true ∧ a.d = b.d ∧ a.f < b.f + b.c ∧ b.f < a.f + a.c) : shareB a b = true := by
 unfold shareB; exact decide_eq_true h
theorem threeR {w : World} {g t : Nat} {x y z : Value} (h : Has w g t #[x, y, z]) : w.cell? ⟨g, 0, none⟩ = some x ∧ w.cell? ⟨g, 1, none⟩ = some y ∧ w.cell? ⟨g, 2, none⟩ = some z := ⟨h.cell 0, h.cell 1, h.cell 2⟩
theorem shares_c (a b : R3) (w : World) : Calls Tryz.prog 34 #[a.v, b.v] w fun e w' => e = .returned (.bool (shareB a b)) ∧ Below w.heap.size w w' := by
 obtain ⟨ad, af, ac⟩ := a
 obtain ⟨bd, bf, bc⟩ := b
 obtain ⟨W0, hW0⟩ : ∃ W0, W0 = (w.alloc (.cells #[.int .i64 ad, .int .i64 af, .int .i64 ac] 42)).alloc (.cells #[.int .i64 bd, .int .i64 bf, .int .i64 bc] 42) := ⟨_, rfl⟩
 have hB0 : Below w.heap.size w W0 := by rw [hW0]; exact ((Below.refl _ w).alloc (Nat.le_refl _) _).alloc (by simp) _
 have hs0 : W0.heap.size = w.heap.size + 2 := by rw [hW0]; simp
 have hA : Has W0 w.heap.size 42 #[.int .i64 ad, .int .i64 af, .int .i64 ac] := by rw [hW0]; exact (Has.new _ _ _).alloc _
 have hB : Has W0 (w.heap.size + 1) 42 #[.int .i64 bd, .int .i64 bf, .int .i64 bc] := by rw [hW0]; exact Has.new_at (by simp)
 have hla := lies_c ad af ac W0
 by_cases h1 : liesB af ac = true
 · rw [h1] at hla
   have HA : Hid (Calls Tryz.prog 64 #[.agg #[.int .i64 ad, .int .i64 af, .int .i64 ac]] W0 fun e w' => e = .returned (.bool true) ∧ Below W0.heap.size W0 w') := hla
   obtain ⟨l1, l2, l3, l4⟩ := (lies_iff af ac).1 h1
   clear hla
   by_cases h2 : liesB bf bc = true
   · have HB : Hid (∀ W, Calls Tryz.prog 64 #[.agg #[.int .i64 bd, .int .i64 bf, .int .i64 bc]] W fun e w' => e = .returned (.bool true) ∧ Below W.heap.size W w') := fun W => by rw [← h2]; exact lies_c bd bf bc W
     obtain ⟨m1, m2, m3, m4⟩ := (lies_iff bf bc).1 h2
     by_cases h3 : ad = bd
     · by_cases h4 : af < bf + bc
       · by_cases h5 : bf < af + ac
         · rw [share_is (a := ⟨ad, af, ac⟩) (b := ⟨bd, bf, bc⟩) ⟨h1, h2, h3, h4, h5⟩]
           simp only [R3.v]
           subst h3
           clear h1 h2
           go_enter Tryz.func34, Tryz.ntmps34
           go_wp2_with (first
            | ((go_at_call 64)
               (refine at_arg 0 (.agg #[.int .i64 ad, .int .i64 af, .int .i64 ac]) rfl ?_)
               (rw [← hW0])
               (refine HA.out.mono ?_)
               (rintro e w1 ⟨rfl, hb1⟩)
               (obtain ⟨a0, a1, a2⟩ := threeR (hA.below hb1 hA.lt))
               (obtain ⟨b0, b1, b2⟩ := threeR (hB.below hb1 hB.lt)))
            | ((go_at_call 64)
               (refine (HB.out _).mono ?_)
               (rintro e w2 ⟨rfl, hb2⟩)
               (obtain ⟨x0, x1, x2⟩ := threeR ((hA.below hb1 hA.lt).below hb2 (hA.below hb1 hA.lt).lt))
               (obtain ⟨y0, y1, y2⟩ := threeR ((hB.below hb1 hB.lt).below hb2 (hB.below hb1 hB.lt).lt))))
           go_ret
           exact ⟨rfl, (hB0.trans (hb1.mono (by omega))).trans (hb2.mono (by have := hb1.size; omega))⟩
         · rw [share_not (a := ⟨ad, af, ac⟩) (b := ⟨bd, bf, bc⟩) (fun k => h5 k.2.2.2.2)]
           have h6 := decide_eq_false h5
           simp only [R3.v]
           subst h3
           clear h1 h2
           go_enter Tryz.func34, Tryz.ntmps34
           go_wp2_with (first
            | ((go_at_call 64)
               (refine at_arg 0 (.agg #[.int .i64 ad, .int .i64 af, .int .i64 ac]) rfl ?_)
               (rw [← hW0])
               (refine HA.out.mono ?_)
               (rintro e w1 ⟨rfl, hb1⟩)
               (obtain ⟨a0, a1, a2⟩ := threeR (hA.below hb1 hA.lt))
               (obtain ⟨b0, b1, b2⟩ := threeR (hB.below hb1 hB.lt)))
            | ((go_at_call 64)
               (refine (HB.out _).mono ?_)
               (rintro e w2 ⟨rfl, hb2⟩)
               (obtain ⟨x0, x1, x2⟩ := threeR ((hA.below hb1 hA.lt).below hb2 (hA.below hb1 hA.lt).lt))
               (obtain ⟨y0, y1, y2⟩ := threeR ((hB.below hb1 hB.lt).below hb2 (hB.below hb1 hB.lt).lt))))
           go_ret
           exact ⟨rfl, (hB0.trans (hb1.mono (by omega))).trans (hb2.mono (by have := hb1.size; omega))⟩
       · rw [share_not (a := ⟨ad, af, ac⟩) (b := ⟨bd, bf, bc⟩) (fun k => h4 k.2.2.2.1)]
         simp only [R3.v]
         subst h3
         clear h1 h2
         go_enter Tryz.func34, Tryz.ntmps34
         go_wp2_with (first
          | ((go_at_call 64)
             (refine at_arg 0 (.agg #[.int .i64 ad, .int .i64 af, .int .i64 ac]) rfl ?_)
             (rw [← hW0])
             (refine HA.out.mono ?_)
             (rintro e w1 ⟨rfl, hb1⟩)
             (obtain ⟨a0, a1, a2⟩ := threeR (hA.below hb1 hA.lt))
             (obtain ⟨b0, b1, b2⟩ := threeR (hB.below hb1 hB.lt)))
          | ((go_at_call 64)
             (refine (HB.out _).mono ?_)
             (rintro e w2 ⟨rfl, hb2⟩)
             (obtain ⟨x0, x1, x2⟩ := threeR ((hA.below hb1 hA.lt).below hb2 (hA.below hb1 hA.lt).lt))
             (obtain ⟨y0, y1, y2⟩ := threeR ((hB.below hb1 hB.lt).below hb2 (hB.below hb1 hB.lt).lt))))
         go_ret
         exact ⟨rfl, (hB0.trans (hb1.mono (by omega))).trans (hb2.mono (by have := hb1.size; omega))⟩
     · rw [share_not (a := ⟨ad, af, ac⟩) (b := ⟨bd, bf, bc⟩) (fun k => h3 k.2.2.1)]
       simp only [R3.v]
       clear h1 h2
       go_enter Tryz.func34, Tryz.ntmps34
       go_wp2_with (first
        | ((go_at_call 64)
           (refine at_arg 0 (.agg #[.int .i64 ad, .int .i64 af, .int .i64 ac]) rfl ?_)
           (rw [← hW0])
           (refine HA.out.mono ?_)
           (rintro e w1 ⟨rfl, hb1⟩)
           (obtain ⟨a0, a1, a2⟩ := threeR (hA.below hb1 hA.lt))
           (obtain ⟨b0, b1, b2⟩ := threeR (hB.below hb1 hB.lt)))
        | ((go_at_call 64)
           (refine (HB.out _).mono ?_)
           (rintro e w2 ⟨rfl, hb2⟩)
           (obtain ⟨x0, x1, x2⟩ := threeR ((hA.below hb1 hA.lt).below hb2 (hA.below hb1 hA.lt).lt))
           (obtain ⟨y0, y1, y2⟩ := threeR ((hB.below hb1 hB.lt).below hb2 (hB.below hb1 hB.lt).lt))))
       go_ret
       exact ⟨rfl, (hB0.trans (hb1.mono (by omega))).trans (hb2.mono (by have := hb1.size; omega))⟩
   · have HB : Hid (∀ W, Calls Tryz.prog 64 #[.agg #[.int .i64 bd, .int .i64 bf, .int .i64 bc]] W fun e w' => e = .returned (.bool false) ∧ Below W.heap.size W w') := fun W => by rw [← (show liesB bf bc = false by simpa using h2)]; exact lies_c bd bf bc W
     rw [share_not (a := ⟨ad, af, ac⟩) (b := ⟨bd, bf, bc⟩) (fun k => h2 k.2.1)]
     simp only [R3.v]
     clear h1 h2
     go_enter Tryz.func34, Tryz.ntmps34
     go_wp2_with (first
      | ((go_at_call 64)
         (refine at_arg 0 (.agg #[.int .i64 ad, .int .i64 af, .int .i64 ac]) rfl ?_)
         (rw [← hW0])
         (refine HA.out.mono ?_)
         (rintro e w1 ⟨rfl, hb1⟩)
         (obtain ⟨a0, a1, a2⟩ := threeR (hA.below hb1 hA.lt))
         (obtain ⟨b0, b1, b2⟩ := threeR (hB.below hb1 hB.lt)))
      | ((go_at_call 64)
         (refine (HB.out _).mono ?_)
         (rintro e w2 ⟨rfl, hb2⟩)
         (obtain ⟨x0, x1, x2⟩ := threeR ((hA.below hb1 hA.lt).below hb2 (hA.below hb1 hA.lt).lt))
         (obtain ⟨y0, y1, y2⟩ := threeR ((hB.below hb1 hB.lt).below hb2 (hB.below hb1 hB.lt).lt))))
     go_ret
     exact ⟨rfl, (hB0.trans (hb1.mono (by omega))).trans (hb2.mono (by have := hb1.size; omega))⟩
 · rw [share_not (a := ⟨ad, af, ac⟩) (b := ⟨bd, bf, bc⟩) (fun k => h1 k.1)]
   rw [show liesB af ac = false by simpa using h1] at hla
   have HA : Hid (Calls Tryz.prog 64 #[.agg #[.int .i64 ad, .int .i64 af, .int .i64 ac]] W0 fun e w' => e = .returned (.bool false) ∧ Below W0.heap.size W0 w') := hla
   simp only [R3.v]
   clear h1 hla
   go_enter Tryz.func34, Tryz.ntmps34
   go_wp2_with (first
    | ((go_at_call 64)
       (rw [← hW0])
       (refine HA.out.mono ?_)
       (rintro e w1 ⟨rfl, hb1⟩)))
   go_ret
   exact ⟨rfl, hB0.trans (hb1.mono (by omega))⟩
end
end Go.Proofs.YthndifegfmjpbaaGreatDoor
