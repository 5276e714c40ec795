/- Texts that the statements of this stage share, joined. -/
import Derived.Test.YthndifegfmjpbaaGreatDoorJoint24
import Derived.Test.YthndifegfmjpbaaGreatDoorJoint05
import Derived.Test.YthndifegfmjpbaaGreatDoorJoint04
namespace Go.Proofs.YthndifegfmjpbaaGreatDoor
set_option linter.unusedVariables false
set_option maxRecDepth 100000
set_option maxHeartbeats 40000000
section
open Go.ChangeShapes Go.WideShapes Go.ChangeAt Go.RowKit Go.MapKept
variable {E : Nat → Prop}
theorem row_at {w : World} {base e size n : Nat} {v : Value} {xs : List Value} (h : w.ownsRow base e size v n xs) (hn : 0 < n) : ∃ g C, v = .slice (some ⟨g, 0, none⟩) n C ∧ n ≤ C ∧ C ≤ maxLen ∧ g < w.heap.size ∧ base ≤ g ∧ ∀ j, j < n * size → w.cell? ⟨g, j, none⟩ = xs[j]? := by
 rcases h.2 with ⟨_, h0⟩ | ⟨g, cap, cur, rfl, hg, hh, hn', hm, hs, ht⟩
 · omega
 · refine ⟨g, cap, rfl, hn', hm, (Array.getElem?_eq_some_iff.1 hh).1, hg, fun j hj => ?_⟩
   rw [cell_of_row w g j cur _ _ hh, ← Array.getElem?_toList, ← ht]
   exact (List.getElem?_take_of_lt hj).symm
theorem ptl_get (l : List Pt) : ∀ (us : List (Value × Value × Value)) (h : us.length = l.length) (k : Nat) (hk : k < l.length) (j : Nat), j < 8 → (ptl l us)[k * 8 + j]? = (ptc l[k] (us[k]'(by omega)))[j]? := by
 induction l with
 | nil => intro us h k hk; simp at hk
 | cons p l ih =>
   intro us h k hk j hj
   cases us with
   | nil => simp at h
   | cons u us =>
     have h' : us.length = l.length := by simpa using h
     have e : ptl (p :: l) (u :: us) = (ptc p u).toList ++ ptl l us := rfl
     rw [e]
     have h8 : (ptc p u).toList.length = 8 := rfl
     cases k with
     | zero =>
       rw [Nat.zero_mul, Nat.zero_add, List.getElem?_append_left (by rw [h8]; exact hj)]
       rw [Array.getElem?_toList]
       rfl
     | succ k =>
       rw [List.getElem?_append_right (by rw [h8]; omega), h8, show (k + 1) * 8 + j - 8 = k * 8 + j by omega]
       exact ih us h' k (by simpa using hk) j hj
theorem sz_get (ps : List Pt) {k : Nat} (hk : k < ps.length) : sz ps k = ps[k].size := by
 unfold sz ptAt
 rw [List.getD_eq_getElem?_getD, List.getElem?_eq_getElem hk]
 rfl
def SzAt (w : World) (g off : Nat) (ps : List Pt) : Prop := ∀ k, k < ps.length → w.cell? ⟨g, off + k * 8 + 1, none⟩ = some (.int .i64 (sz ps k : Nat))
theorem CkAt.vp {w : World} {cb : Nat} {V : CV} {c : Ck} (h : CkAt E w cb V c) (hn : 0 < c.parts.length) : ∃ g off C, V.vp = .slice (some ⟨g, off, none⟩) c.parts.length C ∧ c.parts.length ≤ C ∧ C ≤ maxLen ∧ g < w.heap.size ∧ SzAt w g off c.parts := by
 obtain ⟨us, e1, hp, _⟩ := h.prts
 obtain ⟨g, C, e, h1, h2, h3, _, h4⟩ := row_at hp hn
 refine ⟨g, 0, C, e, h1, h2, h3, fun k hk => ?_⟩
 rw [show 0 + k * 8 + 1 = k * 8 + 1 by omega, h4 (k * 8 + 1) (by omega), ptl_get _ us e1 k hk 1 (by decide), sz_get _ hk]
 rfl
def OnAt (w : World) (g off : Nat) (os : List Bool) : Prop := ∀ k, k < os.length → w.cell? ⟨g, off + k, none⟩ = some (.bool (os.getD k false))
theorem CkAt.vo {w : World} {cb : Nat} {V : CV} {c : Ck} (h : CkAt E w cb V c) (hn : 0 < c.parts.length) : ∃ g off C, V.vb = .slice (some ⟨g, off, none⟩) c.parts.length C ∧ c.parts.length ≤ C ∧ C ≤ maxLen ∧ g < w.heap.size ∧ OnAt w g off (onlys c.parts) := by
 obtain ⟨g, C, e, h1, h2, h3, _, h4⟩ := row_at h.only hn
 refine ⟨g, 0, C, e, h1, h2, h3, fun k hk => ?_⟩
 have hl : k < c.parts.length := by rw [onlys_len] at hk; exact hk
 rw [Nat.zero_add, h4 k (by omega), List.getElem?_map, List.getElem?_eq_getElem hk, List.getD_eq_getElem?_getD, List.getElem?_eq_getElem hk]
 rfl
theorem SzAt.below {w w' : World} {B g off : Nat} {ps : List Pt} (h : SzAt w g off ps) (hb : Below B w w') (hg : g < B) : SzAt w' g off ps := fun k hk => (hb.cell (p := ⟨g, off + k * 8 + 1, none⟩) hg).trans (h k hk)
theorem OnAt.below {w w' : World} {B g off : Nat} {os : List Bool} (h : OnAt w g off os) (hb : Below B w w') (hg : g < B) : OnAt w' g off os := fun k hk => (hb.cell (p := ⟨g, off + k, none⟩) hg).trans (h k hk)
theorem run_at_kid {o : Oper} {a : Act} (x i : Operand) (ho : o.op = .indexAddr 29 x i) (g off k n cap : Nat) (hx : a.eval x = .slice (some ⟨g, off, none⟩) n cap) (hi : a.eval i = .int .i64 (k : Nat)) (hk : k < n) (w : World) : (execOp a.eval o).run Tryz.prog w = .ok (.value (.pointer (some ⟨g, off + k, none⟩))) w := run_at_slice 29 x i ho g off k n cap 3 hx hi Tryz.underlying29 (by kernel_rfl) hk w
theorem run_at_bo {o : Oper} {a : Act} (x i : Operand) (ho : o.op = .indexAddr 66 x i) (g off k n cap : Nat) (hx : a.eval x = .slice (some ⟨g, off, none⟩) n cap) (hi : a.eval i = .int .i64 (k : Nat)) (hk : k < n) (w : World) : (execOp a.eval o).run Tryz.prog w = .ok (.value (.pointer (some ⟨g, off + k, none⟩))) w := run_at_slice 66 x i ho g off k n cap 4 hx hi Tryz.underlying66 (by kernel_rfl) hk w
theorem run_eqI {o : Oper} {a : Act} (x y : Operand) (ho : o.op = .binOp .eql 3 x y 3) (p q : Nat) (hx : a.eval x = .int .i64 (p : Nat)) (hy : a.eval y = .int .i64 (q : Nat)) (w : World) : (execOp a.eval o).run Tryz.prog w = .ok (.value (.bool (p == q))) w := by
 have e : ((p : Int) == (q : Int)) = (p == q) := by rw [Bool.eq_iff_iff]; simp; omega
 unfold execOp
 simp only [ho, hx, hy]
 rw [← e]
 go_simp
theorem run_quoI {o : Oper} {a : Act} (x y : Operand) (ho : o.op = .binOp .quo 3 x y 3) (p q : Nat) (hx : a.eval x = .int .i64 ((p * q : Nat) : Int)) (hy : a.eval y = .int .i64 (q : Nat)) (hq : 0 < q) (hp : p * q ≤ 1000000) (w : World) : (execOp a.eval o).run Tryz.prog w = .ok (.value (.int .i64 (p : Nat))) w := by
 have e : ((p * q : Nat) : Int).tdiv (q : Int) = (p : Int) := by
  rw [← Int.ofNat_tdiv, Nat.mul_div_cancel _ hq]
 have hq' : ¬ ((q : Nat) : Int) = 0 := by omega
 have hle : p ≤ 1000000 := by
  have := Nat.le_mul_of_pos_right p hq
  omega
 unfold execOp
 simp only [ho, hx, hy]
 generalize ((p * q : Nat) : Int) = X at *
 generalize ((q : Nat) : Int) = Q at *
 go_simp
 exact IntWalk.i64_in _ (by omega)
def noK : Except Er Pt → Except Er Pt
 | .error e => .error e
 | .ok p => .ok { p with kids := [] }
def csev (ps : List Pt) (n : Nd) (ks : List Nat) : Except Er Pt :=
 if n.op = wConcat then
  if (ks.map (sz ps)).sum ≤ 8192 then .ok ⟨3, (ks.map (sz ps)).sum, ks, 0, 0, 0, [], []⟩ else .error (134, n.a)
 else if ks.all (fun k => sz ps k == sz ps (ks.getD 0 0)) then .ok ⟨4, sz ps (ks.getD 0 0), ks, 0, 0, 0, [], []⟩ else .error (134, n.a)
end
section
open Go.ChangeShapes Go.WideShapes Go.ChangeAt Go.RowKit
theorem lower_c (z : Int) (h : 97 ≤ z ∧ z ≤ 102) (w : World) : Calls Tryz.prog 177 #[.int .u8 z] w fun e w' => e = .returned (.int .u8 z) ∧ w' = w := by
 have hz : z = 97 ∨ z = 98 ∨ z = 99 ∨ z = 100 ∨ z = 101 ∨ z = 102 := by omega
 rcases hz with rfl | rfl | rfl | rfl | rfl | rfl
 all_goals
  go_enter Tryz.func177, Tryz.ntmps177
  go_wp2
  go_ret
  exact ⟨rfl, rfl⟩
def hexv (l : List UInt8) : Nat := l.foldl (fun n c => 16 * n + hv1 c) 0
theorem hexv_take (x : List UInt8) (k : Nat) (h : k < x.length) : hexv (x.take (k + 1)) = 16 * hexv (x.take k) + hv1 x[k] := by
 unfold hexv
 rw [List.take_succ_eq_append_getElem h, List.foldl_append]
 rfl
theorem hxy_two {c : UInt8} (h : isHxy c = true) : (48 ≤ ((c.toNat : Nat) : Int) ∧ ((c.toNat : Nat) : Int) ≤ 57 ∧ ((hv1 c : Nat) : Int) = (c.toNat : Int) - 48) ∨ (97 ≤ ((c.toNat : Nat) : Int) ∧ ((c.toNat : Nat) : Int) ≤ 102 ∧ ((hv1 c : Nat) : Int) = (c.toNat : Int) - 87) := by
 unfold isHxy isFig at h
 unfold hv1
 simp only [Bool.or_eq_true, Bool.and_eq_true, decide_eq_true_eq] at h
 rcases h with ⟨h1, h2⟩ | ⟨h1, h2⟩
 · refine .inl ⟨by omega, by omega, ?_⟩
   rw [if_neg (by omega)]
   omega
 · refine .inr ⟨by omega, by omega, ?_⟩
   rw [if_pos (by omega)]
   omega
theorem hv1_lt {c : UInt8} (h : isHxy c = true) : hv1 c ≤ 15 := by
 rcases hxy_two h with ⟨h1, h2, h3⟩ | ⟨h1, h2, h3⟩ <;> omega
theorem hexv_lt (x : List UInt8) (hf : ∀ c ∈ x, isHxy c = true) (k : Nat) (hk : k ≤ 2) (h2 : x.length = 2) : hexv (x.take k) ≤ 255 ∧ (k < 2 → hexv (x.take k) ≤ 15) := by
 match x, h2 with
 | [a, b], _ =>
   have ha := hv1_lt (hf a (by simp))
   have hb := hv1_lt (hf b (by simp))
   have : k = 0 ∨ k = 1 ∨ k = 2 := by omega
   rcases this with rfl | rfl | rfl
   · simp [hexv]
   · simp [hexv]; omega
   · simp [hexv]; omega
theorem puint_in (x : List UInt8) (w : World) (h2 : x.length = 2) (hf : ∀ c ∈ x, isHxy c = true) :
  Calls Tryz.prog 160 #[.string (bs x), .int .i64 16, .int .i64 8] w fun e w' => e = .returned (.tuple #[.int .u64 (hexv x : Nat), .nilIface]) ∧ Below w.heap.size w w' := by
 have hsz := bs_size x
 obtain ⟨W1, cap, hconv, hcell, hbel⟩ := bytes_of w x
 have hxl := hexv_lt x hf
 have HS : Hid ((bs x).size = x.length) := hsz
 have hne : (x == []) = false := by match x, h2 with | [a, b], _ => rfl
 have hot := bs_toList x
 rw [h2] at hsz
 rw [hsz] at hconv
 have HX : Hid (x.length = 2) := h2
 clear hsz h2
 go_enter Tryz.func160, Tryz.ntmps160
 go_wp2
 go_loop [12, 13, 101] (fun u n i => ∃ k : Nat, k ≤ 2 ∧ u = .bool false ∧ i = .int .i64 (k : Nat) ∧ n = .int .u64 (hexv (x.take k) : Nat)) (fun _ _ i => 2 - (intOf i).toNat)
 case atStart => exact ⟨0, Nat.zero_le _, rfl, rfl, rfl⟩
 case round =>
  obtain ⟨k, hk, rfl, rfl, rfl⟩ := hrel
  obtain ⟨hv2, hv1'⟩ := hxl k hk HX.out
  obtain ⟨V, hV⟩ : ∃ V, V = hexv (x.take k) := ⟨_, rfl⟩
  rw [← hV] at hv2 hv1' ⊢
  by_cases hlt : k < 2
  · have hlt' : k < x.length := by rw [HX.out]; exact hlt
    have hc := hcell k hlt'
    have hvb := hv1' hlt
    have hvt := hexv_take x k hlt'
    rw [← hV] at hvt
    have hhx := hxy_two (hf _ (List.getElem_mem hlt'))
    have HV : Hid (((hexv (x.take (k + 1)) : Nat) : Int) = 16 * (V : Int) + ((hv1 x[k] : Nat) : Int)) := by show ((hexv (x.take (k + 1)) : Nat) : Int) = _; rw [hvt]; omega
    have hlt2 : ((k : Nat) : Int) < 2 := by omega
    have hvi : (V : Int) ≤ 15 := by omega
    clear hvt hV hv2 hv1' hcell hconv hxl hbel hf
    generalize ((hv1 x[k] : Nat) : Int) = y at hhx HV
    generalize ((x[k].toNat : Nat) : Int) = z at hc hhx HV
    have hv0 : (0 : Int) ≤ (V : Int) := by omega
    generalize (V : Int) = Z at hvi hv0 HV ⊢
    clear hvb
    rcases hhx with ⟨g1, g2, g3⟩ | ⟨g1, g2, g3⟩
    · have e1 : (z == 95) = false := by simp; omega
      subst g3
      go_wp2
      go_round
      case rel => exact ⟨k + 1, by omega, rfl, by go_num, by rw [HV.out]; go_num⟩
      case measure => simp [intOf]; omega
    · have e1 : (z == 95) = false := by simp; omega
      have hlow := lower_c z ⟨g1, g2⟩
      subst g3
      go_wp2_with (first
       | ((go_at_call 177)
          (refine (hlow _).mono ?_)
          (rintro e w2 ⟨rfl, rfl⟩)))
      go_round
      case rel => exact ⟨k + 1, by omega, rfl, by go_num, by rw [HV.out]; go_num⟩
      case measure => simp [intOf]; omega
  · have hlt2 : ¬ ((k : Nat) : Int) < 2 := by omega
    have hfull : x.take k = x := List.take_of_length_le (by rw [HX.out]; omega)
    rw [hfull] at hV
    have HV : Hid (V = hexv x) := hV
    clear hfull hV hcell hconv hxl
    go_wp2
    go_ret2
    exact ⟨by rw [HV.out]; rfl, hbel⟩
theorem puint_c (x : List UInt8) (w : World) (h2 : x.length = 2) (hf : ∀ c ∈ x, isHxy c = true) :
  Calls Tryz.prog 143 #[.string (bs x), .int .i64 16, .int .i64 8] w fun e w' => e = .returned (.tuple #[.int .u64 (hexv x : Nat), .nilIface]) ∧ Below w.heap.size w w' := by
 have ha := puint_in x w h2 hf
 go_enter Tryz.func143, Tryz.ntmps143
 go_wp2_with (go_at_call 160; refine ha.mono ?_; rintro e w' ⟨rfl, hb⟩)
 go_ret2
 exact ⟨rfl, hb⟩
theorem unhex_get : ∀ (i : Nat) (x : List UInt8), 2 * i + 1 < x.length → (unhex x)[i]? = some (UInt8.ofNat (hexv ((x.drop (2 * i)).take 2)))
 | 0, a :: b :: r, _ => by simp [unhex, hexv]
 | i + 1, a :: b :: r, h => by
   have := unhex_get i r (by simp at h; omega)
   simp only [unhex, List.getElem?_cons_succ]
   rw [this, show 2 * (i + 1) = 2 * i + 1 + 1 by omega]
   rfl
 | 0, [], h => by simp at h
 | 0, [_], h => by simp at h
 | i + 1, [], h => by simp at h
 | i + 1, [_], h => by simp at h
theorem unhex_len : ∀ (x : List UInt8), (unhex x).length = x.length / 2
 | a :: b :: r => by simp [unhex, unhex_len r]; omega
 | [] => rfl
 | [_] => by simp [unhex]
end
section
open Go.ChangeShapes Go.WideShapes Go.ChangeAt Go.RowKit
theorem hidI {p : Prop} (h : p) : Hid p := h
theorem unhex_c (x : List UInt8) (w : World) (hl : x.length = 64) (hf : ∀ c ∈ x, isHxy c = true) : Calls Tryz.prog 119 #[.string (bs x)] w fun e w' => ∃ v, e = .returned v ∧ BNew w w' v (unhex x) ∧ Below w.heap.size w w' := by
 have hsz := bs_size x
 rw [hl] at hsz
 obtain ⟨W1, hH1, hb1, hmk⟩ := make_has 32 (by decide) w
 have hget : ∀ i, i < 32 → (unhex x)[i]? = some (UInt8.ofNat (hexv ((x.drop (2 * i)).take 2))) := fun i hi => unhex_get i x (by omega)
 have hulen : (unhex x).length = 32 := by rw [unhex_len, hl]
 have hsub : ∀ i, i < 32 → ((x.drop (2 * i)).take 2).length = 2 ∧ ∀ c ∈ (x.drop (2 * i)).take 2, isHxy c = true := fun i hi => ⟨by simp; omega, fun c hc => hf c (List.mem_of_mem_drop (List.mem_of_mem_take hc))⟩
 have hlt : ∀ i, i < 32 → hexv ((x.drop (2 * i)).take 2) ≤ 255 := fun i hi => by
  have := (hexv_lt ((x.drop (2 * i)).take 2) (hsub i hi).2 2 (Nat.le_refl _) (hsub i hi).1).1
  rwa [List.take_of_length_le (by rw [(hsub i hi).1]; exact Nat.le_refl _)] at this
 have HX : Hid (x.length = 64) := hl
 have HG : Hid (∀ i, i < 32 → (unhex x)[i]? = some (UInt8.ofNat (hexv ((x.drop (2 * i)).take 2)))) := hget
 have HU : Hid ((unhex x).length = 32) := hulen
 have HSu : Hid (∀ i, i < 32 → ((x.drop (2 * i)).take 2).length = 2 ∧ ∀ c ∈ (x.drop (2 * i)).take 2, isHxy c = true) := hsub
 have HLt : Hid (∀ i, i < 32 → hexv ((x.drop (2 * i)).take 2) ≤ 255) := hlt
 have h0 : Has W1 w.heap.size 5 (cellsN .u8 32 fun j => if j < 0 then hexv ((x.drop (2 * j)).take 2) else 0) := by simpa using hH1
 clear hl hget hulen hsub hlt hf hH1
 go_enter Tryz.func119, Tryz.ntmps119
 go_wp2_with (first
  | ((refine at_dstL 10 rfl ?_)
     (refine wpList_is_w (some 10) (.slice (some ⟨w.heap.size, 0, none⟩) 32 32) W1 rfl (by rfl) (hmk _ _ _ _ rfl rfl rfl) ?_)))
 go_loopw [13] (fun z wr => ∃ i : Nat, z = .int .i64 (i : Nat) ∧ i ≤ 32 ∧ Has wr w.heap.size 5 (cellsN .u8 32 fun j => if j < i then hexv ((x.drop (2 * j)).take 2) else 0) ∧ Below w.heap.size w wr) (fun z _ => 32 - (intOf z).toNat)
 case atStart => exact ⟨0, rfl, by omega, h0, hb1⟩
 case round =>
  obtain ⟨i, rfl, hi, hH, hB⟩ := hrel
  clear h0 hb1 hmk
  by_cases hlt : i < 32
  · have hy := HSu.out i hlt
    have hK := HLt.out i hlt
    have hex : (bs x).extract (2 * i) (2 * i + 2) = bs ((x.drop (2 * i)).take 2) := by rw [bs_extract, Nat.add_sub_cancel_left]
    have hpu := fun W => puint_c _ W hy.1 hy.2
    have HN : Hid (hexv ((x.drop (2 * i)).take 2) = hexv ((x.drop (2 * i)).take 2)) := rfl
    have hli : (i : Int) < 32 := by omega
    have hset := fun W (h : Has W w.heap.size 5 (cellsN .u8 32 fun j => if j < i then hexv ((x.drop (2 * j)).take 2) else 0)) => h.set i (hexv ((x.drop (2 * i)).take 2))
    have hupd : cellsN .u8 32 (upd (fun j => if j < i then hexv ((x.drop (2 * j)).take 2) else 0) i (hexv ((x.drop (2 * i)).take 2))) = cellsN .u8 32 (fun j => if j < i + 1 then hexv ((x.drop (2 * j)).take 2) else 0) := by
     refine cellsN_congr _ _ _ _ (fun j hj => ?_)
     unfold upd
     by_cases e : j = i
     · subst e; rw [if_pos rfl, if_pos (by omega)]
     · rw [if_neg e]
       show (if j < i then hexv ((x.drop (2 * j)).take 2) else 0) = _
       by_cases e2 : j < i
       · rw [if_pos e2, if_pos (by omega)]
       · rw [if_neg e2, if_neg (by omega)]
    have HU2 := hidI hupd
    have HSe := hidI hset
    have cc := hH.num i hlt
    simp only [if_neg (Nat.lt_irrefl i)] at cc
    have hlg := hH.lt
    generalize (x.drop (2 * i)).take 2 = y at hex hpu hK HSe HU2 cc
    generalize hexv y = K at hpu hK HSe HU2
    have hKi : ((K : Nat) : Int) ≤ 255 := by omega
    have hKi0 : (0 : Int) ≤ ((K : Nat) : Int) := by omega
    clear hupd hset hy HN
    go_wp2_with (first
     | ((go_at_call 143)
        (refine (hpu _).mono ?_)
        (rintro e w2 ⟨rfl, hb2⟩)
        (have cc2 := below_some hb2 cc)
        (have fr2 := (hH.below hb2 hlg).free i)))
    go_roundw
    case rel => exact ⟨i + 1, by go_num, by omega, by rw [← HU2.out]; exact HSe.out _ (hH.below hb2 hlg), (hB.trans (hb2.mono hB.size)).setCell (p := ⟨w.heap.size, i, none⟩) (Nat.le_refl _) _⟩
    case measure => simp [intOf]; omega
  · obtain rfl : i = 32 := by omega
    go_wp2
    go_ret
    refine ⟨.slice (some ⟨w.heap.size, 0, none⟩) 32 32, rfl, ⟨some ⟨w.heap.size, 0, none⟩, 32, by rw [HU.out], by rw [HU.out]; exact Nat.le_refl _, by unfold maxLen; omega, ?_⟩, hB⟩
    refine .inr ⟨w.heap.size, 0, rfl, hH.lt, Nat.le_refl _, fun j hj => ?_⟩
    rw [HU.out] at hj
    have := hH.num j hj
    rw [Nat.zero_add, this, if_pos hj]
    have hg := HG.out j hj
    have hk := HLt.out j hj
    rw [List.getElem?_eq_getElem (by rw [HU.out]; exact hj)] at hg
    injection hg with hg
    rw [hg]
    congr 2
    simp
    omega
end
section
open Go.ChangeShapes Go.WideShapes Go.ChangeAt Go.RowKit Go.MapKept
variable {E : Nat → Prop}
def CRes (E : Nat → Prop) (w : World) (cb : Nat) (V : CV) (R : Except Er Ck) (e : Ending) (w' : World) : Prop := Onl (V.own cb) w w' ∧ match R with
 | .error (ec, ek) => e = .panicked (cflt ec ek)
 | .ok c' => e = .returned (.tuple #[]) ∧ ∃ V', CkAt (fun g => E g ∨ w.heap.size ≤ g) w' cb V' c' ∧ Stp cb V w V' w'
theorem run_eqC {o : Oper} {a : Act} (x : Operand) (k : Int) (ho : o.op = .binOp .eql 3 x (.const (.int .i64 k)) 3) (K : Int) (hx : a.eval x = .int .i64 K) (b : Bool) (hb : (K == k) = b) (w : World) : (execOp a.eval o).run Tryz.prog w = .ok (.value (.bool b)) w := by
 unfold execOp
 simp only [ho, hx]
 subst hb
 go_simp
theorem export_c {w : World} {cb : Nat} {V : CV} {c : Ck} (h : CkAt E w cb V c) (n : Nd) (A : Option Addr) (L C : Nat) (hn : NmOk c.names c.parts) : Calls Tryz.prog 85 #[.pointer (some ⟨cb, 0, none⟩), .agg (ndc n (.slice A L C))] w (CRes E w cb V (cexport c n)) := by
 obtain ⟨W1, hW1⟩ : ∃ W1, W1 = w.alloc (.cells #[.string (bs n.op), .string (bs n.s), .int .i64 n.n, .int .i64 n.a, .slice A L C] 24) := ⟨_, rfl⟩
 have hb1 : Below w.heap.size w W1 := by rw [hW1]; exact b_one w _
 have N1 : Has W1 w.heap.size 24 #[.string (bs n.op), .string (bs n.s), .int .i64 n.n, .int .i64 n.a, .slice A L C] := by rw [hW1]; exact Has.new w _ _
 have h1 : CkAt E W1 cb V c := h.keep hb1
 have HW := hidI hW1
 have lcb := h.has.lt
 have c3 := h1.has.cell 3
 have nc3 := N1.cell 3
 simp only [ga1, gz1, gs1] at c3 nc3
 clear hW1
 cases hx : c.expo with
 | some x0 =>
   have HR := hidI (show cexport c n = .error (138, n.a) by unfold cexport; rw [hx]; rfl)
   have hxe : (jI c.expo == -1) = false := by
    rw [hx, beq_eq_false_iff_ne]
    show ((x0 : Nat) : Int) ≠ -1
    omega
   unfold ndc
   go_enter Tryz.func85, Tryz.ntmps85
   go_wp2
   rw [← HW.out]
   refine wp_region_held_drew (S := fun wz => Below W1.heap.size W1 wz) (by kernel_rfl) ((Below.refl _ W1).drew) (fun hHeld => ?_)
   refine tkT 0 (some 4) (.pointer (some ⟨cb, 0, none⟩)) rfl rfl (fun _ _ => rfl) hHeld ?_
   simp only [Act.put, sb1, sz1, ss1]
   refine tkT 1 (some 5) (.pointer (some ⟨cb, 0, none⟩)) rfl rfl (fun _ _ => rfl) hHeld ?_
   simp only [Act.put, sb1, sz1, ss1]
   refine tkT 2 (some 6) (.pointer (some ⟨cb, 0, none⟩)) rfl rfl (fun _ _ => rfl) hHeld ?_
   simp only [Act.put, sb1, sz1, ss1]
   refine tkT 3 (some 7) (.pointer (some ⟨cb, 3, none⟩)) rfl rfl (fun _ _ => rfl) hHeld ?_
   simp only [Act.put, sb1, sz1, ss1]
   refine tkT 4 (some 8) (.int .i64 (jI c.expo)) rfl rfl (fun wz hz => by have z0 := below_some hz c3; unfold execOp; go_simp) hHeld ?_
   simp only [Act.put, sb1, sz1, ss1]
   refine tkT 5 (some 9) (.bool false) rfl rfl (fun wz _ => run_eqC _ (-1) rfl (jI c.expo) rfl false hxe wz) hHeld ?_
   simp only [Act.put, sb1, sz1, ss1]
   refine tkT 6 (some 10) (.pointer (some ⟨w.heap.size, 3, none⟩)) rfl rfl (fun _ _ => rfl) hHeld ?_
   simp only [Act.put, sb1, sz1, ss1]
   refine tkT 7 (some 11) (.int .i64 n.a) rfl rfl (fun wz hz => by have z0 := below_some hz nc3; unfold execOp; go_simp) hHeld ?_
   simp only [Act.put, sb1, sz1, ss1]
   refine callToP 8 (some 12) 86 #[.bool false, .int .i64 138, .int .i64 n.a] (by kernel_rfl) rfl rfl (by rfl) (by kernel_rfl) (need_no 138 n.a W1.drew) ?_
   rintro e w5 ⟨rfl, rfl⟩
   refine .inr ⟨_, rfl, ?_⟩
   exact ⟨rfl, (Onl.of hb1).drew, by rw [HR.out]; rfl⟩
 | none =>
   have hxe : (jI c.expo == -1) = true := by rw [hx]; rfl
   have hk2 : ∀ w2 : World, Below W1.heap.size W1 w2 → Calls Tryz.prog 117 #[.pointer (some ⟨cb, 0, none⟩), .agg (ndc n (.slice A L C)), .slice (some ⟨w2.heap.size, 0, none⟩) 2 2] (w2.alloc (.cells #[.string ⟨#[100, 101, 118, 105, 99, 101]⟩, .string ⟨#[118, 111, 108, 117, 109, 101]⟩] 9)) (KRes (w2.alloc (.cells #[.string ⟨#[100, 101, 118, 105, 99, 101]⟩, .string ⟨#[118, 111, 108, 117, 109, 101]⟩] 9)) V cb (known c.names n [wDevice, wVolume])) := fun w2 hb => known_c ((h1.keep hb).alloc _) n A L C [wDevice, wVolume] _ (.inr ⟨w2.heap.size, rfl, Has.new_at rfl⟩) (by simp)
   have hR : cexport c n = match known c.names n [wDevice, wVolume] with | .error e => .error e | .ok m => .ok { c with expo := some m.node, ro := decide (n.n = 1) || (onlys c.parts).getD m.node false, eat := n.a } := by unfold cexport; rw [hx]; rfl
   clear hx
   cases hK : known c.names n [wDevice, wVolume] with
   | error er =>
     obtain ⟨ec, ek⟩ := er
     rw [hK] at hk2 hR
     have HR := hidI hR
     clear hK hR
     unfold ndc at hk2 ⊢
     go_enter Tryz.func85, Tryz.ntmps85
     go_wp2
     rw [← HW.out]
     refine wp_region_held_drew (S := fun wz => Below W1.heap.size W1 wz) (by kernel_rfl) ((Below.refl _ W1).drew) (fun hHeld => ?_)
     refine tkT 0 (some 4) (.pointer (some ⟨cb, 0, none⟩)) rfl rfl (fun _ _ => rfl) hHeld ?_
     simp only [Act.put, sb1, sz1, ss1]
     refine tkT 1 (some 5) (.pointer (some ⟨cb, 0, none⟩)) rfl rfl (fun _ _ => rfl) hHeld ?_
     simp only [Act.put, sb1, sz1, ss1]
     refine tkT 2 (some 6) (.pointer (some ⟨cb, 0, none⟩)) rfl rfl (fun _ _ => rfl) hHeld ?_
     simp only [Act.put, sb1, sz1, ss1]
     refine tkT 3 (some 7) (.pointer (some ⟨cb, 3, none⟩)) rfl rfl (fun _ _ => rfl) hHeld ?_
     simp only [Act.put, sb1, sz1, ss1]
     refine tkT 4 (some 8) (.int .i64 (jI c.expo)) rfl rfl (fun wz hz => by have z0 := below_some hz c3; unfold execOp; go_simp) hHeld ?_
     simp only [Act.put, sb1, sz1, ss1]
     refine tkT 5 (some 9) (.bool true) rfl rfl (fun wz _ => run_eqC _ (-1) rfl (jI c.expo) rfl true hxe wz) hHeld ?_
     simp only [Act.put, sb1, sz1, ss1]
     refine tkT 6 (some 10) (.pointer (some ⟨w.heap.size, 3, none⟩)) rfl rfl (fun _ _ => rfl) hHeld ?_
     simp only [Act.put, sb1, sz1, ss1]
     refine tkT 7 (some 11) (.int .i64 n.a) rfl rfl (fun wz hz => by have z0 := below_some hz nc3; unfold execOp; go_simp) hHeld ?_
     simp only [Act.put, sb1, sz1, ss1]
     refine callToP 8 (some 12) 86 #[.bool true, .int .i64 138, .int .i64 n.a] (by kernel_rfl) rfl rfl (by rfl) (by kernel_rfl) (need_yes 138 n.a W1.drew) ?_
     rintro e w5 ⟨rfl, rfl⟩
     refine .inl ⟨_, rfl, hHeld, ?_⟩
     simp only [Act.put, sb1, sz1, ss1]
     refine wpAnyH_done (by kernel_rfl) ?_ _
     have hb2 : Below W1.heap.size W1 W1.drew := below_drew (Below.refl _ W1)
     have hkn := hk2 _ hb2
     have N2 := has_drew N1
     clear hHeld hk2 c3 nc3
     generalize W1.drew = W2 at *
     have a0 := N2.cell 0
     have a1 := N2.cell 1
     have a2 := N2.cell 2
     have a3 := N2.cell 3
     have a4 := N2.cell 4
     have al := N2.lt
     simp only [ga1, gz1, gs1] at a0 a1 a2 a3 a4
     go_wp2_with (first
      | ((go_at_call 117)
         (refine hkn.mono ?_)
         (rintro e w5 ⟨hb5, rfl⟩)))
     exact ⟨rfl, (Onl.of ((hb1.trans (hb2.mono hb1.size)).trans ((b_one W2 _).mono (Nat.le_trans hb1.size hb2.size)))).trans (.of hb5), by rw [HR.out]⟩
   | ok m =>
     have hnd := known_node hn hK
     rw [hK] at hk2 hR
     have HR := hidI hR
     clear hK hR
     unfold ndc at hk2 ⊢
     go_enter Tryz.func85, Tryz.ntmps85
     go_wp2
     rw [← HW.out]
     refine wp_region_held_drew (S := fun wz => Below W1.heap.size W1 wz) (by kernel_rfl) ((Below.refl _ W1).drew) (fun hHeld => ?_)
     refine tkT 0 (some 4) (.pointer (some ⟨cb, 0, none⟩)) rfl rfl (fun _ _ => rfl) hHeld ?_
     simp only [Act.put, sb1, sz1, ss1]
     refine tkT 1 (some 5) (.pointer (some ⟨cb, 0, none⟩)) rfl rfl (fun _ _ => rfl) hHeld ?_
     simp only [Act.put, sb1, sz1, ss1]
     refine tkT 2 (some 6) (.pointer (some ⟨cb, 0, none⟩)) rfl rfl (fun _ _ => rfl) hHeld ?_
     simp only [Act.put, sb1, sz1, ss1]
     refine tkT 3 (some 7) (.pointer (some ⟨cb, 3, none⟩)) rfl rfl (fun _ _ => rfl) hHeld ?_
     simp only [Act.put, sb1, sz1, ss1]
     refine tkT 4 (some 8) (.int .i64 (jI c.expo)) rfl rfl (fun wz hz => by have z0 := below_some hz c3; unfold execOp; go_simp) hHeld ?_
     simp only [Act.put, sb1, sz1, ss1]
     refine tkT 5 (some 9) (.bool true) rfl rfl (fun wz _ => run_eqC _ (-1) rfl (jI c.expo) rfl true hxe wz) hHeld ?_
     simp only [Act.put, sb1, sz1, ss1]
     refine tkT 6 (some 10) (.pointer (some ⟨w.heap.size, 3, none⟩)) rfl rfl (fun _ _ => rfl) hHeld ?_
     simp only [Act.put, sb1, sz1, ss1]
     refine tkT 7 (some 11) (.int .i64 n.a) rfl rfl (fun wz hz => by have z0 := below_some hz nc3; unfold execOp; go_simp) hHeld ?_
     simp only [Act.put, sb1, sz1, ss1]
     refine callToP 8 (some 12) 86 #[.bool true, .int .i64 138, .int .i64 n.a] (by kernel_rfl) rfl rfl (by rfl) (by kernel_rfl) (need_yes 138 n.a W1.drew) ?_
     rintro e w5 ⟨rfl, rfl⟩
     refine .inl ⟨_, rfl, hHeld, ?_⟩
     simp only [Act.put, sb1, sz1, ss1]
     refine wpAnyH_done (by kernel_rfl) ?_ _
     have hb2 : Below W1.heap.size W1 W1.drew := below_drew (Below.refl _ W1)
     have hkn := hk2 _ hb2
     have N2 := has_drew N1
     clear hHeld hk2 c3 nc3
     generalize W1.drew = W2 at *
     have a0 := N2.cell 0
     have a1 := N2.cell 1
     have a2 := N2.cell 2
     have a3 := N2.cell 3
     have a4 := N2.cell 4
     have al := N2.lt
     simp only [ga1, gz1, gs1] at a0 a1 a2 a3 a4
     obtain ⟨K, hKm⟩ : ∃ K, K = m.node := ⟨_, rfl⟩
     have HKm := hidI hKm
     have hb12 : Below w.heap.size w W2 := hb1.trans (hb2.mono hb1.size)
     have HB := hidI (fun w5 (hb5 : Below (W2.alloc (.cells #[.string ⟨#[100, 101, 118, 105, 99, 101]⟩, .string ⟨#[118, 111, 108, 117, 109, 101]⟩] 9)).heap.size (W2.alloc (.cells #[.string ⟨#[100, 101, 118, 105, 99, 101]⟩, .string ⟨#[118, 111, 108, 117, 109, 101]⟩] 9)) w5) => (hb12.trans ((b_one W2 (.cells #[.string ⟨#[100, 101, 118, 105, 99, 101]⟩, .string ⟨#[118, 111, 108, 117, 109, 101]⟩] 9)).mono hb12.size)).trans (hb5.mono (by have := hb12.size; simp; omega)))
     clear hKm
     go_wp2_with (first
      | ((go_at_call 117)
         (refine hkn.mono ?_)
         (rintro e w5 ⟨hb5, Am, Cm, rfl, hm1, hm2, hbp⟩)
         (unfold mnv)
         (rw [← HKm.out])
         (have hb05 := HB.out w5 hb5)
         (have H5 := h.keep hb05)
         (have N5 := N1.below (show Below W1.heap.size W1 w5 from (hb2.trans ((b_one W2 (.cells #[.string ⟨#[100, 101, 118, 105, 99, 101]⟩, .string ⟨#[118, 111, 108, 117, 109, 101]⟩] 9)).mono hb2.size)).trans (hb5.mono (by have := hb2.size; simp; omega))) N1.lt)
         (have q3 := H5.has.cell 3)
         (have f3 := H5.has.free 3)
         (have l3 := H5.has.lt)
         (simp only [ga1, gz1, gs1] at q3))
      | ((refine at_dstL 18 rfl ?_)
         (refine wpList_is (some 18) (.int .i64 (K : Nat)) rfl (by rfl) (by kernel_rfl) ?_)))
     obtain ⟨H3, S3⟩ := H5.put (c' := { c with expo := some K }) 3 (.int .i64 (K : Nat)) (H5.has.putP 3 _) rfl rfl rfl
     have S03 := (Stp.of (cb := cb) (V := V) hb05).trans S3
     have N3 := N5.other (p := ⟨cb, 3, none⟩) (by show w.heap.size ≠ cb; omega) (.int .i64 (K : Nat))
     have hKP' : K < c.parts.length := by rw [HKm.out]; exact hnd.1
     obtain ⟨gb, ob, Cb, evb, hCb1, hCb2, hgb, hOn⟩ := H3.vo (by show 0 < c.parts.length; omega)
     generalize w5.setCell ⟨cb, 3, none⟩ (.int .i64 (K : Nat)) = W3 at *
     have q2 := N3.cell 2
     have q6 := H3.has.cell 6
     have q3 := H3.has.cell 3
     have qB := hOn K (by rw [onlys_len]; exact hKP')
     simp only [List.getElem?_toArray, List.getElem?_cons_zero, List.getElem?_cons_succ, evb] at q2 q3 q6
     change W3.cell? ⟨cb, 3, none⟩ = some (.int .i64 (K : Nat)) at q3
     change W3.cell? ⟨gb, ob + K, none⟩ = some (.bool ((onlys c.parts).getD K false)) at qB
     obtain ⟨B, hB⟩ : ∃ B, B = (onlys c.parts).getD K false := ⟨_, rfl⟩
     rw [← hB] at qB
     obtain ⟨NP, hNP⟩ : ∃ NP, NP = c.parts.length := ⟨_, rfl⟩
     have hKP : K < NP := by rw [hNP]; exact hKP'
     change W3.cell? ⟨cb, 6, none⟩ = some (.slice (some ⟨gb, ob, none⟩) c.parts.length Cb) at q6
     rw [← hNP] at q6
     have HBo := hidI hB
     clear hB hNP hKP' f3 l3 H5 hbp hm1 hm2 hb5 hOn hCb1 hCb2 evb a0 a1 a2 a3 a4 al hkn N5 N1 N2 h1 hb12 hb2 hb1 hb05 S3
     by_cases hn1 : n.n = 1
     · have HRO := hidI (show ({ c with expo := some m.node, ro := decide (n.n = 1) || (onlys c.parts).getD m.node false, eat := n.a } : Ck) = { c with expo := some K, ro := true, eat := n.a } by rw [HKm.out, decide_eq_true hn1, Bool.true_or])
       have hn1 : (n.n == 1) = true := by rw [hn1]; rfl
       go_wp2
       refine lastTo (S := fun wz => Below W3.heap.size W3 wz) 20 (by kernel_rfl) ((Below.refl _ W3).drew) (fun hHeld => ?_)
       refine tkL 0 (some 22) (.pointer (some ⟨cb, 0, none⟩)) rfl rfl (fun _ _ => rfl) hHeld ?_
       simp only [Act.put, sb1, sz1, ss1]
       refine tkL 1 (some 23) (.pointer (some ⟨w.heap.size, 2, none⟩)) rfl rfl (fun _ _ => rfl) hHeld ?_
       simp only [Act.put, sb1, sz1, ss1]
       refine tkL 2 (some 24) (.int .i64 n.n) rfl rfl (fun wz hz => by have z0 := below_some hz q2; unfold execOp; go_simp) hHeld ?_
       simp only [Act.put, sb1, sz1, ss1]
       refine tkL 3 (some 25) (.bool true) rfl rfl (fun wz _ => run_eqC _ 1 rfl n.n rfl true hn1 wz) hHeld ?_
       simp only [Act.put, sb1, sz1, ss1]
       refine tkL 4 (some 26) (.bool true) rfl rfl (fun _ _ => rfl) hHeld ?_
       simp only [Act.put, sb1, sz1, ss1]
       refine passL 5 (some 27) rfl rfl (by decide) (by kernel_rfl) (by kernel_rfl) (by kernel_rfl) (by kernel_rfl) (fun _ _ _ h => h) (by rfl) hHeld ?_
       simp only [Act.put, sb1, sz1, ss1]
       refine passL 6 (some 28) rfl rfl (by decide) (by kernel_rfl) (by kernel_rfl) (by kernel_rfl) (by kernel_rfl) (fun _ _ _ h => h) (by rfl) hHeld ?_
       simp only [Act.put, sb1, sz1, ss1]
       refine passL 7 (some 29) rfl rfl (by decide) (by kernel_rfl) (by kernel_rfl) (by kernel_rfl) (by kernel_rfl) (fun _ _ _ h => h) (by rfl) hHeld ?_
       simp only [Act.put, sb1, sz1, ss1]
       refine passL 8 (some 30) rfl rfl (by decide) (by kernel_rfl) (by kernel_rfl) (by kernel_rfl) (by kernel_rfl) (fun _ _ _ h => h) (by rfl) hHeld ?_
       simp only [Act.put, sb1, sz1, ss1]
       refine passL 9 (some 31) rfl rfl (by decide) (by kernel_rfl) (by kernel_rfl) (by kernel_rfl) (by kernel_rfl) (fun _ _ _ h => h) (by rfl) hHeld ?_
       simp only [Act.put, sb1, sz1, ss1]
       refine passL 10 (some 32) rfl rfl (by decide) (by kernel_rfl) (by kernel_rfl) (by kernel_rfl) (by kernel_rfl) (fun _ _ _ h => h) (by rfl) hHeld ?_
       simp only [Act.put, sb1, sz1, ss1]
       refine passL 11 (some 33) rfl rfl (by decide) (by kernel_rfl) (by kernel_rfl) (by kernel_rfl) (by kernel_rfl) (fun _ _ _ h => h) (by rfl) hHeld ?_
       simp only [Act.put, sb1, sz1, ss1]
       refine passL 12 (some 34) rfl rfl (by decide) (by kernel_rfl) (by kernel_rfl) (by kernel_rfl) (by kernel_rfl) (fun _ _ _ h => h) (by rfl) hHeld ?_
       simp only [Act.put, sb1, sz1, ss1]
       refine passL 13 (some 35) rfl rfl (by decide) (by kernel_rfl) (by kernel_rfl) (by kernel_rfl) (by kernel_rfl) (fun _ _ _ h => h) (by rfl) hHeld ?_
       simp only [Act.put, sb1, sz1, ss1]
       refine passL 14 (some 36) rfl rfl (by decide) (by kernel_rfl) (by kernel_rfl) (by kernel_rfl) (by kernel_rfl) (fun _ _ _ h => h) (by rfl) hHeld ?_
       simp only [Act.put, sb1, sz1, ss1]
       refine passL 15 (some 37) rfl rfl (by decide) (by kernel_rfl) (by kernel_rfl) (by kernel_rfl) (by kernel_rfl) (fun _ _ _ h => h) (by rfl) hHeld ?_
       simp only [Act.put, sb1, sz1, ss1]
       refine tkL 16 (some 38) (.bool true) rfl rfl (fun _ _ => by kernel_rfl) hHeld ?_
       simp only [Act.put, sb1, sz1, ss1]
       refine valL 17 (some 39) (.pointer (some ⟨cb, 0, none⟩)) W3.drew (by kernel_rfl) rfl rfl (by rfl) rfl hHeld ?_
       simp only [Act.put, sb1, sz1, ss1]
       refine valL 18 (some 40) (.pointer (some ⟨cb, 0, none⟩)) W3.drew (by kernel_rfl) rfl rfl (by rfl) rfl hHeld ?_
       simp only [Act.put, sb1, sz1, ss1]
       refine valL 19 (some 41) (.pointer (some ⟨cb, 4, none⟩)) W3.drew (by kernel_rfl) rfl rfl (by rfl) rfl hHeld ?_
       simp only [Act.put, sb1, sz1, ss1]
       have H3d := H3.keep (below_drew (Below.refl _ W3))
       have q4 := H3d.has.cell 4
       have f4 := H3d.has.free 4
       have l4 := H3d.has.lt
       refine lastSkip 20 none (W3.drew.setCell ⟨cb, 4, none⟩ (.bool true)) (by kernel_rfl) rfl rfl (by rfl) (by unfold execOp; go_simp) (by kernel_rfl) ?_
       simp only [Act.put]
       obtain ⟨H4, S4⟩ := H3d.put (c' := { c with expo := some K, ro := true }) 4 (.bool true) (H3d.has.putP 4 _) rfl rfl rfl
       have N4 := (has_drew N3).other (p := ⟨cb, 4, none⟩) (by show w.heap.size ≠ cb; omega) (.bool true)
       have S34 : Stp cb V W3 V (W3.drew.setCell ⟨cb, 4, none⟩ (.bool true)) := (Stp.of (below_drew (Below.refl _ W3))).trans S4
       generalize W3.drew.setCell ⟨cb, 4, none⟩ (.bool true) = W4 at *
       have a3 := N4.cell 3
       have al := N4.lt
       have b7 := H4.has.cell 7
       have e7 := H4.has.free 7
       have bl := H4.has.lt
       simp only [ga1, gz1, gs1] at a3 b7
       clear q2 q3 q4 q6 qB f4 l4 H3d hHeld S4
       go_wp2
       go_end0
       obtain ⟨H5, S5⟩ := H4.put (c' := { c with expo := some K, ro := true, eat := n.a }) 7 (.int .i64 n.a) (H4.has.putP 7 _) rfl rfl rfl
       have S05 := (S03.trans S34).trans S5
       refine ⟨S05.only, ?_⟩
       rw [HR.out]
       refine ⟨rfl, V, ?_, S05⟩
       rw [HRO.out]
       exact H5.mono (fun _ _ _ he => .inl he)
     · have HRO := hidI (show ({ c with expo := some m.node, ro := decide (n.n = 1) || (onlys c.parts).getD m.node false, eat := n.a } : Ck) = { c with expo := some K, ro := B, eat := n.a } by rw [HBo.out, HKm.out, decide_eq_false hn1, Bool.false_or])
       have hn1 : (n.n == 1) = false := by rw [beq_eq_false_iff_ne]; exact hn1
       go_wp2
       refine lastTo (S := fun wz => Below W3.heap.size W3 wz) 20 (by kernel_rfl) ((Below.refl _ W3).drew) (fun hHeld => ?_)
       refine tkL 0 (some 22) (.pointer (some ⟨cb, 0, none⟩)) rfl rfl (fun _ _ => rfl) hHeld ?_
       simp only [Act.put, sb1, sz1, ss1]
       refine tkL 1 (some 23) (.pointer (some ⟨w.heap.size, 2, none⟩)) rfl rfl (fun _ _ => rfl) hHeld ?_
       simp only [Act.put, sb1, sz1, ss1]
       refine tkL 2 (some 24) (.int .i64 n.n) rfl rfl (fun wz hz => by have z0 := below_some hz q2; unfold execOp; go_simp) hHeld ?_
       simp only [Act.put, sb1, sz1, ss1]
       refine tkL 3 (some 25) (.bool false) rfl rfl (fun wz _ => run_eqC _ 1 rfl n.n rfl false hn1 wz) hHeld ?_
       simp only [Act.put, sb1, sz1, ss1]
       refine tkL 4 (some 26) (.bool false) rfl rfl (fun _ _ => rfl) hHeld ?_
       simp only [Act.put, sb1, sz1, ss1]
       refine tkL 5 (some 27) (.pointer (some ⟨cb, 0, none⟩)) rfl rfl (fun _ _ => rfl) hHeld ?_
       simp only [Act.put, sb1, sz1, ss1]
       refine tkL 6 (some 28) (.pointer (some ⟨cb, 0, none⟩)) rfl rfl (fun _ _ => rfl) hHeld ?_
       simp only [Act.put, sb1, sz1, ss1]
       refine tkL 7 (some 29) (.pointer (some ⟨cb, 6, none⟩)) rfl rfl (fun _ _ => rfl) hHeld ?_
       simp only [Act.put, sb1, sz1, ss1]
       refine tkL 8 (some 30) (.slice (some ⟨gb, ob, none⟩) NP Cb) rfl rfl (fun wz hz => by have z0 := below_some hz q6; unfold execOp; go_simp) hHeld ?_
       simp only [Act.put, sb1, sz1, ss1]
       refine tkL 9 (some 31) (.pointer (some ⟨cb, 0, none⟩)) rfl rfl (fun _ _ => rfl) hHeld ?_
       simp only [Act.put, sb1, sz1, ss1]
       refine tkL 10 (some 32) (.pointer (some ⟨cb, 0, none⟩)) rfl rfl (fun _ _ => rfl) hHeld ?_
       simp only [Act.put, sb1, sz1, ss1]
       refine tkL 11 (some 33) (.pointer (some ⟨cb, 0, none⟩)) rfl rfl (fun _ _ => rfl) hHeld ?_
       simp only [Act.put, sb1, sz1, ss1]
       refine tkL 12 (some 34) (.pointer (some ⟨cb, 3, none⟩)) rfl rfl (fun _ _ => rfl) hHeld ?_
       simp only [Act.put, sb1, sz1, ss1]
       refine tkL 13 (some 35) (.int .i64 (K : Nat)) rfl rfl (fun wz hz => by have z0 := below_some hz q3; unfold execOp; go_simp) hHeld ?_
       simp only [Act.put, sb1, sz1, ss1]
       refine tkL 14 (some 36) (.pointer (some ⟨gb, ob + K, none⟩)) rfl rfl (fun wz _ => run_at_bo _ _ rfl gb ob K NP Cb rfl rfl hKP wz) hHeld ?_
       simp only [Act.put, sb1, sz1, ss1]
       refine tkL 15 (some 37) (.bool B) rfl rfl (fun wz hz => by have z0 := below_some hz qB; unfold execOp; go_simp) hHeld ?_
       simp only [Act.put, sb1, sz1, ss1]
       refine tkL 16 (some 38) (.bool B) rfl rfl (fun _ _ => by kernel_rfl) hHeld ?_
       simp only [Act.put, sb1, sz1, ss1]
       refine valL 17 (some 39) (.pointer (some ⟨cb, 0, none⟩)) W3.drew (by kernel_rfl) rfl rfl (by rfl) rfl hHeld ?_
       simp only [Act.put, sb1, sz1, ss1]
       refine valL 18 (some 40) (.pointer (some ⟨cb, 0, none⟩)) W3.drew (by kernel_rfl) rfl rfl (by rfl) rfl hHeld ?_
       simp only [Act.put, sb1, sz1, ss1]
       refine valL 19 (some 41) (.pointer (some ⟨cb, 4, none⟩)) W3.drew (by kernel_rfl) rfl rfl (by rfl) rfl hHeld ?_
       simp only [Act.put, sb1, sz1, ss1]
       have H3d := H3.keep (below_drew (Below.refl _ W3))
       have q4 := H3d.has.cell 4
       have f4 := H3d.has.free 4
       have l4 := H3d.has.lt
       refine lastSkip 20 none (W3.drew.setCell ⟨cb, 4, none⟩ (.bool B)) (by kernel_rfl) rfl rfl (by rfl) (by unfold execOp; go_simp) (by kernel_rfl) ?_
       simp only [Act.put]
       obtain ⟨H4, S4⟩ := H3d.put (c' := { c with expo := some K, ro := B }) 4 (.bool B) (H3d.has.putP 4 _) rfl rfl rfl
       have N4 := (has_drew N3).other (p := ⟨cb, 4, none⟩) (by show w.heap.size ≠ cb; omega) (.bool B)
       have S34 : Stp cb V W3 V (W3.drew.setCell ⟨cb, 4, none⟩ (.bool B)) := (Stp.of (below_drew (Below.refl _ W3))).trans S4
       generalize W3.drew.setCell ⟨cb, 4, none⟩ (.bool B) = W4 at *
       have a3 := N4.cell 3
       have al := N4.lt
       have b7 := H4.has.cell 7
       have e7 := H4.has.free 7
       have bl := H4.has.lt
       simp only [ga1, gz1, gs1] at a3 b7
       clear q2 q3 q4 q6 qB f4 l4 H3d hHeld S4
       go_wp2
       go_end0
       obtain ⟨H5, S5⟩ := H4.put (c' := { c with expo := some K, ro := B, eat := n.a }) 7 (.int .i64 n.a) (H4.has.putP 7 _) rfl rfl rfl
       have S05 := (S03.trans S34).trans S5
       refine ⟨S05.only, ?_⟩
       rw [HR.out]
       refine ⟨rfl, V, ?_, S05⟩
       rw [HRO.out]
       exact H5.mono (fun _ _ _ he => .inl he)
end
end Go.Proofs.YthndifegfmjpbaaGreatDoor
