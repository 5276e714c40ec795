/- device: left. -/
import Derived.Test.YtalcalecmklcoaaDwSynced
namespace Go.Proofs.Ytalcalecmklcoaa
open Go.ChangeShapes Go.WideShapes Go.ChangeAt Go.RowKit
set_option linter.unusedVariables false

def ze : AE := ⟨0, fun _ => 0, false, false, 0⟩

theorem wcells_all (e : AE) : (wcells e).toArray.all (·.oneCell') = true := all_oneCell_toArray (wcells_one e)

theorem wcells_data {w : World} {g : Nat} {e : AE} (h : Has w g 98 (wcells e).toArray) : w.rangeAt g 1 (cellsN .u8 64 e.b).toList := by
  intro j v hv
  have hj : j < 64 := by have := (List.getElem?_eq_some_iff.1 hv).1; simpa [cellsN] using this
  rw [h.cell, List.getElem?_toArray]
  rw [Array.getElem?_toList, cellsN_get _ _ _ _ hj] at hv
  unfold wcells
  rw [Nat.add_comm, List.getElem?_cons_succ, List.getElem?_append_left (by simp [bl]; omega), bl_get _ _ _ hj]
  exact hv

theorem clo_step (keep : Nat → Bool) (safe k num : Nat) (l : List AE) (e : AE) (f : Nat → Nat → Nat) (h : l[k]? = some e) :
    clo keep safe k num (l.drop k) f = if e.sure || decide (k < safe) then clo keep safe (k + 1) num (l.drop (k + 1)) (upF f e) else clo keep safe (k + 1) (num + 1) (l.drop (k + 1)) (if keep num then upF f e else f) := by
  have hk := (List.getElem?_eq_some_iff.1 h).1
  rw [List.drop_eq_getElem_cons hk, (List.getElem?_eq_some_iff.1 h).2]
  rfl

theorem run_load_bo {o : Oper} {a : Act} (x : Operand) (ho : o.op = .load 4 x) (p : Addr) (hx : a.eval x = .pointer (some p)) (v : Value) (w : World) (h : w.cell? p = some v) : (execOp a.eval o).run Try.prog w = .ok (.value v) w := by
  unfold execOp
  simp only [ho, hx]
  go_simp

theorem run_load_bm {o : Oper} {a : Act} (x : Operand) (ho : o.op = .load 71 x) (p : Addr) (hx : a.eval x = .pointer (some p)) (v : Value) (w : World) (h : w.cell? p = some v) : (execOp a.eval o).run Try.prog w = .ok (.value v) w := by
  unfold execOp
  simp only [ho, hx]
  go_simp

theorem run_store_bo {o : Oper} {a : Act} (x y : Operand) (ho : o.op = .store 4 x y) (p : Addr) (hx : a.eval x = .pointer (some p)) (b : Bool) (hy : a.eval y = .bool b) (w : World) (u : Value) (h : w.cell? p = some u) (hf : w.frozen? p = false) : (execOp a.eval o).run Try.prog w = .ok .skip (w.setCell p (.bool b)) := by
  unfold execOp
  simp only [ho, hx, hy]
  go_simp

theorem run_store_bm {o : Oper} {a : Act} (x y : Operand) (ho : o.op = .store 71 x y) (p : Addr) (hx : a.eval x = .pointer (some p)) (b : Option Nat) (hy : a.eval y = .map b) (w : World) (u : Value) (h : w.cell? p = some u) (hf : w.frozen? p = false) : (execOp a.eval o).run Try.prog w = .ok .skip (w.setCell p (.map b)) := by
  unfold execOp
  simp only [ho, hx, hy]
  go_simp

theorem run_slice_ws {o : Oper} {a : Act} (x l : Operand) (ho : o.op = .slice 72 x none (some l) none) (A : Option Addr) (L cap q : Nat) (hx : a.eval x = .slice A L cap) (hl : a.eval l = .int .i64 (q : Nat)) (h1 : q ≤ cap) (hA : ∀ ad, A = some ad → ∃ b, ad = ⟨b, 0, none⟩) (w : World) :
    (execOp a.eval o).run Try.prog w = .ok (.value (.slice A q cap)) w := by
  unfold execOp
  simp only [ho, hx, hl, Option.map_some, Option.map_none]
  cases A with
  | none => simp [Instr.sliceAt, Instr.slice, Instr.sliceBounds, Instr.sliceBound, run_underlying Try.underlying72, go_sem, asIntOf, h1]
  | some ad =>
    obtain ⟨b, rfl⟩ := hA ad rfl
    simp [Instr.sliceAt, Instr.slice, Instr.sliceBounds, Instr.sliceBound, run_underlying Try.underlying72, go_sem, asIntOf, h1]

variable {w w' : World} {p c bb bs bc : Nat} {s : DS} {vw vs : Value}

/-- What left tells: a device of its own. -/
def LeftPost (w w' : World) (e : Ending) (s' : DS) : Prop :=
  ∃ q c' bb' bs' bc', e = .returned (ptr q) ∧ RepAt w' q s' c' bb' bs' bc' nilS nilS ∧ Has w' c' 80 #[.int .i64 ((0 : Nat) : Int)] ∧ (∀ k, Foot q bb' bs' bc' nilS nilS k → w.heap.size ≤ k) ∧ w.heap.size ≤ c' ∧ ¬ Foot q bb' bs' bc' nilS nilS c' ∧ Below w.heap.size w w'

set_option maxRecDepth 100000 in
set_option maxHeartbeats 8000000 in
theorem left_r (h : RepAt w p s c bb bs bc vw vs) (n safe : Nat) (hn : n ≤ wrs s.log) (hsafe : safe ≤ 100000) (a : Option Addr) (L C : Nat) (kf : Nat → Bool) (hk : Bools w a L kf) (hlen : s.log.length ≤ 100000) :
    Calls Try.prog 50 #[ptr p, .int .i64 (n : Nat), .int .i64 (safe : Nat), .slice a L C] w fun e w' => LeftPost w w' e ⟨s.n, clo (keepOf kf L) safe 0 0 ((ws s.log).take n) s.fst, [], s.bad, s.dead⟩ := by
  have h0 : w.cell? ⟨p, 0, none⟩ = some (.int .i64 (s.n : Nat)) := h.cell 0
  have h1 : w.cell? ⟨p, 1, none⟩ = some (.bool s.dead) := h.cell 1
  have h2 : w.cell? ⟨p, 2, none⟩ = some (.map (some bb)) := h.cell 2
  have h3 : w.cell? ⟨p, 3, none⟩ = some (.map (some bs)) := h.cell 3
  have h5 : w.cell? ⟨p, 5, none⟩ = some vw := h.cell 5
  have hplt := h.has.lt
  have hwl : wrs s.log ≤ s.log.length := List.length_filter_le _ _
  obtain ⟨f0, hm0, hf0⟩ := h.fst
  have hcl := clone_sec bs f0 w hm0
  have hWc := fun i j e he hj => Wc_at s.log i j e he hj
  obtain ⟨aw, capw, rfl, hcap, hnil, hsome, hcell⟩ := own_slice h.wr
  have hslt : ∀ g, aw = some ⟨g, 0, none⟩ → g < w.heap.size := fun g hg => (h.wr.lt g (by rw [hg]; rfl)).2
  have hget : ∀ k, k < n → ∃ e, (ws s.log)[k]? = some e := fun k hk => ⟨_, List.getElem?_eq_getElem (Nat.lt_of_lt_of_le hk hn)⟩
  have hnosync : ∀ (k : Nat) (e : AE), (ws s.log)[k]? = some e → e.sync = false := fun k e he => by
    have := (List.mem_filter.1 (List.mem_of_getElem? he)).2
    simpa using this
  have hkb : ∀ j, j < L → ∃ xb xo, a = some ⟨xb, xo, none⟩ ∧ xb < w.heap.size ∧ ∀ j, j < L → w.cell? ⟨xb, xo + j, none⟩ = some (.bool (kf j)) := fun j hj => by
    rcases hk with hk | ⟨xb, xo, h1, h2, h3⟩
    · omega
    · exact ⟨xb, xo, h1, h2, h3⟩
  obtain ⟨FIN, hFIN⟩ : ∃ FIN, FIN = clo (keepOf kf L) safe 0 0 ((ws s.log).take n) s.fst := ⟨_, rfl⟩
  have HR : Hid (RepAt w p s c bb bs bc (.slice aw (wrs s.log) capw) vs) := h
  rw [← hFIN]
  have hcapn : n ≤ capw := Nat.le_trans hn hcap
  have hnilN : aw = none → n = 0 := fun e => by have := (hnil e).1; omega
  clear hk h hcap hnil
  go_enter Try.func50, Try.ntmps50
  go_wp2_with (first
    | ((go_at_call 58)
       (refine hcl.mono ?_)
       (rintro e w1 ⟨rfl, hm1, hb1⟩)
       (have k5 : w1.cell? ⟨p, 5, none⟩ = some (.slice aw (wrs s.log) capw) := (hb1.cell (p := ⟨p, 5, none⟩) hplt).trans h5))
    | (refine wpList_is (some 25) (.slice aw n capw) rfl (by rfl) (run_slice_ws _ _ rfl aw (wrs s.log) capw n rfl rfl hcapn hsome _) ?_))
  obtain ⟨b9, hb9e⟩ : ∃ b9, b9 = w.heap.size := ⟨_, rfl⟩
  rw [← hb9e]
  rw [← hb9e] at hm1
  have hb9 : w.heap.size ≤ b9 := by omega
  clear hb9e
  go_loopw [10, 27] (fun nv iv wr => ∃ (k num : Nat) (f : Nat → Nat → Nat), k ≤ n ∧ iv = .int .i64 (k : Nat) ∧ nv = .int .i64 (num : Nat) ∧ num ≤ k ∧ SecMap wr b9 s.n f ∧ clo (keepOf kf L) safe k num (((ws s.log).take n).drop k) f = FIN ∧ Below w.heap.size w wr)
    (fun _ iv _ => n - (intOf iv).toNat)
  case atStart => exact ⟨0, 0, s.fst, Nat.zero_le _, rfl, rfl, Nat.le_refl _, ⟨f0, hm1, hf0⟩, hFIN.symm, hb1⟩
  case round =>
    obtain ⟨k, num, f, hk, rfl, rfl, hnk, hmap, hst, hbel⟩ := hrel
    have i1 : (0 : Int) ≤ (k : Int) := by omega
    by_cases hlt : k < n
    · obtain ⟨e, he⟩ := hget k hlt
      have hns := hnosync k e he
      have hnn : ∃ g, aw = some ⟨g, 0, none⟩ := by
        cases aw with
        | none => have := hnilN rfl; omega
        | some ad => obtain ⟨g, rfl⟩ := hsome ad rfl; exact ⟨g, rfl⟩
      obtain ⟨g, rfl⟩ := hnn
      have hglt := hslt g rfl
      have hrange : wr.rangeAt g (k * 67) (wcells e) := fun j v hv => by
        have hj : j < 67 := by have := (List.getElem?_eq_some_iff.1 hv).1; rw [wcells_len] at this; exact this
        rw [hbel.cell (p := ⟨g, k * 67 + j, none⟩) hglt]
        exact hcell g rfl _ _ (by rw [hWc k j e he hj]; exact hv)
      have heT : ((ws s.log).take n)[k]? = some e := by rw [List.getElem?_take_of_lt hlt]; exact he
      rw [clo_step _ _ _ _ _ e f heT] at hst
      have hup : (fun i => if i = e.i then e.b else f i) = upF f e := by
        funext i
        unfold upF
        simp [hns]
      have i0 : (k : Int) < (n : Int) := by omega
      clear hcell hWc hget hnosync hsome hslt hcl hm0 hf0 hm1 hb1 hFIN hnilN
      cases hsu : e.sure
      · by_cases hks : k < safe
        · rw [hsu, decide_eq_true hks, if_pos (by decide)] at hst
          have hks' : (k : Int) < (safe : Int) := by omega
          have hkeep := fun (w2 : World) (_ : Below w.heap.size w w2) => True.intro
          go_wp2_with (first
            | (refine wpList_load_mid rfl 98 (.tmp 30) rfl g (k * 67) rfl (wcells e) _ hrange Try.underlying98 rfl (by rw [wcells_len]; exact Try.size98) ?_)
            | (refine wpList_is_w (some 12) (.pointer (some ⟨wr.heap.size, 0, none⟩)) (wr.alloc (.cells (wcells ze).toArray 98)) rfl (by rfl) (by kernel_rfl) ?_)
            | ((refine wpList_store_rowG rfl 98 (.tmp 12) (.tmp 31) rfl wr.heap.size (wcells e).toArray rfl rfl 98 (wcells ze).toArray (Has.new_at rfl) (by rw [List.size_toArray, wcells_len]; exact Try.size98) (by simp [wcells_len]) (wcells_all e) ?_)
               (intro w2 hw2)
               (have hH : Has w2 wr.heap.size 98 (wcells e).toArray := by rw [hw2]; exact (Has.new_at (t := 98) (cs := (wcells ze).toArray) rfl).setRow _)
               (have hB2 : Below wr.heap.size wr w2 := by rw [hw2]; exact below_setRow ((Below.refl _ _).alloc (Nat.le_refl _) _) (Nat.le_refl _) _)
               (have hBw : Below w.heap.size w w2 := hbel.trans (hB2.mono hbel.size))
               (have q66 : w2.cell? ⟨wr.heap.size, 66, none⟩ = some (.bool false) := (hH.cell 66).trans (by rw [List.getElem?_toArray, wcells_su, hsu]))
               (have q0 : w2.cell? ⟨wr.heap.size, 0, none⟩ = some (.int .i64 (e.i : Nat)) := hH.cell 0)
               (have hr1 : w2.rangeAt wr.heap.size 1 (cellsN .u8 64 e.b).toList := wcells_data hH)
               (have hm2 : SecMap w2 b9 s.n f := hmap.below hB2 hmap.lt)
               (obtain ⟨w4, hr4, hs4, ho4, _⟩ := hm2.put e.i e.b)
               (have hKK := hkeep w2 hBw)
               (clear hw2 hkeep))
            | (refine wpList_load_mid rfl 86 (.tmp 57) rfl wr.heap.size 1 rfl (cellsN .u8 64 e.b).toList _ hr1 Try.underlying86 rfl (by rw [Array.length_toList, cellsN_size]; exact Try.size86) ?_; rw [Array.toArray_toList]))
          go_roundw
          case rel =>
            have hBB : Below w.heap.size w w4 := hBw.trans (ho4.below (fun q hq => by rw [hq]; exact hb9) hBw.size)
            exact ⟨k + 1, num, upF f e, by omega, by go_num, by rfl, by omega, (hup ▸ hs4), hst, hBB⟩
          case measure => simp [intOf]; omega
        · rw [hsu, decide_eq_false hks, if_neg (by simp)] at hst
          have hks' : ¬ (k : Int) < (safe : Int) := by omega
          by_cases hnl : num < L
          · have hnl' : (num : Int) < (L : Int) := by omega
            have hn0 : (0 : Int) ≤ (num : Int) := by omega
            obtain ⟨xb, xo, rfl, hxlt, hxc⟩ := hkb num hnl
            cases hkn : kf num
            · rw [show keepOf kf L num = false by unfold keepOf; rw [decide_eq_true hnl, hkn]; rfl] at hst
              rw [if_neg (by simp)] at hst
              have hkeep := fun (w2 : World) (hb : Below w.heap.size w w2) => (show w2.cell? ⟨xb, xo + num, none⟩ = some (.bool false) from by rw [hb.cell (p := ⟨xb, xo + num, none⟩) hxlt, hxc num hnl, hkn])
              go_wp2_with (first
                | (refine wpList_load_mid rfl 98 (.tmp 30) rfl g (k * 67) rfl (wcells e) _ hrange Try.underlying98 rfl (by rw [wcells_len]; exact Try.size98) ?_)
                | (refine wpList_is_w (some 12) (.pointer (some ⟨wr.heap.size, 0, none⟩)) (wr.alloc (.cells (wcells ze).toArray 98)) rfl (by rfl) (by kernel_rfl) ?_)
                | ((refine wpList_store_rowG rfl 98 (.tmp 12) (.tmp 31) rfl wr.heap.size (wcells e).toArray rfl rfl 98 (wcells ze).toArray (Has.new_at rfl) (by rw [List.size_toArray, wcells_len]; exact Try.size98) (by simp [wcells_len]) (wcells_all e) ?_)
                   (intro w2 hw2)
                   (have hH : Has w2 wr.heap.size 98 (wcells e).toArray := by rw [hw2]; exact (Has.new_at (t := 98) (cs := (wcells ze).toArray) rfl).setRow _)
                   (have hB2 : Below wr.heap.size wr w2 := by rw [hw2]; exact below_setRow ((Below.refl _ _).alloc (Nat.le_refl _) _) (Nat.le_refl _) _)
                   (have hBw : Below w.heap.size w w2 := hbel.trans (hB2.mono hbel.size))
                   (have q66 : w2.cell? ⟨wr.heap.size, 66, none⟩ = some (.bool false) := (hH.cell 66).trans (by rw [List.getElem?_toArray, wcells_su, hsu]))
                   (have q0 : w2.cell? ⟨wr.heap.size, 0, none⟩ = some (.int .i64 (e.i : Nat)) := hH.cell 0)
                   (have hr1 : w2.rangeAt wr.heap.size 1 (cellsN .u8 64 e.b).toList := wcells_data hH)
                   (have hm2 : SecMap w2 b9 s.n f := hmap.below hB2 hmap.lt)
                   (obtain ⟨w4, hr4, hs4, ho4, _⟩ := hm2.put e.i e.b)
                   (have hKK := hkeep w2 hBw)
                   (clear hw2 hkeep))
                | (refine wpList_load_mid rfl 86 (.tmp 57) rfl wr.heap.size 1 rfl (cellsN .u8 64 e.b).toList _ hr1 Try.underlying86 rfl (by rw [Array.length_toList, cellsN_size]; exact Try.size86) ?_; rw [Array.toArray_toList]))
              go_roundw
              case rel =>
                exact ⟨k + 1, num + 1, f, by omega, by go_num, by go_num, by omega, hm2, hst, hBw⟩
              case measure => simp [intOf]; omega
            · rw [show keepOf kf L num = true by unfold keepOf; rw [decide_eq_true hnl, hkn]; rfl] at hst
              rw [if_pos rfl] at hst
              have hkeep := fun (w2 : World) (hb : Below w.heap.size w w2) => (show w2.cell? ⟨xb, xo + num, none⟩ = some (.bool true) from by rw [hb.cell (p := ⟨xb, xo + num, none⟩) hxlt, hxc num hnl, hkn])
              go_wp2_with (first
                | (refine wpList_load_mid rfl 98 (.tmp 30) rfl g (k * 67) rfl (wcells e) _ hrange Try.underlying98 rfl (by rw [wcells_len]; exact Try.size98) ?_)
                | (refine wpList_is_w (some 12) (.pointer (some ⟨wr.heap.size, 0, none⟩)) (wr.alloc (.cells (wcells ze).toArray 98)) rfl (by rfl) (by kernel_rfl) ?_)
                | ((refine wpList_store_rowG rfl 98 (.tmp 12) (.tmp 31) rfl wr.heap.size (wcells e).toArray rfl rfl 98 (wcells ze).toArray (Has.new_at rfl) (by rw [List.size_toArray, wcells_len]; exact Try.size98) (by simp [wcells_len]) (wcells_all e) ?_)
                   (intro w2 hw2)
                   (have hH : Has w2 wr.heap.size 98 (wcells e).toArray := by rw [hw2]; exact (Has.new_at (t := 98) (cs := (wcells ze).toArray) rfl).setRow _)
                   (have hB2 : Below wr.heap.size wr w2 := by rw [hw2]; exact below_setRow ((Below.refl _ _).alloc (Nat.le_refl _) _) (Nat.le_refl _) _)
                   (have hBw : Below w.heap.size w w2 := hbel.trans (hB2.mono hbel.size))
                   (have q66 : w2.cell? ⟨wr.heap.size, 66, none⟩ = some (.bool false) := (hH.cell 66).trans (by rw [List.getElem?_toArray, wcells_su, hsu]))
                   (have q0 : w2.cell? ⟨wr.heap.size, 0, none⟩ = some (.int .i64 (e.i : Nat)) := hH.cell 0)
                   (have hr1 : w2.rangeAt wr.heap.size 1 (cellsN .u8 64 e.b).toList := wcells_data hH)
                   (have hm2 : SecMap w2 b9 s.n f := hmap.below hB2 hmap.lt)
                   (obtain ⟨w4, hr4, hs4, ho4, _⟩ := hm2.put e.i e.b)
                   (have hKK := hkeep w2 hBw)
                   (clear hw2 hkeep))
                | (refine wpList_load_mid rfl 86 (.tmp 57) rfl wr.heap.size 1 rfl (cellsN .u8 64 e.b).toList _ hr1 Try.underlying86 rfl (by rw [Array.length_toList, cellsN_size]; exact Try.size86) ?_; rw [Array.toArray_toList]))
              go_roundw
              case rel =>
                have hBB : Below w.heap.size w w4 := hBw.trans (ho4.below (fun q hq => by rw [hq]; exact hb9) hBw.size)
                exact ⟨k + 1, num + 1, upF f e, by omega, by go_num, by go_num, by omega, (hup ▸ hs4), hst, hBB⟩
              case measure => simp [intOf]; omega
          · have hnl' : ¬ (num : Int) < (L : Int) := by omega
            rw [show keepOf kf L num = false by unfold keepOf; rw [decide_eq_false hnl]; rfl, if_neg (by simp)] at hst
            have hkeep := fun (w2 : World) (_ : Below w.heap.size w w2) => True.intro
            go_wp2_with (first
              | (refine wpList_load_mid rfl 98 (.tmp 30) rfl g (k * 67) rfl (wcells e) _ hrange Try.underlying98 rfl (by rw [wcells_len]; exact Try.size98) ?_)
              | (refine wpList_is_w (some 12) (.pointer (some ⟨wr.heap.size, 0, none⟩)) (wr.alloc (.cells (wcells ze).toArray 98)) rfl (by rfl) (by kernel_rfl) ?_)
              | ((refine wpList_store_rowG rfl 98 (.tmp 12) (.tmp 31) rfl wr.heap.size (wcells e).toArray rfl rfl 98 (wcells ze).toArray (Has.new_at rfl) (by rw [List.size_toArray, wcells_len]; exact Try.size98) (by simp [wcells_len]) (wcells_all e) ?_)
                 (intro w2 hw2)
                 (have hH : Has w2 wr.heap.size 98 (wcells e).toArray := by rw [hw2]; exact (Has.new_at (t := 98) (cs := (wcells ze).toArray) rfl).setRow _)
                 (have hB2 : Below wr.heap.size wr w2 := by rw [hw2]; exact below_setRow ((Below.refl _ _).alloc (Nat.le_refl _) _) (Nat.le_refl _) _)
                 (have hBw : Below w.heap.size w w2 := hbel.trans (hB2.mono hbel.size))
                 (have q66 : w2.cell? ⟨wr.heap.size, 66, none⟩ = some (.bool false) := (hH.cell 66).trans (by rw [List.getElem?_toArray, wcells_su, hsu]))
                 (have q0 : w2.cell? ⟨wr.heap.size, 0, none⟩ = some (.int .i64 (e.i : Nat)) := hH.cell 0)
                 (have hr1 : w2.rangeAt wr.heap.size 1 (cellsN .u8 64 e.b).toList := wcells_data hH)
                 (have hm2 : SecMap w2 b9 s.n f := hmap.below hB2 hmap.lt)
                 (obtain ⟨w4, hr4, hs4, ho4, _⟩ := hm2.put e.i e.b)
                 (have hKK := hkeep w2 hBw)
                 (clear hw2 hkeep))
              | (refine wpList_load_mid rfl 86 (.tmp 57) rfl wr.heap.size 1 rfl (cellsN .u8 64 e.b).toList _ hr1 Try.underlying86 rfl (by rw [Array.length_toList, cellsN_size]; exact Try.size86) ?_; rw [Array.toArray_toList]))
            go_roundw
            case rel =>
              exact ⟨k + 1, num + 1, f, by omega, by go_num, by go_num, by omega, hm2, hst, hBw⟩
            case measure => simp [intOf]; omega
      · rw [hsu, Bool.true_or, if_pos rfl] at hst
        have hkeep := fun (w2 : World) (_ : Below w.heap.size w w2) => True.intro
        go_wp2_with (first
          | (refine wpList_load_mid rfl 98 (.tmp 30) rfl g (k * 67) rfl (wcells e) _ hrange Try.underlying98 rfl (by rw [wcells_len]; exact Try.size98) ?_)
          | (refine wpList_is_w (some 12) (.pointer (some ⟨wr.heap.size, 0, none⟩)) (wr.alloc (.cells (wcells ze).toArray 98)) rfl (by rfl) (by kernel_rfl) ?_)
          | ((refine wpList_store_rowG rfl 98 (.tmp 12) (.tmp 31) rfl wr.heap.size (wcells e).toArray rfl rfl 98 (wcells ze).toArray (Has.new_at rfl) (by rw [List.size_toArray, wcells_len]; exact Try.size98) (by simp [wcells_len]) (wcells_all e) ?_)
             (intro w2 hw2)
             (have hH : Has w2 wr.heap.size 98 (wcells e).toArray := by rw [hw2]; exact (Has.new_at (t := 98) (cs := (wcells ze).toArray) rfl).setRow _)
             (have hB2 : Below wr.heap.size wr w2 := by rw [hw2]; exact below_setRow ((Below.refl _ _).alloc (Nat.le_refl _) _) (Nat.le_refl _) _)
             (have hBw : Below w.heap.size w w2 := hbel.trans (hB2.mono hbel.size))
             (have q66 : w2.cell? ⟨wr.heap.size, 66, none⟩ = some (.bool true) := (hH.cell 66).trans (by rw [List.getElem?_toArray, wcells_su, hsu]))
             (have q0 : w2.cell? ⟨wr.heap.size, 0, none⟩ = some (.int .i64 (e.i : Nat)) := hH.cell 0)
             (have hr1 : w2.rangeAt wr.heap.size 1 (cellsN .u8 64 e.b).toList := wcells_data hH)
             (have hm2 : SecMap w2 b9 s.n f := hmap.below hB2 hmap.lt)
             (obtain ⟨w4, hr4, hs4, ho4, _⟩ := hm2.put e.i e.b)
             (have hKK := hkeep w2 hBw)
             (clear hw2 hkeep))
          | (refine wpList_load_mid rfl 86 (.tmp 57) rfl wr.heap.size 1 rfl (cellsN .u8 64 e.b).toList _ hr1 Try.underlying86 rfl (by rw [Array.length_toList, cellsN_size]; exact Try.size86) ?_; rw [Array.toArray_toList]))
        go_roundw
        case rel =>
          have hBB : Below w.heap.size w w4 := hBw.trans (ho4.below (fun q hq => by rw [hq]; exact hb9) hBw.size)
          exact ⟨k + 1, num, upF f e, by omega, by go_num, by rfl, by omega, (hup ▸ hs4), hst, hBB⟩
        case measure => simp [intOf]; omega
    · obtain rfl : k = n := by omega
      rw [List.drop_of_length_le (by rw [List.length_take]; exact Nat.min_le_left _ _)] at hst
      have hfF : f = FIN := hst
      subst hfF
      have h := HR.out
      obtain ⟨f9, hm9, hf9⟩ := hmap
      have hfr := fresh_r wr s.n b9 f9 hm9
      have k0 : wr.cell? ⟨p, 0, none⟩ = some (.int .i64 (s.n : Nat)) := (hbel.cell (p := ⟨p, 0, none⟩) hplt).trans h0
      clear hcell hWc hget hnosync hsome hslt hcl hm0 hf0 hm1 hb1 hnilN hkb
      go_wp2_with (first
        | ((go_at_call 39)
           (refine hfr.mono ?_)
           (rintro e w2 ⟨q, bbn, bcn, cn, rfl, g1, g2, g3, g4, g5, q1, q2, q3, q4, q5, hb2⟩)))
      have hbw2 : Below w.heap.size w w2 := hbel.trans (hb2.mono hbel.size)
      have hsz := hbel.size
      obtain ⟨fb, hmb, hfb⟩ := h.bad
      have hmb2 : MapIs w2.drew bb fb := (hmb.below hbw2 hmb.lt).kept rfl
      have hclb := clone_bad bb fb w2.drew hmb2
      have k1 : w2.cell? ⟨p, 1, none⟩ = some (.bool s.dead) := (hbw2.cell (p := ⟨p, 1, none⟩) hplt).trans h1
      have k2 : w2.cell? ⟨p, 2, none⟩ = some (.map (some bb)) := (hbw2.cell (p := ⟨p, 2, none⟩) hplt).trans h2
      have hqp : q ≠ p := by omega
      refine wp_region_held_drew (S := fun wz => wz.cell? ⟨p, 1, none⟩ = some (.bool s.dead) ∧ wz.cell? ⟨p, 2, none⟩ = some (.map (some bb))) (by kernel_rfl) ⟨k1, k2⟩ (fun hHeld => ?_)
      refine takeTo 0 (some 66) (ptr q) rfl rfl (by kernel_rfl) (by kernel_rfl) (by kernel_rfl) (fun _ _ _ h => h) (by rfl) (fun _ _ => rfl) hHeld ?_
      simp only [Act.put, List.setIfInBounds_toArray, List.set_cons_zero, List.set_cons_succ]
      refine takeTo 1 (some 67) (ptr q) rfl rfl (by kernel_rfl) (by kernel_rfl) (by kernel_rfl) (fun _ _ _ h => h) (by rfl) (fun _ _ => rfl) hHeld ?_
      simp only [Act.put, List.setIfInBounds_toArray, List.set_cons_zero, List.set_cons_succ]
      refine takeTo 2 (some 68) (ptr p) rfl rfl (by kernel_rfl) (by kernel_rfl) (by kernel_rfl) (fun _ _ _ h => h) (by rfl) (fun _ _ => rfl) hHeld ?_
      simp only [Act.put, List.setIfInBounds_toArray, List.set_cons_zero, List.set_cons_succ]
      refine takeTo 3 (some 69) (.pointer (some ⟨p, 0, none⟩)) rfl rfl (by kernel_rfl) (by kernel_rfl) (by kernel_rfl) (fun _ _ _ h => h) (by rfl) (fun _ _ => rfl) hHeld ?_
      simp only [Act.put, List.setIfInBounds_toArray, List.set_cons_zero, List.set_cons_succ]
      refine takeTo 4 (some 70) (.pointer (some ⟨p, 1, none⟩)) rfl rfl (by kernel_rfl) (by kernel_rfl) (by kernel_rfl) (fun _ _ _ h => h) (by rfl) (fun _ _ => rfl) hHeld ?_
      simp only [Act.put, List.setIfInBounds_toArray, List.set_cons_zero, List.set_cons_succ]
      refine takeTo 5 (some 71) (.bool s.dead) rfl rfl (by kernel_rfl) (by kernel_rfl) (by kernel_rfl) (fun _ _ _ h => h) (by rfl) (fun wz hz => run_load_bo _ rfl _ rfl _ wz hz.1) hHeld ?_
      simp only [Act.put, List.setIfInBounds_toArray, List.set_cons_zero, List.set_cons_succ]
      refine takeTo 6 (some 72) (ptr p) rfl rfl (by kernel_rfl) (by kernel_rfl) (by kernel_rfl) (fun _ _ _ h => h) (by rfl) (fun _ _ => rfl) hHeld ?_
      simp only [Act.put, List.setIfInBounds_toArray, List.set_cons_zero, List.set_cons_succ]
      refine takeTo 7 (some 73) (.pointer (some ⟨p, 0, none⟩)) rfl rfl (by kernel_rfl) (by kernel_rfl) (by kernel_rfl) (fun _ _ _ h => h) (by rfl) (fun _ _ => rfl) hHeld ?_
      simp only [Act.put, List.setIfInBounds_toArray, List.set_cons_zero, List.set_cons_succ]
      refine takeTo 8 (some 74) (.pointer (some ⟨p, 2, none⟩)) rfl rfl (by kernel_rfl) (by kernel_rfl) (by kernel_rfl) (fun _ _ _ h => h) (by rfl) (fun _ _ => rfl) hHeld ?_
      simp only [Act.put, List.setIfInBounds_toArray, List.set_cons_zero, List.set_cons_succ]
      refine takeTo 9 (some 75) (.map (some bb)) rfl rfl (by kernel_rfl) (by kernel_rfl) (by kernel_rfl) (fun _ _ _ h => h) (by rfl) (fun wz hz => run_load_bm _ rfl _ rfl _ wz hz.2) hHeld ?_
      simp only [Act.put, List.setIfInBounds_toArray, List.set_cons_zero, List.set_cons_succ]
      refine callTo 10 (some 76) 59 #[.map (some bb)] (by kernel_rfl) rfl rfl (by rfl) (by kernel_rfl) hclb ?_
      rintro e w3 ⟨rfl, hm3, hb3⟩
      have hb23 : Below w2.heap.size w2 w3 := (Below.refl _ w2).drew.trans hb3
      have hbw3 : Below w.heap.size w w3 := hbw2.trans (hb23.mono hbw2.size)
      have hHeld : w3.cell? ⟨p, 1, none⟩ = some (.bool s.dead) ∧ w3.cell? ⟨p, 2, none⟩ = some (.map (some bb)) := ⟨(hbw3.cell (p := ⟨p, 1, none⟩) hplt).trans h1, (hbw3.cell (p := ⟨p, 2, none⟩) hplt).trans h2⟩
      refine ⟨_, rfl, hHeld, ?_⟩
      simp only [Act.put, List.setIfInBounds_toArray, List.set_cons_zero, List.set_cons_succ]
      obtain ⟨bn, hbn⟩ : ∃ bn, bn = w2.heap.size := ⟨_, rfl⟩
      rw [show w2.drew.heap.size = bn from hbn.symm] at hm3 ⊢
      refine takeTo 11 (some 77) (.pointer (some ⟨q, 0, none⟩)) rfl rfl (by kernel_rfl) (by kernel_rfl) (by kernel_rfl) (fun _ _ _ h => h) (by rfl) (fun _ _ => rfl) hHeld ?_
      simp only [Act.put, List.setIfInBounds_toArray, List.set_cons_zero, List.set_cons_succ]
      refine takeTo 12 (some 78) (.pointer (some ⟨q, 1, none⟩)) rfl rfl (by kernel_rfl) (by kernel_rfl) (by kernel_rfl) (fun _ _ _ h => h) (by rfl) (fun _ _ => rfl) hHeld ?_
      simp only [Act.put, List.setIfInBounds_toArray, List.set_cons_zero, List.set_cons_succ]
      have g13 : Has w3 q 76 (dcells s.n false bbn b9 bcn nilS nilS 0 cn) := g1.below hb23 g1.lt
      have hO4 := only_setCell w3 q 1 (.bool s.dead)
      have g14 : Has (w3.setCell ⟨q, 1, none⟩ (.bool s.dead)) q 76 (dcells s.n s.dead bbn b9 bcn nilS nilS 0 cn) := g13.setV 1 (.bool s.dead)
      have hHeld4 : (w3.setCell ⟨q, 1, none⟩ (.bool s.dead)).cell? ⟨p, 1, none⟩ = some (.bool s.dead) ∧ (w3.setCell ⟨q, 1, none⟩ (.bool s.dead)).cell? ⟨p, 2, none⟩ = some (.map (some bb)) := ⟨(hO4.cell (p := ⟨p, 1, none⟩) (Nat.lt_of_lt_of_le hplt hbw3.size) hqp.symm).trans hHeld.1, (hO4.cell (p := ⟨p, 2, none⟩) (Nat.lt_of_lt_of_le hplt hbw3.size) hqp.symm).trans hHeld.2⟩
      refine ready1 13 (by kernel_rfl) (stepSkip none (w3.setCell ⟨q, 1, none⟩ (.bool s.dead)) rfl rfl (by rfl) (run_store_bo _ _ rfl ⟨q, 1, none⟩ rfl s.dead rfl w3 _ (g13.cell 1) (g13.free 1)) ⟨hHeld4, ?_⟩)
      simp only [Act.put]
      obtain ⟨w4, hw4⟩ : ∃ w4, w4 = w3.setCell ⟨q, 1, none⟩ (.bool s.dead) := ⟨_, rfl⟩
      rw [← hw4] at hO4 g14 hHeld4 ⊢
      refine takeTo 14 (some 79) (.pointer (some ⟨q, 0, none⟩)) rfl rfl (by kernel_rfl) (by kernel_rfl) (by kernel_rfl) (fun _ _ _ h => h) (by rfl) (fun _ _ => rfl) hHeld4 ?_
      simp only [Act.put, List.setIfInBounds_toArray, List.set_cons_zero, List.set_cons_succ]
      refine takeTo 15 (some 80) (.pointer (some ⟨q, 2, none⟩)) rfl rfl (by kernel_rfl) (by kernel_rfl) (by kernel_rfl) (fun _ _ _ h => h) (by rfl) (fun _ _ => rfl) hHeld4 ?_
      simp only [Act.put, List.setIfInBounds_toArray, List.set_cons_zero, List.set_cons_succ]
      have hO5 := only_setCell w4 q 2 (.map (some bn))
      have g15 : Has (w4.setCell ⟨q, 2, none⟩ (.map (some bn))) q 76 (dcells s.n s.dead bn b9 bcn nilS nilS 0 cn) := g14.setV 2 (.map (some bn))
      have hHeld5 : (w4.setCell ⟨q, 2, none⟩ (.map (some bn))).cell? ⟨p, 1, none⟩ = some (.bool s.dead) ∧ (w4.setCell ⟨q, 2, none⟩ (.map (some bn))).cell? ⟨p, 2, none⟩ = some (.map (some bb)) := ⟨(hO5.cell (p := ⟨p, 1, none⟩) (Nat.lt_of_lt_of_le hplt (Nat.le_trans hbw3.size hO4.size)) hqp.symm).trans hHeld4.1, (hO5.cell (p := ⟨p, 2, none⟩) (Nat.lt_of_lt_of_le hplt (Nat.le_trans hbw3.size hO4.size)) hqp.symm).trans hHeld4.2⟩
      refine ready1 16 (by kernel_rfl) (stepSkip none (w4.setCell ⟨q, 2, none⟩ (.map (some bn))) rfl rfl (by rfl) (run_store_bm _ _ rfl ⟨q, 2, none⟩ rfl (some bn) rfl w4 _ (g14.cell 2) (g14.free 2)) ⟨hHeld5, ?_⟩)
      simp only [Act.put]
      obtain ⟨w5, hw5⟩ : ∃ w5, w5 = w4.setCell ⟨q, 2, none⟩ (.map (some bn)) := ⟨_, rfl⟩
      rw [← hw5] at hO5 g15 ⊢
      clear hw4 hw5
      refine wpAnyH_done (by kernel_rfl) ?_ _
      go_wp2
      go_ret
      have hO35 : Only (fun k => k = q) w3 w5 := hO4.trans hO5 (fun _ _ h => h)
      have hbw5 : Below w.heap.size w w5 := hbw3.trans (hO35.below (fun k hk => by rw [hk]; omega) hbw3.size)
      have n3 : MapIs w3 b9 f9 := g3.below hb23 g3.lt
      have n4 : MapIs w3 bcn f9 := g4.below hb23 g4.lt
      have n5 : Has w3 cn 80 #[.int .i64 ((0 : Nat) : Int)] := g5.below hb23 g5.lt
      have m3 : MapIs w5 b9 f9 := n3.only hO35 (n3.ne g13)
      have m4 : MapIs w5 bcn f9 := n4.only hO35 (n4.ne g13)
      have m2 : MapIs w5 bn fb := hm3.only hO35 (hm3.ne g13)
      have m5 : Has w5 cn 80 #[.int .i64 ((0 : Nat) : Int)] := (hO35.block cn n5.lt (cells_ne n5 g13 (by decide))).trans n5
      have l3 := g3.lt
      have l4 := g4.lt
      have l5 := g5.lt
      have l9 := hm9.lt
      have lb := hb2.size
      refine ⟨q, cn, bn, b9, bcn, rfl, ⟨g15, h.n1, h.n2, ⟨fb, m2, hfb⟩, ⟨f9, m3, hf9⟩, ⟨f9, m4, hf9⟩, World.ownsRow_nil _ _ _ _, World.ownsRow_nil _ _ _ _, by omega, by omega, by omega, List.Pairwise.nil⟩, m5, ?_, by omega, ?_, hbw5⟩
      · exact foot_new (by omega) (by omega) hb9 (by omega)
      · rintro (e | e | e | e | e | e)
        · exact cells_ne m5 g15 (by decide) e
        · omega
        · exact m3.ne m5 e.symm
        · exact m4.ne m5 e.symm
        · cases e
        · cases e
end Go.Proofs.Ytalcalecmklcoaa
