/- Texts on the program's own functions, joined. -/
import Derived.Test.YtalcalecmklcoaaRfRead
import Derived.Test.YtalcalecmklcoaaDwTog

/- The reference's Pending; reckoning about the last Sync. -/
namespace Go.Proofs.Ytalcalecmklcoaa
open Go.ChangeShapes Go.WideShapes Go.ChangeAt Go.RowKit
set_option linter.unusedVariables false

/-- The place of the last Sync, 0 if there is none. -/
def lastSy (l : List AE) : Nat := (l.foldl (fun (p : Nat × Nat) e => (p.1 + 1, if e.sync then p.1 else p.2)) (0, 0)).2

theorem lastSy_fst (l : List AE) : (l.foldl (fun (p : Nat × Nat) e => (p.1 + 1, if e.sync then p.1 else p.2)) (0, 0)).1 = l.length := by
  induction l using rev_ind with
  | h0 => rfl
  | h1 l e ih => rw [List.foldl_append]; simp [ih]

theorem lastSy_snoc (l : List AE) (e : AE) : lastSy (l ++ [e]) = if e.sync then l.length else lastSy l := by
  unfold lastSy
  rw [List.foldl_append]
  simp only [List.foldl_cons, List.foldl_nil, lastSy_fst]

theorem lastSy_le (l : List AE) : lastSy l ≤ l.length := by
  induction l using rev_ind with
  | h0 => exact Nat.le_refl _
  | h1 l e ih =>
    rw [lastSy_snoc, List.length_append]
    split <;> simp <;> omega

def opn (l : List AE) : Nat := (l.filter fun e => !e.sync && !e.sure).length

theorem opn_snoc (l : List AE) (e : AE) : opn (l ++ [e]) = opn l + (if e.sync || e.sure then 0 else 1) := by
  unfold opn
  rw [List.filter_append, List.length_append]
  cases h1 : e.sync <;> cases h2 : e.sure <;> simp [h1, h2]

theorem pend_opn (l : List AE) : opn (l.drop (lastSy l)) = pend l := by
  induction l using rev_ind with
  | h0 => rfl
  | h1 l e ih =>
    rw [lastSy_snoc, pend_snoc]
    cases he : e.sync
    · simp only [Bool.false_eq_true, if_false]
      rw [List.drop_append_of_le_length (lastSy_le l), opn_snoc, ih, he]
      simp
    · simp only [if_true]
      rw [List.drop_left]
      simp [opn, he]

theorem take_snoc {l : List RW} {k : Nat} {r : RW} (h : l[k]? = some r) : (l.take (k + 1)).map (·.e) = (l.take k).map (·.e) ++ [r.e] := by
  rw [List.take_add_one, h]
  simp

variable {w w' : World} {q m : Nat} {s : DS} {Fl Ll : List RW} {sp : List Nat} {vF vL vS : Value}

theorem opn_le (l : List AE) : opn l ≤ l.length := List.length_filter_le _ _

set_option maxRecDepth 100000 in
set_option maxHeartbeats 2000000 in
theorem pendingR (h : RefAt w q s m Fl Ll sp vF vL vS) (hlen : Ll.length ≤ 100000) : Calls Try.prog 57 #[ptr q] w fun e w' => e = .returned (.int .i64 (pend s.log : Nat)) ∧ w' = w := by
  have h2 : w.cell? ⟨q, 2, none⟩ = some vL := h.cell 2
  obtain ⟨aL, cL, rfl, _, _, _, hrL⟩ := row_is h.lr
  have hlog := h.log
  obtain ⟨Z, hZ⟩ : ∃ Z, Z = pend s.log := ⟨_, rfl⟩
  have HZ : Hid (Z = opn ((Ll.map (·.e)).drop (lastSy (Ll.map (·.e))))) := by show _ = _; rw [hZ, ← hlog, pend_opn]
  rw [← hZ]
  clear h hZ hlog
  obtain ⟨n, hn⟩ : ∃ n, n = Ll.length := ⟨_, rfl⟩
  rw [← hn] at h2 hlen hrL
  have Hfin : Hid (Ll.take n = Ll) := by show _ = _; rw [hn, List.take_length]
  clear hn
  go_enter Try.func57, Try.ntmps57
  go_wp2
  go_loopw [3, 4] (fun av iv wr => wr = w ∧ ∃ k A : Nat, k ≤ n ∧ iv = .int .i64 (k : Nat) ∧ av = .int .i64 (A : Nat) ∧ Hid (A = lastSy ((Ll.take k).map (·.e))) ∧ A ≤ k)
    (fun _ iv _ => n - (intOf iv).toNat)
  case atStart => exact ⟨rfl, 0, 0, Nat.zero_le _, rfl, rfl, (show (0 : Nat) = lastSy ((Ll.take 0).map (·.e)) from rfl), Nat.le_refl _⟩
  case round =>
    obtain ⟨hwr, k, A, hk, rfl, rfl, hA, hAk⟩ := hrel
    obtain rfl : w = wr := hwr.symm
    have i1 : (0 : Int) ≤ (k : Int) := by omega
    by_cases hlt : k < n
    · obtain ⟨x, r, rfl, hxlt, hrk, hc⟩ := hrL.2 k hlt
      have c2 : w.cell? ⟨x, k * 5 + 2, none⟩ = some (.bool r.e.sync) := hc 2 _ rfl
      have i0 : (k : Int) < (n : Int) := by omega
      have hst : Hid (lastSy ((Ll.take (k + 1)).map (·.e)) = if r.e.sync then k else lastSy ((Ll.take k).map (·.e))) := by
        show _ = _
        rw [take_snoc hrk, lastSy_snoc, List.length_map, List.length_take, Nat.min_eq_left (by rw [hrL.1]; omega)]
      clear hc hrL
      cases hsy : r.e.sync
      · rw [hsy] at c2
        go_wp2
        go_roundw
        case rel => exact ⟨by trivial, k + 1, A, by omega, by go_num, rfl, (show A = _ by rw [hst.out, hsy, if_neg (by simp)]; exact hA.out), by omega⟩
        case measure => simp [intOf]; omega
      · rw [hsy] at c2
        go_wp2
        go_roundw
        case rel => exact ⟨by trivial, k + 1, k, by omega, by go_num, rfl, (show k = _ by rw [hst.out, hsy, if_pos rfl]), by omega⟩
        case measure => simp [intOf]; omega
    · obtain rfl : k = n := by omega
      have HA : Hid (A = lastSy (Ll.map (·.e))) := by show _ = _; rw [hA.out, Hfin.out]
      clear hA
      go_wp2
      go_loopw [5, 6] (fun cv iv wr => wr = w ∧ ∃ j C : Nat, A ≤ j ∧ j ≤ k ∧ iv = .int .i64 (j : Nat) ∧ cv = .int .i64 (C : Nat) ∧ Hid (C = opn (((Ll.take j).map (·.e)).drop A)) ∧ C ≤ j)
        (fun _ iv _ => k - (intOf iv).toNat)
      case atStart =>
        refine ⟨rfl, A, 0, Nat.le_refl _, hAk, rfl, rfl, ?_, Nat.zero_le _⟩
        show (0 : Nat) = _
        rw [List.drop_of_length_le (by rw [List.length_map, List.length_take]; exact Nat.min_le_left _ _)]
        rfl
      case round =>
        obtain ⟨hwr, j, C, hAj, hj, rfl, rfl, hC, hCj⟩ := hrel
        obtain rfl : w = wr := hwr.symm
        have i1 : (0 : Int) ≤ (j : Int) := by omega
        by_cases hlt : j < k
        · obtain ⟨x, r, rfl, hxlt, hrk, hc⟩ := hrL.2 j hlt
          have c2 : w.cell? ⟨x, j * 5 + 2, none⟩ = some (.bool r.e.sync) := hc 2 _ rfl
          have c3 : w.cell? ⟨x, j * 5 + 3, none⟩ = some (.bool r.e.sure) := hc 3 _ rfl
          have i0 : (j : Int) < (k : Int) := by omega
          have hst : Hid (opn (((Ll.take (j + 1)).map (·.e)).drop A) = opn (((Ll.take j).map (·.e)).drop A) + (if r.e.sync || r.e.sure then 0 else 1)) := by
            show _ = _
            rw [take_snoc hrk, List.drop_append_of_le_length (by rw [List.length_map, List.length_take, Nat.min_eq_left (by rw [hrL.1]; omega)]; exact hAj), opn_snoc]
          clear hc hrL
          cases hsy : r.e.sync
          · rw [hsy] at c2
            cases hsu : r.e.sure
            · rw [hsu] at c3
              go_wp2
              go_roundw
              case rel => exact ⟨by trivial, j + 1, C + 1, by omega, by omega, by go_num, by go_num, (show C + 1 = _ by rw [hst.out, hsy, hsu, ← hC.out]; rfl), by omega⟩
              case measure => simp [intOf]; omega
            · rw [hsu] at c3
              go_wp2
              go_roundw
              case rel => exact ⟨by trivial, j + 1, C, by omega, by omega, by go_num, rfl, (show C = _ by rw [hst.out, hsy, hsu, ← hC.out]; rfl), by omega⟩
              case measure => simp [intOf]; omega
          · rw [hsy] at c2
            go_wp2
            go_roundw
            case rel => exact ⟨by trivial, j + 1, C, by omega, by omega, by go_num, rfl, (show C = _ by rw [hst.out, hsy, ← hC.out]; rfl), by omega⟩
            case measure => simp [intOf]; omega
        · obtain rfl : j = k := by omega
          have hCZ : C = Z := by rw [hC.out, HZ.out, ← HA.out, Hfin.out]
          clear hrL
          go_wp2
          go_ret
          exact ⟨by rw [← hCZ]; rfl, rfl⟩
end Go.Proofs.Ytalcalecmklcoaa

/- The reference's heal, SpoilIt. -/
namespace Go.Proofs.Ytalcalecmklcoaa
open Go.ChangeShapes Go.WideShapes Go.ChangeAt Go.RowKit
set_option linter.unusedVariables false

theorem info_i : (Try.prog.info? 3).map (fun i => (i.zero, i.size, i.bytes)) = some (some (.int .i64 0), 1, 8) := by kernel_rfl
theorem info_r : (Try.prog.info? 78).map (fun i => (i.zero, i.size, i.bytes)) = some (some (.agg #[.int .i64 0, .slice none 0 0, .bool false, .bool false, .int .i64 0]), 5, 48) := by kernel_rfl

/-- An int is added to a row of ints. -/
theorem app_i {w : World} {v : Value} {n B : Nat} {xs : List Value} (x : Nat) (hown : w.ownsRow B 3 1 v n xs) (hB : B ≤ w.heap.size) (hn : n ≤ 100000) (ty : TypeId) :
    ∃ g cap w', (Builtin.append_ #[30, 30] ty #[v, .slice (some ⟨w.heap.size, 0, none⟩) 1 1]).run Try.prog (w.alloc (.cells #[.int .i64 (x : Nat)] 3)) = .ok (.slice (some ⟨g, 0, none⟩) (n + 1) cap) w' ∧
      w'.ownsRow B 3 1 (.slice (some ⟨g, 0, none⟩) (n + 1) cap) (n + 1) (xs ++ icell x) ∧ (w.alloc (.cells #[.int .i64 (x : Nat)] 3)).grownBy w' v.ownBlock ∧ (v.ownBlock = some g ∨ g = w.heap.size + 1) := by
  obtain ⟨i0, hi0, hz0, hz1, hz2⟩ := info_parts info_i
  obtain ⟨g, cap, w', h1, h2, h3, h4, _⟩ := run_append_lies (P := Try.prog) (w.alloc (.cells #[.int .i64 (x : Nat)] 3)) 30 ty B 3 i0 _ 1 8 Try.underlying30 hi0 hz0 hz1 hz2 rfl (by decide) v n xs (hown.alloc _) ⟨w.heap.size, 0, none⟩ 1 1 (icell x) rfl (World.news_of_block (cs := #[.int .i64 (x : Nat)]) (Has.new w 3 _)) (by intro u hu; simp [icell] at hu; rw [hu]; rfl) (by decide) (by unfold maxLen; omega) (by omega) (by simp; omega) (w.heap.size + 1) (by simp)
  exact ⟨g, cap, w', h1, h2, h3, h4⟩

theorem rcell_one (r : RW) : ∀ u ∈ rcell r, u.oneCell' = true := by
  intro u hu
  simp only [rcell, List.mem_cons, List.not_mem_nil, or_false] at hu
  rcases hu with rfl | rfl | rfl | rfl | rfl
  · rfl
  · unfold rby; split <;> rfl
  · rfl
  · rfl
  · rfl

/-- An entry is added to a row of entries. -/
theorem app_r {w : World} {v : Value} {n B : Nat} {xs : List Value} (r : RW) (hown : w.ownsRow B 78 5 v n xs) (hB : B ≤ w.heap.size) (hn : n ≤ 100000) (ty : TypeId) :
    ∃ g cap w', (Builtin.append_ #[29, 29] ty #[v, .slice (some ⟨w.heap.size, 0, none⟩) 1 1]).run Try.prog (w.alloc (.cells (rcell r).toArray 78)) = .ok (.slice (some ⟨g, 0, none⟩) (n + 1) cap) w' ∧
      w'.ownsRow B 78 5 (.slice (some ⟨g, 0, none⟩) (n + 1) cap) (n + 1) (xs ++ rcell r) ∧ (w.alloc (.cells (rcell r).toArray 78)).grownBy w' v.ownBlock ∧ (v.ownBlock = some g ∨ g = w.heap.size + 1) := by
  obtain ⟨i0, hi0, hz0, hz1, hz2⟩ := info_parts info_r
  obtain ⟨g, cap, w', h1, h2, h3, h4, _⟩ := run_append_lies (P := Try.prog) (w.alloc (.cells (rcell r).toArray 78)) 29 ty B 78 i0 _ 5 48 Try.underlying29 hi0 hz0 hz1 hz2 rfl (by decide) v n xs (hown.alloc _) ⟨w.heap.size, 0, none⟩ 1 1 (rcell r) rfl (World.news_of_block (cs := (rcell r).toArray) (Has.new w 78 _)) (rcell_one r) (by decide) (by unfold maxLen; omega) (by omega) (by simp; omega) (w.heap.size + 1) (by simp)
  exact ⟨g, cap, w', h1, h2, h3, h4⟩

theorem own_zero {w : World} {B e size n : Nat} {v : Value} {xs : List Value} (h : w.ownsRow B e size v n xs) : w.ownsRow 0 e size v n xs := by
  refine ⟨h.1, ?_⟩
  rcases h.2 with h0 | ⟨g, cap, cur, hv, h1, r⟩
  · exact .inl h0
  · exact .inr ⟨g, cap, cur, hv, Nat.zero_le _, r⟩

/-- What has turned behind the laying of the new one and the append. -/
theorem only_app {w w' : World} {o : Obj} {r : Option Nat} (h : (w.alloc o).grownBy w' r) : Only (fun k => r = some k) w w' :=
  ⟨h.os, h.tape, h.output, Nat.le_trans (by simp) h.size, fun k hk hn => (h.block k (by simp; omega) (fun e => hn e.symm)).trans (Below.heap_alloc w o k hk)⟩

variable {w w' : World} {q m : Nat} {s : DS} {Fl Ll : List RW} {sp : List Nat} {vF vL vS : Value}

/-- Only the device's own block and its Spoil have turned. -/
theorem RefAt.turnS (h : RefAt w q s m Fl Ll sp vF vL vS) {sp' : List Nat} {vS' : Value} {bad' : Nat → Bool} (ho : Only (fun k => k = q ∨ vS.ownBlock = some k) w w') (hh : Has w' q 32 (rdcells s.n vF vL vS' s.dead m)) (hs : w'.ownsRow 0 3 1 vS' sp'.length (sp'.flatMap icell)) (hb : ∀ k, bad' k = sp'.contains k) :
    RefAt w' q { s with bad := bad' } m Fl Ll sp' vF vL vS' :=
  ⟨hh, h.n1, own_kept h.fr (fun g hg => ho.block g (h.fr.lt g hg).2 (fun e => e.elim (fun e => h.fr_q (e ▸ hg)) (fun e => h.sr_fr e hg))), own_kept h.lr (fun g hg => ho.block g (h.lr.lt g hg).2 (fun e => e.elim (fun e => h.lr_q (e ▸ hg)) (fun e => h.sr_lr e hg))), hs,
    fun r hr => ⟨(h.fb r hr).1, (ho.block r.g (h.fb r hr).2.lt (fun e => e.elim (h.by_rows (h.fb r hr).2).1 (h.by_rows (h.fb r hr).2).2.2.2)).trans (h.fb r hr).2⟩,
    fun r hr hsy => (ho.block r.g (h.lb r hr hsy).lt (fun e => e.elim (h.by_rows (h.lb r hr hsy)).1 (h.by_rows (h.lb r hr hsy)).2.2.2)).trans (h.lb r hr hsy), h.log, h.fst, hb, h.apart, h.byt⟩

set_option maxRecDepth 100000 in
set_option maxHeartbeats 2000000 in
theorem healR (h : RefAt w q s m Fl Ll sp vF vL vS) (I : Nat) (hsp : sp.length ≤ 100000) :
    Calls Try.prog 43 #[ptr q, .int .i64 (I : Nat)] w fun e w' => e = .returned (.tuple #[]) ∧ ∃ vS', Only (fun k => k = q) w w' ∧ (∀ k, vS'.ownBlock = some k → w.heap.size ≤ k) ∧ RefAt w' q { s with bad := fun k => if k = I then false else s.bad k } m Fl Ll (sp.filter (fun x => x != I)) vF vL vS' := by
  have h3 : w.cell? ⟨q, 3, none⟩ = some vS := h.cell 3
  have hrow := fun k hk => row_at icell_len h.sr rfl k hk
  obtain ⟨aS, cS, hvS, _⟩ := own_slice h.sr
  subst hvS
  have HR : Hid (RefAt w q s m Fl Ll sp vF vL (.slice aS sp.length cS)) := h
  have hqlt := h.has.lt
  clear h
  obtain ⟨n, hn⟩ : ∃ n, n = sp.length := ⟨_, rfl⟩
  rw [← hn] at h3 hrow hsp
  have Hfin : Hid (sp.take n = sp) := by show _ = _; rw [hn, List.take_length]
  have Hn : Hid (n = sp.length) := hn
  clear hn
  go_enter Try.func43, Try.ntmps43
  go_wp2
  go_loopw [4, 5] (fun lv iv wr => ∃ (k N : Nat) (al : Option Addr) (cl : Nat), k ≤ n ∧ N ≤ k ∧ iv = .int .i64 (k : Nat) ∧ lv = .slice al N cl ∧ Hid (N = ((sp.take k).filter (fun x => x != I)).length) ∧ wr.ownsRow w.heap.size 3 1 (.slice al N cl) N (((sp.take k).filter (fun x => x != I)).flatMap icell) ∧ Below w.heap.size w wr)
    (fun _ iv _ => n - (intOf iv).toNat)
  case atStart => exact ⟨0, 0, none, 0, Nat.zero_le _, Nat.le_refl _, rfl, rfl, (show (0 : Nat) = _ from rfl), World.ownsRow_nil _ _ _ _, Below.refl _ _⟩
  case round =>
    obtain ⟨k, N, al, cl, hk, hNk, rfl, rfl, hN, hown, hbel⟩ := hrel
    have i1 : (0 : Int) ≤ (k : Int) := by omega
    have k3 : wr.cell? ⟨q, 3, none⟩ = some (.slice aS n cS) := (hbel.cell (p := ⟨q, 3, none⟩) hqlt).trans h3
    by_cases hlt : k < n
    · obtain ⟨x, cap, a, hv, hxlt, hcap, ha, hc⟩ := hrow k hlt
      injection hv with hv1 _ hv3
      subst hv1 hv3
      have c0 : wr.cell? ⟨x, k, none⟩ = some (.int .i64 (a : Nat)) := by
        have := hc 0 _ rfl
        rw [Nat.mul_one, Nat.add_zero] at this
        exact (hbel.cell (p := ⟨x, k, none⟩) hxlt).trans this
      have i0 : (k : Int) < (n : Int) := by omega
      have hst : Hid ((sp.take (k + 1)).filter (fun x => x != I) = (sp.take k).filter (fun x => x != I) ++ (if a != I then [a] else [])) := by
        show _ = _
        rw [List.take_add_one, ha, List.filter_append]
        congr 1
        cases hai : (a != I) <;> simp [hai]
      clear hrow hc
      by_cases hai : a = I
      · have hai' : (a : Int) = (I : Int) := by omega
        go_wp2
        go_roundw
        case rel =>
          have e1 : (sp.take (k + 1)).filter (fun x => x != I) = (sp.take k).filter (fun x => x != I) := by rw [hst.out, hai]; simp
          exact ⟨k + 1, N, al, cl, by omega, by omega, by go_num, rfl, (show N = _ by rw [e1]; exact hN.out), by rw [e1]; exact hown, hbel⟩
        case measure => simp [intOf]; omega
      · have hai' : ¬ (a : Int) = (I : Int) := by omega
        obtain ⟨g7, cap7, w7, hr7, hown7, hgr7, hl7⟩ := app_i a hown hbel.size (by omega) 30
        have hb7 : Below w.heap.size w w7 := (hbel.alloc hbel.size _).grown hgr7 (Nat.le_trans hbel.size (by simp)) (fun g e => (hown.lt g e).1)
        clear hgr7
        go_wp2_with (first
          | (refine wpList_is_w (some 32) (.slice (some ⟨wr.heap.size, 0, none⟩) 1 1) (wr.alloc (.cells #[.int .i64 (a : Nat)] 3)) rfl (by rfl) (by kernel_rfl) ?_)
          | (refine wpList_is_w (some 33) (.slice (some ⟨g7, 0, none⟩) (N + 1) cap7) w7 rfl (by rfl) (run_app 30 (.tmp 24) (.tmp 32) rfl (.slice al N cl) (.slice (some ⟨wr.heap.size, 0, none⟩) 1 1) rfl rfl _ 30 rfl hr7) ?_))
        go_roundw
        case rel =>
          have e1 : (sp.take (k + 1)).filter (fun x => x != I) = (sp.take k).filter (fun x => x != I) ++ [a] := by rw [hst.out, if_pos (by simpa using hai)]
          refine ⟨k + 1, N + 1, some ⟨g7, 0, none⟩, cap7, by omega, by omega, by go_num, rfl, (show N + 1 = _ by rw [e1, List.length_append, ← hN.out]; rfl), ?_, hb7⟩
          rw [e1, List.flatMap_append]
          simpa using hown7
        case measure => simp [intOf]; omega
    · obtain rfl : k = n := by omega
      have h := HR.out
      have hown0 := own_zero hown
      have hNf : N = (sp.filter (fun x => x != I)).length := by rw [hN.out, Hfin.out]
      rw [Hfin.out] at hown0
      have hnew : ∀ g, (Value.slice al N cl).ownBlock = some g → w.heap.size ≤ g := fun g e => (hown.lt g e).1
      have hH : Has wr q 32 (rdcells s.n vF vL (.slice aS sp.length cS) s.dead m) := h.has.below hbel hqlt
      have hf := hH.free 3
      have hH2 := hH.setV 3 (.slice al N cl)
      have hO := only_setCell wr q 3 (.slice al N cl)
      have hOw : Only (fun k => k = q) w (wr.setCell ⟨q, 3, none⟩ (.slice al N cl)) := (Only.of_below (F := fun k => k = q) hbel (Nat.le_refl _)).trans hO (fun _ _ h => h)
      have HNf : Hid (N = (sp.filter (fun x => x != I)).length) := hNf
      clear hrow hN hown hNf
      go_wp2
      go_end0
      refine ⟨rfl, _, hOw, hnew, h.turnS (hOw.mono (fun _ h => .inl h)) hH2 ?_ (fun k => ?_)⟩
      · rw [← HNf.out]
        exact own_kept hown0 (fun g hg => hO.block g (hown0.lt g hg).2 (fun e => by have := hnew g hg; omega))
      · rw [h.bad k]
        rw [Bool.eq_iff_iff]
        by_cases hkI : k = I
        · rw [if_pos hkI]
          simp [hkI]
        · rw [if_neg hkI]
          simp [hkI]

theorem spoil_contains (sp : List Nat) (I k : Nat) : (sp ++ [I]).contains k = if k = I then true else sp.contains k := by
  rw [Bool.eq_iff_iff]
  by_cases h : k = I
  · rw [if_pos h]; simp [h]
  · rw [if_neg h]; simp [h]

set_option maxRecDepth 100000 in
set_option maxHeartbeats 2000000 in
theorem spoilR (h : RefAt w q s m Fl Ll sp vF vL vS) (i : Int) (hsp : sp.length ≤ 100000) (h0 : s.dead = false ∧ 0 ≤ i ∧ i < s.n) :
    Calls Try.prog 16 #[ptr q, .int .i64 i] w fun e w' => e = .returned (.tuple #[]) ∧ ∃ sp' vS', sp'.length ≤ sp.length + 1 ∧ Only (fun k => k = q ∨ vS.ownBlock = some k) w w' ∧ (∀ k, vS'.ownBlock = some k → vS.ownBlock = some k ∨ w.heap.size ≤ k) ∧ RefAt w' q (spoilD s i.toNat) m Fl Ll sp' vF vL vS' := by
  obtain ⟨I, rfl⟩ : ∃ I : Nat, i = (I : Int) := ⟨i.toNat, by omega⟩
  rw [Int.toNat_natCast]
  have h3 : w.cell? ⟨q, 3, none⟩ = some vS := h.cell 3
  have h4 : w.cell? ⟨q, 4, none⟩ = some (.bool s.dead) := h.cell 4
  rw [h0.1] at h4
  have hh := hasR h (I : Int)
  have hb := badR h (I : Int) hsp
  rw [Int.toNat_natCast] at hb
  rw [decide_eq_true h0.2] at hh
  rw [decide_eq_true h0.2.1, Bool.true_and] at hb
  cases hbd : s.bad I
  · rw [hbd] at hb
    obtain ⟨g7, cap7, w7, hr7, hown7, hgr7, hl7⟩ := app_i I h.sr (Nat.zero_le _) hsp 30
    have hO7 := only_app hgr7
    have hH7 : Has w7 q 32 (rdcells s.n vF vL vS s.dead m) := (hO7.block q h.has.lt h.sr_q).trans h.has
    have hf7 := hH7.free 3
    have hc7 : w7.cell? ⟨q, 3, none⟩ = some vS := hH7.cell 3
    have hH8 := hH7.setV 3 (.slice (some ⟨g7, 0, none⟩) (sp.length + 1) cap7)
    have hO8 := only_setCell w7 q 3 (.slice (some ⟨g7, 0, none⟩) (sp.length + 1) cap7)
    have hOw : Only (fun k => k = q ∨ vS.ownBlock = some k) w (w7.setCell ⟨q, 3, none⟩ (.slice (some ⟨g7, 0, none⟩) (sp.length + 1) cap7)) := (hO7.mono (G := fun k => k = q ∨ vS.ownBlock = some k) (fun _ h => .inr h)).trans hO8 (fun _ _ h => .inl h)
    have HR : Hid (RefAt w q s m Fl Ll sp vF vL vS) := h
    obtain ⟨aS, cS, hvS, _⟩ := own_slice h.sr
    clear h hgr7
    subst hvS
    go_enter Try.func16, Try.ntmps16
    go_wp2_with (first
      | ((go_at_call 42)
         (refine hh.mono ?_)
         (rintro e w' ⟨rfl, hw'⟩; obtain rfl : w = w' := hw'.symm))
      | ((go_at_call 45)
         (refine hb.mono ?_)
         (rintro e w' ⟨rfl, hw'⟩; obtain rfl : w = w' := hw'.symm))
      | (refine wpList_is_w (some 30) (.slice (some ⟨w.heap.size, 0, none⟩) 1 1) (w.alloc (.cells #[.int .i64 (I : Nat)] 3)) rfl (by rfl) (by kernel_rfl) ?_)
      | (refine wpList_is_w (some 31) (.slice (some ⟨g7, 0, none⟩) (sp.length + 1) cap7) w7 rfl (by rfl) (run_app 30 (.tmp 28) (.tmp 30) rfl (.slice aS sp.length cS) (.slice (some ⟨w.heap.size, 0, none⟩) 1 1) rfl rfl _ 30 rfl hr7) ?_))
    go_end0
    have h := HR.out
    refine ⟨rfl, sp ++ [I], _, by simp, hOw, fun k hk => ?_, h.turnS hOw hH8 ?_ (fun k => ?_)⟩
    · have hk' : g7 = k := by simpa [Value.ownBlock] using hk
      subst hk'
      rcases hl7 with e | e
      · exact .inl e
      · exact .inr (by omega)
    · rw [List.length_append, List.flatMap_append]
      have := own_kept hown7 (fun g hg => hO8.block g (hown7.lt g hg).2 (fun e => by obtain ⟨cur, hcur⟩ := own_block hown7 hg; exact cells_ne hcur hH7 (by decide) e))
      simpa using this
    · rw [spoil_contains]
      show (if k = I then true else s.bad k) = _
      rw [h.bad k]
  · rw [hbd] at hb
    have hbad : ∀ k, (if k = I then true else s.bad k) = sp.contains k := fun k => by
      rw [← h.bad k]
      by_cases hk : k = I
      · rw [if_pos hk, hk, hbd]
      · rw [if_neg hk]
    have hR2 : RefAt w q (spoilD s I) m Fl Ll sp vF vL vS := ⟨h.has, h.n1, h.fr, h.lr, h.sr, h.fb, h.lb, h.log, h.fst, hbad, h.apart, h.byt⟩
    clear h
    go_enter Try.func16, Try.ntmps16
    go_wp2_with (first
      | ((go_at_call 42)
         (refine hh.mono ?_)
         (rintro e w' ⟨rfl, hw'⟩; obtain rfl : w = w' := hw'.symm))
      | ((go_at_call 45)
         (refine hb.mono ?_)
         (rintro e w' ⟨rfl, hw'⟩; obtain rfl : w = w' := hw'.symm)))
    go_end0
    exact ⟨rfl, sp, vS, by omega, Only.refl _ _, fun k hk => .inl hk, hR2⟩

set_option maxRecDepth 100000 in
set_option maxHeartbeats 1000000 in
theorem spoilNoR (h : RefAt w q s m Fl Ll sp vF vL vS) (i : Int) (hsp : sp.length ≤ 100000) (h0 : ¬ (s.dead = false ∧ 0 ≤ i ∧ i < s.n)) :
    Calls Try.prog 16 #[ptr q, .int .i64 i] w fun e w' => e = .returned (.tuple #[]) ∧ w' = w := by
  have h4 : w.cell? ⟨q, 4, none⟩ = some (.bool s.dead) := h.cell 4
  have hh := hasR h i
  have hb := badR h i hsp
  clear h
  generalize (decide (0 ≤ i) && s.bad i.toNat) = B at hb
  cases hd : s.dead
  · rw [hd] at h4
    rw [decide_eq_false (fun e => h0 ⟨hd, e⟩)] at hh
    go_enter Try.func16, Try.ntmps16
    go_wp2_with (first
      | ((go_at_call 42)
         (refine hh.mono ?_)
         (rintro e w' ⟨rfl, hw'⟩; obtain rfl : w = w' := hw'.symm))
      | ((go_at_call 45)
         (refine hb.mono ?_)
         (rintro e w' ⟨rfl, hw'⟩; obtain rfl : w = w' := hw'.symm)))
    go_end0
    exact ⟨rfl, rfl⟩
  · rw [hd] at h4
    generalize decide (0 ≤ i ∧ i < (s.n : Int)) = A at hh
    go_enter Try.func16, Try.ntmps16
    go_wp2_with (first
      | ((go_at_call 42)
         (refine hh.mono ?_)
         (rintro e w' ⟨rfl, hw'⟩; obtain rfl : w = w' := hw'.symm))
      | ((go_at_call 45)
         (refine hb.mono ?_)
         (rintro e w' ⟨rfl, hw'⟩; obtain rfl : w = w' := hw'.symm)))
    go_end0
    exact ⟨rfl, rfl⟩
end Go.Proofs.Ytalcalecmklcoaa

/- The reference's Sync, Tamper, Write. -/
namespace Go.Proofs.Ytalcalecmklcoaa
open Go.ChangeShapes Go.WideShapes Go.ChangeAt Go.RowKit
set_option linter.unusedVariables false

theorem run_load_rs {o : Oper} {a : Act} (x : Operand) (ho : o.op = .load 29 x) (p : Addr) (hx : a.eval x = .pointer (some p)) (v : Value) (w : World) (h : w.cell? p = some v) : (execOp a.eval o).run Try.prog w = .ok (.value v) w := by
  unfold execOp
  simp only [ho, hx]
  go_simp

theorem run_store_rs {o : Oper} {a : Act} (x y : Operand) (ho : o.op = .store 29 x y) (p : Addr) (hx : a.eval x = .pointer (some p)) (A : Option Addr) (n c : Nat) (hy : a.eval y = .slice A n c) (w : World) (u : Value) (h : w.cell? p = some u) (hf : w.frozen? p = false) : (execOp a.eval o).run Try.prog w = .ok .skip (w.setCell p (.slice A n c)) := by
  unfold execOp
  simp only [ho, hx, hy]
  go_simp

theorem run_build_rw {o : Oper} {a : Act} (x y z : Operand) (ho : o.op = .build 78 #[(0, x), (1, y), (4, z)]) (I g m : Nat) (B : Nat → Nat) (hx : a.eval x = .int .i64 (I : Nat)) (hy : a.eval y = .slice (some ⟨g, 0, none⟩) 64 64) (hz : a.eval z = .int .i64 (m : Nat)) (w : World) :
    (execOp a.eval o).run Try.prog w = .ok (.value (.agg (rcell ⟨⟨I, B, false, false, (m : Nat)⟩, g⟩).toArray)) w := by
  unfold execOp
  simp only [ho, List.map_toArray, List.map_cons, List.map_nil, hx, hy, hz]
  kernel_rfl

theorem run_bs_r {o : Oper} {a : Act} (x : Operand) (ho : o.op = .buildSlice 29 1 #[(0, x)]) (r : RW) (hx : a.eval x = .agg (rcell r).toArray) (w : World) :
    (execOp a.eval o).run Try.prog w = .ok (.value (.slice (some ⟨w.heap.size, 0, none⟩) 1 1)) (w.alloc (.cells (rcell r).toArray 78)) := by
  unfold execOp
  simp only [ho, List.map_toArray, List.map_cons, List.map_nil, hx]
  kernel_rfl

variable {w w' : World} {q m : Nat} {s : DS} {Fl Ll : List RW} {sp : List Nat} {vF vL vS : Value}

/-- Only the device's own block has turned. -/
theorem RefAt.turnQ (h : RefAt w q s m Fl Ll sp vF vL vS) {s' : DS} {m' : Nat} (ho : Only (fun k => k = q) w w') (hh : Has w' q 32 (rdcells s'.n vF vL vS s'.dead m')) (e1 : s'.n = s.n) (e2 : s'.fst = s.fst) (e3 : s'.log = s.log) (e4 : s'.bad = s.bad) : RefAt w' q s' m' Fl Ll sp vF vL vS :=
  ⟨hh, by rw [e1]; exact h.n1, own_kept h.fr (fun g hg => ho.block g (h.fr.lt g hg).2 (fun e => h.fr_q (e ▸ hg))), own_kept h.lr (fun g hg => ho.block g (h.lr.lt g hg).2 (fun e => h.lr_q (e ▸ hg))), own_kept h.sr (fun g hg => ho.block g (h.sr.lt g hg).2 (fun e => h.sr_q (e ▸ hg))),
    fun r hr => ⟨(h.fb r hr).1, (ho.block r.g (h.fb r hr).2.lt (h.by_rows (h.fb r hr).2).1).trans (h.fb r hr).2⟩, fun r hr hsy => (ho.block r.g (h.lb r hr hsy).lt (h.by_rows (h.lb r hr hsy)).1).trans (h.lb r hr hsy), by rw [e3]; exact h.log, by rw [e2]; exact h.fst, by rw [e4]; exact h.bad, h.apart, h.byt⟩

/-- One more has come. -/
theorem RefAt.addL (h : RefAt w q s m Fl Ll sp vF vL vS) {r : RW} {vL' : Value} (ho : Only (fun k => k = q ∨ vL.ownBlock = some k) w w') (hh : Has w' q 32 (rdcells s.n vF vL' vS s.dead m)) (hl : w'.ownsRow 0 78 5 vL' (Ll.length + 1) (Ll.flatMap rcell ++ rcell r)) (hg : ∀ k, vL'.ownBlock = some k → vL.ownBlock = some k ∨ w.heap.size ≤ k) (hr : r.e.sync = false → Has w' r.g 5 (cellsN .u8 64 r.e.b)) (hb : ∀ j, r.e.b j < 256) :
    RefAt w' q (addD s r.e) m Fl (Ll ++ [r]) sp vF vL' vS := by
  refine ⟨hh, h.n1, own_kept h.fr (fun g hg => ho.block g (h.fr.lt g hg).2 (fun e => e.elim (fun e => h.fr_q (e ▸ hg)) (fun e => h.apart g hg e))), ?_, own_kept h.sr (fun g hg => ho.block g (h.sr.lt g hg).2 (fun e => e.elim (fun e => h.sr_q (e ▸ hg)) (fun e => h.sr_lr hg e))),
    fun r' hr' => ⟨(h.fb r' hr').1, (ho.block r'.g (h.fb r' hr').2.lt (fun e => e.elim (h.by_rows (h.fb r' hr').2).1 (h.by_rows (h.fb r' hr').2).2.2.1)).trans (h.fb r' hr').2⟩, fun r' hr' hsy => ?_, ?_, h.fst, h.bad, fun g h1 h2 => ?_, fun r' hr' => ?_⟩
  · rw [List.length_append, List.flatMap_append]
    simpa using hl
  · rcases List.mem_append.1 hr' with hr' | hr'
    · exact (ho.block r'.g (h.lb r' hr' hsy).lt (fun e => e.elim (h.by_rows (h.lb r' hr' hsy)).1 (h.by_rows (h.lb r' hr' hsy)).2.2.1)).trans (h.lb r' hr' hsy)
    · rw [List.mem_singleton] at hr'
      subst hr'
      exact hr hsy
  · show (Ll ++ [r]).map (·.e) = s.log ++ [r.e]
    rw [List.map_append, h.log]
    rfl
  · rcases hg g h2 with h3 | h3
    · exact h.apart g h1 h3
    · have := (h.fr.lt g h1).2
      omega
  · rcases List.mem_append.1 hr' with hr' | hr'
    · exact h.byt r' (List.mem_append_left _ hr')
    · rcases List.mem_append.1 hr' with hr' | hr'
      · exact h.byt r' (List.mem_append_right _ hr')
      · rw [List.mem_singleton] at hr'
        subst hr'
        exact hb

set_option maxRecDepth 100000 in
set_option maxHeartbeats 1000000 in
theorem syncDeadR (h : RefAt w q s m Fl Ll sp vF vL vS) (hd : s.dead = true) : Calls Try.prog 14 #[ptr q] w fun e w' => e = .returned (.int .i64 73) ∧ w' = w := by
  have h4 : w.cell? ⟨q, 4, none⟩ = some (.bool s.dead) := h.cell 4
  rw [hd] at h4
  clear h
  go_enter Try.func14, Try.ntmps14
  go_wp2
  go_ret
  exact ⟨rfl, rfl⟩

set_option maxRecDepth 100000 in
set_option maxHeartbeats 4000000 in
theorem syncR (h : RefAt w q s m Fl Ll sp vF vL vS) (hd : s.dead = false) (hlen : Ll.length ≤ 100000) :
    Calls Try.prog 14 #[ptr q] w fun e w' => e = .returned (.int .i64 0) ∧ ∃ r vL', Only (fun k => k = q ∨ vL.ownBlock = some k) w w' ∧ (∀ k, vL'.ownBlock = some k → vL.ownBlock = some k ∨ w.heap.size ≤ k) ∧ r.e.sync = true ∧ RefAt w' q (syncD s (m : Nat)) m Fl (Ll ++ [r]) sp vF vL' vS := by
  have h2 : w.cell? ⟨q, 2, none⟩ = some vL := h.cell 2
  have h4 : w.cell? ⟨q, 4, none⟩ = some (.bool s.dead) := h.cell 4
  have h5 : w.cell? ⟨q, 5, none⟩ = some (.int .i64 (m : Nat)) := h.cell 5
  rw [hd] at h4
  obtain ⟨r, hr⟩ : ∃ r : RW, r = ⟨⟨0, fun _ => 0, true, false, (m : Nat)⟩, 0⟩ := ⟨_, rfl⟩
  have hRd : RefAt w.drew q s m Fl Ll sp vF vL vS := h.kept (fun _ _ => rfl)
  obtain ⟨g7, cap7, w7, hr7, hown7, hgr7, hl7⟩ := app_r r hRd.lr (Nat.zero_le _) hlen 29
  have hDr : Below w.heap.size w w.drew := (Below.refl _ w).drew
  have hA : Below w.heap.size w (w.drew.alloc (.cells (rcell r).toArray 78)) := hDr.alloc (Nat.le_refl _) _
  have hO7 : Only (fun k => vL.ownBlock = some k) w w7 := ⟨hgr7.os.trans hA.os, hgr7.tape.trans hA.tape, hgr7.output.trans hA.output, Nat.le_trans hA.size hgr7.size, fun k hk hn => (hgr7.block k (Nat.lt_of_lt_of_le hk hA.size) (fun e => hn e.symm)).trans (hA.block k hk)⟩
  have held : ∀ wz, Only (fun k => vL.ownBlock = some k) w wz → wz.cell? ⟨q, 2, none⟩ = some vL ∧ wz.cell? ⟨q, 5, none⟩ = some (.int .i64 (m : Nat)) := fun wz hz =>
    ⟨(hz.cell h.has.lt h.lr_q).trans h2, (hz.cell h.has.lt h.lr_q).trans h5⟩
  have HR : Hid (RefAt w q s m Fl Ll sp vF vL vS) := h
  clear h
  go_enter Try.func14, Try.ntmps14
  go_wp2
  have h := HR.out
  refine lastTo (S := fun wz => wz.cell? ⟨q, 2, none⟩ = some vL ∧ wz.cell? ⟨q, 5, none⟩ = some (.int .i64 (m : Nat))) 14 (by kernel_rfl) ⟨h2, h5⟩ (fun hHeld => ?_)
  refine takeL 0 (some 7) (ptr q) rfl rfl (by decide) (by kernel_rfl) (by kernel_rfl) (by kernel_rfl) (by kernel_rfl) (fun _ _ _ h => h) (by rfl) (fun _ _ => rfl) hHeld ?_
  simp only [Act.put, List.setIfInBounds_toArray, List.set_cons_zero, List.set_cons_succ]
  refine takeL 1 (some 8) (ptr q) rfl rfl (by decide) (by kernel_rfl) (by kernel_rfl) (by kernel_rfl) (by kernel_rfl) (fun _ _ _ h => h) (by rfl) (fun _ _ => rfl) hHeld ?_
  simp only [Act.put, List.setIfInBounds_toArray, List.set_cons_zero, List.set_cons_succ]
  refine takeL 2 (some 9) (.pointer (some ⟨q, 0, none⟩)) rfl rfl (by decide) (by kernel_rfl) (by kernel_rfl) (by kernel_rfl) (by kernel_rfl) (fun _ _ _ h => h) (by rfl) (fun _ _ => rfl) hHeld ?_
  simp only [Act.put, List.setIfInBounds_toArray, List.set_cons_zero, List.set_cons_succ]
  refine takeL 3 (some 10) (.pointer (some ⟨q, 2, none⟩)) rfl rfl (by decide) (by kernel_rfl) (by kernel_rfl) (by kernel_rfl) (by kernel_rfl) (fun _ _ _ h => h) (by rfl) (fun _ _ => rfl) hHeld ?_
  simp only [Act.put, List.setIfInBounds_toArray, List.set_cons_zero, List.set_cons_succ]
  refine takeL 4 (some 11) (vL) rfl rfl (by decide) (by kernel_rfl) (by kernel_rfl) (by kernel_rfl) (by kernel_rfl) (fun _ _ _ h => h) (by rfl) (fun wz hz => run_load_rs _ rfl _ rfl _ wz hz.1) hHeld ?_
  simp only [Act.put, List.setIfInBounds_toArray, List.set_cons_zero, List.set_cons_succ]
  refine takeL 5 (some 12) (ptr q) rfl rfl (by decide) (by kernel_rfl) (by kernel_rfl) (by kernel_rfl) (by kernel_rfl) (fun _ _ _ h => h) (by rfl) (fun _ _ => rfl) hHeld ?_
  simp only [Act.put, List.setIfInBounds_toArray, List.set_cons_zero, List.set_cons_succ]
  refine takeL 6 (some 13) (.pointer (some ⟨q, 0, none⟩)) rfl rfl (by decide) (by kernel_rfl) (by kernel_rfl) (by kernel_rfl) (by kernel_rfl) (fun _ _ _ h => h) (by rfl) (fun _ _ => rfl) hHeld ?_
  simp only [Act.put, List.setIfInBounds_toArray, List.set_cons_zero, List.set_cons_succ]
  refine takeL 7 (some 14) (.pointer (some ⟨q, 5, none⟩)) rfl rfl (by decide) (by kernel_rfl) (by kernel_rfl) (by kernel_rfl) (by kernel_rfl) (fun _ _ _ h => h) (by rfl) (fun _ _ => rfl) hHeld ?_
  simp only [Act.put, List.setIfInBounds_toArray, List.set_cons_zero, List.set_cons_succ]
  refine takeL 8 (some 15) (.int .i64 (m : Nat)) rfl rfl (by decide) (by kernel_rfl) (by kernel_rfl) (by kernel_rfl) (by kernel_rfl) (fun _ _ _ h => h) (by rfl) (fun wz hz => run_load_n _ rfl _ rfl _ wz hz.2) hHeld ?_
  simp only [Act.put, List.setIfInBounds_toArray, List.set_cons_zero, List.set_cons_succ]
  refine takeL 9 (some 16) (.agg (rcell ⟨⟨0, fun _ => 0, true, false, (m : Nat)⟩, 0⟩).toArray) rfl rfl (by decide) (by kernel_rfl) (by kernel_rfl) (by kernel_rfl) (by kernel_rfl) (fun _ _ _ h => h) (by rfl) (fun _ _ => by kernel_rfl) hHeld ?_
  simp only [Act.put, List.setIfInBounds_toArray, List.set_cons_zero, List.set_cons_succ]
  rw [← hr]
  have hHeld8 := held (w.drew.alloc (.cells (rcell r).toArray 78)) (Only.of_below hA (Nat.le_refl _))
  refine valL 10 (some 17) (.slice (some ⟨w.drew.heap.size, 0, none⟩) 1 1) (w.drew.alloc (.cells (rcell r).toArray 78)) (by kernel_rfl) rfl rfl (by rfl) (run_bs_r _ rfl r rfl w.drew) hHeld8 ?_
  simp only [Act.put, List.setIfInBounds_toArray, List.set_cons_zero, List.set_cons_succ]
  have hHeld9 := held w7 hO7
  refine valL 11 (some 18) (.slice (some ⟨g7, 0, none⟩) (Ll.length + 1) cap7) w7 (by kernel_rfl) rfl rfl (by rfl) (run_app 29 _ _ rfl vL (.slice (some ⟨w.drew.heap.size, 0, none⟩) 1 1) rfl rfl _ 29 rfl hr7) hHeld9 ?_
  simp only [Act.put, List.setIfInBounds_toArray, List.set_cons_zero, List.set_cons_succ]
  refine valL 12 (some 19) (.pointer (some ⟨q, 0, none⟩)) w7 (by kernel_rfl) rfl rfl (by rfl) (by kernel_rfl) hHeld9 ?_
  simp only [Act.put, List.setIfInBounds_toArray, List.set_cons_zero, List.set_cons_succ]
  refine valL 13 (some 20) (.pointer (some ⟨q, 2, none⟩)) w7 (by kernel_rfl) rfl rfl (by rfl) (by kernel_rfl) hHeld9 ?_
  simp only [Act.put, List.setIfInBounds_toArray, List.set_cons_zero, List.set_cons_succ]
  have hR7 : Has w7 q 32 (rdcells s.n vF vL vS s.dead m) := (hO7.block q h.has.lt h.lr_q).trans h.has
  have f7 := hR7.free 2
  refine lastSkip 14 none (w7.setCell ⟨q, 2, none⟩ (.slice (some ⟨g7, 0, none⟩) (Ll.length + 1) cap7)) (by kernel_rfl) rfl rfl (by rfl) (run_store_rs _ _ rfl ⟨q, 2, none⟩ rfl _ _ _ rfl w7 _ hHeld9.1 f7) (by kernel_rfl) ?_
  simp only [Act.put]
  have hO8 := only_setCell w7 q 2 (.slice (some ⟨g7, 0, none⟩) (Ll.length + 1) cap7)
  have hR8 := hR7.setV 2 (.slice (some ⟨g7, 0, none⟩) (Ll.length + 1) cap7)
  have hl8 : ∀ k, (Value.slice (some ⟨g7, 0, none⟩) (Ll.length + 1) cap7).ownBlock = some k → vL.ownBlock = some k ∨ w.heap.size ≤ k := fun k hk => by
    have hk' : g7 = k := by simpa [Value.ownBlock] using hk
    subst hk'
    rcases hl7 with h1 | h1
    · exact .inl h1
    · have h2 : g7 = w.heap.size + 1 := h1
      exact .inr (by omega)
  have hown8 := own_kept hown7 (fun g hg => hO8.block g (hown7.lt g hg).2 (fun e => by obtain ⟨cur, hcur⟩ := own_block hown7 hg; exact cells_ne hcur hR7 (by decide) e))
  have hOw := (hO7.mono (G := fun k => k = q ∨ vL.ownBlock = some k) (fun _ h => .inr h)).trans hO8 (fun _ _ h => .inl h)
  have hfin := h.addL (r := r) hOw hR8 hown8 hl8 (fun e => by rw [hr] at e; cases e) (fun j => by rw [hr]; exact Nat.zero_lt_succ _)
  rw [show addD s r.e = syncD s (m : Nat) by rw [hr]; rfl] at hfin
  obtain ⟨w8, hw8⟩ : ∃ w8, w8 = w7.setCell ⟨q, 2, none⟩ (.slice (some ⟨g7, 0, none⟩) (Ll.length + 1) cap7) := ⟨_, rfl⟩
  rw [← hw8] at hfin hOw ⊢
  have hrs : r.e.sync = true := by rw [hr]
  clear hw8 hr
  go_wp2
  go_ret
  exact ⟨rfl, r, _, hOw, hl8, hrs, hfin⟩
end Go.Proofs.Ytalcalecmklcoaa

/- The reference's Tamper, Write. -/
namespace Go.Proofs.Ytalcalecmklcoaa
open Go.ChangeShapes Go.WideShapes Go.ChangeAt Go.RowKit
set_option linter.unusedVariables false

variable {w w' : World} {q m : Nat} {s : DS} {Fl Ll : List RW} {sp : List Nat} {vF vL vS : Value}

/-- Bytes are no int's cell. -/
theorem Bytes.setI {a : Option Addr} {L : Nat} {f : Nat → Nat} (h : Bytes w a L f) {x : Addr} {m : Nat} (hx : w.cell? x = some (.int .i64 (m : Nat))) (v : Value) : Bytes (w.setCell x v) a L f := by
  rcases h with h | ⟨b, off, rfl, hlt, hc⟩
  · exact .inl h
  · refine .inr ⟨b, off, rfl, by simpa [World.setCell] using hlt, fun j hj => ?_⟩
    have hne : x ≠ ⟨b, off + j, none⟩ := fun e => by rw [e, hc j hj] at hx; cases hx
    have h1 : (w.setCell x v).cell? ⟨b, off + j, none⟩ = w.cell? ⟨b, off + j, none⟩ := by apply World.cell?_setCell_other; exact hne
    rw [h1]
    exact hc j hj

/-- What one more write leaves. -/
structure AddPost (w w' : World) (q : Nat) (s : DS) (m : Nat) (Fl Ll : List RW) (sp : List Nat) (vF vL vS : Value) (r : RW) (vL' : Value) : Prop where
  only : Only (fun k => k = q ∨ vL.ownBlock = some k) w w'
  grew : ∀ k, vL'.ownBlock = some k → vL.ownBlock = some k ∨ w.heap.size ≤ k
  new : w.heap.size ≤ r.g
  nsy : r.e.sync = false
  rep : RefAt w' q (addD s r.e) (m + 1) Fl (Ll ++ [r]) sp vF vL' vS

set_option maxRecDepth 100000 in
set_option maxHeartbeats 4000000 in
theorem tamperR (h : RefAt w q s m Fl Ll sp vF vL vS) (I : Nat) (a : Option Addr) (L C : Nat) (b : Nat → Nat) (hb : Bytes w a L b) (hbyt : ∀ j, b j < 256) (hm : m ≤ 100000) (hlen : Ll.length ≤ 100000) (h0 : wrErr s (I : Nat) L = 0) :
    Calls Try.prog 19 #[ptr q, .int .i64 (I : Nat), .slice a L C] w fun e w' => e = .returned (.tuple #[]) ∧ ∃ r vL', AddPost w w' q s m Fl Ll sp vF vL vS r vL' ∧ r.e = ⟨I, full b L, false, true, ((m + 1 : Nat) : Int)⟩ := by
  obtain ⟨hd, hi0, hi1, hL⟩ := wr_inside s (I : Nat) L h0
  have hh := hasR h (I : Int)
  rw [decide_eq_true ⟨hi0, hi1⟩] at hh
  have h4 : w.cell? ⟨q, 4, none⟩ = some (.bool s.dead) := h.cell 4
  rw [hd] at h4
  have h5 : w.cell? ⟨q, 5, none⟩ = some (.int .i64 (m : Nat)) := h.cell 5
  have h5f := h.has.free 5
  obtain ⟨m1, hm1⟩ : ∃ m1, m1 = m + 1 := ⟨_, rfl⟩
  have hO1 := only_setCell w q 5 (.int .i64 (m1 : Nat))
  have hR1 : RefAt (w.setCell ⟨q, 5, none⟩ (.int .i64 (m1 : Nat))) q s m1 Fl Ll sp vF vL vS := h.turnQ hO1 (h.has.setV 5 _) rfl rfl rfl rfl
  have hby1 := hb.setI h5 (.int .i64 (m1 : Nat))
  have hLi : (L : Int) ≤ 64 := by omega
  have hLi2 : L ≤ 64 := hL
  have HR1 : Hid (RefAt (w.setCell ⟨q, 5, none⟩ (.int .i64 (m1 : Nat))) q s m1 Fl Ll sp vF vL vS) := hR1
  have hqlt := h.has.lt
  clear h hR1
  go_enter Try.func19, Try.ntmps19
  go_wp2_with (first
    | ((go_at_call 42)
       (refine hh.mono ?_)
       (rintro e w' ⟨rfl, hw'⟩; obtain rfl : w = w' := hw'.symm)))
  rw [show w.setCell ⟨q, 5, none⟩ (.int .i64 ((m : Int) + 1)) = w.setCell ⟨q, 5, none⟩ (.int .i64 (m1 : Nat)) by rw [hm1]; simp]
  obtain ⟨w1, hw1⟩ : ∃ w1, w1 = w.setCell ⟨q, 5, none⟩ (.int .i64 (m1 : Nat)) := ⟨_, rfl⟩
  rw [← hw1] at hO1 hby1 HR1 ⊢
  have h := HR1.out
  have p2 : w1.cell? ⟨q, 2, none⟩ = some vL := h.cell 2
  have p5 : w1.cell? ⟨q, 5, none⟩ = some (.int .i64 (m1 : Nat)) := h.cell 5
  have hDr : Below w1.heap.size w1 w1.drew := (Below.refl _ w1).drew
  have hfu := full_any b L C a w1.drew (by unfold maxLen; omega) (hby1.below hDr (Nat.le_refl _))
  refine lastTo (S := fun wz => wz.cell? ⟨q, 2, none⟩ = some vL ∧ wz.cell? ⟨q, 5, none⟩ = some (.int .i64 (m1 : Nat))) 17 (by kernel_rfl) ⟨p2, p5⟩ (fun hHeld => ?_)
  refine takeL 0 (some 30) (ptr q) rfl rfl (by decide) (by kernel_rfl) (by kernel_rfl) (by kernel_rfl) (by kernel_rfl) (fun _ _ _ h => h) (by rfl) (fun _ _ => rfl) hHeld ?_
  simp only [Act.put, List.setIfInBounds_toArray, List.set_cons_zero, List.set_cons_succ]
  refine takeL 1 (some 31) (ptr q) rfl rfl (by decide) (by kernel_rfl) (by kernel_rfl) (by kernel_rfl) (by kernel_rfl) (fun _ _ _ h => h) (by rfl) (fun _ _ => rfl) hHeld ?_
  simp only [Act.put, List.setIfInBounds_toArray, List.set_cons_zero, List.set_cons_succ]
  refine takeL 2 (some 32) (.pointer (some ⟨q, 0, none⟩)) rfl rfl (by decide) (by kernel_rfl) (by kernel_rfl) (by kernel_rfl) (by kernel_rfl) (fun _ _ _ h => h) (by rfl) (fun _ _ => rfl) hHeld ?_
  simp only [Act.put, List.setIfInBounds_toArray, List.set_cons_zero, List.set_cons_succ]
  refine takeL 3 (some 33) (.pointer (some ⟨q, 2, none⟩)) rfl rfl (by decide) (by kernel_rfl) (by kernel_rfl) (by kernel_rfl) (by kernel_rfl) (fun _ _ _ h => h) (by rfl) (fun _ _ => rfl) hHeld ?_
  simp only [Act.put, List.setIfInBounds_toArray, List.set_cons_zero, List.set_cons_succ]
  refine takeL 4 (some 34) (vL) rfl rfl (by decide) (by kernel_rfl) (by kernel_rfl) (by kernel_rfl) (by kernel_rfl) (fun _ _ _ h => h) (by rfl) (fun wz hz => run_load_rs _ rfl _ rfl _ wz hz.1) hHeld ?_
  simp only [Act.put, List.setIfInBounds_toArray, List.set_cons_zero, List.set_cons_succ]
  refine takeL 5 (some 35) (.int .i64 (I : Nat)) rfl rfl (by decide) (by kernel_rfl) (by kernel_rfl) (by kernel_rfl) (by kernel_rfl) (fun _ _ _ h => h) (by rfl) (fun _ _ => rfl) hHeld ?_
  simp only [Act.put, List.setIfInBounds_toArray, List.set_cons_zero, List.set_cons_succ]
  refine takeL 6 (some 36) (.slice a L C) rfl rfl (by decide) (by kernel_rfl) (by kernel_rfl) (by kernel_rfl) (by kernel_rfl) (fun _ _ _ h => h) (by rfl) (fun _ _ => rfl) hHeld ?_
  simp only [Act.put, List.setIfInBounds_toArray, List.set_cons_zero, List.set_cons_succ]
  refine takeL 8 (some 38) (ptr q) rfl rfl (by decide) (by kernel_rfl) (by kernel_rfl) (by kernel_rfl) (by kernel_rfl) (fun _ _ _ h => h) (by rfl) (fun _ _ => rfl) hHeld ?_
  simp only [Act.put, List.setIfInBounds_toArray, List.set_cons_zero, List.set_cons_succ]
  refine takeL 9 (some 39) (.pointer (some ⟨q, 0, none⟩)) rfl rfl (by decide) (by kernel_rfl) (by kernel_rfl) (by kernel_rfl) (by kernel_rfl) (fun _ _ _ h => h) (by rfl) (fun _ _ => rfl) hHeld ?_
  simp only [Act.put, List.setIfInBounds_toArray, List.set_cons_zero, List.set_cons_succ]
  refine takeL 10 (some 40) (.pointer (some ⟨q, 5, none⟩)) rfl rfl (by decide) (by kernel_rfl) (by kernel_rfl) (by kernel_rfl) (by kernel_rfl) (fun _ _ _ h => h) (by rfl) (fun _ _ => rfl) hHeld ?_
  simp only [Act.put, List.setIfInBounds_toArray, List.set_cons_zero, List.set_cons_succ]
  refine takeL 11 (some 41) (.int .i64 (m1 : Nat)) rfl rfl (by decide) (by kernel_rfl) (by kernel_rfl) (by kernel_rfl) (by kernel_rfl) (fun _ _ _ h => h) (by rfl) (fun wz hz => run_load_n _ rfl _ rfl _ wz hz.2) hHeld ?_
  simp only [Act.put, List.setIfInBounds_toArray, List.set_cons_zero, List.set_cons_succ]
  refine callL 7 (some 37) 32 #[.slice a L C] (by kernel_rfl) rfl rfl (by rfl) (by kernel_rfl) hfu ?_
  rintro e6 w6 ⟨rfl, hs6, hb6⟩
  have hb16 : Below w1.heap.size w1 w6 := hDr.trans hb6
  have hR6 := h.below hb16
  obtain ⟨g, hg⟩ : ∃ g, g = w1.heap.size := ⟨_, rfl⟩
  rw [show w1.drew.heap.size = g from hg.symm] at hs6 ⊢
  obtain ⟨r, hr⟩ : ∃ r : RW, r = ⟨⟨I, full b L, false, true, (m1 : Nat)⟩, g⟩ := ⟨_, rfl⟩
  obtain ⟨g7, cap7, w7, hr7, hown7, hgr7, hl7⟩ := app_r r hR6.lr (Nat.zero_le _) hlen 29
  have hO7 := only_app hgr7
  have held : ∀ wz, Only (fun k => vL.ownBlock = some k) w6 wz → wz.cell? ⟨q, 2, none⟩ = some vL ∧ wz.cell? ⟨q, 5, none⟩ = some (.int .i64 (m1 : Nat)) := fun wz hz =>
    ⟨(hz.cell hR6.has.lt hR6.lr_q).trans (hR6.cell 2), (hz.cell hR6.has.lt hR6.lr_q).trans (hR6.cell 5)⟩
  have hHeld6 := held w6 (Only.refl _ _)
  refine ⟨_, rfl, hHeld6, ?_⟩
  simp only [Act.put, List.setIfInBounds_toArray, List.set_cons_zero, List.set_cons_succ]
  refine valL 12 (some 42) (.agg (rcell ⟨⟨I, full b L, false, true, (m1 : Nat)⟩, g⟩).toArray) w6 (by kernel_rfl) rfl rfl (by rfl) (by kernel_rfl) hHeld6 ?_
  simp only [Act.put, List.setIfInBounds_toArray, List.set_cons_zero, List.set_cons_succ]
  rw [← hr]
  have hHeld8 := held (w6.alloc (.cells (rcell r).toArray 78)) (Only.of_below ((Below.refl _ w6).alloc (Nat.le_refl _) _) (Nat.le_refl _))
  refine valL 13 (some 43) (.slice (some ⟨w6.heap.size, 0, none⟩) 1 1) (w6.alloc (.cells (rcell r).toArray 78)) (by kernel_rfl) rfl rfl (by rfl) (run_bs_r _ rfl r rfl w6) hHeld8 ?_
  simp only [Act.put, List.setIfInBounds_toArray, List.set_cons_zero, List.set_cons_succ]
  have hHeld9 := held w7 hO7
  refine valL 14 (some 44) (.slice (some ⟨g7, 0, none⟩) (Ll.length + 1) cap7) w7 (by kernel_rfl) rfl rfl (by rfl) (run_app 29 _ _ rfl vL (.slice (some ⟨w6.heap.size, 0, none⟩) 1 1) rfl rfl _ 29 rfl hr7) hHeld9 ?_
  simp only [Act.put, List.setIfInBounds_toArray, List.set_cons_zero, List.set_cons_succ]
  refine valL 15 (some 45) (.pointer (some ⟨q, 0, none⟩)) w7 (by kernel_rfl) rfl rfl (by rfl) (by kernel_rfl) hHeld9 ?_
  simp only [Act.put, List.setIfInBounds_toArray, List.set_cons_zero, List.set_cons_succ]
  refine valL 16 (some 46) (.pointer (some ⟨q, 2, none⟩)) w7 (by kernel_rfl) rfl rfl (by rfl) (by kernel_rfl) hHeld9 ?_
  simp only [Act.put, List.setIfInBounds_toArray, List.set_cons_zero, List.set_cons_succ]
  have hR7 : Has w7 q 32 (rdcells s.n vF vL vS s.dead m1) := (hO7.block q hR6.has.lt hR6.lr_q).trans hR6.has
  have f7 := hR7.free 2
  refine lastSkip 17 none (w7.setCell ⟨q, 2, none⟩ (.slice (some ⟨g7, 0, none⟩) (Ll.length + 1) cap7)) (by kernel_rfl) rfl rfl (by rfl) (run_store_rs _ _ rfl ⟨q, 2, none⟩ rfl _ _ _ rfl w7 _ hHeld9.1 f7) (by kernel_rfl) ?_
  simp only [Act.put]
  have hO8 := only_setCell w7 q 2 (.slice (some ⟨g7, 0, none⟩) (Ll.length + 1) cap7)
  have hR8 := hR7.setV 2 (.slice (some ⟨g7, 0, none⟩) (Ll.length + 1) cap7)
  have hsz1 : w.heap.size ≤ w1.heap.size := hO1.size
  have hl8 : ∀ k, (Value.slice (some ⟨g7, 0, none⟩) (Ll.length + 1) cap7).ownBlock = some k → vL.ownBlock = some k ∨ w6.heap.size ≤ k := fun k hk => by
    have hk' : g7 = k := by simpa [Value.ownBlock] using hk
    subst hk'
    rcases hl7 with h1 | h1
    · exact .inl h1
    · exact .inr (by omega)
  have hown8 := own_kept hown7 (fun g hg => hO8.block g (hown7.lt g hg).2 (fun e => by obtain ⟨cur, hcur⟩ := own_block hown7 hg; exact cells_ne hcur hR7 (by decide) e))
  have hO68 := (hO7.mono (G := fun k => k = q ∨ vL.ownBlock = some k) (fun _ h => .inr h)).trans hO8 (fun _ _ h => .inl h)
  have hs8 : Has (w7.setCell ⟨q, 2, none⟩ (.slice (some ⟨g7, 0, none⟩) (Ll.length + 1) cap7)) g 5 (cellsN .u8 64 (full b L)) := (hO68.block g hs6.lt (fun e => e.elim (hR6.by_rows hs6).1 (hR6.by_rows hs6).2.2.1)).trans hs6
  have hfin := hR6.addL (r := r) hO68 hR8 hown8 hl8 (fun _ => by rw [hr]; exact hs8) (fun j => by rw [hr]; exact full_lt b L hbyt j)
  have hOw : Only (fun k => k = q ∨ vL.ownBlock = some k) w (w7.setCell ⟨q, 2, none⟩ (.slice (some ⟨g7, 0, none⟩) (Ll.length + 1) cap7)) :=
    ((hO1.mono (G := fun k => k = q ∨ vL.ownBlock = some k) (fun _ h => .inl h)).trans (Only.of_below (F := fun k => k = q ∨ vL.ownBlock = some k) hb16 (Nat.le_refl _)) (fun _ _ h => h)).trans hO68 (fun _ _ h => h)
  obtain ⟨w8, hw8⟩ : ∃ w8, w8 = w7.setCell ⟨q, 2, none⟩ (.slice (some ⟨g7, 0, none⟩) (Ll.length + 1) cap7) := ⟨_, rfl⟩
  rw [← hw8] at hfin hOw ⊢
  have hre : r.e = ⟨I, full b L, false, true, ((m1 : Nat) : Int)⟩ := by rw [hr]
  have hrg : r.g = g := by rw [hr]
  have hpost : AddPost w w8 q s m Fl Ll sp vF vL vS r (.slice (some ⟨g7, 0, none⟩) (Ll.length + 1) cap7) := by
    refine ⟨hOw, fun k hk => (hl8 k hk).imp id (fun h1 => Nat.le_trans (Nat.le_trans hsz1 hb16.size) h1), by rw [hrg]; omega, by rw [hre], ?_⟩
    rw [← hm1]
    exact hfin
  have hre' : r.e = ⟨I, full b L, false, true, ((m + 1 : Nat) : Int)⟩ := by rw [hre, hm1]
  clear hw8 hr hfin hre
  go_wp2
  go_end0
  exact ⟨rfl, r, _, hpost, hre'⟩

set_option maxRecDepth 100000 in
set_option maxHeartbeats 4000000 in
theorem writeR (h : RefAt w q s m Fl Ll sp vF vL vS) (I : Nat) (a : Option Addr) (L C : Nat) (b : Nat → Nat) (hb : Bytes w a L b) (hbyt : ∀ j, b j < 256) (hm : m ≤ 100000) (hlen : Ll.length ≤ 100000) (hsp : sp.length ≤ 100000) (h0 : wrErr s (I : Nat) L = 0) :
    Calls Try.prog 12 #[ptr q, .int .i64 (I : Nat), .slice a L C] w fun e w' => e = .returned (.int .i64 0) ∧ ∃ r vL' vS', Only (fun k => k = q ∨ vL.ownBlock = some k) w w' ∧ (∀ k, vL'.ownBlock = some k → vL.ownBlock = some k ∨ w.heap.size ≤ k) ∧ (∀ k, vS'.ownBlock = some k → w.heap.size ≤ k) ∧ w.heap.size ≤ r.g ∧ r.e.sync = false ∧ RefAt w' q (wroteD s I (full b L) ((m + 1 : Nat) : Int)) (m + 1) Fl (Ll ++ [r]) (sp.filter (fun x => x != I)) vF vL' vS' := by
  obtain ⟨hd, hi0, hi1, hL⟩ := wr_inside s (I : Nat) L h0
  have hh := hasR h (I : Int)
  rw [decide_eq_true ⟨hi0, hi1⟩] at hh
  have h4 : w.cell? ⟨q, 4, none⟩ = some (.bool s.dead) := h.cell 4
  rw [hd] at h4
  have h5 : w.cell? ⟨q, 5, none⟩ = some (.int .i64 (m : Nat)) := h.cell 5
  have h5f := h.has.free 5
  obtain ⟨m1, hm1⟩ : ∃ m1, m1 = m + 1 := ⟨_, rfl⟩
  have hO1 := only_setCell w q 5 (.int .i64 (m1 : Nat))
  have hR1 : RefAt (w.setCell ⟨q, 5, none⟩ (.int .i64 (m1 : Nat))) q s m1 Fl Ll sp vF vL vS := h.turnQ hO1 (h.has.setV 5 _) rfl rfl rfl rfl
  have hby1 := hb.setI h5 (.int .i64 (m1 : Nat))
  have hLi : ¬ (64 : Int) < (L : Int) := by omega
  have hLi2 : L ≤ 64 := hL
  have HR1 : Hid (RefAt (w.setCell ⟨q, 5, none⟩ (.int .i64 (m1 : Nat))) q s m1 Fl Ll sp vF vL vS) := hR1
  have hqlt := h.has.lt
  clear h hR1
  go_enter Try.func12, Try.ntmps12
  go_wp2_with (first
    | ((go_at_call 42)
       (refine hh.mono ?_)
       (rintro e w' ⟨rfl, hw'⟩; obtain rfl : w = w' := hw'.symm)))
  rw [show w.setCell ⟨q, 5, none⟩ (.int .i64 ((m : Int) + 1)) = w.setCell ⟨q, 5, none⟩ (.int .i64 (m1 : Nat)) by rw [hm1]; simp]
  obtain ⟨w1, hw1⟩ : ∃ w1, w1 = w.setCell ⟨q, 5, none⟩ (.int .i64 (m1 : Nat)) := ⟨_, rfl⟩
  rw [← hw1] at hO1 hby1 HR1 ⊢
  have h := HR1.out
  have p2 : w1.cell? ⟨q, 2, none⟩ = some vL := h.cell 2
  have p5 : w1.cell? ⟨q, 5, none⟩ = some (.int .i64 (m1 : Nat)) := h.cell 5
  have hDr : Below w1.heap.size w1 w1.drew := (Below.refl _ w1).drew
  have hfu := full_any b L C a w1.drew (by unfold maxLen; omega) (hby1.below hDr (Nat.le_refl _))
  refine lastTo (S := fun wz => wz.cell? ⟨q, 2, none⟩ = some vL ∧ wz.cell? ⟨q, 5, none⟩ = some (.int .i64 (m1 : Nat))) 17 (by kernel_rfl) ⟨p2, p5⟩ (fun hHeld => ?_)
  refine takeL 0 (some 30) (ptr q) rfl rfl (by decide) (by kernel_rfl) (by kernel_rfl) (by kernel_rfl) (by kernel_rfl) (fun _ _ _ h => h) (by rfl) (fun _ _ => rfl) hHeld ?_
  simp only [Act.put, List.setIfInBounds_toArray, List.set_cons_zero, List.set_cons_succ]
  refine takeL 1 (some 31) (ptr q) rfl rfl (by decide) (by kernel_rfl) (by kernel_rfl) (by kernel_rfl) (by kernel_rfl) (fun _ _ _ h => h) (by rfl) (fun _ _ => rfl) hHeld ?_
  simp only [Act.put, List.setIfInBounds_toArray, List.set_cons_zero, List.set_cons_succ]
  refine takeL 2 (some 32) (.pointer (some ⟨q, 0, none⟩)) rfl rfl (by decide) (by kernel_rfl) (by kernel_rfl) (by kernel_rfl) (by kernel_rfl) (fun _ _ _ h => h) (by rfl) (fun _ _ => rfl) hHeld ?_
  simp only [Act.put, List.setIfInBounds_toArray, List.set_cons_zero, List.set_cons_succ]
  refine takeL 3 (some 33) (.pointer (some ⟨q, 2, none⟩)) rfl rfl (by decide) (by kernel_rfl) (by kernel_rfl) (by kernel_rfl) (by kernel_rfl) (fun _ _ _ h => h) (by rfl) (fun _ _ => rfl) hHeld ?_
  simp only [Act.put, List.setIfInBounds_toArray, List.set_cons_zero, List.set_cons_succ]
  refine takeL 4 (some 34) (vL) rfl rfl (by decide) (by kernel_rfl) (by kernel_rfl) (by kernel_rfl) (by kernel_rfl) (fun _ _ _ h => h) (by rfl) (fun wz hz => run_load_rs _ rfl _ rfl _ wz hz.1) hHeld ?_
  simp only [Act.put, List.setIfInBounds_toArray, List.set_cons_zero, List.set_cons_succ]
  refine takeL 5 (some 35) (.int .i64 (I : Nat)) rfl rfl (by decide) (by kernel_rfl) (by kernel_rfl) (by kernel_rfl) (by kernel_rfl) (fun _ _ _ h => h) (by rfl) (fun _ _ => rfl) hHeld ?_
  simp only [Act.put, List.setIfInBounds_toArray, List.set_cons_zero, List.set_cons_succ]
  refine takeL 6 (some 36) (.slice a L C) rfl rfl (by decide) (by kernel_rfl) (by kernel_rfl) (by kernel_rfl) (by kernel_rfl) (fun _ _ _ h => h) (by rfl) (fun _ _ => rfl) hHeld ?_
  simp only [Act.put, List.setIfInBounds_toArray, List.set_cons_zero, List.set_cons_succ]
  refine takeL 8 (some 38) (ptr q) rfl rfl (by decide) (by kernel_rfl) (by kernel_rfl) (by kernel_rfl) (by kernel_rfl) (fun _ _ _ h => h) (by rfl) (fun _ _ => rfl) hHeld ?_
  simp only [Act.put, List.setIfInBounds_toArray, List.set_cons_zero, List.set_cons_succ]
  refine takeL 9 (some 39) (.pointer (some ⟨q, 0, none⟩)) rfl rfl (by decide) (by kernel_rfl) (by kernel_rfl) (by kernel_rfl) (by kernel_rfl) (fun _ _ _ h => h) (by rfl) (fun _ _ => rfl) hHeld ?_
  simp only [Act.put, List.setIfInBounds_toArray, List.set_cons_zero, List.set_cons_succ]
  refine takeL 10 (some 40) (.pointer (some ⟨q, 5, none⟩)) rfl rfl (by decide) (by kernel_rfl) (by kernel_rfl) (by kernel_rfl) (by kernel_rfl) (fun _ _ _ h => h) (by rfl) (fun _ _ => rfl) hHeld ?_
  simp only [Act.put, List.setIfInBounds_toArray, List.set_cons_zero, List.set_cons_succ]
  refine takeL 11 (some 41) (.int .i64 (m1 : Nat)) rfl rfl (by decide) (by kernel_rfl) (by kernel_rfl) (by kernel_rfl) (by kernel_rfl) (fun _ _ _ h => h) (by rfl) (fun wz hz => run_load_n _ rfl _ rfl _ wz hz.2) hHeld ?_
  simp only [Act.put, List.setIfInBounds_toArray, List.set_cons_zero, List.set_cons_succ]
  refine callL 7 (some 37) 32 #[.slice a L C] (by kernel_rfl) rfl rfl (by rfl) (by kernel_rfl) hfu ?_
  rintro e6 w6 ⟨rfl, hs6, hb6⟩
  have hb16 : Below w1.heap.size w1 w6 := hDr.trans hb6
  have hR6 := h.below hb16
  obtain ⟨g, hg⟩ : ∃ g, g = w1.heap.size := ⟨_, rfl⟩
  rw [show w1.drew.heap.size = g from hg.symm] at hs6 ⊢
  obtain ⟨r, hr⟩ : ∃ r : RW, r = ⟨⟨I, full b L, false, false, (m1 : Nat)⟩, g⟩ := ⟨_, rfl⟩
  obtain ⟨g7, cap7, w7, hr7, hown7, hgr7, hl7⟩ := app_r r hR6.lr (Nat.zero_le _) hlen 29
  have hO7 := only_app hgr7
  have held : ∀ wz, Only (fun k => vL.ownBlock = some k) w6 wz → wz.cell? ⟨q, 2, none⟩ = some vL ∧ wz.cell? ⟨q, 5, none⟩ = some (.int .i64 (m1 : Nat)) := fun wz hz =>
    ⟨(hz.cell hR6.has.lt hR6.lr_q).trans (hR6.cell 2), (hz.cell hR6.has.lt hR6.lr_q).trans (hR6.cell 5)⟩
  have hHeld6 := held w6 (Only.refl _ _)
  refine ⟨_, rfl, hHeld6, ?_⟩
  simp only [Act.put, List.setIfInBounds_toArray, List.set_cons_zero, List.set_cons_succ]
  refine valL 12 (some 42) (.agg (rcell ⟨⟨I, full b L, false, false, (m1 : Nat)⟩, g⟩).toArray) w6 (by kernel_rfl) rfl rfl (by rfl) (by kernel_rfl) hHeld6 ?_
  simp only [Act.put, List.setIfInBounds_toArray, List.set_cons_zero, List.set_cons_succ]
  rw [← hr]
  have hHeld8 := held (w6.alloc (.cells (rcell r).toArray 78)) (Only.of_below ((Below.refl _ w6).alloc (Nat.le_refl _) _) (Nat.le_refl _))
  refine valL 13 (some 43) (.slice (some ⟨w6.heap.size, 0, none⟩) 1 1) (w6.alloc (.cells (rcell r).toArray 78)) (by kernel_rfl) rfl rfl (by rfl) (run_bs_r _ rfl r rfl w6) hHeld8 ?_
  simp only [Act.put, List.setIfInBounds_toArray, List.set_cons_zero, List.set_cons_succ]
  have hHeld9 := held w7 hO7
  refine valL 14 (some 44) (.slice (some ⟨g7, 0, none⟩) (Ll.length + 1) cap7) w7 (by kernel_rfl) rfl rfl (by rfl) (run_app 29 _ _ rfl vL (.slice (some ⟨w6.heap.size, 0, none⟩) 1 1) rfl rfl _ 29 rfl hr7) hHeld9 ?_
  simp only [Act.put, List.setIfInBounds_toArray, List.set_cons_zero, List.set_cons_succ]
  refine valL 15 (some 45) (.pointer (some ⟨q, 0, none⟩)) w7 (by kernel_rfl) rfl rfl (by rfl) (by kernel_rfl) hHeld9 ?_
  simp only [Act.put, List.setIfInBounds_toArray, List.set_cons_zero, List.set_cons_succ]
  refine valL 16 (some 46) (.pointer (some ⟨q, 2, none⟩)) w7 (by kernel_rfl) rfl rfl (by rfl) (by kernel_rfl) hHeld9 ?_
  simp only [Act.put, List.setIfInBounds_toArray, List.set_cons_zero, List.set_cons_succ]
  have hR7 : Has w7 q 32 (rdcells s.n vF vL vS s.dead m1) := (hO7.block q hR6.has.lt hR6.lr_q).trans hR6.has
  have f7 := hR7.free 2
  refine lastSkip 17 none (w7.setCell ⟨q, 2, none⟩ (.slice (some ⟨g7, 0, none⟩) (Ll.length + 1) cap7)) (by kernel_rfl) rfl rfl (by rfl) (run_store_rs _ _ rfl ⟨q, 2, none⟩ rfl _ _ _ rfl w7 _ hHeld9.1 f7) (by kernel_rfl) ?_
  simp only [Act.put]
  have hO8 := only_setCell w7 q 2 (.slice (some ⟨g7, 0, none⟩) (Ll.length + 1) cap7)
  have hR8 := hR7.setV 2 (.slice (some ⟨g7, 0, none⟩) (Ll.length + 1) cap7)
  have hsz1 : w.heap.size ≤ w1.heap.size := hO1.size
  have hl8 : ∀ k, (Value.slice (some ⟨g7, 0, none⟩) (Ll.length + 1) cap7).ownBlock = some k → vL.ownBlock = some k ∨ w6.heap.size ≤ k := fun k hk => by
    have hk' : g7 = k := by simpa [Value.ownBlock] using hk
    subst hk'
    rcases hl7 with h1 | h1
    · exact .inl h1
    · exact .inr (by omega)
  have hown8 := own_kept hown7 (fun g hg => hO8.block g (hown7.lt g hg).2 (fun e => by obtain ⟨cur, hcur⟩ := own_block hown7 hg; exact cells_ne hcur hR7 (by decide) e))
  have hO68 := (hO7.mono (G := fun k => k = q ∨ vL.ownBlock = some k) (fun _ h => .inr h)).trans hO8 (fun _ _ h => .inl h)
  have hs8 : Has (w7.setCell ⟨q, 2, none⟩ (.slice (some ⟨g7, 0, none⟩) (Ll.length + 1) cap7)) g 5 (cellsN .u8 64 (full b L)) := (hO68.block g hs6.lt (fun e => e.elim (hR6.by_rows hs6).1 (hR6.by_rows hs6).2.2.1)).trans hs6
  have hfin := hR6.addL (r := r) hO68 hR8 hown8 hl8 (fun _ => by rw [hr]; exact hs8) (fun j => by rw [hr]; exact full_lt b L hbyt j)
  have hOw : Only (fun k => k = q ∨ vL.ownBlock = some k) w (w7.setCell ⟨q, 2, none⟩ (.slice (some ⟨g7, 0, none⟩) (Ll.length + 1) cap7)) :=
    ((hO1.mono (G := fun k => k = q ∨ vL.ownBlock = some k) (fun _ h => .inl h)).trans (Only.of_below (F := fun k => k = q ∨ vL.ownBlock = some k) hb16 (Nat.le_refl _)) (fun _ _ h => h)).trans hO68 (fun _ _ h => h)
  obtain ⟨w8, hw8⟩ : ∃ w8, w8 = w7.setCell ⟨q, 2, none⟩ (.slice (some ⟨g7, 0, none⟩) (Ll.length + 1) cap7) := ⟨_, rfl⟩
  rw [← hw8] at hfin hOw ⊢
  have hre : r.e = ⟨I, full b L, false, false, ((m1 : Nat) : Int)⟩ := by rw [hr]
  have hrg : r.g = g := by rw [hr]
  have hpost : AddPost w w8 q s m Fl Ll sp vF vL vS r (.slice (some ⟨g7, 0, none⟩) (Ll.length + 1) cap7) := by
    refine ⟨hOw, fun k hk => (hl8 k hk).imp id (fun h1 => Nat.le_trans (Nat.le_trans hsz1 hb16.size) h1), by rw [hrg]; omega, by rw [hre], ?_⟩
    rw [← hm1]
    exact hfin
  have hre' : r.e = ⟨I, full b L, false, false, ((m + 1 : Nat) : Int)⟩ := by rw [hre, hm1]
  clear hw8 hr hfin hre
  obtain ⟨vL7, hvL7⟩ : ∃ vL7 : Value, vL7 = .slice (some ⟨g7, 0, none⟩) (Ll.length + 1) cap7 := ⟨_, rfl⟩
  rw [← hvL7] at hpost
  have hhl := healR hpost.rep I hsp
  clear hvL7
  go_wp2_with (first
    | ((go_at_call 43)
       (refine hhl.mono ?_)
       (rintro e w9 ⟨rfl, vS', ho9, hn9, hr9⟩)))
  go_ret
  refine ⟨rfl, r, vL7, vS', hpost.only.trans ho9 (fun x _ hx => .inl hx), hpost.grew, fun k hk => Nat.le_trans hpost.only.size (hn9 k hk), hpost.new, hpost.nsy, ?_⟩
  rw [show wroteD s I (full b L) ((m + 1 : Nat) : Int) = { addD s r.e with bad := fun k => if k = I then false else s.bad k } by rw [hre']; rfl]
  exact hr9

set_option maxRecDepth 100000 in
set_option maxHeartbeats 1000000 in
theorem writeNoR (h : RefAt w q s m Fl Ll sp vF vL vS) (i : Int) (a : Option Addr) (L C : Nat) (h0 : wrErr s i L ≠ 0) : Calls Try.prog 12 #[ptr q, .int .i64 i, .slice a L C] w fun e w' => e = .returned (.int .i64 (wrErr s i L)) ∧ w' = w := by
  have hh := hasR h i
  have h4 : w.cell? ⟨q, 4, none⟩ = some (.bool s.dead) := h.cell 4
  clear h
  cases hd : s.dead
  · rw [hd] at h4
    by_cases hin : 0 ≤ i ∧ i < s.n
    · rw [decide_eq_true hin] at hh
      have hL : 64 < L := Nat.lt_of_not_le (fun e => h0 (by unfold wrErr; rw [hd, if_neg (by simp), if_neg (by omega), if_neg (by omega)]))
      have hLi : (64 : Int) < (L : Int) := by omega
      have hw : wrErr s i L = 1 := by unfold wrErr; rw [hd, if_neg (by simp), if_neg (by omega), if_pos hL]
      rw [hw]
      clear h0 hw
      go_enter Try.func12, Try.ntmps12
      go_wp2_with (first
        | ((go_at_call 42)
           (refine hh.mono ?_)
           (rintro e w' ⟨rfl, hw'⟩; obtain rfl : w = w' := hw'.symm)))
      go_ret
      exact ⟨rfl, rfl⟩
    · rw [decide_eq_false hin] at hh
      have hw : wrErr s i L = 71 := by unfold wrErr; rw [hd, if_neg (by simp), if_pos (by omega)]
      rw [hw]
      clear h0 hw
      go_enter Try.func12, Try.ntmps12
      go_wp2_with (first
        | ((go_at_call 42)
           (refine hh.mono ?_)
           (rintro e w' ⟨rfl, hw'⟩; obtain rfl : w = w' := hw'.symm)))
      go_ret
      exact ⟨rfl, rfl⟩
  · rw [hd] at h4
    have hw : wrErr s i L = 73 := by unfold wrErr; rw [hd, if_pos rfl]
    rw [hw]
    clear h0 hw
    generalize decide (0 ≤ i ∧ i < (s.n : Int)) = A at hh
    go_enter Try.func12, Try.ntmps12
    go_wp2_with (first
      | ((go_at_call 42)
         (refine hh.mono ?_)
         (rintro e w' ⟨rfl, hw'⟩; obtain rfl : w = w' := hw'.symm)))
    go_ret
    exact ⟨rfl, rfl⟩

set_option maxRecDepth 100000 in
set_option maxHeartbeats 1000000 in
theorem tamperNoR (h : RefAt w q s m Fl Ll sp vF vL vS) (i : Int) (a : Option Addr) (L C : Nat) (h0 : wrErr s i L ≠ 0) : Calls Try.prog 19 #[ptr q, .int .i64 i, .slice a L C] w fun e w' => e = .returned (.tuple #[]) ∧ w' = w := by
  have hh := hasR h i
  have h4 : w.cell? ⟨q, 4, none⟩ = some (.bool s.dead) := h.cell 4
  clear h
  cases hd : s.dead
  · rw [hd] at h4
    by_cases hin : 0 ≤ i ∧ i < s.n
    · rw [decide_eq_true hin] at hh
      have hL : 64 < L := Nat.lt_of_not_le (fun e => h0 (by unfold wrErr; rw [hd, if_neg (by simp), if_neg (by omega), if_neg (by omega)]))
      have hLi : ¬ (L : Int) ≤ 64 := by omega
      clear h0
      go_enter Try.func19, Try.ntmps19
      go_wp2_with (first
        | ((go_at_call 42)
           (refine hh.mono ?_)
           (rintro e w' ⟨rfl, hw'⟩; obtain rfl : w = w' := hw'.symm)))
      go_end0
      exact ⟨rfl, rfl⟩
    · rw [decide_eq_false hin] at hh
      clear h0
      go_enter Try.func19, Try.ntmps19
      go_wp2_with (first
        | ((go_at_call 42)
           (refine hh.mono ?_)
           (rintro e w' ⟨rfl, hw'⟩; obtain rfl : w = w' := hw'.symm)))
      go_end0
      exact ⟨rfl, rfl⟩
  · rw [hd] at h4
    clear h0
    generalize decide (0 ≤ i ∧ i < (s.n : Int)) = A at hh
    go_enter Try.func19, Try.ntmps19
    go_wp2_with (first
      | ((go_at_call 42)
         (refine hh.mono ?_)
         (rintro e w' ⟨rfl, hw'⟩; obtain rfl : w = w' := hw'.symm)))
    go_end0
    exact ⟨rfl, rfl⟩
end Go.Proofs.Ytalcalecmklcoaa

/- The reference's Anew. -/
namespace Go.Proofs.Ytalcalecmklcoaa
open Go.ChangeShapes Go.WideShapes Go.ChangeAt Go.RowKit
set_option linter.unusedVariables false

variable {w w' : World} {q m : Nat} {s : DS} {Fl Ll : List RW} {sp : List Nat} {vF vL vS : Value}

def anewR (r : RW) : RW := ⟨anewE r.e, r.g⟩

theorem rcell_mo (r : RW) (v : Int) : (rcell r).set 4 (.int .i64 v) = rcell ⟨{ r.e with mo := v }, r.g⟩ := rfl

theorem anewR_f (r : RW) (h : r.e.sync = false) : anewR r = ⟨{ r.e with mo := 0 }, r.g⟩ := by
  obtain ⟨⟨i, b, sy, su, mo⟩, g⟩ := r
  simp only at h
  subst h
  rfl
theorem anewR_t (r : RW) (h : r.e.sync = true) : anewR r = ⟨{ r.e with mo := -1 }, r.g⟩ := by
  obtain ⟨⟨i, b, sy, su, mo⟩, g⟩ := r
  simp only at h
  subst h
  rfl

set_option maxRecDepth 100000 in
set_option maxHeartbeats 4000000 in
theorem anewRef (h : RefAt w q s m Fl Ll sp vF vL vS) (hlen : Ll.length ≤ 100000) :
    Calls Try.prog 24 #[ptr q] w fun e w' => e = .returned (.tuple #[]) ∧ Only (fun k => k = q ∨ vL.ownBlock = some k) w w' ∧ RefAt w' q (anewD s) 0 Fl (Ll.map anewR) sp vF vL vS := by
  have HR : Hid (RefAt w q s m Fl Ll sp vF vL vS) := h
  have h5 : w.cell? ⟨q, 5, none⟩ = some (.int .i64 (m : Nat)) := h.cell 5
  have h5f := h.has.free 5
  have hO1 := only_setCell w q 5 (.int .i64 0)
  have hH1 : Has (w.setCell ⟨q, 5, none⟩ (.int .i64 0)) q 32 (rdcells s.n vF vL vS s.dead 0) := h.has.setV 5 _
  have hW1 : (w.setCell ⟨q, 5, none⟩ (.int .i64 0)).ownsRow 0 78 5 vL Ll.length (Ll.flatMap rcell) := own_kept h.lr (fun g hg => hO1.block g (h.lr.lt g hg).2 (fun e => h.lr_q (e ▸ hg)))
  have hlq := h.lr_q
  obtain ⟨aL, cL, rfl, hnL, hsL⟩ := own_nil h.lr
  have k2 : (w.setCell ⟨q, 5, none⟩ (.int .i64 0)).cell? ⟨q, 2, none⟩ = some (.slice aL Ll.length cL) := hH1.cell 2
  clear h
  go_enter Try.func24, Try.ntmps24
  go_wp2
  obtain ⟨w1, hw1⟩ : ∃ w1, w1 = w.setCell ⟨q, 5, none⟩ (.int .i64 0) := ⟨_, rfl⟩
  rw [← hw1] at hO1 hH1 hW1 k2 ⊢
  clear hw1
  obtain ⟨n, hn⟩ : ∃ n, n = Ll.length := ⟨_, rfl⟩
  rw [← hn] at hW1 k2 hlen hnL hlq hH1
  have Hn : Hid (n = Ll.length) := hn
  rw [← hn] at HR
  clear hn
  go_loopw [2] (fun iv wr => ∃ k : Nat, k ≤ n ∧ iv = .int .i64 (k : Nat) ∧ wr.ownsRow 0 78 5 (.slice aL n cL) n ((upK anewR Ll k).flatMap rcell) ∧ Only (fun x => (Value.slice aL n cL).ownBlock = some x) w1 wr)
    (fun iv _ => n - (intOf iv).toNat)
  case atStart => exact ⟨0, Nat.zero_le _, rfl, by rw [upK_zero]; exact hW1, Only.refl _ _⟩
  case round =>
    obtain ⟨k, hk, rfl, hrow, hon⟩ := hrel
    have i1 : (0 : Int) ≤ (k : Int) := by omega
    have k2r : wr.cell? ⟨q, 2, none⟩ = some (.slice aL n cL) := (hon.cell (p := ⟨q, 2, none⟩) hH1.lt hlq).trans k2
    by_cases hlt : k < n
    · obtain ⟨r, hr⟩ : ∃ r, Ll[k]? = some r := ⟨_, List.getElem?_eq_getElem (by rw [← Hn.out]; exact hlt)⟩
      have hnn : ∃ g, aL = some ⟨g, 0, none⟩ := by
        cases aL with
        | none => have := hnL rfl; omega
        | some ad => obtain ⟨g, rfl⟩ := hsL ad rfl; exact ⟨g, rfl⟩
      obtain ⟨g, rfl⟩ := hnn
      obtain ⟨u1, u2⟩ := upK_at anewR Ll k r hr
      have hul := upK_len anewR Ll k (by rw [← Hn.out]; omega)
      have hat : ∀ j u, j < 5 → (rcell r)[j]? = some u → ((upK anewR Ll k).flatMap rcell)[k * 5 + j]? = some u := fun j u hj hu => by
        rw [u1, flat_at rcell 5 rcell_len _ k j r (by rw [List.getElem?_append_right (by omega), hul]; simp) hj]
        exact hu
      obtain ⟨c4, f4⟩ := own_cellAt hrow _ _ (hat 4 (.int .i64 r.e.mo) (by decide) rfl)
      obtain ⟨c2, _⟩ := own_cellAt hrow _ _ (hat 2 (.bool r.e.sync) (by decide) rfl)
      have hgq : g ≠ q := fun e => hlq (by rw [e]; rfl)
      have hrow2 := own_setAt hrow (j := k * 5 + 4) (by omega) (.int .i64 0)
      have hset := flat_set rcell 5 rcell_len ((Ll.take k).map anewR) r ⟨{ r.e with mo := 0 }, r.g⟩ (Ll.drop (k + 1)) 4 (by decide) (.int .i64 0) (rcell_mo r 0)
      rw [hul, ← u1] at hset
      rw [hset] at hrow2
      have hset2 := flat_set rcell 5 rcell_len ((Ll.take k).map anewR) ⟨{ r.e with mo := 0 }, r.g⟩ ⟨{ r.e with mo := -1 }, r.g⟩ (Ll.drop (k + 1)) 4 (by decide) (.int .i64 (-1)) (rcell_mo _ (-1))
      rw [hul] at hset2
      have hrow3 := own_setAt hrow2 (j := k * 5 + 4) (by omega) (.int .i64 (-1))
      rw [hset2] at hrow3
      have hne : (⟨g, k * 5 + 4, none⟩ : Addr) ≠ ⟨g, k * 5 + 2, none⟩ := fun e => by injection e with _ e; omega
      have c2' : (wr.setCell ⟨g, k * 5 + 4, none⟩ (.int .i64 0)).cell? ⟨g, k * 5 + 2, none⟩ = some (.bool r.e.sync) := by
        rw [show (wr.setCell ⟨g, k * 5 + 4, none⟩ (.int .i64 0)).cell? ⟨g, k * 5 + 2, none⟩ = wr.cell? ⟨g, k * 5 + 2, none⟩ by apply World.cell?_setCell_other; exact hne]
        exact c2
      have hO2 := only_setCell wr g (k * 5 + 4) (.int .i64 0)
      have hO3 := only_setCell (wr.setCell ⟨g, k * 5 + 4, none⟩ (.int .i64 0)) g (k * 5 + 4) (.int .i64 (-1))
      have k2r' : (wr.setCell ⟨g, k * 5 + 4, none⟩ (.int .i64 0)).cell? ⟨q, 2, none⟩ = some (.slice (some ⟨g, 0, none⟩) n cL) := (hO2.cell (p := ⟨q, 2, none⟩) (World.block_lt_of_cell? _ _ k2r) (Ne.symm hgq)).trans k2r
      have i0 : (k : Int) < (n : Int) := by omega
      clear hrow hset hset2 u1 hat
      cases hsy : r.e.sync
      · rw [hsy] at c2 c2'
        go_wp2
        go_roundw
        case rel =>
          refine ⟨k + 1, by omega, by go_num, ?_, hon.trans hO2 (fun x _ hx => by rw [hx]; rfl)⟩
          rw [u2, anewR_f r hsy]
          exact hrow2
        case measure => simp [intOf]; omega
      · rw [hsy] at c2 c2'
        have hc4' : (wr.setCell ⟨g, k * 5 + 4, none⟩ (.int .i64 0)).cell? ⟨g, k * 5 + 4, none⟩ = some (.int .i64 0) := by apply World.cell?_setCell_same; exact c4
        go_wp2
        go_roundw
        case rel =>
          refine ⟨k + 1, by omega, by go_num, ?_, (hon.trans hO2 (fun x _ hx => by rw [hx]; rfl)).trans hO3 (fun x _ hx => by rw [hx]; rfl)⟩
          rw [u2, anewR_t r hsy]
          exact hrow3
        case measure => simp [intOf]; omega
    · obtain rfl : k = n := by omega
      have h := HR.out
      rw [Hn.out, upK_all] at hrow
      have hAll : Only (fun x => x = q ∨ (Value.slice aL k cL).ownBlock = some x) w wr := (hO1.mono (G := fun x => x = q ∨ (Value.slice aL k cL).ownBlock = some x) (fun _ hx => .inl hx)).trans hon (fun x _ hx => .inr hx)
      go_wp2
      go_end0
      have hfin : RefAt wr q (anewD s) 0 Fl (Ll.map anewR) sp vF (.slice aL k cL) vS := by
        refine ⟨(hon.block q hH1.lt hlq).trans hH1, h.n1, own_kept h.fr (fun g hg => hAll.block g (h.fr.lt g hg).2 (fun e => e.elim (fun e => h.fr_q (e ▸ hg)) (fun e => h.apart g hg e))), ?_, own_kept h.sr (fun g hg => hAll.block g (h.sr.lt g hg).2 (fun e => e.elim (fun e => h.sr_q (e ▸ hg)) (fun e => h.sr_lr hg e))),
          fun r' hr' => ⟨(h.fb r' hr').1, (hAll.block r'.g (h.fb r' hr').2.lt (fun e => e.elim (h.by_rows (h.fb r' hr').2).1 (h.by_rows (h.fb r' hr').2).2.2.1)).trans (h.fb r' hr').2⟩, fun r' hr' hsy => ?_, ?_, h.fst, h.bad, h.apart, fun r' hr' => ?_⟩
        · rw [List.length_map, ← Hn.out]
          rw [← Hn.out] at hrow
          exact hrow
        · obtain ⟨r0, hr0, rfl⟩ := List.mem_map.1 hr'
          have hb := h.lb r0 hr0 hsy
          exact (hAll.block r0.g hb.lt (fun e => e.elim (h.by_rows hb).1 (h.by_rows hb).2.2.1)).trans hb
        · show (Ll.map anewR).map (·.e) = s.log.map anewE
          rw [← h.log, List.map_map, List.map_map]
          rfl
        · rcases List.mem_append.1 hr' with hr' | hr'
          · exact h.byt r' (List.mem_append_left _ hr')
          · obtain ⟨r0, hr0, rfl⟩ := List.mem_map.1 hr'
            exact h.byt r0 (List.mem_append_right _ hr0)
      rw [← Hn.out]
      exact ⟨rfl, hAll, hfin⟩
end Go.Proofs.Ytalcalecmklcoaa
