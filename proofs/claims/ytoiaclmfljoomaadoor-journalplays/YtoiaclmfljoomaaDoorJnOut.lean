/- What power leaves of a flush, of an opening. -/
import Derived.Test.YtoiaclmfljoomaaDoorJoint09
namespace Go.Proofs.YtoiaclmfljoomaaDoor
open Go.ChangeShapes Go.WideShapes Go.ChangeAt Go.RowKit
set_option linter.unusedVariables false

variable {s s' s1 : DS} {m m1 m' : Nat} {rs old : List RC} {fl : Nat}

theorem laid_uniq {dg : Nat → (Nat → Nat) → Nat → Nat} {B B' : Nat → Nat} {M : Nat} (hB : ∀ k, k < M → B k < 256) (hB' : ∀ k, k < M → B' k < 256) : ∀ {rs : List RC} {p : Nat}, endOf p rs ≤ M → JLaid dg B p rs → JLaid dg B' p rs → ∀ k, p ≤ k → k < endOf p rs → B k = B' k
  | [], p, _, _, _, k, h1, h2 => by
    have h2' : k < p := h2
    omega
  | r :: rs, p, hM, ⟨a1, a2, a3, a4, a5⟩, ⟨b1, b2, b3, b4, b5⟩, k, h1, h2 => by
    have hj := jrnd_ge r.L
    have hge := endOf_ge rs (p + 8 + jrnd r.L)
    have hM' : endOf (p + 8 + jrnd r.L) rs ≤ M := hM
    by_cases hk : p + 8 + jrnd r.L ≤ k
    · exact laid_uniq hB hB' hM' a5 b5 k hk h2
    · by_cases c1 : k < p + 4
      · have e : cntAt B p = cntAt B' p := a1.trans b1.symm
        unfold cntAt at e
        have x0 := hB p (by omega)
        have x1 := hB (p + 1) (by omega)
        have x2 := hB (p + 2) (by omega)
        have x3 := hB (p + 3) (by omega)
        have y0 := hB' p (by omega)
        have y1 := hB' (p + 1) (by omega)
        have y2 := hB' (p + 2) (by omega)
        have y3 := hB' (p + 3) (by omega)
        rcases (show k = p ∨ k = p + 1 ∨ k = p + 2 ∨ k = p + 3 by omega) with rfl | rfl | rfl | rfl <;> omega
      · by_cases c2 : k < p + 8
        · have := a2 (k - p - 4) (by omega)
          have h3 := b2 (k - p - 4) (by omega)
          rw [show p + 4 + (k - p - 4) = k by omega] at this h3
          rw [this, h3]
        · by_cases c3 : k < p + 8 + r.L
          · have := a3 (k - p - 8) (by omega)
            have h3 := b3 (k - p - 8) (by omega)
            rw [show p + 8 + (k - p - 8) = k by omega] at this h3
            rw [this, h3]
          · have := a4 (k - p - 8 - r.L) (by omega)
            have h3 := b4 (k - p - 8 - r.L) (by omega)
            rw [show p + 8 + r.L + (k - p - 8 - r.L) = k by omega] at this h3
            rw [this, h3]

theorem stands_uniq {dg : Nat → (Nat → Nat) → Nat → Nat} {B B' : Nat → Nat} {N : Nat} (hB : ∀ k, k < N → B k < 256) (hB' : ∀ k, k < N → B' k < 256) (h : Stands dg B N rs) (h' : Stands dg B' N rs) (k : Nat) (hk : k < N) : B k = B' k := by
  by_cases h1 : k < endOf 0 rs
  · exact laid_uniq hB hB' h.2.2.1 h.1 h'.1 k (Nat.zero_le _) h1
  · rw [h.2.2.2 k (by omega) hk, h'.2.2.2 k (by omega) hk]

theorem holds_cutAt (s : DS) (i : Int) (keep : Nat → Bool) : holds (cutAtD s i keep) = left keep 0 (upTo (min i.toNat (wrs s.log)) s.log) s.fst := rfl

theorem holds_cut (hs : SafeL s.log) (keep : Nat → Bool) : holds (cutD s keep) = holds s := by
  show left keep 0 s.log s.fst = _
  exact left_safe_all keep 0 hs s.fst

/-- Bytes that are as an image up to the sector of its end, which is blank there, tell its records. -/
theorem torn_told {X : Nat → Nat} {C : Nat → Nat → Nat} {n E : Nat} (hs : Stands dgS X (64 * n) rs) (hE : E = endOf 0 rs) (hC : ∀ i, i ≤ E / 64 → i < n → ∀ j, j < 64 → C i j = X (64 * i + j)) : rsame (told dgS (byOf C) (64 * n)) rs := by
  have hmod := endOf_mod rs 0 rfl
  have hle := hs.2.2.1
  have key : ∀ k, k / 64 ≤ E / 64 → k < 64 * n → byOf C k = X k := fun k h1 h2 => by
    unfold byOf
    rw [hC (k / 64) h1 (by omega) (k % 64) (by omega), show 64 * (k / 64) + k % 64 = k by omega]
  refine told_torn dgS_congr (by omega) hs hE (fun k hk => key k (by omega) (by omega)) (fun q hq hqN => ?_)
  rw [key (E + q) (by omega) hqN]
  exact hs.2.2.2 _ (by omega) hqN

/-- A flush that power cuts: the old records, or all. -/
theorem whole_out {I : Nat → Nat} (hf : Fine s) (hk : Keeps s (rs.take fl)) (hlt : fl < rs.length) (hsz : Sized rs) (hend : endOf 0 rs ≤ 64 * s.n) (h : FlushD s s1 s' m m1 m' rs fl I) (i : Int) (keep : Nat → Bool) (hi : wrs s.log < min i.toNat (wrs s'.log)) :
    rsame (told dgS (byOf (holds (cutAtD s' i keep))) (64 * s.n)) (rs.take fl) ∨ rsame (told dgS (byOf (holds (cutAtD s' i keep))) (64 * s.n)) rs := by
  obtain ⟨hr, hr1, _, hT⟩ := flush_done hsz hend hlt h
  have hI : ∀ k, k < 64 * s.n → I k < 256 := fun k hk2 => by
    rw [← secEq_by hr.holds k hk2]
    exact (hr.byt hf.byt).holds _ _
  obtain ⟨h1, h2, h3⟩ := h
  obtain ⟨phs1, a1, a2, a3, a4, a5, _⟩ := h2
  obtain ⟨phs2, b1, b2, b3, b4, b5, _⟩ := h3
  rw [holds_cutAt]
  have hlog : s'.log = s.log ++ (phs1 ++ phs2).flatMap phL := by rw [b5, a5, List.flatMap_append, List.append_assoc]
  have hfst : s'.fst = s.fst := b3.trans a3
  have hsync : ∀ q ∈ phs1 ++ phs2, q.2.sync = true := fun q hq => (List.mem_append.1 hq).elim (a1.sync q) (b1.sync q)
  have hout := cut_phases keep (phs1 ++ phs2) s.log s.fst _ hf.safe hsync hi
  rw [← hlog] at hout
  rw [hfst]
  generalize left keep 0 (upTo (min i.toNat (wrs s'.log)) s'.log) s.fst = C at hout ⊢
  have hst : Stands dgS (clr (endOf 0 (rs.take fl)) I) (64 * s.n) (rs.take fl) := by
    have := h1
    rw [← List.take_append_drop fl rs] at this
    exact stands_clr this
  obtain ⟨E, hE⟩ : ∃ E, E = endOf 0 (rs.take fl) := ⟨_, rfl⟩
  rw [← hE] at a1 b1 hst hT
  have hbase : SecEq s.n (holds s) (clr E I) := by_secEq (fun k hk2 => stands_uniq (fun k _ => hf.byt.holds _ _) (fun k hk3 => by unfold clr; split; exact hI k hk3; exact Nat.zero_lt_succ _) hk hst k hk2)
  obtain ⟨hsame, hfold⟩ := a1.same (C := C) hbase
  have hC2 : s1.n = s.n := a2
  rcases phOut_append (fun q hq => a1.sync q hq) hout with ⟨_, ho⟩ | ho
  · left
    have hC := hsame ho
    exact torn_told hst hE (fun i h4 h5 j hj => hC i h5 j hj)
  · have hb1' : PhsOk I [(0, 0), (E / 64 + 1, s.n), (E / 64, E / 64 + 1)] (foldP phs1 (holds s)) phs2 := by
      have := holds_of_log a3 a5
      rw [this] at b1
      exact b1
    rcases flush_out (by omega) hT hfold hb1' ho with h4 | h4
    · left
      exact torn_told hst hE (fun i h5 h6 j hj => h4 i h5 j hj)
    · right
      exact torn_told h1 rfl (fun i h5 h6 j hj => h4 i h6 j hj)

/-- An opening that power cuts: the same records. -/
theorem again_out (hlog : s.log = []) (hB : ∀ k, byOf (holds s) k < 256) (h : OpenTo s s') (i : Int) (keep : Nat → Bool) :
    rsame (told dgS (byOf (holds (cutAtD s' i keep))) (64 * s.n)) (told dgS (byOf (holds s)) (64 * s.n)) := by
  obtain ⟨m, m', phs, g1, g2, g3, g4, g5, _⟩ := h
  rw [holds_cutAt]
  have hfst : s'.fst = s.fst := g3
  rw [hlog, List.nil_append] at g5
  have hhold : holds s = s.fst := by unfold holds; rw [hlog]; rfl
  by_cases h0 : min i.toNat (wrs s'.log) = 0
  · have hu : upTo 0 s'.log = [] := by cases s'.log <;> rfl
    rw [h0, hu]
    show rsame (told dgS (byOf s'.fst) (64 * s.n)) _
    rw [hfst, ← hhold]
    exact rsame_refl _
  · have hout := cut_phases keep phs [] s.fst (min i.toNat (wrs s'.log)) (.inl rfl) g1.sync (by show 0 < _; omega)
    rw [List.nil_append, ← g5, ← hfst] at hout
    generalize left keep 0 (upTo (min i.toNat (wrs s'.log)) s'.log) s'.fst = C at hout ⊢
    have hout' : PhOut (holds s) phs C := by rw [hhold, ← hfst]; exact hout
    have hbase : SecEq s.n (holds s) (byOf (holds s)) := by_secEq (fun k _ => rfl)
    rcases open_out (told_laid dgS (byOf (holds s)) (64 * s.n)).2.2.2 hbase g1 hout' with h4 | h4
    · exact told_congr dgS_congr (fun k hk => secEq_by h4 k hk)
    · exact torn_told (told_stands dgS_congr (byOf (holds s)) (64 * s.n)) (told_laid dgS (byOf (holds s)) (64 * s.n)).2.1.symm (fun i h5 h6 j hj => h4 i h5 h6 j hj)
end Go.Proofs.YtoiaclmfljoomaaDoor
