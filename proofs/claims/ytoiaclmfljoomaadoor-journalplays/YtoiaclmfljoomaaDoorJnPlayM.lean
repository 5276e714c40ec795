/- JournalPlays: the journal's calls over a device that may be dead or bad; the law's add. -/
import Derived.Test.YtoiaclmfljoomaaDoorJnLawM
import Derived.Test.YtoiaclmfljoomaaDoorJoint11
namespace Go.Proofs.YtoiaclmfljoomaaDoor
open Go.ChangeShapes Go.WideShapes Go.ChangeAt Go.RowKit
set_option linter.unusedVariables false

variable {D : DevRep} {B : Nat} {w0 w w' : World} {j p c m : Nat} {s : DS} {F : Nat → Prop} {rs : List RC} {fl : Nat} {G : Nat → Prop}

/-- A device at rest: all is safe; it may be dead, or bad. -/
structure Rest (s : DS) : Prop where
  byt : Byt s
  safe : SafeL s.log
  n1 : 1 ≤ s.n
  n2 : s.n ≤ 1000

theorem Fine.rest (h : Fine s) : Rest s := ⟨h.byt, h.safe, h.n1, h.n2⟩
theorem Rest.fine (h : Rest s) (hd : s.dead = false) (hg : ∀ i, i < s.n → s.bad i = false) : Fine s := ⟨hd, hg, h.byt, h.safe, h.n1, h.n2⟩
theorem Rest.kill (h : Rest s) : Rest (killD s) := ⟨h.byt, h.safe, h.n1, h.n2⟩
theorem Rest.spoil (h : Rest s) (i : Nat) : Rest (spoilD s i) := ⟨h.byt, h.safe, h.n1, h.n2⟩
theorem Rest.cut (h : Rest s) (keep : Nat → Bool) : Rest (cutD s keep) := ⟨h.byt.cut keep, .inl rfl, h.n1, h.n2⟩
theorem Keeps.kill (h : Keeps s rs) : Keeps (killD s) rs := h
theorem Keeps.spoil (h : Keeps s rs) (i : Nat) : Keeps (spoilD s i) rs := h
theorem Keeps.cut (h : Keeps s rs) (hs : SafeL s.log) (keep : Nat → Bool) : Keeps (cutD s keep) rs := by
  unfold Keeps
  rw [holds_cut hs keep]
  exact h

/-- Flush, whatever the device. -/
theorem j_flushP (hD : DevOk D) (hM : DevMore D) (h : JIn D B w0 w j p s c m F rs fl G) (hf : Rest s) (hk : Keeps s (rs.take fl)) (hm : m ≤ 90000) (hl : s.log.length ≤ 90000) :
    Calls Tryd.prog 15 #[ptr j] w fun e w' => (s.dead = true ∧ fl < rs.length ∧ e = .returned (.int .i64 73) ∧ JStep D B w0 w w' j p s c m F F rs fl G G) ∨
      (¬ (s.dead = true ∧ fl < rs.length) ∧ e = .returned (.int .i64 0) ∧ ∃ s' m' F', JStep D B w0 w w' j p s' c m' F F' rs rs.length G G ∧ Rest s' ∧ s'.n = s.n ∧ s'.dead = s.dead ∧ Keeps s' rs ∧ s'.log.length ≤ s.log.length + (2 * s.n + 8) ∧ m' ≤ m + (2 * s.n + 8)) := by
  have hsz := h.sized
  refine Calls.mono (j_flush hD hM h hf.byt hf.n2 hm hl) ?_
  rintro e w' (⟨h1, rfl, h2⟩ | ⟨h1, h2, rfl, h3⟩ | ⟨h1, h2, rfl, I, s1, m1, s', m', F', h3, h4⟩)
  · refine .inr ⟨fun h9 => by omega, rfl, s, m, F, ?_, hf, rfl, rfl, ?_, by omega, by omega⟩
    · subst h1
      exact JStep.refl h hD h2
    · rw [h1, List.take_length] at hk
      exact hk
  · exact .inl ⟨h2, by omega, rfl, JStep.refl h hD h3⟩
  · have hlt : fl < rs.length := by omega
    obtain ⟨hr, _⟩ := flush_done hsz.1 hsz.2.1 hlt h3
    exact .inr ⟨fun h9 => (by rw [h2] at h9; cases h9.1), rfl, s', m', F', h4, (hr.fine h2 hf.byt hf.n1 hf.n2).rest, hr.n, hr.dead, keeps_of hr.n hr.holds h3.1, hr.log, hr.mo⟩

/-- Clear, whatever the device. -/
theorem j_clearP (hD : DevOk D) (hM : DevMore D) (h : JIn D B w0 w j p s c m F rs fl G) (hf : Rest s) (hm : m ≤ 95000) (hl : s.log.length ≤ 95000) :
    Calls Tryd.prog 17 #[ptr j] w fun e w' => (s.dead = true ∧ e = .returned (.int .i64 73) ∧ JStep D B w0 w w' j p s c m F F rs fl G G) ∨
      (s.dead = false ∧ e = .returned (.int .i64 0) ∧ ∃ s' m' F', JStep D B w0 w w' j p s' c m' F F' [] 0 G G ∧ Rest s' ∧ s'.n = s.n ∧ s'.dead = s.dead ∧ Keeps s' [] ∧ s'.log.length ≤ s.log.length + (s.n + 4) ∧ m' ≤ m + (s.n + 4)) := by
  refine Calls.mono (clear_c hD hM h hf.byt hf.n2 hm hl) ?_
  rintro e w' (⟨h1, rfl, h2⟩ | ⟨h1, rfl, s', m', F', h3, h4⟩)
  · exact .inl ⟨h1, rfl, JStep.refl h hD h2⟩
  · have hr := set_done (Nat.zero_le _) h3
    exact .inr ⟨h1, rfl, s', m', F', h4, (hr.fine h1 hf.byt hf.n1 hf.n2).rest, hr.n, hr.dead, keeps_of hr.n hr.holds (stands_nil _), hr.log, hr.mo⟩

theorem told_bytP {A : Nat → Nat} (hA : ∀ k, A k < 256) (N : Nat) : ∀ r ∈ told dgS A N, ∀ k, r.f k < 256 := by
  intro r hr k
  unfold told recsOf at hr
  obtain ⟨x, _, rfl⟩ := List.mem_map.1 hr
  exact hA _

/-- The law's stands, over a device that is fine and holds the records. -/
theorem stands_yesP (hf : Fine s) (hk : Keeps s rs) (hb : ∀ r ∈ rs, ∀ k, r.f k < 256) : standsB s rs = true := by
  obtain ⟨h1, h2⟩ := stands_told dgS_congr hk (by omega)
  unfold standsB
  rw [Bool.and_eq_true, Bool.and_eq_true]
  refine ⟨?_, (blankB_iff _ _ _).2 (fun k hk1 hk2 => hk.2.2.2 k (by rw [← h2]; exact hk1) hk2), decide_eq_true (pend_safe hf.safe)⟩
  exact likes_of h1 (told_bytP (fun k => hf.byt.holds _ _) _) hb
end Go.Proofs.YtoiaclmfljoomaaDoor
