/- What is asked of device's calls is so of the program. -/
import Derived.Test.YtancebpjfbbcaaaDwSync
namespace Go.Proofs.Ytancebpjfbbcaaa
open Go.ChangeShapes Go.WideShapes Go.ChangeAt Go.RowKit
set_option linter.unusedVariables false


theorem foot_iff {F G : Nat → Prop} (h : ∀ k, F k ↔ G k) (k : Nat) (hk : F k) : G k := (h k).1 hk

theorem theDev : DevOk theRep where
  lt := by
    rintro w p s c F ⟨bb, bs, bc, vw, vs, h, hF⟩ k hk
    exact h.lt k ((hF k).1 hk)
  clt := by
    intro w c m h
    exact Has.lt h
  kept := by
    rintro w w' p s c F ⟨bb, bs, bc, vw, vs, h, hF⟩ _ hb
    exact ⟨bb, bs, bc, vw, vs, h.kept (fun k hk => hb k ((hF k).2 hk)), hF⟩
  ckept := by
    intro w w' c m h hb
    exact hb.trans h
  new := fun n w h1 h2 => new_r n w h1 h2
  newNo := fun n w hn h => newNo_r n w hn h
  write := by
    rintro w p s c m F i a L cap b ⟨⟨bb, bs, bc, vw, vs, h, hF⟩, hc, hcF, hp⟩ hi hm hl hLc hLm hnil hb hbyt hap
    by_cases h0 : wrErr s i L = 0
    · obtain ⟨_, hi0, hi1, _⟩ := wr_inside s i L h0
      have hI : i = ((i.toNat : Nat) : Int) := by omega
      have hw := write_c h hc (fun e => hcF ((hF c).2 e)) hp i.toNat a L cap b hb hm hl (by rw [← hI]; exact h0)
      rw [← hI] at hw
      refine hw.mono ?_
      rintro e w' ⟨rfl, vw', ho, hg, hc', hr⟩
      refine ⟨by rw [h0], .inr ⟨h0, ho.mono (fun k hk => hk.imp (hF k).2 id), Foot p bb bs bc vw' vs, fun k hk => (foot_grew hg k hk).imp (hF k).2 id, ⟨bb, bs, bc, vw', vs, hr, fun _ => Iff.rfl⟩, hc', fun e => ?_, past_add s m hp _ _ _ _⟩⟩
      rcases foot_grew hg c e with h1 | h1
      · exact hcF ((hF c).2 h1)
      · have := hc.lt
        omega
    · refine (writeNo_c h i a L cap h0).mono ?_
      rintro e w' ⟨rfl, hw'⟩
      exact ⟨rfl, .inl ⟨h0, by rw [hw']; exact Below.refl _ _⟩⟩
  sync := by
    rintro w p s c m F ⟨⟨bb, bs, bc, vw, vs, h, hF⟩, hc, hcF, hp⟩ hm hl
    have hpast : Past (syncD s (m : Nat)) m := by
      intro e he
      have he' : e ∈ s.log ++ [_] := he
      rcases List.mem_append.1 he' with h1 | h1
      · exact hp e h1
      · rw [List.mem_singleton] at h1
        rw [h1]
        exact Int.le_refl _
    cases hd : s.dead
    · by_cases h0 : pend s.log = 0
      · refine (sync0_c h hp hd h0).mono ?_
        rintro e w' ⟨rfl, hw', hr⟩
        obtain rfl : w = w' := hw'.symm
        exact ⟨rfl, .inr ⟨rfl, Only.refl _ _, F, fun k hk => .inl hk, ⟨bb, bs, bc, vw, vs, hr, hF⟩, hc, hcF, hpast⟩⟩
      · refine (sync1_c h hc (fun e => hcF ((hF c).2 e)) hp hd (by omega) hm hl).mono ?_
        rintro e w' ⟨rfl, vs', ho, hg, hr⟩
        have hgr : ∀ k, Foot p bb bs bc vw vs' k → Foot p bb bs bc vw vs k ∨ w.heap.size ≤ k := fun k hk => by
          rcases hk with q | q | q | q | q | q
          · exact .inl (.inl q)
          · exact .inl (.inr (.inl q))
          · exact .inl (.inr (.inr (.inl q)))
          · exact .inl (.inr (.inr (.inr (.inl q))))
          · exact .inl (.inr (.inr (.inr (.inr (.inl q)))))
          · rcases hg k q with q | q
            · exact .inl (.inr (.inr (.inr (.inr (.inr q)))))
            · exact .inr q
        refine ⟨rfl, .inr ⟨rfl, ho.mono (fun k hk => (hF k).2 (hk.elim .inl (fun q => .inr (.inr (.inr (.inr (.inr q))))))), Foot p bb bs bc vw vs', fun k hk => (hgr k hk).imp (hF k).2 id, ⟨bb, bs, bc, vw, vs', hr, fun _ => Iff.rfl⟩, ?_, fun e => ?_, hpast⟩⟩
        · refine (ho.block c (Has.lt hc) ?_).trans hc
          rintro (q | q)
          · exact hcF ((hF c).2 (.inl q))
          · exact hcF ((hF c).2 (.inr (.inr (.inr (.inr (.inr q))))))
        · rcases hgr c e with h1 | h1
          · exact hcF ((hF c).2 h1)
          · have := Has.lt hc
            omega
    · refine (syncDead_c h hd).mono ?_
      rintro e w' ⟨rfl, hw'⟩
      exact ⟨rfl, .inl ⟨rfl, by rw [hw']; exact Below.refl _ _⟩⟩
  read := by
    rintro w p s c m F i ⟨⟨bb, bs, bc, vw, vs, h, hF⟩, hc, hcF, hp⟩ hi
    exact read_r h i
  spoil := by
    rintro w p s c m F i ⟨⟨bb, bs, bc, vw, vs, h, hF⟩, hc, hcF, hp⟩ hi
    have hrf : rfErr s i = 0 ↔ (s.dead = false ∧ 0 ≤ i ∧ i < s.n) := by
      unfold rfErr
      cases s.dead
      · by_cases h2 : i < 0 ∨ (s.n : Int) ≤ i
        · rw [if_neg (by simp), if_pos h2]
          constructor
          · intro h; cases h
          · rintro ⟨_, h3, h4⟩; omega
        · rw [if_neg (by simp), if_neg h2]
          exact ⟨fun _ => ⟨rfl, by omega, by omega⟩, fun _ => rfl⟩
      · rw [if_pos rfl]
        constructor
        · intro h; cases h
        · rintro ⟨h, _⟩; cases h
    by_cases h0 : rfErr s i = 0
    · refine (spoil_r h i h0).mono ?_
      rintro e w' ⟨rfl, ho, hr⟩
      refine ⟨rfl, .inr ⟨hrf.1 h0, ho.mono (fun k hk => (hF k).2 (.inr (.inl hk))), F, fun k hk => .inl hk, ⟨bb, bs, bc, vw, vs, hr, hF⟩, ?_, hcF, hp⟩⟩
      exact (ho.block c (Has.lt hc) (fun q => hcF ((hF c).2 (.inr (.inl q))))).trans hc
    · refine (spoilNo_r h i h0).mono ?_
      rintro e w' ⟨rfl, hw'⟩
      exact ⟨rfl, .inl ⟨fun q => h0 (hrf.2 q), by rw [hw']; exact Below.refl _ _⟩⟩
  kill := by
    rintro w p s c m F ⟨⟨bb, bs, bc, vw, vs, h, hF⟩, hc, hcF, hp⟩
    refine (kill_r h).mono ?_
    rintro e w' ⟨rfl, ho, hr⟩
    refine ⟨rfl, ho.mono (fun k hk => (hF k).2 (.inl hk)), F, fun k hk => .inl hk, ⟨bb, bs, bc, vw, vs, hr, hF⟩, ?_, hcF, hp⟩
    exact (ho.block c (Has.lt hc) (fun q => hcF ((hF c).2 (.inl q)))).trans hc
  tamper := by
    rintro w p s c m F i a L cap b ⟨⟨bb, bs, bc, vw, vs, h, hF⟩, hc, hcF, hp⟩ hi hm hl hLc hLm hnil hb hbyt hap
    by_cases h0 : wrErr s i L = 0
    · obtain ⟨_, hi0, hi1, _⟩ := wr_inside s i L h0
      have hI : i = ((i.toNat : Nat) : Int) := by omega
      have hw := tamper_c h hc (fun e => hcF ((hF c).2 e)) hp i.toNat a L cap b hb hm hl (by rw [← hI]; exact h0)
      rw [← hI] at hw
      refine hw.mono ?_
      rintro e w' ⟨rfl, vw', ho, hg, hc', hr⟩
      refine ⟨rfl, .inr ⟨h0, ho.mono (fun k hk => ?_), Foot p bb bs bc vw' vs, fun k hk => (foot_grew hg k hk).imp (hF k).2 id, ⟨bb, bs, bc, vw', vs, hr, fun _ => Iff.rfl⟩, hc', fun e => ?_, past_add s m hp _ _ _ _⟩⟩
      · rcases hk with q | q | q | q
        · exact .inl ((hF k).2 (.inl q))
        · exact .inr q
        · exact .inl ((hF k).2 (.inr (.inr (.inr (.inl q)))))
        · exact .inl ((hF k).2 (.inr (.inr (.inr (.inr (.inl q))))))
      · rcases foot_grew hg c e with h1 | h1
        · exact hcF ((hF c).2 h1)
        · have := hc.lt
          omega
    · refine (tamperNo_c h i a L cap h0).mono ?_
      rintro e w' ⟨rfl, hw'⟩
      exact ⟨rfl, .inl ⟨h0, by rw [hw']; exact Below.refl _ _⟩⟩
  isDead := by
    rintro w p s c m F ⟨⟨bb, bs, bc, vw, vs, h, hF⟩, hc, hcF, hp⟩
    refine (dead_r h).mono ?_
    rintro e w' ⟨rfl, hw'⟩
    exact ⟨rfl, by rw [hw']; exact Below.refl _ _⟩
  writes := by
    rintro w p s c m F ⟨⟨bb, bs, bc, vw, vs, h, hF⟩, hc, hcF, hp⟩ hl
    refine (writes_r h).mono ?_
    rintro e w' ⟨rfl, hw'⟩
    exact ⟨rfl, by rw [hw']; exact Below.refl _ _⟩
  pending := by
    rintro w p s c m F ⟨⟨bb, bs, bc, vw, vs, h, hF⟩, hc, hcF, hp⟩ hl
    refine (pending_r h).mono ?_
    rintro e w' ⟨rfl, hw'⟩
    exact ⟨rfl, by rw [hw']; exact Below.refl _ _⟩
end Go.Proofs.Ytancebpjfbbcaaa
