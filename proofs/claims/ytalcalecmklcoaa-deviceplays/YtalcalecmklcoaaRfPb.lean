/- Texts on the program's own functions, joined. -/
import Derived.Test.YtalcalecmklcoaaRfCut
import Derived.Test.YtalcalecmklcoaaRfPa
import Derived.Test.YtalcalecmklcoaaDvSaysM
import Derived.Test.YtalcalecmklcoaaDvTogM
import Derived.Test.YtalcalecmklcoaaDvBool
import Derived.Test.YtalcalecmklcoaaDvScript

/- The reference's device, what it is made of left open; step by step. -/
namespace Go.Proofs.Ytalcalecmklcoaa
open Go.ChangeShapes Go.WideShapes Go.ChangeAt Go.RowKit
set_option linter.unusedVariables false

/-- At q there is a device of the reference, in state s, its clock shows m; all its blocks are G. -/
def RefF (N : Nat) (w : World) (q : Nat) (s : DS) (m : Nat) (G : Nat → Prop) : Prop :=
  ∃ Fl Ll sp vF vL vS, RefAt w q s m Fl Ll sp vF vL vS ∧ Fl.length + Ll.length ≤ N ∧ sp.length ≤ N ∧ ∀ k, G k ↔ RFoot q vF vL vS Fl Ll k

variable {N : Nat} {w w' : World} {q m : Nat} {s : DS} {G : Nat → Prop}

theorem RefF.lt (h : RefF N w q s m G) (k : Nat) (hk : G k) : k < w.heap.size := by
  obtain ⟨Fl, Ll, sp, vF, vL, vS, h, _, _, hG⟩ := h
  exact h.lt k ((hG k).1 hk)

theorem RefF.kept (h : RefF N w q s m G) (hb : ∀ k, G k → w'.heap[k]? = w.heap[k]?) : RefF N w' q s m G := by
  obtain ⟨Fl, Ll, sp, vF, vL, vS, h, h1, h2, hG⟩ := h
  exact ⟨Fl, Ll, sp, vF, vL, vS, h.kept (fun k hk => hb k ((hG k).2 hk)), h1, h2, hG⟩

theorem RefF.below (h : RefF N w q s m G) (hb : Below w.heap.size w w') : RefF N w' q s m G := h.kept (fun k hk => hb.block k (h.lt k hk))

theorem RefF.more {N' : Nat} (h : RefF N w q s m G) (hN : N ≤ N') : RefF N' w q s m G := by
  obtain ⟨Fl, Ll, sp, vF, vL, vS, h, h1, h2, hG⟩ := h
  exact ⟨Fl, Ll, sp, vF, vL, vS, h, by omega, by omega, hG⟩

theorem RefF.log (h : RefF N w q s m G) : s.log.length ≤ N := by
  obtain ⟨Fl, Ll, sp, vF, vL, vS, h, h1, h2, hG⟩ := h
  rw [← h.log, List.length_map]
  omega

theorem RefF.n1 (h : RefF N w q s m G) : s.n ≤ 2048 := by
  obtain ⟨Fl, Ll, sp, vF, vL, vS, h, h1, h2, hG⟩ := h
  exact h.n1

theorem RefF.cells (h : RefF N w q s m G) : G q ∧ w.cell? ⟨q, 0, none⟩ = some (.int .i64 (s.n : Nat)) ∧ w.cell? ⟨q, 4, none⟩ = some (.bool s.dead) ∧ w.cell? ⟨q, 5, none⟩ = some (.int .i64 (m : Nat)) := by
  obtain ⟨Fl, Ll, sp, vF, vL, vS, h, h1, h2, hG⟩ := h
  exact ⟨(hG q).2 (.inl rfl), h.cell 0, h.cell 4, h.cell 5⟩

theorem rin_read (h : RefF N w q s m G) (hN : N ≤ 10000) (i : Int) :
    Calls Try.prog 21 #[ptr q, .int .i64 i] w fun e w' => Below w.heap.size w w' ∧ ∃ v, e = .returned (.tuple #[v, .int .i64 (rdErr s i)]) ∧ ((rdErr s i ≠ 0 ∧ NoSec v) ∨ (rdErr s i = 0 ∧ NewSec w w' v (holds s i.toNat))) := by
  obtain ⟨Fl, Ll, sp, vF, vL, vS, h, h1, h2, hG⟩ := h
  exact readR h i (by omega) (by omega) (by omega)

theorem rin_bad (h : RefF N w q s m G) (hN : N ≤ 10000) (i : Int) : Calls Try.prog 45 #[ptr q, .int .i64 i] w fun e w' => e = .returned (.bool (decide (0 ≤ i) && s.bad i.toNat)) ∧ w' = w := by
  obtain ⟨Fl, Ll, sp, vF, vL, vS, h, h1, h2, hG⟩ := h
  exact badR h i (by omega)

theorem rin_pending (h : RefF N w q s m G) (hN : N ≤ 10000) : Calls Try.prog 57 #[ptr q] w fun e w' => e = .returned (.int .i64 (pend s.log : Nat)) ∧ w' = w := by
  obtain ⟨Fl, Ll, sp, vF, vL, vS, h, h1, h2, hG⟩ := h
  exact pendingR h (by omega)

theorem rin_writes (h : RefF N w q s m G) (hN : N ≤ 10000) : Calls Try.prog 53 #[ptr q] w fun e w' => e = .returned (.int .i64 (wrs s.log : Nat)) ∧ w' = w := by
  obtain ⟨Fl, Ll, sp, vF, vL, vS, h, h1, h2, hG⟩ := h
  exact writesR h (by omega)

theorem rin_write (h : RefF N w q s m G) (hN : N ≤ 10000) (hm : m ≤ 100000) (i : Int) (a : Option Addr) (L C : Nat) (b : Nat → Nat) (hb : Bytes w a L b) (hbyt : ∀ j, b j < 256) :
    Calls Try.prog 12 #[ptr q, .int .i64 i, .slice a L C] w fun e w' => e = .returned (.int .i64 (wrErr s i L)) ∧ Only G w w' ∧ ∃ G', Grew w G G' ∧ RefF (N + 1) w' q (wrS s i b L m) (wrM s i L m) G' := by
  by_cases he : wrErr s i L = 0
  · unfold wrS wrM
    rw [if_pos he, if_pos he]
    obtain ⟨Fl, Ll, sp, vF, vL, vS, h, h1, h2, hG⟩ := h
    obtain ⟨hd, hi0, hi1, hL⟩ := wr_inside s i L he
    obtain ⟨I, rfl⟩ : ∃ I : Nat, i = (I : Int) := ⟨i.toNat, by omega⟩
    rw [Int.toNat_natCast]
    refine (writeR h I a L C b hb hbyt hm (by omega) (by omega) he).mono ?_
    rintro e w' ⟨rfl, r, vL', vS', ho, g1, g2, g3, hs, hR⟩
    refine ⟨by rw [he], ho.mono (fun k hk => (hG k).2 (hk.elim .inl (fun h => .inr (.inr (.inl h))))), _, ?_, Fl, Ll ++ [r], _, vF, vL', vS', hR, by rw [List.length_append]; simp; omega, Nat.le_trans (List.length_filter_le _ _) (by omega), fun k => Iff.rfl⟩
    rintro k (rfl | hk | hk | hk | hk | ⟨x, hx, hxs, rfl⟩)
    · exact .inl ((hG _).2 (.inl rfl))
    · exact .inl ((hG _).2 (.inr (.inl hk)))
    · exact (g1 k hk).imp (fun h => (hG _).2 (.inr (.inr (.inl h)))) id
    · exact .inr (g2 k hk)
    · exact .inl ((hG _).2 (.inr (.inr (.inr (.inr (.inl hk))))))
    · rcases List.mem_append.1 hx with hx | hx
      · exact .inl ((hG _).2 (.inr (.inr (.inr (.inr (.inr ⟨x, hx, hxs, rfl⟩))))))
      · obtain rfl : x = r := by simpa using hx
        exact .inr g3
  · unfold wrS wrM
    rw [if_neg he, if_neg he]
    have h' := h
    obtain ⟨Fl, Ll, sp, vF, vL, vS, h, h1, h2, hG⟩ := h
    refine (writeNoR h i a L C he).mono ?_
    rintro e w' ⟨rfl, hw'⟩
    obtain rfl : w = w' := hw'.symm
    exact ⟨rfl, Only.refl _ _, G, fun k hk => .inl hk, h'.more (by omega)⟩

theorem rin_tamper (h : RefF N w q s m G) (hN : N ≤ 10000) (hm : m ≤ 100000) (i : Int) (a : Option Addr) (L C : Nat) (b : Nat → Nat) (hb : Bytes w a L b) (hbyt : ∀ j, b j < 256) :
    Calls Try.prog 19 #[ptr q, .int .i64 i, .slice a L C] w fun e w' => e = .returned (.tuple #[]) ∧ Only G w w' ∧ ∃ G', Grew w G G' ∧ RefF (N + 1) w' q (tpS s i b L m) (wrM s i L m) G' := by
  by_cases he : wrErr s i L = 0
  · unfold tpS wrM
    rw [if_pos he, if_pos he]
    obtain ⟨Fl, Ll, sp, vF, vL, vS, h, h1, h2, hG⟩ := h
    obtain ⟨hd, hi0, hi1, hL⟩ := wr_inside s i L he
    obtain ⟨I, rfl⟩ : ∃ I : Nat, i = (I : Int) := ⟨i.toNat, by omega⟩
    rw [Int.toNat_natCast]
    refine (tamperR h I a L C b hb hbyt hm (by omega) he).mono ?_
    rintro e w' ⟨rfl, r, vL', ⟨ho, g1, g3, hs, hR⟩, hr⟩
    rw [hr] at hR
    refine ⟨rfl, ho.mono (fun k hk => (hG k).2 (hk.elim .inl (fun h => .inr (.inr (.inl h))))), _, ?_, Fl, Ll ++ [r], sp, vF, vL', vS, hR, by rw [List.length_append]; simp; omega, by omega, fun k => Iff.rfl⟩
    rintro k (rfl | hk | hk | hk | hk | ⟨x, hx, hxs, rfl⟩)
    · exact .inl ((hG _).2 (.inl rfl))
    · exact .inl ((hG _).2 (.inr (.inl hk)))
    · exact (g1 k hk).imp (fun h => (hG _).2 (.inr (.inr (.inl h)))) id
    · exact .inl ((hG _).2 (.inr (.inr (.inr (.inl hk)))))
    · exact .inl ((hG _).2 (.inr (.inr (.inr (.inr (.inl hk))))))
    · rcases List.mem_append.1 hx with hx | hx
      · exact .inl ((hG _).2 (.inr (.inr (.inr (.inr (.inr ⟨x, hx, hxs, rfl⟩))))))
      · obtain rfl : x = r := by simpa using hx
        exact .inr g3
  · unfold tpS wrM
    rw [if_neg he, if_neg he]
    have h' := h
    obtain ⟨Fl, Ll, sp, vF, vL, vS, h, h1, h2, hG⟩ := h
    refine (tamperNoR h i a L C he).mono ?_
    rintro e w' ⟨rfl, hw'⟩
    obtain rfl : w = w' := hw'.symm
    exact ⟨rfl, Only.refl _ _, G, fun k hk => .inl hk, h'.more (by omega)⟩

theorem rin_sync (h : RefF N w q s m G) (hN : N ≤ 10000) :
    Calls Try.prog 14 #[ptr q] w fun e w' => e = .returned (.int .i64 (if s.dead then 73 else 0)) ∧ Only G w w' ∧ ∃ G', Grew w G G' ∧ RefF (N + 1) w' q (syS s m) m G' := by
  unfold syS
  have h' := h
  obtain ⟨Fl, Ll, sp, vF, vL, vS, h, h1, h2, hG⟩ := h
  cases hd : s.dead
  · rw [if_neg (by simp), if_neg (by simp)]
    refine (syncR h hd (by omega)).mono ?_
    rintro e w' ⟨rfl, r, vL', ho, g1, hs, hR⟩
    refine ⟨rfl, ho.mono (fun k hk => (hG k).2 (hk.elim .inl (fun h => .inr (.inr (.inl h))))), _, ?_, Fl, Ll ++ [r], sp, vF, vL', vS, hR, by rw [List.length_append]; simp; omega, by omega, fun k => Iff.rfl⟩
    rintro k (rfl | hk | hk | hk | hk | ⟨x, hx, hxs, rfl⟩)
    · exact .inl ((hG _).2 (.inl rfl))
    · exact .inl ((hG _).2 (.inr (.inl hk)))
    · exact (g1 k hk).imp (fun h => (hG _).2 (.inr (.inr (.inl h)))) id
    · exact .inl ((hG _).2 (.inr (.inr (.inr (.inl hk)))))
    · exact .inl ((hG _).2 (.inr (.inr (.inr (.inr (.inl hk))))))
    · rcases List.mem_append.1 hx with hx | hx
      · exact .inl ((hG _).2 (.inr (.inr (.inr (.inr (.inr ⟨x, hx, hxs, rfl⟩))))))
      · obtain rfl : x = r := by simpa using hx
        rw [hs] at hxs
        cases hxs
  · rw [if_pos rfl, if_pos rfl]
    refine (syncDeadR h hd).mono ?_
    rintro e w' ⟨rfl, hw'⟩
    obtain rfl : w = w' := hw'.symm
    exact ⟨rfl, Only.refl _ _, G, fun k hk => .inl hk, h'.more (by omega)⟩

theorem rin_spoil (h : RefF N w q s m G) (hN : N ≤ 10000) (i : Int) :
    Calls Try.prog 16 #[ptr q, .int .i64 i] w fun e w' => e = .returned (.tuple #[]) ∧ Only G w w' ∧ ∃ G', Grew w G G' ∧ RefF (N + 1) w' q (spS s i) m G' := by
  unfold spS
  have h' := h
  obtain ⟨Fl, Ll, sp, vF, vL, vS, h, h1, h2, hG⟩ := h
  by_cases h0 : s.dead = false ∧ 0 ≤ i ∧ i < s.n
  · rw [if_pos h0]
    refine (spoilR h i (by omega) h0).mono ?_
    rintro e w' ⟨rfl, sp', vS', hl, ho, g1, hR⟩
    refine ⟨rfl, ho.mono (fun k hk => (hG k).2 (hk.elim .inl (fun h => .inr (.inr (.inr (.inl h)))))), _, ?_, Fl, Ll, sp', vF, vL, vS', hR, by omega, by omega, fun k => Iff.rfl⟩
    rintro k (rfl | hk | hk | hk | hk | hk)
    · exact .inl ((hG _).2 (.inl rfl))
    · exact .inl ((hG _).2 (.inr (.inl hk)))
    · exact .inl ((hG _).2 (.inr (.inr (.inl hk))))
    · exact (g1 k hk).imp (fun h => (hG _).2 (.inr (.inr (.inr (.inl h))))) id
    · exact .inl ((hG _).2 (.inr (.inr (.inr (.inr (.inl hk))))))
    · exact .inl ((hG _).2 (.inr (.inr (.inr (.inr (.inr hk))))))
  · rw [if_neg h0]
    refine (spoilNoR h i (by omega) h0).mono ?_
    rintro e w' ⟨rfl, hw'⟩
    obtain rfl : w = w' := hw'.symm
    exact ⟨rfl, Only.refl _ _, G, fun k hk => .inl hk, h'.more (by omega)⟩

theorem anewR_sync (r : RW) : (anewR r).e.sync = r.e.sync := by
  obtain ⟨⟨i, b, sy, su, mo⟩, g⟩ := r
  cases sy <;> rfl

theorem rin_anew (h : RefF N w q s m G) (hN : N ≤ 10000) :
    Calls Try.prog 24 #[ptr q] w fun e w' => e = .returned (.tuple #[]) ∧ Only G w w' ∧ RefF N w' q (anewD s) 0 G := by
  obtain ⟨Fl, Ll, sp, vF, vL, vS, h, h1, h2, hG⟩ := h
  refine (anewRef h (by omega)).mono ?_
  rintro e w' ⟨rfl, ho, hR⟩
  refine ⟨rfl, ho.mono (fun k hk => (hG k).2 (hk.elim .inl (fun h => .inr (.inr (.inl h))))), Fl, Ll.map anewR, sp, vF, vL, vS, hR, by rw [List.length_map]; omega, by omega, fun k => (hG k).trans ?_⟩
  unfold RFoot
  have e1 : (∃ r ∈ Ll.map anewR, r.e.sync = false ∧ k = r.g) ↔ ∃ r ∈ Ll, r.e.sync = false ∧ k = r.g := by
    constructor
    · rintro ⟨r, hr, h1, h2⟩
      obtain ⟨x, hx, rfl⟩ := List.mem_map.1 hr
      exact ⟨x, hx, by rw [← anewR_sync]; exact h1, h2⟩
    · rintro ⟨x, hx, h1, h2⟩
      exact ⟨anewR x, List.mem_map.2 ⟨x, hx, rfl⟩, by rw [anewR_sync]; exact h1, h2⟩
  rw [e1]

theorem rin_kill (h : RefF N w q s m G) : Only G w (w.setCell ⟨q, 4, none⟩ (.bool true)) ∧ RefF N (w.setCell ⟨q, 4, none⟩ (.bool true)) q (killD s) m G := by
  obtain ⟨Fl, Ll, sp, vF, vL, vS, h, h1, h2, hG⟩ := h
  have ho := only_setCell w q 4 (.bool true)
  exact ⟨ho.mono (fun k hk => (hG k).2 (.inl hk)), Fl, Ll, sp, vF, vL, vS, h.turnQ ho (h.has.setV 4 _) rfl rfl rfl rfl, h1, h2, hG⟩

/-- What a cut leaves. -/
theorem LeftR.ref {e : Ending} {s' : DS} {Fl Ll : List RW} {sp : List Nat} {vF vL vS : Value} (h : LeftR w w' e s' Fl Ll sp) (hN : Fl.length + Ll.length ≤ N) (hs : sp.length ≤ N) (hG : ∀ k, G k ↔ RFoot q vF vL vS Fl Ll k) :
    Below w.heap.size w w' ∧ ∃ q' G', e = .returned (ptr q') ∧ Grew w G G' ∧ RefF N w' q' s' 0 G' := by
  obtain ⟨q', Fl', vF', vS', rfl, hb, hR, g1, g2, g3, g4, g5⟩ := h
  refine ⟨hb, q', _, rfl, ?_, Fl', [], sp, vF', nilS, vS', hR, by simp; omega, hs, fun k => Iff.rfl⟩
  rintro k (rfl | hk | hk | hk | ⟨r, hr, rfl⟩ | ⟨x, hx, hxs, rfl⟩)
  · exact .inr g1
  · exact .inr (g2 k hk)
  · cases hk
  · exact .inr (g3 k hk)
  · rcases g5 r hr with hr | ⟨hr, hs⟩
    · exact .inl ((hG _).2 (.inr (.inr (.inr (.inr (.inl ⟨r, hr, rfl⟩))))))
    · exact .inl ((hG _).2 (.inr (.inr (.inr (.inr (.inr ⟨r, hr, hs, rfl⟩))))))
  · cases hx

theorem rin_cut (h : RefF N w q s m G) (hN : N ≤ 10000) (a : Option Addr) (L C : Nat) (kf : Nat → Bool) (hk : Bools w a L kf) :
    Calls Try.prog 26 #[ptr q, .slice a L C] w fun e w' => Below w.heap.size w w' ∧ ∃ q' G', e = .returned (ptr q') ∧ Grew w G G' ∧ RefF N w' q' (cutD s (keepOf kf L)) 0 G' := by
  obtain ⟨Fl, Ll, sp, vF, vL, vS, h, h1, h2, hG⟩ := h
  refine (cutR h a L C kf hk (by omega) (by omega) (by omega)).mono ?_
  intro e w' h
  exact h.ref h1 h2 hG

theorem rin_cutAt (h : RefF N w q s m G) (hN : N ≤ 10000) (i : Int) (a : Option Addr) (L C : Nat) (kf : Nat → Bool) (hk : Bools w a L kf) :
    Calls Try.prog 28 #[ptr q, .int .i64 i, .slice a L C] w fun e w' => Below w.heap.size w w' ∧ ∃ q' G', e = .returned (ptr q') ∧ Grew w G G' ∧ RefF N w' q' (cutAtD s i (keepOf kf L)) 0 G' := by
  obtain ⟨Fl, Ll, sp, vF, vL, vS, h, h1, h2, hG⟩ := h
  refine (cutAtR h i a L C kf hk (by omega) (by omega) (by omega)).mono ?_
  intro e w' h
  exact h.ref h1 h2 hG
end Go.Proofs.Ytalcalecmklcoaa

/- A device of the program's and one of the reference's, side by side. -/
namespace Go.Proofs.Ytalcalecmklcoaa
open Go.ChangeShapes Go.WideShapes Go.ChangeAt Go.RowKit
set_option linter.unusedVariables false

structure Two (D : DevRep) (N B : Nat) (w0 w : World) (p q : Nat) (s s2 : DS) (c m m2 : Nat) (F G : Nat → Prop) : Prop where
  dev : In D B w0 w p s c m F
  ref : RefF N w q s2 m2 G
  rb : ∀ k, G k → B ≤ k
  ap : ∀ k, G k → ¬ F k
  ac : ¬ G c

variable {D : DevRep} {N B : Nat} {w0 w w' : World} {p q c m m2 : Nat} {s s2 : DS} {F G : Nat → Prop}

theorem Two.next (hD : DevOk D) (h : Two D N B w0 w p q s s2 c m m2 F G) (hb : Below w.heap.size w w') : Two D N B w0 w' p q s s2 c m m2 F G :=
  ⟨h.dev.next hD hb, h.ref.below hb, h.rb, h.ap, h.ac⟩

theorem Two.devTurn (hD : DevOk D) (h : Two D N B w0 w p q s s2 c m m2 F G) {s' : DS} {m' : Nat} {F' : Nat → Prop} (ho : Only (fun k => F k ∨ k = c) w w') (hg : Grew w F F') (hi : In D B w0 w' p s' c m' F') : Two D N B w0 w' p q s' s2 c m' m2 F' G :=
  ⟨hi, h.ref.kept (fun k hk => ho.block k (h.ref.lt k hk) (fun e => e.elim (h.ap k hk) (fun e => h.ac (e ▸ hk)))), h.rb,
    fun k hk hf => (hg k hf).elim (h.ap k hk) (fun h1 => absurd (h.ref.lt k hk) (Nat.not_lt.2 h1)), h.ac⟩

theorem Two.refTurn (hD : DevOk D) (h : Two D N B w0 w p q s s2 c m m2 F G) {N' : Nat} {s2' : DS} {m2' : Nat} {G' : Nat → Prop} (ho : Only G w w') (hg : Grew w G G') (hi : RefF N' w' q s2' m2' G') : Two D N' B w0 w' p q s s2' c m m2' F G' :=
  ⟨h.dev.only hD ho (fun k hk hg' => h.ap k hg' hk) h.ac h.rb, hi, fun k hk => (hg k hk).elim (h.rb k) (fun h1 => Nat.le_trans h.dev.sz h1),
    fun k hk hf => (hg k hk).elim (fun h1 => h.ap k h1 hf) (fun h1 => absurd (h.dev.lt hD k hf) (Nat.not_lt.2 h1)), fun hk => (hg c hk).elim h.ac (fun h1 => absurd (h.dev.clt hD) (Nat.not_lt.2 h1))⟩

/-- Together, of nil and the device. -/
theorem Two.tog (hD : DevOk D) (hT : DevTog D) (h : Two D N B w0 w p q s s2 c m m2 F G) {g : Nat} (hl : s.log.length ≤ 100000) (g0 : w.cell? ⟨g, 0, none⟩ = some (.pointer none)) (g1 : w.cell? ⟨g, 1, none⟩ = some (ptr p)) (ho : Out2 F c g) :
    Calls Try.prog 23 #[.slice (some ⟨g, 0, none⟩) 2 2] w fun e w' => e = .returned (.tuple #[]) ∧ Only F w w' ∧ ∃ c' F', Two D N B w0 w' p q (anewD s) s2 c' 0 m2 F' G := by
  refine (hT.one w p s c m F g h.dev.dev hl g0 g1 ho).mono ?_
  rintro e w' ⟨rfl, ho, c', F', hg, hc', hd⟩
  refine ⟨rfl, ho, c', F', ⟨hd, fun k hk => (hg k hk).elim (h.dev.base k) (fun h1 => Nat.le_trans h.dev.sz h1), Nat.le_trans h.dev.sz hc', h.dev.below.trans (ho.below h.dev.base h.dev.sz), Nat.le_trans h.dev.sz ho.size⟩,
    h.ref.kept (fun k hk => ho.block k (h.ref.lt k hk) (h.ap k hk)), h.rb, fun k hk hf => (hg k hf).elim (h.ap k hk) (fun h1 => absurd (h.ref.lt k hk) (Nat.not_lt.2 h1)), fun hk => absurd (h.ref.lt _ hk) (Nat.not_lt.2 hc')⟩

/-- What two cuts leave: the program's first, the reference's behind it. -/
theorem Two.cut (hD : DevOk D) (h : Two D N B w0 w p q s s2 c m m2 F G) {w1 w2 : World} {N' p' c' q' m' m2' : Nat} {s' s2' : DS} {F' G' : Nat → Prop} (hi : In D B w0 w1 p' s' c' m' F') (hg : Grew w F F') (hc : w.heap.size ≤ c') (hb : Below w1.heap.size w1 w2) (hr : RefF N' w2 q' s2' m2' G') (hg2 : Grew w1 G G') : Two D N' B w0 w2 p' q' s' s2' c' m' m2' F' G' :=
  ⟨hi.next hD hb, hr, fun k hk => (hg2 k hk).elim (h.rb k) (fun h1 => Nat.le_trans hi.sz h1),
    fun k hk hf => (hg2 k hk).elim (fun h1 => (hg k hf).elim (h.ap k h1) (fun h2 => absurd (h.ref.lt k h1) (Nat.not_lt.2 h2))) (fun h1 => absurd (hi.lt hD k hf) (Nat.not_lt.2 h1)),
    fun hk => (hg2 _ hk).elim (fun h1 => absurd (h.ref.lt _ h1) (Nat.not_lt.2 hc)) (fun h1 => absurd (hi.clt hD) (Nat.not_lt.2 h1))⟩

theorem fold_byt (l : List AE) : ∀ f : Nat → Nat → Nat, (∀ i j, f i j < 256) → (∀ e ∈ l, ∀ j, e.b j < 256) → ∀ i j, l.foldl upF f i j < 256 := by
  induction l with
  | nil => intro f h _; exact h
  | cons e l ih =>
    intro f h h2
    refine ih _ (fun i j => ?_) (fun d hd => h2 d (List.mem_cons_of_mem _ hd))
    unfold upF
    split
    · exact h2 e (List.mem_cons_self ..) j
    · exact h i j

theorem RefF.holds_lt (h : RefF N w q s m G) (i j : Nat) : holds s i j < 256 := by
  obtain ⟨Fl, Ll, sp, vF, vL, vS, h, h1, h2, hG⟩ := h
  unfold holds
  rw [← h.log, h.fst]
  refine fold_byt _ _ (fold_byt _ _ (fun _ _ => by decide) ?_) ?_ i j
  · intro e he
    obtain ⟨r, hr, rfl⟩ := List.mem_map.1 he
    exact h.byt r (List.mem_append_left _ hr)
  · intro e he
    obtain ⟨r, hr, rfl⟩ := List.mem_map.1 he
    exact h.byt r (List.mem_append_right _ hr)

theorem run_eqi {o : Oper} {a : Act} (x y : Operand) (ho : o.op = .binOp .eql 3 x y 3) (v : Int) (hx : a.eval x = .int .i64 v) (hy : a.eval y = .int .i64 v) (w : World) : (execOp a.eval o).run Try.prog w = .ok (.value (.bool true)) w := by
  unfold execOp
  simp only [ho, hx, hy]
  go_simp

theorem run_eqb {o : Oper} {a : Act} (x y : Operand) (ho : o.op = .binOp .eql 4 x y 4) (v : Bool) (hx : a.eval x = .bool v) (hy : a.eval y = .bool v) (w : World) : (execOp a.eval o).run Try.prog w = .ok (.value (.bool true)) w := by
  unfold execOp
  simp only [ho, hx, hy]
  cases v <;> go_simp

theorem run_load_b {o : Oper} {a : Act} (x : Operand) (ho : o.op = .load 4 x) (p : Addr) (hx : a.eval x = .pointer (some p)) (v : Value) (w : World) (h : w.cell? p = some v) : (execOp a.eval o).run Try.prog w = .ok (.value v) w := by
  unfold execOp
  simp only [ho, hx]
  go_simp

/-- What both read at a place is one. -/
theorem read_same {w wa wb : World} {E : Int} {f : Nat → Nat} {v1 v2 : Value} (hf : ∀ j, f j < 256) (h1 : (E ≠ 0 ∧ NoSec v1) ∨ (E = 0 ∧ NewSec w wa v1 f)) (hb : Below wa.heap.size wa wb) (h2 : (E ≠ 0 ∧ NoSec v2) ∨ (E = 0 ∧ NewSec wa wb v2 f)) :
    Calls Try.prog 22 #[v1, v2] wb fun e w' => e = .returned (.bool true) ∧ w' = wb := by
  rcases h1 with ⟨hE, a, c, rfl⟩ | ⟨hE, h1⟩
  · rcases h2 with ⟨_, a', c', rfl⟩ | ⟨hE', _⟩
    · exact same_true (f := f) c c' (.inl rfl) (.inl rfl) hf (fun _ => rfl) (fun _ => rfl)
    · exact absurd hE' hE
  · rcases h2 with ⟨hE', _⟩ | ⟨_, h2⟩
    · exact absurd hE hE'
    · obtain ⟨g, o, cc, rfl, _, _, k1⟩ := h1.bytes
      obtain ⟨g', o', cc', rfl, _, _, k2⟩ := h2.bytes
      exact same_true cc cc' (k1.below hb (Nat.le_refl _)) k2 hf (fun e => by cases e) (fun e => by cases e)
end Go.Proofs.Ytalcalecmklcoaa

/- The law's 'same': the program's device and the reference's, in one state, tell the same. -/
namespace Go.Proofs.Ytalcalecmklcoaa
open Go.ChangeShapes Go.WideShapes Go.ChangeAt Go.RowKit
set_option linter.unusedVariables false

variable {D : DevRep} {N : Nat} {w wr : World} {p q c m : Nat} {s : DS} {F G : Nat → Prop}

/-- Both, in a world that has only grown. -/
structure SameS (D : DevRep) (N : Nat) (w : World) (p q : Nat) (s : DS) (c m : Nat) (F G : Nat → Prop) (wr : World) : Prop where
  dev : Dev D wr p s c m F
  ref : RefF N wr q s m G
  bel : Below w.heap.size w wr

theorem SameS.step (hD : DevOk D) (h : SameS D N w p q s c m F G wr) {wz : World} (hb : Below wr.heap.size wr wz) : SameS D N w p q s c m F G wz :=
  ⟨h.dev.below hD hb (Nat.le_refl _), h.ref.below hb, h.bel.trans (hb.mono h.bel.size)⟩

set_option maxRecDepth 100000 in
set_option maxHeartbeats 8000000 in
theorem same_tells (hD : DevOk D) (hM : DevMore D) (h : Dev D w p s c m F) (h2 : RefF N w q s m G) (hN : N ≤ 10000) :
    Calls Try.prog 31 #[ptr p, ptr q] w fun e w' => e = .returned (.bool true) ∧ Below w.heap.size w w' := by
  have hll := h2.log
  have hbyt := h2.holds_lt
  have hn := h2.n1
  have HS : SameS D N w p q s c m F G w := ⟨h, h2, Below.refl _ _⟩
  clear h h2
  go_enter Try.func31, Try.ntmps31
  go_wp2
  go_loopw [5] (fun iv wr => ∃ k : Nat, k ≤ s.n ∧ k ≤ 40 ∧ iv = .int .i64 (k : Nat) ∧ SameS D N w p q s c m F G wr)
    (fun iv _ => 40 - (intOf iv).toNat)
  case atStart => exact ⟨0, Nat.zero_le _, Nat.zero_le _, rfl, HS⟩
  case round =>
    obtain ⟨k, hkn, hk40, rfl, hH⟩ := hrel
    clear HS
    have i1 : (0 : Int) ≤ (k : Int) := by omega
    have c0 := hH.ref.cells.2.1
    by_cases hlt : k < s.n
    · have i0 : (k : Int) < (s.n : Int) := by omega
      by_cases hl4 : k < 40
      · have i2 : (k : Int) < 40 := by omega
        have hk64 : i64ok (k : Int) := ⟨by omega, by omega⟩
        have hrd := hD.read wr p s c m F (k : Int) hH.dev hk64
        have HB : Hid ((decide (0 ≤ (k : Int) ∧ (k : Int) < s.n) && s.bad (k : Int).toNat) = s.bad k ∧ (decide (0 ≤ (k : Int)) && s.bad (k : Int).toNat) = s.bad k) := by
          refine ⟨?_, ?_⟩
          · rw [decide_eq_true ⟨i1, i0⟩, Int.toNat_natCast]; rfl
          · rw [decide_eq_true i1, Int.toNat_natCast]; rfl
        obtain ⟨E, hE⟩ : ∃ E, E = rdErr s (k : Int) := ⟨_, rfl⟩
        have HE : Hid (E = rdErr s (k : Int)) := hE
        rw [← hE] at hrd
        clear hE
        go_wp2_with (first
          | ((go_at_call 20)
             (refine hrd.mono ?_)
             (rintro e wa ⟨hba, v1, rfl, hv1⟩)
             (have hHa := hH.step hD hba)
             (have hrr := rin_read hHa.ref hN (k : Int))
             (rw [← HE.out] at hrr)
             (clear hrd))
          | ((go_at_call 21)
             (refine hrr.mono ?_)
             (rintro e wb ⟨hbb, v2, rfl, hv2⟩)
             (have hHb := hHa.step hD hbb)
             (have hsm := read_same (fun j => hbyt (k : Int).toNat j) hv1 hbb hv2)
             (clear hrr hv1 hv2))
          | ((go_at_call 22)
             (refine hsm.mono ?_)
             (rintro e w5 ⟨rfl, hw5⟩)
             (obtain rfl : wb = w5 := hw5.symm)
             (have hbd := hM.isBad wb p s c m F (k : Int) hHb.dev hk64)
             (rw [HB.out.1] at hbd)
             (clear hsm))
          | ((go_at_call 37)
             (refine hbd.mono ?_)
             (rintro e w6 ⟨rfl, hb6⟩)
             (have hH6 := hHb.step hD hb6)
             (have hbr := rin_bad hH6.ref hN (k : Int))
             (rw [HB.out.2] at hbr)
             (clear hbd))
          | ((go_at_call 45)
             (refine hbr.mono ?_)
             (rintro e w7 ⟨rfl, hw7⟩)
             (obtain rfl : w6 = w7 := hw7.symm)
             (clear hbr)))
        go_roundw
        case rel => exact ⟨k + 1, by omega, by omega, by go_num, hH6⟩
        case measure => simp [intOf]; omega
      · have i2 : ¬ (k : Int) < 40 := by omega
        go_wp2
        have hH0 : SameS D N w p q s c m F G wr.drew := hH.step hD (Below.refl _ wr).drew
        refine wp_region_held_drew (S := SameS D N w p q s c m F G) (by kernel_rfl) hH0 (fun hHeld => ?_)
        obtain ⟨x0, hx0⟩ : ∃ x0, x0 = wr.drew := ⟨_, rfl⟩
        rw [← hx0] at hH0 hHeld ⊢
        refine takeTo 0 (some 54) (ptr p) rfl rfl (by kernel_rfl) (by kernel_rfl) (by kernel_rfl) (fun _ _ _ h => h) (by rfl) (fun _ _ => rfl) hHeld ?_
        simp only [Act.put, List.setIfInBounds_toArray, List.set_cons_zero, List.set_cons_succ]
        refine takeTo 2 (some 56) (ptr q) rfl rfl (by kernel_rfl) (by kernel_rfl) (by kernel_rfl) (fun _ _ _ h => h) (by rfl) (fun _ _ => rfl) hHeld ?_
        simp only [Act.put, List.setIfInBounds_toArray, List.set_cons_zero, List.set_cons_succ]
        refine takeTo 3 (some 57) (ptr q) rfl rfl (by kernel_rfl) (by kernel_rfl) (by kernel_rfl) (fun _ _ _ h => h) (by rfl) (fun _ _ => rfl) hHeld ?_
        simp only [Act.put, List.setIfInBounds_toArray, List.set_cons_zero, List.set_cons_succ]
        refine takeTo 4 (some 58) (.pointer (some ⟨q, 5, none⟩)) rfl rfl (by kernel_rfl) (by kernel_rfl) (by kernel_rfl) (fun _ _ _ h => h) (by rfl) (fun _ _ => rfl) hHeld ?_
        simp only [Act.put, List.setIfInBounds_toArray, List.set_cons_zero, List.set_cons_succ]
        refine takeTo 5 (some 59) (.int .i64 (m : Nat)) rfl rfl (by kernel_rfl) (by kernel_rfl) (by kernel_rfl) (fun _ _ _ h => h) (by rfl) (fun wz hz => run_load_i _ rfl _ rfl _ wz hz.ref.cells.2.2.2) hHeld ?_
        simp only [Act.put, List.setIfInBounds_toArray, List.set_cons_zero, List.set_cons_succ]
        refine callTo 1 (some 55) 38 #[ptr p] (by kernel_rfl) rfl rfl (by rfl) (by kernel_rfl) (hM.moment _ p s c m F hH0.dev) ?_
        rintro e x1 ⟨rfl, hb1⟩
        have hH1 := hH0.step hD hb1
        refine ⟨_, rfl, hH1, ?_⟩
        simp only [Act.put, List.setIfInBounds_toArray, List.set_cons_zero, List.set_cons_succ]
        have hHeld := hH1
        refine takeTo 6 (some 60) (.bool true) rfl rfl (by kernel_rfl) (by kernel_rfl) (by kernel_rfl) (fun _ _ _ h => h) (by rfl) (fun wz _ => run_eqi _ _ rfl _ rfl rfl wz) hHeld ?_
        simp only [Act.put, List.setIfInBounds_toArray, List.set_cons_zero, List.set_cons_succ]
        refine takeTo 7 (some 61) (.bool true) rfl rfl (by kernel_rfl) (by kernel_rfl) (by kernel_rfl) (fun _ _ _ h => h) (by rfl) (fun _ _ => rfl) hHeld ?_
        simp only [Act.put, List.setIfInBounds_toArray, List.set_cons_zero, List.set_cons_succ]
        refine takeTo 8 (some 62) (ptr p) rfl rfl (by kernel_rfl) (by kernel_rfl) (by kernel_rfl) (fun _ _ _ h => h) (by rfl) (fun _ _ => rfl) hHeld ?_
        simp only [Act.put, List.setIfInBounds_toArray, List.set_cons_zero, List.set_cons_succ]
        refine takeTo 10 (some 64) (ptr q) rfl rfl (by kernel_rfl) (by kernel_rfl) (by kernel_rfl) (fun _ _ _ h => h) (by rfl) (fun _ _ => rfl) hHeld ?_
        simp only [Act.put, List.setIfInBounds_toArray, List.set_cons_zero, List.set_cons_succ]
        refine takeTo 11 (some 65) (ptr q) rfl rfl (by kernel_rfl) (by kernel_rfl) (by kernel_rfl) (fun _ _ _ h => h) (by rfl) (fun _ _ => rfl) hHeld ?_
        simp only [Act.put, List.setIfInBounds_toArray, List.set_cons_zero, List.set_cons_succ]
        refine takeTo 12 (some 66) (.pointer (some ⟨q, 4, none⟩)) rfl rfl (by kernel_rfl) (by kernel_rfl) (by kernel_rfl) (fun _ _ _ h => h) (by rfl) (fun _ _ => rfl) hHeld ?_
        simp only [Act.put, List.setIfInBounds_toArray, List.set_cons_zero, List.set_cons_succ]
        refine takeTo 13 (some 67) (.bool s.dead) rfl rfl (by kernel_rfl) (by kernel_rfl) (by kernel_rfl) (fun _ _ _ h => h) (by rfl) (fun wz hz => run_load_b _ rfl _ rfl _ wz hz.ref.cells.2.2.1) hHeld ?_
        simp only [Act.put, List.setIfInBounds_toArray, List.set_cons_zero, List.set_cons_succ]
        refine callTo 9 (some 63) 36 #[ptr p] (by kernel_rfl) rfl rfl (by rfl) (by kernel_rfl) (hD.isDead _ p s c m F hH1.dev) ?_
        rintro e x2 ⟨rfl, hb2⟩
        have hH2 := hH1.step hD hb2
        refine ⟨_, rfl, hH2, ?_⟩
        simp only [Act.put, List.setIfInBounds_toArray, List.set_cons_zero, List.set_cons_succ]
        have hHeld := hH2
        refine takeTo 14 (some 68) (.bool true) rfl rfl (by kernel_rfl) (by kernel_rfl) (by kernel_rfl) (fun _ _ _ h => h) (by rfl) (fun wz _ => run_eqb _ _ rfl _ rfl rfl wz) hHeld ?_
        simp only [Act.put, List.setIfInBounds_toArray, List.set_cons_zero, List.set_cons_succ]
        refine takeTo 15 (some 69) (.bool true) rfl rfl (by kernel_rfl) (by kernel_rfl) (by kernel_rfl) (fun _ _ _ h => h) (by rfl) (fun _ _ => rfl) hHeld ?_
        simp only [Act.put, List.setIfInBounds_toArray, List.set_cons_zero, List.set_cons_succ]
        refine takeTo 16 (some 70) (.bool true) rfl rfl (by kernel_rfl) (by kernel_rfl) (by kernel_rfl) (fun _ _ _ h => h) (by rfl) (fun _ _ => rfl) hHeld ?_
        simp only [Act.put, List.setIfInBounds_toArray, List.set_cons_zero, List.set_cons_succ]
        refine takeTo 17 (some 71) (ptr p) rfl rfl (by kernel_rfl) (by kernel_rfl) (by kernel_rfl) (fun _ _ _ h => h) (by rfl) (fun _ _ => rfl) hHeld ?_
        simp only [Act.put, List.setIfInBounds_toArray, List.set_cons_zero, List.set_cons_succ]
        refine takeTo 19 (some 73) (ptr q) rfl rfl (by kernel_rfl) (by kernel_rfl) (by kernel_rfl) (fun _ _ _ h => h) (by rfl) (fun _ _ => rfl) hHeld ?_
        simp only [Act.put, List.setIfInBounds_toArray, List.set_cons_zero, List.set_cons_succ]
        refine callTo 18 (some 72) 33 #[ptr p] (by kernel_rfl) rfl rfl (by rfl) (by kernel_rfl) (hD.pending _ p s c m F hH2.dev (by omega)) ?_
        rintro e x3 ⟨rfl, hb3⟩
        have hH3 := hH2.step hD hb3
        refine ⟨_, rfl, hH3, ?_⟩
        simp only [Act.put, List.setIfInBounds_toArray, List.set_cons_zero, List.set_cons_succ]
        have hHeld := hH3
        refine callTo 20 (some 74) 57 #[ptr q] (by kernel_rfl) rfl rfl (by rfl) (by kernel_rfl) (rin_pending hH3.ref hN) ?_
        rintro e x4 ⟨rfl, hxx4⟩
        obtain rfl : x3 = x4 := hxx4.symm
        have hH4 := hH3
        refine ⟨_, rfl, hH4, ?_⟩
        simp only [Act.put, List.setIfInBounds_toArray, List.set_cons_zero, List.set_cons_succ]
        have hHeld := hH4
        refine takeTo 21 (some 75) (.bool true) rfl rfl (by kernel_rfl) (by kernel_rfl) (by kernel_rfl) (fun _ _ _ h => h) (by rfl) (fun wz _ => run_eqi _ _ rfl _ rfl rfl wz) hHeld ?_
        simp only [Act.put, List.setIfInBounds_toArray, List.set_cons_zero, List.set_cons_succ]
        refine takeTo 22 (some 76) (.bool true) rfl rfl (by kernel_rfl) (by kernel_rfl) (by kernel_rfl) (fun _ _ _ h => h) (by rfl) (fun _ _ => rfl) hHeld ?_
        simp only [Act.put, List.setIfInBounds_toArray, List.set_cons_zero, List.set_cons_succ]
        refine takeTo 23 (some 77) (.bool true) rfl rfl (by kernel_rfl) (by kernel_rfl) (by kernel_rfl) (fun _ _ _ h => h) (by rfl) (fun _ _ => rfl) hHeld ?_
        simp only [Act.put, List.setIfInBounds_toArray, List.set_cons_zero, List.set_cons_succ]
        refine takeTo 24 (some 78) (ptr p) rfl rfl (by kernel_rfl) (by kernel_rfl) (by kernel_rfl) (fun _ _ _ h => h) (by rfl) (fun _ _ => rfl) hHeld ?_
        simp only [Act.put, List.setIfInBounds_toArray, List.set_cons_zero, List.set_cons_succ]
        refine takeTo 26 (some 80) (ptr q) rfl rfl (by kernel_rfl) (by kernel_rfl) (by kernel_rfl) (fun _ _ _ h => h) (by rfl) (fun _ _ => rfl) hHeld ?_
        simp only [Act.put, List.setIfInBounds_toArray, List.set_cons_zero, List.set_cons_succ]
        refine callTo 25 (some 79) 34 #[ptr p] (by kernel_rfl) rfl rfl (by rfl) (by kernel_rfl) (hD.writes _ p s c m F hH4.dev (by omega)) ?_
        rintro e x5 ⟨rfl, hb5⟩
        have hH5 := hH4.step hD hb5
        refine ⟨_, rfl, hH5, ?_⟩
        simp only [Act.put, List.setIfInBounds_toArray, List.set_cons_zero, List.set_cons_succ]
        have hHeld := hH5
        refine callTo 27 (some 81) 53 #[ptr q] (by kernel_rfl) rfl rfl (by rfl) (by kernel_rfl) (rin_writes hH5.ref hN) ?_
        rintro e x6 ⟨rfl, hxx6⟩
        obtain rfl : x5 = x6 := hxx6.symm
        have hH6 := hH5
        refine ⟨_, rfl, hH6, ?_⟩
        simp only [Act.put, List.setIfInBounds_toArray, List.set_cons_zero, List.set_cons_succ]
        have hHeld := hH6
        refine takeTo 28 (some 82) (.bool true) rfl rfl (by kernel_rfl) (by kernel_rfl) (by kernel_rfl) (fun _ _ _ h => h) (by rfl) (fun wz _ => run_eqi _ _ rfl _ rfl rfl wz) hHeld ?_
        simp only [Act.put, List.setIfInBounds_toArray, List.set_cons_zero, List.set_cons_succ]
        refine takeTo 29 (some 83) (.bool true) rfl rfl (by kernel_rfl) (by kernel_rfl) (by kernel_rfl) (fun _ _ _ h => h) (by rfl) (fun _ _ => rfl) hHeld ?_
        simp only [Act.put, List.setIfInBounds_toArray, List.set_cons_zero, List.set_cons_succ]
        refine takeTo 30 (some 84) (.bool true) rfl rfl (by kernel_rfl) (by kernel_rfl) (by kernel_rfl) (fun _ _ _ h => h) (by rfl) (fun _ _ => rfl) hHeld ?_
        simp only [Act.put, List.setIfInBounds_toArray, List.set_cons_zero, List.set_cons_succ]
        refine takeTo 31 (some 85) (ptr p) rfl rfl (by kernel_rfl) (by kernel_rfl) (by kernel_rfl) (fun _ _ _ h => h) (by rfl) (fun _ _ => rfl) hHeld ?_
        simp only [Act.put, List.setIfInBounds_toArray, List.set_cons_zero, List.set_cons_succ]
        refine takeTo 33 (some 87) (ptr q) rfl rfl (by kernel_rfl) (by kernel_rfl) (by kernel_rfl) (fun _ _ _ h => h) (by rfl) (fun _ _ => rfl) hHeld ?_
        simp only [Act.put, List.setIfInBounds_toArray, List.set_cons_zero, List.set_cons_succ]
        refine takeTo 34 (some 88) (ptr q) rfl rfl (by kernel_rfl) (by kernel_rfl) (by kernel_rfl) (fun _ _ _ h => h) (by rfl) (fun _ _ => rfl) hHeld ?_
        simp only [Act.put, List.setIfInBounds_toArray, List.set_cons_zero, List.set_cons_succ]
        refine takeTo 35 (some 89) (.pointer (some ⟨q, 0, none⟩)) rfl rfl (by kernel_rfl) (by kernel_rfl) (by kernel_rfl) (fun _ _ _ h => h) (by rfl) (fun _ _ => rfl) hHeld ?_
        simp only [Act.put, List.setIfInBounds_toArray, List.set_cons_zero, List.set_cons_succ]
        refine takeTo 36 (some 90) (.int .i64 (s.n : Nat)) rfl rfl (by kernel_rfl) (by kernel_rfl) (by kernel_rfl) (fun _ _ _ h => h) (by rfl) (fun wz hz => run_load_i _ rfl _ rfl _ wz hz.ref.cells.2.1) hHeld ?_
        simp only [Act.put, List.setIfInBounds_toArray, List.set_cons_zero, List.set_cons_succ]
        refine callTo 32 (some 86) 35 #[ptr p] (by kernel_rfl) rfl rfl (by rfl) (by kernel_rfl) (hM.size _ p s c m F hH6.dev) ?_
        rintro e x7 ⟨rfl, hb7⟩
        have hH7 := hH6.step hD hb7
        refine ⟨_, rfl, hH7, ?_⟩
        simp only [Act.put, List.setIfInBounds_toArray, List.set_cons_zero, List.set_cons_succ]
        have hHeld := hH7
        refine takeTo 37 (some 91) (.bool true) rfl rfl (by kernel_rfl) (by kernel_rfl) (by kernel_rfl) (fun _ _ _ h => h) (by rfl) (fun wz _ => run_eqi _ _ rfl _ rfl rfl wz) hHeld ?_
        simp only [Act.put, List.setIfInBounds_toArray, List.set_cons_zero, List.set_cons_succ]
        refine takeTo 38 (some 92) (.bool true) rfl rfl (by kernel_rfl) (by kernel_rfl) (by kernel_rfl) (fun _ _ _ h => h) (by rfl) (fun _ _ => rfl) hHeld ?_
        simp only [Act.put, List.setIfInBounds_toArray, List.set_cons_zero, List.set_cons_succ]
        refine takeTo 39 (some 4) (.bool true) rfl rfl (by kernel_rfl) (by kernel_rfl) (by kernel_rfl) (fun _ _ _ h => h) (by rfl) (fun _ _ => rfl) hHeld ?_
        simp only [Act.put, List.setIfInBounds_toArray, List.set_cons_zero, List.set_cons_succ]
        refine wpAnyH_done (by kernel_rfl) ?_ _
        go_wp2
        go_ret
        exact ⟨rfl, hH7.bel⟩
    · have i0 : ¬ (k : Int) < (s.n : Int) := by omega
      go_wp2
      have hH0 : SameS D N w p q s c m F G wr.drew := hH.step hD (Below.refl _ wr).drew
      refine wp_region_held_drew (S := SameS D N w p q s c m F G) (by kernel_rfl) hH0 (fun hHeld => ?_)
      obtain ⟨x0, hx0⟩ : ∃ x0, x0 = wr.drew := ⟨_, rfl⟩
      rw [← hx0] at hH0 hHeld ⊢
      refine takeTo 0 (some 54) (ptr p) rfl rfl (by kernel_rfl) (by kernel_rfl) (by kernel_rfl) (fun _ _ _ h => h) (by rfl) (fun _ _ => rfl) hHeld ?_
      simp only [Act.put, List.setIfInBounds_toArray, List.set_cons_zero, List.set_cons_succ]
      refine takeTo 2 (some 56) (ptr q) rfl rfl (by kernel_rfl) (by kernel_rfl) (by kernel_rfl) (fun _ _ _ h => h) (by rfl) (fun _ _ => rfl) hHeld ?_
      simp only [Act.put, List.setIfInBounds_toArray, List.set_cons_zero, List.set_cons_succ]
      refine takeTo 3 (some 57) (ptr q) rfl rfl (by kernel_rfl) (by kernel_rfl) (by kernel_rfl) (fun _ _ _ h => h) (by rfl) (fun _ _ => rfl) hHeld ?_
      simp only [Act.put, List.setIfInBounds_toArray, List.set_cons_zero, List.set_cons_succ]
      refine takeTo 4 (some 58) (.pointer (some ⟨q, 5, none⟩)) rfl rfl (by kernel_rfl) (by kernel_rfl) (by kernel_rfl) (fun _ _ _ h => h) (by rfl) (fun _ _ => rfl) hHeld ?_
      simp only [Act.put, List.setIfInBounds_toArray, List.set_cons_zero, List.set_cons_succ]
      refine takeTo 5 (some 59) (.int .i64 (m : Nat)) rfl rfl (by kernel_rfl) (by kernel_rfl) (by kernel_rfl) (fun _ _ _ h => h) (by rfl) (fun wz hz => run_load_i _ rfl _ rfl _ wz hz.ref.cells.2.2.2) hHeld ?_
      simp only [Act.put, List.setIfInBounds_toArray, List.set_cons_zero, List.set_cons_succ]
      refine callTo 1 (some 55) 38 #[ptr p] (by kernel_rfl) rfl rfl (by rfl) (by kernel_rfl) (hM.moment _ p s c m F hH0.dev) ?_
      rintro e x1 ⟨rfl, hb1⟩
      have hH1 := hH0.step hD hb1
      refine ⟨_, rfl, hH1, ?_⟩
      simp only [Act.put, List.setIfInBounds_toArray, List.set_cons_zero, List.set_cons_succ]
      have hHeld := hH1
      refine takeTo 6 (some 60) (.bool true) rfl rfl (by kernel_rfl) (by kernel_rfl) (by kernel_rfl) (fun _ _ _ h => h) (by rfl) (fun wz _ => run_eqi _ _ rfl _ rfl rfl wz) hHeld ?_
      simp only [Act.put, List.setIfInBounds_toArray, List.set_cons_zero, List.set_cons_succ]
      refine takeTo 7 (some 61) (.bool true) rfl rfl (by kernel_rfl) (by kernel_rfl) (by kernel_rfl) (fun _ _ _ h => h) (by rfl) (fun _ _ => rfl) hHeld ?_
      simp only [Act.put, List.setIfInBounds_toArray, List.set_cons_zero, List.set_cons_succ]
      refine takeTo 8 (some 62) (ptr p) rfl rfl (by kernel_rfl) (by kernel_rfl) (by kernel_rfl) (fun _ _ _ h => h) (by rfl) (fun _ _ => rfl) hHeld ?_
      simp only [Act.put, List.setIfInBounds_toArray, List.set_cons_zero, List.set_cons_succ]
      refine takeTo 10 (some 64) (ptr q) rfl rfl (by kernel_rfl) (by kernel_rfl) (by kernel_rfl) (fun _ _ _ h => h) (by rfl) (fun _ _ => rfl) hHeld ?_
      simp only [Act.put, List.setIfInBounds_toArray, List.set_cons_zero, List.set_cons_succ]
      refine takeTo 11 (some 65) (ptr q) rfl rfl (by kernel_rfl) (by kernel_rfl) (by kernel_rfl) (fun _ _ _ h => h) (by rfl) (fun _ _ => rfl) hHeld ?_
      simp only [Act.put, List.setIfInBounds_toArray, List.set_cons_zero, List.set_cons_succ]
      refine takeTo 12 (some 66) (.pointer (some ⟨q, 4, none⟩)) rfl rfl (by kernel_rfl) (by kernel_rfl) (by kernel_rfl) (fun _ _ _ h => h) (by rfl) (fun _ _ => rfl) hHeld ?_
      simp only [Act.put, List.setIfInBounds_toArray, List.set_cons_zero, List.set_cons_succ]
      refine takeTo 13 (some 67) (.bool s.dead) rfl rfl (by kernel_rfl) (by kernel_rfl) (by kernel_rfl) (fun _ _ _ h => h) (by rfl) (fun wz hz => run_load_b _ rfl _ rfl _ wz hz.ref.cells.2.2.1) hHeld ?_
      simp only [Act.put, List.setIfInBounds_toArray, List.set_cons_zero, List.set_cons_succ]
      refine callTo 9 (some 63) 36 #[ptr p] (by kernel_rfl) rfl rfl (by rfl) (by kernel_rfl) (hD.isDead _ p s c m F hH1.dev) ?_
      rintro e x2 ⟨rfl, hb2⟩
      have hH2 := hH1.step hD hb2
      refine ⟨_, rfl, hH2, ?_⟩
      simp only [Act.put, List.setIfInBounds_toArray, List.set_cons_zero, List.set_cons_succ]
      have hHeld := hH2
      refine takeTo 14 (some 68) (.bool true) rfl rfl (by kernel_rfl) (by kernel_rfl) (by kernel_rfl) (fun _ _ _ h => h) (by rfl) (fun wz _ => run_eqb _ _ rfl _ rfl rfl wz) hHeld ?_
      simp only [Act.put, List.setIfInBounds_toArray, List.set_cons_zero, List.set_cons_succ]
      refine takeTo 15 (some 69) (.bool true) rfl rfl (by kernel_rfl) (by kernel_rfl) (by kernel_rfl) (fun _ _ _ h => h) (by rfl) (fun _ _ => rfl) hHeld ?_
      simp only [Act.put, List.setIfInBounds_toArray, List.set_cons_zero, List.set_cons_succ]
      refine takeTo 16 (some 70) (.bool true) rfl rfl (by kernel_rfl) (by kernel_rfl) (by kernel_rfl) (fun _ _ _ h => h) (by rfl) (fun _ _ => rfl) hHeld ?_
      simp only [Act.put, List.setIfInBounds_toArray, List.set_cons_zero, List.set_cons_succ]
      refine takeTo 17 (some 71) (ptr p) rfl rfl (by kernel_rfl) (by kernel_rfl) (by kernel_rfl) (fun _ _ _ h => h) (by rfl) (fun _ _ => rfl) hHeld ?_
      simp only [Act.put, List.setIfInBounds_toArray, List.set_cons_zero, List.set_cons_succ]
      refine takeTo 19 (some 73) (ptr q) rfl rfl (by kernel_rfl) (by kernel_rfl) (by kernel_rfl) (fun _ _ _ h => h) (by rfl) (fun _ _ => rfl) hHeld ?_
      simp only [Act.put, List.setIfInBounds_toArray, List.set_cons_zero, List.set_cons_succ]
      refine callTo 18 (some 72) 33 #[ptr p] (by kernel_rfl) rfl rfl (by rfl) (by kernel_rfl) (hD.pending _ p s c m F hH2.dev (by omega)) ?_
      rintro e x3 ⟨rfl, hb3⟩
      have hH3 := hH2.step hD hb3
      refine ⟨_, rfl, hH3, ?_⟩
      simp only [Act.put, List.setIfInBounds_toArray, List.set_cons_zero, List.set_cons_succ]
      have hHeld := hH3
      refine callTo 20 (some 74) 57 #[ptr q] (by kernel_rfl) rfl rfl (by rfl) (by kernel_rfl) (rin_pending hH3.ref hN) ?_
      rintro e x4 ⟨rfl, hxx4⟩
      obtain rfl : x3 = x4 := hxx4.symm
      have hH4 := hH3
      refine ⟨_, rfl, hH4, ?_⟩
      simp only [Act.put, List.setIfInBounds_toArray, List.set_cons_zero, List.set_cons_succ]
      have hHeld := hH4
      refine takeTo 21 (some 75) (.bool true) rfl rfl (by kernel_rfl) (by kernel_rfl) (by kernel_rfl) (fun _ _ _ h => h) (by rfl) (fun wz _ => run_eqi _ _ rfl _ rfl rfl wz) hHeld ?_
      simp only [Act.put, List.setIfInBounds_toArray, List.set_cons_zero, List.set_cons_succ]
      refine takeTo 22 (some 76) (.bool true) rfl rfl (by kernel_rfl) (by kernel_rfl) (by kernel_rfl) (fun _ _ _ h => h) (by rfl) (fun _ _ => rfl) hHeld ?_
      simp only [Act.put, List.setIfInBounds_toArray, List.set_cons_zero, List.set_cons_succ]
      refine takeTo 23 (some 77) (.bool true) rfl rfl (by kernel_rfl) (by kernel_rfl) (by kernel_rfl) (fun _ _ _ h => h) (by rfl) (fun _ _ => rfl) hHeld ?_
      simp only [Act.put, List.setIfInBounds_toArray, List.set_cons_zero, List.set_cons_succ]
      refine takeTo 24 (some 78) (ptr p) rfl rfl (by kernel_rfl) (by kernel_rfl) (by kernel_rfl) (fun _ _ _ h => h) (by rfl) (fun _ _ => rfl) hHeld ?_
      simp only [Act.put, List.setIfInBounds_toArray, List.set_cons_zero, List.set_cons_succ]
      refine takeTo 26 (some 80) (ptr q) rfl rfl (by kernel_rfl) (by kernel_rfl) (by kernel_rfl) (fun _ _ _ h => h) (by rfl) (fun _ _ => rfl) hHeld ?_
      simp only [Act.put, List.setIfInBounds_toArray, List.set_cons_zero, List.set_cons_succ]
      refine callTo 25 (some 79) 34 #[ptr p] (by kernel_rfl) rfl rfl (by rfl) (by kernel_rfl) (hD.writes _ p s c m F hH4.dev (by omega)) ?_
      rintro e x5 ⟨rfl, hb5⟩
      have hH5 := hH4.step hD hb5
      refine ⟨_, rfl, hH5, ?_⟩
      simp only [Act.put, List.setIfInBounds_toArray, List.set_cons_zero, List.set_cons_succ]
      have hHeld := hH5
      refine callTo 27 (some 81) 53 #[ptr q] (by kernel_rfl) rfl rfl (by rfl) (by kernel_rfl) (rin_writes hH5.ref hN) ?_
      rintro e x6 ⟨rfl, hxx6⟩
      obtain rfl : x5 = x6 := hxx6.symm
      have hH6 := hH5
      refine ⟨_, rfl, hH6, ?_⟩
      simp only [Act.put, List.setIfInBounds_toArray, List.set_cons_zero, List.set_cons_succ]
      have hHeld := hH6
      refine takeTo 28 (some 82) (.bool true) rfl rfl (by kernel_rfl) (by kernel_rfl) (by kernel_rfl) (fun _ _ _ h => h) (by rfl) (fun wz _ => run_eqi _ _ rfl _ rfl rfl wz) hHeld ?_
      simp only [Act.put, List.setIfInBounds_toArray, List.set_cons_zero, List.set_cons_succ]
      refine takeTo 29 (some 83) (.bool true) rfl rfl (by kernel_rfl) (by kernel_rfl) (by kernel_rfl) (fun _ _ _ h => h) (by rfl) (fun _ _ => rfl) hHeld ?_
      simp only [Act.put, List.setIfInBounds_toArray, List.set_cons_zero, List.set_cons_succ]
      refine takeTo 30 (some 84) (.bool true) rfl rfl (by kernel_rfl) (by kernel_rfl) (by kernel_rfl) (fun _ _ _ h => h) (by rfl) (fun _ _ => rfl) hHeld ?_
      simp only [Act.put, List.setIfInBounds_toArray, List.set_cons_zero, List.set_cons_succ]
      refine takeTo 31 (some 85) (ptr p) rfl rfl (by kernel_rfl) (by kernel_rfl) (by kernel_rfl) (fun _ _ _ h => h) (by rfl) (fun _ _ => rfl) hHeld ?_
      simp only [Act.put, List.setIfInBounds_toArray, List.set_cons_zero, List.set_cons_succ]
      refine takeTo 33 (some 87) (ptr q) rfl rfl (by kernel_rfl) (by kernel_rfl) (by kernel_rfl) (fun _ _ _ h => h) (by rfl) (fun _ _ => rfl) hHeld ?_
      simp only [Act.put, List.setIfInBounds_toArray, List.set_cons_zero, List.set_cons_succ]
      refine takeTo 34 (some 88) (ptr q) rfl rfl (by kernel_rfl) (by kernel_rfl) (by kernel_rfl) (fun _ _ _ h => h) (by rfl) (fun _ _ => rfl) hHeld ?_
      simp only [Act.put, List.setIfInBounds_toArray, List.set_cons_zero, List.set_cons_succ]
      refine takeTo 35 (some 89) (.pointer (some ⟨q, 0, none⟩)) rfl rfl (by kernel_rfl) (by kernel_rfl) (by kernel_rfl) (fun _ _ _ h => h) (by rfl) (fun _ _ => rfl) hHeld ?_
      simp only [Act.put, List.setIfInBounds_toArray, List.set_cons_zero, List.set_cons_succ]
      refine takeTo 36 (some 90) (.int .i64 (s.n : Nat)) rfl rfl (by kernel_rfl) (by kernel_rfl) (by kernel_rfl) (fun _ _ _ h => h) (by rfl) (fun wz hz => run_load_i _ rfl _ rfl _ wz hz.ref.cells.2.1) hHeld ?_
      simp only [Act.put, List.setIfInBounds_toArray, List.set_cons_zero, List.set_cons_succ]
      refine callTo 32 (some 86) 35 #[ptr p] (by kernel_rfl) rfl rfl (by rfl) (by kernel_rfl) (hM.size _ p s c m F hH6.dev) ?_
      rintro e x7 ⟨rfl, hb7⟩
      have hH7 := hH6.step hD hb7
      refine ⟨_, rfl, hH7, ?_⟩
      simp only [Act.put, List.setIfInBounds_toArray, List.set_cons_zero, List.set_cons_succ]
      have hHeld := hH7
      refine takeTo 37 (some 91) (.bool true) rfl rfl (by kernel_rfl) (by kernel_rfl) (by kernel_rfl) (fun _ _ _ h => h) (by rfl) (fun wz _ => run_eqi _ _ rfl _ rfl rfl wz) hHeld ?_
      simp only [Act.put, List.setIfInBounds_toArray, List.set_cons_zero, List.set_cons_succ]
      refine takeTo 38 (some 92) (.bool true) rfl rfl (by kernel_rfl) (by kernel_rfl) (by kernel_rfl) (fun _ _ _ h => h) (by rfl) (fun _ _ => rfl) hHeld ?_
      simp only [Act.put, List.setIfInBounds_toArray, List.set_cons_zero, List.set_cons_succ]
      refine takeTo 39 (some 4) (.bool true) rfl rfl (by kernel_rfl) (by kernel_rfl) (by kernel_rfl) (fun _ _ _ h => h) (by rfl) (fun _ _ => rfl) hHeld ?_
      simp only [Act.put, List.setIfInBounds_toArray, List.set_cons_zero, List.set_cons_succ]
      refine wpAnyH_done (by kernel_rfl) ?_ _
      go_wp2
      go_ret
      exact ⟨rfl, hH7.bel⟩
end Go.Proofs.Ytalcalecmklcoaa

/- A struct's copy into memory that was just made. -/
namespace Go.Proofs.Ytalcalecmklcoaa
open Go.ChangeShapes Go.WideShapes Go.ChangeAt Go.RowKit
set_option linter.unusedVariables false

/-- Only where the operation's slot is d; only at a store. -/
theorem at_dst {ops : Array Oper} {rest : List Oper} {o : Oper} {a : Act} {w : World} {Q : Exit → Act → World → Prop} (d : Tmp) (h : o.dst = some d) (k : wpList Try.prog ops Q (o :: rest) a w) : wpList Try.prog ops Q (o :: rest) a w := k
theorem at_st {ops : Array Oper} {rest : List Oper} {o : Oper} {a : Act} {w : World} {Q : Exit → Act → World → Prop} (t : TypeId) (x y : Operand) (h : o.op = .store t x y) (k : wpList Try.prog ops Q (o :: rest) a w) : wpList Try.prog ops Q (o :: rest) a w := k

/-- One that is guarded and not wanted. -/
theorem wpList_unw {ops : Array Oper} {rest : List Oper} {o : Oper} {a : Act} {w : World} {Q : Exit → Act → World → Prop} (d : Option Tmp) (hd : o.dst = d) (hw : Region.wanted o (yielded ops a.tmps) = false) (h : wpList Try.prog ops Q rest (a.put d undef) w) : wpList Try.prog ops Q (o :: rest) a w :=
  wpList_step fun K hK => by
    subst hd
    rw [if_neg (by rw [hw]; simp)]
    exact hK _ _ h

theorem run_lti {o : Oper} {a : Act} (x y : Operand) (ho : o.op = .binOp .lss 3 x y 3) (p q : Int) (hx : a.eval x = .int .i64 p) (hy : a.eval y = .int .i64 q) (bb : Bool) (h : decide (p < q) = bb) (w : World) : (execOp a.eval o).run Try.prog w = .ok (.value (.bool bb)) w := by
  subst h
  unfold execOp
  simp only [ho, hx, hy]
  go_simp

theorem wpList_copy {ops : Array Oper} {rest : List Oper} {o : Oper} {a : Act} {Q : Exit → Act → World → Prop} (wr : World) (t : TypeId) (Z X : Array Value) (hgd : o.guard = none) (x y : Operand) (ho : o.op = .store t x y)
    (hx : a.eval x = .pointer (some ⟨wr.heap.size, 0, none⟩)) (hy : a.eval y = .agg X) (hi : (Try.prog.info? t).map (·.size) = some X.size) (hs : Z.size = X.size) (h1 : X.all (·.oneCell') = true)
    (h : ∀ w2, Has w2 wr.heap.size t X → Below wr.heap.size wr w2 → wpList Try.prog ops Q rest (a.put o.dst undef) w2) : wpList Try.prog ops Q (o :: rest) a (wr.alloc (.cells Z t)) := by
  have hZ : Has (wr.alloc (.cells Z t)) wr.heap.size t Z := Has.new_at rfl
  refine wpList_store_rowG hgd t x y ho wr.heap.size X hx hy t Z hZ hi hs h1 ?_
  intro w2 hw2
  refine h w2 ?_ ?_
  · rw [hw2]
    exact hZ.setRow _
  · rw [hw2]
    exact below_setRow ((Below.refl _ _).alloc (Nat.le_refl _) _) (Nat.le_refl _) _

theorem wpList_copy_rw {ops : Array Oper} {rest : List Oper} {o : Oper} {a : Act} {Q : Exit → Act → World → Prop} (wr : World) (r : RW) (hgd : o.guard = none) (x y : Operand) (ho : o.op = .store 78 x y)
    (hx : a.eval x = .pointer (some ⟨wr.heap.size, 0, none⟩)) (hy : a.eval y = .agg (rcell r).toArray)
    (h : ∀ w2, Has w2 wr.heap.size 78 (rcell r).toArray → Below wr.heap.size wr w2 → wpList Try.prog ops Q rest (a.put o.dst undef) w2) : wpList Try.prog ops Q (o :: rest) a (wr.alloc (.cells #[.int .i64 0, .slice none 0 0, .bool false, .bool false, .int .i64 0] 78)) :=
  wpList_copy wr _ _ _ hgd x y ho hx hy Try.sizeRw rfl (all_oneCell_toArray (rcell_one r)) h
end Go.Proofs.Ytalcalecmklcoaa

/- What DevicePlays holds in a round: the two devices, its own copy of the script's element, bytes that it may scribble into. -/
namespace Go.Proofs.Ytalcalecmklcoaa
open Go.ChangeShapes Go.WideShapes Go.ChangeAt Go.RowKit
set_option linter.unusedVariables false

def ocell (v : OpV) : List Value := [.int .i64 v.k, .int .i64 v.i, .slice v.a v.L v.C, .slice v.ka v.kl v.kc]

theorem ocell_one (v : OpV) : ∀ u ∈ ocell v, u.oneCell' = true := by
  intro u hu
  simp only [ocell, List.mem_cons, List.not_mem_nil, or_false] at hu
  rcases hu with rfl | rfl | rfl | rfl <;> rfl

theorem Try.sizeOp : (Try.prog.info? 36).map (·.size) = some 4 := by kernel_rfl

theorem run_load_op {o : Oper} {a : Act} (x : Operand) (ho : o.op = .load 36 x) (b off : Nat) (hx : a.eval x = .pointer (some ⟨b, off, none⟩)) (v : OpV) (w : World) (h : OpIn w b off v) : (execOp a.eval o).run Try.prog w = .ok (.value (.agg (ocell v).toArray)) w := by
  have hr := run_loadAt_mid (P := Try.prog) w b off 36 (ocell v) _ (fun j u hu => by
    rcases (show j = 0 ∨ j = 1 ∨ j = 2 ∨ j = 3 ∨ 4 ≤ j by omega) with rfl | rfl | rfl | rfl | hj
    · rw [← hu]; exact h.c0
    · rw [← hu]; exact h.c1
    · rw [← hu]; exact h.c2
    · rw [← hu]; exact h.c3
    · rw [List.getElem?_eq_none (by simpa [ocell] using hj)] at hu
      cases hu) Try.underlying36 rfl Try.sizeOp
  unfold execOp
  simp only [ho, hx, Sem.run_bind, hr]
  rfl

theorem wpList_copy_op {ops : Array Oper} {rest : List Oper} {o : Oper} {a : Act} {Q : Exit → Act → World → Prop} (wr : World) (v : OpV) (hgd : o.guard = none) (x y : Operand) (ho : o.op = .store 36 x y)
    (hx : a.eval x = .pointer (some ⟨wr.heap.size, 0, none⟩)) (hy : a.eval y = .agg (ocell v).toArray)
    (h : ∀ w2, Has w2 wr.heap.size 36 (ocell v).toArray → Below wr.heap.size wr w2 → wpList Try.prog ops Q rest (a.put o.dst undef) w2) : wpList Try.prog ops Q (o :: rest) a (wr.alloc (.cells #[.int .i64 0, .int .i64 0, .slice none 0 0, .slice none 0 0] 36)) :=
  wpList_copy wr _ _ _ hgd x y ho hx hy Try.sizeOp rfl (all_oneCell_toArray (ocell_one v)) h

/-- The block of an address, where there is something. -/
def blk (a : Option Addr) (L k : Nat) : Prop := L ≠ 0 ∧ ∃ o, a = some ⟨k, o, none⟩

/-- Bytes that may be scribbled into. -/
def Scr (w : World) (a : Option Addr) (L : Nat) : Prop := L = 0 ∨ ∃ g o t cur, a = some ⟨g, o, none⟩ ∧ Has w g t cur ∧ ∀ j, j < L → ∃ x : Int, cur[o + j]? = some (.int .u8 x)

theorem Scr.kept {w w' : World} {a : Option Addr} {L : Nat} (h : Scr w a L) (hk : ∀ k, blk a L k → w'.heap[k]? = w.heap[k]?) : Scr w' a L := by
  by_cases h0 : L = 0
  · exact .inl h0
  rcases h with h | ⟨g, o, t, cur, rfl, h1, h2⟩
  · exact .inl h
  · exact .inr ⟨g, o, t, cur, rfl, (hk g ⟨h0, o, rfl⟩).trans h1, h2⟩

theorem Scr.cell {w : World} {a : Option Addr} {L j : Nat} (h : Scr w a L) (hj : j < L) : ∃ g o, a = some ⟨g, o, none⟩ ∧ (∃ x : Int, w.cell? ⟨g, o + j, none⟩ = some (.int .u8 x)) ∧ w.frozen? ⟨g, o + j, none⟩ = false ∧ ∀ y : Int, Scr (w.setCell ⟨g, o + j, none⟩ (.int .u8 y)) a L := by
  rcases h with h | ⟨g, o, t, cur, rfl, h1, h2⟩
  · omega
  · obtain ⟨x, hx⟩ := h2 j hj
    refine ⟨g, o, rfl, ⟨x, (h1.cell (o + j)).trans hx⟩, h1.free _, fun y => .inr ⟨g, o, t, _, rfl, h1.setV (o + j) _, fun i hi => ?_⟩⟩
    obtain ⟨z, hz⟩ := h2 i hi
    by_cases hij : i = j
    · subst hij
      exact ⟨y, by rw [Array.getElem?_setIfInBounds]; simp [(Array.getElem?_eq_some_iff.1 hz).1]⟩
    · exact ⟨z, by rw [Array.getElem?_setIfInBounds]; rw [if_neg (by omega)]; exact hz⟩

theorem read_scr {w w' : World} {E : Int} {v : Value} {f : Nat → Nat} (h : (E ≠ 0 ∧ NoSec v) ∨ (E = 0 ∧ NewSec w w' v f)) : ∃ a L c, v = .slice a L c ∧ L ≤ 64 ∧ Scr w' a L ∧ ∀ k, blk a L k → w.heap.size ≤ k ∧ k < w'.heap.size := by
  rcases h with ⟨_, a, c, rfl⟩ | ⟨_, g, o, c, t, cur, rfl, hc, hg, hh, hv⟩
  · exact ⟨a, 0, c, rfl, by omega, .inl rfl, fun k h => absurd rfl h.1⟩
  · refine ⟨_, 64, c, rfl, Nat.le_refl _, .inr ⟨g, o, t, cur, rfl, hh, fun j hj => ⟨_, hv j hj⟩⟩, ?_⟩
    rintro k ⟨_, o', e⟩
    simp only [Option.some.injEq, Addr.mk.injEq, and_true] at e
    obtain ⟨rfl, rfl⟩ := e
    exact ⟨hg, (Array.getElem?_eq_some_iff.1 hh).1⟩

theorem own_scr {w : World} {base n : Nat} {a : Option Addr} {c : Nat} {f : Nat → Nat} (h : w.ownsRow base 5 1 (.slice a n c) n (bl f n)) : Scr w a n ∧ ∀ k, blk a n k → base ≤ k ∧ k < w.heap.size := by
  rcases h.2 with ⟨h1, h2⟩ | ⟨g, cap, cur, h1, hb, hg, hn, hm, hs, ht⟩
  · injection h1 with h1 h2 h3
    subst h1
    exact ⟨.inl h2, fun k ⟨_, o, e⟩ => by cases e⟩
  · injection h1 with h1 h2 h3
    subst h1
    refine ⟨.inr ⟨g, 0, 5, cur, rfl, hg, fun j hj => ⟨((f j : Nat) : Int), ?_⟩⟩, ?_⟩
    · have := bl_get f n j hj
      rw [← ht, List.getElem?_take_of_lt (by omega), Array.getElem?_toList] at this
      rw [Nat.zero_add]
      exact this
    · rintro k ⟨_, o, e⟩
      simp only [Option.some.injEq, Addr.mk.injEq, and_true] at e
      obtain ⟨rfl, rfl⟩ := e
      exact ⟨hb, (Array.getElem?_eq_some_iff.1 hg).1⟩

variable {D : DevRep} {N B : Nat} {w0 w w' : World} {p q c m m2 b0 : Nat} {s s2 : DS} {F G O : Nat → Prop} {v : OpV}

/-- The two, and blocks O of the call's own that are none of theirs, b0 with the script's element among them. -/
structure Pl (D : DevRep) (N B : Nat) (w0 w : World) (p q : Nat) (s s2 : DS) (c m m2 : Nat) (F G O : Nat → Prop) (b0 : Nat) (v : OpV) : Prop where
  two : Two D N B w0 w p q s s2 c m m2 F G
  out : ∀ k, O k → k < w.heap.size ∧ B ≤ k ∧ ¬ F k ∧ k ≠ c ∧ ¬ G k
  ob : O b0
  oc : Has w b0 36 (ocell v).toArray

theorem Pl.c0 (h : Pl D N B w0 w p q s s2 c m m2 F G O b0 v) : w.cell? ⟨b0, 0, none⟩ = some (.int .i64 v.k) := h.oc.cell 0
theorem Pl.c1 (h : Pl D N B w0 w p q s s2 c m m2 F G O b0 v) : w.cell? ⟨b0, 1, none⟩ = some (.int .i64 v.i) := h.oc.cell 1
theorem Pl.c2 (h : Pl D N B w0 w p q s s2 c m m2 F G O b0 v) : w.cell? ⟨b0, 2, none⟩ = some (.slice v.a v.L v.C) := h.oc.cell 2
theorem Pl.c3 (h : Pl D N B w0 w p q s s2 c m m2 F G O b0 v) : w.cell? ⟨b0, 3, none⟩ = some (.slice v.ka v.kl v.kc) := h.oc.cell 3

theorem Pl.start (hD : DevOk D) {wr : World} (h : Two D N B w0 wr p q s s2 c m m2 F G) (hb : Below wr.heap.size wr w) (h1 : wr.heap.size ≤ b0) (hh : Has w b0 36 (ocell v).toArray) : Pl D N B w0 w p q s s2 c m m2 F G (fun k => k = b0) b0 v :=
  ⟨h.next hD hb, fun k hk => by
    subst hk
    exact ⟨hh.lt, Nat.le_trans h.dev.sz h1, fun hf => absurd (h.dev.lt hD _ hf) (Nat.not_lt.2 h1), fun e => absurd (h.dev.clt hD) (Nat.not_lt.2 (e ▸ h1)), fun hf => absurd (h.ref.lt _ hf) (Nat.not_lt.2 h1)⟩, rfl, hh⟩

/-- Only new memory; some of it may be laid by. -/
theorem Pl.more (hD : DevOk D) (h : Pl D N B w0 w p q s s2 c m m2 F G O b0 v) (hb : Below w.heap.size w w') {O' : Nat → Prop} (hO : ∀ k, O' k → O k ∨ (w.heap.size ≤ k ∧ k < w'.heap.size)) (hb0 : O' b0) : Pl D N B w0 w' p q s s2 c m m2 F G O' b0 v :=
  ⟨h.two.next hD hb, fun k hk => (hO k hk).elim (fun h1 => by obtain ⟨a1, a2⟩ := h.out k h1; exact ⟨Nat.lt_of_lt_of_le a1 hb.size, a2⟩)
    (fun ⟨h1, h2⟩ => ⟨h2, Nat.le_trans h.two.dev.sz h1, fun hf => absurd (h.two.dev.lt hD _ hf) (Nat.not_lt.2 h1), fun e => absurd (h.two.dev.clt hD) (Nat.not_lt.2 (e ▸ h1)), fun hf => absurd (h.two.ref.lt _ hf) (Nat.not_lt.2 h1)⟩), hb0,
    (hb.block b0 (h.out b0 h.ob).1).trans h.oc⟩

theorem Pl.next (hD : DevOk D) (h : Pl D N B w0 w p q s s2 c m m2 F G O b0 v) (hb : Below w.heap.size w w') : Pl D N B w0 w' p q s s2 c m m2 F G O b0 v :=
  h.more hD hb (fun k hk => .inl hk) h.ob

theorem Pl.dev (hD : DevOk D) (h : Pl D N B w0 w p q s s2 c m m2 F G O b0 v) {s' : DS} {m' : Nat} {F' X : Nat → Prop} (ho : Only X w w') (hX : ∀ k, X k → F k ∨ k = c) (hg : Grew w F F') (hi : In D B w0 w' p s' c m' F') : Pl D N B w0 w' p q s' s2 c m' m2 F' G O b0 v ∧ ∀ k, O k → w'.heap[k]? = w.heap[k]? :=
  have hk : ∀ k, O k → w'.heap[k]? = w.heap[k]? := fun k hk => ho.block k (h.out k hk).1 (fun e => (hX k e).elim (h.out k hk).2.2.1 (h.out k hk).2.2.2.1)
  ⟨⟨h.two.devTurn hD (ho.mono hX) hg hi, fun k hO => by
    obtain ⟨a1, a2, a3, a4, a5⟩ := h.out k hO
    exact ⟨Nat.lt_of_lt_of_le a1 ho.size, a2, fun hf => (hg k hf).elim a3 (fun h1 => absurd a1 (Nat.not_lt.2 h1)), a4, a5⟩, h.ob, (hk b0 h.ob).trans h.oc⟩, hk⟩

theorem Pl.ref (hD : DevOk D) (h : Pl D N B w0 w p q s s2 c m m2 F G O b0 v) {N' : Nat} {s2' : DS} {m2' : Nat} {G' : Nat → Prop} (ho : Only G w w') (hg : Grew w G G') (hi : RefF N' w' q s2' m2' G') : Pl D N' B w0 w' p q s s2' c m m2' F G' O b0 v :=
  ⟨h.two.refTurn hD ho hg hi, fun k hO => by
    obtain ⟨a1, a2, a3, a4, a5⟩ := h.out k hO
    exact ⟨Nat.lt_of_lt_of_le a1 ho.size, a2, a3, a4, fun hf => (hg k hf).elim a5 (fun h1 => absurd a1 (Nat.not_lt.2 h1))⟩, h.ob, (ho.block b0 (h.out b0 h.ob).1 (h.out b0 h.ob).2.2.2.2).trans h.oc⟩

/-- Memory that is laid by is turned, the element's copy not. -/
theorem Pl.side (hD : DevOk D) (h : Pl D N B w0 w p q s s2 c m m2 F G O b0 v) {X : Nat → Prop} (ho : Only X w w') (hX : ∀ k, X k → O k ∧ k ≠ b0) : Pl D N B w0 w' p q s s2 c m m2 F G O b0 v :=
  ⟨⟨h.two.dev.only hD ho (fun k hk hx => (h.out k (hX k hx).1).2.2.1 hk) (fun hx => (h.out c (hX c hx).1).2.2.2.1 rfl) (fun k hx => (h.out k (hX k hx).1).2.1),
    h.two.ref.kept (fun k hk => ho.block k (h.two.ref.lt k hk) (fun hx => (h.out k (hX k hx).1).2.2.2.2 hk)), h.two.rb, h.two.ap, h.two.ac⟩,
   fun k hO => by
    obtain ⟨a1, a2⟩ := h.out k hO
    exact ⟨Nat.lt_of_lt_of_le a1 ho.size, a2⟩, h.ob, (ho.block b0 (h.out b0 h.ob).1 (fun hx => (hX b0 hx).2 rfl)).trans h.oc⟩

/-- A script's element, wherever the call's own memory is turned. -/
theorem Pl.bytes (h : Pl D N B w0 w p q s s2 c m m2 F G O b0 v) {x o : Nat} (hop : OpIn w0 x o v) (hB : B = w0.heap.size) : Bytes w v.a v.L v.b := hop.by_.at_.below h.two.dev.below (by omega)
theorem Pl.bools (h : Pl D N B w0 w p q s s2 c m m2 F G O b0 v) {x o : Nat} (hop : OpIn w0 x o v) (hB : B = w0.heap.size) : Bools w v.ka v.kl v.kb := hop.bo.at_.below h.two.dev.below (by omega)

/-- What the round asks of the two: one state, few steps. -/
def Played (D : DevRep) (k : Nat) (w0 w : World) (p q : Nat) : Prop := ∃ s c m F G, Two D k w0.heap.size w0 w p q s s c m m F G ∧ m ≤ k

theorem Played.of {K : Nat} {t t' : DS} {n n' : Nat} (h : Two D N w0.heap.size w0 w p q t t' c n n' F G) (h1 : t = t') (h2 : n = n') (hN : N ≤ K) (hn : n ≤ K) : Played D K w0 w p q := by
  subst h1 h2
  exact ⟨t, c, n, F, G, ⟨h.dev, h.ref.more hN, h.rb, h.ap, h.ac⟩, hn⟩

theorem RefF.free (h : RefF N w q s m G) (j : Nat) : w.frozen? ⟨q, j, none⟩ = false := by
  obtain ⟨Fl, Ll, sp, vF, vL, vS, h, h1, h2, hG⟩ := h
  exact h.has.free j

theorem Grew.same {w : World} {F : Nat → Prop} : Grew w F F := fun _ h => .inl h

/-- A new one of both. -/
theorem two_new (hD : DevOk D) {n : Nat} (h : In D B w0 w p (fresh n) c 0 F) (hn : n ≤ 2048) : ∃ G, Two D 0 B w0 (w.alloc (.cells (rdcells n nilS nilS nilS false 0) 32)) p w.heap.size (fresh n) (fresh n) c 0 0 F G := by
  refine ⟨RFoot w.heap.size nilS nilS nilS [] [], h.alloc hD _, ⟨[], [], [], nilS, nilS, nilS, ?_, Nat.le_refl _, Nat.le_refl _, fun k => Iff.rfl⟩, ?_, ?_, ?_⟩
  · exact ⟨Has.new_at rfl, hn, World.ownsRow_nil _ _ _ _, World.ownsRow_nil _ _ _ _, World.ownsRow_nil _ _ _ _, (fun r hr => by cases hr), (fun r hr => by cases hr), rfl, rfl, (fun k => rfl), (fun g hg => by cases hg), (fun r hr => by cases hr)⟩
  · rintro k (rfl | hk | hk | hk | ⟨r, hr, _⟩ | ⟨r, hr, _⟩)
    · exact h.sz
    · cases hk
    · cases hk
    · cases hk
    · cases hr
    · cases hr
  · rintro k (rfl | hk | hk | hk | ⟨r, hr, _⟩ | ⟨r, hr, _⟩) hf
    · exact absurd (h.lt hD _ hf) (Nat.lt_irrefl _)
    · cases hk
    · cases hk
    · cases hk
    · cases hr
    · cases hr
  · rintro (hk | hk | hk | hk | ⟨r, hr, _⟩ | ⟨r, hr, _⟩)
    · exact absurd (h.clt hD) (Nat.not_lt.2 (Nat.le_of_eq hk.symm))
    · cases hk
    · cases hk
    · cases hk
    · cases hr
    · cases hr
end Go.Proofs.Ytalcalecmklcoaa
