/- How the reference's device lies in memory; Has, Bad. -/
import Derived.Test.YtalcalecmklcoaaDwProg
import Derived.Test.YtalcalecmklcoaaDvFull
namespace Go.Proofs.Ytalcalecmklcoaa
open Go.ChangeShapes Go.WideShapes Go.ChangeAt Go.RowKit
set_option linter.unusedVariables false

/-- One of the reference's entries, and where its bytes lie. -/
structure RW where
  e : AE
  g : Nat

def rby (r : RW) : Value := if r.e.sync then .slice none 0 0 else .slice (some ⟨r.g, 0, none⟩) 64 64
def rcell (r : RW) : List Value := [.int .i64 (r.e.i : Nat), rby r, .bool r.e.sync, .bool r.e.sure, .int .i64 r.e.mo]
def icell (k : Nat) : List Value := [.int .i64 (k : Nat)]

theorem rcell_len (r : RW) : (rcell r).length = 5 := rfl
theorem icell_len (k : Nat) : (icell k).length = 1 := rfl

def rdcells (n : Nat) (vF vL vS : Value) (dead : Bool) (m : Nat) : Array Value := #[.int .i64 (n : Nat), vF, vL, vS, .bool dead, .int .i64 (m : Nat)]

structure RefAt (w : World) (q : Nat) (s : DS) (m : Nat) (Fl Ll : List RW) (sp : List Nat) (vF vL vS : Value) : Prop where
  has : Has w q 32 (rdcells s.n vF vL vS s.dead m)
  n1 : s.n ≤ 2048
  fr : w.ownsRow 0 78 5 vF Fl.length (Fl.flatMap rcell)
  lr : w.ownsRow 0 78 5 vL Ll.length (Ll.flatMap rcell)
  sr : w.ownsRow 0 3 1 vS sp.length (sp.flatMap icell)
  fb : ∀ r ∈ Fl, r.e.sync = false ∧ Has w r.g 5 (cellsN .u8 64 r.e.b)
  lb : ∀ r ∈ Ll, r.e.sync = false → Has w r.g 5 (cellsN .u8 64 r.e.b)
  log : Ll.map (·.e) = s.log
  fst : s.fst = (Fl.map (·.e)).foldl upF (fun _ _ => 0)
  bad : ∀ k, s.bad k = sp.contains k
  apart : ∀ g, vF.ownBlock = some g → vL.ownBlock ≠ some g
  byt : ∀ r ∈ Fl ++ Ll, ∀ j, r.e.b j < 256

/-- All blocks that it hangs on. -/
def RFoot (q : Nat) (vF vL vS : Value) (Fl Ll : List RW) (k : Nat) : Prop := k = q ∨ vF.ownBlock = some k ∨ vL.ownBlock = some k ∨ vS.ownBlock = some k ∨ (∃ r ∈ Fl, k = r.g) ∨ ∃ r ∈ Ll, r.e.sync = false ∧ k = r.g

variable {w w' : World} {q m : Nat} {s : DS} {Fl Ll : List RW} {sp : List Nat} {vF vL vS : Value}

theorem RefAt.lt (h : RefAt w q s m Fl Ll sp vF vL vS) (k : Nat) (hk : RFoot q vF vL vS Fl Ll k) : k < w.heap.size := by
  rcases hk with rfl | hk | hk | hk | ⟨r, hr, rfl⟩ | ⟨r, hr, hs, rfl⟩
  · exact h.has.lt
  · exact (h.fr.lt k hk).2
  · exact (h.lr.lt k hk).2
  · exact (h.sr.lt k hk).2
  · exact (h.fb r hr).2.lt
  · exact (h.lb r hr hs).lt

theorem RefAt.kept (h : RefAt w q s m Fl Ll sp vF vL vS) (hb : ∀ k, RFoot q vF vL vS Fl Ll k → w'.heap[k]? = w.heap[k]?) : RefAt w' q s m Fl Ll sp vF vL vS :=
  ⟨(hb q (.inl rfl)).trans h.has, h.n1, own_kept h.fr (fun g hg => hb g (.inr (.inl hg))), own_kept h.lr (fun g hg => hb g (.inr (.inr (.inl hg)))), own_kept h.sr (fun g hg => hb g (.inr (.inr (.inr (.inl hg))))),
    fun r hr => ⟨(h.fb r hr).1, (hb r.g (.inr (.inr (.inr (.inr (.inl ⟨r, hr, rfl⟩)))))).trans (h.fb r hr).2⟩, fun r hr hs => (hb r.g (.inr (.inr (.inr (.inr (.inr ⟨r, hr, hs, rfl⟩)))))).trans (h.lb r hr hs), h.log, h.fst, h.bad, h.apart, h.byt⟩

theorem RefAt.below (h : RefAt w q s m Fl Ll sp vF vL vS) (hb : Below w.heap.size w w') : RefAt w' q s m Fl Ll sp vF vL vS := h.kept (fun k hk => hb.block k (h.lt k hk))

theorem RefAt.cell (h : RefAt w q s m Fl Ll sp vF vL vS) (j : Nat) : w.cell? ⟨q, j, none⟩ = (rdcells s.n vF vL vS s.dead m)[j]? := h.has.cell j

/-! Blocks that are none of one another. -/
theorem RefAt.fr_q (h : RefAt w q s m Fl Ll sp vF vL vS) : vF.ownBlock ≠ some q := fun hg => by obtain ⟨cur, hc⟩ := own_block h.fr hg; exact cells_ne hc h.has (by decide) rfl
theorem RefAt.lr_q (h : RefAt w q s m Fl Ll sp vF vL vS) : vL.ownBlock ≠ some q := fun hg => by obtain ⟨cur, hc⟩ := own_block h.lr hg; exact cells_ne hc h.has (by decide) rfl
theorem RefAt.sr_q (h : RefAt w q s m Fl Ll sp vF vL vS) : vS.ownBlock ≠ some q := fun hg => by obtain ⟨cur, hc⟩ := own_block h.sr hg; exact cells_ne hc h.has (by decide) rfl
theorem RefAt.sr_lr (h : RefAt w q s m Fl Ll sp vF vL vS) {g : Nat} (h1 : vS.ownBlock = some g) : vL.ownBlock ≠ some g := fun hg => by
  obtain ⟨cur, hc⟩ := own_block h.sr h1
  obtain ⟨cur', hc'⟩ := own_block h.lr hg
  exact cells_ne hc hc' (by decide) rfl
theorem RefAt.sr_fr (h : RefAt w q s m Fl Ll sp vF vL vS) {g : Nat} (h1 : vS.ownBlock = some g) : vF.ownBlock ≠ some g := fun hg => by
  obtain ⟨cur, hc⟩ := own_block h.sr h1
  obtain ⟨cur', hc'⟩ := own_block h.fr hg
  exact cells_ne hc hc' (by decide) rfl
/-- Bytes lie in none of the rows. -/
theorem RefAt.by_rows (h : RefAt w q s m Fl Ll sp vF vL vS) {g : Nat} {b : Nat → Nat} (hg : Has w g 5 (cellsN .u8 64 b)) : g ≠ q ∧ vF.ownBlock ≠ some g ∧ vL.ownBlock ≠ some g ∧ vS.ownBlock ≠ some g :=
  ⟨cells_ne hg h.has (by decide), fun e => by obtain ⟨cur, hc⟩ := own_block h.fr e; exact cells_ne hc hg (by decide) rfl, fun e => by obtain ⟨cur, hc⟩ := own_block h.lr e; exact cells_ne hc hg (by decide) rfl, fun e => by obtain ⟨cur, hc⟩ := own_block h.sr e; exact cells_ne hc hg (by decide) rfl⟩

/-- A row's cells at a place, and its address. -/
theorem row_at {α : Type} {w : World} {e size n : Nat} {v : Value} {l : List α} {g : α → List Value} (hg : ∀ a, (g a).length = size) (h : w.ownsRow 0 e size v n (l.flatMap g)) (hn : l.length = n) (k : Nat) (hk : k < n) :
    ∃ x cap a, v = .slice (some ⟨x, 0, none⟩) n cap ∧ x < w.heap.size ∧ n ≤ cap ∧ l[k]? = some a ∧ ∀ j u, (g a)[j]? = some u → w.cell? ⟨x, k * size + j, none⟩ = some u := by
  obtain ⟨x, cap, rfl, _, hlt⟩ := h.form (by omega)
  obtain ⟨a', cap', e1, hc, _, _, hcell⟩ := own_slice h
  injection e1 with e2 _ e3
  subst e2 e3
  have ha : l[k]? = some (l[k]'(by omega)) := List.getElem?_eq_getElem (by omega)
  refine ⟨x, cap, _, rfl, hlt, hc, ha, fun j u hu => ?_⟩
  have hj : j < size := by rw [← hg (l[k]'(by omega))]; exact (List.getElem?_eq_some_iff.1 hu).1
  refine hcell x rfl _ _ ?_
  rw [flat_at g size hg l k j _ ha hj]
  exact hu

set_option maxRecDepth 100000 in
theorem hasR (h : RefAt w q s m Fl Ll sp vF vL vS) (i : Int) : Calls Try.prog 42 #[ptr q, .int .i64 i] w fun e w' => e = .returned (.bool (decide (0 ≤ i ∧ i < s.n))) ∧ w' = w := by
  have h0 : w.cell? ⟨q, 0, none⟩ = some (.int .i64 (s.n : Nat)) := h.cell 0
  clear h
  by_cases h1 : 0 ≤ i
  · have hd : decide (0 ≤ i ∧ i < s.n) = decide (i < (s.n : Int)) := by simp [h1]
    rw [hd]
    generalize ((s.n : Nat) : Int) = N at h0 ⊢
    go_enter Try.func42, Try.ntmps42
    go_wp2
    go_ret
    exact ⟨rfl, rfl⟩
  · rw [decide_eq_false (fun hh => h1 hh.1)]
    go_enter Try.func42, Try.ntmps42
    go_wp2
    go_ret
    exact ⟨rfl, rfl⟩

set_option maxRecDepth 100000 in
set_option maxHeartbeats 1000000 in
theorem badR (h : RefAt w q s m Fl Ll sp vF vL vS) (i : Int) (hsp : sp.length ≤ 100000) : Calls Try.prog 45 #[ptr q, .int .i64 i] w fun e w' => e = .returned (.bool (decide (0 ≤ i) && s.bad i.toNat)) ∧ w' = w := by
  have h3 : w.cell? ⟨q, 3, none⟩ = some vS := h.cell 3
  have hrow := fun k hk => row_at icell_len h.sr rfl k hk
  obtain ⟨aS, cS, hvS, _⟩ := own_slice h.sr
  subst hvS
  obtain ⟨B, hB⟩ : ∃ B : Bool, B = (decide (0 ≤ i) && s.bad i.toNat) := ⟨_, rfl⟩
  have HB : Hid (B = true ↔ ∃ x ∈ sp, (x : Int) = i) := by
    show B = true ↔ _
    rw [hB, h.bad]
    simp only [Bool.and_eq_true, decide_eq_true_eq, List.contains_iff_mem]
    constructor
    · rintro ⟨h1, h2⟩
      exact ⟨i.toNat, h2, by omega⟩
    · rintro ⟨x, hx, hxi⟩
      exact ⟨by omega, by rw [← hxi]; simpa using hx⟩
  rw [← hB]
  clear h hB
  obtain ⟨n, hn⟩ : ∃ n, n = sp.length := ⟨_, rfl⟩
  rw [← hn] at h3 hrow hsp
  go_enter Try.func45, Try.ntmps45
  go_wp2
  go_loopw [5] (fun iv wr => ∃ k : Nat, k ≤ n ∧ iv = .int .i64 (k : Nat) ∧ wr = w ∧ ∀ x ∈ sp.take k, (x : Int) ≠ i)
    (fun iv _ => n - (intOf iv).toNat)
  case atStart => exact ⟨0, Nat.zero_le _, rfl, rfl, by simp⟩
  case round =>
    obtain ⟨k, hk, rfl, hwr, hno⟩ := hrel
    obtain rfl : w = wr := hwr.symm
    have i1 : (0 : Int) ≤ (k : Int) := by omega
    by_cases hlt : k < n
    · obtain ⟨x, cap, a, hv, hxlt, hcap, ha, hc⟩ := hrow k hlt
      injection hv with hv1 _ hv3
      subst hv1 hv3
      have c0 : w.cell? ⟨x, k, none⟩ = some (.int .i64 (a : Nat)) := by have := hc 0 _ rfl; simpa using this
      have i0 : (k : Int) < (n : Int) := by omega
      clear hrow hc
      by_cases hai : (a : Int) = i
      · have hex : (∃ x ∈ sp, (x : Int) = i) := ⟨a, List.mem_of_getElem? ha, hai⟩
        go_wp2
        go_ret
        exact ⟨by rw [show B = true from HB.out.2 hex]; rfl, rfl⟩
      · go_wp2
        go_roundw
        case rel =>
          refine ⟨k + 1, by omega, by go_num, by trivial, fun y hy => ?_⟩
          rw [List.take_add_one, ha] at hy
          rcases List.mem_append.1 hy with hy | hy
          · exact hno y hy
          · have : y = a := by simpa using hy
            rw [this]
            exact hai
        case measure => simp [intOf]; omega
    · obtain rfl : k = n := by omega
      have hex : ¬ (∃ x ∈ sp, (x : Int) = i) := fun ⟨y, hy, hyi⟩ => hno y (by rw [hn, List.take_length]; exact hy) hyi
      clear hrow
      go_wp2
      go_ret
      exact ⟨by rw [show B = false from Bool.eq_false_iff.2 (fun hb => hex (HB.out.1 hb))]; rfl, rfl⟩
end Go.Proofs.Ytalcalecmklcoaa
