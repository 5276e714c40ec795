/- A device of a call's own: all that it hangs on was made since; step by step. -/
import Derived.Test.YtancebpjfbbcaaaDvSays
namespace Go.Proofs.Ytancebpjfbbcaaa
open Go.ChangeShapes Go.WideShapes Go.ChangeAt Go.RowKit
set_option linter.unusedVariables false

/-- At p there is a device of the call's own (the call began in w0, B blocks being there). -/
structure In (D : DevRep) (B : Nat) (w0 w : World) (p : Nat) (s : DS) (c m : Nat) (F : Nat → Prop) : Prop where
  dev : Dev D w p s c m F
  base : ∀ k, F k → B ≤ k
  cb : B ≤ c
  below : Below B w0 w
  sz : B ≤ w.heap.size

variable {D : DevRep} {B : Nat} {w0 w w' : World} {p c m : Nat} {s : DS} {F : Nat → Prop}

theorem In.lt (h : In D B w0 w p s c m F) (hD : DevOk D) (k : Nat) (hk : F k) : k < w.heap.size := hD.lt h.dev.1 k hk
theorem In.clt (h : In D B w0 w p s c m F) (hD : DevOk D) : c < w.heap.size := hD.clt h.dev.2.1

/-- Whatever is only new. -/
theorem In.next (h : In D B w0 w p s c m F) (hD : DevOk D) (hb : Below w.heap.size w w') : In D B w0 w' p s c m F :=
  ⟨h.dev.below hD hb (Nat.le_refl _), h.base, h.cb, h.below.trans (hb.mono h.sz), Nat.le_trans h.sz hb.size⟩

theorem In.alloc (h : In D B w0 w p s c m F) (hD : DevOk D) (o : Obj) : In D B w0 (w.alloc o) p s c m F := h.next hD ((Below.refl _ _).alloc (Nat.le_refl _) o)

/-- What another one of the call's own may turn. -/
theorem In.only (h : In D B w0 w p s c m F) (hD : DevOk D) {G : Nat → Prop} (hb : Only G w w') (hF : ∀ k, F k → ¬ G k) (hc : ¬ G c) (hG : ∀ k, G k → B ≤ k) : In D B w0 w' p s c m F :=
  ⟨h.dev.only hD hb hF hc, h.base, h.cb, h.below.trans (hb.below hG h.sz), Nat.le_trans h.sz hb.size⟩

theorem In.grew (h : In D B w0 w p s c m F) {G F' : Nat → Prop} {s' : DS} {m' : Nat} (hb : Only G w w') (hG : ∀ k, G k → F k ∨ k = c) (hg : Grew w F F') (hd : Dev D w' p s' c m' F') : In D B w0 w' p s' c m' F' :=
  ⟨hd, fun k hk => (hg k hk).elim (h.base k) (fun h1 => Nat.le_trans h.sz h1), h.cb, h.below.trans (hb.below (fun k hk => (hG k hk).elim (h.base k) (fun h1 => h1 ▸ h.cb)) h.sz), Nat.le_trans h.sz hb.size⟩

/-- Memory that was there is no part of it. -/
theorem In.apart (h : In D B w0 w p s c m F) {a : Option Addr} (ha : True) : apartOf F c a := trivial

/-- Nor is memory that is newer. -/
theorem In.apartNew (h : In D B w0 w p s c m F) (hD : DevOk D) {a : Option Addr} (ha : ∀ b o, a = some ⟨b, o, none⟩ → w.heap.size ≤ b) : apartOf F c a := trivial

theorem in_new (hD : DevOk D) (n : Nat) (h1 : 1 ≤ n) (h2 : n ≤ 2048) (hb : Below B w0 w) (hs : B ≤ w.heap.size) : Calls Try.prog 40 #[.int .i64 (n : Nat)] w fun e w' => ∃ p c F, e = .returned (.tuple #[ptr p, .int .i64 0]) ∧ In D B w0 w' p (fresh n) c 0 F ∧ Below w.heap.size w w' ∧ (∀ k, F k → w.heap.size ≤ k) ∧ w.heap.size ≤ c := by
  refine (hD.new n w h1 h2).mono ?_
  rintro e w' ⟨p, c, F, rfl, hd, hF, hc, hb'⟩
  exact ⟨p, c, F, rfl, ⟨hd, fun k hk => Nat.le_trans hs (hF k hk), Nat.le_trans hs hc, hb.trans (hb'.mono hs), Nat.le_trans hs hb'.size⟩, hb', hF, hc⟩

/-- The state, the clock behind a write. -/
def wrS (s : DS) (i : Int) (b : Nat → Nat) (L m : Nat) : DS := if wrErr s i L = 0 then wroteD s i.toNat (full b L) (m + 1) else s
def tpS (s : DS) (i : Int) (b : Nat → Nat) (L m : Nat) : DS := if wrErr s i L = 0 then tampD s i.toNat (full b L) (m + 1) else s
def wrM (s : DS) (i : Int) (L m : Nat) : Nat := if wrErr s i L = 0 then m + 1 else m
def syS (s : DS) (m : Nat) : DS := if s.dead then s else syncD s m
def spS (s : DS) (i : Int) : DS := if s.dead = false ∧ 0 ≤ i ∧ i < s.n then spoilD s i.toNat else s

theorem in_write (hD : DevOk D) (h : In D B w0 w p s c m F) (i : Int) (a : Option Addr) (L cap : Nat) (b : Nat → Nat) (hi : i64ok i) (hm : m ≤ 100000) (hl : s.log.length ≤ 100000) (hc : L ≤ cap) (hL : L ≤ maxLen) (hn : a = none → L = 0 ∧ cap = 0) (hb : Bytes w a L b) (hb2 : ∀ j, b j < 256) (hap : L = 0 ∨ apartOf F c a) :
    Calls Try.prog 26 #[ptr p, .int .i64 i, .slice a L cap] w fun e w' => e = .returned (.int .i64 (wrErr s i L)) ∧ Only (fun k => F k ∨ k = c) w w' ∧ ∃ F', Grew w F F' ∧ In D B w0 w' p (wrS s i b L m) c (wrM s i L m) F' := by
  refine (hD.write w p s c m F i a L cap b h.dev hi hm hl hc hL hn hb hb2 hap).mono ?_
  rintro e w' ⟨rfl, (⟨he, hbl⟩ | ⟨he, ho, F', hg, hd⟩)⟩
  · refine ⟨rfl, Only.of_below hbl (Nat.le_refl _), F, fun k hk => .inl hk, ?_⟩
    unfold wrS wrM
    rw [if_neg he, if_neg he]
    exact h.next hD hbl
  · refine ⟨rfl, ho, F', hg, ?_⟩
    unfold wrS wrM
    rw [if_pos he, if_pos he]
    exact h.grew ho (fun _ hk => hk) hg hd

theorem in_tamper (hD : DevOk D) (h : In D B w0 w p s c m F) (i : Int) (a : Option Addr) (L cap : Nat) (b : Nat → Nat) (hi : i64ok i) (hm : m ≤ 100000) (hl : s.log.length ≤ 100000) (hc : L ≤ cap) (hL : L ≤ maxLen) (hn : a = none → L = 0 ∧ cap = 0) (hb : Bytes w a L b) (hb2 : ∀ j, b j < 256) (hap : L = 0 ∨ apartOf F c a) :
    Calls Try.prog 24 #[ptr p, .int .i64 i, .slice a L cap] w fun e w' => e = .returned (.tuple #[]) ∧ Only (fun k => F k ∨ k = c) w w' ∧ ∃ F', Grew w F F' ∧ In D B w0 w' p (tpS s i b L m) c (wrM s i L m) F' := by
  refine (hD.tamper w p s c m F i a L cap b h.dev hi hm hl hc hL hn hb hb2 hap).mono ?_
  rintro e w' ⟨rfl, (⟨he, hbl⟩ | ⟨he, ho, F', hg, hd⟩)⟩
  · refine ⟨rfl, Only.of_below hbl (Nat.le_refl _), F, fun k hk => .inl hk, ?_⟩
    unfold tpS wrM
    rw [if_neg he, if_neg he]
    exact h.next hD hbl
  · refine ⟨rfl, ho, F', hg, ?_⟩
    unfold tpS wrM
    rw [if_pos he, if_pos he]
    exact h.grew ho (fun _ hk => hk) hg hd

theorem in_sync (hD : DevOk D) (h : In D B w0 w p s c m F) (hm : m ≤ 100000) (hl : s.log.length ≤ 100000) :
    Calls Try.prog 51 #[ptr p] w fun e w' => e = .returned (.int .i64 (if s.dead then 73 else 0)) ∧ Only F w w' ∧ ∃ F', Grew w F F' ∧ In D B w0 w' p (syS s m) c m F' := by
  refine (hD.sync w p s c m F h.dev hm hl).mono ?_
  rintro e w' ⟨rfl, (⟨he, hbl⟩ | ⟨he, ho, F', hg, hd⟩)⟩
  · refine ⟨rfl, Only.of_below hbl (Nat.le_refl _), F, fun k hk => .inl hk, ?_⟩
    unfold syS
    rw [if_pos he]
    exact h.next hD hbl
  · refine ⟨rfl, ho, F', hg, ?_⟩
    unfold syS
    rw [if_neg (by rw [he]; simp)]
    exact h.grew ho (fun _ hk => .inl hk) hg hd

theorem in_spoil (hD : DevOk D) (h : In D B w0 w p s c m F) (i : Int) (hi : i64ok i) :
    Calls Try.prog 21 #[ptr p, .int .i64 i] w fun e w' => e = .returned (.tuple #[]) ∧ Only F w w' ∧ ∃ F', Grew w F F' ∧ In D B w0 w' p (spS s i) c m F' := by
  refine (hD.spoil w p s c m F i h.dev hi).mono ?_
  rintro e w' ⟨rfl, (⟨he, hbl⟩ | ⟨he, ho, F', hg, hd⟩)⟩
  · refine ⟨rfl, Only.of_below hbl (Nat.le_refl _), F, fun k hk => .inl hk, ?_⟩
    unfold spS
    rw [if_neg he]
    exact h.next hD hbl
  · refine ⟨rfl, ho, F', hg, ?_⟩
    unfold spS
    rw [if_pos he]
    exact h.grew ho (fun _ hk => .inl hk) hg hd

theorem in_kill (hD : DevOk D) (h : In D B w0 w p s c m F) :
    Calls Try.prog 23 #[ptr p] w fun e w' => e = .returned (.tuple #[]) ∧ Only F w w' ∧ ∃ F', Grew w F F' ∧ In D B w0 w' p (killD s) c m F' := by
  refine (hD.kill w p s c m F h.dev).mono ?_
  rintro e w' ⟨rfl, ho, F', hg, hd⟩
  exact ⟨rfl, ho, F', hg, h.grew ho (fun _ hk => .inl hk) hg hd⟩

theorem in_read (hD : DevOk D) (h : In D B w0 w p s c m F) (i : Int) (hi : i64ok i) :
    Calls Try.prog 34 #[ptr p, .int .i64 i] w fun e w' => Below w.heap.size w w' ∧ In D B w0 w' p s c m F ∧ ∃ v, e = .returned (.tuple #[v, .int .i64 (rdErr s i)]) ∧ ((rdErr s i ≠ 0 ∧ NoSec v) ∨ (rdErr s i = 0 ∧ NewSec w w' v (holds s i.toNat))) := by
  refine (hD.read w p s c m F i h.dev hi).mono ?_
  rintro e w' ⟨hb, v, rfl, hv⟩
  exact ⟨hb, h.next hD hb, v, rfl, hv⟩


/-- A call that only tells. -/
theorem in_tells {f : FuncId} {args : Array Value} {v : Value} (hD : DevOk D) (h : In D B w0 w p s c m F) (hc : Calls Try.prog f args w fun e w' => e = .returned v ∧ Below w.heap.size w w') : Calls Try.prog f args w fun e w' => e = .returned v ∧ Below w.heap.size w w' ∧ In D B w0 w' p s c m F :=
  hc.mono fun e w' h' => ⟨h'.1, h'.2, h.next hD h'.2⟩

theorem wrS_len (s : DS) (i : Int) (b : Nat → Nat) (L m : Nat) : (wrS s i b L m).log.length ≤ s.log.length + 1 := by
  unfold wrS
  split
  · simp [wroteD, addD]
  · omega

theorem tpS_len (s : DS) (i : Int) (b : Nat → Nat) (L m : Nat) : (tpS s i b L m).log.length ≤ s.log.length + 1 := by
  unfold tpS
  split
  · simp [tampD, addD]
  · omega

theorem syS_len (s : DS) (m : Nat) : (syS s m).log.length ≤ s.log.length + 1 := by
  unfold syS
  split
  · omega
  · simp [syncD, addD]

theorem wrM_le (s : DS) (i : Int) (L m : Nat) : wrM s i L m ≤ m + 1 := by
  unfold wrM
  split <;> omega

theorem In.congr (h : In D B w0 w p s c m F) {s' : DS} {m' : Nat} (hs : s = s') (hm : m = m') : In D B w0 w p s' c m' F := by subst hs hm; exact h
end Go.Proofs.Ytancebpjfbbcaaa
