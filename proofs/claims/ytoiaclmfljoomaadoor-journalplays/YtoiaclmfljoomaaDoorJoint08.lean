/- Texts that the statements of this stage share, joined: JnRep, JnOpen, JnTell, JnAdd. -/
import Derived.Test.YtoiaclmfljoomaaDoorJoint07

/- journal: how a journal lies in memory. -/
namespace Go.Proofs.YtoiaclmfljoomaaDoor
open Go.ChangeShapes Go.WideShapes Go.ChangeAt Go.RowKit
set_option linter.unusedVariables false

/-- A journal at j, over the device at p of n sectors: its records, how many of them are flushed; its image I in block im. -/
structure JnX (w : World) (j p n : Nat) (rs : List RC) (fl : Nat) (G : Nat → Prop) (im C : Nat) (I : Nat → Nat) (rv : Value) (Cc : Nat → Nat) : Prop where
  str : Has w j 64 #[ptr p, .slice (some ⟨im, 0, none⟩) (64 * n) C, rv, .int .i64 (fl : Nat)]
  img : w.ownsRow 0 5 1 (.slice (some ⟨im, 0, none⟩) (64 * n) C) (64 * n) (bl I (64 * n))
  row : w.ownsRow 0 33 1 rv rs.length (rcells (posOf 0 rs) (Ab im (posOf 0 rs)) Cc)
  cap : capOk (posOf 0 rs) Cc
  std : Stands dgS I (64 * n) rs
  byt : ∀ k, I k < 256
  gj : G j
  gi : G im
  gr : ∀ g, rv.ownBlock = some g → G g
  fle : fl ≤ rs.length
  rby : ∀ r ∈ rs, ∀ k, r.f k < 256

def JnAt (w : World) (j p n : Nat) (rs : List RC) (fl : Nat) (G : Nat → Prop) : Prop := ∃ im C I rv Cc, JnX w j p n rs fl G im C I rv Cc ∧ ∀ k, G k → k < w.heap.size

theorem len_end : ∀ (rs : List RC) (p : Nat), p + rs.length ≤ endOf p rs
  | [], p => Nat.le_refl _
  | r :: rs, p => by
    have := len_end rs (p + 8 + jrnd r.L)
    show p + (rs.length + 1) ≤ endOf (p + 8 + jrnd r.L) rs
    omega

theorem own_slJ {w : World} {b e s n : Nat} {v : Value} {xs : List Value} (h : w.ownsRow b e s v n xs) : ∃ a c, v = .slice a n c ∧ (a = none → n = 0) := by
  rcases h.2 with ⟨rfl, h0⟩ | ⟨g, cap, cur, rfl, _⟩
  · exact ⟨none, 0, by rw [h0], fun _ => h0⟩
  · exact ⟨_, cap, rfl, fun e => by cases e⟩

theorem own_keptJ {w w' : World} {b e sz n : Nat} {v : Value} {xs : List Value} (h : w.ownsRow b e sz v n xs) (hk : ∀ g, v.ownBlock = some g → w'.heap[g]? = w.heap[g]?) : w'.ownsRow b e sz v n xs := by
  refine ⟨h.1, ?_⟩
  rcases h.2 with h0 | ⟨g, cap, cur, rfl, h1, hg, r⟩
  · exact .inl h0
  · exact .inr ⟨g, cap, cur, rfl, h1, (hk g rfl).trans hg, r⟩

theorem JnX.kept {w w' : World} {j p n : Nat} {rs : List RC} {fl : Nat} {G : Nat → Prop} {im C : Nat} {I : Nat → Nat} {rv : Value} {Cc : Nat → Nat} (h : JnX w j p n rs fl G im C I rv Cc) (hk : ∀ k, G k → w'.heap[k]? = w.heap[k]?) : JnX w' j p n rs fl G im C I rv Cc :=
  ⟨(hk j h.gj).trans h.str, own_keptJ h.img (fun g e => by cases e; exact hk im h.gi), own_keptJ h.row (fun g e => hk g (h.gr g e)), h.cap, h.std, h.byt, h.gj, h.gi, h.gr, h.fle, h.rby⟩

theorem JnAt.kept {w w' : World} {j p n : Nat} {rs : List RC} {fl : Nat} {G : Nat → Prop} (h : JnAt w j p n rs fl G) (hs : w.heap.size ≤ w'.heap.size) (hk : ∀ k, G k → w'.heap[k]? = w.heap[k]?) : JnAt w' j p n rs fl G := by
  obtain ⟨im, C, I, rv, Cc, h1, h2⟩ := h
  exact ⟨im, C, I, rv, Cc, h1.kept hk, fun k hk => Nat.lt_of_lt_of_le (h2 k hk) hs⟩

/-- A journal of the call's own, and its device. -/
structure JIn (D : DevRep) (B : Nat) (w0 w : World) (j p : Nat) (s : DS) (c m : Nat) (F : Nat → Prop) (rs : List RC) (fl : Nat) (G : Nat → Prop) : Prop where
  dev : In D B w0 w p s c m F
  jn : JnAt w j p s.n rs fl G
  base : ∀ k, G k → B ≤ k
  ap : ∀ k, G k → Off F c k

variable {D : DevRep} {B : Nat} {w0 w w' : World} {j p c m : Nat} {s : DS} {F : Nat → Prop} {rs : List RC} {fl : Nat} {G : Nat → Prop}

theorem JIn.next (h : JIn D B w0 w j p s c m F rs fl G) (hD : DevOk D) (hb : Below w.heap.size w w') : JIn D B w0 w' j p s c m F rs fl G :=
  ⟨h.dev.next hD hb, h.jn.kept hb.size (fun k hk => hb.block k (by obtain ⟨_, _, _, _, _, _, h2⟩ := h.jn; exact h2 k hk)), h.base, h.ap⟩

theorem JIn.alloc (h : JIn D B w0 w j p s c m F rs fl G) (hD : DevOk D) (o : Obj) : JIn D B w0 (w.alloc o) j p s c m F rs fl G := h.next hD ((Below.refl _ _).alloc (Nat.le_refl _) o)

theorem JIn.lt (h : JIn D B w0 w j p s c m F rs fl G) (k : Nat) (hk : G k) : k < w.heap.size := by
  obtain ⟨_, _, _, _, _, _, h2⟩ := h.jn
  exact h2 k hk

/-- What others of the call's own may turn. -/
theorem JIn.only (h : JIn D B w0 w j p s c m F rs fl G) (hD : DevOk D) {H : Nat → Prop} (hb : Only H w w') (hF : ∀ k, F k → ¬ H k) (hc : ¬ H c) (hG : ∀ k, G k → ¬ H k) (hH : ∀ k, H k → B ≤ k) : JIn D B w0 w' j p s c m F rs fl G :=
  ⟨h.dev.only hD hb hF hc hH, h.jn.kept hb.size (fun k hk => hb.block k (h.lt k hk) (hG k hk)), h.base, h.ap⟩

theorem JIn.sized (h : JIn D B w0 w j p s c m F rs fl G) : Sized rs ∧ endOf 0 rs ≤ 64 * s.n ∧ fl ≤ rs.length ∧ rs.length ≤ 64 * s.n := by
  obtain ⟨_, _, _, _, _, h1, _⟩ := h.jn
  have := len_end rs 0
  have h3 := h1.std.2.2.1
  exact ⟨h1.std.2.1, h3, h1.fle, by omega⟩

/-- The same records. -/
theorem JIn.same (h : JIn D B w0 w j p s c m F rs fl G) {ss : List RC} (hs : rsame rs ss) (hb : ∀ r ∈ ss, ∀ k, r.f k < 256) : JIn D B w0 w j p s c m F ss fl G := by
  obtain ⟨im, C, I, rv, Cc, h1, h2⟩ := h.jn
  refine ⟨h.dev, ⟨im, C, I, rv, Cc, ⟨h1.str, h1.img, ?_, ?_, h1.std.same dgS_congr hs, h1.byt, h1.gj, h1.gi, h1.gr, by rw [← rsame_len hs]; exact h1.fle, hb⟩, h2⟩, h.base, h.ap⟩
  · rw [← posOf_same 0 hs, ← rsame_len hs]
    exact h1.row
  · rw [← posOf_same 0 hs]
    exact h1.cap

/-- What a step of a journal leaves. -/
structure JStep (D : DevRep) (B : Nat) (w0 w w' : World) (j p : Nat) (s' : DS) (c m' : Nat) (F F' : Nat → Prop) (rs' : List RC) (fl' : Nat) (G G' : Nat → Prop) : Prop where
  jin : JIn D B w0 w' j p s' c m' F' rs' fl' G'
  only : Only (fun k => (F k ∨ k = c) ∨ G k) w w'
  grewF : Grew w F F'
  grewG : Grew w G G'

theorem has_own {w : World} {b g N : Nat} {f : Nat → Nat} (h : Has w g 5 (cellsN .u8 N f)) (hb : b ≤ g) (hN : N ≤ maxLen) : w.ownsRow b 5 1 (.slice (some ⟨g, 0, none⟩) N N) N (bl f N) := by
  refine ⟨bl_len _ _, .inr ⟨g, N, cellsN .u8 N f, rfl, hb, h, Nat.le_refl _, hN, by rw [cellsN_size, Nat.mul_one], ?_⟩⟩
  rw [Nat.mul_one, List.take_of_length_le (by rw [Array.length_toList, cellsN_size]; exact Nat.le_refl _)]
  unfold cellsN bl
  simp

theorem own_by {w : World} {b g N C : Nat} {f : Nat → Nat} (h : w.ownsRow b 5 1 (.slice (some ⟨g, 0, none⟩) N C) N (bl f N)) : Bytes w (some ⟨g, 0, none⟩) N f ∧ N ≤ C := by
  obtain ⟨a, c, e, h1, _, h2, _⟩ := own_bytes h
  cases e
  exact ⟨h2, h1⟩

/-- What Format answers. -/
def FormatR (D : DevRep) (B : Nat) (w0 w : World) (p : Nat) (s : DS) (c m : Nat) (F : Nat → Prop) (e : Ending) (w' : World) : Prop :=
  (s.dead = true ∧ e = .returned (.tuple #[.pointer none, .int .i64 73]) ∧ Below w.heap.size w w') ∨
  (s.dead = false ∧ ∃ j s' m' F' G, e = .returned (.tuple #[ptr j, .int .i64 0]) ∧ JIn D B w0 w' j p s' c m' F' [] 0 G ∧ LayD s s' m m' (fun _ => 0) (setParts s.n 0) ∧ Only (fun k => F k ∨ k = c) w w' ∧ Grew w F F' ∧ ∀ k, G k → w.heap.size ≤ k)

theorem stands_nil (N : Nat) : Stands dgS (fun _ => 0) N [] := ⟨trivial, fun r hr => (by cases hr), Nat.zero_le _, fun _ _ _ => rfl⟩

theorem format_in (hD : DevOk D) {w1 w2 w3 : World} {s' : DS} {m' : Nat} {F' : Nat → Prop} {N : Nat} (hN : N = 64 * s.n) (hn : s.n ≤ 1000) (hb1 : Below w.heap.size w w1) (hI1 : In D B w0 w1 p s c m F) (hH2 : Has w2 w1.heap.size 5 (cellsN .u8 N fun _ => 0)) (hb2 : Below w1.heap.size w1 w2) (hL : LayAt D B w0 w2 w3 p s' c m' F F') (hl : LayD s s' m m' (fun _ => 0) (setParts s.n 0)) :
    ∃ G, JIn D B w0 (w3.alloc (.cells #[ptr p, .slice (some ⟨w1.heap.size, 0, none⟩) N N, .slice none 0 0, .int .i64 0] 64)) w3.heap.size p s' c m' F' [] 0 G ∧ Only (fun k => F k ∨ k = c) w (w3.alloc (.cells #[ptr p, .slice (some ⟨w1.heap.size, 0, none⟩) N N, .slice none 0 0, .int .i64 0] 64)) ∧ Grew w F F' ∧ ∀ k, G k → w.heap.size ≤ k := by
  have hbA : Below w3.heap.size w3 (w3.alloc (.cells #[ptr p, .slice (some ⟨w1.heap.size, 0, none⟩) N N, .slice none 0 0, .int .i64 0] 64)) := (Below.refl _ _).alloc (Nat.le_refl _) _
  have hoff : Off F c w1.heap.size := in_off hD hI1
  have hH3 := hL.has hH2 hoff
  have hH4 := hH3.below hbA hH3.lt
  have hnA : Has (w3.alloc (.cells #[ptr p, .slice (some ⟨w1.heap.size, 0, none⟩) N N, .slice none 0 0, .int .i64 0] 64)) w3.heap.size 64 #[ptr p, .slice (some ⟨w1.heap.size, 0, none⟩) N N, .slice none 0 0, .int .i64 0] := Has.new _ _ _
  have hn' := hl.n.1
  have hs12 := hb2.size
  have hs01 := hb1.size
  have hs23 := hL.only.size
  have hlt : w1.heap.size < w2.heap.size := hH2.lt
  subst hN
  refine ⟨fun k => k = w3.heap.size ∨ k = w1.heap.size, ⟨hL.dev.next hD hbA, ⟨w1.heap.size, 64 * s'.n, fun _ => 0, .slice none 0 0, fun _ => 0, ⟨?_, ?_, ⟨rfl, .inl ⟨rfl, rfl⟩⟩, fun i x hx => (by simp [posOf] at hx), stands_nil _, fun _ => Nat.zero_lt_succ _, .inl rfl, .inr rfl, fun g hg => (by cases hg), Nat.le_refl _, fun r hr => (by cases hr)⟩, ?_⟩, ?_, ?_⟩, ?_, ?_, ?_⟩
  · rw [hn']
    exact hnA
  · rw [hn']
    exact has_own hH4 (Nat.zero_le _) (by unfold maxLen; omega)
  · rintro k (rfl | rfl)
    · exact hnA.lt
    · exact hH4.lt
  · rintro k (rfl | rfl)
    · exact hL.dev.sz
    · exact hI1.sz
  · rintro k (rfl | rfl)
    · exact in_off hD hL.dev
    · rintro (h1 | h1)
      · rcases hL.grew _ h1 with h2 | h2
        · exact hoff (.inl h2)
        · omega
      · exact hoff (.inr h1)
  · exact (Only.of_below (hb1.trans (hb2.mono hb1.size)) (Nat.le_refl _)).trans (hL.only.trans (Only.of_below (F := fun k => F k ∨ k = c) hbA (Nat.le_refl _)) (fun _ _ h => h)) (fun _ _ h => h)
  · exact fun k hk => (hL.grew k hk).imp id (fun h => by omega)
  · rintro k (rfl | rfl) <;> omega

set_option maxRecDepth 100000 in
set_option maxHeartbeats 1000000 in
theorem format_c (hD : DevOk D) (hM : DevMore D) (h : In D B w0 w p s c m F) (hbt : Byt s) (hn1 : 1 ≤ s.n) (hn : s.n ≤ 1000) (hm : m ≤ 95000) (hl : s.log.length ≤ 95000) :
    Calls Tryd.prog 11 #[ptr p] w (FormatR D B w0 w p s c m F) := by
  have hs1 := in_tells hD h (hM.size w p s c m F h.dev)
  have hmf : ∀ (fn : Fn) (first cap : Array Value) (w : World), (Instr.makeFunc fn first cap).run Tryd.prog w = .ok (.func fn first cap) w := fun _ _ _ _ => rfl
  obtain ⟨N, hN⟩ : ∃ N, N = 64 * s.n := ⟨_, rfl⟩
  have HN : Hid (N = 64 * s.n) := hN
  have eN : (s.n : Int) * 64 = (N : Int) := by omega
  have hN2 : N ≤ 64000 := by omega
  have hn2 : (s.n : Int) ≤ 1000 := by omega
  have hpn : ∀ w : World, (binOp BinOp.eql 24 (ptr p) (.pointer none)).run Tryd.prog w = .ok (.bool false) w := fun _ => by kernel_rfl
  clear hN
  go_enter Tryd.func11, Tryd.ntmps11
  go_wp2_with (first
    | ((go_at_call 37)
       (refine hs1.mono ?_)
       (rintro e w1 ⟨rfl, hb1, hI1⟩)
       (obtain ⟨w2, hH2, hb2, hmk⟩ := make_has N (by omega) w1)
       (have hI2 := hI1.next hD hb2)
       (have hst := settle_w (E := 0) (C := N) (io := 0) (im := w1.heap.size) (I := fun _ => 0) hD hM hI2 hbt hn hm hl (fun _ => Nat.zero_lt_succ _) (by rw [← HN.out]; exact hH2.bytes) (in_off hD hI1) (by rw [← HN.out]; exact Nat.le_refl _) (Nat.zero_le _))
       (rw [← HN.out] at hst)
       (clear hs1))
    | (refine at_dst 11 rfl ?_; refine wpList_is_w (some 11) (.slice (some ⟨w1.heap.size, 0, none⟩) N N) w2 rfl (by rfl) (hmk _ _ _ _ rfl (by simp [Act.eval]) (by simp [Act.eval])) ?_)
    | ((go_at_call 38)
       (refine Calls.mono hst ?_)
       (intro e w3 hp3)
       (clear hst)
       (rcases hp3 with ⟨hd3, rfl, hb3⟩ | ⟨hd3, rfl, s3, m3, F3, hL3, hl3⟩))
    | (refine at_dst 22 rfl ?_; refine wpList_is (some 22) (.agg #[ptr p, .slice (some ⟨w1.heap.size, 0, none⟩) N N, .slice none 0 0, .int .i64 0]) rfl (by rfl) (by kernel_rfl) ?_)
    | (refine at_dst 23 rfl ?_; refine wpList_is_w (some 23) (ptr w3.heap.size) (w3.alloc (.cells #[ptr p, .slice (some ⟨w1.heap.size, 0, none⟩) N N, .slice none 0 0, .int .i64 0] 64)) rfl (by rfl) (by kernel_rfl) ?_))
  · go_ret2
    exact .inl ⟨hd3, rfl, (hb1.trans (hb2.mono hb1.size)).trans (hb3.mono (Nat.le_trans hb1.size hb2.size))⟩
  · obtain ⟨G, h1, h2, h3, h4⟩ := format_in hD HN.out hn hb1 hI1 hH2 hb2 hL3 hl3
    generalize w3.alloc (.cells #[ptr p, .slice (some ⟨w1.heap.size, 0, none⟩) N N, .slice none 0 0, .int .i64 0] 64) = w4 at h1 h2 ⊢
    go_ret2
    exact .inr ⟨hd3, _, s3, m3, F3, G, rfl, h1, hl3, h2, h3, h4⟩
end Go.Proofs.YtoiaclmfljoomaaDoor

/- journal: Open. -/
namespace Go.Proofs.YtoiaclmfljoomaaDoor
open Go.ChangeShapes Go.WideShapes Go.ChangeAt Go.RowKit
set_option linter.unusedVariables false

variable {D : DevRep} {B : Nat} {w0 w w' : World} {j p c m : Nat} {s : DS} {F : Nat → Prop} {rs : List RC} {fl : Nat} {G : Nat → Prop}

theorem own_some {b N : Nat} {v : Value} {xs : List Value} (h : w.ownsRow b 5 1 v N xs) (hN : 0 < N) : ∃ g C, v = .slice (some ⟨g, 0, none⟩) N C ∧ b ≤ g ∧ g < w.heap.size := by
  rcases h.2 with ⟨_, h0⟩ | ⟨g, cap, cur, rfl, h1, h2, _⟩
  · omega
  · exact ⟨g, cap, rfl, h1, (Array.getElem?_eq_some_iff.1 h2).1⟩

theorem posOf_get : ∀ (rs : List RC) (p i : Nat) (r : RC), rs[i]? = some r → ∃ x, (posOf p rs)[i]? = some x ∧ x.2 = r.L ∧ p ≤ x.1 ∧ x.1 + 8 + jrnd r.L ≤ endOf p rs
  | [], p, i, r, h => by simp at h
  | q :: rs, p, 0, r, h => by
    obtain rfl : q = r := by simpa using h
    exact ⟨(p, q.L), rfl, rfl, Nat.le_refl _, endOf_ge rs _⟩
  | q :: rs, p, i + 1, r, h => by
    obtain ⟨x, h1, h2, h3, h4⟩ := posOf_get rs (p + 8 + jrnd q.L) i r (by simpa using h)
    exact ⟨x, by simpa [posOf] using h1, h2, by omega, h4⟩

theorem rcells_get (q : List (Nat × Nat)) (A : Nat → Option Addr) (Cc : Nat → Nat) (i : Nat) (x : Nat × Nat) (h : q[i]? = some x) : (rcells q A Cc)[i]? = some (.slice (A i) x.2 (Cc i)) := by
  have hi := (List.getElem?_eq_some_iff.1 h).1
  unfold rcells
  rw [List.getElem?_map, List.getElem?_range hi]
  simp [List.getD, h]

theorem row_cell {b n c : Nat} {a : Option Addr} {xs : List Value} (h : w.ownsRow b 33 1 (.slice a n c) n xs) (i : Nat) (u : Value) (hi : xs[i]? = some u) : ∃ g, a = some ⟨g, 0, none⟩ ∧ b ≤ g ∧ g < w.heap.size ∧ w.cell? ⟨g, i, none⟩ = some u := by
  have hl := h.1
  have hil := (List.getElem?_eq_some_iff.1 hi).1
  rcases h.2 with ⟨_, h0⟩ | ⟨g, cap, cur, e, h1, h2, h3, h4, h5, h6⟩
  · omega
  · cases e
    refine ⟨g, rfl, h1, (Array.getElem?_eq_some_iff.1 h2).1, ?_⟩
    rw [cell_of_row w g i cur 33 (0, 0) h2]
    rw [← h6, List.getElem?_take_of_lt (by omega), Array.getElem?_toList] at hi
    exact hi

theorem row_sl {b n c : Nat} {a : Option Addr} {A : Nat → Option Addr} {Cc : Nat → Nat} (h : w.ownsRow b 33 1 (.slice a n c) n (rcells (posOf 0 rs) A Cc)) : Sl w a rs := by
  intro i r hr
  obtain ⟨x, hx, hxL, _⟩ := posOf_get rs 0 i r hr
  obtain ⟨g, rfl, _, hg, hc⟩ := row_cell h i _ (rcells_get _ A Cc i x hx)
  rw [hxL] at hc
  exact ⟨g, 0, A i, Cc i, rfl, hg, by rw [Nat.zero_add]; exact hc⟩

/-- What Open answers. -/
def OpenR (D : DevRep) (B : Nat) (w0 w : World) (p : Nat) (s : DS) (c m : Nat) (F : Nat → Prop) (e : Ending) (w' : World) : Prop :=
  (s.dead = true ∧ e = .returned (.tuple #[.pointer none, .int .i64 73]) ∧ Below w.heap.size w w') ∨
  (s.dead = false ∧ (∃ i, i < s.n ∧ s.bad i = true) ∧ e = .returned (.tuple #[.pointer none, .int .i64 72]) ∧ Below w.heap.size w w') ∨
  (s.dead = false ∧ (∀ i, i < s.n → s.bad i = false) ∧ ∃ j s' m' F' G, e = .returned (.tuple #[ptr j, .int .i64 0]) ∧ JIn D B w0 w' j p s' c m' F' (told dgS (byOf (holds s)) (64 * s.n)) (told dgS (byOf (holds s)) (64 * s.n)).length G ∧
    LayD s s' m m' (clr (toldEnd dgS (byOf (holds s)) (64 * s.n)) (byOf (holds s))) (setParts s.n (toldEnd dgS (byOf (holds s)) (64 * s.n))) ∧ Only (fun k => F k ∨ k = c) w w' ∧ Grew w F F' ∧ ∀ k, G k → w.heap.size ≤ k)

theorem told_pos (dg : Nat → (Nat → Nat) → Nat → Nat) (Bb : Nat → Nat) (N : Nat) : posOf 0 (told dg Bb N) = (reads dg Bb N 0).1 := posOf_recs (dg := dg) (B := Bb) (N := N) (N + 1) 0

theorem told_len (dg : Nat → (Nat → Nat) → Nat → Nat) (Bb : Nat → Nat) (N : Nat) : (told dg Bb N).length = (reads dg Bb N 0).1.length := by
  unfold told recsOf
  rw [List.length_map]

theorem told_byt (dg : Nat → (Nat → Nat) → Nat → Nat) (Bb : Nat → Nat) (N : Nat) (h : ∀ k, Bb k < 256) : ∀ r ∈ told dg Bb N, ∀ k, r.f k < 256 := by
  intro r hr k
  unfold told recsOf at hr
  obtain ⟨x, _, rfl⟩ := List.mem_map.1 hr
  exact h _

/-- All that Open has made, put together. -/
theorem open_in (hD : DevOk D) {w5 w6 : World} {s' : DS} {m' : Nat} {F' : Nat → Prop} {N g C E : Nat} {Bb : Nat → Nat} {rv : Value} {Cc : Nat → Nat} (hN : N = 64 * s.n) (hBb : ∀ k, Bb k < 256) (hE : E = toldEnd dgS Bb N) (hoff : ∀ k, w.heap.size ≤ k → Off F c k) (hBw : B ≤ w.heap.size) (hof : Only (fun k => F k ∨ k = c) w w5) (hg : w.heap.size ≤ g) (hg5 : g < w5.heap.size) (hI5 : In D B w0 w5 p s c m F)
    (himg : w5.ownsRow w.heap.size 5 1 (.slice (some ⟨g, 0, none⟩) N C) N (bl (clr E Bb) N)) (hrow : w5.ownsRow w.heap.size 33 1 rv (told dgS Bb N).length (rcells (posOf 0 (told dgS Bb N)) (Ab g (posOf 0 (told dgS Bb N))) Cc)) (hcap : capOk (posOf 0 (told dgS Bb N)) Cc) (hL : LayAt D B w0 w5 w6 p s' c m' F F') (hn' : s'.n = s.n) :
    ∃ G, JIn D B w0 (w6.alloc (.cells #[ptr p, .slice (some ⟨g, 0, none⟩) N C, rv, .int .i64 ((told dgS Bb N).length : Nat)] 64)) w6.heap.size p s' c m' F' (told dgS Bb N) (told dgS Bb N).length G ∧ Only (fun k => F k ∨ k = c) w (w6.alloc (.cells #[ptr p, .slice (some ⟨g, 0, none⟩) N C, rv, .int .i64 ((told dgS Bb N).length : Nat)] 64)) ∧ Grew w F F' ∧ ∀ k, G k → w.heap.size ≤ k := by
  obtain ⟨cs, hcs⟩ : ∃ cs : Array Value, cs = #[ptr p, .slice (some ⟨g, 0, none⟩) N C, rv, .int .i64 ((told dgS Bb N).length : Nat)] := ⟨_, rfl⟩
  rw [← hcs]
  have hbA : Below w6.heap.size w6 (w6.alloc (.cells cs 64)) := (Below.refl _ _).alloc (Nat.le_refl _) _
  have hnA : Has (w6.alloc (.cells cs 64)) w6.heap.size 64 cs := Has.new _ _ _
  have hs05 := hof.size
  have hs56 := hL.only.size
  have hsB := hI5.sz
  have hnew : ∀ k, w.heap.size ≤ k → k < w5.heap.size → Off F' c k := fun k h1 h2 h4 => h4.elim (fun h5 => (hL.grew k h5).elim (fun h6 => hoff k h1 (.inl h6)) (fun h6 => by omega)) (fun h5 => hoff k h1 (.inr h5))
  have hi6 := own_only himg hL.only (fun x e => by cases e; exact hoff g hg)
  have hr6 := own_only hrow hL.only (fun x e => hoff x (hrow.lt x e).1)
  have hi7 := own_belowJ hi6 hbA
  have hr7 := own_belowJ hr6 hbA
  have hst := told_stands dgS_congr Bb N
  rw [← hE] at hst
  have hrlt : ∀ x, rv.ownBlock = some x → w.heap.size ≤ x ∧ x < w5.heap.size := fun x e => hrow.lt x e
  subst hN
  refine ⟨fun k => k = w6.heap.size ∨ k = g ∨ rv.ownBlock = some k, ⟨hL.dev.next hD hbA, ⟨g, C, clr E Bb, rv, Cc, ⟨?_, ?_, own_monoJ hr7 (Nat.zero_le _), hcap, ?_, clr_lt _ _ hBb, .inl rfl, .inr (.inl rfl), fun x e => .inr (.inr e), Nat.le_refl _, told_byt dgS Bb _ hBb⟩, ?_⟩, ?_, ?_⟩, ?_, ?_, ?_⟩
  · rw [hn', ← hcs]
    exact hnA
  · rw [hn']
    exact own_monoJ hi7 (Nat.zero_le _)
  · rw [hn']
    exact hst
  · rintro k (rfl | rfl | h1)
    · exact hnA.lt
    · have := hbA.size
      omega
    · have := hrlt k h1
      have := hbA.size
      omega
  · rintro k (rfl | rfl | h1)
    · exact hL.dev.sz
    · exact Nat.le_trans hBw hg
    · exact Nat.le_trans hBw (hrlt k h1).1
  · rintro k (rfl | rfl | h1)
    · exact in_off hD hL.dev
    · exact hnew k hg hg5
    · exact hnew k (hrlt k h1).1 (hrlt k h1).2
  · exact hof.trans (hL.only.trans (Only.of_below (F := fun k => F k ∨ k = c) hbA (Nat.le_refl _)) (fun _ _ h => h)) (fun _ _ h => h)
  · exact fun k hk => (hL.grew k hk).imp id (fun h => by omega)
  · rintro k (rfl | rfl | h1)
    · omega
    · exact hg
    · exact (hrlt k h1).1

theorem only_grown {g : Nat} (h : w.grownBy w' (some g)) : Only (fun k => k = g) w w' := ⟨h.os, h.tape, h.output, h.size, fun k hk hn => h.block k hk (fun e => hn (by cases e; rfl))⟩

/-- Only at clear. -/
theorem at_clr {ops : Array Oper} {rest : List Oper} {o : Oper} {a : Act} {w : World} {Q : Exit → Act → World → Prop} (x : Operand) (h : o.op = .call { callee := .builtin .clear, args := #[x], argTypes := #[33] }) (k : wpList Tryd.prog ops Q (o :: rest) a w) : wpList Tryd.prog ops Q (o :: rest) a w := k

theorem in_offs (hD : DevOk D) (h : In D B w0 w p s c m F) (k : Nat) (hk : w.heap.size ≤ k) : Off F c k := by
  rintro (h1 | h1)
  · exact absurd (h.lt hD _ h1) (by omega)
  · exact absurd (h.clt hD) (by omega)

set_option maxRecDepth 100000 in
set_option maxHeartbeats 2000000 in
theorem open_c (hD : DevOk D) (hM : DevMore D) (hG : Glob Hc Kc w0) (hB1 : 1 < B) (h : In D B w0 w p s c m F) (hbt : Byt s) (hn1 : 1 ≤ s.n) (hn : s.n ≤ 1000) (hm : m ≤ 95000) (hl : s.log.length ≤ 95000) :
    Calls Tryd.prog 19 #[ptr p] w (OpenR D B w0 w p s c m F) := by
  have hh := held_c hD hM h.dev hn1 hn
  have hGw := hG.below h.below hB1
  have hpn : ∀ w : World, (binOp BinOp.eql 24 (ptr p) (.pointer none)).run Tryd.prog w = .ok (.bool false) w := fun _ => by kernel_rfl
  have hoff := in_offs hD h
  have hBb : ∀ k, byOf (holds s) k < 256 := fun k => hbt.holds _ _
  unfold OpenR
  obtain ⟨Bb, hBe⟩ : ∃ Bb, Bb = byOf (holds s) := ⟨_, rfl⟩
  have HBe : Hid (Bb = byOf (holds s)) := hBe
  unfold HeldR at hh
  rw [← hBe] at hh hBb ⊢
  obtain ⟨N, hN⟩ : ∃ N, N = 64 * s.n := ⟨_, rfl⟩
  have HN : Hid (N = 64 * s.n) := hN
  rw [← hN] at hh ⊢
  have hN2 : N ≤ 64000 := by omega
  have hN1 : 0 < N := by omega
  obtain ⟨t1, t2, t3, t4⟩ := told_laid dgS Bb N
  have tp := told_pos dgS Bb N
  have tl := told_len dgS Bb N
  obtain ⟨rs, hrs⟩ : ∃ rs, rs = told dgS Bb N := ⟨_, rfl⟩
  have HR : Hid (rs = told dgS Bb N) := hrs
  obtain ⟨E, hE⟩ : ∃ E, E = toldEnd dgS Bb N := ⟨_, rfl⟩
  have HE : Hid (E = toldEnd dgS Bb N) := hE
  obtain ⟨R, hR⟩ : ∃ R, R = rs.length := ⟨_, rfl⟩
  have HRL : Hid (R = rs.length) := hR
  rw [← hrs, ← hE] at t2
  rw [← hrs] at t1 t3 tp tl ⊢
  rw [← hE] at t4 ⊢
  have hRN := len_end rs 0
  have hRN2 : R ≤ 64000 := by omega
  clear hBe hN hrs hE t1 hRN hR
  go_enter Tryd.func19, Tryd.ntmps19
  go_wp2_with (first
    | ((go_at_call 50)
       (refine Calls.mono hh ?_)
       (rintro e w1 ⟨hb1, (⟨hd, rfl⟩ | ⟨hd, hbd, rfl⟩ | ⟨hd, hgd, v1, rfl, ho1⟩)⟩)
       (clear hh)))
  · go_ret2
    exact .inl ⟨hd, rfl, hb1⟩
  · go_ret2
    exact .inr (.inl ⟨hd, hbd, rfl, hb1⟩)
  · obtain ⟨g, C, rfl, hg, hg1⟩ := own_some ho1 hN1
    obtain ⟨hB1', hNC⟩ := own_by ho1
    have hst := standing_c (hGw.below hb1 hGw.1) hN2 hNC hB1' hBb
    obtain ⟨X, hX⟩ : ∃ X : Addr, X = (if C = E then ⟨g, 0, none⟩ else ⟨g, 0 + E, none⟩) := ⟨_, rfl⟩
    have HX : Hid (X = (if C = E then ⟨g, 0, none⟩ else ⟨g, 0 + E, none⟩)) := hX
    clear hX
    have HD : Hid (s.dead = false) := hd
    have HGD : Hid (∀ i, i < s.n → s.bad i = false) := hgd
    clear hd hgd
    go_wp2_with (first
      | ((go_at_call 51)
         (refine Calls.mono hst ?_)
         (rintro e w2 ⟨hb2, rv, Cc, rfl, hrow, hcap⟩)
         (clear hst)
         (rw [← tp] at hrow hcap)
         (rw [tp, ← tl, ← HRL.out, ← tp] at hrow)
         (obtain ⟨ra, rc, rfl, _⟩ := own_slJ hrow)
         (have hsp := span_j (c := rc) (row_sl hrow) HRL.out (by omega) t3 (by omega))
         (rw [t2] at hsp)
         (have hi2 := own_belowJ ho1 hb2)
         (have hb12 := hb1.trans (hb2.mono hb1.size))
         (have hI2 := h.next hD hb12)
         (obtain ⟨w3, hcl, hi3, hg3⟩ := run_clear_own hi2 t4)
         (have hrow2 := own_monoJ hrow hb1.size)
         (have hrow3 := own_keptG hrow2 hi2 (by decide) hg3)
         (have hI3 := hI2.only hD (only_grown hg3) (fun k hk e => hoff g hg (.inl (e ▸ hk))) (fun e => hoff g hg (.inr e.symm)) (fun k hk => by rw [hk]; exact Nat.le_trans h.sz hg))
         (have hb4 : Below w3.heap.size w3 (w3.alloc (.cells #[ptr p] 24)) := (Below.refl _ _).alloc (Nat.le_refl _) _)
         (have hI4 := hI3.next hD hb4)
         (have hi4 := own_belowJ hi3 hb4)
         (have hrow4 := own_belowJ hrow3 hb4)
         (have hbx : Has (w3.alloc (.cells #[ptr p] 24)) w3.heap.size 24 #[ptr p] := Has.new _ _ _)
         (have hw3 : w.heap.size ≤ w3.heap.size := Nat.le_trans hb12.size hg3.size)
         (have hse := settle_r hD hM hI4 hbt hn hm hl (clr_lt E Bb hBb) (by rw [← HN.out]; exact (own_by hi4).1) (hoff g hg) (by rw [← HN.out]; exact hNC) (by rw [← HN.out]; exact t4) hbx (hoff _ hw3))
         (rw [← HN.out] at hse)
         (have hof4 : Only (fun k => F k ∨ k = c) w (w3.alloc (.cells #[ptr p] 24)) := (Only.of_below hb12 (Nat.le_refl _)).trans (((only_grown hg3).trans (Only.of_below (F := fun k => k = g) hb4 (Nat.le_refl _)) (fun _ _ h => h)).mono (fun k hk => Or.inl hk) : Only (fun k => k = g ∨ False) w2 _) (fun x hx e => by (rcases e with e | e; exact absurd hg (by omega); exact e.elim)))
         (have hrn := renewer_c p w3)
         (generalize w3.alloc (.cells #[ptr p] 24) = w4 at hb4 hI4 hi4 hrow4 hbx hse hrn hof4)
         (have hg4 : g < w4.heap.size := Nat.lt_of_lt_of_le hg1 (Nat.le_trans hb2.size (Nat.le_trans hg3.size hb4.size)))
         (clear hrow hrow2 hrow3 hi2 hi3 hI3 hbx))
      | ((go_at_call 42)
         (refine hsp.mono ?_)
         (rintro e wz ⟨rfl, hz⟩)
         (obtain rfl : w2 = wz := hz.symm)
         (clear hsp))
      | (refine at_dst 25 rfl ?_; refine wpList_is (some 25) (.slice (some X) (N - E) (C - E)) rfl (by rfl) (by rw [HX.out]; exact run_slice_from _ _ rfl g 0 N C E rfl rfl t4 _) ?_)
      | (refine at_clr (.tmp 25) rfl ?_; refine wpList_is_w none (.tuple #[]) w3 rfl (by rfl) (hcl _ _ (.tmp 25) rfl (by rw [← HX.out]; rfl)) ?_)
      | ((go_at_call 45)
         (refine hrn.mono ?_)
         (rintro e wz ⟨rfl, hz⟩)
         (obtain rfl : w4 = wz := hz.symm)
         (clear hrn))
      | ((go_at_call 38)
         (refine Calls.mono hse ?_)
         (rintro e w6 (⟨hd9, _⟩ | ⟨_, rfl, s6, m6, F6, hL6, hl6⟩))
         (case inl => exact absurd (HD.out.symm.trans hd9) (by decide))
         (clear hse))
      | (refine at_dst 40 rfl ?_; refine wpList_is (some 40) (.agg #[ptr p, .slice (some ⟨g, 0, none⟩) N C, .slice ra R rc, .int .i64 (R : Nat)]) rfl (by rfl) (by kernel_rfl) ?_)
      | (refine at_dst 41 rfl ?_; refine wpList_is_w (some 41) (ptr w6.heap.size) (w6.alloc (.cells #[ptr p, .slice (some ⟨g, 0, none⟩) N C, .slice ra R rc, .int .i64 (R : Nat)] 64)) rfl (by rfl) (by kernel_rfl) ?_))
    obtain ⟨G, h1, h2, h3, h4⟩ := open_in (rv := .slice ra R rc) (Cc := Cc) hD HN.out hBb HE.out hoff h.sz hof4 hg hg4 hI4 hi4 (by rw [← HR.out, ← HRL.out]; exact hrow4) (by rw [← HR.out]; exact hcap) hL6 hl6.n.1
    rw [← HR.out, ← HRL.out] at h1 h2
    generalize w6.alloc (.cells #[ptr p, .slice (some ⟨g, 0, none⟩) N C, .slice ra R rc, .int .i64 (R : Nat)] 64) = w7 at h1 h2 ⊢
    go_ret2
    exact .inr (.inr ⟨HD.out, HGD.out, _, s6, m6, F6, G, rfl, by rw [← HRL.out]; exact h1, hl6, h2, h3, h4⟩)
end Go.Proofs.YtoiaclmfljoomaaDoor

/- journal: Free, Flushed, Records. -/
namespace Go.Proofs.YtoiaclmfljoomaaDoor
open Go.ChangeShapes Go.WideShapes Go.ChangeAt Go.RowKit
set_option linter.unusedVariables false

variable {D : DevRep} {B : Nat} {w0 w w' : World} {j p c m n : Nat} {s : DS} {F : Nat → Prop} {rs : List RC} {fl : Nat} {G : Nat → Prop} {im C : Nat} {I : Nat → Nat} {rv : Value} {Cc : Nat → Nat}

theorem jp_nil (j : Nat) (w : World) : (binOp BinOp.eql 28 (ptr j) (.pointer none)).run Tryd.prog w = .ok (.bool false) w := by kernel_rfl

theorem JnX.sl (h : JnX w j p n rs fl G im C I rv Cc) : ∃ ra rc, rv = .slice ra rs.length rc ∧ Sl w ra rs := by
  obtain ⟨ra, rc, rfl, _⟩ := own_slJ h.row
  exact ⟨ra, rc, rfl, row_sl h.row⟩

set_option maxRecDepth 100000 in
set_option maxHeartbeats 1000000 in
theorem free_x (h : JnX w j p n rs fl G im C I rv Cc) (hn : n ≤ 1000) : Calls Tryd.prog 26 #[ptr j] w fun e w' => e = .returned (.int .i64 ((64 * n - endOf 0 rs : Nat) : Int)) ∧ Below w.heap.size w w' := by
  have hE := h.std.2.2.1
  have hlen := len_end rs 0
  have c1 : w.cell? ⟨j, 1, none⟩ = some (.slice (some ⟨im, 0, none⟩) (64 * n) C) := h.str.cell 1
  have c2 : w.cell? ⟨j, 2, none⟩ = some rv := h.str.cell 2
  obtain ⟨ra, rc, rfl, hsl⟩ := h.sl
  have hsp := fun q => span_j (w := w.drewN q) (c := rc) (show Sl (w.drewN q) ra rs from hsl) rfl (by omega) h.std.2.1 (by omega)
  have hpn := jp_nil j
  obtain ⟨N, hN⟩ : ∃ N, N = 64 * n := ⟨_, rfl⟩
  obtain ⟨E, hE2⟩ : ∃ E, E = endOf 0 rs := ⟨_, rfl⟩
  rw [← hN] at c1 hE ⊢
  rw [← hE2] at hE hsp ⊢
  have hN2 : (N : Int) ≤ 64000 := by omega
  have hE3 : (E : Int) ≤ (N : Int) := by omega
  have hE4 : (0 : Int) ≤ (E : Int) := by omega
  have e1 : ((N - E : Nat) : Int) = (N : Int) - (E : Int) := by omega
  rw [e1]
  have ew : IntKind.i64.wrap ((N : Int) - (E : Int)) = (N : Int) - (E : Int) := IntWalk.i64_in _ ⟨by omega, by omega⟩
  clear hN hE2 h hsl e1 hlen hn
  go_enter Tryd.func26, Tryd.ntmps26
  go_wp2
  go_quiet (first | (go_at_call 42; exact Calls.quiet_of_same (hsp _)))
  go_wp2
  go_ret
  exact ⟨by first | rfl | (rw [ew]; rfl), below_drewN (Below.refl _ _) nq⟩

theorem flushed_x (h : JnX w j p n rs fl G im C I rv Cc) (hf : fl ≤ 1000000) : Calls Tryd.prog 25 #[ptr j] w fun e w' => e = .returned (.int .i64 (fl : Nat)) ∧ Below w.heap.size w w' := by
  have c3 : w.cell? ⟨j, 3, none⟩ = some (.int .i64 (fl : Nat)) := h.str.cell 3
  have hpn := jp_nil j
  clear h
  go_enter Tryd.func25, Tryd.ntmps25
  go_wp2
  go_ret
  exact ⟨rfl, Below.refl _ _⟩

theorem laid_at {dg : Nat → (Nat → Nat) → Nat → Nat} {I : Nat → Nat} : ∀ {rs : List RC} {p : Nat}, JLaid dg I p rs → ∀ (i : Nat) (r : RC) (x : Nat × Nat), rs[i]? = some r → (posOf p rs)[i]? = some x → ∀ k, k < r.L → I (x.1 + 8 + k) = r.f k
  | [], p, _, i, r, x, h, _, _, _ => by simp at h
  | q :: rs, p, hl, 0, r, x, h, hx, k, hk => by
    obtain rfl : q = r := by simpa using h
    obtain rfl : (p, q.L) = x := by simpa [posOf] using hx
    exact hl.2.2.1 k hk
  | q :: rs, p, hl, i + 1, r, x, h, hx, k, hk => laid_at hl.2.2.2.2 i r x (by simpa using h) (by simpa [posOf] using hx) k hk

theorem JnX.at_ (h : JnX w j p n rs fl G im C I rv Cc) {i : Nat} {r : RC} (hr : rs[i]? = some r) : ∃ x, (posOf 0 rs)[i]? = some x ∧ x.2 = r.L ∧ x.1 + 8 + r.L ≤ 64 * n ∧ Bytes w (some ⟨im, x.1 + 8, none⟩) r.L r.f ∧ ∃ g rc, rv = .slice (some ⟨g, 0, none⟩) rs.length rc ∧ g < w.heap.size ∧ w.cell? ⟨g, i, none⟩ = some (.slice (some ⟨im, x.1 + 8, none⟩) r.L (Cc i)) := by
  obtain ⟨x, hx, hxL, _, hxe⟩ := posOf_get rs 0 i r hr
  have hE := h.std.2.2.1
  have hj := jrnd_ge r.L
  refine ⟨x, hx, hxL, by omega, ?_, ?_⟩
  · have := (own_by h.img).1.part (x.1 + 8) r.L (by omega)
    rw [Nat.zero_add] at this
    exact this.congr (fun k hk => (laid_at h.std.1 i r x hr hx k hk).symm)
  · have hrow := h.row
    obtain ⟨ra, rc, rfl, _⟩ := own_slJ hrow
    obtain ⟨g, rfl, _, hg, hc⟩ := row_cell hrow i _ (rcells_get _ _ Cc i x hx)
    refine ⟨g, rc, rfl, hg, ?_⟩
    rw [hc, hxL]
    unfold Ab
    rw [List.getD_eq_getElem?_getD, hx]
    rfl

set_option maxHeartbeats 1000000 in
theorem clone_j {w : World} {ad : Addr} {L C : Nat} {f : Nat → Nat} (h : Bytes w (some ad) L f) (hL : L ≤ 140737488355328) :
    Calls Tryd.prog 44 #[.slice (some ad) L C] w fun e w' => Below w.heap.size w w' ∧ ∃ v, e = .returned v ∧ w'.ownsRow w.heap.size 5 1 v L (bl f L) := by
  have hnil : ∀ w : World, (binOp BinOp.eql 33 (.slice (some ad) L C) (.slice none 0 0)).run Tryd.prog w = .ok (.bool false) w := fun _ => by kernel_rfl
  have h2 : Bytes (w.alloc (.cells #[] 5)) (some ad) L f := h.below ((Below.refl _ _).alloc (Nat.le_refl _) _) (Nat.le_refl _)
  go_enter Tryd.func44, Tryd.ntmps44
  go_wp2_with (first
    | ((refine at_dst 7 rfl ?_)
       (refine wpList_append_bytes rfl _ _ rfl w.heap.size _ 0 f rfl (own_emptyJ w f) (some ad) L C f rfl (fun e => by cases e) h2 (by omega) (by simp) ?_)
       (intro v' w' ho hg)))
  go_ret
  rw [Nat.zero_add, cat_zero] at ho
  exact ⟨below_gJ ((Below.refl _ _).alloc (Nat.le_refl _) _) hg (fun g e => by cases e; exact Nat.le_refl _), _, rfl, ho⟩

/-- What Records holds behind k of them. -/
def RcI (w : World) (rs : List RC) (k : Nat) (v : Value) (wr : World) : Prop := ∃ A Cd, wr.ownsRow w.heap.size 33 1 v k (rcells ((posOf 0 rs).take k) A Cd) ∧ (∀ (i : Nat) (r : RC), i < k → rs[i]? = some r → wr.ownsRow w.heap.size 5 1 (.slice (A i) r.L (Cd i)) r.L (bl r.f r.L)) ∧ Below w.heap.size w wr

theorem RcI.done {wr : World} {v : Value} (h : RcI w rs rs.length v wr) (hb : ∀ r ∈ rs, ∀ k, r.f k < 256) (hm : rs.length ≤ maxLen) : Below w.heap.size w wr ∧ ∃ a cp, v = .slice a rs.length cp ∧ Rl wr a rs := by
  obtain ⟨A, Cd, ho, hd, hbel⟩ := h
  obtain ⟨a, cp, rfl, _⟩ := own_slJ ho
  refine ⟨hbel, a, cp, rfl, hm, fun i r hi => ?_⟩
  have hil : i < rs.length := (List.getElem?_eq_some_iff.1 hi).1
  obtain ⟨x, hx, hxL, _⟩ := posOf_get rs 0 i r hi
  rw [List.take_of_length_le (by rw [posOf_len]; exact Nat.le_refl _)] at ho
  obtain ⟨g, rfl, _, hg, hc⟩ := row_cell ho i _ (rcells_get _ A Cd i x hx)
  rw [hxL] at hc
  have h5 := hd i r hil hi
  obtain ⟨a', cap', e, hl, hnil, hy, _⟩ := own_bytes h5
  cases e
  refine ⟨g, 0, A i, Cd i, rfl, hg, by rw [Nat.zero_add]; exact hc, hl, ?_, hnil, hy, hb r (List.mem_of_getElem? hi)⟩
  rcases h5.2 with ⟨h6, h7⟩ | ⟨g2, cap2, cur2, _, _, _, h6, h7, _⟩
  · rw [h7]
    exact Nat.zero_le _
  · exact Nat.le_trans h6 h7

theorem rc_more {wr w2 w3 : World} {k : Nat} {v v3 : Value} {A2 : Option Addr} {C2 : Nat} {r : RC} {A : Nat → Option Addr} {Cd : Nat → Nat} (ho : wr.ownsRow w.heap.size 33 1 v k (rcells ((posOf 0 rs).take k) A Cd)) (hd : ∀ (i : Nat) (r : RC), i < k → rs[i]? = some r → wr.ownsRow w.heap.size 5 1 (.slice (A i) r.L (Cd i)) r.L (bl r.f r.L)) (hbel : Below w.heap.size w wr) (hr : rs[k]? = some r) (hb2 : Below wr.heap.size wr w2) (ho2 : w2.ownsRow wr.heap.size 5 1 (.slice A2 r.L C2) r.L (bl r.f r.L))
    (hg3 : (w2.alloc (.cells #[.slice A2 r.L C2] 33)).grownBy w3 v.ownBlock) (ho3 : w3.ownsRow w.heap.size 33 1 v3 (k + 1) (rcells ((posOf 0 rs).take k) A Cd ++ [.slice A2 r.L C2])) : RcI w rs (k + 1) v3 w3 := by
  obtain ⟨x, hx, hxL, _⟩ := posOf_get rs 0 k r hr
  have hkl : k < (posOf 0 rs).length := (List.getElem?_eq_some_iff.1 hx).1
  have hbA : Below w2.heap.size w2 (w2.alloc (.cells #[.slice A2 r.L C2] 33)) := (Below.refl _ _).alloc (Nat.le_refl _) _
  have hoA := own_belowJ (own_belowJ ho hb2) hbA
  have e : (posOf 0 rs).take (k + 1) = (posOf 0 rs).take k ++ [x] := by
    rw [List.take_add_one, hx]
    rfl
  have hlen : ((posOf 0 rs).take k).length = k := by rw [List.length_take]; omega
  refine ⟨fun i => if i = k then A2 else A i, fun i => if i = k then C2 else Cd i, ?_, ?_, ?_⟩
  · rw [e, rcells_snoc _ x A _ Cd _ A2 C2 (fun i hi => by rw [hlen] at hi; rw [if_neg (by omega), if_neg (by omega)]; exact ⟨rfl, rfl⟩) (by rw [hlen, if_pos rfl]) (by rw [hlen, if_pos rfl]), hxL]
    exact ho3
  · intro i r' hi hr'
    by_cases hik : i = k
    · subst hik
      rw [hr] at hr'
      obtain rfl := Option.some.inj hr'
      simp only [if_pos]
      exact own_keptG (own_belowJ (own_monoJ ho2 hbel.size) hbA) hoA (by decide) hg3
    · simp only [if_neg hik]
      exact own_keptG (own_belowJ (own_belowJ (hd i r' (by omega) hr') hb2) hbA) hoA (by decide) hg3
  · exact below_gJ ((hbel.trans (hb2.mono hbel.size)).trans (hbA.mono (Nat.le_trans hbel.size hb2.size))) hg3 (fun g e => (hoA.lt g e).1)

/-- What Records answers. -/
def RecR (w : World) (rs : List RC) (e : Ending) (w' : World) : Prop := Below w.heap.size w w' ∧ ∃ a cp, e = .returned (.slice a rs.length cp) ∧ Rl w' a rs

set_option maxRecDepth 100000 in
set_option maxHeartbeats 1000000 in
theorem records_x (h : JnX w j p n rs fl G im C I rv Cc) (hG : ∀ k, G k → k < w.heap.size) (hn : n ≤ 1000) : Calls Tryd.prog 24 #[ptr j] w (RecR w rs) := by
  have hE := h.std.2.2.1
  have hlen := len_end rs 0
  have c2 : w.cell? ⟨j, 2, none⟩ = some rv := h.str.cell 2
  have hpn := jp_nil j
  obtain ⟨ra, rc, hrv, hsl⟩ := h.sl
  obtain ⟨K, hK⟩ : ∃ K, K = rs.length := ⟨_, rfl⟩
  have HK : Hid (K = rs.length) := hK
  rw [hrv, ← hK] at c2
  have HV : Hid (rv = .slice ra K rc) := by rw [hK]; exact hrv
  have hK2 : K ≤ 64000 := by omega
  clear hK hrv hsl
  go_enter Tryd.func24, Tryd.ntmps24
  go_wp2
  go_loopw [3, 13] (fun v iv wr => ∃ (k : Nat) (y : Value), k ≤ K ∧ iv = .int .i64 (k : Nat) ∧ v = y ∧ RcI w rs k y wr) (fun _ iv _ => K - (intOf iv).toNat)
  case atStart => exact ⟨0, _, Nat.zero_le _, rfl, rfl, fun _ => none, fun _ => 0, ⟨rfl, .inl ⟨rfl, rfl⟩⟩, fun i r hi => by omega, Below.refl _ _⟩
  case round =>
    obtain ⟨k, v3, hk, rfl, e3, A, Cd, ho, hd, hbel⟩ := hrel
    obtain rfl := e3.symm
    by_cases hlt : k < K
    · have i0 : (k : Int) < (K : Int) := by omega
      have i1 : (0 : Int) ≤ (k : Int) := by omega
      obtain ⟨r, hr⟩ : ∃ r, rs[k]? = some r := ⟨_, List.getElem?_eq_getElem (by rw [← HK.out]; exact hlt)⟩
      obtain ⟨x, hx, hxL, hxe, hxB, g, rc', hv, hg, hc⟩ := h.at_ hr
      have hra : ra = some ⟨g, 0, none⟩ := by
        have h9 := HV.out
        rw [hv] at h9
        injection h9 with h9
        exact h9.symm
      subst hra
      have hcw := (hbel.cell (p := ⟨g, k, none⟩) hg).trans hc
      have hcl := clone_j (C := Cc k) (hxB.below hbel (Nat.le_refl _)) (by omega)
      have hks : k ≤ 100000 := by omega
      obtain ⟨L, hL⟩ : ∃ L, L = r.L := ⟨_, rfl⟩
      have HL : Hid (L = r.L) := hL
      rw [← hL] at hcw hcl
      clear hx hxL hxe hxB hv hc hL
      go_wp2_with (first
        | ((go_at_call 44)
           (refine hcl.mono ?_)
           (rintro e w2 ⟨hb2, v2, rfl, ho2⟩)
           (clear hcl)
           (obtain ⟨A2, C2, rfl, _⟩ := own_slJ ho2)
           (have hoA := own_belowJ (own_belowJ ho hb2) (show Below w2.heap.size w2 (w2.alloc (.cells #[.slice A2 L C2] 33)) from (Below.refl _ _).alloc (Nat.le_refl _) _))
           (have hnc : Has (w2.alloc (.cells #[.slice A2 L C2] 33)) w2.heap.size 33 #[.slice A2 L C2] := Has.new _ _ _)
           (have hszA : w.heap.size ≤ (w2.alloc (.cells #[.slice A2 L C2] 33)).heap.size := Nat.le_trans (Nat.le_trans hbel.size hb2.size) ((Below.refl w2.heap.size w2).alloc (Nat.le_refl _) _).size))
        | ((refine at_dst 21 rfl ?_)
           (refine wpList_append_rec rfl _ _ rfl w.heap.size v3 k _ rfl hoA w2.heap.size _ rfl (hnc.cell 0) rfl hks hszA ?_)
           (intro v4 w3 ho3 hg3)))
      have hfin : RcI w rs (k + 1) v4 w3 := rc_more (r := r) (A2 := A2) (C2 := C2) ho hd hbel hr hb2 (by rw [← HL.out]; exact ho2) (by rw [← HL.out]; exact hg3) (by rw [← HL.out]; exact ho3)
      have HF : Hid (RcI w rs (k + 1) v4 w3) := hfin
      clear hfin ho2 ho3 hg3 ho hd hoA
      go_roundw
      case rel => exact ⟨k + 1, _, by omega, by go_num, rfl, HF.out⟩
      case measure => simp [intOf]; omega
    · obtain rfl : k = K := by omega
      have hd2 := RcI.done (w := w) (rs := rs) (v := v3) (wr := wr) ⟨A, Cd, by rw [← HK.out]; exact ho, by rw [← HK.out]; exact hd, hbel⟩ h.rby (by unfold maxLen; rw [← HK.out]; omega)
      have HD : Hid (Below w.heap.size w wr ∧ ∃ a cp, v3 = .slice a rs.length cp ∧ Rl wr a rs) := hd2
      clear hd2 ho hd
      go_wp2
      go_ret
      obtain ⟨h1, a, cp, rfl, h2⟩ := HD.out
      exact ⟨h1, a, cp, rfl, h2⟩
end Go.Proofs.YtoiaclmfljoomaaDoor

/- journal: Add. -/
namespace Go.Proofs.YtoiaclmfljoomaaDoor
open Go.ChangeShapes Go.WideShapes Go.ChangeAt Go.RowKit
set_option linter.unusedVariables false

variable {D : DevRep} {B : Nat} {w0 w w' : World} {j p c m n : Nat} {s : DS} {F : Nat → Prop} {rs : List RC} {fl : Nat} {G : Nat → Prop} {im C : Nat} {I : Nat → Nat} {rv : Value} {Cc : Nat → Nat}

/-- What Add answers. -/
def addErr (rs : List RC) (N L : Nat) : Int := if L < 1 ∨ 8192 < L then 91 else if N < endOf 0 rs + 8 + jrnd L then 92 else 0

/-- One more slice behind a row of slices: the run alone. -/
theorem run_append_rec (base : Nat) (v : Value) (n : Nat) (xs : List Value) (hown : w.ownsRow base 33 1 v n xs) (g : Nat) (u : Value) (hc : w.cell? ⟨g, 0, none⟩ = some u) (hu : u.oneCell' = true) (hn : n ≤ 100000) (hbase : base ≤ w.heap.size) :
    ∃ g' cap w', (∀ ty, (Builtin.append_ #[32, 32] ty #[v, .slice (some ⟨g, 0, none⟩) 1 1]).run Tryd.prog w = .ok (.slice (some ⟨g', 0, none⟩) (n + 1) cap) w') ∧ w'.ownsRow base 33 1 (.slice (some ⟨g', 0, none⟩) (n + 1) cap) (n + 1) (xs ++ [u]) ∧ w.grownBy w' v.ownBlock ∧ (v.ownBlock = some g' ∨ g' = w.heap.size) ∧ g' < w'.heap.size := by
  obtain ⟨i0, hi, hz0, hz1, hz2⟩ := info_parts Tryd.infoBy
  obtain ⟨g', cap, w', h1, h2, h3, h4, h5⟩ := run_append_lies (P := Tryd.prog) w 32 0 base 33 i0 _ 1 24 Tryd.underlying32 hi hz0 hz1 hz2 rfl (by decide) v n xs hown ⟨g, 0, none⟩ 1 1 [u] rfl (by
    intro j y hj
    cases j with
    | zero =>
      rw [Addr.add_mid, Nat.zero_add, hc]
      simpa using hj
    | succ j => simp at hj) (by
    intro y hy
    obtain rfl : y = u := by simpa using hy
    exact hu) (by decide) (by unfold maxLen; omega) (by omega) hbase w.heap.size rfl
  exact ⟨g', cap, w', fun ty => h1, h2, h3, h4, h5⟩

theorem run_slice_ne {o : Oper} {a : Act} (x l : Operand) (ho : o.op = .slice 33 x (some l) none none) (b off L cap q : Nat) (hx : a.eval x = .slice (some ⟨b, off, none⟩) L cap) (hl : a.eval l = .int .i64 (q : Nat)) (h1 : q ≤ L) (hne : ¬ cap = q) (w : World) :
    (execOp a.eval o).run Tryd.prog w = .ok (.value (.slice (some ⟨b, off + q, none⟩) (L - q) (cap - q))) w := by
  have h9 := run_slice_from x l ho b off L cap q hx hl h1 w
  rw [if_neg hne] at h9
  exact h9

theorem run_load_recs {o : Oper} {a : Act} (x : Operand) (ho : o.op = .load 32 x) (p : Addr) (hx : a.eval x = .pointer (some p)) (v : Value) (w : World) (h : w.cell? p = some v) : (execOp a.eval o).run Tryd.prog w = .ok (.value v) w := by
  unfold execOp
  simp only [ho, hx]
  go_simp

theorem run_store_recs {o : Oper} {a : Act} (x y : Operand) (ho : o.op = .store 32 x y) (p : Addr) (hx : a.eval x = .pointer (some p)) (A : Option Addr) (n c : Nat) (hy : a.eval y = .slice A n c) (w : World) (u : Value) (h : w.cell? p = some u) (hf : w.frozen? p = false) : (execOp a.eval o).run Tryd.prog w = .ok .skip (w.setCell p (.slice A n c)) := by
  unfold execOp
  simp only [ho, hx, hy]
  go_simp

theorem run_add8 {o : Oper} {a : Act} (y : Operand) (ho : o.op = .binOp .add 3 (.const (.int .i64 8)) y 3) (L : Nat) (hy : a.eval y = .int .i64 (L : Nat)) (hL : L ≤ 1000000) (w : World) : (execOp a.eval o).run Tryd.prog w = .ok (.value (.int .i64 (8 + (L : Int)))) w := by
  have h1 : (0 : Int) ≤ (L : Int) := by omega
  have h2 : (L : Int) ≤ 1000000 := by omega
  generalize (L : Int) = z at hy h1 h2 ⊢
  unfold execOp
  simp only [ho, hy]
  go_simp
  exact IntWalk.i64_in _ ⟨by omega, by omega⟩

/-- The cells of a struct, one of them set. -/
theorem has_setJ {g t : Nat} {cs : Array Value} (h : Has w g t cs) (k : Nat) (v : Value) : Has (w.setCell ⟨g, k, none⟩ v) g t (cs.setIfInBounds k v) := by
  have h' : w.heap[g]? = some (.cells cs t (0, 0)) := h
  show (w.setCell ⟨g, k, none⟩ _).heap[g]? = _
  simp only [World.setCell, Array.getElem?_modify, h', if_pos, Option.map_some]
  rfl

theorem only_setJ (w : World) (g k : Nat) (v : Value) : Only (fun x => x = g) w (w.setCell ⟨g, k, none⟩ v) :=
  ⟨rfl, rfl, rfl, by simp [World.setCell], fun x hx hn => by
    simp only [World.setCell, Array.getElem?_modify]
    rw [if_neg (fun e => hn e.symm)]⟩

theorem own_has_ne {b e sz nn g t : Nat} {v : Value} {xs : List Value} {cs : Array Value} (h : w.ownsRow b e sz v nn xs) (hh : Has w g t cs) (hne : e ≠ t) : v.ownBlock ≠ some g := by
  intro e1
  rcases h.2 with ⟨rfl, _⟩ | ⟨g2, cap, cur, rfl, _, hg, _⟩
  · cases e1
  · have e2 : g2 = g := by simpa [Value.ownBlock] using e1
    subst e2
    have hh' : w.heap[g2]? = some (.cells cs t (0, 0)) := hh
    rw [hg] at hh'
    injection hh' with h3
    injection h3 with _ h4 _
    exact hne h4

theorem own_own_ne {b e sz nn b2 e2 sz2 nn2 : Nat} {v v2 : Value} {xs xs2 : List Value} (h : w.ownsRow b e sz v nn xs) (h2 : w.ownsRow b2 e2 sz2 v2 nn2 xs2) (hne : e ≠ e2) (g : Nat) (h3 : v.ownBlock = some g) : v2.ownBlock ≠ some g := by
  intro e1
  rcases h.2 with ⟨rfl, _⟩ | ⟨g1, cap, cur, rfl, _, hg, _⟩
  · cases h3
  · rcases h2.2 with ⟨rfl, _⟩ | ⟨g2, cap2, cur2, rfl, _, hg2, _⟩
    · cases e1
    · have e4 : g1 = g := by simpa [Value.ownBlock] using h3
      have e5 : g2 = g := by simpa [Value.ownBlock] using e1
      subst e4 e5
      rw [hg] at hg2
      injection hg2 with h5
      injection h5 with _ h6 _
      exact hne h6

/-- What Add leaves, put together. -/
theorem add_in (h : JnX w j p n rs fl G im C I rv Cc) (hGl : ∀ k, G k → k < w.heap.size) {w3 w4 w6 : World} {L g6 c6 : Nat} {f : Nat → Nat} (h1 : 1 ≤ L) (hL : L ≤ 8192) (hf : ∀ k, f k < 256) (hfit : endOf 0 rs + 8 + jrnd L ≤ 64 * n) (hb3 : Below w.heap.size w w3)
    (hi4 : w4.ownsRow 0 5 1 (.slice (some ⟨im, 0, none⟩) (64 * n) C) (64 * n) (bl (over I (endOf 0 rs) (8 + jrnd L) (formF dgS ⟨L, f⟩)) (64 * n))) (hg4 : w3.grownBy w4 (some im))
    (hg6 : (w4.drew.alloc (.cells #[.slice (some ⟨im, endOf 0 rs + 8, none⟩) L (C - endOf 0 rs - 8)] 33)).grownBy w6 rv.ownBlock) (ho6 : w6.ownsRow 0 33 1 (.slice (some ⟨g6, 0, none⟩) (rs.length + 1) c6) (rs.length + 1) (rcells (posOf 0 rs) (Ab im (posOf 0 rs)) Cc ++ [.slice (some ⟨im, endOf 0 rs + 8, none⟩) L (C - endOf 0 rs - 8)]))
    (hx6 : rv.ownBlock = some g6 ∨ g6 = w4.heap.size + 1) (hl6 : g6 < w6.heap.size) :
    Only G w (w6.setCell ⟨j, 2, none⟩ (.slice (some ⟨g6, 0, none⟩) (rs.length + 1) c6)) ∧ ∃ G', Grew w G G' ∧ JnAt (w6.setCell ⟨j, 2, none⟩ (.slice (some ⟨g6, 0, none⟩) (rs.length + 1) c6)) j p n (rs ++ [⟨L, f⟩]) fl G' := by
  have hjr := jrnd_ge L
  have hs3 := hb3.size
  have hs4 := hg4.size
  have hs6 : w4.heap.size + 1 ≤ w6.heap.size := by have := hg6.size; simpa using this
  have h3 := h.kept (w' := w3) (fun k hk => hb3.block k (hGl k hk))
  have him : im < w.heap.size := hGl im h.gi
  have hj : j < w.heap.size := hGl j h.gj
  have hjim : j ≠ im := fun e => own_has_ne h.img h.str (by decide) (by rw [e]; rfl)
  have hrj := own_has_ne h.row h.str (by decide)
  have hri := fun g e => own_own_ne h.row h.img (by decide) g e
  -- the struct, up to the store
  have hst4 : Has w4 j 64 #[ptr p, .slice (some ⟨im, 0, none⟩) (64 * n) C, rv, .int .i64 (fl : Nat)] := h3.str.grown hg4 hjim
  have hst5 : Has (w4.drew.alloc (.cells #[.slice (some ⟨im, endOf 0 rs + 8, none⟩) L (C - endOf 0 rs - 8)] 33)) j 64 #[ptr p, .slice (some ⟨im, 0, none⟩) (64 * n) C, rv, .int .i64 (fl : Nat)] := (hst4.drewN 1).alloc _
  have hst6 : Has w6 j 64 #[ptr p, .slice (some ⟨im, 0, none⟩) (64 * n) C, rv, .int .i64 (fl : Nat)] := (hg6.block j hst5.lt (fun e => hrj e.symm)).trans hst5
  have hst7 := has_setJ hst6 2 (.slice (some ⟨g6, 0, none⟩) (rs.length + 1) c6)
  have ho7 := only_setJ w6 j 2 (.slice (some ⟨g6, 0, none⟩) (rs.length + 1) c6)
  have hi5 : (w4.drew.alloc (.cells #[.slice (some ⟨im, endOf 0 rs + 8, none⟩) L (C - endOf 0 rs - 8)] 33)).ownsRow 0 5 1 (.slice (some ⟨im, 0, none⟩) (64 * n) C) (64 * n) (bl (over I (endOf 0 rs) (8 + jrnd L) (formF dgS ⟨L, f⟩)) (64 * n)) := own_allocJ (own_keptJ hi4 (fun _ _ => rfl)) _
  have hi6 : w6.ownsRow 0 5 1 (.slice (some ⟨im, 0, none⟩) (64 * n) C) (64 * n) (bl (over I (endOf 0 rs) (8 + jrnd L) (formF dgS ⟨L, f⟩)) (64 * n)) := own_keptJ hi5 (fun g e => by
    cases e
    exact hg6.block im (by simp; omega) (fun e => hri im e.symm rfl))
  have hi7 := own_only hi6 ho7 (fun g e e2 => by cases e; exact hjim e2.symm)
  have hr7 := own_only ho6 ho7 (fun g e e2 => by
    cases e
    have e3 : g6 = j := e2
    rcases hx6 with h8 | h8
    · exact hrj (by rw [← e3]; exact h8)
    · omega)
  have hE := h.std.2.2.1
  have hpos : posOf 0 (rs ++ [⟨L, f⟩]) = posOf 0 rs ++ [(endOf 0 rs, L)] := by rw [posOf_append]; rfl
  have hplen := posOf_len rs 0
  have hCn := (own_by h.img).2
  refine ⟨?_, fun k => G k ∨ k = g6, ?_, im, C, over I (endOf 0 rs) (8 + jrnd L) (formF dgS ⟨L, f⟩), _, fun i => if i = (posOf 0 rs).length then C - endOf 0 rs - 8 else Cc i, ⟨hst7, hi7, ?_, ?_, ?_, ?_, .inl h.gj, .inl h.gi, fun g e => .inr (by cases e; rfl), ?_, ?_⟩, ?_⟩
  · -- what has turned lies in the journal
    have o1 : Only G w w3 := Only.of_below hb3 (Nat.le_refl _)
    have o2 : Only G w3 w4 := (only_grown hg4).mono (fun k e => by rw [e]; exact h.gi)
    have o3 : Only G w4 w6 := ⟨hg6.os, hg6.tape, hg6.output, by omega, fun k hk hn => (hg6.block k (by simp; omega) (fun e => hn (h.gr k e.symm))).trans (by simp only [World.alloc, Array.getElem?_push]; rw [if_neg (by show ¬ k = w4.heap.size; omega)]; rfl)⟩
    have o4 : Only G w6 _ := ho7.mono (fun k e => by rw [e]; exact h.gj)
    exact ((o1.trans o2 (fun _ _ h => h)).trans o3 (fun _ _ h => h)).trans o4 (fun _ _ h => h)
  · rintro k (hk | rfl)
    · exact .inl hk
    · rcases hx6 with h8 | h8
      · exact .inl (h.gr k h8)
      · exact .inr (by omega)
  · rw [hpos, List.length_append, List.length_singleton, rcells_snoc _ (endOf 0 rs, L) (Ab im (posOf 0 rs)) _ Cc _ (some ⟨im, endOf 0 rs + 8, none⟩) (C - endOf 0 rs - 8) (fun i hi => ⟨Ab_snoc im _ _ i hi, by rw [if_neg (by omega)]⟩) (Ab_last im _ _) (by rw [if_pos rfl])]
    exact hr7
  · rw [hpos]
    intro i x hx
    by_cases hi : i < (posOf 0 rs).length
    · rw [List.getElem?_append_left hi] at hx
      show x.2 ≤ if i = (posOf 0 rs).length then C - endOf 0 rs - 8 else Cc i
      rw [if_neg (by omega)]
      exact h.cap i x hx
    · have hil : i < (posOf 0 rs ++ [(endOf 0 rs, L)]).length := (List.getElem?_eq_some_iff.1 hx).1
      rw [List.length_append, List.length_singleton] at hil
      obtain rfl : i = (posOf 0 rs).length := by omega
      rw [List.getElem?_append_right (Nat.le_refl _)] at hx
      obtain rfl : (endOf 0 rs, L) = x := by simpa using hx
      show L ≤ if (posOf 0 rs).length = (posOf 0 rs).length then C - endOf 0 rs - 8 else Cc _
      rw [if_pos rfl]
      omega
  · refine stands_add (r := ⟨L, f⟩) h.std h1 hL (by show endOf 0 rs + 8 + jrnd L ≤ 64 * n; omega) (fun k hk => ?_)
    unfold over
    by_cases hk2 : endOf 0 rs ≤ k ∧ k < endOf 0 rs + (8 + jrnd L)
    · rw [if_pos hk2]
    · rw [if_neg hk2]
  · intro k
    unfold over
    split
    · exact formF_lt _ hf _
    · exact h.byt k
  · rw [List.length_append, List.length_singleton]
    have := h.fle
    omega
  · intro r hr
    rcases List.mem_append.1 hr with h8 | h8
    · exact h.rby r h8
    · obtain rfl : r = ⟨L, f⟩ := by simpa using h8
      exact hf
  · rintro k (hk | rfl)
    · have := hGl k hk
      have := ho7.size
      omega
    · exact Nat.lt_of_lt_of_le hl6 ho7.size

/-- What Add answers and leaves. -/
def AddX (w : World) (j p n : Nat) (rs : List RC) (fl : Nat) (G : Nat → Prop) (L : Nat) (f : Nat → Nat) (e : Ending) (w' : World) : Prop :=
  e = .returned (.int .i64 (addErr rs (64 * n) L)) ∧ ((addErr rs (64 * n) L ≠ 0 ∧ Below w.heap.size w w') ∨ (addErr rs (64 * n) L = 0 ∧ Only G w w' ∧ ∃ G', Grew w G G' ∧ JnAt w' j p n (rs ++ [⟨L, f⟩]) fl G'))

set_option maxRecDepth 100000 in
set_option maxHeartbeats 2000000 in
theorem add_x (h : JnX w j p n rs fl G im C I rv Cc) (hGl : ∀ k, G k → k < w.heap.size) (hG : Glob Hc Kc w) (hn : n ≤ 1000) {a : Option Addr} {L Ca : Nat} {f : Nat → Nat} (hb : ByIn w a L Ca f) :
    Calls Tryd.prog 14 #[ptr j, .slice a L Ca] w (AddX w j p n rs fl G L f) := by
  have hpn := jp_nil j
  have hLm := hb.max
  unfold maxLen at hLm
  by_cases h1 : L < 1
  · have i1 : (L : Int) < 1 := by omega
    have he : addErr rs (64 * n) L = 91 := by unfold addErr; rw [if_pos (.inl h1)]
    have HE : Hid (addErr rs (64 * n) L = 91) := he
    clear he h hb
    go_enter Tryd.func14, Tryd.ntmps14
    go_wp2
    go_ret
    exact ⟨by rw [HE.out]; rfl, .inl ⟨by rw [HE.out]; decide, Below.refl _ _⟩⟩
  have i1 : ¬ (L : Int) < 1 := by omega
  by_cases h2 : 8192 < L
  · have i2 : (8192 : Int) < (L : Int) := by omega
    have he : addErr rs (64 * n) L = 91 := by unfold addErr; rw [if_pos (.inr h2)]
    have HE : Hid (addErr rs (64 * n) L = 91) := he
    clear he h hb
    go_enter Tryd.func14, Tryd.ntmps14
    go_wp2
    go_ret
    exact ⟨by rw [HE.out]; rfl, .inl ⟨by rw [HE.out]; decide, Below.refl _ _⟩⟩
  have i2 : ¬ (8192 : Int) < (L : Int) := by omega
  have hsz := size_j a L Ca w (by omega)
  have hfr := free_x h hn
  have hE := h.std.2.2.1
  have hjr := jrnd_ge L
  have hjl := jrnd_lt L
  obtain ⟨Z, hZ⟩ : ∃ Z, Z = 8 + jrnd L := ⟨_, rfl⟩
  obtain ⟨N, hN⟩ : ∃ N, N = 64 * n := ⟨_, rfl⟩
  obtain ⟨E, hE2⟩ : ∃ E, E = endOf 0 rs := ⟨_, rfl⟩
  have HZ : Hid (Z = 8 + jrnd L) := hZ
  have HN : Hid (N = 64 * n) := hN
  have HE2 : Hid (E = endOf 0 rs) := hE2
  rw [← hZ] at hsz
  rw [← hN, ← hE2] at hfr
  have hNb : N ≤ 64000 := by omega
  have hEN : E ≤ N := by omega
  by_cases h3 : N < E + Z
  · have i3 : ((N - E : Nat) : Int) < (Z : Int) := by omega
    have he : addErr rs (64 * n) L = 92 := by unfold addErr; rw [if_neg (by omega), if_pos (by omega)]
    have HE : Hid (addErr rs (64 * n) L = 92) := he
    obtain ⟨M, hM⟩ : ∃ M, M = N - E := ⟨_, rfl⟩
    rw [← hM] at i3 hfr
    clear he h hb hZ hN hE2 hM hE hjr hjl
    go_enter Tryd.func14, Tryd.ntmps14
    go_wp2_with (first
      | ((go_at_call 41)
         (refine hsz.mono ?_)
         (rintro e wz ⟨rfl, hz⟩)
         (obtain rfl : w = wz := hz.symm)
         (clear hsz))
      | ((go_at_call 26)
         (refine hfr.mono ?_)
         (rintro e w1 ⟨rfl, hb1⟩)
         (clear hfr)))
    go_ret
    exact ⟨by rw [HE.out]; rfl, .inl ⟨by rw [HE.out]; decide, hb1⟩⟩
  have i3 : ¬ ((N - E : Nat) : Int) < (Z : Int) := by omega
  have he : addErr rs (64 * n) L = 0 := by unfold addErr; rw [if_neg (by omega), if_neg (by omega)]
  have HE : Hid (addErr rs (64 * n) L = 0) := he
  have hlen := len_end rs 0
  have hlen2 : rs.length ≤ 100000 := by omega
  have hNC := (own_by h.img).2
  rw [← hN] at hNC
  have hCE : ¬ C = E := by omega
  have hCE2 : 8 < C - E := by omega
  have hCE3 : 8 + L ≤ C - E := by omega
  obtain ⟨M, hM⟩ : ∃ M, M = N - E := ⟨_, rfl⟩
  rw [← hM] at i3 hfr
  have HM : Hid (M = N - E) := hM
  have hZ0 : 0 < Z := by omega
  have hEZ : E + Z ≤ N := by omega
  obtain ⟨ra, rc, hrv, hsl⟩ := h.sl
  have hL8 : L ≤ 8192 := by omega
  have hL1 : 1 ≤ L := by omega
  clear he hZ hN hE2 hM hE hjr hjl hlen h1 h2 h3
  go_enter Tryd.func14, Tryd.ntmps14
  go_wp2_with (first
    | ((go_at_call 41)
       (refine hsz.mono ?_)
       (rintro e wz ⟨rfl, hz⟩)
       (obtain rfl : w = wz := hz.symm)
       (clear hsz))
    | ((go_at_call 26)
       (refine hfr.mono ?_)
       (rintro e w1 ⟨rfl, hb1⟩)
       (clear hfr)))
  have hX1 := h.kept (w' := w1) (fun k hk => hb1.block k (hGl k hk))
  have c1 : w1.cell? ⟨j, 1, none⟩ = some (.slice (some ⟨im, 0, none⟩) N C) := by rw [HN.out]; exact hX1.str.cell 1
  have c2 : w1.cell? ⟨j, 2, none⟩ = some rv := hX1.str.cell 2
  obtain ⟨ra1, rc1, hrv1, hsl1⟩ := hX1.sl
  have hsp := span_j (w := w1.drew) (c := rc1) (show Sl w1.drew ra1 rs from hsl1) rfl (by omega) h.std.2.1 (by have := h.std.2.2.1; omega)
  rw [← hrv1, ← HE2.out] at hsp
  have HX : Hid (rs.length = rs.length) := rfl
  refine wp_region_held_drew (S := fun wz => wz = w1.drew) (by kernel_rfl) rfl (fun hHeld => ?_)
  refine takeTo 0 (some 24) (ptr j) rfl rfl (by kernel_rfl) (by kernel_rfl) (by kernel_rfl) (fun _ _ _ h => h) (by rfl) (fun _ _ => rfl) hHeld ?_
  simp only [Act.put, List.setIfInBounds_toArray, List.set_cons_zero, List.set_cons_succ]
  refine takeTo 1 (some 25) (.pointer (some ⟨j, 0, none⟩)) rfl rfl (by kernel_rfl) (by kernel_rfl) (by kernel_rfl) (fun _ _ _ h => h) (by rfl) (fun _ _ => rfl) hHeld ?_
  simp only [Act.put, List.setIfInBounds_toArray, List.set_cons_zero, List.set_cons_succ]
  refine takeTo 2 (some 26) (.pointer (some ⟨j, 1, none⟩)) rfl rfl (by kernel_rfl) (by kernel_rfl) (by kernel_rfl) (fun _ _ _ h => h) (by rfl) (fun _ _ => rfl) hHeld ?_
  simp only [Act.put, List.setIfInBounds_toArray, List.set_cons_zero, List.set_cons_succ]
  refine takeTo 3 (some 27) (.slice (some ⟨im, 0, none⟩) N C) rfl rfl (by kernel_rfl) (by kernel_rfl) (by kernel_rfl) (fun _ _ _ h => h) (by rfl) (fun wz hz => by rw [hz]; exact run_load_row1 _ rfl _ rfl _ _ c1) hHeld ?_
  simp only [Act.put, List.setIfInBounds_toArray, List.set_cons_zero, List.set_cons_succ]
  refine takeTo 4 (some 28) (ptr j) rfl rfl (by kernel_rfl) (by kernel_rfl) (by kernel_rfl) (fun _ _ _ h => h) (by rfl) (fun _ _ => rfl) hHeld ?_
  simp only [Act.put, List.setIfInBounds_toArray, List.set_cons_zero, List.set_cons_succ]
  refine takeTo 5 (some 29) (.pointer (some ⟨j, 0, none⟩)) rfl rfl (by kernel_rfl) (by kernel_rfl) (by kernel_rfl) (fun _ _ _ h => h) (by rfl) (fun _ _ => rfl) hHeld ?_
  simp only [Act.put, List.setIfInBounds_toArray, List.set_cons_zero, List.set_cons_succ]
  refine takeTo 6 (some 30) (.pointer (some ⟨j, 2, none⟩)) rfl rfl (by kernel_rfl) (by kernel_rfl) (by kernel_rfl) (fun _ _ _ h => h) (by rfl) (fun _ _ => rfl) hHeld ?_
  simp only [Act.put, List.setIfInBounds_toArray, List.set_cons_zero, List.set_cons_succ]
  refine takeTo 7 (some 31) (rv) rfl rfl (by kernel_rfl) (by kernel_rfl) (by kernel_rfl) (fun _ _ _ h => h) (by rfl) (fun wz hz => by rw [hz]; exact run_load_recs _ rfl _ rfl _ _ c2) hHeld ?_
  simp only [Act.put, List.setIfInBounds_toArray, List.set_cons_zero, List.set_cons_succ]
  refine callTo 8 (some 32) 42 #[rv] (by kernel_rfl) rfl rfl (by rfl) (by kernel_rfl) hsp ?_
  rintro e wz ⟨rfl, hz⟩
  refine ⟨_, rfl, hz, ?_⟩
  rw [hz]
  simp only [Act.put, List.setIfInBounds_toArray, List.set_cons_zero, List.set_cons_succ]
  refine takeTo 9 (some 33) (.slice (some ⟨im, 0 + E, none⟩) M (C - E)) rfl rfl (by kernel_rfl) (by kernel_rfl) (by kernel_rfl) (fun _ _ _ h => h) (by rfl) (fun wz _ => by rw [HM.out]; exact run_slice_ne _ _ rfl im 0 N C E rfl rfl hEN hCE wz) rfl ?_
  simp only [Act.put, List.setIfInBounds_toArray, List.set_cons_zero, List.set_cons_succ]
  refine takeTo 10 (some 5) (.slice (some ⟨im, 0 + E, none⟩) M (C - E)) rfl rfl (by kernel_rfl) (by kernel_rfl) (by kernel_rfl) (fun _ _ _ h => h) (by rfl) (fun _ _ => rfl) rfl ?_
  simp only [Act.put, List.setIfInBounds_toArray, List.set_cons_zero, List.set_cons_succ]
  refine wpAnyH_done (by kernel_rfl) ?_ _
  have hX2 : JnX w1.drew j p n rs fl G im C I rv Cc := hX1.kept (fun _ _ => rfl)
  have hb2 : Below w.heap.size w w1.drew := hb1.drew
  have hG2 := hG.below hb2 hG.1
  have hby2 := hb.below hb2 (Nat.le_refl _)
  have hfm := formed_c hG2 hL1 hL8 hby2.le hby2.at_ hby2.byt
  rw [← HZ.out] at hfm
  clear hHeld hsp c1 c2 hX1
  generalize w1.drew = w2 at hX2 hb2 hG2 hby2 hfm ⊢
  rw [Nat.zero_add]
  go_wp2_with (first
    | ((go_at_call 43)
       (refine hfm.mono ?_)
       (rintro e w3 ⟨hb3, v3, rfl, ho3⟩)
       (clear hfm)
       (obtain ⟨a3, c3, rfl, _, _, hB3, _⟩ := own_bytes ho3)
       (have hb23 := hb2.trans (hb3.mono hb2.size))
       (have hX3 := h.kept (w' := w3) (fun k hk => hb23.block k (hGl k hk)))
       (have hi3 := hX3.img)
       (rw [← HN.out] at hi3)
       (obtain ⟨w4, hcp, hi4, hg4⟩ := run_copy_own hi3 hZ0 hEZ hB3 c3)
       (rw [← HM.out] at hcp))
    | (refine at_dst 37 rfl ?_; refine wpList_is_w (some 37) (.int .i64 (Z : Nat)) w4 rfl (by rfl) (hcp _ _ _ _ rfl rfl rfl) ?_))
  have hjim : j ≠ im := fun e => own_has_ne hX3.img hX3.str (by decide) (by rw [e]; rfl)
  have hst4 := hX3.str.grown hg4 hjim
  have c4 : w4.cell? ⟨j, 2, none⟩ = some rv := hst4.cell 2
  have hrow3 := hX3.row
  have hrow4 : w4.ownsRow 0 33 1 rv rs.length (rcells (posOf 0 rs) (Ab im (posOf 0 rs)) Cc) := own_keptJ hrow3 (fun g e => hg4.block g (hrow3.lt g e).2 (fun e2 => own_own_ne hrow3 hX3.img (by decide) g e (by cases e2; rfl)))
  obtain ⟨u, hu⟩ : ∃ u, u = Value.slice (some ⟨im, E + 8, none⟩) L (C - E - 8) := ⟨_, rfl⟩
  have hrow5 : (w4.drew.alloc (.cells #[u] 33)).ownsRow 0 33 1 rv rs.length (rcells (posOf 0 rs) (Ab im (posOf 0 rs)) Cc) := own_allocJ (own_keptJ hrow4 (fun _ _ => rfl)) _
  have hnc5 : Has (w4.drew.alloc (.cells #[u] 33)) w4.heap.size 33 #[u] := Has.new _ _ _
  have hst5 := (hst4.drewN 1).alloc (.cells #[u] 33)
  have c5 : (w4.drew.alloc (.cells #[u] 33)).cell? ⟨j, 2, none⟩ = some rv := hst5.cell 2
  obtain ⟨g6, c6, w6, hap, ho6, hg6, hx6, hl6⟩ := run_append_rec 0 rv rs.length _ hrow5 w4.heap.size u (hnc5.cell 0) (by rw [hu]; rfl) hlen2 (Nat.zero_le _)
  have hst6 : Has w6 j 64 _ := (hg6.block j hst5.lt (fun e => own_has_ne hrow3 hX3.str (by decide) e.symm)).trans hst5
  have d6 : w6.cell? ⟨j, 2, none⟩ = some rv := hst6.cell 2
  have f6 := hst6.free 2
  have hfin := add_in (w := w) (L := L) (f := f) (g6 := g6) (c6 := c6) (w3 := w3) (w4 := w4) (w6 := w6) h hGl hL1 hL8 hby2.byt (by rw [← HE2.out, ← HN.out]; have := HZ.out; omega) hb23 (by rw [← HN.out, ← HE2.out, ← HZ.out]; exact hi4) hg4 (by rw [← HE2.out, ← hu]; exact hg6) (by rw [← HE2.out, ← hu]; exact ho6) (hx6.imp id (fun h => by rw [h]; simp)) hl6
  have hLb : L ≤ 1000000 := by omega
  refine lastTo (S := fun wz => wz.cell? ⟨j, 2, none⟩ = some rv) 14 (by kernel_rfl) c4 (fun hHeld => ?_)
  refine takeL 0 (some 38) (ptr j) rfl rfl (by decide) (by kernel_rfl) (by kernel_rfl) (by kernel_rfl) (by kernel_rfl) (fun _ _ _ h => h) (by rfl) (fun _ _ => rfl) hHeld ?_
  simp only [Act.put, List.setIfInBounds_toArray, List.set_cons_zero, List.set_cons_succ]
  refine takeL 1 (some 39) (ptr j) rfl rfl (by decide) (by kernel_rfl) (by kernel_rfl) (by kernel_rfl) (by kernel_rfl) (fun _ _ _ h => h) (by rfl) (fun _ _ => rfl) hHeld ?_
  simp only [Act.put, List.setIfInBounds_toArray, List.set_cons_zero, List.set_cons_succ]
  refine takeL 2 (some 40) (.pointer (some ⟨j, 0, none⟩)) rfl rfl (by decide) (by kernel_rfl) (by kernel_rfl) (by kernel_rfl) (by kernel_rfl) (fun _ _ _ h => h) (by rfl) (fun _ _ => rfl) hHeld ?_
  simp only [Act.put, List.setIfInBounds_toArray, List.set_cons_zero, List.set_cons_succ]
  refine takeL 3 (some 41) (.pointer (some ⟨j, 2, none⟩)) rfl rfl (by decide) (by kernel_rfl) (by kernel_rfl) (by kernel_rfl) (by kernel_rfl) (fun _ _ _ h => h) (by rfl) (fun _ _ => rfl) hHeld ?_
  simp only [Act.put, List.setIfInBounds_toArray, List.set_cons_zero, List.set_cons_succ]
  refine takeL 4 (some 42) (rv) rfl rfl (by decide) (by kernel_rfl) (by kernel_rfl) (by kernel_rfl) (by kernel_rfl) (fun _ _ _ h => h) (by rfl) (fun wz hz => run_load_recs _ rfl _ rfl _ wz hz) hHeld ?_
  simp only [Act.put, List.setIfInBounds_toArray, List.set_cons_zero, List.set_cons_succ]
  refine takeL 5 (some 43) (.slice (some ⟨im, E, none⟩) M (C - E)) rfl rfl (by decide) (by kernel_rfl) (by kernel_rfl) (by kernel_rfl) (by kernel_rfl) (fun _ _ _ h => h) (by rfl) (fun _ _ => rfl) hHeld ?_
  simp only [Act.put, List.setIfInBounds_toArray, List.set_cons_zero, List.set_cons_succ]
  refine takeL 6 (some 44) (.slice a L Ca) rfl rfl (by decide) (by kernel_rfl) (by kernel_rfl) (by kernel_rfl) (by kernel_rfl) (fun _ _ _ h => h) (by rfl) (fun _ _ => rfl) hHeld ?_
  simp only [Act.put, List.setIfInBounds_toArray, List.set_cons_zero, List.set_cons_succ]
  refine takeL 7 (some 45) (.int .i64 (L : Nat)) rfl rfl (by decide) (by kernel_rfl) (by kernel_rfl) (by kernel_rfl) (by kernel_rfl) (fun _ _ _ h => h) (by rfl) (fun wz _ => run_len_of 33 5 Tryd.underlying33 _ rfl _ _ _ rfl wz) hHeld ?_
  simp only [Act.put, List.setIfInBounds_toArray, List.set_cons_zero, List.set_cons_succ]
  refine takeL 8 (some 46) (.int .i64 (8 + (L : Int))) rfl rfl (by decide) (by kernel_rfl) (by kernel_rfl) (by kernel_rfl) (by kernel_rfl) (fun _ _ _ h => h) (by rfl) (fun wz _ => run_add8 _ rfl L rfl hLb wz) hHeld ?_
  simp only [Act.put, List.setIfInBounds_toArray, List.set_cons_zero, List.set_cons_succ]
  refine takeL 9 (some 47) (u) rfl rfl (by decide) (by kernel_rfl) (by kernel_rfl) (by kernel_rfl) (by kernel_rfl) (fun _ _ _ h => h) (by rfl) (fun wz _ => by rw [hu]; exact run_sl_rec _ _ rfl im E M (C - E) L rfl rfl hCE2 hCE3 wz) hHeld ?_
  simp only [Act.put, List.setIfInBounds_toArray, List.set_cons_zero, List.set_cons_succ]
  refine valL 10 (some 48) (.slice (some ⟨w4.heap.size, 0, none⟩) 1 1) (w4.drew.alloc (.cells #[u] 33)) (by kernel_rfl) rfl rfl (by rfl) (by rw [hu]; kernel_rfl) c5 ?_
  simp only [Act.put, List.setIfInBounds_toArray, List.set_cons_zero, List.set_cons_succ]
  refine valL 11 (some 49) (.slice (some ⟨g6, 0, none⟩) (rs.length + 1) c6) w6 (by kernel_rfl) rfl rfl (by rfl) (run_append_op _ _ _ _ rfl rv (.slice (some ⟨w4.heap.size, 0, none⟩) 1 1) rfl rfl _ hap) d6 ?_
  simp only [Act.put, List.setIfInBounds_toArray, List.set_cons_zero, List.set_cons_succ]
  refine takeC 12 [13] (some 50) (.pointer (some ⟨j, 0, none⟩)) rfl rfl (by decide) (by kernel_rfl) (by kernel_rfl) (by kernel_rfl) (by kernel_rfl) (by kernel_rfl) (fun _ _ _ h => h) (by rfl) (fun _ _ => rfl) d6 ?_
  simp only [Act.put, List.setIfInBounds_toArray, List.set_cons_zero, List.set_cons_succ]
  refine takeL 13 (some 51) (.pointer (some ⟨j, 2, none⟩)) rfl rfl (by decide) (by kernel_rfl) (by kernel_rfl) (by kernel_rfl) (by kernel_rfl) (fun _ _ _ h => h) (by rfl) (fun _ _ => rfl) d6 ?_
  simp only [Act.put, List.setIfInBounds_toArray, List.set_cons_zero, List.set_cons_succ]
  refine lastSkip 14 none (w6.setCell ⟨j, 2, none⟩ (.slice (some ⟨g6, 0, none⟩) (rs.length + 1) c6)) (by kernel_rfl) rfl rfl (by rfl) (run_store_recs _ _ rfl _ rfl _ _ _ rfl _ _ d6 f6) (by kernel_rfl) ?_
  generalize w6.setCell ⟨j, 2, none⟩ (.slice (some ⟨g6, 0, none⟩) (rs.length + 1) c6) = w7 at hfin ⊢
  go_wp2
  go_ret
  exact ⟨by rw [HE.out]; rfl, .inr ⟨HE.out, hfin⟩⟩

end Go.Proofs.YtoiaclmfljoomaaDoor
