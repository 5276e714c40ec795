/- A hash's Sum, and Sum of bytes at once. -/
import Derived.Test.YtoeanaadlihkeabDoorShaWrite
namespace Go.Proofs.YtoeanaadlihkeabDoor
open Go.ChangeShapes Go.WideShapes Go.ChangeAt Go.RowKit

theorem stAt_congr (H0 K m m' : Nat → Nat) : ∀ i, (∀ j, j < 64 * i → m j = m' j) → stAt H0 K m i = stAt H0 K m' i := by
  intro i
  induction i with
  | zero => intro _; rfl
  | succ i ih =>
    intro h
    have e := ih (fun j hj => h j (by omega))
    show nextSt K (stAt H0 K m i) _ = nextSt K (stAt H0 K m' i) _
    rw [e]
    exact nextSt_congr K _ _ _ (fun j hj => h _ (by omega))

theorem Hash.congr {H0 K m m' : Nat → Nat} {w : World} {g N : Nat} (h : Hash H0 K w g m N) (hm : ∀ j, j < N → m j = m' j) : Hash H0 K w g m' N := by
  obtain ⟨rest, h1, h2, h3⟩ := h
  refine ⟨rest, h1, fun j hj => (h2 j hj).trans (hm _ (by omega)), ?_⟩
  rw [← stAt_congr H0 K m m' (N / 64) (fun j hj => hm j (by omega))]
  exact h3

/-- The padded message. -/
def padm (m : Nat → Nat) (N : Nat) : Nat → Nat := fun j => if j < N then m j else padB N (j - N)

/-- The digest's bytes. -/
def SHA (H0 K m : Nat → Nat) (N : Nat) : Nat → Nat := dig (stAt H0 K (padm m N) ((N + plen N) / 64))

theorem SHA_congr (H0 K m m' : Nat → Nat) (N : Nat) (h : ∀ j, j < N → m j = m' j) : SHA H0 K m N = SHA H0 K m' N := by
  have e : padm m N = padm m' N := by
    funext j
    unfold padm
    by_cases hj : j < N
    · rw [if_pos hj, if_pos hj, h j hj]
    · rw [if_neg hj, if_neg hj]
  unfold SHA
  rw [e]

theorem padB_lt (N j : Nat) : padB N j < 256 := by
  unfold padB
  split
  · omega
  · split
    · omega
    · exact Nat.mod_lt _ (by decide)

theorem padm_lt (m : Nat → Nat) (N : Nat) (hm : ∀ j, m j < 256) (j : Nat) : padm m N j < 256 := by
  unfold padm
  split
  · exact hm _
  · exact padB_lt _ _

theorem write_zero (g : Nat) (a : Option Addr) (cap : Nat) (w : World) :
    Calls Tryd.prog 19 #[.pointer (some ⟨g, 0, none⟩), .slice a 0 cap] w fun e w' => e = .returned (.tuple #[]) ∧ w' = w := by
  go_enter Tryd.func19, Tryd.ntmps19
  go_wp2
  go_loopw [1] (fun s wr => s = .slice a 0 cap ∧ wr = w) (fun s _ => lenOf s)
  case atStart => exact ⟨rfl, rfl⟩
  case round =>
    obtain ⟨rfl, rfl⟩ := hrel
    go_wp2
    go_end0
    exact ⟨rfl, rfl⟩

theorem write_nil (s : Value) (w : World) : Calls Tryd.prog 19 #[.pointer none, s] w fun e w' => e = .returned (.tuple #[]) ∧ w' = w := by
  go_enter Tryd.func19, Tryd.ntmps19
  go_wp2
  exact bodyPost_ret (results_none rfl _ _ _) rfl ⟨rfl, rfl⟩

theorem sum_nil (w : World) : Calls Tryd.prog 20 #[.pointer none] w fun e w' => e = .returned (.agg (cellsN .u8 32 fun _ => 0)) ∧ Below w.heap.size w w' := by
  have hN : Has (w.alloc (.cells (cellsN .u8 32 fun _ => 0) 24)) w.heap.size 24 (cellsN .u8 32 fun _ => 0) := Has.new _ _ _
  go_enter Tryd.func20, Tryd.ntmps20
  go_wp2_with (refine wpList_store_rowG rfl 24 _ _ rfl (w.heap.size) (cellsN .u8 32 fun _ => 0) rfl rfl 24 _ hN (by rw [cellsN_size]; exact Tryd.size24) (by simp [cellsN_size]) (cellsN_one _ _ _) ?_; intro w2 hw2; have hH2 : Has w2 w.heap.size 24 (cellsN .u8 32 fun _ => 0) := (by rw [hw2]; exact hN.setRow _); have hB2 : Below w.heap.size w w2 := (by rw [hw2]; exact below_setRow ((Below.refl _ _).alloc (Nat.le_refl _) _) (Nat.le_refl _) _); clear hw2)
  exact bodyPost_ret (results_cell_row rfl _ _ (w.heap.size) 24 _ (0, 0) _ rfl hH2 Tryd.underlying24 rfl (by rw [cellsN_size]; exact Tryd.size24)) rfl ⟨rfl, hB2⟩

theorem But.below {g B : Nat} {w w' : World} (h : But g w w') (hg : B ≤ g) (hB : B ≤ w.heap.size) : Below B w w' := ⟨h.1, h.2.1, h.2.2.1, h.2.2.2.1, fun k hk => h.2.2.2.2 k (by omega) (by omega)⟩

/-- Behind the copy of the hash. -/
def Sum2 (H0 K : Nat → Nat) (w w2 : World) (m : Nat → Nat) (g N : Nat) : Prop :=
  Has w2 w.heap.size 24 (cellsN .u8 32 fun _ => 0) ∧ Hash H0 K w2 (w.heap.size + 1) (padm m N) N ∧ w2.cell? ⟨g, 72, none⟩ = some (.int .u64 (N : Nat)) ∧ Below w.heap.size w w2 ∧ w2.heap.size = w.heap.size + 2 ∧ Glob H0 K w2

theorem padm_old (m : Nat → Nat) (N j : Nat) (h : j < N) : m j = padm m N j := by unfold padm; rw [if_pos h]

theorem Glob.below {H0 K : Nat → Nat} {B : Nat} {w w' : World} (h : Glob H0 K w) (hb : Below B w w') (hB : 1 < B) : Glob H0 K w' :=
  ⟨Nat.lt_of_lt_of_le h.1 hb.size, fun j hj => (hb.cell (show 0 < B by omega)).trans (h.2.1 j hj), fun j hj => (hb.cell (show 1 < B from hB)).trans (h.2.2 j hj)⟩

theorem sum2_of {H0 K m rest : Nat → Nat} {w : World} {g N : Nat} (hG : Glob H0 K w) (h1 : ∀ j, j < 64 → rest j < 256) (h2 : ∀ j, j < N % 64 → rest j = m (64 * (N / 64) + j))
    (hH : Has w g 58 (hcells (stAt H0 K m (N / 64)) rest N)) :
    Sum2 H0 K w (((w.alloc (.cells (cellsN .u8 32 fun _ => 0) 24)).alloc (.cells (hcells (fun _ => 0) (fun _ => 0) 0) 58)).setRow (w.heap.size + 1) (hcells (stAt H0 K m (N / 64)) rest N)) m g N := by
  have hlt := hH.lt
  have hn : Has ((w.alloc (.cells (cellsN .u8 32 fun _ => 0) 24)).alloc (.cells (hcells (fun _ => 0) (fun _ => 0) 0) 58)) (w.heap.size + 1) 58 (hcells (fun _ => 0) (fun _ => 0) 0) := Has.new_at (by simp)
  have hb : Below w.heap.size w (((w.alloc (.cells (cellsN .u8 32 fun _ => 0) 24)).alloc (.cells (hcells (fun _ => 0) (fun _ => 0) 0) 58)).setRow (w.heap.size + 1) (hcells (stAt H0 K m (N / 64)) rest N)) :=
    below_setRow (((Below.refl _ _).alloc (Nat.le_refl _) _).alloc (by simp) _) (by omega) _
  refine ⟨((Has.new_at rfl).alloc _).setRow_other (by omega) _, Hash.congr ⟨rest, h1, h2, hn.setRow _⟩ (fun j hj => padm_old m N j hj), (hb.cell hlt).trans (hash_size hH), hb, ?_, hG.below hb hG.1⟩
  simp [World.setRow]

theorem Sum2.pad {H0 K m : Nat → Nat} {w w2 w3 : World} {g N : Nat} (h : Sum2 H0 K w w2 m g N) (hp : Has w3 w2.heap.size 5 (cellsN .u8 (plen N) (padB N))) (hb : Below w2.heap.size w2 w3) :
    Glob H0 K w3 ∧ w2.heap.size < w3.heap.size ∧ w2.heap.size ≠ w.heap.size + 1 ∧ Hash H0 K w3 (w.heap.size + 1) (padm m N) N ∧
      (∀ j, j < plen N → w3.cell? ⟨w2.heap.size, 0 + j, none⟩ = some (.int .u8 (padm m N (N + j) : Nat))) ∧
      ∀ w4, But (w.heap.size + 1) w3 w4 → Has w4 w.heap.size 24 (cellsN .u8 32 fun _ => 0) ∧ Below w.heap.size w w4 := by
  obtain ⟨a, ⟨rest, r1, r2, r3⟩, _, d, e, f⟩ := h
  have hs := hb.size
  have h1 := f.1
  refine ⟨f.below hb f.1, hp.lt, by omega, ⟨rest, r1, r2, r3.below hb r3.lt⟩, ?_, ?_⟩
  · intro j hj
    rw [Nat.zero_add, hp.num j hj]
    unfold padm
    rw [if_neg (by omega), show N + j - N = j from by omega]
  · intro w4 hb4
    have hb5 := hb4.below (B := w.heap.size + 1) (Nat.le_refl _) (by omega)
    exact ⟨(a.below hb a.lt).below hb5 (by omega), (d.trans (hb.mono (by omega))).trans (hb5.mono (by omega))⟩

theorem zeros32 : cellsN .u8 32 (fun _ => 0) = (List.replicate 32 (Value.int .u8 0)).toArray := zeros _ _

set_option maxRecDepth 100000 in
set_option maxHeartbeats 1600000 in
theorem hsum_any (H0 K m : Nat → Nat) (g N : Nat) (w : World) (hG : Glob H0 K w) (hH0 : ∀ j, j < 8 → H0 j < 4294967296) (hm : ∀ j, m j < 256) (hg : 1 < g) (hN : N < 1152921504606846000) (hh : Hash H0 K w g m N) :
    Calls Tryd.prog 20 #[.pointer (some ⟨g, 0, none⟩)] w fun e w' => e = .returned (.agg (cellsN .u8 32 (SHA H0 K m N))) ∧ Below w.heap.size w w' := by
  obtain ⟨rest, h1, h2, hH⟩ := hh
  have hz := (zero_of_info Tryd.zero58).1
  rw [zlit_eq] at hz
  have hHa := hH.alloc (.cells (cellsN .u8 32 fun _ => 0) 24)
  have hg2 := hH.lt
  have hst0 : Has ((w.alloc (.cells (cellsN .u8 32 fun _ => 0) 24)).alloc (.cells (hcells (fun _ => 0) (fun _ => 0) 0) 58)) (w.heap.size + 1) 58 (hcells (fun _ => 0) (fun _ => 0) 0) := Has.new_at (by simp)
  go_enter Tryd.func20, Tryd.ntmps20
  go_wp2_with (first
    | (refine wpList_load_row rfl 58 _ rfl g rfl 58 _ (0, 0) _ hHa Tryd.underlying58 rfl (by rw [hcells_size]; exact Tryd.size58) ?_)
    | ((refine wpList_store_rowG rfl 58 _ _ rfl (w.heap.size + 1) (hcells (stAt H0 K m (N / 64)) rest N) rfl rfl 58 _ hst0 (by rw [hcells_size]; exact Tryd.size58) (by simp [hcells_size]) (hcells_one _ _ _) ?_)
       (intro w2 hw2)
       (have hS2 : Sum2 H0 K w w2 m g N := (by rw [hw2]; exact sum2_of hG h1 h2 hH))
       (have hsz2 := hS2.2.2.1)
       (clear hw2))
    | ((go_at_call 26)
       (refine (padding_any N w2 (by omega)).mono ?_)
       (rintro e w3 ⟨rfl, hp3, hb3⟩)
       (have hS3 := hS2.pad hp3 hb3)
       (clear hp3 hb3))
    | ((go_at_call 19)
       (refine (write_pos H0 K (padm m N) (w.heap.size + 1) N w2.heap.size 0 (plen N) (plen N) w3 hS3.1 hH0 (padm_lt m N hm) (by omega) hS3.2.1 hS3.2.2.1 (Nat.le_refl _) (by have := plen_ge N; omega) hS3.2.2.2.1 hS3.2.2.2.2.1).mono ?_)
       (rintro e w4 ⟨rfl, ⟨rest4, _, _, hH4⟩, hb4⟩)
       (have hS4 := hS3.2.2.2.2.2 w4 hb4)
       (clear hb4)
       (have d0 := hash_state hH4 0 (by omega))
       (have d1 := hash_state hH4 1 (by omega))
       (have d2 := hash_state hH4 2 (by omega))
       (have d3 := hash_state hH4 3 (by omega))
       (have d4 := hash_state hH4 4 (by omega))
       (have d5 := hash_state hH4 5 (by omega))
       (have d6 := hash_state hH4 6 (by omega))
       (have d7 := hash_state hH4 7 (by omega)))
    | ((go_at_call 27)
       (have hdg := digest_any (stAt H0 K (padm m N) ((N + plen N) / 64)) w4 (fun j hj => stAt_lt H0 K _ hH0 _ j hj))
       (rw [cells8] at hdg)
       (refine hdg.mono ?_)
       (rintro e w5 ⟨rfl, hb5⟩)
       (have hR5 : Has w5 w.heap.size 24 (cellsN .u8 32 fun _ => 0) := hS4.1.below hb5 hS4.1.lt)
       (have hB5 : Below w.heap.size w w5 := hS4.2.trans (hb5.mono hS4.2.size))
       (clear hb5 hdg))
    | ((refine wpList_store_rowG rfl 24 _ _ rfl (w.heap.size) (cellsN .u8 32 (dig (stAt H0 K (padm m N) ((N + plen N) / 64)))) rfl rfl 24 _ hR5 (by rw [cellsN_size]; exact Tryd.size24) (by simp [cellsN_size]) (cellsN_one _ _ _) ?_)
       (intro w6 hw6)
       (have hR6 : Has w6 w.heap.size 24 (cellsN .u8 32 (dig (stAt H0 K (padm m N) ((N + plen N) / 64)))) := (by rw [hw6]; exact hR5.setRow _))
       (have hB6 : Below w.heap.size w w6 := (by rw [hw6]; exact below_setRow hB5 (Nat.le_refl _) _))
       (clear hw6)))
  exact bodyPost_ret (results_cell_row rfl _ _ (w.heap.size) 24 _ (0, 0) _ rfl hR6 Tryd.underlying24 rfl (by rw [cellsN_size]; exact Tryd.size24)) rfl ⟨rfl, hB6⟩
/-- A slice's bytes: none, or they lie in the world. -/
def Bytes (w : World) (a : Option Addr) (len : Nat) (m : Nat → Nat) : Prop := len = 0 ∨ ∃ b off, a = some ⟨b, off, none⟩ ∧ b < w.heap.size ∧ ∀ j, j < len → w.cell? ⟨b, off + j, none⟩ = some (.int .u8 (m j : Nat))

theorem Bytes.below {w w' : World} {a : Option Addr} {len B : Nat} {m : Nat → Nat} (h : Bytes w a len m) (hb : Below B w w') (hB : w.heap.size ≤ B) : Bytes w' a len m := by
  rcases h with h | ⟨b, off, h1, h2, h3⟩
  · exact .inl h
  · exact .inr ⟨b, off, h1, Nat.lt_of_lt_of_le h2 hb.size, fun j hj => (hb.cell (show b < B by omega)).trans (h3 j hj)⟩

theorem write_any {H0 K m : Nat → Nat} {g N len : Nat} {w : World} {a : Option Addr} (cap : Nat) (hG : Glob H0 K w) (hH0 : ∀ j, j < 8 → H0 j < 4294967296) (hm : ∀ j, m j < 256) (hg : 1 < g)
    (hcap : len ≤ cap) (hN : N + len < 1152921504606846976) (hh : Hash H0 K w g m N) (hb : Bytes w a len fun j => m (N + j)) (hbg : len = 0 ∨ ∀ b off, a = some ⟨b, off, none⟩ → b ≠ g) :
    Calls Tryd.prog 19 #[.pointer (some ⟨g, 0, none⟩), .slice a len cap] w fun e w' => e = .returned (.tuple #[]) ∧ Hash H0 K w' g m (N + len) ∧ But g w w' := by
  by_cases h0 : len = 0
  · subst h0
    refine (write_zero g a cap w).mono ?_
    rintro e w' ⟨rfl, rfl⟩
    exact ⟨rfl, hh, But.refl _ _⟩
  · rcases hb with h | ⟨b, off, rfl, h2, h3⟩
    · exact absurd h h0
    · exact write_pos H0 K m g N b off len cap w hG hH0 hm hg h2 (hbg.resolve_left h0 b off rfl) hcap hN hh h3

theorem Bytes.apart {w : World} {a : Option Addr} {len g : Nat} {m : Nat → Nat} (h : Bytes w a len m) (hg : w.heap.size ≤ g) : len = 0 ∨ ∀ b off, a = some ⟨b, off, none⟩ → b ≠ g := by
  rcases h with h | ⟨b', off', h1, h2, _⟩
  · exact .inl h
  · refine .inr fun b off e => ?_
    rw [h1] at e
    simp at e
    omega

/-- Behind New, in Sum. -/
def Sum1 (H0 K : Nat → Nat) (w w1 : World) (m : Nat → Nat) : Prop :=
  Has w1 w.heap.size 24 (cellsN .u8 32 fun _ => 0) ∧ Hash H0 K w1 (w.heap.size + 1) m 0 ∧ Below w.heap.size w w1 ∧ Glob H0 K w1 ∧ w1.heap.size = w.heap.size + 2

theorem sum1_of {H0 K : Nat → Nat} {w : World} (m : Nat → Nat) (hG : Glob H0 K w) : Sum1 H0 K w ((w.alloc (.cells (cellsN .u8 32 fun _ => 0) 24)).alloc (.cells (hcells H0 (fun _ => 0) 0) 58)) m := by
  have hb : Below w.heap.size w ((w.alloc (.cells (cellsN .u8 32 fun _ => 0) 24)).alloc (.cells (hcells H0 (fun _ => 0) 0) 58)) := ((Below.refl _ _).alloc (Nat.le_refl _) _).alloc (by simp) _
  exact ⟨(Has.new_at rfl).alloc _, ⟨fun _ => 0, fun _ _ => by show 0 < 256; decide, fun j hj => by omega, Has.new_at (by simp)⟩, hb, hG.below hb hG.1, by simp⟩

theorem Glob.alloc {H0 K : Nat → Nat} {w : World} (h : Glob H0 K w) (o : Obj) : Glob H0 K (w.alloc o) := h.below ((Below.refl w.heap.size w).alloc (Nat.le_refl _) o) h.1

theorem new_sum {H0 K : Nat → Nat} {w : World} (m : Nat → Nat) (hG : Glob H0 K w) : Calls Tryd.prog 18 #[] (w.alloc (.cells (cellsN .u8 32 fun _ => 0) 24))
    fun e w1 => e = .returned (.pointer (some ⟨w.heap.size + 1, 0, none⟩)) ∧ Sum1 H0 K w w1 m := by
  refine (new_any H0 K _ (hG.alloc _)).mono ?_
  rintro e w1 ⟨rfl, rfl⟩
  exact ⟨by simp, sum1_of m hG⟩

set_option maxRecDepth 100000 in
set_option maxHeartbeats 1600000 in
theorem sum_any {H0 K m : Nat → Nat} {len : Nat} {w : World} {a : Option Addr} (cap : Nat) (hG : Glob H0 K w) (hH0 : ∀ j, j < 8 → H0 j < 4294967296) (hm : ∀ j, m j < 256)
    (hcap : len ≤ cap) (hN : len < 1152921504606846000) (hb : Bytes w a len m) :
    Calls Tryd.prog 9 #[.slice a len cap] w fun e w' => e = .returned (.agg (cellsN .u8 32 (SHA H0 K m len))) ∧ Below w.heap.size w w' := by
  have hnew := new_sum m hG
  go_enter Tryd.func9, Tryd.ntmps9
  go_wp2_with (first
    | ((go_at_call 18)
       (refine hnew.mono ?_)
       (rintro e w1 ⟨rfl, hS1⟩)
       (have hwr := write_any cap hS1.2.2.2.1 hH0 hm (by have := hG.1; omega) hcap (by omega) hS1.2.1 (by simpa using hb.below hS1.2.2.1 (Nat.le_refl _)) (hb.apart (by omega))))
    | ((go_at_call 19)
       (refine hwr.mono ?_)
       (rintro e w2 ⟨rfl, hh2, hb2⟩)
       (have hS2 := hS1.2.2.2.1.but hb2 (by have := hG.1; omega))
       (have hB2 : Below w.heap.size w w2 := hS1.2.2.1.trans (hb2.below (by omega) (by have := hS1.2.2.2.2; omega)))
       (have hR2 : Has w2 w.heap.size 24 (cellsN .u8 32 fun _ => 0) := hS1.1.below (hb2.below (B := w.heap.size + 1) (Nat.le_refl _) (by have := hS1.2.2.2.2; omega)) (by omega))
       (rw [Nat.zero_add] at hh2)
       (clear hb2 hwr))
    | ((go_at_call 20)
       (refine (hsum_any H0 K m (w.heap.size + 1) len w2 hS2 hH0 hm (by have := hG.1; omega) hN hh2).mono ?_)
       (rintro e w3 ⟨rfl, hb3⟩)
       (have hR3 : Has w3 w.heap.size 24 (cellsN .u8 32 fun _ => 0) := hR2.below hb3 hR2.lt)
       (have hB3 : Below w.heap.size w w3 := hB2.trans (hb3.mono hB2.size))
       (clear hb3))
    | ((refine wpList_store_rowG rfl 24 _ _ rfl (w.heap.size) (cellsN .u8 32 (SHA H0 K m len)) rfl rfl 24 _ hR3 (by rw [cellsN_size]; exact Tryd.size24) (by simp [cellsN_size]) (cellsN_one _ _ _) ?_)
       (intro w6 hw6)
       (have hR6 : Has w6 w.heap.size 24 (cellsN .u8 32 (SHA H0 K m len)) := (by rw [hw6]; exact hR3.setRow _))
       (have hB6 : Below w.heap.size w w6 := (by rw [hw6]; exact below_setRow hB3 (Nat.le_refl _) _))
       (clear hw6)))
  exact bodyPost_ret (results_cell_row rfl _ _ (w.heap.size) 24 _ (0, 0) _ rfl hR6 Tryd.underlying24 rfl (by rw [cellsN_size]; exact Tryd.size24)) rfl ⟨rfl, hB6⟩
end Go.Proofs.YtoeanaadlihkeabDoor
