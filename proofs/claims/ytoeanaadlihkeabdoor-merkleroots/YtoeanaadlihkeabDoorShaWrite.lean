/- A hash's Write: it takes bytes in behind what was. -/
import Derived.Test.YtoeanaadlihkeabDoorShaHash
namespace Go.Proofs.YtoeanaadlihkeabDoor
open Go.ChangeShapes Go.WideShapes Go.ChangeAt Go.RowKit

/-- The state behind i whole blocks of the bytes m 0, m 1, .. -/
def stAt (H0 K m : Nat → Nat) : Nat → Nat → Nat
  | 0 => H0
  | i + 1 => nextSt K (stAt H0 K m i) fun j => m (64 * i + j)

/-- The block g holds a hash that has taken in the first N of the bytes m. -/
def Hash (H0 K : Nat → Nat) (w : World) (g : Nat) (m : Nat → Nat) (N : Nat) : Prop :=
  ∃ rest : Nat → Nat, (∀ j, j < 64 → rest j < 256) ∧ (∀ j, j < N % 64 → rest j = m (64 * (N / 64) + j)) ∧ Has w g 58 (hcells (stAt H0 K m (N / 64)) rest N)

/-- But for block g all that was there is as it was. -/
def But (g : Nat) (w w' : World) : Prop := w'.os = w.os ∧ w'.tape = w.tape ∧ w'.output = w.output ∧ w.heap.size ≤ w'.heap.size ∧ ∀ k, k < w.heap.size → k ≠ g → w'.heap[k]? = w.heap[k]?

theorem But.refl (g : Nat) (w : World) : But g w w := ⟨rfl, rfl, rfl, Nat.le_refl _, fun _ _ _ => rfl⟩
theorem But.trans {g : Nat} {a b c : World} (h : But g a b) (k : But g b c) : But g a c :=
  ⟨k.1.trans h.1, k.2.1.trans h.2.1, k.2.2.1.trans h.2.2.1, Nat.le_trans h.2.2.2.1 k.2.2.2.1, fun i hi hg => (k.2.2.2.2 i (Nat.lt_of_lt_of_le hi h.2.2.2.1) hg).trans (h.2.2.2.2 i hi hg)⟩
theorem But.of_below {g B : Nat} {w w' : World} (h : Below B w w') (hB : w.heap.size ≤ B) : But g w w' := ⟨h.os, h.tape, h.output, h.size, fun k hk _ => h.block k (Nat.lt_of_lt_of_le hk hB)⟩
theorem But.drewN {g : Nat} {w w' : World} (h : But g w w') (n : Nat) : But g w (w'.drewN n) := h
theorem But.setCell {g : Nat} {w w' : World} (h : But g w w') (j : Nat) (v : Value) : But g w (w'.setCell ⟨g, j, none⟩ v) :=
  h.trans ⟨rfl, rfl, rfl, by simp [World.setCell], fun k _ hg => Below.heap_setCell _ _ _ _ hg⟩
theorem But.setRow {g : Nat} {w w' : World} (h : But g w w') (cs : Array Value) : But g w (w'.setRow g cs) :=
  h.trans ⟨rfl, rfl, rfl, by simp [World.setRow], fun k _ hg => by simp only [World.setRow, Array.getElem?_modify]; rw [if_neg (fun e => hg e.symm)]⟩
theorem But.cell {g : Nat} {w w' : World} (h : But g w w') {p : Addr} (hp : p.block < w.heap.size) (hg : p.block ≠ g) : w'.cell? p = w.cell? p := World.cell?_of_block (w := w) (h.2.2.2.2 p.block hp hg)

theorem Glob.but {H0 K : Nat → Nat} {g : Nat} {w w' : World} (h : Glob H0 K w) (hb : But g w w') (hg : 1 < g) : Glob H0 K w' :=
  ⟨Nat.lt_of_lt_of_le h.1 hb.2.2.2.1, fun j hj => (hb.cell (show 0 < w.heap.size by have := h.1; omega) (show 0 ≠ g by omega)).trans (h.2.1 j hj), fun j hj => (hb.cell (show 1 < w.heap.size from h.1) (show 1 ≠ g by omega)).trans (h.2.2 j hj)⟩

theorem nextSt_lt (K st blk : Nat → Nat) (j : Nat) : nextSt K st blk j < 4294967296 := add32_lt _ _

theorem stAt_lt (H0 K m : Nat → Nat) (h : ∀ j, j < 8 → H0 j < 4294967296) (i j : Nat) (hj : j < 8) : stAt H0 K m i j < 4294967296 := by
  cases i with
  | zero => exact h j hj
  | succ i => exact nextSt_lt _ _ _ _

/-- One copy, as a step of a region that draws its order. -/
theorem step_copy_row {ops : Array Oper} {o : Oper} {a : Act} {w : World} {C : Act → World → Prop} {Q : Exit → Act → World → Prop} {E : Prop} (hgd : o.guard = none) (d s : Operand) (dT sT : TypeId)
    (ho : o.op = .call { callee := .builtin .copy, args := #[d, s], argTypes := #[dT, sT] }) (elem : TypeId) (hu : Tryd.prog.underlying dT = some (.slice elem)) (hsz : (Tryd.prog.info? elem).map (·.size) = some 1)
    (g off dLen dCap : Nat) (ad : Addr) (sLen sCap : Nat) (hd : a.eval d = .slice (some ⟨g, off, none⟩) dLen dCap) (hs : a.eval s = .slice (some ad) sLen sCap)
    (cur : Array Value) (t : TypeId) (hg : Has w g t cur) (cs : List Value) (hn : cs.length = Nat.min sLen dLen)
    (hsrc : ∀ j v, cs[j]? = some v → w.cell? (ad.add j) = some v) (hfit : off + cs.length ≤ cur.size) (h1 : ∀ v ∈ cs, v.oneCell' = true)
    (h : ∀ w', w' = w.setRow g (cur.toList.take off ++ (cs ++ cur.toList.drop (off + cs.length))).toArray → C (a.put o.dst (goInt cs.length)) w') :
    if Region.wanted o (yielded ops a.tmps) = true then Oper.wp Tryd.prog o a w C Q else E := by
  have hw : Region.wanted o (yielded ops a.tmps) = true := by simp [Region.wanted, hgd]
  rw [if_pos hw]
  have hrun := run_copy_row (P := Tryd.prog) w dT sT o.type elem g off dLen dCap ad sLen sCap cur t cs hu hsz hg hn hsrc hfit h1
  unfold Oper.wp
  simp [execOp, ho, resolve, invoke, builtin, hd, hs, hrun, Result.andThen]
  exact h _ rfl

def restW (rest m : Nat → Nat) (M r c : Nat) : Nat → Nat := fun j => if j < r then rest j else if j < r + c then m (M + (j - r)) else rest j

theorem copied (st rest m : Nat → Nat) (n M r c : Nat) (hc : r + c ≤ 64) :
    ((hcells st rest n).toList.take (8 + r) ++ (((List.range c).map fun j => Value.int .u8 (m (M + j) : Nat)) ++ (hcells st rest n).toList.drop (8 + r + c))).toArray = hcells st (restW rest m M r c) n := by
  have hl : (hcells st rest n).toList.length = 73 := by simp [hcells]
  refine hcells_ext (by simp [hl]; omega) ?_
  intro j hj
  rw [List.getElem?_toArray]
  have hold : ∀ i, i < 73 → (hcells st rest n).toList[i]? = some (hcell st rest n i) := fun i hi => by
    rw [Array.getElem?_toList, hcells_get _ _ _ _ hi]
  by_cases h1 : j < 8 + r
  · rw [List.getElem?_append_left (by simp [hl]; omega), List.getElem?_take_of_lt h1, hold j hj]
    unfold hcell
    by_cases h8 : j < 8
    · rw [if_pos h8, if_pos h8]
    · rw [if_neg h8, if_neg h8, if_pos (by omega), if_pos (by omega)]
      unfold restW
      rw [if_pos (by omega)]
  · rw [List.getElem?_append_right (by simp [hl]; omega)]
    have e1 : ((hcells st rest n).toList.take (8 + r)).length = 8 + r := by simp [hl]; omega
    rw [e1]
    have h8 : ¬ j < 8 := by omega
    by_cases h2 : j < 8 + r + c
    · rw [List.getElem?_append_left (by simp; omega), List.getElem?_map, List.getElem?_range (by omega)]
      unfold hcell
      rw [if_neg h8, if_pos (by omega)]
      unfold restW
      rw [if_neg (by omega), if_pos (by omega), show j - 8 - r = j - (8 + r) from by omega]
      rfl
    · rw [List.getElem?_append_right (by simp; omega), List.getElem?_drop]
      rw [show 8 + r + c + (j - (8 + r) - ((List.range c).map fun j => Value.int .u8 (m (M + j) : Nat)).length) = j from by simp; omega, hold j hj]
      unfold hcell
      rw [if_neg h8, if_neg h8]
      by_cases h72 : j < 72
      · rw [if_pos h72, if_pos h72]
        unfold restW
        rw [if_neg (by omega), if_neg (by omega)]
      · rw [if_neg h72, if_neg h72]

theorem hcells_congr (st st' rest rest' : Nat → Nat) (n : Nat) (h : ∀ j, j < 8 → st j = st' j) (h' : ∀ j, j < 64 → rest j = rest' j) : hcells st rest n = hcells st' rest' n := by
  refine hcells_ext (hcells_size _ _ _) ?_
  intro j hj
  rw [hcells_get _ _ _ _ hj]
  unfold hcell
  by_cases h8 : j < 8
  · rw [if_pos h8, if_pos h8, h j h8]
  · rw [if_neg h8, if_neg h8]
    by_cases h72 : j < 72
    · rw [if_pos h72, if_pos h72, h' _ (by omega)]
    · rw [if_neg h72, if_neg h72]

theorem ld_congr (blk blk' : Nat → Nat) (h : ∀ j, j < 64 → blk j = blk' j) : ∀ i, i ≤ 64 → ld blk i = ld blk' i := by
  intro i
  induction i with
  | zero => intro _; rfl
  | succ i ih =>
    intro hi
    simp only [ld]
    rw [ih (by omega), h i (by omega)]

theorem nextSt_congr (K st blk blk' : Nat → Nat) (h : ∀ j, j < 64 → blk j = blk' j) : nextSt K st blk = nextSt K st blk' := by
  unfold nextSt sched
  rw [ld_congr blk blk' h 64 (Nat.le_refl _)]

theorem restW_lt (rest m : Nat → Nat) (M r c : Nat) (h1 : ∀ j, j < 64 → rest j < 256) (hm : ∀ j, m j < 256) (j : Nat) (hj : j < 64) : restW rest m M r c j < 256 := by
  unfold restW
  split
  · exact h1 j hj
  · split
    · exact hm _
    · exact h1 j hj

theorem restW_eq (rest m : Nat → Nat) (M c : Nat) (h2 : ∀ j, j < M % 64 → rest j = m (64 * (M / 64) + j)) (j : Nat) (hj : j < M % 64 + c) : restW rest m M (M % 64) c j = m (64 * (M / 64) + j) := by
  unfold restW
  by_cases h : j < M % 64
  · rw [if_pos h, h2 j h]
  · rw [if_neg h, if_pos hj]
    congr 1
    omega

theorem hash_part {H0 K m rest : Nat → Nat} {w : World} {g M k : Nat} (hH : Has w g 58 (hcells (stAt H0 K m (M / 64)) (restW rest m M (M % 64) k) (M + k))) (hm : ∀ j, m j < 256)
    (h1 : ∀ j, j < 64 → rest j < 256) (h2 : ∀ j, j < M % 64 → rest j = m (64 * (M / 64) + j)) (hk : M % 64 + k < 64) : Hash H0 K w g m (M + k) := by
  have e1 : (M + k) / 64 = M / 64 := by omega
  have e2 : (M + k) % 64 = M % 64 + k := by omega
  refine ⟨restW rest m M (M % 64) k, fun j hj => restW_lt _ _ _ _ _ h1 hm j hj, ?_, ?_⟩
  · intro j hj
    rw [e2] at hj
    rw [e1]
    exact restW_eq rest m M k h2 j hj
  · rw [e1]
    exact hH

theorem hash_full {H0 K m rest s' : Nat → Nat} {w : World} {g M k : Nat} (hH : Has w g 58 (hcells s' (restW rest m M (M % 64) k) (M + k))) (hm : ∀ j, m j < 256)
    (hs : ∀ j, j < 8 → s' j = nextSt K (stAt H0 K m (M / 64)) (restW rest m M (M % 64) k) j)
    (h1 : ∀ j, j < 64 → rest j < 256) (h2 : ∀ j, j < M % 64 → rest j = m (64 * (M / 64) + j)) (hk : M % 64 + k = 64) : Hash H0 K w g m (M + k) := by
  have e1 : (M + k) / 64 = M / 64 + 1 := by omega
  have e2 : (M + k) % 64 = 0 := by omega
  refine ⟨restW rest m M (M % 64) k, fun j hj => restW_lt _ _ _ _ _ h1 hm j hj, ?_, ?_⟩
  · intro j hj
    omega
  · rw [e1, show stAt H0 K m (M / 64 + 1) = nextSt K (stAt H0 K m (M / 64)) (fun j => m (64 * (M / 64) + j)) from rfl,
      ← nextSt_congr K (stAt H0 K m (M / 64)) (restW rest m M (M % 64) k) (fun j => m (64 * (M / 64) + j)) (fun j hj => restW_eq rest m M k h2 j (by omega)),
      ← hcells_congr s' _ _ _ (M + k) hs (fun _ _ => rfl)]
    exact hH

theorem hash_set8 {w : World} {g n : Nat} {st rest : Nat → Nat} (v : Nat → Nat) (h : Has w g 58 (hcells st rest n)) :
    Has ((((((((w.setCell ⟨g, 0, none⟩ (.int .u32 ((v 0 : Nat) : Int))).setCell ⟨g, 1, none⟩ (.int .u32 ((v 1 : Nat) : Int))).setCell ⟨g, 2, none⟩ (.int .u32 ((v 2 : Nat) : Int))).setCell ⟨g, 3, none⟩ (.int .u32 ((v 3 : Nat) : Int))).setCell ⟨g, 4, none⟩ (.int .u32 ((v 4 : Nat) : Int))).setCell ⟨g, 5, none⟩ (.int .u32 ((v 5 : Nat) : Int))).setCell ⟨g, 6, none⟩ (.int .u32 ((v 6 : Nat) : Int))).setCell ⟨g, 7, none⟩ (.int .u32 ((v 7 : Nat) : Int))) g 58 (hcells v rest n) := by
  have := (hash_setState (hash_setState (hash_setState (hash_setState (hash_setState (hash_setState (hash_setState (hash_setState h 0 (v 0) (by decide)) 1 (v 1) (by decide)) 2 (v 2) (by decide)) 3 (v 3) (by decide)) 4 (v 4) (by decide)) 5 (v 5) (by decide)) 6 (v 6) (by decide)) 7 (v 7) (by decide))
  rw [hcells_congr _ v rest rest n (fun j hj => by
    rcases (show j = 0 ∨ j = 1 ∨ j = 2 ∨ j = 3 ∨ j = 4 ∨ j = 5 ∨ j = 6 ∨ j = 7 from by omega) with rfl | rfl | rfl | rfl | rfl | rfl | rfl | rfl <;> simp [upd]) (fun _ _ => rfl)] at this
  exact this

def lenOf : Value → Nat
  | .slice _ l _ => l
  | _ => 0

theorem cells8 (f : Nat → Nat) : cellsN .u32 8 f = #[.int .u32 ((f 0 : Nat) : Int), .int .u32 ((f 1 : Nat) : Int), .int .u32 ((f 2 : Nat) : Int), .int .u32 ((f 3 : Nat) : Int), .int .u32 ((f 4 : Nat) : Int), .int .u32 ((f 5 : Nat) : Int), .int .u32 ((f 6 : Nat) : Int), .int .u32 ((f 7 : Nat) : Int)] := rfl

theorem Tryd.size5 : (Tryd.prog.info? 5).map (·.size) = some 1 := by kernel_rfl

set_option maxRecDepth 100000 in
set_option maxHeartbeats 1600000 in
theorem write_pos (H0 K m : Nat → Nat) (g N b off len cap : Nat) (w : World) (hG : Glob H0 K w) (hH0 : ∀ j, j < 8 → H0 j < 4294967296) (hm : ∀ j, m j < 256) (hg : 1 < g) (hb : b < w.heap.size) (hbg : b ≠ g)
    (hcap : len ≤ cap) (hN : N + len < 1152921504606846976) (hh : Hash H0 K w g m N) (hc : ∀ j, j < len → w.cell? ⟨b, off + j, none⟩ = some (.int .u8 (m (N + j) : Nat))) :
    Calls Tryd.prog 19 #[.pointer (some ⟨g, 0, none⟩), .slice (some ⟨b, off, none⟩) len cap] w fun e w' => e = .returned (.tuple #[]) ∧ Hash H0 K w' g m (N + len) ∧ But g w w' := by
  go_enter Tryd.func19, Tryd.ntmps19
  go_wp2
  go_loopw [1] (fun s wr => ∃ c o : Nat, c ≤ len ∧ s = .slice (some ⟨b, o, none⟩) (len - c) (cap - c) ∧ (c < len → o = off + c) ∧ Hash H0 K wr g m (N + c) ∧ But g w wr)
    (fun s _ => lenOf s)
  case atStart => exact ⟨0, off, Nat.zero_le _, rfl, fun _ => rfl, hh, But.refl _ _⟩
  case round =>
    clear hh
    obtain ⟨c, o, hcl, rfl, ho, ⟨rest, hr1, hr2, hH⟩, hbut⟩ := hrel
    by_cases hlt : c < len
    · obtain rfl := ho hlt
      obtain ⟨M, hM⟩ : ∃ M, M = N + c := ⟨_, rfl⟩
      obtain ⟨q, hq⟩ : ∃ q, q = len - c := ⟨_, rfl⟩
      obtain ⟨p, hp⟩ : ∃ p, p = cap - c := ⟨_, rfl⟩
      obtain ⟨r, hr⟩ : ∃ r, r = M % 64 := ⟨_, rfl⟩
      rw [← hM] at hr2 hH
      rw [← hq, ← hp]
      have hsz := hash_size hH
      have hri : (M : Int) % 64 = (r : Int) := by omega
      have hri2 : (M : Int).tmod 64 = (r : Int) := by rw [Int.tmod_eq_emod_of_nonneg (by omega)]; omega
      have h64r : ¬ 64 = r := by omega
      have q0 : (0 : Int) < (q : Int) := by omega
      have r0 : (0 : Int) ≤ (r : Int) := by omega
      have r1 : (r : Int) < 64 := by omega
      have r2 : (r : Int) ≤ 64 := by omega
      have HM : Hid (M = N + c ∧ q = len - c ∧ p = cap - c ∧ r = M % 64) := ⟨hM, hq, hp, hr⟩
      clear hM hq hp hr
      obtain ⟨k, hk⟩ : ∃ k, k = Nat.min q (64 - r) := ⟨_, rfl⟩
      have hk64 : k ≤ 64 - r := by rw [hk]; exact Nat.min_le_right _ _
      have hkr : r + k ≤ 64 := by omega
      have hkq : k ≤ q := by rw [hk]; exact Nat.min_le_left _ _
      have HKE : Hid (k = q ∨ k = 64 - r) := by
        rcases Nat.le_total q (64 - r) with h | h
        · exact Or.inl (by rw [hk]; exact Nat.min_eq_left h)
        · exact Or.inr (by rw [hk]; exact Nat.min_eq_right h)
      have HK : Hid (k = Nat.min q (64 - r)) := hk
      clear hk
      have hsrc : ∀ j v, ((List.range k).map fun j => Value.int .u8 (m (M + j) : Nat))[j]? = some v → wr.cell? ((⟨b, off + c, none⟩ : Addr).add j) = some v := by
        intro j v hv
        rw [List.getElem?_map] at hv
        by_cases hj : j < k
        · rw [List.getElem?_range hj] at hv
          have e1 : (⟨b, off + c, none⟩ : Addr).add j = ⟨b, off + (c + j), none⟩ := by unfold Addr.add; split <;> simp_all [Nat.add_assoc]
          have h3 := HM.out
          rw [e1, hbut.cell hb hbg, hc (c + j) (by omega)]
          rw [← hv, show N + (c + j) = M + j from by omega]
          rfl
        · rw [List.getElem?_eq_none (by simp; omega)] at hv
          simp at hv
      have hone : ∀ v ∈ (List.range k).map fun j => Value.int .u8 (m (M + j) : Nat), v.oneCell' = true := by
        intro v hv
        simp only [List.mem_map] at hv
        obtain ⟨j, _, rfl⟩ := hv
        rfl
      have hlen : ((List.range k).map fun j => Value.int .u8 (m (M + j) : Nat)).length = k := by simp
      obtain ⟨cs, hcs⟩ : ∃ cs, cs = (List.range k).map fun j => Value.int .u8 (m (M + j) : Nat) := ⟨_, rfl⟩
      rw [← hcs] at hsrc hone hlen
      have HC : Hid (cs = (List.range k).map fun j => Value.int .u8 (m (M + j) : Nat)) := hcs
      clear hcs
      have HLn : Hid (cs.length = k) := hlen
      clear hlen
      have HS : Hid (∀ j v, cs[j]? = some v → wr.cell? ((⟨b, off + c, none⟩ : Addr).add j) = some v) := hsrc
      have HO : Hid (∀ v ∈ cs, v.oneCell' = true) := hone
      clear hsrc hone
      go_wp2_with fail
      go_region_held3 (fun w' => w'.cell? ⟨g, 72, none⟩ = some (.int .u64 (M : Nat)))
        (first
          | go_keep
          | exact hsz2)
        (first
          | ((refine step_copy_row rfl _ _ 22 22 rfl 5 Tryd.underlying22 Tryd.size5 g (8 + r) (64 - r) (64 - r) ⟨b, off + c, none⟩ q p (by rfl) (by rfl) (hcells (stAt H0 K m (M / 64)) rest M) 58 hH cs (by rw [HLn.out]; exact HK.out) HS.out (by rw [HLn.out, hcells_size]; omega) HO.out ?_)
             (intro w2 hw2)
             (have hH2 : Has w2 g 58 (hcells (stAt H0 K m (M / 64)) (restW rest m M r k) M) := (by rw [hw2, ← copied _ _ _ _ _ _ _ hkr, ← HC.out, HLn.out]; exact hH.setRow _))
             (have hB2 : But g w w2 := (by rw [hw2]; exact hbut.setRow _))
             (clear hw2)
             (have hsz2 := hash_size hH2)
             (rw [HLn.out])))
      clear hsz HC HLn HS HO hH hbut
      have hf72 := hH2.free 72
      have h3 := HM.out
      have k1 : (0 : Int) < (k : Int) := by have e := HKE.out; omega
      have k2 : (k : Int) ≤ (q : Int) := by omega
      have k3 : (q : Int) ≤ (p : Int) := by omega
      have hMb : M < 1152921504606846976 := by omega
      have hkb : k ≤ 64 := by omega
      have hH3 : Has (w2.setCell ⟨g, 72, none⟩ (.int .u64 ((M : Int) + (k : Int)))) g 58 (hcells (stAt H0 K m (M / 64)) (restW rest m M r k) (M + k)) := by
        have := hash_setSize hH2 (M + k)
        rwa [Int.natCast_add] at this
      have hB3 : But g w (w2.setCell ⟨g, 72, none⟩ (.int .u64 ((M : Int) + (k : Int)))) := hB2.setCell _ _
      by_cases hfull : r + k = 64
      · have hm0 : ((M : Int) + (k : Int)) % 64 = 0 := by omega
        obtain ⟨st, hst⟩ : ∃ st, st = stAt H0 K m (M / 64) := ⟨_, rfl⟩
        rw [← hst] at hH3 hH2
        obtain ⟨rw', hrw⟩ : ∃ x, x = restW rest m M r k := ⟨_, rfl⟩
        rw [← hrw] at hH3 hH2
        have hsl : ∀ j, j < 8 → st j < 4294967296 := fun j hj => by rw [hst]; exact stAt_lt H0 K m hH0 _ j hj
        have hrl : ∀ j, j < 64 → rw' j < 256 := fun j hj => by rw [hrw]; exact restW_lt _ _ _ _ _ hr1 hm j hj
        have hG3 := hG.but hB3 hg
        have hnext : ∀ w1 : World, (w1.heap = (w2.setCell ⟨g, 72, none⟩ (.int .u64 ((M : Int) + (k : Int)))).heap ∧ w1.os = (w2.setCell ⟨g, 72, none⟩ (.int .u64 ((M : Int) + (k : Int)))).os ∧ w1.tape = (w2.setCell ⟨g, 72, none⟩ (.int .u64 ((M : Int) + (k : Int)))).tape ∧ w1.output = (w2.setCell ⟨g, 72, none⟩ (.int .u64 ((M : Int) + (k : Int)))).output) → Calls Tryd.prog 25 #[.agg #[.int .u32 ((st 0 : Nat) : Int), .int .u32 ((st 1 : Nat) : Int), .int .u32 ((st 2 : Nat) : Int), .int .u32 ((st 3 : Nat) : Int), .int .u32 ((st 4 : Nat) : Int), .int .u32 ((st 5 : Nat) : Int), .int .u32 ((st 6 : Nat) : Int), .int .u32 ((st 7 : Nat) : Int)], .pointer (some ⟨g, 8, none⟩)] w1
            fun e w' => e = .returned (.agg #[.int .u32 ((nextSt K st rw' 0 : Nat) : Int), .int .u32 ((nextSt K st rw' 1 : Nat) : Int), .int .u32 ((nextSt K st rw' 2 : Nat) : Int), .int .u32 ((nextSt K st rw' 3 : Nat) : Int), .int .u32 ((nextSt K st rw' 4 : Nat) : Int), .int .u32 ((nextSt K st rw' 5 : Nat) : Int), .int .u32 ((nextSt K st rw' 6 : Nat) : Int), .int .u32 ((nextSt K st rw' 7 : Nat) : Int)]) ∧ Has w' g 58 (hcells st rw' (M + k)) ∧ But g w w' := by
          intro w1 ⟨hw1, hw2a, hw2b, hw2c⟩
          have hH4 : Has w1 g 58 (hcells st rw' (M + k)) := by unfold Has; rw [hw1]; exact hH3
          have hG4 : Glob H0 K w1 := by
            obtain ⟨x1, x2, x3⟩ := hG3
            exact ⟨by rw [hw1]; exact x1, fun j hj => (World.cell?_of_block (by rw [hw1])).trans (x2 j hj), fun j hj => (World.cell?_of_block (by rw [hw1])).trans (x3 j hj)⟩
          have := next_any K st rw' g 8 w1 hH4.lt hrl hsl hG4.1 hG4.2.2 (fun j hj => hash_rest hH4 j hj)
          rw [cells8, cells8] at this
          refine this.mono ?_
          rintro e w' ⟨h6, h7⟩
          refine ⟨h6, hH4.below h7 hH4.lt, hB3.trans ⟨h7.os.trans ?_, h7.tape.trans ?_, h7.output.trans ?_, by rw [← hw1]; exact h7.size, fun i hi _ => by rw [h7.block i (by rw [hw1]; exact hi), hw1]⟩⟩
          · exact hw2a
          · exact hw2b
          · exact hw2c
        have c0 := hash_state hH3 0 (by omega)
        have c1 := hash_state hH3 1 (by omega)
        have c2 := hash_state hH3 2 (by omega)
        have c3 := hash_state hH3 3 (by omega)
        have c4 := hash_state hH3 4 (by omega)
        have c5 := hash_state hH3 5 (by omega)
        have c6 := hash_state hH3 6 (by omega)
        have c7 := hash_state hH3 7 (by omega)
        have HST : Hid (st = stAt H0 K m (M / 64) ∧ rw' = restW rest m M r k) := ⟨hst, hrw⟩
        have HF : Hid (r + k = 64) := hfull
        clear hst hrw hsl hrl hG3 h3 hfull
        by_cases hpk : p = k
        · go_wp2_with fail
          go_region_with (first
              | ((go_at_call 25)
                 (refine (hnext _ ?_).mono ?_)
                 (exact ⟨rfl, rfl, rfl, rfl⟩)
                 (rintro e w5 ⟨rfl, hH5, hB5⟩)
                 (have d0 := hash_state hH5 0 (by omega))
                 (have d1 := hash_state hH5 1 (by omega))
                 (have d2 := hash_state hH5 2 (by omega))
                 (have d3 := hash_state hH5 3 (by omega))
                 (have d4 := hash_state hH5 4 (by omega))
                 (have d5 := hash_state hH5 5 (by omega))
                 (have d6 := hash_state hH5 6 (by omega))
                 (have d7 := hash_state hH5 7 (by omega))
                 (have f0 := hH5.free 0)
                 (have f1 := hH5.free 1)
                 (have f2 := hH5.free 2)
                 (have f3 := hH5.free 3)
                 (have f4 := hH5.free 4)
                 (have f5 := hH5.free 5)
                 (have f6 := hH5.free 6)
                 (have f7 := hH5.free 7)))
          go_wp2
          go_roundw
          case rel =>
            have h3 := HM.out
            have h4 := HF.out
            have h5 := HST.out
            refine ⟨c + k, off + c, by omega, by rw [show len - (c + k) = q - k from by omega, show cap - (c + k) = 0 from by omega], fun h => absurd h (by omega), ?_, (((((((hB5.setCell _ _).setCell _ _).setCell _ _).setCell _ _).setCell _ _).setCell _ _).setCell _ _).setCell _ _⟩
            rw [show N + (c + k) = M + k from by omega]
            have h6 := hash_set8 (nextSt K st rw') hH5
            rw [h5.2, h5.1, h3.2.2.2] at h6
            rw [h5.2, h5.1, h3.2.2.2]
            exact hash_full h6 hm (fun _ _ => rfl) hr1 hr2 (by omega)
          case measure => simp only [lenOf]; omega
        · go_wp2_with fail
          go_region_with (first
              | ((go_at_call 25)
                 (refine (hnext _ ?_).mono ?_)
                 (exact ⟨rfl, rfl, rfl, rfl⟩)
                 (rintro e w5 ⟨rfl, hH5, hB5⟩)
                 (have d0 := hash_state hH5 0 (by omega))
                 (have d1 := hash_state hH5 1 (by omega))
                 (have d2 := hash_state hH5 2 (by omega))
                 (have d3 := hash_state hH5 3 (by omega))
                 (have d4 := hash_state hH5 4 (by omega))
                 (have d5 := hash_state hH5 5 (by omega))
                 (have d6 := hash_state hH5 6 (by omega))
                 (have d7 := hash_state hH5 7 (by omega))
                 (have f0 := hH5.free 0)
                 (have f1 := hH5.free 1)
                 (have f2 := hH5.free 2)
                 (have f3 := hH5.free 3)
                 (have f4 := hH5.free 4)
                 (have f5 := hH5.free 5)
                 (have f6 := hH5.free 6)
                 (have f7 := hH5.free 7)))
          go_wp2
          go_roundw
          case rel =>
            have h3 := HM.out
            have h4 := HF.out
            have h5 := HST.out
            refine ⟨c + k, off + c + k, by omega, by rw [show len - (c + k) = q - k from by omega, show cap - (c + k) = p - k from by omega], fun h => by omega, ?_, (((((((hB5.setCell _ _).setCell _ _).setCell _ _).setCell _ _).setCell _ _).setCell _ _).setCell _ _).setCell _ _⟩
            rw [show N + (c + k) = M + k from by omega]
            have h6 := hash_set8 (nextSt K st rw') hH5
            rw [h5.2, h5.1, h3.2.2.2] at h6
            rw [h5.2, h5.1, h3.2.2.2]
            exact hash_full h6 hm (fun _ _ => rfl) hr1 hr2 (by omega)
          case measure => simp only [lenOf]; omega
      · have hkq2 : k = q := by have e := HKE.out; omega
        have hm0 : ((M : Int) + (k : Int)) % 64 = ((r + k : Nat) : Int) := by omega
        have hm1 : ¬ ((r + k : Nat) : Int) = 0 := by omega
        have HH : Hid (k = q) := hkq2
        clear h3 hkq2 hfull
        by_cases hpk : p = k
        · go_wp2
          go_roundw
          case rel =>
            have h3 := HM.out
            have h4 := HH.out
            refine ⟨c + k, off + c, by omega, by rw [show len - (c + k) = q - k from by omega, show cap - (c + k) = 0 from by omega], fun h => absurd h (by omega), ?_, hB3⟩
            rw [show N + (c + k) = M + k from by omega]
            rw [h3.2.2.2] at hH3
            exact hash_part hH3 hm hr1 hr2 (by omega)
          case measure => simp only [lenOf]; omega
        · go_wp2
          go_roundw
          case rel =>
            have h3 := HM.out
            have h4 := HH.out
            refine ⟨c + k, off + c + k, by omega, by rw [show len - (c + k) = q - k from by omega, show cap - (c + k) = p - k from by omega], fun h => absurd h (by omega), ?_, hB3⟩
            rw [show N + (c + k) = M + k from by omega]
            rw [h3.2.2.2] at hH3
            exact hash_part hH3 hm hr1 hr2 (by omega)
          case measure => simp only [lenOf]; omega
    · obtain rfl : c = len := by omega
      have hll : c - c = 0 := by omega
      rw [hll]
      go_wp2
      go_end0
      exact ⟨rfl, ⟨rest, hr1, hr2, hH⟩, hbut⟩
end Go.Proofs.YtoeanaadlihkeabDoor
