/- JournalReads, walked. -/
import Derived.Test.YtfgoongfmidpgabDoorJoint09
import Derived.Test.YtfgoongfmidpgabDoorJoint11
import Derived.Test.YtfgoongfmidpgabDoorJrReadO
namespace Go.Proofs.YtfgoongfmidpgabDoor
open Go.ChangeShapes Go.WideShapes Go.ChangeAt Go.RowKit
set_option linter.unusedVariables false

variable {D : DevRep}

theorem pd_nilR (p : Nat) (w : World) : (binOp BinOp.eql 24 (ptr p) (.pointer none)).run Tryd.prog w = .ok (.bool false) w := by kernel_rfl

theorem run_max1 {o : Oper} {a : Act} (x : Operand) (ho : o.op = .call { callee := .builtin .max, args := #[x, .const (.int .i64 1)], argTypes := #[3, 3] }) (i : Int) (hx : a.eval x = .int .i64 i) (v : Int) (hv : v = if 1 < i then i else 1) (w : World) : (execOp a.eval o).run Tryd.prog w = .ok (.value (.int .i64 v)) w := by
  unfold execOp
  simp only [ho, resolve, invoke, builtin, List.map_toArray, List.map_cons, List.map_nil, hx]
  by_cases h : i < 1
  · have h2 : ¬ (1 : Int) < i := by omega
    rw [if_neg h2] at hv
    rw [hv]
    go_simp
    try omega
  · by_cases h0 : i = 1
    · subst h0
      rw [if_neg (by decide)] at hv
      rw [hv]
      go_simp
    · have h2 : (1 : Int) < i := by omega
      rw [if_pos h2] at hv
      rw [hv]
      go_simp
      try omega

theorem run_min60 {o : Oper} {a : Act} (x : Operand) (ho : o.op = .call { callee := .builtin .min, args := #[x, .const (.int .i64 60)], argTypes := #[3, 3] }) (i : Int) (hx : a.eval x = .int .i64 i) (v : Int) (hv : v = if i < 60 then i else 60) (w : World) : (execOp a.eval o).run Tryd.prog w = .ok (.value (.int .i64 v)) w := by
  unfold execOp
  simp only [ho, resolve, invoke, builtin, List.map_toArray, List.map_cons, List.map_nil, hx]
  by_cases h : i < 60
  · have h2 : ¬ (60 : Int) < i := by omega
    rw [if_pos h] at hv
    rw [hv]
    go_simp
    try omega
  · by_cases h0 : i = 60
    · subst h0
      rw [if_neg (by decide)] at hv
      rw [hv]
      go_simp
    · have h2 : (60 : Int) < i := by omega
      rw [if_neg h] at hv
      rw [hv]
      go_simp
      try omega

theorem run_slice_0 {o : Oper} {a : Act} (x l h : Operand) (ho : o.op = .slice 33 x (some l) (some h) none) (b L cap p s : Nat) (hx : a.eval x = .slice (some ⟨b, 0, none⟩) L cap) (hl : a.eval l = .int .i64 (p : Nat)) (hh : a.eval h = .int .i64 ((p + s : Nat) : Int)) (h1 : p < cap) (h2 : p + s ≤ cap) (w : World) :
    (execOp a.eval o).run Tryd.prog w = .ok (.value (.slice (some ⟨b, p, none⟩) s (cap - p))) w := by
  have h5 := run_slice_j x l h ho b 0 L cap p s hx hl hh h1 h2 w
  rwa [Nat.zero_add] at h5

theorem likes_ofR {rs rs' : List RC} (h : rsame rs rs') (hb : ∀ r ∈ rs, ∀ k, r.f k < 256) (hb' : ∀ r ∈ rs', ∀ k, r.f k < 256) : rlikes rs rs' = true := by
  rw [rlikes_iff]
  refine ⟨rsame_len h, fun i r q hr hq => ?_⟩
  obtain ⟨h1, h2⟩ := rsame_get h i r q hr hq
  unfold rlike
  rw [beq_iff_eq]
  exact (strN_eq (hb r (List.mem_of_getElem? hr)) (hb' q (List.mem_of_getElem? hq))).2 ⟨h1, h2⟩

theorem told_bytR {A : Nat → Nat} (hA : ∀ k, A k < 256) (N : Nat) : ∀ r ∈ told dgS A N, ∀ k, r.f k < 256 := by
  intro r hr k
  unfold told recsOf at hr
  obtain ⟨x, _, rfl⟩ := List.mem_map.1 hr
  exact hA _

/-- What is read of a device, held against the bytes. -/
theorem read_told {w : World} {a : Option Addr} {N C : Nat} {A : Nat → Nat} (h : ByIn w a N C A) (hN : N ≤ 8000) {rs : List RC} (hrs : rs = told dgS A N) {q E : Nat} (hq : q = rs.length) (hE : E = endOf 0 rs) :
    Calls Tryd.prog 19 #[.slice a N C] w fun e w' => Below w.heap.size w w' ∧ ∃ a c, e = .returned (.tuple #[.slice a q c, .int .i64 (E : Nat)]) ∧ RlO w.heap.size w' a rs := by
  refine Calls.mono (read_own h hN) ?_
  rintro e w' ⟨hb, a, c, rfl, hr⟩
  refine ⟨hb, a, c, ?_, by rw [hrs]; exact hr⟩
  rw [hq, hE, hrs, (told_laid dgS A N).2.1, show (told dgS A N).length = (reads dgS A N 0).1.length from recsOf_len _ _]
  rfl

theorem wrErr_okR (s : DS) (r L : Nat) (hd : s.dead = false) (hr : r < s.n) (hL : L ≤ 64) : wrErr s (r : Int) L = 0 := by
  unfold wrErr
  rw [hd, if_neg (by simp), if_neg (by omega), if_neg (by omega)]

/-- The device behind i sectors. -/
structure RdS (s : DS) (n i : Nat) (A : Nat → Nat) : Prop where
  n : s.n = n
  dead : s.dead = false
  bad : ∀ k, s.bad k = false
  byt : Byt s
  log : s.log.length = i
  hold : ∀ r, r < i → ∀ j, j < 64 → holds s r j = A (64 * r + j)

theorem RdS.start (n : Nat) (A : Nat → Nat) : RdS (fresh n) n 0 A := ⟨rfl, rfl, fun _ => rfl, byt_fresh n, rfl, fun r hr => by omega⟩

theorem RdS.write {s : DS} {n i T : Nat} {A : Nat → Nat} (h : RdS s n i A) (hi : i < n) (hT : T = 64 * i) (hA : ∀ k, A k < 256) : wrErr s (i : Int) 64 = 0 ∧ wrM s (i : Int) 64 i = i + 1 ∧ RdS (wrS s (i : Int) (fun j => A (T + j)) 64 i) n (i + 1) A := by
  have he := wrErr_okR s i 64 h.dead (by rw [h.n]; exact hi) (Nat.le_refl _)
  refine ⟨he, by unfold wrM; rw [if_pos he], ?_⟩
  unfold wrS
  rw [if_pos he]
  have eh : ∀ (q : Int), holds (wroteD s (i : Int).toNat (full (fun j => A (T + j)) 64) q) = upF (holds s) ⟨(i : Int).toNat, full (fun j => A (T + j)) 64, false, false, q⟩ := fun q => holds_add s _
  refine ⟨h.n, h.dead, fun k => ?_, ⟨h.byt.1, fun e hm j => ?_⟩, ?_, fun r hr j hj => ?_⟩
  · show (if k = (i : Int).toNat then false else s.bad k) = false
    split
    · rfl
    · exact h.bad k
  · have hm' : e ∈ s.log ++ [⟨(i : Int).toNat, full (fun j => A (T + j)) 64, false, false, _⟩] := hm
    rcases List.mem_append.1 hm' with h1 | h1
    · exact h.byt.2 e h1 j
    · obtain rfl := List.mem_singleton.1 h1
      exact full_lt _ _ (fun j => hA _) j
  · show (s.log ++ [_]).length = i + 1
    rw [List.length_append, h.log]
    rfl
  · rw [eh]
    unfold upF
    by_cases hri : r = i
    · rw [if_pos ⟨rfl, by show r = (i : Int).toNat; omega⟩]
      show full (fun j => A (T + j)) 64 j = _
      unfold full
      rw [if_pos hj, hT, hri]
    · rw [if_neg (by rintro ⟨_, h2⟩; apply hri; have h3 : r = (i : Int).toNat := h2; omega)]
      exact h.hold r (by omega) j hj

/-- What JournalReads holds behind i sectors. -/
def RdL (D : DevRep) (w : World) (p c n N g : Nat) (A : Nat → Nat) (i : Nat) (wr : World) : Prop := ∃ s F, In D w.heap.size w wr p s c i F ∧ RdS s n i A ∧ ByIn wr (some ⟨g, 0, none⟩) N N A ∧ g < wr.heap.size ∧ ¬ F g ∧ g ≠ c

theorem stands_yes {s : DS} {rs : List RC} (hf : Fine s) (hk : Keeps s rs) (hb : ∀ r ∈ rs, ∀ k, r.f k < 256) : standsB s rs = true := by
  obtain ⟨h1, h2⟩ := stands_told dgS_congr hk (by omega)
  unfold standsB
  rw [Bool.and_eq_true, Bool.and_eq_true]
  refine ⟨?_, (blankB_iff _ _ _).2 (fun k hk1 hk2 => hk.2.2.2 k (by rw [← h2]; exact hk1) hk2), decide_eq_true (pend_safe hf.safe)⟩
  exact likes_ofR h1 (told_bytR (fun k => hf.byt.holds _ _) _) hb

set_option maxRecDepth 100000 in
set_option maxHeartbeats 16000000 in
theorem reads_walk (hD : DevOk D) (hM : DevMore D) (w : World) (hG : Glob Hc Kc w) (ba : Option Addr) (L C : Nat) (b : Nat → Nat) (hb : ByIn w ba L C b) :
    Calls Tryd.prog 5 #[.slice ba L C] w fun e w' => e = .returned (.bool true) ∧ Below w.heap.size w w' := by
  have hjn := jp_nil
  have hpn := pd_nilR
  have hB1 : 1 < w.heap.size := hG.1
  obtain ⟨V, hV⟩ : ∃ V : Int, V = if 1 < wrap64 ((wrap64 ((L : Int) + 63)).tdiv 64) then wrap64 ((wrap64 ((L : Int) + 63)).tdiv 64) else 1 := ⟨_, rfl⟩
  have HV : Hid (V = if 1 < wrap64 ((wrap64 ((L : Int) + 63)).tdiv 64) then wrap64 ((wrap64 ((L : Int) + 63)).tdiv 64) else 1) := hV
  have hV1 : 1 ≤ V := by
    rw [hV]
    split <;> omega
  clear hV
  obtain ⟨n, hn⟩ : ∃ n : Nat, (n : Int) = if V < 60 then V else 60 := ⟨(if V < 60 then V else 60).toNat, by split <;> omega⟩
  have HVn : Hid ((n : Int) = if V < 60 then V else 60) := hn
  have hn1 : 1 ≤ n := by split at hn <;> omega
  have hn2 : n ≤ 60 := by split at hn <;> omega
  have hnb : (n : Int) ≤ 60 := by omega
  have hn0 : (0 : Int) ≤ (n : Int) := by omega
  clear hn
  have hnew := in_new (B := w.heap.size) (w0 := w) hD n hn1 (by omega) (Below.refl _ _) (Nat.le_refl _)
  obtain ⟨N, hN⟩ : ∃ N, N = 64 * n := ⟨_, rfl⟩
  have eN : 64 * (n : Int) = (N : Int) := by omega
  have hNb : (N : Int) ≤ 3840 := by omega
  have hN1 : 64 ≤ N := by omega
  have HN : Hid (N = 64 * n) := hN
  clear hN
  obtain ⟨A, hAe⟩ : ∃ A, A = pickF b L := ⟨_, rfl⟩
  have HA : Hid (A = pickF b L) := hAe
  have hA : ∀ k, A k < 256 := by rw [hAe]; exact pickF_lt b L hb.byt
  clear hAe
  go_enter Tryd.func5, Tryd.ntmps5
  go_wp2_with (first
    | ((refine at_dst 18 rfl ?_)
       (refine wpList_is (some 18) (.int .i64 V) rfl (by rfl) (run_max1 _ rfl (wrap64 ((wrap64 ((L : Int) + 63)).tdiv 64)) rfl V HV.out _) ?_))
    | ((refine at_dst 19 rfl ?_)
       (refine wpList_is (some 19) (.int .i64 (n : Nat)) rfl (by rfl) (run_min60 _ rfl V rfl (n : Int) HVn.out _) ?_))
    | ((go_at_call 6)
       (refine hnew.mono ?_)
       (rintro e w1 ⟨p, c, F, rfl, hI1, hb1, hF1, hc1⟩)
       (clear hnew hb1 hF1 hc1)
       (have hal := alive_j hD hM w1 (hG.below hI1.below hB1))
       (have hpn1 := hpn p)
       (clear hpn))
    | ((go_at_call 8)
       (refine hal.mono ?_)
       (rintro e w2 ⟨rfl, hb2⟩)
       (clear hal)
       (have hI2 := hI1.next hD hb2)
       (obtain ⟨w3, cs, hH3, hb3, hmk, s1, s2, s3, s4, s5⟩ := pick_words b L N C ba w2 (hb.at_.below hI2.below (Nat.le_refl _)) (by omega))
       (have S5 : Hid _ := s5)
       (have S2 : Hid _ := s2)
       (clear s5 s2 hI1 hb2))
    | ((at_make)
       (refine wpList_make6 rfl _ (hmk _ _ _ _ rfl rfl rfl) ?_))
    | ((refine at_dst 36 rfl ?_)
       (refine wpList_copy_splice rfl (.tmp 34) (.tmp 35) 33 33 rfl 5 Tryd.underlying33 (by kernel_rfl) (some ⟨w2.heap.size, 0, none⟩) ba N N L C rfl rfl w2.heap.size 0 (cellsN .u8 N fun _ => 0).toList 5 hH3 cs s1 (fun h0 => ⟨rfl, (S2.out h0).2⟩) s3 s4 w2.heap.size w2 hb3 (Nat.le_refl _) ?_)
       (intro w5 hg5 hb5)
       (have hH5 : Has w5 w2.heap.size 5 (cellsN .u8 N A) := (by
          have hh := hg5.out
          rw [S5.out] at hh
          rw [HA.out]
          exact hh))
       (clear hg5 S5 s1 S2 s3 s4 hmk hH3)
       (have hI5 := hI2.next hD hb5)))
  obtain ⟨g, hg⟩ : ∃ g, g = w2.heap.size := ⟨_, rfl⟩
  rw [← hg] at hH5 ⊢
  have hst : RdL D w p c n N g A 0 w5 := ⟨fresh n, F, hI5, RdS.start n A, ⟨Nat.le_refl _, by unfold maxLen; omega, fun e => (by cases e), hH5.bytes, hA⟩, hH5.lt, fun hk => by have := hI2.lt hD g hk; omega, fun hk => by have := hI2.clt hD; omega⟩
  clear hH5 hI5 hI2 hg hb5 hb3
  go_loopw [7] (fun iv wr => ∃ i : Nat, i ≤ n ∧ iv = .int .i64 (i : Nat) ∧ RdL D w p c n N g A i wr) (fun iv _ => n - (intOf iv).toNat)
  case atStart => exact ⟨0, Nat.zero_le _, rfl, hst⟩
  case round =>
    obtain ⟨i, hil, rfl, s, F, hI, hS, hY, hgl, hgF, hgc⟩ := hrel
    clear hst
    have i2 : (0 : Int) ≤ (i : Int) := by omega
    by_cases hlt : i < n
    · have i0 : (i : Int) < (n : Int) := by omega
      obtain ⟨T, hT⟩ : ∃ T, T = 64 * i := ⟨_, rfl⟩
      have eT : 64 * (i : Int) = (T : Int) := by omega
      have hTN : T + 64 ≤ N := by have := HN.out; omega
      have hTb : (T : Int) ≤ 3840 := by omega
      have hT0 : (0 : Int) ≤ (T : Int) := by omega
      obtain ⟨he, hm, hS'⟩ := hS.write hlt hT hA
      have hwr := in_write hD hI (i : Int) (some ⟨g, T, none⟩) 64 (N - T) (fun j => A (T + j)) ⟨by omega, by omega⟩ (by omega) (by rw [hS.log]; omega) (by omega) (by unfold maxLen; omega) (fun e => by cases e) (by have h5 := hY.at_.part T 64 hTN; rwa [Nat.zero_add] at h5) (fun j => hA _) (.inr trivial)
      rw [he, hm] at hwr
      have HS' : Hid (RdS (wrS s (i : Int) (fun j => A (T + j)) 64 i) n (i + 1) A) := hS'
      generalize wrS s (i : Int) (fun j => A (T + j)) 64 i = s' at hwr HS'
      clear hT he hm hS' hS
      go_wp2_with (first
        | ((refine at_dst 50 rfl ?_)
           (refine wpList_is (some 50) (.slice (some ⟨g, T, none⟩) 64 (N - T)) rfl (by rfl) (run_slice_0 _ _ _ rfl g N N T 64 rfl rfl rfl (by omega) (by omega) _) ?_))
        | ((go_at_call 18)
           (refine hwr.mono ?_)
           (rintro e w6 ⟨rfl, ho6, F6, hg6, hI6⟩)
           (clear hwr)))
      go_roundw
      case rel =>
        refine ⟨i + 1, by omega, by go_num, s', F6, hI6, HS'.out, hY.only ho6 ?_, Nat.lt_of_lt_of_le hgl ho6.size, ?_, hgc⟩
        · intro b o e hk
          cases e
          exact hk.elim hgF hgc
        · intro hk
          rcases hg6 g hk with h1 | h1
          · exact hgF h1
          · omega
      case measure => simp [intOf]; omega
    · have i0 : ¬ (i : Int) < (n : Int) := by omega
      obtain rfl : i = n := by omega
      obtain ⟨rs, hrs⟩ : ∃ rs, rs = told dgS A N := ⟨_, rfl⟩
      obtain ⟨q, hq⟩ : ∃ q, q = rs.length := ⟨_, rfl⟩
      obtain ⟨E, hE⟩ : ∃ E, E = endOf 0 rs := ⟨_, rfl⟩
      obtain ⟨hl1, hl2, hl3, hl4⟩ := told_laid dgS A N
      rw [← hrs] at hl1 hl2 hl3
      have hEN : E ≤ N := by rw [hE, hl2]; exact hl4
      have hsb : ∀ r ∈ rs, ∀ k, r.f k < 256 := by rw [hrs]; exact told_bytR hA N
      obtain ⟨R, hR⟩ : ∃ R, R = N - E := ⟨_, rfl⟩
      have eR : (N : Int) - (E : Int) = (R : Int) := by omega
      have hEb : (E : Int) ≤ 3840 := by omega
      have hE0 : (0 : Int) ≤ (E : Int) := by omega
      have hss : rsame (told dgS (byOf (holds s)) (64 * s.n)) rs := by
        rw [hS.n, ← HN.out, hrs]
        refine told_congr dgS_congr (fun k hk => ?_)
        have hkn := HN.out
        show holds s (k / 64) (k % 64) = A k
        rw [hS.hold (k / 64) (by omega) (k % 64) (by omega)]
        congr 1
        omega
      have hab : Able s := ⟨hS.dead, fun k _ => hS.bad k, hS.byt, by rw [hS.n]; exact hn1, by rw [hS.n]; omega⟩
      have hlog := hS.log
      have hsn := hS.n
      have hrd := read_told hY (by omega) hrs hq hE
      have hFl : ∀ k, (F k ∨ k = c) → k < wr.heap.size := fun k hk => hk.elim (hI.lt hD k) (fun e => by rw [e]; exact hI.clt hD)
      have HQ : Hid (q = rs.length) := hq
      have HE : Hid (E = endOf 0 rs) := hE
      have HR : Hid (R = N - E) := hR
      clear hrs hq hE hR hl1 hl2 hl4 hS
      go_wp2_with (first
        | ((go_at_call 19)
           (refine Calls.mono hrd ?_)
           (rintro e w7 ⟨hb7, a7, c7, rfl, hr7⟩)
           (clear hrd)
           (have hI7 := hI.next hD hb7)
           (have hop := j_openF hD hM hG hB1 hI7 hab (by omega) (by omega) hss hsb)
           (clear hI))
        | ((go_at_call 11)
           (refine Calls.mono hop ?_)
           (rintro e w8 ⟨j, s8, m8, F8, G8, rfl, hJ8, hf8, hn8, hk8, hl8, hm8, hto8, hOn8, hg8, hG8⟩)
           (have hrl8 := hr7.only hOn8 hFl)
           (clear hop hto8 hg8 hG8 hOn8 hr7)
           (have hrec : Calls Tryd.prog 16 #[ptr j] w8 (fun e w' => Below w8.heap.size w8 w' ∧ ∃ a cp, e = .returned (.slice a q cp) ∧ Rl w' a rs) := (by rw [HQ.out]; exact j_records hD hJ8 hf8.n2))
           (have hjn8 := hjn j))
        | ((go_at_call 16)
           (refine Calls.mono hrec ?_)
           (rintro e w9 ⟨hb9, a9, c9, rfl, hr9⟩)
           (clear hrec)
           (have hJ9 := hJ8.next hD hb9)
           (have hrl9 := hrl8.below hb9 (Nat.le_refl _))
           (have hsm := samer_any (c1 := c9) (c2 := c7) hr9 hrl9 HQ.out HQ.out)
           (rw [likes_ofR (rsame_refl rs) hsb hsb] at hsm))
        | ((go_at_call 20)
           (refine hsm.mono ?_)
           (rintro e w10 ⟨rfl, hb10⟩)
           (clear hsm)
           (have hJ10 := hJ9.next hD hb10)
           (have hrl10 := hrl9.below hb10 (Nat.le_refl _))
           (have hst := stands_any (cap := c7) hD hM hJ10.dev.dev hf8.sound (by omega) (by omega) hrl10 HQ.out)
           (rw [stands_yes hf8 hk8 hsb] at hst))
        | ((go_at_call 21)
           (refine hst.mono ?_)
           (rintro e w11 ⟨rfl, hb11⟩)
           (clear hst)
           (have hJ11 := hJ10.next hD hb11)
           (have hrl11 := hrl10.below hb11 (Nat.le_refl _))
           (have hfd := j_flushed hD hJ11 hf8.n2)
           (rw [← HQ.out] at hfd))
        | ((go_at_call 17)
           (refine hfd.mono ?_)
           (rintro e w12 ⟨rfl, hb12⟩)
           (clear hfd)
           (have hJ12 := hJ11.next hD hb12)
           (have hrl12 := hrl11.below hb12 (Nat.le_refl _))
           (have hfr := j_free hD hJ12 hf8.n2)
           (rw [hn8, hsn, ← HN.out, ← HE.out, ← HR.out] at hfr))
        | ((go_at_call 13)
           (refine hfr.mono ?_)
           (rintro e w13 ⟨rfl, hb13⟩)
           (clear hfr)
           (have hJ13 := hJ12.next hD hb13)
           (have hsz := size_any (c := c7) (hrl12.below hb13 (Nat.le_refl _)) HQ.out hl3 (by rw [← HE.out]; omega))
           (rw [← HE.out] at hsz))
        | ((go_at_call 22)
           (refine hsz.mono ?_)
           (rintro e w14 ⟨rfl, hb14⟩)
           (clear hsz)
           (have hJ14 := hJ13.next hD hb14)))
      go_ret
      exact ⟨rfl, hJ14.dev.below⟩
end Go.Proofs.YtfgoongfmidpgabDoor
