/- Texts that the statements of this stage share, joined. -/
import Derived.Test.YthndifegfmjpbaaGreatDoorJoint16
import Derived.Test.YthndifegfmjpbaaGreatDoorJoint17
import Derived.Test.YthndifegfmjpbaaGreatDoorJoint04
import Derived.Test.YthndifegfmjpbaaGreatDoorJoint07
import Derived.MapKept
import Derived.Laws.IdiomRangeMap
namespace Go.Proofs.YthndifegfmjpbaaGreatDoor
set_option linter.unusedVariables false
set_option maxRecDepth 100000
set_option maxHeartbeats 40000000
section
open Go.ChangeShapes Go.WideShapes Go.ChangeAt Go.RowKit
def RParse (w : World) (R : Except (Nat × Nat) Nd) (e : Ending) (w' : World) : Prop := Below w.heap.size w w' ∧ match R with
 | .error _ => ∃ c k : Int, c ≠ 0 ∧ e = .returned (.tuple #[.agg #[.string ⟨#[]⟩, .string ⟨#[]⟩, .int .i64 0, .int .i64 0, .slice none 0 0], .int .i64 c, .int .i64 k])
 | .ok n => ∃ A C, e = .returned (.tuple #[.agg (ndc n (.slice A n.l.length C)), .int .i64 0, .int .i64 (-1)]) ∧ NdR w' (fun g => w.heap.size ≤ g) n.l (.slice A n.l.length C)
theorem scanR_code (f : Nat) : ∀ (x : List UInt8) (a k : Nat) (e o : Nat), scanR f x a k = .error (e, o) → e ≠ 0 := by
 induction f with
 | zero => intro x a k e o h; cases h
 | succ f ih =>
   intro x a k e o h
   rw [scanR] at h
   split at h
   · cases h
   · split at h
     · cases h; decide
     · split at h
       · rename_i e' o' ho
         cases h
         rcases one_err ho with rfl | ⟨rfl, _⟩ <;> decide
       · rename_i t n ho
         cases hs : scanR f (x.drop (skp false x + n)) (a + skp false x + n) (k + 1) with
         | error r =>
           obtain ⟨e', o'⟩ := r
           rw [hs] at h
           cases h
           exact ih _ _ _ _ _ hs
         | ok ts => rw [hs] at h; cases h
theorem ScanRef_code {l : List UInt8} {e o : Nat} (h : ScanRef l = .error (e, o)) : e ≠ 0 := by
 unfold ScanRef at h
 split at h
 · cases h; decide
 · exact scanR_code _ _ _ _ _ _ h
theorem stmt_less {en : Nat} {ts r : Toks} {n : Nd} (h : pstmt en ts = .ok (n, r)) : r.length < ts.length := by
 have h' : pbind (ptake (isWd stmts)) (fun t => pbind (ptake isNm) fun u => pbind (prest t.1.s) fun r => pbind (ptake (isSg [59])) fun _ => pret (.mk t.1.s u.1.s r.1 t.2 r.2)) en ts = .ok (n, r) := h
 cases ts with
 | nil => cases h'
 | cons t ts =>
   simp only [pbind, ptake] at h'
   by_cases hw : isWd stmts t.1 = true
   · rw [if_pos hw] at h'
     have hst : Stable (pbind (ptake isNm) fun u => pbind (prest t.1.s) fun r => pbind (ptake (isSg [59])) fun _ => pret (Nd.mk t.1.s u.1.s r.1 (t.2 : Nat) r.2)) := (Stable.take _).bind fun _ => (rest_stable _).bind fun _ => (Stable.take _).bind fun _ => Stable.ret _
     have := shorter hst (en := en) (ts := ts) (r := r) (n := n) (by simpa only [pbind, ptake] using h')
     simp only [List.length_cons]
     omega
   · rw [if_neg hw] at h'
     cases h'
structure PSt (w W0 : World) (rb : Nat) (A : Option Addr) (C : Nat) (ts : Toks) (en : Nat) (wr : World) (i : Nat) (b : Int) (l : List Nd) (v : Value) : Prop where
 st : Rst W0 rb A C ts 0 en wr i b
 hp : Has wr w.heap.size 24 #[.string ⟨#[]⟩, .string ⟨#[]⟩, .int .i64 0, .int .i64 0, .slice none 0 0]
 hq : Has wr (rb + 1) 24 #[.string ⟨#[102, 105, 108, 101]⟩, .string ⟨#[]⟩, .int .i64 0, .int .i64 0, v]
 row : NRow wr (rb + 2) l v
 bel : Below w.heap.size w W0
 lt : w.heap.size < rb
 hw : W0.heap.size = rb + 1
theorem PSt.rst {w W0 : World} {rb : Nat} {A : Option Addr} {C : Nat} {ts : Toks} {en : Nat} {wr : World} {i : Nat} {b : Int} {l : List Nd} {v : Value} (h : PSt w W0 rb A C ts en wr i b l v) {w' : World} {i2 : Nat} {b2 : Int} (s : Rst wr rb A C ts i en w' i2 b2) : PSt w W0 rb A C ts en w' i2 b2 l v := by
 have hk := s.2.2.1
 have hlt := h.lt
 exact ⟨h.st.trans s, h.hp.kp hk (by omega), h.hq.kp hk (by omega), h.row.kp hk (by omega), h.bel, hlt, h.hw⟩
theorem PSt.alloc {w W0 : World} {rb : Nat} {A : Option Addr} {C : Nat} {ts : Toks} {en : Nat} {wr : World} {i : Nat} {b : Int} {l : List Nd} {v : Value} (h : PSt w W0 rb A C ts en wr i b l v) (o : Obj) : PSt w W0 rb A C ts en (wr.alloc o) i b l v := ⟨h.st.alloc o, h.hp.alloc o, h.hq.alloc o, h.row.kp (Kp.of (p := rb) (b_one wr o)) (by omega), h.bel, h.lt, h.hw⟩
theorem PSt.drewN {w W0 : World} {rb : Nat} {A : Option Addr} {C : Nat} {ts : Toks} {en : Nat} {wr : World} {i : Nat} {b : Int} {l : List Nd} {v : Value} (h : PSt w W0 rb A C ts en wr i b l v) (n : Nat) : PSt w W0 rb A C ts en (wr.drewN n) i b l v := ⟨h.st.drewN n, h.hp.drewN n, h.hq.drewN n, h.row.kp ((Kp.refl rb wr).drewN n) (by omega), h.bel, h.lt, h.hw⟩
theorem PSt.put {w W0 : World} {rb : Nat} {A : Option Addr} {C : Nat} {ts : Toks} {en : Nat} {wr : World} {i : Nat} {b : Int} {l : List Nd} {v : Value} (h : PSt w W0 rb A C ts en wr i b l v) {w6 : World} {l' : List Nd} {v6 : Value} (hr : NRow w6 (rb + 2) l' v6) (hb : Below (rb + 2) wr w6) : PSt w W0 rb A C ts en (w6.setCell ⟨rb + 1, 4, none⟩ v6) i b l' v6 := by
 have hlt := h.lt
 have hw := h.hw
 refine ⟨(h.st.below hb (by omega) (by omega)).new (q := ⟨rb + 1, 4, none⟩) (by show _ ≤ rb + 1; omega) (by omega) _, (h.hp.below hb (by omega)).other (by show w.heap.size ≠ rb + 1; omega) _, ?_, hr.kp ((Kp.refl (rb + 1) w6).setP 4 v6) (by omega), h.bel, hlt, hw⟩
 exact (h.hq.below hb (by omega)).putP 4 v6
theorem PSt.all {w W0 : World} {rb : Nat} {A : Option Addr} {C : Nat} {ts : Toks} {en : Nat} {wr : World} {i : Nat} {b : Int} {l : List Nd} {v : Value} (h : PSt w W0 rb A C ts en wr i b l v) : Below w.heap.size w wr := h.bel.trans ((h.st.2.2.1.below (by have := h.hw; omega)).mono (by have := h.lt; omega))
def rfar (rb : Nat) (w : World) : Nat := match w.cell? ⟨rb, 3, none⟩ with
 | some (.int _ b) => if b = 0 then 502 - rpos rb w else 0
 | _ => 0
theorem PSt.far {w W0 : World} {rb : Nat} {A : Option Addr} {C : Nat} {ts : Toks} {en : Nat} {wr : World} {i : Nat} {b : Int} {l : List Nd} {v : Value} (h : PSt w W0 rb A C ts en wr i b l v) : rfar rb wr = if b = 0 then 502 - i else 0 := by
 obtain ⟨k', hH⟩ := h.st.2.2.2
 have h1 := hH.cell 1
 have h3 := hH.cell 3
 simp only [ga1, gz1, gs1] at h1 h3
 unfold rfar rpos
 rw [h3, h1]
 simp
theorem rparse_err {w W : World} {a : Act} {R : Except (Nat × Nat) Nd} {er : Nat × Nat} {c k : Int} (hR : R = .error er) (hc : c ≠ 0) (hp : Has W w.heap.size 24 #[.string ⟨#[]⟩, .string ⟨#[]⟩, .int .i64 0, .int .i64 0, .slice none 0 0]) (hb : Below w.heap.size w W) (h2 : a.tmps[2]?.getD undef = .pointer (some ⟨w.heap.size, 0, none⟩)) (h3 : a.tmps[3]?.getD undef = .int .i64 c) (h4 : a.tmps[4]?.getD undef = .int .i64 k) (hd : a.defers = []) : bodyPost Tryz.prog Tryz.f9 (RParse w R) .ret a (put5 W w.heap.size (.string ⟨#[]⟩) (.string ⟨#[]⟩) (.int .i64 0) (.int .i64 0) (.slice none 0 0)) := by
 refine ret_three rfl h2 h3 h4 (hp.set5 _ _ _ _ _) hd ?_
 rw [hR]
 exact ⟨bel5 hb _ _ _ _ _, c, k, hc, rfl⟩
theorem rparse_errd {w W : World} {a : Act} {R : Except (Nat × Nat) Nd} {er : Nat × Nat} {c k : Int} (hR : R = .error er) (hc : c ≠ 0) (hp : Has W w.heap.size 24 #[.string ⟨#[]⟩, .string ⟨#[]⟩, .int .i64 0, .int .i64 0, .slice none 0 0]) (hb : Below w.heap.size w W) (h2 : a.tmps[2]?.getD undef = .pointer (some ⟨w.heap.size, 0, none⟩)) (h3 : a.tmps[3]?.getD undef = .int .i64 c) (h4 : a.tmps[4]?.getD undef = .int .i64 k) (hd : a.defers = []) : bodyPost Tryz.prog Tryz.f9 (RParse w R) .ret a (put5 W w.heap.size (.string ⟨#[]⟩) (.string ⟨#[]⟩) (.int .i64 0) (.int .i64 0) (.slice none 0 0)).drew := by
 refine ret_three rfl h2 h3 h4 (has_drew (hp.set5 _ _ _ _ _)) hd ?_
 rw [hR]
 exact ⟨below_drew (bel5 hb _ _ _ _ _), c, k, hc, rfl⟩
theorem rd_start {w1 : World} {base en : Nat} {A : Option Addr} {C : Nat} {ts : Toks} (h : TokRow w1 base (.slice A ts.length C) ts) (hl : ts.length ≤ 500) (he : en ≤ 2000) : RdrAt (w1.alloc (.cells #[.slice A ts.length C, .int .i64 0, .int .i64 (en : Nat), .int .i64 0, .int .i64 0] 61)) w1.heap.size A C ts 0 en 0 0 := by
 have hb := b_one w1 (.cells #[.slice A ts.length C, .int .i64 0, .int .i64 (en : Nat), .int .i64 0, .int .i64 0] 61)
 refine ⟨Has.new _ _ _, fun j hj => ?_, Nat.zero_le _, hl, he⟩
 obtain ⟨g, C', e, h1, h2, h3, h4, _, hc⟩ := h.lies (by intro e; rw [e] at hj; simp at hj)
 cases e
 refine ⟨g, 0, rfl, Nat.lt_of_lt_of_le h2 hb.size, by omega, fun i hi j hj => ?_⟩
 rw [Nat.zero_add]
 exact (hb.cell (p := ⟨g, i * 4 + j, none⟩) h2).trans (hc i hi j hj)
theorem rparse_c (x : List UInt8) (w : World) (hm : x.length ≤ maxLen) : Calls Tryz.prog 9 #[.string (bs x)] w (RParse w (Parse x)) := by
 have hN := Has.new w 24 #[.string ⟨#[]⟩, .string ⟨#[]⟩, .int .i64 0, .int .i64 0, .slice none 0 0]
 have hsc : Calls Tryz.prog 21 #[.string (bs x)] (w.alloc (.cells #[.string ⟨#[]⟩, .string ⟨#[]⟩, .int .i64 0, .int .i64 0, .slice none 0 0] 24)) (ScanR (w.alloc (.cells #[.string ⟨#[]⟩, .string ⟨#[]⟩, .int .i64 0, .int .i64 0, .slice none 0 0] 24)) (ScanRef x)) := by
  by_cases hl : 2000 < x.length
  · exact rscan_long _ x hl hm
  · exact rscan_c _ x hl
 have hsz := bs_size x
 cases hS : ScanRef x with
 | error r =>
   obtain ⟨er, o⟩ := r
   have he := ScanRef_code hS
   have hPx : ∃ er, Parse x = .error er := by
    cases hs : Scan x with
    | error e => exact ⟨e, by unfold Parse; rw [hs]⟩
    | ok ts => rw [(ScanRef_ok x ts).2 hs] at hS; cases hS
   obtain ⟨e0, hP⟩ := hPx
   rw [hS] at hsc
   have hc0 : ((er : Nat) : Int) ≠ 0 := by omega
   have hd1 : ((er : Int) == 0) = false := by rw [beq_eq_false_iff_ne]; omega
   have hd2 : ((er : Int) != 0) = true := by rw [bne, hd1]; rfl
   have hd3 : decide ((er : Int) = 0) = false := decide_eq_false hc0
   have hd4 : decide (er = 0) = false := decide_eq_false he
   clear hS hsz
   go_enter Tryz.func9, Tryz.ntmps9
   go_wp2_with (first
    | ((go_at_call 21)
       (refine hsc.mono ?_)
       (rintro e w1 ⟨hb1, rfl⟩)
       (have hN1 := hN.below hb1 hN.lt)
       (have n1 := hN1.lt)
       (have a0 := hN1.cell 0)
       (have a1 := hN1.cell 1)
       (have a2 := hN1.cell 2)
       (have a3 := hN1.cell 3)
       (have a4 := hN1.cell 4)
       (have b0 := hN1.free 0)
       (have b1 := hN1.free 1)
       (have b2 := hN1.free 2)
       (have b3 := hN1.free 3)
       (have b4 := hN1.free 4)))
   exact rparse_err hP hc0 hN1 ((b_one w _).trans (hb1.mono (by simp))) rfl rfl rfl rfl
 | ok ts =>
   have hs : Scan x = .ok ts := (ScanRef_ok x ts).1 hS
   obtain ⟨hl5, hG⟩ := Scan_len hs
   have hx2 : x.length ≤ 2000 := by
    unfold ScanRef at hS
    split at hS
    · cases hS
    · omega
   have hPx : Parse x = match pfile 501 x.length ts with | .error e => .error e | .ok (l, _) => .ok (.mk wFile [] 0 0 l) := by simp only [Parse, hs]; rfl
   rw [hS] at hsc
   generalize hen : x.length = en at *
   clear hS hs hm hen
   generalize Parse x = PX at hPx ⊢
   have FIN : Hid (PX = match pfile 501 en ts with | .error e => .error e | .ok (l, _) => .ok (.mk wFile [] 0 0 l)) := hPx
   clear hPx
   go_enter Tryz.func9, Tryz.ntmps9
   go_wp2_with (first
    | ((go_at_call 21)
       (refine hsc.mono ?_)
       (rintro e w1 ⟨hb1, v1, rfl, htr⟩)
       (obtain ⟨A, C, rfl⟩ : ∃ A C, v1 = .slice A ts.length C := by
         rcases htr.2 with ⟨rfl, h0⟩ | ⟨g, cap, cur, rfl, _⟩
         · exact ⟨none, 0, by rw [h0]⟩
         · exact ⟨_, _, rfl⟩)
       (have hN1 := hN.below hb1 hN.lt)
       (have n1 := hN1.lt)
       (have hR := rd_start (en := en) htr hl5 hx2)))
   have S1 : PSt w (w1.alloc (.cells #[.slice A ts.length C, .int .i64 0, .int .i64 (en : Nat), .int .i64 0, .int .i64 0] 61)) w1.heap.size A C ts en ((w1.alloc (.cells #[.slice A ts.length C, .int .i64 0, .int .i64 (en : Nat), .int .i64 0, .int .i64 0] 61)).alloc (.cells #[.string ⟨#[102, 105, 108, 101]⟩, .string ⟨#[]⟩, .int .i64 0, .int .i64 0, .slice none 0 0] 24)) 0 0 [] (.slice none 0 0) :=
    ⟨(Rst.refl hR).alloc _, (hN1.alloc _).alloc _, Has.new_at (by simp), NRow.nil _ _, ((b_one w _).trans (hb1.mono (by simp))).alloc (by omega) _, n1, by simp⟩
   have HRR : Hid (∃ k, RdrAt (w1.alloc (.cells #[.slice A ts.length C, .int .i64 0, .int .i64 (en : Nat), .int .i64 0, .int .i64 0] 61)) w1.heap.size A C ts 0 en 0 k) := ⟨0, hR⟩
   generalize w1.alloc (.cells #[.slice A ts.length C, .int .i64 0, .int .i64 (en : Nat), .int .i64 0, .int .i64 0] 61) = W0 at S1 HRR ⊢
   generalize w1.heap.size = rb at S1 HRR n1 ⊢
   clear hR hb1 hN1 htr hsc
   have hlt := S1.lt
   have hw0 := S1.hw
   go_loopw [10] (fun _ wr => ∃ (i : Nat) (b : Int) (l : List Nd) (A' : Option Addr) (L C' : Nat), PSt w W0 rb A C ts en wr i b l (.slice A' L C') ∧ Hid (FileK en ts l i b) ∧ l.length ≤ 500 + 1 ∧ (b = 0 → l.length ≤ i) ∧ l.length = L) (fun _ wz => rfar rb wz)
   case atStart => exact ⟨0, 0, [], none, 0, 0, S1, FileK.start _ _, by simp, fun _ => Nat.le_refl _, rfl⟩
   case round =>
    obtain ⟨i, b, l, A', L, C', S2, HK, hl1, hl2, rfl⟩ := hrel
    obtain ⟨k0, hR0⟩ := HRR.out
    obtain ⟨k2, h2⟩ := Rst.at hR0 S2.st
    have c1 := h2.has.cell 1
    have c3 := h2.has.cell 3
    have c4 := h2.has.cell 4
    simp only [ga1, gz1, gs1] at c1 c3 c4
    have lr := h2.has.lt
    have le := h2.le
    have lq := S2.hq.lt
    have lp := S2.hp.lt
    have a0 := S2.hp.cell 0
    have a1 := S2.hp.cell 1
    have a2 := S2.hp.cell 2
    have a3 := S2.hp.cell 3
    have a4 := S2.hp.cell 4
    have b0 := S2.hp.free 0
    have b1 := S2.hp.free 1
    have b2 := S2.hp.free 2
    have b3 := S2.hp.free 3
    have b4 := S2.hp.free 4
    have d0 := S2.hq.cell 0
    have d1 := S2.hq.cell 1
    have d2 := S2.hq.cell 2
    have d3 := S2.hq.cell 3
    have d4 := S2.hq.cell 4
    by_cases hb : b = 0
    · subst hb
      have hl3 := hl2 rfl
      by_cases hi : i < ts.length
      · have hst := rstmt_c h2 hG
        have hfar := S2.far
        have HFA : Hid (rfar rb wr = 502 - i) := by rw [hfar]; rfl
        have hii : (i : Int) < (ts.length : Int) := by omega
        clear hfar
        go_wp2_with (first
         | ((go_at_call 22)
            (refine hst.mono ?_)
            (rintro e w5 ⟨i5, b5, x5, A5, C5, rfl, N5, s5, T5, l5⟩)
            (have S5 := S2.rst s5)
            (have S5a := (S5.alloc (.cells #[.string (bs x5.op), .string (bs x5.s), .int .i64 x5.n, .int .i64 x5.a, .slice A5 x5.l.length C5] 24)).alloc (.cells #[.string (bs x5.op), .string (bs x5.s), .int .i64 x5.n, .int .i64 x5.a, .slice A5 x5.l.length C5] 24))
            (have z5 := s5.2.2.1.size)
            (have N5a := (S2.row.apart N5 (by omega)).grow (((Below.refl _ w5).alloc (Nat.le_refl _) (.cells #[.string (bs x5.op), .string (bs x5.s), .int .i64 x5.n, .int .i64 x5.a, .slice A5 x5.l.length C5] 24)).alloc (by simp) (.cells #[.string (bs x5.op), .string (bs x5.s), .int .i64 x5.n, .int .i64 x5.a, .slice A5 x5.l.length C5] 24)))
            (have q5 := S5.hq.cell 4)
            (have r5 := S5.hq.lt)
            (have f5 := S5.hq.free 4)
            (simp only [ndc]))
         | ((refine at_dstL 48 rfl ?_)
            (refine wpList_append_nodes rfl _ _ rfl (rb + 2) l _ rfl S5a.row (by simp; omega) (by omega) [x5] [.slice A5 x5.l.length C5] (by simp) (by simp) rfl (one1 _ _ _) (nd1 N5a) (w5.heap.size + 1) rfl (Has.new_at (by simp)) (l.length + 1) rfl ?_)
            (intro A6 C6 w6 R6 B6)
            (have S6 := S5a.put R6 B6)
            (have u6 := (S5a.hq.below B6 (by omega)).cell 4)
            (have v6 := (S5a.hq.below B6 (by omega)).free 4)
            (have y6 := (S5a.hq.below B6 (by omega)).lt)))
        go_roundw
        case rel =>
         have hle : b5 = 0 → i + 1 ≤ i5 := by
          intro e
          have := stmt_less (T5.was e).2
          simp only [List.length_drop] at this
          omega
         refine ⟨i5, b5, l ++ [x5], A6, l.length + 1, C6, S6, HK.out.next hi T5 hle, ?_, ?_, by simp⟩
         · simp; omega
         · intro e; have := hle e; simp; omega
        case measure =>
         rw [S6.far, HFA.out]
         split
         · rename_i e
           have := stmt_less (T5.was e).2
           simp only [List.length_drop] at this
           omega
         · omega
      · have hii : ¬ (i : Int) < (ts.length : Int) := by omega
        have HT : Hid (pfile 501 en ts = .ok (l, ts.drop i)) := by
         rcases HK.out.stop (.inr hi) with h | h
         · exact (h.was rfl).2
         · omega
        clear HK
        go_wp2
        refine ret_three rfl rfl rfl rfl (S2.hp.set5 _ _ _ _ _) rfl ?_
        have eP : PX = .ok (.mk wFile [] 0 0 l) := by rw [FIN.out, HT.out]
        rw [eP]
        refine ⟨bel5 S2.all _ _ _ _ _, A', C', rfl, ?_⟩
        exact (S2.row.done.mono fun g hg => (by omega : w.heap.size ≤ g ∧ g ≠ w.heap.size)).set5 (fun g hg => hg.2) _ _ _ _ _ |>.mono fun g hg => hg.1
    · have hd1 : (b == 0) = false := by simpa using hb
      have hd2 : (b != 0) = true := by rw [bne, hd1]; rfl
      have hd3 : decide (b = 0) = false := decide_eq_false hb
      have HT : Hid (∃ e, pfile 501 en ts = .error e) := by
       rcases HK.out.stop (.inl hb) with h | h
       · unfold Tell at h
         rw [if_pos rfl] at h
         cases hp : pfile 501 en ts with
         | error e => exact ⟨e, rfl⟩
         | ok r => rw [hp] at h; exact absurd h.2.2 hb
       · omega
      obtain ⟨er, hE⟩ := HT.out
      have eP : PX = .error er := by rw [FIN.out, hE]
      have HP : Hid (PX = .error er) := eP
      clear HK HT hE eP FIN
      by_cases hi : i < ts.length
      · have hii : (i : Int) < (ts.length : Int) := by omega
        go_wp2
        go_region
        go_wp2
        exact rparse_errd HP.out hb S2.hp S2.all rfl rfl rfl rfl
      · have hii : ¬ (i : Int) < (ts.length : Int) := by omega
        go_wp2
        go_region
        go_wp2
        exact rparse_errd HP.out hb S2.hp S2.all rfl rfl rfl rfl
end
section
open Go.ChangeShapes Go.WideShapes Go.ChangeAt Go.RowKit Go.MapKept
variable {E : Nat → Prop}
structure Onl (F : Nat → Prop) (w w' : World) : Prop where
 os : w'.os = w.os
 tape : w'.tape = w.tape
 output : w'.output = w.output
 size : w.heap.size ≤ w'.heap.size
 block : ∀ k, k < w.heap.size → ¬ F k → w'.heap[k]? = w.heap[k]?
theorem Onl.refl (F : Nat → Prop) (w : World) : Onl F w w := ⟨rfl, rfl, rfl, Nat.le_refl _, fun _ _ _ => rfl⟩
theorem Onl.of {F : Nat → Prop} {w w' : World} (h : Below w.heap.size w w') : Onl F w w' := ⟨h.os, h.tape, h.output, h.size, fun k hk _ => h.block k hk⟩
theorem Onl.trans {F : Nat → Prop} {a b c : World} (h : Onl F a b) (k : Onl F b c) : Onl F a c := ⟨k.os.trans h.os, k.tape.trans h.tape, k.output.trans h.output, Nat.le_trans h.size k.size, fun i hi hn => (k.block i (Nat.lt_of_lt_of_le hi h.size) hn).trans (h.block i hi hn)⟩
theorem Onl.mono {F G : Nat → Prop} {w w' : World} (h : Onl F w w') (hg : ∀ k, k < w.heap.size → F k → G k) : Onl G w w' := ⟨h.os, h.tape, h.output, h.size, fun k hk hn => h.block k hk fun hf => hn (hg k hk hf)⟩
theorem Onl.below {F : Nat → Prop} {w w' : World} {B : Nat} (h : Onl F w w') (hB : B ≤ w.heap.size) (hF : ∀ k, F k → B ≤ k) : Below B w w' := ⟨h.os, h.tape, h.output, h.size, fun k hk => h.block k (by omega) fun hf => by have := hF k hf; omega⟩
theorem Onl.drewN {F : Nat → Prop} {w w' : World} (h : Onl F w w') (n : Nat) : Onl F w (w'.drewN n) := ⟨h.os, h.tape, h.output, h.size, h.block⟩
theorem Onl.drew {F : Nat → Prop} {w w' : World} (h : Onl F w w') : Onl F w w'.drew := ⟨h.os, h.tape, h.output, h.size, h.block⟩
theorem Onl.alloc {F : Nat → Prop} {w w' : World} (h : Onl F w w') (o : Obj) : Onl F w (w'.alloc o) := h.trans (.of (b_one w' o))
theorem Onl.set {F : Nat → Prop} {w w' : World} (h : Onl F w w') {q : Addr} (hq : F q.block ∨ w.heap.size ≤ q.block) (v : Value) : Onl F w (w'.setCell q v) :=
 ⟨h.os, h.tape, h.output, by simpa using h.size, fun k hk hn => (Below.heap_setCell w' q v k (by rintro rfl; rcases hq with hq | hq; exact hn hq; omega)).trans (h.block k hk hn)⟩
theorem Onl.left {F : Nat → Prop} {w w' : World} {o : Obj} (h : Onl F (w.alloc o) w') : Onl F w w' := (Onl.of (b_one w o)).trans h
theorem Has.onl {F : Nat → Prop} {w w' : World} {g t : Nat} {cs : Array Value} (h : Has w g t cs) (hk : Onl F w w') (hn : ¬ F g) : Has w' g t cs := (hk.block _ h.lt hn).trans h
structure CV where
 vd : Value
 vp : Value
 vb : Value
 mb : Nat
def CV.own (V : CV) (cb : Nat) (k : Nat) : Prop := k = cb ∨ V.vd.ownBlock = some k ∨ V.vp.ownBlock = some k ∨ V.vb.ownBlock = some k ∨ k = V.mb
structure Stp (cb : Nat) (V : CV) (w : World) (V' : CV) (w' : World) : Prop where
 only : Onl (V.own cb) w w'
 new : ∀ k, V'.own cb k → V.own cb k ∨ w.heap.size ≤ k
theorem Stp.refl (cb : Nat) (V : CV) (w : World) : Stp cb V w V w := ⟨.refl _ _, fun _ h => .inl h⟩
theorem Stp.trans {cb : Nat} {V V1 V2 : CV} {w w1 w2 : World} (h : Stp cb V w V1 w1) (k : Stp cb V1 w1 V2 w2) : Stp cb V w V2 w2 := by
 refine ⟨⟨k.only.os.trans h.only.os, k.only.tape.trans h.only.tape, k.only.output.trans h.only.output, Nat.le_trans h.only.size k.only.size, fun i hi hn => ?_⟩, fun i hi => ?_⟩
 · refine (k.only.block i (Nat.lt_of_lt_of_le hi h.only.size) (fun e => ?_)).trans (h.only.block i hi hn)
   rcases h.new i e with e' | e'
   · exact hn e'
   · omega
 · rcases k.new i hi with e | e
   · exact h.new i e
   · exact .inr (Nat.le_trans h.only.size e)
def IntsP (w : World) (P : Nat → Prop) (A : Option Addr) (l : List Nat) : Prop := l = [] ∨ ∃ b off, A = some ⟨b, off, none⟩ ∧ b < w.heap.size ∧ P b ∧ ∀ j (h : j < l.length), w.cell? ⟨b, off + j, none⟩ = some (.int .i64 (l[j] : Nat))
def BytsP (w : World) (P : Nat → Prop) (A : Option Addr) (l : List UInt8) : Prop := l = [] ∨ ∃ b off, A = some ⟨b, off, none⟩ ∧ b < w.heap.size ∧ P b ∧ ∀ j (h : j < l.length), w.cell? ⟨b, off + j, none⟩ = some (.int .u8 (l[j].toNat : Nat))
theorem IntsP.keep {w w' : World} {P Q : Nat → Prop} {A : Option Addr} {l : List Nat} (h : IntsP w P A l) (hs : w.heap.size ≤ w'.heap.size) (hk : ∀ k, k < w.heap.size → P k → w'.heap[k]? = w.heap[k]? ∧ Q k) : IntsP w' Q A l := by
 rcases h with h | ⟨b, off, e, hb, hp, hc⟩
 · exact .inl h
 · obtain ⟨h1, h2⟩ := hk b hb hp
   exact .inr ⟨b, off, e, Nat.lt_of_lt_of_le hb hs, h2, fun j hj => (World.cell?_of_block h1).trans (hc j hj)⟩
theorem BytsP.keep {w w' : World} {P Q : Nat → Prop} {A : Option Addr} {l : List UInt8} (h : BytsP w P A l) (hs : w.heap.size ≤ w'.heap.size) (hk : ∀ k, k < w.heap.size → P k → w'.heap[k]? = w.heap[k]? ∧ Q k) : BytsP w' Q A l := by
 rcases h with h | ⟨b, off, e, hb, hp, hc⟩
 · exact .inl h
 · obtain ⟨h1, h2⟩ := hk b hb hp
   exact .inr ⟨b, off, e, Nat.lt_of_lt_of_le hb hs, h2, fun j hj => (World.cell?_of_block h1).trans (hc j hj)⟩
def ptc (p : Pt) (u : Value × Value × Value) : Array Value := #[.int .i64 (p.kind : Nat), .int .i64 (p.size : Nat), u.1, .int .i64 (p.dev : Nat), .int .i64 (p.first : Nat), .int .i64 (p.chunk : Nat), u.2.1, u.2.2]
def ptl (l : List Pt) (us : List (Value × Value × Value)) : List Value := (l.zip us).flatMap fun x => (ptc x.1 x.2).toList
structure PtIn (w : World) (P : Nat → Prop) (p : Pt) (u : Value × Value × Value) : Prop where
 kids : ∃ A C, u.1 = .slice A p.kids.length C ∧ p.kids.length ≤ C ∧ C ≤ maxLen ∧ IntsP w P A p.kids
 key : ∃ A C, u.2.1 = .slice A p.key.length C ∧ p.key.length ≤ C ∧ C ≤ maxLen ∧ BytsP w P A p.key
 root : ∃ A C, u.2.2 = .slice A p.root.length C ∧ p.root.length ≤ C ∧ C ≤ maxLen ∧ BytsP w P A p.root
theorem PtIn.keep {w w' : World} {P Q : Nat → Prop} {p : Pt} {u : Value × Value × Value} (h : PtIn w P p u) (hs : w.heap.size ≤ w'.heap.size) (hk : ∀ k, k < w.heap.size → P k → w'.heap[k]? = w.heap[k]? ∧ Q k) : PtIn w' Q p u := by
 obtain ⟨⟨A1, C1, e1, a1, b1, i1⟩, ⟨A2, C2, e2, a2, b2, i2⟩, ⟨A3, C3, e3, a3, b3, i3⟩⟩ := h
 exact ⟨⟨A1, C1, e1, a1, b1, i1.keep hs hk⟩, ⟨A2, C2, e2, a2, b2, i2.keep hs hk⟩, ⟨A3, C3, e3, a3, b3, i3.keep hs hk⟩⟩
def mnv (m : Mn) (u : Value) : Value := .agg #[.string (bs m.word), .int .i64 (m.node : Nat), u]
def ents (ns : Nms) (us : List Value) : List MapEntry := (ns.zip us).mapIdx fun i x => { key := .string (bs x.1.1), val := mnv x.1.2 x.2, born := i }
structure MnIn (w : World) (P : Nat → Prop) (m : Mn) (u : Value) : Prop where
 bytes : ∃ A C, u = .slice A m.bytes.length C ∧ m.bytes.length ≤ C ∧ C ≤ maxLen ∧ BytsP w P A m.bytes
theorem MnIn.keep {w w' : World} {P Q : Nat → Prop} {m : Mn} {u : Value} (h : MnIn w P m u) (hs : w.heap.size ≤ w'.heap.size) (hk : ∀ k, k < w.heap.size → P k → w'.heap[k]? = w.heap[k]? ∧ Q k) : MnIn w' Q m u := by
 obtain ⟨A, C, e, a, b, i⟩ := h
 exact ⟨A, C, e, a, b, i.keep hs hk⟩
def jI (o : Option Nat) : Int := match o with
 | none => -1
 | some n => (n : Nat)
structure CkAt (E : Nat → Prop) (w : World) (cb : Nat) (V : CV) (c : Ck) : Prop where
 has : Has w cb 68 #[V.vd, .int .i64 (jI c.jour), V.vp, .int .i64 (jI c.expo), .bool c.ro, .map (some V.mb), V.vb, .int .i64 c.eat]
 devs : w.ownsRow cb 3 1 V.vd c.devs.length (c.devs.map fun d => .int .i64 (d : Nat))
 only : w.ownsRow cb 4 1 V.vb c.parts.length ((onlys c.parts).map .bool)
 prts : ∃ us, us.length = c.parts.length ∧ w.ownsRow cb 47 8 V.vp c.parts.length (ptl c.parts us) ∧ ∀ i (h : i < c.parts.length) (h' : i < us.length), PtIn w (fun g => ¬ V.own cb g ∧ E g) c.parts[i] us[i]
 nms : ∃ us, us.length = c.names.length ∧ w.heap[V.mb]? = some (.map (ents c.names us).toArray c.names.length) ∧ ∀ i (h : i < c.names.length) (h' : i < us.length), MnIn w (fun g => ¬ V.own cb g ∧ E g) c.names[i].2 us[i]
 uniq : c.names.Pairwise (fun x y => x.1 ≠ y.1)
 mlt : cb ≤ V.mb + 1
 few : c.parts.length ≤ 100000 ∧ c.names.length ≤ 100000 ∧ c.devs.length ≤ 100000
theorem CkAt.low {w : World} {cb : Nat} {V : CV} {c : Ck} (h : CkAt E w cb V c) {k : Nat} (hk : V.own cb k) : cb ≤ k + 1 ∧ k < w.heap.size := by
 rcases hk with rfl | e | e | e | rfl
 · exact ⟨Nat.le_succ _, h.has.lt⟩
 · exact ⟨Nat.le_succ_of_le (row_lt h.devs e).2, (row_lt h.devs e).1⟩
 · obtain ⟨us, _, hr, _⟩ := h.prts
   exact ⟨Nat.le_succ_of_le (row_lt hr e).2, (row_lt hr e).1⟩
 · exact ⟨Nat.le_succ_of_le (row_lt h.only e).2, (row_lt h.only e).1⟩
 · obtain ⟨us, _, hm, _⟩ := h.nms
   exact ⟨h.mlt, (Array.getElem?_eq_some_iff.1 hm).1⟩
theorem CkAt.keep {w w' : World} {cb : Nat} {V : CV} {c : Ck} (h : CkAt E w cb V c) (hb : Below w.heap.size w w') : CkAt E w' cb V c := by
 have hk : ∀ k, k < w.heap.size → (¬ V.own cb k ∧ E k) → w'.heap[k]? = w.heap[k]? ∧ (¬ V.own cb k ∧ E k) := fun k hk hn => ⟨hb.block k hk, hn⟩
 have hr : ∀ {e size n : Nat} {v : Value} {xs : List Value}, w.ownsRow cb e size v n xs → w'.ownsRow cb e size v n xs := fun hh => row_grown hh (fun g o e ho => (hb.block g (Array.getElem?_eq_some_iff.1 ho).1).trans ho)
 obtain ⟨us, e1, r1, i1⟩ := h.prts
 obtain ⟨ms, e2, r2, i2⟩ := h.nms
 exact ⟨h.has.below hb h.has.lt, hr h.devs, hr h.only, ⟨us, e1, hr r1, fun i a b => (i1 i a b).keep hb.size hk⟩, ⟨ms, e2, (hb.block _ (Array.getElem?_eq_some_iff.1 r2).1).trans r2, fun i a b => (i2 i a b).keep hb.size hk⟩, h.uniq, h.mlt, h.few⟩
theorem CkAt.drewN {w : World} {cb : Nat} {V : CV} {c : Ck} (h : CkAt E w cb V c) (n : Nat) : CkAt E (w.drewN n) cb V c := h.keep (bel_dn (Below.refl _ _) n)
theorem CkAt.alloc {w : World} {cb : Nat} {V : CV} {c : Ck} (h : CkAt E w cb V c) (o : Obj) : CkAt E (w.alloc o) cb V c := h.keep (b_one w o)
theorem CkAt.mono {E' : Nat → Prop} {w : World} {cb : Nat} {V : CV} {c : Ck} (h : CkAt E w cb V c) (hE : ∀ k, k < w.heap.size → ¬ V.own cb k → E k → E' k) : CkAt E' w cb V c := by
 obtain ⟨us, e1, r1, i1⟩ := h.prts
 obtain ⟨ms, e2, r2, i2⟩ := h.nms
 have hk : ∀ k, k < w.heap.size → (¬ V.own cb k ∧ E k) → w.heap[k]? = w.heap[k]? ∧ (¬ V.own cb k ∧ E' k) := fun k hk hn => ⟨rfl, hn.1, hE k hk hn.1 hn.2⟩
 exact ⟨h.has, h.devs, h.only, ⟨us, e1, r1, fun i a b => (i1 i a b).keep (Nat.le_refl _) hk⟩, ⟨ms, e2, r2, fun i a b => (i2 i a b).keep (Nat.le_refl _) hk⟩, h.uniq, h.mlt, h.few⟩
def cflt (c k : Int) : List PanicEntry := [{ v := .iface 111 (.agg #[.int .i64 c, .int .i64 k]), recovered := false }]
end
section
open Go.ChangeShapes Go.WideShapes Go.ChangeAt Go.RowKit Go.MapKept
theorem bs_inj {a b : List UInt8} (h : bs a = bs b) : a = b := by
 have := congrArg (fun x : ByteArray => x.toList) h
 simpa [bs_toList] using this
theorem ents_get {ns : Nms} {us : List Value} (h : us.length = ns.length) (i : Nat) (hi : i < ns.length) : (ents ns us)[i]? = some { key := .string (bs ns[i].1), val := mnv ns[i].2 (us[i]'(by omega)), born := i } := by
 unfold ents
 rw [List.getElem?_mapIdx]
 have hz : i < (ns.zip us).length := by simp [h, hi]
 rw [List.getElem?_eq_getElem hz]
 simp
theorem ents_len {ns : Nms} {us : List Value} (h : us.length = ns.length) : (ents ns us).length = ns.length := by
 unfold ents
 simp [h]
theorem ents_mem {ns : Nms} {us : List Value} (h : us.length = ns.length) {x : MapEntry} (hx : x ∈ ents ns us) : ∃ i, ∃ hi : i < ns.length, x = { key := .string (bs ns[i].1), val := mnv ns[i].2 (us[i]'(by omega)), born := i } := by
 obtain ⟨i, hi, e⟩ := List.mem_iff_getElem.1 hx
 rw [ents_len h] at hi
 refine ⟨i, hi, ?_⟩
 have := ents_get h i hi
 rw [List.getElem?_eq_getElem (by rw [ents_len h]; exact hi)] at this
 rw [← e]
 exact Option.some.inj this
theorem ents_push {ns : Nms} {us : List Value} (h : us.length = ns.length) (s : List UInt8) (m : Mn) (u : Value) : (ents ns us).toArray.push { key := .string (bs s), val := mnv m u, born := ns.length } = (ents (ns ++ [(s, m)]) (us ++ [u])).toArray := by
 apply Array.toList_inj.1
 simp only [Array.toList_push]
 unfold ents
 rw [List.zip_append (by omega), List.mapIdx_append]
 simp [h]
theorem lk_at {ns : Nms} {s : List UInt8} : (lk ns s = none ∧ ∀ i (hi : i < ns.length), ns[i].1 ≠ s) ∨ ∃ i, ∃ hi : i < ns.length, ns[i].1 = s ∧ lk ns s = some ns[i].2 ∧ ∀ j (hj : j < i), (ns[j]'(by omega)).1 ≠ s := by
 unfold lk
 cases hf : ns.find? (fun x => x.1 == s) with
 | none =>
   refine .inl ⟨rfl, fun i hi e => ?_⟩
   have := List.find?_eq_none.1 hf ns[i] (List.getElem_mem hi)
   simp [e] at this
 | some x =>
   obtain ⟨h1, i, hi, rfl, h2⟩ := List.find?_eq_some_iff_getElem.1 hf
   refine .inr ⟨i, hi, by simpa using h1, rfl, fun j hj e => ?_⟩
   have := h2 j hj
   simp [e] at this
def zeroMn : Value := .agg #[.string ⟨#[]⟩, .int .i64 0, .slice none 0 0]
theorem uniq_at {ns : Nms} (hu : ns.Pairwise (fun x y => x.1 ≠ y.1)) {i j : Nat} (hi : i < ns.length) (hj : j < ns.length) (e : ns[i].1 = ns[j].1) : i = j := by
 rcases Nat.lt_trichotomy i j with h | h | h
 · exact absurd e (List.pairwise_iff_getElem.1 hu i j hi hj h)
 · exact h
 · exact absurd e.symm (List.pairwise_iff_getElem.1 hu j i hj hi h)
theorem lk_is {ns : Nms} (hu : ns.Pairwise (fun x y => x.1 ≠ y.1)) {i : Nat} (hi : i < ns.length) : lk ns ns[i].1 = some ns[i].2 := by
 rcases lk_at (ns := ns) (s := ns[i].1) with ⟨_, h⟩ | ⟨j, hj, e, h, _⟩
 · exact absurd rfl (h i hi)
 · have := uniq_at hu hj hi e
   subst this
   exact h
theorem ents_find {ns : Nms} {us : List Value} (h : us.length = ns.length) (hu : ns.Pairwise (fun x y => x.1 ≠ y.1)) (s : List UInt8) :
  (Instr.findNow .string (.string (bs s)) (ents ns us) 0 = some none ∧ lk ns s = none) ∨ ∃ i, ∃ hi : i < ns.length, Instr.findNow .string (.string (bs s)) (ents ns us) 0 = some (some (i, mnv ns[i].2 (us[i]'(by omega)))) ∧ lk ns s = some ns[i].2 ∧ ns[i].1 = s := by
 have hks : ∀ x ∈ ents ns us, IsKey .string x.key := fun x hx => by obtain ⟨i, hi, rfl⟩ := ents_mem h hx; trivial
 rcases findNow_spec (d := .string) (k := .string (bs s)) trivial (ents ns us) 0 hks with ⟨g1, g2⟩ | ⟨j, e, g1, g2, g3⟩
 · refine .inl ⟨g1, ?_⟩
   rcases lk_at (ns := ns) (s := s) with ⟨q, _⟩ | ⟨i, hi, q, _, _⟩
   · exact q
   · have := g2 _ (List.mem_of_getElem? (ents_get h i hi))
     exact absurd (by rw [q]) this
 · have hj : j < ns.length := by
    have := (List.getElem?_eq_some_iff.1 g2).1
    rw [ents_len h] at this
    exact this
   rw [ents_get h j hj] at g2
   cases g2
   have hs : ns[j].1 = s := by
    injection g3 with g3
    exact bs_inj g3
   refine .inr ⟨j, hj, by simpa using g1, ?_, hs⟩
   rw [← hs]
   exact lk_is hu hj
def lkV (ns : Nms) (us : List Value) (s : List UInt8) : Value := match (ns.zip us).find? (fun x => x.1.1 == s) with
 | none => zeroMn
 | some x => mnv x.1.2 x.2
theorem lkV_at {ns : Nms} {us : List Value} (h : us.length = ns.length) (hu : ns.Pairwise (fun x y => x.1 ≠ y.1)) {i : Nat} (hi : i < ns.length) : lkV ns us ns[i].1 = mnv ns[i].2 (us[i]'(by omega)) := by
 unfold lkV
 have hz : i < (ns.zip us).length := by simp [h, hi]
 have : (ns.zip us).find? (fun x => x.1.1 == ns[i].1) = some (ns.zip us)[i] := by
  rw [List.find?_eq_some_iff_getElem]
  refine ⟨by simp, i, hz, rfl, fun j hj => ?_⟩
  simp only [List.getElem_zip]
  have := List.pairwise_iff_getElem.1 hu j i (by omega) hi hj
  simpa using this
 rw [this]
 simp
theorem lkV_none {ns : Nms} {us : List Value} {s : List UInt8} (h : lk ns s = none) : lkV ns us s = zeroMn := by
 unfold lkV
 have : (ns.zip us).find? (fun x => x.1.1 == s) = none := by
  rw [List.find?_eq_none]
  intro x hx
  rcases lk_at (ns := ns) (s := s) with ⟨_, q⟩ | ⟨i, hi, _, q, _⟩
  · obtain ⟨i, hi, rfl⟩ := List.mem_iff_getElem.1 hx
    simp only [List.getElem_zip]
    have := q i (by simp at hi; omega)
    simpa using this
  · rw [h] at q; cases q
 rw [this]
theorem run_look {o : Oper} {a : Act} (x y : Operand) (ho : o.op = .lookup 65 x y true) {w : World} {mb : Nat} {ns : Nms} {us : List Value} {k : Nat} (hb : w.heap[mb]? = some (.map (ents ns us).toArray k)) (h : us.length = ns.length) (hu : ns.Pairwise (fun x y => x.1 ≠ y.1)) (s : List UInt8) (hx : a.eval x = .map (some mb)) (hy : a.eval y = .string (bs s)) : (execOp a.eval o).run Tryz.prog w = .ok (.value (.tuple #[lkV ns us s, .bool (lk ns s).isSome])) w := by
 have hk : IsKey .string (.string (bs s)) := trivial
 unfold execOp
 simp only [ho, hx, hy]
 rcases ents_find h hu s with ⟨g1, g2⟩ | ⟨i, hi, g1, g2, g3⟩
 · have hr := MapKept.run_findKey (P := Tryz.prog) (w := w) Tryz.underlying9 g1
   rw [lkV_none g2]
   simp [Instr.lookup, run_underlying Tryz.underlying65, MapKept.run_getObj_map hb, MapKept.run_checkKey Tryz.underlying9 hk, hr, Result.andThen, g2, go_sem]
   rfl
 · have hr := MapKept.run_findKey (P := Tryz.prog) (w := w) Tryz.underlying9 g1
   have := lkV_at h hu hi
   rw [g3] at this
   rw [this]
   simp [Instr.lookup, run_underlying Tryz.underlying65, MapKept.run_getObj_map hb, MapKept.run_checkKey Tryz.underlying9 hk, hr, Result.andThen, g2, go_sem]
theorem callToP {P : Program} {ops : Array Oper} {Q : Exit → Act → World → Prop} {md : Region.Mode} {S : World → Prop} {oi : Oper} (i : Nat) (d : Option Tmp) (f : FuncId) (args : Array Value) {fuel : Nat} {listed : Array Bool} {a : Act} {w : World} {Post : Ending → World → Prop}
  (hr : Region.ready md ops listed = [i]) (hi : ops[i]? = some oi) (hd : oi.dst = d) (hw : Region.wanted oi (yielded ops a.tmps) = true)
  (hrun : (execOp a.eval oi).run P w = .ok (.enter f args) w) (hc : Calls P f args w Post)
  (h : ∀ e w', Post e w' → (∃ v, e = .returned v ∧ S w' ∧ wpAnyH P md ops Q S fuel (listed.setIfInBounds i true) (a.put d v) w') ∨ ∃ c, e = .panicked c ∧ Q (.panic c) a w') : wpAnyH P md ops Q S (fuel + 1) listed a w := by
 subst hd
 refine wpAnyH_ready hr (by simp) (AllReadyH.cons hi (fun K hK => ?_) AllReadyH.nil)
 rw [if_pos hw]
 unfold Oper.wp
 rw [hrun, Oper.upon_enter]
 refine hc.mono fun e w' hh => ?_
 rcases h e w' hh with ⟨v, rfl, hS, hrest⟩ | ⟨c, rfl, hq⟩
 · exact hK.out _ _ hS (fun _ => hrest)
 · exact hq
theorem need_yes (c k : Int) (w : World) : Calls Tryz.prog 86 #[.bool true, .int .i64 c, .int .i64 k] w fun e w' => e = .returned (.tuple #[]) ∧ w' = w := by
 go_enter Tryz.func86, Tryz.ntmps86
 go_wp2
 go_end0
 exact ⟨rfl, rfl⟩
theorem need_no (c k : Int) (w : World) : Calls Tryz.prog 86 #[.bool false, .int .i64 c, .int .i64 k] w fun e w' => e = .panicked (cflt c k) ∧ w' = w := by
 go_enter Tryz.func86, Tryz.ntmps86
 go_wp2
 exact ⟨rfl, rfl, rfl⟩
end
end Go.Proofs.YthndifegfmjpbaaGreatDoor
