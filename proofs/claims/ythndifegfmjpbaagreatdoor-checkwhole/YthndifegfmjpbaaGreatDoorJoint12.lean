/- Texts that the statements of this stage share, joined. -/
import Derived.Test.YthndifegfmjpbaaGreatDoorJoint11
namespace Go.Proofs.YthndifegfmjpbaaGreatDoor
set_option linter.unusedVariables false
set_option maxRecDepth 100000
set_option maxHeartbeats 40000000
section
open Go.ChangeShapes Go.WideShapes Go.ChangeAt Go.RowKit
theorem at_wd {f : FuncId} {args : Array Value} (w : World) {R : Ending → World → Prop} (k : Calls Tryz.prog f args w R) : Calls Tryz.prog f args w R := k
def Goodt (ts : Toks) : Prop := ∀ t ∈ ts, Good t.1
theorem sg_eq {ts : Toks} (hG : Goodt ts) {c : UInt8} (hc : isSml c = false) (en i : Nat) : ptake (isWS [c]) en (ts.drop i) = ptake (isSg [c]) en (ts.drop i) := by
 by_cases hi : i < ts.length
 · have hg := hG _ (List.getElem_mem hi)
   have e : isWS [c] ts[i].1 = isSg [c] ts[i].1 := by
    unfold isWS isSg
    by_cases hk : ts[i].1.kind = 0
    · obtain ⟨⟨c', r, e1, e2⟩, _⟩ := hg.word hk
      have : (ts[i].1.s == [c]) = false := by
       rw [e1, beq_eq_false_iff_ne]
       intro e
       have : c' = c := by simpa using (List.cons.inj e).1
       rw [this, hc] at e2
       cases e2
      rw [this]; simp
    · have h0 : (ts[i].1.kind == 0) = false := by rw [beq_eq_false_iff_ne]; exact hk
      rw [h0]; rfl
   rw [List.drop_eq_getElem_cons hi]
   simp only [ptake, e]
 · rw [List.drop_eq_nil_of_le (by omega)]; rfl
theorem wd_kind {ts : Toks} (hG : Goodt ts) {i : Nat} {s : List UInt8} (hi : i < ts.length) (hs : ∀ c, s = [c] → isSgn c = false) (h : isWS s ts[i].1 = true) : ts[i].1.kind = 0 ∧ ts[i].1.s = s := by
 unfold isWS at h
 simp only [Bool.and_eq_true, Bool.or_eq_true, beq_iff_eq] at h
 refine ⟨?_, h.2⟩
 rcases h.1 with e | e
 · exact e
 · obtain ⟨c, e1, e2, _⟩ := (hG _ (List.getElem_mem hi)).sign e
   rw [h.2] at e1
   rw [hs c e1] at e2
   cases e2
structure ExAt (w0 : World) (rb : Nat) (A : Option Addr) (C : Nat) (ts : Toks) (i0 en : Nat) (q : Nat) (op : ByteArray) (at_ : Int) (wr : World) (i' : Nat) (bad' : Int) (l : List Nd) (v : Value) : Prop where
 st : Rst w0 rb A C ts i0 en wr i' bad'
 hp : Has wr w0.heap.size 24 #[.string ⟨#[]⟩, .string ⟨#[]⟩, .int .i64 0, .int .i64 0, .slice none 0 0]
 hq : Has wr q 24 #[.string op, .string ⟨#[]⟩, .int .i64 0, .int .i64 at_, v]
 row : NRow wr (q + 1) l v
 lt : rb < w0.heap.size
 pq : w0.heap.size < q
section
variable {w0 : World} {rb : Nat} {A : Option Addr} {C : Nat} {ts : Toks} {i0 en q : Nat} {op : ByteArray} {at_ : Int} {wr : World} {i' : Nat} {bad' : Int} {l : List Nd} {v : Value}
theorem ExAt.rst (h : ExAt w0 rb A C ts i0 en q op at_ wr i' bad' l v) {w' : World} {i2 : Nat} {b2 : Int} (s : Rst wr rb A C ts i' en w' i2 b2) : ExAt w0 rb A C ts i0 en q op at_ w' i2 b2 l v := by
 have hk := s.2.2.1
 have hlt := h.lt
 have hpq := h.pq
 exact ⟨h.st.trans s, (hk.block _ h.hp.lt (fun e => by cases e; omega)).trans h.hp, (hk.block _ h.hq.lt (fun e => by cases e; omega)).trans h.hq, h.row.kp hk (by omega), hlt, hpq⟩
theorem ExAt.alloc (h : ExAt w0 rb A C ts i0 en q op at_ wr i' bad' l v) (o : Obj) : ExAt w0 rb A C ts i0 en q op at_ (wr.alloc o) i' bad' l v :=
 ⟨h.st.alloc o, h.hp.alloc o, h.hq.alloc o, h.row.kp (Kp.of (p := rb) (b_one wr o)) (by have := h.lt; have := h.pq; omega), h.lt, h.pq⟩
theorem ExAt.put (h : ExAt w0 rb A C ts i0 en q op at_ wr i' bad' l v) {w6 : World} {l' : List Nd} {v6 : Value} (hr : NRow w6 (q + 1) l' v6) (hb : Below (q + 1) wr w6) : ExAt w0 rb A C ts i0 en q op at_ (w6.setCell ⟨q, 4, none⟩ v6) i' bad' l' v6 := by
 have hpq := h.pq
 have hlt := h.lt
 refine ⟨(h.st.below hb (by omega) hlt).new (q := ⟨q, 4, none⟩) (by show _ ≤ q; omega) hlt _, (h.hp.below hb (by omega)).other (by show w0.heap.size ≠ q; omega) _, ?_, hr.kp ((Kp.refl q w6).setP 4 v6) (by omega), hlt, hpq⟩
 exact (h.hq.below hb (by omega)).putP 4 v6
theorem ExAt.at (h : ExAt w0 rb A C ts i0 en q op at_ wr i' bad' l v) {bad k : Int} (h0 : RdrAt w0 rb A C ts i0 en bad k) : ∃ k', RdrAt wr rb A C ts i' en bad' k' := Rst.at h0 h.st
end
theorem ex_start {w w1 w2 : World} {rb : Nat} {A : Option Addr} {C : Nat} {ts : Toks} {i en : Nat} {bad k : Int} {op : ByteArray} {at_ : Int} (h : RdrAt w rb A C ts i en bad k) (hb1 : Below (w.alloc (.cells #[.string ⟨#[]⟩, .string ⟨#[]⟩, .int .i64 0, .int .i64 0, .slice none 0 0] 24)).heap.size (w.alloc (.cells #[.string ⟨#[]⟩, .string ⟨#[]⟩, .int .i64 0, .int .i64 0, .slice none 0 0] 24)) w1) (hb2 : Below w1.heap.size w1 w2) (hi : i + 1 ≤ ts.length) (hlt : rb < w.heap.size) :
  ExAt w rb A C ts i en w2.heap.size op at_ ((w2.setCell ⟨rb, 1, none⟩ (.int .i64 ((i : Int) + 1))).alloc (.cells #[.string op, .string ⟨#[]⟩, .int .i64 0, .int .i64 at_, .slice none 0 0] 24)) (i + 1) bad [] (.slice none 0 0) := by
 have hN := Has.new w 24 #[.string ⟨#[]⟩, .string ⟨#[]⟩, .int .i64 0, .int .i64 0, .slice none 0 0]
 have hb : Below w.heap.size w w2 := ((b_one w _).trans (hb1.mono (by simp))).trans (hb2.mono (by have := hb1.size; simp at this; omega))
 have hN2 : Has w2 w.heap.size 24 #[.string ⟨#[]⟩, .string ⟨#[]⟩, .int .i64 0, .int .i64 0, .slice none 0 0] := (hN.below hb1 hN.lt).below hb2 (hN.below hb1 hN.lt).lt
 have hr : Has w2 rb 61 _ := h.has.below hb hlt
 have hsz : (w2.setCell ⟨rb, 1, none⟩ (.int .i64 ((i : Int) + 1))).heap.size = w2.heap.size := by simp
 refine ⟨⟨by omega, by omega, ((Kp.of hb).setP 1 _).alloc _, k, ?_⟩, (hN2.other (by show w.heap.size ≠ rb; omega) _).alloc _, Has.new_at hsz.symm, NRow.nil _ _, hlt, hN2.lt⟩
 exact (hr.putP 1 _).alloc _
theorem ExAt.drewN {w0 : World} {rb : Nat} {A : Option Addr} {C : Nat} {ts : Toks} {i0 en q : Nat} {op : ByteArray} {at_ : Int} {wr : World} {i' : Nat} {bad' : Int} {l : List Nd} {v : Value} (h : ExAt w0 rb A C ts i0 en q op at_ wr i' bad' l v) (n : Nat) : ExAt w0 rb A C ts i0 en q op at_ (wr.drewN n) i' bad' l v :=
 ⟨h.st.drewN n, h.hp.drewN n, h.hq.drewN n, h.row.kp ((Kp.refl rb wr).drewN n) (by have := h.lt; have := h.pq; omega), h.lt, h.pq⟩
theorem ExAt.step {w0 : World} {rb : Nat} {A : Option Addr} {C : Nat} {ts : Toks} {i0 en q : Nat} {op : ByteArray} {at_ : Int} {wr : World} {i' : Nat} {bad' : Int} {l : List Nd} {v : Value} (h : ExAt w0 rb A C ts i0 en q op at_ wr i' bad' l v) (hi : i' < ts.length) : ExAt w0 rb A C ts i0 en q op at_ (wr.setCell ⟨rb, 1, none⟩ (.int .i64 ((i' : Int) + 1))) (i' + 1) bad' l v := by
 obtain ⟨k', hH⟩ := h.st.2.2.2
 have hs : Rst wr rb A C ts i' en (wr.setCell ⟨rb, 1, none⟩ (.int .i64 ((i' : Int) + 1))) (i' + 1) bad' := ⟨by omega, by omega, (Kp.refl rb wr).setP 1 _, k', by have := hH.putP 1 (.int .i64 ((i' : Int) + 1)); simpa using this⟩
 exact h.rst hs
def rpos (rb : Nat) (w : World) : Nat := match w.cell? ⟨rb, 1, none⟩ with
 | some (.int _ n) => n.toNat
 | _ => 0
theorem ExAt.pos {w0 : World} {rb : Nat} {A : Option Addr} {C : Nat} {ts : Toks} {i0 en q : Nat} {op : ByteArray} {at_ : Int} {wr : World} {i' : Nat} {bad' : Int} {l : List Nd} {v : Value} (h : ExAt w0 rb A C ts i0 en q op at_ wr i' bad' l v) : rpos rb wr = i' := by
 obtain ⟨k', hH⟩ := h.st.2.2.2
 have := hH.cell 1
 simp only [ga1, gz1, gs1] at this
 unfold rpos
 rw [this]
 simp
theorem run_append_nodes {ty : TypeId} (w : World) (base : Nat) (l : List Nd) (v : Value) (hrow : NRow w base l v) (hbase : base ≤ w.heap.size) (hlen : l.length ≤ 1000) (xs : List Nd) (us : List Value) (hx1 : 0 < xs.length) (hx2 : xs.length ≤ 10) (hu : us.length = xs.length) (hus : ∀ u ∈ us, u.oneCell' = true)
  (hn : ∀ i (h : i < xs.length) (h' : i < us.length), NdR w (fun g => base ≤ g ∧ v.ownBlock ≠ some g) xs[i].l us[i]) (G : Nat) (hG : Has w G 24 (ndl xs us).toArray) :
  ∃ v' w', (Builtin.append_ #[22, 22] ty #[v, .slice (some ⟨G, 0, none⟩) xs.length xs.length]).run Tryz.prog w = .ok v' w' ∧ NRow w' base (l ++ xs) v' ∧ Below base w w' ∧ w.grownBy w' v.ownBlock := by
 obtain ⟨i0, hi, hz0, hz1, hz2⟩ := info_parts Tryz.infoNode
 obtain ⟨vs, e1, hown, hk⟩ := hrow
 have hlenN : ∀ (xs : List Nd) (us : List Value), us.length = xs.length → (ndl xs us).length = xs.length * 5 := by
  intro xs
  induction xs with
  | nil => intro us _; rfl
  | cons a xs ih =>
    intro us h
    cases us with
    | nil => simp at h
    | cons u us => rw [ndl_cons, List.length_append, ih us (by simpa using h)]; simp [ndc]; omega
 have hone : ∀ (xs : List Nd) (us : List Value), (∀ u ∈ us, u.oneCell' = true) → ∀ u ∈ ndl xs us, u.oneCell' = true := by
  intro xs
  induction xs with
  | nil => intro us _ u hu; simp [ndl] at hu
  | cons a xs ih =>
    intro us h u hu
    cases us with
    | nil => simp [ndl] at hu
    | cons b us =>
      rw [ndl_cons, List.mem_append] at hu
      rcases hu with hu | hu
      · simp [ndc] at hu
        rcases hu with rfl | rfl | rfl | rfl | rfl
        · rfl
        · rfl
        · rfl
        · rfl
        · exact h _ (by simp)
      · exact ih us (fun u hu => h u (by simp [hu])) u hu
 have hnews : ∀ j u, (ndl xs us)[j]? = some u → w.cell? ((⟨G, 0, none⟩ : Addr).add j) = some u := by
  intro j u hj
  have := hG.cell j
  rw [show (⟨G, 0, none⟩ : Addr).add j = ⟨G, j, none⟩ by simp [Addr.add]; omega]
  rw [this]
  simpa using hj
 obtain ⟨v', w', hr, h2, h3, h4⟩ := run_append_own (P := Tryz.prog) w base 22 ty 24 i0 _ 5 72 Tryz.underlying22 hi hz0 hz1 hz2 rfl (by decide) v l.length (ndl l vs) hown ⟨G, 0, none⟩ xs.length xs.length (ndl xs us) (hlenN xs us hu) hnews (hone xs us hus) (by unfold maxLen; omega) (by omega) hbase
 have hwh := append_where (P := Tryz.prog) Tryz.underlying22 hi hz0 hz1 (by decide) hown (ad := ⟨G, 0, none⟩) (m := xs.length) (c := xs.length) (news := ndl xs us) (hlenN xs us hu) hnews (hone xs us hus) (by unfold maxLen; omega) (by rw [hz2]; omega) hx1 hr
 refine ⟨v', w', hr, ?_, grown_own hown h3 hbase, h3⟩
 have keep : ∀ {l' : List Nd} {x : Value}, NdR w (fun g => base ≤ g ∧ v.ownBlock ≠ some g) l' x → NdR w' (fun g => base ≤ g ∧ v'.ownBlock ≠ some g) l' x := by
  intro l' x h
  have h5 : NdR w (fun g => (base ≤ g ∧ v.ownBlock ≠ some g) ∧ v'.ownBlock ≠ some g) l' x := h.imp fun g hg hlt => ⟨hg, by
   rcases hwh with e | e
   · rw [e]; exact hg.2
   · rw [e]; intro e'; cases e'; omega⟩
  exact (h5.keep (w' := w') fun g o hg ho => (h3.block g (Array.getElem?_eq_some_iff.1 ho).1 (fun e => hg.1.2 e.symm)).trans ho).mono fun g hg => ⟨hg.1.1, hg.2⟩
 refine ⟨vs ++ us, by simp [e1, hu], ?_, ?_⟩
 · rw [ndl_append l xs vs _ e1, List.length_append]
   exact h2
 · intro i h h'
   by_cases hi : i < l.length
   · rw [List.getElem_append_left hi, List.getElem_append_left (by omega)]
     exact keep (hk i hi (by omega))
   · rw [List.getElem_append_right (by omega), List.getElem_append_right (by omega)]
     have e : i - vs.length = i - l.length := by omega
     simp only [e]
     simp only [List.length_append] at h
     exact keep (hn _ (by omega) (by omega))
theorem wpList_append_nodes {ops : Array Oper} {rest : List Oper} {o : Oper} {a : Act} {w : World} {Q : Exit → Act → World → Prop} (hgd : o.guard = none) (s x : Operand)
  (ho : o.op = .call { callee := .builtin .append, args := #[s, x], argTypes := #[22, 22] }) (base : Nat) (l : List Nd) (v : Value) (hs : a.eval s = v) (hrow : NRow w base l v) (hbase : base ≤ w.heap.size) (hlen : l.length ≤ 1000)
  (xs : List Nd) (us : List Value) (hx1 : 0 < xs.length) (hx2 : xs.length ≤ 10) (hu : us.length = xs.length) (hus : ∀ u ∈ us, u.oneCell' = true)
  (hn : ∀ i (h : i < xs.length) (h' : i < us.length), NdR w (fun g => base ≤ g ∧ v.ownBlock ≠ some g) xs[i].l us[i]) (G : Nat) (hx : a.eval x = .slice (some ⟨G, 0, none⟩) xs.length xs.length) (hG : Has w G 24 (ndl xs us).toArray)
  (L : Nat) (hL : l.length + xs.length = L) (h : ∀ A' C' w', NRow w' base (l ++ xs) (.slice A' L C') → Below base w w' → wpList Tryz.prog ops Q rest (a.put o.dst (.slice A' L C')) w') : wpList Tryz.prog ops Q (o :: rest) a w := by
 obtain ⟨v', w', hr, h2, h3, h4⟩ := run_append_nodes (ty := o.type) w base l v hrow hbase hlen xs us hx1 hx2 hu hus hn G hG
 obtain ⟨A', C', e⟩ := h2.slice
 rw [List.length_append, hL] at e
 refine wpList_plain hgd fun K hK => ?_
 unfold Oper.wp execOp
 simp only [ho, resolve, invoke, builtin, Sem.run_bind, Sem.run_pure, Result.andThen_ok, List.map_toArray, List.map_cons, List.map_nil, hs, hx, hr]
 subst e
 exact hK _ _ (h A' C' w' h2 h3)
theorem nd1 {w : World} {P : Nat → Prop} {x : Nd} {u : Value} (h : NdR w P x.l u) : ∀ i (h : i < [x].length) (h' : i < [u].length), NdR w P [x][i].l [u][i] := by
 intro i hi hi'
 have : i = 0 := by simp at hi; omega
 subst this
 exact h
theorem nd2 {w : World} {P : Nat → Prop} {x y : Nd} {u v : Value} (h : NdR w P x.l u) (k : NdR w P y.l v) : ∀ i (h : i < [x, y].length) (h' : i < [u, v].length), NdR w P [x, y][i].l [u, v][i] := by
 intro i hi hi'
 have : i = 0 ∨ i = 1 := by simp at hi; omega
 rcases this with rfl | rfl
 · exact h
 · exact k
theorem one1 (A : Option Addr) (L C : Nat) : ∀ u ∈ [Value.slice A L C], u.oneCell' = true := by
 intro u hu
 simp at hu
 subst hu
 rfl
theorem one2 (A : Option Addr) (L C : Nat) (A' : Option Addr) (L' C' : Nat) : ∀ u ∈ [Value.slice A L C, Value.slice A' L' C'], u.oneCell' = true := by
 intro u hu
 simp at hu
 rcases hu with rfl | rfl <;> rfl
theorem NRow.apart {w w' : World} {base : Nat} {l l' : List Nd} {v x : Value} (row : NRow w base l v) (hx : NdR w' (fun g => w.heap.size ≤ g) l' x) (hb : base ≤ w.heap.size) : NdR w' (fun g => base ≤ g ∧ v.ownBlock ≠ some g) l' x :=
 hx.mono fun g hg => ⟨by omega, fun e => by have := row.lt e; omega⟩
end
section
open Go.ChangeShapes Go.WideShapes Go.ChangeAt Go.RowKit
theorem rex_Linear {w : World} {rb : Nat} {A : Option Addr} {C : Nat} {ts : Toks} {i en : Nat} {k : Int} (h : RdrAt w rb A C ts i en 0 k) (hG : Goodt ts) (d N : Nat) (hN : N ≤ 12) (hi : i < ts.length) (hk : ts[i].1.kind = 0) (hs : ts[i].1.s = wLinear)
  (hx : ∀ (w : World) (i : Nat) (bad k : Int), RdrAt w rb A C ts i en bad k → Calls Tryz.prog 48 #[.pointer (some ⟨rb, 0, none⟩), .int .i64 ((N : Int) + 1)] w (RNode w rb A C ts i en bad (pexpr d))) :
  Calls Tryz.prog 48 #[.pointer (some ⟨rb, 0, none⟩), .int .i64 (N : Nat)] w (RNode w rb A C ts i en 0 (pexpr (d + 1))) := by
 have hpx := px_op (d := d) (en := en) hi hk hs (by decide) (by decide)
 have hR := h
 have hlt := h.has.lt
 have hf := h.few
 have hop : ∀ W k, RdrAt W rb A C ts i en 0 k → Calls Tryz.prog 77 #[.pointer (some ⟨rb, 0, none⟩)] W fun e w' => e = .returned (.string ⟨#[108, 105, 110, 101, 97, 114]⟩) ∧ Below W.heap.size W w' := by
  intro W k h
  refine (rop_c h).mono ?_
  rintro e w' ⟨rfl, hb⟩
  refine ⟨?_, hb⟩
  have : firstW OPS (isB 0 ts i) = wLinear := by
   have hb : ∀ s, isB 0 ts i s = (s == wLinear) := by
    intro s
    unfold isB
    rw [comes_at hi]
    unfold isWS
    rw [hk, hs]
    simp only [decide_true, Bool.true_and, beq_self_eq_true, Bool.true_or]
    rw [Bool.eq_iff_iff]
    simp only [beq_iff_eq]
    exact eq_comm
   rw [show isB 0 ts i = fun s => s == wLinear from funext hb]
   decide
  rw [this]
  rfl
 have hpl : ∀ W k, RdrAt W rb A C ts i en 0 k → Calls Tryz.prog 42 #[.pointer (some ⟨rb, 0, none⟩)] W fun e w' => e = .returned (.int .i64 (ts[i].2 : Nat)) ∧ Below W.heap.size W w' := by
  intro W k h
  refine (rplace_c h).mono ?_
  rintro e w' ⟨rfl, q, rfl⟩
  rw [place_at hi]
  exact ⟨rfl, bel_dn (Below.refl _ _) _⟩
 have h0 := h.kp (b_one w (.cells #[.string ⟨#[]⟩, .string ⟨#[]⟩, .int .i64 0, .int .i64 0, .slice none 0 0] 24))
 have hN0 := Has.new w 24 #[.string ⟨#[]⟩, .string ⟨#[]⟩, .int .i64 0, .int .i64 0, .slice none 0 0]
 rw [show (pexpr (d + 1)) = pexpr (d + 1) from rfl]
 have fin : ∀ (e : Ending) (w' : World), RNode w rb A C ts i en 0 (fun _ _ => pexpr (d + 1) en (ts.drop i)) e w' → RNode w rb A C ts i en 0 (pexpr (d + 1)) e w' := fun e w' h => h
 rw [hpx] at fin
 generalize ts[i].2 = at_ at hpl fin
 clear hpx hs hk
 have hi1 : i + 1 ≤ ts.length := by omega
 have hi5 : (i : Int) ≤ 500 := by omega
 go_enter Tryz.func48, Tryz.ntmps48
 go_wp2_with (first
  | ((go_at_call 77)
     (refine (hop _ _ h0).mono ?_)
     (rintro e w1 ⟨rfl, hb1⟩)
     (have h1 := h0.kp hb1)
     (have c1 := h1.has.cell 3)
     (have l1 := h1.has.lt)
     (simp only [ga1, gz1, gs1] at c1))
  | ((go_at_call 42)
     (refine (hpl _ _ h1).mono ?_)
     (rintro e w2 ⟨rfl, hb2⟩)
     (have h2 := h1.kp hb2)
     (have c2 := h2.has.cell 1)
     (have d2 := h2.has.free 1)
     (have l2 := h2.has.lt)
     (simp only [ga1, gz1, gs1] at c2)
     (have N2 := (hN0.below hb1 hN0.lt).below hb2 (hN0.below hb1 hN0.lt).lt)
     (have lp2 := N2.lt)
     (have E3 : ExAt w rb A C ts i en w2.heap.size ⟨#[108, 105, 110, 101, 97, 114]⟩ (at_ : Nat) ((w2.setCell ⟨rb, 1, none⟩ (.int .i64 ((i : Int) + 1))).alloc (.cells #[.string ⟨#[108, 105, 110, 101, 97, 114]⟩, .string ⟨#[]⟩, .int .i64 0, .int .i64 (at_ : Nat), .slice none 0 0] 24)) (i + 1) 0 [] (.slice none 0 0) := ex_start hR hb1 hb2 hi1 hlt)
     (have pq := E3.pq)
     (obtain ⟨k3, h3⟩ := E3.at hR))
  | ((go_at_call 47)
     (refine at_wd ((w2.setCell ⟨rb, 1, none⟩ (.int .i64 ((i : Int) + 1))).alloc (.cells #[.string ⟨#[108, 105, 110, 101, 97, 114]⟩, .string ⟨#[]⟩, .int .i64 0, .int .i64 (at_ : Nat), .slice none 0 0] 24)) ?_)
     (refine (rmust_c h3 [40]).mono ?_)
     (rintro e w4 ⟨rfl, i4, b4, s4, t4, T4⟩)
     (rw [sg_eq hG (by decide)] at T4)
     (have E4 := E3.rst s4)
     (obtain ⟨k4, h4⟩ := Rst.at h3 s4)
     (have z4 := s4.2.2.1.size)
     (have q4 := E4.hq.cell 4)
     (have r4 := E4.hq.lt)
     (have f4 := E4.hq.free 4))
  | ((go_at_call 48)
     (refine at_wd (w4) ?_)
     (refine (hx _ _ _ _ h4).mono ?_)
     (rintro e w5 ⟨i5, b5, x5, A5, C5, rfl, N5, s5, T5, l5⟩)
     (have E5 := E4.rst s5)
     (obtain ⟨k5, h5⟩ := Rst.at h4 s5)
     (have z5 := s5.2.2.1.size)
     (have q5 := E5.hq.cell 4)
     (have r5 := E5.hq.lt)
     (have f5 := E5.hq.free 4)
     (simp only [ndc])
     (have E5a := (E5.alloc (.cells #[.string (bs x5.op), .string (bs x5.s), .int .i64 x5.n, .int .i64 x5.a, .slice A5 x5.l.length C5] 24)).alloc (.cells #[.string (bs x5.op), .string (bs x5.s), .int .i64 x5.n, .int .i64 x5.a, .slice A5 x5.l.length C5] 24))
     (have N5a := (E4.row.apart N5 (by omega)).grow (((Below.refl _ w5).alloc (Nat.le_refl _) (.cells #[.string (bs x5.op), .string (bs x5.s), .int .i64 x5.n, .int .i64 x5.a, .slice A5 x5.l.length C5] 24)).alloc (by simp) (.cells #[.string (bs x5.op), .string (bs x5.s), .int .i64 x5.n, .int .i64 x5.a, .slice A5 x5.l.length C5] 24))))
  | ((refine at_dstL 58 rfl ?_)
     (refine wpList_append_nodes rfl _ _ rfl (w2.heap.size + 1) [] _ rfl E5a.row (by simp; omega) (by decide) [x5] [.slice A5 x5.l.length C5] (by simp) (by simp) rfl (one1 _ _ _) (nd1 N5a) (w5.heap.size + 1) rfl (Has.new_at (by simp)) 1 rfl ?_)
     (intro A6 C6 w6 R6 B6)
     (have E6 := E5a.put R6 B6)
     (have u6 := (E5a.hq.below B6 (by omega)).cell 4)
     (have v6 := (E5a.hq.below B6 (by omega)).free 4)
     (have y6 := (E5a.hq.below B6 (by omega)).lt)
     (obtain ⟨k6, h6⟩ := E6.at hR))
  | ((go_at_call 47)
     (refine at_wd (w6.setCell ⟨w2.heap.size, 4, none⟩ (.slice A6 1 C6)) ?_)
     (refine (rmust_c h6 [44]).mono ?_)
     (rintro e w7 ⟨rfl, i7, b7, s7, t7, T7⟩)
     (rw [sg_eq hG (by decide)] at T7)
     (have E7 := E6.rst s7)
     (obtain ⟨k7, h7⟩ := Rst.at h6 s7)
     (have z7 := s7.2.2.1.size)
     (have q7 := E7.hq.cell 4)
     (have r7 := E7.hq.lt)
     (have f7 := E7.hq.free 4))
  | ((go_at_call 78)
     (refine at_wd (w7) ?_)
     (refine (rnumber_c h7 (pexpr d)).mono ?_)
     (rintro e w8 ⟨i8, b8, x8, A8, C8, rfl, N8, s8, T8, l8⟩)
     (have E8 := E7.rst s8)
     (obtain ⟨k8, h8⟩ := Rst.at h7 s8)
     (have z8 := s8.2.2.1.size)
     (have q8 := E8.hq.cell 4)
     (have r8 := E8.hq.lt)
     (have f8 := E8.hq.free 4)
     (simp only [ndc])
     (have E8a := E8.alloc (.cells #[.string (bs x8.op), .string (bs x8.s), .int .i64 x8.n, .int .i64 x8.a, .slice A8 x8.l.length C8] 24))
     (obtain ⟨k8a, h8a⟩ := E8a.at hR)
     (have O8 := Has.new w8 24 #[.string (bs x8.op), .string (bs x8.s), .int .i64 x8.n, .int .i64 x8.a, .slice A8 x8.l.length C8])
     (have N8a := (E7.row.apart N8 (by omega))))
  | ((go_at_call 47)
     (refine at_wd (w8.alloc (.cells #[.string (bs x8.op), .string (bs x8.s), .int .i64 x8.n, .int .i64 x8.a, .slice A8 x8.l.length C8] 24)) ?_)
     (refine (rmust_c h8a [44]).mono ?_)
     (rintro e w9 ⟨rfl, i9, b9, s9, t9, T9⟩)
     (rw [sg_eq hG (by decide)] at T9)
     (have E9 := E8a.rst s9)
     (obtain ⟨k9, h9⟩ := Rst.at h8a s9)
     (have z9 := s9.2.2.1.size)
     (have q9 := E9.hq.cell 4)
     (have r9 := E9.hq.lt)
     (have f9 := E9.hq.free 4)
     (have O9 := O8.kp s9.2.2.1 (by omega)))
  | ((go_at_call 78)
     (refine at_wd (w9) ?_)
     (refine (rnumber_c h9 (pexpr d)).mono ?_)
     (rintro e w10 ⟨i10, b10, x10, A10, C10, rfl, N10, s10, T10, l10⟩)
     (have E10 := E9.rst s10)
     (obtain ⟨k10, h10⟩ := Rst.at h9 s10)
     (have z10 := s10.2.2.1.size)
     (have q10 := E10.hq.cell 4)
     (have r10 := E10.hq.lt)
     (have f10 := E10.hq.free 4)
     (have O10 := O9.kp s10.2.2.1 (by omega))
     (simp only [ndc])
     (have cc0 := O10.cell 0)
     (have cc1 := O10.cell 1)
     (have cc2 := O10.cell 2)
     (have cc3 := O10.cell 3)
     (have cc4 := O10.cell 4)
     (have lo10 := O10.lt)
     (have E10a := (E10.alloc (.cells #[.string (bs x10.op), .string (bs x10.s), .int .i64 x10.n, .int .i64 x10.a, .slice A10 x10.l.length C10] 24)).alloc (.cells #[.string (bs x8.op), .string (bs x8.s), .int .i64 x8.n, .int .i64 x8.a, .slice A8 x8.l.length C8, .string (bs x10.op), .string (bs x10.s), .int .i64 x10.n, .int .i64 x10.a, .slice A10 x10.l.length C10] 24))
     (have N10a := (E9.row.apart N10 (by omega)).grow (((Below.refl _ w10).alloc (Nat.le_refl _) (.cells #[.string (bs x10.op), .string (bs x10.s), .int .i64 x10.n, .int .i64 x10.a, .slice A10 x10.l.length C10] 24)).alloc (by simp) (.cells #[.string (bs x8.op), .string (bs x8.s), .int .i64 x8.n, .int .i64 x8.a, .slice A8 x8.l.length C8, .string (bs x10.op), .string (bs x10.s), .int .i64 x10.n, .int .i64 x10.a, .slice A10 x10.l.length C10] 24)))
     (have N8b := (N8a.kp (((Kp.of (b_one w8 (.cells #[.string (bs x8.op), .string (bs x8.s), .int .i64 x8.n, .int .i64 x8.a, .slice A8 x8.l.length C8] 24))).trans s9.2.2.1).trans s10.2.2.1) (fun g hg => by omega)).grow (((Below.refl _ w10).alloc (Nat.le_refl _) (.cells #[.string (bs x10.op), .string (bs x10.s), .int .i64 x10.n, .int .i64 x10.a, .slice A10 x10.l.length C10] 24)).alloc (by simp) (.cells #[.string (bs x8.op), .string (bs x8.s), .int .i64 x8.n, .int .i64 x8.a, .slice A8 x8.l.length C8, .string (bs x10.op), .string (bs x10.s), .int .i64 x10.n, .int .i64 x10.a, .slice A10 x10.l.length C10] 24))))
  | ((refine at_dstL 98 rfl ?_)
     (refine wpList_append_nodes rfl _ _ rfl (w2.heap.size + 1) [x5] _ rfl E10a.row (by simp; omega) (by simp) [x8, x10] [.slice A8 x8.l.length C8, .slice A10 x10.l.length C10] (by simp) (by simp) rfl (one2 _ _ _ _ _ _) (nd2 N8b N10a) (w10.heap.size + 1) rfl (Has.new_at (by simp)) 3 rfl ?_)
     (intro A11 C11 w11 R11 B11)
     (have E11 := E10a.put R11 B11)
     (have u11 := (E10a.hq.below B11 (by omega)).cell 4)
     (have v11 := (E10a.hq.below B11 (by omega)).free 4)
     (have y11 := (E10a.hq.below B11 (by omega)).lt)
     (obtain ⟨k11, h11⟩ := E11.at hR))
  | ((go_at_call 47)
     (refine at_wd (w11.setCell ⟨w2.heap.size, 4, none⟩ (.slice A11 3 C11)) ?_)
     (refine (rmust_c h11 [41]).mono ?_)
     (rintro e w12 ⟨rfl, i12, b12, s12, t12, T12⟩)
     (rw [sg_eq hG (by decide)] at T12)
     (have E12 := E11.rst s12)
     (obtain ⟨k12, h12⟩ := Rst.at h11 s12)
     (have z12 := s12.2.2.1.size)
     (have q12 := E12.hq.cell 4)
     (have r12 := E12.hq.lt)
     (have f12 := E12.hq.free 4)
     (have p12 := E12.hp.lt)
     (have ca0 := E12.hp.cell 0)
     (have ca1 := E12.hp.cell 1)
     (have ca2 := E12.hp.cell 2)
     (have ca3 := E12.hp.cell 3)
     (have ca4 := E12.hp.cell 4)
     (have fa0 := E12.hp.free 0)
     (have fa1 := E12.hp.free 1)
     (have fa2 := E12.hp.free 2)
     (have fa3 := E12.hp.free 3)
     (have fa4 := E12.hp.free 4)
     (have cb0 := E12.hq.cell 0)
     (have cb1 := E12.hq.cell 1)
     (have cb2 := E12.hq.cell 2)
     (have cb3 := E12.hq.cell 3)
     (have cb4 := E12.hq.cell 4))
  )
 refine ret_node rfl rfl (E12.hp.set5 _ _ _ _ _) rfl (fin _ _ ?_)
 refine ⟨i12, b12, .mk wLinear [] 0 (at_ : Nat) [x5, x8, x10], A11, C11, rfl, ?_, Rst.set5 E12.st (Nat.le_refl _) hlt _ _ _ _ _, (tell_par rfl T4 (tell_k3 (ks := .nu) (kt := .nu) T5 T7 T8 T9 T10) T12).map (fun l => Nd.mk wLinear [] 0 (at_ : Nat) l), Nat.le_of_ble_eq_true rfl⟩
 exact (E12.row.done.mono fun g hg => (by omega : w.heap.size ≤ g ∧ g ≠ w.heap.size)).set5 (fun g hg => hg.2) _ _ _ _ _ |>.mono fun g hg => hg.1
end
section
open Go.ChangeShapes Go.WideShapes Go.ChangeAt Go.RowKit
theorem rex_Concat {w : World} {rb : Nat} {A : Option Addr} {C : Nat} {ts : Toks} {i en : Nat} {k : Int} (h : RdrAt w rb A C ts i en 0 k) (hG : Goodt ts) (d N : Nat) (hN : N ≤ 12) (hi : i < ts.length) (hk : ts[i].1.kind = 0) (hs : ts[i].1.s = wConcat)
  (hx : ∀ (w : World) (i : Nat) (bad k : Int), RdrAt w rb A C ts i en bad k → Calls Tryz.prog 48 #[.pointer (some ⟨rb, 0, none⟩), .int .i64 ((N : Int) + 1)] w (RNode w rb A C ts i en bad (pexpr d))) :
  Calls Tryz.prog 48 #[.pointer (some ⟨rb, 0, none⟩), .int .i64 (N : Nat)] w (RNode w rb A C ts i en 0 (pexpr (d + 1))) := by
 have hpx := px_op (d := d) (en := en) hi hk hs (by decide) (by decide)
 have hR := h
 have hlt := h.has.lt
 have hf := h.few
 have hop : ∀ W k, RdrAt W rb A C ts i en 0 k → Calls Tryz.prog 77 #[.pointer (some ⟨rb, 0, none⟩)] W fun e w' => e = .returned (.string ⟨#[99, 111, 110, 99, 97, 116]⟩) ∧ Below W.heap.size W w' := by
  intro W k h
  refine (rop_c h).mono ?_
  rintro e w' ⟨rfl, hb⟩
  refine ⟨?_, hb⟩
  have : firstW OPS (isB 0 ts i) = wConcat := by
   have hb : ∀ s, isB 0 ts i s = (s == wConcat) := by
    intro s
    unfold isB
    rw [comes_at hi]
    unfold isWS
    rw [hk, hs]
    simp only [decide_true, Bool.true_and, beq_self_eq_true, Bool.true_or]
    rw [Bool.eq_iff_iff]
    simp only [beq_iff_eq]
    exact eq_comm
   rw [show isB 0 ts i = fun s => s == wConcat from funext hb]
   decide
  rw [this]
  rfl
 have hpl : ∀ W k, RdrAt W rb A C ts i en 0 k → Calls Tryz.prog 42 #[.pointer (some ⟨rb, 0, none⟩)] W fun e w' => e = .returned (.int .i64 (ts[i].2 : Nat)) ∧ Below W.heap.size W w' := by
  intro W k h
  refine (rplace_c h).mono ?_
  rintro e w' ⟨rfl, q, rfl⟩
  rw [place_at hi]
  exact ⟨rfl, bel_dn (Below.refl _ _) _⟩
 have h0 := h.kp (b_one w (.cells #[.string ⟨#[]⟩, .string ⟨#[]⟩, .int .i64 0, .int .i64 0, .slice none 0 0] 24))
 have hN0 := Has.new w 24 #[.string ⟨#[]⟩, .string ⟨#[]⟩, .int .i64 0, .int .i64 0, .slice none 0 0]
 rw [show (pexpr (d + 1)) = pexpr (d + 1) from rfl]
 have fin : ∀ (e : Ending) (w' : World), RNode w rb A C ts i en 0 (fun _ _ => pexpr (d + 1) en (ts.drop i)) e w' → RNode w rb A C ts i en 0 (pexpr (d + 1)) e w' := fun e w' h => h
 rw [hpx] at fin
 generalize ts[i].2 = at_ at hpl fin
 clear hpx hs hk
 have hi1 : i + 1 ≤ ts.length := by omega
 have hi5 : (i : Int) ≤ 500 := by omega
 go_enter Tryz.func48, Tryz.ntmps48
 go_wp2_with (first
  | ((go_at_call 77)
     (refine (hop _ _ h0).mono ?_)
     (rintro e w1 ⟨rfl, hb1⟩)
     (have h1 := h0.kp hb1)
     (have c1 := h1.has.cell 3)
     (have l1 := h1.has.lt)
     (simp only [ga1, gz1, gs1] at c1))
  | ((go_at_call 42)
     (refine (hpl _ _ h1).mono ?_)
     (rintro e w2 ⟨rfl, hb2⟩)
     (have h2 := h1.kp hb2)
     (have c2 := h2.has.cell 1)
     (have d2 := h2.has.free 1)
     (have l2 := h2.has.lt)
     (simp only [ga1, gz1, gs1] at c2)
     (have N2 := (hN0.below hb1 hN0.lt).below hb2 (hN0.below hb1 hN0.lt).lt)
     (have lp2 := N2.lt)
     (have E3 : ExAt w rb A C ts i en w2.heap.size ⟨#[99, 111, 110, 99, 97, 116]⟩ (at_ : Nat) ((w2.setCell ⟨rb, 1, none⟩ (.int .i64 ((i : Int) + 1))).alloc (.cells #[.string ⟨#[99, 111, 110, 99, 97, 116]⟩, .string ⟨#[]⟩, .int .i64 0, .int .i64 (at_ : Nat), .slice none 0 0] 24)) (i + 1) 0 [] (.slice none 0 0) := ex_start hR hb1 hb2 hi1 hlt)
     (have pq := E3.pq)
     (obtain ⟨k3, h3⟩ := E3.at hR))
  | ((go_at_call 47)
     (refine at_wd ((w2.setCell ⟨rb, 1, none⟩ (.int .i64 ((i : Int) + 1))).alloc (.cells #[.string ⟨#[99, 111, 110, 99, 97, 116]⟩, .string ⟨#[]⟩, .int .i64 0, .int .i64 (at_ : Nat), .slice none 0 0] 24)) ?_)
     (refine (rmust_c h3 [40]).mono ?_)
     (rintro e w4 ⟨rfl, i4, b4, s4, t4, T4⟩)
     (rw [sg_eq hG (by decide)] at T4)
     (have E4 := E3.rst s4)
     (obtain ⟨k4, h4⟩ := Rst.at h3 s4)
     (have z4 := s4.2.2.1.size)
     (have q4 := E4.hq.cell 4)
     (have r4 := E4.hq.lt)
     (have f4 := E4.hq.free 4))
  | ((go_at_call 48)
     (refine at_wd (w4) ?_)
     (refine (hx _ _ _ _ h4).mono ?_)
     (rintro e w5 ⟨i5, b5, x5, A5, C5, rfl, N5, s5, T5, l5⟩)
     (have E5 := E4.rst s5)
     (obtain ⟨k5, h5⟩ := Rst.at h4 s5)
     (have z5 := s5.2.2.1.size)
     (have q5 := E5.hq.cell 4)
     (have r5 := E5.hq.lt)
     (have f5 := E5.hq.free 4)
     (simp only [ndc])
     (have E5a := (E5.alloc (.cells #[.string (bs x5.op), .string (bs x5.s), .int .i64 x5.n, .int .i64 x5.a, .slice A5 x5.l.length C5] 24)).alloc (.cells #[.string (bs x5.op), .string (bs x5.s), .int .i64 x5.n, .int .i64 x5.a, .slice A5 x5.l.length C5] 24))
     (have N5a := (E4.row.apart N5 (by omega)).grow (((Below.refl _ w5).alloc (Nat.le_refl _) (.cells #[.string (bs x5.op), .string (bs x5.s), .int .i64 x5.n, .int .i64 x5.a, .slice A5 x5.l.length C5] 24)).alloc (by simp) (.cells #[.string (bs x5.op), .string (bs x5.s), .int .i64 x5.n, .int .i64 x5.a, .slice A5 x5.l.length C5] 24))))
  | ((refine at_dstL 58 rfl ?_)
     (refine wpList_append_nodes rfl _ _ rfl (w2.heap.size + 1) [] _ rfl E5a.row (by simp; omega) (by decide) [x5] [.slice A5 x5.l.length C5] (by simp) (by simp) rfl (one1 _ _ _) (nd1 N5a) (w5.heap.size + 1) rfl (Has.new_at (by simp)) 1 rfl ?_)
     (intro A6 C6 w6 R6 B6)
     (have E6 := E5a.put R6 B6)
     (have u6 := (E5a.hq.below B6 (by omega)).cell 4)
     (have v6 := (E5a.hq.below B6 (by omega)).free 4)
     (have y6 := (E5a.hq.below B6 (by omega)).lt)
     (obtain ⟨k6, h6⟩ := E6.at hR))
  | ((go_at_call 43)
     (refine at_wd (w6.setCell ⟨w2.heap.size, 4, none⟩ (.slice A6 1 C6)) ?_)
     (refine (ris_any h6 [44]).mono ?_)
     (rintro e w7 ⟨rfl, q7, rfl⟩)
     (have E7 := E6.drewN q7))
  )
 go_loopw [14] (fun z wr => ∃ (ir : Nat) (br : Int) (m : List Nd) (Ar : Option Addr) (Cr : Nat), z = .bool (isB br ts ir [44]) ∧ ExAt w rb A C ts i en w2.heap.size ⟨#[99, 111, 110, 99, 97, 116]⟩ (at_ : Nat) wr ir br (x5 :: m) (.slice Ar (m.length + 1) Cr) ∧ Hid (MoreK (pexpr d) en ts b5 i5 m ir br) ∧ m.length ≤ ir) (fun _ wz => 501 - rpos rb wz)
 case atStart => exact ⟨i5, b5, [], A6, C6, rfl, E7, MoreK.start _ _ _ _ _, Nat.zero_le _⟩
 case round =>
  obtain ⟨ir, br, m, Ar, Cr, rfl, E8, HM, hml⟩ := hrel
  obtain ⟨k8, h8⟩ := E8.at hR
  have l8 := h8.has.lt
  have r8 := E8.hq.lt
  have hw5 : i5 ≤ ts.length := s5.2.1
  cases hc : isB br ts ir [44]
  · have hn := isB_false hc
    have T9 := HM.out.stop (by
     rcases hn with e | e
     · exact .inl e
     · refine .inr ?_
       by_cases hj : ir < ts.length
       · rw [comes_at hj] at e ⊢
         show isSg [44] _ = false
         unfold isSg
         unfold isWS at e
         cases h3 : ts[ir].1.kind == 3 with
         | false => rfl
         | true => rw [h3] at e; simpa using e
       · exact comes_end hj) 501 (by omega)
    have HT9 : Hid (Tell b5 (pmore (pexpr d) 501 en (ts.drop i5)) ts m ir br) := T9
    clear T9 hn HM
    go_wp2_with (first
     | ((go_at_call 47)
        (refine at_wd (wr) ?_)
        (refine (rmust_c h8 [41]).mono ?_)
        (rintro e w10 ⟨rfl, i10, b10, s10, t10, T10⟩)
        (rw [sg_eq hG (by decide)] at T10)
        (have E10 := E8.rst s10)
        (obtain ⟨k10, h10⟩ := Rst.at h8 s10)
        (have z10 := s10.2.2.1.size)
        (have q10 := E10.hq.cell 4)
        (have r10 := E10.hq.lt)
        (have f10 := E10.hq.free 4)
        (have p10 := E10.hp.lt)
        (have ca0 := E10.hp.cell 0)
        (have ca1 := E10.hp.cell 1)
        (have ca2 := E10.hp.cell 2)
        (have ca3 := E10.hp.cell 3)
        (have ca4 := E10.hp.cell 4)
        (have fa0 := E10.hp.free 0)
        (have fa1 := E10.hp.free 1)
        (have fa2 := E10.hp.free 2)
        (have fa3 := E10.hp.free 3)
        (have fa4 := E10.hp.free 4)
        (have cb0 := E10.hq.cell 0)
        (have cb1 := E10.hq.cell 1)
        (have cb2 := E10.hq.cell 2)
        (have cb3 := E10.hq.cell 3)
        (have cb4 := E10.hq.cell 4))
     )
    refine ret_node rfl rfl (E10.hp.set5 _ _ _ _ _) rfl (fin _ _ ?_)
    refine ⟨i10, b10, .mk wConcat [] 0 (at_ : Nat) (x5 :: m), Ar, Cr, rfl, ?_, Rst.set5 E10.st (Nat.le_refl _) hlt _ _ _ _ _, (tell_parm (l := [x5]) rfl T4 (tell_k1 T5) HT9.out T10).map (fun l => Nd.mk wConcat [] 0 (at_ : Nat) l), by show m.length + 1 ≤ 501; have := h8.le; omega⟩
    exact (E10.row.done.mono fun g hg => (by omega : w.heap.size ≤ g ∧ g ≠ w.heap.size)).set5 (fun g hg => hg.2) _ _ _ _ _ |>.mono fun g hg => hg.1
  · obtain ⟨rfl, hj, hp⟩ := isB_true hc
    have E9 := E8.step hj
    obtain ⟨k9, h9⟩ := E9.at hR
    have c8 := h8.has.cell 1
    have d8 := h8.has.free 1
    simp only [ga1, gz1, gs1] at c8
    have hcm : cmm ts[ir].1 = true := by
     show isSg [44] _ = true
     have e := sg_eq hG (c := 44) (by decide) en ir
     rw [List.drop_eq_getElem_cons hj] at e
     simp only [ptake] at e
     rw [if_pos hp] at e
     cases h4 : isSg [44] ts[ir].1 with
     | true => rfl
     | false => rw [h4] at e; cases e
    have HC : Hid (cmm ts[ir].1 = true) := hcm
    have hf5 := hR.few
    have hir : (ir : Int) ≤ 500 := by omega
    have hml2 : m.length ≤ 500 := by omega
    have hE8 := E8.pos
    have HE8 : Hid (rpos rb wr = ir) := hE8
    clear hcm hp hE8
    obtain ⟨M, hM⟩ : ∃ M, M = m.length + 1 := ⟨_, rfl⟩
    have HMM : Hid (M = m.length + 1) := hM
    rw [← hM] at E8 E9
    clear hM
    go_wp2_with (first
     | ((go_at_call 48)
        (refine at_wd (wr.setCell ⟨rb, 1, none⟩ (.int .i64 ((ir : Int) + 1))) ?_)
        (refine (hx _ _ _ _ h9).mono ?_)
        (rintro e w10 ⟨i10, b10, x10, A10, C10, rfl, N10, s10, T10, l10⟩)
        (have E10 := E9.rst s10)
        (obtain ⟨k10, h10⟩ := Rst.at h9 s10)
        (have z10 := s10.2.2.1.size)
        (have q10 := E10.hq.cell 4)
        (have r10 := E10.hq.lt)
        (have f10 := E10.hq.free 4)
        (simp only [ndc])
        (have E10a := (E10.alloc (.cells #[.string (bs x10.op), .string (bs x10.s), .int .i64 x10.n, .int .i64 x10.a, .slice A10 x10.l.length C10] 24)).alloc (.cells #[.string (bs x10.op), .string (bs x10.s), .int .i64 x10.n, .int .i64 x10.a, .slice A10 x10.l.length C10] 24))
        (have N10a := (E9.row.apart N10 (by simp; omega)).grow (((Below.refl _ w10).alloc (Nat.le_refl _) (.cells #[.string (bs x10.op), .string (bs x10.s), .int .i64 x10.n, .int .i64 x10.a, .slice A10 x10.l.length C10] 24)).alloc (by simp) (.cells #[.string (bs x10.op), .string (bs x10.s), .int .i64 x10.n, .int .i64 x10.a, .slice A10 x10.l.length C10] 24))))
     | ((refine at_dstL 79 rfl ?_)
        (refine wpList_append_nodes rfl _ _ rfl (w2.heap.size + 1) (x5 :: m) _ rfl E10a.row (by simp; omega) (by simp; omega) [x10] [.slice A10 x10.l.length C10] (by simp) (by simp) rfl (one1 _ _ _) (nd1 N10a) (w10.heap.size + 1) rfl (Has.new_at (by simp)) (M + 1) (by rw [HMM.out]; simp) ?_)
        (intro A11 C11 w11 R11 B11)
        (have E11 := E10a.put R11 B11)
        (have u11 := (E10a.hq.below B11 (by omega)).cell 4)
        (have v11 := (E10a.hq.below B11 (by omega)).free 4)
        (have y11 := (E10a.hq.below B11 (by omega)).lt)
        (obtain ⟨k11, h11⟩ := E11.at hR))
     | ((go_at_call 43)
        (refine (ris_any h11 [44]).mono ?_)
        (rintro e w12 ⟨rfl, q12, rfl⟩)))
    go_roundw
    case rel =>
     refine ⟨i10, b10, m ++ [x10], A11, C11, rfl, ?_, HM.out.next hj HC.out T10 s10.1, ?_⟩
     · have e : M + 1 = (m ++ [x10]).length + 1 := by rw [HMM.out]; simp
       rw [← e]
       exact E11.drewN q12
     · have := s10.1
       simp
       omega
    case measure =>
     have e1 := (E11.drewN q12).pos
     have e2 := HE8.out
     have := s10.1
     rw [e1, e2]
     omega
end
end Go.Proofs.YthndifegfmjpbaaGreatDoor
