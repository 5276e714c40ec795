/- Texts that the statements of this stage share, joined: PsParts, PsPartsW, BasChain, PsExpr, PsStmtA, PsStDevice. -/
import Derived.Test.YtpckmllmjdafpaaGreatDoorJoint04
import Derived.Test.YtpckmllmjdafpaaGreatDoorJoint01

/- The parentheses of an expr. -/
namespace Go.Proofs.YtpckmllmjdafpaaGreatDoor
open Go.ChangeShapes Go.WideShapes Go.ChangeAt Go.RowKit
set_option linter.unusedVariables false

theorem sgn_take (x : List UInt8) {W : World} {pb en : Nat} {ts : Toks} (h : PAt W pb ts en) : Calls Tryz.prog 66 #[.pointer (some ⟨pb, 0, none⟩), .func (.func 87) #[] #[.pointer (some ⟨W.heap.size, 0, none⟩)]] (W.alloc (.cells #[.string (bs x)] 9)) (TRes W pb en (ptake (isSg x) en ts)) := by
  have hlt := h.lt
  refine (take_c (h.new _) (Ask.sg W.heap.size x (by omega) (Has.new _ _ _))).mono fun e w' ⟨hk, hr⟩ => ⟨kp_new (b_one _ _) hk, hr⟩

def pre (l : List Nd) : PR (List Nd) → PR (List Nd)
  | .error e => .error e
  | .ok (m, r) => .ok (l ++ m, r)

theorem pre_nil (R : PR (List Nd)) : pre [] R = R := by cases R with
  | error e => rfl
  | ok x => obtain ⟨m, r⟩ := x; rfl

theorem pre_pre (l m : List Nd) (R : PR (List Nd)) : pre l (pre m R) = pre (l ++ m) R := by cases R with
  | error e => rfl
  | ok x => obtain ⟨k, r⟩ := x; simp [pre]

/-- The kinds from number i on. -/
def kfrom (pe : Par Nd) (ks : List Kd) (i : Nat) : Par (List Nd) := pkinds pe (decide (i = 0)) (ks.drop i)

theorem kfrom_end {pe : Par Nd} {ks : List Kd} (h : 0 < ks.length) (en : Nat) (ts : Toks) : kfrom pe ks ks.length en ts = .ok ([], ts) := by
  unfold kfrom
  rw [List.drop_length]
  cases decide (ks.length = 0) <;> rfl

theorem kfrom_zero {pe : Par Nd} {ks : List Kd} (h : 0 < ks.length) (en : Nat) (ts : Toks) : kfrom pe ks 0 en ts = match ppart pe (ks[0]'h) en ts with | .error e => .error e | .ok (n, r) => pre [n] (kfrom pe ks 1 en r) := by
  cases ks with
  | nil => simp at h
  | cons k ks =>
    show pbind (ppart pe k) _ en ts = _
    unfold pbind
    simp only [List.getElem_cons_zero]
    cases ppart pe k en ts with
    | error e => rfl
    | ok x =>
      obtain ⟨n, r⟩ := x
      show pbind (pkinds pe false ks) _ en r = pre [n] (pkinds pe false ks en r)
      unfold pbind
      cases pkinds pe false ks en r with
      | error e => rfl
      | ok y => obtain ⟨m, r'⟩ := y; rfl

theorem kfrom_succ {pe : Par Nd} {ks : List Kd} {i : Nat} (hi : i ≠ 0) (h : i < ks.length) (en : Nat) (ts : Toks) : kfrom pe ks i en ts = match ptake cmm en ts with | .error e => .error e | .ok (_, r') => match ppart pe ks[i] en r' with | .error e => .error e | .ok (n, r) => pre [n] (kfrom pe ks (i + 1) en r) := by
  unfold kfrom
  rw [decide_eq_false hi, decide_eq_false (by omega), List.drop_eq_getElem_cons h]
  show pbind (ptake cmm) _ en ts = _
  unfold pbind
  cases ptake cmm en ts with
  | error e => rfl
  | ok x =>
    obtain ⟨t, r'⟩ := x
    simp only
    cases ppart pe ks[i] en r' with
    | error e => rfl
    | ok y =>
      obtain ⟨n, r⟩ := y
      simp only
      cases pkinds pe false (ks.drop (i + 1)) en r with
      | error e => rfl
      | ok z => obtain ⟨m, r''⟩ := z; rfl

theorem more_step {pe : Par Nd} (f en : Nat) {ts : Toks} (h : pcomes cmm ts = true) : pmore pe (f + 1) en ts = match ptake cmm en ts with | .error e => .error e | .ok (_, r') => match pe en r' with | .error e => .error e | .ok (n, r) => pre [n] (pmore pe f en r) := by
  show pif cmm _ _ en ts = _
  unfold pif
  rw [if_pos h]
  unfold pbind
  cases ptake cmm en ts with
  | error e => rfl
  | ok x =>
    obtain ⟨t, r'⟩ := x
    simp only
    cases pe en r' with
    | error e => rfl
    | ok y =>
      obtain ⟨n, r⟩ := y
      simp only
      cases pmore pe f en r with
      | error e => rfl
      | ok z => obtain ⟨m, r''⟩ := z; rfl

theorem more_end {pe : Par Nd} (f en : Nat) {ts : Toks} (h : pcomes cmm ts = false) : pmore pe (f + 1) en ts = .ok ([], ts) := by
  show pif cmm _ _ en ts = _
  unfold pif
  rw [if_neg (by rw [h]; decide)]
  rfl

/-- What is left behind the kinds. -/
def pend (pe : Par Nd) (op : List UInt8) (l : List Nd) : Par (List Nd) := pbind (if (inside op).2 then pmore pe 501 else pret []) fun m => pbind (ptake (isSg [41])) fun _ => pret (l ++ m)

theorem parts_open {pe : Par Nd} {op : List UInt8} {en : Nat} {ts : Toks} {e : Nat × Nat} (h : ptake (isSg [40]) en ts = .error e) : pparts pe op en ts = .error e := by
  unfold pparts pbind
  rw [h]

theorem parts_kinds {pe : Par Nd} {op : List UInt8} {en : Nat} {ts r : Toks} {t : Tk × Nat} (h : ptake (isSg [40]) en ts = .ok (t, r)) : pparts pe op en ts = match kfrom pe (inside op).1 0 en r with | .error e => .error e | .ok (l, r') => pend pe op l en r' := by
  unfold pparts
  show pbind _ _ en ts = _
  rw [pbind, h]
  show pbind (kfrom pe (inside op).1 0) (fun l => pend pe op l) en r = _
  unfold pbind
  cases kfrom pe (inside op).1 0 en r with
  | error e => rfl
  | ok x => obtain ⟨l, r'⟩ := x; rfl

theorem ptake_shorter {p : Tk → Bool} {en : Nat} {ts r : Toks} {t : Tk × Nat} (h : ptake p en ts = .ok (t, r)) : ts.length = r.length + 1 := by
  cases ts with
  | nil => cases h
  | cons u ts =>
    simp only [ptake] at h
    split at h
    · cases h; rfl
    · cases h

theorem shorter {P : Par Nd} (hP : Stable P) {en : Nat} {ts r : Toks} {n : Nd} (h : P en ts = .ok (n, r)) : r.length ≤ ts.length := by
  obtain ⟨q, e, _⟩ := (hP en ts).1 n r h
  rw [e, List.length_append]
  omega

theorem inside_len (op : List UInt8) : (inside op).1.length ≤ 3 := by
  unfold inside
  split
  · decide
  · split
    · decide
    · split
      · decide
      · split <;> decide

theorem inside_more {op : List UInt8} (h : (inside op).2 = true) : (inside op).1 = [.ex] := by
  unfold inside at h ⊢
  repeat' split at h
  all_goals first | cases h | skip
  rename_i h1 h2
  rw [if_neg h1, if_pos h2]
end Go.Proofs.YtpckmllmjdafpaaGreatDoor

/- The parentheses of an expr, walked. -/
namespace Go.Proofs.YtpckmllmjdafpaaGreatDoor
open Go.ChangeShapes Go.WideShapes Go.ChangeAt Go.RowKit
set_option linter.unusedVariables false

/-- Where parts stands behind i kinds. -/
structure KAt (w1 wr : World) (pb en : Nat) (pe : Par Nd) (ks : List Kd) (ts1 : Toks) (i : Nat) (l : List Nd) (v : Value) (ts : Toks) : Prop where
  le : i ≤ ks.length
  len : l.length = i
  row : NRow wr w1.heap.size l v
  at_ : PAt wr pb ts en
  kp : Kp pb w1 wr
  eq : kfrom pe ks 0 en ts1 = pre l (kfrom pe ks i en ts)

/-- Where it stands behind the kinds and m more. -/
structure MAt (w1 wr : World) (pb en q : Nat) (pe : Par Nd) (ts2 : Toks) (l m : List Nd) (v : Value) (ts : Toks) (f : Nat) : Prop where
  row : NRow wr w1.heap.size (l ++ m) v
  at_ : PAt wr pb ts en
  kp : Kp pb w1 wr
  has : Has wr q 9 #[.string ⟨#[44]⟩]
  fuel : ts.length < f
  len : (l ++ m).length + ts.length ≤ 510
  eq : pmore pe 501 en ts2 = pre m (pmore pe f en ts)

/-- How many tokens are left. -/
def pleft (pb : Nat) (w : World) : Nat := match w.cell? ⟨pb, 0, none⟩ with
  | some (.slice _ L _) => L
  | _ => 0

theorem PAt.left {w : World} {pb en : Nat} {ts : Toks} (h : PAt w pb ts en) : pleft pb w = ts.length := by
  obtain ⟨A, C, hH, _⟩ := h
  unfold pleft
  rw [hH.cell 0]
  rfl

theorem parts_bad {pe : Par Nd} {op : List UInt8} {en : Nat} {ts ts1 : Toks} {e : Nat × Nat} (h1 : pparts pe op en ts = match kfrom pe (inside op).1 0 en ts1 with | .error e => .error e | .ok (l, r') => pend pe op l en r') (h2 : kfrom pe (inside op).1 0 en ts1 = .error e) : pparts pe op en ts = .error e := by
  rw [h1, h2]

theorem parts_end {pe : Par Nd} {op : List UInt8} {en : Nat} {ts ts1 r : Toks} {l : List Nd} (h1 : pparts pe op en ts = match kfrom pe (inside op).1 0 en ts1 with | .error e => .error e | .ok (l, r') => pend pe op l en r') (h2 : kfrom pe (inside op).1 0 en ts1 = .ok (l, r)) : pparts pe op en ts = pend pe op l en r := by
  rw [h1, h2]

theorem pend_no {pe : Par Nd} {op : List UInt8} {l : List Nd} {en : Nat} {ts : Toks} (h : (inside op).2 = false) : pend pe op l en ts = match ptake (isSg [41]) en ts with | .error e => .error e | .ok (_, r) => .ok (l, r) := by
  unfold pend pbind
  rw [h]
  simp only [Bool.false_eq_true, if_false, pret]
  cases ptake (isSg [41]) en ts with
  | error e => rfl
  | ok x => simp

theorem pend_bad {pe : Par Nd} {op : List UInt8} {l : List Nd} {en : Nat} {ts : Toks} {e : Nat × Nat} (h : (inside op).2 = true) (h2 : pmore pe 501 en ts = .error e) : pend pe op l en ts = .error e := by
  unfold pend pbind
  rw [h]
  simp only [if_true, h2]

theorem pend_ok {pe : Par Nd} {op : List UInt8} {l m : List Nd} {en : Nat} {ts r : Toks} (h : (inside op).2 = true) (h2 : pmore pe 501 en ts = .ok (m, r)) : pend pe op l en ts = match ptake (isSg [41]) en r with | .error e => .error e | .ok (_, r) => .ok (l ++ m, r) := by
  unfold pend pbind
  rw [h]
  simp only [if_true, h2]
  cases ptake (isSg [41]) en r with
  | error e => rfl
  | ok x => rfl

theorem Strs.get {w : World} {A : Option Addr} {L C : Nat} {ks : List Kd} (h : Strs w (.slice A L C) (kw ks)) : L = ks.length ∧ L ≤ C ∧ (0 < ks.length → C ≤ ks.length) ∧ ∀ i (hi : i < ks.length), ∃ g, A = some ⟨g, 0, none⟩ ∧ w.cell? ⟨g, i, none⟩ = some (.string (bs ks[i].w)) := by
  rcases h with ⟨h, e⟩ | ⟨g, e, h⟩
  · cases e
    have : ks = [] := by cases ks with
      | nil => rfl
      | cons a b => simp [kw] at h
    subst this
    exact ⟨rfl, Nat.le_refl _, fun h => Nat.zero_le _, fun i hi => by simp at hi⟩
  · simp only [kw, List.length_map] at e
    cases e
    refine ⟨rfl, Nat.le_refl _, fun _ => Nat.le_refl _, fun i hi => ⟨g, rfl, ?_⟩⟩
    rw [h.cell]
    simp [kw, hi]

set_option maxRecDepth 100000 in
set_option maxHeartbeats 4000000 in
theorem parts_c (d N : Nat) (pb en : Nat) (op : List UInt8) (w : World) (ts : Toks) (h : PAt w pb ts en) (hN : N ≤ 12) (hpos : 0 < (inside op).1.length)
    (hx : ∀ W ts, PAt W pb ts en → Calls Tryz.prog 70 #[.pointer (some ⟨pb, 0, none⟩), .int .i64 ((N + 1 : Nat) : Int)] W (PRes W pb en (pexpr d en ts))) :
    Calls Tryz.prog 89 #[.pointer (some ⟨pb, 0, none⟩), .string (bs op), .int .i64 (N : Nat)] w (LRes w pb en (pparts (pexpr d) op en ts)) := by
  have hlt := h.lt
  have hst := fun {e t ts r} => shorter (expr_stable d) (en := e) (n := t) (ts := ts) (r := r)
  have hpt : ∀ k W ts, PAt W pb ts en → Calls Tryz.prog 104 #[.pointer (some ⟨pb, 0, none⟩), .string (bs (Kd.w k)), .int .i64 ((N : Int) + 1)] W (PRes W pb en (ppart (pexpr d) k en ts)) := by
    intro k W ts h
    have := part_c d (N + 1) pb en k W ts h (by omega) hx
    rw [show (((N + 1 : Nat)) : Int) = (N : Int) + 1 by omega] at this
    exact this
  generalize hpe : pexpr d = pe at hpt hst ⊢
  clear hpe hx
  have hin := inside_c op w
  have ht40 : ∀ W, PAt W pb ts en → Calls Tryz.prog 66 #[.pointer (some ⟨pb, 0, none⟩), .func (.func 87) #[] #[.pointer (some ⟨W.heap.size, 0, none⟩)]] (W.alloc (.cells #[.string ⟨#[40]⟩] 9)) (TRes W pb en (ptake (isSg [40]) en ts)) := fun W h => sgn_take [40] h
  have ht41 : ∀ W ts, PAt W pb ts en → Calls Tryz.prog 66 #[.pointer (some ⟨pb, 0, none⟩), .func (.func 87) #[] #[.pointer (some ⟨W.heap.size, 0, none⟩)]] (W.alloc (.cells #[.string ⟨#[41]⟩] 9)) (TRes W pb en (ptake (isSg [41]) en ts)) := fun W ts h => sgn_take [41] h
  have ht44 : ∀ W ts, PAt W pb ts en → Calls Tryz.prog 66 #[.pointer (some ⟨pb, 0, none⟩), .func (.func 87) #[] #[.pointer (some ⟨W.heap.size, 0, none⟩)]] (W.alloc (.cells #[.string ⟨#[44]⟩] 9)) (TRes W pb en (ptake cmm en ts)) := fun W ts h => sgn_take [44] h
  have hs40 : ∀ W, Calls Tryz.prog 69 #[.string ⟨#[40]⟩] W fun e w' => e = .returned (.func (.func 87) #[] #[.pointer (some ⟨W.heap.size, 0, none⟩)]) ∧ w' = W.alloc (.cells #[.string ⟨#[40]⟩] 9) := fun W => isSign_c [40] W
  have hs41 : ∀ W, Calls Tryz.prog 69 #[.string ⟨#[41]⟩] W fun e w' => e = .returned (.func (.func 87) #[] #[.pointer (some ⟨W.heap.size, 0, none⟩)]) ∧ w' = W.alloc (.cells #[.string ⟨#[41]⟩] 9) := fun W => isSign_c [41] W
  have hs44 : ∀ W, Calls Tryz.prog 69 #[.string ⟨#[44]⟩] W fun e w' => e = .returned (.func (.func 87) #[] #[.pointer (some ⟨W.heap.size, 0, none⟩)]) ∧ w' = W.alloc (.cells #[.string ⟨#[44]⟩] 9) := fun W => isSign_c [44] W
  cases hT : ptake (isSg [40]) en ts with
  | error r =>
    obtain ⟨c, q⟩ := r
    have HE := parts_open (pe := pe) (op := op) hT
    rw [hT] at ht40
    rw [HE]
    clear hT HE
    go_enter Tryz.func89, Tryz.ntmps89
    go_wp2_with (first
      | (go_at_call 57; refine hin.mono ?_; rintro e w1 ⟨v, rfl, hb1, hs1⟩)
      | (go_at_call 69; refine (hs40 _).mono ?_; rintro e w2 ⟨rfl, rfl⟩)
      | (go_at_call 66; refine (ht40 _ (h.below hb1)).mono ?_; rintro e w3 ⟨hk3, rfl⟩))
    exact ⟨rfl, kp_new hb1 hk3, rfl⟩
  | ok r =>
    obtain ⟨t, ts1⟩ := r
    have HE : Hid _ := parts_kinds (pe := pe) (op := op) hT
    rw [hT] at ht40
    clear hT
    obtain ⟨K, hK⟩ : ∃ K, K = (inside op).1.length := ⟨_, rfl⟩
    have HK : Hid (K = (inside op).1.length) := hK
    have hK0 : 0 < K := by omega
    have hK3 : K ≤ 3 := by rw [hK]; exact inside_len op
    generalize hB : (inside op).2 = B at hin
    have HB : Hid ((inside op).2 = B) := hB
    clear hK hB
    go_enter Tryz.func89, Tryz.ntmps89
    go_wp2_with (first
      | ((go_at_call 57)
         (refine hin.mono ?_)
         (rintro e w1 ⟨v, rfl, hb1, hs1⟩)
         (obtain ⟨A8, L8, C8, rfl⟩ : ∃ A L C, v = .slice A L C := by (rcases hs1 with ⟨_, rfl⟩ | ⟨g, rfl, _⟩ <;> exact ⟨_, _, _, rfl⟩))
         (obtain ⟨e8, l8, c8, g8⟩ := hs1.get)
         (rw [← HK.out] at e8)
         (have e8' := e8.symm)
         (subst e8'))
      | (go_at_call 69; refine (hs40 _).mono ?_; rintro e w2 ⟨rfl, rfl⟩)
      | (go_at_call 66; refine (ht40 _ (h.below hb1)).mono ?_; rintro e w3 ⟨hk3, rfl, hp3⟩))
    have hlt1 : pb < w1.heap.size := Nat.lt_of_lt_of_le hlt hb1.size
    have hne8 : ∀ g, A8 = some ⟨g, 0, none⟩ → g ≠ pb := by
      rintro g rfl
      obtain ⟨cs, hcs⟩ := (h.below hb1).has
      rcases hs1 with ⟨_, e⟩ | ⟨g', e, hg'⟩
      · cases e
      · cases e
        exact Has.ne hg' hcs (by decide)
    have hs1' : ∀ W, Kp pb w1 W → Strs W (.slice A8 K C8) (kw (inside op).1) := fun W hk => hs1.kp hk (fun e => by
      cases A8 with
      | none => cases e
      | some a =>
        rcases hs1 with ⟨_, e'⟩ | ⟨g', e', hg'⟩
        · cases e'
        · cases e'
          cases e
          exact hne8 _ rfl rfl)
    have hA0 : KAt w1 w3 pb en pe (inside op).1 ts1 0 [] (.slice none 0 0) ts1 := ⟨Nat.zero_le _, rfl, NRow.nil _ _, hp3, hk3, (pre_nil _).symm⟩
    obtain ⟨g, rfl, -⟩ := g8 0 hpos
    clear hk3 hp3 g8 ht40 hs40 hin hs1 hne8 h
    go_loopw [7, 23] (fun v z wr => ∃ (i : Nat) (l : List Nd) (ts' : Toks), i ≤ K ∧ z = .int .i64 (i : Nat) ∧ KAt w1 wr pb en pe (inside op).1 ts1 i l v ts') (fun _ z _ => K - (intOf z).toNat)
    case atStart => exact ⟨0, [], ts1, Nat.zero_le _, rfl, hA0⟩
    case round =>
      clear hA0
      obtain ⟨i, l, ts', hi, rfl, hA⟩ := hrel
      obtain ⟨-, hlen, hrow, hat, hkp, heq⟩ := id hA
      have hbz := hkp.size
      obtain ⟨A7, C7, rfl⟩ := hrow.slice
      by_cases hiK : i < K
      · have hiK' : i < (inside op).1.length := by rw [← HK.out]; exact hiK
        obtain ⟨g', e', hc⟩ := (hs1' wr hkp).get.2.2.2 i hiK'
        cases e'
        obtain ⟨k, hk⟩ : ∃ k, k = (inside op).1[i] := ⟨_, rfl⟩
        rw [← hk] at hc
        have hlw : l.length ≤ 1000 := by omega
        have HLn : Hid (l.length = i) := hlen
        clear hlen
        by_cases h0 : i = 0
        · have e0 := kfrom_zero (pe := pe) hpos en ts'
          have hk0 : (inside op).1[0] = k := by rw [hk]; simp [h0]
          rw [hk0] at e0
          have e0 : kfrom pe (inside op).1 i en ts' = match ppart pe k en ts' with | .error e => .error e | .ok (n, r) => pre [n] (kfrom pe (inside op).1 (i + 1) en r) := by rw [h0]; exact e0
          have h0' : ¬ (0 : Int) < (i : Int) := by omega
          clear h0
          cases hP : ppart pe k en ts' with
          | error r =>
            obtain ⟨c, q⟩ := r
            rw [hP] at e0
            rw [e0] at heq
            have HR : Hid (pparts pe op en ts = .error (c, q)) := parts_bad HE.out heq
            have hpk := hpt k wr ts' hat
            rw [hP] at hpk
            clear hP e0 heq hk hk0 hA HE
            go_wp2_with (first
              | (go_at_call 104; refine hpk.mono ?_; rintro e w5 ⟨hk5, rfl⟩))
            exact ⟨rfl, (kp_new hb1 hkp).trans hk5, by rw [HR.out]⟩
          | ok r =>
            obtain ⟨n, r⟩ := r
            rw [hP] at e0
            simp only at e0
            rw [e0, pre_pre] at heq
            have HQ : Hid _ := heq
            have hpk := hpt k wr ts' hat
            rw [hP] at hpk
            clear hP e0 heq hk hk0 hA HE
            go_wp2_with (first
              | ((go_at_call 104)
                 (refine hpk.mono ?_)
                 (rintro e w5 ⟨hk5, A5, C5, rfl, hn5, hp5⟩)
                 (obtain ⟨hrw, hnw, hbw⟩ := row_then hrow hk5 hlt1 hbz hn5 (.cells (ndc n (.slice A5 n.l.length C5)) 24))
                 (unfold ndc))
              | ((refine at_dstL 40 rfl ?_)
                 (refine wpList_append_node rfl _ _ rfl w1.heap.size l _ rfl hrw hbw hlw n A5 _ C5 hnw w5.heap.size rfl (Has.new _ _ _) ?_)
                 (intro v6 w6 hr6 hb6 hg6)))
            go_roundw
            case rel => exact ⟨i + 1, _, r, by omega, by go_num, ⟨hiK', by simp [HLn.out], hr6, (hp5.new _).low hb6 hlt1, kp_below ((hkp.trans hk5).alloc _) hb6, HQ.out⟩⟩
            case measure => simp [intOf]; omega
        · have e0 := kfrom_succ (pe := pe) h0 hiK' en ts'
          rw [← hk] at e0
          have h0' : (0 : Int) < (i : Int) := by omega
          cases hT : ptake cmm en ts' with
          | error r =>
            obtain ⟨c, q⟩ := r
            rw [hT] at e0
            rw [e0] at heq
            have HR : Hid (pparts pe op en ts = .error (c, q)) := parts_bad HE.out heq
            have htk := ht44 wr ts' hat
            rw [hT] at htk
            clear hT e0 heq hk hA HE h0
            go_wp2_with (first
              | (go_at_call 69; refine (hs44 _).mono ?_; rintro e w2 ⟨rfl, rfl⟩)
              | (go_at_call 66; refine htk.mono ?_; rintro e w5 ⟨hk5, rfl⟩))
            exact ⟨rfl, (kp_new hb1 hkp).trans hk5, by rw [HR.out]⟩
          | ok r =>
            obtain ⟨t, r'⟩ := r
            rw [hT] at e0
            simp only at e0
            have htk := ht44 wr ts' hat
            rw [hT] at htk
            have hpk := fun W h => hpt k W r' h
            cases hP : ppart pe k en r' with
            | error r =>
              obtain ⟨c, q⟩ := r
              rw [hP] at e0 hpk
              rw [e0] at heq
              have HR : Hid (pparts pe op en ts = .error (c, q)) := parts_bad HE.out heq
              clear hT e0 heq hk hA HE h0 hP
              go_wp2_with (first
                | (go_at_call 69; refine (hs44 _).mono ?_; rintro e w2 ⟨rfl, rfl⟩)
                | (go_at_call 66; refine htk.mono ?_; rintro e w5 ⟨hk5, rfl, hp5⟩)
                | (go_at_call 104; refine (hpk _ hp5).mono ?_; rintro e w6 ⟨hk6, rfl⟩))
              exact ⟨rfl, ((kp_new hb1 hkp).trans hk5).trans hk6, by rw [HR.out]⟩
            | ok r =>
              obtain ⟨n, r⟩ := r
              rw [hP] at e0 hpk
              simp only at e0
              rw [e0, pre_pre] at heq
              have HQ : Hid _ := heq
              clear hT e0 heq hk hA HE h0 hP
              go_wp2_with (first
                | (go_at_call 69; refine (hs44 _).mono ?_; rintro e w2 ⟨rfl, rfl⟩)
                | (go_at_call 66; refine htk.mono ?_; rintro e w4 ⟨hk4, rfl, hp4⟩)
                | ((go_at_call 104)
                   (refine (hpk _ hp4).mono ?_)
                   (rintro e w5 ⟨hk5, A5, C5, rfl, hn5, hp5⟩)
                   (have hz4 := hk4.size)
                   (obtain ⟨hrw, hnw, hbw⟩ := row_then hrow (hk4.trans hk5) hlt1 hbz (hn5.mono (fun g hg => by omega)) (.cells (ndc n (.slice A5 n.l.length C5)) 24))
                   (unfold ndc))
                | ((refine at_dstL 40 rfl ?_)
                   (refine wpList_append_node rfl _ _ rfl w1.heap.size l _ rfl hrw hbw hlw n A5 _ C5 hnw w5.heap.size rfl (Has.new _ _ _) ?_)
                   (intro v6 w6 hr6 hb6 hg6)))
              go_roundw
              case rel => exact ⟨i + 1, _, r, by omega, by go_num, ⟨hiK', by simp [HLn.out], hr6, (hp5.new _).low hb6 hlt1, kp_below (((hkp.trans hk4).trans hk5).alloc _) hb6, HQ.out⟩⟩
              case measure => simp [intOf]; omega
      · have hiK2 : i = K := by omega
        subst hiK2
        have hend : kfrom pe (inside op).1 0 en ts1 = .ok (l, ts') := by
          rw [heq]
          have := kfrom_end (pe := pe) hpos en ts'
          rw [← HK.out] at this
          rw [this]
          simp [pre]
        have H2 : Hid (pparts pe op en ts = pend pe op l en ts') := parts_end HE.out hend
        have hlw : l.length ≤ 3 := by omega
        have h500 := hat.len
        clear hend heq hlen hA HE
        cases B with
        | false =>
          have hpn := pend_no (pe := pe) (l := l) (en := en) (ts := ts') HB.out
          have htk := fun o => ht41 (wr.alloc o) ts' (hat.new o)
          cases hT : ptake (isSg [41]) en ts' with
          | error r =>
            obtain ⟨c, q⟩ := r
            rw [hT] at hpn htk
            have HR : Hid (pparts pe op en ts = .error (c, q)) := H2.out.trans hpn
            clear hT hpn H2
            go_wp2_with (first
              | (go_at_call 69; refine (hs44 _).mono ?_; rintro e w2 ⟨rfl, rfl⟩))
            obtain ⟨W, hW⟩ : ∃ W, W = wr.alloc (.cells #[.string ⟨#[44]⟩] 9) := ⟨_, rfl⟩
            have htk := htk (.cells #[.string ⟨#[44]⟩] 9)
            rw [← hW] at htk ⊢
            have hbW : Below wr.heap.size wr W := by rw [hW]; exact b_one _ _
            clear hW
            go_loopw [7] (fun v wz => v = .slice A7 l.length C7 ∧ wz = W) (fun _ _ => 0)
            case atStart => exact ⟨rfl, rfl⟩
            case round =>
              obtain ⟨rfl, rfl⟩ := hrel
              go_wp2_with (first
                | (go_at_call 69; refine (hs41 _).mono ?_; rintro e w2 ⟨rfl, rfl⟩)
                | (go_at_call 66; refine htk.mono ?_; rintro e w5 ⟨hk5, rfl⟩))
              exact ⟨rfl, (kp_new hb1 hkp).trans (kp_new hbW hk5), by rw [HR.out]⟩
          | ok r =>
            obtain ⟨t, r⟩ := r
            rw [hT] at hpn htk
            have HR : Hid (pparts pe op en ts = .ok (l, r)) := H2.out.trans hpn
            clear hT hpn H2
            go_wp2_with (first
              | (go_at_call 69; refine (hs44 _).mono ?_; rintro e w2 ⟨rfl, rfl⟩))
            obtain ⟨W, hW⟩ : ∃ W, W = wr.alloc (.cells #[.string ⟨#[44]⟩] 9) := ⟨_, rfl⟩
            have htk := htk (.cells #[.string ⟨#[44]⟩] 9)
            rw [← hW] at htk ⊢
            have hbW : Below wr.heap.size wr W := by rw [hW]; exact b_one _ _
            clear hW
            go_loopw [7] (fun v wz => v = .slice A7 l.length C7 ∧ wz = W) (fun _ _ => 0)
            case atStart => exact ⟨rfl, rfl⟩
            case round =>
              obtain ⟨rfl, rfl⟩ := hrel
              go_wp2_with (first
                | (go_at_call 69; refine (hs41 _).mono ?_; rintro e w2 ⟨rfl, rfl⟩)
                | (go_at_call 66; refine htk.mono ?_; rintro e w5 ⟨hk5, rfl, hp5⟩))
              go_ret
              have hkz := kp_new hbW hk5
              refine ⟨(kp_new hb1 hkp).trans hkz, ?_⟩
              rw [HR.out]
              exact ⟨A7, C7, rfl, (hrow.kp hkz hlt1).done.mono (fun g hg => Nat.le_trans hb1.size hg), hp5⟩
        | true =>
          have hk1 := inside_more HB.out
          have hK1 : i = 1 := by rw [HK.out, hk1]; rfl
          have hcs := hs1' 
          rw [hk1] at hcs
          have hpx := hpt .ex
          have hpx : ∀ W ts, PAt W pb ts en → Calls Tryz.prog 104 #[.pointer (some ⟨pb, 0, none⟩), .string (bs wExpr), .int .i64 ((N : Int) + 1)] W (PRes W pb en (pe en ts)) := hpx
          have h1n := fun e => pend_bad (pe := pe) (l := l) (en := en) (ts := ts') (e := e) HB.out
          have h1y := fun m r => pend_ok (pe := pe) (l := l) (m := m) (en := en) (ts := ts') (r := r) HB.out
          simp only [← H2.out] at h1n
          simp only [← H2.out] at h1y
          have hcl : ∀ W, Kp pb w1 W → W.cell? ⟨g, 0, none⟩ = some (.string (bs wExpr)) := by
            intro W hk
            obtain ⟨g', e', hc⟩ := (hcs W hk).get.2.2.2 0 (by decide)
            cases e'
            exact hc
          clear hk1 hs1' hpt hpos hcs H2
          go_wp2_with (first
            | (go_at_call 69; refine (hs44 _).mono ?_; rintro e w2 ⟨rfl, rfl⟩))
          obtain ⟨W, hW⟩ : ∃ W, W = wr.alloc (.cells #[.string ⟨#[44]⟩] 9) := ⟨_, rfl⟩
          have hbW : Below wr.heap.size wr W := by rw [hW]; exact b_one _ _
          have hqH : Has W wr.heap.size 9 #[.string ⟨#[44]⟩] := by rw [hW]; exact Has.new _ _ _
          have hqb : wr.heap.size ≠ pb := by have := hat.lt; omega
          rw [← hW]
          obtain ⟨q, hq⟩ : ∃ q, q = wr.heap.size := ⟨_, rfl⟩
          rw [← hq] at hqH hqb ⊢
          have hM0 : MAt w1 W pb en q pe ts' l [] (.slice A7 l.length C7) ts' 501 := ⟨by rw [List.append_nil]; exact hrow.kp (Kp.of hbW) hlt1, hat.below hbW, hkp.trans (Kp.of hbW), hqH, by omega, by simp; omega, (pre_nil _).symm⟩
          clear hq hW hbW hqH hat hrow hkp hbz hs44 ht44
          go_loopw [7] (fun v wz => ∃ (m : List Nd) (ts2 : Toks) (f : Nat), MAt w1 wz pb en q pe ts' l m v ts2 f) (fun _ wz => pleft pb wz)
          case atStart => exact ⟨[], ts', 501, hM0⟩
          case round =>
            clear hM0
            obtain ⟨m, ts2, f, hrow, hat, hkp, hhas, hfuel, hml, heq⟩ := hrel
            have hbz := hkp.size
            have hleft := hat.left
            have hcc := hcl wr hkp
            obtain ⟨A9, C9, rfl⟩ := hrow.slice
            obtain ⟨f, rfl⟩ : ∃ f', f = f' + 1 := ⟨f - 1, by omega⟩
            have hask : Ask wr pb (.func (.func 87) #[] #[.pointer (some ⟨q, 0, none⟩)]) cmm := Ask.sg q [44] hqb hhas
            have hcm := comes_c hat hask
            obtain ⟨M, hM⟩ : ∃ M, M = (l ++ m).length := ⟨_, rfl⟩
            rw [← hM]
            have HM : Hid (M = (l ++ m).length) := hM
            clear hM
            cases hC : pcomes cmm ts2 with
            | false =>
              rw [more_end f en hC] at heq
              rw [hC] at hcm
              have heq : pmore pe 501 en ts' = .ok (m, ts2) := by rw [heq]; simp [pre]
              have h1y := h1y m ts2 heq
              have htk := fun W (hb : Below wr.heap.size wr W) => ht41 W ts2 (hat.below hb)
              clear hC heq h1n hask
              cases hT : ptake (isSg [41]) en ts2 with
              | error r =>
                obtain ⟨c, q'⟩ := r
                rw [hT] at h1y htk
                have HR : Hid (pparts pe op en ts = .error (c, q')) := h1y
                clear hT h1y
                go_wp2_with (first
                  | (go_at_call 71; refine hcm.mono ?_; rintro e w4 ⟨rfl, hb4⟩)
                  | (go_at_call 69; refine (hs41 _).mono ?_; rintro e w2 ⟨rfl, rfl⟩)
                  | (go_at_call 66; refine (htk _ hb4).mono ?_; rintro e w5 ⟨hk5, rfl⟩))
                exact ⟨rfl, ((kp_new hb1 hkp).trans (Kp.of hb4)).trans hk5, by rw [HR.out]⟩
              | ok r =>
                obtain ⟨t, r⟩ := r
                rw [hT] at h1y htk
                have HR : Hid (pparts pe op en ts = .ok (l ++ m, r)) := h1y
                clear hT h1y
                go_wp2_with (first
                  | (go_at_call 71; refine hcm.mono ?_; rintro e w4 ⟨rfl, hb4⟩)
                  | (go_at_call 69; refine (hs41 _).mono ?_; rintro e w2 ⟨rfl, rfl⟩)
                  | (go_at_call 66; refine (htk _ hb4).mono ?_; rintro e w5 ⟨hk5, rfl, hp5⟩))
                go_ret
                have hkz := (Kp.of (p := pb) hb4).trans hk5
                refine ⟨(kp_new hb1 hkp).trans hkz, ?_⟩
                rw [HR.out]
                refine ⟨A9, C9, by rw [← HM.out]; rfl, ?_, hp5⟩
                exact (hrow.kp hkz hlt1).done.mono (fun g hg => Nat.le_trans hb1.size hg)
            | true =>
              rw [more_step f en hC] at heq
              rw [hC] at hcm
              have htk := fun W (hb : Below wr.heap.size wr W) => take_c (hat.below hb) (hask.kp (Kp.of hb))
              cases hT : ptake cmm en ts2 with
              | error r =>
                exfalso
                cases ts2 with
                | nil => cases hC
                | cons t r' =>
                  simp only [pcomes] at hC
                  simp only [ptake, hC, if_true] at hT
                  cases hT
              | ok r =>
                obtain ⟨t, r'⟩ := r
                rw [hT] at heq htk
                simp only at heq
                have hsh := ptake_shorter hT
                have hpk := fun W h => hpx W r' h
                cases hP : pe en r' with
                | error r =>
                  obtain ⟨c, q'⟩ := r
                  rw [hP] at heq hpk
                  have HR : Hid (pparts pe op en ts = .error (c, q')) := h1n _ heq
                  clear hP hT hC heq h1n h1y hask
                  go_wp2_with (first
                    | (go_at_call 71; refine hcm.mono ?_; rintro e w4 ⟨rfl, hb4⟩)
                    | (go_at_call 66; refine (htk _ hb4).mono ?_; rintro e w5 ⟨hk5, rfl, hp5⟩; have hc5 := hcl _ ((hkp.trans (Kp.of hb4)).trans hk5))
                    | (go_at_call 104; refine (hpk _ hp5).mono ?_; rintro e w6 ⟨hk6, rfl⟩))
                  exact ⟨rfl, (((kp_new hb1 hkp).trans (Kp.of hb4)).trans hk5).trans hk6, by rw [HR.out]⟩
                | ok r =>
                  obtain ⟨n, r⟩ := r
                  rw [hP] at heq hpk
                  simp only at heq
                  rw [pre_pre] at heq
                  have hsh2 := hst hP
                  have HQ : Hid _ := heq
                  have hlw2 : (l ++ m).length ≤ 1000 := by omega
                  clear hP hT hC heq h1n h1y
                  go_wp2_with (first
                    | (go_at_call 71; refine hcm.mono ?_; rintro e w4 ⟨rfl, hb4⟩)
                    | (go_at_call 66; refine (htk _ hb4).mono ?_; rintro e w5 ⟨hk5, rfl, hp5⟩; have hc5 := hcl _ ((hkp.trans (Kp.of hb4)).trans hk5))
                    | ((go_at_call 104)
                       (refine (hpk _ hp5).mono ?_)
                       (rintro e w6 ⟨hk6, A5, C5, rfl, hn6, hp6⟩)
                       (have hz4 := hb4.size)
                       (have hz5 := hk5.size)
                       (have hkz := ((Kp.of (p := pb) hb4).trans hk5).trans hk6)
                       (obtain ⟨hrw, hnw, hbw⟩ := row_then hrow hkz hlt1 hbz (hn6.mono (fun g hg => by omega)) (.cells (ndc n (.slice A5 n.l.length C5)) 24))
                       (rw [← HM.out] at hrw hnw)
                       (unfold ndc))
                    | ((refine at_dstL 64 rfl ?_)
                       (refine wpList_append_node rfl _ _ rfl w1.heap.size (l ++ m) _ rfl hrw hbw hlw2 n A5 _ C5 hnw w6.heap.size rfl (Has.new _ _ _) ?_)
                       (intro v7 w7 hr7 hb7 hg7)))
                  go_roundw
                  case rel =>
                    have hh6 := (hhas.kp hkz hqb).alloc (.cells (ndc n (.slice A5 n.l.length C5)) 24)
                    refine ⟨m ++ [n], r, f, ?_, (hp6.new _).low hb7 hlt1, kp_below ((hkp.trans hkz).alloc _) hb7, ?_, by omega, ?_, HQ.out⟩
                    · rw [← List.append_assoc]; exact hr7
                    · exact (hg7.block q hh6.lt (fun e => hrw.ne hh6 (by decide) e.symm)).trans hh6
                    · simp only [List.length_append, List.length_cons, List.length_nil] at *; omega
                  case measure =>
                    rw [((hp6.new _).low hb7 hlt1).left, hat.left]
                    omega
end Go.Proofs.YtpckmllmjdafpaaGreatDoor

/- In a region that draws its order: one is taken first for which the last one waits by way of others. -/
namespace Go.Proofs.YtpckmllmjdafpaaGreatDoor
open Go.ChangeShapes Go.WideShapes Go.ChangeAt Go.RowKit
set_option linter.unusedVariables false

section
variable {P : Program} {ops : Array Oper} {Q : Exit → Act → World → Prop} {md : Region.Mode} {S : World → Prop} {m : Nat}

theorem not_ready {k i : Nat} {listed : Array Bool} (hw : waitsFor md ops k i = true) (hi : listed.getD i true = false) : k ∉ Region.ready md ops listed := by
  intro hm
  obtain ⟨_, o, ho, hall⟩ := mem_ready.1 hm
  simp only [waitsFor, ho, Option.any_some, Array.any_eq_true', Bool.and_eq_true, beq_iff_eq] at hw
  obtain ⟨e, he, hb, rfl⟩ := hw
  have h1 := hall e he hb
  by_cases hlt : e.on < listed.size
  · simp [hlt] at hi h1
    rw [hi] at h1
    cases h1
  · simp [Array.getElem?_eq_none (Nat.not_lt.1 hlt)] at h1

/-- Each waits for the one ahead of it. -/
def chainB (md : Region.Mode) (ops : Array Oper) : Nat → List Nat → Bool
  | _, [] => true
  | i, k :: ks => waitsFor md ops k i && chainB md ops k ks

theorem chain_none {listed : Array Bool} : ∀ {ks : List Nat} {i m : Nat}, chainB md ops i (ks ++ [m]) = true → listed.getD i true = false → (∀ k ∈ ks, listed.getD k true = false) → m ∉ Region.ready md ops listed ∧ ∀ k ∈ ks, k ∉ Region.ready md ops listed
  | [], i, m, hc, hi, hk => by
    have hc' : (waitsFor md ops m i && true) = true := hc
    rw [Bool.and_true] at hc'
    exact ⟨not_ready hc' hi, fun k hk => by cases hk⟩
  | k :: ks, i, m, hc, hi, hk => by
    have hc' : (waitsFor md ops k i && chainB md ops k (ks ++ [m])) = true := hc
    rw [Bool.and_eq_true] at hc'
    obtain ⟨h1, h2⟩ := chain_none hc'.2 (hk k (List.mem_cons_self ..)) (fun q hq => hk q (List.mem_cons_of_mem _ hq))
    refine ⟨h1, fun q hq => ?_⟩
    rcases List.mem_cons.1 hq with rfl | h3
    · exact not_ready hc'.1 hi
    · exact h2 q h3

theorem AnyL.frontC {i : Nat} {oi : Oper} {v : Value} (ks : List Nat) (hi : ops[i]? = some oi) (him : i ≠ m) (hch : chainB md ops i (ks ++ [m]) = true) (hsel : ∀ (j : Nat) (o : Oper) cs b, ops[j]? = some o → o.op ≠ .select cs b)
    (hQ : ∀ c a w, Q (.panic c) (a.put oi.dst v) w → Q (.panic c) a w) : ∀ (n : Nat) (listed : Array Bool) (a : Act) (w : World), (∀ k ∈ ks, listed.getD k true = false) →
      (∀ j oj, ops[j]? = some oj → j ≠ i → listed.getD j true = false → (∀ e ∈ oj.after, Region.binds md e = true → e.on ≠ i) → oi.apart ops oj = true) →
      i ∈ Region.ready md ops listed → YieldsIf P ops S oi v a → S w → AnyL P md ops Q S m n (listed.setIfInBounds i true) (a.put oi.dst v) w → AnyL P md ops Q S m (n + 1) listed a w
  | n, listed, a, w, hun, hfree, hr, hy, hS, H => by
    refine ⟨fun h => absurd (h ▸ hr) (by simp), fun j hj => ?_⟩
    by_cases hji : j = i
    · subst hji
      exact hy.wpOp hi hS ⟨fun _ => hS, H⟩
    obtain ⟨hm0, hk0⟩ := chain_none hch (mem_ready.1 hr).1 hun
    have hjm : j ≠ m := fun e => hm0 (e ▸ hj)
    have hj' := ready_mono hj hji
    cases n with
    | zero => exact absurd (H.1 ▸ hj') (by simp)
    | succ n =>
      obtain ⟨hjun, oj, hoj, hall⟩ := mem_ready.1 hj
      have hno : ∀ e ∈ oj.after, Region.binds md e = true → e.on ≠ i := by
        intro e he hb heq
        have h1 := hall e he hb
        have h0 := (mem_ready.1 hr).1
        subst heq
        by_cases hlt : e.on < listed.size
        · simp [hlt] at h0 h1
          rw [h0] at h1
          cases h1
        · simp [Array.getElem?_eq_none (Nat.not_lt.1 hlt)] at h1
      refine wpOp_mono ?_ (wpOp_putIf hoj (hfree j oj hoj hji hjun hno) (fun cs b => hsel i oi cs b hi) (fun cs b => hsel j oj cs b hoj) hQ hy (H.2 j hj'))
      rintro a' w' ⟨hy', hS', H'⟩
      refine ⟨hS', AnyL.frontC ks hi him hch hsel hQ n (listed.setIfInBounds j true) a' w' (fun k hk => ?_) (fun k ok hk hki hun hn => hfree k ok hk hki ?_ hn) (ready_mono hr (Ne.symm hji)) hy' (hS' hjm) ?_⟩
      · have hjk : j ≠ k := fun e => hk0 k hk (e ▸ hj)
        rw [getD_set_ne true hjk]
        exact hun k hk
      · by_cases hjk : j = k
        · subst hjk; exact hjun
        · rwa [getD_set_ne true hjk] at hun
      · rw [Array.setIfInBounds_comm _ _ hji]
        exact H'

/-- One that yields in every world that meets S is taken first; the last one waits for it by way of ks. -/
theorem takeC {oi : Oper} (i : Nat) (ks : List Nat) (d : Option Tmp) (v : Value) {n : Nat} {listed : Array Bool} {a : Act} {w : World} (hi : ops[i]? = some oi) (hd : oi.dst = d) (him : i ≠ m) (hch : chainB md ops i (ks ++ [m]) = true) (hun : ks.all (fun k => listed.getD k true == false) = true)
    (hs : Region.noSelect ops = true) (hf : Region.free md ops listed i = true) (hr : (Region.ready md ops listed).contains i = true)
    (hQ : ∀ c a w, Q (.panic c) (a.put d v) w → Q (.panic c) a w) (hw : Region.wanted oi (yielded ops a.tmps) = true) (hy : ∀ w, S w → (execOp a.eval oi).run P w = .ok (.value v) w) (hS : S w)
    (h : AnyL P md ops Q S m n (listed.setIfInBounds i true) (a.put d v) w) : AnyL P md ops Q S m (n + 1) listed a w := by
  subst hd
  refine AnyL.frontC ks hi him hch (Region.noSelect_spec hs) hQ n listed a w (fun k hk => ?_) (Region.free_spec hi hf) (by simpa using hr) (.inl ⟨hw, hy⟩) hS h
  have := List.all_eq_true.1 hun k hk
  simpa using this

end
end Go.Proofs.YtpckmllmjdafpaaGreatDoor

/- An expr. -/
namespace Go.Proofs.YtpckmllmjdafpaaGreatDoor
open Go.ChangeShapes Go.WideShapes Go.ChangeAt Go.RowKit
set_option linter.unusedVariables false

/-- A call by its contract, that may give up, where nothing else may come up. -/
theorem callLP {P : Program} {ops : Array Oper} {Q : Exit → Act → World → Prop} {md : Region.Mode} {S : World → Prop} {m : Nat} {oi : Oper} (i : Nat) (d : Option Tmp) (f : FuncId) (args : Array Value) {n : Nat} {listed : Array Bool} {a : Act} {w : World} {Post : Ending → World → Prop}
    (hr : Region.ready md ops listed = [i]) (hi : ops[i]? = some oi) (hd : oi.dst = d) (hw : Region.wanted oi (yielded ops a.tmps) = true)
    (hrun : (execOp a.eval oi).run P w = .ok (.enter f args) w) (hc : Calls P f args w Post)
    (h : ∀ e w', Post e w' → (∃ v, e = .returned v ∧ S w' ∧ AnyL P md ops Q S m n (listed.setIfInBounds i true) (a.put d v) w') ∨ ∃ c, e = .panicked c ∧ Q (.panic c) a w') : AnyL P md ops Q S m (n + 1) listed a w := by
  subst hd
  refine ⟨fun h0 => absurd (hr ▸ h0) (by simp), fun j hj => ?_⟩
  obtain rfl : j = i := by rw [hr] at hj; simpa using hj
  refine wpOp_step hi (fun K hK => ?_)
  rw [if_pos hw]
  unfold Oper.wp
  rw [hrun, Oper.upon_enter]
  refine hc.mono fun e w' hh => ?_
  rcases h e w' hh with ⟨v, rfl, hS, hrest⟩ | ⟨c, rfl, hq⟩
  · exact hK _ _ ⟨fun _ => hS, hrest⟩
  · exact hq

theorem begins_kinds {t : Tk} (h : begins t = true) (hn : isNm t = false) : 0 < (inside t.s).1.length := by
  unfold begins at h
  rw [hn] at h
  simp at h
  exact h.2

theorem run_fieldAddr {o : Oper} {a : Act} (ty : TypeId) (x : Operand) (k : Nat) (ho : o.op = .fieldAddr ty x k) (hty : ty = 58) (hk : k < 4) (g : Nat) (hx : a.eval x = .pointer (some ⟨g, 0, none⟩)) (w : World) : (execOp a.eval o).run Tryz.prog w = .ok (.value (.pointer (some ⟨g, k, none⟩))) w := by
  subst hty
  unfold execOp
  simp only [ho, hx]
  rcases k with _ | _ | _ | _ | k
  · go_simp
  · go_simp
  · go_simp
  · go_simp
  · omega

theorem run_load_one {o : Oper} {a : Act} (ty : TypeId) (x : Operand) (ho : o.op = .load ty x) (hty : ty = 9 ∨ ty = 3) (p : Addr) (hx : a.eval x = .pointer (some p)) (v : Value) (w : World) (h : w.cell? p = some v) : (execOp a.eval o).run Tryz.prog w = .ok (.value v) w := by
  unfold execOp
  simp only [ho, hx]
  rcases hty with rfl | rfl
  · go_simp
  · go_simp

theorem Kp.setRow {p : Nat} {w w' : World} (h : Kp p w w') {g : Nat} (hg : w.heap.size ≤ g) (X : Array Value) : Kp p w (w'.setRow g X) :=
  ⟨h.os, h.tape, h.output, by have := h.size; simpa using this, fun k hk hn => (setRow_other w' g k X (by omega)).trans (h.block k hk hn)⟩

theorem PAt.setRow {W : World} {pb en : Nat} {r : Toks} (h : PAt W pb r en) {g : Nat} (hq : pb < g) (X : Array Value) : PAt (W.setRow g X) pb r en := by
  obtain ⟨A, C, hH, h1, h2, h3, h4⟩ := h
  refine ⟨A, C, hH.setRow_other (by omega) X, h1, h2, h3, fun hne => ?_⟩
  obtain ⟨g', off, e, hg, ht⟩ := h4 hne
  exact ⟨g', off, e, hg, fun i hi j hj => (World.cell?_of_block (setRow_other W g g' X (by omega))).trans (ht i hi j hj)⟩

theorem NdR.setRow {w : World} {P : Nat → Prop} {l : List Nd} {v : Value} (h : NdR w P l v) {g : Nat} (hq : ∀ k, P k → k ≠ g) (X : Array Value) : NdR (w.setRow g X) P l v :=
  h.keep fun k o hk ho => (setRow_other w g k X (hq k hk)).trans ho

set_option maxRecDepth 100000 in
set_option maxHeartbeats 4000000 in
theorem expr_c (pb en : Nat) (d : Nat) : ∀ (N : Nat) (w : World) (ts : Toks), N + d = 13 → PAt w pb ts en →
    Calls Tryz.prog 70 #[.pointer (some ⟨pb, 0, none⟩), .int .i64 (N : Nat)] w (PRes w pb en (pexpr d en ts)) := by
  induction d with
  | zero =>
    intro N w ts hN h
    have hN' : (12 : Int) < (N : Int) := by omega
    have hpl := fun o => place_c (h.new o)
    show Calls _ _ _ _ (PRes w pb en (.error (112, place en ts)))
    generalize place en ts = k at hpl ⊢
    have hNb : N ≤ 13 := by omega
    clear hN h
    go_enter Tryz.func70, Tryz.ntmps70
    go_wp2_with (go_at_call 83; refine (hpl _).mono ?_; rintro e w2 ⟨rfl, rfl⟩)
    exact ⟨rfl, Kp.of (b_one _ _), rfl⟩
  | succ d ih =>
    intro N w ts hN h
    have hlt := h.lt
    have hNb : N ≤ 12 := by omega
    have hN' : ¬ (12 : Int) < (N : Int) := by omega
    have htk : ∀ o1, Calls Tryz.prog 66 #[.pointer (some ⟨pb, 0, none⟩), .func (.func 88) #[] #[]] (w.alloc o1) (TRes (w.alloc o1) pb en (ptake begins en ts)) := fun o1 => take_c (h.new o1) Ask.be
    have hE : pexpr (d + 1) en ts = match ptake begins en ts with | .error e => .error e | .ok (t, r) => (if isNm t.1 then pret (.mk wUse t.1.s 0 t.2 []) else pbind (pparts (pexpr d) t.1.s) fun l => pret (.mk t.1.s [] 0 t.2 l)) en r := by
      show pbind _ _ en ts = _
      unfold pbind
      cases ptake begins en ts with
      | error e => rfl
      | ok x => obtain ⟨t, r⟩ := x; rfl
    rw [hE]
    clear hE
    cases hT : ptake begins en ts with
    | error r =>
      obtain ⟨c, q⟩ := r
      rw [hT] at htk
      clear hT h ih
      go_enter Tryz.func70, Tryz.ntmps70
      go_wp2_with (go_at_call 66; refine (htk _).mono ?_; rintro e w2 ⟨hk2, rfl⟩)
      exact ⟨rfl, kp_new (b_one _ _) hk2, rfl⟩
    | ok r =>
      obtain ⟨t, r⟩ := r
      have hbt : begins t.1 = true := by
        cases ts with
        | nil => cases hT
        | cons u us =>
          simp only [ptake] at hT
          split at hT
          · rename_i hp; cases hT; exact hp
          · cases hT
      rw [hT] at htk
      have hnm := nm_c t.1 t.2
      cases hn : isNm t.1 with
      | true =>
        rw [hn] at hnm
        simp only [hn, if_true]
        show Calls _ _ _ _ (PRes w pb en (.ok (.mk wUse t.1.s 0 t.2 [], r)))
        clear hT h ih hn hbt
        go_enter Tryz.func70, Tryz.ntmps70
        go_wp2_with (first
          | ((go_at_call 66)
             (refine (htk _).mono ?_)
             (rintro e w2 ⟨hk2, rfl, hp2⟩)
             (have hr0 : Has w2 w.heap.size 24 #[.string ⟨#[]⟩, .string ⟨#[]⟩, .int .i64 0, .int .i64 0, .slice none 0 0] := (Has.new w _ _).kp hk2 (by omega))
             (have hlt2 := hr0.lt)
             (unfold tkv))
          | ((go_at_call 38)
             (refine (hnm _).mono ?_)
             (rintro e w3 ⟨rfl, hb3⟩)
             (have hr1 := (hr0.alloc _).below hb3 (by simp; omega))
             (have r0 := hr1.cell 0)
             (have r1 := hr1.cell 1)
             (have r2 := hr1.cell 2)
             (have r3 := hr1.cell 3)
             (have r4 := hr1.cell 4)
             (have f0 := hr1.free 0)
             (have f1 := hr1.free 1)
             (have f2 := hr1.free 2)
             (have f3 := hr1.free 3)
             (have f4 := hr1.free 4)
             (have hlt3 := hr1.lt)
             (have ht3 : Has w3 w2.heap.size 58 #[.int .i64 (t.1.kind : Nat), .string (bs t.1.s), .int .i64 (t.1.n : Nat), .int .i64 (t.2 : Nat)] := (Has.new w2 _ _).below hb3 (by simp))
             (have s1 := ht3.cell 1)
             (have s3 := ht3.cell 3)
             (have hkk : Kp pb w w3 := (kp_new (b_one _ _) hk2).trans (kp_new (b_one _ _) (Kp.of hb3)))
             (have hpp := (hp2.new _).below hb3)))
        refine ret_node rfl rfl (hr1.set5 _ _ _ _ _) rfl ⟨hkk.set5 (Nat.le_refl _) _ _ _ _ _, none, 0, rfl, NdR.nil _ _, hpp.set5 hlt _ _ _ _ _⟩
      | false =>
        rw [hn] at hnm
        have hpos := begins_kinds hbt hn
        have hpr := fun W h => parts_c d N pb en t.1.s W r h hNb hpos (fun W ts h => ih (N + 1) W ts (by omega) h)
        simp only [hn, Bool.false_eq_true, if_false]
        show Calls _ _ _ _ (PRes w pb en ((pbind (pparts (pexpr d) t.1.s) fun l => pret (.mk t.1.s [] 0 t.2 l)) en r))
        have hR : (pbind (pparts (pexpr d) t.1.s) fun l => pret (Nd.mk t.1.s [] 0 t.2 l)) en r = match pparts (pexpr d) t.1.s en r with | .error e => .error e | .ok (l, r') => .ok (Nd.mk t.1.s [] 0 t.2 l, r') := by
          unfold pbind
          cases pparts (pexpr d) t.1.s en r with
          | error e => rfl
          | ok x => rfl
        rw [hR]
        generalize pparts (pexpr d) t.1.s en r = R at hpr ⊢
        clear hT h ih hn hbt hR hpos
        go_enter Tryz.func70, Tryz.ntmps70
        go_wp2_with (first
          | ((go_at_call 66)
             (refine (htk _).mono ?_)
             (rintro e w2 ⟨hk2, rfl, hp2⟩)
             (have hr0 : Has w2 w.heap.size 24 #[.string ⟨#[]⟩, .string ⟨#[]⟩, .int .i64 0, .int .i64 0, .slice none 0 0] := (Has.new w _ _).kp hk2 (by omega))
             (have hlt2 := hr0.lt)
             (unfold tkv))
          | ((go_at_call 38)
             (refine (hnm _).mono ?_)
             (rintro e w3 ⟨rfl, hb3⟩)
             (have hr1 := (hr0.alloc _).below hb3 (by simp; omega))
             (have ht3 : Has w3 w2.heap.size 58 #[.int .i64 (t.1.kind : Nat), .string (bs t.1.s), .int .i64 (t.1.n : Nat), .int .i64 (t.2 : Nat)] := (Has.new w2 _ _).below hb3 (by simp))
             (have hkk : Kp pb w w3 := (kp_new (b_one _ _) hk2).trans (kp_new (b_one _ _) (Kp.of hb3)))
             (have hpp := (hp2.new _).below hb3)))
        have hlt3 := hpp.lt
        have hp3d : PAt w3.drew pb r en := hpp
        have hr3d : Has w3.drew w.heap.size 24 #[.string ⟨#[]⟩, .string ⟨#[]⟩, .int .i64 0, .int .i64 0, .slice none 0 0] := hr1
        have hkd : Kp pb w w3.drew := ⟨hkk.os, hkk.tape, hkk.output, hkk.size, hkk.block⟩
        have hz2 : w2.heap.size < w3.drew.heap.size := ht3.lt
        refine lastTo (S := fun W => Has W w2.heap.size 58 #[.int .i64 (t.1.kind : Nat), .string (bs t.1.s), .int .i64 (t.1.n : Nat), .int .i64 (t.2 : Nat)]) 10 (by kernel_rfl) ht3 (fun hHeld => ?_)
        refine takeL 0 (some 21) (.pointer (some ⟨w2.heap.size, 1, none⟩)) rfl rfl (by decide) (by kernel_rfl) (by kernel_rfl) (by kernel_rfl) (by kernel_rfl) (fun _ _ _ h => h) (by rfl) (fun _ _ => run_fieldAddr _ _ 1 rfl rfl (by decide) _ rfl _) hHeld ?_
        simp only [Act.put, List.setIfInBounds_toArray, List.set_cons_zero, List.set_cons_succ]
        refine takeL 1 (some 22) (.string (bs t.1.s)) rfl rfl (by decide) (by kernel_rfl) (by kernel_rfl) (by kernel_rfl) (by kernel_rfl) (fun _ _ _ h => h) (by rfl) (fun wz hz => run_load_one _ _ rfl (.inl rfl) _ rfl _ _ (hz.cell 1)) hHeld ?_
        simp only [Act.put, List.setIfInBounds_toArray, List.set_cons_zero, List.set_cons_succ]
        refine takeL 2 (some 23) (.pointer (some ⟨w2.heap.size, 3, none⟩)) rfl rfl (by decide) (by kernel_rfl) (by kernel_rfl) (by kernel_rfl) (by kernel_rfl) (fun _ _ _ h => h) (by rfl) (fun _ _ => run_fieldAddr _ _ 3 rfl rfl (by decide) _ rfl _) hHeld ?_
        simp only [Act.put, List.setIfInBounds_toArray, List.set_cons_zero, List.set_cons_succ]
        refine takeL 3 (some 24) (.int .i64 (t.2 : Nat)) rfl rfl (by decide) (by kernel_rfl) (by kernel_rfl) (by kernel_rfl) (by kernel_rfl) (fun _ _ _ h => h) (by rfl) (fun wz hz => run_load_one _ _ rfl (.inr rfl) _ rfl _ _ (hz.cell 3)) hHeld ?_
        simp only [Act.put, List.setIfInBounds_toArray, List.set_cons_zero, List.set_cons_succ]
        refine takeL 4 (some 25) (.pointer (some ⟨pb, 0, none⟩)) rfl rfl (by decide) (by kernel_rfl) (by kernel_rfl) (by kernel_rfl) (by kernel_rfl) (fun _ _ _ h => h) (by rfl) (fun _ _ => rfl) hHeld ?_
        simp only [Act.put, List.setIfInBounds_toArray, List.set_cons_zero, List.set_cons_succ]
        refine takeL 5 (some 26) (.pointer (some ⟨w2.heap.size, 1, none⟩)) rfl rfl (by decide) (by kernel_rfl) (by kernel_rfl) (by kernel_rfl) (by kernel_rfl) (fun _ _ _ h => h) (by rfl) (fun _ _ => run_fieldAddr _ _ 1 rfl rfl (by decide) _ rfl _) hHeld ?_
        simp only [Act.put, List.setIfInBounds_toArray, List.set_cons_zero, List.set_cons_succ]
        refine takeL 6 (some 27) (.string (bs t.1.s)) rfl rfl (by decide) (by kernel_rfl) (by kernel_rfl) (by kernel_rfl) (by kernel_rfl) (fun _ _ _ h => h) (by rfl) (fun wz hz => run_load_one _ _ rfl (.inl rfl) _ rfl _ _ (hz.cell 1)) hHeld ?_
        simp only [Act.put, List.setIfInBounds_toArray, List.set_cons_zero, List.set_cons_succ]
        refine takeL 7 (some 28) (.int .i64 (N : Nat)) rfl rfl (by decide) (by kernel_rfl) (by kernel_rfl) (by kernel_rfl) (by kernel_rfl) (fun _ _ _ h => h) (by rfl) (fun _ _ => rfl) hHeld ?_
        simp only [Act.put, List.setIfInBounds_toArray, List.set_cons_zero, List.set_cons_succ]
        refine callLP 8 (some 29) 89 #[.pointer (some ⟨pb, 0, none⟩), .string (bs t.1.s), .int .i64 (N : Nat)] (by kernel_rfl) rfl rfl (by rfl) (by kernel_rfl) (hpr _ hp3d) ?_
        rintro e w4 ⟨hk4, hR4⟩
        cases R with
        | error er =>
          obtain ⟨c, q⟩ := er
          exact .inr ⟨_, hR4, ⟨rfl, hkd.trans hk4, rfl⟩⟩
        | ok x =>
          obtain ⟨l, r'⟩ := x
          obtain ⟨A, C, rfl, hn4, hp4⟩ := hR4
          have ht4 : Has w4 w2.heap.size 58 #[.int .i64 (t.1.kind : Nat), .string (bs t.1.s), .int .i64 (t.1.n : Nat), .int .i64 (t.2 : Nat)] := (show Has w3.drew _ _ _ from ht3).kp hk4 (by have := hp2.lt; omega)
          refine .inl ⟨_, rfl, ht4, ?_⟩
          simp only [Act.put, List.setIfInBounds_toArray, List.set_cons_zero, List.set_cons_succ]
          refine takeL 9 (some 30) (.agg #[.string (bs t.1.s), .string ⟨#[]⟩, .int .i64 0, .int .i64 (t.2 : Nat), .slice A l.length C]) rfl rfl (by decide) (by kernel_rfl) (by kernel_rfl) (by kernel_rfl) (by kernel_rfl) (fun _ _ _ h => h) (by rfl) (fun _ _ => by kernel_rfl) ht4 ?_
          simp only [Act.put, List.setIfInBounds_toArray, List.set_cons_zero, List.set_cons_succ]
          have hr4 := hr3d.kp hk4 (by omega)
          refine lastSkip 10 none (w4.setRow w.heap.size #[.string (bs t.1.s), .string ⟨#[]⟩, .int .i64 0, .int .i64 (t.2 : Nat), .slice A l.length C]) (by kernel_rfl) rfl rfl (by rfl) (run_store_row _ _ _ rfl _ rfl _ rfl 24 (by kernel_rfl) _ hr4 rfl (by simp [Value.oneCell'])) (by kernel_rfl) ?_
          have hrS := hr4.setRow #[.string (bs t.1.s), .string ⟨#[]⟩, .int .i64 0, .int .i64 (t.2 : Nat), .slice A l.length C]
          have hkS := (hkd.trans hk4).setRow (Nat.le_refl _) #[.string (bs t.1.s), .string ⟨#[]⟩, .int .i64 0, .int .i64 (t.2 : Nat), .slice A l.length C]
          have hpS := hp4.setRow hlt #[.string (bs t.1.s), .string ⟨#[]⟩, .int .i64 0, .int .i64 (t.2 : Nat), .slice A l.length C]
          have hnS := hn4.setRow (g := w.heap.size) (fun k hk => by have := hkd.size; have := hr3d.lt; omega) #[.string (bs t.1.s), .string ⟨#[]⟩, .int .i64 0, .int .i64 (t.2 : Nat), .slice A l.length C]
          generalize w4.setRow w.heap.size #[.string (bs t.1.s), .string ⟨#[]⟩, .int .i64 0, .int .i64 (t.2 : Nat), .slice A l.length C] = w5 at hrS hkS hpS hnS ⊢
          go_wp2
          refine ret_node rfl rfl hrS rfl ⟨hkS, A, C, rfl, hnS.mono (fun g hg => by have := hkd.size; omega), hpS⟩
end Go.Proofs.YtpckmllmjdafpaaGreatDoor

/- Statements: which they are. -/
namespace Go.Proofs.YtpckmllmjdafpaaGreatDoor
open Go.ChangeShapes Go.WideShapes Go.ChangeAt Go.RowKit
set_option linter.unusedVariables false

theorem bsDevice : bs wDevice = ⟨#[100, 101, 118, 105, 99, 101]⟩ := rfl
theorem bsJournal : bs wJournal = ⟨#[106, 111, 117, 114, 110, 97, 108]⟩ := rfl
theorem bsKey : bs wKey = ⟨#[107, 101, 121]⟩ := rfl
theorem bsRoot : bs wRoot = ⟨#[114, 111, 111, 116]⟩ := rfl
theorem bsVolume : bs wVolume = ⟨#[118, 111, 108, 117, 109, 101]⟩ := rfl
theorem bsExport : bs wExport = ⟨#[101, 120, 112, 111, 114, 116]⟩ := rfl

theorem stmts_cases {t : Tk} (h : isWd stmts t = true) : t.s = wDevice ∨ t.s = wJournal ∨ t.s = wKey ∨ t.s = wRoot ∨ t.s = wVolume ∨ t.s = wExport := by
  unfold isWd at h
  rw [Bool.and_eq_true] at h
  have := h.2
  simp only [stmts, List.any_cons, List.any_nil, Bool.or_false, Bool.or_eq_true, beq_iff_eq] at this
  exact this

theorem ptake_is {p : Tk → Bool} {en : Nat} {ts r : Toks} {t : Tk × Nat} (h : ptake p en ts = .ok (t, r)) : p t.1 = true := by
  cases ts with
  | nil => cases h
  | cons u us =>
    simp only [ptake] at h
    split at h
    · rename_i hp; cases h; exact hp
    · cases h

def pnum : Par (Int × List Nd) := pbind (ptake (isKi 1)) fun t => pret (t.1.n, [])
def phex : Par (Int × List Nd) := pbind (ptake (isKi 2)) fun t => pret (0, [.mk wHex t.1.s 0 t.2 []])
def pvol : Par (Int × List Nd) := pbind (ptake (isSg [61])) fun _ => pbind (pexpr 12) fun n => pret (0, [n])
def pexp : Par (Int × List Nd) := pif (isWd [wReadonly]) (pbind (ptake (isWd [wReadonly])) fun _ => pret (1, [])) (pret (0, []))

theorem restDevice : prest wDevice = pnum := if_pos (.inl rfl)
theorem restJournal : prest wJournal = pnum := if_pos (.inr rfl)
theorem restKey : prest wKey = phex := (if_neg (by decide)).trans (if_pos (.inl rfl))
theorem restRoot : prest wRoot = phex := (if_neg (by decide)).trans (if_pos (.inr rfl))
theorem restVolume : prest wVolume = pvol := (if_neg (by decide)).trans ((if_neg (by decide)).trans (if_pos rfl))
theorem restExport : prest wExport = pexp := (if_neg (by decide)).trans ((if_neg (by decide)).trans (if_neg (by decide)))

/-- What is left of a statement behind its word and its name. -/
def pafter (t u : Tk × Nat) : Par Nd := pbind (prest t.1.s) fun r => pbind (ptake (isSg [59])) fun _ => pret (.mk t.1.s u.1.s r.1 t.2 r.2)

theorem stmt_one {en : Nat} {ts : Toks} {e : Nat × Nat} (h : ptake (isWd stmts) en ts = .error e) : pstmt en ts = .error e := by
  unfold pstmt pbind
  rw [h]

theorem stmt_two {en : Nat} {ts r : Toks} {t : Tk × Nat} {e : Nat × Nat} (h : ptake (isWd stmts) en ts = .ok (t, r)) (h2 : ptake isNm en r = .error e) : pstmt en ts = .error e := by
  unfold pstmt pbind
  simp only [h, h2]

theorem stmt_three {en : Nat} {ts r r' : Toks} {t u : Tk × Nat} (h : ptake (isWd stmts) en ts = .ok (t, r)) (h2 : ptake isNm en r = .ok (u, r')) : pstmt en ts = pafter t u en r' := by
  unfold pstmt
  show pbind _ _ en ts = _
  rw [pbind, h]
  show pbind _ _ en r = _
  rw [pbind, h2]
  rfl

theorem after_one {t u : Tk × Nat} {en : Nat} {ts : Toks} {e : Nat × Nat} (h : prest t.1.s en ts = .error e) : pafter t u en ts = .error e := by
  unfold pafter pbind
  rw [h]

theorem after_two {t u : Tk × Nat} {en : Nat} {ts r : Toks} {x : Int × List Nd} {e : Nat × Nat} (h : prest t.1.s en ts = .ok (x, r)) (h2 : ptake (isSg [59]) en r = .error e) : pafter t u en ts = .error e := by
  unfold pafter pbind
  simp only [h, h2]

theorem after_ok {t u : Tk × Nat} {en : Nat} {ts r r' : Toks} {x : Int × List Nd} {y : Tk × Nat} (h : prest t.1.s en ts = .ok (x, r)) (h2 : ptake (isSg [59]) en r = .ok (y, r')) : pafter t u en ts = .ok (.mk t.1.s u.1.s x.1 t.2 x.2, r') := by
  unfold pafter pbind
  simp only [h, h2]
  rfl

theorem pnum_no {en : Nat} {ts : Toks} {e : Nat × Nat} (h : ptake (isKi 1) en ts = .error e) : pnum en ts = .error e := by unfold pnum pbind; rw [h]
theorem pnum_ok {en : Nat} {ts r : Toks} {x : Tk × Nat} (h : ptake (isKi 1) en ts = .ok (x, r)) : pnum en ts = .ok ((x.1.n, []), r) := by unfold pnum pbind; rw [h]; rfl
theorem phex_no {en : Nat} {ts : Toks} {e : Nat × Nat} (h : ptake (isKi 2) en ts = .error e) : phex en ts = .error e := by unfold phex pbind; rw [h]
theorem phex_ok {en : Nat} {ts r : Toks} {x : Tk × Nat} (h : ptake (isKi 2) en ts = .ok (x, r)) : phex en ts = .ok ((0, [.mk wHex x.1.s 0 x.2 []]), r) := by unfold phex pbind; rw [h]; rfl
theorem pvol_no {en : Nat} {ts : Toks} {e : Nat × Nat} (h : ptake (isSg [61]) en ts = .error e) : pvol en ts = .error e := by unfold pvol pbind; rw [h]
theorem pvol_no2 {en : Nat} {ts r : Toks} {x : Tk × Nat} {e : Nat × Nat} (h : ptake (isSg [61]) en ts = .ok (x, r)) (h2 : pexpr 12 en r = .error e) : pvol en ts = .error e := by unfold pvol pbind; simp only [h, h2]
theorem pvol_ok {en : Nat} {ts r r' : Toks} {x : Tk × Nat} {n : Nd} (h : ptake (isSg [61]) en ts = .ok (x, r)) (h2 : pexpr 12 en r = .ok (n, r')) : pvol en ts = .ok ((0, [n]), r') := by unfold pvol pbind; simp only [h, h2]; rfl
theorem pexp_no {en : Nat} {ts : Toks} (h : pcomes (isWd [wReadonly]) ts = false) : pexp en ts = .ok ((0, []), ts) := by unfold pexp pif; rw [if_neg (by rw [h]; decide)]; rfl
theorem pexp_ok {en : Nat} {ts r : Toks} {x : Tk × Nat} (h : pcomes (isWd [wReadonly]) ts = true) (h2 : ptake (isWd [wReadonly]) en ts = .ok (x, r)) : pexp en ts = .ok ((1, []), r) := by unfold pexp pif pbind; rw [if_pos h]; simp only [h2]; rfl

theorem comes_take {p : Tk → Bool} {en : Nat} {ts : Toks} (h : pcomes p ts = true) : ∃ t r, ptake p en ts = .ok (t, r) := by
  cases ts with
  | nil => cases h
  | cons t r => exact ⟨t, r, by simp only [pcomes] at h; simp only [ptake, h, if_true]⟩

theorem wrd_take (g : Nat) (l : List (List UInt8)) (W : World) {pb en : Nat} {ts : Toks} (h : PAt W pb ts en) (hH : Has W g 9 (l.map fun x => Value.string (bs x)).toArray) (hg : g ≠ pb) (hl : l.length ≤ 100) : Ask (W.alloc (.cells #[.slice (some ⟨g, 0, none⟩) l.length l.length] 67)) pb (.func (.func 84) #[] #[.pointer (some ⟨W.heap.size, 0, none⟩)]) (isWd l) := by
  have hlt := h.lt
  exact .wd W.heap.size (.slice (some ⟨g, 0, none⟩) l.length l.length) l (by omega) (Has.new _ _ _) (.inr ⟨g, rfl, hH.alloc _⟩) (fun e => by cases e; exact hg rfl) hl

theorem knd_take (k : Nat) {W : World} {pb en : Nat} {ts : Toks} (h : PAt W pb ts en) : Calls Tryz.prog 66 #[.pointer (some ⟨pb, 0, none⟩), .func (.func 86) #[] #[.pointer (some ⟨W.heap.size, 0, none⟩)]] (W.alloc (.cells #[.int .i64 (k : Nat)] 56)) (TRes W pb en (ptake (isKi k) en ts)) := by
  have hlt := h.lt
  exact (take_c (h.new _) (Ask.ki W.heap.size k (by omega) (Has.new _ _ _))).mono fun e w' ⟨hk, hr⟩ => ⟨kp_new (b_one _ _) hk, hr⟩

def sixC : Array Value := #[.string ⟨#[100, 101, 118, 105, 99, 101]⟩, .string ⟨#[106, 111, 117, 114, 110, 97, 108]⟩, .string ⟨#[107, 101, 121]⟩, .string ⟨#[114, 111, 111, 116]⟩, .string ⟨#[118, 111, 108, 117, 109, 101]⟩, .string ⟨#[101, 120, 112, 111, 114, 116]⟩]

theorem first_take (w : World) (o : Obj) {pb en : Nat} {ts : Toks} (h : PAt w pb ts en) : Calls Tryz.prog 66 #[.pointer (some ⟨pb, 0, none⟩), .func (.func 84) #[] #[.pointer (some ⟨w.heap.size + 1 + 1, 0, none⟩)]] (((w.alloc o).alloc (.cells #[.string ⟨#[100, 101, 118, 105, 99, 101]⟩, .string ⟨#[106, 111, 117, 114, 110, 97, 108]⟩, .string ⟨#[107, 101, 121]⟩, .string ⟨#[114, 111, 111, 116]⟩, .string ⟨#[118, 111, 108, 117, 109, 101]⟩, .string ⟨#[101, 120, 112, 111, 114, 116]⟩] 9)).alloc (.cells #[.slice (some ⟨w.heap.size + 1, 0, none⟩) 6 6] 67)) (TRes (w.alloc o) pb en (ptake (isWd stmts) en ts)) := by
  have hlt := h.lt
  have h2 : PAt ((w.alloc o).alloc (.cells sixC 9)) pb ts en := (h.new o).new _
  have hH : Has ((w.alloc o).alloc (.cells sixC 9)) (w.heap.size + 1) 9 (stmts.map fun x => Value.string (bs x)).toArray := by
    have := Has.new (w.alloc o) 9 sixC
    have hz : (w.alloc o).heap.size = w.heap.size + 1 := by simp
    rw [hz] at this
    exact this
  have ha := wrd_take (w.heap.size + 1) stmts _ h2 hH (by omega) (by decide)
  have hz : ((w.alloc o).alloc (.cells sixC 9)).heap.size = w.heap.size + 1 + 1 := by simp
  rw [hz] at ha
  exact (take_c (h2.new _) ha).mono fun e w' ⟨hk, hr⟩ => ⟨kp_new (b_two _ _ _) hk, hr⟩
end Go.Proofs.YtpckmllmjdafpaaGreatDoor

/- A statement: Device. -/
namespace Go.Proofs.YtpckmllmjdafpaaGreatDoor
open Go.ChangeShapes Go.WideShapes Go.ChangeAt Go.RowKit
set_option linter.unusedVariables false

set_option maxRecDepth 100000 in
set_option maxHeartbeats 4000000 in
theorem stmtDevice_c (pb en : Nat) (w : World) (ts r1 : Toks) (K M a : Nat) (h : PAt w pb ts en) (hT1 : ptake (isWd stmts) en ts = .ok ((⟨K, wDevice, M⟩, a), r1)) :
    Calls Tryz.prog 53 #[.pointer (some ⟨pb, 0, none⟩)] w (PRes w pb en (pstmt en ts)) := by
  have hlt := h.lt
  have htk1 := fun o => first_take w o h
  have htk2 := fun W (h : PAt W pb r1 en) => take_c h Ask.nm
  have hs59 : ∀ W, Calls Tryz.prog 69 #[.string ⟨#[59]⟩] W fun e w' => e = .returned (.func (.func 87) #[] #[.pointer (some ⟨W.heap.size, 0, none⟩)]) ∧ w' = W.alloc (.cells #[.string ⟨#[59]⟩] 9) := fun W => isSign_c [59] W
  have htk9 : ∀ {r : Toks} W q, PAt W pb r en → W.heap.size = q → Calls Tryz.prog 66 #[.pointer (some ⟨pb, 0, none⟩), .func (.func 87) #[] #[.pointer (some ⟨q, 0, none⟩)]] (W.alloc (.cells #[.string ⟨#[59]⟩] 9)) (TRes W pb en (ptake (isSg [59]) en r)) := fun W q h e => e ▸ sgn_take [59] h
  rw [hT1] at htk1
  cases hT2 : ptake isNm en r1 with
  | error er =>
    obtain ⟨c, q⟩ := er
    rw [hT2] at htk2
    rw [stmt_two hT1 hT2]
    clear hT1 hT2 h htk9 hs59
    go_enter Tryz.func53, Tryz.ntmps53
    go_wp2_with (first
      | (go_at_call 67; refine at_argP 0 (.slice _ 6 6) rfl ?_; refine (isWord_c _ _ _ _).mono ?_; rintro e w1 ⟨rfl, rfl⟩)
      | ((go_at_call 66)
         (refine at_argP 1 (.func (.func 84) #[] _) rfl ?_)
         (refine (htk1 _).mono ?_)
         (rintro e w2 ⟨hk2, rfl, hp2⟩)
         (clear htk1)
         (have hR2 : Has w2 w.heap.size 24 #[.string ⟨#[]⟩, .string ⟨#[]⟩, .int .i64 0, .int .i64 0, .slice none 0 0] := (Has.new w _ _).kp hk2 (by omega))
         (have hlR2 := hR2.lt)
         (simp only [tkv, bsDevice]))
      | (go_at_call 66; refine at_argP 1 (.func (.func 38) #[] #[]) rfl ?_; refine (htk2 _ ((hp2.new _).new _)).mono ?_; rintro e w3 ⟨hk3, rfl⟩))
    exact ⟨rfl, (kp_new (b_one _ _) hk2).trans (kp_new (b_two _ _ _) hk3), rfl⟩
  | ok ur =>
    obtain ⟨u, r2⟩ := ur
    rw [hT2] at htk2
    rw [stmt_three hT1 hT2]
    have hrest : prest (⟨K, wDevice, M⟩ : Tk).s = pnum := restDevice
    clear hT1 hT2 h
    have hki : ∀ W, Calls Tryz.prog 68 #[.int .i64 1] W fun e w' => e = .returned (.func (.func 86) #[] #[.pointer (some ⟨W.heap.size, 0, none⟩)]) ∧ w' = W.alloc (.cells #[.int .i64 1] 56) := fun W => isKind_c 1 W
    have htk3 : ∀ W q, PAt W pb r2 en → W.heap.size = q → Calls Tryz.prog 66 #[.pointer (some ⟨pb, 0, none⟩), .func (.func 86) #[] #[.pointer (some ⟨q, 0, none⟩)]] (W.alloc (.cells #[.int .i64 1] 56)) (TRes W pb en (ptake (isKi 1) en r2)) := fun W q h e => e ▸ knd_take 1 h
    cases hT3 : ptake (isKi 1) en r2 with
    | error er =>
      obtain ⟨c, q⟩ := er
      rw [hT3] at htk3
      have HR : Hid _ := after_one (t := (⟨K, wDevice, M⟩, a)) (u := u) (by rw [hrest]; exact pnum_no hT3)
      clear hT3 hrest htk9 hs59
      go_enter Tryz.func53, Tryz.ntmps53
      go_wp2_with (first
        | (go_at_call 67; refine at_argP 0 (.slice _ 6 6) rfl ?_; refine (isWord_c _ _ _ _).mono ?_; rintro e w1 ⟨rfl, rfl⟩)
        | ((go_at_call 66)
           (refine at_argP 1 (.func (.func 84) #[] _) rfl ?_)
           (refine (htk1 _).mono ?_)
           (rintro e w2 ⟨hk2, rfl, hp2⟩)
           (clear htk1)
           (have hR2 : Has w2 w.heap.size 24 #[.string ⟨#[]⟩, .string ⟨#[]⟩, .int .i64 0, .int .i64 0, .slice none 0 0] := (Has.new w _ _).kp hk2 (by omega))
           (have hlR2 := hR2.lt)
           (simp only [tkv, bsDevice]))
        | ((go_at_call 66)
           (refine at_argP 1 (.func (.func 38) #[] #[]) rfl ?_)
           (refine (htk2 _ ((hp2.new _).new _)).mono ?_)
           (rintro e w3 ⟨hk3, rfl, hp3⟩)
           (have hN3 : Has w3 (w2.heap.size + 1) 24 #[.string ⟨#[100, 101, 118, 105, 99, 101]⟩, .string ⟨#[]⟩, .int .i64 0, .int .i64 (a : Nat), .slice none 0 0] := (Has.kp (by (have := Has.new (w2.alloc (.cells #[.int .i64 (K : Nat), .string ⟨#[100, 101, 118, 105, 99, 101]⟩, .int .i64 (M : Nat), .int .i64 (a : Nat)] 58)) 24 #[.string ⟨#[100, 101, 118, 105, 99, 101]⟩, .string ⟨#[]⟩, .int .i64 0, .int .i64 (a : Nat), .slice none 0 0]; simpa using this)) hk3 (by omega)))
           (have n0 := hN3.cell 0)
           (have m0 := hN3.free 0)
           (have n1 := hN3.cell 1)
           (have m1 := hN3.free 1)
           (have n2 := hN3.cell 2)
           (have m2 := hN3.free 2)
           (have n3 := hN3.cell 3)
           (have m3 := hN3.free 3)
           (have n4 := hN3.cell 4)
           (have m4 := hN3.free 4)
           (have hlN := hN3.lt)
           (have hR3 := ((hR2.alloc _).alloc _).kp hk3 (by omega))
           (have hK3 : Kp pb w w3 := (kp_new (b_one _ _) hk2).trans (kp_new (b_two _ _ _) hk3))
           (have hpN : pb < w2.heap.size + 1 := by omega)
           (have hwN : w.heap.size ≤ w2.heap.size + 1 := by omega)
           (have hneR : w.heap.size ≠ w2.heap.size + 1 := by omega)
           (simp only [tkv]))
        | ((refine at_dstL 18 rfl ?_)
           (refine wpList_is (some 18) (.string (bs u.1.s)) rfl rfl (by kernel_rfl) ?_))
        | (go_at_call 68; refine (hki _).mono ?_; rintro e w1 ⟨rfl, rfl⟩)
        | (go_at_call 66; refine at_argP 1 (.func (.func 86) #[] _) rfl ?_; refine (htk3 _ _ (hp3.set (q := ⟨w2.heap.size + 1, 1, none⟩) hpN _) (by simp)).mono ?_; rintro e w4 ⟨hk4, rfl⟩))
      exact ⟨rfl, (hK3.setNew (q := ⟨w2.heap.size + 1, 1, none⟩) hwN _).trans hk4, by rw [HR.out]⟩
    | ok xr =>
      obtain ⟨x, r3⟩ := xr
      rw [hT3] at htk3
      cases hT9 : ptake (isSg [59]) en r3 with
      | error er =>
        obtain ⟨c9, q9⟩ := er
        have htk9 := fun W q h e => htk9 (r := r3) W q h e
        rw [hT9] at htk9
        have HR : Hid _ := after_two (t := (⟨K, wDevice, M⟩, a)) (u := u) (by rw [hrest]; exact pnum_ok hT3) hT9
        clear hT9 hT3 hrest
        go_enter Tryz.func53, Tryz.ntmps53
        go_wp2_with (first
            | (go_at_call 67; refine at_argP 0 (.slice _ 6 6) rfl ?_; refine (isWord_c _ _ _ _).mono ?_; rintro e w1 ⟨rfl, rfl⟩)
            | ((go_at_call 66)
               (refine at_argP 1 (.func (.func 84) #[] _) rfl ?_)
               (refine (htk1 _).mono ?_)
               (rintro e w2 ⟨hk2, rfl, hp2⟩)
               (clear htk1)
               (have hR2 : Has w2 w.heap.size 24 #[.string ⟨#[]⟩, .string ⟨#[]⟩, .int .i64 0, .int .i64 0, .slice none 0 0] := (Has.new w _ _).kp hk2 (by omega))
               (have hlR2 := hR2.lt)
               (simp only [tkv, bsDevice]))
            | ((go_at_call 66)
               (refine at_argP 1 (.func (.func 38) #[] #[]) rfl ?_)
               (refine (htk2 _ ((hp2.new _).new _)).mono ?_)
               (rintro e w3 ⟨hk3, rfl, hp3⟩)
               (have hN3 : Has w3 (w2.heap.size + 1) 24 #[.string ⟨#[100, 101, 118, 105, 99, 101]⟩, .string ⟨#[]⟩, .int .i64 0, .int .i64 (a : Nat), .slice none 0 0] := (Has.kp (by (have := Has.new (w2.alloc (.cells #[.int .i64 (K : Nat), .string ⟨#[100, 101, 118, 105, 99, 101]⟩, .int .i64 (M : Nat), .int .i64 (a : Nat)] 58)) 24 #[.string ⟨#[100, 101, 118, 105, 99, 101]⟩, .string ⟨#[]⟩, .int .i64 0, .int .i64 (a : Nat), .slice none 0 0]; simpa using this)) hk3 (by omega)))
               (have n0 := hN3.cell 0)
               (have m0 := hN3.free 0)
               (have n1 := hN3.cell 1)
               (have m1 := hN3.free 1)
               (have n2 := hN3.cell 2)
               (have m2 := hN3.free 2)
               (have n3 := hN3.cell 3)
               (have m3 := hN3.free 3)
               (have n4 := hN3.cell 4)
               (have m4 := hN3.free 4)
               (have hlN := hN3.lt)
               (have hR3 := ((hR2.alloc _).alloc _).kp hk3 (by omega))
               (have hK3 : Kp pb w w3 := (kp_new (b_one _ _) hk2).trans (kp_new (b_two _ _ _) hk3))
               (have hpN : pb < w2.heap.size + 1 := by omega)
               (have hwN : w.heap.size ≤ w2.heap.size + 1 := by omega)
               (have hneR : w.heap.size ≠ w2.heap.size + 1 := by omega)
               (simp only [tkv]))
            | ((refine at_dstL 18 rfl ?_)
               (refine wpList_is (some 18) (.string (bs u.1.s)) rfl rfl (by kernel_rfl) ?_))
            | (go_at_call 68; refine (hki _).mono ?_; rintro e w1 ⟨rfl, rfl⟩)
            | ((go_at_call 66)
               (refine at_argP 1 (.func (.func 86) #[] _) rfl ?_)
               (refine (htk3 _ _ (hp3.set (q := ⟨w2.heap.size + 1, 1, none⟩) hpN _) (by simp)).mono ?_)
               (rintro e w4 ⟨hk4, rfl, hp4⟩)
               (have hN4 := (hN3.putP 1 _).kp hk4 (by omega))
               (have hR4 := (hR3.other (p := ⟨w2.heap.size + 1, 1, none⟩) hneR _).kp hk4 (by omega))
               (have hK4 := (hK3.setNew (q := ⟨w2.heap.size + 1, 1, none⟩) hwN _).trans hk4)
               (have y0 := hN4.cell 0)
               (have z0 := hN4.free 0)
               (have y1 := hN4.cell 1)
               (have z1 := hN4.free 1)
               (have y2 := hN4.cell 2)
               (have z2 := hN4.free 2)
               (have y3 := hN4.cell 3)
               (have z3 := hN4.free 3)
               (have y4 := hN4.cell 4)
               (have z4 := hN4.free 4)
               (have hlN4 := hN4.lt)
               (have hlR4 := hR4.lt)
               (simp only [tkv]))
            | ((refine at_dstL 28 rfl ?_)
               (refine wpList_is (some 28) (.int .i64 (x.1.n : Nat)) rfl rfl (by kernel_rfl) ?_))
            | (go_at_call 69; refine at_argP 0 (.string ⟨#[59]⟩) rfl ?_; refine (hs59 _).mono ?_; rintro e w1 ⟨rfl, rfl⟩)
            | (go_at_call 66; refine at_argP 1 (.func (.func 87) #[] _) rfl ?_; refine (htk9 _ _ (hp4.set (q := ⟨w2.heap.size + 1, 2, none⟩) hpN _) (by simp)).mono ?_; rintro e w9 ⟨hk9, rfl⟩))
        exact ⟨rfl, (hK4.setNew (q := ⟨w2.heap.size + 1, 2, none⟩) hwN _).trans hk9, by rw [HR.out]⟩
      | ok yr =>
        obtain ⟨y9, r9⟩ := yr
        have htk9 := fun W q h e => htk9 (r := r3) W q h e
        rw [hT9] at htk9
        have HR : Hid _ := after_ok (t := (⟨K, wDevice, M⟩, a)) (u := u) (by rw [hrest]; exact pnum_ok hT3) hT9
        clear hT9 hT3 hrest
        go_enter Tryz.func53, Tryz.ntmps53
        go_wp2_with (first
            | (go_at_call 67; refine at_argP 0 (.slice _ 6 6) rfl ?_; refine (isWord_c _ _ _ _).mono ?_; rintro e w1 ⟨rfl, rfl⟩)
            | ((go_at_call 66)
               (refine at_argP 1 (.func (.func 84) #[] _) rfl ?_)
               (refine (htk1 _).mono ?_)
               (rintro e w2 ⟨hk2, rfl, hp2⟩)
               (clear htk1)
               (have hR2 : Has w2 w.heap.size 24 #[.string ⟨#[]⟩, .string ⟨#[]⟩, .int .i64 0, .int .i64 0, .slice none 0 0] := (Has.new w _ _).kp hk2 (by omega))
               (have hlR2 := hR2.lt)
               (simp only [tkv, bsDevice]))
            | ((go_at_call 66)
               (refine at_argP 1 (.func (.func 38) #[] #[]) rfl ?_)
               (refine (htk2 _ ((hp2.new _).new _)).mono ?_)
               (rintro e w3 ⟨hk3, rfl, hp3⟩)
               (have hN3 : Has w3 (w2.heap.size + 1) 24 #[.string ⟨#[100, 101, 118, 105, 99, 101]⟩, .string ⟨#[]⟩, .int .i64 0, .int .i64 (a : Nat), .slice none 0 0] := (Has.kp (by (have := Has.new (w2.alloc (.cells #[.int .i64 (K : Nat), .string ⟨#[100, 101, 118, 105, 99, 101]⟩, .int .i64 (M : Nat), .int .i64 (a : Nat)] 58)) 24 #[.string ⟨#[100, 101, 118, 105, 99, 101]⟩, .string ⟨#[]⟩, .int .i64 0, .int .i64 (a : Nat), .slice none 0 0]; simpa using this)) hk3 (by omega)))
               (have n0 := hN3.cell 0)
               (have m0 := hN3.free 0)
               (have n1 := hN3.cell 1)
               (have m1 := hN3.free 1)
               (have n2 := hN3.cell 2)
               (have m2 := hN3.free 2)
               (have n3 := hN3.cell 3)
               (have m3 := hN3.free 3)
               (have n4 := hN3.cell 4)
               (have m4 := hN3.free 4)
               (have hlN := hN3.lt)
               (have hR3 := ((hR2.alloc _).alloc _).kp hk3 (by omega))
               (have hK3 : Kp pb w w3 := (kp_new (b_one _ _) hk2).trans (kp_new (b_two _ _ _) hk3))
               (have hpN : pb < w2.heap.size + 1 := by omega)
               (have hwN : w.heap.size ≤ w2.heap.size + 1 := by omega)
               (have hneR : w.heap.size ≠ w2.heap.size + 1 := by omega)
               (simp only [tkv]))
            | ((refine at_dstL 18 rfl ?_)
               (refine wpList_is (some 18) (.string (bs u.1.s)) rfl rfl (by kernel_rfl) ?_))
            | (go_at_call 68; refine (hki _).mono ?_; rintro e w1 ⟨rfl, rfl⟩)
            | ((go_at_call 66)
               (refine at_argP 1 (.func (.func 86) #[] _) rfl ?_)
               (refine (htk3 _ _ (hp3.set (q := ⟨w2.heap.size + 1, 1, none⟩) hpN _) (by simp)).mono ?_)
               (rintro e w4 ⟨hk4, rfl, hp4⟩)
               (have hN4 := (hN3.putP 1 _).kp hk4 (by omega))
               (have hR4 := (hR3.other (p := ⟨w2.heap.size + 1, 1, none⟩) hneR _).kp hk4 (by omega))
               (have hK4 := (hK3.setNew (q := ⟨w2.heap.size + 1, 1, none⟩) hwN _).trans hk4)
               (have y0 := hN4.cell 0)
               (have z0 := hN4.free 0)
               (have y1 := hN4.cell 1)
               (have z1 := hN4.free 1)
               (have y2 := hN4.cell 2)
               (have z2 := hN4.free 2)
               (have y3 := hN4.cell 3)
               (have z3 := hN4.free 3)
               (have y4 := hN4.cell 4)
               (have z4 := hN4.free 4)
               (have hlN4 := hN4.lt)
               (have hlR4 := hR4.lt)
               (simp only [tkv]))
            | ((refine at_dstL 28 rfl ?_)
               (refine wpList_is (some 28) (.int .i64 (x.1.n : Nat)) rfl rfl (by kernel_rfl) ?_))
            | (go_at_call 69; refine at_argP 0 (.string ⟨#[59]⟩) rfl ?_; refine (hs59 _).mono ?_; rintro e w1 ⟨rfl, rfl⟩)
            | ((go_at_call 66)
               (refine at_argP 1 (.func (.func 87) #[] _) rfl ?_)
               (refine (htk9 _ _ (hp4.set (q := ⟨w2.heap.size + 1, 2, none⟩) hpN _) (by simp)).mono ?_)
               (rintro e w9 ⟨hk9, rfl, hp9⟩)
               (have hN9 := (hN4.putP 2 _).kp hk9 (by omega))
               (have hR9 := (hR4.other (p := ⟨w2.heap.size + 1, 2, none⟩) hneR _).kp hk9 (by omega))
               (have hK9 : Kp pb w w9 := (hK4.setNew (q := ⟨w2.heap.size + 1, 2, none⟩) hwN _).trans hk9)
               (have x0 := hN9.cell 0)
               (have r0 := hR9.cell 0)
               (have f0 := hR9.free 0)
               (have x1 := hN9.cell 1)
               (have r1 := hR9.cell 1)
               (have f1 := hR9.free 1)
               (have x2 := hN9.cell 2)
               (have r2 := hR9.cell 2)
               (have f2 := hR9.free 2)
               (have x3 := hN9.cell 3)
               (have r3 := hR9.cell 3)
               (have f3 := hR9.free 3)
               (have x4 := hN9.cell 4)
               (have r4 := hR9.cell 4)
               (have f4 := hR9.free 4)
               (have hlN9 := hN9.lt)
               (have hlR9 := hR9.lt)))
        refine ret_node rfl rfl (hR9.set5 _ _ _ _ _) rfl ⟨hK9.set5 (Nat.le_refl _) _ _ _ _ _, ?_⟩
        rw [HR.out]
        exact ⟨none, 0, rfl, NdR.nil _ _, hp9.set5 hlt _ _ _ _ _⟩
end Go.Proofs.YtpckmllmjdafpaaGreatDoor
