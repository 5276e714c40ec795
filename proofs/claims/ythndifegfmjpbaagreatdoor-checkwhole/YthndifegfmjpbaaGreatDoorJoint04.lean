/- Texts that the statements of this stage share, joined. -/
import Derived.Test.YthndifegfmjpbaaGreatDoorJoint00
import Derived.Test.YthndifegfmjpbaaGreatDoorJoint03
import Derived.Test.YthndifegfmjpbaaGreatDoorJoint01
import Derived.Lib.Strings
namespace Go.Proofs.YthndifegfmjpbaaGreatDoor
set_option linter.unusedVariables false
set_option maxRecDepth 100000
set_option maxHeartbeats 40000000
section
structure Pt where
 kind : Nat
 size : Nat
 kids : List Nat
 dev : Nat
 first : Nat
 chunk : Nat
 key : List UInt8
 root : List UInt8
structure Mn where
 word : List UInt8
 node : Nat
 bytes : List UInt8
abbrev Nms := List (List UInt8 × Mn)
abbrev Er := Nat × Int
def lk (ns : Nms) (s : List UInt8) : Option Mn := (ns.find? (fun x => x.1 == s)).map (·.2)
def cntN (ns : Nms) (ws : List (List UInt8)) : Nat := (ns.filter (fun x => ws.any (fun y => x.2.word == y))).length
def known (ns : Nms) (n : Nd) (ws : List (List UInt8)) : Except Er Mn := match lk ns n.s with
 | none => .error (131, n.a)
 | some m => if ws.any (fun y => m.word == y) then .ok m else .error (133, n.a)
def onlyB (o : List Bool) (p : Pt) : Bool := p.kind == 8 || (if p.kind == 5 then p.kids.drop 1 else p.kids).any fun k => o.getD k false
def onlys (ps : List Pt) : List Bool := ps.foldl (fun o p => o ++ [onlyB o p]) []
def ptAt (ps : List Pt) (k : Nat) : Pt := ps.getD k ⟨0, 0, [], 0, 0, 0, [], []⟩
def sz (ps : List Pt) (k : Nat) : Nat := (ptAt ps k).size
def grt (L : Nat) (F : Nat → Bool) : Nat := match L with
 | 0 => 0
 | L + 1 => let r := grt L F
            if r = L ∧ F (L + 1) = true then L + 1 else r
theorem grt_is (L : Nat) (F : Nat → Bool) : Great L F (grt L F) := by
 induction L with
 | zero => exact ⟨Nat.le_refl _, fun t h => absurd h (Nat.not_lt_zero _), fun h => absurd h (Nat.not_lt_zero _)⟩
 | succ L ih =>
   obtain ⟨h1, h2, h3⟩ := ih
   unfold grt
   show Great (L + 1) F (if grt L F = L ∧ F (L + 1) = true then L + 1 else grt L F)
   generalize grt L F = r at *
   by_cases e : r = L ∧ F (L + 1) = true
   · rw [if_pos e]
     obtain ⟨rfl, e2⟩ := e
     refine ⟨Nat.le_refl _, fun t ht => ?_, fun h => absurd h (Nat.lt_irrefl _)⟩
     by_cases e3 : t < r
     · exact h2 t e3
     · obtain rfl : t = r := by omega
       exact e2
   · rw [if_neg e]
     refine ⟨by omega, h2, fun _ => ?_⟩
     by_cases e3 : r < L
     · exact h3 e3
     · obtain rfl : r = L := by omega
       cases hF : F (r + 1) with
       | false => rfl
       | true => exact absurd ⟨rfl, hF⟩ e
def dI (n : Nat) : Nat := grt 8192 (fit tg n)
def dV (n : Nat) : Nat := grt 2048 (fit hs n)
def slt (n o : Nat) (c : Int) : Nat := if (1 ≤ n ∧ n ≤ 8192) ∧ (1 ≤ o ∧ o ≤ 8192) ∧ (1 ≤ c ∧ c ≤ 16) then grt (chunksOf o c.toNat) (sfit (tableOf o c.toNat) c.toNat n) else 0
def hv1 (b : UInt8) : Nat := if 97 ≤ b.toNat then b.toNat - 87 else b.toNat - 48
def unhex : List UInt8 → List UInt8
 | a :: b :: r => UInt8.ofNat (16 * hv1 a + hv1 b) :: unhex r
 | _ => []
def kidsOf (n : Nd) : List Nd := n.l.filter fun x => !(x.op == wNum || x.op == wName)
def nthN (l : List Nd) (k : Nat) : Nd := l.getD k (.mk [] [] 0 0 [])
def cseveral (ps : List Pt) (n : Nd) (ks : List Nat) : Except Er Pt :=
 if ¬ (2 ≤ ks.length ∧ ks.length ≤ 4) then .error (135, n.a)
 else if n.op = wConcat then
  if (ks.map (sz ps)).sum ≤ 8192 then .ok ⟨3, (ks.map (sz ps)).sum, ks, 0, 0, 0, [], []⟩ else .error (134, n.a)
 else if ks.all (fun k => sz ps k == sz ps (ks.getD 0 0)) then .ok ⟨4, sz ps (ks.getD 0 0), ks, 0, 0, 0, [], []⟩ else .error (134, n.a)
def csecured (ns : Nms) (n : Nd) (size : Nat) (ks : List Nat) : Except Er Pt :=
 if n.op = wCrypt then match known ns (nthN n.l 1) [wKey] with
  | .error e => .error e
  | .ok m => if m.bytes.take 16 = m.bytes.drop 16 then .error (135, n.a) else .ok ⟨6, size, ks, 0, 0, 0, m.bytes, []⟩
 else if n.op = wIntegrity then match known ns (nthN n.l 1) [wKey] with
  | .error e => .error e
  | .ok m => if dI size = 0 then .error (134, n.a) else .ok ⟨7, dI size, ks, 0, 0, 0, m.bytes, []⟩
 else match known ns (nthN n.l 1) [wRoot] with
  | .error e => .error e
  | .ok m => if dV size = 0 then .error (134, n.a) else .ok ⟨8, dV size, ks, 0, 0, 0, [], m.bytes⟩
def cpart (ns : Nms) (ps : List Pt) (n : Nd) (ks : List Nat) : Except Er Pt :=
 if n.op = wLinear then
  if 0 < (nthN n.l 2).n ∧ (nthN n.l 1).n + (nthN n.l 2).n ≤ sz ps (ks.getD 0 0) then .ok ⟨2, (nthN n.l 2).n.toNat, ks, 0, (nthN n.l 1).n.toNat, 0, [], []⟩ else .error (134, n.a)
 else if n.op = wConcat ∨ n.op = wMirror then cseveral ps n ks
 else if n.op = wSnapshot then
  if slt (sz ps (ks.getD 1 0)) (sz ps (ks.getD 0 0)) (nthN n.l 2).n = 0 then .error (134, n.a)
  else if (onlys ps).getD (ks.getD 1 0) false then .error (139, n.a)
  else .ok ⟨5, sz ps (ks.getD 0 0), ks, 0, 0, (nthN n.l 2).n.toNat, [], []⟩
 else csecured ns n (sz ps (ks.getD 0 0)) ks
def ckids (f : List Pt → Nd → Except Er (Nat × List Pt)) : List Pt → List Nd → Except Er (List Nat × List Pt)
 | ps, [] => .ok ([], ps)
 | ps, x :: l => match f ps x with
   | .error e => .error e
   | .ok (k, p1) => match ckids f p1 l with
     | .error e => .error e
     | .ok (ks, p2) => .ok (k :: ks, p2)
def cexpr (ns : Nms) : Nat → List Pt → Nd → Except Er (Nat × List Pt)
 | 0, ps, n => .error (0, 0)
 | d + 1, ps, n => if n.op = wUse then match known ns n [wDevice, wVolume] with
     | .error e => .error e
     | .ok m => .ok (m.node, ps)
   else match ckids (cexpr ns d) ps (kidsOf n) with
    | .error e => .error e
    | .ok (ks, p1) => if 64 ≤ p1.length then .error (137, n.a) else match cpart ns p1 n ks with
      | .error e => .error e
      | .ok p => .ok (p1.length, p1 ++ [p])
structure Ck where
 devs : List Nat
 jour : Option Nat
 parts : List Pt
 expo : Option Nat
 ro : Bool
 eat : Int
 names : Nms
def full (ns : Nms) (op : List UInt8) : Bool :=
 if op = wDevice ∨ op = wJournal then cntN ns [wDevice, wJournal] == 8
 else if op = wKey ∨ op = wRoot then cntN ns [wKey, wRoot] == 8
 else cntN ns [wVolume] == 16
def csaid (c : Ck) (n : Nd) : Except Er (Ck × Mn) :=
 if n.op = wJournal then
  if ¬ (256 ≤ n.n ∧ n.n ≤ 2048) then .error (134, n.a)
  else if c.jour.isSome then .error (138, n.a)
  else .ok ({ c with jour := some c.devs.length, devs := c.devs ++ [n.n.toNat] }, ⟨n.op, cntN c.names [wDevice], []⟩)
 else if n.op = wDevice then
  if ¬ (1 ≤ n.n ∧ n.n ≤ 2048) then .error (134, n.a)
  else .ok ({ c with devs := c.devs ++ [n.n.toNat] }, ⟨n.op, cntN c.names [wDevice], []⟩)
 else if n.op = wKey ∨ n.op = wRoot then
  if (nthN n.l 0).s.length ≠ 64 then .error (135, n.a) else .ok (c, ⟨n.op, 0, unhex (nthN n.l 0).s⟩)
 else match cexpr c.names 12 c.parts (nthN n.l 0) with
  | .error e => .error e
  | .ok (k, ps) => .ok ({ c with parts := ps }, ⟨n.op, k, []⟩)
def cexport (c : Ck) (n : Nd) : Except Er Ck :=
 if c.expo.isSome then .error (138, n.a)
 else match known c.names n [wDevice, wVolume] with
  | .error e => .error e
  | .ok m => .ok { c with expo := some m.node, ro := decide (n.n = 1) || (onlys c.parts).getD m.node false, eat := n.a }
def cstmt (c : Ck) (n : Nd) : Except Er Ck :=
 if n.op = wExport then cexport c n
 else if (lk c.names n.s).isSome then .error (132, n.a)
 else if full c.names n.op then .error (137, n.a)
 else match csaid c n with
  | .error e => .error e
  | .ok (c1, m) => .ok { c1 with names := c1.names ++ [(n.s, m)] }
def cstmts : Ck → List Nd → Except Er Ck
 | c, [] => .ok c
 | c, x :: l => match cstmt c x with
   | .error e => .error e
   | .ok c1 => cstmts c1 l
def disks : Nat → List Nd → List Pt
 | _, [] => []
 | d, x :: l => if x.op = wDevice then ⟨1, x.n.toNat, [], d, 0, 0, [], []⟩ :: disks (d + 1) l else if x.op = wJournal then disks (d + 1) l else disks d l
def hasB (ps : List Pt) (p f c : Int) : Bool := decide (0 ≤ p ∧ p < ps.length ∧ 0 ≤ f ∧ 0 < c ∧ f ≤ (sz ps p.toNat : Int) - c)
def fndK (ps : List Pt) (g : List R3 → Nat → Int → Int → List R3) (out : List R3) (p : Pt) (f c : Int) : List R3 :=
 if p.kind = 1 then out ++ [⟨p.dev, f, c⟩]
 else if p.kind = 2 then p.kids.foldl (fun o k => g o k (f + p.first) c) out
 else if p.kind = 4 ∨ p.kind = 6 then p.kids.foldl (fun o k => g o k f c) out
 else if p.kind = 3 then (p.kids.foldl (fun (x : List R3 × Int) k => (g x.1 k (max (f - x.2) 0) (min (f + c - x.2) (sz ps k) - max (f - x.2) 0), x.2 + sz ps k)) (out, 0)).1
 else if p.kind = 5 then g (g out (p.kids.getD 0 0) f c) (p.kids.getD 1 0) 0 (sz ps (p.kids.getD 1 0))
 else if p.kind = 7 ∨ p.kind = 8 then g out (p.kids.getD 0 0) 0 (sz ps (p.kids.getD 0 0))
 else out
def fnd (ps : List Pt) : Nat → List R3 → Nat → Int → Int → List R3
 | 0, out, _, _, _ => out
 | d + 1, out, k, f, c => if 256 < out.length ∨ hasB ps k f c = false then out else fndK ps (fnd ps d) out (ptAt ps k) f c
def Regs (ps : List Pt) (p f c : Int) : List R3 := if hasB ps p f c = false then [] else fnd ps ps.length [] p.toNat f c
def overl (l : List R3) : Bool := (List.range l.length).any fun b => (List.range b).any fun a => shareB (l.getD a ⟨0, 0, 0⟩) (l.getD b ⟨0, 0, 0⟩)
structure Stk where
 devs : List Nat
 jour : Nat
 parts : List Pt
 expo : Nat
 ro : Bool
def cwhole (c : Ck) : Except Er Stk := match c.jour, c.expo with
 | some j, some x => if 256 < (Regs c.parts x 0 (sz c.parts x)).length then .error (137, c.eat)
   else if overl (Regs c.parts x 0 (sz c.parts x)) then .error (136, c.eat)
   else .ok ⟨c.devs, j, c.parts, x, c.ro⟩
 | _, _ => .error (138, 0)
def Chk (n : Nd) : Except Er Stk := match cstmts ⟨[], none, disks 0 n.l, none, false, 0, []⟩ n.l with
 | .error e => .error e
 | .ok c => cwhole c
end
section
def NdOk (ps : List Pt) (k : Nat) : Prop := k < ps.length ∧ 1 ≤ sz ps k ∧ sz ps k ≤ 8192
structure PtOk0 (ps : List Pt) (p : Pt) : Prop where
 kids : ∀ k ∈ p.kids, NdOk ps k
 some' : p.kids ≠ []
 lo : 1 ≤ p.size
 hi : p.size ≤ 8192
 kind : 2 ≤ p.kind ∧ p.kind ≤ 8
 lin : p.kind = 2 → p.first + p.size ≤ sz ps (p.kids.getD 0 0)
 cat : p.kind = 3 → p.size = (p.kids.map (sz ps)).sum
 mir : p.kind = 4 → ∀ k ∈ p.kids, sz ps k = p.size
 snap : p.kind = 5 → p.kids.length = 2 ∧ sz ps (p.kids.getD 0 0) = p.size
 cry : p.kind = 6 → sz ps (p.kids.getD 0 0) = p.size
 one : (p.kind = 2 ∨ p.kind = 6 ∨ p.kind = 7 ∨ p.kind = 8) → p.kids.length = 1
structure PtOk (ps : List Pt) (p : Pt) : Prop extends PtOk0 ps p where
 four : p.kids.length ≤ 4
 fst : p.first ≤ 8192
def NmOk (ns : Nms) (ps : List Pt) : Prop := ∀ x ∈ ns, ((x.2.word = wDevice ∨ x.2.word = wVolume) → NdOk ps x.2.node) ∧ ((x.2.word = wKey ∨ x.2.word = wRoot) → x.2.bytes.length = 32)
theorem part_left (ps qs : List Pt) {k : Nat} (h : k < ps.length) : ptAt (ps ++ qs) k = ptAt ps k := by
 unfold ptAt
 rw [List.getD_eq_getElem?_getD, List.getD_eq_getElem?_getD, List.getElem?_append_left h]
theorem part_mid (ps qs : List Pt) (p : Pt) : ptAt (ps ++ p :: qs) ps.length = p := by
 unfold ptAt
 rw [List.getD_eq_getElem?_getD, List.getElem?_append_right (Nat.le_refl _)]
 simp
theorem sz_left (ps qs : List Pt) {k : Nat} (h : k < ps.length) : sz (ps ++ qs) k = sz ps k := by unfold sz; rw [part_left ps qs h]
theorem NdOk.more {ps : List Pt} {k : Nat} (h : NdOk ps k) (qs : List Pt) : NdOk (ps ++ qs) k := by
 refine ⟨by have := h.1; simp; omega, ?_⟩
 rw [sz_left ps qs h.1]
 exact h.2
theorem NmOk.more {ns : Nms} {ps : List Pt} (h : NmOk ns ps) (qs : List Pt) : NmOk ns (ps ++ qs) := fun x hx => ⟨fun e => ((h x hx).1 e).more qs, (h x hx).2⟩
def Grown' : List Pt → List Pt → Prop
 | _, [] => True
 | ps, p :: qs => PtOk ps p ∧ Grown' (ps ++ [p]) qs
theorem Grown'.app {qs rs : List Pt} : ∀ {ps : List Pt}, Grown' ps qs → Grown' (ps ++ qs) rs → Grown' ps (qs ++ rs) := by
 induction qs with
 | nil => intro ps _ h; simpa using h
 | cons q qs ih =>
   intro ps h1 h2
   exact ⟨h1.1, ih h1.2 (by simpa using h2)⟩
theorem lk_mem {ns : Nms} {s : List UInt8} {m : Mn} (h : lk ns s = some m) : (s, m) ∈ ns := by
 unfold lk at h
 cases hf : ns.find? (fun x => x.1 == s) with
 | none => rw [hf] at h; cases h
 | some x =>
   rw [hf] at h
   simp only [Option.map_some, Option.some.injEq] at h
   have h1 := List.mem_of_find?_eq_some hf
   have h2 := List.find?_some hf
   simp only [beq_iff_eq] at h2
   rw [← h2, ← h]
   exact h1
theorem known_ok {ns : Nms} {n : Nd} {ws : List (List UInt8)} {m : Mn} (h : known ns n ws = .ok m) : (n.s, m) ∈ ns ∧ m.word ∈ ws := by
 unfold known at h
 cases hl : lk ns n.s with
 | none => rw [hl] at h; cases h
 | some m' =>
   rw [hl] at h
   simp only at h
   split at h
   · rename_i hw
     cases h
     refine ⟨lk_mem hl, ?_⟩
     simp only [List.any_eq_true, beq_iff_eq] at hw
     obtain ⟨y, hy, e⟩ := hw
     rw [e]
     exact hy
   · cases h
theorem known_node {ns : Nms} {ps : List Pt} (hn : NmOk ns ps) {n : Nd} {m : Mn} (h : known ns n [wDevice, wVolume] = .ok m) : NdOk ps m.node := by
 obtain ⟨h1, h2⟩ := known_ok h
 refine (hn _ h1).1 ?_
 simpa using h2
theorem known_key {ns : Nms} {ps : List Pt} (hn : NmOk ns ps) {n : Nd} {m : Mn} {w : List UInt8} (hw : w = wKey ∨ w = wRoot) (h : known ns n [w] = .ok m) : m.bytes.length = 32 := by
 obtain ⟨h1, h2⟩ := known_ok h
 refine (hn _ h1).2 ?_
 have : m.word = w := by simpa using h2
 rw [this]
 exact hw
theorem pos_of_ne {x : Nat} (h : ¬ x = 0) : 1 ≤ x := by omega
theorem dI_le (n : Nat) : dI n ≤ 8192 := (grt_is _ _).1
theorem dV_le (n : Nat) : dV n ≤ 2048 := (grt_is _ _).1
structure ShapeOk (n : Nd) (K : Nat) : Prop where
 pos : 1 ≤ K
 lin : n.op = wLinear → K = 1 ∧ 0 ≤ (nthN n.l 1).n ∧ 0 ≤ (nthN n.l 2).n
 one : (n.op ≠ wConcat ∧ n.op ≠ wMirror ∧ n.op ≠ wSnapshot) → K = 1
 snap : n.op = wSnapshot → K = 2
theorem sum_ge (f : Nat → Nat) (l : List Nat) (k : Nat) (h : k ∈ l) : f k ≤ (l.map f).sum := by
 induction l with
 | nil => cases h
 | cons a l ih =>
   simp only [List.map_cons, List.sum_cons]
   rcases List.mem_cons.1 h with rfl | h'
   · omega
   · have := ih h'
     omega
theorem getD_mem {l : List Nat} {k : Nat} (h : k < l.length) : l.getD k 0 ∈ l := by
 rw [List.getD_eq_getElem?_getD, List.getElem?_eq_getElem h]
 exact List.getElem_mem h
theorem cpart_ok0 {ns : Nms} {ps : List Pt} {n : Nd} {ks : List Nat} {p : Pt} (hn : NmOk ns ps) (hk : ∀ k ∈ ks, NdOk ps k) (hs : ShapeOk n ks.length) (h : cpart ns ps n ks = .ok p) : PtOk0 ps p ∧ p.kids = ks := by
 have h0 : ks ≠ [] := by intro e; have := hs.pos; rw [e] at this; simp at this
 have k0 : NdOk ps (ks.getD 0 0) := hk _ (getD_mem (by have := hs.pos; omega))
 unfold cpart at h
 by_cases e1 : n.op = wLinear
 · rw [if_pos e1] at h
   obtain ⟨hl1, hl2, hl3⟩ := hs.lin e1
   split at h
   · rename_i hc
     cases h
     refine ⟨⟨hk, h0, (by show 1 ≤ Int.toNat _; omega), (by show Int.toNat _ ≤ 8192; have := k0.2.2; omega), ⟨by simp, by simp⟩, fun _ => ?_, (by intro e; cases e), (by intro e; cases e), (by intro e; cases e), (by intro e; cases e), fun _ => hl1⟩, rfl⟩
     show (nthN n.l 1).n.toNat + (nthN n.l 2).n.toNat ≤ sz ps (ks.getD 0 0)
     omega
   · cases h
 · rw [if_neg e1] at h
   by_cases e2 : n.op = wConcat ∨ n.op = wMirror
   · rw [if_pos e2] at h
     unfold cseveral at h
     split at h
     · cases h
     · split at h
       · split at h
         · rename_i hc
           cases h
           refine ⟨⟨hk, h0, ?_, hc, ⟨by simp, by simp⟩, (by intro e; cases e), fun _ => rfl, (by intro e; cases e), (by intro e; cases e), (by intro e; cases e), (by rintro (e | e | e | e) <;> cases e)⟩, rfl⟩
           have := sum_ge (sz ps) ks _ (getD_mem (k := 0) (by have := hs.pos; omega))
           have := k0.2.1
           show 1 ≤ (ks.map (sz ps)).sum
           omega
         · cases h
       · split at h
         · rename_i hc
           cases h
           refine ⟨⟨hk, h0, k0.2.1, k0.2.2, ⟨by simp, by simp⟩, (by intro e; cases e), (by intro e; cases e), fun _ k hk' => ?_, (by intro e; cases e), (by intro e; cases e), (by rintro (e | e | e | e) <;> cases e)⟩, rfl⟩
           have := List.all_eq_true.1 hc k hk'
           simpa using this
         · cases h
   · rw [if_neg e2] at h
     by_cases e3 : n.op = wSnapshot
     · rw [if_pos e3] at h
       split at h
       · cases h
       · split at h
         · cases h
         · cases h
           exact ⟨⟨hk, h0, k0.2.1, k0.2.2, ⟨by simp, by simp⟩, (by intro e; cases e), (by intro e; cases e), (by intro e; cases e), fun _ => ⟨hs.snap e3, rfl⟩, (by intro e; cases e), (by rintro (e | e | e | e) <;> cases e)⟩, rfl⟩
     · rw [if_neg e3] at h
       have h1 : ks.length = 1 := hs.one ⟨fun e => e2 (.inl e), fun e => e2 (.inr e), e3⟩
       unfold csecured at h
       split at h
       · split at h
         · cases h
         · split at h
           · cases h
           · cases h
             exact ⟨⟨hk, h0, k0.2.1, k0.2.2, ⟨by simp, by simp⟩, (by intro e; cases e), (by intro e; cases e), (by intro e; cases e), (by intro e; cases e), fun _ => rfl, fun _ => h1⟩, rfl⟩
       · split at h
         · split at h
           · cases h
           · split at h
             · cases h
             · rename_i hd
               have hD := dI_le (sz ps (ks.getD 0 0))
               generalize dI (sz ps (ks.getD 0 0)) = D at h hd hD
               cases h
               exact ⟨⟨hk, h0, pos_of_ne hd, hD, ⟨by simp, by simp⟩, (by intro e; cases e), (by intro e; cases e), (by intro e; cases e), (by intro e; cases e), (by intro e; cases e), fun _ => h1⟩, rfl⟩
         · split at h
           · cases h
           · split at h
             · cases h
             · rename_i hd
               have hD := dV_le (sz ps (ks.getD 0 0))
               generalize dV (sz ps (ks.getD 0 0)) = D at h hd hD
               cases h
               exact ⟨⟨hk, h0, pos_of_ne hd, Nat.le_trans hD (by decide), ⟨by simp, by simp⟩, (by intro e; cases e), (by intro e; cases e), (by intro e; cases e), (by intro e; cases e), (by intro e; cases e), fun _ => h1⟩, rfl⟩
theorem cpart_len {ns : Nms} {ps : List Pt} {n : Nd} {ks : List Nat} {p : Pt} (hs : ShapeOk n ks.length) (h : cpart ns ps n ks = .ok p) : ks.length ≤ 4 := by
 by_cases h1 : n.op = wConcat ∨ n.op = wMirror
 · unfold cpart at h
   rw [if_neg (by rcases h1 with e | e <;> rw [e] <;> decide), if_pos h1] at h
   unfold cseveral at h
   by_cases q : 2 ≤ ks.length ∧ ks.length ≤ 4
   · exact q.2
   · rw [if_pos q] at h
     cases h
 · by_cases h2 : n.op = wSnapshot
   · rw [hs.snap h2]; decide
   · rw [hs.one ⟨fun e => h1 (.inl e), fun e => h1 (.inr e), h2⟩]; decide
theorem cpart_first {ns : Nms} {ps : List Pt} {n : Nd} {ks : List Nat} {p : Pt} (hs : ShapeOk n ks.length) (k0 : NdOk ps (ks.getD 0 0)) (h : cpart ns ps n ks = .ok p) : p.first ≤ 8192 := by
 unfold cpart at h
 by_cases e1 : n.op = wLinear
 · rw [if_pos e1] at h
   obtain ⟨hl1, hl2, hl3⟩ := hs.lin e1
   split at h
   · rename_i hc
     cases h
     show Int.toNat _ ≤ 8192
     have := k0.2.2
     omega
   · cases h
 · rw [if_neg e1] at h
   unfold cseveral csecured at h
   repeat' split at h
   all_goals first
    | cases h; done
    | (cases h; exact Nat.zero_le _)
theorem cpart_ok {ns : Nms} {ps : List Pt} {n : Nd} {ks : List Nat} {p : Pt} (hn : NmOk ns ps) (hk : ∀ k ∈ ks, NdOk ps k) (hs : ShapeOk n ks.length) (h : cpart ns ps n ks = .ok p) : PtOk ps p ∧ p.kids = ks := by
 obtain ⟨h1, h2⟩ := cpart_ok0 hn hk hs h
 exact ⟨⟨h1, by rw [h2]; exact cpart_len hs h, cpart_first hs (hk _ (getD_mem (by have := hs.pos; omega))) h⟩, h2⟩
theorem ckids_ok {f : List Pt → Nd → Except Er (Nat × List Pt)} (l : List Nd) : ∀ {ps : List Pt} {ks : List Nat} {p' : List Pt}, (∀ qs x, x ∈ l → ∀ k p1, f (ps ++ qs) x = .ok (k, p1) → ∃ rs, p1 = ps ++ qs ++ rs ∧ NdOk p1 k ∧ Grown' (ps ++ qs) rs) → ckids f ps l = .ok (ks, p') → ∃ rs, p' = ps ++ rs ∧ (∀ k ∈ ks, NdOk p' k) ∧ Grown' ps rs ∧ ks.length = l.length := by
 induction l with
 | nil =>
   intro ps ks p' _ h
   cases h
   exact ⟨[], by simp, (fun k hk => by cases hk), trivial, rfl⟩
 | cons x l ih =>
   intro ps ks p' hf h
   unfold ckids at h
   cases h1 : f ps x with
   | error e => rw [h1] at h; cases h
   | ok r =>
     obtain ⟨k, p1⟩ := r
     rw [h1] at h
     simp only at h
     cases h2 : ckids f p1 l with
     | error e => rw [h2] at h; cases h
     | ok r2 =>
       obtain ⟨ks2, p2⟩ := r2
       rw [h2] at h
       cases h
       obtain ⟨rs, e1, hk1, hg1⟩ := hf [] x List.mem_cons_self k p1 (by simpa using h1)
       simp only [List.append_nil] at e1 hg1
       subst e1
       obtain ⟨rs2, e2, hk2, hg2, hl⟩ := ih (ps := ps ++ rs) (fun qs y hy k p1 hr => by
        have := hf (rs ++ qs) y (List.mem_cons_of_mem _ hy) k p1 (by simpa using hr)
        simpa using this) h2
       subst e2
       refine ⟨rs ++ rs2, by simp, fun j hj => ?_, hg1.app (by simpa using hg2), by simp [hl]⟩
       rcases List.mem_cons.1 hj with rfl | hj'
       · exact hk1.more rs2
       · exact hk2 j hj'
inductive ExOk : Nat → Nd → Prop where
 | use (d : Nat) (n : Nd) : n.op = wUse → ExOk (d + 1) n
 | mk (d : Nat) (n : Nd) : n.op ≠ wUse → ShapeOk n (kidsOf n).length → (∀ x ∈ kidsOf n, ExOk d x) → ExOk (d + 1) n
theorem cexpr_ok {ns : Nms} (d : Nat) : ∀ {ps : List Pt} {n : Nd} {k : Nat} {p' : List Pt}, NmOk ns ps → ExOk d n → cexpr ns d ps n = .ok (k, p') → ∃ rs, p' = ps ++ rs ∧ NdOk p' k ∧ Grown' ps rs := by
 induction d with
 | zero => intro ps n k p' _ _ h; cases h
 | succ d ih =>
   intro ps n k p' hn hx h
   unfold cexpr at h
   cases hx with
   | use _ _ e =>
     rw [if_pos e] at h
     cases hk : known ns n [wDevice, wVolume] with
     | error e => rw [hk] at h; cases h
     | ok m =>
       rw [hk] at h
       cases h
       exact ⟨[], by simp, known_node hn hk, trivial⟩
   | mk _ _ e hs hl =>
     rw [if_neg e] at h
     cases hc : ckids (cexpr ns d) ps (kidsOf n) with
     | error e => rw [hc] at h; cases h
     | ok r =>
       obtain ⟨ks, p1⟩ := r
       rw [hc] at h
       simp only at h
       obtain ⟨rs, e1, hk1, hg1, hlen⟩ := ckids_ok (kidsOf n) (fun qs x hx k p1 hr => by
        obtain ⟨rs, e, h1, h2⟩ := ih (hn.more qs) (hl x hx) hr
        exact ⟨rs, e, h1, h2⟩) hc
       subst e1
       split at h
       · cases h
       · cases hp : cpart ns (ps ++ rs) n ks with
         | error e => rw [hp] at h; cases h
         | ok p =>
           rw [hp] at h
           cases h
           obtain ⟨hp1, hp2⟩ := cpart_ok (hn.more rs) hk1 (by rw [hlen]; exact hs) hp
           refine ⟨rs ++ [p], by simp, ⟨by simp, ?_⟩, hg1.app ⟨hp1, trivial⟩⟩
           unfold sz
           rw [part_mid]
           exact ⟨hp1.lo, hp1.hi⟩
end
section
open Go.ChangeShapes Go.WideShapes Go.ChangeAt Go.RowKit
theorem ret_bool {a b : Bool} (h : a = b) : Ending.returned (.bool a) = .returned (.bool b) := by rw [h]
theorem u8_eq (c : UInt8) (k : Nat) (hk : k < 256) : (c == UInt8.ofNat k) = decide ((c.toNat : Int) = (k : Int)) := by
 rw [Bool.eq_iff_iff]
 simp only [beq_iff_eq, decide_eq_true_eq]
 constructor
 · rintro rfl; simp; omega
 · intro h
   apply UInt8.toNat_inj.1
   simp
   omega
theorem isBlk_eq (c : UInt8) : isBlk c = (decide ((c.toNat : Int) = 9) || decide ((c.toNat : Int) = 10) || decide ((c.toNat : Int) = 13) || decide ((c.toNat : Int) = 32)) := by
 have h1 := u8_eq c 9 (by decide)
 have h2 := u8_eq c 10 (by decide)
 have h3 := u8_eq c 13 (by decide)
 have h4 := u8_eq c 32 (by decide)
 unfold isBlk
 exact congr (congrArg or (congr (congrArg or (congr (congrArg or h1) h2)) h3)) h4
theorem isLin_eq (c : UInt8) : isLin c = !decide ((c.toNat : Int) = 10) := congrArg not (u8_eq c 10 (by decide))
theorem isFig_eq (c : UInt8) : isFig c = (decide (48 ≤ (c.toNat : Int)) && decide ((c.toNat : Int) ≤ 57)) := by
 unfold isFig; congr 1 <;> exact decide_eq_decide.2 (by omega)
theorem isSml_eq (c : UInt8) : isSml c = (decide (97 ≤ (c.toNat : Int)) && decide ((c.toNat : Int) ≤ 122)) := by
 unfold isSml; congr 1 <;> exact decide_eq_decide.2 (by omega)
theorem isLet_eq (c : UInt8) : isLet c = (isSml c || decide ((c.toNat : Int) = 95)) := by
 unfold isLet; exact congrArg (or (isSml c)) (u8_eq c 95 (by decide))
theorem isHxy_eq (c : UInt8) : isHxy c = (isFig c || (decide (97 ≤ (c.toNat : Int)) && decide ((c.toNat : Int) ≤ 102))) := by
 unfold isHxy; congr 2 <;> exact decide_eq_decide.2 (by omega)
def Tells (f : Nat) (p : UInt8 → Bool) : Prop := ∀ (c : UInt8) (w : World), Calls Tryz.prog f #[.int .u8 (c.toNat : Int)] w fun e w' => e = .returned (.bool (p c)) ∧ w' = w
theorem blank_tells : Tells 97 isBlk := by
 intro c w
 go_enter Tryz.func97, Tryz.ntmps97
 go_wp2
 all_goals
  go_ret
  refine ⟨ret_bool ?_, rfl⟩
  rw [isBlk_eq, Bool.eq_iff_iff]
  simp
  try omega
theorem line_tells : Tells 99 isLin := by
 intro c w
 go_enter Tryz.func99, Tryz.ntmps99
 go_wp2
 all_goals
  go_ret
  refine ⟨ret_bool ?_, rfl⟩
  rw [isLin_eq, Bool.eq_iff_iff]
  simp
  try omega
theorem figure_tells : Tells 102 isFig := by
 intro c w
 go_enter Tryz.func102, Tryz.ntmps102
 go_wp2
 all_goals
  go_ret
  refine ⟨ret_bool ?_, rfl⟩
  rw [isFig_eq, Bool.eq_iff_iff]
  simp
  try omega
theorem small_tells : Tells 100 isSml := by
 intro c w
 go_enter Tryz.func100, Tryz.ntmps100
 go_wp2
 all_goals
  go_ret
  refine ⟨ret_bool ?_, rfl⟩
  rw [isSml_eq, Bool.eq_iff_iff]
  simp
  try omega
theorem letter_tells : Tells 105 isLet := by
 intro c w
 rw [isLet_eq]
 have hs := small_tells c
 cases e : isSml c
 all_goals
  rw [e] at hs
  clear e
  go_enter Tryz.func105, Tryz.ntmps105
  go_wp2_with (go_at_call 100; refine (hs _).mono ?_; rintro e w' ⟨rfl, rfl⟩)
  all_goals
   go_ret
   refine ⟨ret_bool ?_, rfl⟩
   rw [Bool.eq_iff_iff]
   simp
   try omega
theorem word_tells : Tells 127 isWdy := by
 intro c w
 unfold isWdy
 have hs := letter_tells c
 have hf := figure_tells c
 generalize isFig c = b at hf ⊢
 cases e : isLet c
 all_goals
  rw [e] at hs
  clear e
  go_enter Tryz.func127, Tryz.ntmps127
  go_wp2_with (first
   | (go_at_call 105; refine (hs _).mono ?_; rintro e w' ⟨rfl, rfl⟩)
   | (go_at_call 102; refine (hf _).mono ?_; rintro e w' ⟨rfl, rfl⟩))
  all_goals
   go_ret
   exact ⟨ret_bool (by simp), rfl⟩
theorem hex_tells : Tells 129 isHxy := by
 intro c w
 rw [isHxy_eq]
 have hf := figure_tells c
 cases e : isFig c
 all_goals
  rw [e] at hf
  clear e
  go_enter Tryz.func129, Tryz.ntmps129
  go_wp2_with (go_at_call 102; refine (hf _).mono ?_; rintro e w' ⟨rfl, rfl⟩)
  all_goals
   go_ret
   refine ⟨ret_bool ?_, rfl⟩
   rw [Bool.eq_iff_iff]
   simp
   try omega
end
section
open Go.ChangeShapes Go.WideShapes Go.ChangeAt Go.RowKit
abbrev pt (p : Nat) : Value := .pointer (some ⟨p, 0, none⟩)
def bs (l : List UInt8) : ByteArray := ⟨l.toArray⟩
theorem bs_size (l : List UInt8) : (bs l).size = l.length := by simp [bs, ByteArray.size]
theorem bs_get (l : List UInt8) (k : Nat) (h : k < (bs l).size) : (bs l)[k]'h = l[k]'(by rw [bs_size] at h; exact h) := by simp [bs, ByteArray.getElem_eq_getElem_data]
theorem bs_extract (l : List UInt8) (a b : Nat) : (bs l).extract a b = bs ((l.drop a).take (b - a)) := ByteArray.extract_mk l a b
structure Moved (w w' : World) (P j : Nat) : Prop where
 has : Has w' P 3 #[.int .i64 (j : Nat)]
 size : w'.heap.size = w.heap.size
 grown : w.grownBy w' (some P)
theorem Moved.other {w w' : World} {P j g t : Nat} {cs : Array Value} (h : Moved w w' P j) (hg : Has w g t cs) (hne : g ≠ P) : Has w' g t cs :=
 (h.grown.block g hg.lt (fun e => hne (by injection e))).trans hg
theorem Moved.below {w w' : World} {P j B : Nat} (h : Moved w w' P j) (hB : B ≤ P) (hw : B ≤ w.heap.size) : Below B w w' :=
 ⟨h.grown.os, h.grown.tape, h.grown.output, h.grown.size, fun k hk => h.grown.block k (by omega) (fun e => by injection e; omega)⟩
theorem Moved.refl {w : World} {P j : Nat} (h : Has w P 3 #[.int .i64 (j : Nat)]) : Moved w w P j := ⟨h, rfl, grownBy_refl _ _⟩
theorem Moved.drewN {w w' : World} {P j : Nat} (h : Moved w w' P j) (m : Nat) : Moved w (w'.drewN m) P j := ⟨h.has.drewN m, h.size, ⟨h.grown.os, h.grown.tape, h.grown.output, h.grown.size, h.grown.block⟩⟩
theorem Moved.set {w w' : World} {P j : Nat} (h : Moved w w' P j) (k : Nat) : Moved w (w'.setCell ⟨P, 0, none⟩ (.int .i64 (k : Nat))) P k := by
 have hh : w'.heap[P]? = some (.cells #[.int .i64 (j : Nat)] 3 (0, 0)) := h.has
 refine ⟨?_, ?_, ?_⟩
 · show (w'.setCell ⟨P, 0, none⟩ _).heap[P]? = _
   simp [World.setCell, Array.getElem?_modify, hh]
 · simp [World.setCell, h.size]
 · refine ⟨h.grown.os, h.grown.tape, h.grown.output, by simp [World.setCell, h.grown.size], fun g hg hne => ?_⟩
   rw [← h.grown.block g hg hne]
   exact Below.heap_setCell w' ⟨P, 0, none⟩ _ g (fun e => hne (by rw [e]))
theorem Moved.trans {w w' w'' : World} {P j k : Nat} (h : Moved w w' P j) (h' : Moved w' w'' P k) : Moved w w'' P k :=
 ⟨h'.has, h'.size.trans h.size, ⟨h'.grown.os.trans h.grown.os, h'.grown.tape.trans h.grown.tape, h'.grown.output.trans h.grown.output, by rw [h'.size, h.size]; exact Nat.le_refl _, fun g hg hne => (h'.grown.block g (by rw [h.size]; exact hg) hne).trans (h.grown.block g hg hne)⟩⟩
def TookK (w : World) (P : Nat) (l : List UInt8) (i n : Nat) (e : Ending) (w' : World) : Prop := e = .returned (.string (bs ((l.drop i).take n))) ∧ Moved w w' P (i + n)
theorem cnt_at {p : UInt8 → Bool} {l : List UInt8} {i k : Nat} (hk : k ≤ cnt p (l.drop i)) (h : i + k < l.length) : k < cnt p (l.drop i) ↔ p (l[i + k]) = true := by
 induction k generalizing i with
 | zero =>
   rw [List.drop_eq_getElem_cons (by omega), cnt_cons]
   simp only [Nat.add_zero]
   split <;> simp_all
 | succ k ih =>
   rw [List.drop_eq_getElem_cons (by omega), cnt_cons] at hk ⊢
   split at hk
   · rename_i hp
     rw [if_pos hp]
     have := ih (i := i + 1) (by omega) (by omega)
     have e : l[i + (k + 1)] = l[i + 1 + k] := by congr 1; omega
     rw [e]
     constructor
     · intro hh; exact this.1 (by omega)
     · intro hh; have := this.2 hh; omega
   · omega
theorem cnt_end {p : UInt8 → Bool} {l : List UInt8} {i k : Nat} (hk : k ≤ cnt p (l.drop i)) (h : ¬ i + k < l.length) (hi : i ≤ l.length) : k = cnt p (l.drop i) := by
 have := cnt_le p (l.drop i)
 rw [List.length_drop] at this
 omega
theorem cnt_stop {p : UInt8 → Bool} {l : List UInt8} {i k : Nat} (hk : k ≤ cnt p (l.drop i)) (h : i + k < l.length) (hp : p (l[i + k]) = false) : k = cnt p (l.drop i) := by
 have := (cnt_at hk h)
 rw [hp] at this
 simp at this
 omega
theorem took_end {w wr : World} {P i k J n : Nat} {l : List UInt8} (hJ : J = i + k) (hn : k = n) (hm : Moved w wr P (i + k)) : TookK w P l i n (.returned (.string ((bs l).extract i J))) wr := by
 subst hJ hn
 refine ⟨?_, hm⟩
 rw [bs_extract, Nat.add_sub_cancel_left]
theorem took_step {w wr : World} {P i k J : Nat} (hJ : J = i + k) (hm : Moved w wr P (i + k)) : Moved w (wr.setCell ⟨P, 0, none⟩ (.int .i64 ((J : Int) + 1))) P (i + (k + 1)) := by
 have := hm.set (i + (k + 1))
 rw [show ((i + (k + 1) : Nat) : Int) = (J : Int) + 1 by omega] at this
 exact this
def atP (wr : World) (P : Nat) : Nat := match wr.cell? ⟨P, 0, none⟩ with | some (.int _ z) => z.toNat | _ => 0
theorem atP_eq {w wr : World} {P j : Nat} (hm : Moved w wr P j) : atP wr P = j := by
 have : wr.cell? ⟨P, 0, none⟩ = some (.int .i64 (j : Nat)) := hm.has.cell 0
 simp [atP, this]
theorem took_less {w wr : World} {P i k J : Nat} {l : List UInt8} (hJ : J = i + k) (hm : Moved w wr P (i + k)) (h : J ≤ 2000) (hlt : i + k < l.length) (hl : l.length ≤ 2000) : 2000 - atP (wr.setCell ⟨P, 0, none⟩ (.int .i64 ((J : Int) + 1))) P < 2000 - atP wr P := by
 rw [atP_eq hm, atP_eq (took_step hJ hm)]
 omega
end
section
open Go.ChangeShapes Go.WideShapes Go.ChangeAt Go.RowKit
theorem take_blank {w : World} {P Q S i : Nat} (l : List UInt8) (hP : Has w P 3 #[.int .i64 (i : Nat)]) (hQ : Has w Q 146 #[pt P]) (hS : Has w S 9 #[.string (bs l)]) (hQP : Q ≠ P) (hSP : S ≠ P) (hi : i ≤ l.length) (hl : l.length ≤ 2000) :
  Calls Tryz.prog 125 #[.func (.func 97) #[] #[], pt Q, pt S] w (TookK w P l i (cnt isBlk (l.drop i))) := by
 have hsz := bs_size l
 have p0 : w.cell? ⟨P, 0, none⟩ = some (.int .i64 (i : Nat)) := hP.cell 0
 have q0 : w.cell? ⟨Q, 0, none⟩ = some (pt P) := hQ.cell 0
 have hi2 : i ≤ 2000 := by omega
 have HS : Hid ((bs l).size = l.length) := hsz
 clear hsz
 go_enter Tryz.func125, Tryz.ntmps125
 go_wp2
 go_loopw [] (fun wr => ∃ k : Nat, k ≤ cnt isBlk (l.drop i) ∧ i + k ≤ l.length ∧ Moved w wr P (i + k)) (fun wr => 2000 - atP wr P)
 case atStart => exact ⟨0, Nat.zero_le _, by omega, Moved.refl hP⟩
 case round =>
  obtain ⟨k, hk, hkl, hm⟩ := hrel
  have p1 : wr.cell? ⟨P, 0, none⟩ = some (.int .i64 ((i + k : Nat) : Int)) := hm.has.cell 0
  have q1 : wr.cell? ⟨Q, 0, none⟩ = some (pt P) := (hm.other hQ hQP).cell 0
  have s1 : wr.cell? ⟨S, 0, none⟩ = some (.string (bs l)) := (hm.other hS hSP).cell 0
  have f1 : wr.frozen? ⟨P, 0, none⟩ = false := hm.has.free 0
  obtain ⟨J, hJ⟩ : ∃ J, J = i + k := ⟨_, rfl⟩
  rw [← hJ] at p1
  have HJ : Hid (J = i + k) := hJ
  clear hJ p0 q0
  have hJ2 : J ≤ 2000 := by have := HJ.out; omega
  by_cases hlt : i + k < l.length
  · have h1 : J < (bs l).size := by rw [HS.out, HJ.out]; exact hlt
    have h2 : ((J : Nat) : Int) < ((bs l).size : Int) := by omega
    have hget : (bs l)[J]'h1 = l[i + k] := by rw [bs_get]; simp only [HJ.out]
    have ht := fun W => blank_tells ((bs l)[J]'h1) W
    cases hc : isBlk (l[i + k])
    · have hb : isBlk ((bs l)[J]'h1) = false := by rw [hget]; exact hc
      rw [hb] at ht
      have hn := cnt_stop hk hlt hc
      have HN : Hid (k = cnt isBlk (l.drop i)) := hn
      clear hn hb hget hc
      have b1 : ((i : Nat) : Int) ≤ ((J : Nat) : Int) := by have := HJ.out; omega
      have b2 : ((J : Nat) : Int) ≤ ((bs l).size : Int) := by omega
      go_wp2_with fail
      go_quiet ((go_at_call 97; exact Calls.quiet_of_same (ht _)))
      go_wp2
      go_quiet (fail)
      go_wp2
      go_ret
      exact took_end HJ.out HN.out ((hm.drewN _).drewN _)
    · have hb : isBlk ((bs l)[J]'h1) = true := by rw [hget]; exact hc
      rw [hb] at ht
      have hn := (cnt_at hk hlt).2 hc
      clear hb hget hc
      go_wp2_with fail
      go_quiet ((go_at_call 97; exact Calls.quiet_of_same (ht _)))
      go_wp2
      go_roundw
      case rel => exact ⟨k + 1, hn, by omega, took_step HJ.out (hm.drewN _)⟩
      case measure => exact took_less HJ.out (hm.drewN _) hJ2 hlt hl
  · have h1 : decide (J < (bs l).size) = false := by rw [decide_eq_false_iff_not, HS.out, HJ.out]; omega
    have h2 : decide (((J : Nat) : Int) < ((bs l).size : Int)) = false := by rw [decide_eq_false_iff_not, HS.out, HJ.out]; omega
    have hn := cnt_end hk hlt hi
    have HN : Hid (k = cnt isBlk (l.drop i)) := hn
    have b1 : ((i : Nat) : Int) ≤ ((J : Nat) : Int) := by have := HJ.out; omega
    have b2 : ((J : Nat) : Int) ≤ ((bs l).size : Int) := by rw [HS.out, HJ.out]; omega
    clear hn
    go_wp2_with fail
    go_quiet (fail)
    go_wp2
    go_quiet (fail)
    go_wp2
    go_ret
    exact took_end HJ.out HN.out ((hm.drewN _).drewN _)
end
section
open Go.ChangeShapes Go.WideShapes Go.ChangeAt Go.RowKit
theorem take_line {w : World} {P Q S i : Nat} (l : List UInt8) (hP : Has w P 3 #[.int .i64 (i : Nat)]) (hQ : Has w Q 146 #[pt P]) (hS : Has w S 9 #[.string (bs l)]) (hQP : Q ≠ P) (hSP : S ≠ P) (hi : i ≤ l.length) (hl : l.length ≤ 2000) :
  Calls Tryz.prog 125 #[.func (.func 99) #[] #[], pt Q, pt S] w (TookK w P l i (cnt isLin (l.drop i))) := by
 have hsz := bs_size l
 have p0 : w.cell? ⟨P, 0, none⟩ = some (.int .i64 (i : Nat)) := hP.cell 0
 have q0 : w.cell? ⟨Q, 0, none⟩ = some (pt P) := hQ.cell 0
 have hi2 : i ≤ 2000 := by omega
 have HS : Hid ((bs l).size = l.length) := hsz
 clear hsz
 go_enter Tryz.func125, Tryz.ntmps125
 go_wp2
 go_loopw [] (fun wr => ∃ k : Nat, k ≤ cnt isLin (l.drop i) ∧ i + k ≤ l.length ∧ Moved w wr P (i + k)) (fun wr => 2000 - atP wr P)
 case atStart => exact ⟨0, Nat.zero_le _, by omega, Moved.refl hP⟩
 case round =>
  obtain ⟨k, hk, hkl, hm⟩ := hrel
  have p1 : wr.cell? ⟨P, 0, none⟩ = some (.int .i64 ((i + k : Nat) : Int)) := hm.has.cell 0
  have q1 : wr.cell? ⟨Q, 0, none⟩ = some (pt P) := (hm.other hQ hQP).cell 0
  have s1 : wr.cell? ⟨S, 0, none⟩ = some (.string (bs l)) := (hm.other hS hSP).cell 0
  have f1 : wr.frozen? ⟨P, 0, none⟩ = false := hm.has.free 0
  obtain ⟨J, hJ⟩ : ∃ J, J = i + k := ⟨_, rfl⟩
  rw [← hJ] at p1
  have HJ : Hid (J = i + k) := hJ
  clear hJ p0 q0
  have hJ2 : J ≤ 2000 := by have := HJ.out; omega
  by_cases hlt : i + k < l.length
  · have h1 : J < (bs l).size := by rw [HS.out, HJ.out]; exact hlt
    have h2 : ((J : Nat) : Int) < ((bs l).size : Int) := by omega
    have hget : (bs l)[J]'h1 = l[i + k] := by rw [bs_get]; simp only [HJ.out]
    have ht := fun W => line_tells ((bs l)[J]'h1) W
    cases hc : isLin (l[i + k])
    · have hb : isLin ((bs l)[J]'h1) = false := by rw [hget]; exact hc
      rw [hb] at ht
      have hn := cnt_stop hk hlt hc
      have HN : Hid (k = cnt isLin (l.drop i)) := hn
      clear hn hb hget hc
      have b1 : ((i : Nat) : Int) ≤ ((J : Nat) : Int) := by have := HJ.out; omega
      have b2 : ((J : Nat) : Int) ≤ ((bs l).size : Int) := by omega
      go_wp2_with fail
      go_quiet ((go_at_call 99; exact Calls.quiet_of_same (ht _)))
      go_wp2
      go_quiet (fail)
      go_wp2
      go_ret
      exact took_end HJ.out HN.out ((hm.drewN _).drewN _)
    · have hb : isLin ((bs l)[J]'h1) = true := by rw [hget]; exact hc
      rw [hb] at ht
      have hn := (cnt_at hk hlt).2 hc
      clear hb hget hc
      go_wp2_with fail
      go_quiet ((go_at_call 99; exact Calls.quiet_of_same (ht _)))
      go_wp2
      go_roundw
      case rel => exact ⟨k + 1, hn, by omega, took_step HJ.out (hm.drewN _)⟩
      case measure => exact took_less HJ.out (hm.drewN _) hJ2 hlt hl
  · have h1 : decide (J < (bs l).size) = false := by rw [decide_eq_false_iff_not, HS.out, HJ.out]; omega
    have h2 : decide (((J : Nat) : Int) < ((bs l).size : Int)) = false := by rw [decide_eq_false_iff_not, HS.out, HJ.out]; omega
    have hn := cnt_end hk hlt hi
    have HN : Hid (k = cnt isLin (l.drop i)) := hn
    have b1 : ((i : Nat) : Int) ≤ ((J : Nat) : Int) := by have := HJ.out; omega
    have b2 : ((J : Nat) : Int) ≤ ((bs l).size : Int) := by rw [HS.out, HJ.out]; omega
    clear hn
    go_wp2_with fail
    go_quiet (fail)
    go_wp2
    go_quiet (fail)
    go_wp2
    go_ret
    exact took_end HJ.out HN.out ((hm.drewN _).drewN _)
end
section
def isNote (x : List UInt8) : Bool := x.take 2 == [47, 47]
theorem skp_blank (x : List UInt8) : skp false x = cnt isBlk x + skp false (x.drop (cnt isBlk x)) := by
 induction x with
 | nil => rfl
 | cons c t ih =>
   rw [cnt_cons]
   by_cases h : isBlk c = true
   · rw [if_pos h, List.drop_succ_cons]
     simp only [skp, if_pos h]
     omega
   · rw [if_neg h]
     simp
theorem skp_line (x : List UInt8) : skp true x = cnt isLin x + skp false (x.drop (cnt isLin x)) := by
 induction x with
 | nil => rfl
 | cons c t ih =>
   rw [cnt_cons]
   by_cases h : isLin c = true
   · have hc : (c == 10) = false := by simpa [isLin] using h
     rw [if_pos h, List.drop_succ_cons]
     simp only [skp, hc]
     simp
     omega
   · have hc : (c == 10) = true := by simpa [isLin] using h
     have hc' := eq_of_beq hc
     subst hc'
     simp [skp, isLin, isBlk]
theorem cnt_drop (p : UInt8 → Bool) (x : List UInt8) : cnt p (x.drop (cnt p x)) = 0 := by
 induction x with
 | nil => rfl
 | cons c t ih =>
   rw [cnt_cons]
   by_cases h : p c = true
   · rw [if_pos h, List.drop_succ_cons]; exact ih
   · rw [if_neg h, List.drop_zero, cnt_cons, if_neg h]
theorem note_of {x : List UInt8} (h : isNote x = true) : ∃ t, x = 47 :: 47 :: t := by
 match x, h with
 | [], h => cases h
 | [a], h => simp [isNote] at h
 | a :: b :: t, h => simp [isNote] at h; exact ⟨t, by rw [h.1, h.2]⟩
theorem skp_isNote {x : List UInt8} (h : isNote x = true) : skp false x = cnt isLin x + skp false (x.drop (cnt isLin x)) ∧ 2 ≤ cnt isLin x := by
 obtain ⟨t, rfl⟩ := note_of h
 constructor
 · rw [← skp_line]
   simp [skp, isBlk]
 · rw [cnt_cons, cnt_cons]
   simp [isLin]
theorem skp_zero {x : List UInt8} (h : cnt isBlk x = 0) (hn : isNote x = false) : skp false x = 0 := by
 match x, h, hn with
 | [], _, _ => rfl
 | c :: t, h, hn =>
   have hb : isBlk c = false := by
    rw [cnt_cons] at h
    cases e : isBlk c
    · rfl
    · rw [e] at h; simp at h
   simp only [skp, hb]
   have : (c == 47 && t.head? == some 47) = false := by
    cases t with
    | nil => simp
    | cons d u =>
      simp [isNote] at hn
      simp
      exact hn
   simp [this]
end
end Go.Proofs.YthndifegfmjpbaaGreatDoor
