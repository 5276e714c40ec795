/- Texts that the statements of this stage share, joined. -/
import Derived.Test.YthndifegfmjpbaaGreatDoorJoint34
import Derived.Test.YthndifegfmjpbaaGreatDoorJoint28
import Derived.Test.YthndifegfmjpbaaGreatDoorJoint20
import Derived.BigQuiet
import Derived.Deep.QuietTactic
namespace Go.Proofs.YthndifegfmjpbaaGreatDoor
set_option linter.unusedVariables false
set_option maxRecDepth 100000
set_option maxHeartbeats 40000000
section
open Go.ChangeShapes Go.WideShapes Go.ChangeAt Go.RowKit
def lvT : List UInt8 := [100, 101, 118, 105, 99, 101, 32, 97, 32, 49, 48, 59, 32, 100, 101, 118, 105, 99, 101, 32, 98, 32, 49, 48, 59, 32, 106, 111, 117, 114, 110, 97, 108, 32, 106, 32, 50, 53, 54, 59, 32, 118, 111, 108, 117, 109, 101, 32, 118, 32, 61, 32, 109, 105, 114, 114, 111, 114, 40, 97, 44, 32, 108, 105, 110, 101, 97, 114, 40, 98, 44, 32, 48, 44, 32, 49, 48, 41, 41, 59, 32, 101, 120, 112, 111, 114, 116, 32, 118, 59]
def lvE : Nd := .mk wMirror [] 0 52 [.mk wUse [97] 0 59 [], .mk wLinear [] 0 62 [.mk wUse [98] 0 69 [], .mk wNum [] 0 72 [], .mk wNum [] 10 75 []]]
def lvN : Nd := .mk wFile [] 0 0 [.mk wDevice [97] 10 0 [], .mk wDevice [98] 10 13 [], .mk wJournal [106] 256 26 [], .mk wVolume [118] 0 41 [lvE], .mk wExport [118] 0 81 []]
def lvS : Stk := ⟨[10, 10, 256], 2, [⟨1, 10, [], 0, 0, 0, [], []⟩, ⟨1, 10, [], 1, 0, 0, [], []⟩, ⟨2, 10, [1], 0, 0, 0, [], []⟩, ⟨4, 10, [0, 2], 0, 0, 0, [], []⟩], 3, false⟩
theorem lv_parse : Parse lvT = .ok lvN := by kernel_rfl
theorem lv_right : Right lvN = true := by kernel_rfl
theorem lv_chk : Chk lvN = .ok lvS := by kernel_rfl
theorem lv_check : CheckOf lvN = .ok lvS := by unfold CheckOf; rw [if_pos lv_right, lv_chk]
def LimL (l : List Nd) : Prop := ∀ x ∈ l, Lim x
theorem LimL.nil : LimL [] := fun x h => by cases h
theorem LimL.cons {x : Nd} {l : List Nd} (h : Lim x) (hl : LimL l) : LimL (x :: l) := fun y hy => by
 rcases List.mem_cons.1 hy with rfl | hy
 · exact h
 · exact hl y hy
theorem LimL.append {l m : List Nd} (h : LimL l) (hm : LimL m) : LimL (l ++ m) := fun y hy => (List.mem_append.1 hy).elim (h y) (hm y)
theorem lim_leaf (op s : List UInt8) (n a : Int) : Lim (.mk op s n a []) := .mk _ (by simp [Nd.l]) (fun x h => by cases h)
def LimN (k : Nat) (l : List Nd) : Prop := LimL l ∧ l.length ≤ k
theorem part_lim {pe : Par Nd} (h : Gp Lim pe) (k : Kd) : Gp Lim (ppart pe k) := by
 cases k
 · exact h
 · exact (Gp.take _).bind fun t ht => Gp.ret (lim_leaf _ _ _ _)
 · exact (Gp.take _).bind fun t ht => Gp.ret (lim_leaf _ _ _ _)
theorem kinds_lim {pe : Par Nd} (h : Gp Lim pe) (ks : List Kd) : ∀ b, Gp (LimN ks.length) (pkinds pe b ks) := by
 induction ks with
 | nil => intro b; cases b <;> exact Gp.ret ⟨LimL.nil, Nat.le_refl _⟩
 | cons k ks ih =>
   intro b
   cases b
   · exact (Gp.take _).bind fun _ _ => (part_lim h k).bind fun _ hx => (ih false).bind fun _ hl => Gp.ret ⟨hl.1.cons hx, by have := hl.2; simp; omega⟩
   · exact (part_lim h k).bind fun _ hx => (ih false).bind fun _ hl => Gp.ret ⟨hl.1.cons hx, by have := hl.2; simp; omega⟩
theorem more_lim {pe : Par Nd} (h : Gp Lim pe) (f : Nat) : Gp (LimN f) (pmore pe f) := by
 induction f with
 | zero => exact Gp.ret ⟨LimL.nil, Nat.le_refl _⟩
 | succ f ih => exact Gp.fork _ ((Gp.take _).bind fun _ _ => h.bind fun _ hx => ih.bind fun _ hl => Gp.ret ⟨hl.1.cons hx, by have := hl.2; simp; omega⟩) (Gp.ret ⟨LimL.nil, Nat.zero_le _⟩)
theorem expr_lim (d : Nat) : Gp Lim (pexpr d) := by
 induction d with
 | zero => intro en ts hg x r hx; cases hx
 | succ d ih =>
   exact (Gp.take _).bind fun t ht => Gp.ite _ (Gp.ret (lim_leaf _ _ _ _))
    (((Gp.take _).bind fun _ _ => (kinds_lim ih _ _).bind fun _ hl => (Gp.ite (R := LimN 501) _ (more_lim ih 501) (Gp.ret ⟨LimL.nil, Nat.zero_le _⟩)).bind fun _ hm => (Gp.take _).bind fun _ _ => Gp.ret (R := fun l => LimL l ∧ l.length ≤ 600) ⟨hl.1.append hm.1, by have h1 := hl.2; have h2 := hm.2; have h3 := inside_len t.1.s; rw [List.length_append]; omega⟩).bind fun _ hl => Gp.ret (.mk _ (by have := hl.2; show _ ≤ 80000; simp only [Nd.l]; omega) hl.1))
theorem stmt_lim : Gp Lim pstmt := by
 refine (Gp.take _).bind fun t ht => (Gp.take _).bind fun u hu => ?_
 have hr : Gp (fun x : Int × List Nd => LimN 1 x.2) (prest t.1.s) := by
  unfold prest
  exact Gp.ite _ ((Gp.take _).bind fun _ _ => Gp.ret ⟨LimL.nil, Nat.zero_le _⟩) (Gp.ite _ ((Gp.take _).bind fun v hv => Gp.ret ⟨LimL.nil.cons (lim_leaf _ _ _ _), Nat.le_refl _⟩)
   (Gp.ite _ ((Gp.take _).bind fun _ _ => (expr_lim 12).bind fun _ hx => Gp.ret ⟨LimL.nil.cons hx, Nat.le_refl _⟩) (Gp.fork _ ((Gp.take _).bind fun _ _ => Gp.ret ⟨LimL.nil, Nat.zero_le _⟩) (Gp.ret ⟨LimL.nil, Nat.zero_le _⟩))))
 exact hr.bind fun x hx => (Gp.take _).bind fun _ _ => Gp.ret (.mk _ (by have := hx.2; simp only [Nd.l]; omega) hx.1)
theorem file_lim (f : Nat) : Gp LimL (pfile f) := by
 induction f with
 | zero => exact Gp.ret LimL.nil
 | succ f ih =>
   have hb : Gp LimL (pbind pstmt fun n => pbind (pfile f) fun l => pret (n :: l)) := stmt_lim.bind fun _ hx => ih.bind fun _ hl => Gp.ret (hl.cons hx)
   intro en ts hg x r hx
   cases ts with
   | nil => cases hx; exact ⟨LimL.nil, hg⟩
   | cons t ts => exact hb en (t :: ts) hg x r hx
theorem Parse_lim {x : List UInt8} {n : Nd} (h : Parse x = .ok n) : Lim n := by
 have hs := Parse_short h
 obtain ⟨ts, l, hS, hp, rfl⟩ := Parse_ok h
 exact .mk _ (by omega) (file_lim 501 _ ts (Scan_len hS).2 l [] hp).1
theorem NdR.rdn {w : World} {P : Nat → Prop} {n : Nd} {A : Option Addr} {C : Nat} (h : NdR w P n.l (.slice A n.l.length C)) (hs : Sml n) : RdN w n A C :=
 ⟨h.rd hs.l, by have := hs.s; unfold maxLen; omega, by have := hs.op; unfold maxLen; omega⟩
def zNd : Nd := .mk [] [] 0 0 []
theorem zNd_rd (w : World) : RdN w zNd none 0 := ⟨.mk [] [] none 0 rfl (Nat.le_refl _) (by omega) (fun i h => absurd h (Nat.not_lt_zero _)) (fun i h => absurd h (Nat.not_lt_zero _)) (fun x h => by cases h), by unfold maxLen; decide, by unfold maxLen; decide⟩
theorem zNd_lim : Lim zNd := lim_leaf _ _ _ _
end
section
open Go.ChangeShapes Go.WideShapes Go.ChangeAt Go.RowKit
theorem StkAt.pts {w : World} {B : Nat} {s : Stk} {vd vp : Value} (h : StkAt w B s vd vp) (hn : 0 < s.parts.length) : ∃ g off C, vp = .slice (some ⟨g, off, none⟩) s.parts.length C ∧ s.parts.length ≤ C ∧ C ≤ maxLen ∧ g < w.heap.size ∧ B ≤ g ∧ PtsAt w w.heap.size (some ⟨g, off, none⟩) s.parts := by
 obtain ⟨us, e1, hp, hin⟩ := h.prts
 obtain ⟨g, C, e, h1, h2, h3, h3', h4⟩ := row_at hp hn
 refine ⟨g, 0, C, e, h1, h2, h3, h3', fun i hi => ⟨g, 0, us[i]'(by omega), rfl, h3, h3, fun j hj => ?_, (hin i hi (by omega)).keep (Nat.le_refl _) (fun k hk _ => ⟨rfl, hk⟩)⟩⟩
 rw [Nat.zero_add, h4 _ (by omega), ptl_get _ us e1 i hi j hj]
theorem PtsAt.two {w : World} {B g off : Nat} {ps : List Pt} (h : PtsAt w B (some ⟨g, off, none⟩) ps) {i : Nat} (hi : i < ps.length) : w.cell? ⟨g, off + i * 8, none⟩ = some (.int .i64 (ps[i].kind : Nat)) ∧ w.cell? ⟨g, off + i * 8 + 1, none⟩ = some (.int .i64 (ps[i].size : Nat)) := by
 obtain ⟨g', off', u, e, _, _, hc, _⟩ := h i hi
 cases e
 exact ⟨hc 0 (by decide), hc 1 (by decide)⟩
theorem lv_sml : Sml lvN := Parse_sml lv_parse
theorem lv_lim : Lim lvN := Parse_lim lv_parse
theorem lv_ck (W : World) (A : Option Addr) (C : Nat) (h : RdN W lvN A C) : Calls Tryz.prog 11 #[.agg #[.string ⟨#[102, 105, 108, 101]⟩, .string ⟨#[]⟩, .int .i64 0, .int .i64 0, .slice A 5 C]] W fun e w' => ∃ Ad Cd g o2 o3 off Cp, e = .returned (.tuple #[.agg #[.slice Ad 3 Cd, .int .i64 2, .slice (some ⟨g, off, none⟩) 4 Cp, .int .i64 3, .bool false], .int .i64 0, .int .i64 (-1)]) ∧ Below W.heap.size W w' ∧ g < w'.heap.size ∧ Hid (o2 = off + 2 * 8) ∧ Hid (o3 = off + 3 * 8) ∧ w'.cell? ⟨g, o3 + 1, none⟩ = some (.int .i64 10) ∧ w'.cell? ⟨g, o2, none⟩ = some (.int .i64 2) := by
 have := check_c lvN A C W h lv_lim
 rw [lv_check] at this
 refine this.mono ?_
 rintro e w' ⟨hb, vd, vp, rfl, hs⟩
 obtain ⟨Ad, Cd, rfl⟩ := row_slc hs.devs
 obtain ⟨g, off, Cp, rfl, _, _, hg, _, hP⟩ := hs.pts (by decide)
 exact ⟨Ad, Cd, g, off + 2 * 8, off + 3 * 8, off, Cp, rfl, hb, hg, rfl, rfl, (hP.two (i := 3) (by decide)).2, (hP.two (i := 2) (by decide)).1⟩
theorem alive13_c (w : World) : Calls Tryz.prog 14 #[] w fun e w' => e = .returned (.bool true) ∧ Below w.heap.size w w' := by
 have hpa : Calls Tryz.prog 9 #[.string ⟨#[100, 101, 118, 105, 99, 101, 32, 97, 32, 49, 48, 59, 32, 100, 101, 118, 105, 99, 101, 32, 98, 32, 49, 48, 59, 32, 106, 111, 117, 114, 110, 97, 108, 32, 106, 32, 50, 53, 54, 59, 32, 118, 111, 108, 117, 109, 101, 32, 118, 32, 61, 32, 109, 105, 114, 114, 111, 114, 40, 97, 44, 32, 108, 105, 110, 101, 97, 114, 40, 98, 44, 32, 48, 44, 32, 49, 48, 41, 41, 59, 32, 101, 120, 112, 111, 114, 116, 32, 118, 59]⟩] w fun e w' => ∃ A C, e = .returned (.tuple #[.agg #[.string ⟨#[102, 105, 108, 101]⟩, .string ⟨#[]⟩, .int .i64 0, .int .i64 0, .slice A 5 C], .int .i64 0, .int .i64 (-1)]) ∧ RdN w' lvN A C ∧ Below w.heap.size w w' := by
  have := rparse_c lvT w (by decide)
  rw [lv_parse] at this
  refine this.mono ?_
  rintro e w' ⟨hb, A, C, rfl, hn⟩
  exact ⟨A, C, rfl, hn.rdn lv_sml, hb⟩
 go_enter Tryz.func14, Tryz.ntmps14
 go_wp2_with (first
  | ((go_at_call 9)
     (refine hpa.mono ?_)
     (rintro e w1 ⟨A, C, rfl, hr1, hb1⟩))
  | ((go_at_call 11)
     (refine (lv_ck _ A C (hr1.grow (b_one w1 _))).mono ?_)
     (rintro e w2 ⟨Ad, Cd, g, o2, o3, off, Cp, rfl, hb2, hg, HO2, HO3, d3, d2⟩))
  | ((refine at_dstL 43 rfl ?_)
     (refine wpList_is (some 43) (.pointer (some ⟨g, o3, none⟩)) rfl (by rfl) (by rw [HO3.out]; exact run_at_pt _ _ rfl g off 3 4 Cp rfl rfl (by decide) _) ?_))
  | ((refine at_dstL 51 rfl ?_)
     (refine wpList_is (some 51) (.pointer (some ⟨g, o2, none⟩)) rfl (by rfl) (by rw [HO2.out]; exact run_at_pt _ _ rfl g off 2 4 Cp rfl rfl (by decide) _) ?_)))
 go_ret
 have s1 := hb1.size
 have s2 := hb2.size
 simp at s2
 exact ⟨rfl, ((hb1.alloc hb1.size _).trans (hb2.mono (by simp; omega))).alloc (by omega) _⟩
end
section
theorem foldl_pres {α : Type} (P : List R3 → Prop) {g : List R3 → Nat → α → List R3} (hg : ∀ o k a, P o → P (g o k a)) (a : α) (l : List Nat) : ∀ o, P o → P (l.foldl (fun o k => g o k a) o) := by
 induction l with
 | nil => intro o h; exact h
 | cons k l ih => intro o h; exact ih _ (hg _ _ _ h)
theorem fndK_pres (P : List R3 → Prop) {ps : List Pt} {g : List R3 → Nat → Int → Int → List R3} (hg : ∀ o k f c, P o → P (g o k f c)) {out : List R3} {p : Pt} {f c : Int} (ho : P out) (h1 : p.kind = 1 → P (out ++ [⟨p.dev, f, c⟩])) : P (fndK ps g out p f c) := by
 unfold fndK
 by_cases e1 : p.kind = 1
 · rw [if_pos e1]; exact h1 e1
 · rw [if_neg e1]
   by_cases e2 : p.kind = 2
   · rw [if_pos e2]
     exact foldl_pres P (g := fun o k (a : Int × Int) => g o k a.1 a.2) (fun o k a h => hg _ _ _ _ h) (f + p.first, c) _ _ ho
   · rw [if_neg e2]
     by_cases e3 : p.kind = 4 ∨ p.kind = 6
     · rw [if_pos e3]
       exact foldl_pres P (g := fun o k (a : Int × Int) => g o k a.1 a.2) (fun o k a h => hg _ _ _ _ h) (f, c) _ _ ho
     · rw [if_neg e3]
       by_cases e4 : p.kind = 3
       · rw [if_pos e4]
         have : ∀ (l : List Nat) (x : List R3 × Int), P x.1 → P (l.foldl (fun (x : List R3 × Int) k => (g x.1 k (max (f - x.2) 0) (min (f + c - x.2) (sz ps k) - max (f - x.2) 0), x.2 + sz ps k)) x).1 := by
          intro l
          induction l with
          | nil => intro x h; exact h
          | cons k l ih => intro x h; exact ih _ (hg _ _ _ _ h)
         exact this _ _ ho
       · rw [if_neg e4]
         by_cases e5 : p.kind = 5
         · rw [if_pos e5]; exact hg _ _ _ _ (hg _ _ _ _ ho)
         · rw [if_neg e5]
           by_cases e6 : p.kind = 7 ∨ p.kind = 8
           · rw [if_pos e6]; exact hg _ _ _ _ ho
           · rw [if_neg e6]; exact ho
def DiskR (ps : List Pt) (r : R3) : Prop := ∃ i, i < ps.length ∧ (ptAt ps i).kind = 1 ∧ r.d = ((ptAt ps i).dev : Nat) ∧ 0 ≤ r.f ∧ 0 < r.c ∧ r.f + r.c ≤ (sz ps i : Nat)
theorem fnd_disk {ps : List Pt} (d : Nat) : ∀ out k f c, (∀ r ∈ out, DiskR ps r) → ∀ r ∈ fnd ps d out k f c, DiskR ps r := by
 induction d with
 | zero => intro out k f c h; exact h
 | succ d ih =>
   intro out k f c h
   by_cases hno : 256 < out.length ∨ hasB ps k f c = false
   · rw [fnd_no hno]; exact h
   · have h1 : ¬ 256 < out.length := fun e => hno (.inl e)
     have h2 : hasB ps k f c = true := by
      cases hb : hasB ps k f c
      · exact absurd (.inr hb) hno
      · rfl
     rw [fnd_is h1 h2]
     refine fndK_pres (fun o => ∀ r ∈ o, DiskR ps r) ih h (fun e r hr => ?_)
     rcases List.mem_append.1 hr with q | q
     · exact h r q
     · rw [List.mem_singleton.1 q]
       obtain ⟨a, b, c', d'⟩ := has_in h2
       exact ⟨k, a, e, rfl, b, c', d'⟩
theorem regs_disk {ps : List Pt} {p f c : Int} : ∀ r ∈ Regs ps p f c, DiskR ps r := by
 unfold Regs
 split
 · intro r h; cases h
 · exact fnd_disk _ _ _ _ _ (fun r h => by cases h)
theorem fnd_len {ps : List Pt} (d : Nat) : ∀ out k f c, out.length ≤ (fnd ps d out k f c).length := by
 induction d with
 | zero => intro out k f c; exact Nat.le_refl _
 | succ d ih =>
   intro out k f c
   by_cases hno : 256 < out.length ∨ hasB ps k f c = false
   · rw [fnd_no hno]; exact Nat.le_refl _
   · have h1 : ¬ 256 < out.length := fun e => hno (.inl e)
     have h2 : hasB ps k f c = true := by
      cases hb : hasB ps k f c
      · exact absurd (.inr hb) hno
      · rfl
     rw [fnd_is h1 h2]
     refine fndK_pres (fun o => out.length ≤ o.length) (fun o k f c h => Nat.le_trans h (ih _ _ _ _)) (Nat.le_refl _) (fun _ => by simp)
theorem has_of {ps : List Pt} {k : Nat} {f c : Int} (h1 : k < ps.length) (h2 : 0 ≤ f) (h3 : 0 < c) (h4 : f + c ≤ (sz ps k : Nat)) : hasB ps k f c = true := by
 unfold hasB
 rw [decide_eq_true_eq, Int.toNat_natCast]
 omega
theorem cat_more {ps : List Pt} {g : List R3 → Nat → Int → Int → List R3} {f c : Int} (hc : 0 < c) (hm : ∀ o k f c, o.length ≤ (g o k f c).length) (hn : ∀ (o : List R3) (k : Nat) (f c : Int), hasB ps k f c = false → g o k f c = o) (l : List Nat) (hg : ∀ o : List R3, o.length ≤ 256 → ∀ k ∈ l, ∀ f c, hasB ps k f c = true → o.length < (g o k f c).length) (hl : ∀ k ∈ l, k < ps.length) : ∀ (o : List R3) (off : Int), o.length ≤ 256 → off ≤ f → f < off + ((l.map (sz ps)).sum : Nat) → o.length < (l.foldl (fun (x : List R3 × Int) k => (g x.1 k (max (f - x.2) 0) (min (f + c - x.2) (sz ps k) - max (f - x.2) 0), x.2 + sz ps k)) (o, off)).1.length := by
 have mono : ∀ (l : List Nat) (x : List R3 × Int), x.1.length ≤ (l.foldl (fun (x : List R3 × Int) k => (g x.1 k (max (f - x.2) 0) (min (f + c - x.2) (sz ps k) - max (f - x.2) 0), x.2 + sz ps k)) x).1.length := by
  intro l
  induction l with
  | nil => intro x; exact Nat.le_refl _
  | cons k l ih => intro x; rw [List.foldl_cons]; exact Nat.le_trans (hm x.1 k _ _) (ih (_, _))
 induction l with
 | nil => intro o off h1 h2 h3; simp at h3; omega
 | cons k l ih =>
   intro o off h1 h2 h3
   rw [List.foldl_cons]
   simp only
   by_cases hk : f < off + sz ps k
   · have hh : hasB ps k (max (f - off) 0) (min (f + c - off) (sz ps k) - max (f - off) 0) = true := has_of (hl k (by simp)) (by omega) (by omega) (by omega)
     exact Nat.lt_of_lt_of_le (hg o h1 k (by simp) _ _ hh) (mono l (_, _))
   · have hh : hasB ps k (max (f - off) 0) (min (f + c - off) (sz ps k) - max (f - off) 0) = false := by
      unfold hasB
      rw [decide_eq_false_iff_not, Int.toNat_natCast]
      omega
     rw [hn _ _ _ _ hh]
     refine ih (fun o ho k hk => hg o ho k (by simp [hk])) (fun k hk => hl k (by simp [hk])) o _ h1 (by omega) ?_
     simp only [List.map_cons, List.sum_cons] at h3
     omega
def Built (ps : List Pt) : Prop := ∀ i (h : i < ps.length), ps[i].kind = 1 ∨ PtOk (ps.take i) ps[i]
theorem fnd_more {ps : List Pt} (hb : Built ps) (d : Nat) : ∀ k, k < d → ∀ out f c, out.length ≤ 256 → hasB ps k f c = true → out.length < (fnd ps d out k f c).length := by
 induction d with
 | zero => intro k h; omega
 | succ d ih =>
   intro k hkd out f c ho hh
   rw [fnd_is (by omega) hh]
   obtain ⟨hk, hf, hc, hs⟩ := has_in hh
   have hs' : f + c ≤ ((ptAt ps k).size : Nat) := hs
   have hbk := hb k hk
   have hp := ptAt_get hk
   rw [← hp] at hbk
   generalize ptAt ps k = p at *
   unfold fndK
   rcases hbk with e1 | hbk
   · rw [if_pos e1]; simp
   · have hkd2 : ∀ j ∈ p.kids, j < d ∧ NdOk ps j := fun j hj => by
      have := sz_take (hbk.kids j hj)
      exact ⟨by omega, this.2⟩
     have hsz : ∀ j ∈ p.kids, sz (ps.take k) j = sz ps j := fun j hj => by
      have h1 := (hbk.kids j hj).1
      have := sz_left (ps.take k) (ps.drop k) h1
      rw [List.take_append_drop] at this
      exact this.symm
     have h0 : p.kids.getD 0 0 ∈ p.kids := getD_mem (by have := hbk.some'; cases hq : p.kids; exact absurd hq this; simp)
     obtain ⟨k0, r, hkr⟩ : ∃ k0 r, p.kids = k0 :: r := by
      cases hq : p.kids with
      | nil => exact absurd hq hbk.some'
      | cons a b => exact ⟨a, b, rfl⟩
     have hk0 : p.kids.getD 0 0 = k0 := by rw [hkr]; rfl
     have hd0 := hkd2 _ h0
     rw [hk0] at hd0
     have hz0 := hsz _ h0
     rw [hk0] at hz0
     have hgr : ∀ f' c' : Int, 0 ≤ f' → 0 < c' → f' + c' ≤ (sz ps k0 : Nat) → out.length < (fnd ps d out k0 f' c').length := fun f' c' a1 a2 a3 => ih k0 hd0.1 out f' c' ho (has_of hd0.2.1 a1 a2 a3)
     have hfold : ∀ (l : List Nat) (o : List R3) (f' c' : Int), o.length ≤ (l.foldl (fun o k => fnd ps d o k f' c') o).length := fun l => by
      induction l with
      | nil => intro o f' c'; exact Nat.le_refl _
      | cons a l ihl => intro o f' c'; exact Nat.le_trans (fnd_len d _ _ _ _) (ihl _ _ _)
     have hkind := hbk.kind
     rw [if_neg (by omega)]
     by_cases e2 : p.kind = 2
     · rw [if_pos e2, hkr, List.foldl_cons]
       have hlin := hbk.lin e2
       rw [hk0, hz0] at hlin
       exact Nat.lt_of_lt_of_le (hgr _ _ (by omega) hc (by omega)) (hfold _ _ _ _)
     · rw [if_neg e2]
       by_cases e3 : p.kind = 4 ∨ p.kind = 6
       · rw [if_pos e3, hkr, List.foldl_cons]
         have hs0 : sz ps k0 = p.size := by
          rcases e3 with e | e
          · have := hbk.mir e k0 (by rw [hkr]; simp)
            rw [hz0] at this
            exact this
          · have := hbk.cry e
            rw [hk0, hz0] at this
            exact this
         exact Nat.lt_of_lt_of_le (hgr _ _ hf hc (by omega)) (hfold _ _ _ _)
       · rw [if_neg e3]
         by_cases e4 : p.kind = 3
         · rw [if_pos e4]
           have hcat := hbk.cat e4
           have hmap : p.kids.map (sz (ps.take k)) = p.kids.map (sz ps) := List.map_congr_left hsz
           rw [hmap] at hcat
           refine cat_more hc (fun o k f c => fnd_len d o k f c) (fun o k f c h => fnd_no (.inr h)) p.kids (fun o h1 j hj f' c' h2 => ih j (hkd2 j hj).1 o f' c' h1 h2) (fun j hj => (hkd2 j hj).2.1) out 0 ho hf ?_
           rw [← hcat]
           omega
         · rw [if_neg e4]
           by_cases e5 : p.kind = 5
           · rw [if_pos e5, hk0]
             have hsn := (hbk.snap e5).2
             rw [hk0, hz0] at hsn
             exact Nat.lt_of_lt_of_le (hgr _ _ hf hc (by omega)) (fnd_len d _ _ _ _)
           · rw [if_neg e5, if_pos (by omega), hk0]
             exact hgr _ _ (by omega) (by have := hd0.2.2.1; omega) (by omega)
theorem Inv.built {l : List Nd} {c : Ck} (h : Inv l l c) : Built c.parts := fun i hi => by
 rcases h.part hi with ⟨j, x, _, _, q, _⟩ | q
 · left; rw [q]
 · exact .inr q
theorem regs_more {ps : List Pt} (hb : Built ps) {k : Nat} (h : NdOk ps k) : 0 < (Regs ps k 0 (sz ps k)).length := by
 have hh := has_of (f := 0) (c := (sz ps k : Nat)) h.1 (by omega) (by have := h.2.1; omega) (by omega)
 unfold Regs
 rw [if_neg (by rw [hh]; decide), Int.toNat_natCast]
 have := fnd_more hb ps.length k h.1 [] 0 (sz ps k : Nat) (by simp) hh
 simpa using this
end
section
theorem cstmts_inv {l : List Nd} (hst : ∀ x ∈ l, StR x) (r : List Nd) : ∀ {q : List Nd} {c c' : Ck}, l = q ++ r → Inv l q c → cstmts c r = .ok c' → Inv l l c' := by
 induction r with
 | nil =>
   intro q c c' e h hc
   cases hc
   rw [List.append_nil] at e
   subst e
   exact h
 | cons x r ih =>
   intro q c c' e h hc
   simp only [cstmts] at hc
   cases hs : cstmt c x with
   | error er => rw [hs] at hc; cases hc
   | ok c1 =>
     rw [hs] at hc
     exact ih (q := q ++ [x]) (by rw [e]; simp) (h.step e (hst x (by rw [e]; simp)) hs) hc
theorem Chk_inv {n : Nd} {s : Stk} (hst : ∀ x ∈ n.l, StR x) (h : Chk n = .ok s) : ∃ c, Inv n.l n.l c ∧ cwhole c = .ok s := by
 unfold Chk at h
 cases hc : cstmts ⟨[], none, disks 0 n.l, none, false, 0, []⟩ n.l with
 | error e => rw [hc] at h; cases h
 | ok c =>
   rw [hc] at h
   exact ⟨c, cstmts_inv hst n.l (q := []) rfl (Inv.start n.l) hc, h⟩
structure PW (s : Stk) (i : Nat) (p : Pt) : Prop where
 lo : 1 ≤ p.size
 hi : p.size ≤ 8192
 kind : 1 ≤ p.kind ∧ p.kind ≤ 8
 disk : p.kind = 1 → p.kids = [] ∧ p.dev < s.devs.length ∧ p.dev ≠ s.jour ∧ s.devs.getD p.dev 0 = p.size
 kids : ∀ k ∈ p.kids, k < i
 some' : p.kind ≠ 1 → p.kids ≠ []
 lin : p.kind = 2 → p.first + p.size ≤ sz s.parts (p.kids.getD 0 0)
 snap : p.kind = 5 → p.kids.length = 2
 four : p.kids.length ≤ 4
 fst : p.first ≤ 8192
structure SW (s : Stk) : Prop where
 jour : s.jour < s.devs.length
 expo : NdOk s.parts s.expo
 few : s.parts.length ≤ 72
 dfew : s.devs.length ≤ 8
 dsz : ∀ d ∈ s.devs, d ≤ 2048
 part : ∀ i (h : i < s.parts.length), PW s i s.parts[i]
 wf : WfR s.parts
 reg : ∀ r ∈ Regs s.parts s.expo 0 (sz s.parts s.expo), ∃ d : Nat, r.d = d ∧ d < s.devs.length ∧ d ≠ s.jour ∧ 0 ≤ r.f ∧ 1 ≤ r.c ∧ r.f + r.c ≤ (s.devs.getD d 0 : Nat)
 some' : 0 < (Regs s.parts s.expo 0 (sz s.parts s.expo)).length
 le : (Regs s.parts s.expo 0 (sz s.parts s.expo)).length ≤ 256
 apart : overl (Regs s.parts s.expo 0 (sz s.parts s.expo)) = false
theorem disk_dev {l : List Nd} {c : Ck} (h : Inv l l c) {j : Nat} {x : Nd} (hj : (l.filter isDJ)[j]? = some x) (hx : x.op = wDevice) {J : Nat} (hJ : c.jour = some J) : j < c.devs.length ∧ j ≠ J ∧ c.devs.getD j 0 = x.n.toNat := by
 have hlt := (List.getElem?_eq_some_iff.1 hj).1
 refine ⟨by rw [h.devs, List.length_map]; exact hlt, fun e => ?_, ?_⟩
 · obtain ⟨y, hy, ho⟩ := h.jour J hJ
   rw [← e, hj] at hy
   cases hy
   rw [hx] at ho
   exact absurd ho (by decide)
 · rw [h.devs, List.getD_eq_getElem?_getD, List.getElem?_map, hj]
   rfl
theorem chk_sw {n : Nd} {s : Stk} (hst : ∀ x ∈ n.l, StR x) (h : Chk n = .ok s) : SW s := by
 obtain ⟨c, hI, hw⟩ := Chk_inv hst h
 have hx0 := hI.expo
 obtain ⟨j, x, ej, ex, es⟩ := cwhole_ok hw
 have hx := hx0 x ex
 have hw' := hw
 unfold cwhole at hw'
 rw [ej, ex] at hw'
 simp only at hw'
 have hpart : ∀ i (h : i < c.parts.length), PW s i c.parts[i] := fun i hi => by
  rcases hI.part hi with ⟨d, y, a, b, q, q1, q2⟩ | q
  · obtain ⟨d1, d2, d3⟩ := disk_dev hI a b ej
    rw [q]
    refine ⟨(by show 1 ≤ y.n.toNat; omega), (by show y.n.toNat ≤ 8192; omega), ⟨Nat.le_refl _, (by show 1 ≤ 8; decide)⟩, fun _ => ⟨rfl, by rw [es]; exact d1, by rw [es]; exact d2, by rw [es]; exact d3⟩, (fun k hk => by cases hk), fun e => absurd rfl e, (fun e => by cases e), (fun e => by cases e), Nat.zero_le _, Nat.zero_le _⟩
  · refine ⟨q.lo, q.hi, ⟨by have := q.kind; omega, q.kind.2⟩, fun e => by have := q.kind; omega, fun k hk => (sz_take (q.kids k hk)).1, fun _ => q.some', fun e => ?_, fun e => (q.snap e).1, q.four, q.fst⟩
    have := q.lin e
    have h0 : (c.parts[i]).kids.getD 0 0 ∈ (c.parts[i]).kids := getD_mem (by have := q.one (.inl e); omega)
    have h1 := (q.kids _ h0).1
    have h2 := sz_left (c.parts.take i) (c.parts.drop i) h1
    rw [List.take_append_drop] at h2
    rw [es, h2]
    exact this
 have hfew : c.parts.length ≤ 72 := by
  have h1 := hI.few
  have h2 := disks_len n.l 0
  have h3 := hI.le8
  have h4 : (n.l.filter isDv).length ≤ (n.l.filter isDJ).length := by
   have : ∀ l : List Nd, (l.filter isDv).length ≤ (l.filter isDJ).length := by
    intro l
    induction l with
    | nil => exact Nat.le_refl _
    | cons y l ih =>
      simp only [List.filter_cons]
      by_cases q : y.op = wDevice
      · rw [if_pos (dv_t q), if_pos (dj_t (.inl q))]; simp; exact ih
      · rw [dv_f q]
        simp only [Bool.false_eq_true, if_false]
        split
        · simp; omega
        · exact ih
   exact this n.l
  omega
 have hreg : ∀ r ∈ Regs c.parts x 0 (sz c.parts x), ∃ d : Nat, r.d = d ∧ d < c.devs.length ∧ d ≠ j ∧ 0 ≤ r.f ∧ 1 ≤ r.c ∧ r.f + r.c ≤ (c.devs.getD d 0 : Nat) := fun r hr => by
  obtain ⟨i, hi, hk, hd, h1, h2, h3⟩ := regs_disk r hr
  rw [ptAt_get hi] at hk hd
  have hp := hpart i hi
  obtain ⟨_, p1, p2, p3⟩ := hp.disk hk
  rw [es] at p1 p2 p3
  refine ⟨c.parts[i].dev, hd, p1, p2, h1, by omega, ?_⟩
  have : sz c.parts i = c.parts[i].size := by unfold sz; rw [ptAt_get hi]
  rw [this] at h3
  have p3' : c.devs.getD c.parts[i].dev 0 = c.parts[i].size := p3
  rw [p3']
  exact h3
 have hJ : j < c.devs.length := by
  obtain ⟨y, hy, _⟩ := hI.jour j ej
  rw [hI.devs, List.length_map]
  exact (List.getElem?_eq_some_iff.1 hy).1
 have hD : ∀ d ∈ c.devs, d ≤ 2048 := fun d hd => by
  rw [hI.devs] at hd
  obtain ⟨y, hy, rfl⟩ := List.mem_map.1 hd
  have := hI.ok y hy
  omega
 have hD8 : c.devs.length ≤ 8 := by rw [hI.devs, List.length_map]; exact hI.le8
 split at hw'
 · cases hw'
 · rename_i h256
   split at hw'
   · cases hw'
   · rename_i hov
     subst es
     exact ⟨hJ, hx, hfew, hD8, hD, hpart, hI.wf, hreg, regs_more hI.built hx, Nat.le_of_not_lt h256, by simpa using hov⟩
theorem known_code {ns : Nms} {n : Nd} {ws : List (List UInt8)} {e : Er} (h : known ns n ws = .error e) : e.1 ≠ 0 := by
 unfold known at h
 split at h
 · cases h; exact (by decide : (131 : Nat) ≠ 0)
 · split at h
   · cases h
   · cases h; exact (by decide : (133 : Nat) ≠ 0)
theorem cpart_code {ns : Nms} {ps : List Pt} {n : Nd} {ks : List Nat} {e : Er} (h : cpart ns ps n ks = .error e) : e.1 ≠ 0 := by
 unfold cpart cseveral csecured at h
 repeat' split at h
 all_goals first
  | (cases h; done)
  | (cases h; exact (by decide : (135 : Nat) ≠ 0))
  | (cases h; exact (by decide : (134 : Nat) ≠ 0))
  | (cases h; exact (by decide : (139 : Nat) ≠ 0))
  | (rename_i hk; cases h; exact known_code hk)
theorem ckids_code {f : List Pt → Nd → Except Er (Nat × List Pt)} (l : List Nd) (hf : ∀ x ∈ l, ∀ ps e, f ps x = .error e → e.1 ≠ 0) : ∀ ps e, ckids f ps l = .error e → e.1 ≠ 0 := by
 induction l with
 | nil => intro ps e h; cases h
 | cons x l ih =>
   intro ps e h
   unfold ckids at h
   cases h1 : f ps x with
   | error e' => rw [h1] at h; cases h; exact hf x (by simp) _ _ h1
   | ok y =>
     obtain ⟨k, p1⟩ := y
     rw [h1] at h
     simp only at h
     cases h2 : ckids f p1 l with
     | error e' => rw [h2] at h; cases h; exact ih (fun x hx => hf x (by simp [hx])) _ _ h2
     | ok z => rw [h2] at h; cases h
theorem cexpr_code {ns : Nms} (d : Nat) : ∀ {n : Nd}, ExR d n → ∀ ps e, cexpr ns d ps n = .error e → e.1 ≠ 0 := by
 induction d with
 | zero => intro n hx; cases hx
 | succ d ih =>
   intro n hx ps e h
   unfold cexpr at h
   cases hx with
   | use _ _ hu =>
     rw [if_pos hu] at h
     cases hk : known ns n [wDevice, wVolume] with
     | error e' => rw [hk] at h; cases h; exact known_code hk
     | ok m => rw [hk] at h; cases h
   | mk _ _ hu hs hl =>
     rw [if_neg hu] at h
     cases hc : ckids (cexpr ns d) ps (kidsOf n) with
     | error e' => rw [hc] at h; cases h; exact ckids_code _ (fun x hx => ih (hl x hx)) _ _ hc
     | ok y =>
       obtain ⟨ks, p1⟩ := y
       rw [hc] at h
       simp only at h
       split at h
       · cases h; exact (by decide : (137 : Nat) ≠ 0)
       · cases hp : cpart ns p1 n ks with
         | error e' => rw [hp] at h; cases h; exact cpart_code hp
         | ok p => rw [hp] at h; cases h
theorem csaid_code {c : Ck} {n : Nd} {e : Er} (hx : StR n) (hne : n.op ≠ wExport) (h : csaid c n = .error e) : e.1 ≠ 0 := by
 unfold csaid at h
 by_cases e1 : n.op = wJournal
 · rw [if_pos e1] at h
   repeat' split at h
   all_goals first
    | (cases h; done)
    | (cases h; exact (by decide : (134 : Nat) ≠ 0))
    | (cases h; exact (by decide : (138 : Nat) ≠ 0))
 · rw [if_neg e1] at h
   by_cases e2 : n.op = wDevice
   · rw [if_pos e2] at h
     split at h
     · cases h; exact (by decide : (134 : Nat) ≠ 0)
     · cases h
   · rw [if_neg e2] at h
     by_cases e3 : n.op = wKey ∨ n.op = wRoot
     · rw [if_pos e3] at h
       split at h
       · cases h; exact (by decide : (135 : Nat) ≠ 0)
       · cases h
     · rw [if_neg e3] at h
       have e4 : n.op = wVolume := by
        rcases hx.word with e | e | e | e | e | e
        · exact absurd e e2
        · exact absurd e e1
        · exact absurd (.inl e) e3
        · exact absurd (.inr e) e3
        · exact e
        · exact absurd e hne
       cases hc : cexpr c.names 12 c.parts (nthN n.l 0) with
       | error e' => rw [hc] at h; cases h; exact cexpr_code 12 (hx.vol e4).2 _ _ hc
       | ok y => obtain ⟨k, ps⟩ := y; rw [hc] at h; cases h
theorem cstmt_code {c : Ck} {n : Nd} {e : Er} (hx : StR n) (h : cstmt c n = .error e) : e.1 ≠ 0 := by
 unfold cstmt cexport at h
 by_cases e0 : n.op = wExport
 · rw [if_pos e0] at h
   split at h
   · cases h; exact (by decide : (138 : Nat) ≠ 0)
   · cases hk : known c.names n [wDevice, wVolume] with
     | error e' => rw [hk] at h; cases h; exact known_code hk
     | ok m => rw [hk] at h; cases h
 · rw [if_neg e0] at h
   split at h
   · cases h; exact (by decide : (132 : Nat) ≠ 0)
   · split at h
     · cases h; exact (by decide : (137 : Nat) ≠ 0)
     · cases hs : csaid c n with
       | error e' => rw [hs] at h; cases h; exact csaid_code hx e0 hs
       | ok y => obtain ⟨c1, m⟩ := y; rw [hs] at h; cases h
theorem cstmts_code {l : List Nd} (hst : ∀ x ∈ l, StR x) : ∀ c e, cstmts c l = .error e → e.1 ≠ 0 := by
 induction l with
 | nil => intro c e h; cases h
 | cons x l ih =>
   intro c e h
   simp only [cstmts] at h
   cases hs : cstmt c x with
   | error e' => rw [hs] at h; cases h; exact cstmt_code (hst x (by simp)) hs
   | ok c1 => rw [hs] at h; exact ih (fun y hy => hst y (by simp [hy])) _ _ h
theorem check_code {n : Nd} (hl : Lim n) {e : Er} (h : CheckOf n = .error e) : e.1 ≠ 0 := by
 unfold CheckOf at h
 split at h
 · rename_i hr
   have hst := right_sts hr hl
   unfold Chk at h
   cases hc : cstmts ⟨[], none, disks 0 n.l, none, false, 0, []⟩ n.l with
   | error e' => rw [hc] at h; cases h; exact cstmts_code hst _ _ hc
   | ok c =>
     rw [hc] at h
     replace h : cwhole c = .error e := h
     unfold cwhole at h
     cases hj : c.jour with
     | none => rw [hj] at h; cases h; exact (by decide : (138 : Nat) ≠ 0)
     | some j =>
       cases hx : c.expo with
       | none => rw [hj, hx] at h; cases h; exact (by decide : (138 : Nat) ≠ 0)
       | some x =>
         rw [hj, hx] at h
         simp only at h
         split at h
         · cases h; exact (by decide : (137 : Nat) ≠ 0)
         · split at h
           · cases h; exact (by decide : (136 : Nat) ≠ 0)
           · cases h
 · cases h; exact (by decide : (111 : Nat) ≠ 0)
theorem check_sw {n : Nd} (hl : Lim n) {s : Stk} (h : CheckOf n = .ok s) : SW s := by
 unfold CheckOf at h
 split at h
 · rename_i hr
   exact chk_sw (right_sts hr hl) h
 · cases h
end
section
open Go.ChangeShapes Go.WideShapes Go.ChangeAt Go.RowKit Go.MapKept
def PT (x : List UInt8) : Nd := match Parse x with
 | .ok n => n
 | .error _ => zNd
theorem PT_lim (x : List UInt8) : Lim (PT x) := by
 unfold PT
 cases h : Parse x with
 | ok n => exact Parse_lim h
 | error e => exact zNd_lim
theorem rpt_c (x : List UInt8) (w : World) (hx : x.length ≤ maxLen) : Calls Tryz.prog 9 #[.string (bs x)] w fun e w' => ∃ (A : Option Addr) (C : Nat) (c k : Int), e = .returned (.tuple #[.agg (ndc (PT x) (.slice A (PT x).l.length C)), .int .i64 c, .int .i64 k]) ∧ RdN w' (PT x) A C ∧ Below w.heap.size w w' ∧ ((∃ n, Parse x = .ok n ∧ c = 0) ∨ ((∃ er, Parse x = .error er) ∧ c ≠ 0)) := by
 have := rparse_c x w hx
 unfold PT
 cases h : Parse x with
 | ok n =>
   rw [h] at this
   refine this.mono ?_
   rintro e w' ⟨hb, A, C, rfl, hn⟩
   exact ⟨A, C, 0, -1, rfl, hn.rdn (Parse_sml h), hb, .inl ⟨n, rfl, rfl⟩⟩
 | error er =>
   rw [h] at this
   refine this.mono ?_
   rintro e w' ⟨hb, c, k, hc, rfl⟩
   exact ⟨none, 0, c, k, rfl, zNd_rd w', hb, .inr ⟨⟨er, rfl⟩, hc⟩⟩
theorem StkAt.dev {w : World} {B : Nat} {s : Stk} {vd vp : Value} (h : StkAt w B s vd vp) (hn : 0 < s.devs.length) : ∃ g off C, vd = .slice (some ⟨g, off, none⟩) s.devs.length C ∧ s.devs.length ≤ C ∧ C ≤ maxLen ∧ g < w.heap.size ∧ ∀ d, d < s.devs.length → w.cell? ⟨g, off + d, none⟩ = some (.int .i64 (s.devs.getD d 0 : Nat)) := by
 obtain ⟨g, C, e, h1, h2, h3, _, h4⟩ := row_at h.devs hn
 refine ⟨g, 0, C, e, h1, h2, h3, fun d hd => ?_⟩
 rw [Nat.zero_add, h4 d (by omega), List.getElem?_map, List.getD_eq_getElem?_getD, List.getElem?_eq_getElem hd]
 rfl
theorem PtsAt.all {w : World} {B g off : Nat} {ps : List Pt} (h : PtsAt w B (some ⟨g, off, none⟩) ps) {i : Nat} (hi : i < ps.length) : ∃ Ak Ck A2 L2 C2 A3 L3 C3, (∀ j, j < 8 → w.cell? ⟨g, off + i * 8 + j, none⟩ = (#[.int .i64 (ps[i].kind : Nat), .int .i64 (ps[i].size : Nat), .slice Ak ps[i].kids.length Ck, .int .i64 (ps[i].dev : Nat), .int .i64 (ps[i].first : Nat), .int .i64 (ps[i].chunk : Nat), .slice A2 L2 C2, .slice A3 L3 C3] : Array Value)[j]?) ∧ IntsP w (fun g => g < B) Ak ps[i].kids ∧ ps[i].kids.length ≤ Ck ∧ Ck ≤ maxLen := by
 obtain ⟨g', off', u, e, _, _, hc, hin⟩ := h i hi
 cases e
 obtain ⟨⟨A1, C1, e1, a1, b1, i1⟩, ⟨A2, C2, e2, a2, b2, i2⟩, ⟨A3, C3, e3, a3, b3, i3⟩⟩ := hin
 refine ⟨A1, C1, A2, ps[i].key.length, C2, A3, ps[i].root.length, C3, fun j hj => ?_, i1, a1, b1⟩
 have := hc j hj
 unfold ptc at this
 rw [e1, e2, e3] at this
 exact this
end
end Go.Proofs.YthndifegfmjpbaaGreatDoor
