import Derived.Test.YteaddcdpgcgggaaGreatDoorJoint00
import Derived.Test.YteaddcdpgcgggaaGreatDoorJoint02
namespace Go.Proofs.YteaddcdpgcgggaaGreatDoor
set_option linter.unusedVariables false
set_option maxRecDepth 100000
set_option maxHeartbeats 40000000
section
def qF{α:Type}(bad:Int)(R:PR α)(ts:zL)(x:α)(i':Nat)(bad':Int):Prop:=
 if bad=0 then(match R with
  | .ok (y,r)=>x=y∧ts.drop i'=r∧bad'=0
  | .error _=>bad'≠0)else bad'≠0
theorem qF.bind{α β:Type}{P:yj α}{f:α→yj β}{en:Nat}{ts:zL}{bad bad1 bad2:Int}{i i1 i2:Nat}{x:α}{y:β}(h1:qF bad (P en (ts.drop i)) ts x i1 bad1)(h2:qF bad1 (f x en (ts.drop i1)) ts y i2 bad2):qF bad (zU P f en (ts.drop i)) ts y i2 bad2:=by
 unfold qF at *;unfold zU;by_cases hb:bad=0
 ·rw[if_pos hb]at h1 ⊢
  cases hP:P en (ts.drop i)with
  |error e =>
   rw[hP]at h1;simp only at h1 ⊢;rw[if_neg h1]at h2;exact h2
  |ok r =>
   obtain⟨y',r⟩:=r;rw[hP]at h1;obtain⟨rfl,e2,e3⟩:=h1;rw[if_pos e3,e2]at h2;exact h2
 ·rw[if_neg hb]at h1 ⊢
  rw[if_neg h1]at h2;exact h2
theorem qF.ret{α:Type}(bad:Int)(x:α)(en:Nat)(ts:zL)(i:Nat):qF bad (vD x en (ts.drop i)) ts x i bad:=by
 unfold qF vD;by_cases hb:bad=0
 ·rw[if_pos hb];exact⟨rfl,rfl,hb⟩
 ·rw[if_neg hb];exact hb
theorem qF.map{α β:Type}{P:yj α}(f:α→β){en:Nat}{ts:zL}{bad bad1:Int}{i i1:Nat}{x:α}(h1:qF bad (P en (ts.drop i)) ts x i1 bad1):qF bad (zU P (λx=>vD (f x)) en (ts.drop i)) ts (f x) i1 bad1:=h1.bind (qF.ret bad1 (f x) en ts i1)
theorem qF.bad{α:Type}{bad bad':Int}(h:bad≠0)(h':bad'≠0)(R:PR α)(ts:zL)(x:α)(i':Nat):qF bad R ts x i' bad':=by
 unfold qF;rw[if_neg h];exact h'
theorem qF.err{α:Type}{bad bad':Int}{R:PR α}{e:Nat×Nat}(hR:R= .error e)(h':bad'≠0)(ts:zL)(x:α)(i':Nat):qF bad R ts x i' bad':=by
 unfold qF;rw[hR];by_cases h:bad=0
 ·rw[if_pos h];exact h'
 ·rw[if_neg h];exact h'
theorem qF.ok{α:Type}{R:PR α}{ts:zL}{x:α}{i':Nat}(hR:R= .ok (x,ts.drop i')):qF 0 R ts x i' 0:=by
 unfold qF;rw[hR,if_pos rfl];exact⟨rfl,rfl,rfl⟩
theorem qF.stays{α:Type}{bad bad':Int}{R:PR α}{ts:zL}{x:α}{i':Nat}(h:qF bad R ts x i' bad')(hb:bad≠0):bad'≠0:=by
 unfold qF at h;rw[if_neg hb]at h;exact h
theorem qF.was{α:Type}{bad bad':Int}{R:PR α}{ts:zL}{x:α}{i':Nat}(h:qF bad R ts x i' bad')(hb:bad'=0):bad=0∧R= .ok (x,ts.drop i'):=by
 by_cases e:bad=0
 ·refine⟨e,?_⟩
  unfold qF at h;rw[if_pos e]at h;cases R with
  |error e=>exact absurd hb h
  |ok r =>
   obtain⟨y,r⟩:=r;obtain⟨rfl,rfl,_⟩:=h;rfl
 ·exact absurd hb (h.stays e)
theorem Qm{p:Tk→Bool}{en:Nat}{ts:zL}{i:Nat}(hi:i<ts.length)(hp:p ts[i].1=true):qF 0 (qi p en (ts.drop i)) ts ts[i] (i+1) 0:=by
 apply qF.ok;rw[List.drop_eq_getElem_cons hi];simp only[qi];rw[if_pos hp]
theorem Qo{p:Tk→Bool}{en:Nat}{ts:zL}{i:Nat}{bad bad':Int}(h:bad≠0∨vf p (ts.drop i)=false)(h':bad'≠0)(x:Tk×Nat)(i':Nat):qF bad (qi p en (ts.drop i)) ts x i' bad':=by
 rcases h with h|h
 ·exact qF.bad h h' _ _ _ _
 ·cases hd:ts.drop i with
  |nil=>exact qF.err (e:=(111,en)) rfl h' _ _ _
  |cons t r =>
   rw[hd]at h;refine qF.err (e:=(111,t.2)) ?_ h' _ _ _;simp only[qi];rw[if_neg (by simpa [vf]using h)]
theorem jc{p:Tk→Bool}{ts:zL}{i:Nat}(hi:i<ts.length):vf p (ts.drop i)=p ts[i].1:=by
 rw[List.drop_eq_getElem_cons hi];rfl
theorem yL{p:Tk→Bool}{ts:zL}{i:Nat}(hi:¬i<ts.length):vf p (ts.drop i)=false:=by
 rw[List.drop_eq_nil_of_le (by omega)];rfl
def Z3(pe:yj Nd)(en:Nat)(ts:zL)(bad0:Int)(i0:Nat)(l:List Nd)(i:Nat)(bad:Int):Prop:=
 ∀(m:List Nd) (i':Nat) (bad':Int),(∀F,ts.length-i<F→qF bad (ZU pe F en (ts.drop i)) ts m i' bad')→∀F,ts.length-i0<F→qF bad0 (ZU pe F en (ts.drop i0)) ts (l++m) i' bad'
theorem Z3.start(pe:yj Nd)(en:Nat)(ts:zL)(bad0:Int)(i0:Nat):Z3 pe en ts bad0 i0 [] i0 bad0:=λm i' bad' h F hF=>h F hF
theorem Z3.next{pe:yj Nd}{en:Nat}{ts:zL}{bad0:Int}{i0:Nat}{l:List Nd}{i:Nat}(h:Z3 pe en ts bad0 i0 l i 0)(hi:i<ts.length)(hc:gx ts[i].1=true){x:Nd}{i2:Nat}{bad2:Int}(hx:qF 0 (pe en (ts.drop (i+1))) ts x i2 bad2)(hle:i+1≤i2):Z3 pe en ts bad0 i0 (l++ [x]) i2 bad2:=by
 intro m i' bad' hm F hF;rw[List.append_assoc];refine h ([x]++m) i' bad' (λF' hF'=>?_) F hF
 obtain⟨F1,rfl⟩:∃F1,F'=F1+1:=⟨F'-1,by omega⟩
 show qF 0 (Xy gx _ _ en (ts.drop i)) ts _ i' bad';unfold Xy;rw[if_pos (by rw[jc hi];exact hc)];exact(Qm hi hc).bind (hx.bind ((hm F1 (by omega)).map (λl=>x::l)))
theorem Z3.stop{pe:yj Nd}{en:Nat}{ts:zL}{bad0:Int}{i0:Nat}{l:List Nd}{i:Nat}{bad:Int}(h:Z3 pe en ts bad0 i0 l i bad)(hc:bad≠0∨vf gx (ts.drop i)=false)(F:Nat)(hF:ts.length-i0<F):qF bad0 (ZU pe F en (ts.drop i0)) ts l i bad:=by
 have:=h [] i bad (λF' hF'=>?_) F hF
 ·simpa using this
 ·rcases hc with hc|hc
  ·exact qF.bad hc hc _ _ _ _
  ·obtain⟨F1,rfl⟩:∃F1,F'=F1+1:=⟨F'-1,by omega⟩
   show qF bad (Xy gx _ _ en (ts.drop i)) ts _ i bad;unfold Xy;rw[if_neg (by rw[hc];decide)];exact qF.ret bad [] en ts i
def Jn(en:Nat)(ts:zL)(l:List Nd)(i:Nat)(bad:Int):Prop:=
 ∀(m:List Nd) (i':Nat) (bad':Int),(∀F,ts.length-i<F→qF bad (vS F en (ts.drop i)) ts m i' bad')→∀F,ts.length<F→qF 0 (vS F en ts) ts (l++m) i' bad'
theorem Jn.start(en:Nat)(ts:zL):Jn en ts [] 0 0:=λm i' bad' h F hF=>by simpa using h F (by simpa using hF)
theorem Jn.next{en:Nat}{ts:zL}{l:List Nd}{i:Nat}(h:Jn en ts l i 0)(hi:i<ts.length){x:Nd}{i2:Nat}{bad2:Int}(hx:qF 0 (jC en (ts.drop i)) ts x i2 bad2)(hle:bad2=0→i+1≤i2):Jn en ts (l++ [x]) i2 bad2:=by
 intro m i' bad' hm F hF;rw[List.append_assoc];refine h ([x]++m) i' bad' (λF' hF'=>?_) F hF
 obtain⟨F1,rfl⟩:∃F1,F'=F1+1:=⟨F'-1,by omega⟩
 have e:vS (F1+1) en (ts.drop i)=(zU jC λn=>zU (vS F1) λl=>vD (n::l)) en (ts.drop i):=by
  rw[List.drop_eq_getElem_cons hi];rfl
 rw[e];by_cases hb:bad2=0
 ·exact hx.bind ((hm F1 (by have:=hle hb;omega)).map (λl=>x::l))
 ·have hb':bad'≠0:=by
   have:=hm (ts.length+1) (by omega);exact this.stays hb
  exact hx.bind (qF.bad hb hb' _ _ _ _)
theorem Jn.stop{en:Nat}{ts:zL}{l:List Nd}{i:Nat}{bad:Int}(h:Jn en ts l i bad)(hc:bad≠0∨¬i<ts.length):qF 0 (vS 501 en ts) ts l i bad∨500<ts.length:=by
 by_cases hl:500<ts.length
 ·exact .inr hl
 ·refine .inl ?_
  have:=h [] i bad (λF' hF'=>?_) 501 (by omega)
  ·simpa using this
  ·rcases hc with hc|hc
   ·exact qF.bad hc hc _ _ _ _
   ·obtain⟨F1,rfl⟩:∃F1,F'=F1+1:=⟨F'-1,by omega⟩
    rw[List.drop_eq_nil_of_le (by omega)];unfold qF;by_cases hb:bad=0
    ·rw[if_pos hb]
     exact⟨rfl,List.drop_eq_nil_of_le (by omega),hb⟩
    ·rw[if_neg hb];exact hb
end
section
open Go.ChangeShapes Go.WideShapes Go.ChangeAt Go.RowKit
theorem zaP{w:World}{rb:Nat}{A:Option Addr}{C:Nat}{ts:zL}{i en:Nat}{bad k:Int}(h:zT w rb A C ts i en bad k)(hb:bad≠0)(s:List UInt8):Calls Tryz.prog 27 #[.pointer (some ⟨rb,0,none⟩),.string (bs s)] w λe w'=>e= .returned (.bool false)∧∃q,w'=w.drewN q:=by
 have c0:=h.has.cell 0;have c1:=h.has.cell 1;have c3:=h.has.cell 3;simp only[qH,qG,qI]at c0 c1 c3;have hlt:=h.has.lt;generalize ts.length=L at *;have hd:decide (bad=0)=false:=decide_eq_false hb;have hd2:(bad==0)=false:=by simpa using hb
 clear h;go_enter Tryz.func27,Tryz.ntmps27
 go_wp2
 go_quiet (fail)
 go_wp2
 go_ret
 exact⟨rfl,_,rfl⟩
theorem zT.set{w w':World}{rb:Nat}{A:Option Addr}{C:Nat}{ts:zL}{i i' en:Nat}{bad k bad' k':Int}(h:zT w rb A C ts i en bad k)(hk:Kp rb w w')(hh:zm w' rb 49 #[.slice A ts.length C,.int .i64 (i':Nat),.int .i64 (en:Nat),.int .i64 bad',.int .i64 k'])(hi:i'≤ts.length):zT w' rb A C ts i' en bad' k':=
 ⟨hh,λj hj=>by
   obtain⟨g,off,e,hg,hne,ht⟩:=h.tok j hj
   exact⟨g,off,e,Nat.lt_of_lt_of_le hg hk.size,hne,ht.kp hk hne hg⟩,hi,h.few,h.end'⟩
theorem Kp.refl'(p:Nat)(w:World):Kp p w w:=Kp.of (Below.refl _ _)
theorem zT.drewN{w:World}{rb:Nat}{A:Option Addr}{C:Nat}{ts:zL}{i en:Nat}{bad k:Int}(h:zT w rb A C ts i en bad k)(q:Nat):zT (w.drewN q) rb A C ts i en bad k:=⟨h.has,h.tok,h.le,h.few,h.end'⟩
theorem Kp.drewN{p:Nat}{w w':World}(h:Kp p w w')(q:Nat):Kp p w (w'.drewN q):=⟨h.os,h.tape,h.output,h.size,h.block⟩
theorem zT.kp{w w':World}{rb:Nat}{A:Option Addr}{C:Nat}{ts:zL}{i en:Nat}{bad k:Int}(h:zT w rb A C ts i en bad k)(hb:Below w.heap.size w w'):zT w' rb A C ts i en bad k:=h.set (Kp.of hb) (h.has.below hb h.has.lt) h.le
theorem Jp{w:World}{rb:Nat}{A:Option Addr}{C:Nat}{ts:zL}{i en:Nat}{bad k:Int}(h:zT w rb A C ts i en bad k)(er:Int)(her:er≠0):Calls Tryz.prog 28 #[.pointer (some ⟨rb,0,none⟩),.int .i64 er] w λe w'=>e= .returned (.tuple #[])∧∃bad' k',bad'≠0∧zT w' rb A C ts i en bad' k'∧Kp rb w w':=by
 have c3:=h.has.cell 3;have c4:=h.has.cell 4;simp only[qH,qG,qI]at c3 c4;have hlt:=h.has.lt;have f3:=h.has.free 3;have f4:=h.has.free 4;by_cases hb:bad=0
 ·subst hb
  have hw1:Kp rb w (w.setCell ⟨rb,3,none⟩ (.int .i64 er)):=(Kp.refl' rb w).setP 3 _;have h1:zT (w.setCell ⟨rb,3,none⟩ (.int .i64 er)) rb A C ts i en er k:=h.set hw1 (h.has.putP 3 _) h.le;go_enter Tryz.func28,Tryz.ntmps28
  go_wp2_with (first
   |((go_at_call 26)
     refine(vi h1).mono ?_;(rintro e w1 ⟨rfl,q,rfl⟩)))
  go_end0
  exact⟨rfl,er,_,her,(h1.drewN q).set ((Kp.refl' rb _).setP 4 _) ((h1.drewN q).has.putP 4 _) h.le,(hw1.drewN q).setP 4 _⟩
 ·have hd:decide (bad=0)=false:=decide_eq_false hb
  go_enter Tryz.func28,Tryz.ntmps28
  go_wp2
  go_end0
  exact⟨rfl,bad,k,hb,h,Kp.refl' _ _⟩
def jQ(w:World)(rb:Nat)(A:Option Addr)(C:Nat)(ts:zL)(i en:Nat)(w':World)(i':Nat)(bad':Int):Prop:=i≤i'∧i'≤ts.length∧Kp rb w w'∧∃k',zm w' rb 49 #[.slice A ts.length C,.int .i64 (i':Nat),.int .i64 (en:Nat),.int .i64 bad',.int .i64 k']
theorem jQ.at{w w':World}{rb:Nat}{A:Option Addr}{C:Nat}{ts:zL}{i i' en:Nat}{bad k bad':Int}(h:zT w rb A C ts i en bad k)(s:jQ w rb A C ts i en w' i' bad'):∃k',zT w' rb A C ts i' en bad' k':=by
 obtain⟨_,h2,h3,k',h4⟩:=s;exact⟨k',h.set h3 h4 h2⟩
theorem jQ.of{w w':World}{rb:Nat}{A:Option Addr}{C:Nat}{ts:zL}{i i' en:Nat}{bad' k':Int}(hi:i≤i')(hk:Kp rb w w')(h:zT w' rb A C ts i' en bad' k'):jQ w rb A C ts i en w' i' bad':=⟨hi,h.le,hk,k',h.has⟩
theorem jQ.trans{w w1 w2:World}{rb:Nat}{A:Option Addr}{C:Nat}{ts:zL}{i i1 i2 en:Nat}{b1 b2:Int}(h:jQ w rb A C ts i en w1 i1 b1)(k:jQ w1 rb A C ts i1 en w2 i2 b2):jQ w rb A C ts i en w2 i2 b2:=⟨Nat.le_trans h.1 k.1,k.2.1,h.2.2.1.trans k.2.2.1,k.2.2.2⟩
theorem Zq{p:Nat}{w w':World}{o:Obj}(h:Kp p (w.alloc o) w'):Kp p w w':=(Kp.of ((Below.refl _ _).alloc (Nat.le_refl _) o)).trans h
theorem jQ.left{w w1:World}{rb:Nat}{A:Option Addr}{C:Nat}{ts:zL}{i i' en:Nat}{bad':Int}{o:Obj}(h:jQ (w.alloc o) rb A C ts i en w1 i' bad'):jQ w rb A C ts i en w1 i' bad':=⟨h.1,h.2.1,Zq h.2.2.1,h.2.2.2⟩
theorem jQ.new{w w1:World}{rb:Nat}{A:Option Addr}{C:Nat}{ts:zL}{i i' en:Nat}{bad':Int}(h:jQ w rb A C ts i en w1 i' bad'){q:Addr}(hq:w.heap.size≤q.block)(hr:rb<w.heap.size)(v:Value):jQ w rb A C ts i en (w1.setCell q v) i' bad':=by
 obtain⟨h1,h2,h3,k',h4⟩:=h;exact⟨h1,h2,h3.setNew hq v,k',h4.other (by omega) v⟩
theorem jQ.alloc{w w1:World}{rb:Nat}{A:Option Addr}{C:Nat}{ts:zL}{i i' en:Nat}{bad':Int}(h:jQ w rb A C ts i en w1 i' bad')(o:Obj):jQ w rb A C ts i en (w1.alloc o) i' bad':=by
 obtain⟨h1,h2,h3,k',h4⟩:=h;exact⟨h1,h2,h3.alloc o,k',h4.alloc o⟩
theorem jQ.below{w w1 w2:World}{rb:Nat}{A:Option Addr}{C:Nat}{ts:zL}{i i' en:Nat}{bad':Int}(h:jQ w rb A C ts i en w1 i' bad'){B:Nat}(hb:Below B w1 w2)(hB:w.heap.size≤B)(hr:rb<w.heap.size):jQ w rb A C ts i en w2 i' bad':=by
 obtain⟨h1,h2,h3,k',h4⟩:=h;exact⟨h1,h2,⟨hb.os.trans h3.os,hb.tape.trans h3.tape,hb.output.trans h3.output,Nat.le_trans h3.size hb.size,λk hk hn=>(hb.block k (by omega)).trans (h3.block k hk hn)⟩,k',h4.below hb (by omega)⟩
theorem jQ.refl{w:World}{rb:Nat}{A:Option Addr}{C:Nat}{ts:zL}{i en:Nat}{bad k:Int}(h:zT w rb A C ts i en bad k):jQ w rb A C ts i en w i bad:=⟨Nat.le_refl _,h.le,Kp.refl _ _,k,h.has⟩
theorem jQ.drewN{w w1:World}{rb:Nat}{A:Option Addr}{C:Nat}{ts:zL}{i i' en:Nat}{bad':Int}(h:jQ w rb A C ts i en w1 i' bad')(q:Nat):jQ w rb A C ts i en (w1.drewN q) i' bad':=⟨h.1,h.2.1,h.2.2.1.drewN q,h.2.2.2⟩
def xe(s:List UInt8)(t:Tk):Bool:=(t.kind==0||t.kind==3)&&t.s==s
theorem fS(ts:zL)(i:Nat)(s:List UInt8):gN ts i s=vf (xe s) (ts.drop i):=by
 unfold gN;by_cases hi:i<ts.length
 ·rw[List.getElem?_eq_getElem hi,jc hi];rfl
 ·rw[List.getElem?_eq_none (by omega),yL hi]
def v7(bad:Int)(ts:zL)(i:Nat)(s:List UInt8):Bool:=decide (bad=0)&&vf (xe s) (ts.drop i)
theorem vN{w:World}{rb:Nat}{A:Option Addr}{C:Nat}{ts:zL}{i en:Nat}{bad k:Int}(h:zT w rb A C ts i en bad k)(s:List UInt8):Calls Tryz.prog 27 #[.pointer (some ⟨rb,0,none⟩),.string (bs s)] w λe w'=>e= .returned (.bool (v7 bad ts i s))∧∃q,w'=w.drewN q:=by
 unfold v7;by_cases hb:bad=0
 ·subst hb
  refine(zc4 h s).mono ?_;rintro e w' ⟨rfl,hw⟩;exact⟨by rw[fS];simp,hw⟩
 ·refine(zaP h hb s).mono ?_
  rintro e w' ⟨rfl,hw⟩;exact⟨by simp[hb],hw⟩
theorem ZF{bad:Int}{ts:zL}{i:Nat}{s:List UInt8}(h:v7 bad ts i s=true):bad=0∧∃hi:i<ts.length,xe s ts[i].1=true:=by
 unfold v7 at h;simp only[Bool.and_eq_true,decide_eq_true_eq]at h;refine⟨h.1,?_⟩;by_cases hi:i<ts.length
 ·exact⟨hi,by have:=jc (p:=xe s) hi;rw[←this];exact h.2⟩
 ·rw[yL hi]at h;cases h.2
theorem Qz{bad:Int}{ts:zL}{i:Nat}{s:List UInt8}(h:v7 bad ts i s=false):bad≠0∨vf (xe s) (ts.drop i)=false:=by
 unfold v7 at h;by_cases hb:bad=0
 ·right;simpa [hb]using h
 ·exact .inl hb
theorem ji{w:World}{rb:Nat}{A:Option Addr}{C:Nat}{ts:zL}{i en:Nat}{bad k:Int}(h:zT w rb A C ts i en bad k)(s:List UInt8):Calls Tryz.prog 31 #[.pointer (some ⟨rb,0,none⟩),.string (bs s)] w λe w'=>e= .returned (.tuple #[])∧∃i' bad',jQ w rb A C ts i en w' i' bad'∧∃x,qF bad (qi (xe s) en (ts.drop i)) ts x i' bad':=by
 cases hc:v7 bad ts i s with
 |false =>
  have hs:=(vN h s)
  rw[hc]at hs;have hb:=Qz hc;go_enter Tryz.func31,Tryz.ntmps31
  go_wp2_with (first
   |((go_at_call 27)
     refine hs.mono ?_;(rintro e w1 ⟨rfl,q,rfl⟩))
   |((go_at_call 28)
     refine(Jp (h.drewN q) 111 (by decide)).mono ?_;(rintro e w1 ⟨rfl,bad',k',hb',h',hk⟩)))
  refine bodyPost_ret (results_none rfl _ _ _) rfl ?_;exact⟨rfl,i,bad',jQ.of (Nat.le_refl _) ⟨hk.os,hk.tape,hk.output,hk.size,hk.block⟩ h',(⟨0,[],0⟩,0),Qo hb hb' _ _⟩
 |true =>
  have hs:=(vN h s)
  rw[hc]at hs;obtain⟨rfl,hi,hp⟩:=ZF hc;have c1:=h.has.cell 1;simp only[qH,qG,qI]at c1;have hlt:=h.has.lt;have f1:=h.has.free 1;have hf:=h.few;have hi2:(i:Int)<501:=by omega
  have R:∀q,∃i' bad',jQ w rb A C ts i en ((w.drewN q).setCell ⟨rb,1,none⟩ (.int .i64 ((i:Int)+1))) i' bad'∧∃x,qF 0 (qi (xe s) en (ts.drop i)) ts x i' bad':=by
   intro q;refine⟨i+1,0,⟨by omega,by omega,((Kp.refl' rb w).drewN q).setP 1 _,k,?_⟩,_,Qm hi hp⟩;have:=(h.drewN q).has.putP 1 (.int .i64 ((i:Int)+1))
   simpa using this
  clear hc hp hi h hf;generalize ts.length=L at *;go_enter Tryz.func31,Tryz.ntmps31
  go_wp2_with (first
   |((go_at_call 27)
     refine hs.mono ?_;(rintro e w1 ⟨rfl,q,rfl⟩)))
  go_end0
  exact⟨rfl,R q⟩
abbrev Qj(W:World)(g:Nat)(x0 x1 x2 x3 x4:Value):World:=((((W.setCell ⟨g,0,none⟩ x0).setCell ⟨g,1,none⟩ x1).setCell ⟨g,2,none⟩ x2).setCell ⟨g,3,none⟩ x3).setCell ⟨g,4,none⟩ x4
theorem Kp.set5{w W:World}{pb:Nat}(h:Kp pb w W){g:Nat}(hq:w.heap.size≤g)(x0 x1 x2 x3 x4:Value):Kp pb w (Qj W g x0 x1 x2 x3 x4):=
 ((((h.setNew (q:=⟨g,0,none⟩) hq x0).setNew (q:=⟨g,1,none⟩) hq x1).setNew (q:=⟨g,2,none⟩) hq x2).setNew (q:=⟨g,3,none⟩) hq x3).setNew (q:=⟨g,4,none⟩) hq x4
theorem yn.set5{w:World}{P:Nat→Prop}{l:List Nd}{v:Value}(h:yn w P l v){g:Nat}(hq:∀k,P k→k≠g)(x0 x1 x2 x3 x4:Value):yn (Qj w g x0 x1 x2 x3 x4) P l v:=
 h.keep λk o hk ho=>by
  have hne:=hq k hk;rw[Below.heap_setCell _ _ _ k hne,Below.heap_setCell _ _ _ k hne,Below.heap_setCell _ _ _ k hne,Below.heap_setCell _ _ _ k hne,Below.heap_setCell _ _ _ k hne];exact ho
theorem zl(w:World)(o:Obj):Below w.heap.size w (w.alloc o):=(Below.refl _ _).alloc (Nat.le_refl _) _
theorem yr(w:World)(o o':Obj):Below w.heap.size w ((w.alloc o).alloc o'):=((Below.refl _ _).alloc (Nat.le_refl _) _).alloc (by simp) _
def pre(l:List Nd):PR (List Nd)→PR (List Nd)
 | .error e=> .error e
 | .ok (m,r)=> .ok (l++m,r)
theorem QH{p:Tk→Bool}{en:Nat}{ts r:zL}{t:Tk×Nat}(h:qi p en ts= .ok (t,r)):ts.length=r.length+1:=by
 cases ts with
 |nil=>cases h
 |cons u ts =>
  simp only[qi]at h
  split at h
  ·cases h;rfl
  ·cases h
theorem gm{P:yj Nd}(hP:zQ P){en:Nat}{ts r:zL}{n:Nd}(h:P en ts= .ok (n,r)):r.length≤ts.length:=by
 obtain⟨q,e,_⟩:=(hP en ts).1 n r h;rw[e,List.length_append];omega
theorem VI(op:List UInt8):(qn op).1.length≤3:=by
 unfold qn
 split
 ·decide
 ·split
  ·decide
  ·split
   ·decide
   ·split<;>decide
theorem QD.get{w:World}{A:Option Addr}{L C:Nat}{ks:List Kd}(h:QD w (.slice A L C) (kw ks)):L=ks.length∧L≤C∧(0<ks.length→C≤ks.length)∧∀i (hi:i<ks.length),∃g,A=some ⟨g,0,none⟩∧w.cell? ⟨g,i,none⟩=some (.string (bs ks[i].w)):=by
 rcases h with⟨h,e⟩|⟨g,e,h⟩
 ·cases e
  have :ks= []:=by cases ks with
   |nil=>rfl
   |cons a b=>simp[kw]at h
  subst this;exact⟨rfl,Nat.le_refl _,λh=>Nat.zero_le _,λi hi=>by simp at hi⟩
 ·simp only[kw,List.length_map]at e
  cases e;refine⟨rfl,Nat.le_refl _,λ_=>Nat.le_refl _,λi hi=>⟨g,rfl,?_⟩⟩;rw[h.cell];simp[kw,hi]
end
section
open Go.ChangeShapes Go.WideShapes Go.ChangeAt Go.RowKit
section
variable {P:Program} {ops:Array Oper} {Q:Exit→Act→World→Prop} {md:Region.Mode} {S:World→Prop} {m:Nat}
theorem Xk{k i:Nat}{listed:Array Bool}(hw:vR md ops k i=true)(hi:listed.getD i true=false):k ∉ Region.ready md ops listed:=by
 intro hm;obtain⟨_,o,ho,hall⟩:=mem_ready.1 hm;simp only[vR,ho,Option.any_some,Array.any_eq_true',Bool.and_eq_true,beq_iff_eq]at hw;obtain⟨e,he,hb,rfl⟩:=hw;have h1:=hall e he hb;by_cases hlt:e.on<listed.size
 ·simp[hlt]at hi h1
  rw[hi]at h1;cases h1
 ·simp[Array.getElem?_eq_none (Nat.not_lt.1 hlt)]at h1
def VE(md:Region.Mode)(ops:Array Oper):Nat→List Nat→Bool
 |_,[]=>true
 |i,k::ks=>vR md ops k i&&VE md ops k ks
theorem Yn{listed:Array Bool}:∀ {ks:List Nat} {i m:Nat},VE md ops i (ks++ [m])=true→listed.getD i true=false→(∀k ∈ ks,listed.getD k true=false)→m ∉ Region.ready md ops listed∧∀k ∈ ks,k ∉ Region.ready md ops listed
 | [],i,m,hc,hi,hk=>by
   have hc':(vR md ops m i&&true)=true:=hc;rw[Bool.and_true]at hc';exact⟨Xk hc' hi,λk hk=>by cases hk⟩
 |k::ks,i,m,hc,hi,hk=>by
  have hc':(vR md ops k i&&VE md ops k (ks++ [m]))=true:=hc;rw[Bool.and_eq_true]at hc';obtain⟨h1,h2⟩:=Yn hc'.2 (hk k (List.mem_cons_self ..)) (λq hq=>hk q (List.mem_cons_of_mem _ hq));refine⟨h1,λq hq=>?_⟩;rcases List.mem_cons.1 hq with rfl|h3
  ·exact Xk hc'.1 hi
  ·exact h2 q h3
theorem yl.frontC{i:Nat}{oi:Oper}{v:Value}(ks:List Nat)(hi:ops[i]?=some oi)(him:i≠m)(hch:VE md ops i (ks++ [m])=true)(hsel:∀(j:Nat) (o:Oper) cs b,ops[j]?=some o→o.op≠ .select cs b)
 (hQ:∀c a w,Q (.panic c) (a.put oi.dst v) w→Q (.panic c) a w):∀(n:Nat) (listed:Array Bool) (a:Act) (w:World),(∀k ∈ ks,listed.getD k true=false) →
   (∀j oj,ops[j]?=some oj→j≠i→listed.getD j true=false→(∀e ∈ oj.after,Region.binds md e=true→e.on≠i)→oi.apart ops oj=true) →
   i ∈ Region.ready md ops listed→YieldsIf P ops S oi v a→S w→yl P md ops Q S m n (listed.setIfInBounds i true) (a.put oi.dst v) w→yl P md ops Q S m (n+1) listed a w
 |n,listed,a,w,hun,hfree,hr,hy,hS,H=>by
  refine⟨λh=>absurd (h ▸ hr) (by simp),λj hj=>?_⟩;by_cases hji:j=i
  ·subst hji
   exact hy.wpOp hi hS ⟨λ_=>hS,H⟩
  obtain⟨hm0,hk0⟩:=Yn hch (mem_ready.1 hr).1 hun;have hjm:j≠m:=λe=>hm0 (e ▸ hj)
  have hj':=ready_mono hj hji;cases n with
  |zero=>exact absurd (H.1 ▸ hj') (by simp)
  |succ n =>
   obtain⟨hjun,oj,hoj,hall⟩:=mem_ready.1 hj
   have hno:∀e ∈ oj.after,Region.binds md e=true→e.on≠i:=by
    intro e he hb heq;have h1:=hall e he hb;have h0:=(mem_ready.1 hr).1;subst heq;by_cases hlt:e.on<listed.size
    ·simp[hlt]at h0 h1
     rw[h0]at h1;cases h1
    ·simp[Array.getElem?_eq_none (Nat.not_lt.1 hlt)]at h1
   refine wpOp_mono ?_ (wpOp_putIf hoj (hfree j oj hoj hji hjun hno) (λcs b=>hsel i oi cs b hi) (λcs b=>hsel j oj cs b hoj) hQ hy (H.2 j hj'));rintro a' w' ⟨hy',hS',H'⟩;refine⟨hS',yl.frontC ks hi him hch hsel hQ n (listed.setIfInBounds j true) a' w' (λk hk=>?_) (λk ok hk hki hun hn=>hfree k ok hk hki ?_ hn) (ready_mono hr (Ne.symm hji)) hy' (hS' hjm) ?_⟩
   ·have hjk:j≠k:=λe=>hk0 k hk (e ▸ hj)
    rw[getD_set_ne true hjk];exact hun k hk
   ·by_cases hjk:j=k
    ·subst hjk;exact hjun
    ·rwa [getD_set_ne true hjk]at hun
   ·rw[Array.setIfInBounds_comm _ _ hji]
    exact H'
theorem Qc{oi:Oper}(i:Nat)(ks:List Nat)(d:Option Tmp)(v:Value){n:Nat}{listed:Array Bool}{a:Act}{w:World}(hi:ops[i]?=some oi)(hd:oi.dst=d)(him:i≠m)(hch:VE md ops i (ks++ [m])=true)(hun:ks.all (λk=>listed.getD k true==false)=true)
 (hs:Region.noSelect ops=true) (hf:Region.free md ops listed i=true) (hr:(Region.ready md ops listed).contains i=true)
 (hQ:∀c a w,Q (.panic c) (a.put d v) w→Q (.panic c) a w) (hw:Region.wanted oi (yielded ops a.tmps)=true) (hy:∀w,S w→(execOp a.eval oi).run P w= .ok (.value v) w) (hS:S w)
 (h:yl P md ops Q S m n (listed.setIfInBounds i true) (a.put d v) w):yl P md ops Q S m (n+1) listed a w:=by
 subst hd;refine yl.frontC ks hi him hch (Region.noSelect_spec hs) hQ n listed a w (λk hk=>?_) (Region.free_spec hi hf) (by simpa using hr) (.inl ⟨hw,hy⟩) hS h;have:=List.all_eq_true.1 hun k hk
 simpa using this
end
end
section
open Go.ChangeShapes Go.WideShapes Go.ChangeAt Go.RowKit
theorem X7{o:Oper}{a:Act}(ty:TypeId)(x:Operand)(ho:o.op= .load ty x)(hty:ty=9∨ty=3)(p:Addr)(hx:a.eval x= .pointer (some p))(v:Value)(w:World)(h:w.cell? p=some v):(execOp a.eval o).run Tryz.prog w= .ok (.value v) w:=by
 unfold execOp;simp only[ho,hx];rcases hty with rfl|rfl
 ·go_simp
 ·go_simp
theorem Kp.setRow{p:Nat}{w w':World}(h:Kp p w w'){g:Nat}(hg:w.heap.size≤g)(X:Array Value):Kp p w (w'.setRow g X):=
 ⟨h.os,h.tape,h.output,by have:=h.size;simpa using this,λk hk hn=>(setRow_other w' g k X (by omega)).trans (h.block k hk hn)⟩
theorem yn.setRow{w:World}{P:Nat→Prop}{l:List Nd}{v:Value}(h:yn w P l v){g:Nat}(hq:∀k,P k→k≠g)(X:Array Value):yn (w.setRow g X) P l v:=
 h.keep λk o hk ho=>(setRow_other w g k X (hq k hk)).trans ho
theorem Un:bs zn=⟨#[100,101,118,105,99,101]⟩:=rfl
theorem YR:bs zq=⟨#[106,111,117,114,110,97,108]⟩:=rfl
theorem zcR:bs zM=⟨#[107,101,121]⟩:=rfl
theorem zcn:bs zN=⟨#[114,111,111,116]⟩:=rfl
theorem fQ:bs zB=⟨#[118,111,108,117,109,101]⟩:=rfl
theorem Dq:bs qj=⟨#[101,120,112,111,114,116]⟩:=rfl
theorem dE{p:Tk→Bool}{en:Nat}{ts r:zL}{t:Tk×Nat}(h:qi p en ts= .ok (t,r)):p t.1=true:=by
 cases ts with
 |nil=>cases h
 |cons u us =>
  simp only[qi]at h
  split at h
  ·rename_i hp;cases h;exact hp
  ·cases h
def dm(t u:Tk×Nat):yj Nd:=zU (xi t.1.s) λr=>zU (qi (xE [59])) λ_=>vD (.mk t.1.s u.1.s r.1 t.2 r.2)
theorem Hw{en:Nat}{ts:zL}{e:Nat×Nat}(h:qi (ZH xF) en ts= .error e):jC en ts= .error e:=by
 unfold jC zU;rw[h]
theorem da{en:Nat}{ts r:zL}{t:Tk×Nat}{e:Nat×Nat}(h:qi (ZH xF) en ts= .ok (t,r))(h2:qi yp en r= .error e):jC en ts= .error e:=by
 unfold jC zU;simp only[h,h2]
theorem uo{en:Nat}{ts r r':zL}{t u:Tk×Nat}(h:qi (ZH xF) en ts= .ok (t,r))(h2:qi yp en r= .ok (u,r')):jC en ts=dm t u en r':=by
 unfold jC;show zU _ _ en ts=_;rw[zU,h];show zU _ _ en r=_;rw[zU,h2];rfl
theorem YJ(f en:Nat)(t:Tk×Nat)(r:zL):vS (f+1) en (t::r)=match jC en (t::r)with | .error e=> .error e| .ok (n,r')=>pre [n] (vS f en r'):=by
 show zU jC _ en (t::r)=_;unfold zU;cases jC en (t::r)with
 |error e=>rfl
 |ok x =>
  obtain⟨n,r'⟩:=x;simp only;cases vS f en r' with
  |error e=>rfl
  |ok y=>obtain⟨m,r''⟩:=y;rfl
theorem Jd{en:Nat}{ts r:zL}{n:Nd}(h:jC en ts= .ok (n,r)):r.length+1≤ts.length:=by
 cases hT1:qi (ZH xF) en ts with
 |error e=>rw[Hw hT1]at h;cases h
 |ok x =>
  obtain⟨t,r1⟩:=x;have:=QH hT1;cases hT2:qi yp en r1 with
  |error e=>rw[da hT1 hT2]at h;cases h
  |ok y =>
   obtain⟨u,r2⟩:=y;have h2:=QH hT2;rw[uo hT1 hT2]at h;have hs:zQ (dm t u):=(J0 _).bind λ_=>(zQ.take _).bind λ_=>zQ.ret _
   have:=gm hs h;omega
theorem zt{w:World}{g t:Nat}{cs:Array Value}(h:zm w g t cs):zm w.drew g t cs:=h
theorem zr{B:Nat}{a w:World}(h:Below B a w):Below B a w.drew:=⟨h.os,h.tape,h.output,h.size,h.block⟩
theorem zm.oth5{w:World}{g g' t:Nat}{cs:Array Value}(h:zm w g t cs)(hne:g≠g')(x0 x1 x2 x3 x4:Value):zm (Qj w g' x0 x1 x2 x3 x4) g t cs:=
 ((((h.other (p:=⟨g',0,none⟩) hne x0).other (p:=⟨g',1,none⟩) hne x1).other (p:=⟨g',2,none⟩) hne x2).other (p:=⟨g',3,none⟩) hne x3).other (p:=⟨g',4,none⟩) hne x4
theorem b5{w:World}{p:Nat}(x0 x1 x2 x3 x4 y z:Value)(o:Obj)(hp:p≤w.heap.size):Below p w ((((Qj w p x0 x1 x2 x3 x4).setCell ⟨p+1,0,none⟩ y).setCell ⟨p+2,0,none⟩ z).alloc o).drew:=by
 have h0:Below p w (((Qj w p x0 x1 x2 x3 x4).setCell ⟨p+1,0,none⟩ y).setCell ⟨p+2,0,none⟩ z):=(((((((Below.refl p w).setCell (p:=⟨p,0,none⟩) (Nat.le_refl p) x0).setCell (p:=⟨p,1,none⟩) (Nat.le_refl p) x1).setCell (p:=⟨p,2,none⟩) (Nat.le_refl p) x2).setCell (p:=⟨p,3,none⟩) (Nat.le_refl p) x3).setCell (p:=⟨p,4,none⟩) (Nat.le_refl p) x4).setCell (p:=⟨p+1,0,none⟩) (by show p≤p+1;omega) y).setCell (p:=⟨p+2,0,none⟩) (by show p≤p+2;omega) z;exact zr (h0.alloc (by have:=h0.size;omega) o)
theorem zb2{w W:World}(h:Below w.heap.size w W)(x0 x1 x2 x3 x4:Value):Below w.heap.size w (Qj W w.heap.size x0 x1 x2 x3 x4):=
 ((((h.setCell (p:=⟨w.heap.size,0,none⟩) (Nat.le_refl _) x0).setCell (p:=⟨w.heap.size,1,none⟩) (Nat.le_refl _) x1).setCell (p:=⟨w.heap.size,2,none⟩) (Nat.le_refl _) x2).setCell (p:=⟨w.heap.size,3,none⟩) (Nat.le_refl _) x3).setCell (p:=⟨w.heap.size,4,none⟩) (Nat.le_refl _) x4
theorem JN{fn:Func}{R:Ending→World→Prop}{a:Act}{W:World}{s t u g:Nat}{x0 x1 x2 x3 x4 y z:Value}(hr:fn.results= #[.cell s 24,.tmp t,.tmp u])(hs:a.tmps[s]?.getD undef= .pointer (some ⟨g,0,none⟩))(ht:a.tmps[t]?.getD undef=y)(hu:a.tmps[u]?.getD undef=z)(hH:zm W g 24 #[x0,x1,x2,x3,x4])(hd:a.defers= [])(h:R (.returned (.tuple #[.agg #[x0,x1,x2,x3,x4],y,z])) W):bodyPost Tryz.prog fn R .ret a W:=by
 have q0:=hH.cell 0;have q1:=hH.cell 1;have q2:=hH.cell 2;have q3:=hH.cell 3;have q4:=hH.cell 4;exact bodyPost_ret (by simp only[results,hr];simp[hs,ht,hu,go_sem,q0,q1,q2,q3,q4]) hd h
inductive Rd (w:World):List Nd→Value→Prop where
 |mk (l:List Nd) (vs:List Value) (A:Option Addr) (C:Nat):vs.length=l.length→l.length≤C→C≤9223372036854775807 →
   (∀i (h:i<l.length) (h':i<vs.length),∃g off,A=some ⟨g,off,none⟩∧g<w.heap.size∧∀j,j<5→w.cell? ⟨g,off+i*5+j,none⟩=(qD l[i] vs[i])[j]?) →
   (∀i (h:i<l.length) (h':i<vs.length),Rd w l[i].l vs[i])→(∀x ∈ l,x.s.length<maxLen∧x.op.length<maxLen)→Rd w l (.slice A l.length C)
theorem Rd.grow{w w':World}{l:List Nd}{v:Value}(h:Rd w l v)(hb:Below w.heap.size w w'):Rd w' l v:=by
 induction h with
 |mk l vs A C h1 h2 h3 h4 h5 h6 ih =>
  refine .mk l vs A C h1 h2 h3 (λi h h'=>?_) ih h6;obtain⟨g,off,e,hg,hc⟩:=h4 i h h';exact⟨g,off,e,Nat.lt_of_lt_of_le hg hb.size,λj hj=>(hb.cell (p:=⟨g,off+i*5+j,none⟩) hg).trans (hc j hj)⟩
theorem Rd.slice{w:World}{l:List Nd}{v:Value}(h:Rd w l v):∃A C,v= .slice A l.length C∧l.length≤C∧C≤9223372036854775807:=by
 cases h with
 |mk l vs A C h1 h2 h3=>exact⟨A,C,rfl,h2,h3⟩
theorem Rd.get{w:World}{l:List Nd}{A:Option Addr}{L C:Nat}(h:Rd w l (.slice A L C))(i:Nat)(hi:i<l.length):∃g off u,A=some ⟨g,off,none⟩∧g<w.heap.size∧(∀j,j<5→w.cell? ⟨g,off+i*5+j,none⟩=(qD l[i] u)[j]?)∧Rd w l[i].l u∧l[i].s.length<maxLen∧l[i].op.length<maxLen:=by
 cases h with
 |mk l vs A C h1 h2 h3 h4 h5 h6 =>
  obtain⟨g,off,e,hg,hc⟩:=h4 i hi (by omega);obtain⟨h7,h8⟩:=h6 _ (List.getElem_mem hi);exact⟨g,off,vs[i],e,hg,hc,h5 i hi (by omega),h7,h8⟩
inductive Yz:Nd→Prop where
 |mk (op s:List UInt8) (n a:Int) (l:List Nd):op.length≤1000→s.length≤1000→(∀x ∈ l,Yz x)→Yz (.mk op s n a l)
theorem Yz.s{n:Nd}(h:Yz n):n.s.length≤1000:=by cases h;assumption
theorem Yz.op{n:Nd}(h:Yz n):n.op.length≤1000:=by cases h;assumption
theorem Yz.l{n:Nd}(h:Yz n):∀x ∈ n.l,Yz x:=by cases h;assumption
theorem yn.rd{w:World}{P:Nat→Prop}{l:List Nd}{v:Value}(h:yn w P l v)(hs:∀x ∈ l,Yz x):Rd w l v:=by
 induction h with
 |mk l vs v h1 h2 h3 h4 ih =>
  have hk:=λi (h:i<l.length) (h':i<vs.length)=>ih i h h' (hs _ (List.getElem_mem h)).l
  have hm:∀x ∈ l,x.s.length<maxLen∧x.op.length<maxLen:=λx hx=>⟨by have:=(hs x hx).s;unfold maxLen;omega,by have:=(hs x hx).op;unfold maxLen;omega⟩
  rcases h2.2 with⟨rfl,h0⟩|⟨g,cap,cur,rfl,_,hg,hn,hm2,hsz,ht⟩
  ·have :l= []:=List.length_eq_zero_iff.1 h0
   subst this;exact .mk [] vs none 0 h1 (Nat.le_refl _) (by omega) (λi h=>by simp at h) hk hm
  ·refine .mk l vs (some ⟨g,0,none⟩) cap h1 hn hm2 (λi h h'=>⟨g,0,rfl,(Array.getElem?_eq_some_iff.1 hg).1,λj hj=>?_⟩) hk hm
   rw[Nat.zero_add,←zaL l vs i h h' j hj,←ht,List.getElem?_take_of_lt (by omega),Array.getElem?_toList];exact cell_of_row w g (i*5+j) cur _ _ hg
def xG(x:List UInt8):Option (Tk×Nat):=match vL x with
 | .ok [t]=>some t
 |_=>none
def y7(o:Option (Tk×Nat)):Value:=match o with
 |some t=> .tuple #[.agg (vG t.1 t.2),.bool true]
 |none=> .tuple #[.agg #[.int .i64 0,.string ⟨#[]⟩,.int .i64 0,.int .i64 0],.bool false]
def jq(x:List UInt8):Bool:=match xG x with
 |some t=>yp t.1&&t.1.s==x
 |none=>false
def xg(x:List UInt8):Bool:=match xG (36::x)with
 |some t=>t.1.kind==2&&t.1.s==x
 |none=>false
theorem KR{fn:Func}{R:Ending→World→Prop}{a:Act}{W:World}{s t g:Nat}{x0 x1 x2 x3 y:Value}(hr:fn.results= #[.cell s 78,.tmp t])(hs:a.tmps[s]?.getD undef= .pointer (some ⟨g,0,none⟩))(ht:a.tmps[t]?.getD undef=y)(hH:zm W g 78 #[x0,x1,x2,x3])(hd:a.defers= [])(h:R (.returned (.tuple #[.agg #[x0,x1,x2,x3],y])) W):bodyPost Tryz.prog fn R .ret a W:=by
 have q0:=hH.cell 0;have q1:=hH.cell 1;have q2:=hH.cell 2;have q3:=hH.cell 3;exact bodyPost_ret (by simp only[results,hr];simp[hs,ht,go_sem,q0,q1,q2,q3]) hd h
theorem zcN{w W:World}(h:Below w.heap.size w W)(x0 x1 x2 x3:Value):Below w.heap.size w ((((W.setCell ⟨w.heap.size,0,none⟩ x0).setCell ⟨w.heap.size,1,none⟩ x1).setCell ⟨w.heap.size,2,none⟩ x2).setCell ⟨w.heap.size,3,none⟩ x3):=
 (((h.setCell (p:=⟨w.heap.size,0,none⟩) (Nat.le_refl _) x0).setCell (p:=⟨w.heap.size,1,none⟩) (Nat.le_refl _) x1).setCell (p:=⟨w.heap.size,2,none⟩) (Nat.le_refl _) x2).setCell (p:=⟨w.heap.size,3,none⟩) (Nat.le_refl _) x3
theorem GX(x:List UInt8)(w:World)(hm:x.length≤maxLen):Calls Tryz.prog 74 #[.string (bs x)] w λe w'=>e= .returned (y7 (xG x))∧Below w.heap.size w w':=by
 have other:∀(A:Option Addr) (L C:Nat) (er o:Int),¬(L:Int)=1→(L:Int)≤9223372036854775807→(∀W,Calls Tryz.prog 90 #[.string (bs x)] W λe w'=>∃A C,e= .returned (.tuple #[.slice A L C,.int .i64 er,.int .i64 o])∧Below W.heap.size W w')→xG x=none →
  Calls Tryz.prog 74 #[.string (bs x)] w λe w'=>e= .returned (y7 (xG x))∧Below w.heap.size w w':=by
  intro A L C er o hL hL2 hsc hn;rw[hn];clear hn hm;go_enter Tryz.func74,Tryz.ntmps74
  go_wp2_with (first
   |((go_at_call 90)
     refine(hsc _).mono ?_;rintro e w1 ⟨A,C,rfl,hb1⟩;have ha1:=(zm.new w 78 #[.int .i64 0,.string ⟨#[]⟩,.int .i64 0,.int .i64 0]).below hb1 (by simp);have a0:=ha1.cell 0;have a1:=ha1.cell 1;have a2:=ha1.cell 2;have a3:=ha1.cell 3;have f0:=ha1.free 0;have f1:=ha1.free 1;have f2:=ha1.free 2;have f3:=ha1.free 3;(have la:=ha1.lt)))
  have hb:Below w.heap.size w w1:=(zl w _).trans (hb1.mono (by simp));exact KR rfl rfl rfl (ha1.set4 _ _ _ _) rfl ⟨rfl,zcN hb _ _ _ _⟩
 cases hS:vL x with
 |error r =>
  obtain⟨er,o⟩:=r;exact other none 0 0 er o (by decide) (by decide) (λW=>(ua W x hm hS).mono λe w' h=>⟨none,0,h.1,h.2⟩) (by unfold xG;rw[hS])
 |ok ts =>
  have hlen:=(yy hS).1;have hsc:=λW=>fq W x hm hS
  by_cases h1:ts.length=1
  ·obtain⟨t,rfl⟩:=List.length_eq_one_iff.1 h1
   have hT:xG x=some t:=by unfold xG;rw[hS]
   rw[hT]
   have hsc':∀W,Calls Tryz.prog 90 #[.string (bs x)] W λe w'=>∃g C,e= .returned (.tuple #[.slice (some ⟨g,0,none⟩) 1 C,.int .i64 0,.int .i64 (-1)])∧Below W.heap.size W w'∧g<w'.heap.size∧1≤C∧C≤9223372036854775807∧w'.cell? ⟨g,0,none⟩=some (.int .i64 (t.1.kind:Nat))∧w'.cell? ⟨g,1,none⟩=some (.string (bs t.1.s))∧w'.cell? ⟨g,2,none⟩=some (.int .i64 (t.1.n:Nat))∧w'.cell? ⟨g,3,none⟩=some (.int .i64 (t.2:Nat)):=by
    intro W;refine(hsc W).mono ?_;rintro e w' ⟨A,C,rfl,hb,htr⟩;obtain⟨g,C',e,q1,q2,q3,q4,_,hc⟩:=htr.lies (by simp);cases e;exact⟨g,C,rfl,hb,q2,q3,q4,hc 0 (by simp) 0 (by decide),hc 0 (by simp) 1 (by decide),hc 0 (by simp) 2 (by decide),hc 0 (by simp) 3 (by decide)⟩
   clear hsc hT hS h1 other hm hlen;go_enter Tryz.func74,Tryz.ntmps74
   go_wp2_with (first
    |((go_at_call 90)
      refine(hsc' _).mono ?_;rintro e w1 ⟨g,C,rfl,hb1,hgl,hC1,hC2,d0,d1,d2,d3⟩;have ha1:=(zm.new w 78 #[.int .i64 0,.string ⟨#[]⟩,.int .i64 0,.int .i64 0]).below hb1 (by simp);have a0:=ha1.cell 0;have a1:=ha1.cell 1;have a2:=ha1.cell 2;have a3:=ha1.cell 3;have f0:=ha1.free 0;have f1:=ha1.free 1;have f2:=ha1.free 2;have f3:=ha1.free 3;(have la:=ha1.lt)))
   have hb:Below w.heap.size w w1:=(zl w _).trans (hb1.mono (by simp));exact KR rfl rfl rfl (ha1.set4 _ _ _ _) rfl ⟨rfl,zcN hb _ _ _ _⟩
  ·refine other none ts.length 0 0 (-1) (by omega) (by omega) (λW=>(hsc W).mono λe w' ⟨A,C,h,hb,_⟩=>⟨A,C,h,hb⟩) ?_
   unfold xG;rw[hS]
   match ts,h1 with
   | [],_=>rfl
   | [t],h=>exact absurd rfl h
   |_::_::_,_=>rfl
def j8(n:Int):Bool:=decide (0≤n)&&decide (n≤999999999)
def zP(re:Nd→Bool):Kd→Nd→Bool
 | .nu,n=>n.op==vu&&n.s== []&&j8 n.n&&decide (n.l.length=0)
 | .na,n=>n.op==jM&&jq n.s&&decide (n.n=0)&&decide (n.l.length=0)
 | .ex,n=>re n
def JP(ks:List Kd)(i:Nat):Kd:=ks.getD (min i (ks.length-1)) .ex
def QX(ks:List Kd)(more:Bool)(L:Nat):Bool:= !(decide (ks.length=0))&& !(decide (L<ks.length))&& !(decide (ks.length<L)&& !more)
def jv(re:Nd→Bool)(n:Nd):Bool:=QX (qn n.op).1 (qn n.op).2 n.l.length&&(List.range n.l.length).all λi=>zP re (JP (qn n.op).1 i) (n.l.getD i (.mk [] [] 0 0 []))
def zo:Nat→Nd→Bool
 |0,_=>false
 |d+1,n=>decide (n.n=0)&&(if n.op=vK then jq n.s&&decide (n.l.length=0)else n.s== []&&jv (zo d) n)
def yt(n:Nd):Bool:=n.op==QZ&&xg n.s&&decide (n.n=0)&&decide (n.l.length=0)
def qS(n:Nd):Bool:=jq n.s &&
 (if n.op=zn∨n.op=zq then j8 n.n&&decide (n.l.length=0)
  else if n.op=zM∨n.op=zN then decide (n.n=0)&&decide (n.l.length=1)&&yt (n.l.getD 0 (.mk [] [] 0 0 []))
  else if n.op=zB then decide (n.n=0)&&decide (n.l.length=1)&&zo 12 (n.l.getD 0 (.mk [] [] 0 0 []))
  else if n.op=qj then(decide (n.n=0)||decide (n.n=1))&&decide (n.l.length=0)
  else false)
def yP(n:Nd):Bool:=n.l.all qS&&n.op==y8&&n.s== []&&decide (n.n=0)
theorem Qh(n:Nd)(A:Option Addr)(L C:Nat)(w:World):Calls Tryz.prog 57 #[.agg (qD n (.slice A L C))] w λe w'=>e= .returned (.bool (j8 n.n))∧Below w.heap.size w w':=by
 unfold j8 qD;generalize n.n=N;by_cases h1:0≤N
 ·by_cases h2:N≤999999999
  all_goals
   go_enter Tryz.func57,Tryz.ntmps57
   go_wp2
   go_ret
   exact⟨qW (by simp[h1,h2]),zl _ _⟩
 ·go_enter Tryz.func57,Tryz.ntmps57
  go_wp2
  go_ret
  refine⟨qW ?_,zl _ _⟩;rw[Bool.eq_iff_iff];simp;omega
theorem zbc{w w1 w2:World}{o o':Obj}(h:Below (w.alloc o).heap.size (w.alloc o) w1)(h2:Below (w1.alloc o').heap.size (w1.alloc o') w2):Below w.heap.size w w2:=by
 have s1:=h.size;have s2:=h2.size;simp at s1 s2;exact(((zl w o).trans (h.mono (by simp))).alloc (by omega) o').trans (h2.mono (by simp;omega))
theorem xP{w w1:World}{o o':Obj}(h:Below (w.alloc o).heap.size (w.alloc o) w1):Below w.heap.size w (w1.alloc o'):=by
 have s1:=h.size;simp at s1;exact((zl w o).trans (h.mono (by simp))).alloc (by omega) o'
theorem vT(n:Nd)(A:Option Addr)(L C:Nat)(w:World)(hm:n.s.length≤maxLen):Calls Tryz.prog 56 #[.agg (qD n (.slice A L C))] w λe w'=>e= .returned (.bool (jq n.s))∧Below w.heap.size w w':=by
 have htk:=λW=>GX n.s W hm
 unfold jq qD;have hs:=zp n.s;cases hT:xG n.s with
 |none =>
  rw[hT]at htk;simp only[y7]at htk;clear hT;go_enter Tryz.func56,Tryz.ntmps56
  go_wp2_with (go_at_call 74;refine(htk _).mono ?_;rintro e w1 ⟨rfl,hb1⟩)
  go_ret
  exact⟨rfl,xP hb1⟩
 |some t =>
  rw[hT]at htk;simp only[y7,vG]at htk;have hnm:=zdl t.1 t.2;have hs2:=zp t.1.s;simp only;generalize yp t.1=B at hnm ⊢;unfold vG at hnm;clear hT;cases B
  all_goals
   go_enter Tryz.func56,Tryz.ntmps56
   go_wp2_with (first
    |((go_at_call 74)
      refine(htk _).mono ?_;rintro e w1 ⟨rfl,hb1⟩;have hN1:=(zm.new w _ _).below hb1 (by simp);(have hlN:=hN1.lt))
    |((go_at_call 75)
      refine(hnm _).mono ?_;rintro e w2 ⟨rfl,hb2⟩;have hN2:=(hN1.alloc _).below hb2 (by simp;omega);have n1:=hN2.cell 1;have hT2:=(zm.new w1 _ _).below hb2 (by simp);(have t1:=hT2.cell 1)))
   go_ret
   exact⟨qW (by simp),zbc hb1 hb2⟩
structure jZ (w:World) (n:Nd) (A:Option Addr) (C:Nat):Prop where
 rd:Rd w n.l (.slice A n.l.length C)
 s:n.s.length<maxLen
 op:n.op.length<maxLen
theorem jZ.grow{w w':World}{n:Nd}{A:Option Addr}{C:Nat}(h:jZ w n A C)(hb:Below w.heap.size w w'):jZ w' n A C:=⟨h.rd.grow hb,h.s,h.op⟩
theorem jZ.len{w:World}{n:Nd}{A:Option Addr}{C:Nat}(h:jZ w n A C):n.l.length≤C∧C≤9223372036854775807:=by
 obtain⟨A',C',e,h1,h2⟩:=h.rd.slice;cases e;exact⟨h1,h2⟩
abbrev j1(w:World)(b:Bool)(e:Ending)(w':World):Prop:=e= .returned (.bool b)∧Below w.heap.size w w'
theorem dO(d N:Nat)(k:Kd)(n:Nd)(A:Option Addr)(C:Nat)(w:World)(h:jZ w n A C)(hN:N≤13)
 (hx:∀W,jZ W n A C→Calls Tryz.prog 59 #[.agg (qD n (.slice A n.l.length C)),.int .i64 (N:Nat)] W (j1 W (zo d n))):
 Calls Tryz.prog 93 #[.agg (qD n (.slice A n.l.length C)),.string (bs k.w),.int .i64 (N:Nat)] w (j1 w (zP (zo d) k n)):=by
 have hlen:=h.len;have hnum:=λW=>Qh n A n.l.length C W
 have hnam:=λW=>vT n A n.l.length C W (by have:=h.s;omega)
 have hs:=zp n.s;have ho:=zp n.op;have hx':=λW hW=>hx W (h.grow hW)
 cases k with
 |nu =>
  show Calls Tryz.prog 93 #[.agg (qD n (.slice A n.l.length C)),.string ⟨#[110,117,109]⟩,.int .i64 (N:Nat)] w _;simp only[zP];have hL:((n.l.length:Nat):Int)≤9223372036854775807:=by omega
  generalize n.l.length=L at *;unfold qD at *;generalize j8 n.n=B at *;clear hx hx' h hnam
  cases e1:(n.op==vu)
  ·have e1':(n.op== [110,117,109])=false:=e1
   go_enter Tryz.func93,Tryz.ntmps93
   go_wp2
   go_ret
   exact⟨rfl,zl _ _⟩
  ·have e1':(n.op== [110,117,109])=true:=e1
   cases e2:(n.s== [])
   ·go_enter Tryz.func93,Tryz.ntmps93
    go_wp2
    go_ret
    exact⟨rfl,zl _ _⟩
   ·by_cases hL0:L=0
    ·subst hL0
     cases B
     all_goals
      go_enter Tryz.func93,Tryz.ntmps93
      go_wp2_with (go_at_call 57;refine(hnum _).mono ?_;rintro e w1 ⟨rfl,hb1⟩;have hN1:=(zm.new w _ _).below hb1 (by simp);have n4:=hN1.cell 4)
      go_ret
      exact⟨rfl,(zl w _).trans (hb1.mono (by simp))⟩
    ·have hL0':¬(L:Int)=0:=by omega
     cases B
     all_goals
      go_enter Tryz.func93,Tryz.ntmps93
      go_wp2_with (go_at_call 57;refine(hnum _).mono ?_;rintro e w1 ⟨rfl,hb1⟩;have hN1:=(zm.new w _ _).below hb1 (by simp);have n4:=hN1.cell 4)
      go_ret
      exact⟨by simp[hL0],(zl w _).trans (hb1.mono (by simp))⟩
 |na =>
  show Calls Tryz.prog 93 #[.agg (qD n (.slice A n.l.length C)),.string ⟨#[110,97,109,101]⟩,.int .i64 (N:Nat)] w _;simp only[zP];have hL:((n.l.length:Nat):Int)≤9223372036854775807:=by omega
  generalize n.l.length=L at *;unfold qD at *;generalize jq n.s=B at *;clear hx hx' h hnum
  cases e1:(n.op==jM)
  ·have e1':(n.op== [110,97,109,101])=false:=e1
   go_enter Tryz.func93,Tryz.ntmps93
   go_wp2
   go_ret
   exact⟨rfl,zl _ _⟩
  ·have e1':(n.op== [110,97,109,101])=true:=e1
   cases B
   ·go_enter Tryz.func93,Tryz.ntmps93
    go_wp2_with (go_at_call 56;refine(hnam _).mono ?_;rintro e w1 ⟨rfl,hb1⟩)
    go_ret
    exact⟨rfl,(zl w _).trans (hb1.mono (by simp))⟩
   ·generalize n.n=M at *
    by_cases hM:M=0
    ·subst hM
     by_cases hL0:L=0
     ·subst hL0
      go_enter Tryz.func93,Tryz.ntmps93
      go_wp2_with (go_at_call 56;refine(hnam _).mono ?_;rintro e w1 ⟨rfl,hb1⟩;have hN1:=(zm.new w _ _).below hb1 (by simp);have n2:=hN1.cell 2;have n4:=hN1.cell 4)
      go_ret
      exact⟨rfl,(zl w _).trans (hb1.mono (by simp))⟩
     ·have hL0':¬(L:Int)=0:=by omega
      go_enter Tryz.func93,Tryz.ntmps93
      go_wp2_with (go_at_call 56;refine(hnam _).mono ?_;rintro e w1 ⟨rfl,hb1⟩;have hN1:=(zm.new w _ _).below hb1 (by simp);have n2:=hN1.cell 2;have n4:=hN1.cell 4)
      go_ret
      exact⟨by simp[hL0],(zl w _).trans (hb1.mono (by simp))⟩
    ·go_enter Tryz.func93,Tryz.ntmps93
     go_wp2_with (go_at_call 56;refine(hnam _).mono ?_;rintro e w1 ⟨rfl,hb1⟩;have hN1:=(zm.new w _ _).below hb1 (by simp);have n2:=hN1.cell 2)
     go_ret
     exact⟨by simp[hM],(zl w _).trans (hb1.mono (by simp))⟩
 |ex =>
  show Calls Tryz.prog 93 #[.agg (qD n (.slice A n.l.length C)),.string ⟨#[101,120,112,114]⟩,.int .i64 (N:Nat)] w _;simp only[zP];generalize zo d n=B at *;unfold qD at *;clear hnum hnam hx;go_enter Tryz.func93,Tryz.ntmps93
  go_wp2_with (go_at_call 59;refine(hx' _ (zl _ _)).mono ?_;rintro e w1 ⟨rfl,hb1⟩)
  go_ret
  exact⟨rfl,(zl w _).trans (hb1.mono (by simp))⟩
theorem un(d N:Nat)(n:Nd)(A:Option Addr)(C:Nat)(w:World)(h:jZ w n A C)(hN:N≤12)
 (hx:∀W,jZ W n A C→Calls Tryz.prog 76 #[.agg (qD n (.slice A n.l.length C)),.int .i64 (N:Nat)] W (j1 W (jv (zo d) n))):
 Calls Tryz.prog 59 #[.agg (qD n (.slice A n.l.length C)),.int .i64 (N:Nat)] w (j1 w (zo (d+1) n)):=by
 have hlen:=h.len;have hnam:=λW=>vT n A n.l.length C W (by have:=h.s;omega)
 have hs:=zp n.s;have ho:=zp n.op;have hx':=λW hW=>hx W (h.grow hW)
 have hN':¬(12:Int)<(N:Int):=by omega
 simp only[zo];have hL:((n.l.length:Nat):Int)≤9223372036854775807:=by omega
 generalize jv (zo d) n=B at *;generalize n.l.length=L at *;unfold qD at *;generalize n.n=M at *;clear hx h;by_cases hM:M=0
 ·subst hM
  by_cases hu:n.op=vK
  ·have e1':(n.op== [117,115,101])=true:=by rw[hu];rfl
   rw[if_pos hu];generalize jq n.s=D at *;clear hx' hu;cases D
   ·go_enter Tryz.func59,Tryz.ntmps59
    go_wp2_with (go_at_call 56;refine(hnam _).mono ?_;rintro e w1 ⟨rfl,hb1⟩)
    go_ret
    exact⟨rfl,(zl w _).trans (hb1.mono (by simp))⟩
   ·by_cases hL0:L=0
    ·subst hL0
     go_enter Tryz.func59,Tryz.ntmps59
     go_wp2_with (go_at_call 56;refine(hnam _).mono ?_;rintro e w1 ⟨rfl,hb1⟩;have hN1:=(zm.new w _ _).below hb1 (by simp);have n4:=hN1.cell 4)
     go_ret
     exact⟨rfl,(zl w _).trans (hb1.mono (by simp))⟩
    ·have hL0':¬(L:Int)=0:=by omega
     go_enter Tryz.func59,Tryz.ntmps59
     go_wp2_with (go_at_call 56;refine(hnam _).mono ?_;rintro e w1 ⟨rfl,hb1⟩;have hN1:=(zm.new w _ _).below hb1 (by simp);have n4:=hN1.cell 4)
     go_ret
     exact⟨by simp[hL0],(zl w _).trans (hb1.mono (by simp))⟩
  ·have e1':(n.op== [117,115,101])=false:=by rw[beq_eq_false_iff_ne];exact hu
   rw[if_neg hu];clear hnam hu
   cases e2:(n.s== [])
   ·go_enter Tryz.func59,Tryz.ntmps59
    go_wp2
    go_ret
    exact⟨rfl,zl _ _⟩
   ·go_enter Tryz.func59,Tryz.ntmps59
    go_wp2_with (go_at_call 76;refine(hx' _ (zl _ _)).mono ?_;rintro e w1 ⟨rfl,hb1⟩)
    go_ret
    exact⟨rfl,(zl w _).trans (hb1.mono (by simp))⟩
 ·clear hnam hx'
  go_enter Tryz.func59,Tryz.ntmps59
  go_wp2
  go_ret
  exact⟨by simp,zl _ _⟩
theorem kG(n:Nd)(A:Option Addr)(C:Nat)(w:World):
 Calls Tryz.prog 59 #[.agg (qD n (.slice A n.l.length C)),.int .i64 13] w (j1 w (zo 0 n)):=by
 simp only[zo];unfold qD;go_enter Tryz.func59,Tryz.ntmps59
 go_wp2
 go_ret
 exact⟨rfl,zl _ _⟩
theorem GW{P:Program}{ops:Array Oper}{Q:Exit→Act→World→Prop}{md:Region.Mode}{S:World→Prop}{oi:Oper}(m:Nat)(d:Option Tmp)(v:Value){n:Nat}{listed:Array Bool}{a:Act}{w:World}(hr:Region.ready md ops listed= [m])
 (hi:ops[m]?=some oi) (hd:oi.dst=d) (hw:Region.wanted oi (yielded ops a.tmps)=true)
 (hrun:(execOp a.eval oi).run P w= .ok (.value v) w) (he:Region.ready md ops (listed.setIfInBounds m true)= [])
 (h:Q .normal (a.put d v) w):yl P md ops Q S m (n+1) listed a w:=by
 subst hd;refine⟨λh0=>absurd (hr ▸ h0) (by simp),λj hj=>?_⟩;obtain rfl:j=m:=by rw[hr]at hj;simpa using hj
 refine wpOp_step hi (λK hK=>?_);rw[if_pos hw];unfold Oper.wp;rw[hrun];refine hK _ _ ⟨λh=>absurd rfl h,?_⟩;cases n with
 |zero=>exact⟨he,h⟩
 |succ n=>exact⟨λ_=>h,by rw[he];simp⟩
theorem YC{o:Oper}{a:Act}(x:Operand)(ho:o.op= .load 24 x)(g:Nat)(hx:a.eval x= .pointer (some ⟨g,0,none⟩)){x0 x1 x2 x3 x4:Value}(w:World)(h:zm w g 24 #[x0,x1,x2,x3,x4]):(execOp a.eval o).run Tryz.prog w= .ok (.value (.agg #[x0,x1,x2,x3,x4])) w:=by
 have q0:=h.cell 0;have q1:=h.cell 1;have q2:=h.cell 2;have q3:=h.cell 3;have q4:=h.cell 4;unfold execOp;simp only[ho,hx];go_simp
theorem Y7{x:Int}(h0: -9223372036854775808≤x)(h1:x≤9223372036854775807):IntKind.i64.wrap x=x:=by
 simp[IntKind.wrap,IntKind.signed,IntKind.bits];omega
theorem Ur{o:Oper}{a:Act}(x:Operand)(ho:o.op= .binOp .sub 3 x (.const (.int .i64 1)) 3)(K:Nat)(hK:1≤K)(hK3:K≤3)(hx:a.eval x= .int .i64 (K:Nat))(w:World):(execOp a.eval o).run Tryz.prog w= .ok (.value (.int .i64 ((K-1:Nat):Int))) w:=by
 have e:((K-1:Nat):Int)=(K:Int)-1:=by omega
 have h1:(1:Int)≤(K:Int):=by omega
 have h3:(K:Int)≤3:=by omega
 rw[e];unfold execOp;simp only[ho,hx];go_simp;exact Y7 (by omega) (by omega)
theorem Uv{o:Oper}{a:Act}(x:Operand)(ho:o.op= .binOp .add 3 x (.const (.int .i64 1)) 3)(N:Nat)(hN:N≤12)(hx:a.eval x= .int .i64 (N:Nat))(w:World):(execOp a.eval o).run Tryz.prog w= .ok (.value (.int .i64 ((N+1:Nat):Int))) w:=by
 have e:((N+1:Nat):Int)=(N:Int)+1:=by omega
 have h3:(N:Int)≤12:=by omega
 have h0:(0:Int)≤(N:Int):=by omega
 rw[e];unfold execOp;simp only[ho,hx];go_simp;exact Y7 (by omega) (by omega)
theorem Hf{o:Oper}{a:Act}(x y:Operand)(ho:o.op= .call { callee:= .builtin .min,args:=#[x,y],argTypes:=#[3,3] })(n m:Nat)(hx:a.eval x= .int .i64 (n:Nat))(hy:a.eval y= .int .i64 (m:Nat))(w:World):(execOp a.eval o).run Tryz.prog w= .ok (.value (.int .i64 ((min n m:Nat):Int))) w:=by
 unfold execOp;simp only[ho,resolve,invoke,builtin,List.map_toArray,List.map_cons,List.map_nil,hx,hy];by_cases h:n<m
 ·have e:min n m=n:=by omega
  have h':(n:Int)<(m:Int):=by omega
  rw[e];go_simp;omega
 ·have e:min n m=m:=by omega
  have h':¬(n:Int)<(m:Int):=by omega
  rw[e];go_simp;omega
theorem kE{re:Nd→Bool}{n:Nd}(h:QX (qn n.op).1 (qn n.op).2 n.l.length=false):jv re n=false:=by
 unfold jv;rw[h];rfl
theorem za{w w':World}{p:Addr}{v:Value}(h:Below w.heap.size w w')(hc:w.cell? p=some v):w'.cell? p=some v:=(h.cell (World.block_lt_of_cell? w p hc)).trans hc
theorem D8{ks:List Kd}{i:Nat}(h:0<ks.length):∃hk:min i (ks.length-1)<ks.length,ks[min i (ks.length-1)]=JP ks i:=by
 have hk:min i (ks.length-1)<ks.length:=by omega
 exact⟨hk,by unfold JP;rw[List.getD_eq_getElem?_getD,List.getElem?_eq_getElem hk];rfl⟩
theorem Yp(p:Nat→Bool)(i:Nat):(List.range (i+1)).all p=((List.range i).all p&&p i):=by
 rw[List.range_succ,List.all_append];simp
theorem GD(d N:Nat)(n:Nd)(A:Option Addr)(C:Nat)(w:World)(h:jZ w n A C)(hN:N≤12)
 (hx:∀m A' C' W,jZ W m A' C'→Calls Tryz.prog 59 #[.agg (qD m (.slice A' m.l.length C')),.int .i64 ((N+1:Nat):Int)] W (j1 W (zo d m))):
 Calls Tryz.prog 76 #[.agg (qD n (.slice A n.l.length C)),.int .i64 (N:Nat)] w (j1 w (jv (zo d) n)):=by
 have hlen:=h.len;have ho:=zp n.op;have hin:=dX n.op;have hpt:=λk m A' C' W (hr:jZ W m A' C')=>dO d (N+1) k m A' C' W hr (by omega) (λW hW=>hx m A' C' W hW)
 have hpsh:=kE (re:=zo d) (n:=n)
 obtain⟨K,hK⟩:∃K,K=(qn n.op).1.length:=⟨_,rfl⟩
 have hK3:K≤3:=by rw[hK];exact VI n.op
 have HK:Hid (K=(qn n.op).1.length):=hK;generalize hB:(qn n.op).2=B at hin hpsh;have HB:Hid ((qn n.op).2=B):=hB
 obtain⟨L,hL⟩:∃L,L=n.l.length:=⟨_,rfl⟩
 have HL:Hid (L=n.l.length):=hL;have hL2:L≤9223372036854775807:=by omega
 have HF:Hid (QX (qn n.op).1 B L=(!(decide (K=0))&& !(decide (L<K))&& !(decide (K<L)&& !B))):=by show _=_;unfold QX;rw[←hK]
 have hfe:QX (qn n.op).1 B L=false→jv (zo d) n=false:=by rw[hL];exact hpsh
 rw[←hL];clear hpsh hx hK hB hL;cases hft:QX (qn n.op).1 B L with
 |false =>
  rw[hfe hft]
  have hcs:K=0∨(K≠0∧L<K)∨(K≠0∧K<L∧B=false):=by
   rw[HF.out]at hft;by_cases a1:K=0
   ·exact .inl a1
   ·by_cases a2:L<K
    ·exact .inr (.inl ⟨a1,a2⟩)
    ·refine .inr (.inr ⟨a1,?_⟩)
     simp[a1]at hft;have a3:=hft (by omega);exact⟨a3.1,a3.2⟩
  clear hfe hft HF hpt h;unfold qD;rcases hcs with a1|⟨a1,a2⟩|⟨a1,a2,rfl⟩
  ·have b1:((K:Nat):Int)=0:=by omega
   go_enter Tryz.func76,Tryz.ntmps76
   go_wp2_with (first
    |((go_at_call 92)
      refine(hin _).mono ?_;rintro e w1 ⟨v,rfl,hb1,hs1⟩;(obtain⟨A8,L8,C8,rfl⟩:∃A L C,v= .slice A L C:=by(rcases hs1 with⟨_,rfl⟩|⟨g,rfl,_⟩<;>exact⟨_,_,_,rfl⟩));obtain⟨e8,l8,c8,g8⟩:=hs1.get;rw[←HK.out]at e8;have e8':=e8.symm;subst e8';have hN1:=(zm.new w _ _).below hb1 (by simp);(have n4:=hN1.cell 4)))
   go_ret
   exact⟨rfl,(zl w _).trans (hb1.mono (by simp))⟩
  ·have b1:¬((K:Nat):Int)=0:=by omega
   have b2:((L:Nat):Int)<((K:Nat):Int):=by omega
   go_enter Tryz.func76,Tryz.ntmps76
   go_wp2_with (first
    |((go_at_call 92)
      refine(hin _).mono ?_;rintro e w1 ⟨v,rfl,hb1,hs1⟩;(obtain⟨A8,L8,C8,rfl⟩:∃A L C,v= .slice A L C:=by(rcases hs1 with⟨_,rfl⟩|⟨g,rfl,_⟩<;>exact⟨_,_,_,rfl⟩));obtain⟨e8,l8,c8,g8⟩:=hs1.get;rw[←HK.out]at e8;have e8':=e8.symm;subst e8';have hN1:=(zm.new w _ _).below hb1 (by simp);(have n4:=hN1.cell 4)))
   go_ret
   exact⟨rfl,(zl w _).trans (hb1.mono (by simp))⟩
  ·have b1:¬((K:Nat):Int)=0:=by omega
   have b2:¬((L:Nat):Int)<((K:Nat):Int):=by omega
   have b3:((K:Nat):Int)<((L:Nat):Int):=by omega
   go_enter Tryz.func76,Tryz.ntmps76
   go_wp2_with (first
    |((go_at_call 92)
      refine(hin _).mono ?_;rintro e w1 ⟨v,rfl,hb1,hs1⟩;(obtain⟨A8,L8,C8,rfl⟩:∃A L C,v= .slice A L C:=by(rcases hs1 with⟨_,rfl⟩|⟨g,rfl,_⟩<;>exact⟨_,_,_,rfl⟩));obtain⟨e8,l8,c8,g8⟩:=hs1.get;rw[←HK.out]at e8;have e8':=e8.symm;subst e8';have hN1:=(zm.new w _ _).below hb1 (by simp);(have n4:=hN1.cell 4)))
   go_ret
   exact⟨rfl,(zl w _).trans (hb1.mono (by simp))⟩
 |true =>
  have hcs:K≠0∧¬L<K∧(K<L→B=true):=by
   rw[HF.out]at hft;simp only[Bool.and_eq_true,Bool.not_eq_true',decide_eq_false_iff_not,Bool.and_eq_false_iff,Bool.not_eq_false']at hft;refine⟨hft.1.1,hft.1.2,λhlt=>?_⟩;rcases hft.2 with h|h
   ·exact absurd hlt h
   ·exact h
  have hP:jv (zo d) n=(List.range L).all λi=>zP (zo d) (JP (qn n.op).1 i) (n.l.getD i (.mk [] [] 0 0 [])):=by
   unfold jv;rw[HB.out,←HL.out,hft,Bool.true_and]
  rw[hP];obtain⟨b1,b2,b3⟩:=hcs;have b1':¬((K:Nat):Int)=0:=by omega
  have b2':¬((L:Nat):Int)<((K:Nat):Int):=by omega
  have hb3:(((K:Nat):Int)<((L:Nat):Int)∧B=true)∨¬((K:Nat):Int)<((L:Nat):Int):=by
   by_cases hlt:K<L
   ·exact .inl ⟨by omega,b3 hlt⟩
   ·exact .inr (by omega)
  clear hfe hft HF hP b3;generalize hp:(λi=>zP (zo d) (JP (qn n.op).1 i) (n.l.getD i (.mk [] [] 0 0 [])))=p;have HP:Hid (∀i,p i=zP (zo d) (JP (qn n.op).1 i) (n.l.getD i (.mk [] [] 0 0 []))):=λi=>by rw[←hp]
  clear hp;have hrd:=h;rw[show(qD n (.slice A L C))= #[.string (bs n.op),.string (bs n.s),.int .i64 n.n,.int .i64 n.a,.slice A L C]from rfl];rcases hb3 with⟨b3,rfl⟩|b3
  all_goals
   go_enter Tryz.func76,Tryz.ntmps76
   go_wp2_with (first
    |((go_at_call 92)
      refine(hin _).mono ?_;rintro e w1 ⟨v,rfl,hb1,hs1⟩;(obtain⟨A8,L8,C8,rfl⟩:∃A L C,v= .slice A L C:=by(rcases hs1 with⟨_,rfl⟩|⟨g,rfl,_⟩<;>exact⟨_,_,_,rfl⟩));obtain⟨e8,l8,c8,g8⟩:=hs1.get;rw[←HK.out]at e8;have e8':=e8.symm;subst e8';have hN1:=(zm.new w _ _).below hb1 (by simp);have n4:=hN1.cell 4;(have hbw:Below w.heap.size w w1:=(zl w _).trans (hb1.mono (by simp)))))
   have hA0:(List.range 0).all p=true:=rfl;obtain⟨gk,rfl,-⟩:=g8 0 (by rw[←HK.out];omega);clear g8 n4 hN1
   go_loopw [41] (λz wz=>∃i:Nat,i≤L∧z= .int .i64 (i:Nat)∧Below w1.heap.size w1 wz∧(List.range i).all p=true) (λz _=>L-(intOf z).toNat)
   case atStart=>exact⟨0,Nat.zero_le _,rfl,Below.refl _ _,hA0⟩
   case round =>
    clear hA0;obtain⟨i,hi,rfl,hbz,hall⟩:=hrel;have HA:Hid ((List.range i).all p=true):=hall;clear hall;by_cases hiL:i<L
    ·have hiL2:(i:Int)<(L:Int):=by omega
     have hiL':i<n.l.length:=by rw[←HL.out];exact hiL
     have hbwr:Below w.heap.size w wr:=hbw.trans (hbz.mono hbw.size);have hR:=(hrd.grow hbwr).rd;rw[←HL.out]at hR;obtain⟨g,off,u,rfl,hg,hc,hru,hsu,hou⟩:=hR.get i hiL'
     obtain⟨m,hm⟩:∃m,m=n.l[i]:=⟨_,rfl⟩
     rw[←hm]at hc hru hsu hou;obtain⟨Au,Cu,rfl,-,-⟩:=hru.slice;have d0:=hc 0 (by decide);have d1:=hc 1 (by decide);have d2:=hc 2 (by decide);have d3:=hc 3 (by decide);have d4:=hc 4 (by decide);simp only[Nat.add_zero]at d0;simp only[qD]at d0 d1 d2 d3 d4;obtain⟨hk,hkg⟩:=D8 (ks:=(qn n.op).1) (i:=i) (by rw[←HK.out];omega)
     obtain⟨k,hkk⟩:∃k,k=JP (qn n.op).1 i:=⟨_,rfl⟩
     have hsw:=hs1.below hbz;obtain⟨gk',ek,hck⟩:=hsw.get.2.2.2 _ hk;cases ek;rw[hkg,←hkk,←HK.out]at hck;have hp1:p i=zP (zo d) k m:=by rw[HP.out i,←hkk,hm,List.getD_eq_getElem?_getD,List.getElem?_eq_getElem hiL'];rfl
     have HP1:Hid (p i=zP (zo d) k m):=hp1;have hpm:=λW hW=>hpt k m Au Cu W (jZ.grow (w:=wr) ⟨hru,hsu,hou⟩ hW)
     generalize zP (zo d) k m=V at hpm HP1;clear hp1 hkg hkk hm hc hR hpt hin hsw hk
     go_wp2
     obtain⟨W0,hW0⟩:∃W,W=wr.alloc (.cells #[.string (bs m.op),.string (bs m.s),.int .i64 m.n,.int .i64 m.a,.slice Au m.l.length Cu] 24):=⟨_,rfl⟩
     have hbW0:Below wr.heap.size wr W0:=by rw[hW0];exact zl _ _
     have hH0:zm W0 wr.heap.size 24 #[.string (bs m.op),.string (bs m.s),.int .i64 m.n,.int .i64 m.a,.slice Au m.l.length Cu]:=by rw[hW0];exact zm.new _ _ _
     have hck0:W0.cell? ⟨gk,min i (K-1),none⟩=some (.string (bs k.w)):=za hbW0 hck;rw[←hW0];clear hW0;refine jp (S:=λW=>zm W wr.heap.size 24 #[.string (bs m.op),.string (bs m.s),.int .i64 m.n,.int .i64 m.a,.slice Au m.l.length Cu]∧W.cell? ⟨gk,min i (K-1),none⟩=some (.string (bs k.w))) 12 (by kernel_rfl) ⟨hH0,hck0⟩ (λhHeld=>?_);refine Qc 0 [11] (some 46) (.agg #[.string (bs m.op),.string (bs m.s),.int .i64 m.n,.int .i64 m.a,.slice Au m.l.length Cu]) rfl rfl (by decide) (by kernel_rfl) (by kernel_rfl) (by kernel_rfl) (by kernel_rfl) (by kernel_rfl) (λ_ _ _ h=>h) (by rfl) (λwz hz=>YC _ rfl _ rfl _ hz.1) hHeld ?_;simp only[Act.put,zh,zf,zg];refine Qc 1 [7,8,11] (some 47) (.slice (some ⟨gk,0,none⟩) K C8) rfl rfl (by decide) (by kernel_rfl) (by kernel_rfl) (by kernel_rfl) (by kernel_rfl) (by kernel_rfl) (λ_ _ _ h=>h) (by rfl) (λ_ _=>rfl) hHeld ?_;simp only[Act.put,zh,zf,zg];refine Qc 2 [6,7,8,11] (some 48) (.int .i64 (i:Nat)) rfl rfl (by decide) (by kernel_rfl) (by kernel_rfl) (by kernel_rfl) (by kernel_rfl) (by kernel_rfl) (λ_ _ _ h=>h) (by rfl) (λ_ _=>rfl) hHeld ?_;simp only[Act.put,zh,zf,zg];refine Qc 3 [4,5,6,7,8,11] (some 49) (.slice (some ⟨gk,0,none⟩) K C8) rfl rfl (by decide) (by kernel_rfl) (by kernel_rfl) (by kernel_rfl) (by kernel_rfl) (by kernel_rfl) (λ_ _ _ h=>h) (by rfl) (λ_ _=>rfl) hHeld ?_;simp only[Act.put,zh,zf,zg];refine Qc 4 [5,6,7,8,11] (some 50) (.int .i64 (K:Nat)) rfl rfl (by decide) (by kernel_rfl) (by kernel_rfl) (by kernel_rfl) (by kernel_rfl) (by kernel_rfl) (λ_ _ _ h=>h) (by rfl) (λwz _=>yF 82 9 Tryz.underlying82 _ rfl _ _ _ rfl wz) hHeld ?_;simp only[Act.put,zh,zf,zg];refine Qc 5 [6,7,8,11] (some 51) (.int .i64 ((K-1:Nat):Int)) rfl rfl (by decide) (by kernel_rfl) (by kernel_rfl) (by kernel_rfl) (by kernel_rfl) (by kernel_rfl) (λ_ _ _ h=>h) (by rfl) (λwz _=>Ur _ rfl K (by omega) hK3 rfl wz) hHeld ?_;simp only[Act.put,zh,zf,zg];refine Qc 6 [7,8,11] (some 52) (.int .i64 ((min i (K-1):Nat):Int)) rfl rfl (by decide) (by kernel_rfl) (by kernel_rfl) (by kernel_rfl) (by kernel_rfl) (by kernel_rfl) (λ_ _ _ h=>h) (by rfl) (λwz _=>Hf _ _ rfl i (K-1) rfl rfl wz) hHeld ?_;simp only[Act.put,zh,zf,zg];refine Qc 7 [8,11] (some 53) (.pointer (some ⟨gk,0+min i (K-1),none⟩)) rfl rfl (by decide) (by kernel_rfl) (by kernel_rfl) (by kernel_rfl) (by kernel_rfl) (by kernel_rfl) (λ_ _ _ h=>h) (by rfl) (λwz _=>ZJ 82 _ _ rfl gk 0 (min i (K-1)) K C8 9 rfl rfl Tryz.underlying82 (by kernel_rfl) (by omega) wz) hHeld ?_;simp only[Act.put,zh,zf,zg];refine Qc 8 [11] (some 54) (.string (bs k.w)) rfl rfl (by decide) (by kernel_rfl) (by kernel_rfl) (by kernel_rfl) (by kernel_rfl) (by kernel_rfl) (λ_ _ _ h=>h) (by rfl) (λwz hz=>X7 _ _ rfl (.inl rfl) _ rfl _ _ (by rw[Nat.zero_add];exact hz.2)) hHeld ?_;simp only[Act.put,zh,zf,zg];refine Qc 9 [10,11] (some 55) (.int .i64 (N:Nat)) rfl rfl (by decide) (by kernel_rfl) (by kernel_rfl) (by kernel_rfl) (by kernel_rfl) (by kernel_rfl) (λ_ _ _ h=>h) (by rfl) (λ_ _=>rfl) hHeld ?_;simp only[Act.put,zh,zf,zg];refine Qc 10 [11] (some 56) (.int .i64 ((N+1:Nat):Int)) rfl rfl (by decide) (by kernel_rfl) (by kernel_rfl) (by kernel_rfl) (by kernel_rfl) (by kernel_rfl) (λ_ _ _ h=>h) (by rfl) (λwz _=>Uv _ rfl N hN rfl wz) hHeld ?_;simp only[Act.put,zh,zf,zg];refine zbI 11 (some 57) 93 #[.agg #[.string (bs m.op),.string (bs m.s),.int .i64 m.n,.int .i64 m.a,.slice Au m.l.length Cu],.string (bs k.w),.int .i64 ((N+1:Nat):Int)] (by kernel_rfl) rfl rfl (by rfl) (by kernel_rfl) (hpm W0.drew (zr hbW0)) ?_;rintro e w4 ⟨rfl,hb4⟩
     have hb4':Below W0.heap.size W0 w4:=⟨hb4.os,hb4.tape,hb4.output,hb4.size,hb4.block⟩
     refine⟨_,rfl,⟨hH0.below hb4' hH0.lt,za hb4' hck0⟩,?_⟩;simp only[Act.put,zh,zf,zg];have hbN:Below w1.heap.size w1 w4:=(hbz.trans (hbW0.mono hbz.size)).trans (hb4'.mono (by have:=hbz.size;have:=hbW0.size;omega));clear hck0 hck hH0;cases V with
     |true =>
      refine GW 12 (some 58) (.bool false) (by kernel_rfl) rfl rfl (by rfl) (by kernel_rfl) (by kernel_rfl) ?_;simp only[Act.put,zh,zf,zg]
      go_wp2
      go_roundw
      case rel=>exact⟨i+1,by omega,by go_num,hbN,by rw[Yp,HA.out,HP1.out];rfl⟩
      case measure=>simp[intOf];omega
     |false =>
      refine GW 12 (some 58) (.bool true) (by kernel_rfl) rfl rfl (by rfl) (by kernel_rfl) (by kernel_rfl) ?_;simp only[Act.put,zh,zf,zg]
      go_wp2
      go_ret
      refine⟨qW ?_,hbw.trans (hbN.mono hbw.size)⟩
      symm
      rw[List.all_eq_false];exact⟨i,List.mem_range.2 hiL,by rw[HP1.out];decide⟩
    ·have hiL2:i=L:=by omega
     subst hiL2
     go_wp2
     go_ret
     exact⟨qW HA.out.symm,hbw.trans (hbz.mono hbw.size)⟩
theorem Hh(d:Nat):∀(N:Nat) (n:Nd) (A:Option Addr) (C:Nat) (w:World),N+d=13→jZ w n A C→Calls Tryz.prog 59 #[.agg (qD n (.slice A n.l.length C)),.int .i64 (N:Nat)] w (j1 w (zo d n)):=by
 induction d with
 |zero =>
  intro N n A C w hN h;have :N=13:=by omega
  subst this;exact kG n A C w
 |succ d ih =>
  intro N n A C w hN h;exact un d N n A C w h (by omega) (λW hW=>GD d N n A C W hW (by omega) (λm A' C' W' h'=>ih (N+1) m A' C' W' (by omega) h'))
theorem GM(n:Nd)(A:Option Addr)(L C:Nat)(w:World)(hm:n.s.length<maxLen)(hlL:L=n.l.length)(hL:L≤9223372036854775807):Calls Tryz.prog 58 #[.agg (qD n (.slice A L C))] w (j1 w (yt n)):=by
 have htk:∀W,Calls Tryz.prog 74 #[.string (⟨#[36]⟩++bs n.s)] W λe w'=>e= .returned (y7 (xG (36::n.s)))∧Below W.heap.size W w':=by
  intro W;have e:(⟨#[36]⟩:ByteArray)++bs n.s=bs (36::n.s):=by rw[show(⟨#[36]⟩:ByteArray)=bs [36]from rfl,Hc];rfl
  rw[e];exact GX (36::n.s) W (by simp only[List.length_cons];omega)
 have hsz:=zJ n.s;have hsz2:((bs n.s).size:Int)<9223372036854775807:=by unfold maxLen at hm;omega
 unfold yt xg;rw[←hlL];unfold qD;have hs:=zp n.s;have ho:=zp n.op;generalize n.n=M at *;clear hlL
 cases e1:(n.op==QZ)
 ·have e1':(n.op== [104,101,120])=false:=e1
  generalize xG (36::n.s)=O at *;cases O with
  |none =>
   simp only[y7]at htk;go_enter Tryz.func58,Tryz.ntmps58
   go_wp2_with (go_at_call 74;refine(htk _).mono ?_;rintro e w1 ⟨rfl,hb1⟩;have hN1:=(zm.new w _ _).below hb1 (by simp);have n0:=hN1.cell 0;have hlN:=hN1.lt)
   go_ret
   exact⟨rfl,xP hb1⟩
  |some t =>
   simp only[y7,vG]at htk;go_enter Tryz.func58,Tryz.ntmps58
   go_wp2_with (go_at_call 74;refine(htk _).mono ?_;rintro e w1 ⟨rfl,hb1⟩;have hN1:=(zm.new w _ _).below hb1 (by simp);have n0:=hN1.cell 0;have hlN:=hN1.lt)
   go_ret
   exact⟨rfl,xP hb1⟩
 ·have e1':(n.op== [104,101,120])=true:=e1
  cases hO:xG (36::n.s)with
  |none =>
   rw[hO]at htk;simp only[y7]at htk;clear hO;go_enter Tryz.func58,Tryz.ntmps58
   go_wp2_with (go_at_call 74;refine(htk _).mono ?_;rintro e w1 ⟨rfl,hb1⟩;have hN1:=(zm.new w _ _).below hb1 (by simp);have n0:=hN1.cell 0;have hlN:=hN1.lt)
   go_ret
   exact⟨rfl,xP hb1⟩
  |some t =>
   rw[hO]at htk;simp only[y7,vG]at htk;obtain⟨⟨K,S,V⟩,q⟩:=t;simp only at htk ⊢;have hs2:=zp S;clear hO;by_cases h2:K=2
   ·subst h2
    have htk':∀W,Calls Tryz.prog 74 #[.string (⟨#[36]⟩++bs n.s)] W λe w'=>e= .returned (.tuple #[.agg #[.int .i64 2,.string (bs S),.int .i64 (V:Nat),.int .i64 (q:Nat)],.bool true])∧Below W.heap.size W w':=htk
    clear htk
    cases e3:(S==n.s)
    ·go_enter Tryz.func58,Tryz.ntmps58
     go_wp2_with (go_at_call 74;refine(htk' _).mono ?_;rintro e w1 ⟨rfl,hb1⟩;have hN1:=(zm.new w _ _).below hb1 (by simp);have n0:=hN1.cell 0;have n1:=hN1.cell 1;have hlN:=hN1.lt)
     go_ret
     exact⟨rfl,xP hb1⟩
    ·by_cases hM:M=0
     ·subst hM
      by_cases hL0:L=0
      ·subst hL0
       go_enter Tryz.func58,Tryz.ntmps58
       go_wp2_with (go_at_call 74;refine(htk' _).mono ?_;rintro e w1 ⟨rfl,hb1⟩;have hN1:=(zm.new w _ _).below hb1 (by simp);have n0:=hN1.cell 0;have n1:=hN1.cell 1;have n2:=hN1.cell 2;have n4:=hN1.cell 4;have hlN:=hN1.lt)
       go_ret
       exact⟨rfl,xP hb1⟩
      ·have hL0':¬(L:Int)=0:=by omega
       go_enter Tryz.func58,Tryz.ntmps58
       go_wp2_with (go_at_call 74;refine(htk' _).mono ?_;rintro e w1 ⟨rfl,hb1⟩;have hN1:=(zm.new w _ _).below hb1 (by simp);have n0:=hN1.cell 0;have n1:=hN1.cell 1;have n2:=hN1.cell 2;have n4:=hN1.cell 4;have hlN:=hN1.lt)
       go_ret
       exact⟨by simp[hL0],xP hb1⟩
     ·go_enter Tryz.func58,Tryz.ntmps58
      go_wp2_with (go_at_call 74;refine(htk' _).mono ?_;rintro e w1 ⟨rfl,hb1⟩;have hN1:=(zm.new w _ _).below hb1 (by simp);have n0:=hN1.cell 0;have n1:=hN1.cell 1;have n2:=hN1.cell 2;have hlN:=hN1.lt)
      go_ret
      exact⟨by simp[hM],xP hb1⟩
   ·have h2':¬((K:Nat):Int)=2:=by omega
    go_enter Tryz.func58,Tryz.ntmps58
    go_wp2_with (go_at_call 74;refine(htk _).mono ?_;rintro e w1 ⟨rfl,hb1⟩;have hN1:=(zm.new w _ _).below hb1 (by simp);have n0:=hN1.cell 0;have hlN:=hN1.lt)
    go_ret
    exact⟨by simp[h2],xP hb1⟩
def yW(n:Nd):Bool:=
 (if n.op=zn∨n.op=zq then j8 n.n&&decide (n.l.length=0)
  else if n.op=zM∨n.op=zN then decide (n.n=0)&&decide (n.l.length=1)&&yt (n.l.getD 0 (.mk [] [] 0 0 []))
  else if n.op=zB then decide (n.n=0)&&decide (n.l.length=1)&&zo 12 (n.l.getD 0 (.mk [] [] 0 0 []))
  else if n.op=qj then(decide (n.n=0)||decide (n.n=1))&&decide (n.l.length=0)
  else false)
theorem Fd(n:Nd):qS n=(jq n.s&&yW n):=rfl
theorem X6(s:List UInt8)(M at_:Int)(l:List Nd)(A:Option Addr)(C:Nat)(w:World)(h:jZ w (.mk zn s M at_ l) A C)(hname:jq s=true):
 Calls Tryz.prog 33 #[.agg (qD (.mk zn s M at_ l) (.slice A l.length C))] w (j1 w (yW (.mk zn s M at_ l))):=by
 have hlen:=h.len;have hnam:=λW=>vT (.mk zn s M at_ l) A l.length C W (by have:=h.s;omega)
 have hl2:((l.length:Nat):Int)≤9223372036854775807:=by have h1:=hlen.1;have h2:=hlen.2;simp only[Nd.l]at h1;omega
 simp only[Nd.s,hname]at hnam;have hnum:=λW=>Qh (.mk zn s M at_ l) A l.length C W
 have hR:yW (.mk zn s M at_ l)=(j8 M&&decide (l.length=0)):=if_pos (by first |exact .inl rfl|exact .inr rfl);rw[hR];unfold qD at hnum;simp only[Nd.op,Nd.s,Nd.n,Nd.a,Un]at hnum;unfold qD at hnam ⊢;simp only[Nd.op,Nd.s,Nd.n,Nd.a,Un]at hnam ⊢;clear h hlen hR;generalize j8 M=B at *;generalize l.length=L at *;cases B
 ·go_enter Tryz.func33,Tryz.ntmps33
  go_wp2_with (first
   |(go_at_call 56;refine(hnam _).mono ?_;rintro e w1 ⟨rfl,hb1⟩;have hN1:=(zm.new w _ _).below hb1 (by simp);have n0:=hN1.cell 0;have n2:=hN1.cell 2;have n4:=hN1.cell 4;have q0:=hN1.cell 1;have q3:=hN1.cell 3;have hlN:=hN1.lt)
   |(go_at_call 57;refine(hnum _).mono ?_;rintro e w2 ⟨rfl,hb2⟩))
  go_ret
  exact⟨rfl,((zl w _).trans (hb1.mono (by simp))).trans (hb2.mono (by have:=hb1.size;simp at this;omega))⟩
 ·by_cases hL0:L=0
  ·subst hL0
   go_enter Tryz.func33,Tryz.ntmps33
   go_wp2_with (first
    |(go_at_call 56;refine(hnam _).mono ?_;rintro e w1 ⟨rfl,hb1⟩;have hN1:=(zm.new w _ _).below hb1 (by simp);have n0:=hN1.cell 0;have n2:=hN1.cell 2;have n4:=hN1.cell 4;have q0:=hN1.cell 1;have q3:=hN1.cell 3;have hlN:=hN1.lt)
    |(go_at_call 57;refine(hnum _).mono ?_;rintro e w2 ⟨rfl,hb2⟩;have m4:=(hN1.below hb2 hlN).cell 4))
   go_ret
   exact⟨rfl,((zl w _).trans (hb1.mono (by simp))).trans (hb2.mono (by have:=hb1.size;simp at this;omega))⟩
  ·have hL0':¬(L:Int)=0:=by omega
   go_enter Tryz.func33,Tryz.ntmps33
   go_wp2_with (first
    |(go_at_call 56;refine(hnam _).mono ?_;rintro e w1 ⟨rfl,hb1⟩;have hN1:=(zm.new w _ _).below hb1 (by simp);have n0:=hN1.cell 0;have n2:=hN1.cell 2;have n4:=hN1.cell 4;have q0:=hN1.cell 1;have q3:=hN1.cell 3;have hlN:=hN1.lt)
    |(go_at_call 57;refine(hnum _).mono ?_;rintro e w2 ⟨rfl,hb2⟩;have m4:=(hN1.below hb2 hlN).cell 4))
   go_ret
   exact⟨by simp[hL0],((zl w _).trans (hb1.mono (by simp))).trans (hb2.mono (by have:=hb1.size;simp at this;omega))⟩
theorem YF(s:List UInt8)(M at_:Int)(l:List Nd)(A:Option Addr)(C:Nat)(w:World)(h:jZ w (.mk zq s M at_ l) A C)(hname:jq s=true):
 Calls Tryz.prog 33 #[.agg (qD (.mk zq s M at_ l) (.slice A l.length C))] w (j1 w (yW (.mk zq s M at_ l))):=by
 have hlen:=h.len;have hnam:=λW=>vT (.mk zq s M at_ l) A l.length C W (by have:=h.s;omega)
 have hl2:((l.length:Nat):Int)≤9223372036854775807:=by have h1:=hlen.1;have h2:=hlen.2;simp only[Nd.l]at h1;omega
 simp only[Nd.s,hname]at hnam;have hnum:=λW=>Qh (.mk zq s M at_ l) A l.length C W
 have hR:yW (.mk zq s M at_ l)=(j8 M&&decide (l.length=0)):=if_pos (by first |exact .inl rfl|exact .inr rfl);rw[hR];unfold qD at hnum;simp only[Nd.op,Nd.s,Nd.n,Nd.a,YR]at hnum;unfold qD at hnam ⊢;simp only[Nd.op,Nd.s,Nd.n,Nd.a,YR]at hnam ⊢;clear h hlen hR;generalize j8 M=B at *;generalize l.length=L at *;cases B
 ·go_enter Tryz.func33,Tryz.ntmps33
  go_wp2_with (first
   |(go_at_call 56;refine(hnam _).mono ?_;rintro e w1 ⟨rfl,hb1⟩;have hN1:=(zm.new w _ _).below hb1 (by simp);have n0:=hN1.cell 0;have n2:=hN1.cell 2;have n4:=hN1.cell 4;have q0:=hN1.cell 1;have q3:=hN1.cell 3;have hlN:=hN1.lt)
   |(go_at_call 57;refine(hnum _).mono ?_;rintro e w2 ⟨rfl,hb2⟩))
  go_ret
  exact⟨rfl,((zl w _).trans (hb1.mono (by simp))).trans (hb2.mono (by have:=hb1.size;simp at this;omega))⟩
 ·by_cases hL0:L=0
  ·subst hL0
   go_enter Tryz.func33,Tryz.ntmps33
   go_wp2_with (first
    |(go_at_call 56;refine(hnam _).mono ?_;rintro e w1 ⟨rfl,hb1⟩;have hN1:=(zm.new w _ _).below hb1 (by simp);have n0:=hN1.cell 0;have n2:=hN1.cell 2;have n4:=hN1.cell 4;have q0:=hN1.cell 1;have q3:=hN1.cell 3;have hlN:=hN1.lt)
    |(go_at_call 57;refine(hnum _).mono ?_;rintro e w2 ⟨rfl,hb2⟩;have m4:=(hN1.below hb2 hlN).cell 4))
   go_ret
   exact⟨rfl,((zl w _).trans (hb1.mono (by simp))).trans (hb2.mono (by have:=hb1.size;simp at this;omega))⟩
  ·have hL0':¬(L:Int)=0:=by omega
   go_enter Tryz.func33,Tryz.ntmps33
   go_wp2_with (first
    |(go_at_call 56;refine(hnam _).mono ?_;rintro e w1 ⟨rfl,hb1⟩;have hN1:=(zm.new w _ _).below hb1 (by simp);have n0:=hN1.cell 0;have n2:=hN1.cell 2;have n4:=hN1.cell 4;have q0:=hN1.cell 1;have q3:=hN1.cell 3;have hlN:=hN1.lt)
    |(go_at_call 57;refine(hnum _).mono ?_;rintro e w2 ⟨rfl,hb2⟩;have m4:=(hN1.below hb2 hlN).cell 4))
   go_ret
   exact⟨by simp[hL0],((zl w _).trans (hb1.mono (by simp))).trans (hb2.mono (by have:=hb1.size;simp at this;omega))⟩
theorem F6(s:List UInt8)(M at_:Int)(l:List Nd)(A:Option Addr)(C:Nat)(w:World)(h:jZ w (.mk zM s M at_ l) A C)(hname:jq s=true):
 Calls Tryz.prog 33 #[.agg (qD (.mk zM s M at_ l) (.slice A l.length C))] w (j1 w (yW (.mk zM s M at_ l))):=by
 have hlen:=h.len;have hnam:=λW=>vT (.mk zM s M at_ l) A l.length C W (by have:=h.s;omega)
 have hl2:((l.length:Nat):Int)≤9223372036854775807:=by have h1:=hlen.1;have h2:=hlen.2;simp only[Nd.l]at h1;omega
 simp only[Nd.s,hname]at hnam;have hR:yW (.mk zM s M at_ l)=(decide (M=0)&&decide (l.length=1)&&yt (l.getD 0 (.mk [] [] 0 0 []))):=(if_neg (by show ¬(zM=zn∨zM=zq);decide)).trans (if_pos (by first |exact .inl rfl|exact .inr rfl));rw[hR];unfold qD at hnam ⊢;simp only[Nd.op,Nd.s,Nd.n,Nd.a,zcR]at hnam ⊢;by_cases hM:M=0
 ·subst hM
  by_cases hL1:l.length=1
  ·obtain⟨m,rfl⟩:=List.length_eq_one_iff.1 hL1
   obtain⟨g,off,u,rfl,hg,hc,hru,hsu,hou⟩:=h.rd.get 0 (by simp[Nd.l]);simp only[Nd.l,List.getElem_cons_zero]at hc hru hsu hou;obtain⟨Au,Cu,rfl,hu1,hu2⟩:=hru.slice;have d0:=hc 0 (by decide);have d1:=hc 1 (by decide);have d2:=hc 2 (by decide);have d3:=hc 3 (by decide);have d4:=hc 4 (by decide);simp only[qD,Nat.zero_mul,Nat.add_zero]at d0 d1 d2 d3 d4;have hgu:∀W,Below w.heap.size w W→jZ W m Au Cu:=λW hW=>jZ.grow (w:=w) ⟨hru,hsu,hou⟩ hW
   have hsub:∀W,Below w.heap.size w W→Calls Tryz.prog 58 #[.agg #[.string (bs m.op),.string (bs m.s),.int .i64 m.n,.int .i64 m.a,.slice Au m.l.length Cu]] W (j1 W (yt m)):=λW hW=>GM m Au m.l.length Cu W hsu rfl (Nat.le_trans hu1 hu2)
   obtain⟨B,hB⟩:∃B,B=yt m:=⟨_,rfl⟩
   have hV:(decide ((0:Int)=0)&&decide (([m]:List Nd).length=1)&&yt (([m]:List Nd).getD 0 (.mk [] [] 0 0 [])))=B:=by rw[hB];simp
   rw[←hB]at hsub;rw[hV];clear hV hB;show Calls _ _ _ _ (j1 w B);rw[show([m]:List Nd).length=1 from rfl]at hnam ⊢;clear h hlen hR hc hL1 hl2;go_enter Tryz.func33,Tryz.ntmps33
   go_wp2_with (first
    |((go_at_call 56)
      refine(hnam _).mono ?_;rintro e w1 ⟨rfl,hb1⟩;have hN1:=(zm.new w _ _).below hb1 (by simp);have n0:=hN1.cell 0;have n2:=hN1.cell 2;have n4:=hN1.cell 4;have hlN:=hN1.lt;have hbw:Below w.heap.size w w1:=(zl w _).trans (hb1.mono (by simp));have e0:=za hbw d0;have e1:=za hbw d1;have e2:=za hbw d2;have e3:=za hbw d3;(have e4:=za hbw d4))
    |(go_at_call 58;refine(hsub _ hbw).mono ?_;rintro e w2 ⟨rfl,hb2⟩))
   go_ret
   exact⟨rfl,hbw.trans (hb2.mono hbw.size)⟩
  ·have hL1':¬((l.length:Nat):Int)=1:=by omega
   have hD:decide (l.length=1)=false:=by simp[hL1]
   rw[hD,Bool.and_false,Bool.false_and];clear h hlen hR hD;generalize l.length=L at *;go_enter Tryz.func33,Tryz.ntmps33
   go_wp2_with (go_at_call 56;refine(hnam _).mono ?_;rintro e w1 ⟨rfl,hb1⟩;have hN1:=(zm.new w _ _).below hb1 (by simp);have n0:=hN1.cell 0;have n2:=hN1.cell 2;have n4:=hN1.cell 4;have q0:=hN1.cell 1;have q3:=hN1.cell 3;have hlN:=hN1.lt)
   go_ret
   exact⟨rfl,(zl w _).trans (hb1.mono (by simp))⟩
 ·have hD:decide (M=0)=false:=by simp[hM]
  rw[hD,Bool.false_and,Bool.false_and];clear h hlen hR hD;generalize l.length=L at *;go_enter Tryz.func33,Tryz.ntmps33
  go_wp2_with (go_at_call 56;refine(hnam _).mono ?_;rintro e w1 ⟨rfl,hb1⟩;have hN1:=(zm.new w _ _).below hb1 (by simp);have n0:=hN1.cell 0;have n2:=hN1.cell 2;have n4:=hN1.cell 4;have q0:=hN1.cell 1;have q3:=hN1.cell 3;have hlN:=hN1.lt)
  go_ret
  exact⟨rfl,(zl w _).trans (hb1.mono (by simp))⟩
theorem U1(s:List UInt8)(M at_:Int)(l:List Nd)(A:Option Addr)(C:Nat)(w:World)(h:jZ w (.mk zN s M at_ l) A C)(hname:jq s=true):
 Calls Tryz.prog 33 #[.agg (qD (.mk zN s M at_ l) (.slice A l.length C))] w (j1 w (yW (.mk zN s M at_ l))):=by
 have hlen:=h.len;have hnam:=λW=>vT (.mk zN s M at_ l) A l.length C W (by have:=h.s;omega)
 have hl2:((l.length:Nat):Int)≤9223372036854775807:=by have h1:=hlen.1;have h2:=hlen.2;simp only[Nd.l]at h1;omega
 simp only[Nd.s,hname]at hnam;have hR:yW (.mk zN s M at_ l)=(decide (M=0)&&decide (l.length=1)&&yt (l.getD 0 (.mk [] [] 0 0 []))):=(if_neg (by show ¬(zN=zn∨zN=zq);decide)).trans (if_pos (by first |exact .inl rfl|exact .inr rfl));rw[hR];unfold qD at hnam ⊢;simp only[Nd.op,Nd.s,Nd.n,Nd.a,zcn]at hnam ⊢;by_cases hM:M=0
 ·subst hM
  by_cases hL1:l.length=1
  ·obtain⟨m,rfl⟩:=List.length_eq_one_iff.1 hL1
   obtain⟨g,off,u,rfl,hg,hc,hru,hsu,hou⟩:=h.rd.get 0 (by simp[Nd.l]);simp only[Nd.l,List.getElem_cons_zero]at hc hru hsu hou;obtain⟨Au,Cu,rfl,hu1,hu2⟩:=hru.slice;have d0:=hc 0 (by decide);have d1:=hc 1 (by decide);have d2:=hc 2 (by decide);have d3:=hc 3 (by decide);have d4:=hc 4 (by decide);simp only[qD,Nat.zero_mul,Nat.add_zero]at d0 d1 d2 d3 d4;have hgu:∀W,Below w.heap.size w W→jZ W m Au Cu:=λW hW=>jZ.grow (w:=w) ⟨hru,hsu,hou⟩ hW
   have hsub:∀W,Below w.heap.size w W→Calls Tryz.prog 58 #[.agg #[.string (bs m.op),.string (bs m.s),.int .i64 m.n,.int .i64 m.a,.slice Au m.l.length Cu]] W (j1 W (yt m)):=λW hW=>GM m Au m.l.length Cu W hsu rfl (Nat.le_trans hu1 hu2)
   obtain⟨B,hB⟩:∃B,B=yt m:=⟨_,rfl⟩
   have hV:(decide ((0:Int)=0)&&decide (([m]:List Nd).length=1)&&yt (([m]:List Nd).getD 0 (.mk [] [] 0 0 [])))=B:=by rw[hB];simp
   rw[←hB]at hsub;rw[hV];clear hV hB;show Calls _ _ _ _ (j1 w B);rw[show([m]:List Nd).length=1 from rfl]at hnam ⊢;clear h hlen hR hc hL1 hl2;go_enter Tryz.func33,Tryz.ntmps33
   go_wp2_with (first
    |((go_at_call 56)
      refine(hnam _).mono ?_;rintro e w1 ⟨rfl,hb1⟩;have hN1:=(zm.new w _ _).below hb1 (by simp);have n0:=hN1.cell 0;have n2:=hN1.cell 2;have n4:=hN1.cell 4;have hlN:=hN1.lt;have hbw:Below w.heap.size w w1:=(zl w _).trans (hb1.mono (by simp));have e0:=za hbw d0;have e1:=za hbw d1;have e2:=za hbw d2;have e3:=za hbw d3;(have e4:=za hbw d4))
    |(go_at_call 58;refine(hsub _ hbw).mono ?_;rintro e w2 ⟨rfl,hb2⟩))
   go_ret
   exact⟨rfl,hbw.trans (hb2.mono hbw.size)⟩
  ·have hL1':¬((l.length:Nat):Int)=1:=by omega
   have hD:decide (l.length=1)=false:=by simp[hL1]
   rw[hD,Bool.and_false,Bool.false_and];clear h hlen hR hD;generalize l.length=L at *;go_enter Tryz.func33,Tryz.ntmps33
   go_wp2_with (go_at_call 56;refine(hnam _).mono ?_;rintro e w1 ⟨rfl,hb1⟩;have hN1:=(zm.new w _ _).below hb1 (by simp);have n0:=hN1.cell 0;have n2:=hN1.cell 2;have n4:=hN1.cell 4;have q0:=hN1.cell 1;have q3:=hN1.cell 3;have hlN:=hN1.lt)
   go_ret
   exact⟨rfl,(zl w _).trans (hb1.mono (by simp))⟩
 ·have hD:decide (M=0)=false:=by simp[hM]
  rw[hD,Bool.false_and,Bool.false_and];clear h hlen hR hD;generalize l.length=L at *;go_enter Tryz.func33,Tryz.ntmps33
  go_wp2_with (go_at_call 56;refine(hnam _).mono ?_;rintro e w1 ⟨rfl,hb1⟩;have hN1:=(zm.new w _ _).below hb1 (by simp);have n0:=hN1.cell 0;have n2:=hN1.cell 2;have n4:=hN1.cell 4;have q0:=hN1.cell 1;have q3:=hN1.cell 3;have hlN:=hN1.lt)
  go_ret
  exact⟨rfl,(zl w _).trans (hb1.mono (by simp))⟩
theorem XZ(s:List UInt8)(M at_:Int)(l:List Nd)(A:Option Addr)(C:Nat)(w:World)(h:jZ w (.mk zB s M at_ l) A C)(hname:jq s=true):
 Calls Tryz.prog 33 #[.agg (qD (.mk zB s M at_ l) (.slice A l.length C))] w (j1 w (yW (.mk zB s M at_ l))):=by
 have hlen:=h.len;have hnam:=λW=>vT (.mk zB s M at_ l) A l.length C W (by have:=h.s;omega)
 have hl2:((l.length:Nat):Int)≤9223372036854775807:=by have h1:=hlen.1;have h2:=hlen.2;simp only[Nd.l]at h1;omega
 simp only[Nd.s,hname]at hnam;have hR:yW (.mk zB s M at_ l)=(decide (M=0)&&decide (l.length=1)&&zo 12 (l.getD 0 (.mk [] [] 0 0 []))):=(if_neg (by show ¬(zB=zn∨zB=zq);decide)).trans ((if_neg (by show ¬(zB=zM∨zB=zN);decide)).trans (if_pos rfl));rw[hR];unfold qD at hnam ⊢;simp only[Nd.op,Nd.s,Nd.n,Nd.a,fQ]at hnam ⊢;by_cases hM:M=0
 ·subst hM
  by_cases hL1:l.length=1
  ·obtain⟨m,rfl⟩:=List.length_eq_one_iff.1 hL1
   obtain⟨g,off,u,rfl,hg,hc,hru,hsu,hou⟩:=h.rd.get 0 (by simp[Nd.l]);simp only[Nd.l,List.getElem_cons_zero]at hc hru hsu hou;obtain⟨Au,Cu,rfl,hu1,hu2⟩:=hru.slice;have d0:=hc 0 (by decide);have d1:=hc 1 (by decide);have d2:=hc 2 (by decide);have d3:=hc 3 (by decide);have d4:=hc 4 (by decide);simp only[qD,Nat.zero_mul,Nat.add_zero]at d0 d1 d2 d3 d4;have hgu:∀W,Below w.heap.size w W→jZ W m Au Cu:=λW hW=>jZ.grow (w:=w) ⟨hru,hsu,hou⟩ hW
   have hsub:∀W,Below w.heap.size w W→Calls Tryz.prog 59 #[.agg #[.string (bs m.op),.string (bs m.s),.int .i64 m.n,.int .i64 m.a,.slice Au m.l.length Cu],.int .i64 1] W (j1 W (zo 12 m)):=λW hW=>Hh 12 1 m Au Cu W rfl (hgu W hW)
   obtain⟨B,hB⟩:∃B,B=zo 12 m:=⟨_,rfl⟩
   have hV:(decide ((0:Int)=0)&&decide (([m]:List Nd).length=1)&&zo 12 (([m]:List Nd).getD 0 (.mk [] [] 0 0 [])))=B:=by rw[hB];simp
   rw[←hB]at hsub;rw[hV];clear hV hB;show Calls _ _ _ _ (j1 w B);rw[show([m]:List Nd).length=1 from rfl]at hnam ⊢;clear h hlen hR hc hL1 hl2;go_enter Tryz.func33,Tryz.ntmps33
   go_wp2_with (first
    |((go_at_call 56)
      refine(hnam _).mono ?_;rintro e w1 ⟨rfl,hb1⟩;have hN1:=(zm.new w _ _).below hb1 (by simp);have n0:=hN1.cell 0;have n2:=hN1.cell 2;have n4:=hN1.cell 4;have hlN:=hN1.lt;have hbw:Below w.heap.size w w1:=(zl w _).trans (hb1.mono (by simp));have e0:=za hbw d0;have e1:=za hbw d1;have e2:=za hbw d2;have e3:=za hbw d3;(have e4:=za hbw d4))
    |(go_at_call 59;refine(hsub _ hbw).mono ?_;rintro e w2 ⟨rfl,hb2⟩))
   go_ret
   exact⟨rfl,hbw.trans (hb2.mono hbw.size)⟩
  ·have hL1':¬((l.length:Nat):Int)=1:=by omega
   have hD:decide (l.length=1)=false:=by simp[hL1]
   rw[hD,Bool.and_false,Bool.false_and];clear h hlen hR hD;generalize l.length=L at *;go_enter Tryz.func33,Tryz.ntmps33
   go_wp2_with (go_at_call 56;refine(hnam _).mono ?_;rintro e w1 ⟨rfl,hb1⟩;have hN1:=(zm.new w _ _).below hb1 (by simp);have n0:=hN1.cell 0;have n2:=hN1.cell 2;have n4:=hN1.cell 4;have q0:=hN1.cell 1;have q3:=hN1.cell 3;have hlN:=hN1.lt)
   go_ret
   exact⟨rfl,(zl w _).trans (hb1.mono (by simp))⟩
 ·have hD:decide (M=0)=false:=by simp[hM]
  rw[hD,Bool.false_and,Bool.false_and];clear h hlen hR hD;generalize l.length=L at *;go_enter Tryz.func33,Tryz.ntmps33
  go_wp2_with (go_at_call 56;refine(hnam _).mono ?_;rintro e w1 ⟨rfl,hb1⟩;have hN1:=(zm.new w _ _).below hb1 (by simp);have n0:=hN1.cell 0;have n2:=hN1.cell 2;have n4:=hN1.cell 4;have q0:=hN1.cell 1;have q3:=hN1.cell 3;have hlN:=hN1.lt)
  go_ret
  exact⟨rfl,(zl w _).trans (hb1.mono (by simp))⟩
theorem KD(s:List UInt8)(M at_:Int)(l:List Nd)(A:Option Addr)(C:Nat)(w:World)(h:jZ w (.mk qj s M at_ l) A C)(hname:jq s=true):
 Calls Tryz.prog 33 #[.agg (qD (.mk qj s M at_ l) (.slice A l.length C))] w (j1 w (yW (.mk qj s M at_ l))):=by
 have hlen:=h.len;have hnam:=λW=>vT (.mk qj s M at_ l) A l.length C W (by have:=h.s;omega)
 have hl2:((l.length:Nat):Int)≤9223372036854775807:=by have h1:=hlen.1;have h2:=hlen.2;simp only[Nd.l]at h1;omega
 simp only[Nd.s,hname]at hnam;have hR:yW (.mk qj s M at_ l)=((decide (M=0)||decide (M=1))&&decide (l.length=0)):=(if_neg (by show ¬(qj=zn∨qj=zq);decide)).trans ((if_neg (by show ¬(qj=zM∨qj=zN);decide)).trans ((if_neg (by show ¬qj=zB;decide)).trans (if_pos rfl)));rw[hR];unfold qD at hnam ⊢;simp only[Nd.op,Nd.s,Nd.n,Nd.a,Dq]at hnam ⊢;clear h hlen hR;generalize l.length=L at *;by_cases hM:M=0
 ·subst hM
  by_cases hL0:L=0
  ·subst hL0
   go_enter Tryz.func33,Tryz.ntmps33
   go_wp2_with (go_at_call 56;refine(hnam _).mono ?_;rintro e w1 ⟨rfl,hb1⟩;have hN1:=(zm.new w _ _).below hb1 (by simp);have n0:=hN1.cell 0;have n2:=hN1.cell 2;have n4:=hN1.cell 4;have q0:=hN1.cell 1;have q3:=hN1.cell 3;have hlN:=hN1.lt)
   go_ret
   exact⟨rfl,(zl w _).trans (hb1.mono (by simp))⟩
  ·have hL0':¬(L:Int)=0:=by omega
   go_enter Tryz.func33,Tryz.ntmps33
   go_wp2_with (go_at_call 56;refine(hnam _).mono ?_;rintro e w1 ⟨rfl,hb1⟩;have hN1:=(zm.new w _ _).below hb1 (by simp);have n0:=hN1.cell 0;have n2:=hN1.cell 2;have n4:=hN1.cell 4;have q0:=hN1.cell 1;have q3:=hN1.cell 3;have hlN:=hN1.lt)
   go_ret
   exact⟨by simp[hL0],(zl w _).trans (hb1.mono (by simp))⟩
 ·by_cases hM1:M=1
  ·subst hM1
   by_cases hL0:L=0
   ·subst hL0
    go_enter Tryz.func33,Tryz.ntmps33
    go_wp2_with (go_at_call 56;refine(hnam _).mono ?_;rintro e w1 ⟨rfl,hb1⟩;have hN1:=(zm.new w _ _).below hb1 (by simp);have n0:=hN1.cell 0;have n2:=hN1.cell 2;have n4:=hN1.cell 4;have q0:=hN1.cell 1;have q3:=hN1.cell 3;have hlN:=hN1.lt)
    go_ret
    exact⟨rfl,(zl w _).trans (hb1.mono (by simp))⟩
   ·have hL0':¬(L:Int)=0:=by omega
    go_enter Tryz.func33,Tryz.ntmps33
    go_wp2_with (go_at_call 56;refine(hnam _).mono ?_;rintro e w1 ⟨rfl,hb1⟩;have hN1:=(zm.new w _ _).below hb1 (by simp);have n0:=hN1.cell 0;have n2:=hN1.cell 2;have n4:=hN1.cell 4;have q0:=hN1.cell 1;have q3:=hN1.cell 3;have hlN:=hN1.lt)
    go_ret
    exact⟨by simp[hL0],(zl w _).trans (hb1.mono (by simp))⟩
  ·go_enter Tryz.func33,Tryz.ntmps33
   go_wp2_with (go_at_call 56;refine(hnam _).mono ?_;rintro e w1 ⟨rfl,hb1⟩;have hN1:=(zm.new w _ _).below hb1 (by simp);have n0:=hN1.cell 0;have n2:=hN1.cell 2;have n4:=hN1.cell 4;have q0:=hN1.cell 1;have q3:=hN1.cell 3;have hlN:=hN1.lt)
   go_ret
   exact⟨by simp[hM,hM1],(zl w _).trans (hb1.mono (by simp))⟩
theorem YI(n:Nd)(A:Option Addr)(C:Nat)(w:World)(h:jZ w n A C):Calls Tryz.prog 33 #[.agg (qD n (.slice A n.l.length C))] w (j1 w (qS n)):=by
 rw[Fd];cases hname:jq n.s with
 |false =>
  have hnam:=λW=>vT n A n.l.length C W (by have:=h.s;omega)
  rw[hname]at hnam;unfold qD at *;clear hname;go_enter Tryz.func33,Tryz.ntmps33
  go_wp2_with (go_at_call 56;refine(hnam _).mono ?_;rintro e w1 ⟨rfl,hb1⟩)
  go_ret
  exact⟨rfl,(zl w _).trans (hb1.mono (by simp))⟩
 |true =>
  rw[Bool.true_and];obtain⟨op,s,M,at_,l⟩:=n;simp only[Nd.s]at hname;by_cases h1:op=zn
  ·subst h1;exact X6 s M at_ l A C w h hname
  by_cases h2:op=zq
  ·subst h2;exact YF s M at_ l A C w h hname
  by_cases h3:op=zM
  ·subst h3;exact F6 s M at_ l A C w h hname
  by_cases h4:op=zN
  ·subst h4;exact U1 s M at_ l A C w h hname
  by_cases h5:op=zB
  ·subst h5;exact XZ s M at_ l A C w h hname
  by_cases h6:op=qj
  ·subst h6;exact KD s M at_ l A C w h hname
  have hR:yW (.mk op s M at_ l)=false:=(if_neg (by show ¬(op=zn∨op=zq);simp[h1,h2])).trans ((if_neg (by show ¬(op=zM∨op=zN);simp[h3,h4])).trans ((if_neg h5).trans (if_neg h6)));rw[hR];have hnam:=λW=>vT (.mk op s M at_ l) A l.length C W (by have:=h.s;omega)
  simp only[Nd.s,hname]at hnam;have ho:=zp op;have t1:(op== [100,101,118,105,99,101])=false:=by rw[beq_eq_false_iff_ne];exact h1
  have t2:(op== [106,111,117,114,110,97,108])=false:=by rw[beq_eq_false_iff_ne];exact h2
  have t3:(op== [107,101,121])=false:=by rw[beq_eq_false_iff_ne];exact h3
  have t4:(op== [114,111,111,116])=false:=by rw[beq_eq_false_iff_ne];exact h4
  have t5:(op== [118,111,108,117,109,101])=false:=by rw[beq_eq_false_iff_ne];exact h5
  have t6:(op== [101,120,112,111,114,116])=false:=by rw[beq_eq_false_iff_ne];exact h6
  unfold qD at *;simp only[Nd.op,Nd.s,Nd.n,Nd.a,Nd.l]at *;generalize l.length=L at *;clear hR hname h1 h2 h3 h4 h5 h6;go_enter Tryz.func33,Tryz.ntmps33
  go_wp2_with (go_at_call 56;refine(hnam _).mono ?_;rintro e w1 ⟨rfl,hb1⟩;have hN1:=(zm.new w _ _).below hb1 (by simp);have n0:=hN1.cell 0)
  go_ret
  exact⟨rfl,(zl w _).trans (hb1.mono (by simp))⟩
theorem zap(n:Nd)(A:Option Addr)(C:Nat)(w:World)(h:jZ w n A C):Calls Tryz.prog 15 #[.agg (qD n (.slice A n.l.length C))] w (j1 w (yP n)):=by
 have hlen:=h.len;have ho:=zp n.op;have hs:=zp n.s;have hst:=λm Au Cu W (hr:jZ W m Au Cu)=>YI m Au Cu W hr
 obtain⟨L,hL⟩:∃L,L=n.l.length:=⟨_,rfl⟩
 have HL:Hid (L=n.l.length):=hL;have hL2:L≤9223372036854775807:=by omega
 have hE:yP n=((List.range L).all (λi=>qS (n.l.getD i (.mk [] [] 0 0 [])))&&(n.op==y8&&(n.s== []&&decide (n.n=0)))):=by
  unfold yP;rw[hL,Bool.and_assoc,Bool.and_assoc]
  congr 1
  rw[Bool.eq_iff_iff,List.all_eq_true,List.all_eq_true];constructor
  ·intro hh i hi
   have hi':=List.mem_range.1 hi;rw[List.getD_eq_getElem?_getD,List.getElem?_eq_getElem hi'];exact hh _ (List.getElem_mem hi')
  ·intro hh x hx
   obtain⟨i,hi,rfl⟩:=List.getElem_of_mem hx;have:=hh i (List.mem_range.2 hi);rw[List.getD_eq_getElem?_getD,List.getElem?_eq_getElem hi]at this;exact this
 rw[hE,←hL];generalize hp:(λi=>qS (n.l.getD i (.mk [] [] 0 0 [])))=p;have HP:Hid (∀i,p i=qS (n.l.getD i (.mk [] [] 0 0 []))):=λi=>by rw[←hp]
 have hrd:=h;clear hp hE hL hlen;rw[show(qD n (.slice A L C))= #[.string (bs n.op),.string (bs n.s),.int .i64 n.n,.int .i64 n.a,.slice A L C]from rfl];go_enter Tryz.func15,Tryz.ntmps15
 go_wp2
 obtain⟨W1,hW1⟩:∃W,W=w.alloc (.cells #[.string (bs n.op),.string (bs n.s),.int .i64 n.n,.int .i64 n.a,.slice A L C] 24):=⟨_,rfl⟩
 have hb1:Below w.heap.size w W1:=by rw[hW1];exact zl _ _
 have hN1:zm W1 w.heap.size 24 #[.string (bs n.op),.string (bs n.s),.int .i64 n.n,.int .i64 n.a,.slice A L C]:=by rw[hW1];exact zm.new _ _ _
 rw[←hW1];clear hW1;have hA0:(List.range 0).all p=true:=rfl
 go_loopw [8] (λz wz=>∃i:Nat,i≤L∧z= .int .i64 (i:Nat)∧Below W1.heap.size W1 wz∧(List.range i).all p=true) (λz _=>L-(intOf z).toNat)
 case atStart=>exact⟨0,Nat.zero_le _,rfl,Below.refl _ _,hA0⟩
 case round =>
  clear hA0;obtain⟨i,hi,rfl,hbz,hall⟩:=hrel;have HA:Hid ((List.range i).all p=true):=hall;clear hall;have hbwr:Below w.heap.size w wr:=hb1.trans (hbz.mono hb1.size);by_cases hiL:i<L
  ·have hiL2:(i:Int)<(L:Int):=by omega
   have hiL':i<n.l.length:=by rw[←HL.out];exact hiL
   have hR:=(hrd.grow hbwr).rd;rw[←HL.out]at hR;obtain⟨g,off,u,rfl,hg,hc,hru,hsu,hou⟩:=hR.get i hiL'
   obtain⟨m,hm⟩:∃m,m=n.l[i]:=⟨_,rfl⟩
   rw[←hm]at hc hru hsu hou;obtain⟨Au,Cu,rfl,-,-⟩:=hru.slice;have d0:=hc 0 (by decide);have d1:=hc 1 (by decide);have d2:=hc 2 (by decide);have d3:=hc 3 (by decide);have d4:=hc 4 (by decide);simp only[Nat.add_zero]at d0;simp only[qD]at d0 d1 d2 d3 d4;have hp1:p i=qS m:=by rw[HP.out i,hm,List.getD_eq_getElem?_getD,List.getElem?_eq_getElem hiL'];rfl
   have HP1:Hid (p i=qS m):=hp1;have hpm:=λW hW=>hst m Au Cu W (jZ.grow (w:=wr) ⟨hru,hsu,hou⟩ hW)
   unfold qD at hpm;generalize qS m=V at hpm HP1;clear hp1 hm hc hR hst;cases V with
   |true =>
    go_wp2_with (go_at_call 33;refine(hpm _ (zl _ _)).mono ?_;rintro e w4 ⟨rfl,hb4⟩)
    go_roundw
    case rel=>exact⟨i+1,by omega,by go_num,hbz.trans (((zl wr _).trans (hb4.mono (by simp))).mono hbz.size),by rw[Yp,HA.out,HP1.out];rfl⟩
    case measure=>simp[intOf];omega
   |false =>
    go_wp2_with (go_at_call 33;refine(hpm _ (zl _ _)).mono ?_;rintro e w4 ⟨rfl,hb4⟩)
    go_ret
    refine⟨qW ?_,hbwr.trans (((zl wr _).trans (hb4.mono (by simp))).mono hbwr.size)⟩
    symm
    have :(List.range L).all p=false:=by
     rw[List.all_eq_false];exact⟨i,List.mem_range.2 hiL,by rw[HP1.out];decide⟩
    rw[this,Bool.false_and]
  ·have hiL2:i=L:=by omega
   subst hiL2;have hN2:=hN1.below hbz hN1.lt;have x0:=hN2.cell 0;have x1:=hN2.cell 1;have x2:=hN2.cell 2;clear hst;generalize n.n=M at *
   cases e1:(n.op==y8)
   ·have e1':(n.op== [102,105,108,101])=false:=e1
    go_wp2
    go_ret
    exact⟨qW (by rw[HA.out,e1];rfl),hbwr⟩
   ·have e1':(n.op== [102,105,108,101])=true:=e1
    cases e2:(n.s== [])
    ·go_wp2
     go_ret
     exact⟨qW (by rw[HA.out,e1,e2];rfl),hbwr⟩
    ·by_cases hM:M=0
     ·subst hM
      go_wp2
      go_ret
      exact⟨qW (by rw[HA.out]),hbwr⟩
     ·go_wp2
      go_ret
      exact⟨qW (by rw[HA.out,e1,e2];simp[hM]),hbwr⟩
end
end Go.Proofs.YteaddcdpgcgggaaGreatDoor
