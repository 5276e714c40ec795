import Derived.Test.YtebcfkigbbolaaaGreatDoorJoint12
import Derived.Test.YtebcfkigbbolaaaGreatDoorJoint00
import Derived.Test.YtebcfkigbbolaaaGreatDoorJoint03
import Derived.Test.YtebcfkigbbolaaaGreatDoorJoint10
import Derived.Test.YtebcfkigbbolaaaGreatDoorJoint07
import Derived.BigQuiet
import Derived.Deep.QuietTactic
import Derived.Shelf.Strings.Builder1
import Derived.Shelf.Strings.Builder2
import Derived.Shelf.Strings.OnBuilder
import Derived.Shelf.Strconv.Itoa0
import Derived.Shelf.Strconv.Itoa1
import Derived.Shelf.LaysM
import Derived.Shelf.Strconv.Itoa2
import Derived.Shelf.Strconv.Itoa3
import Derived.Shelf.Bytes.SlClone
import Derived.Shelf.Bytes.SlEqualAll
import Derived.Shelf.Bytes.Small
import Derived.Test.YtebcfkigbbolaaaGreatDoorProg
import Derived.Test.YtebcfkigbbolaaaGreatDoorJoint08
namespace Go.Proofs.YtebcfkigbbolaaaGreatDoor
set_option linter.unusedVariables false
set_option maxRecDepth 100000
set_option maxHeartbeats 40000000
section
inductive AL:List Nd→List Nd→Prop where
 |nil:AL [] []
 |cons {x y:Nd} {l m:List Nd}:ZB x y→AL l m→AL (x::l) (y::m)
theorem AL.len{l m:List Nd}(h:AL l m):l.length=m.length:=by
 induction h with
 |nil=>rfl
 |cons _ _ ih=>simp[ih]
theorem AL.get{l m:List Nd}(h:AL l m):∀i (h1:i<l.length) (h2:i<m.length),ZB l[i] m[i]:=by
 induction h with
 |nil=>intro i h1;simp at h1
 |cons hx _ ih =>
  intro i h1 h2;cases i with
  |zero=>exact hx
  |succ i=>exact ih i (by simpa using h1) (by simpa using h2)
theorem ZB.of{o s:List UInt8}{n a b:Int}{l l':List Nd}(h:AL l l'):ZB (.mk o s n a l) (.mk o s n b l'):= .mk o s n a b l l' h.len h.get
theorem AL.append{l m l' m':List Nd}(h:AL l m)(h':AL l' m'):AL (l++l') (m++m'):=by
 induction h with
 |nil=>exact h'
 |cons hx _ ih=>exact .cons hx ih
theorem ZB.symm{x y:Nd}(h:ZB x y):ZB y x:=by
 induction h with
 |mk o s n a b l l' hl hk ih=>exact .mk o s n b a l' l hl.symm (λi h h'=>ih i h' h)
theorem AL.symm{l m:List Nd}(h:AL l m):AL m l:=by
 induction h with
 |nil=>exact .nil
 |cons hx _ ih=>exact .cons hx.symm ih
theorem AL.of_get{l m:List Nd}(hl:l.length=m.length)(h:∀i (h1:i<l.length) (h2:i<m.length),ZB l[i] m[i]):AL l m:=by
 induction l generalizing m with
 |nil=>cases m with
  |nil=>exact .nil
  |cons y m=>simp at hl
 |cons x l ih =>
  cases m with
  |nil=>simp at hl
  |cons y m=>exact .cons (h 0 (by simp) (by simp)) (ih (by simpa using hl) (λi h1 h2=>h (i+1) (by simpa using h1) (by simpa using h2)))
def VS(ts:zu):List Tk:=ts.map Prod.fst
def Lk{α β:Type}(R:α→β→Prop)(P:j2 α)(Q:j2 β):Prop:=∀en en' ts us,VS ts=VS us→∀x r,P en ts= .ok (x,r)→∃y s,Q en' us= .ok (y,s)∧R x y∧VS r=VS s
theorem Lk.ret{α β:Type}{R:α→β→Prop}{x:α}{y:β}(h:R x y):Lk R (jq x) (jq y):=by
 intro en en' ts us e x' r hx;cases hx;exact⟨y,us,rfl,h,e⟩
theorem Lk.bind{α β γ δ:Type}{R:α→β→Prop}{S:γ→δ→Prop}{P:j2 α}{Q:j2 β}{f:α→j2 γ}{g:β→j2 δ}(h:Lk R P Q)(hf:∀x y,R x y→Lk S (f x) (g y)):Lk S (zz P f) (zz Q g):=by
 intro en en' ts us e x r hx;unfold zz at hx;cases hp:P en ts with
 |error er=>rw[hp]at hx;cases hx
 |ok z =>
  obtain⟨z,t⟩:=z;rw[hp]at hx;obtain⟨y,s,hq,hr,e2⟩:=h en en' ts us e z t hp;obtain⟨y2,s2,hq2,hr2,e3⟩:=hf z y hr en en' t s e2 x r hx;refine⟨y2,s2,?_,hr2,e3⟩;unfold zz;rw[hq];exact hq2
theorem Lk.take(p:Tk→Bool):Lk (λt u:Tk×Nat=>t.1=u.1) (zE p) (zE p):=by
 intro en en' ts us e x r hx;cases ts with
 |nil=>cases hx
 |cons t ts =>
  cases us with
  |nil=>cases e
  |cons u us =>
   simp only[VS,List.map_cons,List.cons.injEq]at e;simp only[zE]at hx
   split at hx
   ·rename_i hp
    cases hx;exact⟨u,us,by simp only[zE];rw[←e.1,if_pos hp],e.1,e.2⟩
   ·cases hx
theorem Lk.fork{α β:Type}{R:α→β→Prop}(p:Tk→Bool){P P':j2 α}{Q Q':j2 β}(h:Lk R P Q)(h':Lk R P' Q'):Lk R (JX p P P') (JX p Q Q'):=by
 intro en en' ts us e x r hx
 have hc:ji p ts=ji p us:=by
  cases ts with
  |nil=>cases us with
   |nil=>rfl
   |cons u us=>cases e
  |cons t ts=>cases us with
   |nil=>cases e
   |cons u us=>simp only[VS,List.map_cons,List.cons.injEq]at e;simp only[ji,e.1]
 unfold JX at hx ⊢;rw[←hc]
 split at hx
 ·rename_i h0
  simp only[if_pos h0];exact h en en' ts us e x r hx
 ·rename_i h0
  simp only[if_neg h0];exact h' en en' ts us e x r hx
theorem Lk.ite{α β:Type}{R:α→β→Prop}(c:Prop)[Decidable c]{P P':j2 α}{Q Q':j2 β}(h:Lk R P Q)(h':Lk R P' Q'):Lk R (if c then P else P') (if c then Q else Q'):=by
 split
 ·exact h
 ·exact h'
def RL(x y:Int×List Nd):Prop:=x.1=y.1∧AL x.2 y.2
theorem Ub{p:Tk→Bool}{en:Nat}{ts r:zu}{t:Tk×Nat}(h:zE p en ts= .ok (t,r)):ts=t::r:=by
 cases ts with
 |nil=>cases h
 |cons u us =>
  simp only[zE]at h
  split at h
  ·cases h;rfl
  ·cases h
theorem uD(f:Nat):∀(en:Nat) (ts r:zu) (l:List Nd),jB f en ts= .ok (l,r)→ts.length<f→r= []:=by
 induction f with
 |zero=>intro en ts r l h hf;omega
 |succ f ih =>
  intro en ts r l h hf;cases ts with
  |nil=>cases h;rfl
  |cons t ts =>
   rw[J8]at h;cases hs:qC en (t::ts)with
   |error e=>rw[hs]at h;cases h
   |ok x =>
    obtain⟨n,r1⟩:=x;rw[hs]at h;simp only at h;have h1:=Z7 hs;cases hp:jB f en r1 with
    |error e=>rw[hp]at h;cases h
    |ok y =>
     obtain⟨l',r'⟩:=y;rw[hp]at h;cases h;exact ih en r1 r l' hp (by simp only[List.length_cons]at h1 hf;omega)
end
section
theorem Qt{p:UInt8→Bool}{u v:List UInt8}(h:zy p (u++v)=u.length):(∀c ∈ u,p c=true)∧(∀c,v.head?=some c→p c=false):=by
 induction u with
 |nil =>
  refine⟨by simp,λc hc=>?_⟩;cases v with
  |nil=>cases hc
  |cons d v =>
   simp only[List.head?_cons,Option.some.injEq]at hc;subst hc;simp only[List.nil_append,qG,List.length_nil]at h;cases hp:p d
   ·rfl
   ·rw[hp]at h;simp at h
 |cons d u ih =>
  simp only[List.cons_append,qG,List.length_cons]at h
  split at h
  ·rename_i hp
   obtain⟨h1,h2⟩:=ih (by omega);refine⟨λc hc=>?_,h2⟩;rcases List.mem_cons.1 hc with rfl|hc
   ·exact hp
   ·exact h1 c hc
  ·omega
theorem K4{p:UInt8→Bool}{u v:List UInt8}(h1:∀c ∈ u,p c=true)(h2:∀c,v.head?=some c→p c=false):zy p (u++v)=u.length:=by
 cases v with
 |nil =>
  rw[List.append_nil];clear h2
  induction u with
  |nil=>rfl
  |cons d u ih=>rw[qG,if_pos (h1 d (by simp)),ih (λc hc=>h1 c (by simp[hc]))];rfl
 |cons c v=>exact Q0 p u c v h1 (h2 c rfl)
theorem Xo{v:List UInt8}(h:∀c,v.head?=some c→j4 c=false):jT v=false:=by
 cases v with
 |nil=>rfl
 |cons c v=>simp[jT,h c rfl]
def yt{α:Type}(P:j2 α):Prop:=∀en ts c k,P en ts= .error (c,k)→c≠0
theorem yt.ret{α:Type}(x:α):yt (jq x):=λen ts c k h=>by cases h
theorem yt.bind{α β:Type}{P:j2 α}{f:α→j2 β}(hP:yt P)(hf:∀x,yt (f x)):yt (zz P f):=by
 intro en ts c k h;unfold zz at h;cases hp:P en ts with
 |error e=>rw[hp]at h;cases h;exact hP en ts c k hp
 |ok y=>obtain⟨x,r⟩:=y;rw[hp]at h;exact hf x en r c k h
theorem yt.take(p:Tk→Bool):yt (zE p):=by
 intro en ts c k h;cases ts with
 |nil=>cases h;decide
 |cons t r=>simp only[zE]at h;split at h<;>cases h;decide
theorem yt.fork{α:Type}(p:Tk→Bool){P Q:j2 α}(hP:yt P)(hQ:yt Q):yt (JX p P Q):=by
 intro en ts c k h;unfold JX at h
 split at h
 ·exact hP en ts c k h
 ·exact hQ en ts c k h
theorem yt.ite{α:Type}{P Q:j2 α}(c:Prop)[Decidable c](hP:yt P)(hQ:yt Q):yt (if c then P else Q):=by
 split
 ·exact hP
 ·exact hQ
end
section
theorem Z1{x:List UInt8}{n:Nd}(h:j6 x= .ok n):∃ts l,vX x= .ok ts∧jB 501 x.length ts= .ok (l,[])∧n= .mk ZD [] 0 0 l:=by
 unfold j6 at h;cases hS:vX x with
 |error e=>rw[hS]at h;cases h
 |ok ts =>
  rw[hS]at h;simp only at h;cases hp:jB 501 x.length ts with
  |error e=>rw[hp]at h;cases h
  |ok y =>
   obtain⟨l,r⟩:=y;rw[hp]at h;cases h;have hl:=(vL hS).1;have hr:=uD 501 _ _ _ _ hp (by omega);subst hr;exact⟨ts,l,rfl,hp,rfl⟩
end
section
def kV(ts:zu):Prop:=∀t ∈ ts,yz t.1
def Gp{α:Type}(R:α→Prop)(P:j2 α):Prop:=∀en ts,kV ts→∀x r,P en ts= .ok (x,r)→R x∧kV r
theorem Gp.ret{α:Type}{R:α→Prop}{x:α}(h:R x):Gp R (jq x):=λen ts hg y r hy=>by cases hy;exact⟨h,hg⟩
theorem Gp.bind{α β:Type}{R:α→Prop}{S:β→Prop}{P:j2 α}{f:α→j2 β}(h:Gp R P)(hf:∀x,R x→Gp S (f x)):Gp S (zz P f):=by
 intro en ts hg y r hy;unfold zz at hy;cases hp:P en ts with
 |error e=>rw[hp]at hy;cases hy
 |ok z =>
  obtain⟨z,s⟩:=z;rw[hp]at hy;obtain⟨h1,h2⟩:=h en ts hg z s hp;exact hf z h1 en s h2 y r hy
theorem Gp.take(p:Tk→Bool):Gp (λt:Tk×Nat=>yz t.1∧p t.1=true) (zE p):=by
 intro en ts hg y r hy;have h1:=Ub hy;have h2:=Xe hy;subst h1;exact⟨⟨hg _ (by simp),h2⟩,λt ht=>hg t (by simp[ht])⟩
theorem Gp.fork{α:Type}{R:α→Prop}(p:Tk→Bool){P Q:j2 α}(h:Gp R P)(h':Gp R Q):Gp R (JX p P Q):=by
 intro en ts hg y r hy;unfold JX at hy
 split at hy
 ·exact h en ts hg y r hy
 ·exact h' en ts hg y r hy
theorem Gp.ite{α:Type}{R:α→Prop}(c:Prop)[Decidable c]{P Q:j2 α}(h:Gp R P)(h':Gp R Q):Gp R (if c then P else Q):=by
 split
 ·exact h
 ·exact h'
theorem yz.short{t:Tk}(h:yz t):t.s.length≤1000:=by
 have hle:=h.le;by_cases h0:t.kind=0
 ·have:=(h.word h0).2.2;omega
 ·by_cases h1:t.kind=1
  ·rw[(h.num h1).1];simp
  ·by_cases h2:t.kind=2
   ·have:=(h.hex h2).2.2;omega
   ·obtain⟨c,e,_⟩:=h.sign (by omega)
    rw[e];simp
def vV(l:List Nd):Prop:=∀x ∈ l,Qh x
theorem vV.nil:vV []:=λx h=>by cases h
theorem vV.cons{x:Nd}{l:List Nd}(h:Qh x)(hl:vV l):vV (x::l):=λy hy=>by
 rcases List.mem_cons.1 hy with rfl|hy
 ·exact h
 ·exact hl y hy
theorem vV.append{l m:List Nd}(h:vV l)(hm:vV m):vV (l++m):=λy hy=>(List.mem_append.1 hy).elim (h y) (hm y)
theorem XN{pe:j2 Nd}(h:Gp Qh pe)(k:Kd):Gp Qh (y8 pe k):=by
 cases k
 ·exact h
 ·exact(Gp.take _).bind λt ht=>Gp.ret (.mk _ _ _ _ _ (by decide) (by decide) vV.nil)
 ·exact(Gp.take _).bind λt ht=>Gp.ret (.mk _ _ _ _ _ (by decide) ht.1.short vV.nil)
theorem Uz{pe:j2 Nd}(h:Gp Qh pe)(ks:List Kd):∀b,Gp vV (vw pe b ks):=by
 induction ks with
 |nil=>intro b;cases b<;>exact Gp.ret vV.nil
 |cons k ks ih =>
  intro b;cases b
  ·exact(Gp.take _).bind λ_ _=>(XN h k).bind λ_ hx=>(ih false).bind λ_ hl=>Gp.ret (hl.cons hx)
  ·exact(XN h k).bind λ_ hx=>(ih false).bind λ_ hl=>Gp.ret (hl.cons hx)
theorem GU{pe:j2 Nd}(h:Gp Qh pe)(f:Nat):Gp vV (xa pe f):=by
 induction f with
 |zero=>exact Gp.ret vV.nil
 |succ f ih=>exact Gp.fork _ ((Gp.take _).bind λ_ _=>h.bind λ_ hx=>ih.bind λ_ hl=>Gp.ret (hl.cons hx)) (Gp.ret vV.nil)
theorem uN(d:Nat):Gp Qh (zJ d):=by
 induction d with
 |zero=>intro en ts hg x r hx;cases hx
 |succ d ih =>
  exact(Gp.take _).bind λt ht=>Gp.ite _ (Gp.ret (.mk _ _ _ _ _ (by decide) ht.1.short vV.nil))
   (((Gp.take _).bind λ_ _=>(Uz ih _ _).bind λ_ hl=>(Gp.ite _ (GU ih _) (Gp.ret vV.nil)).bind λ_ hm=>(Gp.take _).bind λ_ _=>Gp.ret (hl.append hm)).bind λ_ hl=>Gp.ret (.mk _ _ _ _ _ ht.1.short (by decide) hl))
theorem u7:Gp Qh qC:=by
 refine(Gp.take _).bind λt ht=>(Gp.take _).bind λu hu=>?_
 have hr:Gp (λx:Int×List Nd=>vV x.2) (vA t.1.s):=by
  unfold vA
  exact Gp.ite _ ((Gp.take _).bind λ_ _=>Gp.ret vV.nil) (Gp.ite _ ((Gp.take _).bind λv hv=>Gp.ret (vV.nil.cons (.mk _ _ _ _ _ (by decide) hv.1.short vV.nil)))
   (Gp.ite _ ((Gp.take _).bind λ_ _=>(uN 12).bind λ_ hx=>Gp.ret (vV.nil.cons hx)) (Gp.fork _ ((Gp.take _).bind λ_ _=>Gp.ret vV.nil) (Gp.ret vV.nil))))
 exact hr.bind λx hx=>(Gp.take _).bind λ_ _=>Gp.ret (.mk _ _ _ _ _ ht.1.short hu.1.short hx)
theorem gZ(f:Nat):Gp vV (jB f):=by
 induction f with
 |zero=>exact Gp.ret vV.nil
 |succ f ih =>
  have hb:Gp vV (zz qC λn=>zz (jB f) λl=>jq (n::l)):=u7.bind λ_ hx=>ih.bind λ_ hl=>Gp.ret (hl.cons hx)
  intro en ts hg x r hx;cases ts with
  |nil=>cases hx;exact⟨vV.nil,hg⟩
  |cons t ts=>exact hb en (t::ts) hg x r hx
theorem xg{x:List UInt8}{n:Nd}(h:j6 x= .ok n):Qh n:=by
 obtain⟨ts,l,hS,hp,rfl⟩:=Z1 h;exact .mk _ _ _ _ _ (by decide) (by decide) (gZ 501 _ ts (vL hS).2 l [] hp).1
theorem Xs{x:List UInt8}{n:Nd}(h:j6 x= .ok n):n.l.length≤500:=by
 obtain⟨ts,l,hS,hp,rfl⟩:=Z1 h;have hl:=(vL hS).1
 have :∀(f en:Nat) (ts:zu) (l:List Nd) (r:zu),jB f en ts= .ok (l,r)→l.length≤ts.length:=by
  intro f
  induction f with
  |zero=>intro en ts l r h;cases h;simp
  |succ f ih =>
   intro en ts l r h;cases ts with
   |nil=>cases h;simp
   |cons t ts =>
    rw[J8]at h;cases hs:qC en (t::ts)with
    |error e=>rw[hs]at h;cases h
    |ok y =>
     obtain⟨n,r1⟩:=y;rw[hs]at h;have h1:=Z7 hs;simp only at h;cases hp:jB f en r1 with
     |error e=>rw[hp]at h;cases h
     |ok z =>
      obtain⟨l',r'⟩:=z;rw[hp]at h;cases h;have:=ih _ _ _ _ hp;simp only[List.length_cons,List.singleton_append]at *;omega
 have:=this _ _ _ _ _ hp;show l.length≤500;omega
end
section
open Go.ChangeShapes Go.WideShapes Go.ChangeAt Go.RowKit
def Hj:List UInt8:= [100,101,118,105,99,101,32,97,32,49,48,59,32,100,101,118,105,99,101,32,98,32,49,48,59,32,106,111,117,114,110,97,108,32,106,32,50,53,54,59,32,118,111,108,117,109,101,32,118,32,61,32,109,105,114,114,111,114,40,97,44,32,108,105,110,101,97,114,40,98,44,32,48,44,32,49,48,41,41,59,32,101,120,112,111,114,116,32,118,59]
def Hn:Nd:= .mk ja [] 0 52 [.mk jE [97] 0 59 [],.mk qL [] 0 62 [.mk jE [98] 0 69 [],.mk j0 [] 0 72 [],.mk j0 [] 10 75 []]]
def F9:Nd:= .mk ZD [] 0 0 [.mk zd [97] 10 0 [],.mk zd [98] 10 13 [],.mk zm [106] 256 26 [],.mk zv [118] 0 41 [Hn],.mk zM [118] 0 81 []]
def Hl:JN:=⟨[10,10,256],2,[⟨1,10,[],0,0,0,[],[]⟩,⟨1,10,[],1,0,0,[],[]⟩,⟨2,10,[1],0,0,0,[],[]⟩,⟨4,10,[0,2],0,0,0,[],[]⟩],3,false⟩
theorem Q7:j6 Hj= .ok F9:=by kernel_rfl
theorem GP:yj F9=true:=by kernel_rfl
theorem DY:XR F9= .ok Hl:=by kernel_rfl
theorem GV:jQ F9= .ok Hl:=by unfold jQ;rw[if_pos GP,DY]
def yB(l:List Nd):Prop:=∀x ∈ l,xN x
theorem yB.nil:yB []:=λx h=>by cases h
theorem yB.cons{x:Nd}{l:List Nd}(h:xN x)(hl:yB l):yB (x::l):=λy hy=>by
 rcases List.mem_cons.1 hy with rfl|hy
 ·exact h
 ·exact hl y hy
theorem yB.append{l m:List Nd}(h:yB l)(hm:yB m):yB (l++m):=λy hy=>(List.mem_append.1 hy).elim (h y) (hm y)
theorem Zf(op s:List UInt8)(n a:Int):xN (.mk op s n a []):= .mk _ (by simp[Nd.l]) (λx h=>by cases h)
def fm(k:Nat)(l:List Nd):Prop:=yB l∧l.length≤k
theorem YJ{pe:j2 Nd}(h:Gp xN pe)(k:Kd):Gp xN (y8 pe k):=by
 cases k
 ·exact h
 ·exact(Gp.take _).bind λt ht=>Gp.ret (Zf _ _ _ _)
 ·exact(Gp.take _).bind λt ht=>Gp.ret (Zf _ _ _ _)
theorem uE{pe:j2 Nd}(h:Gp xN pe)(ks:List Kd):∀b,Gp (fm ks.length) (vw pe b ks):=by
 induction ks with
 |nil=>intro b;cases b<;>exact Gp.ret ⟨yB.nil,Nat.le_refl _⟩
 |cons k ks ih =>
  intro b;cases b
  ·exact(Gp.take _).bind λ_ _=>(YJ h k).bind λ_ hx=>(ih false).bind λ_ hl=>Gp.ret ⟨hl.1.cons hx,by have:=hl.2;simp;omega⟩
  ·exact(YJ h k).bind λ_ hx=>(ih false).bind λ_ hl=>Gp.ret ⟨hl.1.cons hx,by have:=hl.2;simp;omega⟩
theorem uU{pe:j2 Nd}(h:Gp xN pe)(f:Nat):Gp (fm f) (xa pe f):=by
 induction f with
 |zero=>exact Gp.ret ⟨yB.nil,Nat.le_refl _⟩
 |succ f ih=>exact Gp.fork _ ((Gp.take _).bind λ_ _=>h.bind λ_ hx=>ih.bind λ_ hl=>Gp.ret ⟨hl.1.cons hx,by have:=hl.2;simp;omega⟩) (Gp.ret ⟨yB.nil,Nat.zero_le _⟩)
theorem uZ(d:Nat):Gp xN (zJ d):=by
 induction d with
 |zero=>intro en ts hg x r hx;cases hx
 |succ d ih =>
  exact(Gp.take _).bind λt ht=>Gp.ite _ (Gp.ret (Zf _ _ _ _))
   (((Gp.take _).bind λ_ _=>(uE ih _ _).bind λ_ hl=>(Gp.ite (R:=fm 501) _ (uU ih 501) (Gp.ret ⟨yB.nil,Nat.zero_le _⟩)).bind λ_ hm=>(Gp.take _).bind λ_ _=>Gp.ret (R:=λl=>yB l∧l.length≤600) ⟨hl.1.append hm.1,by have h1:=hl.2;have h2:=hm.2;have h3:=ZN t.1.s;rw[List.length_append];omega⟩).bind λ_ hl=>Gp.ret (.mk _ (by have:=hl.2;show _≤80000;simp only[Nd.l];omega) hl.1))
theorem Gi:Gp xN qC:=by
 refine(Gp.take _).bind λt ht=>(Gp.take _).bind λu hu=>?_
 have hr:Gp (λx:Int×List Nd=>fm 1 x.2) (vA t.1.s):=by
  unfold vA
  exact Gp.ite _ ((Gp.take _).bind λ_ _=>Gp.ret ⟨yB.nil,Nat.zero_le _⟩) (Gp.ite _ ((Gp.take _).bind λv hv=>Gp.ret ⟨yB.nil.cons (Zf _ _ _ _),Nat.le_refl _⟩)
   (Gp.ite _ ((Gp.take _).bind λ_ _=>(uZ 12).bind λ_ hx=>Gp.ret ⟨yB.nil.cons hx,Nat.le_refl _⟩) (Gp.fork _ ((Gp.take _).bind λ_ _=>Gp.ret ⟨yB.nil,Nat.zero_le _⟩) (Gp.ret ⟨yB.nil,Nat.zero_le _⟩))))
 exact hr.bind λx hx=>(Gp.take _).bind λ_ _=>Gp.ret (.mk _ (by have:=hx.2;simp only[Nd.l];omega) hx.1)
theorem gp(f:Nat):Gp yB (jB f):=by
 induction f with
 |zero=>exact Gp.ret yB.nil
 |succ f ih =>
  have hb:Gp yB (zz qC λn=>zz (jB f) λl=>jq (n::l)):=Gi.bind λ_ hx=>ih.bind λ_ hl=>Gp.ret (hl.cons hx)
  intro en ts hg x r hx;cases ts with
  |nil=>cases hx;exact⟨yB.nil,hg⟩
  |cons t ts=>exact hb en (t::ts) hg x r hx
theorem Zn{x:List UInt8}{n:Nd}(h:j6 x= .ok n):xN n:=by
 have hs:=Xs h;obtain⟨ts,l,hS,hp,rfl⟩:=Z1 h;exact .mk _ (by omega) (gp 501 _ ts (vL hS).2 l [] hp).1
theorem jW.rdn{w:World}{P:Nat→Prop}{n:Nd}{A:Option Addr}{C:Nat}(h:jW w P n.l (.slice A n.l.length C))(hs:Qh n):j3 w n A C:=
 ⟨h.rd hs.l,by have:=hs.s;unfold maxLen;omega,by have:=hs.op;unfold maxLen;omega⟩
def d9:Nd:= .mk [] [] 0 0 []
theorem D2(w:World):j3 w d9 none 0:=⟨.mk [] [] none 0 rfl (Nat.le_refl _) (by omega) (λi h=>absurd h (Nat.not_lt_zero _)) (λi h=>absurd h (Nat.not_lt_zero _)) (λx h=>by cases h),by unfold maxLen;decide,by unfold maxLen;decide⟩
theorem fS:xN d9:=Zf _ _ _ _
theorem yL.pts{w:World}{B:Nat}{s:JN}{vd vp:Value}(h:yL w B s vd vp)(hn:0<s.parts.length):∃g off C,vp= .slice (some ⟨g,off,none⟩) s.parts.length C∧s.parts.length≤C∧C≤maxLen∧g<w.heap.size∧B≤g∧yn w w.heap.size (some ⟨g,off,none⟩) s.parts:=by
 obtain⟨us,e1,hp,hin⟩:=h.prts;obtain⟨g,C,e,h1,h2,h3,h3',h4⟩:=ZK hp hn;refine⟨g,0,C,e,h1,h2,h3,h3',λi hi=>⟨g,0,us[i]'(by omega),rfl,h3,h3,λj hj=>?_,(hin i hi (by omega)).keep (Nat.le_refl _) (λk hk _=>⟨rfl,hk⟩)⟩⟩;rw[Nat.zero_add,h4 _ (by omega),QZ _ us e1 i hi j hj]
theorem yn.two{w:World}{B g off:Nat}{ps:List Pt}(h:yn w B (some ⟨g,off,none⟩) ps){i:Nat}(hi:i<ps.length):w.cell? ⟨g,off+i*8,none⟩=some (.int .i64 (ps[i].kind:Nat))∧w.cell? ⟨g,off+i*8+1,none⟩=some (.int .i64 (ps[i].size:Nat)):=by
 obtain⟨g',off',u,e,_,_,hc,_⟩:=h i hi;cases e;exact⟨hc 0 (by decide),hc 1 (by decide)⟩
theorem di:Qh F9:=xg Q7
theorem D4:xN F9:=Zn Q7
theorem dB(W:World)(A:Option Addr)(C:Nat)(h:j3 W F9 A C):Calls Tryz.prog 11 #[.agg #[.string ⟨#[102,105,108,101]⟩,.string ⟨#[]⟩,.int .i64 0,.int .i64 0,.slice A 5 C]] W λe w'=>∃Ad Cd g o2 o3 off Cp,e= .returned (.tuple #[.agg #[.slice Ad 3 Cd,.int .i64 2,.slice (some ⟨g,off,none⟩) 4 Cp,.int .i64 3,.bool false],.int .i64 0,.int .i64 (-1)])∧Below W.heap.size W w'∧g<w'.heap.size∧Hid (o2=off+2*8)∧Hid (o3=off+3*8)∧w'.cell? ⟨g,o3+1,none⟩=some (.int .i64 10)∧w'.cell? ⟨g,o2,none⟩=some (.int .i64 2):=by
 have:=Qc F9 A C W h D4;rw[GV]at this;refine this.mono ?_;rintro e w' ⟨hb,vd,vp,rfl,hs⟩;obtain⟨Ad,Cd,rfl⟩:=xB hs.devs;obtain⟨g,off,Cp,rfl,_,_,hg,_,hP⟩:=hs.pts (by decide);exact⟨Ad,Cd,g,off+2*8,off+3*8,off,Cp,rfl,hb,hg,rfl,rfl,(hP.two (i:=3) (by decide)).2,(hP.two (i:=2) (by decide)).1⟩
theorem yF(w:World):Calls Tryz.prog 14 #[] w λe w'=>e= .returned (.bool true)∧Below w.heap.size w w':=by
 have hpa:Calls Tryz.prog 9 #[.string ⟨#[100,101,118,105,99,101,32,97,32,49,48,59,32,100,101,118,105,99,101,32,98,32,49,48,59,32,106,111,117,114,110,97,108,32,106,32,50,53,54,59,32,118,111,108,117,109,101,32,118,32,61,32,109,105,114,114,111,114,40,97,44,32,108,105,110,101,97,114,40,98,44,32,48,44,32,49,48,41,41,59,32,101,120,112,111,114,116,32,118,59]⟩] w λe w'=>∃A C,e= .returned (.tuple #[.agg #[.string ⟨#[102,105,108,101]⟩,.string ⟨#[]⟩,.int .i64 0,.int .i64 0,.slice A 5 C],.int .i64 0,.int .i64 (-1)])∧j3 w' F9 A C∧Below w.heap.size w w':=by
  have:=Xg Hj w (by decide);rw[Q7]at this;refine this.mono ?_;rintro e w' ⟨hb,A,C,rfl,hn⟩;exact⟨A,C,rfl,hn.rdn di,hb⟩
 go_enter Tryz.func14,Tryz.ntmps14
 go_wp2_with (first
  |((go_at_call 9)
    refine hpa.mono ?_;(rintro e w1 ⟨A,C,rfl,hr1,hb1⟩))
  |((go_at_call 11)
    refine(dB _ A C (hr1.grow (zf w1 _))).mono ?_;(rintro e w2 ⟨Ad,Cd,g,o2,o3,off,Cp,rfl,hb2,hg,HO2,HO3,d3,d2⟩))
  |((refine zg 43 rfl ?_)
    (refine ze (some 43) (.pointer (some ⟨g,o3,none⟩)) rfl (by rfl) (by rw[HO3.out];exact qj _ _ rfl g off 3 4 Cp rfl rfl (by decide) _) ?_))
  |((refine zg 51 rfl ?_)
    (refine ze (some 51) (.pointer (some ⟨g,o2,none⟩)) rfl (by rfl) (by rw[HO2.out];exact qj _ _ rfl g off 2 4 Cp rfl rfl (by decide) _) ?_)))
 go_ret
 have s1:=hb1.size;have s2:=hb2.size;simp at s2;exact⟨rfl,((hb1.alloc hb1.size _).trans (hb2.mono (by simp;omega))).alloc (by omega) _⟩
end
section
theorem Je{α:Type}(P:List R3→Prop){g:List R3→Nat→α→List R3}(hg:∀o k a,P o→P (g o k a))(a:α)(l:List Nat):∀o,P o→P (l.foldl (λo k=>g o k a) o):=by
 induction l with
 |nil=>intro o h;exact h
 |cons k l ih=>intro o h;exact ih _ (hg _ _ _ h)
theorem J9(P:List R3→Prop){ps:List Pt}{g:List R3→Nat→Int→Int→List R3}(hg:∀o k f c,P o→P (g o k f c)){out:List R3}{p:Pt}{f c:Int}(ho:P out)(h1:p.kind=1→P (out++ [⟨p.dev,f,c⟩])):P (vY ps g out p f c):=by
 unfold vY;by_cases e1:p.kind=1
 ·rw[if_pos e1];exact h1 e1
 ·rw[if_neg e1]
  by_cases e2:p.kind=2
  ·rw[if_pos e2]
   exact Je P (g:=λo k (a:Int×Int)=>g o k a.1 a.2) (λo k a h=>hg _ _ _ _ h) (f+p.first,c) _ _ ho
  ·rw[if_neg e2]
   by_cases e3:p.kind=4∨p.kind=6
   ·rw[if_pos e3]
    exact Je P (g:=λo k (a:Int×Int)=>g o k a.1 a.2) (λo k a h=>hg _ _ _ _ h) (f,c) _ _ ho
   ·rw[if_neg e3]
    by_cases e4:p.kind=3
    ·rw[if_pos e4]
     have :∀(l:List Nat) (x:List R3×Int),P x.1→P (l.foldl (λ(x:List R3×Int) k=>(g x.1 k (max (f-x.2) 0) (min (f+c-x.2) (sz ps k)-max (f-x.2) 0),x.2+sz ps k)) x).1:=by
      intro l
      induction l with
      |nil=>intro x h;exact h
      |cons k l ih=>intro x h;exact ih _ (hg _ _ _ _ h)
     exact this _ _ ho
    ·rw[if_neg e4]
     by_cases e5:p.kind=5
     ·rw[if_pos e5];exact hg _ _ _ _ (hg _ _ _ _ ho)
     ·rw[if_neg e5]
      by_cases e6:p.kind=7∨p.kind=8
      ·rw[if_pos e6];exact hg _ _ _ _ ho
      ·rw[if_neg e6];exact ho
def kO(ps:List Pt)(r:R3):Prop:=∃i,i<ps.length∧(zI ps i).kind=1∧r.d=((zI ps i).dev:Nat)∧0≤r.f∧0<r.c∧r.f+r.c≤(sz ps i:Nat)
theorem GB{ps:List Pt}(d:Nat):∀out k f c,(∀r ∈ out,kO ps r)→∀r ∈ vt ps d out k f c,kO ps r:=by
 induction d with
 |zero=>intro out k f c h;exact h
 |succ d ih =>
  intro out k f c h;by_cases hno:256<out.length∨jr ps k f c=false
  ·rw[VX hno];exact h
  ·have h1:¬256<out.length:=λe=>hno (.inl e)
   have h2:jr ps k f c=true:=by
    cases hb:jr ps k f c
    ·exact absurd (.inr hb) hno
    ·rfl
   rw[VW h1 h2];refine J9 (λo=>∀r ∈ o,kO ps r) ih h (λe r hr=>?_);rcases List.mem_append.1 hr with q|q
   ·exact h r q
   ·rw[List.mem_singleton.1 q]
    obtain⟨a,b,c',d'⟩:=yJ h2;exact⟨k,a,e,rfl,b,c',d'⟩
theorem uq{ps:List Pt}{p f c:Int}:∀r ∈ xO ps p f c,kO ps r:=by
 unfold xO
 split
 ·intro r h;cases h
 ·exact GB _ _ _ _ _ (λr h=>by cases h)
theorem VU{ps:List Pt}(d:Nat):∀out k f c,out.length≤(vt ps d out k f c).length:=by
 induction d with
 |zero=>intro out k f c;exact Nat.le_refl _
 |succ d ih =>
  intro out k f c;by_cases hno:256<out.length∨jr ps k f c=false
  ·rw[VX hno];exact Nat.le_refl _
  ·have h1:¬256<out.length:=λe=>hno (.inl e)
   have h2:jr ps k f c=true:=by
    cases hb:jr ps k f c
    ·exact absurd (.inr hb) hno
    ·rfl
   rw[VW h1 h2];refine J9 (λo=>out.length≤o.length) (λo k f c h=>Nat.le_trans h (ih _ _ _ _)) (Nat.le_refl _) (λ_=>by simp)
theorem K3{ps:List Pt}{k:Nat}{f c:Int}(h1:k<ps.length)(h2:0≤f)(h3:0<c)(h4:f+c≤(sz ps k:Nat)):jr ps k f c=true:=by
 unfold jr;rw[decide_eq_true_eq,Int.toNat_natCast];omega
theorem g9{ps:List Pt}{g:List R3→Nat→Int→Int→List R3}{f c:Int}(hc:0<c)(hm:∀o k f c,o.length≤(g o k f c).length)(hn:∀(o:List R3) (k:Nat) (f c:Int),jr ps k f c=false→g o k f c=o)(l:List Nat)(hg:∀o:List R3,o.length≤256→∀k ∈ l,∀f c,jr ps k f c=true→o.length<(g o k f c).length)(hl:∀k ∈ l,k<ps.length):∀(o:List R3) (off:Int),o.length≤256→off≤f→f<off+((l.map (sz ps)).sum:Nat)→o.length<(l.foldl (λ(x:List R3×Int) k=>(g x.1 k (max (f-x.2) 0) (min (f+c-x.2) (sz ps k)-max (f-x.2) 0),x.2+sz ps k)) (o,off)).1.length:=by
 have mono:∀(l:List Nat) (x:List R3×Int),x.1.length≤(l.foldl (λ(x:List R3×Int) k=>(g x.1 k (max (f-x.2) 0) (min (f+c-x.2) (sz ps k)-max (f-x.2) 0),x.2+sz ps k)) x).1.length:=by
  intro l
  induction l with
  |nil=>intro x;exact Nat.le_refl _
  |cons k l ih=>intro x;rw[List.foldl_cons];exact Nat.le_trans (hm x.1 k _ _) (ih (_,_))
 induction l with
 |nil=>intro o off h1 h2 h3;simp at h3;omega
 |cons k l ih =>
  intro o off h1 h2 h3;rw[List.foldl_cons];simp only;by_cases hk:f<off+sz ps k
  ·have hh:jr ps k (max (f-off) 0) (min (f+c-off) (sz ps k)-max (f-off) 0)=true:=K3 (hl k (by simp)) (by omega) (by omega) (by omega)
   exact Nat.lt_of_lt_of_le (hg o h1 k (by simp) _ _ hh) (mono l (_,_))
  ·have hh:jr ps k (max (f-off) 0) (min (f+c-off) (sz ps k)-max (f-off) 0)=false:=by
    unfold jr;rw[decide_eq_false_iff_not,Int.toNat_natCast];omega
   rw[hn _ _ _ _ hh];refine ih (λo ho k hk=>hg o ho k (by simp[hk])) (λk hk=>hl k (by simp[hk])) o _ h1 (by omega) ?_;simp only[List.map_cons,List.sum_cons]at h3;omega
def gB(ps:List Pt):Prop:=∀i (h:i<ps.length),ps[i].kind=1∨GZ (ps.take i) ps[i]
theorem G5{ps:List Pt}(hb:gB ps)(d:Nat):∀k,k<d→∀out f c,out.length≤256→jr ps k f c=true→out.length<(vt ps d out k f c).length:=by
 induction d with
 |zero=>intro k h;omega
 |succ d ih =>
  intro k hkd out f c ho hh;rw[VW (by omega) hh];obtain⟨hk,hf,hc,hs⟩:=yJ hh;have hs':f+c≤((zI ps k).size:Nat):=hs;have hbk:=hb k hk;have hp:=jS hk;rw[←hp]at hbk;generalize zI ps k=p at *;unfold vY;rcases hbk with e1|hbk
  ·rw[if_pos e1];simp
  ·have hkd2:∀j ∈ p.kids,j<d∧yw ps j:=λj hj=>by
    have:=VY (hbk.kids j hj);exact⟨by omega,this.2⟩
   have hsz:∀j ∈ p.kids,sz (ps.take k) j=sz ps j:=λj hj=>by
    have h1:=(hbk.kids j hj).1;have:=Yl (ps.take k) (ps.drop k) h1;rw[List.take_append_drop]at this;exact this.symm
   have h0:p.kids.getD 0 0 ∈ p.kids:=Zj (by have:=hbk.some';cases hq:p.kids;exact absurd hq this;simp)
   obtain⟨k0,r,hkr⟩:∃k0 r,p.kids=k0::r:=by
    cases hq:p.kids with
    |nil=>exact absurd hq hbk.some'
    |cons a b=>exact⟨a,b,rfl⟩
   have hk0:p.kids.getD 0 0=k0:=by rw[hkr];rfl
   have hd0:=hkd2 _ h0;rw[hk0]at hd0;have hz0:=hsz _ h0;rw[hk0]at hz0;have hgr:∀f' c':Int,0≤f'→0<c'→f'+c'≤(sz ps k0:Nat)→out.length<(vt ps d out k0 f' c').length:=λf' c' a1 a2 a3=>ih k0 hd0.1 out f' c' ho (K3 hd0.2.1 a1 a2 a3)
   have hfold:∀(l:List Nat) (o:List R3) (f' c':Int),o.length≤(l.foldl (λo k=>vt ps d o k f' c') o).length:=λl=>by
    induction l with
    |nil=>intro o f' c';exact Nat.le_refl _
    |cons a l ihl=>intro o f' c';exact Nat.le_trans (VU d _ _ _ _) (ihl _ _ _)
   have hkind:=hbk.kind;rw[if_neg (by omega)];by_cases e2:p.kind=2
   ·rw[if_pos e2,hkr,List.foldl_cons]
    have hlin:=hbk.lin e2;rw[hk0,hz0]at hlin;exact Nat.lt_of_lt_of_le (hgr _ _ (by omega) hc (by omega)) (hfold _ _ _ _)
   ·rw[if_neg e2]
    by_cases e3:p.kind=4∨p.kind=6
    ·rw[if_pos e3,hkr,List.foldl_cons]
     have hs0:sz ps k0=p.size:=by
      rcases e3 with e|e
      ·have:=hbk.mir e k0 (by rw[hkr];simp)
       rw[hz0]at this;exact this
      ·have:=hbk.cry e
       rw[hk0,hz0]at this;exact this
     exact Nat.lt_of_lt_of_le (hgr _ _ hf hc (by omega)) (hfold _ _ _ _)
    ·rw[if_neg e3]
     by_cases e4:p.kind=3
     ·rw[if_pos e4]
      have hcat:=hbk.cat e4;have hmap:p.kids.map (sz (ps.take k))=p.kids.map (sz ps):=List.map_congr_left hsz;rw[hmap]at hcat;refine g9 hc (λo k f c=>VU d o k f c) (λo k f c h=>VX (.inr h)) p.kids (λo h1 j hj f' c' h2=>ih j (hkd2 j hj).1 o f' c' h1 h2) (λj hj=>(hkd2 j hj).2.1) out 0 ho hf ?_;rw[←hcat];omega
     ·rw[if_neg e4]
      by_cases e5:p.kind=5
      ·rw[if_pos e5,hk0]
       have hsn:=(hbk.snap e5).2;rw[hk0,hz0]at hsn;exact Nat.lt_of_lt_of_le (hgr _ _ hf hc (by omega)) (VU d _ _ _ _)
      ·rw[if_neg e5,if_pos (by omega),hk0]
       exact hgr _ _ (by omega) (by have:=hd0.2.2.1;omega) (by omega)
theorem VM.built{l:List Nd}{c:Ck}(h:VM l l c):gB c.parts:=λi hi=>by
 rcases h.part hi with⟨j,x,_,_,q,_⟩|q
 ·left;rw[q]
 ·exact .inr q
theorem uj{ps:List Pt}(hb:gB ps){k:Nat}(h:yw ps k):0<(xO ps k 0 (sz ps k)).length:=by
 have hh:=K3 (f:=0) (c:=(sz ps k:Nat)) h.1 (by omega) (by have:=h.2.1;omega) (by omega);unfold xO;rw[if_neg (by rw[hh];decide),Int.toNat_natCast];have:=G5 hb ps.length k h.1 [] 0 (sz ps k:Nat) (by simp) hh
 simpa using this
end
section
theorem KU{l:List Nd}(hst:∀x ∈ l,Ur x)(r:List Nd):∀ {q:List Nd} {c c':Ck},l=q++r→VM l q c→jD c r= .ok c'→VM l l c':=by
 induction r with
 |nil =>
  intro q c c' e h hc;cases hc;rw[List.append_nil]at e;subst e;exact h
 |cons x r ih =>
  intro q c c' e h hc;simp only[jD]at hc;cases hs:jx c x with
  |error er=>rw[hs]at hc;cases hc
  |ok c1 =>
   rw[hs]at hc;exact ih (q:=q++ [x]) (by rw[e];simp) (h.step e (hst x (by rw[e];simp)) hs) hc
theorem fp{n:Nd}{s:JN}(hst:∀x ∈ n.l,Ur x)(h:XR n= .ok s):∃c,VM n.l n.l c∧vK c= .ok s:=by
 unfold XR at h;cases hc:jD ⟨[],none,qh 0 n.l,none,false,0,[]⟩ n.l with
 |error e=>rw[hc]at h;cases h
 |ok c =>
  rw[hc]at h;exact⟨c,KU hst n.l (q:= []) rfl (VM.start n.l) hc,h⟩
structure PW (s:JN) (i:Nat) (p:Pt):Prop where
 lo:1≤p.size
 hi:p.size≤8192
 kind:1≤p.kind∧p.kind≤8
 disk:p.kind=1→p.kids= []∧p.dev<s.devs.length∧p.dev≠s.jour∧s.devs.getD p.dev 0=p.size
 kids:∀k ∈ p.kids,k<i
 some':p.kind≠1→p.kids≠ []
 lin:p.kind=2→p.first+p.size≤sz s.parts (p.kids.getD 0 0)
 snap:p.kind=5→p.kids.length=2
 four:p.kids.length≤4
 fst:p.first≤8192
structure SW (s:JN):Prop where
 jour:s.jour<s.devs.length
 expo:yw s.parts s.expo
 few:s.parts.length≤72
 dfew:s.devs.length≤8
 dsz:∀d ∈ s.devs,d≤2048
 part:∀i (h:i<s.parts.length),PW s i s.parts[i]
 wf:YB s.parts
 reg:∀r ∈ xO s.parts s.expo 0 (sz s.parts s.expo),∃d:Nat,r.d=d∧d<s.devs.length∧d≠s.jour∧0≤r.f∧1≤r.c∧r.f+r.c≤(s.devs.getD d 0:Nat)
 some':0<(xO s.parts s.expo 0 (sz s.parts s.expo)).length
 le:(xO s.parts s.expo 0 (sz s.parts s.expo)).length≤256
 apart:ZV (xO s.parts s.expo 0 (sz s.parts s.expo))=false
theorem Fl{l:List Nd}{c:Ck}(h:VM l l c){j:Nat}{x:Nd}(hj:(l.filter yg)[j]?=some x)(hx:x.op=zd){J:Nat}(hJ:c.jour=some J):j<c.devs.length∧j≠J∧c.devs.getD j 0=x.n.toNat:=by
 have hlt:=(List.getElem?_eq_some_iff.1 hj).1;refine⟨by rw[h.devs,List.length_map];exact hlt,λe=>?_,?_⟩
 ·obtain⟨y,hy,ho⟩:=h.jour J hJ
  rw[←e,hj]at hy;cases hy;rw[hx]at ho;exact absurd ho (by decide)
 ·rw[h.devs,List.getD_eq_getElem?_getD,List.getElem?_map,hj]
  rfl
theorem DT{n:Nd}{s:JN}(hst:∀x ∈ n.l,Ur x)(h:XR n= .ok s):SW s:=by
 obtain⟨c,hI,hw⟩:=fp hst h;have hx0:=hI.expo;obtain⟨j,x,ej,ex,es⟩:=Vl hw;have hx:=hx0 x ex;have hw':=hw;unfold vK at hw';rw[ej,ex]at hw';simp only at hw'
 have hpart:∀i (h:i<c.parts.length),PW s i c.parts[i]:=λi hi=>by
  rcases hI.part hi with⟨d,y,a,b,q,q1,q2⟩|q
  ·obtain⟨d1,d2,d3⟩:=Fl hI a b ej
   rw[q];refine⟨(by show 1≤y.n.toNat;omega),(by show y.n.toNat≤8192;omega),⟨Nat.le_refl _,(by show 1≤8;decide)⟩,λ_=>⟨rfl,by rw[es];exact d1,by rw[es];exact d2,by rw[es];exact d3⟩,(λk hk=>by cases hk),λe=>absurd rfl e,(λe=>by cases e),(λe=>by cases e),Nat.zero_le _,Nat.zero_le _⟩
  ·refine⟨q.lo,q.hi,⟨by have:=q.kind;omega,q.kind.2⟩,λe=>by have:=q.kind;omega,λk hk=>(VY (q.kids k hk)).1,λ_=>q.some',λe=>?_,λe=>(q.snap e).1,q.four,q.fst⟩
   have:=q.lin e;have h0:(c.parts[i]).kids.getD 0 0 ∈ (c.parts[i]).kids:=Zj (by have:=q.one (.inl e);omega);have h1:=(q.kids _ h0).1;have h2:=Yl (c.parts.take i) (c.parts.drop i) h1;rw[List.take_append_drop]at h2;rw[es,h2];exact this
 have hfew:c.parts.length≤72:=by
  have h1:=hI.few;have h2:=Vd n.l 0;have h3:=hI.le8
  have h4:(n.l.filter xt).length≤(n.l.filter yg).length:=by
   have :∀l:List Nd,(l.filter xt).length≤(l.filter yg).length:=by
    intro l
    induction l with
    |nil=>exact Nat.le_refl _
    |cons y l ih =>
     simp only[List.filter_cons];by_cases q:y.op=zd
     ·rw[if_pos (dm q),if_pos (ur (.inl q))];simp;exact ih
     ·rw[GA q]
      simp only[Bool.false_eq_true,if_false]
      split
      ·simp;omega
      ·exact ih
   exact this n.l
  omega
 have hreg:∀r ∈ xO c.parts x 0 (sz c.parts x),∃d:Nat,r.d=d∧d<c.devs.length∧d≠j∧0≤r.f∧1≤r.c∧r.f+r.c≤(c.devs.getD d 0:Nat):=λr hr=>by
  obtain⟨i,hi,hk,hd,h1,h2,h3⟩:=uq r hr;rw[jS hi]at hk hd;have hp:=hpart i hi;obtain⟨_,p1,p2,p3⟩:=hp.disk hk;rw[es]at p1 p2 p3;refine⟨c.parts[i].dev,hd,p1,p2,h1,by omega,?_⟩;have :sz c.parts i=c.parts[i].size:=by unfold sz;rw[jS hi]
  rw[this]at h3;have p3':c.devs.getD c.parts[i].dev 0=c.parts[i].size:=p3;rw[p3'];exact h3
 have hJ:j<c.devs.length:=by
  obtain⟨y,hy,_⟩:=hI.jour j ej;rw[hI.devs,List.length_map];exact(List.getElem?_eq_some_iff.1 hy).1
 have hD:∀d ∈ c.devs,d≤2048:=λd hd=>by
  rw[hI.devs]at hd;obtain⟨y,hy,rfl⟩:=List.mem_map.1 hd;have:=hI.ok y hy;omega
 have hD8:c.devs.length≤8:=by rw[hI.devs,List.length_map];exact hI.le8
 split at hw'
 ·cases hw'
 ·rename_i h256
  split at hw'
  ·cases hw'
  ·rename_i hov
   subst es;exact⟨hJ,hx,hfew,hD8,hD,hpart,hI.wf,hreg,uj hI.built hx,Nat.le_of_not_lt h256,by simpa using hov⟩
theorem Gs{n:Nd}(hl:xN n){s:JN}(h:jQ n= .ok s):SW s:=by
 unfold jQ at h
 split at h
 ·rename_i hr
  exact DT (J3 hr hl) h
 ·cases h
end
section
open Go.ChangeShapes Go.WideShapes Go.ChangeAt Go.RowKit Go.MapKept
def PT(x:List UInt8):Nd:=match j6 x with
 | .ok n=>n
 | .error _=>d9
theorem dn(x:List UInt8):xN (PT x):=by
 unfold PT;cases h:j6 x with
 |ok n=>exact Zn h
 |error e=>exact fS
theorem Ui(x:List UInt8)(w:World)(hx:x.length≤maxLen):Calls Tryz.prog 9 #[.string (bs x)] w λe w'=>∃(A:Option Addr) (C:Nat) (c k:Int),e= .returned (.tuple #[.agg (qa (PT x) (.slice A (PT x).l.length C)),.int .i64 c,.int .i64 k])∧j3 w' (PT x) A C∧Below w.heap.size w w'∧((∃n,j6 x= .ok n∧c=0)∨((∃er,j6 x= .error er)∧c≠0)):=by
 have:=Xg x w hx;unfold PT;cases h:j6 x with
 |ok n =>
  rw[h]at this;refine this.mono ?_;rintro e w' ⟨hb,A,C,rfl,hn⟩;exact⟨A,C,0,-1,rfl,hn.rdn (xg h),hb,.inl ⟨n,rfl,rfl⟩⟩
 |error er =>
  rw[h]at this;refine this.mono ?_;rintro e w' ⟨hb,c,k,hc,rfl⟩;exact⟨none,0,c,k,rfl,D2 w',hb,.inr ⟨⟨er,rfl⟩,hc⟩⟩
theorem yL.dev{w:World}{B:Nat}{s:JN}{vd vp:Value}(h:yL w B s vd vp)(hn:0<s.devs.length):∃g off C,vd= .slice (some ⟨g,off,none⟩) s.devs.length C∧s.devs.length≤C∧C≤maxLen∧g<w.heap.size∧∀d,d<s.devs.length→w.cell? ⟨g,off+d,none⟩=some (.int .i64 (s.devs.getD d 0:Nat)):=by
 obtain⟨g,C,e,h1,h2,h3,_,h4⟩:=ZK h.devs hn;refine⟨g,0,C,e,h1,h2,h3,λd hd=>?_⟩;rw[Nat.zero_add,h4 d (by omega),List.getElem?_map,List.getD_eq_getElem?_getD,List.getElem?_eq_getElem hd];rfl
theorem yn.all{w:World}{B g off:Nat}{ps:List Pt}(h:yn w B (some ⟨g,off,none⟩) ps){i:Nat}(hi:i<ps.length):∃Ak Ck A2 L2 C2 A3 L3 C3,(∀j,j<8→w.cell? ⟨g,off+i*8+j,none⟩=(#[.int .i64 (ps[i].kind:Nat),.int .i64 (ps[i].size:Nat),.slice Ak ps[i].kids.length Ck,.int .i64 (ps[i].dev:Nat),.int .i64 (ps[i].first:Nat),.int .i64 (ps[i].chunk:Nat),.slice A2 L2 C2,.slice A3 L3 C3]:Array Value)[j]?)∧xM w (λg=>g<B) Ak ps[i].kids∧ps[i].kids.length≤Ck∧Ck≤maxLen:=by
 obtain⟨g',off',u,e,_,_,hc,hin⟩:=h i hi;cases e;obtain⟨⟨A1,C1,e1,a1,b1,i1⟩,⟨A2,C2,e2,a2,b2,i2⟩,⟨A3,C3,e3,a3,b3,i3⟩⟩:=hin;refine⟨A1,C1,A2,ps[i].key.length,C2,A3,ps[i].root.length,C3,λj hj=>?_,i1,a1,b1⟩;have:=hc j hj;unfold Uh at this;rw[e1,e2,e3]at this;exact this
theorem Zt{o:Oper}{a:Act}(x:Operand)(ho:o.op= .convert 45 9 x)(v:Value)(hx:a.eval x=v)(w:World)(u:Value)(hr:(convert 45 9 v).run Tryz.prog w= .ok u w):(execOp a.eval o).run Tryz.prog w= .ok (.value u) w:=by
 unfold execOp;simp[ho,hx,hr]
theorem Zw{w:World}{P:Nat→Prop}{A:Option Addr}{l:List UInt8}(C:Nat)(h:vE w P A l):(convert 45 9 (.slice A l.length C)).run Tryz.prog w= .ok (.string (bs l)) w:=by
 cases A with
 |none =>
  have :l= []:=by
   rcases h with h|⟨b,off,e,_⟩
   ·exact h
   ·cases e
  subst this;rw[List.length_nil,run_convert_bytes_string w 45 9 5 none 0 C Tryz.underlying45 Tryz.underlying5 Tryz.underlying9];rfl
 |some x =>
  exact run_convert_bytes_back (P:=Tryz.prog) w 45 9 5 x C l Tryz.underlying45 Tryz.underlying5 Tryz.underlying9 (by
   intro j hj;rcases h with h0|⟨b,off,e,_,_,hc⟩
   ·subst h0;cases hj
   ·obtain rfl:x=⟨b,off,none⟩:=Option.some.inj e
    rw[show(⟨b,off,none⟩:Addr).add j=⟨b,off+j,none⟩from by simp[Addr.add],hc j hj])
theorem yn.bytes{w:World}{B g off:Nat}{ps:List Pt}(h:yn w B (some ⟨g,off,none⟩) ps){i:Nat}(hi:i<ps.length):∃Ak Ck A2 C2 A3 C3,(∀j,j<8→w.cell? ⟨g,off+i*8+j,none⟩=(#[.int .i64 (ps[i].kind:Nat),.int .i64 (ps[i].size:Nat),.slice Ak ps[i].kids.length Ck,.int .i64 (ps[i].dev:Nat),.int .i64 (ps[i].first:Nat),.int .i64 (ps[i].chunk:Nat),.slice A2 ps[i].key.length C2,.slice A3 ps[i].root.length C3]:Array Value)[j]?)∧xM w (λg=>g<B) Ak ps[i].kids∧vE w (λg=>g<B) A2 ps[i].key∧vE w (λg=>g<B) A3 ps[i].root:=by
 obtain⟨g',off',u,e,_,_,hc,hin⟩:=h i hi;cases e;obtain⟨⟨A1,C1,e1,a1,b1,i1⟩,⟨A2,C2,e2,a2,b2,i2⟩,⟨A3,C3,e3,a3,b3,i3⟩⟩:=hin;refine⟨A1,C1,A2,C2,A3,C3,λj hj=>?_,i1,i2,i3⟩;have:=hc j hj;unfold Uh at this;rw[e1,e2,e3]at this;exact this
theorem YX(w:World):Calls Tryz.prog 13 #[.agg #[.slice none 0 0,.int .i64 0,.slice none 0 0,.int .i64 0,.bool false],.agg #[.slice none 0 0,.int .i64 0,.slice none 0 0,.int .i64 0,.bool false]] w λe w'=>e= .returned (.bool true)∧Below w.heap.size w w':=by
 go_enter Tryz.func13,Tryz.ntmps13
 go_wp2
 go_loopw [5] (λz wr=>z= .int .i64 0∧wr=(w.alloc (.cells #[.slice none 0 0,.int .i64 0,.slice none 0 0,.int .i64 0,.bool false] 32)).alloc (.cells #[.slice none 0 0,.int .i64 0,.slice none 0 0,.int .i64 0,.bool false] 32)) (λz _=>0)
 case atStart=>exact⟨rfl,rfl⟩
 case round =>
  obtain⟨rfl,rfl⟩:=hrel
  go_wp2
  go_loopw [6] (λz wr=>z= .int .i64 0∧wr=(w.alloc (.cells #[.slice none 0 0,.int .i64 0,.slice none 0 0,.int .i64 0,.bool false] 32)).alloc (.cells #[.slice none 0 0,.int .i64 0,.slice none 0 0,.int .i64 0,.bool false] 32)) (λz _=>0)
  case atStart=>exact⟨rfl,rfl⟩
  case round =>
   obtain⟨rfl,rfl⟩:=hrel
   go_wp2
   go_ret
   exact⟨rfl,jL w _ _⟩
theorem GT{s:JN}{w:World}{B1 B2:Nat}{vd1 vp1 vd2 vp2:Value}(h1:yL w B1 s vd1 vp1)(h2:yL w B2 s vd2 vp2)(hsw:SW s):Calls Tryz.prog 13 #[.agg #[vd1,.int .i64 (s.jour:Nat),vp1,.int .i64 (s.expo:Nat),.bool s.ro],.agg #[vd2,.int .i64 (s.jour:Nat),vp2,.int .i64 (s.expo:Nat),.bool s.ro]] w λe w'=>e= .returned (.bool true)∧Below w.heap.size w w':=by
 have hNP0:0<s.parts.length:=by have:=hsw.expo.1;omega
 have hDL0:0<s.devs.length:=by have:=hsw.jour;omega
 obtain⟨gd1,od1,Cd1,rfl,_,_,hgd1,hdv1⟩:=h1.dev hDL0;obtain⟨g1,off1,Cp1,rfl,_,_,hg1,-,hPt1⟩:=h1.pts hNP0;obtain⟨gd2,od2,Cd2,rfl,_,_,hgd2,hdv2⟩:=h2.dev hDL0;obtain⟨g2,off2,Cp2,rfl,_,_,hg2,-,hPt2⟩:=h2.pts hNP0
 obtain⟨NP,hNP⟩:∃NP,NP=s.parts.length:=⟨_,rfl⟩
 have HNP:=zt hNP
 obtain⟨DL,hDL⟩:∃DL,DL=s.devs.length:=⟨_,rfl⟩
 have HDL:=zt hDL;have hNP72:NP≤72:=by rw[hNP];exact hsw.few
 have hDL8:DL≤8:=by rw[hDL];exact hsw.dfew
 have HSW:=zt hsw.part;rw[←hNP,←hDL]
 obtain⟨J,hJ⟩:∃J,J=s.jour:=⟨_,rfl⟩
 obtain⟨X,hX⟩:∃X,X=s.expo:=⟨_,rfl⟩
 rw[←hJ,←hX]
 obtain⟨W2,hW2⟩:∃W2,W2=(w.alloc (.cells #[.slice (some ⟨gd1,od1,none⟩) DL Cd1,.int .i64 (J:Nat),.slice (some ⟨g1,off1,none⟩) NP Cp1,.int .i64 (X:Nat),.bool s.ro] 32)).alloc (.cells #[.slice (some ⟨gd2,od2,none⟩) DL Cd2,.int .i64 (J:Nat),.slice (some ⟨g2,off2,none⟩) NP Cp2,.int .i64 (X:Nat),.bool s.ro] 32):=⟨_,rfl⟩
 have hb2:Below w.heap.size w W2:=by rw[hW2];exact jL w _ _
 have S1:zh W2 w.heap.size 32 #[.slice (some ⟨gd1,od1,none⟩) DL Cd1,.int .i64 (J:Nat),.slice (some ⟨g1,off1,none⟩) NP Cp1,.int .i64 (X:Nat),.bool s.ro]:=by rw[hW2];exact(zh.new w _ _).alloc _
 have S2:zh W2 (w.heap.size+1) 32 #[.slice (some ⟨gd2,od2,none⟩) DL Cd2,.int .i64 (J:Nat),.slice (some ⟨g2,off2,none⟩) NP Cp2,.int .i64 (X:Nat),.bool s.ro]:=by rw[hW2];exact zh.new_at (by simp)
 have HW:=zt hW2;clear hNP hDL hJ hX hW2 h1 h2 hsw;go_enter Tryz.func13,Tryz.ntmps13
 go_wp2
 rw[←HW.out]
 go_loopw [5] (λz wr=>∃(i:Nat),z= .int .i64 (i:Nat)∧i≤DL∧Below W2.heap.size W2 wr) (λz _=>DL-(intOf z).toNat)
 case atStart=>exact⟨0,rfl,Nat.zero_le _,Below.refl _ _⟩
 case round =>
  obtain⟨i,rfl,hi,Br⟩:=hrel;have T1:=S1.below Br S1.lt;have T2:=S2.below Br S2.lt;have c0:=T1.cell 0;have c2:=T1.cell 2;have d0:=T2.cell 0;have cl:=T1.lt;have dl:=T2.lt;simp only[qQ,qR,qS]at c0 c2 d0;by_cases hlt:i<DL
  ·have hint:(i:Int)<(DL:Int):=by omega
   have hil:i<s.devs.length:=by rw[←HDL.out];exact hlt
   have e1:=zc Br (zc hb2 (hdv1 i hil));have e2:=zc Br (zc hb2 (hdv2 i hil));have l1:gd1<wr.heap.size:=Nat.lt_of_lt_of_le hgd1 (Nat.le_trans hb2.size Br.size);have l2:gd2<wr.heap.size:=Nat.lt_of_lt_of_le hgd2 (Nat.le_trans hb2.size Br.size);generalize s.devs.getD i 0=dz at *
   go_wp2
   go_quiet (fail)
   go_wp2
   go_roundw
   case rel=>exact⟨i+1,by go_num,by omega,jp Br _⟩
   case measure=>simp[intOf];omega
  ·obtain rfl:DL=i:=by omega
   go_wp2
   clear c0 c2 d0 cl dl T1 T2
   go_loopw [6] (λz wr=>∃(i:Nat),z= .int .i64 (i:Nat)∧i≤NP∧Below W2.heap.size W2 wr) (λz _=>NP-(intOf z).toNat)
   case atStart=>exact⟨0,rfl,Nat.zero_le _,Br⟩
   case round =>
    obtain⟨i,rfl,hi,Bz⟩:=hrel;have T1:=S1.below Bz S1.lt;have T2:=S2.below Bz S2.lt;have c2:=T1.cell 2;have d2:=T2.cell 2;have cl:=T1.lt;have dl:=T2.lt;simp only[qQ,qR,qS]at c2 d2;by_cases hlt:i<NP
    ·have hint:(i:Int)<(NP:Int):=by omega
     have hil:i<s.parts.length:=by rw[←HNP.out];exact hlt
     have hpw:=HSW.out i hil;obtain⟨Ak1,Ck1,A21,C21,A31,C31,hc1,hk1,hy1,hr1⟩:=((hPt1.up hb2).up Bz).bytes hil;obtain⟨Ak2,Ck2,A22,C22,A32,C32,hc2,hk2,hy2,hr2⟩:=((hPt2.up hb2).up Bz).bytes hil;have hk4:=hpw.four;generalize hkd:s.parts[i].kids=kids at *;generalize s.parts[i].key=key at *;generalize s.parts[i].root=root at *;generalize s.parts[i].kind=K at *;generalize s.parts[i].size=S at *;generalize s.parts[i].dev=D at *;generalize s.parts[i].first=F at *;generalize s.parts[i].chunk=Ch at *
     obtain⟨KL,hKL⟩:∃KL,KL=kids.length:=⟨_,rfl⟩
     have HKL:=zt hKL;rw[←hKL]at hc1 hc2 hk4;have bw1:=zf wr (.cells #[.int .i64 (K:Nat),.int .i64 (S:Nat),.slice Ak1 KL Ck1,.int .i64 (D:Nat),.int .i64 (F:Nat),.int .i64 (Ch:Nat),.slice A21 key.length C21,.slice A31 root.length C31] 47)
     have hc2':∀j,j<8→(wr.alloc (.cells #[.int .i64 (K:Nat),.int .i64 (S:Nat),.slice Ak1 KL Ck1,.int .i64 (D:Nat),.int .i64 (F:Nat),.int .i64 (Ch:Nat),.slice A21 key.length C21,.slice A31 root.length C31] 47)).cell? ⟨g2,off2+i*8+j,none⟩=(#[.int .i64 (K:Nat),.int .i64 (S:Nat),.slice Ak2 KL Ck2,.int .i64 (D:Nat),.int .i64 (F:Nat),.int .i64 (Ch:Nat),.slice A22 key.length C22,.slice A32 root.length C32]:Array Value)[j]?:=λj hj=>by
      have lg:g2<wr.heap.size:=Nat.lt_of_lt_of_le hg2 (Nat.le_trans hb2.size Bz.size);exact(bw1.cell (p:=⟨g2,off2+i*8+j,none⟩) lg).trans (hc2 j hj)
     obtain⟨W4,hW4⟩:∃W4,W4=(wr.alloc (.cells #[.int .i64 (K:Nat),.int .i64 (S:Nat),.slice Ak1 KL Ck1,.int .i64 (D:Nat),.int .i64 (F:Nat),.int .i64 (Ch:Nat),.slice A21 key.length C21,.slice A31 root.length C31] 47)).alloc (.cells #[.int .i64 (K:Nat),.int .i64 (S:Nat),.slice Ak2 KL Ck2,.int .i64 (D:Nat),.int .i64 (F:Nat),.int .i64 (Ch:Nat),.slice A22 key.length C22,.slice A32 root.length C32] 47):=⟨_,rfl⟩
     have hb4:Below wr.heap.size wr W4:=by rw[hW4];exact jL wr _ _
     have Q1:zh W4 wr.heap.size 47 #[.int .i64 (K:Nat),.int .i64 (S:Nat),.slice Ak1 KL Ck1,.int .i64 (D:Nat),.int .i64 (F:Nat),.int .i64 (Ch:Nat),.slice A21 key.length C21,.slice A31 root.length C31]:=by rw[hW4];exact(zh.new wr _ _).alloc _
     have Q2:zh W4 (wr.heap.size+1) 47 #[.int .i64 (K:Nat),.int .i64 (S:Nat),.slice Ak2 KL Ck2,.int .i64 (D:Nat),.int .i64 (F:Nat),.int .i64 (Ch:Nat),.slice A22 key.length C22,.slice A32 root.length C32]:=by rw[hW4];exact zh.new_at (by simp)
     have up:∀k,k<wr.heap.size→k<wr.heap.size→W4.heap[k]?=wr.heap[k]?∧True:=λk hk _=>⟨hb4.block k hk,trivial⟩
     have HV1:=zt (Zw C21 (hy1.keep hb4.size up));have HV2:=zt (Zw C22 (hy2.keep hb4.size up));have HV3:=zt (Zw C31 (hr1.keep hb4.size up));have HV4:=zt (Zw C32 (hr2.keep hb4.size up));have hI1:=hk1.keep hb4.size up;have hI2:=hk2.keep hb4.size up;have HW4:=zt hW4;rw[hW4]at HV1 HV2 HV3 HV4;have hkt:=zr key;have hrt:=zr root;clear hKL hkd hpw hy1 hy2 hr1 hr2 hk1 hk2 hW4 up hc2
     go_wp2_with (first
      |((refine zg 75 rfl ?_)
        (refine ze (some 75) _ rfl (by rfl) (qj _ _ rfl g1 off1 i NP Cp1 rfl rfl hlt wr) ?_))
      |((refine zg 76 rfl ?_)
        (refine ze (some 76) (.agg #[.int .i64 (K:Nat),.int .i64 (S:Nat),.slice Ak1 KL Ck1,.int .i64 (D:Nat),.int .i64 (F:Nat),.int .i64 (Ch:Nat),.slice A21 key.length C21,.slice A31 root.length C31]) rfl (by rfl) (qF _ rfl g1 (off1+i*8) rfl wr hc1) ?_))
      |((refine zg 80 rfl ?_)
        (refine ze (some 80) _ rfl (by rfl) (qj _ _ rfl g2 off2 i NP Cp2 rfl rfl hlt _) ?_))
      |((refine zg 81 rfl ?_)
        (refine ze (some 81) (.agg #[.int .i64 (K:Nat),.int .i64 (S:Nat),.slice Ak2 KL Ck2,.int .i64 (D:Nat),.int .i64 (F:Nat),.int .i64 (Ch:Nat),.slice A22 key.length C22,.slice A32 root.length C32]) rfl (by rfl) (qF _ rfl g2 (off2+i*8) rfl _ hc2') ?_))
      |((refine zg 118 rfl ?_)
        (refine ze (some 118) (.string (bs key)) rfl (by rfl) (Zt _ rfl (.slice A21 key.length C21) rfl _ _ HV1.out) ?_))
      |((refine zg 121 rfl ?_)
        (refine ze (some 121) (.string (bs key)) rfl (by rfl) (Zt _ rfl (.slice A22 key.length C22) rfl _ _ HV2.out) ?_))
      |((refine zg 127 rfl ?_)
        (refine ze (some 127) (.string (bs root)) rfl (by rfl) (Zt _ rfl (.slice A31 root.length C31) rfl _ _ HV3.out) ?_))
      |((refine zg 130 rfl ?_)
        (refine ze (some 130) (.string (bs root)) rfl (by rfl) (Zt _ rfl (.slice A32 root.length C32) rfl _ _ HV4.out) ?_)))
     rw[←HW4.out];clear hc1 hc2' HV1 HV2 HV3 HV4;generalize hpb:wr.heap.size=pb at *;have hB4:Below W2.heap.size W2 W4:=Bz.trans (hb4.mono (by rw[←hpb];exact Bz.size))
     go_loopw [9] (λz wk=>∃(k:Nat),z= .int .i64 (k:Nat)∧k≤KL∧Below W4.heap.size W4 wk) (λz _=>KL-(intOf z).toNat)
     case atStart=>exact⟨0,rfl,Nat.zero_le _,Below.refl _ _⟩
     case round =>
      obtain⟨k,rfl,hk,Bk⟩:=hrel;have p2:=(Q1.below Bk Q1.lt).cell 2;have q2:=(Q2.below Bk Q2.lt).cell 2;have pl:=(Q1.below Bk Q1.lt).lt;have ql:=(Q2.below Bk Q2.lt).lt;simp only[qQ,qR,qS]at p2 q2;by_cases hkl:k<KL
      ·have hkl':k<kids.length:=by rw[←HKL.out];exact hkl
       have hki:(k:Int)<(KL:Int):=by omega
       have hne:kids≠ []:=λe=>by rw[e]at hkl';cases hkl'
       obtain⟨b1,o1,rfl,hb1',-,hkc1⟩:=hI1.resolve_left hne;obtain⟨b2,o2,rfl,hb2',-,hkc2⟩:=hI2.resolve_left hne;have f1:=zc Bk (hkc1 k hkl');have f2:=zc Bk (hkc2 k hkl');have m1:b1<wr.heap.size:=Nat.lt_of_lt_of_le hb1' Bk.size;have m2:b2<wr.heap.size:=Nat.lt_of_lt_of_le hb2' Bk.size;generalize kids[k]=kv at *
       go_wp2
       go_quiet (fail)
       go_wp2
       go_roundw
       case rel=>exact⟨k+1,by go_num,by omega,jp Bk _⟩
       case measure=>simp[intOf];omega
      ·obtain rfl:KL=k:=by omega
       go_wp2
       go_roundw
       case rel=>exact⟨i+1,by go_num,by omega,hB4.trans (Bk.mono hB4.size)⟩
       case measure=>simp[intOf];omega
    ·obtain rfl:NP=i:=by omega
     go_wp2
     go_ret
     exact⟨rfl,hb2.trans (Bz.mono hb2.size)⟩
end
section
abbrev Ua:=List (Tk×List UInt8)
def laid(L:Ua):List UInt8:=L.flatMap λp=>Qi p.1++p.2
def Zl(L:Ua):List Tk:=L.map Prod.fst
def places(a:Nat):Ua→zu
 | []=> []
 |p::L=>(p.1,a)::places (a+(Qi p.1).length+p.2.length) L
inductive Zk:Ua→Prop where
 |nil:Zk []
 |cons (t:Tk) (s:List UInt8) (L:Ua):yz t→(s= []∨s= [32]∨s= [10])→(t.kind=3∨s≠ []∨∃u b L',L=(u,b)::L'∧u.kind=3)→Zk L→Zk ((t,s)::L)
theorem VT{c:UInt8}(h:zN c=false):j4 c=false:=by
 unfold zN at h;rw[Bool.or_eq_false_iff]at h;exact h.1
theorem Uq{c:UInt8}(h:zN c=false):zn c=false:=by
 unfold zN at h;rw[Bool.or_eq_false_iff]at h;exact h.2
theorem FR{c:UInt8}(h:zN c=false):zq c=false:=by
 have h1:=VT h;have h2:=Uq h;unfold j4 zL at h1;unfold zq;rw[h2];simp at h1 ⊢;intro h3;have:=h1.1 h3;omega
theorem gr{u v v':List UInt8}{t:Tk}(h:one (u++v)= .ok (t,u.length))(kW:∀c,v'.head?=some c→zN c=false):one (u++v')= .ok (t,u.length):=by
 cases u with
 |nil=>have:=(ZT h).1;simp at this
 |cons c u =>
  simp only[List.cons_append]at h ⊢;simp only[one]at h ⊢
  split at h
  ·rename_i hc
   rw[if_pos hc]
   split at h
   ·cases h
   ·rename_i hl
    have hn:zy zN (c::(u++v))=(c::u).length:=by injection h with h;exact(Prod.mk.inj h).2
    obtain⟨a1,a2⟩:=Qt (u:=c::u) (v:=v) hn;have hn':zy zN (c::(u++v'))=(c::u).length:=K4 (u:=c::u) (v:=v') a1 kW;rw[hn]at h hl;rw[hn',if_neg hl];cases h;rw[←List.cons_append,List.take_left,←List.cons_append,List.take_left]
  ·rename_i hc
   rw[if_neg hc]
   split at h
   ·rename_i hf
    rw[if_pos hf]
    split at h
    ·cases h
    ·rename_i hl
     split at h
     ·cases h
     ·rename_i hlt
      have hn:zy zn (c::(u++v))=(c::u).length:=by injection h with h;exact(Prod.mk.inj h).2
      obtain⟨a1,a2⟩:=Qt (u:=c::u) (v:=v) hn;have hn':zy zn (c::(u++v'))=(c::u).length:=K4 (u:=c::u) (v:=v') a1 (λc hc=>Uq (kW c hc));rw[hn]at h hl hlt;rw[hn',if_neg hl];rw[←List.cons_append,List.drop_left]at hlt;have b2:∀c,v'.head?=some c→j4 c=false:=λc hc=>VT (kW c hc)
      rw[←List.cons_append,List.drop_left,Xo b2];cases h;rw[List.take_left,←List.cons_append,List.take_left];rfl
   ·rename_i hf
    rw[if_neg hf]
    split at h
    ·rename_i h36
     rw[if_pos h36]
     split at h
     ·cases h
     ·rename_i h0
      split at h
      ·cases h
      ·rename_i hl
       split at h
       ·cases h
       ·rename_i hlt
        have hn:zy zq (u++v)=u.length:=by injection h with h;have:=(Prod.mk.inj h).2;simpa using this
        obtain⟨a1,a2⟩:=Qt hn;have hn':zy zq (u++v')=u.length:=K4 a1 (λc hc=>FR (kW c hc));rw[hn]at h h0 hl hlt;rw[hn',if_neg h0,if_neg hl];rw[List.drop_left]at hlt;have b2:∀c,v'.head?=some c→j4 c=false:=λc hc=>VT (kW c hc)
        rw[List.drop_left,Xo b2];cases h;rw[List.take_left,List.take_left];rfl
    ·rename_i h36
     rw[if_neg h36]
     split at h
     ·rename_i hs
      rw[if_pos hs];exact h
     ·cases h
theorem g7{t:Tk}(h:yz t)(z:List UInt8)(hz:t.kind=3∨∀c,z.head?=some c→zN c=false):one (Qi t++z)= .ok (t,(Qi t).length):=by
 by_cases h3:t.kind=3
 ·obtain⟨c,e,hs,h1,h2,h4⟩:=h.sign h3
  obtain⟨k,s,n⟩:=t;simp only at h3 e;subst h3;have hn:n=0:=h.zero (by show(3:Nat)≠1;decide);subst hn;subst e;simp[Qi,one,hs,h1,h2,h4]
 ·rcases hz with h'|h'
  ·exact absurd h' h3
  ·exact gr (fD h []) h'
end
section
open Go.ChangeShapes Go.WideShapes Go.ChangeAt Go.RowKit
def yT:Nat→Nd→List UInt8
 |0,_=> []
 |f+1,n=>if n.op=jE∨n.op=qZ then n.s else if n.op=j0 then Lib.itoa n.n else n.op++ [40]++Lib.join (n.l.map (yT f)) [44,32]++ [41]
def KP:Nat→Nd→Prop
 |0,_=>False
 |f+1,n=>(n.op=jE∨n.op=qZ)∨(¬(n.op=jE∨n.op=qZ)∧n.op=j0∧vz n.n=true)∨(¬(n.op=jE∨n.op=qZ)∧n.op≠j0∧∀x ∈ n.l,KP f x)
def dZ(w:World):Prop:=Lib.TabIs Tryz.prog w "internal/strconv.uint64pow10" .u64 Lib.pow10Tab
theorem dZ.below{w w':World}(h:dZ w)(hb:Below w.heap.size w w'):dZ w':=by
 unfold dZ Lib.TabIs World.var? at h ⊢;generalize Tryz.prog.globalNamed "internal/strconv.uint64pow10" =G at h ⊢;cases G with
 |none=>simp at h
 |some g =>
  simp only[Option.bind_some]at h ⊢
  have hlt:g<w.heap.size:=by
   rcases Nat.lt_or_ge g w.heap.size with h'|h'
   ·exact h'
   ·rw[Array.getElem?_eq_none h']at h;cases h
  rw[hb.block g hlt];exact h
def Km(w:World)(base:Nat)(v:Value)(l:List (List UInt8)):Prop:=w.ownsRow base 9 1 v l.length (l.map λx=>Value.string (bs x))
theorem Km.nil(w:World)(base:Nat):Km w base (.slice none 0 0) []:=⟨rfl,.inl ⟨rfl,rfl⟩⟩
theorem Km.below{w w':World}{base:Nat}{v:Value}{l:List (List UInt8)}(h:Km w base v l)(hb:Below w.heap.size w w'):Km w' base v l:=
 zG h (λg o e ho=>(hb.block g (qu h e).1).trans ho)
theorem Km.slice{w:World}{base:Nat}{v:Value}{l:List (List UInt8)}(h:Km w base v l):∃A C,v= .slice A l.length C:=by
 rcases h.2 with⟨rfl,h0⟩|⟨g,cap,cur,rfl,_⟩
 ·exact⟨none,0,by rw[h0]⟩
 ·exact⟨_,_,rfl⟩
theorem zO{o:Oper}{a:Act}(x y:Operand)(ho:o.op= .binOp .add 9 x y 9)(p q:ByteArray)(hx:a.eval x= .string p)(hy:a.eval y= .string q)(hz:p.size+q.size≤4000000000)(w:World):(execOp a.eval o).run Tryz.prog w= .ok (.value (.string (p++q))) w:=by
 have h1:(p.size:Int)+(q.size:Int)≤4000000000:=by omega
 unfold execOp;simp only[ho,hx,hy];go_simp;omega
def Dx:Nat→Nd→Prop
 |0,_=>True
 |f+1,n=>n.l.length≤1000000000∧∀x ∈ n.l,Dx f x
def XB(n:Nd):List UInt8:=
 if n.op=zd∨n.op=zm then 32::Lib.itoa n.n
 else if n.op=qo∨n.op=zQ then[32,36]++(n.l.getD 0 (.mk [] [] 0 0 [])).s
 else if n.op=zv then[32,61,32]++yT 13 (n.l.getD 0 (.mk [] [] 0 0 []))
 else if n.op=zM∧n.n=1 then 32::jY
 else[]
def QH(n:Nd):List UInt8:=n.op++ [32]++n.s++XB n++ [59,10]
def printed(n:Nd):List UInt8:=n.l.flatMap QH
structure dL (n:Nd):Prop where
 s:n.s.length≤1000000000
 num:(n.op=zd∨n.op=zm)→vz n.n=true
 hex:(n.op=qo∨n.op=zQ)→∃m,n.l= [m]∧m.s.length≤1000000000
 vol:n.op=zv→∃m,n.l= [m]∧KP 13 m∧(yT 13 m).length≤1000000000∧Dx 13 m
end
section
def Gq{α:Type}(R:α→List Tk→Prop)(P:j2 α):Prop:=∀en ts,kV ts→∀x r,P en ts= .ok (x,r)→∃q,VS ts=q++VS r∧R x q∧kV r
theorem Gq.ret{α:Type}{R:α→List Tk→Prop}{x:α}(h:R x []):Gq R (jq x):=λen ts hg y r hy=>by cases hy;exact⟨[],rfl,h,hg⟩
theorem Gq.bind{α β:Type}{R:α→List Tk→Prop}{S:β→List Tk→Prop}{P:j2 α}{f:α→j2 β}(h:Gq R P)(hf:∀x q,R x q→Gq (λy q'=>S y (q++q')) (f x)):Gq S (zz P f):=by
 intro en ts hg y r hy;unfold zz at hy;cases hp:P en ts with
 |error e=>rw[hp]at hy;cases hy
 |ok z =>
  obtain⟨z,s⟩:=z;rw[hp]at hy;obtain⟨q,e1,h1,h2⟩:=h en ts hg z s hp;obtain⟨q',e2,h3,h4⟩:=hf z q h1 en s h2 y r hy;exact⟨q++q',by rw[e1,e2,List.append_assoc],h3,h4⟩
theorem Gq.take(p:Tk→Bool):Gq (λ(t:Tk×Nat) q=>q= [t.1]∧yz t.1∧p t.1=true) (zE p):=by
 intro en ts hg y r hy;have h1:=Ub hy;have h2:=Xe hy;subst h1;exact⟨[y.1],rfl,⟨rfl,hg _ (by simp),h2⟩,λt ht=>hg t (by simp[ht])⟩
theorem Gq.fork{α:Type}{R:α→List Tk→Prop}(p:Tk→Bool){P Q:j2 α}(h:Gq R P)(h':Gq R Q):Gq R (JX p P Q):=by
 intro en ts hg y r hy;unfold JX at hy
 split at hy
 ·exact h en ts hg y r hy
 ·exact h' en ts hg y r hy
theorem Gq.ite{α:Type}{R:α→List Tk→Prop}(c:Prop)[Decidable c]{P Q:j2 α}(h:c→Gq R P)(h':¬c→Gq R Q):Gq R (if c then P else Q):=by
 split
 ·exact h ‹_›
 ·exact h' ‹_›
theorem Gq.mono{α:Type}{R S:α→List Tk→Prop}{P:j2 α}(h:Gq R P)(hs:∀x q,R x q→S x q):Gq S P:=by
 intro en ts hg y r hy;obtain⟨q,e,h1,h2⟩:=h en ts hg y r hy;exact⟨q,e,hs _ _ h1,h2⟩
def vM(L:Ua):Prop:=∀u b rest,u.kind=3→Zk ((u,b)::rest)→Zk (L++(u,b)::rest)
def Fh(L:Ua):Prop:=L= []∨∃u b L',L=(u,b)::L'∧u.kind=3
theorem vM.nil:vM []:=λu b rest _ h=>h
theorem vM.word{t:Tk}(h:yz t):vM [(t,[])]:=λu b rest hu hr=> .cons t [] _ h (.inl rfl) (.inr (.inr ⟨u,b,rest,rfl,hu⟩)) hr
theorem vM.append{L M:Ua}(h:vM L)(hm:vM M)(hs:Fh M):vM (L++M):=by
 intro u b rest hu hr;rw[List.append_assoc];rcases hs with rfl|⟨v,c,M',rfl,hv⟩
 ·exact h u b rest hu hr
 ·exact h v c (M'++(u,b)::rest) hv (hm u b rest hu hr)
theorem vM.sign{t:Tk}{s:List UInt8}{L:Ua}(h:yz t)(h3:t.kind=3)(hs:s= []∨s= [32]∨s= [10])(hL:vM L):vM ((t,s)::L):=by
 intro u b rest hu hr;exact .cons t s _ h hs (.inl h3) (hL u b rest hu hr)
theorem vC(L M:Ua):laid (L++M)=laid L++laid M:=by simp[laid]
theorem vB(L M:Ua):Zl (L++M)=Zl L++Zl M:=by simp[Zl]
theorem jA(t:Tk)(s:List UInt8)(L:Ua):laid ((t,s)::L)=Qi t++(s++laid L):=by simp[laid]
theorem yC(t:Tk)(s:List UInt8)(L:Ua):Zl ((t,s)::L)=t::Zl L:=rfl
def Xh(c:UInt8):Tk:=⟨3,[c],0⟩
theorem Qp{t:Tk}{c:UInt8}(h:yz t)(hs:vN [c] t=true):t=Xh c:=by
 unfold vN at hs;simp only[Bool.and_eq_true,beq_iff_eq]at hs;obtain⟨k,s,n⟩:=t;simp only at hs;obtain⟨rfl,rfl⟩:=hs;have:=h.zero (by show(3:Nat)≠1;decide);simp only at this;subst this;rfl
theorem xT(c:UInt8)(h:Ze c=true):yz (Xh c):=by
 have h1:zL c=false∧zn c=false∧c≠36:=by
  simp[Ze]at h;rcases h with(((rfl|rfl)|rfl)|rfl)|rfl<;>decide
 exact⟨by show(3:Nat)≤3;decide,λe=>(by cases e),λe=>(by cases e),λe=>(by cases e),λ_=>⟨c,rfl,h,h1.1,h1.2.1,h1.2.2⟩,λ_=>rfl⟩
theorem QY(c:UInt8):Qi (Xh c)= [c]:=rfl
theorem yK{t:Tk}(h:t.kind=0):Qi t=t.s:=by unfold Qi;rw[if_neg (by omega),if_neg (by omega)]
theorem Z2{t:Tk}(h:jH t=true):t.kind=0∧xk t.s=false:=by
 unfold jH at h
 simpa using h
theorem D6(n:Nat):Lib.decDigits n=dg n:=by
 induction n using Nat.strongRecOn with
 |_ n ih =>
  rw[Lib.decDigits]
  split
  ·rename_i h;rw[xi h]
  ·rename_i h;rw[ih (n / 10) (by omega),←Zc h]
theorem XF(n:Nat):Lib.itoa (n:Int)=dg n:=by
 unfold Lib.itoa;rw[if_neg (by omega),Int.toNat_natCast,D6]
theorem Us{t:Tk}(h:yz t)(h3:t.kind≠3):∃a,xy (Qi t)=some (t,a):=by
 have hl:(Qi t).length≤2000:=by
  have hs:=h.short;unfold Qi
  split
  ·rename_i h1;have:=Kj 8 t.n (by have:=(h.num h1).2;simpa using this);omega
  ·split
   ·rename_i h2;have:=(h.hex h2).2.2;simp;omega
   ·omega
 have hL:Zk [(t,[10])]:= .cons t [10] [] h (.inr (.inr rfl)) (.inr (.inl (by simp))) .nil;have h1:=g7 h [] (.inr (λc hc=>by cases hc));rw[List.append_nil]at h1;have hs0:=Fp (GO h) [];rw[List.append_nil]at hs0;have hne:Qi t≠ []:=by intro e;rw[e]at h1;cases h1
 refine⟨0,?_⟩;unfold xy vX;rw[if_neg (by omega),Zo (by rw[hs0];exact hne) (by rw[hs0];exact h1) (by omega),hs0];have hf:1≤(Qi t).length:=(ZT h1).1
 obtain⟨f,hf'⟩:∃f,(Qi t).length=f+1:=⟨(Qi t).length-1,by omega⟩
 simp only[Nat.zero_add,Nat.add_zero,List.drop_length];rw[hf',ZX rfl];rfl
theorem Yd{t:Tk}(h:yz t)(hn:jH t=true):jn t.s=true:=by
 obtain⟨h0,h1⟩:=Z2 hn;obtain⟨a,ha⟩:=Us h (by omega);rw[yK h0]at ha;unfold jn;rw[ha];simp[hn]
theorem DH{t:Tk}(h:yz t)(h2:t.kind=2):JA t.s=true:=by
 obtain⟨a,ha⟩:=Us h (by omega);have e:Qi t=36::t.s:=by unfold Qi;rw[if_neg (by omega),if_pos h2]
 rw[e]at ha;unfold JA;rw[ha];simp[h2]
theorem kL{t:Tk}(h:yz t)(h1:t.kind=1):vz (t.n:Int)=true:=by
 have:=(h.num h1).2;unfold vz;simp;omega
end
section
def JQ(o:List UInt8):Bool:=o==zd||o==zm||o==qo||o==zQ||o==zv||o==zM||o==jE||o==qZ
def zs(o s:List UInt8):List UInt8:=if JQ o=true then 122::s else s
inductive ZR:Nd→Nd→Prop where
 |mk (o s:List UInt8) (n a:Int) (l l':List Nd):l.length=l'.length→(∀i (h:i<l.length) (h':i<l'.length),ZR l[i] l'[i])→(JQ o=true→s.length≤15)→ZR (.mk o s n a l) (.mk o (zs o s) n a l')
inductive ZL:List Nd→List Nd→Prop where
 |nil:ZL [] []
 |cons {x y:Nd} {l m:List Nd}:ZR x y→ZL l m→ZL (x::l) (y::m)
theorem ZL.of_get:∀ {l m:List Nd},l.length=m.length→(∀i (h:i<l.length) (h':i<m.length),ZR l[i] m[i])→ZL l m:=by
 intro l
 induction l with
 |nil =>
  intro m h _;cases m with
  |nil=>exact .nil
  |cons y m=>simp at h
 |cons x l ih =>
  intro m h hk;cases m with
  |nil=>simp at h
  |cons y m=>exact .cons (hk 0 (by simp) (by simp)) (ih (by simpa using h) λi h h'=>hk (i+1) (by simp;omega) (by simp;omega))
theorem ZL.len{l m:List Nd}(h:ZL l m):m.length=l.length:=by
 induction h with
 |nil=>rfl
 |cons _ _ ih=>simp[ih]
theorem yo{x y:Nd}(h:ZR x y):y.op=x.op:=by cases h;rfl
theorem yM{x y:Nd}(h:ZR x y):y.n=x.n:=by cases h;rfl
theorem QL{x y:Nd}(h:ZR x y):y.a=x.a:=by cases h;rfl
theorem xb{x y:Nd}(h:ZR x y):ZL x.l y.l:=by
 cases h with
 |mk o s n a l l' hl hk _=>exact ZL.of_get hl hk
theorem DW{x y:Nd}(h:ZR x y)(hn:JQ x.op=true):y.s=122::x.s∧x.s.length≤15:=by
 cases h with
 |mk o s n a l l' hl hk hs=>exact⟨if_pos hn,hs hn⟩
theorem kH{x y:Nd}(h:ZR x y)(hn:JQ x.op=false):y.s=x.s:=by
 cases h with
 |mk o s n a l l' hl hk hs=>exact if_neg (by rw[show JQ o=false from hn];decide)
theorem fs:ZR (.mk [] [] 0 0 []) (.mk [] [] 0 0 []):= .mk [] [] 0 0 [] [] rfl (λi h=>by cases h) (λh=>by cases h)
theorem xY{l m:List Nd}(h:ZL l m):∀k,ZR (vh l k) (vh m k):=by
 induction h with
 |nil=>intro k;exact fs
 |cons hx _ ih =>
  intro k;cases k with
  |zero=>exact hx
  |succ k=>exact ih k
theorem FU{x y:Nd}(h:ZR x y):ZL (jb x) (jb y):=by
 unfold jb;have:=xb h;generalize x.l=l at *;generalize y.l=m at *
 induction this with
 |nil=>exact ZL.nil
 |cons hx hl ih =>
  rename_i a b l m
  simp only[List.filter_cons,yo hx]
  split
  ·exact ZL.cons hx ih
  ·exact ih
theorem D5(s:List UInt8):xk (122::s)=false:=by simp[xk]
theorem Dv{s:List UInt8}(h:jn s=true)(hl:s.length≤15):jn (122::s)=true:=by
 have hw:∀c ∈ s,zN c=true:=by
  unfold jn at h;cases ht:xy s with
  |none=>rw[ht]at h;cases h
  |some t =>
   rw[ht]at h;simp only[Bool.and_eq_true,beq_iff_eq]at h
   have hg:yz t.1:=by
    unfold xy at ht
    split at ht
    ·rename_i t' hS
     cases ht;exact(vL hS).2 t (by simp)
    ·cases ht
   have:=(hg.word (Z2 h.1).1).2.1;rw[h.2]at this;exact this
 have hg:yz ⟨0,122::s,0⟩:=by
  refine⟨Nat.zero_le 3,λ_=>⟨⟨122,s,rfl,(by decide)⟩,λc hc=>?_,(by simp;omega)⟩,λe=>(by cases e),λe=>(by cases e),λe=>(by cases e),λ_=>rfl⟩;rcases List.mem_cons.1 hc with rfl|hc
  ·decide
  ·exact hw c hc
 exact Yd hg (by unfold jH;simp[D5])
theorem K9{x y:Nd}(h:ZR x y)(hn:JQ x.op=true)(hh:jn x.s=true):jn y.s=true:=by
 obtain⟨e,hl⟩:=DW h hn;rw[e];exact Dv hh hl
theorem kg{op:List UInt8}(h:0<(zw op).1.length):JQ op=false:=by
 rcases yV h with e|(e|e)|e|(e|e|e)<;>rw[e]<;>decide
theorem gF{re re':Nd→Bool}(hr:∀x y,ZR x y→re x=true→re' y=true)(k:Kd){x y:Nd}(h:ZR x y)(hp:qT re k x=true):qT re' k y=true:=by
 cases k with
 |ex=>exact hr x y h hp
 |nu =>
  simp only[qT,Bool.and_eq_true,beq_iff_eq,decide_eq_true_eq]at hp ⊢;obtain⟨⟨⟨h1,h2⟩,h3⟩,h4⟩:=hp;refine⟨⟨⟨(yo h).trans h1,(kH h (by rw[h1];decide)).trans h2⟩,by rw[yM h];exact h3⟩,by rw[(xb h).len];exact h4⟩
 |na =>
  simp only[qT,Bool.and_eq_true,beq_iff_eq,decide_eq_true_eq]at hp ⊢;obtain⟨⟨⟨h1,h2⟩,h3⟩,h4⟩:=hp;refine⟨⟨⟨(yo h).trans h1,K9 h (by rw[h1];decide) h2⟩,by rw[yM h];exact h3⟩,by rw[(xb h).len];exact h4⟩
theorem gq(d:Nat):∀x y,ZR x y→zF d x=true→zF d y=true:=by
 induction d with
 |zero=>intro x y _ h;cases h
 |succ d ih =>
  intro x y hz h;unfold zF at h ⊢;rw[yo hz,yM hz,(xb hz).len];simp only[Bool.and_eq_true]at h ⊢;refine⟨h.1,?_⟩;replace h:=h.2;by_cases hu:x.op=jE
  ·rw[if_pos hu]at h ⊢
   simp only[Bool.and_eq_true]at h ⊢;exact⟨K9 hz (by rw[hu];decide) h.1,h.2⟩
  ·rw[if_neg hu]at h ⊢
   simp only[Bool.and_eq_true]at h ⊢;have hi:=(yY h.2).1;refine⟨by rw[kH hz (kg hi)];exact h.1,?_⟩;replace h:=h.2;unfold je at h ⊢;rw[yo hz,(xb hz).len];simp only[Bool.and_eq_true,List.all_eq_true]at h ⊢;exact⟨h.1,λi hi=>gF ih _ (xY (xb hz) i) (h.2 i hi)⟩
theorem Ju{x:Nd}(h:qY x=true):JQ x.op=true:=by
 unfold qY at h;simp only[Bool.and_eq_true]at h;replace h:=h.2
 split at h
 ·rename_i e;rcases e with e|e<;>rw[e]<;>decide
 ·split at h
  ·rename_i e;rcases e with e|e<;>rw[e]<;>decide
  ·split at h
   ·rename_i e;rw[e];decide
   ·split at h
    ·rename_i e;rw[e];decide
    ·cases h
theorem kN{x y:Nd}(h:ZR x y)(hh:yu x=true):yu y=true∧y.s=x.s:=by
 unfold yu at hh ⊢;simp only[Bool.and_eq_true,beq_iff_eq,decide_eq_true_eq]at hh ⊢;obtain⟨⟨⟨h1,h2⟩,h3⟩,h4⟩:=hh;have e:=kH h (by rw[h1];decide);exact⟨⟨⟨⟨(yo h).trans h1,by rw[e];exact h2⟩,by rw[yM h];exact h3⟩,by rw[(xb h).len];exact h4⟩,e⟩
theorem Gv{x y:Nd}(hz:ZR x y)(h:qY x=true):qY y=true:=by
 have hn:=Ju h;unfold qY at h ⊢;rw[yo hz,yM hz,(xb hz).len];simp only[Bool.and_eq_true]at h ⊢;refine⟨K9 hz hn h.1,?_⟩;replace h:=h.2
 split
 ·rename_i e;rw[if_pos e]at h;exact h
 ·rename_i e;rw[if_neg e]at h
  split
  ·rename_i e;rw[if_pos e]at h
   simp only[Bool.and_eq_true]at h ⊢;exact⟨h.1,(kN (xY (xb hz) 0) h.2).1⟩
  ·rename_i e;rw[if_neg e]at h
   split
   ·rename_i e;rw[if_pos e]at h
    simp only[Bool.and_eq_true]at h ⊢;exact⟨h.1,gq 12 _ _ (xY (xb hz) 0) h.2⟩
   ·rename_i e;rw[if_neg e]at h
    split
    ·rename_i e;rw[if_pos e]at h;exact h
    ·rename_i e;rw[if_neg e]at h;exact h
theorem dW{l m:List Nd}(h:ZL l m)(ha:l.all qY=true):m.all qY=true:=by
 induction h with
 |nil=>rfl
 |cons hx hl ih =>
  simp only[List.all_cons,Bool.and_eq_true]at ha ⊢;exact⟨Gv hx ha.1,ih ha.2⟩
theorem fl{n m:Nd}(hz:ZR n m)(h:yj n=true):yj m=true:=by
 unfold yj at h ⊢;simp only[Bool.and_eq_true,beq_iff_eq,decide_eq_true_eq]at h ⊢;obtain⟨⟨⟨h1,h2⟩,h3⟩,h4⟩:=h;exact⟨⟨⟨dW (xb hz) h1,(yo hz).trans h2⟩,(kH hz (by rw[h2];decide)).trans h3⟩,(yM hz).trans h4⟩
theorem GX{l m:List Nd}(h:ZL l m):∀y ∈ m,∃x ∈ l,ZR x y:=by
 induction h with
 |nil=>intro y hy;cases hy
 |cons hx hl ih =>
  intro y hy;rcases List.mem_cons.1 hy with rfl|hy
  ·exact⟨_,List.mem_cons_self ..,hx⟩
  ·obtain⟨x,h1,h2⟩:=ih y hy
   exact⟨x,List.mem_cons_of_mem _ h1,h2⟩
theorem Ds{n:Nd}(h:xN n):∀ {m:Nd},ZR n m→xN m:=by
 induction h with
 |mk n h1 h2 ih =>
  intro m hz;refine .mk m (by rw[(xb hz).len];exact h1) λy hy=>?_
  obtain⟨x,hx,hxy⟩:=GX (xb hz) y hy;exact ih x hx hxy
theorem Dh{n:Nd}(h:Qh n):∀ {m:Nd},ZR n m→Qh m:=by
 induction h with
 |mk op s n a l h1 h2 h3 ih =>
  intro m hz
  have hm:∀y ∈ m.l,Qh y:=λy hy=>by
   obtain⟨x,hx,hxy⟩:=GX (xb hz) y hy;exact ih x hx hxy
  cases hz with
  |mk o s n a l l' hl hk hs =>
   refine .mk _ _ _ _ _ h1 ?_ hm;unfold zs
   split
   ·rename_i e;have:=hs e;simp;omega
   ·exact h2
def nz(ns:yq):yq:=ns.map λx=>(122::x.1,x.2)
theorem dM(ns:yq)(s:List UInt8):lk (nz ns) (122::s)=lk ns s:=by
 unfold lk nz
 induction ns with
 |nil=>rfl
 |cons x l ih =>
  simp only[List.map_cons,List.find?_cons];have e:((122:UInt8)::x.1==122::s)=(x.1==s):=by rw[Bool.eq_iff_iff];simp
  rw[e];cases x.1==s
  ·exact ih
  ·rfl
theorem GJ(ns:yq)(ws:List (List UInt8)):jN (nz ns) ws=jN ns ws:=by
 unfold jN nz
 induction ns with
 |nil=>rfl
 |cons x l ih =>
  simp only[List.map_cons,List.filter_cons]
  split
  ·simp[ih]
  ·exact ih
theorem Q3(ns:yq){x y:Nd}(h:ZR x y)(hn:JQ x.op=true)(ws:List (List UInt8)):qV (nz ns) y ws=qV ns x ws:=by
 unfold qV;rw[(DW h hn).1,dM,QL h]
theorem ko(ps:List Pt){x y:Nd}(h:ZR x y)(ks:List Nat):ym ps y ks=ym ps x ks:=by
 unfold ym;rw[yo h,QL h]
theorem Kz(ns:yq){x y:Nd}(h:ZR x y)(hn:JQ (vh x.l 1).op=true)(z:Nat)(ks:List Nat):qD (nz ns) y z ks=qD ns x z ks:=by
 unfold qD;rw[yo h,QL h,Q3 ns (xY (xb h) 1) hn,Q3 ns (xY (xb h) 1) hn]
theorem FB(ns:yq)(ps:List Pt){re:Nd→Bool}{x y:Nd}(h:ZR x y)(hp:je re x=true)(ks:List Nat):jy (nz ns) ps y ks=jy ns ps x ks:=by
 have n1:=yM (xY (xb h) 1);have n2:=yM (xY (xb h) 2);obtain⟨s1,s2,s3,s4⟩:=yY hp;unfold jy;rw[yo h,QL h,n1,n2,ko ps h];rcases yV s1 with e|e|e|e
 ·rw[if_pos e,if_pos e]
 ·have e1:¬x.op=qL:=by rcases e with e|e<;>rw[e]<;>decide
  rw[if_neg e1,if_neg e1,if_pos e,if_pos e]
 ·have e1:¬x.op=qL:=by rw[e];decide
  have e2:¬(x.op=qK∨x.op=ja):=by rw[e];decide
  rw[if_neg e1,if_neg e1,if_neg e2,if_neg e2,if_pos e,if_pos e]
 ·have hin:zw x.op=([.ex,.na],false):=by rcases e with e|e|e<;>rw[e]<;>rfl
  have hl:x.l.length=2:=by have:=s3 (by rw[hin]);rw[hin]at this;exact this
  have ha:=s4 1 (by omega);rw[hin]at ha;have ha':qT re .na (vh x.l 1)=true:=ha;simp only[qT,Bool.and_eq_true,beq_iff_eq]at ha';rw[Kz ns h (by rw[ha'.1.1.1];decide)]
theorem fZ{f g:List Pt→Nd→Except Er (Nat×List Pt)}{l m:List Nd}(h:ZL l m):(∀x ∈ l,∀y,ZR x y→∀ps,f ps y=g ps x)→∀ps,jg f ps m=jg g ps l:=by
 induction h with
 |nil=>intro _ ps;rfl
 |cons hx hl ih =>
  intro hf ps;unfold jg;rw[hf _ (List.mem_cons_self ..) _ hx];cases g ps _ with
  |error e=>rfl
  |ok r =>
   simp only;rw[ih (λx hx=>hf x (List.mem_cons_of_mem _ hx))]
theorem FI(ns:yq)(d:Nat):∀x y,ZR x y→zF d x=true→xN x→∀ps,jh (nz ns) d ps y=jh ns d ps x:=by
 induction d with
 |zero=>intro x y _ h;cases h
 |succ d ih =>
  intro x y h hr hl ps;unfold jh;rw[yo h,QL h];by_cases hu:x.op=jE
  ·rw[if_pos hu,if_pos hu,Q3 ns h (by rw[hu];decide)]
  ·rw[if_neg hu,if_neg hu]
   have hp:=xx hr hu;obtain⟨_,h2⟩:=Vo hp hl.len;rw[fZ (g:=jh ns d) (FU h) (λz hz y hzy ps=>ih z y hzy (h2 z hz) (hl.all z (List.mem_filter.1 hz).1) ps)];cases jg (jh ns d) ps (jb x)with
   |error e=>rfl
   |ok r=>simp only[FB ns r.2 h hp]
def DQ{α β:Type}(f:α→β):Except Er α→Except Er β
 | .error e=> .error e
 | .ok a=> .ok (f a)
def cz(c:Ck):Ck:={ c with names:=nz c.names }
theorem fv(c:Ck){x y:Nd}(h:ZR x y)(hr:qY x=true)(hl:xN x)(hx:¬x.op=zM):jJ (cz c) y=DQ (λp=>(cz p.1,p.2)) (jJ c x):=by
 have h0:=xY (xb h) 0;unfold jJ;simp only[yo h,QL h,yM h,cz,GJ];by_cases e1:x.op=zm
 ·rw[if_pos e1,if_pos e1]
  split
  ·rfl
  ·split
   ·rfl
   ·rfl
 ·rw[if_neg e1,if_neg e1]
  by_cases e2:x.op=zd
  ·rw[if_pos e2,if_pos e2]
   split
   ·rfl
   ·rfl
  ·rw[if_neg e2,if_neg e2]
   unfold qY at hr;simp only[Bool.and_eq_true]at hr;replace hr:=hr.2;rw[if_neg (by rintro(e|e);exact e2 e;exact e1 e)]at hr;by_cases e3:x.op=qo∨x.op=zQ
   ·rw[if_pos e3,if_pos e3]
    rw[if_pos e3]at hr;simp only[Bool.and_eq_true]at hr;rw[(kN h0 hr.2).2]
    split
    ·rfl
    ·rfl
   ·rw[if_neg e3,if_neg e3]
    rw[if_neg e3]at hr;by_cases e4:x.op=zv
    ·rw[if_pos e4]at hr
     simp only[Bool.and_eq_true,decide_eq_true_eq]at hr
     have hl0:xN (vh x.l 0):=by
      have hm:vh x.l 0 ∈ x.l:=by
       have :0<x.l.length:=by omega
       unfold vh;rw[List.getD_eq_getElem?_getD,List.getElem?_eq_getElem this];exact List.getElem_mem this
      exact hl.all _ hm
     rw[FI c.names 12 _ _ h0 hr.2 hl0];cases jh c.names 12 c.parts (vh x.l 0)with
     |error e=>rfl
     |ok r=>rfl
    ·rw[if_neg e4,if_neg hx]at hr
     cases hr
theorem DP(ns:yq)(op:List UInt8):full (nz ns) op=full ns op:=by
 unfold full;simp only[GJ]
theorem De(c:Ck){x y:Nd}(h:ZR x y)(hr:qY x=true)(hl:xN x):jx (cz c) y=DQ cz (jx c x):=by
 have hn:=Ju hr;unfold jx;by_cases hx:x.op=zM
 ·rw[if_pos ((yo h).trans hx),if_pos hx]
  unfold yi;rw[show(cz c).expo=c.expo from rfl,show(cz c).names=nz c.names from rfl,show(cz c).parts=c.parts from rfl,Q3 c.names h hn,QL h,yM h]
  split
  ·rfl
  ·cases qV c.names x [zd,zv]with
   |error e=>rfl
   |ok m=>rfl
 ·rw[if_neg (by rw[yo h];exact hx),if_neg hx]
  rw[show(cz c).names=nz c.names from rfl,(DW h hn).1,dM,DP,yo h,QL h,fv c h hr hl hx]
  split
  ·rfl
  ·split
   ·rfl
   ·cases jJ c x with
    |error e=>rfl
    |ok r =>
     obtain⟨c1,m⟩:=r;show Except.ok _=Except.ok _;unfold cz nz;simp
theorem gj{l m:List Nd}(h:ZL l m):(∀x ∈ l,qY x=true∧xN x)→∀c,jD (cz c) m=DQ cz (jD c l):=by
 induction h with
 |nil=>intro _ c;rfl
 |cons hx hl ih =>
  intro hr c;simp only[jD];obtain⟨r1,r2⟩:=hr _ (List.mem_cons_self ..);rw[De c hx r1 r2];cases jx c _ with
  |error e=>rfl
  |ok c1=>exact ih (λx hx=>hr x (List.mem_cons_of_mem _ hx)) c1
theorem FZ{l m:List Nd}(h:ZL l m):∀d,qh d m=qh d l:=by
 induction h with
 |nil=>intro d;rfl
 |cons hx hl ih=>intro d;simp only[qh,yo hx,yM hx,ih]
theorem dK{n m:Nd}(hz:ZR n m)(h:yj n=true)(hl:xN n):XR m=XR n:=by
 have ha:∀x ∈ n.l,qY x=true∧xN x:=by
  unfold yj at h;simp only[Bool.and_eq_true,List.all_eq_true]at h;exact λx hx=>⟨h.1.1.1 x hx,hl.all x hx⟩
 unfold XR;rw[FZ (xb hz)];have:=gj (xb hz) ha ⟨[],none,qh 0 n.l,none,false,0,[]⟩;rw[show cz ⟨[],none,qh 0 n.l,none,false,0,[]⟩=⟨[],none,qh 0 n.l,none,false,0,[]⟩from rfl]at this;rw[this];cases jD ⟨[],none,qh 0 n.l,none,false,0,[]⟩ n.l with
 |error e=>rfl
 |ok c=>rfl
theorem J5{n m:Nd}(hz:ZR n m)(h:yj n=true)(hl:xN n):jQ m=jQ n:=by
 unfold jQ;rw[if_pos h,if_pos (fl hz h),dK hz h hl]
end
section
open Go.ChangeShapes Go.WideShapes Go.ChangeAt Go.RowKit
theorem UM{w:World}{g t:Nat}{a b c d e:Value}(h:zh w g t #[a,b,c,d,e]):w.cell? ⟨g,0,none⟩=some a∧w.cell? ⟨g,1,none⟩=some b∧w.cell? ⟨g,2,none⟩=some c∧w.cell? ⟨g,3,none⟩=some d∧w.cell? ⟨g,4,none⟩=some e:=⟨h.cell 0,h.cell 1,h.cell 2,h.cell 3,h.cell 4⟩
end
end Go.Proofs.YtebcfkigbbolaaaGreatDoor
