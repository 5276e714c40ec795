import Derived.Test.YtgljdaakdpgpkaaGreatDoorJoint12
import Derived.Test.YtgljdaakdpgpkaaGreatDoorJoint00
import Derived.Test.YtgljdaakdpgpkaaGreatDoorJoint03
import Derived.Test.YtgljdaakdpgpkaaGreatDoorJoint10
import Derived.Test.YtgljdaakdpgpkaaGreatDoorJoint07
import Derived.BigQuiet
import Derived.Deep.QuietTactic
namespace Go.Proofs.YtgljdaakdpgpkaaGreatDoor
set_option linter.unusedVariables false
set_option maxRecDepth 100000
set_option maxHeartbeats 40000000
section
inductive AL:List Nd→List Nd→Prop where
 |nil:AL [] []
 |cons {x y:Nd} {l m:List Nd}:ZS x y→AL l m→AL (x::l) (y::m)
theorem AL.len{l m:List Nd}(h:AL l m):l.length=m.length:=by
 induction h with
 |nil=>rfl
 |cons _ _ ih=>simp[ih]
theorem AL.get{l m:List Nd}(h:AL l m):∀i (h1:i<l.length) (h2:i<m.length),ZS l[i] m[i]:=by
 induction h with
 |nil=>intro i h1;simp at h1
 |cons hx _ ih =>
  intro i h1 h2;cases i with
  |zero=>exact hx
  |succ i=>exact ih i (by simpa using h1) (by simpa using h2)
theorem ZS.of{o s:List UInt8}{n a b:Int}{l l':List Nd}(h:AL l l'):ZS (.mk o s n a l) (.mk o s n b l'):= .mk o s n a b l l' h.len h.get
theorem AL.append{l m l' m':List Nd}(h:AL l m)(h':AL l' m'):AL (l++l') (m++m'):=by
 induction h with
 |nil=>exact h'
 |cons hx _ ih=>exact .cons hx ih
theorem ZS.symm{x y:Nd}(h:ZS x y):ZS y x:=by
 induction h with
 |mk o s n a b l l' hl hk ih=>exact .mk o s n b a l' l hl.symm (λi h h'=>ih i h' h)
theorem AL.symm{l m:List Nd}(h:AL l m):AL m l:=by
 induction h with
 |nil=>exact .nil
 |cons hx _ ih=>exact .cons hx.symm ih
def UY(ts:zt):List Tk:=ts.map Prod.fst
def Lk{α β:Type}(R:α→β→Prop)(P:jY α)(Q:jY β):Prop:=∀en en' ts us,UY ts=UY us→∀x r,P en ts= .ok (x,r)→∃y s,Q en' us= .ok (y,s)∧R x y∧UY r=UY s
theorem Lk.ret{α β:Type}{R:α→β→Prop}{x:α}{y:β}(h:R x y):Lk R (jw x) (jw y):=by
 intro en en' ts us e x' r hx;cases hx;exact⟨y,us,rfl,h,e⟩
theorem Lk.bind{α β γ δ:Type}{R:α→β→Prop}{S:γ→δ→Prop}{P:jY α}{Q:jY β}{f:α→jY γ}{g:β→jY δ}(h:Lk R P Q)(hf:∀x y,R x y→Lk S (f x) (g y)):Lk S (zx P f) (zx Q g):=by
 intro en en' ts us e x r hx;unfold zx at hx;cases hp:P en ts with
 |error er=>rw[hp]at hx;cases hx
 |ok z =>
  obtain⟨z,t⟩:=z;rw[hp]at hx;obtain⟨y,s,hq,hr,e2⟩:=h en en' ts us e z t hp;obtain⟨y2,s2,hq2,hr2,e3⟩:=hf z y hr en en' t s e2 x r hx;refine⟨y2,s2,?_,hr2,e3⟩;unfold zx;rw[hq];exact hq2
theorem Lk.take(p:Tk→Bool):Lk (λt u:Tk×Nat=>t.1=u.1) (zB p) (zB p):=by
 intro en en' ts us e x r hx;cases ts with
 |nil=>cases hx
 |cons t ts =>
  cases us with
  |nil=>cases e
  |cons u us =>
   simp only[UY,List.map_cons,List.cons.injEq]at e;simp only[zB]at hx
   split at hx
   ·rename_i hp
    cases hx;exact⟨u,us,by simp only[zB];rw[←e.1,if_pos hp],e.1,e.2⟩
   ·cases hx
theorem Lk.fork{α β:Type}{R:α→β→Prop}(p:Tk→Bool){P P':jY α}{Q Q':jY β}(h:Lk R P Q)(h':Lk R P' Q'):Lk R (Vn p P P') (Vn p Q Q'):=by
 intro en en' ts us e x r hx
 have hc:je p ts=je p us:=by
  cases ts with
  |nil=>cases us with
   |nil=>rfl
   |cons u us=>cases e
  |cons t ts=>cases us with
   |nil=>cases e
   |cons u us=>simp only[UY,List.map_cons,List.cons.injEq]at e;simp only[je,e.1]
 unfold Vn at hx ⊢;rw[←hc]
 split at hx
 ·rename_i h0
  simp only[if_pos h0];exact h en en' ts us e x r hx
 ·rename_i h0
  simp only[if_neg h0];exact h' en en' ts us e x r hx
theorem Lk.ite{α β:Type}{R:α→β→Prop}(c:Prop)[Decidable c]{P P':jY α}{Q Q':jY β}(h:Lk R P Q)(h':Lk R P' Q'):Lk R (if c then P else P') (if c then Q else Q'):=by
 split
 ·exact h
 ·exact h'
def RL(x y:Int×List Nd):Prop:=x.1=y.1∧AL x.2 y.2
theorem gO{p:Tk→Bool}{en:Nat}{ts r:zt}{t:Tk×Nat}(h:zB p en ts= .ok (t,r)):ts=t::r:=by
 cases ts with
 |nil=>cases h
 |cons u us =>
  simp only[zB]at h
  split at h
  ·cases h;rfl
  ·cases h
theorem UH(f:Nat):∀(en:Nat) (ts r:zt) (l:List Nd),jF f en ts= .ok (l,r)→ts.length<f→r= []:=by
 induction f with
 |zero=>intro en ts r l h hf;omega
 |succ f ih =>
  intro en ts r l h hf;cases ts with
  |nil=>cases h;rfl
  |cons t ts =>
   rw[JI]at h;cases hs:qy en (t::ts)with
   |error e=>rw[hs]at h;cases h
   |ok x =>
    obtain⟨n,r1⟩:=x;rw[hs]at h;simp only at h;have h1:=Zz hs;cases hp:jF f en r1 with
    |error e=>rw[hp]at h;cases h
    |ok y =>
     obtain⟨l',r'⟩:=y;rw[hp]at h;cases h;exact ih en r1 r l' hp (by simp only[List.length_cons]at h1 hf;omega)
end
section
def yj{α:Type}(P:jY α):Prop:=∀en ts c k,P en ts= .error (c,k)→c≠0
theorem yj.ret{α:Type}(x:α):yj (jw x):=λen ts c k h=>by cases h
theorem yj.bind{α β:Type}{P:jY α}{f:α→jY β}(hP:yj P)(hf:∀x,yj (f x)):yj (zx P f):=by
 intro en ts c k h;unfold zx at h;cases hp:P en ts with
 |error e=>rw[hp]at h;cases h;exact hP en ts c k hp
 |ok y=>obtain⟨x,r⟩:=y;rw[hp]at h;exact hf x en r c k h
theorem yj.take(p:Tk→Bool):yj (zB p):=by
 intro en ts c k h;cases ts with
 |nil=>cases h;decide
 |cons t r=>simp only[zB]at h;split at h<;>cases h;decide
theorem yj.fork{α:Type}(p:Tk→Bool){P Q:jY α}(hP:yj P)(hQ:yj Q):yj (Vn p P Q):=by
 intro en ts c k h;unfold Vn at h
 split at h
 ·exact hP en ts c k h
 ·exact hQ en ts c k h
theorem yj.ite{α:Type}{P Q:jY α}(c:Prop)[Decidable c](hP:yj P)(hQ:yj Q):yj (if c then P else Q):=by
 split
 ·exact hP
 ·exact hQ
end
section
theorem QQ{x:List UInt8}{n:Nd}(h:vy x= .ok n):∃ts l,vK x= .ok ts∧jF 501 x.length ts= .ok (l,[])∧n= .mk ZM [] 0 0 l:=by
 unfold vy at h;cases hS:vK x with
 |error e=>rw[hS]at h;cases h
 |ok ts =>
  rw[hS]at h;simp only at h;cases hp:jF 501 x.length ts with
  |error e=>rw[hp]at h;cases h
  |ok y =>
   obtain⟨l,r⟩:=y;rw[hp]at h;cases h;have hl:=(yA hS).1;have hr:=UH 501 _ _ _ _ hp (by omega);subst hr;exact⟨ts,l,rfl,hp,rfl⟩
end
section
def F0(ts:zt):Prop:=∀t ∈ ts,Xf t.1
def Gp{α:Type}(R:α→Prop)(P:jY α):Prop:=∀en ts,F0 ts→∀x r,P en ts= .ok (x,r)→R x∧F0 r
theorem Gp.ret{α:Type}{R:α→Prop}{x:α}(h:R x):Gp R (jw x):=λen ts hg y r hy=>by cases hy;exact⟨h,hg⟩
theorem Gp.bind{α β:Type}{R:α→Prop}{S:β→Prop}{P:jY α}{f:α→jY β}(h:Gp R P)(hf:∀x,R x→Gp S (f x)):Gp S (zx P f):=by
 intro en ts hg y r hy;unfold zx at hy;cases hp:P en ts with
 |error e=>rw[hp]at hy;cases hy
 |ok z =>
  obtain⟨z,s⟩:=z;rw[hp]at hy;obtain⟨h1,h2⟩:=h en ts hg z s hp;exact hf z h1 en s h2 y r hy
theorem Gp.take(p:Tk→Bool):Gp (λt:Tk×Nat=>Xf t.1∧p t.1=true) (zB p):=by
 intro en ts hg y r hy;have h1:=gO hy;have h2:=gp hy;subst h1;exact⟨⟨hg _ (by simp),h2⟩,λt ht=>hg t (by simp[ht])⟩
theorem Gp.fork{α:Type}{R:α→Prop}(p:Tk→Bool){P Q:jY α}(h:Gp R P)(h':Gp R Q):Gp R (Vn p P Q):=by
 intro en ts hg y r hy;unfold Vn at hy
 split at hy
 ·exact h en ts hg y r hy
 ·exact h' en ts hg y r hy
theorem Gp.ite{α:Type}{R:α→Prop}(c:Prop)[Decidable c]{P Q:jY α}(h:Gp R P)(h':Gp R Q):Gp R (if c then P else Q):=by
 split
 ·exact h
 ·exact h'
theorem Xf.short{t:Tk}(h:Xf t):t.s.length≤1000:=by
 have hle:=h.le;by_cases h0:t.kind=0
 ·have:=(h.word h0).2.2;omega
 ·by_cases h1:t.kind=1
  ·rw[(h.num h1).1];simp
  ·by_cases h2:t.kind=2
   ·have:=(h.hex h2).2.2;omega
   ·obtain⟨c,e,_⟩:=h.sign (by omega)
    rw[e];simp
def vE(l:List Nd):Prop:=∀x ∈ l,Js x
theorem vE.nil:vE []:=λx h=>by cases h
theorem vE.cons{x:Nd}{l:List Nd}(h:Js x)(hl:vE l):vE (x::l):=λy hy=>by
 rcases List.mem_cons.1 hy with rfl|hy
 ·exact h
 ·exact hl y hy
theorem vE.append{l m:List Nd}(h:vE l)(hm:vE m):vE (l++m):=λy hy=>(List.mem_append.1 hy).elim (h y) (hm y)
theorem Yi{pe:jY Nd}(h:Gp Js pe)(k:Kd):Gp Js (xl pe k):=by
 cases k
 ·exact h
 ·exact(Gp.take _).bind λt ht=>Gp.ret (.mk _ _ _ _ _ (by decide) (by decide) vE.nil)
 ·exact(Gp.take _).bind λt ht=>Gp.ret (.mk _ _ _ _ _ (by decide) ht.1.short vE.nil)
theorem UF{pe:jY Nd}(h:Gp Js pe)(ks:List Kd):∀b,Gp vE (vW pe b ks):=by
 induction ks with
 |nil=>intro b;cases b<;>exact Gp.ret vE.nil
 |cons k ks ih =>
  intro b;cases b
  ·exact(Gp.take _).bind λ_ _=>(Yi h k).bind λ_ hx=>(ih false).bind λ_ hl=>Gp.ret (hl.cons hx)
  ·exact(Yi h k).bind λ_ hx=>(ih false).bind λ_ hl=>Gp.ret (hl.cons hx)
theorem Gv{pe:jY Nd}(h:Gp Js pe)(f:Nat):Gp vE (xi pe f):=by
 induction f with
 |zero=>exact Gp.ret vE.nil
 |succ f ih=>exact Gp.fork _ ((Gp.take _).bind λ_ _=>h.bind λ_ hx=>ih.bind λ_ hl=>Gp.ret (hl.cons hx)) (Gp.ret vE.nil)
theorem uR(d:Nat):Gp Js (zR d):=by
 induction d with
 |zero=>intro en ts hg x r hx;cases hx
 |succ d ih =>
  exact(Gp.take _).bind λt ht=>Gp.ite _ (Gp.ret (.mk _ _ _ _ _ (by decide) ht.1.short vE.nil))
   (((Gp.take _).bind λ_ _=>(UF ih _ _).bind λ_ hl=>(Gp.ite _ (Gv ih _) (Gp.ret vE.nil)).bind λ_ hm=>(Gp.take _).bind λ_ _=>Gp.ret (hl.append hm)).bind λ_ hl=>Gp.ret (.mk _ _ _ _ _ ht.1.short (by decide) hl))
theorem uw:Gp Js qy:=by
 refine(Gp.take _).bind λt ht=>(Gp.take _).bind λu hu=>?_
 have hr:Gp (λx:Int×List Nd=>vE x.2) (vN t.1.s):=by
  unfold vN
  exact Gp.ite _ ((Gp.take _).bind λ_ _=>Gp.ret vE.nil) (Gp.ite _ ((Gp.take _).bind λv hv=>Gp.ret (vE.nil.cons (.mk _ _ _ _ _ (by decide) hv.1.short vE.nil)))
   (Gp.ite _ ((Gp.take _).bind λ_ _=>(uR 12).bind λ_ hx=>Gp.ret (vE.nil.cons hx)) (Gp.fork _ ((Gp.take _).bind λ_ _=>Gp.ret vE.nil) (Gp.ret vE.nil))))
 exact hr.bind λx hx=>(Gp.take _).bind λ_ _=>Gp.ret (.mk _ _ _ _ _ ht.1.short hu.1.short hx)
theorem uD(f:Nat):Gp vE (jF f):=by
 induction f with
 |zero=>exact Gp.ret vE.nil
 |succ f ih =>
  have hb:Gp vE (zx qy λn=>zx (jF f) λl=>jw (n::l)):=uw.bind λ_ hx=>ih.bind λ_ hl=>Gp.ret (hl.cons hx)
  intro en ts hg x r hx;cases ts with
  |nil=>cases hx;exact⟨vE.nil,hg⟩
  |cons t ts=>exact hb en (t::ts) hg x r hx
theorem Qg{x:List UInt8}{n:Nd}(h:vy x= .ok n):Js n:=by
 obtain⟨ts,l,hS,hp,rfl⟩:=QQ h;exact .mk _ _ _ _ _ (by decide) (by decide) (uD 501 _ ts (yA hS).2 l [] hp).1
theorem Qh{x:List UInt8}{n:Nd}(h:vy x= .ok n):n.l.length≤500:=by
 obtain⟨ts,l,hS,hp,rfl⟩:=QQ h;have hl:=(yA hS).1
 have :∀(f en:Nat) (ts:zt) (l:List Nd) (r:zt),jF f en ts= .ok (l,r)→l.length≤ts.length:=by
  intro f
  induction f with
  |zero=>intro en ts l r h;cases h;simp
  |succ f ih =>
   intro en ts l r h;cases ts with
   |nil=>cases h;simp
   |cons t ts =>
    rw[JI]at h;cases hs:qy en (t::ts)with
    |error e=>rw[hs]at h;cases h
    |ok y =>
     obtain⟨n,r1⟩:=y;rw[hs]at h;have h1:=Zz hs;simp only at h;cases hp:jF f en r1 with
     |error e=>rw[hp]at h;cases h
     |ok z =>
      obtain⟨l',r'⟩:=z;rw[hp]at h;cases h;have:=ih _ _ _ _ hp;simp only[List.length_cons,List.singleton_append]at *;omega
 have:=this _ _ _ _ _ hp;show l.length≤500;omega
end
section
open Go.ChangeShapes Go.WideShapes Go.ChangeAt Go.RowKit
def DE:List UInt8:= [100,101,118,105,99,101,32,97,32,49,48,59,32,100,101,118,105,99,101,32,98,32,49,48,59,32,106,111,117,114,110,97,108,32,106,32,50,53,54,59,32,118,111,108,117,109,101,32,118,32,61,32,109,105,114,114,111,114,40,97,44,32,108,105,110,101,97,114,40,98,44,32,48,44,32,49,48,41,41,59,32,101,120,112,111,114,116,32,118,59]
def DH:Nd:= .mk qW [] 0 52 [.mk ye [97] 0 59 [],.mk qO [] 0 62 [.mk ye [98] 0 69 [],.mk vH [] 0 72 [],.mk vH [] 10 75 []]]
def gB:Nd:= .mk ZM [] 0 0 [.mk zd [97] 10 0 [],.mk zd [98] 10 13 [],.mk zj [106] 256 26 [],.mk zr [118] 0 41 [DH],.mk zH [118] 0 81 []]
def DC:Qe:=⟨[10,10,256],2,[⟨1,10,[],0,0,0,[],[]⟩,⟨1,10,[],1,0,0,[],[]⟩,⟨2,10,[1],0,0,0,[],[]⟩,⟨4,10,[0,2],0,0,0,[],[]⟩],3,false⟩
theorem QM:vy DE= .ok gB:=by kernel_rfl
theorem Gj:xm gB=true:=by kernel_rfl
theorem fK:V9 gB= .ok DC:=by kernel_rfl
theorem GX:qS gB= .ok DC:=by unfold qS;rw[if_pos Gj,fK]
def yp(l:List Nd):Prop:=∀x ∈ l,ZK x
theorem yp.nil:yp []:=λx h=>by cases h
theorem yp.cons{x:Nd}{l:List Nd}(h:ZK x)(hl:yp l):yp (x::l):=λy hy=>by
 rcases List.mem_cons.1 hy with rfl|hy
 ·exact h
 ·exact hl y hy
theorem yp.append{l m:List Nd}(h:yp l)(hm:yp m):yp (l++m):=λy hy=>(List.mem_append.1 hy).elim (h y) (hm y)
theorem xB(op s:List UInt8)(n a:Int):ZK (.mk op s n a []):= .mk _ (by simp[Nd.l]) (λx h=>by cases h)
def gQ(k:Nat)(l:List Nd):Prop:=yp l∧l.length≤k
theorem Y6{pe:jY Nd}(h:Gp ZK pe)(k:Kd):Gp ZK (xl pe k):=by
 cases k
 ·exact h
 ·exact(Gp.take _).bind λt ht=>Gp.ret (xB _ _ _ _)
 ·exact(Gp.take _).bind λt ht=>Gp.ret (xB _ _ _ _)
theorem UL{pe:jY Nd}(h:Gp ZK pe)(ks:List Kd):∀b,Gp (gQ ks.length) (vW pe b ks):=by
 induction ks with
 |nil=>intro b;cases b<;>exact Gp.ret ⟨yp.nil,Nat.le_refl _⟩
 |cons k ks ih =>
  intro b;cases b
  ·exact(Gp.take _).bind λ_ _=>(Y6 h k).bind λ_ hx=>(ih false).bind λ_ hl=>Gp.ret ⟨hl.1.cons hx,by have:=hl.2;simp;omega⟩
  ·exact(Y6 h k).bind λ_ hx=>(ih false).bind λ_ hl=>Gp.ret ⟨hl.1.cons hx,by have:=hl.2;simp;omega⟩
theorem GV{pe:jY Nd}(h:Gp ZK pe)(f:Nat):Gp (gQ f) (xi pe f):=by
 induction f with
 |zero=>exact Gp.ret ⟨yp.nil,Nat.le_refl _⟩
 |succ f ih=>exact Gp.fork _ ((Gp.take _).bind λ_ _=>h.bind λ_ hx=>ih.bind λ_ hl=>Gp.ret ⟨hl.1.cons hx,by have:=hl.2;simp;omega⟩) (Gp.ret ⟨yp.nil,Nat.zero_le _⟩)
theorem uo(d:Nat):Gp ZK (zR d):=by
 induction d with
 |zero=>intro en ts hg x r hx;cases hx
 |succ d ih =>
  exact(Gp.take _).bind λt ht=>Gp.ite _ (Gp.ret (xB _ _ _ _))
   (((Gp.take _).bind λ_ _=>(UL ih _ _).bind λ_ hl=>(Gp.ite (R:=gQ 501) _ (GV ih 501) (Gp.ret ⟨yp.nil,Nat.zero_le _⟩)).bind λ_ hm=>(Gp.take _).bind λ_ _=>Gp.ret (R:=λl=>yp l∧l.length≤600) ⟨hl.1.append hm.1,by have h1:=hl.2;have h2:=hm.2;have h3:=Jc t.1.s;rw[List.length_append];omega⟩).bind λ_ hl=>Gp.ret (.mk _ (by have:=hl.2;show _≤80000;simp only[Nd.l];omega) hl.1))
theorem uC:Gp ZK qy:=by
 refine(Gp.take _).bind λt ht=>(Gp.take _).bind λu hu=>?_
 have hr:Gp (λx:Int×List Nd=>gQ 1 x.2) (vN t.1.s):=by
  unfold vN
  exact Gp.ite _ ((Gp.take _).bind λ_ _=>Gp.ret ⟨yp.nil,Nat.zero_le _⟩) (Gp.ite _ ((Gp.take _).bind λv hv=>Gp.ret ⟨yp.nil.cons (xB _ _ _ _),Nat.le_refl _⟩)
   (Gp.ite _ ((Gp.take _).bind λ_ _=>(uo 12).bind λ_ hx=>Gp.ret ⟨yp.nil.cons hx,Nat.le_refl _⟩) (Gp.fork _ ((Gp.take _).bind λ_ _=>Gp.ret ⟨yp.nil,Nat.zero_le _⟩) (Gp.ret ⟨yp.nil,Nat.zero_le _⟩))))
 exact hr.bind λx hx=>(Gp.take _).bind λ_ _=>Gp.ret (.mk _ (by have:=hx.2;simp only[Nd.l];omega) hx.1)
theorem GT(f:Nat):Gp yp (jF f):=by
 induction f with
 |zero=>exact Gp.ret yp.nil
 |succ f ih =>
  have hb:Gp yp (zx qy λn=>zx (jF f) λl=>jw (n::l)):=uC.bind λ_ hx=>ih.bind λ_ hl=>Gp.ret (hl.cons hx)
  intro en ts hg x r hx;cases ts with
  |nil=>cases hx;exact⟨yp.nil,hg⟩
  |cons t ts=>exact hb en (t::ts) hg x r hx
theorem JM{x:List UInt8}{n:Nd}(h:vy x= .ok n):ZK n:=by
 have hs:=Qh h;obtain⟨ts,l,hS,hp,rfl⟩:=QQ h;exact .mk _ (by omega) (GT 501 _ ts (yA hS).2 l [] hp).1
theorem j6.rdn{w:World}{P:Nat→Prop}{n:Nd}{A:Option Addr}{C:Nat}(h:j6 w P n.l (.slice A n.l.length C))(hs:Js n):j0 w n A C:=
 ⟨h.rd hs.l,by have:=hs.s;unfold maxLen;omega,by have:=hs.op;unfold maxLen;omega⟩
def Du:Nd:= .mk [] [] 0 0 []
theorem fG(w:World):j0 w Du none 0:=⟨.mk [] [] none 0 rfl (Nat.le_refl _) (by omega) (λi h=>absurd h (Nat.not_lt_zero _)) (λi h=>absurd h (Nat.not_lt_zero _)) (λx h=>by cases h),by unfold maxLen;decide,by unfold maxLen;decide⟩
theorem FH:ZK Du:=xB _ _ _ _
theorem yW.pts{w:World}{B:Nat}{s:Qe}{vd vp:Value}(h:yW w B s vd vp)(hn:0<s.parts.length):∃g off C,vp= .slice (some ⟨g,off,none⟩) s.parts.length C∧s.parts.length≤C∧C≤maxLen∧g<w.heap.size∧B≤g∧yv w w.heap.size (some ⟨g,off,none⟩) s.parts:=by
 obtain⟨us,e1,hp,hin⟩:=h.prts;obtain⟨g,C,e,h1,h2,h3,h3',h4⟩:=Zq hp hn;refine⟨g,0,C,e,h1,h2,h3,h3',λi hi=>⟨g,0,us[i]'(by omega),rfl,h3,h3,λj hj=>?_,(hin i hi (by omega)).keep (Nat.le_refl _) (λk hk _=>⟨rfl,hk⟩)⟩⟩;rw[Nat.zero_add,h4 _ (by omega),QD _ us e1 i hi j hj]
theorem yv.two{w:World}{B g off:Nat}{ps:List Pt}(h:yv w B (some ⟨g,off,none⟩) ps){i:Nat}(hi:i<ps.length):w.cell? ⟨g,off+i*8,none⟩=some (.int .i64 (ps[i].kind:Nat))∧w.cell? ⟨g,off+i*8+1,none⟩=some (.int .i64 (ps[i].size:Nat)):=by
 obtain⟨g',off',u,e,_,_,hc,_⟩:=h i hi;cases e;exact⟨hc 0 (by decide),hc 1 (by decide)⟩
theorem fF:Js gB:=Qg QM
theorem fd:ZK gB:=JM QM
theorem Db(W:World)(A:Option Addr)(C:Nat)(h:j0 W gB A C):Calls Tryz.prog 8 #[.agg #[.string ⟨#[102,105,108,101]⟩,.string ⟨#[]⟩,.int .i64 0,.int .i64 0,.slice A 5 C]] W λe w'=>∃Ad Cd g o2 o3 off Cp,e= .returned (.tuple #[.agg #[.slice Ad 3 Cd,.int .i64 2,.slice (some ⟨g,off,none⟩) 4 Cp,.int .i64 3,.bool false],.int .i64 0,.int .i64 (-1)])∧Below W.heap.size W w'∧g<w'.heap.size∧Hid (o2=off+2*8)∧Hid (o3=off+3*8)∧w'.cell? ⟨g,o3+1,none⟩=some (.int .i64 10)∧w'.cell? ⟨g,o2,none⟩=some (.int .i64 2):=by
 have:=yq gB A C W h fd;rw[GX]at this;refine this.mono ?_;rintro e w' ⟨hb,vd,vp,rfl,hs⟩;obtain⟨Ad,Cd,rfl⟩:=yF hs.devs;obtain⟨g,off,Cp,rfl,_,_,hg,_,hP⟩:=hs.pts (by decide);exact⟨Ad,Cd,g,off+2*8,off+3*8,off,Cp,rfl,hb,hg,rfl,rfl,(hP.two (i:=3) (by decide)).2,(hP.two (i:=2) (by decide)).1⟩
theorem vj(w:World):Calls Tryz.prog 11 #[] w λe w'=>e= .returned (.bool true)∧Below w.heap.size w w':=by
 have hpa:Calls Tryz.prog 6 #[.string ⟨#[100,101,118,105,99,101,32,97,32,49,48,59,32,100,101,118,105,99,101,32,98,32,49,48,59,32,106,111,117,114,110,97,108,32,106,32,50,53,54,59,32,118,111,108,117,109,101,32,118,32,61,32,109,105,114,114,111,114,40,97,44,32,108,105,110,101,97,114,40,98,44,32,48,44,32,49,48,41,41,59,32,101,120,112,111,114,116,32,118,59]⟩] w λe w'=>∃A C,e= .returned (.tuple #[.agg #[.string ⟨#[102,105,108,101]⟩,.string ⟨#[]⟩,.int .i64 0,.int .i64 0,.slice A 5 C],.int .i64 0,.int .i64 (-1)])∧j0 w' gB A C∧Below w.heap.size w w':=by
  have:=Yg DE w (by decide);rw[QM]at this;refine this.mono ?_;rintro e w' ⟨hb,A,C,rfl,hn⟩;exact⟨A,C,rfl,hn.rdn fF,hb⟩
 go_enter Tryz.func11,Tryz.ntmps11
 go_wp2_with (first
  |((go_at_call 6)
    refine hpa.mono ?_;(rintro e w1 ⟨A,C,rfl,hr1,hb1⟩))
  |((go_at_call 8)
    refine(Db _ A C (hr1.grow (zh w1 _))).mono ?_;(rintro e w2 ⟨Ad,Cd,g,o2,o3,off,Cp,rfl,hb2,hg,HO2,HO3,d3,d2⟩))
  |((refine zb 43 rfl ?_)
    (refine zc (some 43) (.pointer (some ⟨g,o3,none⟩)) rfl (by rfl) (by rw[HO3.out];exact zJ _ _ rfl g off 3 4 Cp rfl rfl (by decide) _) ?_))
  |((refine zb 51 rfl ?_)
    (refine zc (some 51) (.pointer (some ⟨g,o2,none⟩)) rfl (by rfl) (by rw[HO2.out];exact zJ _ _ rfl g off 2 4 Cp rfl rfl (by decide) _) ?_)))
 go_ret
 have s1:=hb1.size;have s2:=hb2.size;simp at s2;exact⟨rfl,((hb1.alloc hb1.size _).trans (hb2.mono (by simp;omega))).alloc (by omega) _⟩
end
section
theorem Jd{α:Type}(P:List R3→Prop){g:List R3→Nat→α→List R3}(hg:∀o k a,P o→P (g o k a))(a:α)(l:List Nat):∀o,P o→P (l.foldl (λo k=>g o k a) o):=by
 induction l with
 |nil=>intro o h;exact h
 |cons k l ih=>intro o h;exact ih _ (hg _ _ _ h)
theorem J6(P:List R3→Prop){ps:List Pt}{g:List R3→Nat→Int→Int→List R3}(hg:∀o k f c,P o→P (g o k f c)){out:List R3}{p:Pt}{f c:Int}(ho:P out)(h1:p.kind=1→P (out++ [⟨p.dev,f,c⟩])):P (jO ps g out p f c):=by
 unfold jO;by_cases e1:p.kind=1
 ·rw[if_pos e1];exact h1 e1
 ·rw[if_neg e1]
  by_cases e2:p.kind=2
  ·rw[if_pos e2]
   exact Jd P (g:=λo k (a:Int×Int)=>g o k a.1 a.2) (λo k a h=>hg _ _ _ _ h) (f+p.first,c) _ _ ho
  ·rw[if_neg e2]
   by_cases e3:p.kind=4∨p.kind=6
   ·rw[if_pos e3]
    exact Jd P (g:=λo k (a:Int×Int)=>g o k a.1 a.2) (λo k a h=>hg _ _ _ _ h) (f,c) _ _ ho
   ·rw[if_neg e3]
    by_cases e4:p.kind=3
    ·rw[if_pos e4]
     have :∀(l:List Nat) (x:List R3×Int),P x.1→P (l.foldl (λ(x:List R3×Int) k=>(g x.1 k (max (f-x.2) 0) (min (f+c-x.2) (sz ps k)-max (f-x.2) 0),x.2+sz ps k)) x).1:=by
      intro l
      induction l with
      |nil=>intro x h;exact h
      |cons k l ih=>intro x h;exact ih _ (hg _ _ _ _ h)
     exact this _ _ ho
    ·rw[if_neg e4]
     by_cases e5:p.kind=5
     ·rw[if_pos e5];exact hg _ _ _ _ (hg _ _ _ _ ho)
     ·rw[if_neg e5]
      by_cases e6:p.kind=7∨p.kind=8
      ·rw[if_pos e6];exact hg _ _ _ _ ho
      ·rw[if_neg e6];exact ho
def kn(ps:List Pt)(r:R3):Prop:=∃i,i<ps.length∧(zz ps i).kind=1∧r.d=((zz ps i).dev:Nat)∧0≤r.f∧0<r.c∧r.f+r.c≤(sz ps i:Nat)
theorem Gh{ps:List Pt}(d:Nat):∀out k f c,(∀r ∈ out,kn ps r)→∀r ∈ jX ps d out k f c,kn ps r:=by
 induction d with
 |zero=>intro out k f c h;exact h
 |succ d ih =>
  intro out k f c h;by_cases hno:256<out.length∨qU ps k f c=false
  ·rw[xE hno];exact h
  ·have h1:¬256<out.length:=λe=>hno (.inl e)
   have h2:qU ps k f c=true:=by
    cases hb:qU ps k f c
    ·exact absurd (.inr hb) hno
    ·rfl
   rw[xD h1 h2];refine J6 (λo=>∀r ∈ o,kn ps r) ih h (λe r hr=>?_);rcases List.mem_append.1 hr with q|q
   ·exact h r q
   ·rw[List.mem_singleton.1 q]
    obtain⟨a,b,c',d'⟩:=vT h2;exact⟨k,a,e,rfl,b,c',d'⟩
theorem Ub{ps:List Pt}{p f c:Int}:∀r ∈ yM ps p f c,kn ps r:=by
 unfold yM
 split
 ·intro r h;cases h
 ·exact Gh _ _ _ _ _ (λr h=>by cases h)
theorem VR{ps:List Pt}(d:Nat):∀out k f c,out.length≤(jX ps d out k f c).length:=by
 induction d with
 |zero=>intro out k f c;exact Nat.le_refl _
 |succ d ih =>
  intro out k f c;by_cases hno:256<out.length∨qU ps k f c=false
  ·rw[xE hno];exact Nat.le_refl _
  ·have h1:¬256<out.length:=λe=>hno (.inl e)
   have h2:qU ps k f c=true:=by
    cases hb:qU ps k f c
    ·exact absurd (.inr hb) hno
    ·rfl
   rw[xD h1 h2];refine J6 (λo=>out.length≤o.length) (λo k f c h=>Nat.le_trans h (ih _ _ _ _)) (Nat.le_refl _) (λ_=>by simp)
theorem X9{ps:List Pt}{k:Nat}{f c:Int}(h1:k<ps.length)(h2:0≤f)(h3:0<c)(h4:f+c≤(sz ps k:Nat)):qU ps k f c=true:=by
 unfold qU;rw[decide_eq_true_eq,Int.toNat_natCast];omega
theorem GF{ps:List Pt}{g:List R3→Nat→Int→Int→List R3}{f c:Int}(hc:0<c)(hm:∀o k f c,o.length≤(g o k f c).length)(hn:∀(o:List R3) (k:Nat) (f c:Int),qU ps k f c=false→g o k f c=o)(l:List Nat)(hg:∀o:List R3,o.length≤256→∀k ∈ l,∀f c,qU ps k f c=true→o.length<(g o k f c).length)(hl:∀k ∈ l,k<ps.length):∀(o:List R3) (off:Int),o.length≤256→off≤f→f<off+((l.map (sz ps)).sum:Nat)→o.length<(l.foldl (λ(x:List R3×Int) k=>(g x.1 k (max (f-x.2) 0) (min (f+c-x.2) (sz ps k)-max (f-x.2) 0),x.2+sz ps k)) (o,off)).1.length:=by
 have mono:∀(l:List Nat) (x:List R3×Int),x.1.length≤(l.foldl (λ(x:List R3×Int) k=>(g x.1 k (max (f-x.2) 0) (min (f+c-x.2) (sz ps k)-max (f-x.2) 0),x.2+sz ps k)) x).1.length:=by
  intro l
  induction l with
  |nil=>intro x;exact Nat.le_refl _
  |cons k l ih=>intro x;rw[List.foldl_cons];exact Nat.le_trans (hm x.1 k _ _) (ih (_,_))
 induction l with
 |nil=>intro o off h1 h2 h3;simp at h3;omega
 |cons k l ih =>
  intro o off h1 h2 h3;rw[List.foldl_cons];simp only;by_cases hk:f<off+sz ps k
  ·have hh:qU ps k (max (f-off) 0) (min (f+c-off) (sz ps k)-max (f-off) 0)=true:=X9 (hl k (by simp)) (by omega) (by omega) (by omega)
   exact Nat.lt_of_lt_of_le (hg o h1 k (by simp) _ _ hh) (mono l (_,_))
  ·have hh:qU ps k (max (f-off) 0) (min (f+c-off) (sz ps k)-max (f-off) 0)=false:=by
    unfold qU;rw[decide_eq_false_iff_not,Int.toNat_natCast];omega
   rw[hn _ _ _ _ hh];refine ih (λo ho k hk=>hg o ho k (by simp[hk])) (λk hk=>hl k (by simp[hk])) o _ h1 (by omega) ?_;simp only[List.map_cons,List.sum_cons]at h3;omega
def QZ(ps:List Pt):Prop:=∀i (h:i<ps.length),ps[i].kind=1∨um (ps.take i) ps[i]
theorem uK{ps:List Pt}(hb:QZ ps)(d:Nat):∀k,k<d→∀out f c,out.length≤256→qU ps k f c=true→out.length<(jX ps d out k f c).length:=by
 induction d with
 |zero=>intro k h;omega
 |succ d ih =>
  intro k hkd out f c ho hh;rw[xD (by omega) hh];obtain⟨hk,hf,hc,hs⟩:=vT hh;have hs':f+c≤((zz ps k).size:Nat):=hs;have hbk:=hb k hk;have hp:=ju hk;rw[←hp]at hbk;generalize zz ps k=p at *;unfold jO;rcases hbk with e1|hbk
  ·rw[if_pos e1];simp
  ·have hkd2:∀j ∈ p.kids,j<d∧yn ps j:=λj hj=>by
    have:=QA (hbk.kids j hj);exact⟨by omega,this.2⟩
   have hsz:∀j ∈ p.kids,sz (ps.take k) j=sz ps j:=λj hj=>by
    have h1:=(hbk.kids j hj).1;have:=VN (ps.take k) (ps.drop k) h1;rw[List.take_append_drop]at this;exact this.symm
   have h0:p.kids.getD 0 0 ∈ p.kids:=yd (by have:=hbk.some';cases hq:p.kids;exact absurd hq this;simp)
   obtain⟨k0,r,hkr⟩:∃k0 r,p.kids=k0::r:=by
    cases hq:p.kids with
    |nil=>exact absurd hq hbk.some'
    |cons a b=>exact⟨a,b,rfl⟩
   have hk0:p.kids.getD 0 0=k0:=by rw[hkr];rfl
   have hd0:=hkd2 _ h0;rw[hk0]at hd0;have hz0:=hsz _ h0;rw[hk0]at hz0;have hgr:∀f' c':Int,0≤f'→0<c'→f'+c'≤(sz ps k0:Nat)→out.length<(jX ps d out k0 f' c').length:=λf' c' a1 a2 a3=>ih k0 hd0.1 out f' c' ho (X9 hd0.2.1 a1 a2 a3)
   have hfold:∀(l:List Nat) (o:List R3) (f' c':Int),o.length≤(l.foldl (λo k=>jX ps d o k f' c') o).length:=λl=>by
    induction l with
    |nil=>intro o f' c';exact Nat.le_refl _
    |cons a l ihl=>intro o f' c';exact Nat.le_trans (VR d _ _ _ _) (ihl _ _ _)
   have hkind:=hbk.kind;rw[if_neg (by omega)];by_cases e2:p.kind=2
   ·rw[if_pos e2,hkr,List.foldl_cons]
    have hlin:=hbk.lin e2;rw[hk0,hz0]at hlin;exact Nat.lt_of_lt_of_le (hgr _ _ (by omega) hc (by omega)) (hfold _ _ _ _)
   ·rw[if_neg e2]
    by_cases e3:p.kind=4∨p.kind=6
    ·rw[if_pos e3,hkr,List.foldl_cons]
     have hs0:sz ps k0=p.size:=by
      rcases e3 with e|e
      ·have:=hbk.mir e k0 (by rw[hkr];simp)
       rw[hz0]at this;exact this
      ·have:=hbk.cry e
       rw[hk0,hz0]at this;exact this
     exact Nat.lt_of_lt_of_le (hgr _ _ hf hc (by omega)) (hfold _ _ _ _)
    ·rw[if_neg e3]
     by_cases e4:p.kind=3
     ·rw[if_pos e4]
      have hcat:=hbk.cat e4;have hmap:p.kids.map (sz (ps.take k))=p.kids.map (sz ps):=List.map_congr_left hsz;rw[hmap]at hcat;refine GF hc (λo k f c=>VR d o k f c) (λo k f c h=>xE (.inr h)) p.kids (λo h1 j hj f' c' h2=>ih j (hkd2 j hj).1 o f' c' h1 h2) (λj hj=>(hkd2 j hj).2.1) out 0 ho hf ?_;rw[←hcat];omega
     ·rw[if_neg e4]
      by_cases e5:p.kind=5
      ·rw[if_pos e5,hk0]
       have hsn:=(hbk.snap e5).2;rw[hk0,hz0]at hsn;exact Nat.lt_of_lt_of_le (hgr _ _ hf hc (by omega)) (VR d _ _ _ _)
      ·rw[if_neg e5,if_pos (by omega),hk0]
       exact hgr _ _ (by omega) (by have:=hd0.2.2.1;omega) (by omega)
theorem Jt.built{l:List Nd}{c:Ck}(h:Jt l l c):QZ c.parts:=λi hi=>by
 rcases h.part hi with⟨j,x,_,_,q,_⟩|q
 ·left;rw[q]
 ·exact .inr q
theorem kL{ps:List Pt}(hb:QZ ps){k:Nat}(h:yn ps k):0<(yM ps k 0 (sz ps k)).length:=by
 have hh:=X9 (f:=0) (c:=(sz ps k:Nat)) h.1 (by omega) (by have:=h.2.1;omega) (by omega);unfold yM;rw[if_neg (by rw[hh];decide),Int.toNat_natCast];have:=uK hb ps.length k h.1 [] 0 (sz ps k:Nat) (by simp) hh
 simpa using this
end
section
theorem Q0{l:List Nd}(hst:∀x ∈ l,JB x)(r:List Nd):∀ {q:List Nd} {c c':Ck},l=q++r→Jt l q c→qL c r= .ok c'→Jt l l c':=by
 induction r with
 |nil =>
  intro q c c' e h hc;cases hc;rw[List.append_nil]at e;subst e;exact h
 |cons x r ih =>
  intro q c c' e h hc;simp only[qL]at hc;cases hs:qX c x with
  |error er=>rw[hs]at hc;cases hc
  |ok c1 =>
   rw[hs]at hc;exact ih (q:=q++ [x]) (by rw[e];simp) (h.step e (hst x (by rw[e];simp)) hs) hc
theorem Fq{n:Nd}{s:Qe}(hst:∀x ∈ n.l,JB x)(h:V9 n= .ok s):∃c,Jt n.l n.l c∧jK c= .ok s:=by
 unfold V9 at h;cases hc:qL ⟨[],none,zV 0 n.l,none,false,0,[]⟩ n.l with
 |error e=>rw[hc]at h;cases h
 |ok c =>
  rw[hc]at h;exact⟨c,Q0 hst n.l (q:= []) rfl (Jt.start n.l) hc,h⟩
structure PW (s:Qe) (i:Nat) (p:Pt):Prop where
 lo:1≤p.size
 hi:p.size≤8192
 kind:1≤p.kind∧p.kind≤8
 disk:p.kind=1→p.kids= []∧p.dev<s.devs.length∧p.dev≠s.jour∧s.devs.getD p.dev 0=p.size
 kids:∀k ∈ p.kids,k<i
 some':p.kind≠1→p.kids≠ []
 lin:p.kind=2→p.first+p.size≤sz s.parts (p.kids.getD 0 0)
 snap:p.kind=5→p.kids.length=2
 four:p.kids.length≤4
 fst:p.first≤8192
structure SW (s:Qe):Prop where
 jour:s.jour<s.devs.length
 expo:yn s.parts s.expo
 few:s.parts.length≤72
 dfew:s.devs.length≤8
 dsz:∀d ∈ s.devs,d≤2048
 part:∀i (h:i<s.parts.length),PW s i s.parts[i]
 wf:V8 s.parts
 reg:∀r ∈ yM s.parts s.expo 0 (sz s.parts s.expo),∃d:Nat,r.d=d∧d<s.devs.length∧d≠s.jour∧0≤r.f∧1≤r.c∧r.f+r.c≤(s.devs.getD d 0:Nat)
 some':0<(yM s.parts s.expo 0 (sz s.parts s.expo)).length
 le:(yM s.parts s.expo 0 (sz s.parts s.expo)).length≤256
 apart:ZQ (yM s.parts s.expo 0 (sz s.parts s.expo))=false
theorem Gz{l:List Nd}{c:Ck}(h:Jt l l c){j:Nat}{x:Nd}(hj:(l.filter vX)[j]?=some x)(hx:x.op=zd){J:Nat}(hJ:c.jour=some J):j<c.devs.length∧j≠J∧c.devs.getD j 0=x.n.toNat:=by
 have hlt:=(List.getElem?_eq_some_iff.1 hj).1;refine⟨by rw[h.devs,List.length_map];exact hlt,λe=>?_,?_⟩
 ·obtain⟨y,hy,ho⟩:=h.jour J hJ
  rw[←e,hj]at hy;cases hy;rw[hx]at ho;exact absurd ho (by decide)
 ·rw[h.devs,List.getD_eq_getElem?_getD,List.getElem?_map,hj]
  rfl
theorem fH{n:Nd}{s:Qe}(hst:∀x ∈ n.l,JB x)(h:V9 n= .ok s):SW s:=by
 obtain⟨c,hI,hw⟩:=Fq hst h;have hx0:=hI.expo;obtain⟨j,x,ej,ex,es⟩:=Z6 hw;have hx:=hx0 x ex;have hw':=hw;unfold jK at hw';rw[ej,ex]at hw';simp only at hw'
 have hpart:∀i (h:i<c.parts.length),PW s i c.parts[i]:=λi hi=>by
  rcases hI.part hi with⟨d,y,a,b,q,q1,q2⟩|q
  ·obtain⟨d1,d2,d3⟩:=Gz hI a b ej
   rw[q];refine⟨(by show 1≤y.n.toNat;omega),(by show y.n.toNat≤8192;omega),⟨Nat.le_refl _,(by show 1≤8;decide)⟩,λ_=>⟨rfl,by rw[es];exact d1,by rw[es];exact d2,by rw[es];exact d3⟩,(λk hk=>by cases hk),λe=>absurd rfl e,(λe=>by cases e),(λe=>by cases e),Nat.zero_le _,Nat.zero_le _⟩
  ·refine⟨q.lo,q.hi,⟨by have:=q.kind;omega,q.kind.2⟩,λe=>by have:=q.kind;omega,λk hk=>(QA (q.kids k hk)).1,λ_=>q.some',λe=>?_,λe=>(q.snap e).1,q.four,q.fst⟩
   have:=q.lin e;have h0:(c.parts[i]).kids.getD 0 0 ∈ (c.parts[i]).kids:=yd (by have:=q.one (.inl e);omega);have h1:=(q.kids _ h0).1;have h2:=VN (c.parts.take i) (c.parts.drop i) h1;rw[List.take_append_drop]at h2;rw[es,h2];exact this
 have hfew:c.parts.length≤72:=by
  have h1:=hI.few;have h2:=xU n.l 0;have h3:=hI.le8
  have h4:(n.l.filter yl).length≤(n.l.filter vX).length:=by
   have :∀l:List Nd,(l.filter yl).length≤(l.filter vX).length:=by
    intro l
    induction l with
    |nil=>exact Nat.le_refl _
    |cons y l ih =>
     simp only[List.filter_cons];by_cases q:y.op=zd
     ·rw[if_pos (GO q),if_pos (UU (.inl q))];simp;exact ih
     ·rw[kJ q]
      simp only[Bool.false_eq_true,if_false]
      split
      ·simp;omega
      ·exact ih
   exact this n.l
  omega
 have hreg:∀r ∈ yM c.parts x 0 (sz c.parts x),∃d:Nat,r.d=d∧d<c.devs.length∧d≠j∧0≤r.f∧1≤r.c∧r.f+r.c≤(c.devs.getD d 0:Nat):=λr hr=>by
  obtain⟨i,hi,hk,hd,h1,h2,h3⟩:=Ub r hr;rw[ju hi]at hk hd;have hp:=hpart i hi;obtain⟨_,p1,p2,p3⟩:=hp.disk hk;rw[es]at p1 p2 p3;refine⟨c.parts[i].dev,hd,p1,p2,h1,by omega,?_⟩;have :sz c.parts i=c.parts[i].size:=by unfold sz;rw[ju hi]
  rw[this]at h3;have p3':c.devs.getD c.parts[i].dev 0=c.parts[i].size:=p3;rw[p3'];exact h3
 have hJ:j<c.devs.length:=by
  obtain⟨y,hy,_⟩:=hI.jour j ej;rw[hI.devs,List.length_map];exact(List.getElem?_eq_some_iff.1 hy).1
 have hD:∀d ∈ c.devs,d≤2048:=λd hd=>by
  rw[hI.devs]at hd;obtain⟨y,hy,rfl⟩:=List.mem_map.1 hd;have:=hI.ok y hy;omega
 have hD8:c.devs.length≤8:=by rw[hI.devs,List.length_map];exact hI.le8
 split at hw'
 ·cases hw'
 ·rename_i h256
  split at hw'
  ·cases hw'
  ·rename_i hov
   subst es;exact⟨hJ,hx,hfew,hD8,hD,hpart,hI.wf,hreg,kL hI.built hx,Nat.le_of_not_lt h256,by simpa using hov⟩
theorem Zi{ns:vL}{n:Nd}{ws:List (List UInt8)}{e:Er}(h:qm ns n ws= .error e):e.1≠0:=by
 unfold qm at h
 split at h
 ·cases h;exact(by decide:(131:Nat)≠0)
 ·split at h
  ·cases h
  ·cases h;exact(by decide:(133:Nat)≠0)
theorem XC{ns:vL}{ps:List Pt}{n:Nd}{ks:List Nat}{e:Er}(h:jd ns ps n ks= .error e):e.1≠0:=by
 unfold jd vu qv at h
 repeat' split at h
 all_goals first
  |(cases h;done)
  |(cases h;exact(by decide:(135:Nat)≠0))
  |(cases h;exact(by decide:(134:Nat)≠0))
  |(cases h;exact(by decide:(139:Nat)≠0))
  |(rename_i hk;cases h;exact Zi hk)
theorem XS{f:List Pt→Nd→Except Er (Nat×List Pt)}(l:List Nd)(hf:∀x ∈ l,∀ps e,f ps x= .error e→e.1≠0):∀ps e,qG f ps l= .error e→e.1≠0:=by
 induction l with
 |nil=>intro ps e h;cases h
 |cons x l ih =>
  intro ps e h;unfold qG at h;cases h1:f ps x with
  |error e'=>rw[h1]at h;cases h;exact hf x (by simp) _ _ h1
  |ok y =>
   obtain⟨k,p1⟩:=y;rw[h1]at h;simp only at h;cases h2:qG f p1 l with
   |error e'=>rw[h2]at h;cases h;exact ih (λx hx=>hf x (by simp[hx])) _ _ h2
   |ok z=>rw[h2]at h;cases h
theorem KO{ns:vL}(d:Nat):∀ {n:Nd},U6 d n→∀ps e,qP ns d ps n= .error e→e.1≠0:=by
 induction d with
 |zero=>intro n hx;cases hx
 |succ d ih =>
  intro n hx ps e h;unfold qP at h;cases hx with
  |use _ _ hu =>
   rw[if_pos hu]at h;cases hk:qm ns n [zd,zr]with
   |error e'=>rw[hk]at h;cases h;exact Zi hk
   |ok m=>rw[hk]at h;cases h
  |mk _ _ hu hs hl =>
   rw[if_neg hu]at h;cases hc:qG (qP ns d) ps (jc n)with
   |error e'=>rw[hc]at h;cases h;exact XS _ (λx hx=>ih (hl x hx)) _ _ hc
   |ok y =>
    obtain⟨ks,p1⟩:=y;rw[hc]at h;simp only at h
    split at h
    ·cases h;exact(by decide:(137:Nat)≠0)
    ·cases hp:jd ns p1 n ks with
     |error e'=>rw[hp]at h;cases h;exact XC hp
     |ok p=>rw[hp]at h;cases h
theorem KH{c:Ck}{n:Nd}{e:Er}(hx:JB n)(hne:n.op≠zH)(h:jg c n= .error e):e.1≠0:=by
 unfold jg at h;by_cases e1:n.op=zj
 ·rw[if_pos e1]at h
  repeat' split at h
  all_goals first
   |(cases h;done)
   |(cases h;exact(by decide:(134:Nat)≠0))
   |(cases h;exact(by decide:(138:Nat)≠0))
 ·rw[if_neg e1]at h
  by_cases e2:n.op=zd
  ·rw[if_pos e2]at h
   split at h
   ·cases h;exact(by decide:(134:Nat)≠0)
   ·cases h
  ·rw[if_neg e2]at h
   by_cases e3:n.op=qj∨n.op=zS
   ·rw[if_pos e3]at h
    split at h
    ·cases h;exact(by decide:(135:Nat)≠0)
    ·cases h
   ·rw[if_neg e3]at h
    have e4:n.op=zr:=by
     rcases hx.word with e|e|e|e|e|e
     ·exact absurd e e2
     ·exact absurd e e1
     ·exact absurd (.inl e) e3
     ·exact absurd (.inr e) e3
     ·exact e
     ·exact absurd e hne
    cases hc:qP c.names 12 c.parts (jA n.l 0)with
    |error e'=>rw[hc]at h;cases h;exact KO 12 (hx.vol e4).2 _ _ hc
    |ok y=>obtain⟨k,ps⟩:=y;rw[hc]at h;cases h
theorem Km{c:Ck}{n:Nd}{e:Er}(hx:JB n)(h:qX c n= .error e):e.1≠0:=by
 unfold qX vw at h;by_cases e0:n.op=zH
 ·rw[if_pos e0]at h
  split at h
  ·cases h;exact(by decide:(138:Nat)≠0)
  ·cases hk:qm c.names n [zd,zr]with
   |error e'=>rw[hk]at h;cases h;exact Zi hk
   |ok m=>rw[hk]at h;cases h
 ·rw[if_neg e0]at h
  split at h
  ·cases h;exact(by decide:(132:Nat)≠0)
  ·split at h
   ·cases h;exact(by decide:(137:Nat)≠0)
   ·cases hs:jg c n with
    |error e'=>rw[hs]at h;cases h;exact KH hx e0 hs
    |ok y=>obtain⟨c1,m⟩:=y;rw[hs]at h;cases h
theorem Xg{l:List Nd}(hst:∀x ∈ l,JB x):∀c e,qL c l= .error e→e.1≠0:=by
 induction l with
 |nil=>intro c e h;cases h
 |cons x l ih =>
  intro c e h;simp only[qL]at h;cases hs:qX c x with
  |error e'=>rw[hs]at h;cases h;exact Km (hst x (by simp)) hs
  |ok c1=>rw[hs]at h;exact ih (λy hy=>hst y (by simp[hy])) _ _ h
theorem QV{n:Nd}(hl:ZK n){e:Er}(h:qS n= .error e):e.1≠0:=by
 unfold qS at h
 split at h
 ·rename_i hr
  have hst:=xV hr hl;unfold V9 at h;cases hc:qL ⟨[],none,zV 0 n.l,none,false,0,[]⟩ n.l with
  |error e'=>rw[hc]at h;cases h;exact Xg hst _ _ hc
  |ok c =>
   rw[hc]at h;replace h:jK c= .error e:=h;unfold jK at h;cases hj:c.jour with
   |none=>rw[hj]at h;cases h;exact(by decide:(138:Nat)≠0)
   |some j =>
    cases hx:c.expo with
    |none=>rw[hj,hx]at h;cases h;exact(by decide:(138:Nat)≠0)
    |some x =>
     rw[hj,hx]at h;simp only at h
     split at h
     ·cases h;exact(by decide:(137:Nat)≠0)
     ·split at h
      ·cases h;exact(by decide:(136:Nat)≠0)
      ·cases h
 ·cases h;exact(by decide:(111:Nat)≠0)
theorem Yt{n:Nd}(hl:ZK n){s:Qe}(h:qS n= .ok s):SW s:=by
 unfold qS at h
 split at h
 ·rename_i hr
  exact fH (xV hr hl) h
 ·cases h
end
section
open Go.ChangeShapes Go.WideShapes Go.ChangeAt Go.RowKit Go.MapKept
def PT(x:List UInt8):Nd:=match vy x with
 | .ok n=>n
 | .error _=>Du
theorem vt(x:List UInt8):ZK (PT x):=by
 unfold PT;cases h:vy x with
 |ok n=>exact JM h
 |error e=>exact FH
theorem K2(x:List UInt8)(w:World)(hx:x.length≤maxLen):Calls Tryz.prog 6 #[.string (bs x)] w λe w'=>∃(A:Option Addr) (C:Nat) (c k:Int),e= .returned (.tuple #[.agg (qa (PT x) (.slice A (PT x).l.length C)),.int .i64 c,.int .i64 k])∧j0 w' (PT x) A C∧Below w.heap.size w w'∧((∃n,vy x= .ok n∧c=0)∨((∃er,vy x= .error er)∧c≠0)):=by
 have:=Yg x w hx;unfold PT;cases h:vy x with
 |ok n =>
  rw[h]at this;refine this.mono ?_;rintro e w' ⟨hb,A,C,rfl,hn⟩;exact⟨A,C,0,-1,rfl,hn.rdn (Qg h),hb,.inl ⟨n,rfl,rfl⟩⟩
 |error er =>
  rw[h]at this;refine this.mono ?_;rintro e w' ⟨hb,c,k,hc,rfl⟩;exact⟨none,0,c,k,rfl,fG w',hb,.inr ⟨⟨er,rfl⟩,hc⟩⟩
theorem yW.dev{w:World}{B:Nat}{s:Qe}{vd vp:Value}(h:yW w B s vd vp)(hn:0<s.devs.length):∃g off C,vd= .slice (some ⟨g,off,none⟩) s.devs.length C∧s.devs.length≤C∧C≤maxLen∧g<w.heap.size∧∀d,d<s.devs.length→w.cell? ⟨g,off+d,none⟩=some (.int .i64 (s.devs.getD d 0:Nat)):=by
 obtain⟨g,C,e,h1,h2,h3,_,h4⟩:=Zq h.devs hn;refine⟨g,0,C,e,h1,h2,h3,λd hd=>?_⟩;rw[Nat.zero_add,h4 d (by omega),List.getElem?_map,List.getD_eq_getElem?_getD,List.getElem?_eq_getElem hd];rfl
theorem yv.all{w:World}{B g off:Nat}{ps:List Pt}(h:yv w B (some ⟨g,off,none⟩) ps){i:Nat}(hi:i<ps.length):∃Ak Ck A2 L2 C2 A3 L3 C3,(∀j,j<8→w.cell? ⟨g,off+i*8+j,none⟩=(#[.int .i64 (ps[i].kind:Nat),.int .i64 (ps[i].size:Nat),.slice Ak ps[i].kids.length Ck,.int .i64 (ps[i].dev:Nat),.int .i64 (ps[i].first:Nat),.int .i64 (ps[i].chunk:Nat),.slice A2 L2 C2,.slice A3 L3 C3]:Array Value)[j]?)∧xx w (λg=>g<B) Ak ps[i].kids∧ps[i].kids.length≤Ck∧Ck≤maxLen:=by
 obtain⟨g',off',u,e,_,_,hc,hin⟩:=h i hi;cases e;obtain⟨⟨A1,C1,e1,a1,b1,i1⟩,⟨A2,C2,e2,a2,b2,i2⟩,⟨A3,C3,e3,a3,b3,i3⟩⟩:=hin;refine⟨A1,C1,A2,ps[i].key.length,C2,A3,ps[i].root.length,C3,λj hj=>?_,i1,a1,b1⟩;have:=hc j hj;unfold Us at this;rw[e1,e2,e3]at this;exact this
end
section
def V6{α:Type}(D:Nat)(q:α)(l:List α):List α:=l.take D++q::l.drop D
def sg(D k:Nat):Nat:=if k<D then k else k+1
theorem YE{α:Type}{D:Nat}{q:α}{l:List α}(h:D≤l.length)(x:α):V6 D q (l++ [x])=V6 D q l++ [x]:=by
 unfold V6;rw[List.take_append_of_le_length h,List.drop_append_of_le_length h];simp
theorem gA{α:Type}{D:Nat}{q:α}{l:List α}(h:D≤l.length):(V6 D q l).length=l.length+1:=by
 unfold V6;simp;omega
theorem Vm{α:Type}{D:Nat}{q:α}{l:List α}(h:D≤l.length)(k:Nat):(V6 D q l)[sg D k]?=l[k]?:=by
 unfold V6 sg;by_cases hk:k<D
 ·rw[if_pos hk,List.getElem?_append_left (by simp;omega),List.getElem?_take,if_pos hk]
 ·rw[if_neg hk,List.getElem?_append_right (by simp;omega),List.length_take,Nat.min_eq_left h,show k+1-D=(k-D)+1 by omega,List.getElem?_cons_succ,List.getElem?_drop,show D+(k-D)=k by omega]
theorem KX{α:Type}{l:List α}{q:α}:V6 l.length q l=l++ [q]:=by
 unfold V6;simp
def xk(D:Nat)(p:Pt):Pt:={ p with kids:=p.kids.map (sg D) }
def TT(D:Nat)(q:Pt)(ps:List Pt):List Pt:=V6 D q (ps.map (xk D))
section
variable {D:Nat} {q:Pt}
theorem gR{ps:List Pt}(h:D≤ps.length)(p:Pt):TT D q (ps++ [p])=TT D q ps++ [xk D p]:=by
 unfold TT;rw[List.map_append,List.map_cons,List.map_nil,YE (by simpa using h)]
theorem xC{ps:List Pt}(h:D≤ps.length):(TT D q ps).length=ps.length+1:=by
 unfold TT;rw[gA (by simpa using h),List.length_map]
theorem F7{ps:List Pt}(h:D≤ps.length)(k:Nat):zz (TT D q ps) (sg D k)=xk D (zz ps k):=by
 unfold zz TT;rw[List.getD_eq_getElem?_getD,Vm (by simpa using h),List.getElem?_map,List.getD_eq_getElem?_getD];cases ps[k]?<;>rfl
theorem Zc{ps:List Pt}(h:D≤ps.length)(k:Nat):sz (TT D q ps) (sg D k)=sz ps k:=by
 unfold sz;rw[F7 h];rfl
theorem fm{ps:List Pt}(h:D≤ps.length):sg D ps.length=(TT D q ps).length:=by
 rw[xC h];exact if_neg (by omega)
def yc(o:List Bool)(p:Pt):List Bool:=o++ [vO o p]
theorem Q3{o o':List Bool}(h:∀k,o'.getD (sg D k) false=o.getD k false)(p:Pt):vO o' (xk D p)=vO o p:=by
 unfold vO xk;simp only
 have e:(if(p.kind==5)=true then(p.kids.map (sg D)).drop 1 else p.kids.map (sg D))=(if(p.kind==5)=true then p.kids.drop 1 else p.kids).map (sg D):=by
  split
  ·rw[List.map_drop]
  ·rfl
 rw[e,List.any_map]
 congr 1
 congr 1
 funext k
 exact h k
theorem Yq{o:List Bool}(h:D≤o.length)(k:Nat):(V6 D false o).getD (sg D k) false=o.getD k false:=by
 rw[List.getD_eq_getElem?_getD,Vm h,List.getD_eq_getElem?_getD]
theorem KP{o:List Bool}(h:o.length≤D)(k:Nat):o.getD (sg D k) false=o.getD k false:=by
 unfold sg;by_cases hk:k<D
 ·rw[if_pos hk]
 ·rw[if_neg hk,List.getD_eq_getElem?_getD,List.getD_eq_getElem?_getD,List.getElem?_eq_none (by omega),List.getElem?_eq_none (by omega)]
theorem X0(A:List Pt):∀o:List Bool,o.length+A.length≤D→(A.map (xk D)).foldl yc o=A.foldl yc o:=by
 induction A with
 |nil=>intro o _;rfl
 |cons p A ih =>
  intro o h;simp only[List.length_cons]at h;simp only[List.map_cons,List.foldl_cons]
  have e:yc o (xk D p)=yc o p:=by
   unfold yc;rw[Q3 (λk=>KP (by omega) k)]
  rw[e];exact ih _ (by unfold yc;simp;omega)
theorem Kk(B:List Pt):∀o:List Bool,D≤o.length→(B.map (xk D)).foldl yc (V6 D false o)=V6 D false (B.foldl yc o):=by
 induction B with
 |nil=>intro o _;rfl
 |cons p B ih =>
  intro o h;simp only[List.map_cons,List.foldl_cons]
  have e:yc (V6 D false o) (xk D p)=V6 D false (yc o p):=by
   unfold yc;rw[Q3 (λk=>Yq h k),YE h]
  rw[e];exact ih _ (by unfold yc;simp;omega)
theorem U2{ps:List Pt}(h:D≤ps.length)(hk:q.kind=1)(hq:q.kids= []):zF (TT D q ps)=V6 D false (zF ps):=by
 have e:zF=λps=>ps.foldl yc []:=rfl
 have hl:(zF (ps.take D)).length=D:=by rw[jx,List.length_take,Nat.min_eq_left h]
 unfold TT V6;rw[←List.map_take,←List.map_drop]
 conv=>lhs;rw[e]
 simp only[List.foldl_append,List.foldl_cons];rw[X0 (ps.take D) [] (by simp;omega)];have e2:(ps.take D).foldl yc []=zF (ps.take D):=rfl;rw[e2]
 have e3:yc (zF (ps.take D)) q=V6 D false (zF (ps.take D)):=by
  have :vO (zF (ps.take D)) q=false:=by
   unfold vO;rw[hk,hq];rfl
  unfold yc;rw[this];generalize zF (ps.take D)=o at hl;subst hl;exact KX.symm
 rw[e3,Kk _ _ (by omega)]
 have e4:(ps.drop D).foldl yc (zF (ps.take D))=zF ps:=by
  conv=>rhs;rw[←List.take_append_drop D ps]
  rw[e];simp only[List.foldl_append]
 rw[e4];rfl
theorem kB{ps:List Pt}(h:D≤ps.length)(hk:q.kind=1)(hq:q.kids= [])(k:Nat):(zF (TT D q ps)).getD (sg D k) false=(zF ps).getD k false:=by
 rw[U2 h hk hq,Yq (by rw[jx];exact h)]
def gm(D:Nat)(m:Mn):Mn:={ m with node:=if m.word=zd∨m.word=zr then sg D m.node else m.node }
def kb(D:Nat)(ns:vL):vL:=ns.map λx=>(x.1,gm D x.2)
def VC{α β:Type}(f:α→β):Except Er α→Except Er β
 | .error e=> .error e
 | .ok a=> .ok (f a)
theorem fk(ns:vL)(s:List UInt8):lk (kb D ns) s=(lk ns s).map (gm D):=by
 unfold lk kb
 induction ns with
 |nil=>rfl
 |cons x l ih =>
  simp only[List.map_cons,List.find?_cons];cases x.1==s
  ·exact ih
  ·rfl
theorem XR(ns:vL)(ws:List (List UInt8)):qY (kb D ns) ws=qY ns ws:=by
 unfold qY kb
 induction ns with
 |nil=>rfl
 |cons x l ih =>
  simp only[List.map_cons,List.filter_cons];rw[show(gm D x.2).word=x.2.word from rfl]
  split
  ·simp[ih]
  ·exact ih
theorem uS(ns:vL)(op:List UInt8):full (kb D ns) op=full ns op:=by
 unfold full;simp only[XR]
theorem QE(ns:vL)(n:Nd)(ws:List (List UInt8)):qm (kb D ns) n ws=VC (gm D) (qm ns n ws):=by
 unfold qm;rw[fk];cases lk ns n.s with
 |none=>rfl
 |some m =>
  simp only[Option.map_some];rw[show(gm D m).word=m.word from rfl]
  split<;>rfl
theorem Y9{ks:List Nat}(h:0<ks.length):(ks.map (sg D)).getD 0 0=sg D (ks.getD 0 0):=by
 cases ks with
 |nil=>cases h
 |cons a l=>rfl
theorem FZ{ks:List Nat}(h:1<ks.length):(ks.map (sg D)).getD 1 0=sg D (ks.getD 1 0):=by
 cases ks with
 |nil=>cases h
 |cons a l =>
  cases l with
  |nil=>simp at h
  |cons b l=>rfl
def Dt(di dv:Nat)(ns:vL)(n:Nd)(size:Nat)(ks:List Nat):Except Er Pt:=
 if n.op=jH then match qm ns (jA n.l 1) [qj]with
  | .error e=> .error e
  | .ok m=>if m.bytes.take 16=m.bytes.drop 16 then .error (135,n.a)else .ok ⟨6,size,ks,0,0,0,m.bytes,[]⟩
 else if n.op=qk then match qm ns (jA n.l 1) [qj]with
  | .error e=> .error e
  | .ok m=>if di=0 then .error (134,n.a)else .ok ⟨7,di,ks,0,0,0,m.bytes,[]⟩
 else match qm ns (jA n.l 1) [zS]with
  | .error e=> .error e
  | .ok m=>if dv=0 then .error (134,n.a)else .ok ⟨8,dv,ks,0,0,0,[],m.bytes⟩
theorem Qo(ns:vL)(n:Nd)(z:Nat)(ks:List Nat):qv ns n z ks=Dt (dI z) (dV z) ns n z ks:=rfl
theorem Dp(a b:Nat)(ns:vL)(n:Nd)(z:Nat)(ks:List Nat):Dt a b (kb D ns) n z (ks.map (sg D))=VC (xk D) (Dt a b ns n z ks):=by
 unfold Dt;rw[QE,QE]
 split
 ·cases qm ns (jA n.l 1) [qj]with
  |error e=>rfl
  |ok m =>
   simp only[VC];rw[show(gm D m).bytes=m.bytes from rfl]
   split<;>rfl
 ·split
  ·cases qm ns (jA n.l 1) [qj]with
   |error e=>rfl
   |ok m =>
    simp only[VC]
    split<;>rfl
  ·cases qm ns (jA n.l 1) [zS]with
   |error e=>rfl
   |ok m =>
    simp only[VC]
    split<;>rfl
theorem X8(ns:vL)(n:Nd)(z:Nat)(ks:List Nat):qv (kb D ns) n z (ks.map (sg D))=VC (xk D) (qv ns n z ks):=by
 rw[Qo,Qo,Dp]
theorem Xn{ps:List Pt}(h:D≤ps.length)(n:Nd){ks:List Nat}(hp:0<ks.length):vu (TT D q ps) n (ks.map (sg D))=VC (xk D) (vu ps n ks):=by
 unfold vu
 have e1:(ks.map (sg D)).map (sz (TT D q ps))=ks.map (sz ps):=by
  rw[List.map_map];exact List.map_congr_left λk _=>Zc h k
 have e2:(ks.map (sg D)).all (λk=>sz (TT D q ps) k==sz (TT D q ps) ((ks.map (sg D)).getD 0 0))=ks.all (λk=>sz ps k==sz ps (ks.getD 0 0)):=by
  rw[List.all_map,Y9 hp]
  congr 1
  funext k
  simp only[Function.comp,Zc h]
 rw[e1,e2,List.length_map,Y9 hp,Zc h]
 split
 ·rfl
 ·split
  ·split<;>rfl
  ·split<;>rfl
theorem gT{ps:List Pt}(h:D≤ps.length)(hk:q.kind=1)(hq:q.kids= [])(ns:vL){n:Nd}{ks:List Nat}(hs:xa n ks.length):jd (kb D ns) (TT D q ps) n (ks.map (sg D))=VC (xk D) (jd ns ps n ks):=by
 have hp:0<ks.length:=hs.pos;unfold jd;rw[Y9 hp,Zc h,Xn h n hp,X8];by_cases e1:n.op=qO
 ·rw[if_pos e1,if_pos e1]
  split<;>rfl
 ·rw[if_neg e1,if_neg e1]
  by_cases e2:n.op=qE∨n.op=qW
  ·rw[if_pos e2,if_pos e2]
  ·rw[if_neg e2,if_neg e2]
   by_cases e3:n.op=qi
   ·rw[if_pos e3,if_pos e3,FZ (by rw[hs.snap e3];decide),Zc h,kB h hk hq]
    split
    ·rfl
    ·split<;>rfl
   ·rw[if_neg e3,if_neg e3]
def GG(D:Nat)(q:Pt)(R':Except Er (Nat×List Pt))(k:Nat)(p1:List Pt):Prop:=R'= .ok (sg D k,TT D q p1)∨((∃a,R'= .error (137,a))∧64≤p1.length)
theorem g5{f f':List Pt→Nd→Except Er (Nat×List Pt)}(hf0:∀ps x k p1,f ps x= .ok (k,p1)→p1.length≤max 64 ps.length∧ps.length≤p1.length)(l:List Nd):(∀x ∈ l,∀ps k p1,D≤ps.length→f ps x= .ok (k,p1)→GG D q (f' (TT D q ps) x) k p1)→∀ps ks p1,D≤ps.length→qG f ps l= .ok (ks,p1)→qG f' (TT D q ps) l= .ok (ks.map (sg D),TT D q p1)∨((∃a,qG f' (TT D q ps) l= .error (137,a))∧64≤p1.length):=by
 induction l with
 |nil=>intro _ ps ks p1 _ h;cases h;exact .inl rfl
 |cons x l ih =>
  intro hf ps ks p1 hD h;unfold qG at h;cases h1:f ps x with
  |error e=>rw[h1]at h;cases h
  |ok r =>
   obtain⟨k,p2⟩:=r;rw[h1]at h;simp only at h;cases h2:qG f p2 l with
   |error e=>rw[h2]at h;cases h
   |ok r2 =>
    obtain⟨ks2,p3⟩:=r2;rw[h2]at h;cases h;have hl1:=(hf0 _ _ _ _ h1).2;have hl2:=(Z5 hf0 l _ _ _ h2).2;unfold qG;rcases hf x (by simp) ps k p2 hD h1 with e|⟨⟨a,e⟩,h64⟩
    ·rw[e]
     simp only;rcases ih (λy hy=>hf y (by simp[hy])) p2 ks2 p1 (by omega) h2 with e2|⟨⟨a,e2⟩,h64⟩
     ·rw[e2]
      exact .inl rfl
     ·rw[e2]
      exact .inr ⟨⟨a,rfl⟩,h64⟩
    ·rw[e]
     exact .inr ⟨⟨a,rfl⟩,by omega⟩
theorem Fh(hk:q.kind=1)(hq:q.kids= [])(ns:vL)(d:Nat):∀n,Uo d n→∀ps k p1,D≤ps.length→qP ns d ps n= .ok (k,p1)→GG D q (qP (kb D ns) d (TT D q ps) n) k p1:=by
 induction d with
 |zero=>intro n _ ps k p1 _ h;cases h
 |succ d ih =>
  intro n hn ps k p1 hD h;unfold qP at h ⊢;by_cases hu:n.op=ye
  ·rw[if_pos hu]at h ⊢
   rw[QE];cases hkn:qm ns n [zd,zr]with
   |error e=>rw[hkn]at h;cases h
   |ok m =>
    rw[hkn]at h;cases h;have hw:m.word=zd∨m.word=zr:=by simpa using(yB hkn).2
    left;show Except.ok ((gm D m).node,_)=_;rw[show(gm D m).node=sg D m.node from if_pos hw]
  ·rw[if_neg hu]at h ⊢
   cases hn with
   |use _ _ e=>exact absurd e hu
   |mk _ _ _ hs hl =>
    cases hc:qG (qP ns d) ps (jc n)with
    |error e=>rw[hc]at h;cases h
    |ok y =>
     obtain⟨ks,p2⟩:=y;rw[hc]at h;simp only at h;have hb:=Z5 (xW d) _ _ _ _ hc;have hkl:=JK _ _ _ _ _ hc
     split at h
     ·cases h
     ·rename_i h64
      cases hp:jd ns p2 n ks with
      |error e=>rw[hp]at h;cases h
      |ok p =>
       rw[hp]at h;cases h;rcases g5 (xW d) (jc n) (λx hx=>ih x (hl x hx)) ps ks p2 hD hc with e|⟨⟨a,e⟩,h6⟩
       ·rw[e]
        simp only;by_cases h7:64≤(TT D q p2).length
        ·rw[if_pos h7]
         rw[xC (by omega)]at h7;exact .inr ⟨⟨_,rfl⟩,by simp;omega⟩
        ·rw[if_neg h7,gT (by omega) hk hq ns (by rw[hkl];exact hs),hp]
         left;show Except.ok ((TT D q p2).length,TT D q p2++ [xk D p])=_;rw[←fm (by omega),gR (by omega)]
       ·rw[e]
        exact .inr ⟨⟨a,rfl⟩,by simp;omega⟩
end
end
section
section
variable {D:Nat} {q:Pt}
def cs(D:Nat)(q:Pt)(c:Ck):Ck:={ c with parts:=TT D q c.parts,names:=kb D c.names,expo:=c.expo.map (sg D) }
theorem FC(hk:q.kind=1)(hq:q.kids= []){c c2:Ck}{x:Nd}{m:Mn}(hx:JB x)(hne:x.op≠zH)(hD:D≤c.parts.length)(hdv:x.op=zd→qY c.names [zd]<D)(h:jg c x= .ok (c2,m)):(jg (cs D q c) x= .ok (cs D q c2,gm D m)∨((∃a,jg (cs D q c) x= .error (137,a))∧64≤c2.parts.length))∧c.parts.length≤c2.parts.length∧c2.names=c.names:=by
 unfold jg at h ⊢;by_cases e1:x.op=zj
 ·rw[if_pos e1]at h ⊢
  by_cases h1:256≤x.n∧x.n≤2048
  ·rw[if_neg (not_not_intro h1)]at h ⊢
   rw[show(cs D q c).jour=c.jour from rfl];by_cases h2:c.jour.isSome=true
   ·rw[if_pos h2]at h;cases h
   ·rw[if_neg h2]at h ⊢
    cases h;refine⟨.inl ?_,Nat.le_refl _,rfl⟩
    have e:gm D ⟨x.op,qY c.names [zd],[]⟩=⟨x.op,qY c.names [zd],[]⟩:=by
     unfold gm;rw[if_neg (show ¬(x.op=zd∨x.op=zr) by rw[e1];decide)]
    rw[e,show qY (cs D q c).names [zd]=qY c.names [zd]from XR _ _];rfl
  ·rw[if_pos h1]at h;cases h
 ·rw[if_neg e1]at h ⊢
  by_cases e2:x.op=zd
  ·rw[if_pos e2]at h ⊢
   by_cases h1:1≤x.n∧x.n≤2048
   ·rw[if_neg (not_not_intro h1)]at h ⊢
    cases h;refine⟨.inl ?_,Nat.le_refl _,rfl⟩
    have e:gm D ⟨x.op,qY c.names [zd],[]⟩=⟨x.op,qY c.names [zd],[]⟩:=by
     unfold gm;rw[if_pos (.inl e2)];unfold sg;rw[if_pos (hdv e2)]
    rw[e,show qY (cs D q c).names [zd]=qY c.names [zd]from XR _ _];rfl
   ·rw[if_pos h1]at h;cases h
  ·rw[if_neg e2]at h ⊢
   by_cases e3:x.op=qj∨x.op=zS
   ·rw[if_pos e3]at h ⊢
    by_cases h1:(jA x.l 0).s.length≠64
    ·rw[if_pos h1]at h;cases h
    ·rw[if_neg h1]at h ⊢
     cases h;refine⟨.inl ?_,Nat.le_refl _,rfl⟩
     have e:gm D ⟨x.op,0,jZ (jA x.l 0).s⟩=⟨x.op,0,jZ (jA x.l 0).s⟩:=by
      unfold gm;rw[if_neg (show ¬(x.op=zd∨x.op=zr) by rcases e3 with e|e<;>rw[e]<;>decide)]
     rw[e]
   ·rw[if_neg e3]at h ⊢
    have e4:x.op=zr:=by
     rcases hx.word with e|e|e|e|e|e
     ·exact absurd e e2
     ·exact absurd e e1
     ·exact absurd (.inl e) e3
     ·exact absurd (.inr e) e3
     ·exact e
     ·exact absurd e hne
    cases hc:qP c.names 12 c.parts (jA x.l 0)with
    |error e=>rw[hc]at h;cases h
    |ok y =>
     obtain⟨k,ps⟩:=y;rw[hc]at h;cases h;refine⟨?_,(xW 12 _ _ _ _ hc).2,rfl⟩;rcases Fh hk hq c.names 12 _ (hx.vol e4).2.ok c.parts k ps hD hc with e|⟨⟨a,e⟩,h6⟩
     ·left
      rw[show qP (cs D q c).names 12 (cs D q c).parts (jA x.l 0)=_ from e]
      have e5:gm D ⟨x.op,k,[]⟩=⟨x.op,sg D k,[]⟩:=by
       unfold gm;rw[if_pos (.inr e4)]
      rw[e5];rfl
     ·right
      rw[show qP (cs D q c).names 12 (cs D q c).parts (jA x.l 0)=_ from e];exact⟨⟨a,rfl⟩,h6⟩
theorem FM(hk:q.kind=1)(hq:q.kids= []){c c1:Ck}{x:Nd}(hx:JB x)(hD:D≤c.parts.length)(hdv:x.op=zd→qY c.names [zd]<D)(h:qX c x= .ok c1):(qX (cs D q c) x= .ok (cs D q c1)∨((∃a,qX (cs D q c) x= .error (137,a))∧64≤c1.parts.length))∧c.parts.length≤c1.parts.length∧∀y ∈ c1.names,y ∈ c.names∨y.1=x.s:=by
 unfold qX at h ⊢;by_cases e0:x.op=zH
 ·rw[if_pos e0]at h ⊢
  unfold vw at h ⊢;rw[show(cs D q c).expo.isSome=c.expo.isSome from Option.isSome_map]
  split at h
  ·cases h
  ·rename_i hs
   rw[if_neg hs];rw[show qm (cs D q c).names x [zd,zr]=_ from QE _ _ _];cases hkn:qm c.names x [zd,zr]with
   |error e=>rw[hkn]at h;cases h
   |ok m =>
    rw[hkn]at h;cases h;have hw:m.word=zd∨m.word=zr:=by simpa using(yB hkn).2
    refine⟨.inl ?_,Nat.le_refl _,λy hy=> .inl hy⟩;simp only[VC];rw[show(gm D m).node=sg D m.node from if_pos hw,show(zF (cs D q c).parts).getD (sg D m.node) false=(zF c.parts).getD m.node false from kB hD hk hq m.node];rfl
 ·rw[if_neg e0]at h ⊢
  rw[show lk (cs D q c).names x.s=(lk c.names x.s).map (gm D)from fk _ _,Option.isSome_map,show full (cs D q c).names x.op=full c.names x.op from uS _ _]
  split at h
  ·cases h
  ·rename_i h1
   rw[if_neg h1]
   split at h
   ·cases h
   ·rename_i h2
    rw[if_neg h2];cases hc:jg c x with
    |error e=>rw[hc]at h;cases h
    |ok y =>
     obtain⟨c2,m⟩:=y;rw[hc]at h;cases h;obtain⟨hg,hle,hn⟩:=FC hk hq hx e0 hD hdv hc;refine⟨?_,hle,λy hy=>?_⟩
     ·rcases hg with e|⟨⟨a,e⟩,h6⟩
      ·left
       rw[e];simp only;unfold cs kb;simp
      ·right
       rw[e];exact⟨⟨a,rfl⟩,h6⟩
     ·rcases List.mem_append.1 hy with hy|hy
      ·rw[hn]at hy;exact .inl hy
      ·rw[List.mem_singleton.1 hy];exact .inr rfl
theorem uq{l:List Nd}(hst:∀x ∈ l,JB x)(hk:q.kind=1)(hq:q.kids= [])(hDl:D=(l.filter yl).length)(r:List Nd):∀p c c1,l=p++r→Jt l p c→qL c r= .ok c1→(qL (cs D q c) r= .ok (cs D q c1)∨((∃a,qL (cs D q c) r= .error (137,a))∧64≤c1.parts.length))∧c.parts.length≤c1.parts.length∧∀y ∈ c1.names,y ∈ c.names∨∃x ∈ r,y.1=x.s:=by
 induction r with
 |nil=>intro p c c1 _ _ h;cases h;exact⟨.inl rfl,Nat.le_refl _,λy hy=> .inl hy⟩
 |cons x r ih =>
  intro p c c1 hl hI h;simp only[qL]at h;cases hc:qX c x with
  |error e=>rw[hc]at h;cases h
  |ok c2 =>
   rw[hc]at h;replace h:qL c2 r= .ok c1:=h;have hx:=hst x (by rw[hl];simp);obtain⟨rs,e1,_⟩:=Ue.parts hI;have hD:D≤c.parts.length:=by rw[e1,List.length_append,xU,←hDl];omega
   have hdv:x.op=zd→qY c.names [zd]<D:=λe=>by
    rw[Ue.dev hI,hDl,hl,List.filter_append,List.length_append,List.filter_cons,if_pos (GO e)];simp
   obtain⟨hg,hle,hnm⟩:=FM hk hq hx hD hdv hc;obtain⟨hg2,hle2,hnm2⟩:=ih (p++ [x]) c2 c1 (by rw[hl];simp) (hI.step hl hx hc) h;refine⟨?_,by omega,λy hy=>?_⟩
   ·simp only[qL]
    rcases hg with e|⟨⟨a,e⟩,h6⟩
    ·rw[e]
     exact hg2
    ·rw[e]
     exact .inr ⟨⟨a,rfl⟩,by omega⟩
   ·rcases hnm2 y hy with e|⟨z,hz,e⟩
    ·rcases hnm y e with e|e
     ·exact .inl e
     ·exact .inr ⟨x,by simp,e⟩
    ·exact .inr ⟨z,by simp[hz],e⟩
theorem Zk{α β:Type}{f g:α→β→α}(l:List β):(∀a,∀b ∈ l,f a b=g a b)→∀a,l.foldl f a=l.foldl g a:=by
 induction l with
 |nil=>intro _ a;rfl
 |cons b l ih =>
  intro h a;rw[List.foldl_cons,List.foldl_cons,h a b (by simp)];exact ih (λa c hc=>h a c (by simp[hc])) _
theorem UK{ps:List Pt}{g g':List R3→Nat→Int→Int→List R3}{p:Pt}(h:∀j ∈ p.kids,∀o f c,g o j f c=g' o j f c)(h5:p.kind=5→1<p.kids.length)(h7:(p.kind=7∨p.kind=8)→0<p.kids.length)(out:List R3)(f c:Int):jO ps g out p f c=jO ps g' out p f c:=by
 unfold jO;by_cases e1:p.kind=1
 ·rw[if_pos e1,if_pos e1]
 ·rw[if_neg e1,if_neg e1]
  by_cases e2:p.kind=2
  ·rw[if_pos e2,if_pos e2]
   exact Zk _ (λa b hb=>h b hb _ _ _) _
  ·rw[if_neg e2,if_neg e2]
   by_cases e3:p.kind=4∨p.kind=6
   ·rw[if_pos e3,if_pos e3]
    exact Zk _ (λa b hb=>h b hb _ _ _) _
   ·rw[if_neg e3,if_neg e3]
    by_cases e4:p.kind=3
    ·rw[if_pos e4,if_pos e4]
     exact congrArg Prod.fst (Zk _ (λa b hb=>by rw[h b hb]) _)
    ·rw[if_neg e4,if_neg e4]
     by_cases e5:p.kind=5
     ·rw[if_pos e5,if_pos e5,h _ (yd (k:=0) (by have:=h5 e5;omega)),h _ (yd (k:=1) (h5 e5))]
     ·rw[if_neg e5,if_neg e5]
      by_cases e6:p.kind=7∨p.kind=8
      ·rw[if_pos e6,if_pos e6,h _ (yd (k:=0) (h7 e6))]
      ·rw[if_neg e6,if_neg e6]
theorem Q1{ps:List Pt}(hb:QZ ps){k:Nat}(hk:k<ps.length):((zz ps k).kind=1∨∀j ∈ (zz ps k).kids,j<k)∧((zz ps k).kind=5→1<(zz ps k).kids.length)∧(((zz ps k).kind=7∨(zz ps k).kind=8)→0<(zz ps k).kids.length):=by
 rw[ju hk];rcases hb k hk with e|e
 ·rw[e]
  exact⟨.inl rfl,(λq=>absurd q (by decide)),(λq=>absurd q (by decide))⟩
 ·refine⟨.inr λj hj=>(QA (e.kids j hj)).1,λq=>by rw[(e.snap q).1];decide,λq=>?_⟩
  rw[e.one (by rcases q with q|q;exact .inr (.inr (.inl q));exact .inr (.inr (.inr q)))];decide
theorem uJ{ps:List Pt}(hb:QZ ps)(d:Nat):∀k,k<d→∀out f c,jX ps (d+1) out k f c=jX ps d out k f c:=by
 induction d with
 |zero=>intro k h;omega
 |succ d ih =>
  intro k hk out f c;by_cases hno:256<out.length∨qU ps k f c=false
  ·rw[xE hno,xE hno]
  ·have h1:¬256<out.length:=λe=>hno (.inl e)
   have h2:qU ps k f c=true:=by
    cases hb':qU ps k f c
    ·exact absurd (.inr hb') hno
    ·rfl
   rw[xD h1 h2,xD h1 h2];obtain⟨b1,b2,b3⟩:=Q1 hb (vT h2).1;rcases b1 with b1|b1
   ·unfold jO
    rw[if_pos b1,if_pos b1]
   ·exact UK (λj hj o f c=>ih j (by have:=b1 j hj;omega) o f c) b2 b3 _ _ _
theorem XF{ps:List Pt}(h:D≤ps.length)(k:Nat)(f c:Int):qU (TT D q ps) (sg D k:Nat) f c=qU ps k f c:=by
 unfold qU;rw[Int.toNat_natCast,Int.toNat_natCast,Zc h,xC h,decide_eq_decide]
 have :sg D k<ps.length+1↔k<ps.length:=by
  unfold sg
  split<;>omega
 omega
theorem fu{ps:List Pt}(hD:D≤ps.length){g g':List R3→Nat→Int→Int→List R3}{p:Pt}(h:∀j o f c,g' o (sg D j) f c=g o j f c)(h5:p.kind=5→1<p.kids.length)(h7:(p.kind=7∨p.kind=8)→0<p.kids.length)(out:List R3)(f c:Int):jO (TT D q ps) g' out (xk D p) f c=jO ps g out p f c:=by
 unfold jO;rw[show(xk D p).kind=p.kind from rfl,show(xk D p).kids=p.kids.map (sg D)from rfl,show(xk D p).first=p.first from rfl,show(xk D p).dev=p.dev from rfl];simp only[List.foldl_map,h,Zc hD];by_cases e1:p.kind=1
 ·rw[if_pos e1,if_pos e1]
 ·rw[if_neg e1,if_neg e1]
  by_cases e2:p.kind=2
  ·rw[if_pos e2,if_pos e2]
  ·rw[if_neg e2,if_neg e2]
   by_cases e3:p.kind=4∨p.kind=6
   ·rw[if_pos e3,if_pos e3]
   ·rw[if_neg e3,if_neg e3]
    by_cases e4:p.kind=3
    ·rw[if_pos e4,if_pos e4]
    ·rw[if_neg e4,if_neg e4]
     by_cases e5:p.kind=5
     ·rw[if_pos e5,if_pos e5,Y9 (by have:=h5 e5;omega),FZ (h5 e5),h,h,Zc hD]
     ·rw[if_neg e5,if_neg e5]
      by_cases e6:p.kind=7∨p.kind=8
      ·rw[if_pos e6,if_pos e6,Y9 (h7 e6),h,Zc hD]
      ·rw[if_neg e6,if_neg e6]
theorem fZ{ps:List Pt}(hb:QZ ps)(hD:D≤ps.length)(d:Nat):∀k out f c,jX (TT D q ps) d out (sg D k) f c=jX ps d out k f c:=by
 induction d with
 |zero=>intro k out f c;rfl
 |succ d ih =>
  intro k out f c;by_cases hno:256<out.length∨qU ps k f c=false
  ·rw[xE hno,xE (by rw[XF hD];exact hno)]
  ·have h1:¬256<out.length:=λe=>hno (.inl e)
   have h2:qU ps k f c=true:=by
    cases hb':qU ps k f c
    ·exact absurd (.inr hb') hno
    ·rfl
   rw[xD h1 h2,xD h1 (by rw[XF hD];exact h2),F7 hD];obtain⟨_,b2,b3⟩:=Q1 hb (vT h2).1;exact fu hD (λj o f c=>ih j o f c) b2 b3 _ _ _
theorem fJ{ps:List Pt}(hb:QZ ps)(hD:D≤ps.length){k:Nat}(hk:k<ps.length)(f c:Int):yM (TT D q ps) (sg D k:Nat) f c=yM ps k f c:=by
 unfold yM;rw[XF hD,Int.toNat_natCast,Int.toNat_natCast,xC hD,fZ hb hD,uJ hb _ _ hk]
theorem Uv(l:List Nd):∀d,(zV d l).map (xk D)=zV d l:=by
 induction l with
 |nil=>intro d;rfl
 |cons x l ih =>
  intro d;simp only[zV]
  split
  ·rw[List.map_cons,ih];rfl
  ·split
   ·exact ih _
   ·exact ih _
end
def xv(nm:List UInt8)(N:Nat):Nd:= .mk zd nm (N:Nat) 0 []
def vk(n:Nd)(nm:List UInt8)(N:Nat):Nd:= .mk n.op n.s n.n n.a (n.l++ [xv nm N])
def yO(n:Nd):Nat:=(n.l.filter yl).length
def qN(n:Nd)(N:Nat):Pt:=⟨1,N,[],jz n.l,0,0,[],[]⟩
def jm(n:Nd)(N:Nat)(s:Qe):Qe:=⟨s.devs++ [N],s.jour,TT (yO n) (qN n N) s.parts,sg (yO n) s.expo,s.ro⟩
theorem Gd{n:Nd}(hst:∀x ∈ n.l,JB x){s:Qe}(h:V9 n= .ok s)(h8:s.devs.length<8){nm:List UInt8}{N:Nat}(hN:1≤N∧N≤2048)(hnm:∀x ∈ n.l,x.s≠nm):yO n≤s.parts.length∧(V9 (vk n nm N)= .ok (jm n N s)∨((∃a,V9 (vk n nm N)= .error (137,a))∧64≤s.parts.length)):=by
 have hD0:yO n=(zV 0 n.l).length:=(xU n.l 0).symm
 have hdk:zV 0 (vk n nm N).l=TT (yO n) (qN n N) (zV 0 n.l):=by
  show zV 0 (n.l++ [xv nm N])=_;rw[JQ]
  have e:zV (0+jz n.l) [xv nm N]= [qN n N]:=by
   show(if(xv nm N).op=zd then _ else _)=_;rw[if_pos (show(xv nm N).op=zd from rfl),Nat.zero_add];rfl
  rw[e];unfold TT;rw[Uv,hD0,KX]
 unfold V9 at h ⊢;rw[hdk];rw[show(vk n nm N).l=n.l++ [xv nm N]from rfl];cases hc:qL ⟨[],none,zV 0 n.l,none,false,0,[]⟩ n.l with
 |error e=>rw[hc]at h;cases h
 |ok c =>
  rw[hc]at h;replace h:jK c= .ok s:=h;obtain⟨hg,hle,hnms⟩:=uq (q:=qN n N) hst rfl rfl rfl n.l [] _ c rfl (Jt.start n.l) hc;have hI:=Q0 hst n.l (q:= []) rfl (Jt.start n.l) hc;obtain⟨j,x,ej,ex,es⟩:=Z6 h;have hpl:yO n≤c.parts.length:=by rw[hD0];exact hle
  have hxo:=Ue.expo hI x ex;rw[show s.parts=c.parts by rw[es]];refine⟨hpl,?_⟩;rw[Qp];rcases hg with e|⟨⟨a,e⟩,h6⟩
  ·left
   replace e:qL ⟨[],none,TT (yO n) (qN n N) (zV 0 n.l),none,false,0,[]⟩ n.l= .ok (cs (yO n) (qN n N) c):=e;rw[e]
   have hlk:lk (cs (yO n) (qN n N) c).names nm=none:=by
    show lk (kb _ _) nm=none;rw[fk];cases hl:lk c.names nm with
    |none=>rfl
    |some m =>
     rcases hnms _ (U4 hl)with q|⟨y,hy,q⟩
     ·cases q
     ·exact absurd q.symm (hnm y hy)
   have hfu:full (cs (yO n) (qN n N) c).names zd=false:=by
    show full (kb _ _) zd=false;rw[uS];unfold full;rw[if_pos (.inl rfl),Ue.dj hI];have h9:c.devs.length<8:=by rw[es]at h8;exact h8
    rw[Ue.devs hI,List.length_map]at h9;rw[beq_eq_false_iff_ne];omega
   have hst2:qX (cs (yO n) (qN n N) c) (xv nm N)= .ok { cs (yO n) (qN n N) c with devs:=c.devs++ [N],names:=(cs (yO n) (qN n N) c).names++ [(nm,⟨zd,qY (cs (yO n) (qN n N) c).names [zd],[]⟩)] }:=by
    unfold qX;rw[if_neg (show ¬(xv nm N).op=zH from(by decide:¬zd=zH))];rw[show lk (cs (yO n) (qN n N) c).names (xv nm N).s=none from hlk,show full (cs (yO n) (qN n N) c).names (xv nm N).op=false from hfu];simp only[Option.isSome_none,Bool.false_eq_true,if_false];unfold jg;rw[if_neg (show ¬(xv nm N).op=zj from(by decide:¬zd=zj)),if_pos (show(xv nm N).op=zd from rfl),if_neg (by show ¬ ¬(1≤((N:Nat):Int)∧((N:Nat):Int)≤2048);omega)];rfl
   simp only;rw[hst2];simp only;unfold jK at h ⊢;rw[ej,ex]at h;simp only at h;rw[show(cs (yO n) (qN n N) c).jour=some j from ej,show(cs (yO n) (qN n N) c).expo=some (sg (yO n) x) by show c.expo.map _=_;rw[ex];rfl];simp only;rw[show(cs (yO n) (qN n N) c).parts=TT (yO n) (qN n N) c.parts from rfl,Zc hpl,fJ hI.built hpl hxo.1]
   split at h
   ·cases h
   ·rename_i h1
    rw[if_neg h1]
    split at h
    ·cases h
    ·rename_i h2
     rw[if_neg h2,es];rfl
  ·right
   replace e:qL ⟨[],none,TT (yO n) (qN n N) (zV 0 n.l),none,false,0,[]⟩ n.l= .error (137,a):=e;rw[e];exact⟨⟨a,rfl⟩,h6⟩
end
section
open Go.ChangeShapes Go.WideShapes Go.ChangeAt Go.RowKit Go.MapKept
def xG(j:Nat):List UInt8:= [113,UInt8.ofNat (97+j),120]
theorem FP:∀j,j<16→yb (xG j)=true:=by
 have h:∀j:Fin 16,yb (xG j.val)=true:=by decide +kernel
 exact λj hj=>h ⟨j,hj⟩
theorem YV(l:List Nd):∀vs:List Value,vs.length=l.length→(xN l vs).length=l.length*5:=by
 induction l with
 |nil=>intro vs h;simp[xN]
 |cons n l ih =>
  intro vs h;cases vs with
  |nil=>simp at h
  |cons v vs =>
   have e:xN (n::l) (v::vs)=(qa n v).toList++xN l vs:=rfl;rw[e,List.length_append,ih vs (by simpa using h)];simp[qa];omega
theorem Xl(l:List Nd):∀vs:List Value,(∀v ∈ vs,∃A L C,v=Value.slice A L C)→∀u ∈ xN l vs,u.oneCell'=true:=by
 induction l with
 |nil=>intro vs _ u hu;cases hu
 |cons n l ih =>
  intro vs hv u hu;cases vs with
  |nil=>simp[xN]at hu
  |cons v vs =>
   have e:xN (n::l) (v::vs)=(qa n v).toList++xN l vs:=rfl;rw[e]at hu;rcases List.mem_append.1 hu with h|h
   ·obtain⟨A,L,C,rfl⟩:=hv v (by simp)
    exact Uc n A L C u h
   ·exact ih vs (λv hv'=>hv v (by simp[hv'])) u h
structure xn (W0:World) (B:Nat) (W:World) (l:List Nd) (v:Value):Prop where
 ex:∃vs,vs.length=l.length∧W.ownsRow B 24 5 v l.length (xN l vs)∧∀i (h:i<l.length) (h':i<vs.length),Rd W0 l[i].l vs[i]
 bel:Below W0.heap.size W0 W
 lo:W0.heap.size≤B
 hi:B≤W.heap.size
theorem xn.below{W0 W W':World}{B:Nat}{l:List Nd}{v:Value}(h:xn W0 B W l v)(hb:Below W.heap.size W W'):xn W0 B W' l v:=by
 obtain⟨vs,h1,h2,h3⟩:=h.ex;exact⟨⟨vs,h1,zE h2 (λg o e ho=>(hb.block g (Array.getElem?_eq_some_iff.1 ho).1).trans ho),h3⟩,h.bel.trans (hb.mono h.bel.size),h.lo,Nat.le_trans h.hi hb.size⟩
theorem xn.set{W0 W:World}{B:Nat}{l:List Nd}{v:Value}(h:xn W0 B W l v){p:Addr}(h0:W0.heap.size≤p.block)(h1:p.block<B)(u:Value):xn W0 B (W.setCell p u) l v:=by
 obtain⟨vs,e1,e2,e3⟩:=h.ex;refine⟨⟨vs,e1,zE e2 (λg o e ho=>yC W _ _ (by have:=(qo e2 e).2;rintro rfl;omega) ho),e3⟩,h.bel.setCell h0 _,h.lo,by simpa using h.hi⟩
theorem ZB{W0 W:World}(hb:Below W0.heap.size W0 W):xn W0 W.heap.size (W.alloc (.cells #[] 24)) [] (.slice (some ⟨W.heap.size,0,none⟩) 0 0):=
 ⟨⟨[],rfl,⟨rfl,.inr ⟨W.heap.size,0,#[],rfl,Nat.le_refl _,zi.new _ _ _,Nat.le_refl _,by decide,rfl,rfl⟩⟩,(λi h=>by simp at h)⟩,hb.alloc hb.size _,hb.size,by simp⟩
theorem xn.slice{W0 W:World}{B:Nat}{l:List Nd}{v:Value}(h:xn W0 B W l v):∃A C,v= .slice A l.length C:=by
 obtain⟨vs,h1,h2,_⟩:=h.ex;rcases h2.2 with⟨rfl,h0⟩|⟨g,cap,cur,rfl,_⟩
 ·exact⟨none,0,by rw[h0]⟩
 ·exact⟨_,_,rfl⟩
theorem qI{ty:TypeId}{W0 W:World}{B:Nat}{l m:List Nd}{v:Value}(h:xn W0 B W l v){g off C:Nat}{us:List Value}(hu:us.length=m.length)(hc:∀i (h:i<m.length) (h':i<us.length),∀j,j<5→W.cell? ⟨g,off+i*5+j,none⟩=(qa m[i] us[i])[j]?)(hk:∀i (h:i<m.length) (h':i<us.length),Rd W0 m[i].l us[i])(hl:l.length≤100000)(hml:m.length≤100000):
 ∃A' C' W',(Builtin.append_ #[22,22] ty #[v,.slice (some ⟨g,off,none⟩) m.length C]).run Tryz.prog W= .ok (.slice A' (l.length+m.length) C') W'∧xn W0 B W' (l++m) (.slice A' (l.length+m.length) C')∧Below B W W':=by
 obtain⟨vs,h1,h2,h3⟩:=h.ex;obtain⟨i0,hi,hz0,hz1,hz2⟩:=info_parts Tryz.infoNode
 have hvs:∀x ∈ us,∃A L C,x=Value.slice A L C:=by
  intro x hx;obtain⟨i,hi',rfl⟩:=List.getElem_of_mem hx;obtain⟨A,C,e,_⟩:=(hk i (by omega) hi').slice;exact⟨A,_,C,e⟩
 have hcell:∀j x,(xN m us)[j]?=some x→W.cell? ((⟨g,off,none⟩:Addr).add j)=some x:=by
  intro j x hj;rw[Addr.add_mid]
  have hjl:j<m.length*5:=by
   rw[←YV m us hu];exact(List.getElem?_eq_some_iff.1 hj).1
  have e:j / 5*5+j % 5=j:=by omega
  have hq:j / 5<m.length:=by omega
  have hd:=Vt m us (j / 5) hq (by omega) (j % 5) (by omega);rw[e,hj]at hd;have:=hc (j / 5) hq (by omega) (j % 5) (by omega);rw[←hd,show off+j / 5*5+j % 5=off+j by omega]at this;exact this
 obtain⟨v',w',hr,g1,g2,g3⟩:=run_append_own (P:=Tryz.prog) W B 22 ty 24 i0 _ 5 72 Tryz.underlying22 hi hz0 hz1 hz2 rfl (by decide) v l.length (xN l vs) h2 ⟨g,off,none⟩ m.length C (xN m us) (YV m us hu) hcell (Xl m us hvs) (by unfold maxLen;omega) (by omega) h.hi
 have hR:xn W0 B w' (l++m) v':=by
  refine⟨⟨vs++us,by simp[h1,hu],?_,?_⟩,h.bel.trans ((xO h2 g2 h.hi).mono h.lo),h.lo,Nat.le_trans h.hi g2.size⟩
  ·rw[Jn l m vs us h1,List.length_append]
   exact g1
  ·intro i h h'
   by_cases hil:i<l.length
   ·rw[List.getElem_append_left hil,List.getElem_append_left (by omega)]
    exact h3 i hil (by omega)
   ·rw[List.getElem_append_right (by omega),List.getElem_append_right (by omega)]
    have:=hk (i-l.length) (by simp at h;omega) (by simp at h;omega);simp only[h1];exact this
 obtain⟨A',C',e⟩:=hR.slice;rw[List.length_append]at e;subst e;exact⟨A',C',w',hr,hR,xO h2 g2 h.hi⟩
theorem xn.rd{W0 W:World}{B:Nat}{l:List Nd}{A:Option Addr}{L C:Nat}(h:xn W0 B W l (.slice A L C))(hs:∀x ∈ l,x.s.length<maxLen∧x.op.length<maxLen):Rd W l (.slice A l.length C):=by
 obtain⟨vs,h1,h2,h3⟩:=h.ex;have hk:=λi (hi:i<l.length) (h':i<vs.length)=>(h3 i hi h').grow h.bel
 rcases h2.2 with⟨e,h0⟩|⟨g,cap,cur,e,_,hg,hn,hm2,hsz,ht⟩
 ·cases e
  have :l= []:=List.length_eq_zero_iff.1 h0;subst this;exact .mk [] vs none 0 h1 (Nat.le_refl _) (by omega) (λi h=>by simp at h) hk hs
 ·cases e
  refine .mk l vs _ _ h1 hn hm2 (λi h h'=>⟨g,0,rfl,(Array.getElem?_eq_some_iff.1 hg).1,λj hj=>?_⟩) hk hs;rw[Nat.zero_add,←Vt l vs i h h' j hj,←ht,List.getElem?_take_of_lt (by omega),Array.getElem?_toList];exact cell_of_row W g (i*5+j) cur _ _ hg
theorem Rd.cells{w:World}{l:List Nd}{A:Option Addr}{L C:Nat}(h:Rd w l (.slice A L C))(hp:0<l.length):∃(g off:Nat) (us:List Value),A=some ⟨g,off,none⟩∧g<w.heap.size∧us.length=l.length∧(∀i (h:i<l.length) (h':i<us.length),∀j,j<5→w.cell? ⟨g,off+i*5+j,none⟩=(qa l[i] us[i])[j]?)∧∀i (h:i<l.length) (h':i<us.length),Rd w l[i].l us[i]:=by
 cases h with
 |mk l vs A C h1 h2 h3 h4 h5 h6 =>
  obtain⟨g,off,e,hg,_⟩:=h4 0 hp (by omega);refine⟨g,off,vs,e,hg,h1,λi h h'=>?_,h5⟩;obtain⟨g',off',e',_,hc⟩:=h4 i h h';rw[e]at e';cases e';exact hc
theorem jl{o:Oper}{a:Act}(x:Operand)(ho:o.op= .binOp .rem 3 x (.const (.int .i64 2048)) 3)(k:Nat)(hx:a.eval x= .int .i64 (k:Nat))(w:World):
 (execOp a.eval o).run Tryz.prog w= .ok (.value (.int .i64 ((k % 2048:Nat):Int))) w:=by
 have e:((k:Nat):Int).tmod 2048=((k % 2048:Nat):Int):=by rw[Int.tmod_eq_emod_of_nonneg (by omega)];omega
 unfold execOp;simp only[ho,hx];go_simp
 first
  |done
  |(rw[e];exact IntWalk.i64_in _ (by omega))
  |(simp only[e];exact IntWalk.i64_in _ (by omega))
theorem JX{n:Nd}(h:ZK n)(hl:n.l.length≤500)(nm:List UInt8)(N:Nat):ZK (vk n nm N):=by
 refine .mk _ (by show(n.l++ [xv nm N]).length≤80000;simp;omega) λx hx=>?_
 rcases List.mem_append.1 hx with hx|hx
 ·exact h.all x hx
 ·rw[List.mem_singleton.1 hx]
  exact .mk _ (by show([]:List Nd).length≤80000;simp) λy hy=>by cases hy
theorem YP{n:Nd}(h:xm n=true){j:Nat}(hj:j<16){N:Nat}(hN:N≤2048):xm (vk n (xG j) N)=true:=by
 have hn:=FP j hj;generalize xG j=nm at *;unfold xm at h ⊢;simp only[Bool.and_eq_true]at h ⊢;obtain⟨⟨⟨h1,h2⟩,h3⟩,h4⟩:=h;refine⟨⟨⟨?_,h2⟩,h3⟩,h4⟩;show(n.l++ [xv nm N]).all vS=true;rw[List.all_append,h1];simp only[List.all_cons,List.all_nil,Bool.and_true,Bool.true_and];unfold vS;rw[show(xv nm N).s=nm from rfl,hn,if_pos (.inl rfl)];show(true&&(yE ((N:Nat):Int)&&decide (([]:List Nd).length=0)))=true;unfold yE;simp;omega
theorem ZF{n:Nd}(hl:ZK n){s:Qe}(h:qS n= .ok s)(h8:s.devs.length<8){j:Nat}(hj:j<16){N:Nat}(hN:1≤N∧N≤2048)(hnm:∀x ∈ n.l,x.s≠xG j):yO n≤s.parts.length∧0<n.l.length∧(qS (vk n (xG j) N)= .ok (jm n N s)∨((∃a,qS (vk n (xG j) N)= .error (137,a))∧64≤s.parts.length)):=by
 unfold qS at h
 split at h
 ·rename_i hr
  obtain⟨h1,h2⟩:=Gd (xV hr hl) h h8 hN hnm;refine⟨h1,?_,?_⟩
  ·cases hq:n.l with
   |nil =>
    unfold V9 at h;rw[hq]at h;cases h
   |cons a b=>simp
  ·unfold qS
   rw[if_pos (YP hr hj hN.2)];exact h2
 ·cases h
theorem YM{o:Oper}{a:Act}(x lo hi:Operand)(ho:o.op= .slice 9 x (some lo) (some hi) none)(p:ByteArray)(k m:Nat)(hx:a.eval x= .string p)(hl:a.eval lo= .int .i64 (k:Nat))(hh:a.eval hi= .int .i64 (m:Nat))(hk:k≤m)(hm:m≤p.size)(w:World):(execOp a.eval o).run Tryz.prog w= .ok (.value (.string (p.extract k m))) w:=by
 have h1:(m:Int)≤(p.size:Int):=by omega
 have h2:(k:Int)≤(m:Int):=by omega
 unfold execOp;simp only[ho,hx,hl,hh,Option.map_some,Option.map_none];go_simp
theorem ZN{o:Oper}{a:Act}(x lo hi:Operand)(ho:o.op= .slice 9 x (some lo) (some hi) none)(k:Nat)(hx:a.eval x= .string ⟨#[97,98,99,100,101,102,103,104,105,106,107,108,109,110,111,112]⟩)(hl:a.eval lo= .int .i64 (k:Nat))(hh:a.eval hi= .int .i64 ((k:Int)+1))(hk:k<16)(w:World):(execOp a.eval o).run Tryz.prog w= .ok (.value (.string (bs [UInt8.ofNat (97+k)]))) w:=by
 have e:(⟨#[97,98,99,100,101,102,103,104,105,106,107,108,109,110,111,112]⟩:ByteArray).extract k (k+1)=bs [UInt8.ofNat (97+k)]:=by
  have hb:(⟨#[97,98,99,100,101,102,103,104,105,106,107,108,109,110,111,112]⟩:ByteArray)=bs [97,98,99,100,101,102,103,104,105,106,107,108,109,110,111,112]:=rfl;rw[hb,qq]
  congr 1
  have h:∀j:Fin 16,(List.drop j.val [(97:UInt8),98,99,100,101,102,103,104,105,106,107,108,109,110,111,112]).take (j.val+1-j.val)= [UInt8.ofNat (97+j.val)]:=by decide
  exact h ⟨k,hk⟩
 rw[←e];refine YM x lo hi ho _ k (k+1) hx hl (by rw[hh];rfl) (by omega) ?_ w;show k+1≤16;omega
theorem xe{o:Oper}{a:Act}(x y:Operand)(ho:o.op= .binOp .add 9 x y 9)(p q r:List UInt8)(hx:a.eval x= .string (bs p))(hy:a.eval y= .string (bs q))(hr:r=p++q)(hz:r.length≤1000)(w:World):(execOp a.eval o).run Tryz.prog w= .ok (.value (.string (bs r))) w:=by
 have h1:((bs p).size:Int)+((bs q).size:Int)≤4000000000:=by rw[zs,zs];rw[hr]at hz;simp at hz;omega
 rw[hr,←Gg];unfold execOp;simp only[ho,hx,hy];go_simp
 all_goals omega
theorem qw{o:Oper}{a:Act}(x y:Operand)(ho:o.op= .binOp .eql 9 x y 9)(p q:List UInt8)(hx:a.eval x= .string (bs p))(hy:a.eval y= .string (bs q))(c:Bool)(h:(p==q)=c)(w:World):(execOp a.eval o).run Tryz.prog w= .ok (.value (.bool c)) w:=by
 have hp:=zp p;have hq:=zp q;unfold execOp;simp only[ho,hx,hy];rw[←h];go_simp
theorem ZR{o:Oper}{a:Act}(x y:Operand)(ho:o.op= .binOp .eql 3 x y 3)(p:Nat)(hx:a.eval x= .int .i64 (p:Nat))(hy:a.eval y= .int .i64 (p:Nat))(w:World):(execOp a.eval o).run Tryz.prog w= .ok (.value (.bool true)) w:=by
 have q:=kC x y ho p p hx hy w;rw[beq_self_eq_true]at q;exact q
theorem uU{o:Oper}{a:Act}(x:Operand)(ho:o.op= .unOp .neg 3 x)(z:Int)(Z:Nat)(hx:a.eval x= .int .i64 (z+1))(hz:(Z:Int)= -(z+1))(hZ:(Z:Int)≤9223372036854775807)(w:World):(execOp a.eval o).run Tryz.prog w= .ok (.value (.int .i64 (Z:Nat))) w:=by
 unfold execOp;simp only[ho,hx];rw[hz];go_simp
 all_goals exact IntWalk.i64_in _ (by omega)
theorem jk{o:Oper}{a:Act}(x:Operand)(ho:o.op= .binOp .add 3 (.const (.int .i64 1)) x 3)(k N:Nat)(hx:a.eval x= .int .i64 (k:Nat))(hN:N=1+k)(hk:k≤100000)(w:World):(execOp a.eval o).run Tryz.prog w= .ok (.value (.int .i64 (N:Nat))) w:=by
 have e:((N:Nat):Int)=1+(k:Int):=by omega
 unfold execOp;simp only[ho,hx];rw[e];go_simp
 all_goals exact IntWalk.i64_in _ (by omega)
theorem ZC(x:List UInt8):(PT x).l.length≤500:=by
 unfold PT;cases h:vy x with
 |ok n=>exact Qh h
 |error e=>exact Nat.zero_le _
theorem Gm(x:List UInt8):(∀y ∈ (PT x).l,y.s.length<maxLen∧y.op.length<maxLen):=by
 have hs:Js (PT x):=by
  unfold PT;cases h:vy x with
  |ok n=>exact Qg h
  |error e=>exact .mk _ _ _ _ _ (by decide) (by decide) (λx h=>by cases h)
 intro y hy;have:=hs.l y hy;exact⟨by have:=this.s;unfold maxLen;omega,by have:=this.op;unfold maxLen;omega⟩
def Qy(l:List Nd)(i:Nat):Nat:=((l.take i).filter yl).length
theorem ZH(l:List Nd){i:Nat}(h:i<l.length):Qy l (i+1)=Qy l i+(if l[i].op=zd then 1 else 0):=by
 unfold Qy;rw[List.take_succ_eq_append_getElem h,List.filter_append,List.length_append]
 congr 1
 simp only[List.filter_cons,List.filter_nil];by_cases e:l[i].op=zd
 ·rw[if_pos e,GO e];rfl
 ·rw[if_neg e,kJ e];rfl
theorem Vw(l:List Nd)(i:Nat):Qy l i≤i:=by
 unfold Qy;have h1:=List.length_filter_le yl (l.take i);have h2:(l.take i).length≤i:=List.length_take_le _ _;omega
theorem vm{n:Nd}{s:Qe}{N i:Nat}(hD:yO n≤s.parts.length)(hi:i<s.parts.length):∃h:sg (yO n) i<(jm n N s).parts.length,(jm n N s).parts[sg (yO n) i]=xk (yO n) s.parts[i]:=by
 have e:(jm n N s).parts[sg (yO n) i]?=some (xk (yO n) s.parts[i]):=by
  show(TT (yO n) (qN n N) s.parts)[sg (yO n) i]?=_;unfold TT;rw[Vm (by simpa using hD),List.getElem?_map,List.getElem?_eq_getElem hi];rfl
 obtain⟨h,h'⟩:=List.getElem?_eq_some_iff.1 e;exact⟨h,h'⟩
theorem fR(x:List UInt8)(z:Int)(w:World)(hx:x.length≤maxLen){ec:Nat}{ek:Int}(hC:qS (PT x)= .error (ec,ek)):Calls Tryz.prog 5 #[.string (bs x),.int .i64 z] w λe w'=>e= .returned (.bool true)∧Below w.heap.size w w':=by
 have hpa:=K2 x w hx;have hec:(((ec:Nat):Int)==0)=false:=by rw[beq_eq_false_iff_ne];have :ec≠0:=QV (vt x) hC;omega
 have hec2:(((ec:Nat):Int) != 0)=true:=by rw[bne,hec];rfl
 have hec3:¬((ec:Nat):Int)=0:=by have :ec≠0:=QV (vt x) hC;omega
 have HCK:=zk (λW A C (h:j0 W (PT x) A C)=>by have:=yq (PT x) A C W h (vt x);rw[hC]at this;exact this)
 obtain⟨n,hn⟩:∃n,n=PT x:=⟨_,rfl⟩
 rw[←hn]at hpa HCK;clear hn hC;unfold qa at hpa HCK;go_enter Tryz.func5,Tryz.ntmps5
 go_wp2_with (first
  |((go_at_call 6)
    refine hpa.mono ?_;rintro e w1 ⟨A,C,c,k,rfl,hr1,hb1,-⟩;(have hck:=HCK.out _ A C (hr1.grow (zh w1 (.cells #[.string (bs n.op),.string (bs n.s),.int .i64 n.n,.int .i64 n.a,.slice A n.l.length C] 24)))))
  |((go_at_call 8)
    refine hck.mono ?_;(rintro e w2 ⟨hb2,rfl⟩))
  |((go_at_call 11)
    refine(vj _).mono ?_;(rintro e w3 ⟨rfl,hb3⟩)))
 go_ret
 have q1:=hb1.size;have q2:=hb2.size;simp at q2;exact⟨rfl,(((hb1.alloc hb1.size _).trans (hb2.mono (by simp;omega))).alloc (by omega) _).trans (hb3.mono (by simp;omega))⟩
theorem FT(x:List UInt8)(z:Int)(w:World)(hx:x.length≤maxLen){s:Qe}(hC:qS (PT x)= .ok s)(h8:8≤s.devs.length):Calls Tryz.prog 5 #[.string (bs x),.int .i64 z] w λe w'=>e= .returned (.bool true)∧Below w.heap.size w w':=by
 have hpa:=K2 x w hx;have HCK:=zk (λW A C (h:j0 W (PT x) A C)=>by have:=yq (PT x) A C W h (vt x);rw[hC]at this;exact this)
 obtain⟨n,hn⟩:∃n,n=PT x:=⟨_,rfl⟩
 rw[←hn]at hpa HCK;have y1:decide (8≤s.devs.length)=true:=decide_eq_true h8;have y2:decide ((8:Int)≤((s.devs.length:Nat):Int))=true:=decide_eq_true (by omega);clear hn hC;unfold qa at hpa HCK;go_enter Tryz.func5,Tryz.ntmps5
 go_wp2_with (first
  |((go_at_call 6)
    refine hpa.mono ?_;rintro e w1 ⟨A,C,c,k,rfl,hr1,hb1,-⟩;(have hck:=HCK.out _ A C (hr1.grow (zh w1 (.cells #[.string (bs n.op),.string (bs n.s),.int .i64 n.n,.int .i64 n.a,.slice A n.l.length C] 24)))))
  |((go_at_call 8)
    refine hck.mono ?_;rintro e w2 ⟨hb2,vd,vp,rfl,hst⟩;obtain⟨Ad,Cd,rfl⟩:=yF hst.devs;obtain⟨Ap,Cp,rfl⟩:=uI hst;have hS:=zi.new w2 32 #[.slice Ad s.devs.length Cd,.int .i64 (s.jour:Nat),.slice Ap s.parts.length Cp,.int .i64 (s.expo:Nat),.bool s.ro];have s0:=hS.cell 0;have s1:=hS.cell 1;have s2:=hS.cell 2;have s3:=hS.cell 3;have s4:=hS.cell 4;simp only[qt,qu,qr]at s0 s1 s2 s3 s4;have sl:=hS.lt;(clear hst))
  |((go_at_call 11)
    refine(vj _).mono ?_;(rintro e w3 ⟨rfl,hb3⟩)))
 go_ret
 have q1:=hb1.size;have q2:=hb2.size;simp at q2;exact⟨rfl,(((hb1.alloc hb1.size _).trans (hb2.mono (by simp;omega))).alloc (by omega) _).trans (hb3.mono (by simp;omega))⟩
end
end Go.Proofs.YtgljdaakdpgpkaaGreatDoor
