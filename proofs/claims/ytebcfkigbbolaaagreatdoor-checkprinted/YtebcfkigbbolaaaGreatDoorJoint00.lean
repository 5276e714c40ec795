import Derived.Lib.Atoi
import Derived.Test.YtebcfkigbbolaaaGreatDoorRows
import Derived.WalkKit
import Derived.ProofKit
import Derived.OpenShut
import Derived.Below
import Derived.WalkLawsBesides
import Derived.WalkSpells
import Derived.Laws.BitsAllLaws
import Derived.Deep.QuietTactic
import Derived.BigQuiet
import Derived.Deep.WholeRow
import Derived.Deep.MidRow
import Derived.Laws.AppendOwnNone
import Derived.OwnWalk
import Derived.DeepKeys
import Derived.Deep.AppendLies
import Derived.Laws.CopyOwn
import Derived.Deep.RegionHeld3
import Derived.Lib.AppendZerosOnto
import Derived.KernelRfl
import Derived.RangeFuncBox
import Derived.RangeFuncLeaves
import Derived.Shelf.Abstract
import Derived.OwnWalkIn
import Derived.TacticsInMore
import Derived.LoopNIn
import Derived.LoopIn
import Derived.Maps.AppendAt
import Derived.RangeFuncCalls
import Derived.OrdersIn
import Derived.RangeFuncWrites
namespace Go.Proofs.YtebcfkigbbolaaaGreatDoor
set_option linter.unusedVariables false
set_option maxRecDepth 100000
set_option maxHeartbeats 40000000
section
def ja(c:UInt8):Bool:=c==9||c==10||c==13||c==32
def zm(c:UInt8):Bool:=decide (48≤c.toNat)&&decide (c.toNat≤57)
def zP(c:UInt8):Bool:=decide (97≤c.toNat)&&decide (c.toNat≤122)
def vn(c:UInt8):Bool:=zP c||c==95
def zN(c:UInt8):Bool:=vn c||zm c
def zw(c:UInt8):Bool:=zm c||(decide (97≤c.toNat)&&decide (c.toNat≤102))
def qU(c:UInt8):Bool:= !(c==10)
def xX(c:UInt8):Bool:=c==40||c==41||c==44||c==61||c==59
def zE(p:UInt8→Bool)(x:List UInt8):Nat:=(x.takeWhile p).length
def qJ:Bool→List UInt8→Nat
 |_,[]=>0
 |false,c::t=>if ja c then qJ false t+1 else if c==47&&t.head?==some 47 then qJ true t+1 else 0
 |true,c::t=>if c==10 then qJ false t+1 else qJ true t+1
structure Tk where
 kind:Nat
 s:List UInt8
 n:Nat
def val(x:List UInt8):Nat:=x.foldl (λv c=>10*v+(c.toNat-48)) 0
def vf(x:List UInt8):Bool:=x.head?.any vn
def one:List UInt8→Except (Nat×Nat) (Tk×Nat)
 | []=> .error (101,0)
 |c::t =>
  if zP c then(if 16<zE zN (c::t)then .error (102,0)else .ok (⟨0,(c::t).take (zE zN (c::t)),0⟩,zE zN (c::t)))
  else if zm c then(if 9<zE zm (c::t)then .error (102,0)else if vf ((c::t).drop (zE zm (c::t)))then .error (101,zE zm (c::t))else .ok (⟨1,[],val ((c::t).take (zE zm (c::t)))⟩,zE zm (c::t)))
  else if c==36 then(if zE zw t=0 then .error (101,1)else if 128<zE zw t then .error (102,0)else if vf (t.drop (zE zw t))then .error (101,zE zw t+1)else .ok (⟨2,t.take (zE zw t),0⟩,zE zw t+1))
  else if xX c then .ok (⟨3,[c],0⟩,1)
  else .error (101,0)
abbrev zo:=List (Tk×Nat)
def ym:Nat→List UInt8→Nat→Nat→Except (Nat×Nat) zo
 |0,_,_,_=> .ok []
 |f+1,x,a,k =>
  if x.drop (qJ false x)= []then .ok []else
  match one (x.drop (qJ false x))with
  | .error (e,o)=> .error (e,a+qJ false x+o)
  | .ok (t,n)=>if k=500 then .error (103,a+qJ false x)else
    match ym f ((x.drop (qJ false x)).drop n) (a+qJ false x+n) (k+1)with
    | .error e=> .error e
    | .ok ts=> .ok ((t,a+qJ false x)::ts)
def j9(l:List UInt8):Except (Nat×Nat) zo:=if 2000<l.length then .error (103,0)else ym (l.length+1) l 0 0
theorem j5(p:UInt8→Bool)(x:List UInt8):zE p x≤x.length:=(List.takeWhile_sublist p).length_le
theorem DM(p:UInt8→Bool):zE p []=0:=rfl
theorem qR(p:UInt8→Bool)(c:UInt8)(t:List UInt8):zE p (c::t)=if p c then zE p t+1 else 0:=by
 unfold zE;rw[List.takeWhile_cons]
 split<;>simp
theorem VC(b:Bool)(x:List UInt8):qJ b x≤x.length:=by
 induction x generalizing b with
 |nil=>cases b<;>simp[qJ]
 |cons c t ih =>
  have h1:=ih false;have h2:=ih true;cases b<;>simp only[qJ,List.length_cons]<;>repeat' split
  all_goals omega
theorem yV{x:List UInt8}{t:Tk}{n:Nat}(h:one x= .ok (t,n)):1≤n∧n≤x.length:=by
 cases x with
 |nil=>simp[one]at h
 |cons c r =>
  have h1:=j5 zN (c::r);have h2:=j5 zm (c::r);have h3:=j5 zw r;simp only[one]at h
  split at h
  ·rename_i hc
   split at h
   ·cases h
   ·cases h
    refine⟨?_,h1⟩;have hw:zN c=true:=by simp[zN,vn,hc]
    rw[qR,if_pos hw];omega
  ·split at h
   ·rename_i hc
    split at h
    ·cases h
    ·split at h
     ·cases h
     ·cases h
      refine⟨?_,h2⟩;rw[qR,if_pos hc];omega
   ·split at h
    ·split at h
     ·cases h
     ·split at h
      ·cases h
      ·split at h
       ·cases h
       ·cases h
        simp only[List.length_cons];omega
    ·split at h
     ·cases h
      simp
     ·cases h
theorem gU(f:Nat):∀(g:Nat) (x:List UInt8) (a k:Nat),x.length<f→x.length<g→ym f x a k=ym g x a k:=by
 induction f with
 |zero=>intro g x a k h;omega
 |succ f ih =>
  intro g x a k hf hg;cases g with
  |zero=>omega
  |succ g =>
   simp only[ym]
   split
   ·rfl
   ·rename_i hne
    have hs:=VC false x;cases ho:one (x.drop (qJ false x))with
    |error e=>rfl
    |ok r =>
     obtain⟨t,n⟩:=r;have hn:=yV ho;simp only
     split
     ·rfl
     ·rw[List.length_drop]at hn
      rw[ih g _ _ _ (by simp only[List.length_drop];omega) (by simp only[List.length_drop];omega)]
def xA(ts:zo):Except (Nat×Nat) zo→Except (Nat×Nat) zo
 | .error e=> .error e
 | .ok us=> .ok (ts++us)
theorem Yc(r:Except (Nat×Nat) zo):xA [] r=r:=by cases r<;>rfl
theorem Jp(ts us:zo)(r:Except (Nat×Nat) zo):xA ts (xA us r)=xA (ts++us) r:=by cases r<;>simp[xA]
theorem yg{f:Nat}{x:List UInt8}{a k:Nat}(h:x.drop (qJ false x)= []):ym (f+1) x a k= .ok []:=by
 simp only[ym,if_pos h]
theorem yL{f:Nat}{x:List UInt8}{a k e o:Nat}(h:x.drop (qJ false x)≠ [])(ho:one (x.drop (qJ false x))= .error (e,o)):ym (f+1) x a k= .error (e,a+qJ false x+o):=by
 simp only[ym,if_neg h,ho]
theorem yE{f:Nat}{x:List UInt8}{a:Nat}{t:Tk}{n:Nat}(h:x.drop (qJ false x)≠ [])(ho:one (x.drop (qJ false x))= .ok (t,n)):ym (f+1) x a 500= .error (103,a+qJ false x):=by
 simp only[ym,if_neg h,ho,if_pos]
theorem vC{f:Nat}{x:List UInt8}{a k:Nat}{t:Tk}{n:Nat}(h:x.drop (qJ false x)≠ [])(ho:one (x.drop (qJ false x))= .ok (t,n))(hk:k≠500):
 ym (f+1) x a k=xA [(t,a+qJ false x)] (ym f (x.drop (qJ false x+n)) (a+qJ false x+n) (k+1)):=by
 simp only[ym,if_neg h,ho,if_neg hk,List.drop_drop];cases ym f (x.drop (qJ false x+n)) (a+qJ false x+n) (k+1)<;>rfl
end
section
theorem UQ(p:UInt8→Bool)(x:List UInt8)(c:UInt8)(z:List UInt8)(h:p c=false):zE p (x++c::z)=zE p x:=by
 induction x with
 |nil=>simp[qR,h,DM]
 |cons d t ih =>
  simp only[List.cons_append,qR]
  split
  ·rw[ih]
  ·rfl
theorem Yn{f g:Nat}{u z:List UInt8}(a k:Nat)(h:qJ false (u++z)=u.length+qJ false z)(hf:(u++z).length<f)(hg:z.length<g):ym f (u++z) a k=ym g z (a+u.length) k:=by
 cases f with
 |zero=>omega
 |succ f =>
 cases g with
 |zero=>omega
 |succ g =>
 have hz:=VC false z;simp only[List.length_append]at hf
 have hd:(u++z).drop (qJ false (u++z))=z.drop (qJ false z):=by
  rw[h,List.drop_append,List.drop_eq_nil_of_le (by omega),List.nil_append]
  congr 1
  omega
 by_cases hne:z.drop (qJ false z)= []
 ·rw[yg hne,yg (by rw[hd];exact hne)]
 ·have hne':(u++z).drop (qJ false (u++z))≠ []:=by rw[hd];exact hne
  cases hr:one (z.drop (qJ false z))with
  |error e =>
   obtain⟨e,o⟩:=e;rw[yL hne hr,yL hne' (by rw[hd,hr]),h];simp only[Nat.add_assoc]
  |ok r =>
   obtain⟨t,n⟩:=r;have hn:=yV hr;rw[List.length_drop]at hn;by_cases hk:k=500
   ·subst hk
    rw[yE hne hr,yE hne' (by rw[hd,hr]),h];simp only[Nat.add_assoc]
   ·rw[vC hne hr hk,vC hne' (by rw[hd,hr]) hk,h]
    have e1:(u++z).drop (u.length+qJ false z+n)=z.drop (qJ false z+n):=by
     rw[List.drop_append,List.drop_eq_nil_of_le (by omega),List.nil_append]
     congr 1
     omega
    rw[e1,gU f g _ _ _ (by simp only[List.length_drop];omega) (by simp only[List.length_drop];omega)];simp only[Nat.add_assoc]
end
section
structure xw (t:Tk):Prop where
 le:t.kind≤3
 word:t.kind=0→(∃c r,t.s=c::r∧zP c=true)∧(∀c ∈ t.s,zN c=true)∧t.s.length≤16
 num:t.kind=1→t.s= []∧t.n<1000000000
 hex:t.kind=2→t.s≠ []∧(∀c ∈ t.s,zw c=true)∧t.s.length≤128
 sign:t.kind=3→∃c,t.s= [c]∧xX c=true∧zP c=false∧zm c=false∧c≠36
 zero:t.kind≠1→t.n=0
theorem fJ(p:UInt8→Bool)(x:List UInt8):x.take (zE p x)=x.takeWhile p:=by
 unfold zE;exact(List.prefix_iff_eq_take.1 (List.takeWhile_prefix p)).symm
theorem QC{p:UInt8→Bool}{x:List UInt8}:∀c ∈ x.take (zE p x),p c=true:=by
 rw[fJ];intro c hc;exact List.all_eq_true.1 List.all_takeWhile c hc
theorem QA(x:List UInt8)(c:UInt8):val (x++ [c])=10*val x+(c.toNat-48):=by simp[val,List.foldl_append]
theorem QY(x:List UInt8)(h:∀c ∈ x,zm c=true):val x<10 ^ x.length:=by
 induction hn:x.length generalizing x with
 |zero=>rw[List.length_eq_zero_iff.1 hn];decide
 |succ n ih =>
  have hx:x≠ []:=by intro e;subst e;simp at hn
  have e:=List.dropLast_concat_getLast hx;have h1:=ih x.dropLast (λc hc=>h c (List.dropLast_subset x hc)) (by simp[hn]);have h2:=h (x.getLast hx) (List.getLast_mem hx);rw[←e,QA];simp[zm]at h2;rw[Nat.pow_succ];omega
theorem fo{x:List UInt8}{t:Tk}{n:Nat}(h:one x= .ok (t,n)):xw t:=by
 cases x with
 |nil=>simp[one]at h
 |cons c r =>
  simp only[one]at h
  split at h
  ·rename_i hc
   split at h
   ·cases h
   ·rename_i hl
    cases h;have hw:zN c=true:=by simp[zN,vn,hc]
    refine⟨(by show(0:Nat)≤3;decide),λ_=>⟨⟨c,r.take (zE zN r),?_,hc⟩,QC,?_⟩,λe=>(by cases e),λe=>(by cases e),λe=>(by cases e),λ_=>rfl⟩
    ·show(c::r).take (zE zN (c::r))=_
     rw[qR,if_pos hw,List.take_succ_cons]
    ·show((c::r).take (zE zN (c::r))).length≤16
     rw[List.length_take];omega
  ·split at h
   ·rename_i hc
    split at h
    ·cases h
    ·rename_i hl
     split at h
     ·cases h
     ·cases h
      refine⟨(by show(1:Nat)≤3;decide),λe=>(by cases e),λ_=>⟨rfl,?_⟩,λe=>(by cases e),λe=>(by cases e),λe=>absurd rfl e⟩;have hb:=QY ((c::r).take (zE zm (c::r))) QC;rw[List.length_take,Nat.min_eq_left (j5 zm (c::r))]at hb;have h9:10 ^ zE zm (c::r)≤10 ^ 9:=Nat.pow_le_pow_right (by decide) (by omega);exact Nat.lt_of_lt_of_le hb h9
   ·split at h
    ·split at h
     ·cases h
     ·rename_i h0
      split at h
      ·cases h
      ·rename_i hl
       split at h
       ·cases h
       ·cases h
        refine⟨(by show(2:Nat)≤3;decide),λe=>(by cases e),λe=>(by cases e),λ_=>⟨?_,QC,?_⟩,λe=>(by cases e),λ_=>rfl⟩
        ·intro e
         have:=congrArg List.length e;have hle:=j5 zw r;simp at this;rcases this with h|h
         ·exact h0 h
         ·rw[h]at h0;exact h0 rfl
        ·show(r.take (zE zw r)).length≤128
         rw[List.length_take];omega
    ·split at h
     ·rename_i h1 h2 h3 h4
      cases h;refine⟨(by show(3:Nat)≤3;decide),λe=>(by cases e),λe=>(by cases e),λe=>(by cases e),λ_=>⟨c,rfl,h4,by simpa using h1,by simpa using h2,by simpa using h3⟩,λ_=>rfl⟩
     ·cases h
def gY:Nat→Nat→List UInt8
 |0,n=> [UInt8.ofNat (48+n)]
 |f+1,n=>if n<10 then[UInt8.ofNat (48+n)]else gY f (n / 10)++ [UInt8.ofNat (48+n % 10)]
theorem Fq(f:Nat):∀(g n:Nat),n≤f→n≤g→gY f n=gY g n:=by
 induction f with
 |zero =>
  intro g n hf hg;cases g with
  |zero=>rfl
  |succ g=>rw[gY,gY,if_pos (by omega)]
 |succ f ih =>
  intro g n hf hg;cases g with
  |zero=>rw[gY,gY,if_pos (by omega)]
  |succ g =>
   rw[gY,gY];by_cases h:n<10
   ·rw[if_pos h,if_pos h]
   ·rw[if_neg h,if_neg h,ih g (n / 10) (by omega) (by omega)]
def dg(n:Nat):List UInt8:=gY n n
theorem xR{n:Nat}(h:n<10):dg n= [UInt8.ofNat (48+n)]:=by
 unfold dg;cases n with
 |zero=>rfl
 |succ n=>rw[gY,if_pos h]
theorem ZL{n:Nat}(h:¬n<10):dg n=dg (n / 10)++ [UInt8.ofNat (48+n % 10)]:=by
 unfold dg;cases n with
 |zero=>omega
 |succ n=>rw[gY,if_neg h,Fq n ((n+1) / 10) _ (by omega) (Nat.le_refl _)]
theorem Xg(m:Nat)(h:m<10):zm (UInt8.ofNat (48+m))=true∧(UInt8.ofNat (48+m)).toNat-48=m:=by
 have :(UInt8.ofNat (48+m)).toNat=48+m:=by simp;omega
 constructor
 ·simp only[zm,this];simp;omega
 ·rw[this];omega
theorem Dg(n:Nat):∀c ∈ dg n,zm c=true:=by
 induction n using Nat.strongRecOn with
 |_ n ih =>
  by_cases h:n<10
  ·rw[xR h];intro c hc;rw[List.mem_singleton.1 hc];exact(Xg n h).1
  ·rw[ZL h]
   intro c hc;rcases List.mem_append.1 hc with hc|hc
   ·exact ih (n / 10) (by omega) c hc
   ·rw[List.mem_singleton.1 hc];exact(Xg _ (by omega)).1
theorem zaV(n:Nat):val (dg n)=n:=by
 induction n using Nat.strongRecOn with
 |_ n ih =>
  by_cases h:n<10
  ·rw[xR h];show 10*0+_=n;rw[(Xg n h).2];omega
  ·rw[ZL h,QA,ih (n / 10) (by omega),(Xg _ (by omega)).2];omega
theorem zac(n:Nat):dg n≠ []:=by
 by_cases h:n<10
 ·rw[xR h];simp
 ·rw[ZL h];simp
theorem Uq(k:Nat):∀n,n<10 ^ (k+1)→(dg n).length≤k+1:=by
 induction k with
 |zero=>intro n h;rw[xR (by simpa using h)];simp
 |succ k ih =>
  intro n h;by_cases h10:n<10
  ·rw[xR h10];simp
  ·rw[ZL h10,List.length_append]
   have:=ih (n / 10) (by rw[Nat.pow_succ]at h;omega);simp;omega
def Zx(t:Tk):List UInt8:=if t.kind=1 then dg t.n else if t.kind=2 then 36::t.s else t.s
theorem JF(p:UInt8→Bool)(x:List UInt8)(c:UInt8)(z:List UInt8)(h:∀d ∈ x,p d=true)(hc:p c=false):zE p (x++c::z)=x.length:=by
 rw[UQ p x c z hc];unfold zE
 congr 1
 induction x with
 |nil=>rfl
 |cons d t ih=>rw[List.takeWhile_cons,if_pos (h d (by simp)),ih (λe he=>h e (by simp[he]))]
theorem uO(z:List UInt8):vf (32::z)=false:=by simp[vf,vn,zP]
def F6(x:List UInt8):Prop:=∃c r,x=c::r∧ja c=false∧c≠47
theorem xz{c:UInt8}{r:List UInt8}(h:48≤c.toNat∨c=36∨c=40∨c=41∨c=44):F6 (c::r):=by
 refine⟨c,r,rfl,?_,?_⟩
 ·simp only[ja]
  rcases h with h|rfl|rfl|rfl|rfl
  ·have h1:c≠9:=by rintro rfl;simp at h
   have h2:c≠10:=by rintro rfl;simp at h
   have h3:c≠13:=by rintro rfl;simp at h
   have h4:c≠32:=by rintro rfl;simp at h
   simp[h1,h2,h3,h4]
  all_goals decide
 ·rcases h with h|rfl|rfl|rfl|rfl
  ·rintro rfl;simp at h
  all_goals decide
theorem XO{t:Tk}(h:xw t):F6 (Zx t):=by
 unfold Zx;by_cases h1:t.kind=1
 ·rw[if_pos h1]
  cases e:dg t.n with
  |nil=>exact absurd e (zac _)
  |cons c r =>
   have:=Dg t.n c (by rw[e];simp);simp[zm]at this;exact xz (.inl this.1)
 ·rw[if_neg h1]
  by_cases h2:t.kind=2
  ·rw[if_pos h2];exact xz (.inr (.inl rfl))
  ·rw[if_neg h2]
   have hle:=h.le;by_cases h0:t.kind=0
   ·obtain⟨⟨c,r,e,hc⟩,_⟩:=h.word h0
    rw[e];simp[zP]at hc;exact xz (.inl (by omega))
   ·obtain⟨c,e,hc,_⟩:=h.sign (by omega)
    rw[e];simp[xX]at hc;rcases hc with(((rfl|rfl)|rfl)|rfl)|rfl
    ·exact xz (by decide)
    ·exact xz (by decide)
    ·exact xz (by decide)
    ·exact xz (by decide)
    ·exact xz (by decide)
theorem XM{x:List UInt8}(h:F6 x)(z:List UInt8):qJ false (x++z)=0:=by
 obtain⟨c,r,rfl,h1,h2⟩:=h;simp[qJ,h1,h2]
theorem DS{t:Tk}(h:xw t)(z:List UInt8):one (Zx t++32::z)= .ok (t,(Zx t).length):=by
 obtain⟨k,s,n⟩:=t;have hle:=h.le;have hw:=h.word;have hn:=h.num;have hx:=h.hex;have hs:=h.sign;have hz:=h.zero;simp only at hle hw hn hx hs hz;unfold Zx;simp only;by_cases h1:k=1
 ·subst h1
  obtain⟨rfl,hb⟩:=hn rfl;rw[if_pos rfl];have hf:=Dg n;have hl:=Uq 8 n (by simpa using hb);have hv:=zaV n;have hc:=JF zm (dg n) 32 z hf (by decide);cases e:dg n with
  |nil=>exact absurd e (zac _)
  |cons c r =>
   rw[e]at hf hl hv hc;have hfc:=hf c (by simp);have hsc:zP c=false:=by simp[zm]at hfc;simp[zP];omega
   simp only[List.cons_append]at hc ⊢;simp only[one,hsc,hfc,hc,if_true];have d1:(c::(r++32::z)).drop (c::r).length=32::z:=by rw[←List.cons_append,List.drop_left]
   have d2:(c::(r++32::z)).take (c::r).length=c::r:=by rw[←List.cons_append,List.take_left]
   rw[d1,d2,uO,hv];simp only[List.length_cons]at hl;simp;omega
 ·rw[if_neg h1]
  have hn0:=hz h1;subst hn0;by_cases h2:k=2
  ·subst h2
   obtain⟨hne,hh,hl⟩:=hx rfl;rw[if_pos rfl];have hc:=JF zw s 32 z hh (by decide);have hne':s.length≠0:=by intro e;exact hne (List.length_eq_zero_iff.1 e)
   have c1:zP 36=false:=by decide
   have c2:zm 36=false:=by decide
   simp only[List.cons_append,one,c1,c2,hc,List.drop_left,List.take_left,uO];rw[if_neg (by decide),if_neg (by decide),if_pos (by decide),if_neg hne',if_neg (by omega)];simp
  ·rw[if_neg h2]
   by_cases h0:k=0
   ·subst h0
    obtain⟨⟨c,r,rfl,hc⟩,ha,hl⟩:=hw rfl;have hcn:=JF zN (c::r) 32 z ha (by decide);simp only[List.cons_append]at hcn ⊢;simp only[one,hc,hcn,if_true];have d2:(c::(r++32::z)).take (c::r).length=c::r:=by rw[←List.cons_append,List.take_left]
    rw[d2,if_neg (by omega)]
   ·have h3:k=3:=by omega
    subst h3;obtain⟨c,rfl,c1,c2,c3,c4⟩:=hs rfl;simp[one,c1,c2,c3,c4]
def zbo:List Tk→List UInt8
 | []=> []
 |t::r=>Zx t++32::zbo r
theorem kF(f:Nat):∀(x:List UInt8) (a k:Nat) (ts:zo),ym f x a k= .ok ts→k≤500→(∀t ∈ ts,xw t.1)∧k+ts.length≤500:=by
 induction f with
 |zero=>intro x a k ts h hk;cases h;exact⟨by simp,by simpa using hk⟩
 |succ f ih =>
  intro x a k ts h hk;by_cases hne:x.drop (qJ false x)= []
  ·rw[yg hne]at h;cases h;exact⟨by simp,by simpa using hk⟩
  ·cases hr:one (x.drop (qJ false x))with
   |error e=>obtain⟨e,o⟩:=e;rw[yL hne hr]at h;cases h
   |ok r =>
    obtain⟨t,n⟩:=r;by_cases h5:k=500
    ·subst h5;rw[yE hne hr]at h;cases h
    ·rw[vC hne hr h5]at h
     cases hs:ym f (x.drop (qJ false x+n)) (a+qJ false x+n) (k+1)with
     |error e=>rw[hs]at h;cases h
     |ok us =>
      rw[hs]at h;cases h;obtain⟨g1,g2⟩:=ih _ _ _ _ hs (by omega);refine⟨?_,by simp only[List.cons_append,List.nil_append,List.length_cons];omega⟩;intro u hu;rcases List.mem_cons.1 hu with rfl|hu
      ·exact fo hr
      ·exact g1 u hu
def Xy(l:List UInt8):Nat→zo→Prop
 |_,[]=>True
 |lo,(t,p)::r=>lo≤p∧p<l.length∧∃n,one (l.drop p)= .ok (t,n)∧Xy l (p+n) r
theorem KO(l:List UInt8)(f:Nat):∀(a k:Nat) (ts:zo),ym f (l.drop a) a k= .ok ts→Xy l a ts:=by
 induction f with
 |zero=>intro a k ts h;cases h;trivial
 |succ f ih =>
  intro a k ts h;by_cases hne:(l.drop a).drop (qJ false (l.drop a))= []
  ·rw[yg hne]at h;cases h;trivial
  ·cases hr:one ((l.drop a).drop (qJ false (l.drop a)))with
   |error e=>obtain⟨e,o⟩:=e;rw[yL hne hr]at h;cases h
   |ok r =>
    obtain⟨t,n⟩:=r;by_cases h5:k=500
    ·subst h5;rw[yE hne hr]at h;cases h
    ·rw[vC hne hr h5]at h
     cases hs:ym f ((l.drop a).drop (qJ false (l.drop a)+n)) (a+qJ false (l.drop a)+n) (k+1)with
     |error e=>rw[hs]at h;cases h
     |ok us =>
      rw[hs]at h;cases h;rw[List.drop_drop]at hs hr hne;refine⟨by omega,?_,n,hr,?_⟩
      ·have:=List.length_pos_iff.2 hne;rw[List.length_drop]at this;omega
      ·exact ih _ _ _ (by rw[←Nat.add_assoc]at hs;exact hs)
end
section
theorem vQ{l:List UInt8}{ts:zo}(h:j9 l= .ok ts):ts.length≤500∧∀t ∈ ts,xw t.1:=by
 unfold j9 at h
 split at h
 ·cases h
 ·have:=kF _ _ _ _ _ h (by omega)
  exact⟨by omega,this.1⟩
def zbO(x:List UInt8):List UInt8:=47::47::(x++ [10])
theorem Ki{l:List UInt8}{ts:zo}(h:j9 l= .ok ts):Xy l 0 ts:=by
 unfold j9 at h
 split at h
 ·cases h
 ·exact KO l _ 0 0 ts (by rw[List.drop_zero];exact h)
theorem X3{l:List UInt8}{er o:Nat}(h:j9 l= .error (er,o)):er≠0∧o≤l.length:=by
 have one_e:∀(x:List UInt8) (er o:Nat),x≠ []→one x= .error (er,o)→er≠0∧o≤x.length:=by
  intro x er o hx h;cases x with
  |nil=>exact absurd rfl hx
  |cons c r =>
   have h2:=j5 zm (c::r);have h3:=j5 zw r;simp only[List.length_cons]at h2 ⊢;simp only[one]at h
   repeat' split at h
   all_goals first |(cases h;exact⟨by decide,by omega⟩)|cases h
 have sc:∀(f:Nat) (x:List UInt8) (a k er o:Nat),ym f x a k= .error (er,o)→er≠0∧o≤a+x.length:=by
  intro f
  induction f with
  |zero=>intro x a k er o h;cases h
  |succ f ih =>
   intro x a k er o h;by_cases hne:x.drop (qJ false x)= []
   ·rw[yg hne]at h;cases h
   ·have hsl:=VC false x
    have hpos:=List.length_pos_iff.2 hne;rw[List.length_drop]at hpos;cases hr:one (x.drop (qJ false x))with
    |error e =>
     obtain⟨e',o'⟩:=e;rw[yL hne hr]at h;have:=one_e _ _ _ hne hr;rw[List.length_drop]at this;cases h;exact⟨this.1,by omega⟩
    |ok r =>
     obtain⟨t,n⟩:=r;have hn:=yV hr;rw[List.length_drop]at hn;by_cases h5:k=500
     ·subst h5;rw[yE hne hr]at h;cases h;exact⟨by decide,by omega⟩
     ·rw[vC hne hr h5]at h
      cases hs:ym f (x.drop (qJ false x+n)) (a+qJ false x+n) (k+1)with
      |error e =>
       obtain⟨e',o'⟩:=e;rw[hs]at h;have:=ih _ _ _ _ _ hs;rw[List.length_drop]at this;cases h;exact⟨this.1,by omega⟩
      |ok vs=>rw[hs]at h;cases h
 unfold j9 at h
 split at h
 ·cases h;exact⟨by decide,by omega⟩
 ·have:=sc _ _ _ _ _ _ h
  exact⟨this.1,by omega⟩
end
section
def RW:List (List UInt8):= [[100,101,118,105,99,101],[106,111,117,114,110,97,108],[107,101,121],[114,111,111,116],[118,111,108,117,109,101],[101,120,112,111,114,116],[114,101,97,100,111,110,108,121],[108,105,110,101,97,114],[99,111,110,99,97,116],[109,105,114,114,111,114],[115,110,97,112,115,104,111,116],[99,114,121,112,116],[105,110,116,101,103,114,105,116,121],[118,101,114,105,116,121]]
def Zy(x:List UInt8):Bool:=(x== [100,101,118,105,99,101])||(x== [106,111,117,114,110,97,108])||(x== [107,101,121])||(x== [114,111,111,116])||(x== [118,111,108,117,109,101])||(x== [101,120,112,111,114,116])||(x== [114,101,97,100,111,110,108,121])||(x== [108,105,110,101,97,114])||(x== [99,111,110,99,97,116])||(x== [109,105,114,114,111,114])||(x== [115,110,97,112,115,104,111,116])||(x== [99,114,121,112,116])||(x== [105,110,116,101,103,114,105,116,121])||(x== [118,101,114,105,116,121])
end
section
inductive Nd where
 |mk (op s:List UInt8) (n:Int) (a:Int) (l:List Nd):Nd
def Nd.op:Nd→List UInt8| .mk o _ _ _ _=>o
def Nd.s:Nd→List UInt8| .mk _ s _ _ _=>s
def Nd.n:Nd→Int| .mk _ _ n _ _=>n
def Nd.a:Nd→Int| .mk _ _ _ a _=>a
def Nd.l:Nd→List Nd| .mk _ _ _ _ l=>l
def ji:List UInt8:= [102,105,108,101]
def j8:List UInt8:= [117,115,101]
def vk:List UInt8:= [110,117,109]
def js:List UInt8:= [110,97,109,101]
def Zn:List UInt8:= [104,101,120]
def g6:List UInt8:= [101,120,112,114]
def zc:List UInt8:= [100,101,118,105,99,101]
def zg:List UInt8:= [106,111,117,114,110,97,108]
def zT:List UInt8:= [107,101,121]
def zD:List UInt8:= [114,111,111,116]
def zp:List UInt8:= [118,111,108,117,109,101]
def zv:List UInt8:= [101,120,112,111,114,116]
def zO:List UInt8:= [114,101,97,100,111,110,108,121]
def jh:List UInt8:= [108,105,110,101,97,114]
def qZ:List UInt8:= [99,111,110,99,97,116]
def jq:List UInt8:= [109,105,114,114,111,114]
def qw:List UInt8:= [115,110,97,112,115,104,111,116]
def vx:List UInt8:= [99,114,121,112,116]
def qH:List UInt8:= [105,110,116,101,103,114,105,116,121]
def jV:List UInt8:= [118,101,114,105,116,121]
inductive Kd where
 |ex|nu|na
def Kd.w:Kd→List UInt8
 | .ex=>g6
 | .nu=>vk
 | .na=>js
def zr(op:List UInt8):List Kd×Bool:=
 if op=jh then([.ex,.nu,.nu],false)
 else if op=qZ∨op=jq then([.ex],true)
 else if op=qw then([.ex,.ex,.nu],false)
 else if op=vx∨op=qH∨op=jV then([.ex,.na],false)
 else([],false)
def jl(t:Tk):Bool:=t.kind==0&& !Zy t.s
def qM(x:List UInt8)(t:Tk):Bool:=t.kind==3&&t.s==x
def jS(k:Nat)(t:Tk):Bool:=t.kind==k
def jD(l:List (List UInt8))(t:Tk):Bool:=t.kind==0&&l.any (λy=>t.s==y)
def j6(t:Tk):Bool:=jl t||(t.kind==0&&decide (0<(zr t.s).1.length))
def yU(en:Nat):zo→Nat
 | []=>en
 |t::_=>t.2
abbrev PR(α:Type):=Except (Nat×Nat) (α×zo)
abbrev jk(α:Type):=Nat→zo→PR α
def qT{α:Type}(x:α):jk α:=λ_ ts=> .ok (x,ts)
def zt{α β:Type}(p:jk α)(f:α→jk β):jk β:=λen ts=>match p en ts with
 | .error e=> .error e
 | .ok (x,r)=>f x en r
def zn(p:Tk→Bool):jk (Tk×Nat):=λen ts=>match ts with
 | []=> .error (111,en)
 |t::r=>if p t.1 then .ok (t,r)else .error (111,t.2)
def qz(p:Tk→Bool)(ts:zo):Bool:=match ts with
 | []=>false
 |t::_=>p t.1
def QS{α:Type}(p:Tk→Bool)(x y:jk α):jk α:=λen ts=>if qz p ts then x en ts else y en ts
def jC(pe:jk Nd):Kd→jk Nd
 | .nu=>zt (zn (jS 1)) λt=>qT (.mk vk [] t.1.n t.2 [])
 | .na=>zt (zn jl) λt=>qT (.mk js t.1.s 0 t.2 [])
 | .ex=>pe
def QR:Tk→Bool:=qM [44]
def jx(pe:jk Nd):Bool→List Kd→jk (List Nd)
 |_,[]=>qT []
 |true,k::ks=>zt (jC pe k) λn=>zt (jx pe false ks) λl=>qT (n::l)
 |false,k::ks=>zt (zn QR) λ_=>zt (jC pe k) λn=>zt (jx pe false ks) λl=>qT (n::l)
def jY(pe:jk Nd):Nat→jk (List Nd)
 |0=>qT []
 |f+1=>QS QR (zt (zn QR) λ_=>zt pe λn=>zt (jY pe f) λl=>qT (n::l)) (qT [])
def qI(pe:jk Nd)(op:List UInt8):jk (List Nd):=
 zt (zn (qM [40])) λ_=>zt (jx pe true (zr op).1) λl =>
  zt (if(zr op).2 then jY pe 501 else qT []) λm=>zt (zn (qM [41])) λ_=>qT (l++m)
def zC:Nat→jk Nd
 |0=>λen ts=> .error (112,yU en ts)
 |d+1=>zt (zn j6) λt=>if jl t.1 then qT (.mk j8 t.1.s 0 t.2 [])else zt (qI (zC d) t.1.s) λl=>qT (.mk t.1.s [] 0 t.2 l)
def jt:List (List UInt8):= [zc,zg,zT,zD,zp,zv]
def qV(op:List UInt8):jk (Int×List Nd):=
 if op=zc∨op=zg then zt (zn (jS 1)) λt=>qT (t.1.n,[])
 else if op=zT∨op=zD then zt (zn (jS 2)) λt=>qT (0,[.mk Zn t.1.s 0 t.2 []])
 else if op=zp then zt (zn (qM [61])) λ_=>zt (zC 12) λn=>qT (0,[n])
 else QS (jD [zO]) (zt (zn (jD [zO])) λ_=>qT (1,[])) (qT (0,[]))
def qi:jk Nd:=zt (zn (jD jt)) λt=>zt (zn jl) λu=>zt (qV t.1.s) λr=>zt (zn (qM [59])) λ_=>qT (.mk t.1.s u.1.s r.1 t.2 r.2)
def qA:Nat→jk (List Nd)
 |0=>qT []
 |f+1=>λen ts=>match ts with
  | []=> .ok ([],[])
  |t::r=>(zt qi λn=>zt (qA f) λl=>qT (n::l)) en (t::r)
def jn(x:List UInt8):Except (Nat×Nat) Nd:=match j9 x with
 | .error e=> .error e
 | .ok ts=>match qA 501 x.length ts with
   | .error e=> .error e
   | .ok (l,_)=> .ok (.mk ji [] 0 0 l)
def zB{α:Type}(P:jk α):Prop:=∀en ts,
 (∀x r,P en ts= .ok (x,r)→∃q,ts=q++r∧∀en' r',r'.head?=r.head?→P en' (q++r')= .ok (x,r')) ∧
 (∀c k,P en ts= .error (c,k)→∃q r,ts=q++r∧k=yU en r∧∀en' r',r'.head?=r.head?→P en' (q++r')= .error (c,yU en' r'))
theorem Vz{q r r':zo}(h:r'.head?=r.head?):(q++r').head?=(q++r).head?:=by cases q<;>simp[h]
theorem zB.ret{α:Type}(x:α):zB (qT x):=by
 intro en ts;refine⟨λy r h=>?_,λc k h=>(by cases h)⟩;cases h;exact⟨[],rfl,λen' r' _=>rfl⟩
theorem zB.bind{α β:Type}{P:jk α}{f:α→jk β}(hP:zB P)(hf:∀x,zB (f x)):zB (zt P f):=by
 intro en ts;constructor
 ·intro y r h
  unfold zt at h;cases hp:P en ts with
  |error e=>rw[hp]at h;cases h
  |ok xr =>
   obtain⟨x,s⟩:=xr;rw[hp]at h;obtain⟨q1,e1,h1⟩:=(hP en ts).1 x s hp;obtain⟨q2,e2,h2⟩:=(hf x en s).1 y r h;refine⟨q1++q2,by rw[e1,e2,List.append_assoc],λen' r' hr=>?_⟩;unfold zt;rw[List.append_assoc,h1 en' (q2++r') (by rw[e2];exact Vz hr)];exact h2 en' r' hr
 ·intro c k h
  unfold zt at h;cases hp:P en ts with
  |error e =>
   rw[hp]at h;cases h;obtain⟨q,r,e1,e2,h1⟩:=(hP en ts).2 c k hp;refine⟨q,r,e1,e2,λen' r' hr=>?_⟩;unfold zt;rw[h1 en' r' hr]
  |ok xr =>
   obtain⟨x,s⟩:=xr;rw[hp]at h;obtain⟨q1,e1,h1⟩:=(hP en ts).1 x s hp;obtain⟨q2,r,e2,e3,h2⟩:=(hf x en s).2 c k h;refine⟨q1++q2,r,by rw[e1,e2,List.append_assoc],e3,λen' r' hr=>?_⟩;unfold zt;rw[List.append_assoc,h1 en' (q2++r') (by rw[e2];exact Vz hr)];exact h2 en' r' hr
theorem zB.take(p:Tk→Bool):zB (zn p):=by
 intro en ts;cases ts with
 |nil =>
  refine⟨λx r h=>(by cases h),λc k h=>?_⟩;cases h;refine⟨[],[],rfl,rfl,λen' r' hr=>?_⟩;cases r' with
  |nil=>rfl
  |cons a b=>cases hr
 |cons t ts =>
  constructor
  ·intro x r h
   simp only[zn]at h
   split at h
   ·rename_i hp
    cases h;refine⟨[t],rfl,λen' r' hr=>?_⟩;show(if p t.1 then _ else _)=_;rw[if_pos hp];rfl
   ·cases h
  ·intro c k h
   simp only[zn]at h
   split at h
   ·cases h
   ·rename_i hp
    cases h;refine⟨[],t::ts,rfl,rfl,λen' r' hr=>?_⟩;cases r' with
    |nil=>cases hr
    |cons a b =>
     simp only[List.head?_cons,Option.some.injEq]at hr;subst hr;show(if p a.1 then _ else _)=_;rw[if_neg hp];rfl
theorem kO(p:Tk→Bool){r r':zo}(h:r'.head?=r.head?):qz p r'=qz p r:=by
 cases r<;>cases r'<;>simp_all [qz]
theorem zB.fork{α:Type}(p:Tk→Bool){P Q:jk α}(hP:zB P)(hQ:zB Q):zB (QS p P Q):=by
 intro en ts;have key:∀(q r r':zo),r'.head?=r.head?→qz p (q++r')=qz p (q++r):=λq r r' h=>kO p (Vz h)
 unfold QS;by_cases h0:qz p ts=true
 ·rw[if_pos h0]
  constructor
  ·intro x r h
   obtain⟨q,e,hq⟩:=(hP en ts).1 x r h;refine⟨q,e,λen' r' hr=>?_⟩;rw[if_pos (by rw[key q r r' hr,←e];exact h0)];exact hq en' r' hr
  ·intro c k h
   obtain⟨q,r,e,ek,hq⟩:=(hP en ts).2 c k h;refine⟨q,r,e,ek,λen' r' hr=>?_⟩;rw[if_pos (by rw[key q r r' hr,←e];exact h0)];exact hq en' r' hr
 ·rw[if_neg h0]
  constructor
  ·intro x r h
   obtain⟨q,e,hq⟩:=(hQ en ts).1 x r h;refine⟨q,e,λen' r' hr=>?_⟩;rw[if_neg (by rw[key q r r' hr,←e];exact h0)];exact hq en' r' hr
  ·intro c k h
   obtain⟨q,r,e,ek,hq⟩:=(hQ en ts).2 c k h;refine⟨q,r,e,ek,λen' r' hr=>?_⟩;rw[if_neg (by rw[key q r r' hr,←e];exact h0)];exact hq en' r' hr
theorem zB.ite{α:Type}{P Q:jk α}(c:Prop)[Decidable c](hP:zB P)(hQ:zB Q):zB (if c then P else Q):=by
 split
 ·exact hP
 ·exact hQ
theorem Jn{pe:jk Nd}(h:zB pe)(k:Kd):zB (jC pe k):=by
 cases k
 ·exact h
 ·exact(zB.take _).bind λ_=>zB.ret _
 ·exact(zB.take _).bind λ_=>zB.ret _
theorem Xe{pe:jk Nd}(h:zB pe)(ks:List Kd):∀b,zB (jx pe b ks):=by
 induction ks with
 |nil=>intro b;cases b<;>exact zB.ret _
 |cons k ks ih =>
  intro b;cases b
  ·exact(zB.take _).bind λ_=>(Jn h k).bind λ_=>(ih false).bind λ_=>zB.ret _
  ·exact(Jn h k).bind λ_=>(ih false).bind λ_=>zB.ret _
theorem KM{pe:jk Nd}(h:zB pe)(f:Nat):zB (jY pe f):=by
 induction f with
 |zero=>exact zB.ret _
 |succ f ih=>exact zB.fork _ ((zB.take _).bind λ_=>h.bind λ_=>ih.bind λ_=>zB.ret _) (zB.ret _)
theorem Xv{pe:jk Nd}(h:zB pe)(op:List UInt8):zB (qI pe op):=
 (zB.take _).bind λ_=>(Xe h _ _).bind λ_=>(zB.ite _ (KM h _) (zB.ret _)).bind λ_=>(zB.take _).bind λ_=>zB.ret _
theorem Jr(d:Nat):zB (zC d):=by
 induction d with
 |zero =>
  intro en ts;refine⟨λx r h=>(by cases h),λc k h=>?_⟩;cases h;exact⟨[],ts,rfl,rfl,λen' r' hr=>rfl⟩
 |succ d ih=>exact(zB.take _).bind λ_=>zB.ite _ (zB.ret _) ((Xv ih _).bind λ_=>zB.ret _)
theorem ZF(op:List UInt8):zB (qV op):=by
 unfold qV
 exact zB.ite _ ((zB.take _).bind λ_=>zB.ret _) (zB.ite _ ((zB.take _).bind λ_=>zB.ret _)
  (zB.ite _ ((zB.take _).bind λ_=>(Jr 12).bind λ_=>zB.ret _) (zB.fork _ ((zB.take _).bind λ_=>zB.ret _) (zB.ret _))))
theorem K4:zB qi:=
 (zB.take _).bind λ_=>(zB.take _).bind λ_=>(ZF _).bind λ_=>(zB.take _).bind λ_=>zB.ret _
theorem Kb(f:Nat):zB (qA f):=by
 induction f with
 |zero=>exact zB.ret _
 |succ f ih =>
  have hb:zB (zt qi λn=>zt (qA f) λl=>qT (n::l)):=K4.bind λ_=>ih.bind λ_=>zB.ret _
  intro en ts;cases ts with
  |nil =>
   refine⟨λx r h=>?_,λc k h=>(by cases h)⟩;cases h;refine⟨[],rfl,λen' r' hr=>?_⟩;cases r' with
   |nil=>rfl
   |cons a b=>cases hr
  |cons t ts =>
   have hd:∀(q r r':zo),t::ts=q++r→r'.head?=r.head?→∀en',qA (f+1) en' (q++r')=(zt qi λn=>zt (qA f) λl=>qT (n::l)) en' (q++r'):=by
    intro q r r' e hr en';cases q with
    |nil =>
     cases r' with
     |nil=>simp only[List.nil_append]at e;subst e;cases hr
     |cons a b=>rfl
    |cons a b=>rfl
   constructor
   ·intro x r h
    obtain⟨q,e,hq⟩:=(hb en (t::ts)).1 x r h;exact⟨q,e,λen' r' hr=>(hd q r r' e hr en').trans (hq en' r' hr)⟩
   ·intro c k h
    obtain⟨q,r,e,ek,hq⟩:=(hb en (t::ts)).2 c k h;exact⟨q,r,e,ek,λen' r' hr=>(hd q r r' e hr en').trans (hq en' r' hr)⟩
end
section
open Go.ChangeShapes Go.WideShapes Go.ChangeAt Go.RowKit
def qY(k:IntKind)(n:Nat)(f:Nat→Nat):Array Value:=((List.range n).map λj=>Value.int k (f j:Nat)).toArray
theorem Jv(k:IntKind)(n:Nat)(f:Nat→Nat):(qY k n f).size=n:=by simp[qY]
theorem Zd(k:IntKind)(n:Nat)(f:Nat→Nat)(j:Nat)(h:j<n):(qY k n f)[j]?=some (.int k (f j:Nat)):=by
 simp[qY,h]
def upd(f:Nat→Nat)(j v:Nat):Nat→Nat:=λi=>if i=j then v else f i
theorem uq(k:IntKind)(n:Nat)(f:Nat→Nat)(j v:Nat):(qY k n f).setIfInBounds j (.int k (v:Nat))=qY k n (upd f j v):=by
 apply Array.ext_getElem?;intro i;rw[Array.getElem?_setIfInBounds];simp only[Jv];by_cases hi:i<n
 ·rw[Zd _ _ _ _ hi,Zd _ _ _ _ hi]
  by_cases e:j=i
  ·subst e;simp[upd,hi]
  ·have :¬i=j:=λh=>e h.symm
   simp[upd,e,this]
 ·have e1:(qY k n f)[i]?=none:=by simp[qY];omega
  have e2:(qY k n (upd f j v))[i]?=none:=by simp[qY];omega
  rw[e1,e2]
  split
  ·subst_vars;simp[hi]
  ·rfl
theorem YF(k:IntKind)(n:Nat)(f g:Nat→Nat)(h:∀j,j<n→f j=g j):qY k n f=qY k n g:=by
 unfold qY
 congr 1
 apply List.map_congr_left;intro j hj;rw[h j (by simpa using hj)]
def ze(w:World)(g t:Nat)(cs:Array Value):Prop:=w.heap[g]?=some (.cells cs t (0,0))
theorem ze.lt{w:World}{g t:Nat}{cs:Array Value}(h:ze w g t cs):g<w.heap.size:=(Array.getElem?_eq_some_iff.1 h).1
theorem ze.cell{w:World}{g t:Nat}{cs:Array Value}(h:ze w g t cs)(j:Nat):w.cell? ⟨g,j,none⟩=cs[j]?:=cell_of_row w g j cs t (0,0) h
theorem ze.num{w:World}{g t n:Nat}{k:IntKind}{f:Nat→Nat}(h:ze w g t (qY k n f))(j:Nat)(hj:j<n):w.cell? ⟨g,j,none⟩=some (.int k (f j:Nat)):=by
 rw[h.cell,Zd _ _ _ _ hj]
theorem ze.free{w:World}{g t:Nat}{cs:Array Value}(h:ze w g t cs)(j:Nat):w.frozen? ⟨g,j,none⟩=false:=by
 have h':w.heap[g]?=some (.cells cs t (0,0)):=h;simp[World.frozen?,h']
theorem ze.below{w w':World}{B g t:Nat}{cs:Array Value}(h:ze w g t cs)(hb:Below B w w')(hg:g<B):ze w' g t cs:=(hb.block g hg).trans h
theorem ze.drewN{w:World}{g t:Nat}{cs:Array Value}(h:ze w g t cs)(m:Nat):ze (w.drewN m) g t cs:=h
theorem ze.alloc{w:World}{g t:Nat}{cs:Array Value}(h:ze w g t cs)(o:Obj):ze (w.alloc o) g t cs:=(Below.heap_alloc w o g h.lt).trans h
theorem ze.new(w:World)(t:Nat)(cs:Array Value):ze (w.alloc (.cells cs t)) w.heap.size t cs:=heap_alloc_new w _
theorem ze.new_at{w:World}{g t:Nat}{cs:Array Value}(h:g=w.heap.size):ze (w.alloc (.cells cs t)) g t cs:=h ▸ heap_alloc_new w _
theorem ze.other{w:World}{g t:Nat}{cs:Array Value}(h:ze w g t cs){p:Addr}(hp:g≠p.block)(u:Value):ze (w.setCell p u) g t cs:=(Below.heap_setCell w p u g hp).trans h
theorem ze.set{w:World}{g t n:Nat}{k:IntKind}{f:Nat→Nat}(h:ze w g t (qY k n f))(j v:Nat):ze (w.setCell ⟨g,j,none⟩ (.int k (v:Nat))) g t (qY k n (upd f j v)):=by
 have h':w.heap[g]?=some (.cells (qY k n f) t (0,0)):=h;show(w.setCell ⟨g,j,none⟩ _).heap[g]?=_;simp only[World.setCell,Array.getElem?_modify,h',if_pos,Option.map_some];rw[uq];rfl
theorem ze.setRow{w:World}{g t:Nat}{cs:Array Value}(h:ze w g t cs)(cs':Array Value):ze (w.setRow g cs') g t cs':=setRow_heap w g cs cs' t (0,0) h
theorem vB{B:Nat}{a w:World}(h:Below B a w){g:Nat}(hg:B≤g)(cs:Array Value):Below B a (w.setRow g cs):=
 h.trans ⟨rfl,rfl,rfl,by simp[World.setRow],λk hk=>by simp only[World.setRow,Array.getElem?_modify];rw[if_neg (by omega)]⟩
theorem ze.setRow_other{w:World}{g g' t:Nat}{cs:Array Value}(h:ze w g t cs)(hne:g≠g')(cs':Array Value):ze (w.setRow g' cs') g t cs:=by
 show(w.setRow g' cs').heap[g]?=_;simp only[World.setRow,Array.getElem?_modify];rw[if_neg (λe=>hne e.symm)];exact h
theorem ze.load{w:World}{g t n e:Nat}{cs:Array Value}(h:ze w g t cs)(ty:Nat)(hu:Tryz.prog.underlying ty=some (.array n e))(hi:(Tryz.prog.info? ty).map (·.size)=some cs.size):
 (Instr.loadAt ty (.pointer (some ⟨g,0,none⟩))).run Tryz.prog w= .ok (.agg cs) w:=by
 simp only[Instr.loadAt,Instr.sureAddr,Sem.run_bind,Sem.run_pure,Result.andThen];exact run_loadVar_row _ _ t ty cs (0,0) _ h hu rfl hi
theorem ze.store{w:World}{g t:Nat}{cs cs':Array Value}(h:ze w g t cs)(ty:Nat)(hi:(Tryz.prog.info? ty).map (·.size)=some cs'.size)(ho:cs.size=cs'.size)(h1:cs'.all (·.oneCell')=true):
 (Instr.storeAt ty (.pointer (some ⟨g,0,none⟩)) (.agg cs')).run Tryz.prog w= .ok () (w.setRow g cs'):=by
 simp only[Instr.storeAt,Instr.sureAddr,Sem.run_bind,Sem.run_pure,Result.andThen];exact run_storeVar_row w g t ty cs cs' h hi ho h1
def part(f:Nat→Nat)(k:Nat):Nat→Nat:=λj=>if j<k then f j else 0
theorem Tryz.info5:(Tryz.prog.info? 5).map (λi=>(i.zero,i.size,i.bytes))=some (some (.int .u8 0),1,1):=by kernel_rfl
def Zu(w:World)(a:Option Addr)(len:Nat)(m:Nat→Nat):Prop:=len=0∨∃b off,a=some ⟨b,off,none⟩∧b<w.heap.size∧∀j,j<len→w.cell? ⟨b,off+j,none⟩=some (.int .u8 (m j:Nat))
theorem Zu.below{w w':World}{a:Option Addr}{len B:Nat}{m:Nat→Nat}(h:Zu w a len m)(hb:Below B w w')(hB:w.heap.size≤B):Zu w' a len m:=by
 rcases h with h|⟨b,off,h1,h2,h3⟩
 ·exact .inl h
 ·exact .inr ⟨b,off,h1,Nat.lt_of_lt_of_le h2 hb.size,λj hj=>(hb.cell (show b<B by omega)).trans (h3 j hj)⟩
def bl(f:Nat→Nat)(n:Nat):List Value:=(List.range n).map λj=>Value.int .u8 (f j:Nat)
def cat(f:Nat→Nat)(n:Nat)(g:Nat→Nat):Nat→Nat:=λj=>if j<n then f j else g (j-n)
theorem YP(w:World)(r:Option Nat):w.grownBy w r:=⟨rfl,rfl,rfl,Nat.le_refl _,λ_ _ _=>rfl⟩
theorem ze.bytes{w:World}{g t n:Nat}{f:Nat→Nat}(h:ze w g t (qY .u8 n f)):Zu w (some ⟨g,0,none⟩) n f:=
 .inr ⟨g,0,rfl,h.lt,λj hj=>by rw[Nat.zero_add];exact h.num j hj⟩
theorem Zu.setRow{w:World}{a:Option Addr}{len:Nat}{m:Nat→Nat}(h:Zu w a len m)(g:Nat)(cs:Array Value)(hne:∀b o,a=some ⟨b,o,none⟩→b≠g):Zu (w.setRow g cs) a len m:=by
 rcases h with h|⟨b,o,rfl,hlt,hc⟩
 ·exact .inl h
 ·have hb:=setRow_other w g b cs (hne b o rfl)
  have hlt':b<(w.setRow g cs).heap.size:=(Array.getElem?_eq_some_iff.1 (hb.trans (Array.getElem?_eq_getElem hlt))).1;exact .inr ⟨b,o,rfl,hlt',λj hj=>by rw[←hc j hj];simp only[World.cell?,hb]⟩
theorem Zu.part{w:World}{b o len:Nat}{m:Nat→Nat}(h:Zu w (some ⟨b,o,none⟩) len m)(s k:Nat)(hk:s+k≤len):Zu w (some ⟨b,o+s,none⟩) k (λj=>m (s+j)):=by
 rcases h with h|⟨b',o',e,hlt,hc⟩
 ·exact .inl (by omega)
 ·cases e
  exact .inr ⟨b,o+s,rfl,hlt,λj hj=>by rw[Nat.add_assoc];exact hc _ (by omega)⟩
theorem zb{ops:Array Oper}{rest:List Oper}{o:Oper}{a:Act}{w:World}{Q:Exit→Act→World→Prop}(d:Option Tmp)(v:Value)(hd:o.dst=d)(hw:Region.wanted o (yielded ops a.tmps)=true)
 (hrun:(execOp a.eval o).run Tryz.prog w= .ok (.value v) w) (h:wpList Tryz.prog ops Q rest (a.put d v) w):wpList Tryz.prog ops Q (o::rest) a w:=
 wpList_step λK hK=>by
  subst hd;rw[if_pos hw];unfold Oper.wp;rw[hrun];exact hK _ _ h
theorem j1{ops:Array Oper}{rest:List Oper}{o:Oper}{a:Act}{w:World}{Q:Exit→Act→World→Prop}(d:Option Tmp)(v:Value)(w':World)(hd:o.dst=d)(hw:Region.wanted o (yielded ops a.tmps)=true)
 (hrun:(execOp a.eval o).run Tryz.prog w= .ok (.value v) w') (h:wpList Tryz.prog ops Q rest (a.put d v) w'):wpList Tryz.prog ops Q (o::rest) a w:=
 wpList_step λK hK=>by
  subst hd;rw[if_pos hw];unfold Oper.wp;rw[hrun];exact hK _ _ h
theorem Fk(n:Nat):(madeCells (Value.int .u8 0).cells (n*1)).toList=bl (λ_=>0) n:=by
 unfold bl madeCells;apply List.ext_getElem?;intro i;by_cases h:i<n
 ·simp[h,Value.cells,Nat.mod_one]
 ·simp[h,Value.cells]
theorem FO{w:World}{base n g:Nat}{f:Nat→Nat}(h:w.ownsRow base 5 1 (.slice (some ⟨g,0,none⟩) n n) n (bl f n)):ze w g 5 (qY .u8 n f):=by
 rcases h.2 with⟨e,_⟩|⟨g',cap,cur,e,hb,hg,hn,hm,hs,ht⟩
 ·cases e
 ·injection e with e1 _ e3
  injection e1 with e1
  injection e1 with e1
  subst e1 e3
  have hc:cur=qY .u8 n f:=by
   apply Array.toList_inj.1;rw[←List.take_of_length_le (l:=cur.toList) (i:=n*1) (by rw[Array.length_toList,hs];exact Nat.le_refl _),ht];unfold bl qY;rfl
  show w.heap[g]?=_;rw[hg,hc]
theorem fN(n:Nat)(hn:n≤10000000)(w:World):∃w',ze w' w.heap.size 5 (qY .u8 n λ_=>0)∧Below w.heap.size w w' ∧
 ∀(o:Oper) (a:Act) (l c:Operand),o.op= .makeSlice 45 l c→a.eval l= .int .i64 (n:Nat)→a.eval c= .int .i64 (n:Nat)→(execOp a.eval o).run Tryz.prog w= .ok (.value (.slice (some ⟨w.heap.size,0,none⟩) n n)) w':=by
 obtain⟨i0,hi,hz0,hz1,hz2⟩:=info_parts Tryz.info5;obtain⟨w',hrun,r1,r2⟩:=run_make_full (P:=Tryz.prog) w w.heap.size 45 5 i0 (.int .u8 0) 1 Tryz.underlying45 hi hz0 hz1 .i64 .i64 n (by rw[hz2];omega) (by unfold maxLen;omega) (Nat.le_refl _);rw[Fk]at r1;refine⟨w',FO r1,(Below.refl _ _).grown r2 (Nat.le_refl _) (by intro k h;cases h),?_⟩;intro o a l c ho hl hc;unfold execOp;simp[ho,hl,hc,hrun,Result.andThen]
def over(F:Nat→Nat)(o n:Nat)(f:Nat→Nat):Nat→Nat:=λj=>if o≤j∧j<o+n then f (j-o)else F j
theorem ze.grown{w w':World}{g b t:Nat}{cs:Array Value}(h:ze w b t cs)(hg:w.grownBy w' (some g))(hne:b≠g):ze w' b t cs:=(hg.block b h.lt (λe=>hne (by cases e;rfl))).trans h
theorem Zu.range{w:World}{b o len:Nat}{m:Nat→Nat}(h:Zu w (some ⟨b,o,none⟩) len m)(s k:Nat)(hk:s+k≤len):w.rangeAt b (o+s) (qY .u8 k (λj=>m (s+j))).toList:=by
 intro j v hj
 have hjk:j<k:=by
  have:=(List.getElem?_eq_some_iff.1 hj).1
  rwa [Array.length_toList,Jv]at this
 rw[Array.getElem?_toList,Zd _ _ _ _ hjk]at hj;cases hj;rcases h with h|⟨b',o',e,_,hc⟩
 ·omega
 ·cases e
  rw[Nat.add_assoc];exact hc (s+j) (by omega)
theorem zk {α : Type} (l : List α) (i : Nat) (v : α) : l.toArray.setIfInBounds i v = (l.set i v).toArray := by simp
theorem zj {α : Type} {a b : α} {l : List α} : (a :: l).set 0 b = b :: l := rfl
theorem zl {α : Type} {a b : α} {l : List α} {n : Nat} : (a :: l).set (n + 1) b = a :: l.set n b := rfl
theorem jg {α : Type} {l : List α} {i : Nat} : l.toArray[i]? = l[i]? := by simp
theorem jd {α : Type} {a : α} {l : List α} : (a :: l)[0]? = some a := rfl
theorem jf {α : Type} {a : α} {l : List α} {i : Nat} : (a :: l)[i + 1]? = l[i]? := rfl
end
section
open Go.ChangeShapes Go.WideShapes Go.ChangeAt Go.RowKit
section
variable {P:Program} {ops:Array Oper} {Q:Exit→Act→World→Prop} {md:Region.Mode} {S:World→Prop} {m:Nat}
theorem DE{oi:Oper}(i:Nat)(d:Option Tmp)(v:Value){fuel:Nat}{listed:Array Bool}{a:Act}{w:World}(hi:ops[i]?=some oi)(hd:oi.dst=d)
 (hs:Region.noSelect ops=true) (hf:Region.free md ops listed i=true) (hr:(Region.ready md ops listed).contains i=true)
 (hQ:∀c a w,Q (.panic c) (a.put d v) w→Q (.panic c) a w) (hw:Region.wanted oi (yielded ops a.tmps)=true) (hy:∀w,S w→(execOp a.eval oi).run P w= .ok (.value v) w) (hS:S w)
 (h:wpAnyH P md ops Q S fuel (listed.setIfInBounds i true) (a.put d v) w):wpAnyH P md ops Q S (fuel+1) listed a w:=by
 subst hd;exact wpAnyH_take hi hs hf hr hQ (.inl ⟨hw,hy⟩) hS h
theorem uh{oi:Oper}(i:Nat)(d:Option Tmp)(f:FuncId)(args:Array Value){fuel:Nat}{listed:Array Bool}{a:Act}{w:World}{Post:Ending→World→Prop}
 (hr:Region.ready md ops listed= [i]) (hi:ops[i]?=some oi) (hd:oi.dst=d) (hw:Region.wanted oi (yielded ops a.tmps)=true)
 (hrun:(execOp a.eval oi).run P w= .ok (.enter f args) w) (hc:Calls P f args w Post)
 (h:∀e w',Post e w'→∃v,e= .returned v∧S w'∧wpAnyH P md ops Q S fuel (listed.setIfInBounds i true) (a.put d v) w'):wpAnyH P md ops Q S (fuel+1) listed a w:=by
 subst hd;refine wpAnyH_ready hr (by simp) (AllReadyH.cons hi (λK hK=>?_) AllReadyH.nil);rw[if_pos hw];unfold Oper.wp;rw[hrun,Oper.upon_enter];refine hc.mono λe w' hh=>?_
 obtain⟨v,rfl,hS,hrest⟩:=h e w' hh;exact hK.out _ _ hS (λ_=>hrest)
def Di(P:Program)(md:Region.Mode)(ops:Array Oper)(Q:Exit→Act→World→Prop)(S:World→Prop)(fuel:Nat)(listed:Array Bool)(a:Act)(w:World)(i:Nat):Prop:=
 wpOp P ops Q i (λa' w'=>S w'∧wpAnyH P md ops Q S fuel (listed.setIfInBounds i true) a' w') a w
theorem yR{fuel:Nat}{listed:Array Bool}{a:Act}{w:World}(i:Nat)(hr:Region.ready md ops listed= [i])(h:Di P md ops Q S fuel listed a w i):wpAnyH P md ops Q S (fuel+1) listed a w:=
 wpAnyH_all hr (by simp) (λk hk=>by obtain rfl:k=i:=(by simpa using hk);exact h)
theorem Z4{oi:Oper}{i:Nat}(d:Option Tmp)(v:Value)(w':World){fuel:Nat}{listed:Array Bool}{a:Act}{w:World}
 (hi:ops[i]?=some oi) (hd:oi.dst=d) (hw:Region.wanted oi (yielded ops a.tmps)=true)
 (hrun:(execOp a.eval oi).run P w= .ok (.value v) w')
 (h:S w'∧wpAnyH P md ops Q S fuel (listed.setIfInBounds i true) (a.put d v) w'):Di P md ops Q S fuel listed a w i:=by
 subst hd;refine wpOp_step hi (λK hK=>?_);rw[if_pos hw];unfold Oper.wp;rw[hrun];exact hK _ _ h
theorem xW{oi:Oper}{i:Nat}(d:Option Tmp)(w':World){fuel:Nat}{listed:Array Bool}{a:Act}{w:World}
 (hi:ops[i]?=some oi) (hd:oi.dst=d) (hw:Region.wanted oi (yielded ops a.tmps)=true)
 (hrun:(execOp a.eval oi).run P w= .ok .skip w')
 (h:S w'∧wpAnyH P md ops Q S fuel (listed.setIfInBounds i true) (a.put d undef) w'):Di P md ops Q S fuel listed a w i:=by
 subst hd;refine wpOp_step hi (λK hK=>?_);rw[if_pos hw];unfold Oper.wp;rw[hrun];exact hK _ _ h
def vA(P:Program)(md:Region.Mode)(ops:Array Oper)(Q:Exit→Act→World→Prop)(S:World→Prop)(m:Nat):Nat→Array Bool→Act→World→Prop
 |0,listed,a,w=>Region.ready md ops listed= []∧Q .normal a w
 |n+1,listed,a,w=>(Region.ready md ops listed= []→Q .normal a w)∧∀j ∈ Region.ready md ops listed,wpOp P ops Q j (λa' w'=>(j≠m→S w')∧vA P md ops Q S m n (listed.setIfInBounds j true) a' w') a w
theorem vA.any:∀(n:Nat) (listed:Array Bool) (a:Act) (w:World),vA P md ops Q S m n listed a w→wpAny P md ops Q n listed a w
 |0,_,_,_,h=>h
 |n+1,_,_,_,h=>⟨h.1,λj hj=>wpOp_mono (λa' w' h'=>vA.any n _ a' w' h'.2) (h.2 j hj)⟩
theorem vu{id:Nat}{a:Act}{w:World}(m:Nat)(hm:P.follows .mixedOrders=true)(hS:S w.drew)
 (h:S w.drew→vA P .any ops Q S m ops.size (Array.replicate ops.size false) a w.drew):(Code.region id ops true).wp P Q a w:=
 wp_region_any hm (vA.any _ _ _ _ (h hS))
def ve(md:Region.Mode)(ops:Array Oper)(m i:Nat):Bool:=(ops[m]?).any λo=>o.after.any λe=>Region.binds md e&&e.on==i
theorem DZ{i:Nat}{listed:Array Bool}(hw:ve md ops m i=true)(hr:i ∈ Region.ready md ops listed):m ∉ Region.ready md ops listed:=by
 intro hm;obtain⟨_,o,ho,hall⟩:=mem_ready.1 hm;obtain⟨hi0,_⟩:=mem_ready.1 hr;simp only[ve,ho,Option.any_some,Array.any_eq_true',Bool.and_eq_true,beq_iff_eq]at hw;obtain⟨e,he,hb,rfl⟩:=hw;have h1:=hall e he hb;by_cases hlt:e.on<listed.size
 ·simp[hlt]at hi0 h1
  rw[hi0]at h1;cases h1
 ·simp[Array.getElem?_eq_none (Nat.not_lt.1 hlt)]at h1
theorem vA.front{i:Nat}{oi:Oper}{v:Value}(hi:ops[i]?=some oi)(him:i≠m)(hw:ve md ops m i=true)(hsel:∀(j:Nat) (o:Oper) cs b,ops[j]?=some o→o.op≠ .select cs b)
 (hQ:∀c a w,Q (.panic c) (a.put oi.dst v) w→Q (.panic c) a w):∀(n:Nat) (listed:Array Bool) (a:Act) (w:World),
   (∀j oj,ops[j]?=some oj→j≠i→listed.getD j true=false→(∀e ∈ oj.after,Region.binds md e=true→e.on≠i)→oi.apart ops oj=true) →
   i ∈ Region.ready md ops listed→YieldsIf P ops S oi v a→S w→vA P md ops Q S m n (listed.setIfInBounds i true) (a.put oi.dst v) w→vA P md ops Q S m (n+1) listed a w
 |n,listed,a,w,hfree,hr,hy,hS,H=>by
  refine⟨λh=>absurd (h ▸ hr) (by simp),λj hj=>?_⟩;by_cases hji:j=i
  ·subst hji
   exact hy.wpOp hi hS ⟨λ_=>hS,H⟩
  have hjm:j≠m:=λe=>DZ hw hr (e ▸ hj)
  have hj':=ready_mono hj hji;cases n with
  |zero=>exact absurd (H.1 ▸ hj') (by simp)
  |succ n =>
   obtain⟨hjun,oj,hoj,hall⟩:=mem_ready.1 hj
   have hno:∀e ∈ oj.after,Region.binds md e=true→e.on≠i:=by
    intro e he hb heq;have h1:=hall e he hb;have h0:=(mem_ready.1 hr).1;subst heq;by_cases hlt:e.on<listed.size
    ·simp[hlt]at h0 h1
     rw[h0]at h1;cases h1
    ·simp[Array.getElem?_eq_none (Nat.not_lt.1 hlt)]at h1
   refine wpOp_mono ?_ (wpOp_putIf hoj (hfree j oj hoj hji hjun hno) (λcs b=>hsel i oi cs b hi) (λcs b=>hsel j oj cs b hoj) hQ hy (H.2 j hj'));rintro a' w' ⟨hy',hS',H'⟩;refine⟨hS',vA.front hi him hw hsel hQ n (listed.setIfInBounds j true) a' w' (λk ok hk hki hun hn=>hfree k ok hk hki ?_ hn) (ready_mono hr (Ne.symm hji)) hy' (hS' hjm) ?_⟩
   ·by_cases hjk:j=k
    ·subst hjk;exact hjun
    ·rwa [getD_set_ne true hjk]at hun
   ·rw[Array.setIfInBounds_comm _ _ hji]
    exact H'
theorem zab{oi:Oper}(i:Nat)(d:Option Tmp)(v:Value){n:Nat}{listed:Array Bool}{a:Act}{w:World}(hi:ops[i]?=some oi)(hd:oi.dst=d)(him:i≠m)(hwf:ve md ops m i=true)
 (hs:Region.noSelect ops=true) (hf:Region.free md ops listed i=true) (hr:(Region.ready md ops listed).contains i=true)
 (hQ:∀c a w,Q (.panic c) (a.put d v) w→Q (.panic c) a w) (hw:Region.wanted oi (yielded ops a.tmps)=true) (hy:∀w,S w→(execOp a.eval oi).run P w= .ok (.value v) w) (hS:S w)
 (h:vA P md ops Q S m n (listed.setIfInBounds i true) (a.put d v) w):vA P md ops Q S m (n+1) listed a w:=by
 subst hd;exact vA.front hi him hwf (Region.noSelect_spec hs) hQ n listed a w (Region.free_spec hi hf) (by simpa using hr) (.inl ⟨hw,hy⟩) hS h
theorem jA{oi:Oper}(m:Nat)(d:Option Tmp)(w':World){n:Nat}{listed:Array Bool}{a:Act}{w:World}(hr:Region.ready md ops listed= [m])
 (hi:ops[m]?=some oi) (hd:oi.dst=d) (hw:Region.wanted oi (yielded ops a.tmps)=true)
 (hrun:(execOp a.eval oi).run P w= .ok .skip w') (he:Region.ready md ops (listed.setIfInBounds m true)= [])
 (h:Q .normal (a.put d undef) w'):vA P md ops Q S m (n+1) listed a w:=by
 subst hd;refine⟨λh0=>absurd (hr ▸ h0) (by simp),λj hj=>?_⟩;obtain rfl:j=m:=by rw[hr]at hj;simpa using hj
 refine wpOp_step hi (λK hK=>?_);rw[if_pos hw];unfold Oper.wp;rw[hrun];refine hK _ _ ⟨λh=>absurd rfl h,?_⟩;cases n with
 |zero=>exact⟨he,h⟩
 |succ n=>exact⟨λ_=>h,by rw[he];simp⟩
theorem fu{oi:Oper}(i:Nat)(d:Option Tmp)(f:FuncId)(args:Array Value){n:Nat}{listed:Array Bool}{a:Act}{w:World}{Post:Ending→World→Prop}
 (hr:Region.ready md ops listed= [i]) (hi:ops[i]?=some oi) (hd:oi.dst=d) (hw:Region.wanted oi (yielded ops a.tmps)=true)
 (hrun:(execOp a.eval oi).run P w= .ok (.enter f args) w) (hc:Calls P f args w Post)
 (h:∀e w',Post e w'→∃v,e= .returned v∧S w'∧vA P md ops Q S m n (listed.setIfInBounds i true) (a.put d v) w'):vA P md ops Q S m (n+1) listed a w:=by
 subst hd;refine⟨λh0=>absurd (hr ▸ h0) (by simp),λj hj=>?_⟩;obtain rfl:j=i:=by rw[hr]at hj;simpa using hj
 refine wpOp_step hi (λK hK=>?_);rw[if_pos hw];unfold Oper.wp;rw[hrun,Oper.upon_enter];refine hc.mono λe w' hh=>?_
 obtain⟨v,rfl,hS,hrest⟩:=h e w' hh;exact hK _ _ ⟨λ_=>hS,hrest⟩
theorem jp{oi:Oper}(i:Nat)(d:Option Tmp)(v:Value)(w':World){n:Nat}{listed:Array Bool}{a:Act}{w:World}
 (hr:Region.ready md ops listed= [i]) (hi:ops[i]?=some oi) (hd:oi.dst=d) (hw:Region.wanted oi (yielded ops a.tmps)=true)
 (hrun:(execOp a.eval oi).run P w= .ok (.value v) w') (hS:S w')
 (h:vA P md ops Q S m n (listed.setIfInBounds i true) (a.put d v) w'):vA P md ops Q S m (n+1) listed a w:=by
 subst hd;refine⟨λh0=>absurd (hr ▸ h0) (by simp),λj hj=>?_⟩;obtain rfl:j=i:=by rw[hr]at hj;simpa using hj
 refine wpOp_step hi (λK hK=>?_);rw[if_pos hw];unfold Oper.wp;rw[hrun];exact hK _ _ ⟨λ_=>hS,h⟩
end
theorem ju{o:Oper}{a:Act}(ty:TypeId)(x y:Operand)(ho:o.op= .store ty x y)(g:Nat)(hx:a.eval x= .pointer (some ⟨g,0,none⟩))(X:Array Value)(hy:a.eval y= .agg X)(t:TypeId){cs:Array Value}
 (hi:(Tryz.prog.info? ty).map (·.size)=some X.size) (w:World) (h:ze w g t cs) (hs:cs.size=X.size) (h1:X.all (·.oneCell')=true):(execOp a.eval o).run Tryz.prog w= .ok .skip (w.setRow g X):=by
 unfold execOp;simp only[ho,hx,hy,Sem.run_bind,h.store ty hi hs h1];rfl
theorem Zl{o:Oper}{a:Act}(ty:TypeId)(x i:Operand)(ho:o.op= .indexAddr ty x i)(g off k n cap:Nat)(e:TypeId)(hx:a.eval x= .slice (some ⟨g,off,none⟩) n cap)(hi:a.eval i= .int .i64 (k:Nat))
 (hu:Tryz.prog.underlying ty=some (.slice e)) (hs:(Tryz.prog.info? e).map (·.size)=some 1) (hk:k<n) (w:World):(execOp a.eval o).run Tryz.prog w= .ok (.value (.pointer (some ⟨g,off+k,none⟩))) w:=by
 unfold execOp;cases hq:Tryz.prog.info? e with
 |none=>simp[hq]at hs
 |some inf =>
  have hz:inf.size=1:=by simpa [hq]using hs
  simp only[ho,hx,hi];simp[Instr.indexAt,Instr.sureAddr,run_underlying hu,asIntOf,sizeOf,typeInfo,hq,hz,Addr.add_mid,go_sem];intro h;omega
theorem Qf{o:Oper}{a:Act}(ty e:TypeId)(hu:Tryz.prog.underlying ty=some (.slice e))(x:Operand)(ho:o.op= .call { callee:= .builtin .len,args:=#[x],argTypes:=#[ty] })(A:Option Addr)(L C:Nat)(hx:a.eval x= .slice A L C)(w:World):
 (execOp a.eval o).run Tryz.prog w= .ok (.value (.int .i64 (L:Nat))) w:=by
 have hr:(Builtin.len_ #[ty] o.type #[.slice A L C]).run Tryz.prog w= .ok (.int .i64 (L:Nat)) w:=by
  simp[Builtin.len_,run_underlying hu,go_sem,goInt]
 unfold execOp;simp[ho,resolve,invoke,builtin,hx,hr]
theorem KC{o:Oper}{a:Act}(x y:Operand)(ho:o.op= .binOp .lss 3 x y 3)(p q:Nat)(hx:a.eval x= .int .i64 (p:Nat))(hy:a.eval y= .int .i64 (q:Nat))(c:Bool)(h:decide (p<q)=c)(w:World):(execOp a.eval o).run Tryz.prog w= .ok (.value (.bool c)) w:=by
 subst h;have e:decide ((p:Int)<(q:Int))=decide (p<q):=by simp
 unfold execOp;simp only[ho,hx,hy];go_simp
theorem qq {P : Program} {ops : Array Oper} {Q : Exit → Act → World → Prop} {md : Region.Mode} {S : World → Prop} {oi : Oper} (i : Nat) (d : Option Tmp) (v : Value) {fuel : Nat} {listed : Array Bool} {a : Act} {w : World} (hi : ops[i]? = some oi) (hd : oi.dst = d) (hy : ∀ w, S w → (execOp a.eval oi).run P w = .ok (.value v) w) (hS : S w) (h : wpAnyH P md ops Q S fuel (listed.setIfInBounds i true) (a.put d v) w) (hs : Region.noSelect ops = true := by kernel_rfl) (hf : Region.free md ops listed i = true := by kernel_rfl) (hr : (Region.ready md ops listed).contains i = true := by kernel_rfl) (hQ : ∀ c a w, Q (.panic c) (a.put d v) w → Q (.panic c) a w := by exact fun _ _ _ h => h) (hw : Region.wanted oi (yielded ops a.tmps) = true := by rfl) : wpAnyH P md ops Q S (fuel + 1) listed a w := DE i d v hi hd hs hf hr hQ hw hy hS h
theorem vK {P : Program} {ops : Array Oper} {Q : Exit → Act → World → Prop} {md : Region.Mode} {S : World → Prop} {m : Nat} {oi : Oper} (i : Nat) (d : Option Tmp) (v : Value) {n : Nat} {listed : Array Bool} {a : Act} {w : World} (hi : ops[i]? = some oi) (hd : oi.dst = d) (hy : ∀ w, S w → (execOp a.eval oi).run P w = .ok (.value v) w) (hS : S w) (h : vA P md ops Q S m n (listed.setIfInBounds i true) (a.put d v) w) (him : i ≠ m := by decide) (hwf : ve md ops m i = true := by kernel_rfl) (hs : Region.noSelect ops = true := by kernel_rfl) (hf : Region.free md ops listed i = true := by kernel_rfl) (hr : (Region.ready md ops listed).contains i = true := by kernel_rfl) (hQ : ∀ c a w, Q (.panic c) (a.put d v) w → Q (.panic c) a w := by exact fun _ _ _ h => h) (hw : Region.wanted oi (yielded ops a.tmps) = true := by rfl) : vA P md ops Q S m (n + 1) listed a w := zab i d v hi hd him hwf hs hf hr hQ hw hy hS h
theorem zS {P : Program} {ops : Array Oper} {Q : Exit → Act → World → Prop} {md : Region.Mode} {S : World → Prop} (i : Nat) (d : Option Tmp) (v : Value) {fuel : Nat} {listed : Array Bool} {a : Act} {w : World} (hS : S w) (h : wpAnyH P md ops Q S fuel (listed.setIfInBounds i true) (a.put d v) w) (hy : ∃ oi, ops[i]? = some oi ∧ oi.dst = d ∧ Region.wanted oi (yielded ops a.tmps) = true ∧ ∀ w, (execOp a.eval oi).run P w = .ok (.value v) w := by exact ⟨_, rfl, rfl, rfl, fun _ => rfl⟩) (hs : Region.noSelect ops = true := by kernel_rfl) (hf : Region.free md ops listed i = true := by kernel_rfl) (hr : (Region.ready md ops listed).contains i = true := by kernel_rfl) (hQ : ∀ c a w, Q (.panic c) (a.put d v) w → Q (.panic c) a w := by exact fun _ _ _ h => h) : wpAnyH P md ops Q S (fuel + 1) listed a w := by
  obtain ⟨oi, hi, hd, hw, hy⟩ := hy
  exact DE i d v hi hd hs hf hr hQ hw (fun w _ => hy w) hS h
theorem vI {P : Program} {ops : Array Oper} {Q : Exit → Act → World → Prop} {md : Region.Mode} {S : World → Prop} {m : Nat} (i : Nat) (d : Option Tmp) (v : Value) {n : Nat} {listed : Array Bool} {a : Act} {w : World} (hS : S w) (h : vA P md ops Q S m n (listed.setIfInBounds i true) (a.put d v) w) (hy : ∃ oi, ops[i]? = some oi ∧ oi.dst = d ∧ Region.wanted oi (yielded ops a.tmps) = true ∧ ∀ w, (execOp a.eval oi).run P w = .ok (.value v) w := by exact ⟨_, rfl, rfl, rfl, fun _ => rfl⟩) (him : i ≠ m := by decide) (hwf : ve md ops m i = true := by kernel_rfl) (hs : Region.noSelect ops = true := by kernel_rfl) (hf : Region.free md ops listed i = true := by kernel_rfl) (hr : (Region.ready md ops listed).contains i = true := by kernel_rfl) (hQ : ∀ c a w, Q (.panic c) (a.put d v) w → Q (.panic c) a w := by exact fun _ _ _ h => h) : vA P md ops Q S m (n + 1) listed a w := by
  obtain ⟨oi, hi, hd, hw, hy⟩ := hy
  exact zab i d v hi hd him hwf hs hf hr hQ hw (fun w _ => hy w) hS h
end
section
section
open Go.ChangeShapes Go.WideShapes Go.ChangeAt Go.RowKit
end
section
open Go.ChangeShapes Go.WideShapes Go.ChangeAt Go.RowKit
end
section
open Go.ChangeShapes Go.WideShapes Go.ChangeAt Go.RowKit
variable {P:Program} {ops:Array Oper} {Q:Exit→Act→World→Prop} {md:Region.Mode} {S:World→Prop}
end
section
open Go.ChangeShapes Go.WideShapes Go.ChangeAt Go.RowKit
end
section
open Go.RowKit
def lv(n:Nat):Nat→Nat
 |0=>n
 |k+1=>(lv n k+1) / 2
def VD(n:Nat):Nat:=if n≤2 then 1 else VD ((n+1) / 2)+1
termination_by n
decreasing_by omega
theorem QK{n:Nat}(h:n≤2):VD n=1:=by rw[VD,if_pos h]
theorem ZV{n:Nat}(h:2<n):VD n=VD ((n+1) / 2)+1:=by rw[VD,if_neg (by omega)]
theorem F9(n k:Nat):lv n (k+1)=lv ((n+1) / 2) k:=by
 induction k with
 |zero=>rfl
 |succ k ih=>rw[lv,ih,lv]
theorem D0(n:Nat):1≤VD n:=by
 by_cases h:n≤2
 ·rw[QK h];omega
 ·rw[ZV (by omega)];omega
theorem zal(n:Nat)(h:1≤n):lv n (VD n)=1:=by
 induction n using Nat.strongRecOn with
 |ind n ih =>
  by_cases h2:n≤2
  ·rw[QK h2]
   show(n+1) / 2=1;omega
  ·rw[ZV (by omega),F9]
   exact ih _ (by omega) (by omega)
theorem zaF(n k:Nat)(h1:1≤k)(hk:k<VD n):2≤lv n k:=by
 induction n using Nat.strongRecOn generalizing k with
 |ind n ih =>
  by_cases h2:n≤2
  ·rw[QK h2]at hk
   omega
  ·rw[ZV (by omega)]at hk
   obtain⟨q,rfl⟩:∃q,k=q+1:=⟨k-1,by omega⟩
   rw[F9];by_cases hq:q=0
   ·subst hq
    show 2≤(n+1) / 2;omega
   ·exact ih _ (by omega) q (by omega) (by omega)
theorem Fh(n k:Nat)(h:1≤n):1≤lv n k:=by
 induction k with
 |zero=>exact h
 |succ k ih=>show 1≤(lv n k+1) / 2;omega
theorem Hz(n k:Nat)(h:1≤n):lv n k≤n:=by
 induction k with
 |zero=>exact Nat.le_refl _
 |succ k ih=>have:=Fh n k h;show(lv n k+1) / 2≤n;omega
theorem Hn(k n:Nat)(hk:1≤k)(h:n≤2 ^ k):VD n≤k:=by
 induction k generalizing n with
 |zero=>omega
 |succ k ih =>
  by_cases h2:n≤2
  ·rw[QK h2];omega
  ·have hk1:1≤k:=by
    by_cases h0:k=0
    ·subst h0;simp at h;omega
    ·omega
   rw[ZV (by omega)]
   have :(n+1) / 2≤2 ^ k:=by
    have :2 ^ (k+1)=2*2 ^ k:=by rw[Nat.pow_succ];omega
    omega
   have:=ih _ hk1 this;omega
theorem kM(n:Nat)(h:n≤2048):VD n≤11:=Hn 11 n (by decide) h
def off(n:Nat):Nat→Nat
 |0=>0
 |k+1=>off n k+lv n (k+1)
theorem zaB(n k:Nat)(h:1≤n):off n k≤k*n:=by
 induction k with
 |zero=>simp[off]
 |succ k ih=>have:=Hz n (k+1) h;simp only[off,Nat.succ_mul];omega
end
section
open Go.RowKit
def gG(w:World)(a:Option Addr)(len:Nat)(f:Nat→Nat):Prop:=len=0∨∃b off,a=some ⟨b,off,none⟩∧b<w.heap.size∧∀j,j<len→w.cell? ⟨b,off+j,none⟩=some (.int .i64 (f j:Nat))
theorem gG.below{w w':World}{a:Option Addr}{len B:Nat}{f:Nat→Nat}(h:gG w a len f)(hb:Below B w w')(hB:w.heap.size≤B):gG w' a len f:=by
 rcases h with h|⟨b,off,rfl,hlt,hc⟩
 ·exact .inl h
 ·exact .inr ⟨b,off,rfl,Nat.lt_of_lt_of_le hlt (Nat.le_trans (Nat.le_refl _) hb.size),λj hj=>(hb.cell (p:=⟨b,off+j,none⟩) (by show b<B;omega)).trans (hc j hj)⟩
def qe(n:Int):Prop:= -9223372036854775808≤n∧n≤9223372036854775807
def ZJ(n:Int):Nat:=if 1≤n∧n≤2048 then VD n.toNat else 0
theorem uS{n:Int}(h:1≤n∧n≤2048):ZJ n=VD n.toNat:=if_pos h
theorem KI{n:Int}(h:¬(1≤n∧n≤2048)):ZJ n=0:=if_neg h
theorem uP(n:Int):ZJ n≤11:=by
 unfold ZJ
 split
 ·exact kM _ (by omega)
 ·omega
def fa(f:Nat):Prop:=∀(n:Int) (w:World),qe n→Calls Tryz.prog f #[.int .i64 n] w λe w' =>
 ∃a c,e= .returned (.slice a (ZJ n) c)∧ZJ n≤c∧(a=none→ZJ n=0∧c=0)∧gG w' a (ZJ n) (λk=>lv n.toNat (k+1))∧Below w.heap.size w w'
end
section
open Go.ChangeShapes Go.WideShapes Go.ChangeAt Go.RowKit
theorem db(N k:Nat)(h1:1≤N)(h2:N≤2048)(hk:k≤11):off N k≤22528:=by
 have h:=zaB N k h1;have :k*N≤11*2048:=Nat.mul_le_mul hk h2;omega
end
section
open Go.RowKit Go.Shelf
def XG(o:Obj):Prop:=o.isCells=false∨∃cs fr,o= .cells cs 223 fr
def xJ{β:Type}(D:Nat)(I:β→World→Prop):Prop:=∀s A B row,I s A→A.grownBy B row→(∀r,row=some r→D≤r∧∃o:Obj,A.heap[r]?=some o∧XG o)→I s B
theorem xJ.own{β:Type}{D:Nat}{I:β→World→Prop}(h:xJ D I):OwnFrom D I:=λs A B row hs hg hr=>h s A B row hs hg (λr e=>⟨(hr r e).1,(hr r e).2.choose,(hr r e).2.choose_spec.1,.inl (hr r e).2.choose_spec.2⟩)
theorem xJ.mono{β:Type}{D D':Nat}{I:β→World→Prop}(h:xJ D I)(hD:D≤D'):xJ D' I:=λs A B row hs hg hr=>h s A B row hs hg (λr e=>⟨Nat.le_trans hD (hr r e).1,(hr r e).2⟩)
theorem xJ.alloc{β:Type}{D:Nat}{I:β→World→Prop}(h:xJ D I){s:β}{W:World}(o:Obj)(hs:I s W):I s (W.alloc o):=h.own.alloc o hs
theorem VL(W:World)(b j:Nat)(v:Value):W.grownBy (W.setCell ⟨b,j,none⟩ v) (some b):=
 ⟨rfl,rfl,rfl,by simp[World.setCell],λk hk hne=>by simp only[World.setCell,Array.getElem?_modify];rw[if_neg (λe=>hne (by rw[←e]))]⟩
theorem Qt(W:World)(b:Nat)(cs:Array Value):W.grownBy (W.setRow b cs) (some b):=
 ⟨rfl,rfl,rfl,by simp[World.setRow],λk hk hne=>by simp only[World.setRow,Array.getElem?_modify];rw[if_neg (λe=>hne (by rw[←e]))]⟩
theorem xJ.setRow{β:Type}{D g:Nat}{I:β→World→Prop}(h:xJ D I){s:β}{W:World}{cs:Array Value}(hs:I s W)(hD:D≤g)(hg:ze W g 223 cs)(cs':Array Value):I s (W.setRow g cs'):=
 h s W _ (some g) hs (Qt W g cs') (λr e=>by cases e;exact⟨hD,_,hg,.inr ⟨_,_,rfl⟩⟩)
theorem xJ.below{β:Type}{D B:Nat}{w:World}(h:B≤w.heap.size)(hD:B≤D):xJ D (λ(_:β) W=>Below B w W):=λs A C row hs hg hr=>hs.trans ⟨hg.os,hg.tape,hg.output,hg.size,λk hk=>hg.block k (by have:=hs.size;omega) (λe=>by have:=(hr k e.symm).1;omega)⟩
theorem ze.firm{A B:World}{g t D:Nat}{cs:Array Value}{row:Option Nat}(ht:t≠223)(h:ze A g t cs)(hg:A.grownBy B row)(hr:∀r,row=some r→D≤r∧∃o:Obj,A.heap[r]?=some o∧XG o):ze B g t cs:=by
 refine(hg.block g h.lt λe=>?_).trans h;obtain⟨_,o,ho,hc⟩:=hr g e.symm;have h':A.heap[g]?=some (.cells cs t (0,0)):=h;rw[h']at ho;cases ho;rcases hc with hc|⟨_,_,hc⟩
 ·cases hc
 ·injection hc with h1 h2
  exact ht h2
structure yn (V V':World):Prop where
 size:V.heap.size≤V'.heap.size
 same:∀(g:Nat) (o:Obj),V.heap[g]?=some o→XG o→V'.heap[g]?=some o
theorem yn.refl(V:World):yn V V:=⟨Nat.le_refl _,λ_ _ h _=>h⟩
theorem yn.trans{X Y Z:World}(h:yn X Y)(k:yn Y Z):yn X Z:=⟨Nat.le_trans h.size k.size,λg o hg ho=>k.same g o (h.same g o hg ho) ho⟩
theorem yn.grown{V V':World}{row:Option Nat}(hg:V.grownBy V' row)(hr:∀r,row=some r→∃cs t fr,V.heap[r]?=some (.cells cs t fr)∧t≠223):yn V V':=⟨hg.size,λg o ho hl=>(hg.block g (Array.getElem?_eq_some_iff.1 ho).1 (λe=>by
 obtain⟨cs,t,fr,h,ht⟩:=hr g e.symm;rw[h]at ho;cases ho;rcases hl with hl|⟨_,_,hl⟩
 ·cases hl
 ·injection hl with h1 h2
  exact ht h2)).trans ho⟩
theorem yn.alloc(V:World)(o:Obj):yn V (V.alloc o):=yn.grown (World.grownBy_alloc V o none) (λr e=>by cases e)
theorem yn.below{B:Nat}{V V':World}(h:Below B V V')(hB:V.heap.size≤B):yn V V':=⟨h.size,λg o ho _=>(h.block g (by have:=(Array.getElem?_eq_some_iff.1 ho).1;omega)).trans ho⟩
theorem yn.setRow{V:World}{g t:Nat}{cs:Array Value}(h:ze V g t cs)(ht:t≠223)(cs':Array Value):yn V (V.setRow g cs'):=yn.grown (Qt V g cs') (λr e=>by cases e;exact⟨_,_,_,h,ht⟩)
theorem yn.setCell{V:World}{g t:Nat}{cs:Array Value}(h:ze V g t cs)(ht:t≠223)(j:Nat)(v:Value):yn V (V.setCell ⟨g,j,none⟩ v):=yn.grown (VL V g j v) (λr e=>by cases e;exact⟨_,_,_,h,ht⟩)
theorem yn.has{V V':World}{g:Nat}{cs:Array Value}(h:yn V V')(hg:ze V g 223 cs):ze V' g 223 cs:=h.same g _ hg (.inr ⟨_,_,rfl⟩)
def zbg{α:Type}(m gf:Nat)(lb:Array Value)(encs:α→Array Value)(xs:List α)(w:World):Prop:=
 ∀(l D:Nat) (J Jx:List α→World→Prop) (W:World),Below w.heap.size w W→D≤W.heap.size→xJ D J→xJ D Jx →
  (∀pre x V,pre++ [x] <+:xs→J pre V→YieldAt Fence.wide (m-1) Tryz.prog l (encs x) V λe V'=>(e= .returned (.bool true)∧J (pre++ [x]) V'∧∀g cs,ze V g 223 cs→ze V' g 223 cs)∨(e= .returned (.bool false)∧Jx (pre++ [x]) V'))→J [] W →
  CallsIn Fence.wide m Tryz.prog gf (#[.func (.yield l) #[] #[]]++lb) W λe W'=>(∃v,e= .returned v)∧(J xs W'∨∃pre,pre <+:xs∧Jx pre W')
def zar{α:Type}(I:List α→World→Prop)(Ix:List α→World→Prop)(xs:List α)(W:World):Exit→Act→World→Prop
 | .normal,_,W'=>yn W W'∧I xs W'
 | .ret,_,W'=>yn W W'∧Ix xs W'
 |_,_,_=>False
theorem GY{α:Type}{g:Operand}{ps:Array Tmp}{assign body:Code}{Q:Exit→Act→World→Prop}{a:Act}{w:World}{n gf:Nat}{lb:Array Value}(hg:a.eval g= .func (.func gf) #[] lb)
 (eg:∀args w,(callFunc gf args).run Tryz.prog w= .ok (.enter gf args) w) {encs:α→Array Value} {xs:List α} (hit:zbg (n-1) gf lb encs xs w) (hps:∀x,(encs x).size=ps.size)
 (I Ix:List α→World→Prop) (hI:xJ w.heap.size I) (hIx:xJ w.heap.size Ix) (h0:I [] w) (Ax:α→Act→World→Prop) (hAx:∀x a',OwnFrom w.heap.size (λ(_:Unit) W=>Ax x a' W))
 (hassign:∀(l:Nat) (pre:List α) (x:α) (W:World) (K:Act→World→Prop),I pre W→(∀a' W',yn W W'→I pre W'→Ax x a' W'→K a' W')→assign.wpIn (Fence.wide.inRound l) (n-1-1) Tryz.prog (Exit.then K (λ_ _ _=>False)) { tmps:=(ps.zip (encs x)).foldl (λt (p,v)=>t.setIfInBounds p v) a.tmps,defers:= [] } W)
 (hbody:∀(l:Nat) (pre:List α) (x:α) (a':Act) (W:World),pre++ [x] <+:xs→I pre W→Ax x a' W→body.wpIn (Fence.wide.inRound l) (n-1-1) Tryz.prog (zar I Ix (pre++ [x]) W) a' W)
 (hdone:∀(D:Nat) (W:World),w.heap.size≤D→I xs W→W.heap[D]?=some (.deferred (some []))→Q .normal { a with defers:={ target:= .collected D,args:=#[] }::a.defers } W)
 (hstop:∀(D:Nat) (pre:List α) (W:World),w.heap.size≤D→pre <+:xs→Ix pre W→W.heap[D]?=some (.deferred (some []))→Code.ret.wpIn Fence.wide n Tryz.prog Q { a with defers:={ target:= .collected D,args:=#[] }::a.defers } W):
 (Code.rangeFunc g ps assign body).wpIn Fence.wide n Tryz.prog Q a w:=by
 refine wpIn_rangeFunc λfn hfn=>?_
 let L:=w.heap.size+1
 let R:LoopState→Option Code→Loop:=λst pe=> { state:=st,pending:=pe,fn,tmps:=a.tmps,params:=ps,assign,body,defers:=w.heap.size }
 let W1:=(w.alloc (.deferred (some []))).alloc (.loop (R .ready none))
 have hk1:W1.heap[w.heap.size]?=some (.deferred (some [])):=(Below.heap_alloc _ _ _ (by simp)).trans (World.alloc_heap_new w _)
 have hl1:W1.heap[L]?=some (.loop (R .ready none)):=by
  have h:=World.alloc_heap_new (w.alloc (.deferred (some []))) (.loop (R .ready none))
  rwa [World.size_alloc]at h
 have hb1:Below w.heap.size w W1:=((Below.refl _ w).alloc (Nat.le_refl _) _).alloc (by simp) _;have hLw:w.heap.size≤L:=Nat.le_succ _;have hLn:w.heap.size≠L:=by show w.heap.size≠w.heap.size+1;omega
 let J:List α→World→Prop:=λpre W=>I pre W∧W.heap[L]?=some (.loop (R .ready none))∧W.heap[w.heap.size]?=some (.deferred (some []))
 let Jx:List α→World→Prop:=λpre W=>Ix pre W∧W.heap[L]?=some (.loop (R .done (some .ret)))∧W.heap[w.heap.size]?=some (.deferred (some []))
 have keep:∀ {A B:World} {row:Option Nat} {k:Nat} {o:Obj},A.heap[k]?=some o→o.isCells=false→k<W1.heap.size→A.grownBy B row→(∀r,row=some r→W1.heap.size≤r∧∃o:Obj,A.heap[r]?=some o∧XG o)→B.heap[k]?=some o:=by
  intro A B row k o hk ho hlt hgr hr;exact(hgr.block k (Array.getElem?_eq_some_iff.1 hk).1 (λe=>by have:=(hr k e.symm).1;omega)).trans hk
 have hs1:W1.heap.size=w.heap.size+2:=by simp[W1]
 refine⟨L,[{ target:= .collected w.heap.size,args:=#[] }],W1,{ target:= .fn (.func gf) lb,args:=#[.func (.yield L) #[] #[]] },W1,gf,#[.func (.yield L) #[] #[]]++lb,W1,run_enterLoop_outer _ _ _ _ _,?_,λ_ _=>trivial,?_,λh=>(by cases h),?_⟩
 ·simp only[resolve,hg]
  simp[go_sem]
 ·simp[invoke,go_sem,eg]
 ·refine(hit L W1.heap.size J Jx W1 hb1 (Nat.le_refl _) ?_ ?_ ?_ ⟨hI.alloc _ (hI.alloc _ h0),hl1,hk1⟩).mono ?_
  ·rintro s A B row ⟨h1,h2,h3⟩ hgr hr
   exact⟨hI.mono (by omega) s A B row h1 hgr hr,keep h2 rfl (by omega) hgr hr,keep h3 rfl (by omega) hgr hr⟩
  ·rintro s A B row ⟨h1,h2,h3⟩ hgr hr
   exact⟨hIx.mono (by omega) s A B row h1 hgr hr,keep h2 rfl (by omega) hgr hr,keep h3 rfl (by omega) hgr hr⟩
  ·rintro pre x V hpx ⟨hi,hl,hk⟩
   refine⟨fn,_,assign,body,run_yield (args:=encs x) hl (hps x),roundIn_of_wpIn hfn (hassign L pre x V _ hi ?_)⟩;intro a' V1 hst hi1 hax;have hl1':=hst.same L _ hl (.inl rfl);have hk1':=hst.same _ _ hk (.inl rfl);have hL:L<V1.heap.size:=(Array.getElem?_eq_some_iff.1 hl1').1;have hl2:(V1.putObj L (.loop (R .busy none))).heap[L]?=some (.loop (R .busy none)):=World.putObj_heap_same hL;have hk2:(V1.putObj L (.loop (R .busy none))).heap[w.heap.size]?=some (.deferred (some [])):=(World.putObj_heap_other hLn).trans hk1';refine⟨_,run_beginRound hl1' rfl,?_⟩;refine wpIn_mono (hbody L pre x a' _ hpx (hI.own.putObj _ hi1 hLw hl1' rfl) ((hAx x a').putObj (s:=()) _ hax hLw hl1' rfl)) ?_;intro e a3 V3 hp;cases e with
   |normal =>
    obtain⟨hkf,hi3⟩:=hp;have hl3:=hkf.same L _ hl2 (.inl rfl);have hk3:=hkf.same _ _ hk2 (.inl rfl);refine⟨_,_,run_endRound none hl3,.inl ⟨rfl,⟨hI.own.putObj _ hi3 hLw hl3 rfl,World.putObj_heap_same (Array.getElem?_eq_some_iff.1 hl3).1,(World.putObj_heap_other hLn).trans hk3⟩,?_⟩⟩;intro b cs hb
    have hbL:b≠L:=by
     intro e;have hb':V.heap[b]?=some (.cells cs 223 (0,0)):=hb;rw[e,hl]at hb';cases hb'
    have h1:ze V1 b 223 cs:=hst.has hb;have h2:ze (V1.putObj L (.loop (R .busy none))) b 223 cs:=(World.putObj_heap_other hbL).trans h1;have h3:ze V3 b 223 cs:=hkf.has h2;exact(World.putObj_heap_other hbL).trans h3
   |ret =>
    obtain⟨hkf,hi3⟩:=hp;have hl3:=hkf.same L _ hl2 (.inl rfl);have hk3:=hkf.same _ _ hk2 (.inl rfl);exact⟨_,_,run_endRound (some .ret) hl3,.inr ⟨rfl,hIx.own.putObj _ hi3 hLw hl3 rfl,World.putObj_heap_same (Array.getElem?_eq_some_iff.1 hl3).1,(World.putObj_heap_other hLn).trans hk3⟩⟩
   |_=>exact hp.elim
  ·rintro e W2 ⟨⟨v,rfl⟩,(⟨hi,hl,hk⟩|⟨pre,hpre,hi,hl,hk⟩)⟩
   ·exact⟨none,_,run_endLoop hl (by simp[R]),hdone _ _ (Nat.le_refl _) (hI.own.putObj _ hi hLw hl rfl) ((World.putObj_heap_other hLn).trans hk)⟩
   ·exact⟨some .ret,_,run_endLoop hl (by simp[R]),hstop _ pre _ (Nat.le_refl _) hpre (hIx.own.putObj _ hi hLw hl rfl) ((World.putObj_heap_other hLn).trans hk)⟩
end
section
open Go.ChangeShapes Go.WideShapes Go.ChangeAt Go.RowKit
variable {P:Program} {ops:Array Oper} {Q:Exit→Act→World→Prop} {md:Region.Mode} {S:World→Prop} {m:Nat}
end
section
open Go.RowKit Go.Shelf
attribute [local go_sem] Oper.semAt_some
def j3(f c:Nat):Array Value:=#[.int .i64 (f:Nat),.int .i64 (c:Nat)]
theorem kU(f c:Nat):((j3 f c).all λx=>x.oneCell')=true:=by simp[j3,Value.oneCell']
def Ht(N k:Nat):Array Value:=#[.int .i64 (k:Nat),.agg (j3 (off N k) (lv N (k+1)))]
theorem Uj{m:Nat}{pre:List Nat}{x:Nat}(h:pre++ [x] <+:List.range m):x<m∧pre=List.range x:=by
 obtain⟨t,ht⟩:=h;have hl:=congrArg List.length ht;simp at hl;have hkm:pre.length<m:=by omega
 have e2:(List.range m)[pre.length]?=some x:=by rw[←ht];simp
 have e3:(List.range m)[pre.length]?=some pre.length:=by simp[hkm]
 rw[e3]at e2;have hx:pre.length=x:=Option.some.inj e2;refine⟨by omega,?_⟩;have e1:(List.range m).take pre.length=pre:=by rw[←ht];simp
 rw[←e1,List.take_range,Nat.min_eq_left (by omega),hx]
theorem gB{k m:Nat}(h:k≤m):List.range k <+:List.range m:=by
 obtain⟨d,rfl⟩:∃d,m=k+d:=⟨m-k,by omega⟩
 rw[List.range_add];exact List.prefix_append _ _
theorem J0{o:Oper}{a:Act}(x y:Operand)(ho:o.op= .binOp .add 3 x y 3)(p q:Nat)(hx:a.eval x= .int .i64 (p:Nat))(hy:a.eval y= .int .i64 (q:Nat))(hp:p≤1000000)(hq:q≤1000000)(w:World):
 (execOp a.eval o).run Tryz.prog w= .ok (.value (.int .i64 ((p+q:Nat):Int))) w:=by
 have hw:IntKind.i64.wrap ((p:Int)+(q:Int))=(p:Int)+(q:Int):=by rw[IntKind.wrap_i64];omega
 unfold execOp;simp only[ho,hx,hy];go_simp
theorem Ze{o:Oper}{a:Act}(x:Operand)(ho:o.op= .load 3 x)(p:Addr)(hx:a.eval x= .pointer (some p))(v:Value)(w:World)(h:w.cell? p=some v):(execOp a.eval o).run Tryz.prog w= .ok (.value v) w:=by
 unfold execOp;simp only[ho,hx];go_simp
theorem U5{o:Oper}{a:Act}(x0 x1:Operand)(ho:o.op= .build 223 #[(0,x0),(1,x1)])(p q:Nat)(h0:a.eval x0= .int .i64 (p:Nat))(h1:a.eval x1= .int .i64 (q:Nat))(w:World):
 (execOp a.eval o).run Tryz.prog w= .ok (.value (.agg (j3 p q))) w:=by
 unfold j3;unfold execOp;simp only[ho,h0,h1,List.map_toArray,List.map_cons,List.map_nil];go_simp
theorem Ju(n:Nat)(w:World)(h:n≤1000000):Calls Tryz.prog 201 #[.int .i64 (n:Nat)] w λe w'=>e= .returned (.int .i64 (((n+1) / 2:Nat):Int))∧w'=w:=by
 go_enter Tryz.func201,Tryz.ntmps201
 go_wp2
 go_ret
 refine⟨?_,rfl⟩;have e:((n:Int)+2-1) / 2=(((n+1) / 2:Nat):Int):=by omega
 show Ending.returned (.int .i64 (((n:Int)+2-1) / 2))=_;rw[e]
theorem xJ.drew{β:Type}{D:Nat}{I:β→World→Prop}(h:xJ D I){s:β}(W:World)(hs:I s W):I s W.drew:=h s W _ none hs ⟨rfl,rfl,rfl,Nat.le_refl _,λ_ _ _=>rfl⟩ (λr e=>by cases e)
theorem zas(m l D Bn N:Nat)(h1:1≤N)(h2:N≤2048)(J Jx:List Nat→World→Prop)(hJ:xJ D J)
 (W:World) (hBn:W.cell? ⟨Bn,0,none⟩=some (.int .i64 (N:Nat))) (hD:D≤W.heap.size)
 (hY:∀pre x V,pre++ [x] <+:List.range (VD N)→J pre V→YieldAt Fence.wide (m-1) Tryz.prog l (Ht N x) V λe V'=>(e= .returned (.bool true)∧J (pre++ [x]) V'∧∀g cs,ze V g 223 cs→ze V' g 223 cs)∨(e= .returned (.bool false)∧Jx (pre++ [x]) V')) (h0:J [] W):
 CallsIn Fence.wide m Tryz.prog 200 #[.func (.yield l) #[] #[],.pointer (some ⟨Bn,0,none⟩)] W λe W'=>(∃v,e= .returned v)∧(J (List.range (VD N)) W'∨∃pre,pre <+:List.range (VD N)∧Jx pre W'):=by
 have hs:∀k w,CallsIn Fence.wide k Tryz.prog 201 #[.int .i64 (N:Nat)] w λe w'=>e= .returned (.int .i64 (((N+1) / 2:Nat):Int))∧w'=w:=λk w=>callsIn_wide.2 (Ju N w (by omega))
 refine callsIn_of_wp Tryz.func200 rfl trivial ?_ rfl;simp only[Tryz.ntmps200,List.size_toArray,List.length_cons,List.length_nil,Nat.reduceAdd,Nat.reduceSub,Array.replicate_succ,Array.replicate_zero,List.push_toArray,List.append_toArray,List.nil_append,List.cons_append]
 gi_wp2_with (refine⟨trivial,λh=>(by cases h),?_⟩;refine(hs _ _).mono ?_;rintro e w' ⟨rfl,rfl⟩)
 gi_loopw [3] (λs wr=>∃k:Nat,k<VD N∧s= .int .i64 (k:Nat)∧ze wr w'.heap.size 223 (j3 (off N k) (lv N (k+1)))∧J (List.range k) wr) (λs _=>VD N-(intOf s).toNat)
 case atStart =>
  refine⟨0,D0 N,rfl,?_,hJ.alloc _ h0⟩;have e:((N:Int)+1) / 2=((lv N 1:Nat):Int):=by show _=(((N+1) / 2:Nat):Int);omega
  rw[e];exact ze.new _ _ _
 case round =>
  obtain⟨k,hk,rfl,hl,hJk⟩:=hrel;have hpre:List.range k++ [k] <+:List.range (VD N):=by rw[←List.range_succ];exact gB hk
  obtain⟨fn,tmps,assign,body,hy,hR⟩:=hY (List.range k) k wr hpre hJk;have hc1:=Fh N (k+1) h1;have hc2:=Nat.le_trans (Hz N (k+1) h1) h2;have hf2:=db N k h1 h2 (Nat.le_trans (Nat.le_of_lt hk) (kM N h2))
  obtain⟨f,hf⟩:∃f,f=off N k:=⟨_,rfl⟩
  obtain⟨c,hc⟩:∃c,c=lv N (k+1):=⟨_,rfl⟩
  have HV:Hid (f=off N k∧c=lv N (k+1)):=⟨hf,hc⟩
  unfold Ht at hy;rw[←hf,←hc]at hy hl;rw[←hc]at hc1 hc2;rw[←hf]at hf2;clear hf hc;unfold j3 at hy;have hl0:=hl;have t0:=hl.cell 0;have t1:=hl.cell 1;simp only[j3,List.getElem?_toArray,List.getElem?_cons_zero,List.getElem?_cons_succ]at t0 t1
  gi_wp2
  refine⟨λh=>(by cases h),hR.mono ?_⟩;clear hR hy hl t0 t1;rintro e W3 (⟨rfl,hJ3,hkeep⟩|⟨rfl,hJx3⟩)
  ·have hl3:=hkeep _ _ hl0
   have t0:=hl3.cell 0;have t1:=hl3.cell 1;simp only[j3,List.getElem?_toArray,List.getElem?_cons_zero,List.getElem?_cons_succ]at t0 t1;clear hkeep hJk hl0;by_cases hone:c=1
   ·have hi1:¬(1:Int)<(c:Int):=by omega
    have hkd:k+1=VD N:=by
     refine Classical.byContradiction λh=>?_
     have:=zaF N (k+1) (by omega) (by omega);rw[←HV.out.2]at this;omega
    gi_wp2
    refine bodyPost_end (results_none rfl _ _ _) rfl ?_;exact⟨⟨_,rfl⟩,.inl (by rw[←hkd,List.range_succ];exact hJ3)⟩
   ·have hi1:(1:Int)<(c:Int):=by omega
    have hkd:k+1<VD N:=by
     refine Nat.lt_of_le_of_ne hk λh=>hone ?_
     have:=zal N h1;rw[←h,←HV.out.2]at this;exact this
    have hsc:=Ju c
    gi_wp2
    refine wpIn_wide.2 ?_;refine vu (S:=λwz=>ze wz w'.heap.size 223 (j3 f c)∧J (List.range k++ [k]) wz) 12 (by kernel_rfl) ⟨hl3.drewN 1,hJ.drew _ hJ3⟩ (λhHeld=>?_);refine vI 0 (some 23) (.int .i64 (k:Nat)) hHeld ?_;simp only[Act.put,zk,zj,zl];refine vK 1 (some 24) (.int .i64 ((k+1:Nat):Int)) rfl rfl (λwz _=>J0 _ _ rfl k 1 rfl rfl (by have:=kM N h2;omega) (by omega) wz) hHeld ?_;simp only[Act.put,zk,zj,zl];refine vI 2 (some 25) (.pointer (some ⟨w'.heap.size,0,none⟩)) hHeld ?_;simp only[Act.put,zk,zj,zl];refine vK 3 (some 26) (.int .i64 (f:Nat)) rfl rfl (λwz hz=>Ze _ rfl _ rfl _ wz (hz.1.cell 0)) hHeld ?_;simp only[Act.put,zk,zj,zl];refine vI 4 (some 27) (.pointer (some ⟨w'.heap.size,1,none⟩)) hHeld ?_;simp only[Act.put,zk,zj,zl];refine vK 5 (some 28) (.int .i64 (c:Nat)) rfl rfl (λwz hz=>Ze _ rfl _ rfl _ wz (hz.1.cell 1)) hHeld ?_;simp only[Act.put,zk,zj,zl];refine vK 6 (some 29) (.int .i64 ((f+c:Nat):Int)) rfl rfl (λwz _=>J0 _ _ rfl f c rfl rfl (by omega) (by omega) wz) hHeld ?_;simp only[Act.put,zk,zj,zl];refine vI 7 (some 30) (.pointer (some ⟨w'.heap.size,1,none⟩)) hHeld ?_;simp only[Act.put,zk,zj,zl];refine vK 8 (some 31) (.int .i64 (c:Nat)) rfl rfl (λwz hz=>Ze _ rfl _ rfl _ wz (hz.1.cell 1)) hHeld ?_;simp only[Act.put,zk,zj,zl];refine fu 9 (some 32) 201 #[.int .i64 (c:Nat)] (by kernel_rfl) rfl rfl (by rfl) (by kernel_rfl) (hsc W3.drew (by omega)) ?_;rintro e w5 ⟨rfl,rfl⟩;refine⟨_,rfl,hHeld,?_⟩;simp only[Act.put,zk,zj,zl];refine vK 10 (some 33) (.agg (j3 (f+c) ((c+1) / 2))) rfl rfl (λwz _=>U5 _ _ rfl (f+c) ((c+1) / 2) rfl rfl wz) hHeld ?_;simp only[Act.put,zk,zj,zl];refine vI 11 (some 3) (.int .i64 ((k+1:Nat):Int)) hHeld ?_;simp only[Act.put,zk,zj,zl];refine jA 12 none _ (by kernel_rfl) rfl rfl (by rfl) (ju 223 _ _ rfl w'.heap.size rfl (j3 (f+c) ((c+1) / 2)) rfl 223 (by kernel_rfl) _ hHeld.1 rfl (kU _ _)) (by kernel_rfl) ?_;simp only[Act.put]
    gi_wp2
    go_roundw
    case rel =>
     refine⟨k+1,hkd,by go_num,?_,?_⟩
     ·have h:=hHeld.1.setRow (j3 (f+c) ((c+1) / 2))
      rw[show j3 (f+c) ((c+1) / 2)=j3 (off N (k+1)) (lv N (k+1+1))from by rw[HV.out.1,HV.out.2];rfl]at h ⊢;exact h
     ·rw[List.range_succ]
      exact hJ.setRow hHeld.2 hD hHeld.1 _
    case measure=>simp[intOf];omega
  ·gi_wp2
   refine bodyPost_end (results_none rfl _ _ _) rfl ?_;exact⟨⟨_,rfl⟩,.inr ⟨List.range k++ [k],hpre,hJx3⟩⟩
end
section
open Go.RowKit Go.Shelf
attribute [local go_sem] Oper.semAt_some
theorem D3(m l Bn:Nat)(n:Int)(ho:¬(1≤n∧n≤2048))(J:List Nat→World→Prop)
 (W:World) (hBn:W.cell? ⟨Bn,0,none⟩=some (.int .i64 n)) (h0:J [] W):
 CallsIn Fence.wide m Tryz.prog 200 #[.func (.yield l) #[] #[],.pointer (some ⟨Bn,0,none⟩)] W λe W'=>(∃v,e= .returned v)∧J [] W':=by
 refine callsIn_of_wp Tryz.func200 rfl trivial ?_ rfl;simp only[Tryz.ntmps200,List.size_toArray,List.length_cons,List.length_nil,Nat.reduceAdd,Nat.reduceSub,Array.replicate_succ,Array.replicate_zero,List.push_toArray,List.append_toArray,List.nil_append,List.cons_append];by_cases h:n<1
 ·gi_wp2
  refine bodyPost_ret (results_none rfl _ _ _) rfl ?_;exact⟨⟨_,rfl⟩,h0⟩
 ·have h':2048<n:=by omega
  gi_wp2
  refine bodyPost_ret (results_none rfl _ _ _) rfl ?_;exact⟨⟨_,rfl⟩,h0⟩
theorem DV(m Bn:Nat)(n:Int)(w:World)(hB:Bn<w.heap.size)(hc:w.cell? ⟨Bn,0,none⟩=some (.int .i64 n)):
 zbg m 200 #[.pointer (some ⟨Bn,0,none⟩)] (Ht n.toNat) (List.range (ZJ n)) w:=λl D J Jx W hW hD hJ hJx hY h0=>by
 have hcW:=(hW.cell (p:=⟨Bn,0,none⟩) hB).trans hc;by_cases h:1≤n∧n≤2048
 ·obtain⟨N,rfl⟩:∃N:Nat,n=N:=⟨n.toNat,by omega⟩
  rw[uS h]at hY ⊢;simp only[Int.toNat_natCast]at hY ⊢;exact zas m l D Bn N (by omega) (by omega) J Jx hJ W hcW hD hY h0
 ·rw[KI h]
  refine(D3 m l Bn n h J W hcW h0).mono ?_;rintro e W' ⟨h1,h2⟩;exact⟨h1,.inl h2⟩
theorem Up(n:Int)(w:World):Calls Tryz.prog 199 #[.int .i64 n] w λe w'=>e= .returned (.func (.func 200) #[] #[.pointer (some ⟨w.heap.size,0,none⟩)])∧w'=w.alloc (.cells #[.int .i64 n] 3):=by
 go_enter Tryz.func199,Tryz.ntmps199
 go_wp2
 go_ret
 exact⟨rfl,rfl⟩
theorem Ff{A B:World}{base t n D:Nat}{v:Value}{xs:List Value}{row:Option Nat}(ht:t≠223)(h:A.ownsRow base t 1 v n xs)(hg:A.grownBy B row)(hr:∀r,row=some r→D≤r∧∃o:Obj,A.heap[r]?=some o∧XG o):B.ownsRow base t 1 v n xs:=by
 refine⟨h.1,?_⟩;rcases h.2 with h0|⟨g,cap,cur,hv,h1,hgg,r⟩
 ·exact .inl h0
 ·exact .inr ⟨g,cap,cur,hv,h1,(ze.firm (cs:=cur) (t:=t) ht hgg hg hr:ze B g t cur),r⟩
end
section
open Go.ChangeShapes Go.WideShapes Go.ChangeAt Go.RowKit
def il(f:Nat→Nat)(n:Nat):List Value:=(List.range n).map λj=>Value.int .i64 (f j:Nat)
theorem D6(f:Nat→Nat)(n y:Nat)(h:f n=y):il f n++ [.int .i64 (y:Nat)]=il f (n+1):=by
 unfold il;rw[List.range_succ,List.map_append];simp[h]
theorem zag(f:Nat→Nat)(n j:Nat)(h:j<n):(il f n)[j]?=some (.int .i64 (f j:Nat)):=by simp[il,h]
theorem zbt:(Tryz.prog.info? 3).map (λi=>(i.zero,i.size,i.bytes))=some (some (.int .i64 0),1,8):=by kernel_rfl
theorem fg{w:World}{base n:Nat}{v:Value}{f:Nat→Nat}(h:w.ownsRow base 3 1 v n (il f n)):∃a cap,v= .slice a n cap∧n≤cap∧(a=none→n=0∧cap=0)∧gG w a n f:=by
 rcases h.2 with⟨rfl,rfl⟩|⟨g,cap,cur,rfl,hb,hg,hn,hm,hs,ht⟩
 ·exact⟨none,0,rfl,Nat.le_refl _,λ_=>⟨rfl,rfl⟩,.inl rfl⟩
 ·have hlt:g<w.heap.size:=(Array.getElem?_eq_some_iff.1 hg).1
  refine⟨some ⟨g,0,none⟩,cap,rfl,hn,(λe=>by cases e),.inr ⟨g,0,rfl,hlt,?_⟩⟩;intro j hj;rw[Nat.zero_add,h.cellAt j (by omega)];exact zag f n j hj
end
section
open Go.RowKit Go.Shelf
theorem ze.ownF{A B:World}{g t D:Nat}{cs:Array Value}{row:Option Nat}(h:ze A g t cs)(hg:A.grownBy B row)(hr:∀r,row=some r→D≤r∧∃o:Obj,A.heap[r]?=some o∧o.isCells=false):ze B g t cs:=by
 refine(hg.block g h.lt λe=>?_).trans h;obtain⟨_,o,ho,hc⟩:=hr g e.symm;have h':A.heap[g]?=some (.cells cs t (0,0)):=h;rw[h']at ho;cases ho;cases hc
def AtL(N:Nat)(T:Nat→Nat→Array Value)(x:Nat)(a':Act)(W:World):Prop:=∃B,a'= { tmps:=T x B,defers:= [] }∧ze W B 223 (j3 (off N x) (lv N (x+1)))
theorem dY(N D:Nat)(T:Nat→Nat→Array Value)(x:Nat)(a':Act):OwnFrom D (λ(_:Unit) W=>AtL N T x a' W):=by
 rintro _ A B row ⟨b,h1,h2⟩ hg hr;exact⟨b,h1,h2.ownF hg hr⟩
theorem Xm{W w1:World}{n₀ base B:Nat}{t:TypeId}{v v':Value}{k m:Nat}{xs ys:List Value}{tmp:Obj}
 (hv:ze W B t #[v]) (hte:t≠3) (htl:t≠223) (hrow:W.ownsRow base 3 1 v k xs) (hn₀:n₀≤W.heap.size) (hB:n₀≤B) (hnb:n₀≤base)
 (hown':w1.ownsRow base 3 1 v' m ys) (hgrow:(W.alloc tmp).grownBy w1 v.ownBlock):
 ze w1 B t #[v]∧ze (w1.setCell ⟨B,0,none⟩ v') B t #[v']∧(w1.setCell ⟨B,0,none⟩ v').ownsRow base 3 1 v' m ys∧yn W (w1.setCell ⟨B,0,none⟩ v')∧Below n₀ W (w1.setCell ⟨B,0,none⟩ v'):=by
 have JE:ze w1 B t #[v]:=Boxed.kept (t:=t) (Boxed.alloc (t:=t) hv tmp) hgrow (Boxed.not_row (t:=t) hv hte hrow);refine⟨JE,Boxed.set (t:=t) v' JE,hown'.kept (grownBy_setCell' w1 B v') (.inr (Boxed.not_row (t:=t) JE hte hown').symm),?_,?_⟩
 ·refine((yn.alloc W tmp).trans (yn.grown hgrow ?_)).trans (yn.setCell (t:=t) (cs:=#[v]) JE htl 0 v')
  intro r e;rcases(hrow.alloc tmp).2 with⟨rfl,_⟩|⟨g,cap,cur,rfl,_,hgb,_⟩
  ·simp[Value.ownBlock]at e
  ·obtain rfl:g=r:=by simpa [Value.ownBlock]using e
   exact⟨cur,3,_,hgb,by decide⟩
 ·refine(((Below.refl n₀ W).alloc hn₀ tmp).grown hgrow (by simp;omega) λj ej=>?_).setCell (p:=⟨B,0,none⟩) hB v'
  exact Nat.le_trans hnb (hrow.lt j ej).1
end
section
open Go.RowKit Go.Shelf
attribute [local go_sem] Oper.semAt_some
def zaA(w:World)(n:Int)(pre:List Nat)(W:World):Prop:=(∃v,ze W w.heap.size 29 #[v]∧W.ownsRow w.heap.size 3 1 v pre.length (il (λk=>lv n.toNat (k+1)) pre.length))∧Below w.heap.size w W
theorem Yu(w:World)(n:Int)(D:Nat)(hD:w.heap.size≤D):xJ D (zaA w n):=by
 rintro pre A B row ⟨⟨v,h1,h2⟩,h3⟩ hg hr;exact⟨⟨v,h1.firm (by decide) hg hr,Ff (by decide) h2 hg hr⟩,xJ.below (β:=Unit) (Nat.le_refl _) hD () A B row h3 hg hr⟩
theorem GA(n:Int)(w:World)(hn:qe n):CallsIn Fence.wide 3 Tryz.prog 198 #[.int .i64 n] w λe W'=>∃v,e= .returned v∧W'.ownsRow w.heap.size 3 1 v (ZJ n) (il (λk=>lv n.toNat (k+1)) (ZJ n))∧Below w.heap.size w W':=by
 have hlen:=uP n;obtain⟨i0,hi,hz0,hz1,hz2⟩:=info_parts zbt;refine callsIn_of_wp_marks Tryz.func198 rfl trivial ?_ rfl;simp only[Tryz.ntmps198,List.size_toArray,List.length_cons,List.length_nil,Nat.reduceAdd,Nat.reduceSub,Array.replicate_succ,Array.replicate_zero,List.push_toArray,List.append_toArray,List.nil_append,List.cons_append];refine wpIn_wide.2 ?_
 go_wp2_with (first
  |((go_at_call 199)
    refine(Up _ _).mono ?_;(rintro e w1 ⟨rfl,rfl⟩)))
 refine(wpIn_wide (n:=3)).1 ?_
 have h0:zaA w n [] ((w.alloc (.cells #[.slice none 0 0] 29)).alloc (.cells #[.int .i64 n] 3)):=⟨⟨.slice none 0 0,(ze.new _ _ _).alloc _,World.ownsRow_nil _ _ _ _⟩,((Below.refl _ w).alloc (Nat.le_refl _) _).alloc (by simp) _⟩
 have hs0:((w.alloc (.cells #[.slice none 0 0] 29)).alloc (.cells #[.int .i64 n] 3)).heap.size=w.heap.size+2:=by simp
 have hb0:ze ((w.alloc (.cells #[.slice none 0 0] 29)).alloc (.cells #[.int .i64 n] 3)) (w.heap.size+1) 3 #[.int .i64 n]:=ze.new_at (by simp)
 obtain⟨W0,hW0⟩:∃W0,W0=(w.alloc (.cells #[.slice none 0 0] 29)).alloc (.cells #[.int .i64 n] 3):=⟨_,rfl⟩
 rw[←hW0]at h0 hs0 hb0 ⊢;clear hW0
 refine GY (n:=3) (gf:=200) (lb:=#[.pointer (some ⟨w.heap.size+1,0,none⟩)]) rfl (enters_of Tryz.func200 (by kernel_rfl) rfl)
  (DV (3-1) (w.heap.size+1) n W0 (by omega) (hb0.cell 0)) (λ_=>rfl)
  (zaA w n) (λ_ _=>False) (Yu w n _ (by omega)) (λ_ _ _ _ h=>h.elim) h0
  (AtL n.toNat (λx B=> #[.int .i64 n,undef,.slice none 0 0,.pointer (some ⟨w.heap.size,0,none⟩),undef,.pointer (some ⟨B,0,none⟩),.int .i64 n,.func (.func 200) #[] #[.pointer (some ⟨w.heap.size+1,0,none⟩)],.int .i64 (x:Nat),.agg (j3 (off n.toNat x) (lv n.toNat (x+1))),undef,undef,undef,undef,undef,undef])) (dY _ _ _) ?assign ?body ?done ?stop
 case assign =>
  intro l pre x W K hI hK;simp only[Ht,j3]
  gi_wp2
  exact hK _ _ (yn.alloc _ _) ((Yu w n _ (Nat.le_refl _)).alloc _ hI) ⟨_,rfl,ze.new _ _ _⟩
 case body =>
  rintro l pre x a' W hpre ⟨⟨v,hv,hrow⟩,hB⟩ ⟨B,rfl,hl⟩;obtain⟨hx,rfl⟩:=Uj hpre;rw[List.length_range]at hrow;have hc:=hv.cell 0;have t1:=hl.cell 1;simp only[j3,List.getElem?_toArray,List.getElem?_cons_zero,List.getElem?_cons_succ]at t1 hc;have hlc:(il (λk=>lv n.toNat (k+1)) x)++ [.int .i64 (lv n.toNat (x+1):Nat)]=il (λk=>lv n.toNat (k+1)) (x+1):=D6 _ x _ rfl
  obtain⟨c,hcc⟩:∃c,c=lv n.toNat (x+1):=⟨_,rfl⟩
  rw[←hcc]at t1 hlc;clear hcc
  gi_wp2_with (gi_at_builtin;refine wpListIn_append_own _ rfl _ _ 29 rfl w.heap.size 3 i0 (.int .i64 0) 1 8 Tryz.underlying29 hi hz0 hz1 hz2 rfl (by decide) _ _ _ rfl (hrow.alloc _) ⟨W.heap.size,0,none⟩ 1 1 [.int .i64 (c:Nat)] rfl rfl (cell_one_new _ _ _) (by simp[Value.oneCell']) (by unfold maxLen;omega) (by omega) (by have:=hB.size;simp;omega) ?_;intro v' w1 hown' hgrow _;obtain⟨g',cap',rfl⟩:=ownsRow_succ hown';obtain⟨JE,hv2,hr2,hk2,hb2⟩:=Xm hv (by decide) (by decide) hrow hB.size (Nat.le_refl _) (Nat.le_refl _) hown' hgrow;have hc1:=JE.cell 0;have hf1:=JE.free 0)
  refine⟨hk2,⟨⟨_,hv2,?_⟩,hB.trans hb2⟩⟩;rw[hlc]at hr2
  simpa using hr2
 case done =>
  rintro D W hD ⟨⟨v,hv,hrow⟩,hB⟩ hK;rw[List.length_range]at hrow;have hc:=hv.cell 0
  go_wp2
  refine⟨by simp,.inl ⟨_,_,rfl,run_takeDeferred hK,?_⟩⟩;exact⟨_,results_tmp rfl _ _ _,v,rfl,ownsRow_putObj hrow _ hK rfl,hB.trans (belowK_b (w:=w) (Nat.le_refl _) W D _ _ (by omega) hK rfl rfl)⟩
 case stop =>
  rintro D pre W _ _ h;exact h.elim
theorem GQ:fa 198:=by
 intro n w hn;refine Calls.mono (callsIn_wide.1 (GA n w hn)) ?_;rintro e w' ⟨v,rfl,own,hb⟩;obtain⟨a,c,rfl,h1,h2,h3⟩:=fg own;exact⟨a,c,rfl,h1,h2,h3,hb⟩
end
section
open Go.ChangeShapes Go.WideShapes Go.ChangeAt Go.RowKit
end
section
open Go.ChangeShapes Go.WideShapes Go.ChangeAt Go.RowKit
end
end
section
open Go.RowKit
def hs(n:Nat):Nat:=off n (ZJ (n:Int))
theorem DX:hs 0=0:=rfl
theorem za2(n k:Nat):off n (k+1)=(n+1) / 2+off ((n+1) / 2) k:=by
 induction k with
 |zero=>simp[off,lv]
 |succ k ih =>
  have e:off n (k+1+1)=off n (k+1)+lv n (k+1+1):=rfl;have e2:off ((n+1) / 2) (k+1)=off ((n+1) / 2) k+lv ((n+1) / 2) (k+1):=rfl;rw[e,ih,e2,F9];omega
def hh(n:Nat):Nat:=off n (VD n)
theorem FW{n:Nat}(h1:1≤n)(h2:n≤2048):hs n=hh n:=by
 unfold hs hh;rw[uS (by omega),Int.toNat_natCast]
theorem Uc{n:Nat}(h1:1≤n)(h:n≤2):hh n=1:=by
 unfold hh;rw[QK h];simp[off,lv];omega
theorem uT{n:Nat}(h:2<n):hh n=(n+1) / 2+hh ((n+1) / 2):=by
 unfold hh;rw[ZV h,za2]
theorem uy(b:Nat):∀a,1≤a→a≤b→hh a≤hh b:=by
 induction b using Nat.strongRecOn with
 |_ b ih =>
  intro a h1 h;by_cases hb:b≤2
  ·rw[Uc h1 (by omega),Uc (by omega) hb];exact Nat.le_refl _
  ·rw[uT (by omega:2<b)]
   by_cases ha:a≤2
   ·rw[Uc h1 ha];omega
   ·rw[uT (by omega:2<a)]
    have:=ih ((b+1) / 2) (by omega) ((a+1) / 2) (by omega) (by omega);omega
theorem zbq(n:Nat):1≤n→n≤2048→hh n≤2058:=by
 intro h1 h2;have h:=uy 2048 n h1 h2;have e:hh 2048=2047:=by decide +kernel
 omega
theorem dc{a b:Nat}(h:a≤b)(hb:b≤2048):hs a≤hs b:=by
 by_cases h0:a=0
 ·subst h0;rw[DX];omega
 ·rw[FW (by omega) (by omega),FW (by omega) hb]
  exact uy b a (by omega) h
theorem zaa(n:Nat):hs n≤2058:=by
 by_cases h:1≤n∧n≤2048
 ·rw[FW h.1 h.2];exact zbq n h.1 h.2
 ·unfold hs
  rw[KI (by omega)];show 0≤_;omega
theorem fz(n:Nat)(k:Nat)(hk:k≤ZJ (n:Int)):off n k≤hs n:=by
 unfold hs;generalize ZJ (n:Int)=m at hk
 induction m with
 |zero=>obtain rfl:k=0:=by omega
        exact Nat.le_refl _
 |succ m ih =>
  by_cases e:k=m+1
  ·rw[e];exact Nat.le_refl _
  ·have:=ih (by omega);simp only[off];omega
def yp(L:Nat)(F:Nat→Bool)(r:Nat):Prop:=r≤L∧(∀t,t<r→F (t+1)=true)∧(r<L→F (r+1)=false)
theorem yp.eq{L:Nat}{F:Nat→Bool}{r s:Nat}(h:yp L F r)(k:yp L F s):r=s:=by
 rcases Nat.lt_trichotomy r s with e|e|e
 ·have a:=h.2.2 (by have:=k.1;omega)
  rw[k.2.1 r e]at a;cases a
 ·exact e
 ·have a:=k.2.2 (by have:=h.1;omega)
  rw[h.2.1 s e]at a;cases a
def VE(rest:Nat→Nat)(n:Nat)(d:Nat):Bool:=decide (d+rest d≤n)
theorem FQ{rest:Nat→Nat}{n L:Nat}(hm:∀a b,a≤b→b≤L→rest a≤rest b)(a b:Nat)(h:a≤b)(hb:b≤L)(hf:VE rest n b=true):VE rest n a=true:=by
 unfold VE at *;have:=hm a b h hb;simp only[decide_eq_true_eq]at *;omega
def tg(d:Nat):Nat:=(d+3) / 4
theorem Hg(a b:Nat)(h:a≤b):tg a≤tg b:=by unfold tg;omega
def QU(table chunk n:Nat)(s:Nat):Bool:=decide (table+s*chunk≤n)
theorem gR{table chunk n:Nat}(a b:Nat)(h:a≤b)(hf:QU table chunk n b=true):QU table chunk n a=true:=by
 unfold QU at *;have:=Nat.mul_le_mul_right chunk h;simp only[decide_eq_true_eq]at *;omega
theorem yp.more{L n:Nat}{rest:Nat→Nat}(hm:∀a b,a≤b→b≤L→rest a≤rest b){r s:Nat}(h:yp L (VE rest n) r)(k:yp L (VE rest (n+1)) s):r≤s∧s≤r+1:=by
 constructor
 ·by_cases e:r≤s
  ·exact e
  ·exfalso
   have hL:=h.1;have a:=k.2.2 (by omega);have b:=h.2.1 s (by omega);unfold VE at a b;simp only[decide_eq_true_eq,decide_eq_false_iff_not]at a b;omega
 ·by_cases e:s≤r+1
  ·exact e
  ·exfalso
   have hL:=k.1;have a:=h.2.2 (by omega);have b:=k.2.1 (r+1) (by omega);have c:=hm (r+1) (r+1+1) (by omega) (by omega);unfold VE at a b;simp only[decide_eq_true_eq,decide_eq_false_iff_not]at a b;omega
end
end Go.Proofs.YtebcfkigbbolaaaGreatDoor
