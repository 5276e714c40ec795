import Derived.Lib.Atoi
import Derived.Test.YtgljdaakdpgpkaaGreatDoorRows
import Derived.WalkKit
import Derived.ProofKit
import Derived.OpenShut
import Derived.Below
import Derived.WalkLawsBesides
import Derived.WalkSpells
import Derived.Laws.BitsAllLaws
import Derived.Deep.QuietTactic
import Derived.BigQuiet
import Derived.Deep.WholeRow
import Derived.Deep.MidRow
import Derived.Laws.AppendOwnNone
import Derived.OwnWalk
import Derived.DeepKeys
import Derived.Deep.AppendLies
import Derived.Laws.CopyOwn
import Derived.Deep.RegionHeld3
import Derived.Lib.AppendZerosOnto
import Derived.KernelRfl
import Derived.RangeFuncBox
import Derived.RangeFuncLeaves
import Derived.Shelf.Abstract
import Derived.OwnWalkIn
import Derived.TacticsInMore
import Derived.LoopNIn
import Derived.LoopIn
import Derived.Maps.AppendAt
import Derived.RangeFuncCalls
import Derived.OrdersIn
import Derived.RangeFuncWrites
import Derived.Deep.LoopGhost
namespace Go.Proofs.YtgljdaakdpgpkaaGreatDoor
set_option linter.unusedVariables false
set_option maxRecDepth 100000
set_option maxHeartbeats 40000000
section
def qZ(c:UInt8):Bool:=c==9||c==10||c==13||c==32
def zl(c:UInt8):Bool:=decide (48≤c.toNat)&&decide (c.toNat≤57)
def zM(c:UInt8):Bool:=decide (97≤c.toNat)&&decide (c.toNat≤122)
def vR(c:UInt8):Bool:=zM c||c==95
def zW(c:UInt8):Bool:=vR c||zl c
def zo(c:UInt8):Bool:=zl c||(decide (97≤c.toNat)&&decide (c.toNat≤102))
def qC(c:UInt8):Bool:= !(c==10)
def Qx(c:UInt8):Bool:=c==40||c==41||c==44||c==61||c==59
def zv(p:UInt8→Bool)(x:List UInt8):Nat:=(x.takeWhile p).length
def qK:Bool→List UInt8→Nat
 |_,[]=>0
 |false,c::t=>if qZ c then qK false t+1 else if c==47&&t.head?==some 47 then qK true t+1 else 0
 |true,c::t=>if c==10 then qK false t+1 else qK true t+1
structure Tk where
 kind:Nat
 s:List UInt8
 n:Nat
def val(x:List UInt8):Nat:=x.foldl (λv c=>10*v+(c.toNat-48)) 0
def vc(x:List UInt8):Bool:=x.head?.any vR
def one:List UInt8→Except (Nat×Nat) (Tk×Nat)
 | []=> .error (101,0)
 |c::t =>
  if zM c then(if 16<zv zW (c::t)then .error (102,0)else .ok (⟨0,(c::t).take (zv zW (c::t)),0⟩,zv zW (c::t)))
  else if zl c then(if 9<zv zl (c::t)then .error (102,0)else if vc ((c::t).drop (zv zl (c::t)))then .error (101,zv zl (c::t))else .ok (⟨1,[],val ((c::t).take (zv zl (c::t)))⟩,zv zl (c::t)))
  else if c==36 then(if zv zo t=0 then .error (101,1)else if 128<zv zo t then .error (102,0)else if vc (t.drop (zv zo t))then .error (101,zv zo t+1)else .ok (⟨2,t.take (zv zo t),0⟩,zv zo t+1))
  else if Qx c then .ok (⟨3,[c],0⟩,1)
  else .error (101,0)
abbrev zt:=List (Tk×Nat)
def xo:Nat→List UInt8→Nat→Nat→Except (Nat×Nat) zt
 |0,_,_,_=> .ok []
 |f+1,x,a,k =>
  if x.drop (qK false x)= []then .ok []else
  match one (x.drop (qK false x))with
  | .error (e,o)=> .error (e,a+qK false x+o)
  | .ok (t,n)=>if k=500 then .error (103,a+qK false x)else
    match xo f ((x.drop (qK false x)).drop n) (a+qK false x+n) (k+1)with
    | .error e=> .error e
    | .ok ts=> .ok ((t,a+qK false x)::ts)
def vK(l:List UInt8):Except (Nat×Nat) zt:=if 2000<l.length then .error (103,0)else xo (l.length+1) l 0 0
theorem jT(p:UInt8→Bool)(x:List UInt8):zv p x≤x.length:=(List.takeWhile_sublist p).length_le
theorem jf(p:UInt8→Bool)(c:UInt8)(t:List UInt8):zv p (c::t)=if p c then zv p t+1 else 0:=by
 unfold zv;rw[List.takeWhile_cons]
 split<;>simp
theorem uW(b:Bool)(x:List UInt8):qK b x≤x.length:=by
 induction x generalizing b with
 |nil=>cases b<;>simp[qK]
 |cons c t ih =>
  have h1:=ih false;have h2:=ih true;cases b<;>simp only[qK,List.length_cons]<;>repeat' split
  all_goals omega
theorem VJ{x:List UInt8}{t:Tk}{n:Nat}(h:one x= .ok (t,n)):1≤n∧n≤x.length:=by
 cases x with
 |nil=>simp[one]at h
 |cons c r =>
  have h1:=jT zW (c::r);have h2:=jT zl (c::r);have h3:=jT zo r;simp only[one]at h
  split at h
  ·rename_i hc
   split at h
   ·cases h
   ·cases h
    refine⟨?_,h1⟩;have hw:zW c=true:=by simp[zW,vR,hc]
    rw[jf,if_pos hw];omega
  ·split at h
   ·rename_i hc
    split at h
    ·cases h
    ·split at h
     ·cases h
     ·cases h
      refine⟨?_,h2⟩;rw[jf,if_pos hc];omega
   ·split at h
    ·split at h
     ·cases h
     ·split at h
      ·cases h
      ·split at h
       ·cases h
       ·cases h
        simp only[List.length_cons];omega
    ·split at h
     ·cases h
      simp
     ·cases h
def yG(ts:zt):Except (Nat×Nat) zt→Except (Nat×Nat) zt
 | .error e=> .error e
 | .ok us=> .ok (ts++us)
theorem J2(r:Except (Nat×Nat) zt):yG [] r=r:=by cases r<;>rfl
theorem Qw(ts us:zt)(r:Except (Nat×Nat) zt):yG ts (yG us r)=yG (ts++us) r:=by cases r<;>simp[yG]
theorem QH{f:Nat}{x:List UInt8}{a k:Nat}(h:x.drop (qK false x)= []):xo (f+1) x a k= .ok []:=by
 simp only[xo,if_pos h]
theorem ZI{f:Nat}{x:List UInt8}{a k e o:Nat}(h:x.drop (qK false x)≠ [])(ho:one (x.drop (qK false x))= .error (e,o)):xo (f+1) x a k= .error (e,a+qK false x+o):=by
 simp only[xo,if_neg h,ho]
theorem ZW{f:Nat}{x:List UInt8}{a:Nat}{t:Tk}{n:Nat}(h:x.drop (qK false x)≠ [])(ho:one (x.drop (qK false x))= .ok (t,n)):xo (f+1) x a 500= .error (103,a+qK false x):=by
 simp only[xo,if_neg h,ho,if_pos]
theorem ZZ{f:Nat}{x:List UInt8}{a k:Nat}{t:Tk}{n:Nat}(h:x.drop (qK false x)≠ [])(ho:one (x.drop (qK false x))= .ok (t,n))(hk:k≠500):
 xo (f+1) x a k=yG [(t,a+qK false x)] (xo f (x.drop (qK false x+n)) (a+qK false x+n) (k+1)):=by
 simp only[xo,if_neg h,ho,if_neg hk,List.drop_drop];cases xo f (x.drop (qK false x+n)) (a+qK false x+n) (k+1)<;>rfl
end
section
structure Xf (t:Tk):Prop where
 le:t.kind≤3
 word:t.kind=0→(∃c r,t.s=c::r∧zM c=true)∧(∀c ∈ t.s,zW c=true)∧t.s.length≤16
 num:t.kind=1→t.s= []∧t.n<1000000000
 hex:t.kind=2→t.s≠ []∧(∀c ∈ t.s,zo c=true)∧t.s.length≤128
 sign:t.kind=3→∃c,t.s= [c]∧Qx c=true∧zM c=false∧zl c=false∧c≠36
 zero:t.kind≠1→t.n=0
theorem uy(p:UInt8→Bool)(x:List UInt8):x.take (zv p x)=x.takeWhile p:=by
 unfold zv;exact(List.prefix_iff_eq_take.1 (List.takeWhile_prefix p)).symm
theorem ZO{p:UInt8→Bool}{x:List UInt8}:∀c ∈ x.take (zv p x),p c=true:=by
 rw[uy];intro c hc;exact List.all_eq_true.1 List.all_takeWhile c hc
theorem QP(x:List UInt8)(c:UInt8):val (x++ [c])=10*val x+(c.toNat-48):=by simp[val,List.foldl_append]
theorem Qb(x:List UInt8)(h:∀c ∈ x,zl c=true):val x<10 ^ x.length:=by
 induction hn:x.length generalizing x with
 |zero=>rw[List.length_eq_zero_iff.1 hn];decide
 |succ n ih =>
  have hx:x≠ []:=by intro e;subst e;simp at hn
  have e:=List.dropLast_concat_getLast hx;have h1:=ih x.dropLast (λc hc=>h c (List.dropLast_subset x hc)) (by simp[hn]);have h2:=h (x.getLast hx) (List.getLast_mem hx);rw[←e,QP];simp[zl]at h2;rw[Nat.pow_succ];omega
theorem uY{x:List UInt8}{t:Tk}{n:Nat}(h:one x= .ok (t,n)):Xf t:=by
 cases x with
 |nil=>simp[one]at h
 |cons c r =>
  simp only[one]at h
  split at h
  ·rename_i hc
   split at h
   ·cases h
   ·rename_i hl
    cases h;have hw:zW c=true:=by simp[zW,vR,hc]
    refine⟨(by show(0:Nat)≤3;decide),λ_=>⟨⟨c,r.take (zv zW r),?_,hc⟩,ZO,?_⟩,λe=>(by cases e),λe=>(by cases e),λe=>(by cases e),λ_=>rfl⟩
    ·show(c::r).take (zv zW (c::r))=_
     rw[jf,if_pos hw,List.take_succ_cons]
    ·show((c::r).take (zv zW (c::r))).length≤16
     rw[List.length_take];omega
  ·split at h
   ·rename_i hc
    split at h
    ·cases h
    ·rename_i hl
     split at h
     ·cases h
     ·cases h
      refine⟨(by show(1:Nat)≤3;decide),λe=>(by cases e),λ_=>⟨rfl,?_⟩,λe=>(by cases e),λe=>(by cases e),λe=>absurd rfl e⟩;have hb:=Qb ((c::r).take (zv zl (c::r))) ZO;rw[List.length_take,Nat.min_eq_left (jT zl (c::r))]at hb;have h9:10 ^ zv zl (c::r)≤10 ^ 9:=Nat.pow_le_pow_right (by decide) (by omega);exact Nat.lt_of_lt_of_le hb h9
   ·split at h
    ·split at h
     ·cases h
     ·rename_i h0
      split at h
      ·cases h
      ·rename_i hl
       split at h
       ·cases h
       ·cases h
        refine⟨(by show(2:Nat)≤3;decide),λe=>(by cases e),λe=>(by cases e),λ_=>⟨?_,ZO,?_⟩,λe=>(by cases e),λ_=>rfl⟩
        ·intro e
         have:=congrArg List.length e;have hle:=jT zo r;simp at this;rcases this with h|h
         ·exact h0 h
         ·rw[h]at h0;exact h0 rfl
        ·show(r.take (zv zo r)).length≤128
         rw[List.length_take];omega
    ·split at h
     ·rename_i h1 h2 h3 h4
      cases h;refine⟨(by show(3:Nat)≤3;decide),λe=>(by cases e),λe=>(by cases e),λe=>(by cases e),λ_=>⟨c,rfl,h4,by simpa using h1,by simpa using h2,by simpa using h3⟩,λ_=>rfl⟩
     ·cases h
def DA:Nat→Nat→List UInt8
 |0,n=> [UInt8.ofNat (48+n)]
 |f+1,n=>if n<10 then[UInt8.ofNat (48+n)]else DA f (n / 10)++ [UInt8.ofNat (48+n % 10)]
def dg(n:Nat):List UInt8:=DA n n
theorem XK(f:Nat):∀(x:List UInt8) (a k:Nat) (ts:zt),xo f x a k= .ok ts→k≤500→(∀t ∈ ts,Xf t.1)∧k+ts.length≤500:=by
 induction f with
 |zero=>intro x a k ts h hk;cases h;exact⟨by simp,by simpa using hk⟩
 |succ f ih =>
  intro x a k ts h hk;by_cases hne:x.drop (qK false x)= []
  ·rw[QH hne]at h;cases h;exact⟨by simp,by simpa using hk⟩
  ·cases hr:one (x.drop (qK false x))with
   |error e=>obtain⟨e,o⟩:=e;rw[ZI hne hr]at h;cases h
   |ok r =>
    obtain⟨t,n⟩:=r;by_cases h5:k=500
    ·subst h5;rw[ZW hne hr]at h;cases h
    ·rw[ZZ hne hr h5]at h
     cases hs:xo f (x.drop (qK false x+n)) (a+qK false x+n) (k+1)with
     |error e=>rw[hs]at h;cases h
     |ok us =>
      rw[hs]at h;cases h;obtain⟨g1,g2⟩:=ih _ _ _ _ hs (by omega);refine⟨?_,by simp only[List.cons_append,List.nil_append,List.length_cons];omega⟩;intro u hu;rcases List.mem_cons.1 hu with rfl|hu
      ·exact uY hr
      ·exact g1 u hu
end
section
theorem yA{l:List UInt8}{ts:zt}(h:vK l= .ok ts):ts.length≤500∧∀t ∈ ts,Xf t.1:=by
 unfold vK at h
 split at h
 ·cases h
 ·have:=XK _ _ _ _ _ h (by omega)
  exact⟨by omega,this.1⟩
def DF(x:List UInt8):List UInt8:=47::47::(x++ [10])
end
section
def RW:List (List UInt8):= [[100,101,118,105,99,101],[106,111,117,114,110,97,108],[107,101,121],[114,111,111,116],[118,111,108,117,109,101],[101,120,112,111,114,116],[114,101,97,100,111,110,108,121],[108,105,110,101,97,114],[99,111,110,99,97,116],[109,105,114,114,111,114],[115,110,97,112,115,104,111,116],[99,114,121,112,116],[105,110,116,101,103,114,105,116,121],[118,101,114,105,116,121]]
def xA(x:List UInt8):Bool:=(x== [100,101,118,105,99,101])||(x== [106,111,117,114,110,97,108])||(x== [107,101,121])||(x== [114,111,111,116])||(x== [118,111,108,117,109,101])||(x== [101,120,112,111,114,116])||(x== [114,101,97,100,111,110,108,121])||(x== [108,105,110,101,97,114])||(x== [99,111,110,99,97,116])||(x== [109,105,114,114,111,114])||(x== [115,110,97,112,115,104,111,116])||(x== [99,114,121,112,116])||(x== [105,110,116,101,103,114,105,116,121])||(x== [118,101,114,105,116,121])
end
section
inductive Nd where
 |mk (op s:List UInt8) (n:Int) (a:Int) (l:List Nd):Nd
def Nd.op:Nd→List UInt8| .mk o _ _ _ _=>o
def Nd.s:Nd→List UInt8| .mk _ s _ _ _=>s
def Nd.n:Nd→Int| .mk _ _ n _ _=>n
def Nd.a:Nd→Int| .mk _ _ _ a _=>a
def Nd.l:Nd→List Nd| .mk _ _ _ _ l=>l
def ZM:List UInt8:= [102,105,108,101]
def ye:List UInt8:= [117,115,101]
def vH:List UInt8:= [110,117,109]
def jN:List UInt8:= [110,97,109,101]
def Z3:List UInt8:= [104,101,120]
def De:List UInt8:= [101,120,112,114]
def zd:List UInt8:= [100,101,118,105,99,101]
def zj:List UInt8:= [106,111,117,114,110,97,108]
def qj:List UInt8:= [107,101,121]
def zS:List UInt8:= [114,111,111,116]
def zr:List UInt8:= [118,111,108,117,109,101]
def zH:List UInt8:= [101,120,112,111,114,116]
def vU:List UInt8:= [114,101,97,100,111,110,108,121]
def qO:List UInt8:= [108,105,110,101,97,114]
def qE:List UInt8:= [99,111,110,99,97,116]
def qW:List UInt8:= [109,105,114,114,111,114]
def qi:List UInt8:= [115,110,97,112,115,104,111,116]
def jH:List UInt8:= [99,114,121,112,116]
def qk:List UInt8:= [105,110,116,101,103,114,105,116,121]
def js:List UInt8:= [118,101,114,105,116,121]
inductive Kd where
 |ex|nu|na
def Kd.w:Kd→List UInt8
 | .ex=>De
 | .nu=>vH
 | .na=>jN
def zQ(op:List UInt8):List Kd×Bool:=
 if op=qO then([.ex,.nu,.nu],false)
 else if op=qE∨op=qW then([.ex],true)
 else if op=qi then([.ex,.ex,.nu],false)
 else if op=jH∨op=qk∨op=js then([.ex,.na],false)
 else([],false)
def j3(t:Tk):Bool:=t.kind==0&& !xA t.s
def v7(x:List UInt8)(t:Tk):Bool:=t.kind==3&&t.s==x
def yQ(k:Nat)(t:Tk):Bool:=t.kind==k
def yY(l:List (List UInt8))(t:Tk):Bool:=t.kind==0&&l.any (λy=>t.s==y)
def Zl(t:Tk):Bool:=j3 t||(t.kind==0&&decide (0<(zQ t.s).1.length))
def Zv(en:Nat):zt→Nat
 | []=>en
 |t::_=>t.2
abbrev PR(α:Type):=Except (Nat×Nat) (α×zt)
abbrev jY(α:Type):=Nat→zt→PR α
def jw{α:Type}(x:α):jY α:=λ_ ts=> .ok (x,ts)
def zx{α β:Type}(p:jY α)(f:α→jY β):jY β:=λen ts=>match p en ts with
 | .error e=> .error e
 | .ok (x,r)=>f x en r
def zB(p:Tk→Bool):jY (Tk×Nat):=λen ts=>match ts with
 | []=> .error (111,en)
 |t::r=>if p t.1 then .ok (t,r)else .error (111,t.2)
def je(p:Tk→Bool)(ts:zt):Bool:=match ts with
 | []=>false
 |t::_=>p t.1
def Vn{α:Type}(p:Tk→Bool)(x y:jY α):jY α:=λen ts=>if je p ts then x en ts else y en ts
def xl(pe:jY Nd):Kd→jY Nd
 | .nu=>zx (zB (yQ 1)) λt=>jw (.mk vH [] t.1.n t.2 [])
 | .na=>zx (zB j3) λt=>jw (.mk jN t.1.s 0 t.2 [])
 | .ex=>pe
def kq:Tk→Bool:=v7 [44]
def vW(pe:jY Nd):Bool→List Kd→jY (List Nd)
 |_,[]=>jw []
 |true,k::ks=>zx (xl pe k) λn=>zx (vW pe false ks) λl=>jw (n::l)
 |false,k::ks=>zx (zB kq) λ_=>zx (xl pe k) λn=>zx (vW pe false ks) λl=>jw (n::l)
def xi(pe:jY Nd):Nat→jY (List Nd)
 |0=>jw []
 |f+1=>Vn kq (zx (zB kq) λ_=>zx pe λn=>zx (xi pe f) λl=>jw (n::l)) (jw [])
def Zm(pe:jY Nd)(op:List UInt8):jY (List Nd):=
 zx (zB (v7 [40])) λ_=>zx (vW pe true (zQ op).1) λl =>
  zx (if(zQ op).2 then xi pe 501 else jw []) λm=>zx (zB (v7 [41])) λ_=>jw (l++m)
def zR:Nat→jY Nd
 |0=>λen ts=> .error (112,Zv en ts)
 |d+1=>zx (zB Zl) λt=>if j3 t.1 then jw (.mk ye t.1.s 0 t.2 [])else zx (Zm (zR d) t.1.s) λl=>jw (.mk t.1.s [] 0 t.2 l)
def v8:List (List UInt8):= [zd,zj,qj,zS,zr,zH]
def vN(op:List UInt8):jY (Int×List Nd):=
 if op=zd∨op=zj then zx (zB (yQ 1)) λt=>jw (t.1.n,[])
 else if op=qj∨op=zS then zx (zB (yQ 2)) λt=>jw (0,[.mk Z3 t.1.s 0 t.2 []])
 else if op=zr then zx (zB (v7 [61])) λ_=>zx (zR 12) λn=>jw (0,[n])
 else Vn (yY [vU]) (zx (zB (yY [vU])) λ_=>jw (1,[])) (jw (0,[]))
def qy:jY Nd:=zx (zB (yY v8)) λt=>zx (zB j3) λu=>zx (vN t.1.s) λr=>zx (zB (v7 [59])) λ_=>jw (.mk t.1.s u.1.s r.1 t.2 r.2)
def jF:Nat→jY (List Nd)
 |0=>jw []
 |f+1=>λen ts=>match ts with
  | []=> .ok ([],[])
  |t::r=>(zx qy λn=>zx (jF f) λl=>jw (n::l)) en (t::r)
def vy(x:List UInt8):Except (Nat×Nat) Nd:=match vK x with
 | .error e=> .error e
 | .ok ts=>match jF 501 x.length ts with
   | .error e=> .error e
   | .ok (l,_)=> .ok (.mk ZM [] 0 0 l)
def zu{α:Type}(P:jY α):Prop:=∀en ts,
 (∀x r,P en ts= .ok (x,r)→∃q,ts=q++r∧∀en' r',r'.head?=r.head?→P en' (q++r')= .ok (x,r')) ∧
 (∀c k,P en ts= .error (c,k)→∃q r,ts=q++r∧k=Zv en r∧∀en' r',r'.head?=r.head?→P en' (q++r')= .error (c,Zv en' r'))
theorem QR{q r r':zt}(h:r'.head?=r.head?):(q++r').head?=(q++r).head?:=by cases q<;>simp[h]
theorem zu.ret{α:Type}(x:α):zu (jw x):=by
 intro en ts;refine⟨λy r h=>?_,λc k h=>(by cases h)⟩;cases h;exact⟨[],rfl,λen' r' _=>rfl⟩
theorem zu.bind{α β:Type}{P:jY α}{f:α→jY β}(hP:zu P)(hf:∀x,zu (f x)):zu (zx P f):=by
 intro en ts;constructor
 ·intro y r h
  unfold zx at h;cases hp:P en ts with
  |error e=>rw[hp]at h;cases h
  |ok xr =>
   obtain⟨x,s⟩:=xr;rw[hp]at h;obtain⟨q1,e1,h1⟩:=(hP en ts).1 x s hp;obtain⟨q2,e2,h2⟩:=(hf x en s).1 y r h;refine⟨q1++q2,by rw[e1,e2,List.append_assoc],λen' r' hr=>?_⟩;unfold zx;rw[List.append_assoc,h1 en' (q2++r') (by rw[e2];exact QR hr)];exact h2 en' r' hr
 ·intro c k h
  unfold zx at h;cases hp:P en ts with
  |error e =>
   rw[hp]at h;cases h;obtain⟨q,r,e1,e2,h1⟩:=(hP en ts).2 c k hp;refine⟨q,r,e1,e2,λen' r' hr=>?_⟩;unfold zx;rw[h1 en' r' hr]
  |ok xr =>
   obtain⟨x,s⟩:=xr;rw[hp]at h;obtain⟨q1,e1,h1⟩:=(hP en ts).1 x s hp;obtain⟨q2,r,e2,e3,h2⟩:=(hf x en s).2 c k h;refine⟨q1++q2,r,by rw[e1,e2,List.append_assoc],e3,λen' r' hr=>?_⟩;unfold zx;rw[List.append_assoc,h1 en' (q2++r') (by rw[e2];exact QR hr)];exact h2 en' r' hr
theorem zu.take(p:Tk→Bool):zu (zB p):=by
 intro en ts;cases ts with
 |nil =>
  refine⟨λx r h=>(by cases h),λc k h=>?_⟩;cases h;refine⟨[],[],rfl,rfl,λen' r' hr=>?_⟩;cases r' with
  |nil=>rfl
  |cons a b=>cases hr
 |cons t ts =>
  constructor
  ·intro x r h
   simp only[zB]at h
   split at h
   ·rename_i hp
    cases h;refine⟨[t],rfl,λen' r' hr=>?_⟩;show(if p t.1 then _ else _)=_;rw[if_pos hp];rfl
   ·cases h
  ·intro c k h
   simp only[zB]at h
   split at h
   ·cases h
   ·rename_i hp
    cases h;refine⟨[],t::ts,rfl,rfl,λen' r' hr=>?_⟩;cases r' with
    |nil=>cases hr
    |cons a b =>
     simp only[List.head?_cons,Option.some.injEq]at hr;subst hr;show(if p a.1 then _ else _)=_;rw[if_neg hp];rfl
theorem Kw(p:Tk→Bool){r r':zt}(h:r'.head?=r.head?):je p r'=je p r:=by
 cases r<;>cases r'<;>simp_all [je]
theorem zu.fork{α:Type}(p:Tk→Bool){P Q:jY α}(hP:zu P)(hQ:zu Q):zu (Vn p P Q):=by
 intro en ts;have key:∀(q r r':zt),r'.head?=r.head?→je p (q++r')=je p (q++r):=λq r r' h=>Kw p (QR h)
 unfold Vn;by_cases h0:je p ts=true
 ·rw[if_pos h0]
  constructor
  ·intro x r h
   obtain⟨q,e,hq⟩:=(hP en ts).1 x r h;refine⟨q,e,λen' r' hr=>?_⟩;rw[if_pos (by rw[key q r r' hr,←e];exact h0)];exact hq en' r' hr
  ·intro c k h
   obtain⟨q,r,e,ek,hq⟩:=(hP en ts).2 c k h;refine⟨q,r,e,ek,λen' r' hr=>?_⟩;rw[if_pos (by rw[key q r r' hr,←e];exact h0)];exact hq en' r' hr
 ·rw[if_neg h0]
  constructor
  ·intro x r h
   obtain⟨q,e,hq⟩:=(hQ en ts).1 x r h;refine⟨q,e,λen' r' hr=>?_⟩;rw[if_neg (by rw[key q r r' hr,←e];exact h0)];exact hq en' r' hr
  ·intro c k h
   obtain⟨q,r,e,ek,hq⟩:=(hQ en ts).2 c k h;refine⟨q,r,e,ek,λen' r' hr=>?_⟩;rw[if_neg (by rw[key q r r' hr,←e];exact h0)];exact hq en' r' hr
theorem zu.ite{α:Type}{P Q:jY α}(c:Prop)[Decidable c](hP:zu P)(hQ:zu Q):zu (if c then P else Q):=by
 split
 ·exact hP
 ·exact hQ
theorem Qs{pe:jY Nd}(h:zu pe)(k:Kd):zu (xl pe k):=by
 cases k
 ·exact h
 ·exact(zu.take _).bind λ_=>zu.ret _
 ·exact(zu.take _).bind λ_=>zu.ret _
theorem VH{pe:jY Nd}(h:zu pe)(ks:List Kd):∀b,zu (vW pe b ks):=by
 induction ks with
 |nil=>intro b;cases b<;>exact zu.ret _
 |cons k ks ih =>
  intro b;cases b
  ·exact(zu.take _).bind λ_=>(Qs h k).bind λ_=>(ih false).bind λ_=>zu.ret _
  ·exact(Qs h k).bind λ_=>(ih false).bind λ_=>zu.ret _
theorem Y7{pe:jY Nd}(h:zu pe)(f:Nat):zu (xi pe f):=by
 induction f with
 |zero=>exact zu.ret _
 |succ f ih=>exact zu.fork _ ((zu.take _).bind λ_=>h.bind λ_=>ih.bind λ_=>zu.ret _) (zu.ret _)
theorem Ve{pe:jY Nd}(h:zu pe)(op:List UInt8):zu (Zm pe op):=
 (zu.take _).bind λ_=>(VH h _ _).bind λ_=>(zu.ite _ (Y7 h _) (zu.ret _)).bind λ_=>(zu.take _).bind λ_=>zu.ret _
theorem YN(d:Nat):zu (zR d):=by
 induction d with
 |zero =>
  intro en ts;refine⟨λx r h=>(by cases h),λc k h=>?_⟩;cases h;exact⟨[],ts,rfl,rfl,λen' r' hr=>rfl⟩
 |succ d ih=>exact(zu.take _).bind λ_=>zu.ite _ (zu.ret _) ((Ve ih _).bind λ_=>zu.ret _)
theorem Qm(op:List UInt8):zu (vN op):=by
 unfold vN
 exact zu.ite _ ((zu.take _).bind λ_=>zu.ret _) (zu.ite _ ((zu.take _).bind λ_=>zu.ret _)
  (zu.ite _ ((zu.take _).bind λ_=>(YN 12).bind λ_=>zu.ret _) (zu.fork _ ((zu.take _).bind λ_=>zu.ret _) (zu.ret _))))
end
section
open Go.ChangeShapes Go.WideShapes Go.ChangeAt Go.RowKit
def qJ(k:IntKind)(n:Nat)(f:Nat→Nat):Array Value:=((List.range n).map λj=>Value.int k (f j:Nat)).toArray
theorem Qj(k:IntKind)(n:Nat)(f:Nat→Nat):(qJ k n f).size=n:=by simp[qJ]
theorem xf(k:IntKind)(n:Nat)(f:Nat→Nat)(j:Nat)(h:j<n):(qJ k n f)[j]?=some (.int k (f j:Nat)):=by
 simp[qJ,h]
def fg(f:Nat→Nat)(j v:Nat):Nat→Nat:=λi=>if i=j then v else f i
theorem KI(k:IntKind)(n:Nat)(f:Nat→Nat)(j v:Nat):(qJ k n f).setIfInBounds j (.int k (v:Nat))=qJ k n (fg f j v):=by
 apply Array.ext_getElem?;intro i;rw[Array.getElem?_setIfInBounds];simp only[Qj];by_cases hi:i<n
 ·rw[xf _ _ _ _ hi,xf _ _ _ _ hi]
  by_cases e:j=i
  ·subst e;simp[fg,hi]
  ·have :¬i=j:=λh=>e h.symm
   simp[fg,e,this]
 ·have e1:(qJ k n f)[i]?=none:=by simp[qJ];omega
  have e2:(qJ k n (fg f j v))[i]?=none:=by simp[qJ];omega
  rw[e1,e2]
  split
  ·subst_vars;simp[hi]
  ·rfl
theorem VG(k:IntKind)(n:Nat)(f g:Nat→Nat)(h:∀j,j<n→f j=g j):qJ k n f=qJ k n g:=by
 unfold qJ
 congr 1
 apply List.map_congr_left;intro j hj;rw[h j (by simpa using hj)]
def zi(w:World)(g t:Nat)(cs:Array Value):Prop:=w.heap[g]?=some (.cells cs t (0,0))
theorem zi.lt{w:World}{g t:Nat}{cs:Array Value}(h:zi w g t cs):g<w.heap.size:=(Array.getElem?_eq_some_iff.1 h).1
theorem zi.cell{w:World}{g t:Nat}{cs:Array Value}(h:zi w g t cs)(j:Nat):w.cell? ⟨g,j,none⟩=cs[j]?:=cell_of_row w g j cs t (0,0) h
theorem zi.num{w:World}{g t n:Nat}{k:IntKind}{f:Nat→Nat}(h:zi w g t (qJ k n f))(j:Nat)(hj:j<n):w.cell? ⟨g,j,none⟩=some (.int k (f j:Nat)):=by
 rw[h.cell,xf _ _ _ _ hj]
theorem zi.free{w:World}{g t:Nat}{cs:Array Value}(h:zi w g t cs)(j:Nat):w.frozen? ⟨g,j,none⟩=false:=by
 have h':w.heap[g]?=some (.cells cs t (0,0)):=h;simp[World.frozen?,h']
theorem zi.below{w w':World}{B g t:Nat}{cs:Array Value}(h:zi w g t cs)(hb:Below B w w')(hg:g<B):zi w' g t cs:=(hb.block g hg).trans h
theorem zi.drewN{w:World}{g t:Nat}{cs:Array Value}(h:zi w g t cs)(m:Nat):zi (w.drewN m) g t cs:=h
theorem zi.alloc{w:World}{g t:Nat}{cs:Array Value}(h:zi w g t cs)(o:Obj):zi (w.alloc o) g t cs:=(Below.heap_alloc w o g h.lt).trans h
theorem zi.new(w:World)(t:Nat)(cs:Array Value):zi (w.alloc (.cells cs t)) w.heap.size t cs:=heap_alloc_new w _
theorem zi.new_at{w:World}{g t:Nat}{cs:Array Value}(h:g=w.heap.size):zi (w.alloc (.cells cs t)) g t cs:=h ▸ heap_alloc_new w _
theorem zi.other{w:World}{g t:Nat}{cs:Array Value}(h:zi w g t cs){p:Addr}(hp:g≠p.block)(u:Value):zi (w.setCell p u) g t cs:=(Below.heap_setCell w p u g hp).trans h
theorem zi.set{w:World}{g t n:Nat}{k:IntKind}{f:Nat→Nat}(h:zi w g t (qJ k n f))(j v:Nat):zi (w.setCell ⟨g,j,none⟩ (.int k (v:Nat))) g t (qJ k n (fg f j v)):=by
 have h':w.heap[g]?=some (.cells (qJ k n f) t (0,0)):=h;show(w.setCell ⟨g,j,none⟩ _).heap[g]?=_;simp only[World.setCell,Array.getElem?_modify,h',if_pos,Option.map_some];rw[KI];rfl
theorem zi.setRow{w:World}{g t:Nat}{cs:Array Value}(h:zi w g t cs)(cs':Array Value):zi (w.setRow g cs') g t cs':=setRow_heap w g cs cs' t (0,0) h
theorem jW{B:Nat}{a w:World}(h:Below B a w){g:Nat}(hg:B≤g)(cs:Array Value):Below B a (w.setRow g cs):=
 h.trans ⟨rfl,rfl,rfl,by simp[World.setRow],λk hk=>by simp only[World.setRow,Array.getElem?_modify];rw[if_neg (by omega)]⟩
theorem zi.load{w:World}{g t n e:Nat}{cs:Array Value}(h:zi w g t cs)(ty:Nat)(hu:Tryz.prog.underlying ty=some (.array n e))(hi:(Tryz.prog.info? ty).map (·.size)=some cs.size):
 (Instr.loadAt ty (.pointer (some ⟨g,0,none⟩))).run Tryz.prog w= .ok (.agg cs) w:=by
 simp only[Instr.loadAt,Instr.sureAddr,Sem.run_bind,Sem.run_pure,Result.andThen];exact run_loadVar_row _ _ t ty cs (0,0) _ h hu rfl hi
theorem zi.store{w:World}{g t:Nat}{cs cs':Array Value}(h:zi w g t cs)(ty:Nat)(hi:(Tryz.prog.info? ty).map (·.size)=some cs'.size)(ho:cs.size=cs'.size)(h1:cs'.all (·.oneCell')=true):
 (Instr.storeAt ty (.pointer (some ⟨g,0,none⟩)) (.agg cs')).run Tryz.prog w= .ok () (w.setRow g cs'):=by
 simp only[Instr.storeAt,Instr.sureAddr,Sem.run_bind,Sem.run_pure,Result.andThen];exact run_storeVar_row w g t ty cs cs' h hi ho h1
def part(f:Nat→Nat)(k:Nat):Nat→Nat:=λj=>if j<k then f j else 0
theorem Tryz.info5:(Tryz.prog.info? 5).map (λi=>(i.zero,i.size,i.bytes))=some (some (.int .u8 0),1,1):=by kernel_rfl
def xh(w:World)(a:Option Addr)(len:Nat)(m:Nat→Nat):Prop:=len=0∨∃b off,a=some ⟨b,off,none⟩∧b<w.heap.size∧∀j,j<len→w.cell? ⟨b,off+j,none⟩=some (.int .u8 (m j:Nat))
theorem xh.below{w w':World}{a:Option Addr}{len B:Nat}{m:Nat→Nat}(h:xh w a len m)(hb:Below B w w')(hB:w.heap.size≤B):xh w' a len m:=by
 rcases h with h|⟨b,off,h1,h2,h3⟩
 ·exact .inl h
 ·exact .inr ⟨b,off,h1,Nat.lt_of_lt_of_le h2 hb.size,λj hj=>(hb.cell (show b<B by omega)).trans (h3 j hj)⟩
def bl(f:Nat→Nat)(n:Nat):List Value:=(List.range n).map λj=>Value.int .u8 (f j:Nat)
def cat(f:Nat→Nat)(n:Nat)(g:Nat→Nat):Nat→Nat:=λj=>if j<n then f j else g (j-n)
theorem Vy(w:World)(r:Option Nat):w.grownBy w r:=⟨rfl,rfl,rfl,Nat.le_refl _,λ_ _ _=>rfl⟩
theorem zi.bytes{w:World}{g t n:Nat}{f:Nat→Nat}(h:zi w g t (qJ .u8 n f)):xh w (some ⟨g,0,none⟩) n f:=
 .inr ⟨g,0,rfl,h.lt,λj hj=>by rw[Nat.zero_add];exact h.num j hj⟩
theorem xh.setRow{w:World}{a:Option Addr}{len:Nat}{m:Nat→Nat}(h:xh w a len m)(g:Nat)(cs:Array Value)(hne:∀b o,a=some ⟨b,o,none⟩→b≠g):xh (w.setRow g cs) a len m:=by
 rcases h with h|⟨b,o,rfl,hlt,hc⟩
 ·exact .inl h
 ·have hb:=setRow_other w g b cs (hne b o rfl)
  have hlt':b<(w.setRow g cs).heap.size:=(Array.getElem?_eq_some_iff.1 (hb.trans (Array.getElem?_eq_getElem hlt))).1;exact .inr ⟨b,o,rfl,hlt',λj hj=>by rw[←hc j hj];simp only[World.cell?,hb]⟩
theorem xh.part{w:World}{b o len:Nat}{m:Nat→Nat}(h:xh w (some ⟨b,o,none⟩) len m)(s k:Nat)(hk:s+k≤len):xh w (some ⟨b,o+s,none⟩) k (λj=>m (s+j)):=by
 rcases h with h|⟨b',o',e,hlt,hc⟩
 ·exact .inl (by omega)
 ·cases e
  exact .inr ⟨b,o+s,rfl,hlt,λj hj=>by rw[Nat.add_assoc];exact hc _ (by omega)⟩
theorem zc{ops:Array Oper}{rest:List Oper}{o:Oper}{a:Act}{w:World}{Q:Exit→Act→World→Prop}(d:Option Tmp)(v:Value)(hd:o.dst=d)(hw:Region.wanted o (yielded ops a.tmps)=true)
 (hrun:(execOp a.eval o).run Tryz.prog w= .ok (.value v) w) (h:wpList Tryz.prog ops Q rest (a.put d v) w):wpList Tryz.prog ops Q (o::rest) a w:=
 wpList_step λK hK=>by
  subst hd;rw[if_pos hw];unfold Oper.wp;rw[hrun];exact hK _ _ h
theorem zq{ops:Array Oper}{rest:List Oper}{o:Oper}{a:Act}{w:World}{Q:Exit→Act→World→Prop}(d:Option Tmp)(v:Value)(w':World)(hd:o.dst=d)(hw:Region.wanted o (yielded ops a.tmps)=true)
 (hrun:(execOp a.eval o).run Tryz.prog w= .ok (.value v) w') (h:wpList Tryz.prog ops Q rest (a.put d v) w'):wpList Tryz.prog ops Q (o::rest) a w:=
 wpList_step λK hK=>by
  subst hd;rw[if_pos hw];unfold Oper.wp;rw[hrun];exact hK _ _ h
theorem uM(n:Nat):(madeCells (Value.int .u8 0).cells (n*1)).toList=bl (λ_=>0) n:=by
 unfold bl madeCells;apply List.ext_getElem?;intro i;by_cases h:i<n
 ·simp[h,Value.cells,Nat.mod_one]
 ·simp[h,Value.cells]
theorem U0{w:World}{base n g:Nat}{f:Nat→Nat}(h:w.ownsRow base 5 1 (.slice (some ⟨g,0,none⟩) n n) n (bl f n)):zi w g 5 (qJ .u8 n f):=by
 rcases h.2 with⟨e,_⟩|⟨g',cap,cur,e,hb,hg,hn,hm,hs,ht⟩
 ·cases e
 ·injection e with e1 _ e3
  injection e1 with e1
  injection e1 with e1
  subst e1 e3
  have hc:cur=qJ .u8 n f:=by
   apply Array.toList_inj.1;rw[←List.take_of_length_le (l:=cur.toList) (i:=n*1) (by rw[Array.length_toList,hs];exact Nat.le_refl _),ht];unfold bl qJ;rfl
  show w.heap[g]?=_;rw[hg,hc]
theorem Gl(n:Nat)(hn:n≤10000000)(w:World):∃w',zi w' w.heap.size 5 (qJ .u8 n λ_=>0)∧Below w.heap.size w w' ∧
 ∀(o:Oper) (a:Act) (l c:Operand),o.op= .makeSlice 45 l c→a.eval l= .int .i64 (n:Nat)→a.eval c= .int .i64 (n:Nat)→(execOp a.eval o).run Tryz.prog w= .ok (.value (.slice (some ⟨w.heap.size,0,none⟩) n n)) w':=by
 obtain⟨i0,hi,hz0,hz1,hz2⟩:=info_parts Tryz.info5;obtain⟨w',hrun,r1,r2⟩:=run_make_full (P:=Tryz.prog) w w.heap.size 45 5 i0 (.int .u8 0) 1 Tryz.underlying45 hi hz0 hz1 .i64 .i64 n (by rw[hz2];omega) (by unfold maxLen;omega) (Nat.le_refl _);rw[uM]at r1;refine⟨w',U0 r1,(Below.refl _ _).grown r2 (Nat.le_refl _) (by intro k h;cases h),?_⟩;intro o a l c ho hl hc;unfold execOp;simp[ho,hl,hc,hrun,Result.andThen]
def over(F:Nat→Nat)(o n:Nat)(f:Nat→Nat):Nat→Nat:=λj=>if o≤j∧j<o+n then f (j-o)else F j
theorem zi.grown{w w':World}{g b t:Nat}{cs:Array Value}(h:zi w b t cs)(hg:w.grownBy w' (some g))(hne:b≠g):zi w' b t cs:=(hg.block b h.lt (λe=>hne (by cases e;rfl))).trans h
theorem xh.range{w:World}{b o len:Nat}{m:Nat→Nat}(h:xh w (some ⟨b,o,none⟩) len m)(s k:Nat)(hk:s+k≤len):w.rangeAt b (o+s) (qJ .u8 k (λj=>m (s+j))).toList:=by
 intro j v hj
 have hjk:j<k:=by
  have:=(List.getElem?_eq_some_iff.1 hj).1
  rwa [Array.length_toList,Qj]at this
 rw[Array.getElem?_toList,xf _ _ _ _ hjk]at hj;cases hj;rcases h with h|⟨b',o',e,_,hc⟩
 ·omega
 ·cases e
  rw[Nat.add_assoc];exact hc (s+j) (by omega)
theorem ze {α : Type} (l : List α) (i : Nat) (v : α) : l.toArray.setIfInBounds i v = (l.set i v).toArray := by simp
theorem zg {α : Type} {a b : α} {l : List α} : (a :: l).set 0 b = b :: l := rfl
theorem zf {α : Type} {a b : α} {l : List α} {n : Nat} : (a :: l).set (n + 1) b = a :: l.set n b := rfl
theorem qt {α : Type} {l : List α} {i : Nat} : l.toArray[i]? = l[i]? := by simp
theorem qu {α : Type} {a : α} {l : List α} : (a :: l)[0]? = some a := rfl
theorem qr {α : Type} {a : α} {l : List α} {i : Nat} : (a :: l)[i + 1]? = l[i]? := rfl
end
section
open Go.ChangeShapes Go.WideShapes Go.ChangeAt Go.RowKit
section
variable {P:Program} {ops:Array Oper} {Q:Exit→Act→World→Prop} {md:Region.Mode} {S:World→Prop} {m:Nat}
theorem gj{oi:Oper}(i:Nat)(d:Option Tmp)(v:Value){fuel:Nat}{listed:Array Bool}{a:Act}{w:World}(hi:ops[i]?=some oi)(hd:oi.dst=d)
 (hs:Region.noSelect ops=true) (hf:Region.free md ops listed i=true) (hr:(Region.ready md ops listed).contains i=true)
 (hQ:∀c a w,Q (.panic c) (a.put d v) w→Q (.panic c) a w) (hw:Region.wanted oi (yielded ops a.tmps)=true) (hy:∀w,S w→(execOp a.eval oi).run P w= .ok (.value v) w) (hS:S w)
 (h:wpAnyH P md ops Q S fuel (listed.setIfInBounds i true) (a.put d v) w):wpAnyH P md ops Q S (fuel+1) listed a w:=by
 subst hd;exact wpAnyH_take hi hs hf hr hQ (.inl ⟨hw,hy⟩) hS h
theorem Zj{oi:Oper}(i:Nat)(d:Option Tmp)(f:FuncId)(args:Array Value){fuel:Nat}{listed:Array Bool}{a:Act}{w:World}{Post:Ending→World→Prop}
 (hr:Region.ready md ops listed= [i]) (hi:ops[i]?=some oi) (hd:oi.dst=d) (hw:Region.wanted oi (yielded ops a.tmps)=true)
 (hrun:(execOp a.eval oi).run P w= .ok (.enter f args) w) (hc:Calls P f args w Post)
 (h:∀e w',Post e w'→∃v,e= .returned v∧S w'∧wpAnyH P md ops Q S fuel (listed.setIfInBounds i true) (a.put d v) w'):wpAnyH P md ops Q S (fuel+1) listed a w:=by
 subst hd;refine wpAnyH_ready hr (by simp) (AllReadyH.cons hi (λK hK=>?_) AllReadyH.nil);rw[if_pos hw];unfold Oper.wp;rw[hrun,Oper.upon_enter];refine hc.mono λe w' hh=>?_
 obtain⟨v,rfl,hS,hrest⟩:=h e w' hh;exact hK.out _ _ hS (λ_=>hrest)
def ud(P:Program)(md:Region.Mode)(ops:Array Oper)(Q:Exit→Act→World→Prop)(S:World→Prop)(fuel:Nat)(listed:Array Bool)(a:Act)(w:World)(i:Nat):Prop:=
 wpOp P ops Q i (λa' w'=>S w'∧wpAnyH P md ops Q S fuel (listed.setIfInBounds i true) a' w') a w
theorem yh{fuel:Nat}{listed:Array Bool}{a:Act}{w:World}(i:Nat)(hr:Region.ready md ops listed= [i])(h:ud P md ops Q S fuel listed a w i):wpAnyH P md ops Q S (fuel+1) listed a w:=
 wpAnyH_all hr (by simp) (λk hk=>by obtain rfl:k=i:=(by simpa using hk);exact h)
theorem xT{oi:Oper}{i:Nat}(d:Option Tmp)(v:Value)(w':World){fuel:Nat}{listed:Array Bool}{a:Act}{w:World}
 (hi:ops[i]?=some oi) (hd:oi.dst=d) (hw:Region.wanted oi (yielded ops a.tmps)=true)
 (hrun:(execOp a.eval oi).run P w= .ok (.value v) w')
 (h:S w'∧wpAnyH P md ops Q S fuel (listed.setIfInBounds i true) (a.put d v) w'):ud P md ops Q S fuel listed a w i:=by
 subst hd;refine wpOp_step hi (λK hK=>?_);rw[if_pos hw];unfold Oper.wp;rw[hrun];exact hK _ _ h
theorem yZ{oi:Oper}{i:Nat}(d:Option Tmp)(w':World){fuel:Nat}{listed:Array Bool}{a:Act}{w:World}
 (hi:ops[i]?=some oi) (hd:oi.dst=d) (hw:Region.wanted oi (yielded ops a.tmps)=true)
 (hrun:(execOp a.eval oi).run P w= .ok .skip w')
 (h:S w'∧wpAnyH P md ops Q S fuel (listed.setIfInBounds i true) (a.put d undef) w'):ud P md ops Q S fuel listed a w i:=by
 subst hd;refine wpOp_step hi (λK hK=>?_);rw[if_pos hw];unfold Oper.wp;rw[hrun];exact hK _ _ h
def j2(P:Program)(md:Region.Mode)(ops:Array Oper)(Q:Exit→Act→World→Prop)(S:World→Prop)(m:Nat):Nat→Array Bool→Act→World→Prop
 |0,listed,a,w=>Region.ready md ops listed= []∧Q .normal a w
 |n+1,listed,a,w=>(Region.ready md ops listed= []→Q .normal a w)∧∀j ∈ Region.ready md ops listed,wpOp P ops Q j (λa' w'=>(j≠m→S w')∧j2 P md ops Q S m n (listed.setIfInBounds j true) a' w') a w
theorem j2.any:∀(n:Nat) (listed:Array Bool) (a:Act) (w:World),j2 P md ops Q S m n listed a w→wpAny P md ops Q n listed a w
 |0,_,_,_,h=>h
 |n+1,_,_,_,h=>⟨h.1,λj hj=>wpOp_mono (λa' w' h'=>j2.any n _ a' w' h'.2) (h.2 j hj)⟩
theorem vD{id:Nat}{a:Act}{w:World}(m:Nat)(hm:P.follows .mixedOrders=true)(hS:S w.drew)
 (h:S w.drew→j2 P .any ops Q S m ops.size (Array.replicate ops.size false) a w.drew):(Code.region id ops true).wp P Q a w:=
 wp_region_any hm (j2.any _ _ _ _ (h hS))
def jE(md:Region.Mode)(ops:Array Oper)(m i:Nat):Bool:=(ops[m]?).any λo=>o.after.any λe=>Region.binds md e&&e.on==i
theorem Fu{i:Nat}{listed:Array Bool}(hw:jE md ops m i=true)(hr:i ∈ Region.ready md ops listed):m ∉ Region.ready md ops listed:=by
 intro hm;obtain⟨_,o,ho,hall⟩:=mem_ready.1 hm;obtain⟨hi0,_⟩:=mem_ready.1 hr;simp only[jE,ho,Option.any_some,Array.any_eq_true',Bool.and_eq_true,beq_iff_eq]at hw;obtain⟨e,he,hb,rfl⟩:=hw;have h1:=hall e he hb;by_cases hlt:e.on<listed.size
 ·simp[hlt]at hi0 h1
  rw[hi0]at h1;cases h1
 ·simp[Array.getElem?_eq_none (Nat.not_lt.1 hlt)]at h1
theorem j2.front{i:Nat}{oi:Oper}{v:Value}(hi:ops[i]?=some oi)(him:i≠m)(hw:jE md ops m i=true)(hsel:∀(j:Nat) (o:Oper) cs b,ops[j]?=some o→o.op≠ .select cs b)
 (hQ:∀c a w,Q (.panic c) (a.put oi.dst v) w→Q (.panic c) a w):∀(n:Nat) (listed:Array Bool) (a:Act) (w:World),
   (∀j oj,ops[j]?=some oj→j≠i→listed.getD j true=false→(∀e ∈ oj.after,Region.binds md e=true→e.on≠i)→oi.apart ops oj=true) →
   i ∈ Region.ready md ops listed→YieldsIf P ops S oi v a→S w→j2 P md ops Q S m n (listed.setIfInBounds i true) (a.put oi.dst v) w→j2 P md ops Q S m (n+1) listed a w
 |n,listed,a,w,hfree,hr,hy,hS,H=>by
  refine⟨λh=>absurd (h ▸ hr) (by simp),λj hj=>?_⟩;by_cases hji:j=i
  ·subst hji
   exact hy.wpOp hi hS ⟨λ_=>hS,H⟩
  have hjm:j≠m:=λe=>Fu hw hr (e ▸ hj)
  have hj':=ready_mono hj hji;cases n with
  |zero=>exact absurd (H.1 ▸ hj') (by simp)
  |succ n =>
   obtain⟨hjun,oj,hoj,hall⟩:=mem_ready.1 hj
   have hno:∀e ∈ oj.after,Region.binds md e=true→e.on≠i:=by
    intro e he hb heq;have h1:=hall e he hb;have h0:=(mem_ready.1 hr).1;subst heq;by_cases hlt:e.on<listed.size
    ·simp[hlt]at h0 h1
     rw[h0]at h1;cases h1
    ·simp[Array.getElem?_eq_none (Nat.not_lt.1 hlt)]at h1
   refine wpOp_mono ?_ (wpOp_putIf hoj (hfree j oj hoj hji hjun hno) (λcs b=>hsel i oi cs b hi) (λcs b=>hsel j oj cs b hoj) hQ hy (H.2 j hj'));rintro a' w' ⟨hy',hS',H'⟩;refine⟨hS',j2.front hi him hw hsel hQ n (listed.setIfInBounds j true) a' w' (λk ok hk hki hun hn=>hfree k ok hk hki ?_ hn) (ready_mono hr (Ne.symm hji)) hy' (hS' hjm) ?_⟩
   ·by_cases hjk:j=k
    ·subst hjk;exact hjun
    ·rwa [getD_set_ne true hjk]at hun
   ·rw[Array.setIfInBounds_comm _ _ hji]
    exact H'
theorem F6{oi:Oper}(i:Nat)(d:Option Tmp)(v:Value){n:Nat}{listed:Array Bool}{a:Act}{w:World}(hi:ops[i]?=some oi)(hd:oi.dst=d)(him:i≠m)(hwf:jE md ops m i=true)
 (hs:Region.noSelect ops=true) (hf:Region.free md ops listed i=true) (hr:(Region.ready md ops listed).contains i=true)
 (hQ:∀c a w,Q (.panic c) (a.put d v) w→Q (.panic c) a w) (hw:Region.wanted oi (yielded ops a.tmps)=true) (hy:∀w,S w→(execOp a.eval oi).run P w= .ok (.value v) w) (hS:S w)
 (h:j2 P md ops Q S m n (listed.setIfInBounds i true) (a.put d v) w):j2 P md ops Q S m (n+1) listed a w:=by
 subst hd;exact j2.front hi him hwf (Region.noSelect_spec hs) hQ n listed a w (Region.free_spec hi hf) (by simpa using hr) (.inl ⟨hw,hy⟩) hS h
theorem jv{oi:Oper}(m:Nat)(d:Option Tmp)(w':World){n:Nat}{listed:Array Bool}{a:Act}{w:World}(hr:Region.ready md ops listed= [m])
 (hi:ops[m]?=some oi) (hd:oi.dst=d) (hw:Region.wanted oi (yielded ops a.tmps)=true)
 (hrun:(execOp a.eval oi).run P w= .ok .skip w') (he:Region.ready md ops (listed.setIfInBounds m true)= [])
 (h:Q .normal (a.put d undef) w'):j2 P md ops Q S m (n+1) listed a w:=by
 subst hd;refine⟨λh0=>absurd (hr ▸ h0) (by simp),λj hj=>?_⟩;obtain rfl:j=m:=by rw[hr]at hj;simpa using hj
 refine wpOp_step hi (λK hK=>?_);rw[if_pos hw];unfold Oper.wp;rw[hrun];refine hK _ _ ⟨λh=>absurd rfl h,?_⟩;cases n with
 |zero=>exact⟨he,h⟩
 |succ n=>exact⟨λ_=>h,by rw[he];simp⟩
theorem F5{oi:Oper}(i:Nat)(d:Option Tmp)(f:FuncId)(args:Array Value){n:Nat}{listed:Array Bool}{a:Act}{w:World}{Post:Ending→World→Prop}
 (hr:Region.ready md ops listed= [i]) (hi:ops[i]?=some oi) (hd:oi.dst=d) (hw:Region.wanted oi (yielded ops a.tmps)=true)
 (hrun:(execOp a.eval oi).run P w= .ok (.enter f args) w) (hc:Calls P f args w Post)
 (h:∀e w',Post e w'→∃v,e= .returned v∧S w'∧j2 P md ops Q S m n (listed.setIfInBounds i true) (a.put d v) w'):j2 P md ops Q S m (n+1) listed a w:=by
 subst hd;refine⟨λh0=>absurd (hr ▸ h0) (by simp),λj hj=>?_⟩;obtain rfl:j=i:=by rw[hr]at hj;simpa using hj
 refine wpOp_step hi (λK hK=>?_);rw[if_pos hw];unfold Oper.wp;rw[hrun,Oper.upon_enter];refine hc.mono λe w' hh=>?_
 obtain⟨v,rfl,hS,hrest⟩:=h e w' hh;exact hK _ _ ⟨λ_=>hS,hrest⟩
theorem jj{oi:Oper}(i:Nat)(d:Option Tmp)(v:Value)(w':World){n:Nat}{listed:Array Bool}{a:Act}{w:World}
 (hr:Region.ready md ops listed= [i]) (hi:ops[i]?=some oi) (hd:oi.dst=d) (hw:Region.wanted oi (yielded ops a.tmps)=true)
 (hrun:(execOp a.eval oi).run P w= .ok (.value v) w') (hS:S w')
 (h:j2 P md ops Q S m n (listed.setIfInBounds i true) (a.put d v) w'):j2 P md ops Q S m (n+1) listed a w:=by
 subst hd;refine⟨λh0=>absurd (hr ▸ h0) (by simp),λj hj=>?_⟩;obtain rfl:j=i:=by rw[hr]at hj;simpa using hj
 refine wpOp_step hi (λK hK=>?_);rw[if_pos hw];unfold Oper.wp;rw[hrun];exact hK _ _ ⟨λ_=>hS,h⟩
end
theorem jp{o:Oper}{a:Act}(ty:TypeId)(x y:Operand)(ho:o.op= .store ty x y)(g:Nat)(hx:a.eval x= .pointer (some ⟨g,0,none⟩))(X:Array Value)(hy:a.eval y= .agg X)(t:TypeId){cs:Array Value}
 (hi:(Tryz.prog.info? ty).map (·.size)=some X.size) (w:World) (h:zi w g t cs) (hs:cs.size=X.size) (h1:X.all (·.oneCell')=true):(execOp a.eval o).run Tryz.prog w= .ok .skip (w.setRow g X):=by
 unfold execOp;simp only[ho,hx,hy,Sem.run_bind,h.store ty hi hs h1];rfl
theorem y8{o:Oper}{a:Act}(ty:TypeId)(x i:Operand)(ho:o.op= .indexAddr ty x i)(g off k n cap:Nat)(e:TypeId)(hx:a.eval x= .slice (some ⟨g,off,none⟩) n cap)(hi:a.eval i= .int .i64 (k:Nat))
 (hu:Tryz.prog.underlying ty=some (.slice e)) (hs:(Tryz.prog.info? e).map (·.size)=some 1) (hk:k<n) (w:World):(execOp a.eval o).run Tryz.prog w= .ok (.value (.pointer (some ⟨g,off+k,none⟩))) w:=by
 unfold execOp;cases hq:Tryz.prog.info? e with
 |none=>simp[hq]at hs
 |some inf =>
  have hz:inf.size=1:=by simpa [hq]using hs
  simp only[ho,hx,hi];simp[Instr.indexAt,Instr.sureAddr,run_underlying hu,asIntOf,sizeOf,typeInfo,hq,hz,Addr.add_mid,go_sem];intro h;omega
theorem Ze{o:Oper}{a:Act}(ty e:TypeId)(hu:Tryz.prog.underlying ty=some (.slice e))(x:Operand)(ho:o.op= .call { callee:= .builtin .len,args:=#[x],argTypes:=#[ty] })(A:Option Addr)(L C:Nat)(hx:a.eval x= .slice A L C)(w:World):
 (execOp a.eval o).run Tryz.prog w= .ok (.value (.int .i64 (L:Nat))) w:=by
 have hr:(Builtin.len_ #[ty] o.type #[.slice A L C]).run Tryz.prog w= .ok (.int .i64 (L:Nat)) w:=by
  simp[Builtin.len_,run_underlying hu,go_sem,goInt]
 unfold execOp;simp[ho,resolve,invoke,builtin,hx,hr]
theorem YJ{o:Oper}{a:Act}(x y:Operand)(ho:o.op= .binOp .lss 3 x y 3)(p q:Nat)(hx:a.eval x= .int .i64 (p:Nat))(hy:a.eval y= .int .i64 (q:Nat))(c:Bool)(h:decide (p<q)=c)(w:World):(execOp a.eval o).run Tryz.prog w= .ok (.value (.bool c)) w:=by
 subst h;have e:decide ((p:Int)<(q:Int))=decide (p<q):=by simp
 unfold execOp;simp only[ho,hx,hy];go_simp
theorem zP {P : Program} {ops : Array Oper} {Q : Exit → Act → World → Prop} {md : Region.Mode} {S : World → Prop} {oi : Oper} (i : Nat) (d : Option Tmp) (v : Value) {fuel : Nat} {listed : Array Bool} {a : Act} {w : World} (hi : ops[i]? = some oi) (hd : oi.dst = d) (hy : ∀ w, S w → (execOp a.eval oi).run P w = .ok (.value v) w) (hS : S w) (h : wpAnyH P md ops Q S fuel (listed.setIfInBounds i true) (a.put d v) w) (hs : Region.noSelect ops = true := by kernel_rfl) (hf : Region.free md ops listed i = true := by kernel_rfl) (hr : (Region.ready md ops listed).contains i = true := by kernel_rfl) (hQ : ∀ c a w, Q (.panic c) (a.put d v) w → Q (.panic c) a w := by exact fun _ _ _ h => h) (hw : Region.wanted oi (yielded ops a.tmps) = true := by rfl) : wpAnyH P md ops Q S (fuel + 1) listed a w := gj i d v hi hd hs hf hr hQ hw hy hS h
theorem vM {P : Program} {ops : Array Oper} {Q : Exit → Act → World → Prop} {md : Region.Mode} {S : World → Prop} {m : Nat} {oi : Oper} (i : Nat) (d : Option Tmp) (v : Value) {n : Nat} {listed : Array Bool} {a : Act} {w : World} (hi : ops[i]? = some oi) (hd : oi.dst = d) (hy : ∀ w, S w → (execOp a.eval oi).run P w = .ok (.value v) w) (hS : S w) (h : j2 P md ops Q S m n (listed.setIfInBounds i true) (a.put d v) w) (him : i ≠ m := by decide) (hwf : jE md ops m i = true := by kernel_rfl) (hs : Region.noSelect ops = true := by kernel_rfl) (hf : Region.free md ops listed i = true := by kernel_rfl) (hr : (Region.ready md ops listed).contains i = true := by kernel_rfl) (hQ : ∀ c a w, Q (.panic c) (a.put d v) w → Q (.panic c) a w := by exact fun _ _ _ h => h) (hw : Region.wanted oi (yielded ops a.tmps) = true := by rfl) : j2 P md ops Q S m (n + 1) listed a w := F6 i d v hi hd him hwf hs hf hr hQ hw hy hS h
theorem zC {P : Program} {ops : Array Oper} {Q : Exit → Act → World → Prop} {md : Region.Mode} {S : World → Prop} (i : Nat) (d : Option Tmp) (v : Value) {fuel : Nat} {listed : Array Bool} {a : Act} {w : World} (hS : S w) (h : wpAnyH P md ops Q S fuel (listed.setIfInBounds i true) (a.put d v) w) (hy : ∃ oi, ops[i]? = some oi ∧ oi.dst = d ∧ Region.wanted oi (yielded ops a.tmps) = true ∧ ∀ w, (execOp a.eval oi).run P w = .ok (.value v) w := by exact ⟨_, rfl, rfl, rfl, fun _ => rfl⟩) (hs : Region.noSelect ops = true := by kernel_rfl) (hf : Region.free md ops listed i = true := by kernel_rfl) (hr : (Region.ready md ops listed).contains i = true := by kernel_rfl) (hQ : ∀ c a w, Q (.panic c) (a.put d v) w → Q (.panic c) a w := by exact fun _ _ _ h => h) : wpAnyH P md ops Q S (fuel + 1) listed a w := by
  obtain ⟨oi, hi, hd, hw, hy⟩ := hy
  exact gj i d v hi hd hs hf hr hQ hw (fun w _ => hy w) hS h
theorem vf {P : Program} {ops : Array Oper} {Q : Exit → Act → World → Prop} {md : Region.Mode} {S : World → Prop} {m : Nat} (i : Nat) (d : Option Tmp) (v : Value) {n : Nat} {listed : Array Bool} {a : Act} {w : World} (hS : S w) (h : j2 P md ops Q S m n (listed.setIfInBounds i true) (a.put d v) w) (hy : ∃ oi, ops[i]? = some oi ∧ oi.dst = d ∧ Region.wanted oi (yielded ops a.tmps) = true ∧ ∀ w, (execOp a.eval oi).run P w = .ok (.value v) w := by exact ⟨_, rfl, rfl, rfl, fun _ => rfl⟩) (him : i ≠ m := by decide) (hwf : jE md ops m i = true := by kernel_rfl) (hs : Region.noSelect ops = true := by kernel_rfl) (hf : Region.free md ops listed i = true := by kernel_rfl) (hr : (Region.ready md ops listed).contains i = true := by kernel_rfl) (hQ : ∀ c a w, Q (.panic c) (a.put d v) w → Q (.panic c) a w := by exact fun _ _ _ h => h) : j2 P md ops Q S m (n + 1) listed a w := by
  obtain ⟨oi, hi, hd, hw, hy⟩ := hy
  exact F6 i d v hi hd him hwf hs hf hr hQ hw (fun w _ => hy w) hS h
end
section
section
open Go.ChangeShapes Go.WideShapes Go.ChangeAt Go.RowKit
end
section
open Go.ChangeShapes Go.WideShapes Go.ChangeAt Go.RowKit
end
section
open Go.ChangeShapes Go.WideShapes Go.ChangeAt Go.RowKit
variable {P:Program} {ops:Array Oper} {Q:Exit→Act→World→Prop} {md:Region.Mode} {S:World→Prop}
end
section
open Go.ChangeShapes Go.WideShapes Go.ChangeAt Go.RowKit
end
section
open Go.RowKit
def lv(n:Nat):Nat→Nat
 |0=>n
 |k+1=>(lv n k+1) / 2
def Jr(n:Nat):Nat:=if n≤2 then 1 else Jr ((n+1) / 2)+1
termination_by n
decreasing_by omega
theorem ZT{n:Nat}(h:n≤2):Jr n=1:=by rw[Jr,if_pos h]
theorem xJ{n:Nat}(h:2<n):Jr n=Jr ((n+1) / 2)+1:=by rw[Jr,if_neg (by omega)]
theorem uV(n k:Nat):lv n (k+1)=lv ((n+1) / 2) k:=by
 induction k with
 |zero=>rfl
 |succ k ih=>rw[lv,ih,lv]
theorem FO(n:Nat):1≤Jr n:=by
 by_cases h:n≤2
 ·rw[ZT h];omega
 ·rw[xJ (by omega)];omega
theorem fw(n:Nat)(h:1≤n):lv n (Jr n)=1:=by
 induction n using Nat.strongRecOn with
 |ind n ih =>
  by_cases h2:n≤2
  ·rw[ZT h2]
   show(n+1) / 2=1;omega
  ·rw[xJ (by omega),uV]
   exact ih _ (by omega) (by omega)
theorem fz(n k:Nat)(h1:1≤k)(hk:k<Jr n):2≤lv n k:=by
 induction n using Nat.strongRecOn generalizing k with
 |ind n ih =>
  by_cases h2:n≤2
  ·rw[ZT h2]at hk
   omega
  ·rw[xJ (by omega)]at hk
   obtain⟨q,rfl⟩:∃q,k=q+1:=⟨k-1,by omega⟩
   rw[uV];by_cases hq:q=0
   ·subst hq
    show 2≤(n+1) / 2;omega
   ·exact ih _ (by omega) q (by omega) (by omega)
theorem gv(n k:Nat)(h:1≤n):1≤lv n k:=by
 induction k with
 |zero=>exact h
 |succ k ih=>show 1≤(lv n k+1) / 2;omega
theorem FW(n k:Nat)(h:1≤n):lv n k≤n:=by
 induction k with
 |zero=>exact Nat.le_refl _
 |succ k ih=>have:=gv n k h;show(lv n k+1) / 2≤n;omega
theorem Fp(k n:Nat)(hk:1≤k)(h:n≤2 ^ k):Jr n≤k:=by
 induction k generalizing n with
 |zero=>omega
 |succ k ih =>
  by_cases h2:n≤2
  ·rw[ZT h2];omega
  ·have hk1:1≤k:=by
    by_cases h0:k=0
    ·subst h0;simp at h;omega
    ·omega
   rw[xJ (by omega)]
   have :(n+1) / 2≤2 ^ k:=by
    have :2 ^ (k+1)=2*2 ^ k:=by rw[Nat.pow_succ];omega
    omega
   have:=ih _ hk1 this;omega
theorem KF(n:Nat)(h:n≤2048):Jr n≤11:=Fp 11 n (by decide) h
def off(n:Nat):Nat→Nat
 |0=>0
 |k+1=>off n k+lv n (k+1)
theorem fs(n k:Nat)(h:1≤n):off n k≤k*n:=by
 induction k with
 |zero=>simp[off]
 |succ k ih=>have:=FW n (k+1) h;simp only[off,Nat.succ_mul];omega
end
section
open Go.RowKit
def Uz(w:World)(a:Option Addr)(len:Nat)(f:Nat→Nat):Prop:=len=0∨∃b off,a=some ⟨b,off,none⟩∧b<w.heap.size∧∀j,j<len→w.cell? ⟨b,off+j,none⟩=some (.int .i64 (f j:Nat))
theorem Uz.below{w w':World}{a:Option Addr}{len B:Nat}{f:Nat→Nat}(h:Uz w a len f)(hb:Below B w w')(hB:w.heap.size≤B):Uz w' a len f:=by
 rcases h with h|⟨b,off,rfl,hlt,hc⟩
 ·exact .inl h
 ·exact .inr ⟨b,off,rfl,Nat.lt_of_lt_of_le hlt (Nat.le_trans (Nat.le_refl _) hb.size),λj hj=>(hb.cell (p:=⟨b,off+j,none⟩) (by show b<B;omega)).trans (hc j hj)⟩
def zN(n:Int):Prop:= -9223372036854775808≤n∧n≤9223372036854775807
def xK(n:Int):Nat:=if 1≤n∧n≤2048 then Jr n.toNat else 0
theorem kv{n:Int}(h:1≤n∧n≤2048):xK n=Jr n.toNat:=if_pos h
theorem Yx{n:Int}(h:¬(1≤n∧n≤2048)):xK n=0:=if_neg h
theorem K4(n:Int):xK n≤11:=by
 unfold xK
 split
 ·exact KF _ (by omega)
 ·omega
def GP(f:Nat):Prop:=∀(n:Int) (w:World),zN n→Calls Tryz.prog f #[.int .i64 n] w λe w' =>
 ∃a c,e= .returned (.slice a (xK n) c)∧xK n≤c∧(a=none→xK n=0∧c=0)∧Uz w' a (xK n) (λk=>lv n.toNat (k+1))∧Below w.heap.size w w'
end
section
open Go.ChangeShapes Go.WideShapes Go.ChangeAt Go.RowKit
theorem FD(N k:Nat)(h1:1≤N)(h2:N≤2048)(hk:k≤11):off N k≤22528:=by
 have h:=fs N k h1;have :k*N≤11*2048:=Nat.mul_le_mul hk h2;omega
end
section
open Go.RowKit Go.Shelf
def YX(o:Obj):Prop:=o.isCells=false∨∃cs fr,o= .cells cs 184 fr
def yU{β:Type}(D:Nat)(I:β→World→Prop):Prop:=∀s A B row,I s A→A.grownBy B row→(∀r,row=some r→D≤r∧∃o:Obj,A.heap[r]?=some o∧YX o)→I s B
theorem yU.own{β:Type}{D:Nat}{I:β→World→Prop}(h:yU D I):OwnFrom D I:=λs A B row hs hg hr=>h s A B row hs hg (λr e=>⟨(hr r e).1,(hr r e).2.choose,(hr r e).2.choose_spec.1,.inl (hr r e).2.choose_spec.2⟩)
theorem yU.mono{β:Type}{D D':Nat}{I:β→World→Prop}(h:yU D I)(hD:D≤D'):yU D' I:=λs A B row hs hg hr=>h s A B row hs hg (λr e=>⟨Nat.le_trans hD (hr r e).1,(hr r e).2⟩)
theorem yU.alloc{β:Type}{D:Nat}{I:β→World→Prop}(h:yU D I){s:β}{W:World}(o:Obj)(hs:I s W):I s (W.alloc o):=h.own.alloc o hs
theorem Jz(W:World)(b j:Nat)(v:Value):W.grownBy (W.setCell ⟨b,j,none⟩ v) (some b):=
 ⟨rfl,rfl,rfl,by simp[World.setCell],λk hk hne=>by simp only[World.setCell,Array.getElem?_modify];rw[if_neg (λe=>hne (by rw[←e]))]⟩
theorem ZG(W:World)(b:Nat)(cs:Array Value):W.grownBy (W.setRow b cs) (some b):=
 ⟨rfl,rfl,rfl,by simp[World.setRow],λk hk hne=>by simp only[World.setRow,Array.getElem?_modify];rw[if_neg (λe=>hne (by rw[←e]))]⟩
theorem yU.setRow{β:Type}{D g:Nat}{I:β→World→Prop}(h:yU D I){s:β}{W:World}{cs:Array Value}(hs:I s W)(hD:D≤g)(hg:zi W g 184 cs)(cs':Array Value):I s (W.setRow g cs'):=
 h s W _ (some g) hs (ZG W g cs') (λr e=>by cases e;exact⟨hD,_,hg,.inr ⟨_,_,rfl⟩⟩)
theorem yU.below{β:Type}{D B:Nat}{w:World}(h:B≤w.heap.size)(hD:B≤D):yU D (λ(_:β) W=>Below B w W):=λs A C row hs hg hr=>hs.trans ⟨hg.os,hg.tape,hg.output,hg.size,λk hk=>hg.block k (by have:=hs.size;omega) (λe=>by have:=(hr k e.symm).1;omega)⟩
theorem zi.firm{A B:World}{g t D:Nat}{cs:Array Value}{row:Option Nat}(ht:t≠184)(h:zi A g t cs)(hg:A.grownBy B row)(hr:∀r,row=some r→D≤r∧∃o:Obj,A.heap[r]?=some o∧YX o):zi B g t cs:=by
 refine(hg.block g h.lt λe=>?_).trans h;obtain⟨_,o,ho,hc⟩:=hr g e.symm;have h':A.heap[g]?=some (.cells cs t (0,0)):=h;rw[h']at ho;cases ho;rcases hc with hc|⟨_,_,hc⟩
 ·cases hc
 ·injection hc with h1 h2
  exact ht h2
structure vF (V V':World):Prop where
 size:V.heap.size≤V'.heap.size
 same:∀(g:Nat) (o:Obj),V.heap[g]?=some o→YX o→V'.heap[g]?=some o
theorem vF.refl(V:World):vF V V:=⟨Nat.le_refl _,λ_ _ h _=>h⟩
theorem vF.trans{X Y Z:World}(h:vF X Y)(k:vF Y Z):vF X Z:=⟨Nat.le_trans h.size k.size,λg o hg ho=>k.same g o (h.same g o hg ho) ho⟩
theorem vF.grown{V V':World}{row:Option Nat}(hg:V.grownBy V' row)(hr:∀r,row=some r→∃cs t fr,V.heap[r]?=some (.cells cs t fr)∧t≠184):vF V V':=⟨hg.size,λg o ho hl=>(hg.block g (Array.getElem?_eq_some_iff.1 ho).1 (λe=>by
 obtain⟨cs,t,fr,h,ht⟩:=hr g e.symm;rw[h]at ho;cases ho;rcases hl with hl|⟨_,_,hl⟩
 ·cases hl
 ·injection hl with h1 h2
  exact ht h2)).trans ho⟩
theorem vF.alloc(V:World)(o:Obj):vF V (V.alloc o):=vF.grown (World.grownBy_alloc V o none) (λr e=>by cases e)
theorem vF.below{B:Nat}{V V':World}(h:Below B V V')(hB:V.heap.size≤B):vF V V':=⟨h.size,λg o ho _=>(h.block g (by have:=(Array.getElem?_eq_some_iff.1 ho).1;omega)).trans ho⟩
theorem vF.setRow{V:World}{g t:Nat}{cs:Array Value}(h:zi V g t cs)(ht:t≠184)(cs':Array Value):vF V (V.setRow g cs'):=vF.grown (ZG V g cs') (λr e=>by cases e;exact⟨_,_,_,h,ht⟩)
theorem vF.setCell{V:World}{g t:Nat}{cs:Array Value}(h:zi V g t cs)(ht:t≠184)(j:Nat)(v:Value):vF V (V.setCell ⟨g,j,none⟩ v):=vF.grown (Jz V g j v) (λr e=>by cases e;exact⟨_,_,_,h,ht⟩)
theorem vF.has{V V':World}{g:Nat}{cs:Array Value}(h:vF V V')(hg:zi V g 184 cs):zi V' g 184 cs:=h.same g _ hg (.inr ⟨_,_,rfl⟩)
def Df{α:Type}(m gf:Nat)(lb:Array Value)(encs:α→Array Value)(xs:List α)(w:World):Prop:=
 ∀(l D:Nat) (J Jx:List α→World→Prop) (W:World),Below w.heap.size w W→D≤W.heap.size→yU D J→yU D Jx →
  (∀pre x V,pre++ [x] <+:xs→J pre V→YieldAt Fence.wide (m-1) Tryz.prog l (encs x) V λe V'=>(e= .returned (.bool true)∧J (pre++ [x]) V'∧∀g cs,zi V g 184 cs→zi V' g 184 cs)∨(e= .returned (.bool false)∧Jx (pre++ [x]) V'))→J [] W →
  CallsIn Fence.wide m Tryz.prog gf (#[.func (.yield l) #[] #[]]++lb) W λe W'=>(∃v,e= .returned v)∧(J xs W'∨∃pre,pre <+:xs∧Jx pre W')
def fx{α:Type}(I:List α→World→Prop)(Ix:List α→World→Prop)(xs:List α)(W:World):Exit→Act→World→Prop
 | .normal,_,W'=>vF W W'∧I xs W'
 | .ret,_,W'=>vF W W'∧Ix xs W'
 |_,_,_=>False
theorem UG{α:Type}{g:Operand}{ps:Array Tmp}{assign body:Code}{Q:Exit→Act→World→Prop}{a:Act}{w:World}{n gf:Nat}{lb:Array Value}(hg:a.eval g= .func (.func gf) #[] lb)
 (eg:∀args w,(callFunc gf args).run Tryz.prog w= .ok (.enter gf args) w) {encs:α→Array Value} {xs:List α} (hit:Df (n-1) gf lb encs xs w) (hps:∀x,(encs x).size=ps.size)
 (I Ix:List α→World→Prop) (hI:yU w.heap.size I) (hIx:yU w.heap.size Ix) (h0:I [] w) (Ax:α→Act→World→Prop) (hAx:∀x a',OwnFrom w.heap.size (λ(_:Unit) W=>Ax x a' W))
 (hassign:∀(l:Nat) (pre:List α) (x:α) (W:World) (K:Act→World→Prop),I pre W→(∀a' W',vF W W'→I pre W'→Ax x a' W'→K a' W')→assign.wpIn (Fence.wide.inRound l) (n-1-1) Tryz.prog (Exit.then K (λ_ _ _=>False)) { tmps:=(ps.zip (encs x)).foldl (λt (p,v)=>t.setIfInBounds p v) a.tmps,defers:= [] } W)
 (hbody:∀(l:Nat) (pre:List α) (x:α) (a':Act) (W:World),pre++ [x] <+:xs→I pre W→Ax x a' W→body.wpIn (Fence.wide.inRound l) (n-1-1) Tryz.prog (fx I Ix (pre++ [x]) W) a' W)
 (hdone:∀(D:Nat) (W:World),w.heap.size≤D→I xs W→W.heap[D]?=some (.deferred (some []))→Q .normal { a with defers:={ target:= .collected D,args:=#[] }::a.defers } W)
 (hstop:∀(D:Nat) (pre:List α) (W:World),w.heap.size≤D→pre <+:xs→Ix pre W→W.heap[D]?=some (.deferred (some []))→Code.ret.wpIn Fence.wide n Tryz.prog Q { a with defers:={ target:= .collected D,args:=#[] }::a.defers } W):
 (Code.rangeFunc g ps assign body).wpIn Fence.wide n Tryz.prog Q a w:=by
 refine wpIn_rangeFunc λfn hfn=>?_
 let L:=w.heap.size+1
 let R:LoopState→Option Code→Loop:=λst pe=> { state:=st,pending:=pe,fn,tmps:=a.tmps,params:=ps,assign,body,defers:=w.heap.size }
 let W1:=(w.alloc (.deferred (some []))).alloc (.loop (R .ready none))
 have hk1:W1.heap[w.heap.size]?=some (.deferred (some [])):=(Below.heap_alloc _ _ _ (by simp)).trans (World.alloc_heap_new w _)
 have hl1:W1.heap[L]?=some (.loop (R .ready none)):=by
  have h:=World.alloc_heap_new (w.alloc (.deferred (some []))) (.loop (R .ready none))
  rwa [World.size_alloc]at h
 have hb1:Below w.heap.size w W1:=((Below.refl _ w).alloc (Nat.le_refl _) _).alloc (by simp) _;have hLw:w.heap.size≤L:=Nat.le_succ _;have hLn:w.heap.size≠L:=by show w.heap.size≠w.heap.size+1;omega
 let J:List α→World→Prop:=λpre W=>I pre W∧W.heap[L]?=some (.loop (R .ready none))∧W.heap[w.heap.size]?=some (.deferred (some []))
 let Jx:List α→World→Prop:=λpre W=>Ix pre W∧W.heap[L]?=some (.loop (R .done (some .ret)))∧W.heap[w.heap.size]?=some (.deferred (some []))
 have keep:∀ {A B:World} {row:Option Nat} {k:Nat} {o:Obj},A.heap[k]?=some o→o.isCells=false→k<W1.heap.size→A.grownBy B row→(∀r,row=some r→W1.heap.size≤r∧∃o:Obj,A.heap[r]?=some o∧YX o)→B.heap[k]?=some o:=by
  intro A B row k o hk ho hlt hgr hr;exact(hgr.block k (Array.getElem?_eq_some_iff.1 hk).1 (λe=>by have:=(hr k e.symm).1;omega)).trans hk
 have hs1:W1.heap.size=w.heap.size+2:=by simp[W1]
 refine⟨L,[{ target:= .collected w.heap.size,args:=#[] }],W1,{ target:= .fn (.func gf) lb,args:=#[.func (.yield L) #[] #[]] },W1,gf,#[.func (.yield L) #[] #[]]++lb,W1,run_enterLoop_outer _ _ _ _ _,?_,λ_ _=>trivial,?_,λh=>(by cases h),?_⟩
 ·simp only[resolve,hg]
  simp[go_sem]
 ·simp[invoke,go_sem,eg]
 ·refine(hit L W1.heap.size J Jx W1 hb1 (Nat.le_refl _) ?_ ?_ ?_ ⟨hI.alloc _ (hI.alloc _ h0),hl1,hk1⟩).mono ?_
  ·rintro s A B row ⟨h1,h2,h3⟩ hgr hr
   exact⟨hI.mono (by omega) s A B row h1 hgr hr,keep h2 rfl (by omega) hgr hr,keep h3 rfl (by omega) hgr hr⟩
  ·rintro s A B row ⟨h1,h2,h3⟩ hgr hr
   exact⟨hIx.mono (by omega) s A B row h1 hgr hr,keep h2 rfl (by omega) hgr hr,keep h3 rfl (by omega) hgr hr⟩
  ·rintro pre x V hpx ⟨hi,hl,hk⟩
   refine⟨fn,_,assign,body,run_yield (args:=encs x) hl (hps x),roundIn_of_wpIn hfn (hassign L pre x V _ hi ?_)⟩;intro a' V1 hst hi1 hax;have hl1':=hst.same L _ hl (.inl rfl);have hk1':=hst.same _ _ hk (.inl rfl);have hL:L<V1.heap.size:=(Array.getElem?_eq_some_iff.1 hl1').1;have hl2:(V1.putObj L (.loop (R .busy none))).heap[L]?=some (.loop (R .busy none)):=World.putObj_heap_same hL;have hk2:(V1.putObj L (.loop (R .busy none))).heap[w.heap.size]?=some (.deferred (some [])):=(World.putObj_heap_other hLn).trans hk1';refine⟨_,run_beginRound hl1' rfl,?_⟩;refine wpIn_mono (hbody L pre x a' _ hpx (hI.own.putObj _ hi1 hLw hl1' rfl) ((hAx x a').putObj (s:=()) _ hax hLw hl1' rfl)) ?_;intro e a3 V3 hp;cases e with
   |normal =>
    obtain⟨hkf,hi3⟩:=hp;have hl3:=hkf.same L _ hl2 (.inl rfl);have hk3:=hkf.same _ _ hk2 (.inl rfl);refine⟨_,_,run_endRound none hl3,.inl ⟨rfl,⟨hI.own.putObj _ hi3 hLw hl3 rfl,World.putObj_heap_same (Array.getElem?_eq_some_iff.1 hl3).1,(World.putObj_heap_other hLn).trans hk3⟩,?_⟩⟩;intro b cs hb
    have hbL:b≠L:=by
     intro e;have hb':V.heap[b]?=some (.cells cs 184 (0,0)):=hb;rw[e,hl]at hb';cases hb'
    have h1:zi V1 b 184 cs:=hst.has hb;have h2:zi (V1.putObj L (.loop (R .busy none))) b 184 cs:=(World.putObj_heap_other hbL).trans h1;have h3:zi V3 b 184 cs:=hkf.has h2;exact(World.putObj_heap_other hbL).trans h3
   |ret =>
    obtain⟨hkf,hi3⟩:=hp;have hl3:=hkf.same L _ hl2 (.inl rfl);have hk3:=hkf.same _ _ hk2 (.inl rfl);exact⟨_,_,run_endRound (some .ret) hl3,.inr ⟨rfl,hIx.own.putObj _ hi3 hLw hl3 rfl,World.putObj_heap_same (Array.getElem?_eq_some_iff.1 hl3).1,(World.putObj_heap_other hLn).trans hk3⟩⟩
   |_=>exact hp.elim
  ·rintro e W2 ⟨⟨v,rfl⟩,(⟨hi,hl,hk⟩|⟨pre,hpre,hi,hl,hk⟩)⟩
   ·exact⟨none,_,run_endLoop hl (by simp[R]),hdone _ _ (Nat.le_refl _) (hI.own.putObj _ hi hLw hl rfl) ((World.putObj_heap_other hLn).trans hk)⟩
   ·exact⟨some .ret,_,run_endLoop hl (by simp[R]),hstop _ pre _ (Nat.le_refl _) hpre (hIx.own.putObj _ hi hLw hl rfl) ((World.putObj_heap_other hLn).trans hk)⟩
end
section
open Go.ChangeShapes Go.WideShapes Go.ChangeAt Go.RowKit
variable {P:Program} {ops:Array Oper} {Q:Exit→Act→World→Prop} {md:Region.Mode} {S:World→Prop} {m:Nat}
end
section
open Go.RowKit Go.Shelf
attribute [local go_sem] Oper.semAt_some
def jB(f c:Nat):Array Value:=#[.int .i64 (f:Nat),.int .i64 (c:Nat)]
theorem Xo(f c:Nat):((jB f c).all λx=>x.oneCell')=true:=by simp[jB,Value.oneCell']
def Fy(N k:Nat):Array Value:=#[.int .i64 (k:Nat),.agg (jB (off N k) (lv N (k+1)))]
theorem Kt{m:Nat}{pre:List Nat}{x:Nat}(h:pre++ [x] <+:List.range m):x<m∧pre=List.range x:=by
 obtain⟨t,ht⟩:=h;have hl:=congrArg List.length ht;simp at hl;have hkm:pre.length<m:=by omega
 have e2:(List.range m)[pre.length]?=some x:=by rw[←ht];simp
 have e3:(List.range m)[pre.length]?=some pre.length:=by simp[hkm]
 rw[e3]at e2;have hx:pre.length=x:=Option.some.inj e2;refine⟨by omega,?_⟩;have e1:(List.range m).take pre.length=pre:=by rw[←ht];simp
 rw[←e1,List.take_range,Nat.min_eq_left (by omega),hx]
theorem kG{k m:Nat}(h:k≤m):List.range k <+:List.range m:=by
 obtain⟨d,rfl⟩:∃d,m=k+d:=⟨m-k,by omega⟩
 rw[List.range_add];exact List.prefix_append _ _
theorem QJ{o:Oper}{a:Act}(x y:Operand)(ho:o.op= .binOp .add 3 x y 3)(p q:Nat)(hx:a.eval x= .int .i64 (p:Nat))(hy:a.eval y= .int .i64 (q:Nat))(hp:p≤1000000)(hq:q≤1000000)(w:World):
 (execOp a.eval o).run Tryz.prog w= .ok (.value (.int .i64 ((p+q:Nat):Int))) w:=by
 have hw:IntKind.i64.wrap ((p:Int)+(q:Int))=(p:Int)+(q:Int):=by rw[IntKind.wrap_i64];omega
 unfold execOp;simp only[ho,hx,hy];go_simp
theorem xd{o:Oper}{a:Act}(x:Operand)(ho:o.op= .load 3 x)(p:Addr)(hx:a.eval x= .pointer (some p))(v:Value)(w:World)(h:w.cell? p=some v):(execOp a.eval o).run Tryz.prog w= .ok (.value v) w:=by
 unfold execOp;simp only[ho,hx];go_simp
theorem Kl{o:Oper}{a:Act}(x0 x1:Operand)(ho:o.op= .build 184 #[(0,x0),(1,x1)])(p q:Nat)(h0:a.eval x0= .int .i64 (p:Nat))(h1:a.eval x1= .int .i64 (q:Nat))(w:World):
 (execOp a.eval o).run Tryz.prog w= .ok (.value (.agg (jB p q))) w:=by
 unfold jB;unfold execOp;simp only[ho,h0,h1,List.map_toArray,List.map_cons,List.map_nil];go_simp
theorem Qk(n:Nat)(w:World)(h:n≤1000000):Calls Tryz.prog 161 #[.int .i64 (n:Nat)] w λe w'=>e= .returned (.int .i64 (((n+1) / 2:Nat):Int))∧w'=w:=by
 go_enter Tryz.func161,Tryz.ntmps161
 go_wp2
 go_ret
 refine⟨?_,rfl⟩;have e:((n:Int)+2-1) / 2=(((n+1) / 2:Nat):Int):=by omega
 show Ending.returned (.int .i64 (((n:Int)+2-1) / 2))=_;rw[e]
theorem yU.drew{β:Type}{D:Nat}{I:β→World→Prop}(h:yU D I){s:β}(W:World)(hs:I s W):I s W.drew:=h s W _ none hs ⟨rfl,rfl,rfl,Nat.le_refl _,λ_ _ _=>rfl⟩ (λr e=>by cases e)
theorem ft(m l D Bn N:Nat)(h1:1≤N)(h2:N≤2048)(J Jx:List Nat→World→Prop)(hJ:yU D J)
 (W:World) (hBn:W.cell? ⟨Bn,0,none⟩=some (.int .i64 (N:Nat))) (hD:D≤W.heap.size)
 (hY:∀pre x V,pre++ [x] <+:List.range (Jr N)→J pre V→YieldAt Fence.wide (m-1) Tryz.prog l (Fy N x) V λe V'=>(e= .returned (.bool true)∧J (pre++ [x]) V'∧∀g cs,zi V g 184 cs→zi V' g 184 cs)∨(e= .returned (.bool false)∧Jx (pre++ [x]) V')) (h0:J [] W):
 CallsIn Fence.wide m Tryz.prog 160 #[.func (.yield l) #[] #[],.pointer (some ⟨Bn,0,none⟩)] W λe W'=>(∃v,e= .returned v)∧(J (List.range (Jr N)) W'∨∃pre,pre <+:List.range (Jr N)∧Jx pre W'):=by
 have hs:∀k w,CallsIn Fence.wide k Tryz.prog 161 #[.int .i64 (N:Nat)] w λe w'=>e= .returned (.int .i64 (((N+1) / 2:Nat):Int))∧w'=w:=λk w=>callsIn_wide.2 (Qk N w (by omega))
 refine callsIn_of_wp Tryz.func160 rfl trivial ?_ rfl;simp only[Tryz.ntmps160,List.size_toArray,List.length_cons,List.length_nil,Nat.reduceAdd,Nat.reduceSub,Array.replicate_succ,Array.replicate_zero,List.push_toArray,List.append_toArray,List.nil_append,List.cons_append]
 gi_wp2_with (refine⟨trivial,λh=>(by cases h),?_⟩;refine(hs _ _).mono ?_;rintro e w' ⟨rfl,rfl⟩)
 gi_loopw [3] (λs wr=>∃k:Nat,k<Jr N∧s= .int .i64 (k:Nat)∧zi wr w'.heap.size 184 (jB (off N k) (lv N (k+1)))∧J (List.range k) wr) (λs _=>Jr N-(intOf s).toNat)
 case atStart =>
  refine⟨0,FO N,rfl,?_,hJ.alloc _ h0⟩;have e:((N:Int)+1) / 2=((lv N 1:Nat):Int):=by show _=(((N+1) / 2:Nat):Int);omega
  rw[e];exact zi.new _ _ _
 case round =>
  obtain⟨k,hk,rfl,hl,hJk⟩:=hrel;have hpre:List.range k++ [k] <+:List.range (Jr N):=by rw[←List.range_succ];exact kG hk
  obtain⟨fn,tmps,assign,body,hy,hR⟩:=hY (List.range k) k wr hpre hJk;have hc1:=gv N (k+1) h1;have hc2:=Nat.le_trans (FW N (k+1) h1) h2;have hf2:=FD N k h1 h2 (Nat.le_trans (Nat.le_of_lt hk) (KF N h2))
  obtain⟨f,hf⟩:∃f,f=off N k:=⟨_,rfl⟩
  obtain⟨c,hc⟩:∃c,c=lv N (k+1):=⟨_,rfl⟩
  have HV:Hid (f=off N k∧c=lv N (k+1)):=⟨hf,hc⟩
  unfold Fy at hy;rw[←hf,←hc]at hy hl;rw[←hc]at hc1 hc2;rw[←hf]at hf2;clear hf hc;unfold jB at hy;have hl0:=hl;have t0:=hl.cell 0;have t1:=hl.cell 1;simp only[jB,List.getElem?_toArray,List.getElem?_cons_zero,List.getElem?_cons_succ]at t0 t1
  gi_wp2
  refine⟨λh=>(by cases h),hR.mono ?_⟩;clear hR hy hl t0 t1;rintro e W3 (⟨rfl,hJ3,hkeep⟩|⟨rfl,hJx3⟩)
  ·have hl3:=hkeep _ _ hl0
   have t0:=hl3.cell 0;have t1:=hl3.cell 1;simp only[jB,List.getElem?_toArray,List.getElem?_cons_zero,List.getElem?_cons_succ]at t0 t1;clear hkeep hJk hl0;by_cases hone:c=1
   ·have hi1:¬(1:Int)<(c:Int):=by omega
    have hkd:k+1=Jr N:=by
     refine Classical.byContradiction λh=>?_
     have:=fz N (k+1) (by omega) (by omega);rw[←HV.out.2]at this;omega
    gi_wp2
    refine bodyPost_end (results_none rfl _ _ _) rfl ?_;exact⟨⟨_,rfl⟩,.inl (by rw[←hkd,List.range_succ];exact hJ3)⟩
   ·have hi1:(1:Int)<(c:Int):=by omega
    have hkd:k+1<Jr N:=by
     refine Nat.lt_of_le_of_ne hk λh=>hone ?_
     have:=fw N h1;rw[←h,←HV.out.2]at this;exact this
    have hsc:=Qk c
    gi_wp2
    refine wpIn_wide.2 ?_;refine vD (S:=λwz=>zi wz w'.heap.size 184 (jB f c)∧J (List.range k++ [k]) wz) 12 (by kernel_rfl) ⟨hl3.drewN 1,hJ.drew _ hJ3⟩ (λhHeld=>?_);refine vf 0 (some 23) (.int .i64 (k:Nat)) hHeld ?_;simp only[Act.put,ze,zg,zf];refine vM 1 (some 24) (.int .i64 ((k+1:Nat):Int)) rfl rfl (λwz _=>QJ _ _ rfl k 1 rfl rfl (by have:=KF N h2;omega) (by omega) wz) hHeld ?_;simp only[Act.put,ze,zg,zf];refine vf 2 (some 25) (.pointer (some ⟨w'.heap.size,0,none⟩)) hHeld ?_;simp only[Act.put,ze,zg,zf];refine vM 3 (some 26) (.int .i64 (f:Nat)) rfl rfl (λwz hz=>xd _ rfl _ rfl _ wz (hz.1.cell 0)) hHeld ?_;simp only[Act.put,ze,zg,zf];refine vf 4 (some 27) (.pointer (some ⟨w'.heap.size,1,none⟩)) hHeld ?_;simp only[Act.put,ze,zg,zf];refine vM 5 (some 28) (.int .i64 (c:Nat)) rfl rfl (λwz hz=>xd _ rfl _ rfl _ wz (hz.1.cell 1)) hHeld ?_;simp only[Act.put,ze,zg,zf];refine vM 6 (some 29) (.int .i64 ((f+c:Nat):Int)) rfl rfl (λwz _=>QJ _ _ rfl f c rfl rfl (by omega) (by omega) wz) hHeld ?_;simp only[Act.put,ze,zg,zf];refine vf 7 (some 30) (.pointer (some ⟨w'.heap.size,1,none⟩)) hHeld ?_;simp only[Act.put,ze,zg,zf];refine vM 8 (some 31) (.int .i64 (c:Nat)) rfl rfl (λwz hz=>xd _ rfl _ rfl _ wz (hz.1.cell 1)) hHeld ?_;simp only[Act.put,ze,zg,zf];refine F5 9 (some 32) 161 #[.int .i64 (c:Nat)] (by kernel_rfl) rfl rfl (by rfl) (by kernel_rfl) (hsc W3.drew (by omega)) ?_;rintro e w5 ⟨rfl,rfl⟩;refine⟨_,rfl,hHeld,?_⟩;simp only[Act.put,ze,zg,zf];refine vM 10 (some 33) (.agg (jB (f+c) ((c+1) / 2))) rfl rfl (λwz _=>Kl _ _ rfl (f+c) ((c+1) / 2) rfl rfl wz) hHeld ?_;simp only[Act.put,ze,zg,zf];refine vf 11 (some 3) (.int .i64 ((k+1:Nat):Int)) hHeld ?_;simp only[Act.put,ze,zg,zf];refine jv 12 none _ (by kernel_rfl) rfl rfl (by rfl) (jp 184 _ _ rfl w'.heap.size rfl (jB (f+c) ((c+1) / 2)) rfl 184 (by kernel_rfl) _ hHeld.1 rfl (Xo _ _)) (by kernel_rfl) ?_;simp only[Act.put]
    gi_wp2
    go_roundw
    case rel =>
     refine⟨k+1,hkd,by go_num,?_,?_⟩
     ·have h:=hHeld.1.setRow (jB (f+c) ((c+1) / 2))
      rw[show jB (f+c) ((c+1) / 2)=jB (off N (k+1)) (lv N (k+1+1))from by rw[HV.out.1,HV.out.2];rfl]at h ⊢;exact h
     ·rw[List.range_succ]
      exact hJ.setRow hHeld.2 hD hHeld.1 _
    case measure=>simp[intOf];omega
  ·gi_wp2
   refine bodyPost_end (results_none rfl _ _ _) rfl ?_;exact⟨⟨_,rfl⟩,.inr ⟨List.range k++ [k],hpre,hJx3⟩⟩
end
section
open Go.RowKit Go.Shelf
attribute [local go_sem] Oper.semAt_some
theorem Fr(m l Bn:Nat)(n:Int)(ho:¬(1≤n∧n≤2048))(J:List Nat→World→Prop)
 (W:World) (hBn:W.cell? ⟨Bn,0,none⟩=some (.int .i64 n)) (h0:J [] W):
 CallsIn Fence.wide m Tryz.prog 160 #[.func (.yield l) #[] #[],.pointer (some ⟨Bn,0,none⟩)] W λe W'=>(∃v,e= .returned v)∧J [] W':=by
 refine callsIn_of_wp Tryz.func160 rfl trivial ?_ rfl;simp only[Tryz.ntmps160,List.size_toArray,List.length_cons,List.length_nil,Nat.reduceAdd,Nat.reduceSub,Array.replicate_succ,Array.replicate_zero,List.push_toArray,List.append_toArray,List.nil_append,List.cons_append];by_cases h:n<1
 ·gi_wp2
  refine bodyPost_ret (results_none rfl _ _ _) rfl ?_;exact⟨⟨_,rfl⟩,h0⟩
 ·have h':2048<n:=by omega
  gi_wp2
  refine bodyPost_ret (results_none rfl _ _ _) rfl ?_;exact⟨⟨_,rfl⟩,h0⟩
theorem gG(m Bn:Nat)(n:Int)(w:World)(hB:Bn<w.heap.size)(hc:w.cell? ⟨Bn,0,none⟩=some (.int .i64 n)):
 Df m 160 #[.pointer (some ⟨Bn,0,none⟩)] (Fy n.toNat) (List.range (xK n)) w:=λl D J Jx W hW hD hJ hJx hY h0=>by
 have hcW:=(hW.cell (p:=⟨Bn,0,none⟩) hB).trans hc;by_cases h:1≤n∧n≤2048
 ·obtain⟨N,rfl⟩:∃N:Nat,n=N:=⟨n.toNat,by omega⟩
  rw[kv h]at hY ⊢;simp only[Int.toNat_natCast]at hY ⊢;exact ft m l D Bn N (by omega) (by omega) J Jx hJ W hcW hD hY h0
 ·rw[Yx h]
  refine(Fr m l Bn n h J W hcW h0).mono ?_;rintro e W' ⟨h1,h2⟩;exact⟨h1,.inl h2⟩
theorem XD(n:Int)(w:World):Calls Tryz.prog 155 #[.int .i64 n] w λe w'=>e= .returned (.func (.func 160) #[] #[.pointer (some ⟨w.heap.size,0,none⟩)])∧w'=w.alloc (.cells #[.int .i64 n] 3):=by
 go_enter Tryz.func155,Tryz.ntmps155
 go_wp2
 go_ret
 exact⟨rfl,rfl⟩
theorem gh{A B:World}{base t n D:Nat}{v:Value}{xs:List Value}{row:Option Nat}(ht:t≠184)(h:A.ownsRow base t 1 v n xs)(hg:A.grownBy B row)(hr:∀r,row=some r→D≤r∧∃o:Obj,A.heap[r]?=some o∧YX o):B.ownsRow base t 1 v n xs:=by
 refine⟨h.1,?_⟩;rcases h.2 with h0|⟨g,cap,cur,hv,h1,hgg,r⟩
 ·exact .inl h0
 ·exact .inr ⟨g,cap,cur,hv,h1,(zi.firm (cs:=cur) (t:=t) ht hgg hg hr:zi B g t cur),r⟩
end
section
open Go.ChangeShapes Go.WideShapes Go.ChangeAt Go.RowKit
def il(f:Nat→Nat)(n:Nat):List Value:=(List.range n).map λj=>Value.int .i64 (f j:Nat)
theorem FE(f:Nat→Nat)(n y:Nat)(h:f n=y):il f n++ [.int .i64 (y:Nat)]=il f (n+1):=by
 unfold il;rw[List.range_succ,List.map_append];simp[h]
theorem fA(f:Nat→Nat)(n j:Nat)(h:j<n):(il f n)[j]?=some (.int .i64 (f j:Nat)):=by simp[il,h]
theorem Do:(Tryz.prog.info? 3).map (λi=>(i.zero,i.size,i.bytes))=some (some (.int .i64 0),1,8):=by kernel_rfl
theorem Gs{w:World}{base n:Nat}{v:Value}{f:Nat→Nat}(h:w.ownsRow base 3 1 v n (il f n)):∃a cap,v= .slice a n cap∧n≤cap∧(a=none→n=0∧cap=0)∧Uz w a n f:=by
 rcases h.2 with⟨rfl,rfl⟩|⟨g,cap,cur,rfl,hb,hg,hn,hm,hs,ht⟩
 ·exact⟨none,0,rfl,Nat.le_refl _,λ_=>⟨rfl,rfl⟩,.inl rfl⟩
 ·have hlt:g<w.heap.size:=(Array.getElem?_eq_some_iff.1 hg).1
  refine⟨some ⟨g,0,none⟩,cap,rfl,hn,(λe=>by cases e),.inr ⟨g,0,rfl,hlt,?_⟩⟩;intro j hj;rw[Nat.zero_add,h.cellAt j (by omega)];exact fA f n j hj
end
section
open Go.RowKit Go.Shelf
theorem zi.ownF{A B:World}{g t D:Nat}{cs:Array Value}{row:Option Nat}(h:zi A g t cs)(hg:A.grownBy B row)(hr:∀r,row=some r→D≤r∧∃o:Obj,A.heap[r]?=some o∧o.isCells=false):zi B g t cs:=by
 refine(hg.block g h.lt λe=>?_).trans h;obtain⟨_,o,ho,hc⟩:=hr g e.symm;have h':A.heap[g]?=some (.cells cs t (0,0)):=h;rw[h']at ho;cases ho;cases hc
def DD(N:Nat)(T:Nat→Nat→Array Value)(x:Nat)(a':Act)(W:World):Prop:=∃B,a'= { tmps:=T x B,defers:= [] }∧zi W B 184 (jB (off N x) (lv N (x+1)))
theorem gC(N D:Nat)(T:Nat→Nat→Array Value)(x:Nat)(a':Act):OwnFrom D (λ(_:Unit) W=>DD N T x a' W):=by
 rintro _ A B row ⟨b,h1,h2⟩ hg hr;exact⟨b,h1,h2.ownF hg hr⟩
theorem Vq{W w1:World}{n₀ base B:Nat}{t:TypeId}{v v':Value}{k m:Nat}{xs ys:List Value}{tmp:Obj}
 (hv:zi W B t #[v]) (hte:t≠3) (htl:t≠184) (hrow:W.ownsRow base 3 1 v k xs) (hn₀:n₀≤W.heap.size) (hB:n₀≤B) (hnb:n₀≤base)
 (hown':w1.ownsRow base 3 1 v' m ys) (hgrow:(W.alloc tmp).grownBy w1 v.ownBlock):
 zi w1 B t #[v]∧zi (w1.setCell ⟨B,0,none⟩ v') B t #[v']∧(w1.setCell ⟨B,0,none⟩ v').ownsRow base 3 1 v' m ys∧vF W (w1.setCell ⟨B,0,none⟩ v')∧Below n₀ W (w1.setCell ⟨B,0,none⟩ v'):=by
 have hv1:zi w1 B t #[v]:=Boxed.kept (t:=t) (Boxed.alloc (t:=t) hv tmp) hgrow (Boxed.not_row (t:=t) hv hte hrow);refine⟨hv1,Boxed.set (t:=t) v' hv1,hown'.kept (grownBy_setCell' w1 B v') (.inr (Boxed.not_row (t:=t) hv1 hte hown').symm),?_,?_⟩
 ·refine((vF.alloc W tmp).trans (vF.grown hgrow ?_)).trans (vF.setCell (t:=t) (cs:=#[v]) hv1 htl 0 v')
  intro r e;rcases(hrow.alloc tmp).2 with⟨rfl,_⟩|⟨g,cap,cur,rfl,_,hgb,_⟩
  ·simp[Value.ownBlock]at e
  ·obtain rfl:g=r:=by simpa [Value.ownBlock]using e
   exact⟨cur,3,_,hgb,by decide⟩
 ·refine(((Below.refl n₀ W).alloc hn₀ tmp).grown hgrow (by simp;omega) λj ej=>?_).setCell (p:=⟨B,0,none⟩) hB v'
  exact Nat.le_trans hnb (hrow.lt j ej).1
end
section
open Go.RowKit Go.Shelf
attribute [local go_sem] Oper.semAt_some
def fD(w:World)(n:Int)(pre:List Nat)(W:World):Prop:=(∃v,zi W w.heap.size 29 #[v]∧W.ownsRow w.heap.size 3 1 v pre.length (il (λk=>lv n.toNat (k+1)) pre.length))∧Below w.heap.size w W
theorem J4(w:World)(n:Int)(D:Nat)(hD:w.heap.size≤D):yU D (fD w n):=by
 rintro pre A B row ⟨⟨v,h1,h2⟩,h3⟩ hg hr;exact⟨⟨v,h1.firm (by decide) hg hr,gh (by decide) h2 hg hr⟩,yU.below (β:=Unit) (Nat.le_refl _) hD () A B row h3 hg hr⟩
theorem Uu(n:Int)(w:World)(hn:zN n):CallsIn Fence.wide 3 Tryz.prog 152 #[.int .i64 n] w λe W'=>∃v,e= .returned v∧W'.ownsRow w.heap.size 3 1 v (xK n) (il (λk=>lv n.toNat (k+1)) (xK n))∧Below w.heap.size w W':=by
 have hlen:=K4 n;obtain⟨i0,hi,hz0,hz1,hz2⟩:=info_parts Do;refine callsIn_of_wp_marks Tryz.func152 rfl trivial ?_ rfl;simp only[Tryz.ntmps152,List.size_toArray,List.length_cons,List.length_nil,Nat.reduceAdd,Nat.reduceSub,Array.replicate_succ,Array.replicate_zero,List.push_toArray,List.append_toArray,List.nil_append,List.cons_append];refine wpIn_wide.2 ?_
 go_wp2_with (first
  |((go_at_call 155)
    refine(XD _ _).mono ?_;(rintro e w1 ⟨rfl,rfl⟩)))
 refine(wpIn_wide (n:=3)).1 ?_
 have h0:fD w n [] ((w.alloc (.cells #[.slice none 0 0] 29)).alloc (.cells #[.int .i64 n] 3)):=⟨⟨.slice none 0 0,(zi.new _ _ _).alloc _,World.ownsRow_nil _ _ _ _⟩,((Below.refl _ w).alloc (Nat.le_refl _) _).alloc (by simp) _⟩
 have hs0:((w.alloc (.cells #[.slice none 0 0] 29)).alloc (.cells #[.int .i64 n] 3)).heap.size=w.heap.size+2:=by simp
 have hb0:zi ((w.alloc (.cells #[.slice none 0 0] 29)).alloc (.cells #[.int .i64 n] 3)) (w.heap.size+1) 3 #[.int .i64 n]:=zi.new_at (by simp)
 obtain⟨W0,hW0⟩:∃W0,W0=(w.alloc (.cells #[.slice none 0 0] 29)).alloc (.cells #[.int .i64 n] 3):=⟨_,rfl⟩
 rw[←hW0]at h0 hs0 hb0 ⊢;clear hW0
 refine UG (n:=3) (gf:=160) (lb:=#[.pointer (some ⟨w.heap.size+1,0,none⟩)]) rfl (enters_of Tryz.func160 (by kernel_rfl) rfl)
  (gG (3-1) (w.heap.size+1) n W0 (by omega) (hb0.cell 0)) (λ_=>rfl)
  (fD w n) (λ_ _=>False) (J4 w n _ (by omega)) (λ_ _ _ _ h=>h.elim) h0
  (DD n.toNat (λx B=> #[.int .i64 n,undef,.slice none 0 0,.pointer (some ⟨w.heap.size,0,none⟩),undef,.pointer (some ⟨B,0,none⟩),.int .i64 n,.func (.func 160) #[] #[.pointer (some ⟨w.heap.size+1,0,none⟩)],.int .i64 (x:Nat),.agg (jB (off n.toNat x) (lv n.toNat (x+1))),undef,undef,undef,undef,undef,undef])) (gC _ _ _) ?assign ?body ?done ?stop
 case assign =>
  intro l pre x W K hI hK;simp only[Fy,jB]
  gi_wp2
  exact hK _ _ (vF.alloc _ _) ((J4 w n _ (Nat.le_refl _)).alloc _ hI) ⟨_,rfl,zi.new _ _ _⟩
 case body =>
  rintro l pre x a' W hpre ⟨⟨v,hv,hrow⟩,hB⟩ ⟨B,rfl,hl⟩;obtain⟨hx,rfl⟩:=Kt hpre;rw[List.length_range]at hrow;have hc:=hv.cell 0;have t1:=hl.cell 1;simp only[jB,List.getElem?_toArray,List.getElem?_cons_zero,List.getElem?_cons_succ]at t1 hc;have hlc:(il (λk=>lv n.toNat (k+1)) x)++ [.int .i64 (lv n.toNat (x+1):Nat)]=il (λk=>lv n.toNat (k+1)) (x+1):=FE _ x _ rfl
  obtain⟨c,hcc⟩:∃c,c=lv n.toNat (x+1):=⟨_,rfl⟩
  rw[←hcc]at t1 hlc;clear hcc
  gi_wp2_with (gi_at_builtin;refine wpListIn_append_own _ rfl _ _ 29 rfl w.heap.size 3 i0 (.int .i64 0) 1 8 Tryz.underlying29 hi hz0 hz1 hz2 rfl (by decide) _ _ _ rfl (hrow.alloc _) ⟨W.heap.size,0,none⟩ 1 1 [.int .i64 (c:Nat)] rfl rfl (cell_one_new _ _ _) (by simp[Value.oneCell']) (by unfold maxLen;omega) (by omega) (by have:=hB.size;simp;omega) ?_;intro v' w1 hown' hgrow _;obtain⟨g',cap',rfl⟩:=ownsRow_succ hown';obtain⟨hv1,hv2,hr2,hk2,hb2⟩:=Vq hv (by decide) (by decide) hrow hB.size (Nat.le_refl _) (Nat.le_refl _) hown' hgrow;have hc1:=hv1.cell 0;have hf1:=hv1.free 0)
  refine⟨hk2,⟨⟨_,hv2,?_⟩,hB.trans hb2⟩⟩;rw[hlc]at hr2
  simpa using hr2
 case done =>
  rintro D W hD ⟨⟨v,hv,hrow⟩,hB⟩ hK;rw[List.length_range]at hrow;have hc:=hv.cell 0
  go_wp2
  refine⟨by simp,.inl ⟨_,_,rfl,run_takeDeferred hK,?_⟩⟩;exact⟨_,results_tmp rfl _ _ _,v,rfl,ownsRow_putObj hrow _ hK rfl,hB.trans (belowK_b (w:=w) (Nat.le_refl _) W D _ _ (by omega) hK rfl rfl)⟩
 case stop =>
  rintro D pre W _ _ h;exact h.elim
theorem kR:GP 152:=by
 intro n w hn;refine Calls.mono (callsIn_wide.1 (Uu n w hn)) ?_;rintro e w' ⟨v,rfl,own,hb⟩;obtain⟨a,c,rfl,h1,h2,h3⟩:=Gs own;exact⟨a,c,rfl,h1,h2,h3,hb⟩
end
section
open Go.ChangeShapes Go.WideShapes Go.ChangeAt Go.RowKit
end
section
open Go.ChangeShapes Go.WideShapes Go.ChangeAt Go.RowKit
end
end
section
open Go.RowKit
def hs(n:Nat):Nat:=off n (xK (n:Int))
theorem FS:hs 0=0:=rfl
theorem fj(n k:Nat):off n (k+1)=(n+1) / 2+off ((n+1) / 2) k:=by
 induction k with
 |zero=>simp[off,lv]
 |succ k ih =>
  have e:off n (k+1+1)=off n (k+1)+lv n (k+1+1):=rfl;have e2:off ((n+1) / 2) (k+1)=off ((n+1) / 2) k+lv ((n+1) / 2) (k+1):=rfl;rw[e,ih,e2,uV];omega
def hh(n:Nat):Nat:=off n (Jr n)
theorem uh{n:Nat}(h1:1≤n)(h2:n≤2048):hs n=hh n:=by
 unfold hs hh;rw[kv (by omega),Int.toNat_natCast]
theorem Kg{n:Nat}(h1:1≤n)(h:n≤2):hh n=1:=by
 unfold hh;rw[ZT h];simp[off,lv];omega
theorem K3{n:Nat}(h:2<n):hh n=(n+1) / 2+hh ((n+1) / 2):=by
 unfold hh;rw[xJ h,fj]
theorem K8(b:Nat):∀a,1≤a→a≤b→hh a≤hh b:=by
 induction b using Nat.strongRecOn with
 |_ b ih =>
  intro a h1 h;by_cases hb:b≤2
  ·rw[Kg h1 (by omega),Kg (by omega) hb];exact Nat.le_refl _
  ·rw[K3 (by omega:2<b)]
   by_cases ha:a≤2
   ·rw[Kg h1 ha];omega
   ·rw[K3 (by omega:2<a)]
    have:=ih ((b+1) / 2) (by omega) ((a+1) / 2) (by omega) (by omega);omega
theorem fX(n:Nat):1≤n→n≤2048→hh n≤2058:=by
 intro h1 h2;have h:=K8 2048 n h1 h2;have e:hh 2048=2047:=by decide +kernel
 omega
theorem Fd{a b:Nat}(h:a≤b)(hb:b≤2048):hs a≤hs b:=by
 by_cases h0:a=0
 ·subst h0;rw[FS];omega
 ·rw[uh (by omega) (by omega),uh (by omega) hb]
  exact K8 b a (by omega) h
theorem FX(n:Nat):hs n≤2058:=by
 by_cases h:1≤n∧n≤2048
 ·rw[uh h.1 h.2];exact fX n h.1 h.2
 ·unfold hs
  rw[Yx (by omega)];show 0≤_;omega
theorem Gr(n:Nat)(k:Nat)(hk:k≤xK (n:Int)):off n k≤hs n:=by
 unfold hs;generalize xK (n:Int)=m at hk
 induction m with
 |zero=>obtain rfl:k=0:=by omega
        exact Nat.le_refl _
 |succ m ih =>
  by_cases e:k=m+1
  ·rw[e];exact Nat.le_refl _
  ·have:=ih (by omega);simp only[off];omega
def vB(L:Nat)(F:Nat→Bool)(r:Nat):Prop:=r≤L∧(∀t,t<r→F (t+1)=true)∧(r<L→F (r+1)=false)
theorem vB.eq{L:Nat}{F:Nat→Bool}{r s:Nat}(h:vB L F r)(k:vB L F s):r=s:=by
 rcases Nat.lt_trichotomy r s with e|e|e
 ·have a:=h.2.2 (by have:=k.1;omega)
  rw[k.2.1 r e]at a;cases a
 ·exact e
 ·have a:=k.2.2 (by have:=h.1;omega)
  rw[h.2.1 s e]at a;cases a
def Ju(rest:Nat→Nat)(n:Nat)(d:Nat):Bool:=decide (d+rest d≤n)
theorem GZ{rest:Nat→Nat}{n L:Nat}(hm:∀a b,a≤b→b≤L→rest a≤rest b)(a b:Nat)(h:a≤b)(hb:b≤L)(hf:Ju rest n b=true):Ju rest n a=true:=by
 unfold Ju at *;have:=hm a b h hb;simp only[decide_eq_true_eq]at *;omega
def tg(d:Nat):Nat:=(d+3) / 4
theorem Fk(a b:Nat)(h:a≤b):tg a≤tg b:=by unfold tg;omega
def Z8(table chunk n:Nat)(s:Nat):Bool:=decide (table+s*chunk≤n)
theorem UN{table chunk n:Nat}(a b:Nat)(h:a≤b)(hf:Z8 table chunk n b=true):Z8 table chunk n a=true:=by
 unfold Z8 at *;have:=Nat.mul_le_mul_right chunk h;simp only[decide_eq_true_eq]at *;omega
theorem vB.more{L n:Nat}{rest:Nat→Nat}(hm:∀a b,a≤b→b≤L→rest a≤rest b){r s:Nat}(h:vB L (Ju rest n) r)(k:vB L (Ju rest (n+1)) s):r≤s∧s≤r+1:=by
 constructor
 ·by_cases e:r≤s
  ·exact e
  ·exfalso
   have hL:=h.1;have a:=k.2.2 (by omega);have b:=h.2.1 s (by omega);unfold Ju at a b;simp only[decide_eq_true_eq,decide_eq_false_iff_not]at a b;omega
 ·by_cases e:s≤r+1
  ·exact e
  ·exfalso
   have hL:=k.1;have a:=h.2.2 (by omega);have b:=k.2.1 (r+1) (by omega);have c:=hm (r+1) (r+1+1) (by omega) (by omega);unfold Ju at a b;simp only[decide_eq_true_eq,decide_eq_false_iff_not]at a b;omega
end
section
open Go.RowKit Go.Shelf
theorem vg(a b c:Int)(w:World)(h:b≤a∧a≤c):Calls Tryz.prog 127 #[.int .i64 a,.int .i64 b,.int .i64 c] w λe w'=>e= .returned (.bool true)∧w'=w:=by
 obtain⟨h1,h2⟩:=h;go_enter Tryz.func127,Tryz.ntmps127
 go_wp2
 go_ret
 exact⟨rfl,rfl⟩
theorem Qf(a b c:Int)(w:World)(h:¬(b≤a∧a≤c)):Calls Tryz.prog 127 #[.int .i64 a,.int .i64 b,.int .i64 c] w λe w'=>e= .returned (.bool false)∧w'=w:=by
 by_cases h1:b≤a
 ·have h2:¬a≤c:=λh2=>h ⟨h1,h2⟩
  clear h;go_enter Tryz.func127,Tryz.ntmps127
  go_wp2
  go_ret
  exact⟨rfl,rfl⟩
 ·clear h
  go_enter Tryz.func127,Tryz.ntmps127
  go_wp2
  go_ret
  exact⟨rfl,rfl⟩
theorem Jp(x s:Nat)(w:World)(hx:x≤100000)(h1:1≤s)(h2:s≤100000):Calls Tryz.prog 128 #[.int .i64 (x:Nat),.int .i64 (s:Nat)] w λe w'=>e= .returned (.int .i64 (((x+s-1) / s:Nat):Int))∧w'=w:=by
 have HE:Hid (((x:Int)+(s:Int)-1) / (s:Int)=(((x+s-1) / s:Nat):Int)):=(by
  rw[Int.natCast_ediv];congr 1;omega:((x:Int)+(s:Int)-1) / (s:Int)=(((x+s-1) / s:Nat):Int))
 generalize (((x+s-1) / s:Nat):Int)=q at HE ⊢;generalize hX:(x:Int)=X at HE ⊢;generalize hS:(s:Int)=S at HE ⊢;have a1:0≤X:=by omega
 have a2:X≤100000:=by omega
 have a3:1≤S:=by omega
 have a4:S≤100000:=by omega
 clear hX hS hx h1 h2;have a5:¬S=0:=by omega
 have a6:¬S= -1:=by omega
 go_enter Tryz.func128,Tryz.ntmps128
 go_wp2
 go_ret
 rw[HE.out];exact⟨rfl,rfl⟩
theorem fM(d:Nat)(w:World)(h:d≤8192):Calls Tryz.prog 147 #[.int .i64 (d:Nat)] w λe w'=>e= .returned (.int .i64 (tg d:Nat))∧w'=w:=by
 have hg:=Jp d 4 w (by omega) (by omega) (by omega);rw[show(d+4-1) / 4=tg d by unfold tg;omega]at hg;generalize ((tg d:Nat):Int)=q at hg ⊢;generalize ((d:Nat):Int)=D at hg ⊢;clear h;go_enter Tryz.func147,Tryz.ntmps147
 go_wp2_with (first
  |((go_at_call 128)
    refine hg.mono ?_;(rintro e w1 ⟨rfl,rfl⟩)))
 go_ret
 exact⟨rfl,rfl⟩
theorem Fl{w:World}{a:Option Addr}{n:Nat}{f:Nat→Nat}(h:Uz w a n f)(k:Nat)(hk:k<n):∃b off,a=some ⟨b,off,none⟩∧b<w.heap.size∧w.cell? ⟨b,off+k,none⟩=some (.int .i64 (f k:Nat)):=by
 rcases h with h|⟨b,off,rfl,hb,hc⟩
 ·omega
 ·exact⟨b,off,rfl,hb,hc k hk⟩
theorem uz(n:Nat)(w:World)(hn:n≤8192):Calls Tryz.prog 148 #[.int .i64 (n:Nat)] w λe w'=>e= .returned (.int .i64 (hs n:Nat))∧Below w.heap.size w w':=by
 have hL:=kR (n:Int) w ⟨by omega,by omega⟩;rw[Int.toNat_natCast]at hL;have HP:Hid (∀k,k≤xK (n:Int)→off n k≤2058):=λk hk=>Nat.le_trans (Gr n k hk) (FX n)
 have HE:Hid (off n (xK (n:Int))=hs n):=rfl;have h11:=K4 (n:Int);generalize xK (n:Int)=m at hL HP HE h11;generalize (n:Int)=N at hL ⊢;clear hn;go_enter Tryz.func148,Tryz.ntmps148
 go_wp2_with (first
  |((go_at_call 152)
    refine hL.mono ?_;(rintro e w1 ⟨a,c,rfl,hc1,hc2,hints,hb⟩)))
 go_loop [3,9] (λs i=>∃k:Nat,k≤m∧i= .int .i64 k∧s= .int .i64 (off n k:Nat)) (λ_ i=>m-(intOf i).toNat)
 case atStart=>exact⟨0,Nat.zero_le _,rfl,rfl⟩
 case round =>
  obtain⟨k,hk,rfl,rfl⟩:=hrel;have hp:=HP.out k hk;by_cases hlt:k<m
  ·have hp2:=HP.out (k+1) hlt
   have HS:Hid ((off n k:Int)+(lv n (k+1):Int)=((off n (k+1):Nat):Int)):=(by simp only[off];omega:(off n k:Int)+(lv n (k+1):Int)=((off n (k+1):Nat):Int))
   obtain⟨b,o,rfl,hbl,hcell⟩:=Fl hints k hlt;have hv:lv n (k+1)≤2058:=by simp only[off]at hp2;omega
   clear hL hp2;generalize lv n (k+1)=v at *;generalize off n k=s at *
   go_wp2
   go_round
   case rel=>exact⟨k+1,hlt,by go_num,by rw[HS.out]⟩
   case measure=>simp[intOf];omega
  ·obtain rfl:k=m:=by omega
   clear hL
   go_wp2
   go_ret
   rw[HE.out];exact⟨rfl,hb⟩
theorem uN(g:Nat)(cb:Array Value)(n:Nat)(p:Nat→Bool)(w:World)(eg:∀args w,(callFunc g args).run Tryz.prog w= .ok (.enter g args) w)(hn:n≤10000)
 (hf:∀(i:Nat) (W:World),i<n→Below w.heap.size w W→Calls Tryz.prog g (#[.int .i64 i]++cb) W λe W'=>e= .returned (.bool (p i))∧Below w.heap.size w W')
 (hmono:∀a b,a≤b→b<n→p a=true→p b=true):
 Calls Tryz.prog 143 #[.int .i64 n,.func (.func g) #[] cb] w λe w'=>∃r:Nat,e= .returned (.int .i64 (r:Nat))∧r≤n∧(∀t,t<r→p t=false)∧(∀t,r≤t→t<n→p t=true)∧Below w.heap.size w w':=by
 have HF:Hid (∀(i:Nat) (W:World),i<n→Below w.heap.size w W→Calls Tryz.prog g (#[.int .i64 i]++cb) W λe W'=>e= .returned (.bool (p i))∧Below w.heap.size w W'):=hf;have M:Hid (∀a b,a≤b→b<n→p a=true→p b=true):=hmono;clear hf hmono;go_enter Tryz.func143,Tryz.ntmps143
 go_wp2
 go_loopg [5,6] n (λkx s5 s6 wr=>∃(lo hi:Nat),s5= .int .i64 lo∧s6= .int .i64 hi∧lo≤hi∧hi≤n∧hi-lo≤kx∧Below w.heap.size w wr ∧
  Hid ((∀t,t<lo→p t=false)∧(∀t,hi≤t→t<n→p t=true)))
 case atStart=>exact⟨0,n,rfl,rfl,Nat.zero_le _,Nat.le_refl _,by omega,Below.refl _ _,(⟨λt ht=>absurd ht (Nat.not_lt_zero _),λt h1 h2=>by omega⟩:(∀t,t<0→p t=false)∧(∀t,n≤t→t<n→p t=true))⟩
 case round =>
  obtain⟨lo,hi,rfl,rfl,hlh,hin,hg,hb,I⟩:=hrel;by_cases hlt:lo<hi
  ·have hc:=HF.out ((lo+hi) / 2) _ (by omega) hb
   rw[show(((lo+hi) / 2:Nat):Int)=((lo:Int)+(hi:Int)) / 2 by omega]at hc;cases hp:p ((lo+hi) / 2)<;>rw[hp]at hc
   ·have HP:Hid (p ((lo+hi) / 2)=false):=hp
    clear hp
    go_wp2_with (go_at_fn g;refine hc.mono ?_;rintro e w' ⟨rfl,hb2⟩)
    go_roundg (hi-((lo+hi) / 2+1))
    case measure=>omega
    case rel =>
     have I2:Hid ((∀t,t<(lo+hi) / 2+1→p t=false)∧(∀t,hi≤t→t<n→p t=true)):=⟨λt ht=>(by
      cases h:p t with
      |false=>rfl
      |true=>have:=M.out t ((lo+hi) / 2) (by omega) (by omega) h;rw[HP.out]at this;cases this),I.out.2⟩
     exact⟨(lo+hi) / 2+1,hi,by rw[show((lo:Int)+(hi:Int)) / 2+1=(((lo+hi) / 2+1:Nat):Int) by omega],rfl,by omega,hin,Nat.le_refl _,hb2,I2⟩
   ·have HP:Hid (p ((lo+hi) / 2)=true):=hp
    clear hp
    go_wp2_with (go_at_fn g;refine hc.mono ?_;rintro e w' ⟨rfl,hb2⟩)
    go_roundg ((lo+hi) / 2-lo)
    case measure=>omega
    case rel =>
     have I2:Hid ((∀t,t<lo→p t=false)∧(∀t,(lo+hi) / 2≤t→t<n→p t=true)):=⟨I.out.1,λt ht htn=>M.out ((lo+hi) / 2) t ht htn HP.out⟩
     exact⟨lo,(lo+hi) / 2,rfl,by rw[show((lo:Int)+(hi:Int)) / 2=(((lo+hi) / 2:Nat):Int) by omega],by omega,by omega,Nat.le_refl _,hb2,I2⟩
  ·obtain rfl:hi=lo:=by omega
   go_wp2
   go_ret
   exact⟨hi,rfl,hin,I.out.1,I.out.2,hb⟩
theorem GU(g bx:Nat)(cb:Array Value)(i:Nat)(b:Bool)(W:World)(B:Nat)(w:World)(hi:i≤10000)(eg:∀args w,(callFunc g args).run Tryz.prog w= .ok (.enter g args) w)
 (hx:W.cell? ⟨bx,0,none⟩=some (.func (.func g) #[] cb))
 (hf:Calls Tryz.prog g (#[.int .i64 ((i+1:Nat):Int)]++cb) W λe W'=>e= .returned (.bool b)∧Below B w W'):
 Calls Tryz.prog 144 #[.int .i64 i,.pointer (some ⟨bx,0,none⟩)] W λe W'=>e= .returned (.bool !b)∧Below B w W':=by
 rw[show((i+1:Nat):Int)=(i:Int)+1 by omega]at hf;go_enter Tryz.func144,Tryz.ntmps144
 go_wp2_with (go_at_fn g;refine hf.mono ?_;rintro e w' ⟨rfl,hb2⟩)
 go_ret
 exact⟨rfl,hb2⟩
theorem QS(g:Nat)(cb:Array Value)(L:Nat)(F:Nat→Bool)(w:World)(eg:∀args w,(callFunc g args).run Tryz.prog w= .ok (.enter g args) w)(hn:L≤10000)
 (hf:∀(d:Nat) (W:World),d≤L→Below w.heap.size w W→Calls Tryz.prog g (#[.int .i64 (d:Nat)]++cb) W λe W'=>e= .returned (.bool (F d))∧Below W.heap.size W W')
 (hanti:∀a b,a≤b→b≤L→F b=true→F a=true):
 Calls Tryz.prog 129 #[.int .i64 L,.func (.func g) #[] cb] w λe w'=>∃r:Nat,e= .returned (.int .i64 (r:Nat))∧vB L F r∧Below w.heap.size w w':=by
 obtain⟨W0,hW0⟩:∃W0,W0=w.alloc (.cells #[.func (.func g) #[] cb] 122):=⟨_,rfl⟩
 have hs0:W0.heap.size=w.heap.size+1:=by rw[hW0];simp
 have hx0:zi W0 w.heap.size 122 #[.func (.func g) #[] cb]:=by rw[hW0];exact zi.new _ _ _
 have hB0:Below w.heap.size w W0:=by rw[hW0];exact(Below.refl _ w).alloc (Nat.le_refl _) _
 have hS:=uN 144 #[.pointer (some ⟨w.heap.size,0,none⟩)] L (λi=> !F (i+1)) W0 (enters_of Tryz.func144 (by kernel_rfl) rfl) hn
  (λi W hi hb=>by
    refine(GU g w.heap.size cb i (F (i+1)) W W0.heap.size W0 (by omega) eg (by rw[(hx0.below hb (by omega)).cell 0];rfl) ?_);refine(hf (i+1) W (by omega) (hB0.trans (hb.mono (by omega)))).mono ?_;rintro e W' ⟨rfl,h⟩
    exact⟨rfl,hb.trans (h.mono hb.size)⟩)
  (λa b hab hb h=>by
    cases hq:F (b+1)with
    |false=>rfl
    |true=>rw[hanti (a+1) (b+1) (by omega) (by omega) hq]at h;cases h)
 have HS:Hid (Calls Tryz.prog 143 #[.int .i64 L,.func (.func 144) #[] #[.pointer (some ⟨w.heap.size,0,none⟩)]] W0 λe w'=>∃r:Nat,e= .returned (.int .i64 (r:Nat))∧r≤L∧(∀t,t<r→(!F (t+1))=false)∧(∀t,r≤t→t<L→(!F (t+1))=true)∧Below W0.heap.size W0 w'):=hS;clear hS hf hanti;go_enter Tryz.func129,Tryz.ntmps129
 go_wp2_with (first
  |((go_at_call 143)
    rw[←hW0];refine HS.out.mono ?_;(rintro e w1 ⟨r,rfl,h1,h2,h3,h4⟩)))
 go_ret
 exact⟨r,rfl,⟨h1,λt ht=>by have:=h2 t ht;simpa using this,λh=>by have:=h3 r (Nat.le_refl _) h;simpa using this⟩,hB0.trans (h4.mono (by omega))⟩
end
end Go.Proofs.YtgljdaakdpgpkaaGreatDoor
