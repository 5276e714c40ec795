import Derived.Lib.Atoi
import Derived.Test.YteaddcdpgcgggaaGreatDoorRows
import Derived.WalkKit
import Derived.ProofKit
import Derived.OpenShut
import Derived.Below
import Derived.WalkLawsBesides
import Derived.WalkSpells
import Derived.Laws.BitsAllLaws
import Derived.Deep.QuietTactic
import Derived.BigQuiet
import Derived.Deep.WholeRow
import Derived.Deep.MidRow
import Derived.Laws.AppendOwnNone
import Derived.OwnWalk
import Derived.DeepKeys
import Derived.Deep.AppendLies
import Derived.Laws.CopyOwn
import Derived.Deep.RegionHeld3
import Derived.Lib.AppendZerosOnto
import Derived.KernelRfl
import Derived.RangeFuncBox
import Derived.RangeFuncLeaves
import Derived.Shelf.Abstract
import Derived.OwnWalkIn
import Derived.TacticsInMore
import Derived.LoopNIn
import Derived.LoopIn
import Derived.Maps.AppendAt
import Derived.RangeFuncCalls
import Derived.OrdersIn
import Derived.RangeFuncWrites
namespace Go.Proofs.YteaddcdpgcgggaaGreatDoor
set_option linter.unusedVariables false
set_option maxRecDepth 100000
set_option maxHeartbeats 40000000
section
def j4(c:UInt8):Bool:=c==9||c==10||c==13||c==32
def zz(c:UInt8):Bool:=decide (48≤c.toNat)&&decide (c.toNat≤57)
def qx(c:UInt8):Bool:=decide (97≤c.toNat)&&decide (c.toNat≤122)
def xj(c:UInt8):Bool:=qx c||c==95
def qK(c:UInt8):Bool:=xj c||zz c
def zG(c:UInt8):Bool:=zz c||(decide (97≤c.toNat)&&decide (c.toNat≤102))
def jH(c:UInt8):Bool:= !(c==10)
def JV(c:UInt8):Bool:=c==40||c==41||c==44||c==61||c==59
def zS(p:UInt8→Bool)(x:List UInt8):Nat:=(x.takeWhile p).length
def jO:Bool→List UInt8→Nat
 |_,[]=>0
 |false,c::t=>if j4 c then jO false t+1 else if c==47&&t.head?==some 47 then jO true t+1 else 0
 |true,c::t=>if c==10 then jO false t+1 else jO true t+1
structure Tk where
 kind:Nat
 s:List UInt8
 n:Nat
def val(x:List UInt8):Nat:=x.foldl (λv c=>10*v+(c.toNat-48)) 0
def yu(x:List UInt8):Bool:=x.head?.any xj
def one:List UInt8→Except (Nat×Nat) (Tk×Nat)
 | []=> .error (101,0)
 |c::t =>
  if qx c then(if 16<zS qK (c::t)then .error (102,0)else .ok (⟨0,(c::t).take (zS qK (c::t)),0⟩,zS qK (c::t)))
  else if zz c then(if 9<zS zz (c::t)then .error (102,0)else if yu ((c::t).drop (zS zz (c::t)))then .error (101,zS zz (c::t))else .ok (⟨1,[],val ((c::t).take (zS zz (c::t)))⟩,zS zz (c::t)))
  else if c==36 then(if zS zG t=0 then .error (101,1)else if 128<zS zG t then .error (102,0)else if yu (t.drop (zS zG t))then .error (101,zS zG t+1)else .ok (⟨2,t.take (zS zG t),0⟩,zS zG t+1))
  else if JV c then .ok (⟨3,[c],0⟩,1)
  else .error (101,0)
abbrev zL:=List (Tk×Nat)
def ZY:Nat→List UInt8→Nat→Nat→Except (Nat×Nat) zL
 |0,_,_,_=> .ok []
 |f+1,x,a,k =>
  if x.drop (jO false x)= []then .ok []else
  match one (x.drop (jO false x))with
  | .error (e,o)=> .error (e,a+jO false x+o)
  | .ok (t,n)=>if k=500 then .error (103,a+jO false x)else
    match ZY f ((x.drop (jO false x)).drop n) (a+jO false x+n) (k+1)with
    | .error e=> .error e
    | .ok ts=> .ok ((t,a+jO false x)::ts)
def vL(l:List UInt8):Except (Nat×Nat) zL:=if 2000<l.length then .error (103,0)else ZY (l.length+1) l 0 0
theorem v8(p:UInt8→Bool)(x:List UInt8):zS p x≤x.length:=(List.takeWhile_sublist p).length_le
theorem vj(p:UInt8→Bool)(c:UInt8)(t:List UInt8):zS p (c::t)=if p c then zS p t+1 else 0:=by
 unfold zS;rw[List.takeWhile_cons]
 split<;>simp
theorem Hl(b:Bool)(x:List UInt8):jO b x≤x.length:=by
 induction x generalizing b with
 |nil=>cases b<;>simp[jO]
 |cons c t ih =>
  have h1:=ih false;have h2:=ih true;cases b<;>simp only[jO,List.length_cons]<;>repeat' split
  all_goals omega
theorem XO{x:List UInt8}{t:Tk}{n:Nat}(h:one x= .ok (t,n)):1≤n∧n≤x.length:=by
 cases x with
 |nil=>simp[one]at h
 |cons c r =>
  have h1:=v8 qK (c::r);have h2:=v8 zz (c::r);have h3:=v8 zG r;simp only[one]at h
  split at h
  ·rename_i hc
   split at h
   ·cases h
   ·cases h
    refine⟨?_,h1⟩;have hw:qK c=true:=by simp[qK,xj,hc]
    rw[vj,if_pos hw];omega
  ·split at h
   ·rename_i hc
    split at h
    ·cases h
    ·split at h
     ·cases h
     ·cases h
      refine⟨?_,h2⟩;rw[vj,if_pos hc];omega
   ·split at h
    ·split at h
     ·cases h
     ·split at h
      ·cases h
      ·split at h
       ·cases h
       ·cases h
        simp only[List.length_cons];omega
    ·split at h
     ·cases h
      simp
     ·cases h
def Zf(ts:zL):Except (Nat×Nat) zL→Except (Nat×Nat) zL
 | .error e=> .error e
 | .ok us=> .ok (ts++us)
theorem YN(r:Except (Nat×Nat) zL):Zf [] r=r:=by cases r<;>rfl
theorem Vd(ts us:zL)(r:Except (Nat×Nat) zL):Zf ts (Zf us r)=Zf (ts++us) r:=by cases r<;>simp[Zf]
theorem Yq{f:Nat}{x:List UInt8}{a k:Nat}(h:x.drop (jO false x)= []):ZY (f+1) x a k= .ok []:=by
 simp only[ZY,if_pos h]
theorem Ju{f:Nat}{x:List UInt8}{a k e o:Nat}(h:x.drop (jO false x)≠ [])(ho:one (x.drop (jO false x))= .error (e,o)):ZY (f+1) x a k= .error (e,a+jO false x+o):=by
 simp only[ZY,if_neg h,ho]
theorem JD{f:Nat}{x:List UInt8}{a:Nat}{t:Tk}{n:Nat}(h:x.drop (jO false x)≠ [])(ho:one (x.drop (jO false x))= .ok (t,n)):ZY (f+1) x a 500= .error (103,a+jO false x):=by
 simp only[ZY,if_neg h,ho,if_pos]
theorem JI{f:Nat}{x:List UInt8}{a k:Nat}{t:Tk}{n:Nat}(h:x.drop (jO false x)≠ [])(ho:one (x.drop (jO false x))= .ok (t,n))(hk:k≠500):
 ZY (f+1) x a k=Zf [(t,a+jO false x)] (ZY f (x.drop (jO false x+n)) (a+jO false x+n) (k+1)):=by
 simp only[ZY,if_neg h,ho,if_neg hk,List.drop_drop];cases ZY f (x.drop (jO false x+n)) (a+jO false x+n) (k+1)<;>rfl
end
section
structure XG (t:Tk):Prop where
 le:t.kind≤3
 word:t.kind=0→(∃c r,t.s=c::r∧qx c=true)∧(∀c ∈ t.s,qK c=true)∧t.s.length≤16
 num:t.kind=1→t.s= []∧t.n<1000000000
 hex:t.kind=2→t.s≠ []∧(∀c ∈ t.s,zG c=true)∧t.s.length≤128
 sign:t.kind=3→∃c,t.s= [c]∧JV c=true∧qx c=false∧zz c=false∧c≠36
 zero:t.kind≠1→t.n=0
theorem dt(p:UInt8→Bool)(x:List UInt8):x.take (zS p x)=x.takeWhile p:=by
 unfold zS;exact(List.prefix_iff_eq_take.1 (List.takeWhile_prefix p)).symm
theorem Js{p:UInt8→Bool}{x:List UInt8}:∀c ∈ x.take (zS p x),p c=true:=by
 rw[dt];intro c hc;exact List.all_eq_true.1 List.all_takeWhile c hc
theorem Yh(x:List UInt8)(c:UInt8):val (x++ [c])=10*val x+(c.toNat-48):=by simp[val,List.foldl_append]
theorem JF(x:List UInt8)(h:∀c ∈ x,zz c=true):val x<10 ^ x.length:=by
 induction hn:x.length generalizing x with
 |zero=>rw[List.length_eq_zero_iff.1 hn];decide
 |succ n ih =>
  have hx:x≠ []:=by intro e;subst e;simp at hn
  have e:=List.dropLast_concat_getLast hx;have h1:=ih x.dropLast (λc hc=>h c (List.dropLast_subset x hc)) (by simp[hn]);have h2:=h (x.getLast hx) (List.getLast_mem hx);rw[←e,Yh];simp[zz]at h2;rw[Nat.pow_succ];omega
theorem fH{x:List UInt8}{t:Tk}{n:Nat}(h:one x= .ok (t,n)):XG t:=by
 cases x with
 |nil=>simp[one]at h
 |cons c r =>
  simp only[one]at h
  split at h
  ·rename_i hc
   split at h
   ·cases h
   ·rename_i hl
    cases h;have hw:qK c=true:=by simp[qK,xj,hc]
    refine⟨(by show(0:Nat)≤3;decide),λ_=>⟨⟨c,r.take (zS qK r),?_,hc⟩,Js,?_⟩,λe=>(by cases e),λe=>(by cases e),λe=>(by cases e),λ_=>rfl⟩
    ·show(c::r).take (zS qK (c::r))=_
     rw[vj,if_pos hw,List.take_succ_cons]
    ·show((c::r).take (zS qK (c::r))).length≤16
     rw[List.length_take];omega
  ·split at h
   ·rename_i hc
    split at h
    ·cases h
    ·rename_i hl
     split at h
     ·cases h
     ·cases h
      refine⟨(by show(1:Nat)≤3;decide),λe=>(by cases e),λ_=>⟨rfl,?_⟩,λe=>(by cases e),λe=>(by cases e),λe=>absurd rfl e⟩;have hb:=JF ((c::r).take (zS zz (c::r))) Js;rw[List.length_take,Nat.min_eq_left (v8 zz (c::r))]at hb;have h9:10 ^ zS zz (c::r)≤10 ^ 9:=Nat.pow_le_pow_right (by decide) (by omega);exact Nat.lt_of_lt_of_le hb h9
   ·split at h
    ·split at h
     ·cases h
     ·rename_i h0
      split at h
      ·cases h
      ·rename_i hl
       split at h
       ·cases h
       ·cases h
        refine⟨(by show(2:Nat)≤3;decide),λe=>(by cases e),λe=>(by cases e),λ_=>⟨?_,Js,?_⟩,λe=>(by cases e),λ_=>rfl⟩
        ·intro e
         have:=congrArg List.length e;have hle:=v8 zG r;simp at this;rcases this with h|h
         ·exact h0 h
         ·rw[h]at h0;exact h0 rfl
        ·show(r.take (zS zG r)).length≤128
         rw[List.length_take];omega
    ·split at h
     ·rename_i h1 h2 h3 h4
      cases h;refine⟨(by show(3:Nat)≤3;decide),λe=>(by cases e),λe=>(by cases e),λe=>(by cases e),λ_=>⟨c,rfl,h4,by simpa using h1,by simpa using h2,by simpa using h3⟩,λ_=>rfl⟩
     ·cases h
def dgF:Nat→Nat→List UInt8
 |0,n=> [UInt8.ofNat (48+n)]
 |f+1,n=>if n<10 then[UInt8.ofNat (48+n)]else dgF f (n / 10)++ [UInt8.ofNat (48+n % 10)]
def dg(n:Nat):List UInt8:=dgF n n
theorem U6(f:Nat):∀(x:List UInt8) (a k:Nat) (ts:zL),ZY f x a k= .ok ts→k≤500→(∀t ∈ ts,XG t.1)∧k+ts.length≤500:=by
 induction f with
 |zero=>intro x a k ts h hk;cases h;exact⟨by simp,by simpa using hk⟩
 |succ f ih =>
  intro x a k ts h hk;by_cases hne:x.drop (jO false x)= []
  ·rw[Yq hne]at h;cases h;exact⟨by simp,by simpa using hk⟩
  ·cases hr:one (x.drop (jO false x))with
   |error e=>obtain⟨e,o⟩:=e;rw[Ju hne hr]at h;cases h
   |ok r =>
    obtain⟨t,n⟩:=r;by_cases h5:k=500
    ·subst h5;rw[JD hne hr]at h;cases h
    ·rw[JI hne hr h5]at h
     cases hs:ZY f (x.drop (jO false x+n)) (a+jO false x+n) (k+1)with
     |error e=>rw[hs]at h;cases h
     |ok us =>
      rw[hs]at h;cases h;obtain⟨g1,g2⟩:=ih _ _ _ _ hs (by omega);refine⟨?_,by simp only[List.cons_append,List.nil_append,List.length_cons];omega⟩;intro u hu;rcases List.mem_cons.1 hu with rfl|hu
      ·exact fH hr
      ·exact g1 u hu
end
section
theorem yy{l:List UInt8}{ts:zL}(h:vL l= .ok ts):ts.length≤500∧∀t ∈ ts,XG t.1:=by
 unfold vL at h
 split at h
 ·cases h
 ·have:=U6 _ _ _ _ _ h (by omega)
  exact⟨by omega,this.1⟩
def zdx(x:List UInt8):List UInt8:=47::47::(x++ [10])
end
section
def RW:List (List UInt8):= [[100,101,118,105,99,101],[106,111,117,114,110,97,108],[107,101,121],[114,111,111,116],[118,111,108,117,109,101],[101,120,112,111,114,116],[114,101,97,100,111,110,108,121],[108,105,110,101,97,114],[99,111,110,99,97,116],[109,105,114,114,111,114],[115,110,97,112,115,104,111,116],[99,114,121,112,116],[105,110,116,101,103,114,105,116,121],[118,101,114,105,116,121]]
def Zt(x:List UInt8):Bool:=(x== [100,101,118,105,99,101])||(x== [106,111,117,114,110,97,108])||(x== [107,101,121])||(x== [114,111,111,116])||(x== [118,111,108,117,109,101])||(x== [101,120,112,111,114,116])||(x== [114,101,97,100,111,110,108,121])||(x== [108,105,110,101,97,114])||(x== [99,111,110,99,97,116])||(x== [109,105,114,114,111,114])||(x== [115,110,97,112,115,104,111,116])||(x== [99,114,121,112,116])||(x== [105,110,116,101,103,114,105,116,121])||(x== [118,101,114,105,116,121])
end
section
inductive Nd where
 |mk (op s:List UInt8) (n:Int) (a:Int) (l:List Nd):Nd
def Nd.op:Nd→List UInt8| .mk o _ _ _ _=>o
def Nd.s:Nd→List UInt8| .mk _ s _ _ _=>s
def Nd.n:Nd→Int| .mk _ _ n _ _=>n
def Nd.a:Nd→Int| .mk _ _ _ a _=>a
def Nd.l:Nd→List Nd| .mk _ _ _ _ l=>l
def y8:List UInt8:= [102,105,108,101]
def vK:List UInt8:= [117,115,101]
def vu:List UInt8:= [110,117,109]
def jM:List UInt8:= [110,97,109,101]
def QZ:List UInt8:= [104,101,120]
def zcJ:List UInt8:= [101,120,112,114]
def zn:List UInt8:= [100,101,118,105,99,101]
def zq:List UInt8:= [106,111,117,114,110,97,108]
def zM:List UInt8:= [107,101,121]
def zN:List UInt8:= [114,111,111,116]
def zB:List UInt8:= [118,111,108,117,109,101]
def qj:List UInt8:= [101,120,112,111,114,116]
def xw:List UInt8:= [114,101,97,100,111,110,108,121]
def qX:List UInt8:= [108,105,110,101,97,114]
def qQ:List UInt8:= [99,111,110,99,97,116]
def je:List UInt8:= [109,105,114,114,111,114]
def qv:List UInt8:= [115,110,97,112,115,104,111,116]
def jl:List UInt8:= [99,114,121,112,116]
def qb:List UInt8:= [105,110,116,101,103,114,105,116,121]
def jf:List UInt8:= [118,101,114,105,116,121]
inductive Kd where
 |ex|nu|na
def Kd.w:Kd→List UInt8
 | .ex=>zcJ
 | .nu=>vu
 | .na=>jM
def qn(op:List UInt8):List Kd×Bool:=
 if op=qX then([.ex,.nu,.nu],false)
 else if op=qQ∨op=je then([.ex],true)
 else if op=qv then([.ex,.ex,.nu],false)
 else if op=jl∨op=qb∨op=jf then([.ex,.na],false)
 else([],false)
def yp(t:Tk):Bool:=t.kind==0&& !Zt t.s
def xE(x:List UInt8)(t:Tk):Bool:=t.kind==3&&t.s==x
def ZA(k:Nat)(t:Tk):Bool:=t.kind==k
def ZH(l:List (List UInt8))(t:Tk):Bool:=t.kind==0&&l.any (λy=>t.s==y)
def QP(t:Tk):Bool:=yp t||(t.kind==0&&decide (0<(qn t.s).1.length))
def place(en:Nat):zL→Nat
 | []=>en
 |t::_=>t.2
abbrev PR(α:Type):=Except (Nat×Nat) (α×zL)
abbrev yj(α:Type):=Nat→zL→PR α
def vD{α:Type}(x:α):yj α:=λ_ ts=> .ok (x,ts)
def zU{α β:Type}(p:yj α)(f:α→yj β):yj β:=λen ts=>match p en ts with
 | .error e=> .error e
 | .ok (x,r)=>f x en r
def qi(p:Tk→Bool):yj (Tk×Nat):=λen ts=>match ts with
 | []=> .error (111,en)
 |t::r=>if p t.1 then .ok (t,r)else .error (111,t.2)
def vf(p:Tk→Bool)(ts:zL):Bool:=match ts with
 | []=>false
 |t::_=>p t.1
def Xy{α:Type}(p:Tk→Bool)(x y:yj α):yj α:=λen ts=>if vf p ts then x en ts else y en ts
def ZV(pe:yj Nd):Kd→yj Nd
 | .nu=>zU (qi (ZA 1)) λt=>vD (.mk vu [] t.1.n t.2 [])
 | .na=>zU (qi yp) λt=>vD (.mk jM t.1.s 0 t.2 [])
 | .ex=>pe
def gx:Tk→Bool:=xE [44]
def xx(pe:yj Nd):Bool→List Kd→yj (List Nd)
 |_,[]=>vD []
 |true,k::ks=>zU (ZV pe k) λn=>zU (xx pe false ks) λl=>vD (n::l)
 |false,k::ks=>zU (qi gx) λ_=>zU (ZV pe k) λn=>zU (xx pe false ks) λl=>vD (n::l)
def ZU(pe:yj Nd):Nat→yj (List Nd)
 |0=>vD []
 |f+1=>Xy gx (zU (qi gx) λ_=>zU pe λn=>zU (ZU pe f) λl=>vD (n::l)) (vD [])
def Q8(pe:yj Nd)(op:List UInt8):yj (List Nd):=
 zU (qi (xE [40])) λ_=>zU (xx pe true (qn op).1) λl =>
  zU (if(qn op).2 then ZU pe 501 else vD []) λm=>zU (qi (xE [41])) λ_=>vD (l++m)
def qA:Nat→yj Nd
 |0=>λen ts=> .error (112,place en ts)
 |d+1=>zU (qi QP) λt=>if yp t.1 then vD (.mk vK t.1.s 0 t.2 [])else zU (Q8 (qA d) t.1.s) λl=>vD (.mk t.1.s [] 0 t.2 l)
def xF:List (List UInt8):= [zn,zq,zM,zN,zB,qj]
def xi(op:List UInt8):yj (Int×List Nd):=
 if op=zn∨op=zq then zU (qi (ZA 1)) λt=>vD (t.1.n,[])
 else if op=zM∨op=zN then zU (qi (ZA 2)) λt=>vD (0,[.mk QZ t.1.s 0 t.2 []])
 else if op=zB then zU (qi (xE [61])) λ_=>zU (qA 12) λn=>vD (0,[n])
 else Xy (ZH [xw]) (zU (qi (ZH [xw])) λ_=>vD (1,[])) (vD (0,[]))
def jC:yj Nd:=zU (qi (ZH xF)) λt=>zU (qi yp) λu=>zU (xi t.1.s) λr=>zU (qi (xE [59])) λ_=>vD (.mk t.1.s u.1.s r.1 t.2 r.2)
def vS:Nat→yj (List Nd)
 |0=>vD []
 |f+1=>λen ts=>match ts with
  | []=> .ok ([],[])
  |t::r=>(zU jC λn=>zU (vS f) λl=>vD (n::l)) en (t::r)
def xh(x:List UInt8):Except (Nat×Nat) Nd:=match vL x with
 | .error e=> .error e
 | .ok ts=>match vS 501 x.length ts with
   | .error e=> .error e
   | .ok (l,_)=> .ok (.mk y8 [] 0 0 l)
def zQ{α:Type}(P:yj α):Prop:=∀en ts,
 (∀x r,P en ts= .ok (x,r)→∃q,ts=q++r∧∀en' r',r'.head?=r.head?→P en' (q++r')= .ok (x,r')) ∧
 (∀c k,P en ts= .error (c,k)→∃q r,ts=q++r∧k=place en r∧∀en' r',r'.head?=r.head?→P en' (q++r')= .error (c,place en' r'))
theorem VK{q r r':zL}(h:r'.head?=r.head?):(q++r').head?=(q++r).head?:=by cases q<;>simp[h]
theorem zQ.ret{α:Type}(x:α):zQ (vD x):=by
 intro en ts;refine⟨λy r h=>?_,λc k h=>(by cases h)⟩;cases h;exact⟨[],rfl,λen' r' _=>rfl⟩
theorem zQ.bind{α β:Type}{P:yj α}{f:α→yj β}(hP:zQ P)(hf:∀x,zQ (f x)):zQ (zU P f):=by
 intro en ts;constructor
 ·intro y r h
  unfold zU at h;cases hp:P en ts with
  |error e=>rw[hp]at h;cases h
  |ok xr =>
   obtain⟨x,s⟩:=xr;rw[hp]at h;obtain⟨q1,e1,h1⟩:=(hP en ts).1 x s hp;obtain⟨q2,e2,h2⟩:=(hf x en s).1 y r h;refine⟨q1++q2,by rw[e1,e2,List.append_assoc],λen' r' hr=>?_⟩;unfold zU;rw[List.append_assoc,h1 en' (q2++r') (by rw[e2];exact VK hr)];exact h2 en' r' hr
 ·intro c k h
  unfold zU at h;cases hp:P en ts with
  |error e =>
   rw[hp]at h;cases h;obtain⟨q,r,e1,e2,h1⟩:=(hP en ts).2 c k hp;refine⟨q,r,e1,e2,λen' r' hr=>?_⟩;unfold zU;rw[h1 en' r' hr]
  |ok xr =>
   obtain⟨x,s⟩:=xr;rw[hp]at h;obtain⟨q1,e1,h1⟩:=(hP en ts).1 x s hp;obtain⟨q2,r,e2,e3,h2⟩:=(hf x en s).2 c k h;refine⟨q1++q2,r,by rw[e1,e2,List.append_assoc],e3,λen' r' hr=>?_⟩;unfold zU;rw[List.append_assoc,h1 en' (q2++r') (by rw[e2];exact VK hr)];exact h2 en' r' hr
theorem zQ.take(p:Tk→Bool):zQ (qi p):=by
 intro en ts;cases ts with
 |nil =>
  refine⟨λx r h=>(by cases h),λc k h=>?_⟩;cases h;refine⟨[],[],rfl,rfl,λen' r' hr=>?_⟩;cases r' with
  |nil=>rfl
  |cons a b=>cases hr
 |cons t ts =>
  constructor
  ·intro x r h
   simp only[qi]at h
   split at h
   ·rename_i hp
    cases h;refine⟨[t],rfl,λen' r' hr=>?_⟩;show(if p t.1 then _ else _)=_;rw[if_pos hp];rfl
   ·cases h
  ·intro c k h
   simp only[qi]at h
   split at h
   ·cases h
   ·rename_i hp
    cases h;refine⟨[],t::ts,rfl,rfl,λen' r' hr=>?_⟩;cases r' with
    |nil=>cases hr
    |cons a b =>
     simp only[List.head?_cons,Option.some.injEq]at hr;subst hr;show(if p a.1 then _ else _)=_;rw[if_neg hp];rfl
theorem Gw(p:Tk→Bool){r r':zL}(h:r'.head?=r.head?):vf p r'=vf p r:=by
 cases r<;>cases r'<;>simp_all [vf]
theorem zQ.fork{α:Type}(p:Tk→Bool){P Q:yj α}(hP:zQ P)(hQ:zQ Q):zQ (Xy p P Q):=by
 intro en ts;have key:∀(q r r':zL),r'.head?=r.head?→vf p (q++r')=vf p (q++r):=λq r r' h=>Gw p (VK h)
 unfold Xy;by_cases h0:vf p ts=true
 ·rw[if_pos h0]
  constructor
  ·intro x r h
   obtain⟨q,e,hq⟩:=(hP en ts).1 x r h;refine⟨q,e,λen' r' hr=>?_⟩;rw[if_pos (by rw[key q r r' hr,←e];exact h0)];exact hq en' r' hr
  ·intro c k h
   obtain⟨q,r,e,ek,hq⟩:=(hP en ts).2 c k h;refine⟨q,r,e,ek,λen' r' hr=>?_⟩;rw[if_pos (by rw[key q r r' hr,←e];exact h0)];exact hq en' r' hr
 ·rw[if_neg h0]
  constructor
  ·intro x r h
   obtain⟨q,e,hq⟩:=(hQ en ts).1 x r h;refine⟨q,e,λen' r' hr=>?_⟩;rw[if_neg (by rw[key q r r' hr,←e];exact h0)];exact hq en' r' hr
  ·intro c k h
   obtain⟨q,r,e,ek,hq⟩:=(hQ en ts).2 c k h;refine⟨q,r,e,ek,λen' r' hr=>?_⟩;rw[if_neg (by rw[key q r r' hr,←e];exact h0)];exact hq en' r' hr
theorem zQ.ite{α:Type}{P Q:yj α}(c:Prop)[Decidable c](hP:zQ P)(hQ:zQ Q):zQ (if c then P else Q):=by
 split
 ·exact hP
 ·exact hQ
theorem Vb{pe:yj Nd}(h:zQ pe)(k:Kd):zQ (ZV pe k):=by
 cases k
 ·exact h
 ·exact(zQ.take _).bind λ_=>zQ.ret _
 ·exact(zQ.take _).bind λ_=>zQ.ret _
theorem XF{pe:yj Nd}(h:zQ pe)(ks:List Kd):∀b,zQ (xx pe b ks):=by
 induction ks with
 |nil=>intro b;cases b<;>exact zQ.ret _
 |cons k ks ih =>
  intro b;cases b
  ·exact(zQ.take _).bind λ_=>(Vb h k).bind λ_=>(ih false).bind λ_=>zQ.ret _
  ·exact(Vb h k).bind λ_=>(ih false).bind λ_=>zQ.ret _
theorem kO{pe:yj Nd}(h:zQ pe)(f:Nat):zQ (ZU pe f):=by
 induction f with
 |zero=>exact zQ.ret _
 |succ f ih=>exact zQ.fork _ ((zQ.take _).bind λ_=>h.bind λ_=>ih.bind λ_=>zQ.ret _) (zQ.ret _)
theorem XI{pe:yj Nd}(h:zQ pe)(op:List UInt8):zQ (Q8 pe op):=
 (zQ.take _).bind λ_=>(XF h _ _).bind λ_=>(zQ.ite _ (kO h _) (zQ.ret _)).bind λ_=>(zQ.take _).bind λ_=>zQ.ret _
theorem kW(d:Nat):zQ (qA d):=by
 induction d with
 |zero =>
  intro en ts;refine⟨λx r h=>(by cases h),λc k h=>?_⟩;cases h;exact⟨[],ts,rfl,rfl,λen' r' hr=>rfl⟩
 |succ d ih=>exact(zQ.take _).bind λ_=>zQ.ite _ (zQ.ret _) ((XI ih _).bind λ_=>zQ.ret _)
theorem J0(op:List UInt8):zQ (xi op):=by
 unfold xi
 exact zQ.ite _ ((zQ.take _).bind λ_=>zQ.ret _) (zQ.ite _ ((zQ.take _).bind λ_=>zQ.ret _)
  (zQ.ite _ ((zQ.take _).bind λ_=>(kW 12).bind λ_=>zQ.ret _) (zQ.fork _ ((zQ.take _).bind λ_=>zQ.ret _) (zQ.ret _))))
end
section
open Go.ChangeShapes Go.WideShapes Go.ChangeAt Go.RowKit
def jT(k:IntKind)(n:Nat)(f:Nat→Nat):Array Value:=((List.range n).map λj=>Value.int k (f j:Nat)).toArray
theorem J5(k:IntKind)(n:Nat)(f:Nat→Nat):(jT k n f).size=n:=by simp[jT]
theorem ZI(k:IntKind)(n:Nat)(f:Nat→Nat)(j:Nat)(h:j<n):(jT k n f)[j]?=some (.int k (f j:Nat)):=by
 simp[jT,h]
def upd(f:Nat→Nat)(j v:Nat):Nat→Nat:=λi=>if i=j then v else f i
theorem GA(k:IntKind)(n:Nat)(f:Nat→Nat)(j v:Nat):(jT k n f).setIfInBounds j (.int k (v:Nat))=jT k n (upd f j v):=by
 apply Array.ext_getElem?;intro i;rw[Array.getElem?_setIfInBounds];simp only[J5];by_cases hi:i<n
 ·rw[ZI _ _ _ _ hi,ZI _ _ _ _ hi]
  by_cases e:j=i
  ·subst e;simp[upd,hi]
  ·have :¬i=j:=λh=>e h.symm
   simp[upd,e,this]
 ·have e1:(jT k n f)[i]?=none:=by simp[jT];omega
  have e2:(jT k n (upd f j v))[i]?=none:=by simp[jT];omega
  rw[e1,e2]
  split
  ·subst_vars;simp[hi]
  ·rfl
theorem X8(k:IntKind)(n:Nat)(f g:Nat→Nat)(h:∀j,j<n→f j=g j):jT k n f=jT k n g:=by
 unfold jT
 congr 1
 apply List.map_congr_left;intro j hj;rw[h j (by simpa using hj)]
def zm(w:World)(g t:Nat)(cs:Array Value):Prop:=w.heap[g]?=some (.cells cs t (0,0))
theorem zm.lt{w:World}{g t:Nat}{cs:Array Value}(h:zm w g t cs):g<w.heap.size:=(Array.getElem?_eq_some_iff.1 h).1
theorem zm.cell{w:World}{g t:Nat}{cs:Array Value}(h:zm w g t cs)(j:Nat):w.cell? ⟨g,j,none⟩=cs[j]?:=cell_of_row w g j cs t (0,0) h
theorem zm.num{w:World}{g t n:Nat}{k:IntKind}{f:Nat→Nat}(h:zm w g t (jT k n f))(j:Nat)(hj:j<n):w.cell? ⟨g,j,none⟩=some (.int k (f j:Nat)):=by
 rw[h.cell,ZI _ _ _ _ hj]
theorem zm.free{w:World}{g t:Nat}{cs:Array Value}(h:zm w g t cs)(j:Nat):w.frozen? ⟨g,j,none⟩=false:=by
 have h':w.heap[g]?=some (.cells cs t (0,0)):=h;simp[World.frozen?,h']
theorem zm.below{w w':World}{B g t:Nat}{cs:Array Value}(h:zm w g t cs)(hb:Below B w w')(hg:g<B):zm w' g t cs:=(hb.block g hg).trans h
theorem zm.drewN{w:World}{g t:Nat}{cs:Array Value}(h:zm w g t cs)(m:Nat):zm (w.drewN m) g t cs:=h
theorem zm.alloc{w:World}{g t:Nat}{cs:Array Value}(h:zm w g t cs)(o:Obj):zm (w.alloc o) g t cs:=(Below.heap_alloc w o g h.lt).trans h
theorem zm.new(w:World)(t:Nat)(cs:Array Value):zm (w.alloc (.cells cs t)) w.heap.size t cs:=heap_alloc_new w _
theorem zm.new_at{w:World}{g t:Nat}{cs:Array Value}(h:g=w.heap.size):zm (w.alloc (.cells cs t)) g t cs:=h ▸ heap_alloc_new w _
theorem zm.other{w:World}{g t:Nat}{cs:Array Value}(h:zm w g t cs){p:Addr}(hp:g≠p.block)(u:Value):zm (w.setCell p u) g t cs:=(Below.heap_setCell w p u g hp).trans h
theorem zm.set{w:World}{g t n:Nat}{k:IntKind}{f:Nat→Nat}(h:zm w g t (jT k n f))(j v:Nat):zm (w.setCell ⟨g,j,none⟩ (.int k (v:Nat))) g t (jT k n (upd f j v)):=by
 have h':w.heap[g]?=some (.cells (jT k n f) t (0,0)):=h;show(w.setCell ⟨g,j,none⟩ _).heap[g]?=_;simp only[World.setCell,Array.getElem?_modify,h',if_pos,Option.map_some];rw[GA];rfl
theorem zm.setRow{w:World}{g t:Nat}{cs:Array Value}(h:zm w g t cs)(cs':Array Value):zm (w.setRow g cs') g t cs':=setRow_heap w g cs cs' t (0,0) h
theorem jd{B:Nat}{a w:World}(h:Below B a w){g:Nat}(hg:B≤g)(cs:Array Value):Below B a (w.setRow g cs):=
 h.trans ⟨rfl,rfl,rfl,by simp[World.setRow],λk hk=>by simp only[World.setRow,Array.getElem?_modify];rw[if_neg (by omega)]⟩
theorem zm.setRow_other{w:World}{g g' t:Nat}{cs:Array Value}(h:zm w g t cs)(hne:g≠g')(cs':Array Value):zm (w.setRow g' cs') g t cs:=by
 show(w.setRow g' cs').heap[g]?=_;simp only[World.setRow,Array.getElem?_modify];rw[if_neg (λe=>hne e.symm)];exact h
theorem zm.load{w:World}{g t n e:Nat}{cs:Array Value}(h:zm w g t cs)(ty:Nat)(hu:Tryz.prog.underlying ty=some (.array n e))(hi:(Tryz.prog.info? ty).map (·.size)=some cs.size):
 (Instr.loadAt ty (.pointer (some ⟨g,0,none⟩))).run Tryz.prog w= .ok (.agg cs) w:=by
 simp only[Instr.loadAt,Instr.sureAddr,Sem.run_bind,Sem.run_pure,Result.andThen];exact run_loadVar_row _ _ t ty cs (0,0) _ h hu rfl hi
theorem zm.store{w:World}{g t:Nat}{cs cs':Array Value}(h:zm w g t cs)(ty:Nat)(hi:(Tryz.prog.info? ty).map (·.size)=some cs'.size)(ho:cs.size=cs'.size)(h1:cs'.all (·.oneCell')=true):
 (Instr.storeAt ty (.pointer (some ⟨g,0,none⟩)) (.agg cs')).run Tryz.prog w= .ok () (w.setRow g cs'):=by
 simp only[Instr.storeAt,Instr.sureAddr,Sem.run_bind,Sem.run_pure,Result.andThen];exact run_storeVar_row w g t ty cs cs' h hi ho h1
def part(f:Nat→Nat)(k:Nat):Nat→Nat:=λj=>if j<k then f j else 0
theorem Tryz.info5:(Tryz.prog.info? 5).map (λi=>(i.zero,i.size,i.bytes))=some (some (.int .u8 0),1,1):=by kernel_rfl
def ZT(w:World)(a:Option Addr)(len:Nat)(m:Nat→Nat):Prop:=len=0∨∃b off,a=some ⟨b,off,none⟩∧b<w.heap.size∧∀j,j<len→w.cell? ⟨b,off+j,none⟩=some (.int .u8 (m j:Nat))
theorem ZT.below{w w':World}{a:Option Addr}{len B:Nat}{m:Nat→Nat}(h:ZT w a len m)(hb:Below B w w')(hB:w.heap.size≤B):ZT w' a len m:=by
 rcases h with h|⟨b,off,h1,h2,h3⟩
 ·exact .inl h
 ·exact .inr ⟨b,off,h1,Nat.lt_of_lt_of_le h2 hb.size,λj hj=>(hb.cell (show b<B by omega)).trans (h3 j hj)⟩
def bl(f:Nat→Nat)(n:Nat):List Value:=(List.range n).map λj=>Value.int .u8 (f j:Nat)
def cat(f:Nat→Nat)(n:Nat)(g:Nat→Nat):Nat→Nat:=λj=>if j<n then f j else g (j-n)
theorem Ki(w:World)(r:Option Nat):w.grownBy w r:=⟨rfl,rfl,rfl,Nat.le_refl _,λ_ _ _=>rfl⟩
theorem zm.bytes{w:World}{g t n:Nat}{f:Nat→Nat}(h:zm w g t (jT .u8 n f)):ZT w (some ⟨g,0,none⟩) n f:=
 .inr ⟨g,0,rfl,h.lt,λj hj=>by rw[Nat.zero_add];exact h.num j hj⟩
theorem ZT.setRow{w:World}{a:Option Addr}{len:Nat}{m:Nat→Nat}(h:ZT w a len m)(g:Nat)(cs:Array Value)(hne:∀b o,a=some ⟨b,o,none⟩→b≠g):ZT (w.setRow g cs) a len m:=by
 rcases h with h|⟨b,o,rfl,hlt,hc⟩
 ·exact .inl h
 ·have hb:=setRow_other w g b cs (hne b o rfl)
  have hlt':b<(w.setRow g cs).heap.size:=(Array.getElem?_eq_some_iff.1 (hb.trans (Array.getElem?_eq_getElem hlt))).1;exact .inr ⟨b,o,rfl,hlt',λj hj=>by rw[←hc j hj];simp only[World.cell?,hb]⟩
theorem ZT.part{w:World}{b o len:Nat}{m:Nat→Nat}(h:ZT w (some ⟨b,o,none⟩) len m)(s k:Nat)(hk:s+k≤len):ZT w (some ⟨b,o+s,none⟩) k (λj=>m (s+j)):=by
 rcases h with h|⟨b',o',e,hlt,hc⟩
 ·exact .inl (by omega)
 ·cases e
  exact .inr ⟨b,o+s,rfl,hlt,λj hj=>by rw[Nat.add_assoc];exact hc _ (by omega)⟩
theorem zd{ops:Array Oper}{rest:List Oper}{o:Oper}{a:Act}{w:World}{Q:Exit→Act→World→Prop}(d:Option Tmp)(v:Value)(hd:o.dst=d)(hw:Region.wanted o (yielded ops a.tmps)=true)
 (hrun:(execOp a.eval o).run Tryz.prog w= .ok (.value v) w) (h:wpList Tryz.prog ops Q rest (a.put d v) w):wpList Tryz.prog ops Q (o::rest) a w:=
 wpList_step λK hK=>by
  subst hd;rw[if_pos hw];unfold Oper.wp;rw[hrun];exact hK _ _ h
theorem jP{ops:Array Oper}{rest:List Oper}{o:Oper}{a:Act}{w:World}{Q:Exit→Act→World→Prop}(d:Option Tmp)(v:Value)(w':World)(hd:o.dst=d)(hw:Region.wanted o (yielded ops a.tmps)=true)
 (hrun:(execOp a.eval o).run Tryz.prog w= .ok (.value v) w') (h:wpList Tryz.prog ops Q rest (a.put d v) w'):wpList Tryz.prog ops Q (o::rest) a w:=
 wpList_step λK hK=>by
  subst hd;rw[if_pos hw];unfold Oper.wp;rw[hrun];exact hK _ _ h
theorem dr(n:Nat):(madeCells (Value.int .u8 0).cells (n*1)).toList=bl (λ_=>0) n:=by
 unfold bl madeCells;apply List.ext_getElem?;intro i;by_cases h:i<n
 ·simp[h,Value.cells,Nat.mod_one]
 ·simp[h,Value.cells]
theorem He{w:World}{base n g:Nat}{f:Nat→Nat}(h:w.ownsRow base 5 1 (.slice (some ⟨g,0,none⟩) n n) n (bl f n)):zm w g 5 (jT .u8 n f):=by
 rcases h.2 with⟨e,_⟩|⟨g',cap,cur,e,hb,hg,hn,hm,hs,ht⟩
 ·cases e
 ·injection e with e1 _ e3
  injection e1 with e1
  injection e1 with e1
  subst e1 e3
  have hc:cur=jT .u8 n f:=by
   apply Array.toList_inj.1;rw[←List.take_of_length_le (l:=cur.toList) (i:=n*1) (by rw[Array.length_toList,hs];exact Nat.le_refl _),ht];unfold bl jT;rfl
  show w.heap[g]?=_;rw[hg,hc]
theorem DD(n:Nat)(hn:n≤10000000)(w:World):∃w',zm w' w.heap.size 5 (jT .u8 n λ_=>0)∧Below w.heap.size w w' ∧
 ∀(o:Oper) (a:Act) (l c:Operand),o.op= .makeSlice 63 l c→a.eval l= .int .i64 (n:Nat)→a.eval c= .int .i64 (n:Nat)→(execOp a.eval o).run Tryz.prog w= .ok (.value (.slice (some ⟨w.heap.size,0,none⟩) n n)) w':=by
 obtain⟨i0,hi,hz0,hz1,hz2⟩:=info_parts Tryz.info5;obtain⟨w',hrun,r1,r2⟩:=run_make_full (P:=Tryz.prog) w w.heap.size 63 5 i0 (.int .u8 0) 1 Tryz.underlying63 hi hz0 hz1 .i64 .i64 n (by rw[hz2];omega) (by unfold maxLen;omega) (Nat.le_refl _);rw[dr]at r1;refine⟨w',He r1,(Below.refl _ _).grown r2 (Nat.le_refl _) (by intro k h;cases h),?_⟩;intro o a l c ho hl hc;unfold execOp;simp[ho,hl,hc,hrun,Result.andThen]
def over(F:Nat→Nat)(o n:Nat)(f:Nat→Nat):Nat→Nat:=λj=>if o≤j∧j<o+n then f (j-o)else F j
theorem zm.grown{w w':World}{g b t:Nat}{cs:Array Value}(h:zm w b t cs)(hg:w.grownBy w' (some g))(hne:b≠g):zm w' b t cs:=(hg.block b h.lt (λe=>hne (by cases e;rfl))).trans h
theorem ZT.range{w:World}{b o len:Nat}{m:Nat→Nat}(h:ZT w (some ⟨b,o,none⟩) len m)(s k:Nat)(hk:s+k≤len):w.rangeAt b (o+s) (jT .u8 k (λj=>m (s+j))).toList:=by
 intro j v hj
 have hjk:j<k:=by
  have:=(List.getElem?_eq_some_iff.1 hj).1
  rwa [Array.length_toList,J5]at this
 rw[Array.getElem?_toList,ZI _ _ _ _ hjk]at hj;cases hj;rcases h with h|⟨b',o',e,_,hc⟩
 ·omega
 ·cases e
  rw[Nat.add_assoc];exact hc (s+j) (by omega)
theorem zh {α : Type} (l : List α) (i : Nat) (v : α) : l.toArray.setIfInBounds i v = (l.set i v).toArray := by simp
theorem zf {α : Type} {a b : α} {l : List α} : (a :: l).set 0 b = b :: l := rfl
theorem zg {α : Type} {a b : α} {l : List α} {n : Nat} : (a :: l).set (n + 1) b = a :: l.set n b := rfl
theorem qH {α : Type} {l : List α} {i : Nat} : l.toArray[i]? = l[i]? := by simp
theorem qG {α : Type} {a : α} {l : List α} : (a :: l)[0]? = some a := rfl
theorem qI {α : Type} {a : α} {l : List α} {i : Nat} : (a :: l)[i + 1]? = l[i]? := rfl
end
section
open Go.ChangeShapes Go.WideShapes Go.ChangeAt Go.RowKit
section
variable {P:Program} {ops:Array Oper} {Q:Exit→Act→World→Prop} {md:Region.Mode} {S:World→Prop} {m:Nat}
theorem DM{oi:Oper}(i:Nat)(d:Option Tmp)(v:Value){fuel:Nat}{listed:Array Bool}{a:Act}{w:World}(hi:ops[i]?=some oi)(hd:oi.dst=d)
 (hs:Region.noSelect ops=true) (hf:Region.free md ops listed i=true) (hr:(Region.ready md ops listed).contains i=true)
 (hQ:∀c a w,Q (.panic c) (a.put d v) w→Q (.panic c) a w) (hw:Region.wanted oi (yielded ops a.tmps)=true) (hy:∀w,S w→(execOp a.eval oi).run P w= .ok (.value v) w) (hS:S w)
 (h:wpAnyH P md ops Q S fuel (listed.setIfInBounds i true) (a.put d v) w):wpAnyH P md ops Q S (fuel+1) listed a w:=by
 subst hd;exact wpAnyH_take hi hs hf hr hQ (.inl ⟨hw,hy⟩) hS h
theorem qY{oi:Oper}(i:Nat)(d:Option Tmp)(f:FuncId)(args:Array Value){fuel:Nat}{listed:Array Bool}{a:Act}{w:World}{Post:Ending→World→Prop}
 (hr:Region.ready md ops listed= [i]) (hi:ops[i]?=some oi) (hd:oi.dst=d) (hw:Region.wanted oi (yielded ops a.tmps)=true)
 (hrun:(execOp a.eval oi).run P w= .ok (.enter f args) w) (hc:Calls P f args w Post)
 (h:∀e w',Post e w'→∃v,e= .returned v∧S w'∧wpAnyH P md ops Q S fuel (listed.setIfInBounds i true) (a.put d v) w'):wpAnyH P md ops Q S (fuel+1) listed a w:=by
 subst hd;refine wpAnyH_ready hr (by simp) (AllReadyH.cons hi (λK hK=>?_) AllReadyH.nil);rw[if_pos hw];unfold Oper.wp;rw[hrun,Oper.upon_enter];refine hc.mono λe w' hh=>?_
 obtain⟨v,rfl,hS,hrest⟩:=h e w' hh;exact hK.out _ _ hS (λ_=>hrest)
def Ht(P:Program)(md:Region.Mode)(ops:Array Oper)(Q:Exit→Act→World→Prop)(S:World→Prop)(fuel:Nat)(listed:Array Bool)(a:Act)(w:World)(i:Nat):Prop:=
 wpOp P ops Q i (λa' w'=>S w'∧wpAnyH P md ops Q S fuel (listed.setIfInBounds i true) a' w') a w
theorem vz{fuel:Nat}{listed:Array Bool}{a:Act}{w:World}(i:Nat)(hr:Region.ready md ops listed= [i])(h:Ht P md ops Q S fuel listed a w i):wpAnyH P md ops Q S (fuel+1) listed a w:=
 wpAnyH_all hr (by simp) (λk hk=>by obtain rfl:k=i:=(by simpa using hk);exact h)
theorem QC{oi:Oper}{i:Nat}(d:Option Tmp)(v:Value)(w':World){fuel:Nat}{listed:Array Bool}{a:Act}{w:World}
 (hi:ops[i]?=some oi) (hd:oi.dst=d) (hw:Region.wanted oi (yielded ops a.tmps)=true)
 (hrun:(execOp a.eval oi).run P w= .ok (.value v) w')
 (h:S w'∧wpAnyH P md ops Q S fuel (listed.setIfInBounds i true) (a.put d v) w'):Ht P md ops Q S fuel listed a w i:=by
 subst hd;refine wpOp_step hi (λK hK=>?_);rw[if_pos hw];unfold Oper.wp;rw[hrun];exact hK _ _ h
theorem vg{oi:Oper}{i:Nat}(d:Option Tmp)(w':World){fuel:Nat}{listed:Array Bool}{a:Act}{w:World}
 (hi:ops[i]?=some oi) (hd:oi.dst=d) (hw:Region.wanted oi (yielded ops a.tmps)=true)
 (hrun:(execOp a.eval oi).run P w= .ok .skip w')
 (h:S w'∧wpAnyH P md ops Q S fuel (listed.setIfInBounds i true) (a.put d undef) w'):Ht P md ops Q S fuel listed a w i:=by
 subst hd;refine wpOp_step hi (λK hK=>?_);rw[if_pos hw];unfold Oper.wp;rw[hrun];exact hK _ _ h
def yl(P:Program)(md:Region.Mode)(ops:Array Oper)(Q:Exit→Act→World→Prop)(S:World→Prop)(m:Nat):Nat→Array Bool→Act→World→Prop
 |0,listed,a,w=>Region.ready md ops listed= []∧Q .normal a w
 |n+1,listed,a,w=>(Region.ready md ops listed= []→Q .normal a w)∧∀j ∈ Region.ready md ops listed,wpOp P ops Q j (λa' w'=>(j≠m→S w')∧yl P md ops Q S m n (listed.setIfInBounds j true) a' w') a w
theorem yl.any:∀(n:Nat) (listed:Array Bool) (a:Act) (w:World),yl P md ops Q S m n listed a w→wpAny P md ops Q n listed a w
 |0,_,_,_,h=>h
 |n+1,_,_,_,h=>⟨h.1,λj hj=>wpOp_mono (λa' w' h'=>yl.any n _ a' w' h'.2) (h.2 j hj)⟩
theorem jp{id:Nat}{a:Act}{w:World}(m:Nat)(hm:P.follows .mixedOrders=true)(hS:S w.drew)
 (h:S w.drew→yl P .any ops Q S m ops.size (Array.replicate ops.size false) a w.drew):(Code.region id ops true).wp P Q a w:=
 wp_region_any hm (yl.any _ _ _ _ (h hS))
def vR(md:Region.Mode)(ops:Array Oper)(m i:Nat):Bool:=(ops[m]?).any λo=>o.after.any λe=>Region.binds md e&&e.on==i
theorem zbu{i:Nat}{listed:Array Bool}(hw:vR md ops m i=true)(hr:i ∈ Region.ready md ops listed):m ∉ Region.ready md ops listed:=by
 intro hm;obtain⟨_,o,ho,hall⟩:=mem_ready.1 hm;obtain⟨hi0,_⟩:=mem_ready.1 hr;simp only[vR,ho,Option.any_some,Array.any_eq_true',Bool.and_eq_true,beq_iff_eq]at hw;obtain⟨e,he,hb,rfl⟩:=hw;have h1:=hall e he hb;by_cases hlt:e.on<listed.size
 ·simp[hlt]at hi0 h1
  rw[hi0]at h1;cases h1
 ·simp[Array.getElem?_eq_none (Nat.not_lt.1 hlt)]at h1
theorem yl.front{i:Nat}{oi:Oper}{v:Value}(hi:ops[i]?=some oi)(him:i≠m)(hw:vR md ops m i=true)(hsel:∀(j:Nat) (o:Oper) cs b,ops[j]?=some o→o.op≠ .select cs b)
 (hQ:∀c a w,Q (.panic c) (a.put oi.dst v) w→Q (.panic c) a w):∀(n:Nat) (listed:Array Bool) (a:Act) (w:World),
   (∀j oj,ops[j]?=some oj→j≠i→listed.getD j true=false→(∀e ∈ oj.after,Region.binds md e=true→e.on≠i)→oi.apart ops oj=true) →
   i ∈ Region.ready md ops listed→YieldsIf P ops S oi v a→S w→yl P md ops Q S m n (listed.setIfInBounds i true) (a.put oi.dst v) w→yl P md ops Q S m (n+1) listed a w
 |n,listed,a,w,hfree,hr,hy,hS,H=>by
  refine⟨λh=>absurd (h ▸ hr) (by simp),λj hj=>?_⟩;by_cases hji:j=i
  ·subst hji
   exact hy.wpOp hi hS ⟨λ_=>hS,H⟩
  have hjm:j≠m:=λe=>zbu hw hr (e ▸ hj)
  have hj':=ready_mono hj hji;cases n with
  |zero=>exact absurd (H.1 ▸ hj') (by simp)
  |succ n =>
   obtain⟨hjun,oj,hoj,hall⟩:=mem_ready.1 hj
   have hno:∀e ∈ oj.after,Region.binds md e=true→e.on≠i:=by
    intro e he hb heq;have h1:=hall e he hb;have h0:=(mem_ready.1 hr).1;subst heq;by_cases hlt:e.on<listed.size
    ·simp[hlt]at h0 h1
     rw[h0]at h1;cases h1
    ·simp[Array.getElem?_eq_none (Nat.not_lt.1 hlt)]at h1
   refine wpOp_mono ?_ (wpOp_putIf hoj (hfree j oj hoj hji hjun hno) (λcs b=>hsel i oi cs b hi) (λcs b=>hsel j oj cs b hoj) hQ hy (H.2 j hj'));rintro a' w' ⟨hy',hS',H'⟩;refine⟨hS',yl.front hi him hw hsel hQ n (listed.setIfInBounds j true) a' w' (λk ok hk hki hun hn=>hfree k ok hk hki ?_ hn) (ready_mono hr (Ne.symm hji)) hy' (hS' hjm) ?_⟩
   ·by_cases hjk:j=k
    ·subst hjk;exact hjun
    ·rwa [getD_set_ne true hjk]at hun
   ·rw[Array.setIfInBounds_comm _ _ hji]
    exact H'
theorem zbC{oi:Oper}(i:Nat)(d:Option Tmp)(v:Value){n:Nat}{listed:Array Bool}{a:Act}{w:World}(hi:ops[i]?=some oi)(hd:oi.dst=d)(him:i≠m)(hwf:vR md ops m i=true)
 (hs:Region.noSelect ops=true) (hf:Region.free md ops listed i=true) (hr:(Region.ready md ops listed).contains i=true)
 (hQ:∀c a w,Q (.panic c) (a.put d v) w→Q (.panic c) a w) (hw:Region.wanted oi (yielded ops a.tmps)=true) (hy:∀w,S w→(execOp a.eval oi).run P w= .ok (.value v) w) (hS:S w)
 (h:yl P md ops Q S m n (listed.setIfInBounds i true) (a.put d v) w):yl P md ops Q S m (n+1) listed a w:=by
 subst hd;exact yl.front hi him hwf (Region.noSelect_spec hs) hQ n listed a w (Region.free_spec hi hf) (by simpa using hr) (.inl ⟨hw,hy⟩) hS h
theorem qC{oi:Oper}(m:Nat)(d:Option Tmp)(w':World){n:Nat}{listed:Array Bool}{a:Act}{w:World}(hr:Region.ready md ops listed= [m])
 (hi:ops[m]?=some oi) (hd:oi.dst=d) (hw:Region.wanted oi (yielded ops a.tmps)=true)
 (hrun:(execOp a.eval oi).run P w= .ok .skip w') (he:Region.ready md ops (listed.setIfInBounds m true)= [])
 (h:Q .normal (a.put d undef) w'):yl P md ops Q S m (n+1) listed a w:=by
 subst hd;refine⟨λh0=>absurd (hr ▸ h0) (by simp),λj hj=>?_⟩;obtain rfl:j=m:=by rw[hr]at hj;simpa using hj
 refine wpOp_step hi (λK hK=>?_);rw[if_pos hw];unfold Oper.wp;rw[hrun];refine hK _ _ ⟨λh=>absurd rfl h,?_⟩;cases n with
 |zero=>exact⟨he,h⟩
 |succ n=>exact⟨λ_=>h,by rw[he];simp⟩
theorem zbI{oi:Oper}(i:Nat)(d:Option Tmp)(f:FuncId)(args:Array Value){n:Nat}{listed:Array Bool}{a:Act}{w:World}{Post:Ending→World→Prop}
 (hr:Region.ready md ops listed= [i]) (hi:ops[i]?=some oi) (hd:oi.dst=d) (hw:Region.wanted oi (yielded ops a.tmps)=true)
 (hrun:(execOp a.eval oi).run P w= .ok (.enter f args) w) (hc:Calls P f args w Post)
 (h:∀e w',Post e w'→∃v,e= .returned v∧S w'∧yl P md ops Q S m n (listed.setIfInBounds i true) (a.put d v) w'):yl P md ops Q S m (n+1) listed a w:=by
 subst hd;refine⟨λh0=>absurd (hr ▸ h0) (by simp),λj hj=>?_⟩;obtain rfl:j=i:=by rw[hr]at hj;simpa using hj
 refine wpOp_step hi (λK hK=>?_);rw[if_pos hw];unfold Oper.wp;rw[hrun,Oper.upon_enter];refine hc.mono λe w' hh=>?_
 obtain⟨v,rfl,hS,hrest⟩:=h e w' hh;exact hK _ _ ⟨λ_=>hS,hrest⟩
theorem zV{oi:Oper}(i:Nat)(d:Option Tmp)(v:Value)(w':World){n:Nat}{listed:Array Bool}{a:Act}{w:World}
 (hr:Region.ready md ops listed= [i]) (hi:ops[i]?=some oi) (hd:oi.dst=d) (hw:Region.wanted oi (yielded ops a.tmps)=true)
 (hrun:(execOp a.eval oi).run P w= .ok (.value v) w') (hS:S w')
 (h:yl P md ops Q S m n (listed.setIfInBounds i true) (a.put d v) w'):yl P md ops Q S m (n+1) listed a w:=by
 subst hd;refine⟨λh0=>absurd (hr ▸ h0) (by simp),λj hj=>?_⟩;obtain rfl:j=i:=by rw[hr]at hj;simpa using hj
 refine wpOp_step hi (λK hK=>?_);rw[if_pos hw];unfold Oper.wp;rw[hrun];exact hK _ _ ⟨λ_=>hS,h⟩
end
theorem qP{o:Oper}{a:Act}(ty:TypeId)(x y:Operand)(ho:o.op= .store ty x y)(g:Nat)(hx:a.eval x= .pointer (some ⟨g,0,none⟩))(X:Array Value)(hy:a.eval y= .agg X)(t:TypeId){cs:Array Value}
 (hi:(Tryz.prog.info? ty).map (·.size)=some X.size) (w:World) (h:zm w g t cs) (hs:cs.size=X.size) (h1:X.all (·.oneCell')=true):(execOp a.eval o).run Tryz.prog w= .ok .skip (w.setRow g X):=by
 unfold execOp;simp only[ho,hx,hy,Sem.run_bind,h.store ty hi hs h1];rfl
theorem qO{P:Program}{ops:Array Oper}{Q:Exit→Act→World→Prop}{md:Region.Mode}{S:World→Prop}{oi:Oper}(i:Nat)(d:Option Tmp){fuel:Nat}{listed:Array Bool}{a:Act}{w:World}(hi:ops[i]?=some oi)(hd:oi.dst=d)
 (hs:Region.noSelect ops=true) (hf:Region.free md ops listed i=true) (hr:(Region.ready md ops listed).contains i=true)
 (hQ:∀c a w,Q (.panic c) (a.put d undef) w→Q (.panic c) a w) (hw:Region.wanted oi (yielded ops a.tmps)=false) (hS:S w)
 (h:wpAnyH P md ops Q S fuel (listed.setIfInBounds i true) (a.put d undef) w):wpAnyH P md ops Q S (fuel+1) listed a w:=by
 subst hd;exact wpAnyH_take hi hs hf hr hQ (.inr ⟨hw,rfl⟩) hS h
theorem ZJ{o:Oper}{a:Act}(ty:TypeId)(x i:Operand)(ho:o.op= .indexAddr ty x i)(g off k n cap:Nat)(e:TypeId)(hx:a.eval x= .slice (some ⟨g,off,none⟩) n cap)(hi:a.eval i= .int .i64 (k:Nat))
 (hu:Tryz.prog.underlying ty=some (.slice e)) (hs:(Tryz.prog.info? e).map (·.size)=some 1) (hk:k<n) (w:World):(execOp a.eval o).run Tryz.prog w= .ok (.value (.pointer (some ⟨g,off+k,none⟩))) w:=by
 unfold execOp;cases hq:Tryz.prog.info? e with
 |none=>simp[hq]at hs
 |some inf =>
  have hz:inf.size=1:=by simpa [hq]using hs
  simp only[ho,hx,hi];simp[Instr.indexAt,Instr.sureAddr,run_underlying hu,asIntOf,sizeOf,typeInfo,hq,hz,Addr.add_mid,go_sem];intro h;omega
theorem yF{o:Oper}{a:Act}(ty e:TypeId)(hu:Tryz.prog.underlying ty=some (.slice e))(x:Operand)(ho:o.op= .call { callee:= .builtin .len,args:=#[x],argTypes:=#[ty] })(A:Option Addr)(L C:Nat)(hx:a.eval x= .slice A L C)(w:World):
 (execOp a.eval o).run Tryz.prog w= .ok (.value (.int .i64 (L:Nat))) w:=by
 have hr:(Builtin.len_ #[ty] o.type #[.slice A L C]).run Tryz.prog w= .ok (.int .i64 (L:Nat)) w:=by
  simp[Builtin.len_,run_underlying hu,go_sem,goInt]
 unfold execOp;simp[ho,resolve,invoke,builtin,hx,hr]
theorem Jl{o:Oper}{a:Act}(x y:Operand)(ho:o.op= .binOp .lss 3 x y 3)(p q:Nat)(hx:a.eval x= .int .i64 (p:Nat))(hy:a.eval y= .int .i64 (q:Nat))(c:Bool)(h:decide (p<q)=c)(w:World):(execOp a.eval o).run Tryz.prog w= .ok (.value (.bool c)) w:=by
 subst h;have e:decide ((p:Int)<(q:Int))=decide (p<q):=by simp
 unfold execOp;simp only[ho,hx,hy];go_simp
theorem zD {P : Program} {ops : Array Oper} {Q : Exit → Act → World → Prop} {md : Region.Mode} {S : World → Prop} {oi : Oper} (i : Nat) (d : Option Tmp) (v : Value) {fuel : Nat} {listed : Array Bool} {a : Act} {w : World} (hi : ops[i]? = some oi) (hd : oi.dst = d) (hy : ∀ w, S w → (execOp a.eval oi).run P w = .ok (.value v) w) (hS : S w) (h : wpAnyH P md ops Q S fuel (listed.setIfInBounds i true) (a.put d v) w) (hs : Region.noSelect ops = true := by kernel_rfl) (hf : Region.free md ops listed i = true := by kernel_rfl) (hr : (Region.ready md ops listed).contains i = true := by kernel_rfl) (hQ : ∀ c a w, Q (.panic c) (a.put d v) w → Q (.panic c) a w := by exact fun _ _ _ h => h) (hw : Region.wanted oi (yielded ops a.tmps) = true := by rfl) : wpAnyH P md ops Q S (fuel + 1) listed a w := DM i d v hi hd hs hf hr hQ hw hy hS h
theorem j3 {P : Program} {ops : Array Oper} {Q : Exit → Act → World → Prop} {md : Region.Mode} {S : World → Prop} {m : Nat} {oi : Oper} (i : Nat) (d : Option Tmp) (v : Value) {n : Nat} {listed : Array Bool} {a : Act} {w : World} (hi : ops[i]? = some oi) (hd : oi.dst = d) (hy : ∀ w, S w → (execOp a.eval oi).run P w = .ok (.value v) w) (hS : S w) (h : yl P md ops Q S m n (listed.setIfInBounds i true) (a.put d v) w) (him : i ≠ m := by decide) (hwf : vR md ops m i = true := by kernel_rfl) (hs : Region.noSelect ops = true := by kernel_rfl) (hf : Region.free md ops listed i = true := by kernel_rfl) (hr : (Region.ready md ops listed).contains i = true := by kernel_rfl) (hQ : ∀ c a w, Q (.panic c) (a.put d v) w → Q (.panic c) a w := by exact fun _ _ _ h => h) (hw : Region.wanted oi (yielded ops a.tmps) = true := by rfl) : yl P md ops Q S m (n + 1) listed a w := zbC i d v hi hd him hwf hs hf hr hQ hw hy hS h
theorem zw {P : Program} {ops : Array Oper} {Q : Exit → Act → World → Prop} {md : Region.Mode} {S : World → Prop} (i : Nat) (d : Option Tmp) (v : Value) {fuel : Nat} {listed : Array Bool} {a : Act} {w : World} (hS : S w) (h : wpAnyH P md ops Q S fuel (listed.setIfInBounds i true) (a.put d v) w) (hy : ∃ oi, ops[i]? = some oi ∧ oi.dst = d ∧ Region.wanted oi (yielded ops a.tmps) = true ∧ ∀ w, (execOp a.eval oi).run P w = .ok (.value v) w := by exact ⟨_, rfl, rfl, rfl, fun _ => rfl⟩) (hs : Region.noSelect ops = true := by kernel_rfl) (hf : Region.free md ops listed i = true := by kernel_rfl) (hr : (Region.ready md ops listed).contains i = true := by kernel_rfl) (hQ : ∀ c a w, Q (.panic c) (a.put d v) w → Q (.panic c) a w := by exact fun _ _ _ h => h) : wpAnyH P md ops Q S (fuel + 1) listed a w := by
  obtain ⟨oi, hi, hd, hw, hy⟩ := hy
  exact DM i d v hi hd hs hf hr hQ hw (fun w _ => hy w) hS h
theorem ja {P : Program} {ops : Array Oper} {Q : Exit → Act → World → Prop} {md : Region.Mode} {S : World → Prop} {m : Nat} (i : Nat) (d : Option Tmp) (v : Value) {n : Nat} {listed : Array Bool} {a : Act} {w : World} (hS : S w) (h : yl P md ops Q S m n (listed.setIfInBounds i true) (a.put d v) w) (hy : ∃ oi, ops[i]? = some oi ∧ oi.dst = d ∧ Region.wanted oi (yielded ops a.tmps) = true ∧ ∀ w, (execOp a.eval oi).run P w = .ok (.value v) w := by exact ⟨_, rfl, rfl, rfl, fun _ => rfl⟩) (him : i ≠ m := by decide) (hwf : vR md ops m i = true := by kernel_rfl) (hs : Region.noSelect ops = true := by kernel_rfl) (hf : Region.free md ops listed i = true := by kernel_rfl) (hr : (Region.ready md ops listed).contains i = true := by kernel_rfl) (hQ : ∀ c a w, Q (.panic c) (a.put d v) w → Q (.panic c) a w := by exact fun _ _ _ h => h) : yl P md ops Q S m (n + 1) listed a w := by
  obtain ⟨oi, hi, hd, hw, hy⟩ := hy
  exact zbC i d v hi hd him hwf hs hf hr hQ hw (fun w _ => hy w) hS h
end
section
section
open Go.ChangeShapes Go.WideShapes Go.ChangeAt Go.RowKit
end
section
open Go.ChangeShapes Go.WideShapes Go.ChangeAt Go.RowKit
def fP:Value→Nat
 | .slice _ l _=>l
 |_=>0
end
section
open Go.ChangeShapes Go.WideShapes Go.ChangeAt Go.RowKit
variable {P:Program} {ops:Array Oper} {Q:Exit→Act→World→Prop} {md:Region.Mode} {S:World→Prop}
end
section
open Go.ChangeShapes Go.WideShapes Go.ChangeAt Go.RowKit
end
section
open Go.RowKit
def lv(n:Nat):Nat→Nat
 |0=>n
 |k+1=>(lv n k+1) / 2
def Q1(n:Nat):Nat:=if n≤2 then 1 else Q1 ((n+1) / 2)+1
termination_by n
decreasing_by omega
theorem Jb{n:Nat}(h:n≤2):Q1 n=1:=by rw[Q1,if_pos h]
theorem Qa{n:Nat}(h:2<n):Q1 n=Q1 ((n+1) / 2)+1:=by rw[Q1,if_neg (by omega)]
theorem fN(n k:Nat):lv n (k+1)=lv ((n+1) / 2) k:=by
 induction k with
 |zero=>rfl
 |succ k ih=>rw[lv,ih,lv]
theorem gz(n:Nat):1≤Q1 n:=by
 by_cases h:n≤2
 ·rw[Jb h];omega
 ·rw[Qa (by omega)];omega
theorem Hd(n:Nat)(h:1≤n):lv n (Q1 n)=1:=by
 induction n using Nat.strongRecOn with
 |ind n ih =>
  by_cases h2:n≤2
  ·rw[Jb h2]
   show(n+1) / 2=1;omega
  ·rw[Qa (by omega),fN]
   exact ih _ (by omega) (by omega)
theorem dz(n k:Nat)(h1:1≤k)(hk:k<Q1 n):2≤lv n k:=by
 induction n using Nat.strongRecOn generalizing k with
 |ind n ih =>
  by_cases h2:n≤2
  ·rw[Jb h2]at hk
   omega
  ·rw[Qa (by omega)]at hk
   obtain⟨q,rfl⟩:∃q,k=q+1:=⟨k-1,by omega⟩
   rw[fN];by_cases hq:q=0
   ·subst hq
    show 2≤(n+1) / 2;omega
   ·exact ih _ (by omega) q (by omega) (by omega)
theorem uT(n k:Nat)(h:1≤n):1≤lv n k:=by
 induction k with
 |zero=>exact h
 |succ k ih=>show 1≤(lv n k+1) / 2;omega
theorem dM(n k:Nat)(h:1≤n):lv n k≤n:=by
 induction k with
 |zero=>exact Nat.le_refl _
 |succ k ih=>have:=uT n k h;show(lv n k+1) / 2≤n;omega
theorem zat(k n:Nat)(hk:1≤k)(h:n≤2 ^ k):Q1 n≤k:=by
 induction k generalizing n with
 |zero=>omega
 |succ k ih =>
  by_cases h2:n≤2
  ·rw[Jb h2];omega
  ·have hk1:1≤k:=by
    by_cases h0:k=0
    ·subst h0;simp at h;omega
    ·omega
   rw[Qa (by omega)]
   have :(n+1) / 2≤2 ^ k:=by
    have :2 ^ (k+1)=2*2 ^ k:=by rw[Nat.pow_succ];omega
    omega
   have:=ih _ hk1 this;omega
theorem Kz(n:Nat)(h:n≤2048):Q1 n≤11:=zat 11 n (by decide) h
def off(n:Nat):Nat→Nat
 |0=>0
 |k+1=>off n k+lv n (k+1)
theorem zb0(n k:Nat)(h:1≤n):off n k≤k*n:=by
 induction k with
 |zero=>simp[off]
 |succ k ih=>have:=dM n (k+1) h;simp only[off,Nat.succ_mul];omega
end
section
open Go.RowKit
def FJ(w:World)(a:Option Addr)(len:Nat)(f:Nat→Nat):Prop:=len=0∨∃b off,a=some ⟨b,off,none⟩∧b<w.heap.size∧∀j,j<len→w.cell? ⟨b,off+j,none⟩=some (.int .i64 (f j:Nat))
theorem FJ.below{w w':World}{a:Option Addr}{len B:Nat}{f:Nat→Nat}(h:FJ w a len f)(hb:Below B w w')(hB:w.heap.size≤B):FJ w' a len f:=by
 rcases h with h|⟨b,off,rfl,hlt,hc⟩
 ·exact .inl h
 ·exact .inr ⟨b,off,rfl,Nat.lt_of_lt_of_le hlt (Nat.le_trans (Nat.le_refl _) hb.size),λj hj=>(hb.cell (p:=⟨b,off+j,none⟩) (by show b<B;omega)).trans (hc j hj)⟩
def qo(n:Int):Prop:= -9223372036854775808≤n∧n≤9223372036854775807
def Zw(n:Int):Nat:=if 1≤n∧n≤2048 then Q1 n.toNat else 0
theorem Kl{n:Int}(h:1≤n∧n≤2048):Zw n=Q1 n.toNat:=if_pos h
theorem Yg{n:Int}(h:¬(1≤n∧n≤2048)):Zw n=0:=if_neg h
theorem Ko(n:Int):Zw n≤11:=by
 unfold Zw
 split
 ·exact Kz _ (by omega)
 ·omega
def UA(f:Nat):Prop:=∀(n:Int) (w:World),qo n→Calls Tryz.prog f #[.int .i64 n] w λe w' =>
 ∃a c,e= .returned (.slice a (Zw n) c)∧Zw n≤c∧(a=none→Zw n=0∧c=0)∧FJ w' a (Zw n) (λk=>lv n.toNat (k+1))∧Below w.heap.size w w'
end
section
open Go.ChangeShapes Go.WideShapes Go.ChangeAt Go.RowKit
theorem zaT(N k:Nat)(h1:1≤N)(h2:N≤2048)(hk:k≤11):off N k≤22528:=by
 have h:=zb0 N k h1;have :k*N≤11*2048:=Nat.mul_le_mul hk h2;omega
end
section
open Go.RowKit Go.Shelf
def KZ(o:Obj):Prop:=o.isCells=false∨∃cs fr,o= .cells cs 184 fr
def Zy{β:Type}(D:Nat)(I:β→World→Prop):Prop:=∀s A B row,I s A→A.grownBy B row→(∀r,row=some r→D≤r∧∃o:Obj,A.heap[r]?=some o∧KZ o)→I s B
theorem Zy.own{β:Type}{D:Nat}{I:β→World→Prop}(h:Zy D I):OwnFrom D I:=λs A B row hs hg hr=>h s A B row hs hg (λr e=>⟨(hr r e).1,(hr r e).2.choose,(hr r e).2.choose_spec.1,.inl (hr r e).2.choose_spec.2⟩)
theorem Zy.mono{β:Type}{D D':Nat}{I:β→World→Prop}(h:Zy D I)(hD:D≤D'):Zy D' I:=λs A B row hs hg hr=>h s A B row hs hg (λr e=>⟨Nat.le_trans hD (hr r e).1,(hr r e).2⟩)
theorem Zy.alloc{β:Type}{D:Nat}{I:β→World→Prop}(h:Zy D I){s:β}{W:World}(o:Obj)(hs:I s W):I s (W.alloc o):=h.own.alloc o hs
theorem YH(W:World)(b j:Nat)(v:Value):W.grownBy (W.setCell ⟨b,j,none⟩ v) (some b):=
 ⟨rfl,rfl,rfl,by simp[World.setCell],λk hk hne=>by simp only[World.setCell,Array.getElem?_modify];rw[if_neg (λe=>hne (by rw[←e]))]⟩
theorem Jg(W:World)(b:Nat)(cs:Array Value):W.grownBy (W.setRow b cs) (some b):=
 ⟨rfl,rfl,rfl,by simp[World.setRow],λk hk hne=>by simp only[World.setRow,Array.getElem?_modify];rw[if_neg (λe=>hne (by rw[←e]))]⟩
theorem Zy.setRow{β:Type}{D g:Nat}{I:β→World→Prop}(h:Zy D I){s:β}{W:World}{cs:Array Value}(hs:I s W)(hD:D≤g)(hg:zm W g 184 cs)(cs':Array Value):I s (W.setRow g cs'):=
 h s W _ (some g) hs (Jg W g cs') (λr e=>by cases e;exact⟨hD,_,hg,.inr ⟨_,_,rfl⟩⟩)
theorem Zy.below{β:Type}{D B:Nat}{w:World}(h:B≤w.heap.size)(hD:B≤D):Zy D (λ(_:β) W=>Below B w W):=λs A C row hs hg hr=>hs.trans ⟨hg.os,hg.tape,hg.output,hg.size,λk hk=>hg.block k (by have:=hs.size;omega) (λe=>by have:=(hr k e.symm).1;omega)⟩
theorem zm.firm{A B:World}{g t D:Nat}{cs:Array Value}{row:Option Nat}(ht:t≠184)(h:zm A g t cs)(hg:A.grownBy B row)(hr:∀r,row=some r→D≤r∧∃o:Obj,A.heap[r]?=some o∧KZ o):zm B g t cs:=by
 refine(hg.block g h.lt λe=>?_).trans h;obtain⟨_,o,ho,hc⟩:=hr g e.symm;have h':A.heap[g]?=some (.cells cs t (0,0)):=h;rw[h']at ho;cases ho;rcases hc with hc|⟨_,_,hc⟩
 ·cases hc
 ·injection hc with h1 h2
  exact ht h2
structure yT (V V':World):Prop where
 size:V.heap.size≤V'.heap.size
 same:∀(g:Nat) (o:Obj),V.heap[g]?=some o→KZ o→V'.heap[g]?=some o
theorem yT.refl(V:World):yT V V:=⟨Nat.le_refl _,λ_ _ h _=>h⟩
theorem yT.trans{X Y Z:World}(h:yT X Y)(k:yT Y Z):yT X Z:=⟨Nat.le_trans h.size k.size,λg o hg ho=>k.same g o (h.same g o hg ho) ho⟩
theorem yT.grown{V V':World}{row:Option Nat}(hg:V.grownBy V' row)(hr:∀r,row=some r→∃cs t fr,V.heap[r]?=some (.cells cs t fr)∧t≠184):yT V V':=⟨hg.size,λg o ho hl=>(hg.block g (Array.getElem?_eq_some_iff.1 ho).1 (λe=>by
 obtain⟨cs,t,fr,h,ht⟩:=hr g e.symm;rw[h]at ho;cases ho;rcases hl with hl|⟨_,_,hl⟩
 ·cases hl
 ·injection hl with h1 h2
  exact ht h2)).trans ho⟩
theorem yT.alloc(V:World)(o:Obj):yT V (V.alloc o):=yT.grown (World.grownBy_alloc V o none) (λr e=>by cases e)
theorem yT.below{B:Nat}{V V':World}(h:Below B V V')(hB:V.heap.size≤B):yT V V':=⟨h.size,λg o ho _=>(h.block g (by have:=(Array.getElem?_eq_some_iff.1 ho).1;omega)).trans ho⟩
theorem yT.setRow{V:World}{g t:Nat}{cs:Array Value}(h:zm V g t cs)(ht:t≠184)(cs':Array Value):yT V (V.setRow g cs'):=yT.grown (Jg V g cs') (λr e=>by cases e;exact⟨_,_,_,h,ht⟩)
theorem yT.setCell{V:World}{g t:Nat}{cs:Array Value}(h:zm V g t cs)(ht:t≠184)(j:Nat)(v:Value):yT V (V.setCell ⟨g,j,none⟩ v):=yT.grown (YH V g j v) (λr e=>by cases e;exact⟨_,_,_,h,ht⟩)
theorem yT.has{V V':World}{g:Nat}{cs:Array Value}(h:yT V V')(hg:zm V g 184 cs):zm V' g 184 cs:=h.same g _ hg (.inr ⟨_,_,rfl⟩)
def zcV{α:Type}(m gf:Nat)(lb:Array Value)(encs:α→Array Value)(xs:List α)(w:World):Prop:=
 ∀(l D:Nat) (J Jx:List α→World→Prop) (W:World),Below w.heap.size w W→D≤W.heap.size→Zy D J→Zy D Jx →
  (∀pre x V,pre++ [x] <+:xs→J pre V→YieldAt Fence.wide (m-1) Tryz.prog l (encs x) V λe V'=>(e= .returned (.bool true)∧J (pre++ [x]) V'∧∀g cs,zm V g 184 cs→zm V' g 184 cs)∨(e= .returned (.bool false)∧Jx (pre++ [x]) V'))→J [] W →
  CallsIn Fence.wide m Tryz.prog gf (#[.func (.yield l) #[] #[]]++lb) W λe W'=>(∃v,e= .returned v)∧(J xs W'∨∃pre,pre <+:xs∧Jx pre W')
def zbL{α:Type}(I:List α→World→Prop)(Ix:List α→World→Prop)(xs:List α)(W:World):Exit→Act→World→Prop
 | .normal,_,W'=>yT W W'∧I xs W'
 | .ret,_,W'=>yT W W'∧Ix xs W'
 |_,_,_=>False
theorem F0{α:Type}{g:Operand}{ps:Array Tmp}{assign body:Code}{Q:Exit→Act→World→Prop}{a:Act}{w:World}{n gf:Nat}{lb:Array Value}(hg:a.eval g= .func (.func gf) #[] lb)
 (eg:∀args w,(callFunc gf args).run Tryz.prog w= .ok (.enter gf args) w) {encs:α→Array Value} {xs:List α} (hit:zcV (n-1) gf lb encs xs w) (hps:∀x,(encs x).size=ps.size)
 (I Ix:List α→World→Prop) (hI:Zy w.heap.size I) (hIx:Zy w.heap.size Ix) (h0:I [] w) (Ax:α→Act→World→Prop) (hAx:∀x a',OwnFrom w.heap.size (λ(_:Unit) W=>Ax x a' W))
 (hassign:∀(l:Nat) (pre:List α) (x:α) (W:World) (K:Act→World→Prop),I pre W→(∀a' W',yT W W'→I pre W'→Ax x a' W'→K a' W')→assign.wpIn (Fence.wide.inRound l) (n-1-1) Tryz.prog (Exit.then K (λ_ _ _=>False)) { tmps:=(ps.zip (encs x)).foldl (λt (p,v)=>t.setIfInBounds p v) a.tmps,defers:= [] } W)
 (hbody:∀(l:Nat) (pre:List α) (x:α) (a':Act) (W:World),pre++ [x] <+:xs→I pre W→Ax x a' W→body.wpIn (Fence.wide.inRound l) (n-1-1) Tryz.prog (zbL I Ix (pre++ [x]) W) a' W)
 (hdone:∀(D:Nat) (W:World),w.heap.size≤D→I xs W→W.heap[D]?=some (.deferred (some []))→Q .normal { a with defers:={ target:= .collected D,args:=#[] }::a.defers } W)
 (hstop:∀(D:Nat) (pre:List α) (W:World),w.heap.size≤D→pre <+:xs→Ix pre W→W.heap[D]?=some (.deferred (some []))→Code.ret.wpIn Fence.wide n Tryz.prog Q { a with defers:={ target:= .collected D,args:=#[] }::a.defers } W):
 (Code.rangeFunc g ps assign body).wpIn Fence.wide n Tryz.prog Q a w:=by
 refine wpIn_rangeFunc λfn hfn=>?_
 let L:=w.heap.size+1
 let R:LoopState→Option Code→Loop:=λst pe=> { state:=st,pending:=pe,fn,tmps:=a.tmps,params:=ps,assign,body,defers:=w.heap.size }
 let W1:=(w.alloc (.deferred (some []))).alloc (.loop (R .ready none))
 have hk1:W1.heap[w.heap.size]?=some (.deferred (some [])):=(Below.heap_alloc _ _ _ (by simp)).trans (World.alloc_heap_new w _)
 have hl1:W1.heap[L]?=some (.loop (R .ready none)):=by
  have h:=World.alloc_heap_new (w.alloc (.deferred (some []))) (.loop (R .ready none))
  rwa [World.size_alloc]at h
 have hb1:Below w.heap.size w W1:=((Below.refl _ w).alloc (Nat.le_refl _) _).alloc (by simp) _;have hLw:w.heap.size≤L:=Nat.le_succ _;have hLn:w.heap.size≠L:=by show w.heap.size≠w.heap.size+1;omega
 let J:List α→World→Prop:=λpre W=>I pre W∧W.heap[L]?=some (.loop (R .ready none))∧W.heap[w.heap.size]?=some (.deferred (some []))
 let Jx:List α→World→Prop:=λpre W=>Ix pre W∧W.heap[L]?=some (.loop (R .done (some .ret)))∧W.heap[w.heap.size]?=some (.deferred (some []))
 have keep:∀ {A B:World} {row:Option Nat} {k:Nat} {o:Obj},A.heap[k]?=some o→o.isCells=false→k<W1.heap.size→A.grownBy B row→(∀r,row=some r→W1.heap.size≤r∧∃o:Obj,A.heap[r]?=some o∧KZ o)→B.heap[k]?=some o:=by
  intro A B row k o hk ho hlt hgr hr;exact(hgr.block k (Array.getElem?_eq_some_iff.1 hk).1 (λe=>by have:=(hr k e.symm).1;omega)).trans hk
 have hs1:W1.heap.size=w.heap.size+2:=by simp[W1]
 refine⟨L,[{ target:= .collected w.heap.size,args:=#[] }],W1,{ target:= .fn (.func gf) lb,args:=#[.func (.yield L) #[] #[]] },W1,gf,#[.func (.yield L) #[] #[]]++lb,W1,run_enterLoop_outer _ _ _ _ _,?_,λ_ _=>trivial,?_,λh=>(by cases h),?_⟩
 ·simp only[resolve,hg]
  simp[go_sem]
 ·simp[invoke,go_sem,eg]
 ·refine(hit L W1.heap.size J Jx W1 hb1 (Nat.le_refl _) ?_ ?_ ?_ ⟨hI.alloc _ (hI.alloc _ h0),hl1,hk1⟩).mono ?_
  ·rintro s A B row ⟨h1,h2,h3⟩ hgr hr
   exact⟨hI.mono (by omega) s A B row h1 hgr hr,keep h2 rfl (by omega) hgr hr,keep h3 rfl (by omega) hgr hr⟩
  ·rintro s A B row ⟨h1,h2,h3⟩ hgr hr
   exact⟨hIx.mono (by omega) s A B row h1 hgr hr,keep h2 rfl (by omega) hgr hr,keep h3 rfl (by omega) hgr hr⟩
  ·rintro pre x V hpx ⟨hi,hl,hk⟩
   refine⟨fn,_,assign,body,run_yield (args:=encs x) hl (hps x),roundIn_of_wpIn hfn (hassign L pre x V _ hi ?_)⟩;intro a' V1 hst hi1 hax;have hl1':=hst.same L _ hl (.inl rfl);have hk1':=hst.same _ _ hk (.inl rfl);have hL:L<V1.heap.size:=(Array.getElem?_eq_some_iff.1 hl1').1;have hl2:(V1.putObj L (.loop (R .busy none))).heap[L]?=some (.loop (R .busy none)):=World.putObj_heap_same hL;have hk2:(V1.putObj L (.loop (R .busy none))).heap[w.heap.size]?=some (.deferred (some [])):=(World.putObj_heap_other hLn).trans hk1';refine⟨_,run_beginRound hl1' rfl,?_⟩;refine wpIn_mono (hbody L pre x a' _ hpx (hI.own.putObj _ hi1 hLw hl1' rfl) ((hAx x a').putObj (s:=()) _ hax hLw hl1' rfl)) ?_;intro e a3 V3 hp;cases e with
   |normal =>
    obtain⟨hkf,hi3⟩:=hp;have hl3:=hkf.same L _ hl2 (.inl rfl);have hk3:=hkf.same _ _ hk2 (.inl rfl);refine⟨_,_,run_endRound none hl3,.inl ⟨rfl,⟨hI.own.putObj _ hi3 hLw hl3 rfl,World.putObj_heap_same (Array.getElem?_eq_some_iff.1 hl3).1,(World.putObj_heap_other hLn).trans hk3⟩,?_⟩⟩;intro b cs hb
    have hbL:b≠L:=by
     intro e;have hb':V.heap[b]?=some (.cells cs 184 (0,0)):=hb;rw[e,hl]at hb';cases hb'
    have h1:zm V1 b 184 cs:=hst.has hb;have h2:zm (V1.putObj L (.loop (R .busy none))) b 184 cs:=(World.putObj_heap_other hbL).trans h1;have h3:zm V3 b 184 cs:=hkf.has h2;exact(World.putObj_heap_other hbL).trans h3
   |ret =>
    obtain⟨hkf,hi3⟩:=hp;have hl3:=hkf.same L _ hl2 (.inl rfl);have hk3:=hkf.same _ _ hk2 (.inl rfl);exact⟨_,_,run_endRound (some .ret) hl3,.inr ⟨rfl,hIx.own.putObj _ hi3 hLw hl3 rfl,World.putObj_heap_same (Array.getElem?_eq_some_iff.1 hl3).1,(World.putObj_heap_other hLn).trans hk3⟩⟩
   |_=>exact hp.elim
  ·rintro e W2 ⟨⟨v,rfl⟩,(⟨hi,hl,hk⟩|⟨pre,hpre,hi,hl,hk⟩)⟩
   ·exact⟨none,_,run_endLoop hl (by simp[R]),hdone _ _ (Nat.le_refl _) (hI.own.putObj _ hi hLw hl rfl) ((World.putObj_heap_other hLn).trans hk)⟩
   ·exact⟨some .ret,_,run_endLoop hl (by simp[R]),hstop _ pre _ (Nat.le_refl _) hpre (hIx.own.putObj _ hi hLw hl rfl) ((World.putObj_heap_other hLn).trans hk)⟩
end
section
open Go.ChangeShapes Go.WideShapes Go.ChangeAt Go.RowKit
variable {P:Program} {ops:Array Oper} {Q:Exit→Act→World→Prop} {md:Region.Mode} {S:World→Prop} {m:Nat}
end
section
open Go.RowKit Go.Shelf
attribute [local go_sem] Oper.semAt_some
def vO(f c:Nat):Array Value:=#[.int .i64 (f:Nat),.int .i64 (c:Nat)]
theorem uF(f c:Nat):((vO f c).all λx=>x.oneCell')=true:=by simp[vO,Value.oneCell']
def zbp(N k:Nat):Array Value:=#[.int .i64 (k:Nat),.agg (vO (off N k) (lv N (k+1)))]
theorem U2{m:Nat}{pre:List Nat}{x:Nat}(h:pre++ [x] <+:List.range m):x<m∧pre=List.range x:=by
 obtain⟨t,ht⟩:=h;have hl:=congrArg List.length ht;simp at hl;have hkm:pre.length<m:=by omega
 have e2:(List.range m)[pre.length]?=some x:=by rw[←ht];simp
 have e3:(List.range m)[pre.length]?=some pre.length:=by simp[hkm]
 rw[e3]at e2;have hx:pre.length=x:=Option.some.inj e2;refine⟨by omega,?_⟩;have e1:(List.range m).take pre.length=pre:=by rw[←ht];simp
 rw[←e1,List.take_range,Nat.min_eq_left (by omega),hx]
theorem fB{k m:Nat}(h:k≤m):List.range k <+:List.range m:=by
 obtain⟨d,rfl⟩:∃d,m=k+d:=⟨m-k,by omega⟩
 rw[List.range_add];exact List.prefix_append _ _
theorem Ye{o:Oper}{a:Act}(x y:Operand)(ho:o.op= .binOp .add 3 x y 3)(p q:Nat)(hx:a.eval x= .int .i64 (p:Nat))(hy:a.eval y= .int .i64 (q:Nat))(hp:p≤1000000)(hq:q≤1000000)(w:World):
 (execOp a.eval o).run Tryz.prog w= .ok (.value (.int .i64 ((p+q:Nat):Int))) w:=by
 have hw:IntKind.i64.wrap ((p:Int)+(q:Int))=(p:Int)+(q:Int):=by rw[IntKind.wrap_i64];omega
 unfold execOp;simp only[ho,hx,hy];go_simp
theorem ZK{o:Oper}{a:Act}(x:Operand)(ho:o.op= .load 3 x)(p:Addr)(hx:a.eval x= .pointer (some p))(v:Value)(w:World)(h:w.cell? p=some v):(execOp a.eval o).run Tryz.prog w= .ok (.value v) w:=by
 unfold execOp;simp only[ho,hx];go_simp
theorem Gq{o:Oper}{a:Act}(x0 x1:Operand)(ho:o.op= .build 184 #[(0,x0),(1,x1)])(p q:Nat)(h0:a.eval x0= .int .i64 (p:Nat))(h1:a.eval x1= .int .i64 (q:Nat))(w:World):
 (execOp a.eval o).run Tryz.prog w= .ok (.value (.agg (vO p q))) w:=by
 unfold vO;unfold execOp;simp only[ho,h0,h1,List.map_toArray,List.map_cons,List.map_nil];go_simp
theorem J1(n:Nat)(w:World)(h:n≤1000000):Calls Tryz.prog 160 #[.int .i64 (n:Nat)] w λe w'=>e= .returned (.int .i64 (((n+1) / 2:Nat):Int))∧w'=w:=by
 go_enter Tryz.func160,Tryz.ntmps160
 go_wp2
 go_ret
 refine⟨?_,rfl⟩;have e:((n:Int)+2-1) / 2=(((n+1) / 2:Nat):Int):=by omega
 show Ending.returned (.int .i64 (((n:Int)+2-1) / 2))=_;rw[e]
theorem Zy.drew{β:Type}{D:Nat}{I:β→World→Prop}(h:Zy D I){s:β}(W:World)(hs:I s W):I s W.drew:=h s W _ none hs ⟨rfl,rfl,rfl,Nat.le_refl _,λ_ _ _=>rfl⟩ (λr e=>by cases e)
theorem zbW(m l D Bn N:Nat)(h1:1≤N)(h2:N≤2048)(J Jx:List Nat→World→Prop)(hJ:Zy D J)
 (W:World) (hBn:W.cell? ⟨Bn,0,none⟩=some (.int .i64 (N:Nat))) (hD:D≤W.heap.size)
 (hY:∀pre x V,pre++ [x] <+:List.range (Q1 N)→J pre V→YieldAt Fence.wide (m-1) Tryz.prog l (zbp N x) V λe V'=>(e= .returned (.bool true)∧J (pre++ [x]) V'∧∀g cs,zm V g 184 cs→zm V' g 184 cs)∨(e= .returned (.bool false)∧Jx (pre++ [x]) V')) (h0:J [] W):
 CallsIn Fence.wide m Tryz.prog 159 #[.func (.yield l) #[] #[],.pointer (some ⟨Bn,0,none⟩)] W λe W'=>(∃v,e= .returned v)∧(J (List.range (Q1 N)) W'∨∃pre,pre <+:List.range (Q1 N)∧Jx pre W'):=by
 have hs:∀k w,CallsIn Fence.wide k Tryz.prog 160 #[.int .i64 (N:Nat)] w λe w'=>e= .returned (.int .i64 (((N+1) / 2:Nat):Int))∧w'=w:=λk w=>callsIn_wide.2 (J1 N w (by omega))
 refine callsIn_of_wp Tryz.func159 rfl trivial ?_ rfl;simp only[Tryz.ntmps159,List.size_toArray,List.length_cons,List.length_nil,Nat.reduceAdd,Nat.reduceSub,Array.replicate_succ,Array.replicate_zero,List.push_toArray,List.append_toArray,List.nil_append,List.cons_append]
 gi_wp2_with (refine⟨trivial,λh=>(by cases h),?_⟩;refine(hs _ _).mono ?_;rintro e w' ⟨rfl,rfl⟩)
 gi_loopw [3] (λs wr=>∃k:Nat,k<Q1 N∧s= .int .i64 (k:Nat)∧zm wr w'.heap.size 184 (vO (off N k) (lv N (k+1)))∧J (List.range k) wr) (λs _=>Q1 N-(intOf s).toNat)
 case atStart =>
  refine⟨0,gz N,rfl,?_,hJ.alloc _ h0⟩;have e:((N:Int)+1) / 2=((lv N 1:Nat):Int):=by show _=(((N+1) / 2:Nat):Int);omega
  rw[e];exact zm.new _ _ _
 case round =>
  obtain⟨k,hk,rfl,hl,hJk⟩:=hrel;have hpre:List.range k++ [k] <+:List.range (Q1 N):=by rw[←List.range_succ];exact fB hk
  obtain⟨fn,tmps,assign,body,hy,hR⟩:=hY (List.range k) k wr hpre hJk;have hc1:=uT N (k+1) h1;have hc2:=Nat.le_trans (dM N (k+1) h1) h2;have hf2:=zaT N k h1 h2 (Nat.le_trans (Nat.le_of_lt hk) (Kz N h2))
  obtain⟨f,hf⟩:∃f,f=off N k:=⟨_,rfl⟩
  obtain⟨c,hc⟩:∃c,c=lv N (k+1):=⟨_,rfl⟩
  have HV:Hid (f=off N k∧c=lv N (k+1)):=⟨hf,hc⟩
  unfold zbp at hy;rw[←hf,←hc]at hy hl;rw[←hc]at hc1 hc2;rw[←hf]at hf2;clear hf hc;unfold vO at hy;have hl0:=hl;have t0:=hl.cell 0;have t1:=hl.cell 1;simp only[vO,List.getElem?_toArray,List.getElem?_cons_zero,List.getElem?_cons_succ]at t0 t1
  gi_wp2
  refine⟨λh=>(by cases h),hR.mono ?_⟩;clear hR hy hl t0 t1;rintro e W3 (⟨rfl,hJ3,hkeep⟩|⟨rfl,hJx3⟩)
  ·have hl3:=hkeep _ _ hl0
   have t0:=hl3.cell 0;have t1:=hl3.cell 1;simp only[vO,List.getElem?_toArray,List.getElem?_cons_zero,List.getElem?_cons_succ]at t0 t1;clear hkeep hJk hl0;by_cases hone:c=1
   ·have hi1:¬(1:Int)<(c:Int):=by omega
    have hkd:k+1=Q1 N:=by
     refine Classical.byContradiction λh=>?_
     have:=dz N (k+1) (by omega) (by omega);rw[←HV.out.2]at this;omega
    gi_wp2
    refine bodyPost_end (results_none rfl _ _ _) rfl ?_;exact⟨⟨_,rfl⟩,.inl (by rw[←hkd,List.range_succ];exact hJ3)⟩
   ·have hi1:(1:Int)<(c:Int):=by omega
    have hkd:k+1<Q1 N:=by
     refine Nat.lt_of_le_of_ne hk λh=>hone ?_
     have:=Hd N h1;rw[←h,←HV.out.2]at this;exact this
    have hsc:=J1 c
    gi_wp2
    refine wpIn_wide.2 ?_;refine jp (S:=λwz=>zm wz w'.heap.size 184 (vO f c)∧J (List.range k++ [k]) wz) 12 (by kernel_rfl) ⟨hl3.drewN 1,hJ.drew _ hJ3⟩ (λhHeld=>?_);refine ja 0 (some 23) (.int .i64 (k:Nat)) hHeld ?_;simp only[Act.put,zh,zf,zg];refine j3 1 (some 24) (.int .i64 ((k+1:Nat):Int)) rfl rfl (λwz _=>Ye _ _ rfl k 1 rfl rfl (by have:=Kz N h2;omega) (by omega) wz) hHeld ?_;simp only[Act.put,zh,zf,zg];refine ja 2 (some 25) (.pointer (some ⟨w'.heap.size,0,none⟩)) hHeld ?_;simp only[Act.put,zh,zf,zg];refine j3 3 (some 26) (.int .i64 (f:Nat)) rfl rfl (λwz hz=>ZK _ rfl _ rfl _ wz (hz.1.cell 0)) hHeld ?_;simp only[Act.put,zh,zf,zg];refine ja 4 (some 27) (.pointer (some ⟨w'.heap.size,1,none⟩)) hHeld ?_;simp only[Act.put,zh,zf,zg];refine j3 5 (some 28) (.int .i64 (c:Nat)) rfl rfl (λwz hz=>ZK _ rfl _ rfl _ wz (hz.1.cell 1)) hHeld ?_;simp only[Act.put,zh,zf,zg];refine j3 6 (some 29) (.int .i64 ((f+c:Nat):Int)) rfl rfl (λwz _=>Ye _ _ rfl f c rfl rfl (by omega) (by omega) wz) hHeld ?_;simp only[Act.put,zh,zf,zg];refine ja 7 (some 30) (.pointer (some ⟨w'.heap.size,1,none⟩)) hHeld ?_;simp only[Act.put,zh,zf,zg];refine j3 8 (some 31) (.int .i64 (c:Nat)) rfl rfl (λwz hz=>ZK _ rfl _ rfl _ wz (hz.1.cell 1)) hHeld ?_;simp only[Act.put,zh,zf,zg];refine zbI 9 (some 32) 160 #[.int .i64 (c:Nat)] (by kernel_rfl) rfl rfl (by rfl) (by kernel_rfl) (hsc W3.drew (by omega)) ?_;rintro e w5 ⟨rfl,rfl⟩;refine⟨_,rfl,hHeld,?_⟩;simp only[Act.put,zh,zf,zg];refine j3 10 (some 33) (.agg (vO (f+c) ((c+1) / 2))) rfl rfl (λwz _=>Gq _ _ rfl (f+c) ((c+1) / 2) rfl rfl wz) hHeld ?_;simp only[Act.put,zh,zf,zg];refine ja 11 (some 3) (.int .i64 ((k+1:Nat):Int)) hHeld ?_;simp only[Act.put,zh,zf,zg];refine qC 12 none _ (by kernel_rfl) rfl rfl (by rfl) (qP 184 _ _ rfl w'.heap.size rfl (vO (f+c) ((c+1) / 2)) rfl 184 (by kernel_rfl) _ hHeld.1 rfl (uF _ _)) (by kernel_rfl) ?_;simp only[Act.put]
    gi_wp2
    go_roundw
    case rel =>
     refine⟨k+1,hkd,by go_num,?_,?_⟩
     ·have h:=hHeld.1.setRow (vO (f+c) ((c+1) / 2))
      rw[show vO (f+c) ((c+1) / 2)=vO (off N (k+1)) (lv N (k+1+1))from by rw[HV.out.1,HV.out.2];rfl]at h ⊢;exact h
     ·rw[List.range_succ]
      exact hJ.setRow hHeld.2 hD hHeld.1 _
    case measure=>simp[intOf];omega
  ·gi_wp2
   refine bodyPost_end (results_none rfl _ _ _) rfl ?_;exact⟨⟨_,rfl⟩,.inr ⟨List.range k++ [k],hpre,hJx3⟩⟩
end
section
open Go.RowKit Go.Shelf
attribute [local go_sem] Oper.semAt_some
theorem zaz(m l Bn:Nat)(n:Int)(ho:¬(1≤n∧n≤2048))(J:List Nat→World→Prop)
 (W:World) (hBn:W.cell? ⟨Bn,0,none⟩=some (.int .i64 n)) (h0:J [] W):
 CallsIn Fence.wide m Tryz.prog 159 #[.func (.yield l) #[] #[],.pointer (some ⟨Bn,0,none⟩)] W λe W'=>(∃v,e= .returned v)∧J [] W':=by
 refine callsIn_of_wp Tryz.func159 rfl trivial ?_ rfl;simp only[Tryz.ntmps159,List.size_toArray,List.length_cons,List.length_nil,Nat.reduceAdd,Nat.reduceSub,Array.replicate_succ,Array.replicate_zero,List.push_toArray,List.append_toArray,List.nil_append,List.cons_append];by_cases h:n<1
 ·gi_wp2
  refine bodyPost_ret (results_none rfl _ _ _) rfl ?_;exact⟨⟨_,rfl⟩,h0⟩
 ·have h':2048<n:=by omega
  gi_wp2
  refine bodyPost_ret (results_none rfl _ _ _) rfl ?_;exact⟨⟨_,rfl⟩,h0⟩
theorem zaG(m Bn:Nat)(n:Int)(w:World)(hB:Bn<w.heap.size)(hc:w.cell? ⟨Bn,0,none⟩=some (.int .i64 n)):
 zcV m 159 #[.pointer (some ⟨Bn,0,none⟩)] (zbp n.toNat) (List.range (Zw n)) w:=λl D J Jx W hW hD hJ hJx hY h0=>by
 have hcW:=(hW.cell (p:=⟨Bn,0,none⟩) hB).trans hc;by_cases h:1≤n∧n≤2048
 ·obtain⟨N,rfl⟩:∃N:Nat,n=N:=⟨n.toNat,by omega⟩
  rw[Kl h]at hY ⊢;simp only[Int.toNat_natCast]at hY ⊢;exact zbW m l D Bn N (by omega) (by omega) J Jx hJ W hcW hD hY h0
 ·rw[Yg h]
  refine(zaz m l Bn n h J W hcW h0).mono ?_;rintro e W' ⟨h1,h2⟩;exact⟨h1,.inl h2⟩
theorem uV(n:Int)(w:World):Calls Tryz.prog 154 #[.int .i64 n] w λe w'=>e= .returned (.func (.func 159) #[] #[.pointer (some ⟨w.heap.size,0,none⟩)])∧w'=w.alloc (.cells #[.int .i64 n] 3):=by
 go_enter Tryz.func154,Tryz.ntmps154
 go_wp2
 go_ret
 exact⟨rfl,rfl⟩
theorem Dj{A B:World}{base t n D:Nat}{v:Value}{xs:List Value}{row:Option Nat}(ht:t≠184)(h:A.ownsRow base t 1 v n xs)(hg:A.grownBy B row)(hr:∀r,row=some r→D≤r∧∃o:Obj,A.heap[r]?=some o∧KZ o):B.ownsRow base t 1 v n xs:=by
 refine⟨h.1,?_⟩;rcases h.2 with h0|⟨g,cap,cur,hv,h1,hgg,r⟩
 ·exact .inl h0
 ·exact .inr ⟨g,cap,cur,hv,h1,(zm.firm (cs:=cur) (t:=t) ht hgg hg hr:zm B g t cur),r⟩
end
section
open Go.ChangeShapes Go.WideShapes Go.ChangeAt Go.RowKit
def il(f:Nat→Nat)(n:Nat):List Value:=(List.range n).map λj=>Value.int .i64 (f j:Nat)
theorem gy(f:Nat→Nat)(n y:Nat)(h:f n=y):il f n++ [.int .i64 (y:Nat)]=il f (n+1):=by
 unfold il;rw[List.range_succ,List.map_append];simp[h]
theorem zcw(f:Nat→Nat)(n j:Nat)(h:j<n):(il f n)[j]?=some (.int .i64 (f j:Nat)):=by simp[il,h]
theorem zbz:(Tryz.prog.info? 3).map (λi=>(i.zero,i.size,i.bytes))=some (some (.int .i64 0),1,8):=by kernel_rfl
theorem UX{w w':World}{base B n t:Nat}{v:Value}{xs:List Value}(h:w.ownsRow base t 1 v n xs)(hb:Below B w w')(hB:∀g,v.ownBlock=some g→g<B):w'.ownsRow base t 1 v n xs:=by
 refine⟨h.1,?_⟩;rcases h.2 with h0|⟨g,cap,cur,hv,h1,hg,r⟩
 ·exact .inl h0
 ·exact .inr ⟨g,cap,cur,hv,h1,(hb.block g (hB g (by rw[hv];rfl))).trans hg,r⟩
theorem Zl{ops:Array Oper}{rest:List Oper}{o:Oper}{a:Act}{w0:World}{Q:Exit→Act→World→Prop}(hgd:o.guard=none)(s x:Operand)
 (ho:o.op= .call { callee:= .builtin .append,args:=#[s,x],argTypes:=#[29,29] }) (base:Nat) (v:Value) (n:Nat) (f:Nat→Nat) (hs:a.eval s=v) (hown:w0.ownsRow base 3 1 v n (il f n))
 (z:Int) (hx:a.eval x= .slice (some ⟨w0.heap.size,0,none⟩) 1 1) (hf:z=((f n:Nat):Int)) (h63:n+1≤100000) (hbase:base≤w0.heap.size)
 (h:∀g cap w',w'.ownsRow base 3 1 (.slice (some ⟨g,0,none⟩) (n+1) cap) (n+1) (il f (n+1))→(w0.alloc (.cells #[.int .i64 z] 3)).grownBy w' v.ownBlock→(v.ownBlock=some g∨g=w0.heap.size+1)→g<w'.heap.size→wpList Tryz.prog ops Q rest (a.put o.dst (.slice (some ⟨g,0,none⟩) (n+1) cap)) w'):
 wpList Tryz.prog ops Q (o::rest) a (w0.alloc (.cells #[.int .i64 z] 3)):=by
 subst hf;obtain⟨i0,hi,hz0,hz1,hz2⟩:=info_parts zbz;have hb:Below w0.heap.size w0 (w0.alloc (.cells #[.int .i64 (f n:Nat)] 3)):=(Below.refl _ _).alloc (Nat.le_refl _) _;refine wpList_append_lies _ hgd s x 29 ho base 3 i0 (.int .i64 0) 1 8 Tryz.underlying29 hi hz0 hz1 hz2 rfl (by decide) v n _ hs (UX hown hb (λg hg=>(hown.lt g hg).2)) ⟨w0.heap.size,0,none⟩ 1 1 [.int .i64 (f n:Nat)] hx (by rfl) ?_ (by simp[Value.oneCell']) (by decide) (by unfold maxLen;omega) (by omega) (by simp;omega) (w0.heap.size+1) (by simp) ?_
 ·intro j u hj
  have hj0:j=0:=by
   rcases j with _|j
   ·rfl
   ·simp at hj
  subst hj0;have e:(⟨w0.heap.size,0,none⟩:Addr).add 0=⟨w0.heap.size,0,none⟩:=by simp[Addr.add]
  rw[e,(zm.new w0 3 #[.int .i64 (f n:Nat)]).cell 0]
  simpa using hj
 ·intro g cap w' h1 h2 h3 h4
  rw[gy f n (f n) rfl]at h1;exact h g cap w' h1 h2 h3 h4
theorem V4{w:World}{base n:Nat}{v:Value}{f:Nat→Nat}(h:w.ownsRow base 3 1 v n (il f n)):∃a cap,v= .slice a n cap∧n≤cap∧(a=none→n=0∧cap=0)∧FJ w a n f:=by
 rcases h.2 with⟨rfl,rfl⟩|⟨g,cap,cur,rfl,hb,hg,hn,hm,hs,ht⟩
 ·exact⟨none,0,rfl,Nat.le_refl _,λ_=>⟨rfl,rfl⟩,.inl rfl⟩
 ·have hlt:g<w.heap.size:=(Array.getElem?_eq_some_iff.1 hg).1
  refine⟨some ⟨g,0,none⟩,cap,rfl,hn,(λe=>by cases e),.inr ⟨g,0,rfl,hlt,?_⟩⟩;intro j hj;rw[Nat.zero_add,h.cellAt j (by omega)];exact zcw f n j hj
end
section
open Go.RowKit Go.Shelf
theorem zm.ownF{A B:World}{g t D:Nat}{cs:Array Value}{row:Option Nat}(h:zm A g t cs)(hg:A.grownBy B row)(hr:∀r,row=some r→D≤r∧∃o:Obj,A.heap[r]?=some o∧o.isCells=false):zm B g t cs:=by
 refine(hg.block g h.lt λe=>?_).trans h;obtain⟨_,o,ho,hc⟩:=hr g e.symm;have h':A.heap[g]?=some (.cells cs t (0,0)):=h;rw[h']at ho;cases ho;cases hc
def AtL(N:Nat)(T:Nat→Nat→Array Value)(x:Nat)(a':Act)(W:World):Prop:=∃B,a'= { tmps:=T x B,defers:= [] }∧zm W B 184 (vO (off N x) (lv N (x+1)))
theorem zav(N D:Nat)(T:Nat→Nat→Array Value)(x:Nat)(a':Act):OwnFrom D (λ(_:Unit) W=>AtL N T x a' W):=by
 rintro _ A B row ⟨b,h1,h2⟩ hg hr;exact⟨b,h1,h2.ownF hg hr⟩
theorem Kx{W w1:World}{n₀ base B:Nat}{t:TypeId}{v v':Value}{k m:Nat}{xs ys:List Value}{tmp:Obj}
 (hv:zm W B t #[v]) (hte:t≠3) (htl:t≠184) (hrow:W.ownsRow base 3 1 v k xs) (hn₀:n₀≤W.heap.size) (hB:n₀≤B) (hnb:n₀≤base)
 (hown':w1.ownsRow base 3 1 v' m ys) (hgrow:(W.alloc tmp).grownBy w1 v.ownBlock):
 zm w1 B t #[v]∧zm (w1.setCell ⟨B,0,none⟩ v') B t #[v']∧(w1.setCell ⟨B,0,none⟩ v').ownsRow base 3 1 v' m ys∧yT W (w1.setCell ⟨B,0,none⟩ v')∧Below n₀ W (w1.setCell ⟨B,0,none⟩ v'):=by
 have hv1:zm w1 B t #[v]:=Boxed.kept (t:=t) (Boxed.alloc (t:=t) hv tmp) hgrow (Boxed.not_row (t:=t) hv hte hrow);refine⟨hv1,Boxed.set (t:=t) v' hv1,hown'.kept (grownBy_setCell' w1 B v') (.inr (Boxed.not_row (t:=t) hv1 hte hown').symm),?_,?_⟩
 ·refine((yT.alloc W tmp).trans (yT.grown hgrow ?_)).trans (yT.setCell (t:=t) (cs:=#[v]) hv1 htl 0 v')
  intro r e;rcases(hrow.alloc tmp).2 with⟨rfl,_⟩|⟨g,cap,cur,rfl,_,hgb,_⟩
  ·simp[Value.ownBlock]at e
  ·obtain rfl:g=r:=by simpa [Value.ownBlock]using e
   exact⟨cur,3,_,hgb,by decide⟩
 ·refine(((Below.refl n₀ W).alloc hn₀ tmp).grown hgrow (by simp;omega) λj ej=>?_).setCell (p:=⟨B,0,none⟩) hB v'
  exact Nat.le_trans hnb (hrow.lt j ej).1
end
section
open Go.RowKit Go.Shelf
attribute [local go_sem] Oper.semAt_some
def zcb(w:World)(n:Int)(pre:List Nat)(W:World):Prop:=(∃v,zm W w.heap.size 29 #[v]∧W.ownsRow w.heap.size 3 1 v pre.length (il (λk=>lv n.toNat (k+1)) pre.length))∧Below w.heap.size w W
theorem Xs(w:World)(n:Int)(D:Nat)(hD:w.heap.size≤D):Zy D (zcb w n):=by
 rintro pre A B row ⟨⟨v,h1,h2⟩,h3⟩ hg hr;exact⟨⟨v,h1.firm (by decide) hg hr,Dj (by decide) h2 hg hr⟩,Zy.below (β:=Unit) (Nat.le_refl _) hD () A B row h3 hg hr⟩
theorem Fb(n:Int)(w:World)(hn:qo n):CallsIn Fence.wide 3 Tryz.prog 151 #[.int .i64 n] w λe W'=>∃v,e= .returned v∧W'.ownsRow w.heap.size 3 1 v (Zw n) (il (λk=>lv n.toNat (k+1)) (Zw n))∧Below w.heap.size w W':=by
 have hlen:=Ko n;obtain⟨i0,hi,hz0,hz1,hz2⟩:=info_parts zbz;refine callsIn_of_wp_marks Tryz.func151 rfl trivial ?_ rfl;simp only[Tryz.ntmps151,List.size_toArray,List.length_cons,List.length_nil,Nat.reduceAdd,Nat.reduceSub,Array.replicate_succ,Array.replicate_zero,List.push_toArray,List.append_toArray,List.nil_append,List.cons_append];refine wpIn_wide.2 ?_
 go_wp2_with (first
  |((go_at_call 154)
    refine(uV _ _).mono ?_;(rintro e w1 ⟨rfl,rfl⟩)))
 refine(wpIn_wide (n:=3)).1 ?_
 have h0:zcb w n [] ((w.alloc (.cells #[.slice none 0 0] 29)).alloc (.cells #[.int .i64 n] 3)):=⟨⟨.slice none 0 0,(zm.new _ _ _).alloc _,World.ownsRow_nil _ _ _ _⟩,((Below.refl _ w).alloc (Nat.le_refl _) _).alloc (by simp) _⟩
 have hs0:((w.alloc (.cells #[.slice none 0 0] 29)).alloc (.cells #[.int .i64 n] 3)).heap.size=w.heap.size+2:=by simp
 have hb0:zm ((w.alloc (.cells #[.slice none 0 0] 29)).alloc (.cells #[.int .i64 n] 3)) (w.heap.size+1) 3 #[.int .i64 n]:=zm.new_at (by simp)
 obtain⟨W0,hW0⟩:∃W0,W0=(w.alloc (.cells #[.slice none 0 0] 29)).alloc (.cells #[.int .i64 n] 3):=⟨_,rfl⟩
 rw[←hW0]at h0 hs0 hb0 ⊢;clear hW0
 refine F0 (n:=3) (gf:=159) (lb:=#[.pointer (some ⟨w.heap.size+1,0,none⟩)]) rfl (enters_of Tryz.func159 (by kernel_rfl) rfl)
  (zaG (3-1) (w.heap.size+1) n W0 (by omega) (hb0.cell 0)) (λ_=>rfl)
  (zcb w n) (λ_ _=>False) (Xs w n _ (by omega)) (λ_ _ _ _ h=>h.elim) h0
  (AtL n.toNat (λx B=> #[.int .i64 n,undef,.slice none 0 0,.pointer (some ⟨w.heap.size,0,none⟩),undef,.pointer (some ⟨B,0,none⟩),.int .i64 n,.func (.func 159) #[] #[.pointer (some ⟨w.heap.size+1,0,none⟩)],.int .i64 (x:Nat),.agg (vO (off n.toNat x) (lv n.toNat (x+1))),undef,undef,undef,undef,undef,undef])) (zav _ _ _) ?assign ?body ?done ?stop
 case assign =>
  intro l pre x W K hI hK;simp only[zbp,vO]
  gi_wp2
  exact hK _ _ (yT.alloc _ _) ((Xs w n _ (Nat.le_refl _)).alloc _ hI) ⟨_,rfl,zm.new _ _ _⟩
 case body =>
  rintro l pre x a' W hpre ⟨⟨v,hv,hrow⟩,hB⟩ ⟨B,rfl,hl⟩;obtain⟨hx,rfl⟩:=U2 hpre;rw[List.length_range]at hrow;have hc:=hv.cell 0;have t1:=hl.cell 1;simp only[vO,List.getElem?_toArray,List.getElem?_cons_zero,List.getElem?_cons_succ]at t1 hc;have hlc:(il (λk=>lv n.toNat (k+1)) x)++ [.int .i64 (lv n.toNat (x+1):Nat)]=il (λk=>lv n.toNat (k+1)) (x+1):=gy _ x _ rfl
  obtain⟨c,hcc⟩:∃c,c=lv n.toNat (x+1):=⟨_,rfl⟩
  rw[←hcc]at t1 hlc;clear hcc
  gi_wp2_with (gi_at_builtin;refine wpListIn_append_own _ rfl _ _ 29 rfl w.heap.size 3 i0 (.int .i64 0) 1 8 Tryz.underlying29 hi hz0 hz1 hz2 rfl (by decide) _ _ _ rfl (hrow.alloc _) ⟨W.heap.size,0,none⟩ 1 1 [.int .i64 (c:Nat)] rfl rfl (cell_one_new _ _ _) (by simp[Value.oneCell']) (by unfold maxLen;omega) (by omega) (by have:=hB.size;simp;omega) ?_;intro v' w1 hown' hgrow _;obtain⟨g',cap',rfl⟩:=ownsRow_succ hown';obtain⟨hv1,hv2,hr2,hk2,hb2⟩:=Kx hv (by decide) (by decide) hrow hB.size (Nat.le_refl _) (Nat.le_refl _) hown' hgrow;have hc1:=hv1.cell 0;have hf1:=hv1.free 0)
  refine⟨hk2,⟨⟨_,hv2,?_⟩,hB.trans hb2⟩⟩;rw[hlc]at hr2
  simpa using hr2
 case done =>
  rintro D W hD ⟨⟨v,hv,hrow⟩,hB⟩ hK;rw[List.length_range]at hrow;have hc:=hv.cell 0
  go_wp2
  refine⟨by simp,.inl ⟨_,_,rfl,run_takeDeferred hK,?_⟩⟩;exact⟨_,results_tmp rfl _ _ _,v,rfl,ownsRow_putObj hrow _ hK rfl,hB.trans (belowK_b (w:=w) (Nat.le_refl _) W D _ _ (by omega) hK rfl rfl)⟩
 case stop =>
  rintro D pre W _ _ h;exact h.elim
theorem Fy:UA 151:=by
 intro n w hn;refine Calls.mono (callsIn_wide.1 (Fb n w hn)) ?_;rintro e w' ⟨v,rfl,own,hb⟩;obtain⟨a,c,rfl,h1,h2,h3⟩:=V4 own;exact⟨a,c,rfl,h1,h2,h3,hb⟩
end
section
open Go.ChangeShapes Go.WideShapes Go.ChangeAt Go.RowKit
theorem Gj(N:Nat)(w:World)(h1:1≤N)(h2:N≤2048):Calls Tryz.prog 109 #[.int .i64 (N:Nat)] w λe w' =>
 ∃v,e= .returned v∧w'.ownsRow w.heap.size 3 1 v (Q1 N) (il (λk=>lv N (k+1)) (Q1 N))∧Below w.heap.size w w':=by
 obtain⟨f,hf⟩:∃f:Nat→Nat,f=λk=>lv N (k+1):=⟨_,rfl⟩
 rw[←hf];have HF:Hid (f=λk=>lv N (k+1)):=hf;clear hf;have hNd:Hid (Q1 N≤11):=Kz N h2;go_enter Tryz.func109,Tryz.ntmps109
 go_wp2
 go_loopw [0,3] (λx v wr=>∃k:Nat,k≤Q1 N∧x= .int .i64 (lv N k:Nat)∧wr.ownsRow w.heap.size 3 1 v k (il f k)∧Below w.heap.size w wr)
  (λ_ v _=>Q1 N-fP v)
 case atStart=>exact⟨0,Nat.zero_le _,rfl,World.ownsRow_nil _ _ _ _,Below.refl _ _⟩
 case round =>
  obtain⟨k,hk,rfl,own,hbel⟩:=hrel;obtain⟨va,vc,rfl,hvc,_,_⟩:=V4 own;have hk11:k≤11:=Nat.le_trans hk hNd.out;have hy1:=uT N k h1;have hy2:=Nat.le_trans (dM N k h1) h2;by_cases hlt:k<Q1 N
  ·have hstep:f k=(lv N k+1) / 2:=by rw[HF.out];rfl
   have hc:k=0∨2≤lv N k:=by
    by_cases h0:k=0
    ·exact .inl h0
    ·exact .inr (dz N k (by omega) hlt)
   have hnx:lv N (k+1)=f k:=by rw[HF.out]
   have HX:Hid (k<Q1 N∧lv N (k+1)=f k):=⟨hlt,hnx⟩
   generalize lv N k=y at *;have hfk:f k≤2048:=by omega
   have hz:Hid (((y:Int)+1) / 2=((f k:Nat):Int)):=(by omega:((y:Int)+1) / 2=((f k:Nat):Int))
   have HK:Hid (f k=(y+1) / 2):=hstep;clear hstep hlt hnx hk;by_cases hy:y=1
   ·obtain rfl:k=0:=by omega
    subst hy;clear hc hvc
    have hf0:Hid ((1:Int)=((f 0:Nat):Int)):=(by have:=HK.out;omega:(1:Int)=((f 0:Nat):Int))
    clear HK hz
    go_wp2_with (first
     |((at_builtin)
       refine Zl rfl _ _ rfl w.heap.size _ 0 f rfl own _ rfl hf0.out (by omega) hbel.size ?_;(intro g cap w2 own2 gr2 _ _)))
    go_roundw
    case rel=>exact⟨1,HX.out.1,by rw[HX.out.2];exact congrArg _ hf0.out,own2,(hbel.alloc hbel.size _).grown gr2 (by simp;have:=hbel.size;omega) (λk' h=>(own.lt k' h).1)⟩
    case measure=>have:=HX.out.1;simp[fP];omega
   ·have hyi:¬((y:Int)=1):=by omega
    clear hc HK
    go_wp2_with (first
     |((at_builtin)
       refine Zl rfl _ _ rfl w.heap.size _ k f rfl own _ rfl hz.out (by omega) hbel.size ?_;(intro g cap w2 own2 gr2 _ _)))
    go_roundw
    case rel=>exact⟨k+1,HX.out.1,by rw[HX.out.2];exact congrArg _ hz.out,own2,(hbel.alloc hbel.size _).grown gr2 (by simp;have:=hbel.size;omega) (λk' h=>(own.lt k' h).1)⟩
    case measure=>have:=HX.out.1;simp[fP];omega
  ·obtain rfl:k=Q1 N:=by omega
   have hd:=Hd N h1;have hp:=gz N;have hp1:¬((Q1 N:Int)=0):=by omega
   rw[hd]
   go_wp2
   go_ret
   exact⟨_,rfl,own,hbel⟩
theorem K8(n:Int)(w:World)(h:¬(1≤n∧n≤2048)):Calls Tryz.prog 109 #[.int .i64 n] w λe w'=>e= .returned (.slice none 0 0)∧w'=w:=by
 go_enter Tryz.func109,Tryz.ntmps109;by_cases h1:n<1
 ·go_wp2
  exact bodyPost_ret (results_tmp rfl _ _ _) rfl ⟨rfl,rfl⟩
 ·have h2:2048<n:=by omega
  go_wp2
  exact bodyPost_ret (results_tmp rfl _ _ _) rfl ⟨rfl,rfl⟩
theorem UL:UA 109:=by
 intro n w hn;by_cases h:1≤n∧n≤2048
 ·obtain⟨N,rfl⟩:∃N:Nat,n=N:=⟨n.toNat,by omega⟩
  rw[Kl h];refine(Gj N w (by omega) (by omega)).mono ?_;rintro e w' ⟨v,rfl,own,hb⟩;obtain⟨a,c,rfl,h1,h2,h3⟩:=V4 own;exact⟨a,c,rfl,h1,h2,h3,hb⟩
 ·rw[Yg h]
  refine(K8 n w h).mono ?_;rintro e w' ⟨rfl,rfl⟩;exact⟨none,0,rfl,Nat.le_refl _,λ_=>⟨rfl,rfl⟩,.inl rfl,Below.refl _ _⟩
end
section
open Go.ChangeShapes Go.WideShapes Go.ChangeAt Go.RowKit
end
end
section
open Go.RowKit
def hs(n:Nat):Nat:=off n (Zw (n:Int))
theorem zai:hs 0=0:=rfl
theorem zbQ(n k:Nat):off n (k+1)=(n+1) / 2+off ((n+1) / 2) k:=by
 induction k with
 |zero=>simp[off,lv]
 |succ k ih =>
  have e:off n (k+1+1)=off n (k+1)+lv n (k+1+1):=rfl;have e2:off ((n+1) / 2) (k+1)=off ((n+1) / 2) k+lv ((n+1) / 2) (k+1):=rfl;rw[e,ih,e2,fN];omega
def hh(n:Nat):Nat:=off n (Q1 n)
theorem Dv{n:Nat}(h1:1≤n)(h2:n≤2048):hs n=hh n:=by
 unfold hs hh;rw[Kl (by omega),Int.toNat_natCast]
theorem uI{n:Nat}(h1:1≤n)(h:n≤2):hh n=1:=by
 unfold hh;rw[Jb h];simp[off,lv];omega
theorem GO{n:Nat}(h:2<n):hh n=(n+1) / 2+hh ((n+1) / 2):=by
 unfold hh;rw[Qa h,zbQ]
theorem gp(b:Nat):∀a,1≤a→a≤b→hh a≤hh b:=by
 induction b using Nat.strongRecOn with
 |_ b ih =>
  intro a h1 h;by_cases hb:b≤2
  ·rw[uI h1 (by omega),uI (by omega) hb];exact Nat.le_refl _
  ·rw[GO (by omega:2<b)]
   by_cases ha:a≤2
   ·rw[uI h1 ha];omega
   ·rw[GO (by omega:2<a)]
    have:=ih ((b+1) / 2) (by omega) ((a+1) / 2) (by omega) (by omega);omega
theorem zcU(n:Nat):1≤n→n≤2048→hh n≤2058:=by
 intro h1 h2;have h:=gp 2048 n h1 h2;have e:hh 2048=2047:=by decide +kernel
 omega
theorem zaZ{a b:Nat}(h:a≤b)(hb:b≤2048):hs a≤hs b:=by
 by_cases h0:a=0
 ·subst h0;rw[zai];omega
 ·rw[Dv (by omega) (by omega),Dv (by omega) hb]
  exact gp b a (by omega) h
theorem gK(n:Nat):hs n≤2058:=by
 by_cases h:1≤n∧n≤2048
 ·rw[Dv h.1 h.2];exact zcU n h.1 h.2
 ·unfold hs
  rw[Yg (by omega)];show 0≤_;omega
theorem UB(n:Nat)(k:Nat)(hk:k≤Zw (n:Int)):off n k≤hs n:=by
 unfold hs;generalize Zw (n:Int)=m at hk
 induction m with
 |zero=>obtain rfl:k=0:=by omega
        exact Nat.le_refl _
 |succ m ih =>
  by_cases e:k=m+1
  ·rw[e];exact Nat.le_refl _
  ·have:=ih (by omega);simp only[off];omega
def j0(L:Nat)(F:Nat→Bool)(r:Nat):Prop:=r≤L∧(∀t,t<r→F (t+1)=true)∧(r<L→F (r+1)=false)
theorem j0.eq{L:Nat}{F:Nat→Bool}{r s:Nat}(h:j0 L F r)(k:j0 L F s):r=s:=by
 rcases Nat.lt_trichotomy r s with e|e|e
 ·have a:=h.2.2 (by have:=k.1;omega)
  rw[k.2.1 r e]at a;cases a
 ·exact e
 ·have a:=k.2.2 (by have:=h.1;omega)
  rw[h.2.1 s e]at a;cases a
def xN(rest:Nat→Nat)(n:Nat)(d:Nat):Bool:=decide (d+rest d≤n)
theorem dR{rest:Nat→Nat}{n L:Nat}(hm:∀a b,a≤b→b≤L→rest a≤rest b)(a b:Nat)(h:a≤b)(hb:b≤L)(hf:xN rest n b=true):xN rest n a=true:=by
 unfold xN at *;have:=hm a b h hb;simp only[decide_eq_true_eq]at *;omega
def tg(d:Nat):Nat:=(d+3) / 4
theorem zaS(a b:Nat)(h:a≤b):tg a≤tg b:=by unfold tg;omega
def xa(table chunk n:Nat)(s:Nat):Bool:=decide (table+s*chunk≤n)
theorem FB{table chunk n:Nat}(a b:Nat)(h:a≤b)(hf:xa table chunk n b=true):xa table chunk n a=true:=by
 unfold xa at *;have:=Nat.mul_le_mul_right chunk h;simp only[decide_eq_true_eq]at *;omega
theorem j0.more{L n:Nat}{rest:Nat→Nat}(hm:∀a b,a≤b→b≤L→rest a≤rest b){r s:Nat}(h:j0 L (xN rest n) r)(k:j0 L (xN rest (n+1)) s):r≤s∧s≤r+1:=by
 constructor
 ·by_cases e:r≤s
  ·exact e
  ·exfalso
   have hL:=h.1;have a:=k.2.2 (by omega);have b:=h.2.1 s (by omega);unfold xN at a b;simp only[decide_eq_true_eq,decide_eq_false_iff_not]at a b;omega
 ·by_cases e:s≤r+1
  ·exact e
  ·exfalso
   have hL:=k.1;have a:=h.2.2 (by omega);have b:=k.2.1 (r+1) (by omega);have c:=hm (r+1) (r+1+1) (by omega) (by omega);unfold xN at a b;simp only[decide_eq_true_eq,decide_eq_false_iff_not]at a b;omega
end
section
open Go.RowKit Go.Shelf
theorem yB(a b c:Int)(w:World)(h:b≤a∧a≤c):Calls Tryz.prog 126 #[.int .i64 a,.int .i64 b,.int .i64 c] w λe w'=>e= .returned (.bool true)∧w'=w:=by
 obtain⟨h1,h2⟩:=h;go_enter Tryz.func126,Tryz.ntmps126
 go_wp2
 go_ret
 exact⟨rfl,rfl⟩
theorem JC(a b c:Int)(w:World)(h:¬(b≤a∧a≤c)):Calls Tryz.prog 126 #[.int .i64 a,.int .i64 b,.int .i64 c] w λe w'=>e= .returned (.bool false)∧w'=w:=by
 by_cases h1:b≤a
 ·have h2:¬a≤c:=λh2=>h ⟨h1,h2⟩
  clear h;go_enter Tryz.func126,Tryz.ntmps126
  go_wp2
  go_ret
  exact⟨rfl,rfl⟩
 ·clear h
  go_enter Tryz.func126,Tryz.ntmps126
  go_wp2
  go_ret
  exact⟨rfl,rfl⟩
theorem Vu(x s:Nat)(w:World)(hx:x≤100000)(h1:1≤s)(h2:s≤100000):Calls Tryz.prog 127 #[.int .i64 (x:Nat),.int .i64 (s:Nat)] w λe w'=>e= .returned (.int .i64 (((x+s-1) / s:Nat):Int))∧w'=w:=by
 have HE:Hid (((x:Int)+(s:Int)-1) / (s:Int)=(((x+s-1) / s:Nat):Int)):=(by
  rw[Int.natCast_ediv];congr 1;omega:((x:Int)+(s:Int)-1) / (s:Int)=(((x+s-1) / s:Nat):Int))
 generalize (((x+s-1) / s:Nat):Int)=q at HE ⊢;generalize hX:(x:Int)=X at HE ⊢;generalize hS:(s:Int)=S at HE ⊢;have a1:0≤X:=by omega
 have a2:X≤100000:=by omega
 have a3:1≤S:=by omega
 have a4:S≤100000:=by omega
 clear hX hS hx h1 h2;have a5:¬S=0:=by omega
 have a6:¬S= -1:=by omega
 go_enter Tryz.func127,Tryz.ntmps127
 go_wp2
 go_ret
 rw[HE.out];exact⟨rfl,rfl⟩
theorem zbU(d:Nat)(w:World)(h:d≤8192):Calls Tryz.prog 146 #[.int .i64 (d:Nat)] w λe w'=>e= .returned (.int .i64 (tg d:Nat))∧w'=w:=by
 have hg:=Vu d 4 w (by omega) (by omega) (by omega);rw[show(d+4-1) / 4=tg d by unfold tg;omega]at hg;generalize ((tg d:Nat):Int)=q at hg ⊢;generalize ((d:Nat):Int)=D at hg ⊢;clear h;go_enter Tryz.func146,Tryz.ntmps146
 go_wp2_with (first
  |((go_at_call 127)
    refine hg.mono ?_;(rintro e w1 ⟨rfl,rfl⟩)))
 go_ret
 exact⟨rfl,rfl⟩
theorem gi{w:World}{a:Option Addr}{n:Nat}{f:Nat→Nat}(h:FJ w a n f)(k:Nat)(hk:k<n):∃b off,a=some ⟨b,off,none⟩∧b<w.heap.size∧w.cell? ⟨b,off+k,none⟩=some (.int .i64 (f k:Nat)):=by
 rcases h with h|⟨b,off,rfl,hb,hc⟩
 ·omega
 ·exact⟨b,off,rfl,hb,hc k hk⟩
theorem DY(n:Nat)(w:World)(hn:n≤8192):Calls Tryz.prog 147 #[.int .i64 (n:Nat)] w λe w'=>e= .returned (.int .i64 (hs n:Nat))∧Below w.heap.size w w':=by
 have hL:=Fy (n:Int) w ⟨by omega,by omega⟩;rw[Int.toNat_natCast]at hL;have HP:Hid (∀k,k≤Zw (n:Int)→off n k≤2058):=λk hk=>Nat.le_trans (UB n k hk) (gK n)
 have HE:Hid (off n (Zw (n:Int))=hs n):=rfl;have h11:=Ko (n:Int);generalize Zw (n:Int)=m at hL HP HE h11;generalize (n:Int)=N at hL ⊢;clear hn;go_enter Tryz.func147,Tryz.ntmps147
 go_wp2_with (first
  |((go_at_call 151)
    refine hL.mono ?_;(rintro e w1 ⟨a,c,rfl,hc1,hc2,hints,hb⟩)))
 go_loop [3,9] (λs i=>∃k:Nat,k≤m∧i= .int .i64 k∧s= .int .i64 (off n k:Nat)) (λ_ i=>m-(intOf i).toNat)
 case atStart=>exact⟨0,Nat.zero_le _,rfl,rfl⟩
 case round =>
  obtain⟨k,hk,rfl,rfl⟩:=hrel;have hp:=HP.out k hk;by_cases hlt:k<m
  ·have hp2:=HP.out (k+1) hlt
   have HS:Hid ((off n k:Int)+(lv n (k+1):Int)=((off n (k+1):Nat):Int)):=(by simp only[off];omega:(off n k:Int)+(lv n (k+1):Int)=((off n (k+1):Nat):Int))
   obtain⟨b,o,rfl,hbl,hcell⟩:=gi hints k hlt;have hv:lv n (k+1)≤2058:=by simp only[off]at hp2;omega
   clear hL hp2;generalize lv n (k+1)=v at *;generalize off n k=s at *
   go_wp2
   go_round
   case rel=>exact⟨k+1,hlt,by go_num,by rw[HS.out]⟩
   case measure=>simp[intOf];omega
  ·obtain rfl:k=m:=by omega
   clear hL
   go_wp2
   go_ret
   rw[HE.out];exact⟨rfl,hb⟩
end
end Go.Proofs.YteaddcdpgcgggaaGreatDoor
