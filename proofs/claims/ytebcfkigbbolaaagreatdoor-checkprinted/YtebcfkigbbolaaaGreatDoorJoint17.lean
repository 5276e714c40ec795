import Derived.Test.YtebcfkigbbolaaaGreatDoorJoint16
import Derived.Test.YtebcfkigbbolaaaGreatDoorRows
import Derived.LaidSub
import Derived.LaidMore
import Derived.Lib.LaidTab
namespace Go.Proofs.YtebcfkigbbolaaaGreatDoor
set_option linter.unusedVariables false
set_option maxRecDepth 100000
set_option maxHeartbeats 40000000
section
def gP(f:Nat)(n:Nd)(q:List Tk):Prop:=VX f n∧DK f n∧∃L,yl L∧laid L=qD f n∧xx L=q
def Za(f:Nat)(l:List Nd):Prop:=∀x ∈ l,VX f x∧DK f x
theorem Za.nil(f:Nat):Za f []:=λx h=>by cases h
theorem Za.cons{f:Nat}{x:Nd}{l:List Nd}(h1:VX f x)(h2:DK f x)(h:Za f l):Za f (x::l):=λy hy=>by
 rcases List.mem_cons.1 hy with rfl|hy
 ·exact⟨h1,h2⟩
 ·exact h y hy
theorem Za.append{f:Nat}{l m:List Nd}(h:Za f l)(hm:Za f m):Za f (l++m):=λy hy=>(List.mem_append.1 hy).elim (h y) (hm y)
inductive F2 (re:Nd→Bool):List Kd→List Nd→Prop where
 |nil:F2 re [] []
 |cons {k:Kd} {ks:List Kd} {x:Nd} {l:List Nd}:jT re k x=true→F2 re ks l→F2 re (k::ks) (x::l)
theorem F2.len{re:Nd→Bool}{ks:List Kd}{l:List Nd}(h:F2 re ks l):ks.length=l.length:=by
 induction h with
 |nil=>rfl
 |cons _ _ ih=>simp[ih]
theorem F2.get{re:Nd→Bool}{ks:List Kd}{l:List Nd}(h:F2 re ks l):∀i (h1:i<ks.length) (h2:i<l.length),jT re ks[i] l[i]=true:=by
 induction h with
 |nil=>intro i h1;simp at h1
 |cons hx _ ih =>
  intro i h1 h2;cases i with
  |zero=>exact hx
  |succ i=>exact ih i (by simpa using h1) (by simpa using h2)
def PtR(d:Nat)(k:Kd)(n:Nd)(q:List Tk):Prop:=jT (zL d) k n=true∧gP (d+1) n q
theorem Xu{k:Nat}{t:Tk}(h:jS k t=true):t.kind=k:=by unfold jS at h;simpa using h
theorem dw(d:Nat)(h:Gq (λn q=>zL d n=true∧gP (d+1) n q) (zC d))(k:Kd):Gq (PtR d k) (jC (zC d) k):=by
 cases k
 ·exact h
 ·refine(Gq.take _).bind λt q ht=>Gq.ret ?_
  obtain⟨rfl,hg,hk⟩:=ht;have hk1:=Xu hk;have hn:=Gb hg hk1;refine⟨?_,.inr (.inl ⟨?_,rfl,hn⟩),⟨Nat.zero_le _,λx hx=>by cases hx⟩,[(t.1,[])],yl.word hg,?_,rfl⟩
  ·show(_&&j2 (t.1.n:Int)&&_)=true
   rw[hn];rfl
  ·show ¬(vk=j8∨vk=js)
   decide
  ·rw[j0]
   have e:qD (d+1) (.mk vk [] (t.1.n:Int) (t.2:Int) [])=Lib.itoa (t.1.n:Int):=(if_neg (by show ¬(vk=j8∨vk=js);decide)).trans (if_pos rfl);rw[e,Kq];simp[laid,Zx,hk1]
 ·refine(Gq.take _).bind λt q ht=>Gq.ret ?_
  obtain⟨rfl,hg,hk⟩:=ht;have hn:=UR hg hk;refine⟨?_,.inl (.inr rfl),⟨Nat.zero_le _,λx hx=>by cases hx⟩,[(t.1,[])],yl.word hg,?_,rfl⟩
  ·show(_&&vg t.1.s&&_&&_)=true
   rw[hn];rfl
  ·have e:qD (d+1) (.mk js t.1.s 0 (t.2:Int) [])=t.1.s:=if_pos (.inr rfl)
   rw[e,j0,xq (JN hk).1];simp[laid]
def TL(d:Nat)(l:List Nd)(q:List Tk):Prop:=Za (d+1) l∧∃L,yl L∧Fj L∧laid L=Lib.joinTail [44,32] (l.map (qD (d+1)))∧xx L=q
theorem TL.nil(d:Nat):TL d [] []:=⟨Za.nil _,[],yl.nil,.inl rfl,rfl,rfl⟩
theorem VH(sep x:List UInt8)(r:List (List UInt8)):Lib.joinTail sep (x::r)=sep++x++Lib.joinTail sep r:=by simp[Lib.joinTail]
theorem Jy(sep:List UInt8)(r s:List (List UInt8)):Lib.joinTail sep (r++s)=Lib.joinTail sep r++Lib.joinTail sep s:=by simp[Lib.joinTail]
theorem TL.cons{d:Nat}{x:Nd}{l:List Nd}{t:Tk}{qx ql:List Tk}(ht:t=Kc 44)(hx:gP (d+1) x qx)(hl:TL d l ql):TL d (x::l) ([t]++(qx++(ql++ []))):=by
 obtain⟨h1,h2,Lx,o1,e1,t1⟩:=hx;obtain⟨ha,Ll,o2,hs,e2,t2⟩:=hl;subst ht;refine⟨ha.cons h1 h2,(Kc 44,[32])::(Lx++Ll),yl.sign (ZG 44 (by decide)) rfl (.inr (.inl rfl)) (o1.append o2 hs),.inr ⟨Kc 44,[32],_,rfl,rfl⟩,?_,?_⟩
 ·rw[j0,yb,e1,e2,List.map_cons,VH]
  simp[JG]
 ·rw[xa,yd,t1,t2]
  simp
theorem Fy(d:Nat)(h:∀k,Gq (PtR d k) (jC (zC d) k))(ks:List Kd):Gq (λl q=>F2 (zL d) ks l∧TL d l q) (jx (zC d) false ks):=by
 induction ks with
 |nil=>exact Gq.ret ⟨.nil,TL.nil d⟩
 |cons k ks ih =>
  exact(Gq.take _).bind λt q ht=>(h k).bind λx qx hx=>ih.bind λl ql hl=>Gq.ret (by
   obtain⟨rfl,hg,hk⟩:=ht
   exact⟨.cons hx.1 hl.1,TL.cons (Q3 hg hk) hx.2 hl.2⟩)
theorem dt(d:Nat)(h:Gq (λn q=>zL d n=true∧gP (d+1) n q) (zC d))(f:Nat):Gq (λl q=>((∀x ∈ l,zL d x=true)∧l.length≤f)∧TL d l q) (jY (zC d) f):=by
 induction f with
 |zero=>exact Gq.ret ⟨⟨(λx h=>by cases h),Nat.zero_le _⟩,TL.nil d⟩
 |succ f ih =>
  refine Gq.fork _ ((Gq.take _).bind λt q ht=>h.bind λx qx hx=>ih.bind λl ql hl=>Gq.ret ?_) (Gq.ret ⟨⟨(λx h=>by cases h),Nat.zero_le _⟩,TL.nil d⟩);obtain⟨rfl,hg,hk⟩:=ht;refine⟨⟨λy hy=>?_,by simp only[List.length_cons];have:=hl.1.2;omega⟩,TL.cons (Q3 hg hk) hx.2 hl.2⟩;rcases List.mem_cons.1 hy with rfl|hy
  ·exact hx.1
  ·exact hl.1.1 y hy
theorem XU{d:Nat}{op s:List UInt8}{n a:Int}{l m:List Nd}(hpos:0<(zr op).1.length)(hf:F2 (zL d) (zr op).1 l)(hm:(zr op).2=false→m= [])(hm2:∀x ∈ m,zL d x=true):jM (zL d) (.mk op s n a (l++m))=true:=by
 unfold jM;rw[Bool.and_eq_true];have hlen:=hf.len;constructor
 ·show Xa (zr op).1 (zr op).2 (l++m).length=true
  unfold Xa;rw[List.length_append];cases hb:(zr op).2 with
  |false =>
   have:=hm hb;subst this;rw[List.length_nil,decide_eq_false (show ¬(zr op).1.length=0 by omega),decide_eq_false (show ¬l.length+0<(zr op).1.length by omega),decide_eq_false (show ¬(zr op).1.length<l.length+0 by omega)];rfl
  |true =>
   rw[decide_eq_false (show ¬(zr op).1.length=0 by omega),decide_eq_false (show ¬l.length+m.length<(zr op).1.length by omega)];simp
 ·rw[List.all_eq_true]
  intro i hi;have hi':i<(l++m).length:=List.mem_range.1 hi;show jT (zL d) (Qu (zr op).1 i) ((l++m).getD i _)=true;rw[List.getD_eq_getElem?_getD,List.getElem?_eq_getElem hi'];show jT (zL d) (Qu (zr op).1 i) (l++m)[i]=true;cases hb:(zr op).2 with
  |false =>
   have:=hm hb;subst this;simp only[List.append_nil]at hi' ⊢;obtain⟨hk,e⟩:=KU (ks:=(zr op).1) (i:=i) hpos;rw[←e];have hmin:min i ((zr op).1.length-1)=i:=by omega
   have:=hf.get i (by omega) hi';simp only[hmin];exact this
  |true =>
   have hks:=Jo hb
   have hkd:Qu (zr op).1 i= .ex:=by
    rw[hks];unfold Qu;simp
   rw[hkd];show zL d _=true;by_cases hil:i<l.length
   ·rw[List.getElem_append_left hil]
    rw[hks]at hf hlen;have h0:i=0:=by simp at hlen;omega
    have:=hf.get i (by simp;omega) hil;simp only[h0]at this ⊢;exact this
   ·rw[List.getElem_append_right (by omega)]
    exact hm2 _ (List.getElem_mem _)
theorem fw(x:List UInt8)(r s:List (List UInt8))(sep:List UInt8):Lib.join (x::r++s) sep=Lib.join (x::r) sep++Lib.joinTail sep s:=by
 rw[List.cons_append,Lib.join_cons,Lib.join_cons,Jy,List.append_assoc]
def InP(d:Nat)(op:List UInt8)(l:List Nd)(q:List Tk):Prop:=(∀s n a,jM (zL d) (.mk op s n a l)=true)∧Za (d+1) l∧l.length≤1000∧∃L,yl L∧Fj L∧laid L= [40]++Lib.join (l.map (qD (d+1))) [44,32]++ [41]∧xx L=q
theorem G0(d:Nat)(h:Gq (λn q=>zL d n=true∧gP (d+1) n q) (zC d))(op:List UInt8)(hpos:0<(zr op).1.length):Gq (InP d op) (qI (zC d) op):=by
 have hp:=dw d h
 have hfirst:Gq (λl q=>F2 (zL d) (zr op).1 l∧Za (d+1) l∧∃x r L,l=x::r∧yl L∧laid L=Lib.join (l.map (qD (d+1))) [44,32]∧xx L=q) (jx (zC d) true (zr op).1):=by
  cases hks:(zr op).1 with
  |nil=>rw[hks]at hpos;simp at hpos
  |cons k ks =>
   refine(hp k).bind λx qx hx=>(Fy d hp ks).bind λl ql hl=>Gq.ret ?_
   obtain⟨h0,h1,h2,Lx,o1,e1,t1⟩:=hx;obtain⟨hf,ha,Ll,o2,hs,e2,t2⟩:=hl;refine⟨.cons h0 hf,ha.cons h1 h2,x,l,Lx++Ll,rfl,o1.append o2 hs,?_,?_⟩
   ·rw[yb,e1,e2,List.map_cons,Lib.join_cons]
   ·rw[yd,t1,t2];simp
 have hmore:Gq (λm q=>(((zr op).2=false→m= [])∧(∀x ∈ m,zL d x=true)∧m.length≤501)∧TL d m q) (if(zr op).2=true then jY (zC d) 501 else qT []):=
  Gq.ite _ (λhb=>(dt d h 501).mono λm q hm=>⟨⟨λe=>(by rw[hb]at e;cases e),hm.1.1,hm.1.2⟩,hm.2⟩) (λhb=>Gq.ret ⟨⟨λ_=>rfl,(λx hx=>by cases hx),Nat.zero_le _⟩,TL.nil d⟩)
 refine(Gq.take _).bind λt1 q1 h1=>hfirst.bind λl ql hl=>hmore.bind λm qm hm=>(Gq.take _).bind λt2 q2 h2=>Gq.ret ?_
 obtain⟨rfl,hg1,hk1⟩:=h1;obtain⟨rfl,hg2,hk2⟩:=h2;obtain⟨hf,ha,x,r,L,rfl,o1,e1,tt1⟩:=hl;obtain⟨⟨c1,c2,c3⟩,hb,M,o2,hs,e2,tt2⟩:=hm;have s1:=Q3 hg1 hk1;have s2:=Q3 hg2 hk2;have hlen:=hf.len;have h3:=Zk op;refine⟨λs n a=>XU hpos hf c1 c2,ha.append hb,by rw[List.length_append];omega,(Kc 40,[])::(L++M++ [(Kc 41,[])]),?_,.inr ⟨Kc 40,[],_,rfl,rfl⟩,?_,?_⟩
 ·exact yl.sign (ZG 40 (by decide)) rfl (.inl rfl) ((o1.append o2 hs).append (yl.sign (ZG 41 (by decide)) rfl (.inl rfl) yl.nil) (.inr ⟨Kc 41,[],[],rfl,rfl⟩))
 ·rw[j0,yb,yb,e1,e2,List.map_append,List.map_cons,fw]
  simp[laid,JG]
 ·rw[xa,yd,yd,tt1,tt2,s1,s2]
  simp[xx]
theorem dA{op:List UInt8}(h:0<(zr op).1.length):¬(op=j8∨op=js)∧op≠vk∧op≠j8:=by
 refine⟨?_,?_,?_⟩
 ·rintro(rfl|rfl)
  ·exact absurd h (by decide)
  ·exact absurd h (by decide)
 ·rintro rfl;exact absurd h (by decide)
 ·rintro rfl;exact absurd h (by decide)
theorem GE(d:Nat):Gq (λn q=>zL d n=true∧gP (d+1) n q) (zC d):=by
 induction d with
 |zero=>intro en ts hg x r hx;cases hx
 |succ d ih =>
  refine(Gq.take _).bind λt q ht=>?_
  obtain⟨rfl,hg,hb⟩:=ht;refine Gq.ite _ (λhn=>Gq.ret ?_) (λhn=>?_)
  ·have hh:=UR hg hn
   refine⟨?_,.inl (.inl rfl),⟨Nat.zero_le _,λx hx=>by cases hx⟩,[(t.1,[])],yl.word hg,?_,rfl⟩
   ·show(true&&(if j8=j8 then vg t.1.s&&true else _))=true
    rw[if_pos rfl,hh];rfl
   ·have e:qD (d+2) (.mk j8 t.1.s 0 (t.2:Int) [])=t.1.s:=if_pos (.inl rfl)
    rw[e,j0,xq (JN hn).1];simp[laid]
  ·have hpos:=Qs hb (by simpa using hn)
   have h0:t.1.kind=0:=by
    unfold j6 at hb;rw[show jl t.1=false by simpa using hn]at hb;simp at hb;exact hb.1
   obtain⟨u1,u2,u3⟩:=dA hpos;refine(G0 d ih t.1.s hpos).bind λl ql hl=>Gq.ret ?_
   obtain⟨hp,ha,hle,L,o1,hs,e1,t1⟩:=hl;refine⟨?_,.inr (.inr ⟨u1,u2,λx hx=>(ha x hx).1⟩),⟨by show l.length≤_;omega,λx hx=>(ha x hx).2⟩,(t.1,[])::L,?_,?_,?_⟩
   ·show(true&&(if t.1.s=j8 then _ else true&&jM (zL d) _))=true
    rw[if_neg u3,hp [] 0 (t.2:Int)];rfl
   ·exact(yl.word hg).append o1 hs
   ·have e:qD (d+2) (.mk t.1.s [] 0 (t.2:Int) l)=t.1.s++ [40]++Lib.join (l.map (qD (d+1))) [44,32]++ [41]:=(if_neg u1).trans (if_neg u2)
    rw[e,j0,e1,xq h0];simp
   ·rw[xa,t1]
    simp
end
section
structure LnP (n:Nd):Prop where
 s:n.s.length≤1000
 num:(n.op=zc∨n.op=zg)→j2 n.n=true
 hex:(n.op=zT∨n.op=zD)→∃m,n.l= [m]∧m.s.length≤1000
 vol:n.op=zp→∃m,n.l= [m]∧VX 13 m∧DK 13 m
def Rs(op:List UInt8)(r:Int×List Nd)(q:List Tk):Prop:=
 (∀s a,vg s=true→vG (.mk op s r.1 a r.2)=true)∧(∀s a,s.length≤1000→LnP (.mk op s r.1 a r.2)) ∧
 ∃sep L,((sep= []∧L= [])∨(sep= [32]∧yl L))∧(∀s a,sep++laid L=vE (.mk op s r.1 a r.2))∧xx L=q
theorem Vm{op s:List UInt8}{n a:Int}{l:List Nd}(hs:s.length≤1000)(h1:(op=zc∨op=zg)→j2 n=true)(h2:(op=zT∨op=zD)→∃m,l= [m]∧m.s.length≤1000)(h3:op=zp→∃m,l= [m]∧VX 13 m∧DK 13 m):LnP (.mk op s n a l):=⟨hs,h1,h2,h3⟩
theorem GO(op:List UInt8)(hop:op ∈ jt):Gq (Rs op) (qV op):=by
 unfold qV;refine Gq.ite _ (λh1=>?_) (λh1=>Gq.ite _ (λh2=>?_) (λh2=>Gq.ite _ (λh3=>?_) (λh3=>?_)))
 ·refine(Gq.take _).bind λt q ht=>Gq.ret ?_
  obtain⟨rfl,hg,hk⟩:=ht;have hk1:=Xu hk;have hn:=Gb hg hk1;refine⟨λs a hs=>?_,λs a hs=>Vm hs (λ_=>hn) (λh=>?_) (λh=>?_),[32],[(t.1,[])],.inr ⟨rfl,yl.word hg⟩,λs a=>?_,rfl⟩
  ·show(vg s&&(if op=zc∨op=zg then j2 (t.1.n:Int)&&true else _))=true
   rw[hs,if_pos h1,hn];rfl
  ·exfalso
   rcases h1 with rfl|rfl<;>rcases h with h|h<;>exact absurd h (by decide)
  ·exfalso
   rcases h1 with rfl|rfl<;>exact absurd h (by decide)
  ·show[32]++laid [(t.1,[])]=if op=zc∨op=zg then 32::Lib.itoa (t.1.n:Int)else _
   rw[if_pos h1,Kq];simp[laid,Zx,hk1]
 ·refine(Gq.take _).bind λt q ht=>Gq.ret ?_
  obtain⟨rfl,hg,hk⟩:=ht;have hk2:=Xu hk;have hh:=zaJ hg hk2;refine⟨λs a hs=>?_,λs a hs=>Vm hs (λh=>absurd h h1) (λ_=>⟨_,rfl,hg.short⟩) (λh=>?_),[32],[(t.1,[])],.inr ⟨rfl,yl.word hg⟩,λs a=>?_,rfl⟩
  ·show(vg s&&(if op=zc∨op=zg then _ else if op=zT∨op=zD then(true&&true&&(true&&Vs t.1.s&&true&&true))else _))=true
   rw[hs,if_neg h1,if_pos h2,hh];rfl
  ·exfalso
   rcases h2 with rfl|rfl<;>exact absurd h (by decide)
  ·show[32]++laid [(t.1,[])]=if op=zc∨op=zg then _ else if op=zT∨op=zD then[32,36]++t.1.s else _
   rw[if_neg h1,if_pos h2];simp[laid,Zx,hk2]
 ·refine(Gq.take _).bind λt q ht=>(GE 12).bind λn ql hn=>Gq.ret ?_
  obtain⟨rfl,hg,hk⟩:=ht;obtain⟨hr,hT,hF,L,o1,e1,t1⟩:=hn;have hs61:=Q3 hg hk;refine⟨λs a hs=>?_,λs a hs=>Vm hs (λh=>absurd h h1) (λh=>absurd h h2) (λ_=>⟨_,rfl,hT,hF⟩),[32],(Kc 61,[32])::L,.inr ⟨rfl,yl.sign (ZG 61 (by decide)) rfl (.inr (.inl rfl)) o1⟩,λs a=>?_,?_⟩
  ·show(vg s&&(if op=zc∨op=zg then _ else if op=zT∨op=zD then _ else if op=zp then(true&&true&&zL 12 n)else _))=true
   rw[hs,if_neg h1,if_neg h2,if_pos h3,hr];rfl
  ·show[32]++laid ((Kc 61,[32])::L)=if op=zc∨op=zg then _ else if op=zT∨op=zD then _ else if op=zp then[32,61,32]++qD 13 n else _
   rw[if_neg h1,if_neg h2,if_pos h3,j0,e1,JG];simp
  ·rw[xa,t1,hs61]
   simp
 ·have hex:op=zv:=by
   unfold jt at hop;simp only[List.mem_cons,List.not_mem_nil,or_false]at hop;rcases hop with h|h|h|h|h|h
   ·exact absurd (.inl h) h1
   ·exact absurd (.inr h) h1
   ·exact absurd (.inl h) h2
   ·exact absurd (.inr h) h2
   ·exact absurd h h3
   ·exact h
  subst hex;refine Gq.fork _ ((Gq.take _).bind λt q ht=>Gq.ret ?_) (Gq.ret ?_)
  ·obtain⟨rfl,hg,hk⟩:=ht
   have hw:t.1.kind=0∧t.1.s=zO:=by
    unfold jD at hk
    simpa using hk
   refine⟨λs a hs=>?_,λs a hs=>Vm hs (λh=>absurd h h1) (λh=>absurd h h2) (λh=>absurd h h3),[32],[(t.1,[])],.inr ⟨rfl,yl.word hg⟩,λs a=>?_,rfl⟩
   ·show(vg s&&_)=true
    rw[hs];rfl
   ·show[32]++laid [(t.1,[])]=32::zO
    rw[j0,xq hw.1,hw.2];rfl
  ·refine⟨λs a hs=>?_,λs a hs=>Vm hs (λh=>absurd h h1) (λh=>absurd h h2) (λh=>absurd h h3),[],[],.inl ⟨rfl,rfl⟩,λs a=>rfl,rfl⟩
   show(vg s&&_)=true;rw[hs];rfl
def St(n:Nd)(q:List Tk):Prop:=vG n=true∧LnP n∧∃L,(∀rest,xK rest→xK (L++rest))∧laid L=qP n∧xx L=q
theorem GC:Gq St qi:=by
 refine(Gq.take _).bind λt q ht=>(Gq.take _).bind λu q2 hu=>?_
 obtain⟨rfl,hg,hk⟩:=ht;obtain⟨rfl,hgu,hku⟩:=hu
 have hw:t.1.kind=0∧t.1.s ∈ jt:=by
  unfold jD at hk;simp only[Bool.and_eq_true,beq_iff_eq,List.any_eq_true]at hk;obtain⟨h0,y,hy,e⟩:=hk;exact⟨h0,by rw[e];exact hy⟩
 refine(GO t.1.s hw.2).bind λr q3 hr=>(Gq.take _).bind λv q4 hv=>Gq.ret ?_
 obtain⟨rfl,hgv,hkv⟩:=hv;obtain⟨hR,hP,sep,L,hsep,hl,hq⟩:=hr;have hs59:=Q3 hgv hkv;have hu0:=(JN hku).1;refine⟨hR _ _ (UR hgu hku),hP _ _ hgu.short,(t.1,[32])::(u.1,sep)::(L++ [(Kc 59,[10])]),λrest hrest=>?_,?_,?_⟩
 ·have h0:xK ((Kc 59,[10])::rest):= .cons _ _ _ (ZG 59 (by decide)) (.inr (.inr rfl)) (.inl rfl) hrest
  have e:(t.1,[32])::(u.1,sep)::(L++ [(Kc 59,[10])])++rest=(t.1,[32])::(u.1,sep)::(L++(Kc 59,[10])::rest):=by simp
  rw[e];refine .cons _ _ _ hg (.inr (.inl rfl)) (.inr (.inl (by simp))) ?_;rcases hsep with⟨rfl,rfl⟩|⟨rfl,hL⟩
  ·exact .cons _ _ _ hgu (.inl rfl) (.inr (.inr ⟨Kc 59,[10],rest,rfl,rfl⟩)) h0
  ·exact .cons _ _ _ hgu (.inr (.inl rfl)) (.inr (.inl (by simp))) (hL _ _ _ rfl h0)
 ·rw[j0,j0,yb,xq hw.1,xq hu0]
  have e:=hl u.1.s (t.2:Int);show _=t.1.s++ [32]++u.1.s++vE (.mk t.1.s u.1.s r.1 (t.2:Int) r.2)++ [59,10];rw[←e];simp[laid,JG]
 ·rw[xa,xa,yd,hq,hs59]
  simp[xx]
def zad(l:List Nd)(q:List Tk):Prop:=(∀x ∈ l,vG x=true∧LnP x)∧∃L,xK L∧laid L=l.flatMap qP∧xx L=q
theorem V0(f:Nat):Gq zad (qA f):=by
 induction f with
 |zero=>exact Gq.ret ⟨λx h=>(by cases h),[],.nil,rfl,rfl⟩
 |succ f ih =>
  have hb:Gq zad (zt qi λn=>zt (qA f) λl=>qT (n::l)):=GC.bind λn q hn=>ih.bind λl ql hl=>Gq.ret (by
   obtain⟨h1,h2,L,o1,e1,t1⟩:=hn;obtain⟨h3,M,o2,e2,t2⟩:=hl;refine⟨λx hx=>?_,L++M,o1 M o2,?_,?_⟩
   ·rcases List.mem_cons.1 hx with rfl|hx
    ·exact⟨h1,h2⟩
    ·exact h3 x hx
   ·rw[yb,e1,e2];rfl
   ·rw[yd,t1,t2];simp)
  intro en ts hg x r hx;cases ts with
  |nil=>cases hx;exact⟨[],rfl,⟨λx h=>(by cases h),[],.nil,rfl,rfl⟩,hg⟩
  |cons t ts=>exact hb en (t::ts) hg x r hx
theorem gL{t:Tk}(h:xw t):(Zx t).length≤1001:=by
 have hs:=h.short;unfold Zx
 split
 ·rename_i h1;have:=Uq 8 t.n (by have:=(h.num h1).2;simpa using this);omega
 ·split
  ·simp;omega
  ·omega
theorem D2{L:X4}(h:xK L):(laid L).length≤1002*L.length:=by
 induction h with
 |nil=>simp[laid]
 |cons t s L hg hs _ _ ih =>
  rw[j0];have:=gL hg;have h1:s.length≤1:=by rcases hs with rfl|rfl|rfl<;>simp
  simp only[List.length_append,List.length_cons];omega
theorem fU{x:Nd}{l:List Nd}(h:x ∈ l):(qP x).length≤(l.flatMap qP).length:=by
 induction l with
 |nil=>cases h
 |cons y l ih =>
  rw[List.flatMap_cons,List.length_append];rcases List.mem_cons.1 h with rfl|h
  ·omega
  ·have:=ih h;omega
theorem zbh{n:Nd}(h:LnP n)(hz:(qP n).length≤1000000):VQ n:=by
 refine⟨by have:=h.s;omega,h.num,λe=>?_,λe=>?_⟩
 ·obtain⟨m,e1,e2⟩:=h.hex e
  exact⟨m,e1,by omega⟩
 ·obtain⟨m,e1,e2,e3⟩:=h.vol e
  refine⟨m,e1,e2,?_,e3⟩
  have e4:vE n= [32,61,32]++qD 13 m:=by
   unfold vE;rw[if_neg (by rw[e];decide),if_neg (by rw[e];decide),if_pos e,e1];rfl
  unfold qP at hz;rw[e4]at hz;simp only[List.length_append]at hz;omega
theorem Uh(f:Nat):∀(x y:Nd),qL x y→qD f x=qD f y:=by
 induction f with
 |zero=>intro x y _;rfl
 |succ f ih =>
  intro x y h;cases h with
  |mk o s n a b l l' hl hi =>
   have e:l.map (qD f)=l'.map (qD f):=by
    apply List.ext_getElem
    ·simp[hl]
    ·intro i h1 h2
     simp only[List.getElem_map];exact ih _ _ (hi i (by simpa using h1) (by simpa using h2))
   simp only[qD,Nd.op,Nd.s,Nd.n,Nd.l];rw[e];rfl
theorem dT{x y:Nd}(h:qL x y):x.s=y.s:=by cases h;rfl
theorem kX{x y:Nd}(h:qL x y):qP x=qP y:=by
 cases h with
 |mk o s n a b l l' hl hi =>
  have e:vE (.mk o s n a l)=vE (.mk o s n b l'):=by
   unfold vE;simp only[Nd.op,Nd.n,Nd.l]
   have h0:(l.getD 0 (.mk [] [] 0 0 [])).s=(l'.getD 0 (.mk [] [] 0 0 [])).s∧qD 13 (l.getD 0 (.mk [] [] 0 0 []))=qD 13 (l'.getD 0 (.mk [] [] 0 0 [])):=by
    cases l with
    |nil =>
     cases l' with
     |nil=>exact⟨rfl,rfl⟩
     |cons y l'=>simp at hl
    |cons x l =>
     cases l' with
     |nil=>simp at hl
     |cons y l' =>
      have:=hi 0 (by simp) (by simp);exact⟨dT this,Uh 13 _ _ this⟩
   rw[h0.1,h0.2];rfl
  unfold qP;rw[e];rfl
theorem fC{l m:List Nd}(h:AL l m):l.flatMap qP=m.flatMap qP:=by
 have hl:=h.len;have hg:=h.get
 have e:l.map qP=m.map qP:=by
  apply List.ext_getElem
  ·simp[hl]
  ·intro i h1 h2
   simp only[List.getElem_map];exact kX (hg i (by simpa using h1) (by simpa using h2))
 rw[List.flatMap_def,List.flatMap_def,e]
theorem yO{x:List UInt8}{n:Nd}(h:jn x= .ok n):xP n=true∧(∀y ∈ n.l,VQ y)∧(printed n).length≤1000000:=by
 obtain⟨ts,l,hS,hp,rfl⟩:=ZT h;obtain⟨hlen,hgd⟩:=vQ hS;obtain⟨q,e,⟨h1,L,o1,e1,t1⟩,_⟩:=V0 501 _ ts hgd l [] hp
 have hq:L.length≤500:=by
  have :(xx L).length=ts.length:=by rw[t1];have:=congrArg List.length e;simpa [Qq]using this.symm
  simp[xx]at this;omega
 have hz:(l.flatMap qP).length≤1000000:=by rw[←e1];have:=D2 o1;omega
 refine⟨?_,λy hy=>zbh (h1 y hy).2 (by have:=fU (l:=l) hy;omega),hz⟩;unfold xP;rw[show Nd.l (.mk ji [] 0 0 l)=l from rfl,List.all_eq_true.2 (λy hy=>(h1 y hy).1)];rfl
theorem UP{x:List UInt8}{n:Nd}(h:jn x= .ok n)(hz:(printed n).length≤2000):∃m,jn (printed n)= .ok m∧qL n m∧printed m=printed n:=by
 obtain⟨ts,l,hS,hp,rfl⟩:=ZT h;obtain⟨hlen,hgd⟩:=vQ hS;obtain⟨q,e,⟨h1,L,o1,e1,t1⟩,_⟩:=V0 501 _ ts hgd l [] hp;have e':xx L=Qq ts:=by rw[t1,e];simp[Qq]
 have hq:L.length≤500:=by
  have :(xx L).length=ts.length:=by rw[e'];simp[Qq]
  simp[xx]at this;omega
 have hpr:printed (.mk ji [] 0 0 l)=laid L:=e1.symm;rw[hpr]at hz ⊢
 have hS2:j9 (laid L)= .ok (places 0 L):=by
  unfold j9;rw[if_neg (by omega)];exact fO L _ 0 0 o1 (by omega) (by omega)
 obtain⟨m,s,hp2,hal,hs⟩:=D1 501 x.length (laid L).length ts (places 0 L) (by rw[Kj,e']) l [] hp
 have hs0:s= []:=by
  cases s with
  |nil=>rfl
  |cons a b=>simp[Qq]at hs
 subst hs0;refine⟨_,FH hS2 hp2,qL.of hal,?_⟩;rw[←hpr];exact(fC hal).symm
end
section
open Go.ChangeShapes Go.WideShapes Go.ChangeAt Go.RowKit
theorem za5{W:World}{l:List (String×DataW Unit)}(hf:l.filter (λx=>x.1== "internal/strconv.uint64pow10")= [("internal/strconv.uint64pow10",Lib.tabData .u64 Lib.pow10Tab)])(h:laidMetH Tryz.prog l W):JX W:=by
 have h1:=h.filter (λx=>x.1== "internal/strconv.uint64pow10");rw[hf,MakeChecks.laidMetH_plain _ _ _ (by kernel_rfl)]at h1;exact Lib.tabIs_of_head (g:=0) (t:=197) (e:=175) (n:=20) (by kernel_rfl) (by kernel_rfl) (by kernel_rfl) (by kernel_rfl) (by kernel_rfl) (by kernel_rfl) h1
end
section
open Go.ChangeShapes Go.WideShapes Go.ChangeAt Go.RowKit Go.MapKept
theorem zaC(x:List UInt8)(w:World)(hx:x.length≤maxLen){c k:Nat}(hP:jn x= .error (c,k)):Calls Tryz.prog 6 #[.string (bs x)] w λe w'=>e= .returned (.bool true)∧Below w.heap.size w w':=by
 have hpa:Calls Tryz.prog 18 #[.string (bs x)] w λe w'=>e= .returned (.tuple #[.agg #[.string ⟨#[]⟩,.string ⟨#[]⟩,.int .i64 0,.int .i64 0,.slice none 0 0],.int .i64 (c:Nat),.int .i64 (k:Nat)])∧Below w.heap.size w w':=by
  have:=Zh x w hx;rw[hP]at this;refine this.mono ?_;rintro e w' ⟨hb,rfl⟩;exact⟨rfl,hb⟩
 obtain⟨hk,hc0⟩:=XN hP;have hc0':¬((c:Nat):Int)=0:=by omega
 clear hP hc0 hk;go_enter Tryz.func6,Tryz.ntmps6
 go_wp2_with (first
  |((go_at_call 18)
    refine hpa.mono ?_;(rintro e w1 ⟨rfl,hb1⟩))
  |((go_at_call 14)
    refine(ZZ _).mono ?_;(rintro e w2 ⟨rfl,hb2⟩)))
 go_ret
 exact⟨rfl,(hb1.alloc hb1.size _).trans (hb2.mono (by have:=hb1.size;simp;omega))⟩
theorem DW(x:List UInt8)(w:World)(hx:x.length≤maxLen)(ht:JX w){n:Nd}(hP:jn x= .ok n)(hz:2000<(printed n).length):Calls Tryz.prog 6 #[.string (bs x)] w λe w'=>e= .returned (.bool true)∧Below w.heap.size w w':=by
 obtain⟨hR,hLn,hlen⟩:=yO hP;have sml:=xb hP;have lim:=y8 hP
 have hX:Calls Tryz.prog 18 #[.string (bs x)] w λe w'=>∃A C,e= .returned (.tuple #[.agg #[.string (bs n.op),.string (bs n.s),.int .i64 n.n,.int .i64 n.a,.slice A n.l.length C],.int .i64 0,.int .i64 (-1)])∧jZ w' n A C∧Below w.heap.size w w':=by
  have:=Zh x w hx;rw[hP]at this;refine this.mono ?_;rintro e w' ⟨hb,A,C,rfl,hn⟩;exact⟨A,C,rfl,hn.rdn sml,hb⟩
 have HPR:=zz (λW A C (hT:JX W) (h:jZ W n A C)=>show Calls Tryz.prog 19 #[.agg #[.string (bs n.op),.string (bs n.s),.int .i64 n.n,.int .i64 n.a,.slice A n.l.length C]] W _ from J7 n A C W h hT hR hLn (by omega))
 have hE:jn (printed n)= .error (103,0):=by
  unfold jn j9;rw[if_pos hz]
 have HQ:=zz (λW=>show Calls Tryz.prog 18 #[.string (bs (printed n))] W λe w'=>e= .returned (.tuple #[.agg #[.string ⟨#[]⟩,.string ⟨#[]⟩,.int .i64 0,.int .i64 0,.slice none 0 0],.int .i64 103,.int .i64 0])∧Below W.heap.size W w' from by
  have:=Zh (printed n) W (by unfold maxLen;omega);rw[hE]at this;refine this.mono ?_;rintro e w' ⟨hb,rfl⟩
  exact⟨rfl,hb⟩)
 generalize printed n=S at *;clear hP hR hLn hlen hE hz sml lim;go_enter Tryz.func6,Tryz.ntmps6
 go_wp2_with (first
  |((go_at_call 18)
    refine zh 0 (.string (bs x)) rfl ?_;refine hX.mono ?_;rintro e w1 ⟨A,C,rfl,hr1,hb1⟩;(clear hX))
  |((go_at_call 19)
    refine(HPR.out _ A C (ht.below (hb1.alloc hb1.size _)) (hr1.grow (zd w1 _))).mono ?_;rintro e w2 ⟨rfl,hb2⟩;have hN2:=(ze.new w1 24 #[.string (bs n.op),.string (bs n.s),.int .i64 n.n,.int .i64 n.a,.slice A n.l.length C]).below hb2 (by simp);have hB2:Below w.heap.size w w2:=(hb1.alloc hb1.size _).trans (hb2.mono (by have:=hb1.size;simp;omega));(have hr2:=(hr1.grow (zd w1 (.cells #[.string (bs n.op),.string (bs n.s),.int .i64 n.n,.int .i64 n.a,.slice A n.l.length C] 24))).grow hb2))
  |((go_at_call 18)
    refine(HQ.out _).mono ?_;(rintro e w3 ⟨rfl,hb3⟩))
  |((go_at_call 14)
    refine(ZZ _).mono ?_;(rintro e w4 ⟨rfl,hb4⟩)))
 go_ret
 have q2:=hB2.size;have q3:=hb3.size;exact⟨rfl,((hB2.trans (hb3.mono q2)).alloc (by omega) _).trans (hb4.mono (by simp;omega))⟩
theorem zbp(x:List UInt8)(w:World)(hx:x.length≤maxLen)(ht:JX w){n m:Nd}(hP:jn x= .ok n)(hQ:jn (printed n)= .ok m){s:VK}(hC1:jK n= .ok s)(hC2:jK m= .ok s):Calls Tryz.prog 6 #[.string (bs x)] w λe w'=>e= .returned (.bool true)∧Below w.heap.size w w':=by
 obtain⟨hR,hLn,hlen⟩:=yO hP;have sml:=xb hP;have lim:=y8 hP
 have hX:Calls Tryz.prog 18 #[.string (bs x)] w λe w'=>∃A C,e= .returned (.tuple #[.agg #[.string (bs n.op),.string (bs n.s),.int .i64 n.n,.int .i64 n.a,.slice A n.l.length C],.int .i64 0,.int .i64 (-1)])∧jZ w' n A C∧Below w.heap.size w w':=by
  have:=Zh x w hx;rw[hP]at this;refine this.mono ?_;rintro e w' ⟨hb,A,C,rfl,hn⟩;exact⟨A,C,rfl,hn.rdn sml,hb⟩
 have HPR:=zz (λW A C (hT:JX W) (h:jZ W n A C)=>show Calls Tryz.prog 19 #[.agg #[.string (bs n.op),.string (bs n.s),.int .i64 n.n,.int .i64 n.a,.slice A n.l.length C]] W _ from J7 n A C W h hT hR hLn (by omega));have lim2:=y8 hQ;have sml2:=xb hQ;have hsw:=Fs lim hC1
 have HQ:=zz (λW=>show Calls Tryz.prog 18 #[.string (bs (printed n))] W λe w'=>∃A2 C2,e= .returned (.tuple #[.agg #[.string (bs m.op),.string (bs m.s),.int .i64 m.n,.int .i64 m.a,.slice A2 m.l.length C2],.int .i64 0,.int .i64 (-1)])∧jZ w' m A2 C2∧Below W.heap.size W w' from by
  have:=Zh (printed n) W (by unfold maxLen;omega);rw[hQ]at this;refine this.mono ?_;rintro e w' ⟨hb,A,C,rfl,hn⟩
  exact⟨A,C,rfl,hn.rdn sml2,hb⟩)
 have HC1:=zz (λW A C (h:jZ W n A C)=>by have:=QM n A C W h lim;rw[hC1]at this;exact this);have HC2:=zz (λW A C (h:jZ W m A C)=>by have:=QM m A C W h lim2;rw[hC2]at this;exact this);unfold zR at HC1 HC2;generalize printed n=S at *;clear hP hQ hR hLn hlen sml lim sml2 lim2 hC1 hC2;go_enter Tryz.func6,Tryz.ntmps6
 go_wp2_with (first
  |((go_at_call 18)
    refine zh 0 (.string (bs x)) rfl ?_;refine hX.mono ?_;rintro e w1 ⟨A,C,rfl,hr1,hb1⟩;(clear hX))
  |((go_at_call 19)
    refine(HPR.out _ A C (ht.below (hb1.alloc hb1.size _)) (hr1.grow (zd w1 _))).mono ?_;rintro e w2 ⟨rfl,hb2⟩;have hN2:=(ze.new w1 24 #[.string (bs n.op),.string (bs n.s),.int .i64 n.n,.int .i64 n.a,.slice A n.l.length C]).below hb2 (by simp);have hB2:Below w.heap.size w w2:=(hb1.alloc hb1.size _).trans (hb2.mono (by have:=hb1.size;simp;omega));(have hr2:=(hr1.grow (zd w1 (.cells #[.string (bs n.op),.string (bs n.s),.int .i64 n.n,.int .i64 n.a,.slice A n.l.length C] 24))).grow hb2))
  |((go_at_call 18)
    refine(HQ.out _).mono ?_;rintro e w3 ⟨A2,C2,rfl,hr3,hb3⟩;have hN3:=(hN2.below hb3 hN2.lt).alloc (.cells #[.string (bs m.op),.string (bs m.s),.int .i64 m.n,.int .i64 m.a,.slice A2 m.l.length C2] 24);have hM3:=ze.new w3 24 #[.string (bs m.op),.string (bs m.s),.int .i64 m.n,.int .i64 m.a,.slice A2 m.l.length C2];have hB3:Below w.heap.size w (w3.alloc (.cells #[.string (bs m.op),.string (bs m.s),.int .i64 m.n,.int .i64 m.a,.slice A2 m.l.length C2] 24)):=(hB2.trans (hb3.mono hB2.size)).alloc (by have:=hB2.size;have:=hb3.size;omega) _;have hrn:=(hr2.grow hb3).grow (zd w3 (.cells #[.string (bs m.op),.string (bs m.s),.int .i64 m.n,.int .i64 m.a,.slice A2 m.l.length C2] 24));have hrm:=hr3.grow (zd w3 (.cells #[.string (bs m.op),.string (bs m.s),.int .i64 m.n,.int .i64 m.a,.slice A2 m.l.length C2] 24));have a0:=hN3.cell 0;have a1:=hN3.cell 1;have a2:=hN3.cell 2;have a3:=hN3.cell 3;have a4:=hN3.cell 4;simp only[jg,jd,jf]at a0 a1 a2 a3 a4;have al:=hN3.lt;(have c1:=HC1.out _ A C hrn))
  |((go_at_call 11)
    refine zh 0 (.agg #[.string (bs n.op),.string (bs n.s),.int .i64 n.n,.int .i64 n.a,.slice A n.l.length C]) rfl ?_;refine c1.mono ?_;rintro e w5 ⟨hb5,vd1,vp1,rfl,hs5⟩;obtain⟨Ad1,Cd1,rfl⟩:=Zi hs5.devs;obtain⟨Ap1,Cp1,rfl⟩:=ud hs5;clear c1;have hM5:=(hM3.below hb5 hM3.lt).alloc (.cells #[.slice Ad1 s.devs.length Cd1,.int .i64 (s.jour:Nat),.slice Ap1 s.parts.length Cp1,.int .i64 (s.expo:Nat),.bool s.ro] 32);have hS5:=ze.new w5 32 #[.slice Ad1 s.devs.length Cd1,.int .i64 (s.jour:Nat),.slice Ap1 s.parts.length Cp1,.int .i64 (s.expo:Nat),.bool s.ro];have b0:=hM5.cell 0;have b1:=hM5.cell 1;have b2:=hM5.cell 2;have b3:=hM5.cell 3;have b4:=hM5.cell 4;simp only[jg,jd,jf]at b0 b1 b2 b3 b4;have bl:=hM5.lt;(have c2:=HC2.out _ A2 C2 ((hrm.grow hb5).grow (zd w5 (.cells #[.slice Ad1 s.devs.length Cd1,.int .i64 (s.jour:Nat),.slice Ap1 s.parts.length Cp1,.int .i64 (s.expo:Nat),.bool s.ro] 32)))))
  |((go_at_call 11)
    refine c2.mono ?_;rintro e w6 ⟨hb6,vd2,vp2,rfl,hs6⟩;obtain⟨Ad2,Cd2,rfl⟩:=Zi hs6.devs;obtain⟨Ap2,Cp2,rfl⟩:=ud hs6;have hS6:=(hS5.below hb6 hS5.lt).alloc (.cells #[.slice Ad2 s.devs.length Cd2,.int .i64 (s.jour:Nat),.slice Ap2 s.parts.length Cp2,.int .i64 (s.expo:Nat),.bool s.ro] 32);have d0:=hS6.cell 0;have d1:=hS6.cell 1;have d2:=hS6.cell 2;have d3:=hS6.cell 3;have d4:=hS6.cell 4;simp only[jg,jd,jf]at d0 d1 d2 d3 d4;have dl:=hS6.lt;(have dlt:=hS6.lt))
  |((go_at_call 13)
    refine(FK ((hs5.keep (zd w5 _).size (λk hk _=>(zd w5 _).block k hk)).keep hb6.size (λk hk _=>hb6.block k hk) |>.keep (zd w6 _).size (λk hk _=>(zd w6 _).block k hk)) (hs6.keep (zd w6 _).size (λk hk _=>(zd w6 _).block k hk)) hsw).mono ?_;(rintro e w7 ⟨rfl,hb7⟩))
  |((go_at_call 14)
    refine(ZZ _).mono ?_;(rintro e w8 ⟨rfl,hb8⟩)))
 go_ret
 have z3:=hB3.size;have z5:=hb5.size;have z6:=hb6.size;have z7:=hb7.size;simp at z6 z7;have y5:Below w.heap.size w (w5.alloc (.cells #[.slice Ad1 s.devs.length Cd1,.int .i64 (s.jour:Nat),.slice Ap1 s.parts.length Cp1,.int .i64 (s.expo:Nat),.bool s.ro] 32)):=(hB3.trans (hb5.mono z3)).alloc (by omega) _;have y6:Below w.heap.size w (w6.alloc (.cells #[.slice Ad2 s.devs.length Cd2,.int .i64 (s.jour:Nat),.slice Ap2 s.parts.length Cp2,.int .i64 (s.expo:Nat),.bool s.ro] 32)):=(y5.trans (hb6.mono (by simp;omega))).alloc (by omega) _;exact⟨rfl,(y6.trans (hb7.mono (by simp;omega))).trans (hb8.mono (by omega))⟩
theorem zaT(x:List UInt8)(w:World)(hx:x.length≤maxLen)(ht:JX w){n m:Nd}(hP:jn x= .ok n)(hQ:jn (printed n)= .ok m){ec:Nat}{k1 k2:Int}(hC1:jK n= .error (ec,k1))(hC2:jK m= .error (ec,k2)):Calls Tryz.prog 6 #[.string (bs x)] w λe w'=>e= .returned (.bool true)∧Below w.heap.size w w':=by
 obtain⟨hR,hLn,hlen⟩:=yO hP;have sml:=xb hP;have lim:=y8 hP
 have hX:Calls Tryz.prog 18 #[.string (bs x)] w λe w'=>∃A C,e= .returned (.tuple #[.agg #[.string (bs n.op),.string (bs n.s),.int .i64 n.n,.int .i64 n.a,.slice A n.l.length C],.int .i64 0,.int .i64 (-1)])∧jZ w' n A C∧Below w.heap.size w w':=by
  have:=Zh x w hx;rw[hP]at this;refine this.mono ?_;rintro e w' ⟨hb,A,C,rfl,hn⟩;exact⟨A,C,rfl,hn.rdn sml,hb⟩
 have HPR:=zz (λW A C (hT:JX W) (h:jZ W n A C)=>show Calls Tryz.prog 19 #[.agg #[.string (bs n.op),.string (bs n.s),.int .i64 n.n,.int .i64 n.a,.slice A n.l.length C]] W _ from J7 n A C W h hT hR hLn (by omega));have lim2:=y8 hQ;have sml2:=xb hQ
 have HQ:=zz (λW=>show Calls Tryz.prog 18 #[.string (bs (printed n))] W λe w'=>∃A2 C2,e= .returned (.tuple #[.agg #[.string (bs m.op),.string (bs m.s),.int .i64 m.n,.int .i64 m.a,.slice A2 m.l.length C2],.int .i64 0,.int .i64 (-1)])∧jZ w' m A2 C2∧Below W.heap.size W w' from by
  have:=Zh (printed n) W (by unfold maxLen;omega);rw[hQ]at this;refine this.mono ?_;rintro e w' ⟨hb,A,C,rfl,hn⟩
  exact⟨A,C,rfl,hn.rdn sml2,hb⟩)
 have HC1:=zz (λW A C (h:jZ W n A C)=>by have:=QM n A C W h lim;rw[hC1]at this;exact this);have HC2:=zz (λW A C (h:jZ W m A C)=>by have:=QM m A C W h lim2;rw[hC2]at this;exact this);unfold zR at HC1 HC2;generalize printed n=S at *;clear hP hQ hR hLn hlen sml lim sml2 lim2 hC1 hC2;go_enter Tryz.func6,Tryz.ntmps6
 go_wp2_with (first
  |((go_at_call 18)
    refine zh 0 (.string (bs x)) rfl ?_;refine hX.mono ?_;rintro e w1 ⟨A,C,rfl,hr1,hb1⟩;(clear hX))
  |((go_at_call 19)
    refine(HPR.out _ A C (ht.below (hb1.alloc hb1.size _)) (hr1.grow (zd w1 _))).mono ?_;rintro e w2 ⟨rfl,hb2⟩;have hN2:=(ze.new w1 24 #[.string (bs n.op),.string (bs n.s),.int .i64 n.n,.int .i64 n.a,.slice A n.l.length C]).below hb2 (by simp);have hB2:Below w.heap.size w w2:=(hb1.alloc hb1.size _).trans (hb2.mono (by have:=hb1.size;simp;omega));(have hr2:=(hr1.grow (zd w1 (.cells #[.string (bs n.op),.string (bs n.s),.int .i64 n.n,.int .i64 n.a,.slice A n.l.length C] 24))).grow hb2))
  |((go_at_call 18)
    refine(HQ.out _).mono ?_;rintro e w3 ⟨A2,C2,rfl,hr3,hb3⟩;have hN3:=(hN2.below hb3 hN2.lt).alloc (.cells #[.string (bs m.op),.string (bs m.s),.int .i64 m.n,.int .i64 m.a,.slice A2 m.l.length C2] 24);have hM3:=ze.new w3 24 #[.string (bs m.op),.string (bs m.s),.int .i64 m.n,.int .i64 m.a,.slice A2 m.l.length C2];have hB3:Below w.heap.size w (w3.alloc (.cells #[.string (bs m.op),.string (bs m.s),.int .i64 m.n,.int .i64 m.a,.slice A2 m.l.length C2] 24)):=(hB2.trans (hb3.mono hB2.size)).alloc (by have:=hB2.size;have:=hb3.size;omega) _;have hrn:=(hr2.grow hb3).grow (zd w3 (.cells #[.string (bs m.op),.string (bs m.s),.int .i64 m.n,.int .i64 m.a,.slice A2 m.l.length C2] 24));have hrm:=hr3.grow (zd w3 (.cells #[.string (bs m.op),.string (bs m.s),.int .i64 m.n,.int .i64 m.a,.slice A2 m.l.length C2] 24));have a0:=hN3.cell 0;have a1:=hN3.cell 1;have a2:=hN3.cell 2;have a3:=hN3.cell 3;have a4:=hN3.cell 4;simp only[jg,jd,jf]at a0 a1 a2 a3 a4;have al:=hN3.lt;(have c1:=HC1.out _ A C hrn))
  |((go_at_call 11)
    refine zh 0 (.agg #[.string (bs n.op),.string (bs n.s),.int .i64 n.n,.int .i64 n.a,.slice A n.l.length C]) rfl ?_;refine c1.mono ?_;rintro e w5 ⟨hb5,rfl⟩;clear c1;have hM5:=(hM3.below hb5 hM3.lt).alloc (.cells #[.slice none 0 0,.int .i64 0,.slice none 0 0,.int .i64 0,.bool false] 32);have hS5:=ze.new w5 32 #[.slice none 0 0,.int .i64 0,.slice none 0 0,.int .i64 0,.bool false];have b0:=hM5.cell 0;have b1:=hM5.cell 1;have b2:=hM5.cell 2;have b3:=hM5.cell 3;have b4:=hM5.cell 4;simp only[jg,jd,jf]at b0 b1 b2 b3 b4;have bl:=hM5.lt;(have c2:=HC2.out _ A2 C2 ((hrm.grow hb5).grow (zd w5 (.cells #[.slice none 0 0,.int .i64 0,.slice none 0 0,.int .i64 0,.bool false] 32)))))
  |((go_at_call 11)
    refine c2.mono ?_;rintro e w6 ⟨hb6,rfl⟩;have hS6:=(hS5.below hb6 hS5.lt).alloc (.cells #[.slice none 0 0,.int .i64 0,.slice none 0 0,.int .i64 0,.bool false] 32);have d0:=hS6.cell 0;have d1:=hS6.cell 1;have d2:=hS6.cell 2;have d3:=hS6.cell 3;have d4:=hS6.cell 4;simp only[jg,jd,jf]at d0 d1 d2 d3 d4;have dl:=hS6.lt;(have dlt:=hS6.lt))
  |((go_at_call 13)
    refine(K8 _).mono ?_;(rintro e w7 ⟨rfl,hb7⟩))
  |((go_at_call 14)
    refine(ZZ _).mono ?_;(rintro e w8 ⟨rfl,hb8⟩)))
 go_ret
 have z3:=hB3.size;have z5:=hb5.size;have z6:=hb6.size;have z7:=hb7.size;simp at z6 z7;have y5:Below w.heap.size w (w5.alloc (.cells #[.slice none 0 0,.int .i64 0,.slice none 0 0,.int .i64 0,.bool false] 32)):=(hB3.trans (hb5.mono z3)).alloc (by omega) _;have y6:Below w.heap.size w (w6.alloc (.cells #[.slice none 0 0,.int .i64 0,.slice none 0 0,.int .i64 0,.bool false] 32)):=(y5.trans (hb6.mono (by simp;omega))).alloc (by omega) _;exact⟨rfl,(y6.trans (hb7.mono (by simp;omega))).trans (hb8.mono (by omega))⟩
theorem Vq(x:List UInt8)(w:World)(hx:x.length≤maxLen)(ht:JX w):Calls Tryz.prog 6 #[.string (bs x)] w λe w'=>e= .returned (.bool true)∧Below w.heap.size w w':=by
 cases hP:jn x with
 |error er=>obtain⟨c,k⟩:=er;exact zaC x w hx hP
 |ok n =>
  by_cases hz:2000<(printed n).length
  ·exact DW x w hx ht hP hz
  ·obtain⟨m,hQ,hal,_⟩:=UP hP (by omega)
   have hn:=(yO hP).1;have hm:=(yO hQ).1;have e1:jK n=Kz n:=by unfold jK;rw[if_pos hn]
   have e2:jK m=Kz m:=by unfold jK;rw[if_pos hm]
   rcases zaQ hal with⟨s,h1,h2⟩|⟨c,k,k',h1,h2⟩
   ·exact zbp x w hx ht hP hQ (e1.trans h1) (e2.trans h2)
   ·exact zaT x w hx ht hP hQ (e1.trans h1) (e2.trans h2)
end
end Go.Proofs.YtebcfkigbbolaaaGreatDoor
