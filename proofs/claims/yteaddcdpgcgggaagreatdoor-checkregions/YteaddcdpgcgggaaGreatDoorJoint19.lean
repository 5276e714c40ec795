import Derived.Test.YteaddcdpgcgggaaGreatDoorJoint18
import Derived.Test.YteaddcdpgcgggaaGreatDoorJoint16
import Derived.Test.YteaddcdpgcgggaaGreatDoorJoint11
import Derived.Test.YteaddcdpgcgggaaGreatDoorJoint08
import Derived.Test.YteaddcdpgcgggaaGreatDoorJoint17
import Derived.Test.YteaddcdpgcgggaaGreatDoorJoint13
import Derived.Test.YteaddcdpgcgggaaGreatDoorJoint07
namespace Go.Proofs.YteaddcdpgcgggaaGreatDoor
set_option linter.unusedVariables false
set_option maxRecDepth 100000
set_option maxHeartbeats 40000000
section
theorem zau(cb:Nat)(w0:World)(d:Nat):RXC cb w0 d:=by
 induction d with
 |zero=>intro E w V k ns n A C _ _ _ _ hx;cases hx
 |succ d ih =>
  intro E w V k ns n A C h hr hcb hb hx hN hg;cases hx with
  |use _ _ e=>exact F8 h hN n A _ C d e
  |mk _ _ e hs hk=>exact fV ih h n A C hr hcb hb e hs hk hN hg
end
section
structure RI (k:Rk) (c:Ck):Prop where
 bad:k.bad=0
 devs:k.devs=c.devs.map (λ(d:Nat)=>(d:Int))
 jour:∀j,c.jour=some j→k.jour=(j:Nat)
 parts:k.parts=c.parts
 expo:∀x,c.expo=some x→k.expo=(x:Nat)∧c.ro=(k.ro||(zR c.parts).getD x false)∧k.place=c.eat
 names:Nr k.things c.names
 js:k.journals=if c.jour.isSome=true then 1 else 0
 es:k.exports=if c.expo.isSome=true then 1 else 0
 ds:k.devices=(jr c.names [zn,zq]:Nat)
 ks:k.keys=(jr c.names [zM,zN]:Nat)
 vs:k.volumes=(jr c.names [zB]:Nat)
def Out(k':Rk)(R:Except Er Ck):Prop:=match R with
 | .error (ec,ea)=>k'.bad=(ec:Nat)∧k'.at'=ea
 | .ok c'=>RI k' c'
theorem XW{k:Rk}{n:Nd}(h:k.bad=0){m:Mn}{ns:vJ}(hN:Nr k.things ns)(hm:lk ns n.s=some m):rh k n= { k with bad:=132,at':=n.a }:=by
 unfold rh;rcases hN.look n.s with⟨a,b⟩|⟨m',a,b,c,d⟩
 ·rw[b]at hm;cases hm
 ·rw[decide_eq_true a]
  exact qu h _ _
theorem GY{k:Rk}{n:Nd}{ns:vJ}(hN:Nr k.things ns)(hm:lk ns n.s=none):rh k n=k:=by
 unfold rh;rcases hN.look n.s with⟨a,b⟩|⟨m',a,b,c,d⟩
 ·rw[a,show decide ((0:Int)≤ -1)=false from rfl,qV]
 ·rw[c]at hm;cases hm
theorem Fl{k:Rk}{n:Nd}(h:(rh k n).bad≠0):(Jr k n).bad=(rh k n).bad∧(Jr k n).at'=(rh k n).at':=by
 have h1:(Zh k n).bad≠0:=h;unfold Jr xO vU QR;rw[qy h1,qy h1];exact⟨rfl,rfl⟩
theorem Gy{k:Rk}{n:Nd}(h:(rh k n).bad≠0):(Zm k n).bad=(rh k n).bad∧(Zm k n).at'=(rh k n).at':=by
 have h1:(Zh k n).bad≠0:=h
 have h2:(xO k n 256)= { Zh k n with devs:=(Zh k n).devs++ [n.n] }:=by
  unfold xO vU QR;rw[qy h1,qy h1]
 have h3:(xO k n 256).bad≠0:=by rw[h2];exact h
 unfold Zm KH rj2 Up;rw[qy h3,h2];exact⟨rfl,rfl⟩
theorem yU(ns:vJ)(s:List UInt8)(w:List UInt8)(a:Nat)(b:List UInt8)(ws:List (List UInt8)):jr (ns++ [(s,⟨w,a,b⟩)]) ws=jr ns ws+(if ws.any (λy=>w==y)=true then 1 else 0):=xn ns (s,⟨w,a,b⟩) ws
theorem ug{k:Rk}{c:Ck}{n:Nd}(hI:RI k c)(hx:YA n)(ho:n.op=zn)(h8:jr c.names [zn,zq]≤8)(hd:VJ k.parts k.devs.length=jr c.names [zn]):Out (Jr k n) (jm c n):=by
 have hn:=hx.num (.inl ho);unfold jm;rw[if_neg (by rw[ho];decide)];cases hl:lk c.names n.s with
 |some m =>
  have e:=XW (n:=n) hI.bad hI.names hl;have hb:(rh k n).bad≠0:=by rw[e];show(132:Int)≠0;decide
  obtain⟨h1,h2⟩:=Fl hb;rw[e]at h1 h2;exact⟨h1,h2⟩
 |none =>
  have e:=GY (n:=n) hI.names hl;rw[show(none:Option Mn).isSome=false from rfl,if_neg (by decide)];rw[show full c.names n.op=(jr c.names [zn,zq]==8)from by unfold full;rw[if_pos (.inl ho)]];have e1:Zh k n= { k with devices:=k.devices+1 }:=by unfold Zh;rw[e]
  have hb1:(Zh k n).bad=0:=by rw[e1];exact hI.bad
  by_cases hf:jr c.names [zn,zq]=8
  ·rw[show(jr c.names [zn,zq]==8)=true from by rw[hf];rfl,if_pos rfl]
   have e2:QR k n= { Zh k n with bad:=137,at':=n.a }:=by
    unfold QR;rw[show decide (8<(Zh k n).devices)=true from decide_eq_true (by rw[e1];show 8<k.devices+1;rw[hI.ds,hf];decide)];exact qu hb1 _ _
   have hb2:(QR k n).bad≠0:=by rw[e2];show(137:Int)≠0;decide
   show(Jr k n).bad=_∧(Jr k n).at'=_;unfold Jr xO vU;rw[qy hb2,e2];exact⟨rfl,rfl⟩
  ·rw[show(jr c.names [zn,zq]==8)=false from by rw[beq_eq_false_iff_ne];exact hf]
   rw[if_neg (by decide)]
   have e2:QR k n=Zh k n:=by
    unfold QR;rw[show decide (8<(Zh k n).devices)=false from decide_eq_false (by rw[e1];show ¬8<k.devices+1;rw[hI.ds];omega),qV]
   unfold j9;rw[if_neg (by rw[ho];decide),if_pos ho];by_cases hs:1≤n.n∧n.n≤2048
   ·rw[if_neg (not_not_intro hs)]
    have e3:vU k n 1=Zh k n:=by
     unfold vU;rw[show(decide (n.n<1)||decide (2048<n.n))=false from by rw[Bool.or_eq_false_iff,decide_eq_false_iff_not,decide_eq_false_iff_not];omega,qV,e2]
    have e4:Jr k n= { k with devices:=k.devices+1,devs:=k.devs++ [n.n],things:=k.things++ [⟨n.s,n.op,(VJ k.parts k.devs.length:Nat),[]⟩] }:=by
     unfold Jr xO;rw[e3,e1]
    rw[e4,hd];refine⟨hI.bad,?_,hI.jour,hI.parts,hI.expo,hI.names.snoc ⟨rfl,rfl,rfl,λ_=>rfl⟩,hI.js,hI.es,?_,?_,?_⟩
    ·show k.devs++ [n.n]=(c.devs++ [n.n.toNat]).map _
     rw[hI.devs,List.map_append,List.map_cons,List.map_nil]
     congr 2
     omega
    ·show k.devices+1=_
     rw[hI.ds,yU,ho,if_pos (by decide)];rfl
    ·show k.keys=_
     rw[hI.ks,yU,ho,if_neg (by decide)];rfl
    ·show k.volumes=_
     rw[hI.vs,yU,ho,if_neg (by decide)];rfl
   ·rw[if_pos hs]
    have e3:vU k n 1= { Zh k n with bad:=134,at':=n.a }:=by
     unfold vU;rw[e2,show(decide (n.n<1)||decide (2048<n.n))=true from by rw[Bool.or_eq_true,decide_eq_true_eq,decide_eq_true_eq];omega];exact qu hb1 _ _
    show(Jr k n).bad=_∧(Jr k n).at'=_;unfold Jr xO;rw[e3];exact⟨rfl,rfl⟩
theorem Vw{k:Rk}{n:Nd}(h:(xO k n 256).bad≠0):(Zm k n).bad=(xO k n 256).bad∧(Zm k n).at'=(xO k n 256).at':=by
 unfold Zm KH rj2 Up;rw[qy h];exact⟨rfl,rfl⟩
theorem kN{k:Rk}{c:Ck}{n:Nd}(hI:RI k c)(hx:YA n)(ho:n.op=zq)(h8:jr c.names [zn,zq]≤8):Out (Zm k n) (jm c n):=by
 unfold jm;rw[if_neg (by rw[ho];decide)];cases hl:lk c.names n.s with
 |some m =>
  have e:=XW (n:=n) hI.bad hI.names hl;have hb:(rh k n).bad≠0:=by rw[e];show(132:Int)≠0;decide
  obtain⟨h1,h2⟩:=Gy hb;rw[e]at h1 h2;exact⟨h1,h2⟩
 |none =>
  have e:=GY (n:=n) hI.names hl;rw[show(none:Option Mn).isSome=false from rfl,if_neg (by decide)];rw[show full c.names n.op=(jr c.names [zn,zq]==8)from by unfold full;rw[if_pos (.inr ho)]];have e1:Zh k n= { k with devices:=k.devices+1 }:=by unfold Zh;rw[e]
  have hb1:(Zh k n).bad=0:=by rw[e1];exact hI.bad
  by_cases hf:jr c.names [zn,zq]=8
  ·rw[show(jr c.names [zn,zq]==8)=true from by rw[hf];rfl,if_pos rfl]
   have e2:QR k n= { Zh k n with bad:=137,at':=n.a }:=by
    unfold QR;rw[show decide (8<(Zh k n).devices)=true from decide_eq_true (by rw[e1];show 8<k.devices+1;rw[hI.ds,hf];decide)];exact qu hb1 _ _
   have hb2:(QR k n).bad≠0:=by rw[e2];show(137:Int)≠0;decide
   have e4:xO k n 256= { QR k n with devs:=(QR k n).devs++ [n.n] }:=by
    unfold xO vU;rw[qy hb2]
   have hb4:(xO k n 256).bad≠0:=by rw[e4];exact hb2
   obtain⟨h1,h2⟩:=Vw hb4;rw[e4,e2]at h1 h2;exact⟨h1,h2⟩
  ·rw[show(jr c.names [zn,zq]==8)=false from by rw[beq_eq_false_iff_ne];exact hf]
   rw[if_neg (by decide)]
   have e2:QR k n=Zh k n:=by
    unfold QR;rw[show decide (8<(Zh k n).devices)=false from decide_eq_false (by rw[e1];show ¬8<k.devices+1;rw[hI.ds];omega),qV]
   unfold j9;rw[if_pos ho];by_cases hs:256≤n.n∧n.n≤2048
   ·rw[if_neg (not_not_intro hs)]
    have e3:vU k n 256=Zh k n:=by
     unfold vU;rw[show(decide (n.n<256)||decide (2048<n.n))=false from by rw[Bool.or_eq_false_iff,decide_eq_false_iff_not,decide_eq_false_iff_not];omega,qV,e2]
    have e4:xO k n 256= { k with devices:=k.devices+1,devs:=k.devs++ [n.n] }:=by
     unfold xO;rw[e3,e1]
    cases hj:c.jour with
    |some j =>
     rw[show(some j:Option Nat).isSome=true from rfl,if_pos rfl];have hjs:k.journals=1:=by rw[hI.js,hj];rfl
     have e5:Up k n= { xO k n 256 with bad:=138,at':=n.a }:=by
      unfold Up;rw[show decide (0<(xO k n 256).journals)=true from decide_eq_true (by rw[e4];show 0<k.journals;rw[hjs];decide)];exact qu (by rw[e4];exact hI.bad) _ _
     show(Zm k n).bad=_∧(Zm k n).at'=_;unfold Zm KH rj2;rw[e5];exact⟨rfl,rfl⟩
    |none =>
     rw[show(none:Option Nat).isSome=false from rfl,if_neg (by decide)];have hjs:k.journals=0:=by rw[hI.js,hj];rfl
     have e5:Up k n=xO k n 256:=by
      unfold Up;rw[show decide (0<(xO k n 256).journals)=false from decide_eq_false (by rw[e4];show ¬0<k.journals;rw[hjs];decide),qV]
     have e6:Zm k n= { k with devices:=k.devices+1,devs:=k.devs++ [n.n],journals:=k.journals+1,jour:=(k.devs.length:Nat),things:=k.things++ [⟨n.s,n.op,0,[]⟩] }:=by
      unfold Zm KH rj2;rw[e5,e4]
     rw[e6];refine⟨hI.bad,?_,?_,hI.parts,hI.expo,hI.names.snoc ⟨rfl,rfl,rfl,λh=>absurd ho h⟩,?_,hI.es,?_,?_,?_⟩
     ·show k.devs++ [n.n]=(c.devs++ [n.n.toNat]).map _
      rw[hI.devs,List.map_append,List.map_cons,List.map_nil]
      congr 2
      omega
     ·intro j hjj
      show((k.devs.length:Nat):Int)=(j:Nat)
      rw[←Option.some.inj hjj,hI.devs,List.length_map]
     ·show k.journals+1=_
      rw[hjs];rfl
     ·show k.devices+1=_
      rw[hI.ds,yU,ho,if_pos (by decide)];rfl
     ·show k.keys=_
      rw[hI.ks,yU,ho,if_neg (by decide)];rfl
     ·show k.volumes=_
      rw[hI.vs,yU,ho,if_neg (by decide)];rfl
   ·rw[if_pos hs]
    have e3:vU k n 256= { Zh k n with bad:=134,at':=n.a }:=by
     unfold vU;rw[e2,show(decide (n.n<256)||decide (2048<n.n))=true from by rw[Bool.or_eq_true,decide_eq_true_eq,decide_eq_true_eq];omega];exact qu hb1 _ _
    have e4:xO k n 256= { vU k n 256 with devs:=(vU k n 256).devs++ [n.n] }:=rfl;have hb4:(xO k n 256).bad≠0:=by rw[e4,e3];show(134:Int)≠0;decide
    obtain⟨h1,h2⟩:=Vw hb4;rw[e4,e3]at h1 h2;exact⟨h1,h2⟩
theorem dC{k:Rk}{n:Nd}(h:(rh k n).bad≠0):(UT k n).bad=(rh k n).bad∧(UT k n).at'=(rh k n).at':=by
 have h1:(UJ k n).bad≠0:=h;unfold UT Y8 UW;rw[qy h1,qy h1];exact⟨rfl,rfl⟩
theorem gO{k:Rk}{c:Ck}{n:Nd}(hI:RI k c)(ho:n.op=zM∨n.op=zN)(h8:jr c.names [zM,zN]≤8):Out (UT k n) (jm c n):=by
 have no:∀w,(w=qj∨w=zn∨w=zq)→¬n.op=w:=by
  intro w hw e;rw[e]at ho;rcases hw with rfl|rfl|rfl<;>revert ho<;>decide
 unfold jm;rw[if_neg (no _ (.inl rfl))];cases hl:lk c.names n.s with
 |some m =>
  have e:=XW (n:=n) hI.bad hI.names hl;have hb:(rh k n).bad≠0:=by rw[e];show(132:Int)≠0;decide
  obtain⟨h1,h2⟩:=dC hb;rw[e]at h1 h2;exact⟨h1,h2⟩
 |none =>
  have e:=GY (n:=n) hI.names hl;rw[show(none:Option Mn).isSome=false from rfl,if_neg (by decide)];rw[show full c.names n.op=(jr c.names [zM,zN]==8)from by unfold full;rw[if_neg (λh=>h.elim (no _ (.inr (.inl rfl))) (no _ (.inr (.inr rfl)))),if_pos ho]];have e1:UJ k n= { k with keys:=k.keys+1 }:=by unfold UJ;rw[e]
  have hb1:(UJ k n).bad=0:=by rw[e1];exact hI.bad
  by_cases hf:jr c.names [zM,zN]=8
  ·rw[show(jr c.names [zM,zN]==8)=true from by rw[hf];rfl,if_pos rfl]
   have e2:UW k n= { UJ k n with bad:=137,at':=n.a }:=by
    unfold UW;rw[show decide (8<(UJ k n).keys)=true from decide_eq_true (by rw[e1];show 8<k.keys+1;rw[hI.ks,hf];decide)];exact qu hb1 _ _
   have hb2:(UW k n).bad≠0:=by rw[e2];show(137:Int)≠0;decide
   show(UT k n).bad=_∧(UT k n).at'=_;unfold UT Y8;rw[qy hb2,e2];exact⟨rfl,rfl⟩
  ·rw[show(jr c.names [zM,zN]==8)=false from by rw[beq_eq_false_iff_ne];exact hf]
   rw[if_neg (by decide)]
   have e2:UW k n=UJ k n:=by
    unfold UW;rw[show decide (8<(UJ k n).keys)=false from decide_eq_false (by rw[e1];show ¬8<k.keys+1;rw[hI.ks];omega),qV]
   unfold j9;rw[if_neg (no _ (.inr (.inr rfl))),if_neg (no _ (.inr (.inl rfl))),if_pos ho];by_cases hs:(zH n.l 0).s.length≠64
   ·rw[if_pos hs]
    have e3:Y8 k n= { UJ k n with bad:=135,at':=n.a }:=by
     unfold Y8;rw[e2,show(((zH n.l 0).s.length:Int) != 64)=true from by rw[bne_iff_ne];omega];exact qu hb1 _ _
    show(UT k n).bad=_∧(UT k n).at'=_;unfold UT;rw[e3];exact⟨rfl,rfl⟩
   ·rw[if_neg hs]
    have e3:Y8 k n=UJ k n:=by
     unfold Y8;rw[e2,show(((zH n.l 0).s.length:Int) != 64)=false from by rw[bne_eq_false_iff_eq];omega,qV]
    have e4:UT k n= { k with keys:=k.keys+1,things:=k.things++ [⟨n.s,n.op,0,qw (zH n.l 0).s⟩] }:=by
     unfold UT;rw[e3,e1]
    rw[e4];refine⟨hI.bad,hI.devs,hI.jour,hI.parts,hI.expo,hI.names.snoc ⟨rfl,rfl,rfl,λ_=>rfl⟩,hI.js,hI.es,?_,?_,?_⟩
    ·show k.devices=_
     rw[hI.ds,yU];rcases ho with h|h<;>(rw[h,if_neg (by decide)];rfl)
    ·show k.keys+1=_
     rw[hI.ks,yU];rcases ho with h|h<;>(rw[h,if_pos (by decide)];rfl)
    ·show k.volumes=_
     rw[hI.vs,yU];rcases ho with h|h<;>(rw[h,if_neg (by decide)];rfl)
theorem uH(ps rs:List Pt){x:Nat}(h:x<ps.length):(zR (ps++rs)).getD x false=(zR ps).getD x false:=by
 induction rs generalizing ps with
 |nil=>rw[List.append_nil]
 |cons p rs ih =>
  rw[show ps++p::rs=(ps++ [p])++rs from by simp,ih (ps++ [p]) (by simp;omega),xq,List.getD_eq_getElem?_getD,List.getD_eq_getElem?_getD,List.getElem?_append_left (by rw[vr];exact h)]
theorem U8{k:Rk}{c:Ck}{n:Nd}(hI:RI k c)(ho:n.op=qj):Out (DQ k n) (jm c n):=by
 unfold jm;rw[if_pos ho];unfold yA;cases hc:c.expo with
 |some x =>
  rw[show(some x:Option Nat).isSome=true from rfl,if_pos rfl];have hes:k.exports=1:=by rw[hI.es,hc];rfl
  have e1:QM k n= { k with bad:=138,at':=n.a }:=by
   unfold QM;rw[show decide (0<k.exports)=true from decide_eq_true (by rw[hes];decide)];exact qu hI.bad _ _
  have hb:(yV k n).bad≠0:=by unfold yV;rw[e1];show(138:Int)≠0;decide
  have h:=(KE (k:=yV k n) (ns:=c.names) (by unfold yV;rw[e1];exact hI.names) n).1 hb;show(Ze (yV k n) n.s n.a).2.bad=_∧(Ze (yV k n) n.s n.a).2.at'=_;rw[h];unfold yV;rw[e1];exact⟨rfl,rfl⟩
 |none =>
  rw[show(none:Option Nat).isSome=false from rfl,if_neg (by decide)];have hes:k.exports=0:=by rw[hI.es,hc];rfl
  have e1:QM k n=k:=by
   unfold QM;rw[show decide (0<k.exports)=false from decide_eq_false (by rw[hes];decide),qV]
  have e2:yV k n= { k with exports:=k.exports+1 }:=by unfold yV;rw[e1]
  have h:=(KE (k:=yV k n) (ns:=c.names) (by rw[e2];exact hI.names) n).2 (by rw[e2];exact hI.bad);cases hk:jk c.names n [zn,zB]with
  |error e =>
   obtain⟨ec,ea⟩:=e;rw[hk]at h;obtain⟨_,h2⟩:=h;show(Ze (yV k n) n.s n.a).2.bad=_∧(Ze (yV k n) n.s n.a).2.at'=_;rw[h2];exact⟨rfl,rfl⟩
  |ok m =>
   rw[hk]at h;obtain⟨h1,h2⟩:=h;have h1:(Ze (yV k n) n.s n.a).1=(m.node:Nat):=h1;show RI (DQ k n) _;unfold DQ;rw[h1,h2,e2];refine⟨hI.bad,hI.devs,hI.jour,hI.parts,λx hx=>?_,hI.names,hI.js,?_,hI.ds,hI.ks,hI.vs⟩
   ·cases hx
    exact⟨rfl,rfl,rfl⟩
   ·show k.exports+1=_
    rw[hes];rfl
theorem uX{k k':Rk}{c:Ck}{n:Nd}(hI:RI k c)(ho:n.op=zB)(h8:jr c.names [zB]≤16)(hN:yH c.names c.parts)(hx:Ub 12 (zH n.l 0))(hp:∀x,c.expo=some x→x<c.parts.length)(hv:RVo k c.names n k'):Out k' (jm c n):=by
 unfold jm;rw[if_neg (by rw[ho];decide)];cases hl:lk c.names n.s with
 |some m =>
  have e:=XW (n:=n) hI.bad hI.names hl;have e1:(kT k n).bad≠0:=by unfold kT;rw[e];show(132:Int)≠0;decide
  have e2:QN k n= { rh k n with volumes:=(rh k n).volumes+1 }:=by unfold QN;rw[qy e1];rfl
  have hb:(QN k n).bad≠0:=by rw[e2,e];show(132:Int)≠0;decide
  rcases hv with⟨_,rfl⟩|⟨h0,_⟩
  ·rw[e2,e]
   exact⟨rfl,rfl⟩
  ·exact absurd h0 hb
 |none =>
  have e:=GY (n:=n) hI.names hl;rw[show(none:Option Mn).isSome=false from rfl,if_neg (by decide)];rw[show full c.names n.op=(jr c.names [zB]==16)from by unfold full;rw[if_neg (by rw[ho];decide),if_neg (by rw[ho];decide)]];have e1:kT k n= { k with volumes:=k.volumes+1 }:=by unfold kT;rw[e]
  have hb1:(kT k n).bad=0:=by rw[e1];exact hI.bad
  by_cases hf:jr c.names [zB]=16
  ·rw[show(jr c.names [zB]==16)=true from by rw[hf];rfl,if_pos rfl]
   have e2:QN k n= { kT k n with bad:=137,at':=n.a }:=by
    unfold QN;rw[show decide (16<(kT k n).volumes)=true from decide_eq_true (by rw[e1];show 16<k.volumes+1;rw[hI.vs,hf];decide)];exact qu hb1 _ _
   have hb2:(QN k n).bad≠0:=by rw[e2];show(137:Int)≠0;decide
   rcases hv with⟨_,rfl⟩|⟨h0,_⟩
   ·rw[e2]
    exact⟨rfl,rfl⟩
   ·exact absurd h0 hb2
  ·rw[show(jr c.names [zB]==16)=false from by rw[beq_eq_false_iff_ne];exact hf]
   rw[if_neg (by decide)]
   have e2:QN k n= { k with volumes:=k.volumes+1 }:=by
    unfold QN;rw[show decide (16<(kT k n).volumes)=false from decide_eq_false (by rw[e1];show ¬16<k.volumes+1;rw[hI.vs];omega),qV,e1]
   unfold j9;rw[if_neg (by rw[ho];decide),if_neg (by rw[ho];decide),if_neg (by rw[ho];decide)];rcases hv with⟨h0,_⟩|⟨_,r,k3,hT,rfl⟩
   ·exact absurd (by rw[e2];exact hI.bad) h0
   ·rw[e2]at hT
    have hT2:=hT.2 hI.bad;rw[show({ k with volumes:=k.volumes+1 }:Rk).parts=c.parts from hI.parts]at hT2;cases hc:jb c.names 12 c.parts (zH n.l 0)with
    |error e =>
     obtain⟨ec,ea⟩:=e;rw[hc]at hT2;obtain⟨_,h2⟩:=hT2;show k3.bad=_∧k3.at'=_;rw[h2];exact⟨rfl,rfl⟩
    |ok y =>
     obtain⟨x,ps⟩:=y;rw[hc]at hT2;obtain⟨h1,h2⟩:=hT2;have h1:r=(x:Nat):=h1;obtain⟨rs,e3,_,_⟩:=Qi 12 hN hx hc;subst h1;rw[h2];refine⟨hI.bad,hI.devs,hI.jour,rfl,λy hy=>?_,hI.names.snoc ⟨rfl,rfl,rfl,λ_=>rfl⟩,hI.js,hI.es,?_,?_,?_⟩
     ·obtain⟨a,b,d⟩:=hI.expo y hy
      refine⟨a,?_,d⟩
      show c.ro=(k.ro||(zR ps).getD y false)
      rw[e3,uH _ _ (hp y hy)];exact b
     ·show k.devices=_
      rw[hI.ds,yU,ho,if_neg (by decide)];rfl
     ·show k.keys=_
      rw[hI.ks,yU,ho,if_neg (by decide)];rfl
     ·show k.volumes+1=_
      rw[hI.vs,yU,ho,if_pos (by decide)];rfl
end
section
open Go.ChangeShapes Go.WideShapes Go.ChangeAt Go.RowKit Go.MapKept
theorem Xc(l:List Nd):∀d,∀p ∈ disks d l,p.kind=1∧p.kids= []∧p.dev<d+j6 l:=by
 induction l with
 |nil=>intro d p h;cases h
 |cons y l ih =>
  intro d p h;simp only[disks,j6]at h ⊢;by_cases h1:y.op=zn
  ·rw[if_pos h1]at h
   rw[if_pos (show y.op=zn∨y.op=zq from .inl h1)];rcases List.mem_cons.1 h with rfl|h
   ·exact⟨rfl,rfl,by show d<_;omega⟩
   ·obtain⟨a,b,e⟩:=ih _ p h
    exact⟨a,b,by omega⟩
  ·rw[if_neg h1]at h
   by_cases h2:y.op=zq
   ·rw[if_pos h2]at h
    rw[if_pos (show y.op=zn∨y.op=zq from .inr h2)];obtain⟨a,b,e⟩:=ih _ p h;exact⟨a,b,by omega⟩
   ·rw[if_neg h2]at h
    rw[if_neg (show ¬(y.op=zn∨y.op=zq) by simp[h1,h2])];obtain⟨a,b,e⟩:=ih _ p h;exact⟨a,b,by omega⟩
theorem zco{l q r:List Nd}{x:Nd}(hl:l=q++x::r)(hx:x.op=zn)(rs:List Pt):VJ (disks 0 l++rs) (q.filter xu).length=(q.filter Zs).length:=by
 obtain⟨h1,h2⟩:=gM hl hx rs;refine Xg h2 (λj hj=>?_) ?_
 ·have hj2:j<(disks 0 q).length:=by rw[YU];exact hj
  have e:disks 0 l++rs=disks 0 q++(disks (0+j6 q) (x::r)++rs):=by rw[hl,Y5,List.append_assoc]
  have e2:(disks 0 l++rs)[j]'(Nat.lt_trans hj h2)=(disks 0 q)[j]:=by
   rw[List.getElem_of_eq e,List.getElem_append_left hj2]
  rw[e2];obtain⟨_,_,b⟩:=Xc q 0 _ (List.getElem_mem hj2);rw[GK]at b;rw[show((disks 0 q)[j].dev==(q.filter xu).length)=false from by rw[beq_eq_false_iff_ne];omega,Bool.and_false]
 ·have e3:(disks 0 l++rs)[(q.filter Zs).length]=zx (disks 0 l++rs) (q.filter Zs).length:=by
   unfold zx;rw[List.getD_eq_getElem?_getD,List.getElem?_eq_getElem h2];rfl
  rw[e3,h1];simp
theorem WfO.disks(l:List Nd):WfO (disks 0 l):=
 have h:=λi (hi:i<(Proofs.YteaddcdpgcgggaaGreatDoor.disks 0 l).length)=>Xc l 0 _ (List.getElem_mem hi)
 ⟨λi hi k hk=>(by rw[(h i hi).2.1]at hk;cases hk),λi hi e=>(by rw[(h i hi).1]at e;exact absurd e (by decide)),λi hi=>(by rw[(h i hi).2.1];exact Nat.zero_le _)⟩
structure Cn (c:Ck):Prop where
 ky:jr c.names [zM,zN]≤8
 vo:jr c.names [zB]≤16
theorem FE{c c1:Ck}{x:Nd}{m:Mn}(hc:j9 c x= .ok (c1,m)):c1.names=c.names∧m.word=x.op:=by
 unfold j9 at hc
 repeat' (split at hc)
 all_goals first |(cases hc;done)|(cases hc;exact⟨rfl,rfl⟩)
theorem kA{c c':Ck}{x:Nd}(hs:jm c x= .ok c'):c'.names=c.names∨(full c.names x.op=false∧∃m,m.word=x.op∧c'.names=c.names++ [(x.s,m)]):=by
 unfold jm at hs
 split at hs
 ·left
  unfold yA at hs
  split at hs
  ·cases hs
  ·split at hs
   ·cases hs
   ·cases hs;rfl
 ·split at hs
  ·cases hs
  ·split at hs
   ·cases hs
   ·rename_i hf
    right;refine⟨by simpa using hf,?_⟩;cases hc:j9 c x with
    |error e=>rw[hc]at hs;cases hs
    |ok y =>
     obtain⟨c1,m⟩:=y;rw[hc]at hs;cases hs;obtain⟨a,b⟩:=FE hc;exact⟨m,b,by show c1.names++_=_;rw[a]⟩
theorem Cn.step{c c':Ck}{x:Nd}(h:Cn c)(hs:jm c x= .ok c'):Cn c':=by
 rcases kA hs with e|⟨hf,⟨mw,mn,mb⟩,hm,e⟩
 ·exact⟨by rw[e];exact h.ky,by rw[e];exact h.vo⟩
 ·have hm:mw=x.op:=hm
  subst hm;have h1:=h.ky;have h2:=h.vo;refine⟨?_,?_⟩
  ·rw[e,yU]
   by_cases hk:x.op=zM∨x.op=zN
   ·rw[show full c.names x.op=(jr c.names [zM,zN]==8)from by
     unfold full
     rw[if_neg (by rcases hk with h|h<;>rw[h]<;>decide),if_pos hk],beq_eq_false_iff_ne]at hf
    split<;>omega
   ·rw[if_neg (by intro q;exact hk (by simpa [List.any_cons]using q))]
    exact h1
  ·rw[e,yU]
   by_cases hk:x.op=zB
   ·rw[show full c.names x.op=(jr c.names [zB]==16)from by
     unfold full
     rw[if_neg (by rw[hk];decide),if_neg (by rw[hk];decide)],beq_eq_false_iff_ne]at hf
    split<;>omega
   ·rw[if_neg (by intro q;exact hk (by simpa [List.any_cons]using q))]
    exact h2
structure QE (l q:List Nd) (k:Rk) (c:Ck):Prop where
 ri:RI k c
 inv:JB l q c
 cn:Cn c
theorem QE.few{l q:List Nd}{k:Rk}{c:Ck}(h:QE l q k c)(hq:q.length≤5000):gQ k:=by
 have i:=h.inv;unfold JB at i;have a1:=h.ri.ds;have a2:=h.ri.ks;have a3:=h.ri.vs;have a4:=h.ri.js;have a5:=h.ri.es;have a6:=i.dj;have a7:=i.le8;have a8:=h.cn.ky;have a9:=h.cn.vo;have b1:=i.nlen;have b2:=h.ri.names.len;have b3:k.devs.length=(q.filter xu).length:=by rw[h.ri.devs,List.length_map,i.devs,List.length_map]
 refine⟨?_,?_,by omega,by omega,by omega,by omega,by omega⟩
 ·rw[a4];split<;>decide
 ·rw[a5];split<;>decide
theorem QE.good{l q:List Nd}{k:Rk}{c:Ck}(h:QE l q k c):JA k c.names:=by
 have i:=h.inv;unfold JB at i;obtain⟨rs,e,g⟩:=i.parts;refine⟨by rw[h.ri.parts];exact i.nms,?_⟩;rw[h.ri.parts,e];exact(WfO.disks l).more g
theorem QE.step{l q r:List Nd}{x:Nd}{k k':Rk}{c c':Ck}(hl:l=q++x::r)(h:QE l q k c)(hx:YA x)(hs:jm c x= .ok c')(ho:Out k' (jm c x)):QE l (q++ [x]) k' c':=by
 rw[hs]at ho;exact⟨ho,h.inv.step hl hx hs,h.cn.step hs⟩
def zc0(E:Nat→Prop)(w:World)(cb:Nat)(V:RV)(c:Ck)(n:Nd)(e:Ending)(w':World):Prop:=e= .returned (.tuple #[])∧∃V' k',Out k' (jm c n)∧zZ (λg=>E g∨w.heap.size≤g) w' cb V' k'∧Sp (V.own cb) w (V'.own cb) w'
theorem RSt.out{E:Nat→Prop}{w:World}{cb:Nat}{V:RV}{k':Rk}{c:Ck}{n:Nd}{e:Ending}{w':World}(h:RSt E w cb V k' e w')(ho:Out k' (jm c n)):zc0 E w cb V c n e w':=by
 obtain⟨a,V',b,d⟩:=h;exact⟨a,V',k',ho,b,d⟩
theorem zcK{E:Nat→Prop}{w0 w:World}{cb:Nat}{V:RV}{k:Rk}{c:Ck}(h:zZ E w cb V k)(hE:∀g,w.heap.size≤g→¬E g)(n:Nd)(A:Option Addr)(C:Nat)(hx:YA n){l q r:List Nd}(hl:l=q++n::r)(hO:QE l q k c)(hq:q.length≤5000)(hr:jZ w0 n A C)(hcb0:w0.heap.size≤cb)(hb0:Below w0.heap.size w0 w)(hsx:(n.op=zM∨n.op=zN)→(zH n.l 0).s.length≤1000):Calls Tryz.prog 18 #[.pointer (some ⟨cb,0,none⟩),.agg #[.string (bs n.op),.string (bs n.s),.int .i64 n.n,.int .i64 n.a,.slice A n.l.length C]] w (zc0 E w cb V c n):=by
 have hf:=hO.few hq;have hi:=hO.inv;unfold JB at hi;rcases hx.word with e|e|e|e|e|e
 ·refine(ux h hE n A n.l.length C e hf).mono λe' w' hh=>hh.out (ug hO.ri hx e (by rw[hi.dj];exact hi.le8) ?_)
  obtain⟨rs,e1,_⟩:=hi.parts;rw[hO.ri.parts,e1,hO.ri.devs,List.length_map,hi.devs,List.length_map,hi.dev];exact zco hl e rs
 ·exact(kS h hE n A n.l.length C e hf).mono λe' w' hh=>hh.out (kN hO.ri hx e (by rw[hi.dj];exact hi.le8))
 ·exact(gA h hE n A n.l.length C (.inl e) hf hr hcb0 hb0 (hx.key (.inl e)).1 (hx.key (.inl e)).1 (hsx (.inl e)) (hx.key (.inl e)).2).mono λe' w' hh=>hh.out (gO hO.ri (.inl e) hO.cn.ky)
 ·exact(gA h hE n A n.l.length C (.inr e) hf hr hcb0 hb0 (hx.key (.inr e)).1 (hx.key (.inr e)).1 (hsx (.inr e)) (hx.key (.inr e)).2).mono λe' w' hh=>hh.out (gO hO.ri (.inr e) hO.cn.ky)
 ·refine(uj h hE n A n.l.length C e hf hr hcb0 hb0 (hx.vol e).1 (hx.vol e).1 (zau cb w0 12) (hx.vol e).2 hO.ri.names (λ_=>hO.good)).mono λe' w' hh=>?_
  obtain⟨a,V',k',b,d,g⟩:=hh;exact⟨a,V',k',uX hO.ri e hO.cn.vo hi.nms (hx.vol e).2.ok (λy hy=>(hi.expo y hy).1) b,d,g⟩
 ·exact(uO h n A n.l.length C e hf).mono λe' w' hh=>hh.out (U8 hO.ri e)
end
section
def vC(ps:List Pt)(g:List R3→Nat→Int→Int→List R3)(out:List R3)(p:Pt)(f c:Int):List R3:=
 if p.kind=1 then out++ [⟨p.dev,f,c⟩]
 else if p.kind=2 then g out (p.kids.getD 0 0) (p.first+f) c
 else if p.kind=4∨p.kind=6 then p.kids.foldl (λo k=>g o k f c) out
 else if p.kind=3 then(p.kids.foldl (λ(x:List R3×Int) k=>(if max f x.2<min (f+c) (x.2+sz ps k)then g x.1 k (max f x.2-x.2) (min (f+c) (x.2+sz ps k)-max f x.2)else x.1,x.2+sz ps k)) (out,0)).1
 else if p.kind=5 then g (g out (p.kids.getD 0 0) f c) (p.kids.getD 1 0) 0 (sz ps (p.kids.getD 1 0))
 else if p.kind=7∨p.kind=8 then g out (p.kids.getD 0 0) 0 (sz ps (p.kids.getD 0 0))
 else out
def jG(ps:List Pt):Nat→List R3→Nat→Int→Int→List R3
 |0,out,_,_,_=>out
 |d+1,out,k,f,c=>if 256<out.length then out else vC ps (jG ps d) out (zx ps k) f c
theorem Xm{α β:Type}{F G:α→β→α}(l:List β):∀o,(∀x ∈ l,∀o,F o x=G o x)→l.foldl F o=l.foldl G o:=by
 induction l with
 |nil=>intro o _;rfl
 |cons y l ih =>
  intro o h;rw[List.foldl_cons,List.foldl_cons,h y (List.mem_cons_self ..)];exact ih _ λx hx=>h x (List.mem_cons_of_mem _ hx)
theorem DC{ps:List Pt}(d:Nat){out:List R3}{k:Nat}{f c:Int}(h:c≤0):yx ps d out k f c=out:=by
 cases d with
 |zero=>rfl
 |succ d =>
  show(if 256<out.length∨jF ps k f c=false then out else _)=out;refine if_pos (.inr ?_);unfold jF;rw[decide_eq_false_iff_not];omega
theorem vv{ps:List Pt}{j:Nat}{f c:Int}(a:xB ps j)(b:0≤f)(e:0<c)(g:f+c≤sz ps j):jF ps j f c=true:=by
 have:=a.1;unfold jF;rw[decide_eq_true_eq,Int.toNat_natCast];omega
theorem zbg{ps:List Pt}(h:∀i,i<ps.length→(zx ps i).kind=1∨yZ ps (zx ps i))(d:Nat):∀out k f c,jF ps (k:Nat) f c=true→jG ps d out k f c=yx ps d out k f c:=by
 induction d with
 |zero=>intro out k f c _;rfl
 |succ d ih =>
  intro out k f c hb
  show(if 256<out.length then out else vC ps (jG ps d) out (zx ps k) f c)=(if 256<out.length∨jF ps k f c=false then out else xb ps (yx ps d) out (zx ps k) f c)
  by_cases ho:256<out.length
  ·rw[if_pos ho,if_pos (.inl ho)]
  ·rw[if_neg ho,if_neg (by rw[hb];simp[ho])]
   unfold jF at hb;rw[decide_eq_true_eq,Int.toNat_natCast]at hb;obtain⟨h0,hk,hf,hc,hs⟩:=hb;have hk:k<ps.length:=by omega
   have hsz:sz ps k=(zx ps k).size:=rfl;have hh:=h k hk;unfold vC xb;generalize zx ps k=p at *;by_cases e1:p.kind=1
   ·rw[if_pos e1,if_pos e1]
   rw[if_neg e1,if_neg e1];have hp:yZ ps p:=hh.resolve_left e1;clear hh;by_cases e2:p.kind=2
   ·rw[if_pos e2,if_pos e2]
    obtain⟨j,hj⟩:=List.length_eq_one_iff.1 (hp.one (.inl e2));have a:=hp.lin e2;have b:=hp.kids;rw[hj]at a b ⊢;have a:p.first+p.size≤sz ps j:=a;show jG ps d out j (p.first+f) c=yx ps d out j (f+p.first) c;rw[Int.add_comm f];exact ih _ _ _ _ (vv (b j (by simp)) (by omega) hc (by omega))
   rw[if_neg e2,if_neg e2];by_cases e4:p.kind=4∨p.kind=6
   ·rw[if_pos e4,if_pos e4]
    refine Xm _ _ λj hj o=>ih _ _ _ _ (vv (hp.kids j hj) hf hc ?_)
    have :sz ps j=p.size:=by
     rcases e4 with e|e
     ·exact hp.mir e j hj
     ·obtain⟨i,hi⟩:=List.length_eq_one_iff.1 (hp.one (.inr (.inl e)))
      have a:=hp.cry e;rw[hi]at a hj;rw[List.mem_singleton.1 hj];exact a
    omega
   rw[if_neg e4,if_neg e4];by_cases e3:p.kind=3
   ·rw[if_pos e3,if_pos e3]
    refine congrArg Prod.fst (Xm _ _ λj hj o=>?_);obtain⟨o,at'⟩:=o;refine Prod.ext ?_ rfl;show(if max f at'<min (f+c) (at'+sz ps j)then jG ps d o j (max f at'-at') (min (f+c) (at'+sz ps j)-max f at')else o)=yx ps d o j (max (f-at') 0) (min (f+c-at') (sz ps j)-max (f-at') 0)
    split
    ·rename_i hlt
     rw[show max f at'-at'=max (f-at') 0 from by omega,show min (f+c) (at'+sz ps j)-max f at'=min (f+c-at') (sz ps j)-max (f-at') 0 from by omega];exact ih _ _ _ _ (vv (hp.kids j hj) (by omega) (by omega) (by omega))
    ·rename_i hlt
     exact(DC d (by omega)).symm
   rw[if_neg e3,if_neg e3];by_cases e5:p.kind=5
   ·rw[if_pos e5,if_pos e5]
    obtain⟨a,b⟩:=hp.snap e5
    have k0:p.kids.getD 0 0 ∈ p.kids:=by
     rw[List.getD_eq_getElem?_getD,List.getElem?_eq_getElem (by omega)];exact List.getElem_mem _
    have k1:p.kids.getD 1 0 ∈ p.kids:=by
     rw[List.getD_eq_getElem?_getD,List.getElem?_eq_getElem (by omega)];exact List.getElem_mem _
    rw[ih out _ _ _ (vv (hp.kids _ k0) hf hc (by omega))];exact ih _ _ _ _ (vv (hp.kids _ k1) (by omega) (by have:=(hp.kids _ k1).2.1;omega) (by omega))
   rw[if_neg e5,if_neg e5];by_cases e7:p.kind=7∨p.kind=8
   ·rw[if_pos e7,if_pos e7]
    have a:=hp.one (.inr (.inr e7))
    have k0:p.kids.getD 0 0 ∈ p.kids:=by
     rw[List.getD_eq_getElem?_getD,List.getElem?_eq_getElem (by omega)];exact List.getElem_mem _
    exact ih _ _ _ _ (vv (hp.kids _ k0) (by omega) (by have:=(hp.kids _ k0).2.1;omega) (by omega))
   rw[if_neg e7,if_neg e7]
theorem zb6{ps:List Pt}{i k:Nat}(h:k<(ps.take i).length):sz (ps.take i) k=sz ps k:=by
 have:=GI (ps.take i) (ps.drop i) h;rw[List.take_append_drop]at this;exact this.symm
theorem yZ.whole{ps:List Pt}{i:Nat}{p:Pt}(h:yZ (ps.take i) p):yZ ps p:=by
 have hk:∀k ∈ p.kids,sz (ps.take i) k=sz ps k:=λk hk=>zb6 (h.kids k hk).1
 have h0:∀j,j<p.kids.length→sz (ps.take i) (p.kids.getD j 0)=sz ps (p.kids.getD j 0):=λj hj=>hk _ (by
  rw[List.getD_eq_getElem?_getD,List.getElem?_eq_getElem hj]
  exact List.getElem_mem _)
 have hn:0<p.kids.length:=List.length_pos_iff.2 h.some';refine⟨λk hk'=>?_,h.some',h.lo,h.hi,h.kind,λe=>by rw[←h0 0 hn];exact h.lin e,λe=>?_,λe k hk'=>by rw[←hk k hk'];exact h.mir e k hk',λe=>by rw[←h0 0 hn];exact h.snap e,λe=>by rw[←h0 0 hn];exact h.cry e,h.one⟩
 ·have a:=h.kids k hk'
  refine⟨?_,by rw[←hk k hk'];exact a.2⟩;have:=a.1;rw[List.length_take]at this;omega
 ·rw[h.cat e]
  congr 1
  exact List.map_congr_left hk
theorem JB.reg{l:List Nd}{c:Ck}(h:JB l l c)(i:Nat)(hi:i<c.parts.length):(zx c.parts i).kind=1∨yZ c.parts (zx c.parts i):=by
 rw[vQ hi];rcases h.part hi with⟨j,x,_,_,e,_⟩|a
 ·left;rw[e]
 ·right;exact a.toPtOk0.whole
end
section
def rw1(k:Rk):Rk:=zA k (k.journals==0||k.exports==0) 138 0
def rw2(k:Rk)(R:List R3):Rk:=zA (rw1 k) (decide (256<R.length)) 137 (rw1 k).place
def Dy(k:Rk)(R:List R3):Rk:=zA (rw2 k R) (xM R) 136 (rw2 k R).place
def rw4(k:Rk)(R:List R3)(only :Bool):Rk:={ Dy k R with ro:=(Dy k R).ro||only }
theorem Qb{l:List Nd}{k:Rk}{c:Ck}(h:QE l l k c)(hn:c.jour=none∨c.expo=none):rw1 k= { k with bad:=138,at':=0 }∧vA c= .error (138,0):=by
 constructor
 ·unfold rw1
  rw[show(k.journals==0||k.exports==0)=true from by
   rw[Bool.or_eq_true,beq_iff_eq,beq_iff_eq];rcases hn with e|e
   ·left;rw[h.ri.js,e];rfl
   ·right;rw[h.ri.es,e];rfl]
  exact qu h.ri.bad _ _
 ·unfold vA
  rcases hn with e|e
  ·rw[e]
  ·rw[e]
   cases c.jour<;>rfl
theorem ku{l:List Nd}{k:Rk}{c:Ck}(h:QE l l k c){j x:Nat}(hj:c.jour=some j)(hx:c.expo=some x):rw1 k=k∧k.expo=(x:Nat)∧k.jour=(j:Nat)∧k.parts=c.parts∧k.devs=c.devs.map (λ(d:Nat)=>(d:Int))∧xB c.parts x∧(match vA c with
 | .error (ec,ea)=>ec≠0∧(Dy k (xt c.parts x 0 (sz c.parts x))).bad=(ec:Nat)∧(Dy k (xt c.parts x 0 (sz c.parts x))).at'=ea
 | .ok s=>rw4 k (xt c.parts x 0 (sz c.parts x)) ((zR c.parts).getD x false)= { k with ro:=s.ro }∧s=⟨c.devs,j,c.parts,x,s.ro⟩):=by
 have e1:rw1 k=k:=by
  unfold rw1;rw[show(k.journals==0||k.exports==0)=false from by rw[h.ri.js,h.ri.es,hj,hx];rfl,qV]
 obtain⟨a,b,d⟩:=h.ri.expo x hx;have hi:=h.inv;unfold JB at hi;refine⟨e1,a,h.ri.jour j hj,h.ri.parts,h.ri.devs,hi.expo x hx,?_⟩;unfold vA;rw[hj,hx]
 show(match(if 256<(xt c.parts x 0 (sz c.parts x)).length then Except.error (137,c.eat)else if xM (xt c.parts x 0 (sz c.parts x))=true then Except.error (136,c.eat)else Except.ok ⟨c.devs,j,c.parts,x,c.ro⟩:Except Er Km)with
  | .error (ec,ea)=>ec≠0∧(Dy k (xt c.parts x 0 (sz c.parts x))).bad=(ec:Nat)∧(Dy k (xt c.parts x 0 (sz c.parts x))).at'=ea
  | .ok s=>rw4 k (xt c.parts x 0 (sz c.parts x)) ((zR c.parts).getD x false)= { k with ro:=s.ro }∧s=⟨c.devs,j,c.parts,x,s.ro⟩)
 generalize xt c.parts x 0 (sz c.parts x)=R;unfold rw4 Dy rw2;rw[e1];by_cases h1:256<R.length
 ·rw[if_pos h1,decide_eq_true h1,qu h.ri.bad,qy (by show(137:Int)≠0;decide)]
  exact⟨by decide,rfl,d⟩
 ·rw[if_neg h1,decide_eq_false h1,qV]
  cases ho:xM R with
  |true =>
   rw[if_pos rfl,qu h.ri.bad];exact⟨by decide,rfl,d⟩
  |false =>
   rw[if_neg (by decide),qV];refine⟨?_,rfl⟩;rw[b]
end
section
open Go.ChangeShapes Go.WideShapes Go.ChangeAt Go.RowKit Go.MapKept
def rkD(ps:List Pt):Rk:=⟨[],0,ps,0,false,[],0,0,0,0,0,0,0,0⟩
theorem QE.start(l:List Nd):QE l [] (rkD (disks 0 l)) (KG (disks 0 l)):=
 ⟨⟨rfl,rfl,(λj h=>nomatch h),rfl,(λx h=>nomatch h),Nr.nil,rfl,rfl,rfl,rfl,rfl⟩,JB.start l,⟨by show jr [] _≤8;decide,by show jr [] _≤16;decide⟩⟩
def Hv(n:Nd)(i:Nat)(k:Rk):Prop:=(∃c,QE n.l (n.l.take i) k c∧vq (KG (disks 0 n.l)) (n.l.take i)= .ok c)∨(∃(ec:Nat) (ea:Int),ec≠0∧UU n= .error (ec,ea)∧k.bad=(ec:Nat)∧k.at'=ea)
theorem Hv.start(n:Nd):Hv n 0 (rkD (disks 0 n.l)):= .inl ⟨_,QE.start n.l,rfl⟩
theorem Hv.step{n:Nd}{i:Nat}(hi:i<n.l.length){k k':Rk}{c:Ck}(hst:∀x ∈ n.l,YA x)(hO:QE n.l (n.l.take i) k c)(hC:vq (KG (disks 0 n.l)) (n.l.take i)= .ok c)(ho:Out k' (jm c n.l[i])):Hv n (i+1) k':=by
 have hm:=hst _ (List.getElem_mem hi)
 have hsn:vq (KG (disks 0 n.l)) (n.l.take (i+1))=jm c n.l[i]:=by
  rw[List.take_succ_eq_append_getElem hi,J9,hC]
 cases hS:jm c n.l[i]with
 |error er =>
  obtain⟨ec,ea⟩:=er;have h0:=VN hm hS;rw[hS]at ho;exact .inr ⟨ec,ea,h0,GQ (hsn.trans hS),ho.1,ho.2⟩
 |ok c' =>
  refine .inl ⟨c',?_,hsn.trans hS⟩;have:=hO.step (r:=n.l.drop (i+1)) (x:=n.l[i]) (by rw[List.getElem_cons_drop,List.take_append_drop]) hm hS ho;rw[List.take_succ_eq_append_getElem hi];exact this
theorem Hv.all{n:Nd}{k:Rk}{i:Nat}(hi:n.l.length≤i)(h:Hv n i k)(hb:k.bad=0):∃c,QE n.l n.l k c∧UU n=vA c:=by
 rcases h with⟨c,a,b⟩|⟨ec,ea,a,b,d,e⟩
 ·rw[List.take_of_length_le hi]at a b
  exact⟨c,a,GS b⟩
 ·rw[hb]at d
  omega
theorem Hv.bad{n:Nd}{k:Rk}{i:Nat}(h:Hv n i k)(hb:k.bad≠0):∃(ec:Nat) (ea:Int),ec≠0∧UU n= .error (ec,ea)∧k.bad=(ec:Nat)∧k.at'=ea:=by
 rcases h with⟨c,a,b⟩|h
 ·exact absurd a.ri.bad hb
 ·exact h
theorem Gi{x:List UInt8}{t:Tk×Nat}(h:xG x=some t):XG t.1:=by
 unfold xG at h;cases hS:vL x with
 |error r=>rw[hS]at h;cases h
 |ok ts =>
  rw[hS]at h
  match ts,h with
  | [u],h =>
    cases h;exact(yy hS).2 t (by simp)
theorem za9{x:List UInt8}(h:xg x=true):x.length≤128:=by
 unfold xg at h;cases ht:xG (36::x)with
 |none=>rw[ht]at h;cases h
 |some t =>
  rw[ht]at h;simp only[Bool.and_eq_true,beq_iff_eq]at h;have:=((Gi ht).hex h.1).2.2;rw[h.2]at this;exact this
theorem za7{n:Nd}(h:qS n=true)(ho:n.op=zM∨n.op=zN):(zH n.l 0).s.length≤1000:=by
 unfold qS at h;simp only[Bool.and_eq_true]at h;obtain⟨h1,h⟩:=h;rw[if_neg (by rcases ho with e|e<;>rw[e]<;>decide),if_pos ho]at h;unfold yt at h;simp only[Bool.and_eq_true]at h;have:=za9 h.2.1.1.2;have e:zH n.l 0=n.l.getD 0 (.mk [] [] 0 0 []):=rfl;rw[e];omega
theorem zZ.stk{w:World}{cb B:Nat}{V:RV}{k:Rk}(h:zZ (λg=>B≤g) w cb V k)(hB:B≤cb)(s:Km)(e1:k.devs=s.devs.map (λ(d:Nat)=>(d:Int)))(e2:k.parts=s.parts):xX w B s V.vd V.vp:=by
 obtain⟨us,e,hr,hi⟩:=h.prts;have hd:=ZD h.devs hB;rw[e1,List.length_map,List.map_map]at hd;rw[e2]at e hr hi;exact⟨hd,us,e,ZD hr hB,λi a b=>(hi i a b).keep (Nat.le_refl _) (λk hk hP=>⟨rfl,hP.2⟩)⟩
structure yg (w:World) (B:Nat) (A:Option Addr) (C:Nat) (ps:List Pt) (v:Value) (out:List R3):Prop where
 row:w.ownsRow B 42 3 v out.length (FF out)
 pts:vB w B A ps
 cap:ps.length≤C∧C≤maxLen
 few:out.length≤257
 lo:B≤w.heap.size
structure vm (v:Value) (w:World) (v':Value) (w':World):Prop where
 only :vZ (λk=>v.ownBlock=some k) w w'
 new:∀k,v'.ownBlock=some k→v.ownBlock=some k∨w.heap.size≤k
def yi(w:World)(B:Nat)(A:Option Addr)(C:Nat)(ps:List Pt)(v:Value)(out':List R3)(e:Ending)(w':World):Prop:=∃v',e= .returned v'∧yg w' B A C ps v' out'∧vm v w v' w'
theorem vm.refl(v:Value)(w:World):vm v w v w:=⟨.refl _ _,λ_ h=> .inl h⟩
theorem vm.trans{v v1 v2:Value}{w w1 w2:World}(h:vm v w v1 w1)(k:vm v1 w1 v2 w2):vm v w v2 w2:=by
 refine⟨⟨k.only.os.trans h.only.os,k.only.tape.trans h.only.tape,k.only.output.trans h.only.output,Nat.le_trans h.only.size k.only.size,λi hi hn=>?_⟩,λi hi=>?_⟩
 ·refine(k.only.block i (Nat.lt_of_lt_of_le hi h.only.size) (λe=>?_)).trans (h.only.block i hi hn)
  rcases h.new i e with e'|e'
  ·exact hn e'
  ·omega
 ·rcases k.new i hi with e|e
  ·exact h.new i e
  ·exact .inr (Nat.le_trans h.only.size e)
theorem yg.low{w:World}{B:Nat}{A:Option Addr}{C:Nat}{ps:List Pt}{v:Value}{out:List R3}(h:yg w B A C ps v out){k:Nat}(hk:v.ownBlock=some k):B≤k∧k<w.heap.size:=by
 have:=qR h.row hk;omega
theorem yg.keep{w w':World}{B:Nat}{A:Option Addr}{C:Nat}{ps:List Pt}{v:Value}{out:List R3}(h:yg w B A C ps v out)(hb:Below w.heap.size w w'):yg w' B A C ps v out:=
 ⟨zI h.row (λg o e ho=>(hb.block g (Array.getElem?_eq_some_iff.1 ho).1).trans ho),h.pts.keep (hb.mono h.lo),h.cap,h.few,Nat.le_trans h.lo hb.size⟩
theorem vm.below{B:Nat}{v v':Value}{w w':World}(h:vm v w v' w')(hl:∀k,v.ownBlock=some k→B≤k)(hB:B≤w.heap.size):Below B w w':=h.only.below hB λk hk=>hl k hk
theorem vm.of{v:Value}{w w':World}(h:Below w.heap.size w w'):vm v w v w':=⟨.of h,λ_ e=> .inl e⟩
theorem yg.put{W1 w6:World}{B:Nat}{A:Option Addr}{C:Nat}{ps:List Pt}{v:Value}{out:List R3}(h:yg W1 B A C ps v out){r:R3}{A6:Option Addr}{C6:Nat}(ho:¬256<out.length)(hrow:w6.ownsRow B 42 3 (.slice A6 (out.length+1) C6) (out.length+1) (FF out++ [.int .i64 r.d,.int .i64 r.f,.int .i64 r.c]))(hO:vZ (λk=>v.ownBlock=some k) W1 w6):yg w6 B A C ps (.slice A6 (out.length+1) C6) (out++ [r]):=by
 have hb:Below B W1 w6:=hO.below h.lo λk hk=>(h.low hk).1
 refine⟨?_,h.pts.keep hb,h.cap,by simp;omega,Nat.le_trans h.lo hO.size⟩;rw[GV,List.length_append,List.length_singleton];exact hrow
theorem yg.start{w:World}{B:Nat}{A:Option Addr}{C:Nat}{ps:List Pt}(hp:vB w B A ps)(hc:ps.length≤C∧C≤maxLen)(hB:B≤w.heap.size):yg w B A C ps (.slice none 0 0) []:=
 ⟨⟨rfl,.inl ⟨rfl,rfl⟩⟩,hp,hc,by simp,hB⟩
theorem fm{o:Oper}{a:Act}(x y:Operand)(ho:o.op= .binOp .add 3 x y 3)(p q:Int)(hx:a.eval x= .int .i64 p)(hy:a.eval y= .int .i64 q)(h: -9223372036854775808≤p+q∧p+q≤9223372036854775807)(w:World):(execOp a.eval o).run Tryz.prog w= .ok (.value (.int .i64 (p+q))) w:=by
 unfold execOp;simp only[ho,hx,hy];go_simp;exact IntWalk.i64_in _ (by omega)
theorem Xf{o:Oper}{a:Act}(x y:Operand)(ho:o.op= .binOp .sub 3 x y 3)(p q:Int)(hx:a.eval x= .int .i64 p)(hy:a.eval y= .int .i64 q)(h: -9223372036854775808≤p-q∧p-q≤9223372036854775807)(w:World):(execOp a.eval o).run Tryz.prog w= .ok (.value (.int .i64 (p-q))) w:=by
 unfold execOp;simp only[ho,hx,hy];go_simp;exact IntWalk.i64_in _ (by omega)
theorem vI{o:Oper}{a:Act}(x:Operand)(ho:o.op= .load 32 x)(g:Nat)(hx:a.eval x= .pointer (some ⟨g,0,none⟩)){x0 x1 x2 x3 x4:Value}(w:World){t:Nat}(h:zm w g t #[x0,x1,x2,x3,x4]):(execOp a.eval o).run Tryz.prog w= .ok (.value (.agg #[x0,x1,x2,x3,x4])) w:=by
 have q0:=h.cell 0;have q1:=h.cell 1;have q2:=h.cell 2;have q3:=h.cell 3;have q4:=h.cell 4;simp only[qH,qG,qI]at q0 q1 q2 q3 q4;unfold execOp;simp only[ho,hx];go_simp
theorem qm{o:Oper}{a:Act}(x:Operand)(ho:o.op= .load 3 x)(p:Addr)(hx:a.eval x= .pointer (some p)){v:Int}(w:World)(h:w.cell? p=some (.int .i64 v)):(execOp a.eval o).run Tryz.prog w= .ok (.value (.int .i64 v)) w:=by
 unfold execOp;simp only[ho,hx];go_simp
theorem yJ{o:Oper}{a:Act}(x i:Operand)(ho:o.op= .indexAddr 29 x i)(g off n cap:Nat)(hx:a.eval x= .slice (some ⟨g,off,none⟩) n cap)(hi:a.eval i= .int .i64 0)(hk:0<n)(w:World):(execOp a.eval o).run Tryz.prog w= .ok (.value (.pointer (some ⟨g,off,none⟩))) w:=qh x i ho g off 0 n cap hx hi hk w
def yI(wz:World)(sb pb:Nat)(ss qs:Array Value):Prop:=zm wz sb 32 ss∧zm wz pb 65 qs
theorem yI.drew{w:World}{sb pb:Nat}{ss qs:Array Value}(h:yI w sb pb ss qs):yI w.drew sb pb ss qs:=⟨zt h.1,zt h.2⟩
theorem yI.onl{F:Nat→Prop}{w w':World}{sb pb:Nat}{ss qs:Array Value}(h:yI w sb pb ss qs)(ho:vZ F w w')(h1:¬F sb)(h2:¬F pb):yI w' sb pb ss qs:=⟨h.1.onl ho h1,h.2.onl ho h2⟩
theorem fR{w:World}{B:Nat}{A:Option Addr}{C:Nat}{ps:List Pt}{v:Value}{out:List R3}(h:yg w B A C ps v out)(k:Nat)(hk:k<ps.length)(f c:Int)(ho:256<out.length)(x0 x1 x3 x4:Value):
 Calls Tryz.prog 23 #[.agg #[x0,x1,.slice A ps.length C,x3,x4],.int .i64 (k:Nat),.int .i64 f,.int .i64 c,v] w (yi w B A C ps v out):=by
 obtain⟨Av,Cv,rfl⟩:∃Av Cv,v= .slice Av out.length Cv:=by
  rcases h.row.2 with⟨rfl,h0⟩|⟨g,cap,cur,rfl,_⟩
  ·exact⟨none,0,by rw[h0]⟩
  ·exact⟨_,_,rfl⟩
 obtain⟨g,off,Ak,Ck,A2,n2,C2,A3,n3,C3,rfl,hg0,hg,hki,hkc,hkm,hcell⟩:=jw h.pts hk;have hcap:ps.length≤C∧C≤9223372036854775807:=h.cap;generalize (zx ps k).kind=pki at *;generalize (zx ps k).size=psz at *;generalize (zx ps k).dev=pdv at *;generalize (zx ps k).first=pfi at *;generalize (zx ps k).chunk=pch at *;generalize (zx ps k).kids=pk at *;generalize pk.length=Kn at *
 obtain⟨W1,hW1⟩:∃W1,W1=w.alloc (.cells #[x0,x1,.slice (some ⟨g,off,none⟩) ps.length C,x3,x4] 32):=⟨_,rfl⟩
 have hb1:Below w.heap.size w W1:=by rw[hW1];exact zl w _
 have S1:zm W1 w.heap.size 32 #[x0,x1,.slice (some ⟨g,off,none⟩) ps.length C,x3,x4]:=by rw[hW1];exact zm.new w _ _
 have hce1:=λj (hj:j<8)=>(hb1.cell (p:=⟨g,off+k*8+j,none⟩) hg).trans (hcell j hj)
 have hooi:(256:Int)<(out.length:Int):=by omega
 have hd:decide ((256:Int)<(out.length:Int))=true:=decide_eq_true hooi;have hkli:(k:Int)<(ps.length:Int):=by omega
 have HFIN:=ze (λW (hb:Below w.heap.size w W)=>(show yi w B (some ⟨g,off,none⟩) C ps (.slice Av out.length Cv) out (.returned (.slice Av out.length Cv)) W from⟨_,rfl,h.keep hb,vm.of hb⟩));have HW1:=ze hW1;have HB1:=ze hb1;have s2:=S1.cell 2;have sl:=S1.lt;simp only[qH,qG,qI]at s2;clear hW1 h hki ho hb1;generalize ps.length=NP at *;generalize out.length=NO at *;go_enter Tryz.func23,Tryz.ntmps23
 go_wp2_with (first
  |((with_reducible refine zi 18 rfl ?_)
    (rw[←HW1.out]))
  |((with_reducible refine zi 21 rfl ?_)
    (refine zd (some 21) _ rfl (by rfl) (zE _ _ rfl g off k NP C rfl rfl hk W1) ?_))
  |((with_reducible refine zi 22 rfl ?_)
    (refine zd (some 22) _ rfl (by rfl) (qe _ rfl g (off+k*8) rfl W1 hce1) ?_)))
 go_ret
 exact HFIN.out _ (HB1.out.trans ((zl W1 _).mono HB1.out.size))
theorem gU{w:World}{B:Nat}{A:Option Addr}{C:Nat}{ps:List Pt}{v:Value}{out:List R3}(h:yg w B A C ps v out)(hwf:Jv ps)(d k:Nat)(hk:k<ps.length)(f c:Int)(ho:¬256<out.length)(hkind:(zx ps k).kind=1)(hf0:0≤f)(hc0:0<c)(hfc:f+c≤((zx ps k).size:Nat))(x0 x1 x3 x4:Value)
 (hx:∀(W:World) (v:Value) (out:List R3) (j:Nat) (f c:Int),yg W B A C ps v out→j<k→jF ps (j:Nat) f c=true→Calls Tryz.prog 23 #[.agg #[x0,x1,.slice A ps.length C,x3,x4],.int .i64 (j:Nat),.int .i64 f,.int .i64 c,v] W (yi W B A C ps v (jG ps d out j f c))):
 Calls Tryz.prog 23 #[.agg #[x0,x1,.slice A ps.length C,x3,x4],.int .i64 (k:Nat),.int .i64 f,.int .i64 c,v] w (yi w B A C ps v (vC ps (jG ps d) out (zx ps k) f c)):=by
 obtain⟨Av,Cv,rfl⟩:∃Av Cv,v= .slice Av out.length Cv:=by
  rcases h.row.2 with⟨rfl,h0⟩|⟨g,cap,cur,rfl,_⟩
  ·exact⟨none,0,by rw[h0]⟩
  ·exact⟨_,_,rfl⟩
 obtain⟨g,off,Ak,Ck,A2,n2,C2,A3,n3,C3,rfl,hg0,hg,hki,hkc,hkm,hcell⟩:=jw h.pts hk;have hcap:ps.length≤C∧C≤9223372036854775807:=h.cap;have hkm2:Ck≤9223372036854775807:=hkm;have hsz0:=hwf.size k hk;rw[show sz ps k=(zx ps k).size from rfl]at hsz0;rw[hkind]at hcell;rw[show vC ps (jG ps d) out (zx ps k) f c=out++ [⟨((zx ps k).dev:Nat),f,c⟩]from by unfold vC;rw[if_pos hkind]];generalize (zx ps k).kids=pk at *;generalize pk.length=Kn at *;generalize (zx ps k).size=psz at *;generalize (zx ps k).dev=pdv at *;generalize (zx ps k).first=pfi at *;generalize (zx ps k).chunk=pch at *;have hl1:∀j,(Value.slice Av out.length Cv).ownBlock=some j→B≤j∧j<w.heap.size:=λj hj=>h.low hj
 obtain⟨NP,hNP⟩:∃NP,NP=ps.length:=⟨_,rfl⟩
 rw[←hNP]at hcap ⊢ hx;have hkN:k<NP:=by omega
 obtain⟨W1,hW1⟩:∃W1,W1=w.alloc (.cells #[x0,x1,.slice (some ⟨g,off,none⟩) NP C,x3,x4] 32):=⟨_,rfl⟩
 have hb1:Below w.heap.size w W1:=by rw[hW1];exact zl w _
 have S1:zm W1 w.heap.size 32 #[x0,x1,.slice (some ⟨g,off,none⟩) NP C,x3,x4]:=by rw[hW1];exact zm.new w _ _
 have hce1:=λj (hj:j<8)=>(hb1.cell (p:=⟨g,off+k*8+j,none⟩) hg).trans (hcell j hj)
 obtain⟨W4,hW4⟩:∃W4,W4=W1.alloc (.cells #[.int .i64 1,.int .i64 (psz:Nat),.slice Ak Kn Ck,.int .i64 (pdv:Nat),.int .i64 (pfi:Nat),.int .i64 (pch:Nat),.slice A2 n2 C2,.slice A3 n3 C3] 65):=⟨_,rfl⟩
 have hb4:Below W1.heap.size W1 W4:=by rw[hW4];exact zl W1 _
 have hb04:Below w.heap.size w W4:=hb1.trans (hb4.mono hb1.size);have P4:zm W4 W1.heap.size 65 #[.int .i64 1,.int .i64 (psz:Nat),.slice Ak Kn Ck,.int .i64 (pdv:Nat),.int .i64 (pfi:Nat),.int .i64 (pch:Nat),.slice A2 n2 C2,.slice A3 n3 C3]:=by rw[hW4];exact zm.new W1 _ _
 have hZ1:W1.heap.size=w.heap.size+1:=by rw[hW1];simp
 have HKI:=ze (show yI W4 w.heap.size W1.heap.size #[x0,x1,.slice (some ⟨g,off,none⟩) NP C,x3,x4] #[.int .i64 1,.int .i64 (psz:Nat),.slice Ak Kn Ck,.int .i64 (pdv:Nat),.int .i64 (pfi:Nat),.int .i64 (pch:Nat),.slice A2 n2 C2,.slice A3 n3 C3]from⟨S1.below hb4 S1.lt,P4⟩);have HNE:=ze (show ∀j,w.heap.size≤j→(Value.slice Av out.length Cv).ownBlock≠some j from λj hj e=>by have:=(hl1 j e).2;omega);have HLB:=ze (show ∀j,(Value.slice Av out.length Cv).ownBlock=some j→B≤j from λj hj=>(hl1 j hj).1);have HB4:=ze (show B≤W4.heap.size from Nat.le_trans h.lo hb04.size);have HKG:=ze (h.keep hb04);have HST:=ze (vm.of (v:= .slice Av out.length Cv) hb04);have HX:=ze hx;have HZ1:=ze hZ1
 obtain⟨W5,hW5⟩:∃W5,W5=W4.alloc (.cells #[.int .i64 (pdv:Nat),.int .i64 f,.int .i64 c] 42):=⟨_,rfl⟩
 have hb5:Below W4.heap.size W4 W5:=by rw[hW5];exact zl W4 _
 have G5:zm W5 W4.heap.size 42 #[.int .i64 (pdv:Nat),.int .i64 f,.int .i64 c]:=by rw[hW5];exact zm.new W4 _ _
 have hb05:Below w.heap.size w W5:=hb04.trans (hb5.mono hb04.size);have H5:=h.keep hb05;obtain⟨A6,C6,w6,hr6,hrow6,hg6,hw6⟩:=zX Dp (ty:=40) W5 B out.length _ _ H5.row H5.lo (by omega) [.int .i64 (pdv:Nat),.int .i64 f,.int .i64 c] rfl (by intro u hu;simp only[List.mem_cons,List.not_mem_nil,or_false]at hu;rcases hu with rfl|rfl|rfl<;>rfl) W4.heap.size G5
 have hO6:vZ (λk=>(Value.slice Av out.length Cv).ownBlock=some k) W5 w6:=⟨hg6.os,hg6.tape,hg6.output,hg6.size,λk hk hn=>hg6.block k hk (λe=>hn e.symm)⟩
 have hfin:=H5.put (r:=⟨(pdv:Nat),f,c⟩) ho hrow6 hO6
 have hst:vm (Value.slice Av out.length Cv) w (.slice A6 (out.length+1) C6) w6:=(vm.of hb05).trans ⟨hO6,λj hj=>by
  rcases hw6 with e|e
  ·exact .inl (e ▸ hj)
  ·rw[e]at hj
   cases hj
   exact .inr (Nat.le_refl _)⟩
 have HFIN:=ze (show yi w B (some ⟨g,off,none⟩) C ps (.slice Av out.length Cv) (out++ [⟨(pdv:Nat),f,c⟩]) (.returned (.slice A6 (out.length+1) C6)) w6 from⟨_,rfl,hfin,hst⟩);have HW5:=ze hW5;rw[show W4.heap.size=W1.heap.size+1 from by rw[hW4];simp]at hr6;have p3:=P4.cell 3;simp only[qH,qG,qI]at p3;rw[hW4]at p3;have HW1:=ze hW1;have HW4:=ze hW4;have s2:=S1.cell 2;have sl:=S1.lt;have p0:=P4.cell 0;have p2:=P4.cell 2;have pl:=P4.lt;simp only[qH,qG,qI]at s2 p0 p2;rw[hW4]at p0 p2 pl;have hooi:¬(256:Int)<(out.length:Int):=by omega
 have hkli:(k:Int)<(NP:Int):=by omega
 clear hW1 hW4 h hx hkind ho hki hl1 hNP hZ1 hW5 H5 hfin hst hrow6 hg6 hw6 hO6 G5;generalize out.length=NO at *;go_enter Tryz.func23,Tryz.ntmps23
 go_wp2_with (first
  |((with_reducible refine zi 18 rfl ?_)
    (rw[←HW1.out]))
  |((with_reducible refine zi 21 rfl ?_)
    (refine zd (some 21) _ rfl (by rfl) (zE _ _ rfl g off k NP C rfl rfl hkN W1) ?_))
  |((with_reducible refine zi 22 rfl ?_)
    (refine zd (some 22) _ rfl (by rfl) (qe _ rfl g (off+k*8) rfl W1 hce1) ?_))
  |((with_reducible refine zi 38 rfl ?_)
    rw[←HW4.out,←HW5.out];(refine jP (some 38) (.slice A6 (NO+1) C6) w6 rfl (by rfl) (zW _ _ rfl rfl rfl hr6) ?_)))
 go_ret
 exact HFIN.out
theorem UC{w:World}{B:Nat}{A:Option Addr}{C:Nat}{ps:List Pt}{v:Value}{out:List R3}(h:yg w B A C ps v out)(hwf:Jv ps)(d k:Nat)(hk:k<ps.length)(f c:Int)(ho:¬256<out.length)(hkind:(zx ps k).kind=2)(hp:yZ ps (zx ps k))(hf0:0≤f)(hc0:0<c)(hfc:f+c≤((zx ps k).size:Nat))(x0 x1 x3 x4:Value)
 (hx:∀(W:World) (v:Value) (out:List R3) (j:Nat) (f c:Int),yg W B A C ps v out→j<k→jF ps (j:Nat) f c=true→Calls Tryz.prog 23 #[.agg #[x0,x1,.slice A ps.length C,x3,x4],.int .i64 (j:Nat),.int .i64 f,.int .i64 c,v] W (yi W B A C ps v (jG ps d out j f c))):
 Calls Tryz.prog 23 #[.agg #[x0,x1,.slice A ps.length C,x3,x4],.int .i64 (k:Nat),.int .i64 f,.int .i64 c,v] w (yi w B A C ps v (vC ps (jG ps d) out (zx ps k) f c)):=by
 obtain⟨Av,Cv,rfl⟩:∃Av Cv,v= .slice Av out.length Cv:=by
  rcases h.row.2 with⟨rfl,h0⟩|⟨g,cap,cur,rfl,_⟩
  ·exact⟨none,0,by rw[h0]⟩
  ·exact⟨_,_,rfl⟩
 obtain⟨g,off,Ak,Ck,A2,n2,C2,A3,n3,C3,rfl,hg0,hg,hki,hkc,hkm,hcell⟩:=jw h.pts hk;have hcap:ps.length≤C∧C≤9223372036854775807:=h.cap;have hkm2:Ck≤9223372036854775807:=hkm;have hsz0:=hwf.size k hk;rw[show sz ps k=(zx ps k).size from rfl]at hsz0;rw[hkind]at hcell;obtain⟨kid,hkid⟩:=List.length_eq_one_iff.1 (hp.one (.inl hkind))
 have EQ:vC ps (jG ps d) out (zx ps k) f c=jG ps d out kid ((((zx ps k).first:Nat):Int)+f) c:=by
  unfold vC;rw[hkind,hkid];rfl
 rw[EQ];have hkd:kid<k:=hwf.kids k hk kid (by rw[hkid];exact List.mem_singleton_self _);have hno:=hp.kids kid (by rw[hkid];exact List.mem_singleton_self _);have hlin:=hp.lin hkind;rw[hkid]at hki hkc hcell hlin;have hlin:(zx ps k).first+(zx ps k).size≤sz ps kid:=hlin;obtain⟨b,o,eA,hbl,hbf,hcl⟩:=hki.resolve_left (by simp);have hc0k:w.cell? ⟨b,o,none⟩=some (.int .i64 (kid:Nat)):=hcl 0 (by simp);change ∀j,j<8→w.cell? ⟨g,off+k*8+j,none⟩=(#[.int .i64 2,.int .i64 ((zx ps k).size:Nat),.slice Ak 1 Ck,.int .i64 ((zx ps k).dev:Nat),.int .i64 ((zx ps k).first:Nat),.int .i64 ((zx ps k).chunk:Nat),.slice A2 n2 C2,.slice A3 n3 C3]:Array Value)[j]? at hcell;subst eA;have hb:jF ps (kid:Nat) ((((zx ps k).first:Nat):Int)+f) c=true:=vv hno (by omega) hc0 (by omega);have hfi:=hwf.first k hk;have hks:=hno.2;clear EQ hkid hcl hp hlin hno;generalize (zx ps k).size=psz at *;generalize (zx ps k).dev=pdv at *;generalize (zx ps k).first=pfi at *;generalize (zx ps k).chunk=pch at *;have hl1:∀j,(Value.slice Av out.length Cv).ownBlock=some j→B≤j∧j<w.heap.size:=λj hj=>h.low hj
 obtain⟨NP,hNP⟩:∃NP,NP=ps.length:=⟨_,rfl⟩
 rw[←hNP]at hcap ⊢ hx;have hkN:k<NP:=by omega
 obtain⟨W1,hW1⟩:∃W1,W1=w.alloc (.cells #[x0,x1,.slice (some ⟨g,off,none⟩) NP C,x3,x4] 32):=⟨_,rfl⟩
 have hb1:Below w.heap.size w W1:=by rw[hW1];exact zl w _
 have S1:zm W1 w.heap.size 32 #[x0,x1,.slice (some ⟨g,off,none⟩) NP C,x3,x4]:=by rw[hW1];exact zm.new w _ _
 have hce1:=λj (hj:j<8)=>(hb1.cell (p:=⟨g,off+k*8+j,none⟩) hg).trans (hcell j hj)
 obtain⟨W4,hW4⟩:∃W4,W4=W1.alloc (.cells #[.int .i64 2,.int .i64 (psz:Nat),.slice (some ⟨b,o,none⟩) 1 Ck,.int .i64 (pdv:Nat),.int .i64 (pfi:Nat),.int .i64 (pch:Nat),.slice A2 n2 C2,.slice A3 n3 C3] 65):=⟨_,rfl⟩
 have hb4:Below W1.heap.size W1 W4:=by rw[hW4];exact zl W1 _
 have hb04:Below w.heap.size w W4:=hb1.trans (hb4.mono hb1.size);have P4:zm W4 W1.heap.size 65 #[.int .i64 2,.int .i64 (psz:Nat),.slice (some ⟨b,o,none⟩) 1 Ck,.int .i64 (pdv:Nat),.int .i64 (pfi:Nat),.int .i64 (pch:Nat),.slice A2 n2 C2,.slice A3 n3 C3]:=by rw[hW4];exact zm.new W1 _ _
 have hZ1:W1.heap.size=w.heap.size+1:=by rw[hW1];simp
 have HKI:=ze (show yI W4 w.heap.size W1.heap.size #[x0,x1,.slice (some ⟨g,off,none⟩) NP C,x3,x4] #[.int .i64 2,.int .i64 (psz:Nat),.slice (some ⟨b,o,none⟩) 1 Ck,.int .i64 (pdv:Nat),.int .i64 (pfi:Nat),.int .i64 (pch:Nat),.slice A2 n2 C2,.slice A3 n3 C3]from⟨S1.below hb4 S1.lt,P4⟩);have HNE:=ze (show ∀j,w.heap.size≤j→(Value.slice Av out.length Cv).ownBlock≠some j from λj hj e=>by have:=(hl1 j e).2;omega);have HLB:=ze (show ∀j,(Value.slice Av out.length Cv).ownBlock=some j→B≤j from λj hj=>(hl1 j hj).1);have HB4:=ze (show B≤W4.heap.size from Nat.le_trans h.lo hb04.size);have HKG:=ze (h.keep hb04);have HST:=ze (vm.of (v:= .slice Av out.length Cv) hb04);have HX:=ze hx;have HZ1:=ze hZ1;have HCK:=ze (hb04.cell (p:=⟨b,o,none⟩) hbl |>.trans hc0k);have HBB:=ze hbf;have HHB:=ze hb;have HW1:=ze hW1;have HW4:=ze hW4;have s2:=S1.cell 2;have sl:=S1.lt;have p0:=P4.cell 0;have p2:=P4.cell 2;have pl:=P4.lt;simp only[qH,qG,qI]at s2 p0 p2;rw[hW4]at p0 p2 pl;have hooi:¬(256:Int)<(out.length:Int):=by omega
 have hkli:(k:Int)<(NP:Int):=by omega
 clear hW1 hW4 h hx hkind ho hki hl1 hNP hZ1 hb hc0k hbf;generalize out.length=NO at *;go_enter Tryz.func23,Tryz.ntmps23
 go_wp2_with (first
  |((with_reducible refine zi 18 rfl ?_)
    (rw[←HW1.out]))
  |((with_reducible refine zi 21 rfl ?_)
    (refine zd (some 21) _ rfl (by rfl) (zE _ _ rfl g off k NP C rfl rfl hkN W1) ?_))
  |((with_reducible refine zi 22 rfl ?_)
    (refine zd (some 22) _ rfl (by rfl) (qe _ rfl g (off+k*8) rfl W1 hce1) ?_)))
 rw[←HW4.out];refine wp_region_held_drew (S:=λwz=>yI wz w.heap.size W1.heap.size #[x0,x1,.slice (some ⟨g,off,none⟩) NP C,x3,x4] #[.int .i64 2,.int .i64 (psz:Nat),.slice (some ⟨b,o,none⟩) 1 Ck,.int .i64 (pdv:Nat),.int .i64 (pfi:Nat),.int .i64 (pch:Nat),.slice A2 n2 C2,.slice A3 n3 C3]∧wz.cell? ⟨b,o,none⟩=some (.int .i64 (kid:Nat))) (by kernel_rfl) (⟨HKI.out.drew,HCK.out⟩) (λhHeld=>?_);refine zD 0 (some 41) (.agg #[x0,x1,.slice (some ⟨g,off,none⟩) NP C,x3,x4]) rfl rfl (λwz hz=>vI _ rfl _ rfl wz hz.1.1) hHeld ?_;simp only[Act.put,zh,zf,zg];refine zw 1 (some 42) (.pointer (some ⟨W1.heap.size,2,none⟩)) hHeld ?_;simp only[Act.put,zh,zf,zg];refine zD 2 (some 43) (.slice (some ⟨b,o,none⟩) 1 Ck) rfl rfl (λwz hz=>by have q:wz.cell? ⟨W1.heap.size,2,none⟩=some (.slice (some ⟨b,o,none⟩) 1 Ck):=hz.1.2.cell 2;unfold execOp;go_simp) hHeld ?_;simp only[Act.put,zh,zf,zg];refine zD 3 (some 44) (.pointer (some ⟨b,o,none⟩)) rfl rfl (λwz _=>yJ _ _ rfl b o 1 Ck rfl rfl (by omega) wz) hHeld ?_;simp only[Act.put,zh,zf,zg];refine zD 4 (some 45) (.int .i64 (kid:Nat)) rfl rfl (λwz hz=>qm _ rfl _ rfl wz hz.2) hHeld ?_;simp only[Act.put,zh,zf,zg];refine zw 5 (some 46) (.pointer (some ⟨W1.heap.size,4,none⟩)) hHeld ?_;simp only[Act.put,zh,zf,zg];refine zD 6 (some 47) (.int .i64 (pfi:Nat)) rfl rfl (λwz hz=>by have q:wz.cell? ⟨W1.heap.size,4,none⟩=some (.int .i64 (pfi:Nat)):=hz.1.2.cell 4;unfold execOp;go_simp) hHeld ?_;simp only[Act.put,zh,zf,zg];refine zw 7 (some 48) (.int .i64 f) hHeld ?_;simp only[Act.put,zh,zf,zg];refine zD 8 (some 49) (.int .i64 ((pfi:Int)+f)) rfl rfl (λwz _=>fm _ _ rfl (pfi:Int) f rfl rfl (by omega) wz) hHeld ?_;simp only[Act.put,zh,zf,zg];refine zw 9 (some 50) (.int .i64 c) hHeld ?_;simp only[Act.put,zh,zf,zg];refine zw 10 (some 51) (.slice Av NO Cv) hHeld ?_;simp only[Act.put,zh,zf,zg];refine qY 11 (some 52) 23 #[.agg #[x0,x1,.slice (some ⟨g,off,none⟩) NP C,x3,x4],.int .i64 (kid:Nat),.int .i64 ((pfi:Int)+f),.int .i64 c,.slice Av NO Cv] (by kernel_rfl) rfl rfl (by rfl) (by kernel_rfl) (HX.out _ _ _ kid _ c (HKG.out.keep (Below.refl _ W4).drew) hkd HHB.out) ?_;rintro e w5 ⟨v5,rfl,H5,S5'⟩;have S5:vm (.slice Av NO Cv) W4 v5 w5:=(vm.of (Below.refl _ W4).drew).trans S5'
 have hHeld:yI w5 w.heap.size W1.heap.size #[x0,x1,.slice (some ⟨g,off,none⟩) NP C,x3,x4] #[.int .i64 2,.int .i64 (psz:Nat),.slice (some ⟨b,o,none⟩) 1 Ck,.int .i64 (pdv:Nat),.int .i64 (pfi:Nat),.int .i64 (pch:Nat),.slice A2 n2 C2,.slice A3 n3 C3]∧w5.cell? ⟨b,o,none⟩=some (.int .i64 (kid:Nat)):=⟨HKI.out.onl S5.only (HNE.out _ (Nat.le_refl _)) (HNE.out _ (by have:=HZ1.out;omega)),((S5.below HLB.out HB4.out).cell (p:=⟨b,o,none⟩) HBB.out).trans HCK.out⟩
 refine⟨_,rfl,hHeld,?_⟩;simp only[Act.put,zh,zf,zg];refine zw 12 (some 4) (v5) hHeld ?_;simp only[Act.put,zh,zf,zg];refine wpAnyH_done (by kernel_rfl) ?_ _;clear hHeld S5' p0 p2 pl
 go_wp2
 go_ret
 exact⟨_,rfl,H5,HST.out.trans S5⟩
def Vg(ps:List Pt)(G:List R3→Nat→Int→Int→List R3)(f c:Int)(x:List R3×Int)(k:Nat):List R3×Int:=(if max f x.2<min (f+c) (x.2+sz ps k)then G x.1 k (max f x.2-x.2) (min (f+c) (x.2+sz ps k)-max f x.2)else x.1,x.2+sz ps k)
theorem zal{ps:List Pt}{G:List R3→Nat→Int→Int→List R3}{f c:Int}(l:List Nat):∀(x:List R3×Int),(∀k ∈ l,sz ps k≤8192)→x.2≤(l.foldl (Vg ps G f c) x).2∧(l.foldl (Vg ps G f c) x).2≤x.2+8192*l.length:=by
 induction l with
 |nil=>intro x _;simp
 |cons k l ih =>
  intro x hk;have h1:=ih (Vg ps G f c x k) (λj hj=>hk j (by simp[hj]));have h2:(Vg ps G f c x k).2=x.2+sz ps k:=rfl;have h4:=hk k (by simp);simp only[List.foldl_cons,List.length_cons];omega
theorem Uo{w:World}{B:Nat}{A:Option Addr}{C:Nat}{ps:List Pt}{v:Value}{out:List R3}(h:yg w B A C ps v out)(hwf:Jv ps)(d k:Nat)(hk:k<ps.length)(f c:Int)(ho:¬256<out.length)(hkind:(zx ps k).kind=3)(hp:yZ ps (zx ps k))(hf0:0≤f)(hc0:0<c)(hfc:f+c≤((zx ps k).size:Nat))(x0 x1 x3 x4:Value)
 (hx:∀(W:World) (v:Value) (out:List R3) (j:Nat) (f c:Int),yg W B A C ps v out→j<k→jF ps (j:Nat) f c=true→Calls Tryz.prog 23 #[.agg #[x0,x1,.slice A ps.length C,x3,x4],.int .i64 (j:Nat),.int .i64 f,.int .i64 c,v] W (yi W B A C ps v (jG ps d out j f c))):
 Calls Tryz.prog 23 #[.agg #[x0,x1,.slice A ps.length C,x3,x4],.int .i64 (k:Nat),.int .i64 f,.int .i64 c,v] w (yi w B A C ps v (vC ps (jG ps d) out (zx ps k) f c)):=by
 obtain⟨Av,Cv,rfl⟩:∃Av Cv,v= .slice Av out.length Cv:=by
  rcases h.row.2 with⟨rfl,h0⟩|⟨g,cap,cur,rfl,_⟩
  ·exact⟨none,0,by rw[h0]⟩
  ·exact⟨_,_,rfl⟩
 obtain⟨g,off,Ak,Ck,A2,n2,C2,A3,n3,C3,rfl,hg0,hg,hki,hkc,hkm,hcell⟩:=jw h.pts hk;have hcap:ps.length≤C∧C≤9223372036854775807:=h.cap;have hkm2:Ck≤9223372036854775807:=hkm;have hsz0:=hwf.size k hk;rw[show sz ps k=(zx ps k).size from rfl]at hsz0;rw[hkind]at hcell
 have EQ:vC ps (jG ps d) out (zx ps k) f c=((zx ps k).kids.foldl (Vg ps (jG ps d) f c) (out,0)).1:=by
  unfold vC;rw[hkind];rfl
 rw[EQ];have hkids:=hwf.kids k hk;have hfew:=hwf.few k hk;have hnd:=hp.kids;have HND:=ze hnd
 have HSZ:=ze (show ∀i,i<ps.length→w.cell? ⟨g,off+i*8+1,none⟩=some (.int .i64 (sz ps i:Nat))from λi hi=>by
  obtain⟨g',off',_,_,_,_,_,_,_,_,eg,_,_,_,_,_,hc'⟩:=jw h.pts hi;cases eg
  exact hc' 1 (by decide))
 have HLE:=ze (λi=>zal (ps:=ps) (G:=jG ps d) (f:=f) (c:=c) ((zx ps k).kids.take i) (out,0) (λj hj=>(hnd j (List.mem_of_mem_take hj)).2.2));clear EQ hp hnd;generalize (zx ps k).kids=pk at *
 obtain⟨Kn,hKn⟩:∃Kn,Kn=pk.length:=⟨_,rfl⟩
 rw[←hKn]at hcell hkc hfew;have HKn:=ze hKn;clear hKn;generalize (zx ps k).size=psz at *;generalize (zx ps k).dev=pdv at *;generalize (zx ps k).first=pfi at *;generalize (zx ps k).chunk=pch at *;have hl1:∀j,(Value.slice Av out.length Cv).ownBlock=some j→B≤j∧j<w.heap.size:=λj hj=>h.low hj
 obtain⟨NP,hNP⟩:∃NP,NP=ps.length:=⟨_,rfl⟩
 rw[←hNP]at hcap ⊢ hx;have hkN:k<NP:=by omega
 obtain⟨W1,hW1⟩:∃W1,W1=w.alloc (.cells #[x0,x1,.slice (some ⟨g,off,none⟩) NP C,x3,x4] 32):=⟨_,rfl⟩
 have hb1:Below w.heap.size w W1:=by rw[hW1];exact zl w _
 have S1:zm W1 w.heap.size 32 #[x0,x1,.slice (some ⟨g,off,none⟩) NP C,x3,x4]:=by rw[hW1];exact zm.new w _ _
 have hce1:=λj (hj:j<8)=>(hb1.cell (p:=⟨g,off+k*8+j,none⟩) hg).trans (hcell j hj)
 obtain⟨W4,hW4⟩:∃W4,W4=W1.alloc (.cells #[.int .i64 3,.int .i64 (psz:Nat),.slice Ak Kn Ck,.int .i64 (pdv:Nat),.int .i64 (pfi:Nat),.int .i64 (pch:Nat),.slice A2 n2 C2,.slice A3 n3 C3] 65):=⟨_,rfl⟩
 have hb4:Below W1.heap.size W1 W4:=by rw[hW4];exact zl W1 _
 have hb04:Below w.heap.size w W4:=hb1.trans (hb4.mono hb1.size);have P4:zm W4 W1.heap.size 65 #[.int .i64 3,.int .i64 (psz:Nat),.slice Ak Kn Ck,.int .i64 (pdv:Nat),.int .i64 (pfi:Nat),.int .i64 (pch:Nat),.slice A2 n2 C2,.slice A3 n3 C3]:=by rw[hW4];exact zm.new W1 _ _
 have hZ1:W1.heap.size=w.heap.size+1:=by rw[hW1];simp
 have HKI:=ze (show yI W4 w.heap.size W1.heap.size #[x0,x1,.slice (some ⟨g,off,none⟩) NP C,x3,x4] #[.int .i64 3,.int .i64 (psz:Nat),.slice Ak Kn Ck,.int .i64 (pdv:Nat),.int .i64 (pfi:Nat),.int .i64 (pch:Nat),.slice A2 n2 C2,.slice A3 n3 C3]from⟨S1.below hb4 S1.lt,P4⟩);have HNE:=ze (show ∀j,w.heap.size≤j→(Value.slice Av out.length Cv).ownBlock≠some j from λj hj e=>by have:=(hl1 j e).2;omega);have HLB:=ze (show ∀j,(Value.slice Av out.length Cv).ownBlock=some j→B≤j from λj hj=>(hl1 j hj).1);have HB4:=ze (show B≤W4.heap.size from Nat.le_trans h.lo hb04.size);have HKG:=ze (h.keep hb04);have HST:=ze (vm.of (v:= .slice Av out.length Cv) hb04);have HX:=ze hx;have HZ1:=ze hZ1;have HKK:=ze hki;have HKL:=ze (show ∀i,i<k→i<NP∧i<ps.length from λi hi=>⟨by omega,by omega⟩);have HW1:=ze hW1;have HW4:=ze hW4;have s2:=S1.cell 2;have sl:=S1.lt;have p0:=P4.cell 0;have p2:=P4.cell 2;have pl:=P4.lt;simp only[qH,qG,qI]at s2 p0 p2;rw[hW4]at p0 p2 pl;have hooi:¬(256:Int)<(out.length:Int):=by omega
 have hkli:(k:Int)<(NP:Int):=by omega
 clear hW1 hW4 h hx hkind ho hki hl1 hNP hZ1;generalize out.length=NO at *;go_enter Tryz.func23,Tryz.ntmps23
 go_wp2_with (first
  |((with_reducible refine zi 18 rfl ?_)
    (rw[←HW1.out]))
  |((with_reducible refine zi 21 rfl ?_)
    (refine zd (some 21) _ rfl (by rfl) (zE _ _ rfl g off k NP C rfl rfl hkN W1) ?_))
  |((with_reducible refine zi 22 rfl ?_)
    (refine zd (some 22) _ rfl (by rfl) (qe _ rfl g (off+k*8) rfl W1 hce1) ?_)))
 rw[←HW4.out];clear p0 p2 pl s2 sl;have HLT:=ze (show w.heap.size<W4.heap.size∧W1.heap.size<W4.heap.size from⟨HKI.out.1.lt,HKI.out.2.lt⟩);have HB04:=ze hb04
 go_loopw [4,12,13] (λz4 z12 z13 wr=>∃(i:Nat) (v':Value) (out':List R3) (AT:Int),z13= .int .i64 (i:Nat)∧z12= .int .i64 AT∧v'=z4∧i≤Kn∧yg wr B (some ⟨g,off,none⟩) C ps v' out'∧vm (.slice Av NO Cv) W4 v' wr∧Hid ((out',AT)=(pk.take i).foldl (Vg ps (jG ps d) f c) (out,0))) (λ_ _ z _=>Kn-(intOf z).toNat)
 case atStart=>exact⟨0,_,out,0,rfl,rfl,rfl,Nat.zero_le _,HKG.out,vm.refl _ _,rfl⟩
 case round =>
  obtain⟨i,v',out',AT,rfl,rfl,rfl,hi,H2,S2,HO⟩:=hrel;have hKI:=HKI.out.onl S2.only (HNE.out _ (Nat.le_refl _)) (HNE.out _ (by have:=HZ1.out;omega));have q2:=hKI.2.cell 2;have ql:=hKI.2.lt;simp only[qH,qG,qI]at q2;have HKI2:=ze hKI;clear hKI;have hAT:=HLE.out i;rw[←HO.out]at hAT;have hAT:(0:Int)≤AT∧AT≤0+8192*(pk.take i).length:=hAT;have hAT0:0≤AT:=hAT.1;have hAT1:AT≤8192000:=by have:=hAT.2;rw[List.length_take]at this;omega
  clear hAT;by_cases hlt:i<Kn
  ·have hlp:i<pk.length:=by rw[←HKn.out];exact hlt
   have B2:Below B W4 wr:=S2.below HLB.out HB4.out;obtain⟨b,o,eA,hbl,hbf,hcl⟩:=HKK.out.resolve_left (by intro e;rw[e]at hlp;simp at hlp);have hck:=(B2.cell (p:=⟨b,o+i,none⟩) hbf).trans ((HB04.out.cell (p:=⟨b,o+i,none⟩) hbl).trans (hcl i hlp));have hkd:pk[i]<k:=hkids _ (List.getElem_mem hlp);obtain⟨hkid,hkidp⟩:=HKL.out _ hkd;have hcs:=(B2.cell (p:=⟨g,off+pk[i]*8+1,none⟩) hg0).trans ((HB04.out.cell (p:=⟨g,off+pk[i]*8+1,none⟩) hg).trans (HSZ.out _ hkidp));have hno:=HND.out _ (List.getElem_mem hlp)
   have HG:=ze (show(pk.take (i+1)).foldl (Vg ps (jG ps d) f c) (out,0)=Vg ps (jG ps d) f c (out',AT) pk[i] by
    rw[List.take_succ_eq_append_getElem hlp,List.foldl_append,←HO.out]
    rfl)
   have hint:(i:Int)<(Kn:Int):=by omega
   clear hcl hkidp;generalize pk[i]=kid at hck hkd HG hkid hcs hno;have hks1:=hno.2.1;have hks2:=hno.2.2;have HNO:=ze hno
   obtain⟨KS,hKS⟩:∃KS,KS=sz ps kid:=⟨_,rfl⟩
   rw[←hKS]at hks1 hks2 hcs;have HG:Hid ((pk.take (i+1)).foldl (Vg ps (jG ps d) f c) (out,0)=(if max f AT<min (f+c) (AT+(sz ps kid:Nat))then jG ps d out' kid (max f AT-AT) (min (f+c) (AT+(sz ps kid:Nat))-max f AT)else out',AT+(sz ps kid:Nat))):=HG;rw[←hKS]at HG;have HKS:=ze hKS;subst eA
   obtain⟨FR,hFR⟩:∃FR,FR=max f AT:=⟨_,rfl⟩
   obtain⟨TO,hTO⟩:∃TO,TO=min (f+c) (AT+(KS:Int)):=⟨_,rfl⟩
   rw[←hFR,←hTO]at HG;have HFR:=ze hFR;have HTO:=ze hTO;have hFR0:AT≤FR∧FR≤10000000:=by omega
   have hTO0: -10≤TO∧TO≤10000000:=by omega
   have HHB:=ze (λ(q:FR<TO)=>(show jF ps (kid:Nat) (FR-AT) (TO-FR)=true from vv HNO.out (by omega) (by omega) (by rw[←HKS.out];omega)));have HCK:=ze hck;have HCS:=ze hcs
   have HHN:=ze (show ∀j,w.heap.size≤j→j<W4.heap.size→v'.ownBlock≠some j from λj h1 h2 e=>by
    rcases S2.new j e with q|q
    ·exact HNE.out j h1 q
    ·omega)
   have HL2:=ze (show ∀j,v'.ownBlock=some j→B≤j from λj hj=>(H2.low hj).1);have HBB:=ze hbf;clear hck hcs hKS hFR hTO hno
   go_wp2
   refine wp_region_held_drew (S:=λwz=>yI wz w.heap.size W1.heap.size #[x0,x1,.slice (some ⟨g,off,none⟩) NP C,x3,x4] #[.int .i64 3,.int .i64 (psz:Nat),.slice (some ⟨b,o,none⟩) Kn Ck,.int .i64 (pdv:Nat),.int .i64 (pfi:Nat),.int .i64 (pch:Nat),.slice A2 n2 C2,.slice A3 n3 C3]∧wz.cell? ⟨b,o+i,none⟩=some (.int .i64 (kid:Nat))∧wz.cell? ⟨g,off+kid*8+1,none⟩=some (.int .i64 (KS:Nat))) (by kernel_rfl) (⟨HKI2.out.drew,HCK.out,HCS.out⟩) (λhHeld=>?_);refine zw 0 (some 62) (.pointer (some ⟨w.heap.size,2,none⟩)) hHeld ?_;simp only[Act.put,zh,zf,zg];refine zD 1 (some 63) (.slice (some ⟨g,off,none⟩) NP C) rfl rfl (λwz hz=>by have q:wz.cell? ⟨w.heap.size,2,none⟩=some (.slice (some ⟨g,off,none⟩) NP C):=hz.1.1.cell 2;unfold execOp;go_simp) hHeld ?_;simp only[Act.put,zh,zf,zg];refine zw 2 (some 64) (.pointer (some ⟨W1.heap.size,2,none⟩)) hHeld ?_;simp only[Act.put,zh,zf,zg];refine zD 3 (some 65) (.slice (some ⟨b,o,none⟩) Kn Ck) rfl rfl (λwz hz=>by have q:wz.cell? ⟨W1.heap.size,2,none⟩=some (.slice (some ⟨b,o,none⟩) Kn Ck):=hz.1.2.cell 2;unfold execOp;go_simp) hHeld ?_;simp only[Act.put,zh,zf,zg];refine zw 4 (some 66) (.int .i64 (i:Nat)) hHeld ?_;simp only[Act.put,zh,zf,zg];refine zD 5 (some 67) (.pointer (some ⟨b,o+i,none⟩)) rfl rfl (λwz _=>qh _ _ rfl b o i Kn Ck rfl rfl (by omega) wz) hHeld ?_;simp only[Act.put,zh,zf,zg];refine zD 6 (some 68) (.int .i64 (kid:Nat)) rfl rfl (λwz hz=>qm _ rfl _ rfl wz hz.2.1) hHeld ?_;simp only[Act.put,zh,zf,zg];refine zD 7 (some 69) (.pointer (some ⟨g,off+kid*8,none⟩)) rfl rfl (λwz _=>zE _ _ rfl g off kid NP C rfl rfl hkid wz) hHeld ?_;simp only[Act.put,zh,zf,zg];refine zw 8 (some 70) (.pointer (some ⟨g,off+kid*8+1,none⟩)) hHeld ?_;simp only[Act.put,zh,zf,zg];refine zD 9 (some 71) (.int .i64 (KS:Nat)) rfl rfl (λwz hz=>qm _ rfl _ rfl wz hz.2.2) hHeld ?_;simp only[Act.put,zh,zf,zg];refine zw 10 (some 14) (.int .i64 (KS:Nat)) hHeld ?_;simp only[Act.put,zh,zf,zg];refine wpAnyH_done (by kernel_rfl) ?_ _;clear hHeld;have HKD:=ze (show yg wr.drew B (some ⟨g,off,none⟩) C ps v' out' from H2.keep (Below.refl _ wr).drew);have HSD:=ze (show vm v' wr v' wr.drew from vm.of (Below.refl _ wr).drew);have HID:=ze HKI2.out.drew;have HCKD:=ze (show wr.drew.cell? ⟨b,o+i,none⟩=some (.int .i64 (kid:Nat))from HCK.out);clear q2 ql;generalize wr.drew=wd at *;by_cases hft:FR<TO
   ·go_wp2_with (first
     |((with_reducible refine zi 74 rfl ?_)
       (refine zd (some 74) (.int .i64 FR) rfl (by rfl) (by rw[HFR.out];exact VM _ _ rfl f AT rfl rfl _) ?_))
     |((with_reducible refine zi 81 rfl ?_)
       (refine zd (some 81) (.int .i64 TO) rfl (by rfl) (by rw[HTO.out];exact VC _ _ rfl (f+c) (AT+(KS:Int)) rfl rfl _) ?_)))
    refine wp_region_held_drew (S:=λwz=>yI wz w.heap.size W1.heap.size #[x0,x1,.slice (some ⟨g,off,none⟩) NP C,x3,x4] #[.int .i64 3,.int .i64 (psz:Nat),.slice (some ⟨b,o,none⟩) Kn Ck,.int .i64 (pdv:Nat),.int .i64 (pfi:Nat),.int .i64 (pch:Nat),.slice A2 n2 C2,.slice A3 n3 C3]∧wz.cell? ⟨b,o+i,none⟩=some (.int .i64 (kid:Nat))) (by kernel_rfl) (⟨HID.out.drew,HCKD.out⟩) (λhHeld=>?_);refine zD 0 (some 85) (.agg #[x0,x1,.slice (some ⟨g,off,none⟩) NP C,x3,x4]) rfl rfl (λwz hz=>vI _ rfl _ rfl wz hz.1.1) hHeld ?_;simp only[Act.put,zh,zf,zg];refine zw 1 (some 86) (.pointer (some ⟨W1.heap.size,2,none⟩)) hHeld ?_;simp only[Act.put,zh,zf,zg];refine zD 2 (some 87) (.slice (some ⟨b,o,none⟩) Kn Ck) rfl rfl (λwz hz=>by have q:wz.cell? ⟨W1.heap.size,2,none⟩=some (.slice (some ⟨b,o,none⟩) Kn Ck):=hz.1.2.cell 2;unfold execOp;go_simp) hHeld ?_;simp only[Act.put,zh,zf,zg];refine zw 3 (some 88) (.int .i64 (i:Nat)) hHeld ?_;simp only[Act.put,zh,zf,zg];refine zD 4 (some 89) (.pointer (some ⟨b,o+i,none⟩)) rfl rfl (λwz _=>qh _ _ rfl b o i Kn Ck rfl rfl (by omega) wz) hHeld ?_;simp only[Act.put,zh,zf,zg];refine zD 5 (some 90) (.int .i64 (kid:Nat)) rfl rfl (λwz hz=>qm _ rfl _ rfl wz hz.2) hHeld ?_;simp only[Act.put,zh,zf,zg];refine zw 6 (some 91) (.int .i64 FR) hHeld ?_;simp only[Act.put,zh,zf,zg];refine zw 7 (some 92) (.int .i64 AT) hHeld ?_;simp only[Act.put,zh,zf,zg];refine zD 8 (some 93) (.int .i64 (FR-AT)) rfl rfl (λwz _=>Xf _ _ rfl FR AT rfl rfl (by omega) wz) hHeld ?_;simp only[Act.put,zh,zf,zg];refine zw 9 (some 94) (.int .i64 TO) hHeld ?_;simp only[Act.put,zh,zf,zg];refine zw 10 (some 95) (.int .i64 FR) hHeld ?_;simp only[Act.put,zh,zf,zg];refine zD 11 (some 96) (.int .i64 (TO-FR)) rfl rfl (λwz _=>Xf _ _ rfl TO FR rfl rfl (by omega) wz) hHeld ?_;simp only[Act.put,zh,zf,zg];refine zw 12 (some 97) (v') hHeld ?_;simp only[Act.put,zh,zf,zg];refine qY 13 (some 98) 23 #[.agg #[x0,x1,.slice (some ⟨g,off,none⟩) NP C,x3,x4],.int .i64 (kid:Nat),.int .i64 (FR-AT),.int .i64 (TO-FR),v'] (by kernel_rfl) rfl rfl (by rfl) (by kernel_rfl) (HX.out _ _ _ kid _ _ (HKD.out.keep (Below.refl _ wd).drew) hkd (HHB.out hft)) ?_;rintro e w5 ⟨v5,rfl,H5,S5'⟩;have S5:vm v' wd v5 w5:=(vm.of (Below.refl _ wd).drew).trans S5'
    have hHeld:yI w5 w.heap.size W1.heap.size #[x0,x1,.slice (some ⟨g,off,none⟩) NP C,x3,x4] #[.int .i64 3,.int .i64 (psz:Nat),.slice (some ⟨b,o,none⟩) Kn Ck,.int .i64 (pdv:Nat),.int .i64 (pfi:Nat),.int .i64 (pch:Nat),.slice A2 n2 C2,.slice A3 n3 C3]∧w5.cell? ⟨b,o+i,none⟩=some (.int .i64 (kid:Nat)):=⟨HID.out.onl S5.only (HHN.out _ (Nat.le_refl _) HLT.out.1) (HHN.out _ (by have:=HZ1.out;omega) HLT.out.2),((S5.below HL2.out HKD.out.lo).cell (p:=⟨b,o+i,none⟩) HBB.out).trans HCKD.out⟩
    refine⟨_,rfl,hHeld,?_⟩;simp only[Act.put,zh,zf,zg];refine zw 14 (some 4) (v5) hHeld ?_;simp only[Act.put,zh,zf,zg];refine wpAnyH_done (by kernel_rfl) ?_ _;clear hHeld S5';have HG2:=ze (show(pk.take (i+1)).foldl (Vg ps (jG ps d) f c) (out,0)=(jG ps d out' kid (FR-AT) (TO-FR),AT+(KS:Int)) by rw[HG.out,if_pos hft]);clear HG
    go_wp2
    go_roundw
    case rel=>exact⟨i+1,v5,_,AT+(KS:Int),by go_num,rfl,rfl,by omega,H5,(S2.trans HSD.out).trans S5,HG2.out.symm⟩
    case measure=>simp[intOf];omega
   ·have HG2:=ze (show(pk.take (i+1)).foldl (Vg ps (jG ps d) f c) (out,0)=(out',AT+(KS:Int)) by rw[HG.out,if_neg hft])
    clear HG
    go_wp2_with (first
     |((with_reducible refine zi 74 rfl ?_)
       (refine zd (some 74) (.int .i64 FR) rfl (by rfl) (by rw[HFR.out];exact VM _ _ rfl f AT rfl rfl _) ?_))
     |((with_reducible refine zi 81 rfl ?_)
       (refine zd (some 81) (.int .i64 TO) rfl (by rfl) (by rw[HTO.out];exact VC _ _ rfl (f+c) (AT+(KS:Int)) rfl rfl _) ?_)))
    go_roundw
    case rel=>exact⟨i+1,v',_,AT+(KS:Int),by go_num,rfl,rfl,by omega,HKD.out,S2.trans HSD.out,HG2.out.symm⟩
    case measure=>simp[intOf];omega
  ·obtain rfl:i=Kn:=by omega
   have HF:=ze (show out'=(pk.foldl (Vg ps (jG ps d) f c) (out,0)).1 by rw[show pk=pk.take i by rw[HKn.out,List.take_length],←HO.out]);clear HO
   go_wp2
   go_ret
   refine⟨_,rfl,?_,HST.out.trans S2⟩;rw[←HF.out];exact H2
theorem KM{w:World}{B:Nat}{A:Option Addr}{C:Nat}{ps:List Pt}{v:Value}{out:List R3}(h:yg w B A C ps v out)(hwf:Jv ps)(d k:Nat)(hk:k<ps.length)(f c:Int)(ho:¬256<out.length)(hkind:(zx ps k).kind=4)(hp:yZ ps (zx ps k))(hf0:0≤f)(hc0:0<c)(hfc:f+c≤((zx ps k).size:Nat))(x0 x1 x3 x4:Value)
 (hx:∀(W:World) (v:Value) (out:List R3) (j:Nat) (f c:Int),yg W B A C ps v out→j<k→jF ps (j:Nat) f c=true→Calls Tryz.prog 23 #[.agg #[x0,x1,.slice A ps.length C,x3,x4],.int .i64 (j:Nat),.int .i64 f,.int .i64 c,v] W (yi W B A C ps v (jG ps d out j f c))):
 Calls Tryz.prog 23 #[.agg #[x0,x1,.slice A ps.length C,x3,x4],.int .i64 (k:Nat),.int .i64 f,.int .i64 c,v] w (yi w B A C ps v (vC ps (jG ps d) out (zx ps k) f c)):=by
 obtain⟨Av,Cv,rfl⟩:∃Av Cv,v= .slice Av out.length Cv:=by
  rcases h.row.2 with⟨rfl,h0⟩|⟨g,cap,cur,rfl,_⟩
  ·exact⟨none,0,by rw[h0]⟩
  ·exact⟨_,_,rfl⟩
 obtain⟨g,off,Ak,Ck,A2,n2,C2,A3,n3,C3,rfl,hg0,hg,hki,hkc,hkm,hcell⟩:=jw h.pts hk;have hcap:ps.length≤C∧C≤9223372036854775807:=h.cap;have hkm2:Ck≤9223372036854775807:=hkm;have hsz0:=hwf.size k hk;rw[show sz ps k=(zx ps k).size from rfl]at hsz0;rw[hkind]at hcell
 have EQ:vC ps (jG ps d) out (zx ps k) f c=(zx ps k).kids.foldl (λo j=>jG ps d o j f c) out:=by
  unfold vC;rw[hkind];rfl
 rw[EQ];have hkids:=hwf.kids k hk;have hfew:=hwf.few k hk;have hnd:=hp.kids;have hszk:∀j ∈ (zx ps k).kids,sz ps j=(zx ps k).size:=hp.mir hkind;have HHB:=ze (show ∀j ∈ (zx ps k).kids,jF ps (j:Nat) f c=true from λj hj=>vv (hnd j hj) hf0 hc0 (by have:=hszk j hj;omega));clear EQ hp hnd hszk;generalize (zx ps k).kids=pk at *
 obtain⟨Kn,hKn⟩:∃Kn,Kn=pk.length:=⟨_,rfl⟩
 rw[←hKn]at hcell hkc hfew;have HKn:=ze hKn;clear hKn;generalize (zx ps k).size=psz at *;generalize (zx ps k).dev=pdv at *;generalize (zx ps k).first=pfi at *;generalize (zx ps k).chunk=pch at *;have hl1:∀j,(Value.slice Av out.length Cv).ownBlock=some j→B≤j∧j<w.heap.size:=λj hj=>h.low hj
 obtain⟨NP,hNP⟩:∃NP,NP=ps.length:=⟨_,rfl⟩
 rw[←hNP]at hcap ⊢ hx;have hkN:k<NP:=by omega
 obtain⟨W1,hW1⟩:∃W1,W1=w.alloc (.cells #[x0,x1,.slice (some ⟨g,off,none⟩) NP C,x3,x4] 32):=⟨_,rfl⟩
 have hb1:Below w.heap.size w W1:=by rw[hW1];exact zl w _
 have S1:zm W1 w.heap.size 32 #[x0,x1,.slice (some ⟨g,off,none⟩) NP C,x3,x4]:=by rw[hW1];exact zm.new w _ _
 have hce1:=λj (hj:j<8)=>(hb1.cell (p:=⟨g,off+k*8+j,none⟩) hg).trans (hcell j hj)
 obtain⟨W4,hW4⟩:∃W4,W4=W1.alloc (.cells #[.int .i64 4,.int .i64 (psz:Nat),.slice Ak Kn Ck,.int .i64 (pdv:Nat),.int .i64 (pfi:Nat),.int .i64 (pch:Nat),.slice A2 n2 C2,.slice A3 n3 C3] 65):=⟨_,rfl⟩
 have hb4:Below W1.heap.size W1 W4:=by rw[hW4];exact zl W1 _
 have hb04:Below w.heap.size w W4:=hb1.trans (hb4.mono hb1.size);have P4:zm W4 W1.heap.size 65 #[.int .i64 4,.int .i64 (psz:Nat),.slice Ak Kn Ck,.int .i64 (pdv:Nat),.int .i64 (pfi:Nat),.int .i64 (pch:Nat),.slice A2 n2 C2,.slice A3 n3 C3]:=by rw[hW4];exact zm.new W1 _ _
 have hZ1:W1.heap.size=w.heap.size+1:=by rw[hW1];simp
 have HKI:=ze (show yI W4 w.heap.size W1.heap.size #[x0,x1,.slice (some ⟨g,off,none⟩) NP C,x3,x4] #[.int .i64 4,.int .i64 (psz:Nat),.slice Ak Kn Ck,.int .i64 (pdv:Nat),.int .i64 (pfi:Nat),.int .i64 (pch:Nat),.slice A2 n2 C2,.slice A3 n3 C3]from⟨S1.below hb4 S1.lt,P4⟩);have HNE:=ze (show ∀j,w.heap.size≤j→(Value.slice Av out.length Cv).ownBlock≠some j from λj hj e=>by have:=(hl1 j e).2;omega);have HLB:=ze (show ∀j,(Value.slice Av out.length Cv).ownBlock=some j→B≤j from λj hj=>(hl1 j hj).1);have HB4:=ze (show B≤W4.heap.size from Nat.le_trans h.lo hb04.size);have HKG:=ze (h.keep hb04);have HST:=ze (vm.of (v:= .slice Av out.length Cv) hb04);have HX:=ze hx;have HZ1:=ze hZ1;have HKK:=ze hki;have HW1:=ze hW1;have HW4:=ze hW4;have s2:=S1.cell 2;have sl:=S1.lt;have p0:=P4.cell 0;have p2:=P4.cell 2;have pl:=P4.lt;simp only[qH,qG,qI]at s2 p0 p2;rw[hW4]at p0 p2 pl;have hooi:¬(256:Int)<(out.length:Int):=by omega
 have hkli:(k:Int)<(NP:Int):=by omega
 clear hW1 hW4 h hx hkind ho hki hl1 hNP hZ1;generalize out.length=NO at *;go_enter Tryz.func23,Tryz.ntmps23
 go_wp2_with (first
  |((with_reducible refine zi 18 rfl ?_)
    (rw[←HW1.out]))
  |((with_reducible refine zi 21 rfl ?_)
    (refine zd (some 21) _ rfl (by rfl) (zE _ _ rfl g off k NP C rfl rfl hkN W1) ?_))
  |((with_reducible refine zi 22 rfl ?_)
    (refine zd (some 22) _ rfl (by rfl) (qe _ rfl g (off+k*8) rfl W1 hce1) ?_)))
 rw[←HW4.out];clear p0 p2 pl s2 sl;have HLT:=ze (show w.heap.size<W4.heap.size∧W1.heap.size<W4.heap.size from⟨HKI.out.1.lt,HKI.out.2.lt⟩);have HB04:=ze hb04
 go_loopw [4,17] (λz4 z17 wr=>∃(i:Nat) (v':Value) (out':List R3),z17= .int .i64 (i:Nat)∧v'=z4∧i≤Kn∧yg wr B (some ⟨g,off,none⟩) C ps v' out'∧vm (.slice Av NO Cv) W4 v' wr∧Hid (out'=(pk.take i).foldl (λo j=>jG ps d o j f c) out)) (λ_ z _=>Kn-(intOf z).toNat)
 case atStart=>exact⟨0,_,out,rfl,rfl,Nat.zero_le _,HKG.out,vm.refl _ _,rfl⟩
 case round =>
  obtain⟨i,v',out',rfl,rfl,hi,H2,S2,HO⟩:=hrel;have hKI:=HKI.out.onl S2.only (HNE.out _ (Nat.le_refl _)) (HNE.out _ (by have:=HZ1.out;omega));have q2:=hKI.2.cell 2;have ql:=hKI.2.lt;simp only[qH,qG,qI]at q2;have HKI2:=ze hKI;clear hKI;by_cases hlt:i<Kn
  ·have hlp:i<pk.length:=by rw[←HKn.out];exact hlt
   have B2:Below B W4 wr:=S2.below HLB.out HB4.out;obtain⟨b,o,eA,hbl,hbf,hcl⟩:=HKK.out.resolve_left (by intro e;rw[e]at hlp;simp at hlp);have hck:=(B2.cell (p:=⟨b,o+i,none⟩) hbf).trans ((HB04.out.cell (p:=⟨b,o+i,none⟩) hbl).trans (hcl i hlp));have hkd:pk[i]<k:=hkids _ (List.getElem_mem hlp);have HHBi:=ze (HHB.out _ (List.getElem_mem hlp))
   have HG:=ze (show(pk.take (i+1)).foldl (λo j=>jG ps d o j f c) out=jG ps d out' pk[i] f c by
    rw[List.take_succ_eq_append_getElem hlp,List.foldl_append,←HO.out]
    rfl)
   have hint:(i:Int)<(Kn:Int):=by omega
   clear hcl;generalize pk[i]=kid at hck hkd HG HHBi;subst eA;have HCK:=ze hck
   have HHN:=ze (show ∀j,w.heap.size≤j→j<W4.heap.size→v'.ownBlock≠some j from λj h1 h2 e=>by
    rcases S2.new j e with q|q
    ·exact HNE.out j h1 q
    ·omega)
   have HL2:=ze (show ∀j,v'.ownBlock=some j→B≤j from λj hj=>(H2.low hj).1);have HBB:=ze hbf;clear hck
   go_wp2
   refine wp_region_held_drew (S:=λwz=>yI wz w.heap.size W1.heap.size #[x0,x1,.slice (some ⟨g,off,none⟩) NP C,x3,x4] #[.int .i64 4,.int .i64 (psz:Nat),.slice (some ⟨b,o,none⟩) Kn Ck,.int .i64 (pdv:Nat),.int .i64 (pfi:Nat),.int .i64 (pch:Nat),.slice A2 n2 C2,.slice A3 n3 C3]∧wz.cell? ⟨b,o+i,none⟩=some (.int .i64 (kid:Nat))) (by kernel_rfl) (⟨HKI2.out.drew,HCK.out⟩) (λhHeld=>?_);refine zD 0 (some 112) (.agg #[x0,x1,.slice (some ⟨g,off,none⟩) NP C,x3,x4]) rfl rfl (λwz hz=>vI _ rfl _ rfl wz hz.1.1) hHeld ?_;simp only[Act.put,zh,zf,zg];refine zw 1 (some 113) (.pointer (some ⟨W1.heap.size,2,none⟩)) hHeld ?_;simp only[Act.put,zh,zf,zg];refine zD 2 (some 114) (.slice (some ⟨b,o,none⟩) Kn Ck) rfl rfl (λwz hz=>by have q:wz.cell? ⟨W1.heap.size,2,none⟩=some (.slice (some ⟨b,o,none⟩) Kn Ck):=hz.1.2.cell 2;unfold execOp;go_simp) hHeld ?_;simp only[Act.put,zh,zf,zg];refine zw 3 (some 115) (.int .i64 (i:Nat)) hHeld ?_;simp only[Act.put,zh,zf,zg];refine zD 4 (some 116) (.pointer (some ⟨b,o+i,none⟩)) rfl rfl (λwz _=>qh _ _ rfl b o i Kn Ck rfl rfl (by omega) wz) hHeld ?_;simp only[Act.put,zh,zf,zg];refine zD 5 (some 117) (.int .i64 (kid:Nat)) rfl rfl (λwz hz=>qm _ rfl _ rfl wz hz.2) hHeld ?_;simp only[Act.put,zh,zf,zg];refine zw 6 (some 118) (.int .i64 f) hHeld ?_;simp only[Act.put,zh,zf,zg];refine zw 7 (some 119) (.int .i64 c) hHeld ?_;simp only[Act.put,zh,zf,zg];refine zw 8 (some 120) (v') hHeld ?_;simp only[Act.put,zh,zf,zg];refine qY 9 (some 121) 23 #[.agg #[x0,x1,.slice (some ⟨g,off,none⟩) NP C,x3,x4],.int .i64 (kid:Nat),.int .i64 f,.int .i64 c,v'] (by kernel_rfl) rfl rfl (by rfl) (by kernel_rfl) (HX.out _ _ _ kid f c (H2.keep (Below.refl _ wr).drew) hkd HHBi.out) ?_;rintro e w5 ⟨v5,rfl,H5,S5'⟩;have S5:vm v' wr v5 w5:=(vm.of (Below.refl _ wr).drew).trans S5'
   have hHeld:yI w5 w.heap.size W1.heap.size #[x0,x1,.slice (some ⟨g,off,none⟩) NP C,x3,x4] #[.int .i64 4,.int .i64 (psz:Nat),.slice (some ⟨b,o,none⟩) Kn Ck,.int .i64 (pdv:Nat),.int .i64 (pfi:Nat),.int .i64 (pch:Nat),.slice A2 n2 C2,.slice A3 n3 C3]∧w5.cell? ⟨b,o+i,none⟩=some (.int .i64 (kid:Nat)):=⟨HKI2.out.onl S5.only (HHN.out _ (Nat.le_refl _) HLT.out.1) (HHN.out _ (by have:=HZ1.out;omega) HLT.out.2),((S5.below HL2.out H2.lo).cell (p:=⟨b,o+i,none⟩) HBB.out).trans HCK.out⟩
   refine⟨_,rfl,hHeld,?_⟩;simp only[Act.put,zh,zf,zg];refine zw 10 (some 4) (v5) hHeld ?_;simp only[Act.put,zh,zf,zg];refine wpAnyH_done (by kernel_rfl) ?_ _;clear hHeld S5' q2 ql
   go_wp2
   go_roundw
   case rel=>exact⟨i+1,v5,_,by go_num,rfl,by omega,H5,S2.trans S5,HG.out.symm⟩
   case measure=>simp[intOf];omega
  ·obtain rfl:i=Kn:=by omega
   have HF:=ze (show out'=pk.foldl (λo j=>jG ps d o j f c) out by rw[HO.out,HKn.out,List.take_length]);clear HO
   go_wp2
   go_ret
   refine⟨_,rfl,?_,HST.out.trans S2⟩;rw[←HF.out];exact H2
end
end Go.Proofs.YteaddcdpgcgggaaGreatDoor
