import Derived.Test.YteaddcdpgcgggaaGreatDoorJoint10
import Derived.Test.YteaddcdpgcgggaaGreatDoorJoint09
import Derived.Test.YteaddcdpgcgggaaGreatDoorJoint07
namespace Go.Proofs.YteaddcdpgcgggaaGreatDoor
set_option linter.unusedVariables false
set_option maxRecDepth 100000
set_option maxHeartbeats 40000000
section
def xu(x:Nd):Bool:=x.op==zn||x.op==zq
def Zs(x:Nd):Bool:=x.op==zn
theorem zcI{x:Nd}(h:x.op=zn):Zs x=true:=by unfold Zs;rw[h];decide
theorem zaR{x:Nd}(h:x.op≠zn):Zs x=false:=by unfold Zs;rw[beq_eq_false_iff_ne];exact h
theorem DR{x:Nd}(h:x.op=zn∨x.op=zq):xu x=true:=by unfold xu;rcases h with h|h<;>rw[h]<;>decide
theorem zay{x:Nd}(h:¬(x.op=zn∨x.op=zq)):xu x=false:=by
 unfold xu;rw[show(x.op==zn)=false by rw[beq_eq_false_iff_ne];exact λe=>h (.inl e),show(x.op==zq)=false by rw[beq_eq_false_iff_ne];exact λe=>h (.inr e)];rfl
theorem Y5(q r:List Nd):∀d,disks d (q++r)=disks d q++disks (d+j6 q) r:=by
 induction q with
 |nil=>intro d;simp[disks,j6]
 |cons y q ih =>
  intro d;simp only[List.cons_append,disks,j6];by_cases h1:y.op=zn
  ·rw[if_pos h1,if_pos h1,if_pos (show y.op=zn∨y.op=zq from .inl h1),ih,List.cons_append,show d+1+j6 q=d+(1+j6 q) by omega]
  ·rw[if_neg h1,if_neg h1]
   by_cases h2:y.op=zq
   ·rw[if_pos h2,if_pos h2,if_pos (show y.op=zn∨y.op=zq from .inr h2),ih,show d+1+j6 q=d+(1+j6 q) by omega]
   ·rw[if_neg h2,if_neg h2,if_neg (show ¬(y.op=zn∨y.op=zq) by simp[h1,h2]),ih,Nat.zero_add]
theorem YU(q:List Nd):∀d,(disks d q).length=(q.filter Zs).length:=by
 induction q with
 |nil=>intro d;rfl
 |cons y q ih =>
  intro d;simp only[disks,List.filter_cons];by_cases h1:y.op=zn
  ·rw[if_pos h1,if_pos (zcI h1),List.length_cons,List.length_cons,ih]
  ·rw[if_neg h1,zaR h1]
   simp only[Bool.false_eq_true,if_false];by_cases h2:y.op=zq
   ·rw[if_pos h2,ih]
   ·rw[if_neg h2,ih]
theorem GK(q:List Nd):j6 q=(q.filter xu).length:=by
 induction q with
 |nil=>rfl
 |cons y q ih =>
  simp only[j6,List.filter_cons];by_cases h1:y.op=zn∨y.op=zq
  ·rw[if_pos h1,if_pos (DR h1),List.length_cons,ih,Nat.add_comm]
  ·rw[if_neg h1,zay h1]
   simp only[Bool.false_eq_true,if_false];rw[ih,Nat.zero_add]
theorem gM{l q r:List Nd}{x:Nd}(hl:l=q++x::r)(hx:x.op=zn)(rs:List Pt):zx (disks 0 l++rs) (q.filter Zs).length=⟨1,x.n.toNat,[],(q.filter xu).length,0,0,[],[]⟩∧(q.filter Zs).length<(disks 0 l++rs).length:=by
 subst hl;rw[Y5,←YU q 0,←GK,Nat.zero_add]
 have e:disks (j6 q) (x::r)=⟨1,x.n.toNat,[],j6 q,0,0,[],[]⟩::disks (j6 q+1) r:=by
  show(if x.op=zn then _ else _)=_;rw[if_pos hx]
 rw[e,List.append_assoc,List.cons_append];exact⟨UK _ _ _,by simp⟩
theorem xn(ns:vJ)(x:List UInt8×Mn)(ws:List (List UInt8)):jr (ns++ [x]) ws=jr ns ws+(if ws.any (λy=>x.2.word==y)=true then 1 else 0):=by
 unfold jr;rw[List.filter_append,List.length_append]
 congr 1
 simp only[List.filter_cons,List.filter_nil]
 split<;>rfl
theorem yH.snoc{ns:vJ}{ps:List Pt}(h:yH ns ps){s:List UInt8}{m:Mn}(h1:(m.word=zn∨m.word=zB)→xB ps m.node)(h2:(m.word=zM∨m.word=zN)→m.bytes.length=32):yH (ns++ [(s,m)]) ps:=λx hx=>by
 rcases List.mem_append.1 hx with q|q
 ·exact h x q
 ·rw[List.mem_singleton.1 q]
  exact⟨h1,h2⟩
theorem QY:∀(k:Nat) (x:List UInt8),x.length=2*k→(qw x).length=k:=by
 intro k
 induction k with
 |zero=>intro x h;rw[List.length_eq_zero_iff.1 (by omega:x.length=0)];rfl
 |succ k ih =>
  intro x h
  match x,h with
  |a::b::r,h =>
   simp only[qw,List.length_cons];rw[ih r (by simp at h;omega)]
theorem FT{f:List Pt→Nd→Except Er (Nat×List Pt)}(hf:∀ps x k p1,f ps x= .ok (k,p1)→p1.length≤max 64 ps.length∧ps.length≤p1.length)(l:List Nd):∀ps ks p1,jz f ps l= .ok (ks,p1)→p1.length≤max 64 ps.length∧ps.length≤p1.length:=by
 induction l with
 |nil=>intro ps ks p1 h;cases h;exact⟨by omega,Nat.le_refl _⟩
 |cons x l ih =>
  intro ps ks p1 h;unfold jz at h;cases h1:f ps x with
  |error e=>rw[h1]at h;cases h
  |ok y =>
   obtain⟨k,p2⟩:=y;rw[h1]at h;simp only at h;cases h2:jz f p2 l with
   |error e=>rw[h2]at h;cases h
   |ok z =>
    obtain⟨ks2,p3⟩:=z;rw[h2]at h;cases h;have:=hf _ _ _ _ h1;have:=ih _ _ _ h2;omega
theorem gZ{ns:vJ}(d:Nat):∀ps n k p1,jb ns d ps n= .ok (k,p1)→p1.length≤max 64 ps.length∧ps.length≤p1.length:=by
 induction d with
 |zero=>intro ps n k p1 h;cases h
 |succ d ih =>
  intro ps n k p1 h;unfold jb at h;by_cases hu:n.op=vK
  ·rw[if_pos hu]at h
   cases hk:jk ns n [zn,zB]with
   |error e=>rw[hk]at h;cases h
   |ok m=>rw[hk]at h;cases h;exact⟨by omega,Nat.le_refl _⟩
  ·rw[if_neg hu]at h
   cases hc:jz (jb ns d) ps (jR n)with
   |error e=>rw[hc]at h;cases h
   |ok y =>
    obtain⟨ks,p2⟩:=y;rw[hc]at h;simp only at h;have hb:=FT ih _ _ _ _ hc
    split at h
    ·cases h
    ·cases hp:jD ns p2 n ks with
     |error e=>rw[hp]at h;cases h
     |ok p =>
      rw[hp]at h;cases h;rw[List.length_append,List.length_singleton];omega
structure zdj (l D:List Nd) (nv nq:Nat) (c:Ck):Prop where
 devs:c.devs=D.map (λx=>x.n.toNat)
 dev:jr c.names [zn]=nv
 dj:jr c.names [zn,zq]=D.length
 le8:D.length≤8
 ok:∀x ∈ D,1≤x.n∧x.n≤2048
 jour:∀j,c.jour=some j→∃y,D[j]?=some y∧y.op=zq
 parts:∃rs,c.parts=disks 0 l++rs∧Grown' (disks 0 l) rs
 few:c.parts.length≤max 64 (disks 0 l).length
 nms:yH c.names c.parts
 byts:∀x ∈ c.names,x.2.bytes.length≤1000
 expo:∀x,c.expo=some x→xB c.parts x
 uniq:c.names.Pairwise (λx y=>x.1≠y.1)
 nlen:c.names.length≤nq
def JB(l q:List Nd)(c:Ck):Prop:=zdj l (q.filter xu) (q.filter Zs).length q.length c
theorem JB.start(l:List Nd):JB l [] (KG (disks 0 l)):=
 ⟨rfl,rfl,rfl,(by decide),(λx h=>by cases h),(λj h=>by cases h),⟨[],by simp[KG],trivial⟩,(by show(disks 0 l).length≤_;omega),(λx h=>by cases h),(λx h=>by cases h),(λx h=>by cases h),List.Pairwise.nil,Nat.le_refl _⟩
theorem gP{ns:vJ}{s:List UInt8}(h:lk ns s=none):∀x ∈ ns,x.1≠s:=λx hx e=>by
 unfold lk at h;rw[Option.map_eq_none_iff,List.find?_eq_none]at h;exact h x hx (by simp[e])
theorem Qp{ns:vJ}{s:List UInt8}(m:Mn)(h:ns.Pairwise (λx y=>x.1≠y.1))(hn:lk ns s=none):(ns++ [(s,m)]).Pairwise (λx y=>x.1≠y.1):=
 List.pairwise_append.2 ⟨h,List.pairwise_singleton _ _,λa ha b hb=>by rw[List.mem_singleton.1 hb];exact gP hn a ha⟩
theorem JB.step{l q r:List Nd}{x:Nd}{c c':Ck}(hl:l=q++x::r)(h:JB l q c)(hx:YA x)(hs:jm c x= .ok c'):JB l (q++ [x]) c':=by
 have f1:(q++ [x]).filter xu=q.filter xu++(if xu x=true then[x]else[]):=by
  rw[List.filter_append];congr 1;simp only[List.filter_cons,List.filter_nil]
 have f2:((q++ [x]).filter Zs).length=(q.filter Zs).length+(if Zs x=true then 1 else 0):=by
  rw[List.filter_append,List.length_append];congr 1;simp only[List.filter_cons,List.filter_nil]
  split<;>rfl
 have hd0:zx c.parts (q.filter Zs).length=⟨1,x.n.toNat,[],(q.filter xu).length,0,0,[],[]⟩∧(q.filter Zs).length<c.parts.length∨x.op≠zn:=by
  by_cases e:x.op=zn
  ·obtain⟨rs,e1,_⟩:=h.parts
   rw[e1];exact .inl (gM hl e rs)
  ·exact .inr e
 unfold JB at h ⊢;rw[f1,f2,List.length_append,List.length_singleton];clear f1 f2 hl;generalize q.filter xu=D at *;generalize (q.filter Zs).length=nv at *;generalize q.length=nq at *;unfold jm at hs;by_cases e0:x.op=qj
 ·rw[if_pos e0]at hs
  have g1:xu x=false:=zay (by rw[e0];decide);have g2:Zs x=false:=zaR (by rw[e0];decide);rw[g1,g2];simp only[Bool.false_eq_true,if_false,List.append_nil,Nat.add_zero];unfold yA at hs
  split at hs
  ·cases hs
  ·cases hk:jk c.names x [zn,zB]with
   |error e=>rw[hk]at hs;cases hs
   |ok m =>
    rw[hk]at hs;cases hs;exact⟨h.devs,h.dev,h.dj,h.le8,h.ok,h.jour,h.parts,h.few,h.nms,h.byts,(λy hy=>by cases hy;exact Q7 h.nms hk),h.uniq,Nat.le_succ_of_le h.nlen⟩
 ·rw[if_neg e0]at hs
  split at hs
  ·cases hs
  ·rename_i hlk
   have hlk:lk c.names x.s=none:=by simpa using hlk
   split at hs
   ·cases hs
   ·rename_i hfull
    have hfull:full c.names x.op=false:=by simpa using hfull
    unfold j9 at hs;by_cases e1:x.op=zq
    ·have g1:xu x=true:=DR (.inr e1)
     have g2:Zs x=false:=zaR (by rw[e1];decide)
     have h8:D.length≠8:=by
      unfold full at hfull;rw[if_pos (.inr e1)]at hfull;rw[←h.dj]
      simpa using hfull
     have hle:=h.le8;rw[g1,g2];simp only[if_true,Bool.false_eq_true,if_false,Nat.add_zero];rw[if_pos e1]at hs;by_cases hsz:256≤x.n∧x.n≤2048
     ·rw[if_neg (not_not_intro hsz)]at hs
      by_cases hj:c.jour.isSome=true
      ·rw[if_pos hj]at hs;cases hs
      ·rw[if_neg hj]at hs
       cases hs;refine⟨by show c.devs++ [_]=_;rw[h.devs,List.map_append];rfl,?_,?_,by simp;omega,λy hy=>?_,λj hj'=>?_,h.parts,h.few,h.nms.snoc (λe=>?_) (λe=>?_),λy hy=>?_,h.expo,Qp _ h.uniq hlk,by simp[h.nlen]⟩
       ·show jr (c.names++ [_]) _=_
        rw[xn,h.dev];simp only[e1];rfl
       ·show jr (c.names++ [_]) _=_
        rw[xn,h.dj,List.length_append];simp only[e1];rfl
       ·rcases List.mem_append.1 hy with q|q
        ·exact h.ok y q
        ·rw[List.mem_singleton.1 q];omega
       ·cases hj'
        refine⟨x,?_,e1⟩;rw[h.devs,List.length_map,List.getElem?_append_right (Nat.le_refl _)];simp
       ·rcases e with e|e
        ·exact absurd (e1.symm.trans e) (by decide)
        ·exact absurd (e1.symm.trans e) (by decide)
       ·rcases e with e|e
        ·exact absurd (e1.symm.trans e) (by decide)
        ·exact absurd (e1.symm.trans e) (by decide)
       ·rcases List.mem_append.1 hy with q|q
        ·exact h.byts y q
        ·rw[List.mem_singleton.1 q];exact Nat.zero_le _
     ·rw[if_pos hsz]at hs;cases hs
    ·rw[if_neg e1]at hs
     by_cases e2:x.op=zn
     ·have g1:xu x=true:=DR (.inl e2)
      have g2:Zs x=true:=zcI e2
      have h8:D.length≠8:=by
       unfold full at hfull;rw[if_pos (.inl e2)]at hfull;rw[←h.dj]
       simpa using hfull
      have hle:=h.le8;have hd:zx c.parts nv=⟨1,x.n.toNat,[],D.length,0,0,[],[]⟩∧nv<c.parts.length:=hd0.resolve_right (λq=>q e2);rw[g1,g2];simp only[if_true];rw[if_pos e2]at hs;by_cases hsz:1≤x.n∧x.n≤2048
      ·rw[if_neg (not_not_intro hsz)]at hs
       cases hs;refine⟨by show c.devs++ [_]=_;rw[h.devs,List.map_append];rfl,?_,?_,by simp;omega,λy hy=>?_,λj hj'=>?_,h.parts,h.few,h.nms.snoc (λe=>?_) (λe=>?_),λy hy=>?_,h.expo,Qp _ h.uniq hlk,by simp[h.nlen]⟩
       ·show jr (c.names++ [_]) _=_
        rw[xn,h.dev];simp only[e2];rfl
       ·show jr (c.names++ [_]) _=_
        rw[xn,h.dj,List.length_append];simp only[e2];rfl
       ·rcases List.mem_append.1 hy with q|q
        ·exact h.ok y q
        ·rw[List.mem_singleton.1 q];exact hsz
       ·obtain⟨y,hy,ho⟩:=h.jour j hj'
        exact⟨y,by rw[List.getElem?_append_left (List.getElem?_eq_some_iff.1 hy).1];exact hy,ho⟩
       ·show xB c.parts (jr c.names [zn])
        rw[h.dev];refine⟨hd.2,?_⟩;unfold sz;rw[hd.1];show 1≤x.n.toNat∧x.n.toNat≤8192;omega
       ·rcases e with e|e
        ·exact absurd (e2.symm.trans e) (by decide)
        ·exact absurd (e2.symm.trans e) (by decide)
       ·rcases List.mem_append.1 hy with q|q
        ·exact h.byts y q
        ·rw[List.mem_singleton.1 q];exact Nat.zero_le _
      ·rw[if_pos hsz]at hs;cases hs
     ·have g1:xu x=false:=zay (by simp[e1,e2])
      have g2:Zs x=false:=zaR e2;rw[g1,g2];simp only[Bool.false_eq_true,if_false,List.append_nil,Nat.add_zero];rw[if_neg e2]at hs
      have c1:∀m:Mn,m.word=x.op→jr (c.names++ [(x.s,m)]) [zn]=nv:=λm hm=>by
       rw[xn,h.dev,if_neg (by simp[hm,e2])];rfl
      have c2:∀m:Mn,m.word=x.op→jr (c.names++ [(x.s,m)]) [zn,zq]=D.length:=λm hm=>by
       rw[xn,h.dj,if_neg (by simp[hm,e1,e2])];rfl
      by_cases e3:x.op=zM∨x.op=zN
      ·rw[if_pos e3]at hs
       by_cases hlen:(zH x.l 0).s.length≠64
       ·rw[if_pos hlen]at hs;cases hs
       ·rw[if_neg hlen]at hs
        cases hs;have hun:=QY 32 (zH x.l 0).s (by omega);refine⟨h.devs,c1 _ rfl,c2 _ rfl,h.le8,h.ok,h.jour,h.parts,h.few,h.nms.snoc (λe=>?_) (λe=>hun),λy hy=>?_,h.expo,Qp _ h.uniq hlk,by simp[h.nlen]⟩
        ·rcases e3 with e3|e3<;>rcases e with e|e<;>exact absurd (e3.symm.trans e) (by decide)
        ·rcases List.mem_append.1 hy with q|q
         ·exact h.byts y q
         ·rw[List.mem_singleton.1 q]
          show(qw _).length≤1000;omega
      ·rw[if_neg e3]at hs
       have e4:x.op=zB:=by
        rcases hx.word with e|e|e|e|e|e
        ·exact absurd e e2
        ·exact absurd e e1
        ·exact absurd (.inl e) e3
        ·exact absurd (.inr e) e3
        ·exact e
        ·exact absurd e e0
       cases hc:jb c.names 12 c.parts (zH x.l 0)with
       |error e=>rw[hc]at hs;cases hs
       |ok y =>
        obtain⟨k,ps⟩:=y;rw[hc]at hs;cases hs;have hfw:=gZ 12 _ _ _ _ hc;obtain⟨rs,e5,hk,hg⟩:=Qi 12 h.nms ((hx.vol e4).2.ok) hc;have hfew:=h.few;obtain⟨rs0,e6,hg0⟩:=h.parts;subst e5;refine⟨h.devs,c1 _ rfl,c2 _ rfl,h.le8,h.ok,h.jour,⟨rs0++rs,?_,hg0.app (by rw[←e6];exact hg)⟩,?_,(h.nms.more rs).snoc (λe=>hk) (λe=>?_),λy hy=>?_,λy hy=>(h.expo y hy).more rs,Qp _ h.uniq hlk,by simp[h.nlen]⟩
        ·show c.parts++rs=_
         rw[e6,List.append_assoc]
        ·show(c.parts++rs).length≤_
         omega
        ·rcases e with e|e<;>exact absurd (e4.symm.trans e) (by decide)
        ·rcases List.mem_append.1 hy with q|q
         ·exact h.byts y q
         ·rw[List.mem_singleton.1 q];exact Nat.zero_le _
theorem gT{rs:List Pt}:∀ {ps:List Pt},Grown' ps rs→∀i (h:i<rs.length),zaV (ps++rs.take i) rs[i]:=by
 induction rs with
 |nil=>intro ps _ i h;cases h
 |cons p rs ih =>
  intro ps h i hi;cases i with
  |zero=>simpa using h.1
  |succ i =>
   have:=ih h.2 i (by simpa using hi)
   simpa using this
theorem Dh{l:List Nd}:∀ {d:Nat} {p:Pt},p ∈ disks d l→∃j x,(l.filter xu)[j]?=some x∧x.op=zn∧p=⟨1,x.n.toNat,[],d+j,0,0,[],[]⟩:=by
 induction l with
 |nil=>intro d p h;cases h
 |cons y l ih =>
  intro d p h;simp only[disks]at h;by_cases h1:y.op=zn
  ·rw[if_pos h1]at h
   have e:(y::l).filter xu=y::l.filter xu:=by rw[List.filter_cons,if_pos (DR (.inl h1))]
   rw[e];rcases List.mem_cons.1 h with q|q
   ·exact⟨0,y,rfl,h1,q⟩
   ·obtain⟨j,x,a,b,c⟩:=ih q
    exact⟨j+1,x,by simpa using a,b,by rw[c];simp;omega⟩
  ·rw[if_neg h1]at h
   by_cases h2:y.op=zq
   ·rw[if_pos h2]at h
    have e:(y::l).filter xu=y::l.filter xu:=by rw[List.filter_cons,if_pos (DR (.inr h2))]
    rw[e];obtain⟨j,x,a,b,c⟩:=ih h;exact⟨j+1,x,by simpa using a,b,by rw[c];simp;omega⟩
   ·rw[if_neg h2]at h
    have e:(y::l).filter xu=l.filter xu:=by rw[List.filter_cons,zay (by simp[h1,h2])];rfl
    rw[e];exact ih h
theorem JB.part{l:List Nd}{c:Ck}(h:JB l l c){i:Nat}(hi:i<c.parts.length):(∃j x,(l.filter xu)[j]?=some x∧x.op=zn∧c.parts[i]=⟨1,x.n.toNat,[],j,0,0,[],[]⟩∧1≤x.n∧x.n≤2048)∨zaV (c.parts.take i) c.parts[i]:=by
 obtain⟨rs,e,hg⟩:=h.parts;by_cases hd:i<(disks 0 l).length
 ·left
  have hm:c.parts[i] ∈ disks 0 l:=by
   simp only[e,List.getElem_append_left hd];exact List.getElem_mem hd
  obtain⟨j,x,a,b,q⟩:=Dh hm;rw[Nat.zero_add]at q;exact⟨j,x,a,b,q,h.ok x (List.mem_of_getElem? a)⟩
 ·right
  have hr:i-(disks 0 l).length<rs.length:=by rw[e,List.length_append]at hi;omega
  have:=gT hg _ hr;have e2:c.parts.take i=disks 0 l++rs.take (i-(disks 0 l).length):=by rw[e,List.take_append,List.take_of_length_le (by omega)]
  have e3:c.parts[i]=rs[i-(disks 0 l).length]:=by simp only[e,List.getElem_append_right (Nat.le_of_not_lt hd)]
  rw[e2,e3];exact this
theorem za6{ps:List Pt}{i k:Nat}(h:xB (ps.take i) k):k<i∧xB ps k:=by
 have h1:=h.1;rw[List.length_take]at h1;have:=h.more (ps.drop i);rw[List.take_append_drop]at this;exact⟨by omega,this⟩
theorem JB.wf{l:List Nd}{c:Ck}(h:JB l l c):Jv c.parts:=by
 refine⟨λi hi k hk=>?_,λi hi=>?_,λi hi=>?_,λi hi e=>?_,λi hi e=>?_,λi hi=>?_,λi hi=>?_⟩
 ·rw[vQ hi]at hk
  rcases h.part hi with⟨j,x,_,_,q,_⟩|q
  ·rw[q]at hk;cases hk
  ·exact(za6 (q.kids k hk)).1
 ·unfold sz
  rw[vQ hi];rcases h.part hi with⟨j,x,_,_,q,_⟩|q
  ·rw[q];show x.n.toNat≤8192;omega
  ·exact q.hi
 ·rw[vQ hi]
  rcases h.part hi with⟨j,x,_,_,q,_⟩|q
  ·rw[q];exact Nat.zero_le _
  ·have:=q.fst;omega
 ·rw[vQ hi]at e ⊢
  rcases h.part hi with⟨j,x,_,_,q,_⟩|q
  ·rw[q]at e;cases e
  ·exact(q.snap e).1
 ·rw[vQ hi]at e ⊢
  rcases h.part hi with⟨j,x,_,_,q,_⟩|q
  ·rw[q]at e;rcases e with e|e<;>cases e
  ·rw[q.one (.inr (.inr e))];exact Nat.le_refl _
 ·rw[vQ hi]
  rcases h.part hi with⟨j,x,_,_,q,_⟩|q
  ·rw[q];exact Nat.zero_le _
  ·have:=q.four;omega
 ·rw[vQ hi]
  rcases h.part hi with⟨j,x,_,_,q,_⟩|q
  ·rw[q];exact⟨Nat.le_refl _,by show 1≤8;decide⟩
  ·exact⟨by have:=q.kind;omega,q.kind.2⟩
end
section
open Go.ChangeShapes Go.WideShapes Go.ChangeAt Go.RowKit Go.MapKept
variable {E:Nat→Prop}
def Y2(E:Nat→Prop)(w:World)(cb:Nat)(V:CV)(R:Except Er (Ck×Mn))(e:Ending)(w':World):Prop:=vZ (V.own cb) w w'∧match R with
 | .error (ec,ek)=>e= .panicked (XT ec ek)
 | .ok (c',m)=>∃u V',e= .returned (Uc m u)∧Ka w' (λg=>¬V'.own cb g∧(E g∨w.heap.size≤g)) m u∧qq (λg=>E g∨w.heap.size≤g) w' cb V' c'∧jX cb V w V' w'
theorem qq.other{w:World}{cb:Nat}{V:CV}{c:Ck}(h:qq E w cb V c)(q:Addr)(hq:¬V.own cb q.block)(hE:¬E q.block)(v:Value):qq E (w.setCell q v) cb V c:=by
 have hk:∀k,k<w.heap.size→(¬V.own cb k∧E k)→(w.setCell q v).heap[k]?=w.heap[k]?∧(¬V.own cb k∧E k):=λk hk hh=>⟨Below.heap_setCell w q v k (by rintro rfl;exact hE hh.2),hh⟩
 have kept:∀ {k:Nat} {o:Obj},V.own cb k→w.heap[k]?=some o→(w.setCell q v).heap[k]?=some o:=λ{k o} ho hh=>(Below.heap_setCell w q v k (by rintro rfl;exact hq ho)).trans hh
 obtain⟨us,e1,r1,i1⟩:=h.prts;obtain⟨ms,e2,r2,i2⟩:=h.nms;have hsz:w.heap.size≤(w.setCell q v).heap.size:=by simp
 exact⟨kept (.inl rfl) h.has,zI h.devs (λg o e ho=>kept (.inr (.inl e)) ho),zI h.only (λg o e ho=>kept (.inr (.inr (.inr (.inl e)))) ho),⟨us,e1,zI r1 (λg o e ho=>kept (.inr (.inr (.inl e))) ho),λi a b=>(i1 i a b).keep hsz hk⟩,⟨ms,e2,kept (.inr (.inr (.inr (.inr rfl)))) r2,λi a b=>(i2 i a b).keep hsz hk⟩,h.uniq,h.mlt,h.few⟩
theorem jX.set{cb:Nat}{V V':CV}{w w':World}(s:jX cb V w V' w'){q:Addr}(hq:w.heap.size≤q.block)(v:Value):jX cb V w V' (w'.setCell q v):=⟨s.only.set (.inr hq) v,s.new⟩
theorem qq.other3{w:World}{cb:Nat}{V:CV}{c:Ck}(h:qq E w cb V c)(g:Nat)(hq:¬V.own cb g)(hE:¬E g)(x0 x1 x2:Value):qq E (((w.setCell ⟨g,0,none⟩ x0).setCell ⟨g,1,none⟩ x1).setCell ⟨g,2,none⟩ x2) cb V c:=((h.other ⟨g,0,none⟩ hq hE x0).other ⟨g,1,none⟩ hq hE x1).other ⟨g,2,none⟩ hq hE x2
theorem jX.set3{cb:Nat}{V V':CV}{w w':World}(s:jX cb V w V' w'){g:Nat}(hq:w.heap.size≤g)(x0 x1 x2:Value):jX cb V w V' (((w'.setCell ⟨g,0,none⟩ x0).setCell ⟨g,1,none⟩ x1).setCell ⟨g,2,none⟩ x2):=((s.set (q:=⟨g,0,none⟩) hq x0).set (q:=⟨g,1,none⟩) hq x1).set (q:=⟨g,2,none⟩) hq x2
theorem qq.vdv{w:World}{cb:Nat}{V:CV}{c:Ck}(h:qq E w cb V c):∃A C,V.vd= .slice A c.devs.length C:=by
 rcases h.devs.2 with⟨e,h0⟩|⟨b,cap,cur,e,_⟩
 ·exact⟨none,0,by rw[e,h0]⟩
 ·exact⟨_,_,e⟩
theorem uS{w:World}{P:Nat→Prop}{m:Mn}(h:m.bytes= []):Ka w P m (.slice none 0 0):=⟨none,0,by rw[h];rfl,by rw[h];exact Nat.le_refl _,by unfold maxLen;omega,.inl h⟩
theorem Jz{w:World}{cb:Nat}{V:CV}{c:Ck}(h:qq E w cb V c):qq (λg=>E g∧g<w.heap.size) w cb V c:=h.mono (λk hk _ he=>⟨he,hk⟩)
theorem Z6{w:World}(a b c:Obj):Below w.heap.size w (((w.alloc a).alloc b).alloc c):=((Below.refl _ w).alloc (Nat.le_refl _) a |>.alloc (by simp) b).alloc (by simp;omega) c
end
section
open Go.ChangeShapes Go.WideShapes Go.ChangeAt Go.RowKit Go.MapKept
variable {E:Nat→Prop}
theorem Ug{w:World}{cb:Nat}{V:CV}{c:Ck}(h:qq E w cb V c)(n:Nd)(A:Option Addr)(L C:Nat)(ho:n.op=zn)(hdv:c.devs.length≤90000):
 Calls Tryz.prog 64 #[.pointer (some ⟨cb,0,none⟩),.agg (qD n (.slice A L C))] w (Y2 E w cb V (j9 c n)):=by
 obtain⟨W1,hW1⟩:∃W1,W1=((w.alloc (.cells #[.string (bs n.op),.string (bs n.s),.int .i64 n.n,.int .i64 n.a,.slice A L C] 24)).alloc (.cells #[.string ⟨#[]⟩,.int .i64 0,.slice none 0 0] 111)).alloc (.cells #[.string (bs n.op),.int .i64 0,.slice none 0 0] 111):=⟨_,rfl⟩
 have hb1:Below w.heap.size w W1:=by rw[hW1];exact Z6 _ _ _
 have N1:zm W1 w.heap.size 24 #[.string (bs n.op),.string (bs n.s),.int .i64 n.n,.int .i64 n.a,.slice A L C]:=by rw[hW1];exact((zm.new w _ _).alloc _).alloc _
 have R1:zm W1 (w.heap.size+1) 111 #[.string ⟨#[]⟩,.int .i64 0,.slice none 0 0]:=by rw[hW1];exact(zm.new_at (by simp)).alloc _
 have M1:zm W1 (w.heap.size+2) 111 #[.string (bs n.op),.int .i64 0,.slice none 0 0]:=by rw[hW1];exact zm.new_at (by simp)
 have h1:=(Jz h).keep hb1;have S1:jX cb V w V W1:=jX.of hb1;have HW:=ze hW1;have lcb:=h.has.lt;have hrn:¬V.own cb (w.heap.size+1):=λe=>by have:=(h.low e).2;omega
 have hmn:¬V.own cb (w.heap.size+2):=λe=>by have:=(h.low e).2;omega
 have hot:=zp n.op;have f0:(n.op== [106,111,117,114,110,97,108])=false:=by rw[ho];decide
 have f1:(n.op== [100,101,118,105,99,101])=true:=by rw[ho];decide
 have f2:(n.op== [107,101,121])=false:=by rw[ho];decide
 have f3:(n.op== [114,111,111,116])=false:=by rw[ho];decide
 have f4:(n.op== [118,111,108,117,109,101])=false:=by rw[ho];decide
 have hR:j9 c n=if ¬(1≤n.n∧n.n≤2048)then .error (134,n.a)else .ok ({ c with devs:=c.devs++ [n.n.toNat] },⟨n.op,jr c.names [zn],[]⟩):=by
  unfold j9;rw[if_neg (show ¬n.op=zq by rw[ho];decide),if_pos ho]
 clear hW1;by_cases h12:1≤n.n∧n.n≤2048
 ·rw[if_neg (not_not_intro h12)]at hR
  have HR:=ze hR;obtain⟨k1,k2⟩:=h12;clear hR ho;have hny:=qL 134 n.a W1;unfold qD;go_enter Tryz.func64,Tryz.ntmps64;have hah:=ZO (h1.alloc (.cells #[.string ⟨#[100,101,118,105,99,101]⟩] 9)) [zn] (.slice (some ⟨W1.heap.size,0,none⟩) 1 1) (.inr ⟨W1.heap.size,rfl,zm.new_at rfl⟩) (by simp)
  obtain⟨CN,hCN⟩:∃CN,CN=jr c.names [zn]:=⟨_,rfl⟩
  have HCN:=ze hCN
  obtain⟨DL,hDL⟩:∃DL,DL=c.devs.length:=⟨_,rfl⟩
  have HDL:=ze hDL;have hdl:DL≤90000:=by rw[hDL];exact hdv
  change Calls _ _ _ _ (λe w'=>e= .returned (.int .i64 (jr c.names [zn]:Nat))∧Below (W1.alloc (.cells #[.string ⟨#[100,101,118,105,99,101]⟩] 9)).heap.size (W1.alloc (.cells #[.string ⟨#[100,101,118,105,99,101]⟩] 9)) w')at hah;rw[←hCN]at hah;clear hCN hDL;have HMM:=ze (λw2 (hb:Below (W1.alloc (.cells #[.string ⟨#[100,101,118,105,99,101]⟩] 9)).heap.size (W1.alloc (.cells #[.string ⟨#[100,101,118,105,99,101]⟩] 9)) w2)=>(zl W1 (.cells #[.string ⟨#[100,101,118,105,99,101]⟩] 9)).trans (hb.mono (by simp)))
  go_wp2_with (first
   |((go_at_call 62)
     (first |rw[←HW.out]|skip)
     refine hny.mono ?_;rintro e w3 ⟨rfl,hw3⟩;(obtain rfl:W1=w3:=hw3.symm))
   |((go_at_call 80)
     refine hah.mono ?_;rintro e w2 ⟨rfl,hb2'⟩;have hb2:=HMM.out w2 hb2';have M2:=M1.below hb2 M1.lt;have m1:=M2.cell 1;have g1:=M2.free 1;(have ml:=M2.lt)))
  have H2:=h1.keep hb2;have S2:=S1.trans (jX.of (cb:=cb) (V:=V) hb2);have N2:=N1.below hb2 N1.lt;have R2:=R1.below hb2 R1.lt;have H3:=H2.other ⟨w.heap.size+2,1,none⟩ hmn (λe=>absurd e.2 (Nat.not_lt.2 (Nat.le_add_right _ _))) (.int .i64 (CN:Nat));have S3:=S2.set (q:=⟨w.heap.size+2,1,none⟩) (by show w.heap.size≤w.heap.size+2;omega) (.int .i64 (CN:Nat));have N3:=N2.other (p:=⟨w.heap.size+2,1,none⟩) (by show w.heap.size≠w.heap.size+2;omega) (.int .i64 (CN:Nat));have R3:=R2.other (p:=⟨w.heap.size+2,1,none⟩) (by show w.heap.size+1≠w.heap.size+2;omega) (.int .i64 (CN:Nat));have M3:zm (w2.setCell ⟨w.heap.size+2,1,none⟩ (.int .i64 (CN:Nat))) (w.heap.size+2) 111 #[.string (bs n.op),.int .i64 (CN:Nat),.slice none 0 0]:=M2.putP 1 _;generalize w2.setCell ⟨w.heap.size+2,1,none⟩ (.int .i64 (CN:Nat))=W3 at *;have c0:=H3.has.cell 0;have n2:=N3.cell 2;simp only[qH,qG,qI]at c0 n2;clear m1 g1 ml hb2 hb2' H2 S2 N2 R2 M2 hah HMM;refine jp (S:=λwz=>wz.cell? ⟨cb,0,none⟩=some V.vd∧wz.cell? ⟨w.heap.size,2,none⟩=some (.int .i64 n.n)) 13 (by kernel_rfl) (⟨c0,n2⟩) (λhHeld=>?_);refine ja 0 (some 65) (.pointer (some ⟨cb,0,none⟩)) hHeld ?_;simp only[Act.put,zh,zf,zg];refine ja 1 (some 66) (.pointer (some ⟨cb,0,none⟩)) hHeld ?_;simp only[Act.put,zh,zf,zg];refine ja 2 (some 67) (.pointer (some ⟨cb,0,none⟩)) hHeld ?_;simp only[Act.put,zh,zf,zg];refine ja 3 (some 68) (.pointer (some ⟨cb,0,none⟩)) hHeld ?_;simp only[Act.put,zh,zf,zg];refine ja 4 (some 69) (.pointer (some ⟨cb,0,none⟩)) hHeld ?_;simp only[Act.put,zh,zf,zg];refine j3 5 (some 70) (V.vd) rfl rfl (λwz hz=>by obtain⟨z0,z1⟩:=hz;unfold execOp;go_simp) hHeld ?_;simp only[Act.put,zh,zf,zg];refine ja 6 (some 71) (.pointer (some ⟨w.heap.size,2,none⟩)) hHeld ?_;simp only[Act.put,zh,zf,zg];refine j3 7 (some 72) (.int .i64 n.n) rfl rfl (λwz hz=>by obtain⟨z0,z1⟩:=hz;unfold execOp;go_simp) hHeld ?_;simp only[Act.put,zh,zf,zg]
  have hS2:(W3.drew.alloc (.cells #[.int .i64 n.n] 3)).cell? ⟨cb,0,none⟩=some V.vd∧(W3.drew.alloc (.cells #[.int .i64 n.n] 3)).cell? ⟨w.heap.size,2,none⟩=some (.int .i64 n.n):=⟨za (zl W3.drew _) hHeld.1,za (zl W3.drew _) hHeld.2⟩
  refine zV 8 (some 73) (.slice (some ⟨W3.heap.size,0,none⟩) 1 1) (W3.drew.alloc (.cells #[.int .i64 n.n] 3)) (by kernel_rfl) rfl rfl (by rfl) (by kernel_rfl) hS2 ?_;simp only[Act.put,zh,zf,zg];have hb4:Below W3.heap.size W3 (W3.drew.alloc (.cells #[.int .i64 n.n] 3)):=(zr (Below.refl _ W3)).trans (zl W3.drew _);have G3:=H3.keep hb4;obtain⟨A6,C6,w6,hr6,hrow6,hg6,hw6⟩:=zX J2 (ty:=29) (W3.drew.alloc (.cells #[.int .i64 n.n] 3)) cb DL _ _ (by have:=G3.devs;rw[←HDL.out]at this;exact this) (by have:=G3.has.lt;omega) (by omega) [.int .i64 n.n] rfl (by intro u hu;simp at hu;subst hu;rfl) W3.heap.size (zm.new_at rfl);have N6:zm w6 w.heap.size 24 #[.string (bs n.op),.string (bs n.s),.int .i64 n.n,.int .i64 n.a,.slice A L C]:=zy ((zt N3).alloc _) hg6 (zK G3.devs ((zt N3).alloc _) (by decide));have R6:zm w6 (w.heap.size+1) 111 #[.string ⟨#[]⟩,.int .i64 0,.slice none 0 0]:=zy ((zt R3).alloc _) hg6 (zK G3.devs ((zt R3).alloc _) (by decide));have M6:=zy ((zt M3).alloc (.cells #[.int .i64 n.n] 3)) hg6 (zK G3.devs ((zt M3).alloc _) (by decide));have cb6h:=zy G3.has hg6 (zK G3.devs G3.has (by decide))
  have hS6:w6.cell? ⟨cb,0,none⟩=some V.vd∧w6.cell? ⟨w.heap.size,2,none⟩=some (.int .i64 n.n):=⟨cb6h.cell 0,N6.cell 2⟩
  refine zV 9 (some 74) (.slice A6 (DL+1) C6) w6 (by kernel_rfl) rfl rfl (by rfl) (zW _ _ rfl rfl rfl hr6) hS6 ?_;simp only[Act.put,zh,zf,zg];refine zV 10 (some 75) (.pointer (some ⟨cb,0,none⟩)) w6 (by kernel_rfl) rfl rfl (by rfl) rfl hS6 ?_;simp only[Act.put,zh,zf,zg];refine zV 11 (some 76) (.pointer (some ⟨cb,0,none⟩)) w6 (by kernel_rfl) rfl rfl (by rfl) rfl hS6 ?_;simp only[Act.put,zh,zf,zg];refine zV 12 (some 77) (.pointer (some ⟨cb,0,none⟩)) w6 (by kernel_rfl) rfl rfl (by rfl) rfl hS6 ?_;simp only[Act.put,zh,zf,zg];have q6:=cb6h.cell 0;have f6:=cb6h.free 0;refine qC 13 none (w6.setCell ⟨cb,0,none⟩ (.slice A6 (DL+1) C6)) (by kernel_rfl) rfl rfl (by rfl) (by unfold execOp;go_simp) (by kernel_rfl) ?_;simp only[Act.put];have hvn:(Value.int .i64 n.n)= .int .i64 ((n.n.toNat:Nat):Int):=by congr 1;omega
  rw[hvn]at hrow6;have hPD:=G3.putDev (A6:=A6) (C6:=C6) (d:=n.n.toNat) hg6 (by have:=hrow6;rw[HDL.out]at this;exact this) (by have:=hw6;rw[HDL.out]at this;exact this) hdv;have H4:qq (λg=>E g∧g<w.heap.size) (w6.setCell ⟨cb,0,none⟩ (.slice A6 (DL+1) C6)) cb { V with vd:= .slice A6 (DL+1) C6 } { c with devs:=c.devs++ [n.n.toNat] }:=by rw[HDL.out];exact hPD.1
  have S4:jX cb V (W3.drew.alloc (.cells #[.int .i64 n.n] 3)) { V with vd:= .slice A6 (DL+1) C6 } (w6.setCell ⟨cb,0,none⟩ (.slice A6 (DL+1) C6)):=by rw[HDL.out];exact hPD.2
  have hrn4:=(S4.inner (w.heap.size+1) (by have:=M3.lt;simp;omega) hrn).2;have S5:=(S3.trans (jX.of (cb:=cb) (V:=V) hb4)).trans S4;have R5:=R6.other (p:=⟨cb,0,none⟩) (by show w.heap.size+1≠cb;omega) (.slice A6 (DL+1) C6);have M5:=M6.other (p:=⟨cb,0,none⟩) (by show w.heap.size+2≠cb;omega) (.slice A6 (DL+1) C6);clear hPD S4;generalize w6.setCell ⟨cb,0,none⟩ (.slice A6 (DL+1) C6)=W5 at *;have m0:=M5.cell 0;have m1:=M5.cell 1;have m2:=M5.cell 2;simp only[qH,qG,qI]at m0 m1 m2;have r0:=R5.cell 0;have r1:=R5.cell 1;have r2:=R5.cell 2;simp only[qH,qG,qI]at r0 r1 r2;have g0:=R5.free 0;have g1:=R5.free 1;have g2:=R5.free 2;have rl:=R5.lt;have mlt:=M5.lt;clear q6 f6 hS6 hS2 hHeld cb6h M6 R6 N6 hrow6 hr6 hg6 hw6 G3 c0 n2 hb4
  go_wp2
  refine JR rfl rfl (R5.set3 _ _ _) rfl ?_;have S6:=S5.set3 (g:=w.heap.size+1) (by omega) (.string (bs n.op)) (.int .i64 (CN:Nat)) (.slice none 0 0);have H6:=H4.other3 (w.heap.size+1) hrn4 (λe=>absurd e.2 (Nat.not_lt.2 (Nat.le_add_right _ _))) (.string (bs n.op)) (.int .i64 (CN:Nat)) (.slice none 0 0);refine⟨S6.only,?_⟩;rw[HR.out];exact⟨.slice none 0 0,_,by rw[←HCN.out];rfl,uS rfl,H6.mono (λg _ _ he=> .inl he.1),S6⟩
 ·rw[if_pos h12]at hR
  have HR:=ze hR;have hno:=jA 134 n.a W1;rcases(by omega:¬1≤n.n∨(1≤n.n∧¬n.n≤2048))with k1|⟨k1,k2⟩
  all_goals
   clear h12 hR ho;unfold qD;go_enter Tryz.func64,Tryz.ntmps64
   go_wp2_with (first
    |((go_at_call 62)
      (first |rw[←HW.out]|skip)
      refine hno.mono ?_;rintro e w3 ⟨rfl,hw3⟩;(obtain rfl:W1=w3:=hw3.symm)))
   exact⟨rfl,S1.only,by rw[HR.out];rfl⟩
end
section
open Go.ChangeShapes Go.WideShapes Go.ChangeAt Go.RowKit Go.MapKept
variable {E:Nat→Prop}
theorem X5{w:World}{cb:Nat}{V:CV}{c:Ck}(h:qq E w cb V c)(n:Nd)(A:Option Addr)(L C:Nat)(ho:n.op=zq)(hdv:c.devs.length≤90000):
 Calls Tryz.prog 64 #[.pointer (some ⟨cb,0,none⟩),.agg (qD n (.slice A L C))] w (Y2 E w cb V (j9 c n)):=by
 obtain⟨W1,hW1⟩:∃W1,W1=((w.alloc (.cells #[.string (bs n.op),.string (bs n.s),.int .i64 n.n,.int .i64 n.a,.slice A L C] 24)).alloc (.cells #[.string ⟨#[]⟩,.int .i64 0,.slice none 0 0] 111)).alloc (.cells #[.string (bs n.op),.int .i64 0,.slice none 0 0] 111):=⟨_,rfl⟩
 have hb1:Below w.heap.size w W1:=by rw[hW1];exact Z6 _ _ _
 have N1:zm W1 w.heap.size 24 #[.string (bs n.op),.string (bs n.s),.int .i64 n.n,.int .i64 n.a,.slice A L C]:=by rw[hW1];exact((zm.new w _ _).alloc _).alloc _
 have R1:zm W1 (w.heap.size+1) 111 #[.string ⟨#[]⟩,.int .i64 0,.slice none 0 0]:=by rw[hW1];exact(zm.new_at (by simp)).alloc _
 have M1:zm W1 (w.heap.size+2) 111 #[.string (bs n.op),.int .i64 0,.slice none 0 0]:=by rw[hW1];exact zm.new_at (by simp)
 have h1:=(Jz h).keep hb1;have S1:jX cb V w V W1:=jX.of hb1;have HW:=ze hW1;have lcb:=h.has.lt;have hrn:¬V.own cb (w.heap.size+1):=λe=>by have:=(h.low e).2;omega
 have hmn:¬V.own cb (w.heap.size+2):=λe=>by have:=(h.low e).2;omega
 have hot:=zp n.op;have f0:(n.op== [106,111,117,114,110,97,108])=true:=by rw[ho];decide
 have f1:(n.op== [100,101,118,105,99,101])=false:=by rw[ho];decide
 have f2:(n.op== [107,101,121])=false:=by rw[ho];decide
 have f3:(n.op== [114,111,111,116])=false:=by rw[ho];decide
 have f4:(n.op== [118,111,108,117,109,101])=false:=by rw[ho];decide
 have hR:j9 c n=if ¬(256≤n.n∧n.n≤2048)then .error (134,n.a)else if c.jour.isSome then .error (138,n.a)else .ok ({ c with jour:=some c.devs.length,devs:=c.devs++ [n.n.toNat] },⟨n.op,jr c.names [zn],[]⟩):=by
  unfold j9;rw[if_pos ho]
 have c1:=h1.has.cell 1;have nc3:=N1.cell 3;simp only[qH,qG,qI]at c1 nc3;clear hW1;by_cases h12:256≤n.n∧n.n≤2048
 ·rw[if_neg (not_not_intro h12)]at hR
  obtain⟨k1,k2⟩:=h12;have k3:1≤n.n:=by omega
  have hny:=qL 134 n.a W1;cases hx:c.jour with
  |some x0 =>
   have hxe:(jI c.jour== -1)=false:=by
    rw[hx,beq_eq_false_iff_ne];show((x0:Nat):Int)≠ -1;omega
   rw[hx,if_pos (show(some x0).isSome=true from rfl)]at hR;have HR:=ze hR;clear hR ho hx;unfold qD;go_enter Tryz.func64,Tryz.ntmps64
   go_wp2_with (first
    |((go_at_call 62)
      (first |rw[←HW.out]|skip)
      refine hny.mono ?_;rintro e w3 ⟨rfl,hw3⟩;(obtain rfl:W1=w3:=hw3.symm)))
   refine wp_region_held_drew (S:=λwz=>Below W1.heap.size W1 wz) (by kernel_rfl) ((Below.refl _ W1).drew) (λhHeld=>?_);refine zw 0 (some 31) (.pointer (some ⟨cb,0,none⟩)) hHeld ?_;simp only[Act.put,zh,zf,zg];refine zw 1 (some 32) (.pointer (some ⟨cb,0,none⟩)) hHeld ?_;simp only[Act.put,zh,zf,zg];refine zw 2 (some 33) (.pointer (some ⟨cb,0,none⟩)) hHeld ?_;simp only[Act.put,zh,zf,zg];refine zw 3 (some 34) (.pointer (some ⟨cb,1,none⟩)) hHeld ?_;simp only[Act.put,zh,zf,zg];refine zD 4 (some 35) (.int .i64 (jI c.jour)) rfl rfl (λwz hz=>by have z0:=za hz c1;unfold execOp;go_simp) hHeld ?_;simp only[Act.put,zh,zf,zg];refine zD 5 (some 36) (.bool false) rfl rfl (λwz _=>y4 _ (-1) rfl (jI c.jour) rfl false hxe wz) hHeld ?_;simp only[Act.put,zh,zf,zg];refine zw 6 (some 37) (.pointer (some ⟨w.heap.size,3,none⟩)) hHeld ?_;simp only[Act.put,zh,zf,zg];refine zD 7 (some 38) (.int .i64 n.a) rfl rfl (λwz hz=>by have z0:=za hz nc3;unfold execOp;go_simp) hHeld ?_;simp only[Act.put,zh,zf,zg];refine jn 8 (some 39) 62 #[.bool false,.int .i64 138,.int .i64 n.a] (by kernel_rfl) rfl rfl (by rfl) (by kernel_rfl) (jA 138 n.a W1.drew) ?_;rintro e w5 ⟨rfl,rfl⟩;refine .inr ⟨_,rfl,?_⟩;exact⟨rfl,S1.only.drew,by rw[HR.out];rfl⟩
  |none =>
   have hxe:(jI c.jour== -1)=true:=by rw[hx];rfl
   rw[hx,if_neg (show ¬(none:Option Nat).isSome=true by decide)]at hR;have HR:=ze hR;clear hR ho hx;unfold qD;go_enter Tryz.func64,Tryz.ntmps64
   go_wp2_with (first
    |((go_at_call 62)
      (first |rw[←HW.out]|skip)
      refine hny.mono ?_;rintro e w3 ⟨rfl,hw3⟩;(obtain rfl:W1=w3:=hw3.symm)))
   refine wp_region_held_drew (S:=λwz=>Below W1.heap.size W1 wz) (by kernel_rfl) ((Below.refl _ W1).drew) (λhHeld=>?_);refine zw 0 (some 31) (.pointer (some ⟨cb,0,none⟩)) hHeld ?_;simp only[Act.put,zh,zf,zg];refine zw 1 (some 32) (.pointer (some ⟨cb,0,none⟩)) hHeld ?_;simp only[Act.put,zh,zf,zg];refine zw 2 (some 33) (.pointer (some ⟨cb,0,none⟩)) hHeld ?_;simp only[Act.put,zh,zf,zg];refine zw 3 (some 34) (.pointer (some ⟨cb,1,none⟩)) hHeld ?_;simp only[Act.put,zh,zf,zg];refine zD 4 (some 35) (.int .i64 (jI c.jour)) rfl rfl (λwz hz=>by have z0:=za hz c1;unfold execOp;go_simp) hHeld ?_;simp only[Act.put,zh,zf,zg];refine zD 5 (some 36) (.bool true) rfl rfl (λwz _=>y4 _ (-1) rfl (jI c.jour) rfl true hxe wz) hHeld ?_;simp only[Act.put,zh,zf,zg];refine zw 6 (some 37) (.pointer (some ⟨w.heap.size,3,none⟩)) hHeld ?_;simp only[Act.put,zh,zf,zg];refine zD 7 (some 38) (.int .i64 n.a) rfl rfl (λwz hz=>by have z0:=za hz nc3;unfold execOp;go_simp) hHeld ?_;simp only[Act.put,zh,zf,zg];refine jn 8 (some 39) 62 #[.bool true,.int .i64 138,.int .i64 n.a] (by kernel_rfl) rfl rfl (by rfl) (by kernel_rfl) (qL 138 n.a W1.drew) ?_;rintro e w5 ⟨rfl,rfl⟩;refine .inl ⟨_,rfl,hHeld,?_⟩;simp only[Act.put,zh,zf,zg];refine wpAnyH_done (by kernel_rfl) ?_ _;have hbd:Below W1.heap.size W1 W1.drew:=zr (Below.refl _ W1);have H2:=h1.keep hbd;have S2:=S1.trans (jX.of (cb:=cb) (V:=V) hbd);have N2:=zt N1;have R2:=zt R1;have M2:=zt M1;clear hHeld c1 nc3 h1 S1 N1 R1 M1 hb1 HW hny;generalize W1.drew=W2 at *;obtain⟨Ad,Cd,evd⟩:=H2.vdv;have a0:=H2.has.cell 0;have a1:=H2.has.cell 1;have a1f:=H2.has.free 1;have alt:=H2.has.lt;have a2:=N2.cell 2;have a3:=N2.cell 3;have anl:=N2.lt;simp only[List.getElem?_toArray,List.getElem?_cons_zero,List.getElem?_cons_succ,evd]at a0 a1 a2 a3
   obtain⟨DJ,hDJ⟩:∃DJ,DJ=c.devs.length:=⟨_,rfl⟩
   have HDJ:=ze hDJ;rw[←hDJ]at a0;clear hDJ
   obtain⟨WJ,hWJ⟩:∃WJ,WJ=W2.setCell ⟨cb,1,none⟩ (.int .i64 (DJ:Nat)):=⟨_,rfl⟩
   have hPJ:=H2.put (c':={ c with jour:=some c.devs.length }) 1 (.int .i64 (c.devs.length:Nat)) (H2.has.putP 1 _) rfl rfl rfl;have HJ:qq (λg=>E g∧g<w.heap.size) WJ cb V { c with jour:=some c.devs.length }:=by rw[hWJ,HDJ.out];exact hPJ.1
   have SJ:jX cb V w V WJ:=by rw[hWJ,HDJ.out];exact S2.trans hPJ.2
   have NJ:zm WJ w.heap.size 24 #[.string (bs n.op),.string (bs n.s),.int .i64 n.n,.int .i64 n.a,.slice A L C]:=by rw[hWJ];exact N2.other (p:=⟨cb,1,none⟩) (by show w.heap.size≠cb;omega) _
   have RJ:zm WJ (w.heap.size+1) 111 #[.string ⟨#[]⟩,.int .i64 0,.slice none 0 0]:=by rw[hWJ];exact R2.other (p:=⟨cb,1,none⟩) (by show w.heap.size+1≠cb;omega) _
   have MJ:zm WJ (w.heap.size+2) 111 #[.string (bs n.op),.int .i64 0,.slice none 0 0]:=by rw[hWJ];exact M2.other (p:=⟨cb,1,none⟩) (by show w.heap.size+2≠cb;omega) _
   have HW:=ze hWJ;have hdj:(DJ:Int)≤90000:=by have:=HDJ.out;omega
   clear hPJ N2 R2 M2 S2 H2 hWJ;have hny:=qL 134 n.a WJ;have hah:=ZO (HJ.alloc (.cells #[.string ⟨#[100,101,118,105,99,101]⟩] 9)) [zn] (.slice (some ⟨WJ.heap.size,0,none⟩) 1 1) (.inr ⟨WJ.heap.size,rfl,zm.new_at rfl⟩) (by simp)
   obtain⟨CN,hCN⟩:∃CN,CN=jr c.names [zn]:=⟨_,rfl⟩
   have HCN:=ze hCN
   obtain⟨DL,hDL⟩:∃DL,DL=c.devs.length:=⟨_,rfl⟩
   have HDL:=ze hDL;have hdl:DL≤90000:=by rw[hDL];exact hdv
   change Calls _ _ _ _ (λe w'=>e= .returned (.int .i64 (jr c.names [zn]:Nat))∧Below (WJ.alloc (.cells #[.string ⟨#[100,101,118,105,99,101]⟩] 9)).heap.size (WJ.alloc (.cells #[.string ⟨#[100,101,118,105,99,101]⟩] 9)) w')at hah;rw[←hCN]at hah;clear hCN hDL;have HMM:=ze (λw2 (hb:Below (WJ.alloc (.cells #[.string ⟨#[100,101,118,105,99,101]⟩] 9)).heap.size (WJ.alloc (.cells #[.string ⟨#[100,101,118,105,99,101]⟩] 9)) w2)=>(zl WJ (.cells #[.string ⟨#[100,101,118,105,99,101]⟩] 9)).trans (hb.mono (by simp)))
   go_wp2_with (first
    |((go_at_call 62)
      (first |rw[←HW.out]|skip)
      refine hny.mono ?_;rintro e w3 ⟨rfl,hw3⟩;(obtain rfl:WJ=w3:=hw3.symm))
    |((go_at_call 80)
      refine hah.mono ?_;rintro e w2 ⟨rfl,hb2'⟩;have hb2:=HMM.out w2 hb2';have M2:=MJ.below hb2 MJ.lt;have m1:=M2.cell 1;have g1:=M2.free 1;(have ml:=M2.lt)))
   have H2:=HJ.keep hb2;have S2:=SJ.trans (jX.of (cb:=cb) (V:=V) hb2);have N2:=NJ.below hb2 NJ.lt;have R2:=RJ.below hb2 RJ.lt;have H3:=H2.other ⟨w.heap.size+2,1,none⟩ hmn (λe=>absurd e.2 (Nat.not_lt.2 (Nat.le_add_right _ _))) (.int .i64 (CN:Nat));have S3:=S2.set (q:=⟨w.heap.size+2,1,none⟩) (by show w.heap.size≤w.heap.size+2;omega) (.int .i64 (CN:Nat));have N3:=N2.other (p:=⟨w.heap.size+2,1,none⟩) (by show w.heap.size≠w.heap.size+2;omega) (.int .i64 (CN:Nat));have R3:=R2.other (p:=⟨w.heap.size+2,1,none⟩) (by show w.heap.size+1≠w.heap.size+2;omega) (.int .i64 (CN:Nat));have M3:zm (w2.setCell ⟨w.heap.size+2,1,none⟩ (.int .i64 (CN:Nat))) (w.heap.size+2) 111 #[.string (bs n.op),.int .i64 (CN:Nat),.slice none 0 0]:=M2.putP 1 _;generalize w2.setCell ⟨w.heap.size+2,1,none⟩ (.int .i64 (CN:Nat))=W3 at *;have c0:=H3.has.cell 0;have n2:=N3.cell 2;simp only[qH,qG,qI]at c0 n2;clear m1 g1 ml hb2 hb2' H2 S2 N2 R2 M2 hah HMM;refine jp (S:=λwz=>wz.cell? ⟨cb,0,none⟩=some V.vd∧wz.cell? ⟨w.heap.size,2,none⟩=some (.int .i64 n.n)) 13 (by kernel_rfl) (⟨c0,n2⟩) (λhHeld=>?_);refine ja 0 (some 65) (.pointer (some ⟨cb,0,none⟩)) hHeld ?_;simp only[Act.put,zh,zf,zg];refine ja 1 (some 66) (.pointer (some ⟨cb,0,none⟩)) hHeld ?_;simp only[Act.put,zh,zf,zg];refine ja 2 (some 67) (.pointer (some ⟨cb,0,none⟩)) hHeld ?_;simp only[Act.put,zh,zf,zg];refine ja 3 (some 68) (.pointer (some ⟨cb,0,none⟩)) hHeld ?_;simp only[Act.put,zh,zf,zg];refine ja 4 (some 69) (.pointer (some ⟨cb,0,none⟩)) hHeld ?_;simp only[Act.put,zh,zf,zg];refine j3 5 (some 70) (V.vd) rfl rfl (λwz hz=>by obtain⟨z0,z1⟩:=hz;unfold execOp;go_simp) hHeld ?_;simp only[Act.put,zh,zf,zg];refine ja 6 (some 71) (.pointer (some ⟨w.heap.size,2,none⟩)) hHeld ?_;simp only[Act.put,zh,zf,zg];refine j3 7 (some 72) (.int .i64 n.n) rfl rfl (λwz hz=>by obtain⟨z0,z1⟩:=hz;unfold execOp;go_simp) hHeld ?_;simp only[Act.put,zh,zf,zg]
   have hS2:(W3.drew.alloc (.cells #[.int .i64 n.n] 3)).cell? ⟨cb,0,none⟩=some V.vd∧(W3.drew.alloc (.cells #[.int .i64 n.n] 3)).cell? ⟨w.heap.size,2,none⟩=some (.int .i64 n.n):=⟨za (zl W3.drew _) hHeld.1,za (zl W3.drew _) hHeld.2⟩
   refine zV 8 (some 73) (.slice (some ⟨W3.heap.size,0,none⟩) 1 1) (W3.drew.alloc (.cells #[.int .i64 n.n] 3)) (by kernel_rfl) rfl rfl (by rfl) (by kernel_rfl) hS2 ?_;simp only[Act.put,zh,zf,zg];have hb4:Below W3.heap.size W3 (W3.drew.alloc (.cells #[.int .i64 n.n] 3)):=(zr (Below.refl _ W3)).trans (zl W3.drew _);have G3:=H3.keep hb4;obtain⟨A6,C6,w6,hr6,hrow6,hg6,hw6⟩:=zX J2 (ty:=29) (W3.drew.alloc (.cells #[.int .i64 n.n] 3)) cb DL _ _ (by have:=G3.devs;rw[←HDL.out]at this;exact this) (by have:=G3.has.lt;omega) (by omega) [.int .i64 n.n] rfl (by intro u hu;simp at hu;subst hu;rfl) W3.heap.size (zm.new_at rfl);have N6:zm w6 w.heap.size 24 #[.string (bs n.op),.string (bs n.s),.int .i64 n.n,.int .i64 n.a,.slice A L C]:=zy ((zt N3).alloc _) hg6 (zK G3.devs ((zt N3).alloc _) (by decide));have R6:zm w6 (w.heap.size+1) 111 #[.string ⟨#[]⟩,.int .i64 0,.slice none 0 0]:=zy ((zt R3).alloc _) hg6 (zK G3.devs ((zt R3).alloc _) (by decide));have M6:=zy ((zt M3).alloc (.cells #[.int .i64 n.n] 3)) hg6 (zK G3.devs ((zt M3).alloc _) (by decide));have cb6h:=zy G3.has hg6 (zK G3.devs G3.has (by decide))
   have hS6:w6.cell? ⟨cb,0,none⟩=some V.vd∧w6.cell? ⟨w.heap.size,2,none⟩=some (.int .i64 n.n):=⟨cb6h.cell 0,N6.cell 2⟩
   refine zV 9 (some 74) (.slice A6 (DL+1) C6) w6 (by kernel_rfl) rfl rfl (by rfl) (zW _ _ rfl rfl rfl hr6) hS6 ?_;simp only[Act.put,zh,zf,zg];refine zV 10 (some 75) (.pointer (some ⟨cb,0,none⟩)) w6 (by kernel_rfl) rfl rfl (by rfl) rfl hS6 ?_;simp only[Act.put,zh,zf,zg];refine zV 11 (some 76) (.pointer (some ⟨cb,0,none⟩)) w6 (by kernel_rfl) rfl rfl (by rfl) rfl hS6 ?_;simp only[Act.put,zh,zf,zg];refine zV 12 (some 77) (.pointer (some ⟨cb,0,none⟩)) w6 (by kernel_rfl) rfl rfl (by rfl) rfl hS6 ?_;simp only[Act.put,zh,zf,zg];have q6:=cb6h.cell 0;have f6:=cb6h.free 0;refine qC 13 none (w6.setCell ⟨cb,0,none⟩ (.slice A6 (DL+1) C6)) (by kernel_rfl) rfl rfl (by rfl) (by unfold execOp;go_simp) (by kernel_rfl) ?_;simp only[Act.put];have hvn:(Value.int .i64 n.n)= .int .i64 ((n.n.toNat:Nat):Int):=by congr 1;omega
   rw[hvn]at hrow6;have hPD:=G3.putDev (A6:=A6) (C6:=C6) (d:=n.n.toNat) hg6 (by have:=hrow6;rw[HDL.out]at this;exact this) (by have:=hw6;rw[HDL.out]at this;exact this) hdv;have H4:qq (λg=>E g∧g<w.heap.size) (w6.setCell ⟨cb,0,none⟩ (.slice A6 (DL+1) C6)) cb { V with vd:= .slice A6 (DL+1) C6 } { c with jour:=some c.devs.length,devs:=c.devs++ [n.n.toNat] }:=by rw[HDL.out];exact hPD.1
   have S4:jX cb V (W3.drew.alloc (.cells #[.int .i64 n.n] 3)) { V with vd:= .slice A6 (DL+1) C6 } (w6.setCell ⟨cb,0,none⟩ (.slice A6 (DL+1) C6)):=by rw[HDL.out];exact hPD.2
   have hrn4:=(S4.inner (w.heap.size+1) (by have:=M3.lt;simp;omega) hrn).2;have S5:=(S3.trans (jX.of (cb:=cb) (V:=V) hb4)).trans S4;have R5:=R6.other (p:=⟨cb,0,none⟩) (by show w.heap.size+1≠cb;omega) (.slice A6 (DL+1) C6);have M5:=M6.other (p:=⟨cb,0,none⟩) (by show w.heap.size+2≠cb;omega) (.slice A6 (DL+1) C6);clear hPD S4;generalize w6.setCell ⟨cb,0,none⟩ (.slice A6 (DL+1) C6)=W5 at *;have m0:=M5.cell 0;have m1:=M5.cell 1;have m2:=M5.cell 2;simp only[qH,qG,qI]at m0 m1 m2;have r0:=R5.cell 0;have r1:=R5.cell 1;have r2:=R5.cell 2;simp only[qH,qG,qI]at r0 r1 r2;have g0:=R5.free 0;have g1:=R5.free 1;have g2:=R5.free 2;have rl:=R5.lt;have mlt:=M5.lt;clear q6 f6 hS6 hS2 hHeld cb6h M6 R6 N6 hrow6 hr6 hg6 hw6 G3 c0 n2 hb4
   go_wp2
   refine JR rfl rfl (R5.set3 _ _ _) rfl ?_;have S6:=S5.set3 (g:=w.heap.size+1) (by omega) (.string (bs n.op)) (.int .i64 (CN:Nat)) (.slice none 0 0);have H6:=H4.other3 (w.heap.size+1) hrn4 (λe=>absurd e.2 (Nat.not_lt.2 (Nat.le_add_right _ _))) (.string (bs n.op)) (.int .i64 (CN:Nat)) (.slice none 0 0);refine⟨S6.only,?_⟩;rw[HR.out];exact⟨.slice none 0 0,_,by rw[←HCN.out];rfl,uS rfl,H6.mono (λg _ _ he=> .inl he.1),S6⟩
 ·rw[if_pos h12]at hR
  have HR:=ze hR;have hno:=jA 134 n.a W1;rcases(by omega:¬256≤n.n∨(256≤n.n∧¬n.n≤2048))with k1|⟨k1,k2⟩
  all_goals
   clear h12 hR ho c1 nc3;unfold qD;go_enter Tryz.func64,Tryz.ntmps64
   go_wp2_with (first
    |((go_at_call 62)
      (first |rw[←HW.out]|skip)
      refine hno.mono ?_;rintro e w3 ⟨rfl,hw3⟩;(obtain rfl:W1=w3:=hw3.symm)))
   exact⟨rfl,S1.only,by rw[HR.out];rfl⟩
end
section
open Go.ChangeShapes Go.WideShapes Go.ChangeAt Go.RowKit Go.MapKept
variable {E:Nat→Prop}
theorem dQ{w:World}{cb:Nat}{V:CV}{c:Ck}(h:qq E w cb V c)(n:Nd)(A:Option Addr)(L C:Nat)(hL:L=1)(gn on:Nat)(hA:A=some ⟨gn,on,none⟩)(hgn:gn<w.heap.size)(x:List UInt8)(hnx:(zH n.l 0).s=x)(hsx:w.cell? ⟨gn,on+0*5+1,none⟩=some (.string (bs x)))(hf:∀c ∈ x,zG c=true)(ho:n.op=zM):
 Calls Tryz.prog 64 #[.pointer (some ⟨cb,0,none⟩),.agg (qD n (.slice A L C))] w (Y2 E w cb V (j9 c n)):=by
 obtain⟨W1,hW1⟩:∃W1,W1=((w.alloc (.cells #[.string (bs n.op),.string (bs n.s),.int .i64 n.n,.int .i64 n.a,.slice A L C] 24)).alloc (.cells #[.string ⟨#[]⟩,.int .i64 0,.slice none 0 0] 111)).alloc (.cells #[.string (bs n.op),.int .i64 0,.slice none 0 0] 111):=⟨_,rfl⟩
 have hb1:Below w.heap.size w W1:=by rw[hW1];exact Z6 _ _ _
 have N1:zm W1 w.heap.size 24 #[.string (bs n.op),.string (bs n.s),.int .i64 n.n,.int .i64 n.a,.slice A L C]:=by rw[hW1];exact((zm.new w _ _).alloc _).alloc _
 have R1:zm W1 (w.heap.size+1) 111 #[.string ⟨#[]⟩,.int .i64 0,.slice none 0 0]:=by rw[hW1];exact(zm.new_at (by simp)).alloc _
 have M1:zm W1 (w.heap.size+2) 111 #[.string (bs n.op),.int .i64 0,.slice none 0 0]:=by rw[hW1];exact zm.new_at (by simp)
 have h1:=(Jz h).keep hb1;have S1:jX cb V w V W1:=jX.of hb1;have HW:=ze hW1;have lcb:=h.has.lt;have hrn:¬V.own cb (w.heap.size+1):=λe=>by have:=(h.low e).2;omega
 have hmn:¬V.own cb (w.heap.size+2):=λe=>by have:=(h.low e).2;omega
 have hot:=zp n.op;have f0:(n.op== [106,111,117,114,110,97,108])=false:=by rw[ho];decide
 have f1:(n.op== [100,101,118,105,99,101])=false:=by rw[ho];decide
 have f2:(n.op== [107,101,121])=true:=by rw[ho];decide
 have f3:(n.op== [114,111,111,116])=false:=by rw[ho];decide
 have f4:(n.op== [118,111,108,117,109,101])=false:=by rw[ho];decide
 have hR:j9 c n=if x.length≠64 then .error (135,n.a)else .ok (c,⟨n.op,0,qw x⟩):=by
  unfold j9;rw[if_neg (show ¬n.op=zq by rw[ho];decide),if_neg (show ¬n.op=zn by rw[ho];decide),if_pos (show n.op=zM∨n.op=zN by first |exact .inl ho|exact .inr ho),hnx]
 subst hL hA;have sxr:=za hb1 hsx;have nc4:=N1.cell 4;have nc3:=N1.cell 3;simp only[qH,qG,qI]at nc3 nc4
 obtain⟨X,hX⟩:∃X,X=x.length:=⟨_,rfl⟩
 have HX:=ze (show(bs x).size=X by rw[hX];exact zJ x);have hxs:=zp x;clear hW1;by_cases h64:x.length=64
 ·have hX64:(((X:Nat):Int)==64)=true:=by rw[hX,h64];rfl
  rw[if_neg (not_not_intro h64)]at hR;have HR:=ze hR;have HU:=ze (λW=>gF x W h64 hf);have HUL:=ze (QY 32 x (by omega));clear hR ho hX h64;unfold qD;go_enter Tryz.func64,Tryz.ntmps64
  go_wp2
  rw[←HW.out];refine wp_region_held_drew (S:=λwz=>Below W1.heap.size W1 wz) (by kernel_rfl) ((Below.refl _ W1).drew) (λhHeld=>?_);refine zw 0 (some 78) (.pointer (some ⟨w.heap.size,4,none⟩)) hHeld ?_;simp only[Act.put,zh,zf,zg];refine zD 1 (some 79) (.slice (some ⟨gn,on,none⟩) 1 C) rfl rfl (λwz hz=>by have z0:=za hz nc4;unfold execOp;go_simp) hHeld ?_;simp only[Act.put,zh,zf,zg];refine zD 2 (some 80) (.pointer (some ⟨gn,on+0*5,none⟩)) rfl rfl (λwz _=>zu _ _ rfl gn on 0 1 C rfl rfl (by decide) wz) hHeld ?_;simp only[Act.put,zh,zf,zg];refine zw 3 (some 81) (.pointer (some ⟨gn,on+0*5+1,none⟩)) hHeld ?_;simp only[Act.put,zh,zf,zg];refine zD 4 (some 82) (.string (bs x)) rfl rfl (λwz hz=>by have z0:=za hz sxr;unfold execOp;go_simp) hHeld ?_;simp only[Act.put,zh,zf,zg];refine zD 5 (some 83) (.int .i64 (X:Nat)) rfl rfl (λwz _=>by unfold execOp;go_simp;rw[HX.out]) hHeld ?_;simp only[Act.put,zh,zf,zg];refine zD 6 (some 84) (.bool true) rfl rfl (λwz _=>y4 _ 64 rfl (X:Nat) rfl true hX64 wz) hHeld ?_;simp only[Act.put,zh,zf,zg];refine zw 7 (some 85) (.pointer (some ⟨w.heap.size,3,none⟩)) hHeld ?_;simp only[Act.put,zh,zf,zg];refine zD 8 (some 86) (.int .i64 n.a) rfl rfl (λwz hz=>by have z0:=za hz nc3;unfold execOp;go_simp) hHeld ?_;simp only[Act.put,zh,zf,zg];refine jn 9 (some 87) 62 #[.bool true,.int .i64 135,.int .i64 n.a] (by kernel_rfl) rfl rfl (by rfl) (by kernel_rfl) (qL 135 n.a W1.drew) ?_;rintro e w5 ⟨rfl,rfl⟩;refine .inl ⟨_,rfl,hHeld,?_⟩;simp only[Act.put,zh,zf,zg];refine wpAnyH_done (by kernel_rfl) ?_ _;have hbd:Below W1.heap.size W1 W1.drew:=zr (Below.refl _ W1);have H2:=h1.keep hbd;have S2:=S1.trans (jX.of (cb:=cb) (V:=V) hbd);have N2:=zt N1;have R2:=zt R1;have M2:=zt M1;replace sxr:=za hbd sxr;replace nc4:=za hbd nc4;have hg2:gn<W1.drew.heap.size:=Nat.lt_of_lt_of_le hgn (Nat.le_trans hb1.size hbd.size);clear hHeld nc3 h1 S1 N1 R1 M1 hb1 HW hbd;generalize W1.drew=W2 at *;have nl2:=N2.lt;have hux:=HU.out W2
  go_wp2_with (first
   |((refine zi 90 rfl ?_)
     (refine zd (some 90) (.pointer (some ⟨gn,on+0*5,none⟩)) rfl (by rfl) (zu _ _ rfl gn on 0 1 C rfl rfl (by decide) W2) ?_))
   |((go_at_call 81)
     refine hux.mono ?_;rintro e w5 ⟨v,rfl,⟨Av,Cv,rfl,hv1,hv2,hvb⟩,hb5⟩;rw[HUL.out]at hv1 ⊢;have M5:=M2.below hb5 M2.lt;have R5:=R2.below hb5 R2.lt;have m0:=M5.cell 0;have m1:=M5.cell 1;have m2:=M5.cell 2;have r0:=R5.cell 0;have r1:=R5.cell 1;have r2:=R5.cell 2;simp only[qH,qG,qI]at m0 m1 m2 r0 r1 r2;have mf:=M5.free 2;have ml:=M5.lt;have g0:=R5.free 0;have g1:=R5.free 1;have g2:=R5.free 2;(have rl:=R5.lt)))
  have H5:=H2.keep hb5;have S5:=S2.trans (jX.of (cb:=cb) (V:=V) hb5);have H6:=H5.other ⟨w.heap.size+2,2,none⟩ hmn (λe=>absurd e.2 (Nat.not_lt.2 (Nat.le_add_right _ _))) (.slice Av 32 Cv);have S6:=S5.set (q:=⟨w.heap.size+2,2,none⟩) (by show w.heap.size≤w.heap.size+2;omega) (.slice Av 32 Cv);have R6:=R5.other (p:=⟨w.heap.size+2,2,none⟩) (by show w.heap.size+1≠w.heap.size+2;omega) (.slice Av 32 Cv);have rl2:=M2.lt;have hvb6:jK (w5.setCell ⟨w.heap.size+2,2,none⟩ (.slice Av 32 Cv)) (λg=>W2.heap.size≤g) Av (qw x):=hvb.keep (by simp) (λk hk hP=>⟨Below.heap_setCell w5 _ _ k (by show k≠w.heap.size+2;omega),hP⟩);refine JR rfl rfl (R6.set3 _ _ _) rfl ?_;have S7:=S6.set3 (g:=w.heap.size+1) (by omega) (.string (bs n.op)) (.int .i64 0) (.slice Av 32 Cv);have H7:=H6.other3 (w.heap.size+1) hrn (λe=>absurd e.2 (Nat.not_lt.2 (Nat.le_add_right _ _))) (.string (bs n.op)) (.int .i64 0) (.slice Av 32 Cv);refine⟨S7.only,?_⟩;rw[HR.out];refine⟨.slice Av 32 Cv,V,rfl,⟨Av,Cv,by rw[HUL.out],by rw[HUL.out];exact hv1,hv2,?_⟩,H7.mono (λg _ _ he=> .inl he.1),S7⟩;refine hvb6.keep (by simp) (λk hk hP=>⟨?_,λe=>?_,.inr ?_⟩)
  ·have hne:k≠w.heap.size+1:=by omega
   exact(Below.heap_setCell _ ⟨w.heap.size+1,2,none⟩ _ k hne).trans ((Below.heap_setCell _ ⟨w.heap.size+1,1,none⟩ _ k hne).trans (Below.heap_setCell _ ⟨w.heap.size+1,0,none⟩ _ k hne))
  ·have:=(h.low e).2;omega
  ·omega
 ·have hX64:(((X:Nat):Int)==64)=false:=by rw[beq_eq_false_iff_ne];omega
  rw[if_pos h64]at hR;have HR:=ze hR;clear hR ho hX;unfold qD;go_enter Tryz.func64,Tryz.ntmps64
  go_wp2
  rw[←HW.out];refine wp_region_held_drew (S:=λwz=>Below W1.heap.size W1 wz) (by kernel_rfl) ((Below.refl _ W1).drew) (λhHeld=>?_);refine zw 0 (some 78) (.pointer (some ⟨w.heap.size,4,none⟩)) hHeld ?_;simp only[Act.put,zh,zf,zg];refine zD 1 (some 79) (.slice (some ⟨gn,on,none⟩) 1 C) rfl rfl (λwz hz=>by have z0:=za hz nc4;unfold execOp;go_simp) hHeld ?_;simp only[Act.put,zh,zf,zg];refine zD 2 (some 80) (.pointer (some ⟨gn,on+0*5,none⟩)) rfl rfl (λwz _=>zu _ _ rfl gn on 0 1 C rfl rfl (by decide) wz) hHeld ?_;simp only[Act.put,zh,zf,zg];refine zw 3 (some 81) (.pointer (some ⟨gn,on+0*5+1,none⟩)) hHeld ?_;simp only[Act.put,zh,zf,zg];refine zD 4 (some 82) (.string (bs x)) rfl rfl (λwz hz=>by have z0:=za hz sxr;unfold execOp;go_simp) hHeld ?_;simp only[Act.put,zh,zf,zg];refine zD 5 (some 83) (.int .i64 (X:Nat)) rfl rfl (λwz _=>by unfold execOp;go_simp;rw[HX.out]) hHeld ?_;simp only[Act.put,zh,zf,zg];refine zD 6 (some 84) (.bool false) rfl rfl (λwz _=>y4 _ 64 rfl (X:Nat) rfl false hX64 wz) hHeld ?_;simp only[Act.put,zh,zf,zg];refine zw 7 (some 85) (.pointer (some ⟨w.heap.size,3,none⟩)) hHeld ?_;simp only[Act.put,zh,zf,zg];refine zD 8 (some 86) (.int .i64 n.a) rfl rfl (λwz hz=>by have z0:=za hz nc3;unfold execOp;go_simp) hHeld ?_;simp only[Act.put,zh,zf,zg];refine jn 9 (some 87) 62 #[.bool false,.int .i64 135,.int .i64 n.a] (by kernel_rfl) rfl rfl (by rfl) (by kernel_rfl) (jA 135 n.a W1.drew) ?_;rintro e w5 ⟨rfl,rfl⟩;refine .inr ⟨_,rfl,?_⟩;exact⟨rfl,S1.only.drew,by rw[HR.out];rfl⟩
theorem FO{w:World}{cb:Nat}{V:CV}{c:Ck}(h:qq E w cb V c)(n:Nd)(A:Option Addr)(L C:Nat)(hL:L=1)(gn on:Nat)(hA:A=some ⟨gn,on,none⟩)(hgn:gn<w.heap.size)(x:List UInt8)(hnx:(zH n.l 0).s=x)(hsx:w.cell? ⟨gn,on+0*5+1,none⟩=some (.string (bs x)))(hf:∀c ∈ x,zG c=true)(ho:n.op=zN):
 Calls Tryz.prog 64 #[.pointer (some ⟨cb,0,none⟩),.agg (qD n (.slice A L C))] w (Y2 E w cb V (j9 c n)):=by
 obtain⟨W1,hW1⟩:∃W1,W1=((w.alloc (.cells #[.string (bs n.op),.string (bs n.s),.int .i64 n.n,.int .i64 n.a,.slice A L C] 24)).alloc (.cells #[.string ⟨#[]⟩,.int .i64 0,.slice none 0 0] 111)).alloc (.cells #[.string (bs n.op),.int .i64 0,.slice none 0 0] 111):=⟨_,rfl⟩
 have hb1:Below w.heap.size w W1:=by rw[hW1];exact Z6 _ _ _
 have N1:zm W1 w.heap.size 24 #[.string (bs n.op),.string (bs n.s),.int .i64 n.n,.int .i64 n.a,.slice A L C]:=by rw[hW1];exact((zm.new w _ _).alloc _).alloc _
 have R1:zm W1 (w.heap.size+1) 111 #[.string ⟨#[]⟩,.int .i64 0,.slice none 0 0]:=by rw[hW1];exact(zm.new_at (by simp)).alloc _
 have M1:zm W1 (w.heap.size+2) 111 #[.string (bs n.op),.int .i64 0,.slice none 0 0]:=by rw[hW1];exact zm.new_at (by simp)
 have h1:=(Jz h).keep hb1;have S1:jX cb V w V W1:=jX.of hb1;have HW:=ze hW1;have lcb:=h.has.lt;have hrn:¬V.own cb (w.heap.size+1):=λe=>by have:=(h.low e).2;omega
 have hmn:¬V.own cb (w.heap.size+2):=λe=>by have:=(h.low e).2;omega
 have hot:=zp n.op;have f0:(n.op== [106,111,117,114,110,97,108])=false:=by rw[ho];decide
 have f1:(n.op== [100,101,118,105,99,101])=false:=by rw[ho];decide
 have f2:(n.op== [107,101,121])=false:=by rw[ho];decide
 have f3:(n.op== [114,111,111,116])=true:=by rw[ho];decide
 have f4:(n.op== [118,111,108,117,109,101])=false:=by rw[ho];decide
 have hR:j9 c n=if x.length≠64 then .error (135,n.a)else .ok (c,⟨n.op,0,qw x⟩):=by
  unfold j9;rw[if_neg (show ¬n.op=zq by rw[ho];decide),if_neg (show ¬n.op=zn by rw[ho];decide),if_pos (show n.op=zM∨n.op=zN by first |exact .inl ho|exact .inr ho),hnx]
 subst hL hA;have sxr:=za hb1 hsx;have nc4:=N1.cell 4;have nc3:=N1.cell 3;simp only[qH,qG,qI]at nc3 nc4
 obtain⟨X,hX⟩:∃X,X=x.length:=⟨_,rfl⟩
 have HX:=ze (show(bs x).size=X by rw[hX];exact zJ x);have hxs:=zp x;clear hW1;by_cases h64:x.length=64
 ·have hX64:(((X:Nat):Int)==64)=true:=by rw[hX,h64];rfl
  rw[if_neg (not_not_intro h64)]at hR;have HR:=ze hR;have HU:=ze (λW=>gF x W h64 hf);have HUL:=ze (QY 32 x (by omega));clear hR ho hX h64;unfold qD;go_enter Tryz.func64,Tryz.ntmps64
  go_wp2
  rw[←HW.out];refine wp_region_held_drew (S:=λwz=>Below W1.heap.size W1 wz) (by kernel_rfl) ((Below.refl _ W1).drew) (λhHeld=>?_);refine zw 0 (some 78) (.pointer (some ⟨w.heap.size,4,none⟩)) hHeld ?_;simp only[Act.put,zh,zf,zg];refine zD 1 (some 79) (.slice (some ⟨gn,on,none⟩) 1 C) rfl rfl (λwz hz=>by have z0:=za hz nc4;unfold execOp;go_simp) hHeld ?_;simp only[Act.put,zh,zf,zg];refine zD 2 (some 80) (.pointer (some ⟨gn,on+0*5,none⟩)) rfl rfl (λwz _=>zu _ _ rfl gn on 0 1 C rfl rfl (by decide) wz) hHeld ?_;simp only[Act.put,zh,zf,zg];refine zw 3 (some 81) (.pointer (some ⟨gn,on+0*5+1,none⟩)) hHeld ?_;simp only[Act.put,zh,zf,zg];refine zD 4 (some 82) (.string (bs x)) rfl rfl (λwz hz=>by have z0:=za hz sxr;unfold execOp;go_simp) hHeld ?_;simp only[Act.put,zh,zf,zg];refine zD 5 (some 83) (.int .i64 (X:Nat)) rfl rfl (λwz _=>by unfold execOp;go_simp;rw[HX.out]) hHeld ?_;simp only[Act.put,zh,zf,zg];refine zD 6 (some 84) (.bool true) rfl rfl (λwz _=>y4 _ 64 rfl (X:Nat) rfl true hX64 wz) hHeld ?_;simp only[Act.put,zh,zf,zg];refine zw 7 (some 85) (.pointer (some ⟨w.heap.size,3,none⟩)) hHeld ?_;simp only[Act.put,zh,zf,zg];refine zD 8 (some 86) (.int .i64 n.a) rfl rfl (λwz hz=>by have z0:=za hz nc3;unfold execOp;go_simp) hHeld ?_;simp only[Act.put,zh,zf,zg];refine jn 9 (some 87) 62 #[.bool true,.int .i64 135,.int .i64 n.a] (by kernel_rfl) rfl rfl (by rfl) (by kernel_rfl) (qL 135 n.a W1.drew) ?_;rintro e w5 ⟨rfl,rfl⟩;refine .inl ⟨_,rfl,hHeld,?_⟩;simp only[Act.put,zh,zf,zg];refine wpAnyH_done (by kernel_rfl) ?_ _;have hbd:Below W1.heap.size W1 W1.drew:=zr (Below.refl _ W1);have H2:=h1.keep hbd;have S2:=S1.trans (jX.of (cb:=cb) (V:=V) hbd);have N2:=zt N1;have R2:=zt R1;have M2:=zt M1;replace sxr:=za hbd sxr;replace nc4:=za hbd nc4;have hg2:gn<W1.drew.heap.size:=Nat.lt_of_lt_of_le hgn (Nat.le_trans hb1.size hbd.size);clear hHeld nc3 h1 S1 N1 R1 M1 hb1 HW hbd;generalize W1.drew=W2 at *;have nl2:=N2.lt;have hux:=HU.out W2
  go_wp2_with (first
   |((refine zi 90 rfl ?_)
     (refine zd (some 90) (.pointer (some ⟨gn,on+0*5,none⟩)) rfl (by rfl) (zu _ _ rfl gn on 0 1 C rfl rfl (by decide) W2) ?_))
   |((go_at_call 81)
     refine hux.mono ?_;rintro e w5 ⟨v,rfl,⟨Av,Cv,rfl,hv1,hv2,hvb⟩,hb5⟩;rw[HUL.out]at hv1 ⊢;have M5:=M2.below hb5 M2.lt;have R5:=R2.below hb5 R2.lt;have m0:=M5.cell 0;have m1:=M5.cell 1;have m2:=M5.cell 2;have r0:=R5.cell 0;have r1:=R5.cell 1;have r2:=R5.cell 2;simp only[qH,qG,qI]at m0 m1 m2 r0 r1 r2;have mf:=M5.free 2;have ml:=M5.lt;have g0:=R5.free 0;have g1:=R5.free 1;have g2:=R5.free 2;(have rl:=R5.lt)))
  have H5:=H2.keep hb5;have S5:=S2.trans (jX.of (cb:=cb) (V:=V) hb5);have H6:=H5.other ⟨w.heap.size+2,2,none⟩ hmn (λe=>absurd e.2 (Nat.not_lt.2 (Nat.le_add_right _ _))) (.slice Av 32 Cv);have S6:=S5.set (q:=⟨w.heap.size+2,2,none⟩) (by show w.heap.size≤w.heap.size+2;omega) (.slice Av 32 Cv);have R6:=R5.other (p:=⟨w.heap.size+2,2,none⟩) (by show w.heap.size+1≠w.heap.size+2;omega) (.slice Av 32 Cv);have rl2:=M2.lt;have hvb6:jK (w5.setCell ⟨w.heap.size+2,2,none⟩ (.slice Av 32 Cv)) (λg=>W2.heap.size≤g) Av (qw x):=hvb.keep (by simp) (λk hk hP=>⟨Below.heap_setCell w5 _ _ k (by show k≠w.heap.size+2;omega),hP⟩);refine JR rfl rfl (R6.set3 _ _ _) rfl ?_;have S7:=S6.set3 (g:=w.heap.size+1) (by omega) (.string (bs n.op)) (.int .i64 0) (.slice Av 32 Cv);have H7:=H6.other3 (w.heap.size+1) hrn (λe=>absurd e.2 (Nat.not_lt.2 (Nat.le_add_right _ _))) (.string (bs n.op)) (.int .i64 0) (.slice Av 32 Cv);refine⟨S7.only,?_⟩;rw[HR.out];refine⟨.slice Av 32 Cv,V,rfl,⟨Av,Cv,by rw[HUL.out],by rw[HUL.out];exact hv1,hv2,?_⟩,H7.mono (λg _ _ he=> .inl he.1),S7⟩;refine hvb6.keep (by simp) (λk hk hP=>⟨?_,λe=>?_,.inr ?_⟩)
  ·have hne:k≠w.heap.size+1:=by omega
   exact(Below.heap_setCell _ ⟨w.heap.size+1,2,none⟩ _ k hne).trans ((Below.heap_setCell _ ⟨w.heap.size+1,1,none⟩ _ k hne).trans (Below.heap_setCell _ ⟨w.heap.size+1,0,none⟩ _ k hne))
  ·have:=(h.low e).2;omega
  ·omega
 ·have hX64:(((X:Nat):Int)==64)=false:=by rw[beq_eq_false_iff_ne];omega
  rw[if_pos h64]at hR;have HR:=ze hR;clear hR ho hX;unfold qD;go_enter Tryz.func64,Tryz.ntmps64
  go_wp2
  rw[←HW.out];refine wp_region_held_drew (S:=λwz=>Below W1.heap.size W1 wz) (by kernel_rfl) ((Below.refl _ W1).drew) (λhHeld=>?_);refine zw 0 (some 78) (.pointer (some ⟨w.heap.size,4,none⟩)) hHeld ?_;simp only[Act.put,zh,zf,zg];refine zD 1 (some 79) (.slice (some ⟨gn,on,none⟩) 1 C) rfl rfl (λwz hz=>by have z0:=za hz nc4;unfold execOp;go_simp) hHeld ?_;simp only[Act.put,zh,zf,zg];refine zD 2 (some 80) (.pointer (some ⟨gn,on+0*5,none⟩)) rfl rfl (λwz _=>zu _ _ rfl gn on 0 1 C rfl rfl (by decide) wz) hHeld ?_;simp only[Act.put,zh,zf,zg];refine zw 3 (some 81) (.pointer (some ⟨gn,on+0*5+1,none⟩)) hHeld ?_;simp only[Act.put,zh,zf,zg];refine zD 4 (some 82) (.string (bs x)) rfl rfl (λwz hz=>by have z0:=za hz sxr;unfold execOp;go_simp) hHeld ?_;simp only[Act.put,zh,zf,zg];refine zD 5 (some 83) (.int .i64 (X:Nat)) rfl rfl (λwz _=>by unfold execOp;go_simp;rw[HX.out]) hHeld ?_;simp only[Act.put,zh,zf,zg];refine zD 6 (some 84) (.bool false) rfl rfl (λwz _=>y4 _ 64 rfl (X:Nat) rfl false hX64 wz) hHeld ?_;simp only[Act.put,zh,zf,zg];refine zw 7 (some 85) (.pointer (some ⟨w.heap.size,3,none⟩)) hHeld ?_;simp only[Act.put,zh,zf,zg];refine zD 8 (some 86) (.int .i64 n.a) rfl rfl (λwz hz=>by have z0:=za hz nc3;unfold execOp;go_simp) hHeld ?_;simp only[Act.put,zh,zf,zg];refine jn 9 (some 87) 62 #[.bool false,.int .i64 135,.int .i64 n.a] (by kernel_rfl) rfl rfl (by rfl) (by kernel_rfl) (jA 135 n.a W1.drew) ?_;rintro e w5 ⟨rfl,rfl⟩;refine .inr ⟨_,rfl,?_⟩;exact⟨rfl,S1.only.drew,by rw[HR.out];rfl⟩
end
section
open Go.ChangeShapes Go.WideShapes Go.ChangeAt Go.RowKit Go.MapKept
variable {E:Nat→Prop}
theorem UQ{w:World}{cb:Nat}{V:CV}{c:Ck}(h:qq E w cb V c)(n:Nd)(A:Option Addr)(L C:Nat)(hL:L=1)(w0:World)(gn on:Nat)(hA:A=some ⟨gn,on,none⟩)(hgn:gn<w.heap.size)(x:Nd)(An:Option Addr)(Cn:Nat)(hnx:zH n.l 0=x)(hat:yO w gn (on+0*5) x An Cn)(hrx:jZ w0 x An Cn)(hcb:w0.heap.size≤cb-1)(hb0:Below w0.heap.size w0 w)(hxr:gB 12 x)(hxc:dn cb w0 12)(hnm:yH c.names c.parts)(hby:∀x ∈ c.names,x.2.bytes.length≤1000)(ho:n.op=zB):
 Calls Tryz.prog 64 #[.pointer (some ⟨cb,0,none⟩),.agg (qD n (.slice A L C))] w (Y2 E w cb V (j9 c n)):=by
 obtain⟨W1,hW1⟩:∃W1,W1=((w.alloc (.cells #[.string (bs n.op),.string (bs n.s),.int .i64 n.n,.int .i64 n.a,.slice A L C] 24)).alloc (.cells #[.string ⟨#[]⟩,.int .i64 0,.slice none 0 0] 111)).alloc (.cells #[.string (bs n.op),.int .i64 0,.slice none 0 0] 111):=⟨_,rfl⟩
 have hb1:Below w.heap.size w W1:=by rw[hW1];exact Z6 _ _ _
 have N1:zm W1 w.heap.size 24 #[.string (bs n.op),.string (bs n.s),.int .i64 n.n,.int .i64 n.a,.slice A L C]:=by rw[hW1];exact((zm.new w _ _).alloc _).alloc _
 have R1:zm W1 (w.heap.size+1) 111 #[.string ⟨#[]⟩,.int .i64 0,.slice none 0 0]:=by rw[hW1];exact(zm.new_at (by simp)).alloc _
 have M1:zm W1 (w.heap.size+2) 111 #[.string (bs n.op),.int .i64 0,.slice none 0 0]:=by rw[hW1];exact zm.new_at (by simp)
 have h1:=(Jz h).keep hb1;have S1:jX cb V w V W1:=jX.of hb1;have HW:=ze hW1;have lcb:=h.has.lt;have hrn:¬V.own cb (w.heap.size+1):=λe=>by have:=(h.low e).2;omega
 have hmn:¬V.own cb (w.heap.size+2):=λe=>by have:=(h.low e).2;omega
 have hot:=zp n.op;have f0:(n.op== [106,111,117,114,110,97,108])=false:=by rw[ho];decide
 have f1:(n.op== [100,101,118,105,99,101])=false:=by rw[ho];decide
 have f2:(n.op== [107,101,121])=false:=by rw[ho];decide
 have f3:(n.op== [114,111,111,116])=false:=by rw[ho];decide
 have f4:(n.op== [118,111,108,117,109,101])=true:=by rw[ho];decide
 have hR:j9 c n=match jb c.names 12 c.parts x with | .error e=> .error e| .ok (k,ps)=> .ok ({ c with parts:=ps },⟨n.op,k,[]⟩):=by
  unfold j9;rw[if_neg (show ¬n.op=zq by rw[ho];decide),if_neg (show ¬n.op=zn by rw[ho];decide),if_neg (show ¬(n.op=zM∨n.op=zN) by rw[ho];decide),hnx];rfl
 subst hL hA;have hat1:yO W1 gn (on+0*5) x An Cn:=λj hj=>(hb1.cell (p:=⟨gn,on+0*5+j,none⟩) hgn).trans (hat j hj)
 have hcx:=hxc _ W1 V c x An Cn h1 hrx hcb (hb0.trans (hb1.mono hb0.size)) hxr hnm hby;have nc4:=N1.cell 4;have nl1:=N1.lt;simp only[qH,qG,qI]at nc4;clear hW1;cases hX:jb c.names 12 c.parts x with
 |error er =>
  obtain⟨ec,ek⟩:=er;rw[hX]at hR hcx;have HR:=ze hR;clear hR ho hX;unfold qD at hcx;unfold qD;go_enter Tryz.func64,Tryz.ntmps64
  go_wp2_with (first
   |((refine zi 97 rfl ?_)
     rw[←HW.out];(refine zd (some 97) (.slice (some ⟨gn,on,none⟩) 1 C) rfl (by rfl) (by unfold execOp;go_simp) ?_))
   |((refine zi 98 rfl ?_)
     (refine zd (some 98) (.pointer (some ⟨gn,on+0*5,none⟩)) rfl (by rfl) (zu _ _ rfl gn on 0 1 C rfl rfl (by decide) W1) ?_))
   |((refine zi 99 rfl ?_)
     refine zd (some 99) _ rfl (by rfl) (zC _ rfl gn (on+0*5) rfl W1 hat1) ?_;(unfold zO))
   |((go_at_call 82)
     refine hcx.mono ?_;(rintro e w5 ⟨ho5,rfl⟩)))
  exact⟨rfl,S1.only.trans ho5,by rw[HR.out]⟩
 |ok r =>
  obtain⟨k,ps⟩:=r;rw[hX]at hR hcx;have HR:=ze hR;clear hR ho hX;unfold qD at hcx;unfold qD;go_enter Tryz.func64,Tryz.ntmps64
  go_wp2_with (first
   |((refine zi 97 rfl ?_)
     rw[←HW.out];(refine zd (some 97) (.slice (some ⟨gn,on,none⟩) 1 C) rfl (by rfl) (by unfold execOp;go_simp) ?_))
   |((refine zi 98 rfl ?_)
     (refine zd (some 98) (.pointer (some ⟨gn,on+0*5,none⟩)) rfl (by rfl) (zu _ _ rfl gn on 0 1 C rfl rfl (by decide) W1) ?_))
   |((refine zi 99 rfl ?_)
     refine zd (some 99) _ rfl (by rfl) (zC _ rfl gn (on+0*5) rfl W1 hat1) ?_;(unfold zO))
   |((go_at_call 82)
     refine hcx.mono ?_;rintro e w5 ⟨ho5,rfl,V5,H5,S5⟩;have M5:zm w5 (w.heap.size+2) 111 #[.string (bs n.op),.int .i64 0,.slice none 0 0]:=(S5.inner _ M1.lt hmn).1.trans M1;have R5:zm w5 (w.heap.size+1) 111 #[.string ⟨#[]⟩,.int .i64 0,.slice none 0 0]:=(S5.inner _ R1.lt hrn).1.trans R1;have m0:=M5.cell 0;have m1:=M5.cell 1;have m2:=M5.cell 2;have r0:=R5.cell 0;have r1:=R5.cell 1;have r2:=R5.cell 2;simp only[qH,qG,qI]at m0 m1 m2 r0 r1 r2;have mf:=M5.free 1;have ml:=M5.lt;have g0:=R5.free 0;have g1:=R5.free 1;have g2:=R5.free 2;(have rl:=R5.lt)))
  have hmn5:=(S5.inner _ M1.lt hmn).2;have hrn5:=(S5.inner _ R1.lt hrn).2;have lm1:=M1.lt
  have H6:=(H5.mono (E':=λg=>(E g∧g<w.heap.size)∨w.heap.size+2<g) (λg _ _ he=>by
   rcases he with he|he
   ·exact .inl he
   ·exact .inr (by omega))).other ⟨w.heap.size+2,1,none⟩ hmn5 (λe=>by
    rcases e with e|e
    ·exact absurd e.2 (Nat.not_lt.2 (Nat.le_add_right _ _))
    ·exact absurd e (Nat.lt_irrefl _)) (.int .i64 (k:Nat))
  have S6:=(S1.trans S5).set (q:=⟨w.heap.size+2,1,none⟩) (by show w.heap.size≤w.heap.size+2;omega) (.int .i64 (k:Nat));have R6:=R5.other (p:=⟨w.heap.size+2,1,none⟩) (by show w.heap.size+1≠w.heap.size+2;omega) (.int .i64 (k:Nat));refine JR rfl rfl (R6.set3 _ _ _) rfl ?_;have S7:=S6.set3 (g:=w.heap.size+1) (by omega) (.string (bs n.op)) (.int .i64 (k:Nat)) (.slice none 0 0)
  have H7:=H6.other3 (w.heap.size+1) hrn5 (λe=>by
   rcases e with e|e
   ·exact absurd e.2 (Nat.not_lt.2 (Nat.le_add_right _ _))
   ·exact absurd e (by show ¬w.heap.size+2<w.heap.size+1;omega)) (.string (bs n.op)) (.int .i64 (k:Nat)) (.slice none 0 0)
  refine⟨S7.only,?_⟩;rw[HR.out]
  exact⟨.slice none 0 0,V5,rfl,uS rfl,H7.mono (λg _ _ he=>by
   rcases he with he|he
   ·exact .inl he.1
   ·exact .inr (by omega)),S7⟩
end
section
open Go.ChangeShapes Go.WideShapes Go.ChangeAt Go.RowKit Go.MapKept
variable {E:Nat→Prop}
theorem DG{w:World}{cb:Nat}{V:CV}{c:Ck}(h:qq E w cb V c)(n:Nd)(A:Option Addr)(L C d:Nat)(ho:n.op=vK):Calls Tryz.prog 82 #[.pointer (some ⟨cb,0,none⟩),.agg (qD n (.slice A L C))] w (zbO E w cb V c (jb c.names (d+1) c.parts n)):=by
 have hR:jb c.names (d+1) c.parts n=match jk c.names n [zn,zB]with | .error e=> .error e| .ok m=> .ok (m.node,c.parts):=by
  show(if n.op=vK then _ else _)=_;rw[if_pos ho];rfl
 rw[hR];have f0:(n.op== [117,115,101])=true:=by rw[ho];decide
 have hot:=zp n.op
 obtain⟨W1,hW1⟩:∃W1,W1=(w.alloc (.cells #[.string (bs n.op),.string (bs n.s),.int .i64 n.n,.int .i64 n.a,.slice A L C] 24)).alloc (.cells #[.string ⟨#[100,101,118,105,99,101]⟩,.string ⟨#[118,111,108,117,109,101]⟩] 9):=⟨_,rfl⟩
 have hb1:Below w.heap.size w W1:=by rw[hW1];exact yr w _ _
 have hkn:=Kq (h.keep hb1) n A L C [zn,zB] (.slice (some ⟨w.heap.size+1,0,none⟩) 2 2) (.inr ⟨w.heap.size+1,rfl,by rw[hW1];exact zm.new_at (by simp)⟩) (by simp);rw[hW1]at hkn;have HW:Hid (W1=(w.alloc (.cells #[.string (bs n.op),.string (bs n.s),.int .i64 n.n,.int .i64 n.a,.slice A L C] 24)).alloc (.cells #[.string ⟨#[100,101,118,105,99,101]⟩,.string ⟨#[118,111,108,117,109,101]⟩] 9)):=hW1;clear hW1 hR ho;cases hK:jk c.names n [zn,zB]with
 |error er =>
  obtain⟨ec,ek⟩:=er;rw[hK]at hkn;clear hK;unfold qD at hkn ⊢;go_enter Tryz.func82,Tryz.ntmps82
  go_wp2_with (first
   |((go_at_call 79)
     refine hkn.mono ?_;(rintro e w2 ⟨hb2,rfl⟩)))
  rw[←HW.out]at hb2;exact⟨rfl,.of (hb1.trans (hb2.mono hb1.size)),rfl⟩
 |ok m =>
  rw[hK]at hkn;clear hK;unfold qD at hkn ⊢;go_enter Tryz.func82,Tryz.ntmps82
  go_wp2_with (first
   |((go_at_call 79)
     refine hkn.mono ?_;rintro e w2 ⟨hb2,Am,Cm,rfl,hm1,hm2,hbp⟩;(unfold Uc))
   |((refine zi 16 rfl ?_)
     (refine zd (some 16) (.int .i64 (m.node:Nat)) rfl (by rfl) (by kernel_rfl) ?_)))
  go_ret
  rw[←HW.out]at hb2;have hb02:Below w.heap.size w w2:=hb1.trans (hb2.mono hb1.size);exact⟨.of hb02,rfl,V,(h.keep hb02).mono (λk _ _ he=> .inl he),jX.of hb02⟩
end
section
open Go.ChangeShapes Go.WideShapes Go.ChangeAt Go.RowKit Go.MapKept
structure Ul (E:Nat→Prop) (W1 wr:World) (cb:Nat) (V V':CV) (c:Ck) (d:Nat) (l:List Nd) (i:Nat) (v:Value) (ks:List Nat) (ps:List Pt):Prop where
 is:jz (jb c.names d) c.parts ((l.take i).filter λx=> !(x.op==vu||x.op==jM))= .ok (ks,ps)
 row:wr.ownsRow W1.heap.size 3 1 v ks.length (ks.map λk=> .int .i64 (k:Nat))
 free:∀g,v.ownBlock=some g→¬V'.own cb g
 ck:qq (λg=>(E g∨W1.heap.size≤g)∧v.ownBlock≠some g) wr cb V' { c with parts:=ps }
 stp:jX cb V W1 V' wr
 nms:yH c.names ps
theorem Ul.step{E:Nat→Prop}{W1 wr w5 w6:World}{cb:Nat}{V V' V5:CV}{c:Ck}{d:Nat}{l:List Nd}{i:Nat}{v:Value}{ks:List Nat}{ps p5:List Pt}{k:Nat}{o:Obj}{A6:Option Addr}{C6:Nat}(h:Ul E W1 wr cb V V' c d l i v ks ps)(hi:i<l.length)(hx:(l[i].op==vu||l[i].op==jM)=false)(hk:jb c.names d ps l[i]= .ok (k,p5))
 (h5:qq (λg=>((E g∨W1.heap.size≤g)∧v.ownBlock≠some g)∨(wr.alloc o).heap.size≤g) w5 cb V5 { c with parts:=p5 }) (s5:jX cb V' (wr.alloc o) V5 w5) (hn5:yH c.names p5)
 (hr6:w6.ownsRow W1.heap.size 3 1 (.slice A6 (ks.length+1) C6) (ks.length+1) (ks.map (λk=> .int .i64 (k:Nat))++ [.int .i64 (k:Nat)])) (hg6:(w5.alloc (.cells #[.int .i64 (k:Nat)] 3)).grownBy w6 v.ownBlock) (hw6:(Value.slice A6 (ks.length+1) C6).ownBlock=v.ownBlock∨(Value.slice A6 (ks.length+1) C6).ownBlock=some (w5.alloc (.cells #[.int .i64 (k:Nat)] 3)).heap.size):
 Ul E W1 w6 cb V V5 c d l (i+1) (.slice A6 (ks.length+1) C6) (ks++ [k]) p5:=by
 have hvl:∀g,v.ownBlock=some g→W1.heap.size≤g∧g<wr.heap.size:=λg e=>(qR h.row e).symm
 have hs1:wr.heap.size<(wr.alloc o).heap.size:=by simp
 have hs5:=s5.only.size;have hin:∀g,v.ownBlock=some g→¬V5.own cb g:=λg e=>(s5.inner g (by have:=(hvl g e).2;omega) (h.free g e)).2
 have hb5:=zl w5 (.cells #[.int .i64 (k:Nat)] 3);have hsz5:(w5.alloc (.cells #[.int .i64 (k:Nat)] 3)).heap.size=w5.heap.size+1:=by simp
 have h5':qq (λg=>(E g∨W1.heap.size≤g)∧v.ownBlock≠some g∧g≠(w5.alloc (.cells #[.int .i64 (k:Nat)] 3)).heap.size) (w5.alloc (.cells #[.int .i64 (k:Nat)] 3)) cb V5 { c with parts:=p5 }:=by
  refine(h5.keep hb5).mono (λg hg hn he=>?_);refine⟨?_,?_,by omega⟩
  ·rcases he with he|he
   ·exact he.1
   ·exact .inr (Nat.le_trans (Nat.le_trans h.stp.only.size (Nat.le_of_lt hs1)) he)
  ·rcases he with he|he
   ·exact he.2
   ·intro e
    have:=(hvl g e).2;omega
 have h6:=h5'.grown hg6 hin (λg he=>he.2.1);refine⟨?_,by rw[List.length_append,List.length_singleton,List.map_append,List.map_cons,List.map_nil];exact hr6,λg e=>?_,h6.mono (λg hg hn he=>⟨he.1,λe=>?_⟩),?_,hn5⟩
 ·rw[ZG l hi,hx]
  simp only[Bool.false_eq_true,if_false];rw[QW,h.is];simp only;rw[hk]
 ·rcases hw6 with q|q
  ·exact hin g (q ▸ e)
  ·rw[q]at e
   cases e;intro ho;have:=(h5.low ho).2;omega
 ·rcases hw6 with q|q
  ·exact he.2.1 (q ▸ e)
  ·rw[q]at e
   cases e;exact he.2.2 rfl
 ·exact((h.stp.trans ((jX.of (zl wr o)).trans s5)).trans (jX.of hb5)).grown hg6 (λg e=>(hvl g e).1)
theorem Ul.pass{E:Nat→Prop}{W1 wr:World}{cb:Nat}{V V':CV}{c:Ck}{d:Nat}{l:List Nd}{i:Nat}{v:Value}{ks:List Nat}{ps:List Pt}{o:Obj}(h:Ul E W1 wr cb V V' c d l i v ks ps)(hi:i<l.length)(hx:(l[i].op==vu||l[i].op==jM)=true):Ul E W1 (wr.alloc o) cb V V' c d l (i+1) v ks ps:=by
 refine⟨?_,zI h.row (λg ob e ho=>(Below.heap_alloc wr o g (Array.getElem?_eq_some_iff.1 ho).1).trans ho),h.free,h.ck.alloc o,h.stp.trans (jX.of (zl wr o)),h.nms⟩;rw[ZG l hi,hx];simp only[if_true,List.append_nil];exact h.is
end
section
open Go.ChangeShapes Go.WideShapes Go.ChangeAt Go.RowKit Go.MapKept
variable {E:Nat→Prop}
theorem zbn{w:World}{cb:Nat}{V:CV}{c:Ck}{ks:List Nat}{bk ok Ck:Nat}(hI:PIn E w cb V c ks bk ok Ck)(n:Nd)(A:Option Addr)(C:Nat)(hr:jZ w n A C)(hs:ExS n)(hk:ks.length=(jR n).length)(hn:yH c.names c.parts)(hby:∀x ∈ c.names,x.2.bytes.length≤1000):
 Calls Tryz.prog 97 #[.pointer (some ⟨cb,0,none⟩),.agg (qD n (.slice A n.l.length C)),.slice (some ⟨bk,ok,none⟩) ks.length Ck] w (Zn w (GJ (jD c.names c.parts n ks))):=by
 rcases hs.word with ho|ho|ho|ho
 ·obtain⟨h1,h2,h3⟩:=hs.lin ho
  exact kU hI n A C hr ho h1 h2 h3
 ·exact XA hI n A C hr ho
 ·obtain⟨h1,h2⟩:=hs.snap ho
  exact YE hI n A C hr ho h1 (by rw[hk];exact hs.shape.snap ho) h2
 ·exact X4 hI n A C hr ho (hs.sec ho) hn hby
theorem zcL{w:World}{cb:Nat}{V:CV}{c:Ck}(h:qq E w cb V c)(p:Pt)(Ak:Option Addr)(Ck:Nat)(A2:Option Addr)(C2:Nat)(A3:Option Addr)(C3:Nat)(hu:xH w (λg=>¬V.own cb g∧E g) p (.slice Ak p.kids.length Ck,.slice A2 p.key.length C2,.slice A3 p.root.length C3))(hkids:∀k ∈ p.kids,k<c.parts.length)(hkl:p.kids.length≤1000)(h52:p.kind=5→p.kids.length=2)(hfew:c.parts.length≤90000):
 Calls Tryz.prog 60 #[.pointer (some ⟨cb,0,none⟩),.agg #[.int .i64 (p.kind:Nat),.int .i64 (p.size:Nat),.slice Ak p.kids.length Ck,.int .i64 (p.dev:Nat),.int .i64 (p.first:Nat),.int .i64 (p.chunk:Nat),.slice A2 p.key.length C2,.slice A3 p.root.length C3]] w (zas E w cb V c p):=by
 by_cases h5:p.kind=5
 ·exact XV h p Ak Ck A2 C2 A3 C3 hu hkids hkl h5 (h52 h5) hfew
 ·by_cases h8:p.kind=8
  ·exact uP h p Ak Ck A2 C2 A3 C3 hu hkids hkl h8 hfew
  ·exact Xu h p Ak Ck A2 C2 A3 C3 hu hkids hkl h5 h8 hfew
end
end Go.Proofs.YteaddcdpgcgggaaGreatDoor
