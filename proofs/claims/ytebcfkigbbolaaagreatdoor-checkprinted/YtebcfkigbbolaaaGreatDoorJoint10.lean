import Derived.Test.YtebcfkigbbolaaaGreatDoorJoint09
import Derived.Shelf.Abstract
namespace Go.Proofs.YtebcfkigbbolaaaGreatDoor
set_option linter.unusedVariables false
set_option maxRecDepth 100000
set_option maxHeartbeats 40000000
section
open Go.ChangeShapes Go.WideShapes Go.ChangeAt Go.RowKit Go.MapKept
theorem kf{w:World}{fb:Nat}{A:Option Addr}{C:Nat}{ps:List Pt}{v:Value}{out:List R3}(h:vi w fb A C ps v out)(hwf:XE ps)(d k:Nat)(f c:Int)(ho:¬256<out.length)(hh:jJ ps k f c=true)(hkind:(zK ps k).kind=2)
 (hx:∀(W:World) (v:Value) (out:List R3) (j:Nat) (f c:Int),vi W fb A C ps v out→j<k→qe f→qe c→Calls Tryz.prog 30 #[.pointer (some ⟨fb,0,none⟩),.int .i64 (j:Nat),.int .i64 f,.int .i64 c] W (vm W fb A C ps v (vS ps d out j f c))):
 Calls Tryz.prog 30 #[.pointer (some ⟨fb,0,none⟩),.int .i64 (k:Nat),.int .i64 f,.int .i64 c] w (vm w fb A C ps v (yj ps (vS ps d) out (zK ps k) f c)):=by
 have hR:=h;obtain⟨hkl,hf0,hc0,hfc⟩:=xj hh;have hsz:=hwf.size k hkl;have hfi:=hwf.first k hkl;have hkl2:=hwf.few k hkl;have hkids:=hwf.kids k hkl;have hcap:ps.length≤C∧C≤9223372036854775807:=h.cap
 have hkk:qe (k:Nat):=⟨by omega,by omega⟩
 have hf:qe f:=⟨by omega,by omega⟩
 have hc:qe c:=⟨by omega,by omega⟩
 have hhas:=QQ h hwf (k:Nat) f c hkk hf hc;rw[hh]at hhas
 obtain⟨Av,Cv,rfl⟩:∃Av Cv,v= .slice Av out.length Cv:=by
  rcases h.row.2 with⟨rfl,h0⟩|⟨g,cap,cur,rfl,_⟩
  ·exact⟨none,0,by rw[h0]⟩
  ·exact⟨_,_,rfl⟩
 obtain⟨g,off,Ak,Ck,A2,n2,C2,A3,n3,C3,rfl,hg0,hg,hki,hkc,hkm,hcell⟩:=yK h.pts hkl
 have EQ:yj ps (vS ps d) out (zK ps k) f c=(zK ps k).kids.foldl (λo j=>vS ps d o j (f+((zK ps k).first:Int)) c) out:=by
  unfold yj;rw[hkind];rfl
 rw[EQ];rw[hkind]at hcell;have hkm2:Ck≤9223372036854775807:=hkm;generalize hps:(zK ps k).size=psz at *;generalize hpd:(zK ps k).dev=pdv at *;generalize hpf:(zK ps k).first=pfi at *;generalize hpc:(zK ps k).chunk=pch at *;generalize hpk:(zK ps k).kids=pk at *
 obtain⟨Kn,hKn⟩:∃Kn,Kn=pk.length:=⟨_,rfl⟩
 rw[←hKn]at hcell hkc hkl2;have HKn:Hid (Kn=pk.length):=hKn;clear hps hpd hpf hpc hpk hKn;have c0:=h.has.cell 0;have c1:=h.has.cell 1;have lc:=h.has.lt;simp only[jg,jd,jf]at c0 c1;have hooi:¬(256:Int)<(out.length:Int):=by omega
 have hkli:(k:Int)<(ps.length:Int):=by omega
 clear EQ hh hkind h;go_enter Tryz.func30,Tryz.ntmps30
 go_wp2_with (first
  |((go_at_call 61)
    refine hhas.mono ?_;rintro e w1 ⟨rfl,hb1⟩;have c0b:=za hb1 c0;have c1b:=za hb1 c1;have lcb:=Nat.lt_of_lt_of_le lc hb1.size;(have hcellb:=λj (hj:j<8)=>(hb1.cell (p:=⟨g,off+k*8+j,none⟩) hg).trans (hcell j hj)))
  |((refine zf 30 rfl ?_)
    (refine zb (some 30) _ rfl (by rfl) (qn _ _ rfl g off k ps.length C rfl rfl hkl w1) ?_))
  |((refine zf 31 rfl ?_)
    refine zb (some 31) _ rfl (by rfl) (qS _ rfl g (off+k*8) rfl w1 hcellb) ?_;have H1:=(hR.keep hb1).keep (zd w1 (.cells #[.int .i64 2,.int .i64 (psz:Nat),.slice Ak Kn Ck,.int .i64 (pdv:Nat),.int .i64 (pfi:Nat),.int .i64 (pch:Nat),.slice A2 n2 C2,.slice A3 n3 C3] 47));have P1:=ze.new w1 47 #[.int .i64 2,.int .i64 (psz:Nat),.slice Ak Kn Ck,.int .i64 (pdv:Nat),.int .i64 (pfi:Nat),.int .i64 (pch:Nat),.slice A2 n2 C2,.slice A3 n3 C3];(have B1:Below w.heap.size w (w1.alloc (.cells #[.int .i64 2,.int .i64 (psz:Nat),.slice Ak Kn Ck,.int .i64 (pdv:Nat),.int .i64 (pfi:Nat),.int .i64 (pch:Nat),.slice A2 n2 C2,.slice A3 n3 C3] 47)):=hb1.alloc hb1.size _)))
 have lW1:(w1.alloc (.cells #[.int .i64 2,.int .i64 (psz:Nat),.slice Ak Kn Ck,.int .i64 (pdv:Nat),.int .i64 (pfi:Nat),.int .i64 (pch:Nat),.slice A2 n2 C2,.slice A3 n3 C3] 47)).heap.size=w1.heap.size+1:=by simp
 have BW1:Below fb w (w1.alloc (.cells #[.int .i64 2,.int .i64 (psz:Nat),.slice Ak Kn Ck,.int .i64 (pdv:Nat),.int .i64 (pfi:Nat),.int .i64 (pch:Nat),.slice A2 n2 C2,.slice A3 n3 C3] 47)):=B1.mono (Nat.le_of_lt lc)
 have ff:qe (f+(pfi:Int)):=⟨by omega,by omega⟩
 go_loopw [69] (λz wr=>∃(i:Nat) (v':Value) (out':List R3),z= .int .i64 (i:Nat)∧i≤Kn∧vi wr fb (some ⟨g,off,none⟩) C ps v' out'∧ye fb (.slice Av out.length Cv) (w1.alloc (.cells #[.int .i64 2,.int .i64 (psz:Nat),.slice Ak Kn Ck,.int .i64 (pdv:Nat),.int .i64 (pfi:Nat),.int .i64 (pch:Nat),.slice A2 n2 C2,.slice A3 n3 C3] 47)) v' wr∧Hid (out'=(pk.take i).foldl (λo j=>vS ps d o j (f+(pfi:Int)) c) out)) (λz _=>Kn-(intOf z).toNat)
 case atStart=>exact⟨0,_,out,rfl,Nat.zero_le _,H1,ye.refl _ _ _,rfl⟩
 case round =>
  obtain⟨i,v',out',rfl,hi,H2,S2,HO⟩:=hrel;by_cases hlt:i<Kn
  ·have hlp:i<pk.length:=by rw[←HKn.out];exact hlt
   have B2:Below fb (w1.alloc (.cells #[.int .i64 2,.int .i64 (psz:Nat),.slice Ak Kn Ck,.int .i64 (pdv:Nat),.int .i64 (pfi:Nat),.int .i64 (pch:Nat),.slice A2 n2 C2,.slice A3 n3 C3] 47)) wr:=S2.below (λj hj=>by have:=(qy H1.row hj).2;omega) (by have:=H1.has.lt;omega);obtain⟨b,o,eA,hbl,hbf,hcl⟩:=hki.resolve_left (by intro e;rw[e]at hlp;simp at hlp);have hck:=(B2.cell (p:=⟨b,o+i,none⟩) hbf).trans ((BW1.cell (p:=⟨b,o+i,none⟩) hbf).trans (hcl i hlp));have hkd:pk[i]<k:=hkids _ (List.getElem_mem hlp)
   have HG:Hid ((pk.take (i+1)).foldl (λo j=>vS ps d o j (f+(pfi:Int)) c) out=vS ps d out' pk[i] (f+(pfi:Int)) c):=by
    rw[List.take_succ_eq_append_getElem hlp,List.foldl_append,←HO.out];rfl
   have hcx:=hx wr v' out' pk[i] (f+(pfi:Int)) c H2 hkd ff hc;have hint:(i:Int)<(Kn:Int):=by omega
   clear hcl;generalize pk[i]=kid at hck hkd HG hcx;subst eA
   go_wp2_with (first
    |((go_at_call 30)
      refine hcx.mono ?_;(rintro e w5 ⟨v5,rfl,H5,S5⟩)))
   go_roundw
   case rel=>exact⟨i+1,v5,_,by go_num,by omega,H5,S2.trans S5,HG.out.symm⟩
   case measure=>simp[intOf];omega
  ·obtain rfl:i=Kn:=by omega
   have HF:Hid (out'=pk.foldl (λo j=>vS ps d o j (f+(pfi:Int)) c) out):=by
    rw[HO.out,HKn.out,List.take_length];exact rfl
   clear HO
   go_wp2
   go_end0
   refine⟨v',rfl,?_,(ye.of B1).trans S2⟩;rw[←HF.out];exact H2
theorem Je{w:World}{fb:Nat}{A:Option Addr}{C:Nat}{ps:List Pt}{v:Value}{out:List R3}(h:vi w fb A C ps v out)(d j:Nat)(hj:j<ps.length)(R:List R3)
 (hx:Calls Tryz.prog 30 #[.pointer (some ⟨fb,0,none⟩),.int .i64 (j:Nat),.int .i64 0,.int .i64 (sz ps j:Nat)] w (vm w fb A C ps v R)):
 Calls Tryz.prog 63 #[.pointer (some ⟨fb,0,none⟩),.int .i64 (j:Nat)] w (vm w fb A C ps v R):=by
 obtain⟨g,off,Ak,Ck,A2,n2,C2,A3,n3,C3,rfl,hg0,hg,hki,hkc,hkm,hcell⟩:=yK h.pts hj;have c0:=h.has.cell 0;have lc:=h.has.lt;have q1:=hcell 1 (by decide);simp only[jg,jd,jf]at c0 q1;have hcap:ps.length≤C∧C≤9223372036854775807:=h.cap;have hjj:(j:Int)<(ps.length:Int):=by omega
 rw[show(zK ps j).size=sz ps j from rfl]at q1;generalize sz ps j=S at hx q1;clear hcell h;go_enter Tryz.func63,Tryz.ntmps63
 go_wp2_with (first
  |((go_at_call 30)
    refine hx.mono ?_;(rintro e w1 ⟨v1,rfl,H1,S1⟩)))
 go_end0
 exact⟨v1,rfl,H1,S1⟩
theorem fG{o:Oper}{a:Act}(x y:Operand)(ho:o.op= .call { callee:= .builtin .max,args:=#[x,y],argTypes:=#[3,3] })(n m:Int)(hx:a.eval x= .int .i64 n)(hy:a.eval y= .int .i64 m)(w:World):(execOp a.eval o).run Tryz.prog w= .ok (.value (.int .i64 (max n m))) w:=by
 unfold execOp;simp only[ho,resolve,invoke,builtin,List.map_toArray,List.map_cons,List.map_nil,hx,hy];by_cases h:n<m
 ·have e:max n m=m:=by omega
  rw[e];go_simp
 ·have e:max n m=n:=by omega
  rw[e];go_simp
theorem fD{o:Oper}{a:Act}(x y:Operand)(ho:o.op= .call { callee:= .builtin .min,args:=#[x,y],argTypes:=#[3,3] })(n m:Int)(hx:a.eval x= .int .i64 n)(hy:a.eval y= .int .i64 m)(w:World):(execOp a.eval o).run Tryz.prog w= .ok (.value (.int .i64 (min n m))) w:=by
 unfold execOp;simp only[ho,resolve,invoke,builtin,List.map_toArray,List.map_cons,List.map_nil,hx,hy];by_cases h:n<m
 ·have e:min n m=n:=by omega
  rw[e];go_simp;omega
 ·have e:min n m=m:=by omega
  rw[e];go_simp;omega
def Dp(ps:List Pt)(G:List R3→Nat→Int→Int→List R3)(f c:Int)(x:List R3×Int)(k:Nat):List R3×Int:=(G x.1 k (max (f-x.2) 0) (min (f+c-x.2) (sz ps k)-max (f-x.2) 0),x.2+sz ps k)
theorem zaI{ps:List Pt}{G:List R3→Nat→Int→Int→List R3}{f c:Int}(hs:∀k,sz ps k≤8192∨ps.length≤k)(l:List Nat):∀(x:List R3×Int),(∀k ∈ l,k<ps.length)→x.2≤(l.foldl (Dp ps G f c) x).2∧(l.foldl (Dp ps G f c) x).2≤x.2+8192*l.length:=by
 induction l with
 |nil=>intro x _;simp
 |cons k l ih =>
  intro x hk;have h1:=ih (Dp ps G f c x k) (λj hj=>hk j (by simp[hj]));have h2:(Dp ps G f c x k).2=x.2+sz ps k:=rfl;have h3:=hs k;have h4:=hk k (by simp);simp only[List.foldl_cons,List.length_cons];omega
theorem FE{w:World}{fb:Nat}{A:Option Addr}{C:Nat}{ps:List Pt}{v:Value}{out:List R3}(h:vi w fb A C ps v out)(hwf:XE ps)(d k:Nat)(hkl:k<ps.length)(f c:Int)(hf:0≤f∧f≤8192)(hc:0≤c∧c≤8192)(Ak:Option Addr)(Kn Ck:Nat)(pk:List Nat)(hKn:Kn=pk.length)(hki:Zs w (λg=>g<fb) Ak pk)(hkids:∀j ∈ pk,j<k)(hlen:Kn≤1000)(hkc:Kn≤Ck)(hkm:Ck≤9223372036854775807)
 (hx:∀(W:World) (v:Value) (out:List R3) (j:Nat) (f c:Int),vi W fb A C ps v out→j<k→qe f→qe c→Calls Tryz.prog 30 #[.pointer (some ⟨fb,0,none⟩),.int .i64 (j:Nat),.int .i64 f,.int .i64 c] W (vm W fb A C ps v (vS ps d out j f c))):
 Calls Tryz.prog 62 #[.pointer (some ⟨fb,0,none⟩),.slice Ak Kn Ck,.int .i64 f,.int .i64 (f+c)] w (vm w fb A C ps v (pk.foldl (Dp ps (vS ps d) f c) (out,0)).1):=by
 have hcap:ps.length≤C∧C≤9223372036854775807:=h.cap;have HKn:Hid (Kn=pk.length):=hKn;have hlow:∀j,v.ownBlock=some j→fb≤j:=λj hj=>by have:=(qy h.row hj).2;omega
 have lc:=h.has.lt
 have HL:Hid (∀i,i≤pk.length→0≤((pk.take i).foldl (Dp ps (vS ps d) f c) (out,0)).2∧((pk.take i).foldl (Dp ps (vS ps d) f c) (out,0)).2≤8192000):=by
  intro i hi
  have:=zaI (ps:=ps) (G:=vS ps d) (f:=f) (c:=c) (λj=>by
   by_cases hj:j<ps.length
   ·exact .inl (hwf.size j hj)
   ·exact .inr (by omega)) (pk.take i) (out,0) (λj hj=>by have:=hkids j (List.mem_of_mem_take hj);omega)
  simp only[List.length_take]at this;have hp:pk.length≤1000:=by omega
  constructor
  ·exact this.1
  ·omega
 clear hKn;go_enter Tryz.func62,Tryz.ntmps62
 go_wp2
 go_loopw [2,3,15] (λz2 z3 z wr=>∃(i:Nat) (s:Int) (v':Value) (out':List R3),z2= .int .i64 (f-s)∧z3= .int .i64 (f+c-s)∧z= .int .i64 (i:Nat)∧i≤Kn∧0≤s∧s≤8192000∧vi wr fb A C ps v' out'∧ye fb v w v' wr∧Hid ((pk.take i).foldl (Dp ps (vS ps d) f c) (out,0)=(out',s))) (λ_ _ z _=>Kn-(intOf z).toNat)
 case atStart=>exact⟨0,0,v,out,by simp,by simp,rfl,Nat.zero_le _,by decide,by decide,h,ye.refl _ _ _,rfl⟩
 case round =>
  obtain⟨i,s,v',out',rfl,rfl,rfl,hi,hs0,hs1,H2,S2,HO⟩:=hrel;by_cases hlt:i<Kn
  ·have hlp:i<pk.length:=by rw[←HKn.out];exact hlt
   have B2:Below fb w wr:=S2.below hlow (Nat.le_of_lt lc);obtain⟨b,o,eA,hbl,hbf,hcl⟩:=hki.resolve_left (by intro e;rw[e]at hlp;simp at hlp);have hck:=(B2.cell (p:=⟨b,o+i,none⟩) hbf).trans (hcl i hlp);have hkd:pk[i]<k:=hkids _ (List.getElem_mem hlp);have hsk:=hwf.size pk[i] (by omega);obtain⟨g,off,Aj,Cj,A2,n2,C2,A3,n3,C3,eP,hg0,hg,_,_,_,hcell⟩:=yK H2.pts (k:=pk[i]) (by omega);have q1:=hcell 1 (by decide);have c0:=H2.has.cell 0;have lr:=H2.has.lt;simp only[jg,jd,jf]at q1 c0;rw[show(zK ps pk[i]).size=sz ps pk[i]from rfl]at q1
   have HG:Hid ((pk.take (i+1)).foldl (Dp ps (vS ps d) f c) (out,0)=(vS ps d out' pk[i] (max (f-s) 0) (min (f+c-s) (sz ps pk[i])-max (f-s) 0),s+sz ps pk[i])):=by
    rw[List.take_succ_eq_append_getElem hlp,List.foldl_append,HO.out];exact rfl
   have HS:Hid (s+(sz ps pk[i]:Int)≤8192000):=by
    have:=(HL.out (i+1) (by omega)).2;rw[HG.out]at this;exact this
   have hk1:pk[i]<ps.length:=by omega
   have hcx:=hx wr v' out' pk[i] (max (f-s) 0) (min (f+c-s) (sz ps pk[i])-max (f-s) 0) H2 hkd ⟨by omega,by omega⟩ ⟨by omega,by omega⟩;clear hcl hcell HO;generalize pk[i]=kid at *;generalize sz ps kid=S at *;have hS2:s+(S:Int)≤8192000:=HS.out
   obtain⟨M,hM⟩:∃M,M=max (f-s) 0:=⟨_,rfl⟩
   obtain⟨m,hm⟩:∃m,m=min (f+c-s) (S:Int):=⟨_,rfl⟩
   have hM1:0≤M∧M≤8192:=by omega
   have hm1: -8192000≤m∧m≤8192:=by omega
   rw[←hM,←hm]at hcx HG;have HMX:Hid (M=max (f-s) 0):=hM;have HMN:Hid (m=min (f+c-s) (S:Int)):=hm;clear hM hm HS;have hint:(i:Int)<(Kn:Int):=by omega
   have hkint:(kid:Int)<(ps.length:Int):=by omega
   obtain⟨hM1a,hM1b⟩:=hM1;obtain⟨hm1a,hm1b⟩:=hm1;subst eA;subst eP
   go_wp2_with (first
    |((refine zf 24 rfl ?_)
      (refine zb (some 24) _ rfl (by rfl) (qn _ _ rfl g off kid ps.length C rfl rfl hk1 wr) ?_))
    |((refine zf 28 rfl ?_)
      (refine zb (some 28) (.int .i64 M) rfl (by rfl) (by rw[HMX.out];exact fG _ _ rfl _ _ rfl rfl wr) ?_))
    |((refine zf 31 rfl ?_)
      (refine zb (some 31) (.int .i64 m) rfl (by rfl) (by rw[HMN.out];exact fD _ _ rfl _ _ rfl rfl wr) ?_))
    |((go_at_call 30)
      refine hcx.mono ?_;(rintro e w5 ⟨v5,rfl,H5,S5⟩)))
   go_roundw
   case rel=>exact⟨i+1,s+S,v5,_,congrArg (Value.int .i64) (by omega),congrArg (Value.int .i64) (by omega),by go_num,by omega,by omega,by omega,H5,S2.trans S5,HG.out⟩
   case measure=>simp[intOf];omega
  ·obtain rfl:i=Kn:=by omega
   have HF:Hid ((pk.foldl (Dp ps (vS ps d) f c) (out,0)).1=out'):=by
    have:=HO.out;rw[HKn.out,List.take_length]at this;rw[this];exact rfl
   clear HO
   go_wp2
   go_end0
   exact⟨v',rfl,by rw[HF.out];exact H2,S2⟩
theorem XY{w:World}{fb:Nat}{A:Option Addr}{C:Nat}{ps:List Pt}{v:Value}{out:List R3}(h:vi w fb A C ps v out)(hwf:XE ps)(d k:Nat)(f c:Int)(ho:¬256<out.length)(hh:jJ ps k f c=true)(hkind:(zK ps k).kind=3)
 (hx:∀(W:World) (v:Value) (out:List R3) (j:Nat) (f c:Int),vi W fb A C ps v out→j<k→qe f→qe c→Calls Tryz.prog 30 #[.pointer (some ⟨fb,0,none⟩),.int .i64 (j:Nat),.int .i64 f,.int .i64 c] W (vm W fb A C ps v (vS ps d out j f c))):
 Calls Tryz.prog 30 #[.pointer (some ⟨fb,0,none⟩),.int .i64 (k:Nat),.int .i64 f,.int .i64 c] w (vm w fb A C ps v (yj ps (vS ps d) out (zK ps k) f c)):=by
 have hR:=h;obtain⟨hkl,hf0,hc0,hfc⟩:=xj hh;have hsz:=hwf.size k hkl;have hfi:=hwf.first k hkl;have hkl2:=hwf.few k hkl;have hkids:=hwf.kids k hkl;have hcap:ps.length≤C∧C≤9223372036854775807:=h.cap
 have hkk:qe (k:Nat):=⟨by omega,by omega⟩
 have hf:qe f:=⟨by omega,by omega⟩
 have hc:qe c:=⟨by omega,by omega⟩
 have hhas:=QQ h hwf (k:Nat) f c hkk hf hc;rw[hh]at hhas
 obtain⟨Av,Cv,rfl⟩:∃Av Cv,v= .slice Av out.length Cv:=by
  rcases h.row.2 with⟨rfl,h0⟩|⟨g,cap,cur,rfl,_⟩
  ·exact⟨none,0,by rw[h0]⟩
  ·exact⟨_,_,rfl⟩
 obtain⟨g,off,Ak,Ck,A2,n2,C2,A3,n3,C3,rfl,hg0,hg,hki,hkc,hkm,hcell⟩:=yK h.pts hkl
 have EQ:yj ps (vS ps d) out (zK ps k) f c=((zK ps k).kids.foldl (Dp ps (vS ps d) f c) (out,0)).1:=by
  unfold yj;rw[hkind];rfl
 rw[EQ];rw[hkind]at hcell;have hkm2:Ck≤9223372036854775807:=hkm;generalize hps:(zK ps k).size=psz at *;generalize hpd:(zK ps k).dev=pdv at *;generalize hpf:(zK ps k).first=pfi at *;generalize hpc:(zK ps k).chunk=pch at *;generalize hpk:(zK ps k).kids=pk at *
 obtain⟨Kn,hKn⟩:∃Kn,Kn=pk.length:=⟨_,rfl⟩
 rw[←hKn]at hcell hkc hkl2;have HKn:Hid (Kn=pk.length):=hKn;clear hps hpd hpf hpc hpk hKn;have c0:=h.has.cell 0;have c1:=h.has.cell 1;have lc:=h.has.lt;simp only[jg,jd,jf]at c0 c1;have hooi:¬(256:Int)<(out.length:Int):=by omega
 have hkli:(k:Int)<(ps.length:Int):=by omega
 clear EQ hh hkind h;go_enter Tryz.func30,Tryz.ntmps30
 go_wp2_with (first
  |((go_at_call 61)
    refine hhas.mono ?_;rintro e w1 ⟨rfl,hb1⟩;have c0b:=za hb1 c0;have c1b:=za hb1 c1;have lcb:=Nat.lt_of_lt_of_le lc hb1.size;(have hcellb:=λj (hj:j<8)=>(hb1.cell (p:=⟨g,off+k*8+j,none⟩) hg).trans (hcell j hj)))
  |((refine zf 30 rfl ?_)
    (refine zb (some 30) _ rfl (by rfl) (qn _ _ rfl g off k ps.length C rfl rfl hkl w1) ?_))
  |((refine zf 31 rfl ?_)
    refine zb (some 31) _ rfl (by rfl) (qS _ rfl g (off+k*8) rfl w1 hcellb) ?_;have H1:=(hR.keep hb1).keep (zd w1 (.cells #[.int .i64 3,.int .i64 (psz:Nat),.slice Ak Kn Ck,.int .i64 (pdv:Nat),.int .i64 (pfi:Nat),.int .i64 (pch:Nat),.slice A2 n2 C2,.slice A3 n3 C3] 47));have P1:=ze.new w1 47 #[.int .i64 3,.int .i64 (psz:Nat),.slice Ak Kn Ck,.int .i64 (pdv:Nat),.int .i64 (pfi:Nat),.int .i64 (pch:Nat),.slice A2 n2 C2,.slice A3 n3 C3];(have B1:Below w.heap.size w (w1.alloc (.cells #[.int .i64 3,.int .i64 (psz:Nat),.slice Ak Kn Ck,.int .i64 (pdv:Nat),.int .i64 (pfi:Nat),.int .i64 (pch:Nat),.slice A2 n2 C2,.slice A3 n3 C3] 47)):=hb1.alloc hb1.size _))
  |((go_at_call 62)
    refine(FE H1 hwf d k hkl f c ⟨by omega,by omega⟩ ⟨by omega,by omega⟩ Ak Kn Ck pk HKn.out (hki.keep B1.size (λj hj hB=>⟨B1.block j hj,hB⟩)) hkids hkl2 hkc hkm2 hx).mono ?_;(rintro e w5 ⟨v5,rfl,H5,S5⟩)))
 go_end0
 exact⟨v5,rfl,H5,(ye.of B1).trans S5⟩
theorem XZ{w:World}{fb:Nat}{A:Option Addr}{C:Nat}{ps:List Pt}{v:Value}{out:List R3}(h:vi w fb A C ps v out)(hwf:XE ps)(d k:Nat)(f c:Int)(ho:¬256<out.length)(hh:jJ ps k f c=true)(hkind:(zK ps k).kind=4)
 (hx:∀(W:World) (v:Value) (out:List R3) (j:Nat) (f c:Int),vi W fb A C ps v out→j<k→qe f→qe c→Calls Tryz.prog 30 #[.pointer (some ⟨fb,0,none⟩),.int .i64 (j:Nat),.int .i64 f,.int .i64 c] W (vm W fb A C ps v (vS ps d out j f c))):
 Calls Tryz.prog 30 #[.pointer (some ⟨fb,0,none⟩),.int .i64 (k:Nat),.int .i64 f,.int .i64 c] w (vm w fb A C ps v (yj ps (vS ps d) out (zK ps k) f c)):=by
 have hR:=h;obtain⟨hkl,hf0,hc0,hfc⟩:=xj hh;have hsz:=hwf.size k hkl;have hfi:=hwf.first k hkl;have hkl2:=hwf.few k hkl;have hkids:=hwf.kids k hkl;have hcap:ps.length≤C∧C≤9223372036854775807:=h.cap
 have hkk:qe (k:Nat):=⟨by omega,by omega⟩
 have hf:qe f:=⟨by omega,by omega⟩
 have hc:qe c:=⟨by omega,by omega⟩
 have hhas:=QQ h hwf (k:Nat) f c hkk hf hc;rw[hh]at hhas
 obtain⟨Av,Cv,rfl⟩:∃Av Cv,v= .slice Av out.length Cv:=by
  rcases h.row.2 with⟨rfl,h0⟩|⟨g,cap,cur,rfl,_⟩
  ·exact⟨none,0,by rw[h0]⟩
  ·exact⟨_,_,rfl⟩
 obtain⟨g,off,Ak,Ck,A2,n2,C2,A3,n3,C3,rfl,hg0,hg,hki,hkc,hkm,hcell⟩:=yK h.pts hkl
 have EQ:yj ps (vS ps d) out (zK ps k) f c=(zK ps k).kids.foldl (λo j=>vS ps d o j (f) c) out:=by
  unfold yj;rw[hkind];rfl
 rw[EQ];rw[hkind]at hcell;have hkm2:Ck≤9223372036854775807:=hkm;generalize hps:(zK ps k).size=psz at *;generalize hpd:(zK ps k).dev=pdv at *;generalize hpf:(zK ps k).first=pfi at *;generalize hpc:(zK ps k).chunk=pch at *;generalize hpk:(zK ps k).kids=pk at *
 obtain⟨Kn,hKn⟩:∃Kn,Kn=pk.length:=⟨_,rfl⟩
 rw[←hKn]at hcell hkc hkl2;have HKn:Hid (Kn=pk.length):=hKn;clear hps hpd hpf hpc hpk hKn;have c0:=h.has.cell 0;have c1:=h.has.cell 1;have lc:=h.has.lt;simp only[jg,jd,jf]at c0 c1;have hooi:¬(256:Int)<(out.length:Int):=by omega
 have hkli:(k:Int)<(ps.length:Int):=by omega
 clear EQ hh hkind h;go_enter Tryz.func30,Tryz.ntmps30
 go_wp2_with (first
  |((go_at_call 61)
    refine hhas.mono ?_;rintro e w1 ⟨rfl,hb1⟩;have c0b:=za hb1 c0;have c1b:=za hb1 c1;have lcb:=Nat.lt_of_lt_of_le lc hb1.size;(have hcellb:=λj (hj:j<8)=>(hb1.cell (p:=⟨g,off+k*8+j,none⟩) hg).trans (hcell j hj)))
  |((refine zf 30 rfl ?_)
    (refine zb (some 30) _ rfl (by rfl) (qn _ _ rfl g off k ps.length C rfl rfl hkl w1) ?_))
  |((refine zf 31 rfl ?_)
    refine zb (some 31) _ rfl (by rfl) (qS _ rfl g (off+k*8) rfl w1 hcellb) ?_;have H1:=(hR.keep hb1).keep (zd w1 (.cells #[.int .i64 4,.int .i64 (psz:Nat),.slice Ak Kn Ck,.int .i64 (pdv:Nat),.int .i64 (pfi:Nat),.int .i64 (pch:Nat),.slice A2 n2 C2,.slice A3 n3 C3] 47));have P1:=ze.new w1 47 #[.int .i64 4,.int .i64 (psz:Nat),.slice Ak Kn Ck,.int .i64 (pdv:Nat),.int .i64 (pfi:Nat),.int .i64 (pch:Nat),.slice A2 n2 C2,.slice A3 n3 C3];(have B1:Below w.heap.size w (w1.alloc (.cells #[.int .i64 4,.int .i64 (psz:Nat),.slice Ak Kn Ck,.int .i64 (pdv:Nat),.int .i64 (pfi:Nat),.int .i64 (pch:Nat),.slice A2 n2 C2,.slice A3 n3 C3] 47)):=hb1.alloc hb1.size _)))
 have lW1:(w1.alloc (.cells #[.int .i64 4,.int .i64 (psz:Nat),.slice Ak Kn Ck,.int .i64 (pdv:Nat),.int .i64 (pfi:Nat),.int .i64 (pch:Nat),.slice A2 n2 C2,.slice A3 n3 C3] 47)).heap.size=w1.heap.size+1:=by simp
 have BW1:Below fb w (w1.alloc (.cells #[.int .i64 4,.int .i64 (psz:Nat),.slice Ak Kn Ck,.int .i64 (pdv:Nat),.int .i64 (pfi:Nat),.int .i64 (pch:Nat),.slice A2 n2 C2,.slice A3 n3 C3] 47)):=B1.mono (Nat.le_of_lt lc)
 have ff:qe (f):=⟨by omega,by omega⟩
 go_loopw [69] (λz wr=>∃(i:Nat) (v':Value) (out':List R3),z= .int .i64 (i:Nat)∧i≤Kn∧vi wr fb (some ⟨g,off,none⟩) C ps v' out'∧ye fb (.slice Av out.length Cv) (w1.alloc (.cells #[.int .i64 4,.int .i64 (psz:Nat),.slice Ak Kn Ck,.int .i64 (pdv:Nat),.int .i64 (pfi:Nat),.int .i64 (pch:Nat),.slice A2 n2 C2,.slice A3 n3 C3] 47)) v' wr∧Hid (out'=(pk.take i).foldl (λo j=>vS ps d o j (f) c) out)) (λz _=>Kn-(intOf z).toNat)
 case atStart=>exact⟨0,_,out,rfl,Nat.zero_le _,H1,ye.refl _ _ _,rfl⟩
 case round =>
  obtain⟨i,v',out',rfl,hi,H2,S2,HO⟩:=hrel;by_cases hlt:i<Kn
  ·have hlp:i<pk.length:=by rw[←HKn.out];exact hlt
   have B2:Below fb (w1.alloc (.cells #[.int .i64 4,.int .i64 (psz:Nat),.slice Ak Kn Ck,.int .i64 (pdv:Nat),.int .i64 (pfi:Nat),.int .i64 (pch:Nat),.slice A2 n2 C2,.slice A3 n3 C3] 47)) wr:=S2.below (λj hj=>by have:=(qy H1.row hj).2;omega) (by have:=H1.has.lt;omega);obtain⟨b,o,eA,hbl,hbf,hcl⟩:=hki.resolve_left (by intro e;rw[e]at hlp;simp at hlp);have hck:=(B2.cell (p:=⟨b,o+i,none⟩) hbf).trans ((BW1.cell (p:=⟨b,o+i,none⟩) hbf).trans (hcl i hlp));have hkd:pk[i]<k:=hkids _ (List.getElem_mem hlp)
   have HG:Hid ((pk.take (i+1)).foldl (λo j=>vS ps d o j (f) c) out=vS ps d out' pk[i] (f) c):=by
    rw[List.take_succ_eq_append_getElem hlp,List.foldl_append,←HO.out];rfl
   have hcx:=hx wr v' out' pk[i] (f) c H2 hkd ff hc;have hint:(i:Int)<(Kn:Int):=by omega
   clear hcl;generalize pk[i]=kid at hck hkd HG hcx;subst eA
   go_wp2_with (first
    |((go_at_call 30)
      refine hcx.mono ?_;(rintro e w5 ⟨v5,rfl,H5,S5⟩)))
   go_roundw
   case rel=>exact⟨i+1,v5,_,by go_num,by omega,H5,S2.trans S5,HG.out.symm⟩
   case measure=>simp[intOf];omega
  ·obtain rfl:i=Kn:=by omega
   have HF:Hid (out'=pk.foldl (λo j=>vS ps d o j (f) c) out):=by
    rw[HO.out,HKn.out,List.take_length];exact rfl
   clear HO
   go_wp2
   go_end0
   refine⟨v',rfl,?_,(ye.of B1).trans S2⟩;rw[←HF.out];exact H2
theorem VI{w:World}{fb:Nat}{A:Option Addr}{C:Nat}{ps:List Pt}{v:Value}{out:List R3}(h:vi w fb A C ps v out)(hwf:XE ps)(d k:Nat)(f c:Int)(ho:¬256<out.length)(hh:jJ ps k f c=true)(hkind:(zK ps k).kind=5)
 (hx:∀(W:World) (v:Value) (out:List R3) (j:Nat) (f c:Int),vi W fb A C ps v out→j<k→qe f→qe c→Calls Tryz.prog 30 #[.pointer (some ⟨fb,0,none⟩),.int .i64 (j:Nat),.int .i64 f,.int .i64 c] W (vm W fb A C ps v (vS ps d out j f c))):
 Calls Tryz.prog 30 #[.pointer (some ⟨fb,0,none⟩),.int .i64 (k:Nat),.int .i64 f,.int .i64 c] w (vm w fb A C ps v (yj ps (vS ps d) out (zK ps k) f c)):=by
 have hR:=h;obtain⟨hkl,hf0,hc0,hfc⟩:=xj hh;have hsz:=hwf.size k hkl;have hfi:=hwf.first k hkl;have hkl2:=hwf.few k hkl;have hkids:=hwf.kids k hkl;have hcap:ps.length≤C∧C≤9223372036854775807:=h.cap
 have hkk:qe (k:Nat):=⟨by omega,by omega⟩
 have hf:qe f:=⟨by omega,by omega⟩
 have hc:qe c:=⟨by omega,by omega⟩
 have hhas:=QQ h hwf (k:Nat) f c hkk hf hc;rw[hh]at hhas
 obtain⟨Av,Cv,rfl⟩:∃Av Cv,v= .slice Av out.length Cv:=by
  rcases h.row.2 with⟨rfl,h0⟩|⟨g,cap,cur,rfl,_⟩
  ·exact⟨none,0,by rw[h0]⟩
  ·exact⟨_,_,rfl⟩
 obtain⟨g,off,Ak,Ck,A2,n2,C2,A3,n3,C3,rfl,hg0,hg,hki,hkc,hkm,hcell⟩:=yK h.pts hkl
 have EQ:yj ps (vS ps d) out (zK ps k) f c=vS ps d (vS ps d out ((zK ps k).kids.getD 0 0) f c) ((zK ps k).kids.getD 1 0) 0 (sz ps ((zK ps k).kids.getD 1 0)):=by
  unfold yj;rw[hkind];rfl
 rw[EQ];rw[hkind]at hcell;have hkm2:Ck≤9223372036854775807:=hkm;have htwo0:=hwf.snap k hkl hkind;generalize hps:(zK ps k).size=psz at *;generalize hpd:(zK ps k).dev=pdv at *;generalize hpf:(zK ps k).first=pfi at *;generalize hpc:(zK ps k).chunk=pch at *;generalize hpk:(zK ps k).kids=pk at *
 obtain⟨Kn,hKn⟩:∃Kn,Kn=pk.length:=⟨_,rfl⟩
 rw[←hKn]at hcell hkc hkl2;have HKn:Hid (Kn=pk.length):=hKn;have htwo:Kn=2:=by rw[hKn];exact htwo0
 clear htwo0 hps hpd hpf hpc hpk hKn;have h0:1<pk.length:=by rw[←HKn.out];omega
 obtain⟨b,o,eA,hbl,hbf,hcl⟩:=hki.resolve_left (by intro e;rw[e]at h0;simp at h0);have hc0k:=hcl 0 (by omega);have hc1k:=hcl 1 h0;have hkd:pk[0]<k:=hkids _ (List.getElem_mem _);have hkd1:pk[1]<k:=hkids _ (List.getElem_mem _);rw[show pk.getD 0 0=pk[0] by rw[List.getD_eq_getElem?_getD,List.getElem?_eq_getElem (by omega)];rfl,show pk.getD 1 0=pk[1] by rw[List.getD_eq_getElem?_getD,List.getElem?_eq_getElem h0];rfl];rw[Nat.add_zero]at hc0k;generalize pk[0]=kid at hc0k hkd ⊢;generalize pk[1]=kid1 at hc1k hkd1 ⊢;clear hcl;subst eA;subst htwo;have c0:=h.has.cell 0;have c1:=h.has.cell 1;have lc:=h.has.lt;simp only[jg,jd,jf]at c0 c1;have hooi:¬(256:Int)<(out.length:Int):=by omega
 have hkli:(k:Int)<(ps.length:Int):=by omega
 clear EQ hh hkind h;go_enter Tryz.func30,Tryz.ntmps30
 go_wp2_with (first
  |((go_at_call 61)
    refine hhas.mono ?_;rintro e w1 ⟨rfl,hb1⟩;have c0b:=za hb1 c0;have c1b:=za hb1 c1;have lcb:=Nat.lt_of_lt_of_le lc hb1.size;(have hcellb:=λj (hj:j<8)=>(hb1.cell (p:=⟨g,off+k*8+j,none⟩) hg).trans (hcell j hj)))
  |((refine zf 30 rfl ?_)
    (refine zb (some 30) _ rfl (by rfl) (qn _ _ rfl g off k ps.length C rfl rfl hkl w1) ?_))
  |((refine zf 31 rfl ?_)
    refine zb (some 31) _ rfl (by rfl) (qS _ rfl g (off+k*8) rfl w1 hcellb) ?_;have H1:=(hR.keep hb1).keep (zd w1 (.cells #[.int .i64 5,.int .i64 (psz:Nat),.slice (some ⟨b,o,none⟩) 2 Ck,.int .i64 (pdv:Nat),.int .i64 (pfi:Nat),.int .i64 (pch:Nat),.slice A2 n2 C2,.slice A3 n3 C3] 47));have P1:=ze.new w1 47 #[.int .i64 5,.int .i64 (psz:Nat),.slice (some ⟨b,o,none⟩) 2 Ck,.int .i64 (pdv:Nat),.int .i64 (pfi:Nat),.int .i64 (pch:Nat),.slice A2 n2 C2,.slice A3 n3 C3];have B1:Below w.heap.size w (w1.alloc (.cells #[.int .i64 5,.int .i64 (psz:Nat),.slice (some ⟨b,o,none⟩) 2 Ck,.int .i64 (pdv:Nat),.int .i64 (pfi:Nat),.int .i64 (pch:Nat),.slice A2 n2 C2,.slice A3 n3 C3] 47)):=hb1.alloc hb1.size _;have hck:=(B1.cell (p:=⟨b,o,none⟩) hbl).trans hc0k;(have hck1:=(B1.cell (p:=⟨b,o+1,none⟩) hbl).trans hc1k))
  |((go_at_call 30)
    refine(hx _ _ _ kid f c H1 hkd hf hc).mono ?_;rintro e w5 ⟨v5,rfl,H5,S5⟩;have B5:=S5.below (λj hj=>by have:=(qy H1.row hj).2;omega) (Nat.le_of_lt H1.has.lt);have hck5:=(B5.cell (p:=⟨b,o+1,none⟩) hbf).trans hck1;have P5:ze w5 w1.heap.size 47 #[.int .i64 5,.int .i64 (psz:Nat),.slice (some ⟨b,o,none⟩) 2 Ck,.int .i64 (pdv:Nat),.int .i64 (pfi:Nat),.int .i64 (pch:Nat),.slice A2 n2 C2,.slice A3 n3 C3]:=P1.onl S5.only (by rintro(e|e);omega;have:=(qy (hR.keep hb1).row e).1;omega);have p52:=P5.cell 2;(have lp5:=P5.lt))
  |((go_at_call 63)
    refine(Je H5 d kid1 (by omega) _ (hx _ _ _ kid1 0 (sz ps kid1:Nat) H5 hkd1 ⟨by decide,by decide⟩ ⟨by omega,by have:=hwf.size kid1 (by omega);omega⟩)).mono ?_;(rintro e w6 ⟨v6,rfl,H6,S6⟩)))
 go_end0
 exact⟨v6,rfl,H6,(ye.of B1).trans (S5.trans S6)⟩
theorem UY{w:World}{fb:Nat}{A:Option Addr}{C:Nat}{ps:List Pt}{v:Value}{out:List R3}(h:vi w fb A C ps v out)(hwf:XE ps)(d k:Nat)(f c:Int)(ho:¬256<out.length)(hh:jJ ps k f c=true)(hkind:(zK ps k).kind=6)
 (hx:∀(W:World) (v:Value) (out:List R3) (j:Nat) (f c:Int),vi W fb A C ps v out→j<k→qe f→qe c→Calls Tryz.prog 30 #[.pointer (some ⟨fb,0,none⟩),.int .i64 (j:Nat),.int .i64 f,.int .i64 c] W (vm W fb A C ps v (vS ps d out j f c))):
 Calls Tryz.prog 30 #[.pointer (some ⟨fb,0,none⟩),.int .i64 (k:Nat),.int .i64 f,.int .i64 c] w (vm w fb A C ps v (yj ps (vS ps d) out (zK ps k) f c)):=by
 have hR:=h;obtain⟨hkl,hf0,hc0,hfc⟩:=xj hh;have hsz:=hwf.size k hkl;have hfi:=hwf.first k hkl;have hkl2:=hwf.few k hkl;have hkids:=hwf.kids k hkl;have hcap:ps.length≤C∧C≤9223372036854775807:=h.cap
 have hkk:qe (k:Nat):=⟨by omega,by omega⟩
 have hf:qe f:=⟨by omega,by omega⟩
 have hc:qe c:=⟨by omega,by omega⟩
 have hhas:=QQ h hwf (k:Nat) f c hkk hf hc;rw[hh]at hhas
 obtain⟨Av,Cv,rfl⟩:∃Av Cv,v= .slice Av out.length Cv:=by
  rcases h.row.2 with⟨rfl,h0⟩|⟨g,cap,cur,rfl,_⟩
  ·exact⟨none,0,by rw[h0]⟩
  ·exact⟨_,_,rfl⟩
 obtain⟨g,off,Ak,Ck,A2,n2,C2,A3,n3,C3,rfl,hg0,hg,hki,hkc,hkm,hcell⟩:=yK h.pts hkl
 have EQ:yj ps (vS ps d) out (zK ps k) f c=(zK ps k).kids.foldl (λo j=>vS ps d o j (f) c) out:=by
  unfold yj;rw[hkind];rfl
 rw[EQ];rw[hkind]at hcell;have hkm2:Ck≤9223372036854775807:=hkm;generalize hps:(zK ps k).size=psz at *;generalize hpd:(zK ps k).dev=pdv at *;generalize hpf:(zK ps k).first=pfi at *;generalize hpc:(zK ps k).chunk=pch at *;generalize hpk:(zK ps k).kids=pk at *
 obtain⟨Kn,hKn⟩:∃Kn,Kn=pk.length:=⟨_,rfl⟩
 rw[←hKn]at hcell hkc hkl2;have HKn:Hid (Kn=pk.length):=hKn;clear hps hpd hpf hpc hpk hKn;have c0:=h.has.cell 0;have c1:=h.has.cell 1;have lc:=h.has.lt;simp only[jg,jd,jf]at c0 c1;have hooi:¬(256:Int)<(out.length:Int):=by omega
 have hkli:(k:Int)<(ps.length:Int):=by omega
 clear EQ hh hkind h;go_enter Tryz.func30,Tryz.ntmps30
 go_wp2_with (first
  |((go_at_call 61)
    refine hhas.mono ?_;rintro e w1 ⟨rfl,hb1⟩;have c0b:=za hb1 c0;have c1b:=za hb1 c1;have lcb:=Nat.lt_of_lt_of_le lc hb1.size;(have hcellb:=λj (hj:j<8)=>(hb1.cell (p:=⟨g,off+k*8+j,none⟩) hg).trans (hcell j hj)))
  |((refine zf 30 rfl ?_)
    (refine zb (some 30) _ rfl (by rfl) (qn _ _ rfl g off k ps.length C rfl rfl hkl w1) ?_))
  |((refine zf 31 rfl ?_)
    refine zb (some 31) _ rfl (by rfl) (qS _ rfl g (off+k*8) rfl w1 hcellb) ?_;have H1:=(hR.keep hb1).keep (zd w1 (.cells #[.int .i64 6,.int .i64 (psz:Nat),.slice Ak Kn Ck,.int .i64 (pdv:Nat),.int .i64 (pfi:Nat),.int .i64 (pch:Nat),.slice A2 n2 C2,.slice A3 n3 C3] 47));have P1:=ze.new w1 47 #[.int .i64 6,.int .i64 (psz:Nat),.slice Ak Kn Ck,.int .i64 (pdv:Nat),.int .i64 (pfi:Nat),.int .i64 (pch:Nat),.slice A2 n2 C2,.slice A3 n3 C3];(have B1:Below w.heap.size w (w1.alloc (.cells #[.int .i64 6,.int .i64 (psz:Nat),.slice Ak Kn Ck,.int .i64 (pdv:Nat),.int .i64 (pfi:Nat),.int .i64 (pch:Nat),.slice A2 n2 C2,.slice A3 n3 C3] 47)):=hb1.alloc hb1.size _)))
 have lW1:(w1.alloc (.cells #[.int .i64 6,.int .i64 (psz:Nat),.slice Ak Kn Ck,.int .i64 (pdv:Nat),.int .i64 (pfi:Nat),.int .i64 (pch:Nat),.slice A2 n2 C2,.slice A3 n3 C3] 47)).heap.size=w1.heap.size+1:=by simp
 have BW1:Below fb w (w1.alloc (.cells #[.int .i64 6,.int .i64 (psz:Nat),.slice Ak Kn Ck,.int .i64 (pdv:Nat),.int .i64 (pfi:Nat),.int .i64 (pch:Nat),.slice A2 n2 C2,.slice A3 n3 C3] 47)):=B1.mono (Nat.le_of_lt lc)
 have ff:qe (f):=⟨by omega,by omega⟩
 go_loopw [69] (λz wr=>∃(i:Nat) (v':Value) (out':List R3),z= .int .i64 (i:Nat)∧i≤Kn∧vi wr fb (some ⟨g,off,none⟩) C ps v' out'∧ye fb (.slice Av out.length Cv) (w1.alloc (.cells #[.int .i64 6,.int .i64 (psz:Nat),.slice Ak Kn Ck,.int .i64 (pdv:Nat),.int .i64 (pfi:Nat),.int .i64 (pch:Nat),.slice A2 n2 C2,.slice A3 n3 C3] 47)) v' wr∧Hid (out'=(pk.take i).foldl (λo j=>vS ps d o j (f) c) out)) (λz _=>Kn-(intOf z).toNat)
 case atStart=>exact⟨0,_,out,rfl,Nat.zero_le _,H1,ye.refl _ _ _,rfl⟩
 case round =>
  obtain⟨i,v',out',rfl,hi,H2,S2,HO⟩:=hrel;by_cases hlt:i<Kn
  ·have hlp:i<pk.length:=by rw[←HKn.out];exact hlt
   have B2:Below fb (w1.alloc (.cells #[.int .i64 6,.int .i64 (psz:Nat),.slice Ak Kn Ck,.int .i64 (pdv:Nat),.int .i64 (pfi:Nat),.int .i64 (pch:Nat),.slice A2 n2 C2,.slice A3 n3 C3] 47)) wr:=S2.below (λj hj=>by have:=(qy H1.row hj).2;omega) (by have:=H1.has.lt;omega);obtain⟨b,o,eA,hbl,hbf,hcl⟩:=hki.resolve_left (by intro e;rw[e]at hlp;simp at hlp);have hck:=(B2.cell (p:=⟨b,o+i,none⟩) hbf).trans ((BW1.cell (p:=⟨b,o+i,none⟩) hbf).trans (hcl i hlp));have hkd:pk[i]<k:=hkids _ (List.getElem_mem hlp)
   have HG:Hid ((pk.take (i+1)).foldl (λo j=>vS ps d o j (f) c) out=vS ps d out' pk[i] (f) c):=by
    rw[List.take_succ_eq_append_getElem hlp,List.foldl_append,←HO.out];rfl
   have hcx:=hx wr v' out' pk[i] (f) c H2 hkd ff hc;have hint:(i:Int)<(Kn:Int):=by omega
   clear hcl;generalize pk[i]=kid at hck hkd HG hcx;subst eA
   go_wp2_with (first
    |((go_at_call 30)
      refine hcx.mono ?_;(rintro e w5 ⟨v5,rfl,H5,S5⟩)))
   go_roundw
   case rel=>exact⟨i+1,v5,_,by go_num,by omega,H5,S2.trans S5,HG.out.symm⟩
   case measure=>simp[intOf];omega
  ·obtain rfl:i=Kn:=by omega
   have HF:Hid (out'=pk.foldl (λo j=>vS ps d o j (f) c) out):=by
    rw[HO.out,HKn.out,List.take_length];exact rfl
   clear HO
   go_wp2
   go_end0
   refine⟨v',rfl,?_,(ye.of B1).trans S2⟩;rw[←HF.out];exact H2
theorem Vr{w:World}{fb:Nat}{A:Option Addr}{C:Nat}{ps:List Pt}{v:Value}{out:List R3}(h:vi w fb A C ps v out)(hwf:XE ps)(d k:Nat)(f c:Int)(ho:¬256<out.length)(hh:jJ ps k f c=true)(hkind:(zK ps k).kind=7)
 (hx:∀(W:World) (v:Value) (out:List R3) (j:Nat) (f c:Int),vi W fb A C ps v out→j<k→qe f→qe c→Calls Tryz.prog 30 #[.pointer (some ⟨fb,0,none⟩),.int .i64 (j:Nat),.int .i64 f,.int .i64 c] W (vm W fb A C ps v (vS ps d out j f c))):
 Calls Tryz.prog 30 #[.pointer (some ⟨fb,0,none⟩),.int .i64 (k:Nat),.int .i64 f,.int .i64 c] w (vm w fb A C ps v (yj ps (vS ps d) out (zK ps k) f c)):=by
 have hR:=h;obtain⟨hkl,hf0,hc0,hfc⟩:=xj hh;have hsz:=hwf.size k hkl;have hfi:=hwf.first k hkl;have hkl2:=hwf.few k hkl;have hkids:=hwf.kids k hkl;have hcap:ps.length≤C∧C≤9223372036854775807:=h.cap
 have hkk:qe (k:Nat):=⟨by omega,by omega⟩
 have hf:qe f:=⟨by omega,by omega⟩
 have hc:qe c:=⟨by omega,by omega⟩
 have hhas:=QQ h hwf (k:Nat) f c hkk hf hc;rw[hh]at hhas
 obtain⟨Av,Cv,rfl⟩:∃Av Cv,v= .slice Av out.length Cv:=by
  rcases h.row.2 with⟨rfl,h0⟩|⟨g,cap,cur,rfl,_⟩
  ·exact⟨none,0,by rw[h0]⟩
  ·exact⟨_,_,rfl⟩
 obtain⟨g,off,Ak,Ck,A2,n2,C2,A3,n3,C3,rfl,hg0,hg,hki,hkc,hkm,hcell⟩:=yK h.pts hkl
 have EQ:yj ps (vS ps d) out (zK ps k) f c=vS ps d out ((zK ps k).kids.getD 0 0) 0 (sz ps ((zK ps k).kids.getD 0 0)):=by
  unfold yj;rw[hkind];rfl
 rw[EQ];rw[hkind]at hcell;have hkm2:Ck≤9223372036854775807:=hkm;have hone0:=hwf.one k hkl (by rw[hkind];decide);generalize hps:(zK ps k).size=psz at *;generalize hpd:(zK ps k).dev=pdv at *;generalize hpf:(zK ps k).first=pfi at *;generalize hpc:(zK ps k).chunk=pch at *;generalize hpk:(zK ps k).kids=pk at *
 obtain⟨Kn,hKn⟩:∃Kn,Kn=pk.length:=⟨_,rfl⟩
 rw[←hKn]at hcell hkc hkl2;have HKn:Hid (Kn=pk.length):=hKn;have hone:1≤Kn:=by rw[hKn];exact hone0
 clear hone0 hps hpd hpf hpc hpk hKn;have h0:0<pk.length:=by rw[←HKn.out];omega
 obtain⟨b,o,eA,hbl,hbf,hcl⟩:=hki.resolve_left (by intro e;rw[e]at h0;simp at h0);have hc0k:=hcl 0 h0;have hkd:pk[0]<k:=hkids _ (List.getElem_mem h0);rw[show pk.getD 0 0=pk[0] by rw[List.getD_eq_getElem?_getD,List.getElem?_eq_getElem h0];rfl];rw[Nat.add_zero]at hc0k;generalize pk[0]=kid at hc0k hkd ⊢;clear hcl;subst eA;have hKi:(0:Int)<(Kn:Int):=by omega
 have c0:=h.has.cell 0;have c1:=h.has.cell 1;have lc:=h.has.lt;simp only[jg,jd,jf]at c0 c1;have hooi:¬(256:Int)<(out.length:Int):=by omega
 have hkli:(k:Int)<(ps.length:Int):=by omega
 clear EQ hh hkind h;go_enter Tryz.func30,Tryz.ntmps30
 go_wp2_with (first
  |((go_at_call 61)
    refine hhas.mono ?_;rintro e w1 ⟨rfl,hb1⟩;have c0b:=za hb1 c0;have c1b:=za hb1 c1;have lcb:=Nat.lt_of_lt_of_le lc hb1.size;(have hcellb:=λj (hj:j<8)=>(hb1.cell (p:=⟨g,off+k*8+j,none⟩) hg).trans (hcell j hj)))
  |((refine zf 30 rfl ?_)
    (refine zb (some 30) _ rfl (by rfl) (qn _ _ rfl g off k ps.length C rfl rfl hkl w1) ?_))
  |((refine zf 31 rfl ?_)
    refine zb (some 31) _ rfl (by rfl) (qS _ rfl g (off+k*8) rfl w1 hcellb) ?_;have H1:=(hR.keep hb1).keep (zd w1 (.cells #[.int .i64 7,.int .i64 (psz:Nat),.slice (some ⟨b,o,none⟩) Kn Ck,.int .i64 (pdv:Nat),.int .i64 (pfi:Nat),.int .i64 (pch:Nat),.slice A2 n2 C2,.slice A3 n3 C3] 47));have P1:=ze.new w1 47 #[.int .i64 7,.int .i64 (psz:Nat),.slice (some ⟨b,o,none⟩) Kn Ck,.int .i64 (pdv:Nat),.int .i64 (pfi:Nat),.int .i64 (pch:Nat),.slice A2 n2 C2,.slice A3 n3 C3];have B1:Below w.heap.size w (w1.alloc (.cells #[.int .i64 7,.int .i64 (psz:Nat),.slice (some ⟨b,o,none⟩) Kn Ck,.int .i64 (pdv:Nat),.int .i64 (pfi:Nat),.int .i64 (pch:Nat),.slice A2 n2 C2,.slice A3 n3 C3] 47)):=hb1.alloc hb1.size _;(have hck:=(B1.cell (p:=⟨b,o,none⟩) hbl).trans hc0k))
  |((go_at_call 63)
    refine(Je H1 d kid (by omega) _ (hx _ _ _ kid 0 (sz ps kid:Nat) H1 hkd ⟨by decide,by decide⟩ ⟨by omega,by have:=hwf.size kid (by omega);omega⟩)).mono ?_;(rintro e w5 ⟨v5,rfl,H5,S5⟩)))
 go_end0
 exact⟨v5,rfl,H5,(ye.of B1).trans S5⟩
theorem KA{w:World}{fb:Nat}{A:Option Addr}{C:Nat}{ps:List Pt}{v:Value}{out:List R3}(h:vi w fb A C ps v out)(hwf:XE ps)(d k:Nat)(f c:Int)(ho:¬256<out.length)(hh:jJ ps k f c=true)(hkind:(zK ps k).kind=8)
 (hx:∀(W:World) (v:Value) (out:List R3) (j:Nat) (f c:Int),vi W fb A C ps v out→j<k→qe f→qe c→Calls Tryz.prog 30 #[.pointer (some ⟨fb,0,none⟩),.int .i64 (j:Nat),.int .i64 f,.int .i64 c] W (vm W fb A C ps v (vS ps d out j f c))):
 Calls Tryz.prog 30 #[.pointer (some ⟨fb,0,none⟩),.int .i64 (k:Nat),.int .i64 f,.int .i64 c] w (vm w fb A C ps v (yj ps (vS ps d) out (zK ps k) f c)):=by
 have hR:=h;obtain⟨hkl,hf0,hc0,hfc⟩:=xj hh;have hsz:=hwf.size k hkl;have hfi:=hwf.first k hkl;have hkl2:=hwf.few k hkl;have hkids:=hwf.kids k hkl;have hcap:ps.length≤C∧C≤9223372036854775807:=h.cap
 have hkk:qe (k:Nat):=⟨by omega,by omega⟩
 have hf:qe f:=⟨by omega,by omega⟩
 have hc:qe c:=⟨by omega,by omega⟩
 have hhas:=QQ h hwf (k:Nat) f c hkk hf hc;rw[hh]at hhas
 obtain⟨Av,Cv,rfl⟩:∃Av Cv,v= .slice Av out.length Cv:=by
  rcases h.row.2 with⟨rfl,h0⟩|⟨g,cap,cur,rfl,_⟩
  ·exact⟨none,0,by rw[h0]⟩
  ·exact⟨_,_,rfl⟩
 obtain⟨g,off,Ak,Ck,A2,n2,C2,A3,n3,C3,rfl,hg0,hg,hki,hkc,hkm,hcell⟩:=yK h.pts hkl
 have EQ:yj ps (vS ps d) out (zK ps k) f c=vS ps d out ((zK ps k).kids.getD 0 0) 0 (sz ps ((zK ps k).kids.getD 0 0)):=by
  unfold yj;rw[hkind];rfl
 rw[EQ];rw[hkind]at hcell;have hkm2:Ck≤9223372036854775807:=hkm;have hone0:=hwf.one k hkl (by rw[hkind];decide);generalize hps:(zK ps k).size=psz at *;generalize hpd:(zK ps k).dev=pdv at *;generalize hpf:(zK ps k).first=pfi at *;generalize hpc:(zK ps k).chunk=pch at *;generalize hpk:(zK ps k).kids=pk at *
 obtain⟨Kn,hKn⟩:∃Kn,Kn=pk.length:=⟨_,rfl⟩
 rw[←hKn]at hcell hkc hkl2;have HKn:Hid (Kn=pk.length):=hKn;have hone:1≤Kn:=by rw[hKn];exact hone0
 clear hone0 hps hpd hpf hpc hpk hKn;have h0:0<pk.length:=by rw[←HKn.out];omega
 obtain⟨b,o,eA,hbl,hbf,hcl⟩:=hki.resolve_left (by intro e;rw[e]at h0;simp at h0);have hc0k:=hcl 0 h0;have hkd:pk[0]<k:=hkids _ (List.getElem_mem h0);rw[show pk.getD 0 0=pk[0] by rw[List.getD_eq_getElem?_getD,List.getElem?_eq_getElem h0];rfl];rw[Nat.add_zero]at hc0k;generalize pk[0]=kid at hc0k hkd ⊢;clear hcl;subst eA;have hKi:(0:Int)<(Kn:Int):=by omega
 have c0:=h.has.cell 0;have c1:=h.has.cell 1;have lc:=h.has.lt;simp only[jg,jd,jf]at c0 c1;have hooi:¬(256:Int)<(out.length:Int):=by omega
 have hkli:(k:Int)<(ps.length:Int):=by omega
 clear EQ hh hkind h;go_enter Tryz.func30,Tryz.ntmps30
 go_wp2_with (first
  |((go_at_call 61)
    refine hhas.mono ?_;rintro e w1 ⟨rfl,hb1⟩;have c0b:=za hb1 c0;have c1b:=za hb1 c1;have lcb:=Nat.lt_of_lt_of_le lc hb1.size;(have hcellb:=λj (hj:j<8)=>(hb1.cell (p:=⟨g,off+k*8+j,none⟩) hg).trans (hcell j hj)))
  |((refine zf 30 rfl ?_)
    (refine zb (some 30) _ rfl (by rfl) (qn _ _ rfl g off k ps.length C rfl rfl hkl w1) ?_))
  |((refine zf 31 rfl ?_)
    refine zb (some 31) _ rfl (by rfl) (qS _ rfl g (off+k*8) rfl w1 hcellb) ?_;have H1:=(hR.keep hb1).keep (zd w1 (.cells #[.int .i64 8,.int .i64 (psz:Nat),.slice (some ⟨b,o,none⟩) Kn Ck,.int .i64 (pdv:Nat),.int .i64 (pfi:Nat),.int .i64 (pch:Nat),.slice A2 n2 C2,.slice A3 n3 C3] 47));have P1:=ze.new w1 47 #[.int .i64 8,.int .i64 (psz:Nat),.slice (some ⟨b,o,none⟩) Kn Ck,.int .i64 (pdv:Nat),.int .i64 (pfi:Nat),.int .i64 (pch:Nat),.slice A2 n2 C2,.slice A3 n3 C3];have B1:Below w.heap.size w (w1.alloc (.cells #[.int .i64 8,.int .i64 (psz:Nat),.slice (some ⟨b,o,none⟩) Kn Ck,.int .i64 (pdv:Nat),.int .i64 (pfi:Nat),.int .i64 (pch:Nat),.slice A2 n2 C2,.slice A3 n3 C3] 47)):=hb1.alloc hb1.size _;(have hck:=(B1.cell (p:=⟨b,o,none⟩) hbl).trans hc0k))
  |((go_at_call 63)
    refine(Je H1 d kid (by omega) _ (hx _ _ _ kid 0 (sz ps kid:Nat) H1 hkd ⟨by decide,by decide⟩ ⟨by omega,by have:=hwf.size kid (by omega);omega⟩)).mono ?_;(rintro e w5 ⟨v5,rfl,H5,S5⟩)))
 go_end0
 exact⟨v5,rfl,H5,(ye.of B1).trans S5⟩
theorem zay{fb:Nat}{A:Option Addr}{C:Nat}{ps:List Pt}(hwf:XE ps)(d:Nat):∀(w:World) (v:Value) (out:List R3) (k:Nat) (f c:Int),vi w fb A C ps v out→k<d→(k:Int)≤9223372036854775807→qe f→qe c→Calls Tryz.prog 30 #[.pointer (some ⟨fb,0,none⟩),.int .i64 (k:Nat),.int .i64 f,.int .i64 c] w (vm w fb A C ps v (vS ps d out k f c)):=by
 induction d with
 |zero=>intro w v out k f c _ hk;omega
 |succ d ih =>
  intro w v out k f c h hk hkm hf hc;by_cases hno:256<out.length∨jJ ps k f c=false
  ·rw[YL hno]
   exact ke h hwf k f c ⟨by omega,hkm⟩ hf hc hno
  ·have ho:¬256<out.length:=λe=>hno (.inl e)
   have hh:jJ ps k f c=true:=by
    cases e:jJ ps k f c with
    |true=>rfl
    |false=>exact absurd (.inr e) hno
   rw[Y3 ho hh];have hkl:=(xj hh).1;have hkk:=hwf.kind k hkl;have hx:∀(W:World) (v:Value) (out:List R3) (j:Nat) (f c:Int),vi W fb A C ps v out→j<k→qe f→qe c→Calls Tryz.prog 30 #[.pointer (some ⟨fb,0,none⟩),.int .i64 (j:Nat),.int .i64 f,.int .i64 c] W (vm W fb A C ps v (vS ps d out j f c)):=λW v out j f c H hj hf hc=>ih W v out j f c H (by omega) (by omega) hf hc
   rcases(by omega:(zK ps k).kind=1∨(zK ps k).kind=2∨(zK ps k).kind=3∨(zK ps k).kind=4∨(zK ps k).kind=5∨(zK ps k).kind=6∨(zK ps k).kind=7∨(zK ps k).kind=8)with e|e|e|e|e|e|e|e
   ·exact GW h hwf d k f c ho hh e hx
   ·exact kf h hwf d k f c ho hh e hx
   ·exact XY h hwf d k f c ho hh e hx
   ·exact XZ h hwf d k f c ho hh e hx
   ·exact VI h hwf d k f c ho hh e hx
   ·exact UY h hwf d k f c ho hh e hx
   ·exact Vr h hwf d k f c ho hh e hx
   ·exact KA h hwf d k f c ho hh e hx
def DR(w:World)(base:Nat)(v:Value)(l:List R3):Prop:=w.ownsRow base 42 3 v l.length (fp l)
theorem GF{w:World}{A:Option Addr}{C:Nat}{ps:List Pt}(hp:yP w w.heap.size A ps)(hcap:ps.length≤C∧C≤maxLen)(hwf:XE ps)(x0 x1 x3 x4:Value)(p f c:Int)(hpi:qe p)(hf:qe f)(hc:qe c):Calls Tryz.prog 15 #[.agg #[x0,x1,.slice A ps.length C,x3,x4],.int .i64 p,.int .i64 f,.int .i64 c] w λe w'=>∃v,e= .returned v∧DR w' w.heap.size v (ZA ps p f c)∧Below w.heap.size w w'∧(ZA ps p f c).length≤257:=by
 obtain⟨W,hW⟩:∃W,W=(w.alloc (.cells #[x0,x1,.slice A ps.length C,x3,x4] 32)).alloc (.cells #[.slice A ps.length C,.slice none 0 0] 78):=⟨_,rfl⟩
 have hBW:Below w.heap.size w W:=by rw[hW];exact qv w _ _
 have H0:vi W (w.heap.size+1) A C ps (.slice none 0 0) []:=by
  refine⟨by rw[hW];exact ze.new_at (by simp),⟨rfl,.inl ⟨rfl,rfl⟩⟩,?_,hcap,by simp⟩;intro i hi;obtain⟨g,off,u,e,h1,h2,h3,h4⟩:=hp i hi;exact⟨g,off,u,e,by omega,Nat.lt_of_lt_of_le h2 hBW.size,λj hj=>(hBW.cell (p:=⟨g,off+i*8+j,none⟩) h1).trans (h3 j hj),h4.keep hBW.size λk hk hB=>⟨hBW.block k hk,by omega⟩⟩
 have hcx:Calls Tryz.prog 30 #[.pointer (some ⟨w.heap.size+1,0,none⟩),.int .i64 p,.int .i64 f,.int .i64 c] W (vm W (w.heap.size+1) A C ps (.slice none 0 0) (ZA ps p f c)):=by
  unfold ZA;by_cases hh:jJ ps p f c=false
  ·rw[if_pos hh]
   exact ke H0 hwf p f c hpi hf hc (.inr hh)
  ·rw[if_neg hh]
   have hin:0≤p∧p<ps.length:=by
    have :jJ ps p f c=true:=by cases e:jJ ps p f c with
     |true=>rfl
     |false=>exact absurd e hh
    unfold jJ at this;simp only[decide_eq_true_eq]at this;omega
   obtain⟨k,rfl⟩:∃k:Nat,p=(k:Nat):=⟨p.toNat,by omega⟩
   rw[Int.toNat_natCast];exact zay hwf ps.length W _ [] k f c H0 (by omega) hpi.2 hf hc
 have HW:Hid (W=(w.alloc (.cells #[x0,x1,.slice A ps.length C,x3,x4] 32)).alloc (.cells #[.slice A ps.length C,.slice none 0 0] 78)):=hW;rw[hW]at hcx;clear hW;go_enter Tryz.func15,Tryz.ntmps15
 go_wp2_with (first
  |((go_at_call 30)
    refine hcx.mono ?_;rintro e w1 ⟨v1,rfl,H1,S1⟩;have q1:=H1.has.cell 1;have l1:=H1.has.lt;(simp only[jg,jd,jf]at q1)))
 go_ret
 rw[←HW.out]at S1;refine⟨v1,rfl,?_,hBW.trans ((S1.below (λj hj=>by cases hj) (Nat.le_of_lt H0.has.lt)).mono (by omega)),H1.few⟩;unfold DR;have hr:=H1.row;refine⟨hr.1,?_⟩;rcases hr.2 with h|⟨g,cap,cur,e,hb,r⟩
 ·exact .inl h
 ·exact .inr ⟨g,cap,cur,e,by omega,r⟩
end
section
open Go.ChangeShapes Go.WideShapes Go.ChangeAt Go.RowKit Go.MapKept Go.Shelf
variable {E:Nat→Prop}
theorem fZ(g:Nat)(cb:Array Value)(A:Option Addr)(n C:Nat)(l:List Nat)(p:Nat→Bool)(w:World)(eg:∀args w,(callFunc g args).run Tryz.prog w= .ok (.enter g args) w)(hn:n=l.length)(hn2:n≤100000)(P:Nat→Prop)(hl:Zs w P A l)
 (hf:∀(i:Nat) (hi:i<l.length) (W:World),Below w.heap.size w W→Calls Tryz.prog g (#[.int .i64 (l[i]:Nat)]++cb) W λe W'=>e= .returned (.bool (p l[i]))∧Below W.heap.size W W'):
 Calls Tryz.prog 141 #[.slice A n C,.func (.func g) #[] cb] w λe w'=>∃r:Int,e= .returned (.int .i64 r)∧decide (0≤r)=l.any p∧Below w.heap.size w w':=by
 have HF:Hid (∀(i:Nat) (hi:i<l.length) (W:World),Below w.heap.size w W→Calls Tryz.prog g (#[.int .i64 (l[i]:Nat)]++cb) W λe W'=>e= .returned (.bool (p l[i]))∧Below W.heap.size W W'):=hf;have HN:Hid (n=l.length):=hn;clear hf hn;go_enter Tryz.func141,Tryz.ntmps141
 go_wp2
 go_loopw [8] (λi wr=>∃k:Nat,k≤n∧i= .int .i64 k∧Hid ((l.take k).any p=false)∧Below w.heap.size w wr) (λi _=>n-(intOf i).toNat)
 case atStart=>exact⟨0,Nat.zero_le _,rfl,(by simp :(l.take 0).any p=false),Below.refl _ _⟩
 case round =>
  obtain⟨k,hk,rfl,HA,hb⟩:=hrel;by_cases hlt:k<n
  ·have hkl:k<l.length:=by rw[←HN.out];exact hlt
   obtain⟨b,off,eA,hbl,hp0,hcl⟩:=hl.resolve_left (by intro e;rw[e]at hkl;simp at hkl);have c0:=(hb.cell (p:=⟨b,off+k,none⟩) hbl).trans (hcl k hkl);have hc:=HF.out k hkl _ hb
   have HT:Hid ((l.take (k+1)).any p=p l[k]):=by
    rw[List.take_succ_eq_append_getElem hkl,List.any_append,HA.out];simp;exact trivial
   have HM:Hid (p l[k]=true→l.any p=true):=(λe=>List.any_eq_true.2 ⟨_,List.getElem_mem hkl,e⟩:p l[k]=true→l.any p=true)
   have hint:(k:Int)<(n:Int):=by omega
   clear hcl hl;generalize l[k]=x at *;subst eA;cases hp:p x<;>rw[hp]at hc
   ·have HP:Hid ((l.take (k+1)).any p=false):=by rw[HT.out,hp];exact rfl
    clear hp HT HM
    go_wp2_with (go_at_fn g;refine hc.mono ?_;rintro e w' ⟨rfl,hb2⟩)
    go_roundw
    case rel=>exact⟨k+1,hlt,by go_num,HP.out,hb.trans (hb2.mono hb.size)⟩
    case measure=>simp[intOf];omega
   ·have HP:Hid (l.any p=true):=HM.out hp
    clear hp HT HM
    go_wp2_with (go_at_fn g;refine hc.mono ?_;rintro e w' ⟨rfl,hb2⟩)
    go_ret
    exact⟨k,rfl,by rw[HP.out];simp,hb.trans (hb2.mono hb.size)⟩
  ·obtain rfl:k=n:=by omega
   have HE:Hid (l.any p=false):=by
    have:=HA.out;rw[HN.out,List.take_length]at this;exact this
   clear hl
   go_wp2
   go_ret
   exact⟨-1,rfl,by rw[HE.out];rfl,hb⟩
theorem U4(g:Nat)(cb:Array Value)(A:Option Addr)(n C:Nat)(l:List Nat)(p:Nat→Bool)(w:World)(eg:∀args w,(callFunc g args).run Tryz.prog w= .ok (.enter g args) w)(hn:n=l.length)(hn2:n≤100000)(P:Nat→Prop)(hl:Zs w P A l)
 (hf:∀(i:Nat) (hi:i<l.length) (W:World),Below w.heap.size w W→Calls Tryz.prog g (#[.int .i64 (l[i]:Nat)]++cb) W λe W'=>e= .returned (.bool (p l[i]))∧Below W.heap.size W W'):
 Calls Tryz.prog 115 #[.slice A n C,.func (.func g) #[] cb] w λe w'=>e= .returned (.bool (l.any p))∧Below w.heap.size w w':=by
 have hi:=fZ g cb A n C l p w eg hn hn2 P hl hf;clear hf hl eg hn hn2;go_enter Tryz.func115,Tryz.ntmps115
 go_wp2_with (first
  |((go_at_call 141)
    refine hi.mono ?_;rintro e w1 ⟨r,rfl,hr,hb⟩;have HR:Hid (decide (0≤r)=l.any p):=hr;(clear hr)))
 go_ret
 exact⟨zU (by rw[←HR.out]),hb⟩
theorem Qe(ps:List Pt)(p:Pt):qg (ps++ [p])=qg ps++ [Zt (qg ps) p]:=by
 unfold qg;rw[List.foldl_append];rfl
theorem vD(ps:List Pt):(qg ps).length=ps.length:=by
 unfold qg
 have :∀(ps:List Pt) (o:List Bool),(ps.foldl (λo p=>o++ [Zt o p]) o).length=o.length+ps.length:=by
  intro ps
  induction ps with
  |nil=>intro o;rfl
  |cons p ps ih=>intro o;rw[List.foldl_cons,ih];simp;omega
 have h:=this ps []
 simpa using h
theorem uj{w:World}{cb:Nat}{V:CV}{c:Ck}(h:zM E w cb V c)(bx k:Nat)(hk:k<c.parts.length)(hx:w.cell? ⟨bx,0,none⟩=some (.pointer (some ⟨cb,0,none⟩))):Calls Tryz.prog 116 #[.int .i64 (k:Nat),.pointer (some ⟨bx,0,none⟩)] w λe w'=>e= .returned (.bool ((qg c.parts).getD k false))∧Below w.heap.size w w':=by
 have c6:=h.has.cell 6;have lc:=h.has.lt;simp only[jg,jd,jf]at c6;obtain⟨e1,h0⟩|⟨g,cap,cur,e1,hb,hg,hn,hm,hs,ht⟩:=h.only.2
 ·omega
 ·have hlen:=vD c.parts
  have hcell:w.cell? ⟨g,k,none⟩=some (.bool ((qg c.parts).getD k false)):=by
   rw[cell_of_row w g k cur _ _ hg,←Array.getElem?_toList];have :(cur.toList.take (c.parts.length*1))[k]?=cur.toList[k]?:=List.getElem?_take_of_lt (by omega);rw[←this,ht,List.getElem?_map,List.getD_eq_getElem?_getD,List.getElem?_eq_getElem (by rw[hlen];exact hk)];rfl
  rw[e1]at c6;generalize (qg c.parts).getD k false=B at *;have hgl:=(Array.getElem?_eq_some_iff.1 hg).1;have hm2:cap≤9223372036854775807:=hm;clear h hg ht hs hlen e1 hm;generalize c.parts.length=L at *;have hkk:(k:Int)<(L:Int):=by omega
  go_enter Tryz.func116,Tryz.ntmps116
  go_wp2
  go_ret
  exact⟨rfl,Below.refl _ _⟩
end
section
open Go.ChangeShapes Go.WideShapes Go.ChangeAt Go.RowKit Go.MapKept
variable {E:Nat→Prop}
theorem Zv{P:Program}{ops:Array Oper}{Q:Exit→Act→World→Prop}{md:Region.Mode}{S:World→Prop}{m:Nat}{oi:Oper}(i:Nat)(d:Option Tmp){n:Nat}{listed:Array Bool}{a:Act}{w:World}(hi:ops[i]?=some oi)(hd:oi.dst=d)(him:i≠m)(hwf:ve md ops m i=true)
 (hs:Region.noSelect ops=true) (hf:Region.free md ops listed i=true) (hr:(Region.ready md ops listed).contains i=true)
 (hQ:∀c a w,Q (.panic c) (a.put d undef) w→Q (.panic c) a w) (hw:Region.wanted oi (yielded ops a.tmps)=false) (hS:S w)
 (h:vA P md ops Q S m n (listed.setIfInBounds i true) (a.put d undef) w):vA P md ops Q S m (n+1) listed a w:=by
 subst hd;exact vA.front hi him hwf (Region.noSelect_spec hs) hQ n listed a w (Region.free_spec hi hf) (by simpa using hr) (.inr ⟨hw,rfl⟩) hS h
structure uE (E:Nat→Prop) (w:World) (cb:Nat) (V:CV) (c:Ck) (os:List Bool):Prop where
 has:ze w cb 68 #[V.vd,.int .i64 (jI c.jour),V.vp,.int .i64 (jI c.expo),.bool c.ro,.map (some V.mb),V.vb,.int .i64 c.eat]
 devs:w.ownsRow cb 3 1 V.vd c.devs.length (c.devs.map λd=> .int .i64 (d:Nat))
 only :w.ownsRow cb 4 1 V.vb os.length (os.map .bool)
 prts:∃us,us.length=c.parts.length∧w.ownsRow cb 47 8 V.vp c.parts.length (F7 c.parts us)∧∀i (h:i<c.parts.length) (h':i<us.length),Qk w (λg=>¬V.own cb g∧E g) c.parts[i] us[i]
 nms:∃us,us.length=c.names.length∧w.heap[V.mb]?=some (.map (jm c.names us).toArray c.names.length)∧∀i (h:i<c.names.length) (h':i<us.length),XA w (λg=>¬V.own cb g∧E g) c.names[i].2 us[i]
 uniq:c.names.Pairwise (λx y=>x.1≠y.1)
 mlt:cb≤V.mb+1
 few:c.names.length≤100000∧c.devs.length≤100000
theorem zM.g{w:World}{cb:Nat}{V:CV}{c:Ck}(h:zM E w cb V c):uE E w cb V c (qg c.parts):=⟨h.has,h.devs,by rw[vD];exact h.only,h.prts,h.nms,h.uniq,h.mlt,h.few.2⟩
theorem uE.at{w:World}{cb:Nat}{V:CV}{c:Ck}{os:List Bool}(h:uE E w cb V c os)(e:os=qg c.parts)(hp:c.parts.length≤100000):zM E w cb V c:=by
 subst e;exact⟨h.has,h.devs,by have:=h.only;rw[vD]at this;exact this,h.prts,h.nms,h.uniq,h.mlt,hp,h.few⟩
theorem zJ{w:World}{base e size n g t:Nat}{v:Value}{xs:List Value}{cs:Array Value}(h:w.ownsRow base e size v n xs)(k:ze w g t cs)(ht:e≠t):v.ownBlock≠some g:=by
 rcases h.2 with⟨rfl,_⟩|⟨b,cap,cur,rfl,_,hb,_⟩
 ·intro q;cases q
 ·intro q
  have :b=g:=by cases q;rfl
  subst this;have k':w.heap[b]?=some (.cells cs t (0,0)):=k;rw[hb]at k';cases k';exact ht rfl
theorem yI{w:World}{b1 e1 s1 n1 b2 e2 s2 n2:Nat}{v1 v2:Value}{x1 x2:List Value}(h:w.ownsRow b1 e1 s1 v1 n1 x1)(k:w.ownsRow b2 e2 s2 v2 n2 x2)(ht:e1≠e2){g:Nat}(e:v2.ownBlock=some g):v1.ownBlock≠some g:=by
 rcases k.2 with⟨rfl,_⟩|⟨b,cap,cur,rfl,_,hb,_⟩
 ·cases e
 ·have :b=g:=by cases e;rfl
  subst this;exact zJ h (show ze w b e2 cur from hb) ht
theorem yH{w:World}{base e size n g clock:Nat}{v:Value}{xs:List Value}{es:Array MapEntry}(h:w.ownsRow base e size v n xs)(k:w.heap[g]?=some (.map es clock)):v.ownBlock≠some g:=by
 rcases h.2 with⟨rfl,_⟩|⟨b,cap,cur,rfl,_,hb,_⟩
 ·intro q;cases q
 ·intro q
  have :b=g:=by cases q;rfl
  subst this;rw[hb]at k;cases k
theorem Zc(w:World)(q:Addr)(v:Value){k:Nat}(h:k≠q.block){o:Obj}(ho:w.heap[k]?=some o):(w.setCell q v).heap[k]?=some o:=(Below.heap_setCell w q v k h).trans ho
section
variable {w w6:World} {cb:Nat} {V:CV} {c:Ck} {os:List Bool}
theorem uE.low(h:uE E w cb V c os){k:Nat}(hk:V.own cb k):cb≤k+1∧k<w.heap.size:=by
 rcases hk with rfl|e|e|e|rfl
 ·exact⟨Nat.le_succ _,h.has.lt⟩
 ·exact⟨Nat.le_succ_of_le (qy h.devs e).2,(qy h.devs e).1⟩
 ·obtain⟨us,_,hr,_⟩:=h.prts
  exact⟨Nat.le_succ_of_le (qy hr e).2,(qy hr e).1⟩
 ·exact⟨Nat.le_succ_of_le (qy h.only e).2,(qy h.only e).1⟩
 ·obtain⟨us,_,hm,_⟩:=h.nms
  exact⟨h.mlt,(Array.getElem?_eq_some_iff.1 hm).1⟩
theorem je.inner{V':CV}{w':World}(s:je cb V w V' w'):∀k,k<w.heap.size→¬V.own cb k→w'.heap[k]?=w.heap[k]?∧¬V'.own cb k:=λk hk hn=>⟨s.only.block k hk hn,λe=>by
 rcases s.new k e with e'|e'
 ·exact hn e'
 ·omega⟩
theorem je.innerE{V':CV}{w':World}(s:je cb V w V' w'):∀k,k<w.heap.size→(¬V.own cb k∧E k)→w'.heap[k]?=w.heap[k]?∧(¬V'.own cb k∧E k):=λk hk hn=>⟨(s.inner k hk hn.1).1,(s.inner k hk hn.1).2,hn.2⟩
theorem uE.putOnly(h:uE E w cb V c os){A6:Option Addr}{C6:Nat}{b:Bool}(hg:w.grownBy w6 V.vb.ownBlock)(hr:w6.ownsRow cb 4 1 (.slice A6 (os.length+1) C6) (os.length+1) (os.map .bool++ [.bool b]))(hw:(Value.slice A6 (os.length+1) C6).ownBlock=V.vb.ownBlock∨(Value.slice A6 (os.length+1) C6).ownBlock=some w.heap.size):
 uE E (w6.setCell ⟨cb,6,none⟩ (.slice A6 (os.length+1) C6)) cb { V with vb:= .slice A6 (os.length+1) C6 } c (os++ [b])∧je cb V w { V with vb:= .slice A6 (os.length+1) C6 } (w6.setCell ⟨cb,6,none⟩ (.slice A6 (os.length+1) C6)):=by
 obtain⟨us,e1,hp,hpi⟩:=h.prts;obtain⟨ms,e2,hm,hmi⟩:=h.nms
 have hst:je cb V w { V with vb:= .slice A6 (os.length+1) C6 } (w6.setCell ⟨cb,6,none⟩ (.slice A6 (os.length+1) C6)):=by
  refine⟨(⟨hg.os,hg.tape,hg.output,hg.size,λk hk hn=>hg.block k hk (λe=>hn (.inr (.inr (.inr (.inl e.symm)))))⟩:vM (V.own cb) w w6).set (.inl (.inl rfl)) _,λk hk=>?_⟩;rcases hk with e|e|e|e|e
  ·exact .inl (.inl e)
  ·exact .inl (.inr (.inl e))
  ·exact .inl (.inr (.inr (.inl e)))
  ·rcases hw with q|q
   ·exact .inl (.inr (.inr (.inr (.inl (q ▸ e)))))
   ·rw[show(Value.slice A6 (os.length+1) C6).ownBlock=some w.heap.size from q]at e
    cases e;exact .inr (Nat.le_refl _)
  ·exact .inl (.inr (.inr (.inr (.inr e))))
 have hcb:V.vb.ownBlock≠some cb:=zJ h.only h.has (by decide);have kept:∀ {k:Nat} {o:Obj},V.vb.ownBlock≠some k→k≠cb→w.heap[k]?=some o→(w6.setCell ⟨cb,6,none⟩ (.slice A6 (os.length+1) C6)).heap[k]?=some o:=λ{k o} h1 h2 ho=>Zc w6 _ _ h2 ((hg.block k (Array.getElem?_eq_some_iff.1 ho).1 (λe=>h1 e.symm)).trans ho)
 have hin:=hst.innerE (E:=E);have hsz:=hst.only.size;refine⟨⟨(zQ h.has hg hcb).putP 6 _,zI h.devs (λg o e ho=>kept (yI h.only h.devs (by decide) e) (by rintro rfl;exact zJ h.devs h.has (by decide) e) ho),?_,⟨us,e1,zI hp (λg o e ho=>kept (yI h.only hp (by decide) e) (by rintro rfl;exact zJ hp h.has (by decide) e) ho),λi a b=>(hpi i a b).keep hsz hin⟩,⟨ms,e2,kept (yH h.only hm) (by rintro e;have hh:w.heap[cb]?=some (.cells _ _ (0,0)):=h.has;rw[show V.mb=cb from e]at hm;rw[hm]at hh;cases hh) hm,λi a b=>(hmi i a b).keep hsz hin⟩,h.uniq,h.mlt,h.few⟩,hst⟩;rw[List.length_append,List.length_singleton,List.map_append,List.map_cons,List.map_nil]
 refine zI hr (λg o e ho=>Zc w6 _ _ (by
  show g≠cb;rintro rfl;rcases hw with q|q
  ·exact hcb (q ▸ e)
  ·rw[q]at e
   cases e
   exact absurd h.has.lt (Nat.lt_irrefl _)) ho)
theorem FU(l:List Pt)(p:Pt)(us:List (Value×Value×Value))(u:Value×Value×Value)(h:us.length=l.length):F7 (l++ [p]) (us++ [u])=F7 l us++(uW p u).toList:=by
 unfold F7;rw[List.zip_append h.symm,List.flatMap_append];simp
theorem uE.putPart(h:uE E w cb V c os){A6:Option Addr}{C6:Nat}{p:Pt}{u:Value×Value×Value}{us:List (Value×Value×Value)}(e1:us.length=c.parts.length)(hp:w.ownsRow cb 47 8 V.vp c.parts.length (F7 c.parts us))(hpi:∀i (h:i<c.parts.length) (h':i<us.length),Qk w (λg=>¬V.own cb g∧E g) c.parts[i] us[i])(hu:Qk w (λg=>¬V.own cb g∧E g) p u)(hg:w.grownBy w6 V.vp.ownBlock)(hr:w6.ownsRow cb 47 8 (.slice A6 (c.parts.length+1) C6) (c.parts.length+1) (F7 c.parts us++(uW p u).toList))(hw:(Value.slice A6 (c.parts.length+1) C6).ownBlock=V.vp.ownBlock∨(Value.slice A6 (c.parts.length+1) C6).ownBlock=some w.heap.size):
 uE E (w6.setCell ⟨cb,2,none⟩ (.slice A6 (c.parts.length+1) C6)) cb { V with vp:= .slice A6 (c.parts.length+1) C6 } { c with parts:=c.parts++ [p] } os∧je cb V w { V with vp:= .slice A6 (c.parts.length+1) C6 } (w6.setCell ⟨cb,2,none⟩ (.slice A6 (c.parts.length+1) C6)):=by
 obtain⟨ms,e2,hm,hmi⟩:=h.nms
 have hst:je cb V w { V with vp:= .slice A6 (c.parts.length+1) C6 } (w6.setCell ⟨cb,2,none⟩ (.slice A6 (c.parts.length+1) C6)):=by
  refine⟨(⟨hg.os,hg.tape,hg.output,hg.size,λk hk hn=>hg.block k hk (λe=>hn (.inr (.inr (.inl e.symm))))⟩:vM (V.own cb) w w6).set (.inl (.inl rfl)) _,λk hk=>?_⟩;rcases hk with e|e|e|e|e
  ·exact .inl (.inl e)
  ·exact .inl (.inr (.inl e))
  ·rcases hw with q|q
   ·exact .inl (.inr (.inr (.inl (q ▸ e))))
   ·rw[show(Value.slice A6 (c.parts.length+1) C6).ownBlock=some w.heap.size from q]at e
    cases e;exact .inr (Nat.le_refl _)
  ·exact .inl (.inr (.inr (.inr (.inl e))))
  ·exact .inl (.inr (.inr (.inr (.inr e))))
 have hcb:V.vp.ownBlock≠some cb:=zJ hp h.has (by decide);have kept:∀ {k:Nat} {o:Obj},V.vp.ownBlock≠some k→k≠cb→w.heap[k]?=some o→(w6.setCell ⟨cb,2,none⟩ (.slice A6 (c.parts.length+1) C6)).heap[k]?=some o:=λ{k o} h1 h2 ho=>Zc w6 _ _ h2 ((hg.block k (Array.getElem?_eq_some_iff.1 ho).1 (λe=>h1 e.symm)).trans ho)
 have hin:=hst.innerE (E:=E);have hsz:=hst.only.size;refine⟨⟨(zQ h.has hg hcb).putP 2 _,zI h.devs (λg o e ho=>kept (yI hp h.devs (by decide) e) (by rintro rfl;exact zJ h.devs h.has (by decide) e) ho),zI h.only (λg o e ho=>kept (yI hp h.only (by decide) e) (by rintro rfl;exact zJ h.only h.has (by decide) e) ho),⟨us++ [u],by simp[e1],?_,?_⟩,⟨ms,e2,kept (yH hp hm) (by rintro e;have hh:w.heap[cb]?=some (.cells _ _ (0,0)):=h.has;rw[show V.mb=cb from e]at hm;rw[hm]at hh;cases hh) hm,λi a b=>(hmi i a b).keep hsz hin⟩,h.uniq,h.mlt,h.few⟩,hst⟩
 ·rw[List.length_append,List.length_singleton,FU _ _ _ _ e1]
  refine zI hr (λg o e ho=>Zc w6 _ _ (by
   show g≠cb;rintro rfl;rcases hw with q|q
   ·exact hcb (q ▸ e)
   ·rw[q]at e
    cases e
    exact absurd h.has.lt (Nat.lt_irrefl _)) ho)
 ·intro i a b
  by_cases hi:i<c.parts.length
  ·simp only[List.getElem_append_left hi,List.getElem_append_left (show i<us.length by omega)]
   exact(hpi i hi (by omega)).keep hsz hin
  ·have :i=c.parts.length:=by simp at a;omega
   subst this;have q1:(c.parts++ [p])[c.parts.length]'a=p:=by rw[List.getElem_append_right (Nat.le_refl _)];simp
   have q2:(us++ [u])[c.parts.length]'b=u:=by rw[List.getElem_append_right (by omega)];simp[e1]
   rw[q1,q2];exact hu.keep hsz hin
theorem uE.keep(h:uE E w cb V c os){w':World}(hb:Below w.heap.size w w'):uE E w' cb V c os:=by
 have hk:∀k,k<w.heap.size→(¬V.own cb k∧E k)→w'.heap[k]?=w.heap[k]?∧(¬V.own cb k∧E k):=λk hk hn=>⟨hb.block k hk,hn⟩
 have hr:∀ {e size n:Nat} {v:Value} {xs:List Value},w.ownsRow cb e size v n xs→w'.ownsRow cb e size v n xs:=λhh=>zI hh (λg o e ho=>(hb.block g (Array.getElem?_eq_some_iff.1 ho).1).trans ho)
 obtain⟨us,e1,r1,i1⟩:=h.prts;obtain⟨ms,e2,r2,i2⟩:=h.nms;exact⟨h.has.below hb h.has.lt,hr h.devs,hr h.only,⟨us,e1,hr r1,λi a b=>(i1 i a b).keep hb.size hk⟩,⟨ms,e2,(hb.block _ (Array.getElem?_eq_some_iff.1 r2).1).trans r2,λi a b=>(i2 i a b).keep hb.size hk⟩,h.uniq,h.mlt,h.few⟩
theorem je.of{w':World}(hb:Below w.heap.size w w'):je cb V w V w':=⟨.of hb,λ_ h=> .inl h⟩
end
end
end Go.Proofs.YtebcfkigbbolaaaGreatDoor
