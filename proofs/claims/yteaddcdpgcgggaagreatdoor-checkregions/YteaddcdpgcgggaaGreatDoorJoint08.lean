import Derived.Test.YteaddcdpgcgggaaGreatDoorJoint07
import Derived.Shelf.Abstract
import Derived.Test.YteaddcdpgcgggaaGreatDoorJoint03
import Derived.Test.YteaddcdpgcgggaaGreatDoorJoint06
import Derived.Test.YteaddcdpgcgggaaGreatDoorJoint02
namespace Go.Proofs.YteaddcdpgcgggaaGreatDoor
set_option linter.unusedVariables false
set_option maxRecDepth 100000
set_option maxHeartbeats 40000000
section
open Go.ChangeShapes Go.WideShapes Go.ChangeAt Go.RowKit Go.MapKept
theorem U5{w:World}{fb:Nat}{A:Option Addr}{C:Nat}{ps:List Pt}{v:Value}{out:List R3}(h:vX w fb A C ps v out)(hwf:Jv ps)(d k:Nat)(f c:Int)(ho:¬256<out.length)(hh:jF ps k f c=true)(hkind:(zx ps k).kind=6)
 (hx:∀(W:World) (v:Value) (out:List R3) (j:Nat) (f c:Int),vX W fb A C ps v out→j<k→qo f→qo c→Calls Tryz.prog 22 #[.pointer (some ⟨fb,0,none⟩),.int .i64 (j:Nat),.int .i64 f,.int .i64 c] W (vY W fb A C ps v (yx ps d out j f c))):
 Calls Tryz.prog 22 #[.pointer (some ⟨fb,0,none⟩),.int .i64 (k:Nat),.int .i64 f,.int .i64 c] w (vY w fb A C ps v (xb ps (yx ps d) out (zx ps k) f c)):=by
 have hR:=h;obtain⟨hkl,hf0,hc0,hfc⟩:=Zr hh;have hsz:=hwf.size k hkl;have hfi:=hwf.first k hkl;have hkl2:=hwf.few k hkl;have hkids:=hwf.kids k hkl;have hcap:ps.length≤C∧C≤9223372036854775807:=h.cap
 have hkk:qo (k:Nat):=⟨by omega,by omega⟩
 have hf:qo f:=⟨by omega,by omega⟩
 have hc:qo c:=⟨by omega,by omega⟩
 have hhas:=Jh h hwf (k:Nat) f c hkk hf hc;rw[hh]at hhas
 obtain⟨Av,Cv,rfl⟩:∃Av Cv,v= .slice Av out.length Cv:=by
  rcases h.row.2 with⟨rfl,h0⟩|⟨g,cap,cur,rfl,_⟩
  ·exact⟨none,0,by rw[h0]⟩
  ·exact⟨_,_,rfl⟩
 obtain⟨g,off,Ak,Ck,A2,n2,C2,A3,n3,C3,rfl,hg0,hg,hki,hkc,hkm,hcell⟩:=jw h.pts hkl
 have EQ:xb ps (yx ps d) out (zx ps k) f c=(zx ps k).kids.foldl (λo j=>yx ps d o j (f) c) out:=by
  unfold xb;rw[hkind];rfl
 rw[EQ];rw[hkind]at hcell;have hkm2:Ck≤9223372036854775807:=hkm;generalize hps:(zx ps k).size=psz at *;generalize hpd:(zx ps k).dev=pdv at *;generalize hpf:(zx ps k).first=pfi at *;generalize hpc:(zx ps k).chunk=pch at *;generalize hpk:(zx ps k).kids=pk at *
 obtain⟨Kn,hKn⟩:∃Kn,Kn=pk.length:=⟨_,rfl⟩
 rw[←hKn]at hcell hkc hkl2;have HKn:Hid (Kn=pk.length):=hKn;clear hps hpd hpf hpc hpk hKn;have c0:=h.has.cell 0;have c1:=h.has.cell 1;have lc:=h.has.lt;simp only[qH,qG,qI]at c0 c1;have hooi:¬(256:Int)<(out.length:Int):=by omega
 have hkli:(k:Int)<(ps.length:Int):=by omega
 clear EQ hh hkind h;go_enter Tryz.func22,Tryz.ntmps22
 go_wp2_with (first
  |((go_at_call 45)
    refine hhas.mono ?_;rintro e w1 ⟨rfl,hb1⟩;have c0b:=za hb1 c0;have c1b:=za hb1 c1;have lcb:=Nat.lt_of_lt_of_le lc hb1.size;(have hcellb:=λj (hj:j<8)=>(hb1.cell (p:=⟨g,off+k*8+j,none⟩) hg).trans (hcell j hj)))
  |((refine zi 30 rfl ?_)
    (refine zd (some 30) _ rfl (by rfl) (zE _ _ rfl g off k ps.length C rfl rfl hkl w1) ?_))
  |((refine zi 31 rfl ?_)
    refine zd (some 31) _ rfl (by rfl) (qe _ rfl g (off+k*8) rfl w1 hcellb) ?_;have H1:=(hR.keep hb1).keep (zl w1 (.cells #[.int .i64 6,.int .i64 (psz:Nat),.slice Ak Kn Ck,.int .i64 (pdv:Nat),.int .i64 (pfi:Nat),.int .i64 (pch:Nat),.slice A2 n2 C2,.slice A3 n3 C3] 65));have P1:=zm.new w1 65 #[.int .i64 6,.int .i64 (psz:Nat),.slice Ak Kn Ck,.int .i64 (pdv:Nat),.int .i64 (pfi:Nat),.int .i64 (pch:Nat),.slice A2 n2 C2,.slice A3 n3 C3];(have B1:Below w.heap.size w (w1.alloc (.cells #[.int .i64 6,.int .i64 (psz:Nat),.slice Ak Kn Ck,.int .i64 (pdv:Nat),.int .i64 (pfi:Nat),.int .i64 (pch:Nat),.slice A2 n2 C2,.slice A3 n3 C3] 65)):=hb1.alloc hb1.size _)))
 have lW1:(w1.alloc (.cells #[.int .i64 6,.int .i64 (psz:Nat),.slice Ak Kn Ck,.int .i64 (pdv:Nat),.int .i64 (pfi:Nat),.int .i64 (pch:Nat),.slice A2 n2 C2,.slice A3 n3 C3] 65)).heap.size=w1.heap.size+1:=by simp
 have BW1:Below fb w (w1.alloc (.cells #[.int .i64 6,.int .i64 (psz:Nat),.slice Ak Kn Ck,.int .i64 (pdv:Nat),.int .i64 (pfi:Nat),.int .i64 (pch:Nat),.slice A2 n2 C2,.slice A3 n3 C3] 65)):=B1.mono (Nat.le_of_lt lc)
 have ff:qo (f):=⟨by omega,by omega⟩
 go_loopw [69] (λz wr=>∃(i:Nat) (v':Value) (out':List R3),z= .int .i64 (i:Nat)∧i≤Kn∧vX wr fb (some ⟨g,off,none⟩) C ps v' out'∧yN fb (.slice Av out.length Cv) (w1.alloc (.cells #[.int .i64 6,.int .i64 (psz:Nat),.slice Ak Kn Ck,.int .i64 (pdv:Nat),.int .i64 (pfi:Nat),.int .i64 (pch:Nat),.slice A2 n2 C2,.slice A3 n3 C3] 65)) v' wr∧Hid (out'=(pk.take i).foldl (λo j=>yx ps d o j (f) c) out)) (λz _=>Kn-(intOf z).toNat)
 case atStart=>exact⟨0,_,out,rfl,Nat.zero_le _,H1,yN.refl _ _ _,rfl⟩
 case round =>
  obtain⟨i,v',out',rfl,hi,H2,S2,HO⟩:=hrel;by_cases hlt:i<Kn
  ·have hlp:i<pk.length:=by rw[←HKn.out];exact hlt
   have B2:Below fb (w1.alloc (.cells #[.int .i64 6,.int .i64 (psz:Nat),.slice Ak Kn Ck,.int .i64 (pdv:Nat),.int .i64 (pfi:Nat),.int .i64 (pch:Nat),.slice A2 n2 C2,.slice A3 n3 C3] 65)) wr:=S2.below (λj hj=>by have:=(qR H1.row hj).2;omega) (by have:=H1.has.lt;omega);obtain⟨b,o,eA,hbl,hbf,hcl⟩:=hki.resolve_left (by intro e;rw[e]at hlp;simp at hlp);have hck:=(B2.cell (p:=⟨b,o+i,none⟩) hbf).trans ((BW1.cell (p:=⟨b,o+i,none⟩) hbf).trans (hcl i hlp));have hkd:pk[i]<k:=hkids _ (List.getElem_mem hlp)
   have HG:Hid ((pk.take (i+1)).foldl (λo j=>yx ps d o j (f) c) out=yx ps d out' pk[i] (f) c):=by
    rw[List.take_succ_eq_append_getElem hlp,List.foldl_append,←HO.out];rfl
   have hcx:=hx wr v' out' pk[i] (f) c H2 hkd ff hc;have hint:(i:Int)<(Kn:Int):=by omega
   clear hcl;generalize pk[i]=kid at hck hkd HG hcx;subst eA
   go_wp2_with (first
    |((go_at_call 22)
      refine hcx.mono ?_;(rintro e w5 ⟨v5,rfl,H5,S5⟩)))
   go_roundw
   case rel=>exact⟨i+1,v5,_,by go_num,by omega,H5,S2.trans S5,HG.out.symm⟩
   case measure=>simp[intOf];omega
  ·obtain rfl:i=Kn:=by omega
   have HF:Hid (out'=pk.foldl (λo j=>yx ps d o j (f) c) out):=by
    rw[HO.out,HKn.out,List.take_length];exact rfl
   clear HO
   go_wp2
   go_end0
   refine⟨v',rfl,?_,(yN.of B1).trans S2⟩;rw[←HF.out];exact H2
theorem Yb{w:World}{fb:Nat}{A:Option Addr}{C:Nat}{ps:List Pt}{v:Value}{out:List R3}(h:vX w fb A C ps v out)(hwf:Jv ps)(d k:Nat)(f c:Int)(ho:¬256<out.length)(hh:jF ps k f c=true)(hkind:(zx ps k).kind=7)
 (hx:∀(W:World) (v:Value) (out:List R3) (j:Nat) (f c:Int),vX W fb A C ps v out→j<k→qo f→qo c→Calls Tryz.prog 22 #[.pointer (some ⟨fb,0,none⟩),.int .i64 (j:Nat),.int .i64 f,.int .i64 c] W (vY W fb A C ps v (yx ps d out j f c))):
 Calls Tryz.prog 22 #[.pointer (some ⟨fb,0,none⟩),.int .i64 (k:Nat),.int .i64 f,.int .i64 c] w (vY w fb A C ps v (xb ps (yx ps d) out (zx ps k) f c)):=by
 have hR:=h;obtain⟨hkl,hf0,hc0,hfc⟩:=Zr hh;have hsz:=hwf.size k hkl;have hfi:=hwf.first k hkl;have hkl2:=hwf.few k hkl;have hkids:=hwf.kids k hkl;have hcap:ps.length≤C∧C≤9223372036854775807:=h.cap
 have hkk:qo (k:Nat):=⟨by omega,by omega⟩
 have hf:qo f:=⟨by omega,by omega⟩
 have hc:qo c:=⟨by omega,by omega⟩
 have hhas:=Jh h hwf (k:Nat) f c hkk hf hc;rw[hh]at hhas
 obtain⟨Av,Cv,rfl⟩:∃Av Cv,v= .slice Av out.length Cv:=by
  rcases h.row.2 with⟨rfl,h0⟩|⟨g,cap,cur,rfl,_⟩
  ·exact⟨none,0,by rw[h0]⟩
  ·exact⟨_,_,rfl⟩
 obtain⟨g,off,Ak,Ck,A2,n2,C2,A3,n3,C3,rfl,hg0,hg,hki,hkc,hkm,hcell⟩:=jw h.pts hkl
 have EQ:xb ps (yx ps d) out (zx ps k) f c=yx ps d out ((zx ps k).kids.getD 0 0) 0 (sz ps ((zx ps k).kids.getD 0 0)):=by
  unfold xb;rw[hkind];rfl
 rw[EQ];rw[hkind]at hcell;have hkm2:Ck≤9223372036854775807:=hkm;have hone0:=hwf.one k hkl (by rw[hkind];decide);generalize hps:(zx ps k).size=psz at *;generalize hpd:(zx ps k).dev=pdv at *;generalize hpf:(zx ps k).first=pfi at *;generalize hpc:(zx ps k).chunk=pch at *;generalize hpk:(zx ps k).kids=pk at *
 obtain⟨Kn,hKn⟩:∃Kn,Kn=pk.length:=⟨_,rfl⟩
 rw[←hKn]at hcell hkc hkl2;have HKn:Hid (Kn=pk.length):=hKn;have hone:1≤Kn:=by rw[hKn];exact hone0
 clear hone0 hps hpd hpf hpc hpk hKn;have h0:0<pk.length:=by rw[←HKn.out];omega
 obtain⟨b,o,eA,hbl,hbf,hcl⟩:=hki.resolve_left (by intro e;rw[e]at h0;simp at h0);have hc0k:=hcl 0 h0;have hkd:pk[0]<k:=hkids _ (List.getElem_mem h0);rw[show pk.getD 0 0=pk[0] by rw[List.getD_eq_getElem?_getD,List.getElem?_eq_getElem h0];rfl];rw[Nat.add_zero]at hc0k;generalize pk[0]=kid at hc0k hkd ⊢;clear hcl;subst eA;have hKi:(0:Int)<(Kn:Int):=by omega
 have c0:=h.has.cell 0;have c1:=h.has.cell 1;have lc:=h.has.lt;simp only[qH,qG,qI]at c0 c1;have hooi:¬(256:Int)<(out.length:Int):=by omega
 have hkli:(k:Int)<(ps.length:Int):=by omega
 clear EQ hh hkind h;go_enter Tryz.func22,Tryz.ntmps22
 go_wp2_with (first
  |((go_at_call 45)
    refine hhas.mono ?_;rintro e w1 ⟨rfl,hb1⟩;have c0b:=za hb1 c0;have c1b:=za hb1 c1;have lcb:=Nat.lt_of_lt_of_le lc hb1.size;(have hcellb:=λj (hj:j<8)=>(hb1.cell (p:=⟨g,off+k*8+j,none⟩) hg).trans (hcell j hj)))
  |((refine zi 30 rfl ?_)
    (refine zd (some 30) _ rfl (by rfl) (zE _ _ rfl g off k ps.length C rfl rfl hkl w1) ?_))
  |((refine zi 31 rfl ?_)
    refine zd (some 31) _ rfl (by rfl) (qe _ rfl g (off+k*8) rfl w1 hcellb) ?_;have H1:=(hR.keep hb1).keep (zl w1 (.cells #[.int .i64 7,.int .i64 (psz:Nat),.slice (some ⟨b,o,none⟩) Kn Ck,.int .i64 (pdv:Nat),.int .i64 (pfi:Nat),.int .i64 (pch:Nat),.slice A2 n2 C2,.slice A3 n3 C3] 65));have P1:=zm.new w1 65 #[.int .i64 7,.int .i64 (psz:Nat),.slice (some ⟨b,o,none⟩) Kn Ck,.int .i64 (pdv:Nat),.int .i64 (pfi:Nat),.int .i64 (pch:Nat),.slice A2 n2 C2,.slice A3 n3 C3];have B1:Below w.heap.size w (w1.alloc (.cells #[.int .i64 7,.int .i64 (psz:Nat),.slice (some ⟨b,o,none⟩) Kn Ck,.int .i64 (pdv:Nat),.int .i64 (pfi:Nat),.int .i64 (pch:Nat),.slice A2 n2 C2,.slice A3 n3 C3] 65)):=hb1.alloc hb1.size _;(have hck:=(B1.cell (p:=⟨b,o,none⟩) hbl).trans hc0k))
  |((go_at_call 47)
    refine(JK H1 d kid (by omega) _ (hx _ _ _ kid 0 (sz ps kid:Nat) H1 hkd ⟨by decide,by decide⟩ ⟨by omega,by have:=hwf.size kid (by omega);omega⟩)).mono ?_;(rintro e w5 ⟨v5,rfl,H5,S5⟩)))
 go_end0
 exact⟨v5,rfl,H5,(yN.of B1).trans S5⟩
theorem kg{w:World}{fb:Nat}{A:Option Addr}{C:Nat}{ps:List Pt}{v:Value}{out:List R3}(h:vX w fb A C ps v out)(hwf:Jv ps)(d k:Nat)(f c:Int)(ho:¬256<out.length)(hh:jF ps k f c=true)(hkind:(zx ps k).kind=8)
 (hx:∀(W:World) (v:Value) (out:List R3) (j:Nat) (f c:Int),vX W fb A C ps v out→j<k→qo f→qo c→Calls Tryz.prog 22 #[.pointer (some ⟨fb,0,none⟩),.int .i64 (j:Nat),.int .i64 f,.int .i64 c] W (vY W fb A C ps v (yx ps d out j f c))):
 Calls Tryz.prog 22 #[.pointer (some ⟨fb,0,none⟩),.int .i64 (k:Nat),.int .i64 f,.int .i64 c] w (vY w fb A C ps v (xb ps (yx ps d) out (zx ps k) f c)):=by
 have hR:=h;obtain⟨hkl,hf0,hc0,hfc⟩:=Zr hh;have hsz:=hwf.size k hkl;have hfi:=hwf.first k hkl;have hkl2:=hwf.few k hkl;have hkids:=hwf.kids k hkl;have hcap:ps.length≤C∧C≤9223372036854775807:=h.cap
 have hkk:qo (k:Nat):=⟨by omega,by omega⟩
 have hf:qo f:=⟨by omega,by omega⟩
 have hc:qo c:=⟨by omega,by omega⟩
 have hhas:=Jh h hwf (k:Nat) f c hkk hf hc;rw[hh]at hhas
 obtain⟨Av,Cv,rfl⟩:∃Av Cv,v= .slice Av out.length Cv:=by
  rcases h.row.2 with⟨rfl,h0⟩|⟨g,cap,cur,rfl,_⟩
  ·exact⟨none,0,by rw[h0]⟩
  ·exact⟨_,_,rfl⟩
 obtain⟨g,off,Ak,Ck,A2,n2,C2,A3,n3,C3,rfl,hg0,hg,hki,hkc,hkm,hcell⟩:=jw h.pts hkl
 have EQ:xb ps (yx ps d) out (zx ps k) f c=yx ps d out ((zx ps k).kids.getD 0 0) 0 (sz ps ((zx ps k).kids.getD 0 0)):=by
  unfold xb;rw[hkind];rfl
 rw[EQ];rw[hkind]at hcell;have hkm2:Ck≤9223372036854775807:=hkm;have hone0:=hwf.one k hkl (by rw[hkind];decide);generalize hps:(zx ps k).size=psz at *;generalize hpd:(zx ps k).dev=pdv at *;generalize hpf:(zx ps k).first=pfi at *;generalize hpc:(zx ps k).chunk=pch at *;generalize hpk:(zx ps k).kids=pk at *
 obtain⟨Kn,hKn⟩:∃Kn,Kn=pk.length:=⟨_,rfl⟩
 rw[←hKn]at hcell hkc hkl2;have HKn:Hid (Kn=pk.length):=hKn;have hone:1≤Kn:=by rw[hKn];exact hone0
 clear hone0 hps hpd hpf hpc hpk hKn;have h0:0<pk.length:=by rw[←HKn.out];omega
 obtain⟨b,o,eA,hbl,hbf,hcl⟩:=hki.resolve_left (by intro e;rw[e]at h0;simp at h0);have hc0k:=hcl 0 h0;have hkd:pk[0]<k:=hkids _ (List.getElem_mem h0);rw[show pk.getD 0 0=pk[0] by rw[List.getD_eq_getElem?_getD,List.getElem?_eq_getElem h0];rfl];rw[Nat.add_zero]at hc0k;generalize pk[0]=kid at hc0k hkd ⊢;clear hcl;subst eA;have hKi:(0:Int)<(Kn:Int):=by omega
 have c0:=h.has.cell 0;have c1:=h.has.cell 1;have lc:=h.has.lt;simp only[qH,qG,qI]at c0 c1;have hooi:¬(256:Int)<(out.length:Int):=by omega
 have hkli:(k:Int)<(ps.length:Int):=by omega
 clear EQ hh hkind h;go_enter Tryz.func22,Tryz.ntmps22
 go_wp2_with (first
  |((go_at_call 45)
    refine hhas.mono ?_;rintro e w1 ⟨rfl,hb1⟩;have c0b:=za hb1 c0;have c1b:=za hb1 c1;have lcb:=Nat.lt_of_lt_of_le lc hb1.size;(have hcellb:=λj (hj:j<8)=>(hb1.cell (p:=⟨g,off+k*8+j,none⟩) hg).trans (hcell j hj)))
  |((refine zi 30 rfl ?_)
    (refine zd (some 30) _ rfl (by rfl) (zE _ _ rfl g off k ps.length C rfl rfl hkl w1) ?_))
  |((refine zi 31 rfl ?_)
    refine zd (some 31) _ rfl (by rfl) (qe _ rfl g (off+k*8) rfl w1 hcellb) ?_;have H1:=(hR.keep hb1).keep (zl w1 (.cells #[.int .i64 8,.int .i64 (psz:Nat),.slice (some ⟨b,o,none⟩) Kn Ck,.int .i64 (pdv:Nat),.int .i64 (pfi:Nat),.int .i64 (pch:Nat),.slice A2 n2 C2,.slice A3 n3 C3] 65));have P1:=zm.new w1 65 #[.int .i64 8,.int .i64 (psz:Nat),.slice (some ⟨b,o,none⟩) Kn Ck,.int .i64 (pdv:Nat),.int .i64 (pfi:Nat),.int .i64 (pch:Nat),.slice A2 n2 C2,.slice A3 n3 C3];have B1:Below w.heap.size w (w1.alloc (.cells #[.int .i64 8,.int .i64 (psz:Nat),.slice (some ⟨b,o,none⟩) Kn Ck,.int .i64 (pdv:Nat),.int .i64 (pfi:Nat),.int .i64 (pch:Nat),.slice A2 n2 C2,.slice A3 n3 C3] 65)):=hb1.alloc hb1.size _;(have hck:=(B1.cell (p:=⟨b,o,none⟩) hbl).trans hc0k))
  |((go_at_call 47)
    refine(JK H1 d kid (by omega) _ (hx _ _ _ kid 0 (sz ps kid:Nat) H1 hkd ⟨by decide,by decide⟩ ⟨by omega,by have:=hwf.size kid (by omega);omega⟩)).mono ?_;(rintro e w5 ⟨v5,rfl,H5,S5⟩)))
 go_end0
 exact⟨v5,rfl,H5,(yN.of B1).trans S5⟩
theorem zch{fb:Nat}{A:Option Addr}{C:Nat}{ps:List Pt}(hwf:Jv ps)(d:Nat):∀(w:World) (v:Value) (out:List R3) (k:Nat) (f c:Int),vX w fb A C ps v out→k<d→(k:Int)≤9223372036854775807→qo f→qo c→Calls Tryz.prog 22 #[.pointer (some ⟨fb,0,none⟩),.int .i64 (k:Nat),.int .i64 f,.int .i64 c] w (vY w fb A C ps v (yx ps d out k f c)):=by
 induction d with
 |zero=>intro w v out k f c _ hk;omega
 |succ d ih =>
  intro w v out k f c h hk hkm hf hc;by_cases hno:256<out.length∨jF ps k f c=false
  ·rw[zbN hno]
   exact UF h hwf k f c ⟨by omega,hkm⟩ hf hc hno
  ·have ho:¬256<out.length:=λe=>hno (.inl e)
   have hh:jF ps k f c=true:=by
    cases e:jF ps k f c with
    |true=>rfl
    |false=>exact absurd (.inr e) hno
   rw[zbS ho hh];have hkl:=(Zr hh).1;have hkk:=hwf.kind k hkl;have hx:∀(W:World) (v:Value) (out:List R3) (j:Nat) (f c:Int),vX W fb A C ps v out→j<k→qo f→qo c→Calls Tryz.prog 22 #[.pointer (some ⟨fb,0,none⟩),.int .i64 (j:Nat),.int .i64 f,.int .i64 c] W (vY W fb A C ps v (yx ps d out j f c)):=λW v out j f c H hj hf hc=>ih W v out j f c H (by omega) (by omega) hf hc
   rcases(by omega:(zx ps k).kind=1∨(zx ps k).kind=2∨(zx ps k).kind=3∨(zx ps k).kind=4∨(zx ps k).kind=5∨(zx ps k).kind=6∨(zx ps k).kind=7∨(zx ps k).kind=8)with e|e|e|e|e|e|e|e
   ·exact Fa h hwf d k f c ho hh e hx
   ·exact Uy h hwf d k f c ho hh e hx
   ·exact Uf h hwf d k f c ho hh e hx
   ·exact KV h hwf d k f c ho hh e hx
   ·exact Yx h hwf d k f c ho hh e hx
   ·exact U5 h hwf d k f c ho hh e hx
   ·exact Yb h hwf d k f c ho hh e hx
   ·exact kg h hwf d k f c ho hh e hx
def Kw(w:World)(base:Nat)(v:Value)(l:List R3):Prop:=w.ownsRow base 42 3 v l.length (FF l)
theorem YP{w:World}{A:Option Addr}{C:Nat}{ps:List Pt}(hp:vB w w.heap.size A ps)(hcap:ps.length≤C∧C≤maxLen)(hwf:Jv ps)(x0 x1 x3 x4:Value)(p f c:Int)(hpi:qo p)(hf:qo f)(hc:qo c):Calls Tryz.prog 11 #[.agg #[x0,x1,.slice A ps.length C,x3,x4],.int .i64 p,.int .i64 f,.int .i64 c] w λe w'=>∃v,e= .returned v∧Kw w' w.heap.size v (xt ps p f c)∧Below w.heap.size w w'∧(xt ps p f c).length≤257:=by
 obtain⟨W,hW⟩:∃W,W=(w.alloc (.cells #[x0,x1,.slice A ps.length C,x3,x4] 32)).alloc (.cells #[.slice A ps.length C,.slice none 0 0] 72):=⟨_,rfl⟩
 have hBW:Below w.heap.size w W:=by rw[hW];exact yr w _ _
 have H0:vX W (w.heap.size+1) A C ps (.slice none 0 0) []:=by
  refine⟨by rw[hW];exact zm.new_at (by simp),⟨rfl,.inl ⟨rfl,rfl⟩⟩,?_,hcap,by simp⟩;intro i hi;obtain⟨g,off,u,e,h1,h2,h3,h4⟩:=hp i hi;exact⟨g,off,u,e,by omega,Nat.lt_of_lt_of_le h2 hBW.size,λj hj=>(hBW.cell (p:=⟨g,off+i*8+j,none⟩) h1).trans (h3 j hj),h4.keep hBW.size λk hk hB=>⟨hBW.block k hk,by omega⟩⟩
 have hcx:Calls Tryz.prog 22 #[.pointer (some ⟨w.heap.size+1,0,none⟩),.int .i64 p,.int .i64 f,.int .i64 c] W (vY W (w.heap.size+1) A C ps (.slice none 0 0) (xt ps p f c)):=by
  unfold xt;by_cases hh:jF ps p f c=false
  ·rw[if_pos hh]
   exact UF H0 hwf p f c hpi hf hc (.inr hh)
  ·rw[if_neg hh]
   have hin:0≤p∧p<ps.length:=by
    have :jF ps p f c=true:=by cases e:jF ps p f c with
     |true=>rfl
     |false=>exact absurd e hh
    unfold jF at this;simp only[decide_eq_true_eq]at this;omega
   obtain⟨k,rfl⟩:∃k:Nat,p=(k:Nat):=⟨p.toNat,by omega⟩
   rw[Int.toNat_natCast];exact zch hwf ps.length W _ [] k f c H0 (by omega) hpi.2 hf hc
 have HW:Hid (W=(w.alloc (.cells #[x0,x1,.slice A ps.length C,x3,x4] 32)).alloc (.cells #[.slice A ps.length C,.slice none 0 0] 72)):=hW;rw[hW]at hcx;clear hW;go_enter Tryz.func11,Tryz.ntmps11
 go_wp2_with (first
  |((go_at_call 22)
    refine hcx.mono ?_;rintro e w1 ⟨v1,rfl,H1,S1⟩;have q1:=H1.has.cell 1;have l1:=H1.has.lt;(simp only[qH,qG,qI]at q1)))
 go_ret
 rw[←HW.out]at S1;refine⟨v1,rfl,?_,hBW.trans ((S1.below (λj hj=>by cases hj) (Nat.le_of_lt H0.has.lt)).mono (by omega)),H1.few⟩;unfold Kw;have hr:=H1.row;refine⟨hr.1,?_⟩;rcases hr.2 with h|⟨g,cap,cur,e,hb,r⟩
 ·exact .inl h
 ·exact .inr ⟨g,cap,cur,e,by omega,r⟩
end
section
open Go.ChangeShapes Go.WideShapes Go.ChangeAt Go.RowKit Go.MapKept Go.Shelf
variable {E:Nat→Prop}
theorem dU(g:Nat)(cb:Array Value)(A:Option Addr)(n C:Nat)(l:List Nat)(p:Nat→Bool)(w:World)(eg:∀args w,(callFunc g args).run Tryz.prog w= .ok (.enter g args) w)(hn:n=l.length)(hn2:n≤100000)(P:Nat→Prop)(hl:ZS w P A l)
 (hf:∀(i:Nat) (hi:i<l.length) (W:World),Below w.heap.size w W→Calls Tryz.prog g (#[.int .i64 (l[i]:Nat)]++cb) W λe W'=>e= .returned (.bool (p l[i]))∧Below W.heap.size W W'):
 Calls Tryz.prog 94 #[.slice A n C,.func (.func g) #[] cb] w λe w'=>∃r:Int,e= .returned (.int .i64 r)∧decide (0≤r)=l.any p∧Below w.heap.size w w':=by
 have HF:Hid (∀(i:Nat) (hi:i<l.length) (W:World),Below w.heap.size w W→Calls Tryz.prog g (#[.int .i64 (l[i]:Nat)]++cb) W λe W'=>e= .returned (.bool (p l[i]))∧Below W.heap.size W W'):=hf;have HN:Hid (n=l.length):=hn;clear hf hn;go_enter Tryz.func94,Tryz.ntmps94
 go_wp2
 go_loopw [8] (λi wr=>∃k:Nat,k≤n∧i= .int .i64 k∧Hid ((l.take k).any p=false)∧Below w.heap.size w wr) (λi _=>n-(intOf i).toNat)
 case atStart=>exact⟨0,Nat.zero_le _,rfl,(by simp :(l.take 0).any p=false),Below.refl _ _⟩
 case round =>
  obtain⟨k,hk,rfl,HA,hb⟩:=hrel;by_cases hlt:k<n
  ·have hkl:k<l.length:=by rw[←HN.out];exact hlt
   obtain⟨b,off,eA,hbl,hp0,hcl⟩:=hl.resolve_left (by intro e;rw[e]at hkl;simp at hkl);have c0:=(hb.cell (p:=⟨b,off+k,none⟩) hbl).trans (hcl k hkl);have hc:=HF.out k hkl _ hb
   have HT:Hid ((l.take (k+1)).any p=p l[k]):=by
    rw[List.take_succ_eq_append_getElem hkl,List.any_append,HA.out];simp;exact trivial
   have HM:Hid (p l[k]=true→l.any p=true):=(λe=>List.any_eq_true.2 ⟨_,List.getElem_mem hkl,e⟩:p l[k]=true→l.any p=true)
   have hint:(k:Int)<(n:Int):=by omega
   clear hcl hl;generalize l[k]=x at *;subst eA;cases hp:p x<;>rw[hp]at hc
   ·have HP:Hid ((l.take (k+1)).any p=false):=by rw[HT.out,hp];exact rfl
    clear hp HT HM
    go_wp2_with (go_at_fn g;refine hc.mono ?_;rintro e w' ⟨rfl,hb2⟩)
    go_roundw
    case rel=>exact⟨k+1,hlt,by go_num,HP.out,hb.trans (hb2.mono hb.size)⟩
    case measure=>simp[intOf];omega
   ·have HP:Hid (l.any p=true):=HM.out hp
    clear hp HT HM
    go_wp2_with (go_at_fn g;refine hc.mono ?_;rintro e w' ⟨rfl,hb2⟩)
    go_ret
    exact⟨k,rfl,by rw[HP.out];simp,hb.trans (hb2.mono hb.size)⟩
  ·obtain rfl:k=n:=by omega
   have HE:Hid (l.any p=false):=by
    have:=HA.out;rw[HN.out,List.take_length]at this;exact this
   clear hl
   go_wp2
   go_ret
   exact⟨-1,rfl,by rw[HE.out];rfl,hb⟩
theorem uc(g:Nat)(cb:Array Value)(A:Option Addr)(n C:Nat)(l:List Nat)(p:Nat→Bool)(w:World)(eg:∀args w,(callFunc g args).run Tryz.prog w= .ok (.enter g args) w)(hn:n=l.length)(hn2:n≤100000)(P:Nat→Prop)(hl:ZS w P A l)
 (hf:∀(i:Nat) (hi:i<l.length) (W:World),Below w.heap.size w W→Calls Tryz.prog g (#[.int .i64 (l[i]:Nat)]++cb) W λe W'=>e= .returned (.bool (p l[i]))∧Below W.heap.size W W'):
 Calls Tryz.prog 77 #[.slice A n C,.func (.func g) #[] cb] w λe w'=>e= .returned (.bool (l.any p))∧Below w.heap.size w w':=by
 have hi:=dU g cb A n C l p w eg hn hn2 P hl hf;clear hf hl eg hn hn2;go_enter Tryz.func77,Tryz.ntmps77
 go_wp2_with (first
  |((go_at_call 94)
    refine hi.mono ?_;rintro e w1 ⟨r,rfl,hr,hb⟩;have HR:Hid (decide (0≤r)=l.any p):=hr;(clear hr)))
 go_ret
 exact⟨qW (by rw[←HR.out]),hb⟩
theorem xq(ps:List Pt)(p:Pt):zR (ps++ [p])=zR ps++ [xK (zR ps) p]:=by
 unfold zR;rw[List.foldl_append];rfl
theorem vr(ps:List Pt):(zR ps).length=ps.length:=by
 unfold zR
 have :∀(ps:List Pt) (o:List Bool),(ps.foldl (λo p=>o++ [xK o p]) o).length=o.length+ps.length:=by
  intro ps
  induction ps with
  |nil=>intro o;rfl
  |cons p ps ih=>intro o;rw[List.foldl_cons,ih];simp;omega
 have h:=this ps []
 simpa using h
theorem ui{w:World}{cb:Nat}{V:CV}{c:Ck}(h:qq E w cb V c)(bx k:Nat)(hk:k<c.parts.length)(hx:w.cell? ⟨bx,0,none⟩=some (.pointer (some ⟨cb,0,none⟩))):Calls Tryz.prog 78 #[.int .i64 (k:Nat),.pointer (some ⟨bx,0,none⟩)] w λe w'=>e= .returned (.bool ((zR c.parts).getD k false))∧Below w.heap.size w w':=by
 have c6:=h.has.cell 6;have lc:=h.has.lt;simp only[qH,qG,qI]at c6;obtain⟨e1,h0⟩|⟨g,cap,cur,e1,hb,hg,hn,hm,hs,ht⟩:=h.only.2
 ·omega
 ·have hlen:=vr c.parts
  have hcell:w.cell? ⟨g,k,none⟩=some (.bool ((zR c.parts).getD k false)):=by
   rw[cell_of_row w g k cur _ _ hg,←Array.getElem?_toList];have :(cur.toList.take (c.parts.length*1))[k]?=cur.toList[k]?:=List.getElem?_take_of_lt (by omega);rw[←this,ht,List.getElem?_map,List.getD_eq_getElem?_getD,List.getElem?_eq_getElem (by rw[hlen];exact hk)];rfl
  rw[e1]at c6;generalize (zR c.parts).getD k false=B at *;have hgl:=(Array.getElem?_eq_some_iff.1 hg).1;have hm2:cap≤9223372036854775807:=hm;clear h hg ht hs hlen e1 hm;generalize c.parts.length=L at *;have hkk:(k:Int)<(L:Int):=by omega
  go_enter Tryz.func78,Tryz.ntmps78
  go_wp2
  go_ret
  exact⟨rfl,Below.refl _ _⟩
end
section
open Go.ChangeShapes Go.WideShapes Go.ChangeAt Go.RowKit Go.MapKept
variable {E:Nat→Prop}
theorem ZW{P:Program}{ops:Array Oper}{Q:Exit→Act→World→Prop}{md:Region.Mode}{S:World→Prop}{m:Nat}{oi:Oper}(i:Nat)(d:Option Tmp){n:Nat}{listed:Array Bool}{a:Act}{w:World}(hi:ops[i]?=some oi)(hd:oi.dst=d)(him:i≠m)(hwf:vR md ops m i=true)
 (hs:Region.noSelect ops=true) (hf:Region.free md ops listed i=true) (hr:(Region.ready md ops listed).contains i=true)
 (hQ:∀c a w,Q (.panic c) (a.put d undef) w→Q (.panic c) a w) (hw:Region.wanted oi (yielded ops a.tmps)=false) (hS:S w)
 (h:yl P md ops Q S m n (listed.setIfInBounds i true) (a.put d undef) w):yl P md ops Q S m (n+1) listed a w:=by
 subst hd;exact yl.front hi him hwf (Region.noSelect_spec hs) hQ n listed a w (Region.free_spec hi hf) (by simpa using hr) (.inr ⟨hw,rfl⟩) hS h
structure GR (E:Nat→Prop) (w:World) (cb:Nat) (V:CV) (c:Ck) (os:List Bool):Prop where
 has:zm w cb 56 #[V.vd,.int .i64 (jI c.jour),V.vp,.int .i64 (jI c.expo),.bool c.ro,.map (some V.mb),V.vb,.int .i64 c.eat]
 devs:w.ownsRow cb 3 1 V.vd c.devs.length (c.devs.map λd=> .int .i64 (d:Nat))
 only :w.ownsRow cb 4 1 V.vb os.length (os.map .bool)
 prts:∃us,us.length=c.parts.length∧w.ownsRow cb 65 8 V.vp c.parts.length (gv c.parts us)∧∀i (h:i<c.parts.length) (h':i<us.length),xH w (λg=>¬V.own cb g∧E g) c.parts[i] us[i]
 nms:∃us,us.length=c.names.length∧w.heap[V.mb]?=some (.map (j5 c.names us).toArray c.names.length)∧∀i (h:i<c.names.length) (h':i<us.length),Ka w (λg=>¬V.own cb g∧E g) c.names[i].2 us[i]
 uniq:c.names.Pairwise (λx y=>x.1≠y.1)
 mlt:cb≤V.mb+1
 few:c.names.length≤100000∧c.devs.length≤100000
theorem qq.g{w:World}{cb:Nat}{V:CV}{c:Ck}(h:qq E w cb V c):GR E w cb V c (zR c.parts):=⟨h.has,h.devs,by rw[vr];exact h.only,h.prts,h.nms,h.uniq,h.mlt,h.few.2⟩
theorem GR.at{w:World}{cb:Nat}{V:CV}{c:Ck}{os:List Bool}(h:GR E w cb V c os)(e:os=zR c.parts)(hp:c.parts.length≤100000):qq E w cb V c:=by
 subst e;exact⟨h.has,h.devs,by have:=h.only;rw[vr]at this;exact this,h.prts,h.nms,h.uniq,h.mlt,hp,h.few⟩
theorem zK{w:World}{base e size n g t:Nat}{v:Value}{xs:List Value}{cs:Array Value}(h:w.ownsRow base e size v n xs)(k:zm w g t cs)(ht:e≠t):v.ownBlock≠some g:=by
 rcases h.2 with⟨rfl,_⟩|⟨b,cap,cur,rfl,_,hb,_⟩
 ·intro q;cases q
 ·intro q
  have :b=g:=by cases q;rfl
  subst this;have k':w.heap[b]?=some (.cells cs t (0,0)):=k;rw[hb]at k';cases k';exact ht rfl
theorem j2{w:World}{b1 e1 s1 n1 b2 e2 s2 n2:Nat}{v1 v2:Value}{x1 x2:List Value}(h:w.ownsRow b1 e1 s1 v1 n1 x1)(k:w.ownsRow b2 e2 s2 v2 n2 x2)(ht:e1≠e2){g:Nat}(e:v2.ownBlock=some g):v1.ownBlock≠some g:=by
 rcases k.2 with⟨rfl,_⟩|⟨b,cap,cur,rfl,_,hb,_⟩
 ·cases e
 ·have :b=g:=by cases e;rfl
  subst this;exact zK h (show zm w b e2 cur from hb) ht
theorem xo{w:World}{base e size n g clock:Nat}{v:Value}{xs:List Value}{es:Array MapEntry}(h:w.ownsRow base e size v n xs)(k:w.heap[g]?=some (.map es clock)):v.ownBlock≠some g:=by
 rcases h.2 with⟨rfl,_⟩|⟨b,cap,cur,rfl,_,hb,_⟩
 ·intro q;cases q
 ·intro q
  have :b=g:=by cases q;rfl
  subst this;rw[hb]at k;cases k
theorem xz(w:World)(q:Addr)(v:Value){k:Nat}(h:k≠q.block){o:Obj}(ho:w.heap[k]?=some o):(w.setCell q v).heap[k]?=some o:=(Below.heap_setCell w q v k h).trans ho
section
variable {w w6:World} {cb:Nat} {V:CV} {c:Ck} {os:List Bool}
theorem GR.low(h:GR E w cb V c os){k:Nat}(hk:V.own cb k):cb≤k+1∧k<w.heap.size:=by
 rcases hk with rfl|e|e|e|rfl
 ·exact⟨Nat.le_succ _,h.has.lt⟩
 ·exact⟨Nat.le_succ_of_le (qR h.devs e).2,(qR h.devs e).1⟩
 ·obtain⟨us,_,hr,_⟩:=h.prts
  exact⟨Nat.le_succ_of_le (qR hr e).2,(qR hr e).1⟩
 ·exact⟨Nat.le_succ_of_le (qR h.only e).2,(qR h.only e).1⟩
 ·obtain⟨us,_,hm,_⟩:=h.nms
  exact⟨h.mlt,(Array.getElem?_eq_some_iff.1 hm).1⟩
theorem jX.inner{V':CV}{w':World}(s:jX cb V w V' w'):∀k,k<w.heap.size→¬V.own cb k→w'.heap[k]?=w.heap[k]?∧¬V'.own cb k:=λk hk hn=>⟨s.only.block k hk hn,λe=>by
 rcases s.new k e with e'|e'
 ·exact hn e'
 ·omega⟩
theorem jX.innerE{V':CV}{w':World}(s:jX cb V w V' w'):∀k,k<w.heap.size→(¬V.own cb k∧E k)→w'.heap[k]?=w.heap[k]?∧(¬V'.own cb k∧E k):=λk hk hn=>⟨(s.inner k hk hn.1).1,(s.inner k hk hn.1).2,hn.2⟩
theorem GR.putOnly(h:GR E w cb V c os){A6:Option Addr}{C6:Nat}{b:Bool}(hg:w.grownBy w6 V.vb.ownBlock)(hr:w6.ownsRow cb 4 1 (.slice A6 (os.length+1) C6) (os.length+1) (os.map .bool++ [.bool b]))(hw:(Value.slice A6 (os.length+1) C6).ownBlock=V.vb.ownBlock∨(Value.slice A6 (os.length+1) C6).ownBlock=some w.heap.size):
 GR E (w6.setCell ⟨cb,6,none⟩ (.slice A6 (os.length+1) C6)) cb { V with vb:= .slice A6 (os.length+1) C6 } c (os++ [b])∧jX cb V w { V with vb:= .slice A6 (os.length+1) C6 } (w6.setCell ⟨cb,6,none⟩ (.slice A6 (os.length+1) C6)):=by
 obtain⟨us,e1,hp,hpi⟩:=h.prts;obtain⟨ms,e2,hm,hmi⟩:=h.nms
 have hst:jX cb V w { V with vb:= .slice A6 (os.length+1) C6 } (w6.setCell ⟨cb,6,none⟩ (.slice A6 (os.length+1) C6)):=by
  refine⟨(⟨hg.os,hg.tape,hg.output,hg.size,λk hk hn=>hg.block k hk (λe=>hn (.inr (.inr (.inr (.inl e.symm)))))⟩:vZ (V.own cb) w w6).set (.inl (.inl rfl)) _,λk hk=>?_⟩;rcases hk with e|e|e|e|e
  ·exact .inl (.inl e)
  ·exact .inl (.inr (.inl e))
  ·exact .inl (.inr (.inr (.inl e)))
  ·rcases hw with q|q
   ·exact .inl (.inr (.inr (.inr (.inl (q ▸ e)))))
   ·rw[show(Value.slice A6 (os.length+1) C6).ownBlock=some w.heap.size from q]at e
    cases e;exact .inr (Nat.le_refl _)
  ·exact .inl (.inr (.inr (.inr (.inr e))))
 have hcb:V.vb.ownBlock≠some cb:=zK h.only h.has (by decide);have kept:∀ {k:Nat} {o:Obj},V.vb.ownBlock≠some k→k≠cb→w.heap[k]?=some o→(w6.setCell ⟨cb,6,none⟩ (.slice A6 (os.length+1) C6)).heap[k]?=some o:=λ{k o} h1 h2 ho=>xz w6 _ _ h2 ((hg.block k (Array.getElem?_eq_some_iff.1 ho).1 (λe=>h1 e.symm)).trans ho)
 have hin:=hst.innerE (E:=E);have hsz:=hst.only.size;refine⟨⟨(zy h.has hg hcb).putP 6 _,zI h.devs (λg o e ho=>kept (j2 h.only h.devs (by decide) e) (by rintro rfl;exact zK h.devs h.has (by decide) e) ho),?_,⟨us,e1,zI hp (λg o e ho=>kept (j2 h.only hp (by decide) e) (by rintro rfl;exact zK hp h.has (by decide) e) ho),λi a b=>(hpi i a b).keep hsz hin⟩,⟨ms,e2,kept (xo h.only hm) (by rintro e;have hh:w.heap[cb]?=some (.cells _ _ (0,0)):=h.has;rw[show V.mb=cb from e]at hm;rw[hm]at hh;cases hh) hm,λi a b=>(hmi i a b).keep hsz hin⟩,h.uniq,h.mlt,h.few⟩,hst⟩;rw[List.length_append,List.length_singleton,List.map_append,List.map_cons,List.map_nil]
 refine zI hr (λg o e ho=>xz w6 _ _ (by
  show g≠cb;rintro rfl;rcases hw with q|q
  ·exact hcb (q ▸ e)
  ·rw[q]at e
   cases e
   exact absurd h.has.lt (Nat.lt_irrefl _)) ho)
theorem K6(l:List Pt)(p:Pt)(us:List (Value×Value×Value))(u:Value×Value×Value)(h:us.length=l.length):gv (l++ [p]) (us++ [u])=gv l us++(Q9 p u).toList:=by
 unfold gv;rw[List.zip_append h.symm,List.flatMap_append];simp
theorem GR.putPart(h:GR E w cb V c os){A6:Option Addr}{C6:Nat}{p:Pt}{u:Value×Value×Value}{us:List (Value×Value×Value)}(e1:us.length=c.parts.length)(hp:w.ownsRow cb 65 8 V.vp c.parts.length (gv c.parts us))(hpi:∀i (h:i<c.parts.length) (h':i<us.length),xH w (λg=>¬V.own cb g∧E g) c.parts[i] us[i])(hu:xH w (λg=>¬V.own cb g∧E g) p u)(hg:w.grownBy w6 V.vp.ownBlock)(hr:w6.ownsRow cb 65 8 (.slice A6 (c.parts.length+1) C6) (c.parts.length+1) (gv c.parts us++(Q9 p u).toList))(hw:(Value.slice A6 (c.parts.length+1) C6).ownBlock=V.vp.ownBlock∨(Value.slice A6 (c.parts.length+1) C6).ownBlock=some w.heap.size):
 GR E (w6.setCell ⟨cb,2,none⟩ (.slice A6 (c.parts.length+1) C6)) cb { V with vp:= .slice A6 (c.parts.length+1) C6 } { c with parts:=c.parts++ [p] } os∧jX cb V w { V with vp:= .slice A6 (c.parts.length+1) C6 } (w6.setCell ⟨cb,2,none⟩ (.slice A6 (c.parts.length+1) C6)):=by
 obtain⟨ms,e2,hm,hmi⟩:=h.nms
 have hst:jX cb V w { V with vp:= .slice A6 (c.parts.length+1) C6 } (w6.setCell ⟨cb,2,none⟩ (.slice A6 (c.parts.length+1) C6)):=by
  refine⟨(⟨hg.os,hg.tape,hg.output,hg.size,λk hk hn=>hg.block k hk (λe=>hn (.inr (.inr (.inl e.symm))))⟩:vZ (V.own cb) w w6).set (.inl (.inl rfl)) _,λk hk=>?_⟩;rcases hk with e|e|e|e|e
  ·exact .inl (.inl e)
  ·exact .inl (.inr (.inl e))
  ·rcases hw with q|q
   ·exact .inl (.inr (.inr (.inl (q ▸ e))))
   ·rw[show(Value.slice A6 (c.parts.length+1) C6).ownBlock=some w.heap.size from q]at e
    cases e;exact .inr (Nat.le_refl _)
  ·exact .inl (.inr (.inr (.inr (.inl e))))
  ·exact .inl (.inr (.inr (.inr (.inr e))))
 have hcb:V.vp.ownBlock≠some cb:=zK hp h.has (by decide);have kept:∀ {k:Nat} {o:Obj},V.vp.ownBlock≠some k→k≠cb→w.heap[k]?=some o→(w6.setCell ⟨cb,2,none⟩ (.slice A6 (c.parts.length+1) C6)).heap[k]?=some o:=λ{k o} h1 h2 ho=>xz w6 _ _ h2 ((hg.block k (Array.getElem?_eq_some_iff.1 ho).1 (λe=>h1 e.symm)).trans ho)
 have hin:=hst.innerE (E:=E);have hsz:=hst.only.size;refine⟨⟨(zy h.has hg hcb).putP 2 _,zI h.devs (λg o e ho=>kept (j2 hp h.devs (by decide) e) (by rintro rfl;exact zK h.devs h.has (by decide) e) ho),zI h.only (λg o e ho=>kept (j2 hp h.only (by decide) e) (by rintro rfl;exact zK h.only h.has (by decide) e) ho),⟨us++ [u],by simp[e1],?_,?_⟩,⟨ms,e2,kept (xo hp hm) (by rintro e;have hh:w.heap[cb]?=some (.cells _ _ (0,0)):=h.has;rw[show V.mb=cb from e]at hm;rw[hm]at hh;cases hh) hm,λi a b=>(hmi i a b).keep hsz hin⟩,h.uniq,h.mlt,h.few⟩,hst⟩
 ·rw[List.length_append,List.length_singleton,K6 _ _ _ _ e1]
  refine zI hr (λg o e ho=>xz w6 _ _ (by
   show g≠cb;rintro rfl;rcases hw with q|q
   ·exact hcb (q ▸ e)
   ·rw[q]at e
    cases e
    exact absurd h.has.lt (Nat.lt_irrefl _)) ho)
 ·intro i a b
  by_cases hi:i<c.parts.length
  ·simp only[List.getElem_append_left hi,List.getElem_append_left (show i<us.length by omega)]
   exact(hpi i hi (by omega)).keep hsz hin
  ·have :i=c.parts.length:=by simp at a;omega
   subst this;have q1:(c.parts++ [p])[c.parts.length]'a=p:=by rw[List.getElem_append_right (Nat.le_refl _)];simp
   have q2:(us++ [u])[c.parts.length]'b=u:=by rw[List.getElem_append_right (by omega)];simp[e1]
   rw[q1,q2];exact hu.keep hsz hin
theorem GR.keep(h:GR E w cb V c os){w':World}(hb:Below w.heap.size w w'):GR E w' cb V c os:=by
 have hk:∀k,k<w.heap.size→(¬V.own cb k∧E k)→w'.heap[k]?=w.heap[k]?∧(¬V.own cb k∧E k):=λk hk hn=>⟨hb.block k hk,hn⟩
 have hr:∀ {e size n:Nat} {v:Value} {xs:List Value},w.ownsRow cb e size v n xs→w'.ownsRow cb e size v n xs:=λhh=>zI hh (λg o e ho=>(hb.block g (Array.getElem?_eq_some_iff.1 ho).1).trans ho)
 obtain⟨us,e1,r1,i1⟩:=h.prts;obtain⟨ms,e2,r2,i2⟩:=h.nms;exact⟨h.has.below hb h.has.lt,hr h.devs,hr h.only,⟨us,e1,hr r1,λi a b=>(i1 i a b).keep hb.size hk⟩,⟨ms,e2,(hb.block _ (Array.getElem?_eq_some_iff.1 r2).1).trans r2,λi a b=>(i2 i a b).keep hb.size hk⟩,h.uniq,h.mlt,h.few⟩
theorem jX.of{w':World}(hb:Below w.heap.size w w'):jX cb V w V w':=⟨.of hb,λ_ h=> .inl h⟩
end
end
section
open Go.ChangeShapes Go.WideShapes Go.ChangeAt Go.RowKit Go.MapKept Go.Shelf
variable {E:Nat→Prop}
def zas(E:Nat→Prop)(w:World)(cb:Nat)(V:CV)(c:Ck)(p:Pt)(e:Ending)(w':World):Prop:=e= .returned (.int .i64 (c.parts.length:Nat))∧∃V',qq E w' cb V' { c with parts:=c.parts++ [p] }∧jX cb V w V' w'
theorem XN{o:Oper}{a:Act}(x:Operand)(ho:o.op= .binOp .eql 62 x (.const (.int .i64 8)) 62)(K:Int)(hx:a.eval x= .int .i64 K)(b:Bool)(hb:(K==8)=b)(w:World):(execOp a.eval o).run Tryz.prog w= .ok (.value (.bool b)) w:=by
 unfold execOp;simp only[ho,hx];subst hb;go_simp
theorem Ya{o:Oper}{a:Act}(x:Operand)(ho:o.op= .slice 29 x (some (.const (.int .i64 1))) none none)(b off L cap:Nat)(hx:a.eval x= .slice (some ⟨b,off,none⟩) L cap)(h1:1≤L)(h2:cap≠1)(w:World):
 (execOp a.eval o).run Tryz.prog w= .ok (.value (.slice (some ⟨b,off+1,none⟩) (L-1) (cap-1))) w:=by
 unfold execOp;simp only[ho,hx,Option.map_some,Option.map_none];simp[Act.eval,Instr.sliceAt,Instr.slice,Instr.sliceBounds,Instr.sliceBound,run_underlying Tryz.underlying29,go_sem,asIntOf,h2];intro h;omega
theorem Xu{w:World}{cb:Nat}{V:CV}{c:Ck}(h:qq E w cb V c)(p:Pt)(Ak:Option Addr)(Ck:Nat)(A2:Option Addr)(C2:Nat)(A3:Option Addr)(C3:Nat)(hu:xH w (λg=>¬V.own cb g∧E g) p (.slice Ak p.kids.length Ck,.slice A2 p.key.length C2,.slice A3 p.root.length C3))(hkids:∀k ∈ p.kids,k<c.parts.length)(hkl:p.kids.length≤1000)(hk5:p.kind≠5)(hk8:p.kind≠8)(hfew:c.parts.length≤90000):
 Calls Tryz.prog 60 #[.pointer (some ⟨cb,0,none⟩),.agg #[.int .i64 (p.kind:Nat),.int .i64 (p.size:Nat),.slice Ak p.kids.length Ck,.int .i64 (p.dev:Nat),.int .i64 (p.first:Nat),.int .i64 (p.chunk:Nat),.slice A2 p.key.length C2,.slice A3 p.root.length C3]] w (zas E w cb V c p):=by
 obtain⟨W2,hW2⟩:∃W2,W2=(w.alloc (.cells #[.pointer (some ⟨cb,0,none⟩)] 52)).alloc (.cells #[.int .i64 (p.kind:Nat),.int .i64 (p.size:Nat),.slice Ak p.kids.length Ck,.int .i64 (p.dev:Nat),.int .i64 (p.first:Nat),.int .i64 (p.chunk:Nat),.slice A2 p.key.length C2,.slice A3 p.root.length C3] 65):=⟨_,rfl⟩
 have hb2:Below w.heap.size w W2:=by rw[hW2];exact yr w _ _
 have bx2:zm W2 w.heap.size 52 #[.pointer (some ⟨cb,0,none⟩)]:=by rw[hW2];exact(zm.new w _ _).alloc _
 have px2:zm W2 (w.heap.size+1) 65 #[.int .i64 (p.kind:Nat),.int .i64 (p.size:Nat),.slice Ak p.kids.length Ck,.int .i64 (p.dev:Nat),.int .i64 (p.first:Nat),.int .i64 (p.chunk:Nat),.slice A2 p.key.length C2,.slice A3 p.root.length C3]:=by rw[hW2];exact zm.new_at (by simp)
 have h2:qq E W2 cb V c:=h.keep hb2;have hbxn:¬V.own cb w.heap.size:=λe=>by have:=(h.low e).2;omega
 have hpxn:¬V.own cb (w.heap.size+1):=λe=>by have:=(h.low e).2;omega
 obtain⟨Ak',Ck',ek,hkc,hkm,hki⟩:=hu.kids;cases ek;have hK8:(((p.kind:Nat):Int)==8)=false:=by rw[beq_eq_false_iff_ne];omega
 have hK5:(((p.kind:Nat):Int)==5)=false:=by rw[beq_eq_false_iff_ne];omega
 have hob:xK (zR c.parts) p=(p.kids.any (λk=>(zR c.parts).getD k false)):=by
  unfold xK;rw[show(p.kind==8)=false by rw[beq_eq_false_iff_ne];exact hk8,show(p.kind==5)=false by rw[beq_eq_false_iff_ne];exact hk5];simp
 have hany:=uc 78 #[.pointer (some ⟨w.heap.size,0,none⟩)] Ak p.kids.length Ck p.kids (λk=>(zR c.parts).getD k false) W2 (enters_of Tryz.func78 (by kernel_rfl) rfl) rfl (by omega) _ (hki.keep (Q:=λ_=>True) hb2.size (λk hk hn=>⟨hb2.block k hk,trivial⟩)) (λi hi W hW=>ui (h2.keep hW) w.heap.size p.kids[i] (hkids _ (List.getElem_mem hi)) (za hW (bx2.cell 0)))
 obtain⟨B,hB⟩:∃B,p.kids.any (λk=>(zR c.parts).getD k false)=B:=⟨_,rfl⟩
 rw[hB]at hany hob;have HOB:Hid (xK (zR c.parts) p=B):=hob;have HW:Hid (W2=(w.alloc (.cells #[.pointer (some ⟨cb,0,none⟩)] 52)).alloc (.cells #[.int .i64 (p.kind:Nat),.int .i64 (p.size:Nat),.slice Ak p.kids.length Ck,.int .i64 (p.dev:Nat),.int .i64 (p.first:Nat),.int .i64 (p.chunk:Nat),.slice A2 p.key.length C2,.slice A3 p.root.length C3] 65)):=hW2;rw[hW2]at hany;clear hob hB hW2;have G2:=h2.g;go_enter Tryz.func60,Tryz.ntmps60
 go_wp2_with (first
  |((go_at_call 77)
    refine hany.mono ?_;rintro e w3 ⟨rfl,hb3⟩;(rw[←HW.out]at hb3)))
 have G3:=G2.keep hb3;have bx3h:=bx2.below hb3 bx2.lt;have px3h:=px2.below hb3 px2.lt;have bx3:=bx3h.cell 0;have px3:=px3h.cell 0;have cb6:=G3.has.cell 6;refine jp (S:=λwz=>wz.cell? ⟨w.heap.size,0,none⟩=some (.pointer (some ⟨cb,0,none⟩))∧wz.cell? ⟨cb,6,none⟩=some V.vb∧wz.cell? ⟨w.heap.size+1,0,none⟩=some (.int .i64 (p.kind:Nat))) 15 (by kernel_rfl) (⟨bx3,cb6,px3⟩) (λhHeld=>?_);refine j3 0 (some 18) (.pointer (some ⟨cb,0,none⟩)) rfl rfl (λwz hz=>by obtain⟨z0,z1,z2⟩:=hz;unfold execOp;go_simp) hHeld ?_;simp only[Act.put,zh,zf,zg];refine j3 1 (some 19) (.pointer (some ⟨cb,0,none⟩)) rfl rfl (λwz hz=>by obtain⟨z0,z1,z2⟩:=hz;unfold execOp;go_simp) hHeld ?_;simp only[Act.put,zh,zf,zg];refine ja 2 (some 20) (.pointer (some ⟨cb,0,none⟩)) hHeld ?_;simp only[Act.put,zh,zf,zg];refine ja 3 (some 21) (.pointer (some ⟨cb,6,none⟩)) hHeld ?_;simp only[Act.put,zh,zf,zg];refine j3 4 (some 22) (V.vb) rfl rfl (λwz hz=>by obtain⟨z0,z1,z2⟩:=hz;unfold execOp;go_simp) hHeld ?_;simp only[Act.put,zh,zf,zg];refine ja 5 (some 23) (.pointer (some ⟨w.heap.size+1,0,none⟩)) hHeld ?_;simp only[Act.put,zh,zf,zg];refine j3 6 (some 24) (.int .i64 (p.kind:Nat)) rfl rfl (λwz hz=>by obtain⟨z0,z1,z2⟩:=hz;unfold execOp;go_simp) hHeld ?_;simp only[Act.put,zh,zf,zg];refine j3 7 (some 25) (.bool false) rfl rfl (λwz hz=>XN _ rfl (p.kind:Nat) rfl false hK8 wz) hHeld ?_;simp only[Act.put,zh,zf,zg];refine ja 8 (some 26) (.bool false) hHeld ?_;simp only[Act.put,zh,zf,zg];refine ja 9 (some 27) (.bool B) hHeld ?_;simp only[Act.put,zh,zf,zg];refine j3 10 (some 28) (.bool B) rfl rfl (λ_ _=>by kernel_rfl) hHeld ?_;simp only[Act.put,zh,zf,zg]
 have hS2:(w3.drew.alloc (.cells #[.bool B] 4)).cell? ⟨w.heap.size,0,none⟩=some (.pointer (some ⟨cb,0,none⟩))∧(w3.drew.alloc (.cells #[.bool B] 4)).cell? ⟨cb,6,none⟩=some V.vb∧(w3.drew.alloc (.cells #[.bool B] 4)).cell? ⟨w.heap.size+1,0,none⟩=some (.int .i64 (p.kind:Nat)):=⟨za (zl w3.drew _) hHeld.1,za (zl w3.drew _) hHeld.2.1,za (zl w3.drew _) hHeld.2.2⟩
 refine zV 11 (some 29) (.slice (some ⟨w3.heap.size,0,none⟩) 1 1) (w3.drew.alloc (.cells #[.bool B] 4)) (by kernel_rfl) rfl rfl (by rfl) (by kernel_rfl) hS2 ?_;simp only[Act.put,zh,zf,zg];have G3d:=(G3.keep (zr (Below.refl _ w3))).keep (zl w3.drew (.cells #[.bool B] 4));obtain⟨A6,C6,w6,hr6,hrow6,hg6,hw6⟩:=zX XU (ty:=54) (w3.drew.alloc (.cells #[.bool B] 4)) cb (zR c.parts).length _ _ G3d.only (by have:=G3d.has.lt;omega) (by rw[vr];have:=h.few.1;omega) [.bool B] rfl (by intro u hu;simp at hu;subst hu;rfl) w3.heap.size (zm.new_at rfl);obtain⟨G6,S6⟩:=G3d.putOnly hg6 hrow6 hw6;have bx6:zm w6 (w.heap.size) 52 #[.pointer (some ⟨cb,0,none⟩)]:=zy ((zt bx3h).alloc _) hg6 (λe=>hbxn (.inr (.inr (.inr (.inl e)))));have px6:zm w6 (w.heap.size+1) 65 #[.int .i64 (p.kind:Nat),.int .i64 (p.size:Nat),.slice Ak p.kids.length Ck,.int .i64 (p.dev:Nat),.int .i64 (p.first:Nat),.int .i64 (p.chunk:Nat),.slice A2 p.key.length C2,.slice A3 p.root.length C3]:=zy ((zt px3h).alloc _) hg6 (λe=>hpxn (.inr (.inr (.inr (.inl e)))));have cb6h:=zy G3d.has hg6 (zK G3d.only G3d.has (by decide))
 have hS6:w6.cell? ⟨w.heap.size,0,none⟩=some (.pointer (some ⟨cb,0,none⟩))∧w6.cell? ⟨cb,6,none⟩=some V.vb∧w6.cell? ⟨w.heap.size+1,0,none⟩=some (.int .i64 (p.kind:Nat)):=⟨bx6.cell 0,cb6h.cell 6,px6.cell 0⟩
 refine zV 12 (some 30) (.slice A6 ((zR c.parts).length+1) C6) w6 (by kernel_rfl) rfl rfl (by rfl) (zW _ _ rfl rfl rfl hr6) hS6 ?_;simp only[Act.put,zh,zf,zg];refine zV 13 (some 31) (.pointer (some ⟨cb,0,none⟩)) w6 (by kernel_rfl) rfl rfl (by rfl) rfl hS6 ?_;simp only[Act.put,zh,zf,zg];refine zV 14 (some 32) (.pointer (some ⟨cb,6,none⟩)) w6 (by kernel_rfl) rfl rfl (by rfl) rfl hS6 ?_;simp only[Act.put,zh,zf,zg];have q6:=cb6h.cell 6;have f6:=cb6h.free 6;refine qC 15 none (w6.setCell ⟨cb,6,none⟩ (.slice A6 ((zR c.parts).length+1) C6)) (by kernel_rfl) rfl rfl (by rfl) (by unfold execOp;go_simp) (by kernel_rfl) ?_;simp only[Act.put];have hS05:jX cb V w { V with vb:= .slice A6 ((zR c.parts).length+1) C6 } (w6.setCell ⟨cb,6,none⟩ (.slice A6 ((zR c.parts).length+1) C6)):=(jX.of ((hb2.trans (hb3.mono hb2.size)).trans (((zr (Below.refl _ w3)).trans (zl w3.drew _)).mono (show w.heap.size≤w3.heap.size from Nat.le_trans hb2.size hb3.size)))).trans S6;have HU5:=hu.keep hS05.only.size hS05.innerE;have bx5:=bx6.other (p:=⟨cb,6,none⟩) (by show w.heap.size≠cb;have:=h.has.lt;omega) (.slice A6 ((zR c.parts).length+1) C6);have px5:=px6.other (p:=⟨cb,6,none⟩) (by show w.heap.size+1≠cb;have:=h.has.lt;omega) (.slice A6 ((zR c.parts).length+1) C6);have cb52:=G6.has.cell 2;generalize w6.setCell ⟨cb,6,none⟩ (.slice A6 ((zR c.parts).length+1) C6)=W5 at G6 hS05 HU5 bx5 px5 cb52 ⊢;simp only[qH,qG,qI]at cb52;clear hS6 S6 hr6 hrow6 hg6 hw6 hS2 hHeld
 go_wp2
 refine jp (S:=λwz=>zm wz w.heap.size 52 #[.pointer (some ⟨cb,0,none⟩)]∧wz.cell? ⟨w.heap.size,0,none⟩=some (.pointer (some ⟨cb,0,none⟩))∧wz.cell? ⟨cb,2,none⟩=some V.vp∧zm wz (w.heap.size+1) 65 #[.int .i64 (p.kind:Nat),.int .i64 (p.size:Nat),.slice Ak p.kids.length Ck,.int .i64 (p.dev:Nat),.int .i64 (p.first:Nat),.int .i64 (p.chunk:Nat),.slice A2 p.key.length C2,.slice A3 p.root.length C3]) 12 (by kernel_rfl) (⟨bx5,bx5.cell 0,cb52,px5⟩) (λhHeld=>?_);refine j3 0 (some 33) (.pointer (some ⟨cb,0,none⟩)) rfl rfl (λwz hz=>by obtain⟨z9,z0,z1,z2⟩:=hz;unfold execOp;go_simp) hHeld ?_;simp only[Act.put,zh,zf,zg];refine j3 1 (some 34) (.pointer (some ⟨cb,0,none⟩)) rfl rfl (λwz hz=>by obtain⟨z9,z0,z1,z2⟩:=hz;unfold execOp;go_simp) hHeld ?_;simp only[Act.put,zh,zf,zg];refine ja 2 (some 35) (.pointer (some ⟨cb,0,none⟩)) hHeld ?_;simp only[Act.put,zh,zf,zg];refine ja 3 (some 36) (.pointer (some ⟨cb,0,none⟩)) hHeld ?_;simp only[Act.put,zh,zf,zg];refine ja 4 (some 37) (.pointer (some ⟨cb,2,none⟩)) hHeld ?_;simp only[Act.put,zh,zf,zg];refine j3 5 (some 38) (V.vp) rfl rfl (λwz hz=>by obtain⟨z9,z0,z1,z2⟩:=hz;unfold execOp;go_simp) hHeld ?_;simp only[Act.put,zh,zf,zg];refine j3 6 (some 39) (.agg #[.int .i64 (p.kind:Nat),.int .i64 (p.size:Nat),.slice Ak p.kids.length Ck,.int .i64 (p.dev:Nat),.int .i64 (p.first:Nat),.int .i64 (p.chunk:Nat),.slice A2 p.key.length C2,.slice A3 p.root.length C3]) rfl rfl (λwz hz=>qe _ rfl (w.heap.size+1) 0 rfl wz (λj hj=>by rw[Nat.zero_add];exact hz.2.2.2.cell j)) hHeld ?_;simp only[Act.put,zh,zf,zg]
 have hT2:zm (W5.drew.alloc (.cells #[.int .i64 (p.kind:Nat),.int .i64 (p.size:Nat),.slice Ak p.kids.length Ck,.int .i64 (p.dev:Nat),.int .i64 (p.first:Nat),.int .i64 (p.chunk:Nat),.slice A2 p.key.length C2,.slice A3 p.root.length C3] 65)) w.heap.size 52 #[.pointer (some ⟨cb,0,none⟩)]∧(W5.drew.alloc (.cells #[.int .i64 (p.kind:Nat),.int .i64 (p.size:Nat),.slice Ak p.kids.length Ck,.int .i64 (p.dev:Nat),.int .i64 (p.first:Nat),.int .i64 (p.chunk:Nat),.slice A2 p.key.length C2,.slice A3 p.root.length C3] 65)).cell? ⟨w.heap.size,0,none⟩=some (.pointer (some ⟨cb,0,none⟩))∧(W5.drew.alloc (.cells #[.int .i64 (p.kind:Nat),.int .i64 (p.size:Nat),.slice Ak p.kids.length Ck,.int .i64 (p.dev:Nat),.int .i64 (p.first:Nat),.int .i64 (p.chunk:Nat),.slice A2 p.key.length C2,.slice A3 p.root.length C3] 65)).cell? ⟨cb,2,none⟩=some V.vp∧zm (W5.drew.alloc (.cells #[.int .i64 (p.kind:Nat),.int .i64 (p.size:Nat),.slice Ak p.kids.length Ck,.int .i64 (p.dev:Nat),.int .i64 (p.first:Nat),.int .i64 (p.chunk:Nat),.slice A2 p.key.length C2,.slice A3 p.root.length C3] 65)) (w.heap.size+1) 65 #[.int .i64 (p.kind:Nat),.int .i64 (p.size:Nat),.slice Ak p.kids.length Ck,.int .i64 (p.dev:Nat),.int .i64 (p.first:Nat),.int .i64 (p.chunk:Nat),.slice A2 p.key.length C2,.slice A3 p.root.length C3]:=⟨(zt bx5).alloc _,((zt bx5).alloc _).cell 0,za (zl W5.drew _) hHeld.2.2.1,(zt px5).alloc _⟩
 refine zV 7 (some 40) (.slice (some ⟨W5.heap.size,0,none⟩) 1 1) (W5.drew.alloc (.cells #[.int .i64 (p.kind:Nat),.int .i64 (p.size:Nat),.slice Ak p.kids.length Ck,.int .i64 (p.dev:Nat),.int .i64 (p.first:Nat),.int .i64 (p.chunk:Nat),.slice A2 p.key.length C2,.slice A3 p.root.length C3] 65)) (by kernel_rfl) rfl rfl (by rfl) (by kernel_rfl) hT2 ?_;simp only[Act.put,zh,zf,zg];have hb5:Below W5.heap.size W5 (W5.drew.alloc (.cells #[.int .i64 (p.kind:Nat),.int .i64 (p.size:Nat),.slice Ak p.kids.length Ck,.int .i64 (p.dev:Nat),.int .i64 (p.first:Nat),.int .i64 (p.chunk:Nat),.slice A2 p.key.length C2,.slice A3 p.root.length C3] 65)):=(zr (Below.refl _ W5)).trans (zl W5.drew _);have G5d:=G6.keep hb5;obtain⟨us,e1,hpr,hpi⟩:=G5d.prts;obtain⟨A7,C7,w7,hr7,hrow7,hg7,hw7⟩:=zX Zp (ty:=30) (W5.drew.alloc (.cells #[.int .i64 (p.kind:Nat),.int .i64 (p.size:Nat),.slice Ak p.kids.length Ck,.int .i64 (p.dev:Nat),.int .i64 (p.first:Nat),.int .i64 (p.chunk:Nat),.slice A2 p.key.length C2,.slice A3 p.root.length C3] 65)) cb c.parts.length _ _ hpr (by have:=G5d.has.lt;omega) (by omega) #[.int .i64 (p.kind:Nat),.int .i64 (p.size:Nat),.slice Ak p.kids.length Ck,.int .i64 (p.dev:Nat),.int .i64 (p.first:Nat),.int .i64 (p.chunk:Nat),.slice A2 p.key.length C2,.slice A3 p.root.length C3].toList rfl (by intro u hu;simp at hu;rcases hu with rfl|rfl|rfl|rfl|rfl|rfl|rfl|rfl<;>rfl) W5.heap.size (zm.new_at rfl);have hu5:=HU5.keep (Q:=λg=>¬({ V with vb:= .slice A6 ((zR c.parts).length+1) C6 }:CV).own cb g∧E g) hb5.size (λk hk hn=>⟨hb5.block k hk,hn⟩);obtain⟨G7,S7⟩:=G5d.putPart (p:=p) e1 hpr hpi hu5 hg7 hrow7 hw7;have cb7h:=zy G5d.has hg7 (zK hpr G5d.has (by decide));have bx7:zm w7 w.heap.size 52 #[.pointer (some ⟨cb,0,none⟩)]:=zy ((zt bx5).alloc _) hg7 (zK hpr ((zt bx5).alloc _) (by decide));have px7:zm w7 (w.heap.size+1) 65 #[.int .i64 (p.kind:Nat),.int .i64 (p.size:Nat),.slice Ak p.kids.length Ck,.int .i64 (p.dev:Nat),.int .i64 (p.first:Nat),.int .i64 (p.chunk:Nat),.slice A2 p.key.length C2,.slice A3 p.root.length C3]:=zy ((zt px5).alloc _) hg7 (λe=>hpxn (.inr (.inr (.inl e))))
 have hT7:zm w7 w.heap.size 52 #[.pointer (some ⟨cb,0,none⟩)]∧w7.cell? ⟨w.heap.size,0,none⟩=some (.pointer (some ⟨cb,0,none⟩))∧w7.cell? ⟨cb,2,none⟩=some V.vp∧zm w7 (w.heap.size+1) 65 #[.int .i64 (p.kind:Nat),.int .i64 (p.size:Nat),.slice Ak p.kids.length Ck,.int .i64 (p.dev:Nat),.int .i64 (p.first:Nat),.int .i64 (p.chunk:Nat),.slice A2 p.key.length C2,.slice A3 p.root.length C3]:=⟨bx7,bx7.cell 0,cb7h.cell 2,px7⟩
 refine zV 8 (some 41) (.slice A7 (c.parts.length+1) C7) w7 (by kernel_rfl) rfl rfl (by rfl) (zW _ _ rfl rfl rfl hr7) hT7 ?_;simp only[Act.put,zh,zf,zg];refine zV 9 (some 42) (.pointer (some ⟨cb,0,none⟩)) w7 (by kernel_rfl) rfl rfl (by rfl) rfl hT7 ?_;simp only[Act.put,zh,zf,zg];refine zV 10 (some 43) (.pointer (some ⟨cb,0,none⟩)) w7 (by kernel_rfl) rfl rfl (by rfl) rfl hT7 ?_;simp only[Act.put,zh,zf,zg];refine zV 11 (some 44) (.pointer (some ⟨cb,2,none⟩)) w7 (by kernel_rfl) rfl rfl (by rfl) rfl hT7 ?_;simp only[Act.put,zh,zf,zg];have q7:=cb7h.cell 2;have f7:=cb7h.free 2;refine qC 12 none (w7.setCell ⟨cb,2,none⟩ (.slice A7 (c.parts.length+1) C7)) (by kernel_rfl) rfl rfl (by rfl) (by unfold execOp;go_simp) (by kernel_rfl) ?_;simp only[Act.put];have bx8:=(bx7.other (p:=⟨cb,2,none⟩) (by show w.heap.size≠cb;have:=h.has.lt;omega) (.slice A7 (c.parts.length+1) C7)).cell 0;have bl8:=(bx7.other (p:=⟨cb,2,none⟩) (by show w.heap.size≠cb;have:=h.has.lt;omega) (.slice A7 (c.parts.length+1) C7)).lt;have cb8:=G7.has.cell 2;have lc8:=G7.has.lt;have hfi:=hfew;generalize w7.setCell ⟨cb,2,none⟩ (.slice A7 (c.parts.length+1) C7)=W8 at G7 S7 bx8 bl8 cb8 lc8 ⊢
 obtain⟨L,hL⟩:∃L,L=c.parts.length:=⟨_,rfl⟩
 have HL:Hid (L=c.parts.length):=hL;simp only[List.getElem?_toArray,List.getElem?_cons_zero,List.getElem?_cons_succ,←hL]at bx8 cb8;rw[←hL]at hfi;clear hL
 go_wp2
 go_ret
 refine⟨by rw[←HL.out];rfl,_,G7.at ?_ ?_,hS05.trans ((jX.of hb5).trans S7)⟩
 ·rw[xq,HOB.out]
 ·simp;omega
theorem uP{w:World}{cb:Nat}{V:CV}{c:Ck}(h:qq E w cb V c)(p:Pt)(Ak:Option Addr)(Ck:Nat)(A2:Option Addr)(C2:Nat)(A3:Option Addr)(C3:Nat)(hu:xH w (λg=>¬V.own cb g∧E g) p (.slice Ak p.kids.length Ck,.slice A2 p.key.length C2,.slice A3 p.root.length C3))(hkids:∀k ∈ p.kids,k<c.parts.length)(hkl:p.kids.length≤1000)(hk8:p.kind=8)(hfew:c.parts.length≤90000):
 Calls Tryz.prog 60 #[.pointer (some ⟨cb,0,none⟩),.agg #[.int .i64 (p.kind:Nat),.int .i64 (p.size:Nat),.slice Ak p.kids.length Ck,.int .i64 (p.dev:Nat),.int .i64 (p.first:Nat),.int .i64 (p.chunk:Nat),.slice A2 p.key.length C2,.slice A3 p.root.length C3]] w (zas E w cb V c p):=by
 obtain⟨W2,hW2⟩:∃W2,W2=(w.alloc (.cells #[.pointer (some ⟨cb,0,none⟩)] 52)).alloc (.cells #[.int .i64 (p.kind:Nat),.int .i64 (p.size:Nat),.slice Ak p.kids.length Ck,.int .i64 (p.dev:Nat),.int .i64 (p.first:Nat),.int .i64 (p.chunk:Nat),.slice A2 p.key.length C2,.slice A3 p.root.length C3] 65):=⟨_,rfl⟩
 have hb2:Below w.heap.size w W2:=by rw[hW2];exact yr w _ _
 have bx2:zm W2 w.heap.size 52 #[.pointer (some ⟨cb,0,none⟩)]:=by rw[hW2];exact(zm.new w _ _).alloc _
 have px2:zm W2 (w.heap.size+1) 65 #[.int .i64 (p.kind:Nat),.int .i64 (p.size:Nat),.slice Ak p.kids.length Ck,.int .i64 (p.dev:Nat),.int .i64 (p.first:Nat),.int .i64 (p.chunk:Nat),.slice A2 p.key.length C2,.slice A3 p.root.length C3]:=by rw[hW2];exact zm.new_at (by simp)
 have h2:qq E W2 cb V c:=h.keep hb2;have hbxn:¬V.own cb w.heap.size:=λe=>by have:=(h.low e).2;omega
 have hpxn:¬V.own cb (w.heap.size+1):=λe=>by have:=(h.low e).2;omega
 obtain⟨Ak',Ck',ek,hkc,hkm,hki⟩:=hu.kids;cases ek;have hK8:(((p.kind:Nat):Int)==8)=true:=by rw[beq_iff_eq];omega
 have hK5:(((p.kind:Nat):Int)==5)=false:=by rw[beq_eq_false_iff_ne];omega
 have hob:xK (zR c.parts) p=(true):=by
  unfold xK;rw[hk8];rfl
 have hany:=uc 78 #[.pointer (some ⟨w.heap.size,0,none⟩)] Ak p.kids.length Ck p.kids (λk=>(zR c.parts).getD k false) W2 (enters_of Tryz.func78 (by kernel_rfl) rfl) rfl (by omega) _ (hki.keep (Q:=λ_=>True) hb2.size (λk hk hn=>⟨hb2.block k hk,trivial⟩)) (λi hi W hW=>ui (h2.keep hW) w.heap.size p.kids[i] (hkids _ (List.getElem_mem hi)) (za hW (bx2.cell 0)))
 obtain⟨B,hB⟩:∃B,p.kids.any (λk=>(zR c.parts).getD k false)=B:=⟨_,rfl⟩
 rw[hB]at hany;have HOB:Hid (xK (zR c.parts) p=true):=hob;have HW:Hid (W2=(w.alloc (.cells #[.pointer (some ⟨cb,0,none⟩)] 52)).alloc (.cells #[.int .i64 (p.kind:Nat),.int .i64 (p.size:Nat),.slice Ak p.kids.length Ck,.int .i64 (p.dev:Nat),.int .i64 (p.first:Nat),.int .i64 (p.chunk:Nat),.slice A2 p.key.length C2,.slice A3 p.root.length C3] 65)):=hW2;rw[hW2]at hany;clear hob hB hW2 hk8;have G2:=h2.g;go_enter Tryz.func60,Tryz.ntmps60
 go_wp2_with (first
  |((go_at_call 77)
    refine hany.mono ?_;rintro e w3 ⟨rfl,hb3⟩;(rw[←HW.out]at hb3)))
 have G3:=G2.keep hb3;have bx3h:=bx2.below hb3 bx2.lt;have px3h:=px2.below hb3 px2.lt;have bx3:=bx3h.cell 0;have px3:=px3h.cell 0;have cb6:=G3.has.cell 6;refine jp (S:=λwz=>wz.cell? ⟨w.heap.size,0,none⟩=some (.pointer (some ⟨cb,0,none⟩))∧wz.cell? ⟨cb,6,none⟩=some V.vb∧wz.cell? ⟨w.heap.size+1,0,none⟩=some (.int .i64 (p.kind:Nat))) 15 (by kernel_rfl) (⟨bx3,cb6,px3⟩) (λhHeld=>?_);refine j3 0 (some 18) (.pointer (some ⟨cb,0,none⟩)) rfl rfl (λwz hz=>by obtain⟨z0,z1,z2⟩:=hz;unfold execOp;go_simp) hHeld ?_;simp only[Act.put,zh,zf,zg];refine j3 1 (some 19) (.pointer (some ⟨cb,0,none⟩)) rfl rfl (λwz hz=>by obtain⟨z0,z1,z2⟩:=hz;unfold execOp;go_simp) hHeld ?_;simp only[Act.put,zh,zf,zg];refine ja 2 (some 20) (.pointer (some ⟨cb,0,none⟩)) hHeld ?_;simp only[Act.put,zh,zf,zg];refine ja 3 (some 21) (.pointer (some ⟨cb,6,none⟩)) hHeld ?_;simp only[Act.put,zh,zf,zg];refine j3 4 (some 22) (V.vb) rfl rfl (λwz hz=>by obtain⟨z0,z1,z2⟩:=hz;unfold execOp;go_simp) hHeld ?_;simp only[Act.put,zh,zf,zg];refine ja 5 (some 23) (.pointer (some ⟨w.heap.size+1,0,none⟩)) hHeld ?_;simp only[Act.put,zh,zf,zg];refine j3 6 (some 24) (.int .i64 (p.kind:Nat)) rfl rfl (λwz hz=>by obtain⟨z0,z1,z2⟩:=hz;unfold execOp;go_simp) hHeld ?_;simp only[Act.put,zh,zf,zg];refine j3 7 (some 25) (.bool true) rfl rfl (λwz hz=>XN _ rfl (p.kind:Nat) rfl true hK8 wz) hHeld ?_;simp only[Act.put,zh,zf,zg];refine ja 8 (some 26) (.bool true) hHeld ?_;simp only[Act.put,zh,zf,zg];refine ZW 9 (some 27) rfl rfl (by decide) (by kernel_rfl) (by kernel_rfl) (by kernel_rfl) (by kernel_rfl) (λ_ _ _ h=>h) (by rfl) hHeld ?_;simp only[Act.put,zh,zf,zg];refine j3 10 (some 28) (.bool true) rfl rfl (λ_ _=>by kernel_rfl) hHeld ?_;simp only[Act.put,zh,zf,zg]
 have hS2:(w3.drew.alloc (.cells #[.bool true] 4)).cell? ⟨w.heap.size,0,none⟩=some (.pointer (some ⟨cb,0,none⟩))∧(w3.drew.alloc (.cells #[.bool true] 4)).cell? ⟨cb,6,none⟩=some V.vb∧(w3.drew.alloc (.cells #[.bool true] 4)).cell? ⟨w.heap.size+1,0,none⟩=some (.int .i64 (p.kind:Nat)):=⟨za (zl w3.drew _) hHeld.1,za (zl w3.drew _) hHeld.2.1,za (zl w3.drew _) hHeld.2.2⟩
 refine zV 11 (some 29) (.slice (some ⟨w3.heap.size,0,none⟩) 1 1) (w3.drew.alloc (.cells #[.bool true] 4)) (by kernel_rfl) rfl rfl (by rfl) (by kernel_rfl) hS2 ?_;simp only[Act.put,zh,zf,zg];have G3d:=(G3.keep (zr (Below.refl _ w3))).keep (zl w3.drew (.cells #[.bool true] 4));obtain⟨A6,C6,w6,hr6,hrow6,hg6,hw6⟩:=zX XU (ty:=54) (w3.drew.alloc (.cells #[.bool true] 4)) cb (zR c.parts).length _ _ G3d.only (by have:=G3d.has.lt;omega) (by rw[vr];have:=h.few.1;omega) [.bool true] rfl (by intro u hu;simp at hu;subst hu;rfl) w3.heap.size (zm.new_at rfl);obtain⟨G6,S6⟩:=G3d.putOnly hg6 hrow6 hw6;have bx6:zm w6 (w.heap.size) 52 #[.pointer (some ⟨cb,0,none⟩)]:=zy ((zt bx3h).alloc _) hg6 (λe=>hbxn (.inr (.inr (.inr (.inl e)))));have px6:zm w6 (w.heap.size+1) 65 #[.int .i64 (p.kind:Nat),.int .i64 (p.size:Nat),.slice Ak p.kids.length Ck,.int .i64 (p.dev:Nat),.int .i64 (p.first:Nat),.int .i64 (p.chunk:Nat),.slice A2 p.key.length C2,.slice A3 p.root.length C3]:=zy ((zt px3h).alloc _) hg6 (λe=>hpxn (.inr (.inr (.inr (.inl e)))));have cb6h:=zy G3d.has hg6 (zK G3d.only G3d.has (by decide))
 have hS6:w6.cell? ⟨w.heap.size,0,none⟩=some (.pointer (some ⟨cb,0,none⟩))∧w6.cell? ⟨cb,6,none⟩=some V.vb∧w6.cell? ⟨w.heap.size+1,0,none⟩=some (.int .i64 (p.kind:Nat)):=⟨bx6.cell 0,cb6h.cell 6,px6.cell 0⟩
 refine zV 12 (some 30) (.slice A6 ((zR c.parts).length+1) C6) w6 (by kernel_rfl) rfl rfl (by rfl) (zW _ _ rfl rfl rfl hr6) hS6 ?_;simp only[Act.put,zh,zf,zg];refine zV 13 (some 31) (.pointer (some ⟨cb,0,none⟩)) w6 (by kernel_rfl) rfl rfl (by rfl) rfl hS6 ?_;simp only[Act.put,zh,zf,zg];refine zV 14 (some 32) (.pointer (some ⟨cb,6,none⟩)) w6 (by kernel_rfl) rfl rfl (by rfl) rfl hS6 ?_;simp only[Act.put,zh,zf,zg];have q6:=cb6h.cell 6;have f6:=cb6h.free 6;refine qC 15 none (w6.setCell ⟨cb,6,none⟩ (.slice A6 ((zR c.parts).length+1) C6)) (by kernel_rfl) rfl rfl (by rfl) (by unfold execOp;go_simp) (by kernel_rfl) ?_;simp only[Act.put];have hS05:jX cb V w { V with vb:= .slice A6 ((zR c.parts).length+1) C6 } (w6.setCell ⟨cb,6,none⟩ (.slice A6 ((zR c.parts).length+1) C6)):=(jX.of ((hb2.trans (hb3.mono hb2.size)).trans (((zr (Below.refl _ w3)).trans (zl w3.drew _)).mono (show w.heap.size≤w3.heap.size from Nat.le_trans hb2.size hb3.size)))).trans S6;have HU5:=hu.keep hS05.only.size hS05.innerE;have bx5:=bx6.other (p:=⟨cb,6,none⟩) (by show w.heap.size≠cb;have:=h.has.lt;omega) (.slice A6 ((zR c.parts).length+1) C6);have px5:=px6.other (p:=⟨cb,6,none⟩) (by show w.heap.size+1≠cb;have:=h.has.lt;omega) (.slice A6 ((zR c.parts).length+1) C6);have cb52:=G6.has.cell 2;generalize w6.setCell ⟨cb,6,none⟩ (.slice A6 ((zR c.parts).length+1) C6)=W5 at G6 hS05 HU5 bx5 px5 cb52 ⊢;simp only[qH,qG,qI]at cb52;clear hS6 S6 hr6 hrow6 hg6 hw6 hS2 hHeld
 go_wp2
 refine jp (S:=λwz=>zm wz w.heap.size 52 #[.pointer (some ⟨cb,0,none⟩)]∧wz.cell? ⟨w.heap.size,0,none⟩=some (.pointer (some ⟨cb,0,none⟩))∧wz.cell? ⟨cb,2,none⟩=some V.vp∧zm wz (w.heap.size+1) 65 #[.int .i64 (p.kind:Nat),.int .i64 (p.size:Nat),.slice Ak p.kids.length Ck,.int .i64 (p.dev:Nat),.int .i64 (p.first:Nat),.int .i64 (p.chunk:Nat),.slice A2 p.key.length C2,.slice A3 p.root.length C3]) 12 (by kernel_rfl) (⟨bx5,bx5.cell 0,cb52,px5⟩) (λhHeld=>?_);refine j3 0 (some 33) (.pointer (some ⟨cb,0,none⟩)) rfl rfl (λwz hz=>by obtain⟨z9,z0,z1,z2⟩:=hz;unfold execOp;go_simp) hHeld ?_;simp only[Act.put,zh,zf,zg];refine j3 1 (some 34) (.pointer (some ⟨cb,0,none⟩)) rfl rfl (λwz hz=>by obtain⟨z9,z0,z1,z2⟩:=hz;unfold execOp;go_simp) hHeld ?_;simp only[Act.put,zh,zf,zg];refine ja 2 (some 35) (.pointer (some ⟨cb,0,none⟩)) hHeld ?_;simp only[Act.put,zh,zf,zg];refine ja 3 (some 36) (.pointer (some ⟨cb,0,none⟩)) hHeld ?_;simp only[Act.put,zh,zf,zg];refine ja 4 (some 37) (.pointer (some ⟨cb,2,none⟩)) hHeld ?_;simp only[Act.put,zh,zf,zg];refine j3 5 (some 38) (V.vp) rfl rfl (λwz hz=>by obtain⟨z9,z0,z1,z2⟩:=hz;unfold execOp;go_simp) hHeld ?_;simp only[Act.put,zh,zf,zg];refine j3 6 (some 39) (.agg #[.int .i64 (p.kind:Nat),.int .i64 (p.size:Nat),.slice Ak p.kids.length Ck,.int .i64 (p.dev:Nat),.int .i64 (p.first:Nat),.int .i64 (p.chunk:Nat),.slice A2 p.key.length C2,.slice A3 p.root.length C3]) rfl rfl (λwz hz=>qe _ rfl (w.heap.size+1) 0 rfl wz (λj hj=>by rw[Nat.zero_add];exact hz.2.2.2.cell j)) hHeld ?_;simp only[Act.put,zh,zf,zg]
 have hT2:zm (W5.drew.alloc (.cells #[.int .i64 (p.kind:Nat),.int .i64 (p.size:Nat),.slice Ak p.kids.length Ck,.int .i64 (p.dev:Nat),.int .i64 (p.first:Nat),.int .i64 (p.chunk:Nat),.slice A2 p.key.length C2,.slice A3 p.root.length C3] 65)) w.heap.size 52 #[.pointer (some ⟨cb,0,none⟩)]∧(W5.drew.alloc (.cells #[.int .i64 (p.kind:Nat),.int .i64 (p.size:Nat),.slice Ak p.kids.length Ck,.int .i64 (p.dev:Nat),.int .i64 (p.first:Nat),.int .i64 (p.chunk:Nat),.slice A2 p.key.length C2,.slice A3 p.root.length C3] 65)).cell? ⟨w.heap.size,0,none⟩=some (.pointer (some ⟨cb,0,none⟩))∧(W5.drew.alloc (.cells #[.int .i64 (p.kind:Nat),.int .i64 (p.size:Nat),.slice Ak p.kids.length Ck,.int .i64 (p.dev:Nat),.int .i64 (p.first:Nat),.int .i64 (p.chunk:Nat),.slice A2 p.key.length C2,.slice A3 p.root.length C3] 65)).cell? ⟨cb,2,none⟩=some V.vp∧zm (W5.drew.alloc (.cells #[.int .i64 (p.kind:Nat),.int .i64 (p.size:Nat),.slice Ak p.kids.length Ck,.int .i64 (p.dev:Nat),.int .i64 (p.first:Nat),.int .i64 (p.chunk:Nat),.slice A2 p.key.length C2,.slice A3 p.root.length C3] 65)) (w.heap.size+1) 65 #[.int .i64 (p.kind:Nat),.int .i64 (p.size:Nat),.slice Ak p.kids.length Ck,.int .i64 (p.dev:Nat),.int .i64 (p.first:Nat),.int .i64 (p.chunk:Nat),.slice A2 p.key.length C2,.slice A3 p.root.length C3]:=⟨(zt bx5).alloc _,((zt bx5).alloc _).cell 0,za (zl W5.drew _) hHeld.2.2.1,(zt px5).alloc _⟩
 refine zV 7 (some 40) (.slice (some ⟨W5.heap.size,0,none⟩) 1 1) (W5.drew.alloc (.cells #[.int .i64 (p.kind:Nat),.int .i64 (p.size:Nat),.slice Ak p.kids.length Ck,.int .i64 (p.dev:Nat),.int .i64 (p.first:Nat),.int .i64 (p.chunk:Nat),.slice A2 p.key.length C2,.slice A3 p.root.length C3] 65)) (by kernel_rfl) rfl rfl (by rfl) (by kernel_rfl) hT2 ?_;simp only[Act.put,zh,zf,zg];have hb5:Below W5.heap.size W5 (W5.drew.alloc (.cells #[.int .i64 (p.kind:Nat),.int .i64 (p.size:Nat),.slice Ak p.kids.length Ck,.int .i64 (p.dev:Nat),.int .i64 (p.first:Nat),.int .i64 (p.chunk:Nat),.slice A2 p.key.length C2,.slice A3 p.root.length C3] 65)):=(zr (Below.refl _ W5)).trans (zl W5.drew _);have G5d:=G6.keep hb5;obtain⟨us,e1,hpr,hpi⟩:=G5d.prts;obtain⟨A7,C7,w7,hr7,hrow7,hg7,hw7⟩:=zX Zp (ty:=30) (W5.drew.alloc (.cells #[.int .i64 (p.kind:Nat),.int .i64 (p.size:Nat),.slice Ak p.kids.length Ck,.int .i64 (p.dev:Nat),.int .i64 (p.first:Nat),.int .i64 (p.chunk:Nat),.slice A2 p.key.length C2,.slice A3 p.root.length C3] 65)) cb c.parts.length _ _ hpr (by have:=G5d.has.lt;omega) (by omega) #[.int .i64 (p.kind:Nat),.int .i64 (p.size:Nat),.slice Ak p.kids.length Ck,.int .i64 (p.dev:Nat),.int .i64 (p.first:Nat),.int .i64 (p.chunk:Nat),.slice A2 p.key.length C2,.slice A3 p.root.length C3].toList rfl (by intro u hu;simp at hu;rcases hu with rfl|rfl|rfl|rfl|rfl|rfl|rfl|rfl<;>rfl) W5.heap.size (zm.new_at rfl);have hu5:=HU5.keep (Q:=λg=>¬({ V with vb:= .slice A6 ((zR c.parts).length+1) C6 }:CV).own cb g∧E g) hb5.size (λk hk hn=>⟨hb5.block k hk,hn⟩);obtain⟨G7,S7⟩:=G5d.putPart (p:=p) e1 hpr hpi hu5 hg7 hrow7 hw7;have cb7h:=zy G5d.has hg7 (zK hpr G5d.has (by decide));have bx7:zm w7 w.heap.size 52 #[.pointer (some ⟨cb,0,none⟩)]:=zy ((zt bx5).alloc _) hg7 (zK hpr ((zt bx5).alloc _) (by decide));have px7:zm w7 (w.heap.size+1) 65 #[.int .i64 (p.kind:Nat),.int .i64 (p.size:Nat),.slice Ak p.kids.length Ck,.int .i64 (p.dev:Nat),.int .i64 (p.first:Nat),.int .i64 (p.chunk:Nat),.slice A2 p.key.length C2,.slice A3 p.root.length C3]:=zy ((zt px5).alloc _) hg7 (λe=>hpxn (.inr (.inr (.inl e))))
 have hT7:zm w7 w.heap.size 52 #[.pointer (some ⟨cb,0,none⟩)]∧w7.cell? ⟨w.heap.size,0,none⟩=some (.pointer (some ⟨cb,0,none⟩))∧w7.cell? ⟨cb,2,none⟩=some V.vp∧zm w7 (w.heap.size+1) 65 #[.int .i64 (p.kind:Nat),.int .i64 (p.size:Nat),.slice Ak p.kids.length Ck,.int .i64 (p.dev:Nat),.int .i64 (p.first:Nat),.int .i64 (p.chunk:Nat),.slice A2 p.key.length C2,.slice A3 p.root.length C3]:=⟨bx7,bx7.cell 0,cb7h.cell 2,px7⟩
 refine zV 8 (some 41) (.slice A7 (c.parts.length+1) C7) w7 (by kernel_rfl) rfl rfl (by rfl) (zW _ _ rfl rfl rfl hr7) hT7 ?_;simp only[Act.put,zh,zf,zg];refine zV 9 (some 42) (.pointer (some ⟨cb,0,none⟩)) w7 (by kernel_rfl) rfl rfl (by rfl) rfl hT7 ?_;simp only[Act.put,zh,zf,zg];refine zV 10 (some 43) (.pointer (some ⟨cb,0,none⟩)) w7 (by kernel_rfl) rfl rfl (by rfl) rfl hT7 ?_;simp only[Act.put,zh,zf,zg];refine zV 11 (some 44) (.pointer (some ⟨cb,2,none⟩)) w7 (by kernel_rfl) rfl rfl (by rfl) rfl hT7 ?_;simp only[Act.put,zh,zf,zg];have q7:=cb7h.cell 2;have f7:=cb7h.free 2;refine qC 12 none (w7.setCell ⟨cb,2,none⟩ (.slice A7 (c.parts.length+1) C7)) (by kernel_rfl) rfl rfl (by rfl) (by unfold execOp;go_simp) (by kernel_rfl) ?_;simp only[Act.put];have bx8:=(bx7.other (p:=⟨cb,2,none⟩) (by show w.heap.size≠cb;have:=h.has.lt;omega) (.slice A7 (c.parts.length+1) C7)).cell 0;have bl8:=(bx7.other (p:=⟨cb,2,none⟩) (by show w.heap.size≠cb;have:=h.has.lt;omega) (.slice A7 (c.parts.length+1) C7)).lt;have cb8:=G7.has.cell 2;have lc8:=G7.has.lt;have hfi:=hfew;generalize w7.setCell ⟨cb,2,none⟩ (.slice A7 (c.parts.length+1) C7)=W8 at G7 S7 bx8 bl8 cb8 lc8 ⊢
 obtain⟨L,hL⟩:∃L,L=c.parts.length:=⟨_,rfl⟩
 have HL:Hid (L=c.parts.length):=hL;simp only[List.getElem?_toArray,List.getElem?_cons_zero,List.getElem?_cons_succ,←hL]at bx8 cb8;rw[←hL]at hfi;clear hL
 go_wp2
 go_ret
 refine⟨by rw[←HL.out];rfl,_,G7.at ?_ ?_,hS05.trans ((jX.of hb5).trans S7)⟩
 ·rw[xq,HOB.out]
 ·simp;omega
theorem XV{w:World}{cb:Nat}{V:CV}{c:Ck}(h:qq E w cb V c)(p:Pt)(Ak:Option Addr)(Ck:Nat)(A2:Option Addr)(C2:Nat)(A3:Option Addr)(C3:Nat)(hu:xH w (λg=>¬V.own cb g∧E g) p (.slice Ak p.kids.length Ck,.slice A2 p.key.length C2,.slice A3 p.root.length C3))(hkids:∀k ∈ p.kids,k<c.parts.length)(hkl:p.kids.length≤1000)(hk5:p.kind=5)(hk2:p.kids.length=2)(hfew:c.parts.length≤90000):
 Calls Tryz.prog 60 #[.pointer (some ⟨cb,0,none⟩),.agg #[.int .i64 (p.kind:Nat),.int .i64 (p.size:Nat),.slice Ak p.kids.length Ck,.int .i64 (p.dev:Nat),.int .i64 (p.first:Nat),.int .i64 (p.chunk:Nat),.slice A2 p.key.length C2,.slice A3 p.root.length C3]] w (zas E w cb V c p):=by
 obtain⟨W2,hW2⟩:∃W2,W2=(w.alloc (.cells #[.pointer (some ⟨cb,0,none⟩)] 52)).alloc (.cells #[.int .i64 (p.kind:Nat),.int .i64 (p.size:Nat),.slice Ak p.kids.length Ck,.int .i64 (p.dev:Nat),.int .i64 (p.first:Nat),.int .i64 (p.chunk:Nat),.slice A2 p.key.length C2,.slice A3 p.root.length C3] 65):=⟨_,rfl⟩
 have hb2:Below w.heap.size w W2:=by rw[hW2];exact yr w _ _
 have bx2:zm W2 w.heap.size 52 #[.pointer (some ⟨cb,0,none⟩)]:=by rw[hW2];exact(zm.new w _ _).alloc _
 have px2:zm W2 (w.heap.size+1) 65 #[.int .i64 (p.kind:Nat),.int .i64 (p.size:Nat),.slice Ak p.kids.length Ck,.int .i64 (p.dev:Nat),.int .i64 (p.first:Nat),.int .i64 (p.chunk:Nat),.slice A2 p.key.length C2,.slice A3 p.root.length C3]:=by rw[hW2];exact zm.new_at (by simp)
 have h2:qq E W2 cb V c:=h.keep hb2;have hbxn:¬V.own cb w.heap.size:=λe=>by have:=(h.low e).2;omega
 have hpxn:¬V.own cb (w.heap.size+1):=λe=>by have:=(h.low e).2;omega
 obtain⟨Ak',Ck',ek,hkc,hkm,hki⟩:=hu.kids;cases ek;have hK8:(((p.kind:Nat):Int)==8)=false:=by rw[beq_eq_false_iff_ne];omega
 have hK5:(((p.kind:Nat):Int)==5)=true:=by rw[beq_iff_eq];omega
 have hlk:p.kids.length=2:=hk2;obtain⟨b,o,eA,hbl,hPb,hcl⟩:=hki.resolve_left (by intro e;rw[e]at hlk;simp at hlk)
 have hki':ZS W2 (λ_=>True) (some ⟨b,o+1,none⟩) (p.kids.drop 1):= .inr ⟨b,o+1,rfl,Nat.lt_of_lt_of_le hbl hb2.size,trivial,λj hj=>by
  have hj':1+j<p.kids.length:=by simp at hj;omega
  have:=(hb2.cell (p:=⟨b,o+(1+j),none⟩) hbl).trans (hcl (1+j) hj');rw[List.getElem_drop,show o+1+j=o+(1+j) by omega]
  exact this⟩
 subst eA;have hl1:1≤p.kids.length:=by omega
 have hc2:2≤Ck:=by omega
 have hob:xK (zR c.parts) p=((p.kids.drop 1).any (λk=>(zR c.parts).getD k false)):=by
  unfold xK;rw[hk5];rfl
 have hany:=uc 78 #[.pointer (some ⟨w.heap.size,0,none⟩)] (some ⟨b,o+1,none⟩) (p.kids.length-1) (Ck-1) (p.kids.drop 1) (λk=>(zR c.parts).getD k false) W2 (enters_of Tryz.func78 (by kernel_rfl) rfl) (by simp) (by omega) _ hki' (λi hi W hW=>ui (h2.keep hW) w.heap.size (p.kids.drop 1)[i] (hkids _ (List.mem_of_mem_drop (List.getElem_mem hi))) (za hW (bx2.cell 0)))
 obtain⟨B,hB⟩:∃B,(p.kids.drop 1).any (λk=>(zR c.parts).getD k false)=B:=⟨_,rfl⟩
 rw[hB]at hany hob;have HOB:Hid (xK (zR c.parts) p=B):=hob;have HW:Hid (W2=(w.alloc (.cells #[.pointer (some ⟨cb,0,none⟩)] 52)).alloc (.cells #[.int .i64 (p.kind:Nat),.int .i64 (p.size:Nat),.slice (some ⟨b,o,none⟩) p.kids.length Ck,.int .i64 (p.dev:Nat),.int .i64 (p.first:Nat),.int .i64 (p.chunk:Nat),.slice A2 p.key.length C2,.slice A3 p.root.length C3] 65)):=hW2;rw[hW2]at hany;clear hob hB hW2 hk5 hk2 hlk;have G2:=h2.g;go_enter Tryz.func60,Tryz.ntmps60
 go_wp2_with (first
  |((refine zi 14 rfl ?_)
    (refine zd (some 14) _ rfl (by rfl) (Ya _ rfl b o p.kids.length Ck rfl (by omega) (by omega) _) ?_))
  |((go_at_call 77)
    refine hany.mono ?_;rintro e w3 ⟨rfl,hb3⟩;(rw[←HW.out]at hb3)))
 have G3:=G2.keep hb3;have bx3h:=bx2.below hb3 bx2.lt;have px3h:=px2.below hb3 px2.lt;have bx3:=bx3h.cell 0;have px3:=px3h.cell 0;have cb6:=G3.has.cell 6;refine jp (S:=λwz=>wz.cell? ⟨w.heap.size,0,none⟩=some (.pointer (some ⟨cb,0,none⟩))∧wz.cell? ⟨cb,6,none⟩=some V.vb∧wz.cell? ⟨w.heap.size+1,0,none⟩=some (.int .i64 (p.kind:Nat))) 15 (by kernel_rfl) (⟨bx3,cb6,px3⟩) (λhHeld=>?_);refine j3 0 (some 18) (.pointer (some ⟨cb,0,none⟩)) rfl rfl (λwz hz=>by obtain⟨z0,z1,z2⟩:=hz;unfold execOp;go_simp) hHeld ?_;simp only[Act.put,zh,zf,zg];refine j3 1 (some 19) (.pointer (some ⟨cb,0,none⟩)) rfl rfl (λwz hz=>by obtain⟨z0,z1,z2⟩:=hz;unfold execOp;go_simp) hHeld ?_;simp only[Act.put,zh,zf,zg];refine ja 2 (some 20) (.pointer (some ⟨cb,0,none⟩)) hHeld ?_;simp only[Act.put,zh,zf,zg];refine ja 3 (some 21) (.pointer (some ⟨cb,6,none⟩)) hHeld ?_;simp only[Act.put,zh,zf,zg];refine j3 4 (some 22) (V.vb) rfl rfl (λwz hz=>by obtain⟨z0,z1,z2⟩:=hz;unfold execOp;go_simp) hHeld ?_;simp only[Act.put,zh,zf,zg];refine ja 5 (some 23) (.pointer (some ⟨w.heap.size+1,0,none⟩)) hHeld ?_;simp only[Act.put,zh,zf,zg];refine j3 6 (some 24) (.int .i64 (p.kind:Nat)) rfl rfl (λwz hz=>by obtain⟨z0,z1,z2⟩:=hz;unfold execOp;go_simp) hHeld ?_;simp only[Act.put,zh,zf,zg];refine j3 7 (some 25) (.bool false) rfl rfl (λwz hz=>XN _ rfl (p.kind:Nat) rfl false hK8 wz) hHeld ?_;simp only[Act.put,zh,zf,zg];refine ja 8 (some 26) (.bool false) hHeld ?_;simp only[Act.put,zh,zf,zg];refine ja 9 (some 27) (.bool B) hHeld ?_;simp only[Act.put,zh,zf,zg];refine j3 10 (some 28) (.bool B) rfl rfl (λ_ _=>by kernel_rfl) hHeld ?_;simp only[Act.put,zh,zf,zg]
 have hS2:(w3.drew.alloc (.cells #[.bool B] 4)).cell? ⟨w.heap.size,0,none⟩=some (.pointer (some ⟨cb,0,none⟩))∧(w3.drew.alloc (.cells #[.bool B] 4)).cell? ⟨cb,6,none⟩=some V.vb∧(w3.drew.alloc (.cells #[.bool B] 4)).cell? ⟨w.heap.size+1,0,none⟩=some (.int .i64 (p.kind:Nat)):=⟨za (zl w3.drew _) hHeld.1,za (zl w3.drew _) hHeld.2.1,za (zl w3.drew _) hHeld.2.2⟩
 refine zV 11 (some 29) (.slice (some ⟨w3.heap.size,0,none⟩) 1 1) (w3.drew.alloc (.cells #[.bool B] 4)) (by kernel_rfl) rfl rfl (by rfl) (by kernel_rfl) hS2 ?_;simp only[Act.put,zh,zf,zg];have G3d:=(G3.keep (zr (Below.refl _ w3))).keep (zl w3.drew (.cells #[.bool B] 4));obtain⟨A6,C6,w6,hr6,hrow6,hg6,hw6⟩:=zX XU (ty:=54) (w3.drew.alloc (.cells #[.bool B] 4)) cb (zR c.parts).length _ _ G3d.only (by have:=G3d.has.lt;omega) (by rw[vr];have:=h.few.1;omega) [.bool B] rfl (by intro u hu;simp at hu;subst hu;rfl) w3.heap.size (zm.new_at rfl);obtain⟨G6,S6⟩:=G3d.putOnly hg6 hrow6 hw6;have bx6:zm w6 (w.heap.size) 52 #[.pointer (some ⟨cb,0,none⟩)]:=zy ((zt bx3h).alloc _) hg6 (λe=>hbxn (.inr (.inr (.inr (.inl e)))));have px6:zm w6 (w.heap.size+1) 65 #[.int .i64 (p.kind:Nat),.int .i64 (p.size:Nat),.slice (some ⟨b,o,none⟩) p.kids.length Ck,.int .i64 (p.dev:Nat),.int .i64 (p.first:Nat),.int .i64 (p.chunk:Nat),.slice A2 p.key.length C2,.slice A3 p.root.length C3]:=zy ((zt px3h).alloc _) hg6 (λe=>hpxn (.inr (.inr (.inr (.inl e)))));have cb6h:=zy G3d.has hg6 (zK G3d.only G3d.has (by decide))
 have hS6:w6.cell? ⟨w.heap.size,0,none⟩=some (.pointer (some ⟨cb,0,none⟩))∧w6.cell? ⟨cb,6,none⟩=some V.vb∧w6.cell? ⟨w.heap.size+1,0,none⟩=some (.int .i64 (p.kind:Nat)):=⟨bx6.cell 0,cb6h.cell 6,px6.cell 0⟩
 refine zV 12 (some 30) (.slice A6 ((zR c.parts).length+1) C6) w6 (by kernel_rfl) rfl rfl (by rfl) (zW _ _ rfl rfl rfl hr6) hS6 ?_;simp only[Act.put,zh,zf,zg];refine zV 13 (some 31) (.pointer (some ⟨cb,0,none⟩)) w6 (by kernel_rfl) rfl rfl (by rfl) rfl hS6 ?_;simp only[Act.put,zh,zf,zg];refine zV 14 (some 32) (.pointer (some ⟨cb,6,none⟩)) w6 (by kernel_rfl) rfl rfl (by rfl) rfl hS6 ?_;simp only[Act.put,zh,zf,zg];have q6:=cb6h.cell 6;have f6:=cb6h.free 6;refine qC 15 none (w6.setCell ⟨cb,6,none⟩ (.slice A6 ((zR c.parts).length+1) C6)) (by kernel_rfl) rfl rfl (by rfl) (by unfold execOp;go_simp) (by kernel_rfl) ?_;simp only[Act.put];have hS05:jX cb V w { V with vb:= .slice A6 ((zR c.parts).length+1) C6 } (w6.setCell ⟨cb,6,none⟩ (.slice A6 ((zR c.parts).length+1) C6)):=(jX.of ((hb2.trans (hb3.mono hb2.size)).trans (((zr (Below.refl _ w3)).trans (zl w3.drew _)).mono (show w.heap.size≤w3.heap.size from Nat.le_trans hb2.size hb3.size)))).trans S6;have HU5:=hu.keep hS05.only.size hS05.innerE;have bx5:=bx6.other (p:=⟨cb,6,none⟩) (by show w.heap.size≠cb;have:=h.has.lt;omega) (.slice A6 ((zR c.parts).length+1) C6);have px5:=px6.other (p:=⟨cb,6,none⟩) (by show w.heap.size+1≠cb;have:=h.has.lt;omega) (.slice A6 ((zR c.parts).length+1) C6);have cb52:=G6.has.cell 2;generalize w6.setCell ⟨cb,6,none⟩ (.slice A6 ((zR c.parts).length+1) C6)=W5 at G6 hS05 HU5 bx5 px5 cb52 ⊢;simp only[qH,qG,qI]at cb52;clear hS6 S6 hr6 hrow6 hg6 hw6 hS2 hHeld
 go_wp2
 refine jp (S:=λwz=>zm wz w.heap.size 52 #[.pointer (some ⟨cb,0,none⟩)]∧wz.cell? ⟨w.heap.size,0,none⟩=some (.pointer (some ⟨cb,0,none⟩))∧wz.cell? ⟨cb,2,none⟩=some V.vp∧zm wz (w.heap.size+1) 65 #[.int .i64 (p.kind:Nat),.int .i64 (p.size:Nat),.slice (some ⟨b,o,none⟩) p.kids.length Ck,.int .i64 (p.dev:Nat),.int .i64 (p.first:Nat),.int .i64 (p.chunk:Nat),.slice A2 p.key.length C2,.slice A3 p.root.length C3]) 12 (by kernel_rfl) (⟨bx5,bx5.cell 0,cb52,px5⟩) (λhHeld=>?_);refine j3 0 (some 33) (.pointer (some ⟨cb,0,none⟩)) rfl rfl (λwz hz=>by obtain⟨z9,z0,z1,z2⟩:=hz;unfold execOp;go_simp) hHeld ?_;simp only[Act.put,zh,zf,zg];refine j3 1 (some 34) (.pointer (some ⟨cb,0,none⟩)) rfl rfl (λwz hz=>by obtain⟨z9,z0,z1,z2⟩:=hz;unfold execOp;go_simp) hHeld ?_;simp only[Act.put,zh,zf,zg];refine ja 2 (some 35) (.pointer (some ⟨cb,0,none⟩)) hHeld ?_;simp only[Act.put,zh,zf,zg];refine ja 3 (some 36) (.pointer (some ⟨cb,0,none⟩)) hHeld ?_;simp only[Act.put,zh,zf,zg];refine ja 4 (some 37) (.pointer (some ⟨cb,2,none⟩)) hHeld ?_;simp only[Act.put,zh,zf,zg];refine j3 5 (some 38) (V.vp) rfl rfl (λwz hz=>by obtain⟨z9,z0,z1,z2⟩:=hz;unfold execOp;go_simp) hHeld ?_;simp only[Act.put,zh,zf,zg];refine j3 6 (some 39) (.agg #[.int .i64 (p.kind:Nat),.int .i64 (p.size:Nat),.slice (some ⟨b,o,none⟩) p.kids.length Ck,.int .i64 (p.dev:Nat),.int .i64 (p.first:Nat),.int .i64 (p.chunk:Nat),.slice A2 p.key.length C2,.slice A3 p.root.length C3]) rfl rfl (λwz hz=>qe _ rfl (w.heap.size+1) 0 rfl wz (λj hj=>by rw[Nat.zero_add];exact hz.2.2.2.cell j)) hHeld ?_;simp only[Act.put,zh,zf,zg]
 have hT2:zm (W5.drew.alloc (.cells #[.int .i64 (p.kind:Nat),.int .i64 (p.size:Nat),.slice (some ⟨b,o,none⟩) p.kids.length Ck,.int .i64 (p.dev:Nat),.int .i64 (p.first:Nat),.int .i64 (p.chunk:Nat),.slice A2 p.key.length C2,.slice A3 p.root.length C3] 65)) w.heap.size 52 #[.pointer (some ⟨cb,0,none⟩)]∧(W5.drew.alloc (.cells #[.int .i64 (p.kind:Nat),.int .i64 (p.size:Nat),.slice (some ⟨b,o,none⟩) p.kids.length Ck,.int .i64 (p.dev:Nat),.int .i64 (p.first:Nat),.int .i64 (p.chunk:Nat),.slice A2 p.key.length C2,.slice A3 p.root.length C3] 65)).cell? ⟨w.heap.size,0,none⟩=some (.pointer (some ⟨cb,0,none⟩))∧(W5.drew.alloc (.cells #[.int .i64 (p.kind:Nat),.int .i64 (p.size:Nat),.slice (some ⟨b,o,none⟩) p.kids.length Ck,.int .i64 (p.dev:Nat),.int .i64 (p.first:Nat),.int .i64 (p.chunk:Nat),.slice A2 p.key.length C2,.slice A3 p.root.length C3] 65)).cell? ⟨cb,2,none⟩=some V.vp∧zm (W5.drew.alloc (.cells #[.int .i64 (p.kind:Nat),.int .i64 (p.size:Nat),.slice (some ⟨b,o,none⟩) p.kids.length Ck,.int .i64 (p.dev:Nat),.int .i64 (p.first:Nat),.int .i64 (p.chunk:Nat),.slice A2 p.key.length C2,.slice A3 p.root.length C3] 65)) (w.heap.size+1) 65 #[.int .i64 (p.kind:Nat),.int .i64 (p.size:Nat),.slice (some ⟨b,o,none⟩) p.kids.length Ck,.int .i64 (p.dev:Nat),.int .i64 (p.first:Nat),.int .i64 (p.chunk:Nat),.slice A2 p.key.length C2,.slice A3 p.root.length C3]:=⟨(zt bx5).alloc _,((zt bx5).alloc _).cell 0,za (zl W5.drew _) hHeld.2.2.1,(zt px5).alloc _⟩
 refine zV 7 (some 40) (.slice (some ⟨W5.heap.size,0,none⟩) 1 1) (W5.drew.alloc (.cells #[.int .i64 (p.kind:Nat),.int .i64 (p.size:Nat),.slice (some ⟨b,o,none⟩) p.kids.length Ck,.int .i64 (p.dev:Nat),.int .i64 (p.first:Nat),.int .i64 (p.chunk:Nat),.slice A2 p.key.length C2,.slice A3 p.root.length C3] 65)) (by kernel_rfl) rfl rfl (by rfl) (by kernel_rfl) hT2 ?_;simp only[Act.put,zh,zf,zg];have hb5:Below W5.heap.size W5 (W5.drew.alloc (.cells #[.int .i64 (p.kind:Nat),.int .i64 (p.size:Nat),.slice (some ⟨b,o,none⟩) p.kids.length Ck,.int .i64 (p.dev:Nat),.int .i64 (p.first:Nat),.int .i64 (p.chunk:Nat),.slice A2 p.key.length C2,.slice A3 p.root.length C3] 65)):=(zr (Below.refl _ W5)).trans (zl W5.drew _);have G5d:=G6.keep hb5;obtain⟨us,e1,hpr,hpi⟩:=G5d.prts;obtain⟨A7,C7,w7,hr7,hrow7,hg7,hw7⟩:=zX Zp (ty:=30) (W5.drew.alloc (.cells #[.int .i64 (p.kind:Nat),.int .i64 (p.size:Nat),.slice (some ⟨b,o,none⟩) p.kids.length Ck,.int .i64 (p.dev:Nat),.int .i64 (p.first:Nat),.int .i64 (p.chunk:Nat),.slice A2 p.key.length C2,.slice A3 p.root.length C3] 65)) cb c.parts.length _ _ hpr (by have:=G5d.has.lt;omega) (by omega) #[.int .i64 (p.kind:Nat),.int .i64 (p.size:Nat),.slice (some ⟨b,o,none⟩) p.kids.length Ck,.int .i64 (p.dev:Nat),.int .i64 (p.first:Nat),.int .i64 (p.chunk:Nat),.slice A2 p.key.length C2,.slice A3 p.root.length C3].toList rfl (by intro u hu;simp at hu;rcases hu with rfl|rfl|rfl|rfl|rfl|rfl|rfl|rfl<;>rfl) W5.heap.size (zm.new_at rfl);have hu5:=HU5.keep (Q:=λg=>¬({ V with vb:= .slice A6 ((zR c.parts).length+1) C6 }:CV).own cb g∧E g) hb5.size (λk hk hn=>⟨hb5.block k hk,hn⟩);obtain⟨G7,S7⟩:=G5d.putPart (p:=p) e1 hpr hpi hu5 hg7 hrow7 hw7;have cb7h:=zy G5d.has hg7 (zK hpr G5d.has (by decide));have bx7:zm w7 w.heap.size 52 #[.pointer (some ⟨cb,0,none⟩)]:=zy ((zt bx5).alloc _) hg7 (zK hpr ((zt bx5).alloc _) (by decide));have px7:zm w7 (w.heap.size+1) 65 #[.int .i64 (p.kind:Nat),.int .i64 (p.size:Nat),.slice (some ⟨b,o,none⟩) p.kids.length Ck,.int .i64 (p.dev:Nat),.int .i64 (p.first:Nat),.int .i64 (p.chunk:Nat),.slice A2 p.key.length C2,.slice A3 p.root.length C3]:=zy ((zt px5).alloc _) hg7 (λe=>hpxn (.inr (.inr (.inl e))))
 have hT7:zm w7 w.heap.size 52 #[.pointer (some ⟨cb,0,none⟩)]∧w7.cell? ⟨w.heap.size,0,none⟩=some (.pointer (some ⟨cb,0,none⟩))∧w7.cell? ⟨cb,2,none⟩=some V.vp∧zm w7 (w.heap.size+1) 65 #[.int .i64 (p.kind:Nat),.int .i64 (p.size:Nat),.slice (some ⟨b,o,none⟩) p.kids.length Ck,.int .i64 (p.dev:Nat),.int .i64 (p.first:Nat),.int .i64 (p.chunk:Nat),.slice A2 p.key.length C2,.slice A3 p.root.length C3]:=⟨bx7,bx7.cell 0,cb7h.cell 2,px7⟩
 refine zV 8 (some 41) (.slice A7 (c.parts.length+1) C7) w7 (by kernel_rfl) rfl rfl (by rfl) (zW _ _ rfl rfl rfl hr7) hT7 ?_;simp only[Act.put,zh,zf,zg];refine zV 9 (some 42) (.pointer (some ⟨cb,0,none⟩)) w7 (by kernel_rfl) rfl rfl (by rfl) rfl hT7 ?_;simp only[Act.put,zh,zf,zg];refine zV 10 (some 43) (.pointer (some ⟨cb,0,none⟩)) w7 (by kernel_rfl) rfl rfl (by rfl) rfl hT7 ?_;simp only[Act.put,zh,zf,zg];refine zV 11 (some 44) (.pointer (some ⟨cb,2,none⟩)) w7 (by kernel_rfl) rfl rfl (by rfl) rfl hT7 ?_;simp only[Act.put,zh,zf,zg];have q7:=cb7h.cell 2;have f7:=cb7h.free 2;refine qC 12 none (w7.setCell ⟨cb,2,none⟩ (.slice A7 (c.parts.length+1) C7)) (by kernel_rfl) rfl rfl (by rfl) (by unfold execOp;go_simp) (by kernel_rfl) ?_;simp only[Act.put];have bx8:=(bx7.other (p:=⟨cb,2,none⟩) (by show w.heap.size≠cb;have:=h.has.lt;omega) (.slice A7 (c.parts.length+1) C7)).cell 0;have bl8:=(bx7.other (p:=⟨cb,2,none⟩) (by show w.heap.size≠cb;have:=h.has.lt;omega) (.slice A7 (c.parts.length+1) C7)).lt;have cb8:=G7.has.cell 2;have lc8:=G7.has.lt;have hfi:=hfew;generalize w7.setCell ⟨cb,2,none⟩ (.slice A7 (c.parts.length+1) C7)=W8 at G7 S7 bx8 bl8 cb8 lc8 ⊢
 obtain⟨L,hL⟩:∃L,L=c.parts.length:=⟨_,rfl⟩
 have HL:Hid (L=c.parts.length):=hL;simp only[List.getElem?_toArray,List.getElem?_cons_zero,List.getElem?_cons_succ,←hL]at bx8 cb8;rw[←hL]at hfi;clear hL
 go_wp2
 go_ret
 refine⟨by rw[←HL.out];rfl,_,G7.at ?_ ?_,hS05.trans ((jX.of hb5).trans S7)⟩
 ·rw[xq,HOB.out]
 ·simp;omega
end
section
open Go.ChangeShapes Go.WideShapes Go.ChangeAt Go.RowKit
theorem F5(f:Nat):∀(x:List UInt8) (a k e o:Nat),yh f x a k= .error (e,o)→e≠0:=by
 induction f with
 |zero=>intro x a k e o h;cases h
 |succ f ih =>
  intro x a k e o h;rw[yh]at h
  split at h
  ·cases h
  ·split at h
   ·cases h;decide
   ·cases hr:one (x.drop (jO false x))with
    |error r =>
     obtain⟨er,oo⟩:=r;rw[hr]at h;cases h;rcases Vi hr with e|⟨e,_⟩<;>omega
    |ok r =>
     obtain⟨t,n⟩:=r;rw[hr]at h;simp only at h;cases hs:yh f (x.drop (jO false x+n)) (a+jO false x+n) (k+1)with
     |ok us=>rw[hs]at h;cases h
     |error r =>
      obtain⟨er,oo⟩:=r;rw[hs]at h;cases h;exact ih _ _ _ _ _ hs
theorem kY{l:List UInt8}{e o:Nat}(h:jN l= .error (e,o)):e≠0:=by
 unfold jN at h
 split at h
 ·cases h;decide
 ·exact F5 _ _ _ _ _ _ h
theorem Y0(x:List UInt8)(w:World)(hm:x.length≤maxLen):Calls Tryz.prog 13 #[.string (bs x)] w (VT w (jN x)):=by
 by_cases h:2000<x.length
 ·exact Vs w x h hm
 ·exact G0 w x h
theorem QT(x:List UInt8)(w:World)(hm:x.length≤maxLen){ts:zL}(h:vL x= .ok ts):Calls Tryz.prog 13 #[.string (bs x)] w λe w'=>∃A C,e= .returned (.tuple #[.slice A ts.length C,.int .i64 0,.int .i64 (-1)])∧Below w.heap.size w w'∧vn w' w.heap.size (.slice A ts.length C) ts:=by
 refine(Y0 x w hm).mono ?_;rw[(ZL x ts).2 h];rintro e w' ⟨hb,v,rfl,hr⟩;obtain⟨A,C,rfl⟩:=Qs hr;exact⟨A,C,rfl,hb,hr⟩
theorem Vz(x:List UInt8)(hm:x.length≤maxLen)(h:∀ts,vL x≠ .ok ts):∃er o:Nat,er≠0∧∀w:World,Calls Tryz.prog 13 #[.string (bs x)] w λe w'=>e= .returned (.tuple #[.slice none 0 0,.int .i64 (er:Nat),.int .i64 (o:Nat)])∧Below w.heap.size w w':=by
 cases hS:jN x with
 |ok ts=>exact absurd ((ZL x ts).1 hS) (h ts)
 |error r =>
  obtain⟨er,o⟩:=r;refine⟨er,o,kY hS,λw=>(Y0 x w hm).mono ?_⟩;rw[hS];rintro e w' ⟨hb,he⟩;exact⟨he,hb⟩
theorem JY(x:List UInt8)(w:World)(hm:x.length≤maxLen){t:Tk×Nat}(h:vL x= .ok [t]):Calls Tryz.prog 13 #[.string (bs x)] w λe w'=>∃g C,e= .returned (.tuple #[.slice (some ⟨g,0,none⟩) 1 C,.int .i64 0,.int .i64 (-1)])∧Below w.heap.size w w'∧g<w'.heap.size∧w'.cell? ⟨g,0,none⟩=some (.int .i64 (t.1.kind:Nat))∧w'.cell? ⟨g,1,none⟩=some (.string (bs t.1.s)):=by
 refine(QT x w hm h).mono ?_;rintro e w' ⟨A,C,rfl,hb,htr⟩;obtain⟨g,C',e,q1,q2,q3,q4,_,hc⟩:=htr.lies (by simp);cases e;exact⟨g,C,rfl,hb,q2,hc 0 (by simp) 0 (by decide),hc 0 (by simp) 1 (by decide)⟩
theorem Xh{x:List UInt8}(h:∀ts,vL x≠ .ok ts):xG x=none:=by
 unfold xG;cases hS:vL x with
 |error r=>rfl
 |ok ts=>exact absurd hS (h ts)
theorem Xd{x:List UInt8}{ts:zL}(h:vL x= .ok ts)(h1:ts.length≠1):xG x=none:=by
 unfold xG;rw[h]
 match ts,h1 with
 | [],_=>rfl
 | [t],h=>exact absurd rfl h
 |_::_::_,_=>rfl
theorem xy(x:List UInt8)(w:World)(hm:x.length≤maxLen):Calls Tryz.prog 66 #[.string (bs x)] w (j1 w (jq x)):=by
 have hrv:=λW=>Ql x W
 by_cases hS:∃ts,vL x= .ok ts
 ·obtain⟨ts,hS⟩:=hS
  by_cases h1:ts.length=1
  ·obtain⟨t,rfl⟩:=List.length_eq_one_iff.1 h1
   have hsc:=JY x w hm hS;have hT:xG x=some t:=by unfold xG;rw[hS]
   obtain⟨⟨K,S,V⟩,q⟩:=t;have hN:jq x=(K==0&& !Zt S&&S==x):=by unfold jq;rw[hT];rfl
   simp only at hsc;have s1:=zp x;have s2:=zp S;clear hS hT h1 hm;by_cases hK:K=0
   ·subst hK
    have hsc:Calls Tryz.prog 13 #[.string (bs x)] w λe w'=>∃g C,e= .returned (.tuple #[.slice (some ⟨g,0,none⟩) 1 C,.int .i64 0,.int .i64 (-1)])∧Below w.heap.size w w'∧g<w'.heap.size∧w'.cell? ⟨g,0,none⟩=some (.int .i64 0)∧w'.cell? ⟨g,1,none⟩=some (.string (bs S)):=hsc
    by_cases hSx:S=x
    ·subst hSx
     rw[show jq S= !Zt S by rw[hN];simp];generalize Zt S=R at hrv ⊢;clear hN;go_enter Tryz.func66,Tryz.ntmps66
     go_wp2_with (first
      |((go_at_call 13)
        refine hsc.mono ?_;(rintro e w1 ⟨g,C,rfl,hb1,hg,c0,c1⟩))
      |((go_at_call 52)
        refine(hrv _).mono ?_;rintro e w2 ⟨rfl,hb2⟩;have d0:=za hb2 c0;(have d1:=za hb2 c1)))
     go_ret
     exact⟨rfl,hb1.trans (hb2.mono hb1.size)⟩
    ·have hbx:(S==x)=false:=by simpa using hSx
     rw[show jq x=false by rw[hN,hbx];simp];clear hN;go_enter Tryz.func66,Tryz.ntmps66
     go_wp2_with (first
      |((go_at_call 13)
        refine hsc.mono ?_;(rintro e w1 ⟨g,C,rfl,hb1,hg,c0,c1⟩))
      |((go_at_call 52)
        refine(hrv _).mono ?_;rintro e w2 ⟨rfl,hb2⟩;have d0:=za hb2 c0;(have d1:=za hb2 c1)))
     go_ret
     exact⟨rfl,hb1.trans (hb2.mono hb1.size)⟩
   ·have hK':¬((K:Nat):Int)=0:=by omega
    rw[show jq x=false by rw[hN];simp[hK]];clear hN;go_enter Tryz.func66,Tryz.ntmps66
    go_wp2_with (first
     |((go_at_call 13)
       refine hsc.mono ?_;(rintro e w1 ⟨g,C,rfl,hb1,hg,c0,c1⟩))
     |((go_at_call 52)
       refine(hrv _).mono ?_;rintro e w2 ⟨rfl,hb2⟩;have d0:=za hb2 c0;(have d1:=za hb2 c1)))
    go_ret
    exact⟨rfl,hb1.trans (hb2.mono hb1.size)⟩
  ·have hsc:=QT x w hm hS
   have hlen:=(yy hS).1;rw[show jq x=false by unfold jq;rw[Xd hS h1]];have hsc:Calls Tryz.prog 13 #[.string (bs x)] w λe w'=>∃A C,e= .returned (.tuple #[.slice A ts.length C,.int .i64 0,.int .i64 (-1)])∧Below w.heap.size w w':=hsc.mono λe w' ⟨A,C,h1,h2,_⟩=>⟨A,C,h1,h2⟩
   clear hS;generalize ts.length=L at *;have hL':¬((L:Nat):Int)=1:=by omega
   go_enter Tryz.func66,Tryz.ntmps66
   go_wp2_with (first
    |((go_at_call 13)
      refine hsc.mono ?_;(rintro e w1 ⟨A,C,rfl,hb1⟩))
    |((go_at_call 52)
      refine(hrv _).mono ?_;(rintro e w2 ⟨rfl,hb2⟩)))
   go_ret
   exact⟨rfl,hb1.trans (hb2.mono hb1.size)⟩
 ·have hno:∀ts,vL x≠ .ok ts:=λts h=>hS ⟨ts,h⟩
  obtain⟨er,o,he,hsc⟩:=Vz x hm hno;have he':¬((er:Nat):Int)=0:=by omega
  rw[show jq x=false by unfold jq;rw[Xh hno]];clear hS hno he hm;go_enter Tryz.func66,Tryz.ntmps66
  go_wp2_with (first
   |((go_at_call 13)
     refine(hsc _).mono ?_;(rintro e w1 ⟨rfl,hb1⟩))
   |((go_at_call 52)
     refine(hrv _).mono ?_;(rintro e w2 ⟨rfl,hb2⟩)))
  go_ret
  exact⟨rfl,hb1.trans (hb2.mono hb1.size)⟩
theorem zck(x:List UInt8)(w:World)(hm:x.length<maxLen):Calls Tryz.prog 86 #[.string (bs x)] w (j1 w (xg x)):=by
 have hm2:(36::x).length≤maxLen:=by simp only[List.length_cons];omega
 have e36:(⟨#[36]⟩:ByteArray)++bs x=bs (36::x):=by rw[show(⟨#[36]⟩:ByteArray)=bs [36]from rfl,Hc];rfl
 have hsz2:((bs x).size:Int)<9223372036854775807:=by have:=zJ x;unfold maxLen at hm;omega
 have s1:=zp x;by_cases hS:∃ts,vL (36::x)= .ok ts
 ·obtain⟨ts,hS⟩:=hS
  by_cases h1:ts.length=1
  ·obtain⟨t,rfl⟩:=List.length_eq_one_iff.1 h1
   have hsc:=λW=>JY (36::x) W hm2 hS
   rw[←e36]at hsc;have hT:xG (36::x)=some t:=by unfold xG;rw[hS]
   obtain⟨⟨K,S,V⟩,q⟩:=t;have hN:xg x=(K==2&&S==x):=by unfold xg;rw[hT]
   simp only at hsc;have s2:=zp S;clear hS hT h1 hm hm2 e36;by_cases hK:K=2
   ·subst hK
    have hsc:∀W,Calls Tryz.prog 13 #[.string (⟨#[36]⟩++bs x)] W λe w'=>∃g C,e= .returned (.tuple #[.slice (some ⟨g,0,none⟩) 1 C,.int .i64 0,.int .i64 (-1)])∧Below W.heap.size W w'∧g<w'.heap.size∧w'.cell? ⟨g,0,none⟩=some (.int .i64 2)∧w'.cell? ⟨g,1,none⟩=some (.string (bs S)):=hsc
    by_cases hSx:S=x
    ·subst hSx
     rw[show xg S=true by rw[hN];simp];clear hN;go_enter Tryz.func86,Tryz.ntmps86
     go_wp2_with (first
      |((go_at_call 13)
        refine(hsc _).mono ?_;(rintro e w1 ⟨g,C,rfl,hb1,hg,c0,c1⟩)))
     go_ret
     exact⟨rfl,hb1⟩
    ·have hbx:(S==x)=false:=by simpa using hSx
     rw[show xg x=false by rw[hN,hbx];simp];clear hN;go_enter Tryz.func86,Tryz.ntmps86
     go_wp2_with (first
      |((go_at_call 13)
        refine(hsc _).mono ?_;(rintro e w1 ⟨g,C,rfl,hb1,hg,c0,c1⟩)))
     go_ret
     exact⟨rfl,hb1⟩
   ·have hK':¬((K:Nat):Int)=2:=by omega
    rw[show xg x=false by rw[hN];simp[hK]];clear hN;go_enter Tryz.func86,Tryz.ntmps86
    go_wp2_with (first
     |((go_at_call 13)
       refine(hsc _).mono ?_;(rintro e w1 ⟨g,C,rfl,hb1,hg,c0,c1⟩)))
    go_ret
    exact⟨rfl,hb1⟩
  ·have hsc:=λW=>QT (36::x) W hm2 hS
   rw[←e36]at hsc;have hlen:=(yy hS).1;rw[show xg x=false by unfold xg;rw[Xd hS h1]];have hsc:∀W,Calls Tryz.prog 13 #[.string (⟨#[36]⟩++bs x)] W λe w'=>∃A C,e= .returned (.tuple #[.slice A ts.length C,.int .i64 0,.int .i64 (-1)])∧Below W.heap.size W w':=λW=>(hsc W).mono λe w' ⟨A,C,h1,h2,_⟩=>⟨A,C,h1,h2⟩
   clear hS e36;generalize ts.length=L at *;have hL':¬((L:Nat):Int)=1:=by omega
   go_enter Tryz.func86,Tryz.ntmps86
   go_wp2_with (first
    |((go_at_call 13)
      refine(hsc _).mono ?_;(rintro e w1 ⟨A,C,rfl,hb1⟩)))
   go_ret
   exact⟨rfl,hb1⟩
 ·have hno:∀ts,vL (36::x)≠ .ok ts:=λts h=>hS ⟨ts,h⟩
  obtain⟨er,o,he,hsc⟩:=Vz (36::x) hm2 hno;rw[←e36]at hsc;have he':¬((er:Nat):Int)=0:=by omega
  rw[show xg x=false by unfold xg;rw[Xh hno]];clear hS hno he hm hm2 e36;generalize ((er:Nat):Int)=E at hsc he';generalize ((o:Nat):Int)=O at hsc;go_enter Tryz.func86,Tryz.ntmps86
  go_wp2_with (first
   |((go_at_call 13)
     refine(hsc _).mono ?_;(rintro e w1 ⟨rfl,hb1⟩)))
  go_ret
  exact⟨rfl,hb1⟩
end
end Go.Proofs.YteaddcdpgcgggaaGreatDoor
