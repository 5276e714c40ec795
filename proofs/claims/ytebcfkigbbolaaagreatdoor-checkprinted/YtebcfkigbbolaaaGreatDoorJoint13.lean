import Derived.Test.YtebcfkigbbolaaaGreatDoorJoint12
import Derived.Test.YtebcfkigbbolaaaGreatDoorJoint05
import Derived.Test.YtebcfkigbbolaaaGreatDoorJoint11
import Derived.Test.YtebcfkigbbolaaaGreatDoorJoint09
namespace Go.Proofs.YtebcfkigbbolaaaGreatDoor
set_option linter.unusedVariables false
set_option maxRecDepth 100000
set_option maxHeartbeats 40000000
section
open Go.ChangeShapes Go.WideShapes Go.ChangeAt Go.RowKit Go.MapKept
variable {E:Nat→Prop}
theorem VP{w:World}{cb:Nat}{V:CV}{c:Ck}{ks:List Nat}{bk ok Ck:Nat}(hI:PIn E w cb V c ks bk ok Ck)(n:Nd)(A:Option Addr)(C:Nat)(hr:jZ w n A C)(ho:n.op=qw)(hl:n.l.length=3)(hk2:ks.length=2)(hx2:0≤(yf n.l 2).n∧(yf n.l 2).n≤999999999):
 Calls Tryz.prog 144 #[.pointer (some ⟨cb,0,none⟩),.agg (zR n (.slice A n.l.length C)),.slice (some ⟨bk,ok,none⟩) ks.length Ck] w (xB w (Gd (jU c.names c.parts n ks))):=by
 have hk0:=hI.pos;have hkid:=hI.kid;have h:=hI.ck;have hp0:0<c.parts.length:=by have:=(hkid _ (List.getElem_mem hk0)).1;omega
 obtain⟨g,op,Cp,evp,hCp1,hCp2,hg,hSz⟩:=h.vp hp0;have hgd:ks.getD 0 0=ks[0]:=by rw[List.getD_eq_getElem?_getD,List.getElem?_eq_getElem hk0];rfl
 obtain⟨W2,hW2⟩:∃W2,W2=(w.alloc (.cells #[.string (bs n.op),.string (bs n.s),.int .i64 n.n,.int .i64 n.a,.slice A n.l.length C] 24)).alloc (.cells #[.int .i64 0,.int .i64 0,.slice none 0 0,.int .i64 0,.int .i64 0,.int .i64 0,.slice none 0 0,.slice none 0 0] 47):=⟨_,rfl⟩
 have hb2:Below w.heap.size w W2:=by rw[hW2];exact qv w _ _
 have P2:ze W2 (w.heap.size+1) 47 #[.int .i64 0,.int .i64 0,.slice none 0 0,.int .i64 0,.int .i64 0,.int .i64 0,.slice none 0 0,.slice none 0 0]:=by rw[hW2];exact ze.new_at (by simp)
 have N2:ze W2 w.heap.size 24 #[.string (bs n.op),.string (bs n.s),.int .i64 n.n,.int .i64 n.a,.slice A n.l.length C]:=by rw[hW2];exact(ze.new w _ _).alloc _
 have HW:Hid (W2=(w.alloc (.cells #[.string (bs n.op),.string (bs n.s),.int .i64 n.n,.int .i64 n.a,.slice A n.l.length C] 24)).alloc (.cells #[.int .i64 0,.int .i64 0,.slice none 0 0,.int .i64 0,.int .i64 0,.int .i64 0,.slice none 0 0,.slice none 0 0] 47)):=hW2;have hot:=zx n.op;have c2:=h.has.cell 2;simp only[List.getElem?_toArray,List.getElem?_cons_zero,List.getElem?_cons_succ,evp]at c2;have c2r:=za hb2 c2;have k0r:W2.cell? ⟨bk,ok,none⟩=some (.int .i64 (ks[0]:Nat)):=za hb2 (hI.cells 0 hk0);obtain⟨hK0n',hS1,hS2⟩:=hkid _ (List.getElem_mem hk0);have s0r:=hSz.below hb2 hg _ hK0n';obtain⟨gn,on,Au,Cu,rfl,hgn,hat⟩:=xQ hr (by omega);have x2w:w.cell? ⟨gn,on+2*5+2,none⟩=some (.int .i64 (yf n.l 2).n):=(hat 2 (by omega)).1 2 (by decide);have hk1:1<ks.length:=by omega
 have hgd1:ks.getD 1 0=ks[1]:=by rw[List.getD_eq_getElem?_getD,List.getElem?_eq_getElem hk1];rfl
 obtain⟨g2,o2,C2,evb,hC21,hC22,hg2,hOn⟩:=h.vo hp0;obtain⟨hK1n',hS11,hS12⟩:=hkid _ (List.getElem_mem hk1);have s1r:=hSz.below hb2 hg _ hK1n';have onr:=hOn.below hb2 hg2 ks[1] (by rw[vD];exact hK1n');have k1r:W2.cell? ⟨bk,ok+1,none⟩=some (.int .i64 (ks[1]:Nat)):=za hb2 (hI.cells 1 hk1);have c6:=h.has.cell 6;simp only[List.getElem?_toArray,List.getElem?_cons_zero,List.getElem?_cons_succ,evb]at c6;have c6r:=za hb2 c6;have x2r:=za hb2 x2w
 have hR:jU c.names c.parts n ks=if slt (sz c.parts ks[1]) (sz c.parts ks[0]) (yf n.l 2).n=0 then .error (134,n.a)else if(qg c.parts).getD ks[1] false=true then .error (139,n.a)else .ok ⟨5,sz c.parts ks[0],ks,0,0,(yf n.l 2).n.toNat,[],[]⟩:=by
  unfold jU;rw[if_neg (by rw[ho];decide),if_neg (by rw[ho];decide),if_pos ho,hgd,hgd1];rfl
 have HR:=zz hR;have hst:=λW=>di (sz c.parts ks[1]) (sz c.parts ks[0]) (yf n.l 2).n W
 clear hR c6;have f0:(n.op== [108,105,110,101,97,114])=false:=by rw[ho];decide
 have f1:(n.op== [99,111,110,99,97,116])=false:=by rw[ho];decide
 have f2:(n.op== [109,105,114,114,111,114])=false:=by rw[ho];decide
 have f3:(n.op== [115,110,97,112,115,104,111,116])=true:=by rw[ho];decide
 obtain⟨NP,hNP⟩:∃NP,NP=c.parts.length:=⟨_,rfl⟩
 have HNP:Hid (NP=c.parts.length):=hNP;rw[←hNP]at hCp1 c2r hK0n'
 obtain⟨Lk,hLk⟩:∃Lk,Lk=ks.length:=⟨_,rfl⟩
 have HLk:Hid (Lk=ks.length):=hLk;rw[←hLk];have hL0:0<Lk:=by omega
 obtain⟨S,hS⟩:∃S,S=sz c.parts ks[0]:=⟨_,rfl⟩
 obtain⟨K0,hK0⟩:∃K0,K0=ks[0]:=⟨_,rfl⟩
 rw[←hS]at s0r hS1 hS2;rw[←hK0]at s0r k0r hK0n';have HS:Hid (S=sz c.parts ks[0]):=hS;have hK0n:K0<NP:=hK0n';rw[←hNP]at c6r hK1n';rw[←hS]at HR hst
 obtain⟨x2,hx2'⟩:∃x,x=(yf n.l 2).n:=⟨_,rfl⟩
 rw[←hx2']at HR x2w x2r hx2 hst
 obtain⟨S1,hS1'⟩:∃S1,S1=sz c.parts ks[1]:=⟨_,rfl⟩
 rw[←hS1']at HR s1r hst
 obtain⟨ob,hob⟩:∃ob,ob=(qg c.parts).getD ks[1] false:=⟨_,rfl⟩
 rw[←hob]at HR onr
 obtain⟨K1,hK1⟩:∃K1,K1=ks[1]:=⟨_,rfl⟩
 rw[←hK1]at s1r k1r onr hK1n'
 obtain⟨sl,hsl⟩:∃sl,sl=slt S1 S x2:=⟨_,rfl⟩
 rw[←hsl]at HR hst
 obtain⟨Ln,hLn⟩:∃Ln,Ln=n.l.length:=⟨_,rfl⟩
 rw[←hLn]at N2 HW hl ⊢;have hln2:2<Ln:=by omega
 have hL1:1<Lk:=by omega
 have hK1n:K1<NP:=hK1n'
 obtain⟨X2,rfl⟩:∃X:Nat,x2=(X:Nat):=⟨x2.toNat,by omega⟩
 obtain⟨hX2a,hX2b⟩:=hx2;have HI:=zz hb2;clear hW2 hNP hLk hS hK0 hK0n' c2 hx2' hS1' hob hK1 hsl hLn hat ho hr hI hkid h hl hk2 hK1n' x2w evb hC21 hC22 hOn hS11 hS12;unfold zR;go_enter Tryz.func144,Tryz.ntmps144
 go_wp2
 rw[←HW.out];refine wp_region_held_drew (S:=λwz=>Below W2.heap.size W2 wz) (by kernel_rfl) ((Below.refl _ W2).drew) (λhHeld=>?_);refine zS 0 (some 13) (.pointer (some ⟨cb,0,none⟩)) hHeld ?_;simp only[Act.put,zk,zj,zl];refine zS 1 (some 14) (.pointer (some ⟨cb,0,none⟩)) hHeld ?_;simp only[Act.put,zk,zj,zl];refine zS 2 (some 15) (.pointer (some ⟨cb,0,none⟩)) hHeld ?_;simp only[Act.put,zk,zj,zl];refine zS 3 (some 16) (.pointer (some ⟨cb,2,none⟩)) hHeld ?_;simp only[Act.put,zk,zj,zl];refine qq 4 (some 17) (.slice (some ⟨g,op,none⟩) NP Cp) rfl rfl (λwz hz=>by have z0:=za hz c2r;unfold execOp;go_simp) hHeld ?_;simp only[Act.put,zk,zj,zl];refine zS 5 (some 18) (.slice (some ⟨bk,ok,none⟩) Lk Ck) hHeld ?_;simp only[Act.put,zk,zj,zl];refine qq 6 (some 19) (.pointer (some ⟨bk,ok,none⟩)) rfl rfl (λwz _=>jw _ _ rfl bk ok 0 Lk Ck rfl rfl hL0 wz) hHeld ?_;simp only[Act.put,zk,zj,zl];refine qq 7 (some 20) (.int .i64 (K0:Nat)) rfl rfl (λwz hz=>by have z0:=za hz k0r;unfold execOp;go_simp) hHeld ?_;simp only[Act.put,zk,zj,zl];refine qq 8 (some 21) (.pointer (some ⟨g,op+K0*8,none⟩)) rfl rfl (λwz _=>qn _ _ rfl g op K0 NP Cp rfl rfl hK0n wz) hHeld ?_;simp only[Act.put,zk,zj,zl];refine zS 9 (some 22) (.pointer (some ⟨g,op+K0*8+1,none⟩)) hHeld ?_;simp only[Act.put,zk,zj,zl];refine qq 10 (some 23) (.int .i64 (S:Nat)) rfl rfl (λwz hz=>by have z0:=za hz s0r;unfold execOp;go_simp) hHeld ?_;simp only[Act.put,zk,zj,zl];refine zS 11 (some 7) (.int .i64 (S:Nat)) hHeld ?_;simp only[Act.put,zk,zj,zl];refine wpAnyH_done (by kernel_rfl) ?_ _;have hb3:Below w.heap.size w W2.drew:=zu hb2;have P3:=zq P2;have N3:=zq N2;have nc0:=N3.cell 0;have nc1:=N3.cell 1;have nc2:=N3.cell 2;have nc4:=N3.cell 4;have nc3:=N3.cell 3;have ln3:=N3.lt;have lp3:=P3.lt;simp only[jg,jd,jf]at nc0 nc1 nc2 nc3 nc4;have hbz:Below W2.heap.size W2 W2.drew:=(Below.refl _ W2).drew;replace c2r:=za hbz c2r;replace c6r:=za hbz c6r;replace k1r:=za hbz k1r;replace s1r:=za hbz s1r;replace onr:=za hbz onr;replace x2r:=za hbz x2r;clear k0r s0r hb2 P2 N2 HW hHeld HI hbz;generalize W2.drew=W3 at *
 go_wp2_with (first
  |((refine zf 75 rfl ?_)
    (refine zb (some 75) _ rfl (by rfl) (qF _ _ rfl gn on 2 Ln C rfl rfl hln2 W3) ?_)))
 refine wp_region_held_drew (S:=λwz=>Below W3.heap.size W3 wz) (by kernel_rfl) ((Below.refl _ W3).drew) (λhHeld=>?_);refine zS 0 (some 79) (.pointer (some ⟨cb,0,none⟩)) hHeld ?_;simp only[Act.put,zk,zj,zl];refine zS 1 (some 80) (.pointer (some ⟨cb,0,none⟩)) hHeld ?_;simp only[Act.put,zk,zj,zl];refine zS 2 (some 81) (.pointer (some ⟨cb,0,none⟩)) hHeld ?_;simp only[Act.put,zk,zj,zl];refine zS 3 (some 82) (.pointer (some ⟨cb,2,none⟩)) hHeld ?_;simp only[Act.put,zk,zj,zl];refine qq 4 (some 83) (.slice (some ⟨g,op,none⟩) NP Cp) rfl rfl (λwz hz=>by have z0:=za hz c2r;unfold execOp;go_simp) hHeld ?_;simp only[Act.put,zk,zj,zl];refine zS 5 (some 84) (.slice (some ⟨bk,ok,none⟩) Lk Ck) hHeld ?_;simp only[Act.put,zk,zj,zl];refine qq 6 (some 85) (.pointer (some ⟨bk,ok+1,none⟩)) rfl rfl (λwz _=>jw _ _ rfl bk ok 1 Lk Ck rfl rfl hL1 wz) hHeld ?_;simp only[Act.put,zk,zj,zl];refine qq 7 (some 86) (.int .i64 (K1:Nat)) rfl rfl (λwz hz=>by have z0:=za hz k1r;unfold execOp;go_simp) hHeld ?_;simp only[Act.put,zk,zj,zl];refine qq 8 (some 87) (.pointer (some ⟨g,op+K1*8,none⟩)) rfl rfl (λwz _=>qn _ _ rfl g op K1 NP Cp rfl rfl hK1n wz) hHeld ?_;simp only[Act.put,zk,zj,zl];refine zS 9 (some 88) (.pointer (some ⟨g,op+K1*8+1,none⟩)) hHeld ?_;simp only[Act.put,zk,zj,zl];refine qq 10 (some 89) (.int .i64 (S1:Nat)) rfl rfl (λwz hz=>by have z0:=za hz s1r;unfold execOp;go_simp) hHeld ?_;simp only[Act.put,zk,zj,zl];refine zS 11 (some 90) (.int .i64 (S:Nat)) hHeld ?_;simp only[Act.put,zk,zj,zl];refine zS 12 (some 91) (.int .i64 (X2:Nat)) hHeld ?_;simp only[Act.put,zk,zj,zl];refine qG 13 (some 92) 162 #[.int .i64 (S1:Nat),.int .i64 (S:Nat),.int .i64 (X2:Nat)] (by kernel_rfl) rfl rfl (by rfl) (by kernel_rfl) (hst W3.drew) ?_;rintro e w4 ⟨tt,rfl,hb4⟩;have hH4:Below W3.heap.size W3 w4:=hHeld.trans hb4;refine .inl ⟨_,rfl,hH4,?_⟩;simp only[Act.put,zk,zj,zl];refine qq 14 (some 78) (.tuple #[.int .i64 tt,.int .i64 (sl:Nat)]) rfl rfl (λ_ _=>rfl) hH4 ?_;simp only[Act.put,zk,zj,zl];refine qq 15 (some 93) (.int .i64 tt) rfl rfl (λ_ _=>rfl) hH4 ?_;simp only[Act.put,zk,zj,zl];refine qq 16 (some 94) (.int .i64 (sl:Nat)) rfl rfl (λ_ _=>rfl) hH4 ?_;simp only[Act.put,zk,zj,zl];refine qq 17 (some 11) (.int .i64 tt) rfl rfl (λ_ _=>rfl) hH4 ?_;simp only[Act.put,zk,zj,zl];refine qq 18 (some 12) (.int .i64 (sl:Nat)) rfl rfl (λ_ _=>rfl) hH4 ?_;simp only[Act.put,zk,zj,zl];refine wpAnyH_done (by kernel_rfl) ?_ _;have hbz:Below W3.heap.size W3 w4:=hH4;clear hst hH4 hHeld hb4;have hb4:Below w.heap.size w w4:=hb3.trans (hbz.mono hb3.size);have P4:=P3.below hbz P3.lt;have N4:=N3.below hbz N3.lt;replace c2r:=za hbz c2r;replace c6r:=za hbz c6r;replace k1r:=za hbz k1r;replace s1r:=za hbz s1r;replace onr:=za hbz onr;replace x2r:=za hbz x2r;clear hb3 P3 N3 hbz nc0 nc1 nc2 nc3 nc4 ln3 lp3;generalize w4=W3 at *;have hb3:=hb4;have P3:=P4;have N3:=N4;clear hb4 P4 N4;have nc0:=N3.cell 0;have nc1:=N3.cell 1;have nc2:=N3.cell 2;have nc4:=N3.cell 4;have nc3:=N3.cell 3;have ln3:=N3.lt;have lp3:=P3.lt;simp only[jg,jd,jf]at nc0 nc1 nc2 nc3 nc4;by_cases q1:sl=0
 ·have HQ:=zz (HR.out.trans (if_pos q1))
  subst q1;clear HR
  go_wp2_with (first
   |((go_at_call 86)
     refine(qO 134 n.a _).mono ?_;(rintro e w5 ⟨rfl,rfl⟩)))
  exact⟨rfl,hb3,by rw[HQ.out];rfl⟩
 ·have HR:=HR.out.trans (if_neg q1)
  have q1':decide (0<sl)=true:=decide_eq_true (by omega);have q1i:(0:Int)<(sl:Int):=by omega
  clear q1;cases ob with
  |true =>
   have HQ:=zz (HR.trans (if_pos rfl));clear HR
   go_wp2_with (first
    |((go_at_call 86)
      refine(qa 134 n.a _).mono ?_;rintro e w5 ⟨rfl,hw5⟩;(obtain rfl:W3=w5:=hw5.symm)))
   refine wp_region_held_drew (S:=λwz=>Below W3.heap.size W3 wz) (by kernel_rfl) ((Below.refl _ W3).drew) (λhHeld=>?_);refine zS 0 (some 100) (.pointer (some ⟨cb,0,none⟩)) hHeld ?_;simp only[Act.put,zk,zj,zl];refine zS 1 (some 101) (.pointer (some ⟨cb,0,none⟩)) hHeld ?_;simp only[Act.put,zk,zj,zl];refine zS 2 (some 102) (.pointer (some ⟨cb,6,none⟩)) hHeld ?_;simp only[Act.put,zk,zj,zl];refine qq 3 (some 103) (.slice (some ⟨g2,o2,none⟩) NP C2) rfl rfl (λwz hz=>by have z0:=za hz c6r;unfold execOp;go_simp) hHeld ?_;simp only[Act.put,zk,zj,zl];refine zS 4 (some 104) (.slice (some ⟨bk,ok,none⟩) Lk Ck) hHeld ?_;simp only[Act.put,zk,zj,zl];refine qq 5 (some 105) (.pointer (some ⟨bk,ok+1,none⟩)) rfl rfl (λwz _=>jw _ _ rfl bk ok 1 Lk Ck rfl rfl hL1 wz) hHeld ?_;simp only[Act.put,zk,zj,zl];refine qq 6 (some 106) (.int .i64 (K1:Nat)) rfl rfl (λwz hz=>by have z0:=za hz k1r;unfold execOp;go_simp) hHeld ?_;simp only[Act.put,zk,zj,zl];refine qq 7 (some 107) (.pointer (some ⟨g2,o2+K1,none⟩)) rfl rfl (λwz _=>QX _ _ rfl g2 o2 K1 NP C2 rfl rfl hK1n wz) hHeld ?_;simp only[Act.put,zk,zj,zl];refine qq 8 (some 108) (.bool true) rfl rfl (λwz hz=>by have z0:=za hz onr;unfold execOp;go_simp) hHeld ?_;simp only[Act.put,zk,zj,zl];refine zS 9 (some 109) (.bool false) hHeld ?_;simp only[Act.put,zk,zj,zl];refine zS 10 (some 110) (.pointer (some ⟨w.heap.size,3,none⟩)) hHeld ?_;simp only[Act.put,zk,zj,zl];refine qq 11 (some 111) (.int .i64 n.a) rfl rfl (λwz hz=>by have z0:=za hz nc3;unfold execOp;go_simp) hHeld ?_;simp only[Act.put,zk,zj,zl];refine qG 12 (some 112) 86 #[.bool false,.int .i64 139,.int .i64 n.a] (by kernel_rfl) rfl rfl (by rfl) (by kernel_rfl) (qO 139 n.a W3.drew) ?_;rintro e w5 ⟨rfl,rfl⟩;refine .inr ⟨_,rfl,?_⟩;exact⟨rfl,zu hb3,by rw[HQ.out];rfl⟩
  |false =>
   have HQ:=zz (HR.trans (if_neg (by decide)));clear HR
   go_wp2_with (first
    |((go_at_call 86)
      refine(qa 134 n.a _).mono ?_;rintro e w5 ⟨rfl,hw5⟩;(obtain rfl:W3=w5:=hw5.symm)))
   refine wp_region_held_drew (S:=λwz=>Below W3.heap.size W3 wz) (by kernel_rfl) ((Below.refl _ W3).drew) (λhHeld=>?_);refine zS 0 (some 100) (.pointer (some ⟨cb,0,none⟩)) hHeld ?_;simp only[Act.put,zk,zj,zl];refine zS 1 (some 101) (.pointer (some ⟨cb,0,none⟩)) hHeld ?_;simp only[Act.put,zk,zj,zl];refine zS 2 (some 102) (.pointer (some ⟨cb,6,none⟩)) hHeld ?_;simp only[Act.put,zk,zj,zl];refine qq 3 (some 103) (.slice (some ⟨g2,o2,none⟩) NP C2) rfl rfl (λwz hz=>by have z0:=za hz c6r;unfold execOp;go_simp) hHeld ?_;simp only[Act.put,zk,zj,zl];refine zS 4 (some 104) (.slice (some ⟨bk,ok,none⟩) Lk Ck) hHeld ?_;simp only[Act.put,zk,zj,zl];refine qq 5 (some 105) (.pointer (some ⟨bk,ok+1,none⟩)) rfl rfl (λwz _=>jw _ _ rfl bk ok 1 Lk Ck rfl rfl hL1 wz) hHeld ?_;simp only[Act.put,zk,zj,zl];refine qq 6 (some 106) (.int .i64 (K1:Nat)) rfl rfl (λwz hz=>by have z0:=za hz k1r;unfold execOp;go_simp) hHeld ?_;simp only[Act.put,zk,zj,zl];refine qq 7 (some 107) (.pointer (some ⟨g2,o2+K1,none⟩)) rfl rfl (λwz _=>QX _ _ rfl g2 o2 K1 NP C2 rfl rfl hK1n wz) hHeld ?_;simp only[Act.put,zk,zj,zl];refine qq 8 (some 108) (.bool false) rfl rfl (λwz hz=>by have z0:=za hz onr;unfold execOp;go_simp) hHeld ?_;simp only[Act.put,zk,zj,zl];refine zS 9 (some 109) (.bool true) hHeld ?_;simp only[Act.put,zk,zj,zl];refine zS 10 (some 110) (.pointer (some ⟨w.heap.size,3,none⟩)) hHeld ?_;simp only[Act.put,zk,zj,zl];refine qq 11 (some 111) (.int .i64 n.a) rfl rfl (λwz hz=>by have z0:=za hz nc3;unfold execOp;go_simp) hHeld ?_;simp only[Act.put,zk,zj,zl];refine qG 12 (some 112) 86 #[.bool true,.int .i64 139,.int .i64 n.a] (by kernel_rfl) rfl rfl (by rfl) (by kernel_rfl) (qa 139 n.a W3.drew) ?_;rintro e w5 ⟨rfl,rfl⟩;refine .inl ⟨_,rfl,hHeld,?_⟩;simp only[Act.put,zk,zj,zl];refine wpAnyH_done (by kernel_rfl) ?_ _;have hbz:Below W3.heap.size W3 W3.drew:=(Below.refl _ W3).drew;clear hHeld;have hb4:Below w.heap.size w W3.drew:=hb3.trans (hbz.mono hb3.size);have P4:=P3.below hbz P3.lt;have N4:=N3.below hbz N3.lt;replace c2r:=za hbz c2r;replace c6r:=za hbz c6r;replace k1r:=za hbz k1r;replace s1r:=za hbz s1r;replace onr:=za hbz onr;replace x2r:=za hbz x2r;clear hb3 P3 N3 hbz nc0 nc1 nc2 nc3 nc4 ln3 lp3;generalize W3.drew=W3 at *;have hb3:=hb4;have P3:=P4;have N3:=N4;clear hb4 P4 N4;have nc0:=N3.cell 0;have nc1:=N3.cell 1;have nc2:=N3.cell 2;have nc4:=N3.cell 4;have nc3:=N3.cell 3;have ln3:=N3.lt;have lp3:=P3.lt;simp only[jg,jd,jf]at nc0 nc1 nc2 nc3 nc4;have a0:=P3.cell 0;have b0:=P3.free 0;have a1:=P3.cell 1;have b1:=P3.free 1;have a2:=P3.cell 2;have b2:=P3.free 2;have a3:=P3.cell 3;have b3:=P3.free 3;have a4:=P3.cell 4;have b4:=P3.free 4;have a5:=P3.cell 5;have b5:=P3.free 5;have a6:=P3.cell 6;have b6:=P3.free 6;have a7:=P3.cell 7;have b7:=P3.free 7;have fin:∀(kd s fi ch:Nat) (kk:List Nat),xB w (Gd (.ok ⟨kd,s,kk,0,fi,ch,[],[]⟩)) (.returned (.agg #[.int .i64 (kd:Nat),.int .i64 (s:Nat),.slice none 0 0,.int .i64 0,.int .i64 (fi:Nat),.int .i64 (ch:Nat),.slice none 0 0,.slice none 0 0])) (VG W3 (w.heap.size+1) (.int .i64 (kd:Nat)) (.int .i64 (s:Nat)) (.slice none 0 0) (.int .i64 0) (.int .i64 (fi:Nat)) (.int .i64 (ch:Nat)) (.slice none 0 0) (.slice none 0 0)):=λkd s fi ch kk=>⟨kN hb3 (Nat.le_succ _) _ _ _ _ _ _ _ _,(.slice none 0 0,.slice none 0 0,.slice none 0 0),rfl,⟨none,0,rfl,Nat.le_refl _,by unfold maxLen;omega,.inl rfl⟩,⟨none,0,rfl,Nat.le_refl _,by unfold maxLen;omega,.inl rfl⟩,⟨none,0,rfl,Nat.le_refl _,by unfold maxLen;omega,.inl rfl⟩⟩
   go_wp2
   exact yq rfl rfl (P3.set8 _ _ _ _ _ _ _ _) rfl (by rw[HQ.out,Int.toNat_natCast];exact fin 5 S 0 X2 ks)
end
section
open Go.ChangeShapes Go.WideShapes Go.ChangeAt Go.RowKit Go.MapKept
variable {E:Nat→Prop}
structure ExS (n:Nd):Prop where
 shape:ZX n (jo n).length
 word:n.op=jh∨(n.op=qZ∨n.op=jq)∨n.op=qw∨(n.op=vx∨n.op=qH∨n.op=jV)
 lin:n.op=jh→n.l.length=3∧(0≤(yf n.l 1).n∧(yf n.l 1).n≤999999999)∧(0≤(yf n.l 2).n∧(yf n.l 2).n≤999999999)
 snap:n.op=qw→n.l.length=3∧(0≤(yf n.l 2).n∧(yf n.l 2).n≤999999999)
 sec:(n.op=vx∨n.op=qH∨n.op=jV)→2≤n.l.length
 few:n.l.length≤80000
inductive DF:Nat→Nd→Prop where
 |use (d:Nat) (n:Nd):n.op=j8→DF (d+1) n
 |mk (d:Nat) (n:Nd):n.op≠j8→ExS n→(∀x ∈ jo n,DF d x)→DF (d+1) n
theorem DF.ok{d:Nat}{n:Nd}(h:DF d n):Fv d n:=by
 induction h with
 |use d n e=>exact .use d n e
 |mk d n e hs _ ih=>exact .mk d n e hs.shape ih
def zau(E:Nat→Prop)(w:World)(cb:Nat)(V:CV)(c:Ck)(R:Except Er (Nat×List Pt))(e:Ending)(w':World):Prop:=vM (V.own cb) w w'∧match R with
 | .error (ec,ek)=>e= .panicked (YE ec ek)
 | .ok (k,ps)=>e= .returned (.int .i64 (k:Nat))∧∃V',zM (λg=>E g∨w.heap.size≤g) w' cb V' { c with parts:=ps }∧je cb V w V' w'
def fL(cb:Nat)(w0:World)(d:Nat):Prop:=∀(E:Nat→Prop) (w:World) (V:CV) (c:Ck) (n:Nd) (A:Option Addr) (C:Nat),zM E w cb V c→jZ w0 n A C→w0.heap.size≤cb-1→Below w0.heap.size w0 w→DF d n→yz c.names c.parts→(∀x ∈ c.names,x.2.bytes.length≤1000) →
 Calls Tryz.prog 120 #[.pointer (some ⟨cb,0,none⟩),.agg (zR n (.slice A n.l.length C))] w (zau E w cb V c (jN c.names d c.parts n))
theorem je.grown{cb:Nat}{V V5:CV}{W1 w5 w6:World}{v:Value}(s:je cb V W1 V5 w5)(hg:w5.grownBy w6 v.ownBlock)(hv:∀g,v.ownBlock=some g→W1.heap.size≤g):je cb V W1 V5 w6:=
 ⟨⟨hg.os.trans s.only.os,hg.tape.trans s.only.tape,hg.output.trans s.only.output,Nat.le_trans s.only.size hg.size,λk hk hn=>(hg.block k (Nat.lt_of_lt_of_le hk s.only.size) (λe=>by have:=hv k e.symm;omega)).trans (s.only.block k hk hn)⟩,s.new⟩
theorem zM.grown{w w6:World}{cb:Nat}{V:CV}{c:Ck}{v:Value}(h:zM E w cb V c)(hg:w.grownBy w6 v.ownBlock)(hn:∀g,v.ownBlock=some g→¬V.own cb g)(hE:∀g,E g→v.ownBlock≠some g):zM E w6 cb V c:=by
 have hk:∀k,k<w.heap.size→(¬V.own cb k∧E k)→w6.heap[k]?=w.heap[k]?∧(¬V.own cb k∧E k):=λk hk hh=>⟨hg.block k hk (λe=>hE k hh.2 e.symm),hh⟩
 have kept:∀ {k:Nat} {o:Obj},V.own cb k→w.heap[k]?=some o→w6.heap[k]?=some o:=λ{k o} ho hh=>(hg.block k (Array.getElem?_eq_some_iff.1 hh).1 (λe=>hn k e.symm ho)).trans hh
 obtain⟨us,e1,r1,i1⟩:=h.prts;obtain⟨ms,e2,r2,i2⟩:=h.nms;exact⟨kept (.inl rfl) h.has,zI h.devs (λg o e ho=>kept (.inr (.inl e)) ho),zI h.only (λg o e ho=>kept (.inr (.inr (.inr (.inl e)))) ho),⟨us,e1,zI r1 (λg o e ho=>kept (.inr (.inr (.inl e))) ho),λi a b=>(i1 i a b).keep hg.size hk⟩,⟨ms,e2,kept (.inr (.inr (.inr (.inr rfl)))) r2,λi a b=>(i2 i a b).keep hg.size hk⟩,h.uniq,h.mlt,h.few⟩
theorem Jb(l:List Nd){i:Nat}(h:i<l.length):(l.take (i+1)).filter (λx=> !(x.op==vk||x.op==js))=(l.take i).filter (λx=> !(x.op==vk||x.op==js))++(if(l[i].op==vk||l[i].op==js)=true then[]else[l[i]]):=by
 rw[List.take_succ_eq_append_getElem h,List.filter_append];cases hb:(l[i].op==vk||l[i].op==js)<;>simp only[List.filter_cons,List.filter_nil,hb,Bool.not_false,Bool.not_true,if_true,Bool.false_eq_true,if_false]
theorem J9(f:List Pt→Nd→Except Er (Nat×List Pt))(x:Nd):∀(l:List Nd) (ps:List Pt),jy f ps (l++ [x])=match jy f ps l with
 | .error e=> .error e
 | .ok (ks,p1)=>match f p1 x with
   | .error e=> .error e
   | .ok (k,p2)=> .ok (ks++ [k],p2):=by
 intro l
 induction l with
 |nil =>
  intro ps;simp only[List.nil_append,jy];cases f ps x with
  |error e=>rfl
  |ok r=>obtain⟨k,p2⟩:=r;rfl
 |cons y l ih =>
  intro ps;simp only[List.cons_append,jy];cases f ps y with
  |error e=>rfl
  |ok r =>
   obtain⟨k,p1⟩:=r;simp only[ih];cases jy f p1 l with
   |error e=>rfl
   |ok r2 =>
    obtain⟨ks,p2⟩:=r2;simp only;cases f p2 x with
    |error e=>rfl
    |ok r3=>obtain⟨k3,p3⟩:=r3;rfl
theorem G9(f:List Pt→Nd→Except Er (Nat×List Pt)):∀(l:List Nd) (ps:List Pt) (ks:List Nat) (p1:List Pt),jy f ps l= .ok (ks,p1)→ks.length=l.length:=by
 intro l
 induction l with
 |nil=>intro ps ks p1 h;cases h;rfl
 |cons y l ih =>
  intro ps ks p1 h;simp only[jy]at h;cases hf:f ps y with
  |error e=>rw[hf]at h;cases h
  |ok q =>
   obtain⟨k,p2⟩:=q;rw[hf]at h;simp only at h;cases hc:jy f p2 l with
   |error e=>rw[hc]at h;cases h
   |ok q2 =>
    obtain⟨ks2,p3⟩:=q2;rw[hc]at h;cases h;simp[ih p2 ks2 _ hc]
theorem gz(f:List Pt→Nd→Except Er (Nat×List Pt))(l r:List Nd)(ps:List Pt)(e:Er)(h:jy f ps l= .error e):jy f ps (l++r)= .error e:=by
 induction l generalizing ps with
 |nil=>cases h
 |cons y l ih =>
  simp only[List.cons_append,jy]at h ⊢;cases hf:f ps y with
  |error e'=>rw[hf]at h;exact h
  |ok q =>
   obtain⟨k,p1⟩:=q;rw[hf]at h;simp only at h ⊢;cases hc:jy f p1 l with
   |error e'=>rw[hc]at h;cases h;rw[ih p1 hc]
   |ok q2=>rw[hc]at h;cases h
end
section
inductive JS:Nd→Prop where
 |mk (n:Nd):n.l.length≤80000→(∀x ∈ n.l,JS x)→JS n
theorem JS.len{n:Nd}(h:JS n):n.l.length≤80000:=by cases h;assumption
theorem JS.all{n:Nd}(h:JS n):∀x ∈ n.l,JS x:=by cases h;assumption
theorem Jm{re:Nd→Bool}{n:Nd}(h:jM re n=true):0<(zr n.op).1.length∧(zr n.op).1.length≤n.l.length∧((zr n.op).2=false→n.l.length=(zr n.op).1.length)∧∀i,i<n.l.length→jT re (Qu (zr n.op).1 i) (yf n.l i)=true:=by
 unfold jM Xa at h;simp only[Bool.and_eq_true,Bool.not_eq_true',decide_eq_false_iff_not,Bool.and_eq_false_iff,Bool.not_eq_false',List.all_eq_true]at h;obtain⟨⟨⟨h1,h2⟩,h3⟩,h4⟩:=h;refine⟨by omega,by omega,λe=>?_,λi hi=>h4 i (List.mem_range.2 hi)⟩;rcases h3 with q|q
 ·omega
 ·rw[e]at q;cases q
theorem Jt{op:List UInt8}(h:0<(zr op).1.length):op=jh∨(op=qZ∨op=jq)∨op=qw∨(op=vx∨op=qH∨op=jV):=by
 unfold zr at h;by_cases e1:op=jh
 ·exact .inl e1
 ·by_cases e2:op=qZ∨op=jq
  ·exact .inr (.inl e2)
  ·by_cases e3:op=qw
   ·exact .inr (.inr (.inl e3))
   ·by_cases e4:op=vx∨op=qH∨op=jV
    ·exact .inr (.inr (.inr e4))
    ·rw[if_neg e1,if_neg e2,if_neg e3,if_neg e4]at h
     exact absurd h (by decide)
theorem uv{op:List UInt8}(h:op=j8∨0<(zr op).1.length):(op==vk||op==js)=false:=by
 rcases h with h|h
 ·rw[h];decide
 ·rcases Jt h with h|(h|h)|h|h|h|h<;>rw[h]<;>decide
theorem QL{d:Nat}{n:Nd}(h:zL (d+1) n=true)(hu:n.op≠j8):jM (zL d) n=true:=by
 unfold zL at h;rw[if_neg hu]at h;simp only[Bool.and_eq_true]at h;exact h.2.2
theorem xO{d:Nat}{n:Nd}(h:zL d n=true):(n.op==vk||n.op==js)=false:=by
 cases d with
 |zero=>cases h
 |succ d =>
  by_cases hu:n.op=j8
  ·exact uv (.inl hu)
  ·exact uv (.inr (Jm (QL h hu)).1)
theorem Ds{re:Nd→Bool}{x:Nd}(h:jT re .nu x=true):(x.op==vk||x.op==js)=true∧0≤x.n∧x.n≤999999999:=by
 unfold jT j2 at h;simp only[Bool.and_eq_true,decide_eq_true_eq]at h;exact⟨by rw[h.1.1.1];rfl,h.1.2.1,h.1.2.2⟩
theorem za8{re:Nd→Bool}{x:Nd}(h:jT re .na x=true):(x.op==vk||x.op==js)=true:=by
 unfold jT at h;simp only[Bool.and_eq_true,decide_eq_true_eq]at h;rw[h.1.1.1,Bool.or_true]
theorem za9{l:List Nd}(h:l.length=3):l= [yf l 0,yf l 1,yf l 2]:=by
 match l,h with
 | [a,b,c],_=>rfl
theorem zbx{l:List Nd}(h:l.length=2):l= [yf l 0,yf l 1]:=by
 match l,h with
 | [a,b],_=>rfl
theorem JJ{n:Nd}:jo n=n.l.filter λx=> !(x.op==vk||x.op==js):=rfl
theorem GB{d:Nat}{n:Nd}(h:jM (zL d) n=true)(hl:n.l.length≤80000):ExS n∧∀x ∈ jo n,zL d x=true:=by
 obtain⟨h1,h2,h3,h4⟩:=Jm h;rcases Jt h1 with ho|ho|ho|ho
 ·have hi:zr n.op=([.ex,.nu,.nu],false):=by rw[ho];rfl
  rw[hi]at h3 h4;have hl3:n.l.length=3:=h3 rfl;have p0:zL d (yf n.l 0)=true:=h4 0 (by omega);have p1:=Ds (h4 1 (by omega));have p2:=Ds (h4 2 (by omega))
  have hk:jo n= [yf n.l 0]:=by
   rw[JJ];generalize hy:n.l=y at *;rw[za9 hl3];simp only[List.filter_cons,List.filter_nil,xO p0,p1.1,p2.1,Bool.not_true,Bool.not_false,if_true,Bool.false_eq_true,if_false];rfl
  have e1:n.op≠qZ:=by rw[ho];decide
  have e2:n.op≠jq:=by rw[ho];decide
  have e3:n.op≠qw:=by rw[ho];decide
  refine⟨⟨⟨by rw[hk];simp,λ_=>⟨by rw[hk];rfl,p1.2.1,p2.2.1⟩,λ_=>by rw[hk];rfl,λe=>absurd e e3⟩,.inl ho,λ_=>⟨hl3,p1.2,p2.2⟩,λe=>absurd e e3,λe=>?_,hl⟩,?_⟩
  ·rw[ho]at e
   rcases e with e|e|e<;>exact absurd e (by decide)
  ·rw[hk];intro x hx;rw[List.mem_singleton.1 hx];exact p0
 ·have hi:zr n.op=([.ex],true):=by rcases ho with ho|ho<;>rw[ho]<;>rfl
  rw[hi]at h2 h4
  have hall:∀x ∈ n.l,zL d x=true:=λx hx=>by
   obtain⟨i,hi,rfl⟩:=List.getElem_of_mem hx;have:=h4 i hi;rw[Xf hi]at this
   have hkd:Qu [.ex] i= .ex:=by
    unfold Qu;rw[show min i ([Kd.ex].length-1)=0 by simp];rfl
   rw[hkd]at this;exact this
  have hk:jo n=n.l:=by
   rw[JJ,List.filter_eq_self];intro x hx;rw[xO (hall x hx)];rfl
  have h2':1≤n.l.length:=h2;refine⟨⟨⟨by rw[hk];exact h2',λe=>?_,λe=>?_,λe=>?_⟩,.inr (.inl ho),λe=>?_,λe=>?_,λe=>?_,hl⟩,by rw[hk];exact hall⟩
  ·rcases ho with ho|ho<;>rw[ho]at e<;>exact absurd e (by decide)
  ·rcases ho with ho|ho
   ·exact absurd ho e.1
   ·exact absurd ho e.2.1
  ·rcases ho with ho|ho<;>rw[ho]at e<;>exact absurd e (by decide)
  ·rcases ho with ho|ho<;>rw[ho]at e<;>exact absurd e (by decide)
  ·rcases ho with ho|ho<;>rw[ho]at e<;>exact absurd e (by decide)
  ·rcases ho with ho|ho<;>rw[ho]at e<;>rcases e with e|e|e<;>exact absurd e (by decide)
 ·have hi:zr n.op=([.ex,.ex,.nu],false):=by rw[ho];rfl
  rw[hi]at h3 h4;have hl3:n.l.length=3:=h3 rfl;have p0:zL d (yf n.l 0)=true:=h4 0 (by omega);have p1:zL d (yf n.l 1)=true:=h4 1 (by omega);have p2:=Ds (h4 2 (by omega))
  have hk:jo n= [yf n.l 0,yf n.l 1]:=by
   rw[JJ];generalize hy:n.l=y at *;rw[za9 hl3];simp only[List.filter_cons,List.filter_nil,xO p0,xO p1,p2.1,Bool.not_true,Bool.not_false,if_true,Bool.false_eq_true,if_false];rfl
  have e1:n.op≠jh:=by rw[ho];decide
  refine⟨⟨⟨by rw[hk];simp,λe=>absurd e e1,λe=>absurd ho e.2.2,λ_=>by rw[hk];rfl⟩,.inr (.inr (.inl ho)),λe=>absurd e e1,λ_=>⟨hl3,p2.2⟩,λe=>?_,hl⟩,?_⟩
  ·rw[ho]at e
   rcases e with e|e|e<;>exact absurd e (by decide)
  ·rw[hk];intro x hx
   rcases List.mem_cons.1 hx with e|e
   ·rw[e];exact p0
   ·rw[List.mem_singleton.1 e];exact p1
 ·have hi:zr n.op=([.ex,.na],false):=by rcases ho with ho|ho|ho<;>rw[ho]<;>rfl
  rw[hi]at h3 h4;have hl2:n.l.length=2:=h3 rfl;have p0:zL d (yf n.l 0)=true:=h4 0 (by omega);have p1:=za8 (h4 1 (by omega))
  have hk:jo n= [yf n.l 0]:=by
   rw[JJ];generalize hy:n.l=y at *;rw[zbx hl2];simp only[List.filter_cons,List.filter_nil,xO p0,p1,Bool.not_true,Bool.not_false,if_true,Bool.false_eq_true,if_false];rfl
  have e1:n.op≠jh:=by rcases ho with ho|ho|ho<;>rw[ho]<;>decide
  have e3:n.op≠qw:=by rcases ho with ho|ho|ho<;>rw[ho]<;>decide
  refine⟨⟨⟨by rw[hk];simp,λe=>absurd e e1,λ_=>by rw[hk];rfl,λe=>absurd e e3⟩,.inr (.inr (.inr ho)),λe=>absurd e e1,λe=>absurd e e3,λ_=>by omega,hl⟩,?_⟩;rw[hk];intro x hx;rw[List.mem_singleton.1 hx];exact p0
theorem GM(d:Nat):∀ {n:Nd},zL d n=true→JS n→DF d n:=by
 induction d with
 |zero=>intro n h;cases h
 |succ d ih =>
  intro n h hl;by_cases hu:n.op=j8
  ·exact .use d n hu
  ·obtain⟨h1,h2⟩:=GB (QL h hu) hl.len
   exact .mk d n hu h1 λx hx=>ih (h2 x hx) (hl.all x ((List.mem_filter.1 hx).1))
theorem zbs{x:List UInt8}(h:Vs x=true):∀c ∈ x,zw c=true:=by
 unfold Vs at h;cases ht:ZO (36::x)with
 |none=>rw[ht]at h;cases h
 |some t =>
  rw[ht]at h;simp only[Bool.and_eq_true,beq_iff_eq]at h;unfold ZO at ht
  split at ht
  ·rename_i t' hS
   cases ht;have hg:=((vQ hS).2 t (by simp)).hex h.1;rw[h.2]at hg;exact hg.2.1
  ·cases ht
structure uZ (n:Nd):Prop where
 word:n.op=zc∨n.op=zg∨n.op=zT∨n.op=zD∨n.op=zp∨n.op=zv
 num:(n.op=zc∨n.op=zg)→0≤n.n∧n.n≤999999999
 key:(n.op=zT∨n.op=zD)→n.l.length=1∧∀c ∈ (yf n.l 0).s,zw c=true
 vol:n.op=zp→n.l.length=1∧DF 12 (yf n.l 0)
 exp:n.op=zv→n.n=0∨n.n=1
theorem gp{n:Nd}(h:vG n=true)(hl:JS n):uZ n:=by
 unfold vG at h;simp only[Bool.and_eq_true]at h;obtain⟨h1,h⟩:=h;by_cases e1:n.op=zc∨n.op=zg
 ·rw[if_pos e1]at h
  unfold j2 at h;simp only[Bool.and_eq_true,decide_eq_true_eq]at h;refine⟨by rcases e1 with e|e;exact .inl e;exact .inr (.inl e),λ_=>h.1,λe=>?_,λe=>?_,λe=>?_⟩
  ·rcases e1 with q|q<;>rw[q]at e<;>rcases e with e|e<;>exact absurd e (by decide)
  ·rcases e1 with q|q<;>rw[q]at e<;>exact absurd e (by decide)
  ·rcases e1 with q|q<;>rw[q]at e<;>exact absurd e (by decide)
 ·rw[if_neg e1]at h
  by_cases e2:n.op=zT∨n.op=zD
  ·rw[if_pos e2]at h
   unfold xM at h;simp only[Bool.and_eq_true,decide_eq_true_eq]at h;refine⟨by rcases e2 with e|e;exact .inr (.inr (.inl e));exact .inr (.inr (.inr (.inl e))),λe=>absurd e e1,λ_=>⟨h.1.2,zbs h.2.1.1.2⟩,λe=>?_,λe=>?_⟩
   ·rcases e2 with q|q<;>rw[q]at e<;>exact absurd e (by decide)
   ·rcases e2 with q|q<;>rw[q]at e<;>exact absurd e (by decide)
  ·rw[if_neg e2]at h
   by_cases e3:n.op=zp
   ·rw[if_pos e3]at h
    simp only[Bool.and_eq_true,decide_eq_true_eq]at h;have h0:0<n.l.length:=by omega
    refine⟨.inr (.inr (.inr (.inr (.inl e3)))),λe=>absurd e e1,λe=>absurd e e2,λ_=>⟨h.1.2,GM 12 h.2 (hl.all _ ?_)⟩,λe=>?_⟩
    ·show yf n.l 0 ∈ n.l
     rw[Xf h0];exact List.getElem_mem h0
    ·rw[e3]at e;exact absurd e (by decide)
   ·rw[if_neg e3]at h
    by_cases e4:n.op=zv
    ·rw[if_pos e4]at h
     simp only[Bool.and_eq_true,Bool.or_eq_true,decide_eq_true_eq]at h;exact⟨.inr (.inr (.inr (.inr (.inr e4)))),λe=>absurd e e1,λe=>absurd e e2,λe=>absurd e e3,λ_=>h.1⟩
    ·rw[if_neg e4]at h
     cases h
end
section
def yF(x:Nd):Bool:=x.op==zc||x.op==zg
def x9(x:Nd):Bool:=x.op==zc
theorem zaj{x:Nd}(h:x.op=zc):x9 x=true:=by unfold x9;rw[h];decide
theorem FG{x:Nd}(h:x.op≠zc):x9 x=false:=by unfold x9;rw[beq_eq_false_iff_ne];exact h
theorem gc{x:Nd}(h:x.op=zc∨x.op=zg):yF x=true:=by unfold yF;rcases h with h|h<;>rw[h]<;>decide
theorem dD{x:Nd}(h:¬(x.op=zc∨x.op=zg)):yF x=false:=by
 unfold yF;rw[show(x.op==zc)=false by rw[beq_eq_false_iff_ne];exact λe=>h (.inl e),show(x.op==zg)=false by rw[beq_eq_false_iff_ne];exact λe=>h (.inr e)];rfl
theorem gj(q r:List Nd):∀d,qo d (q++r)=qo d q++qo (d+va q) r:=by
 induction q with
 |nil=>intro d;simp[qo,va]
 |cons y q ih =>
  intro d;simp only[List.cons_append,qo,va];by_cases h1:y.op=zc
  ·rw[if_pos h1,if_pos h1,if_pos (show y.op=zc∨y.op=zg from .inl h1),ih,List.cons_append,show d+1+va q=d+(1+va q) by omega]
  ·rw[if_neg h1,if_neg h1]
   by_cases h2:y.op=zg
   ·rw[if_pos h2,if_pos h2,if_pos (show y.op=zc∨y.op=zg from .inr h2),ih,show d+1+va q=d+(1+va q) by omega]
   ·rw[if_neg h2,if_neg h2,if_neg (show ¬(y.op=zc∨y.op=zg) by simp[h1,h2]),ih,Nat.zero_add]
theorem V8(q:List Nd):∀d,(qo d q).length=(q.filter x9).length:=by
 induction q with
 |nil=>intro d;rfl
 |cons y q ih =>
  intro d;simp only[qo,List.filter_cons];by_cases h1:y.op=zc
  ·rw[if_pos h1,if_pos (zaj h1),List.length_cons,List.length_cons,ih]
  ·rw[if_neg h1,FG h1]
   simp only[Bool.false_eq_true,if_false];by_cases h2:y.op=zg
   ·rw[if_pos h2,ih]
   ·rw[if_neg h2,ih]
theorem DQ(q:List Nd):va q=(q.filter yF).length:=by
 induction q with
 |nil=>rfl
 |cons y q ih =>
  simp only[va,List.filter_cons];by_cases h1:y.op=zc∨y.op=zg
  ·rw[if_pos h1,if_pos (gc h1),List.length_cons,ih,Nat.add_comm]
  ·rw[if_neg h1,dD h1]
   simp only[Bool.false_eq_true,if_false];rw[ih,Nat.zero_add]
theorem dE{l q r:List Nd}{x:Nd}(hl:l=q++x::r)(hx:x.op=zc)(rs:List Pt):zK (qo 0 l++rs) (q.filter x9).length=⟨1,x.n.toNat,[],(q.filter yF).length,0,0,[],[]⟩∧(q.filter x9).length<(qo 0 l++rs).length:=by
 subst hl;rw[gj,←V8 q 0,←DQ,Nat.zero_add]
 have e:qo (va q) (x::r)=⟨1,x.n.toNat,[],va q,0,0,[],[]⟩::qo (va q+1) r:=by
  show(if x.op=zc then _ else _)=_;rw[if_pos hx]
 rw[e,List.append_assoc,List.cons_append];exact⟨KV _ _ _,by simp⟩
theorem xg(ns:xv)(x:List UInt8×Mn)(ws:List (List UInt8)):vq (ns++ [x]) ws=vq ns ws+(if ws.any (λy=>x.2.word==y)=true then 1 else 0):=by
 unfold vq;rw[List.filter_append,List.length_append]
 congr 1
 simp only[List.filter_cons,List.filter_nil]
 split<;>rfl
theorem yz.snoc{ns:xv}{ps:List Pt}(h:yz ns ps){s:List UInt8}{m:Mn}(h1:(m.word=zc∨m.word=zp)→yW ps m.node)(h2:(m.word=zT∨m.word=zD)→m.bytes.length=32):yz (ns++ [(s,m)]) ps:=λx hx=>by
 rcases List.mem_append.1 hx with q|q
 ·exact h x q
 ·rw[List.mem_singleton.1 q]
  exact⟨h1,h2⟩
theorem Ql:∀(k:Nat) (x:List UInt8),x.length=2*k→(vZ x).length=k:=by
 intro k
 induction k with
 |zero=>intro x h;rw[List.length_eq_zero_iff.1 (by omega:x.length=0)];rfl
 |succ k ih =>
  intro x h
  match x,h with
  |a::b::r,h =>
   simp only[vZ,List.length_cons];rw[ih r (by simp at h;omega)]
theorem gX{f:List Pt→Nd→Except Er (Nat×List Pt)}(hf:∀ps x k p1,f ps x= .ok (k,p1)→p1.length≤max 64 ps.length∧ps.length≤p1.length)(l:List Nd):∀ps ks p1,jy f ps l= .ok (ks,p1)→p1.length≤max 64 ps.length∧ps.length≤p1.length:=by
 induction l with
 |nil=>intro ps ks p1 h;cases h;exact⟨by omega,Nat.le_refl _⟩
 |cons x l ih =>
  intro ps ks p1 h;unfold jy at h;cases h1:f ps x with
  |error e=>rw[h1]at h;cases h
  |ok y =>
   obtain⟨k,p2⟩:=y;rw[h1]at h;simp only at h;cases h2:jy f p2 l with
   |error e=>rw[h2]at h;cases h
   |ok z =>
    obtain⟨ks2,p3⟩:=z;rw[h2]at h;cases h;have:=hf _ _ _ _ h1;have:=ih _ _ _ h2;omega
theorem GH{ns:xv}(d:Nat):∀ps n k p1,jN ns d ps n= .ok (k,p1)→p1.length≤max 64 ps.length∧ps.length≤p1.length:=by
 induction d with
 |zero=>intro ps n k p1 h;cases h
 |succ d ih =>
  intro ps n k p1 h;unfold jN at h;by_cases hu:n.op=j8
  ·rw[if_pos hu]at h
   cases hk:jj ns n [zc,zp]with
   |error e=>rw[hk]at h;cases h
   |ok m=>rw[hk]at h;cases h;exact⟨by omega,Nat.le_refl _⟩
  ·rw[if_neg hu]at h
   cases hc:jy (jN ns d) ps (jo n)with
   |error e=>rw[hc]at h;cases h
   |ok y =>
    obtain⟨ks,p2⟩:=y;rw[hc]at h;simp only at h;have hb:=gX ih _ _ _ _ hc
    split at h
    ·cases h
    ·cases hp:jU ns p2 n ks with
     |error e=>rw[hp]at h;cases h
     |ok p =>
      rw[hp]at h;cases h;rw[List.length_append,List.length_singleton];omega
structure zbz (l D:List Nd) (nv nq:Nat) (c:Ck):Prop where
 devs:c.devs=D.map (λx=>x.n.toNat)
 dev:vq c.names [zc]=nv
 dj:vq c.names [zc,zg]=D.length
 le8:D.length≤8
 ok:∀x ∈ D,1≤x.n∧x.n≤2048
 jour:∀j,c.jour=some j→∃y,D[j]?=some y∧y.op=zg
 parts:∃rs,c.parts=qo 0 l++rs∧Grown' (qo 0 l) rs
 few:c.parts.length≤max 64 (qo 0 l).length
 nms:yz c.names c.parts
 byts:∀x ∈ c.names,x.2.bytes.length≤1000
 expo:∀x,c.expo=some x→yW c.parts x
 uniq:c.names.Pairwise (λx y=>x.1≠y.1)
 nlen:c.names.length≤nq
def Xn(l q:List Nd)(c:Ck):Prop:=zbz l (q.filter yF) (q.filter x9).length q.length c
theorem Xn.start(l:List Nd):Xn l [] (uz (qo 0 l)):=
 ⟨rfl,rfl,rfl,(by decide),(λx h=>by cases h),(λj h=>by cases h),⟨[],by simp[uz],trivial⟩,(by show(qo 0 l).length≤_;omega),(λx h=>by cases h),(λx h=>by cases h),(λx h=>by cases h),List.Pairwise.nil,Nat.le_refl _⟩
theorem uR{ns:xv}{s:List UInt8}(h:lk ns s=none):∀x ∈ ns,x.1≠s:=λx hx e=>by
 unfold lk at h;rw[Option.map_eq_none_iff,List.find?_eq_none]at h;exact h x hx (by simp[e])
theorem ZY{ns:xv}{s:List UInt8}(m:Mn)(h:ns.Pairwise (λx y=>x.1≠y.1))(hn:lk ns s=none):(ns++ [(s,m)]).Pairwise (λx y=>x.1≠y.1):=
 List.pairwise_append.2 ⟨h,List.pairwise_singleton _ _,λa ha b hb=>by rw[List.mem_singleton.1 hb];exact uR hn a ha⟩
theorem Xn.step{l q r:List Nd}{x:Nd}{c c':Ck}(hl:l=q++x::r)(h:Xn l q c)(hx:uZ x)(hs:jH c x= .ok c'):Xn l (q++ [x]) c':=by
 have f1:(q++ [x]).filter yF=q.filter yF++(if yF x=true then[x]else[]):=by
  rw[List.filter_append];congr 1;simp only[List.filter_cons,List.filter_nil]
 have f2:((q++ [x]).filter x9).length=(q.filter x9).length+(if x9 x=true then 1 else 0):=by
  rw[List.filter_append,List.length_append];congr 1;simp only[List.filter_cons,List.filter_nil]
  split<;>rfl
 have hd0:zK c.parts (q.filter x9).length=⟨1,x.n.toNat,[],(q.filter yF).length,0,0,[],[]⟩∧(q.filter x9).length<c.parts.length∨x.op≠zc:=by
  by_cases e:x.op=zc
  ·obtain⟨rs,e1,_⟩:=h.parts
   rw[e1];exact .inl (dE hl e rs)
  ·exact .inr e
 unfold Xn at h ⊢;rw[f1,f2,List.length_append,List.length_singleton];clear f1 f2 hl;generalize q.filter yF=D at *;generalize (q.filter x9).length=nv at *;generalize q.length=nq at *;unfold jH at hs;by_cases e0:x.op=zv
 ·rw[if_pos e0]at hs
  have g1:yF x=false:=dD (by rw[e0];decide);have g2:x9 x=false:=FG (by rw[e0];decide);rw[g1,g2];simp only[Bool.false_eq_true,if_false,List.append_nil,Nat.add_zero];unfold yJ at hs
  split at hs
  ·cases hs
  ·cases hk:jj c.names x [zc,zp]with
   |error e=>rw[hk]at hs;cases hs
   |ok m =>
    rw[hk]at hs;cases hs;exact⟨h.devs,h.dev,h.dj,h.le8,h.ok,h.jour,h.parts,h.few,h.nms,h.byts,(λy hy=>by cases hy;exact Qg h.nms hk),h.uniq,Nat.le_succ_of_le h.nlen⟩
 ·rw[if_neg e0]at hs
  split at hs
  ·cases hs
  ·rename_i hlk
   have hlk:lk c.names x.s=none:=by simpa using hlk
   split at hs
   ·cases hs
   ·rename_i hfull
    have hfull:full c.names x.op=false:=by simpa using hfull
    unfold jX at hs;by_cases e1:x.op=zg
    ·have g1:yF x=true:=gc (.inr e1)
     have g2:x9 x=false:=FG (by rw[e1];decide)
     have h8:D.length≠8:=by
      unfold full at hfull;rw[if_pos (.inr e1)]at hfull;rw[←h.dj]
      simpa using hfull
     have hle:=h.le8;rw[g1,g2];simp only[if_true,Bool.false_eq_true,if_false,Nat.add_zero];rw[if_pos e1]at hs;by_cases hsz:256≤x.n∧x.n≤2048
     ·rw[if_neg (not_not_intro hsz)]at hs
      by_cases hj:c.jour.isSome=true
      ·rw[if_pos hj]at hs;cases hs
      ·rw[if_neg hj]at hs
       cases hs;refine⟨by show c.devs++ [_]=_;rw[h.devs,List.map_append];rfl,?_,?_,by simp;omega,λy hy=>?_,λj hj'=>?_,h.parts,h.few,h.nms.snoc (λe=>?_) (λe=>?_),λy hy=>?_,h.expo,ZY _ h.uniq hlk,by simp[h.nlen]⟩
       ·show vq (c.names++ [_]) _=_
        rw[xg,h.dev];simp only[e1];rfl
       ·show vq (c.names++ [_]) _=_
        rw[xg,h.dj,List.length_append];simp only[e1];rfl
       ·rcases List.mem_append.1 hy with q|q
        ·exact h.ok y q
        ·rw[List.mem_singleton.1 q];omega
       ·cases hj'
        refine⟨x,?_,e1⟩;rw[h.devs,List.length_map,List.getElem?_append_right (Nat.le_refl _)];simp
       ·rcases e with e|e
        ·exact absurd (e1.symm.trans e) (by decide)
        ·exact absurd (e1.symm.trans e) (by decide)
       ·rcases e with e|e
        ·exact absurd (e1.symm.trans e) (by decide)
        ·exact absurd (e1.symm.trans e) (by decide)
       ·rcases List.mem_append.1 hy with q|q
        ·exact h.byts y q
        ·rw[List.mem_singleton.1 q];exact Nat.zero_le _
     ·rw[if_pos hsz]at hs;cases hs
    ·rw[if_neg e1]at hs
     by_cases e2:x.op=zc
     ·have g1:yF x=true:=gc (.inl e2)
      have g2:x9 x=true:=zaj e2
      have h8:D.length≠8:=by
       unfold full at hfull;rw[if_pos (.inl e2)]at hfull;rw[←h.dj]
       simpa using hfull
      have hle:=h.le8;have hd:zK c.parts nv=⟨1,x.n.toNat,[],D.length,0,0,[],[]⟩∧nv<c.parts.length:=hd0.resolve_right (λq=>q e2);rw[g1,g2];simp only[if_true];rw[if_pos e2]at hs;by_cases hsz:1≤x.n∧x.n≤2048
      ·rw[if_neg (not_not_intro hsz)]at hs
       cases hs;refine⟨by show c.devs++ [_]=_;rw[h.devs,List.map_append];rfl,?_,?_,by simp;omega,λy hy=>?_,λj hj'=>?_,h.parts,h.few,h.nms.snoc (λe=>?_) (λe=>?_),λy hy=>?_,h.expo,ZY _ h.uniq hlk,by simp[h.nlen]⟩
       ·show vq (c.names++ [_]) _=_
        rw[xg,h.dev];simp only[e2];rfl
       ·show vq (c.names++ [_]) _=_
        rw[xg,h.dj,List.length_append];simp only[e2];rfl
       ·rcases List.mem_append.1 hy with q|q
        ·exact h.ok y q
        ·rw[List.mem_singleton.1 q];exact hsz
       ·obtain⟨y,hy,ho⟩:=h.jour j hj'
        exact⟨y,by rw[List.getElem?_append_left (List.getElem?_eq_some_iff.1 hy).1];exact hy,ho⟩
       ·show yW c.parts (vq c.names [zc])
        rw[h.dev];refine⟨hd.2,?_⟩;unfold sz;rw[hd.1];show 1≤x.n.toNat∧x.n.toNat≤8192;omega
       ·rcases e with e|e
        ·exact absurd (e2.symm.trans e) (by decide)
        ·exact absurd (e2.symm.trans e) (by decide)
       ·rcases List.mem_append.1 hy with q|q
        ·exact h.byts y q
        ·rw[List.mem_singleton.1 q];exact Nat.zero_le _
      ·rw[if_pos hsz]at hs;cases hs
     ·have g1:yF x=false:=dD (by simp[e1,e2])
      have g2:x9 x=false:=FG e2;rw[g1,g2];simp only[Bool.false_eq_true,if_false,List.append_nil,Nat.add_zero];rw[if_neg e2]at hs
      have c1:∀m:Mn,m.word=x.op→vq (c.names++ [(x.s,m)]) [zc]=nv:=λm hm=>by
       rw[xg,h.dev,if_neg (by simp[hm,e2])];rfl
      have c2:∀m:Mn,m.word=x.op→vq (c.names++ [(x.s,m)]) [zc,zg]=D.length:=λm hm=>by
       rw[xg,h.dj,if_neg (by simp[hm,e1,e2])];rfl
      by_cases e3:x.op=zT∨x.op=zD
      ·rw[if_pos e3]at hs
       by_cases hlen:(yy x.l 0).s.length≠64
       ·rw[if_pos hlen]at hs;cases hs
       ·rw[if_neg hlen]at hs
        cases hs;have hun:=Ql 32 (yy x.l 0).s (by omega);refine⟨h.devs,c1 _ rfl,c2 _ rfl,h.le8,h.ok,h.jour,h.parts,h.few,h.nms.snoc (λe=>?_) (λe=>hun),λy hy=>?_,h.expo,ZY _ h.uniq hlk,by simp[h.nlen]⟩
        ·rcases e3 with e3|e3<;>rcases e with e|e<;>exact absurd (e3.symm.trans e) (by decide)
        ·rcases List.mem_append.1 hy with q|q
         ·exact h.byts y q
         ·rw[List.mem_singleton.1 q]
          show(vZ _).length≤1000;omega
      ·rw[if_neg e3]at hs
       have e4:x.op=zp:=by
        rcases hx.word with e|e|e|e|e|e
        ·exact absurd e e2
        ·exact absurd e e1
        ·exact absurd (.inl e) e3
        ·exact absurd (.inr e) e3
        ·exact e
        ·exact absurd e e0
       cases hc:jN c.names 12 c.parts (yy x.l 0)with
       |error e=>rw[hc]at hs;cases hs
       |ok y =>
        obtain⟨k,ps⟩:=y;rw[hc]at hs;cases hs;have hfw:=GH 12 _ _ _ _ hc;obtain⟨rs,e5,hk,hg⟩:=J2 12 h.nms ((hx.vol e4).2.ok) hc;have hfew:=h.few;obtain⟨rs0,e6,hg0⟩:=h.parts;subst e5;refine⟨h.devs,c1 _ rfl,c2 _ rfl,h.le8,h.ok,h.jour,⟨rs0++rs,?_,hg0.app (by rw[←e6];exact hg)⟩,?_,(h.nms.more rs).snoc (λe=>hk) (λe=>?_),λy hy=>?_,λy hy=>(h.expo y hy).more rs,ZY _ h.uniq hlk,by simp[h.nlen]⟩
        ·show c.parts++rs=_
         rw[e6,List.append_assoc]
        ·show(c.parts++rs).length≤_
         omega
        ·rcases e with e|e<;>exact absurd (e4.symm.trans e) (by decide)
        ·rcases List.mem_append.1 hy with q|q
         ·exact h.byts y q
         ·rw[List.mem_singleton.1 q];exact Nat.zero_le _
theorem Gn{rs:List Pt}:∀ {ps:List Pt},Grown' ps rs→∀i (h:i<rs.length),Da (ps++rs.take i) rs[i]:=by
 induction rs with
 |nil=>intro ps _ i h;cases h
 |cons p rs ih =>
  intro ps h i hi;cases i with
  |zero=>simpa using h.1
  |succ i =>
   have:=ih h.2 i (by simpa using hi)
   simpa using this
theorem DD{l:List Nd}:∀ {d:Nat} {p:Pt},p ∈ qo d l→∃j x,(l.filter yF)[j]?=some x∧x.op=zc∧p=⟨1,x.n.toNat,[],d+j,0,0,[],[]⟩:=by
 induction l with
 |nil=>intro d p h;cases h
 |cons y l ih =>
  intro d p h;simp only[qo]at h;by_cases h1:y.op=zc
  ·rw[if_pos h1]at h
   have e:(y::l).filter yF=y::l.filter yF:=by rw[List.filter_cons,if_pos (gc (.inl h1))]
   rw[e];rcases List.mem_cons.1 h with q|q
   ·exact⟨0,y,rfl,h1,q⟩
   ·obtain⟨j,x,a,b,c⟩:=ih q
    exact⟨j+1,x,by simpa using a,b,by rw[c];simp;omega⟩
  ·rw[if_neg h1]at h
   by_cases h2:y.op=zg
   ·rw[if_pos h2]at h
    have e:(y::l).filter yF=y::l.filter yF:=by rw[List.filter_cons,if_pos (gc (.inr h2))]
    rw[e];obtain⟨j,x,a,b,c⟩:=ih h;exact⟨j+1,x,by simpa using a,b,by rw[c];simp;omega⟩
   ·rw[if_neg h2]at h
    have e:(y::l).filter yF=l.filter yF:=by rw[List.filter_cons,dD (by simp[h1,h2])];rfl
    rw[e];exact ih h
theorem Xn.part{l:List Nd}{c:Ck}(h:Xn l l c){i:Nat}(hi:i<c.parts.length):(∃j x,(l.filter yF)[j]?=some x∧x.op=zc∧c.parts[i]=⟨1,x.n.toNat,[],j,0,0,[],[]⟩∧1≤x.n∧x.n≤2048)∨Da (c.parts.take i) c.parts[i]:=by
 obtain⟨rs,e,hg⟩:=h.parts;by_cases hd:i<(qo 0 l).length
 ·left
  have hm:c.parts[i] ∈ qo 0 l:=by
   simp only[e,List.getElem_append_left hd];exact List.getElem_mem hd
  obtain⟨j,x,a,b,q⟩:=DD hm;rw[Nat.zero_add]at q;exact⟨j,x,a,b,q,h.ok x (List.mem_of_getElem? a)⟩
 ·right
  have hr:i-(qo 0 l).length<rs.length:=by rw[e,List.length_append]at hi;omega
  have:=Gn hg _ hr;have e2:c.parts.take i=qo 0 l++rs.take (i-(qo 0 l).length):=by rw[e,List.take_append,List.take_of_length_le (by omega)]
  have e3:c.parts[i]=rs[i-(qo 0 l).length]:=by simp only[e,List.getElem_append_right (Nat.le_of_not_lt hd)]
  rw[e2,e3];exact this
theorem Y0{ps:List Pt}{i k:Nat}(h:yW (ps.take i) k):k<i∧yW ps k:=by
 have h1:=h.1;rw[List.length_take]at h1;have:=h.more (ps.drop i);rw[List.take_append_drop]at this;exact⟨by omega,this⟩
theorem Xn.wf{l:List Nd}{c:Ck}(h:Xn l l c):XE c.parts:=by
 refine⟨λi hi k hk=>?_,λi hi=>?_,λi hi=>?_,λi hi e=>?_,λi hi e=>?_,λi hi=>?_,λi hi=>?_⟩
 ·rw[vc hi]at hk
  rcases h.part hi with⟨j,x,_,_,q,_⟩|q
  ·rw[q]at hk;cases hk
  ·exact(Y0 (q.kids k hk)).1
 ·unfold sz
  rw[vc hi];rcases h.part hi with⟨j,x,_,_,q,_⟩|q
  ·rw[q];show x.n.toNat≤8192;omega
  ·exact q.hi
 ·rw[vc hi]
  rcases h.part hi with⟨j,x,_,_,q,_⟩|q
  ·rw[q];exact Nat.zero_le _
  ·have:=q.fst;omega
 ·rw[vc hi]at e ⊢
  rcases h.part hi with⟨j,x,_,_,q,_⟩|q
  ·rw[q]at e;cases e
  ·exact(q.snap e).1
 ·rw[vc hi]at e ⊢
  rcases h.part hi with⟨j,x,_,_,q,_⟩|q
  ·rw[q]at e;rcases e with e|e<;>cases e
  ·rw[q.one (.inr (.inr e))];exact Nat.le_refl _
 ·rw[vc hi]
  rcases h.part hi with⟨j,x,_,_,q,_⟩|q
  ·rw[q];exact Nat.zero_le _
  ·have:=q.four;omega
 ·rw[vc hi]
  rcases h.part hi with⟨j,x,_,_,q,_⟩|q
  ·rw[q];exact⟨Nat.le_refl _,by show 1≤8;decide⟩
  ·exact⟨by have:=q.kind;omega,q.kind.2⟩
end
section
open Go.ChangeShapes Go.WideShapes Go.ChangeAt Go.RowKit Go.MapKept
variable {E:Nat→Prop}
def Yv(E:Nat→Prop)(w:World)(cb:Nat)(V:CV)(R:Except Er (Ck×Mn))(e:Ending)(w':World):Prop:=vM (V.own cb) w w'∧match R with
 | .error (ec,ek)=>e= .panicked (YE ec ek)
 | .ok (c',m)=>∃u V',e= .returned (X7 m u)∧XA w' (λg=>¬V'.own cb g∧(E g∨w.heap.size≤g)) m u∧zM (λg=>E g∨w.heap.size≤g) w' cb V' c'∧je cb V w V' w'
theorem zM.other{w:World}{cb:Nat}{V:CV}{c:Ck}(h:zM E w cb V c)(q:Addr)(hq:¬V.own cb q.block)(hE:¬E q.block)(v:Value):zM E (w.setCell q v) cb V c:=by
 have hk:∀k,k<w.heap.size→(¬V.own cb k∧E k)→(w.setCell q v).heap[k]?=w.heap[k]?∧(¬V.own cb k∧E k):=λk hk hh=>⟨Below.heap_setCell w q v k (by rintro rfl;exact hE hh.2),hh⟩
 have kept:∀ {k:Nat} {o:Obj},V.own cb k→w.heap[k]?=some o→(w.setCell q v).heap[k]?=some o:=λ{k o} ho hh=>(Below.heap_setCell w q v k (by rintro rfl;exact hq ho)).trans hh
 obtain⟨us,e1,r1,i1⟩:=h.prts;obtain⟨ms,e2,r2,i2⟩:=h.nms;have hsz:w.heap.size≤(w.setCell q v).heap.size:=by simp
 exact⟨kept (.inl rfl) h.has,zI h.devs (λg o e ho=>kept (.inr (.inl e)) ho),zI h.only (λg o e ho=>kept (.inr (.inr (.inr (.inl e)))) ho),⟨us,e1,zI r1 (λg o e ho=>kept (.inr (.inr (.inl e))) ho),λi a b=>(i1 i a b).keep hsz hk⟩,⟨ms,e2,kept (.inr (.inr (.inr (.inr rfl)))) r2,λi a b=>(i2 i a b).keep hsz hk⟩,h.uniq,h.mlt,h.few⟩
theorem je.set{cb:Nat}{V V':CV}{w w':World}(s:je cb V w V' w'){q:Addr}(hq:w.heap.size≤q.block)(v:Value):je cb V w V' (w'.setCell q v):=⟨s.only.set (.inr hq) v,s.new⟩
theorem zM.other3{w:World}{cb:Nat}{V:CV}{c:Ck}(h:zM E w cb V c)(g:Nat)(hq:¬V.own cb g)(hE:¬E g)(x0 x1 x2:Value):zM E (((w.setCell ⟨g,0,none⟩ x0).setCell ⟨g,1,none⟩ x1).setCell ⟨g,2,none⟩ x2) cb V c:=((h.other ⟨g,0,none⟩ hq hE x0).other ⟨g,1,none⟩ hq hE x1).other ⟨g,2,none⟩ hq hE x2
theorem je.set3{cb:Nat}{V V':CV}{w w':World}(s:je cb V w V' w'){g:Nat}(hq:w.heap.size≤g)(x0 x1 x2:Value):je cb V w V' (((w'.setCell ⟨g,0,none⟩ x0).setCell ⟨g,1,none⟩ x1).setCell ⟨g,2,none⟩ x2):=((s.set (q:=⟨g,0,none⟩) hq x0).set (q:=⟨g,1,none⟩) hq x1).set (q:=⟨g,2,none⟩) hq x2
theorem zM.vdv{w:World}{cb:Nat}{V:CV}{c:Ck}(h:zM E w cb V c):∃A C,V.vd= .slice A c.devs.length C:=by
 rcases h.devs.2 with⟨e,h0⟩|⟨b,cap,cur,e,_⟩
 ·exact⟨none,0,by rw[e,h0]⟩
 ·exact⟨_,_,e⟩
theorem kV{w:World}{P:Nat→Prop}{m:Mn}(h:m.bytes= []):XA w P m (.slice none 0 0):=⟨none,0,by rw[h];rfl,by rw[h];exact Nat.le_refl _,by unfold maxLen;omega,.inl h⟩
theorem QH{w:World}{cb:Nat}{V:CV}{c:Ck}(h:zM E w cb V c):zM (λg=>E g∧g<w.heap.size) w cb V c:=h.mono (λk hk _ he=>⟨he,hk⟩)
theorem ZU{w:World}(a b c:Obj):Below w.heap.size w (((w.alloc a).alloc b).alloc c):=((Below.refl _ w).alloc (Nat.le_refl _) a |>.alloc (by simp) b).alloc (by simp;omega) c
end
section
open Go.ChangeShapes Go.WideShapes Go.ChangeAt Go.RowKit Go.MapKept
variable {E:Nat→Prop}
theorem XH{w:World}{cb:Nat}{V:CV}{c:Ck}(h:zM E w cb V c)(n:Nd)(A:Option Addr)(L C:Nat)(ho:n.op=zc)(hdv:c.devs.length≤90000):
 Calls Tryz.prog 88 #[.pointer (some ⟨cb,0,none⟩),.agg (zR n (.slice A L C))] w (Yv E w cb V (jX c n)):=by
 obtain⟨W1,hW1⟩:∃W1,W1=((w.alloc (.cells #[.string (bs n.op),.string (bs n.s),.int .i64 n.n,.int .i64 n.a,.slice A L C] 24)).alloc (.cells #[.string ⟨#[]⟩,.int .i64 0,.slice none 0 0] 136)).alloc (.cells #[.string (bs n.op),.int .i64 0,.slice none 0 0] 136):=⟨_,rfl⟩
 have hb1:Below w.heap.size w W1:=by rw[hW1];exact ZU _ _ _
 have N1:ze W1 w.heap.size 24 #[.string (bs n.op),.string (bs n.s),.int .i64 n.n,.int .i64 n.a,.slice A L C]:=by rw[hW1];exact((ze.new w _ _).alloc _).alloc _
 have R1:ze W1 (w.heap.size+1) 136 #[.string ⟨#[]⟩,.int .i64 0,.slice none 0 0]:=by rw[hW1];exact(ze.new_at (by simp)).alloc _
 have M1:ze W1 (w.heap.size+2) 136 #[.string (bs n.op),.int .i64 0,.slice none 0 0]:=by rw[hW1];exact ze.new_at (by simp)
 have h1:=(QH h).keep hb1;have S1:je cb V w V W1:=je.of hb1;have HW:=zz hW1;have lcb:=h.has.lt;have hrn:¬V.own cb (w.heap.size+1):=λe=>by have:=(h.low e).2;omega
 have hmn:¬V.own cb (w.heap.size+2):=λe=>by have:=(h.low e).2;omega
 have hot:=zx n.op;have f0:(n.op== [106,111,117,114,110,97,108])=false:=by rw[ho];decide
 have f1:(n.op== [100,101,118,105,99,101])=true:=by rw[ho];decide
 have f2:(n.op== [107,101,121])=false:=by rw[ho];decide
 have f3:(n.op== [114,111,111,116])=false:=by rw[ho];decide
 have f4:(n.op== [118,111,108,117,109,101])=false:=by rw[ho];decide
 have hR:jX c n=if ¬(1≤n.n∧n.n≤2048)then .error (134,n.a)else .ok ({ c with devs:=c.devs++ [n.n.toNat] },⟨n.op,vq c.names [zc],[]⟩):=by
  unfold jX;rw[if_neg (show ¬n.op=zg by rw[ho];decide),if_pos ho]
 clear hW1;by_cases h12:1≤n.n∧n.n≤2048
 ·rw[if_neg (not_not_intro h12)]at hR
  have HR:=zz hR;obtain⟨k1,k2⟩:=h12;clear hR ho;have hny:=qa 134 n.a W1;unfold zR;go_enter Tryz.func88,Tryz.ntmps88;have hah:=Zg (h1.alloc (.cells #[.string ⟨#[100,101,118,105,99,101]⟩] 9)) [zc] (.slice (some ⟨W1.heap.size,0,none⟩) 1 1) (.inr ⟨W1.heap.size,rfl,ze.new_at rfl⟩) (by simp)
  obtain⟨CN,hCN⟩:∃CN,CN=vq c.names [zc]:=⟨_,rfl⟩
  have HCN:=zz hCN
  obtain⟨DL,hDL⟩:∃DL,DL=c.devs.length:=⟨_,rfl⟩
  have HDL:=zz hDL;have hdl:DL≤90000:=by rw[hDL];exact hdv
  change Calls _ _ _ _ (λe w'=>e= .returned (.int .i64 (vq c.names [zc]:Nat))∧Below (W1.alloc (.cells #[.string ⟨#[100,101,118,105,99,101]⟩] 9)).heap.size (W1.alloc (.cells #[.string ⟨#[100,101,118,105,99,101]⟩] 9)) w')at hah;rw[←hCN]at hah;clear hCN hDL;have HMM:=zz (λw2 (hb:Below (W1.alloc (.cells #[.string ⟨#[100,101,118,105,99,101]⟩] 9)).heap.size (W1.alloc (.cells #[.string ⟨#[100,101,118,105,99,101]⟩] 9)) w2)=>(zd W1 (.cells #[.string ⟨#[100,101,118,105,99,101]⟩] 9)).trans (hb.mono (by simp)))
  go_wp2_with (first
   |((go_at_call 86)
     (first |rw[←HW.out]|skip)
     refine hny.mono ?_;rintro e w3 ⟨rfl,hw3⟩;(obtain rfl:W1=w3:=hw3.symm))
   |((go_at_call 118)
     refine hah.mono ?_;rintro e w2 ⟨rfl,hb2'⟩;have hb2:=HMM.out w2 hb2';have M2:=M1.below hb2 M1.lt;have m1:=M2.cell 1;have g1:=M2.free 1;(have ml:=M2.lt)))
  have H2:=h1.keep hb2;have S2:=S1.trans (je.of (cb:=cb) (V:=V) hb2);have N2:=N1.below hb2 N1.lt;have R2:=R1.below hb2 R1.lt;have H3:=H2.other ⟨w.heap.size+2,1,none⟩ hmn (λe=>absurd e.2 (Nat.not_lt.2 (Nat.le_add_right _ _))) (.int .i64 (CN:Nat));have S3:=S2.set (q:=⟨w.heap.size+2,1,none⟩) (by show w.heap.size≤w.heap.size+2;omega) (.int .i64 (CN:Nat));have N3:=N2.other (p:=⟨w.heap.size+2,1,none⟩) (by show w.heap.size≠w.heap.size+2;omega) (.int .i64 (CN:Nat));have R3:=R2.other (p:=⟨w.heap.size+2,1,none⟩) (by show w.heap.size+1≠w.heap.size+2;omega) (.int .i64 (CN:Nat));have M3:ze (w2.setCell ⟨w.heap.size+2,1,none⟩ (.int .i64 (CN:Nat))) (w.heap.size+2) 136 #[.string (bs n.op),.int .i64 (CN:Nat),.slice none 0 0]:=M2.putP 1 _;generalize w2.setCell ⟨w.heap.size+2,1,none⟩ (.int .i64 (CN:Nat))=W3 at *;have c0:=H3.has.cell 0;have n2:=N3.cell 2;simp only[jg,jd,jf]at c0 n2;clear m1 g1 ml hb2 hb2' H2 S2 N2 R2 M2 hah HMM;refine vu (S:=λwz=>wz.cell? ⟨cb,0,none⟩=some V.vd∧wz.cell? ⟨w.heap.size,2,none⟩=some (.int .i64 n.n)) 13 (by kernel_rfl) (⟨c0,n2⟩) (λhHeld=>?_);refine vI 0 (some 65) (.pointer (some ⟨cb,0,none⟩)) hHeld ?_;simp only[Act.put,zk,zj,zl];refine vI 1 (some 66) (.pointer (some ⟨cb,0,none⟩)) hHeld ?_;simp only[Act.put,zk,zj,zl];refine vI 2 (some 67) (.pointer (some ⟨cb,0,none⟩)) hHeld ?_;simp only[Act.put,zk,zj,zl];refine vI 3 (some 68) (.pointer (some ⟨cb,0,none⟩)) hHeld ?_;simp only[Act.put,zk,zj,zl];refine vI 4 (some 69) (.pointer (some ⟨cb,0,none⟩)) hHeld ?_;simp only[Act.put,zk,zj,zl];refine vK 5 (some 70) (V.vd) rfl rfl (λwz hz=>by obtain⟨z0,z1⟩:=hz;unfold execOp;go_simp) hHeld ?_;simp only[Act.put,zk,zj,zl];refine vI 6 (some 71) (.pointer (some ⟨w.heap.size,2,none⟩)) hHeld ?_;simp only[Act.put,zk,zj,zl];refine vK 7 (some 72) (.int .i64 n.n) rfl rfl (λwz hz=>by obtain⟨z0,z1⟩:=hz;unfold execOp;go_simp) hHeld ?_;simp only[Act.put,zk,zj,zl]
  have hS2:(W3.drew.alloc (.cells #[.int .i64 n.n] 3)).cell? ⟨cb,0,none⟩=some V.vd∧(W3.drew.alloc (.cells #[.int .i64 n.n] 3)).cell? ⟨w.heap.size,2,none⟩=some (.int .i64 n.n):=⟨za (zd W3.drew _) hHeld.1,za (zd W3.drew _) hHeld.2⟩
  refine jp 8 (some 73) (.slice (some ⟨W3.heap.size,0,none⟩) 1 1) (W3.drew.alloc (.cells #[.int .i64 n.n] 3)) (by kernel_rfl) rfl rfl (by rfl) (by kernel_rfl) hS2 ?_;simp only[Act.put,zk,zj,zl];have hb4:Below W3.heap.size W3 (W3.drew.alloc (.cells #[.int .i64 n.n] 3)):=(zu (Below.refl _ W3)).trans (zd W3.drew _);have G3:=H3.keep hb4;obtain⟨A6,C6,w6,hr6,hrow6,hg6,hw6⟩:=jP Dh (ty:=29) (W3.drew.alloc (.cells #[.int .i64 n.n] 3)) cb DL _ _ (by have:=G3.devs;rw[←HDL.out]at this;exact this) (by have:=G3.has.lt;omega) (by omega) [.int .i64 n.n] rfl (by intro u hu;simp at hu;subst hu;rfl) W3.heap.size (ze.new_at rfl);have N6:ze w6 w.heap.size 24 #[.string (bs n.op),.string (bs n.s),.int .i64 n.n,.int .i64 n.a,.slice A L C]:=zQ ((zq N3).alloc _) hg6 (zJ G3.devs ((zq N3).alloc _) (by decide));have R6:ze w6 (w.heap.size+1) 136 #[.string ⟨#[]⟩,.int .i64 0,.slice none 0 0]:=zQ ((zq R3).alloc _) hg6 (zJ G3.devs ((zq R3).alloc _) (by decide));have M6:=zQ ((zq M3).alloc (.cells #[.int .i64 n.n] 3)) hg6 (zJ G3.devs ((zq M3).alloc _) (by decide));have cb6h:=zQ G3.has hg6 (zJ G3.devs G3.has (by decide))
  have hS6:w6.cell? ⟨cb,0,none⟩=some V.vd∧w6.cell? ⟨w.heap.size,2,none⟩=some (.int .i64 n.n):=⟨cb6h.cell 0,N6.cell 2⟩
  refine jp 9 (some 74) (.slice A6 (DL+1) C6) w6 (by kernel_rfl) rfl rfl (by rfl) (jO _ _ rfl rfl rfl hr6) hS6 ?_;simp only[Act.put,zk,zj,zl];refine jp 10 (some 75) (.pointer (some ⟨cb,0,none⟩)) w6 (by kernel_rfl) rfl rfl (by rfl) rfl hS6 ?_;simp only[Act.put,zk,zj,zl];refine jp 11 (some 76) (.pointer (some ⟨cb,0,none⟩)) w6 (by kernel_rfl) rfl rfl (by rfl) rfl hS6 ?_;simp only[Act.put,zk,zj,zl];refine jp 12 (some 77) (.pointer (some ⟨cb,0,none⟩)) w6 (by kernel_rfl) rfl rfl (by rfl) rfl hS6 ?_;simp only[Act.put,zk,zj,zl];have q6:=cb6h.cell 0;have f6:=cb6h.free 0;refine jA 13 none (w6.setCell ⟨cb,0,none⟩ (.slice A6 (DL+1) C6)) (by kernel_rfl) rfl rfl (by rfl) (by unfold execOp;go_simp) (by kernel_rfl) ?_;simp only[Act.put];have hvn:(Value.int .i64 n.n)= .int .i64 ((n.n.toNat:Nat):Int):=by congr 1;omega
  rw[hvn]at hrow6;have hPD:=G3.putDev (A6:=A6) (C6:=C6) (d:=n.n.toNat) hg6 (by have:=hrow6;rw[HDL.out]at this;exact this) (by have:=hw6;rw[HDL.out]at this;exact this) hdv;have H4:zM (λg=>E g∧g<w.heap.size) (w6.setCell ⟨cb,0,none⟩ (.slice A6 (DL+1) C6)) cb { V with vd:= .slice A6 (DL+1) C6 } { c with devs:=c.devs++ [n.n.toNat] }:=by rw[HDL.out];exact hPD.1
  have S4:je cb V (W3.drew.alloc (.cells #[.int .i64 n.n] 3)) { V with vd:= .slice A6 (DL+1) C6 } (w6.setCell ⟨cb,0,none⟩ (.slice A6 (DL+1) C6)):=by rw[HDL.out];exact hPD.2
  have hrn4:=(S4.inner (w.heap.size+1) (by have:=M3.lt;simp;omega) hrn).2;have S5:=(S3.trans (je.of (cb:=cb) (V:=V) hb4)).trans S4;have R5:=R6.other (p:=⟨cb,0,none⟩) (by show w.heap.size+1≠cb;omega) (.slice A6 (DL+1) C6);have M5:=M6.other (p:=⟨cb,0,none⟩) (by show w.heap.size+2≠cb;omega) (.slice A6 (DL+1) C6);clear hPD S4;generalize w6.setCell ⟨cb,0,none⟩ (.slice A6 (DL+1) C6)=W5 at *;have m0:=M5.cell 0;have m1:=M5.cell 1;have m2:=M5.cell 2;simp only[jg,jd,jf]at m0 m1 m2;have r0:=R5.cell 0;have r1:=R5.cell 1;have r2:=R5.cell 2;simp only[jg,jd,jf]at r0 r1 r2;have g0:=R5.free 0;have g1:=R5.free 1;have g2:=R5.free 2;have rl:=R5.lt;have mlt:=M5.lt;clear q6 f6 hS6 hS2 hHeld cb6h M6 R6 N6 hrow6 hr6 hg6 hw6 G3 c0 n2 hb4
  go_wp2
  refine QT rfl rfl (R5.set3 _ _ _) rfl ?_;have S6:=S5.set3 (g:=w.heap.size+1) (by omega) (.string (bs n.op)) (.int .i64 (CN:Nat)) (.slice none 0 0);have H6:=H4.other3 (w.heap.size+1) hrn4 (λe=>absurd e.2 (Nat.not_lt.2 (Nat.le_add_right _ _))) (.string (bs n.op)) (.int .i64 (CN:Nat)) (.slice none 0 0);refine⟨S6.only,?_⟩;rw[HR.out];exact⟨.slice none 0 0,_,by rw[←HCN.out];rfl,kV rfl,H6.mono (λg _ _ he=> .inl he.1),S6⟩
 ·rw[if_pos h12]at hR
  have HR:=zz hR;have hno:=qO 134 n.a W1;rcases(by omega:¬1≤n.n∨(1≤n.n∧¬n.n≤2048))with k1|⟨k1,k2⟩
  all_goals
   clear h12 hR ho;unfold zR;go_enter Tryz.func88,Tryz.ntmps88
   go_wp2_with (first
    |((go_at_call 86)
      (first |rw[←HW.out]|skip)
      refine hno.mono ?_;rintro e w3 ⟨rfl,hw3⟩;(obtain rfl:W1=w3:=hw3.symm)))
   exact⟨rfl,S1.only,by rw[HR.out];rfl⟩
end
section
open Go.ChangeShapes Go.WideShapes Go.ChangeAt Go.RowKit Go.MapKept
variable {E:Nat→Prop}
theorem YR{w:World}{cb:Nat}{V:CV}{c:Ck}(h:zM E w cb V c)(n:Nd)(A:Option Addr)(L C:Nat)(ho:n.op=zg)(hdv:c.devs.length≤90000):
 Calls Tryz.prog 88 #[.pointer (some ⟨cb,0,none⟩),.agg (zR n (.slice A L C))] w (Yv E w cb V (jX c n)):=by
 obtain⟨W1,hW1⟩:∃W1,W1=((w.alloc (.cells #[.string (bs n.op),.string (bs n.s),.int .i64 n.n,.int .i64 n.a,.slice A L C] 24)).alloc (.cells #[.string ⟨#[]⟩,.int .i64 0,.slice none 0 0] 136)).alloc (.cells #[.string (bs n.op),.int .i64 0,.slice none 0 0] 136):=⟨_,rfl⟩
 have hb1:Below w.heap.size w W1:=by rw[hW1];exact ZU _ _ _
 have N1:ze W1 w.heap.size 24 #[.string (bs n.op),.string (bs n.s),.int .i64 n.n,.int .i64 n.a,.slice A L C]:=by rw[hW1];exact((ze.new w _ _).alloc _).alloc _
 have R1:ze W1 (w.heap.size+1) 136 #[.string ⟨#[]⟩,.int .i64 0,.slice none 0 0]:=by rw[hW1];exact(ze.new_at (by simp)).alloc _
 have M1:ze W1 (w.heap.size+2) 136 #[.string (bs n.op),.int .i64 0,.slice none 0 0]:=by rw[hW1];exact ze.new_at (by simp)
 have h1:=(QH h).keep hb1;have S1:je cb V w V W1:=je.of hb1;have HW:=zz hW1;have lcb:=h.has.lt;have hrn:¬V.own cb (w.heap.size+1):=λe=>by have:=(h.low e).2;omega
 have hmn:¬V.own cb (w.heap.size+2):=λe=>by have:=(h.low e).2;omega
 have hot:=zx n.op;have f0:(n.op== [106,111,117,114,110,97,108])=true:=by rw[ho];decide
 have f1:(n.op== [100,101,118,105,99,101])=false:=by rw[ho];decide
 have f2:(n.op== [107,101,121])=false:=by rw[ho];decide
 have f3:(n.op== [114,111,111,116])=false:=by rw[ho];decide
 have f4:(n.op== [118,111,108,117,109,101])=false:=by rw[ho];decide
 have hR:jX c n=if ¬(256≤n.n∧n.n≤2048)then .error (134,n.a)else if c.jour.isSome then .error (138,n.a)else .ok ({ c with jour:=some c.devs.length,devs:=c.devs++ [n.n.toNat] },⟨n.op,vq c.names [zc],[]⟩):=by
  unfold jX;rw[if_pos ho]
 have c1:=h1.has.cell 1;have nc3:=N1.cell 3;simp only[jg,jd,jf]at c1 nc3;clear hW1;by_cases h12:256≤n.n∧n.n≤2048
 ·rw[if_neg (not_not_intro h12)]at hR
  obtain⟨k1,k2⟩:=h12;have k3:1≤n.n:=by omega
  have hny:=qa 134 n.a W1;cases hx:c.jour with
  |some x0 =>
   have hxe:(jI c.jour== -1)=false:=by
    rw[hx,beq_eq_false_iff_ne];show((x0:Nat):Int)≠ -1;omega
   rw[hx,if_pos (show(some x0).isSome=true from rfl)]at hR;have HR:=zz hR;clear hR ho hx;unfold zR;go_enter Tryz.func88,Tryz.ntmps88
   go_wp2_with (first
    |((go_at_call 86)
      (first |rw[←HW.out]|skip)
      refine hny.mono ?_;rintro e w3 ⟨rfl,hw3⟩;(obtain rfl:W1=w3:=hw3.symm)))
   refine wp_region_held_drew (S:=λwz=>Below W1.heap.size W1 wz) (by kernel_rfl) ((Below.refl _ W1).drew) (λhHeld=>?_);refine zS 0 (some 31) (.pointer (some ⟨cb,0,none⟩)) hHeld ?_;simp only[Act.put,zk,zj,zl];refine zS 1 (some 32) (.pointer (some ⟨cb,0,none⟩)) hHeld ?_;simp only[Act.put,zk,zj,zl];refine zS 2 (some 33) (.pointer (some ⟨cb,0,none⟩)) hHeld ?_;simp only[Act.put,zk,zj,zl];refine zS 3 (some 34) (.pointer (some ⟨cb,1,none⟩)) hHeld ?_;simp only[Act.put,zk,zj,zl];refine qq 4 (some 35) (.int .i64 (jI c.jour)) rfl rfl (λwz hz=>by have z0:=za hz c1;unfold execOp;go_simp) hHeld ?_;simp only[Act.put,zk,zj,zl];refine qq 5 (some 36) (.bool false) rfl rfl (λwz _=>yx _ (-1) rfl (jI c.jour) rfl false hxe wz) hHeld ?_;simp only[Act.put,zk,zj,zl];refine zS 6 (some 37) (.pointer (some ⟨w.heap.size,3,none⟩)) hHeld ?_;simp only[Act.put,zk,zj,zl];refine qq 7 (some 38) (.int .i64 n.a) rfl rfl (λwz hz=>by have z0:=za hz nc3;unfold execOp;go_simp) hHeld ?_;simp only[Act.put,zk,zj,zl];refine qG 8 (some 39) 86 #[.bool false,.int .i64 138,.int .i64 n.a] (by kernel_rfl) rfl rfl (by rfl) (by kernel_rfl) (qO 138 n.a W1.drew) ?_;rintro e w5 ⟨rfl,rfl⟩;refine .inr ⟨_,rfl,?_⟩;exact⟨rfl,S1.only.drew,by rw[HR.out];rfl⟩
  |none =>
   have hxe:(jI c.jour== -1)=true:=by rw[hx];rfl
   rw[hx,if_neg (show ¬(none:Option Nat).isSome=true by decide)]at hR;have HR:=zz hR;clear hR ho hx;unfold zR;go_enter Tryz.func88,Tryz.ntmps88
   go_wp2_with (first
    |((go_at_call 86)
      (first |rw[←HW.out]|skip)
      refine hny.mono ?_;rintro e w3 ⟨rfl,hw3⟩;(obtain rfl:W1=w3:=hw3.symm)))
   refine wp_region_held_drew (S:=λwz=>Below W1.heap.size W1 wz) (by kernel_rfl) ((Below.refl _ W1).drew) (λhHeld=>?_);refine zS 0 (some 31) (.pointer (some ⟨cb,0,none⟩)) hHeld ?_;simp only[Act.put,zk,zj,zl];refine zS 1 (some 32) (.pointer (some ⟨cb,0,none⟩)) hHeld ?_;simp only[Act.put,zk,zj,zl];refine zS 2 (some 33) (.pointer (some ⟨cb,0,none⟩)) hHeld ?_;simp only[Act.put,zk,zj,zl];refine zS 3 (some 34) (.pointer (some ⟨cb,1,none⟩)) hHeld ?_;simp only[Act.put,zk,zj,zl];refine qq 4 (some 35) (.int .i64 (jI c.jour)) rfl rfl (λwz hz=>by have z0:=za hz c1;unfold execOp;go_simp) hHeld ?_;simp only[Act.put,zk,zj,zl];refine qq 5 (some 36) (.bool true) rfl rfl (λwz _=>yx _ (-1) rfl (jI c.jour) rfl true hxe wz) hHeld ?_;simp only[Act.put,zk,zj,zl];refine zS 6 (some 37) (.pointer (some ⟨w.heap.size,3,none⟩)) hHeld ?_;simp only[Act.put,zk,zj,zl];refine qq 7 (some 38) (.int .i64 n.a) rfl rfl (λwz hz=>by have z0:=za hz nc3;unfold execOp;go_simp) hHeld ?_;simp only[Act.put,zk,zj,zl];refine qG 8 (some 39) 86 #[.bool true,.int .i64 138,.int .i64 n.a] (by kernel_rfl) rfl rfl (by rfl) (by kernel_rfl) (qa 138 n.a W1.drew) ?_;rintro e w5 ⟨rfl,rfl⟩;refine .inl ⟨_,rfl,hHeld,?_⟩;simp only[Act.put,zk,zj,zl];refine wpAnyH_done (by kernel_rfl) ?_ _;have hbd:Below W1.heap.size W1 W1.drew:=zu (Below.refl _ W1);have H2:=h1.keep hbd;have S2:=S1.trans (je.of (cb:=cb) (V:=V) hbd);have N2:=zq N1;have R2:=zq R1;have M2:=zq M1;clear hHeld c1 nc3 h1 S1 N1 R1 M1 hb1 HW hny;generalize W1.drew=W2 at *;obtain⟨Ad,Cd,evd⟩:=H2.vdv;have a0:=H2.has.cell 0;have a1:=H2.has.cell 1;have a1f:=H2.has.free 1;have alt:=H2.has.lt;have a2:=N2.cell 2;have a3:=N2.cell 3;have anl:=N2.lt;simp only[List.getElem?_toArray,List.getElem?_cons_zero,List.getElem?_cons_succ,evd]at a0 a1 a2 a3
   obtain⟨DJ,hDJ⟩:∃DJ,DJ=c.devs.length:=⟨_,rfl⟩
   have HDJ:=zz hDJ;rw[←hDJ]at a0;clear hDJ
   obtain⟨WJ,hWJ⟩:∃WJ,WJ=W2.setCell ⟨cb,1,none⟩ (.int .i64 (DJ:Nat)):=⟨_,rfl⟩
   have hPJ:=H2.put (c':={ c with jour:=some c.devs.length }) 1 (.int .i64 (c.devs.length:Nat)) (H2.has.putP 1 _) rfl rfl rfl;have HJ:zM (λg=>E g∧g<w.heap.size) WJ cb V { c with jour:=some c.devs.length }:=by rw[hWJ,HDJ.out];exact hPJ.1
   have SJ:je cb V w V WJ:=by rw[hWJ,HDJ.out];exact S2.trans hPJ.2
   have NJ:ze WJ w.heap.size 24 #[.string (bs n.op),.string (bs n.s),.int .i64 n.n,.int .i64 n.a,.slice A L C]:=by rw[hWJ];exact N2.other (p:=⟨cb,1,none⟩) (by show w.heap.size≠cb;omega) _
   have RJ:ze WJ (w.heap.size+1) 136 #[.string ⟨#[]⟩,.int .i64 0,.slice none 0 0]:=by rw[hWJ];exact R2.other (p:=⟨cb,1,none⟩) (by show w.heap.size+1≠cb;omega) _
   have MJ:ze WJ (w.heap.size+2) 136 #[.string (bs n.op),.int .i64 0,.slice none 0 0]:=by rw[hWJ];exact M2.other (p:=⟨cb,1,none⟩) (by show w.heap.size+2≠cb;omega) _
   have HW:=zz hWJ;have hdj:(DJ:Int)≤90000:=by have:=HDJ.out;omega
   clear hPJ N2 R2 M2 S2 H2 hWJ;have hny:=qa 134 n.a WJ;have hah:=Zg (HJ.alloc (.cells #[.string ⟨#[100,101,118,105,99,101]⟩] 9)) [zc] (.slice (some ⟨WJ.heap.size,0,none⟩) 1 1) (.inr ⟨WJ.heap.size,rfl,ze.new_at rfl⟩) (by simp)
   obtain⟨CN,hCN⟩:∃CN,CN=vq c.names [zc]:=⟨_,rfl⟩
   have HCN:=zz hCN
   obtain⟨DL,hDL⟩:∃DL,DL=c.devs.length:=⟨_,rfl⟩
   have HDL:=zz hDL;have hdl:DL≤90000:=by rw[hDL];exact hdv
   change Calls _ _ _ _ (λe w'=>e= .returned (.int .i64 (vq c.names [zc]:Nat))∧Below (WJ.alloc (.cells #[.string ⟨#[100,101,118,105,99,101]⟩] 9)).heap.size (WJ.alloc (.cells #[.string ⟨#[100,101,118,105,99,101]⟩] 9)) w')at hah;rw[←hCN]at hah;clear hCN hDL;have HMM:=zz (λw2 (hb:Below (WJ.alloc (.cells #[.string ⟨#[100,101,118,105,99,101]⟩] 9)).heap.size (WJ.alloc (.cells #[.string ⟨#[100,101,118,105,99,101]⟩] 9)) w2)=>(zd WJ (.cells #[.string ⟨#[100,101,118,105,99,101]⟩] 9)).trans (hb.mono (by simp)))
   go_wp2_with (first
    |((go_at_call 86)
      (first |rw[←HW.out]|skip)
      refine hny.mono ?_;rintro e w3 ⟨rfl,hw3⟩;(obtain rfl:WJ=w3:=hw3.symm))
    |((go_at_call 118)
      refine hah.mono ?_;rintro e w2 ⟨rfl,hb2'⟩;have hb2:=HMM.out w2 hb2';have M2:=MJ.below hb2 MJ.lt;have m1:=M2.cell 1;have g1:=M2.free 1;(have ml:=M2.lt)))
   have H2:=HJ.keep hb2;have S2:=SJ.trans (je.of (cb:=cb) (V:=V) hb2);have N2:=NJ.below hb2 NJ.lt;have R2:=RJ.below hb2 RJ.lt;have H3:=H2.other ⟨w.heap.size+2,1,none⟩ hmn (λe=>absurd e.2 (Nat.not_lt.2 (Nat.le_add_right _ _))) (.int .i64 (CN:Nat));have S3:=S2.set (q:=⟨w.heap.size+2,1,none⟩) (by show w.heap.size≤w.heap.size+2;omega) (.int .i64 (CN:Nat));have N3:=N2.other (p:=⟨w.heap.size+2,1,none⟩) (by show w.heap.size≠w.heap.size+2;omega) (.int .i64 (CN:Nat));have R3:=R2.other (p:=⟨w.heap.size+2,1,none⟩) (by show w.heap.size+1≠w.heap.size+2;omega) (.int .i64 (CN:Nat));have M3:ze (w2.setCell ⟨w.heap.size+2,1,none⟩ (.int .i64 (CN:Nat))) (w.heap.size+2) 136 #[.string (bs n.op),.int .i64 (CN:Nat),.slice none 0 0]:=M2.putP 1 _;generalize w2.setCell ⟨w.heap.size+2,1,none⟩ (.int .i64 (CN:Nat))=W3 at *;have c0:=H3.has.cell 0;have n2:=N3.cell 2;simp only[jg,jd,jf]at c0 n2;clear m1 g1 ml hb2 hb2' H2 S2 N2 R2 M2 hah HMM;refine vu (S:=λwz=>wz.cell? ⟨cb,0,none⟩=some V.vd∧wz.cell? ⟨w.heap.size,2,none⟩=some (.int .i64 n.n)) 13 (by kernel_rfl) (⟨c0,n2⟩) (λhHeld=>?_);refine vI 0 (some 65) (.pointer (some ⟨cb,0,none⟩)) hHeld ?_;simp only[Act.put,zk,zj,zl];refine vI 1 (some 66) (.pointer (some ⟨cb,0,none⟩)) hHeld ?_;simp only[Act.put,zk,zj,zl];refine vI 2 (some 67) (.pointer (some ⟨cb,0,none⟩)) hHeld ?_;simp only[Act.put,zk,zj,zl];refine vI 3 (some 68) (.pointer (some ⟨cb,0,none⟩)) hHeld ?_;simp only[Act.put,zk,zj,zl];refine vI 4 (some 69) (.pointer (some ⟨cb,0,none⟩)) hHeld ?_;simp only[Act.put,zk,zj,zl];refine vK 5 (some 70) (V.vd) rfl rfl (λwz hz=>by obtain⟨z0,z1⟩:=hz;unfold execOp;go_simp) hHeld ?_;simp only[Act.put,zk,zj,zl];refine vI 6 (some 71) (.pointer (some ⟨w.heap.size,2,none⟩)) hHeld ?_;simp only[Act.put,zk,zj,zl];refine vK 7 (some 72) (.int .i64 n.n) rfl rfl (λwz hz=>by obtain⟨z0,z1⟩:=hz;unfold execOp;go_simp) hHeld ?_;simp only[Act.put,zk,zj,zl]
   have hS2:(W3.drew.alloc (.cells #[.int .i64 n.n] 3)).cell? ⟨cb,0,none⟩=some V.vd∧(W3.drew.alloc (.cells #[.int .i64 n.n] 3)).cell? ⟨w.heap.size,2,none⟩=some (.int .i64 n.n):=⟨za (zd W3.drew _) hHeld.1,za (zd W3.drew _) hHeld.2⟩
   refine jp 8 (some 73) (.slice (some ⟨W3.heap.size,0,none⟩) 1 1) (W3.drew.alloc (.cells #[.int .i64 n.n] 3)) (by kernel_rfl) rfl rfl (by rfl) (by kernel_rfl) hS2 ?_;simp only[Act.put,zk,zj,zl];have hb4:Below W3.heap.size W3 (W3.drew.alloc (.cells #[.int .i64 n.n] 3)):=(zu (Below.refl _ W3)).trans (zd W3.drew _);have G3:=H3.keep hb4;obtain⟨A6,C6,w6,hr6,hrow6,hg6,hw6⟩:=jP Dh (ty:=29) (W3.drew.alloc (.cells #[.int .i64 n.n] 3)) cb DL _ _ (by have:=G3.devs;rw[←HDL.out]at this;exact this) (by have:=G3.has.lt;omega) (by omega) [.int .i64 n.n] rfl (by intro u hu;simp at hu;subst hu;rfl) W3.heap.size (ze.new_at rfl);have N6:ze w6 w.heap.size 24 #[.string (bs n.op),.string (bs n.s),.int .i64 n.n,.int .i64 n.a,.slice A L C]:=zQ ((zq N3).alloc _) hg6 (zJ G3.devs ((zq N3).alloc _) (by decide));have R6:ze w6 (w.heap.size+1) 136 #[.string ⟨#[]⟩,.int .i64 0,.slice none 0 0]:=zQ ((zq R3).alloc _) hg6 (zJ G3.devs ((zq R3).alloc _) (by decide));have M6:=zQ ((zq M3).alloc (.cells #[.int .i64 n.n] 3)) hg6 (zJ G3.devs ((zq M3).alloc _) (by decide));have cb6h:=zQ G3.has hg6 (zJ G3.devs G3.has (by decide))
   have hS6:w6.cell? ⟨cb,0,none⟩=some V.vd∧w6.cell? ⟨w.heap.size,2,none⟩=some (.int .i64 n.n):=⟨cb6h.cell 0,N6.cell 2⟩
   refine jp 9 (some 74) (.slice A6 (DL+1) C6) w6 (by kernel_rfl) rfl rfl (by rfl) (jO _ _ rfl rfl rfl hr6) hS6 ?_;simp only[Act.put,zk,zj,zl];refine jp 10 (some 75) (.pointer (some ⟨cb,0,none⟩)) w6 (by kernel_rfl) rfl rfl (by rfl) rfl hS6 ?_;simp only[Act.put,zk,zj,zl];refine jp 11 (some 76) (.pointer (some ⟨cb,0,none⟩)) w6 (by kernel_rfl) rfl rfl (by rfl) rfl hS6 ?_;simp only[Act.put,zk,zj,zl];refine jp 12 (some 77) (.pointer (some ⟨cb,0,none⟩)) w6 (by kernel_rfl) rfl rfl (by rfl) rfl hS6 ?_;simp only[Act.put,zk,zj,zl];have q6:=cb6h.cell 0;have f6:=cb6h.free 0;refine jA 13 none (w6.setCell ⟨cb,0,none⟩ (.slice A6 (DL+1) C6)) (by kernel_rfl) rfl rfl (by rfl) (by unfold execOp;go_simp) (by kernel_rfl) ?_;simp only[Act.put];have hvn:(Value.int .i64 n.n)= .int .i64 ((n.n.toNat:Nat):Int):=by congr 1;omega
   rw[hvn]at hrow6;have hPD:=G3.putDev (A6:=A6) (C6:=C6) (d:=n.n.toNat) hg6 (by have:=hrow6;rw[HDL.out]at this;exact this) (by have:=hw6;rw[HDL.out]at this;exact this) hdv;have H4:zM (λg=>E g∧g<w.heap.size) (w6.setCell ⟨cb,0,none⟩ (.slice A6 (DL+1) C6)) cb { V with vd:= .slice A6 (DL+1) C6 } { c with jour:=some c.devs.length,devs:=c.devs++ [n.n.toNat] }:=by rw[HDL.out];exact hPD.1
   have S4:je cb V (W3.drew.alloc (.cells #[.int .i64 n.n] 3)) { V with vd:= .slice A6 (DL+1) C6 } (w6.setCell ⟨cb,0,none⟩ (.slice A6 (DL+1) C6)):=by rw[HDL.out];exact hPD.2
   have hrn4:=(S4.inner (w.heap.size+1) (by have:=M3.lt;simp;omega) hrn).2;have S5:=(S3.trans (je.of (cb:=cb) (V:=V) hb4)).trans S4;have R5:=R6.other (p:=⟨cb,0,none⟩) (by show w.heap.size+1≠cb;omega) (.slice A6 (DL+1) C6);have M5:=M6.other (p:=⟨cb,0,none⟩) (by show w.heap.size+2≠cb;omega) (.slice A6 (DL+1) C6);clear hPD S4;generalize w6.setCell ⟨cb,0,none⟩ (.slice A6 (DL+1) C6)=W5 at *;have m0:=M5.cell 0;have m1:=M5.cell 1;have m2:=M5.cell 2;simp only[jg,jd,jf]at m0 m1 m2;have r0:=R5.cell 0;have r1:=R5.cell 1;have r2:=R5.cell 2;simp only[jg,jd,jf]at r0 r1 r2;have g0:=R5.free 0;have g1:=R5.free 1;have g2:=R5.free 2;have rl:=R5.lt;have mlt:=M5.lt;clear q6 f6 hS6 hS2 hHeld cb6h M6 R6 N6 hrow6 hr6 hg6 hw6 G3 c0 n2 hb4
   go_wp2
   refine QT rfl rfl (R5.set3 _ _ _) rfl ?_;have S6:=S5.set3 (g:=w.heap.size+1) (by omega) (.string (bs n.op)) (.int .i64 (CN:Nat)) (.slice none 0 0);have H6:=H4.other3 (w.heap.size+1) hrn4 (λe=>absurd e.2 (Nat.not_lt.2 (Nat.le_add_right _ _))) (.string (bs n.op)) (.int .i64 (CN:Nat)) (.slice none 0 0);refine⟨S6.only,?_⟩;rw[HR.out];exact⟨.slice none 0 0,_,by rw[←HCN.out];rfl,kV rfl,H6.mono (λg _ _ he=> .inl he.1),S6⟩
 ·rw[if_pos h12]at hR
  have HR:=zz hR;have hno:=qO 134 n.a W1;rcases(by omega:¬256≤n.n∨(256≤n.n∧¬n.n≤2048))with k1|⟨k1,k2⟩
  all_goals
   clear h12 hR ho c1 nc3;unfold zR;go_enter Tryz.func88,Tryz.ntmps88
   go_wp2_with (first
    |((go_at_call 86)
      (first |rw[←HW.out]|skip)
      refine hno.mono ?_;rintro e w3 ⟨rfl,hw3⟩;(obtain rfl:W1=w3:=hw3.symm)))
   exact⟨rfl,S1.only,by rw[HR.out];rfl⟩
end
end Go.Proofs.YtebcfkigbbolaaaGreatDoor
