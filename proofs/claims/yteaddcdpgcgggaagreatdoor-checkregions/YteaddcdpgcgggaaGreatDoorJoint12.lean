import Derived.Test.YteaddcdpgcgggaaGreatDoorJoint11
import Derived.Test.YteaddcdpgcgggaaGreatDoorJoint01
import Derived.Test.YteaddcdpgcgggaaGreatDoorJoint08
namespace Go.Proofs.YteaddcdpgcgggaaGreatDoor
set_option linter.unusedVariables false
set_option maxRecDepth 100000
set_option maxHeartbeats 40000000
section
open Go.ChangeShapes Go.WideShapes Go.ChangeAt Go.RowKit Go.MapKept
theorem Hn{ns:vJ}{d:Nat}{ps p1:List Pt}{n:Nd}{ks:List Nat}(hne:n.op≠vK)(h:jz (jb ns d) ps (jR n)= .ok (ks,p1)):jb ns (d+1) ps n=if 64≤p1.length then .error (137,n.a)else match jD ns p1 n ks with | .error e=> .error e| .ok p=> .ok (p1.length,p1++ [p]):=by
 show(if n.op=vK then _ else _)=_;rw[if_neg hne,h];rfl
theorem FV{ns:vJ}{d:Nat}{ps:List Pt}{n:Nd}{e:Er}(hne:n.op≠vK)(h:jz (jb ns d) ps (jR n)= .error e):jb ns (d+1) ps n= .error e:=by
 show(if n.op=vK then _ else _)=_;rw[if_neg hne,h]
theorem zaC{w0:World}{cb d:Nat}(ih:dn cb w0 d){E:Nat→Prop}{w:World}{V:CV}{c:Ck}(h:qq E w cb V c)(n:Nd)(A:Option Addr)(C:Nat)(hr:jZ w0 n A C)(hcb:w0.heap.size≤cb-1)(hb0:Below w0.heap.size w0 w)(hne:n.op≠vK)(hs:ExS n)(hx:∀x ∈ jR n,gB d x)(hn:yH c.names c.parts)(hby:∀x ∈ c.names,x.2.bytes.length≤1000):
 Calls Tryz.prog 82 #[.pointer (some ⟨cb,0,none⟩),.agg (qD n (.slice A n.l.length C))] w (zbO E w cb V c (jb c.names (d+1) c.parts n)):=by
 have f0:(n.op== [117,115,101])=false:=by rw[beq_eq_false_iff_ne];exact hne
 have hot:=zp n.op
 obtain⟨W1,hW1⟩:∃W1,W1=w.alloc (.cells #[.string (bs n.op),.string (bs n.s),.int .i64 n.n,.int .i64 n.a,.slice A n.l.length C] 24):=⟨_,rfl⟩
 have hb1:Below w.heap.size w W1:=by rw[hW1];exact zl w _
 have N1:zm W1 w.heap.size 24 #[.string (bs n.op),.string (bs n.s),.int .i64 n.n,.int .i64 n.a,.slice A n.l.length C]:=by rw[hW1];exact zm.new w _ _
 have hsz1:W1.heap.size=w.heap.size+1:=by rw[hW1];simp
 have HZ1:=ze hsz1;have h1:qq E W1 cb V c:=h.keep hb1
 have hnb:∀V' wz,jX cb V W1 V' wz→¬V'.own cb w.heap.size:=λV' wz s ho=>by
  rcases s.new _ ho with q|q
  ·exact Nat.lt_irrefl _ (h.low q).2
  ·omega
 have HNB:=ze hnb;have HW:=ze hW1;have hlen:=hr.len;have HER:=ze (λe=>FV (ns:=c.names) (d:=d) (ps:=c.parts) (e:=e) hne);have HMK:=ze (λks p1=>Hn (ns:=c.names) (d:=d) (ps:=c.parts) (p1:=p1) (ks:=ks) hne);have HIH:=ze ih;have HX:=ze hx;have HBY:=ze hby
 obtain⟨L,hL⟩:∃L,L=n.l.length:=⟨_,rfl⟩
 have HL:=ze hL;rw[←hL]at HW N1 hlen ⊢
 have h0:Ul E W1 W1 cb V V c d n.l 0 (.slice none 0 0) [] c.parts:=⟨rfl,⟨rfl,.inl ⟨rfl,rfl⟩⟩,(λg e=>by cases e),h1.mono (λk _ _ he=>⟨.inl he,λe=>by cases e⟩),jX.refl _ _ _,hn⟩
 clear hW1 hsz1 hnb ih hx hby hL h1;unfold qD;go_enter Tryz.func82,Tryz.ntmps82;have nn0:=N1.cell 0;have nn4:=N1.cell 4;have nl1:=N1.lt;rw[HW.out]at nn0 nn4 nl1
 go_wp2
 rw[←HW.out]
 go_loopw [5,20] (λz5 z20 wr=>∃(i:Nat) (V':CV) (ks:List Nat) (ps:List Pt),z20= .int .i64 (i:Nat)∧i≤L∧Ul E W1 wr cb V V' c d n.l i z5 ks ps∧zm wr w.heap.size 24 #[.string (bs n.op),.string (bs n.s),.int .i64 n.n,.int .i64 n.a,.slice A L C]) (λ_ z _=>L-(intOf z).toNat)
 case atStart=>exact⟨0,V,[],c.parts,rfl,Nat.zero_le _,h0,N1⟩
 case round =>
  obtain⟨i,V2,ks,ps,rfl,hi,K,NB⟩:=hrel;by_cases hlt:i<L
  ·have hil:i<n.l.length:=by rw[←HL.out];exact hlt
   have hBr:Below (cb-1) W1 wr:=K.stp.only.below (by have:=h.has.lt;rw[HZ1.out];omega) (λk hk=>by have:=(h.low hk).1;omega);have hB0r:Below w0.heap.size w0 wr:=(hb0.trans (hb1.mono hb0.size)).trans (hBr.mono hcb);obtain⟨g,off,An,Cn,eA,hg,hat,hrn⟩:=Q2.get (⟨hr.rd,hB0r⟩:Q2 w0 wr n.l A C) hil;subst eA;have hint:(i:Int)<(L:Int):=by omega
   have HKS:=ze (λo k p5 V5 w5 w6 A6 C6=>K.step (o:=o) (k:=k) (p5:=p5) (V5:=V5) (w5:=w5) (w6:=w6) (A6:=A6) (C6:=C6) hil);have HKP:=ze (λo=>K.pass (o:=o) hil);have HMm:=ze (show n.l[i] ∈ n.l from List.getElem_mem hil)
   have HKE:=ze (λ(e:Er) (q:jz (jb c.names d) c.parts ((n.l.take (i+1)).filter λx=> !(x.op==vu||x.op==jM))= .error e)=>HER.out e (by
    have:=Fu (jb c.names d) _ ((n.l.drop (i+1)).filter λx=> !(x.op==vu||x.op==jM)) c.parts e q;rw[←List.filter_append,List.take_append_drop]at this
    exact this))
   have HSN:=ze (ZG n.l hil);generalize n.l[i]=m at *;have hmt:=zp m.op;cases hb:(m.op==vu||m.op==jM)with
   |true =>
    have HBm:=ze hb;by_cases hq:m.op=vu
    ·have f1:(m.op== [110,117,109])=true:=by rw[hq];decide
     clear hb hq K
     go_wp2_with (first
      |((refine zi 22 rfl ?_)
        (refine zd (some 22) _ rfl (by rfl) (zu _ _ rfl g off i L C rfl rfl hlt wr) ?_))
      |((refine zi 23 rfl ?_)
        refine zd (some 23) _ rfl (by rfl) (zC _ rfl g (off+i*5) rfl wr hat) ?_;(unfold zO)))
     go_roundw
     case rel=>exact⟨i+1,V2,ks,ps,by go_num,by omega,HKP.out _ HBm.out,NB.alloc _⟩
     case measure=>simp[intOf];omega
    ·have f1:(m.op== [110,117,109])=false:=by rw[beq_eq_false_iff_ne];exact hq
     have f2:(m.op== [110,97,109,101])=true:=by
      have hq':(m.op==vu)=false:=f1;rw[hq',Bool.false_or]at hb;exact hb
     clear hb hq K
     go_wp2_with (first
      |((refine zi 22 rfl ?_)
        (refine zd (some 22) _ rfl (by rfl) (zu _ _ rfl g off i L C rfl rfl hlt wr) ?_))
      |((refine zi 23 rfl ?_)
        refine zd (some 23) _ rfl (by rfl) (zC _ rfl g (off+i*5) rfl wr hat) ?_;(unfold zO)))
     go_roundw
     case rel=>exact⟨i+1,V2,ks,ps,by go_num,by omega,HKP.out _ HBm.out,NB.alloc _⟩
     case measure=>simp[intOf];omega
   |false =>
    have HBm:=ze hb;simp only[Bool.or_eq_false_iff]at hb;have f1:(m.op== [110,117,109])=false:=hb.1;have f2:(m.op== [110,97,109,101])=false:=hb.2;have hmk:m ∈ jR n:=List.mem_filter.2 ⟨HMm.out,by simpa using HBm.out⟩;have hcx:=HIH.out _ (wr.alloc (.cells #[.string (bs m.op),.string (bs m.s),.int .i64 m.n,.int .i64 m.a,.slice An m.l.length Cn] 24)) V2 { c with parts:=ps } m An Cn (K.ck.alloc _) hrn hcb (hB0r.trans ((zl wr _).mono hB0r.size)) (HX.out m hmk) K.nms HBY.out;have HNM:=K.nms;have hexr:=(HX.out m hmk).ok;have hrow:=K.row;have hks:=K.stp;cases hR:jb c.names d ps m with
    |error er =>
     obtain⟨ec,ek⟩:=er
     have hE:jz (jb c.names d) c.parts ((n.l.take (i+1)).filter λx=> !(x.op==vu||x.op==jM))= .error (ec,ek):=by
      rw[HSN.out,HBm.out];simp only[Bool.false_eq_true,if_false];rw[QW,K.is];simp only;rw[hR]
     have HF:=ze (HKE.out _ hE);simp only[hR]at hcx;unfold qD at hcx;clear hb K hE hR HNM hexr hrow hmk
     go_wp2_with (first
      |((refine zi 22 rfl ?_)
        (refine zd (some 22) _ rfl (by rfl) (zu _ _ rfl g off i L C rfl rfl hlt wr) ?_))
      |((refine zi 23 rfl ?_)
        refine zd (some 23) _ rfl (by rfl) (zC _ rfl g (off+i*5) rfl wr hat) ?_;(unfold zO))
      |((go_at_call 82)
        refine hcx.mono ?_;(rintro e w5 ⟨ho5,rfl⟩)))
     have hst:jX cb V W1 V2 w5:=(hks.trans (jX.of (zl wr _))).trans ⟨ho5,λ_ q=> .inl q⟩;exact⟨rfl,(vZ.of hb1).trans hst.only,by rw[HF.out]⟩
    |ok r =>
     obtain⟨k,p5⟩:=r;have HRk:=ze hR
     have hn5:yH c.names p5:=by
      obtain⟨rs,e,_,_⟩:=Qi d HNM hexr hR;rw[e];exact HNM.more rs
     have HN5:=ze hn5;simp only[hR]at hcx;unfold qD at hcx
     have hkl:ks.length≤100000:=by
      have q:=fy _ _ _ _ _ K.is;have q2:((n.l.take i).filter λx=> !(x.op==vu||x.op==jM)).length≤(n.l.take i).length:=List.length_filter_le _ _;have q3:(n.l.take i).length≤n.l.length:=by simp;omega
      have q4:=hs.few;omega
     have HNBs:=ze (λV5 w5 (s5:jX cb V2 (wr.alloc (.cells #[.string (bs m.op),.string (bs m.s),.int .i64 m.n,.int .i64 m.a,.slice An m.l.length Cn] 24)) V5 w5)=>(s5.inner w.heap.size (by have:=NB.lt;simp;omega) (HNB.out V2 wr hks)).1)
     have HVL:=ze (λV5 w5 (s5:jX cb V2 (wr.alloc (.cells #[.string (bs m.op),.string (bs m.s),.int .i64 m.n,.int .i64 m.a,.slice An m.l.length Cn] 24)) V5 w5)=>zI (w':=w5.alloc (.cells #[.int .i64 (k:Nat)] 3)) hrow (λg' ob e ho=>by
      have hlt':g'<wr.heap.size:=(qR hrow e).1;have q1:=(s5.inner g' (by simp;omega) (K.free g' e)).1;have q2:=Below.heap_alloc wr (.cells #[.string (bs m.op),.string (bs m.s),.int .i64 m.n,.int .i64 m.a,.slice An m.l.length Cn] 24) g' hlt';have q3:=Below.heap_alloc w5 (.cells #[.int .i64 (k:Nat)] 3) g' (by have:=s5.only.size;simp at this;omega)
      exact q3.trans (q1.trans (q2.trans ho))))
     have HVG:=ze (λg' e=>(qR hrow (g:=g') e).2);clear hb K hR HNM hexr hmk hn5
     go_wp2_with (first
      |((refine zi 22 rfl ?_)
        (refine zd (some 22) _ rfl (by rfl) (zu _ _ rfl g off i L C rfl rfl hlt wr) ?_))
      |((refine zi 23 rfl ?_)
        refine zd (some 23) _ rfl (by rfl) (zC _ rfl g (off+i*5) rfl wr hat) ?_;(unfold zO))
      |((go_at_call 82)
        refine hcx.mono ?_;rintro e w5 ⟨ho5,rfl,V5,H5,S5⟩;(obtain⟨A6,C6,w6,hr6,hrow6,hg6,hw6⟩:=zX J2 (ty:=29) (w5.alloc (.cells #[.int .i64 (k:Nat)] 3)) W1.heap.size ks.length _ _ (HVL.out V5 w5 S5) (by have q1:=S5.only.size;have q2:=hks.only.size;simp at q1 ⊢;omega) (by omega) [.int .i64 (k:Nat)] rfl (by intro u hu;simp at hu;subst hu;rfl) w5.heap.size (zm.new_at rfl)))
      |((refine zi 37 rfl ?_)
        (refine jP (some 37) (.slice A6 (ks.length+1) C6) w6 rfl (by rfl) (zW _ _ rfl rfl rfl hr6) ?_)))
     go_roundw
     case rel=>exact⟨i+1,V5,ks++ [k],p5,by go_num,by omega,HKS.out _ k p5 V5 w5 w6 A6 C6 HBm.out HRk.out H5 S5 HN5.out hrow6 hg6 hw6,(hg6.block w.heap.size (by have q1:=S5.only.size;have q3:=NB.lt;simp at q1 ⊢;omega) (λe=>by have:=HVG.out _ e.symm;rw[HZ1.out]at this;omega)).trans ((Below.heap_alloc w5 _ _ (by have q1:=S5.only.size;have q3:=NB.lt;simp at q1;omega)).trans ((HNBs.out V5 w5 S5).trans ((Below.heap_alloc wr _ _ NB.lt).trans NB)))⟩
     case measure=>simp[intOf];omega
  ·obtain rfl:i=L:=by omega
   have hkis:jz (jb c.names d) c.parts (jR n)= .ok (ks,ps):=by
    have:=K.is;rw[HL.out,List.take_length]at this;exact this
   have HM0:=ze (HMK.out ks ps hkis)
   obtain⟨rs,eps,hkk,-,hlenk⟩:=Yj (jR n) (λqs x hx' k p1 hr'=>by
    obtain⟨rs,e,q1,q2⟩:=Qi d (hn.more qs) (HX.out x hx').ok hr'
    exact⟨rs,e,q1,q2⟩) hkis
   have HLn:=ze hlenk;have hk0:0<ks.length:=by rw[hlenk];exact hs.shape.pos
   clear eps hlenk;have hp0:0<ps.length:=by have:=(hkk _ (List.getElem_mem hk0)).1;omega
   obtain⟨g,op,Cp,evp,hCp1,hCp2,hg,hSz⟩:=K.ck.vp hp0;have c2r:=K.ck.has.cell 2;simp only[List.getElem?_toArray,List.getElem?_cons_zero,List.getElem?_cons_succ,evp]at c2r;obtain⟨bk,Ck,ev,hCk1,hCk2,hbk,hbk2,hcells⟩:=xl K.row hk0;have nc0:=NB.cell 0;have nc1:=NB.cell 1;have nc2:=NB.cell 2;have nc3:=NB.cell 3;have nc4:=NB.cell 4;have nlt:=NB.lt;simp only[qH,qG,qI]at nc0 nc1 nc2 nc3 nc4;have hBr:Below (cb-1) W1 wr:=K.stp.only.below (by have:=h.has.lt;rw[HZ1.out];omega) (λk hk=>by have:=(h.low hk).1;omega);have hB0r:Below w0.heap.size w0 wr:=(hb0.trans (hb1.mono hb0.size)).trans (hBr.mono hcb);have hKck:=K.ck;have hKst:=K.stp;have hKfr:=K.free;have hKnm:=K.nms
   obtain⟨NP,hNP⟩:∃NP,NP=ps.length:=⟨_,rfl⟩
   have HNP:=ze hNP;have c2r:wr.cell? ⟨cb,2,none⟩=some (.slice (some ⟨g,op,none⟩) NP Cp):=by rw[hNP];exact c2r
   subst ev;by_cases h64:NP<64
   ·have hRR:=HM0.out.trans (if_neg (by rw[←hNP];omega))
    have HRR:=ze hRR;have h64:decide (NP<64)=true:=decide_eq_true h64;have HCE:=ze hcells;clear hRR K hcells evp hNP
    go_wp2
    refine wp_region_held_drew (S:=λwz=>Below wr.heap.size wr wz) (by kernel_rfl) ((Below.refl _ wr).drew) (λhHeld=>?_);refine zw 0 (some 39) (.pointer (some ⟨cb,0,none⟩)) hHeld ?_;simp only[Act.put,zh,zf,zg];refine zw 1 (some 40) (.pointer (some ⟨cb,0,none⟩)) hHeld ?_;simp only[Act.put,zh,zf,zg];refine zw 2 (some 41) (.pointer (some ⟨cb,0,none⟩)) hHeld ?_;simp only[Act.put,zh,zf,zg];refine zw 3 (some 42) (.pointer (some ⟨cb,2,none⟩)) hHeld ?_;simp only[Act.put,zh,zf,zg];refine zD 4 (some 43) (.slice (some ⟨g,op,none⟩) NP Cp) rfl rfl (λwz hz=>by have z0:=za hz c2r;unfold execOp;go_simp) hHeld ?_;simp only[Act.put,zh,zf,zg];refine zD 5 (some 44) (.int .i64 (NP:Nat)) rfl rfl (λwz _=>yF 30 65 Tryz.underlying30 _ rfl _ NP Cp rfl wz) hHeld ?_;simp only[Act.put,zh,zf,zg];refine zD 6 (some 45) (.bool true) rfl rfl (λwz _=>Jl _ _ rfl NP 64 rfl rfl true h64 wz) hHeld ?_;simp only[Act.put,zh,zf,zg];refine zw 7 (some 46) (.pointer (some ⟨w.heap.size,3,none⟩)) hHeld ?_;simp only[Act.put,zh,zf,zg];refine zD 8 (some 47) (.int .i64 n.a) rfl rfl (λwz hz=>by have z0:=za hz nc3;unfold execOp;go_simp) hHeld ?_;simp only[Act.put,zh,zf,zg];refine jn 9 (some 48) 62 #[.bool true,.int .i64 137,.int .i64 n.a] (by kernel_rfl) rfl rfl (by rfl) (by kernel_rfl) (qL 137 n.a wr.drew) ?_;rintro e w5 ⟨rfl,rfl⟩;refine .inl ⟨_,rfl,hHeld,?_⟩;simp only[Act.put,zh,zf,zg];refine wpAnyH_done (by kernel_rfl) ?_ _;have hbz:Below wr.heap.size wr wr.drew:=(Below.refl _ wr).drew
    have hI:PIn (λg=>(E g∨W1.heap.size≤g)∧(Value.slice (some ⟨bk,0,none⟩) ks.length Ck).ownBlock≠some g) wr.drew cb V2 { c with parts:=ps } ks bk 0 Ck:=⟨hKck.keep hbz,hbk,λj hj=>by
     rw[Nat.zero_add];have q:=HCE.out j (by omega);rw[List.getElem?_map,List.getElem?_eq_getElem hj]at q
     exact za hbz q,hk0,hCk1,hCk2,hkk⟩
    have hpc:=zbn hI n A C (hr.grow (hB0r.trans (hbz.mono hB0r.size))) hs HLn.out hKnm HBY.out;rw[←HL.out]at hpc;unfold qD at hpc;have NB3:=zt NB;have hKck3:=hKck.keep hbz;have hKst3:jX cb V W1 V2 wr.drew:=hKst.trans (jX.of hbz);have hbk3:bk<wr.drew.heap.size:=hbk;replace nc0:=za hbz nc0;replace nc1:=za hbz nc1;replace nc2:=za hbz nc2;replace nc3:=za hbz nc3;replace nc4:=za hbz nc4;have nlt3:w.heap.size<wr.drew.heap.size:=nlt;have HC3:=ze hI.cells;clear hbz c2r hHeld hB0r hBr hKck hKst hI NB nlt hSz hg;generalize wr.drew=W3 at *;cases hP:jD c.names ps n ks with
    |error er =>
     obtain⟨ec,ek⟩:=er;have HRR:=ze (HRR.out.trans (by rw[hP]));dsimp only at hpc;rw[hP]at hpc;simp only[GJ]at hpc;clear hP hkis hkk
     go_wp2_with (first
      |((go_at_call 97)
        refine hpc.mono ?_;(rintro e w5 ⟨hb5,rfl⟩)))
     exact⟨rfl,((vZ.of hb1).trans hKst3.only).trans (.of hb5),by rw[HRR.out]⟩
    |ok p =>
     obtain⟨hpok,hpk⟩:=xD hKnm hkk (by rw[HLn.out];exact hs.shape) hP;have HRR:=ze (HRR.out.trans (by rw[hP]));dsimp only at hpc;rw[hP]at hpc;simp only[GJ]at hpc;obtain⟨pkind,psize,pkids,pdev,pfirst,pchunk,pkey,proot⟩:=p;have hpk':ks=pkids:=hpk.symm;subst hpk'
     have HAD:=ze (λ(w5:World) (hb5:Below W3.heap.size W3 w5) (A2:Option Addr) (C2:Nat) (A3:Option Addr) (C3:Nat) (a1:pkey.length≤C2) (a2:C2≤maxLen) (a3:jK w5 (λg=>W3.heap.size≤g) A2 pkey) (b1:proot.length≤C3) (b2:C3≤maxLen) (b3:jK w5 (λg=>W3.heap.size≤g) A3 proot) =>
      have hb6:Below W3.heap.size W3 (w5.alloc (.cells #[.int .i64 (pkind:Nat),.int .i64 (psize:Nat),.slice (some ⟨bk,0,none⟩) ks.length Ck,.int .i64 (pdev:Nat),.int .i64 (pfirst:Nat),.int .i64 (pchunk:Nat),.slice A2 pkey.length C2,.slice A3 proot.length C3] 65)):=hb5.alloc hb5.size _;have hk6:∀k,k<w5.heap.size→W3.heap.size≤k→(w5.alloc (.cells #[.int .i64 (pkind:Nat),.int .i64 (psize:Nat),.slice (some ⟨bk,0,none⟩) ks.length Ck,.int .i64 (pdev:Nat),.int .i64 (pfirst:Nat),.int .i64 (pchunk:Nat),.slice A2 pkey.length C2,.slice A3 proot.length C3] 65)).heap[k]?=w5.heap[k]?∧(¬V2.own cb k∧(E k∨W1.heap.size≤k)):=λk hk hP=>⟨Below.heap_alloc w5 _ k hk,λe=>by have:=(hKck3.low e).2;omega,.inr (Nat.le_trans hKst3.only.size hP)⟩
      zcL (E:=λg=>E g∨W1.heap.size≤g) ((hKck3.keep hb6).mono (λg _ _ he=>he.1)) ⟨pkind,psize,ks,pdev,pfirst,pchunk,pkey,proot⟩ (some ⟨bk,0,none⟩) Ck A2 C2 A3 C3
       ⟨⟨_,Ck,rfl,hCk1,hCk2,.inr ⟨bk,0,rfl,Nat.lt_of_lt_of_le hbk3 hb6.size,⟨hKfr bk rfl,.inr hbk2⟩,λj hj=>za hb6 (HC3.out j hj)⟩⟩,⟨A2,C2,rfl,a1,a2,a3.keep (by simp) hk6⟩,⟨A3,C3,rfl,b1,b2,b3.keep (by simp) hk6⟩⟩
       (λk hk=>(hkk k hk).1) (by have:=hpok.four;show ks.length≤1000;have h4:ks.length≤4:=this;omega) (λe=>(hpok.snap e).1) (by show ps.length≤90000;rw[←HNP.out];have:=of_decide_eq_true h64;omega))
     clear hP hkis hkk hpok hpk
     go_wp2_with (first
      |((go_at_call 97)
        refine hpc.mono ?_;rintro e w5 ⟨hb5,⟨u1,u2,u3⟩,rfl,hu5⟩;obtain⟨A2,C2,e2,c21,c22,by2⟩:=hu5.key;obtain⟨A3,C3,e3,c31,c32,by3⟩:=hu5.root;obtain⟨A1,C1,e1,-,-,-⟩:=hu5.kids;dsimp only at e1 e2 e3 c21 c31;subst e1 e2 e3;have hadd:=HAD.out w5 hb5 A2 C2 A3 C3 c21 c22 by2 c31 c32 by3;(unfold Q9))
      |((go_at_call 60)
        refine hadd.mono ?_;(rintro e w7 ⟨rfl,V7,H7,S7⟩)))
     go_ret
     have S07:=(jX.of (cb:=cb) (V:=V) hb1).trans (hKst3.trans ((jX.of (cb:=cb) (V:=V2) hb5).trans ((jX.of (cb:=cb) (V:=V2) (zl w5 _)).trans S7)));refine⟨S07.only,?_⟩;rw[HRR.out]
     exact⟨rfl,V7,H7.mono (λg _ _ he=>by
      rcases he with he|he
      ·exact .inl he
      ·exact .inr (Nat.le_trans hb1.size he)),S07⟩
   ·have hRR:=HM0.out.trans (if_pos (by rw[←hNP];omega))
    have HRR:=ze hRR;have h64:decide (NP<64)=false:=decide_eq_false h64;clear hRR K hcells evp hNP
    go_wp2
    refine wp_region_held_drew (S:=λwz=>Below wr.heap.size wr wz) (by kernel_rfl) ((Below.refl _ wr).drew) (λhHeld=>?_);refine zw 0 (some 39) (.pointer (some ⟨cb,0,none⟩)) hHeld ?_;simp only[Act.put,zh,zf,zg];refine zw 1 (some 40) (.pointer (some ⟨cb,0,none⟩)) hHeld ?_;simp only[Act.put,zh,zf,zg];refine zw 2 (some 41) (.pointer (some ⟨cb,0,none⟩)) hHeld ?_;simp only[Act.put,zh,zf,zg];refine zw 3 (some 42) (.pointer (some ⟨cb,2,none⟩)) hHeld ?_;simp only[Act.put,zh,zf,zg];refine zD 4 (some 43) (.slice (some ⟨g,op,none⟩) NP Cp) rfl rfl (λwz hz=>by have z0:=za hz c2r;unfold execOp;go_simp) hHeld ?_;simp only[Act.put,zh,zf,zg];refine zD 5 (some 44) (.int .i64 (NP:Nat)) rfl rfl (λwz _=>yF 30 65 Tryz.underlying30 _ rfl _ NP Cp rfl wz) hHeld ?_;simp only[Act.put,zh,zf,zg];refine zD 6 (some 45) (.bool false) rfl rfl (λwz _=>Jl _ _ rfl NP 64 rfl rfl false h64 wz) hHeld ?_;simp only[Act.put,zh,zf,zg];refine zw 7 (some 46) (.pointer (some ⟨w.heap.size,3,none⟩)) hHeld ?_;simp only[Act.put,zh,zf,zg];refine zD 8 (some 47) (.int .i64 n.a) rfl rfl (λwz hz=>by have z0:=za hz nc3;unfold execOp;go_simp) hHeld ?_;simp only[Act.put,zh,zf,zg];refine jn 9 (some 48) 62 #[.bool false,.int .i64 137,.int .i64 n.a] (by kernel_rfl) rfl rfl (by rfl) (by kernel_rfl) (jA 137 n.a wr.drew) ?_;rintro e w5 ⟨rfl,rfl⟩;refine .inr ⟨_,rfl,?_⟩;exact⟨rfl,((vZ.of hb1).trans hKst.only).drew,by rw[HRR.out];rfl⟩
theorem zbf{w0:World}{cb:Nat}(d:Nat):dn cb w0 d:=by
 induction d with
 |zero=>intro E w V c n A C _ _ _ _ hx;cases hx
 |succ d ih =>
  intro E w V c n A C h hr hcb hb0 hx hn hby;cases hx with
  |use _ _ e=>exact DG h n A n.l.length C d e
  |mk _ _ e hs hk=>exact zaC ih h n A C hr hcb hb0 e hs hk hn hby
end
section
open Go.ChangeShapes Go.WideShapes Go.ChangeAt Go.RowKit Go.MapKept
variable {E:Nat→Prop}
theorem zb7{w0 w:World}{cb:Nat}{V:CV}{c:Ck}(h:qq E w cb V c)(n:Nd)(A:Option Addr)(C:Nat)(hr:jZ w0 n A C)(hcb:w0.heap.size≤cb-1)(hb0:Below w0.heap.size w0 w)(hx:YA n)(he:n.op≠qj)(hnm:yH c.names c.parts)(hby:∀x ∈ c.names,x.2.bytes.length≤1000)(hdv:c.devs.length≤90000):
 Calls Tryz.prog 64 #[.pointer (some ⟨cb,0,none⟩),.agg (qD n (.slice A n.l.length C))] w (Y2 E w cb V (j9 c n)):=by
 rcases hx.word with ho|ho|ho|ho|ho|ho
 ·exact Ug h n A n.l.length C ho hdv
 ·exact X5 h n A n.l.length C ho hdv
 ·obtain⟨hl,hf⟩:=hx.key (.inl ho)
  obtain⟨gn,on,Au,Cu,hA,hgn,hat⟩:=jg hr (by omega);exact dQ h n A n.l.length C hl gn on hA (Nat.lt_of_lt_of_le hgn hb0.size) (zF n.l 0).s rfl ((hb0.cell (p:=⟨gn,on+0*5+1,none⟩) hgn).trans ((hat 0 (by omega)).1 1 (by decide))) hf ho
 ·obtain⟨hl,hf⟩:=hx.key (.inr ho)
  obtain⟨gn,on,Au,Cu,hA,hgn,hat⟩:=jg hr (by omega);exact FO h n A n.l.length C hl gn on hA (Nat.lt_of_lt_of_le hgn hb0.size) (zF n.l 0).s rfl ((hb0.cell (p:=⟨gn,on+0*5+1,none⟩) hgn).trans ((hat 0 (by omega)).1 1 (by decide))) hf ho
 ·obtain⟨hl,hex⟩:=hx.vol ho
  obtain⟨gn,on,Au,Cu,hA,hgn,hat⟩:=jg hr (by omega);exact UQ h n A n.l.length C hl w0 gn on hA (Nat.lt_of_lt_of_le hgn hb0.size) (zF n.l 0) (Au 0) (Cu 0) rfl (λj hj=>(hb0.cell (p:=⟨gn,on+0*5+j,none⟩) hgn).trans ((hat 0 (by omega)).1 j hj)) (hat 0 (by omega)).2 hcb hb0 hex (zbf 12) hnm hby ho
 ·exact absurd ho he
theorem kZ{c c1:Ck}{n:Nd}{m:Mn}(h:j9 c n= .ok (c1,m)):c1.names=c.names:=by
 unfold j9 at h
 repeat' split at h
 all_goals first
  |(cases h;done)
  |(cases h;rfl)
theorem kB{o:Oper}{a:Act}(x:Operand)(ho:o.op= .load 111 x)(g:Nat)(hx:a.eval x= .pointer (some ⟨g,0,none⟩)){x0 x1 x2:Value}(w:World)(h:zm w g 111 #[x0,x1,x2]):(execOp a.eval o).run Tryz.prog w= .ok (.value (.agg #[x0,x1,x2])) w:=by
 have q0:=h.cell 0;have q1:=h.cell 1;have q2:=h.cell 2;simp only[qH,qG,qI]at q0 q1 q2;unfold execOp;simp only[ho,hx];go_simp
end
section
open Go.ChangeShapes Go.WideShapes Go.ChangeAt Go.RowKit Go.MapKept
variable {E:Nat→Prop}
theorem FZ{w0 w:World}{cb:Nat}{V:CV}{c:Ck}(h:qq E w cb V c)(n:Nd)(A:Option Addr)(C:Nat)(hr:jZ w0 n A C)(hcb:w0.heap.size≤cb-1)(hb0:Below w0.heap.size w0 w)(hx:YA n)(hnm:yH c.names c.parts)(hby:∀x ∈ c.names,x.2.bytes.length≤1000)(hdv:c.devs.length≤90000)(hnl:c.names.length≤90000)(ho:n.op=qj):Calls Tryz.prog 36 #[.pointer (some ⟨cb,0,none⟩),.agg (qD n (.slice A n.l.length C))] w (Fi E w cb V (jm c n)):=by
 obtain⟨L,hL⟩:∃L,L=n.l.length:=⟨_,rfl⟩
 have HL:=ze hL
 obtain⟨W1,hW1⟩:∃W1,W1=w.alloc (.cells #[.string (bs n.op),.string (bs n.s),.int .i64 n.n,.int .i64 n.a,.slice A L C] 24):=⟨_,rfl⟩
 have hb1:Below w.heap.size w W1:=by rw[hW1];exact zl w _
 have N1:zm W1 w.heap.size 24 #[.string (bs n.op),.string (bs n.s),.int .i64 n.n,.int .i64 n.a,.slice A L C]:=by rw[hW1];exact zm.new w _ _
 have h1:qq E W1 cb V c:=h.keep hb1;have HW:=ze hW1;have lcb:=h.has.lt;have hot:=zp n.op;have f0:(n.op== [101,120,112,111,114,116])=true:=by rw[ho];decide
 have HR:=ze (show jm c n=yA c n by unfold jm;rw[if_pos ho]);have hex:=Ho h1 n A L C hnm;rw[←hL];clear hW1 hL ho;unfold qD at hex ⊢;rw[HW.out]at hex;go_enter Tryz.func36,Tryz.ntmps36;cases hR:yA c n with
 |error er =>
  obtain⟨ec,ek⟩:=er;rw[hR]at hex;have HR:=ze (HR.out.trans hR);clear hR
  go_wp2_with (first
   |((go_at_call 61)
     refine hex.mono ?_;(rintro e w5 ⟨ho5,rfl⟩)))
  rw[←HW.out]at ho5;exact⟨rfl,(vZ.of hb1).trans ho5,by rw[HR.out]⟩
 |ok c' =>
  rw[hR]at hex;have HR:=ze (HR.out.trans hR);clear hR
  go_wp2_with (first
   |((go_at_call 61)
     refine hex.mono ?_;(rintro e w5 ⟨ho5,rfl,V5,H5,S5⟩)))
  rw[←HW.out]at S5 H5;have S05:=(jX.of (cb:=cb) (V:=V) hb1).trans S5
  go_end0
  refine⟨S05.only,?_⟩;rw[HR.out]
  exact⟨rfl,V5,H5.mono (λg _ _ he=>by
   rcases he with he|he
   ·exact .inl he
   ·exact .inr (Nat.le_trans hb1.size he)),S05⟩
theorem dN{w0 w:World}{cb:Nat}{V:CV}{c:Ck}(h:qq E w cb V c)(n:Nd)(A:Option Addr)(C:Nat)(hr:jZ w0 n A C)(hcb:w0.heap.size≤cb-1)(hb0:Below w0.heap.size w0 w)(hx:YA n)(hnm:yH c.names c.parts)(hby:∀x ∈ c.names,x.2.bytes.length≤1000)(hdv:c.devs.length≤90000)(hnl:c.names.length≤90000)(ho:n.op≠qj)(hlk:(lk c.names n.s).isSome=true):Calls Tryz.prog 36 #[.pointer (some ⟨cb,0,none⟩),.agg (qD n (.slice A n.l.length C))] w (Fi E w cb V (jm c n)):=by
 obtain⟨L,hL⟩:∃L,L=n.l.length:=⟨_,rfl⟩
 have HL:=ze hL
 obtain⟨W1,hW1⟩:∃W1,W1=w.alloc (.cells #[.string (bs n.op),.string (bs n.s),.int .i64 n.n,.int .i64 n.a,.slice A L C] 24):=⟨_,rfl⟩
 have hb1:Below w.heap.size w W1:=by rw[hW1];exact zl w _
 have N1:zm W1 w.heap.size 24 #[.string (bs n.op),.string (bs n.s),.int .i64 n.n,.int .i64 n.a,.slice A L C]:=by rw[hW1];exact zm.new w _ _
 have h1:qq E W1 cb V c:=h.keep hb1;have HW:=ze hW1;have lcb:=h.has.lt;have hot:=zp n.op;obtain⟨us,e1,hmb0,hin⟩:=h.nms;have hmb:=(hb1.block V.mb (Array.getElem?_eq_some_iff.1 hmb0).1).trans hmb0;have hun:=h1.uniq;have c5:=h1.has.cell 5;have nc1:=N1.cell 1;simp only[qH,qG,qI]at c5 nc1;have f0:(n.op== [101,120,112,111,114,116])=false:=by rw[beq_eq_false_iff_ne];exact ho
 have HR:=ze (show jm c n= .error (132,n.a) by unfold jm;rw[if_neg ho,if_pos hlk]);cases hk:lk c.names n.s with
 |none=>rw[hk]at hlk;cases hlk
 |some m =>
  obtain⟨i,hi,e2,e3⟩:∃i,∃hi:i<c.names.length,c.names[i].1=n.s∧c.names[i].2=m:=by
   rcases kf (ns:=c.names) (s:=n.s)with⟨q,_⟩|⟨i,hi,q1,q2,_⟩
   ·rw[hk]at q;cases q
   ·exact⟨i,hi,q1,by rw[hk]at q2;cases q2;rfl⟩
  obtain⟨Am,Cm,em,am,bm,hbyt⟩:=(hin i hi (by omega)).bytes
  have HU:Hid (lkV c.names us n.s= .agg #[.string (bs m.word),.int .i64 (m.node:Nat),.slice Am m.bytes.length Cm]):=by
   have:=ue e1 hun hi;rw[e2,em,e3]at this;exact this
  have HB:=ze hlk;rw[←hL];clear hk em hin hlk hW1 hL ho e2 e3;unfold qD;go_enter Tryz.func36,Tryz.ntmps36
  go_wp2
  rw[←HW.out];refine wp_region_held_drew (S:=λwz=>wz.cell? ⟨cb,5,none⟩=some (.map (some V.mb))∧wz.cell? ⟨w.heap.size,1,none⟩=some (.string (bs n.s))∧wz.heap[V.mb]?=some (.map (j5 c.names us).toArray c.names.length)∧Below W1.heap.size W1 wz) (by kernel_rfl) (⟨c5,nc1,hmb,(Below.refl _ W1).drew⟩) (λhHeld=>?_);refine zw 0 (some 14) (.pointer (some ⟨cb,0,none⟩)) hHeld ?_;simp only[Act.put,zh,zf,zg];refine zw 1 (some 15) (.pointer (some ⟨cb,0,none⟩)) hHeld ?_;simp only[Act.put,zh,zf,zg];refine zw 2 (some 16) (.pointer (some ⟨cb,5,none⟩)) hHeld ?_;simp only[Act.put,zh,zf,zg];refine zD 3 (some 17) (.map (some V.mb)) rfl rfl (λwz hz=>by obtain⟨z0,z1,z2,z3⟩:=hz;unfold execOp;go_simp) hHeld ?_;simp only[Act.put,zh,zf,zg];refine zw 4 (some 18) (.pointer (some ⟨w.heap.size,1,none⟩)) hHeld ?_;simp only[Act.put,zh,zf,zg];refine zD 5 (some 19) (.string (bs n.s)) rfl rfl (λwz hz=>by obtain⟨z0,z1,z2,z3⟩:=hz;unfold execOp;go_simp) hHeld ?_;simp only[Act.put,zh,zf,zg];refine zD 6 (some 20) (.tuple #[.agg #[.string (bs m.word),.int .i64 (m.node:Nat),.slice Am m.bytes.length Cm],.bool true]) rfl rfl (λwz hz=>(ZC _ _ rfl hz.2.2.1 e1 hun n.s rfl rfl).trans (by rw[HU.out,HB.out])) hHeld ?_;simp only[Act.put,zh,zf,zg];refine zw 7 (some 13) (.tuple #[.agg #[.string (bs m.word),.int .i64 (m.node:Nat),.slice Am m.bytes.length Cm],.bool true]) hHeld ?_;simp only[Act.put,zh,zf,zg];refine zw 8 (some 21) (.agg #[.string (bs m.word),.int .i64 (m.node:Nat),.slice Am m.bytes.length Cm]) hHeld ?_;simp only[Act.put,zh,zf,zg];refine zw 9 (some 22) (.bool true) hHeld ?_;simp only[Act.put,zh,zf,zg]
  have hH2:(W1.drew.alloc (.cells #[.string ⟨#[]⟩,.int .i64 0,.slice none 0 0] 111)).cell? ⟨cb,5,none⟩=some (.map (some V.mb))∧(W1.drew.alloc (.cells #[.string ⟨#[]⟩,.int .i64 0,.slice none 0 0] 111)).cell? ⟨w.heap.size,1,none⟩=some (.string (bs n.s))∧(W1.drew.alloc (.cells #[.string ⟨#[]⟩,.int .i64 0,.slice none 0 0] 111)).heap[V.mb]?=some (.map (j5 c.names us).toArray c.names.length)∧Below W1.heap.size W1 (W1.drew.alloc (.cells #[.string ⟨#[]⟩,.int .i64 0,.slice none 0 0] 111)):=⟨za (zl W1.drew _) hHeld.1,za (zl W1.drew _) hHeld.2.1,(Below.heap_alloc W1.drew _ V.mb (Array.getElem?_eq_some_iff.1 hmb).1).trans hHeld.2.2.1,hHeld.2.2.2.trans ((zl W1.drew _))⟩
  refine vz 10 (by kernel_rfl) (QC (some 4) (.pointer (some ⟨W1.heap.size,0,none⟩)) (W1.drew.alloc (.cells #[.string ⟨#[]⟩,.int .i64 0,.slice none 0 0] 111)) rfl rfl (by rfl) (by kernel_rfl) ⟨hH2,?_⟩);simp only[Act.put,zh,zf,zg];have hM2:zm (W1.drew.alloc (.cells #[.string ⟨#[]⟩,.int .i64 0,.slice none 0 0] 111)) W1.heap.size 111 #[.string ⟨#[]⟩,.int .i64 0,.slice none 0 0]:=zm.new_at rfl;have hBel:Below W1.heap.size W1 ((W1.drew.alloc (.cells #[.string ⟨#[]⟩,.int .i64 0,.slice none 0 0] 111)).setRow W1.heap.size #[.string (bs m.word),.int .i64 (m.node:Nat),.slice Am m.bytes.length Cm]):=jd hH2.2.2.2 (Nat.le_refl _) _
  have hH3:((W1.drew.alloc (.cells #[.string ⟨#[]⟩,.int .i64 0,.slice none 0 0] 111)).setRow W1.heap.size #[.string (bs m.word),.int .i64 (m.node:Nat),.slice Am m.bytes.length Cm]).cell? ⟨cb,5,none⟩=some (.map (some V.mb))∧((W1.drew.alloc (.cells #[.string ⟨#[]⟩,.int .i64 0,.slice none 0 0] 111)).setRow W1.heap.size #[.string (bs m.word),.int .i64 (m.node:Nat),.slice Am m.bytes.length Cm]).cell? ⟨w.heap.size,1,none⟩=some (.string (bs n.s))∧((W1.drew.alloc (.cells #[.string ⟨#[]⟩,.int .i64 0,.slice none 0 0] 111)).setRow W1.heap.size #[.string (bs m.word),.int .i64 (m.node:Nat),.slice Am m.bytes.length Cm]).heap[V.mb]?=some (.map (j5 c.names us).toArray c.names.length)∧Below W1.heap.size W1 ((W1.drew.alloc (.cells #[.string ⟨#[]⟩,.int .i64 0,.slice none 0 0] 111)).setRow W1.heap.size #[.string (bs m.word),.int .i64 (m.node:Nat),.slice Am m.bytes.length Cm]):=⟨za hBel c5,za hBel nc1,(hBel.block V.mb (Array.getElem?_eq_some_iff.1 hmb).1).trans hmb,hBel⟩
  refine vz 11 (by kernel_rfl) (vg none ((W1.drew.alloc (.cells #[.string ⟨#[]⟩,.int .i64 0,.slice none 0 0] 111)).setRow W1.heap.size #[.string (bs m.word),.int .i64 (m.node:Nat),.slice Am m.bytes.length Cm]) rfl rfl (by rfl) (qP 111 _ _ rfl W1.heap.size rfl #[.string (bs m.word),.int .i64 (m.node:Nat),.slice Am m.bytes.length Cm] rfl 111 (by kernel_rfl) _ hM2 rfl (by kernel_rfl)) ⟨hH3,?_⟩);simp only[Act.put];refine zD 12 (some 5) (.bool true) rfl rfl (λ_ _=>rfl) hH3 ?_;simp only[Act.put,zh,zf,zg];refine wpAnyH_done (by kernel_rfl) ?_ _;clear hM2 hH3 hH2 hHeld;generalize ((W1.drew.alloc (.cells #[.string ⟨#[]⟩,.int .i64 0,.slice none 0 0] 111)).setRow W1.heap.size #[.string (bs m.word),.int .i64 (m.node:Nat),.slice Am m.bytes.length Cm])=W2 at *;have N2:=N1.below hBel N1.lt;have b0:=N2.cell 0;have b1:=N2.cell 1;have b2:=N2.cell 2;have b3:=N2.cell 3;have b4:=N2.cell 4;have bl:=N2.lt;simp only[qH,qG,qI]at b0 b1 b2 b3 b4
  go_wp2_with (first
   |((go_at_call 62)
     refine(jA 132 n.a W2).mono ?_;rintro e w3 ⟨rfl,hw3⟩;(obtain rfl:W2=w3:=hw3.symm)))
  exact⟨rfl,vZ.of (hb1.trans (hBel.mono hb1.size)),by rw[HR.out];rfl⟩
theorem zaK{w0 w:World}{cb:Nat}{V:CV}{c:Ck}(h:qq E w cb V c)(n:Nd)(A:Option Addr)(C:Nat)(hr:jZ w0 n A C)(hcb:w0.heap.size≤cb-1)(hb0:Below w0.heap.size w0 w)(hx:YA n)(hnm:yH c.names c.parts)(hby:∀x ∈ c.names,x.2.bytes.length≤1000)(hdv:c.devs.length≤90000)(hnl:c.names.length≤90000)(ho:n.op≠qj)(hlk:lk c.names n.s=none)(hfu:full c.names n.op=true):Calls Tryz.prog 36 #[.pointer (some ⟨cb,0,none⟩),.agg (qD n (.slice A n.l.length C))] w (Fi E w cb V (jm c n)):=by
 obtain⟨L,hL⟩:∃L,L=n.l.length:=⟨_,rfl⟩
 have HL:=ze hL
 obtain⟨W1,hW1⟩:∃W1,W1=w.alloc (.cells #[.string (bs n.op),.string (bs n.s),.int .i64 n.n,.int .i64 n.a,.slice A L C] 24):=⟨_,rfl⟩
 have hb1:Below w.heap.size w W1:=by rw[hW1];exact zl w _
 have N1:zm W1 w.heap.size 24 #[.string (bs n.op),.string (bs n.s),.int .i64 n.n,.int .i64 n.a,.slice A L C]:=by rw[hW1];exact zm.new w _ _
 have h1:qq E W1 cb V c:=h.keep hb1;have HW:=ze hW1;have lcb:=h.has.lt;have hot:=zp n.op;obtain⟨us,e1,hmb0,hin⟩:=h.nms;have hmb:=(hb1.block V.mb (Array.getElem?_eq_some_iff.1 hmb0).1).trans hmb0;have hun:=h1.uniq;have c5:=h1.has.cell 5;have nc1:=N1.cell 1;simp only[qH,qG,qI]at c5 nc1;have f0:(n.op== [101,120,112,111,114,116])=false:=by rw[beq_eq_false_iff_ne];exact ho
 have HR:=ze (show jm c n= .error (137,n.a) by unfold jm;rw[if_neg ho,if_neg (by rw[hlk];decide),if_pos hfu]);have HU:Hid (lkV c.names us n.s= .agg #[.string ⟨#[]⟩,.int .i64 0,.slice none 0 0]):=Ja hlk;have HB:=ze (show(lk c.names n.s).isSome=false by rw[hlk];rfl);have HFC:=ze (λw2 (hb:Below W1.heap.size W1 w2)=>Hm (h1.keep hb) n.op (by rcases hx.word with e|e|e|e|e|e;exact .inl e;exact .inr (.inl e);exact .inr (.inr (.inl e));exact .inr (.inr (.inr (.inl e)));exact .inr (.inr (.inr (.inr e)));exact absurd e ho));rw[hfu]at HFC;rw[←hL];clear hin hlk hW1 hL ho hfu;unfold qD;go_enter Tryz.func36,Tryz.ntmps36
 go_wp2
 rw[←HW.out];refine wp_region_held_drew (S:=λwz=>wz.cell? ⟨cb,5,none⟩=some (.map (some V.mb))∧wz.cell? ⟨w.heap.size,1,none⟩=some (.string (bs n.s))∧wz.heap[V.mb]?=some (.map (j5 c.names us).toArray c.names.length)∧Below W1.heap.size W1 wz) (by kernel_rfl) (⟨c5,nc1,hmb,(Below.refl _ W1).drew⟩) (λhHeld=>?_);refine zw 0 (some 14) (.pointer (some ⟨cb,0,none⟩)) hHeld ?_;simp only[Act.put,zh,zf,zg];refine zw 1 (some 15) (.pointer (some ⟨cb,0,none⟩)) hHeld ?_;simp only[Act.put,zh,zf,zg];refine zw 2 (some 16) (.pointer (some ⟨cb,5,none⟩)) hHeld ?_;simp only[Act.put,zh,zf,zg];refine zD 3 (some 17) (.map (some V.mb)) rfl rfl (λwz hz=>by obtain⟨z0,z1,z2,z3⟩:=hz;unfold execOp;go_simp) hHeld ?_;simp only[Act.put,zh,zf,zg];refine zw 4 (some 18) (.pointer (some ⟨w.heap.size,1,none⟩)) hHeld ?_;simp only[Act.put,zh,zf,zg];refine zD 5 (some 19) (.string (bs n.s)) rfl rfl (λwz hz=>by obtain⟨z0,z1,z2,z3⟩:=hz;unfold execOp;go_simp) hHeld ?_;simp only[Act.put,zh,zf,zg];refine zD 6 (some 20) (.tuple #[.agg #[.string ⟨#[]⟩,.int .i64 0,.slice none 0 0],.bool false]) rfl rfl (λwz hz=>(ZC _ _ rfl hz.2.2.1 e1 hun n.s rfl rfl).trans (by rw[HU.out,HB.out])) hHeld ?_;simp only[Act.put,zh,zf,zg];refine zw 7 (some 13) (.tuple #[.agg #[.string ⟨#[]⟩,.int .i64 0,.slice none 0 0],.bool false]) hHeld ?_;simp only[Act.put,zh,zf,zg];refine zw 8 (some 21) (.agg #[.string ⟨#[]⟩,.int .i64 0,.slice none 0 0]) hHeld ?_;simp only[Act.put,zh,zf,zg];refine zw 9 (some 22) (.bool false) hHeld ?_;simp only[Act.put,zh,zf,zg]
 have hH2:(W1.drew.alloc (.cells #[.string ⟨#[]⟩,.int .i64 0,.slice none 0 0] 111)).cell? ⟨cb,5,none⟩=some (.map (some V.mb))∧(W1.drew.alloc (.cells #[.string ⟨#[]⟩,.int .i64 0,.slice none 0 0] 111)).cell? ⟨w.heap.size,1,none⟩=some (.string (bs n.s))∧(W1.drew.alloc (.cells #[.string ⟨#[]⟩,.int .i64 0,.slice none 0 0] 111)).heap[V.mb]?=some (.map (j5 c.names us).toArray c.names.length)∧Below W1.heap.size W1 (W1.drew.alloc (.cells #[.string ⟨#[]⟩,.int .i64 0,.slice none 0 0] 111)):=⟨za (zl W1.drew _) hHeld.1,za (zl W1.drew _) hHeld.2.1,(Below.heap_alloc W1.drew _ V.mb (Array.getElem?_eq_some_iff.1 hmb).1).trans hHeld.2.2.1,hHeld.2.2.2.trans ((zl W1.drew _))⟩
 refine vz 10 (by kernel_rfl) (QC (some 4) (.pointer (some ⟨W1.heap.size,0,none⟩)) (W1.drew.alloc (.cells #[.string ⟨#[]⟩,.int .i64 0,.slice none 0 0] 111)) rfl rfl (by rfl) (by kernel_rfl) ⟨hH2,?_⟩);simp only[Act.put,zh,zf,zg];have hM2:zm (W1.drew.alloc (.cells #[.string ⟨#[]⟩,.int .i64 0,.slice none 0 0] 111)) W1.heap.size 111 #[.string ⟨#[]⟩,.int .i64 0,.slice none 0 0]:=zm.new_at rfl;have hBel:Below W1.heap.size W1 ((W1.drew.alloc (.cells #[.string ⟨#[]⟩,.int .i64 0,.slice none 0 0] 111)).setRow W1.heap.size #[.string ⟨#[]⟩,.int .i64 0,.slice none 0 0]):=jd hH2.2.2.2 (Nat.le_refl _) _
 have hH3:((W1.drew.alloc (.cells #[.string ⟨#[]⟩,.int .i64 0,.slice none 0 0] 111)).setRow W1.heap.size #[.string ⟨#[]⟩,.int .i64 0,.slice none 0 0]).cell? ⟨cb,5,none⟩=some (.map (some V.mb))∧((W1.drew.alloc (.cells #[.string ⟨#[]⟩,.int .i64 0,.slice none 0 0] 111)).setRow W1.heap.size #[.string ⟨#[]⟩,.int .i64 0,.slice none 0 0]).cell? ⟨w.heap.size,1,none⟩=some (.string (bs n.s))∧((W1.drew.alloc (.cells #[.string ⟨#[]⟩,.int .i64 0,.slice none 0 0] 111)).setRow W1.heap.size #[.string ⟨#[]⟩,.int .i64 0,.slice none 0 0]).heap[V.mb]?=some (.map (j5 c.names us).toArray c.names.length)∧Below W1.heap.size W1 ((W1.drew.alloc (.cells #[.string ⟨#[]⟩,.int .i64 0,.slice none 0 0] 111)).setRow W1.heap.size #[.string ⟨#[]⟩,.int .i64 0,.slice none 0 0]):=⟨za hBel c5,za hBel nc1,(hBel.block V.mb (Array.getElem?_eq_some_iff.1 hmb).1).trans hmb,hBel⟩
 refine vz 11 (by kernel_rfl) (vg none ((W1.drew.alloc (.cells #[.string ⟨#[]⟩,.int .i64 0,.slice none 0 0] 111)).setRow W1.heap.size #[.string ⟨#[]⟩,.int .i64 0,.slice none 0 0]) rfl rfl (by rfl) (qP 111 _ _ rfl W1.heap.size rfl #[.string ⟨#[]⟩,.int .i64 0,.slice none 0 0] rfl 111 (by kernel_rfl) _ hM2 rfl (by kernel_rfl)) ⟨hH3,?_⟩);simp only[Act.put];refine zD 12 (some 5) (.bool false) rfl rfl (λ_ _=>rfl) hH3 ?_;simp only[Act.put,zh,zf,zg];refine wpAnyH_done (by kernel_rfl) ?_ _;clear hM2 hH3 hH2 hHeld;generalize ((W1.drew.alloc (.cells #[.string ⟨#[]⟩,.int .i64 0,.slice none 0 0] 111)).setRow W1.heap.size #[.string ⟨#[]⟩,.int .i64 0,.slice none 0 0])=W2 at *;have N2:=N1.below hBel N1.lt;have b0:=N2.cell 0;have b1:=N2.cell 1;have b2:=N2.cell 2;have b3:=N2.cell 3;have b4:=N2.cell 4;have bl:=N2.lt;simp only[qH,qG,qI]at b0 b1 b2 b3 b4
 go_wp2_with (first
  |((go_at_call 62)
    refine(qL 132 n.a W2).mono ?_;rintro e w3 ⟨rfl,hw3⟩;(obtain rfl:W2=w3:=hw3.symm)))
 have hfc:=λw2 (hb:Below W2.heap.size W2 w2)=>HFC.out w2 (hBel.trans (hb.mono hBel.size))
 refine wp_region_held_drew (S:=λwz=>Below W2.heap.size W2 wz) (by kernel_rfl) ((Below.refl _ W2).drew) (λhHeld=>?_);refine zw 0 (some 28) (.pointer (some ⟨cb,0,none⟩)) hHeld ?_;simp only[Act.put,zh,zf,zg];refine zw 1 (some 29) (.pointer (some ⟨w.heap.size,0,none⟩)) hHeld ?_;simp only[Act.put,zh,zf,zg];refine zD 2 (some 30) (.string (bs n.op)) rfl rfl (λwz hz=>by have z0:=za hz b0;unfold execOp;go_simp) hHeld ?_;simp only[Act.put,zh,zf,zg];refine zw 5 (some 33) (.pointer (some ⟨w.heap.size,3,none⟩)) hHeld ?_;simp only[Act.put,zh,zf,zg];refine zD 6 (some 34) (.int .i64 n.a) rfl rfl (λwz hz=>by have z0:=za hz b3;unfold execOp;go_simp) hHeld ?_;simp only[Act.put,zh,zf,zg];refine jn 3 (some 31) 63 #[.pointer (some ⟨cb,0,none⟩),.string (bs n.op)] (by kernel_rfl) rfl rfl (by rfl) (by kernel_rfl) (hfc _ (zr (Below.refl _ W2))) ?_;rintro e w4 ⟨rfl,hb4'⟩;have hb4:Below W2.heap.size W2 w4:=(zr (Below.refl _ W2)).trans hb4';refine .inl ⟨_,rfl,hb4,?_⟩;simp only[Act.put,zh,zf,zg];refine zD 4 (some 32) (.bool false) rfl rfl (λ_ _=>rfl) hb4 ?_;simp only[Act.put,zh,zf,zg];refine jn 7 (some 35) 62 #[.bool false,.int .i64 137,.int .i64 n.a] (by kernel_rfl) rfl rfl (by rfl) (by kernel_rfl) (jA 137 n.a w4) ?_;rintro e w5 ⟨rfl,rfl⟩;refine .inr ⟨_,rfl,?_⟩;exact⟨rfl,vZ.of ((hb1.trans (hBel.mono hb1.size)).trans (hb4.mono (Nat.le_trans hb1.size hBel.size))),by rw[HR.out];rfl⟩
theorem zak{w0 w:World}{cb:Nat}{V:CV}{c:Ck}(h:qq E w cb V c)(n:Nd)(A:Option Addr)(C:Nat)(hr:jZ w0 n A C)(hcb:w0.heap.size≤cb-1)(hb0:Below w0.heap.size w0 w)(hx:YA n)(hnm:yH c.names c.parts)(hby:∀x ∈ c.names,x.2.bytes.length≤1000)(hdv:c.devs.length≤90000)(hnl:c.names.length≤90000)(ho:n.op≠qj)(hlk:lk c.names n.s=none)(hfu:full c.names n.op=false):Calls Tryz.prog 36 #[.pointer (some ⟨cb,0,none⟩),.agg (qD n (.slice A n.l.length C))] w (Fi E w cb V (jm c n)):=by
 obtain⟨L,hL⟩:∃L,L=n.l.length:=⟨_,rfl⟩
 have HL:=ze hL
 obtain⟨W1,hW1⟩:∃W1,W1=w.alloc (.cells #[.string (bs n.op),.string (bs n.s),.int .i64 n.n,.int .i64 n.a,.slice A L C] 24):=⟨_,rfl⟩
 have hb1:Below w.heap.size w W1:=by rw[hW1];exact zl w _
 have N1:zm W1 w.heap.size 24 #[.string (bs n.op),.string (bs n.s),.int .i64 n.n,.int .i64 n.a,.slice A L C]:=by rw[hW1];exact zm.new w _ _
 have h1:qq E W1 cb V c:=h.keep hb1;have HW:=ze hW1;have lcb:=h.has.lt;have hot:=zp n.op;obtain⟨us,e1,hmb0,hin⟩:=h.nms;have hmb:=(hb1.block V.mb (Array.getElem?_eq_some_iff.1 hmb0).1).trans hmb0;have hun:=h1.uniq;have c5:=h1.has.cell 5;have nc1:=N1.cell 1;simp only[qH,qG,qI]at c5 nc1;have f0:(n.op== [101,120,112,111,114,116])=false:=by rw[beq_eq_false_iff_ne];exact ho
 have hR:jm c n=match j9 c n with | .error e=> .error e| .ok (c1,m)=> .ok { c1 with names:=c1.names++ [(n.s,m)] }:=by
  unfold jm;rw[if_neg ho,if_neg (by rw[hlk];decide),if_neg (by rw[hfu];decide)];rfl
 have HU:Hid (lkV c.names us n.s= .agg #[.string ⟨#[]⟩,.int .i64 0,.slice none 0 0]):=Ja hlk;have HB:=ze (show(lk c.names n.s).isSome=false by rw[hlk];rfl);have HFC:=ze (λw2 (hb:Below W1.heap.size W1 w2)=>Hm (h1.keep hb) n.op (by rcases hx.word with e|e|e|e|e|e;exact .inl e;exact .inr (.inl e);exact .inr (.inr (.inl e));exact .inr (.inr (.inr (.inl e)));exact .inr (.inr (.inr (.inr e)));exact absurd e ho));rw[hfu]at HFC;have HSD:=ze (λw2 (hb:Below W1.heap.size W1 w2)=>zb7 (h1.keep hb) n A C hr hcb (hb0.trans ((hb1.trans (hb.mono hb1.size)).mono hb0.size)) hx ho hnm hby hdv);have HLK:=ze hlk;rw[←hL]at HSD ⊢;clear hin hlk hW1 hL ho hfu;cases hC:j9 c n with
 |error er =>
  obtain⟨ec,ek⟩:=er;rw[hC]at hR HSD;have HR:=ze hR;clear hR hC;unfold qD at HSD ⊢;go_enter Tryz.func36,Tryz.ntmps36
  go_wp2
  rw[←HW.out];refine wp_region_held_drew (S:=λwz=>wz.cell? ⟨cb,5,none⟩=some (.map (some V.mb))∧wz.cell? ⟨w.heap.size,1,none⟩=some (.string (bs n.s))∧wz.heap[V.mb]?=some (.map (j5 c.names us).toArray c.names.length)∧Below W1.heap.size W1 wz) (by kernel_rfl) (⟨c5,nc1,hmb,(Below.refl _ W1).drew⟩) (λhHeld=>?_);refine zw 0 (some 14) (.pointer (some ⟨cb,0,none⟩)) hHeld ?_;simp only[Act.put,zh,zf,zg];refine zw 1 (some 15) (.pointer (some ⟨cb,0,none⟩)) hHeld ?_;simp only[Act.put,zh,zf,zg];refine zw 2 (some 16) (.pointer (some ⟨cb,5,none⟩)) hHeld ?_;simp only[Act.put,zh,zf,zg];refine zD 3 (some 17) (.map (some V.mb)) rfl rfl (λwz hz=>by obtain⟨z0,z1,z2,z3⟩:=hz;unfold execOp;go_simp) hHeld ?_;simp only[Act.put,zh,zf,zg];refine zw 4 (some 18) (.pointer (some ⟨w.heap.size,1,none⟩)) hHeld ?_;simp only[Act.put,zh,zf,zg];refine zD 5 (some 19) (.string (bs n.s)) rfl rfl (λwz hz=>by obtain⟨z0,z1,z2,z3⟩:=hz;unfold execOp;go_simp) hHeld ?_;simp only[Act.put,zh,zf,zg];refine zD 6 (some 20) (.tuple #[.agg #[.string ⟨#[]⟩,.int .i64 0,.slice none 0 0],.bool false]) rfl rfl (λwz hz=>(ZC _ _ rfl hz.2.2.1 e1 hun n.s rfl rfl).trans (by rw[HU.out,HB.out])) hHeld ?_;simp only[Act.put,zh,zf,zg];refine zw 7 (some 13) (.tuple #[.agg #[.string ⟨#[]⟩,.int .i64 0,.slice none 0 0],.bool false]) hHeld ?_;simp only[Act.put,zh,zf,zg];refine zw 8 (some 21) (.agg #[.string ⟨#[]⟩,.int .i64 0,.slice none 0 0]) hHeld ?_;simp only[Act.put,zh,zf,zg];refine zw 9 (some 22) (.bool false) hHeld ?_;simp only[Act.put,zh,zf,zg]
  have hH2:(W1.drew.alloc (.cells #[.string ⟨#[]⟩,.int .i64 0,.slice none 0 0] 111)).cell? ⟨cb,5,none⟩=some (.map (some V.mb))∧(W1.drew.alloc (.cells #[.string ⟨#[]⟩,.int .i64 0,.slice none 0 0] 111)).cell? ⟨w.heap.size,1,none⟩=some (.string (bs n.s))∧(W1.drew.alloc (.cells #[.string ⟨#[]⟩,.int .i64 0,.slice none 0 0] 111)).heap[V.mb]?=some (.map (j5 c.names us).toArray c.names.length)∧Below W1.heap.size W1 (W1.drew.alloc (.cells #[.string ⟨#[]⟩,.int .i64 0,.slice none 0 0] 111)):=⟨za (zl W1.drew _) hHeld.1,za (zl W1.drew _) hHeld.2.1,(Below.heap_alloc W1.drew _ V.mb (Array.getElem?_eq_some_iff.1 hmb).1).trans hHeld.2.2.1,hHeld.2.2.2.trans ((zl W1.drew _))⟩
  refine vz 10 (by kernel_rfl) (QC (some 4) (.pointer (some ⟨W1.heap.size,0,none⟩)) (W1.drew.alloc (.cells #[.string ⟨#[]⟩,.int .i64 0,.slice none 0 0] 111)) rfl rfl (by rfl) (by kernel_rfl) ⟨hH2,?_⟩);simp only[Act.put,zh,zf,zg];have hM2:zm (W1.drew.alloc (.cells #[.string ⟨#[]⟩,.int .i64 0,.slice none 0 0] 111)) W1.heap.size 111 #[.string ⟨#[]⟩,.int .i64 0,.slice none 0 0]:=zm.new_at rfl;have hBel:Below W1.heap.size W1 ((W1.drew.alloc (.cells #[.string ⟨#[]⟩,.int .i64 0,.slice none 0 0] 111)).setRow W1.heap.size #[.string ⟨#[]⟩,.int .i64 0,.slice none 0 0]):=jd hH2.2.2.2 (Nat.le_refl _) _
  have hH3:((W1.drew.alloc (.cells #[.string ⟨#[]⟩,.int .i64 0,.slice none 0 0] 111)).setRow W1.heap.size #[.string ⟨#[]⟩,.int .i64 0,.slice none 0 0]).cell? ⟨cb,5,none⟩=some (.map (some V.mb))∧((W1.drew.alloc (.cells #[.string ⟨#[]⟩,.int .i64 0,.slice none 0 0] 111)).setRow W1.heap.size #[.string ⟨#[]⟩,.int .i64 0,.slice none 0 0]).cell? ⟨w.heap.size,1,none⟩=some (.string (bs n.s))∧((W1.drew.alloc (.cells #[.string ⟨#[]⟩,.int .i64 0,.slice none 0 0] 111)).setRow W1.heap.size #[.string ⟨#[]⟩,.int .i64 0,.slice none 0 0]).heap[V.mb]?=some (.map (j5 c.names us).toArray c.names.length)∧Below W1.heap.size W1 ((W1.drew.alloc (.cells #[.string ⟨#[]⟩,.int .i64 0,.slice none 0 0] 111)).setRow W1.heap.size #[.string ⟨#[]⟩,.int .i64 0,.slice none 0 0]):=⟨za hBel c5,za hBel nc1,(hBel.block V.mb (Array.getElem?_eq_some_iff.1 hmb).1).trans hmb,hBel⟩
  refine vz 11 (by kernel_rfl) (vg none ((W1.drew.alloc (.cells #[.string ⟨#[]⟩,.int .i64 0,.slice none 0 0] 111)).setRow W1.heap.size #[.string ⟨#[]⟩,.int .i64 0,.slice none 0 0]) rfl rfl (by rfl) (qP 111 _ _ rfl W1.heap.size rfl #[.string ⟨#[]⟩,.int .i64 0,.slice none 0 0] rfl 111 (by kernel_rfl) _ hM2 rfl (by kernel_rfl)) ⟨hH3,?_⟩);simp only[Act.put];refine zD 12 (some 5) (.bool false) rfl rfl (λ_ _=>rfl) hH3 ?_;simp only[Act.put,zh,zf,zg];refine wpAnyH_done (by kernel_rfl) ?_ _;clear hM2 hH3 hH2 hHeld;generalize ((W1.drew.alloc (.cells #[.string ⟨#[]⟩,.int .i64 0,.slice none 0 0] 111)).setRow W1.heap.size #[.string ⟨#[]⟩,.int .i64 0,.slice none 0 0])=W2 at *;have N2:=N1.below hBel N1.lt;have b0:=N2.cell 0;have b1:=N2.cell 1;have b2:=N2.cell 2;have b3:=N2.cell 3;have b4:=N2.cell 4;have bl:=N2.lt;simp only[qH,qG,qI]at b0 b1 b2 b3 b4
  go_wp2_with (first
   |((go_at_call 62)
     refine(qL 132 n.a W2).mono ?_;rintro e w3 ⟨rfl,hw3⟩;(obtain rfl:W2=w3:=hw3.symm)))
  have hfc:=λw2 (hb:Below W2.heap.size W2 w2)=>HFC.out w2 (hBel.trans (hb.mono hBel.size))
  refine wp_region_held_drew (S:=λwz=>Below W2.heap.size W2 wz) (by kernel_rfl) ((Below.refl _ W2).drew) (λhHeld=>?_);refine zw 0 (some 28) (.pointer (some ⟨cb,0,none⟩)) hHeld ?_;simp only[Act.put,zh,zf,zg];refine zw 1 (some 29) (.pointer (some ⟨w.heap.size,0,none⟩)) hHeld ?_;simp only[Act.put,zh,zf,zg];refine zD 2 (some 30) (.string (bs n.op)) rfl rfl (λwz hz=>by have z0:=za hz b0;unfold execOp;go_simp) hHeld ?_;simp only[Act.put,zh,zf,zg];refine zw 5 (some 33) (.pointer (some ⟨w.heap.size,3,none⟩)) hHeld ?_;simp only[Act.put,zh,zf,zg];refine zD 6 (some 34) (.int .i64 n.a) rfl rfl (λwz hz=>by have z0:=za hz b3;unfold execOp;go_simp) hHeld ?_;simp only[Act.put,zh,zf,zg];refine jn 3 (some 31) 63 #[.pointer (some ⟨cb,0,none⟩),.string (bs n.op)] (by kernel_rfl) rfl rfl (by rfl) (by kernel_rfl) (hfc _ (zr (Below.refl _ W2))) ?_;rintro e w4 ⟨rfl,hb4'⟩;have hb4:Below W2.heap.size W2 w4:=(zr (Below.refl _ W2)).trans hb4';refine .inl ⟨_,rfl,hb4,?_⟩;simp only[Act.put,zh,zf,zg];refine zD 4 (some 32) (.bool true) rfl rfl (λ_ _=>rfl) hb4 ?_;simp only[Act.put,zh,zf,zg];refine jn 7 (some 35) 62 #[.bool true,.int .i64 137,.int .i64 n.a] (by kernel_rfl) rfl rfl (by rfl) (by kernel_rfl) (qL 137 n.a w4) ?_;rintro e w5 ⟨rfl,hw5⟩;obtain rfl:w4=w5:=hw5.symm;refine .inl ⟨_,rfl,hb4,?_⟩;simp only[Act.put,zh,zf,zg];refine wpAnyH_done (by kernel_rfl) ?_ _;have hb14:Below W1.heap.size W1 w4:=hBel.trans (hb4.mono hBel.size);have hsd:=HSD.out w4 hb14;clear b0 b1 b2 b3 b4 bl hfc;have N2:=N1.below hb14 N1.lt;have b0:=N2.cell 0;have b1:=N2.cell 1;have b2:=N2.cell 2;have b3:=N2.cell 3;have b4:=N2.cell 4;have bl:=N2.lt;simp only[qH,qG,qI]at b0 b1 b2 b3 b4
  go_wp2_with (first
   |((go_at_call 64)
     refine hsd.mono ?_;(rintro e w5 ⟨ho5,rfl⟩)))
  exact⟨rfl,(vZ.of (hb1.trans (hb14.mono hb1.size))).trans ho5,by rw[HR.out]⟩
 |ok r =>
  obtain⟨c1,m⟩:=r;rw[hC]at hR HSD;have HR:=ze hR;have HNM:=ze (kZ hC);clear hR hC;unfold qD at HSD ⊢;go_enter Tryz.func36,Tryz.ntmps36
  go_wp2
  rw[←HW.out];refine wp_region_held_drew (S:=λwz=>wz.cell? ⟨cb,5,none⟩=some (.map (some V.mb))∧wz.cell? ⟨w.heap.size,1,none⟩=some (.string (bs n.s))∧wz.heap[V.mb]?=some (.map (j5 c.names us).toArray c.names.length)∧Below W1.heap.size W1 wz) (by kernel_rfl) (⟨c5,nc1,hmb,(Below.refl _ W1).drew⟩) (λhHeld=>?_);refine zw 0 (some 14) (.pointer (some ⟨cb,0,none⟩)) hHeld ?_;simp only[Act.put,zh,zf,zg];refine zw 1 (some 15) (.pointer (some ⟨cb,0,none⟩)) hHeld ?_;simp only[Act.put,zh,zf,zg];refine zw 2 (some 16) (.pointer (some ⟨cb,5,none⟩)) hHeld ?_;simp only[Act.put,zh,zf,zg];refine zD 3 (some 17) (.map (some V.mb)) rfl rfl (λwz hz=>by obtain⟨z0,z1,z2,z3⟩:=hz;unfold execOp;go_simp) hHeld ?_;simp only[Act.put,zh,zf,zg];refine zw 4 (some 18) (.pointer (some ⟨w.heap.size,1,none⟩)) hHeld ?_;simp only[Act.put,zh,zf,zg];refine zD 5 (some 19) (.string (bs n.s)) rfl rfl (λwz hz=>by obtain⟨z0,z1,z2,z3⟩:=hz;unfold execOp;go_simp) hHeld ?_;simp only[Act.put,zh,zf,zg];refine zD 6 (some 20) (.tuple #[.agg #[.string ⟨#[]⟩,.int .i64 0,.slice none 0 0],.bool false]) rfl rfl (λwz hz=>(ZC _ _ rfl hz.2.2.1 e1 hun n.s rfl rfl).trans (by rw[HU.out,HB.out])) hHeld ?_;simp only[Act.put,zh,zf,zg];refine zw 7 (some 13) (.tuple #[.agg #[.string ⟨#[]⟩,.int .i64 0,.slice none 0 0],.bool false]) hHeld ?_;simp only[Act.put,zh,zf,zg];refine zw 8 (some 21) (.agg #[.string ⟨#[]⟩,.int .i64 0,.slice none 0 0]) hHeld ?_;simp only[Act.put,zh,zf,zg];refine zw 9 (some 22) (.bool false) hHeld ?_;simp only[Act.put,zh,zf,zg]
  have hH2:(W1.drew.alloc (.cells #[.string ⟨#[]⟩,.int .i64 0,.slice none 0 0] 111)).cell? ⟨cb,5,none⟩=some (.map (some V.mb))∧(W1.drew.alloc (.cells #[.string ⟨#[]⟩,.int .i64 0,.slice none 0 0] 111)).cell? ⟨w.heap.size,1,none⟩=some (.string (bs n.s))∧(W1.drew.alloc (.cells #[.string ⟨#[]⟩,.int .i64 0,.slice none 0 0] 111)).heap[V.mb]?=some (.map (j5 c.names us).toArray c.names.length)∧Below W1.heap.size W1 (W1.drew.alloc (.cells #[.string ⟨#[]⟩,.int .i64 0,.slice none 0 0] 111)):=⟨za (zl W1.drew _) hHeld.1,za (zl W1.drew _) hHeld.2.1,(Below.heap_alloc W1.drew _ V.mb (Array.getElem?_eq_some_iff.1 hmb).1).trans hHeld.2.2.1,hHeld.2.2.2.trans ((zl W1.drew _))⟩
  refine vz 10 (by kernel_rfl) (QC (some 4) (.pointer (some ⟨W1.heap.size,0,none⟩)) (W1.drew.alloc (.cells #[.string ⟨#[]⟩,.int .i64 0,.slice none 0 0] 111)) rfl rfl (by rfl) (by kernel_rfl) ⟨hH2,?_⟩);simp only[Act.put,zh,zf,zg];have hM2:zm (W1.drew.alloc (.cells #[.string ⟨#[]⟩,.int .i64 0,.slice none 0 0] 111)) W1.heap.size 111 #[.string ⟨#[]⟩,.int .i64 0,.slice none 0 0]:=zm.new_at rfl;have hBel:Below W1.heap.size W1 ((W1.drew.alloc (.cells #[.string ⟨#[]⟩,.int .i64 0,.slice none 0 0] 111)).setRow W1.heap.size #[.string ⟨#[]⟩,.int .i64 0,.slice none 0 0]):=jd hH2.2.2.2 (Nat.le_refl _) _
  have hH3:((W1.drew.alloc (.cells #[.string ⟨#[]⟩,.int .i64 0,.slice none 0 0] 111)).setRow W1.heap.size #[.string ⟨#[]⟩,.int .i64 0,.slice none 0 0]).cell? ⟨cb,5,none⟩=some (.map (some V.mb))∧((W1.drew.alloc (.cells #[.string ⟨#[]⟩,.int .i64 0,.slice none 0 0] 111)).setRow W1.heap.size #[.string ⟨#[]⟩,.int .i64 0,.slice none 0 0]).cell? ⟨w.heap.size,1,none⟩=some (.string (bs n.s))∧((W1.drew.alloc (.cells #[.string ⟨#[]⟩,.int .i64 0,.slice none 0 0] 111)).setRow W1.heap.size #[.string ⟨#[]⟩,.int .i64 0,.slice none 0 0]).heap[V.mb]?=some (.map (j5 c.names us).toArray c.names.length)∧Below W1.heap.size W1 ((W1.drew.alloc (.cells #[.string ⟨#[]⟩,.int .i64 0,.slice none 0 0] 111)).setRow W1.heap.size #[.string ⟨#[]⟩,.int .i64 0,.slice none 0 0]):=⟨za hBel c5,za hBel nc1,(hBel.block V.mb (Array.getElem?_eq_some_iff.1 hmb).1).trans hmb,hBel⟩
  refine vz 11 (by kernel_rfl) (vg none ((W1.drew.alloc (.cells #[.string ⟨#[]⟩,.int .i64 0,.slice none 0 0] 111)).setRow W1.heap.size #[.string ⟨#[]⟩,.int .i64 0,.slice none 0 0]) rfl rfl (by rfl) (qP 111 _ _ rfl W1.heap.size rfl #[.string ⟨#[]⟩,.int .i64 0,.slice none 0 0] rfl 111 (by kernel_rfl) _ hM2 rfl (by kernel_rfl)) ⟨hH3,?_⟩);simp only[Act.put];refine zD 12 (some 5) (.bool false) rfl rfl (λ_ _=>rfl) hH3 ?_;simp only[Act.put,zh,zf,zg];refine wpAnyH_done (by kernel_rfl) ?_ _;clear hM2 hH3 hH2 hHeld;generalize ((W1.drew.alloc (.cells #[.string ⟨#[]⟩,.int .i64 0,.slice none 0 0] 111)).setRow W1.heap.size #[.string ⟨#[]⟩,.int .i64 0,.slice none 0 0])=W2 at *;have N2:=N1.below hBel N1.lt;have b0:=N2.cell 0;have b1:=N2.cell 1;have b2:=N2.cell 2;have b3:=N2.cell 3;have b4:=N2.cell 4;have bl:=N2.lt;simp only[qH,qG,qI]at b0 b1 b2 b3 b4
  go_wp2_with (first
   |((go_at_call 62)
     refine(qL 132 n.a W2).mono ?_;rintro e w3 ⟨rfl,hw3⟩;(obtain rfl:W2=w3:=hw3.symm)))
  have hfc:=λw2 (hb:Below W2.heap.size W2 w2)=>HFC.out w2 (hBel.trans (hb.mono hBel.size))
  refine wp_region_held_drew (S:=λwz=>Below W2.heap.size W2 wz) (by kernel_rfl) ((Below.refl _ W2).drew) (λhHeld=>?_);refine zw 0 (some 28) (.pointer (some ⟨cb,0,none⟩)) hHeld ?_;simp only[Act.put,zh,zf,zg];refine zw 1 (some 29) (.pointer (some ⟨w.heap.size,0,none⟩)) hHeld ?_;simp only[Act.put,zh,zf,zg];refine zD 2 (some 30) (.string (bs n.op)) rfl rfl (λwz hz=>by have z0:=za hz b0;unfold execOp;go_simp) hHeld ?_;simp only[Act.put,zh,zf,zg];refine zw 5 (some 33) (.pointer (some ⟨w.heap.size,3,none⟩)) hHeld ?_;simp only[Act.put,zh,zf,zg];refine zD 6 (some 34) (.int .i64 n.a) rfl rfl (λwz hz=>by have z0:=za hz b3;unfold execOp;go_simp) hHeld ?_;simp only[Act.put,zh,zf,zg];refine jn 3 (some 31) 63 #[.pointer (some ⟨cb,0,none⟩),.string (bs n.op)] (by kernel_rfl) rfl rfl (by rfl) (by kernel_rfl) (hfc _ (zr (Below.refl _ W2))) ?_;rintro e w4 ⟨rfl,hb4'⟩;have hb4:Below W2.heap.size W2 w4:=(zr (Below.refl _ W2)).trans hb4';refine .inl ⟨_,rfl,hb4,?_⟩;simp only[Act.put,zh,zf,zg];refine zD 4 (some 32) (.bool true) rfl rfl (λ_ _=>rfl) hb4 ?_;simp only[Act.put,zh,zf,zg];refine jn 7 (some 35) 62 #[.bool true,.int .i64 137,.int .i64 n.a] (by kernel_rfl) rfl rfl (by rfl) (by kernel_rfl) (qL 137 n.a w4) ?_;rintro e w5 ⟨rfl,hw5⟩;obtain rfl:w4=w5:=hw5.symm;refine .inl ⟨_,rfl,hb4,?_⟩;simp only[Act.put,zh,zf,zg];refine wpAnyH_done (by kernel_rfl) ?_ _;have hb14:Below W1.heap.size W1 w4:=hBel.trans (hb4.mono hBel.size);have hsd:=HSD.out w4 hb14;clear b0 b1 b2 b3 b4 bl hfc;have N2:=N1.below hb14 N1.lt;have b0:=N2.cell 0;have b1:=N2.cell 1;have b2:=N2.cell 2;have b3:=N2.cell 3;have b4:=N2.cell 4;have bl:=N2.lt;simp only[qH,qG,qI]at b0 b1 b2 b3 b4;have hnn:¬V.own cb w.heap.size:=λe=>by have:=(h.low e).2;omega
  go_wp2_with (first
   |((go_at_call 64)
     refine hsd.mono ?_;rintro e w5 ⟨ho5,u,V5,rfl,hu5,H5,S5⟩;obtain⟨Au,Cu,eu,u1,u2,ub⟩:=hu5.bytes;subst eu;(unfold Uc)))
  have N5:zm w5 w.heap.size 24 #[.string (bs n.op),.string (bs n.s),.int .i64 n.n,.int .i64 n.a,.slice A L C]:=(S5.inner _ N2.lt hnn).1.trans N2;generalize hu:(Value.slice Au m.bytes.length Cu)=u at *;have hb6:=zl w5 (.cells #[.string (bs m.word),.int .i64 (m.node:Nat),u] 111);have H6:=H5.keep hb6;have M6:zm (w5.alloc (.cells #[.string (bs m.word),.int .i64 (m.node:Nat),u] 111)) w5.heap.size 111 #[.string (bs m.word),.int .i64 (m.node:Nat),u]:=zm.new _ _ _;have N6:=N5.alloc (.cells #[.string (bs m.word),.int .i64 (m.node:Nat),u] 111);have hu6:=hu5.keep hb6.size (λk hk hP=>⟨hb6.block k hk,hP⟩);have S06:=((jX.of (cb:=cb) (V:=V) (hb1.trans (hb14.mono hb1.size))).trans S5).trans (jX.of (cb:=cb) (V:=V5) hb6);generalize w5.alloc (.cells #[.string (bs m.word),.int .i64 (m.node:Nat),u] 111)=W6 at *;have d5:=H6.has.cell 5;have d1:=N6.cell 1;simp only[qH,qG,qI]at d5 d1;obtain⟨us6,e6,hmb6,hin6⟩:=H6.nms;have hlk6:lk c1.names n.s=none:=by rw[HNM.out];exact HLK.out
  refine jp (S:=λwz=>Below W6.heap.size W6 wz) 7 (by kernel_rfl) ((Below.refl _ W6).drew) (λhHeld=>?_);refine ja 0 (some 39) (.pointer (some ⟨cb,0,none⟩)) hHeld ?_;simp only[Act.put,zh,zf,zg];refine ja 1 (some 40) (.pointer (some ⟨cb,0,none⟩)) hHeld ?_;simp only[Act.put,zh,zf,zg];refine ja 2 (some 41) (.pointer (some ⟨cb,5,none⟩)) hHeld ?_;simp only[Act.put,zh,zf,zg];refine j3 3 (some 42) (.map (some V5.mb)) rfl rfl (λwz hz=>by have z0:=za hz d5;unfold execOp;go_simp) hHeld ?_;simp only[Act.put,zh,zf,zg];refine ja 4 (some 43) (.pointer (some ⟨w.heap.size,1,none⟩)) hHeld ?_;simp only[Act.put,zh,zf,zg];refine j3 5 (some 44) (.string (bs n.s)) rfl rfl (λwz hz=>by have z0:=za hz d1;unfold execOp;go_simp) hHeld ?_;simp only[Act.put,zh,zf,zg];refine j3 6 (some 45) (.agg #[.string (bs m.word),.int .i64 (m.node:Nat),u]) rfl rfl (λwz hz=>kB _ rfl w5.heap.size rfl wz (M6.below hz M6.lt)) hHeld ?_;simp only[Act.put,zh,zf,zg];have hbd:Below W6.heap.size W6 W6.drew:=zr (Below.refl _ W6);refine qC 7 none (setObj W6.drew V5.mb (.map (j5 (c1.names++ [(n.s,m)]) (us6++ [u])).toArray (c1.names.length+1))) (by kernel_rfl) rfl rfl (by rfl) (Gc _ _ _ rfl (show W6.drew.heap[V5.mb]?=_ from hmb6) e6 H6.uniq n.s m u hlk6 rfl rfl rfl) (by kernel_rfl) ?_;simp only[Act.put];obtain⟨H7,S7⟩:=(H6.keep hbd).putName e6 hmb6 (λi a b=>(hin6 i a b).keep hbd.size (λk hk hP=>⟨hbd.block k hk,hP⟩)) n.s m u (gP hlk6) (hu6.keep hbd.size (λk hk hP=>⟨hbd.block k hk,hP⟩)) (by rw[HNM.out];exact hnl);have S07:=S06.trans ((jX.of (cb:=cb) (V:=V5) hbd).trans S7)
  go_wp2
  go_end0
  refine⟨S07.only,?_⟩;rw[HR.out]
  exact⟨rfl,V5,H7.mono (λg _ _ he=>by
   rcases he with he|he
   ·exact .inl he
   ·exact .inr (by have:=hb1.size;have:=hb14.size;omega)),S07⟩
theorem KO{w0 w:World}{cb:Nat}{V:CV}{c:Ck}(h:qq E w cb V c)(n:Nd)(A:Option Addr)(C:Nat)(hr:jZ w0 n A C)(hcb:w0.heap.size≤cb-1)(hb0:Below w0.heap.size w0 w)(hx:YA n)(hnm:yH c.names c.parts)(hby:∀x ∈ c.names,x.2.bytes.length≤1000)(hdv:c.devs.length≤90000)(hnl:c.names.length≤90000):Calls Tryz.prog 36 #[.pointer (some ⟨cb,0,none⟩),.agg (qD n (.slice A n.l.length C))] w (Fi E w cb V (jm c n)):=by
 by_cases ho:n.op=qj
 ·exact FZ h n A C hr hcb hb0 hx hnm hby hdv hnl ho
 ·cases hk:lk c.names n.s with
  |some m=>exact dN h n A C hr hcb hb0 hx hnm hby hdv hnl ho (by rw[hk];rfl)
  |none =>
   cases hf:full c.names n.op with
   |true=>exact zaK h n A C hr hcb hb0 hx hnm hby hdv hnl ho hk hf
   |false=>exact zak h n A C hr hcb hb0 hx hnm hby hdv hnl ho hk hf
end
section
open Go.ChangeShapes Go.WideShapes Go.ChangeAt Go.RowKit Go.Shelf
def R3.cells(r:R3):Array Value:=#[.int .i64 r.d,.int .i64 r.f,.int .i64 r.c]
def uG(w:World)(a:Option Addr)(n:Nat)(F:Nat→R3):Prop:=n=0∨∃b off,a=some ⟨b,off,none⟩∧b<w.heap.size ∧
 ∀i,i<n→w.cell? ⟨b,off+i*3,none⟩=some (.int .i64 (F i).d)∧w.cell? ⟨b,off+i*3+1,none⟩=some (.int .i64 (F i).f)∧w.cell? ⟨b,off+i*3+2,none⟩=some (.int .i64 (F i).c)
theorem uG.below{w w':World}{a:Option Addr}{n B:Nat}{F:Nat→R3}(h:uG w a n F)(hb:Below B w w')(hB:w.heap.size≤B):uG w' a n F:=by
 rcases h with h|⟨b,off,rfl,hlt,hc⟩
 ·exact .inl h
 ·refine .inr ⟨b,off,rfl,by have:=hb.size;omega,λi hi=>?_⟩
  obtain⟨c0,c1,c2⟩:=hc i hi;have e:∀o,w'.cell? ⟨b,o,none⟩=w.cell? ⟨b,o,none⟩:=λo=>hb.cell (p:=⟨b,o,none⟩) (by show b<B;omega)
  exact⟨by rw[e];exact c0,by rw[e];exact c1,by rw[e];exact c2⟩
theorem uG.to{w:World}{a:Option Addr}{n m:Nat}{F:Nat→R3}(h:uG w a n F)(hm:m≤n):uG w a m F:=by
 rcases h with h|⟨b,off,rfl,hlt,hc⟩
 ·exact .inl (by omega)
 ·exact .inr ⟨b,off,rfl,hlt,λi hi=>hc i (by omega)⟩
theorem uG.at{w:World}{a:Option Addr}{n:Nat}{F:Nat→R3}(h:uG w a n F)(i:Nat)(hi:i<n):∃b off,a=some ⟨b,off,none⟩∧b<w.heap.size ∧
 w.cell? ⟨b,off+i*3,none⟩=some (.int .i64 (F i).d)∧w.cell? ⟨b,off+i*3+1,none⟩=some (.int .i64 (F i).f)∧w.cell? ⟨b,off+i*3+2,none⟩=some (.int .i64 (F i).c):=by
 rcases h with h|⟨b,off,rfl,hlt,hc⟩
 ·omega
 ·exact⟨b,off,rfl,hlt,hc i hi⟩
theorem zca(r q:R3)(bx:Nat)(W:World)(hx:zm W bx 42 q.cells):Calls Tryz.prog 84 #[r.v,.pointer (some ⟨bx,0,none⟩)] W λe W'=>e= .returned (.bool (Zc r q))∧Below W.heap.size W W':=by
 obtain⟨W0,hW0⟩:∃W0,W0=W.alloc (.cells #[.int .i64 r.d,.int .i64 r.f,.int .i64 r.c] 42):=⟨_,rfl⟩
 have hB0:Below W.heap.size W W0:=by rw[hW0];exact(Below.refl _ W).alloc (Nat.le_refl _) _
 obtain⟨c0,c1,c2⟩:=vy hx;have hlt:=hx.lt;have hs:=db r q W0;obtain⟨rd,rf,rc⟩:=r;obtain⟨qd,qf,qc⟩:=q;simp only at c0 c1 c2 hW0;simp only[R3.v]at hs ⊢;generalize Zc _ _=bo at hs ⊢;clear hx;go_enter Tryz.func84,Tryz.ntmps84
 go_wp2_with (first
  |((go_at_call 85)
    rw[←hW0];refine hs.mono ?_;(rintro e w1 ⟨rfl,hb1⟩)))
 go_ret
 exact⟨rfl,hB0.trans (hb1.mono hB0.size)⟩
def zbD(n:Nat)(p:Nat→Bool)(r:Int):Prop:=(r= -1∧∀i,i<n→p i=false)∨∃k:Nat,k<n∧r=k∧p k=true∧∀i,i<k→p i=false
theorem Di(g:Nat)(cb:Array Value)(a:Option Addr)(n cap:Nat)(F:Nat→R3)(p:Nat→Bool)(w:World)(eg:∀args w,(callFunc g args).run Tryz.prog w= .ok (.enter g args) w)(hn:n≤100000)(hl:uG w a n F)
 (hf:∀(i:Nat) (W:World),i<n→Below w.heap.size w W→Calls Tryz.prog g (#[(F i).v]++cb) W λe W'=>e= .returned (.bool (p i))∧Below W.heap.size W W'):
 Calls Tryz.prog 83 #[.slice a n cap,.func (.func g) #[] cb] w λe w'=>∃r:Int,e= .returned (.int .i64 r)∧zbD n p r∧Below w.heap.size w w':=by
 have HF:Hid (∀(i:Nat) (W:World),i<n→Below w.heap.size w W→Calls Tryz.prog g (#[(F i).v]++cb) W λe W'=>e= .returned (.bool (p i))∧Below W.heap.size W W'):=hf;clear hf;go_enter Tryz.func83,Tryz.ntmps83
 go_wp2
 go_loopw [8] (λi wr=>∃k:Nat,k≤n∧i= .int .i64 k∧Hid (∀i,i<k→p i=false)∧Below w.heap.size w wr) (λi _=>n-(intOf i).toNat)
 case atStart=>exact⟨0,Nat.zero_le _,rfl,(λt ht=>absurd ht (Nat.not_lt_zero _):∀t,t<0→p t=false),Below.refl _ _⟩
 case round =>
  obtain⟨k,hk,rfl,HA,hb⟩:=hrel;by_cases hlt:k<n
  ·obtain⟨b,off,rfl,hbl,c0,c1,c2⟩:=(hl.below hb (Nat.le_refl _)).at k hlt
   have hc:=HF.out k _ hlt hb;simp only[R3.v]at hc;cases hp:p k<;>rw[hp]at hc
   ·have HP:Hid (p k=false):=hp
    clear hp hl;generalize F k=r at *;obtain⟨rd,rf,rc⟩:=r;simp only at c0 c1 c2 hc
    go_wp2_with (go_at_fn g;refine hc.mono ?_;rintro e w' ⟨rfl,hb2⟩)
    go_roundw
    case rel=>exact⟨k+1,hlt,by go_num,(λt ht=>by
     by_cases e:t<k
     ·exact HA.out t e
     ·obtain rfl:t=k:=by omega
      exact HP.out:∀t,t<k+1→p t=false),hb.trans (hb2.mono hb.size)⟩
    case measure=>simp[intOf];omega
   ·have HP:Hid (p k=true):=hp
    clear hp hl;generalize F k=r at *;obtain⟨rd,rf,rc⟩:=r;simp only at c0 c1 c2 hc
    go_wp2_with (go_at_fn g;refine hc.mono ?_;rintro e w' ⟨rfl,hb2⟩)
    go_ret
    exact⟨k,rfl,.inr ⟨k,hlt,rfl,HP.out,HA.out⟩,hb.trans (hb2.mono hb.size)⟩
  ·obtain rfl:k=n:=by omega
   clear hl
   go_wp2
   go_ret
   exact⟨-1,rfl,.inl ⟨rfl,HA.out⟩,hb⟩
def Ov(n:Nat)(S:Nat→Nat→Bool)(i j:Int):Prop:=(i= -1∧j= -1∧∀b,b<n→∀a,a<b→S a b=false) ∨
 ∃a b:Nat,i=a∧j=b∧a<b∧b<n∧S a b=true∧(∀b',b'<b→∀a',a'<b'→S a' b'=false)∧(∀a',a'<a→S a' b=false)
theorem Ov.eq{n:Nat}{S T:Nat→Nat→Bool}{i j p q:Int}(h:Ov n S i j)(k:Ov n T p q)(hST:∀b,b<n→∀a,a<b→S a b=T a b):i=p∧j=q:=by
 rcases h with⟨rfl,rfl,h⟩|⟨a,b,rfl,rfl,hab,hbn,hs,hl,hm⟩
 ·rcases k with⟨rfl,rfl,k⟩|⟨c,d,rfl,rfl,hcd,hdn,ht,kl,km⟩
  ·exact⟨rfl,rfl⟩
  ·have:=h d hdn c hcd
   rw[hST d hdn c hcd,ht]at this;cases this
 ·rcases k with⟨rfl,rfl,k⟩|⟨c,d,rfl,rfl,hcd,hdn,ht,kl,km⟩
  ·have:=k b hbn a hab
   rw[←hST b hbn a hab,hs]at this;cases this
  ·have hbd:b=d:=by
    rcases Nat.lt_trichotomy b d with e|e|e
    ·have:=kl b e a hab;rw[←hST b hbn a hab,hs]at this;cases this
    ·exact e
    ·have:=hl d e c hcd;rw[hST d hdn c hcd,ht]at this;cases this
   subst hbd
   have hac:a=c:=by
    rcases Nat.lt_trichotomy a c with e|e|e
    ·have:=km a e;rw[←hST b hbn a hab,hs]at this;cases this
    ·exact e
    ·have:=hm c e;rw[hST b hbn c hcd,ht]at this;cases this
   subst hac;exact⟨rfl,rfl⟩
def SS(F:Nat→R3)(a b:Nat):Bool:=Zc (F a) (F b)
theorem Fs(a:Option Addr)(n cap:Nat)(F:Nat→R3)(w:World)(hn:n≤100000)(hcap:n≤cap)(hcm:cap≤9223372036854775807)(hl:uG w a n F):
 Calls Tryz.prog 65 #[.slice a n cap] w λe w'=>∃i j:Int,e= .returned (.tuple #[.int .i64 i,.int .i64 j])∧Ov n (SS F) i j∧Below w.heap.size w w':=by
 go_enter Tryz.func65,Tryz.ntmps65
 go_wp2
 go_loopw [9] (λi wr=>∃k:Nat,k≤n∧i= .int .i64 k∧Hid (∀b,b<k→∀a,a<b→SS F a b=false)∧Below w.heap.size w wr) (λi _=>n-(intOf i).toNat)
 case atStart=>exact⟨0,Nat.zero_le _,rfl,(λt ht=>absurd ht (Nat.not_lt_zero _):∀t,t<0→∀a,a<t→SS F a t=false),Below.refl _ _⟩
 case round =>
  rename_i wr
  obtain⟨k,hk,rfl,HA,hb⟩:=hrel;by_cases hlt:k<n
  ·have hlr:=hl.below hb (Nat.le_refl _)
   obtain⟨b,off,rfl,hbl,c0,c1,c2⟩:=hlr.at k hlt
   obtain⟨W0,hW0⟩:∃W0,W0=wr.alloc (.cells #[.int .i64 (F k).d,.int .i64 (F k).f,.int .i64 (F k).c] 42):=⟨_,rfl⟩
   have hB0:Below wr.heap.size wr W0:=by rw[hW0];exact(Below.refl _ wr).alloc (Nat.le_refl _) _
   have hx0:zm W0 wr.heap.size 42 (F k).cells:=by rw[hW0];exact zm.new _ _ _
   have hI:=Di 84 #[.pointer (some ⟨wr.heap.size,0,none⟩)] (some ⟨b,off,none⟩) k cap F (λi=>SS F i k) W0 (enters_of Tryz.func84 (by kernel_rfl) rfl) (by omega) ((hlr.below hB0 (Nat.le_refl _)).to (by omega))
    (λi W hi hbW=>zca (F i) (F k) wr.heap.size W (hx0.below hbW hx0.lt))
   have HI:Hid (Calls Tryz.prog 83 #[.slice (some ⟨b,off,none⟩) k cap,.func (.func 84) #[] #[.pointer (some ⟨wr.heap.size,0,none⟩)]] W0 λe w'=>∃r:Int,e= .returned (.int .i64 r)∧zbD k (λi=>SS F i k) r∧Below W0.heap.size W0 w'):=hI;clear hI;generalize hFk:F k=q at c0 c1 c2 hW0;obtain⟨qd,qf,qc⟩:=q;simp only at c0 c1 c2 hW0;clear hFk hlr hl
   go_wp2_with (first
    |((go_at_call 83)
      rw[←hW0];refine HI.out.mono ?_;(rintro e w1 ⟨r,rfl,hF,hb1⟩)))
   ·rename_i hr
    go_ret2
    have hB1:Below w.heap.size w w1:=hb.trans ((hB0.trans (hb1.mono hB0.size)).mono hb.size);rcases hF with⟨rfl,hall⟩|⟨m,hm,rfl,hpm,hall⟩
    ·omega
    ·exact⟨m,k,rfl,.inr ⟨m,k,rfl,rfl,hm,hlt,hpm,HA.out,hall⟩,hB1⟩
   ·rename_i hr
    go_roundw
    case rel =>
     have hB1:Below w.heap.size w w1:=hb.trans ((hB0.trans (hb1.mono hB0.size)).mono hb.size);refine⟨k+1,hlt,by go_num,?_,hB1⟩;rcases hF with⟨rfl,hall⟩|⟨m,hm,rfl,hpm,hall⟩
     ·exact(λt ht=>by
       by_cases e:t<k
       ·exact HA.out t e
       ·obtain rfl:t=k:=by omega
        exact hall:∀t,t<k+1→∀a,a<t→SS F a t=false)
     ·exfalso;omega
    case measure=>simp[intOf];omega
  ·obtain rfl:k=n:=by omega
   clear hl
   go_wp2
   go_ret2
   exact⟨-1,-1,rfl,.inl ⟨rfl,rfl,HA.out⟩,hb⟩
theorem Fv(a b:R3):Zc a b=true↔(vx a.f a.c=true∧vx b.f b.c=true∧a.d=b.d∧a.f<b.f+b.c∧b.f<a.f+a.c):=by unfold Zc;simp
theorem yK{B:Nat}{w w':World}(h:Below B w w')(n:Nat):Below B w (w'.drewN n):=⟨h.os,h.tape,h.output,h.size,h.block⟩
theorem fM{f:FuncId}{args:Array Value}(w:World){R:Ending→World→Prop}(k:Calls Tryz.prog f args w R):Calls Tryz.prog f args w R:=k
theorem Ga(a:Option Addr)(n cap:Nat)(F:Nat→R3)(w:World)(hn:n≤100000)(hl:uG w a n F):
 Calls Tryz.prog 20 #[.slice a n cap] w λe w'=>∃i j:Int,e= .returned (.tuple #[.int .i64 i,.int .i64 j])∧Ov n (SS F) i j∧Below w.heap.size w w':=by
 go_enter Tryz.func20,Tryz.ntmps20
 go_wp2
 go_loopw [4] (λi wr=>∃k:Nat,k≤n∧i= .int .i64 k∧Hid (∀b,b<k→∀a,a<b→SS F a b=false)∧Below w.heap.size w wr) (λi _=>n-(intOf i).toNat)
 case atStart=>exact⟨0,Nat.zero_le _,rfl,(λt ht=>absurd ht (Nat.not_lt_zero _):∀t,t<0→∀a,a<t→SS F a t=false),Below.refl _ _⟩
 case round =>
  obtain⟨k,hk,rfl,HA,hb⟩:=hrel;by_cases hlt:k<n
  ·go_wp2
   go_loopw [5] (λi wz=>∃m:Nat,m≤k∧i= .int .i64 m∧Hid (∀a,a<m→SS F a k=false)∧Below w.heap.size w wz) (λi _=>n-(intOf i).toNat)
   case atStart=>exact⟨0,Nat.zero_le _,rfl,(λt ht=>absurd ht (Nat.not_lt_zero _):∀t,t<0→SS F t k=false),hb⟩
   case round =>
    obtain⟨m,hm,rfl,HM,hbz⟩:=hrel;by_cases hmk:m<k
    ·have hlz:=hl.below hbz (Nat.le_refl _)
     obtain⟨b,off,rfl,hbl,-⟩:=hlz.at k hlt
     have HC:Hid (∀W,Below w.heap.size w W→(W.cell? ⟨b,off+m*3,none⟩=some (.int .i64 (F m).d)∧W.cell? ⟨b,off+m*3+1,none⟩=some (.int .i64 (F m).f)∧W.cell? ⟨b,off+m*3+2,none⟩=some (.int .i64 (F m).c)) ∧
      (W.cell? ⟨b,off+k*3,none⟩=some (.int .i64 (F k).d)∧W.cell? ⟨b,off+k*3+1,none⟩=some (.int .i64 (F k).f)∧W.cell? ⟨b,off+k*3+2,none⟩=some (.int .i64 (F k).c))):=λW hW=>by
      rcases hl.below hW (Nat.le_refl _)with h0|⟨b',off',e,_,hc⟩
      ·omega
      ·cases e
       exact⟨hc m (by omega),hc k hlt⟩
     have HX:Hid (∀W,Calls Tryz.prog 44 #[.agg #[.int .i64 (F m).d,.int .i64 (F m).f,.int .i64 (F m).c]] W λe w'=>e= .returned (.bool (vx (F m).f (F m).c))∧Below W.heap.size W w'):=λW=>dW _ _ _ W
     have HY:Hid (∀W,Calls Tryz.prog 44 #[.agg #[.int .i64 (F k).d,.int .i64 (F k).f,.int .i64 (F k).c]] W λe w'=>e= .returned (.bool (vx (F k).f (F k).c))∧Below W.heap.size W w'):=λW=>dW _ _ _ W
     have HS:Hid (SS F m k=true↔(vx (F m).f (F m).c=true∧vx (F k).f (F k).c=true∧(F m).d=(F k).d∧(F m).f<(F k).f+(F k).c∧(F k).f<(F m).f+(F m).c)):=Fv (F m) (F k);have HL1:Hid (vx (F m).f (F m).c=true→(0<(F m).c∧0≤(F m).f∧(F m).c≤2147483647∧(F m).f≤2147483647-(F m).c)):=(ZB _ _).1;have HL2:Hid (vx (F k).f (F k).c=true→(0<(F k).c∧0≤(F k).f∧(F k).c≤2147483647∧(F k).f≤2147483647-(F k).c)):=(ZB _ _).1;have hmn:m<n:=by omega
     obtain⟨⟨z0,z1,z2⟩,⟨z3,z4,z5⟩⟩:=HC.out _ hbz;clear hlz hl;generalize vx (F m).f (F m).c=B1 at *;generalize vx (F k).f (F k).c=B2 at *;generalize (F m).d=xd at *;generalize (F m).f=xf at *;generalize (F m).c=xc at *;generalize (F k).d=yd at *;generalize (F k).f=yf at *;generalize (F k).c=yc at *
     go_wp2_with (first
      |((go_at_call 44)
        refine fM wr ?_;refine(HX.out _).mono ?_;rintro e w1 ⟨rfl,hb1⟩;have hbw1:Below w.heap.size w w1:=hbz.trans (hb1.mono hbz.size);(obtain⟨⟨x0,x1,x2⟩,⟨y0,y1,y2⟩⟩:=HC.out w1 hbw1))
      |((go_at_call 44)
        refine(HY.out _).mono ?_;rintro e w2 ⟨rfl,hb2⟩;have hbw2:Below w.heap.size w w2:=hbw1.trans (hb2.mono hbw1.size);(obtain⟨⟨p0,p1,p2⟩,⟨q0,q1,q2⟩⟩:=HC.out w2 hbw2)))
     clear z0 z1 z2 z3 z4 z5 x0 x1 x2 y0 y1 y2 HX HY
     have hno:∀P:Prop,(SS F m k=true↔P)→¬P→SS F m k=false:=λP h hn=>by
      cases e:SS F m k with
      |false=>rfl
      |true=>exact absurd (h.1 e) hn
     have HNO:Hid (∀P:Prop,(SS F m k=true↔P)→¬P→SS F m k=false):=hno;clear hno;cases B1
     ·have HN:Hid (SS F m k=false):=(HNO.out _ HS.out (λh=>by cases h.1):SS F m k=false)
      clear HL1 HL2 HS HNO HC
      go_quiet (fail)
      go_wp2
      go_roundw
      case rel=>exact⟨m+1,hmk,by go_num,(λt ht=>by
       by_cases e:t<m
       ·exact HM.out t e
       ·obtain rfl:t=m:=by omega
        exact HN.out:∀t,t<m+1→SS F t k=false),yK hbw2 _⟩
      case measure=>simp[intOf];omega
     ·cases B2
      ·have HN:Hid (SS F m k=false):=(HNO.out _ HS.out (λh=>by cases h.2.1):SS F m k=false)
       clear HL1 HL2 HS HNO HC
       go_quiet (fail)
       go_wp2
       go_roundw
       case rel=>exact⟨m+1,hmk,by go_num,(λt ht=>by
        by_cases e:t<m
        ·exact HM.out t e
        ·obtain rfl:t=m:=by omega
         exact HN.out:∀t,t<m+1→SS F t k=false),yK hbw2 _⟩
       case measure=>simp[intOf];omega
      ·obtain⟨l1,l2,l3,l4⟩:=HL1.out rfl
       obtain⟨m1,m2,m3,m4⟩:=HL2.out rfl;clear HL1 HL2 HC;by_cases hd:xd=yd
       ·by_cases h4:xf<yf+yc
        ·by_cases h5:yf<xf+xc
         ·have HN:Hid (SS F m k=true):=(HS.out.2 ⟨rfl,rfl,hd,h4,h5⟩:SS F m k=true)
          subst hd;clear HS HNO
          go_quiet (fail)
          go_wp2
          go_ret2
          exact⟨m,k,rfl,.inr ⟨m,k,rfl,rfl,hmk,hlt,HN.out,HA.out,HM.out⟩,yK hbw2 _⟩
         ·have HN:Hid (SS F m k=false):=(HNO.out _ HS.out (λh=>h5 h.2.2.2.2):SS F m k=false)
          have h6:=decide_eq_false h5;subst hd;clear HS HNO
          go_quiet (fail)
          go_wp2
          go_roundw
          case rel=>exact⟨m+1,hmk,by go_num,(λt ht=>by
           by_cases e:t<m
           ·exact HM.out t e
           ·obtain rfl:t=m:=by omega
            exact HN.out:∀t,t<m+1→SS F t k=false),yK hbw2 _⟩
          case measure=>simp[intOf];omega
        ·have HN:Hid (SS F m k=false):=(HNO.out _ HS.out (λh=>h4 h.2.2.2.1):SS F m k=false)
         have h6:=decide_eq_false h4;subst hd;clear HS HNO
         go_quiet (fail)
         go_wp2
         go_roundw
         case rel=>exact⟨m+1,hmk,by go_num,(λt ht=>by
          by_cases e:t<m
          ·exact HM.out t e
          ·obtain rfl:t=m:=by omega
           exact HN.out:∀t,t<m+1→SS F t k=false),yK hbw2 _⟩
         case measure=>simp[intOf];omega
       ·have HN:Hid (SS F m k=false):=(HNO.out _ HS.out (λh=>hd h.2.2.1):SS F m k=false)
        have h6:(xd==yd)=false:=by simpa using hd
        clear HS HNO
        go_quiet (fail)
        go_wp2
        go_roundw
        case rel=>exact⟨m+1,hmk,by go_num,(λt ht=>by
         by_cases e:t<m
         ·exact HM.out t e
         ·obtain rfl:t=m:=by omega
          exact HN.out:∀t,t<m+1→SS F t k=false),yK hbw2 _⟩
        case measure=>simp[intOf];omega
    ·obtain rfl:m=k:=by omega
     clear hl
     go_wp2
     go_roundw
     case rel=>exact⟨m+1,hlt,by go_num,(λt ht=>by
      by_cases e:t<m
      ·exact HA.out t e
      ·obtain rfl:t=m:=by omega
       exact HM.out:∀t,t<m+1→∀a,a<t→SS F a t=false),hbz⟩
     case measure=>simp[intOf];omega
  ·obtain rfl:k=n:=by omega
   clear hl
   go_wp2
   go_ret2
   exact⟨-1,-1,rfl,.inl ⟨rfl,rfl,HA.out⟩,hb⟩
end
section
open Go.ChangeShapes Go.WideShapes Go.ChangeAt Go.RowKit Go.MapKept
variable {E:Nat→Prop}
def fG(l:List R3)(k:Nat):R3:=l.getD k ⟨0,0,0⟩
theorem zaX(l:List R3):∀(k:Nat) (hk:k<l.length),(FF l)[k*3]?=some (.int .i64 l[k].d)∧(FF l)[k*3+1]?=some (.int .i64 l[k].f)∧(FF l)[k*3+2]?=some (.int .i64 l[k].c):=by
 induction l with
 |nil=>intro k hk;cases hk
 |cons r l ih =>
  intro k hk;cases k with
  |zero=>exact⟨rfl,rfl,rfl⟩
  |succ k =>
   have:=ih k (by simpa using hk);have e:FF (r::l)= [.int .i64 r.d,.int .i64 r.f,.int .i64 r.c]++FF l:=rfl;rw[e];refine⟨?_,?_,?_⟩
   ·rw[List.getElem?_append_right (by simp;omega),show(k+1)*3- [Value.int .i64 r.d,.int .i64 r.f,.int .i64 r.c].length=k*3 by simp;omega];exact this.1
   ·rw[List.getElem?_append_right (by simp;omega),show(k+1)*3+1- [Value.int .i64 r.d,.int .i64 r.f,.int .i64 r.c].length=k*3+1 by simp;omega];exact this.2.1
   ·rw[List.getElem?_append_right (by simp;omega),show(k+1)*3+2- [Value.int .i64 r.d,.int .i64 r.f,.int .i64 r.c].length=k*3+2 by simp;omega];exact this.2.2
theorem Kw.rng{w:World}{base:Nat}{v:Value}{l:List R3}(h:Kw w base v l):∃A C,v= .slice A l.length C∧l.length≤C∧C≤maxLen∧uG w A l.length (fG l):=by
 by_cases h0:0<l.length
 ·obtain⟨g,C,e,h1,h2,h3,_,h4⟩:=xl h h0
  refine⟨_,C,e,h1,h2,.inr ⟨g,0,rfl,h3,λi hi=>?_⟩⟩;have:=zaX l i hi;have eF:fG l i=l[i]:=by unfold fG;rw[List.getD_eq_getElem?_getD,List.getElem?_eq_getElem hi];rfl
  rw[eF,Nat.zero_add,h4 _ (by omega),h4 _ (by omega),h4 _ (by omega)];exact this
 ·have e0:l.length=0:=by omega
  rcases h.2 with⟨e,_⟩|⟨b,cap,cur,e,_,_,h1,h2,_⟩
  ·exact⟨none,0,by rw[e,e0],by omega,by unfold maxLen;omega,.inl e0⟩
  ·exact⟨_,cap,e,h1,h2,.inl e0⟩
theorem Uu{l:List R3}{i j:Int}(h:Ov l.length (SS (fG l)) i j):decide (i<0)= !xM l:=by
 rcases h with⟨rfl,_,h⟩|⟨a,b,rfl,_,hab,hbn,hs,_⟩
 ·have :xM l=false:=by
   unfold xM;rw[List.any_eq_false];intro b hb;rw[Bool.not_eq_true,List.any_eq_false];intro a ha;rw[Bool.not_eq_true];exact h b (List.mem_range.1 hb) a (List.mem_range.1 ha)
  rw[this];rfl
 ·have :xM l=true:=by
   unfold xM;exact List.any_eq_true.2 ⟨b,List.mem_range.2 hbn,List.any_eq_true.2 ⟨a,List.mem_range.2 hab,hs⟩⟩
  rw[this,decide_eq_false (by omega)];rfl
theorem qq.pts{w:World}{cb:Nat}{V:CV}{c:Ck}(h:qq E w cb V c)(hn:0<c.parts.length):∃g off C,V.vp= .slice (some ⟨g,off,none⟩) c.parts.length C∧c.parts.length≤C∧C≤maxLen∧g<w.heap.size∧uk w g off c.parts∧vB w w.heap.size (some ⟨g,off,none⟩) c.parts:=by
 obtain⟨us,e1,hp,hin⟩:=h.prts;obtain⟨g,C,e,h1,h2,h3,_,h4⟩:=xl hp hn;refine⟨g,0,C,e,h1,h2,h3,λk hk=>?_,λi hi=>⟨g,0,us[i]'(by omega),rfl,h3,h3,λj hj=>?_,(hin i hi (by omega)).keep (Nat.le_refl _) (λk hk _=>⟨rfl,hk⟩)⟩⟩
 ·rw[show 0+k*8+1=k*8+1 by omega,h4 (k*8+1) (by omega),Qu _ us e1 k hk 1 (by decide),um _ hk]
  rfl
 ·rw[Nat.zero_add,h4 _ (by omega),Qu _ us e1 i hi j hj]
theorem vB.up{w w':World}{A:Option Addr}{ps:List Pt}(h:vB w w.heap.size A ps)(hb:Below w.heap.size w w'):vB w' w'.heap.size A ps:=λi hi=>by
 obtain⟨g,off,u,e,a1,a2,a3,a4⟩:=(h.keep hb) i hi;exact⟨g,off,u,e,Nat.lt_of_lt_of_le a1 hb.size,a2,a3,a4.keep (Nat.le_refl _) (λk hk hP=>⟨rfl,Nat.lt_of_lt_of_le hP hb.size⟩)⟩
theorem KC{o:Oper}{a:Act}(x:Operand)(ho:o.op= .load 32 x)(g:Nat)(hx:a.eval x= .pointer (some ⟨g,0,none⟩)){x0 x1 x2 x3 x4 x5 x6 x7:Value}(w:World){t:Nat}(h:zm w g t #[x0,x1,x2,x3,x4,x5,x6,x7]):(execOp a.eval o).run Tryz.prog w= .ok (.value (.agg #[x0,x1,x2,x3,x4])) w:=by
 have q0:=h.cell 0;have q1:=h.cell 1;have q2:=h.cell 2;have q3:=h.cell 3;have q4:=h.cell 4;simp only[qH,qG,qI]at q0 q1 q2 q3 q4;unfold execOp;simp only[ho,hx];go_simp
end
section
open Go.ChangeShapes Go.WideShapes Go.ChangeAt Go.RowKit Go.MapKept
variable {E:Nat→Prop}
def zcg(w:World)(R:Except Er Km)(e:Ending)(w':World):Prop:=Below w.heap.size w w'∧match R with
 | .error (ec,ek)=>e= .panicked (XT ec ek)
 | .ok _=>e= .returned (.tuple #[])
theorem Vq{w:World}{cb:Nat}{V:CV}{c:Ck}(h:qq E w cb V c)(hwf:Jv c.parts)(hno:c.jour=none∨c.expo=none):Calls Tryz.prog 37 #[.pointer (some ⟨cb,0,none⟩)] w (zcg w (vA c)):=by
 have HR:=ze (show vA c= .error (138,0) by
  unfold vA;rcases hno with e|e
  ·rw[e]
  ·rw[e];cases c.jour<;>rfl)
 have c1:=h.has.cell 1;have c3:=h.has.cell 3;have lcb:=h.has.lt;simp only[qH,qG,qI]at c1 c3;have hno':=jA 138 0 w;cases hj:c.jour with
 |none =>
  rw[hj]at c1;change w.cell? ⟨cb,1,none⟩=some (.int .i64 (-1))at c1;clear hno hj;go_enter Tryz.func37,Tryz.ntmps37
  go_wp2_with (first
   |((go_at_call 62)
     refine hno'.mono ?_;rintro e w3 ⟨rfl,hw3⟩;(obtain rfl:w=w3:=hw3.symm)))
  exact⟨rfl,Below.refl _ _,by rw[HR.out];rfl⟩
 |some j =>
  have hx:c.expo=none:=by
   rcases hno with e|e
   ·rw[hj]at e;cases e
   ·exact e
  rw[hj]at c1;rw[hx]at c3;change w.cell? ⟨cb,1,none⟩=some (.int .i64 (j:Nat))at c1;change w.cell? ⟨cb,3,none⟩=some (.int .i64 (-1))at c3;have hj1:¬((j:Nat):Int)= -1:=by omega
  clear hno hj hx;go_enter Tryz.func37,Tryz.ntmps37
  go_wp2_with (first
   |((go_at_call 62)
     refine hno'.mono ?_;rintro e w3 ⟨rfl,hw3⟩;(obtain rfl:w=w3:=hw3.symm)))
  exact⟨rfl,Below.refl _ _,by rw[HR.out];rfl⟩
theorem Gk{w:World}{cb:Nat}{V:CV}{c:Ck}(h:qq E w cb V c)(hwf:Jv c.parts)(j x:Nat)(hj:c.jour=some j)(hx:c.expo=some x)(hxn0:xB c.parts x):Calls Tryz.prog 37 #[.pointer (some ⟨cb,0,none⟩)] w (zcg w (vA c)):=by
 have hR:vA c=if 256<(xt c.parts x 0 (sz c.parts x)).length then .error (137,c.eat)else if xM (xt c.parts x 0 (sz c.parts x))then .error (136,c.eat)else .ok ⟨c.devs,j,c.parts,x,c.ro⟩:=by
  unfold vA;rw[hj,hx]
 obtain⟨g,op,Cp,evp,hCp1,hCp2,hg,hSz,hPt⟩:=h.pts (by have:=hxn0.1;omega);have c1:=h.has.cell 1;have c2:=h.has.cell 2;have c3:=h.has.cell 3;have c7:=h.has.cell 7;have lcb:=h.has.lt;have hH0:=h.has;have s0:=hSz x hxn0.1;rw[hj]at c1;rw[hx]at c3;rw[hj,hx,evp]at hH0;simp only[List.getElem?_toArray,List.getElem?_cons_zero,List.getElem?_cons_succ,evp]at c1 c2 c3 c7;change w.cell? ⟨cb,1,none⟩=some (.int .i64 (j:Nat))at c1;change w.cell? ⟨cb,3,none⟩=some (.int .i64 (x:Nat))at c3;have hreg:=λW (hb:Below w.heap.size w W)=>YP (hPt.up hb) ⟨hCp1,hCp2⟩ hwf V.vd (.int .i64 (j:Nat)) (.int .i64 (x:Nat)) (.bool c.ro) (x:Nat) 0 (sz c.parts x:Nat) (by have:=hxn0.1;have:=h.few.1;unfold qo;omega) (by unfold qo;omega) (by have:=hxn0.2.2;unfold qo;omega)
 obtain⟨NP,hNP⟩:∃NP,NP=c.parts.length:=⟨_,rfl⟩
 have hxn:x<NP:=by rw[hNP];exact hxn0.1
 have hH:zm w cb 56 #[V.vd,.int .i64 (j:Nat),.slice (some ⟨g,op,none⟩) NP Cp,.int .i64 (x:Nat),.bool c.ro,.map (some V.mb),V.vb,.int .i64 c.eat]:=by rw[hNP];exact hH0
 rw[←hNP]at c2 hCp1 hreg
 obtain⟨S,hS⟩:∃S,S=sz c.parts x:=⟨_,rfl⟩
 rw[←hS]at s0 hR hreg;generalize xt c.parts (x:Nat) 0 (S:Nat)=rg at *;have HR:=ze hR;have hj1:¬((j:Nat):Int)= -1:=by omega
 have hx1:¬((x:Nat):Int)= -1:=by omega
 have hny:=qL 138 0 w;clear hNP hS hR hH0 hSz hPt evp;go_enter Tryz.func37,Tryz.ntmps37
 go_wp2_with (first
  |((go_at_call 62)
    refine hny.mono ?_;rintro e w3 ⟨rfl,hw3⟩;(obtain rfl:w=w3:=hw3.symm)))
 refine wp_region_held_drew (S:=λwz=>Below w.heap.size w wz) (by kernel_rfl) ((Below.refl _ w).drew) (λhHeld=>?_);refine zw 0 (some 20) (.pointer (some ⟨cb,0,none⟩)) hHeld ?_;simp only[Act.put,zh,zf,zg];refine zw 1 (some 21) (.pointer (some ⟨cb,0,none⟩)) hHeld ?_;simp only[Act.put,zh,zf,zg];refine zw 2 (some 22) (.pointer (some ⟨cb,0,none⟩)) hHeld ?_;simp only[Act.put,zh,zf,zg];refine zD 3 (some 23) (.agg #[V.vd,.int .i64 (j:Nat),.slice (some ⟨g,op,none⟩) NP Cp,.int .i64 (x:Nat),.bool c.ro]) rfl rfl (λwz hz=>KC _ rfl cb rfl wz (hH.below hz hH.lt)) hHeld ?_;simp only[Act.put,zh,zf,zg];refine zw 4 (some 24) (.pointer (some ⟨cb,0,none⟩)) hHeld ?_;simp only[Act.put,zh,zf,zg];refine zw 5 (some 25) (.pointer (some ⟨cb,0,none⟩)) hHeld ?_;simp only[Act.put,zh,zf,zg];refine zw 6 (some 26) (.pointer (some ⟨cb,0,none⟩)) hHeld ?_;simp only[Act.put,zh,zf,zg];refine zw 7 (some 27) (.pointer (some ⟨cb,3,none⟩)) hHeld ?_;simp only[Act.put,zh,zf,zg];refine zD 8 (some 28) (.int .i64 (x:Nat)) rfl rfl (λwz hz=>by have z0:=za hz c3;unfold execOp;go_simp) hHeld ?_;simp only[Act.put,zh,zf,zg];refine zw 9 (some 29) (.pointer (some ⟨cb,0,none⟩)) hHeld ?_;simp only[Act.put,zh,zf,zg];refine zw 10 (some 30) (.pointer (some ⟨cb,0,none⟩)) hHeld ?_;simp only[Act.put,zh,zf,zg];refine zw 11 (some 31) (.pointer (some ⟨cb,0,none⟩)) hHeld ?_;simp only[Act.put,zh,zf,zg];refine zw 12 (some 32) (.pointer (some ⟨cb,2,none⟩)) hHeld ?_;simp only[Act.put,zh,zf,zg];refine zD 13 (some 33) (.slice (some ⟨g,op,none⟩) NP Cp) rfl rfl (λwz hz=>by have z0:=za hz c2;unfold execOp;go_simp) hHeld ?_;simp only[Act.put,zh,zf,zg];refine zw 14 (some 34) (.pointer (some ⟨cb,0,none⟩)) hHeld ?_;simp only[Act.put,zh,zf,zg];refine zw 15 (some 35) (.pointer (some ⟨cb,0,none⟩)) hHeld ?_;simp only[Act.put,zh,zf,zg];refine zw 16 (some 36) (.pointer (some ⟨cb,0,none⟩)) hHeld ?_;simp only[Act.put,zh,zf,zg];refine zw 17 (some 37) (.pointer (some ⟨cb,3,none⟩)) hHeld ?_;simp only[Act.put,zh,zf,zg];refine zD 18 (some 38) (.int .i64 (x:Nat)) rfl rfl (λwz hz=>by have z0:=za hz c3;unfold execOp;go_simp) hHeld ?_;simp only[Act.put,zh,zf,zg];refine zD 19 (some 39) (.pointer (some ⟨g,op+x*8,none⟩)) rfl rfl (λwz _=>zE _ _ rfl g op x NP Cp rfl rfl hxn wz) hHeld ?_;simp only[Act.put,zh,zf,zg];refine zw 20 (some 40) (.pointer (some ⟨g,op+x*8+1,none⟩)) hHeld ?_;simp only[Act.put,zh,zf,zg];refine zD 21 (some 41) (.int .i64 (S:Nat)) rfl rfl (λwz hz=>by have z0:=za hz s0;unfold execOp;go_simp) hHeld ?_;simp only[Act.put,zh,zf,zg];refine jn 22 (some 42) 11 #[.agg #[V.vd,.int .i64 (j:Nat),.slice (some ⟨g,op,none⟩) NP Cp,.int .i64 (x:Nat),.bool c.ro],.int .i64 (x:Nat),.int .i64 0,.int .i64 (S:Nat)] (by kernel_rfl) rfl rfl (by rfl) (by kernel_rfl) (hreg _ (zr (Below.refl _ w))) ?_;rintro e w4 ⟨v,rfl,hrg,hb4',hl257⟩;have hb4:Below w.heap.size w w4:=(zr (Below.refl _ w)).trans hb4';obtain⟨Ar,Cr,rfl,hr1,hr2,hrn⟩:=hrg.rng;refine .inl ⟨_,rfl,hb4,?_⟩;simp only[Act.put,zh,zf,zg];refine zD 23 (some 2) (.slice Ar rg.length Cr) rfl rfl (λ_ _=>rfl) hb4 ?_;simp only[Act.put,zh,zf,zg];refine wpAnyH_done (by kernel_rfl) ?_ _;have d7:=za hb4 c7;have ld:cb<w4.heap.size:=Nat.lt_of_lt_of_le lcb hb4.size;have hov:=Fs Ar rg.length Cr (fG rg) w4 (by omega) hr1 hr2 hrn;have hOV:=ze (λi j h=>Uu (l:=rg) (i:=i) (j:=j) h)
 obtain⟨RL,hRL⟩:∃RL,RL=rg.length:=⟨_,rfl⟩
 rw[←hRL]at HR hr1 hl257 hov hOV ⊢;clear hrg hb4' hHeld hrn c1 c2 c3 c7 s0 hreg hRL hny hH;by_cases h256:256<RL
 ·have HR:=ze (HR.out.trans (if_pos h256))
  have hle:¬((RL:Nat):Int)≤256:=by omega
  have hno:=jA 137 c.eat w4
  go_wp2_with (first
   |((go_at_call 62)
     refine hno.mono ?_;rintro e w3 ⟨rfl,hw3⟩;(obtain rfl:w4=w3:=hw3.symm)))
  exact⟨rfl,hb4,by rw[HR.out];rfl⟩
 ·have HR:=ze (HR.out.trans (if_neg h256))
  have hle:((RL:Nat):Int)≤256:=by omega
  cases hO:xM rg with
  |true =>
   rw[hO]at HR hOV;have HR:=ze (HR.out.trans (if_pos rfl));clear hO
   go_wp2_with (first
    |((go_at_call 62)
      refine qN w4 ?_;refine(qL 137 c.eat w4).mono ?_;rintro e w3 ⟨rfl,hw3⟩;(obtain rfl:w4=w3:=hw3.symm))
    |((go_at_call 65)
      refine hov.mono ?_;rintro e w5 ⟨i,j',rfl,hi,hb5⟩;have hneg:decide (i<0)=false:=hOV.out i j' hi;have d75:=za hb5 d7;(have ld5:cb<w5.heap.size:=Nat.lt_of_lt_of_le ld hb5.size))
    |((go_at_call 62)
      refine(jA 136 c.eat w5).mono ?_;rintro e w3 ⟨rfl,hw3⟩;(obtain rfl:w5=w3:=hw3.symm)))
   exact⟨rfl,hb4.trans (hb5.mono hb4.size),by rw[HR.out];rfl⟩
  |false =>
   rw[hO]at HR hOV;have HR:=ze (HR.out.trans (if_neg (by decide)));clear hO
   go_wp2_with (first
    |((go_at_call 62)
      refine qN w4 ?_;refine(qL 137 c.eat w4).mono ?_;rintro e w3 ⟨rfl,hw3⟩;(obtain rfl:w4=w3:=hw3.symm))
    |((go_at_call 65)
      refine hov.mono ?_;rintro e w5 ⟨i,j',rfl,hi,hb5⟩;have hneg:decide (i<0)=true:=hOV.out i j' hi;have d75:=za hb5 d7;(have ld5:cb<w5.heap.size:=Nat.lt_of_lt_of_le ld hb5.size))
    |((go_at_call 62)
      refine(qL 136 c.eat w5).mono ?_;rintro e w3 ⟨rfl,hw3⟩;(obtain rfl:w5=w3:=hw3.symm)))
   go_end0
   exact⟨hb4.trans (hb5.mono hb4.size),by rw[HR.out]⟩
theorem zaW{w:World}{cb:Nat}{V:CV}{c:Ck}(h:qq E w cb V c)(hwf:Jv c.parts)(hx:∀x,c.expo=some x→xB c.parts x):Calls Tryz.prog 37 #[.pointer (some ⟨cb,0,none⟩)] w (zcg w (vA c)):=by
 cases hj:c.jour with
 |none=>exact Vq h hwf (.inl hj)
 |some j =>
  cases he:c.expo with
  |none=>exact Vq h hwf (.inr he)
  |some x=>exact Gk h hwf j x hj he (hx x he)
end
end Go.Proofs.YteaddcdpgcgggaaGreatDoor
